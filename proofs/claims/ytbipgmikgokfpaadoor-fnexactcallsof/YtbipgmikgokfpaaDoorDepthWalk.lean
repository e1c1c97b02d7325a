/- How deep a tree is: code and specification. -/
import Derived.Test.YtbipgmikgokfpaaDoorGrowWalk3
import Derived.Test.YtbipgmikgokfpaaDoorSWalk3
namespace Go.Proofs.YtbipgmikgokfpaaDoor
open Go.RowKit Go.Joins
set_option linter.unusedVariables false

theorem Vis.depth_le {ns : List TN} {ks : List Int} {l : List Nat} {d : Nat} (h : Vis ns ks l d) : d ≤ l.length := by
  induction h with
  | nil => simp
  | cons j x ks l1 l2 d1 d2 h0 hx h1 h2 ih1 ih2 => simp; omega
/-- what a call that measures depth answers -/
def DepthRes (ns : List TN) (root r c : Int) : Prop := (¬ TreeOkP ns root ∧ r = 0 ∧ c = 1) ∨ ∃ l d, TreeP ns root l d ∧ r = ((d : Nat) : Int) ∧ c = 0
theorem DepthRes.det {ns : List TN} {root r c r' c' : Int} (h : DepthRes ns root r c) (h' : DepthRes ns root r' c') : r = r' ∧ c = c' := by
  rcases h with ⟨a, rfl, rfl⟩ | ⟨l, d, a, rfl, rfl⟩ <;> rcases h' with ⟨a', rfl, rfl⟩ | ⟨l', d', a', rfl, rfl⟩
  · exact ⟨rfl, rfl⟩
  · exact absurd ⟨_, _, a'⟩ a
  · exact absurd ⟨_, _, a⟩ a'
  · obtain ⟨_, rfl⟩ := a.2.1.det a'.2.1
    exact ⟨rfl, rfl⟩

theorem Vis.take_succ {ns : List TN} {ks : List Int} {m : Nat} {j : Int} {l l' : List Nat} {d d' : Nat} (h : Vis ns (ks.take m) l d) (hj : ks[m]? = some j) (h' : Vis ns [j] l' d') : Vis ns (ks.take (m + 1)) (l ++ l') (max d d') := by
  obtain ⟨hm, e⟩ := List.getElem?_eq_some_iff.1 hj
  rw [List.take_succ_eq_append_getElem hm, e]
  exact h.append h'
theorem Vis.at {ns : List TN} {ks : List Int} {l : List Nat} {d m : Nat} {j : Int} (h : Vis ns ks l d) (hj : ks[m]? = some j) : ∃ l' d', Vis ns [j] l' d' ∧ (∀ y ∈ l', y ∈ l) ∧ d' ≤ d ∧ 0 ≤ j ∧ l'.length ≤ l.length := by
  obtain ⟨hm, e⟩ := List.getElem?_eq_some_iff.1 hj
  have e1 : ks = ks.take m ++ ([j] ++ ks.drop (m + 1)) := by
    rw [← e]
    simp
  rw [e1] at h
  obtain ⟨a1, a2, b1, b2, v1, v2, rfl, rfl⟩ := h.split
  obtain ⟨c1, c2, f1, f2, u1, u2, rfl, rfl⟩ := v2.split
  refine ⟨c1, f1, u1, fun y hy => by simp [hy], by omega, (u1.tops j (by simp)).1, by simp; omega⟩

set_option maxHeartbeats 1000000 in
set_option maxRecDepth 100000 in
theorem depth_any (ns : List TN) (L : Lay) (loc : Nat → Nat) (A : Nat → Prop) (w : World) (l0 : List Nat) (hbr : Hid (∀ y ∈ l0, BrIn w A L ns loc y)) (hks : Hid (∀ n ∈ ns, n.kids.length ≤ 1048576)) : ∀ (D d x : Nat) (l : List Nat), d ≤ D → Vis ns [(x : Int)] l d → (∀ y ∈ l, y ∈ l0) → d ≤ 1000 →
    Calls Tryd.prog 58 #[.pointer (some ⟨loc x, 0, none⟩)] w fun e w' => e = .returned (.int .i64 (d : Int)) ∧ w' = w := by
  intro D
  induction D with
  | zero =>
    intro d x l hd hv
    obtain ⟨_, _, _, _, _, _, _, _, _, _, rfl⟩ := hv.inv
    omega
  | succ D ih =>
    intro d x l hd hv hl0 hd1
    obtain ⟨n, l1, l2, d1, d2, h0, hx, v1, v2, rfl, rfl⟩ := hv.inv
    cases v2
    rw [Int.toNat_natCast] at hx hl0
    rw [List.append_nil] at hl0
    obtain ⟨n', pb, cb, hx', _, c0, c1, c2, c3, c4, c5, c7, hP, _⟩ := unhide hbr x (hl0 x (by simp))
    rw [hx] at hx'
    obtain rfl := Option.some.inj hx'
    rw [show max (d1 + 1) 0 = d1 + 1 by omega] at hd hd1 ⊢
    have IH := hide ih
    have HP := hide hP
    have HV := hide v1
    have HL0 : Hid (∀ y ∈ l1, y ∈ l0) := hide (fun y hy => hl0 y (by simp [hy]))
    have hkl : n.kids.length ≤ 1048576 := unhide hks n (List.mem_of_getElem? hx)
    clear ih hP v1 hl0 hv c0 c1 c2 c3 c4 c5
    generalize loc x = gx at c7
    go_enter Tryd.func58, Tryd.ntmps58
    go_wp2
    go_loopw [3, 11] (fun s i wx => ∃ (m dm : Nat) (lm : List Nat), m ≤ n.kids.length ∧ i = .int .i64 m ∧ s = .int .i64 (dm : Int) ∧ dm ≤ d1 ∧ Hid (Vis ns (n.kids.take m) lm dm) ∧ Hid (wx = w)) (fun _ i _ => n.kids.length - (intOf i).toNat)
    case atStart => exact ⟨0, 0, [], by omega, rfl, rfl, by omega, hide (by simpa using Vis.nil), hide rfl⟩
    case round =>
      obtain ⟨m, dm, lm, hm, rfl, rfl, hdm, hvm, hw⟩ := hrel
      obtain rfl := unhide hw
      by_cases hlt : m < n.kids.length
      · have hlt' : m < (n.kids.map fun j => loc j.toNat).length := by rw [List.length_map]; exact hlt
        obtain ⟨bp, hpb, _, y9⟩ := unhide HP m hlt'
        subst hpb
        have y0 : wr.cell? ⟨bp, m, none⟩ = some (.pointer (some ⟨loc n.kids[m].toNat, 0, none⟩)) := by
          rw [List.getElem_map] at y9
          exact y9
        clear y9
        have hj : Hid (n.kids[m]? = some n.kids[m]) := hide (List.getElem?_eq_getElem hlt)
        obtain ⟨lj, dj, vj, hlj, hdj, hj0, _⟩ := (unhide HV).at (unhide hj)
        have hjx : n.kids[m] = ((n.kids[m].toNat : Nat) : Int) := (Int.toNat_of_nonneg hj0).symm
        have HC := hide (unhide IH dj n.kids[m].toNat lj (by omega) (by rw [← hjx]; exact vj) (fun y hy => unhide HL0 y (hlj y hy)) (by omega))
        have hnv := hide ((unhide hvm).take_succ (unhide hj) vj)
        clear vj hlj hjx hlt'
        generalize loc n.kids[m].toNat = gj at y0 HC
        go_wp2_with fail
        refine (unhide HC).mono ?_
        rintro e w9 ⟨rfl, rfl⟩
        have hmx : (if dm < dj then (dj : Int) else (dm : Int)) = ((max dm dj : Nat) : Int) := by split <;> omega
        go_wp2
        go_roundw
        case rel => exact ⟨m + 1, max dm dj, lm ++ lj, by omega, by go_num, rfl, by omega, hide (unhide hnv), hide trivial⟩
        case measure => simp [intOf]; omega
      · have hdd : dm = d1 := by
          have h1 := unhide hvm
          rw [show m = n.kids.length by omega, List.take_length] at h1
          exact (h1.det (unhide HV)).2
        subst hdd
        go_wp2
        go_ret
        exact ⟨rfl, rfl⟩

set_option maxRecDepth 100000 in
theorem implTreeDepth_any (ns : List TN) (root : Int) (L : Lay) (w : World) (hN : NodesAt w L ns) (hsm : Small ns) (htab : Hid (TabAt w 0 srcWords)) :
    Calls Tryd.prog 21 #[.agg #[.slice L.p ns.length L.cap, .int .i64 root]] w fun e w' => ∃ r c : Int, e = .returned (.tuple #[.int .i64 r, .int .i64 c]) ∧ DepthRes ns root r c ∧ Below w.heap.size w w' := by
  have HN := hide hN
  have HS := hide hsm
  clear hN hsm
  go_enter Tryd.func21, Tryd.ntmps21
  go_wp2_with fail
  refine (rootOf_any ns root L _ ((unhide HN).later (nx_alloc _ _)) (unhide HS) (hide ((unhide htab).later (nx_alloc _ _)))).mono ?_
  rintro e w1 ⟨hb, hres⟩
  have hB := hide (nx_trans (nx_alloc _ _) hb)
  clear hb
  rcases hres with ⟨rfl, hno⟩ | ⟨G, B, loc, l, d, hT, hG, x, hxr, rfl⟩
  · have hD : Hid (DepthRes ns root 0 1) := hide (.inl ⟨hno, rfl, rfl⟩)
    clear hno
    go_wp2
    go_ret2
    exact ⟨0, 1, rfl, unhide hD, unhide hB⟩
  · have hD : Hid (DepthRes ns root ((d : Nat) : Int) 0) := hide (.inr ⟨l, d, hT, rfl, rfl⟩)
    have hd : d ≤ 1000 := by
      have h1 := hT.2.1.1.depth_le
      have h2 := nodup_le ns.length l hT.2.1.2.1 hT.2.1.1.lt
      have := hT.1
      omega
    have hv := hT.2.1.1
    rw [← hxr] at hv
    have HC := hide (depth_any ns L loc _ w1 l (hide hG.br) (hide (fun n hn => ((unhide HS).2 n hn).2.2.1)) d d x l (Nat.le_refl _) hv (fun y hy => hy) hd)
    clear hT hG hxr hv
    generalize loc x = gx at HC
    go_wp2_with fail
    refine (unhide HC).mono ?_
    rintro e w9 ⟨rfl, rfl⟩
    go_wp2
    go_ret2
    exact ⟨_, 0, rfl, unhide hD, unhide hB⟩

theorem specTreeDepth_any (ns : List TN) (root : Int) (L : Lay) (w : World) (hN : NodesAt w L ns) (hsm : Small ns) :
    Calls Tryd.prog 30 #[.agg #[.slice L.p ns.length L.cap, .int .i64 root]] w fun e w' => ∃ r c : Int, e = .returned (.tuple #[.int .i64 r, .int .i64 c]) ∧ DepthRes ns root r c ∧ Below w.heap.size w w' := by
  have HN := hide hN
  have HS := hide hsm
  clear hN hsm
  go_enter Tryd.func30, Tryd.ntmps30
  go_wp2_with fail
  refine (l03Tree_any ns root L _ ((unhide HN).later (nx_alloc _ _)) (unhide HS)).mono ?_
  rintro e w1 ⟨hb, hres⟩
  have hB := hide (nx_trans (nx_alloc _ _) hb)
  clear hb
  rcases hres with ⟨dp, rfl, hno⟩ | ⟨l, d, rfl, hT⟩
  · have hD : Hid (DepthRes ns root 0 1) := hide (.inl ⟨hno, rfl, rfl⟩)
    clear hno
    go_wp2
    go_ret2
    exact ⟨0, 1, rfl, unhide hD, unhide hB⟩
  · have hD : Hid (DepthRes ns root ((d : Nat) : Int) 0) := hide (.inr ⟨l, d, hT, rfl, rfl⟩)
    clear hT
    go_wp2
    go_ret2
    exact ⟨_, 0, rfl, unhide hD, unhide hB⟩

end Go.Proofs.YtbipgmikgokfpaaDoor
