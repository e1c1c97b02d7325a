/- How many nodes there are from one on: code and specification. -/
import Derived.Test.YtbipgmikgokfpaaDoorDepthWalk
namespace Go.Proofs.YtbipgmikgokfpaaDoor
open Go.RowKit Go.Joins
set_option linter.unusedVariables false

theorem Vis.take_len {ns : List TN} {ks : List Int} {l lm : List Nat} {d dm : Nat} (h : Vis ns ks l d) (m : Nat) (hm : Vis ns (ks.take m) lm dm) : lm.length ≤ l.length := by
  rw [← List.take_append_drop m ks] at h
  obtain ⟨a1, a2, b1, b2, v1, v2, rfl, rfl⟩ := h.split
  obtain ⟨rfl, _⟩ := v1.det hm
  simp
/-- what a call that measures a part answers -/
def SizeRes (ns : List TN) (root k r c : Int) : Prop := (¬ TreeOkP ns root ∧ r = 0 ∧ c = 1) ∨ (TreeOkP ns root ∧ ¬ (0 ≤ k ∧ k < ns.length) ∧ r = 0 ∧ c = 13) ∨ (TreeOkP ns root ∧ (0 ≤ k ∧ k < ns.length) ∧ (∃ l d, Vis ns [k] l d ∧ r = (l.length : Int)) ∧ c = 0)
theorem SizeRes.det {ns : List TN} {root k r c r' c' : Int} (h : SizeRes ns root k r c) (h' : SizeRes ns root k r' c') : r = r' ∧ c = c' := by
  rcases h with ⟨a, rfl, rfl⟩ | ⟨a, b, rfl, rfl⟩ | ⟨a, b, ⟨l, d, v, rfl⟩, rfl⟩ <;> rcases h' with ⟨a', rfl, rfl⟩ | ⟨a', b', rfl, rfl⟩ | ⟨a', b', ⟨l', d', v', rfl⟩, rfl⟩
  all_goals first | exact ⟨rfl, rfl⟩ | exact absurd a a' | exact absurd a' a | exact absurd b b' | exact absurd b' b | exact ⟨by rw [(v.det v').1], rfl⟩

set_option maxHeartbeats 1000000 in
set_option maxRecDepth 100000 in
theorem size_any (ns : List TN) (L : Lay) (loc : Nat → Nat) (A : Nat → Prop) (w : World) (l0 : List Nat) (hbr : Hid (∀ y ∈ l0, BrIn w A L ns loc y)) (hks : Hid (∀ n ∈ ns, n.kids.length ≤ 1048576)) : ∀ (D d x : Nat) (l : List Nat), d ≤ D → Vis ns [(x : Int)] l d → (∀ y ∈ l, y ∈ l0) → l.length ≤ 1000 →
    Calls Tryd.prog 55 #[.pointer (some ⟨loc x, 0, none⟩)] w fun e w' => e = .returned (.int .i64 (l.length : Int)) ∧ w' = w := by
  intro D
  induction D with
  | zero =>
    intro d x l hd hv
    obtain ⟨_, _, _, _, _, _, _, _, _, _, rfl⟩ := hv.inv
    omega
  | succ D ih =>
    intro d x l hd hv hl0 hd1
    obtain ⟨n, l1, l2, d1, d2, h0, hx, v1, v2, rfl, rfl⟩ := hv.inv
    cases v2
    rw [Int.toNat_natCast] at hx hl0
    rw [List.append_nil] at hl0
    obtain ⟨n', pb, cb, hx', _, c0, c1, c2, c3, c4, c5, c7, hP, _⟩ := unhide hbr x (hl0 x (by simp))
    rw [hx] at hx'
    obtain rfl := Option.some.inj hx'
    rw [show max (d1 + 1) 0 = d1 + 1 by omega] at hd
    rw [List.append_nil] at hd1 ⊢
    have hl1 : l1.length ≤ 1000 := by rw [List.length_cons] at hd1; omega
    rw [show (((x : Int).toNat :: l1).length : Int) = (l1.length : Int) + 1 by rw [List.length_cons]; omega]
    clear hd1
    have IH := hide ih
    have HP := hide hP
    have HV := hide v1
    have HL0 : Hid (∀ y ∈ l1, y ∈ l0) := hide (fun y hy => hl0 y (by simp [hy]))
    have hkl : n.kids.length ≤ 1048576 := unhide hks n (List.mem_of_getElem? hx)
    clear ih hP v1 hl0 hv c0 c1 c2 c3 c4 c5
    generalize loc x = gx at c7
    go_enter Tryd.func55, Tryd.ntmps55
    go_wp2
    go_loopw [3, 11] (fun s i wx => ∃ (m dm : Nat) (lm : List Nat), m ≤ n.kids.length ∧ i = .int .i64 m ∧ s = .int .i64 ((lm.length : Int) + 1) ∧ lm.length ≤ l1.length ∧ Hid (Vis ns (n.kids.take m) lm dm) ∧ Hid (wx = w)) (fun _ i _ => n.kids.length - (intOf i).toNat)
    case atStart => exact ⟨0, 0, [], by omega, rfl, rfl, by simp, hide (by simpa using Vis.nil), hide rfl⟩
    case round =>
      obtain ⟨m, dm, lm, hm, rfl, rfl, hdm, hvm, hw⟩ := hrel
      obtain rfl := unhide hw
      by_cases hlt : m < n.kids.length
      · have hlt' : m < (n.kids.map fun j => loc j.toNat).length := by rw [List.length_map]; exact hlt
        obtain ⟨bp, hpb, _, y9⟩ := unhide HP m hlt'
        subst hpb
        have y0 : wr.cell? ⟨bp, m, none⟩ = some (.pointer (some ⟨loc n.kids[m].toNat, 0, none⟩)) := by
          rw [List.getElem_map] at y9
          exact y9
        clear y9
        have hj : Hid (n.kids[m]? = some n.kids[m]) := hide (List.getElem?_eq_getElem hlt)
        obtain ⟨lj, dj, vj, hlj, hdj, hj0, hll⟩ := (unhide HV).at (unhide hj)
        have hjx : n.kids[m] = ((n.kids[m].toNat : Nat) : Int) := (Int.toNat_of_nonneg hj0).symm
        have HC := hide (unhide IH dj n.kids[m].toNat lj (by omega) (by rw [← hjx]; exact vj) (fun y hy => unhide HL0 y (hlj y hy)) (by omega))
        have hnv := hide ((unhide hvm).take_succ (unhide hj) vj)
        have HLE : Hid (lm.length + lj.length ≤ l1.length) := hide (by
          have h1 := (unhide HV).take_len (m + 1) (unhide hnv)
          rw [List.length_append] at h1; exact h1)
        clear vj hlj hjx hlt'
        generalize loc n.kids[m].toNat = gj at y0 HC
        go_wp2_with fail
        refine (unhide HC).mono ?_
        rintro e w9 ⟨rfl, rfl⟩
        have hll2 := unhide HLE
        have hap : ((lm ++ lj).length : Int) = (lm.length : Int) + (lj.length : Int) := by rw [List.length_append]; omega
        have HAP := hide hap
        clear hap
        go_wp2
        go_roundw
        case rel => exact ⟨m + 1, max dm dj, lm ++ lj, by omega, by go_num, by rw [unhide HAP]; go_num, by rw [List.length_append]; omega, hide (unhide hnv), hide trivial⟩
        case measure => simp [intOf]; omega
      · have hdd : lm = l1 := by
          have h1 := unhide hvm
          rw [show m = n.kids.length by omega, List.take_length] at h1
          exact (h1.det (unhide HV)).1
        subst hdd
        go_wp2
        go_ret
        exact ⟨rfl, rfl⟩


set_option maxRecDepth 100000 in
theorem implSizeOf_any (ns : List TN) (root k : Int) (L : Lay) (w : World) (hN : NodesAt w L ns) (hsm : Small ns) (htab : Hid (TabAt w 0 srcWords)) :
    Calls Tryd.prog 19 #[.agg #[.slice L.p ns.length L.cap, .int .i64 root], .int .i64 k] w fun e w' => ∃ r c : Int, e = .returned (.tuple #[.int .i64 r, .int .i64 c]) ∧ SizeRes ns root k r c ∧ Below w.heap.size w w' := by
  have HN := hide hN
  have HS := hide hsm
  clear hN hsm
  by_cases hk : 0 ≤ k ∧ k < ns.length
  · obtain ⟨a, rfl⟩ : ∃ a : Nat, k = (a : Int) := ⟨k.toNat, by omega⟩
    go_enter Tryd.func19, Tryd.ntmps19
    go_wp2_with fail
    refine (branchOf_in ns root a L _ ((unhide HN).later (nx_alloc _ _)) (unhide HS) (hide ((unhide htab).later (nx_alloc _ _))) (by omega)).mono ?_
    rintro e w1 ⟨hb, hres⟩
    have hB := hide (nx_trans (nx_alloc _ _) hb)
    clear hb
    rcases hres with ⟨rfl, hno⟩ | ⟨G, B, loc, l, d, hT, hG, x, rfl, rfl⟩
    · have hD : Hid (SizeRes ns root (a : Int) 0 1) := hide (.inl ⟨hno, rfl, rfl⟩)
      clear hno
      go_wp2
      go_ret2
      exact ⟨0, 1, rfl, unhide hD, unhide hB⟩
    · obtain ⟨lx, dx, vx, hlx, _, hll⟩ := hT.2.1.1.sub x (hT.2.2.2 x (by omega))
      have hD : Hid (SizeRes ns root (x : Int) (lx.length : Int) 0) := hide (.inr (.inr ⟨⟨l, d, hT⟩, hk, ⟨lx, dx, vx, rfl⟩, rfl⟩))
      have hd : lx.length ≤ 1000 := by
        have h2 := nodup_le ns.length l hT.2.1.2.1 hT.2.1.1.lt
        have := hT.1
        omega
      have HC := hide (size_any ns L loc _ w1 l (hide hG.br) (hide (fun n hn => ((unhide HS).2 n hn).2.2.1)) dx dx x lx (Nat.le_refl _) vx hlx hd)
      clear hT hG vx hlx hll
      generalize loc x = gx at HC
      go_wp2_with fail
      refine (unhide HC).mono ?_
      rintro e w9 ⟨rfl, rfl⟩
      go_wp2
      go_ret2
      exact ⟨_, 0, rfl, unhide hD, unhide hB⟩
  · go_enter Tryd.func19, Tryd.ntmps19
    go_wp2_with fail
    refine (branchOf_out ns root k L _ ((unhide HN).later (nx_alloc _ _)) (unhide HS) (hide ((unhide htab).later (nx_alloc _ _))) hk).mono ?_
    rintro e w1 ⟨hb, hres⟩
    have hB := hide (nx_trans (nx_alloc _ _) hb)
    clear hb
    rcases hres with ⟨rfl, hno⟩ | ⟨rfl, hok⟩
    · have hD : Hid (SizeRes ns root k 0 1) := hide (.inl ⟨hno, rfl, rfl⟩)
      clear hno hk
      go_wp2
      go_ret2
      exact ⟨0, 1, rfl, unhide hD, unhide hB⟩
    · have hD : Hid (SizeRes ns root k 0 13) := hide (.inr (.inl ⟨hok, hk, rfl, rfl⟩))
      clear hok hk
      go_wp2
      go_ret2
      exact ⟨0, 13, rfl, unhide hD, unhide hB⟩

end Go.Proofs.YtbipgmikgokfpaaDoor
