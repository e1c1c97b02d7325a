/- How many nodes there are from one on, which one is a node's parent: the specification's side. -/
import Derived.Test.YtbipgmikgokfpaaDoorSizeWalk
namespace Go.Proofs.YtbipgmikgokfpaaDoor
open Go.RowKit Go.Joins
set_option linter.unusedVariables false

set_option maxRecDepth 100000 in
theorem l03Place_any (ns : List TN) (root k : Int) (L : Lay) (w : World) (hN : NodesAt w L ns) (hsm : Small ns) :
    Calls Tryd.prog 71 #[.agg #[.slice L.p ns.length L.cap, .int .i64 root], .int .i64 k] w fun e w' => ∃ c : Int, e = .returned (.int .i64 c) ∧ ((¬ TreeOkP ns root ∧ c = 1) ∨ (TreeOkP ns root ∧ ¬ (0 ≤ k ∧ k < ns.length) ∧ c = 13) ∨ (TreeOkP ns root ∧ (0 ≤ k ∧ k < ns.length) ∧ c = 0)) ∧ Below w.heap.size w w' := by
  have HN := hide hN
  have HS := hide hsm
  have hl := hsm.1
  clear hN hsm
  go_enter Tryd.func71, Tryd.ntmps71
  go_wp2_with fail
  refine (specTreeOK_any ns root L _ ((unhide HN).later (nx_alloc _ _)) (unhide HS)).mono ?_
  rintro e w1 ⟨b, rfl, hb, hb1⟩
  have hB := hide (nx_trans (nx_alloc _ _) hb1)
  have c1 : ∀ o, w1.cell? ⟨w.heap.size, o, none⟩ = (w.alloc (.cells #[.slice L.p ns.length L.cap, .int .i64 root] 25)).cell? ⟨w.heap.size, o, none⟩ := fun o => hb1.cell (p := ⟨w.heap.size, o, none⟩) (by simp)
  have d0 : w1.cell? ⟨w.heap.size, 0, none⟩ = some (.slice L.p ns.length L.cap) := by rw [c1]; simp
  clear hb1 c1
  cases b
  · have hD : Hid (¬ TreeOkP ns root) := hide (fun h => (by have := hb.2 h; cases this))
    clear hb
    go_wp2
    go_ret
    exact ⟨1, rfl, .inl ⟨unhide hD, rfl⟩, unhide hB⟩
  have HOK := hide (hb.1 rfl)
  clear hb
  by_cases hk : 0 ≤ k ∧ k < ns.length
  · go_wp2_with fail
    refine (l01In_is k 0 ((ns.length : Int) - 1) true _ (by simp; omega)).mono ?_
    rintro e w1 ⟨rfl, rfl⟩
    have HK := hide hk
    clear hk
    go_wp2
    go_ret
    exact ⟨0, rfl, .inr (.inr ⟨unhide HOK, unhide HK, rfl⟩), unhide hB⟩
  · go_wp2_with fail
    refine (l01In_is k 0 ((ns.length : Int) - 1) false _ (by simp; omega)).mono ?_
    rintro e w1 ⟨rfl, rfl⟩
    have HK := hide hk
    clear hk
    go_wp2
    go_ret
    exact ⟨13, rfl, .inr (.inl ⟨unhide HOK, unhide HK, rfl⟩), unhide hB⟩

theorem wrapS (x : Int) (h0 : 0 ≤ x) (h1 : x ≤ 5000) : wrap64 x = x := by unfold wrap64; omega
theorem wrapT (x : Int) (h0 : 0 ≤ x) (h1 : x ≤ 5000) : IntKind.i64.wrap x = x := by rw [IntKind.wrap_i64]; omega
theorem wrapU (a b c : Nat) (h : a + b ≤ c) (hc : c ≤ 1000) : wrap64 ((a : Int) + 1 + (b : Int)) = (a : Int) + 1 + (b : Int) ∧ IntKind.i64.wrap ((a : Int) + 1 + (b : Int)) = (a : Int) + 1 + (b : Int) := ⟨wrapS _ (by omega) (by omega), wrapT _ (by omega) (by omega)⟩

set_option maxHeartbeats 2000000 in
set_option maxRecDepth 100000 in
theorem l03Size_any (ns : List TN) (root : Int) (L : Lay) (hsm : Hid (Small ns)) : ∀ (D d a : Nat) (l : List Nat) (w : World), d ≤ D → Vis ns [(a : Int)] l d → l.length ≤ 1000 → NodesAt w L ns →
    Calls Tryd.prog 73 #[.agg #[.slice L.p ns.length L.cap, .int .i64 root], .int .i64 (a : Int)] w fun e w' => e = .returned (.int .i64 (l.length : Int)) ∧ Below w.heap.size w w' := by
  intro D
  induction D with
  | zero =>
    intro d a l w hd hv
    obtain ⟨_, _, _, _, _, _, _, _, _, _, rfl⟩ := hv.inv
    omega
  | succ D ih =>
    intro d a l w hd hv hll hN
    obtain ⟨n, l1, l2, d1, d2, h0, hx, v1, v2, rfl, rfl⟩ := hv.inv
    cases v2
    rw [Int.toNat_natCast] at hx
    rw [List.append_nil] at hll ⊢
    have hd' : d1 ≤ D := by omega
    have hl1 : l1.length ≤ 1000 := by rw [List.length_cons] at hll; omega
    rw [show (((a : Int).toNat :: l1).length : Int) = (l1.length : Int) + 1 by rw [List.length_cons]; omega]
    obtain ⟨ha, hxe⟩ := List.getElem?_eq_some_iff.1 hx
    have IH := hide ih
    have HN := hide hN
    have HV := hide v1
    have hnl := (unhide hsm).1
    have hkl : n.kids.length ≤ 1048576 := ((unhide hsm).2 n (List.mem_of_getElem? hx)).2.2.1
    have HXE := hide hxe
    clear ih hN v1 hv hll hd hx hxe
    go_enter Tryd.func73, Tryd.ntmps73
    go_wp2
    go_loopw [5, 6] (fun s i wx => ∃ (m dm : Nat) (lm : List Nat), m ≤ n.kids.length ∧ i = .int .i64 m ∧ s = .int .i64 ((lm.length : Int) + 1) ∧ lm.length ≤ l1.length ∧ Hid (Vis ns (n.kids.take m) lm dm) ∧ Hid (Below (w.heap.size + 1) (w.alloc (.cells #[.slice L.p ns.length L.cap, .int .i64 root] 25)) wx)) (fun _ i _ => n.kids.length - (intOf i).toNat)
    case atStart => exact ⟨0, 0, [], by omega, rfl, rfl, by simp, hide (by simpa using Vis.nil), hide (Below.refl _ _)⟩
    case round =>
      obtain ⟨m, dm, lm, hm, rfl, rfl, hdm, hvm, hBx⟩ := hrel
      have hw1 : w.heap.size + 1 ≤ wr.heap.size := by have := (unhide hBx).size; simpa using this
      have hcl : ∀ o, wr.cell? ⟨w.heap.size, o, none⟩ = (w.alloc (.cells #[.slice L.p ns.length L.cap, .int .i64 root] 25)).cell? ⟨w.heap.size, o, none⟩ := fun o => (unhide hBx).cell (p := ⟨w.heap.size, o, none⟩) (by simp)
      have t0 : wr.cell? ⟨w.heap.size, 0, none⟩ = some (.slice L.p ns.length L.cap) := by rw [hcl]; simp
      have t1 : wr.cell? ⟨w.heap.size, 1, none⟩ = some (.int .i64 root) := by rw [hcl]; simp
      have hBw : Hid (Below w.heap.size w wr) := hide ((nx_alloc w _).trans ((unhide hBx).mono (by omega)))
      obtain ⟨b, off, hp, q0, q1, q2, q3, q4, q5, q6⟩ := (unhide HN).later (unhide hBw) a ha
      rw [unhide HXE] at q4 q6
      clear hcl q0 q1 q2 q3 q5
      by_cases hlt : m < n.kids.length
      · obtain ⟨bk, ok, hpk, y1⟩ := q6 m hlt
        rw [hpk] at q4
        rw [hp] at t0
        have hj : Hid (n.kids[m]? = some n.kids[m]) := hide (List.getElem?_eq_getElem hlt)
        obtain ⟨lj, dj, vj, hlj, hdj, hj0, hll⟩ := (unhide HV).at (unhide hj)
        have hjx : n.kids[m] = ((n.kids[m].toNat : Nat) : Int) := (Int.toNat_of_nonneg hj0).symm
        have HND := hide ((unhide HN).later (unhide hBw).drew)
        have HC := hide (unhide IH dj n.kids[m].toNat lj wr.drew (by omega) (by rw [← hjx]; exact vj) (by omega) (unhide HND))
        rw [← hjx, hp] at HC
        have hnv := hide ((unhide hvm).take_succ (unhide hj) vj)
        have HLE : Hid (lm.length + lj.length ≤ l1.length) := hide (by
          have h1 := (unhide HV).take_len (m + 1) (unhide hnv)
          rw [List.length_append] at h1; exact h1)
        have HAP : Hid (((lm ++ lj).length : Int) = (lm.length : Int) + (lj.length : Int)) := hide (by rw [List.length_append]; omega)
        have hle2 := unhide HLE
        have HLL : Hid ((lm ++ lj).length ≤ l1.length) := hide (by rw [List.length_append]; exact hle2)
        clear vj hlj hjx q6 hpk
        generalize n.kids[m] = j at y1 HC
        obtain ⟨hwr1, hwr2⟩ := wrapU lm.length lj.length l1.length hle2 hl1
        clear hp
        go_wp2
        have D0 := hide (show wr.drew.cell? ⟨w.heap.size, 0, none⟩ = some (.slice (some ⟨b, off, none⟩) ns.length L.cap) from t0)
        have D1 := hide (show wr.drew.cell? ⟨w.heap.size, 1, none⟩ = some (.int .i64 root) from t1)
        have D4 := hide (show wr.drew.cell? ⟨b, off + a * 5 + 4, none⟩ = some (.slice (some ⟨bk, ok, none⟩) n.kids.length (L.ck a)) from q4)
        have DY := hide (show wr.drew.cell? ⟨bk, ok + m, none⟩ = some (.int .i64 j) from y1)
        go_region_held3 (fun x => x.cell? ⟨w.heap.size, 0, none⟩ = some (.slice (some ⟨b, off, none⟩) ns.length L.cap) ∧ x.cell? ⟨w.heap.size, 1, none⟩ = some (.int .i64 root) ∧ x.cell? ⟨b, off + a * 5 + 4, none⟩ = some (.slice (some ⟨bk, ok, none⟩) n.kids.length (L.ck a)) ∧ x.cell? ⟨bk, ok + m, none⟩ = some (.int .i64 j)) (go_keep) ((go_at_call 73; refine (unhide HC).mono ?_; rintro e y ⟨rfl, hby⟩; have z0 := cell_later hby (unhide D0); have z1 := cell_later hby (unhide D1); have z4 := cell_later hby (unhide D4); have zy := cell_later hby (unhide DY); have HBY := hide hby; clear hby))
        all_goals go_wp2
        all_goals (go_roundw; (case rel => exact ⟨m + 1, max dm dj, lm ++ lj, by omega, by go_num, (by rw [unhide HAP, Int.add_right_comm]), unhide HLL, hide (unhide hnv), hide ((unhide hBx).drew.trans ((unhide HBY).mono (by exact hw1)))⟩); (case measure => simp [intOf]; omega))
      · have hdd : lm = l1 := by
          have h1 := unhide hvm
          rw [show m = n.kids.length by omega, List.take_length] at h1
          exact (h1.det (unhide HV)).1
        subst hdd
        rw [hp] at t0
        clear hp
        go_wp2
        go_ret
        exact ⟨rfl, unhide hBw⟩

set_option maxRecDepth 100000 in
theorem specSizeOf_any (ns : List TN) (root k : Int) (L : Lay) (w : World) (hN : NodesAt w L ns) (hsm : Small ns) :
    Calls Tryd.prog 33 #[.agg #[.slice L.p ns.length L.cap, .int .i64 root], .int .i64 k] w fun e w' => ∃ r c : Int, e = .returned (.tuple #[.int .i64 r, .int .i64 c]) ∧ SizeRes ns root k r c ∧ Below w.heap.size w w' := by
  have HN := hide hN
  have HS := hide hsm
  clear hN hsm
  go_enter Tryd.func33, Tryd.ntmps33
  go_wp2_with fail
  refine (l03Place_any ns root k L _ ((unhide HN).later (nx_alloc _ _)) (unhide HS)).mono ?_
  rintro e w1 ⟨c, rfl, hc, hb1⟩
  have hB := hide (nx_trans (nx_alloc _ _) hb1)
  have c1 : ∀ o, w1.cell? ⟨w.heap.size, o, none⟩ = (w.alloc (.cells #[.slice L.p ns.length L.cap, .int .i64 root] 25)).cell? ⟨w.heap.size, o, none⟩ := fun o => hb1.cell (p := ⟨w.heap.size, o, none⟩) (by simp)
  have d0 : w1.cell? ⟨w.heap.size, 0, none⟩ = some (.slice L.p ns.length L.cap) := by rw [c1]; simp
  have d1 : w1.cell? ⟨w.heap.size, 1, none⟩ = some (.int .i64 root) := by rw [c1]; simp
  clear hb1 c1
  rcases hc with ⟨hno, rfl⟩ | ⟨hok, hk, rfl⟩ | ⟨hok, hk, rfl⟩
  · have hD : Hid (SizeRes ns root k 0 1) := hide (.inl ⟨hno, rfl, rfl⟩)
    clear hno
    go_wp2
    go_ret2
    exact ⟨0, 1, rfl, unhide hD, unhide hB⟩
  · have hD : Hid (SizeRes ns root k 0 13) := hide (.inr (.inl ⟨hok, hk, rfl, rfl⟩))
    clear hok hk
    go_wp2
    go_ret2
    exact ⟨0, 13, rfl, unhide hD, unhide hB⟩
  · obtain ⟨l, d, hT⟩ := hok
    obtain ⟨a, rfl⟩ : ∃ a : Nat, k = (a : Int) := ⟨k.toNat, by omega⟩
    obtain ⟨lx, dx, vx, hlx, _, hll⟩ := hT.2.1.1.sub a (hT.2.2.2 a (by omega))
    have hD : Hid (SizeRes ns root (a : Int) (lx.length : Int) 0) := hide (.inr (.inr ⟨⟨l, d, hT⟩, hk, ⟨lx, dx, vx, rfl⟩, rfl⟩))
    have hd : lx.length ≤ 1000 := by
      have h2 := nodup_le ns.length l hT.2.1.2.1 hT.2.1.1.lt
      have := hT.1
      omega
    have HC := hide (l03Size_any ns root L HS dx dx a lx w1 (Nat.le_refl _) vx hd ((unhide HN).later (unhide hB)))
    clear hT vx hlx hll hk hd
    go_wp2_with fail
    refine (unhide HC).mono ?_
    rintro e w2 ⟨rfl, hb2⟩
    have hB2 := hide (nx_trans (unhide hB) hb2)
    clear hb2
    go_wp2
    go_ret2
    exact ⟨_, 0, rfl, unhide hD, unhide hB2⟩

end Go.Proofs.YtbipgmikgokfpaaDoor
