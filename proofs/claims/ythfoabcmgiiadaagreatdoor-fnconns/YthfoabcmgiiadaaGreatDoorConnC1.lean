/- The program's connections: what is right. -/
import Derived.Test.YthfoabcmgiiadaaGreatDoorConnW2
import Derived.Test.YthfoabcmgiiadaaGreatDoorWireW3
import Derived.Test.YthfoabcmgiiadaaGreatDoorQuietC
namespace Go.Proofs.YthfoabcmgiiadaaGreatDoor
open Go.RowKit Go.Joins
set_option linter.unusedVariables false

theorem isWithin_k (n low high : Int) (b : Bool) (w : World) (h : (decide (low ≤ n) && decide (n ≤ high)) = b) :
    Calls Tryz.prog 29 #[.int .i64 n, .int .i64 low, .int .i64 high] w fun e w' => e = .returned (.bool b) ∧ w' = w := by
  go_enter Tryz.func29, Tryz.ntmps29
  go_wp2
  all_goals
    go_ret
    refine ⟨ret_bool ?_, rfl⟩
    rw [← h, Bool.eq_iff_iff]
    simp <;> omega

theorem txtK_none {N : ByteArray} (h : N.size ≠ 0) : ¬ N.toList = [] ∧ (N.toList == []) = false ∧ (N.toList != []) = true ∧ (N == ⟨#[]⟩) = false ∧ (N != ⟨#[]⟩) = true := by
  have := txt_no (N := N) (L := []) (fun e => h (by rw [e]; rfl))
  exact this
theorem txtK_zero {N : ByteArray} (h : N.size = 0) : N = ⟨#[]⟩ := by
  obtain ⟨⟨l⟩⟩ := N
  cases l with
  | nil => rfl
  | cons a r => simp [ByteArray.size] at h

set_option maxHeartbeats 1000000 in
theorem slotOK_yes (q : Int) (r : Bool) (t : ByteArray) (w : World) (hz : t.size ≤ 300) (hr : r = !decide (t.size = 0)) :
    Calls Tryz.prog 50 #[.agg #[.int .i64 q, .bool r, .string t]] w fun e w' => e = .returned (.bool true) ∧ Below w.heap.size w w' := by
  by_cases h0 : t.size = 0
  · obtain rfl := txtK_zero h0
    obtain rfl : r = false := by rw [hr]; rfl
    clear hr h0 hz
    go_enter Tryz.func50, Tryz.ntmps50
    go_wp2
    go_ret
    exact ⟨rfl, qx_alloc _ _⟩
  · obtain rfl : r = true := by rw [hr]; simp [h0]
    have hc : (decide ((1 : Int) ≤ (t.size : Int)) && decide ((t.size : Int) ≤ 300)) = true := by simp; omega
    clear hr
    go_enter Tryz.func50, Tryz.ntmps50
    go_wp2_with fail
    refine (isWithin_k _ _ _ true _ hc).mono ?_
    rintro e w' ⟨rfl, rfl⟩
    go_wp2
    go_ret
    exact ⟨rfl, qx_alloc _ _⟩

theorem slots_facts {w : World} {p : Option Addr} {s : List SL} {n : Int} {l : Nat} (hll : s.length = l) (hat : SlotsAt w p s) (hs : slotsTo n s s.length) (k : Nat) (hk : k < l) :
    ∃ (b off : Nat) (q : Int) (r : Bool) (t : ByteArray), p = some ⟨b, off, none⟩ ∧ w.cell? ⟨b, off + k * 3, none⟩ = some (.int .i64 q) ∧ w.cell? ⟨b, off + k * 3 + 1, none⟩ = some (.bool r) ∧ w.cell? ⟨b, off + k * 3 + 2, none⟩ = some (.string t) ∧ 0 ≤ q ∧ q ≤ n - 1 ∧ t.size ≤ 300 ∧ r = !decide (t.size = 0) ∧ (∀ j, k = j + 1 → ∃ q' : Int, w.cell? ⟨b, off + j * 3, none⟩ = some (.int .i64 q') ∧ q' < q) := by
  subst hll
  obtain ⟨g0, g1, g2, g3, g4⟩ := hs k hk hk
  obtain ⟨b, off, rfl, q0, q1, q2⟩ := hat k hk
  refine ⟨b, off, _, _, _, rfl, q0, q1, q2, g0, g1, g3, g4, fun j hj => ?_⟩
  subst hj
  obtain ⟨b', off', he, p0, _, _⟩ := hat j (by omega)
  injection he with he
  injection he with he1 he2 _
  subst he1 he2
  exact ⟨_, p0, g2 (by omega)⟩

set_option maxHeartbeats 8000000 in
theorem slotsOK_right (p : Option Addr) (cap l : Nat) (s : List SL) (n : Int) (w : World) (hll : s.length = l) (hl : l ≤ 6) (hn : n ≤ 100000) (hat : SlotsAt w p s) (hs : slotsTo n s s.length) :
    Calls Tryz.prog 30 #[.slice p l cap, .int .i64 n] w fun e w' => e = .returned (.bool true) ∧ Below w.heap.size w w' := by
  have HF := hide (fun wx (hnx : Below w.heap.size w wx) k hk => slots_facts hll (hat.later hnx) hs k hk)
  clear hat hs hll
  go_enter Tryz.func30, Tryz.ntmps30
  go_wp2
  go_loopw [12] (fun i wx => ∃ k : Nat, k ≤ l ∧ i = .int .i64 k ∧ Below w.heap.size w wx) (fun i _ => l - (intOf i).toNat)
  case atStart => exact ⟨0, by omega, rfl, Below.refl _ _⟩
  case round =>
    obtain ⟨k, hk, rfl, hnx⟩ := hrel
    by_cases hlt : k < l
    · obtain ⟨b, off, vq, vr, vt, rfl, q0, q1, q2, g0, g1, g3, g4, hj⟩ := unhide HF wr hnx k hlt
      have HC := hide (fun w => slotOK_yes vq vr vt w g3 g4)
      have hlt' : (k : Int) < (l : Int) := by omega
      have e1 : ¬ n ≤ vq := by omega
      clear g3 g4 g0 g1 HF
      by_cases h0 : 0 < k
      · obtain ⟨j, hjk⟩ : ∃ j, k = j + 1 := ⟨k - 1, by omega⟩
        obtain ⟨vp, p0, g2⟩ := hj j hjk
        have e2 : (0 : Int) < (k : Int) := by omega
        have e3 : ¬ vq ≤ vp := by omega
        have e4 : IntKind.i64.wrap ((k : Int) + -1) = (j : Int) := by unfold IntKind.wrap; simp [IntKind.bits, IntKind.signed]; omega
        have e4' : IntKind.i64.wrap ((k : Int) - 1) = (j : Int) := by unfold IntKind.wrap; simp [IntKind.bits, IntKind.signed]; omega
        have e5 : (j : Int) < (l : Int) := by omega
        have e6 : j < l := by omega
        clear hj hjk g2 h0
        have hW := qx_al (o := .cells #[.int .i64 vq, .bool vr, .string vt] 66) hnx
        have c0 : (wr.alloc (.cells #[.int .i64 vq, .bool vr, .string vt] 66)).cell? ⟨wr.heap.size, 0, none⟩ = some (.int .i64 vq) := by simp
        have c1 : (wr.alloc (.cells #[.int .i64 vq, .bool vr, .string vt] 66)).cell? ⟨wr.heap.size, 1, none⟩ = some (.bool vr) := by simp
        have c2 : (wr.alloc (.cells #[.int .i64 vq, .bool vr, .string vt] 66)).cell? ⟨wr.heap.size, 2, none⟩ = some (.string vt) := by simp
        have c3 := cell_later (qx_alloc wr (.cells #[.int .i64 vq, .bool vr, .string vt] 66)) p0
        have HX := hide (And.intro hW (And.intro c0 (And.intro c1 (And.intro c2 c3))))
        clear hW c0 c1 c2 c3
        go_wp2
        obtain ⟨hW, c0, c1, c2, c3⟩ := unhide HX
        clear HX p0 q0 q1 q2
        generalize wr.alloc (.cells #[.int .i64 vq, .bool vr, .string vt] 66) = W at *
        have d0 := hide (show W.drew.cell? ⟨wr.heap.size, 0, none⟩ = _ from c0)
        have d1 := hide (show W.drew.cell? ⟨wr.heap.size, 1, none⟩ = _ from c1)
        have d2 := hide (show W.drew.cell? ⟨wr.heap.size, 2, none⟩ = _ from c2)
        have d3 := hide (show W.drew.cell? ⟨b, off + j * 3, none⟩ = _ from c3)
        have b1 : decide (n ≤ vq) = false := by simp; omega
        have b2 : decide (0 < k) = true := by simp; omega
        have b3 : decide (vq ≤ vp) = false := by simp; omega
        clear e1 e2 e3
        go_region_held3 (fun x => x.cell? ⟨wr.heap.size, 0, none⟩ = some (.int .i64 vq) ∧ x.cell? ⟨wr.heap.size, 1, none⟩ = some (.bool vr) ∧ x.cell? ⟨wr.heap.size, 2, none⟩ = some (.string vt) ∧ x.cell? ⟨b, off + j * 3, none⟩ = some (.int .i64 vp)) (go_keep) ((go_at_call 50; refine (unhide HC _).mono ?_; rintro e y ⟨rfl, hby⟩; have z0 := cell_later hby (unhide d0); have z1 := cell_later hby (unhide d1); have z2 := cell_later hby (unhide d2); have z3 := cell_later hby (unhide d3)))
        all_goals go_wp2
        all_goals (go_roundw; (case rel => exact ⟨k + 1, by omega, by go_num, (by repeat (first | exact Below.refl _ _ | assumption | refine qx_al ?_ | refine qx_drew ?_ | refine qx_trans ?_ (by assumption)))⟩); (case measure => simp [intOf]; omega))
      · skip
        clear hj
        have hW := qx_al (o := .cells #[.int .i64 vq, .bool vr, .string vt] 66) hnx
        have c0 : (wr.alloc (.cells #[.int .i64 vq, .bool vr, .string vt] 66)).cell? ⟨wr.heap.size, 0, none⟩ = some (.int .i64 vq) := by simp
        have c1 : (wr.alloc (.cells #[.int .i64 vq, .bool vr, .string vt] 66)).cell? ⟨wr.heap.size, 1, none⟩ = some (.bool vr) := by simp
        have c2 : (wr.alloc (.cells #[.int .i64 vq, .bool vr, .string vt] 66)).cell? ⟨wr.heap.size, 2, none⟩ = some (.string vt) := by simp
        have HX := hide (And.intro hW (And.intro c0 (And.intro c1 c2)))
        clear hW c0 c1 c2
        go_wp2
        obtain ⟨hW, c0, c1, c2⟩ := unhide HX
        clear HX q0 q1 q2
        generalize wr.alloc (.cells #[.int .i64 vq, .bool vr, .string vt] 66) = W at *
        have b1 : decide (n ≤ vq) = false := by simp; omega
        have b2 : decide (0 < k) = false := by simp; omega
        clear e1
        have z0 : ∀ m : LaterW W, m.w.cell? ⟨wr.heap.size, 0, none⟩ = some (.int .i64 vq) := fun m => cell_later m.b c0
        have z1 : ∀ m : LaterW W, m.w.cell? ⟨wr.heap.size, 1, none⟩ = some (.bool vr) := fun m => cell_later m.b c1
        have z2 : ∀ m : LaterW W, m.w.cell? ⟨wr.heap.size, 2, none⟩ = some (.string vt) := fun m => cell_later m.b c2
        have ne := LaterW.some W
        refine wp_region_later (by kernel_rfl) (by kernel_rfl) ?_
        repeat (first | go_big_quiet_skip | (go_big_quiet_want; go_big_quiet_op; first | go_big_quiet_on | go_big_quiet_call ((go_at_call 50; exact Calls.later (unhide HC _)))))
        refine wpQuiet_nil ?_
        refine later_all fun y hby => ?_
        all_goals go_wp2
        all_goals (go_roundw; (case rel => exact ⟨k + 1, by omega, by go_num, (by repeat (first | exact Below.refl _ _ | assumption | refine qx_al ?_ | refine qx_drew ?_ | refine qx_trans ?_ (by assumption)))⟩); (case measure => simp [intOf]; omega))
    · go_wp2
      go_ret
      exact ⟨rfl, hnx⟩

set_option maxHeartbeats 4000000 in
theorem ConnOK_right (c : CN) (v : Value) (w : World) (hv : RowSl w v c.s) (hr : connB c = true) :
    Calls Tryz.prog 10 #[cnV c v] w fun e w' => e = .returned (.bool true) ∧ Below w.heap.size w w' := by
  obtain ⟨p, cap, rfl, hat⟩ := hv.slice
  obtain ⟨h0, h1, h2, h3⟩ := connB_few hr
  have HN := hide (fun h => connB_not hr h)
  have HE := hide (fun h => connB_end hr h)
  have HS := hide (fun (wx : World) (hnx : Below w.heap.size w wx) (h : c.o = true) => slotsOK_right p cap c.s.length c.s c.n wx rfl h3 h1 (hat.later hnx) (connB_slots hr h))
  have hc : (decide ((0 : Int) ≤ c.n) && decide (c.n ≤ 100000)) = true := by simp; omega
  clear hr hv hat
  obtain ⟨o, e, i, s, n⟩ := c
  dsimp only [cnV] at *
  cases o with
  | false =>
    obtain ⟨rfl, rfl, rfl⟩ := unhide HN rfl
    clear HN HE HS
    go_enter Tryz.func10, Tryz.ntmps10
    go_wp2_with fail
    refine (isWithin_k _ _ _ true _ hc).mono ?_
    rintro ex w' ⟨rfl, rfl⟩
    go_wp2
    go_ret
    exact ⟨rfl, qx_alloc _ _⟩
  | true =>
    have HC := hide (fun wx hnx => unhide HS wx hnx rfl)
    generalize s.length = l at *
    clear HS HN
    cases e with
    | false =>
      clear HE
      go_enter Tryz.func10, Tryz.ntmps10
      go_wp2_with fail
      refine (isWithin_k _ _ _ true _ hc).mono ?_
      rintro ex w' ⟨rfl, rfl⟩
      go_wp2_with fail
      refine (unhide HC _ (qx_alloc _ _)).mono ?_
      rintro ex w1 ⟨rfl, hb1⟩
      go_wp2
      go_ret
      exact ⟨rfl, qx_trans (qx_alloc _ _) hb1⟩
    | true =>
      obtain ⟨_, hz⟩ := unhide HE rfl
      obtain rfl := txtK_zero hz
      clear HE hz
      go_enter Tryz.func10, Tryz.ntmps10
      go_wp2_with fail
      refine (isWithin_k _ _ _ true _ hc).mono ?_
      rintro ex w' ⟨rfl, rfl⟩
      go_wp2_with fail
      refine (unhide HC _ (qx_alloc _ _)).mono ?_
      rintro ex w1 ⟨rfl, hb1⟩
      go_wp2
      go_ret
      exact ⟨rfl, qx_trans (qx_alloc _ _) hb1⟩

end Go.Proofs.YthfoabcmgiiadaaGreatDoor
