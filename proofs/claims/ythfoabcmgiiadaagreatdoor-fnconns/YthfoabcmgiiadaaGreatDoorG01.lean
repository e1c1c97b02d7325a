/- A bundle. -/
import Derived.Test.YthfoabcmgiiadaaGreatDoorConnW2
import Derived.BigQuiet
import Derived.Deep.QuietTactic
import Derived.Test.YthfoabcmgiiadaaGreatDoorConnP
import Derived.Test.YthfoabcmgiiadaaGreatDoorQuietC

/- ConnS1 -/
namespace Go.Proofs.YthfoabcmgiiadaaGreatDoor
open Go.RowKit Go.Joins
set_option linter.unusedVariables false

theorem l01In_k (n low high : Int) (b : Bool) (w : World) (h : (decide (low ≤ n) && decide (n ≤ high)) = b) :
    Calls Tryz.prog 63 #[.int .i64 n, .int .i64 low, .int .i64 high] w fun e w' => e = .returned (.bool b) ∧ w' = w := by
  go_enter Tryz.func63, Tryz.ntmps63
  go_wp2
  all_goals
    go_ret
    refine ⟨ret_bool ?_, rfl⟩
    rw [← h, Bool.eq_iff_iff]
    simp <;> omega

theorem txt_none {N : ByteArray} (h : N.size ≠ 0) : ¬ N.toList = [] ∧ (N.toList == []) = false ∧ (N.toList != []) = true ∧ (N == ⟨#[]⟩) = false ∧ (N != ⟨#[]⟩) = true := by
  have := txt_no (N := N) (L := []) (fun e => h (by rw [e]; rfl))
  exact this
theorem txt_zero {N : ByteArray} (h : N.size = 0) : N = ⟨#[]⟩ := by
  obtain ⟨⟨l⟩⟩ := N
  cases l with
  | nil => rfl
  | cons a r => simp [ByteArray.size] at h

set_option maxHeartbeats 2000000 in
theorem specConnOK_num (c : CN) (v : Value) (w : World) (hs : SmallC c) (hv : RowSl w v c.s) (hn : ¬ connN c) :
    Calls Tryz.prog 35 #[cnV c v] w fun e w' => e = .returned (.bool (connB c)) ∧ Below w.heap.size w w' := by
  rw [connB_num hn]
  obtain ⟨p, cap, rfl, _⟩ := hv.slice
  obtain ⟨hi, hl, _, n0, n1, _⟩ := hs
  unfold connN at hn
  obtain ⟨o, e, i, s, n⟩ := c
  dsimp only [cnV] at *
  generalize s.length = l at *
  clear hv
  by_cases h1 : 0 ≤ n ∧ n ≤ 100000
  · go_enter Tryz.func35, Tryz.ntmps35
    go_wp2_with fail
    refine (l01In_k n 0 100000 true _ (by simp [h1.1, h1.2])).mono ?_
    rintro ex w' ⟨rfl, rfl⟩
    by_cases h2 : 400 < i.size
    · go_wp2
      go_ret
      exact ⟨rfl, qx_alloc _ _⟩
    · have h3 : 6 < l := by omega
      go_wp2
      go_ret
      exact ⟨rfl, qx_alloc _ _⟩
  · go_enter Tryz.func35, Tryz.ntmps35
    go_wp2_with fail
    refine (l01In_k n 0 100000 false _ (by rw [← Bool.not_eq_true]; simp; omega)).mono ?_
    rintro ex w' ⟨rfl, rfl⟩
    go_wp2
    go_ret
    exact ⟨rfl, qx_alloc _ _⟩

set_option maxHeartbeats 2000000 in
theorem specConnOK_shut (c : CN) (v : Value) (w : World) (hv : RowSl w v c.s) (hn : connN c) (ho : c.o = false) :
    Calls Tryz.prog 35 #[cnV c v] w fun e w' => e = .returned (.bool (connB c)) ∧ Below w.heap.size w w' := by
  rw [connB_shut hn ho]
  obtain ⟨p, cap, rfl, _⟩ := hv.slice
  unfold connN at hn
  obtain ⟨o, e, i, s, n⟩ := c
  dsimp only [cnV] at *
  subst ho
  generalize s.length = l at *
  obtain ⟨h0, h1, h2, h3⟩ := hn
  clear hv
  cases e
  · by_cases hz : i.size = 0
    · obtain rfl := txt_zero hz
      by_cases hl : l = 0
      · subst hl
        go_enter Tryz.func35, Tryz.ntmps35
        go_wp2_with fail
        refine (l01In_k n 0 100000 true _ (by simp [h0, h1])).mono ?_
        rintro ex w' ⟨rfl, rfl⟩
        go_wp2
        go_ret
        exact ⟨rfl, qx_alloc _ _⟩
      · have hl' : ¬ (l : Int) = 0 := by omega
        have hlb : ((l : Int) == 0) = false := by simp; omega
        simp only [hl, decide_false, Bool.and_false]
        go_enter Tryz.func35, Tryz.ntmps35
        go_wp2_with fail
        refine (l01In_k n 0 100000 true _ (by simp [h0, h1])).mono ?_
        rintro ex w' ⟨rfl, rfl⟩
        go_wp2
        go_ret
        exact ⟨rfl, qx_alloc _ _⟩
    · obtain ⟨t1, t2, t3, t4, t5⟩ := txt_none hz
      simp only [hz, decide_false, Bool.and_false, Bool.false_and]
      go_enter Tryz.func35, Tryz.ntmps35
      go_wp2_with fail
      refine (l01In_k n 0 100000 true _ (by simp [h0, h1])).mono ?_
      rintro ex w' ⟨rfl, rfl⟩
      go_wp2
      go_ret
      exact ⟨rfl, qx_alloc _ _⟩
  · simp only [Bool.not_true, Bool.false_and]
    go_enter Tryz.func35, Tryz.ntmps35
    go_wp2_with fail
    refine (l01In_k n 0 100000 true _ (by simp [h0, h1])).mono ?_
    rintro ex w' ⟨rfl, rfl⟩
    go_wp2
    go_ret
    exact ⟨rfl, qx_alloc _ _⟩

end Go.Proofs.YthfoabcmgiiadaaGreatDoor

/- ConnS2 -/
namespace Go.Proofs.YthfoabcmgiiadaaGreatDoor
open Go.RowKit Go.Joins
set_option linter.unusedVariables false

set_option maxHeartbeats 8000000 in
set_option maxRecDepth 100000 in
theorem specConnOK_right (c : CN) (v : Value) (w : World) (hv : RowSl w v c.s) (hr : connB c = true) :
    Calls Tryz.prog 35 #[cnV c v] w fun e w' => e = .returned (.bool true) ∧ Below w.heap.size w w' := by
  by_cases hoc : c.o = true
  · obtain ⟨p, cap, rfl, hat⟩ := hv.slice
    obtain ⟨h0, h1, h2, h3⟩ := connB_few hr
    have HE := hide (fun h => (connB_end hr h).2)
    have HF := hide (fun wx (hnx : Below w.heap.size w wx) k hk => slots_facts rfl (hat.later hnx) (connB_slots hr hoc) k hk)
    obtain ⟨o, e, i, s, n⟩ := c
    dsimp only [cnV] at *
    subst hoc
    clear hr hv hat
    generalize s.length = l at *
    go_enter Tryz.func35, Tryz.ntmps35
    go_wp2_with fail
    refine (l01In_k n 0 100000 true _ (by simp [h0, h1])).mono ?_
    rintro ex w' ⟨rfl, rfl⟩
    have hW := qx_alloc w (.cells #[.bool true, .bool e, .string i, .slice p l cap, .int .i64 n] 25)
    have x1 : (w.alloc (.cells #[.bool true, .bool e, .string i, .slice p l cap, .int .i64 n] 25)).cell? ⟨w.heap.size, 1, none⟩ = some (.bool e) := by simp
    have x2 : (w.alloc (.cells #[.bool true, .bool e, .string i, .slice p l cap, .int .i64 n] 25)).cell? ⟨w.heap.size, 2, none⟩ = some (.string i) := by simp
    have x3 : (w.alloc (.cells #[.bool true, .bool e, .string i, .slice p l cap, .int .i64 n] 25)).cell? ⟨w.heap.size, 3, none⟩ = some (.slice p l cap) := by simp
    have x4 : (w.alloc (.cells #[.bool true, .bool e, .string i, .slice p l cap, .int .i64 n] 25)).cell? ⟨w.heap.size, 4, none⟩ = some (.int .i64 n) := by simp
    have HX := hide (And.intro hW (And.intro x1 (And.intro x2 (And.intro x3 x4))))
    clear hW x1 x2 x3 x4
    go_wp2
    generalize hWW : w.alloc (.cells #[.bool true, .bool e, .string i, .slice p l cap, .int .i64 n] 25) = W at *
    clear hWW
    go_loopw [3] (fun i wx => ∃ k : Nat, k ≤ l ∧ i = .int .i64 k ∧ Hid (Below W.heap.size W wx)) (fun i _ => l - (intOf i).toNat)
    case atStart => exact ⟨0, by omega, rfl, hide (Below.refl _ _)⟩
    case round =>
      obtain ⟨k, hk, rfl, hnx⟩ := hrel
      obtain ⟨hW, x1, x2, x3, x4⟩ := unhide HX
      have y1 := cell_later (unhide hnx) x1
      have y2 := cell_later (unhide hnx) x2
      have y3 := cell_later (unhide hnx) x3
      have y4 := cell_later (unhide hnx) x4
      have HW := hide hW
      clear x1 x2 x3 x4 hW
      by_cases hlt : k < l
      · obtain ⟨b, off, vq, vr, vt, rfl, q0, q1, q2, g0, g1, g3, g4, hj⟩ := unhide HF wr (qx_trans (unhide HW) (unhide hnx)) k hlt
        have hlt' : (k : Int) < (l : Int) := by omega
        have hN := hide (qx_al (o := .cells #[.int .i64 vq, .bool vr, .string vt] 66) (unhide hnx))
        have c0 : (wr.alloc (.cells #[.int .i64 vq, .bool vr, .string vt] 66)).cell? ⟨wr.heap.size, 0, none⟩ = some (.int .i64 vq) := by simp
        have c1 : (wr.alloc (.cells #[.int .i64 vq, .bool vr, .string vt] 66)).cell? ⟨wr.heap.size, 1, none⟩ = some (.bool vr) := by simp
        have c2 : (wr.alloc (.cells #[.int .i64 vq, .bool vr, .string vt] 66)).cell? ⟨wr.heap.size, 2, none⟩ = some (.string vt) := by simp
        have c3 := cell_later (qx_alloc wr (.cells #[.int .i64 vq, .bool vr, .string vt] 66)) y3
        have c4 := cell_later (qx_alloc wr (.cells #[.int .i64 vq, .bool vr, .string vt] 66)) y4
        have hp : Hid (∀ j, k = j + 1 → ∃ q' : Int, (wr.alloc (.cells #[.int .i64 vq, .bool vr, .string vt] 66)).cell? ⟨b, off + j * 3, none⟩ = some (.int .i64 q') ∧ q' < vq) := hide (fun j hjj => by
          obtain ⟨q', e1, e2⟩ := hj j hjj
          exact ⟨q', cell_later (qx_alloc _ _) e1, e2⟩)
        have HCC := hide (And.intro c0 (And.intro c1 (And.intro c2 (And.intro c3 c4))))
        have HC := hide (fun w => l01In_k vq 0 (n - 1) true w (by simp; omega))
        have hwn : IntKind.i64.wrap (n - 1) = n - 1 := by unfold IntKind.wrap; simp [IntKind.bits, IntKind.signed]; omega
        have hwn' : IntKind.i64.wrap (n + -1) = n - 1 := by unfold IntKind.wrap; simp [IntKind.bits, IntKind.signed]; omega
        have G4 := hide g4
        have G3 := hide g3
        clear hj c0 c1 c2 c3 c4 g0 g1 g4 g3
        go_wp2
        obtain ⟨c0, c1, c2, c3, c4⟩ := unhide HCC
        clear HCC q0 q1 q2 y1 y2 y3 y4
        generalize wr.alloc (.cells #[.int .i64 vq, .bool vr, .string vt] 66) = V at *
        have z0 : ∀ m : LaterW V, m.w.cell? ⟨wr.heap.size, 0, none⟩ = some (.int .i64 vq) := fun m => cell_later m.b c0
        have z1 : ∀ m : LaterW V, m.w.cell? ⟨wr.heap.size, 1, none⟩ = some (.bool vr) := fun m => cell_later m.b c1
        have z2 : ∀ m : LaterW V, m.w.cell? ⟨wr.heap.size, 2, none⟩ = some (.string vt) := fun m => cell_later m.b c2
        have z3 : ∀ m : LaterW V, m.w.cell? ⟨w.heap.size, 3, none⟩ = some (.slice (some ⟨b, off, none⟩) l cap) := fun m => cell_later m.b c3
        have z4 : ∀ m : LaterW V, m.w.cell? ⟨w.heap.size, 4, none⟩ = some (.int .i64 n) := fun m => cell_later m.b c4
        have ne := LaterW.some V
        have b3 : decide ((300 : Int) < (vt.size : Int)) = false := by have := unhide G3; simp; omega
        have HR : Hid (∀ x : World, (∃ m : LaterW V, x = m.w) → Below W.heap.size W x) := hide (later_all fun y hy => qx_trans (unhide hN) hy)
        by_cases h00 : 0 < k
        · obtain ⟨j, hjk⟩ : ∃ j, k = j + 1 := ⟨k - 1, by omega⟩
          obtain ⟨vp, p0, g2⟩ := unhide hp j hjk
          have z5 : ∀ m : LaterW V, m.w.cell? ⟨b, off + j * 3, none⟩ = some (.int .i64 vp) := fun m => cell_later m.b p0
          have e4 : IntKind.i64.wrap ((k : Int) + -1) = (j : Int) := by unfold IntKind.wrap; simp [IntKind.bits, IntKind.signed]; omega
          have e4' : IntKind.i64.wrap ((k : Int) - 1) = (j : Int) := by unfold IntKind.wrap; simp [IntKind.bits, IntKind.signed]; omega
          have e5 : (j : Int) < (l : Int) := by omega
          have e6 : j < l := by omega
          have b1 : decide (vq ≤ vp) = false := by simp; omega
          have b2 : decide (0 < k) = true := by simp; omega
          have b2' : decide ((0 : Int) < (k : Int)) = true := by simp; omega
          clear c0 c1 c2 c3 c4 hjk g2 p0
          by_cases ht0 : vt.size = 0
          · obtain rfl := txtK_zero ht0
            have hvr : vr = false := by rw [unhide G4]; rfl
            subst hvr
            clear ht0
            refine wp_region_later (by kernel_rfl) (by kernel_rfl) ?_
            repeat (first | go_big_quiet_skip | (go_big_quiet_want; go_big_quiet_op; first | go_big_quiet_on | go_big_quiet_call ((go_at_call 63; exact Calls.later ((unhide HC _).mono (by rintro e w' ⟨rfl, rfl⟩; exact ⟨rfl, Below.refl _ _⟩))))))
            refine wpQuiet_nil ?_
            refine later_all fun y hby => ?_
            go_wp2
            go_roundw
            case rel => exact ⟨k + 1, by omega, by go_num, hide (qx_trans (unhide hN) hby)⟩
            case measure => simp [intOf]; omega
          · have hvr : vr = true := by rw [unhide G4]; simp [ht0]
            subst hvr
            obtain ⟨t1, t2, t3, t4, t5⟩ := txt_none ht0
            clear ht0
            refine wp_region_later (by kernel_rfl) (by kernel_rfl) ?_
            repeat (first | go_big_quiet_skip | (go_big_quiet_want; go_big_quiet_op; first | go_big_quiet_on | go_big_quiet_call ((go_at_call 63; exact Calls.later ((unhide HC _).mono (by rintro e w' ⟨rfl, rfl⟩; exact ⟨rfl, Below.refl _ _⟩))))))
            refine wpQuiet_nil ?_
            refine later_all fun y hby => ?_
            go_wp2
            go_roundw
            case rel => exact ⟨k + 1, by omega, by go_num, hide (qx_trans (unhide hN) hby)⟩
            case measure => simp [intOf]; omega
        · have b2 : decide (0 < k) = false := by simp; omega
          have b2' : decide ((0 : Int) < (k : Int)) = false := by simp; omega
          clear c0 c1 c2 c3 c4
          by_cases ht0 : vt.size = 0
          · obtain rfl := txtK_zero ht0
            have hvr : vr = false := by rw [unhide G4]; rfl
            subst hvr
            clear ht0
            refine wp_region_later (by kernel_rfl) (by kernel_rfl) ?_
            repeat (first | go_big_quiet_skip | (go_big_quiet_want; go_big_quiet_op; first | go_big_quiet_on | go_big_quiet_call ((go_at_call 63; exact Calls.later ((unhide HC _).mono (by rintro e w' ⟨rfl, rfl⟩; exact ⟨rfl, Below.refl _ _⟩))))))
            refine wpQuiet_nil ?_
            refine later_all fun y hby => ?_
            go_wp2
            go_roundw
            case rel => exact ⟨k + 1, by omega, by go_num, hide (qx_trans (unhide hN) hby)⟩
            case measure => simp [intOf]; omega
          · have hvr : vr = true := by rw [unhide G4]; simp [ht0]
            subst hvr
            obtain ⟨t1, t2, t3, t4, t5⟩ := txt_none ht0
            clear ht0
            refine wp_region_later (by kernel_rfl) (by kernel_rfl) ?_
            repeat (first | go_big_quiet_skip | (go_big_quiet_want; go_big_quiet_op; first | go_big_quiet_on | go_big_quiet_call ((go_at_call 63; exact Calls.later ((unhide HC _).mono (by rintro e w' ⟨rfl, rfl⟩; exact ⟨rfl, Below.refl _ _⟩))))))
            refine wpQuiet_nil ?_
            refine later_all fun y hby => ?_
            go_wp2
            go_roundw
            case rel => exact ⟨k + 1, by omega, by go_num, hide (qx_trans (unhide hN) hby)⟩
            case measure => simp [intOf]; omega
      · cases e
        · go_wp2
          go_ret
          exact ⟨rfl, qx_trans (unhide HW) (unhide hnx)⟩
        · obtain rfl := txtK_zero (unhide HE rfl)
          go_wp2
          go_ret
          exact ⟨rfl, qx_trans (unhide HW) (unhide hnx)⟩
  · have := specConnOK_shut c v w hv (connB_few hr) (by simpa using hoc)
    rw [hr] at this
    exact this

theorem SlBuf.litN (w : World) (base n : Nat) (hn : w.heap.size = n) (h : base ≤ n) : SlBuf (w.alloc (.cells #[] 66)) base (.slice (some ⟨n, 0, none⟩) 0 0) [] := by
  subst hn; exact SlBuf.lit0 w base h
/-- a connection whose slots are one's own row -/
def OwnC (c : CN) (w : World) (e : Ending) (w' : World) : Prop := ∃ v', e = .returned (cnV c v') ∧ SlBuf w' w.heap.size v' c.s ∧ Below w.heap.size w w'

set_option maxHeartbeats 4000000 in
set_option maxRecDepth 100000 in
theorem specOwn_any (c : CN) (v : Value) (w : World) (hv : RowSl w v c.s) (hl : c.s.length ≤ 1000) :
    Calls Tryz.prog 37 #[cnV c v] w fun e w' => OwnC c w e w' := by
  obtain ⟨o, e, i, s, n⟩ := c
  have HV := hide hv
  obtain ⟨p, cap, rfl, _⟩ := hv.slice
  dsimp only [cnV] at *
  clear hv
  have hsl0 : s.length = s.length := rfl
  generalize hsl : s.length = l at *
  have HSL := hide hsl
  clear hsl hsl0
  go_enter Tryz.func37, Tryz.ntmps37
  go_wp2_with (at_builtin; refine wp_appSls _ rfl _ _ rfl (w.heap.size + 2) (.slice (some ⟨w.heap.size + 2, 0, none⟩) 0 0) (.slice p l cap) [] s rfl ?c1 rfl ?c2 ?c3 ?c4 ?c5)
  case c1 => exact SlBuf.litN _ _ _ (by simp) (Nat.le_refl _)
  case c2 => exact (unhide HV).later (qx_al (qx_al (qx_alloc _ _)))
  case c3 => simp
  case c4 => have := unhide HSL; simp; omega
  case c5 =>
    intro v' w1 hown hb1
    have HB := hide ((qx_al (qx_al (qx_alloc w _))).trans (hb1.mono (by omega)))
    have hbk : w1.heap[w.heap.size]? = some (.cells #[.bool o, .bool e, .string i, .slice p l cap, .int .i64 n] 25 (0, 0)) := by
      rw [hb1.block _ (by simp)]
      show (((w.heap.push _).push _).push _)[w.heap.size]? = _
      rw [Array.getElem?_push, if_neg (by simp; omega), Array.getElem?_push, if_neg (by simp), Array.getElem?_push, if_pos rfl]
    have hzc : ZeroC w1 (w.heap.size + 1) := by
      unfold ZeroC
      rw [hb1.block _ (by simp)]
      show (((w.heap.push _).push _).push _)[w.heap.size + 1]? = _
      rw [Array.getElem?_push, if_neg (by simp), Array.getElem?_push, if_pos (by simp)]
    have HZ := hide hzc
    have q0 := (cell_of_block hbk 0).trans rfl
    have q1 := (cell_of_block hbk 1).trans rfl
    have q2 := (cell_of_block hbk 2).trans rfl
    have q3 := (cell_of_block hbk 3).trans rfl
    have q4 := (cell_of_block hbk 4).trans rfl
    have f3 := unfrozen_of_block hbk 3
    obtain ⟨a0, a1, a2, a3, a4⟩ := hzc.cells
    obtain ⟨g0, g1, g2, g3, g4⟩ := hzc.free
    have HR := hide hown
    obtain ⟨p1, k1, rfl⟩ := hown.slice
    have hne : ∀ b, b < w.heap.size + 2 → ∀ j, (Value.slice p1 ([] ++ s).length k1).ownBlock = some j → j ≠ b := fun b hb j hj => by have := (World.ownsRow.lt hown j hj).1; omega
    have HN := hide hne
    simp only [List.nil_append] at HR HN ⊢
    rw [unhide HSL] at HR HN ⊢
    clear hown hb1 hbk hzc hne
    go_wp2
    refine bodyPost_ret (results_cell_row rfl _ _ (w.heap.size + 1) 25 #[.bool o, .bool e, .string i, .slice p1 l k1, .int .i64 n] (0, 0) _ rfl (((unhide HZ).set (k := w.heap.size) (o := 3) (u := .slice p1 l k1) (by omega)).five ⟨o, e, i, s, n⟩ (.slice p1 l k1)) Tryz.underlying25 rfl rfl) rfl ⟨.slice p1 l k1, rfl, ?_, ?_⟩
    · have h1 := (unhide HR).apart (b := w.heap.size) (o := 3) (u := .slice p1 l k1) (unhide HN _ (by omega))
      have hn1 := unhide HN (w.heap.size + 1) (by omega)
      exact SlBuf.mono (((((h1.apart hn1).apart hn1).apart hn1).apart hn1).apart hn1) (by omega)
    · exact fiveC.below (c := ⟨o, e, i, s, n⟩) (v := .slice p1 l k1) (qx_set (unhide HB) (Nat.le_refl _)) (Nat.le_succ _)

end Go.Proofs.YthfoabcmgiiadaaGreatDoor
