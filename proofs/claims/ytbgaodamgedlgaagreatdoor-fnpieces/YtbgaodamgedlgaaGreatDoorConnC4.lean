/- The program's calls of connections: bytes taken in. -/
import Derived.Test.YtbgaodamgedlgaaGreatDoorConnC3
namespace Go.Proofs.YtbgaodamgedlgaaGreatDoor
open Go.RowKit Go.Joins
set_option linter.unusedVariables false

/-- the result's block, not written yet -/
def ZeroC (w : World) (g : Nat) : Prop := w.heap[g]? = some (.cells #[.bool false, .bool false, .string ⟨#[]⟩, .slice none 0 0, .int .i64 0] 25 (0, 0))
theorem ZeroC.lt {w : World} {g : Nat} (h : ZeroC w g) : g < w.heap.size := (Array.getElem?_eq_some_iff.1 h).1
theorem ZeroC.later {w w' : World} {g : Nat} (h : ZeroC w g) (hb : Below w.heap.size w w') : ZeroC w' g := by unfold ZeroC; rw [hb.block g h.lt]; exact h
theorem ZeroC.below {w w' : World} {g B : Nat} (h : ZeroC w g) (hb : Below B w w') (hB : g < B) : ZeroC w' g := by unfold ZeroC; rw [hb.block g hB]; exact h
theorem ZeroC.cells {w : World} {g : Nat} (h : ZeroC w g) : w.cell? ⟨g, 0, none⟩ = some (.bool false) ∧ w.cell? ⟨g, 1, none⟩ = some (.bool false) ∧ w.cell? ⟨g, 2, none⟩ = some (.string ⟨#[]⟩) ∧ w.cell? ⟨g, 3, none⟩ = some (.slice none 0 0) ∧ w.cell? ⟨g, 4, none⟩ = some (.int .i64 0) :=
  ⟨(cell_of_block h 0).trans rfl, (cell_of_block h 1).trans rfl, (cell_of_block h 2).trans rfl, (cell_of_block h 3).trans rfl, (cell_of_block h 4).trans rfl⟩
theorem ZeroC.free {w : World} {g : Nat} (h : ZeroC w g) : w.frozen? ⟨g, 0, none⟩ = false ∧ w.frozen? ⟨g, 1, none⟩ = false ∧ w.frozen? ⟨g, 2, none⟩ = false ∧ w.frozen? ⟨g, 3, none⟩ = false ∧ w.frozen? ⟨g, 4, none⟩ = false :=
  ⟨unfrozen_of_block h 0, unfrozen_of_block h 1, unfrozen_of_block h 2, unfrozen_of_block h 3, unfrozen_of_block h 4⟩
theorem ZeroC.new2 (w : World) (o : Obj) : ZeroC ((w.alloc o).alloc (.cells #[.bool false, .bool false, .string ⟨#[]⟩, .slice none 0 0, .int .i64 0] 25)) (w.heap.size + 1) := by
  show ((w.heap.push _).push _)[w.heap.size + 1]? = _
  rw [Array.getElem?_push, if_pos (by simp)]
theorem ZeroC.set {w : World} {g k o : Nat} {u : Value} (h : ZeroC w g) (hk : k ≠ g) : ZeroC (w.setCell ⟨k, o, none⟩ u) g := by unfold ZeroC; rw [Below.heap_setCell _ _ _ _ (fun e => hk e.symm)]; exact h
/-- the result's block, written -/
def fiveC (w : World) (g : Nat) (c : CN) (v : Value) : World := ((((w.setCell ⟨g, 0, none⟩ (.bool c.o)).setCell ⟨g, 1, none⟩ (.bool c.e)).setCell ⟨g, 2, none⟩ (.string c.i)).setCell ⟨g, 3, none⟩ v).setCell ⟨g, 4, none⟩ (.int .i64 c.n)
theorem ZeroC.five {w : World} {g : Nat} (h : ZeroC w g) (c : CN) (v : Value) : (fiveC w g c v).heap[g]? = some (.cells #[.bool c.o, .bool c.e, .string c.i, v, .int .i64 c.n] 25 (0, 0)) := by
  have := block_setCell (i := 4) (block_setCell (i := 3) (block_setCell (i := 2) (block_setCell (i := 1) (block_setCell (i := 0) h (.bool c.o)) (.bool c.e)) (.string c.i)) v) (.int .i64 c.n)
  exact this
set_option maxRecDepth 100000 in
theorem ZeroC.load {w : World} {g : Nat} (h : ZeroC w g) (c : CN) (v : Value) : (loadVar 25 ⟨g, 0, none⟩).run Tryz.prog (fiveC w g c v) = .ok (cnV c v) (fiveC w g c v) :=
  run_loadVar_row (P := Tryz.prog) _ g 25 25 _ (0, 0) _ (h.five c v) Tryz.underlying25 rfl rfl
theorem fiveC.below {w w' : World} {g : Nat} {c : CN} {v : Value} (hb : Below w.heap.size w w') (hg : w.heap.size ≤ g) : Below w.heap.size w (fiveC w' g c v) := qx_set (qx_set (qx_set (qx_set (qx_set hb hg) hg) hg) hg) hg
theorem RowSl.apart {w : World} {b o : Nat} {v u : Value} {s : List SL} (h : RowSl w v s) (hv : ∀ j, v.ownBlock = some j → j ≠ b) : RowSl (w.setCell ⟨b, o, none⟩ u) v s := by
  rcases h with h | ⟨g, off, cap, rfl, hat⟩
  · exact .inl h
  · have hne : g ≠ b := hv g rfl
    refine .inr ⟨g, off, cap, rfl, fun i hi => ?_⟩
    obtain ⟨h0, h1, h2⟩ := hat i hi
    exact ⟨by rw [World.cell?_setCell_far _ _ _ _ (show b ≠ g from fun e => hne e.symm)]; exact h0, by rw [World.cell?_setCell_far _ _ _ _ (show b ≠ g from fun e => hne e.symm)]; exact h1, by rw [World.cell?_setCell_far _ _ _ _ (show b ≠ g from fun e => hne e.symm)]; exact h2⟩
theorem RowSl.five {w : World} {g : Nat} {c : CN} {v u : Value} {s : List SL} (h : RowSl w u s) (hv : ∀ j, u.ownBlock = some j → j ≠ g) : RowSl (fiveC w g c v) u s := ((((h.apart hv).apart hv).apart hv).apart hv).apart hv

theorem takeC_shut {c : CN} {t : ByteArray} (hr : connB c = true) (ht : t.size ≤ 65536) (h : ¬ (c.o = true ∧ c.e = false)) : takeC c t = (c, 19) := by
  unfold takeC; rw [if_neg (by omega), if_pos hr, if_neg h]
theorem takeC_full {c : CN} {t : ByteArray} (hr : connB c = true) (ht : t.size ≤ 65536) (h : c.o = true ∧ c.e = false) (hf : 400 < c.i.size + t.size) : takeC c t = (c, 7) := by
  unfold takeC; rw [if_neg (by omega), if_pos hr, if_pos h, if_pos hf]
theorem takeC_ok {c : CN} {t : ByteArray} (hr : connB c = true) (ht : t.size ≤ 65536) (h : c.o = true ∧ c.e = false) (hf : ¬ 400 < c.i.size + t.size) : takeC c t = ({ c with i := c.i ++ t }, 0) := by
  unfold takeC; rw [if_neg (by omega), if_pos hr, if_pos h, if_neg hf]

/-- what a call that answers a connection and a code leaves -/
def AnsC (r : CN × Int) (w : World) (e : Ending) (w' : World) : Prop := ∃ v', e = .returned (.tuple #[cnV r.1 v', .int .i64 r.2]) ∧ RowSl w' v' r.1.s ∧ Below w.heap.size w w'

set_option maxHeartbeats 4000000 in
set_option maxRecDepth 100000 in
theorem ConnTake_shut (c : CN) (v : Value) (t : ByteArray) (w : World) (hv : RowSl w v c.s) (hr : connB c = true) (ht : t.size ≤ 65536) (h : ¬ (c.o = true ∧ c.e = false)) :
    Calls Tryz.prog 7 #[cnV c v, .string t] w fun e w' => AnsC (c, 19) w e w' := by
  obtain ⟨p, cap, rfl, _⟩ := hv.slice
  have h2 := (connB_few hr).2.2.1
  have HL := hide (fun wx (hnx : Below w.heap.size w wx) => lineOf_right c (.slice p c.s.length cap) wx (hv.later hnx) hr)
  have HCl := hide (fun w => strClone_any t w (by omega))
  have ht' : ¬ (65536 : Int) < (t.size : Int) := by omega
  clear hv hr
  obtain ⟨o, e, i, s, n⟩ := c
  dsimp only [cnV] at *
  have hoe : (o && !e) = false := by cases o <;> cases e <;> simp_all
  clear h
  generalize s.length = l at *
  go_enter Tryz.func7, Tryz.ntmps7
  go_wp2_with fail
  refine (unhide HL _ (qx_al (qx_alloc _ _))).mono ?_
  rintro ex w1 ⟨v1, rfl, hrow, hb1⟩
  have HZ := hide ((ZeroC.new2 w _).later hb1)
  have HB1 := hide (qx_trans (qx_al (qx_alloc _ _)) hb1)
  have hz1 := hb1.size
  simp at hz1
  obtain ⟨p1, k1, rfl⟩ := hrow.slice
  have HLn := hide (LnAt.new w1 (w.heap.size + 2) ⟨o, e, i, s, n⟩ _ w1.heap.size rfl (by omega) (SlBuf.mono hrow (by simp)))
  have HBA := hide (qx_alloc w1 (.cells #[.bool o, .bool e, .string i, .slice p1 s.length k1, .int .i64 n] 57))
  clear hrow hb1 HL
  dsimp only at HLn
  generalize hsl : s.length = l2 at *
  have HSL := hide hsl
  clear hsl
  go_wp2_with fail
  refine (takes_any (unhide HLn).b).mono ?_
  rintro ex w2 ⟨rfl, rfl⟩
  dsimp only
  rw [hoe]
  go_wp2_with fail
  refine (conn_any (unhide HLn).b).mono ?_
  rintro ex w3 ⟨rfl, hb3⟩
  dsimp only [cnV]
  have HZ3 := hide (((unhide HZ).later (unhide HBA)).later hb3)
  obtain ⟨a0, a1, a2, a3, a4⟩ := (unhide HZ3).cells
  obtain ⟨f0, f1, f2, f3, f4⟩ := (unhide HZ3).free
  have HRw := hide ((unhide HLn).row.row.later hb3)
  have hap := hide (fun j hj => show j ≠ w.heap.size + 1 by have := (World.ownsRow.lt (unhide HLn).row j hj).1; omega)
  have HB3 := hide (qx_trans (qx_trans (unhide HB1) (unhide HBA)) hb3)
  clear hb3
  go_wp2
  refine bodyPost_ret (v := .tuple #[cnV ⟨o, e, i, s, n⟩ (.slice p1 l2 k1), .int .i64 19]) ?_ rfl ⟨_, rfl, (unhide HRw).five (c := ⟨o, e, i, s, n⟩) (v := .slice p1 l2 k1) (unhide hap), fiveC.below (c := ⟨o, e, i, s, n⟩) (v := .slice p1 l2 k1) (unhide HB3) (Nat.le_succ _)⟩
  rw [results_cell_tmp rfl]
  have hld := (unhide HZ3).load ⟨o, e, i, s, n⟩ (.slice p1 l2 k1)
  simp only [fiveC] at hld
  simp [asAddr, Result.andThen, hld]

set_option maxHeartbeats 4000000 in
set_option maxRecDepth 100000 in
theorem ConnTake_full (c : CN) (v : Value) (t : ByteArray) (w : World) (hv : RowSl w v c.s) (hr : connB c = true) (ht : t.size ≤ 65536) (h : c.o = true ∧ c.e = false) (hf : 400 < c.i.size + t.size) :
    Calls Tryz.prog 7 #[cnV c v, .string t] w fun e w' => AnsC (c, 7) w e w' := by
  obtain ⟨p, cap, rfl, _⟩ := hv.slice
  have h2 := (connB_few hr).2.2.1
  have HL := hide (fun wx (hnx : Below w.heap.size w wx) => lineOf_right c (.slice p c.s.length cap) wx (hv.later hnx) hr)
  have HCl := hide (fun w => strClone_any t w (by omega))
  have ht' : ¬ (65536 : Int) < (t.size : Int) := by omega
  clear hv hr
  obtain ⟨o, e, i, s, n⟩ := c
  dsimp only [cnV] at *
  obtain ⟨rfl, rfl⟩ := h
  generalize s.length = l at *
  go_enter Tryz.func7, Tryz.ntmps7
  go_wp2_with fail
  refine (unhide HL _ (qx_al (qx_alloc _ _))).mono ?_
  rintro ex w1 ⟨v1, rfl, hrow, hb1⟩
  have HZ := hide ((ZeroC.new2 w _).later hb1)
  have HB1 := hide (qx_trans (qx_al (qx_alloc _ _)) hb1)
  have hz1 := hb1.size
  simp at hz1
  obtain ⟨p1, k1, rfl⟩ := hrow.slice
  have HLn := hide (LnAt.new w1 (w.heap.size + 2) ⟨true, false, i, s, n⟩ _ w1.heap.size rfl (by omega) (SlBuf.mono hrow (by simp)))
  have HBA := hide (qx_alloc w1 (.cells #[.bool true, .bool false, .string i, .slice p1 s.length k1, .int .i64 n] 57))
  clear hrow hb1 HL
  dsimp only at HLn
  generalize hsl : s.length = l2 at *
  have HSL := hide hsl
  clear hsl
  go_wp2_with fail
  refine (takes_any (unhide HLn).b).mono ?_
  rintro ex w2 ⟨rfl, rfl⟩
  dsimp only [Bool.not_false, Bool.and_true]
  go_wp2_with fail
  refine (room_any (unhide HLn).b h2).mono ?_
  rintro ex w2 ⟨rfl, rfl⟩
  have hf' : (400 : Int) - (i.size : Int) < (t.size : Int) := by omega
  go_wp2_with fail
  refine (conn_any (unhide HLn).b).mono ?_
  rintro ex w3 ⟨rfl, hb3⟩
  dsimp only [cnV]
  have HZ3 := hide (((unhide HZ).later (unhide HBA)).later hb3)
  obtain ⟨a0, a1, a2, a3, a4⟩ := (unhide HZ3).cells
  obtain ⟨f0, f1, f2, f3, f4⟩ := (unhide HZ3).free
  have HRw := hide ((unhide HLn).row.row.later hb3)
  have hap := hide (fun j hj => show j ≠ w.heap.size + 1 by have := (World.ownsRow.lt (unhide HLn).row j hj).1; omega)
  have HB3 := hide (qx_trans (qx_trans (unhide HB1) (unhide HBA)) hb3)
  clear hb3
  go_wp2
  refine bodyPost_ret (v := .tuple #[cnV ⟨true, false, i, s, n⟩ (.slice p1 l2 k1), .int .i64 7]) ?_ rfl ⟨_, rfl, (unhide HRw).five (c := ⟨true, false, i, s, n⟩) (v := .slice p1 l2 k1) (unhide hap), fiveC.below (c := ⟨true, false, i, s, n⟩) (v := .slice p1 l2 k1) (unhide HB3) (Nat.le_succ _)⟩
  rw [results_cell_tmp rfl]
  have hld := (unhide HZ3).load ⟨true, false, i, s, n⟩ (.slice p1 l2 k1)
  simp only [fiveC] at hld
  simp [asAddr, Result.andThen, hld]

set_option maxHeartbeats 4000000 in
set_option maxRecDepth 100000 in
theorem ConnTake_ok (c : CN) (v : Value) (t : ByteArray) (w : World) (hv : RowSl w v c.s) (hr : connB c = true) (ht : t.size ≤ 65536) (h : c.o = true ∧ c.e = false) (hf : ¬ 400 < c.i.size + t.size) :
    Calls Tryz.prog 7 #[cnV c v, .string t] w fun e w' => AnsC ({ c with i := c.i ++ t }, 0) w e w' := by
  obtain ⟨p, cap, rfl, _⟩ := hv.slice
  have h2 := (connB_few hr).2.2.1
  have HL := hide (fun wx (hnx : Below w.heap.size w wx) => lineOf_right c (.slice p c.s.length cap) wx (hv.later hnx) hr)
  have HCl := hide (fun w => strClone_any t w (by omega))
  have ht' : ¬ (65536 : Int) < (t.size : Int) := by omega
  clear hv hr
  obtain ⟨o, e, i, s, n⟩ := c
  dsimp only [cnV] at *
  obtain ⟨rfl, rfl⟩ := h
  generalize s.length = l at *
  go_enter Tryz.func7, Tryz.ntmps7
  go_wp2_with fail
  refine (unhide HL _ (qx_al (qx_alloc _ _))).mono ?_
  rintro ex w1 ⟨v1, rfl, hrow, hb1⟩
  have HZ := hide ((ZeroC.new2 w _).later hb1)
  have HB1 := hide (qx_trans (qx_al (qx_alloc _ _)) hb1)
  have hz1 := hb1.size
  simp at hz1
  obtain ⟨p1, k1, rfl⟩ := hrow.slice
  have HLn := hide (LnAt.new w1 (w.heap.size + 2) ⟨true, false, i, s, n⟩ _ w1.heap.size rfl (by omega) (SlBuf.mono hrow (by simp)))
  have HBA := hide (qx_alloc w1 (.cells #[.bool true, .bool false, .string i, .slice p1 s.length k1, .int .i64 n] 57))
  clear hrow hb1 HL
  dsimp only at HLn
  generalize hsl : s.length = l2 at *
  have HSL := hide hsl
  clear hsl
  go_wp2_with fail
  refine (takes_any (unhide HLn).b).mono ?_
  rintro ex w2 ⟨rfl, rfl⟩
  dsimp only [Bool.not_false, Bool.and_true]
  go_wp2_with fail
  refine (room_any (unhide HLn).b h2).mono ?_
  rintro ex w2 ⟨rfl, rfl⟩
  have hf' : ¬ (400 : Int) - (i.size : Int) < (t.size : Int) := by omega
  have HW := hide ((unhide HB1).size)
  have c2 := (unhide HLn).cells.2.2.1
  have g2 := (unhide HLn).free 2
  have hlb := (unhide HLn).lt
  dsimp only at c2
  go_wp2
  generalize hWW : w1.alloc (.cells #[.bool true, .bool false, .string i, .slice p1 l2 k1, .int .i64 n] 57) = W at *
  have HWW := hide hWW
  clear hWW
  have e2 := hide (show W.drew.cell? ⟨w1.heap.size, 2, none⟩ = _ from c2)
  have e3 := hide (show W.drew.frozen? ⟨w1.heap.size, 2, none⟩ = false from g2)
  have e4 := hide (show w1.heap.size < W.drew.heap.size from hlb)
  go_region_with (go_at_call 28; refine (unhide HCl _).mono ?_; rintro ex y ⟨rfl, hby⟩; have y2 := cell_later hby (unhide e2); have y3 := frozen_later hby (unhide e4) (unhide e3))
  all_goals
    have hB4 := qx_trans (qx_trans (unhide HB1) (unhide HBA)) (qx_trans (qx_drew (Below.refl _ _)) hby)
    have HBy := hide (qx_set (o := 2) (v := .string (i ++ t)) hB4 (show w.heap.size ≤ w1.heap.size from unhide HW))
    have HLn2 := hide ((((unhide HLn).later (qx_drew (Below.refl _ _))).later hby).setI (i ++ t))
    have HZ2 := hide (((((unhide HZ).later (unhide HBA)).later (qx_drew (Below.refl _ _))).later hby).set (k := w1.heap.size) (o := 2) (u := .string (i ++ t)) (by omega))
    dsimp only at HLn2
    clear hby hB4 y2 y3
  all_goals (
    go_wp2_with fail
    refine (conn_any (unhide HLn2).b).mono ?_
    rintro ex w3 ⟨rfl, hb3⟩
    dsimp only [cnV]
    have HZ3 := hide ((unhide HZ2).later hb3)
    obtain ⟨a0, a1, a2, a3, a4⟩ := (unhide HZ3).cells
    obtain ⟨f0, f1, f2, f3, f4⟩ := (unhide HZ3).free
    have HRw := hide ((unhide HLn2).row.row.later hb3)
    have hap := hide (fun j hj => show j ≠ w.heap.size + 1 by have := (World.ownsRow.lt (unhide HLn2).row j hj).1; omega)
    have HB3 := hide (qx_trans (unhide HBy) hb3)
    clear hb3
    go_wp2
    refine bodyPost_ret (v := .tuple #[cnV ⟨true, false, i ++ t, s, n⟩ (.slice p1 l2 k1), .int .i64 0]) ?_ rfl ⟨_, rfl, (unhide HRw).five (c := ⟨true, false, i ++ t, s, n⟩) (v := .slice p1 l2 k1) (unhide hap), fiveC.below (c := ⟨true, false, i ++ t, s, n⟩) (v := .slice p1 l2 k1) (unhide HB3) (Nat.le_succ _)⟩
    rw [results_cell_tmp rfl]
    have hld := (unhide HZ3).load ⟨true, false, i ++ t, s, n⟩ (.slice p1 l2 k1)
    simp only [fiveC] at hld
    simp [asAddr, Result.andThen, hld])

end Go.Proofs.YtbgaodamgedlgaaGreatDoor
