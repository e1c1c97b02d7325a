/- The program's ConnNext at right connections. -/
import Derived.Test.YtbgaodamgedlgaaGreatDoorConnC5
import Derived.Test.YtbgaodamgedlgaaGreatDoorWireX1
namespace Go.Proofs.YtbgaodamgedlgaaGreatDoor
open Go.RowKit Go.Joins
set_option linter.unusedVariables false

def ZeroR (w : World) (g : Nat) : Prop := w.heap[g]? = some (.cells #[.string ⟨#[]⟩, .bool false] 31 (0, 0))
theorem ZeroR.lt {w : World} {g : Nat} (h : ZeroR w g) : g < w.heap.size := (Array.getElem?_eq_some_iff.1 h).1
theorem ZeroR.later {w w' : World} {g : Nat} (h : ZeroR w g) (hb : Below w.heap.size w w') : ZeroR w' g := by unfold ZeroR; rw [hb.block g h.lt]; exact h
theorem ZeroR.below {w w' : World} {g B : Nat} (h : ZeroR w g) (hb : Below B w w') (hB : g < B) : ZeroR w' g := by unfold ZeroR; rw [hb.block g hB]; exact h
theorem ZeroR.cells {w : World} {g : Nat} (h : ZeroR w g) : w.cell? ⟨g, 0, none⟩ = some (.string ⟨#[]⟩) ∧ w.cell? ⟨g, 1, none⟩ = some (.bool false) ∧ w.frozen? ⟨g, 0, none⟩ = false ∧ w.frozen? ⟨g, 1, none⟩ = false :=
  ⟨(cell_of_block h 0).trans rfl, (cell_of_block h 1).trans rfl, unfrozen_of_block h 0, unfrozen_of_block h 1⟩
/-- both results' blocks, not written yet -/
structure ZeroN (w : World) (g : Nat) : Prop where
  c : ZeroC w g
  r : ZeroR w (g + 1)
theorem ZeroN.later {w w' : World} {g : Nat} (h : ZeroN w g) (hb : Below w.heap.size w w') : ZeroN w' g := ⟨h.c.later hb, h.r.later hb⟩
theorem ZeroN.below {w w' : World} {g B : Nat} (h : ZeroN w g) (hb : Below B w w') (hB : g + 1 < B) : ZeroN w' g := ⟨h.c.below hb (by omega), h.r.below hb hB⟩
theorem ZeroN.new (w : World) (o : Obj) : ZeroN (((w.alloc o).alloc (.cells #[.bool false, .bool false, .string ⟨#[]⟩, .slice none 0 0, .int .i64 0] 25)).alloc (.cells #[.string ⟨#[]⟩, .bool false] 31)) (w.heap.size + 1) := by
  refine ⟨?_, ?_⟩
  · show (((w.heap.push _).push _).push _)[w.heap.size + 1]? = _
    rw [Array.getElem?_push, if_neg (by simp), Array.getElem?_push, if_pos (by simp)]
  · show (((w.heap.push _).push _).push _)[w.heap.size + 1 + 1]? = _
    rw [Array.getElem?_push, if_pos (by simp)]
/-- both, written -/
def sevenC (w : World) (g : Nat) (c : CN) (v : Value) (p : ByteArray) (x : Bool) : World := ((fiveC w g c v).setCell ⟨g + 1, 0, none⟩ (.string p)).setCell ⟨g + 1, 1, none⟩ (.bool x)
theorem fiveC_other (w : World) (g : Nat) (c : CN) (v : Value) (k : Nat) (hk : k ≠ g) : (fiveC w g c v).heap[k]? = w.heap[k]? := by
  unfold fiveC
  rw [Below.heap_setCell _ _ _ _ (by exact hk), Below.heap_setCell _ _ _ _ (by exact hk), Below.heap_setCell _ _ _ _ (by exact hk), Below.heap_setCell _ _ _ _ (by exact hk), Below.heap_setCell _ _ _ _ (by exact hk)]
set_option maxRecDepth 100000 in
theorem ZeroN.loadC {w : World} {g : Nat} (h : ZeroN w g) (c : CN) (v : Value) (p : ByteArray) (x : Bool) : (loadVar 25 ⟨g, 0, none⟩).run Tryz.prog (sevenC w g c v p x) = .ok (cnV c v) (sevenC w g c v p x) := by
  refine run_loadVar_row (P := Tryz.prog) _ g 25 25 _ (0, 0) _ ?_ Tryz.underlying25 rfl rfl
  unfold sevenC
  rw [Below.heap_setCell _ _ _ _ (by show g ≠ g + 1; omega), Below.heap_setCell _ _ _ _ (by show g ≠ g + 1; omega)]
  exact h.c.five c v
set_option maxRecDepth 100000 in
theorem ZeroN.loadR {w : World} {g : Nat} (h : ZeroN w g) (c : CN) (v : Value) (p : ByteArray) (x : Bool) : (loadVar 31 ⟨g + 1, 0, none⟩).run Tryz.prog (sevenC w g c v p x) = .ok (.agg #[.string p, .bool x]) (sevenC w g c v p x) := by
  refine run_loadVar_row (P := Tryz.prog) _ (g + 1) 31 31 _ (0, 0) _ ?_ Tryz.underlying31 rfl rfl
  unfold sevenC
  have h5 : (fiveC w g c v).heap[g + 1]? = some (.cells #[.string ⟨#[]⟩, .bool false] 31 (0, 0)) := (fiveC_other w g c v (g + 1) (by omega)).trans h.r
  have := block_setCell (i := 1) (block_setCell (i := 0) h5 (.string p)) (.bool x)
  exact this
theorem sevenC.below {w w' : World} {g : Nat} {c : CN} {v : Value} {p : ByteArray} {x : Bool} (hb : Below w.heap.size w w') (hg : w.heap.size ≤ g) : Below w.heap.size w (sevenC w' g c v p x) := qx_set (qx_set (fiveC.below hb hg) (by omega)) (by omega)
theorem RowSl.seven {w : World} {g : Nat} {c : CN} {v u : Value} {s : List SL} {p : ByteArray} {x : Bool} (h : RowSl w u s) (hv : ∀ j, u.ownBlock = some j → g + 1 < j) : RowSl (sevenC w g c v p x) u s :=
  ((h.five (fun j hj => by have := hv j hj; omega)).apart (fun j hj => by have := hv j hj; omega)).apart (fun j hj => by have := hv j hj; omega)

/-- what the next request's call leaves -/
def AnsN (r : NX) (w : World) (e : Ending) (w' : World) : Prop := ∃ v', e = .returned (.tuple #[cnV r.c v', .agg #[.string r.p, .bool r.x], .int .i64 r.q, .int .i64 r.e]) ∧ RowSl w' v' r.c.s ∧ Below w.heap.size w w'
/-- the same, its row in memory of its own -/
def AnsNo (r : NX) (w : World) (e : Ending) (w' : World) : Prop := ∃ v', e = .returned (.tuple #[cnV r.c v', .agg #[.string r.p, .bool r.x], .int .i64 r.q, .int .i64 r.e]) ∧ RowSl w' v' r.c.s ∧ Below w.heap.size w w' ∧ ∀ j, v'.ownBlock = some j → w.heap.size ≤ j
theorem AnsNo.weak {r : NX} {w w' : World} {e : Ending} (h : AnsNo r w e w') : AnsN r w e w' := by
  obtain ⟨v, h1, h2, h3, _⟩ := h
  exact ⟨v, h1, h2, h3⟩

set_option maxHeartbeats 8000000 in
set_option maxRecDepth 100000 in
theorem ConnNext_shut (c : CN) (v : Value) (w : World) (hv : RowSl w v c.s) (hr : connB c = true) (h : ¬ (c.o = true ∧ c.e = false)) :
    Calls Tryz.prog 8 #[cnV c v] w fun e w' => AnsNo ⟨c, ⟨#[]⟩, false, 0, 19⟩ w e w' := by
  obtain ⟨p, cap, rfl, _⟩ := hv.slice
  obtain ⟨hn0, hn1, h2, h3⟩ := connB_few hr
  have HL := hide (fun wx (hnx : Below w.heap.size w wx) => lineOf_right c (.slice p c.s.length cap) wx (hv.later hnx) hr)
  clear hv hr
  obtain ⟨o, e, i, s, n⟩ := c
  dsimp only [cnV] at *
  have hoe : (o && !e) = false := by cases o <;> cases e <;> simp_all
  clear h
  generalize hsl0 : s.length = l at *
  have HSL0 := hide hsl0
  clear hsl0
  go_enter Tryz.func8, Tryz.ntmps8
  go_wp2_with fail
  refine (unhide HL _ (qx_al (qx_al (qx_alloc _ _)))).mono ?_
  rintro ex w1 ⟨v1, rfl, hrow, hb1⟩
  have HZ := hide ((ZeroN.new w _).later hb1)
  have HB1 := hide (qx_trans (qx_al (qx_al (qx_alloc _ _))) hb1)
  have hz1 := hb1.size
  simp at hz1
  obtain ⟨p1, k1, rfl⟩ := hrow.slice
  have HLn := hide (LnAt.new w1 (w.heap.size + 3) ⟨o, e, i, s, n⟩ _ w1.heap.size rfl (by omega) (SlBuf.mono hrow (by simp)))
  have HBA := hide (qx_alloc w1 (.cells #[.bool o, .bool e, .string i, .slice p1 s.length k1, .int .i64 n] 57))
  clear hrow hb1 HL
  dsimp only at HLn
  rw [unhide HSL0] at HLn HBA ⊢
  go_wp2_with fail
  refine (takes_any (unhide HLn).b).mono ?_
  rintro ex w2 ⟨rfl, rfl⟩
  dsimp only
  rw [hoe]
  go_wp2_with fail
  refine (conn_any (unhide HLn).b).mono ?_
  rintro ex w3 ⟨rfl, hb3⟩
  dsimp only [cnV]
  have HZ3 := hide (((unhide HZ).later (unhide HBA)).later hb3)
  obtain ⟨a0, a1, a2, a3, a4⟩ := (unhide HZ3).c.cells
  obtain ⟨f0, f1, f2, f3, f4⟩ := (unhide HZ3).c.free
  obtain ⟨b0, b1, r0, r1⟩ := (unhide HZ3).r.cells
  have HRw := hide ((unhide HLn).row.row.later hb3)
  have hap := hide (fun j hj => show w.heap.size + 1 + 1 < j by have := (World.ownsRow.lt (unhide HLn).row j hj).1; omega)
  have HB3 := hide (qx_trans (qx_trans (unhide HB1) (unhide HBA)) hb3)
  clear hb3
  go_wp2
  refine bodyPost_ret (v := .tuple #[cnV ⟨o, e, i, s, n⟩ (.slice p1 l k1), .agg #[.string ⟨#[]⟩, .bool false], .int .i64 0, .int .i64 19]) ?_ rfl ⟨_, rfl, (unhide HRw).seven (c := ⟨o, e, i, s, n⟩) (v := (.slice p1 l k1)) (p := ⟨#[]⟩) (x := false) (unhide hap), sevenC.below (c := ⟨o, e, i, s, n⟩) (v := (.slice p1 l k1)) (p := ⟨#[]⟩) (x := false) (unhide HB3) (Nat.le_succ _), fun j hj => by have := unhide hap j hj; omega⟩
  have hld := (unhide HZ3).loadC ⟨o, e, i, s, n⟩ (.slice p1 l k1) ⟨#[]⟩ false
  have hlr := (unhide HZ3).loadR ⟨o, e, i, s, n⟩ (.slice p1 l k1) ⟨#[]⟩ false
  simp only [sevenC, fiveC] at hld hlr
  simp [results, Tryz.results8, asAddr, Result.andThen, hld, hlr]

set_option maxHeartbeats 8000000 in
set_option maxRecDepth 100000 in
theorem ConnNext_full6 (c : CN) (v : Value) (w : World) (hv : RowSl w v c.s) (hr : connB c = true) (h : c.o = true ∧ c.e = false) (hf : 6 ≤ c.s.length) :
    Calls Tryz.prog 8 #[cnV c v] w fun e w' => AnsNo ⟨c, ⟨#[]⟩, false, 0, 7⟩ w e w' := by
  obtain ⟨p, cap, rfl, _⟩ := hv.slice
  obtain ⟨hn0, hn1, h2, h3⟩ := connB_few hr
  have HL := hide (fun wx (hnx : Below w.heap.size w wx) => lineOf_right c (.slice p c.s.length cap) wx (hv.later hnx) hr)
  clear hv hr
  obtain ⟨o, e, i, s, n⟩ := c
  dsimp only [cnV] at *
  obtain ⟨rfl, rfl⟩ := h
  generalize hsl0 : s.length = l at *
  have HSL0 := hide hsl0
  clear hsl0
  go_enter Tryz.func8, Tryz.ntmps8
  go_wp2_with fail
  refine (unhide HL _ (qx_al (qx_al (qx_alloc _ _)))).mono ?_
  rintro ex w1 ⟨v1, rfl, hrow, hb1⟩
  have HZ := hide ((ZeroN.new w _).later hb1)
  have HB1 := hide (qx_trans (qx_al (qx_al (qx_alloc _ _))) hb1)
  have hz1 := hb1.size
  simp at hz1
  obtain ⟨p1, k1, rfl⟩ := hrow.slice
  have HLn := hide (LnAt.new w1 (w.heap.size + 3) ⟨true, false, i, s, n⟩ _ w1.heap.size rfl (by omega) (SlBuf.mono hrow (by simp)))
  have HBA := hide (qx_alloc w1 (.cells #[.bool true, .bool false, .string i, .slice p1 s.length k1, .int .i64 n] 57))
  clear hrow hb1 HL
  dsimp only at HLn
  rw [unhide HSL0] at HLn HBA ⊢
  go_wp2_with fail
  refine (takes_any (unhide HLn).b).mono ?_
  rintro ex w2 ⟨rfl, rfl⟩
  dsimp only [Bool.not_false, Bool.and_true]
  go_wp2_with fail
  refine (qsize_any (unhide HLn).b).mono ?_
  rintro ex w2 ⟨rfl, rfl⟩
  dsimp only
  rw [unhide HSL0]
  have hf' : (6 : Int) ≤ (l : Int) := by omega
  go_wp2_with fail
  refine (conn_any (unhide HLn).b).mono ?_
  rintro ex w3 ⟨rfl, hb3⟩
  dsimp only [cnV]
  have HZ3 := hide (((unhide HZ).later (unhide HBA)).later hb3)
  obtain ⟨a0, a1, a2, a3, a4⟩ := (unhide HZ3).c.cells
  obtain ⟨f0, f1, f2, f3, f4⟩ := (unhide HZ3).c.free
  obtain ⟨b0, b1, r0, r1⟩ := (unhide HZ3).r.cells
  have HRw := hide ((unhide HLn).row.row.later hb3)
  have hap := hide (fun j hj => show w.heap.size + 1 + 1 < j by have := (World.ownsRow.lt (unhide HLn).row j hj).1; omega)
  have HB3 := hide (qx_trans (qx_trans (unhide HB1) (unhide HBA)) hb3)
  clear hb3
  go_wp2
  refine bodyPost_ret (v := .tuple #[cnV ⟨true, false, i, s, n⟩ (.slice p1 l k1), .agg #[.string ⟨#[]⟩, .bool false], .int .i64 0, .int .i64 7]) ?_ rfl ⟨_, rfl, (unhide HRw).seven (c := ⟨true, false, i, s, n⟩) (v := (.slice p1 l k1)) (p := ⟨#[]⟩) (x := false) (unhide hap), sevenC.below (c := ⟨true, false, i, s, n⟩) (v := (.slice p1 l k1)) (p := ⟨#[]⟩) (x := false) (unhide HB3) (Nat.le_succ _), fun j hj => by have := unhide hap j hj; omega⟩
  have hld := (unhide HZ3).loadC ⟨true, false, i, s, n⟩ (.slice p1 l k1) ⟨#[]⟩ false
  have hlr := (unhide HZ3).loadR ⟨true, false, i, s, n⟩ (.slice p1 l k1) ⟨#[]⟩ false
  simp only [sevenC, fiveC] at hld hlr
  simp [results, Tryz.results8, asAddr, Result.andThen, hld, hlr]

set_option maxHeartbeats 8000000 in
set_option maxRecDepth 100000 in
theorem ConnNext_fullN (c : CN) (v : Value) (w : World) (hv : RowSl w v c.s) (hr : connB c = true) (h : c.o = true ∧ c.e = false) (hf : ¬ 6 ≤ c.s.length) (hf2 : 100000 ≤ c.n) :
    Calls Tryz.prog 8 #[cnV c v] w fun e w' => AnsNo ⟨c, ⟨#[]⟩, false, 0, 7⟩ w e w' := by
  obtain ⟨p, cap, rfl, _⟩ := hv.slice
  obtain ⟨hn0, hn1, h2, h3⟩ := connB_few hr
  have HL := hide (fun wx (hnx : Below w.heap.size w wx) => lineOf_right c (.slice p c.s.length cap) wx (hv.later hnx) hr)
  clear hv hr
  obtain ⟨o, e, i, s, n⟩ := c
  dsimp only [cnV] at *
  obtain ⟨rfl, rfl⟩ := h
  generalize hsl0 : s.length = l at *
  have HSL0 := hide hsl0
  clear hsl0
  go_enter Tryz.func8, Tryz.ntmps8
  go_wp2_with fail
  refine (unhide HL _ (qx_al (qx_al (qx_alloc _ _)))).mono ?_
  rintro ex w1 ⟨v1, rfl, hrow, hb1⟩
  have HZ := hide ((ZeroN.new w _).later hb1)
  have HB1 := hide (qx_trans (qx_al (qx_al (qx_alloc _ _))) hb1)
  have hz1 := hb1.size
  simp at hz1
  obtain ⟨p1, k1, rfl⟩ := hrow.slice
  have HLn := hide (LnAt.new w1 (w.heap.size + 3) ⟨true, false, i, s, n⟩ _ w1.heap.size rfl (by omega) (SlBuf.mono hrow (by simp)))
  have HBA := hide (qx_alloc w1 (.cells #[.bool true, .bool false, .string i, .slice p1 s.length k1, .int .i64 n] 57))
  clear hrow hb1 HL
  dsimp only at HLn
  rw [unhide HSL0] at HLn HBA ⊢
  go_wp2_with fail
  refine (takes_any (unhide HLn).b).mono ?_
  rintro ex w2 ⟨rfl, rfl⟩
  dsimp only [Bool.not_false, Bool.and_true]
  go_wp2_with fail
  refine (qsize_any (unhide HLn).b).mono ?_
  rintro ex w2 ⟨rfl, rfl⟩
  dsimp only
  rw [unhide HSL0]
  have hf' : ¬ (6 : Int) ≤ (l : Int) := by omega
  have c4 := (unhide HLn).cells.2.2.2.2
  dsimp only at c4
  go_wp2_with fail
  refine (conn_any (unhide HLn).b).mono ?_
  rintro ex w3 ⟨rfl, hb3⟩
  dsimp only [cnV]
  have HZ3 := hide (((unhide HZ).later (unhide HBA)).later hb3)
  obtain ⟨a0, a1, a2, a3, a4⟩ := (unhide HZ3).c.cells
  obtain ⟨f0, f1, f2, f3, f4⟩ := (unhide HZ3).c.free
  obtain ⟨b0, b1, r0, r1⟩ := (unhide HZ3).r.cells
  have HRw := hide ((unhide HLn).row.row.later hb3)
  have hap := hide (fun j hj => show w.heap.size + 1 + 1 < j by have := (World.ownsRow.lt (unhide HLn).row j hj).1; omega)
  have HB3 := hide (qx_trans (qx_trans (unhide HB1) (unhide HBA)) hb3)
  clear hb3
  go_wp2
  refine bodyPost_ret (v := .tuple #[cnV ⟨true, false, i, s, n⟩ (.slice p1 l k1), .agg #[.string ⟨#[]⟩, .bool false], .int .i64 0, .int .i64 7]) ?_ rfl ⟨_, rfl, (unhide HRw).seven (c := ⟨true, false, i, s, n⟩) (v := (.slice p1 l k1)) (p := ⟨#[]⟩) (x := false) (unhide hap), sevenC.below (c := ⟨true, false, i, s, n⟩) (v := (.slice p1 l k1)) (p := ⟨#[]⟩) (x := false) (unhide HB3) (Nat.le_succ _), fun j hj => by have := unhide hap j hj; omega⟩
  have hld := (unhide HZ3).loadC ⟨true, false, i, s, n⟩ (.slice p1 l k1) ⟨#[]⟩ false
  have hlr := (unhide HZ3).loadR ⟨true, false, i, s, n⟩ (.slice p1 l k1) ⟨#[]⟩ false
  simp only [sevenC, fiveC] at hld hlr
  simp [results, Tryz.results8, asAddr, Result.andThen, hld, hlr]


end Go.Proofs.YtbgaodamgedlgaaGreatDoor
