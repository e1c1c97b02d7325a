/- A line that is read from, and the program's ConnNext at right connections: what is shut or full. -/
import Derived.Test.YthfoabcmgiiadaaGreatDoorConnC5
import Derived.Test.YthfoabcmgiiadaaGreatDoorWireX1
namespace Go.Proofs.YthfoabcmgiiadaaGreatDoor
open Go.RowKit Go.Joins
set_option linter.unusedVariables false

def ZeroR (w : World) (g : Nat) : Prop := w.heap[g]? = some (.cells #[.string ⟨#[]⟩, .bool false] 31 (0, 0))
theorem ZeroR.lt {w : World} {g : Nat} (h : ZeroR w g) : g < w.heap.size := (Array.getElem?_eq_some_iff.1 h).1
theorem ZeroR.later {w w' : World} {g : Nat} (h : ZeroR w g) (hb : Below w.heap.size w w') : ZeroR w' g := by unfold ZeroR; rw [hb.block g h.lt]; exact h
theorem ZeroR.below {w w' : World} {g B : Nat} (h : ZeroR w g) (hb : Below B w w') (hB : g < B) : ZeroR w' g := by unfold ZeroR; rw [hb.block g hB]; exact h
theorem ZeroR.cells {w : World} {g : Nat} (h : ZeroR w g) : w.cell? ⟨g, 0, none⟩ = some (.string ⟨#[]⟩) ∧ w.cell? ⟨g, 1, none⟩ = some (.bool false) ∧ w.frozen? ⟨g, 0, none⟩ = false ∧ w.frozen? ⟨g, 1, none⟩ = false :=
  ⟨(cell_of_block h 0).trans rfl, (cell_of_block h 1).trans rfl, unfrozen_of_block h 0, unfrozen_of_block h 1⟩
/-- both results' blocks, not written yet -/
structure ZeroN (w : World) (g : Nat) : Prop where
  c : ZeroC w g
  r : ZeroR w (g + 1)
theorem ZeroN.later {w w' : World} {g : Nat} (h : ZeroN w g) (hb : Below w.heap.size w w') : ZeroN w' g := ⟨h.c.later hb, h.r.later hb⟩
theorem ZeroN.below {w w' : World} {g B : Nat} (h : ZeroN w g) (hb : Below B w w') (hB : g + 1 < B) : ZeroN w' g := ⟨h.c.below hb (by omega), h.r.below hb hB⟩
theorem ZeroN.new (w : World) (o : Obj) : ZeroN (((w.alloc o).alloc (.cells #[.bool false, .bool false, .string ⟨#[]⟩, .slice none 0 0, .int .i64 0] 25)).alloc (.cells #[.string ⟨#[]⟩, .bool false] 31)) (w.heap.size + 1) := by
  refine ⟨?_, ?_⟩
  · show (((w.heap.push _).push _).push _)[w.heap.size + 1]? = _
    rw [Array.getElem?_push, if_neg (by simp), Array.getElem?_push, if_pos (by simp)]
  · show (((w.heap.push _).push _).push _)[w.heap.size + 1 + 1]? = _
    rw [Array.getElem?_push, if_pos (by simp)]
/-- both, written -/
def sevenC (w : World) (g : Nat) (c : CN) (v : Value) (p : ByteArray) (x : Bool) : World := ((fiveC w g c v).setCell ⟨g + 1, 0, none⟩ (.string p)).setCell ⟨g + 1, 1, none⟩ (.bool x)
theorem fiveC_other (w : World) (g : Nat) (c : CN) (v : Value) (k : Nat) (hk : k ≠ g) : (fiveC w g c v).heap[k]? = w.heap[k]? := by
  unfold fiveC
  rw [Below.heap_setCell _ _ _ _ (by exact hk), Below.heap_setCell _ _ _ _ (by exact hk), Below.heap_setCell _ _ _ _ (by exact hk), Below.heap_setCell _ _ _ _ (by exact hk), Below.heap_setCell _ _ _ _ (by exact hk)]
set_option maxRecDepth 100000 in
theorem ZeroN.loadC {w : World} {g : Nat} (h : ZeroN w g) (c : CN) (v : Value) (p : ByteArray) (x : Bool) : (loadVar 25 ⟨g, 0, none⟩).run Tryz.prog (sevenC w g c v p x) = .ok (cnV c v) (sevenC w g c v p x) := by
  refine run_loadVar_row (P := Tryz.prog) _ g 25 25 _ (0, 0) _ ?_ Tryz.underlying25 rfl rfl
  unfold sevenC
  rw [Below.heap_setCell _ _ _ _ (by show g ≠ g + 1; omega), Below.heap_setCell _ _ _ _ (by show g ≠ g + 1; omega)]
  exact h.c.five c v
set_option maxRecDepth 100000 in
theorem ZeroN.loadR {w : World} {g : Nat} (h : ZeroN w g) (c : CN) (v : Value) (p : ByteArray) (x : Bool) : (loadVar 31 ⟨g + 1, 0, none⟩).run Tryz.prog (sevenC w g c v p x) = .ok (.agg #[.string p, .bool x]) (sevenC w g c v p x) := by
  refine run_loadVar_row (P := Tryz.prog) _ (g + 1) 31 31 _ (0, 0) _ ?_ Tryz.underlying31 rfl rfl
  unfold sevenC
  have h5 : (fiveC w g c v).heap[g + 1]? = some (.cells #[.string ⟨#[]⟩, .bool false] 31 (0, 0)) := (fiveC_other w g c v (g + 1) (by omega)).trans h.r
  have := block_setCell (i := 1) (block_setCell (i := 0) h5 (.string p)) (.bool x)
  exact this
theorem sevenC.below {w w' : World} {g : Nat} {c : CN} {v : Value} {p : ByteArray} {x : Bool} (hb : Below w.heap.size w w') (hg : w.heap.size ≤ g) : Below w.heap.size w (sevenC w' g c v p x) := qx_set (qx_set (fiveC.below hb hg) (by omega)) (by omega)
theorem RowSl.seven {w : World} {g : Nat} {c : CN} {v u : Value} {s : List SL} {p : ByteArray} {x : Bool} (h : RowSl w u s) (hv : ∀ j, u.ownBlock = some j → g + 1 < j) : RowSl (sevenC w g c v p x) u s :=
  ((h.five (fun j hj => by have := hv j hj; omega)).apart (fun j hj => by have := hv j hj; omega)).apart (fun j hj => by have := hv j hj; omega)

/-- what the next request's call leaves -/
def AnsN (r : NX) (w : World) (e : Ending) (w' : World) : Prop := ∃ v', e = .returned (.tuple #[cnV r.c v', .agg #[.string r.p, .bool r.x], .int .i64 r.q, .int .i64 r.e]) ∧ RowSl w' v' r.c.s ∧ Below w.heap.size w w'
/-- the same, its row in memory of its own -/
def AnsNo (r : NX) (w : World) (e : Ending) (w' : World) : Prop := ∃ v', e = .returned (.tuple #[cnV r.c v', .agg #[.string r.p, .bool r.x], .int .i64 r.q, .int .i64 r.e]) ∧ RowSl w' v' r.c.s ∧ Below w.heap.size w w' ∧ ∀ j, v'.ownBlock = some j → w.heap.size ≤ j
theorem AnsNo.weak {r : NX} {w w' : World} {e : Ending} (h : AnsNo r w e w') : AnsN r w e w' := by
  obtain ⟨v, h1, h2, h3, _⟩ := h
  exact ⟨v, h1, h2, h3⟩

/-- what a line's read leaves -/
def LineN (r : NX) (base b : Nat) (v : Value) (w : World) (e : Ending) (w' : World) : Prop := ∃ v', e = .returned (.tuple #[.agg #[.string r.p, .bool r.x], .int .i64 r.q, .int .i64 r.e]) ∧ LnAt w' base b r.c v' ∧ LnF base b v w w'

theorem ZeroR.new (w : World) : ZeroR (w.alloc (.cells #[.string ⟨#[]⟩, .bool false] 31)) w.heap.size := by
  show (w.heap.push _)[w.heap.size]? = _
  rw [Array.getElem?_push, if_pos rfl]
/-- a request's block, written -/
def twoR (w : World) (g : Nat) (p : ByteArray) (x : Bool) : World := (w.setCell ⟨g, 0, none⟩ (.string p)).setCell ⟨g, 1, none⟩ (.bool x)
set_option maxRecDepth 100000 in
theorem loadR_at {w : World} {g : Nat} {p : ByteArray} {x : Bool} (h : w.heap[g]? = some (.cells #[.string p, .bool x] 31 (0, 0))) : (loadVar 31 ⟨g, 0, none⟩).run Tryz.prog w = .ok (.agg #[.string p, .bool x]) w :=
  run_loadVar_row (P := Tryz.prog) _ g 31 31 _ (0, 0) _ h Tryz.underlying31 rfl rfl
theorem ZeroR.two {w : World} {g : Nat} (h : ZeroR w g) (p : ByteArray) (x : Bool) : (twoR w g p x).heap[g]? = some (.cells #[.string p, .bool x] 31 (0, 0)) := by
  have := block_setCell (i := 1) (block_setCell (i := 0) h (.string p)) (.bool x)
  exact this
theorem ZeroR.load {w : World} {g : Nat} (h : ZeroR w g) (p : ByteArray) (x : Bool) : (loadVar 31 ⟨g, 0, none⟩).run Tryz.prog (twoR w g p x) = .ok (.agg #[.string p, .bool x]) (twoR w g p x) := loadR_at (h.two p x)
set_option maxRecDepth 100000 in
theorem ZeroR.load0 {w : World} {g : Nat} (h : ZeroR w g) : (loadVar 31 ⟨g, 0, none⟩).run Tryz.prog w = .ok (.agg #[.string ⟨#[]⟩, .bool false]) w :=
  run_loadVar_row (P := Tryz.prog) _ g 31 31 _ (0, 0) _ h Tryz.underlying31 rfl rfl
theorem LnAt.ne_req {w : World} {base b g : Nat} {c : CN} {v : Value} (h : LnAt w base b c v) (hz : ZeroR w g) : ∀ j, v.ownBlock = some j → j ≠ g := by
  intro j hj e
  subst e
  rcases h.row.2 with ⟨rfl, _⟩ | ⟨g, cap, cur, rfl, hg, hgg, _⟩
  · cases hj
  · injection hj with hj
    subst hj
    unfold ZeroR at hz
    rw [hgg] at hz
    injection hz with hz
    injection hz with _ hz _
    exact absurd hz (by decide)
/-- a line, once the request's block is written -/
theorem LnAt.two {w : World} {base b g : Nat} {c : CN} {v : Value} (h : LnAt w base b c v) (hz : ZeroR w g) (hg : g ≠ b) (p : ByteArray) (x : Bool) : LnAt (twoR w g p x) base b c v :=
  (h.other hg (h.ne_req hz)).other hg (h.ne_req hz)
theorem LnF.two {base b : Nat} {v : Value} {w w1 : World} {g : Nat} (h : LnF base b v w w1) (hb : base ≤ w.heap.size) (hg : w.heap.size ≤ g) (p : ByteArray) (x : Bool) : LnF base b v w (twoR w1 g p x) :=
  (h.new hb hg 0 _).new hb hg 1 _

set_option maxHeartbeats 8000000 in
set_option maxRecDepth 100000 in
theorem read_shut {w : World} {base b : Nat} {c : CN} {v : Value} (H : LnAt w base b c v) (h : ¬ (c.o = true ∧ c.e = false)) :
    Calls Tryz.prog 28 #[.pointer (some ⟨b, 0, none⟩)] w fun e w' => LineN ⟨c, ⟨#[]⟩, false, 0, 19⟩ base b v w e w' := by
  obtain ⟨p1, k1, hv⟩ := H.row.slice
  subst hv
  have hbl := H.lt
  have HBB := hide (Nat.le_trans H.hb (Nat.le_of_lt H.lt))
  have HA := hide (qx_alloc w (.cells #[.string ⟨#[]⟩, .bool false] 31))
  have HLn := hide (H.later (unhide HA))
  have HZ := hide (ZeroR.new w)
  have HF := hide (LnF.of (b := b) (v := .slice p1 c.s.length k1) (unhide HA) (unhide HBB))
  have HOw := hide (fun j hj => World.ownsRow.lt H.row j hj)
  have HNe := hide H.ne
  have hbb := H.hb
  clear H
  obtain ⟨o, e, i, s, n⟩ := c
  dsimp only at *
  have hoe : (o && !e) = false := by cases o <;> cases e <;> simp_all
  clear h
  generalize hsl0 : s.length = l at *
  have HSL0 := hide hsl0
  clear hsl0
  go_enter Tryz.func28, Tryz.ntmps28
  go_wp2_with fail
  refine (takes_any (unhide HLn).b).mono ?_
  rintro ex w2 ⟨rfl, rfl⟩
  dsimp only
  rw [hoe]
  obtain ⟨b0, b1, r0, r1⟩ := (unhide HZ).cells
  go_wp2
  refine bodyPost_ret (v := .tuple #[.agg #[.string ⟨#[]⟩, .bool false], .int .i64 0, .int .i64 19]) ?_ rfl ⟨_, rfl, unhide HLn, unhide HF⟩
  have hlr := (unhide HZ).load0
  simp [results, Tryz.results28, asAddr, Result.andThen, hlr]

set_option maxHeartbeats 8000000 in
set_option maxRecDepth 100000 in
theorem read_full6 {w : World} {base b : Nat} {c : CN} {v : Value} (H : LnAt w base b c v) (h : c.o = true ∧ c.e = false) (hf : 6 ≤ c.s.length) :
    Calls Tryz.prog 28 #[.pointer (some ⟨b, 0, none⟩)] w fun e w' => LineN ⟨c, ⟨#[]⟩, false, 0, 7⟩ base b v w e w' := by
  obtain ⟨p1, k1, hv⟩ := H.row.slice
  subst hv
  have hbl := H.lt
  have HBB := hide (Nat.le_trans H.hb (Nat.le_of_lt H.lt))
  have HA := hide (qx_alloc w (.cells #[.string ⟨#[]⟩, .bool false] 31))
  have HLn := hide (H.later (unhide HA))
  have HZ := hide (ZeroR.new w)
  have HF := hide (LnF.of (b := b) (v := .slice p1 c.s.length k1) (unhide HA) (unhide HBB))
  have HOw := hide (fun j hj => World.ownsRow.lt H.row j hj)
  have HNe := hide H.ne
  have hbb := H.hb
  clear H
  obtain ⟨o, e, i, s, n⟩ := c
  dsimp only at *
  obtain ⟨rfl, rfl⟩ := h
  generalize hsl0 : s.length = l at *
  have HSL0 := hide hsl0
  clear hsl0
  go_enter Tryz.func28, Tryz.ntmps28
  go_wp2_with fail
  refine (takes_any (unhide HLn).b).mono ?_
  rintro ex w2 ⟨rfl, rfl⟩
  dsimp only [Bool.not_false, Bool.and_true]
  go_wp2_with fail
  refine (qsize_any (unhide HLn).b).mono ?_
  rintro ex w2 ⟨rfl, rfl⟩
  dsimp only
  rw [unhide HSL0]
  have hf' : (6 : Int) ≤ (l : Int) := by omega
  obtain ⟨b0, b1, r0, r1⟩ := (unhide HZ).cells
  go_wp2
  refine bodyPost_ret (v := .tuple #[.agg #[.string ⟨#[]⟩, .bool false], .int .i64 0, .int .i64 7]) ?_ rfl ⟨_, rfl, unhide HLn, unhide HF⟩
  have hlr := (unhide HZ).load0
  simp [results, Tryz.results28, asAddr, Result.andThen, hlr]

set_option maxHeartbeats 8000000 in
set_option maxRecDepth 100000 in
theorem read_fullN {w : World} {base b : Nat} {c : CN} {v : Value} (H : LnAt w base b c v) (h : c.o = true ∧ c.e = false) (hf : ¬ 6 ≤ c.s.length) (hf2 : 100000 ≤ c.n) :
    Calls Tryz.prog 28 #[.pointer (some ⟨b, 0, none⟩)] w fun e w' => LineN ⟨c, ⟨#[]⟩, false, 0, 7⟩ base b v w e w' := by
  obtain ⟨p1, k1, hv⟩ := H.row.slice
  subst hv
  have hbl := H.lt
  have HBB := hide (Nat.le_trans H.hb (Nat.le_of_lt H.lt))
  have HA := hide (qx_alloc w (.cells #[.string ⟨#[]⟩, .bool false] 31))
  have HLn := hide (H.later (unhide HA))
  have HZ := hide (ZeroR.new w)
  have HF := hide (LnF.of (b := b) (v := .slice p1 c.s.length k1) (unhide HA) (unhide HBB))
  have HOw := hide (fun j hj => World.ownsRow.lt H.row j hj)
  have HNe := hide H.ne
  have hbb := H.hb
  clear H
  obtain ⟨o, e, i, s, n⟩ := c
  dsimp only at *
  obtain ⟨rfl, rfl⟩ := h
  generalize hsl0 : s.length = l at *
  have HSL0 := hide hsl0
  clear hsl0
  go_enter Tryz.func28, Tryz.ntmps28
  go_wp2_with fail
  refine (takes_any (unhide HLn).b).mono ?_
  rintro ex w2 ⟨rfl, rfl⟩
  dsimp only [Bool.not_false, Bool.and_true]
  go_wp2_with fail
  refine (qsize_any (unhide HLn).b).mono ?_
  rintro ex w2 ⟨rfl, rfl⟩
  dsimp only
  rw [unhide HSL0]
  have hf' : ¬ (6 : Int) ≤ (l : Int) := by omega
  have c4 := (unhide HLn).cells.2.2.2.2
  dsimp only at c4
  obtain ⟨b0, b1, r0, r1⟩ := (unhide HZ).cells
  go_wp2
  refine bodyPost_ret (v := .tuple #[.agg #[.string ⟨#[]⟩, .bool false], .int .i64 0, .int .i64 7]) ?_ rfl ⟨_, rfl, unhide HLn, unhide HF⟩
  have hlr := (unhide HZ).load0
  simp [results, Tryz.results28, asAddr, Result.andThen, hlr]

set_option maxHeartbeats 8000000 in
set_option maxRecDepth 100000 in
theorem ConnNext_by (c : CN) (r : NX) (v : Value) (w : World) (hv : RowSl w v c.s) (hr : connB c = true)
    (hm : ∀ (w2 : World) (base b : Nat) (v : Value), Below w.heap.size w w2 → LnAt w2 base b c v → Calls Tryz.prog 28 #[.pointer (some ⟨b, 0, none⟩)] w2 fun e w' => LineN r base b v w2 e w') :
    Calls Tryz.prog 9 #[cnV c v] w fun e w' => AnsNo r w e w' := by
  obtain ⟨p, cap, rfl, _⟩ := hv.slice
  have HL := hide (fun wx (hnx : Below w.heap.size w wx) => lineOf_right c (.slice p c.s.length cap) wx (hv.later hnx) hr)
  have HM := hide hm
  clear hv hr hm
  obtain ⟨o, e, i, s, n⟩ := c
  obtain ⟨⟨ro, re, ri, rs, rn⟩, rp, rx, rq, rc⟩ := r
  dsimp only [cnV] at *
  generalize hsl0 : s.length = l at *
  have HSL0 := hide hsl0
  clear hsl0
  go_enter Tryz.func9, Tryz.ntmps9
  go_wp2_with fail
  refine (unhide HL _ (qx_al (qx_al (qx_alloc _ _)))).mono ?_
  rintro ex w1 ⟨v1, rfl, hrow, hb1⟩
  have HZ := hide ((ZeroN.new w _).later hb1)
  have HB1 := hide (qx_trans (qx_al (qx_al (qx_alloc _ _))) hb1)
  have hz1 := hb1.size
  simp at hz1
  obtain ⟨p1, k1, rfl⟩ := hrow.slice
  have HLn := hide (LnAt.new w1 (w.heap.size + 3) ⟨o, e, i, s, n⟩ _ w1.heap.size rfl (by omega) (SlBuf.mono hrow (by simp)))
  have HBA := hide (qx_alloc w1 (.cells #[.bool o, .bool e, .string i, .slice p1 s.length k1, .int .i64 n] 57))
  clear hrow hb1 HL
  dsimp only at HLn
  rw [unhide HSL0] at HLn HBA ⊢
  have HM1 := hide (unhide HM _ _ _ _ (qx_trans (unhide HB1) (unhide HBA)) (unhide HLn))
  go_wp2_with fail
  refine (unhide HM1).mono ?_
  rintro ex w2 ⟨v2, rfl, hl2, hf2⟩
  have hs2 := hf2.below.size
  simp at hs2
  have HZ2 := hide ((((unhide HZ).later (unhide HBA)).below hf2.below (by omega)).later (qx_alloc _ (.cells #[.string rp, .bool rx] 31)))
  have HB2 := hide (qx_al (o := .cells #[.string rp, .bool rx] 31) ((qx_trans (unhide HB1) (unhide HBA)).trans (hf2.below.mono (show w.heap.size ≤ w.heap.size + 3 by omega))))
  have HL2 := hide (hl2.later (qx_alloc _ (.cells #[.string rp, .bool rx] 31)))
  have HQ2 := hide (ReqAt.new w2 rp rx w2.heap.size rfl 31)
  obtain ⟨p2, k2, hv2⟩ := hl2.row.slice
  dsimp only at hv2
  subst hv2
  dsimp only at HL2
  generalize hrl : rs.length = l2 at *
  have HRL := hide hrl
  clear hl2 hf2 HM1 hrl
  go_wp2
  have cn := hide (conn_any ((unhide HL2).later (qx_drew (Below.refl _ _))).b)
  have HZd := hide ((unhide HZ2).later (qx_drew (Below.refl _ _)))
  have q60 := (unhide HQ2).1
  have q61 := (unhide HQ2).2.1
  generalize hWX : w2.alloc (.cells #[.string rp, .bool rx] 31) = WX at *
  clear hWX
  have d60 := hide (show WX.drew.cell? ⟨w2.heap.size, 0, none⟩ = some (.string rp) from q60)
  have d61 := hide (show WX.drew.cell? ⟨w2.heap.size, 1, none⟩ = some (.bool rx) from q61)
  go_region_with (go_at_call 27; refine (unhide cn).mono ?_; rintro ex y ⟨rfl, hby⟩; have hq0 := cell_later hby (unhide d60); have hq1 := cell_later hby (unhide d61); have hzy := (unhide HZd).later hby; obtain ⟨a0, a1, a2, a3, a4⟩ := hzy.c.cells; obtain ⟨f0, f1, f2, f3, f4⟩ := hzy.c.free; obtain ⟨b0, b1, r0, r1⟩ := hzy.r.cells; dsimp only [cnV])
  all_goals (
    have HRw := hide (((unhide HL2).later (qx_drew (Below.refl _ _))).row.row.later hby)
    have hap := hide (fun j hj => show w.heap.size + 1 + 1 < j by have := (World.ownsRow.lt (unhide HL2).row j hj).1; omega)
    have HB7 := hide (qx_trans (qx_drew (unhide HB2)) hby)
    have HZ7 := hide hzy
    clear hby hzy hq0 hq1
    go_wp2
    refine bodyPost_ret (v := .tuple #[cnV ⟨ro, re, ri, rs, rn⟩ (.slice p2 l2 k2), .agg #[.string rp, .bool rx], .int .i64 rq, .int .i64 rc]) ?_ rfl ⟨_, rfl, (unhide HRw).seven (c := ⟨ro, re, ri, rs, rn⟩) (v := .slice p2 l2 k2) (p := rp) (x := rx) (unhide hap), sevenC.below (c := ⟨ro, re, ri, rs, rn⟩) (v := .slice p2 l2 k2) (p := rp) (x := rx) (unhide HB7) (Nat.le_succ _), fun j hj => by have := unhide hap j hj; omega⟩
    have hld := (unhide HZ7).loadC ⟨ro, re, ri, rs, rn⟩ (.slice p2 l2 k2) rp rx
    have hlr := (unhide HZ7).loadR ⟨ro, re, ri, rs, rn⟩ (.slice p2 l2 k2) rp rx
    simp only [sevenC, fiveC] at hld hlr
    simp [results, Tryz.results9, asAddr, Result.andThen, hld, hlr])

theorem ConnNext_shut (c : CN) (v : Value) (w : World) (hv : RowSl w v c.s) (hr : connB c = true) (h : ¬ (c.o = true ∧ c.e = false)) :
    Calls Tryz.prog 9 #[cnV c v] w fun e w' => AnsNo ⟨c, ⟨#[]⟩, false, 0, 19⟩ w e w' :=
  ConnNext_by c _ v w hv hr fun _ _ _ _ hb H => read_shut H h
theorem ConnNext_full6 (c : CN) (v : Value) (w : World) (hv : RowSl w v c.s) (hr : connB c = true) (h : c.o = true ∧ c.e = false) (hf : 6 ≤ c.s.length) :
    Calls Tryz.prog 9 #[cnV c v] w fun e w' => AnsNo ⟨c, ⟨#[]⟩, false, 0, 7⟩ w e w' :=
  ConnNext_by c _ v w hv hr fun _ _ _ _ hb H => read_full6 H h hf
theorem ConnNext_fullN (c : CN) (v : Value) (w : World) (hv : RowSl w v c.s) (hr : connB c = true) (h : c.o = true ∧ c.e = false) (hf : ¬ 6 ≤ c.s.length) (hf2 : 100000 ≤ c.n) :
    Calls Tryz.prog 9 #[cnV c v] w fun e w' => AnsNo ⟨c, ⟨#[]⟩, false, 0, 7⟩ w e w' :=
  ConnNext_by c _ v w hv hr fun _ _ _ _ hb H => read_fullN H h hf hf2

end Go.Proofs.YthfoabcmgiiadaaGreatDoor
