/- The program's calls of connections: bytes taken in. -/
import Derived.Test.YthfoabcmgiiadaaGreatDoorConnC3
namespace Go.Proofs.YthfoabcmgiiadaaGreatDoor
open Go.RowKit Go.Joins
set_option linter.unusedVariables false

/-- the result's block, not written yet -/
def ZeroC (w : World) (g : Nat) : Prop := w.heap[g]? = some (.cells #[.bool false, .bool false, .string ⟨#[]⟩, .slice none 0 0, .int .i64 0] 25 (0, 0))
theorem ZeroC.lt {w : World} {g : Nat} (h : ZeroC w g) : g < w.heap.size := (Array.getElem?_eq_some_iff.1 h).1
theorem ZeroC.later {w w' : World} {g : Nat} (h : ZeroC w g) (hb : Below w.heap.size w w') : ZeroC w' g := by unfold ZeroC; rw [hb.block g h.lt]; exact h
theorem ZeroC.below {w w' : World} {g B : Nat} (h : ZeroC w g) (hb : Below B w w') (hB : g < B) : ZeroC w' g := by unfold ZeroC; rw [hb.block g hB]; exact h
theorem ZeroC.cells {w : World} {g : Nat} (h : ZeroC w g) : w.cell? ⟨g, 0, none⟩ = some (.bool false) ∧ w.cell? ⟨g, 1, none⟩ = some (.bool false) ∧ w.cell? ⟨g, 2, none⟩ = some (.string ⟨#[]⟩) ∧ w.cell? ⟨g, 3, none⟩ = some (.slice none 0 0) ∧ w.cell? ⟨g, 4, none⟩ = some (.int .i64 0) :=
  ⟨(cell_of_block h 0).trans rfl, (cell_of_block h 1).trans rfl, (cell_of_block h 2).trans rfl, (cell_of_block h 3).trans rfl, (cell_of_block h 4).trans rfl⟩
theorem ZeroC.free {w : World} {g : Nat} (h : ZeroC w g) : w.frozen? ⟨g, 0, none⟩ = false ∧ w.frozen? ⟨g, 1, none⟩ = false ∧ w.frozen? ⟨g, 2, none⟩ = false ∧ w.frozen? ⟨g, 3, none⟩ = false ∧ w.frozen? ⟨g, 4, none⟩ = false :=
  ⟨unfrozen_of_block h 0, unfrozen_of_block h 1, unfrozen_of_block h 2, unfrozen_of_block h 3, unfrozen_of_block h 4⟩
theorem ZeroC.new2 (w : World) (o : Obj) : ZeroC ((w.alloc o).alloc (.cells #[.bool false, .bool false, .string ⟨#[]⟩, .slice none 0 0, .int .i64 0] 25)) (w.heap.size + 1) := by
  show ((w.heap.push _).push _)[w.heap.size + 1]? = _
  rw [Array.getElem?_push, if_pos (by simp)]
theorem ZeroC.set {w : World} {g k o : Nat} {u : Value} (h : ZeroC w g) (hk : k ≠ g) : ZeroC (w.setCell ⟨k, o, none⟩ u) g := by unfold ZeroC; rw [Below.heap_setCell _ _ _ _ (fun e => hk e.symm)]; exact h
/-- the result's block, written -/
def fiveC (w : World) (g : Nat) (c : CN) (v : Value) : World := ((((w.setCell ⟨g, 0, none⟩ (.bool c.o)).setCell ⟨g, 1, none⟩ (.bool c.e)).setCell ⟨g, 2, none⟩ (.string c.i)).setCell ⟨g, 3, none⟩ v).setCell ⟨g, 4, none⟩ (.int .i64 c.n)
theorem ZeroC.five {w : World} {g : Nat} (h : ZeroC w g) (c : CN) (v : Value) : (fiveC w g c v).heap[g]? = some (.cells #[.bool c.o, .bool c.e, .string c.i, v, .int .i64 c.n] 25 (0, 0)) := by
  have := block_setCell (i := 4) (block_setCell (i := 3) (block_setCell (i := 2) (block_setCell (i := 1) (block_setCell (i := 0) h (.bool c.o)) (.bool c.e)) (.string c.i)) v) (.int .i64 c.n)
  exact this
set_option maxRecDepth 100000 in
theorem ZeroC.load {w : World} {g : Nat} (h : ZeroC w g) (c : CN) (v : Value) : (loadVar 25 ⟨g, 0, none⟩).run Tryz.prog (fiveC w g c v) = .ok (cnV c v) (fiveC w g c v) :=
  run_loadVar_row (P := Tryz.prog) _ g 25 25 _ (0, 0) _ (h.five c v) Tryz.underlying25 rfl rfl
theorem fiveC.below {w w' : World} {g : Nat} {c : CN} {v : Value} (hb : Below w.heap.size w w') (hg : w.heap.size ≤ g) : Below w.heap.size w (fiveC w' g c v) := qx_set (qx_set (qx_set (qx_set (qx_set hb hg) hg) hg) hg) hg
theorem RowSl.apart {w : World} {b o : Nat} {v u : Value} {s : List SL} (h : RowSl w v s) (hv : ∀ j, v.ownBlock = some j → j ≠ b) : RowSl (w.setCell ⟨b, o, none⟩ u) v s := by
  rcases h with h | ⟨g, off, cap, rfl, hat⟩
  · exact .inl h
  · have hne : g ≠ b := hv g rfl
    refine .inr ⟨g, off, cap, rfl, fun i hi => ?_⟩
    obtain ⟨h0, h1, h2⟩ := hat i hi
    exact ⟨by rw [World.cell?_setCell_far _ _ _ _ (show b ≠ g from fun e => hne e.symm)]; exact h0, by rw [World.cell?_setCell_far _ _ _ _ (show b ≠ g from fun e => hne e.symm)]; exact h1, by rw [World.cell?_setCell_far _ _ _ _ (show b ≠ g from fun e => hne e.symm)]; exact h2⟩
theorem RowSl.five {w : World} {g : Nat} {c : CN} {v u : Value} {s : List SL} (h : RowSl w u s) (hv : ∀ j, u.ownBlock = some j → j ≠ g) : RowSl (fiveC w g c v) u s := ((((h.apart hv).apart hv).apart hv).apart hv).apart hv

theorem takeC_shut {c : CN} {t : ByteArray} (hr : connB c = true) (ht : t.size ≤ 65536) (h : ¬ (c.o = true ∧ c.e = false)) : takeC c t = (c, 19) := by
  unfold takeC; rw [if_neg (by omega), if_pos hr, if_neg h]
theorem takeC_full {c : CN} {t : ByteArray} (hr : connB c = true) (ht : t.size ≤ 65536) (h : c.o = true ∧ c.e = false) (hf : 400 < c.i.size + t.size) : takeC c t = (c, 7) := by
  unfold takeC; rw [if_neg (by omega), if_pos hr, if_pos h, if_pos hf]
theorem takeC_ok {c : CN} {t : ByteArray} (hr : connB c = true) (ht : t.size ≤ 65536) (h : c.o = true ∧ c.e = false) (hf : ¬ 400 < c.i.size + t.size) : takeC c t = ({ c with i := c.i ++ t }, 0) := by
  unfold takeC; rw [if_neg (by omega), if_pos hr, if_pos h, if_neg hf]

/-- what a call that answers a connection and a code leaves -/
def AnsC (r : CN × Int) (w : World) (e : Ending) (w' : World) : Prop := ∃ v', e = .returned (.tuple #[cnV r.1 v', .int .i64 r.2]) ∧ RowSl w' v' r.1.s ∧ Below w.heap.size w w'

/-- all blocks but a line's and its row's are as they were -/
structure LnF (base b : Nat) (v : Value) (w w' : World) : Prop where
  below : Below base w w'
  keep : ∀ k, k < w.heap.size → k ≠ b → v.ownBlock ≠ some k → w'.heap[k]? = w.heap[k]?
theorem LnF.trans {base b : Nat} {v : Value} {w w1 w2 : World} (h : LnF base b v w w1) (h2 : LnF base b v w1 w2) : LnF base b v w w2 :=
  ⟨h.below.trans h2.below, fun k hk hb hv => (h2.keep k (Nat.lt_of_lt_of_le hk h.below.size) hb hv).trans (h.keep k hk hb hv)⟩
theorem LnF.of {base b : Nat} {v : Value} {w w' : World} (h : Below w.heap.size w w') (hb : base ≤ w.heap.size) : LnF base b v w w' := ⟨h.mono hb, fun k hk _ _ => h.block k hk⟩
theorem LnF.line {base b : Nat} {v : Value} {w w1 : World} (h : LnF base b v w w1) (hb : base ≤ b) (o : Nat) (u : Value) : LnF base b v w (w1.setCell ⟨b, o, none⟩ u) :=
  ⟨h.below.setCell (p := ⟨b, o, none⟩) hb u, fun k hk hkb hv => (Below.heap_setCell _ _ _ k (by exact hkb)).trans (h.keep k hk hkb hv)⟩
theorem LnF.new {base b : Nat} {v : Value} {w w1 : World} {g : Nat} (h : LnF base b v w w1) (hb : base ≤ w.heap.size) (hg : w.heap.size ≤ g) (o : Nat) (u : Value) : LnF base b v w (w1.setCell ⟨g, o, none⟩ u) :=
  ⟨h.below.setCell (p := ⟨g, o, none⟩) (show base ≤ g by omega) u, fun k hk hkb hv => (Below.heap_setCell _ _ _ k (by show k ≠ g; omega)).trans (h.keep k hk hkb hv)⟩

theorem LnF.row {base b : Nat} {v : Value} {w w1 : World} {g : Nat} (h : LnF base b v w w1) (hb : base ≤ g) (hg : v.ownBlock = some g) (o : Nat) (u : Value) : LnF base b v w (w1.setCell ⟨g, o, none⟩ u) :=
  ⟨h.below.setCell (p := ⟨g, o, none⟩) hb u, fun k hk hkb hv => (Below.heap_setCell _ _ _ k (by show k ≠ g; intro e; subst e; exact hv hg)).trans (h.keep k hk hkb hv)⟩
/-- what a line's method that answers a code and may write into its row leaves -/
def LineR (r : CN × Int) (base b : Nat) (v : Value) (w : World) (e : Ending) (w' : World) : Prop := e = .returned (.int .i64 r.2) ∧ LnAt w' base b r.1 v ∧ LnF base b v w w'

/-- what a line's method that answers a code leaves -/
def LineC (r : CN × Int) (base b : Nat) (v : Value) (w : World) (e : Ending) (w' : World) : Prop := e = .returned (.int .i64 r.2) ∧ LnAt w' base b r.1 v ∧ Below base w w' ∧ ∀ k, k < w.heap.size → k ≠ b → w'.heap[k]? = w.heap[k]?

set_option maxHeartbeats 4000000 in
theorem take_shut {w : World} {base b : Nat} {c : CN} {v : Value} (t : ByteArray) (H : LnAt w base b c v) (h : ¬ (c.o = true ∧ c.e = false)) :
    Calls Tryz.prog 26 #[.pointer (some ⟨b, 0, none⟩), .string t] w fun e w' => LineC (c, 19) base b v w e w' := by
  have HLn := hide H
  have hbl := H.lt
  have hoe : (c.o && !c.e) = false := by cases h1 : c.o <;> cases h2 : c.e <;> simp_all
  clear H h
  go_enter Tryz.func26, Tryz.ntmps26
  go_wp2_with fail
  refine (takes_any (unhide HLn).b).mono ?_
  rintro ex w ⟨rfl, rfl⟩
  rw [hoe]
  go_wp2
  go_ret
  exact ⟨rfl, unhide HLn, Below.refl _ _, fun _ _ _ => rfl⟩

set_option maxHeartbeats 4000000 in
theorem take_full {w : World} {base b : Nat} {c : CN} {v : Value} (t : ByteArray) (H : LnAt w base b c v) (h2 : c.i.size ≤ 400) (ht : t.size ≤ 65536) (h : c.o = true ∧ c.e = false) (hf : 400 < c.i.size + t.size) :
    Calls Tryz.prog 26 #[.pointer (some ⟨b, 0, none⟩), .string t] w fun e w' => LineC (c, 7) base b v w e w' := by
  have HLn := hide H
  have hbl := H.lt
  have hoe : (c.o && !c.e) = true := by rw [h.1, h.2]; rfl
  have hf' : (400 : Int) - (c.i.size : Int) < (t.size : Int) := by omega
  clear H h
  go_enter Tryz.func26, Tryz.ntmps26
  go_wp2_with fail
  refine (takes_any (unhide HLn).b).mono ?_
  rintro ex w ⟨rfl, rfl⟩
  rw [hoe]
  go_wp2_with fail
  refine (room_any (unhide HLn).b h2).mono ?_
  rintro ex w ⟨rfl, rfl⟩
  go_wp2
  go_ret
  exact ⟨rfl, unhide HLn, Below.refl _ _, fun _ _ _ => rfl⟩

set_option maxHeartbeats 4000000 in
theorem take_ok {w : World} {base b : Nat} {c : CN} {v : Value} (t : ByteArray) (H : LnAt w base b c v) (h2 : c.i.size ≤ 400) (ht : t.size ≤ 65536) (h : c.o = true ∧ c.e = false) (hf : ¬ 400 < c.i.size + t.size) :
    Calls Tryz.prog 26 #[.pointer (some ⟨b, 0, none⟩), .string t] w fun e w' => LineC ({ c with i := c.i ++ t }, 0) base b v w e w' := by
  have HLn := hide H
  have hbl := H.lt
  have HBB := hide H.hb
  have HCl := hide (fun w => strClone_any t w (by omega))
  have hoe : (c.o && !c.e) = true := by rw [h.1, h.2]; rfl
  have hf' : ¬ (400 : Int) - (c.i.size : Int) < (t.size : Int) := by omega
  have c2 := H.cells.2.2.1
  have g2 := H.free 2
  clear H h
  obtain ⟨o, e, i, s, n⟩ := c
  dsimp only at *
  go_enter Tryz.func26, Tryz.ntmps26
  go_wp2_with fail
  refine (takes_any (unhide HLn).b).mono ?_
  rintro ex w ⟨rfl, rfl⟩
  dsimp only
  rw [hoe]
  go_wp2_with fail
  refine (room_any (unhide HLn).b h2).mono ?_
  rintro ex w ⟨rfl, rfl⟩
  dsimp only
  go_wp2
  have e2 := hide (show w.drew.cell? ⟨b, 2, none⟩ = _ from c2)
  have e3 := hide (show w.drew.frozen? ⟨b, 2, none⟩ = false from g2)
  have e4 := hide (show b < w.drew.heap.size from hbl)
  go_region_with (go_at_call 44; refine (unhide HCl _).mono ?_; rintro ex y ⟨rfl, hby⟩; have y2 := cell_later hby (unhide e2); have y3 := frozen_later hby (unhide e4) (unhide e3))
  all_goals (
    have hB4 := qx_trans (qx_drew (Below.refl _ w)) hby
    have HBy := hide ((hB4.mono (Nat.le_trans (unhide HBB) (Nat.le_of_lt hbl))).setCell (p := ⟨b, 2, none⟩) (unhide HBB) (.string (i ++ t)))
    have HLn2 := hide ((((unhide HLn).later (qx_drew (Below.refl _ _))).later hby).setI (i ++ t))
    have HFr := hide (fun k (hk : k < w.heap.size) (hkb : k ≠ b) => (Below.heap_setCell y ⟨b, 2, none⟩ (.string (i ++ t)) k (by exact hkb)).trans (hB4.block k hk))
    dsimp only at HLn2
    clear hby hB4 y2 y3
    go_wp2
    go_ret
    exact ⟨rfl, unhide HLn2, unhide HBy, unhide HFr⟩)

set_option maxHeartbeats 4000000 in
set_option maxRecDepth 100000 in
theorem ConnTake_by (c : CN) (r : CN × Int) (v : Value) (t : ByteArray) (w : World) (hv : RowSl w v c.s) (hr : connB c = true) (ht : t.size ≤ 65536)
    (hm : ∀ (w : World) (base b : Nat) (v : Value), LnAt w base b c v → Calls Tryz.prog 26 #[.pointer (some ⟨b, 0, none⟩), .string t] w fun e w' => LineC r base b v w e w') :
    Calls Tryz.prog 8 #[cnV c v, .string t] w fun e w' => AnsC r w e w' := by
  obtain ⟨p, cap, rfl, _⟩ := hv.slice
  have HL := hide (fun wx (hnx : Below w.heap.size w wx) => lineOf_right c (.slice p c.s.length cap) wx (hv.later hnx) hr)
  have HM := hide hm
  have ht' : ¬ (65536 : Int) < (t.size : Int) := by omega
  clear hv hr hm
  obtain ⟨o, e, i, s, n⟩ := c
  obtain ⟨⟨ro, re, ri, rs, rn⟩, rc⟩ := r
  dsimp only [cnV] at *
  generalize s.length = l at *
  go_enter Tryz.func8, Tryz.ntmps8
  go_wp2_with fail
  refine (unhide HL _ (qx_al (qx_alloc _ _))).mono ?_
  rintro ex w1 ⟨v1, rfl, hrow, hb1⟩
  have HZ := hide ((ZeroC.new2 w _).later hb1)
  have HB1 := hide (qx_trans (qx_al (qx_alloc _ _)) hb1)
  have hz1 := hb1.size
  simp at hz1
  obtain ⟨p1, k1, rfl⟩ := hrow.slice
  have HLn := hide (LnAt.new w1 (w.heap.size + 2) ⟨o, e, i, s, n⟩ _ w1.heap.size rfl (by omega) (SlBuf.mono hrow (by simp)))
  have HBA := hide (qx_alloc w1 (.cells #[.bool o, .bool e, .string i, .slice p1 s.length k1, .int .i64 n] 57))
  clear hrow hb1 HL
  dsimp only at HLn
  generalize hsl : s.length = l2 at *
  have HSL := hide hsl
  clear hsl
  have HM1 := hide (unhide HM _ _ _ _ (unhide HLn))
  go_wp2_with fail
  refine (unhide HM1).mono ?_
  rintro ex w2 ⟨rfl, hl2, hb2, hf2⟩
  have HL2 := hide hl2
  have HZ2 := hide (((unhide HZ).later (unhide HBA)).below hb2 (by omega))
  have HB2 := hide ((qx_trans (unhide HB1) (unhide HBA)).trans (hb2.mono (show w.heap.size ≤ w.heap.size + 2 by omega)))
  clear hl2 hb2 hf2 HM1
  go_wp2_with fail
  refine (conn_any (unhide HL2).b).mono ?_
  rintro ex w3 ⟨rfl, hb3⟩
  dsimp only [cnV]
  have HZ3 := hide ((unhide HZ2).later hb3)
  obtain ⟨a0, a1, a2, a3, a4⟩ := (unhide HZ3).cells
  obtain ⟨f0, f1, f2, f3, f4⟩ := (unhide HZ3).free
  have HRw := hide ((unhide HL2).row.row.later hb3)
  have hap := hide (fun j hj => show j ≠ w.heap.size + 1 by have := (World.ownsRow.lt (unhide HL2).row j hj).1; omega)
  have HB3 := hide (qx_trans (unhide HB2) hb3)
  clear hb3
  go_wp2
  refine bodyPost_ret (v := .tuple #[cnV ⟨ro, re, ri, rs, rn⟩ (.slice p1 l2 k1), .int .i64 rc]) ?_ rfl ⟨_, rfl, (unhide HRw).five (c := ⟨ro, re, ri, rs, rn⟩) (v := .slice p1 l2 k1) (unhide hap), fiveC.below (c := ⟨ro, re, ri, rs, rn⟩) (v := .slice p1 l2 k1) (unhide HB3) (Nat.le_succ _)⟩
  rw [results_cell_tmp rfl]
  have hld := (unhide HZ3).load ⟨ro, re, ri, rs, rn⟩ (.slice p1 l2 k1)
  simp only [fiveC] at hld
  simp [asAddr, Result.andThen, hld]

theorem ConnTake_shut (c : CN) (v : Value) (t : ByteArray) (w : World) (hv : RowSl w v c.s) (hr : connB c = true) (ht : t.size ≤ 65536) (h : ¬ (c.o = true ∧ c.e = false)) :
    Calls Tryz.prog 8 #[cnV c v, .string t] w fun e w' => AnsC (c, 19) w e w' :=
  ConnTake_by c _ v t w hv hr ht fun _ _ _ _ H => take_shut t H h
theorem ConnTake_full (c : CN) (v : Value) (t : ByteArray) (w : World) (hv : RowSl w v c.s) (hr : connB c = true) (ht : t.size ≤ 65536) (h : c.o = true ∧ c.e = false) (hf : 400 < c.i.size + t.size) :
    Calls Tryz.prog 8 #[cnV c v, .string t] w fun e w' => AnsC (c, 7) w e w' :=
  ConnTake_by c _ v t w hv hr ht fun _ _ _ _ H => take_full t H (connB_few hr).2.2.1 ht h hf
theorem ConnTake_ok (c : CN) (v : Value) (t : ByteArray) (w : World) (hv : RowSl w v c.s) (hr : connB c = true) (ht : t.size ≤ 65536) (h : c.o = true ∧ c.e = false) (hf : ¬ 400 < c.i.size + t.size) :
    Calls Tryz.prog 8 #[cnV c v, .string t] w fun e w' => AnsC ({ c with i := c.i ++ t }, 0) w e w' :=
  ConnTake_by c _ v t w hv hr ht fun _ _ _ _ H => take_ok t H (connB_few hr).2.2.1 ht h hf

end Go.Proofs.YthfoabcmgiiadaaGreatDoor
