/- The program's lines made of connections; slots that leave, and a slot that is looked for. -/
import Derived.Test.YthfoabcmgiiadaaGreatDoorConnC2
import Derived.Deep.CutRange
import Derived.Laws.ResultCell
import Derived.Laws.Rows
namespace Go.Proofs.YthfoabcmgiiadaaGreatDoor
open Go.RowKit Go.Joins
set_option linter.unusedVariables false

theorem slots_at {w : World} {p : Option Addr} {s : List SL} {l : Nat} (hll : s.length = l) (hat : SlotsAt w p s) (hz : ∀ x ∈ s, x.t.size ≤ 300) (k : Nat) (hk : k < l) :
    ∃ (b off : Nat) (x : SL), p = some ⟨b, off, none⟩ ∧ w.cell? ⟨b, off + k * 3, none⟩ = some (.int .i64 x.q) ∧ w.cell? ⟨b, off + k * 3 + 1, none⟩ = some (.bool x.r) ∧ w.cell? ⟨b, off + k * 3 + 2, none⟩ = some (.string x.t) ∧ x.t.size ≤ 300 ∧ s.take (k + 1) = s.take k ++ [x] := by
  subst hll
  obtain ⟨b, off, rfl, q0, q1, q2⟩ := hat k hk
  exact ⟨b, off, s[k], rfl, q0, q1, q2, hz _ (List.getElem_mem hk), by rw [List.take_add_one, List.getElem?_eq_getElem hk]; rfl⟩

theorem LnAt.fill {y : World} {base b : Nat} (h : y.heap[b]? = some (.cells #[.bool false, .bool false, .string ⟨#[]⟩, .slice none 0 0, .int .i64 0] 57 (0, 0))) (hb : base ≤ b) (o e : Bool) (i : ByteArray) (n : Int) :
    LnAt (((((y.setCell ⟨b, 0, none⟩ (.bool o)).setCell ⟨b, 1, none⟩ (.bool e)).setCell ⟨b, 2, none⟩ (.string i)).setCell ⟨b, 3, none⟩ (.slice none 0 0)).setCell ⟨b, 4, none⟩ (.int .i64 n)) base b ⟨o, e, i, [], n⟩ (.slice none 0 0) :=
  ⟨hb, by have := block_setCell (i := 4) (block_setCell (i := 3) (block_setCell (i := 2) (block_setCell (i := 1) (block_setCell (i := 0) h (.bool o)) (.bool e)) (.string i)) (.slice none 0 0)) (.int .i64 n); exact this, SlBuf.nil _ _, fun j hj => by cases hj⟩
theorem LnAt.other {w : World} {base b k o : Nat} {c : CN} {v u : Value} (h : LnAt w base b c v) (hk : k ≠ b) (hv : ∀ j, v.ownBlock = some j → j ≠ k) : LnAt (w.setCell ⟨k, o, none⟩ u) base b c v :=
  ⟨h.hb, by rw [Below.heap_setCell _ _ _ _ (fun e => hk e.symm)]; exact h.blk, h.row.apart hv, h.ne⟩
theorem frozen_later {w w' : World} {b o : Nat} (hb : Below w.heap.size w w') (hl : b < w.heap.size) (h : w.frozen? ⟨b, o, none⟩ = false) : w'.frozen? ⟨b, o, none⟩ = false := by rw [(qcell hb).2 b o hl]; exact h
theorem connB_texts {c : CN} (h : connB c = true) : ∀ x ∈ c.s, x.t.size ≤ 300 := by
  intro x hx
  cases ho : c.o
  · rw [(connB_not h ho).2.2] at hx; cases hx
  · obtain ⟨k, hk, rfl⟩ := List.getElem_of_mem hx
    exact (connB_slots h ho k hk hk).2.2.2.1

set_option maxHeartbeats 4000000 in
set_option maxRecDepth 100000 in
theorem lineOf_right (c : CN) (v : Value) (w : World) (hv : RowSl w v c.s) (hr : connB c = true) :
    Calls Tryz.prog 25 #[cnV c v] w fun e w' => ∃ v', e = .returned (.tuple #[cnV c v', .bool true]) ∧ SlBuf w' w.heap.size v' c.s ∧ Below w.heap.size w w' := by
  obtain ⟨p, cap, rfl, hat⟩ := hv.slice
  have h3 := (connB_few hr).2.2.2
  have h2 := (connB_few hr).2.2.1
  have HF := hide (fun wx (hnx : Below w.heap.size w wx) k hk => slots_at rfl (hat.later hnx) (connB_texts hr) k hk)
  have HC := hide (fun wx (hnx : Below w.heap.size w wx) => ConnOK_right c (.slice p c.s.length cap) wx (hv.later hnx) hr)
  clear hv hat hr
  obtain ⟨o, e, i, s, n⟩ := c
  dsimp only [cnV] at *
  generalize hll : s.length = l at *
  have HL := hide hll
  clear hll
  go_enter Tryz.func25, Tryz.ntmps25
  go_wp2_with fail
  refine (unhide HC _ (qx_al (qx_alloc _ _))).mono ?_
  rintro ex w1 ⟨rfl, hb1⟩
  obtain ⟨hc1, hf1⟩ := qcell hb1
  have hz1 := hb1.size
  simp at hz1
  have d1 : w.heap.size < w1.heap.size := by omega
  have d2 : w.heap.size + 1 < w1.heap.size := by omega
  have HCl := hide (fun w => strClone_any i w (by omega))
  have q0 : w1.cell? ⟨w.heap.size, 0, none⟩ = some (.bool o) := by rw [hc1 _ _ (by simp; omega)]; simp
  have q1 : w1.cell? ⟨w.heap.size, 1, none⟩ = some (.bool e) := by rw [hc1 _ _ (by simp; omega)]; simp
  have q2 : w1.cell? ⟨w.heap.size, 2, none⟩ = some (.string i) := by rw [hc1 _ _ (by simp; omega)]; simp
  have q3 : w1.cell? ⟨w.heap.size, 3, none⟩ = some (.slice p l cap) := by rw [hc1 _ _ (by simp; omega)]; simp
  have q4 : w1.cell? ⟨w.heap.size, 4, none⟩ = some (.int .i64 n) := by rw [hc1 _ _ (by simp; omega)]; simp
  have hB1 := hide (qx_trans (qx_al (qx_alloc _ _)) hb1)
  have hR : w1.heap[w.heap.size + 1]? = some (.cells #[.bool false, .bool false, .string ⟨#[]⟩, .slice none 0 0, .int .i64 0] 57 (0, 0)) := by
    rw [hb1.block _ (by simp)]
    show ((w.heap.push _).push _)[w.heap.size + 1]? = _
    rw [Array.getElem?_push, if_pos (by simp)]
  have HR := hide hR
  clear hR hc1 hf1 hb1 hz1
  go_wp2
  have e0 := hide (show w1.drew.cell? ⟨w.heap.size, 0, none⟩ = _ from q0)
  have e1 := hide (show w1.drew.cell? ⟨w.heap.size, 1, none⟩ = _ from q1)
  have e2 := hide (show w1.drew.cell? ⟨w.heap.size, 2, none⟩ = _ from q2)
  have e4 := hide (show w1.drew.cell? ⟨w.heap.size, 4, none⟩ = _ from q4)
  have HZ : Hid ((w1.drew.alloc (.cells #[.bool false, .bool false, .string ⟨#[]⟩, .slice none 0 0, .int .i64 0] 57)).heap[w1.heap.size]? = some (.cells #[.bool false, .bool false, .string ⟨#[]⟩, .slice none 0 0, .int .i64 0] 57 (0, 0))) := hide (by
    show (w1.heap.push _)[w1.heap.size]? = _
    rw [Array.getElem?_push, if_pos rfl])
  have hzl := hide (show w1.heap.size < (w1.drew.alloc (.cells #[.bool false, .bool false, .string ⟨#[]⟩, .slice none 0 0, .int .i64 0] 57)).heap.size by simp)
  have n0 := hide (show (w1.drew.alloc (.cells #[.bool false, .bool false, .string ⟨#[]⟩, .slice none 0 0, .int .i64 0] 57)).cell? ⟨w1.heap.size, 0, none⟩ = some (.bool false) from (cell_of_block (unhide HZ) 0).trans rfl)
  have m0 := hide (unfrozen_of_block (unhide HZ) 0)
  have n1 := hide (show (w1.drew.alloc (.cells #[.bool false, .bool false, .string ⟨#[]⟩, .slice none 0 0, .int .i64 0] 57)).cell? ⟨w1.heap.size, 1, none⟩ = some (.bool false) from (cell_of_block (unhide HZ) 1).trans rfl)
  have m1 := hide (unfrozen_of_block (unhide HZ) 1)
  have n2 := hide (show (w1.drew.alloc (.cells #[.bool false, .bool false, .string ⟨#[]⟩, .slice none 0 0, .int .i64 0] 57)).cell? ⟨w1.heap.size, 2, none⟩ = some (.string ⟨#[]⟩) from (cell_of_block (unhide HZ) 2).trans rfl)
  have m2 := hide (unfrozen_of_block (unhide HZ) 2)
  have n3 := hide (show (w1.drew.alloc (.cells #[.bool false, .bool false, .string ⟨#[]⟩, .slice none 0 0, .int .i64 0] 57)).cell? ⟨w1.heap.size, 3, none⟩ = some (.slice none 0 0) from (cell_of_block (unhide HZ) 3).trans rfl)
  have m3 := hide (unfrozen_of_block (unhide HZ) 3)
  have n4 := hide (show (w1.drew.alloc (.cells #[.bool false, .bool false, .string ⟨#[]⟩, .slice none 0 0, .int .i64 0] 57)).cell? ⟨w1.heap.size, 4, none⟩ = some (.int .i64 0) from (cell_of_block (unhide HZ) 4).trans rfl)
  have m4 := hide (unfrozen_of_block (unhide HZ) 4)
  have hne1 : w1.heap.size ≠ w.heap.size := by omega
  have hne2 : w.heap.size ≠ w1.heap.size := by omega
  go_cut [4] from 11 to 20 (fun s4 wx => ∃ b4 : Nat, s4 = .pointer (some ⟨b4, 0, none⟩) ∧ Hid (LnAt wx w1.heap.size b4 ⟨o, e, i, [], n⟩ (.slice none 0 0)) ∧ Hid (Below w1.heap.size w1 wx))
  case first =>
    go_region_held3 (fun x => x.cell? ⟨w.heap.size, 0, none⟩ = some (.bool o) ∧ x.cell? ⟨w.heap.size, 1, none⟩ = some (.bool e) ∧ x.cell? ⟨w.heap.size, 2, none⟩ = some (.string i) ∧ x.cell? ⟨w.heap.size, 4, none⟩ = some (.int .i64 n)) (go_keep) ((first | (go_at_call 44; refine (unhide HCl _).mono ?_; rintro ex y ⟨rfl, hby⟩; have y0 := cell_later hby (unhide e0); have y1 := cell_later hby (unhide e1); have y2 := cell_later hby (unhide e2); have y4 := cell_later hby (unhide e4); have hney : y.heap.size ≠ w.heap.size := World.new_ne y _ y0) | (go_at_call 44; refine (unhide HCl _).mono ?_; rintro ex y ⟨rfl, hby⟩; have y0 := cell_later hby (cell_later (qx_alloc _ _) (unhide e0)); have y1 := cell_later hby (cell_later (qx_alloc _ _) (unhide e1)); have y2 := cell_later hby (cell_later (qx_alloc _ _) (unhide e2)); have y4 := cell_later hby (cell_later (qx_alloc _ _) (unhide e4)); have x0 := cell_later hby (unhide n0); have f0 := frozen_later hby (unhide hzl) (unhide m0); have x1 := cell_later hby (unhide n1); have f1 := frozen_later hby (unhide hzl) (unhide m1); have x2 := cell_later hby (unhide n2); have f2 := frozen_later hby (unhide hzl) (unhide m2); have x3 := cell_later hby (unhide n3); have f3 := frozen_later hby (unhide hzl) (unhide m3); have x4 := cell_later hby (unhide n4); have f4 := frozen_later hby (unhide hzl) (unhide m4))))
    · go_wp2_with fail
      go_meet
      exact ⟨_, rfl, hide (LnAt.new y w1.heap.size ⟨o, e, i, [], n⟩ (.slice none 0 0) y.heap.size rfl hby.size (SlBuf.nil _ _)), hide (qx_al (qx_trans (qx_drew (Below.refl _ _)) hby))⟩
    · go_wp2_with fail
      go_meet
      have hB := qx_trans (qx_al (o := .cells #[.bool false, .bool false, .string ⟨#[]⟩, .slice none 0 0, .int .i64 0] 57) (qx_drew (Below.refl w1.heap.size w1))) hby
      exact ⟨_, rfl, hide (LnAt.fill (by rw [hby.block _ (unhide hzl)]; exact unhide HZ) (Nat.le_refl _) o e i n), hide (qx_set (qx_set (qx_set (qx_set (qx_set hB (Nat.le_refl _)) (Nat.le_refl _)) (Nat.le_refl _)) (Nat.le_refl _)) (Nat.le_refl _))⟩
  case rest =>
  obtain ⟨b4, rfl, hln, hbx⟩ := hcut
  clear e0 e1 e2 e4 HZ hzl n0 n1 n2 n3 n4 m0 m1 m2 m3 m4 hne1 hne2 HCl q0 q1 q2 q4
  have z3 := cell_later (unhide hbx) q3
  have hb4 := hide (unhide hln).hb
  clear q3
  go_wp2
  go_loopw [24] (fun ix wy => ∃ (k : Nat) (v' : Value), k ≤ l ∧ ix = .int .i64 k ∧ Hid (LnAt wy w1.heap.size b4 ⟨o, e, i, s.take k, n⟩ v') ∧ Hid (Below w1.heap.size w1 wy)) (fun ix _ => l - (intOf ix).toNat)
  case atStart => exact ⟨0, _, by omega, rfl, hide (by simpa using unhide hln), hide (unhide hbx)⟩
  case round =>
    clear hln hbx z3
    obtain ⟨k, v', hk, rfl, hln, hbx⟩ := hrel
    by_cases hlt : k < l
    · obtain ⟨sb, off, x, rfl, q0, q1, q2, hxz, htk⟩ := unhide HF wr (qx_trans (unhide hB1) (unhide hbx)) k hlt
      have hlt' : (k : Int) < (l : Int) := by omega
      have HTK := hide htk
      obtain ⟨xq, xr, xt⟩ := x
      dsimp only at q0 q1 q2 hxz
      have HCl := hide (fun w => strClone_any xt w (by omega))
      clear htk HF
      go_wp2_with fail
      refine (unhide HCl _).mono ?_
      rintro ex y ⟨rfl, hby⟩
      have hwr : wr.heap.size < y.heap.size := by have := hby.size; simp at this; omega
      have x0 : y.cell? ⟨wr.heap.size, 0, none⟩ = some (.int .i64 xq) := cell_later hby (by simp)
      have x1 : y.cell? ⟨wr.heap.size, 1, none⟩ = some (.bool xr) := cell_later hby (by simp)
      have x2 : y.cell? ⟨wr.heap.size, 2, none⟩ = some (.string xt) := cell_later hby (by simp)
      have f2 : y.frozen? ⟨wr.heap.size, 2, none⟩ = false := frozen_later hby (by simp) (by simp)
      have hbk := (unhide hln).lt
      have hl1 := ((unhide hln).later (qx_al (o := .cells #[.int .i64 xq, .bool xr, .string xt] 66) (Below.refl _ _))).later hby
      have HLn := hide (hl1.other (k := wr.heap.size) (o := 2) (u := .string xt) (by omega) (fun j hj => by have := (unhide hln).row.own_lt j hj; omega))
      have hsz1 := (unhide hbx).size
      have HBy := hide (((unhide hbx).trans ((qx_al (o := .cells #[.int .i64 xq, .bool xr, .string xt] 66) (Below.refl _ _)).mono hsz1)).trans ((hby.mono (by simp; omega))) |>.setCell (p := ⟨wr.heap.size, 2, none⟩) hsz1 (.string xt))
      have HJ := hide (join_any ⟨xq, xr, xt⟩ (unhide HLn) (by show (s.take k).length ≤ 1000; rw [List.length_take]; omega))
      dsimp only at HJ
      rw [← unhide HTK] at HJ
      clear hl1 hln hby q0 q1 q2
      go_wp2_with fail
      refine (unhide HJ).mono ?_
      rintro ex w3 ⟨rfl, v3, hl3, hb3, _⟩
      have HL3 := hide hl3
      have HB3 := hide ((unhide HBy).trans hb3)
      clear hl3 hb3 HBy HLn HJ
      go_wp2
      go_roundw
      case rel => exact ⟨k + 1, v3, by omega, by go_num, hide (unhide HL3), hide (unhide HB3)⟩
      case measure => simp [intOf]; omega
    · have hkl : k = s.length := by have := unhide HL; omega
      have hl9 := unhide hln
      rw [hkl, List.take_length] at hl9
      obtain ⟨c0, c1, c2, c3, c4⟩ := hl9.cells
      obtain ⟨pv, cv, rfl⟩ := hl9.row.slice
      have hsz1 := (unhide hbx).size
      have hR9 := hide (show wr.heap[w.heap.size + 1]? = _ from ((unhide hbx).block _ d2).trans (unhide HR))
      have HRow := hide hl9.row
      have hb4' := hl9.hb
      have r0 := (cell_of_block (unhide hR9) 0).trans rfl
      have r1 := (cell_of_block (unhide hR9) 1).trans rfl
      have r2 := (cell_of_block (unhide hR9) 2).trans rfl
      have r3 := (cell_of_block (unhide hR9) 3).trans rfl
      have r4 := (cell_of_block (unhide hR9) 4).trans rfl
      have f0 := unfrozen_of_block (unhide hR9) 0
      have f1 := unfrozen_of_block (unhide hR9) 1
      have f2 := unfrozen_of_block (unhide hR9) 2
      have f3 := unfrozen_of_block (unhide hR9) 3
      have f4 := unfrozen_of_block (unhide hR9) 4
      have hnk : ¬ (k : Int) < (l : Int) := by omega
      dsimp only at c0 c1 c2 c3 c4
      clear hl9 hln HF
      go_wp2
      refine bodyPost_ret (v := .tuple #[.agg #[.bool o, .bool e, .string i, .slice pv s.length cv, .int .i64 n], .bool true]) ?_ rfl ?_
      · rw [results_cell_tmp rfl]
        have hld := run_loadVar_row (P := Tryz.prog) _ (w.heap.size + 1) 57 57 _ (0, 0) _ (block_setCell (i := 4) (block_setCell (i := 3) (block_setCell (i := 2) (block_setCell (i := 1) (block_setCell (i := 0) (unhide hR9) (.bool o)) (.bool e)) (.string i)) (.slice pv s.length cv)) (.int .i64 n)) Tryz.underlying57 rfl rfl
        simp [asAddr, Result.andThen, hld]
        try rfl
      · have hap : ∀ j, (Value.slice pv s.length cv).ownBlock = some j → j ≠ w.heap.size + 1 := fun j hj => by have := (World.ownsRow.lt (unhide HRow) j hj).1; omega
        refine ⟨_, rfl, ?_, ?_⟩
        · exact SlBuf.mono (SlBuf.apart (SlBuf.apart (SlBuf.apart (SlBuf.apart (SlBuf.apart (unhide HRow) hap) hap) hap) hap) hap) (by omega)
        · exact qx_set (qx_set (qx_set (qx_set (qx_set (qx_trans (unhide hB1) (unhide hbx)) (by omega)) (by omega)) (by omega)) (by omega)) (by omega)

end Go.Proofs.YthfoabcmgiiadaaGreatDoor
