/- The program's ConnNext at right connections: requests read. -/
import Derived.Test.YtbgaodamgedlgaaGreatDoorConnC6
namespace Go.Proofs.YtbgaodamgedlgaaGreatDoor
open Go.RowKit Go.Joins
set_option linter.unusedVariables false

set_option maxHeartbeats 8000000 in
set_option maxRecDepth 100000 in
theorem ConnNext_more (c : CN) (v : Value) (w : World) (hv : RowSl w v c.s) (hr : connB c = true) (hm : MaxL w) (h : c.o = true ∧ c.e = false) (hf : ¬ 6 ≤ c.s.length) (hf2 : ¬ 100000 ≤ c.n) (hR : reqR c.i = RR.bad 18) :
    Calls Tryz.prog 8 #[cnV c v] w fun e w' => AnsNo ⟨c, ⟨#[]⟩, false, 0, 18⟩ w e w' := by
  obtain ⟨p, cap, rfl, _⟩ := hv.slice
  obtain ⟨hn0, hn1, h2, h3⟩ := connB_few hr
  have HL := hide (fun wx (hnx : Below w.heap.size w wx) => lineOf_right c (.slice p c.s.length cap) wx (hv.later hnx) hr)
  clear hv hr
  have HM := hide hm
  have HRR := hide (fun w hm => ReadRequest_any c.i w (by unfold maxLen; omega) hm)
  rw [hR] at HRR
  clear hm hR
  obtain ⟨o, e, i, s, n⟩ := c
  dsimp only [cnV] at *
  obtain ⟨rfl, rfl⟩ := h
  generalize hsl0 : s.length = l at *
  have HSL0 := hide hsl0
  clear hsl0
  go_enter Tryz.func8, Tryz.ntmps8
  go_wp2_with fail
  refine (unhide HL _ (qx_al (qx_al (qx_alloc _ _)))).mono ?_
  rintro ex w1 ⟨v1, rfl, hrow, hb1⟩
  have HZ := hide ((ZeroN.new w _).later hb1)
  have HB1 := hide (qx_trans (qx_al (qx_al (qx_alloc _ _))) hb1)
  have hz1 := hb1.size
  simp at hz1
  obtain ⟨p1, k1, rfl⟩ := hrow.slice
  have HLn := hide (LnAt.new w1 (w.heap.size + 3) ⟨true, false, i, s, n⟩ _ w1.heap.size rfl (by omega) (SlBuf.mono hrow (by simp)))
  have HBA := hide (qx_alloc w1 (.cells #[.bool true, .bool false, .string i, .slice p1 s.length k1, .int .i64 n] 57))
  clear hrow hb1 HL
  dsimp only at HLn
  rw [unhide HSL0] at HLn HBA ⊢
  go_wp2_with fail
  refine (takes_any (unhide HLn).b).mono ?_
  rintro ex w2 ⟨rfl, rfl⟩
  dsimp only [Bool.not_false, Bool.and_true]
  go_wp2_with fail
  refine (qsize_any (unhide HLn).b).mono ?_
  rintro ex w2 ⟨rfl, rfl⟩
  dsimp only
  rw [unhide HSL0]
  have hf' : ¬ (6 : Int) ≤ (l : Int) := by omega
  have hf2' : ¬ (100000 : Int) ≤ n := by omega
  have c4 := (unhide HLn).cells.2.2.2.2
  have c2 := (unhide HLn).cells.2.2.1
  dsimp only at c4 c2
  go_wp2_with fail
  refine (unhide HRR _ ((unhide HM).later (qx_trans (unhide HB1) (unhide HBA)))).mono ?_
  rintro ex w4 ⟨rfl, hb4⟩
  have HB4 := hide (qx_al (o := .cells #[.string ⟨#[]⟩, .bool false] 31) (qx_trans (qx_trans (unhide HB1) (unhide HBA)) hb4))
  have HZ4 := hide ((((unhide HZ).later (unhide HBA)).later hb4).later (qx_alloc _ (.cells #[.string ⟨#[]⟩, .bool false] 31)))
  have HL4 := hide (((unhide HLn).later hb4).later (qx_alloc _ (.cells #[.string ⟨#[]⟩, .bool false] 31)))
  have HQ4 := hide (ReqAt.new w4 ⟨#[]⟩ false w4.heap.size rfl 31)
  have hz4 : w1.heap.size < w4.heap.size := by have := hb4.size; simp at this; omega
  dsimp only [rrV, RR.bad]
  clear hb4 c2 c4
  go_wp2_with fail
  refine (conn_any (unhide HL4).b).mono ?_
  rintro ex w3 ⟨rfl, hb3⟩
  dsimp only [cnV]
  have HZ3 := hide ((unhide HZ4).later hb3)
  obtain ⟨a0, a1, a2, a3, a4⟩ := (unhide HZ3).c.cells
  obtain ⟨f0, f1, f2, f3, f4⟩ := (unhide HZ3).c.free
  obtain ⟨b0, b1, r0, r1⟩ := (unhide HZ3).r.cells
  have HRw := hide ((unhide HL4).row.row.later hb3)
  have hap := hide (fun j hj => show w.heap.size + 1 + 1 < j by have := (World.ownsRow.lt (unhide HL4).row j hj).1; omega)
  have HB3 := hide (qx_trans (unhide HB4) hb3)
  clear hb3
  go_wp2
  refine bodyPost_ret (v := .tuple #[cnV ⟨true, false, i, s, n⟩ (.slice p1 l k1), .agg #[.string ⟨#[]⟩, .bool false], .int .i64 0, .int .i64 18]) ?_ rfl ⟨_, rfl, (unhide HRw).seven (c := ⟨true, false, i, s, n⟩) (v := (.slice p1 l k1)) (p := ⟨#[]⟩) (x := false) (unhide hap), sevenC.below (c := ⟨true, false, i, s, n⟩) (v := (.slice p1 l k1)) (p := ⟨#[]⟩) (x := false) (unhide HB3) (Nat.le_succ _), fun j hj => by have := unhide hap j hj; omega⟩
  have hld := (unhide HZ3).loadC ⟨true, false, i, s, n⟩ (.slice p1 l k1) ⟨#[]⟩ false
  have hlr := (unhide HZ3).loadR ⟨true, false, i, s, n⟩ (.slice p1 l k1) ⟨#[]⟩ false
  simp only [sevenC, fiveC] at hld hlr
  simp [results, Tryz.results8, asAddr, Result.andThen, hld, hlr]

set_option maxHeartbeats 8000000 in
set_option maxRecDepth 100000 in
theorem ConnNext_fault (c : CN) (v : Value) (w : World) (hv : RowSl w v c.s) (hr : connB c = true) (hm : MaxL w) (h : c.o = true ∧ c.e = false) (hf : ¬ 6 ≤ c.s.length) (hf2 : ¬ 100000 ≤ c.n) (k : Nat) (hk : k = 2 ∨ k = 3 ∨ k = 17) (ht : TabK w) (hp : PowTabW w) (hR : reqR c.i = RR.bad k) :
    Calls Tryz.prog 8 #[cnV c v] w fun e w' => AnsNo ⟨⟨true, true, ⟨#[]⟩, c.s ++ [⟨c.n, true, faultT k⟩], c.n + 1⟩, ⟨#[]⟩, false, c.n, k⟩ w e w' := by
  obtain ⟨p, cap, rfl, _⟩ := hv.slice
  obtain ⟨hn0, hn1, h2, h3⟩ := connB_few hr
  have HL := hide (fun wx (hnx : Below w.heap.size w wx) => lineOf_right c (.slice p c.s.length cap) wx (hv.later hnx) hr)
  clear hv hr
  have HT := hide ht
  have HP := hide hp
  clear ht hp
  have HM := hide hm
  have HRR := hide (fun w hm => ReadRequest_any c.i w (by unfold maxLen; omega) hm)
  rw [hR] at HRR
  clear hm hR
  obtain ⟨o, e, i, s, n⟩ := c
  dsimp only [cnV] at *
  obtain ⟨rfl, rfl⟩ := h
  generalize hsl0 : s.length = l at *
  have HSL0 := hide hsl0
  clear hsl0
  go_enter Tryz.func8, Tryz.ntmps8
  go_wp2_with fail
  refine (unhide HL _ (qx_al (qx_al (qx_alloc _ _)))).mono ?_
  rintro ex w1 ⟨v1, rfl, hrow, hb1⟩
  have HZ := hide ((ZeroN.new w _).later hb1)
  have HB1 := hide (qx_trans (qx_al (qx_al (qx_alloc _ _))) hb1)
  have hz1 := hb1.size
  simp at hz1
  obtain ⟨p1, k1, rfl⟩ := hrow.slice
  have HLn := hide (LnAt.new w1 (w.heap.size + 3) ⟨true, false, i, s, n⟩ _ w1.heap.size rfl (by omega) (SlBuf.mono hrow (by simp)))
  have HBA := hide (qx_alloc w1 (.cells #[.bool true, .bool false, .string i, .slice p1 s.length k1, .int .i64 n] 57))
  clear hrow hb1 HL
  dsimp only at HLn
  rw [unhide HSL0] at HLn HBA ⊢
  go_wp2_with fail
  refine (takes_any (unhide HLn).b).mono ?_
  rintro ex w2 ⟨rfl, rfl⟩
  dsimp only [Bool.not_false, Bool.and_true]
  go_wp2_with fail
  refine (qsize_any (unhide HLn).b).mono ?_
  rintro ex w2 ⟨rfl, rfl⟩
  dsimp only
  rw [unhide HSL0]
  have hf' : ¬ (6 : Int) ≤ (l : Int) := by omega
  have hf2' : ¬ (100000 : Int) ≤ n := by omega
  have c4 := (unhide HLn).cells.2.2.2.2
  have c2 := (unhide HLn).cells.2.2.1
  dsimp only at c4 c2
  go_wp2_with fail
  refine (unhide HRR _ ((unhide HM).later (qx_trans (unhide HB1) (unhide HBA)))).mono ?_
  rintro ex w4 ⟨rfl, hb4⟩
  have HB4 := hide (qx_al (o := .cells #[.string ⟨#[]⟩, .bool false] 31) (qx_trans (qx_trans (unhide HB1) (unhide HBA)) hb4))
  have HZ4 := hide ((((unhide HZ).later (unhide HBA)).later hb4).later (qx_alloc _ (.cells #[.string ⟨#[]⟩, .bool false] 31)))
  have HL4 := hide (((unhide HLn).later hb4).later (qx_alloc _ (.cells #[.string ⟨#[]⟩, .bool false] 31)))
  have HQ4 := hide (ReqAt.new w4 ⟨#[]⟩ false w4.heap.size rfl 31)
  have hz4 : w1.heap.size < w4.heap.size := by have := hb4.size; simp at this; omega
  dsimp only [rrV, RR.bad]
  clear hb4 c2 c4
  have HNm := hide (number_fault k hk ((unhide HT).later (unhide HB4)) ((unhide HP).later (unhide HB4) (Nat.le_refl _)) (unhide HL4) (by show s.length ≤ 1000; rw [unhide HSL0]; omega) hn0 hn1)
  dsimp only at HNm
  have hk18 : (k : Int) ≠ 18 := by omega
  have hk18' : ((k : Int) == 18) = false := by simp; omega
  have hk18n : k ≠ 18 := by omega
  have hk0 : (k : Int) ≠ 0 := by omega
  have hk0' : ((k : Int) != 0) = true := by simp; omega
  have hk0n : k ≠ 0 := by omega
  go_wp2_with fail
  refine (unhide HNm).mono ?_
  rintro ex w5 ⟨rfl, v5, hl5, hb5, hfr5⟩
  have hown : (Value.slice p1 l k1).ownBlock ≠ some w4.heap.size := fun e => by have := (unhide HLn).row.own_lt _ e; simp at this; omega
  have HQ5 := hide (show w5.heap[w4.heap.size]? = some (.cells #[.string ⟨#[]⟩, .bool false] 31 (0, 0)) from (hfr5 w4.heap.size (by simp) (by omega) hown).trans (by show (w4.heap.push _)[w4.heap.size]? = _; rw [Array.getElem?_push, if_pos rfl]))
  have HZ5 := hide ((unhide HZ4).below hb5 (by omega))
  have hw5 : w.heap.size ≤ w.heap.size + 3 := by omega
  have HB5 := hide ((unhide HB4).trans (hb5.mono hw5))
  have HL5 := hide (hl5.setI (i))
  obtain ⟨p5, k5, hv5⟩ := hl5.row.slice
  subst hv5
  have c52 := hl5.cells.2.2.1
  have g52 := hl5.free 2
  have hl5t := hl5.lt
  dsimp only at c52 HL5
  generalize hs5 : (s ++ [(⟨n, true, faultT k⟩ : SL)]).length = l5 at *
  have HS5 := hide hs5
  clear hl5 hb5 hfr5 hown hs5 HNm
  have q50 := (cell_of_block (unhide HQ5) 0).trans rfl
  have q51 := (cell_of_block (unhide HQ5) 1).trans rfl
  have hne41 : w4.heap.size ≠ w1.heap.size := by omega
  have hne14 : w1.heap.size ≠ w4.heap.size := by omega
  go_wp2_with fail
  refine (lend_any (unhide HL5)).mono ?_
  rintro ex WX ⟨rfl, hl6, hb6, hfr6⟩
  have HL6 := hide hl6
  have h0 : ∀ k, k ≠ w1.heap.size → WX.heap[k]? = w5.heap[k]? := fun k hk => (hfr6 k hk).trans (Below.heap_setCell _ ⟨w1.heap.size, 2, none⟩ _ k (by exact hk))
  have HQ6 := hide ((h0 w4.heap.size (by omega)).trans (unhide HQ5))
  have HZ6 := hide (show ZeroN WX (w.heap.size + 1) from ⟨(h0 _ (by omega)).trans (unhide HZ5).c, (h0 _ (by omega)).trans (unhide HZ5).r⟩)
  have HB6 := hide (((unhide HB5).setCell (p := ⟨w1.heap.size, 2, none⟩) (show w.heap.size ≤ w1.heap.size by omega) _).trans (hb6.mono hw5))
  dsimp only at HL6
  clear hl6 hb6 hfr6 h0 HL5 HQ5 HZ5 HB5 c52 g52 q50 q51
  go_wp2
  have cn := hide (conn_any ((unhide HL6).later (qx_drew (Below.refl _ _))).b)
  have HZd := hide ((unhide HZ6).later (qx_drew (Below.refl _ _)))
  have q60 := (cell_of_block (unhide HQ6) 0).trans rfl
  have q61 := (cell_of_block (unhide HQ6) 1).trans rfl
  have d60 := hide (show WX.drew.cell? ⟨w4.heap.size, 0, none⟩ = some (.string ⟨#[]⟩) from q60)
  have d61 := hide (show WX.drew.cell? ⟨w4.heap.size, 1, none⟩ = some (.bool false) from q61)
  go_region_with (go_at_call 26; refine (unhide cn).mono ?_; rintro ex y ⟨rfl, hby⟩; have hq0 := cell_later hby (unhide d60); have hq1 := cell_later hby (unhide d61); have hzy := (unhide HZd).later hby; obtain ⟨a0, a1, a2, a3, a4⟩ := hzy.c.cells; obtain ⟨f0, f1, f2, f3, f4⟩ := hzy.c.free; obtain ⟨b0, b1, r0, r1⟩ := hzy.r.cells; dsimp only [cnV])
  all_goals (
    have HRw := hide (((unhide HL6).later (qx_drew (Below.refl _ _))).row.row.later hby)
    have hap := hide (fun j hj => show w.heap.size + 1 + 1 < j by have := (World.ownsRow.lt (unhide HL6).row j hj).1; omega)
    have HB7 := hide (qx_trans (qx_drew (unhide HB6)) hby)
    have HZ7 := hide hzy
    clear hby hzy hq0 hq1
    go_wp2
    refine bodyPost_ret (v := .tuple #[cnV ⟨true, true, ⟨#[]⟩, s ++ [⟨n, true, faultT k⟩], n + 1⟩ (.slice p5 l5 k5), .agg #[.string ⟨#[]⟩, .bool false], .int .i64 n, .int .i64 k]) ?_ rfl ⟨_, rfl, (unhide HRw).seven (c := ⟨true, true, ⟨#[]⟩, s ++ [⟨n, true, faultT k⟩], n + 1⟩) (v := .slice p5 l5 k5) (p := ⟨#[]⟩) (x := false) (unhide hap), sevenC.below (c := ⟨true, true, ⟨#[]⟩, s ++ [⟨n, true, faultT k⟩], n + 1⟩) (v := .slice p5 l5 k5) (p := ⟨#[]⟩) (x := false) (unhide HB7) (Nat.le_succ _), fun j hj => by have := unhide hap j hj; omega⟩
    have hld := (unhide HZ7).loadC ⟨true, true, ⟨#[]⟩, s ++ [⟨n, true, faultT k⟩], n + 1⟩ (.slice p5 l5 k5) ⟨#[]⟩ false
    have hlr := (unhide HZ7).loadR ⟨true, true, ⟨#[]⟩, s ++ [⟨n, true, faultT k⟩], n + 1⟩ (.slice p5 l5 k5) ⟨#[]⟩ false
    simp only [sevenC, fiveC] at hld hlr
    simp [results, Tryz.results8, asAddr, Result.andThen, hld, hlr])

set_option maxHeartbeats 8000000 in
set_option maxRecDepth 100000 in
theorem ConnNext_close (c : CN) (v : Value) (w : World) (hv : RowSl w v c.s) (hr : connB c = true) (hm : MaxL w) (h : c.o = true ∧ c.e = false) (hf : ¬ 6 ≤ c.s.length) (hf2 : ¬ 100000 ≤ c.n) (P : ByteArray) (m : Nat) (hm' : m ≤ c.i.size) (hR : reqR c.i = ⟨P, true, (m : Int), 0⟩) :
    Calls Tryz.prog 8 #[cnV c v] w fun e w' => AnsNo ⟨⟨true, true, ⟨#[]⟩, c.s ++ [⟨c.n, false, ⟨#[]⟩⟩], c.n + 1⟩, P, true, c.n, 0⟩ w e w' := by
  obtain ⟨p, cap, rfl, _⟩ := hv.slice
  obtain ⟨hn0, hn1, h2, h3⟩ := connB_few hr
  have HL := hide (fun wx (hnx : Below w.heap.size w wx) => lineOf_right c (.slice p c.s.length cap) wx (hv.later hnx) hr)
  clear hv hr
  have HM := hide hm
  have HRR := hide (fun w hm => ReadRequest_any c.i w (by unfold maxLen; omega) hm)
  rw [hR] at HRR
  clear hm hR
  obtain ⟨o, e, i, s, n⟩ := c
  dsimp only [cnV] at *
  obtain ⟨rfl, rfl⟩ := h
  generalize hsl0 : s.length = l at *
  have HSL0 := hide hsl0
  clear hsl0
  go_enter Tryz.func8, Tryz.ntmps8
  go_wp2_with fail
  refine (unhide HL _ (qx_al (qx_al (qx_alloc _ _)))).mono ?_
  rintro ex w1 ⟨v1, rfl, hrow, hb1⟩
  have HZ := hide ((ZeroN.new w _).later hb1)
  have HB1 := hide (qx_trans (qx_al (qx_al (qx_alloc _ _))) hb1)
  have hz1 := hb1.size
  simp at hz1
  obtain ⟨p1, k1, rfl⟩ := hrow.slice
  have HLn := hide (LnAt.new w1 (w.heap.size + 3) ⟨true, false, i, s, n⟩ _ w1.heap.size rfl (by omega) (SlBuf.mono hrow (by simp)))
  have HBA := hide (qx_alloc w1 (.cells #[.bool true, .bool false, .string i, .slice p1 s.length k1, .int .i64 n] 57))
  clear hrow hb1 HL
  dsimp only at HLn
  rw [unhide HSL0] at HLn HBA ⊢
  go_wp2_with fail
  refine (takes_any (unhide HLn).b).mono ?_
  rintro ex w2 ⟨rfl, rfl⟩
  dsimp only [Bool.not_false, Bool.and_true]
  go_wp2_with fail
  refine (qsize_any (unhide HLn).b).mono ?_
  rintro ex w2 ⟨rfl, rfl⟩
  dsimp only
  rw [unhide HSL0]
  have hf' : ¬ (6 : Int) ≤ (l : Int) := by omega
  have hf2' : ¬ (100000 : Int) ≤ n := by omega
  have c4 := (unhide HLn).cells.2.2.2.2
  have c2 := (unhide HLn).cells.2.2.1
  dsimp only at c4 c2
  go_wp2_with fail
  refine (unhide HRR _ ((unhide HM).later (qx_trans (unhide HB1) (unhide HBA)))).mono ?_
  rintro ex w4 ⟨rfl, hb4⟩
  have HB4 := hide (qx_al (o := .cells #[.string P, .bool true] 31) (qx_trans (qx_trans (unhide HB1) (unhide HBA)) hb4))
  have HZ4 := hide ((((unhide HZ).later (unhide HBA)).later hb4).later (qx_alloc _ (.cells #[.string P, .bool true] 31)))
  have HL4 := hide (((unhide HLn).later hb4).later (qx_alloc _ (.cells #[.string P, .bool true] 31)))
  have HQ4 := hide (ReqAt.new w4 P true w4.heap.size rfl 31)
  have hz4 : w1.heap.size < w4.heap.size := by have := hb4.size; simp at this; omega
  dsimp only [rrV, RR.bad]
  clear hb4 c2 c4
  have HNm := hide (number_ok (unhide HL4) (by show s.length ≤ 1000; rw [unhide HSL0]; omega) hn0 hn1)
  dsimp only at HNm
  have hmi : (m : Int) ≤ (i.size : Int) := by omega
  go_wp2_with fail
  refine (unhide HNm).mono ?_
  rintro ex w5 ⟨rfl, v5, hl5, hb5, hfr5⟩
  have hown : (Value.slice p1 l k1).ownBlock ≠ some w4.heap.size := fun e => by have := (unhide HLn).row.own_lt _ e; simp at this; omega
  have HQ5 := hide (show w5.heap[w4.heap.size]? = some (.cells #[.string P, .bool true] 31 (0, 0)) from (hfr5 w4.heap.size (by simp) (by omega) hown).trans (by show (w4.heap.push _)[w4.heap.size]? = _; rw [Array.getElem?_push, if_pos rfl]))
  have HZ5 := hide ((unhide HZ4).below hb5 (by omega))
  have hw5 : w.heap.size ≤ w.heap.size + 3 := by omega
  have HB5 := hide ((unhide HB4).trans (hb5.mono hw5))
  have HL5 := hide (hl5.setI (i.extract m i.size))
  obtain ⟨p5, k5, hv5⟩ := hl5.row.slice
  subst hv5
  have c52 := hl5.cells.2.2.1
  have g52 := hl5.free 2
  have hl5t := hl5.lt
  dsimp only at c52 HL5
  generalize hs5 : (s ++ [(⟨n, false, ⟨#[]⟩⟩ : SL)]).length = l5 at *
  have HS5 := hide hs5
  clear hl5 hb5 hfr5 hown hs5 HNm
  have q50 := (cell_of_block (unhide HQ5) 0).trans rfl
  have q51 := (cell_of_block (unhide HQ5) 1).trans rfl
  have hne41 : w4.heap.size ≠ w1.heap.size := by omega
  have hne14 : w1.heap.size ≠ w4.heap.size := by omega
  go_wp2_with fail
  refine (lend_any (unhide HL5)).mono ?_
  rintro ex WX ⟨rfl, hl6, hb6, hfr6⟩
  have HL6 := hide hl6
  have h0 : ∀ k, k ≠ w1.heap.size → WX.heap[k]? = w5.heap[k]? := fun k hk => (hfr6 k hk).trans (Below.heap_setCell _ ⟨w1.heap.size, 2, none⟩ _ k (by exact hk))
  have HQ6 := hide ((h0 w4.heap.size (by omega)).trans (unhide HQ5))
  have HZ6 := hide (show ZeroN WX (w.heap.size + 1) from ⟨(h0 _ (by omega)).trans (unhide HZ5).c, (h0 _ (by omega)).trans (unhide HZ5).r⟩)
  have HB6 := hide (((unhide HB5).setCell (p := ⟨w1.heap.size, 2, none⟩) (show w.heap.size ≤ w1.heap.size by omega) _).trans (hb6.mono hw5))
  dsimp only at HL6
  clear hl6 hb6 hfr6 h0 HL5 HQ5 HZ5 HB5 c52 g52 q50 q51
  go_wp2
  have cn := hide (conn_any ((unhide HL6).later (qx_drew (Below.refl _ _))).b)
  have HZd := hide ((unhide HZ6).later (qx_drew (Below.refl _ _)))
  have q60 := (cell_of_block (unhide HQ6) 0).trans rfl
  have q61 := (cell_of_block (unhide HQ6) 1).trans rfl
  have d60 := hide (show WX.drew.cell? ⟨w4.heap.size, 0, none⟩ = some (.string P) from q60)
  have d61 := hide (show WX.drew.cell? ⟨w4.heap.size, 1, none⟩ = some (.bool true) from q61)
  go_region_with (go_at_call 26; refine (unhide cn).mono ?_; rintro ex y ⟨rfl, hby⟩; have hq0 := cell_later hby (unhide d60); have hq1 := cell_later hby (unhide d61); have hzy := (unhide HZd).later hby; obtain ⟨a0, a1, a2, a3, a4⟩ := hzy.c.cells; obtain ⟨f0, f1, f2, f3, f4⟩ := hzy.c.free; obtain ⟨b0, b1, r0, r1⟩ := hzy.r.cells; dsimp only [cnV])
  all_goals (
    have HRw := hide (((unhide HL6).later (qx_drew (Below.refl _ _))).row.row.later hby)
    have hap := hide (fun j hj => show w.heap.size + 1 + 1 < j by have := (World.ownsRow.lt (unhide HL6).row j hj).1; omega)
    have HB7 := hide (qx_trans (qx_drew (unhide HB6)) hby)
    have HZ7 := hide hzy
    clear hby hzy hq0 hq1
    go_wp2
    refine bodyPost_ret (v := .tuple #[cnV ⟨true, true, ⟨#[]⟩, s ++ [⟨n, false, ⟨#[]⟩⟩], n + 1⟩ (.slice p5 l5 k5), .agg #[.string P, .bool true], .int .i64 n, .int .i64 0]) ?_ rfl ⟨_, rfl, (unhide HRw).seven (c := ⟨true, true, ⟨#[]⟩, s ++ [⟨n, false, ⟨#[]⟩⟩], n + 1⟩) (v := .slice p5 l5 k5) (p := P) (x := true) (unhide hap), sevenC.below (c := ⟨true, true, ⟨#[]⟩, s ++ [⟨n, false, ⟨#[]⟩⟩], n + 1⟩) (v := .slice p5 l5 k5) (p := P) (x := true) (unhide HB7) (Nat.le_succ _), fun j hj => by have := unhide hap j hj; omega⟩
    have hld := (unhide HZ7).loadC ⟨true, true, ⟨#[]⟩, s ++ [⟨n, false, ⟨#[]⟩⟩], n + 1⟩ (.slice p5 l5 k5) P true
    have hlr := (unhide HZ7).loadR ⟨true, true, ⟨#[]⟩, s ++ [⟨n, false, ⟨#[]⟩⟩], n + 1⟩ (.slice p5 l5 k5) P true
    simp only [sevenC, fiveC] at hld hlr
    simp [results, Tryz.results8, asAddr, Result.andThen, hld, hlr])

set_option maxHeartbeats 8000000 in
set_option maxRecDepth 100000 in
theorem ConnNext_ok (c : CN) (v : Value) (w : World) (hv : RowSl w v c.s) (hr : connB c = true) (hm : MaxL w) (h : c.o = true ∧ c.e = false) (hf : ¬ 6 ≤ c.s.length) (hf2 : ¬ 100000 ≤ c.n) (P : ByteArray) (m : Nat) (hm' : m ≤ c.i.size) (hR : reqR c.i = ⟨P, false, (m : Int), 0⟩) :
    Calls Tryz.prog 8 #[cnV c v] w fun e w' => AnsNo ⟨⟨true, false, c.i.extract m c.i.size, c.s ++ [⟨c.n, false, ⟨#[]⟩⟩], c.n + 1⟩, P, false, c.n, 0⟩ w e w' := by
  obtain ⟨p, cap, rfl, _⟩ := hv.slice
  obtain ⟨hn0, hn1, h2, h3⟩ := connB_few hr
  have HL := hide (fun wx (hnx : Below w.heap.size w wx) => lineOf_right c (.slice p c.s.length cap) wx (hv.later hnx) hr)
  clear hv hr
  have HM := hide hm
  have HRR := hide (fun w hm => ReadRequest_any c.i w (by unfold maxLen; omega) hm)
  rw [hR] at HRR
  clear hm hR
  obtain ⟨o, e, i, s, n⟩ := c
  dsimp only [cnV] at *
  obtain ⟨rfl, rfl⟩ := h
  generalize hsl0 : s.length = l at *
  have HSL0 := hide hsl0
  clear hsl0
  go_enter Tryz.func8, Tryz.ntmps8
  go_wp2_with fail
  refine (unhide HL _ (qx_al (qx_al (qx_alloc _ _)))).mono ?_
  rintro ex w1 ⟨v1, rfl, hrow, hb1⟩
  have HZ := hide ((ZeroN.new w _).later hb1)
  have HB1 := hide (qx_trans (qx_al (qx_al (qx_alloc _ _))) hb1)
  have hz1 := hb1.size
  simp at hz1
  obtain ⟨p1, k1, rfl⟩ := hrow.slice
  have HLn := hide (LnAt.new w1 (w.heap.size + 3) ⟨true, false, i, s, n⟩ _ w1.heap.size rfl (by omega) (SlBuf.mono hrow (by simp)))
  have HBA := hide (qx_alloc w1 (.cells #[.bool true, .bool false, .string i, .slice p1 s.length k1, .int .i64 n] 57))
  clear hrow hb1 HL
  dsimp only at HLn
  rw [unhide HSL0] at HLn HBA ⊢
  go_wp2_with fail
  refine (takes_any (unhide HLn).b).mono ?_
  rintro ex w2 ⟨rfl, rfl⟩
  dsimp only [Bool.not_false, Bool.and_true]
  go_wp2_with fail
  refine (qsize_any (unhide HLn).b).mono ?_
  rintro ex w2 ⟨rfl, rfl⟩
  dsimp only
  rw [unhide HSL0]
  have hf' : ¬ (6 : Int) ≤ (l : Int) := by omega
  have hf2' : ¬ (100000 : Int) ≤ n := by omega
  have c4 := (unhide HLn).cells.2.2.2.2
  have c2 := (unhide HLn).cells.2.2.1
  dsimp only at c4 c2
  go_wp2_with fail
  refine (unhide HRR _ ((unhide HM).later (qx_trans (unhide HB1) (unhide HBA)))).mono ?_
  rintro ex w4 ⟨rfl, hb4⟩
  have HB4 := hide (qx_al (o := .cells #[.string P, .bool false] 31) (qx_trans (qx_trans (unhide HB1) (unhide HBA)) hb4))
  have HZ4 := hide ((((unhide HZ).later (unhide HBA)).later hb4).later (qx_alloc _ (.cells #[.string P, .bool false] 31)))
  have HL4 := hide (((unhide HLn).later hb4).later (qx_alloc _ (.cells #[.string P, .bool false] 31)))
  have HQ4 := hide (ReqAt.new w4 P false w4.heap.size rfl 31)
  have hz4 : w1.heap.size < w4.heap.size := by have := hb4.size; simp at this; omega
  dsimp only [rrV, RR.bad]
  clear hb4 c2 c4
  have HNm := hide (number_ok (unhide HL4) (by show s.length ≤ 1000; rw [unhide HSL0]; omega) hn0 hn1)
  dsimp only at HNm
  have hmi : (m : Int) ≤ (i.size : Int) := by omega
  go_wp2_with fail
  refine (unhide HNm).mono ?_
  rintro ex w5 ⟨rfl, v5, hl5, hb5, hfr5⟩
  have hown : (Value.slice p1 l k1).ownBlock ≠ some w4.heap.size := fun e => by have := (unhide HLn).row.own_lt _ e; simp at this; omega
  have HQ5 := hide (show w5.heap[w4.heap.size]? = some (.cells #[.string P, .bool false] 31 (0, 0)) from (hfr5 w4.heap.size (by simp) (by omega) hown).trans (by show (w4.heap.push _)[w4.heap.size]? = _; rw [Array.getElem?_push, if_pos rfl]))
  have HZ5 := hide ((unhide HZ4).below hb5 (by omega))
  have hw5 : w.heap.size ≤ w.heap.size + 3 := by omega
  have HB5 := hide ((unhide HB4).trans (hb5.mono hw5))
  have HL5 := hide (hl5.setI (i.extract m i.size))
  obtain ⟨p5, k5, hv5⟩ := hl5.row.slice
  subst hv5
  have c52 := hl5.cells.2.2.1
  have g52 := hl5.free 2
  have hl5t := hl5.lt
  dsimp only at c52 HL5
  generalize hs5 : (s ++ [(⟨n, false, ⟨#[]⟩⟩ : SL)]).length = l5 at *
  have HS5 := hide hs5
  clear hl5 hb5 hfr5 hown hs5 HNm
  have h0 : ∀ k, k ≠ w1.heap.size → (w5.setCell ⟨w1.heap.size, 2, none⟩ (.string (i.extract m i.size))).heap[k]? = w5.heap[k]? := fun k hk => (Below.heap_setCell _ ⟨w1.heap.size, 2, none⟩ _ k (by exact hk))
  have HQ6 := hide ((h0 w4.heap.size (by omega)).trans (unhide HQ5))
  have HZ6 := hide (show ZeroN _ (w.heap.size + 1) from ⟨(h0 _ (by omega)).trans (unhide HZ5).c, (h0 _ (by omega)).trans (unhide HZ5).r⟩)
  have HB6 := hide ((unhide HB5).setCell (p := ⟨w1.heap.size, 2, none⟩) (show w.heap.size ≤ w1.heap.size by omega) (.string (i.extract m i.size)))
  have HL6 := hide (unhide HL5)
  have q60 := (cell_of_block (unhide HQ5) 0).trans rfl
  have q61 := (cell_of_block (unhide HQ5) 1).trans rfl
  clear h0 HL5 HQ5 HZ5 HB5
  go_wp2
  generalize w5.setCell ⟨w1.heap.size, 2, none⟩ (.string (i.extract m i.size)) = WX at *
  clear q60 q61
  have cn := hide (conn_any ((unhide HL6).later (qx_drew (Below.refl _ _))).b)
  have HZd := hide ((unhide HZ6).later (qx_drew (Below.refl _ _)))
  have q60 := (cell_of_block (unhide HQ6) 0).trans rfl
  have q61 := (cell_of_block (unhide HQ6) 1).trans rfl
  have d60 := hide (show WX.drew.cell? ⟨w4.heap.size, 0, none⟩ = some (.string P) from q60)
  have d61 := hide (show WX.drew.cell? ⟨w4.heap.size, 1, none⟩ = some (.bool false) from q61)
  go_region_with (go_at_call 26; refine (unhide cn).mono ?_; rintro ex y ⟨rfl, hby⟩; have hq0 := cell_later hby (unhide d60); have hq1 := cell_later hby (unhide d61); have hzy := (unhide HZd).later hby; obtain ⟨a0, a1, a2, a3, a4⟩ := hzy.c.cells; obtain ⟨f0, f1, f2, f3, f4⟩ := hzy.c.free; obtain ⟨b0, b1, r0, r1⟩ := hzy.r.cells; dsimp only [cnV])
  all_goals (
    have HRw := hide (((unhide HL6).later (qx_drew (Below.refl _ _))).row.row.later hby)
    have hap := hide (fun j hj => show w.heap.size + 1 + 1 < j by have := (World.ownsRow.lt (unhide HL6).row j hj).1; omega)
    have HB7 := hide (qx_trans (qx_drew (unhide HB6)) hby)
    have HZ7 := hide hzy
    clear hby hzy hq0 hq1
    go_wp2
    refine bodyPost_ret (v := .tuple #[cnV ⟨true, false, i.extract m i.size, s ++ [⟨n, false, ⟨#[]⟩⟩], n + 1⟩ (.slice p5 l5 k5), .agg #[.string P, .bool false], .int .i64 n, .int .i64 0]) ?_ rfl ⟨_, rfl, (unhide HRw).seven (c := ⟨true, false, i.extract m i.size, s ++ [⟨n, false, ⟨#[]⟩⟩], n + 1⟩) (v := .slice p5 l5 k5) (p := P) (x := false) (unhide hap), sevenC.below (c := ⟨true, false, i.extract m i.size, s ++ [⟨n, false, ⟨#[]⟩⟩], n + 1⟩) (v := .slice p5 l5 k5) (p := P) (x := false) (unhide HB7) (Nat.le_succ _), fun j hj => by have := unhide hap j hj; omega⟩
    have hld := (unhide HZ7).loadC ⟨true, false, i.extract m i.size, s ++ [⟨n, false, ⟨#[]⟩⟩], n + 1⟩ (.slice p5 l5 k5) P false
    have hlr := (unhide HZ7).loadR ⟨true, false, i.extract m i.size, s ++ [⟨n, false, ⟨#[]⟩⟩], n + 1⟩ (.slice p5 l5 k5) P false
    simp only [sevenC, fiveC] at hld hlr
    simp [results, Tryz.results8, asAddr, Result.andThen, hld, hlr])

end Go.Proofs.YtbgaodamgedlgaaGreatDoor
