/- A line that is read from, and the program's ConnNext at right connections: requests read. -/
import Derived.Test.YthfoabcmgiiadaaGreatDoorConnC6
namespace Go.Proofs.YthfoabcmgiiadaaGreatDoor
open Go.RowKit Go.Joins
set_option linter.unusedVariables false

set_option maxHeartbeats 8000000 in
set_option maxRecDepth 100000 in
theorem read_more {w : World} {base b : Nat} {c : CN} {v : Value} (H : LnAt w base b c v) (hn0 : 0 ≤ c.n) (hn1 : c.n ≤ 100000) (h2 : c.i.size ≤ 400) (hm : MaxL w) (h : c.o = true ∧ c.e = false) (hf : ¬ 6 ≤ c.s.length) (hf2 : ¬ 100000 ≤ c.n) (hR : reqR c.i = RR.bad 18) :
    Calls Tryz.prog 28 #[.pointer (some ⟨b, 0, none⟩)] w fun e w' => LineN ⟨c, ⟨#[]⟩, false, 0, 18⟩ base b v w e w' := by
  obtain ⟨p1, k1, hv⟩ := H.row.slice
  subst hv
  have hbl := H.lt
  have HBB := hide (Nat.le_trans H.hb (Nat.le_of_lt H.lt))
  have HA := hide (qx_alloc w (.cells #[.string ⟨#[]⟩, .bool false] 31))
  have HLn := hide (H.later (unhide HA))
  have HZ := hide (ZeroR.new w)
  have HF := hide (LnF.of (b := b) (v := .slice p1 c.s.length k1) (unhide HA) (unhide HBB))
  have HOw := hide (fun j hj => World.ownsRow.lt H.row j hj)
  have HNe := hide H.ne
  have hbb := H.hb
  clear H
  have HM := hide (hm.later (unhide HA))
  have HRR := hide (fun w hm => ReadRequest_any c.i w (by unfold maxLen; omega) hm)
  rw [hR] at HRR
  clear hm hR
  obtain ⟨o, e, i, s, n⟩ := c
  dsimp only at *
  obtain ⟨rfl, rfl⟩ := h
  generalize hsl0 : s.length = l at *
  have HSL0 := hide hsl0
  clear hsl0
  go_enter Tryz.func28, Tryz.ntmps28
  go_wp2_with fail
  refine (takes_any (unhide HLn).b).mono ?_
  rintro ex w2 ⟨rfl, rfl⟩
  dsimp only [Bool.not_false, Bool.and_true]
  go_wp2_with fail
  refine (qsize_any (unhide HLn).b).mono ?_
  rintro ex w2 ⟨rfl, rfl⟩
  dsimp only
  rw [unhide HSL0]
  have hf' : ¬ (6 : Int) ≤ (l : Int) := by omega
  have hf2' : ¬ (100000 : Int) ≤ n := by omega
  have c4 := (unhide HLn).cells.2.2.2.2
  have c2 := (unhide HLn).cells.2.2.1
  dsimp only at c4 c2
  go_wp2_with fail
  refine (unhide HRR _ (unhide HM)).mono ?_
  rintro ex w4 ⟨rfl, hb4⟩
  have hb4' : Below (w.alloc (.cells #[.string ⟨#[]⟩, .bool false] 31)).heap.size (w.alloc (.cells #[.string ⟨#[]⟩, .bool false] 31)) (w4.alloc (.cells #[.string ⟨#[]⟩, .bool false] 31)) := qx_al hb4
  have HZ4 := hide ((unhide HZ).later hb4')
  have HL4 := hide ((unhide HLn).later hb4')
  have HB4 := hide (qx_trans (unhide HA) hb4')
  have HF4 := hide ((unhide HF).trans (LnF.of hb4' (Nat.le_trans (unhide HBB) (unhide HA).size)))
  have HQ4 := hide (ReqAt.new w4 ⟨#[]⟩ false w4.heap.size rfl 31)
  have hz4 : w.heap.size < w4.heap.size := by have := hb4.size; simp at this; omega
  dsimp only [rrV, RR.bad]
  have HZw := hide ((unhide HZ).later hb4)
  have HLw := hide ((unhide HLn).later hb4)
  have HFw := hide ((unhide HF).trans (LnF.of hb4 (Nat.le_trans (unhide HBB) (unhide HA).size)))
  clear hb4 hb4' c2 c4
  obtain ⟨b0, b1, r0, r1⟩ := (unhide HZw).cells
  have HL9 := hide (((unhide HLw).two (unhide HZw) (by omega) ⟨#[]⟩ false).later (qx_alloc _ (.cells #[.string ⟨#[]⟩, .bool false] 31)))
  have HF8 := hide ((unhide HFw).two (unhide HBB) (Nat.le_refl _) ⟨#[]⟩ false)
  have HF9 := hide ((unhide HF8).trans (LnF.of (qx_alloc _ (.cells #[.string ⟨#[]⟩, .bool false] 31)) (Nat.le_trans (unhide HBB) (unhide HF8).below.size)))
  have HR9 := hide (loadR_at (((qx_alloc (twoR w4 w.heap.size ⟨#[]⟩ false) (.cells #[.string ⟨#[]⟩, .bool false] 31)).block w.heap.size (Array.getElem?_eq_some_iff.1 ((unhide HZw).two ⟨#[]⟩ false)).1).trans ((unhide HZw).two ⟨#[]⟩ false)))
  go_wp2
  refine bodyPost_ret (v := .tuple #[.agg #[.string ⟨#[]⟩, .bool false], .int .i64 0, .int .i64 18]) ?_ rfl ⟨_, rfl, unhide HL9, unhide HF9⟩
  have hlr := unhide HR9
  simp only [twoR] at hlr
  simp [results, Tryz.results28, asAddr, Result.andThen, hlr]

set_option maxHeartbeats 8000000 in
set_option maxRecDepth 100000 in
theorem read_fault {w : World} {base b : Nat} {c : CN} {v : Value} (H : LnAt w base b c v) (hn0 : 0 ≤ c.n) (hn1 : c.n ≤ 100000) (h2 : c.i.size ≤ 400) (hm : MaxL w) (h : c.o = true ∧ c.e = false) (hf : ¬ 6 ≤ c.s.length) (hf2 : ¬ 100000 ≤ c.n) (k : Nat) (hk : k = 2 ∨ k = 3 ∨ k = 17) (ht : TabK w) (hp : PowTabW w) (hR : reqR c.i = RR.bad k) :
    Calls Tryz.prog 28 #[.pointer (some ⟨b, 0, none⟩)] w fun e w' => LineN ⟨⟨true, true, ⟨#[]⟩, c.s ++ [⟨c.n, true, faultT k⟩], c.n + 1⟩, ⟨#[]⟩, false, c.n, k⟩ base b v w e w' := by
  obtain ⟨p1, k1, hv⟩ := H.row.slice
  subst hv
  have hbl := H.lt
  have HBB := hide (Nat.le_trans H.hb (Nat.le_of_lt H.lt))
  have HA := hide (qx_alloc w (.cells #[.string ⟨#[]⟩, .bool false] 31))
  have HLn := hide (H.later (unhide HA))
  have HZ := hide (ZeroR.new w)
  have HF := hide (LnF.of (b := b) (v := .slice p1 c.s.length k1) (unhide HA) (unhide HBB))
  have HOw := hide (fun j hj => World.ownsRow.lt H.row j hj)
  have HNe := hide H.ne
  have hbb := H.hb
  clear H
  have HT := hide ht
  have HP := hide hp
  clear ht hp
  have HM := hide (hm.later (unhide HA))
  have HRR := hide (fun w hm => ReadRequest_any c.i w (by unfold maxLen; omega) hm)
  rw [hR] at HRR
  clear hm hR
  obtain ⟨o, e, i, s, n⟩ := c
  dsimp only at *
  obtain ⟨rfl, rfl⟩ := h
  generalize hsl0 : s.length = l at *
  have HSL0 := hide hsl0
  clear hsl0
  go_enter Tryz.func28, Tryz.ntmps28
  go_wp2_with fail
  refine (takes_any (unhide HLn).b).mono ?_
  rintro ex w2 ⟨rfl, rfl⟩
  dsimp only [Bool.not_false, Bool.and_true]
  go_wp2_with fail
  refine (qsize_any (unhide HLn).b).mono ?_
  rintro ex w2 ⟨rfl, rfl⟩
  dsimp only
  rw [unhide HSL0]
  have hf' : ¬ (6 : Int) ≤ (l : Int) := by omega
  have hf2' : ¬ (100000 : Int) ≤ n := by omega
  have c4 := (unhide HLn).cells.2.2.2.2
  have c2 := (unhide HLn).cells.2.2.1
  dsimp only at c4 c2
  go_wp2_with fail
  refine (unhide HRR _ (unhide HM)).mono ?_
  rintro ex w4 ⟨rfl, hb4⟩
  have hb4' : Below (w.alloc (.cells #[.string ⟨#[]⟩, .bool false] 31)).heap.size (w.alloc (.cells #[.string ⟨#[]⟩, .bool false] 31)) (w4.alloc (.cells #[.string ⟨#[]⟩, .bool false] 31)) := qx_al hb4
  have HZ4 := hide ((unhide HZ).later hb4')
  have HL4 := hide ((unhide HLn).later hb4')
  have HB4 := hide (qx_trans (unhide HA) hb4')
  have HF4 := hide ((unhide HF).trans (LnF.of hb4' (Nat.le_trans (unhide HBB) (unhide HA).size)))
  have HQ4 := hide (ReqAt.new w4 ⟨#[]⟩ false w4.heap.size rfl 31)
  have hz4 : w.heap.size < w4.heap.size := by have := hb4.size; simp at this; omega
  dsimp only [rrV, RR.bad]
  have HZw := hide ((unhide HZ).later hb4)
  have HLw := hide ((unhide HLn).later hb4)
  have HFw := hide ((unhide HF).trans (LnF.of hb4 (Nat.le_trans (unhide HBB) (unhide HA).size)))
  clear hb4 hb4' c2 c4
  have HNm := hide (number_fault k hk ((unhide HT).later (unhide HB4)) ((unhide HP).later (unhide HB4) (Nat.le_refl _)) (unhide HL4) (by show s.length ≤ 1000; rw [unhide HSL0]; omega) hn0 hn1)
  dsimp only at HNm
  have hk18 : (k : Int) ≠ 18 := by omega
  have hk18' : ((k : Int) == 18) = false := by simp; omega
  have hk18n : k ≠ 18 := by omega
  have hk0 : (k : Int) ≠ 0 := by omega
  have hk0' : ((k : Int) != 0) = true := by simp; omega
  have hk0n : k ≠ 0 := by omega
  go_wp2_with fail
  refine (unhide HNm).mono ?_
  rintro ex w5 ⟨rfl, v5, hl5, hb5, hfr5⟩
  have hown : (Value.slice p1 l k1).ownBlock ≠ some w4.heap.size := fun e => by have := unhide HOw _ e; omega
  have hown0 : (Value.slice p1 l k1).ownBlock ≠ some w.heap.size := fun e => by have := unhide HOw _ e; omega
  have HQ5 := hide (show w5.heap[w4.heap.size]? = some (.cells #[.string ⟨#[]⟩, .bool false] 31 (0, 0)) from (hfr5 w4.heap.size (by simp) (by omega) hown).trans (by show (w4.heap.push _)[w4.heap.size]? = _; rw [Array.getElem?_push, if_pos rfl]))
  have HZ5 := hide (show ZeroR w5 w.heap.size from (hfr5 w.heap.size (by simp; omega) (by omega) hown0).trans (unhide HZ4))
  have HF5 := hide ((unhide HF4).trans ⟨hb5, hfr5⟩)
  have HL5 := hide (hl5.setI (i))
  obtain ⟨p5, k5, hv5⟩ := hl5.row.slice
  subst hv5
  have c52 := hl5.cells.2.2.1
  have g52 := hl5.free 2
  have hl5t := hl5.lt
  dsimp only at c52 HL5
  generalize hs5 : (s ++ [(⟨n, true, faultT k⟩ : SL)]).length = l5 at *
  have HS5 := hide hs5
  have hw45 := hb5.size
  simp at hw45
  clear hl5 hb5 hfr5 hown hown0 hs5 HNm
  have hne41 : w4.heap.size ≠ b := by omega
  have hne14 : b ≠ w4.heap.size := by omega
  have q50 := (cell_of_block (unhide HQ5) 0).trans rfl
  have q51 := (cell_of_block (unhide HQ5) 1).trans rfl
  go_wp2_with fail
  refine (lend_any (unhide HL5)).mono ?_
  rintro ex WX ⟨rfl, hl6, hb6, hfr6⟩
  have HL6 := hide hl6
  have h0 : ∀ k, k ≠ b → WX.heap[k]? = w5.heap[k]? := fun k hk => (hfr6 k hk).trans (Below.heap_setCell _ ⟨b, 2, none⟩ _ k (by exact hk))
  have HQ6 := hide ((h0 w4.heap.size (by omega)).trans (unhide HQ5))
  have HZ6 := hide (show ZeroR WX w.heap.size from (h0 _ (by omega)).trans (unhide HZ5))
  have HF6 := hide (((unhide HF5).line hbb 2 _).trans ⟨hb6, fun k _ hkb _ => hfr6 k hkb⟩)
  dsimp only at HL6
  clear hl6 hb6 hfr6 h0 HL5 HQ5 HZ5 HF5 c52 g52 q50 q51
  have q60 := (cell_of_block (unhide HQ6) 0).trans rfl
  have q61 := (cell_of_block (unhide HQ6) 1).trans rfl
  obtain ⟨b0, b1, r0, r1⟩ := (unhide HZ6).cells
  go_wp2
  refine bodyPost_ret (v := .tuple #[.agg #[.string ⟨#[]⟩, .bool false], .int .i64 n, .int .i64 k]) ?_ rfl ⟨_, rfl, (unhide HL6).two (unhide HZ6) (by omega) ⟨#[]⟩ false, (unhide HF6).two (unhide HBB) (Nat.le_refl _) ⟨#[]⟩ false⟩
  have hlr := (unhide HZ6).load ⟨#[]⟩ false
  simp only [twoR] at hlr
  simp [results, Tryz.results28, asAddr, Result.andThen, hlr]

set_option maxHeartbeats 8000000 in
set_option maxRecDepth 100000 in
theorem read_close {w : World} {base b : Nat} {c : CN} {v : Value} (H : LnAt w base b c v) (hn0 : 0 ≤ c.n) (hn1 : c.n ≤ 100000) (h2 : c.i.size ≤ 400) (hm : MaxL w) (h : c.o = true ∧ c.e = false) (hf : ¬ 6 ≤ c.s.length) (hf2 : ¬ 100000 ≤ c.n) (P : ByteArray) (m : Nat) (hm' : m ≤ c.i.size) (hR : reqR c.i = ⟨P, true, (m : Int), 0⟩) :
    Calls Tryz.prog 28 #[.pointer (some ⟨b, 0, none⟩)] w fun e w' => LineN ⟨⟨true, true, ⟨#[]⟩, c.s ++ [⟨c.n, false, ⟨#[]⟩⟩], c.n + 1⟩, P, true, c.n, 0⟩ base b v w e w' := by
  obtain ⟨p1, k1, hv⟩ := H.row.slice
  subst hv
  have hbl := H.lt
  have HBB := hide (Nat.le_trans H.hb (Nat.le_of_lt H.lt))
  have HA := hide (qx_alloc w (.cells #[.string ⟨#[]⟩, .bool false] 31))
  have HLn := hide (H.later (unhide HA))
  have HZ := hide (ZeroR.new w)
  have HF := hide (LnF.of (b := b) (v := .slice p1 c.s.length k1) (unhide HA) (unhide HBB))
  have HOw := hide (fun j hj => World.ownsRow.lt H.row j hj)
  have HNe := hide H.ne
  have hbb := H.hb
  clear H
  have HM := hide (hm.later (unhide HA))
  have HRR := hide (fun w hm => ReadRequest_any c.i w (by unfold maxLen; omega) hm)
  rw [hR] at HRR
  clear hm hR
  obtain ⟨o, e, i, s, n⟩ := c
  dsimp only at *
  obtain ⟨rfl, rfl⟩ := h
  generalize hsl0 : s.length = l at *
  have HSL0 := hide hsl0
  clear hsl0
  go_enter Tryz.func28, Tryz.ntmps28
  go_wp2_with fail
  refine (takes_any (unhide HLn).b).mono ?_
  rintro ex w2 ⟨rfl, rfl⟩
  dsimp only [Bool.not_false, Bool.and_true]
  go_wp2_with fail
  refine (qsize_any (unhide HLn).b).mono ?_
  rintro ex w2 ⟨rfl, rfl⟩
  dsimp only
  rw [unhide HSL0]
  have hf' : ¬ (6 : Int) ≤ (l : Int) := by omega
  have hf2' : ¬ (100000 : Int) ≤ n := by omega
  have c4 := (unhide HLn).cells.2.2.2.2
  have c2 := (unhide HLn).cells.2.2.1
  dsimp only at c4 c2
  go_wp2_with fail
  refine (unhide HRR _ (unhide HM)).mono ?_
  rintro ex w4 ⟨rfl, hb4⟩
  have hb4' : Below (w.alloc (.cells #[.string ⟨#[]⟩, .bool false] 31)).heap.size (w.alloc (.cells #[.string ⟨#[]⟩, .bool false] 31)) (w4.alloc (.cells #[.string P, .bool true] 31)) := qx_al hb4
  have HZ4 := hide ((unhide HZ).later hb4')
  have HL4 := hide ((unhide HLn).later hb4')
  have HB4 := hide (qx_trans (unhide HA) hb4')
  have HF4 := hide ((unhide HF).trans (LnF.of hb4' (Nat.le_trans (unhide HBB) (unhide HA).size)))
  have HQ4 := hide (ReqAt.new w4 P true w4.heap.size rfl 31)
  have hz4 : w.heap.size < w4.heap.size := by have := hb4.size; simp at this; omega
  dsimp only [rrV, RR.bad]
  have HZw := hide ((unhide HZ).later hb4)
  have HLw := hide ((unhide HLn).later hb4)
  have HFw := hide ((unhide HF).trans (LnF.of hb4 (Nat.le_trans (unhide HBB) (unhide HA).size)))
  clear hb4 hb4' c2 c4
  have HNm := hide (number_ok (unhide HL4) (by show s.length ≤ 1000; rw [unhide HSL0]; omega) hn0 hn1)
  dsimp only at HNm
  have hmi : (m : Int) ≤ (i.size : Int) := by omega
  go_wp2_with fail
  refine (unhide HNm).mono ?_
  rintro ex w5 ⟨rfl, v5, hl5, hb5, hfr5⟩
  have hown : (Value.slice p1 l k1).ownBlock ≠ some w4.heap.size := fun e => by have := unhide HOw _ e; omega
  have hown0 : (Value.slice p1 l k1).ownBlock ≠ some w.heap.size := fun e => by have := unhide HOw _ e; omega
  have HQ5 := hide (show w5.heap[w4.heap.size]? = some (.cells #[.string P, .bool true] 31 (0, 0)) from (hfr5 w4.heap.size (by simp) (by omega) hown).trans (by show (w4.heap.push _)[w4.heap.size]? = _; rw [Array.getElem?_push, if_pos rfl]))
  have HZ5 := hide (show ZeroR w5 w.heap.size from (hfr5 w.heap.size (by simp; omega) (by omega) hown0).trans (unhide HZ4))
  have HF5 := hide ((unhide HF4).trans ⟨hb5, hfr5⟩)
  have HL5 := hide (hl5.setI (i.extract m i.size))
  obtain ⟨p5, k5, hv5⟩ := hl5.row.slice
  subst hv5
  have c52 := hl5.cells.2.2.1
  have g52 := hl5.free 2
  have hl5t := hl5.lt
  dsimp only at c52 HL5
  generalize hs5 : (s ++ [(⟨n, false, ⟨#[]⟩⟩ : SL)]).length = l5 at *
  have HS5 := hide hs5
  have hw45 := hb5.size
  simp at hw45
  clear hl5 hb5 hfr5 hown hown0 hs5 HNm
  have hne41 : w4.heap.size ≠ b := by omega
  have hne14 : b ≠ w4.heap.size := by omega
  have q50 := (cell_of_block (unhide HQ5) 0).trans rfl
  have q51 := (cell_of_block (unhide HQ5) 1).trans rfl
  go_wp2_with fail
  refine (lend_any (unhide HL5)).mono ?_
  rintro ex WX ⟨rfl, hl6, hb6, hfr6⟩
  have HL6 := hide hl6
  have h0 : ∀ k, k ≠ b → WX.heap[k]? = w5.heap[k]? := fun k hk => (hfr6 k hk).trans (Below.heap_setCell _ ⟨b, 2, none⟩ _ k (by exact hk))
  have HQ6 := hide ((h0 w4.heap.size (by omega)).trans (unhide HQ5))
  have HZ6 := hide (show ZeroR WX w.heap.size from (h0 _ (by omega)).trans (unhide HZ5))
  have HF6 := hide (((unhide HF5).line hbb 2 _).trans ⟨hb6, fun k _ hkb _ => hfr6 k hkb⟩)
  dsimp only at HL6
  clear hl6 hb6 hfr6 h0 HL5 HQ5 HZ5 HF5 c52 g52 q50 q51
  have q60 := (cell_of_block (unhide HQ6) 0).trans rfl
  have q61 := (cell_of_block (unhide HQ6) 1).trans rfl
  obtain ⟨b0, b1, r0, r1⟩ := (unhide HZ6).cells
  go_wp2
  refine bodyPost_ret (v := .tuple #[.agg #[.string P, .bool true], .int .i64 n, .int .i64 0]) ?_ rfl ⟨_, rfl, (unhide HL6).two (unhide HZ6) (by omega) P true, (unhide HF6).two (unhide HBB) (Nat.le_refl _) P true⟩
  have hlr := (unhide HZ6).load P true
  simp only [twoR] at hlr
  simp [results, Tryz.results28, asAddr, Result.andThen, hlr]

set_option maxHeartbeats 8000000 in
set_option maxRecDepth 100000 in
theorem read_ok {w : World} {base b : Nat} {c : CN} {v : Value} (H : LnAt w base b c v) (hn0 : 0 ≤ c.n) (hn1 : c.n ≤ 100000) (h2 : c.i.size ≤ 400) (hm : MaxL w) (h : c.o = true ∧ c.e = false) (hf : ¬ 6 ≤ c.s.length) (hf2 : ¬ 100000 ≤ c.n) (P : ByteArray) (m : Nat) (hm' : m ≤ c.i.size) (hR : reqR c.i = ⟨P, false, (m : Int), 0⟩) :
    Calls Tryz.prog 28 #[.pointer (some ⟨b, 0, none⟩)] w fun e w' => LineN ⟨⟨true, false, c.i.extract m c.i.size, c.s ++ [⟨c.n, false, ⟨#[]⟩⟩], c.n + 1⟩, P, false, c.n, 0⟩ base b v w e w' := by
  obtain ⟨p1, k1, hv⟩ := H.row.slice
  subst hv
  have hbl := H.lt
  have HBB := hide (Nat.le_trans H.hb (Nat.le_of_lt H.lt))
  have HA := hide (qx_alloc w (.cells #[.string ⟨#[]⟩, .bool false] 31))
  have HLn := hide (H.later (unhide HA))
  have HZ := hide (ZeroR.new w)
  have HF := hide (LnF.of (b := b) (v := .slice p1 c.s.length k1) (unhide HA) (unhide HBB))
  have HOw := hide (fun j hj => World.ownsRow.lt H.row j hj)
  have HNe := hide H.ne
  have hbb := H.hb
  clear H
  have HM := hide (hm.later (unhide HA))
  have HRR := hide (fun w hm => ReadRequest_any c.i w (by unfold maxLen; omega) hm)
  rw [hR] at HRR
  clear hm hR
  obtain ⟨o, e, i, s, n⟩ := c
  dsimp only at *
  obtain ⟨rfl, rfl⟩ := h
  generalize hsl0 : s.length = l at *
  have HSL0 := hide hsl0
  clear hsl0
  go_enter Tryz.func28, Tryz.ntmps28
  go_wp2_with fail
  refine (takes_any (unhide HLn).b).mono ?_
  rintro ex w2 ⟨rfl, rfl⟩
  dsimp only [Bool.not_false, Bool.and_true]
  go_wp2_with fail
  refine (qsize_any (unhide HLn).b).mono ?_
  rintro ex w2 ⟨rfl, rfl⟩
  dsimp only
  rw [unhide HSL0]
  have hf' : ¬ (6 : Int) ≤ (l : Int) := by omega
  have hf2' : ¬ (100000 : Int) ≤ n := by omega
  have c4 := (unhide HLn).cells.2.2.2.2
  have c2 := (unhide HLn).cells.2.2.1
  dsimp only at c4 c2
  go_wp2_with fail
  refine (unhide HRR _ (unhide HM)).mono ?_
  rintro ex w4 ⟨rfl, hb4⟩
  have hb4' : Below (w.alloc (.cells #[.string ⟨#[]⟩, .bool false] 31)).heap.size (w.alloc (.cells #[.string ⟨#[]⟩, .bool false] 31)) (w4.alloc (.cells #[.string P, .bool false] 31)) := qx_al hb4
  have HZ4 := hide ((unhide HZ).later hb4')
  have HL4 := hide ((unhide HLn).later hb4')
  have HB4 := hide (qx_trans (unhide HA) hb4')
  have HF4 := hide ((unhide HF).trans (LnF.of hb4' (Nat.le_trans (unhide HBB) (unhide HA).size)))
  have HQ4 := hide (ReqAt.new w4 P false w4.heap.size rfl 31)
  have hz4 : w.heap.size < w4.heap.size := by have := hb4.size; simp at this; omega
  dsimp only [rrV, RR.bad]
  have HZw := hide ((unhide HZ).later hb4)
  have HLw := hide ((unhide HLn).later hb4)
  have HFw := hide ((unhide HF).trans (LnF.of hb4 (Nat.le_trans (unhide HBB) (unhide HA).size)))
  clear hb4 hb4' c2 c4
  have HNm := hide (number_ok (unhide HL4) (by show s.length ≤ 1000; rw [unhide HSL0]; omega) hn0 hn1)
  dsimp only at HNm
  have hmi : (m : Int) ≤ (i.size : Int) := by omega
  go_wp2_with fail
  refine (unhide HNm).mono ?_
  rintro ex w5 ⟨rfl, v5, hl5, hb5, hfr5⟩
  have hown : (Value.slice p1 l k1).ownBlock ≠ some w4.heap.size := fun e => by have := unhide HOw _ e; omega
  have hown0 : (Value.slice p1 l k1).ownBlock ≠ some w.heap.size := fun e => by have := unhide HOw _ e; omega
  have HQ5 := hide (show w5.heap[w4.heap.size]? = some (.cells #[.string P, .bool false] 31 (0, 0)) from (hfr5 w4.heap.size (by simp) (by omega) hown).trans (by show (w4.heap.push _)[w4.heap.size]? = _; rw [Array.getElem?_push, if_pos rfl]))
  have HZ5 := hide (show ZeroR w5 w.heap.size from (hfr5 w.heap.size (by simp; omega) (by omega) hown0).trans (unhide HZ4))
  have HF5 := hide ((unhide HF4).trans ⟨hb5, hfr5⟩)
  have HL5 := hide (hl5.setI (i.extract m i.size))
  obtain ⟨p5, k5, hv5⟩ := hl5.row.slice
  subst hv5
  have c52 := hl5.cells.2.2.1
  have g52 := hl5.free 2
  have hl5t := hl5.lt
  dsimp only at c52 HL5
  generalize hs5 : (s ++ [(⟨n, false, ⟨#[]⟩⟩ : SL)]).length = l5 at *
  have HS5 := hide hs5
  have hw45 := hb5.size
  simp at hw45
  clear hl5 hb5 hfr5 hown hown0 hs5 HNm
  have hne41 : w4.heap.size ≠ b := by omega
  have hne14 : b ≠ w4.heap.size := by omega
  have h0 : ∀ k, k ≠ b → (w5.setCell ⟨b, 2, none⟩ (.string (i.extract m i.size))).heap[k]? = w5.heap[k]? := fun k hk => (Below.heap_setCell _ ⟨b, 2, none⟩ _ k (by exact hk))
  have HQ6 := hide ((h0 w4.heap.size (by omega)).trans (unhide HQ5))
  have HZ6 := hide (show ZeroR _ w.heap.size from (h0 _ (by omega)).trans (unhide HZ5))
  have HF6 := hide ((unhide HF5).line hbb 2 (.string (i.extract m i.size)))
  have HL6 := hide (unhide HL5)
  have q50 := (cell_of_block (unhide HQ5) 0).trans rfl
  have q51 := (cell_of_block (unhide HQ5) 1).trans rfl
  have q60 := (cell_of_block (unhide HQ6) 0).trans rfl
  have q61 := (cell_of_block (unhide HQ6) 1).trans rfl
  clear h0 HL5 HQ5 HZ5 HF5
  obtain ⟨b0, b1, r0, r1⟩ := (unhide HZ6).cells
  go_wp2
  refine bodyPost_ret (v := .tuple #[.agg #[.string P, .bool false], .int .i64 n, .int .i64 0]) ?_ rfl ⟨_, rfl, (unhide HL6).two (unhide HZ6) (by omega) P false, (unhide HF6).two (unhide HBB) (Nat.le_refl _) P false⟩
  have hlr := (unhide HZ6).load P false
  simp only [twoR] at hlr
  simp [results, Tryz.results28, asAddr, Result.andThen, hlr]

theorem ConnNext_more (c : CN) (v : Value) (w : World) (hv : RowSl w v c.s) (hr : connB c = true) (hm : MaxL w) (h : c.o = true ∧ c.e = false) (hf : ¬ 6 ≤ c.s.length) (hf2 : ¬ 100000 ≤ c.n) (hR : reqR c.i = RR.bad 18) :
    Calls Tryz.prog 9 #[cnV c v] w fun e w' => AnsNo ⟨c, ⟨#[]⟩, false, 0, 18⟩ w e w' :=
  ConnNext_by c _ v w hv hr fun _ _ _ _ hb H => read_more H (connB_few hr).1 (connB_few hr).2.1 (connB_few hr).2.2.1 (hm.later hb) h hf hf2 hR
theorem ConnNext_fault (c : CN) (v : Value) (w : World) (hv : RowSl w v c.s) (hr : connB c = true) (hm : MaxL w) (h : c.o = true ∧ c.e = false) (hf : ¬ 6 ≤ c.s.length) (hf2 : ¬ 100000 ≤ c.n) (k : Nat) (hk : k = 2 ∨ k = 3 ∨ k = 17) (ht : TabK w) (hp : PowTabW w) (hR : reqR c.i = RR.bad k) :
    Calls Tryz.prog 9 #[cnV c v] w fun e w' => AnsNo ⟨⟨true, true, ⟨#[]⟩, c.s ++ [⟨c.n, true, faultT k⟩], c.n + 1⟩, ⟨#[]⟩, false, c.n, k⟩ w e w' :=
  ConnNext_by c _ v w hv hr fun _ _ _ _ hb H => read_fault H (connB_few hr).1 (connB_few hr).2.1 (connB_few hr).2.2.1 (hm.later hb) h hf hf2 k hk (ht.later hb) (hp.later hb (Nat.le_refl _)) hR
theorem ConnNext_close (c : CN) (v : Value) (w : World) (hv : RowSl w v c.s) (hr : connB c = true) (hm : MaxL w) (h : c.o = true ∧ c.e = false) (hf : ¬ 6 ≤ c.s.length) (hf2 : ¬ 100000 ≤ c.n) (P : ByteArray) (m : Nat) (hm' : m ≤ c.i.size) (hR : reqR c.i = ⟨P, true, (m : Int), 0⟩) :
    Calls Tryz.prog 9 #[cnV c v] w fun e w' => AnsNo ⟨⟨true, true, ⟨#[]⟩, c.s ++ [⟨c.n, false, ⟨#[]⟩⟩], c.n + 1⟩, P, true, c.n, 0⟩ w e w' :=
  ConnNext_by c _ v w hv hr fun _ _ _ _ hb H => read_close H (connB_few hr).1 (connB_few hr).2.1 (connB_few hr).2.2.1 (hm.later hb) h hf hf2 P m hm' hR
theorem ConnNext_ok (c : CN) (v : Value) (w : World) (hv : RowSl w v c.s) (hr : connB c = true) (hm : MaxL w) (h : c.o = true ∧ c.e = false) (hf : ¬ 6 ≤ c.s.length) (hf2 : ¬ 100000 ≤ c.n) (P : ByteArray) (m : Nat) (hm' : m ≤ c.i.size) (hR : reqR c.i = ⟨P, false, (m : Int), 0⟩) :
    Calls Tryz.prog 9 #[cnV c v] w fun e w' => AnsNo ⟨⟨true, false, c.i.extract m c.i.size, c.s ++ [⟨c.n, false, ⟨#[]⟩⟩], c.n + 1⟩, P, false, c.n, 0⟩ w e w' :=
  ConnNext_by c _ v w hv hr fun _ _ _ _ hb H => read_ok H (connB_few hr).1 (connB_few hr).2.1 (connB_few hr).2.2.1 (hm.later hb) h hf hf2 P m hm' hR

end Go.Proofs.YthfoabcmgiiadaaGreatDoor
