/- A bundle. -/
import Derived.Test.YthfoabcmgiiadaaGreatDoorG04

/- ConnS8 -/
namespace Go.Proofs.YthfoabcmgiiadaaGreatDoor
open Go.RowKit Go.Joins
set_option linter.unusedVariables false

set_option maxHeartbeats 1000000 in
set_option maxRecDepth 100000 in
theorem specNext_close (c : CN) (v : Value) (w : World) (hv : RowC w v c.s) (hr : connB c = true) (h : c.o = true ∧ c.e = false) (hf : ¬ (6 ≤ c.s.length ∨ 100000 ≤ c.n)) (P : ByteArray) (m : Nat) (hm' : m ≤ c.i.size) (hR : reqR c.i = ⟨P, true, (m : Int), 0⟩) :
    Calls Tryz.prog 38 #[cnV c v] w fun e w' => AnsM (nextC c) w e w' := by
  rw [nextC_close h hf hR]
  have HV := hide hv
  obtain ⟨p, cap, rfl, _⟩ := hv.1.slice
  obtain ⟨hn0, hn1, h2, h3⟩ := connB_few hr
  have H1 := hide fun w => l08Read_any c.i w (by omega)
  rw [hR] at H1
  obtain ⟨o, e, i, s, n⟩ := c
  dsimp only [cnV] at *
  obtain ⟨rfl, rfl⟩ := h
  clear hv hr hR
  generalize hsl : s.length = l at *
  have HSL := hide hsl
  clear hsl
  have e1 : ¬ (l : Int) = 6 := by omega
  have e2 : ((l : Int) == 6) = false := by simp; omega
  have e3 : ¬ n = 100000 := by omega
  have e4 : (n == 100000) = false := by simp; omega
  have hwn : IntKind.i64.wrap (n + 1) = n + 1 := by unfold IntKind.wrap; simp [IntKind.bits, IntKind.signed]; omega
  clear hf
  go_enter Tryz.func38, Tryz.ntmps38
  go_wp2_with fail
  refine (unhide H1 _).mono ?_
  rintro ex w1 ⟨rfl, hb1⟩
  have hzn := (ZeroN.new w (.cells #[.bool true, .bool false, .string i, .slice p l cap, .int .i64 n] 25)).later hb1
  have HZ := hide hzn
  have HB := hide (qx_trans (qx_al (qx_al (qx_alloc w _))) hb1)
  have HB1 := hide (hb1.block w.heap.size (by simp; omega))
  obtain ⟨hc1, hf1⟩ := qcell hb1
  have hz1 := hb1.size
  simp at hz1
  have d1 : w.heap.size < w1.heap.size := by omega
  have d2 : w.heap.size + 1 < w1.heap.size := by omega
  have d3 : w.heap.size + 2 < w1.heap.size := by omega
  clear hzn hb1
  have hblk0 : w1.heap[w.heap.size]? = some (.cells #[.bool true, .bool false, .string i, .slice p l cap, .int .i64 n] 25 (0, 0)) := by
    rw [unhide HB1]
    exact heap_al (heap_al (heapN _ _) _) _
  have t0 : w1.cell? ⟨w.heap.size, 0, none⟩ = some (.bool true) := (cell_of_block hblk0 0).trans rfl
  have t1 : w1.cell? ⟨w.heap.size, 1, none⟩ = some (.bool false) := (cell_of_block hblk0 1).trans rfl
  have t2 : w1.cell? ⟨w.heap.size, 2, none⟩ = some (.string i) := (cell_of_block hblk0 2).trans rfl
  have t3 : w1.cell? ⟨w.heap.size, 3, none⟩ = some (.slice p l cap) := (cell_of_block hblk0 3).trans rfl
  have t4 : w1.cell? ⟨w.heap.size, 4, none⟩ = some (.int .i64 n) := (cell_of_block hblk0 4).trans rfl
  have tf1 : w1.frozen? ⟨w.heap.size, 1, none⟩ = false := unfrozen_of_block hblk0 1
  have tf2 : w1.frozen? ⟨w.heap.size, 2, none⟩ = false := unfrozen_of_block hblk0 2
  have tf4 : w1.frozen? ⟨w.heap.size, 4, none⟩ = false := unfrozen_of_block hblk0 4
  clear hblk0 hc1 hf1
  dsimp only [rrV]
  go_wp2
  obtain ⟨V, hV⟩ : ∃ V : World, V = ((((((w1.setCell ⟨w.heap.size, 4, none⟩ (.int .i64 (n + 1))).setCell ⟨w.heap.size, 2, none⟩ (.string (i.extract m i.size))).setCell ⟨w.heap.size, 2, none⟩ (.string ⟨#[]⟩)).setCell ⟨w.heap.size, 1, none⟩ (.bool true)).alloc (.cells #[.string P, .bool true] 31)).alloc (.cells #[.int .i64 n, .bool false, .string ⟨#[]⟩] 66)) := ⟨_, rfl⟩
  have hNW : NxW w V true ⟨#[]⟩ (.slice p l cap) (n + 1) w1.heap.size (w1.heap.size + 1) P true ⟨n, false, ⟨#[]⟩⟩ := by
    rw [hV]
    have hblk : w1.heap[w.heap.size]? = some (.cells #[.bool true, .bool false, .string i, .slice p l cap, .int .i64 n] 25 (0, 0)) := by
      rw [unhide HB1]
      exact heap_al (heap_al (heapN _ _) _) _
    have h2 := block_setCell (i := 1) (block_setCell (i := 2) (block_setCell (i := 2) (block_setCell (i := 4) hblk (.int .i64 (n + 1))) (.string (i.extract m i.size))) (.string ⟨#[]⟩)) (.bool true)
    exact NxW.make h2 (((((unhide HZ).set (by omega) (by omega)).set (by omega) (by omega)).set (by omega) (by omega)).set (by omega) (by omega)) (qx_set (qx_set (qx_set (qx_set (unhide HB) (Nat.le_refl _)) (Nat.le_refl _)) (Nat.le_refl _)) (Nat.le_refl _)) (by simp) P true ⟨n, false, ⟨#[]⟩⟩
  rw [← hV]
  clear hV
  have HNW := hide hNW
  have hrb : w1.heap.size ≠ w.heap.size := by omega
  have hxb : w1.heap.size + 1 ≠ w.heap.size := by omega
  have nb1 : w1.heap.size ≠ w.heap.size + 1 := by omega
  have nb2 : w1.heap.size ≠ w.heap.size + 1 + 1 := by omega
  have nb3 : w.heap.size ≠ w1.heap.size := by omega
  have nb4 : w.heap.size + 1 ≠ w1.heap.size := by omega
  have nb5 : w.heap.size + 1 + 1 ≠ w1.heap.size := by omega
  have hlt := (Array.getElem?_eq_some_iff.1 hNW.s).1
  obtain ⟨c0, c1, c2, c3, c4, r0, r1, x0, x1, x2⟩ := hNW.cells
  dsimp only at x0 x1 x2
  clear c0 c1 c2 c4 r0 r1
  have f3 := unfrozen_of_block hNW.c 3
  have HRow := hide (fun (W : World) (hb : Below V.heap.size V W) => ((unhide HV).later hNW.b).1.later hb)
  have hb0 : w.heap.size < V.heap.size := by omega
  have hb3 : w.heap.size + 3 ≤ V.heap.size := by omega
  clear hNW H1 t0 t1 t2 t3 t4 tf1 tf2 tf4 d1 d2 d3 hz1
  go_cut [] from 72 to 79 (fun wx => ∃ v', Hid (SlBuf wx (w.heap.size + 3) v' (s ++ [⟨n, false, ⟨#[]⟩⟩])) ∧ Hid (NxW w wx true ⟨#[]⟩ v' (n + 1) w1.heap.size (w1.heap.size + 1) P true ⟨n, false, ⟨#[]⟩⟩))
  case first =>
    go_region_law (first
      | (refine step_appSls _ (by rfl) _ _ (by rfl) V.heap.size _ (.slice p l cap) [] s (by rfl) (SlBuf.litB (by first | exact heapN _ _ | exact heap_al (heapN _ _) _ | exact heapN2 _ _ _) (by first | (simp; done) | (simp; omega))) (by simp) (by rfl) (unhide HRow _ (by repeat (first | exact Below.refl _ _ | refine qx_al ?_ | refine qx_drew ?_))) (by first | (simp; done) | (simp; omega)) (by have := unhide HSL; simp; omega) ?_; intro v9 w9 hR9; obtain ⟨p9, k9, hv9⟩ := hR9.row.slice; subst hv9; have hb9 : Below V.heap.size V w9 := Below.trans (by repeat (first | exact Below.refl _ _ | refine qx_al ?_ | refine qx_drew ?_)) hR9.below; have y0 := cell_later hb9 x0; have y1 := cell_later hb9 x1; have y2 := cell_later hb9 x2; have y3 := cell_later hb9 c3; have g3 := frozen_later hb9 hb0 f3; have HR9 := hide hR9.row; have HK9 := hide hR9.block; have HB9 := hide hb9; have hz9 : V.heap.size ≤ w9.heap.size := hb9.size; clear hR9 hb9)
      | (refine step_appSl _ (by rfl) _ _ (by rfl) V.heap.size _ _ ([] ++ s) ⟨n, false, ⟨#[]⟩⟩ (by rfl) ((unhide HR9).later (by repeat (first | exact Below.refl _ _ | refine qx_al ?_ | refine qx_drew ?_))) (by rfl) (by first | (simp; done) | exact (cell_of_block ((unhide HK9 _ (by first | (simp; done) | (simp; omega)) (by first | (simp [Value.ownBlock]; done) | (simp [Value.ownBlock]; omega))).trans (by first | exact heapN _ _ | exact heap_al (heapN _ _) _ | exact heapN2 _ _ _)) 0).trans rfl) (by first | (simp; done) | exact (cell_of_block ((unhide HK9 _ (by first | (simp; done) | (simp; omega)) (by first | (simp [Value.ownBlock]; done) | (simp [Value.ownBlock]; omega))).trans (by first | exact heapN _ _ | exact heap_al (heapN _ _) _ | exact heapN2 _ _ _)) 1).trans rfl) (by first | (simp; done) | exact (cell_of_block ((unhide HK9 _ (by first | (simp; done) | (simp; omega)) (by first | (simp [Value.ownBlock]; done) | (simp [Value.ownBlock]; omega))).trans (by first | exact heapN _ _ | exact heap_al (heapN _ _) _ | exact heapN2 _ _ _)) 2).trans rfl) (by first | assumption | (simp; done) | (simp; omega)) (by have := unhide HSL; simp; omega) ?_; intro vA wA hRA; obtain ⟨pA, kA, hvA⟩ := hRA.row.slice; subst hvA; have hbA : Below V.heap.size V wA := Below.trans (by repeat (first | exact unhide HB9 | refine qx_al ?_ | refine qx_drew ?_)) hRA.below; have u3 := cell_later hbA c3; have h3 := frozen_later hbA hb0 f3; have HRA := hide hRA.row; have HBA := hide hbA; clear hRA hbA))
    all_goals
      have hfin := ((unhide HNW).put (unhide HBA) hrb hxb (.slice pA ([] ++ s ++ [(⟨n, false, ⟨#[]⟩⟩ : SL)]).length kA))
      have hrow := SlBuf.mono (base' := w.heap.size + 3) ((unhide HRA).apart (b := w.heap.size) (o := 3) (u := .slice pA ([] ++ s ++ [(⟨n, false, ⟨#[]⟩⟩ : SL)]).length kA) (fun j hj => by have := (World.ownsRow.lt (unhide HRA) j hj).1; omega)) hb3
      simp only [List.nil_append, List.length_append, List.length_cons, List.length_nil, Nat.zero_add] at hfin hrow
      go_wp2
      go_meet
      exact ⟨_, hide hrow, hide hfin⟩
  case rest =>
  obtain ⟨v', hs9, hn9⟩ := hcut
  have hn := unhide hn9
  obtain ⟨c0, c1, c2, c3, c4, r0, r1, x0, x1, x2⟩ := hn.cells
  obtain ⟨p9, k9, rfl⟩ := (unhide hs9).slice
  generalize (s ++ [(⟨n, false, ⟨#[]⟩⟩ : SL)]).length = L at *
  obtain ⟨q0, q1, q2, q3, q4⟩ := hn.z.c.cells
  obtain ⟨f0, f1, f2, f3', f4⟩ := hn.z.c.free
  obtain ⟨s0, s1, g0, g1⟩ := hn.z.r.cells
  clear x0 x1 x2 hn f3 hlt
  go_wp2
  go_region
  go_wp2
  refine bodyPost_ret (v := .tuple #[cnV ⟨true, true, ⟨#[]⟩, s ++ [⟨n, false, ⟨#[]⟩⟩], n + 1⟩ (.slice p9 L k9), .agg #[.string P, .bool true], .int .i64 n, .int .i64 0]) ?_ rfl ⟨_, rfl, (nx_end (c := ⟨true, true, ⟨#[]⟩, s ++ [⟨n, false, ⟨#[]⟩⟩], n + 1⟩) (p := P) (x := true) (unhide hs9) (unhide hn9).b).1, (nx_end (c := ⟨true, true, ⟨#[]⟩, s ++ [⟨n, false, ⟨#[]⟩⟩], n + 1⟩) (p := P) (x := true) (unhide hs9) (unhide hn9).b).2⟩
  have hld := (unhide hn9).z.loadC_dr ⟨true, true, ⟨#[]⟩, s ++ [⟨n, false, ⟨#[]⟩⟩], n + 1⟩ (.slice p9 L k9) P true
  have hlr := (unhide hn9).z.loadR_dr ⟨true, true, ⟨#[]⟩, s ++ [⟨n, false, ⟨#[]⟩⟩], n + 1⟩ (.slice p9 L k9) P true
  simp only [sevenC, fiveC] at hld hlr
  simp [results, Tryz.results38, asAddr, Result.andThen, hld, hlr]

end Go.Proofs.YthfoabcmgiiadaaGreatDoor
