/- The law on a job's reply. -/
import Derived.Test.YtcdjdfmpnfodiaaDoorJobW
import Derived.Test.YtcdjdfmpnfodiaaDoorJobW2
namespace Go.Proofs.YtcdjdfmpnfodiaaDoor
open Go.RowKit
set_option linter.unusedVariables false

set_option maxHeartbeats 1000000 in
theorem lawJobReply_any (L : FLay) (fs : List MF) (cap : Nat) (id cn sq si : Int) (pa : ByteArray) (bg : Bool) (st k n u : Int) (t : ByteArray) (w : World) (hrow : FramesAt w L fs) (hw : WideFs fs) (ht : t.size ≤ maxLen) (hp : pa.size ≤ maxLen) (hT : PowTab w) :
    Calls Tryd.prog 3 #[.agg #[.int .i64 id, .int .i64 cn, .int .i64 sq, .string pa, .int .i64 si, .bool bg, .slice L.p fs.length cap, .int .i64 st, .int .i64 k, .int .i64 n, .string t, .int .i64 u]] w fun e w' => e = .returned (.bool true) ∧ Below w.heap.size w w' := by
  have HR := hide hrow
  have HW := hide hw
  have HT := hide hT
  clear hrow hw hT
  have hS := fun p l c w => specJobReply_any p c l id cn sq si pa bg st k n u t w ht
  have hI := fun p l c w (h : PowTab w) => JobReply_any p c l id cn sq si pa bg st k n u t w ht h
  generalize jobP st k n t = g at hS hI
  obtain ⟨g0, g1, g2⟩ := g
  have HS := hide hS
  have HI := hide hI
  clear hS hI
  go_enter Tryd.func3, Tryd.ntmps3
  go_wp2_with fail
  refine (szJob_any L fs cap id cn sq si pa bg st ⟨k, n, t⟩ u _ ((unhide HR).later (nx_alloc _ _)) (unhide HW) ht hp).mono ?_
  rintro e w1 ⟨r, rfl, hr, hb1⟩
  obtain ⟨hc1, hf1⟩ := bcell hb1
  have hz1 : w.heap.size < w1.heap.size := by have := hb1.size; simp at this; omega
  have hB1 := hide (nx_trans (nx_alloc _ _) hb1)
  clear hb1
  rcases hr with hr | ⟨hr0, hs, hts⟩
  · go_wp2
    go_ret
    exact ⟨rfl, unhide hB1⟩
  have HSm := hide hs
  clear hs
  go_wp2_with fail
  refine (toJob_any L fs cap id cn sq si pa bg st k n t u w1 ((unhide HR).later (unhide hB1)) (unhide HSm)).mono ?_
  rintro e w2 ⟨L2, rfl, hL2, hb2⟩
  obtain ⟨hc2, hf2⟩ := bcell hb2
  have hz2 : w.heap.size < w2.heap.size := by have := hb2.size; omega
  have hB2 := hide (nx_trans (unhide hB1) hb2)
  clear hb2 hL2
  go_wp2_with fail
  refine (unhide HS _ _ _ _).mono ?_
  rintro e w3 ⟨rfl, hb3⟩
  obtain ⟨hc3, hf3⟩ := bcell hb3
  have hz3 : w.heap.size < w3.heap.size := by have := hb3.size; omega
  have hB3 := hide (nx_trans (unhide hB2) hb3)
  clear hb3
  go_wp2_with fail
  refine (toJob_any L fs cap id cn sq si pa bg st k n t u w3 ((unhide HR).later (unhide hB3)) (unhide HSm)).mono ?_
  rintro e w4 ⟨L4, rfl, hL4, hb4⟩
  obtain ⟨hc4, hf4⟩ := bcell hb4
  have hz4 : w.heap.size < w4.heap.size := by have := hb4.size; omega
  have hB4 := hide (nx_trans (unhide hB3) hb4)
  have HL4 := hide hL4
  clear hb4 hL4
  go_wp2_with fail
  refine (unhide HI _ _ _ _ ((unhide HT).later (nx_al (unhide hB4)) (Nat.le_refl _))).mono ?_
  rintro e w5 ⟨rfl, hb5⟩
  have hB5 := hide (nx_trans (nx_al (unhide hB4)) hb5)
  have HM5 := hide (((unhide HL4).later (nx_alloc _ _)).later hb5)
  have d0 : w5.cell? ⟨w.heap.size, 0, none⟩ = some (.int .i64 id) := cell_later hb5 (cell_later (nx_alloc w4 _) (by rw [hc4 _ _ hz3, hc3 _ _ hz2, hc2 _ _ hz1, hc1 _ _ (by simp)]; simp))
  have d1 : w5.cell? ⟨w.heap.size, 1, none⟩ = some (.int .i64 cn) := cell_later hb5 (cell_later (nx_alloc w4 _) (by rw [hc4 _ _ hz3, hc3 _ _ hz2, hc2 _ _ hz1, hc1 _ _ (by simp)]; simp))
  have d2 : w5.cell? ⟨w.heap.size, 2, none⟩ = some (.int .i64 sq) := cell_later hb5 (cell_later (nx_alloc w4 _) (by rw [hc4 _ _ hz3, hc3 _ _ hz2, hc2 _ _ hz1, hc1 _ _ (by simp)]; simp))
  have d3 : w5.cell? ⟨w.heap.size, 3, none⟩ = some (.string pa) := cell_later hb5 (cell_later (nx_alloc w4 _) (by rw [hc4 _ _ hz3, hc3 _ _ hz2, hc2 _ _ hz1, hc1 _ _ (by simp)]; simp))
  have d4 : w5.cell? ⟨w.heap.size, 4, none⟩ = some (.int .i64 si) := cell_later hb5 (cell_later (nx_alloc w4 _) (by rw [hc4 _ _ hz3, hc3 _ _ hz2, hc2 _ _ hz1, hc1 _ _ (by simp)]; simp))
  have d5 : w5.cell? ⟨w.heap.size, 5, none⟩ = some (.bool bg) := cell_later hb5 (cell_later (nx_alloc w4 _) (by rw [hc4 _ _ hz3, hc3 _ _ hz2, hc2 _ _ hz1, hc1 _ _ (by simp)]; simp))
  have d6 : w5.cell? ⟨w.heap.size, 6, none⟩ = some (.slice L.p fs.length cap) := cell_later hb5 (cell_later (nx_alloc w4 _) (by rw [hc4 _ _ hz3, hc3 _ _ hz2, hc2 _ _ hz1, hc1 _ _ (by simp)]; simp))
  have d7 : w5.cell? ⟨w.heap.size, 7, none⟩ = some (.int .i64 st) := cell_later hb5 (cell_later (nx_alloc w4 _) (by rw [hc4 _ _ hz3, hc3 _ _ hz2, hc2 _ _ hz1, hc1 _ _ (by simp)]; simp))
  have d8 : w5.cell? ⟨w.heap.size, 8, none⟩ = some (.int .i64 k) := cell_later hb5 (cell_later (nx_alloc w4 _) (by rw [hc4 _ _ hz3, hc3 _ _ hz2, hc2 _ _ hz1, hc1 _ _ (by simp)]; simp))
  have d9 : w5.cell? ⟨w.heap.size, 9, none⟩ = some (.int .i64 n) := cell_later hb5 (cell_later (nx_alloc w4 _) (by rw [hc4 _ _ hz3, hc3 _ _ hz2, hc2 _ _ hz1, hc1 _ _ (by simp)]; simp))
  have d10 : w5.cell? ⟨w.heap.size, 10, none⟩ = some (.string t) := cell_later hb5 (cell_later (nx_alloc w4 _) (by rw [hc4 _ _ hz3, hc3 _ _ hz2, hc2 _ _ hz1, hc1 _ _ (by simp)]; simp))
  have d11 : w5.cell? ⟨w.heap.size, 11, none⟩ = some (.int .i64 u) := cell_later hb5 (cell_later (nx_alloc w4 _) (by rw [hc4 _ _ hz3, hc3 _ _ hz2, hc2 _ _ hz1, hc1 _ _ (by simp)]; simp))
  have x0 : w5.cell? ⟨w4.heap.size, 0, none⟩ = some (.int .i64 id) := cell_later hb5 (by simp)
  have x1 : w5.cell? ⟨w4.heap.size, 1, none⟩ = some (.int .i64 cn) := cell_later hb5 (by simp)
  have x2 : w5.cell? ⟨w4.heap.size, 2, none⟩ = some (.int .i64 sq) := cell_later hb5 (by simp)
  have x3 : w5.cell? ⟨w4.heap.size, 3, none⟩ = some (.string pa) := cell_later hb5 (by simp)
  have x4 : w5.cell? ⟨w4.heap.size, 4, none⟩ = some (.int .i64 si) := cell_later hb5 (by simp)
  have x5 : w5.cell? ⟨w4.heap.size, 5, none⟩ = some (.bool bg) := cell_later hb5 (by simp)
  have x6 : w5.cell? ⟨w4.heap.size, 6, none⟩ = some (.slice L4.p fs.length fs.length) := cell_later hb5 (by simp)
  have x7 : w5.cell? ⟨w4.heap.size, 7, none⟩ = some (.int .i64 st) := cell_later hb5 (by simp)
  have x8 : w5.cell? ⟨w4.heap.size, 8, none⟩ = some (.int .i64 k) := cell_later hb5 (by simp)
  have x9 : w5.cell? ⟨w4.heap.size, 9, none⟩ = some (.int .i64 n) := cell_later hb5 (by simp)
  have x10 : w5.cell? ⟨w4.heap.size, 10, none⟩ = some (.string t) := cell_later hb5 (by simp)
  have x11 : w5.cell? ⟨w4.heap.size, 11, none⟩ = some (.int .i64 u) := cell_later hb5 (by simp)
  clear hb5 hc1 hc2 hc3 hc4 hf1 hf2 hf3 hf4 HL4
  have HX0 := hide (show w5.drew.cell? ⟨w4.heap.size, 0, none⟩ = some (.int .i64 id) from x0)
  have HX1 := hide (show w5.drew.cell? ⟨w4.heap.size, 1, none⟩ = some (.int .i64 cn) from x1)
  have HX2 := hide (show w5.drew.cell? ⟨w4.heap.size, 2, none⟩ = some (.int .i64 sq) from x2)
  have HX3 := hide (show w5.drew.cell? ⟨w4.heap.size, 3, none⟩ = some (.string pa) from x3)
  have HX4 := hide (show w5.drew.cell? ⟨w4.heap.size, 4, none⟩ = some (.int .i64 si) from x4)
  have HX5 := hide (show w5.drew.cell? ⟨w4.heap.size, 5, none⟩ = some (.bool bg) from x5)
  have HX6 := hide (show w5.drew.cell? ⟨w4.heap.size, 6, none⟩ = some (.slice L4.p fs.length fs.length) from x6)
  have HX7 := hide (show w5.drew.cell? ⟨w4.heap.size, 7, none⟩ = some (.int .i64 st) from x7)
  have HX8 := hide (show w5.drew.cell? ⟨w4.heap.size, 8, none⟩ = some (.int .i64 k) from x8)
  have HX9 := hide (show w5.drew.cell? ⟨w4.heap.size, 9, none⟩ = some (.int .i64 n) from x9)
  have HX10 := hide (show w5.drew.cell? ⟨w4.heap.size, 10, none⟩ = some (.string t) from x10)
  have HX11 := hide (show w5.drew.cell? ⟨w4.heap.size, 11, none⟩ = some (.int .i64 u) from x11)
  have HM6 := hide ((unhide HM5).later (Below.refl _ _).drew)
  have HN6 := hide ((unhide HR).later (unhide hB5).drew)
  go_wp2
  go_region_with (first | (go_at_call 6; refine (toJob_any L fs cap id cn sq si pa bg st k n t u w5.drew (unhide HN6) (unhide HSm)).mono ?_; rintro e y ⟨L6, rfl, hM6, hby⟩; have y0 := cell_later hby (unhide HX0); have y1 := cell_later hby (unhide HX1); have y2 := cell_later hby (unhide HX2); have y3 := cell_later hby (unhide HX3); have y4 := cell_later hby (unhide HX4); have y5 := cell_later hby (unhide HX5); have y6 := cell_later hby (unhide HX6); have y7 := cell_later hby (unhide HX7); have y8 := cell_later hby (unhide HX8); have y9 := cell_later hby (unhide HX9); have y10 := cell_later hby (unhide HX10); have y11 := cell_later hby (unhide HX11); have HMY := hide hM6; have HBY := hide hby; clear hM6 hby) | (go_at_call 8; refine (eqJob_same L4 L6 fs fs.length fs.length id cn sq si pa bg st k n t u y ((unhide HM6).later (unhide HBY)) (unhide HMY) (unhide HSm)).mono ?_; rintro e z ⟨rfl, hbz⟩))
  all_goals go_wp2
  all_goals go_ret
  all_goals exact ⟨rfl, nx_trans (nx_trans (nx_drew (unhide hB5)) (unhide HBY)) hbz⟩

end Go.Proofs.YtcdjdfmpnfodiaaDoor
