/- The law on UsesOf: code and specification answer alike. -/
import Derived.Test.YtbipgmikgokfpaaDoorUsesWalk
import Derived.Test.YtbipgmikgokfpaaDoorTreeLaw3
namespace Go.Proofs.YtbipgmikgokfpaaDoor
open Go.RowKit Go.Joins
set_option linter.unusedVariables false

set_option maxHeartbeats 2000000 in
set_option maxRecDepth 100000 in
theorem lawUsesOf_any (L : Lay) (ns : List TN) (root : Int) (s : ByteArray) (w : World) (hN : NodesAt w L ns) (hw : Wide ns) (hsw : s.size ≤ maxLen) (htab : Hid (TabAt w 0 srcWords)) :
    Calls Tryd.prog 13 #[.agg #[.slice L.p ns.length L.cap, .int .i64 root], .string s] w fun e w' => e = .returned (.bool true) ∧ Below w.heap.size w w' := by
  have HN := hide hN
  have HW := hide hw
  clear hN hw
  unfold maxLen at hsw
  by_cases hss : 1048576 < s.size
  · go_enter Tryd.func13, Tryd.ntmps13
    go_wp2
    go_ret
    exact ⟨rfl, nx_alloc _ _⟩
  go_enter Tryd.func13, Tryd.ntmps13
  go_wp2_with fail
  refine (szTree_any L ns L.cap root _ ((unhide HN).later (nx_alloc _ _)) (unhide HW)).mono ?_
  rintro e w1 ⟨r, rfl, hr, hb1⟩
  have hB1 := hide (nx_trans (nx_alloc _ _) hb1)
  rcases hr with hr | ⟨hr0, hs⟩
  · go_wp2
    go_ret
    exact ⟨rfl, unhide hB1⟩
  have HS := hide hs
  have c1 : ∀ o, w1.cell? ⟨w.heap.size, o, none⟩ = (w.alloc (.cells #[.slice L.p ns.length L.cap, .int .i64 root] 40)).cell? ⟨w.heap.size, o, none⟩ := fun o => hb1.cell (p := ⟨w.heap.size, o, none⟩) (by simp)
  have d0 : w1.cell? ⟨w.heap.size, 0, none⟩ = some (.slice L.p ns.length L.cap) := by rw [c1]; simp
  have d1 : w1.cell? ⟨w.heap.size, 1, none⟩ = some (.int .i64 root) := by rw [c1]; simp
  clear hs hb1 c1
  go_wp2_with fail
  refine (toTree_any L ns L.cap root w1 ((unhide HN).later (unhide hB1)) (unhide HS)).mono ?_
  rintro e w2 ⟨L2, rfl, hM2, hb2⟩
  have hB2 := hide (nx_trans (unhide hB1) hb2)
  have e0 := cell_later hb2 d0
  have e1 := cell_later hb2 d1
  have HM2 := hide hM2
  clear d0 d1 hb2 hM2
  go_wp2_with fail
  refine (specUsesOf_any ns root s L2 w2 (unhide HM2).nodes (unhide HS) (by omega)).mono ?_
  rintro e w3 ⟨ra, ca, rfl, hra, hb3⟩
  have hB3 := hide (nx_trans (unhide hB2) hb3)
  have d0 := cell_later hb3 e0
  have d1 := cell_later hb3 e1
  have HRA := hide hra
  clear e0 e1 hb3 hra HM2
  go_wp2_with fail
  refine (toTree_any L ns L.cap root w3 ((unhide HN).later (unhide hB3)) (unhide HS)).mono ?_
  rintro e w4 ⟨L4, rfl, hM4, hb4⟩
  have hB4 := hide (nx_trans (unhide hB3) hb4)
  have e0 := cell_later hb4 d0
  have e1 := cell_later hb4 d1
  have HM4 := hide hM4
  clear d0 d1 hb4 hM4
  go_wp2_with fail
  refine (implUsesOf_any ns root s L4 _ ((unhide HM4).nodes.later (nx_alloc _ _)) (unhide HS) (by omega) (hide ((unhide htab).later (nx_al (unhide hB4))))).mono ?_
  rintro e w5 ⟨rb, cb, rfl, hrb, hb5⟩
  obtain ⟨rfl, rfl⟩ := hrb.det (unhide HRA)
  have hB5 := hide (nx_trans (nx_al (unhide hB4)) hb5)
  have d0 := cell_later hb5 (cell_later (nx_alloc w4 (.cells #[.slice L4.p ns.length L4.cap, .int .i64 root] 25)) e0)
  have d1 := cell_later hb5 (cell_later (nx_alloc w4 (.cells #[.slice L4.p ns.length L4.cap, .int .i64 root] 25)) e1)
  have x0 : w5.cell? ⟨w4.heap.size, 0, none⟩ = some (.slice L4.p ns.length L4.cap) := cell_later hb5 (by simp)
  have x1 : w5.cell? ⟨w4.heap.size, 1, none⟩ = some (.int .i64 root) := cell_later hb5 (by simp)
  have HM5 := hide (((unhide HM4).nodes.later (nx_alloc _ _)).later hb5)
  clear e0 e1 hb5 hrb HM4 HRA
  have HX0 := hide (show w5.drew.cell? ⟨w4.heap.size, 0, none⟩ = some (.slice L4.p ns.length L4.cap) from x0)
  have HX1 := hide (show w5.drew.cell? ⟨w4.heap.size, 1, none⟩ = some (.int .i64 root) from x1)
  have HM6 := hide ((unhide HM5).later (Below.refl _ _).drew)
  have HN6 := hide ((unhide HN).later (unhide hB5).drew)
  have q1 : (rb != rb) = false := by simp
  have q2 : (cb != cb) = false := by simp
  have q3 : (rb == rb) = true := by simp
  have q4 : (cb == cb) = true := by simp
  go_wp2
  go_region_with (first | (go_at_call 25; refine (toTree_any L ns L.cap root w5.drew (unhide HN6) (unhide HS)).mono ?_; rintro e y ⟨L6, rfl, hM6, hby⟩; have y0 := cell_later hby (unhide HX0); have y1 := cell_later hby (unhide HX1); have HMY := hide hM6; have HBY := hide hby; clear hM6 hby) | (go_at_call 27; refine (eqTree_same L4 L6 ns L4.cap L6.cap root y ((unhide HM6).later (unhide HBY)) (unhide HMY).nodes (unhide HS)).mono ?_; rintro e z ⟨rfl, hbz⟩))
  all_goals go_wp2
  all_goals go_ret
  all_goals exact ⟨rfl, nx_trans (nx_trans (nx_drew (unhide hB5)) (unhide HBY)) hbz⟩

end Go.Proofs.YtbipgmikgokfpaaDoor
