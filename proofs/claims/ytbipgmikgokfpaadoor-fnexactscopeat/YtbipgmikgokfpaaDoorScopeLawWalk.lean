/- The law on ScopeAt: code and specification answer alike, and what is answered is the caller's own. -/
import Derived.Test.YtbipgmikgokfpaaDoorScopeWalk3
import Derived.Test.YtbipgmikgokfpaaDoorStrBuf
namespace Go.Proofs.YtbipgmikgokfpaaDoor
open Go.RowKit Go.Joins
set_option linter.unusedVariables false

set_option maxHeartbeats 8000000 in
set_option maxRecDepth 100000 in
theorem lawScopeAt_any (L : Lay) (ns : List TN) (root k : Int) (w : World) (hN : NodesAt w L ns) (hw : Wide ns) (_hk : (Lit.int .i64 k).wf = true) (htab : Hid (TabAt w 0 srcWords)) :
    Calls Tryd.prog 12 #[.agg #[.slice L.p ns.length L.cap, .int .i64 root], .int .i64 k] w fun e w' => e = .returned (.bool true) ∧ Below w.heap.size w w' := by
  have HN := hide hN
  have HW := hide hw
  clear hN hw
  go_enter Tryd.func12, Tryd.ntmps12
  go_wp2_with fail
  refine (szTree_any L ns L.cap root _ ((unhide HN).later (nx_alloc _ _)) (unhide HW)).mono ?_
  rintro e w1 ⟨r, rfl, hr, hb1⟩
  have hB1 := hide (nx_trans (nx_alloc _ _) hb1)
  rcases hr with hr | ⟨hr0, hs⟩
  · go_wp2
    go_ret
    exact ⟨rfl, unhide hB1⟩
  have HS := hide hs
  have hs1 : w.heap.size < w1.heap.size := by have := hb1.size; simp at this; omega
  have c1 : ∀ o, w1.cell? ⟨w.heap.size, o, none⟩ = (w.alloc (.cells #[.slice L.p ns.length L.cap, .int .i64 root] 40)).cell? ⟨w.heap.size, o, none⟩ := fun o => hb1.cell (p := ⟨w.heap.size, o, none⟩) (by simp)
  have d0 : w1.cell? ⟨w.heap.size, 0, none⟩ = some (.slice L.p ns.length L.cap) := by rw [c1]; simp
  have d1 : w1.cell? ⟨w.heap.size, 1, none⟩ = some (.int .i64 root) := by rw [c1]; simp
  clear hs hb1 c1
  go_wp2_with fail
  refine (toTree_any L ns L.cap root w1 ((unhide HN).later (unhide hB1)) (unhide HS)).mono ?_
  rintro e w2 ⟨L2, rfl, hM2, hb2⟩
  have hB2 := hide (nx_trans (unhide hB1) hb2)
  have hs2 := hb2.size
  have e0 := cell_later hb2 d0
  have e1 := cell_later hb2 d1
  have HM2 := hide hM2
  clear d0 d1 hb2 hM2
  go_wp2_with fail
  refine (specScopeAt_any ns root k L2 w2 (unhide HM2).nodes (unhide HS)).mono ?_
  rintro e w3 ⟨va, zs, ca, rfl, hra, hia, hb3⟩
  obtain ⟨pa, capa, rfl, _⟩ := hia.strs
  have hB3 := hide (nx_trans (unhide hB2) hb3)
  have hs3 := hb3.size
  have hlen := hra.len
  have d0 := cell_later hb3 e0
  have d1 := cell_later hb3 e1
  have HRA := hide hra
  have HIA := hide hia
  clear e0 e1 hb3 hra HM2 hia
  go_wp2_with fail
  refine (toTree_sh L ns L.cap root w3 ((unhide HN).later (unhide hB3)) (unhide HS)).mono ?_
  rintro e w4 ⟨L4, rfl, hM4, hb4⟩
  have hB4 := hide (nx_trans (unhide hB3) hb4)
  have hs4 := hb4.size
  have e0 := cell_later hb4 d0
  have e1 := cell_later hb4 d1
  have HM4 := hide hM4
  have HIA4 := hide ((unhide HIA).later hb4)
  have hoa : ∀ j, (Value.slice pa zs.length capa).ownBlock = some j → j < w3.heap.size := fun j hj => ((unhide HIA).own_lt j hj).2
  have HOA := hide hoa
  clear d0 d1 hb4 hM4 HIA hoa
  go_wp2_with fail
  refine (implScopeAt_any ns root k L4 _ ((unhide HM4).nodes.later (nx_alloc _ _)) (unhide HS) (unhide HM4).namesIn (hide ((unhide htab).later (nx_al (unhide hB4))))).mono ?_
  rintro e w5 ⟨vb, zsb, cb, rfl, hrb, hib, hb5⟩
  obtain ⟨rfl, rfl⟩ := hrb.det (unhide HRA)
  obtain ⟨pb, capb, rfl, _⟩ := hib.strs
  have hB5 := hide (nx_trans (nx_al (unhide hB4)) hb5)
  have hs5 : w4.heap.size < w5.heap.size := by have := hb5.size; simp at this; omega
  have d0 := cell_later hb5 (cell_later (nx_alloc w4 (.cells #[.slice L4.p ns.length L4.cap, .int .i64 root] 25)) e0)
  have d1 := cell_later hb5 (cell_later (nx_alloc w4 (.cells #[.slice L4.p ns.length L4.cap, .int .i64 root] 25)) e1)
  have x0 : w5.cell? ⟨w4.heap.size, 0, none⟩ = some (.slice L4.p ns.length L4.cap) := cell_later hb5 (by simp)
  have x1 : w5.cell? ⟨w4.heap.size, 1, none⟩ = some (.int .i64 root) := cell_later hb5 (by simp)
  have HM5 := hide (((unhide HM4).lat (Nat.le_refl _) (nx_alloc _ _)).lat (by simp) hb5)
  have HIA5 := hide (((unhide HIA4).later (nx_alloc _ _)).later hb5)
  have HIB5 : Hid (StrBuf w5 (w4.heap.size + 1) (.slice pb zsb.length capb) zsb) := hide (by simpa using hib)
  have HRB := hide hrb
  clear e0 e1 hb5 hrb HM4 HRA HIA4 hib
  have q2 : (cb != cb) = false := by simp
  have q4 : (cb == cb) = true := by simp
  go_wp2_with fail
  obtain ⟨pa', capa', ea, hia⟩ := (unhide HIA5).strs
  obtain ⟨pb', capb', eb, hib⟩ := (unhide HIB5).strs
  injection ea with ea1 _ ea2
  injection eb with eb1 _ eb2
  subst ea1 ea2 eb1 eb2
  refine (eqStringS_same pb pa zsb capb capa w5 hib hia hlen).mono ?_
  rintro e w6 ⟨rfl, hb6⟩
  have hB6 := hide (nx_trans (unhide hB5) hb6)
  have hs6 := hb6.size
  have e0 := cell_later hb6 d0
  have e1 := cell_later hb6 d1
  have y0 := cell_later hb6 x0
  have y1 := cell_later hb6 x1
  have HM6 := hide ((unhide HM5).lat (by omega) hb6)
  have HIA6 := hide ((unhide HIA5).later hb6)
  have HIB6 := hide ((unhide HIB5).later hb6)
  clear d0 d1 x0 x1 hb6 HM5 HIA5 HIB5 hia hib
  have HX0 := hide (show w6.drew.cell? ⟨w4.heap.size, 0, none⟩ = some (.slice L4.p ns.length L4.cap) from y0)
  have HX1 := hide (show w6.drew.cell? ⟨w4.heap.size, 1, none⟩ = some (.int .i64 root) from y1)
  have HE0 := hide (show w6.drew.cell? ⟨w.heap.size, 0, none⟩ = some (.slice L.p ns.length L.cap) from e0)
  have HE1 := hide (show w6.drew.cell? ⟨w.heap.size, 1, none⟩ = some (.int .i64 root) from e1)
  have HMD := hide ((unhide HM6).lat (by omega) (Below.refl _ _).drew)
  have HND := hide ((unhide HN).later (unhide hB6).drew)
  have HID : Hid (∀ y z : World, Below w6.drew.heap.size w6.drew y → Below y.heap.size y z → Below w6.heap.size w6 z) := hide fun y z h1 h2 => nx_trans (nx_trans (nx_drew (Below.refl _ _)) h1) h2
  go_wp2
  go_region_with (first | (go_at_call 25; refine (toTree_any L ns L.cap root w6.drew (unhide HND) (unhide HS)).mono ?_; rintro e y ⟨L6, rfl, hM6, hby⟩; have yy0 := cell_later hby (unhide HX0); have yy1 := cell_later hby (unhide HX1); have HMY := hide hM6; have HBY := hide hby; clear hM6 hby) | (go_at_call 27; refine (eqTree_same L4 L6 ns L4.cap L6.cap root y ((unhide HMD).nodes.later (unhide HBY)) (unhide HMY).nodes (unhide HS)).mono ?_; rintro e z ⟨rfl, hbz⟩))
  all_goals (
    have hz6 := unhide HID y z (unhide HBY) hbz
    have hsz := hz6.size
    have hBz := hide (nx_trans (unhide hB6) hz6)
    have d0 := cell_later hz6 e0
    have d1 := cell_later hz6 e1
    have x0 := cell_later hz6 y0
    have x1 := cell_later hz6 y1
    have HMz := hide ((unhide HM6).lat (by omega) hz6)
    have HIAz := hide ((unhide HIA6).later hz6)
    have HIBz := hide ((unhide HIB6).later hz6)
    clear e0 e1 y0 y1 hz6 hbz HBY HMY yy0 yy1 HM6 HIA6 HIB6 HID HX0 HX1 HE0 HE1 HMD HND
    go_wp2_with fail
    refine (markTree_sh L4 ns L4.cap root w3.heap.size w4.heap.size z (unhide HMz) (by omega) (unhide HS)).mono ?_
    rintro e w7 ⟨⟨zz, rfl, hz0, hz1⟩, hT7⟩
    have hB7 := hide ((unhide hBz).trans (hT7.1.mono (by omega)))
    have hs7 := hT7.1.size
    have e0 : w7.cell? ⟨w.heap.size, 0, none⟩ = some (.slice L.p ns.length L.cap) := by rw [hT7.1.cell (p := ⟨w.heap.size, 0, none⟩) (by show w.heap.size < w3.heap.size; omega)]; exact d0
    have e1 : w7.cell? ⟨w.heap.size, 1, none⟩ = some (.int .i64 root) := by rw [hT7.1.cell (p := ⟨w.heap.size, 1, none⟩) (by show w.heap.size < w3.heap.size; omega)]; exact d1
    have HIA7 := hide ((unhide HIAz).below hT7.1 (unhide HOA))
    have HIB7 := hide ((unhide HIBz).touch hT7 (by omega))
    have hzn : ¬ zz < 0 := by omega
    clear d0 d1 x0 x1 hT7 HMz HIAz HIBz hz0 hz1
    go_wp2_with fail
    obtain ⟨pa', capa', ea, hia⟩ := (unhide HIA7).strs
    obtain ⟨pb', capb', eb, hib⟩ := (unhide HIB7).strs
    injection ea with ea1 _ ea2
    injection eb with eb1 _ eb2
    subst ea1 ea2 eb1 eb2
    refine (eqStringS_same pb pa zsb capb capa w7 hib hia hlen).mono ?_
    rintro e w8 ⟨rfl, hb8⟩
    have hB8 := hide (nx_trans (unhide hB7) hb8)
    have hs8 := hb8.size
    have d0 := cell_later hb8 e0
    have d1 := cell_later hb8 e1
    have HIA8 := hide ((unhide HIA7).later hb8)
    have HIB8 := hide ((unhide HIB7).later hb8)
    clear e0 e1 hb8 HIA7 HIB7 hia hib
    go_wp2_with fail
    refine (markStringS_buf (w4.heap.size + 1) pb capb zsb w8 (unhide HIB8) hlen).mono ?_
    rintro e w9 ⟨rfl, hib, hb9⟩
    have hB9 := hide ((unhide hB8).trans (hb9.mono (by omega)))
    have hs9 := hb9.size
    have e0 : w9.cell? ⟨w.heap.size, 0, none⟩ = some (.slice L.p ns.length L.cap) := by rw [hb9.cell (p := ⟨w.heap.size, 0, none⟩) (by show w.heap.size < w4.heap.size + 1; omega)]; exact d0
    have e1 : w9.cell? ⟨w.heap.size, 1, none⟩ = some (.int .i64 root) := by rw [hb9.cell (p := ⟨w.heap.size, 1, none⟩) (by show w.heap.size < w4.heap.size + 1; omega)]; exact d1
    have HIA9 := hide ((unhide HIA8).below hb9 (fun j hj => by have := unhide HOA j hj; omega))
    have HIB9 := hide hib
    clear d0 d1 hb9 HIA8 HIB8 hib
    have HMK : Hid (∀ wx : World, StrBuf wx (w4.heap.size + 1) (.slice pb zsb.length capb) (marksS zsb.length) → StrsAt wx pb (marksS zsb.length)) := hide (fun wx h => by
      obtain ⟨pb', capb', eb, hib⟩ := h.strs
      injection eb with eb1 _ eb2
      subst eb1
      exact hib)
    go_wp2_with fail
    refine (heldStringS_at pb zsb.length capb w9 (unhide HMK _ (unhide HIB9)) hlen).mono ?_
    rintro e w10 ⟨rfl, hb10⟩
    have hB10 := hide (nx_trans (unhide hB9) hb10)
    have f0 := cell_later hb10 e0
    have f1 := cell_later hb10 e1
    have HIA10 := hide ((unhide HIA9).later hb10)
    have HIB10 := hide ((unhide HIB9).later hb10)
    clear e0 e1 hb10 HIA9 HIB9
    have q5 : ((1 + (zsb.length : Int)) != (1 + (zsb.length : Int))) = false := by simp
    have q6 : ((1 + (zsb.length : Int)) == (1 + (zsb.length : Int))) = true := by simp
    have q7 : ¬ (1 + (zsb.length : Int)) < 0 := by omega
    go_wp2_with fail
    refine (toTree_sh L ns L.cap root w10 ((unhide HN).later (unhide hB10)) (unhide HS)).mono ?_
    rintro e w11 ⟨L11, rfl, hM11, hb11⟩
    have hB11 := hide (nx_trans (unhide hB10) hb11)
    have hs11 := hb11.size
    have HIA11 := hide ((unhide HIA10).later hb11)
    have HIB11 := hide ((unhide HIB10).later hb11)
    have HM11 := hide hM11
    clear f0 f1 hb11 HIA10 HIB10 hM11
    go_wp2_with fail
    refine (implScopeAt_any ns root k L11 w11 (unhide HM11).nodes (unhide HS) (unhide HM11).namesIn (hide ((unhide htab).later (unhide hB11)))).mono ?_
    rintro e w12 ⟨vc, zsc, cc, rfl, hrc, hic, hb12⟩
    obtain ⟨rfl, rfl⟩ := hrc.det (unhide HRB)
    obtain ⟨pc, capc, rfl, hic'⟩ := hic.strs
    have hB12 := hide (nx_trans (unhide hB11) hb12)
    have HIA12 := hide ((unhide HIA11).later hb12)
    have HIB12 := hide ((unhide HIB11).later hb12)
    clear hb12 HIA11 HIB11 HM11 hrc hic
    obtain ⟨pa', capa', ea, hia⟩ := (unhide HIA12).strs
    injection ea with ea1 _ ea2
    subst ea1 ea2
    have HC := hide hic'
    have HA := hide hia
    clear hic' hia HIA12
    go_wp2_with fail
    refine (eqStringS_same pc pa zsc capc capa w12 (unhide HC) (unhide HA) hlen).mono ?_
    rintro e w13 ⟨rfl, hb13⟩
    have hB13 := hide (nx_trans (unhide hB12) hb13)
    have HIB13 := hide ((unhide HIB12).later hb13)
    clear hb13 HIB12 HC HA
    go_wp2_with fail
    refine (heldStringS_at pb zsc.length capb w13 (unhide HMK _ (unhide HIB13)) hlen).mono ?_
    rintro e w14 ⟨rfl, hb14⟩
    have hB14 := hide (nx_trans (unhide hB13) hb14)
    clear hb14
    go_wp2
    go_ret
    exact ⟨rfl, unhide hB14⟩)

end Go.Proofs.YtbipgmikgokfpaaDoor
