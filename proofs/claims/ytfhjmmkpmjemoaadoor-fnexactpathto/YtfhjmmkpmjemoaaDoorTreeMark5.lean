/- 'markNodeS' and 'markTree'. -/
import Derived.Test.YtfhjmmkpmjemoaaDoorTreeMark4
namespace Go.Proofs.YtfhjmmkpmjemoaaDoor
open Go.RowKit Go.Joins
set_option linter.unusedVariables false

set_option maxHeartbeats 4000000 in
set_option maxRecDepth 100000 in
theorem markNodeS_sh (L : Lay) (ns : List TN) (g B E cap : Nat) (w : World) (hrow : Markg w L ns g B E) (hs : Small ns) :
    Calls Tryd.prog 49 #[.slice (some ⟨g, 0, none⟩) ns.length cap, .int .i64 1] w fun e w' => (∃ z : Int, e = .returned (.int .i64 z) ∧ 1 ≤ z ∧ z ≤ 1 + 2097155 * (ns.length : Int)) ∧ Touch B E w w' := by
  have HM := hide hrow
  have HS := hide hs.2
  have hn := hs.1
  clear hrow hs
  go_enter Tryd.func49, Tryd.ntmps49
  go_wp2
  go_loopw [1, 5] (fun m i wx => ∃ (k : Nat) (z : Int), k ≤ ns.length ∧ i = .int .i64 k ∧ m = .int .i64 z ∧ 1 ≤ z ∧ z ≤ 1 + 2097155 * (k : Int) ∧ Hid (Markg wx L ns g B E) ∧ Hid (Touch B E w wx)) (fun _ i _ => ns.length - (intOf i).toNat)
  case atStart => exact ⟨0, 1, by omega, rfl, rfl, by omega, by omega, HM, hide (Touch.refl _ _ _)⟩
  case round =>
    clear HM
    obtain ⟨k, z, hk, rfl, rfl, hz0, hz1, hM, hT⟩ := hrel
    by_cases hlt : k < ns.length
    · obtain ⟨g1, g2, e1, a1, a2, _, e2, b1, b2, _⟩ := (unhide hM).parts k hlt
      have hsm := unhide HS ns[k] (List.getElem_mem hlt)
      have HK : Hid (∀ wx : World, Markg wx L ns g B E → wx.cell? ⟨g, k * 5 + 3, none⟩ = some (.slice (some ⟨g1, 0, none⟩) ns[k].names.length (L.cn k)) ∧ wx.cell? ⟨g, k * 5 + 4, none⟩ = some (.slice (some ⟨g2, 0, none⟩) ns[k].kids.length (L.ck k)) ∧ RowSh wx g1 9 ns[k].names.length ∧ RowSh wx g2 3 ns[k].kids.length) := hide (fun wx hx => by
        have c := hx.slices hlt
        rw [e1, e2] at c
        exact ⟨c.1, c.2, hx.rows hlt e1 e2⟩)
      have hnl := hsm.2.1
      have hkl := hsm.2.2.1
      clear hsm e1 e2
      generalize ns[k].names.length = nl at HK hnl
      generalize ns[k].kids.length = kl at HK hkl
      generalize L.cn k = cn at HK
      generalize L.ck k = ck at HK
      obtain ⟨u0, c0⟩ := (unhide hM).cell (i := k * 5) (by omega)
      obtain ⟨u1, c1⟩ := (unhide hM).cell (i := k * 5 + 1) (by omega)
      have f0 := (unhide hM).free
      have hlo := (unhide hM).lo
      have hhi := (unhide hM).hi
      have HA : Hid (Markg ((wr.setCell ⟨g, k * 5, none⟩ (.int .i64 z)).setCell ⟨g, k * 5 + 1, none⟩ (.int .i64 (z + 1))) L ns g B E) := hide (((unhide hM).store k 0 _ (by omega)).store k 1 _ (by omega))
      have TA : Hid (Touch B E w ((wr.setCell ⟨g, k * 5, none⟩ (.int .i64 z)).setCell ⟨g, k * 5 + 1, none⟩ (.int .i64 (z + 1)))) := hide (((unhide hT).set hlo hhi).set hlo hhi)
      clear hM hT
      go_wp2_with fail
      refine (markText_some _ _ (by omega) (by omega)).mono ?_
      rintro e w1 ⟨⟨t, rfl, hts⟩, hb1⟩
      have H1 := hide ((unhide HA).later hb1)
      have T1 := hide ((unhide TA).trans (Touch.of E hb1 (Nat.le_trans hlo (Nat.le_trans (Nat.le_of_lt hhi) (unhide HA).fit))))
      have HB : Hid (Markg (w1.setCell ⟨g, k * 5 + 2, none⟩ (.string t)) L ns g B E) := hide ((unhide H1).store k 2 _ (by omega))
      have TB : Hid (Touch B E w (w1.setCell ⟨g, k * 5 + 2, none⟩ (.string t))) := hide ((unhide T1).set hlo hhi)
      obtain ⟨u2, c2⟩ := (unhide H1).cell (i := k * 5 + 2) (by omega)
      have f1 := (unhide H1).free
      have c3 := (unhide HK _ (unhide H1)).1
      have c3' := (unhide HK _ (unhide HB)).1
      clear H1 T1 hb1 HA TA c0 c1 f0
      go_wp2_with fail
      refine (markStringS_sh g1 nl cn _ _ (unhide HK _ (unhide HB)).2.2.1 hnl (by omega) (by omega)).mono ?_
      rintro e w2 ⟨rfl, hR2, hT2⟩
      have H2 := hide ((unhide HB).row (unhide HK _ (unhide HB)).2.2.1 hR2 hT2 (by decide))
      have T2 := hide ((unhide TB).trans (hT2.wid a1 (by omega)))
      have c4 := (unhide HK _ (unhide H2)).2.1
      clear HB TB hR2 hT2 c2 c3 c3' f1
      go_wp2_with fail
      refine (markIntS_sh g2 kl ck _ _ (unhide HK _ (unhide H2)).2.2.2 hkl (by omega) (by omega)).mono ?_
      rintro e w3 ⟨rfl, hR3, hT3⟩
      have H3 := hide ((unhide H2).row (unhide HK _ (unhide H2)).2.2.2 hR3.sh hT3 (by decide))
      have T3 := hide ((unhide T2).trans (hT3.wid b1 (by omega)))
      clear H2 T2 hR3 hT3 c4
      go_wp2
      go_roundw
      case rel => exact ⟨k + 1, _, by omega, by go_num, rfl, by omega, by omega, H3, T3⟩
      case measure => simp [intOf]; omega
    · obtain rfl : k = ns.length := by omega
      go_wp2
      go_ret
      exact ⟨⟨_, rfl, hz0, hz1⟩, unhide hT⟩

set_option maxHeartbeats 1000000 in
theorem markTree_sh (L : Lay) (ns : List TN) (cap : Nat) (root : Int) (B E : Nat) (w : World) (hrow : MadR w L ns B E) (hE : E ≤ w.heap.size) (hs : Small ns) :
    Calls Tryd.prog 22 #[.agg #[.slice L.p ns.length cap, .int .i64 root], .int .i64 1] w fun e w' => (∃ z : Int, e = .returned (.int .i64 z) ∧ 1 ≤ z ∧ z ≤ 1 + 2097155 * (ns.length : Int)) ∧ Touch B E w w' := by
  obtain ⟨g, hp, hM⟩ := hrow.markg hE
  rw [hp]
  have hB : B ≤ w.heap.size := Nat.le_trans hM.lo (Nat.le_trans (Nat.le_of_lt hM.hi) hM.fit)
  have HM := hide hM
  have HS := hide hs
  clear hrow hM hs hp
  go_enter Tryd.func22, Tryd.ntmps22
  go_wp2_with fail
  refine (markNodeS_sh L ns g B E cap _ ((unhide HM).later (nx_alloc _ _)) (unhide HS)).mono ?_
  rintro e w1 ⟨⟨z, rfl, hz0, hz1⟩, hT⟩
  have HT := hide ((Touch.of E (nx_alloc _ _) hB).trans hT)
  clear hT
  go_wp2
  go_ret
  exact ⟨⟨z, rfl, hz0, hz1⟩, unhide HT⟩
end Go.Proofs.YtfhjmmkpmjemoaaDoor
