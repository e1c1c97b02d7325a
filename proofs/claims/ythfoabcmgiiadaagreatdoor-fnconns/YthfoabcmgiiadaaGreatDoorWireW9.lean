/- The code's reading of a request, whole. -/
import Derived.Test.YthfoabcmgiiadaaGreatDoorWireW8
namespace Go.Proofs.YthfoabcmgiiadaaGreatDoor
open Go.RowKit Go.Shelf Go.Joins
set_option linter.unusedVariables false

set_option maxHeartbeats 4000000 in
set_option maxRecDepth 100000 in
theorem readHead_any (s : ByteArray) (w : World) (hs : s.size ≤ maxLen) (hm : MaxL w) :
    Calls Tryz.prog 70 #[.string s] w (ReadPost s w) := by
  have HM := hide hm
  clear hm
  go_enter Tryz.func70, Tryz.ntmps70
  go_wp2_with fail
  refine (headLines_any s _ hs ((unhide HM).al _)).mono ?_
  rintro e w1 ⟨hb1, he⟩
  have hm1 := hide (((unhide HM).al _).later hb1)
  have hres1 := hide ((ReqAt.new w ⟨#[]⟩ false w.heap.size rfl 31).later hb1)
  have htop1 := hide (show Below w.heap.size w w1 from qx_trans (qx_alloc _ _) hb1)
  have hlow : w.heap.size + 1 ≤ w1.heap.size := by have := hb1.size; simp at this; omega
  clear HM
  rcases he with ⟨c, hc0, hR, rfl⟩ | ⟨k, v, hs6, hk, hk116, rfl, hT⟩
  · clear hb1
    obtain ⟨rc0, rc1, rf0, rf1, rl⟩ := unhide hres1
    have HR := hide hR
    have hcb : (c != 0) = true := by simp [hc0]
    have hce : (c == 0) = false := by simp [hc0]
    clear hR
    go_wp2
    refine bodyPost_ret (v := .tuple #[.agg #[.string ⟨#[]⟩, .bool false], .slice none 0 0, .int .i64 0, .int .i64 c]) (by simp [results, Tryz.results70, go_sem, rc0, rc1]) rfl ⟨qx_set (qx_set (unhide htop1) (Nat.le_refl _)) (Nat.le_refl _), .slice none 0 0, ?_, ?_⟩
    · rw [unhide HR]; rfl
    · intro h0
      rw [unhide HR] at h0
      exact absurd h0 hc0
  · obtain ⟨l, r, hlr⟩ := linesOf_cons s
    obtain ⟨hsm, hmany⟩ := lines_small hs6 hk hk116
    have htl : (linesOf s).tail = r := by rw [hlr]; rfl
    have HRF := hide fun c (hc : fstC l = c) (h0 : c ≠ 0) => reqR_first hs6 hk hk116 hlr hc h0
    have HRL := hide fun (hc : fstC l = 0) (h0 : HdsOk r = false) => reqR_line hs6 hk hk116 hlr hc h0
    have HRO := hide fun (hc : fstC l = 0) (h0 : HdsOk r = true) => reqR_ok hs6 hk hk116 hlr hc h0
    rw [hlr] at hT hsm hmany
    obtain ⟨g, cap, rfl, hc0, hcap, hg, hrest⟩ := rest_at hT
    have hlz : l.size ≤ 1000 := hsm l (by simp)
    have HSR := hide (show ∀ u ∈ r, u.size ≤ 1000 from fun u hu => hsm u (List.mem_cons_of_mem _ hu))
    have hrl : r.length ≤ 1000 := by simp at hmany; omega
    have HRS := hide hrest
    have hpos : (0 : Int) < ((r.length + 1 : Nat) : Int) := by omega
    have hone : (1 : Int) ≤ ((r.length + 1 : Nat) : Int) := by omega
    clear hT hb1 hlr hsm hmany hrest
    obtain ⟨n, hn⟩ : ∃ n, r.length + 1 = n := ⟨_, rfl⟩
    rw [hn] at hpos hone hcap ⊢
    have H1 := hide fun w => readFirstLine_any l w hlz
    by_cases hf : fstC l = 0
    · rw [if_pos hf, hf] at H1
      go_wp2_with fail
      refine (unhide H1 _ (unhide hm1)).mono ?_
      rintro e w2 ⟨rfl, hb2⟩
      have hm2 := hide ((unhide hm1).later hb2)
      have hres2 := hide ((unhide hres1).later hb2)
      have htop2 := hide (qx_trans (unhide htop1) hb2)
      have hn1 := hide (show n - 1 = r.length by omega)
      have hrl2 : w.heap.size < w2.heap.size := by have := hb2.size; omega
      have HRS2 := hide (show ∀ i (hi : i < r.length), w2.cell? ⟨g, 1 + i, none⟩ = some (.string r[i]) from fun i hi => cell_later hb2 (unhide HRS i hi))
      clear hb2
      by_cases hc1 : cap = 1
      · subst hc1
        have hr0 := hide (show r.length = 0 by omega)
        obtain rfl : n = 1 := by omega
        go_wp2_with fail
        refine (readHeaders_len r _ _ _ w2 (unhide hr0).symm (show TxtsAt w2 (some ⟨g, 0, none⟩) r from fun i hi => ⟨g, 0, rfl, by have := unhide hr0; omega⟩) (unhide HSR) hrl (unhide hm2)).mono ?_
        rintro e w3 ⟨hb3, hcase⟩
        have hres3 := hide ((unhide hres2).later hb3)
        have htop3 := hide (qx_trans (unhide htop2) hb3)
        have hl3 : w2.heap.size ≤ w3.heap.size := hb3.size
        clear hb3
        rcases hcase with ⟨hno, rfl⟩ | ⟨hyes, v, rfl, hH⟩
        · have HR := hide (unhide HRL hf hno)
          obtain ⟨rc0, rc1, rf0, rf1, rl⟩ := unhide hres3
          clear hno HRL HRO HRF
          go_wp2
          refine bodyPost_ret (v := .tuple #[.agg #[.string ⟨#[]⟩, .bool false], .slice none 0 0, .int .i64 0, .int .i64 3]) (by simp [results, Tryz.results70, go_sem, rc0, rc1]) rfl ⟨qx_set (qx_set (unhide htop3) (Nat.le_refl _)) (Nat.le_refl _), .slice none 0 0, ?_, ?_⟩
          · rw [unhide HR]; rfl
          · intro h0
            rw [unhide HR] at h0
            exact absurd h0 (by decide)
        · have HR := hide (unhide HRO hf hyes)
          have HH := hide hH
          have hpz : (fstP l).size ≤ 1000 := by
            have h1 := (cut_sizes l blankS).2
            have h2 := (cut_sizes (cutB l blankS) blankS).1
            show (cutA (cutB l blankS) blankS).size ≤ 1000
            omega
          clear hyes HRL HRO HRF hH
          go_wp2_with fail
          refine (strClone_any (fstP l) _ (by omega)).mono ?_
          rintro e w4 ⟨rfl, hb4⟩
          have HH4 := hide ((unhide HH).later hb4)
          obtain ⟨a4, c4, hv4, hat4⟩ := (unhide HH4).slice
          have HA := hide (asksToClose_any (r.map hvOf) a4 c4 w4 hat4 (hv_small (unhide HSR)) (by simp; omega))
          rw [any_hv] at HA
          rw [← hv4] at HA
          clear hat4 hv4
          go_wp2_with fail
          refine (unhide HA).mono ?_
          rintro e w5 ⟨rfl, hb5⟩
          have HH5 := hide ((unhide HH4).later hb5)
          obtain ⟨rc0, rc1, rf0, rf1, rl⟩ := ((unhide hres3).later hb4).later hb5
          have htop5 := hide (qx_trans (qx_trans (unhide htop3) hb4) hb5)
          clear hb4 hb5
          go_wp2
          refine bodyPost_ret (v := .tuple #[.agg #[.string (fstP l), .bool (r.any hShut)], v, .int .i64 ((k : Int) + 4), .int .i64 0]) (by simp [results, Tryz.results70, go_sem, rc0, rc1]) rfl ⟨qx_set (qx_set (unhide htop5) (Nat.le_refl _)) (Nat.le_refl _), v, ?_, ?_⟩
          · rw [unhide HR]
          · intro _
            rw [htl]
            exact (((unhide HH5).set (by omega)).set (by omega)).low (by omega)
      · go_wp2_with fail
        refine (readHeaders_len r _ _ _ w2 (unhide hn1) (show TxtsAt w2 (some ⟨g, 1, none⟩) r from fun i hi => ⟨g, 1, rfl, unhide HRS2 i hi⟩) (unhide HSR) hrl (unhide hm2)).mono ?_
        rintro e w3 ⟨hb3, hcase⟩
        have hres3 := hide ((unhide hres2).later hb3)
        have htop3 := hide (qx_trans (unhide htop2) hb3)
        have hl3 : w2.heap.size ≤ w3.heap.size := hb3.size
        clear hb3
        rcases hcase with ⟨hno, rfl⟩ | ⟨hyes, v, rfl, hH⟩
        · have HR := hide (unhide HRL hf hno)
          obtain ⟨rc0, rc1, rf0, rf1, rl⟩ := unhide hres3
          clear hno HRL HRO HRF
          go_wp2
          refine bodyPost_ret (v := .tuple #[.agg #[.string ⟨#[]⟩, .bool false], .slice none 0 0, .int .i64 0, .int .i64 3]) (by simp [results, Tryz.results70, go_sem, rc0, rc1]) rfl ⟨qx_set (qx_set (unhide htop3) (Nat.le_refl _)) (Nat.le_refl _), .slice none 0 0, ?_, ?_⟩
          · rw [unhide HR]; rfl
          · intro h0
            rw [unhide HR] at h0
            exact absurd h0 (by decide)
        · have HR := hide (unhide HRO hf hyes)
          have HH := hide hH
          have hpz : (fstP l).size ≤ 1000 := by
            have h1 := (cut_sizes l blankS).2
            have h2 := (cut_sizes (cutB l blankS) blankS).1
            show (cutA (cutB l blankS) blankS).size ≤ 1000
            omega
          clear hyes HRL HRO HRF hH
          go_wp2_with fail
          refine (strClone_any (fstP l) _ (by omega)).mono ?_
          rintro e w4 ⟨rfl, hb4⟩
          have HH4 := hide ((unhide HH).later hb4)
          obtain ⟨a4, c4, hv4, hat4⟩ := (unhide HH4).slice
          have HA := hide (asksToClose_any (r.map hvOf) a4 c4 w4 hat4 (hv_small (unhide HSR)) (by simp; omega))
          rw [any_hv] at HA
          rw [← hv4] at HA
          clear hat4 hv4
          go_wp2_with fail
          refine (unhide HA).mono ?_
          rintro e w5 ⟨rfl, hb5⟩
          have HH5 := hide ((unhide HH4).later hb5)
          obtain ⟨rc0, rc1, rf0, rf1, rl⟩ := ((unhide hres3).later hb4).later hb5
          have htop5 := hide (qx_trans (qx_trans (unhide htop3) hb4) hb5)
          clear hb4 hb5
          go_wp2
          refine bodyPost_ret (v := .tuple #[.agg #[.string (fstP l), .bool (r.any hShut)], v, .int .i64 ((k : Int) + 4), .int .i64 0]) (by simp [results, Tryz.results70, go_sem, rc0, rc1]) rfl ⟨qx_set (qx_set (unhide htop5) (Nat.le_refl _)) (Nat.le_refl _), v, ?_, ?_⟩
          · rw [unhide HR]
          · intro _
            rw [htl]
            exact (((unhide HH5).set (by omega)).set (by omega)).low (by omega)
    · have HR := hide (unhide HRF (fstC l) rfl hf)
      rw [if_neg hf] at H1
      generalize fstC l = c at H1 hf HR HRL HRO HRF
      have hcb : (c != 0) = true := by simp [hf]
      have hce : (c == 0) = false := by simp [hf]
      clear HRL HRO HRF
      go_wp2_with fail
      refine (unhide H1 _ (unhide hm1)).mono ?_
      rintro e w2 ⟨rfl, hb2⟩
      obtain ⟨rc0, rc1, rf0, rf1, rl⟩ := (unhide hres1).later hb2
      have htop2 := hide (qx_trans (unhide htop1) hb2)
      clear hb2
      go_wp2
      refine bodyPost_ret (v := .tuple #[.agg #[.string ⟨#[]⟩, .bool false], .slice none 0 0, .int .i64 0, .int .i64 c]) (by simp [results, Tryz.results70, go_sem, rc0, rc1]) rfl ⟨qx_set (qx_set (unhide htop2) (Nat.le_refl _)) (Nat.le_refl _), .slice none 0 0, ?_, ?_⟩
      · rw [unhide HR]; rfl
      · intro h0
        rw [unhide HR] at h0
        exact absurd h0 hf

end Go.Proofs.YthfoabcmgiiadaaGreatDoor
