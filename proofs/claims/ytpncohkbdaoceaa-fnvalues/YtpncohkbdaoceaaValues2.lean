/- The law on values. -/
import Derived.Test.YtpncohkbdaoceaaValues1
namespace Go.Proofs.Ytpncohkbdaoceaa
open Go.RowKit
set_option linter.unusedVariables false

theorem rowLen {k : IntKind} {w : World} {a : Option Addr} {len cap : Nat} {zs : List Int} (h : IsRow k w a len cap zs) : len ≤ 9223372036854775807 := by
  rcases h with ⟨_, rfl, _, _⟩ | ⟨x, _, hl, hm, _⟩
  · omega
  · unfold maxLen at hm; omega

set_option maxRecDepth 100000 in
set_option maxHeartbeats 16000000 in
theorem lawValues_any (a0 : Option Addr) (len0 cap0 : Nat) (z0 : List Int) (a1 : Option Addr) (len1 cap1 : Nat) (z1 : List Int) (w : World) (h0 : IsRow .u8 w a0 len0 cap0 z0) (h1 : IsRow .u8 w a1 len1 cap1 z1) :
    Calls Try.prog 3 #[.slice a0 len0 cap0, .slice a1 len1 cap1] w fun e w' => e = .returned (.bool true) ∧ Below w.heap.size w w' := by
  have hl0 := rowLen h0
  have hl1 := rowLen h1
  have H0 := hide (byteRow_of h0)
  have H1 := hide (byteRow_of h1)
  clear h0 h1
  by_cases g0 : 1048576 < len0
  · go_enter Try.func3, Try.ntmps3
    go_wp2
    go_ret
    exact ⟨rfl, Below.refl _ _⟩
  by_cases g1 : 1048576 < len1
  · go_enter Try.func3, Try.ntmps3
    go_wp2
    go_ret
    exact ⟨rfl, Below.refl _ _⟩
  go_enter Try.func3, Try.ntmps3
  go_wp2_with fail
  refine (ValueOf_any a0 len0 cap0 _ (by omega) (unhide H0)).mono ?_
  rintro e w1 ⟨ka, na, ta, rfl, hva, hsa, hb1⟩
  have hB1 := hide hb1
  clear hb1
  have HVA := hide hva
  clear hva hsa
  go_wp2_with fail
  refine (ValueOf_any a1 len1 cap1 _ (by omega) ((unhide H1).later (nx_al (unhide hB1)))).mono ?_
  rintro e w2 ⟨kb, nb, tb, rfl, hvb, hsb, hb2⟩
  have f2_0_0 : Hid (w2.cell? ⟨w1.heap.size, 0, none⟩ = some (.int .i64 ka)) := cell_later hb2 (by first | (simp; done) | (simp [World.cell?_alloc_at, World.cell?_alloc_past]; done) | (rw [World.cell?_alloc_lt _ _ _ (by simp <;> omega)]; simp))
  have f2_0_1 : Hid (w2.cell? ⟨w1.heap.size, 1, none⟩ = some (.int .i64 na)) := cell_later hb2 (by first | (simp; done) | (simp [World.cell?_alloc_at, World.cell?_alloc_past]; done) | (rw [World.cell?_alloc_lt _ _ _ (by simp <;> omega)]; simp))
  have f2_0_2 : Hid (w2.cell? ⟨w1.heap.size, 2, none⟩ = some (.string ta)) := cell_later hb2 (by first | (simp; done) | (simp [World.cell?_alloc_at, World.cell?_alloc_past]; done) | (rw [World.cell?_alloc_lt _ _ _ (by simp <;> omega)]; simp))
  have hB2 := hide hb2
  clear hb2
  have HVB := hide hvb
  clear hvb hsb
  go_wp2_with (at_builtin; refine wpList_append_behind _ rfl _ _ rfl _ _ _ _ rfl rfl (by simp) ((unhide H1).later (nx_al (nx_al (nx_trans (nx_al (unhide hB1)) (unhide hB2))))) (by omega) ?_; intro a3 cap3 w3 hrow3 hb3; have HR3 := hide hrow3; clear hrow3; refine Hid.out ?_)
  refine hide ?_
  have f3_0_0 := keep2 f2_0_0 hb3
  have f3_0_1 := keep2 f2_0_1 hb3
  have f3_0_2 := keep2 f2_0_2 hb3
  have f3_1_0 : Hid (w3.cell? ⟨w2.heap.size, 0, none⟩ = some (.int .i64 kb)) := cell_later hb3 (by first | (simp; done) | (simp [World.cell?_alloc_at, World.cell?_alloc_past]; done) | (rw [World.cell?_alloc_lt _ _ _ (by simp <;> omega)]; simp))
  have f3_1_1 : Hid (w3.cell? ⟨w2.heap.size, 1, none⟩ = some (.int .i64 nb)) := cell_later hb3 (by first | (simp; done) | (simp [World.cell?_alloc_at, World.cell?_alloc_past]; done) | (rw [World.cell?_alloc_lt _ _ _ (by simp <;> omega)]; simp))
  have f3_1_2 : Hid (w3.cell? ⟨w2.heap.size, 2, none⟩ = some (.string tb)) := cell_later hb3 (by first | (simp; done) | (simp [World.cell?_alloc_at, World.cell?_alloc_past]; done) | (rw [World.cell?_alloc_lt _ _ _ (by simp <;> omega)]; simp))
  clear f2_0_0 f2_0_1 f2_0_2
  have hB3 := hide hb3
  clear hb3
  go_wp2_with fail
  refine (OpOf_any a3 (1 + len1) cap3 _ (by omega) (unhide HR3)).mono ?_
  rintro e w4 ⟨j, hj, rfl, hb4⟩
  have f4_0_0 := keep0 f3_0_0 hb4
  have f4_0_1 := keep0 f3_0_1 hb4
  have f4_0_2 := keep0 f3_0_2 hb4
  have f4_1_0 := keep0 f3_1_0 hb4
  have f4_1_1 := keep0 f3_1_1 hb4
  have f4_1_2 := keep0 f3_1_2 hb4
  clear f3_0_0 f3_0_1 f3_0_2 f3_1_0 f3_1_1 f3_1_2
  have hB4 := hide hb4
  clear hb4
  clear hj HR3 H0 H1
  generalize ops7 j = op
  obtain ⟨rk, rn, rt, rc, hok, hbI, hbS⟩ := bin_two op ka na ta kb nb tb (unhide HVA) (unhide HVB)
  obtain ⟨M, hM0, hM1, hM, hoA, hoB⟩ := order_two ka na ta kb nb tb (unhide HVA) (unhide HVB)
  obtain ⟨tr, htI, htS⟩ := truth_two ka na ta (unhide HVA)
  obtain ⟨uk, un, ut, huI, huS⟩ := not_two ka na ta (unhide HVA)
  have HOK := hide hok
  clear hok
  have HBI := hide hbI
  clear hbI
  have HBS := hide hbS
  clear hbS
  have HM := hide hM
  clear hM
  have HOA := hide hoA
  clear hoA
  have HOB := hide hoB
  clear hoB
  have HTI := hide htI
  clear htI
  have HTS := hide htS
  clear htS
  have HUI := hide huI
  clear huI
  have HUS := hide huS
  clear huS
  have e0_0 := unhide f4_0_0
  have e0_1 := unhide f4_0_1
  have e0_2 := unhide f4_0_2
  have e1_0 := unhide f4_1_0
  have e1_1 := unhide f4_1_1
  have e1_2 := unhide f4_1_2
  go_wp2_with fail
  refine (unhide HBI _).mono ?_
  rintro e w5 ⟨rfl, hb5⟩
  have f5_0_0 := keep0 f4_0_0 hb5
  have f5_0_1 := keep0 f4_0_1 hb5
  have f5_0_2 := keep0 f4_0_2 hb5
  have f5_1_0 := keep0 f4_1_0 hb5
  have f5_1_1 := keep0 f4_1_1 hb5
  have f5_1_2 := keep0 f4_1_2 hb5
  clear f4_0_0 f4_0_1 f4_0_2 f4_1_0 f4_1_1 f4_1_2 e0_0 e0_1 e0_2 e1_0 e1_1 e1_2
  have hB5 := hide hb5
  clear hb5
  have e0_0 := lay1 f5_0_0
  have e0_1 := lay1 f5_0_1
  have e0_2 := lay1 f5_0_2
  have e1_0 := lay1 f5_1_0
  have e1_1 := lay1 f5_1_1
  have e1_2 := lay1 f5_1_2
  go_wp2_with fail
  refine (unhide HBS _).mono ?_
  rintro e w6 ⟨rfl, hb6⟩
  have f6_0_0 := keep1 f5_0_0 hb6
  have f6_0_1 := keep1 f5_0_1 hb6
  have f6_0_2 := keep1 f5_0_2 hb6
  have f6_1_0 := keep1 f5_1_0 hb6
  have f6_1_1 := keep1 f5_1_1 hb6
  have f6_1_2 := keep1 f5_1_2 hb6
  have f6_2_0 : Hid (w6.cell? ⟨w5.heap.size, 0, none⟩ = some (.int .i64 rk)) := cell_later hb6 (by first | (simp; done) | (simp [World.cell?_alloc_at, World.cell?_alloc_past]; done) | (rw [World.cell?_alloc_lt _ _ _ (by simp <;> omega)]; simp))
  have f6_2_1 : Hid (w6.cell? ⟨w5.heap.size, 1, none⟩ = some (.int .i64 rn)) := cell_later hb6 (by first | (simp; done) | (simp [World.cell?_alloc_at, World.cell?_alloc_past]; done) | (rw [World.cell?_alloc_lt _ _ _ (by simp <;> omega)]; simp))
  have f6_2_2 : Hid (w6.cell? ⟨w5.heap.size, 2, none⟩ = some (.string rt)) := cell_later hb6 (by first | (simp; done) | (simp [World.cell?_alloc_at, World.cell?_alloc_past]; done) | (rw [World.cell?_alloc_lt _ _ _ (by simp <;> omega)]; simp))
  clear f5_0_0 f5_0_1 f5_0_2 f5_1_0 f5_1_1 f5_1_2 e0_0 e0_1 e0_2 e1_0 e1_1 e1_2
  have hB6 := hide hb6
  clear hb6
  have e0_0 := lay1 f6_0_0
  have e0_1 := lay1 f6_0_1
  have e0_2 := lay1 f6_0_2
  have e1_0 := lay1 f6_1_0
  have e1_1 := lay1 f6_1_1
  have e1_2 := lay1 f6_1_2
  go_wp2_with fail
  refine (unhide HOA _).mono ?_
  rintro e w7 ⟨rfl, hb7⟩
  have f7_0_0 := keep1 f6_0_0 hb7
  have f7_0_1 := keep1 f6_0_1 hb7
  have f7_0_2 := keep1 f6_0_2 hb7
  have f7_1_0 := keep1 f6_1_0 hb7
  have f7_1_1 := keep1 f6_1_1 hb7
  have f7_1_2 := keep1 f6_1_2 hb7
  have f7_2_0 := keep1 f6_2_0 hb7
  have f7_2_1 := keep1 f6_2_1 hb7
  have f7_2_2 := keep1 f6_2_2 hb7
  have f7_3_0 : Hid (w7.cell? ⟨w6.heap.size, 0, none⟩ = some (.int .i64 rk)) := cell_later hb7 (by first | (simp; done) | (simp [World.cell?_alloc_at, World.cell?_alloc_past]; done) | (rw [World.cell?_alloc_lt _ _ _ (by simp <;> omega)]; simp))
  have f7_3_1 : Hid (w7.cell? ⟨w6.heap.size, 1, none⟩ = some (.int .i64 rn)) := cell_later hb7 (by first | (simp; done) | (simp [World.cell?_alloc_at, World.cell?_alloc_past]; done) | (rw [World.cell?_alloc_lt _ _ _ (by simp <;> omega)]; simp))
  have f7_3_2 : Hid (w7.cell? ⟨w6.heap.size, 2, none⟩ = some (.string rt)) := cell_later hb7 (by first | (simp; done) | (simp [World.cell?_alloc_at, World.cell?_alloc_past]; done) | (rw [World.cell?_alloc_lt _ _ _ (by simp <;> omega)]; simp))
  clear f6_0_0 f6_0_1 f6_0_2 f6_1_0 f6_1_1 f6_1_2 f6_2_0 f6_2_1 f6_2_2 e0_0 e0_1 e0_2 e1_0 e1_1 e1_2
  have hB7 := hide hb7
  clear hb7
  have e0_0 := unhide f7_0_0
  have e0_1 := unhide f7_0_1
  have e0_2 := unhide f7_0_2
  have e1_0 := unhide f7_1_0
  have e1_1 := unhide f7_1_1
  have e1_2 := unhide f7_1_2
  go_wp2_with fail
  refine (unhide HOB _).mono ?_
  rintro e w8 ⟨rfl, hb8⟩
  have f8_0_0 := keep0 f7_0_0 hb8
  have f8_0_1 := keep0 f7_0_1 hb8
  have f8_0_2 := keep0 f7_0_2 hb8
  have f8_1_0 := keep0 f7_1_0 hb8
  have f8_1_1 := keep0 f7_1_1 hb8
  have f8_1_2 := keep0 f7_1_2 hb8
  have f8_2_0 := keep0 f7_2_0 hb8
  have f8_2_1 := keep0 f7_2_1 hb8
  have f8_2_2 := keep0 f7_2_2 hb8
  have f8_3_0 := keep0 f7_3_0 hb8
  have f8_3_1 := keep0 f7_3_1 hb8
  have f8_3_2 := keep0 f7_3_2 hb8
  clear f7_0_0 f7_0_1 f7_0_2 f7_1_0 f7_1_1 f7_1_2 f7_2_0 f7_2_1 f7_2_2 f7_3_0 f7_3_1 f7_3_2 e0_0 e0_1 e0_2 e1_0 e1_1 e1_2
  have hB8 := hide hb8
  clear hb8
  have e0_0 := unhide f8_0_0
  have e0_1 := unhide f8_0_1
  have e0_2 := unhide f8_0_2
  go_wp2_with fail
  refine (unhide HTI _).mono ?_
  rintro e w9 ⟨rfl, hb9⟩
  have f9_0_0 := keep0 f8_0_0 hb9
  have f9_0_1 := keep0 f8_0_1 hb9
  have f9_0_2 := keep0 f8_0_2 hb9
  have f9_1_0 := keep0 f8_1_0 hb9
  have f9_1_1 := keep0 f8_1_1 hb9
  have f9_1_2 := keep0 f8_1_2 hb9
  have f9_2_0 := keep0 f8_2_0 hb9
  have f9_2_1 := keep0 f8_2_1 hb9
  have f9_2_2 := keep0 f8_2_2 hb9
  have f9_3_0 := keep0 f8_3_0 hb9
  have f9_3_1 := keep0 f8_3_1 hb9
  have f9_3_2 := keep0 f8_3_2 hb9
  clear f8_0_0 f8_0_1 f8_0_2 f8_1_0 f8_1_1 f8_1_2 f8_2_0 f8_2_1 f8_2_2 f8_3_0 f8_3_1 f8_3_2 e0_0 e0_1 e0_2
  have hB9 := hide hb9
  clear hb9
  have e0_0 := unhide f9_0_0
  have e0_1 := unhide f9_0_1
  have e0_2 := unhide f9_0_2
  go_wp2_with fail
  refine (unhide HTS _).mono ?_
  rintro e w10 ⟨rfl, hb10⟩
  have f10_0_0 := keep0 f9_0_0 hb10
  have f10_0_1 := keep0 f9_0_1 hb10
  have f10_0_2 := keep0 f9_0_2 hb10
  have f10_1_0 := keep0 f9_1_0 hb10
  have f10_1_1 := keep0 f9_1_1 hb10
  have f10_1_2 := keep0 f9_1_2 hb10
  have f10_2_0 := keep0 f9_2_0 hb10
  have f10_2_1 := keep0 f9_2_1 hb10
  have f10_2_2 := keep0 f9_2_2 hb10
  have f10_3_0 := keep0 f9_3_0 hb10
  have f10_3_1 := keep0 f9_3_1 hb10
  have f10_3_2 := keep0 f9_3_2 hb10
  clear f9_0_0 f9_0_1 f9_0_2 f9_1_0 f9_1_1 f9_1_2 f9_2_0 f9_2_1 f9_2_2 f9_3_0 f9_3_1 f9_3_2 e0_0 e0_1 e0_2
  have hB10 := hide hb10
  clear hb10
  have e0_0 := unhide f10_0_0
  have e0_1 := unhide f10_0_1
  have e0_2 := unhide f10_0_2
  go_wp2_with fail
  refine (unhide HUI _).mono ?_
  rintro e w11 ⟨rfl, hb11⟩
  have f11_0_0 := keep0 f10_0_0 hb11
  have f11_0_1 := keep0 f10_0_1 hb11
  have f11_0_2 := keep0 f10_0_2 hb11
  have f11_1_0 := keep0 f10_1_0 hb11
  have f11_1_1 := keep0 f10_1_1 hb11
  have f11_1_2 := keep0 f10_1_2 hb11
  have f11_2_0 := keep0 f10_2_0 hb11
  have f11_2_1 := keep0 f10_2_1 hb11
  have f11_2_2 := keep0 f10_2_2 hb11
  have f11_3_0 := keep0 f10_3_0 hb11
  have f11_3_1 := keep0 f10_3_1 hb11
  have f11_3_2 := keep0 f10_3_2 hb11
  clear f10_0_0 f10_0_1 f10_0_2 f10_1_0 f10_1_1 f10_1_2 f10_2_0 f10_2_1 f10_2_2 f10_3_0 f10_3_1 f10_3_2 e0_0 e0_1 e0_2
  have hB11 := hide hb11
  clear hb11
  have e0_0 := lay1 f11_0_0
  have e0_1 := lay1 f11_0_1
  have e0_2 := lay1 f11_0_2
  go_wp2_with fail
  refine (unhide HUS _).mono ?_
  rintro e w12 ⟨rfl, hb12⟩
  have f12_0_0 := keep1 f11_0_0 hb12
  have f12_0_1 := keep1 f11_0_1 hb12
  have f12_0_2 := keep1 f11_0_2 hb12
  have f12_1_0 := keep1 f11_1_0 hb12
  have f12_1_1 := keep1 f11_1_1 hb12
  have f12_1_2 := keep1 f11_1_2 hb12
  have f12_2_0 := keep1 f11_2_0 hb12
  have f12_2_1 := keep1 f11_2_1 hb12
  have f12_2_2 := keep1 f11_2_2 hb12
  have f12_3_0 := keep1 f11_3_0 hb12
  have f12_3_1 := keep1 f11_3_1 hb12
  have f12_3_2 := keep1 f11_3_2 hb12
  have f12_4_0 : Hid (w12.cell? ⟨w11.heap.size, 0, none⟩ = some (.int .i64 uk)) := cell_later hb12 (by first | (simp; done) | (simp [World.cell?_alloc_at, World.cell?_alloc_past]; done) | (rw [World.cell?_alloc_lt _ _ _ (by simp <;> omega)]; simp))
  have f12_4_1 : Hid (w12.cell? ⟨w11.heap.size, 1, none⟩ = some (.int .i64 un)) := cell_later hb12 (by first | (simp; done) | (simp [World.cell?_alloc_at, World.cell?_alloc_past]; done) | (rw [World.cell?_alloc_lt _ _ _ (by simp <;> omega)]; simp))
  have f12_4_2 : Hid (w12.cell? ⟨w11.heap.size, 2, none⟩ = some (.string ut)) := cell_later hb12 (by first | (simp; done) | (simp [World.cell?_alloc_at, World.cell?_alloc_past]; done) | (rw [World.cell?_alloc_lt _ _ _ (by simp <;> omega)]; simp))
  clear f11_0_0 f11_0_1 f11_0_2 f11_1_0 f11_1_1 f11_1_2 f11_2_0 f11_2_1 f11_2_2 f11_3_0 f11_3_1 f11_3_2 e0_0 e0_1 e0_2
  have hB12 := hide hb12
  clear hb12
  clear HBI HBS HOA HOB HTI HTS HUI HUS
  by_cases hrc : rc = 0
  · have HO1 := hide (unhide HOK hrc)
    clear HOK
    subst hrc
    by_cases hk : ka = 1
    rotate_left
    · have hk1 : (ka != 1) = true := bne_iff_ne.2 hk
      clear hk
      have e2_0 := lay1 f12_2_0
      have e2_1 := lay1 f12_2_1
      have e2_2 := lay1 f12_2_2
      have e3_0 := lay1 f12_3_0
      have e3_1 := lay1 f12_3_1
      have e3_2 := lay1 f12_3_2
      have e0_0 := lay1 f12_0_0
      have e0_1 := lay1 f12_0_1
      have e0_2 := lay1 f12_0_2
      go_wp2_with fail
      refine (ok_yes (unhide HVA) _).mono ?_
      rintro e w13 ⟨rfl, hb13⟩
      have f13_0_0 := keep1 f12_0_0 hb13
      have f13_0_1 := keep1 f12_0_1 hb13
      have f13_0_2 := keep1 f12_0_2 hb13
      have f13_1_0 := keep1 f12_1_0 hb13
      have f13_1_1 := keep1 f12_1_1 hb13
      have f13_1_2 := keep1 f12_1_2 hb13
      have f13_2_0 := keep1 f12_2_0 hb13
      have f13_2_1 := keep1 f12_2_1 hb13
      have f13_2_2 := keep1 f12_2_2 hb13
      have f13_3_0 := keep1 f12_3_0 hb13
      have f13_3_1 := keep1 f12_3_1 hb13
      have f13_3_2 := keep1 f12_3_2 hb13
      have f13_4_0 := keep1 f12_4_0 hb13
      have f13_4_1 := keep1 f12_4_1 hb13
      have f13_4_2 := keep1 f12_4_2 hb13
      have f13_5_0 : Hid (w13.cell? ⟨w12.heap.size, 0, none⟩ = some (.int .i64 uk)) := cell_later hb13 (by first | (simp; done) | (simp [World.cell?_alloc_at, World.cell?_alloc_past]; done) | (rw [World.cell?_alloc_lt _ _ _ (by simp <;> omega)]; simp))
      have f13_5_1 : Hid (w13.cell? ⟨w12.heap.size, 1, none⟩ = some (.int .i64 un)) := cell_later hb13 (by first | (simp; done) | (simp [World.cell?_alloc_at, World.cell?_alloc_past]; done) | (rw [World.cell?_alloc_lt _ _ _ (by simp <;> omega)]; simp))
      have f13_5_2 : Hid (w13.cell? ⟨w12.heap.size, 2, none⟩ = some (.string ut)) := cell_later hb13 (by first | (simp; done) | (simp [World.cell?_alloc_at, World.cell?_alloc_past]; done) | (rw [World.cell?_alloc_lt _ _ _ (by simp <;> omega)]; simp))
      clear f12_0_0 f12_0_1 f12_0_2 f12_1_0 f12_1_1 f12_1_2 f12_2_0 f12_2_1 f12_2_2 f12_3_0 f12_3_1 f12_3_2 f12_4_0 f12_4_1 f12_4_2 e2_0 e2_1 e2_2 e3_0 e3_1 e3_2 e0_0 e0_1 e0_2
      have hB13 := hide hb13
      clear hb13
      have e2_0 := unhide f13_2_0
      have e2_1 := unhide f13_2_1
      have e2_2 := unhide f13_2_2
      go_wp2_with fail
      refine (ok_yes (unhide HO1) _).mono ?_
      rintro e w14 ⟨rfl, hb14⟩
      have f14_0_0 := keep0 f13_0_0 hb14
      have f14_0_1 := keep0 f13_0_1 hb14
      have f14_0_2 := keep0 f13_0_2 hb14
      have f14_1_0 := keep0 f13_1_0 hb14
      have f14_1_1 := keep0 f13_1_1 hb14
      have f14_1_2 := keep0 f13_1_2 hb14
      have f14_2_0 := keep0 f13_2_0 hb14
      have f14_2_1 := keep0 f13_2_1 hb14
      have f14_2_2 := keep0 f13_2_2 hb14
      have f14_3_0 := keep0 f13_3_0 hb14
      have f14_3_1 := keep0 f13_3_1 hb14
      have f14_3_2 := keep0 f13_3_2 hb14
      have f14_4_0 := keep0 f13_4_0 hb14
      have f14_4_1 := keep0 f13_4_1 hb14
      have f14_4_2 := keep0 f13_4_2 hb14
      have f14_5_0 := keep0 f13_5_0 hb14
      have f14_5_1 := keep0 f13_5_1 hb14
      have f14_5_2 := keep0 f13_5_2 hb14
      clear f13_0_0 f13_0_1 f13_0_2 f13_1_0 f13_1_1 f13_1_2 f13_2_0 f13_2_1 f13_2_2 f13_3_0 f13_3_1 f13_3_2 f13_4_0 f13_4_1 f13_4_2 f13_5_0 f13_5_1 f13_5_2 e2_0 e2_1 e2_2
      have hB14 := hide hb14
      clear hb14
      have e0_0 := unhide f14_0_0
      have e0_1 := unhide f14_0_1
      have e0_2 := unhide f14_0_2
      have e1_0 := unhide f14_1_0
      have e1_1 := unhide f14_1_1
      have e1_2 := unhide f14_1_2
      have e4_0 := unhide f14_4_0
      have e4_1 := unhide f14_4_1
      have e4_2 := unhide f14_4_2
      have e5_0 := unhide f14_5_0
      have e5_1 := unhide f14_5_1
      have e5_2 := unhide f14_5_2
      go_wp2
      all_goals first | (go_ret; exact ⟨rfl, nx_trans (nx_trans (nx_al (nx_trans (nx_al (nx_trans (nx_trans (nx_trans (nx_trans (nx_trans (nx_al (nx_trans (nx_al (nx_trans (nx_trans (nx_trans (nx_al (nx_al (nx_trans (nx_al (unhide hB1)) (unhide hB2)))) (unhide hB3)) (unhide hB4)) (unhide hB5))) (unhide hB6))) (unhide hB7)) (unhide hB8)) (unhide hB9)) (unhide hB10)) (unhide hB11))) (unhide hB12))) (unhide hB13)) (unhide hB14)⟩) | (exfalso; have hm := unhide HM; simp_all; done)
    by_cases hk' : kb = 1
    rotate_left
    · obtain rfl : ka = 1 := by simpa using hk
      have hk1 : (kb != 1) = true := bne_iff_ne.2 hk'
      clear hk hk'
      have e2_0 := lay1 f12_2_0
      have e2_1 := lay1 f12_2_1
      have e2_2 := lay1 f12_2_2
      have e3_0 := lay1 f12_3_0
      have e3_1 := lay1 f12_3_1
      have e3_2 := lay1 f12_3_2
      have e0_0 := lay1 f12_0_0
      have e0_1 := lay1 f12_0_1
      have e0_2 := lay1 f12_0_2
      go_wp2_with fail
      refine (ok_yes (unhide HVA) _).mono ?_
      rintro e w13 ⟨rfl, hb13⟩
      have f13_0_0 := keep1 f12_0_0 hb13
      have f13_0_1 := keep1 f12_0_1 hb13
      have f13_0_2 := keep1 f12_0_2 hb13
      have f13_1_0 := keep1 f12_1_0 hb13
      have f13_1_1 := keep1 f12_1_1 hb13
      have f13_1_2 := keep1 f12_1_2 hb13
      have f13_2_0 := keep1 f12_2_0 hb13
      have f13_2_1 := keep1 f12_2_1 hb13
      have f13_2_2 := keep1 f12_2_2 hb13
      have f13_3_0 := keep1 f12_3_0 hb13
      have f13_3_1 := keep1 f12_3_1 hb13
      have f13_3_2 := keep1 f12_3_2 hb13
      have f13_4_0 := keep1 f12_4_0 hb13
      have f13_4_1 := keep1 f12_4_1 hb13
      have f13_4_2 := keep1 f12_4_2 hb13
      have f13_5_0 : Hid (w13.cell? ⟨w12.heap.size, 0, none⟩ = some (.int .i64 uk)) := cell_later hb13 (by first | (simp; done) | (simp [World.cell?_alloc_at, World.cell?_alloc_past]; done) | (rw [World.cell?_alloc_lt _ _ _ (by simp <;> omega)]; simp))
      have f13_5_1 : Hid (w13.cell? ⟨w12.heap.size, 1, none⟩ = some (.int .i64 un)) := cell_later hb13 (by first | (simp; done) | (simp [World.cell?_alloc_at, World.cell?_alloc_past]; done) | (rw [World.cell?_alloc_lt _ _ _ (by simp <;> omega)]; simp))
      have f13_5_2 : Hid (w13.cell? ⟨w12.heap.size, 2, none⟩ = some (.string ut)) := cell_later hb13 (by first | (simp; done) | (simp [World.cell?_alloc_at, World.cell?_alloc_past]; done) | (rw [World.cell?_alloc_lt _ _ _ (by simp <;> omega)]; simp))
      clear f12_0_0 f12_0_1 f12_0_2 f12_1_0 f12_1_1 f12_1_2 f12_2_0 f12_2_1 f12_2_2 f12_3_0 f12_3_1 f12_3_2 f12_4_0 f12_4_1 f12_4_2 e2_0 e2_1 e2_2 e3_0 e3_1 e3_2 e0_0 e0_1 e0_2
      have hB13 := hide hb13
      clear hb13
      have e2_0 := unhide f13_2_0
      have e2_1 := unhide f13_2_1
      have e2_2 := unhide f13_2_2
      go_wp2_with fail
      refine (ok_yes (unhide HO1) _).mono ?_
      rintro e w14 ⟨rfl, hb14⟩
      have f14_0_0 := keep0 f13_0_0 hb14
      have f14_0_1 := keep0 f13_0_1 hb14
      have f14_0_2 := keep0 f13_0_2 hb14
      have f14_1_0 := keep0 f13_1_0 hb14
      have f14_1_1 := keep0 f13_1_1 hb14
      have f14_1_2 := keep0 f13_1_2 hb14
      have f14_2_0 := keep0 f13_2_0 hb14
      have f14_2_1 := keep0 f13_2_1 hb14
      have f14_2_2 := keep0 f13_2_2 hb14
      have f14_3_0 := keep0 f13_3_0 hb14
      have f14_3_1 := keep0 f13_3_1 hb14
      have f14_3_2 := keep0 f13_3_2 hb14
      have f14_4_0 := keep0 f13_4_0 hb14
      have f14_4_1 := keep0 f13_4_1 hb14
      have f14_4_2 := keep0 f13_4_2 hb14
      have f14_5_0 := keep0 f13_5_0 hb14
      have f14_5_1 := keep0 f13_5_1 hb14
      have f14_5_2 := keep0 f13_5_2 hb14
      clear f13_0_0 f13_0_1 f13_0_2 f13_1_0 f13_1_1 f13_1_2 f13_2_0 f13_2_1 f13_2_2 f13_3_0 f13_3_1 f13_3_2 f13_4_0 f13_4_1 f13_4_2 f13_5_0 f13_5_1 f13_5_2 e2_0 e2_1 e2_2
      have hB14 := hide hb14
      clear hb14
      have e0_0 := unhide f14_0_0
      have e0_1 := unhide f14_0_1
      have e0_2 := unhide f14_0_2
      have e1_0 := unhide f14_1_0
      have e1_1 := unhide f14_1_1
      have e1_2 := unhide f14_1_2
      have e4_0 := unhide f14_4_0
      have e4_1 := unhide f14_4_1
      have e4_2 := unhide f14_4_2
      have e5_0 := unhide f14_5_0
      have e5_1 := unhide f14_5_1
      have e5_2 := unhide f14_5_2
      go_wp2
      all_goals first | (go_ret; exact ⟨rfl, nx_trans (nx_trans (nx_al (nx_trans (nx_al (nx_trans (nx_trans (nx_trans (nx_trans (nx_trans (nx_al (nx_trans (nx_al (nx_trans (nx_trans (nx_trans (nx_al (nx_al (nx_trans (nx_al (unhide hB1)) (unhide hB2)))) (unhide hB3)) (unhide hB4)) (unhide hB5))) (unhide hB6))) (unhide hB7)) (unhide hB8)) (unhide hB9)) (unhide hB10)) (unhide hB11))) (unhide hB12))) (unhide hB13)) (unhide hB14)⟩) | (exfalso; have hm := unhide HM; simp_all; done)
    subst hk hk'
    obtain rfl := (vok_one (unhide HVA)).2.2
    obtain rfl := (vok_one (unhide HVB)).2.2
    by_cases hn : na = nb
    · by_cases hf : (-2147483648 ≤ na + nb ∧ na + nb ≤ 2147483647)
      · have hM' : M = 0 := (unhide HM).2 ⟨rfl, hn, rfl⟩
        subst hM' hn
        have e2_0 := lay1 f12_2_0
        have e2_1 := lay1 f12_2_1
        have e2_2 := lay1 f12_2_2
        have e3_0 := lay1 f12_3_0
        have e3_1 := lay1 f12_3_1
        have e3_2 := lay1 f12_3_2
        have e0_0 := lay1 f12_0_0
        have e0_1 := lay1 f12_0_1
        have e0_2 := lay1 f12_0_2
        go_wp2_with fail
        refine (ok_yes (unhide HVA) _).mono ?_
        rintro e w13 ⟨rfl, hb13⟩
        have f13_0_0 := keep1 f12_0_0 hb13
        have f13_0_1 := keep1 f12_0_1 hb13
        have f13_0_2 := keep1 f12_0_2 hb13
        have f13_1_0 := keep1 f12_1_0 hb13
        have f13_1_1 := keep1 f12_1_1 hb13
        have f13_1_2 := keep1 f12_1_2 hb13
        have f13_2_0 := keep1 f12_2_0 hb13
        have f13_2_1 := keep1 f12_2_1 hb13
        have f13_2_2 := keep1 f12_2_2 hb13
        have f13_3_0 := keep1 f12_3_0 hb13
        have f13_3_1 := keep1 f12_3_1 hb13
        have f13_3_2 := keep1 f12_3_2 hb13
        have f13_4_0 := keep1 f12_4_0 hb13
        have f13_4_1 := keep1 f12_4_1 hb13
        have f13_4_2 := keep1 f12_4_2 hb13
        have f13_5_0 : Hid (w13.cell? ⟨w12.heap.size, 0, none⟩ = some (.int .i64 uk)) := cell_later hb13 (by first | (simp; done) | (simp [World.cell?_alloc_at, World.cell?_alloc_past]; done) | (rw [World.cell?_alloc_lt _ _ _ (by simp <;> omega)]; simp))
        have f13_5_1 : Hid (w13.cell? ⟨w12.heap.size, 1, none⟩ = some (.int .i64 un)) := cell_later hb13 (by first | (simp; done) | (simp [World.cell?_alloc_at, World.cell?_alloc_past]; done) | (rw [World.cell?_alloc_lt _ _ _ (by simp <;> omega)]; simp))
        have f13_5_2 : Hid (w13.cell? ⟨w12.heap.size, 2, none⟩ = some (.string ut)) := cell_later hb13 (by first | (simp; done) | (simp [World.cell?_alloc_at, World.cell?_alloc_past]; done) | (rw [World.cell?_alloc_lt _ _ _ (by simp <;> omega)]; simp))
        clear f12_0_0 f12_0_1 f12_0_2 f12_1_0 f12_1_1 f12_1_2 f12_2_0 f12_2_1 f12_2_2 f12_3_0 f12_3_1 f12_3_2 f12_4_0 f12_4_1 f12_4_2 e2_0 e2_1 e2_2 e3_0 e3_1 e3_2 e0_0 e0_1 e0_2
        have hB13 := hide hb13
        clear hb13
        have e2_0 := unhide f13_2_0
        have e2_1 := unhide f13_2_1
        have e2_2 := unhide f13_2_2
        go_wp2_with fail
        refine (ok_yes (unhide HO1) _).mono ?_
        rintro e w14 ⟨rfl, hb14⟩
        have f14_0_0 := keep0 f13_0_0 hb14
        have f14_0_1 := keep0 f13_0_1 hb14
        have f14_0_2 := keep0 f13_0_2 hb14
        have f14_1_0 := keep0 f13_1_0 hb14
        have f14_1_1 := keep0 f13_1_1 hb14
        have f14_1_2 := keep0 f13_1_2 hb14
        have f14_2_0 := keep0 f13_2_0 hb14
        have f14_2_1 := keep0 f13_2_1 hb14
        have f14_2_2 := keep0 f13_2_2 hb14
        have f14_3_0 := keep0 f13_3_0 hb14
        have f14_3_1 := keep0 f13_3_1 hb14
        have f14_3_2 := keep0 f13_3_2 hb14
        have f14_4_0 := keep0 f13_4_0 hb14
        have f14_4_1 := keep0 f13_4_1 hb14
        have f14_4_2 := keep0 f13_4_2 hb14
        have f14_5_0 := keep0 f13_5_0 hb14
        have f14_5_1 := keep0 f13_5_1 hb14
        have f14_5_2 := keep0 f13_5_2 hb14
        clear f13_0_0 f13_0_1 f13_0_2 f13_1_0 f13_1_1 f13_1_2 f13_2_0 f13_2_1 f13_2_2 f13_3_0 f13_3_1 f13_3_2 f13_4_0 f13_4_1 f13_4_2 f13_5_0 f13_5_1 f13_5_2 e2_0 e2_1 e2_2
        have hB14 := hide hb14
        clear hb14
        have e0_0 := unhide f14_0_0
        have e0_1 := unhide f14_0_1
        have e0_2 := unhide f14_0_2
        have e1_0 := unhide f14_1_0
        have e1_1 := unhide f14_1_1
        have e1_2 := unhide f14_1_2
        have e4_0 := unhide f14_4_0
        have e4_1 := unhide f14_4_1
        have e4_2 := unhide f14_4_2
        have e5_0 := unhide f14_5_0
        have e5_1 := unhide f14_5_1
        have e5_2 := unhide f14_5_2
        go_wp2_with fail
        refine (add_fit na na _ (unhide HVA) (unhide HVB) hf.1 hf.2).mono ?_
        rintro e w15 ⟨rfl, hb15⟩
        have f15_0_0 := keep0 f14_0_0 hb15
        have f15_0_1 := keep0 f14_0_1 hb15
        have f15_0_2 := keep0 f14_0_2 hb15
        have f15_1_0 := keep0 f14_1_0 hb15
        have f15_1_1 := keep0 f14_1_1 hb15
        have f15_1_2 := keep0 f14_1_2 hb15
        have f15_2_0 := keep0 f14_2_0 hb15
        have f15_2_1 := keep0 f14_2_1 hb15
        have f15_2_2 := keep0 f14_2_2 hb15
        have f15_3_0 := keep0 f14_3_0 hb15
        have f15_3_1 := keep0 f14_3_1 hb15
        have f15_3_2 := keep0 f14_3_2 hb15
        have f15_4_0 := keep0 f14_4_0 hb15
        have f15_4_1 := keep0 f14_4_1 hb15
        have f15_4_2 := keep0 f14_4_2 hb15
        have f15_5_0 := keep0 f14_5_0 hb15
        have f15_5_1 := keep0 f14_5_1 hb15
        have f15_5_2 := keep0 f14_5_2 hb15
        clear f14_0_0 f14_0_1 f14_0_2 f14_1_0 f14_1_1 f14_1_2 f14_2_0 f14_2_1 f14_2_2 f14_3_0 f14_3_1 f14_3_2 f14_4_0 f14_4_1 f14_4_2 f14_5_0 f14_5_1 f14_5_2
        have hB15 := hide hb15
        clear hb15
        have e1_0 := lay1 f15_1_0
        have e1_1 := lay1 f15_1_1
        have e1_2 := lay1 f15_1_2
        go_wp2_with fail
        refine (sub_back (na + na) na na _ (vok_num hf.1 hf.2) (unhide HVA) (unhide HVB) (by omega)).mono ?_
        rintro e w16 ⟨rfl, hb16⟩
        have f16_0_0 := keep1 f15_0_0 hb16
        have f16_0_1 := keep1 f15_0_1 hb16
        have f16_0_2 := keep1 f15_0_2 hb16
        have f16_1_0 := keep1 f15_1_0 hb16
        have f16_1_1 := keep1 f15_1_1 hb16
        have f16_1_2 := keep1 f15_1_2 hb16
        have f16_2_0 := keep1 f15_2_0 hb16
        have f16_2_1 := keep1 f15_2_1 hb16
        have f16_2_2 := keep1 f15_2_2 hb16
        have f16_3_0 := keep1 f15_3_0 hb16
        have f16_3_1 := keep1 f15_3_1 hb16
        have f16_3_2 := keep1 f15_3_2 hb16
        have f16_4_0 := keep1 f15_4_0 hb16
        have f16_4_1 := keep1 f15_4_1 hb16
        have f16_4_2 := keep1 f15_4_2 hb16
        have f16_5_0 := keep1 f15_5_0 hb16
        have f16_5_1 := keep1 f15_5_1 hb16
        have f16_5_2 := keep1 f15_5_2 hb16
        have f16_6_0 : Hid (w16.cell? ⟨w15.heap.size, 0, none⟩ = some (.int .i64 1)) := cell_later hb16 (by first | (simp; done) | (simp [World.cell?_alloc_at, World.cell?_alloc_past]; done) | (rw [World.cell?_alloc_lt _ _ _ (by simp <;> omega)]; simp))
        have f16_6_1 : Hid (w16.cell? ⟨w15.heap.size, 1, none⟩ = some (.int .i64 (na + na))) := cell_later hb16 (by first | (simp; done) | (simp [World.cell?_alloc_at, World.cell?_alloc_past]; done) | (rw [World.cell?_alloc_lt _ _ _ (by simp <;> omega)]; simp))
        have f16_6_2 : Hid (w16.cell? ⟨w15.heap.size, 2, none⟩ = some (.string ⟨#[]⟩)) := cell_later hb16 (by first | (simp; done) | (simp [World.cell?_alloc_at, World.cell?_alloc_past]; done) | (rw [World.cell?_alloc_lt _ _ _ (by simp <;> omega)]; simp))
        clear f15_0_0 f15_0_1 f15_0_2 f15_1_0 f15_1_1 f15_1_2 f15_2_0 f15_2_1 f15_2_2 f15_3_0 f15_3_1 f15_3_2 f15_4_0 f15_4_1 f15_4_2 f15_5_0 f15_5_1 f15_5_2 e1_0 e1_1 e1_2
        have hB16 := hide hb16
        clear hb16
        have e0_0 := lay1 f16_0_0
        have e0_1 := lay1 f16_0_1
        have e0_2 := lay1 f16_0_2
        go_wp2
        go_ret
        exact ⟨rfl, nx_al (nx_trans (nx_al (nx_trans (nx_trans (nx_trans (nx_al (nx_trans (nx_al (nx_trans (nx_trans (nx_trans (nx_trans (nx_trans (nx_al (nx_trans (nx_al (nx_trans (nx_trans (nx_trans (nx_al (nx_al (nx_trans (nx_al (unhide hB1)) (unhide hB2)))) (unhide hB3)) (unhide hB4)) (unhide hB5))) (unhide hB6))) (unhide hB7)) (unhide hB8)) (unhide hB9)) (unhide hB10)) (unhide hB11))) (unhide hB12))) (unhide hB13)) (unhide hB14)) (unhide hB15))) (unhide hB16))⟩
      · have hM' : M = 0 := (unhide HM).2 ⟨rfl, hn, rfl⟩
        subst hM' hn
        have e2_0 := lay1 f12_2_0
        have e2_1 := lay1 f12_2_1
        have e2_2 := lay1 f12_2_2
        have e3_0 := lay1 f12_3_0
        have e3_1 := lay1 f12_3_1
        have e3_2 := lay1 f12_3_2
        have e0_0 := lay1 f12_0_0
        have e0_1 := lay1 f12_0_1
        have e0_2 := lay1 f12_0_2
        go_wp2_with fail
        refine (ok_yes (unhide HVA) _).mono ?_
        rintro e w13 ⟨rfl, hb13⟩
        have f13_0_0 := keep1 f12_0_0 hb13
        have f13_0_1 := keep1 f12_0_1 hb13
        have f13_0_2 := keep1 f12_0_2 hb13
        have f13_1_0 := keep1 f12_1_0 hb13
        have f13_1_1 := keep1 f12_1_1 hb13
        have f13_1_2 := keep1 f12_1_2 hb13
        have f13_2_0 := keep1 f12_2_0 hb13
        have f13_2_1 := keep1 f12_2_1 hb13
        have f13_2_2 := keep1 f12_2_2 hb13
        have f13_3_0 := keep1 f12_3_0 hb13
        have f13_3_1 := keep1 f12_3_1 hb13
        have f13_3_2 := keep1 f12_3_2 hb13
        have f13_4_0 := keep1 f12_4_0 hb13
        have f13_4_1 := keep1 f12_4_1 hb13
        have f13_4_2 := keep1 f12_4_2 hb13
        have f13_5_0 : Hid (w13.cell? ⟨w12.heap.size, 0, none⟩ = some (.int .i64 uk)) := cell_later hb13 (by first | (simp; done) | (simp [World.cell?_alloc_at, World.cell?_alloc_past]; done) | (rw [World.cell?_alloc_lt _ _ _ (by simp <;> omega)]; simp))
        have f13_5_1 : Hid (w13.cell? ⟨w12.heap.size, 1, none⟩ = some (.int .i64 un)) := cell_later hb13 (by first | (simp; done) | (simp [World.cell?_alloc_at, World.cell?_alloc_past]; done) | (rw [World.cell?_alloc_lt _ _ _ (by simp <;> omega)]; simp))
        have f13_5_2 : Hid (w13.cell? ⟨w12.heap.size, 2, none⟩ = some (.string ut)) := cell_later hb13 (by first | (simp; done) | (simp [World.cell?_alloc_at, World.cell?_alloc_past]; done) | (rw [World.cell?_alloc_lt _ _ _ (by simp <;> omega)]; simp))
        clear f12_0_0 f12_0_1 f12_0_2 f12_1_0 f12_1_1 f12_1_2 f12_2_0 f12_2_1 f12_2_2 f12_3_0 f12_3_1 f12_3_2 f12_4_0 f12_4_1 f12_4_2 e2_0 e2_1 e2_2 e3_0 e3_1 e3_2 e0_0 e0_1 e0_2
        have hB13 := hide hb13
        clear hb13
        have e2_0 := unhide f13_2_0
        have e2_1 := unhide f13_2_1
        have e2_2 := unhide f13_2_2
        go_wp2_with fail
        refine (ok_yes (unhide HO1) _).mono ?_
        rintro e w14 ⟨rfl, hb14⟩
        have f14_0_0 := keep0 f13_0_0 hb14
        have f14_0_1 := keep0 f13_0_1 hb14
        have f14_0_2 := keep0 f13_0_2 hb14
        have f14_1_0 := keep0 f13_1_0 hb14
        have f14_1_1 := keep0 f13_1_1 hb14
        have f14_1_2 := keep0 f13_1_2 hb14
        have f14_2_0 := keep0 f13_2_0 hb14
        have f14_2_1 := keep0 f13_2_1 hb14
        have f14_2_2 := keep0 f13_2_2 hb14
        have f14_3_0 := keep0 f13_3_0 hb14
        have f14_3_1 := keep0 f13_3_1 hb14
        have f14_3_2 := keep0 f13_3_2 hb14
        have f14_4_0 := keep0 f13_4_0 hb14
        have f14_4_1 := keep0 f13_4_1 hb14
        have f14_4_2 := keep0 f13_4_2 hb14
        have f14_5_0 := keep0 f13_5_0 hb14
        have f14_5_1 := keep0 f13_5_1 hb14
        have f14_5_2 := keep0 f13_5_2 hb14
        clear f13_0_0 f13_0_1 f13_0_2 f13_1_0 f13_1_1 f13_1_2 f13_2_0 f13_2_1 f13_2_2 f13_3_0 f13_3_1 f13_3_2 f13_4_0 f13_4_1 f13_4_2 f13_5_0 f13_5_1 f13_5_2 e2_0 e2_1 e2_2
        have hB14 := hide hb14
        clear hb14
        have e0_0 := unhide f14_0_0
        have e0_1 := unhide f14_0_1
        have e0_2 := unhide f14_0_2
        have e1_0 := unhide f14_1_0
        have e1_1 := unhide f14_1_1
        have e1_2 := unhide f14_1_2
        have e4_0 := unhide f14_4_0
        have e4_1 := unhide f14_4_1
        have e4_2 := unhide f14_4_2
        have e5_0 := unhide f14_5_0
        have e5_1 := unhide f14_5_1
        have e5_2 := unhide f14_5_2
        go_wp2_with fail
        refine (add_far na na _ (unhide HVA) (unhide HVB) hf).mono ?_
        rintro e w15 ⟨rfl, hb15⟩
        have f15_0_0 := keep0 f14_0_0 hb15
        have f15_0_1 := keep0 f14_0_1 hb15
        have f15_0_2 := keep0 f14_0_2 hb15
        have f15_1_0 := keep0 f14_1_0 hb15
        have f15_1_1 := keep0 f14_1_1 hb15
        have f15_1_2 := keep0 f14_1_2 hb15
        have f15_2_0 := keep0 f14_2_0 hb15
        have f15_2_1 := keep0 f14_2_1 hb15
        have f15_2_2 := keep0 f14_2_2 hb15
        have f15_3_0 := keep0 f14_3_0 hb15
        have f15_3_1 := keep0 f14_3_1 hb15
        have f15_3_2 := keep0 f14_3_2 hb15
        have f15_4_0 := keep0 f14_4_0 hb15
        have f15_4_1 := keep0 f14_4_1 hb15
        have f15_4_2 := keep0 f14_4_2 hb15
        have f15_5_0 := keep0 f14_5_0 hb15
        have f15_5_1 := keep0 f14_5_1 hb15
        have f15_5_2 := keep0 f14_5_2 hb15
        clear f14_0_0 f14_0_1 f14_0_2 f14_1_0 f14_1_1 f14_1_2 f14_2_0 f14_2_1 f14_2_2 f14_3_0 f14_3_1 f14_3_2 f14_4_0 f14_4_1 f14_4_2 f14_5_0 f14_5_1 f14_5_2
        have hB15 := hide hb15
        clear hb15
        go_wp2
        go_ret
        exact ⟨rfl, nx_al (nx_trans (nx_trans (nx_trans (nx_al (nx_trans (nx_al (nx_trans (nx_trans (nx_trans (nx_trans (nx_trans (nx_al (nx_trans (nx_al (nx_trans (nx_trans (nx_trans (nx_al (nx_al (nx_trans (nx_al (unhide hB1)) (unhide hB2)))) (unhide hB3)) (unhide hB4)) (unhide hB5))) (unhide hB6))) (unhide hB7)) (unhide hB8)) (unhide hB9)) (unhide hB10)) (unhide hB11))) (unhide hB12))) (unhide hB13)) (unhide hB14)) (unhide hB15))⟩
    · by_cases hf : (-2147483648 ≤ na + nb ∧ na + nb ≤ 2147483647)
      · have hM' : ¬ M = 0 := fun e => hn ((unhide HM).1 e).2.1
        have e2_0 := lay1 f12_2_0
        have e2_1 := lay1 f12_2_1
        have e2_2 := lay1 f12_2_2
        have e3_0 := lay1 f12_3_0
        have e3_1 := lay1 f12_3_1
        have e3_2 := lay1 f12_3_2
        have e0_0 := lay1 f12_0_0
        have e0_1 := lay1 f12_0_1
        have e0_2 := lay1 f12_0_2
        go_wp2_with fail
        refine (ok_yes (unhide HVA) _).mono ?_
        rintro e w13 ⟨rfl, hb13⟩
        have f13_0_0 := keep1 f12_0_0 hb13
        have f13_0_1 := keep1 f12_0_1 hb13
        have f13_0_2 := keep1 f12_0_2 hb13
        have f13_1_0 := keep1 f12_1_0 hb13
        have f13_1_1 := keep1 f12_1_1 hb13
        have f13_1_2 := keep1 f12_1_2 hb13
        have f13_2_0 := keep1 f12_2_0 hb13
        have f13_2_1 := keep1 f12_2_1 hb13
        have f13_2_2 := keep1 f12_2_2 hb13
        have f13_3_0 := keep1 f12_3_0 hb13
        have f13_3_1 := keep1 f12_3_1 hb13
        have f13_3_2 := keep1 f12_3_2 hb13
        have f13_4_0 := keep1 f12_4_0 hb13
        have f13_4_1 := keep1 f12_4_1 hb13
        have f13_4_2 := keep1 f12_4_2 hb13
        have f13_5_0 : Hid (w13.cell? ⟨w12.heap.size, 0, none⟩ = some (.int .i64 uk)) := cell_later hb13 (by first | (simp; done) | (simp [World.cell?_alloc_at, World.cell?_alloc_past]; done) | (rw [World.cell?_alloc_lt _ _ _ (by simp <;> omega)]; simp))
        have f13_5_1 : Hid (w13.cell? ⟨w12.heap.size, 1, none⟩ = some (.int .i64 un)) := cell_later hb13 (by first | (simp; done) | (simp [World.cell?_alloc_at, World.cell?_alloc_past]; done) | (rw [World.cell?_alloc_lt _ _ _ (by simp <;> omega)]; simp))
        have f13_5_2 : Hid (w13.cell? ⟨w12.heap.size, 2, none⟩ = some (.string ut)) := cell_later hb13 (by first | (simp; done) | (simp [World.cell?_alloc_at, World.cell?_alloc_past]; done) | (rw [World.cell?_alloc_lt _ _ _ (by simp <;> omega)]; simp))
        clear f12_0_0 f12_0_1 f12_0_2 f12_1_0 f12_1_1 f12_1_2 f12_2_0 f12_2_1 f12_2_2 f12_3_0 f12_3_1 f12_3_2 f12_4_0 f12_4_1 f12_4_2 e2_0 e2_1 e2_2 e3_0 e3_1 e3_2 e0_0 e0_1 e0_2
        have hB13 := hide hb13
        clear hb13
        have e2_0 := unhide f13_2_0
        have e2_1 := unhide f13_2_1
        have e2_2 := unhide f13_2_2
        go_wp2_with fail
        refine (ok_yes (unhide HO1) _).mono ?_
        rintro e w14 ⟨rfl, hb14⟩
        have f14_0_0 := keep0 f13_0_0 hb14
        have f14_0_1 := keep0 f13_0_1 hb14
        have f14_0_2 := keep0 f13_0_2 hb14
        have f14_1_0 := keep0 f13_1_0 hb14
        have f14_1_1 := keep0 f13_1_1 hb14
        have f14_1_2 := keep0 f13_1_2 hb14
        have f14_2_0 := keep0 f13_2_0 hb14
        have f14_2_1 := keep0 f13_2_1 hb14
        have f14_2_2 := keep0 f13_2_2 hb14
        have f14_3_0 := keep0 f13_3_0 hb14
        have f14_3_1 := keep0 f13_3_1 hb14
        have f14_3_2 := keep0 f13_3_2 hb14
        have f14_4_0 := keep0 f13_4_0 hb14
        have f14_4_1 := keep0 f13_4_1 hb14
        have f14_4_2 := keep0 f13_4_2 hb14
        have f14_5_0 := keep0 f13_5_0 hb14
        have f14_5_1 := keep0 f13_5_1 hb14
        have f14_5_2 := keep0 f13_5_2 hb14
        clear f13_0_0 f13_0_1 f13_0_2 f13_1_0 f13_1_1 f13_1_2 f13_2_0 f13_2_1 f13_2_2 f13_3_0 f13_3_1 f13_3_2 f13_4_0 f13_4_1 f13_4_2 f13_5_0 f13_5_1 f13_5_2 e2_0 e2_1 e2_2
        have hB14 := hide hb14
        clear hb14
        have e0_0 := unhide f14_0_0
        have e0_1 := unhide f14_0_1
        have e0_2 := unhide f14_0_2
        have e1_0 := unhide f14_1_0
        have e1_1 := unhide f14_1_1
        have e1_2 := unhide f14_1_2
        have e4_0 := unhide f14_4_0
        have e4_1 := unhide f14_4_1
        have e4_2 := unhide f14_4_2
        have e5_0 := unhide f14_5_0
        have e5_1 := unhide f14_5_1
        have e5_2 := unhide f14_5_2
        go_wp2_with fail
        refine (add_fit na nb _ (unhide HVA) (unhide HVB) hf.1 hf.2).mono ?_
        rintro e w15 ⟨rfl, hb15⟩
        have f15_0_0 := keep0 f14_0_0 hb15
        have f15_0_1 := keep0 f14_0_1 hb15
        have f15_0_2 := keep0 f14_0_2 hb15
        have f15_1_0 := keep0 f14_1_0 hb15
        have f15_1_1 := keep0 f14_1_1 hb15
        have f15_1_2 := keep0 f14_1_2 hb15
        have f15_2_0 := keep0 f14_2_0 hb15
        have f15_2_1 := keep0 f14_2_1 hb15
        have f15_2_2 := keep0 f14_2_2 hb15
        have f15_3_0 := keep0 f14_3_0 hb15
        have f15_3_1 := keep0 f14_3_1 hb15
        have f15_3_2 := keep0 f14_3_2 hb15
        have f15_4_0 := keep0 f14_4_0 hb15
        have f15_4_1 := keep0 f14_4_1 hb15
        have f15_4_2 := keep0 f14_4_2 hb15
        have f15_5_0 := keep0 f14_5_0 hb15
        have f15_5_1 := keep0 f14_5_1 hb15
        have f15_5_2 := keep0 f14_5_2 hb15
        clear f14_0_0 f14_0_1 f14_0_2 f14_1_0 f14_1_1 f14_1_2 f14_2_0 f14_2_1 f14_2_2 f14_3_0 f14_3_1 f14_3_2 f14_4_0 f14_4_1 f14_4_2 f14_5_0 f14_5_1 f14_5_2
        have hB15 := hide hb15
        clear hb15
        have e1_0 := lay1 f15_1_0
        have e1_1 := lay1 f15_1_1
        have e1_2 := lay1 f15_1_2
        go_wp2_with fail
        refine (sub_back (na + nb) na nb _ (vok_num hf.1 hf.2) (unhide HVA) (unhide HVB) (by omega)).mono ?_
        rintro e w16 ⟨rfl, hb16⟩
        have f16_0_0 := keep1 f15_0_0 hb16
        have f16_0_1 := keep1 f15_0_1 hb16
        have f16_0_2 := keep1 f15_0_2 hb16
        have f16_1_0 := keep1 f15_1_0 hb16
        have f16_1_1 := keep1 f15_1_1 hb16
        have f16_1_2 := keep1 f15_1_2 hb16
        have f16_2_0 := keep1 f15_2_0 hb16
        have f16_2_1 := keep1 f15_2_1 hb16
        have f16_2_2 := keep1 f15_2_2 hb16
        have f16_3_0 := keep1 f15_3_0 hb16
        have f16_3_1 := keep1 f15_3_1 hb16
        have f16_3_2 := keep1 f15_3_2 hb16
        have f16_4_0 := keep1 f15_4_0 hb16
        have f16_4_1 := keep1 f15_4_1 hb16
        have f16_4_2 := keep1 f15_4_2 hb16
        have f16_5_0 := keep1 f15_5_0 hb16
        have f16_5_1 := keep1 f15_5_1 hb16
        have f16_5_2 := keep1 f15_5_2 hb16
        have f16_6_0 : Hid (w16.cell? ⟨w15.heap.size, 0, none⟩ = some (.int .i64 1)) := cell_later hb16 (by first | (simp; done) | (simp [World.cell?_alloc_at, World.cell?_alloc_past]; done) | (rw [World.cell?_alloc_lt _ _ _ (by simp <;> omega)]; simp))
        have f16_6_1 : Hid (w16.cell? ⟨w15.heap.size, 1, none⟩ = some (.int .i64 (na + nb))) := cell_later hb16 (by first | (simp; done) | (simp [World.cell?_alloc_at, World.cell?_alloc_past]; done) | (rw [World.cell?_alloc_lt _ _ _ (by simp <;> omega)]; simp))
        have f16_6_2 : Hid (w16.cell? ⟨w15.heap.size, 2, none⟩ = some (.string ⟨#[]⟩)) := cell_later hb16 (by first | (simp; done) | (simp [World.cell?_alloc_at, World.cell?_alloc_past]; done) | (rw [World.cell?_alloc_lt _ _ _ (by simp <;> omega)]; simp))
        clear f15_0_0 f15_0_1 f15_0_2 f15_1_0 f15_1_1 f15_1_2 f15_2_0 f15_2_1 f15_2_2 f15_3_0 f15_3_1 f15_3_2 f15_4_0 f15_4_1 f15_4_2 f15_5_0 f15_5_1 f15_5_2 e1_0 e1_1 e1_2
        have hB16 := hide hb16
        clear hb16
        have e0_0 := lay1 f16_0_0
        have e0_1 := lay1 f16_0_1
        have e0_2 := lay1 f16_0_2
        go_wp2
        go_ret
        exact ⟨rfl, nx_al (nx_trans (nx_al (nx_trans (nx_trans (nx_trans (nx_al (nx_trans (nx_al (nx_trans (nx_trans (nx_trans (nx_trans (nx_trans (nx_al (nx_trans (nx_al (nx_trans (nx_trans (nx_trans (nx_al (nx_al (nx_trans (nx_al (unhide hB1)) (unhide hB2)))) (unhide hB3)) (unhide hB4)) (unhide hB5))) (unhide hB6))) (unhide hB7)) (unhide hB8)) (unhide hB9)) (unhide hB10)) (unhide hB11))) (unhide hB12))) (unhide hB13)) (unhide hB14)) (unhide hB15))) (unhide hB16))⟩
      · have hM' : ¬ M = 0 := fun e => hn ((unhide HM).1 e).2.1
        have e2_0 := lay1 f12_2_0
        have e2_1 := lay1 f12_2_1
        have e2_2 := lay1 f12_2_2
        have e3_0 := lay1 f12_3_0
        have e3_1 := lay1 f12_3_1
        have e3_2 := lay1 f12_3_2
        have e0_0 := lay1 f12_0_0
        have e0_1 := lay1 f12_0_1
        have e0_2 := lay1 f12_0_2
        go_wp2_with fail
        refine (ok_yes (unhide HVA) _).mono ?_
        rintro e w13 ⟨rfl, hb13⟩
        have f13_0_0 := keep1 f12_0_0 hb13
        have f13_0_1 := keep1 f12_0_1 hb13
        have f13_0_2 := keep1 f12_0_2 hb13
        have f13_1_0 := keep1 f12_1_0 hb13
        have f13_1_1 := keep1 f12_1_1 hb13
        have f13_1_2 := keep1 f12_1_2 hb13
        have f13_2_0 := keep1 f12_2_0 hb13
        have f13_2_1 := keep1 f12_2_1 hb13
        have f13_2_2 := keep1 f12_2_2 hb13
        have f13_3_0 := keep1 f12_3_0 hb13
        have f13_3_1 := keep1 f12_3_1 hb13
        have f13_3_2 := keep1 f12_3_2 hb13
        have f13_4_0 := keep1 f12_4_0 hb13
        have f13_4_1 := keep1 f12_4_1 hb13
        have f13_4_2 := keep1 f12_4_2 hb13
        have f13_5_0 : Hid (w13.cell? ⟨w12.heap.size, 0, none⟩ = some (.int .i64 uk)) := cell_later hb13 (by first | (simp; done) | (simp [World.cell?_alloc_at, World.cell?_alloc_past]; done) | (rw [World.cell?_alloc_lt _ _ _ (by simp <;> omega)]; simp))
        have f13_5_1 : Hid (w13.cell? ⟨w12.heap.size, 1, none⟩ = some (.int .i64 un)) := cell_later hb13 (by first | (simp; done) | (simp [World.cell?_alloc_at, World.cell?_alloc_past]; done) | (rw [World.cell?_alloc_lt _ _ _ (by simp <;> omega)]; simp))
        have f13_5_2 : Hid (w13.cell? ⟨w12.heap.size, 2, none⟩ = some (.string ut)) := cell_later hb13 (by first | (simp; done) | (simp [World.cell?_alloc_at, World.cell?_alloc_past]; done) | (rw [World.cell?_alloc_lt _ _ _ (by simp <;> omega)]; simp))
        clear f12_0_0 f12_0_1 f12_0_2 f12_1_0 f12_1_1 f12_1_2 f12_2_0 f12_2_1 f12_2_2 f12_3_0 f12_3_1 f12_3_2 f12_4_0 f12_4_1 f12_4_2 e2_0 e2_1 e2_2 e3_0 e3_1 e3_2 e0_0 e0_1 e0_2
        have hB13 := hide hb13
        clear hb13
        have e2_0 := unhide f13_2_0
        have e2_1 := unhide f13_2_1
        have e2_2 := unhide f13_2_2
        go_wp2_with fail
        refine (ok_yes (unhide HO1) _).mono ?_
        rintro e w14 ⟨rfl, hb14⟩
        have f14_0_0 := keep0 f13_0_0 hb14
        have f14_0_1 := keep0 f13_0_1 hb14
        have f14_0_2 := keep0 f13_0_2 hb14
        have f14_1_0 := keep0 f13_1_0 hb14
        have f14_1_1 := keep0 f13_1_1 hb14
        have f14_1_2 := keep0 f13_1_2 hb14
        have f14_2_0 := keep0 f13_2_0 hb14
        have f14_2_1 := keep0 f13_2_1 hb14
        have f14_2_2 := keep0 f13_2_2 hb14
        have f14_3_0 := keep0 f13_3_0 hb14
        have f14_3_1 := keep0 f13_3_1 hb14
        have f14_3_2 := keep0 f13_3_2 hb14
        have f14_4_0 := keep0 f13_4_0 hb14
        have f14_4_1 := keep0 f13_4_1 hb14
        have f14_4_2 := keep0 f13_4_2 hb14
        have f14_5_0 := keep0 f13_5_0 hb14
        have f14_5_1 := keep0 f13_5_1 hb14
        have f14_5_2 := keep0 f13_5_2 hb14
        clear f13_0_0 f13_0_1 f13_0_2 f13_1_0 f13_1_1 f13_1_2 f13_2_0 f13_2_1 f13_2_2 f13_3_0 f13_3_1 f13_3_2 f13_4_0 f13_4_1 f13_4_2 f13_5_0 f13_5_1 f13_5_2 e2_0 e2_1 e2_2
        have hB14 := hide hb14
        clear hb14
        have e0_0 := unhide f14_0_0
        have e0_1 := unhide f14_0_1
        have e0_2 := unhide f14_0_2
        have e1_0 := unhide f14_1_0
        have e1_1 := unhide f14_1_1
        have e1_2 := unhide f14_1_2
        have e4_0 := unhide f14_4_0
        have e4_1 := unhide f14_4_1
        have e4_2 := unhide f14_4_2
        have e5_0 := unhide f14_5_0
        have e5_1 := unhide f14_5_1
        have e5_2 := unhide f14_5_2
        go_wp2_with fail
        refine (add_far na nb _ (unhide HVA) (unhide HVB) hf).mono ?_
        rintro e w15 ⟨rfl, hb15⟩
        have f15_0_0 := keep0 f14_0_0 hb15
        have f15_0_1 := keep0 f14_0_1 hb15
        have f15_0_2 := keep0 f14_0_2 hb15
        have f15_1_0 := keep0 f14_1_0 hb15
        have f15_1_1 := keep0 f14_1_1 hb15
        have f15_1_2 := keep0 f14_1_2 hb15
        have f15_2_0 := keep0 f14_2_0 hb15
        have f15_2_1 := keep0 f14_2_1 hb15
        have f15_2_2 := keep0 f14_2_2 hb15
        have f15_3_0 := keep0 f14_3_0 hb15
        have f15_3_1 := keep0 f14_3_1 hb15
        have f15_3_2 := keep0 f14_3_2 hb15
        have f15_4_0 := keep0 f14_4_0 hb15
        have f15_4_1 := keep0 f14_4_1 hb15
        have f15_4_2 := keep0 f14_4_2 hb15
        have f15_5_0 := keep0 f14_5_0 hb15
        have f15_5_1 := keep0 f14_5_1 hb15
        have f15_5_2 := keep0 f14_5_2 hb15
        clear f14_0_0 f14_0_1 f14_0_2 f14_1_0 f14_1_1 f14_1_2 f14_2_0 f14_2_1 f14_2_2 f14_3_0 f14_3_1 f14_3_2 f14_4_0 f14_4_1 f14_4_2 f14_5_0 f14_5_1 f14_5_2
        have hB15 := hide hb15
        clear hb15
        go_wp2
        go_ret
        exact ⟨rfl, nx_al (nx_trans (nx_trans (nx_trans (nx_al (nx_trans (nx_al (nx_trans (nx_trans (nx_trans (nx_trans (nx_trans (nx_al (nx_trans (nx_al (nx_trans (nx_trans (nx_trans (nx_al (nx_al (nx_trans (nx_al (unhide hB1)) (unhide hB2)))) (unhide hB3)) (unhide hB4)) (unhide hB5))) (unhide hB6))) (unhide hB7)) (unhide hB8)) (unhide hB9)) (unhide hB10)) (unhide hB11))) (unhide hB12))) (unhide hB13)) (unhide hB14)) (unhide hB15))⟩
  · have hrc0 : (rc == 0) = false := by simpa using hrc
    clear HOK
    by_cases hk : ka = 1
    rotate_left
    · have hk1 : (ka != 1) = true := bne_iff_ne.2 hk
      clear hk
      have e2_0 := lay1 f12_2_0
      have e2_1 := lay1 f12_2_1
      have e2_2 := lay1 f12_2_2
      have e3_0 := lay1 f12_3_0
      have e3_1 := lay1 f12_3_1
      have e3_2 := lay1 f12_3_2
      have e0_0 := lay1 f12_0_0
      have e0_1 := lay1 f12_0_1
      have e0_2 := lay1 f12_0_2
      go_wp2_with fail
      refine (ok_yes (unhide HVA) _).mono ?_
      rintro e w13 ⟨rfl, hb13⟩
      have f13_0_0 := keep1 f12_0_0 hb13
      have f13_0_1 := keep1 f12_0_1 hb13
      have f13_0_2 := keep1 f12_0_2 hb13
      have f13_1_0 := keep1 f12_1_0 hb13
      have f13_1_1 := keep1 f12_1_1 hb13
      have f13_1_2 := keep1 f12_1_2 hb13
      have f13_2_0 := keep1 f12_2_0 hb13
      have f13_2_1 := keep1 f12_2_1 hb13
      have f13_2_2 := keep1 f12_2_2 hb13
      have f13_3_0 := keep1 f12_3_0 hb13
      have f13_3_1 := keep1 f12_3_1 hb13
      have f13_3_2 := keep1 f12_3_2 hb13
      have f13_4_0 := keep1 f12_4_0 hb13
      have f13_4_1 := keep1 f12_4_1 hb13
      have f13_4_2 := keep1 f12_4_2 hb13
      have f13_5_0 : Hid (w13.cell? ⟨w12.heap.size, 0, none⟩ = some (.int .i64 uk)) := cell_later hb13 (by first | (simp; done) | (simp [World.cell?_alloc_at, World.cell?_alloc_past]; done) | (rw [World.cell?_alloc_lt _ _ _ (by simp <;> omega)]; simp))
      have f13_5_1 : Hid (w13.cell? ⟨w12.heap.size, 1, none⟩ = some (.int .i64 un)) := cell_later hb13 (by first | (simp; done) | (simp [World.cell?_alloc_at, World.cell?_alloc_past]; done) | (rw [World.cell?_alloc_lt _ _ _ (by simp <;> omega)]; simp))
      have f13_5_2 : Hid (w13.cell? ⟨w12.heap.size, 2, none⟩ = some (.string ut)) := cell_later hb13 (by first | (simp; done) | (simp [World.cell?_alloc_at, World.cell?_alloc_past]; done) | (rw [World.cell?_alloc_lt _ _ _ (by simp <;> omega)]; simp))
      clear f12_0_0 f12_0_1 f12_0_2 f12_1_0 f12_1_1 f12_1_2 f12_2_0 f12_2_1 f12_2_2 f12_3_0 f12_3_1 f12_3_2 f12_4_0 f12_4_1 f12_4_2 e2_0 e2_1 e2_2 e3_0 e3_1 e3_2 e0_0 e0_1 e0_2
      have hB13 := hide hb13
      clear hb13
      have e0_0 := unhide f13_0_0
      have e0_1 := unhide f13_0_1
      have e0_2 := unhide f13_0_2
      have e1_0 := unhide f13_1_0
      have e1_1 := unhide f13_1_1
      have e1_2 := unhide f13_1_2
      have e4_0 := unhide f13_4_0
      have e4_1 := unhide f13_4_1
      have e4_2 := unhide f13_4_2
      have e5_0 := unhide f13_5_0
      have e5_1 := unhide f13_5_1
      have e5_2 := unhide f13_5_2
      go_wp2
      all_goals first | (go_ret; exact ⟨rfl, nx_trans (nx_al (nx_trans (nx_al (nx_trans (nx_trans (nx_trans (nx_trans (nx_trans (nx_al (nx_trans (nx_al (nx_trans (nx_trans (nx_trans (nx_al (nx_al (nx_trans (nx_al (unhide hB1)) (unhide hB2)))) (unhide hB3)) (unhide hB4)) (unhide hB5))) (unhide hB6))) (unhide hB7)) (unhide hB8)) (unhide hB9)) (unhide hB10)) (unhide hB11))) (unhide hB12))) (unhide hB13)⟩) | (exfalso; have hm := unhide HM; simp_all; done)
    by_cases hk' : kb = 1
    rotate_left
    · obtain rfl : ka = 1 := by simpa using hk
      have hk1 : (kb != 1) = true := bne_iff_ne.2 hk'
      clear hk hk'
      have e2_0 := lay1 f12_2_0
      have e2_1 := lay1 f12_2_1
      have e2_2 := lay1 f12_2_2
      have e3_0 := lay1 f12_3_0
      have e3_1 := lay1 f12_3_1
      have e3_2 := lay1 f12_3_2
      have e0_0 := lay1 f12_0_0
      have e0_1 := lay1 f12_0_1
      have e0_2 := lay1 f12_0_2
      go_wp2_with fail
      refine (ok_yes (unhide HVA) _).mono ?_
      rintro e w13 ⟨rfl, hb13⟩
      have f13_0_0 := keep1 f12_0_0 hb13
      have f13_0_1 := keep1 f12_0_1 hb13
      have f13_0_2 := keep1 f12_0_2 hb13
      have f13_1_0 := keep1 f12_1_0 hb13
      have f13_1_1 := keep1 f12_1_1 hb13
      have f13_1_2 := keep1 f12_1_2 hb13
      have f13_2_0 := keep1 f12_2_0 hb13
      have f13_2_1 := keep1 f12_2_1 hb13
      have f13_2_2 := keep1 f12_2_2 hb13
      have f13_3_0 := keep1 f12_3_0 hb13
      have f13_3_1 := keep1 f12_3_1 hb13
      have f13_3_2 := keep1 f12_3_2 hb13
      have f13_4_0 := keep1 f12_4_0 hb13
      have f13_4_1 := keep1 f12_4_1 hb13
      have f13_4_2 := keep1 f12_4_2 hb13
      have f13_5_0 : Hid (w13.cell? ⟨w12.heap.size, 0, none⟩ = some (.int .i64 uk)) := cell_later hb13 (by first | (simp; done) | (simp [World.cell?_alloc_at, World.cell?_alloc_past]; done) | (rw [World.cell?_alloc_lt _ _ _ (by simp <;> omega)]; simp))
      have f13_5_1 : Hid (w13.cell? ⟨w12.heap.size, 1, none⟩ = some (.int .i64 un)) := cell_later hb13 (by first | (simp; done) | (simp [World.cell?_alloc_at, World.cell?_alloc_past]; done) | (rw [World.cell?_alloc_lt _ _ _ (by simp <;> omega)]; simp))
      have f13_5_2 : Hid (w13.cell? ⟨w12.heap.size, 2, none⟩ = some (.string ut)) := cell_later hb13 (by first | (simp; done) | (simp [World.cell?_alloc_at, World.cell?_alloc_past]; done) | (rw [World.cell?_alloc_lt _ _ _ (by simp <;> omega)]; simp))
      clear f12_0_0 f12_0_1 f12_0_2 f12_1_0 f12_1_1 f12_1_2 f12_2_0 f12_2_1 f12_2_2 f12_3_0 f12_3_1 f12_3_2 f12_4_0 f12_4_1 f12_4_2 e2_0 e2_1 e2_2 e3_0 e3_1 e3_2 e0_0 e0_1 e0_2
      have hB13 := hide hb13
      clear hb13
      have e0_0 := unhide f13_0_0
      have e0_1 := unhide f13_0_1
      have e0_2 := unhide f13_0_2
      have e1_0 := unhide f13_1_0
      have e1_1 := unhide f13_1_1
      have e1_2 := unhide f13_1_2
      have e4_0 := unhide f13_4_0
      have e4_1 := unhide f13_4_1
      have e4_2 := unhide f13_4_2
      have e5_0 := unhide f13_5_0
      have e5_1 := unhide f13_5_1
      have e5_2 := unhide f13_5_2
      go_wp2
      all_goals first | (go_ret; exact ⟨rfl, nx_trans (nx_al (nx_trans (nx_al (nx_trans (nx_trans (nx_trans (nx_trans (nx_trans (nx_al (nx_trans (nx_al (nx_trans (nx_trans (nx_trans (nx_al (nx_al (nx_trans (nx_al (unhide hB1)) (unhide hB2)))) (unhide hB3)) (unhide hB4)) (unhide hB5))) (unhide hB6))) (unhide hB7)) (unhide hB8)) (unhide hB9)) (unhide hB10)) (unhide hB11))) (unhide hB12))) (unhide hB13)⟩) | (exfalso; have hm := unhide HM; simp_all; done)
    subst hk hk'
    obtain rfl := (vok_one (unhide HVA)).2.2
    obtain rfl := (vok_one (unhide HVB)).2.2
    by_cases hn : na = nb
    · by_cases hf : (-2147483648 ≤ na + nb ∧ na + nb ≤ 2147483647)
      · have hM' : M = 0 := (unhide HM).2 ⟨rfl, hn, rfl⟩
        subst hM' hn
        have e2_0 := lay1 f12_2_0
        have e2_1 := lay1 f12_2_1
        have e2_2 := lay1 f12_2_2
        have e3_0 := lay1 f12_3_0
        have e3_1 := lay1 f12_3_1
        have e3_2 := lay1 f12_3_2
        have e0_0 := lay1 f12_0_0
        have e0_1 := lay1 f12_0_1
        have e0_2 := lay1 f12_0_2
        go_wp2_with fail
        refine (ok_yes (unhide HVA) _).mono ?_
        rintro e w13 ⟨rfl, hb13⟩
        have f13_0_0 := keep1 f12_0_0 hb13
        have f13_0_1 := keep1 f12_0_1 hb13
        have f13_0_2 := keep1 f12_0_2 hb13
        have f13_1_0 := keep1 f12_1_0 hb13
        have f13_1_1 := keep1 f12_1_1 hb13
        have f13_1_2 := keep1 f12_1_2 hb13
        have f13_2_0 := keep1 f12_2_0 hb13
        have f13_2_1 := keep1 f12_2_1 hb13
        have f13_2_2 := keep1 f12_2_2 hb13
        have f13_3_0 := keep1 f12_3_0 hb13
        have f13_3_1 := keep1 f12_3_1 hb13
        have f13_3_2 := keep1 f12_3_2 hb13
        have f13_4_0 := keep1 f12_4_0 hb13
        have f13_4_1 := keep1 f12_4_1 hb13
        have f13_4_2 := keep1 f12_4_2 hb13
        have f13_5_0 : Hid (w13.cell? ⟨w12.heap.size, 0, none⟩ = some (.int .i64 uk)) := cell_later hb13 (by first | (simp; done) | (simp [World.cell?_alloc_at, World.cell?_alloc_past]; done) | (rw [World.cell?_alloc_lt _ _ _ (by simp <;> omega)]; simp))
        have f13_5_1 : Hid (w13.cell? ⟨w12.heap.size, 1, none⟩ = some (.int .i64 un)) := cell_later hb13 (by first | (simp; done) | (simp [World.cell?_alloc_at, World.cell?_alloc_past]; done) | (rw [World.cell?_alloc_lt _ _ _ (by simp <;> omega)]; simp))
        have f13_5_2 : Hid (w13.cell? ⟨w12.heap.size, 2, none⟩ = some (.string ut)) := cell_later hb13 (by first | (simp; done) | (simp [World.cell?_alloc_at, World.cell?_alloc_past]; done) | (rw [World.cell?_alloc_lt _ _ _ (by simp <;> omega)]; simp))
        clear f12_0_0 f12_0_1 f12_0_2 f12_1_0 f12_1_1 f12_1_2 f12_2_0 f12_2_1 f12_2_2 f12_3_0 f12_3_1 f12_3_2 f12_4_0 f12_4_1 f12_4_2 e2_0 e2_1 e2_2 e3_0 e3_1 e3_2 e0_0 e0_1 e0_2
        have hB13 := hide hb13
        clear hb13
        have e0_0 := unhide f13_0_0
        have e0_1 := unhide f13_0_1
        have e0_2 := unhide f13_0_2
        have e1_0 := unhide f13_1_0
        have e1_1 := unhide f13_1_1
        have e1_2 := unhide f13_1_2
        have e4_0 := unhide f13_4_0
        have e4_1 := unhide f13_4_1
        have e4_2 := unhide f13_4_2
        have e5_0 := unhide f13_5_0
        have e5_1 := unhide f13_5_1
        have e5_2 := unhide f13_5_2
        go_wp2_with fail
        refine (add_fit na na _ (unhide HVA) (unhide HVB) hf.1 hf.2).mono ?_
        rintro e w14 ⟨rfl, hb14⟩
        have f14_0_0 := keep0 f13_0_0 hb14
        have f14_0_1 := keep0 f13_0_1 hb14
        have f14_0_2 := keep0 f13_0_2 hb14
        have f14_1_0 := keep0 f13_1_0 hb14
        have f14_1_1 := keep0 f13_1_1 hb14
        have f14_1_2 := keep0 f13_1_2 hb14
        have f14_2_0 := keep0 f13_2_0 hb14
        have f14_2_1 := keep0 f13_2_1 hb14
        have f14_2_2 := keep0 f13_2_2 hb14
        have f14_3_0 := keep0 f13_3_0 hb14
        have f14_3_1 := keep0 f13_3_1 hb14
        have f14_3_2 := keep0 f13_3_2 hb14
        have f14_4_0 := keep0 f13_4_0 hb14
        have f14_4_1 := keep0 f13_4_1 hb14
        have f14_4_2 := keep0 f13_4_2 hb14
        have f14_5_0 := keep0 f13_5_0 hb14
        have f14_5_1 := keep0 f13_5_1 hb14
        have f14_5_2 := keep0 f13_5_2 hb14
        clear f13_0_0 f13_0_1 f13_0_2 f13_1_0 f13_1_1 f13_1_2 f13_2_0 f13_2_1 f13_2_2 f13_3_0 f13_3_1 f13_3_2 f13_4_0 f13_4_1 f13_4_2 f13_5_0 f13_5_1 f13_5_2
        have hB14 := hide hb14
        clear hb14
        have e1_0 := lay1 f14_1_0
        have e1_1 := lay1 f14_1_1
        have e1_2 := lay1 f14_1_2
        go_wp2_with fail
        refine (sub_back (na + na) na na _ (vok_num hf.1 hf.2) (unhide HVA) (unhide HVB) (by omega)).mono ?_
        rintro e w15 ⟨rfl, hb15⟩
        have f15_0_0 := keep1 f14_0_0 hb15
        have f15_0_1 := keep1 f14_0_1 hb15
        have f15_0_2 := keep1 f14_0_2 hb15
        have f15_1_0 := keep1 f14_1_0 hb15
        have f15_1_1 := keep1 f14_1_1 hb15
        have f15_1_2 := keep1 f14_1_2 hb15
        have f15_2_0 := keep1 f14_2_0 hb15
        have f15_2_1 := keep1 f14_2_1 hb15
        have f15_2_2 := keep1 f14_2_2 hb15
        have f15_3_0 := keep1 f14_3_0 hb15
        have f15_3_1 := keep1 f14_3_1 hb15
        have f15_3_2 := keep1 f14_3_2 hb15
        have f15_4_0 := keep1 f14_4_0 hb15
        have f15_4_1 := keep1 f14_4_1 hb15
        have f15_4_2 := keep1 f14_4_2 hb15
        have f15_5_0 := keep1 f14_5_0 hb15
        have f15_5_1 := keep1 f14_5_1 hb15
        have f15_5_2 := keep1 f14_5_2 hb15
        have f15_6_0 : Hid (w15.cell? ⟨w14.heap.size, 0, none⟩ = some (.int .i64 1)) := cell_later hb15 (by first | (simp; done) | (simp [World.cell?_alloc_at, World.cell?_alloc_past]; done) | (rw [World.cell?_alloc_lt _ _ _ (by simp <;> omega)]; simp))
        have f15_6_1 : Hid (w15.cell? ⟨w14.heap.size, 1, none⟩ = some (.int .i64 (na + na))) := cell_later hb15 (by first | (simp; done) | (simp [World.cell?_alloc_at, World.cell?_alloc_past]; done) | (rw [World.cell?_alloc_lt _ _ _ (by simp <;> omega)]; simp))
        have f15_6_2 : Hid (w15.cell? ⟨w14.heap.size, 2, none⟩ = some (.string ⟨#[]⟩)) := cell_later hb15 (by first | (simp; done) | (simp [World.cell?_alloc_at, World.cell?_alloc_past]; done) | (rw [World.cell?_alloc_lt _ _ _ (by simp <;> omega)]; simp))
        clear f14_0_0 f14_0_1 f14_0_2 f14_1_0 f14_1_1 f14_1_2 f14_2_0 f14_2_1 f14_2_2 f14_3_0 f14_3_1 f14_3_2 f14_4_0 f14_4_1 f14_4_2 f14_5_0 f14_5_1 f14_5_2 e1_0 e1_1 e1_2
        have hB15 := hide hb15
        clear hb15
        have e0_0 := lay1 f15_0_0
        have e0_1 := lay1 f15_0_1
        have e0_2 := lay1 f15_0_2
        go_wp2
        go_ret
        exact ⟨rfl, nx_al (nx_trans (nx_al (nx_trans (nx_trans (nx_al (nx_trans (nx_al (nx_trans (nx_trans (nx_trans (nx_trans (nx_trans (nx_al (nx_trans (nx_al (nx_trans (nx_trans (nx_trans (nx_al (nx_al (nx_trans (nx_al (unhide hB1)) (unhide hB2)))) (unhide hB3)) (unhide hB4)) (unhide hB5))) (unhide hB6))) (unhide hB7)) (unhide hB8)) (unhide hB9)) (unhide hB10)) (unhide hB11))) (unhide hB12))) (unhide hB13)) (unhide hB14))) (unhide hB15))⟩
      · have hM' : M = 0 := (unhide HM).2 ⟨rfl, hn, rfl⟩
        subst hM' hn
        have e2_0 := lay1 f12_2_0
        have e2_1 := lay1 f12_2_1
        have e2_2 := lay1 f12_2_2
        have e3_0 := lay1 f12_3_0
        have e3_1 := lay1 f12_3_1
        have e3_2 := lay1 f12_3_2
        have e0_0 := lay1 f12_0_0
        have e0_1 := lay1 f12_0_1
        have e0_2 := lay1 f12_0_2
        go_wp2_with fail
        refine (ok_yes (unhide HVA) _).mono ?_
        rintro e w13 ⟨rfl, hb13⟩
        have f13_0_0 := keep1 f12_0_0 hb13
        have f13_0_1 := keep1 f12_0_1 hb13
        have f13_0_2 := keep1 f12_0_2 hb13
        have f13_1_0 := keep1 f12_1_0 hb13
        have f13_1_1 := keep1 f12_1_1 hb13
        have f13_1_2 := keep1 f12_1_2 hb13
        have f13_2_0 := keep1 f12_2_0 hb13
        have f13_2_1 := keep1 f12_2_1 hb13
        have f13_2_2 := keep1 f12_2_2 hb13
        have f13_3_0 := keep1 f12_3_0 hb13
        have f13_3_1 := keep1 f12_3_1 hb13
        have f13_3_2 := keep1 f12_3_2 hb13
        have f13_4_0 := keep1 f12_4_0 hb13
        have f13_4_1 := keep1 f12_4_1 hb13
        have f13_4_2 := keep1 f12_4_2 hb13
        have f13_5_0 : Hid (w13.cell? ⟨w12.heap.size, 0, none⟩ = some (.int .i64 uk)) := cell_later hb13 (by first | (simp; done) | (simp [World.cell?_alloc_at, World.cell?_alloc_past]; done) | (rw [World.cell?_alloc_lt _ _ _ (by simp <;> omega)]; simp))
        have f13_5_1 : Hid (w13.cell? ⟨w12.heap.size, 1, none⟩ = some (.int .i64 un)) := cell_later hb13 (by first | (simp; done) | (simp [World.cell?_alloc_at, World.cell?_alloc_past]; done) | (rw [World.cell?_alloc_lt _ _ _ (by simp <;> omega)]; simp))
        have f13_5_2 : Hid (w13.cell? ⟨w12.heap.size, 2, none⟩ = some (.string ut)) := cell_later hb13 (by first | (simp; done) | (simp [World.cell?_alloc_at, World.cell?_alloc_past]; done) | (rw [World.cell?_alloc_lt _ _ _ (by simp <;> omega)]; simp))
        clear f12_0_0 f12_0_1 f12_0_2 f12_1_0 f12_1_1 f12_1_2 f12_2_0 f12_2_1 f12_2_2 f12_3_0 f12_3_1 f12_3_2 f12_4_0 f12_4_1 f12_4_2 e2_0 e2_1 e2_2 e3_0 e3_1 e3_2 e0_0 e0_1 e0_2
        have hB13 := hide hb13
        clear hb13
        have e0_0 := unhide f13_0_0
        have e0_1 := unhide f13_0_1
        have e0_2 := unhide f13_0_2
        have e1_0 := unhide f13_1_0
        have e1_1 := unhide f13_1_1
        have e1_2 := unhide f13_1_2
        have e4_0 := unhide f13_4_0
        have e4_1 := unhide f13_4_1
        have e4_2 := unhide f13_4_2
        have e5_0 := unhide f13_5_0
        have e5_1 := unhide f13_5_1
        have e5_2 := unhide f13_5_2
        go_wp2_with fail
        refine (add_far na na _ (unhide HVA) (unhide HVB) hf).mono ?_
        rintro e w14 ⟨rfl, hb14⟩
        have f14_0_0 := keep0 f13_0_0 hb14
        have f14_0_1 := keep0 f13_0_1 hb14
        have f14_0_2 := keep0 f13_0_2 hb14
        have f14_1_0 := keep0 f13_1_0 hb14
        have f14_1_1 := keep0 f13_1_1 hb14
        have f14_1_2 := keep0 f13_1_2 hb14
        have f14_2_0 := keep0 f13_2_0 hb14
        have f14_2_1 := keep0 f13_2_1 hb14
        have f14_2_2 := keep0 f13_2_2 hb14
        have f14_3_0 := keep0 f13_3_0 hb14
        have f14_3_1 := keep0 f13_3_1 hb14
        have f14_3_2 := keep0 f13_3_2 hb14
        have f14_4_0 := keep0 f13_4_0 hb14
        have f14_4_1 := keep0 f13_4_1 hb14
        have f14_4_2 := keep0 f13_4_2 hb14
        have f14_5_0 := keep0 f13_5_0 hb14
        have f14_5_1 := keep0 f13_5_1 hb14
        have f14_5_2 := keep0 f13_5_2 hb14
        clear f13_0_0 f13_0_1 f13_0_2 f13_1_0 f13_1_1 f13_1_2 f13_2_0 f13_2_1 f13_2_2 f13_3_0 f13_3_1 f13_3_2 f13_4_0 f13_4_1 f13_4_2 f13_5_0 f13_5_1 f13_5_2
        have hB14 := hide hb14
        clear hb14
        go_wp2
        go_ret
        exact ⟨rfl, nx_al (nx_trans (nx_trans (nx_al (nx_trans (nx_al (nx_trans (nx_trans (nx_trans (nx_trans (nx_trans (nx_al (nx_trans (nx_al (nx_trans (nx_trans (nx_trans (nx_al (nx_al (nx_trans (nx_al (unhide hB1)) (unhide hB2)))) (unhide hB3)) (unhide hB4)) (unhide hB5))) (unhide hB6))) (unhide hB7)) (unhide hB8)) (unhide hB9)) (unhide hB10)) (unhide hB11))) (unhide hB12))) (unhide hB13)) (unhide hB14))⟩
    · by_cases hf : (-2147483648 ≤ na + nb ∧ na + nb ≤ 2147483647)
      · have hM' : ¬ M = 0 := fun e => hn ((unhide HM).1 e).2.1
        have e2_0 := lay1 f12_2_0
        have e2_1 := lay1 f12_2_1
        have e2_2 := lay1 f12_2_2
        have e3_0 := lay1 f12_3_0
        have e3_1 := lay1 f12_3_1
        have e3_2 := lay1 f12_3_2
        have e0_0 := lay1 f12_0_0
        have e0_1 := lay1 f12_0_1
        have e0_2 := lay1 f12_0_2
        go_wp2_with fail
        refine (ok_yes (unhide HVA) _).mono ?_
        rintro e w13 ⟨rfl, hb13⟩
        have f13_0_0 := keep1 f12_0_0 hb13
        have f13_0_1 := keep1 f12_0_1 hb13
        have f13_0_2 := keep1 f12_0_2 hb13
        have f13_1_0 := keep1 f12_1_0 hb13
        have f13_1_1 := keep1 f12_1_1 hb13
        have f13_1_2 := keep1 f12_1_2 hb13
        have f13_2_0 := keep1 f12_2_0 hb13
        have f13_2_1 := keep1 f12_2_1 hb13
        have f13_2_2 := keep1 f12_2_2 hb13
        have f13_3_0 := keep1 f12_3_0 hb13
        have f13_3_1 := keep1 f12_3_1 hb13
        have f13_3_2 := keep1 f12_3_2 hb13
        have f13_4_0 := keep1 f12_4_0 hb13
        have f13_4_1 := keep1 f12_4_1 hb13
        have f13_4_2 := keep1 f12_4_2 hb13
        have f13_5_0 : Hid (w13.cell? ⟨w12.heap.size, 0, none⟩ = some (.int .i64 uk)) := cell_later hb13 (by first | (simp; done) | (simp [World.cell?_alloc_at, World.cell?_alloc_past]; done) | (rw [World.cell?_alloc_lt _ _ _ (by simp <;> omega)]; simp))
        have f13_5_1 : Hid (w13.cell? ⟨w12.heap.size, 1, none⟩ = some (.int .i64 un)) := cell_later hb13 (by first | (simp; done) | (simp [World.cell?_alloc_at, World.cell?_alloc_past]; done) | (rw [World.cell?_alloc_lt _ _ _ (by simp <;> omega)]; simp))
        have f13_5_2 : Hid (w13.cell? ⟨w12.heap.size, 2, none⟩ = some (.string ut)) := cell_later hb13 (by first | (simp; done) | (simp [World.cell?_alloc_at, World.cell?_alloc_past]; done) | (rw [World.cell?_alloc_lt _ _ _ (by simp <;> omega)]; simp))
        clear f12_0_0 f12_0_1 f12_0_2 f12_1_0 f12_1_1 f12_1_2 f12_2_0 f12_2_1 f12_2_2 f12_3_0 f12_3_1 f12_3_2 f12_4_0 f12_4_1 f12_4_2 e2_0 e2_1 e2_2 e3_0 e3_1 e3_2 e0_0 e0_1 e0_2
        have hB13 := hide hb13
        clear hb13
        have e0_0 := unhide f13_0_0
        have e0_1 := unhide f13_0_1
        have e0_2 := unhide f13_0_2
        have e1_0 := unhide f13_1_0
        have e1_1 := unhide f13_1_1
        have e1_2 := unhide f13_1_2
        have e4_0 := unhide f13_4_0
        have e4_1 := unhide f13_4_1
        have e4_2 := unhide f13_4_2
        have e5_0 := unhide f13_5_0
        have e5_1 := unhide f13_5_1
        have e5_2 := unhide f13_5_2
        go_wp2_with fail
        refine (add_fit na nb _ (unhide HVA) (unhide HVB) hf.1 hf.2).mono ?_
        rintro e w14 ⟨rfl, hb14⟩
        have f14_0_0 := keep0 f13_0_0 hb14
        have f14_0_1 := keep0 f13_0_1 hb14
        have f14_0_2 := keep0 f13_0_2 hb14
        have f14_1_0 := keep0 f13_1_0 hb14
        have f14_1_1 := keep0 f13_1_1 hb14
        have f14_1_2 := keep0 f13_1_2 hb14
        have f14_2_0 := keep0 f13_2_0 hb14
        have f14_2_1 := keep0 f13_2_1 hb14
        have f14_2_2 := keep0 f13_2_2 hb14
        have f14_3_0 := keep0 f13_3_0 hb14
        have f14_3_1 := keep0 f13_3_1 hb14
        have f14_3_2 := keep0 f13_3_2 hb14
        have f14_4_0 := keep0 f13_4_0 hb14
        have f14_4_1 := keep0 f13_4_1 hb14
        have f14_4_2 := keep0 f13_4_2 hb14
        have f14_5_0 := keep0 f13_5_0 hb14
        have f14_5_1 := keep0 f13_5_1 hb14
        have f14_5_2 := keep0 f13_5_2 hb14
        clear f13_0_0 f13_0_1 f13_0_2 f13_1_0 f13_1_1 f13_1_2 f13_2_0 f13_2_1 f13_2_2 f13_3_0 f13_3_1 f13_3_2 f13_4_0 f13_4_1 f13_4_2 f13_5_0 f13_5_1 f13_5_2
        have hB14 := hide hb14
        clear hb14
        have e1_0 := lay1 f14_1_0
        have e1_1 := lay1 f14_1_1
        have e1_2 := lay1 f14_1_2
        go_wp2_with fail
        refine (sub_back (na + nb) na nb _ (vok_num hf.1 hf.2) (unhide HVA) (unhide HVB) (by omega)).mono ?_
        rintro e w15 ⟨rfl, hb15⟩
        have f15_0_0 := keep1 f14_0_0 hb15
        have f15_0_1 := keep1 f14_0_1 hb15
        have f15_0_2 := keep1 f14_0_2 hb15
        have f15_1_0 := keep1 f14_1_0 hb15
        have f15_1_1 := keep1 f14_1_1 hb15
        have f15_1_2 := keep1 f14_1_2 hb15
        have f15_2_0 := keep1 f14_2_0 hb15
        have f15_2_1 := keep1 f14_2_1 hb15
        have f15_2_2 := keep1 f14_2_2 hb15
        have f15_3_0 := keep1 f14_3_0 hb15
        have f15_3_1 := keep1 f14_3_1 hb15
        have f15_3_2 := keep1 f14_3_2 hb15
        have f15_4_0 := keep1 f14_4_0 hb15
        have f15_4_1 := keep1 f14_4_1 hb15
        have f15_4_2 := keep1 f14_4_2 hb15
        have f15_5_0 := keep1 f14_5_0 hb15
        have f15_5_1 := keep1 f14_5_1 hb15
        have f15_5_2 := keep1 f14_5_2 hb15
        have f15_6_0 : Hid (w15.cell? ⟨w14.heap.size, 0, none⟩ = some (.int .i64 1)) := cell_later hb15 (by first | (simp; done) | (simp [World.cell?_alloc_at, World.cell?_alloc_past]; done) | (rw [World.cell?_alloc_lt _ _ _ (by simp <;> omega)]; simp))
        have f15_6_1 : Hid (w15.cell? ⟨w14.heap.size, 1, none⟩ = some (.int .i64 (na + nb))) := cell_later hb15 (by first | (simp; done) | (simp [World.cell?_alloc_at, World.cell?_alloc_past]; done) | (rw [World.cell?_alloc_lt _ _ _ (by simp <;> omega)]; simp))
        have f15_6_2 : Hid (w15.cell? ⟨w14.heap.size, 2, none⟩ = some (.string ⟨#[]⟩)) := cell_later hb15 (by first | (simp; done) | (simp [World.cell?_alloc_at, World.cell?_alloc_past]; done) | (rw [World.cell?_alloc_lt _ _ _ (by simp <;> omega)]; simp))
        clear f14_0_0 f14_0_1 f14_0_2 f14_1_0 f14_1_1 f14_1_2 f14_2_0 f14_2_1 f14_2_2 f14_3_0 f14_3_1 f14_3_2 f14_4_0 f14_4_1 f14_4_2 f14_5_0 f14_5_1 f14_5_2 e1_0 e1_1 e1_2
        have hB15 := hide hb15
        clear hb15
        have e0_0 := lay1 f15_0_0
        have e0_1 := lay1 f15_0_1
        have e0_2 := lay1 f15_0_2
        go_wp2
        go_ret
        exact ⟨rfl, nx_al (nx_trans (nx_al (nx_trans (nx_trans (nx_al (nx_trans (nx_al (nx_trans (nx_trans (nx_trans (nx_trans (nx_trans (nx_al (nx_trans (nx_al (nx_trans (nx_trans (nx_trans (nx_al (nx_al (nx_trans (nx_al (unhide hB1)) (unhide hB2)))) (unhide hB3)) (unhide hB4)) (unhide hB5))) (unhide hB6))) (unhide hB7)) (unhide hB8)) (unhide hB9)) (unhide hB10)) (unhide hB11))) (unhide hB12))) (unhide hB13)) (unhide hB14))) (unhide hB15))⟩
      · have hM' : ¬ M = 0 := fun e => hn ((unhide HM).1 e).2.1
        have e2_0 := lay1 f12_2_0
        have e2_1 := lay1 f12_2_1
        have e2_2 := lay1 f12_2_2
        have e3_0 := lay1 f12_3_0
        have e3_1 := lay1 f12_3_1
        have e3_2 := lay1 f12_3_2
        have e0_0 := lay1 f12_0_0
        have e0_1 := lay1 f12_0_1
        have e0_2 := lay1 f12_0_2
        go_wp2_with fail
        refine (ok_yes (unhide HVA) _).mono ?_
        rintro e w13 ⟨rfl, hb13⟩
        have f13_0_0 := keep1 f12_0_0 hb13
        have f13_0_1 := keep1 f12_0_1 hb13
        have f13_0_2 := keep1 f12_0_2 hb13
        have f13_1_0 := keep1 f12_1_0 hb13
        have f13_1_1 := keep1 f12_1_1 hb13
        have f13_1_2 := keep1 f12_1_2 hb13
        have f13_2_0 := keep1 f12_2_0 hb13
        have f13_2_1 := keep1 f12_2_1 hb13
        have f13_2_2 := keep1 f12_2_2 hb13
        have f13_3_0 := keep1 f12_3_0 hb13
        have f13_3_1 := keep1 f12_3_1 hb13
        have f13_3_2 := keep1 f12_3_2 hb13
        have f13_4_0 := keep1 f12_4_0 hb13
        have f13_4_1 := keep1 f12_4_1 hb13
        have f13_4_2 := keep1 f12_4_2 hb13
        have f13_5_0 : Hid (w13.cell? ⟨w12.heap.size, 0, none⟩ = some (.int .i64 uk)) := cell_later hb13 (by first | (simp; done) | (simp [World.cell?_alloc_at, World.cell?_alloc_past]; done) | (rw [World.cell?_alloc_lt _ _ _ (by simp <;> omega)]; simp))
        have f13_5_1 : Hid (w13.cell? ⟨w12.heap.size, 1, none⟩ = some (.int .i64 un)) := cell_later hb13 (by first | (simp; done) | (simp [World.cell?_alloc_at, World.cell?_alloc_past]; done) | (rw [World.cell?_alloc_lt _ _ _ (by simp <;> omega)]; simp))
        have f13_5_2 : Hid (w13.cell? ⟨w12.heap.size, 2, none⟩ = some (.string ut)) := cell_later hb13 (by first | (simp; done) | (simp [World.cell?_alloc_at, World.cell?_alloc_past]; done) | (rw [World.cell?_alloc_lt _ _ _ (by simp <;> omega)]; simp))
        clear f12_0_0 f12_0_1 f12_0_2 f12_1_0 f12_1_1 f12_1_2 f12_2_0 f12_2_1 f12_2_2 f12_3_0 f12_3_1 f12_3_2 f12_4_0 f12_4_1 f12_4_2 e2_0 e2_1 e2_2 e3_0 e3_1 e3_2 e0_0 e0_1 e0_2
        have hB13 := hide hb13
        clear hb13
        have e0_0 := unhide f13_0_0
        have e0_1 := unhide f13_0_1
        have e0_2 := unhide f13_0_2
        have e1_0 := unhide f13_1_0
        have e1_1 := unhide f13_1_1
        have e1_2 := unhide f13_1_2
        have e4_0 := unhide f13_4_0
        have e4_1 := unhide f13_4_1
        have e4_2 := unhide f13_4_2
        have e5_0 := unhide f13_5_0
        have e5_1 := unhide f13_5_1
        have e5_2 := unhide f13_5_2
        go_wp2_with fail
        refine (add_far na nb _ (unhide HVA) (unhide HVB) hf).mono ?_
        rintro e w14 ⟨rfl, hb14⟩
        have f14_0_0 := keep0 f13_0_0 hb14
        have f14_0_1 := keep0 f13_0_1 hb14
        have f14_0_2 := keep0 f13_0_2 hb14
        have f14_1_0 := keep0 f13_1_0 hb14
        have f14_1_1 := keep0 f13_1_1 hb14
        have f14_1_2 := keep0 f13_1_2 hb14
        have f14_2_0 := keep0 f13_2_0 hb14
        have f14_2_1 := keep0 f13_2_1 hb14
        have f14_2_2 := keep0 f13_2_2 hb14
        have f14_3_0 := keep0 f13_3_0 hb14
        have f14_3_1 := keep0 f13_3_1 hb14
        have f14_3_2 := keep0 f13_3_2 hb14
        have f14_4_0 := keep0 f13_4_0 hb14
        have f14_4_1 := keep0 f13_4_1 hb14
        have f14_4_2 := keep0 f13_4_2 hb14
        have f14_5_0 := keep0 f13_5_0 hb14
        have f14_5_1 := keep0 f13_5_1 hb14
        have f14_5_2 := keep0 f13_5_2 hb14
        clear f13_0_0 f13_0_1 f13_0_2 f13_1_0 f13_1_1 f13_1_2 f13_2_0 f13_2_1 f13_2_2 f13_3_0 f13_3_1 f13_3_2 f13_4_0 f13_4_1 f13_4_2 f13_5_0 f13_5_1 f13_5_2
        have hB14 := hide hb14
        clear hb14
        go_wp2
        go_ret
        exact ⟨rfl, nx_al (nx_trans (nx_trans (nx_al (nx_trans (nx_al (nx_trans (nx_trans (nx_trans (nx_trans (nx_trans (nx_al (nx_trans (nx_al (nx_trans (nx_trans (nx_trans (nx_al (nx_al (nx_trans (nx_al (unhide hB1)) (unhide hB2)))) (unhide hB3)) (unhide hB4)) (unhide hB5))) (unhide hB6))) (unhide hB7)) (unhide hB8)) (unhide hB9)) (unhide hB10)) (unhide hB11))) (unhide hB12))) (unhide hB13)) (unhide hB14))⟩

end Go.Proofs.Ytpncohkbdaoceaa
