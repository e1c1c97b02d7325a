/- The law on division. -/
import Derived.Test.YtpncohkbdaoceaaDoorDivide1
import Derived.Deep.RegionHeld3
namespace Go.Proofs.YtpncohkbdaoceaaDoor
open Go.RowKit
set_option linter.unusedVariables false

set_option maxRecDepth 100000 in
set_option maxHeartbeats 16000000 in
theorem lawDivide_any (a0 : Option Addr) (len0 cap0 : Nat) (z0 : List Int) (a1 : Option Addr) (len1 cap1 : Nat) (z1 : List Int) (w : World) (h0 : IsRow .u8 w a0 len0 cap0 z0) (h1 : IsRow .u8 w a1 len1 cap1 z1) :
    Calls Tryd.prog 4 #[.slice a0 len0 cap0, .slice a1 len1 cap1] w fun e w' => e = .returned (.bool true) ∧ Below w.heap.size w w' := by
  have hl0 := h0.len
  have hl1 := h1.len
  have H0 := hide h0
  have H1 := hide h1
  clear h0 h1
  by_cases g0 : 1048576 < len0
  · go_enter Tryd.func4, Tryd.ntmps4
    go_wp2
    go_ret
    exact ⟨rfl, Below.refl _ _⟩
  by_cases g1 : 1048576 < len1
  · go_enter Tryd.func4, Tryd.ntmps4
    go_wp2
    go_ret
    exact ⟨rfl, Below.refl _ _⟩
  go_enter Tryd.func4, Tryd.ntmps4
  go_wp2_with fail
  refine (at_any a0 len0 cap0 z0 0 30000 _ (unhide H0) (by omega) (.inl rfl) (by omega) (by omega)).mono ?_
  rintro e w1 ⟨r1, rfl, r1a, r1b, hb1⟩
  go_wp2_with fail
  refine (at_any a1 len1 cap1 z1 0 30000 _ ((unhide H1).later (nx_trans hb1 (nx_alloc _ _))) (by omega) (.inl rfl) (by omega) (by omega)).mono ?_
  rintro e w2 ⟨r2, rfl, r2a, r2b, hb2⟩
  go_wp2_with fail
  refine (at_any a1 len1 cap1 z1 1 2 _ ((unhide H1).later (nx_trans (nx_trans (nx_trans hb1 (nx_alloc _ _)) hb2) (nx_alloc _ _))) (by omega) (.inr rfl) (by omega) (by omega)).mono ?_
  rintro e w3 ⟨r3, rfl, r3a, r3b, hb3⟩
  have f2_0_0 : Hid (w2.cell? ⟨w1.heap.size, 0, none⟩ = some (.int .i64 1)) := cell_later hb2 (by simp)
  have f2_0_1 : Hid (w2.cell? ⟨w1.heap.size, 1, none⟩ = some (.int .i64 (r1 - 15000))) := cell_later hb2 (by simp)
  have f2_0_2 : Hid (w2.cell? ⟨w1.heap.size, 2, none⟩ = some (.string ⟨#[]⟩)) := cell_later hb2 (by simp)
  have s3_0_0 : Hid (w3.cell? ⟨w1.heap.size, 0, none⟩ = some (.int .i64 1)) := cell_later hb3 (cell_later (nx_alloc _ _) (unhide f2_0_0))
  have s3_0_1 : Hid (w3.cell? ⟨w1.heap.size, 1, none⟩ = some (.int .i64 (r1 - 15000))) := cell_later hb3 (cell_later (nx_alloc _ _) (unhide f2_0_1))
  have s3_0_2 : Hid (w3.cell? ⟨w1.heap.size, 2, none⟩ = some (.string ⟨#[]⟩)) := cell_later hb3 (cell_later (nx_alloc _ _) (unhide f2_0_2))
  have s3_1_0 : Hid (w3.cell? ⟨w2.heap.size, 0, none⟩ = some (.int .i64 1)) := cell_later hb3 (by simp)
  have s3_1_1 : Hid (w3.cell? ⟨w2.heap.size, 1, none⟩ = some (.int .i64 (1 + r2))) := cell_later hb3 (by simp)
  have s3_1_2 : Hid (w3.cell? ⟨w2.heap.size, 2, none⟩ = some (.string ⟨#[]⟩)) := cell_later hb3 (by simp)
  have hW3 : Hid (Below w.heap.size w w3) := nx_trans (nx_al (nx_trans (nx_al hb1) hb2)) hb3
  have hfz : w3.frozen? ⟨w2.heap.size, 1, none⟩ = false := by
    rw [(bcell hb3).2 _ _ (by simp)]; simp
  have hs1 := hb1.size
  have hs2 := hb2.size
  simp at hs2
  clear hb1 hb2 hb3 H0 H1 f2_0_0 f2_0_1 f2_0_2
  have hX : inB (r1 - 15000) := inB_two (by omega) (by omega)
  by_cases hr3 : r3 = 1
  · have e3 : (r3 == 1) = true := by rw [hr3]; rfl
    clear hr3
    have hne : w2.heap.size ≠ w1.heap.size := by omega
    have f3_0_0 : Hid ((w3.setCell ⟨w2.heap.size, 1, none⟩ (.int .i64 (-(1 + r2)))).cell? ⟨w1.heap.size, 0, none⟩ = some (.int .i64 1)) := by rw [World.cell?_setCell_far _ _ _ _ hne]; exact s3_0_0
    have f3_0_1 : Hid ((w3.setCell ⟨w2.heap.size, 1, none⟩ (.int .i64 (-(1 + r2)))).cell? ⟨w1.heap.size, 1, none⟩ = some (.int .i64 (r1 - 15000))) := by rw [World.cell?_setCell_far _ _ _ _ hne]; exact s3_0_1
    have f3_0_2 : Hid ((w3.setCell ⟨w2.heap.size, 1, none⟩ (.int .i64 (-(1 + r2)))).cell? ⟨w1.heap.size, 2, none⟩ = some (.string ⟨#[]⟩)) := by rw [World.cell?_setCell_far _ _ _ _ hne]; exact s3_0_2
    have f3_1_0 : Hid ((w3.setCell ⟨w2.heap.size, 1, none⟩ (.int .i64 (-(1 + r2)))).cell? ⟨w2.heap.size, 0, none⟩ = some (.int .i64 1)) := by rw [World.cell?_setCell_other _ _ _ _ (by simp)]; exact s3_1_0
    have f3_1_1 : Hid ((w3.setCell ⟨w2.heap.size, 1, none⟩ (.int .i64 (-(1 + r2)))).cell? ⟨w2.heap.size, 1, none⟩ = some (.int .i64 (-(1 + r2)))) := World.cell?_setCell_same' _ _ _ (by rw [unhide s3_1_1]; rfl)
    have f3_1_2 : Hid ((w3.setCell ⟨w2.heap.size, 1, none⟩ (.int .i64 (-(1 + r2)))).cell? ⟨w2.heap.size, 2, none⟩ = some (.string ⟨#[]⟩)) := by rw [World.cell?_setCell_other _ _ _ _ (by simp)]; exact s3_1_2
    have hW : Hid (Below w.heap.size w (w3.setCell ⟨w2.heap.size, 1, none⟩ (.int .i64 (-(1 + r2))))) := nx_set (unhide hW3) (by omega)
    have q1 := unhide s3_1_1
    clear hW3 s3_0_0 s3_0_1 s3_0_2 s3_1_0 s3_1_1 s3_1_2
    have hBd : inB (-(1 + r2)) := inB_two (by omega) (by omega)
    have hB0 : ¬ (-(1 + r2)) = 0 := by omega
    obtain ⟨P, hPe⟩ : ∃ P, (r1 - 15000) * (-(1 + r2)) = P := ⟨_, rfl⟩
    have eP := hide hPe
    have hP : inB P := hPe ▸ mul_small _ _ (by omega) (by omega) (by omega) (by omega)
    have eq1 : Hid (P.tmod (-(1 + r2)) = 0) := by rw [← hPe]; exact hide (Int.mul_tmod_left _ _)
    have eq2 : Hid (P.tdiv (-(1 + r2)) = r1 - 15000) := by rw [← hPe]; exact hide (Int.mul_tdiv_cancel _ hB0)
    clear hPe
    obtain ⟨R, hRe⟩ : ∃ R, (r1 - 15000).tmod (-(1 + r2)) = R := ⟨_, rfl⟩
    have eR := hide hRe
    have hR : inB R := by rw [← hRe]; exact tmod_bd _ _ hX.1 hX.2
    obtain ⟨M, hMe⟩ : ∃ M, max R (-R) = M := ⟨_, rfl⟩
    have eM := hide hMe
    obtain ⟨N, hNe⟩ : ∃ N, max (-(1 + r2)) (-(-(1 + r2))) = N := ⟨_, rfl⟩
    have eN := hide hNe
    have hlt := tmod_abs (r1 - 15000) (-(1 + r2)) hB0
    have hMN : Hid (M < N) := by rw [← hMe, ← hNe, ← hRe]; exact hide hlt
    have hN : inB N := inB_two (by omega) (by omega)
    have hM : inB M := by have := unhide hMN; exact inB_two (by omega) (by omega)
    clear hMe hNe hlt
    by_cases hw : (r1 - 15000).tmod (-(1 + r2)) = 0
    · have eR0 := hide hw
      have hz : (R != 0) = false := by rw [← hRe, hw]; rfl
      obtain ⟨D, hDe⟩ : ∃ D, (r1 - 15000).tdiv (-(1 + r2)) = D := ⟨_, rfl⟩
      have eD := hide hDe
      have eB : Hid (D * (-(1 + r2)) = r1 - 15000) := by
        have h9 := Int.mul_tdiv_add_tmod (r1 - 15000) (-(1 + r2))
        rw [hw, hDe, Int.add_zero, Int.mul_comm] at h9
        exact hide h9
      have hD : inB D := by
        have h8 : D.natAbs ≤ (r1 - 15000).natAbs := by rw [← hDe, Int.natAbs_tdiv]; exact Nat.div_le_self _ _
        exact inB_two (by omega) (by omega)
      clear hw hDe hRe
      have o0_0 := unhide f3_0_0
      have o0_1 := unhide f3_0_1
      have o0_2 := unhide f3_0_2
      have o1_0 := unhide f3_1_0
      have o1_1 := unhide f3_1_1
      have o1_2 := unhide f3_1_2
      go_wp2_with fail
      refine (bin_mul (r1 - 15000) (-(1 + r2)) P _ hX hBd hP (unhide eP)).mono ?_
      rintro e w4 ⟨rfl, hb4⟩
      have f4_0_0 : Hid (w4.cell? ⟨w1.heap.size, 0, none⟩ = some (.int .i64 1)) := cell_later hb4 (by first | exact cell_later (nx_alloc _ _) (unhide f3_0_0) | exact cell_later (nx_trans (nx_alloc _ _) (nx_alloc _ _)) (unhide f3_0_0) | exact (unhide f3_0_0))
      have f4_0_1 : Hid (w4.cell? ⟨w1.heap.size, 1, none⟩ = some (.int .i64 (r1 - 15000))) := cell_later hb4 (by first | exact cell_later (nx_alloc _ _) (unhide f3_0_1) | exact cell_later (nx_trans (nx_alloc _ _) (nx_alloc _ _)) (unhide f3_0_1) | exact (unhide f3_0_1))
      have f4_0_2 : Hid (w4.cell? ⟨w1.heap.size, 2, none⟩ = some (.string ⟨#[]⟩)) := cell_later hb4 (by first | exact cell_later (nx_alloc _ _) (unhide f3_0_2) | exact cell_later (nx_trans (nx_alloc _ _) (nx_alloc _ _)) (unhide f3_0_2) | exact (unhide f3_0_2))
      have f4_1_0 : Hid (w4.cell? ⟨w2.heap.size, 0, none⟩ = some (.int .i64 1)) := cell_later hb4 (by first | exact cell_later (nx_alloc _ _) (unhide f3_1_0) | exact cell_later (nx_trans (nx_alloc _ _) (nx_alloc _ _)) (unhide f3_1_0) | exact (unhide f3_1_0))
      have f4_1_1 : Hid (w4.cell? ⟨w2.heap.size, 1, none⟩ = some (.int .i64 (-(1 + r2)))) := cell_later hb4 (by first | exact cell_later (nx_alloc _ _) (unhide f3_1_1) | exact cell_later (nx_trans (nx_alloc _ _) (nx_alloc _ _)) (unhide f3_1_1) | exact (unhide f3_1_1))
      have f4_1_2 : Hid (w4.cell? ⟨w2.heap.size, 2, none⟩ = some (.string ⟨#[]⟩)) := cell_later hb4 (by first | exact cell_later (nx_alloc _ _) (unhide f3_1_2) | exact cell_later (nx_trans (nx_alloc _ _) (nx_alloc _ _)) (unhide f3_1_2) | exact (unhide f3_1_2))
      clear f3_0_0 f3_0_1 f3_0_2 f3_1_0 f3_1_1 f3_1_2
      have hB4 := hide hb4
      clear hb4
      clear o0_0 o0_1 o0_2 o1_0 o1_1 o1_2
      have e1_0 : ∀ o, (w4.alloc o).cell? ⟨w2.heap.size, 0, none⟩ = some (.int .i64 1) := fun o => cell_later (nx_alloc _ _) (unhide f4_1_0)
      have e1_1 : ∀ o, (w4.alloc o).cell? ⟨w2.heap.size, 1, none⟩ = some (.int .i64 (-(1 + r2))) := fun o => cell_later (nx_alloc _ _) (unhide f4_1_1)
      have e1_2 : ∀ o, (w4.alloc o).cell? ⟨w2.heap.size, 2, none⟩ = some (.string ⟨#[]⟩) := fun o => cell_later (nx_alloc _ _) (unhide f4_1_2)
      go_wp2_with fail
      refine (bin_quo P (-(1 + r2)) (r1 - 15000) _ hP hBd hX hB0 (unhide eq1) (unhide eq2)).mono ?_
      rintro e w5 ⟨rfl, hb5⟩
      have f5_0_0 : Hid (w5.cell? ⟨w1.heap.size, 0, none⟩ = some (.int .i64 1)) := cell_later hb5 (by first | exact cell_later (nx_alloc _ _) (unhide f4_0_0) | exact cell_later (nx_trans (nx_alloc _ _) (nx_alloc _ _)) (unhide f4_0_0) | exact (unhide f4_0_0))
      have f5_0_1 : Hid (w5.cell? ⟨w1.heap.size, 1, none⟩ = some (.int .i64 (r1 - 15000))) := cell_later hb5 (by first | exact cell_later (nx_alloc _ _) (unhide f4_0_1) | exact cell_later (nx_trans (nx_alloc _ _) (nx_alloc _ _)) (unhide f4_0_1) | exact (unhide f4_0_1))
      have f5_0_2 : Hid (w5.cell? ⟨w1.heap.size, 2, none⟩ = some (.string ⟨#[]⟩)) := cell_later hb5 (by first | exact cell_later (nx_alloc _ _) (unhide f4_0_2) | exact cell_later (nx_trans (nx_alloc _ _) (nx_alloc _ _)) (unhide f4_0_2) | exact (unhide f4_0_2))
      have f5_1_0 : Hid (w5.cell? ⟨w2.heap.size, 0, none⟩ = some (.int .i64 1)) := cell_later hb5 (by first | exact cell_later (nx_alloc _ _) (unhide f4_1_0) | exact cell_later (nx_trans (nx_alloc _ _) (nx_alloc _ _)) (unhide f4_1_0) | exact (unhide f4_1_0))
      have f5_1_1 : Hid (w5.cell? ⟨w2.heap.size, 1, none⟩ = some (.int .i64 (-(1 + r2)))) := cell_later hb5 (by first | exact cell_later (nx_alloc _ _) (unhide f4_1_1) | exact cell_later (nx_trans (nx_alloc _ _) (nx_alloc _ _)) (unhide f4_1_1) | exact (unhide f4_1_1))
      have f5_1_2 : Hid (w5.cell? ⟨w2.heap.size, 2, none⟩ = some (.string ⟨#[]⟩)) := cell_later hb5 (by first | exact cell_later (nx_alloc _ _) (unhide f4_1_2) | exact cell_later (nx_trans (nx_alloc _ _) (nx_alloc _ _)) (unhide f4_1_2) | exact (unhide f4_1_2))
      have f5_2_0 : Hid (w5.cell? ⟨w4.heap.size, 0, none⟩ = some (.int .i64 1)) := cell_later hb5 (by simp)
      have f5_2_1 : Hid (w5.cell? ⟨w4.heap.size, 1, none⟩ = some (.int .i64 (P))) := cell_later hb5 (by simp)
      have f5_2_2 : Hid (w5.cell? ⟨w4.heap.size, 2, none⟩ = some (.string ⟨#[]⟩)) := cell_later hb5 (by simp)
      clear f4_0_0 f4_0_1 f4_0_2 f4_1_0 f4_1_1 f4_1_2 e1_0 e1_1 e1_2
      have hB5 := hide hb5
      clear hb5
      have e0_0 : ∀ o, (w5.alloc o).cell? ⟨w1.heap.size, 0, none⟩ = some (.int .i64 1) := fun o => cell_later (nx_alloc _ _) (unhide f5_0_0)
      have e0_1 : ∀ o, (w5.alloc o).cell? ⟨w1.heap.size, 1, none⟩ = some (.int .i64 (r1 - 15000)) := fun o => cell_later (nx_alloc _ _) (unhide f5_0_1)
      have e0_2 : ∀ o, (w5.alloc o).cell? ⟨w1.heap.size, 2, none⟩ = some (.string ⟨#[]⟩) := fun o => cell_later (nx_alloc _ _) (unhide f5_0_2)
      have e1_0 : ∀ o, (w5.alloc o).cell? ⟨w2.heap.size, 0, none⟩ = some (.int .i64 1) := fun o => cell_later (nx_alloc _ _) (unhide f5_1_0)
      have e1_1 : ∀ o, (w5.alloc o).cell? ⟨w2.heap.size, 1, none⟩ = some (.int .i64 (-(1 + r2))) := fun o => cell_later (nx_alloc _ _) (unhide f5_1_1)
      have e1_2 : ∀ o, (w5.alloc o).cell? ⟨w2.heap.size, 2, none⟩ = some (.string ⟨#[]⟩) := fun o => cell_later (nx_alloc _ _) (unhide f5_1_2)
      go_wp2_with fail
      refine (bin_rem (r1 - 15000) (-(1 + r2)) R _ hX hBd hR hB0 (unhide eR)).mono ?_
      rintro e w6 ⟨rfl, hb6⟩
      have f6_0_0 : Hid (w6.cell? ⟨w1.heap.size, 0, none⟩ = some (.int .i64 1)) := cell_later hb6 (by first | exact cell_later (nx_alloc _ _) (unhide f5_0_0) | exact cell_later (nx_trans (nx_alloc _ _) (nx_alloc _ _)) (unhide f5_0_0) | exact (unhide f5_0_0))
      have f6_0_1 : Hid (w6.cell? ⟨w1.heap.size, 1, none⟩ = some (.int .i64 (r1 - 15000))) := cell_later hb6 (by first | exact cell_later (nx_alloc _ _) (unhide f5_0_1) | exact cell_later (nx_trans (nx_alloc _ _) (nx_alloc _ _)) (unhide f5_0_1) | exact (unhide f5_0_1))
      have f6_0_2 : Hid (w6.cell? ⟨w1.heap.size, 2, none⟩ = some (.string ⟨#[]⟩)) := cell_later hb6 (by first | exact cell_later (nx_alloc _ _) (unhide f5_0_2) | exact cell_later (nx_trans (nx_alloc _ _) (nx_alloc _ _)) (unhide f5_0_2) | exact (unhide f5_0_2))
      have f6_1_0 : Hid (w6.cell? ⟨w2.heap.size, 0, none⟩ = some (.int .i64 1)) := cell_later hb6 (by first | exact cell_later (nx_alloc _ _) (unhide f5_1_0) | exact cell_later (nx_trans (nx_alloc _ _) (nx_alloc _ _)) (unhide f5_1_0) | exact (unhide f5_1_0))
      have f6_1_1 : Hid (w6.cell? ⟨w2.heap.size, 1, none⟩ = some (.int .i64 (-(1 + r2)))) := cell_later hb6 (by first | exact cell_later (nx_alloc _ _) (unhide f5_1_1) | exact cell_later (nx_trans (nx_alloc _ _) (nx_alloc _ _)) (unhide f5_1_1) | exact (unhide f5_1_1))
      have f6_1_2 : Hid (w6.cell? ⟨w2.heap.size, 2, none⟩ = some (.string ⟨#[]⟩)) := cell_later hb6 (by first | exact cell_later (nx_alloc _ _) (unhide f5_1_2) | exact cell_later (nx_trans (nx_alloc _ _) (nx_alloc _ _)) (unhide f5_1_2) | exact (unhide f5_1_2))
      have f6_2_0 : Hid (w6.cell? ⟨w4.heap.size, 0, none⟩ = some (.int .i64 1)) := cell_later hb6 (by first | exact cell_later (nx_alloc _ _) (unhide f5_2_0) | exact cell_later (nx_trans (nx_alloc _ _) (nx_alloc _ _)) (unhide f5_2_0) | exact (unhide f5_2_0))
      have f6_2_1 : Hid (w6.cell? ⟨w4.heap.size, 1, none⟩ = some (.int .i64 (P))) := cell_later hb6 (by first | exact cell_later (nx_alloc _ _) (unhide f5_2_1) | exact cell_later (nx_trans (nx_alloc _ _) (nx_alloc _ _)) (unhide f5_2_1) | exact (unhide f5_2_1))
      have f6_2_2 : Hid (w6.cell? ⟨w4.heap.size, 2, none⟩ = some (.string ⟨#[]⟩)) := cell_later hb6 (by first | exact cell_later (nx_alloc _ _) (unhide f5_2_2) | exact cell_later (nx_trans (nx_alloc _ _) (nx_alloc _ _)) (unhide f5_2_2) | exact (unhide f5_2_2))
      have f6_3_0 : Hid (w6.cell? ⟨w5.heap.size, 0, none⟩ = some (.int .i64 1)) := cell_later hb6 (by simp)
      have f6_3_1 : Hid (w6.cell? ⟨w5.heap.size, 1, none⟩ = some (.int .i64 (r1 - 15000))) := cell_later hb6 (by simp)
      have f6_3_2 : Hid (w6.cell? ⟨w5.heap.size, 2, none⟩ = some (.string ⟨#[]⟩)) := cell_later hb6 (by simp)
      clear f5_0_0 f5_0_1 f5_0_2 f5_1_0 f5_1_1 f5_1_2 f5_2_0 f5_2_1 f5_2_2 e0_0 e0_1 e0_2 e1_0 e1_1 e1_2
      have hB6 := hide hb6
      clear hb6
      have e0_0 : ∀ o, (w6.alloc o).cell? ⟨w1.heap.size, 0, none⟩ = some (.int .i64 1) := fun o => cell_later (nx_alloc _ _) (unhide f6_0_0)
      have e0_1 : ∀ o, (w6.alloc o).cell? ⟨w1.heap.size, 1, none⟩ = some (.int .i64 (r1 - 15000)) := fun o => cell_later (nx_alloc _ _) (unhide f6_0_1)
      have e0_2 : ∀ o, (w6.alloc o).cell? ⟨w1.heap.size, 2, none⟩ = some (.string ⟨#[]⟩) := fun o => cell_later (nx_alloc _ _) (unhide f6_0_2)
      have e1_0 : ∀ o, (w6.alloc o).cell? ⟨w2.heap.size, 0, none⟩ = some (.int .i64 1) := fun o => cell_later (nx_alloc _ _) (unhide f6_1_0)
      have e1_1 : ∀ o, (w6.alloc o).cell? ⟨w2.heap.size, 1, none⟩ = some (.int .i64 (-(1 + r2))) := fun o => cell_later (nx_alloc _ _) (unhide f6_1_1)
      have e1_2 : ∀ o, (w6.alloc o).cell? ⟨w2.heap.size, 2, none⟩ = some (.string ⟨#[]⟩) := fun o => cell_later (nx_alloc _ _) (unhide f6_1_2)
      go_wp2_with fail
      refine (bin_quo (r1 - 15000) (-(1 + r2)) D _ hX hBd hD hB0 (unhide eR0) (unhide eD)).mono ?_
      rintro e w7 ⟨rfl, hb7⟩
      have f7_0_0 : Hid (w7.cell? ⟨w1.heap.size, 0, none⟩ = some (.int .i64 1)) := cell_later hb7 (by first | exact cell_later (nx_alloc _ _) (unhide f6_0_0) | exact cell_later (nx_trans (nx_alloc _ _) (nx_alloc _ _)) (unhide f6_0_0) | exact (unhide f6_0_0))
      have f7_0_1 : Hid (w7.cell? ⟨w1.heap.size, 1, none⟩ = some (.int .i64 (r1 - 15000))) := cell_later hb7 (by first | exact cell_later (nx_alloc _ _) (unhide f6_0_1) | exact cell_later (nx_trans (nx_alloc _ _) (nx_alloc _ _)) (unhide f6_0_1) | exact (unhide f6_0_1))
      have f7_0_2 : Hid (w7.cell? ⟨w1.heap.size, 2, none⟩ = some (.string ⟨#[]⟩)) := cell_later hb7 (by first | exact cell_later (nx_alloc _ _) (unhide f6_0_2) | exact cell_later (nx_trans (nx_alloc _ _) (nx_alloc _ _)) (unhide f6_0_2) | exact (unhide f6_0_2))
      have f7_1_0 : Hid (w7.cell? ⟨w2.heap.size, 0, none⟩ = some (.int .i64 1)) := cell_later hb7 (by first | exact cell_later (nx_alloc _ _) (unhide f6_1_0) | exact cell_later (nx_trans (nx_alloc _ _) (nx_alloc _ _)) (unhide f6_1_0) | exact (unhide f6_1_0))
      have f7_1_1 : Hid (w7.cell? ⟨w2.heap.size, 1, none⟩ = some (.int .i64 (-(1 + r2)))) := cell_later hb7 (by first | exact cell_later (nx_alloc _ _) (unhide f6_1_1) | exact cell_later (nx_trans (nx_alloc _ _) (nx_alloc _ _)) (unhide f6_1_1) | exact (unhide f6_1_1))
      have f7_1_2 : Hid (w7.cell? ⟨w2.heap.size, 2, none⟩ = some (.string ⟨#[]⟩)) := cell_later hb7 (by first | exact cell_later (nx_alloc _ _) (unhide f6_1_2) | exact cell_later (nx_trans (nx_alloc _ _) (nx_alloc _ _)) (unhide f6_1_2) | exact (unhide f6_1_2))
      have f7_2_0 : Hid (w7.cell? ⟨w4.heap.size, 0, none⟩ = some (.int .i64 1)) := cell_later hb7 (by first | exact cell_later (nx_alloc _ _) (unhide f6_2_0) | exact cell_later (nx_trans (nx_alloc _ _) (nx_alloc _ _)) (unhide f6_2_0) | exact (unhide f6_2_0))
      have f7_2_1 : Hid (w7.cell? ⟨w4.heap.size, 1, none⟩ = some (.int .i64 (P))) := cell_later hb7 (by first | exact cell_later (nx_alloc _ _) (unhide f6_2_1) | exact cell_later (nx_trans (nx_alloc _ _) (nx_alloc _ _)) (unhide f6_2_1) | exact (unhide f6_2_1))
      have f7_2_2 : Hid (w7.cell? ⟨w4.heap.size, 2, none⟩ = some (.string ⟨#[]⟩)) := cell_later hb7 (by first | exact cell_later (nx_alloc _ _) (unhide f6_2_2) | exact cell_later (nx_trans (nx_alloc _ _) (nx_alloc _ _)) (unhide f6_2_2) | exact (unhide f6_2_2))
      have f7_3_0 : Hid (w7.cell? ⟨w5.heap.size, 0, none⟩ = some (.int .i64 1)) := cell_later hb7 (by first | exact cell_later (nx_alloc _ _) (unhide f6_3_0) | exact cell_later (nx_trans (nx_alloc _ _) (nx_alloc _ _)) (unhide f6_3_0) | exact (unhide f6_3_0))
      have f7_3_1 : Hid (w7.cell? ⟨w5.heap.size, 1, none⟩ = some (.int .i64 (r1 - 15000))) := cell_later hb7 (by first | exact cell_later (nx_alloc _ _) (unhide f6_3_1) | exact cell_later (nx_trans (nx_alloc _ _) (nx_alloc _ _)) (unhide f6_3_1) | exact (unhide f6_3_1))
      have f7_3_2 : Hid (w7.cell? ⟨w5.heap.size, 2, none⟩ = some (.string ⟨#[]⟩)) := cell_later hb7 (by first | exact cell_later (nx_alloc _ _) (unhide f6_3_2) | exact cell_later (nx_trans (nx_alloc _ _) (nx_alloc _ _)) (unhide f6_3_2) | exact (unhide f6_3_2))
      have f7_4_0 : Hid (w7.cell? ⟨w6.heap.size, 0, none⟩ = some (.int .i64 1)) := cell_later hb7 (by simp)
      have f7_4_1 : Hid (w7.cell? ⟨w6.heap.size, 1, none⟩ = some (.int .i64 (R))) := cell_later hb7 (by simp)
      have f7_4_2 : Hid (w7.cell? ⟨w6.heap.size, 2, none⟩ = some (.string ⟨#[]⟩)) := cell_later hb7 (by simp)
      clear f6_0_0 f6_0_1 f6_0_2 f6_1_0 f6_1_1 f6_1_2 f6_2_0 f6_2_1 f6_2_2 f6_3_0 f6_3_1 f6_3_2 e0_0 e0_1 e0_2 e1_0 e1_1 e1_2
      have hB7 := hide hb7
      clear hb7
      have e4_0 : ∀ o, (w7.alloc o).cell? ⟨w6.heap.size, 0, none⟩ = some (.int .i64 1) := fun o => cell_later (nx_alloc _ _) (unhide f7_4_0)
      have e4_1 : ∀ o, (w7.alloc o).cell? ⟨w6.heap.size, 1, none⟩ = some (.int .i64 (R)) := fun o => cell_later (nx_alloc _ _) (unhide f7_4_1)
      have e4_2 : ∀ o, (w7.alloc o).cell? ⟨w6.heap.size, 2, none⟩ = some (.string ⟨#[]⟩) := fun o => cell_later (nx_alloc _ _) (unhide f7_4_2)
      go_wp2_with fail
      refine (bi_abs R M _ _ _ hR hM (unhide eM) (args1 (by simp) (by simp) (by simp))).mono ?_
      rintro e w8 ⟨rfl, hb8⟩
      have f8_0_0 : Hid (w8.cell? ⟨w1.heap.size, 0, none⟩ = some (.int .i64 1)) := cell_later hb8 (by first | exact cell_later (nx_alloc _ _) (unhide f7_0_0) | exact cell_later (nx_trans (nx_alloc _ _) (nx_alloc _ _)) (unhide f7_0_0) | exact (unhide f7_0_0))
      have f8_0_1 : Hid (w8.cell? ⟨w1.heap.size, 1, none⟩ = some (.int .i64 (r1 - 15000))) := cell_later hb8 (by first | exact cell_later (nx_alloc _ _) (unhide f7_0_1) | exact cell_later (nx_trans (nx_alloc _ _) (nx_alloc _ _)) (unhide f7_0_1) | exact (unhide f7_0_1))
      have f8_0_2 : Hid (w8.cell? ⟨w1.heap.size, 2, none⟩ = some (.string ⟨#[]⟩)) := cell_later hb8 (by first | exact cell_later (nx_alloc _ _) (unhide f7_0_2) | exact cell_later (nx_trans (nx_alloc _ _) (nx_alloc _ _)) (unhide f7_0_2) | exact (unhide f7_0_2))
      have f8_1_0 : Hid (w8.cell? ⟨w2.heap.size, 0, none⟩ = some (.int .i64 1)) := cell_later hb8 (by first | exact cell_later (nx_alloc _ _) (unhide f7_1_0) | exact cell_later (nx_trans (nx_alloc _ _) (nx_alloc _ _)) (unhide f7_1_0) | exact (unhide f7_1_0))
      have f8_1_1 : Hid (w8.cell? ⟨w2.heap.size, 1, none⟩ = some (.int .i64 (-(1 + r2)))) := cell_later hb8 (by first | exact cell_later (nx_alloc _ _) (unhide f7_1_1) | exact cell_later (nx_trans (nx_alloc _ _) (nx_alloc _ _)) (unhide f7_1_1) | exact (unhide f7_1_1))
      have f8_1_2 : Hid (w8.cell? ⟨w2.heap.size, 2, none⟩ = some (.string ⟨#[]⟩)) := cell_later hb8 (by first | exact cell_later (nx_alloc _ _) (unhide f7_1_2) | exact cell_later (nx_trans (nx_alloc _ _) (nx_alloc _ _)) (unhide f7_1_2) | exact (unhide f7_1_2))
      have f8_2_0 : Hid (w8.cell? ⟨w4.heap.size, 0, none⟩ = some (.int .i64 1)) := cell_later hb8 (by first | exact cell_later (nx_alloc _ _) (unhide f7_2_0) | exact cell_later (nx_trans (nx_alloc _ _) (nx_alloc _ _)) (unhide f7_2_0) | exact (unhide f7_2_0))
      have f8_2_1 : Hid (w8.cell? ⟨w4.heap.size, 1, none⟩ = some (.int .i64 (P))) := cell_later hb8 (by first | exact cell_later (nx_alloc _ _) (unhide f7_2_1) | exact cell_later (nx_trans (nx_alloc _ _) (nx_alloc _ _)) (unhide f7_2_1) | exact (unhide f7_2_1))
      have f8_2_2 : Hid (w8.cell? ⟨w4.heap.size, 2, none⟩ = some (.string ⟨#[]⟩)) := cell_later hb8 (by first | exact cell_later (nx_alloc _ _) (unhide f7_2_2) | exact cell_later (nx_trans (nx_alloc _ _) (nx_alloc _ _)) (unhide f7_2_2) | exact (unhide f7_2_2))
      have f8_3_0 : Hid (w8.cell? ⟨w5.heap.size, 0, none⟩ = some (.int .i64 1)) := cell_later hb8 (by first | exact cell_later (nx_alloc _ _) (unhide f7_3_0) | exact cell_later (nx_trans (nx_alloc _ _) (nx_alloc _ _)) (unhide f7_3_0) | exact (unhide f7_3_0))
      have f8_3_1 : Hid (w8.cell? ⟨w5.heap.size, 1, none⟩ = some (.int .i64 (r1 - 15000))) := cell_later hb8 (by first | exact cell_later (nx_alloc _ _) (unhide f7_3_1) | exact cell_later (nx_trans (nx_alloc _ _) (nx_alloc _ _)) (unhide f7_3_1) | exact (unhide f7_3_1))
      have f8_3_2 : Hid (w8.cell? ⟨w5.heap.size, 2, none⟩ = some (.string ⟨#[]⟩)) := cell_later hb8 (by first | exact cell_later (nx_alloc _ _) (unhide f7_3_2) | exact cell_later (nx_trans (nx_alloc _ _) (nx_alloc _ _)) (unhide f7_3_2) | exact (unhide f7_3_2))
      have f8_4_0 : Hid (w8.cell? ⟨w6.heap.size, 0, none⟩ = some (.int .i64 1)) := cell_later hb8 (by first | exact cell_later (nx_alloc _ _) (unhide f7_4_0) | exact cell_later (nx_trans (nx_alloc _ _) (nx_alloc _ _)) (unhide f7_4_0) | exact (unhide f7_4_0))
      have f8_4_1 : Hid (w8.cell? ⟨w6.heap.size, 1, none⟩ = some (.int .i64 (R))) := cell_later hb8 (by first | exact cell_later (nx_alloc _ _) (unhide f7_4_1) | exact cell_later (nx_trans (nx_alloc _ _) (nx_alloc _ _)) (unhide f7_4_1) | exact (unhide f7_4_1))
      have f8_4_2 : Hid (w8.cell? ⟨w6.heap.size, 2, none⟩ = some (.string ⟨#[]⟩)) := cell_later hb8 (by first | exact cell_later (nx_alloc _ _) (unhide f7_4_2) | exact cell_later (nx_trans (nx_alloc _ _) (nx_alloc _ _)) (unhide f7_4_2) | exact (unhide f7_4_2))
      have f8_5_0 : Hid (w8.cell? ⟨w7.heap.size, 0, none⟩ = some (.int .i64 1)) := cell_later hb8 (by simp)
      have f8_5_1 : Hid (w8.cell? ⟨w7.heap.size, 1, none⟩ = some (.int .i64 (D))) := cell_later hb8 (by simp)
      have f8_5_2 : Hid (w8.cell? ⟨w7.heap.size, 2, none⟩ = some (.string ⟨#[]⟩)) := cell_later hb8 (by simp)
      clear f7_0_0 f7_0_1 f7_0_2 f7_1_0 f7_1_1 f7_1_2 f7_2_0 f7_2_1 f7_2_2 f7_3_0 f7_3_1 f7_3_2 f7_4_0 f7_4_1 f7_4_2 e4_0 e4_1 e4_2
      have hB8 := hide hb8
      clear hb8
      have e1_0 : ∀ o, (w8.alloc o).cell? ⟨w2.heap.size, 0, none⟩ = some (.int .i64 1) := fun o => cell_later (nx_alloc _ _) (unhide f8_1_0)
      have e1_1 : ∀ o, (w8.alloc o).cell? ⟨w2.heap.size, 1, none⟩ = some (.int .i64 (-(1 + r2))) := fun o => cell_later (nx_alloc _ _) (unhide f8_1_1)
      have e1_2 : ∀ o, (w8.alloc o).cell? ⟨w2.heap.size, 2, none⟩ = some (.string ⟨#[]⟩) := fun o => cell_later (nx_alloc _ _) (unhide f8_1_2)
      go_wp2_with fail
      refine (bi_abs (-(1 + r2)) N _ _ _ hBd hN (unhide eN) (args1 (by simp) (by simp) (by simp))).mono ?_
      rintro e w9 ⟨rfl, hb9⟩
      have f9_0_0 : Hid (w9.cell? ⟨w1.heap.size, 0, none⟩ = some (.int .i64 1)) := cell_later hb9 (by first | exact cell_later (nx_alloc _ _) (unhide f8_0_0) | exact cell_later (nx_trans (nx_alloc _ _) (nx_alloc _ _)) (unhide f8_0_0) | exact (unhide f8_0_0))
      have f9_0_1 : Hid (w9.cell? ⟨w1.heap.size, 1, none⟩ = some (.int .i64 (r1 - 15000))) := cell_later hb9 (by first | exact cell_later (nx_alloc _ _) (unhide f8_0_1) | exact cell_later (nx_trans (nx_alloc _ _) (nx_alloc _ _)) (unhide f8_0_1) | exact (unhide f8_0_1))
      have f9_0_2 : Hid (w9.cell? ⟨w1.heap.size, 2, none⟩ = some (.string ⟨#[]⟩)) := cell_later hb9 (by first | exact cell_later (nx_alloc _ _) (unhide f8_0_2) | exact cell_later (nx_trans (nx_alloc _ _) (nx_alloc _ _)) (unhide f8_0_2) | exact (unhide f8_0_2))
      have f9_1_0 : Hid (w9.cell? ⟨w2.heap.size, 0, none⟩ = some (.int .i64 1)) := cell_later hb9 (by first | exact cell_later (nx_alloc _ _) (unhide f8_1_0) | exact cell_later (nx_trans (nx_alloc _ _) (nx_alloc _ _)) (unhide f8_1_0) | exact (unhide f8_1_0))
      have f9_1_1 : Hid (w9.cell? ⟨w2.heap.size, 1, none⟩ = some (.int .i64 (-(1 + r2)))) := cell_later hb9 (by first | exact cell_later (nx_alloc _ _) (unhide f8_1_1) | exact cell_later (nx_trans (nx_alloc _ _) (nx_alloc _ _)) (unhide f8_1_1) | exact (unhide f8_1_1))
      have f9_1_2 : Hid (w9.cell? ⟨w2.heap.size, 2, none⟩ = some (.string ⟨#[]⟩)) := cell_later hb9 (by first | exact cell_later (nx_alloc _ _) (unhide f8_1_2) | exact cell_later (nx_trans (nx_alloc _ _) (nx_alloc _ _)) (unhide f8_1_2) | exact (unhide f8_1_2))
      have f9_2_0 : Hid (w9.cell? ⟨w4.heap.size, 0, none⟩ = some (.int .i64 1)) := cell_later hb9 (by first | exact cell_later (nx_alloc _ _) (unhide f8_2_0) | exact cell_later (nx_trans (nx_alloc _ _) (nx_alloc _ _)) (unhide f8_2_0) | exact (unhide f8_2_0))
      have f9_2_1 : Hid (w9.cell? ⟨w4.heap.size, 1, none⟩ = some (.int .i64 (P))) := cell_later hb9 (by first | exact cell_later (nx_alloc _ _) (unhide f8_2_1) | exact cell_later (nx_trans (nx_alloc _ _) (nx_alloc _ _)) (unhide f8_2_1) | exact (unhide f8_2_1))
      have f9_2_2 : Hid (w9.cell? ⟨w4.heap.size, 2, none⟩ = some (.string ⟨#[]⟩)) := cell_later hb9 (by first | exact cell_later (nx_alloc _ _) (unhide f8_2_2) | exact cell_later (nx_trans (nx_alloc _ _) (nx_alloc _ _)) (unhide f8_2_2) | exact (unhide f8_2_2))
      have f9_3_0 : Hid (w9.cell? ⟨w5.heap.size, 0, none⟩ = some (.int .i64 1)) := cell_later hb9 (by first | exact cell_later (nx_alloc _ _) (unhide f8_3_0) | exact cell_later (nx_trans (nx_alloc _ _) (nx_alloc _ _)) (unhide f8_3_0) | exact (unhide f8_3_0))
      have f9_3_1 : Hid (w9.cell? ⟨w5.heap.size, 1, none⟩ = some (.int .i64 (r1 - 15000))) := cell_later hb9 (by first | exact cell_later (nx_alloc _ _) (unhide f8_3_1) | exact cell_later (nx_trans (nx_alloc _ _) (nx_alloc _ _)) (unhide f8_3_1) | exact (unhide f8_3_1))
      have f9_3_2 : Hid (w9.cell? ⟨w5.heap.size, 2, none⟩ = some (.string ⟨#[]⟩)) := cell_later hb9 (by first | exact cell_later (nx_alloc _ _) (unhide f8_3_2) | exact cell_later (nx_trans (nx_alloc _ _) (nx_alloc _ _)) (unhide f8_3_2) | exact (unhide f8_3_2))
      have f9_4_0 : Hid (w9.cell? ⟨w6.heap.size, 0, none⟩ = some (.int .i64 1)) := cell_later hb9 (by first | exact cell_later (nx_alloc _ _) (unhide f8_4_0) | exact cell_later (nx_trans (nx_alloc _ _) (nx_alloc _ _)) (unhide f8_4_0) | exact (unhide f8_4_0))
      have f9_4_1 : Hid (w9.cell? ⟨w6.heap.size, 1, none⟩ = some (.int .i64 (R))) := cell_later hb9 (by first | exact cell_later (nx_alloc _ _) (unhide f8_4_1) | exact cell_later (nx_trans (nx_alloc _ _) (nx_alloc _ _)) (unhide f8_4_1) | exact (unhide f8_4_1))
      have f9_4_2 : Hid (w9.cell? ⟨w6.heap.size, 2, none⟩ = some (.string ⟨#[]⟩)) := cell_later hb9 (by first | exact cell_later (nx_alloc _ _) (unhide f8_4_2) | exact cell_later (nx_trans (nx_alloc _ _) (nx_alloc _ _)) (unhide f8_4_2) | exact (unhide f8_4_2))
      have f9_5_0 : Hid (w9.cell? ⟨w7.heap.size, 0, none⟩ = some (.int .i64 1)) := cell_later hb9 (by first | exact cell_later (nx_alloc _ _) (unhide f8_5_0) | exact cell_later (nx_trans (nx_alloc _ _) (nx_alloc _ _)) (unhide f8_5_0) | exact (unhide f8_5_0))
      have f9_5_1 : Hid (w9.cell? ⟨w7.heap.size, 1, none⟩ = some (.int .i64 (D))) := cell_later hb9 (by first | exact cell_later (nx_alloc _ _) (unhide f8_5_1) | exact cell_later (nx_trans (nx_alloc _ _) (nx_alloc _ _)) (unhide f8_5_1) | exact (unhide f8_5_1))
      have f9_5_2 : Hid (w9.cell? ⟨w7.heap.size, 2, none⟩ = some (.string ⟨#[]⟩)) := cell_later hb9 (by first | exact cell_later (nx_alloc _ _) (unhide f8_5_2) | exact cell_later (nx_trans (nx_alloc _ _) (nx_alloc _ _)) (unhide f8_5_2) | exact (unhide f8_5_2))
      have f9_6_0 : Hid (w9.cell? ⟨w8.heap.size, 0, none⟩ = some (.int .i64 1)) := cell_later hb9 (by simp)
      have f9_6_1 : Hid (w9.cell? ⟨w8.heap.size, 1, none⟩ = some (.int .i64 (M))) := cell_later hb9 (by simp)
      have f9_6_2 : Hid (w9.cell? ⟨w8.heap.size, 2, none⟩ = some (.string ⟨#[]⟩)) := cell_later hb9 (by simp)
      clear f8_0_0 f8_0_1 f8_0_2 f8_1_0 f8_1_1 f8_1_2 f8_2_0 f8_2_1 f8_2_2 f8_3_0 f8_3_1 f8_3_2 f8_4_0 f8_4_1 f8_4_2 f8_5_0 f8_5_1 f8_5_2 e1_0 e1_1 e1_2
      have hB9 := hide hb9
      clear hb9
      have e6_0 : ∀ o, (w9.alloc o).cell? ⟨w8.heap.size, 0, none⟩ = some (.int .i64 1) := fun o => cell_later (nx_alloc _ _) (unhide f9_6_0)
      have e6_1 : ∀ o, (w9.alloc o).cell? ⟨w8.heap.size, 1, none⟩ = some (.int .i64 (M)) := fun o => cell_later (nx_alloc _ _) (unhide f9_6_1)
      have e6_2 : ∀ o, (w9.alloc o).cell? ⟨w8.heap.size, 2, none⟩ = some (.string ⟨#[]⟩) := fun o => cell_later (nx_alloc _ _) (unhide f9_6_2)
      go_wp2_with fail
      refine (bin_lt M N true 1 _ hM hN (by simpa using unhide hMN) rfl).mono ?_
      rintro e w10 ⟨rfl, hb10⟩
      have f10_0_0 : Hid (w10.cell? ⟨w1.heap.size, 0, none⟩ = some (.int .i64 1)) := cell_later hb10 (by first | exact cell_later (nx_alloc _ _) (unhide f9_0_0) | exact cell_later (nx_trans (nx_alloc _ _) (nx_alloc _ _)) (unhide f9_0_0) | exact (unhide f9_0_0))
      have f10_0_1 : Hid (w10.cell? ⟨w1.heap.size, 1, none⟩ = some (.int .i64 (r1 - 15000))) := cell_later hb10 (by first | exact cell_later (nx_alloc _ _) (unhide f9_0_1) | exact cell_later (nx_trans (nx_alloc _ _) (nx_alloc _ _)) (unhide f9_0_1) | exact (unhide f9_0_1))
      have f10_0_2 : Hid (w10.cell? ⟨w1.heap.size, 2, none⟩ = some (.string ⟨#[]⟩)) := cell_later hb10 (by first | exact cell_later (nx_alloc _ _) (unhide f9_0_2) | exact cell_later (nx_trans (nx_alloc _ _) (nx_alloc _ _)) (unhide f9_0_2) | exact (unhide f9_0_2))
      have f10_1_0 : Hid (w10.cell? ⟨w2.heap.size, 0, none⟩ = some (.int .i64 1)) := cell_later hb10 (by first | exact cell_later (nx_alloc _ _) (unhide f9_1_0) | exact cell_later (nx_trans (nx_alloc _ _) (nx_alloc _ _)) (unhide f9_1_0) | exact (unhide f9_1_0))
      have f10_1_1 : Hid (w10.cell? ⟨w2.heap.size, 1, none⟩ = some (.int .i64 (-(1 + r2)))) := cell_later hb10 (by first | exact cell_later (nx_alloc _ _) (unhide f9_1_1) | exact cell_later (nx_trans (nx_alloc _ _) (nx_alloc _ _)) (unhide f9_1_1) | exact (unhide f9_1_1))
      have f10_1_2 : Hid (w10.cell? ⟨w2.heap.size, 2, none⟩ = some (.string ⟨#[]⟩)) := cell_later hb10 (by first | exact cell_later (nx_alloc _ _) (unhide f9_1_2) | exact cell_later (nx_trans (nx_alloc _ _) (nx_alloc _ _)) (unhide f9_1_2) | exact (unhide f9_1_2))
      have f10_2_0 : Hid (w10.cell? ⟨w4.heap.size, 0, none⟩ = some (.int .i64 1)) := cell_later hb10 (by first | exact cell_later (nx_alloc _ _) (unhide f9_2_0) | exact cell_later (nx_trans (nx_alloc _ _) (nx_alloc _ _)) (unhide f9_2_0) | exact (unhide f9_2_0))
      have f10_2_1 : Hid (w10.cell? ⟨w4.heap.size, 1, none⟩ = some (.int .i64 (P))) := cell_later hb10 (by first | exact cell_later (nx_alloc _ _) (unhide f9_2_1) | exact cell_later (nx_trans (nx_alloc _ _) (nx_alloc _ _)) (unhide f9_2_1) | exact (unhide f9_2_1))
      have f10_2_2 : Hid (w10.cell? ⟨w4.heap.size, 2, none⟩ = some (.string ⟨#[]⟩)) := cell_later hb10 (by first | exact cell_later (nx_alloc _ _) (unhide f9_2_2) | exact cell_later (nx_trans (nx_alloc _ _) (nx_alloc _ _)) (unhide f9_2_2) | exact (unhide f9_2_2))
      have f10_3_0 : Hid (w10.cell? ⟨w5.heap.size, 0, none⟩ = some (.int .i64 1)) := cell_later hb10 (by first | exact cell_later (nx_alloc _ _) (unhide f9_3_0) | exact cell_later (nx_trans (nx_alloc _ _) (nx_alloc _ _)) (unhide f9_3_0) | exact (unhide f9_3_0))
      have f10_3_1 : Hid (w10.cell? ⟨w5.heap.size, 1, none⟩ = some (.int .i64 (r1 - 15000))) := cell_later hb10 (by first | exact cell_later (nx_alloc _ _) (unhide f9_3_1) | exact cell_later (nx_trans (nx_alloc _ _) (nx_alloc _ _)) (unhide f9_3_1) | exact (unhide f9_3_1))
      have f10_3_2 : Hid (w10.cell? ⟨w5.heap.size, 2, none⟩ = some (.string ⟨#[]⟩)) := cell_later hb10 (by first | exact cell_later (nx_alloc _ _) (unhide f9_3_2) | exact cell_later (nx_trans (nx_alloc _ _) (nx_alloc _ _)) (unhide f9_3_2) | exact (unhide f9_3_2))
      have f10_4_0 : Hid (w10.cell? ⟨w6.heap.size, 0, none⟩ = some (.int .i64 1)) := cell_later hb10 (by first | exact cell_later (nx_alloc _ _) (unhide f9_4_0) | exact cell_later (nx_trans (nx_alloc _ _) (nx_alloc _ _)) (unhide f9_4_0) | exact (unhide f9_4_0))
      have f10_4_1 : Hid (w10.cell? ⟨w6.heap.size, 1, none⟩ = some (.int .i64 (R))) := cell_later hb10 (by first | exact cell_later (nx_alloc _ _) (unhide f9_4_1) | exact cell_later (nx_trans (nx_alloc _ _) (nx_alloc _ _)) (unhide f9_4_1) | exact (unhide f9_4_1))
      have f10_4_2 : Hid (w10.cell? ⟨w6.heap.size, 2, none⟩ = some (.string ⟨#[]⟩)) := cell_later hb10 (by first | exact cell_later (nx_alloc _ _) (unhide f9_4_2) | exact cell_later (nx_trans (nx_alloc _ _) (nx_alloc _ _)) (unhide f9_4_2) | exact (unhide f9_4_2))
      have f10_5_0 : Hid (w10.cell? ⟨w7.heap.size, 0, none⟩ = some (.int .i64 1)) := cell_later hb10 (by first | exact cell_later (nx_alloc _ _) (unhide f9_5_0) | exact cell_later (nx_trans (nx_alloc _ _) (nx_alloc _ _)) (unhide f9_5_0) | exact (unhide f9_5_0))
      have f10_5_1 : Hid (w10.cell? ⟨w7.heap.size, 1, none⟩ = some (.int .i64 (D))) := cell_later hb10 (by first | exact cell_later (nx_alloc _ _) (unhide f9_5_1) | exact cell_later (nx_trans (nx_alloc _ _) (nx_alloc _ _)) (unhide f9_5_1) | exact (unhide f9_5_1))
      have f10_5_2 : Hid (w10.cell? ⟨w7.heap.size, 2, none⟩ = some (.string ⟨#[]⟩)) := cell_later hb10 (by first | exact cell_later (nx_alloc _ _) (unhide f9_5_2) | exact cell_later (nx_trans (nx_alloc _ _) (nx_alloc _ _)) (unhide f9_5_2) | exact (unhide f9_5_2))
      have f10_6_0 : Hid (w10.cell? ⟨w8.heap.size, 0, none⟩ = some (.int .i64 1)) := cell_later hb10 (by first | exact cell_later (nx_alloc _ _) (unhide f9_6_0) | exact cell_later (nx_trans (nx_alloc _ _) (nx_alloc _ _)) (unhide f9_6_0) | exact (unhide f9_6_0))
      have f10_6_1 : Hid (w10.cell? ⟨w8.heap.size, 1, none⟩ = some (.int .i64 (M))) := cell_later hb10 (by first | exact cell_later (nx_alloc _ _) (unhide f9_6_1) | exact cell_later (nx_trans (nx_alloc _ _) (nx_alloc _ _)) (unhide f9_6_1) | exact (unhide f9_6_1))
      have f10_6_2 : Hid (w10.cell? ⟨w8.heap.size, 2, none⟩ = some (.string ⟨#[]⟩)) := cell_later hb10 (by first | exact cell_later (nx_alloc _ _) (unhide f9_6_2) | exact cell_later (nx_trans (nx_alloc _ _) (nx_alloc _ _)) (unhide f9_6_2) | exact (unhide f9_6_2))
      have f10_7_0 : Hid (w10.cell? ⟨w9.heap.size, 0, none⟩ = some (.int .i64 1)) := cell_later hb10 (by simp)
      have f10_7_1 : Hid (w10.cell? ⟨w9.heap.size, 1, none⟩ = some (.int .i64 (N))) := cell_later hb10 (by simp)
      have f10_7_2 : Hid (w10.cell? ⟨w9.heap.size, 2, none⟩ = some (.string ⟨#[]⟩)) := cell_later hb10 (by simp)
      clear f9_0_0 f9_0_1 f9_0_2 f9_1_0 f9_1_1 f9_1_2 f9_2_0 f9_2_1 f9_2_2 f9_3_0 f9_3_1 f9_3_2 f9_4_0 f9_4_1 f9_4_2 f9_5_0 f9_5_1 f9_5_2 f9_6_0 f9_6_1 f9_6_2 e6_0 e6_1 e6_2
      have hB10 := hide hb10
      clear hb10
      have e0_0 : ∀ o, (w10.alloc o).cell? ⟨w1.heap.size, 0, none⟩ = some (.int .i64 1) := fun o => cell_later (nx_alloc _ _) (unhide f10_0_0)
      have e0_1 : ∀ o, (w10.alloc o).cell? ⟨w1.heap.size, 1, none⟩ = some (.int .i64 (r1 - 15000)) := fun o => cell_later (nx_alloc _ _) (unhide f10_0_1)
      have e0_2 : ∀ o, (w10.alloc o).cell? ⟨w1.heap.size, 2, none⟩ = some (.string ⟨#[]⟩) := fun o => cell_later (nx_alloc _ _) (unhide f10_0_2)
      go_wp2_with fail
      refine (bin_part (r1 - 15000) 0 _ hX (inB_two (by omega) (by omega)) (.inl rfl)).mono ?_
      rintro e w11 ⟨rfl, hb11⟩
      have f11_0_0 : Hid (w11.cell? ⟨w1.heap.size, 0, none⟩ = some (.int .i64 1)) := cell_later hb11 (by first | exact cell_later (nx_alloc _ _) (unhide f10_0_0) | exact cell_later (nx_trans (nx_alloc _ _) (nx_alloc _ _)) (unhide f10_0_0) | exact (unhide f10_0_0))
      have f11_0_1 : Hid (w11.cell? ⟨w1.heap.size, 1, none⟩ = some (.int .i64 (r1 - 15000))) := cell_later hb11 (by first | exact cell_later (nx_alloc _ _) (unhide f10_0_1) | exact cell_later (nx_trans (nx_alloc _ _) (nx_alloc _ _)) (unhide f10_0_1) | exact (unhide f10_0_1))
      have f11_0_2 : Hid (w11.cell? ⟨w1.heap.size, 2, none⟩ = some (.string ⟨#[]⟩)) := cell_later hb11 (by first | exact cell_later (nx_alloc _ _) (unhide f10_0_2) | exact cell_later (nx_trans (nx_alloc _ _) (nx_alloc _ _)) (unhide f10_0_2) | exact (unhide f10_0_2))
      have f11_1_0 : Hid (w11.cell? ⟨w2.heap.size, 0, none⟩ = some (.int .i64 1)) := cell_later hb11 (by first | exact cell_later (nx_alloc _ _) (unhide f10_1_0) | exact cell_later (nx_trans (nx_alloc _ _) (nx_alloc _ _)) (unhide f10_1_0) | exact (unhide f10_1_0))
      have f11_1_1 : Hid (w11.cell? ⟨w2.heap.size, 1, none⟩ = some (.int .i64 (-(1 + r2)))) := cell_later hb11 (by first | exact cell_later (nx_alloc _ _) (unhide f10_1_1) | exact cell_later (nx_trans (nx_alloc _ _) (nx_alloc _ _)) (unhide f10_1_1) | exact (unhide f10_1_1))
      have f11_1_2 : Hid (w11.cell? ⟨w2.heap.size, 2, none⟩ = some (.string ⟨#[]⟩)) := cell_later hb11 (by first | exact cell_later (nx_alloc _ _) (unhide f10_1_2) | exact cell_later (nx_trans (nx_alloc _ _) (nx_alloc _ _)) (unhide f10_1_2) | exact (unhide f10_1_2))
      have f11_2_0 : Hid (w11.cell? ⟨w4.heap.size, 0, none⟩ = some (.int .i64 1)) := cell_later hb11 (by first | exact cell_later (nx_alloc _ _) (unhide f10_2_0) | exact cell_later (nx_trans (nx_alloc _ _) (nx_alloc _ _)) (unhide f10_2_0) | exact (unhide f10_2_0))
      have f11_2_1 : Hid (w11.cell? ⟨w4.heap.size, 1, none⟩ = some (.int .i64 (P))) := cell_later hb11 (by first | exact cell_later (nx_alloc _ _) (unhide f10_2_1) | exact cell_later (nx_trans (nx_alloc _ _) (nx_alloc _ _)) (unhide f10_2_1) | exact (unhide f10_2_1))
      have f11_2_2 : Hid (w11.cell? ⟨w4.heap.size, 2, none⟩ = some (.string ⟨#[]⟩)) := cell_later hb11 (by first | exact cell_later (nx_alloc _ _) (unhide f10_2_2) | exact cell_later (nx_trans (nx_alloc _ _) (nx_alloc _ _)) (unhide f10_2_2) | exact (unhide f10_2_2))
      have f11_3_0 : Hid (w11.cell? ⟨w5.heap.size, 0, none⟩ = some (.int .i64 1)) := cell_later hb11 (by first | exact cell_later (nx_alloc _ _) (unhide f10_3_0) | exact cell_later (nx_trans (nx_alloc _ _) (nx_alloc _ _)) (unhide f10_3_0) | exact (unhide f10_3_0))
      have f11_3_1 : Hid (w11.cell? ⟨w5.heap.size, 1, none⟩ = some (.int .i64 (r1 - 15000))) := cell_later hb11 (by first | exact cell_later (nx_alloc _ _) (unhide f10_3_1) | exact cell_later (nx_trans (nx_alloc _ _) (nx_alloc _ _)) (unhide f10_3_1) | exact (unhide f10_3_1))
      have f11_3_2 : Hid (w11.cell? ⟨w5.heap.size, 2, none⟩ = some (.string ⟨#[]⟩)) := cell_later hb11 (by first | exact cell_later (nx_alloc _ _) (unhide f10_3_2) | exact cell_later (nx_trans (nx_alloc _ _) (nx_alloc _ _)) (unhide f10_3_2) | exact (unhide f10_3_2))
      have f11_4_0 : Hid (w11.cell? ⟨w6.heap.size, 0, none⟩ = some (.int .i64 1)) := cell_later hb11 (by first | exact cell_later (nx_alloc _ _) (unhide f10_4_0) | exact cell_later (nx_trans (nx_alloc _ _) (nx_alloc _ _)) (unhide f10_4_0) | exact (unhide f10_4_0))
      have f11_4_1 : Hid (w11.cell? ⟨w6.heap.size, 1, none⟩ = some (.int .i64 (R))) := cell_later hb11 (by first | exact cell_later (nx_alloc _ _) (unhide f10_4_1) | exact cell_later (nx_trans (nx_alloc _ _) (nx_alloc _ _)) (unhide f10_4_1) | exact (unhide f10_4_1))
      have f11_4_2 : Hid (w11.cell? ⟨w6.heap.size, 2, none⟩ = some (.string ⟨#[]⟩)) := cell_later hb11 (by first | exact cell_later (nx_alloc _ _) (unhide f10_4_2) | exact cell_later (nx_trans (nx_alloc _ _) (nx_alloc _ _)) (unhide f10_4_2) | exact (unhide f10_4_2))
      have f11_5_0 : Hid (w11.cell? ⟨w7.heap.size, 0, none⟩ = some (.int .i64 1)) := cell_later hb11 (by first | exact cell_later (nx_alloc _ _) (unhide f10_5_0) | exact cell_later (nx_trans (nx_alloc _ _) (nx_alloc _ _)) (unhide f10_5_0) | exact (unhide f10_5_0))
      have f11_5_1 : Hid (w11.cell? ⟨w7.heap.size, 1, none⟩ = some (.int .i64 (D))) := cell_later hb11 (by first | exact cell_later (nx_alloc _ _) (unhide f10_5_1) | exact cell_later (nx_trans (nx_alloc _ _) (nx_alloc _ _)) (unhide f10_5_1) | exact (unhide f10_5_1))
      have f11_5_2 : Hid (w11.cell? ⟨w7.heap.size, 2, none⟩ = some (.string ⟨#[]⟩)) := cell_later hb11 (by first | exact cell_later (nx_alloc _ _) (unhide f10_5_2) | exact cell_later (nx_trans (nx_alloc _ _) (nx_alloc _ _)) (unhide f10_5_2) | exact (unhide f10_5_2))
      have f11_6_0 : Hid (w11.cell? ⟨w8.heap.size, 0, none⟩ = some (.int .i64 1)) := cell_later hb11 (by first | exact cell_later (nx_alloc _ _) (unhide f10_6_0) | exact cell_later (nx_trans (nx_alloc _ _) (nx_alloc _ _)) (unhide f10_6_0) | exact (unhide f10_6_0))
      have f11_6_1 : Hid (w11.cell? ⟨w8.heap.size, 1, none⟩ = some (.int .i64 (M))) := cell_later hb11 (by first | exact cell_later (nx_alloc _ _) (unhide f10_6_1) | exact cell_later (nx_trans (nx_alloc _ _) (nx_alloc _ _)) (unhide f10_6_1) | exact (unhide f10_6_1))
      have f11_6_2 : Hid (w11.cell? ⟨w8.heap.size, 2, none⟩ = some (.string ⟨#[]⟩)) := cell_later hb11 (by first | exact cell_later (nx_alloc _ _) (unhide f10_6_2) | exact cell_later (nx_trans (nx_alloc _ _) (nx_alloc _ _)) (unhide f10_6_2) | exact (unhide f10_6_2))
      have f11_7_0 : Hid (w11.cell? ⟨w9.heap.size, 0, none⟩ = some (.int .i64 1)) := cell_later hb11 (by first | exact cell_later (nx_alloc _ _) (unhide f10_7_0) | exact cell_later (nx_trans (nx_alloc _ _) (nx_alloc _ _)) (unhide f10_7_0) | exact (unhide f10_7_0))
      have f11_7_1 : Hid (w11.cell? ⟨w9.heap.size, 1, none⟩ = some (.int .i64 (N))) := cell_later hb11 (by first | exact cell_later (nx_alloc _ _) (unhide f10_7_1) | exact cell_later (nx_trans (nx_alloc _ _) (nx_alloc _ _)) (unhide f10_7_1) | exact (unhide f10_7_1))
      have f11_7_2 : Hid (w11.cell? ⟨w9.heap.size, 2, none⟩ = some (.string ⟨#[]⟩)) := cell_later hb11 (by first | exact cell_later (nx_alloc _ _) (unhide f10_7_2) | exact cell_later (nx_trans (nx_alloc _ _) (nx_alloc _ _)) (unhide f10_7_2) | exact (unhide f10_7_2))
      have f11_8_0 : Hid (w11.cell? ⟨w10.heap.size, 0, none⟩ = some (.int .i64 2)) := cell_later hb11 (by simp)
      have f11_8_1 : Hid (w11.cell? ⟨w10.heap.size, 1, none⟩ = some (.int .i64 1)) := cell_later hb11 (by simp)
      have f11_8_2 : Hid (w11.cell? ⟨w10.heap.size, 2, none⟩ = some (.string ⟨#[]⟩)) := cell_later hb11 (by simp)
      clear f10_0_0 f10_0_1 f10_0_2 f10_1_0 f10_1_1 f10_1_2 f10_2_0 f10_2_1 f10_2_2 f10_3_0 f10_3_1 f10_3_2 f10_4_0 f10_4_1 f10_4_2 f10_5_0 f10_5_1 f10_5_2 f10_6_0 f10_6_1 f10_6_2 f10_7_0 f10_7_1 f10_7_2 e0_0 e0_1 e0_2
      have hB11 := hide hb11
      clear hb11
      have e0_0 : ∀ o, (w11.alloc o).cell? ⟨w1.heap.size, 0, none⟩ = some (.int .i64 1) := fun o => cell_later (nx_alloc _ _) (unhide f11_0_0)
      have e0_1 : ∀ o, (w11.alloc o).cell? ⟨w1.heap.size, 1, none⟩ = some (.int .i64 (r1 - 15000)) := fun o => cell_later (nx_alloc _ _) (unhide f11_0_1)
      have e0_2 : ∀ o, (w11.alloc o).cell? ⟨w1.heap.size, 2, none⟩ = some (.string ⟨#[]⟩) := fun o => cell_later (nx_alloc _ _) (unhide f11_0_2)
      have e1_0 : ∀ o, (w11.alloc o).cell? ⟨w2.heap.size, 0, none⟩ = some (.int .i64 1) := fun o => cell_later (nx_alloc _ _) (unhide f11_1_0)
      have e1_1 : ∀ o, (w11.alloc o).cell? ⟨w2.heap.size, 1, none⟩ = some (.int .i64 (-(1 + r2))) := fun o => cell_later (nx_alloc _ _) (unhide f11_1_1)
      have e1_2 : ∀ o, (w11.alloc o).cell? ⟨w2.heap.size, 2, none⟩ = some (.string ⟨#[]⟩) := fun o => cell_later (nx_alloc _ _) (unhide f11_1_2)
      have e3_0 : ∀ o, (w11.alloc o).cell? ⟨w5.heap.size, 0, none⟩ = some (.int .i64 1) := fun o => cell_later (nx_alloc _ _) (unhide f11_3_0)
      have e3_1 : ∀ o, (w11.alloc o).cell? ⟨w5.heap.size, 1, none⟩ = some (.int .i64 (r1 - 15000)) := fun o => cell_later (nx_alloc _ _) (unhide f11_3_1)
      have e3_2 : ∀ o, (w11.alloc o).cell? ⟨w5.heap.size, 2, none⟩ = some (.string ⟨#[]⟩) := fun o => cell_later (nx_alloc _ _) (unhide f11_3_2)
      have e4_0 : ∀ o, (w11.alloc o).cell? ⟨w6.heap.size, 0, none⟩ = some (.int .i64 1) := fun o => cell_later (nx_alloc _ _) (unhide f11_4_0)
      have e4_1 : ∀ o, (w11.alloc o).cell? ⟨w6.heap.size, 1, none⟩ = some (.int .i64 (R)) := fun o => cell_later (nx_alloc _ _) (unhide f11_4_1)
      have e4_2 : ∀ o, (w11.alloc o).cell? ⟨w6.heap.size, 2, none⟩ = some (.string ⟨#[]⟩) := fun o => cell_later (nx_alloc _ _) (unhide f11_4_2)
      have e5_0 : ∀ o, (w11.alloc o).cell? ⟨w7.heap.size, 0, none⟩ = some (.int .i64 1) := fun o => cell_later (nx_alloc _ _) (unhide f11_5_0)
      have e5_1 : ∀ o, (w11.alloc o).cell? ⟨w7.heap.size, 1, none⟩ = some (.int .i64 (D)) := fun o => cell_later (nx_alloc _ _) (unhide f11_5_1)
      have e5_2 : ∀ o, (w11.alloc o).cell? ⟨w7.heap.size, 2, none⟩ = some (.string ⟨#[]⟩) := fun o => cell_later (nx_alloc _ _) (unhide f11_5_2)
      have e8_0 : ∀ o, (w11.alloc o).cell? ⟨w10.heap.size, 0, none⟩ = some (.int .i64 2) := fun o => cell_later (nx_alloc _ _) (unhide f11_8_0)
      have e8_1 : ∀ o, (w11.alloc o).cell? ⟨w10.heap.size, 1, none⟩ = some (.int .i64 1) := fun o => cell_later (nx_alloc _ _) (unhide f11_8_1)
      have e8_2 : ∀ o, (w11.alloc o).cell? ⟨w10.heap.size, 2, none⟩ = some (.string ⟨#[]⟩) := fun o => cell_later (nx_alloc _ _) (unhide f11_8_2)
      go_wp2_with fail
      refine (bin_mul D (-(1 + r2)) (r1 - 15000) _ hD hBd hX (unhide eB)).mono ?_
      rintro e w12 ⟨rfl, hb12⟩
      have g0 : ∀ o, (w12.alloc o).cell? ⟨w1.heap.size, 0, none⟩ = some (.int .i64 1) := fun o => cell_later (nx_trans hb12 (nx_alloc _ _)) (e0_0 _)
      have g1 : ∀ o, (w12.alloc o).cell? ⟨w1.heap.size, 1, none⟩ = some (.int .i64 (r1 - 15000)) := fun o => cell_later (nx_trans hb12 (nx_alloc _ _)) (e0_1 _)
      have g2 : ∀ o, (w12.alloc o).cell? ⟨w1.heap.size, 2, none⟩ = some (.string ⟨#[]⟩) := fun o => cell_later (nx_trans hb12 (nx_alloc _ _)) (e0_2 _)
      clear e0_0 e0_1 e0_2 e1_0 e1_1 e1_2 e3_0 e3_1 e3_2 e4_0 e4_1 e4_2 e5_0 e5_1 e5_2 e8_0 e8_1 e8_2
      have hB12 := hide hb12
      clear hb12
      go_wp2
      go_ret
      exact ⟨rfl, nx_al (nx_trans (nx_al (nx_trans (nx_al (nx_trans (nx_al (nx_trans (nx_al (nx_al (nx_trans (nx_al (nx_al (nx_trans (nx_al (nx_trans (nx_al (nx_trans (nx_al (nx_trans (unhide hW) (unhide hB4))) (unhide hB5))) (unhide hB6))) (unhide hB7)))) (unhide hB8)))) (unhide hB9))) (unhide hB10))) (unhide hB11))) (unhide hB12))⟩
    · have eR1 := hide hw
      have hz : (R != 0) = true := by rw [bne_iff_ne, ← hRe]; exact hw
      clear hw hRe
      have o0_0 := unhide f3_0_0
      have o0_1 := unhide f3_0_1
      have o0_2 := unhide f3_0_2
      have o1_0 := unhide f3_1_0
      have o1_1 := unhide f3_1_1
      have o1_2 := unhide f3_1_2
      go_wp2_with fail
      refine (bin_mul (r1 - 15000) (-(1 + r2)) P _ hX hBd hP (unhide eP)).mono ?_
      rintro e w4 ⟨rfl, hb4⟩
      have f4_0_0 : Hid (w4.cell? ⟨w1.heap.size, 0, none⟩ = some (.int .i64 1)) := cell_later hb4 (by first | exact cell_later (nx_alloc _ _) (unhide f3_0_0) | exact cell_later (nx_trans (nx_alloc _ _) (nx_alloc _ _)) (unhide f3_0_0) | exact (unhide f3_0_0))
      have f4_0_1 : Hid (w4.cell? ⟨w1.heap.size, 1, none⟩ = some (.int .i64 (r1 - 15000))) := cell_later hb4 (by first | exact cell_later (nx_alloc _ _) (unhide f3_0_1) | exact cell_later (nx_trans (nx_alloc _ _) (nx_alloc _ _)) (unhide f3_0_1) | exact (unhide f3_0_1))
      have f4_0_2 : Hid (w4.cell? ⟨w1.heap.size, 2, none⟩ = some (.string ⟨#[]⟩)) := cell_later hb4 (by first | exact cell_later (nx_alloc _ _) (unhide f3_0_2) | exact cell_later (nx_trans (nx_alloc _ _) (nx_alloc _ _)) (unhide f3_0_2) | exact (unhide f3_0_2))
      have f4_1_0 : Hid (w4.cell? ⟨w2.heap.size, 0, none⟩ = some (.int .i64 1)) := cell_later hb4 (by first | exact cell_later (nx_alloc _ _) (unhide f3_1_0) | exact cell_later (nx_trans (nx_alloc _ _) (nx_alloc _ _)) (unhide f3_1_0) | exact (unhide f3_1_0))
      have f4_1_1 : Hid (w4.cell? ⟨w2.heap.size, 1, none⟩ = some (.int .i64 (-(1 + r2)))) := cell_later hb4 (by first | exact cell_later (nx_alloc _ _) (unhide f3_1_1) | exact cell_later (nx_trans (nx_alloc _ _) (nx_alloc _ _)) (unhide f3_1_1) | exact (unhide f3_1_1))
      have f4_1_2 : Hid (w4.cell? ⟨w2.heap.size, 2, none⟩ = some (.string ⟨#[]⟩)) := cell_later hb4 (by first | exact cell_later (nx_alloc _ _) (unhide f3_1_2) | exact cell_later (nx_trans (nx_alloc _ _) (nx_alloc _ _)) (unhide f3_1_2) | exact (unhide f3_1_2))
      clear f3_0_0 f3_0_1 f3_0_2 f3_1_0 f3_1_1 f3_1_2
      have hB4 := hide hb4
      clear hb4
      clear o0_0 o0_1 o0_2 o1_0 o1_1 o1_2
      have e1_0 : ∀ o, (w4.alloc o).cell? ⟨w2.heap.size, 0, none⟩ = some (.int .i64 1) := fun o => cell_later (nx_alloc _ _) (unhide f4_1_0)
      have e1_1 : ∀ o, (w4.alloc o).cell? ⟨w2.heap.size, 1, none⟩ = some (.int .i64 (-(1 + r2))) := fun o => cell_later (nx_alloc _ _) (unhide f4_1_1)
      have e1_2 : ∀ o, (w4.alloc o).cell? ⟨w2.heap.size, 2, none⟩ = some (.string ⟨#[]⟩) := fun o => cell_later (nx_alloc _ _) (unhide f4_1_2)
      go_wp2_with fail
      refine (bin_quo P (-(1 + r2)) (r1 - 15000) _ hP hBd hX hB0 (unhide eq1) (unhide eq2)).mono ?_
      rintro e w5 ⟨rfl, hb5⟩
      have f5_0_0 : Hid (w5.cell? ⟨w1.heap.size, 0, none⟩ = some (.int .i64 1)) := cell_later hb5 (by first | exact cell_later (nx_alloc _ _) (unhide f4_0_0) | exact cell_later (nx_trans (nx_alloc _ _) (nx_alloc _ _)) (unhide f4_0_0) | exact (unhide f4_0_0))
      have f5_0_1 : Hid (w5.cell? ⟨w1.heap.size, 1, none⟩ = some (.int .i64 (r1 - 15000))) := cell_later hb5 (by first | exact cell_later (nx_alloc _ _) (unhide f4_0_1) | exact cell_later (nx_trans (nx_alloc _ _) (nx_alloc _ _)) (unhide f4_0_1) | exact (unhide f4_0_1))
      have f5_0_2 : Hid (w5.cell? ⟨w1.heap.size, 2, none⟩ = some (.string ⟨#[]⟩)) := cell_later hb5 (by first | exact cell_later (nx_alloc _ _) (unhide f4_0_2) | exact cell_later (nx_trans (nx_alloc _ _) (nx_alloc _ _)) (unhide f4_0_2) | exact (unhide f4_0_2))
      have f5_1_0 : Hid (w5.cell? ⟨w2.heap.size, 0, none⟩ = some (.int .i64 1)) := cell_later hb5 (by first | exact cell_later (nx_alloc _ _) (unhide f4_1_0) | exact cell_later (nx_trans (nx_alloc _ _) (nx_alloc _ _)) (unhide f4_1_0) | exact (unhide f4_1_0))
      have f5_1_1 : Hid (w5.cell? ⟨w2.heap.size, 1, none⟩ = some (.int .i64 (-(1 + r2)))) := cell_later hb5 (by first | exact cell_later (nx_alloc _ _) (unhide f4_1_1) | exact cell_later (nx_trans (nx_alloc _ _) (nx_alloc _ _)) (unhide f4_1_1) | exact (unhide f4_1_1))
      have f5_1_2 : Hid (w5.cell? ⟨w2.heap.size, 2, none⟩ = some (.string ⟨#[]⟩)) := cell_later hb5 (by first | exact cell_later (nx_alloc _ _) (unhide f4_1_2) | exact cell_later (nx_trans (nx_alloc _ _) (nx_alloc _ _)) (unhide f4_1_2) | exact (unhide f4_1_2))
      have f5_2_0 : Hid (w5.cell? ⟨w4.heap.size, 0, none⟩ = some (.int .i64 1)) := cell_later hb5 (by simp)
      have f5_2_1 : Hid (w5.cell? ⟨w4.heap.size, 1, none⟩ = some (.int .i64 (P))) := cell_later hb5 (by simp)
      have f5_2_2 : Hid (w5.cell? ⟨w4.heap.size, 2, none⟩ = some (.string ⟨#[]⟩)) := cell_later hb5 (by simp)
      clear f4_0_0 f4_0_1 f4_0_2 f4_1_0 f4_1_1 f4_1_2 e1_0 e1_1 e1_2
      have hB5 := hide hb5
      clear hb5
      have e0_0 : ∀ o, (w5.alloc o).cell? ⟨w1.heap.size, 0, none⟩ = some (.int .i64 1) := fun o => cell_later (nx_alloc _ _) (unhide f5_0_0)
      have e0_1 : ∀ o, (w5.alloc o).cell? ⟨w1.heap.size, 1, none⟩ = some (.int .i64 (r1 - 15000)) := fun o => cell_later (nx_alloc _ _) (unhide f5_0_1)
      have e0_2 : ∀ o, (w5.alloc o).cell? ⟨w1.heap.size, 2, none⟩ = some (.string ⟨#[]⟩) := fun o => cell_later (nx_alloc _ _) (unhide f5_0_2)
      have e1_0 : ∀ o, (w5.alloc o).cell? ⟨w2.heap.size, 0, none⟩ = some (.int .i64 1) := fun o => cell_later (nx_alloc _ _) (unhide f5_1_0)
      have e1_1 : ∀ o, (w5.alloc o).cell? ⟨w2.heap.size, 1, none⟩ = some (.int .i64 (-(1 + r2))) := fun o => cell_later (nx_alloc _ _) (unhide f5_1_1)
      have e1_2 : ∀ o, (w5.alloc o).cell? ⟨w2.heap.size, 2, none⟩ = some (.string ⟨#[]⟩) := fun o => cell_later (nx_alloc _ _) (unhide f5_1_2)
      go_wp2_with fail
      refine (bin_rem (r1 - 15000) (-(1 + r2)) R _ hX hBd hR hB0 (unhide eR)).mono ?_
      rintro e w6 ⟨rfl, hb6⟩
      have f6_0_0 : Hid (w6.cell? ⟨w1.heap.size, 0, none⟩ = some (.int .i64 1)) := cell_later hb6 (by first | exact cell_later (nx_alloc _ _) (unhide f5_0_0) | exact cell_later (nx_trans (nx_alloc _ _) (nx_alloc _ _)) (unhide f5_0_0) | exact (unhide f5_0_0))
      have f6_0_1 : Hid (w6.cell? ⟨w1.heap.size, 1, none⟩ = some (.int .i64 (r1 - 15000))) := cell_later hb6 (by first | exact cell_later (nx_alloc _ _) (unhide f5_0_1) | exact cell_later (nx_trans (nx_alloc _ _) (nx_alloc _ _)) (unhide f5_0_1) | exact (unhide f5_0_1))
      have f6_0_2 : Hid (w6.cell? ⟨w1.heap.size, 2, none⟩ = some (.string ⟨#[]⟩)) := cell_later hb6 (by first | exact cell_later (nx_alloc _ _) (unhide f5_0_2) | exact cell_later (nx_trans (nx_alloc _ _) (nx_alloc _ _)) (unhide f5_0_2) | exact (unhide f5_0_2))
      have f6_1_0 : Hid (w6.cell? ⟨w2.heap.size, 0, none⟩ = some (.int .i64 1)) := cell_later hb6 (by first | exact cell_later (nx_alloc _ _) (unhide f5_1_0) | exact cell_later (nx_trans (nx_alloc _ _) (nx_alloc _ _)) (unhide f5_1_0) | exact (unhide f5_1_0))
      have f6_1_1 : Hid (w6.cell? ⟨w2.heap.size, 1, none⟩ = some (.int .i64 (-(1 + r2)))) := cell_later hb6 (by first | exact cell_later (nx_alloc _ _) (unhide f5_1_1) | exact cell_later (nx_trans (nx_alloc _ _) (nx_alloc _ _)) (unhide f5_1_1) | exact (unhide f5_1_1))
      have f6_1_2 : Hid (w6.cell? ⟨w2.heap.size, 2, none⟩ = some (.string ⟨#[]⟩)) := cell_later hb6 (by first | exact cell_later (nx_alloc _ _) (unhide f5_1_2) | exact cell_later (nx_trans (nx_alloc _ _) (nx_alloc _ _)) (unhide f5_1_2) | exact (unhide f5_1_2))
      have f6_2_0 : Hid (w6.cell? ⟨w4.heap.size, 0, none⟩ = some (.int .i64 1)) := cell_later hb6 (by first | exact cell_later (nx_alloc _ _) (unhide f5_2_0) | exact cell_later (nx_trans (nx_alloc _ _) (nx_alloc _ _)) (unhide f5_2_0) | exact (unhide f5_2_0))
      have f6_2_1 : Hid (w6.cell? ⟨w4.heap.size, 1, none⟩ = some (.int .i64 (P))) := cell_later hb6 (by first | exact cell_later (nx_alloc _ _) (unhide f5_2_1) | exact cell_later (nx_trans (nx_alloc _ _) (nx_alloc _ _)) (unhide f5_2_1) | exact (unhide f5_2_1))
      have f6_2_2 : Hid (w6.cell? ⟨w4.heap.size, 2, none⟩ = some (.string ⟨#[]⟩)) := cell_later hb6 (by first | exact cell_later (nx_alloc _ _) (unhide f5_2_2) | exact cell_later (nx_trans (nx_alloc _ _) (nx_alloc _ _)) (unhide f5_2_2) | exact (unhide f5_2_2))
      have f6_3_0 : Hid (w6.cell? ⟨w5.heap.size, 0, none⟩ = some (.int .i64 1)) := cell_later hb6 (by simp)
      have f6_3_1 : Hid (w6.cell? ⟨w5.heap.size, 1, none⟩ = some (.int .i64 (r1 - 15000))) := cell_later hb6 (by simp)
      have f6_3_2 : Hid (w6.cell? ⟨w5.heap.size, 2, none⟩ = some (.string ⟨#[]⟩)) := cell_later hb6 (by simp)
      clear f5_0_0 f5_0_1 f5_0_2 f5_1_0 f5_1_1 f5_1_2 f5_2_0 f5_2_1 f5_2_2 e0_0 e0_1 e0_2 e1_0 e1_1 e1_2
      have hB6 := hide hb6
      clear hb6
      have e0_0 : ∀ o, (w6.alloc o).cell? ⟨w1.heap.size, 0, none⟩ = some (.int .i64 1) := fun o => cell_later (nx_alloc _ _) (unhide f6_0_0)
      have e0_1 : ∀ o, (w6.alloc o).cell? ⟨w1.heap.size, 1, none⟩ = some (.int .i64 (r1 - 15000)) := fun o => cell_later (nx_alloc _ _) (unhide f6_0_1)
      have e0_2 : ∀ o, (w6.alloc o).cell? ⟨w1.heap.size, 2, none⟩ = some (.string ⟨#[]⟩) := fun o => cell_later (nx_alloc _ _) (unhide f6_0_2)
      have e1_0 : ∀ o, (w6.alloc o).cell? ⟨w2.heap.size, 0, none⟩ = some (.int .i64 1) := fun o => cell_later (nx_alloc _ _) (unhide f6_1_0)
      have e1_1 : ∀ o, (w6.alloc o).cell? ⟨w2.heap.size, 1, none⟩ = some (.int .i64 (-(1 + r2))) := fun o => cell_later (nx_alloc _ _) (unhide f6_1_1)
      have e1_2 : ∀ o, (w6.alloc o).cell? ⟨w2.heap.size, 2, none⟩ = some (.string ⟨#[]⟩) := fun o => cell_later (nx_alloc _ _) (unhide f6_1_2)
      go_wp2_with fail
      refine (bin_part (r1 - 15000) (-(1 + r2)) _ hX hBd (.inr (unhide eR1))).mono ?_
      rintro e w7 ⟨rfl, hb7⟩
      have f7_0_0 : Hid (w7.cell? ⟨w1.heap.size, 0, none⟩ = some (.int .i64 1)) := cell_later hb7 (by first | exact cell_later (nx_alloc _ _) (unhide f6_0_0) | exact cell_later (nx_trans (nx_alloc _ _) (nx_alloc _ _)) (unhide f6_0_0) | exact (unhide f6_0_0))
      have f7_0_1 : Hid (w7.cell? ⟨w1.heap.size, 1, none⟩ = some (.int .i64 (r1 - 15000))) := cell_later hb7 (by first | exact cell_later (nx_alloc _ _) (unhide f6_0_1) | exact cell_later (nx_trans (nx_alloc _ _) (nx_alloc _ _)) (unhide f6_0_1) | exact (unhide f6_0_1))
      have f7_0_2 : Hid (w7.cell? ⟨w1.heap.size, 2, none⟩ = some (.string ⟨#[]⟩)) := cell_later hb7 (by first | exact cell_later (nx_alloc _ _) (unhide f6_0_2) | exact cell_later (nx_trans (nx_alloc _ _) (nx_alloc _ _)) (unhide f6_0_2) | exact (unhide f6_0_2))
      have f7_1_0 : Hid (w7.cell? ⟨w2.heap.size, 0, none⟩ = some (.int .i64 1)) := cell_later hb7 (by first | exact cell_later (nx_alloc _ _) (unhide f6_1_0) | exact cell_later (nx_trans (nx_alloc _ _) (nx_alloc _ _)) (unhide f6_1_0) | exact (unhide f6_1_0))
      have f7_1_1 : Hid (w7.cell? ⟨w2.heap.size, 1, none⟩ = some (.int .i64 (-(1 + r2)))) := cell_later hb7 (by first | exact cell_later (nx_alloc _ _) (unhide f6_1_1) | exact cell_later (nx_trans (nx_alloc _ _) (nx_alloc _ _)) (unhide f6_1_1) | exact (unhide f6_1_1))
      have f7_1_2 : Hid (w7.cell? ⟨w2.heap.size, 2, none⟩ = some (.string ⟨#[]⟩)) := cell_later hb7 (by first | exact cell_later (nx_alloc _ _) (unhide f6_1_2) | exact cell_later (nx_trans (nx_alloc _ _) (nx_alloc _ _)) (unhide f6_1_2) | exact (unhide f6_1_2))
      have f7_2_0 : Hid (w7.cell? ⟨w4.heap.size, 0, none⟩ = some (.int .i64 1)) := cell_later hb7 (by first | exact cell_later (nx_alloc _ _) (unhide f6_2_0) | exact cell_later (nx_trans (nx_alloc _ _) (nx_alloc _ _)) (unhide f6_2_0) | exact (unhide f6_2_0))
      have f7_2_1 : Hid (w7.cell? ⟨w4.heap.size, 1, none⟩ = some (.int .i64 (P))) := cell_later hb7 (by first | exact cell_later (nx_alloc _ _) (unhide f6_2_1) | exact cell_later (nx_trans (nx_alloc _ _) (nx_alloc _ _)) (unhide f6_2_1) | exact (unhide f6_2_1))
      have f7_2_2 : Hid (w7.cell? ⟨w4.heap.size, 2, none⟩ = some (.string ⟨#[]⟩)) := cell_later hb7 (by first | exact cell_later (nx_alloc _ _) (unhide f6_2_2) | exact cell_later (nx_trans (nx_alloc _ _) (nx_alloc _ _)) (unhide f6_2_2) | exact (unhide f6_2_2))
      have f7_3_0 : Hid (w7.cell? ⟨w5.heap.size, 0, none⟩ = some (.int .i64 1)) := cell_later hb7 (by first | exact cell_later (nx_alloc _ _) (unhide f6_3_0) | exact cell_later (nx_trans (nx_alloc _ _) (nx_alloc _ _)) (unhide f6_3_0) | exact (unhide f6_3_0))
      have f7_3_1 : Hid (w7.cell? ⟨w5.heap.size, 1, none⟩ = some (.int .i64 (r1 - 15000))) := cell_later hb7 (by first | exact cell_later (nx_alloc _ _) (unhide f6_3_1) | exact cell_later (nx_trans (nx_alloc _ _) (nx_alloc _ _)) (unhide f6_3_1) | exact (unhide f6_3_1))
      have f7_3_2 : Hid (w7.cell? ⟨w5.heap.size, 2, none⟩ = some (.string ⟨#[]⟩)) := cell_later hb7 (by first | exact cell_later (nx_alloc _ _) (unhide f6_3_2) | exact cell_later (nx_trans (nx_alloc _ _) (nx_alloc _ _)) (unhide f6_3_2) | exact (unhide f6_3_2))
      have f7_4_0 : Hid (w7.cell? ⟨w6.heap.size, 0, none⟩ = some (.int .i64 1)) := cell_later hb7 (by simp)
      have f7_4_1 : Hid (w7.cell? ⟨w6.heap.size, 1, none⟩ = some (.int .i64 (R))) := cell_later hb7 (by simp)
      have f7_4_2 : Hid (w7.cell? ⟨w6.heap.size, 2, none⟩ = some (.string ⟨#[]⟩)) := cell_later hb7 (by simp)
      clear f6_0_0 f6_0_1 f6_0_2 f6_1_0 f6_1_1 f6_1_2 f6_2_0 f6_2_1 f6_2_2 f6_3_0 f6_3_1 f6_3_2 e0_0 e0_1 e0_2 e1_0 e1_1 e1_2
      have hB7 := hide hb7
      clear hb7
      have e4_0 : ∀ o, (w7.alloc o).cell? ⟨w6.heap.size, 0, none⟩ = some (.int .i64 1) := fun o => cell_later (nx_alloc _ _) (unhide f7_4_0)
      have e4_1 : ∀ o, (w7.alloc o).cell? ⟨w6.heap.size, 1, none⟩ = some (.int .i64 (R)) := fun o => cell_later (nx_alloc _ _) (unhide f7_4_1)
      have e4_2 : ∀ o, (w7.alloc o).cell? ⟨w6.heap.size, 2, none⟩ = some (.string ⟨#[]⟩) := fun o => cell_later (nx_alloc _ _) (unhide f7_4_2)
      go_wp2_with fail
      refine (bi_abs R M _ _ _ hR hM (unhide eM) (args1 (by simp) (by simp) (by simp))).mono ?_
      rintro e w8 ⟨rfl, hb8⟩
      have f8_0_0 : Hid (w8.cell? ⟨w1.heap.size, 0, none⟩ = some (.int .i64 1)) := cell_later hb8 (by first | exact cell_later (nx_alloc _ _) (unhide f7_0_0) | exact cell_later (nx_trans (nx_alloc _ _) (nx_alloc _ _)) (unhide f7_0_0) | exact (unhide f7_0_0))
      have f8_0_1 : Hid (w8.cell? ⟨w1.heap.size, 1, none⟩ = some (.int .i64 (r1 - 15000))) := cell_later hb8 (by first | exact cell_later (nx_alloc _ _) (unhide f7_0_1) | exact cell_later (nx_trans (nx_alloc _ _) (nx_alloc _ _)) (unhide f7_0_1) | exact (unhide f7_0_1))
      have f8_0_2 : Hid (w8.cell? ⟨w1.heap.size, 2, none⟩ = some (.string ⟨#[]⟩)) := cell_later hb8 (by first | exact cell_later (nx_alloc _ _) (unhide f7_0_2) | exact cell_later (nx_trans (nx_alloc _ _) (nx_alloc _ _)) (unhide f7_0_2) | exact (unhide f7_0_2))
      have f8_1_0 : Hid (w8.cell? ⟨w2.heap.size, 0, none⟩ = some (.int .i64 1)) := cell_later hb8 (by first | exact cell_later (nx_alloc _ _) (unhide f7_1_0) | exact cell_later (nx_trans (nx_alloc _ _) (nx_alloc _ _)) (unhide f7_1_0) | exact (unhide f7_1_0))
      have f8_1_1 : Hid (w8.cell? ⟨w2.heap.size, 1, none⟩ = some (.int .i64 (-(1 + r2)))) := cell_later hb8 (by first | exact cell_later (nx_alloc _ _) (unhide f7_1_1) | exact cell_later (nx_trans (nx_alloc _ _) (nx_alloc _ _)) (unhide f7_1_1) | exact (unhide f7_1_1))
      have f8_1_2 : Hid (w8.cell? ⟨w2.heap.size, 2, none⟩ = some (.string ⟨#[]⟩)) := cell_later hb8 (by first | exact cell_later (nx_alloc _ _) (unhide f7_1_2) | exact cell_later (nx_trans (nx_alloc _ _) (nx_alloc _ _)) (unhide f7_1_2) | exact (unhide f7_1_2))
      have f8_2_0 : Hid (w8.cell? ⟨w4.heap.size, 0, none⟩ = some (.int .i64 1)) := cell_later hb8 (by first | exact cell_later (nx_alloc _ _) (unhide f7_2_0) | exact cell_later (nx_trans (nx_alloc _ _) (nx_alloc _ _)) (unhide f7_2_0) | exact (unhide f7_2_0))
      have f8_2_1 : Hid (w8.cell? ⟨w4.heap.size, 1, none⟩ = some (.int .i64 (P))) := cell_later hb8 (by first | exact cell_later (nx_alloc _ _) (unhide f7_2_1) | exact cell_later (nx_trans (nx_alloc _ _) (nx_alloc _ _)) (unhide f7_2_1) | exact (unhide f7_2_1))
      have f8_2_2 : Hid (w8.cell? ⟨w4.heap.size, 2, none⟩ = some (.string ⟨#[]⟩)) := cell_later hb8 (by first | exact cell_later (nx_alloc _ _) (unhide f7_2_2) | exact cell_later (nx_trans (nx_alloc _ _) (nx_alloc _ _)) (unhide f7_2_2) | exact (unhide f7_2_2))
      have f8_3_0 : Hid (w8.cell? ⟨w5.heap.size, 0, none⟩ = some (.int .i64 1)) := cell_later hb8 (by first | exact cell_later (nx_alloc _ _) (unhide f7_3_0) | exact cell_later (nx_trans (nx_alloc _ _) (nx_alloc _ _)) (unhide f7_3_0) | exact (unhide f7_3_0))
      have f8_3_1 : Hid (w8.cell? ⟨w5.heap.size, 1, none⟩ = some (.int .i64 (r1 - 15000))) := cell_later hb8 (by first | exact cell_later (nx_alloc _ _) (unhide f7_3_1) | exact cell_later (nx_trans (nx_alloc _ _) (nx_alloc _ _)) (unhide f7_3_1) | exact (unhide f7_3_1))
      have f8_3_2 : Hid (w8.cell? ⟨w5.heap.size, 2, none⟩ = some (.string ⟨#[]⟩)) := cell_later hb8 (by first | exact cell_later (nx_alloc _ _) (unhide f7_3_2) | exact cell_later (nx_trans (nx_alloc _ _) (nx_alloc _ _)) (unhide f7_3_2) | exact (unhide f7_3_2))
      have f8_4_0 : Hid (w8.cell? ⟨w6.heap.size, 0, none⟩ = some (.int .i64 1)) := cell_later hb8 (by first | exact cell_later (nx_alloc _ _) (unhide f7_4_0) | exact cell_later (nx_trans (nx_alloc _ _) (nx_alloc _ _)) (unhide f7_4_0) | exact (unhide f7_4_0))
      have f8_4_1 : Hid (w8.cell? ⟨w6.heap.size, 1, none⟩ = some (.int .i64 (R))) := cell_later hb8 (by first | exact cell_later (nx_alloc _ _) (unhide f7_4_1) | exact cell_later (nx_trans (nx_alloc _ _) (nx_alloc _ _)) (unhide f7_4_1) | exact (unhide f7_4_1))
      have f8_4_2 : Hid (w8.cell? ⟨w6.heap.size, 2, none⟩ = some (.string ⟨#[]⟩)) := cell_later hb8 (by first | exact cell_later (nx_alloc _ _) (unhide f7_4_2) | exact cell_later (nx_trans (nx_alloc _ _) (nx_alloc _ _)) (unhide f7_4_2) | exact (unhide f7_4_2))
      have f8_5_0 : Hid (w8.cell? ⟨w7.heap.size, 0, none⟩ = some (.int .i64 0)) := cell_later hb8 (by simp)
      have f8_5_1 : Hid (w8.cell? ⟨w7.heap.size, 1, none⟩ = some (.int .i64 0)) := cell_later hb8 (by simp)
      have f8_5_2 : Hid (w8.cell? ⟨w7.heap.size, 2, none⟩ = some (.string ⟨#[]⟩)) := cell_later hb8 (by simp)
      clear f7_0_0 f7_0_1 f7_0_2 f7_1_0 f7_1_1 f7_1_2 f7_2_0 f7_2_1 f7_2_2 f7_3_0 f7_3_1 f7_3_2 f7_4_0 f7_4_1 f7_4_2 e4_0 e4_1 e4_2
      have hB8 := hide hb8
      clear hb8
      have e1_0 : ∀ o, (w8.alloc o).cell? ⟨w2.heap.size, 0, none⟩ = some (.int .i64 1) := fun o => cell_later (nx_alloc _ _) (unhide f8_1_0)
      have e1_1 : ∀ o, (w8.alloc o).cell? ⟨w2.heap.size, 1, none⟩ = some (.int .i64 (-(1 + r2))) := fun o => cell_later (nx_alloc _ _) (unhide f8_1_1)
      have e1_2 : ∀ o, (w8.alloc o).cell? ⟨w2.heap.size, 2, none⟩ = some (.string ⟨#[]⟩) := fun o => cell_later (nx_alloc _ _) (unhide f8_1_2)
      go_wp2_with fail
      refine (bi_abs (-(1 + r2)) N _ _ _ hBd hN (unhide eN) (args1 (by simp) (by simp) (by simp))).mono ?_
      rintro e w9 ⟨rfl, hb9⟩
      have f9_0_0 : Hid (w9.cell? ⟨w1.heap.size, 0, none⟩ = some (.int .i64 1)) := cell_later hb9 (by first | exact cell_later (nx_alloc _ _) (unhide f8_0_0) | exact cell_later (nx_trans (nx_alloc _ _) (nx_alloc _ _)) (unhide f8_0_0) | exact (unhide f8_0_0))
      have f9_0_1 : Hid (w9.cell? ⟨w1.heap.size, 1, none⟩ = some (.int .i64 (r1 - 15000))) := cell_later hb9 (by first | exact cell_later (nx_alloc _ _) (unhide f8_0_1) | exact cell_later (nx_trans (nx_alloc _ _) (nx_alloc _ _)) (unhide f8_0_1) | exact (unhide f8_0_1))
      have f9_0_2 : Hid (w9.cell? ⟨w1.heap.size, 2, none⟩ = some (.string ⟨#[]⟩)) := cell_later hb9 (by first | exact cell_later (nx_alloc _ _) (unhide f8_0_2) | exact cell_later (nx_trans (nx_alloc _ _) (nx_alloc _ _)) (unhide f8_0_2) | exact (unhide f8_0_2))
      have f9_1_0 : Hid (w9.cell? ⟨w2.heap.size, 0, none⟩ = some (.int .i64 1)) := cell_later hb9 (by first | exact cell_later (nx_alloc _ _) (unhide f8_1_0) | exact cell_later (nx_trans (nx_alloc _ _) (nx_alloc _ _)) (unhide f8_1_0) | exact (unhide f8_1_0))
      have f9_1_1 : Hid (w9.cell? ⟨w2.heap.size, 1, none⟩ = some (.int .i64 (-(1 + r2)))) := cell_later hb9 (by first | exact cell_later (nx_alloc _ _) (unhide f8_1_1) | exact cell_later (nx_trans (nx_alloc _ _) (nx_alloc _ _)) (unhide f8_1_1) | exact (unhide f8_1_1))
      have f9_1_2 : Hid (w9.cell? ⟨w2.heap.size, 2, none⟩ = some (.string ⟨#[]⟩)) := cell_later hb9 (by first | exact cell_later (nx_alloc _ _) (unhide f8_1_2) | exact cell_later (nx_trans (nx_alloc _ _) (nx_alloc _ _)) (unhide f8_1_2) | exact (unhide f8_1_2))
      have f9_2_0 : Hid (w9.cell? ⟨w4.heap.size, 0, none⟩ = some (.int .i64 1)) := cell_later hb9 (by first | exact cell_later (nx_alloc _ _) (unhide f8_2_0) | exact cell_later (nx_trans (nx_alloc _ _) (nx_alloc _ _)) (unhide f8_2_0) | exact (unhide f8_2_0))
      have f9_2_1 : Hid (w9.cell? ⟨w4.heap.size, 1, none⟩ = some (.int .i64 (P))) := cell_later hb9 (by first | exact cell_later (nx_alloc _ _) (unhide f8_2_1) | exact cell_later (nx_trans (nx_alloc _ _) (nx_alloc _ _)) (unhide f8_2_1) | exact (unhide f8_2_1))
      have f9_2_2 : Hid (w9.cell? ⟨w4.heap.size, 2, none⟩ = some (.string ⟨#[]⟩)) := cell_later hb9 (by first | exact cell_later (nx_alloc _ _) (unhide f8_2_2) | exact cell_later (nx_trans (nx_alloc _ _) (nx_alloc _ _)) (unhide f8_2_2) | exact (unhide f8_2_2))
      have f9_3_0 : Hid (w9.cell? ⟨w5.heap.size, 0, none⟩ = some (.int .i64 1)) := cell_later hb9 (by first | exact cell_later (nx_alloc _ _) (unhide f8_3_0) | exact cell_later (nx_trans (nx_alloc _ _) (nx_alloc _ _)) (unhide f8_3_0) | exact (unhide f8_3_0))
      have f9_3_1 : Hid (w9.cell? ⟨w5.heap.size, 1, none⟩ = some (.int .i64 (r1 - 15000))) := cell_later hb9 (by first | exact cell_later (nx_alloc _ _) (unhide f8_3_1) | exact cell_later (nx_trans (nx_alloc _ _) (nx_alloc _ _)) (unhide f8_3_1) | exact (unhide f8_3_1))
      have f9_3_2 : Hid (w9.cell? ⟨w5.heap.size, 2, none⟩ = some (.string ⟨#[]⟩)) := cell_later hb9 (by first | exact cell_later (nx_alloc _ _) (unhide f8_3_2) | exact cell_later (nx_trans (nx_alloc _ _) (nx_alloc _ _)) (unhide f8_3_2) | exact (unhide f8_3_2))
      have f9_4_0 : Hid (w9.cell? ⟨w6.heap.size, 0, none⟩ = some (.int .i64 1)) := cell_later hb9 (by first | exact cell_later (nx_alloc _ _) (unhide f8_4_0) | exact cell_later (nx_trans (nx_alloc _ _) (nx_alloc _ _)) (unhide f8_4_0) | exact (unhide f8_4_0))
      have f9_4_1 : Hid (w9.cell? ⟨w6.heap.size, 1, none⟩ = some (.int .i64 (R))) := cell_later hb9 (by first | exact cell_later (nx_alloc _ _) (unhide f8_4_1) | exact cell_later (nx_trans (nx_alloc _ _) (nx_alloc _ _)) (unhide f8_4_1) | exact (unhide f8_4_1))
      have f9_4_2 : Hid (w9.cell? ⟨w6.heap.size, 2, none⟩ = some (.string ⟨#[]⟩)) := cell_later hb9 (by first | exact cell_later (nx_alloc _ _) (unhide f8_4_2) | exact cell_later (nx_trans (nx_alloc _ _) (nx_alloc _ _)) (unhide f8_4_2) | exact (unhide f8_4_2))
      have f9_5_0 : Hid (w9.cell? ⟨w7.heap.size, 0, none⟩ = some (.int .i64 0)) := cell_later hb9 (by first | exact cell_later (nx_alloc _ _) (unhide f8_5_0) | exact cell_later (nx_trans (nx_alloc _ _) (nx_alloc _ _)) (unhide f8_5_0) | exact (unhide f8_5_0))
      have f9_5_1 : Hid (w9.cell? ⟨w7.heap.size, 1, none⟩ = some (.int .i64 0)) := cell_later hb9 (by first | exact cell_later (nx_alloc _ _) (unhide f8_5_1) | exact cell_later (nx_trans (nx_alloc _ _) (nx_alloc _ _)) (unhide f8_5_1) | exact (unhide f8_5_1))
      have f9_5_2 : Hid (w9.cell? ⟨w7.heap.size, 2, none⟩ = some (.string ⟨#[]⟩)) := cell_later hb9 (by first | exact cell_later (nx_alloc _ _) (unhide f8_5_2) | exact cell_later (nx_trans (nx_alloc _ _) (nx_alloc _ _)) (unhide f8_5_2) | exact (unhide f8_5_2))
      have f9_6_0 : Hid (w9.cell? ⟨w8.heap.size, 0, none⟩ = some (.int .i64 1)) := cell_later hb9 (by simp)
      have f9_6_1 : Hid (w9.cell? ⟨w8.heap.size, 1, none⟩ = some (.int .i64 (M))) := cell_later hb9 (by simp)
      have f9_6_2 : Hid (w9.cell? ⟨w8.heap.size, 2, none⟩ = some (.string ⟨#[]⟩)) := cell_later hb9 (by simp)
      clear f8_0_0 f8_0_1 f8_0_2 f8_1_0 f8_1_1 f8_1_2 f8_2_0 f8_2_1 f8_2_2 f8_3_0 f8_3_1 f8_3_2 f8_4_0 f8_4_1 f8_4_2 f8_5_0 f8_5_1 f8_5_2 e1_0 e1_1 e1_2
      have hB9 := hide hb9
      clear hb9
      have e6_0 : ∀ o, (w9.alloc o).cell? ⟨w8.heap.size, 0, none⟩ = some (.int .i64 1) := fun o => cell_later (nx_alloc _ _) (unhide f9_6_0)
      have e6_1 : ∀ o, (w9.alloc o).cell? ⟨w8.heap.size, 1, none⟩ = some (.int .i64 (M)) := fun o => cell_later (nx_alloc _ _) (unhide f9_6_1)
      have e6_2 : ∀ o, (w9.alloc o).cell? ⟨w8.heap.size, 2, none⟩ = some (.string ⟨#[]⟩) := fun o => cell_later (nx_alloc _ _) (unhide f9_6_2)
      go_wp2_with fail
      refine (bin_lt M N true 1 _ hM hN (by simpa using unhide hMN) rfl).mono ?_
      rintro e w10 ⟨rfl, hb10⟩
      have f10_0_0 : Hid (w10.cell? ⟨w1.heap.size, 0, none⟩ = some (.int .i64 1)) := cell_later hb10 (by first | exact cell_later (nx_alloc _ _) (unhide f9_0_0) | exact cell_later (nx_trans (nx_alloc _ _) (nx_alloc _ _)) (unhide f9_0_0) | exact (unhide f9_0_0))
      have f10_0_1 : Hid (w10.cell? ⟨w1.heap.size, 1, none⟩ = some (.int .i64 (r1 - 15000))) := cell_later hb10 (by first | exact cell_later (nx_alloc _ _) (unhide f9_0_1) | exact cell_later (nx_trans (nx_alloc _ _) (nx_alloc _ _)) (unhide f9_0_1) | exact (unhide f9_0_1))
      have f10_0_2 : Hid (w10.cell? ⟨w1.heap.size, 2, none⟩ = some (.string ⟨#[]⟩)) := cell_later hb10 (by first | exact cell_later (nx_alloc _ _) (unhide f9_0_2) | exact cell_later (nx_trans (nx_alloc _ _) (nx_alloc _ _)) (unhide f9_0_2) | exact (unhide f9_0_2))
      have f10_1_0 : Hid (w10.cell? ⟨w2.heap.size, 0, none⟩ = some (.int .i64 1)) := cell_later hb10 (by first | exact cell_later (nx_alloc _ _) (unhide f9_1_0) | exact cell_later (nx_trans (nx_alloc _ _) (nx_alloc _ _)) (unhide f9_1_0) | exact (unhide f9_1_0))
      have f10_1_1 : Hid (w10.cell? ⟨w2.heap.size, 1, none⟩ = some (.int .i64 (-(1 + r2)))) := cell_later hb10 (by first | exact cell_later (nx_alloc _ _) (unhide f9_1_1) | exact cell_later (nx_trans (nx_alloc _ _) (nx_alloc _ _)) (unhide f9_1_1) | exact (unhide f9_1_1))
      have f10_1_2 : Hid (w10.cell? ⟨w2.heap.size, 2, none⟩ = some (.string ⟨#[]⟩)) := cell_later hb10 (by first | exact cell_later (nx_alloc _ _) (unhide f9_1_2) | exact cell_later (nx_trans (nx_alloc _ _) (nx_alloc _ _)) (unhide f9_1_2) | exact (unhide f9_1_2))
      have f10_2_0 : Hid (w10.cell? ⟨w4.heap.size, 0, none⟩ = some (.int .i64 1)) := cell_later hb10 (by first | exact cell_later (nx_alloc _ _) (unhide f9_2_0) | exact cell_later (nx_trans (nx_alloc _ _) (nx_alloc _ _)) (unhide f9_2_0) | exact (unhide f9_2_0))
      have f10_2_1 : Hid (w10.cell? ⟨w4.heap.size, 1, none⟩ = some (.int .i64 (P))) := cell_later hb10 (by first | exact cell_later (nx_alloc _ _) (unhide f9_2_1) | exact cell_later (nx_trans (nx_alloc _ _) (nx_alloc _ _)) (unhide f9_2_1) | exact (unhide f9_2_1))
      have f10_2_2 : Hid (w10.cell? ⟨w4.heap.size, 2, none⟩ = some (.string ⟨#[]⟩)) := cell_later hb10 (by first | exact cell_later (nx_alloc _ _) (unhide f9_2_2) | exact cell_later (nx_trans (nx_alloc _ _) (nx_alloc _ _)) (unhide f9_2_2) | exact (unhide f9_2_2))
      have f10_3_0 : Hid (w10.cell? ⟨w5.heap.size, 0, none⟩ = some (.int .i64 1)) := cell_later hb10 (by first | exact cell_later (nx_alloc _ _) (unhide f9_3_0) | exact cell_later (nx_trans (nx_alloc _ _) (nx_alloc _ _)) (unhide f9_3_0) | exact (unhide f9_3_0))
      have f10_3_1 : Hid (w10.cell? ⟨w5.heap.size, 1, none⟩ = some (.int .i64 (r1 - 15000))) := cell_later hb10 (by first | exact cell_later (nx_alloc _ _) (unhide f9_3_1) | exact cell_later (nx_trans (nx_alloc _ _) (nx_alloc _ _)) (unhide f9_3_1) | exact (unhide f9_3_1))
      have f10_3_2 : Hid (w10.cell? ⟨w5.heap.size, 2, none⟩ = some (.string ⟨#[]⟩)) := cell_later hb10 (by first | exact cell_later (nx_alloc _ _) (unhide f9_3_2) | exact cell_later (nx_trans (nx_alloc _ _) (nx_alloc _ _)) (unhide f9_3_2) | exact (unhide f9_3_2))
      have f10_4_0 : Hid (w10.cell? ⟨w6.heap.size, 0, none⟩ = some (.int .i64 1)) := cell_later hb10 (by first | exact cell_later (nx_alloc _ _) (unhide f9_4_0) | exact cell_later (nx_trans (nx_alloc _ _) (nx_alloc _ _)) (unhide f9_4_0) | exact (unhide f9_4_0))
      have f10_4_1 : Hid (w10.cell? ⟨w6.heap.size, 1, none⟩ = some (.int .i64 (R))) := cell_later hb10 (by first | exact cell_later (nx_alloc _ _) (unhide f9_4_1) | exact cell_later (nx_trans (nx_alloc _ _) (nx_alloc _ _)) (unhide f9_4_1) | exact (unhide f9_4_1))
      have f10_4_2 : Hid (w10.cell? ⟨w6.heap.size, 2, none⟩ = some (.string ⟨#[]⟩)) := cell_later hb10 (by first | exact cell_later (nx_alloc _ _) (unhide f9_4_2) | exact cell_later (nx_trans (nx_alloc _ _) (nx_alloc _ _)) (unhide f9_4_2) | exact (unhide f9_4_2))
      have f10_5_0 : Hid (w10.cell? ⟨w7.heap.size, 0, none⟩ = some (.int .i64 0)) := cell_later hb10 (by first | exact cell_later (nx_alloc _ _) (unhide f9_5_0) | exact cell_later (nx_trans (nx_alloc _ _) (nx_alloc _ _)) (unhide f9_5_0) | exact (unhide f9_5_0))
      have f10_5_1 : Hid (w10.cell? ⟨w7.heap.size, 1, none⟩ = some (.int .i64 0)) := cell_later hb10 (by first | exact cell_later (nx_alloc _ _) (unhide f9_5_1) | exact cell_later (nx_trans (nx_alloc _ _) (nx_alloc _ _)) (unhide f9_5_1) | exact (unhide f9_5_1))
      have f10_5_2 : Hid (w10.cell? ⟨w7.heap.size, 2, none⟩ = some (.string ⟨#[]⟩)) := cell_later hb10 (by first | exact cell_later (nx_alloc _ _) (unhide f9_5_2) | exact cell_later (nx_trans (nx_alloc _ _) (nx_alloc _ _)) (unhide f9_5_2) | exact (unhide f9_5_2))
      have f10_6_0 : Hid (w10.cell? ⟨w8.heap.size, 0, none⟩ = some (.int .i64 1)) := cell_later hb10 (by first | exact cell_later (nx_alloc _ _) (unhide f9_6_0) | exact cell_later (nx_trans (nx_alloc _ _) (nx_alloc _ _)) (unhide f9_6_0) | exact (unhide f9_6_0))
      have f10_6_1 : Hid (w10.cell? ⟨w8.heap.size, 1, none⟩ = some (.int .i64 (M))) := cell_later hb10 (by first | exact cell_later (nx_alloc _ _) (unhide f9_6_1) | exact cell_later (nx_trans (nx_alloc _ _) (nx_alloc _ _)) (unhide f9_6_1) | exact (unhide f9_6_1))
      have f10_6_2 : Hid (w10.cell? ⟨w8.heap.size, 2, none⟩ = some (.string ⟨#[]⟩)) := cell_later hb10 (by first | exact cell_later (nx_alloc _ _) (unhide f9_6_2) | exact cell_later (nx_trans (nx_alloc _ _) (nx_alloc _ _)) (unhide f9_6_2) | exact (unhide f9_6_2))
      have f10_7_0 : Hid (w10.cell? ⟨w9.heap.size, 0, none⟩ = some (.int .i64 1)) := cell_later hb10 (by simp)
      have f10_7_1 : Hid (w10.cell? ⟨w9.heap.size, 1, none⟩ = some (.int .i64 (N))) := cell_later hb10 (by simp)
      have f10_7_2 : Hid (w10.cell? ⟨w9.heap.size, 2, none⟩ = some (.string ⟨#[]⟩)) := cell_later hb10 (by simp)
      clear f9_0_0 f9_0_1 f9_0_2 f9_1_0 f9_1_1 f9_1_2 f9_2_0 f9_2_1 f9_2_2 f9_3_0 f9_3_1 f9_3_2 f9_4_0 f9_4_1 f9_4_2 f9_5_0 f9_5_1 f9_5_2 f9_6_0 f9_6_1 f9_6_2 e6_0 e6_1 e6_2
      have hB10 := hide hb10
      clear hb10
      have e0_0 : ∀ o, (w10.alloc o).cell? ⟨w1.heap.size, 0, none⟩ = some (.int .i64 1) := fun o => cell_later (nx_alloc _ _) (unhide f10_0_0)
      have e0_1 : ∀ o, (w10.alloc o).cell? ⟨w1.heap.size, 1, none⟩ = some (.int .i64 (r1 - 15000)) := fun o => cell_later (nx_alloc _ _) (unhide f10_0_1)
      have e0_2 : ∀ o, (w10.alloc o).cell? ⟨w1.heap.size, 2, none⟩ = some (.string ⟨#[]⟩) := fun o => cell_later (nx_alloc _ _) (unhide f10_0_2)
      go_wp2_with fail
      refine (bin_part (r1 - 15000) 0 _ hX (inB_two (by omega) (by omega)) (.inl rfl)).mono ?_
      rintro e w11 ⟨rfl, hb11⟩
      have f11_0_0 : Hid (w11.cell? ⟨w1.heap.size, 0, none⟩ = some (.int .i64 1)) := cell_later hb11 (by first | exact cell_later (nx_alloc _ _) (unhide f10_0_0) | exact cell_later (nx_trans (nx_alloc _ _) (nx_alloc _ _)) (unhide f10_0_0) | exact (unhide f10_0_0))
      have f11_0_1 : Hid (w11.cell? ⟨w1.heap.size, 1, none⟩ = some (.int .i64 (r1 - 15000))) := cell_later hb11 (by first | exact cell_later (nx_alloc _ _) (unhide f10_0_1) | exact cell_later (nx_trans (nx_alloc _ _) (nx_alloc _ _)) (unhide f10_0_1) | exact (unhide f10_0_1))
      have f11_0_2 : Hid (w11.cell? ⟨w1.heap.size, 2, none⟩ = some (.string ⟨#[]⟩)) := cell_later hb11 (by first | exact cell_later (nx_alloc _ _) (unhide f10_0_2) | exact cell_later (nx_trans (nx_alloc _ _) (nx_alloc _ _)) (unhide f10_0_2) | exact (unhide f10_0_2))
      have f11_1_0 : Hid (w11.cell? ⟨w2.heap.size, 0, none⟩ = some (.int .i64 1)) := cell_later hb11 (by first | exact cell_later (nx_alloc _ _) (unhide f10_1_0) | exact cell_later (nx_trans (nx_alloc _ _) (nx_alloc _ _)) (unhide f10_1_0) | exact (unhide f10_1_0))
      have f11_1_1 : Hid (w11.cell? ⟨w2.heap.size, 1, none⟩ = some (.int .i64 (-(1 + r2)))) := cell_later hb11 (by first | exact cell_later (nx_alloc _ _) (unhide f10_1_1) | exact cell_later (nx_trans (nx_alloc _ _) (nx_alloc _ _)) (unhide f10_1_1) | exact (unhide f10_1_1))
      have f11_1_2 : Hid (w11.cell? ⟨w2.heap.size, 2, none⟩ = some (.string ⟨#[]⟩)) := cell_later hb11 (by first | exact cell_later (nx_alloc _ _) (unhide f10_1_2) | exact cell_later (nx_trans (nx_alloc _ _) (nx_alloc _ _)) (unhide f10_1_2) | exact (unhide f10_1_2))
      have f11_2_0 : Hid (w11.cell? ⟨w4.heap.size, 0, none⟩ = some (.int .i64 1)) := cell_later hb11 (by first | exact cell_later (nx_alloc _ _) (unhide f10_2_0) | exact cell_later (nx_trans (nx_alloc _ _) (nx_alloc _ _)) (unhide f10_2_0) | exact (unhide f10_2_0))
      have f11_2_1 : Hid (w11.cell? ⟨w4.heap.size, 1, none⟩ = some (.int .i64 (P))) := cell_later hb11 (by first | exact cell_later (nx_alloc _ _) (unhide f10_2_1) | exact cell_later (nx_trans (nx_alloc _ _) (nx_alloc _ _)) (unhide f10_2_1) | exact (unhide f10_2_1))
      have f11_2_2 : Hid (w11.cell? ⟨w4.heap.size, 2, none⟩ = some (.string ⟨#[]⟩)) := cell_later hb11 (by first | exact cell_later (nx_alloc _ _) (unhide f10_2_2) | exact cell_later (nx_trans (nx_alloc _ _) (nx_alloc _ _)) (unhide f10_2_2) | exact (unhide f10_2_2))
      have f11_3_0 : Hid (w11.cell? ⟨w5.heap.size, 0, none⟩ = some (.int .i64 1)) := cell_later hb11 (by first | exact cell_later (nx_alloc _ _) (unhide f10_3_0) | exact cell_later (nx_trans (nx_alloc _ _) (nx_alloc _ _)) (unhide f10_3_0) | exact (unhide f10_3_0))
      have f11_3_1 : Hid (w11.cell? ⟨w5.heap.size, 1, none⟩ = some (.int .i64 (r1 - 15000))) := cell_later hb11 (by first | exact cell_later (nx_alloc _ _) (unhide f10_3_1) | exact cell_later (nx_trans (nx_alloc _ _) (nx_alloc _ _)) (unhide f10_3_1) | exact (unhide f10_3_1))
      have f11_3_2 : Hid (w11.cell? ⟨w5.heap.size, 2, none⟩ = some (.string ⟨#[]⟩)) := cell_later hb11 (by first | exact cell_later (nx_alloc _ _) (unhide f10_3_2) | exact cell_later (nx_trans (nx_alloc _ _) (nx_alloc _ _)) (unhide f10_3_2) | exact (unhide f10_3_2))
      have f11_4_0 : Hid (w11.cell? ⟨w6.heap.size, 0, none⟩ = some (.int .i64 1)) := cell_later hb11 (by first | exact cell_later (nx_alloc _ _) (unhide f10_4_0) | exact cell_later (nx_trans (nx_alloc _ _) (nx_alloc _ _)) (unhide f10_4_0) | exact (unhide f10_4_0))
      have f11_4_1 : Hid (w11.cell? ⟨w6.heap.size, 1, none⟩ = some (.int .i64 (R))) := cell_later hb11 (by first | exact cell_later (nx_alloc _ _) (unhide f10_4_1) | exact cell_later (nx_trans (nx_alloc _ _) (nx_alloc _ _)) (unhide f10_4_1) | exact (unhide f10_4_1))
      have f11_4_2 : Hid (w11.cell? ⟨w6.heap.size, 2, none⟩ = some (.string ⟨#[]⟩)) := cell_later hb11 (by first | exact cell_later (nx_alloc _ _) (unhide f10_4_2) | exact cell_later (nx_trans (nx_alloc _ _) (nx_alloc _ _)) (unhide f10_4_2) | exact (unhide f10_4_2))
      have f11_5_0 : Hid (w11.cell? ⟨w7.heap.size, 0, none⟩ = some (.int .i64 0)) := cell_later hb11 (by first | exact cell_later (nx_alloc _ _) (unhide f10_5_0) | exact cell_later (nx_trans (nx_alloc _ _) (nx_alloc _ _)) (unhide f10_5_0) | exact (unhide f10_5_0))
      have f11_5_1 : Hid (w11.cell? ⟨w7.heap.size, 1, none⟩ = some (.int .i64 0)) := cell_later hb11 (by first | exact cell_later (nx_alloc _ _) (unhide f10_5_1) | exact cell_later (nx_trans (nx_alloc _ _) (nx_alloc _ _)) (unhide f10_5_1) | exact (unhide f10_5_1))
      have f11_5_2 : Hid (w11.cell? ⟨w7.heap.size, 2, none⟩ = some (.string ⟨#[]⟩)) := cell_later hb11 (by first | exact cell_later (nx_alloc _ _) (unhide f10_5_2) | exact cell_later (nx_trans (nx_alloc _ _) (nx_alloc _ _)) (unhide f10_5_2) | exact (unhide f10_5_2))
      have f11_6_0 : Hid (w11.cell? ⟨w8.heap.size, 0, none⟩ = some (.int .i64 1)) := cell_later hb11 (by first | exact cell_later (nx_alloc _ _) (unhide f10_6_0) | exact cell_later (nx_trans (nx_alloc _ _) (nx_alloc _ _)) (unhide f10_6_0) | exact (unhide f10_6_0))
      have f11_6_1 : Hid (w11.cell? ⟨w8.heap.size, 1, none⟩ = some (.int .i64 (M))) := cell_later hb11 (by first | exact cell_later (nx_alloc _ _) (unhide f10_6_1) | exact cell_later (nx_trans (nx_alloc _ _) (nx_alloc _ _)) (unhide f10_6_1) | exact (unhide f10_6_1))
      have f11_6_2 : Hid (w11.cell? ⟨w8.heap.size, 2, none⟩ = some (.string ⟨#[]⟩)) := cell_later hb11 (by first | exact cell_later (nx_alloc _ _) (unhide f10_6_2) | exact cell_later (nx_trans (nx_alloc _ _) (nx_alloc _ _)) (unhide f10_6_2) | exact (unhide f10_6_2))
      have f11_7_0 : Hid (w11.cell? ⟨w9.heap.size, 0, none⟩ = some (.int .i64 1)) := cell_later hb11 (by first | exact cell_later (nx_alloc _ _) (unhide f10_7_0) | exact cell_later (nx_trans (nx_alloc _ _) (nx_alloc _ _)) (unhide f10_7_0) | exact (unhide f10_7_0))
      have f11_7_1 : Hid (w11.cell? ⟨w9.heap.size, 1, none⟩ = some (.int .i64 (N))) := cell_later hb11 (by first | exact cell_later (nx_alloc _ _) (unhide f10_7_1) | exact cell_later (nx_trans (nx_alloc _ _) (nx_alloc _ _)) (unhide f10_7_1) | exact (unhide f10_7_1))
      have f11_7_2 : Hid (w11.cell? ⟨w9.heap.size, 2, none⟩ = some (.string ⟨#[]⟩)) := cell_later hb11 (by first | exact cell_later (nx_alloc _ _) (unhide f10_7_2) | exact cell_later (nx_trans (nx_alloc _ _) (nx_alloc _ _)) (unhide f10_7_2) | exact (unhide f10_7_2))
      have f11_8_0 : Hid (w11.cell? ⟨w10.heap.size, 0, none⟩ = some (.int .i64 2)) := cell_later hb11 (by simp)
      have f11_8_1 : Hid (w11.cell? ⟨w10.heap.size, 1, none⟩ = some (.int .i64 1)) := cell_later hb11 (by simp)
      have f11_8_2 : Hid (w11.cell? ⟨w10.heap.size, 2, none⟩ = some (.string ⟨#[]⟩)) := cell_later hb11 (by simp)
      clear f10_0_0 f10_0_1 f10_0_2 f10_1_0 f10_1_1 f10_1_2 f10_2_0 f10_2_1 f10_2_2 f10_3_0 f10_3_1 f10_3_2 f10_4_0 f10_4_1 f10_4_2 f10_5_0 f10_5_1 f10_5_2 f10_6_0 f10_6_1 f10_6_2 f10_7_0 f10_7_1 f10_7_2 e0_0 e0_1 e0_2
      have hB11 := hide hb11
      clear hb11
      have e0_0 : ∀ o, (w11.alloc o).cell? ⟨w1.heap.size, 0, none⟩ = some (.int .i64 1) := fun o => cell_later (nx_alloc _ _) (unhide f11_0_0)
      have e0_1 : ∀ o, (w11.alloc o).cell? ⟨w1.heap.size, 1, none⟩ = some (.int .i64 (r1 - 15000)) := fun o => cell_later (nx_alloc _ _) (unhide f11_0_1)
      have e0_2 : ∀ o, (w11.alloc o).cell? ⟨w1.heap.size, 2, none⟩ = some (.string ⟨#[]⟩) := fun o => cell_later (nx_alloc _ _) (unhide f11_0_2)
      have e3_0 : ∀ o, (w11.alloc o).cell? ⟨w5.heap.size, 0, none⟩ = some (.int .i64 1) := fun o => cell_later (nx_alloc _ _) (unhide f11_3_0)
      have e3_1 : ∀ o, (w11.alloc o).cell? ⟨w5.heap.size, 1, none⟩ = some (.int .i64 (r1 - 15000)) := fun o => cell_later (nx_alloc _ _) (unhide f11_3_1)
      have e3_2 : ∀ o, (w11.alloc o).cell? ⟨w5.heap.size, 2, none⟩ = some (.string ⟨#[]⟩) := fun o => cell_later (nx_alloc _ _) (unhide f11_3_2)
      have e4_0 : ∀ o, (w11.alloc o).cell? ⟨w6.heap.size, 0, none⟩ = some (.int .i64 1) := fun o => cell_later (nx_alloc _ _) (unhide f11_4_0)
      have e4_1 : ∀ o, (w11.alloc o).cell? ⟨w6.heap.size, 1, none⟩ = some (.int .i64 (R)) := fun o => cell_later (nx_alloc _ _) (unhide f11_4_1)
      have e4_2 : ∀ o, (w11.alloc o).cell? ⟨w6.heap.size, 2, none⟩ = some (.string ⟨#[]⟩) := fun o => cell_later (nx_alloc _ _) (unhide f11_4_2)
      have e8_0 : ∀ o, (w11.alloc o).cell? ⟨w10.heap.size, 0, none⟩ = some (.int .i64 2) := fun o => cell_later (nx_alloc _ _) (unhide f11_8_0)
      have e8_1 : ∀ o, (w11.alloc o).cell? ⟨w10.heap.size, 1, none⟩ = some (.int .i64 1) := fun o => cell_later (nx_alloc _ _) (unhide f11_8_1)
      have e8_2 : ∀ o, (w11.alloc o).cell? ⟨w10.heap.size, 2, none⟩ = some (.string ⟨#[]⟩) := fun o => cell_later (nx_alloc _ _) (unhide f11_8_2)
      go_wp2
      go_ret
      exact ⟨rfl, nx_al (nx_trans (nx_al (nx_trans (nx_al (nx_trans (nx_al (nx_al (nx_trans (nx_al (nx_al (nx_trans (nx_al (nx_trans (nx_al (nx_trans (nx_al (nx_trans (unhide hW) (unhide hB4))) (unhide hB5))) (unhide hB6))) (unhide hB7)))) (unhide hB8)))) (unhide hB9))) (unhide hB10))) (unhide hB11))⟩
  · have e3 : (r3 == 1) = false := beq_eq_false_iff_ne.2 hr3
    clear hr3
    have hW := hW3
    have f3_0_0 := s3_0_0
    have f3_0_1 := s3_0_1
    have f3_0_2 := s3_0_2
    have f3_1_0 := s3_1_0
    have f3_1_1 := s3_1_1
    have f3_1_2 := s3_1_2
    clear hW3 s3_0_0 s3_0_1 s3_0_2 s3_1_0 s3_1_1 s3_1_2 hfz
    have hBd : inB (1 + r2) := inB_two (by omega) (by omega)
    have hB0 : ¬ (1 + r2) = 0 := by omega
    obtain ⟨P, hPe⟩ : ∃ P, (r1 - 15000) * (1 + r2) = P := ⟨_, rfl⟩
    have eP := hide hPe
    have hP : inB P := hPe ▸ mul_small _ _ (by omega) (by omega) (by omega) (by omega)
    have eq1 : Hid (P.tmod (1 + r2) = 0) := by rw [← hPe]; exact hide (Int.mul_tmod_left _ _)
    have eq2 : Hid (P.tdiv (1 + r2) = r1 - 15000) := by rw [← hPe]; exact hide (Int.mul_tdiv_cancel _ hB0)
    clear hPe
    obtain ⟨R, hRe⟩ : ∃ R, (r1 - 15000).tmod (1 + r2) = R := ⟨_, rfl⟩
    have eR := hide hRe
    have hR : inB R := by rw [← hRe]; exact tmod_bd _ _ hX.1 hX.2
    obtain ⟨M, hMe⟩ : ∃ M, max R (-R) = M := ⟨_, rfl⟩
    have eM := hide hMe
    obtain ⟨N, hNe⟩ : ∃ N, max (1 + r2) (-(1 + r2)) = N := ⟨_, rfl⟩
    have eN := hide hNe
    have hlt := tmod_abs (r1 - 15000) (1 + r2) hB0
    have hMN : Hid (M < N) := by rw [← hMe, ← hNe, ← hRe]; exact hide hlt
    have hN : inB N := inB_two (by omega) (by omega)
    have hM : inB M := by have := unhide hMN; exact inB_two (by omega) (by omega)
    clear hMe hNe hlt
    by_cases hw : (r1 - 15000).tmod (1 + r2) = 0
    · have eR0 := hide hw
      have hz : (R != 0) = false := by rw [← hRe, hw]; rfl
      obtain ⟨D, hDe⟩ : ∃ D, (r1 - 15000).tdiv (1 + r2) = D := ⟨_, rfl⟩
      have eD := hide hDe
      have eB : Hid (D * (1 + r2) = r1 - 15000) := by
        have h9 := Int.mul_tdiv_add_tmod (r1 - 15000) (1 + r2)
        rw [hw, hDe, Int.add_zero, Int.mul_comm] at h9
        exact hide h9
      have hD : inB D := by
        have h8 : D.natAbs ≤ (r1 - 15000).natAbs := by rw [← hDe, Int.natAbs_tdiv]; exact Nat.div_le_self _ _
        exact inB_two (by omega) (by omega)
      clear hw hDe hRe
      have o0_0 := unhide f3_0_0
      have o0_1 := unhide f3_0_1
      have o0_2 := unhide f3_0_2
      have o1_0 := unhide f3_1_0
      have o1_1 := unhide f3_1_1
      have o1_2 := unhide f3_1_2
      go_wp2_with fail
      refine (bin_mul (r1 - 15000) (1 + r2) P _ hX hBd hP (unhide eP)).mono ?_
      rintro e w4 ⟨rfl, hb4⟩
      have f4_0_0 : Hid (w4.cell? ⟨w1.heap.size, 0, none⟩ = some (.int .i64 1)) := cell_later hb4 (by first | exact cell_later (nx_alloc _ _) (unhide f3_0_0) | exact cell_later (nx_trans (nx_alloc _ _) (nx_alloc _ _)) (unhide f3_0_0) | exact (unhide f3_0_0))
      have f4_0_1 : Hid (w4.cell? ⟨w1.heap.size, 1, none⟩ = some (.int .i64 (r1 - 15000))) := cell_later hb4 (by first | exact cell_later (nx_alloc _ _) (unhide f3_0_1) | exact cell_later (nx_trans (nx_alloc _ _) (nx_alloc _ _)) (unhide f3_0_1) | exact (unhide f3_0_1))
      have f4_0_2 : Hid (w4.cell? ⟨w1.heap.size, 2, none⟩ = some (.string ⟨#[]⟩)) := cell_later hb4 (by first | exact cell_later (nx_alloc _ _) (unhide f3_0_2) | exact cell_later (nx_trans (nx_alloc _ _) (nx_alloc _ _)) (unhide f3_0_2) | exact (unhide f3_0_2))
      have f4_1_0 : Hid (w4.cell? ⟨w2.heap.size, 0, none⟩ = some (.int .i64 1)) := cell_later hb4 (by first | exact cell_later (nx_alloc _ _) (unhide f3_1_0) | exact cell_later (nx_trans (nx_alloc _ _) (nx_alloc _ _)) (unhide f3_1_0) | exact (unhide f3_1_0))
      have f4_1_1 : Hid (w4.cell? ⟨w2.heap.size, 1, none⟩ = some (.int .i64 (1 + r2))) := cell_later hb4 (by first | exact cell_later (nx_alloc _ _) (unhide f3_1_1) | exact cell_later (nx_trans (nx_alloc _ _) (nx_alloc _ _)) (unhide f3_1_1) | exact (unhide f3_1_1))
      have f4_1_2 : Hid (w4.cell? ⟨w2.heap.size, 2, none⟩ = some (.string ⟨#[]⟩)) := cell_later hb4 (by first | exact cell_later (nx_alloc _ _) (unhide f3_1_2) | exact cell_later (nx_trans (nx_alloc _ _) (nx_alloc _ _)) (unhide f3_1_2) | exact (unhide f3_1_2))
      clear f3_0_0 f3_0_1 f3_0_2 f3_1_0 f3_1_1 f3_1_2
      have hB4 := hide hb4
      clear hb4
      clear o0_0 o0_1 o0_2 o1_0 o1_1 o1_2
      have e1_0 : ∀ o, (w4.alloc o).cell? ⟨w2.heap.size, 0, none⟩ = some (.int .i64 1) := fun o => cell_later (nx_alloc _ _) (unhide f4_1_0)
      have e1_1 : ∀ o, (w4.alloc o).cell? ⟨w2.heap.size, 1, none⟩ = some (.int .i64 (1 + r2)) := fun o => cell_later (nx_alloc _ _) (unhide f4_1_1)
      have e1_2 : ∀ o, (w4.alloc o).cell? ⟨w2.heap.size, 2, none⟩ = some (.string ⟨#[]⟩) := fun o => cell_later (nx_alloc _ _) (unhide f4_1_2)
      go_wp2_with fail
      refine (bin_quo P (1 + r2) (r1 - 15000) _ hP hBd hX hB0 (unhide eq1) (unhide eq2)).mono ?_
      rintro e w5 ⟨rfl, hb5⟩
      have f5_0_0 : Hid (w5.cell? ⟨w1.heap.size, 0, none⟩ = some (.int .i64 1)) := cell_later hb5 (by first | exact cell_later (nx_alloc _ _) (unhide f4_0_0) | exact cell_later (nx_trans (nx_alloc _ _) (nx_alloc _ _)) (unhide f4_0_0) | exact (unhide f4_0_0))
      have f5_0_1 : Hid (w5.cell? ⟨w1.heap.size, 1, none⟩ = some (.int .i64 (r1 - 15000))) := cell_later hb5 (by first | exact cell_later (nx_alloc _ _) (unhide f4_0_1) | exact cell_later (nx_trans (nx_alloc _ _) (nx_alloc _ _)) (unhide f4_0_1) | exact (unhide f4_0_1))
      have f5_0_2 : Hid (w5.cell? ⟨w1.heap.size, 2, none⟩ = some (.string ⟨#[]⟩)) := cell_later hb5 (by first | exact cell_later (nx_alloc _ _) (unhide f4_0_2) | exact cell_later (nx_trans (nx_alloc _ _) (nx_alloc _ _)) (unhide f4_0_2) | exact (unhide f4_0_2))
      have f5_1_0 : Hid (w5.cell? ⟨w2.heap.size, 0, none⟩ = some (.int .i64 1)) := cell_later hb5 (by first | exact cell_later (nx_alloc _ _) (unhide f4_1_0) | exact cell_later (nx_trans (nx_alloc _ _) (nx_alloc _ _)) (unhide f4_1_0) | exact (unhide f4_1_0))
      have f5_1_1 : Hid (w5.cell? ⟨w2.heap.size, 1, none⟩ = some (.int .i64 (1 + r2))) := cell_later hb5 (by first | exact cell_later (nx_alloc _ _) (unhide f4_1_1) | exact cell_later (nx_trans (nx_alloc _ _) (nx_alloc _ _)) (unhide f4_1_1) | exact (unhide f4_1_1))
      have f5_1_2 : Hid (w5.cell? ⟨w2.heap.size, 2, none⟩ = some (.string ⟨#[]⟩)) := cell_later hb5 (by first | exact cell_later (nx_alloc _ _) (unhide f4_1_2) | exact cell_later (nx_trans (nx_alloc _ _) (nx_alloc _ _)) (unhide f4_1_2) | exact (unhide f4_1_2))
      have f5_2_0 : Hid (w5.cell? ⟨w4.heap.size, 0, none⟩ = some (.int .i64 1)) := cell_later hb5 (by simp)
      have f5_2_1 : Hid (w5.cell? ⟨w4.heap.size, 1, none⟩ = some (.int .i64 (P))) := cell_later hb5 (by simp)
      have f5_2_2 : Hid (w5.cell? ⟨w4.heap.size, 2, none⟩ = some (.string ⟨#[]⟩)) := cell_later hb5 (by simp)
      clear f4_0_0 f4_0_1 f4_0_2 f4_1_0 f4_1_1 f4_1_2 e1_0 e1_1 e1_2
      have hB5 := hide hb5
      clear hb5
      have e0_0 : ∀ o, (w5.alloc o).cell? ⟨w1.heap.size, 0, none⟩ = some (.int .i64 1) := fun o => cell_later (nx_alloc _ _) (unhide f5_0_0)
      have e0_1 : ∀ o, (w5.alloc o).cell? ⟨w1.heap.size, 1, none⟩ = some (.int .i64 (r1 - 15000)) := fun o => cell_later (nx_alloc _ _) (unhide f5_0_1)
      have e0_2 : ∀ o, (w5.alloc o).cell? ⟨w1.heap.size, 2, none⟩ = some (.string ⟨#[]⟩) := fun o => cell_later (nx_alloc _ _) (unhide f5_0_2)
      have e1_0 : ∀ o, (w5.alloc o).cell? ⟨w2.heap.size, 0, none⟩ = some (.int .i64 1) := fun o => cell_later (nx_alloc _ _) (unhide f5_1_0)
      have e1_1 : ∀ o, (w5.alloc o).cell? ⟨w2.heap.size, 1, none⟩ = some (.int .i64 (1 + r2)) := fun o => cell_later (nx_alloc _ _) (unhide f5_1_1)
      have e1_2 : ∀ o, (w5.alloc o).cell? ⟨w2.heap.size, 2, none⟩ = some (.string ⟨#[]⟩) := fun o => cell_later (nx_alloc _ _) (unhide f5_1_2)
      go_wp2_with fail
      refine (bin_rem (r1 - 15000) (1 + r2) R _ hX hBd hR hB0 (unhide eR)).mono ?_
      rintro e w6 ⟨rfl, hb6⟩
      have f6_0_0 : Hid (w6.cell? ⟨w1.heap.size, 0, none⟩ = some (.int .i64 1)) := cell_later hb6 (by first | exact cell_later (nx_alloc _ _) (unhide f5_0_0) | exact cell_later (nx_trans (nx_alloc _ _) (nx_alloc _ _)) (unhide f5_0_0) | exact (unhide f5_0_0))
      have f6_0_1 : Hid (w6.cell? ⟨w1.heap.size, 1, none⟩ = some (.int .i64 (r1 - 15000))) := cell_later hb6 (by first | exact cell_later (nx_alloc _ _) (unhide f5_0_1) | exact cell_later (nx_trans (nx_alloc _ _) (nx_alloc _ _)) (unhide f5_0_1) | exact (unhide f5_0_1))
      have f6_0_2 : Hid (w6.cell? ⟨w1.heap.size, 2, none⟩ = some (.string ⟨#[]⟩)) := cell_later hb6 (by first | exact cell_later (nx_alloc _ _) (unhide f5_0_2) | exact cell_later (nx_trans (nx_alloc _ _) (nx_alloc _ _)) (unhide f5_0_2) | exact (unhide f5_0_2))
      have f6_1_0 : Hid (w6.cell? ⟨w2.heap.size, 0, none⟩ = some (.int .i64 1)) := cell_later hb6 (by first | exact cell_later (nx_alloc _ _) (unhide f5_1_0) | exact cell_later (nx_trans (nx_alloc _ _) (nx_alloc _ _)) (unhide f5_1_0) | exact (unhide f5_1_0))
      have f6_1_1 : Hid (w6.cell? ⟨w2.heap.size, 1, none⟩ = some (.int .i64 (1 + r2))) := cell_later hb6 (by first | exact cell_later (nx_alloc _ _) (unhide f5_1_1) | exact cell_later (nx_trans (nx_alloc _ _) (nx_alloc _ _)) (unhide f5_1_1) | exact (unhide f5_1_1))
      have f6_1_2 : Hid (w6.cell? ⟨w2.heap.size, 2, none⟩ = some (.string ⟨#[]⟩)) := cell_later hb6 (by first | exact cell_later (nx_alloc _ _) (unhide f5_1_2) | exact cell_later (nx_trans (nx_alloc _ _) (nx_alloc _ _)) (unhide f5_1_2) | exact (unhide f5_1_2))
      have f6_2_0 : Hid (w6.cell? ⟨w4.heap.size, 0, none⟩ = some (.int .i64 1)) := cell_later hb6 (by first | exact cell_later (nx_alloc _ _) (unhide f5_2_0) | exact cell_later (nx_trans (nx_alloc _ _) (nx_alloc _ _)) (unhide f5_2_0) | exact (unhide f5_2_0))
      have f6_2_1 : Hid (w6.cell? ⟨w4.heap.size, 1, none⟩ = some (.int .i64 (P))) := cell_later hb6 (by first | exact cell_later (nx_alloc _ _) (unhide f5_2_1) | exact cell_later (nx_trans (nx_alloc _ _) (nx_alloc _ _)) (unhide f5_2_1) | exact (unhide f5_2_1))
      have f6_2_2 : Hid (w6.cell? ⟨w4.heap.size, 2, none⟩ = some (.string ⟨#[]⟩)) := cell_later hb6 (by first | exact cell_later (nx_alloc _ _) (unhide f5_2_2) | exact cell_later (nx_trans (nx_alloc _ _) (nx_alloc _ _)) (unhide f5_2_2) | exact (unhide f5_2_2))
      have f6_3_0 : Hid (w6.cell? ⟨w5.heap.size, 0, none⟩ = some (.int .i64 1)) := cell_later hb6 (by simp)
      have f6_3_1 : Hid (w6.cell? ⟨w5.heap.size, 1, none⟩ = some (.int .i64 (r1 - 15000))) := cell_later hb6 (by simp)
      have f6_3_2 : Hid (w6.cell? ⟨w5.heap.size, 2, none⟩ = some (.string ⟨#[]⟩)) := cell_later hb6 (by simp)
      clear f5_0_0 f5_0_1 f5_0_2 f5_1_0 f5_1_1 f5_1_2 f5_2_0 f5_2_1 f5_2_2 e0_0 e0_1 e0_2 e1_0 e1_1 e1_2
      have hB6 := hide hb6
      clear hb6
      have e0_0 : ∀ o, (w6.alloc o).cell? ⟨w1.heap.size, 0, none⟩ = some (.int .i64 1) := fun o => cell_later (nx_alloc _ _) (unhide f6_0_0)
      have e0_1 : ∀ o, (w6.alloc o).cell? ⟨w1.heap.size, 1, none⟩ = some (.int .i64 (r1 - 15000)) := fun o => cell_later (nx_alloc _ _) (unhide f6_0_1)
      have e0_2 : ∀ o, (w6.alloc o).cell? ⟨w1.heap.size, 2, none⟩ = some (.string ⟨#[]⟩) := fun o => cell_later (nx_alloc _ _) (unhide f6_0_2)
      have e1_0 : ∀ o, (w6.alloc o).cell? ⟨w2.heap.size, 0, none⟩ = some (.int .i64 1) := fun o => cell_later (nx_alloc _ _) (unhide f6_1_0)
      have e1_1 : ∀ o, (w6.alloc o).cell? ⟨w2.heap.size, 1, none⟩ = some (.int .i64 (1 + r2)) := fun o => cell_later (nx_alloc _ _) (unhide f6_1_1)
      have e1_2 : ∀ o, (w6.alloc o).cell? ⟨w2.heap.size, 2, none⟩ = some (.string ⟨#[]⟩) := fun o => cell_later (nx_alloc _ _) (unhide f6_1_2)
      go_wp2_with fail
      refine (bin_quo (r1 - 15000) (1 + r2) D _ hX hBd hD hB0 (unhide eR0) (unhide eD)).mono ?_
      rintro e w7 ⟨rfl, hb7⟩
      have f7_0_0 : Hid (w7.cell? ⟨w1.heap.size, 0, none⟩ = some (.int .i64 1)) := cell_later hb7 (by first | exact cell_later (nx_alloc _ _) (unhide f6_0_0) | exact cell_later (nx_trans (nx_alloc _ _) (nx_alloc _ _)) (unhide f6_0_0) | exact (unhide f6_0_0))
      have f7_0_1 : Hid (w7.cell? ⟨w1.heap.size, 1, none⟩ = some (.int .i64 (r1 - 15000))) := cell_later hb7 (by first | exact cell_later (nx_alloc _ _) (unhide f6_0_1) | exact cell_later (nx_trans (nx_alloc _ _) (nx_alloc _ _)) (unhide f6_0_1) | exact (unhide f6_0_1))
      have f7_0_2 : Hid (w7.cell? ⟨w1.heap.size, 2, none⟩ = some (.string ⟨#[]⟩)) := cell_later hb7 (by first | exact cell_later (nx_alloc _ _) (unhide f6_0_2) | exact cell_later (nx_trans (nx_alloc _ _) (nx_alloc _ _)) (unhide f6_0_2) | exact (unhide f6_0_2))
      have f7_1_0 : Hid (w7.cell? ⟨w2.heap.size, 0, none⟩ = some (.int .i64 1)) := cell_later hb7 (by first | exact cell_later (nx_alloc _ _) (unhide f6_1_0) | exact cell_later (nx_trans (nx_alloc _ _) (nx_alloc _ _)) (unhide f6_1_0) | exact (unhide f6_1_0))
      have f7_1_1 : Hid (w7.cell? ⟨w2.heap.size, 1, none⟩ = some (.int .i64 (1 + r2))) := cell_later hb7 (by first | exact cell_later (nx_alloc _ _) (unhide f6_1_1) | exact cell_later (nx_trans (nx_alloc _ _) (nx_alloc _ _)) (unhide f6_1_1) | exact (unhide f6_1_1))
      have f7_1_2 : Hid (w7.cell? ⟨w2.heap.size, 2, none⟩ = some (.string ⟨#[]⟩)) := cell_later hb7 (by first | exact cell_later (nx_alloc _ _) (unhide f6_1_2) | exact cell_later (nx_trans (nx_alloc _ _) (nx_alloc _ _)) (unhide f6_1_2) | exact (unhide f6_1_2))
      have f7_2_0 : Hid (w7.cell? ⟨w4.heap.size, 0, none⟩ = some (.int .i64 1)) := cell_later hb7 (by first | exact cell_later (nx_alloc _ _) (unhide f6_2_0) | exact cell_later (nx_trans (nx_alloc _ _) (nx_alloc _ _)) (unhide f6_2_0) | exact (unhide f6_2_0))
      have f7_2_1 : Hid (w7.cell? ⟨w4.heap.size, 1, none⟩ = some (.int .i64 (P))) := cell_later hb7 (by first | exact cell_later (nx_alloc _ _) (unhide f6_2_1) | exact cell_later (nx_trans (nx_alloc _ _) (nx_alloc _ _)) (unhide f6_2_1) | exact (unhide f6_2_1))
      have f7_2_2 : Hid (w7.cell? ⟨w4.heap.size, 2, none⟩ = some (.string ⟨#[]⟩)) := cell_later hb7 (by first | exact cell_later (nx_alloc _ _) (unhide f6_2_2) | exact cell_later (nx_trans (nx_alloc _ _) (nx_alloc _ _)) (unhide f6_2_2) | exact (unhide f6_2_2))
      have f7_3_0 : Hid (w7.cell? ⟨w5.heap.size, 0, none⟩ = some (.int .i64 1)) := cell_later hb7 (by first | exact cell_later (nx_alloc _ _) (unhide f6_3_0) | exact cell_later (nx_trans (nx_alloc _ _) (nx_alloc _ _)) (unhide f6_3_0) | exact (unhide f6_3_0))
      have f7_3_1 : Hid (w7.cell? ⟨w5.heap.size, 1, none⟩ = some (.int .i64 (r1 - 15000))) := cell_later hb7 (by first | exact cell_later (nx_alloc _ _) (unhide f6_3_1) | exact cell_later (nx_trans (nx_alloc _ _) (nx_alloc _ _)) (unhide f6_3_1) | exact (unhide f6_3_1))
      have f7_3_2 : Hid (w7.cell? ⟨w5.heap.size, 2, none⟩ = some (.string ⟨#[]⟩)) := cell_later hb7 (by first | exact cell_later (nx_alloc _ _) (unhide f6_3_2) | exact cell_later (nx_trans (nx_alloc _ _) (nx_alloc _ _)) (unhide f6_3_2) | exact (unhide f6_3_2))
      have f7_4_0 : Hid (w7.cell? ⟨w6.heap.size, 0, none⟩ = some (.int .i64 1)) := cell_later hb7 (by simp)
      have f7_4_1 : Hid (w7.cell? ⟨w6.heap.size, 1, none⟩ = some (.int .i64 (R))) := cell_later hb7 (by simp)
      have f7_4_2 : Hid (w7.cell? ⟨w6.heap.size, 2, none⟩ = some (.string ⟨#[]⟩)) := cell_later hb7 (by simp)
      clear f6_0_0 f6_0_1 f6_0_2 f6_1_0 f6_1_1 f6_1_2 f6_2_0 f6_2_1 f6_2_2 f6_3_0 f6_3_1 f6_3_2 e0_0 e0_1 e0_2 e1_0 e1_1 e1_2
      have hB7 := hide hb7
      clear hb7
      have e4_0 : ∀ o, (w7.alloc o).cell? ⟨w6.heap.size, 0, none⟩ = some (.int .i64 1) := fun o => cell_later (nx_alloc _ _) (unhide f7_4_0)
      have e4_1 : ∀ o, (w7.alloc o).cell? ⟨w6.heap.size, 1, none⟩ = some (.int .i64 (R)) := fun o => cell_later (nx_alloc _ _) (unhide f7_4_1)
      have e4_2 : ∀ o, (w7.alloc o).cell? ⟨w6.heap.size, 2, none⟩ = some (.string ⟨#[]⟩) := fun o => cell_later (nx_alloc _ _) (unhide f7_4_2)
      go_wp2_with fail
      refine (bi_abs R M _ _ _ hR hM (unhide eM) (args1 (by simp) (by simp) (by simp))).mono ?_
      rintro e w8 ⟨rfl, hb8⟩
      have f8_0_0 : Hid (w8.cell? ⟨w1.heap.size, 0, none⟩ = some (.int .i64 1)) := cell_later hb8 (by first | exact cell_later (nx_alloc _ _) (unhide f7_0_0) | exact cell_later (nx_trans (nx_alloc _ _) (nx_alloc _ _)) (unhide f7_0_0) | exact (unhide f7_0_0))
      have f8_0_1 : Hid (w8.cell? ⟨w1.heap.size, 1, none⟩ = some (.int .i64 (r1 - 15000))) := cell_later hb8 (by first | exact cell_later (nx_alloc _ _) (unhide f7_0_1) | exact cell_later (nx_trans (nx_alloc _ _) (nx_alloc _ _)) (unhide f7_0_1) | exact (unhide f7_0_1))
      have f8_0_2 : Hid (w8.cell? ⟨w1.heap.size, 2, none⟩ = some (.string ⟨#[]⟩)) := cell_later hb8 (by first | exact cell_later (nx_alloc _ _) (unhide f7_0_2) | exact cell_later (nx_trans (nx_alloc _ _) (nx_alloc _ _)) (unhide f7_0_2) | exact (unhide f7_0_2))
      have f8_1_0 : Hid (w8.cell? ⟨w2.heap.size, 0, none⟩ = some (.int .i64 1)) := cell_later hb8 (by first | exact cell_later (nx_alloc _ _) (unhide f7_1_0) | exact cell_later (nx_trans (nx_alloc _ _) (nx_alloc _ _)) (unhide f7_1_0) | exact (unhide f7_1_0))
      have f8_1_1 : Hid (w8.cell? ⟨w2.heap.size, 1, none⟩ = some (.int .i64 (1 + r2))) := cell_later hb8 (by first | exact cell_later (nx_alloc _ _) (unhide f7_1_1) | exact cell_later (nx_trans (nx_alloc _ _) (nx_alloc _ _)) (unhide f7_1_1) | exact (unhide f7_1_1))
      have f8_1_2 : Hid (w8.cell? ⟨w2.heap.size, 2, none⟩ = some (.string ⟨#[]⟩)) := cell_later hb8 (by first | exact cell_later (nx_alloc _ _) (unhide f7_1_2) | exact cell_later (nx_trans (nx_alloc _ _) (nx_alloc _ _)) (unhide f7_1_2) | exact (unhide f7_1_2))
      have f8_2_0 : Hid (w8.cell? ⟨w4.heap.size, 0, none⟩ = some (.int .i64 1)) := cell_later hb8 (by first | exact cell_later (nx_alloc _ _) (unhide f7_2_0) | exact cell_later (nx_trans (nx_alloc _ _) (nx_alloc _ _)) (unhide f7_2_0) | exact (unhide f7_2_0))
      have f8_2_1 : Hid (w8.cell? ⟨w4.heap.size, 1, none⟩ = some (.int .i64 (P))) := cell_later hb8 (by first | exact cell_later (nx_alloc _ _) (unhide f7_2_1) | exact cell_later (nx_trans (nx_alloc _ _) (nx_alloc _ _)) (unhide f7_2_1) | exact (unhide f7_2_1))
      have f8_2_2 : Hid (w8.cell? ⟨w4.heap.size, 2, none⟩ = some (.string ⟨#[]⟩)) := cell_later hb8 (by first | exact cell_later (nx_alloc _ _) (unhide f7_2_2) | exact cell_later (nx_trans (nx_alloc _ _) (nx_alloc _ _)) (unhide f7_2_2) | exact (unhide f7_2_2))
      have f8_3_0 : Hid (w8.cell? ⟨w5.heap.size, 0, none⟩ = some (.int .i64 1)) := cell_later hb8 (by first | exact cell_later (nx_alloc _ _) (unhide f7_3_0) | exact cell_later (nx_trans (nx_alloc _ _) (nx_alloc _ _)) (unhide f7_3_0) | exact (unhide f7_3_0))
      have f8_3_1 : Hid (w8.cell? ⟨w5.heap.size, 1, none⟩ = some (.int .i64 (r1 - 15000))) := cell_later hb8 (by first | exact cell_later (nx_alloc _ _) (unhide f7_3_1) | exact cell_later (nx_trans (nx_alloc _ _) (nx_alloc _ _)) (unhide f7_3_1) | exact (unhide f7_3_1))
      have f8_3_2 : Hid (w8.cell? ⟨w5.heap.size, 2, none⟩ = some (.string ⟨#[]⟩)) := cell_later hb8 (by first | exact cell_later (nx_alloc _ _) (unhide f7_3_2) | exact cell_later (nx_trans (nx_alloc _ _) (nx_alloc _ _)) (unhide f7_3_2) | exact (unhide f7_3_2))
      have f8_4_0 : Hid (w8.cell? ⟨w6.heap.size, 0, none⟩ = some (.int .i64 1)) := cell_later hb8 (by first | exact cell_later (nx_alloc _ _) (unhide f7_4_0) | exact cell_later (nx_trans (nx_alloc _ _) (nx_alloc _ _)) (unhide f7_4_0) | exact (unhide f7_4_0))
      have f8_4_1 : Hid (w8.cell? ⟨w6.heap.size, 1, none⟩ = some (.int .i64 (R))) := cell_later hb8 (by first | exact cell_later (nx_alloc _ _) (unhide f7_4_1) | exact cell_later (nx_trans (nx_alloc _ _) (nx_alloc _ _)) (unhide f7_4_1) | exact (unhide f7_4_1))
      have f8_4_2 : Hid (w8.cell? ⟨w6.heap.size, 2, none⟩ = some (.string ⟨#[]⟩)) := cell_later hb8 (by first | exact cell_later (nx_alloc _ _) (unhide f7_4_2) | exact cell_later (nx_trans (nx_alloc _ _) (nx_alloc _ _)) (unhide f7_4_2) | exact (unhide f7_4_2))
      have f8_5_0 : Hid (w8.cell? ⟨w7.heap.size, 0, none⟩ = some (.int .i64 1)) := cell_later hb8 (by simp)
      have f8_5_1 : Hid (w8.cell? ⟨w7.heap.size, 1, none⟩ = some (.int .i64 (D))) := cell_later hb8 (by simp)
      have f8_5_2 : Hid (w8.cell? ⟨w7.heap.size, 2, none⟩ = some (.string ⟨#[]⟩)) := cell_later hb8 (by simp)
      clear f7_0_0 f7_0_1 f7_0_2 f7_1_0 f7_1_1 f7_1_2 f7_2_0 f7_2_1 f7_2_2 f7_3_0 f7_3_1 f7_3_2 f7_4_0 f7_4_1 f7_4_2 e4_0 e4_1 e4_2
      have hB8 := hide hb8
      clear hb8
      have e1_0 : ∀ o, (w8.alloc o).cell? ⟨w2.heap.size, 0, none⟩ = some (.int .i64 1) := fun o => cell_later (nx_alloc _ _) (unhide f8_1_0)
      have e1_1 : ∀ o, (w8.alloc o).cell? ⟨w2.heap.size, 1, none⟩ = some (.int .i64 (1 + r2)) := fun o => cell_later (nx_alloc _ _) (unhide f8_1_1)
      have e1_2 : ∀ o, (w8.alloc o).cell? ⟨w2.heap.size, 2, none⟩ = some (.string ⟨#[]⟩) := fun o => cell_later (nx_alloc _ _) (unhide f8_1_2)
      go_wp2_with fail
      refine (bi_abs (1 + r2) N _ _ _ hBd hN (unhide eN) (args1 (by simp) (by simp) (by simp))).mono ?_
      rintro e w9 ⟨rfl, hb9⟩
      have f9_0_0 : Hid (w9.cell? ⟨w1.heap.size, 0, none⟩ = some (.int .i64 1)) := cell_later hb9 (by first | exact cell_later (nx_alloc _ _) (unhide f8_0_0) | exact cell_later (nx_trans (nx_alloc _ _) (nx_alloc _ _)) (unhide f8_0_0) | exact (unhide f8_0_0))
      have f9_0_1 : Hid (w9.cell? ⟨w1.heap.size, 1, none⟩ = some (.int .i64 (r1 - 15000))) := cell_later hb9 (by first | exact cell_later (nx_alloc _ _) (unhide f8_0_1) | exact cell_later (nx_trans (nx_alloc _ _) (nx_alloc _ _)) (unhide f8_0_1) | exact (unhide f8_0_1))
      have f9_0_2 : Hid (w9.cell? ⟨w1.heap.size, 2, none⟩ = some (.string ⟨#[]⟩)) := cell_later hb9 (by first | exact cell_later (nx_alloc _ _) (unhide f8_0_2) | exact cell_later (nx_trans (nx_alloc _ _) (nx_alloc _ _)) (unhide f8_0_2) | exact (unhide f8_0_2))
      have f9_1_0 : Hid (w9.cell? ⟨w2.heap.size, 0, none⟩ = some (.int .i64 1)) := cell_later hb9 (by first | exact cell_later (nx_alloc _ _) (unhide f8_1_0) | exact cell_later (nx_trans (nx_alloc _ _) (nx_alloc _ _)) (unhide f8_1_0) | exact (unhide f8_1_0))
      have f9_1_1 : Hid (w9.cell? ⟨w2.heap.size, 1, none⟩ = some (.int .i64 (1 + r2))) := cell_later hb9 (by first | exact cell_later (nx_alloc _ _) (unhide f8_1_1) | exact cell_later (nx_trans (nx_alloc _ _) (nx_alloc _ _)) (unhide f8_1_1) | exact (unhide f8_1_1))
      have f9_1_2 : Hid (w9.cell? ⟨w2.heap.size, 2, none⟩ = some (.string ⟨#[]⟩)) := cell_later hb9 (by first | exact cell_later (nx_alloc _ _) (unhide f8_1_2) | exact cell_later (nx_trans (nx_alloc _ _) (nx_alloc _ _)) (unhide f8_1_2) | exact (unhide f8_1_2))
      have f9_2_0 : Hid (w9.cell? ⟨w4.heap.size, 0, none⟩ = some (.int .i64 1)) := cell_later hb9 (by first | exact cell_later (nx_alloc _ _) (unhide f8_2_0) | exact cell_later (nx_trans (nx_alloc _ _) (nx_alloc _ _)) (unhide f8_2_0) | exact (unhide f8_2_0))
      have f9_2_1 : Hid (w9.cell? ⟨w4.heap.size, 1, none⟩ = some (.int .i64 (P))) := cell_later hb9 (by first | exact cell_later (nx_alloc _ _) (unhide f8_2_1) | exact cell_later (nx_trans (nx_alloc _ _) (nx_alloc _ _)) (unhide f8_2_1) | exact (unhide f8_2_1))
      have f9_2_2 : Hid (w9.cell? ⟨w4.heap.size, 2, none⟩ = some (.string ⟨#[]⟩)) := cell_later hb9 (by first | exact cell_later (nx_alloc _ _) (unhide f8_2_2) | exact cell_later (nx_trans (nx_alloc _ _) (nx_alloc _ _)) (unhide f8_2_2) | exact (unhide f8_2_2))
      have f9_3_0 : Hid (w9.cell? ⟨w5.heap.size, 0, none⟩ = some (.int .i64 1)) := cell_later hb9 (by first | exact cell_later (nx_alloc _ _) (unhide f8_3_0) | exact cell_later (nx_trans (nx_alloc _ _) (nx_alloc _ _)) (unhide f8_3_0) | exact (unhide f8_3_0))
      have f9_3_1 : Hid (w9.cell? ⟨w5.heap.size, 1, none⟩ = some (.int .i64 (r1 - 15000))) := cell_later hb9 (by first | exact cell_later (nx_alloc _ _) (unhide f8_3_1) | exact cell_later (nx_trans (nx_alloc _ _) (nx_alloc _ _)) (unhide f8_3_1) | exact (unhide f8_3_1))
      have f9_3_2 : Hid (w9.cell? ⟨w5.heap.size, 2, none⟩ = some (.string ⟨#[]⟩)) := cell_later hb9 (by first | exact cell_later (nx_alloc _ _) (unhide f8_3_2) | exact cell_later (nx_trans (nx_alloc _ _) (nx_alloc _ _)) (unhide f8_3_2) | exact (unhide f8_3_2))
      have f9_4_0 : Hid (w9.cell? ⟨w6.heap.size, 0, none⟩ = some (.int .i64 1)) := cell_later hb9 (by first | exact cell_later (nx_alloc _ _) (unhide f8_4_0) | exact cell_later (nx_trans (nx_alloc _ _) (nx_alloc _ _)) (unhide f8_4_0) | exact (unhide f8_4_0))
      have f9_4_1 : Hid (w9.cell? ⟨w6.heap.size, 1, none⟩ = some (.int .i64 (R))) := cell_later hb9 (by first | exact cell_later (nx_alloc _ _) (unhide f8_4_1) | exact cell_later (nx_trans (nx_alloc _ _) (nx_alloc _ _)) (unhide f8_4_1) | exact (unhide f8_4_1))
      have f9_4_2 : Hid (w9.cell? ⟨w6.heap.size, 2, none⟩ = some (.string ⟨#[]⟩)) := cell_later hb9 (by first | exact cell_later (nx_alloc _ _) (unhide f8_4_2) | exact cell_later (nx_trans (nx_alloc _ _) (nx_alloc _ _)) (unhide f8_4_2) | exact (unhide f8_4_2))
      have f9_5_0 : Hid (w9.cell? ⟨w7.heap.size, 0, none⟩ = some (.int .i64 1)) := cell_later hb9 (by first | exact cell_later (nx_alloc _ _) (unhide f8_5_0) | exact cell_later (nx_trans (nx_alloc _ _) (nx_alloc _ _)) (unhide f8_5_0) | exact (unhide f8_5_0))
      have f9_5_1 : Hid (w9.cell? ⟨w7.heap.size, 1, none⟩ = some (.int .i64 (D))) := cell_later hb9 (by first | exact cell_later (nx_alloc _ _) (unhide f8_5_1) | exact cell_later (nx_trans (nx_alloc _ _) (nx_alloc _ _)) (unhide f8_5_1) | exact (unhide f8_5_1))
      have f9_5_2 : Hid (w9.cell? ⟨w7.heap.size, 2, none⟩ = some (.string ⟨#[]⟩)) := cell_later hb9 (by first | exact cell_later (nx_alloc _ _) (unhide f8_5_2) | exact cell_later (nx_trans (nx_alloc _ _) (nx_alloc _ _)) (unhide f8_5_2) | exact (unhide f8_5_2))
      have f9_6_0 : Hid (w9.cell? ⟨w8.heap.size, 0, none⟩ = some (.int .i64 1)) := cell_later hb9 (by simp)
      have f9_6_1 : Hid (w9.cell? ⟨w8.heap.size, 1, none⟩ = some (.int .i64 (M))) := cell_later hb9 (by simp)
      have f9_6_2 : Hid (w9.cell? ⟨w8.heap.size, 2, none⟩ = some (.string ⟨#[]⟩)) := cell_later hb9 (by simp)
      clear f8_0_0 f8_0_1 f8_0_2 f8_1_0 f8_1_1 f8_1_2 f8_2_0 f8_2_1 f8_2_2 f8_3_0 f8_3_1 f8_3_2 f8_4_0 f8_4_1 f8_4_2 f8_5_0 f8_5_1 f8_5_2 e1_0 e1_1 e1_2
      have hB9 := hide hb9
      clear hb9
      have e6_0 : ∀ o, (w9.alloc o).cell? ⟨w8.heap.size, 0, none⟩ = some (.int .i64 1) := fun o => cell_later (nx_alloc _ _) (unhide f9_6_0)
      have e6_1 : ∀ o, (w9.alloc o).cell? ⟨w8.heap.size, 1, none⟩ = some (.int .i64 (M)) := fun o => cell_later (nx_alloc _ _) (unhide f9_6_1)
      have e6_2 : ∀ o, (w9.alloc o).cell? ⟨w8.heap.size, 2, none⟩ = some (.string ⟨#[]⟩) := fun o => cell_later (nx_alloc _ _) (unhide f9_6_2)
      go_wp2_with fail
      refine (bin_lt M N true 1 _ hM hN (by simpa using unhide hMN) rfl).mono ?_
      rintro e w10 ⟨rfl, hb10⟩
      have f10_0_0 : Hid (w10.cell? ⟨w1.heap.size, 0, none⟩ = some (.int .i64 1)) := cell_later hb10 (by first | exact cell_later (nx_alloc _ _) (unhide f9_0_0) | exact cell_later (nx_trans (nx_alloc _ _) (nx_alloc _ _)) (unhide f9_0_0) | exact (unhide f9_0_0))
      have f10_0_1 : Hid (w10.cell? ⟨w1.heap.size, 1, none⟩ = some (.int .i64 (r1 - 15000))) := cell_later hb10 (by first | exact cell_later (nx_alloc _ _) (unhide f9_0_1) | exact cell_later (nx_trans (nx_alloc _ _) (nx_alloc _ _)) (unhide f9_0_1) | exact (unhide f9_0_1))
      have f10_0_2 : Hid (w10.cell? ⟨w1.heap.size, 2, none⟩ = some (.string ⟨#[]⟩)) := cell_later hb10 (by first | exact cell_later (nx_alloc _ _) (unhide f9_0_2) | exact cell_later (nx_trans (nx_alloc _ _) (nx_alloc _ _)) (unhide f9_0_2) | exact (unhide f9_0_2))
      have f10_1_0 : Hid (w10.cell? ⟨w2.heap.size, 0, none⟩ = some (.int .i64 1)) := cell_later hb10 (by first | exact cell_later (nx_alloc _ _) (unhide f9_1_0) | exact cell_later (nx_trans (nx_alloc _ _) (nx_alloc _ _)) (unhide f9_1_0) | exact (unhide f9_1_0))
      have f10_1_1 : Hid (w10.cell? ⟨w2.heap.size, 1, none⟩ = some (.int .i64 (1 + r2))) := cell_later hb10 (by first | exact cell_later (nx_alloc _ _) (unhide f9_1_1) | exact cell_later (nx_trans (nx_alloc _ _) (nx_alloc _ _)) (unhide f9_1_1) | exact (unhide f9_1_1))
      have f10_1_2 : Hid (w10.cell? ⟨w2.heap.size, 2, none⟩ = some (.string ⟨#[]⟩)) := cell_later hb10 (by first | exact cell_later (nx_alloc _ _) (unhide f9_1_2) | exact cell_later (nx_trans (nx_alloc _ _) (nx_alloc _ _)) (unhide f9_1_2) | exact (unhide f9_1_2))
      have f10_2_0 : Hid (w10.cell? ⟨w4.heap.size, 0, none⟩ = some (.int .i64 1)) := cell_later hb10 (by first | exact cell_later (nx_alloc _ _) (unhide f9_2_0) | exact cell_later (nx_trans (nx_alloc _ _) (nx_alloc _ _)) (unhide f9_2_0) | exact (unhide f9_2_0))
      have f10_2_1 : Hid (w10.cell? ⟨w4.heap.size, 1, none⟩ = some (.int .i64 (P))) := cell_later hb10 (by first | exact cell_later (nx_alloc _ _) (unhide f9_2_1) | exact cell_later (nx_trans (nx_alloc _ _) (nx_alloc _ _)) (unhide f9_2_1) | exact (unhide f9_2_1))
      have f10_2_2 : Hid (w10.cell? ⟨w4.heap.size, 2, none⟩ = some (.string ⟨#[]⟩)) := cell_later hb10 (by first | exact cell_later (nx_alloc _ _) (unhide f9_2_2) | exact cell_later (nx_trans (nx_alloc _ _) (nx_alloc _ _)) (unhide f9_2_2) | exact (unhide f9_2_2))
      have f10_3_0 : Hid (w10.cell? ⟨w5.heap.size, 0, none⟩ = some (.int .i64 1)) := cell_later hb10 (by first | exact cell_later (nx_alloc _ _) (unhide f9_3_0) | exact cell_later (nx_trans (nx_alloc _ _) (nx_alloc _ _)) (unhide f9_3_0) | exact (unhide f9_3_0))
      have f10_3_1 : Hid (w10.cell? ⟨w5.heap.size, 1, none⟩ = some (.int .i64 (r1 - 15000))) := cell_later hb10 (by first | exact cell_later (nx_alloc _ _) (unhide f9_3_1) | exact cell_later (nx_trans (nx_alloc _ _) (nx_alloc _ _)) (unhide f9_3_1) | exact (unhide f9_3_1))
      have f10_3_2 : Hid (w10.cell? ⟨w5.heap.size, 2, none⟩ = some (.string ⟨#[]⟩)) := cell_later hb10 (by first | exact cell_later (nx_alloc _ _) (unhide f9_3_2) | exact cell_later (nx_trans (nx_alloc _ _) (nx_alloc _ _)) (unhide f9_3_2) | exact (unhide f9_3_2))
      have f10_4_0 : Hid (w10.cell? ⟨w6.heap.size, 0, none⟩ = some (.int .i64 1)) := cell_later hb10 (by first | exact cell_later (nx_alloc _ _) (unhide f9_4_0) | exact cell_later (nx_trans (nx_alloc _ _) (nx_alloc _ _)) (unhide f9_4_0) | exact (unhide f9_4_0))
      have f10_4_1 : Hid (w10.cell? ⟨w6.heap.size, 1, none⟩ = some (.int .i64 (R))) := cell_later hb10 (by first | exact cell_later (nx_alloc _ _) (unhide f9_4_1) | exact cell_later (nx_trans (nx_alloc _ _) (nx_alloc _ _)) (unhide f9_4_1) | exact (unhide f9_4_1))
      have f10_4_2 : Hid (w10.cell? ⟨w6.heap.size, 2, none⟩ = some (.string ⟨#[]⟩)) := cell_later hb10 (by first | exact cell_later (nx_alloc _ _) (unhide f9_4_2) | exact cell_later (nx_trans (nx_alloc _ _) (nx_alloc _ _)) (unhide f9_4_2) | exact (unhide f9_4_2))
      have f10_5_0 : Hid (w10.cell? ⟨w7.heap.size, 0, none⟩ = some (.int .i64 1)) := cell_later hb10 (by first | exact cell_later (nx_alloc _ _) (unhide f9_5_0) | exact cell_later (nx_trans (nx_alloc _ _) (nx_alloc _ _)) (unhide f9_5_0) | exact (unhide f9_5_0))
      have f10_5_1 : Hid (w10.cell? ⟨w7.heap.size, 1, none⟩ = some (.int .i64 (D))) := cell_later hb10 (by first | exact cell_later (nx_alloc _ _) (unhide f9_5_1) | exact cell_later (nx_trans (nx_alloc _ _) (nx_alloc _ _)) (unhide f9_5_1) | exact (unhide f9_5_1))
      have f10_5_2 : Hid (w10.cell? ⟨w7.heap.size, 2, none⟩ = some (.string ⟨#[]⟩)) := cell_later hb10 (by first | exact cell_later (nx_alloc _ _) (unhide f9_5_2) | exact cell_later (nx_trans (nx_alloc _ _) (nx_alloc _ _)) (unhide f9_5_2) | exact (unhide f9_5_2))
      have f10_6_0 : Hid (w10.cell? ⟨w8.heap.size, 0, none⟩ = some (.int .i64 1)) := cell_later hb10 (by first | exact cell_later (nx_alloc _ _) (unhide f9_6_0) | exact cell_later (nx_trans (nx_alloc _ _) (nx_alloc _ _)) (unhide f9_6_0) | exact (unhide f9_6_0))
      have f10_6_1 : Hid (w10.cell? ⟨w8.heap.size, 1, none⟩ = some (.int .i64 (M))) := cell_later hb10 (by first | exact cell_later (nx_alloc _ _) (unhide f9_6_1) | exact cell_later (nx_trans (nx_alloc _ _) (nx_alloc _ _)) (unhide f9_6_1) | exact (unhide f9_6_1))
      have f10_6_2 : Hid (w10.cell? ⟨w8.heap.size, 2, none⟩ = some (.string ⟨#[]⟩)) := cell_later hb10 (by first | exact cell_later (nx_alloc _ _) (unhide f9_6_2) | exact cell_later (nx_trans (nx_alloc _ _) (nx_alloc _ _)) (unhide f9_6_2) | exact (unhide f9_6_2))
      have f10_7_0 : Hid (w10.cell? ⟨w9.heap.size, 0, none⟩ = some (.int .i64 1)) := cell_later hb10 (by simp)
      have f10_7_1 : Hid (w10.cell? ⟨w9.heap.size, 1, none⟩ = some (.int .i64 (N))) := cell_later hb10 (by simp)
      have f10_7_2 : Hid (w10.cell? ⟨w9.heap.size, 2, none⟩ = some (.string ⟨#[]⟩)) := cell_later hb10 (by simp)
      clear f9_0_0 f9_0_1 f9_0_2 f9_1_0 f9_1_1 f9_1_2 f9_2_0 f9_2_1 f9_2_2 f9_3_0 f9_3_1 f9_3_2 f9_4_0 f9_4_1 f9_4_2 f9_5_0 f9_5_1 f9_5_2 f9_6_0 f9_6_1 f9_6_2 e6_0 e6_1 e6_2
      have hB10 := hide hb10
      clear hb10
      have e0_0 : ∀ o, (w10.alloc o).cell? ⟨w1.heap.size, 0, none⟩ = some (.int .i64 1) := fun o => cell_later (nx_alloc _ _) (unhide f10_0_0)
      have e0_1 : ∀ o, (w10.alloc o).cell? ⟨w1.heap.size, 1, none⟩ = some (.int .i64 (r1 - 15000)) := fun o => cell_later (nx_alloc _ _) (unhide f10_0_1)
      have e0_2 : ∀ o, (w10.alloc o).cell? ⟨w1.heap.size, 2, none⟩ = some (.string ⟨#[]⟩) := fun o => cell_later (nx_alloc _ _) (unhide f10_0_2)
      go_wp2_with fail
      refine (bin_part (r1 - 15000) 0 _ hX (inB_two (by omega) (by omega)) (.inl rfl)).mono ?_
      rintro e w11 ⟨rfl, hb11⟩
      have f11_0_0 : Hid (w11.cell? ⟨w1.heap.size, 0, none⟩ = some (.int .i64 1)) := cell_later hb11 (by first | exact cell_later (nx_alloc _ _) (unhide f10_0_0) | exact cell_later (nx_trans (nx_alloc _ _) (nx_alloc _ _)) (unhide f10_0_0) | exact (unhide f10_0_0))
      have f11_0_1 : Hid (w11.cell? ⟨w1.heap.size, 1, none⟩ = some (.int .i64 (r1 - 15000))) := cell_later hb11 (by first | exact cell_later (nx_alloc _ _) (unhide f10_0_1) | exact cell_later (nx_trans (nx_alloc _ _) (nx_alloc _ _)) (unhide f10_0_1) | exact (unhide f10_0_1))
      have f11_0_2 : Hid (w11.cell? ⟨w1.heap.size, 2, none⟩ = some (.string ⟨#[]⟩)) := cell_later hb11 (by first | exact cell_later (nx_alloc _ _) (unhide f10_0_2) | exact cell_later (nx_trans (nx_alloc _ _) (nx_alloc _ _)) (unhide f10_0_2) | exact (unhide f10_0_2))
      have f11_1_0 : Hid (w11.cell? ⟨w2.heap.size, 0, none⟩ = some (.int .i64 1)) := cell_later hb11 (by first | exact cell_later (nx_alloc _ _) (unhide f10_1_0) | exact cell_later (nx_trans (nx_alloc _ _) (nx_alloc _ _)) (unhide f10_1_0) | exact (unhide f10_1_0))
      have f11_1_1 : Hid (w11.cell? ⟨w2.heap.size, 1, none⟩ = some (.int .i64 (1 + r2))) := cell_later hb11 (by first | exact cell_later (nx_alloc _ _) (unhide f10_1_1) | exact cell_later (nx_trans (nx_alloc _ _) (nx_alloc _ _)) (unhide f10_1_1) | exact (unhide f10_1_1))
      have f11_1_2 : Hid (w11.cell? ⟨w2.heap.size, 2, none⟩ = some (.string ⟨#[]⟩)) := cell_later hb11 (by first | exact cell_later (nx_alloc _ _) (unhide f10_1_2) | exact cell_later (nx_trans (nx_alloc _ _) (nx_alloc _ _)) (unhide f10_1_2) | exact (unhide f10_1_2))
      have f11_2_0 : Hid (w11.cell? ⟨w4.heap.size, 0, none⟩ = some (.int .i64 1)) := cell_later hb11 (by first | exact cell_later (nx_alloc _ _) (unhide f10_2_0) | exact cell_later (nx_trans (nx_alloc _ _) (nx_alloc _ _)) (unhide f10_2_0) | exact (unhide f10_2_0))
      have f11_2_1 : Hid (w11.cell? ⟨w4.heap.size, 1, none⟩ = some (.int .i64 (P))) := cell_later hb11 (by first | exact cell_later (nx_alloc _ _) (unhide f10_2_1) | exact cell_later (nx_trans (nx_alloc _ _) (nx_alloc _ _)) (unhide f10_2_1) | exact (unhide f10_2_1))
      have f11_2_2 : Hid (w11.cell? ⟨w4.heap.size, 2, none⟩ = some (.string ⟨#[]⟩)) := cell_later hb11 (by first | exact cell_later (nx_alloc _ _) (unhide f10_2_2) | exact cell_later (nx_trans (nx_alloc _ _) (nx_alloc _ _)) (unhide f10_2_2) | exact (unhide f10_2_2))
      have f11_3_0 : Hid (w11.cell? ⟨w5.heap.size, 0, none⟩ = some (.int .i64 1)) := cell_later hb11 (by first | exact cell_later (nx_alloc _ _) (unhide f10_3_0) | exact cell_later (nx_trans (nx_alloc _ _) (nx_alloc _ _)) (unhide f10_3_0) | exact (unhide f10_3_0))
      have f11_3_1 : Hid (w11.cell? ⟨w5.heap.size, 1, none⟩ = some (.int .i64 (r1 - 15000))) := cell_later hb11 (by first | exact cell_later (nx_alloc _ _) (unhide f10_3_1) | exact cell_later (nx_trans (nx_alloc _ _) (nx_alloc _ _)) (unhide f10_3_1) | exact (unhide f10_3_1))
      have f11_3_2 : Hid (w11.cell? ⟨w5.heap.size, 2, none⟩ = some (.string ⟨#[]⟩)) := cell_later hb11 (by first | exact cell_later (nx_alloc _ _) (unhide f10_3_2) | exact cell_later (nx_trans (nx_alloc _ _) (nx_alloc _ _)) (unhide f10_3_2) | exact (unhide f10_3_2))
      have f11_4_0 : Hid (w11.cell? ⟨w6.heap.size, 0, none⟩ = some (.int .i64 1)) := cell_later hb11 (by first | exact cell_later (nx_alloc _ _) (unhide f10_4_0) | exact cell_later (nx_trans (nx_alloc _ _) (nx_alloc _ _)) (unhide f10_4_0) | exact (unhide f10_4_0))
      have f11_4_1 : Hid (w11.cell? ⟨w6.heap.size, 1, none⟩ = some (.int .i64 (R))) := cell_later hb11 (by first | exact cell_later (nx_alloc _ _) (unhide f10_4_1) | exact cell_later (nx_trans (nx_alloc _ _) (nx_alloc _ _)) (unhide f10_4_1) | exact (unhide f10_4_1))
      have f11_4_2 : Hid (w11.cell? ⟨w6.heap.size, 2, none⟩ = some (.string ⟨#[]⟩)) := cell_later hb11 (by first | exact cell_later (nx_alloc _ _) (unhide f10_4_2) | exact cell_later (nx_trans (nx_alloc _ _) (nx_alloc _ _)) (unhide f10_4_2) | exact (unhide f10_4_2))
      have f11_5_0 : Hid (w11.cell? ⟨w7.heap.size, 0, none⟩ = some (.int .i64 1)) := cell_later hb11 (by first | exact cell_later (nx_alloc _ _) (unhide f10_5_0) | exact cell_later (nx_trans (nx_alloc _ _) (nx_alloc _ _)) (unhide f10_5_0) | exact (unhide f10_5_0))
      have f11_5_1 : Hid (w11.cell? ⟨w7.heap.size, 1, none⟩ = some (.int .i64 (D))) := cell_later hb11 (by first | exact cell_later (nx_alloc _ _) (unhide f10_5_1) | exact cell_later (nx_trans (nx_alloc _ _) (nx_alloc _ _)) (unhide f10_5_1) | exact (unhide f10_5_1))
      have f11_5_2 : Hid (w11.cell? ⟨w7.heap.size, 2, none⟩ = some (.string ⟨#[]⟩)) := cell_later hb11 (by first | exact cell_later (nx_alloc _ _) (unhide f10_5_2) | exact cell_later (nx_trans (nx_alloc _ _) (nx_alloc _ _)) (unhide f10_5_2) | exact (unhide f10_5_2))
      have f11_6_0 : Hid (w11.cell? ⟨w8.heap.size, 0, none⟩ = some (.int .i64 1)) := cell_later hb11 (by first | exact cell_later (nx_alloc _ _) (unhide f10_6_0) | exact cell_later (nx_trans (nx_alloc _ _) (nx_alloc _ _)) (unhide f10_6_0) | exact (unhide f10_6_0))
      have f11_6_1 : Hid (w11.cell? ⟨w8.heap.size, 1, none⟩ = some (.int .i64 (M))) := cell_later hb11 (by first | exact cell_later (nx_alloc _ _) (unhide f10_6_1) | exact cell_later (nx_trans (nx_alloc _ _) (nx_alloc _ _)) (unhide f10_6_1) | exact (unhide f10_6_1))
      have f11_6_2 : Hid (w11.cell? ⟨w8.heap.size, 2, none⟩ = some (.string ⟨#[]⟩)) := cell_later hb11 (by first | exact cell_later (nx_alloc _ _) (unhide f10_6_2) | exact cell_later (nx_trans (nx_alloc _ _) (nx_alloc _ _)) (unhide f10_6_2) | exact (unhide f10_6_2))
      have f11_7_0 : Hid (w11.cell? ⟨w9.heap.size, 0, none⟩ = some (.int .i64 1)) := cell_later hb11 (by first | exact cell_later (nx_alloc _ _) (unhide f10_7_0) | exact cell_later (nx_trans (nx_alloc _ _) (nx_alloc _ _)) (unhide f10_7_0) | exact (unhide f10_7_0))
      have f11_7_1 : Hid (w11.cell? ⟨w9.heap.size, 1, none⟩ = some (.int .i64 (N))) := cell_later hb11 (by first | exact cell_later (nx_alloc _ _) (unhide f10_7_1) | exact cell_later (nx_trans (nx_alloc _ _) (nx_alloc _ _)) (unhide f10_7_1) | exact (unhide f10_7_1))
      have f11_7_2 : Hid (w11.cell? ⟨w9.heap.size, 2, none⟩ = some (.string ⟨#[]⟩)) := cell_later hb11 (by first | exact cell_later (nx_alloc _ _) (unhide f10_7_2) | exact cell_later (nx_trans (nx_alloc _ _) (nx_alloc _ _)) (unhide f10_7_2) | exact (unhide f10_7_2))
      have f11_8_0 : Hid (w11.cell? ⟨w10.heap.size, 0, none⟩ = some (.int .i64 2)) := cell_later hb11 (by simp)
      have f11_8_1 : Hid (w11.cell? ⟨w10.heap.size, 1, none⟩ = some (.int .i64 1)) := cell_later hb11 (by simp)
      have f11_8_2 : Hid (w11.cell? ⟨w10.heap.size, 2, none⟩ = some (.string ⟨#[]⟩)) := cell_later hb11 (by simp)
      clear f10_0_0 f10_0_1 f10_0_2 f10_1_0 f10_1_1 f10_1_2 f10_2_0 f10_2_1 f10_2_2 f10_3_0 f10_3_1 f10_3_2 f10_4_0 f10_4_1 f10_4_2 f10_5_0 f10_5_1 f10_5_2 f10_6_0 f10_6_1 f10_6_2 f10_7_0 f10_7_1 f10_7_2 e0_0 e0_1 e0_2
      have hB11 := hide hb11
      clear hb11
      have e0_0 : ∀ o, (w11.alloc o).cell? ⟨w1.heap.size, 0, none⟩ = some (.int .i64 1) := fun o => cell_later (nx_alloc _ _) (unhide f11_0_0)
      have e0_1 : ∀ o, (w11.alloc o).cell? ⟨w1.heap.size, 1, none⟩ = some (.int .i64 (r1 - 15000)) := fun o => cell_later (nx_alloc _ _) (unhide f11_0_1)
      have e0_2 : ∀ o, (w11.alloc o).cell? ⟨w1.heap.size, 2, none⟩ = some (.string ⟨#[]⟩) := fun o => cell_later (nx_alloc _ _) (unhide f11_0_2)
      have e1_0 : ∀ o, (w11.alloc o).cell? ⟨w2.heap.size, 0, none⟩ = some (.int .i64 1) := fun o => cell_later (nx_alloc _ _) (unhide f11_1_0)
      have e1_1 : ∀ o, (w11.alloc o).cell? ⟨w2.heap.size, 1, none⟩ = some (.int .i64 (1 + r2)) := fun o => cell_later (nx_alloc _ _) (unhide f11_1_1)
      have e1_2 : ∀ o, (w11.alloc o).cell? ⟨w2.heap.size, 2, none⟩ = some (.string ⟨#[]⟩) := fun o => cell_later (nx_alloc _ _) (unhide f11_1_2)
      have e3_0 : ∀ o, (w11.alloc o).cell? ⟨w5.heap.size, 0, none⟩ = some (.int .i64 1) := fun o => cell_later (nx_alloc _ _) (unhide f11_3_0)
      have e3_1 : ∀ o, (w11.alloc o).cell? ⟨w5.heap.size, 1, none⟩ = some (.int .i64 (r1 - 15000)) := fun o => cell_later (nx_alloc _ _) (unhide f11_3_1)
      have e3_2 : ∀ o, (w11.alloc o).cell? ⟨w5.heap.size, 2, none⟩ = some (.string ⟨#[]⟩) := fun o => cell_later (nx_alloc _ _) (unhide f11_3_2)
      have e4_0 : ∀ o, (w11.alloc o).cell? ⟨w6.heap.size, 0, none⟩ = some (.int .i64 1) := fun o => cell_later (nx_alloc _ _) (unhide f11_4_0)
      have e4_1 : ∀ o, (w11.alloc o).cell? ⟨w6.heap.size, 1, none⟩ = some (.int .i64 (R)) := fun o => cell_later (nx_alloc _ _) (unhide f11_4_1)
      have e4_2 : ∀ o, (w11.alloc o).cell? ⟨w6.heap.size, 2, none⟩ = some (.string ⟨#[]⟩) := fun o => cell_later (nx_alloc _ _) (unhide f11_4_2)
      have e5_0 : ∀ o, (w11.alloc o).cell? ⟨w7.heap.size, 0, none⟩ = some (.int .i64 1) := fun o => cell_later (nx_alloc _ _) (unhide f11_5_0)
      have e5_1 : ∀ o, (w11.alloc o).cell? ⟨w7.heap.size, 1, none⟩ = some (.int .i64 (D)) := fun o => cell_later (nx_alloc _ _) (unhide f11_5_1)
      have e5_2 : ∀ o, (w11.alloc o).cell? ⟨w7.heap.size, 2, none⟩ = some (.string ⟨#[]⟩) := fun o => cell_later (nx_alloc _ _) (unhide f11_5_2)
      have e8_0 : ∀ o, (w11.alloc o).cell? ⟨w10.heap.size, 0, none⟩ = some (.int .i64 2) := fun o => cell_later (nx_alloc _ _) (unhide f11_8_0)
      have e8_1 : ∀ o, (w11.alloc o).cell? ⟨w10.heap.size, 1, none⟩ = some (.int .i64 1) := fun o => cell_later (nx_alloc _ _) (unhide f11_8_1)
      have e8_2 : ∀ o, (w11.alloc o).cell? ⟨w10.heap.size, 2, none⟩ = some (.string ⟨#[]⟩) := fun o => cell_later (nx_alloc _ _) (unhide f11_8_2)
      go_wp2_with fail
      refine (bin_mul D (1 + r2) (r1 - 15000) _ hD hBd hX (unhide eB)).mono ?_
      rintro e w12 ⟨rfl, hb12⟩
      have g0 : ∀ o, (w12.alloc o).cell? ⟨w1.heap.size, 0, none⟩ = some (.int .i64 1) := fun o => cell_later (nx_trans hb12 (nx_alloc _ _)) (e0_0 _)
      have g1 : ∀ o, (w12.alloc o).cell? ⟨w1.heap.size, 1, none⟩ = some (.int .i64 (r1 - 15000)) := fun o => cell_later (nx_trans hb12 (nx_alloc _ _)) (e0_1 _)
      have g2 : ∀ o, (w12.alloc o).cell? ⟨w1.heap.size, 2, none⟩ = some (.string ⟨#[]⟩) := fun o => cell_later (nx_trans hb12 (nx_alloc _ _)) (e0_2 _)
      clear e0_0 e0_1 e0_2 e1_0 e1_1 e1_2 e3_0 e3_1 e3_2 e4_0 e4_1 e4_2 e5_0 e5_1 e5_2 e8_0 e8_1 e8_2
      have hB12 := hide hb12
      clear hb12
      go_wp2
      go_ret
      exact ⟨rfl, nx_al (nx_trans (nx_al (nx_trans (nx_al (nx_trans (nx_al (nx_trans (nx_al (nx_al (nx_trans (nx_al (nx_al (nx_trans (nx_al (nx_trans (nx_al (nx_trans (nx_al (nx_trans (unhide hW) (unhide hB4))) (unhide hB5))) (unhide hB6))) (unhide hB7)))) (unhide hB8)))) (unhide hB9))) (unhide hB10))) (unhide hB11))) (unhide hB12))⟩
    · have eR1 := hide hw
      have hz : (R != 0) = true := by rw [bne_iff_ne, ← hRe]; exact hw
      clear hw hRe
      have o0_0 := unhide f3_0_0
      have o0_1 := unhide f3_0_1
      have o0_2 := unhide f3_0_2
      have o1_0 := unhide f3_1_0
      have o1_1 := unhide f3_1_1
      have o1_2 := unhide f3_1_2
      go_wp2_with fail
      refine (bin_mul (r1 - 15000) (1 + r2) P _ hX hBd hP (unhide eP)).mono ?_
      rintro e w4 ⟨rfl, hb4⟩
      have f4_0_0 : Hid (w4.cell? ⟨w1.heap.size, 0, none⟩ = some (.int .i64 1)) := cell_later hb4 (by first | exact cell_later (nx_alloc _ _) (unhide f3_0_0) | exact cell_later (nx_trans (nx_alloc _ _) (nx_alloc _ _)) (unhide f3_0_0) | exact (unhide f3_0_0))
      have f4_0_1 : Hid (w4.cell? ⟨w1.heap.size, 1, none⟩ = some (.int .i64 (r1 - 15000))) := cell_later hb4 (by first | exact cell_later (nx_alloc _ _) (unhide f3_0_1) | exact cell_later (nx_trans (nx_alloc _ _) (nx_alloc _ _)) (unhide f3_0_1) | exact (unhide f3_0_1))
      have f4_0_2 : Hid (w4.cell? ⟨w1.heap.size, 2, none⟩ = some (.string ⟨#[]⟩)) := cell_later hb4 (by first | exact cell_later (nx_alloc _ _) (unhide f3_0_2) | exact cell_later (nx_trans (nx_alloc _ _) (nx_alloc _ _)) (unhide f3_0_2) | exact (unhide f3_0_2))
      have f4_1_0 : Hid (w4.cell? ⟨w2.heap.size, 0, none⟩ = some (.int .i64 1)) := cell_later hb4 (by first | exact cell_later (nx_alloc _ _) (unhide f3_1_0) | exact cell_later (nx_trans (nx_alloc _ _) (nx_alloc _ _)) (unhide f3_1_0) | exact (unhide f3_1_0))
      have f4_1_1 : Hid (w4.cell? ⟨w2.heap.size, 1, none⟩ = some (.int .i64 (1 + r2))) := cell_later hb4 (by first | exact cell_later (nx_alloc _ _) (unhide f3_1_1) | exact cell_later (nx_trans (nx_alloc _ _) (nx_alloc _ _)) (unhide f3_1_1) | exact (unhide f3_1_1))
      have f4_1_2 : Hid (w4.cell? ⟨w2.heap.size, 2, none⟩ = some (.string ⟨#[]⟩)) := cell_later hb4 (by first | exact cell_later (nx_alloc _ _) (unhide f3_1_2) | exact cell_later (nx_trans (nx_alloc _ _) (nx_alloc _ _)) (unhide f3_1_2) | exact (unhide f3_1_2))
      clear f3_0_0 f3_0_1 f3_0_2 f3_1_0 f3_1_1 f3_1_2
      have hB4 := hide hb4
      clear hb4
      clear o0_0 o0_1 o0_2 o1_0 o1_1 o1_2
      have e1_0 : ∀ o, (w4.alloc o).cell? ⟨w2.heap.size, 0, none⟩ = some (.int .i64 1) := fun o => cell_later (nx_alloc _ _) (unhide f4_1_0)
      have e1_1 : ∀ o, (w4.alloc o).cell? ⟨w2.heap.size, 1, none⟩ = some (.int .i64 (1 + r2)) := fun o => cell_later (nx_alloc _ _) (unhide f4_1_1)
      have e1_2 : ∀ o, (w4.alloc o).cell? ⟨w2.heap.size, 2, none⟩ = some (.string ⟨#[]⟩) := fun o => cell_later (nx_alloc _ _) (unhide f4_1_2)
      go_wp2_with fail
      refine (bin_quo P (1 + r2) (r1 - 15000) _ hP hBd hX hB0 (unhide eq1) (unhide eq2)).mono ?_
      rintro e w5 ⟨rfl, hb5⟩
      have f5_0_0 : Hid (w5.cell? ⟨w1.heap.size, 0, none⟩ = some (.int .i64 1)) := cell_later hb5 (by first | exact cell_later (nx_alloc _ _) (unhide f4_0_0) | exact cell_later (nx_trans (nx_alloc _ _) (nx_alloc _ _)) (unhide f4_0_0) | exact (unhide f4_0_0))
      have f5_0_1 : Hid (w5.cell? ⟨w1.heap.size, 1, none⟩ = some (.int .i64 (r1 - 15000))) := cell_later hb5 (by first | exact cell_later (nx_alloc _ _) (unhide f4_0_1) | exact cell_later (nx_trans (nx_alloc _ _) (nx_alloc _ _)) (unhide f4_0_1) | exact (unhide f4_0_1))
      have f5_0_2 : Hid (w5.cell? ⟨w1.heap.size, 2, none⟩ = some (.string ⟨#[]⟩)) := cell_later hb5 (by first | exact cell_later (nx_alloc _ _) (unhide f4_0_2) | exact cell_later (nx_trans (nx_alloc _ _) (nx_alloc _ _)) (unhide f4_0_2) | exact (unhide f4_0_2))
      have f5_1_0 : Hid (w5.cell? ⟨w2.heap.size, 0, none⟩ = some (.int .i64 1)) := cell_later hb5 (by first | exact cell_later (nx_alloc _ _) (unhide f4_1_0) | exact cell_later (nx_trans (nx_alloc _ _) (nx_alloc _ _)) (unhide f4_1_0) | exact (unhide f4_1_0))
      have f5_1_1 : Hid (w5.cell? ⟨w2.heap.size, 1, none⟩ = some (.int .i64 (1 + r2))) := cell_later hb5 (by first | exact cell_later (nx_alloc _ _) (unhide f4_1_1) | exact cell_later (nx_trans (nx_alloc _ _) (nx_alloc _ _)) (unhide f4_1_1) | exact (unhide f4_1_1))
      have f5_1_2 : Hid (w5.cell? ⟨w2.heap.size, 2, none⟩ = some (.string ⟨#[]⟩)) := cell_later hb5 (by first | exact cell_later (nx_alloc _ _) (unhide f4_1_2) | exact cell_later (nx_trans (nx_alloc _ _) (nx_alloc _ _)) (unhide f4_1_2) | exact (unhide f4_1_2))
      have f5_2_0 : Hid (w5.cell? ⟨w4.heap.size, 0, none⟩ = some (.int .i64 1)) := cell_later hb5 (by simp)
      have f5_2_1 : Hid (w5.cell? ⟨w4.heap.size, 1, none⟩ = some (.int .i64 (P))) := cell_later hb5 (by simp)
      have f5_2_2 : Hid (w5.cell? ⟨w4.heap.size, 2, none⟩ = some (.string ⟨#[]⟩)) := cell_later hb5 (by simp)
      clear f4_0_0 f4_0_1 f4_0_2 f4_1_0 f4_1_1 f4_1_2 e1_0 e1_1 e1_2
      have hB5 := hide hb5
      clear hb5
      have e0_0 : ∀ o, (w5.alloc o).cell? ⟨w1.heap.size, 0, none⟩ = some (.int .i64 1) := fun o => cell_later (nx_alloc _ _) (unhide f5_0_0)
      have e0_1 : ∀ o, (w5.alloc o).cell? ⟨w1.heap.size, 1, none⟩ = some (.int .i64 (r1 - 15000)) := fun o => cell_later (nx_alloc _ _) (unhide f5_0_1)
      have e0_2 : ∀ o, (w5.alloc o).cell? ⟨w1.heap.size, 2, none⟩ = some (.string ⟨#[]⟩) := fun o => cell_later (nx_alloc _ _) (unhide f5_0_2)
      have e1_0 : ∀ o, (w5.alloc o).cell? ⟨w2.heap.size, 0, none⟩ = some (.int .i64 1) := fun o => cell_later (nx_alloc _ _) (unhide f5_1_0)
      have e1_1 : ∀ o, (w5.alloc o).cell? ⟨w2.heap.size, 1, none⟩ = some (.int .i64 (1 + r2)) := fun o => cell_later (nx_alloc _ _) (unhide f5_1_1)
      have e1_2 : ∀ o, (w5.alloc o).cell? ⟨w2.heap.size, 2, none⟩ = some (.string ⟨#[]⟩) := fun o => cell_later (nx_alloc _ _) (unhide f5_1_2)
      go_wp2_with fail
      refine (bin_rem (r1 - 15000) (1 + r2) R _ hX hBd hR hB0 (unhide eR)).mono ?_
      rintro e w6 ⟨rfl, hb6⟩
      have f6_0_0 : Hid (w6.cell? ⟨w1.heap.size, 0, none⟩ = some (.int .i64 1)) := cell_later hb6 (by first | exact cell_later (nx_alloc _ _) (unhide f5_0_0) | exact cell_later (nx_trans (nx_alloc _ _) (nx_alloc _ _)) (unhide f5_0_0) | exact (unhide f5_0_0))
      have f6_0_1 : Hid (w6.cell? ⟨w1.heap.size, 1, none⟩ = some (.int .i64 (r1 - 15000))) := cell_later hb6 (by first | exact cell_later (nx_alloc _ _) (unhide f5_0_1) | exact cell_later (nx_trans (nx_alloc _ _) (nx_alloc _ _)) (unhide f5_0_1) | exact (unhide f5_0_1))
      have f6_0_2 : Hid (w6.cell? ⟨w1.heap.size, 2, none⟩ = some (.string ⟨#[]⟩)) := cell_later hb6 (by first | exact cell_later (nx_alloc _ _) (unhide f5_0_2) | exact cell_later (nx_trans (nx_alloc _ _) (nx_alloc _ _)) (unhide f5_0_2) | exact (unhide f5_0_2))
      have f6_1_0 : Hid (w6.cell? ⟨w2.heap.size, 0, none⟩ = some (.int .i64 1)) := cell_later hb6 (by first | exact cell_later (nx_alloc _ _) (unhide f5_1_0) | exact cell_later (nx_trans (nx_alloc _ _) (nx_alloc _ _)) (unhide f5_1_0) | exact (unhide f5_1_0))
      have f6_1_1 : Hid (w6.cell? ⟨w2.heap.size, 1, none⟩ = some (.int .i64 (1 + r2))) := cell_later hb6 (by first | exact cell_later (nx_alloc _ _) (unhide f5_1_1) | exact cell_later (nx_trans (nx_alloc _ _) (nx_alloc _ _)) (unhide f5_1_1) | exact (unhide f5_1_1))
      have f6_1_2 : Hid (w6.cell? ⟨w2.heap.size, 2, none⟩ = some (.string ⟨#[]⟩)) := cell_later hb6 (by first | exact cell_later (nx_alloc _ _) (unhide f5_1_2) | exact cell_later (nx_trans (nx_alloc _ _) (nx_alloc _ _)) (unhide f5_1_2) | exact (unhide f5_1_2))
      have f6_2_0 : Hid (w6.cell? ⟨w4.heap.size, 0, none⟩ = some (.int .i64 1)) := cell_later hb6 (by first | exact cell_later (nx_alloc _ _) (unhide f5_2_0) | exact cell_later (nx_trans (nx_alloc _ _) (nx_alloc _ _)) (unhide f5_2_0) | exact (unhide f5_2_0))
      have f6_2_1 : Hid (w6.cell? ⟨w4.heap.size, 1, none⟩ = some (.int .i64 (P))) := cell_later hb6 (by first | exact cell_later (nx_alloc _ _) (unhide f5_2_1) | exact cell_later (nx_trans (nx_alloc _ _) (nx_alloc _ _)) (unhide f5_2_1) | exact (unhide f5_2_1))
      have f6_2_2 : Hid (w6.cell? ⟨w4.heap.size, 2, none⟩ = some (.string ⟨#[]⟩)) := cell_later hb6 (by first | exact cell_later (nx_alloc _ _) (unhide f5_2_2) | exact cell_later (nx_trans (nx_alloc _ _) (nx_alloc _ _)) (unhide f5_2_2) | exact (unhide f5_2_2))
      have f6_3_0 : Hid (w6.cell? ⟨w5.heap.size, 0, none⟩ = some (.int .i64 1)) := cell_later hb6 (by simp)
      have f6_3_1 : Hid (w6.cell? ⟨w5.heap.size, 1, none⟩ = some (.int .i64 (r1 - 15000))) := cell_later hb6 (by simp)
      have f6_3_2 : Hid (w6.cell? ⟨w5.heap.size, 2, none⟩ = some (.string ⟨#[]⟩)) := cell_later hb6 (by simp)
      clear f5_0_0 f5_0_1 f5_0_2 f5_1_0 f5_1_1 f5_1_2 f5_2_0 f5_2_1 f5_2_2 e0_0 e0_1 e0_2 e1_0 e1_1 e1_2
      have hB6 := hide hb6
      clear hb6
      have e0_0 : ∀ o, (w6.alloc o).cell? ⟨w1.heap.size, 0, none⟩ = some (.int .i64 1) := fun o => cell_later (nx_alloc _ _) (unhide f6_0_0)
      have e0_1 : ∀ o, (w6.alloc o).cell? ⟨w1.heap.size, 1, none⟩ = some (.int .i64 (r1 - 15000)) := fun o => cell_later (nx_alloc _ _) (unhide f6_0_1)
      have e0_2 : ∀ o, (w6.alloc o).cell? ⟨w1.heap.size, 2, none⟩ = some (.string ⟨#[]⟩) := fun o => cell_later (nx_alloc _ _) (unhide f6_0_2)
      have e1_0 : ∀ o, (w6.alloc o).cell? ⟨w2.heap.size, 0, none⟩ = some (.int .i64 1) := fun o => cell_later (nx_alloc _ _) (unhide f6_1_0)
      have e1_1 : ∀ o, (w6.alloc o).cell? ⟨w2.heap.size, 1, none⟩ = some (.int .i64 (1 + r2)) := fun o => cell_later (nx_alloc _ _) (unhide f6_1_1)
      have e1_2 : ∀ o, (w6.alloc o).cell? ⟨w2.heap.size, 2, none⟩ = some (.string ⟨#[]⟩) := fun o => cell_later (nx_alloc _ _) (unhide f6_1_2)
      go_wp2_with fail
      refine (bin_part (r1 - 15000) (1 + r2) _ hX hBd (.inr (unhide eR1))).mono ?_
      rintro e w7 ⟨rfl, hb7⟩
      have f7_0_0 : Hid (w7.cell? ⟨w1.heap.size, 0, none⟩ = some (.int .i64 1)) := cell_later hb7 (by first | exact cell_later (nx_alloc _ _) (unhide f6_0_0) | exact cell_later (nx_trans (nx_alloc _ _) (nx_alloc _ _)) (unhide f6_0_0) | exact (unhide f6_0_0))
      have f7_0_1 : Hid (w7.cell? ⟨w1.heap.size, 1, none⟩ = some (.int .i64 (r1 - 15000))) := cell_later hb7 (by first | exact cell_later (nx_alloc _ _) (unhide f6_0_1) | exact cell_later (nx_trans (nx_alloc _ _) (nx_alloc _ _)) (unhide f6_0_1) | exact (unhide f6_0_1))
      have f7_0_2 : Hid (w7.cell? ⟨w1.heap.size, 2, none⟩ = some (.string ⟨#[]⟩)) := cell_later hb7 (by first | exact cell_later (nx_alloc _ _) (unhide f6_0_2) | exact cell_later (nx_trans (nx_alloc _ _) (nx_alloc _ _)) (unhide f6_0_2) | exact (unhide f6_0_2))
      have f7_1_0 : Hid (w7.cell? ⟨w2.heap.size, 0, none⟩ = some (.int .i64 1)) := cell_later hb7 (by first | exact cell_later (nx_alloc _ _) (unhide f6_1_0) | exact cell_later (nx_trans (nx_alloc _ _) (nx_alloc _ _)) (unhide f6_1_0) | exact (unhide f6_1_0))
      have f7_1_1 : Hid (w7.cell? ⟨w2.heap.size, 1, none⟩ = some (.int .i64 (1 + r2))) := cell_later hb7 (by first | exact cell_later (nx_alloc _ _) (unhide f6_1_1) | exact cell_later (nx_trans (nx_alloc _ _) (nx_alloc _ _)) (unhide f6_1_1) | exact (unhide f6_1_1))
      have f7_1_2 : Hid (w7.cell? ⟨w2.heap.size, 2, none⟩ = some (.string ⟨#[]⟩)) := cell_later hb7 (by first | exact cell_later (nx_alloc _ _) (unhide f6_1_2) | exact cell_later (nx_trans (nx_alloc _ _) (nx_alloc _ _)) (unhide f6_1_2) | exact (unhide f6_1_2))
      have f7_2_0 : Hid (w7.cell? ⟨w4.heap.size, 0, none⟩ = some (.int .i64 1)) := cell_later hb7 (by first | exact cell_later (nx_alloc _ _) (unhide f6_2_0) | exact cell_later (nx_trans (nx_alloc _ _) (nx_alloc _ _)) (unhide f6_2_0) | exact (unhide f6_2_0))
      have f7_2_1 : Hid (w7.cell? ⟨w4.heap.size, 1, none⟩ = some (.int .i64 (P))) := cell_later hb7 (by first | exact cell_later (nx_alloc _ _) (unhide f6_2_1) | exact cell_later (nx_trans (nx_alloc _ _) (nx_alloc _ _)) (unhide f6_2_1) | exact (unhide f6_2_1))
      have f7_2_2 : Hid (w7.cell? ⟨w4.heap.size, 2, none⟩ = some (.string ⟨#[]⟩)) := cell_later hb7 (by first | exact cell_later (nx_alloc _ _) (unhide f6_2_2) | exact cell_later (nx_trans (nx_alloc _ _) (nx_alloc _ _)) (unhide f6_2_2) | exact (unhide f6_2_2))
      have f7_3_0 : Hid (w7.cell? ⟨w5.heap.size, 0, none⟩ = some (.int .i64 1)) := cell_later hb7 (by first | exact cell_later (nx_alloc _ _) (unhide f6_3_0) | exact cell_later (nx_trans (nx_alloc _ _) (nx_alloc _ _)) (unhide f6_3_0) | exact (unhide f6_3_0))
      have f7_3_1 : Hid (w7.cell? ⟨w5.heap.size, 1, none⟩ = some (.int .i64 (r1 - 15000))) := cell_later hb7 (by first | exact cell_later (nx_alloc _ _) (unhide f6_3_1) | exact cell_later (nx_trans (nx_alloc _ _) (nx_alloc _ _)) (unhide f6_3_1) | exact (unhide f6_3_1))
      have f7_3_2 : Hid (w7.cell? ⟨w5.heap.size, 2, none⟩ = some (.string ⟨#[]⟩)) := cell_later hb7 (by first | exact cell_later (nx_alloc _ _) (unhide f6_3_2) | exact cell_later (nx_trans (nx_alloc _ _) (nx_alloc _ _)) (unhide f6_3_2) | exact (unhide f6_3_2))
      have f7_4_0 : Hid (w7.cell? ⟨w6.heap.size, 0, none⟩ = some (.int .i64 1)) := cell_later hb7 (by simp)
      have f7_4_1 : Hid (w7.cell? ⟨w6.heap.size, 1, none⟩ = some (.int .i64 (R))) := cell_later hb7 (by simp)
      have f7_4_2 : Hid (w7.cell? ⟨w6.heap.size, 2, none⟩ = some (.string ⟨#[]⟩)) := cell_later hb7 (by simp)
      clear f6_0_0 f6_0_1 f6_0_2 f6_1_0 f6_1_1 f6_1_2 f6_2_0 f6_2_1 f6_2_2 f6_3_0 f6_3_1 f6_3_2 e0_0 e0_1 e0_2 e1_0 e1_1 e1_2
      have hB7 := hide hb7
      clear hb7
      have e4_0 : ∀ o, (w7.alloc o).cell? ⟨w6.heap.size, 0, none⟩ = some (.int .i64 1) := fun o => cell_later (nx_alloc _ _) (unhide f7_4_0)
      have e4_1 : ∀ o, (w7.alloc o).cell? ⟨w6.heap.size, 1, none⟩ = some (.int .i64 (R)) := fun o => cell_later (nx_alloc _ _) (unhide f7_4_1)
      have e4_2 : ∀ o, (w7.alloc o).cell? ⟨w6.heap.size, 2, none⟩ = some (.string ⟨#[]⟩) := fun o => cell_later (nx_alloc _ _) (unhide f7_4_2)
      go_wp2_with fail
      refine (bi_abs R M _ _ _ hR hM (unhide eM) (args1 (by simp) (by simp) (by simp))).mono ?_
      rintro e w8 ⟨rfl, hb8⟩
      have f8_0_0 : Hid (w8.cell? ⟨w1.heap.size, 0, none⟩ = some (.int .i64 1)) := cell_later hb8 (by first | exact cell_later (nx_alloc _ _) (unhide f7_0_0) | exact cell_later (nx_trans (nx_alloc _ _) (nx_alloc _ _)) (unhide f7_0_0) | exact (unhide f7_0_0))
      have f8_0_1 : Hid (w8.cell? ⟨w1.heap.size, 1, none⟩ = some (.int .i64 (r1 - 15000))) := cell_later hb8 (by first | exact cell_later (nx_alloc _ _) (unhide f7_0_1) | exact cell_later (nx_trans (nx_alloc _ _) (nx_alloc _ _)) (unhide f7_0_1) | exact (unhide f7_0_1))
      have f8_0_2 : Hid (w8.cell? ⟨w1.heap.size, 2, none⟩ = some (.string ⟨#[]⟩)) := cell_later hb8 (by first | exact cell_later (nx_alloc _ _) (unhide f7_0_2) | exact cell_later (nx_trans (nx_alloc _ _) (nx_alloc _ _)) (unhide f7_0_2) | exact (unhide f7_0_2))
      have f8_1_0 : Hid (w8.cell? ⟨w2.heap.size, 0, none⟩ = some (.int .i64 1)) := cell_later hb8 (by first | exact cell_later (nx_alloc _ _) (unhide f7_1_0) | exact cell_later (nx_trans (nx_alloc _ _) (nx_alloc _ _)) (unhide f7_1_0) | exact (unhide f7_1_0))
      have f8_1_1 : Hid (w8.cell? ⟨w2.heap.size, 1, none⟩ = some (.int .i64 (1 + r2))) := cell_later hb8 (by first | exact cell_later (nx_alloc _ _) (unhide f7_1_1) | exact cell_later (nx_trans (nx_alloc _ _) (nx_alloc _ _)) (unhide f7_1_1) | exact (unhide f7_1_1))
      have f8_1_2 : Hid (w8.cell? ⟨w2.heap.size, 2, none⟩ = some (.string ⟨#[]⟩)) := cell_later hb8 (by first | exact cell_later (nx_alloc _ _) (unhide f7_1_2) | exact cell_later (nx_trans (nx_alloc _ _) (nx_alloc _ _)) (unhide f7_1_2) | exact (unhide f7_1_2))
      have f8_2_0 : Hid (w8.cell? ⟨w4.heap.size, 0, none⟩ = some (.int .i64 1)) := cell_later hb8 (by first | exact cell_later (nx_alloc _ _) (unhide f7_2_0) | exact cell_later (nx_trans (nx_alloc _ _) (nx_alloc _ _)) (unhide f7_2_0) | exact (unhide f7_2_0))
      have f8_2_1 : Hid (w8.cell? ⟨w4.heap.size, 1, none⟩ = some (.int .i64 (P))) := cell_later hb8 (by first | exact cell_later (nx_alloc _ _) (unhide f7_2_1) | exact cell_later (nx_trans (nx_alloc _ _) (nx_alloc _ _)) (unhide f7_2_1) | exact (unhide f7_2_1))
      have f8_2_2 : Hid (w8.cell? ⟨w4.heap.size, 2, none⟩ = some (.string ⟨#[]⟩)) := cell_later hb8 (by first | exact cell_later (nx_alloc _ _) (unhide f7_2_2) | exact cell_later (nx_trans (nx_alloc _ _) (nx_alloc _ _)) (unhide f7_2_2) | exact (unhide f7_2_2))
      have f8_3_0 : Hid (w8.cell? ⟨w5.heap.size, 0, none⟩ = some (.int .i64 1)) := cell_later hb8 (by first | exact cell_later (nx_alloc _ _) (unhide f7_3_0) | exact cell_later (nx_trans (nx_alloc _ _) (nx_alloc _ _)) (unhide f7_3_0) | exact (unhide f7_3_0))
      have f8_3_1 : Hid (w8.cell? ⟨w5.heap.size, 1, none⟩ = some (.int .i64 (r1 - 15000))) := cell_later hb8 (by first | exact cell_later (nx_alloc _ _) (unhide f7_3_1) | exact cell_later (nx_trans (nx_alloc _ _) (nx_alloc _ _)) (unhide f7_3_1) | exact (unhide f7_3_1))
      have f8_3_2 : Hid (w8.cell? ⟨w5.heap.size, 2, none⟩ = some (.string ⟨#[]⟩)) := cell_later hb8 (by first | exact cell_later (nx_alloc _ _) (unhide f7_3_2) | exact cell_later (nx_trans (nx_alloc _ _) (nx_alloc _ _)) (unhide f7_3_2) | exact (unhide f7_3_2))
      have f8_4_0 : Hid (w8.cell? ⟨w6.heap.size, 0, none⟩ = some (.int .i64 1)) := cell_later hb8 (by first | exact cell_later (nx_alloc _ _) (unhide f7_4_0) | exact cell_later (nx_trans (nx_alloc _ _) (nx_alloc _ _)) (unhide f7_4_0) | exact (unhide f7_4_0))
      have f8_4_1 : Hid (w8.cell? ⟨w6.heap.size, 1, none⟩ = some (.int .i64 (R))) := cell_later hb8 (by first | exact cell_later (nx_alloc _ _) (unhide f7_4_1) | exact cell_later (nx_trans (nx_alloc _ _) (nx_alloc _ _)) (unhide f7_4_1) | exact (unhide f7_4_1))
      have f8_4_2 : Hid (w8.cell? ⟨w6.heap.size, 2, none⟩ = some (.string ⟨#[]⟩)) := cell_later hb8 (by first | exact cell_later (nx_alloc _ _) (unhide f7_4_2) | exact cell_later (nx_trans (nx_alloc _ _) (nx_alloc _ _)) (unhide f7_4_2) | exact (unhide f7_4_2))
      have f8_5_0 : Hid (w8.cell? ⟨w7.heap.size, 0, none⟩ = some (.int .i64 0)) := cell_later hb8 (by simp)
      have f8_5_1 : Hid (w8.cell? ⟨w7.heap.size, 1, none⟩ = some (.int .i64 0)) := cell_later hb8 (by simp)
      have f8_5_2 : Hid (w8.cell? ⟨w7.heap.size, 2, none⟩ = some (.string ⟨#[]⟩)) := cell_later hb8 (by simp)
      clear f7_0_0 f7_0_1 f7_0_2 f7_1_0 f7_1_1 f7_1_2 f7_2_0 f7_2_1 f7_2_2 f7_3_0 f7_3_1 f7_3_2 f7_4_0 f7_4_1 f7_4_2 e4_0 e4_1 e4_2
      have hB8 := hide hb8
      clear hb8
      have e1_0 : ∀ o, (w8.alloc o).cell? ⟨w2.heap.size, 0, none⟩ = some (.int .i64 1) := fun o => cell_later (nx_alloc _ _) (unhide f8_1_0)
      have e1_1 : ∀ o, (w8.alloc o).cell? ⟨w2.heap.size, 1, none⟩ = some (.int .i64 (1 + r2)) := fun o => cell_later (nx_alloc _ _) (unhide f8_1_1)
      have e1_2 : ∀ o, (w8.alloc o).cell? ⟨w2.heap.size, 2, none⟩ = some (.string ⟨#[]⟩) := fun o => cell_later (nx_alloc _ _) (unhide f8_1_2)
      go_wp2_with fail
      refine (bi_abs (1 + r2) N _ _ _ hBd hN (unhide eN) (args1 (by simp) (by simp) (by simp))).mono ?_
      rintro e w9 ⟨rfl, hb9⟩
      have f9_0_0 : Hid (w9.cell? ⟨w1.heap.size, 0, none⟩ = some (.int .i64 1)) := cell_later hb9 (by first | exact cell_later (nx_alloc _ _) (unhide f8_0_0) | exact cell_later (nx_trans (nx_alloc _ _) (nx_alloc _ _)) (unhide f8_0_0) | exact (unhide f8_0_0))
      have f9_0_1 : Hid (w9.cell? ⟨w1.heap.size, 1, none⟩ = some (.int .i64 (r1 - 15000))) := cell_later hb9 (by first | exact cell_later (nx_alloc _ _) (unhide f8_0_1) | exact cell_later (nx_trans (nx_alloc _ _) (nx_alloc _ _)) (unhide f8_0_1) | exact (unhide f8_0_1))
      have f9_0_2 : Hid (w9.cell? ⟨w1.heap.size, 2, none⟩ = some (.string ⟨#[]⟩)) := cell_later hb9 (by first | exact cell_later (nx_alloc _ _) (unhide f8_0_2) | exact cell_later (nx_trans (nx_alloc _ _) (nx_alloc _ _)) (unhide f8_0_2) | exact (unhide f8_0_2))
      have f9_1_0 : Hid (w9.cell? ⟨w2.heap.size, 0, none⟩ = some (.int .i64 1)) := cell_later hb9 (by first | exact cell_later (nx_alloc _ _) (unhide f8_1_0) | exact cell_later (nx_trans (nx_alloc _ _) (nx_alloc _ _)) (unhide f8_1_0) | exact (unhide f8_1_0))
      have f9_1_1 : Hid (w9.cell? ⟨w2.heap.size, 1, none⟩ = some (.int .i64 (1 + r2))) := cell_later hb9 (by first | exact cell_later (nx_alloc _ _) (unhide f8_1_1) | exact cell_later (nx_trans (nx_alloc _ _) (nx_alloc _ _)) (unhide f8_1_1) | exact (unhide f8_1_1))
      have f9_1_2 : Hid (w9.cell? ⟨w2.heap.size, 2, none⟩ = some (.string ⟨#[]⟩)) := cell_later hb9 (by first | exact cell_later (nx_alloc _ _) (unhide f8_1_2) | exact cell_later (nx_trans (nx_alloc _ _) (nx_alloc _ _)) (unhide f8_1_2) | exact (unhide f8_1_2))
      have f9_2_0 : Hid (w9.cell? ⟨w4.heap.size, 0, none⟩ = some (.int .i64 1)) := cell_later hb9 (by first | exact cell_later (nx_alloc _ _) (unhide f8_2_0) | exact cell_later (nx_trans (nx_alloc _ _) (nx_alloc _ _)) (unhide f8_2_0) | exact (unhide f8_2_0))
      have f9_2_1 : Hid (w9.cell? ⟨w4.heap.size, 1, none⟩ = some (.int .i64 (P))) := cell_later hb9 (by first | exact cell_later (nx_alloc _ _) (unhide f8_2_1) | exact cell_later (nx_trans (nx_alloc _ _) (nx_alloc _ _)) (unhide f8_2_1) | exact (unhide f8_2_1))
      have f9_2_2 : Hid (w9.cell? ⟨w4.heap.size, 2, none⟩ = some (.string ⟨#[]⟩)) := cell_later hb9 (by first | exact cell_later (nx_alloc _ _) (unhide f8_2_2) | exact cell_later (nx_trans (nx_alloc _ _) (nx_alloc _ _)) (unhide f8_2_2) | exact (unhide f8_2_2))
      have f9_3_0 : Hid (w9.cell? ⟨w5.heap.size, 0, none⟩ = some (.int .i64 1)) := cell_later hb9 (by first | exact cell_later (nx_alloc _ _) (unhide f8_3_0) | exact cell_later (nx_trans (nx_alloc _ _) (nx_alloc _ _)) (unhide f8_3_0) | exact (unhide f8_3_0))
      have f9_3_1 : Hid (w9.cell? ⟨w5.heap.size, 1, none⟩ = some (.int .i64 (r1 - 15000))) := cell_later hb9 (by first | exact cell_later (nx_alloc _ _) (unhide f8_3_1) | exact cell_later (nx_trans (nx_alloc _ _) (nx_alloc _ _)) (unhide f8_3_1) | exact (unhide f8_3_1))
      have f9_3_2 : Hid (w9.cell? ⟨w5.heap.size, 2, none⟩ = some (.string ⟨#[]⟩)) := cell_later hb9 (by first | exact cell_later (nx_alloc _ _) (unhide f8_3_2) | exact cell_later (nx_trans (nx_alloc _ _) (nx_alloc _ _)) (unhide f8_3_2) | exact (unhide f8_3_2))
      have f9_4_0 : Hid (w9.cell? ⟨w6.heap.size, 0, none⟩ = some (.int .i64 1)) := cell_later hb9 (by first | exact cell_later (nx_alloc _ _) (unhide f8_4_0) | exact cell_later (nx_trans (nx_alloc _ _) (nx_alloc _ _)) (unhide f8_4_0) | exact (unhide f8_4_0))
      have f9_4_1 : Hid (w9.cell? ⟨w6.heap.size, 1, none⟩ = some (.int .i64 (R))) := cell_later hb9 (by first | exact cell_later (nx_alloc _ _) (unhide f8_4_1) | exact cell_later (nx_trans (nx_alloc _ _) (nx_alloc _ _)) (unhide f8_4_1) | exact (unhide f8_4_1))
      have f9_4_2 : Hid (w9.cell? ⟨w6.heap.size, 2, none⟩ = some (.string ⟨#[]⟩)) := cell_later hb9 (by first | exact cell_later (nx_alloc _ _) (unhide f8_4_2) | exact cell_later (nx_trans (nx_alloc _ _) (nx_alloc _ _)) (unhide f8_4_2) | exact (unhide f8_4_2))
      have f9_5_0 : Hid (w9.cell? ⟨w7.heap.size, 0, none⟩ = some (.int .i64 0)) := cell_later hb9 (by first | exact cell_later (nx_alloc _ _) (unhide f8_5_0) | exact cell_later (nx_trans (nx_alloc _ _) (nx_alloc _ _)) (unhide f8_5_0) | exact (unhide f8_5_0))
      have f9_5_1 : Hid (w9.cell? ⟨w7.heap.size, 1, none⟩ = some (.int .i64 0)) := cell_later hb9 (by first | exact cell_later (nx_alloc _ _) (unhide f8_5_1) | exact cell_later (nx_trans (nx_alloc _ _) (nx_alloc _ _)) (unhide f8_5_1) | exact (unhide f8_5_1))
      have f9_5_2 : Hid (w9.cell? ⟨w7.heap.size, 2, none⟩ = some (.string ⟨#[]⟩)) := cell_later hb9 (by first | exact cell_later (nx_alloc _ _) (unhide f8_5_2) | exact cell_later (nx_trans (nx_alloc _ _) (nx_alloc _ _)) (unhide f8_5_2) | exact (unhide f8_5_2))
      have f9_6_0 : Hid (w9.cell? ⟨w8.heap.size, 0, none⟩ = some (.int .i64 1)) := cell_later hb9 (by simp)
      have f9_6_1 : Hid (w9.cell? ⟨w8.heap.size, 1, none⟩ = some (.int .i64 (M))) := cell_later hb9 (by simp)
      have f9_6_2 : Hid (w9.cell? ⟨w8.heap.size, 2, none⟩ = some (.string ⟨#[]⟩)) := cell_later hb9 (by simp)
      clear f8_0_0 f8_0_1 f8_0_2 f8_1_0 f8_1_1 f8_1_2 f8_2_0 f8_2_1 f8_2_2 f8_3_0 f8_3_1 f8_3_2 f8_4_0 f8_4_1 f8_4_2 f8_5_0 f8_5_1 f8_5_2 e1_0 e1_1 e1_2
      have hB9 := hide hb9
      clear hb9
      have e6_0 : ∀ o, (w9.alloc o).cell? ⟨w8.heap.size, 0, none⟩ = some (.int .i64 1) := fun o => cell_later (nx_alloc _ _) (unhide f9_6_0)
      have e6_1 : ∀ o, (w9.alloc o).cell? ⟨w8.heap.size, 1, none⟩ = some (.int .i64 (M)) := fun o => cell_later (nx_alloc _ _) (unhide f9_6_1)
      have e6_2 : ∀ o, (w9.alloc o).cell? ⟨w8.heap.size, 2, none⟩ = some (.string ⟨#[]⟩) := fun o => cell_later (nx_alloc _ _) (unhide f9_6_2)
      go_wp2_with fail
      refine (bin_lt M N true 1 _ hM hN (by simpa using unhide hMN) rfl).mono ?_
      rintro e w10 ⟨rfl, hb10⟩
      have f10_0_0 : Hid (w10.cell? ⟨w1.heap.size, 0, none⟩ = some (.int .i64 1)) := cell_later hb10 (by first | exact cell_later (nx_alloc _ _) (unhide f9_0_0) | exact cell_later (nx_trans (nx_alloc _ _) (nx_alloc _ _)) (unhide f9_0_0) | exact (unhide f9_0_0))
      have f10_0_1 : Hid (w10.cell? ⟨w1.heap.size, 1, none⟩ = some (.int .i64 (r1 - 15000))) := cell_later hb10 (by first | exact cell_later (nx_alloc _ _) (unhide f9_0_1) | exact cell_later (nx_trans (nx_alloc _ _) (nx_alloc _ _)) (unhide f9_0_1) | exact (unhide f9_0_1))
      have f10_0_2 : Hid (w10.cell? ⟨w1.heap.size, 2, none⟩ = some (.string ⟨#[]⟩)) := cell_later hb10 (by first | exact cell_later (nx_alloc _ _) (unhide f9_0_2) | exact cell_later (nx_trans (nx_alloc _ _) (nx_alloc _ _)) (unhide f9_0_2) | exact (unhide f9_0_2))
      have f10_1_0 : Hid (w10.cell? ⟨w2.heap.size, 0, none⟩ = some (.int .i64 1)) := cell_later hb10 (by first | exact cell_later (nx_alloc _ _) (unhide f9_1_0) | exact cell_later (nx_trans (nx_alloc _ _) (nx_alloc _ _)) (unhide f9_1_0) | exact (unhide f9_1_0))
      have f10_1_1 : Hid (w10.cell? ⟨w2.heap.size, 1, none⟩ = some (.int .i64 (1 + r2))) := cell_later hb10 (by first | exact cell_later (nx_alloc _ _) (unhide f9_1_1) | exact cell_later (nx_trans (nx_alloc _ _) (nx_alloc _ _)) (unhide f9_1_1) | exact (unhide f9_1_1))
      have f10_1_2 : Hid (w10.cell? ⟨w2.heap.size, 2, none⟩ = some (.string ⟨#[]⟩)) := cell_later hb10 (by first | exact cell_later (nx_alloc _ _) (unhide f9_1_2) | exact cell_later (nx_trans (nx_alloc _ _) (nx_alloc _ _)) (unhide f9_1_2) | exact (unhide f9_1_2))
      have f10_2_0 : Hid (w10.cell? ⟨w4.heap.size, 0, none⟩ = some (.int .i64 1)) := cell_later hb10 (by first | exact cell_later (nx_alloc _ _) (unhide f9_2_0) | exact cell_later (nx_trans (nx_alloc _ _) (nx_alloc _ _)) (unhide f9_2_0) | exact (unhide f9_2_0))
      have f10_2_1 : Hid (w10.cell? ⟨w4.heap.size, 1, none⟩ = some (.int .i64 (P))) := cell_later hb10 (by first | exact cell_later (nx_alloc _ _) (unhide f9_2_1) | exact cell_later (nx_trans (nx_alloc _ _) (nx_alloc _ _)) (unhide f9_2_1) | exact (unhide f9_2_1))
      have f10_2_2 : Hid (w10.cell? ⟨w4.heap.size, 2, none⟩ = some (.string ⟨#[]⟩)) := cell_later hb10 (by first | exact cell_later (nx_alloc _ _) (unhide f9_2_2) | exact cell_later (nx_trans (nx_alloc _ _) (nx_alloc _ _)) (unhide f9_2_2) | exact (unhide f9_2_2))
      have f10_3_0 : Hid (w10.cell? ⟨w5.heap.size, 0, none⟩ = some (.int .i64 1)) := cell_later hb10 (by first | exact cell_later (nx_alloc _ _) (unhide f9_3_0) | exact cell_later (nx_trans (nx_alloc _ _) (nx_alloc _ _)) (unhide f9_3_0) | exact (unhide f9_3_0))
      have f10_3_1 : Hid (w10.cell? ⟨w5.heap.size, 1, none⟩ = some (.int .i64 (r1 - 15000))) := cell_later hb10 (by first | exact cell_later (nx_alloc _ _) (unhide f9_3_1) | exact cell_later (nx_trans (nx_alloc _ _) (nx_alloc _ _)) (unhide f9_3_1) | exact (unhide f9_3_1))
      have f10_3_2 : Hid (w10.cell? ⟨w5.heap.size, 2, none⟩ = some (.string ⟨#[]⟩)) := cell_later hb10 (by first | exact cell_later (nx_alloc _ _) (unhide f9_3_2) | exact cell_later (nx_trans (nx_alloc _ _) (nx_alloc _ _)) (unhide f9_3_2) | exact (unhide f9_3_2))
      have f10_4_0 : Hid (w10.cell? ⟨w6.heap.size, 0, none⟩ = some (.int .i64 1)) := cell_later hb10 (by first | exact cell_later (nx_alloc _ _) (unhide f9_4_0) | exact cell_later (nx_trans (nx_alloc _ _) (nx_alloc _ _)) (unhide f9_4_0) | exact (unhide f9_4_0))
      have f10_4_1 : Hid (w10.cell? ⟨w6.heap.size, 1, none⟩ = some (.int .i64 (R))) := cell_later hb10 (by first | exact cell_later (nx_alloc _ _) (unhide f9_4_1) | exact cell_later (nx_trans (nx_alloc _ _) (nx_alloc _ _)) (unhide f9_4_1) | exact (unhide f9_4_1))
      have f10_4_2 : Hid (w10.cell? ⟨w6.heap.size, 2, none⟩ = some (.string ⟨#[]⟩)) := cell_later hb10 (by first | exact cell_later (nx_alloc _ _) (unhide f9_4_2) | exact cell_later (nx_trans (nx_alloc _ _) (nx_alloc _ _)) (unhide f9_4_2) | exact (unhide f9_4_2))
      have f10_5_0 : Hid (w10.cell? ⟨w7.heap.size, 0, none⟩ = some (.int .i64 0)) := cell_later hb10 (by first | exact cell_later (nx_alloc _ _) (unhide f9_5_0) | exact cell_later (nx_trans (nx_alloc _ _) (nx_alloc _ _)) (unhide f9_5_0) | exact (unhide f9_5_0))
      have f10_5_1 : Hid (w10.cell? ⟨w7.heap.size, 1, none⟩ = some (.int .i64 0)) := cell_later hb10 (by first | exact cell_later (nx_alloc _ _) (unhide f9_5_1) | exact cell_later (nx_trans (nx_alloc _ _) (nx_alloc _ _)) (unhide f9_5_1) | exact (unhide f9_5_1))
      have f10_5_2 : Hid (w10.cell? ⟨w7.heap.size, 2, none⟩ = some (.string ⟨#[]⟩)) := cell_later hb10 (by first | exact cell_later (nx_alloc _ _) (unhide f9_5_2) | exact cell_later (nx_trans (nx_alloc _ _) (nx_alloc _ _)) (unhide f9_5_2) | exact (unhide f9_5_2))
      have f10_6_0 : Hid (w10.cell? ⟨w8.heap.size, 0, none⟩ = some (.int .i64 1)) := cell_later hb10 (by first | exact cell_later (nx_alloc _ _) (unhide f9_6_0) | exact cell_later (nx_trans (nx_alloc _ _) (nx_alloc _ _)) (unhide f9_6_0) | exact (unhide f9_6_0))
      have f10_6_1 : Hid (w10.cell? ⟨w8.heap.size, 1, none⟩ = some (.int .i64 (M))) := cell_later hb10 (by first | exact cell_later (nx_alloc _ _) (unhide f9_6_1) | exact cell_later (nx_trans (nx_alloc _ _) (nx_alloc _ _)) (unhide f9_6_1) | exact (unhide f9_6_1))
      have f10_6_2 : Hid (w10.cell? ⟨w8.heap.size, 2, none⟩ = some (.string ⟨#[]⟩)) := cell_later hb10 (by first | exact cell_later (nx_alloc _ _) (unhide f9_6_2) | exact cell_later (nx_trans (nx_alloc _ _) (nx_alloc _ _)) (unhide f9_6_2) | exact (unhide f9_6_2))
      have f10_7_0 : Hid (w10.cell? ⟨w9.heap.size, 0, none⟩ = some (.int .i64 1)) := cell_later hb10 (by simp)
      have f10_7_1 : Hid (w10.cell? ⟨w9.heap.size, 1, none⟩ = some (.int .i64 (N))) := cell_later hb10 (by simp)
      have f10_7_2 : Hid (w10.cell? ⟨w9.heap.size, 2, none⟩ = some (.string ⟨#[]⟩)) := cell_later hb10 (by simp)
      clear f9_0_0 f9_0_1 f9_0_2 f9_1_0 f9_1_1 f9_1_2 f9_2_0 f9_2_1 f9_2_2 f9_3_0 f9_3_1 f9_3_2 f9_4_0 f9_4_1 f9_4_2 f9_5_0 f9_5_1 f9_5_2 f9_6_0 f9_6_1 f9_6_2 e6_0 e6_1 e6_2
      have hB10 := hide hb10
      clear hb10
      have e0_0 : ∀ o, (w10.alloc o).cell? ⟨w1.heap.size, 0, none⟩ = some (.int .i64 1) := fun o => cell_later (nx_alloc _ _) (unhide f10_0_0)
      have e0_1 : ∀ o, (w10.alloc o).cell? ⟨w1.heap.size, 1, none⟩ = some (.int .i64 (r1 - 15000)) := fun o => cell_later (nx_alloc _ _) (unhide f10_0_1)
      have e0_2 : ∀ o, (w10.alloc o).cell? ⟨w1.heap.size, 2, none⟩ = some (.string ⟨#[]⟩) := fun o => cell_later (nx_alloc _ _) (unhide f10_0_2)
      go_wp2_with fail
      refine (bin_part (r1 - 15000) 0 _ hX (inB_two (by omega) (by omega)) (.inl rfl)).mono ?_
      rintro e w11 ⟨rfl, hb11⟩
      have f11_0_0 : Hid (w11.cell? ⟨w1.heap.size, 0, none⟩ = some (.int .i64 1)) := cell_later hb11 (by first | exact cell_later (nx_alloc _ _) (unhide f10_0_0) | exact cell_later (nx_trans (nx_alloc _ _) (nx_alloc _ _)) (unhide f10_0_0) | exact (unhide f10_0_0))
      have f11_0_1 : Hid (w11.cell? ⟨w1.heap.size, 1, none⟩ = some (.int .i64 (r1 - 15000))) := cell_later hb11 (by first | exact cell_later (nx_alloc _ _) (unhide f10_0_1) | exact cell_later (nx_trans (nx_alloc _ _) (nx_alloc _ _)) (unhide f10_0_1) | exact (unhide f10_0_1))
      have f11_0_2 : Hid (w11.cell? ⟨w1.heap.size, 2, none⟩ = some (.string ⟨#[]⟩)) := cell_later hb11 (by first | exact cell_later (nx_alloc _ _) (unhide f10_0_2) | exact cell_later (nx_trans (nx_alloc _ _) (nx_alloc _ _)) (unhide f10_0_2) | exact (unhide f10_0_2))
      have f11_1_0 : Hid (w11.cell? ⟨w2.heap.size, 0, none⟩ = some (.int .i64 1)) := cell_later hb11 (by first | exact cell_later (nx_alloc _ _) (unhide f10_1_0) | exact cell_later (nx_trans (nx_alloc _ _) (nx_alloc _ _)) (unhide f10_1_0) | exact (unhide f10_1_0))
      have f11_1_1 : Hid (w11.cell? ⟨w2.heap.size, 1, none⟩ = some (.int .i64 (1 + r2))) := cell_later hb11 (by first | exact cell_later (nx_alloc _ _) (unhide f10_1_1) | exact cell_later (nx_trans (nx_alloc _ _) (nx_alloc _ _)) (unhide f10_1_1) | exact (unhide f10_1_1))
      have f11_1_2 : Hid (w11.cell? ⟨w2.heap.size, 2, none⟩ = some (.string ⟨#[]⟩)) := cell_later hb11 (by first | exact cell_later (nx_alloc _ _) (unhide f10_1_2) | exact cell_later (nx_trans (nx_alloc _ _) (nx_alloc _ _)) (unhide f10_1_2) | exact (unhide f10_1_2))
      have f11_2_0 : Hid (w11.cell? ⟨w4.heap.size, 0, none⟩ = some (.int .i64 1)) := cell_later hb11 (by first | exact cell_later (nx_alloc _ _) (unhide f10_2_0) | exact cell_later (nx_trans (nx_alloc _ _) (nx_alloc _ _)) (unhide f10_2_0) | exact (unhide f10_2_0))
      have f11_2_1 : Hid (w11.cell? ⟨w4.heap.size, 1, none⟩ = some (.int .i64 (P))) := cell_later hb11 (by first | exact cell_later (nx_alloc _ _) (unhide f10_2_1) | exact cell_later (nx_trans (nx_alloc _ _) (nx_alloc _ _)) (unhide f10_2_1) | exact (unhide f10_2_1))
      have f11_2_2 : Hid (w11.cell? ⟨w4.heap.size, 2, none⟩ = some (.string ⟨#[]⟩)) := cell_later hb11 (by first | exact cell_later (nx_alloc _ _) (unhide f10_2_2) | exact cell_later (nx_trans (nx_alloc _ _) (nx_alloc _ _)) (unhide f10_2_2) | exact (unhide f10_2_2))
      have f11_3_0 : Hid (w11.cell? ⟨w5.heap.size, 0, none⟩ = some (.int .i64 1)) := cell_later hb11 (by first | exact cell_later (nx_alloc _ _) (unhide f10_3_0) | exact cell_later (nx_trans (nx_alloc _ _) (nx_alloc _ _)) (unhide f10_3_0) | exact (unhide f10_3_0))
      have f11_3_1 : Hid (w11.cell? ⟨w5.heap.size, 1, none⟩ = some (.int .i64 (r1 - 15000))) := cell_later hb11 (by first | exact cell_later (nx_alloc _ _) (unhide f10_3_1) | exact cell_later (nx_trans (nx_alloc _ _) (nx_alloc _ _)) (unhide f10_3_1) | exact (unhide f10_3_1))
      have f11_3_2 : Hid (w11.cell? ⟨w5.heap.size, 2, none⟩ = some (.string ⟨#[]⟩)) := cell_later hb11 (by first | exact cell_later (nx_alloc _ _) (unhide f10_3_2) | exact cell_later (nx_trans (nx_alloc _ _) (nx_alloc _ _)) (unhide f10_3_2) | exact (unhide f10_3_2))
      have f11_4_0 : Hid (w11.cell? ⟨w6.heap.size, 0, none⟩ = some (.int .i64 1)) := cell_later hb11 (by first | exact cell_later (nx_alloc _ _) (unhide f10_4_0) | exact cell_later (nx_trans (nx_alloc _ _) (nx_alloc _ _)) (unhide f10_4_0) | exact (unhide f10_4_0))
      have f11_4_1 : Hid (w11.cell? ⟨w6.heap.size, 1, none⟩ = some (.int .i64 (R))) := cell_later hb11 (by first | exact cell_later (nx_alloc _ _) (unhide f10_4_1) | exact cell_later (nx_trans (nx_alloc _ _) (nx_alloc _ _)) (unhide f10_4_1) | exact (unhide f10_4_1))
      have f11_4_2 : Hid (w11.cell? ⟨w6.heap.size, 2, none⟩ = some (.string ⟨#[]⟩)) := cell_later hb11 (by first | exact cell_later (nx_alloc _ _) (unhide f10_4_2) | exact cell_later (nx_trans (nx_alloc _ _) (nx_alloc _ _)) (unhide f10_4_2) | exact (unhide f10_4_2))
      have f11_5_0 : Hid (w11.cell? ⟨w7.heap.size, 0, none⟩ = some (.int .i64 0)) := cell_later hb11 (by first | exact cell_later (nx_alloc _ _) (unhide f10_5_0) | exact cell_later (nx_trans (nx_alloc _ _) (nx_alloc _ _)) (unhide f10_5_0) | exact (unhide f10_5_0))
      have f11_5_1 : Hid (w11.cell? ⟨w7.heap.size, 1, none⟩ = some (.int .i64 0)) := cell_later hb11 (by first | exact cell_later (nx_alloc _ _) (unhide f10_5_1) | exact cell_later (nx_trans (nx_alloc _ _) (nx_alloc _ _)) (unhide f10_5_1) | exact (unhide f10_5_1))
      have f11_5_2 : Hid (w11.cell? ⟨w7.heap.size, 2, none⟩ = some (.string ⟨#[]⟩)) := cell_later hb11 (by first | exact cell_later (nx_alloc _ _) (unhide f10_5_2) | exact cell_later (nx_trans (nx_alloc _ _) (nx_alloc _ _)) (unhide f10_5_2) | exact (unhide f10_5_2))
      have f11_6_0 : Hid (w11.cell? ⟨w8.heap.size, 0, none⟩ = some (.int .i64 1)) := cell_later hb11 (by first | exact cell_later (nx_alloc _ _) (unhide f10_6_0) | exact cell_later (nx_trans (nx_alloc _ _) (nx_alloc _ _)) (unhide f10_6_0) | exact (unhide f10_6_0))
      have f11_6_1 : Hid (w11.cell? ⟨w8.heap.size, 1, none⟩ = some (.int .i64 (M))) := cell_later hb11 (by first | exact cell_later (nx_alloc _ _) (unhide f10_6_1) | exact cell_later (nx_trans (nx_alloc _ _) (nx_alloc _ _)) (unhide f10_6_1) | exact (unhide f10_6_1))
      have f11_6_2 : Hid (w11.cell? ⟨w8.heap.size, 2, none⟩ = some (.string ⟨#[]⟩)) := cell_later hb11 (by first | exact cell_later (nx_alloc _ _) (unhide f10_6_2) | exact cell_later (nx_trans (nx_alloc _ _) (nx_alloc _ _)) (unhide f10_6_2) | exact (unhide f10_6_2))
      have f11_7_0 : Hid (w11.cell? ⟨w9.heap.size, 0, none⟩ = some (.int .i64 1)) := cell_later hb11 (by first | exact cell_later (nx_alloc _ _) (unhide f10_7_0) | exact cell_later (nx_trans (nx_alloc _ _) (nx_alloc _ _)) (unhide f10_7_0) | exact (unhide f10_7_0))
      have f11_7_1 : Hid (w11.cell? ⟨w9.heap.size, 1, none⟩ = some (.int .i64 (N))) := cell_later hb11 (by first | exact cell_later (nx_alloc _ _) (unhide f10_7_1) | exact cell_later (nx_trans (nx_alloc _ _) (nx_alloc _ _)) (unhide f10_7_1) | exact (unhide f10_7_1))
      have f11_7_2 : Hid (w11.cell? ⟨w9.heap.size, 2, none⟩ = some (.string ⟨#[]⟩)) := cell_later hb11 (by first | exact cell_later (nx_alloc _ _) (unhide f10_7_2) | exact cell_later (nx_trans (nx_alloc _ _) (nx_alloc _ _)) (unhide f10_7_2) | exact (unhide f10_7_2))
      have f11_8_0 : Hid (w11.cell? ⟨w10.heap.size, 0, none⟩ = some (.int .i64 2)) := cell_later hb11 (by simp)
      have f11_8_1 : Hid (w11.cell? ⟨w10.heap.size, 1, none⟩ = some (.int .i64 1)) := cell_later hb11 (by simp)
      have f11_8_2 : Hid (w11.cell? ⟨w10.heap.size, 2, none⟩ = some (.string ⟨#[]⟩)) := cell_later hb11 (by simp)
      clear f10_0_0 f10_0_1 f10_0_2 f10_1_0 f10_1_1 f10_1_2 f10_2_0 f10_2_1 f10_2_2 f10_3_0 f10_3_1 f10_3_2 f10_4_0 f10_4_1 f10_4_2 f10_5_0 f10_5_1 f10_5_2 f10_6_0 f10_6_1 f10_6_2 f10_7_0 f10_7_1 f10_7_2 e0_0 e0_1 e0_2
      have hB11 := hide hb11
      clear hb11
      have e0_0 : ∀ o, (w11.alloc o).cell? ⟨w1.heap.size, 0, none⟩ = some (.int .i64 1) := fun o => cell_later (nx_alloc _ _) (unhide f11_0_0)
      have e0_1 : ∀ o, (w11.alloc o).cell? ⟨w1.heap.size, 1, none⟩ = some (.int .i64 (r1 - 15000)) := fun o => cell_later (nx_alloc _ _) (unhide f11_0_1)
      have e0_2 : ∀ o, (w11.alloc o).cell? ⟨w1.heap.size, 2, none⟩ = some (.string ⟨#[]⟩) := fun o => cell_later (nx_alloc _ _) (unhide f11_0_2)
      have e3_0 : ∀ o, (w11.alloc o).cell? ⟨w5.heap.size, 0, none⟩ = some (.int .i64 1) := fun o => cell_later (nx_alloc _ _) (unhide f11_3_0)
      have e3_1 : ∀ o, (w11.alloc o).cell? ⟨w5.heap.size, 1, none⟩ = some (.int .i64 (r1 - 15000)) := fun o => cell_later (nx_alloc _ _) (unhide f11_3_1)
      have e3_2 : ∀ o, (w11.alloc o).cell? ⟨w5.heap.size, 2, none⟩ = some (.string ⟨#[]⟩) := fun o => cell_later (nx_alloc _ _) (unhide f11_3_2)
      have e4_0 : ∀ o, (w11.alloc o).cell? ⟨w6.heap.size, 0, none⟩ = some (.int .i64 1) := fun o => cell_later (nx_alloc _ _) (unhide f11_4_0)
      have e4_1 : ∀ o, (w11.alloc o).cell? ⟨w6.heap.size, 1, none⟩ = some (.int .i64 (R)) := fun o => cell_later (nx_alloc _ _) (unhide f11_4_1)
      have e4_2 : ∀ o, (w11.alloc o).cell? ⟨w6.heap.size, 2, none⟩ = some (.string ⟨#[]⟩) := fun o => cell_later (nx_alloc _ _) (unhide f11_4_2)
      have e8_0 : ∀ o, (w11.alloc o).cell? ⟨w10.heap.size, 0, none⟩ = some (.int .i64 2) := fun o => cell_later (nx_alloc _ _) (unhide f11_8_0)
      have e8_1 : ∀ o, (w11.alloc o).cell? ⟨w10.heap.size, 1, none⟩ = some (.int .i64 1) := fun o => cell_later (nx_alloc _ _) (unhide f11_8_1)
      have e8_2 : ∀ o, (w11.alloc o).cell? ⟨w10.heap.size, 2, none⟩ = some (.string ⟨#[]⟩) := fun o => cell_later (nx_alloc _ _) (unhide f11_8_2)
      go_wp2
      go_ret
      exact ⟨rfl, nx_al (nx_trans (nx_al (nx_trans (nx_al (nx_trans (nx_al (nx_al (nx_trans (nx_al (nx_al (nx_trans (nx_al (nx_trans (nx_al (nx_trans (nx_al (nx_trans (unhide hW) (unhide hB4))) (unhide hB5))) (unhide hB6))) (unhide hB7)))) (unhide hB8)))) (unhide hB9))) (unhide hB10))) (unhide hB11))⟩

end Go.Proofs.YtpncohkbdaoceaaDoor
