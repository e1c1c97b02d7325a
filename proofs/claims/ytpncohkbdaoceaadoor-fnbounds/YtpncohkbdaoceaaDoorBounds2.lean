/- The law on bounds. -/
import Derived.Test.YtpncohkbdaoceaaDoorBounds1
namespace Go.Proofs.YtpncohkbdaoceaaDoor
open Go.RowKit
set_option linter.unusedVariables false

theorem inB_of {n : Int} (h1 : -60000 ≤ n) (h2 : n ≤ 60000) : inB n := ⟨by omega, by omega⟩
set_option maxHeartbeats 16000000 in
theorem lawBounds_any (a0 : Option Addr) (len0 cap0 : Nat) (z0 : List Int) (a1 : Option Addr) (len1 cap1 : Nat) (z1 : List Int) (w : World) (h0 : IsRow .u8 w a0 len0 cap0 z0) (h1 : IsRow .u8 w a1 len1 cap1 z1) :
    Calls Tryd.prog 5 #[.slice a0 len0 cap0, .slice a1 len1 cap1] w fun e w' => e = .returned (.bool true) ∧ Below w.heap.size w w' := by
  have hl0 := h0.len
  have hl1 := h1.len
  have H0 := hide h0
  have H1 := hide h1
  clear h0 h1
  by_cases g0 : 1048576 < len0
  · go_enter Tryd.func5, Tryd.ntmps5
    go_wp2
    go_ret
    exact ⟨rfl, Below.refl _ _⟩
  by_cases g1 : 1048576 < len1
  · go_enter Tryd.func5, Tryd.ntmps5
    go_wp2
    go_ret
    exact ⟨rfl, Below.refl _ _⟩
  go_enter Tryd.func5, Tryd.ntmps5
  go_wp2_with fail
  refine (at_any a0 len0 cap0 z0 0 60000 _ (unhide H0) (by omega) (.inl rfl) (by omega) (by omega)).mono ?_
  rintro e w1 ⟨r1, rfl, r1a, r1b, hb1⟩
  go_wp2_with fail
  refine (at_any a1 len1 cap1 z1 0 60000 _ ((unhide H1).later (nx_trans hb1 (nx_alloc _ _))) (by omega) (.inl rfl) (by omega) (by omega)).mono ?_
  rintro e w2 ⟨r2, rfl, r2a, r2b, hb2⟩
  rcases Int.lt_trichotomy r1 r2 with h | h | h
  · have hne : (r1 - 30000 == r2 - 30000) = false := beq_eq_false_iff_ne.2 (by omega)
    have f2_0_0 : Hid (w2.cell? ⟨w1.heap.size, 0, none⟩ = some (.int .i64 1)) := cell_later hb2 (by simp)
    have f2_0_1 : Hid (w2.cell? ⟨w1.heap.size, 1, none⟩ = some (.int .i64 (r1 - 30000))) := cell_later hb2 (by simp)
    have f2_0_2 : Hid (w2.cell? ⟨w1.heap.size, 2, none⟩ = some (.string ⟨#[]⟩)) := cell_later hb2 (by simp)
    have hB1 := hide hb1
    have hB2 := hide hb2
    clear hb1 hb2
    have e0_0 : ∀ o, (w2.alloc o).cell? ⟨w1.heap.size, 0, none⟩ = some (.int .i64 1) := fun o => cell_later (nx_alloc _ _) (unhide f2_0_0)
    have e0_1 : ∀ o, (w2.alloc o).cell? ⟨w1.heap.size, 1, none⟩ = some (.int .i64 (r1 - 30000)) := fun o => cell_later (nx_alloc _ _) (unhide f2_0_1)
    have e0_2 : ∀ o, (w2.alloc o).cell? ⟨w1.heap.size, 2, none⟩ = some (.string ⟨#[]⟩) := fun o => cell_later (nx_alloc _ _) (unhide f2_0_2)
    go_wp2_with fail
    refine (bi_max (r1 - 30000) (r2 - 30000) (r2 - 30000) _ _ _ (inB_of (by omega) (by omega)) (inB_of (by omega) (by omega)) (by omega) (args2 (by simp) (by simp) (by simp) (by simp) (by simp) (by simp))).mono ?_
    rintro e w3 ⟨rfl, hb3⟩
    have f3_0_0 : Hid (w3.cell? ⟨w1.heap.size, 0, none⟩ = some (.int .i64 1)) := cell_later hb3 (by first | exact cell_later (nx_alloc _ _) (unhide f2_0_0) | exact cell_later (nx_trans (nx_alloc _ _) (nx_alloc _ _)) (unhide f2_0_0) | exact (unhide f2_0_0))
    have f3_0_1 : Hid (w3.cell? ⟨w1.heap.size, 1, none⟩ = some (.int .i64 (r1 - 30000))) := cell_later hb3 (by first | exact cell_later (nx_alloc _ _) (unhide f2_0_1) | exact cell_later (nx_trans (nx_alloc _ _) (nx_alloc _ _)) (unhide f2_0_1) | exact (unhide f2_0_1))
    have f3_0_2 : Hid (w3.cell? ⟨w1.heap.size, 2, none⟩ = some (.string ⟨#[]⟩)) := cell_later hb3 (by first | exact cell_later (nx_alloc _ _) (unhide f2_0_2) | exact cell_later (nx_trans (nx_alloc _ _) (nx_alloc _ _)) (unhide f2_0_2) | exact (unhide f2_0_2))
    have f3_1_0 : Hid (w3.cell? ⟨w2.heap.size, 0, none⟩ = some (.int .i64 1)) := cell_later hb3 (by simp)
    have f3_1_1 : Hid (w3.cell? ⟨w2.heap.size, 1, none⟩ = some (.int .i64 (r2 - 30000))) := cell_later hb3 (by simp)
    have f3_1_2 : Hid (w3.cell? ⟨w2.heap.size, 2, none⟩ = some (.string ⟨#[]⟩)) := cell_later hb3 (by simp)
    clear f2_0_0 f2_0_1 f2_0_2 e0_0 e0_1 e0_2
    have hB3 := hide hb3
    clear hb3
    have e0_0 : ∀ o, (w3.alloc o).cell? ⟨w1.heap.size, 0, none⟩ = some (.int .i64 1) := fun o => cell_later (nx_alloc _ _) (unhide f3_0_0)
    have e0_1 : ∀ o, (w3.alloc o).cell? ⟨w1.heap.size, 1, none⟩ = some (.int .i64 (r1 - 30000)) := fun o => cell_later (nx_alloc _ _) (unhide f3_0_1)
    have e0_2 : ∀ o, (w3.alloc o).cell? ⟨w1.heap.size, 2, none⟩ = some (.string ⟨#[]⟩) := fun o => cell_later (nx_alloc _ _) (unhide f3_0_2)
    have e1_0 : ∀ o, (w3.alloc o).cell? ⟨w2.heap.size, 0, none⟩ = some (.int .i64 1) := fun o => cell_later (nx_alloc _ _) (unhide f3_1_0)
    have e1_1 : ∀ o, (w3.alloc o).cell? ⟨w2.heap.size, 1, none⟩ = some (.int .i64 (r2 - 30000)) := fun o => cell_later (nx_alloc _ _) (unhide f3_1_1)
    have e1_2 : ∀ o, (w3.alloc o).cell? ⟨w2.heap.size, 2, none⟩ = some (.string ⟨#[]⟩) := fun o => cell_later (nx_alloc _ _) (unhide f3_1_2)
    go_wp2_with fail
    refine (bi_min (r1 - 30000) (r2 - 30000) (r1 - 30000) _ _ _ (inB_of (by omega) (by omega)) (inB_of (by omega) (by omega)) (by omega) (args2 (by simp) (by simp) (by simp) (by simp) (by simp) (by simp))).mono ?_
    rintro e w4 ⟨rfl, hb4⟩
    have f4_0_0 : Hid (w4.cell? ⟨w1.heap.size, 0, none⟩ = some (.int .i64 1)) := cell_later hb4 (by first | exact cell_later (nx_alloc _ _) (unhide f3_0_0) | exact cell_later (nx_trans (nx_alloc _ _) (nx_alloc _ _)) (unhide f3_0_0) | exact (unhide f3_0_0))
    have f4_0_1 : Hid (w4.cell? ⟨w1.heap.size, 1, none⟩ = some (.int .i64 (r1 - 30000))) := cell_later hb4 (by first | exact cell_later (nx_alloc _ _) (unhide f3_0_1) | exact cell_later (nx_trans (nx_alloc _ _) (nx_alloc _ _)) (unhide f3_0_1) | exact (unhide f3_0_1))
    have f4_0_2 : Hid (w4.cell? ⟨w1.heap.size, 2, none⟩ = some (.string ⟨#[]⟩)) := cell_later hb4 (by first | exact cell_later (nx_alloc _ _) (unhide f3_0_2) | exact cell_later (nx_trans (nx_alloc _ _) (nx_alloc _ _)) (unhide f3_0_2) | exact (unhide f3_0_2))
    have f4_1_0 : Hid (w4.cell? ⟨w2.heap.size, 0, none⟩ = some (.int .i64 1)) := cell_later hb4 (by first | exact cell_later (nx_alloc _ _) (unhide f3_1_0) | exact cell_later (nx_trans (nx_alloc _ _) (nx_alloc _ _)) (unhide f3_1_0) | exact (unhide f3_1_0))
    have f4_1_1 : Hid (w4.cell? ⟨w2.heap.size, 1, none⟩ = some (.int .i64 (r2 - 30000))) := cell_later hb4 (by first | exact cell_later (nx_alloc _ _) (unhide f3_1_1) | exact cell_later (nx_trans (nx_alloc _ _) (nx_alloc _ _)) (unhide f3_1_1) | exact (unhide f3_1_1))
    have f4_1_2 : Hid (w4.cell? ⟨w2.heap.size, 2, none⟩ = some (.string ⟨#[]⟩)) := cell_later hb4 (by first | exact cell_later (nx_alloc _ _) (unhide f3_1_2) | exact cell_later (nx_trans (nx_alloc _ _) (nx_alloc _ _)) (unhide f3_1_2) | exact (unhide f3_1_2))
    have f4_2_0 : Hid (w4.cell? ⟨w3.heap.size, 0, none⟩ = some (.int .i64 1)) := cell_later hb4 (by simp)
    have f4_2_1 : Hid (w4.cell? ⟨w3.heap.size, 1, none⟩ = some (.int .i64 (r2 - 30000))) := cell_later hb4 (by simp)
    have f4_2_2 : Hid (w4.cell? ⟨w3.heap.size, 2, none⟩ = some (.string ⟨#[]⟩)) := cell_later hb4 (by simp)
    clear f3_0_0 f3_0_1 f3_0_2 f3_1_0 f3_1_1 f3_1_2 e0_0 e0_1 e0_2 e1_0 e1_1 e1_2
    have hB4 := hide hb4
    clear hb4
    have e2_0 : ∀ o, (w4.alloc o).cell? ⟨w3.heap.size, 0, none⟩ = some (.int .i64 1) := fun o => cell_later (nx_alloc _ _) (unhide f4_2_0)
    have e2_1 : ∀ o, (w4.alloc o).cell? ⟨w3.heap.size, 1, none⟩ = some (.int .i64 (r2 - 30000)) := fun o => cell_later (nx_alloc _ _) (unhide f4_2_1)
    have e2_2 : ∀ o, (w4.alloc o).cell? ⟨w3.heap.size, 2, none⟩ = some (.string ⟨#[]⟩) := fun o => cell_later (nx_alloc _ _) (unhide f4_2_2)
    go_wp2_with fail
    refine (bin_add (r2 - 30000) (r1 - 30000) (r1 - 30000 + (r2 - 30000)) _ (inB_of (by omega) (by omega)) (inB_of (by omega) (by omega)) (inB_of (by omega) (by omega)) (by omega)).mono ?_
    rintro e w5 ⟨rfl, hb5⟩
    have f5_0_0 : Hid (w5.cell? ⟨w1.heap.size, 0, none⟩ = some (.int .i64 1)) := cell_later hb5 (by first | exact cell_later (nx_alloc _ _) (unhide f4_0_0) | exact cell_later (nx_trans (nx_alloc _ _) (nx_alloc _ _)) (unhide f4_0_0) | exact (unhide f4_0_0))
    have f5_0_1 : Hid (w5.cell? ⟨w1.heap.size, 1, none⟩ = some (.int .i64 (r1 - 30000))) := cell_later hb5 (by first | exact cell_later (nx_alloc _ _) (unhide f4_0_1) | exact cell_later (nx_trans (nx_alloc _ _) (nx_alloc _ _)) (unhide f4_0_1) | exact (unhide f4_0_1))
    have f5_0_2 : Hid (w5.cell? ⟨w1.heap.size, 2, none⟩ = some (.string ⟨#[]⟩)) := cell_later hb5 (by first | exact cell_later (nx_alloc _ _) (unhide f4_0_2) | exact cell_later (nx_trans (nx_alloc _ _) (nx_alloc _ _)) (unhide f4_0_2) | exact (unhide f4_0_2))
    have f5_1_0 : Hid (w5.cell? ⟨w2.heap.size, 0, none⟩ = some (.int .i64 1)) := cell_later hb5 (by first | exact cell_later (nx_alloc _ _) (unhide f4_1_0) | exact cell_later (nx_trans (nx_alloc _ _) (nx_alloc _ _)) (unhide f4_1_0) | exact (unhide f4_1_0))
    have f5_1_1 : Hid (w5.cell? ⟨w2.heap.size, 1, none⟩ = some (.int .i64 (r2 - 30000))) := cell_later hb5 (by first | exact cell_later (nx_alloc _ _) (unhide f4_1_1) | exact cell_later (nx_trans (nx_alloc _ _) (nx_alloc _ _)) (unhide f4_1_1) | exact (unhide f4_1_1))
    have f5_1_2 : Hid (w5.cell? ⟨w2.heap.size, 2, none⟩ = some (.string ⟨#[]⟩)) := cell_later hb5 (by first | exact cell_later (nx_alloc _ _) (unhide f4_1_2) | exact cell_later (nx_trans (nx_alloc _ _) (nx_alloc _ _)) (unhide f4_1_2) | exact (unhide f4_1_2))
    have f5_2_0 : Hid (w5.cell? ⟨w3.heap.size, 0, none⟩ = some (.int .i64 1)) := cell_later hb5 (by first | exact cell_later (nx_alloc _ _) (unhide f4_2_0) | exact cell_later (nx_trans (nx_alloc _ _) (nx_alloc _ _)) (unhide f4_2_0) | exact (unhide f4_2_0))
    have f5_2_1 : Hid (w5.cell? ⟨w3.heap.size, 1, none⟩ = some (.int .i64 (r2 - 30000))) := cell_later hb5 (by first | exact cell_later (nx_alloc _ _) (unhide f4_2_1) | exact cell_later (nx_trans (nx_alloc _ _) (nx_alloc _ _)) (unhide f4_2_1) | exact (unhide f4_2_1))
    have f5_2_2 : Hid (w5.cell? ⟨w3.heap.size, 2, none⟩ = some (.string ⟨#[]⟩)) := cell_later hb5 (by first | exact cell_later (nx_alloc _ _) (unhide f4_2_2) | exact cell_later (nx_trans (nx_alloc _ _) (nx_alloc _ _)) (unhide f4_2_2) | exact (unhide f4_2_2))
    have f5_3_0 : Hid (w5.cell? ⟨w4.heap.size, 0, none⟩ = some (.int .i64 1)) := cell_later hb5 (by simp)
    have f5_3_1 : Hid (w5.cell? ⟨w4.heap.size, 1, none⟩ = some (.int .i64 (r1 - 30000))) := cell_later hb5 (by simp)
    have f5_3_2 : Hid (w5.cell? ⟨w4.heap.size, 2, none⟩ = some (.string ⟨#[]⟩)) := cell_later hb5 (by simp)
    clear f4_0_0 f4_0_1 f4_0_2 f4_1_0 f4_1_1 f4_1_2 f4_2_0 f4_2_1 f4_2_2 e2_0 e2_1 e2_2
    have hB5 := hide hb5
    clear hb5
    have e0_0 : ∀ o, (w5.alloc o).cell? ⟨w1.heap.size, 0, none⟩ = some (.int .i64 1) := fun o => cell_later (nx_alloc _ _) (unhide f5_0_0)
    have e0_1 : ∀ o, (w5.alloc o).cell? ⟨w1.heap.size, 1, none⟩ = some (.int .i64 (r1 - 30000)) := fun o => cell_later (nx_alloc _ _) (unhide f5_0_1)
    have e0_2 : ∀ o, (w5.alloc o).cell? ⟨w1.heap.size, 2, none⟩ = some (.string ⟨#[]⟩) := fun o => cell_later (nx_alloc _ _) (unhide f5_0_2)
    have e1_0 : ∀ o, (w5.alloc o).cell? ⟨w2.heap.size, 0, none⟩ = some (.int .i64 1) := fun o => cell_later (nx_alloc _ _) (unhide f5_1_0)
    have e1_1 : ∀ o, (w5.alloc o).cell? ⟨w2.heap.size, 1, none⟩ = some (.int .i64 (r2 - 30000)) := fun o => cell_later (nx_alloc _ _) (unhide f5_1_1)
    have e1_2 : ∀ o, (w5.alloc o).cell? ⟨w2.heap.size, 2, none⟩ = some (.string ⟨#[]⟩) := fun o => cell_later (nx_alloc _ _) (unhide f5_1_2)
    go_wp2_with fail
    refine (bin_add (r1 - 30000) (r2 - 30000) (r1 - 30000 + (r2 - 30000)) _ (inB_of (by omega) (by omega)) (inB_of (by omega) (by omega)) (inB_of (by omega) (by omega)) (by omega)).mono ?_
    rintro e w6 ⟨rfl, hb6⟩
    have f6_0_0 : Hid (w6.cell? ⟨w1.heap.size, 0, none⟩ = some (.int .i64 1)) := cell_later hb6 (by first | exact cell_later (nx_alloc _ _) (unhide f5_0_0) | exact cell_later (nx_trans (nx_alloc _ _) (nx_alloc _ _)) (unhide f5_0_0) | exact (unhide f5_0_0))
    have f6_0_1 : Hid (w6.cell? ⟨w1.heap.size, 1, none⟩ = some (.int .i64 (r1 - 30000))) := cell_later hb6 (by first | exact cell_later (nx_alloc _ _) (unhide f5_0_1) | exact cell_later (nx_trans (nx_alloc _ _) (nx_alloc _ _)) (unhide f5_0_1) | exact (unhide f5_0_1))
    have f6_0_2 : Hid (w6.cell? ⟨w1.heap.size, 2, none⟩ = some (.string ⟨#[]⟩)) := cell_later hb6 (by first | exact cell_later (nx_alloc _ _) (unhide f5_0_2) | exact cell_later (nx_trans (nx_alloc _ _) (nx_alloc _ _)) (unhide f5_0_2) | exact (unhide f5_0_2))
    have f6_1_0 : Hid (w6.cell? ⟨w2.heap.size, 0, none⟩ = some (.int .i64 1)) := cell_later hb6 (by first | exact cell_later (nx_alloc _ _) (unhide f5_1_0) | exact cell_later (nx_trans (nx_alloc _ _) (nx_alloc _ _)) (unhide f5_1_0) | exact (unhide f5_1_0))
    have f6_1_1 : Hid (w6.cell? ⟨w2.heap.size, 1, none⟩ = some (.int .i64 (r2 - 30000))) := cell_later hb6 (by first | exact cell_later (nx_alloc _ _) (unhide f5_1_1) | exact cell_later (nx_trans (nx_alloc _ _) (nx_alloc _ _)) (unhide f5_1_1) | exact (unhide f5_1_1))
    have f6_1_2 : Hid (w6.cell? ⟨w2.heap.size, 2, none⟩ = some (.string ⟨#[]⟩)) := cell_later hb6 (by first | exact cell_later (nx_alloc _ _) (unhide f5_1_2) | exact cell_later (nx_trans (nx_alloc _ _) (nx_alloc _ _)) (unhide f5_1_2) | exact (unhide f5_1_2))
    have f6_2_0 : Hid (w6.cell? ⟨w3.heap.size, 0, none⟩ = some (.int .i64 1)) := cell_later hb6 (by first | exact cell_later (nx_alloc _ _) (unhide f5_2_0) | exact cell_later (nx_trans (nx_alloc _ _) (nx_alloc _ _)) (unhide f5_2_0) | exact (unhide f5_2_0))
    have f6_2_1 : Hid (w6.cell? ⟨w3.heap.size, 1, none⟩ = some (.int .i64 (r2 - 30000))) := cell_later hb6 (by first | exact cell_later (nx_alloc _ _) (unhide f5_2_1) | exact cell_later (nx_trans (nx_alloc _ _) (nx_alloc _ _)) (unhide f5_2_1) | exact (unhide f5_2_1))
    have f6_2_2 : Hid (w6.cell? ⟨w3.heap.size, 2, none⟩ = some (.string ⟨#[]⟩)) := cell_later hb6 (by first | exact cell_later (nx_alloc _ _) (unhide f5_2_2) | exact cell_later (nx_trans (nx_alloc _ _) (nx_alloc _ _)) (unhide f5_2_2) | exact (unhide f5_2_2))
    have f6_3_0 : Hid (w6.cell? ⟨w4.heap.size, 0, none⟩ = some (.int .i64 1)) := cell_later hb6 (by first | exact cell_later (nx_alloc _ _) (unhide f5_3_0) | exact cell_later (nx_trans (nx_alloc _ _) (nx_alloc _ _)) (unhide f5_3_0) | exact (unhide f5_3_0))
    have f6_3_1 : Hid (w6.cell? ⟨w4.heap.size, 1, none⟩ = some (.int .i64 (r1 - 30000))) := cell_later hb6 (by first | exact cell_later (nx_alloc _ _) (unhide f5_3_1) | exact cell_later (nx_trans (nx_alloc _ _) (nx_alloc _ _)) (unhide f5_3_1) | exact (unhide f5_3_1))
    have f6_3_2 : Hid (w6.cell? ⟨w4.heap.size, 2, none⟩ = some (.string ⟨#[]⟩)) := cell_later hb6 (by first | exact cell_later (nx_alloc _ _) (unhide f5_3_2) | exact cell_later (nx_trans (nx_alloc _ _) (nx_alloc _ _)) (unhide f5_3_2) | exact (unhide f5_3_2))
    have f6_4_0 : Hid (w6.cell? ⟨w5.heap.size, 0, none⟩ = some (.int .i64 1)) := cell_later hb6 (by simp)
    have f6_4_1 : Hid (w6.cell? ⟨w5.heap.size, 1, none⟩ = some (.int .i64 (r1 - 30000 + (r2 - 30000)))) := cell_later hb6 (by simp)
    have f6_4_2 : Hid (w6.cell? ⟨w5.heap.size, 2, none⟩ = some (.string ⟨#[]⟩)) := cell_later hb6 (by simp)
    clear f5_0_0 f5_0_1 f5_0_2 f5_1_0 f5_1_1 f5_1_2 f5_2_0 f5_2_1 f5_2_2 f5_3_0 f5_3_1 f5_3_2 e0_0 e0_1 e0_2 e1_0 e1_1 e1_2
    have hB6 := hide hb6
    clear hb6
    have e0_0 : ∀ o, (w6.alloc o).cell? ⟨w1.heap.size, 0, none⟩ = some (.int .i64 1) := fun o => cell_later (nx_alloc _ _) (unhide f6_0_0)
    have e0_1 : ∀ o, (w6.alloc o).cell? ⟨w1.heap.size, 1, none⟩ = some (.int .i64 (r1 - 30000)) := fun o => cell_later (nx_alloc _ _) (unhide f6_0_1)
    have e0_2 : ∀ o, (w6.alloc o).cell? ⟨w1.heap.size, 2, none⟩ = some (.string ⟨#[]⟩) := fun o => cell_later (nx_alloc _ _) (unhide f6_0_2)
    have e1_0 : ∀ o, (w6.alloc o).cell? ⟨w2.heap.size, 0, none⟩ = some (.int .i64 1) := fun o => cell_later (nx_alloc _ _) (unhide f6_1_0)
    have e1_1 : ∀ o, (w6.alloc o).cell? ⟨w2.heap.size, 1, none⟩ = some (.int .i64 (r2 - 30000)) := fun o => cell_later (nx_alloc _ _) (unhide f6_1_1)
    have e1_2 : ∀ o, (w6.alloc o).cell? ⟨w2.heap.size, 2, none⟩ = some (.string ⟨#[]⟩) := fun o => cell_later (nx_alloc _ _) (unhide f6_1_2)
    go_wp2_with fail
    refine (bin_lt (r1 - 30000) (r2 - 30000) true 1 _ (inB_of (by omega) (by omega)) (inB_of (by omega) (by omega)) (by first | (simp; done) | (simp; omega)) rfl).mono ?_
    rintro e w7 ⟨rfl, hb7⟩
    have f7_0_0 : Hid (w7.cell? ⟨w1.heap.size, 0, none⟩ = some (.int .i64 1)) := cell_later hb7 (by first | exact cell_later (nx_alloc _ _) (unhide f6_0_0) | exact cell_later (nx_trans (nx_alloc _ _) (nx_alloc _ _)) (unhide f6_0_0) | exact (unhide f6_0_0))
    have f7_0_1 : Hid (w7.cell? ⟨w1.heap.size, 1, none⟩ = some (.int .i64 (r1 - 30000))) := cell_later hb7 (by first | exact cell_later (nx_alloc _ _) (unhide f6_0_1) | exact cell_later (nx_trans (nx_alloc _ _) (nx_alloc _ _)) (unhide f6_0_1) | exact (unhide f6_0_1))
    have f7_0_2 : Hid (w7.cell? ⟨w1.heap.size, 2, none⟩ = some (.string ⟨#[]⟩)) := cell_later hb7 (by first | exact cell_later (nx_alloc _ _) (unhide f6_0_2) | exact cell_later (nx_trans (nx_alloc _ _) (nx_alloc _ _)) (unhide f6_0_2) | exact (unhide f6_0_2))
    have f7_1_0 : Hid (w7.cell? ⟨w2.heap.size, 0, none⟩ = some (.int .i64 1)) := cell_later hb7 (by first | exact cell_later (nx_alloc _ _) (unhide f6_1_0) | exact cell_later (nx_trans (nx_alloc _ _) (nx_alloc _ _)) (unhide f6_1_0) | exact (unhide f6_1_0))
    have f7_1_1 : Hid (w7.cell? ⟨w2.heap.size, 1, none⟩ = some (.int .i64 (r2 - 30000))) := cell_later hb7 (by first | exact cell_later (nx_alloc _ _) (unhide f6_1_1) | exact cell_later (nx_trans (nx_alloc _ _) (nx_alloc _ _)) (unhide f6_1_1) | exact (unhide f6_1_1))
    have f7_1_2 : Hid (w7.cell? ⟨w2.heap.size, 2, none⟩ = some (.string ⟨#[]⟩)) := cell_later hb7 (by first | exact cell_later (nx_alloc _ _) (unhide f6_1_2) | exact cell_later (nx_trans (nx_alloc _ _) (nx_alloc _ _)) (unhide f6_1_2) | exact (unhide f6_1_2))
    have f7_2_0 : Hid (w7.cell? ⟨w3.heap.size, 0, none⟩ = some (.int .i64 1)) := cell_later hb7 (by first | exact cell_later (nx_alloc _ _) (unhide f6_2_0) | exact cell_later (nx_trans (nx_alloc _ _) (nx_alloc _ _)) (unhide f6_2_0) | exact (unhide f6_2_0))
    have f7_2_1 : Hid (w7.cell? ⟨w3.heap.size, 1, none⟩ = some (.int .i64 (r2 - 30000))) := cell_later hb7 (by first | exact cell_later (nx_alloc _ _) (unhide f6_2_1) | exact cell_later (nx_trans (nx_alloc _ _) (nx_alloc _ _)) (unhide f6_2_1) | exact (unhide f6_2_1))
    have f7_2_2 : Hid (w7.cell? ⟨w3.heap.size, 2, none⟩ = some (.string ⟨#[]⟩)) := cell_later hb7 (by first | exact cell_later (nx_alloc _ _) (unhide f6_2_2) | exact cell_later (nx_trans (nx_alloc _ _) (nx_alloc _ _)) (unhide f6_2_2) | exact (unhide f6_2_2))
    have f7_3_0 : Hid (w7.cell? ⟨w4.heap.size, 0, none⟩ = some (.int .i64 1)) := cell_later hb7 (by first | exact cell_later (nx_alloc _ _) (unhide f6_3_0) | exact cell_later (nx_trans (nx_alloc _ _) (nx_alloc _ _)) (unhide f6_3_0) | exact (unhide f6_3_0))
    have f7_3_1 : Hid (w7.cell? ⟨w4.heap.size, 1, none⟩ = some (.int .i64 (r1 - 30000))) := cell_later hb7 (by first | exact cell_later (nx_alloc _ _) (unhide f6_3_1) | exact cell_later (nx_trans (nx_alloc _ _) (nx_alloc _ _)) (unhide f6_3_1) | exact (unhide f6_3_1))
    have f7_3_2 : Hid (w7.cell? ⟨w4.heap.size, 2, none⟩ = some (.string ⟨#[]⟩)) := cell_later hb7 (by first | exact cell_later (nx_alloc _ _) (unhide f6_3_2) | exact cell_later (nx_trans (nx_alloc _ _) (nx_alloc _ _)) (unhide f6_3_2) | exact (unhide f6_3_2))
    have f7_4_0 : Hid (w7.cell? ⟨w5.heap.size, 0, none⟩ = some (.int .i64 1)) := cell_later hb7 (by first | exact cell_later (nx_alloc _ _) (unhide f6_4_0) | exact cell_later (nx_trans (nx_alloc _ _) (nx_alloc _ _)) (unhide f6_4_0) | exact (unhide f6_4_0))
    have f7_4_1 : Hid (w7.cell? ⟨w5.heap.size, 1, none⟩ = some (.int .i64 (r1 - 30000 + (r2 - 30000)))) := cell_later hb7 (by first | exact cell_later (nx_alloc _ _) (unhide f6_4_1) | exact cell_later (nx_trans (nx_alloc _ _) (nx_alloc _ _)) (unhide f6_4_1) | exact (unhide f6_4_1))
    have f7_4_2 : Hid (w7.cell? ⟨w5.heap.size, 2, none⟩ = some (.string ⟨#[]⟩)) := cell_later hb7 (by first | exact cell_later (nx_alloc _ _) (unhide f6_4_2) | exact cell_later (nx_trans (nx_alloc _ _) (nx_alloc _ _)) (unhide f6_4_2) | exact (unhide f6_4_2))
    have f7_5_0 : Hid (w7.cell? ⟨w6.heap.size, 0, none⟩ = some (.int .i64 1)) := cell_later hb7 (by simp)
    have f7_5_1 : Hid (w7.cell? ⟨w6.heap.size, 1, none⟩ = some (.int .i64 (r1 - 30000 + (r2 - 30000)))) := cell_later hb7 (by simp)
    have f7_5_2 : Hid (w7.cell? ⟨w6.heap.size, 2, none⟩ = some (.string ⟨#[]⟩)) := cell_later hb7 (by simp)
    clear f6_0_0 f6_0_1 f6_0_2 f6_1_0 f6_1_1 f6_1_2 f6_2_0 f6_2_1 f6_2_2 f6_3_0 f6_3_1 f6_3_2 f6_4_0 f6_4_1 f6_4_2 e0_0 e0_1 e0_2 e1_0 e1_1 e1_2
    have hB7 := hide hb7
    clear hb7
    have e0_0 : ∀ o, (w7.alloc o).cell? ⟨w1.heap.size, 0, none⟩ = some (.int .i64 1) := fun o => cell_later (nx_alloc _ _) (unhide f7_0_0)
    have e0_1 : ∀ o, (w7.alloc o).cell? ⟨w1.heap.size, 1, none⟩ = some (.int .i64 (r1 - 30000)) := fun o => cell_later (nx_alloc _ _) (unhide f7_0_1)
    have e0_2 : ∀ o, (w7.alloc o).cell? ⟨w1.heap.size, 2, none⟩ = some (.string ⟨#[]⟩) := fun o => cell_later (nx_alloc _ _) (unhide f7_0_2)
    go_wp2_with fail
    refine (un_neg (r1 - 30000) (-(r1 - 30000)) _ (inB_of (by omega) (by omega)) (inB_of (by omega) (by omega)) rfl).mono ?_
    rintro e w8 ⟨rfl, hb8⟩
    have f8_0_0 : Hid (w8.cell? ⟨w1.heap.size, 0, none⟩ = some (.int .i64 1)) := cell_later hb8 (by first | exact cell_later (nx_alloc _ _) (unhide f7_0_0) | exact cell_later (nx_trans (nx_alloc _ _) (nx_alloc _ _)) (unhide f7_0_0) | exact (unhide f7_0_0))
    have f8_0_1 : Hid (w8.cell? ⟨w1.heap.size, 1, none⟩ = some (.int .i64 (r1 - 30000))) := cell_later hb8 (by first | exact cell_later (nx_alloc _ _) (unhide f7_0_1) | exact cell_later (nx_trans (nx_alloc _ _) (nx_alloc _ _)) (unhide f7_0_1) | exact (unhide f7_0_1))
    have f8_0_2 : Hid (w8.cell? ⟨w1.heap.size, 2, none⟩ = some (.string ⟨#[]⟩)) := cell_later hb8 (by first | exact cell_later (nx_alloc _ _) (unhide f7_0_2) | exact cell_later (nx_trans (nx_alloc _ _) (nx_alloc _ _)) (unhide f7_0_2) | exact (unhide f7_0_2))
    have f8_1_0 : Hid (w8.cell? ⟨w2.heap.size, 0, none⟩ = some (.int .i64 1)) := cell_later hb8 (by first | exact cell_later (nx_alloc _ _) (unhide f7_1_0) | exact cell_later (nx_trans (nx_alloc _ _) (nx_alloc _ _)) (unhide f7_1_0) | exact (unhide f7_1_0))
    have f8_1_1 : Hid (w8.cell? ⟨w2.heap.size, 1, none⟩ = some (.int .i64 (r2 - 30000))) := cell_later hb8 (by first | exact cell_later (nx_alloc _ _) (unhide f7_1_1) | exact cell_later (nx_trans (nx_alloc _ _) (nx_alloc _ _)) (unhide f7_1_1) | exact (unhide f7_1_1))
    have f8_1_2 : Hid (w8.cell? ⟨w2.heap.size, 2, none⟩ = some (.string ⟨#[]⟩)) := cell_later hb8 (by first | exact cell_later (nx_alloc _ _) (unhide f7_1_2) | exact cell_later (nx_trans (nx_alloc _ _) (nx_alloc _ _)) (unhide f7_1_2) | exact (unhide f7_1_2))
    have f8_2_0 : Hid (w8.cell? ⟨w3.heap.size, 0, none⟩ = some (.int .i64 1)) := cell_later hb8 (by first | exact cell_later (nx_alloc _ _) (unhide f7_2_0) | exact cell_later (nx_trans (nx_alloc _ _) (nx_alloc _ _)) (unhide f7_2_0) | exact (unhide f7_2_0))
    have f8_2_1 : Hid (w8.cell? ⟨w3.heap.size, 1, none⟩ = some (.int .i64 (r2 - 30000))) := cell_later hb8 (by first | exact cell_later (nx_alloc _ _) (unhide f7_2_1) | exact cell_later (nx_trans (nx_alloc _ _) (nx_alloc _ _)) (unhide f7_2_1) | exact (unhide f7_2_1))
    have f8_2_2 : Hid (w8.cell? ⟨w3.heap.size, 2, none⟩ = some (.string ⟨#[]⟩)) := cell_later hb8 (by first | exact cell_later (nx_alloc _ _) (unhide f7_2_2) | exact cell_later (nx_trans (nx_alloc _ _) (nx_alloc _ _)) (unhide f7_2_2) | exact (unhide f7_2_2))
    have f8_3_0 : Hid (w8.cell? ⟨w4.heap.size, 0, none⟩ = some (.int .i64 1)) := cell_later hb8 (by first | exact cell_later (nx_alloc _ _) (unhide f7_3_0) | exact cell_later (nx_trans (nx_alloc _ _) (nx_alloc _ _)) (unhide f7_3_0) | exact (unhide f7_3_0))
    have f8_3_1 : Hid (w8.cell? ⟨w4.heap.size, 1, none⟩ = some (.int .i64 (r1 - 30000))) := cell_later hb8 (by first | exact cell_later (nx_alloc _ _) (unhide f7_3_1) | exact cell_later (nx_trans (nx_alloc _ _) (nx_alloc _ _)) (unhide f7_3_1) | exact (unhide f7_3_1))
    have f8_3_2 : Hid (w8.cell? ⟨w4.heap.size, 2, none⟩ = some (.string ⟨#[]⟩)) := cell_later hb8 (by first | exact cell_later (nx_alloc _ _) (unhide f7_3_2) | exact cell_later (nx_trans (nx_alloc _ _) (nx_alloc _ _)) (unhide f7_3_2) | exact (unhide f7_3_2))
    have f8_4_0 : Hid (w8.cell? ⟨w5.heap.size, 0, none⟩ = some (.int .i64 1)) := cell_later hb8 (by first | exact cell_later (nx_alloc _ _) (unhide f7_4_0) | exact cell_later (nx_trans (nx_alloc _ _) (nx_alloc _ _)) (unhide f7_4_0) | exact (unhide f7_4_0))
    have f8_4_1 : Hid (w8.cell? ⟨w5.heap.size, 1, none⟩ = some (.int .i64 (r1 - 30000 + (r2 - 30000)))) := cell_later hb8 (by first | exact cell_later (nx_alloc _ _) (unhide f7_4_1) | exact cell_later (nx_trans (nx_alloc _ _) (nx_alloc _ _)) (unhide f7_4_1) | exact (unhide f7_4_1))
    have f8_4_2 : Hid (w8.cell? ⟨w5.heap.size, 2, none⟩ = some (.string ⟨#[]⟩)) := cell_later hb8 (by first | exact cell_later (nx_alloc _ _) (unhide f7_4_2) | exact cell_later (nx_trans (nx_alloc _ _) (nx_alloc _ _)) (unhide f7_4_2) | exact (unhide f7_4_2))
    have f8_5_0 : Hid (w8.cell? ⟨w6.heap.size, 0, none⟩ = some (.int .i64 1)) := cell_later hb8 (by first | exact cell_later (nx_alloc _ _) (unhide f7_5_0) | exact cell_later (nx_trans (nx_alloc _ _) (nx_alloc _ _)) (unhide f7_5_0) | exact (unhide f7_5_0))
    have f8_5_1 : Hid (w8.cell? ⟨w6.heap.size, 1, none⟩ = some (.int .i64 (r1 - 30000 + (r2 - 30000)))) := cell_later hb8 (by first | exact cell_later (nx_alloc _ _) (unhide f7_5_1) | exact cell_later (nx_trans (nx_alloc _ _) (nx_alloc _ _)) (unhide f7_5_1) | exact (unhide f7_5_1))
    have f8_5_2 : Hid (w8.cell? ⟨w6.heap.size, 2, none⟩ = some (.string ⟨#[]⟩)) := cell_later hb8 (by first | exact cell_later (nx_alloc _ _) (unhide f7_5_2) | exact cell_later (nx_trans (nx_alloc _ _) (nx_alloc _ _)) (unhide f7_5_2) | exact (unhide f7_5_2))
    have f8_6_0 : Hid (w8.cell? ⟨w7.heap.size, 0, none⟩ = some (.int .i64 2)) := cell_later hb8 (by simp)
    have f8_6_1 : Hid (w8.cell? ⟨w7.heap.size, 1, none⟩ = some (.int .i64 1)) := cell_later hb8 (by simp)
    have f8_6_2 : Hid (w8.cell? ⟨w7.heap.size, 2, none⟩ = some (.string ⟨#[]⟩)) := cell_later hb8 (by simp)
    clear f7_0_0 f7_0_1 f7_0_2 f7_1_0 f7_1_1 f7_1_2 f7_2_0 f7_2_1 f7_2_2 f7_3_0 f7_3_1 f7_3_2 f7_4_0 f7_4_1 f7_4_2 f7_5_0 f7_5_1 f7_5_2 e0_0 e0_1 e0_2
    have hB8 := hide hb8
    clear hb8
    go_wp2_with fail
    refine (un_neg (-(r1 - 30000)) (r1 - 30000) _ (inB_of (by omega) (by omega)) (inB_of (by omega) (by omega)) (by omega)).mono ?_
    rintro e w9 ⟨rfl, hb9⟩
    have f9_0_0 : Hid (w9.cell? ⟨w1.heap.size, 0, none⟩ = some (.int .i64 1)) := cell_later hb9 (by first | exact cell_later (nx_alloc _ _) (unhide f8_0_0) | exact cell_later (nx_trans (nx_alloc _ _) (nx_alloc _ _)) (unhide f8_0_0) | exact (unhide f8_0_0))
    have f9_0_1 : Hid (w9.cell? ⟨w1.heap.size, 1, none⟩ = some (.int .i64 (r1 - 30000))) := cell_later hb9 (by first | exact cell_later (nx_alloc _ _) (unhide f8_0_1) | exact cell_later (nx_trans (nx_alloc _ _) (nx_alloc _ _)) (unhide f8_0_1) | exact (unhide f8_0_1))
    have f9_0_2 : Hid (w9.cell? ⟨w1.heap.size, 2, none⟩ = some (.string ⟨#[]⟩)) := cell_later hb9 (by first | exact cell_later (nx_alloc _ _) (unhide f8_0_2) | exact cell_later (nx_trans (nx_alloc _ _) (nx_alloc _ _)) (unhide f8_0_2) | exact (unhide f8_0_2))
    have f9_1_0 : Hid (w9.cell? ⟨w2.heap.size, 0, none⟩ = some (.int .i64 1)) := cell_later hb9 (by first | exact cell_later (nx_alloc _ _) (unhide f8_1_0) | exact cell_later (nx_trans (nx_alloc _ _) (nx_alloc _ _)) (unhide f8_1_0) | exact (unhide f8_1_0))
    have f9_1_1 : Hid (w9.cell? ⟨w2.heap.size, 1, none⟩ = some (.int .i64 (r2 - 30000))) := cell_later hb9 (by first | exact cell_later (nx_alloc _ _) (unhide f8_1_1) | exact cell_later (nx_trans (nx_alloc _ _) (nx_alloc _ _)) (unhide f8_1_1) | exact (unhide f8_1_1))
    have f9_1_2 : Hid (w9.cell? ⟨w2.heap.size, 2, none⟩ = some (.string ⟨#[]⟩)) := cell_later hb9 (by first | exact cell_later (nx_alloc _ _) (unhide f8_1_2) | exact cell_later (nx_trans (nx_alloc _ _) (nx_alloc _ _)) (unhide f8_1_2) | exact (unhide f8_1_2))
    have f9_2_0 : Hid (w9.cell? ⟨w3.heap.size, 0, none⟩ = some (.int .i64 1)) := cell_later hb9 (by first | exact cell_later (nx_alloc _ _) (unhide f8_2_0) | exact cell_later (nx_trans (nx_alloc _ _) (nx_alloc _ _)) (unhide f8_2_0) | exact (unhide f8_2_0))
    have f9_2_1 : Hid (w9.cell? ⟨w3.heap.size, 1, none⟩ = some (.int .i64 (r2 - 30000))) := cell_later hb9 (by first | exact cell_later (nx_alloc _ _) (unhide f8_2_1) | exact cell_later (nx_trans (nx_alloc _ _) (nx_alloc _ _)) (unhide f8_2_1) | exact (unhide f8_2_1))
    have f9_2_2 : Hid (w9.cell? ⟨w3.heap.size, 2, none⟩ = some (.string ⟨#[]⟩)) := cell_later hb9 (by first | exact cell_later (nx_alloc _ _) (unhide f8_2_2) | exact cell_later (nx_trans (nx_alloc _ _) (nx_alloc _ _)) (unhide f8_2_2) | exact (unhide f8_2_2))
    have f9_3_0 : Hid (w9.cell? ⟨w4.heap.size, 0, none⟩ = some (.int .i64 1)) := cell_later hb9 (by first | exact cell_later (nx_alloc _ _) (unhide f8_3_0) | exact cell_later (nx_trans (nx_alloc _ _) (nx_alloc _ _)) (unhide f8_3_0) | exact (unhide f8_3_0))
    have f9_3_1 : Hid (w9.cell? ⟨w4.heap.size, 1, none⟩ = some (.int .i64 (r1 - 30000))) := cell_later hb9 (by first | exact cell_later (nx_alloc _ _) (unhide f8_3_1) | exact cell_later (nx_trans (nx_alloc _ _) (nx_alloc _ _)) (unhide f8_3_1) | exact (unhide f8_3_1))
    have f9_3_2 : Hid (w9.cell? ⟨w4.heap.size, 2, none⟩ = some (.string ⟨#[]⟩)) := cell_later hb9 (by first | exact cell_later (nx_alloc _ _) (unhide f8_3_2) | exact cell_later (nx_trans (nx_alloc _ _) (nx_alloc _ _)) (unhide f8_3_2) | exact (unhide f8_3_2))
    have f9_4_0 : Hid (w9.cell? ⟨w5.heap.size, 0, none⟩ = some (.int .i64 1)) := cell_later hb9 (by first | exact cell_later (nx_alloc _ _) (unhide f8_4_0) | exact cell_later (nx_trans (nx_alloc _ _) (nx_alloc _ _)) (unhide f8_4_0) | exact (unhide f8_4_0))
    have f9_4_1 : Hid (w9.cell? ⟨w5.heap.size, 1, none⟩ = some (.int .i64 (r1 - 30000 + (r2 - 30000)))) := cell_later hb9 (by first | exact cell_later (nx_alloc _ _) (unhide f8_4_1) | exact cell_later (nx_trans (nx_alloc _ _) (nx_alloc _ _)) (unhide f8_4_1) | exact (unhide f8_4_1))
    have f9_4_2 : Hid (w9.cell? ⟨w5.heap.size, 2, none⟩ = some (.string ⟨#[]⟩)) := cell_later hb9 (by first | exact cell_later (nx_alloc _ _) (unhide f8_4_2) | exact cell_later (nx_trans (nx_alloc _ _) (nx_alloc _ _)) (unhide f8_4_2) | exact (unhide f8_4_2))
    have f9_5_0 : Hid (w9.cell? ⟨w6.heap.size, 0, none⟩ = some (.int .i64 1)) := cell_later hb9 (by first | exact cell_later (nx_alloc _ _) (unhide f8_5_0) | exact cell_later (nx_trans (nx_alloc _ _) (nx_alloc _ _)) (unhide f8_5_0) | exact (unhide f8_5_0))
    have f9_5_1 : Hid (w9.cell? ⟨w6.heap.size, 1, none⟩ = some (.int .i64 (r1 - 30000 + (r2 - 30000)))) := cell_later hb9 (by first | exact cell_later (nx_alloc _ _) (unhide f8_5_1) | exact cell_later (nx_trans (nx_alloc _ _) (nx_alloc _ _)) (unhide f8_5_1) | exact (unhide f8_5_1))
    have f9_5_2 : Hid (w9.cell? ⟨w6.heap.size, 2, none⟩ = some (.string ⟨#[]⟩)) := cell_later hb9 (by first | exact cell_later (nx_alloc _ _) (unhide f8_5_2) | exact cell_later (nx_trans (nx_alloc _ _) (nx_alloc _ _)) (unhide f8_5_2) | exact (unhide f8_5_2))
    have f9_6_0 : Hid (w9.cell? ⟨w7.heap.size, 0, none⟩ = some (.int .i64 2)) := cell_later hb9 (by first | exact cell_later (nx_alloc _ _) (unhide f8_6_0) | exact cell_later (nx_trans (nx_alloc _ _) (nx_alloc _ _)) (unhide f8_6_0) | exact (unhide f8_6_0))
    have f9_6_1 : Hid (w9.cell? ⟨w7.heap.size, 1, none⟩ = some (.int .i64 1)) := cell_later hb9 (by first | exact cell_later (nx_alloc _ _) (unhide f8_6_1) | exact cell_later (nx_trans (nx_alloc _ _) (nx_alloc _ _)) (unhide f8_6_1) | exact (unhide f8_6_1))
    have f9_6_2 : Hid (w9.cell? ⟨w7.heap.size, 2, none⟩ = some (.string ⟨#[]⟩)) := cell_later hb9 (by first | exact cell_later (nx_alloc _ _) (unhide f8_6_2) | exact cell_later (nx_trans (nx_alloc _ _) (nx_alloc _ _)) (unhide f8_6_2) | exact (unhide f8_6_2))
    have f9_7_0 : Hid (w9.cell? ⟨w8.heap.size, 0, none⟩ = some (.int .i64 1)) := cell_later hb9 (by simp)
    have f9_7_1 : Hid (w9.cell? ⟨w8.heap.size, 1, none⟩ = some (.int .i64 (-(r1 - 30000)))) := cell_later hb9 (by simp)
    have f9_7_2 : Hid (w9.cell? ⟨w8.heap.size, 2, none⟩ = some (.string ⟨#[]⟩)) := cell_later hb9 (by simp)
    clear f8_0_0 f8_0_1 f8_0_2 f8_1_0 f8_1_1 f8_1_2 f8_2_0 f8_2_1 f8_2_2 f8_3_0 f8_3_1 f8_3_2 f8_4_0 f8_4_1 f8_4_2 f8_5_0 f8_5_1 f8_5_2 f8_6_0 f8_6_1 f8_6_2
    have hB9 := hide hb9
    clear hb9
    have e0_0 : ∀ o, (w9.alloc o).cell? ⟨w1.heap.size, 0, none⟩ = some (.int .i64 1) := fun o => cell_later (nx_alloc _ _) (unhide f9_0_0)
    have e0_1 : ∀ o, (w9.alloc o).cell? ⟨w1.heap.size, 1, none⟩ = some (.int .i64 (r1 - 30000)) := fun o => cell_later (nx_alloc _ _) (unhide f9_0_1)
    have e0_2 : ∀ o, (w9.alloc o).cell? ⟨w1.heap.size, 2, none⟩ = some (.string ⟨#[]⟩) := fun o => cell_later (nx_alloc _ _) (unhide f9_0_2)
    go_wp2_with fail
    refine (bi_one (r1 - 30000) _ _ _ (inB_of (by omega) (by omega)) (args1 (by simp) (by simp) (by simp))).mono ?_
    rintro e w10 ⟨rfl, hb10⟩
    have f10_0_0 : Hid (w10.cell? ⟨w1.heap.size, 0, none⟩ = some (.int .i64 1)) := cell_later hb10 (by first | exact cell_later (nx_alloc _ _) (unhide f9_0_0) | exact cell_later (nx_trans (nx_alloc _ _) (nx_alloc _ _)) (unhide f9_0_0) | exact (unhide f9_0_0))
    have f10_0_1 : Hid (w10.cell? ⟨w1.heap.size, 1, none⟩ = some (.int .i64 (r1 - 30000))) := cell_later hb10 (by first | exact cell_later (nx_alloc _ _) (unhide f9_0_1) | exact cell_later (nx_trans (nx_alloc _ _) (nx_alloc _ _)) (unhide f9_0_1) | exact (unhide f9_0_1))
    have f10_0_2 : Hid (w10.cell? ⟨w1.heap.size, 2, none⟩ = some (.string ⟨#[]⟩)) := cell_later hb10 (by first | exact cell_later (nx_alloc _ _) (unhide f9_0_2) | exact cell_later (nx_trans (nx_alloc _ _) (nx_alloc _ _)) (unhide f9_0_2) | exact (unhide f9_0_2))
    have f10_1_0 : Hid (w10.cell? ⟨w2.heap.size, 0, none⟩ = some (.int .i64 1)) := cell_later hb10 (by first | exact cell_later (nx_alloc _ _) (unhide f9_1_0) | exact cell_later (nx_trans (nx_alloc _ _) (nx_alloc _ _)) (unhide f9_1_0) | exact (unhide f9_1_0))
    have f10_1_1 : Hid (w10.cell? ⟨w2.heap.size, 1, none⟩ = some (.int .i64 (r2 - 30000))) := cell_later hb10 (by first | exact cell_later (nx_alloc _ _) (unhide f9_1_1) | exact cell_later (nx_trans (nx_alloc _ _) (nx_alloc _ _)) (unhide f9_1_1) | exact (unhide f9_1_1))
    have f10_1_2 : Hid (w10.cell? ⟨w2.heap.size, 2, none⟩ = some (.string ⟨#[]⟩)) := cell_later hb10 (by first | exact cell_later (nx_alloc _ _) (unhide f9_1_2) | exact cell_later (nx_trans (nx_alloc _ _) (nx_alloc _ _)) (unhide f9_1_2) | exact (unhide f9_1_2))
    have f10_2_0 : Hid (w10.cell? ⟨w3.heap.size, 0, none⟩ = some (.int .i64 1)) := cell_later hb10 (by first | exact cell_later (nx_alloc _ _) (unhide f9_2_0) | exact cell_later (nx_trans (nx_alloc _ _) (nx_alloc _ _)) (unhide f9_2_0) | exact (unhide f9_2_0))
    have f10_2_1 : Hid (w10.cell? ⟨w3.heap.size, 1, none⟩ = some (.int .i64 (r2 - 30000))) := cell_later hb10 (by first | exact cell_later (nx_alloc _ _) (unhide f9_2_1) | exact cell_later (nx_trans (nx_alloc _ _) (nx_alloc _ _)) (unhide f9_2_1) | exact (unhide f9_2_1))
    have f10_2_2 : Hid (w10.cell? ⟨w3.heap.size, 2, none⟩ = some (.string ⟨#[]⟩)) := cell_later hb10 (by first | exact cell_later (nx_alloc _ _) (unhide f9_2_2) | exact cell_later (nx_trans (nx_alloc _ _) (nx_alloc _ _)) (unhide f9_2_2) | exact (unhide f9_2_2))
    have f10_3_0 : Hid (w10.cell? ⟨w4.heap.size, 0, none⟩ = some (.int .i64 1)) := cell_later hb10 (by first | exact cell_later (nx_alloc _ _) (unhide f9_3_0) | exact cell_later (nx_trans (nx_alloc _ _) (nx_alloc _ _)) (unhide f9_3_0) | exact (unhide f9_3_0))
    have f10_3_1 : Hid (w10.cell? ⟨w4.heap.size, 1, none⟩ = some (.int .i64 (r1 - 30000))) := cell_later hb10 (by first | exact cell_later (nx_alloc _ _) (unhide f9_3_1) | exact cell_later (nx_trans (nx_alloc _ _) (nx_alloc _ _)) (unhide f9_3_1) | exact (unhide f9_3_1))
    have f10_3_2 : Hid (w10.cell? ⟨w4.heap.size, 2, none⟩ = some (.string ⟨#[]⟩)) := cell_later hb10 (by first | exact cell_later (nx_alloc _ _) (unhide f9_3_2) | exact cell_later (nx_trans (nx_alloc _ _) (nx_alloc _ _)) (unhide f9_3_2) | exact (unhide f9_3_2))
    have f10_4_0 : Hid (w10.cell? ⟨w5.heap.size, 0, none⟩ = some (.int .i64 1)) := cell_later hb10 (by first | exact cell_later (nx_alloc _ _) (unhide f9_4_0) | exact cell_later (nx_trans (nx_alloc _ _) (nx_alloc _ _)) (unhide f9_4_0) | exact (unhide f9_4_0))
    have f10_4_1 : Hid (w10.cell? ⟨w5.heap.size, 1, none⟩ = some (.int .i64 (r1 - 30000 + (r2 - 30000)))) := cell_later hb10 (by first | exact cell_later (nx_alloc _ _) (unhide f9_4_1) | exact cell_later (nx_trans (nx_alloc _ _) (nx_alloc _ _)) (unhide f9_4_1) | exact (unhide f9_4_1))
    have f10_4_2 : Hid (w10.cell? ⟨w5.heap.size, 2, none⟩ = some (.string ⟨#[]⟩)) := cell_later hb10 (by first | exact cell_later (nx_alloc _ _) (unhide f9_4_2) | exact cell_later (nx_trans (nx_alloc _ _) (nx_alloc _ _)) (unhide f9_4_2) | exact (unhide f9_4_2))
    have f10_5_0 : Hid (w10.cell? ⟨w6.heap.size, 0, none⟩ = some (.int .i64 1)) := cell_later hb10 (by first | exact cell_later (nx_alloc _ _) (unhide f9_5_0) | exact cell_later (nx_trans (nx_alloc _ _) (nx_alloc _ _)) (unhide f9_5_0) | exact (unhide f9_5_0))
    have f10_5_1 : Hid (w10.cell? ⟨w6.heap.size, 1, none⟩ = some (.int .i64 (r1 - 30000 + (r2 - 30000)))) := cell_later hb10 (by first | exact cell_later (nx_alloc _ _) (unhide f9_5_1) | exact cell_later (nx_trans (nx_alloc _ _) (nx_alloc _ _)) (unhide f9_5_1) | exact (unhide f9_5_1))
    have f10_5_2 : Hid (w10.cell? ⟨w6.heap.size, 2, none⟩ = some (.string ⟨#[]⟩)) := cell_later hb10 (by first | exact cell_later (nx_alloc _ _) (unhide f9_5_2) | exact cell_later (nx_trans (nx_alloc _ _) (nx_alloc _ _)) (unhide f9_5_2) | exact (unhide f9_5_2))
    have f10_6_0 : Hid (w10.cell? ⟨w7.heap.size, 0, none⟩ = some (.int .i64 2)) := cell_later hb10 (by first | exact cell_later (nx_alloc _ _) (unhide f9_6_0) | exact cell_later (nx_trans (nx_alloc _ _) (nx_alloc _ _)) (unhide f9_6_0) | exact (unhide f9_6_0))
    have f10_6_1 : Hid (w10.cell? ⟨w7.heap.size, 1, none⟩ = some (.int .i64 1)) := cell_later hb10 (by first | exact cell_later (nx_alloc _ _) (unhide f9_6_1) | exact cell_later (nx_trans (nx_alloc _ _) (nx_alloc _ _)) (unhide f9_6_1) | exact (unhide f9_6_1))
    have f10_6_2 : Hid (w10.cell? ⟨w7.heap.size, 2, none⟩ = some (.string ⟨#[]⟩)) := cell_later hb10 (by first | exact cell_later (nx_alloc _ _) (unhide f9_6_2) | exact cell_later (nx_trans (nx_alloc _ _) (nx_alloc _ _)) (unhide f9_6_2) | exact (unhide f9_6_2))
    have f10_7_0 : Hid (w10.cell? ⟨w8.heap.size, 0, none⟩ = some (.int .i64 1)) := cell_later hb10 (by first | exact cell_later (nx_alloc _ _) (unhide f9_7_0) | exact cell_later (nx_trans (nx_alloc _ _) (nx_alloc _ _)) (unhide f9_7_0) | exact (unhide f9_7_0))
    have f10_7_1 : Hid (w10.cell? ⟨w8.heap.size, 1, none⟩ = some (.int .i64 (-(r1 - 30000)))) := cell_later hb10 (by first | exact cell_later (nx_alloc _ _) (unhide f9_7_1) | exact cell_later (nx_trans (nx_alloc _ _) (nx_alloc _ _)) (unhide f9_7_1) | exact (unhide f9_7_1))
    have f10_7_2 : Hid (w10.cell? ⟨w8.heap.size, 2, none⟩ = some (.string ⟨#[]⟩)) := cell_later hb10 (by first | exact cell_later (nx_alloc _ _) (unhide f9_7_2) | exact cell_later (nx_trans (nx_alloc _ _) (nx_alloc _ _)) (unhide f9_7_2) | exact (unhide f9_7_2))
    have f10_8_0 : Hid (w10.cell? ⟨w9.heap.size, 0, none⟩ = some (.int .i64 1)) := cell_later hb10 (by simp)
    have f10_8_1 : Hid (w10.cell? ⟨w9.heap.size, 1, none⟩ = some (.int .i64 (r1 - 30000))) := cell_later hb10 (by simp)
    have f10_8_2 : Hid (w10.cell? ⟨w9.heap.size, 2, none⟩ = some (.string ⟨#[]⟩)) := cell_later hb10 (by simp)
    clear f9_0_0 f9_0_1 f9_0_2 f9_1_0 f9_1_1 f9_1_2 f9_2_0 f9_2_1 f9_2_2 f9_3_0 f9_3_1 f9_3_2 f9_4_0 f9_4_1 f9_4_2 f9_5_0 f9_5_1 f9_5_2 f9_6_0 f9_6_1 f9_6_2 f9_7_0 f9_7_1 f9_7_2 e0_0 e0_1 e0_2
    have hB10 := hide hb10
    clear hb10
    have e0_0 : ∀ o, (w10.alloc o).cell? ⟨w1.heap.size, 0, none⟩ = some (.int .i64 1) := fun o => cell_later (nx_alloc _ _) (unhide f10_0_0)
    have e0_1 : ∀ o, (w10.alloc o).cell? ⟨w1.heap.size, 1, none⟩ = some (.int .i64 (r1 - 30000)) := fun o => cell_later (nx_alloc _ _) (unhide f10_0_1)
    have e0_2 : ∀ o, (w10.alloc o).cell? ⟨w1.heap.size, 2, none⟩ = some (.string ⟨#[]⟩) := fun o => cell_later (nx_alloc _ _) (unhide f10_0_2)
    have e1_0 : ∀ o, (w10.alloc o).cell? ⟨w2.heap.size, 0, none⟩ = some (.int .i64 1) := fun o => cell_later (nx_alloc _ _) (unhide f10_1_0)
    have e1_1 : ∀ o, (w10.alloc o).cell? ⟨w2.heap.size, 1, none⟩ = some (.int .i64 (r2 - 30000)) := fun o => cell_later (nx_alloc _ _) (unhide f10_1_1)
    have e1_2 : ∀ o, (w10.alloc o).cell? ⟨w2.heap.size, 2, none⟩ = some (.string ⟨#[]⟩) := fun o => cell_later (nx_alloc _ _) (unhide f10_1_2)
    have e2_0 : ∀ o, (w10.alloc o).cell? ⟨w3.heap.size, 0, none⟩ = some (.int .i64 1) := fun o => cell_later (nx_alloc _ _) (unhide f10_2_0)
    have e2_1 : ∀ o, (w10.alloc o).cell? ⟨w3.heap.size, 1, none⟩ = some (.int .i64 (r2 - 30000)) := fun o => cell_later (nx_alloc _ _) (unhide f10_2_1)
    have e2_2 : ∀ o, (w10.alloc o).cell? ⟨w3.heap.size, 2, none⟩ = some (.string ⟨#[]⟩) := fun o => cell_later (nx_alloc _ _) (unhide f10_2_2)
    have e4_0 : ∀ o, (w10.alloc o).cell? ⟨w5.heap.size, 0, none⟩ = some (.int .i64 1) := fun o => cell_later (nx_alloc _ _) (unhide f10_4_0)
    have e4_1 : ∀ o, (w10.alloc o).cell? ⟨w5.heap.size, 1, none⟩ = some (.int .i64 (r1 - 30000 + (r2 - 30000))) := fun o => cell_later (nx_alloc _ _) (unhide f10_4_1)
    have e4_2 : ∀ o, (w10.alloc o).cell? ⟨w5.heap.size, 2, none⟩ = some (.string ⟨#[]⟩) := fun o => cell_later (nx_alloc _ _) (unhide f10_4_2)
    have e5_0 : ∀ o, (w10.alloc o).cell? ⟨w6.heap.size, 0, none⟩ = some (.int .i64 1) := fun o => cell_later (nx_alloc _ _) (unhide f10_5_0)
    have e5_1 : ∀ o, (w10.alloc o).cell? ⟨w6.heap.size, 1, none⟩ = some (.int .i64 (r1 - 30000 + (r2 - 30000))) := fun o => cell_later (nx_alloc _ _) (unhide f10_5_1)
    have e5_2 : ∀ o, (w10.alloc o).cell? ⟨w6.heap.size, 2, none⟩ = some (.string ⟨#[]⟩) := fun o => cell_later (nx_alloc _ _) (unhide f10_5_2)
    have e6_0 : ∀ o, (w10.alloc o).cell? ⟨w7.heap.size, 0, none⟩ = some (.int .i64 2) := fun o => cell_later (nx_alloc _ _) (unhide f10_6_0)
    have e6_1 : ∀ o, (w10.alloc o).cell? ⟨w7.heap.size, 1, none⟩ = some (.int .i64 1) := fun o => cell_later (nx_alloc _ _) (unhide f10_6_1)
    have e6_2 : ∀ o, (w10.alloc o).cell? ⟨w7.heap.size, 2, none⟩ = some (.string ⟨#[]⟩) := fun o => cell_later (nx_alloc _ _) (unhide f10_6_2)
    have e8_0 : ∀ o, (w10.alloc o).cell? ⟨w9.heap.size, 0, none⟩ = some (.int .i64 1) := fun o => cell_later (nx_alloc _ _) (unhide f10_8_0)
    have e8_1 : ∀ o, (w10.alloc o).cell? ⟨w9.heap.size, 1, none⟩ = some (.int .i64 (r1 - 30000)) := fun o => cell_later (nx_alloc _ _) (unhide f10_8_1)
    have e8_2 : ∀ o, (w10.alloc o).cell? ⟨w9.heap.size, 2, none⟩ = some (.string ⟨#[]⟩) := fun o => cell_later (nx_alloc _ _) (unhide f10_8_2)
    clear f10_0_0 f10_0_1 f10_0_2 f10_1_0 f10_1_1 f10_1_2 f10_2_0 f10_2_1 f10_2_2 f10_3_0 f10_3_1 f10_3_2 f10_4_0 f10_4_1 f10_4_2 f10_5_0 f10_5_1 f10_5_2 f10_6_0 f10_6_1 f10_6_2 f10_7_0 f10_7_1 f10_7_2 f10_8_0 f10_8_1 f10_8_2
    go_wp2
    go_quiet (fail)
    go_wp2
    go_ret
    exact ⟨rfl, below_drewN (nx_al (nx_trans (nx_al (nx_al (nx_trans (nx_al (nx_trans (nx_al (nx_trans (nx_al (nx_trans (nx_al (nx_trans (nx_al (nx_trans (nx_al (nx_al (nx_trans (nx_al (nx_al (nx_trans (nx_al (unhide hB1)) (unhide hB2)))) (unhide hB3)))) (unhide hB4))) (unhide hB5))) (unhide hB6))) (unhide hB7))) (unhide hB8))) (unhide hB9)))) (unhide hB10))) _⟩
  · subst h
    have f2_0_0 : Hid (w2.cell? ⟨w1.heap.size, 0, none⟩ = some (.int .i64 1)) := cell_later hb2 (by simp)
    have f2_0_1 : Hid (w2.cell? ⟨w1.heap.size, 1, none⟩ = some (.int .i64 (r1 - 30000))) := cell_later hb2 (by simp)
    have f2_0_2 : Hid (w2.cell? ⟨w1.heap.size, 2, none⟩ = some (.string ⟨#[]⟩)) := cell_later hb2 (by simp)
    have hB1 := hide hb1
    have hB2 := hide hb2
    clear hb1 hb2
    have e0_0 : ∀ o, (w2.alloc o).cell? ⟨w1.heap.size, 0, none⟩ = some (.int .i64 1) := fun o => cell_later (nx_alloc _ _) (unhide f2_0_0)
    have e0_1 : ∀ o, (w2.alloc o).cell? ⟨w1.heap.size, 1, none⟩ = some (.int .i64 (r1 - 30000)) := fun o => cell_later (nx_alloc _ _) (unhide f2_0_1)
    have e0_2 : ∀ o, (w2.alloc o).cell? ⟨w1.heap.size, 2, none⟩ = some (.string ⟨#[]⟩) := fun o => cell_later (nx_alloc _ _) (unhide f2_0_2)
    go_wp2_with fail
    refine (bi_max (r1 - 30000) (r1 - 30000) (r1 - 30000) _ _ _ (inB_of (by omega) (by omega)) (inB_of (by omega) (by omega)) (by omega) (args2 (by simp) (by simp) (by simp) (by simp) (by simp) (by simp))).mono ?_
    rintro e w3 ⟨rfl, hb3⟩
    have f3_0_0 : Hid (w3.cell? ⟨w1.heap.size, 0, none⟩ = some (.int .i64 1)) := cell_later hb3 (by first | exact cell_later (nx_alloc _ _) (unhide f2_0_0) | exact cell_later (nx_trans (nx_alloc _ _) (nx_alloc _ _)) (unhide f2_0_0) | exact (unhide f2_0_0))
    have f3_0_1 : Hid (w3.cell? ⟨w1.heap.size, 1, none⟩ = some (.int .i64 (r1 - 30000))) := cell_later hb3 (by first | exact cell_later (nx_alloc _ _) (unhide f2_0_1) | exact cell_later (nx_trans (nx_alloc _ _) (nx_alloc _ _)) (unhide f2_0_1) | exact (unhide f2_0_1))
    have f3_0_2 : Hid (w3.cell? ⟨w1.heap.size, 2, none⟩ = some (.string ⟨#[]⟩)) := cell_later hb3 (by first | exact cell_later (nx_alloc _ _) (unhide f2_0_2) | exact cell_later (nx_trans (nx_alloc _ _) (nx_alloc _ _)) (unhide f2_0_2) | exact (unhide f2_0_2))
    have f3_1_0 : Hid (w3.cell? ⟨w2.heap.size, 0, none⟩ = some (.int .i64 1)) := cell_later hb3 (by simp)
    have f3_1_1 : Hid (w3.cell? ⟨w2.heap.size, 1, none⟩ = some (.int .i64 (r1 - 30000))) := cell_later hb3 (by simp)
    have f3_1_2 : Hid (w3.cell? ⟨w2.heap.size, 2, none⟩ = some (.string ⟨#[]⟩)) := cell_later hb3 (by simp)
    clear f2_0_0 f2_0_1 f2_0_2 e0_0 e0_1 e0_2
    have hB3 := hide hb3
    clear hb3
    have e0_0 : ∀ o, (w3.alloc o).cell? ⟨w1.heap.size, 0, none⟩ = some (.int .i64 1) := fun o => cell_later (nx_alloc _ _) (unhide f3_0_0)
    have e0_1 : ∀ o, (w3.alloc o).cell? ⟨w1.heap.size, 1, none⟩ = some (.int .i64 (r1 - 30000)) := fun o => cell_later (nx_alloc _ _) (unhide f3_0_1)
    have e0_2 : ∀ o, (w3.alloc o).cell? ⟨w1.heap.size, 2, none⟩ = some (.string ⟨#[]⟩) := fun o => cell_later (nx_alloc _ _) (unhide f3_0_2)
    have e1_0 : ∀ o, (w3.alloc o).cell? ⟨w2.heap.size, 0, none⟩ = some (.int .i64 1) := fun o => cell_later (nx_alloc _ _) (unhide f3_1_0)
    have e1_1 : ∀ o, (w3.alloc o).cell? ⟨w2.heap.size, 1, none⟩ = some (.int .i64 (r1 - 30000)) := fun o => cell_later (nx_alloc _ _) (unhide f3_1_1)
    have e1_2 : ∀ o, (w3.alloc o).cell? ⟨w2.heap.size, 2, none⟩ = some (.string ⟨#[]⟩) := fun o => cell_later (nx_alloc _ _) (unhide f3_1_2)
    go_wp2_with fail
    refine (bi_min (r1 - 30000) (r1 - 30000) (r1 - 30000) _ _ _ (inB_of (by omega) (by omega)) (inB_of (by omega) (by omega)) (by omega) (args2 (by simp) (by simp) (by simp) (by simp) (by simp) (by simp))).mono ?_
    rintro e w4 ⟨rfl, hb4⟩
    have f4_0_0 : Hid (w4.cell? ⟨w1.heap.size, 0, none⟩ = some (.int .i64 1)) := cell_later hb4 (by first | exact cell_later (nx_alloc _ _) (unhide f3_0_0) | exact cell_later (nx_trans (nx_alloc _ _) (nx_alloc _ _)) (unhide f3_0_0) | exact (unhide f3_0_0))
    have f4_0_1 : Hid (w4.cell? ⟨w1.heap.size, 1, none⟩ = some (.int .i64 (r1 - 30000))) := cell_later hb4 (by first | exact cell_later (nx_alloc _ _) (unhide f3_0_1) | exact cell_later (nx_trans (nx_alloc _ _) (nx_alloc _ _)) (unhide f3_0_1) | exact (unhide f3_0_1))
    have f4_0_2 : Hid (w4.cell? ⟨w1.heap.size, 2, none⟩ = some (.string ⟨#[]⟩)) := cell_later hb4 (by first | exact cell_later (nx_alloc _ _) (unhide f3_0_2) | exact cell_later (nx_trans (nx_alloc _ _) (nx_alloc _ _)) (unhide f3_0_2) | exact (unhide f3_0_2))
    have f4_1_0 : Hid (w4.cell? ⟨w2.heap.size, 0, none⟩ = some (.int .i64 1)) := cell_later hb4 (by first | exact cell_later (nx_alloc _ _) (unhide f3_1_0) | exact cell_later (nx_trans (nx_alloc _ _) (nx_alloc _ _)) (unhide f3_1_0) | exact (unhide f3_1_0))
    have f4_1_1 : Hid (w4.cell? ⟨w2.heap.size, 1, none⟩ = some (.int .i64 (r1 - 30000))) := cell_later hb4 (by first | exact cell_later (nx_alloc _ _) (unhide f3_1_1) | exact cell_later (nx_trans (nx_alloc _ _) (nx_alloc _ _)) (unhide f3_1_1) | exact (unhide f3_1_1))
    have f4_1_2 : Hid (w4.cell? ⟨w2.heap.size, 2, none⟩ = some (.string ⟨#[]⟩)) := cell_later hb4 (by first | exact cell_later (nx_alloc _ _) (unhide f3_1_2) | exact cell_later (nx_trans (nx_alloc _ _) (nx_alloc _ _)) (unhide f3_1_2) | exact (unhide f3_1_2))
    have f4_2_0 : Hid (w4.cell? ⟨w3.heap.size, 0, none⟩ = some (.int .i64 1)) := cell_later hb4 (by simp)
    have f4_2_1 : Hid (w4.cell? ⟨w3.heap.size, 1, none⟩ = some (.int .i64 (r1 - 30000))) := cell_later hb4 (by simp)
    have f4_2_2 : Hid (w4.cell? ⟨w3.heap.size, 2, none⟩ = some (.string ⟨#[]⟩)) := cell_later hb4 (by simp)
    clear f3_0_0 f3_0_1 f3_0_2 f3_1_0 f3_1_1 f3_1_2 e0_0 e0_1 e0_2 e1_0 e1_1 e1_2
    have hB4 := hide hb4
    clear hb4
    have e2_0 : ∀ o, (w4.alloc o).cell? ⟨w3.heap.size, 0, none⟩ = some (.int .i64 1) := fun o => cell_later (nx_alloc _ _) (unhide f4_2_0)
    have e2_1 : ∀ o, (w4.alloc o).cell? ⟨w3.heap.size, 1, none⟩ = some (.int .i64 (r1 - 30000)) := fun o => cell_later (nx_alloc _ _) (unhide f4_2_1)
    have e2_2 : ∀ o, (w4.alloc o).cell? ⟨w3.heap.size, 2, none⟩ = some (.string ⟨#[]⟩) := fun o => cell_later (nx_alloc _ _) (unhide f4_2_2)
    go_wp2_with fail
    refine (bin_add (r1 - 30000) (r1 - 30000) (r1 - 30000 + (r1 - 30000)) _ (inB_of (by omega) (by omega)) (inB_of (by omega) (by omega)) (inB_of (by omega) (by omega)) (by omega)).mono ?_
    rintro e w5 ⟨rfl, hb5⟩
    have f5_0_0 : Hid (w5.cell? ⟨w1.heap.size, 0, none⟩ = some (.int .i64 1)) := cell_later hb5 (by first | exact cell_later (nx_alloc _ _) (unhide f4_0_0) | exact cell_later (nx_trans (nx_alloc _ _) (nx_alloc _ _)) (unhide f4_0_0) | exact (unhide f4_0_0))
    have f5_0_1 : Hid (w5.cell? ⟨w1.heap.size, 1, none⟩ = some (.int .i64 (r1 - 30000))) := cell_later hb5 (by first | exact cell_later (nx_alloc _ _) (unhide f4_0_1) | exact cell_later (nx_trans (nx_alloc _ _) (nx_alloc _ _)) (unhide f4_0_1) | exact (unhide f4_0_1))
    have f5_0_2 : Hid (w5.cell? ⟨w1.heap.size, 2, none⟩ = some (.string ⟨#[]⟩)) := cell_later hb5 (by first | exact cell_later (nx_alloc _ _) (unhide f4_0_2) | exact cell_later (nx_trans (nx_alloc _ _) (nx_alloc _ _)) (unhide f4_0_2) | exact (unhide f4_0_2))
    have f5_1_0 : Hid (w5.cell? ⟨w2.heap.size, 0, none⟩ = some (.int .i64 1)) := cell_later hb5 (by first | exact cell_later (nx_alloc _ _) (unhide f4_1_0) | exact cell_later (nx_trans (nx_alloc _ _) (nx_alloc _ _)) (unhide f4_1_0) | exact (unhide f4_1_0))
    have f5_1_1 : Hid (w5.cell? ⟨w2.heap.size, 1, none⟩ = some (.int .i64 (r1 - 30000))) := cell_later hb5 (by first | exact cell_later (nx_alloc _ _) (unhide f4_1_1) | exact cell_later (nx_trans (nx_alloc _ _) (nx_alloc _ _)) (unhide f4_1_1) | exact (unhide f4_1_1))
    have f5_1_2 : Hid (w5.cell? ⟨w2.heap.size, 2, none⟩ = some (.string ⟨#[]⟩)) := cell_later hb5 (by first | exact cell_later (nx_alloc _ _) (unhide f4_1_2) | exact cell_later (nx_trans (nx_alloc _ _) (nx_alloc _ _)) (unhide f4_1_2) | exact (unhide f4_1_2))
    have f5_2_0 : Hid (w5.cell? ⟨w3.heap.size, 0, none⟩ = some (.int .i64 1)) := cell_later hb5 (by first | exact cell_later (nx_alloc _ _) (unhide f4_2_0) | exact cell_later (nx_trans (nx_alloc _ _) (nx_alloc _ _)) (unhide f4_2_0) | exact (unhide f4_2_0))
    have f5_2_1 : Hid (w5.cell? ⟨w3.heap.size, 1, none⟩ = some (.int .i64 (r1 - 30000))) := cell_later hb5 (by first | exact cell_later (nx_alloc _ _) (unhide f4_2_1) | exact cell_later (nx_trans (nx_alloc _ _) (nx_alloc _ _)) (unhide f4_2_1) | exact (unhide f4_2_1))
    have f5_2_2 : Hid (w5.cell? ⟨w3.heap.size, 2, none⟩ = some (.string ⟨#[]⟩)) := cell_later hb5 (by first | exact cell_later (nx_alloc _ _) (unhide f4_2_2) | exact cell_later (nx_trans (nx_alloc _ _) (nx_alloc _ _)) (unhide f4_2_2) | exact (unhide f4_2_2))
    have f5_3_0 : Hid (w5.cell? ⟨w4.heap.size, 0, none⟩ = some (.int .i64 1)) := cell_later hb5 (by simp)
    have f5_3_1 : Hid (w5.cell? ⟨w4.heap.size, 1, none⟩ = some (.int .i64 (r1 - 30000))) := cell_later hb5 (by simp)
    have f5_3_2 : Hid (w5.cell? ⟨w4.heap.size, 2, none⟩ = some (.string ⟨#[]⟩)) := cell_later hb5 (by simp)
    clear f4_0_0 f4_0_1 f4_0_2 f4_1_0 f4_1_1 f4_1_2 f4_2_0 f4_2_1 f4_2_2 e2_0 e2_1 e2_2
    have hB5 := hide hb5
    clear hb5
    have e0_0 : ∀ o, (w5.alloc o).cell? ⟨w1.heap.size, 0, none⟩ = some (.int .i64 1) := fun o => cell_later (nx_alloc _ _) (unhide f5_0_0)
    have e0_1 : ∀ o, (w5.alloc o).cell? ⟨w1.heap.size, 1, none⟩ = some (.int .i64 (r1 - 30000)) := fun o => cell_later (nx_alloc _ _) (unhide f5_0_1)
    have e0_2 : ∀ o, (w5.alloc o).cell? ⟨w1.heap.size, 2, none⟩ = some (.string ⟨#[]⟩) := fun o => cell_later (nx_alloc _ _) (unhide f5_0_2)
    have e1_0 : ∀ o, (w5.alloc o).cell? ⟨w2.heap.size, 0, none⟩ = some (.int .i64 1) := fun o => cell_later (nx_alloc _ _) (unhide f5_1_0)
    have e1_1 : ∀ o, (w5.alloc o).cell? ⟨w2.heap.size, 1, none⟩ = some (.int .i64 (r1 - 30000)) := fun o => cell_later (nx_alloc _ _) (unhide f5_1_1)
    have e1_2 : ∀ o, (w5.alloc o).cell? ⟨w2.heap.size, 2, none⟩ = some (.string ⟨#[]⟩) := fun o => cell_later (nx_alloc _ _) (unhide f5_1_2)
    go_wp2_with fail
    refine (bin_add (r1 - 30000) (r1 - 30000) (r1 - 30000 + (r1 - 30000)) _ (inB_of (by omega) (by omega)) (inB_of (by omega) (by omega)) (inB_of (by omega) (by omega)) (by omega)).mono ?_
    rintro e w6 ⟨rfl, hb6⟩
    have f6_0_0 : Hid (w6.cell? ⟨w1.heap.size, 0, none⟩ = some (.int .i64 1)) := cell_later hb6 (by first | exact cell_later (nx_alloc _ _) (unhide f5_0_0) | exact cell_later (nx_trans (nx_alloc _ _) (nx_alloc _ _)) (unhide f5_0_0) | exact (unhide f5_0_0))
    have f6_0_1 : Hid (w6.cell? ⟨w1.heap.size, 1, none⟩ = some (.int .i64 (r1 - 30000))) := cell_later hb6 (by first | exact cell_later (nx_alloc _ _) (unhide f5_0_1) | exact cell_later (nx_trans (nx_alloc _ _) (nx_alloc _ _)) (unhide f5_0_1) | exact (unhide f5_0_1))
    have f6_0_2 : Hid (w6.cell? ⟨w1.heap.size, 2, none⟩ = some (.string ⟨#[]⟩)) := cell_later hb6 (by first | exact cell_later (nx_alloc _ _) (unhide f5_0_2) | exact cell_later (nx_trans (nx_alloc _ _) (nx_alloc _ _)) (unhide f5_0_2) | exact (unhide f5_0_2))
    have f6_1_0 : Hid (w6.cell? ⟨w2.heap.size, 0, none⟩ = some (.int .i64 1)) := cell_later hb6 (by first | exact cell_later (nx_alloc _ _) (unhide f5_1_0) | exact cell_later (nx_trans (nx_alloc _ _) (nx_alloc _ _)) (unhide f5_1_0) | exact (unhide f5_1_0))
    have f6_1_1 : Hid (w6.cell? ⟨w2.heap.size, 1, none⟩ = some (.int .i64 (r1 - 30000))) := cell_later hb6 (by first | exact cell_later (nx_alloc _ _) (unhide f5_1_1) | exact cell_later (nx_trans (nx_alloc _ _) (nx_alloc _ _)) (unhide f5_1_1) | exact (unhide f5_1_1))
    have f6_1_2 : Hid (w6.cell? ⟨w2.heap.size, 2, none⟩ = some (.string ⟨#[]⟩)) := cell_later hb6 (by first | exact cell_later (nx_alloc _ _) (unhide f5_1_2) | exact cell_later (nx_trans (nx_alloc _ _) (nx_alloc _ _)) (unhide f5_1_2) | exact (unhide f5_1_2))
    have f6_2_0 : Hid (w6.cell? ⟨w3.heap.size, 0, none⟩ = some (.int .i64 1)) := cell_later hb6 (by first | exact cell_later (nx_alloc _ _) (unhide f5_2_0) | exact cell_later (nx_trans (nx_alloc _ _) (nx_alloc _ _)) (unhide f5_2_0) | exact (unhide f5_2_0))
    have f6_2_1 : Hid (w6.cell? ⟨w3.heap.size, 1, none⟩ = some (.int .i64 (r1 - 30000))) := cell_later hb6 (by first | exact cell_later (nx_alloc _ _) (unhide f5_2_1) | exact cell_later (nx_trans (nx_alloc _ _) (nx_alloc _ _)) (unhide f5_2_1) | exact (unhide f5_2_1))
    have f6_2_2 : Hid (w6.cell? ⟨w3.heap.size, 2, none⟩ = some (.string ⟨#[]⟩)) := cell_later hb6 (by first | exact cell_later (nx_alloc _ _) (unhide f5_2_2) | exact cell_later (nx_trans (nx_alloc _ _) (nx_alloc _ _)) (unhide f5_2_2) | exact (unhide f5_2_2))
    have f6_3_0 : Hid (w6.cell? ⟨w4.heap.size, 0, none⟩ = some (.int .i64 1)) := cell_later hb6 (by first | exact cell_later (nx_alloc _ _) (unhide f5_3_0) | exact cell_later (nx_trans (nx_alloc _ _) (nx_alloc _ _)) (unhide f5_3_0) | exact (unhide f5_3_0))
    have f6_3_1 : Hid (w6.cell? ⟨w4.heap.size, 1, none⟩ = some (.int .i64 (r1 - 30000))) := cell_later hb6 (by first | exact cell_later (nx_alloc _ _) (unhide f5_3_1) | exact cell_later (nx_trans (nx_alloc _ _) (nx_alloc _ _)) (unhide f5_3_1) | exact (unhide f5_3_1))
    have f6_3_2 : Hid (w6.cell? ⟨w4.heap.size, 2, none⟩ = some (.string ⟨#[]⟩)) := cell_later hb6 (by first | exact cell_later (nx_alloc _ _) (unhide f5_3_2) | exact cell_later (nx_trans (nx_alloc _ _) (nx_alloc _ _)) (unhide f5_3_2) | exact (unhide f5_3_2))
    have f6_4_0 : Hid (w6.cell? ⟨w5.heap.size, 0, none⟩ = some (.int .i64 1)) := cell_later hb6 (by simp)
    have f6_4_1 : Hid (w6.cell? ⟨w5.heap.size, 1, none⟩ = some (.int .i64 (r1 - 30000 + (r1 - 30000)))) := cell_later hb6 (by simp)
    have f6_4_2 : Hid (w6.cell? ⟨w5.heap.size, 2, none⟩ = some (.string ⟨#[]⟩)) := cell_later hb6 (by simp)
    clear f5_0_0 f5_0_1 f5_0_2 f5_1_0 f5_1_1 f5_1_2 f5_2_0 f5_2_1 f5_2_2 f5_3_0 f5_3_1 f5_3_2 e0_0 e0_1 e0_2 e1_0 e1_1 e1_2
    have hB6 := hide hb6
    clear hb6
    have e0_0 : ∀ o, (w6.alloc o).cell? ⟨w1.heap.size, 0, none⟩ = some (.int .i64 1) := fun o => cell_later (nx_alloc _ _) (unhide f6_0_0)
    have e0_1 : ∀ o, (w6.alloc o).cell? ⟨w1.heap.size, 1, none⟩ = some (.int .i64 (r1 - 30000)) := fun o => cell_later (nx_alloc _ _) (unhide f6_0_1)
    have e0_2 : ∀ o, (w6.alloc o).cell? ⟨w1.heap.size, 2, none⟩ = some (.string ⟨#[]⟩) := fun o => cell_later (nx_alloc _ _) (unhide f6_0_2)
    have e1_0 : ∀ o, (w6.alloc o).cell? ⟨w2.heap.size, 0, none⟩ = some (.int .i64 1) := fun o => cell_later (nx_alloc _ _) (unhide f6_1_0)
    have e1_1 : ∀ o, (w6.alloc o).cell? ⟨w2.heap.size, 1, none⟩ = some (.int .i64 (r1 - 30000)) := fun o => cell_later (nx_alloc _ _) (unhide f6_1_1)
    have e1_2 : ∀ o, (w6.alloc o).cell? ⟨w2.heap.size, 2, none⟩ = some (.string ⟨#[]⟩) := fun o => cell_later (nx_alloc _ _) (unhide f6_1_2)
    go_wp2_with fail
    refine (bin_lt (r1 - 30000) (r1 - 30000) false 0 _ (inB_of (by omega) (by omega)) (inB_of (by omega) (by omega)) (by first | (simp; done) | (simp; omega)) rfl).mono ?_
    rintro e w7 ⟨rfl, hb7⟩
    have f7_0_0 : Hid (w7.cell? ⟨w1.heap.size, 0, none⟩ = some (.int .i64 1)) := cell_later hb7 (by first | exact cell_later (nx_alloc _ _) (unhide f6_0_0) | exact cell_later (nx_trans (nx_alloc _ _) (nx_alloc _ _)) (unhide f6_0_0) | exact (unhide f6_0_0))
    have f7_0_1 : Hid (w7.cell? ⟨w1.heap.size, 1, none⟩ = some (.int .i64 (r1 - 30000))) := cell_later hb7 (by first | exact cell_later (nx_alloc _ _) (unhide f6_0_1) | exact cell_later (nx_trans (nx_alloc _ _) (nx_alloc _ _)) (unhide f6_0_1) | exact (unhide f6_0_1))
    have f7_0_2 : Hid (w7.cell? ⟨w1.heap.size, 2, none⟩ = some (.string ⟨#[]⟩)) := cell_later hb7 (by first | exact cell_later (nx_alloc _ _) (unhide f6_0_2) | exact cell_later (nx_trans (nx_alloc _ _) (nx_alloc _ _)) (unhide f6_0_2) | exact (unhide f6_0_2))
    have f7_1_0 : Hid (w7.cell? ⟨w2.heap.size, 0, none⟩ = some (.int .i64 1)) := cell_later hb7 (by first | exact cell_later (nx_alloc _ _) (unhide f6_1_0) | exact cell_later (nx_trans (nx_alloc _ _) (nx_alloc _ _)) (unhide f6_1_0) | exact (unhide f6_1_0))
    have f7_1_1 : Hid (w7.cell? ⟨w2.heap.size, 1, none⟩ = some (.int .i64 (r1 - 30000))) := cell_later hb7 (by first | exact cell_later (nx_alloc _ _) (unhide f6_1_1) | exact cell_later (nx_trans (nx_alloc _ _) (nx_alloc _ _)) (unhide f6_1_1) | exact (unhide f6_1_1))
    have f7_1_2 : Hid (w7.cell? ⟨w2.heap.size, 2, none⟩ = some (.string ⟨#[]⟩)) := cell_later hb7 (by first | exact cell_later (nx_alloc _ _) (unhide f6_1_2) | exact cell_later (nx_trans (nx_alloc _ _) (nx_alloc _ _)) (unhide f6_1_2) | exact (unhide f6_1_2))
    have f7_2_0 : Hid (w7.cell? ⟨w3.heap.size, 0, none⟩ = some (.int .i64 1)) := cell_later hb7 (by first | exact cell_later (nx_alloc _ _) (unhide f6_2_0) | exact cell_later (nx_trans (nx_alloc _ _) (nx_alloc _ _)) (unhide f6_2_0) | exact (unhide f6_2_0))
    have f7_2_1 : Hid (w7.cell? ⟨w3.heap.size, 1, none⟩ = some (.int .i64 (r1 - 30000))) := cell_later hb7 (by first | exact cell_later (nx_alloc _ _) (unhide f6_2_1) | exact cell_later (nx_trans (nx_alloc _ _) (nx_alloc _ _)) (unhide f6_2_1) | exact (unhide f6_2_1))
    have f7_2_2 : Hid (w7.cell? ⟨w3.heap.size, 2, none⟩ = some (.string ⟨#[]⟩)) := cell_later hb7 (by first | exact cell_later (nx_alloc _ _) (unhide f6_2_2) | exact cell_later (nx_trans (nx_alloc _ _) (nx_alloc _ _)) (unhide f6_2_2) | exact (unhide f6_2_2))
    have f7_3_0 : Hid (w7.cell? ⟨w4.heap.size, 0, none⟩ = some (.int .i64 1)) := cell_later hb7 (by first | exact cell_later (nx_alloc _ _) (unhide f6_3_0) | exact cell_later (nx_trans (nx_alloc _ _) (nx_alloc _ _)) (unhide f6_3_0) | exact (unhide f6_3_0))
    have f7_3_1 : Hid (w7.cell? ⟨w4.heap.size, 1, none⟩ = some (.int .i64 (r1 - 30000))) := cell_later hb7 (by first | exact cell_later (nx_alloc _ _) (unhide f6_3_1) | exact cell_later (nx_trans (nx_alloc _ _) (nx_alloc _ _)) (unhide f6_3_1) | exact (unhide f6_3_1))
    have f7_3_2 : Hid (w7.cell? ⟨w4.heap.size, 2, none⟩ = some (.string ⟨#[]⟩)) := cell_later hb7 (by first | exact cell_later (nx_alloc _ _) (unhide f6_3_2) | exact cell_later (nx_trans (nx_alloc _ _) (nx_alloc _ _)) (unhide f6_3_2) | exact (unhide f6_3_2))
    have f7_4_0 : Hid (w7.cell? ⟨w5.heap.size, 0, none⟩ = some (.int .i64 1)) := cell_later hb7 (by first | exact cell_later (nx_alloc _ _) (unhide f6_4_0) | exact cell_later (nx_trans (nx_alloc _ _) (nx_alloc _ _)) (unhide f6_4_0) | exact (unhide f6_4_0))
    have f7_4_1 : Hid (w7.cell? ⟨w5.heap.size, 1, none⟩ = some (.int .i64 (r1 - 30000 + (r1 - 30000)))) := cell_later hb7 (by first | exact cell_later (nx_alloc _ _) (unhide f6_4_1) | exact cell_later (nx_trans (nx_alloc _ _) (nx_alloc _ _)) (unhide f6_4_1) | exact (unhide f6_4_1))
    have f7_4_2 : Hid (w7.cell? ⟨w5.heap.size, 2, none⟩ = some (.string ⟨#[]⟩)) := cell_later hb7 (by first | exact cell_later (nx_alloc _ _) (unhide f6_4_2) | exact cell_later (nx_trans (nx_alloc _ _) (nx_alloc _ _)) (unhide f6_4_2) | exact (unhide f6_4_2))
    have f7_5_0 : Hid (w7.cell? ⟨w6.heap.size, 0, none⟩ = some (.int .i64 1)) := cell_later hb7 (by simp)
    have f7_5_1 : Hid (w7.cell? ⟨w6.heap.size, 1, none⟩ = some (.int .i64 (r1 - 30000 + (r1 - 30000)))) := cell_later hb7 (by simp)
    have f7_5_2 : Hid (w7.cell? ⟨w6.heap.size, 2, none⟩ = some (.string ⟨#[]⟩)) := cell_later hb7 (by simp)
    clear f6_0_0 f6_0_1 f6_0_2 f6_1_0 f6_1_1 f6_1_2 f6_2_0 f6_2_1 f6_2_2 f6_3_0 f6_3_1 f6_3_2 f6_4_0 f6_4_1 f6_4_2 e0_0 e0_1 e0_2 e1_0 e1_1 e1_2
    have hB7 := hide hb7
    clear hb7
    have e0_0 : ∀ o, (w7.alloc o).cell? ⟨w1.heap.size, 0, none⟩ = some (.int .i64 1) := fun o => cell_later (nx_alloc _ _) (unhide f7_0_0)
    have e0_1 : ∀ o, (w7.alloc o).cell? ⟨w1.heap.size, 1, none⟩ = some (.int .i64 (r1 - 30000)) := fun o => cell_later (nx_alloc _ _) (unhide f7_0_1)
    have e0_2 : ∀ o, (w7.alloc o).cell? ⟨w1.heap.size, 2, none⟩ = some (.string ⟨#[]⟩) := fun o => cell_later (nx_alloc _ _) (unhide f7_0_2)
    go_wp2_with fail
    refine (un_neg (r1 - 30000) (-(r1 - 30000)) _ (inB_of (by omega) (by omega)) (inB_of (by omega) (by omega)) rfl).mono ?_
    rintro e w8 ⟨rfl, hb8⟩
    have f8_0_0 : Hid (w8.cell? ⟨w1.heap.size, 0, none⟩ = some (.int .i64 1)) := cell_later hb8 (by first | exact cell_later (nx_alloc _ _) (unhide f7_0_0) | exact cell_later (nx_trans (nx_alloc _ _) (nx_alloc _ _)) (unhide f7_0_0) | exact (unhide f7_0_0))
    have f8_0_1 : Hid (w8.cell? ⟨w1.heap.size, 1, none⟩ = some (.int .i64 (r1 - 30000))) := cell_later hb8 (by first | exact cell_later (nx_alloc _ _) (unhide f7_0_1) | exact cell_later (nx_trans (nx_alloc _ _) (nx_alloc _ _)) (unhide f7_0_1) | exact (unhide f7_0_1))
    have f8_0_2 : Hid (w8.cell? ⟨w1.heap.size, 2, none⟩ = some (.string ⟨#[]⟩)) := cell_later hb8 (by first | exact cell_later (nx_alloc _ _) (unhide f7_0_2) | exact cell_later (nx_trans (nx_alloc _ _) (nx_alloc _ _)) (unhide f7_0_2) | exact (unhide f7_0_2))
    have f8_1_0 : Hid (w8.cell? ⟨w2.heap.size, 0, none⟩ = some (.int .i64 1)) := cell_later hb8 (by first | exact cell_later (nx_alloc _ _) (unhide f7_1_0) | exact cell_later (nx_trans (nx_alloc _ _) (nx_alloc _ _)) (unhide f7_1_0) | exact (unhide f7_1_0))
    have f8_1_1 : Hid (w8.cell? ⟨w2.heap.size, 1, none⟩ = some (.int .i64 (r1 - 30000))) := cell_later hb8 (by first | exact cell_later (nx_alloc _ _) (unhide f7_1_1) | exact cell_later (nx_trans (nx_alloc _ _) (nx_alloc _ _)) (unhide f7_1_1) | exact (unhide f7_1_1))
    have f8_1_2 : Hid (w8.cell? ⟨w2.heap.size, 2, none⟩ = some (.string ⟨#[]⟩)) := cell_later hb8 (by first | exact cell_later (nx_alloc _ _) (unhide f7_1_2) | exact cell_later (nx_trans (nx_alloc _ _) (nx_alloc _ _)) (unhide f7_1_2) | exact (unhide f7_1_2))
    have f8_2_0 : Hid (w8.cell? ⟨w3.heap.size, 0, none⟩ = some (.int .i64 1)) := cell_later hb8 (by first | exact cell_later (nx_alloc _ _) (unhide f7_2_0) | exact cell_later (nx_trans (nx_alloc _ _) (nx_alloc _ _)) (unhide f7_2_0) | exact (unhide f7_2_0))
    have f8_2_1 : Hid (w8.cell? ⟨w3.heap.size, 1, none⟩ = some (.int .i64 (r1 - 30000))) := cell_later hb8 (by first | exact cell_later (nx_alloc _ _) (unhide f7_2_1) | exact cell_later (nx_trans (nx_alloc _ _) (nx_alloc _ _)) (unhide f7_2_1) | exact (unhide f7_2_1))
    have f8_2_2 : Hid (w8.cell? ⟨w3.heap.size, 2, none⟩ = some (.string ⟨#[]⟩)) := cell_later hb8 (by first | exact cell_later (nx_alloc _ _) (unhide f7_2_2) | exact cell_later (nx_trans (nx_alloc _ _) (nx_alloc _ _)) (unhide f7_2_2) | exact (unhide f7_2_2))
    have f8_3_0 : Hid (w8.cell? ⟨w4.heap.size, 0, none⟩ = some (.int .i64 1)) := cell_later hb8 (by first | exact cell_later (nx_alloc _ _) (unhide f7_3_0) | exact cell_later (nx_trans (nx_alloc _ _) (nx_alloc _ _)) (unhide f7_3_0) | exact (unhide f7_3_0))
    have f8_3_1 : Hid (w8.cell? ⟨w4.heap.size, 1, none⟩ = some (.int .i64 (r1 - 30000))) := cell_later hb8 (by first | exact cell_later (nx_alloc _ _) (unhide f7_3_1) | exact cell_later (nx_trans (nx_alloc _ _) (nx_alloc _ _)) (unhide f7_3_1) | exact (unhide f7_3_1))
    have f8_3_2 : Hid (w8.cell? ⟨w4.heap.size, 2, none⟩ = some (.string ⟨#[]⟩)) := cell_later hb8 (by first | exact cell_later (nx_alloc _ _) (unhide f7_3_2) | exact cell_later (nx_trans (nx_alloc _ _) (nx_alloc _ _)) (unhide f7_3_2) | exact (unhide f7_3_2))
    have f8_4_0 : Hid (w8.cell? ⟨w5.heap.size, 0, none⟩ = some (.int .i64 1)) := cell_later hb8 (by first | exact cell_later (nx_alloc _ _) (unhide f7_4_0) | exact cell_later (nx_trans (nx_alloc _ _) (nx_alloc _ _)) (unhide f7_4_0) | exact (unhide f7_4_0))
    have f8_4_1 : Hid (w8.cell? ⟨w5.heap.size, 1, none⟩ = some (.int .i64 (r1 - 30000 + (r1 - 30000)))) := cell_later hb8 (by first | exact cell_later (nx_alloc _ _) (unhide f7_4_1) | exact cell_later (nx_trans (nx_alloc _ _) (nx_alloc _ _)) (unhide f7_4_1) | exact (unhide f7_4_1))
    have f8_4_2 : Hid (w8.cell? ⟨w5.heap.size, 2, none⟩ = some (.string ⟨#[]⟩)) := cell_later hb8 (by first | exact cell_later (nx_alloc _ _) (unhide f7_4_2) | exact cell_later (nx_trans (nx_alloc _ _) (nx_alloc _ _)) (unhide f7_4_2) | exact (unhide f7_4_2))
    have f8_5_0 : Hid (w8.cell? ⟨w6.heap.size, 0, none⟩ = some (.int .i64 1)) := cell_later hb8 (by first | exact cell_later (nx_alloc _ _) (unhide f7_5_0) | exact cell_later (nx_trans (nx_alloc _ _) (nx_alloc _ _)) (unhide f7_5_0) | exact (unhide f7_5_0))
    have f8_5_1 : Hid (w8.cell? ⟨w6.heap.size, 1, none⟩ = some (.int .i64 (r1 - 30000 + (r1 - 30000)))) := cell_later hb8 (by first | exact cell_later (nx_alloc _ _) (unhide f7_5_1) | exact cell_later (nx_trans (nx_alloc _ _) (nx_alloc _ _)) (unhide f7_5_1) | exact (unhide f7_5_1))
    have f8_5_2 : Hid (w8.cell? ⟨w6.heap.size, 2, none⟩ = some (.string ⟨#[]⟩)) := cell_later hb8 (by first | exact cell_later (nx_alloc _ _) (unhide f7_5_2) | exact cell_later (nx_trans (nx_alloc _ _) (nx_alloc _ _)) (unhide f7_5_2) | exact (unhide f7_5_2))
    have f8_6_0 : Hid (w8.cell? ⟨w7.heap.size, 0, none⟩ = some (.int .i64 2)) := cell_later hb8 (by simp)
    have f8_6_1 : Hid (w8.cell? ⟨w7.heap.size, 1, none⟩ = some (.int .i64 0)) := cell_later hb8 (by simp)
    have f8_6_2 : Hid (w8.cell? ⟨w7.heap.size, 2, none⟩ = some (.string ⟨#[]⟩)) := cell_later hb8 (by simp)
    clear f7_0_0 f7_0_1 f7_0_2 f7_1_0 f7_1_1 f7_1_2 f7_2_0 f7_2_1 f7_2_2 f7_3_0 f7_3_1 f7_3_2 f7_4_0 f7_4_1 f7_4_2 f7_5_0 f7_5_1 f7_5_2 e0_0 e0_1 e0_2
    have hB8 := hide hb8
    clear hb8
    go_wp2_with fail
    refine (un_neg (-(r1 - 30000)) (r1 - 30000) _ (inB_of (by omega) (by omega)) (inB_of (by omega) (by omega)) (by omega)).mono ?_
    rintro e w9 ⟨rfl, hb9⟩
    have f9_0_0 : Hid (w9.cell? ⟨w1.heap.size, 0, none⟩ = some (.int .i64 1)) := cell_later hb9 (by first | exact cell_later (nx_alloc _ _) (unhide f8_0_0) | exact cell_later (nx_trans (nx_alloc _ _) (nx_alloc _ _)) (unhide f8_0_0) | exact (unhide f8_0_0))
    have f9_0_1 : Hid (w9.cell? ⟨w1.heap.size, 1, none⟩ = some (.int .i64 (r1 - 30000))) := cell_later hb9 (by first | exact cell_later (nx_alloc _ _) (unhide f8_0_1) | exact cell_later (nx_trans (nx_alloc _ _) (nx_alloc _ _)) (unhide f8_0_1) | exact (unhide f8_0_1))
    have f9_0_2 : Hid (w9.cell? ⟨w1.heap.size, 2, none⟩ = some (.string ⟨#[]⟩)) := cell_later hb9 (by first | exact cell_later (nx_alloc _ _) (unhide f8_0_2) | exact cell_later (nx_trans (nx_alloc _ _) (nx_alloc _ _)) (unhide f8_0_2) | exact (unhide f8_0_2))
    have f9_1_0 : Hid (w9.cell? ⟨w2.heap.size, 0, none⟩ = some (.int .i64 1)) := cell_later hb9 (by first | exact cell_later (nx_alloc _ _) (unhide f8_1_0) | exact cell_later (nx_trans (nx_alloc _ _) (nx_alloc _ _)) (unhide f8_1_0) | exact (unhide f8_1_0))
    have f9_1_1 : Hid (w9.cell? ⟨w2.heap.size, 1, none⟩ = some (.int .i64 (r1 - 30000))) := cell_later hb9 (by first | exact cell_later (nx_alloc _ _) (unhide f8_1_1) | exact cell_later (nx_trans (nx_alloc _ _) (nx_alloc _ _)) (unhide f8_1_1) | exact (unhide f8_1_1))
    have f9_1_2 : Hid (w9.cell? ⟨w2.heap.size, 2, none⟩ = some (.string ⟨#[]⟩)) := cell_later hb9 (by first | exact cell_later (nx_alloc _ _) (unhide f8_1_2) | exact cell_later (nx_trans (nx_alloc _ _) (nx_alloc _ _)) (unhide f8_1_2) | exact (unhide f8_1_2))
    have f9_2_0 : Hid (w9.cell? ⟨w3.heap.size, 0, none⟩ = some (.int .i64 1)) := cell_later hb9 (by first | exact cell_later (nx_alloc _ _) (unhide f8_2_0) | exact cell_later (nx_trans (nx_alloc _ _) (nx_alloc _ _)) (unhide f8_2_0) | exact (unhide f8_2_0))
    have f9_2_1 : Hid (w9.cell? ⟨w3.heap.size, 1, none⟩ = some (.int .i64 (r1 - 30000))) := cell_later hb9 (by first | exact cell_later (nx_alloc _ _) (unhide f8_2_1) | exact cell_later (nx_trans (nx_alloc _ _) (nx_alloc _ _)) (unhide f8_2_1) | exact (unhide f8_2_1))
    have f9_2_2 : Hid (w9.cell? ⟨w3.heap.size, 2, none⟩ = some (.string ⟨#[]⟩)) := cell_later hb9 (by first | exact cell_later (nx_alloc _ _) (unhide f8_2_2) | exact cell_later (nx_trans (nx_alloc _ _) (nx_alloc _ _)) (unhide f8_2_2) | exact (unhide f8_2_2))
    have f9_3_0 : Hid (w9.cell? ⟨w4.heap.size, 0, none⟩ = some (.int .i64 1)) := cell_later hb9 (by first | exact cell_later (nx_alloc _ _) (unhide f8_3_0) | exact cell_later (nx_trans (nx_alloc _ _) (nx_alloc _ _)) (unhide f8_3_0) | exact (unhide f8_3_0))
    have f9_3_1 : Hid (w9.cell? ⟨w4.heap.size, 1, none⟩ = some (.int .i64 (r1 - 30000))) := cell_later hb9 (by first | exact cell_later (nx_alloc _ _) (unhide f8_3_1) | exact cell_later (nx_trans (nx_alloc _ _) (nx_alloc _ _)) (unhide f8_3_1) | exact (unhide f8_3_1))
    have f9_3_2 : Hid (w9.cell? ⟨w4.heap.size, 2, none⟩ = some (.string ⟨#[]⟩)) := cell_later hb9 (by first | exact cell_later (nx_alloc _ _) (unhide f8_3_2) | exact cell_later (nx_trans (nx_alloc _ _) (nx_alloc _ _)) (unhide f8_3_2) | exact (unhide f8_3_2))
    have f9_4_0 : Hid (w9.cell? ⟨w5.heap.size, 0, none⟩ = some (.int .i64 1)) := cell_later hb9 (by first | exact cell_later (nx_alloc _ _) (unhide f8_4_0) | exact cell_later (nx_trans (nx_alloc _ _) (nx_alloc _ _)) (unhide f8_4_0) | exact (unhide f8_4_0))
    have f9_4_1 : Hid (w9.cell? ⟨w5.heap.size, 1, none⟩ = some (.int .i64 (r1 - 30000 + (r1 - 30000)))) := cell_later hb9 (by first | exact cell_later (nx_alloc _ _) (unhide f8_4_1) | exact cell_later (nx_trans (nx_alloc _ _) (nx_alloc _ _)) (unhide f8_4_1) | exact (unhide f8_4_1))
    have f9_4_2 : Hid (w9.cell? ⟨w5.heap.size, 2, none⟩ = some (.string ⟨#[]⟩)) := cell_later hb9 (by first | exact cell_later (nx_alloc _ _) (unhide f8_4_2) | exact cell_later (nx_trans (nx_alloc _ _) (nx_alloc _ _)) (unhide f8_4_2) | exact (unhide f8_4_2))
    have f9_5_0 : Hid (w9.cell? ⟨w6.heap.size, 0, none⟩ = some (.int .i64 1)) := cell_later hb9 (by first | exact cell_later (nx_alloc _ _) (unhide f8_5_0) | exact cell_later (nx_trans (nx_alloc _ _) (nx_alloc _ _)) (unhide f8_5_0) | exact (unhide f8_5_0))
    have f9_5_1 : Hid (w9.cell? ⟨w6.heap.size, 1, none⟩ = some (.int .i64 (r1 - 30000 + (r1 - 30000)))) := cell_later hb9 (by first | exact cell_later (nx_alloc _ _) (unhide f8_5_1) | exact cell_later (nx_trans (nx_alloc _ _) (nx_alloc _ _)) (unhide f8_5_1) | exact (unhide f8_5_1))
    have f9_5_2 : Hid (w9.cell? ⟨w6.heap.size, 2, none⟩ = some (.string ⟨#[]⟩)) := cell_later hb9 (by first | exact cell_later (nx_alloc _ _) (unhide f8_5_2) | exact cell_later (nx_trans (nx_alloc _ _) (nx_alloc _ _)) (unhide f8_5_2) | exact (unhide f8_5_2))
    have f9_6_0 : Hid (w9.cell? ⟨w7.heap.size, 0, none⟩ = some (.int .i64 2)) := cell_later hb9 (by first | exact cell_later (nx_alloc _ _) (unhide f8_6_0) | exact cell_later (nx_trans (nx_alloc _ _) (nx_alloc _ _)) (unhide f8_6_0) | exact (unhide f8_6_0))
    have f9_6_1 : Hid (w9.cell? ⟨w7.heap.size, 1, none⟩ = some (.int .i64 0)) := cell_later hb9 (by first | exact cell_later (nx_alloc _ _) (unhide f8_6_1) | exact cell_later (nx_trans (nx_alloc _ _) (nx_alloc _ _)) (unhide f8_6_1) | exact (unhide f8_6_1))
    have f9_6_2 : Hid (w9.cell? ⟨w7.heap.size, 2, none⟩ = some (.string ⟨#[]⟩)) := cell_later hb9 (by first | exact cell_later (nx_alloc _ _) (unhide f8_6_2) | exact cell_later (nx_trans (nx_alloc _ _) (nx_alloc _ _)) (unhide f8_6_2) | exact (unhide f8_6_2))
    have f9_7_0 : Hid (w9.cell? ⟨w8.heap.size, 0, none⟩ = some (.int .i64 1)) := cell_later hb9 (by simp)
    have f9_7_1 : Hid (w9.cell? ⟨w8.heap.size, 1, none⟩ = some (.int .i64 (-(r1 - 30000)))) := cell_later hb9 (by simp)
    have f9_7_2 : Hid (w9.cell? ⟨w8.heap.size, 2, none⟩ = some (.string ⟨#[]⟩)) := cell_later hb9 (by simp)
    clear f8_0_0 f8_0_1 f8_0_2 f8_1_0 f8_1_1 f8_1_2 f8_2_0 f8_2_1 f8_2_2 f8_3_0 f8_3_1 f8_3_2 f8_4_0 f8_4_1 f8_4_2 f8_5_0 f8_5_1 f8_5_2 f8_6_0 f8_6_1 f8_6_2
    have hB9 := hide hb9
    clear hb9
    have e0_0 : ∀ o, (w9.alloc o).cell? ⟨w1.heap.size, 0, none⟩ = some (.int .i64 1) := fun o => cell_later (nx_alloc _ _) (unhide f9_0_0)
    have e0_1 : ∀ o, (w9.alloc o).cell? ⟨w1.heap.size, 1, none⟩ = some (.int .i64 (r1 - 30000)) := fun o => cell_later (nx_alloc _ _) (unhide f9_0_1)
    have e0_2 : ∀ o, (w9.alloc o).cell? ⟨w1.heap.size, 2, none⟩ = some (.string ⟨#[]⟩) := fun o => cell_later (nx_alloc _ _) (unhide f9_0_2)
    go_wp2_with fail
    refine (bi_one (r1 - 30000) _ _ _ (inB_of (by omega) (by omega)) (args1 (by simp) (by simp) (by simp))).mono ?_
    rintro e w10 ⟨rfl, hb10⟩
    have f10_0_0 : Hid (w10.cell? ⟨w1.heap.size, 0, none⟩ = some (.int .i64 1)) := cell_later hb10 (by first | exact cell_later (nx_alloc _ _) (unhide f9_0_0) | exact cell_later (nx_trans (nx_alloc _ _) (nx_alloc _ _)) (unhide f9_0_0) | exact (unhide f9_0_0))
    have f10_0_1 : Hid (w10.cell? ⟨w1.heap.size, 1, none⟩ = some (.int .i64 (r1 - 30000))) := cell_later hb10 (by first | exact cell_later (nx_alloc _ _) (unhide f9_0_1) | exact cell_later (nx_trans (nx_alloc _ _) (nx_alloc _ _)) (unhide f9_0_1) | exact (unhide f9_0_1))
    have f10_0_2 : Hid (w10.cell? ⟨w1.heap.size, 2, none⟩ = some (.string ⟨#[]⟩)) := cell_later hb10 (by first | exact cell_later (nx_alloc _ _) (unhide f9_0_2) | exact cell_later (nx_trans (nx_alloc _ _) (nx_alloc _ _)) (unhide f9_0_2) | exact (unhide f9_0_2))
    have f10_1_0 : Hid (w10.cell? ⟨w2.heap.size, 0, none⟩ = some (.int .i64 1)) := cell_later hb10 (by first | exact cell_later (nx_alloc _ _) (unhide f9_1_0) | exact cell_later (nx_trans (nx_alloc _ _) (nx_alloc _ _)) (unhide f9_1_0) | exact (unhide f9_1_0))
    have f10_1_1 : Hid (w10.cell? ⟨w2.heap.size, 1, none⟩ = some (.int .i64 (r1 - 30000))) := cell_later hb10 (by first | exact cell_later (nx_alloc _ _) (unhide f9_1_1) | exact cell_later (nx_trans (nx_alloc _ _) (nx_alloc _ _)) (unhide f9_1_1) | exact (unhide f9_1_1))
    have f10_1_2 : Hid (w10.cell? ⟨w2.heap.size, 2, none⟩ = some (.string ⟨#[]⟩)) := cell_later hb10 (by first | exact cell_later (nx_alloc _ _) (unhide f9_1_2) | exact cell_later (nx_trans (nx_alloc _ _) (nx_alloc _ _)) (unhide f9_1_2) | exact (unhide f9_1_2))
    have f10_2_0 : Hid (w10.cell? ⟨w3.heap.size, 0, none⟩ = some (.int .i64 1)) := cell_later hb10 (by first | exact cell_later (nx_alloc _ _) (unhide f9_2_0) | exact cell_later (nx_trans (nx_alloc _ _) (nx_alloc _ _)) (unhide f9_2_0) | exact (unhide f9_2_0))
    have f10_2_1 : Hid (w10.cell? ⟨w3.heap.size, 1, none⟩ = some (.int .i64 (r1 - 30000))) := cell_later hb10 (by first | exact cell_later (nx_alloc _ _) (unhide f9_2_1) | exact cell_later (nx_trans (nx_alloc _ _) (nx_alloc _ _)) (unhide f9_2_1) | exact (unhide f9_2_1))
    have f10_2_2 : Hid (w10.cell? ⟨w3.heap.size, 2, none⟩ = some (.string ⟨#[]⟩)) := cell_later hb10 (by first | exact cell_later (nx_alloc _ _) (unhide f9_2_2) | exact cell_later (nx_trans (nx_alloc _ _) (nx_alloc _ _)) (unhide f9_2_2) | exact (unhide f9_2_2))
    have f10_3_0 : Hid (w10.cell? ⟨w4.heap.size, 0, none⟩ = some (.int .i64 1)) := cell_later hb10 (by first | exact cell_later (nx_alloc _ _) (unhide f9_3_0) | exact cell_later (nx_trans (nx_alloc _ _) (nx_alloc _ _)) (unhide f9_3_0) | exact (unhide f9_3_0))
    have f10_3_1 : Hid (w10.cell? ⟨w4.heap.size, 1, none⟩ = some (.int .i64 (r1 - 30000))) := cell_later hb10 (by first | exact cell_later (nx_alloc _ _) (unhide f9_3_1) | exact cell_later (nx_trans (nx_alloc _ _) (nx_alloc _ _)) (unhide f9_3_1) | exact (unhide f9_3_1))
    have f10_3_2 : Hid (w10.cell? ⟨w4.heap.size, 2, none⟩ = some (.string ⟨#[]⟩)) := cell_later hb10 (by first | exact cell_later (nx_alloc _ _) (unhide f9_3_2) | exact cell_later (nx_trans (nx_alloc _ _) (nx_alloc _ _)) (unhide f9_3_2) | exact (unhide f9_3_2))
    have f10_4_0 : Hid (w10.cell? ⟨w5.heap.size, 0, none⟩ = some (.int .i64 1)) := cell_later hb10 (by first | exact cell_later (nx_alloc _ _) (unhide f9_4_0) | exact cell_later (nx_trans (nx_alloc _ _) (nx_alloc _ _)) (unhide f9_4_0) | exact (unhide f9_4_0))
    have f10_4_1 : Hid (w10.cell? ⟨w5.heap.size, 1, none⟩ = some (.int .i64 (r1 - 30000 + (r1 - 30000)))) := cell_later hb10 (by first | exact cell_later (nx_alloc _ _) (unhide f9_4_1) | exact cell_later (nx_trans (nx_alloc _ _) (nx_alloc _ _)) (unhide f9_4_1) | exact (unhide f9_4_1))
    have f10_4_2 : Hid (w10.cell? ⟨w5.heap.size, 2, none⟩ = some (.string ⟨#[]⟩)) := cell_later hb10 (by first | exact cell_later (nx_alloc _ _) (unhide f9_4_2) | exact cell_later (nx_trans (nx_alloc _ _) (nx_alloc _ _)) (unhide f9_4_2) | exact (unhide f9_4_2))
    have f10_5_0 : Hid (w10.cell? ⟨w6.heap.size, 0, none⟩ = some (.int .i64 1)) := cell_later hb10 (by first | exact cell_later (nx_alloc _ _) (unhide f9_5_0) | exact cell_later (nx_trans (nx_alloc _ _) (nx_alloc _ _)) (unhide f9_5_0) | exact (unhide f9_5_0))
    have f10_5_1 : Hid (w10.cell? ⟨w6.heap.size, 1, none⟩ = some (.int .i64 (r1 - 30000 + (r1 - 30000)))) := cell_later hb10 (by first | exact cell_later (nx_alloc _ _) (unhide f9_5_1) | exact cell_later (nx_trans (nx_alloc _ _) (nx_alloc _ _)) (unhide f9_5_1) | exact (unhide f9_5_1))
    have f10_5_2 : Hid (w10.cell? ⟨w6.heap.size, 2, none⟩ = some (.string ⟨#[]⟩)) := cell_later hb10 (by first | exact cell_later (nx_alloc _ _) (unhide f9_5_2) | exact cell_later (nx_trans (nx_alloc _ _) (nx_alloc _ _)) (unhide f9_5_2) | exact (unhide f9_5_2))
    have f10_6_0 : Hid (w10.cell? ⟨w7.heap.size, 0, none⟩ = some (.int .i64 2)) := cell_later hb10 (by first | exact cell_later (nx_alloc _ _) (unhide f9_6_0) | exact cell_later (nx_trans (nx_alloc _ _) (nx_alloc _ _)) (unhide f9_6_0) | exact (unhide f9_6_0))
    have f10_6_1 : Hid (w10.cell? ⟨w7.heap.size, 1, none⟩ = some (.int .i64 0)) := cell_later hb10 (by first | exact cell_later (nx_alloc _ _) (unhide f9_6_1) | exact cell_later (nx_trans (nx_alloc _ _) (nx_alloc _ _)) (unhide f9_6_1) | exact (unhide f9_6_1))
    have f10_6_2 : Hid (w10.cell? ⟨w7.heap.size, 2, none⟩ = some (.string ⟨#[]⟩)) := cell_later hb10 (by first | exact cell_later (nx_alloc _ _) (unhide f9_6_2) | exact cell_later (nx_trans (nx_alloc _ _) (nx_alloc _ _)) (unhide f9_6_2) | exact (unhide f9_6_2))
    have f10_7_0 : Hid (w10.cell? ⟨w8.heap.size, 0, none⟩ = some (.int .i64 1)) := cell_later hb10 (by first | exact cell_later (nx_alloc _ _) (unhide f9_7_0) | exact cell_later (nx_trans (nx_alloc _ _) (nx_alloc _ _)) (unhide f9_7_0) | exact (unhide f9_7_0))
    have f10_7_1 : Hid (w10.cell? ⟨w8.heap.size, 1, none⟩ = some (.int .i64 (-(r1 - 30000)))) := cell_later hb10 (by first | exact cell_later (nx_alloc _ _) (unhide f9_7_1) | exact cell_later (nx_trans (nx_alloc _ _) (nx_alloc _ _)) (unhide f9_7_1) | exact (unhide f9_7_1))
    have f10_7_2 : Hid (w10.cell? ⟨w8.heap.size, 2, none⟩ = some (.string ⟨#[]⟩)) := cell_later hb10 (by first | exact cell_later (nx_alloc _ _) (unhide f9_7_2) | exact cell_later (nx_trans (nx_alloc _ _) (nx_alloc _ _)) (unhide f9_7_2) | exact (unhide f9_7_2))
    have f10_8_0 : Hid (w10.cell? ⟨w9.heap.size, 0, none⟩ = some (.int .i64 1)) := cell_later hb10 (by simp)
    have f10_8_1 : Hid (w10.cell? ⟨w9.heap.size, 1, none⟩ = some (.int .i64 (r1 - 30000))) := cell_later hb10 (by simp)
    have f10_8_2 : Hid (w10.cell? ⟨w9.heap.size, 2, none⟩ = some (.string ⟨#[]⟩)) := cell_later hb10 (by simp)
    clear f9_0_0 f9_0_1 f9_0_2 f9_1_0 f9_1_1 f9_1_2 f9_2_0 f9_2_1 f9_2_2 f9_3_0 f9_3_1 f9_3_2 f9_4_0 f9_4_1 f9_4_2 f9_5_0 f9_5_1 f9_5_2 f9_6_0 f9_6_1 f9_6_2 f9_7_0 f9_7_1 f9_7_2 e0_0 e0_1 e0_2
    have hB10 := hide hb10
    clear hb10
    have e0_0 : ∀ o, (w10.alloc o).cell? ⟨w1.heap.size, 0, none⟩ = some (.int .i64 1) := fun o => cell_later (nx_alloc _ _) (unhide f10_0_0)
    have e0_1 : ∀ o, (w10.alloc o).cell? ⟨w1.heap.size, 1, none⟩ = some (.int .i64 (r1 - 30000)) := fun o => cell_later (nx_alloc _ _) (unhide f10_0_1)
    have e0_2 : ∀ o, (w10.alloc o).cell? ⟨w1.heap.size, 2, none⟩ = some (.string ⟨#[]⟩) := fun o => cell_later (nx_alloc _ _) (unhide f10_0_2)
    have e1_0 : ∀ o, (w10.alloc o).cell? ⟨w2.heap.size, 0, none⟩ = some (.int .i64 1) := fun o => cell_later (nx_alloc _ _) (unhide f10_1_0)
    have e1_1 : ∀ o, (w10.alloc o).cell? ⟨w2.heap.size, 1, none⟩ = some (.int .i64 (r1 - 30000)) := fun o => cell_later (nx_alloc _ _) (unhide f10_1_1)
    have e1_2 : ∀ o, (w10.alloc o).cell? ⟨w2.heap.size, 2, none⟩ = some (.string ⟨#[]⟩) := fun o => cell_later (nx_alloc _ _) (unhide f10_1_2)
    have e2_0 : ∀ o, (w10.alloc o).cell? ⟨w3.heap.size, 0, none⟩ = some (.int .i64 1) := fun o => cell_later (nx_alloc _ _) (unhide f10_2_0)
    have e2_1 : ∀ o, (w10.alloc o).cell? ⟨w3.heap.size, 1, none⟩ = some (.int .i64 (r1 - 30000)) := fun o => cell_later (nx_alloc _ _) (unhide f10_2_1)
    have e2_2 : ∀ o, (w10.alloc o).cell? ⟨w3.heap.size, 2, none⟩ = some (.string ⟨#[]⟩) := fun o => cell_later (nx_alloc _ _) (unhide f10_2_2)
    have e4_0 : ∀ o, (w10.alloc o).cell? ⟨w5.heap.size, 0, none⟩ = some (.int .i64 1) := fun o => cell_later (nx_alloc _ _) (unhide f10_4_0)
    have e4_1 : ∀ o, (w10.alloc o).cell? ⟨w5.heap.size, 1, none⟩ = some (.int .i64 (r1 - 30000 + (r1 - 30000))) := fun o => cell_later (nx_alloc _ _) (unhide f10_4_1)
    have e4_2 : ∀ o, (w10.alloc o).cell? ⟨w5.heap.size, 2, none⟩ = some (.string ⟨#[]⟩) := fun o => cell_later (nx_alloc _ _) (unhide f10_4_2)
    have e5_0 : ∀ o, (w10.alloc o).cell? ⟨w6.heap.size, 0, none⟩ = some (.int .i64 1) := fun o => cell_later (nx_alloc _ _) (unhide f10_5_0)
    have e5_1 : ∀ o, (w10.alloc o).cell? ⟨w6.heap.size, 1, none⟩ = some (.int .i64 (r1 - 30000 + (r1 - 30000))) := fun o => cell_later (nx_alloc _ _) (unhide f10_5_1)
    have e5_2 : ∀ o, (w10.alloc o).cell? ⟨w6.heap.size, 2, none⟩ = some (.string ⟨#[]⟩) := fun o => cell_later (nx_alloc _ _) (unhide f10_5_2)
    have e6_0 : ∀ o, (w10.alloc o).cell? ⟨w7.heap.size, 0, none⟩ = some (.int .i64 2) := fun o => cell_later (nx_alloc _ _) (unhide f10_6_0)
    have e6_1 : ∀ o, (w10.alloc o).cell? ⟨w7.heap.size, 1, none⟩ = some (.int .i64 0) := fun o => cell_later (nx_alloc _ _) (unhide f10_6_1)
    have e6_2 : ∀ o, (w10.alloc o).cell? ⟨w7.heap.size, 2, none⟩ = some (.string ⟨#[]⟩) := fun o => cell_later (nx_alloc _ _) (unhide f10_6_2)
    have e8_0 : ∀ o, (w10.alloc o).cell? ⟨w9.heap.size, 0, none⟩ = some (.int .i64 1) := fun o => cell_later (nx_alloc _ _) (unhide f10_8_0)
    have e8_1 : ∀ o, (w10.alloc o).cell? ⟨w9.heap.size, 1, none⟩ = some (.int .i64 (r1 - 30000)) := fun o => cell_later (nx_alloc _ _) (unhide f10_8_1)
    have e8_2 : ∀ o, (w10.alloc o).cell? ⟨w9.heap.size, 2, none⟩ = some (.string ⟨#[]⟩) := fun o => cell_later (nx_alloc _ _) (unhide f10_8_2)
    clear f10_0_0 f10_0_1 f10_0_2 f10_1_0 f10_1_1 f10_1_2 f10_2_0 f10_2_1 f10_2_2 f10_3_0 f10_3_1 f10_3_2 f10_4_0 f10_4_1 f10_4_2 f10_5_0 f10_5_1 f10_5_2 f10_6_0 f10_6_1 f10_6_2 f10_7_0 f10_7_1 f10_7_2 f10_8_0 f10_8_1 f10_8_2
    go_wp2
    go_quiet (fail)
    go_wp2
    go_ret
    exact ⟨rfl, below_drewN (nx_al (nx_trans (nx_al (nx_al (nx_trans (nx_al (nx_trans (nx_al (nx_trans (nx_al (nx_trans (nx_al (nx_trans (nx_al (nx_trans (nx_al (nx_al (nx_trans (nx_al (nx_al (nx_trans (nx_al (unhide hB1)) (unhide hB2)))) (unhide hB3)))) (unhide hB4))) (unhide hB5))) (unhide hB6))) (unhide hB7))) (unhide hB8))) (unhide hB9)))) (unhide hB10))) _⟩
  · have hne : (r1 - 30000 == r2 - 30000) = false := beq_eq_false_iff_ne.2 (by omega)
    have f2_0_0 : Hid (w2.cell? ⟨w1.heap.size, 0, none⟩ = some (.int .i64 1)) := cell_later hb2 (by simp)
    have f2_0_1 : Hid (w2.cell? ⟨w1.heap.size, 1, none⟩ = some (.int .i64 (r1 - 30000))) := cell_later hb2 (by simp)
    have f2_0_2 : Hid (w2.cell? ⟨w1.heap.size, 2, none⟩ = some (.string ⟨#[]⟩)) := cell_later hb2 (by simp)
    have hB1 := hide hb1
    have hB2 := hide hb2
    clear hb1 hb2
    have e0_0 : ∀ o, (w2.alloc o).cell? ⟨w1.heap.size, 0, none⟩ = some (.int .i64 1) := fun o => cell_later (nx_alloc _ _) (unhide f2_0_0)
    have e0_1 : ∀ o, (w2.alloc o).cell? ⟨w1.heap.size, 1, none⟩ = some (.int .i64 (r1 - 30000)) := fun o => cell_later (nx_alloc _ _) (unhide f2_0_1)
    have e0_2 : ∀ o, (w2.alloc o).cell? ⟨w1.heap.size, 2, none⟩ = some (.string ⟨#[]⟩) := fun o => cell_later (nx_alloc _ _) (unhide f2_0_2)
    go_wp2_with fail
    refine (bi_max (r1 - 30000) (r2 - 30000) (r1 - 30000) _ _ _ (inB_of (by omega) (by omega)) (inB_of (by omega) (by omega)) (by omega) (args2 (by simp) (by simp) (by simp) (by simp) (by simp) (by simp))).mono ?_
    rintro e w3 ⟨rfl, hb3⟩
    have f3_0_0 : Hid (w3.cell? ⟨w1.heap.size, 0, none⟩ = some (.int .i64 1)) := cell_later hb3 (by first | exact cell_later (nx_alloc _ _) (unhide f2_0_0) | exact cell_later (nx_trans (nx_alloc _ _) (nx_alloc _ _)) (unhide f2_0_0) | exact (unhide f2_0_0))
    have f3_0_1 : Hid (w3.cell? ⟨w1.heap.size, 1, none⟩ = some (.int .i64 (r1 - 30000))) := cell_later hb3 (by first | exact cell_later (nx_alloc _ _) (unhide f2_0_1) | exact cell_later (nx_trans (nx_alloc _ _) (nx_alloc _ _)) (unhide f2_0_1) | exact (unhide f2_0_1))
    have f3_0_2 : Hid (w3.cell? ⟨w1.heap.size, 2, none⟩ = some (.string ⟨#[]⟩)) := cell_later hb3 (by first | exact cell_later (nx_alloc _ _) (unhide f2_0_2) | exact cell_later (nx_trans (nx_alloc _ _) (nx_alloc _ _)) (unhide f2_0_2) | exact (unhide f2_0_2))
    have f3_1_0 : Hid (w3.cell? ⟨w2.heap.size, 0, none⟩ = some (.int .i64 1)) := cell_later hb3 (by simp)
    have f3_1_1 : Hid (w3.cell? ⟨w2.heap.size, 1, none⟩ = some (.int .i64 (r2 - 30000))) := cell_later hb3 (by simp)
    have f3_1_2 : Hid (w3.cell? ⟨w2.heap.size, 2, none⟩ = some (.string ⟨#[]⟩)) := cell_later hb3 (by simp)
    clear f2_0_0 f2_0_1 f2_0_2 e0_0 e0_1 e0_2
    have hB3 := hide hb3
    clear hb3
    have e0_0 : ∀ o, (w3.alloc o).cell? ⟨w1.heap.size, 0, none⟩ = some (.int .i64 1) := fun o => cell_later (nx_alloc _ _) (unhide f3_0_0)
    have e0_1 : ∀ o, (w3.alloc o).cell? ⟨w1.heap.size, 1, none⟩ = some (.int .i64 (r1 - 30000)) := fun o => cell_later (nx_alloc _ _) (unhide f3_0_1)
    have e0_2 : ∀ o, (w3.alloc o).cell? ⟨w1.heap.size, 2, none⟩ = some (.string ⟨#[]⟩) := fun o => cell_later (nx_alloc _ _) (unhide f3_0_2)
    have e1_0 : ∀ o, (w3.alloc o).cell? ⟨w2.heap.size, 0, none⟩ = some (.int .i64 1) := fun o => cell_later (nx_alloc _ _) (unhide f3_1_0)
    have e1_1 : ∀ o, (w3.alloc o).cell? ⟨w2.heap.size, 1, none⟩ = some (.int .i64 (r2 - 30000)) := fun o => cell_later (nx_alloc _ _) (unhide f3_1_1)
    have e1_2 : ∀ o, (w3.alloc o).cell? ⟨w2.heap.size, 2, none⟩ = some (.string ⟨#[]⟩) := fun o => cell_later (nx_alloc _ _) (unhide f3_1_2)
    go_wp2_with fail
    refine (bi_min (r1 - 30000) (r2 - 30000) (r2 - 30000) _ _ _ (inB_of (by omega) (by omega)) (inB_of (by omega) (by omega)) (by omega) (args2 (by simp) (by simp) (by simp) (by simp) (by simp) (by simp))).mono ?_
    rintro e w4 ⟨rfl, hb4⟩
    have f4_0_0 : Hid (w4.cell? ⟨w1.heap.size, 0, none⟩ = some (.int .i64 1)) := cell_later hb4 (by first | exact cell_later (nx_alloc _ _) (unhide f3_0_0) | exact cell_later (nx_trans (nx_alloc _ _) (nx_alloc _ _)) (unhide f3_0_0) | exact (unhide f3_0_0))
    have f4_0_1 : Hid (w4.cell? ⟨w1.heap.size, 1, none⟩ = some (.int .i64 (r1 - 30000))) := cell_later hb4 (by first | exact cell_later (nx_alloc _ _) (unhide f3_0_1) | exact cell_later (nx_trans (nx_alloc _ _) (nx_alloc _ _)) (unhide f3_0_1) | exact (unhide f3_0_1))
    have f4_0_2 : Hid (w4.cell? ⟨w1.heap.size, 2, none⟩ = some (.string ⟨#[]⟩)) := cell_later hb4 (by first | exact cell_later (nx_alloc _ _) (unhide f3_0_2) | exact cell_later (nx_trans (nx_alloc _ _) (nx_alloc _ _)) (unhide f3_0_2) | exact (unhide f3_0_2))
    have f4_1_0 : Hid (w4.cell? ⟨w2.heap.size, 0, none⟩ = some (.int .i64 1)) := cell_later hb4 (by first | exact cell_later (nx_alloc _ _) (unhide f3_1_0) | exact cell_later (nx_trans (nx_alloc _ _) (nx_alloc _ _)) (unhide f3_1_0) | exact (unhide f3_1_0))
    have f4_1_1 : Hid (w4.cell? ⟨w2.heap.size, 1, none⟩ = some (.int .i64 (r2 - 30000))) := cell_later hb4 (by first | exact cell_later (nx_alloc _ _) (unhide f3_1_1) | exact cell_later (nx_trans (nx_alloc _ _) (nx_alloc _ _)) (unhide f3_1_1) | exact (unhide f3_1_1))
    have f4_1_2 : Hid (w4.cell? ⟨w2.heap.size, 2, none⟩ = some (.string ⟨#[]⟩)) := cell_later hb4 (by first | exact cell_later (nx_alloc _ _) (unhide f3_1_2) | exact cell_later (nx_trans (nx_alloc _ _) (nx_alloc _ _)) (unhide f3_1_2) | exact (unhide f3_1_2))
    have f4_2_0 : Hid (w4.cell? ⟨w3.heap.size, 0, none⟩ = some (.int .i64 1)) := cell_later hb4 (by simp)
    have f4_2_1 : Hid (w4.cell? ⟨w3.heap.size, 1, none⟩ = some (.int .i64 (r1 - 30000))) := cell_later hb4 (by simp)
    have f4_2_2 : Hid (w4.cell? ⟨w3.heap.size, 2, none⟩ = some (.string ⟨#[]⟩)) := cell_later hb4 (by simp)
    clear f3_0_0 f3_0_1 f3_0_2 f3_1_0 f3_1_1 f3_1_2 e0_0 e0_1 e0_2 e1_0 e1_1 e1_2
    have hB4 := hide hb4
    clear hb4
    have e2_0 : ∀ o, (w4.alloc o).cell? ⟨w3.heap.size, 0, none⟩ = some (.int .i64 1) := fun o => cell_later (nx_alloc _ _) (unhide f4_2_0)
    have e2_1 : ∀ o, (w4.alloc o).cell? ⟨w3.heap.size, 1, none⟩ = some (.int .i64 (r1 - 30000)) := fun o => cell_later (nx_alloc _ _) (unhide f4_2_1)
    have e2_2 : ∀ o, (w4.alloc o).cell? ⟨w3.heap.size, 2, none⟩ = some (.string ⟨#[]⟩) := fun o => cell_later (nx_alloc _ _) (unhide f4_2_2)
    go_wp2_with fail
    refine (bin_add (r1 - 30000) (r2 - 30000) (r1 - 30000 + (r2 - 30000)) _ (inB_of (by omega) (by omega)) (inB_of (by omega) (by omega)) (inB_of (by omega) (by omega)) (by omega)).mono ?_
    rintro e w5 ⟨rfl, hb5⟩
    have f5_0_0 : Hid (w5.cell? ⟨w1.heap.size, 0, none⟩ = some (.int .i64 1)) := cell_later hb5 (by first | exact cell_later (nx_alloc _ _) (unhide f4_0_0) | exact cell_later (nx_trans (nx_alloc _ _) (nx_alloc _ _)) (unhide f4_0_0) | exact (unhide f4_0_0))
    have f5_0_1 : Hid (w5.cell? ⟨w1.heap.size, 1, none⟩ = some (.int .i64 (r1 - 30000))) := cell_later hb5 (by first | exact cell_later (nx_alloc _ _) (unhide f4_0_1) | exact cell_later (nx_trans (nx_alloc _ _) (nx_alloc _ _)) (unhide f4_0_1) | exact (unhide f4_0_1))
    have f5_0_2 : Hid (w5.cell? ⟨w1.heap.size, 2, none⟩ = some (.string ⟨#[]⟩)) := cell_later hb5 (by first | exact cell_later (nx_alloc _ _) (unhide f4_0_2) | exact cell_later (nx_trans (nx_alloc _ _) (nx_alloc _ _)) (unhide f4_0_2) | exact (unhide f4_0_2))
    have f5_1_0 : Hid (w5.cell? ⟨w2.heap.size, 0, none⟩ = some (.int .i64 1)) := cell_later hb5 (by first | exact cell_later (nx_alloc _ _) (unhide f4_1_0) | exact cell_later (nx_trans (nx_alloc _ _) (nx_alloc _ _)) (unhide f4_1_0) | exact (unhide f4_1_0))
    have f5_1_1 : Hid (w5.cell? ⟨w2.heap.size, 1, none⟩ = some (.int .i64 (r2 - 30000))) := cell_later hb5 (by first | exact cell_later (nx_alloc _ _) (unhide f4_1_1) | exact cell_later (nx_trans (nx_alloc _ _) (nx_alloc _ _)) (unhide f4_1_1) | exact (unhide f4_1_1))
    have f5_1_2 : Hid (w5.cell? ⟨w2.heap.size, 2, none⟩ = some (.string ⟨#[]⟩)) := cell_later hb5 (by first | exact cell_later (nx_alloc _ _) (unhide f4_1_2) | exact cell_later (nx_trans (nx_alloc _ _) (nx_alloc _ _)) (unhide f4_1_2) | exact (unhide f4_1_2))
    have f5_2_0 : Hid (w5.cell? ⟨w3.heap.size, 0, none⟩ = some (.int .i64 1)) := cell_later hb5 (by first | exact cell_later (nx_alloc _ _) (unhide f4_2_0) | exact cell_later (nx_trans (nx_alloc _ _) (nx_alloc _ _)) (unhide f4_2_0) | exact (unhide f4_2_0))
    have f5_2_1 : Hid (w5.cell? ⟨w3.heap.size, 1, none⟩ = some (.int .i64 (r1 - 30000))) := cell_later hb5 (by first | exact cell_later (nx_alloc _ _) (unhide f4_2_1) | exact cell_later (nx_trans (nx_alloc _ _) (nx_alloc _ _)) (unhide f4_2_1) | exact (unhide f4_2_1))
    have f5_2_2 : Hid (w5.cell? ⟨w3.heap.size, 2, none⟩ = some (.string ⟨#[]⟩)) := cell_later hb5 (by first | exact cell_later (nx_alloc _ _) (unhide f4_2_2) | exact cell_later (nx_trans (nx_alloc _ _) (nx_alloc _ _)) (unhide f4_2_2) | exact (unhide f4_2_2))
    have f5_3_0 : Hid (w5.cell? ⟨w4.heap.size, 0, none⟩ = some (.int .i64 1)) := cell_later hb5 (by simp)
    have f5_3_1 : Hid (w5.cell? ⟨w4.heap.size, 1, none⟩ = some (.int .i64 (r2 - 30000))) := cell_later hb5 (by simp)
    have f5_3_2 : Hid (w5.cell? ⟨w4.heap.size, 2, none⟩ = some (.string ⟨#[]⟩)) := cell_later hb5 (by simp)
    clear f4_0_0 f4_0_1 f4_0_2 f4_1_0 f4_1_1 f4_1_2 f4_2_0 f4_2_1 f4_2_2 e2_0 e2_1 e2_2
    have hB5 := hide hb5
    clear hb5
    have e0_0 : ∀ o, (w5.alloc o).cell? ⟨w1.heap.size, 0, none⟩ = some (.int .i64 1) := fun o => cell_later (nx_alloc _ _) (unhide f5_0_0)
    have e0_1 : ∀ o, (w5.alloc o).cell? ⟨w1.heap.size, 1, none⟩ = some (.int .i64 (r1 - 30000)) := fun o => cell_later (nx_alloc _ _) (unhide f5_0_1)
    have e0_2 : ∀ o, (w5.alloc o).cell? ⟨w1.heap.size, 2, none⟩ = some (.string ⟨#[]⟩) := fun o => cell_later (nx_alloc _ _) (unhide f5_0_2)
    have e1_0 : ∀ o, (w5.alloc o).cell? ⟨w2.heap.size, 0, none⟩ = some (.int .i64 1) := fun o => cell_later (nx_alloc _ _) (unhide f5_1_0)
    have e1_1 : ∀ o, (w5.alloc o).cell? ⟨w2.heap.size, 1, none⟩ = some (.int .i64 (r2 - 30000)) := fun o => cell_later (nx_alloc _ _) (unhide f5_1_1)
    have e1_2 : ∀ o, (w5.alloc o).cell? ⟨w2.heap.size, 2, none⟩ = some (.string ⟨#[]⟩) := fun o => cell_later (nx_alloc _ _) (unhide f5_1_2)
    go_wp2_with fail
    refine (bin_add (r1 - 30000) (r2 - 30000) (r1 - 30000 + (r2 - 30000)) _ (inB_of (by omega) (by omega)) (inB_of (by omega) (by omega)) (inB_of (by omega) (by omega)) (by omega)).mono ?_
    rintro e w6 ⟨rfl, hb6⟩
    have f6_0_0 : Hid (w6.cell? ⟨w1.heap.size, 0, none⟩ = some (.int .i64 1)) := cell_later hb6 (by first | exact cell_later (nx_alloc _ _) (unhide f5_0_0) | exact cell_later (nx_trans (nx_alloc _ _) (nx_alloc _ _)) (unhide f5_0_0) | exact (unhide f5_0_0))
    have f6_0_1 : Hid (w6.cell? ⟨w1.heap.size, 1, none⟩ = some (.int .i64 (r1 - 30000))) := cell_later hb6 (by first | exact cell_later (nx_alloc _ _) (unhide f5_0_1) | exact cell_later (nx_trans (nx_alloc _ _) (nx_alloc _ _)) (unhide f5_0_1) | exact (unhide f5_0_1))
    have f6_0_2 : Hid (w6.cell? ⟨w1.heap.size, 2, none⟩ = some (.string ⟨#[]⟩)) := cell_later hb6 (by first | exact cell_later (nx_alloc _ _) (unhide f5_0_2) | exact cell_later (nx_trans (nx_alloc _ _) (nx_alloc _ _)) (unhide f5_0_2) | exact (unhide f5_0_2))
    have f6_1_0 : Hid (w6.cell? ⟨w2.heap.size, 0, none⟩ = some (.int .i64 1)) := cell_later hb6 (by first | exact cell_later (nx_alloc _ _) (unhide f5_1_0) | exact cell_later (nx_trans (nx_alloc _ _) (nx_alloc _ _)) (unhide f5_1_0) | exact (unhide f5_1_0))
    have f6_1_1 : Hid (w6.cell? ⟨w2.heap.size, 1, none⟩ = some (.int .i64 (r2 - 30000))) := cell_later hb6 (by first | exact cell_later (nx_alloc _ _) (unhide f5_1_1) | exact cell_later (nx_trans (nx_alloc _ _) (nx_alloc _ _)) (unhide f5_1_1) | exact (unhide f5_1_1))
    have f6_1_2 : Hid (w6.cell? ⟨w2.heap.size, 2, none⟩ = some (.string ⟨#[]⟩)) := cell_later hb6 (by first | exact cell_later (nx_alloc _ _) (unhide f5_1_2) | exact cell_later (nx_trans (nx_alloc _ _) (nx_alloc _ _)) (unhide f5_1_2) | exact (unhide f5_1_2))
    have f6_2_0 : Hid (w6.cell? ⟨w3.heap.size, 0, none⟩ = some (.int .i64 1)) := cell_later hb6 (by first | exact cell_later (nx_alloc _ _) (unhide f5_2_0) | exact cell_later (nx_trans (nx_alloc _ _) (nx_alloc _ _)) (unhide f5_2_0) | exact (unhide f5_2_0))
    have f6_2_1 : Hid (w6.cell? ⟨w3.heap.size, 1, none⟩ = some (.int .i64 (r1 - 30000))) := cell_later hb6 (by first | exact cell_later (nx_alloc _ _) (unhide f5_2_1) | exact cell_later (nx_trans (nx_alloc _ _) (nx_alloc _ _)) (unhide f5_2_1) | exact (unhide f5_2_1))
    have f6_2_2 : Hid (w6.cell? ⟨w3.heap.size, 2, none⟩ = some (.string ⟨#[]⟩)) := cell_later hb6 (by first | exact cell_later (nx_alloc _ _) (unhide f5_2_2) | exact cell_later (nx_trans (nx_alloc _ _) (nx_alloc _ _)) (unhide f5_2_2) | exact (unhide f5_2_2))
    have f6_3_0 : Hid (w6.cell? ⟨w4.heap.size, 0, none⟩ = some (.int .i64 1)) := cell_later hb6 (by first | exact cell_later (nx_alloc _ _) (unhide f5_3_0) | exact cell_later (nx_trans (nx_alloc _ _) (nx_alloc _ _)) (unhide f5_3_0) | exact (unhide f5_3_0))
    have f6_3_1 : Hid (w6.cell? ⟨w4.heap.size, 1, none⟩ = some (.int .i64 (r2 - 30000))) := cell_later hb6 (by first | exact cell_later (nx_alloc _ _) (unhide f5_3_1) | exact cell_later (nx_trans (nx_alloc _ _) (nx_alloc _ _)) (unhide f5_3_1) | exact (unhide f5_3_1))
    have f6_3_2 : Hid (w6.cell? ⟨w4.heap.size, 2, none⟩ = some (.string ⟨#[]⟩)) := cell_later hb6 (by first | exact cell_later (nx_alloc _ _) (unhide f5_3_2) | exact cell_later (nx_trans (nx_alloc _ _) (nx_alloc _ _)) (unhide f5_3_2) | exact (unhide f5_3_2))
    have f6_4_0 : Hid (w6.cell? ⟨w5.heap.size, 0, none⟩ = some (.int .i64 1)) := cell_later hb6 (by simp)
    have f6_4_1 : Hid (w6.cell? ⟨w5.heap.size, 1, none⟩ = some (.int .i64 (r1 - 30000 + (r2 - 30000)))) := cell_later hb6 (by simp)
    have f6_4_2 : Hid (w6.cell? ⟨w5.heap.size, 2, none⟩ = some (.string ⟨#[]⟩)) := cell_later hb6 (by simp)
    clear f5_0_0 f5_0_1 f5_0_2 f5_1_0 f5_1_1 f5_1_2 f5_2_0 f5_2_1 f5_2_2 f5_3_0 f5_3_1 f5_3_2 e0_0 e0_1 e0_2 e1_0 e1_1 e1_2
    have hB6 := hide hb6
    clear hb6
    have e0_0 : ∀ o, (w6.alloc o).cell? ⟨w1.heap.size, 0, none⟩ = some (.int .i64 1) := fun o => cell_later (nx_alloc _ _) (unhide f6_0_0)
    have e0_1 : ∀ o, (w6.alloc o).cell? ⟨w1.heap.size, 1, none⟩ = some (.int .i64 (r1 - 30000)) := fun o => cell_later (nx_alloc _ _) (unhide f6_0_1)
    have e0_2 : ∀ o, (w6.alloc o).cell? ⟨w1.heap.size, 2, none⟩ = some (.string ⟨#[]⟩) := fun o => cell_later (nx_alloc _ _) (unhide f6_0_2)
    have e1_0 : ∀ o, (w6.alloc o).cell? ⟨w2.heap.size, 0, none⟩ = some (.int .i64 1) := fun o => cell_later (nx_alloc _ _) (unhide f6_1_0)
    have e1_1 : ∀ o, (w6.alloc o).cell? ⟨w2.heap.size, 1, none⟩ = some (.int .i64 (r2 - 30000)) := fun o => cell_later (nx_alloc _ _) (unhide f6_1_1)
    have e1_2 : ∀ o, (w6.alloc o).cell? ⟨w2.heap.size, 2, none⟩ = some (.string ⟨#[]⟩) := fun o => cell_later (nx_alloc _ _) (unhide f6_1_2)
    go_wp2_with fail
    refine (bin_lt (r1 - 30000) (r2 - 30000) false 0 _ (inB_of (by omega) (by omega)) (inB_of (by omega) (by omega)) (by first | (simp; done) | (simp; omega)) rfl).mono ?_
    rintro e w7 ⟨rfl, hb7⟩
    have f7_0_0 : Hid (w7.cell? ⟨w1.heap.size, 0, none⟩ = some (.int .i64 1)) := cell_later hb7 (by first | exact cell_later (nx_alloc _ _) (unhide f6_0_0) | exact cell_later (nx_trans (nx_alloc _ _) (nx_alloc _ _)) (unhide f6_0_0) | exact (unhide f6_0_0))
    have f7_0_1 : Hid (w7.cell? ⟨w1.heap.size, 1, none⟩ = some (.int .i64 (r1 - 30000))) := cell_later hb7 (by first | exact cell_later (nx_alloc _ _) (unhide f6_0_1) | exact cell_later (nx_trans (nx_alloc _ _) (nx_alloc _ _)) (unhide f6_0_1) | exact (unhide f6_0_1))
    have f7_0_2 : Hid (w7.cell? ⟨w1.heap.size, 2, none⟩ = some (.string ⟨#[]⟩)) := cell_later hb7 (by first | exact cell_later (nx_alloc _ _) (unhide f6_0_2) | exact cell_later (nx_trans (nx_alloc _ _) (nx_alloc _ _)) (unhide f6_0_2) | exact (unhide f6_0_2))
    have f7_1_0 : Hid (w7.cell? ⟨w2.heap.size, 0, none⟩ = some (.int .i64 1)) := cell_later hb7 (by first | exact cell_later (nx_alloc _ _) (unhide f6_1_0) | exact cell_later (nx_trans (nx_alloc _ _) (nx_alloc _ _)) (unhide f6_1_0) | exact (unhide f6_1_0))
    have f7_1_1 : Hid (w7.cell? ⟨w2.heap.size, 1, none⟩ = some (.int .i64 (r2 - 30000))) := cell_later hb7 (by first | exact cell_later (nx_alloc _ _) (unhide f6_1_1) | exact cell_later (nx_trans (nx_alloc _ _) (nx_alloc _ _)) (unhide f6_1_1) | exact (unhide f6_1_1))
    have f7_1_2 : Hid (w7.cell? ⟨w2.heap.size, 2, none⟩ = some (.string ⟨#[]⟩)) := cell_later hb7 (by first | exact cell_later (nx_alloc _ _) (unhide f6_1_2) | exact cell_later (nx_trans (nx_alloc _ _) (nx_alloc _ _)) (unhide f6_1_2) | exact (unhide f6_1_2))
    have f7_2_0 : Hid (w7.cell? ⟨w3.heap.size, 0, none⟩ = some (.int .i64 1)) := cell_later hb7 (by first | exact cell_later (nx_alloc _ _) (unhide f6_2_0) | exact cell_later (nx_trans (nx_alloc _ _) (nx_alloc _ _)) (unhide f6_2_0) | exact (unhide f6_2_0))
    have f7_2_1 : Hid (w7.cell? ⟨w3.heap.size, 1, none⟩ = some (.int .i64 (r1 - 30000))) := cell_later hb7 (by first | exact cell_later (nx_alloc _ _) (unhide f6_2_1) | exact cell_later (nx_trans (nx_alloc _ _) (nx_alloc _ _)) (unhide f6_2_1) | exact (unhide f6_2_1))
    have f7_2_2 : Hid (w7.cell? ⟨w3.heap.size, 2, none⟩ = some (.string ⟨#[]⟩)) := cell_later hb7 (by first | exact cell_later (nx_alloc _ _) (unhide f6_2_2) | exact cell_later (nx_trans (nx_alloc _ _) (nx_alloc _ _)) (unhide f6_2_2) | exact (unhide f6_2_2))
    have f7_3_0 : Hid (w7.cell? ⟨w4.heap.size, 0, none⟩ = some (.int .i64 1)) := cell_later hb7 (by first | exact cell_later (nx_alloc _ _) (unhide f6_3_0) | exact cell_later (nx_trans (nx_alloc _ _) (nx_alloc _ _)) (unhide f6_3_0) | exact (unhide f6_3_0))
    have f7_3_1 : Hid (w7.cell? ⟨w4.heap.size, 1, none⟩ = some (.int .i64 (r2 - 30000))) := cell_later hb7 (by first | exact cell_later (nx_alloc _ _) (unhide f6_3_1) | exact cell_later (nx_trans (nx_alloc _ _) (nx_alloc _ _)) (unhide f6_3_1) | exact (unhide f6_3_1))
    have f7_3_2 : Hid (w7.cell? ⟨w4.heap.size, 2, none⟩ = some (.string ⟨#[]⟩)) := cell_later hb7 (by first | exact cell_later (nx_alloc _ _) (unhide f6_3_2) | exact cell_later (nx_trans (nx_alloc _ _) (nx_alloc _ _)) (unhide f6_3_2) | exact (unhide f6_3_2))
    have f7_4_0 : Hid (w7.cell? ⟨w5.heap.size, 0, none⟩ = some (.int .i64 1)) := cell_later hb7 (by first | exact cell_later (nx_alloc _ _) (unhide f6_4_0) | exact cell_later (nx_trans (nx_alloc _ _) (nx_alloc _ _)) (unhide f6_4_0) | exact (unhide f6_4_0))
    have f7_4_1 : Hid (w7.cell? ⟨w5.heap.size, 1, none⟩ = some (.int .i64 (r1 - 30000 + (r2 - 30000)))) := cell_later hb7 (by first | exact cell_later (nx_alloc _ _) (unhide f6_4_1) | exact cell_later (nx_trans (nx_alloc _ _) (nx_alloc _ _)) (unhide f6_4_1) | exact (unhide f6_4_1))
    have f7_4_2 : Hid (w7.cell? ⟨w5.heap.size, 2, none⟩ = some (.string ⟨#[]⟩)) := cell_later hb7 (by first | exact cell_later (nx_alloc _ _) (unhide f6_4_2) | exact cell_later (nx_trans (nx_alloc _ _) (nx_alloc _ _)) (unhide f6_4_2) | exact (unhide f6_4_2))
    have f7_5_0 : Hid (w7.cell? ⟨w6.heap.size, 0, none⟩ = some (.int .i64 1)) := cell_later hb7 (by simp)
    have f7_5_1 : Hid (w7.cell? ⟨w6.heap.size, 1, none⟩ = some (.int .i64 (r1 - 30000 + (r2 - 30000)))) := cell_later hb7 (by simp)
    have f7_5_2 : Hid (w7.cell? ⟨w6.heap.size, 2, none⟩ = some (.string ⟨#[]⟩)) := cell_later hb7 (by simp)
    clear f6_0_0 f6_0_1 f6_0_2 f6_1_0 f6_1_1 f6_1_2 f6_2_0 f6_2_1 f6_2_2 f6_3_0 f6_3_1 f6_3_2 f6_4_0 f6_4_1 f6_4_2 e0_0 e0_1 e0_2 e1_0 e1_1 e1_2
    have hB7 := hide hb7
    clear hb7
    have e0_0 : ∀ o, (w7.alloc o).cell? ⟨w1.heap.size, 0, none⟩ = some (.int .i64 1) := fun o => cell_later (nx_alloc _ _) (unhide f7_0_0)
    have e0_1 : ∀ o, (w7.alloc o).cell? ⟨w1.heap.size, 1, none⟩ = some (.int .i64 (r1 - 30000)) := fun o => cell_later (nx_alloc _ _) (unhide f7_0_1)
    have e0_2 : ∀ o, (w7.alloc o).cell? ⟨w1.heap.size, 2, none⟩ = some (.string ⟨#[]⟩) := fun o => cell_later (nx_alloc _ _) (unhide f7_0_2)
    go_wp2_with fail
    refine (un_neg (r1 - 30000) (-(r1 - 30000)) _ (inB_of (by omega) (by omega)) (inB_of (by omega) (by omega)) rfl).mono ?_
    rintro e w8 ⟨rfl, hb8⟩
    have f8_0_0 : Hid (w8.cell? ⟨w1.heap.size, 0, none⟩ = some (.int .i64 1)) := cell_later hb8 (by first | exact cell_later (nx_alloc _ _) (unhide f7_0_0) | exact cell_later (nx_trans (nx_alloc _ _) (nx_alloc _ _)) (unhide f7_0_0) | exact (unhide f7_0_0))
    have f8_0_1 : Hid (w8.cell? ⟨w1.heap.size, 1, none⟩ = some (.int .i64 (r1 - 30000))) := cell_later hb8 (by first | exact cell_later (nx_alloc _ _) (unhide f7_0_1) | exact cell_later (nx_trans (nx_alloc _ _) (nx_alloc _ _)) (unhide f7_0_1) | exact (unhide f7_0_1))
    have f8_0_2 : Hid (w8.cell? ⟨w1.heap.size, 2, none⟩ = some (.string ⟨#[]⟩)) := cell_later hb8 (by first | exact cell_later (nx_alloc _ _) (unhide f7_0_2) | exact cell_later (nx_trans (nx_alloc _ _) (nx_alloc _ _)) (unhide f7_0_2) | exact (unhide f7_0_2))
    have f8_1_0 : Hid (w8.cell? ⟨w2.heap.size, 0, none⟩ = some (.int .i64 1)) := cell_later hb8 (by first | exact cell_later (nx_alloc _ _) (unhide f7_1_0) | exact cell_later (nx_trans (nx_alloc _ _) (nx_alloc _ _)) (unhide f7_1_0) | exact (unhide f7_1_0))
    have f8_1_1 : Hid (w8.cell? ⟨w2.heap.size, 1, none⟩ = some (.int .i64 (r2 - 30000))) := cell_later hb8 (by first | exact cell_later (nx_alloc _ _) (unhide f7_1_1) | exact cell_later (nx_trans (nx_alloc _ _) (nx_alloc _ _)) (unhide f7_1_1) | exact (unhide f7_1_1))
    have f8_1_2 : Hid (w8.cell? ⟨w2.heap.size, 2, none⟩ = some (.string ⟨#[]⟩)) := cell_later hb8 (by first | exact cell_later (nx_alloc _ _) (unhide f7_1_2) | exact cell_later (nx_trans (nx_alloc _ _) (nx_alloc _ _)) (unhide f7_1_2) | exact (unhide f7_1_2))
    have f8_2_0 : Hid (w8.cell? ⟨w3.heap.size, 0, none⟩ = some (.int .i64 1)) := cell_later hb8 (by first | exact cell_later (nx_alloc _ _) (unhide f7_2_0) | exact cell_later (nx_trans (nx_alloc _ _) (nx_alloc _ _)) (unhide f7_2_0) | exact (unhide f7_2_0))
    have f8_2_1 : Hid (w8.cell? ⟨w3.heap.size, 1, none⟩ = some (.int .i64 (r1 - 30000))) := cell_later hb8 (by first | exact cell_later (nx_alloc _ _) (unhide f7_2_1) | exact cell_later (nx_trans (nx_alloc _ _) (nx_alloc _ _)) (unhide f7_2_1) | exact (unhide f7_2_1))
    have f8_2_2 : Hid (w8.cell? ⟨w3.heap.size, 2, none⟩ = some (.string ⟨#[]⟩)) := cell_later hb8 (by first | exact cell_later (nx_alloc _ _) (unhide f7_2_2) | exact cell_later (nx_trans (nx_alloc _ _) (nx_alloc _ _)) (unhide f7_2_2) | exact (unhide f7_2_2))
    have f8_3_0 : Hid (w8.cell? ⟨w4.heap.size, 0, none⟩ = some (.int .i64 1)) := cell_later hb8 (by first | exact cell_later (nx_alloc _ _) (unhide f7_3_0) | exact cell_later (nx_trans (nx_alloc _ _) (nx_alloc _ _)) (unhide f7_3_0) | exact (unhide f7_3_0))
    have f8_3_1 : Hid (w8.cell? ⟨w4.heap.size, 1, none⟩ = some (.int .i64 (r2 - 30000))) := cell_later hb8 (by first | exact cell_later (nx_alloc _ _) (unhide f7_3_1) | exact cell_later (nx_trans (nx_alloc _ _) (nx_alloc _ _)) (unhide f7_3_1) | exact (unhide f7_3_1))
    have f8_3_2 : Hid (w8.cell? ⟨w4.heap.size, 2, none⟩ = some (.string ⟨#[]⟩)) := cell_later hb8 (by first | exact cell_later (nx_alloc _ _) (unhide f7_3_2) | exact cell_later (nx_trans (nx_alloc _ _) (nx_alloc _ _)) (unhide f7_3_2) | exact (unhide f7_3_2))
    have f8_4_0 : Hid (w8.cell? ⟨w5.heap.size, 0, none⟩ = some (.int .i64 1)) := cell_later hb8 (by first | exact cell_later (nx_alloc _ _) (unhide f7_4_0) | exact cell_later (nx_trans (nx_alloc _ _) (nx_alloc _ _)) (unhide f7_4_0) | exact (unhide f7_4_0))
    have f8_4_1 : Hid (w8.cell? ⟨w5.heap.size, 1, none⟩ = some (.int .i64 (r1 - 30000 + (r2 - 30000)))) := cell_later hb8 (by first | exact cell_later (nx_alloc _ _) (unhide f7_4_1) | exact cell_later (nx_trans (nx_alloc _ _) (nx_alloc _ _)) (unhide f7_4_1) | exact (unhide f7_4_1))
    have f8_4_2 : Hid (w8.cell? ⟨w5.heap.size, 2, none⟩ = some (.string ⟨#[]⟩)) := cell_later hb8 (by first | exact cell_later (nx_alloc _ _) (unhide f7_4_2) | exact cell_later (nx_trans (nx_alloc _ _) (nx_alloc _ _)) (unhide f7_4_2) | exact (unhide f7_4_2))
    have f8_5_0 : Hid (w8.cell? ⟨w6.heap.size, 0, none⟩ = some (.int .i64 1)) := cell_later hb8 (by first | exact cell_later (nx_alloc _ _) (unhide f7_5_0) | exact cell_later (nx_trans (nx_alloc _ _) (nx_alloc _ _)) (unhide f7_5_0) | exact (unhide f7_5_0))
    have f8_5_1 : Hid (w8.cell? ⟨w6.heap.size, 1, none⟩ = some (.int .i64 (r1 - 30000 + (r2 - 30000)))) := cell_later hb8 (by first | exact cell_later (nx_alloc _ _) (unhide f7_5_1) | exact cell_later (nx_trans (nx_alloc _ _) (nx_alloc _ _)) (unhide f7_5_1) | exact (unhide f7_5_1))
    have f8_5_2 : Hid (w8.cell? ⟨w6.heap.size, 2, none⟩ = some (.string ⟨#[]⟩)) := cell_later hb8 (by first | exact cell_later (nx_alloc _ _) (unhide f7_5_2) | exact cell_later (nx_trans (nx_alloc _ _) (nx_alloc _ _)) (unhide f7_5_2) | exact (unhide f7_5_2))
    have f8_6_0 : Hid (w8.cell? ⟨w7.heap.size, 0, none⟩ = some (.int .i64 2)) := cell_later hb8 (by simp)
    have f8_6_1 : Hid (w8.cell? ⟨w7.heap.size, 1, none⟩ = some (.int .i64 0)) := cell_later hb8 (by simp)
    have f8_6_2 : Hid (w8.cell? ⟨w7.heap.size, 2, none⟩ = some (.string ⟨#[]⟩)) := cell_later hb8 (by simp)
    clear f7_0_0 f7_0_1 f7_0_2 f7_1_0 f7_1_1 f7_1_2 f7_2_0 f7_2_1 f7_2_2 f7_3_0 f7_3_1 f7_3_2 f7_4_0 f7_4_1 f7_4_2 f7_5_0 f7_5_1 f7_5_2 e0_0 e0_1 e0_2
    have hB8 := hide hb8
    clear hb8
    go_wp2_with fail
    refine (un_neg (-(r1 - 30000)) (r1 - 30000) _ (inB_of (by omega) (by omega)) (inB_of (by omega) (by omega)) (by omega)).mono ?_
    rintro e w9 ⟨rfl, hb9⟩
    have f9_0_0 : Hid (w9.cell? ⟨w1.heap.size, 0, none⟩ = some (.int .i64 1)) := cell_later hb9 (by first | exact cell_later (nx_alloc _ _) (unhide f8_0_0) | exact cell_later (nx_trans (nx_alloc _ _) (nx_alloc _ _)) (unhide f8_0_0) | exact (unhide f8_0_0))
    have f9_0_1 : Hid (w9.cell? ⟨w1.heap.size, 1, none⟩ = some (.int .i64 (r1 - 30000))) := cell_later hb9 (by first | exact cell_later (nx_alloc _ _) (unhide f8_0_1) | exact cell_later (nx_trans (nx_alloc _ _) (nx_alloc _ _)) (unhide f8_0_1) | exact (unhide f8_0_1))
    have f9_0_2 : Hid (w9.cell? ⟨w1.heap.size, 2, none⟩ = some (.string ⟨#[]⟩)) := cell_later hb9 (by first | exact cell_later (nx_alloc _ _) (unhide f8_0_2) | exact cell_later (nx_trans (nx_alloc _ _) (nx_alloc _ _)) (unhide f8_0_2) | exact (unhide f8_0_2))
    have f9_1_0 : Hid (w9.cell? ⟨w2.heap.size, 0, none⟩ = some (.int .i64 1)) := cell_later hb9 (by first | exact cell_later (nx_alloc _ _) (unhide f8_1_0) | exact cell_later (nx_trans (nx_alloc _ _) (nx_alloc _ _)) (unhide f8_1_0) | exact (unhide f8_1_0))
    have f9_1_1 : Hid (w9.cell? ⟨w2.heap.size, 1, none⟩ = some (.int .i64 (r2 - 30000))) := cell_later hb9 (by first | exact cell_later (nx_alloc _ _) (unhide f8_1_1) | exact cell_later (nx_trans (nx_alloc _ _) (nx_alloc _ _)) (unhide f8_1_1) | exact (unhide f8_1_1))
    have f9_1_2 : Hid (w9.cell? ⟨w2.heap.size, 2, none⟩ = some (.string ⟨#[]⟩)) := cell_later hb9 (by first | exact cell_later (nx_alloc _ _) (unhide f8_1_2) | exact cell_later (nx_trans (nx_alloc _ _) (nx_alloc _ _)) (unhide f8_1_2) | exact (unhide f8_1_2))
    have f9_2_0 : Hid (w9.cell? ⟨w3.heap.size, 0, none⟩ = some (.int .i64 1)) := cell_later hb9 (by first | exact cell_later (nx_alloc _ _) (unhide f8_2_0) | exact cell_later (nx_trans (nx_alloc _ _) (nx_alloc _ _)) (unhide f8_2_0) | exact (unhide f8_2_0))
    have f9_2_1 : Hid (w9.cell? ⟨w3.heap.size, 1, none⟩ = some (.int .i64 (r1 - 30000))) := cell_later hb9 (by first | exact cell_later (nx_alloc _ _) (unhide f8_2_1) | exact cell_later (nx_trans (nx_alloc _ _) (nx_alloc _ _)) (unhide f8_2_1) | exact (unhide f8_2_1))
    have f9_2_2 : Hid (w9.cell? ⟨w3.heap.size, 2, none⟩ = some (.string ⟨#[]⟩)) := cell_later hb9 (by first | exact cell_later (nx_alloc _ _) (unhide f8_2_2) | exact cell_later (nx_trans (nx_alloc _ _) (nx_alloc _ _)) (unhide f8_2_2) | exact (unhide f8_2_2))
    have f9_3_0 : Hid (w9.cell? ⟨w4.heap.size, 0, none⟩ = some (.int .i64 1)) := cell_later hb9 (by first | exact cell_later (nx_alloc _ _) (unhide f8_3_0) | exact cell_later (nx_trans (nx_alloc _ _) (nx_alloc _ _)) (unhide f8_3_0) | exact (unhide f8_3_0))
    have f9_3_1 : Hid (w9.cell? ⟨w4.heap.size, 1, none⟩ = some (.int .i64 (r2 - 30000))) := cell_later hb9 (by first | exact cell_later (nx_alloc _ _) (unhide f8_3_1) | exact cell_later (nx_trans (nx_alloc _ _) (nx_alloc _ _)) (unhide f8_3_1) | exact (unhide f8_3_1))
    have f9_3_2 : Hid (w9.cell? ⟨w4.heap.size, 2, none⟩ = some (.string ⟨#[]⟩)) := cell_later hb9 (by first | exact cell_later (nx_alloc _ _) (unhide f8_3_2) | exact cell_later (nx_trans (nx_alloc _ _) (nx_alloc _ _)) (unhide f8_3_2) | exact (unhide f8_3_2))
    have f9_4_0 : Hid (w9.cell? ⟨w5.heap.size, 0, none⟩ = some (.int .i64 1)) := cell_later hb9 (by first | exact cell_later (nx_alloc _ _) (unhide f8_4_0) | exact cell_later (nx_trans (nx_alloc _ _) (nx_alloc _ _)) (unhide f8_4_0) | exact (unhide f8_4_0))
    have f9_4_1 : Hid (w9.cell? ⟨w5.heap.size, 1, none⟩ = some (.int .i64 (r1 - 30000 + (r2 - 30000)))) := cell_later hb9 (by first | exact cell_later (nx_alloc _ _) (unhide f8_4_1) | exact cell_later (nx_trans (nx_alloc _ _) (nx_alloc _ _)) (unhide f8_4_1) | exact (unhide f8_4_1))
    have f9_4_2 : Hid (w9.cell? ⟨w5.heap.size, 2, none⟩ = some (.string ⟨#[]⟩)) := cell_later hb9 (by first | exact cell_later (nx_alloc _ _) (unhide f8_4_2) | exact cell_later (nx_trans (nx_alloc _ _) (nx_alloc _ _)) (unhide f8_4_2) | exact (unhide f8_4_2))
    have f9_5_0 : Hid (w9.cell? ⟨w6.heap.size, 0, none⟩ = some (.int .i64 1)) := cell_later hb9 (by first | exact cell_later (nx_alloc _ _) (unhide f8_5_0) | exact cell_later (nx_trans (nx_alloc _ _) (nx_alloc _ _)) (unhide f8_5_0) | exact (unhide f8_5_0))
    have f9_5_1 : Hid (w9.cell? ⟨w6.heap.size, 1, none⟩ = some (.int .i64 (r1 - 30000 + (r2 - 30000)))) := cell_later hb9 (by first | exact cell_later (nx_alloc _ _) (unhide f8_5_1) | exact cell_later (nx_trans (nx_alloc _ _) (nx_alloc _ _)) (unhide f8_5_1) | exact (unhide f8_5_1))
    have f9_5_2 : Hid (w9.cell? ⟨w6.heap.size, 2, none⟩ = some (.string ⟨#[]⟩)) := cell_later hb9 (by first | exact cell_later (nx_alloc _ _) (unhide f8_5_2) | exact cell_later (nx_trans (nx_alloc _ _) (nx_alloc _ _)) (unhide f8_5_2) | exact (unhide f8_5_2))
    have f9_6_0 : Hid (w9.cell? ⟨w7.heap.size, 0, none⟩ = some (.int .i64 2)) := cell_later hb9 (by first | exact cell_later (nx_alloc _ _) (unhide f8_6_0) | exact cell_later (nx_trans (nx_alloc _ _) (nx_alloc _ _)) (unhide f8_6_0) | exact (unhide f8_6_0))
    have f9_6_1 : Hid (w9.cell? ⟨w7.heap.size, 1, none⟩ = some (.int .i64 0)) := cell_later hb9 (by first | exact cell_later (nx_alloc _ _) (unhide f8_6_1) | exact cell_later (nx_trans (nx_alloc _ _) (nx_alloc _ _)) (unhide f8_6_1) | exact (unhide f8_6_1))
    have f9_6_2 : Hid (w9.cell? ⟨w7.heap.size, 2, none⟩ = some (.string ⟨#[]⟩)) := cell_later hb9 (by first | exact cell_later (nx_alloc _ _) (unhide f8_6_2) | exact cell_later (nx_trans (nx_alloc _ _) (nx_alloc _ _)) (unhide f8_6_2) | exact (unhide f8_6_2))
    have f9_7_0 : Hid (w9.cell? ⟨w8.heap.size, 0, none⟩ = some (.int .i64 1)) := cell_later hb9 (by simp)
    have f9_7_1 : Hid (w9.cell? ⟨w8.heap.size, 1, none⟩ = some (.int .i64 (-(r1 - 30000)))) := cell_later hb9 (by simp)
    have f9_7_2 : Hid (w9.cell? ⟨w8.heap.size, 2, none⟩ = some (.string ⟨#[]⟩)) := cell_later hb9 (by simp)
    clear f8_0_0 f8_0_1 f8_0_2 f8_1_0 f8_1_1 f8_1_2 f8_2_0 f8_2_1 f8_2_2 f8_3_0 f8_3_1 f8_3_2 f8_4_0 f8_4_1 f8_4_2 f8_5_0 f8_5_1 f8_5_2 f8_6_0 f8_6_1 f8_6_2
    have hB9 := hide hb9
    clear hb9
    have e0_0 : ∀ o, (w9.alloc o).cell? ⟨w1.heap.size, 0, none⟩ = some (.int .i64 1) := fun o => cell_later (nx_alloc _ _) (unhide f9_0_0)
    have e0_1 : ∀ o, (w9.alloc o).cell? ⟨w1.heap.size, 1, none⟩ = some (.int .i64 (r1 - 30000)) := fun o => cell_later (nx_alloc _ _) (unhide f9_0_1)
    have e0_2 : ∀ o, (w9.alloc o).cell? ⟨w1.heap.size, 2, none⟩ = some (.string ⟨#[]⟩) := fun o => cell_later (nx_alloc _ _) (unhide f9_0_2)
    go_wp2_with fail
    refine (bi_one (r1 - 30000) _ _ _ (inB_of (by omega) (by omega)) (args1 (by simp) (by simp) (by simp))).mono ?_
    rintro e w10 ⟨rfl, hb10⟩
    have f10_0_0 : Hid (w10.cell? ⟨w1.heap.size, 0, none⟩ = some (.int .i64 1)) := cell_later hb10 (by first | exact cell_later (nx_alloc _ _) (unhide f9_0_0) | exact cell_later (nx_trans (nx_alloc _ _) (nx_alloc _ _)) (unhide f9_0_0) | exact (unhide f9_0_0))
    have f10_0_1 : Hid (w10.cell? ⟨w1.heap.size, 1, none⟩ = some (.int .i64 (r1 - 30000))) := cell_later hb10 (by first | exact cell_later (nx_alloc _ _) (unhide f9_0_1) | exact cell_later (nx_trans (nx_alloc _ _) (nx_alloc _ _)) (unhide f9_0_1) | exact (unhide f9_0_1))
    have f10_0_2 : Hid (w10.cell? ⟨w1.heap.size, 2, none⟩ = some (.string ⟨#[]⟩)) := cell_later hb10 (by first | exact cell_later (nx_alloc _ _) (unhide f9_0_2) | exact cell_later (nx_trans (nx_alloc _ _) (nx_alloc _ _)) (unhide f9_0_2) | exact (unhide f9_0_2))
    have f10_1_0 : Hid (w10.cell? ⟨w2.heap.size, 0, none⟩ = some (.int .i64 1)) := cell_later hb10 (by first | exact cell_later (nx_alloc _ _) (unhide f9_1_0) | exact cell_later (nx_trans (nx_alloc _ _) (nx_alloc _ _)) (unhide f9_1_0) | exact (unhide f9_1_0))
    have f10_1_1 : Hid (w10.cell? ⟨w2.heap.size, 1, none⟩ = some (.int .i64 (r2 - 30000))) := cell_later hb10 (by first | exact cell_later (nx_alloc _ _) (unhide f9_1_1) | exact cell_later (nx_trans (nx_alloc _ _) (nx_alloc _ _)) (unhide f9_1_1) | exact (unhide f9_1_1))
    have f10_1_2 : Hid (w10.cell? ⟨w2.heap.size, 2, none⟩ = some (.string ⟨#[]⟩)) := cell_later hb10 (by first | exact cell_later (nx_alloc _ _) (unhide f9_1_2) | exact cell_later (nx_trans (nx_alloc _ _) (nx_alloc _ _)) (unhide f9_1_2) | exact (unhide f9_1_2))
    have f10_2_0 : Hid (w10.cell? ⟨w3.heap.size, 0, none⟩ = some (.int .i64 1)) := cell_later hb10 (by first | exact cell_later (nx_alloc _ _) (unhide f9_2_0) | exact cell_later (nx_trans (nx_alloc _ _) (nx_alloc _ _)) (unhide f9_2_0) | exact (unhide f9_2_0))
    have f10_2_1 : Hid (w10.cell? ⟨w3.heap.size, 1, none⟩ = some (.int .i64 (r1 - 30000))) := cell_later hb10 (by first | exact cell_later (nx_alloc _ _) (unhide f9_2_1) | exact cell_later (nx_trans (nx_alloc _ _) (nx_alloc _ _)) (unhide f9_2_1) | exact (unhide f9_2_1))
    have f10_2_2 : Hid (w10.cell? ⟨w3.heap.size, 2, none⟩ = some (.string ⟨#[]⟩)) := cell_later hb10 (by first | exact cell_later (nx_alloc _ _) (unhide f9_2_2) | exact cell_later (nx_trans (nx_alloc _ _) (nx_alloc _ _)) (unhide f9_2_2) | exact (unhide f9_2_2))
    have f10_3_0 : Hid (w10.cell? ⟨w4.heap.size, 0, none⟩ = some (.int .i64 1)) := cell_later hb10 (by first | exact cell_later (nx_alloc _ _) (unhide f9_3_0) | exact cell_later (nx_trans (nx_alloc _ _) (nx_alloc _ _)) (unhide f9_3_0) | exact (unhide f9_3_0))
    have f10_3_1 : Hid (w10.cell? ⟨w4.heap.size, 1, none⟩ = some (.int .i64 (r2 - 30000))) := cell_later hb10 (by first | exact cell_later (nx_alloc _ _) (unhide f9_3_1) | exact cell_later (nx_trans (nx_alloc _ _) (nx_alloc _ _)) (unhide f9_3_1) | exact (unhide f9_3_1))
    have f10_3_2 : Hid (w10.cell? ⟨w4.heap.size, 2, none⟩ = some (.string ⟨#[]⟩)) := cell_later hb10 (by first | exact cell_later (nx_alloc _ _) (unhide f9_3_2) | exact cell_later (nx_trans (nx_alloc _ _) (nx_alloc _ _)) (unhide f9_3_2) | exact (unhide f9_3_2))
    have f10_4_0 : Hid (w10.cell? ⟨w5.heap.size, 0, none⟩ = some (.int .i64 1)) := cell_later hb10 (by first | exact cell_later (nx_alloc _ _) (unhide f9_4_0) | exact cell_later (nx_trans (nx_alloc _ _) (nx_alloc _ _)) (unhide f9_4_0) | exact (unhide f9_4_0))
    have f10_4_1 : Hid (w10.cell? ⟨w5.heap.size, 1, none⟩ = some (.int .i64 (r1 - 30000 + (r2 - 30000)))) := cell_later hb10 (by first | exact cell_later (nx_alloc _ _) (unhide f9_4_1) | exact cell_later (nx_trans (nx_alloc _ _) (nx_alloc _ _)) (unhide f9_4_1) | exact (unhide f9_4_1))
    have f10_4_2 : Hid (w10.cell? ⟨w5.heap.size, 2, none⟩ = some (.string ⟨#[]⟩)) := cell_later hb10 (by first | exact cell_later (nx_alloc _ _) (unhide f9_4_2) | exact cell_later (nx_trans (nx_alloc _ _) (nx_alloc _ _)) (unhide f9_4_2) | exact (unhide f9_4_2))
    have f10_5_0 : Hid (w10.cell? ⟨w6.heap.size, 0, none⟩ = some (.int .i64 1)) := cell_later hb10 (by first | exact cell_later (nx_alloc _ _) (unhide f9_5_0) | exact cell_later (nx_trans (nx_alloc _ _) (nx_alloc _ _)) (unhide f9_5_0) | exact (unhide f9_5_0))
    have f10_5_1 : Hid (w10.cell? ⟨w6.heap.size, 1, none⟩ = some (.int .i64 (r1 - 30000 + (r2 - 30000)))) := cell_later hb10 (by first | exact cell_later (nx_alloc _ _) (unhide f9_5_1) | exact cell_later (nx_trans (nx_alloc _ _) (nx_alloc _ _)) (unhide f9_5_1) | exact (unhide f9_5_1))
    have f10_5_2 : Hid (w10.cell? ⟨w6.heap.size, 2, none⟩ = some (.string ⟨#[]⟩)) := cell_later hb10 (by first | exact cell_later (nx_alloc _ _) (unhide f9_5_2) | exact cell_later (nx_trans (nx_alloc _ _) (nx_alloc _ _)) (unhide f9_5_2) | exact (unhide f9_5_2))
    have f10_6_0 : Hid (w10.cell? ⟨w7.heap.size, 0, none⟩ = some (.int .i64 2)) := cell_later hb10 (by first | exact cell_later (nx_alloc _ _) (unhide f9_6_0) | exact cell_later (nx_trans (nx_alloc _ _) (nx_alloc _ _)) (unhide f9_6_0) | exact (unhide f9_6_0))
    have f10_6_1 : Hid (w10.cell? ⟨w7.heap.size, 1, none⟩ = some (.int .i64 0)) := cell_later hb10 (by first | exact cell_later (nx_alloc _ _) (unhide f9_6_1) | exact cell_later (nx_trans (nx_alloc _ _) (nx_alloc _ _)) (unhide f9_6_1) | exact (unhide f9_6_1))
    have f10_6_2 : Hid (w10.cell? ⟨w7.heap.size, 2, none⟩ = some (.string ⟨#[]⟩)) := cell_later hb10 (by first | exact cell_later (nx_alloc _ _) (unhide f9_6_2) | exact cell_later (nx_trans (nx_alloc _ _) (nx_alloc _ _)) (unhide f9_6_2) | exact (unhide f9_6_2))
    have f10_7_0 : Hid (w10.cell? ⟨w8.heap.size, 0, none⟩ = some (.int .i64 1)) := cell_later hb10 (by first | exact cell_later (nx_alloc _ _) (unhide f9_7_0) | exact cell_later (nx_trans (nx_alloc _ _) (nx_alloc _ _)) (unhide f9_7_0) | exact (unhide f9_7_0))
    have f10_7_1 : Hid (w10.cell? ⟨w8.heap.size, 1, none⟩ = some (.int .i64 (-(r1 - 30000)))) := cell_later hb10 (by first | exact cell_later (nx_alloc _ _) (unhide f9_7_1) | exact cell_later (nx_trans (nx_alloc _ _) (nx_alloc _ _)) (unhide f9_7_1) | exact (unhide f9_7_1))
    have f10_7_2 : Hid (w10.cell? ⟨w8.heap.size, 2, none⟩ = some (.string ⟨#[]⟩)) := cell_later hb10 (by first | exact cell_later (nx_alloc _ _) (unhide f9_7_2) | exact cell_later (nx_trans (nx_alloc _ _) (nx_alloc _ _)) (unhide f9_7_2) | exact (unhide f9_7_2))
    have f10_8_0 : Hid (w10.cell? ⟨w9.heap.size, 0, none⟩ = some (.int .i64 1)) := cell_later hb10 (by simp)
    have f10_8_1 : Hid (w10.cell? ⟨w9.heap.size, 1, none⟩ = some (.int .i64 (r1 - 30000))) := cell_later hb10 (by simp)
    have f10_8_2 : Hid (w10.cell? ⟨w9.heap.size, 2, none⟩ = some (.string ⟨#[]⟩)) := cell_later hb10 (by simp)
    clear f9_0_0 f9_0_1 f9_0_2 f9_1_0 f9_1_1 f9_1_2 f9_2_0 f9_2_1 f9_2_2 f9_3_0 f9_3_1 f9_3_2 f9_4_0 f9_4_1 f9_4_2 f9_5_0 f9_5_1 f9_5_2 f9_6_0 f9_6_1 f9_6_2 f9_7_0 f9_7_1 f9_7_2 e0_0 e0_1 e0_2
    have hB10 := hide hb10
    clear hb10
    have e0_0 : ∀ o, (w10.alloc o).cell? ⟨w1.heap.size, 0, none⟩ = some (.int .i64 1) := fun o => cell_later (nx_alloc _ _) (unhide f10_0_0)
    have e0_1 : ∀ o, (w10.alloc o).cell? ⟨w1.heap.size, 1, none⟩ = some (.int .i64 (r1 - 30000)) := fun o => cell_later (nx_alloc _ _) (unhide f10_0_1)
    have e0_2 : ∀ o, (w10.alloc o).cell? ⟨w1.heap.size, 2, none⟩ = some (.string ⟨#[]⟩) := fun o => cell_later (nx_alloc _ _) (unhide f10_0_2)
    have e1_0 : ∀ o, (w10.alloc o).cell? ⟨w2.heap.size, 0, none⟩ = some (.int .i64 1) := fun o => cell_later (nx_alloc _ _) (unhide f10_1_0)
    have e1_1 : ∀ o, (w10.alloc o).cell? ⟨w2.heap.size, 1, none⟩ = some (.int .i64 (r2 - 30000)) := fun o => cell_later (nx_alloc _ _) (unhide f10_1_1)
    have e1_2 : ∀ o, (w10.alloc o).cell? ⟨w2.heap.size, 2, none⟩ = some (.string ⟨#[]⟩) := fun o => cell_later (nx_alloc _ _) (unhide f10_1_2)
    have e2_0 : ∀ o, (w10.alloc o).cell? ⟨w3.heap.size, 0, none⟩ = some (.int .i64 1) := fun o => cell_later (nx_alloc _ _) (unhide f10_2_0)
    have e2_1 : ∀ o, (w10.alloc o).cell? ⟨w3.heap.size, 1, none⟩ = some (.int .i64 (r1 - 30000)) := fun o => cell_later (nx_alloc _ _) (unhide f10_2_1)
    have e2_2 : ∀ o, (w10.alloc o).cell? ⟨w3.heap.size, 2, none⟩ = some (.string ⟨#[]⟩) := fun o => cell_later (nx_alloc _ _) (unhide f10_2_2)
    have e4_0 : ∀ o, (w10.alloc o).cell? ⟨w5.heap.size, 0, none⟩ = some (.int .i64 1) := fun o => cell_later (nx_alloc _ _) (unhide f10_4_0)
    have e4_1 : ∀ o, (w10.alloc o).cell? ⟨w5.heap.size, 1, none⟩ = some (.int .i64 (r1 - 30000 + (r2 - 30000))) := fun o => cell_later (nx_alloc _ _) (unhide f10_4_1)
    have e4_2 : ∀ o, (w10.alloc o).cell? ⟨w5.heap.size, 2, none⟩ = some (.string ⟨#[]⟩) := fun o => cell_later (nx_alloc _ _) (unhide f10_4_2)
    have e5_0 : ∀ o, (w10.alloc o).cell? ⟨w6.heap.size, 0, none⟩ = some (.int .i64 1) := fun o => cell_later (nx_alloc _ _) (unhide f10_5_0)
    have e5_1 : ∀ o, (w10.alloc o).cell? ⟨w6.heap.size, 1, none⟩ = some (.int .i64 (r1 - 30000 + (r2 - 30000))) := fun o => cell_later (nx_alloc _ _) (unhide f10_5_1)
    have e5_2 : ∀ o, (w10.alloc o).cell? ⟨w6.heap.size, 2, none⟩ = some (.string ⟨#[]⟩) := fun o => cell_later (nx_alloc _ _) (unhide f10_5_2)
    have e6_0 : ∀ o, (w10.alloc o).cell? ⟨w7.heap.size, 0, none⟩ = some (.int .i64 2) := fun o => cell_later (nx_alloc _ _) (unhide f10_6_0)
    have e6_1 : ∀ o, (w10.alloc o).cell? ⟨w7.heap.size, 1, none⟩ = some (.int .i64 0) := fun o => cell_later (nx_alloc _ _) (unhide f10_6_1)
    have e6_2 : ∀ o, (w10.alloc o).cell? ⟨w7.heap.size, 2, none⟩ = some (.string ⟨#[]⟩) := fun o => cell_later (nx_alloc _ _) (unhide f10_6_2)
    have e8_0 : ∀ o, (w10.alloc o).cell? ⟨w9.heap.size, 0, none⟩ = some (.int .i64 1) := fun o => cell_later (nx_alloc _ _) (unhide f10_8_0)
    have e8_1 : ∀ o, (w10.alloc o).cell? ⟨w9.heap.size, 1, none⟩ = some (.int .i64 (r1 - 30000)) := fun o => cell_later (nx_alloc _ _) (unhide f10_8_1)
    have e8_2 : ∀ o, (w10.alloc o).cell? ⟨w9.heap.size, 2, none⟩ = some (.string ⟨#[]⟩) := fun o => cell_later (nx_alloc _ _) (unhide f10_8_2)
    clear f10_0_0 f10_0_1 f10_0_2 f10_1_0 f10_1_1 f10_1_2 f10_2_0 f10_2_1 f10_2_2 f10_3_0 f10_3_1 f10_3_2 f10_4_0 f10_4_1 f10_4_2 f10_5_0 f10_5_1 f10_5_2 f10_6_0 f10_6_1 f10_6_2 f10_7_0 f10_7_1 f10_7_2 f10_8_0 f10_8_1 f10_8_2
    go_wp2
    go_quiet (fail)
    go_wp2
    go_ret
    exact ⟨rfl, below_drewN (nx_al (nx_trans (nx_al (nx_al (nx_trans (nx_al (nx_trans (nx_al (nx_trans (nx_al (nx_trans (nx_al (nx_trans (nx_al (nx_trans (nx_al (nx_al (nx_trans (nx_al (nx_al (nx_trans (nx_al (unhide hB1)) (unhide hB2)))) (unhide hB3)))) (unhide hB4))) (unhide hB5))) (unhide hB6))) (unhide hB7))) (unhide hB8))) (unhide hB9)))) (unhide hB10))) _⟩

end Go.Proofs.YtpncohkbdaoceaaDoor
