/- The law on a value's text. -/
import Derived.Test.YtpncohkbdaoceaaDoorVText1
namespace Go.Proofs.YtpncohkbdaoceaaDoor
open Go.RowKit
set_option linter.unusedVariables false

set_option maxHeartbeats 1000000 in
theorem lawValueText_any (k n : Int) (t : ByteArray) (w : World) (_hk : (Lit.int .i64 k).wf = true) (_hn : (Lit.int .i64 n).wf = true) (ht : t.size ≤ maxLen) (hT : PowTab w) :
    Calls Tryd.prog 8 #[.agg #[.int .i64 k, .int .i64 n, .string t]] w fun e w' => e = .returned (.bool true) ∧ Below w.heap.size w w' := by
  by_cases h' : (1048576 : Int) < (t.size : Int)
  · go_enter Tryd.func8, Tryd.ntmps8
    go_wp2_with fail
    refine (szValue_no k n t _ _ ht (by omega) (by omega) h').mono ?_
    rintro e w1 ⟨rfl, hb1⟩
    go_wp2
    go_ret
    exact ⟨rfl, nx_trans (nx_alloc _ _) hb1⟩
  have HT := hide hT
  clear hT
  have hS := fun w => specValueText_any k n t w ht
  have hI := fun w (h : PowTab w) => ValueText_any k n t w ht h
  generalize vtP k n t = g at hS hI
  obtain ⟨g0, g1⟩ := g
  have HS := hide hS
  have HI := hide hI
  clear hS hI
  go_enter Tryd.func8, Tryd.ntmps8
  go_wp2_with fail
  refine (szValue_yes k n t _ _ (by omega) (by omega)).mono ?_
  rintro e w1 ⟨rfl, hb1⟩
  obtain ⟨hc1, hf1⟩ := bcell hb1
  have hz1_0 : w.heap.size < w1.heap.size := by have := hb1.size; first | omega | (simp at this; omega)
  go_wp2_with fail
  refine (toValue_any k n t _).mono ?_
  rintro e w2 ⟨rfl, hb2⟩
  obtain ⟨hc2, hf2⟩ := bcell hb2
  have hz2_0 : w.heap.size < w2.heap.size := by have := hb2.size; first | omega | (simp at this; omega)
  go_wp2_with fail
  refine (unhide HS _).mono ?_
  rintro e w3 ⟨rfl, hb3⟩
  obtain ⟨hc3, hf3⟩ := bcell hb3
  have hz3_0 : w.heap.size < w3.heap.size := by have := hb3.size; first | omega | (simp at this; omega)
  go_wp2_with fail
  refine (toValue_any k n t _).mono ?_
  rintro e w4 ⟨rfl, hb4⟩
  obtain ⟨hc4, hf4⟩ := bcell hb4
  have hz4_0 : w.heap.size < w4.heap.size := by have := hb4.size; first | omega | (simp at this; omega)
  go_wp2_with fail
  refine (unhide HI _ ((unhide HT).later (nx_trans (nx_trans (nx_trans (nx_trans (nx_alloc _ _) hb1) hb2) hb3) hb4) (Nat.le_refl _))).mono ?_
  rintro e w5 ⟨rfl, hb5⟩
  obtain ⟨hc5, hf5⟩ := bcell hb5
  have hz5_0 : w.heap.size < w5.heap.size := by have := hb5.size; first | omega | (simp at this; omega)
  go_wp2
  go_ret
  exact ⟨rfl, (by repeat (first | exact Below.refl _ _ | refine nx_al ?_ | refine nx_set ?_ (by simp <;> omega) | refine nx_drew ?_ | refine nx_trans ?_ (by assumption)))⟩

end Go.Proofs.YtpncohkbdaoceaaDoor
