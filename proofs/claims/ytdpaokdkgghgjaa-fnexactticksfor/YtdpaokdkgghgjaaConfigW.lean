/- A host's numbers: the program's and the specification's ConfigOK, and their law. -/
import Derived.Test.YtdpaokdkgghgjaaByteEq0
import Derived.Test.YtdpaokdkgghgjaaLetters
namespace Go.Proofs.Ytdpaokdkgghgjaa
open Go.RowKit
set_option linter.unusedVariables false

theorem hx_alloc (w : World) (o : Obj) : Below w.heap.size w (w.alloc o) := (Below.refl _ _).alloc (Nat.le_refl _) _
theorem hx_al {a b : World} {o : Obj} (h : Below a.heap.size a b) : Below a.heap.size a (b.alloc o) := h.alloc h.size o
theorem hx_set {a b : World} {k o : Nat} {v : Value} (h : Below a.heap.size a b) (hk : a.heap.size ≤ k) : Below a.heap.size a (b.setCell ⟨k, o, none⟩ v) := h.setCell (p := ⟨k, o, none⟩) hk v
theorem hx_trans {a b c : World} (h : Below a.heap.size a b) (h2 : Below b.heap.size b c) : Below a.heap.size a c := h.trans (h2.mono h.size)
theorem hx_cell {w w' : World} {b o : Nat} {v : Value} (hb : Below w.heap.size w w') (h : w.cell? ⟨b, o, none⟩ = some v) : w'.cell? ⟨b, o, none⟩ = some v := by
  rw [hb.cell (p := ⟨b, o, none⟩) (World.block_lt_of_cell? _ _ h)]; exact h
def configB (r q t : Int) : Bool := decide (1 ≤ r ∧ r ≤ 4 ∧ 1 ≤ q ∧ q ≤ 1000 ∧ 1 ≤ t ∧ t ≤ 1000)

theorem withinH_any (n low high : Int) (w : World) :
    Calls Try.prog 10 #[.int .i64 n, .int .i64 low, .int .i64 high] w fun e w' => e = .returned (.bool (decide (low ≤ n) && decide (n ≤ high))) ∧ w' = w := by
  go_enter Try.func10, Try.ntmps10
  go_wp2
  all_goals
    go_ret
    refine ⟨ret_bool ?_, rfl⟩
    rw [Bool.eq_iff_iff]
    simp <;> omega
theorem inH_any (n low high : Int) (w : World) :
    Calls Try.prog 8 #[.int .i64 n, .int .i64 low, .int .i64 high] w fun e w' => e = .returned (.bool (decide (low ≤ n) && decide (n ≤ high))) ∧ w' = w := by
  go_enter Try.func8, Try.ntmps8
  go_wp2
  all_goals
    go_ret
    refine ⟨ret_bool ?_, rfl⟩
    rw [Bool.eq_iff_iff]
    simp <;> omega

set_option maxHeartbeats 1000000 in
theorem ConfigOK_any (r q t : Int) (w : World) :
    Calls Try.prog 9 #[.agg #[.int .i64 r, .int .i64 q, .int .i64 t]] w fun e w' => e = .returned (.bool (configB r q t)) ∧ Below w.heap.size w w' := by
  go_enter Try.func9, Try.ntmps9
  go_wp2_with (go_at_call 10; refine (withinH_any _ _ _ _).mono ?_; rintro e w' ⟨rfl, rfl⟩)
  all_goals
    go_ret
    refine ⟨ret_bool ?_, hx_alloc _ _⟩
    simp_all [configB] <;> omega
set_option maxHeartbeats 1000000 in
theorem specConfigOK_any (r q t : Int) (w : World) :
    Calls Try.prog 7 #[.agg #[.int .i64 r, .int .i64 q, .int .i64 t]] w fun e w' => e = .returned (.bool (configB r q t)) ∧ Below w.heap.size w w' := by
  go_enter Try.func7, Try.ntmps7
  go_wp2_with (go_at_call 8; refine (inH_any _ _ _ _).mono ?_; rintro e w' ⟨rfl, rfl⟩)
  all_goals
    go_ret
    refine ⟨ret_bool ?_, hx_alloc _ _⟩
    simp_all [configB] <;> omega
set_option maxHeartbeats 1000000 in
theorem toConfig_any (r q t : Int) (w : World) :
    Calls Try.prog 5 #[.agg #[.int .i64 r, .int .i64 q, .int .i64 t]] w fun e w' => e = .returned (.agg #[.int .i64 r, .int .i64 q, .int .i64 t]) ∧ Below w.heap.size w w' := by
  go_enter Try.func5, Try.ntmps5
  go_wp2
  refine bodyPost_ret (v := .agg #[.int .i64 r, .int .i64 q, .int .i64 t]) ?_ rfl ⟨rfl, ?_⟩
  · simp [results, Try.results5, go_sem]
  · repeat' (first | exact hx_al (hx_al (hx_alloc _ _)) | refine hx_set ?_ (by first | exact Nat.le_succ _ | omega | (simp; omega)))

end Go.Proofs.Ytdpaokdkgghgjaa
