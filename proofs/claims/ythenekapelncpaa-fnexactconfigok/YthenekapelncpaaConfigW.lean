/- A host's numbers: the program's and the specification's ConfigOK, and their law. -/
import Derived.Test.YthenekapelncpaaByteEq0
import Derived.Test.YthenekapelncpaaLetters
namespace Go.Proofs.Ythenekapelncpaa
open Go.RowKit
set_option linter.unusedVariables false

theorem hx_alloc (w : World) (o : Obj) : Below w.heap.size w (w.alloc o) := (Below.refl _ _).alloc (Nat.le_refl _) _
theorem hx_al {a b : World} {o : Obj} (h : Below a.heap.size a b) : Below a.heap.size a (b.alloc o) := h.alloc h.size o
theorem hx_set {a b : World} {k o : Nat} {v : Value} (h : Below a.heap.size a b) (hk : a.heap.size ≤ k) : Below a.heap.size a (b.setCell ⟨k, o, none⟩ v) := h.setCell (p := ⟨k, o, none⟩) hk v
theorem hx_trans {a b c : World} (h : Below a.heap.size a b) (h2 : Below b.heap.size b c) : Below a.heap.size a c := h.trans (h2.mono h.size)
theorem hx_cell {w w' : World} {b o : Nat} {v : Value} (hb : Below w.heap.size w w') (h : w.cell? ⟨b, o, none⟩ = some v) : w'.cell? ⟨b, o, none⟩ = some v := by
  rw [hb.cell (p := ⟨b, o, none⟩) (World.block_lt_of_cell? _ _ h)]; exact h
def configB (r q t : Int) : Bool := decide (1 ≤ r ∧ r ≤ 4 ∧ 1 ≤ q ∧ q ≤ 1000 ∧ 1 ≤ t ∧ t ≤ 1000)

theorem withinH_any (n low high : Int) (w : World) :
    Calls Try.prog 8 #[.int .i64 n, .int .i64 low, .int .i64 high] w fun e w' => e = .returned (.bool (decide (low ≤ n) && decide (n ≤ high))) ∧ w' = w := by
  go_enter Try.func8, Try.ntmps8
  go_wp2
  all_goals
    go_ret
    refine ⟨ret_bool ?_, rfl⟩
    rw [Bool.eq_iff_iff]
    simp <;> omega
theorem inH_any (n low high : Int) (w : World) :
    Calls Try.prog 7 #[.int .i64 n, .int .i64 low, .int .i64 high] w fun e w' => e = .returned (.bool (decide (low ≤ n) && decide (n ≤ high))) ∧ w' = w := by
  go_enter Try.func7, Try.ntmps7
  go_wp2
  all_goals
    go_ret
    refine ⟨ret_bool ?_, rfl⟩
    rw [Bool.eq_iff_iff]
    simp <;> omega

set_option maxHeartbeats 1000000 in
theorem ConfigOK_any (r q t : Int) (w : World) :
    Calls Try.prog 6 #[.agg #[.int .i64 r, .int .i64 q, .int .i64 t]] w fun e w' => e = .returned (.bool (configB r q t)) ∧ Below w.heap.size w w' := by
  go_enter Try.func6, Try.ntmps6
  go_wp2_with (go_at_call 8; refine (withinH_any _ _ _ _).mono ?_; rintro e w' ⟨rfl, rfl⟩)
  all_goals
    go_ret
    refine ⟨ret_bool ?_, hx_alloc _ _⟩
    simp_all [configB] <;> omega
set_option maxHeartbeats 1000000 in
theorem specConfigOK_any (r q t : Int) (w : World) :
    Calls Try.prog 4 #[.agg #[.int .i64 r, .int .i64 q, .int .i64 t]] w fun e w' => e = .returned (.bool (configB r q t)) ∧ Below w.heap.size w w' := by
  go_enter Try.func4, Try.ntmps4
  go_wp2_with (go_at_call 7; refine (inH_any _ _ _ _).mono ?_; rintro e w' ⟨rfl, rfl⟩)
  all_goals
    go_ret
    refine ⟨ret_bool ?_, hx_alloc _ _⟩
    simp_all [configB] <;> omega
set_option maxHeartbeats 1000000 in
theorem toConfig_any (r q t : Int) (w : World) :
    Calls Try.prog 5 #[.agg #[.int .i64 r, .int .i64 q, .int .i64 t]] w fun e w' => e = .returned (.agg #[.int .i64 r, .int .i64 q, .int .i64 t]) ∧ Below w.heap.size w w' := by
  go_enter Try.func5, Try.ntmps5
  go_wp2
  refine bodyPost_ret (v := .agg #[.int .i64 r, .int .i64 q, .int .i64 t]) ?_ rfl ⟨rfl, ?_⟩
  · simp [results, Try.results5, go_sem]
  · repeat' (first | exact hx_al (hx_al (hx_alloc _ _)) | refine hx_set ?_ (by first | exact Nat.le_succ _ | omega | (simp; omega)))
set_option maxHeartbeats 1000000 in
theorem lawConfig_any (r q t : Int) (w : World) :
    Calls Try.prog 3 #[.agg #[.int .i64 r, .int .i64 q, .int .i64 t]] w fun e w' => e = .returned (.bool true) ∧ Below w.heap.size w w' := by
  generalize hB : configB r q t = B
  have HB := hide hB
  clear hB
  go_enter Try.func3, Try.ntmps3
  go_wp2_with fail
  refine (toConfig_any r q t _).mono ?_
  rintro e w1 ⟨rfl, hb1⟩
  have H1 := hide (hx_trans (hx_alloc _ _) hb1)
  have hX : ∀ o v, (#[Value.int .i64 r, .int .i64 q, .int .i64 t])[o]? = some v → (w.alloc (.cells #[.int .i64 r, .int .i64 q, .int .i64 t] 23)).cell? ⟨w.heap.size, o, none⟩ = some v := by
    intro o v h
    have e : (w.alloc (.cells #[.int .i64 r, .int .i64 q, .int .i64 t] 23)).heap[w.heap.size]? = some (.cells #[.int .i64 r, .int .i64 q, .int .i64 t] 23 (0, 0)) := by
      show (w.heap.push _)[w.heap.size]? = _
      rw [Array.getElem?_push, if_pos rfl]
    unfold World.cell?
    rw [e]
    simpa using h
  have x0 := hx_cell hb1 (hX 0 _ rfl)
  have x1 := hx_cell hb1 (hX 1 _ rfl)
  have x2 := hx_cell hb1 (hX 2 _ rfl)
  clear hb1 hX
  go_wp2_with fail
  refine (specConfigOK_any r q t _).mono ?_
  rintro e w2 ⟨rfl, hb2⟩
  have H2 := hide (hx_trans (unhide H1) hb2)
  have y0 := hx_cell hb2 x0
  have y1 := hx_cell hb2 x1
  have y2 := hx_cell hb2 x2
  clear hb2 x0 x1 x2
  rw [unhide HB]
  go_wp2_with fail
  refine (toConfig_any r q t _).mono ?_
  rintro e w3 ⟨rfl, hb3⟩
  have H3 := hide (hx_trans (unhide H2) hb3)
  clear hb3 y0 y1 y2
  go_wp2_with fail
  refine (ConfigOK_any r q t _).mono ?_
  rintro e w4 ⟨rfl, hb4⟩
  have H4 := hide (hx_trans (unhide H3) hb4)
  clear hb4
  rw [unhide HB]
  cases B
  all_goals
    go_wp2
    go_ret
    exact ⟨rfl, unhide H4⟩

end Go.Proofs.Ythenekapelncpaa
