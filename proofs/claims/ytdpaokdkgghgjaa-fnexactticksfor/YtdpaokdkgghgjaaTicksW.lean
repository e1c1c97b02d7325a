/- How many ticks a request takes at most: the program's and the specification's TicksFor, and their law. -/
import Derived.Test.YtdpaokdkgghgjaaConfigW
namespace Go.Proofs.Ytdpaokdkgghgjaa
open Go.RowKit
set_option linter.unusedVariables false

def ticksB (n a c : Int) : Bool := decide (1 ≤ n ∧ n ≤ 4 ∧ 0 ≤ a ∧ a ≤ 1000000 ∧ 0 ≤ c ∧ c ≤ 1000000)
def ticksV (r q t n a c : Int) : Int × Int := if configB r q t = false then (0, 1) else if ticksB n a c = false then (0, 4) else (n * ((a + c) / q + 1), 0)
theorem ret_tk {a b : Int} {r : Int × Int} (h : r = (a, b)) : Ending.returned (.tuple #[.int .i64 a, .int .i64 b]) = .returned (.tuple #[.int .i64 r.1, .int .i64 r.2]) := by rw [h]

theorem ticks_q {r q t : Int} (h : configB r q t = true) : 1 ≤ q ∧ q ≤ 1000 := by simp [configB] at h; omega
theorem ticks_r {n a c q : Int} (hq : 1 ≤ q) (h : ticksB n a c = true) : wrap64 (n * wrap64 ((a + c) / q + 1)) = n * ((a + c) / q + 1) := by
  simp [ticksB] at h
  have h1 : 0 ≤ (a + c) / q := Int.ediv_nonneg (by omega) (by omega)
  have h2 : (a + c) / q ≤ a + c := Int.ediv_le_self _ (by omega)
  generalize (a + c) / q = d at h1 h2
  rw [show wrap64 (d + 1) = d + 1 by unfold wrap64; omega]
  have hn : n = 1 ∨ n = 2 ∨ n = 3 ∨ n = 4 := by omega
  rcases hn with rfl | rfl | rfl | rfl <;> (unfold wrap64; omega)
theorem ticks_no {r q t n a c : Int} (h : configB r q t = true) (h2 : ticksB n a c = false) : ticksV r q t n a c = (0, 4) := by simp [ticksV, h, h2]
theorem ticks_is {r q t n a c : Int} (h : configB r q t = true) (h2 : ticksB n a c = true) : ticksV r q t n a c = (wrap64 (n * wrap64 ((a + c) / q + 1)), 0) := by
  rw [ticks_r (ticks_q h).1 h2]; simp [ticksV, h, h2]
theorem ticks_at {r q t n a c : Int} (h : configB r q t = true) (h2 : ticksB n a c = true) : ticksV r q t n a c = (wrap64 (n * wrap64 (wrap64 ((wrap64 (a + c)).tdiv q) + 1)), 0) := by
  have hq := (ticks_q h).1
  rw [ticks_is h h2]
  simp [ticksB] at h2
  have h1 : 0 ≤ (a + c) / q := Int.ediv_nonneg (by omega) (by omega)
  have h3 : (a + c) / q ≤ a + c := Int.ediv_le_self _ (by omega)
  rw [show wrap64 (a + c) = a + c by unfold wrap64; omega, Int.tdiv_eq_ediv_of_nonneg (by omega), show wrap64 ((a + c) / q) = (a + c) / q by unfold wrap64; omega]

set_option maxHeartbeats 2000000 in
theorem TicksFor_any (r q t n a c : Int) (w : World) :
    Calls Try.prog 6 #[.agg #[.int .i64 r, .int .i64 q, .int .i64 t], .int .i64 n, .int .i64 a, .int .i64 c] w fun e w' => e = .returned (.tuple #[.int .i64 (ticksV r q t n a c).1, .int .i64 (ticksV r q t n a c).2]) ∧ Below w.heap.size w w' := by
  generalize hB : configB r q t = B
  go_enter Try.func6, Try.ntmps6
  go_wp2_with fail
  refine (ConfigOK_any r q t _).mono ?_
  rintro e w1 ⟨rfl, hb1⟩
  rw [hB]
  cases B
  · go_wp2_with fail
    refine bodyPost_ret (v := .tuple #[.int .i64 0, .int .i64 1]) (by simp [results, Try.results6, go_sem]) rfl ⟨ret_tk (by simp [ticksV, hB]), hx_trans (hx_alloc _ _) hb1⟩
  have hq := ticks_q hB
  have q0 := hx_cell (w := w.alloc (.cells #[.int .i64 r, .int .i64 q, .int .i64 t] 26)) (b := w.heap.size) (o := 1) (v := .int .i64 q) hb1 (by simp [go_sem])
  have H1 := hide (hx_trans (hx_alloc _ _) hb1)
  clear hb1
  have hw1 := hide hB
  clear hB
  go_wp2_with (go_at_call 10; refine (withinH_any _ _ _ _).mono ?_; rintro e w' ⟨rfl, rfl⟩)
  all_goals
    first
    | (refine bodyPost_ret (v := .tuple #[.int .i64 0, .int .i64 4]) ?_ rfl ⟨ret_tk (ticks_no (unhide hw1) ?_), unhide H1⟩
       focus (simp [results, Try.results6, go_sem]; done)
       simp_all [ticksB] <;> omega)
    | (refine bodyPost_ret (v := .tuple #[.int .i64 (wrap64 (n * wrap64 ((a + c) / q + 1))), .int .i64 0]) ?_ rfl ⟨ret_tk (ticks_is (unhide hw1) ?_), unhide H1⟩
       focus (simp [results, Try.results6, go_sem]; done)
       simp_all [ticksB] <;> omega)
set_option maxHeartbeats 2000000 in
theorem specTicksFor_any (r q t n a c : Int) (w : World) :
    Calls Try.prog 4 #[.agg #[.int .i64 r, .int .i64 q, .int .i64 t], .int .i64 n, .int .i64 a, .int .i64 c] w fun e w' => e = .returned (.tuple #[.int .i64 (ticksV r q t n a c).1, .int .i64 (ticksV r q t n a c).2]) ∧ Below w.heap.size w w' := by
  generalize hB : configB r q t = B
  go_enter Try.func4, Try.ntmps4
  go_wp2_with fail
  refine (specConfigOK_any r q t _).mono ?_
  rintro e w1 ⟨rfl, hb1⟩
  rw [hB]
  cases B
  · go_wp2_with fail
    refine bodyPost_ret (v := .tuple #[.int .i64 0, .int .i64 1]) (by simp [results, Try.results4, go_sem]) rfl ⟨ret_tk (by simp [ticksV, hB]), hx_trans (hx_alloc _ _) hb1⟩
  have hq := ticks_q hB
  have q0 := hx_cell (w := w.alloc (.cells #[.int .i64 r, .int .i64 q, .int .i64 t] 26)) (b := w.heap.size) (o := 1) (v := .int .i64 q) hb1 (by simp [go_sem])
  have H1 := hide (hx_trans (hx_alloc _ _) hb1)
  clear hb1
  have hw1 := hide hB
  clear hB
  go_wp2_with (go_at_call 8; refine (inH_any _ _ _ _).mono ?_; rintro e w' ⟨rfl, rfl⟩)
  all_goals
    first
    | (refine bodyPost_ret (v := .tuple #[.int .i64 0, .int .i64 4]) ?_ rfl ⟨ret_tk (ticks_no (unhide hw1) ?_), unhide H1⟩
       focus (simp [results, Try.results4, go_sem]; done)
       simp_all [ticksB] <;> omega)
    | (refine bodyPost_ret (v := .tuple #[.int .i64 (wrap64 (n * wrap64 ((a + c) / q + 1))), .int .i64 0]) ?_ rfl ⟨ret_tk (ticks_is (unhide hw1) ?_), unhide H1⟩
       focus (simp [results, Try.results4, go_sem]; done)
       simp_all [ticksB] <;> omega)
    | (refine bodyPost_ret (v := .tuple #[.int .i64 (wrap64 (n * wrap64 (wrap64 ((wrap64 (a + c)).tdiv q) + 1))), .int .i64 0]) ?_ rfl ⟨ret_tk (ticks_at (unhide hw1) ?_), unhide H1⟩
       focus (simp [results, Try.results4, go_sem]; done)
       simp_all [ticksB] <;> omega)

set_option maxHeartbeats 2000000 in
theorem lawTicks_any (r q t n a c : Int) (w : World) :
    Calls Try.prog 3 #[.agg #[.int .i64 r, .int .i64 q, .int .i64 t], .int .i64 n, .int .i64 a, .int .i64 c] w fun e w' => e = .returned (.bool true) ∧ Below w.heap.size w w' := by
  go_enter Try.func3, Try.ntmps3
  go_wp2_with fail
  refine (toConfig_any r q t _).mono ?_
  rintro e w1 ⟨rfl, hb1⟩
  have H1 := hide (hx_trans (hx_alloc _ _) hb1)
  have hX : ∀ o v, (#[Value.int .i64 r, .int .i64 q, .int .i64 t])[o]? = some v → (w.alloc (.cells #[.int .i64 r, .int .i64 q, .int .i64 t] 23)).cell? ⟨w.heap.size, o, none⟩ = some v := by
    intro o v h
    have e : (w.alloc (.cells #[.int .i64 r, .int .i64 q, .int .i64 t] 23)).heap[w.heap.size]? = some (.cells #[.int .i64 r, .int .i64 q, .int .i64 t] 23 (0, 0)) := by
      show (w.heap.push _)[w.heap.size]? = _
      rw [Array.getElem?_push, if_pos rfl]
    unfold World.cell?
    rw [e]
    simpa using h
  have x0 := hx_cell hb1 (hX 0 _ rfl)
  have x1 := hx_cell hb1 (hX 1 _ rfl)
  have x2 := hx_cell hb1 (hX 2 _ rfl)
  clear hb1 hX
  go_wp2_with fail
  refine (specTicksFor_any r q t n a c _).mono ?_
  rintro e w2 ⟨rfl, hb2⟩
  have H2 := hide (hx_trans (unhide H1) hb2)
  have y0 := hx_cell hb2 x0
  have y1 := hx_cell hb2 x1
  have y2 := hx_cell hb2 x2
  clear hb2 x0 x1 x2
  go_wp2_with fail
  refine (toConfig_any r q t _).mono ?_
  rintro e w3 ⟨rfl, hb3⟩
  have H3 := hide (hx_trans (unhide H2) hb3)
  clear hb3 y0 y1 y2
  go_wp2_with fail
  refine (TicksFor_any r q t n a c _).mono ?_
  rintro e w4 ⟨rfl, hb4⟩
  have H4 := hide (hx_trans (unhide H3) hb4)
  clear hb4
  generalize ticksV r q t n a c = p
  obtain ⟨p1, p2⟩ := p
  go_wp2
  all_goals first | (go_ret; exact ⟨rfl, unhide H4⟩) | (exfalso; simp_all)

end Go.Proofs.Ytdpaokdkgghgjaa
