/- Truth, bounds and the operations with one operand: code and specification answer the same plain function. -/
import Derived.Test.YtckdacbopejdmaaDoorValueLaws
namespace Go.Proofs.YtckdacbopejdmaaDoor
open Go.RowKit

theorem nx_al {a b : World} {o : Obj} (h : Below a.heap.size a b) : Below a.heap.size a (b.alloc o) := h.alloc h.size o
theorem nx_set {a b : World} {k o : Nat} {v : Value} (h : Below a.heap.size a b) (hk : a.heap.size ≤ k) : Below a.heap.size a (b.setCell ⟨k, o, none⟩ v) := h.setCell hk v

/-- an answer: a value's three fields and a code -/
structure Res where
  k : Int
  n : Int
  t : ByteArray
  c : Int

def zeroR (c : Int) : Res := ⟨0, 0, ⟨#[]⟩, c⟩
def intR (n : Int) : Res := ⟨1, n, ⟨#[]⟩, 0⟩
/-- a bool as a number -/
def bitI (b : Bool) : Int := if b = true then 1 else 0
def boolR (b : Bool) : Res := ⟨2, bitI b, ⟨#[]⟩, 0⟩
def textR (t : ByteArray) : Res := ⟨3, 0, t, 0⟩
def fitR (n : Int) : Res := if -2147483648 ≤ n ∧ n ≤ 2147483647 then intR n else zeroR 4
def truthB (n : Int) (t : ByteArray) : Bool := (n != 0) || !t.toList.isEmpty

theorem boolValue_bit (b : Bool) (w : World) :
    Calls Tryd.prog 43 #[.bool b] w fun e w' => e = .returned (.agg #[.int .i64 2, .int .i64 (bitI b), .string ⟨#[]⟩]) ∧ Below w.heap.size w w' := boolValue_any b w

set_option maxHeartbeats 400000 in
theorem boundedInt_yes (n : Int) (w : World) (h0 : -2147483648 ≤ n) (h1 : n ≤ 2147483647) :
    Calls Tryd.prog 45 #[.int .i64 n] w fun e w' => e = .returned (.tuple #[.agg #[.int .i64 1, .int .i64 n, .string ⟨#[]⟩], .int .i64 0]) ∧ Below w.heap.size w w' := by
  go_enter Tryd.func45, Tryd.ntmps45
  go_wp2_with fail
  refine (intValue_any _ _).mono ?_
  rintro e w1 ⟨rfl, hb1⟩
  obtain ⟨hc1, hf1⟩ := bcell hb1
  have hz1 : w.heap.size < w1.heap.size := by have := hb1.size; simp at this; omega
  unfold intV
  go_wp2
  exact bodyPost_ret (v := (.tuple #[.agg #[.int .i64 1, .int .i64 n, .string ⟨#[]⟩], .int .i64 0])) (by simp [results, Tryd.results45, go_sem, hc1]) rfl ⟨rfl, (by repeat (first | exact Below.refl _ _ | refine nx_al ?_ | refine nx_set ?_ (by simp <;> omega) | refine nx_drew ?_ | refine nx_trans ?_ (by assumption)))⟩

set_option maxHeartbeats 400000 in
theorem boundedInt_low (n : Int) (w : World) (h0 : n < -2147483648) :
    Calls Tryd.prog 45 #[.int .i64 n] w fun e w' => e = .returned (.tuple #[.agg #[.int .i64 0, .int .i64 0, .string ⟨#[]⟩], .int .i64 4]) ∧ Below w.heap.size w w' := by
  go_enter Tryd.func45, Tryd.ntmps45
  go_wp2
  exact bodyPost_ret (v := (.tuple #[.agg #[.int .i64 0, .int .i64 0, .string ⟨#[]⟩], .int .i64 4])) (by simp [results, Tryd.results45, go_sem]) rfl ⟨rfl, (by repeat (first | exact Below.refl _ _ | refine nx_al ?_ | refine nx_set ?_ (by simp <;> omega) | refine nx_drew ?_ | refine nx_trans ?_ (by assumption)))⟩

set_option maxHeartbeats 400000 in
theorem boundedInt_high (n : Int) (w : World) (h0 : 2147483647 < n) :
    Calls Tryd.prog 45 #[.int .i64 n] w fun e w' => e = .returned (.tuple #[.agg #[.int .i64 0, .int .i64 0, .string ⟨#[]⟩], .int .i64 4]) ∧ Below w.heap.size w w' := by
  go_enter Tryd.func45, Tryd.ntmps45
  go_wp2
  exact bodyPost_ret (v := (.tuple #[.agg #[.int .i64 0, .int .i64 0, .string ⟨#[]⟩], .int .i64 4])) (by simp [results, Tryd.results45, go_sem]) rfl ⟨rfl, (by repeat (first | exact Below.refl _ _ | refine nx_al ?_ | refine nx_set ?_ (by simp <;> omega) | refine nx_drew ?_ | refine nx_trans ?_ (by assumption)))⟩

theorem boundedInt_any (n : Int) (w : World) :
    Calls Tryd.prog 45 #[.int .i64 n] w fun e w' => e = .returned (.tuple #[.agg #[.int .i64 (fitR n).k, .int .i64 (fitR n).n, .string (fitR n).t], .int .i64 (fitR n).c]) ∧ Below w.heap.size w w' := by
  by_cases h0 : n < -2147483648
  · rw [show fitR n = zeroR 4 from if_neg (by omega)]
    exact boundedInt_low n w h0
  by_cases h1 : 2147483647 < n
  · rw [show fitR n = zeroR 4 from if_neg (by omega)]
    exact boundedInt_high n w h1
  rw [show fitR n = intR n from if_pos (by omega)]
  exact boundedInt_yes n w (by omega) (by omega)

theorem l01In_is (n low high : Int) (b : Bool) (w : World) (h : (decide (low ≤ n) && decide (n ≤ high)) = b) :
    Calls Tryd.prog 72 #[.int .i64 n, .int .i64 low, .int .i64 high] w fun e w' => e = .returned (.bool b) ∧ w' = w := h ▸ l01In_any n low high w

theorem l01Int_any (n : Int) (w : World) :
    Calls Tryd.prog 68 #[.int .i64 n] w fun e w' => e = .returned (intV n) ∧ Below w.heap.size w w' := by
  go_enter Tryd.func68, Tryd.ntmps68
  go_wp2
  exact bodyPost_ret (v := intV n) (by simp [results, Tryd.results68, go_sem, intV]) rfl ⟨rfl, nx_alloc _ _⟩

end Go.Proofs.YtckdacbopejdmaaDoor
