/- 'spec.l00Digits': a number's digits (beside the walks of requests). -/
import Derived.Test.YteliakbopldceaaGreatDoorWireMem
import Derived.Laws.IdiomStrings
import Derived.Lib.ItoaNum
namespace Go.Proofs.YteliakbopldceaaGreatDoor
open Go.RowKit
set_option linter.unusedVariables false

theorem conv1W (W : World) (b : Nat) (c : Int) (h0 : 0 ≤ c) (h1 : c ≤ 255) (h : W.cell? ⟨b, 0, none⟩ = some (.int .u8 c)) :
    (convert 22 9 (.slice (some ⟨b, 0, none⟩) 1 1)).run Tryz.prog W = .ok (.string ⟨#[UInt8.ofNat c.toNat]⟩) W := by
  have h := run_convert_bytes_back (P := Tryz.prog) W 22 9 5 ⟨b, 0, none⟩ 1 [UInt8.ofNat c.toNat] Tryz.underlying22 Tryz.underlying5 Tryz.underlying9 (fun j hj => by
    obtain rfl : j = 0 := by simpa using hj
    rw [Addr.add_lit, Nat.add_zero, h]
    simp
    omega)
  exact h



theorem newcellW (w : World) (c : Value) (t : TypeId) : (w.alloc (.cells #[c] t)).cell? ⟨w.heap.size, 0, none⟩ = some c := by simp
theorem newcell_dW (w : World) (c : Value) (t : TypeId) : (w.alloc (.cells #[c] t)).drew.cell? ⟨w.heap.size, 0, none⟩ = some c := by simp
theorem conv_newW (u : World) (c : Int) (h0 : 0 ≤ c) (h1 : c ≤ 255) : (convert 22 9 (.slice (some ⟨u.heap.size, 0, none⟩) 1 1)).run Tryz.prog (u.alloc (.cells #[.int .u8 c] 5)) = .ok (.string ⟨#[UInt8.ofNat c.toNat]⟩) (u.alloc (.cells #[.int .u8 c] 5)) :=
  conv1W _ _ c h0 h1 (by simp)


theorem dec_smallW {n : Nat} (h : n < 10) : Lib.decDigits n = [UInt8.ofNat (48 + n)] := by
  rw [Lib.decDigits]
  simp [h]
theorem dec_greatW {n : Nat} (h : ¬ n < 10) : Lib.decDigits n = Lib.decDigits (n / 10) ++ [UInt8.ofNat (48 + n % 10)] := by
  rw [Lib.decDigits]
  simp [h]
theorem dec_lenW (k : Nat) : ∀ n : Nat, n < 10 ^ (k + 1) → (Lib.decDigits n).length ≤ k + 1 := by
  induction k with
  | zero =>
    intro n h
    rw [dec_smallW (by omega)]
    simp
  | succ k ih =>
    intro n h
    by_cases h' : n < 10
    · rw [dec_smallW h']; simp
    · rw [dec_greatW h', List.length_append]
      have := ih (n / 10) (by rw [Nat.pow_succ] at h; omega)
      simp
      omega



end Go.Proofs.YteliakbopldceaaGreatDoor
