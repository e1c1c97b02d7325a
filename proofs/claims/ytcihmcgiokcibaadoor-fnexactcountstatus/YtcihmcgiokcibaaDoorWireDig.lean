/- 'spec.l00Digits': a number's digits (beside the walks of requests). -/
import Derived.Test.YtcihmcgiokcibaaDoorWireMem
import Derived.Laws.IdiomStrings
import Derived.Lib.ItoaNum
namespace Go.Proofs.YtcihmcgiokcibaaDoor
open Go.RowKit
set_option linter.unusedVariables false

theorem conv1W (W : World) (b : Nat) (c : Int) (h0 : 0 ≤ c) (h1 : c ≤ 255) (h : W.cell? ⟨b, 0, none⟩ = some (.int .u8 c)) :
    (convert 41 9 (.slice (some ⟨b, 0, none⟩) 1 1)).run Tryd.prog W = .ok (.string ⟨#[UInt8.ofNat c.toNat]⟩) W := by
  have h := run_convert_bytes_back (P := Tryd.prog) W 41 9 5 ⟨b, 0, none⟩ 1 [UInt8.ofNat c.toNat] Tryd.underlying41 Tryd.underlying5 Tryd.underlying9 (fun j hj => by
    obtain rfl : j = 0 := by simpa using hj
    rw [Addr.add_lit, Nat.add_zero, h]
    simp
    omega)
  exact h

set_option maxHeartbeats 1000000 in
theorem l00Digits_oneW (n : Int) (w : World) (h0 : 0 ≤ n) (h1 : n ≤ 9) :
    Calls Tryd.prog 11 #[.int .i64 n] w fun e w' => e = .returned (.string ⟨#[UInt8.ofNat (48 + n).toNat]⟩) ∧ Below w.heap.size w w' := by
  have hcv := fun W b => conv1W W b (48 + n) (by omega) (by omega)
  have hb : (n == -9223372036854775808) = false := by simp; omega
  go_enter Tryd.func11, Tryd.ntmps11
  go_wp2
  go_ret
  exact ⟨rfl, qx_alloc _ _⟩

set_option maxHeartbeats 1000000 in
theorem l00Digits_negW (n : Int) (S : ByteArray) (hS : S.size ≤ 100) (w : World) (h0 : n < 0) (h1 : -2147483648 ≤ n) (HC : Hid (∀ w, Calls Tryd.prog 11 #[.int .i64 (-n)] w fun e w' => e = .returned (.string S) ∧ Below w.heap.size w w')) :
    Calls Tryd.prog 11 #[.int .i64 n] w fun e w' => e = .returned (.string (⟨#[45]⟩ ++ S)) ∧ Below w.heap.size w w' := by
  have hb : (n == -9223372036854775808) = false := by simp; omega
  go_enter Tryd.func11, Tryd.ntmps11
  go_wp2_with fail
  refine (unhide HC _).mono ?_
  rintro e w1 ⟨rfl, hb1⟩
  go_wp2
  go_ret
  exact ⟨rfl, hb1⟩

theorem newcellW (w : World) (c : Value) (t : TypeId) : (w.alloc (.cells #[c] t)).cell? ⟨w.heap.size, 0, none⟩ = some c := by simp
theorem newcell_dW (w : World) (c : Value) (t : TypeId) : (w.alloc (.cells #[c] t)).drew.cell? ⟨w.heap.size, 0, none⟩ = some c := by simp
theorem conv_newW (u : World) (c : Int) (h0 : 0 ≤ c) (h1 : c ≤ 255) : (convert 41 9 (.slice (some ⟨u.heap.size, 0, none⟩) 1 1)).run Tryd.prog (u.alloc (.cells #[.int .u8 c] 5)) = .ok (.string ⟨#[UInt8.ofNat c.toNat]⟩) (u.alloc (.cells #[.int .u8 c] 5)) :=
  conv1W _ _ c h0 h1 (by simp)

set_option maxHeartbeats 1000000 in
set_option maxRecDepth 100000 in
theorem l00Digits_moreW (n q r : Int) (S D : ByteArray) (hS : S.size ≤ 100) (hD : D.size = 1) (w : World) (h0 : 10 ≤ n) (h1 : n ≤ 2147483648) (hq : n.tdiv 10 = q) (hr : n.tmod 10 = r) (hq0 : 0 ≤ q) (hq1 : q ≤ 2147483648) (hr0 : 0 ≤ r) (hr1 : r ≤ 9) (HC : Hid (∀ w, Calls Tryd.prog 11 #[.int .i64 q] w fun e w' => e = .returned (.string S) ∧ Below w.heap.size w w'))
    (hcv : ∀ u : World, (convert 41 9 (.slice (some ⟨u.heap.size, 0, none⟩) 1 1)).run Tryd.prog (u.alloc (.cells #[.int .u8 (48 + r)] 5)) = .ok (.string D) (u.alloc (.cells #[.int .u8 (48 + r)] 5)))
    (hcv2 : ∀ u : World, (convert 41 9 (.slice (some ⟨u.heap.size, 0, none⟩) 1 1)).run Tryd.prog (u.alloc (.cells #[.int .u8 (48 + r)] 5)).drew = .ok (.string D) (u.alloc (.cells #[.int .u8 (48 + r)] 5)).drew)
    (HCV : Hid (∀ (W : World) (b : Nat), W.cell? ⟨b, 0, none⟩ = some (.int .u8 (48 + r)) → (convert 41 9 (.slice (some ⟨b, 0, none⟩) 1 1)).run Tryd.prog W = .ok (.string D) W)) :
    Calls Tryd.prog 11 #[.int .i64 n] w fun e w' => e = .returned (.string (S ++ D)) ∧ Below w.heap.size w w' := by
  have hb : (n == -9223372036854775808) = false := by simp; omega
  have hwq : IntKind.i64.wrap q = q := by rw [IntKind.wrap_i64]; omega
  have hw1 : IntKind.i64.wrap (48 + r) = 48 + r := by rw [IntKind.wrap_i64]; omega
  have hw2 : IntKind.u8.wrap (48 + r) = 48 + r := by unfold IntKind.wrap; simp [IntKind.bits, IntKind.signed]; omega
  go_enter Tryd.func11, Tryd.ntmps11
  go_wp2
  go_region_with ((go_at_call 11; refine (unhide HC _).mono ?_; rintro e u ⟨rfl, hbu⟩; (first | have hcu := unhide HCV u w.heap.size (cell_later hbu (newcellW _ _ _)) | have hcu := unhide HCV u w.heap.size (cell_later hbu (newcell_dW _ _ _)) | skip)))
  all_goals (go_wp2)
  all_goals (go_ret)
  all_goals (exact ⟨rfl, (by repeat (first | exact Below.refl _ _ | refine qx_al ?_ | refine qx_drew ?_ | refine qx_trans ?_ (by assumption)))⟩)

theorem dec_smallW {n : Nat} (h : n < 10) : Lib.decDigits n = [UInt8.ofNat (48 + n)] := by
  rw [Lib.decDigits]
  simp [h]
theorem dec_greatW {n : Nat} (h : ¬ n < 10) : Lib.decDigits n = Lib.decDigits (n / 10) ++ [UInt8.ofNat (48 + n % 10)] := by
  rw [Lib.decDigits]
  simp [h]
theorem dec_lenW (k : Nat) : ∀ n : Nat, n < 10 ^ (k + 1) → (Lib.decDigits n).length ≤ k + 1 := by
  induction k with
  | zero =>
    intro n h
    rw [dec_smallW (by omega)]
    simp
  | succ k ih =>
    intro n h
    by_cases h' : n < 10
    · rw [dec_smallW h']; simp
    · rw [dec_greatW h', List.length_append]
      have := ih (n / 10) (by rw [Nat.pow_succ] at h; omega)
      simp
      omega

theorem l00Digits_natW (m : Nat) : ∀ n : Nat, n ≤ m → n ≤ 2147483648 → ∀ w : World, Calls Tryd.prog 11 #[.int .i64 (n : Int)] w fun e w' => e = .returned (.string ⟨(Lib.decDigits n).toArray⟩) ∧ Below w.heap.size w w' := by
  induction m with
  | zero =>
    intro n hn _ w
    obtain rfl : n = 0 := by omega
    have := l00Digits_oneW 0 w (by omega) (by omega)
    rw [dec_smallW (by omega)]
    exact this
  | succ m ih =>
    intro n hn hb w
    by_cases h : n < 10
    · have := l00Digits_oneW (n : Int) w (by omega) (by omega)
      rw [dec_smallW h]
      rw [show (48 + (n : Int)).toNat = 48 + n by omega] at this
      exact this
    · have hl : (Lib.decDigits (n / 10)).length ≤ 10 := dec_lenW 9 (n / 10) (by omega)
      have := l00Digits_moreW (n : Int) ((n / 10 : Nat) : Int) ((n % 10 : Nat) : Int) ⟨(Lib.decDigits (n / 10)).toArray⟩ ⟨#[UInt8.ofNat (48 + n % 10)]⟩ (by show (Lib.decDigits (n / 10)).toArray.size ≤ 100; simp; omega) rfl w (by omega) (by omega)
        (by rw [Int.tdiv_eq_ediv_of_nonneg (by omega)]; omega) (by rw [Int.tmod_eq_emod_of_nonneg (by omega)]; omega) (by omega) (by omega) (by omega) (by omega)
        (hide fun w => ih (n / 10) (by omega) (by omega) w)
        (fun u => by rw [conv_newW u _ (by omega) (by omega), show (48 + ((n % 10 : Nat) : Int)).toNat = 48 + n % 10 by omega])
        (fun u => by rw [conv1W _ _ (48 + ((n % 10 : Nat) : Int)) (by omega) (by omega) (newcell_dW _ _ _), show (48 + ((n % 10 : Nat) : Int)).toNat = 48 + n % 10 by omega])
        (hide fun W b h => by rw [conv1W W b _ (by omega) (by omega) h, show (48 + ((n % 10 : Nat) : Int)).toNat = 48 + n % 10 by omega])
      rw [show (⟨(Lib.decDigits n).toArray⟩ : ByteArray) = ⟨(Lib.decDigits (n / 10)).toArray⟩ ++ ⟨#[UInt8.ofNat (48 + n % 10)]⟩ by
        rw [dec_greatW h]
        apply ByteArray.ext
        simp]
      exact this

theorem l00Digits_anyW (n : Int) (w : World) (h0 : -2147483648 ≤ n) (h1 : n ≤ 2147483647) :
    Calls Tryd.prog 11 #[.int .i64 n] w fun e w' => e = .returned (.string ⟨(Lib.itoa n).toArray⟩) ∧ Below w.heap.size w w' := by
  unfold Lib.itoa
  by_cases h : n < 0
  · rw [if_pos h]
    have hl : (Lib.decDigits n.natAbs).length ≤ 10 := dec_lenW 9 n.natAbs (by omega)
    have := l00Digits_negW n ⟨(Lib.decDigits n.natAbs).toArray⟩ (by show (Lib.decDigits n.natAbs).toArray.size ≤ 100; simp; omega) w h h0 (hide fun w => by
      have := l00Digits_natW n.natAbs n.natAbs (Nat.le_refl _) (by omega) w
      rw [show ((n.natAbs : Nat) : Int) = -n by omega] at this
      exact this)
    rw [show (⟨(45 :: Lib.decDigits n.natAbs).toArray⟩ : ByteArray) = ⟨#[45]⟩ ++ ⟨(Lib.decDigits n.natAbs).toArray⟩ by
      apply ByteArray.ext
      simp]
    exact this
  · rw [if_neg h]
    have := l00Digits_natW n.toNat n.toNat (Nat.le_refl _) (by omega) w
    rw [show ((n.toNat : Nat) : Int) = n by omega] at this
    exact this

end Go.Proofs.YtcihmcgiokcibaaDoor
