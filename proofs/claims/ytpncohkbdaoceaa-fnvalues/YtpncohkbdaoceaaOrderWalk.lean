/- The order of values: code and specification both answer 'orderI'; the law. -/
import Derived.Test.YtpncohkbdaoceaaUnary2
import Derived.Deep.RegionHeld3
namespace Go.Proofs.Ytpncohkbdaoceaa
open Go.RowKit
set_option linter.unusedVariables false

def ordI (a b : Int) : Int := if a < b then -1 else if b < a then 1 else 0
def ordS (a b : ByteArray) : Int := if Op.bytesLess a.toList b.toList = true then -1 else if (a.toList == b.toList) = true then 0 else 1
theorem bytesLess_irrefl : ∀ l : List UInt8, Op.bytesLess l l = false
  | [] => rfl
  | c :: l => by simp [Op.bytesLess, bytesLess_irrefl l]
def orI (x y z : Int) : Int := if x = 0 then (if y = 0 then z else y) else x

theorem ret_int {k : IntKind} {a b : Int} (h : a = b) : Ending.returned (.int k a) = .returned (.int k b) := by rw [h]

theorem isNaN_int (a : Int) (w : World) : Calls Try.prog 71 #[.int .i64 a] w fun e w' => e = .returned (.bool false) ∧ w' = w := by
  go_enter Try.func71, Try.ntmps71
  go_wp2
  go_ret
  exact ⟨ret_bool (by simp), rfl⟩
theorem isNaN_str (a : ByteArray) (w : World) : Calls Try.prog 72 #[.string a] w fun e w' => e = .returned (.bool false) ∧ w' = w := by
  go_enter Try.func72, Try.ntmps72
  go_wp2
  go_ret
  exact ⟨ret_bool (by simp), rfl⟩

set_option maxHeartbeats 400000 in
theorem compare_int (a b : Int) (w : World) : Calls Try.prog 45 #[.int .i64 a, .int .i64 b] w fun e w' => e = .returned (.int .i64 (ordI a b)) ∧ w' = w := by
  by_cases h1 : a < b
  all_goals
    by_cases h2 : b < a
    all_goals
      go_enter Try.func45, Try.ntmps45
      go_wp2_with fail
      first | (refine (isNaN_int a _).mono ?_) | (exfalso; omega)
      rintro e w' ⟨rfl, rfl⟩
      go_wp2_with fail
      refine (isNaN_int b _).mono ?_
      rintro e w' ⟨rfl, rfl⟩
      go_wp2
      go_ret
      exact ⟨ret_int (by unfold ordI; repeat' split <;> omega), rfl⟩

set_option maxHeartbeats 400000 in
theorem compare_str (a b : ByteArray) (w : World) : Calls Try.prog 46 #[.string a, .string b] w fun e w' => e = .returned (.int .i64 (ordS a b)) ∧ w' = w := by
  cases h1 : Op.bytesLess a.toList b.toList
  all_goals
    cases h2 : (a.toList == b.toList)
    all_goals
      go_enter Try.func46, Try.ntmps46
      go_wp2_with fail
      refine (isNaN_str a _).mono ?_
      rintro e w' ⟨rfl, rfl⟩
      go_wp2_with fail
      refine (isNaN_str b _).mono ?_
      rintro e w' ⟨rfl, rfl⟩
      go_wp2
      go_ret
      exact ⟨ret_int (by simp [ordS, h1, h2]), rfl⟩

set_option maxHeartbeats 400000 in
theorem cmpOr_any (x y z : Int) (b : Nat) (w : World) (h0 : w.cell? ⟨b, 0, none⟩ = some (.int .i64 x)) (h1 : w.cell? ⟨b, 1, none⟩ = some (.int .i64 y)) (h2 : w.cell? ⟨b, 2, none⟩ = some (.int .i64 z)) :
    Calls Try.prog 44 #[.slice (some ⟨b, 0, none⟩) 3 3] w fun e w' => e = .returned (.int .i64 (orI x y z)) ∧ w' = w := by
  go_enter Try.func44, Try.ntmps44
  go_wp2
  go_loop [8] (fun i => ∃ k : Nat, k ≤ 3 ∧ i = .int .i64 k ∧ (0 < k → x = 0) ∧ (1 < k → y = 0) ∧ (2 < k → z = 0)) (fun i => 3 - (intOf i).toNat)
  case atStart => exact ⟨0, by omega, rfl, by omega, by omega, by omega⟩
  case round =>
    obtain ⟨k, hk, rfl, r0, r1, r2⟩ := hrel
    have R0 := hide r0
    have R1 := hide r1
    have R2 := hide r2
    clear r0 r1 r2
    obtain rfl | rfl | rfl | rfl : k = 0 ∨ k = 1 ∨ k = 2 ∨ k = 3 := by omega
    · cases hx : (x != 0)
      · go_wp2
        go_round
        case rel => exact ⟨1, by omega, rfl, fun _ => by simpa using hx, by omega, by omega⟩
        case measure => simp [intOf]
      · go_wp2
        go_ret
        exact ⟨ret_int (by simp [orI, bne_iff_ne.1 hx]), rfl⟩
    · have hx := hide (unhide R0 (by omega))
      cases hy : (y != 0)
      · go_wp2
        go_round
        case rel => exact ⟨2, by omega, rfl, fun _ => unhide hx, fun _ => by simpa using hy, by omega⟩
        case measure => simp [intOf]
      · go_wp2
        go_ret
        exact ⟨ret_int (by simp [orI, unhide hx, bne_iff_ne.1 hy]), rfl⟩
    · have hx := hide (unhide R0 (by omega))
      have hy := hide (unhide R1 (by omega))
      cases hz : (z != 0)
      · go_wp2
        go_round
        case rel => exact ⟨3, by omega, rfl, fun _ => unhide hx, fun _ => unhide hy, fun _ => by simpa using hz⟩
        case measure => simp [intOf]
      · go_wp2
        go_ret
        exact ⟨ret_int (by simp [orI, unhide hx, unhide hy]), rfl⟩
    · have hx := hide (unhide R0 (by omega))
      have hy := hide (unhide R1 (by omega))
      have hz := hide (unhide R2 (by omega))
      go_wp2
      go_ret
      exact ⟨ret_int (by simp [orI, unhide hx, unhide hy, unhide hz]), rfl⟩

theorem l01Bit_true (w : World) : Calls Try.prog 66 #[.bool true] w fun e w' => e = .returned (.int .i64 1) ∧ w' = w := l01Bit_any true w
theorem l01Bit_false (w : World) : Calls Try.prog 66 #[.bool false] w fun e w' => e = .returned (.int .i64 0) ∧ w' = w := l01Bit_any false w

set_option maxHeartbeats 400000 in
theorem specOrder_bada (ka na : Int) (ta : ByteArray) (kb nb : Int) (tb : ByteArray) (w : World) (hta : ta.size ≤ maxLen) (htb : tb.size ≤ maxLen) (hva : vokB ka na ta = false) :
    Calls Try.prog 35 #[.agg #[.int .i64 ka, .int .i64 na, .string ta], .agg #[.int .i64 kb, .int .i64 nb, .string tb]] w fun e w' => e = .returned (.tuple #[.int .i64 0, .int .i64 1]) ∧ Below w.heap.size w w' := by
  go_enter Try.func35, Try.ntmps35
  go_wp2_with fail
  refine (specValueOK_any ka na ta _ hta).mono ?_
  rintro e w1 ⟨rfl, hb1⟩
  obtain ⟨hc1, hf1⟩ := bcell hb1
  have hz1_0 : w.heap.size < w1.heap.size := by have := hb1.size; first | omega | (simp at this; omega)
  have hz1_1 : w.heap.size + 1 < w1.heap.size := by have := hb1.size; first | omega | (simp at this; omega)
  go_wp2
  go_ret2
  exact ⟨rfl, (by repeat (first | exact Below.refl _ _ | refine nx_al ?_ | refine nx_set ?_ (by first | omega | (simp <;> omega)) | refine nx_drew ?_ | refine nx_trans ?_ (by assumption)))⟩

set_option maxHeartbeats 400000 in
theorem specOrder_badb (ka na : Int) (ta : ByteArray) (kb nb : Int) (tb : ByteArray) (w : World) (hta : ta.size ≤ maxLen) (htb : tb.size ≤ maxLen) (hva : vokB ka na ta = true) (hvb : vokB kb nb tb = false) :
    Calls Try.prog 35 #[.agg #[.int .i64 ka, .int .i64 na, .string ta], .agg #[.int .i64 kb, .int .i64 nb, .string tb]] w fun e w' => e = .returned (.tuple #[.int .i64 0, .int .i64 1]) ∧ Below w.heap.size w w' := by
  go_enter Try.func35, Try.ntmps35
  go_wp2_with fail
  refine (specValueOK_any ka na ta _ hta).mono ?_
  rintro e w1 ⟨rfl, hb1⟩
  obtain ⟨hc1, hf1⟩ := bcell hb1
  have hz1_0 : w.heap.size < w1.heap.size := by have := hb1.size; first | omega | (simp at this; omega)
  have hz1_1 : w.heap.size + 1 < w1.heap.size := by have := hb1.size; first | omega | (simp at this; omega)
  go_wp2_with fail
  refine (specValueOK_any kb nb tb _ htb).mono ?_
  rintro e w2 ⟨rfl, hb2⟩
  obtain ⟨hc2, hf2⟩ := bcell hb2
  have hz2_0 : w.heap.size < w2.heap.size := by have := hb2.size; first | omega | (simp at this; omega)
  have hz2_1 : w.heap.size + 1 < w2.heap.size := by have := hb2.size; first | omega | (simp at this; omega)
  go_wp2
  go_ret2
  exact ⟨rfl, (by repeat (first | exact Below.refl _ _ | refine nx_al ?_ | refine nx_set ?_ (by first | omega | (simp <;> omega)) | refine nx_drew ?_ | refine nx_trans ?_ (by assumption)))⟩

set_option maxHeartbeats 400000 in
theorem Order_bada (ka na : Int) (ta : ByteArray) (kb nb : Int) (tb : ByteArray) (w : World) (hta : ta.size ≤ maxLen) (htb : tb.size ≤ maxLen) (hva : vokB ka na ta = false) :
    Calls Try.prog 17 #[.agg #[.int .i64 ka, .int .i64 na, .string ta], .agg #[.int .i64 kb, .int .i64 nb, .string tb]] w fun e w' => e = .returned (.tuple #[.int .i64 0, .int .i64 1]) ∧ Below w.heap.size w w' := by
  go_enter Try.func17, Try.ntmps17
  go_wp2_with fail
  refine (ValueOK_any ka na ta _ hta).mono ?_
  rintro e w1 ⟨rfl, hb1⟩
  obtain ⟨hc1, hf1⟩ := bcell hb1
  have hz1_0 : w.heap.size < w1.heap.size := by have := hb1.size; first | omega | (simp at this; omega)
  have hz1_1 : w.heap.size + 1 < w1.heap.size := by have := hb1.size; first | omega | (simp at this; omega)
  go_wp2
  go_ret2
  exact ⟨rfl, (by repeat (first | exact Below.refl _ _ | refine nx_al ?_ | refine nx_set ?_ (by first | omega | (simp <;> omega)) | refine nx_drew ?_ | refine nx_trans ?_ (by assumption)))⟩

set_option maxHeartbeats 400000 in
theorem Order_badb (ka na : Int) (ta : ByteArray) (kb nb : Int) (tb : ByteArray) (w : World) (hta : ta.size ≤ maxLen) (htb : tb.size ≤ maxLen) (hva : vokB ka na ta = true) (hvb : vokB kb nb tb = false) :
    Calls Try.prog 17 #[.agg #[.int .i64 ka, .int .i64 na, .string ta], .agg #[.int .i64 kb, .int .i64 nb, .string tb]] w fun e w' => e = .returned (.tuple #[.int .i64 0, .int .i64 1]) ∧ Below w.heap.size w w' := by
  go_enter Try.func17, Try.ntmps17
  go_wp2_with fail
  refine (ValueOK_any ka na ta _ hta).mono ?_
  rintro e w1 ⟨rfl, hb1⟩
  obtain ⟨hc1, hf1⟩ := bcell hb1
  have hz1_0 : w.heap.size < w1.heap.size := by have := hb1.size; first | omega | (simp at this; omega)
  have hz1_1 : w.heap.size + 1 < w1.heap.size := by have := hb1.size; first | omega | (simp at this; omega)
  go_wp2_with fail
  refine (ValueOK_any kb nb tb _ htb).mono ?_
  rintro e w2 ⟨rfl, hb2⟩
  obtain ⟨hc2, hf2⟩ := bcell hb2
  have hz2_0 : w.heap.size < w2.heap.size := by have := hb2.size; first | omega | (simp at this; omega)
  have hz2_1 : w.heap.size + 1 < w2.heap.size := by have := hb2.size; first | omega | (simp at this; omega)
  go_wp2
  go_ret2
  exact ⟨rfl, (by repeat (first | exact Below.refl _ _ | refine nx_al ?_ | refine nx_set ?_ (by first | omega | (simp <;> omega)) | refine nx_drew ?_ | refine nx_trans ?_ (by assumption)))⟩

set_option maxHeartbeats 400000 in
theorem specOrder_k1 (ka na : Int) (ta : ByteArray) (kb nb : Int) (tb : ByteArray) (w : World) (hta : ta.size ≤ maxLen) (htb : tb.size ≤ maxLen) (hva : vokB ka na ta = true) (hvb : vokB kb nb tb = true) (hk : (ka != kb) = true) (h : kb < ka) :
    Calls Try.prog 35 #[.agg #[.int .i64 ka, .int .i64 na, .string ta], .agg #[.int .i64 kb, .int .i64 nb, .string tb]] w fun e w' => e = .returned (.tuple #[.int .i64 1, .int .i64 0]) ∧ Below w.heap.size w w' := by
  go_enter Try.func35, Try.ntmps35
  go_wp2_with fail
  refine (specValueOK_any ka na ta _ hta).mono ?_
  rintro e w1 ⟨rfl, hb1⟩
  obtain ⟨hc1, hf1⟩ := bcell hb1
  have hz1_0 : w.heap.size < w1.heap.size := by have := hb1.size; first | omega | (simp at this; omega)
  have hz1_1 : w.heap.size + 1 < w1.heap.size := by have := hb1.size; first | omega | (simp at this; omega)
  go_wp2_with fail
  refine (specValueOK_any kb nb tb _ htb).mono ?_
  rintro e w2 ⟨rfl, hb2⟩
  obtain ⟨hc2, hf2⟩ := bcell hb2
  have hz2_0 : w.heap.size < w2.heap.size := by have := hb2.size; first | omega | (simp at this; omega)
  have hz2_1 : w.heap.size + 1 < w2.heap.size := by have := hb2.size; first | omega | (simp at this; omega)
  go_wp2_with fail
  refine (l01Bit_true _).mono ?_
  rintro e w' ⟨rfl, rfl⟩
  go_wp2
  go_ret2
  exact ⟨rfl, (by repeat (first | exact Below.refl _ _ | refine nx_al ?_ | refine nx_set ?_ (by first | omega | (simp <;> omega)) | refine nx_drew ?_ | refine nx_trans ?_ (by assumption)))⟩

set_option maxHeartbeats 400000 in
theorem specOrder_k2 (ka na : Int) (ta : ByteArray) (kb nb : Int) (tb : ByteArray) (w : World) (hta : ta.size ≤ maxLen) (htb : tb.size ≤ maxLen) (hva : vokB ka na ta = true) (hvb : vokB kb nb tb = true) (hk : (ka != kb) = true) (hd : decide (kb < ka) = false) :
    Calls Try.prog 35 #[.agg #[.int .i64 ka, .int .i64 na, .string ta], .agg #[.int .i64 kb, .int .i64 nb, .string tb]] w fun e w' => e = .returned (.tuple #[.int .i64 (-1), .int .i64 0]) ∧ Below w.heap.size w w' := by
  go_enter Try.func35, Try.ntmps35
  go_wp2_with fail
  refine (specValueOK_any ka na ta _ hta).mono ?_
  rintro e w1 ⟨rfl, hb1⟩
  obtain ⟨hc1, hf1⟩ := bcell hb1
  have hz1_0 : w.heap.size < w1.heap.size := by have := hb1.size; first | omega | (simp at this; omega)
  have hz1_1 : w.heap.size + 1 < w1.heap.size := by have := hb1.size; first | omega | (simp at this; omega)
  go_wp2_with fail
  refine (specValueOK_any kb nb tb _ htb).mono ?_
  rintro e w2 ⟨rfl, hb2⟩
  obtain ⟨hc2, hf2⟩ := bcell hb2
  have hz2_0 : w.heap.size < w2.heap.size := by have := hb2.size; first | omega | (simp at this; omega)
  have hz2_1 : w.heap.size + 1 < w2.heap.size := by have := hb2.size; first | omega | (simp at this; omega)
  go_wp2_with fail
  refine (l01Bit_false _).mono ?_
  rintro e w' ⟨rfl, rfl⟩
  go_wp2
  go_ret2
  exact ⟨rfl, (by repeat (first | exact Below.refl _ _ | refine nx_al ?_ | refine nx_set ?_ (by first | omega | (simp <;> omega)) | refine nx_drew ?_ | refine nx_trans ?_ (by assumption)))⟩

set_option maxHeartbeats 400000 in
theorem specOrder_n1 (k na : Int) (ta : ByteArray) (nb : Int) (tb : ByteArray) (w : World) (hta : ta.size ≤ maxLen) (htb : tb.size ≤ maxLen) (hva : vokB k na ta = true) (hvb : vokB k nb tb = true) (hk : (na != nb) = true) (h : nb < na) :
    Calls Try.prog 35 #[.agg #[.int .i64 k, .int .i64 na, .string ta], .agg #[.int .i64 k, .int .i64 nb, .string tb]] w fun e w' => e = .returned (.tuple #[.int .i64 1, .int .i64 0]) ∧ Below w.heap.size w w' := by
  go_enter Try.func35, Try.ntmps35
  go_wp2_with fail
  refine (specValueOK_any k na ta _ hta).mono ?_
  rintro e w1 ⟨rfl, hb1⟩
  obtain ⟨hc1, hf1⟩ := bcell hb1
  have hz1_0 : w.heap.size < w1.heap.size := by have := hb1.size; first | omega | (simp at this; omega)
  have hz1_1 : w.heap.size + 1 < w1.heap.size := by have := hb1.size; first | omega | (simp at this; omega)
  go_wp2_with fail
  refine (specValueOK_any k nb tb _ htb).mono ?_
  rintro e w2 ⟨rfl, hb2⟩
  obtain ⟨hc2, hf2⟩ := bcell hb2
  have hz2_0 : w.heap.size < w2.heap.size := by have := hb2.size; first | omega | (simp at this; omega)
  have hz2_1 : w.heap.size + 1 < w2.heap.size := by have := hb2.size; first | omega | (simp at this; omega)
  go_wp2_with fail
  refine (l01Bit_true _).mono ?_
  rintro e w' ⟨rfl, rfl⟩
  go_wp2
  go_ret2
  exact ⟨rfl, (by repeat (first | exact Below.refl _ _ | refine nx_al ?_ | refine nx_set ?_ (by first | omega | (simp <;> omega)) | refine nx_drew ?_ | refine nx_trans ?_ (by assumption)))⟩

set_option maxHeartbeats 400000 in
theorem specOrder_n2 (k na : Int) (ta : ByteArray) (nb : Int) (tb : ByteArray) (w : World) (hta : ta.size ≤ maxLen) (htb : tb.size ≤ maxLen) (hva : vokB k na ta = true) (hvb : vokB k nb tb = true) (hk : (na != nb) = true) (hd : decide (nb < na) = false) :
    Calls Try.prog 35 #[.agg #[.int .i64 k, .int .i64 na, .string ta], .agg #[.int .i64 k, .int .i64 nb, .string tb]] w fun e w' => e = .returned (.tuple #[.int .i64 (-1), .int .i64 0]) ∧ Below w.heap.size w w' := by
  go_enter Try.func35, Try.ntmps35
  go_wp2_with fail
  refine (specValueOK_any k na ta _ hta).mono ?_
  rintro e w1 ⟨rfl, hb1⟩
  obtain ⟨hc1, hf1⟩ := bcell hb1
  have hz1_0 : w.heap.size < w1.heap.size := by have := hb1.size; first | omega | (simp at this; omega)
  have hz1_1 : w.heap.size + 1 < w1.heap.size := by have := hb1.size; first | omega | (simp at this; omega)
  go_wp2_with fail
  refine (specValueOK_any k nb tb _ htb).mono ?_
  rintro e w2 ⟨rfl, hb2⟩
  obtain ⟨hc2, hf2⟩ := bcell hb2
  have hz2_0 : w.heap.size < w2.heap.size := by have := hb2.size; first | omega | (simp at this; omega)
  have hz2_1 : w.heap.size + 1 < w2.heap.size := by have := hb2.size; first | omega | (simp at this; omega)
  go_wp2_with fail
  refine (l01Bit_false _).mono ?_
  rintro e w' ⟨rfl, rfl⟩
  go_wp2
  go_ret2
  exact ⟨rfl, (by repeat (first | exact Below.refl _ _ | refine nx_al ?_ | refine nx_set ?_ (by first | omega | (simp <;> omega)) | refine nx_drew ?_ | refine nx_trans ?_ (by assumption)))⟩

set_option maxHeartbeats 400000 in
theorem specOrder_t1 (k n : Int) (ta tb : ByteArray) (w : World) (hta : ta.size ≤ maxLen) (htb : tb.size ≤ maxLen) (hva : vokB k n ta = true) (hvb : vokB k n tb = true) (hk : (ta.toList == tb.toList) = false) (h : Op.bytesLess ta.toList tb.toList = false) :
    Calls Try.prog 35 #[.agg #[.int .i64 k, .int .i64 n, .string ta], .agg #[.int .i64 k, .int .i64 n, .string tb]] w fun e w' => e = .returned (.tuple #[.int .i64 1, .int .i64 0]) ∧ Below w.heap.size w w' := by
  go_enter Try.func35, Try.ntmps35
  go_wp2_with fail
  refine (specValueOK_any k n ta _ hta).mono ?_
  rintro e w1 ⟨rfl, hb1⟩
  obtain ⟨hc1, hf1⟩ := bcell hb1
  have hz1_0 : w.heap.size < w1.heap.size := by have := hb1.size; first | omega | (simp at this; omega)
  have hz1_1 : w.heap.size + 1 < w1.heap.size := by have := hb1.size; first | omega | (simp at this; omega)
  go_wp2_with fail
  refine (specValueOK_any k n tb _ htb).mono ?_
  rintro e w2 ⟨rfl, hb2⟩
  obtain ⟨hc2, hf2⟩ := bcell hb2
  have hz2_0 : w.heap.size < w2.heap.size := by have := hb2.size; first | omega | (simp at this; omega)
  have hz2_1 : w.heap.size + 1 < w2.heap.size := by have := hb2.size; first | omega | (simp at this; omega)
  go_wp2_with fail
  refine (l01Bit_true _).mono ?_
  rintro e w' ⟨rfl, rfl⟩
  go_wp2
  go_ret2
  exact ⟨rfl, (by repeat (first | exact Below.refl _ _ | refine nx_al ?_ | refine nx_set ?_ (by first | omega | (simp <;> omega)) | refine nx_drew ?_ | refine nx_trans ?_ (by assumption)))⟩

set_option maxHeartbeats 400000 in
theorem specOrder_t2 (k n : Int) (ta tb : ByteArray) (w : World) (hta : ta.size ≤ maxLen) (htb : tb.size ≤ maxLen) (hva : vokB k n ta = true) (hvb : vokB k n tb = true) (hk : (ta.toList == tb.toList) = false) (h : Op.bytesLess ta.toList tb.toList = true) :
    Calls Try.prog 35 #[.agg #[.int .i64 k, .int .i64 n, .string ta], .agg #[.int .i64 k, .int .i64 n, .string tb]] w fun e w' => e = .returned (.tuple #[.int .i64 (-1), .int .i64 0]) ∧ Below w.heap.size w w' := by
  go_enter Try.func35, Try.ntmps35
  go_wp2_with fail
  refine (specValueOK_any k n ta _ hta).mono ?_
  rintro e w1 ⟨rfl, hb1⟩
  obtain ⟨hc1, hf1⟩ := bcell hb1
  have hz1_0 : w.heap.size < w1.heap.size := by have := hb1.size; first | omega | (simp at this; omega)
  have hz1_1 : w.heap.size + 1 < w1.heap.size := by have := hb1.size; first | omega | (simp at this; omega)
  go_wp2_with fail
  refine (specValueOK_any k n tb _ htb).mono ?_
  rintro e w2 ⟨rfl, hb2⟩
  obtain ⟨hc2, hf2⟩ := bcell hb2
  have hz2_0 : w.heap.size < w2.heap.size := by have := hb2.size; first | omega | (simp at this; omega)
  have hz2_1 : w.heap.size + 1 < w2.heap.size := by have := hb2.size; first | omega | (simp at this; omega)
  go_wp2_with fail
  refine (l01Bit_false _).mono ?_
  rintro e w' ⟨rfl, rfl⟩
  go_wp2
  go_ret2
  exact ⟨rfl, (by repeat (first | exact Below.refl _ _ | refine nx_al ?_ | refine nx_set ?_ (by first | omega | (simp <;> omega)) | refine nx_drew ?_ | refine nx_trans ?_ (by assumption)))⟩

set_option maxHeartbeats 400000 in
theorem specOrder_t0 (k n : Int) (ta tb : ByteArray) (w : World) (hta : ta.size ≤ maxLen) (htb : tb.size ≤ maxLen) (hva : vokB k n ta = true) (hvb : vokB k n tb = true) (hk : (ta.toList == tb.toList) = true) :
    Calls Try.prog 35 #[.agg #[.int .i64 k, .int .i64 n, .string ta], .agg #[.int .i64 k, .int .i64 n, .string tb]] w fun e w' => e = .returned (.tuple #[.int .i64 0, .int .i64 0]) ∧ Below w.heap.size w w' := by
  go_enter Try.func35, Try.ntmps35
  go_wp2_with fail
  refine (specValueOK_any k n ta _ hta).mono ?_
  rintro e w1 ⟨rfl, hb1⟩
  obtain ⟨hc1, hf1⟩ := bcell hb1
  have hz1_0 : w.heap.size < w1.heap.size := by have := hb1.size; first | omega | (simp at this; omega)
  have hz1_1 : w.heap.size + 1 < w1.heap.size := by have := hb1.size; first | omega | (simp at this; omega)
  go_wp2_with fail
  refine (specValueOK_any k n tb _ htb).mono ?_
  rintro e w2 ⟨rfl, hb2⟩
  obtain ⟨hc2, hf2⟩ := bcell hb2
  have hz2_0 : w.heap.size < w2.heap.size := by have := hb2.size; first | omega | (simp at this; omega)
  have hz2_1 : w.heap.size + 1 < w2.heap.size := by have := hb2.size; first | omega | (simp at this; omega)
  go_wp2
  go_ret2
  exact ⟨rfl, (by repeat (first | exact Below.refl _ _ | refine nx_al ?_ | refine nx_set ?_ (by first | omega | (simp <;> omega)) | refine nx_drew ?_ | refine nx_trans ?_ (by assumption)))⟩

set_option maxHeartbeats 400000 in
theorem Order_ok (ka na : Int) (ta : ByteArray) (kb nb : Int) (tb : ByteArray) (w : World) (hta : ta.size ≤ maxLen) (htb : tb.size ≤ maxLen) (hva : vokB ka na ta = true) (hvb : vokB kb nb tb = true)  :
    Calls Try.prog 17 #[.agg #[.int .i64 ka, .int .i64 na, .string ta], .agg #[.int .i64 kb, .int .i64 nb, .string tb]] w fun e w' => e = .returned (.tuple #[.int .i64 (orI (ordI ka kb) (ordI na nb) (ordS ta tb)), .int .i64 0]) ∧ Below w.heap.size w w' := by
  go_enter Try.func17, Try.ntmps17
  go_wp2_with fail
  refine (ValueOK_any ka na ta _ hta).mono ?_
  rintro e w1 ⟨rfl, hb1⟩
  obtain ⟨hc1, hf1⟩ := bcell hb1
  have hz1_0 : w.heap.size < w1.heap.size := by have := hb1.size; first | omega | (simp at this; omega)
  have hz1_1 : w.heap.size + 1 < w1.heap.size := by have := hb1.size; first | omega | (simp at this; omega)
  go_wp2_with fail
  refine (ValueOK_any kb nb tb _ htb).mono ?_
  rintro e w2 ⟨rfl, hb2⟩
  obtain ⟨hc2, hf2⟩ := bcell hb2
  have hz2_0 : w.heap.size < w2.heap.size := by have := hb2.size; first | omega | (simp at this; omega)
  have hz2_1 : w.heap.size + 1 < w2.heap.size := by have := hb2.size; first | omega | (simp at this; omega)
  obtain ⟨q0, q1, q2, q3, q4, q5⟩ : (fun x => x.cell? ⟨w.heap.size, 0, none⟩ = some (.int .i64 ka) ∧ x.cell? ⟨w.heap.size, 1, none⟩ = some (.int .i64 na) ∧ x.cell? ⟨w.heap.size, 2, none⟩ = some (.string ta) ∧ x.cell? ⟨w.heap.size + 1, 0, none⟩ = some (.int .i64 kb) ∧ x.cell? ⟨w.heap.size + 1, 1, none⟩ = some (.int .i64 nb) ∧ x.cell? ⟨w.heap.size + 1, 2, none⟩ = some (.string tb)) w2 := by
    refine ⟨?_, ?_, ?_, ?_, ?_, ?_⟩ <;> (rw [hc2 _ _ (by omega), hc1 _ _ (by simp <;> omega)]; simp)
  clear hc1 hf1 hc2 hf2
  go_wp2
  go_region_held3 (fun x => x.cell? ⟨w.heap.size, 0, none⟩ = some (.int .i64 ka) ∧ x.cell? ⟨w.heap.size, 1, none⟩ = some (.int .i64 na) ∧ x.cell? ⟨w.heap.size, 2, none⟩ = some (.string ta) ∧ x.cell? ⟨w.heap.size + 1, 0, none⟩ = some (.int .i64 kb) ∧ x.cell? ⟨w.heap.size + 1, 1, none⟩ = some (.int .i64 nb) ∧ x.cell? ⟨w.heap.size + 1, 2, none⟩ = some (.string tb)) (go_keep) ((first | (go_at_call 45; refine (compare_int _ _ _).mono ?_; rintro e w' ⟨rfl, rfl⟩) | (go_at_call 46; refine (compare_str _ _ _).mono ?_; rintro e w' ⟨rfl, rfl⟩) | (go_at_call 44; refine (cmpOr_any (ordI ka kb) (ordI na nb) (ordS ta tb) _ _ (by simp) (by simp) (by simp)).mono ?_; rintro e w' ⟨rfl, rfl⟩)))
  all_goals go_wp2
  all_goals
    go_ret2
    exact ⟨rfl, (by repeat (first | exact Below.refl _ _ | refine nx_al ?_ | refine nx_set ?_ (by first | omega | (simp <;> omega)) | refine nx_drew ?_ | refine nx_trans ?_ (by assumption)))⟩

def orderP (ka na : Int) (ta : ByteArray) (kb nb : Int) (tb : ByteArray) : Int × Int :=
  if vokB ka na ta = true ∧ vokB kb nb tb = true then (orI (ordI ka kb) (ordI na nb) (ordS ta tb), 0) else (0, 1)

theorem Order_any (ka na : Int) (ta : ByteArray) (kb nb : Int) (tb : ByteArray) (w : World) (hta : ta.size ≤ maxLen) (htb : tb.size ≤ maxLen) :
    Calls Try.prog 17 #[.agg #[.int .i64 ka, .int .i64 na, .string ta], .agg #[.int .i64 kb, .int .i64 nb, .string tb]] w fun e w' => e = .returned (.tuple #[.int .i64 (orderP ka na ta kb nb tb).1, .int .i64 (orderP ka na ta kb nb tb).2]) ∧ Below w.heap.size w w' := by
  unfold orderP
  cases hva : vokB ka na ta
  · exact Order_bada ka na ta kb nb tb w hta htb hva
  cases hvb : vokB kb nb tb
  · exact Order_badb ka na ta kb nb tb w hta htb hva hvb
  · exact Order_ok ka na ta kb nb tb w hta htb hva hvb

theorem specOrder_any (ka na : Int) (ta : ByteArray) (kb nb : Int) (tb : ByteArray) (w : World) (hta : ta.size ≤ maxLen) (htb : tb.size ≤ maxLen) :
    Calls Try.prog 35 #[.agg #[.int .i64 ka, .int .i64 na, .string ta], .agg #[.int .i64 kb, .int .i64 nb, .string tb]] w fun e w' => e = .returned (.tuple #[.int .i64 (orderP ka na ta kb nb tb).1, .int .i64 (orderP ka na ta kb nb tb).2]) ∧ Below w.heap.size w w' := by
  unfold orderP
  cases hva : vokB ka na ta
  · exact specOrder_bada ka na ta kb nb tb w hta htb hva
  cases hvb : vokB kb nb tb
  · exact specOrder_badb ka na ta kb nb tb w hta htb hva hvb
  rw [if_pos ⟨rfl, rfl⟩]
  by_cases hk : ka = kb
  · subst hk
    rw [show ordI ka ka = 0 by simp [ordI]]
    by_cases hn : na = nb
    · subst hn
      rw [show ordI na na = 0 by simp [ordI]]
      cases ht : (ta.toList == tb.toList)
      · cases hl : Op.bytesLess ta.toList tb.toList
        · rw [show ordS ta tb = 1 by simp [ordS, hl, ht]]
          exact specOrder_t1 ka na ta tb w hta htb hva hvb ht hl
        · rw [show ordS ta tb = -1 by simp [ordS, hl]]
          exact specOrder_t2 ka na ta tb w hta htb hva hvb ht hl
      · rw [show ordS ta tb = 0 by
          have e : ta.toList = tb.toList := by simpa using ht
          unfold ordS
          rw [if_neg (by rw [e, bytesLess_irrefl]; simp), if_pos ht]]
        exact specOrder_t0 ka na ta tb w hta htb hva hvb ht
    · by_cases hl : nb < na
      · rw [show ordI na nb = 1 by unfold ordI; rw [if_neg (by omega), if_pos hl]]
        exact specOrder_n1 ka na ta nb tb w hta htb hva hvb (by rw [bne_iff_ne]; exact hn) hl
      · rw [show ordI na nb = -1 by unfold ordI; rw [if_pos (by omega)]]
        exact specOrder_n2 ka na ta nb tb w hta htb hva hvb (by rw [bne_iff_ne]; exact hn) (by simpa using hl)
  · by_cases hl : kb < ka
    · rw [show ordI ka kb = 1 by unfold ordI; rw [if_neg (by omega), if_pos hl]]
      exact specOrder_k1 ka na ta kb nb tb w hta htb hva hvb (by rw [bne_iff_ne]; exact hk) hl
    · rw [show ordI ka kb = -1 by unfold ordI; rw [if_pos (by omega)]]
      exact specOrder_k2 ka na ta kb nb tb w hta htb hva hvb (by rw [bne_iff_ne]; exact hk) (by simpa using hl)

set_option maxHeartbeats 1000000 in
theorem lawOrderValues_any (ka na : Int) (ta : ByteArray) (kb nb : Int) (tb : ByteArray) (w : World) (_hk : (Lit.int .i64 ka).wf = true) (_hn : (Lit.int .i64 na).wf = true) (hta : ta.size ≤ maxLen) (_hkb : (Lit.int .i64 kb).wf = true) (_hnb : (Lit.int .i64 nb).wf = true) (htb : tb.size ≤ maxLen) :
    Calls Try.prog 12 #[.agg #[.int .i64 ka, .int .i64 na, .string ta], .agg #[.int .i64 kb, .int .i64 nb, .string tb]] w fun e w' => e = .returned (.bool true) ∧ Below w.heap.size w w' := by
  by_cases h' : (1048576 : Int) < (ta.size : Int)
  · go_enter Try.func12, Try.ntmps12
    go_wp2_with fail
    refine (szValue_no ka na ta _ _ hta (by omega) (by omega) h').mono ?_
    rintro e w1 ⟨rfl, hb1⟩
    go_wp2
    go_ret
    exact ⟨rfl, (by repeat (first | exact Below.refl _ _ | refine nx_al ?_ | refine nx_set ?_ (by first | omega | (simp <;> omega)) | refine nx_drew ?_ | refine nx_trans ?_ (by assumption)))⟩
  by_cases h'' : (1048576 : Int) - (ta.size : Int) < (tb.size : Int)
  · go_enter Try.func12, Try.ntmps12
    go_wp2_with fail
    refine (szValue_yes ka na ta _ _ (by omega) (by omega)).mono ?_
    rintro e w1 ⟨rfl, hb1⟩
    obtain ⟨hc1, hf1⟩ := bcell hb1
    have hz1_0 : w.heap.size < w1.heap.size := by have := hb1.size; first | omega | (simp at this; omega)
    have hz1_1 : w.heap.size + 1 < w1.heap.size := by have := hb1.size; first | omega | (simp at this; omega)
    go_wp2_with fail
    refine (szValue_no kb nb tb _ _ htb (by omega) (by omega) h'').mono ?_
    rintro e w2 ⟨rfl, hb2⟩
    go_wp2
    go_ret
    exact ⟨rfl, (by repeat (first | exact Below.refl _ _ | refine nx_al ?_ | refine nx_set ?_ (by first | omega | (simp <;> omega)) | refine nx_drew ?_ | refine nx_trans ?_ (by assumption)))⟩
  have hS := fun w => specOrder_any ka na ta kb nb tb w hta htb
  have hI := fun w => Order_any ka na ta kb nb tb w hta htb
  generalize orderP ka na ta kb nb tb = r at hS hI
  obtain ⟨r0, r1⟩ := r
  have HS := hide hS
  have HI := hide hI
  clear hS hI
  go_enter Try.func12, Try.ntmps12
  go_wp2_with fail
  refine (szValue_yes ka na ta _ _ (by omega) (by omega)).mono ?_
  rintro e w1 ⟨rfl, hb1⟩
  obtain ⟨hc1, hf1⟩ := bcell hb1
  have hz1_0 : w.heap.size < w1.heap.size := by have := hb1.size; first | omega | (simp at this; omega)
  have hz1_1 : w.heap.size + 1 < w1.heap.size := by have := hb1.size; first | omega | (simp at this; omega)
  go_wp2_with fail
  refine (szValue_yes kb nb tb _ _ (by omega) (by omega)).mono ?_
  rintro e w2 ⟨rfl, hb2⟩
  obtain ⟨hc2, hf2⟩ := bcell hb2
  have hz2_0 : w.heap.size < w2.heap.size := by have := hb2.size; first | omega | (simp at this; omega)
  have hz2_1 : w.heap.size + 1 < w2.heap.size := by have := hb2.size; first | omega | (simp at this; omega)
  obtain ⟨q0, q1, q2, q3, q4, q5⟩ : (fun x => x.cell? ⟨w.heap.size, 0, none⟩ = some (.int .i64 ka) ∧ x.cell? ⟨w.heap.size, 1, none⟩ = some (.int .i64 na) ∧ x.cell? ⟨w.heap.size, 2, none⟩ = some (.string ta) ∧ x.cell? ⟨w.heap.size + 1, 0, none⟩ = some (.int .i64 kb) ∧ x.cell? ⟨w.heap.size + 1, 1, none⟩ = some (.int .i64 nb) ∧ x.cell? ⟨w.heap.size + 1, 2, none⟩ = some (.string tb)) w2 := by
    refine ⟨?_, ?_, ?_, ?_, ?_, ?_⟩ <;> (rw [hc2 _ _ (by omega), hc1 _ _ (by simp <;> omega)]; simp)
  clear hc1 hf1 hc2 hf2
  go_wp2
  go_region_held3 (fun x => x.cell? ⟨w.heap.size, 0, none⟩ = some (.int .i64 ka) ∧ x.cell? ⟨w.heap.size, 1, none⟩ = some (.int .i64 na) ∧ x.cell? ⟨w.heap.size, 2, none⟩ = some (.string ta) ∧ x.cell? ⟨w.heap.size + 1, 0, none⟩ = some (.int .i64 kb) ∧ x.cell? ⟨w.heap.size + 1, 1, none⟩ = some (.int .i64 nb) ∧ x.cell? ⟨w.heap.size + 1, 2, none⟩ = some (.string tb)) (go_keep) ((first | (go_at_call 27; refine (toValue_any _ _ _ _).mono ?_; rintro e u ⟨rfl, hbu⟩; have cu0 := cell_later (a := ⟨w.heap.size, 0, none⟩) (v := .int .i64 ka) hbu (by simp [*]); have cu1 := cell_later (a := ⟨w.heap.size, 1, none⟩) (v := .int .i64 na) hbu (by simp [*]); have cu2 := cell_later (a := ⟨w.heap.size, 2, none⟩) (v := .string ta) hbu (by simp [*]); have cu3 := cell_later (a := ⟨w.heap.size + 1, 0, none⟩) (v := .int .i64 kb) hbu (by simp [*]); have cu4 := cell_later (a := ⟨w.heap.size + 1, 1, none⟩) (v := .int .i64 nb) hbu (by simp [*]); have cu5 := cell_later (a := ⟨w.heap.size + 1, 2, none⟩) (v := .string tb) hbu (by simp [*])) | (go_at_call 35; refine (unhide HS _).mono ?_; rintro e x ⟨rfl, hbx⟩; have cx0 := cell_later (a := ⟨w.heap.size, 0, none⟩) (v := .int .i64 ka) hbx (by simp [*]); have cx1 := cell_later (a := ⟨w.heap.size, 1, none⟩) (v := .int .i64 na) hbx (by simp [*]); have cx2 := cell_later (a := ⟨w.heap.size, 2, none⟩) (v := .string ta) hbx (by simp [*]); have cx3 := cell_later (a := ⟨w.heap.size + 1, 0, none⟩) (v := .int .i64 kb) hbx (by simp [*]); have cx4 := cell_later (a := ⟨w.heap.size + 1, 1, none⟩) (v := .int .i64 nb) hbx (by simp [*]); have cx5 := cell_later (a := ⟨w.heap.size + 1, 2, none⟩) (v := .string tb) hbx (by simp [*]))))
  go_wp2
  go_region_held3 (fun x => x.cell? ⟨w.heap.size, 0, none⟩ = some (.int .i64 ka) ∧ x.cell? ⟨w.heap.size, 1, none⟩ = some (.int .i64 na) ∧ x.cell? ⟨w.heap.size, 2, none⟩ = some (.string ta) ∧ x.cell? ⟨w.heap.size + 1, 0, none⟩ = some (.int .i64 kb) ∧ x.cell? ⟨w.heap.size + 1, 1, none⟩ = some (.int .i64 nb) ∧ x.cell? ⟨w.heap.size + 1, 2, none⟩ = some (.string tb)) (go_keep) ((first | (go_at_call 27; refine (toValue_any _ _ _ _).mono ?_; rintro e v ⟨rfl, hbv⟩; have cv0 := cell_later (a := ⟨w.heap.size, 0, none⟩) (v := .int .i64 ka) hbv (by simp [*]); have cv1 := cell_later (a := ⟨w.heap.size, 1, none⟩) (v := .int .i64 na) hbv (by simp [*]); have cv2 := cell_later (a := ⟨w.heap.size, 2, none⟩) (v := .string ta) hbv (by simp [*]); have cv3 := cell_later (a := ⟨w.heap.size + 1, 0, none⟩) (v := .int .i64 kb) hbv (by simp [*]); have cv4 := cell_later (a := ⟨w.heap.size + 1, 1, none⟩) (v := .int .i64 nb) hbv (by simp [*]); have cv5 := cell_later (a := ⟨w.heap.size + 1, 2, none⟩) (v := .string tb) hbv (by simp [*])) | (go_at_call 17; refine (unhide HI _).mono ?_; rintro e y ⟨rfl, hby⟩; have cy0 := cell_later (a := ⟨w.heap.size, 0, none⟩) (v := .int .i64 ka) hby (by simp [*]); have cy1 := cell_later (a := ⟨w.heap.size, 1, none⟩) (v := .int .i64 na) hby (by simp [*]); have cy2 := cell_later (a := ⟨w.heap.size, 2, none⟩) (v := .string ta) hby (by simp [*]); have cy3 := cell_later (a := ⟨w.heap.size + 1, 0, none⟩) (v := .int .i64 kb) hby (by simp [*]); have cy4 := cell_later (a := ⟨w.heap.size + 1, 1, none⟩) (v := .int .i64 nb) hby (by simp [*]); have cy5 := cell_later (a := ⟨w.heap.size + 1, 2, none⟩) (v := .string tb) hby (by simp [*]))))
  go_wp2
  go_ret
  exact ⟨rfl, (by repeat (first | exact Below.refl _ _ | refine nx_al ?_ | refine nx_set ?_ (by first | omega | (simp <;> omega)) | refine nx_drew ?_ | refine nx_trans ?_ (by assumption)))⟩

end Go.Proofs.Ytpncohkbdaoceaa
