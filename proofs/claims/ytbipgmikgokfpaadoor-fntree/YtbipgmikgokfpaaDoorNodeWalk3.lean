/- What is right of a branch by itself, the code's side: 'partsOK' answers 'partsB'. -/
import Derived.Test.YtbipgmikgokfpaaDoorNodeWalk2
namespace Go.Proofs.YtbipgmikgokfpaaDoor
open Go.RowKit Go.Joins
set_option linter.unusedVariables false

set_option maxHeartbeats 4000000 in
set_option maxRecDepth 100000 in
theorem partsOK_empty (b : Nat) (k n : Int) (t : ByteArray) (pn : Option Addr) (nl cn : Nat) (w : World) (h0 : w.cell? ⟨b, 0, none⟩ = some (.int .i64 k)) (h1 : w.cell? ⟨b, 1, none⟩ = some (.int .i64 n)) (h2 : w.cell? ⟨b, 2, none⟩ = some (.string t)) (h3 : w.cell? ⟨b, 3, none⟩ = some (.slice pn nl cn)) (hk : k = 4 ∨ k = 8 ∨ k = 9 ∨ k = 13 ∨ k = 14 ∨ k = 15 ∨ k = 16 ∨ k = 18 ∨ k = 19) (hz : n = 0) (hn : nl = 0) (ht : t.toList = []) :
    Calls Tryd.prog 123 #[.pointer (some ⟨b, 0, none⟩)] w fun e w' => e = .returned (.bool true) ∧ w' = w := by
  subst hz
  have e3 : ¬ (0 : Int) < (nl : Int) := by omega
  clear hn
  rcases hk with rfl | rfl | rfl | rfl | rfl | rfl | rfl | rfl | rfl
  all_goals
    go_enter Tryd.func123, Tryd.ntmps123
    go_wp2
    go_ret
    exact ⟨rfl, rfl⟩

set_option maxHeartbeats 4000000 in
set_option maxRecDepth 100000 in
theorem partsOK_text (b : Nat) (k n : Int) (t : ByteArray) (pn : Option Addr) (nl cn : Nat) (w : World) (h0 : w.cell? ⟨b, 0, none⟩ = some (.int .i64 k)) (h1 : w.cell? ⟨b, 1, none⟩ = some (.int .i64 n)) (h2 : w.cell? ⟨b, 2, none⟩ = some (.string t)) (h3 : w.cell? ⟨b, 3, none⟩ = some (.slice pn nl cn)) (hk : k = 4 ∨ k = 8 ∨ k = 9 ∨ k = 13 ∨ k = 14 ∨ k = 15 ∨ k = 16 ∨ k = 18 ∨ k = 19) (hz : n = 0) (hn : nl = 0) (ht : ¬ t.toList = []) :
    Calls Tryd.prog 123 #[.pointer (some ⟨b, 0, none⟩)] w fun e w' => e = .returned (.bool false) ∧ w' = w := by
  subst hz
  have e3 : ¬ (0 : Int) < (nl : Int) := by omega
  have t1 : (t.toList == []) = false := beq_eq_false_iff_ne.2 ht
  clear hn
  rcases hk with rfl | rfl | rfl | rfl | rfl | rfl | rfl | rfl | rfl
  all_goals
    go_enter Tryd.func123, Tryd.ntmps123
    go_wp2
    go_ret
    exact ⟨rfl, rfl⟩

set_option maxHeartbeats 1000000 in
set_option maxRecDepth 100000 in
theorem partsOK_int_text (b : Nat) (k n : Int) (t : ByteArray) (pn : Option Addr) (nl cn : Nat) (w : World) (h0 : w.cell? ⟨b, 0, none⟩ = some (.int .i64 k)) (h1 : w.cell? ⟨b, 1, none⟩ = some (.int .i64 n)) (h2 : w.cell? ⟨b, 2, none⟩ = some (.string t)) (h3 : w.cell? ⟨b, 3, none⟩ = some (.slice pn nl cn)) (hk : k = 1) (hn : nl = 0) (ht : ¬ t.toList = []) :
    Calls Tryd.prog 123 #[.pointer (some ⟨b, 0, none⟩)] w fun e w' => e = .returned (.bool false) ∧ w' = w := by
  subst hk
  have e3 : ¬ (0 : Int) < (nl : Int) := by omega
  clear hn
  have t1 : (t.toList == []) = false := beq_eq_false_iff_ne.2 ht
  go_enter Tryd.func123, Tryd.ntmps123
  go_wp2
  go_ret
  exact ⟨rfl, rfl⟩

set_option maxHeartbeats 1000000 in
set_option maxRecDepth 100000 in
theorem partsOK_int_low (b : Nat) (k n : Int) (t : ByteArray) (pn : Option Addr) (nl cn : Nat) (w : World) (h0 : w.cell? ⟨b, 0, none⟩ = some (.int .i64 k)) (h1 : w.cell? ⟨b, 1, none⟩ = some (.int .i64 n)) (h2 : w.cell? ⟨b, 2, none⟩ = some (.string t)) (h3 : w.cell? ⟨b, 3, none⟩ = some (.slice pn nl cn)) (hk : k = 1) (hn : nl = 0) (ht : t.toList = []) (h : ¬ 0 ≤ n) :
    Calls Tryd.prog 123 #[.pointer (some ⟨b, 0, none⟩)] w fun e w' => e = .returned (.bool false) ∧ w' = w := by
  subst hk
  have e3 : ¬ (0 : Int) < (nl : Int) := by omega
  clear hn
  go_enter Tryd.func123, Tryd.ntmps123
  go_wp2
  go_ret
  exact ⟨rfl, rfl⟩

set_option maxHeartbeats 1000000 in
set_option maxRecDepth 100000 in
theorem partsOK_int_high (b : Nat) (k n : Int) (t : ByteArray) (pn : Option Addr) (nl cn : Nat) (w : World) (h0 : w.cell? ⟨b, 0, none⟩ = some (.int .i64 k)) (h1 : w.cell? ⟨b, 1, none⟩ = some (.int .i64 n)) (h2 : w.cell? ⟨b, 2, none⟩ = some (.string t)) (h3 : w.cell? ⟨b, 3, none⟩ = some (.slice pn nl cn)) (hk : k = 1) (hn : nl = 0) (ht : t.toList = []) (h : 0 ≤ n) (h' : ¬ n ≤ 2147483647) :
    Calls Tryd.prog 123 #[.pointer (some ⟨b, 0, none⟩)] w fun e w' => e = .returned (.bool false) ∧ w' = w := by
  subst hk
  have e3 : ¬ (0 : Int) < (nl : Int) := by omega
  clear hn
  go_enter Tryd.func123, Tryd.ntmps123
  go_wp2
  go_ret
  exact ⟨rfl, rfl⟩

set_option maxHeartbeats 1000000 in
set_option maxRecDepth 100000 in
theorem partsOK_int_ok (b : Nat) (k n : Int) (t : ByteArray) (pn : Option Addr) (nl cn : Nat) (w : World) (h0 : w.cell? ⟨b, 0, none⟩ = some (.int .i64 k)) (h1 : w.cell? ⟨b, 1, none⟩ = some (.int .i64 n)) (h2 : w.cell? ⟨b, 2, none⟩ = some (.string t)) (h3 : w.cell? ⟨b, 3, none⟩ = some (.slice pn nl cn)) (hk : k = 1) (hn : nl = 0) (ht : t.toList = []) (h : 0 ≤ n) (h' : n ≤ 2147483647) :
    Calls Tryd.prog 123 #[.pointer (some ⟨b, 0, none⟩)] w fun e w' => e = .returned (.bool true) ∧ w' = w := by
  subst hk
  have e3 : ¬ (0 : Int) < (nl : Int) := by omega
  clear hn
  go_enter Tryd.func123, Tryd.ntmps123
  go_wp2
  go_ret
  exact ⟨rfl, rfl⟩

set_option maxHeartbeats 1000000 in
set_option maxRecDepth 100000 in
theorem partsOK_bool_text (b : Nat) (k n : Int) (t : ByteArray) (pn : Option Addr) (nl cn : Nat) (w : World) (h0 : w.cell? ⟨b, 0, none⟩ = some (.int .i64 k)) (h1 : w.cell? ⟨b, 1, none⟩ = some (.int .i64 n)) (h2 : w.cell? ⟨b, 2, none⟩ = some (.string t)) (h3 : w.cell? ⟨b, 3, none⟩ = some (.slice pn nl cn)) (hk : k = 3) (hn : nl = 0) (ht : ¬ t.toList = []) :
    Calls Tryd.prog 123 #[.pointer (some ⟨b, 0, none⟩)] w fun e w' => e = .returned (.bool false) ∧ w' = w := by
  subst hk
  have e3 : ¬ (0 : Int) < (nl : Int) := by omega
  clear hn
  have t1 : (t.toList == []) = false := beq_eq_false_iff_ne.2 ht
  go_enter Tryd.func123, Tryd.ntmps123
  go_wp2
  go_ret
  exact ⟨rfl, rfl⟩

set_option maxHeartbeats 1000000 in
set_option maxRecDepth 100000 in
theorem partsOK_bool_0 (b : Nat) (k n : Int) (t : ByteArray) (pn : Option Addr) (nl cn : Nat) (w : World) (h0 : w.cell? ⟨b, 0, none⟩ = some (.int .i64 k)) (h1 : w.cell? ⟨b, 1, none⟩ = some (.int .i64 n)) (h2 : w.cell? ⟨b, 2, none⟩ = some (.string t)) (h3 : w.cell? ⟨b, 3, none⟩ = some (.slice pn nl cn)) (hk : k = 3) (hn : nl = 0) (ht : t.toList = []) (h : n = 0) :
    Calls Tryd.prog 123 #[.pointer (some ⟨b, 0, none⟩)] w fun e w' => e = .returned (.bool true) ∧ w' = w := by
  subst hk
  subst h
  have e3 : ¬ (0 : Int) < (nl : Int) := by omega
  clear hn
  go_enter Tryd.func123, Tryd.ntmps123
  go_wp2
  go_ret
  exact ⟨rfl, rfl⟩

set_option maxHeartbeats 1000000 in
set_option maxRecDepth 100000 in
theorem partsOK_bool_1 (b : Nat) (k n : Int) (t : ByteArray) (pn : Option Addr) (nl cn : Nat) (w : World) (h0 : w.cell? ⟨b, 0, none⟩ = some (.int .i64 k)) (h1 : w.cell? ⟨b, 1, none⟩ = some (.int .i64 n)) (h2 : w.cell? ⟨b, 2, none⟩ = some (.string t)) (h3 : w.cell? ⟨b, 3, none⟩ = some (.slice pn nl cn)) (hk : k = 3) (hn : nl = 0) (ht : t.toList = []) (h : n = 1) :
    Calls Tryd.prog 123 #[.pointer (some ⟨b, 0, none⟩)] w fun e w' => e = .returned (.bool true) ∧ w' = w := by
  subst hk
  subst h
  have e3 : ¬ (0 : Int) < (nl : Int) := by omega
  clear hn
  go_enter Tryd.func123, Tryd.ntmps123
  go_wp2
  go_ret
  exact ⟨rfl, rfl⟩

set_option maxHeartbeats 1000000 in
set_option maxRecDepth 100000 in
theorem partsOK_bool_no (b : Nat) (k n : Int) (t : ByteArray) (pn : Option Addr) (nl cn : Nat) (w : World) (h0 : w.cell? ⟨b, 0, none⟩ = some (.int .i64 k)) (h1 : w.cell? ⟨b, 1, none⟩ = some (.int .i64 n)) (h2 : w.cell? ⟨b, 2, none⟩ = some (.string t)) (h3 : w.cell? ⟨b, 3, none⟩ = some (.slice pn nl cn)) (hk : k = 3) (hn : nl = 0) (ht : t.toList = []) (h : n ≠ 0) (h' : n ≠ 1) :
    Calls Tryd.prog 123 #[.pointer (some ⟨b, 0, none⟩)] w fun e w' => e = .returned (.bool false) ∧ w' = w := by
  subst hk
  have z0 : (n == 0) = false := beq_eq_false_iff_ne.2 h
  have z1 : (n == 1) = false := beq_eq_false_iff_ne.2 h'
  have e3 : ¬ (0 : Int) < (nl : Int) := by omega
  clear hn
  go_enter Tryd.func123, Tryd.ntmps123
  go_wp2
  go_ret
  exact ⟨rfl, rfl⟩

set_option maxHeartbeats 1000000 in
set_option maxRecDepth 100000 in
theorem partsOK_quoted (b : Nat) (k n : Int) (t : ByteArray) (pn : Option Addr) (nl cn : Nat) (w : World) (h0 : w.cell? ⟨b, 0, none⟩ = some (.int .i64 k)) (h1 : w.cell? ⟨b, 1, none⟩ = some (.int .i64 n)) (h2 : w.cell? ⟨b, 2, none⟩ = some (.string t)) (h3 : w.cell? ⟨b, 3, none⟩ = some (.slice pn nl cn)) (hk : k = 2) (hn : nl = 0) (hz : n = 0) (hs : t.size ≤ maxLen) :
    Calls Tryd.prog 123 #[.pointer (some ⟨b, 0, none⟩)] w fun e w' => e = .returned (.bool (plainB t.data.toList)) ∧ w' = w := by
  subst hk
  subst hz
  have e3 : ¬ (0 : Int) < (nl : Int) := by omega
  clear hn
  go_enter Tryd.func123, Tryd.ntmps123
  go_wp2_with fail
  refine (quotable_any t _ hs).mono ?_
  rintro e w' ⟨rfl, rfl⟩
  go_wp2
  go_ret
  exact ⟨rfl, rfl⟩

set_option maxHeartbeats 1000000 in
set_option maxRecDepth 100000 in
theorem partsOK_unary (b : Nat) (k n : Int) (t : ByteArray) (pn : Option Addr) (nl cn : Nat) (w : World) (h0 : w.cell? ⟨b, 0, none⟩ = some (.int .i64 k)) (h1 : w.cell? ⟨b, 1, none⟩ = some (.int .i64 n)) (h2 : w.cell? ⟨b, 2, none⟩ = some (.string t)) (h3 : w.cell? ⟨b, 3, none⟩ = some (.slice pn nl cn)) (hk : k = 6) (hn : nl = 0) (hz : n = 0)  :
    Calls Tryd.prog 123 #[.pointer (some ⟨b, 0, none⟩)] w fun e w' => e = .returned (.bool ((t.data.toList == [33]) || (t.data.toList == [45]))) ∧ w' = w := by
  subst hk
  subst hz
  have e3 : ¬ (0 : Int) < (nl : Int) := by omega
  clear hn
  go_enter Tryd.func123, Tryd.ntmps123
  go_wp2_with fail
  refine (isSignAhead_any t _).mono ?_
  rintro e w' ⟨rfl, rfl⟩
  go_wp2
  go_ret
  exact ⟨rfl, rfl⟩

set_option maxHeartbeats 1000000 in
set_option maxRecDepth 100000 in
theorem isSignOfBinary_any (t : ByteArray) (w : World) : Calls Tryd.prog 153 #[.string t] w fun e w' => e = .returned (.bool (opB t.data.toList)) ∧ w' = w := by
  rw [← close_op]
  go_enter Tryd.func153, Tryd.ntmps153
  go_wp2_with fail
  refine (closenessOf_any t _).mono ?_
  rintro e w' ⟨rfl, rfl⟩
  go_wp2_with fail
  refine (closenessOf_any ⟨#[38, 38]⟩ _).mono ?_
  rintro e w' ⟨rfl, rfl⟩
  rw [show closeL (⟨#[38, 38]⟩ : ByteArray).data.toList = 2 from rfl]
  go_wp2
  go_ret
  exact ⟨rfl, rfl⟩

set_option maxHeartbeats 1000000 in
set_option maxRecDepth 100000 in
theorem partsOK_binary (b : Nat) (k n : Int) (t : ByteArray) (pn : Option Addr) (nl cn : Nat) (w : World) (h0 : w.cell? ⟨b, 0, none⟩ = some (.int .i64 k)) (h1 : w.cell? ⟨b, 1, none⟩ = some (.int .i64 n)) (h2 : w.cell? ⟨b, 2, none⟩ = some (.string t)) (h3 : w.cell? ⟨b, 3, none⟩ = some (.slice pn nl cn)) (hk : k = 7) (hn : nl = 0) (hz : n = 0)  :
    Calls Tryd.prog 123 #[.pointer (some ⟨b, 0, none⟩)] w fun e w' => e = .returned (.bool (opB t.data.toList)) ∧ w' = w := by
  subst hk
  subst hz
  have e3 : ¬ (0 : Int) < (nl : Int) := by omega
  clear hn
  go_enter Tryd.func123, Tryd.ntmps123
  go_wp2_with fail
  refine (isSignOfBinary_any t _).mono ?_
  rintro e w' ⟨rfl, rfl⟩
  go_wp2
  go_ret
  exact ⟨rfl, rfl⟩

end Go.Proofs.YtbipgmikgokfpaaDoor
