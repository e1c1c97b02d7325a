/- What is right of a node by itself, the specification's side: 'l03Node' answers 'partsB'. -/
import Derived.Test.YtbipgmikgokfpaaDoorNodeWalk2
import Derived.Test.YtbipgmikgokfpaaDoorSignWalk
import Derived.Test.YtbipgmikgokfpaaDoorUnaryWalk
namespace Go.Proofs.YtbipgmikgokfpaaDoor
open Go.RowKit Go.Joins
set_option linter.unusedVariables false

set_option maxHeartbeats 4000000 in
theorem l03Node_n (k : Int) (n : Int) (t : ByteArray) (pn : Option Addr) (names : List ByteArray) (cn : Nat) (pk : Option Addr) (kl ck : Nat) (w : World) (hk : k = 2 ∨ k = 4 ∨ k = 5 ∨ k = 6 ∨ k = 7 ∨ k = 8 ∨ k = 9 ∨ k = 10 ∨ k = 11 ∨ k = 12 ∨ k = 13 ∨ k = 14 ∨ k = 15 ∨ k = 16 ∨ k = 17 ∨ k = 18 ∨ k = 19 ∨ k = 20) (hz : n ≠ 0) :
    Calls Tryd.prog 119 #[.agg #[.int .i64 k, .int .i64 n, .string t, .slice pn names.length cn, .slice pk kl ck]] w fun e w' => e = .returned (.bool false) ∧ Below w.heap.size w w' := by
  have z1 : (n == 0) = false := beq_eq_false_iff_ne.2 hz
  have z2 : (n != 0) = true := by simp [bne, z1]
  rcases hk with rfl | rfl | rfl | rfl | rfl | rfl | rfl | rfl | rfl | rfl | rfl | rfl | rfl | rfl | rfl | rfl | rfl | rfl
  all_goals
    go_enter Tryd.func119, Tryd.ntmps119
    go_wp2
    go_ret
    exact ⟨rfl, nx_alloc _ _⟩

set_option maxHeartbeats 4000000 in
theorem l03Node_names (k : Int) (n : Int) (t : ByteArray) (pn : Option Addr) (names : List ByteArray) (cn : Nat) (pk : Option Addr) (kl ck : Nat) (w : World) (hk : k = 2 ∨ k = 4 ∨ k = 5 ∨ k = 6 ∨ k = 7 ∨ k = 8 ∨ k = 9 ∨ k = 10 ∨ k = 11 ∨ k = 12 ∨ k = 13 ∨ k = 14 ∨ k = 15 ∨ k = 16 ∨ k = 17 ∨ k = 18 ∨ k = 19) (hz : n = 0) (hn : 0 < names.length) :
    Calls Tryd.prog 119 #[.agg #[.int .i64 k, .int .i64 n, .string t, .slice pn names.length cn, .slice pk kl ck]] w fun e w' => e = .returned (.bool false) ∧ Below w.heap.size w w' := by
  subst hz
  have e3 : (0 : Int) < (names.length : Int) := by omega
  clear hn
  rcases hk with rfl | rfl | rfl | rfl | rfl | rfl | rfl | rfl | rfl | rfl | rfl | rfl | rfl | rfl | rfl | rfl | rfl
  all_goals
    go_enter Tryd.func119, Tryd.ntmps119
    go_wp2
    go_ret
    exact ⟨rfl, nx_alloc _ _⟩

end Go.Proofs.YtbipgmikgokfpaaDoor
