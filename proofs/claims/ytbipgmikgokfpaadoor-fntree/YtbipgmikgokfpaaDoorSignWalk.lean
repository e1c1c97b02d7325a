/- A sign of an operation, the specification's side: 'l01Op'. -/
import Derived.Test.YtbipgmikgokfpaaDoorValueWalk
namespace Go.Proofs.YtbipgmikgokfpaaDoor
open Go.RowKit
set_option linter.unusedVariables false

def isOp (l : List UInt8) : Prop := l = [60] ∨ l = [43] ∨ l = [45] ∨ l = [42] ∨ l = [47] ∨ l = [37]
def isOp7 (l : List UInt8) : Prop := l = [61, 61] ∨ isOp l

theorem l01Op_add (op : ByteArray) (w : World) (h : op.toList = [43]) :
    Calls Tryd.prog 149 #[.string op] w fun e w' => e = .returned (.bool true) ∧ w' = w := by
  go_enter Tryd.func149, Tryd.ntmps149
  go_wp2
  go_ret
  exact ⟨rfl, rfl⟩

theorem l01Op_sub (op : ByteArray) (w : World) (h : op.toList = [45]) :
    Calls Tryd.prog 149 #[.string op] w fun e w' => e = .returned (.bool true) ∧ w' = w := by
  go_enter Tryd.func149, Tryd.ntmps149
  go_wp2
  go_ret
  exact ⟨rfl, rfl⟩

theorem l01Op_mul (op : ByteArray) (w : World) (h : op.toList = [42]) :
    Calls Tryd.prog 149 #[.string op] w fun e w' => e = .returned (.bool true) ∧ w' = w := by
  go_enter Tryd.func149, Tryd.ntmps149
  go_wp2
  go_ret
  exact ⟨rfl, rfl⟩

theorem l01Op_quo (op : ByteArray) (w : World) (h : op.toList = [47]) :
    Calls Tryd.prog 149 #[.string op] w fun e w' => e = .returned (.bool true) ∧ w' = w := by
  go_enter Tryd.func149, Tryd.ntmps149
  go_wp2
  go_ret
  exact ⟨rfl, rfl⟩

theorem l01Op_rem (op : ByteArray) (w : World) (h : op.toList = [37]) :
    Calls Tryd.prog 149 #[.string op] w fun e w' => e = .returned (.bool true) ∧ w' = w := by
  go_enter Tryd.func149, Tryd.ntmps149
  go_wp2
  go_ret
  exact ⟨rfl, rfl⟩

theorem l01Op_lt (op : ByteArray) (w : World) (h : op.toList = [60]) :
    Calls Tryd.prog 149 #[.string op] w fun e w' => e = .returned (.bool true) ∧ w' = w := by
  go_enter Tryd.func149, Tryd.ntmps149
  go_wp2
  go_ret
  exact ⟨rfl, rfl⟩

theorem l01Op_eq (op : ByteArray) (w : World) (h : op.toList = [61, 61]) :
    Calls Tryd.prog 149 #[.string op] w fun e w' => e = .returned (.bool true) ∧ w' = w := by
  go_enter Tryd.func149, Tryd.ntmps149
  go_wp2
  go_ret
  exact ⟨rfl, rfl⟩

theorem l01Op_none (op : ByteArray) (w : World) (hadd : (op.toList == [43]) = false) (hsub : (op.toList == [45]) = false) (hmul : (op.toList == [42]) = false) (hquo : (op.toList == [47]) = false) (hrem : (op.toList == [37]) = false) (hlt : (op.toList == [60]) = false) (heq : (op.toList == [61, 61]) = false) :
    Calls Tryd.prog 149 #[.string op] w fun e w' => e = .returned (.bool false) ∧ w' = w := by
  go_enter Tryd.func149, Tryd.ntmps149
  go_wp2
  go_ret
  exact ⟨rfl, rfl⟩

theorem l01Op_yes (op : ByteArray) (w : World) (h : isOp7 op.toList) :
    Calls Tryd.prog 149 #[.string op] w fun e w' => e = .returned (.bool true) ∧ w' = w := by
  rcases h with h | h | h | h | h | h | h
  · exact l01Op_eq op w h
  · exact l01Op_lt op w h
  · exact l01Op_add op w h
  · exact l01Op_sub op w h
  · exact l01Op_mul op w h
  · exact l01Op_quo op w h
  · exact l01Op_rem op w h
theorem l01Op_no (op : ByteArray) (w : World) (h : ¬ isOp7 op.toList) :
    Calls Tryd.prog 149 #[.string op] w fun e w' => e = .returned (.bool false) ∧ w' = w := by
  simp [isOp7, isOp] at h
  obtain ⟨h0, h1, h2, h3, h4, h5, h6⟩ := h
  exact l01Op_none op w (beq_eq_false_iff_ne.2 h2) (beq_eq_false_iff_ne.2 h3) (beq_eq_false_iff_ne.2 h4) (beq_eq_false_iff_ne.2 h5) (beq_eq_false_iff_ne.2 h6) (beq_eq_false_iff_ne.2 h1) (beq_eq_false_iff_ne.2 h0)

end Go.Proofs.YtbipgmikgokfpaaDoor
