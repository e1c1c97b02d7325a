/- Texts that are alike, or not, in the forms of a walk. -/
import Derived.WalkKit
import Derived.Laws.Strings
import Derived.Test.YtacklokojchopaaDoorRows
namespace Go.Proofs.YtacklokojchopaaDoor
set_option linter.unusedVariables false

theorem ba_list {a b : ByteArray} (h : a.data.toList = b.data.toList) : a = b := by
  apply ByteArray.ext
  exact Array.toList_inj.1 h
theorem ba_self (a : ByteArray) : (a == a) = true := by
  cases a
  rename_i d
  show (d == d) = true
  simp
theorem ba_of {a b : ByteArray} (h : (a == b) = true) : a = b := by
  have : a.data == b.data := by cases a; cases b; exact h
  apply ByteArray.ext
  exact eq_of_beq this
theorem ba_ne {a b : ByteArray} (h : a ≠ b) : (a == b) = false := by
  cases hb : (a == b)
  · rfl
  · exact absurd (ba_of hb) h
theorem ba_nself (a : ByteArray) : (a != a) = false := by simp [bne, ba_self]
theorem ba_nne {a b : ByteArray} (h : a ≠ b) : (a != b) = true := by simp [bne, ba_ne h]
theorem bl_self (a : ByteArray) : (a.toList == a.toList) = true := by simp
theorem bl_ne {a b : ByteArray} (h : a ≠ b) : (a.toList == b.toList) = false := beq_eq_false_iff_ne.2 fun e => h (ba_list (by rw [← ByteArray.toList_eq, ← ByteArray.toList_eq, e]))
theorem bl_nself (a : ByteArray) : (a.toList != a.toList) = false := by simp [bne]
theorem bl_nne {a b : ByteArray} (h : a ≠ b) : (a.toList != b.toList) = true := by simp [bne, bl_ne h]
theorem bl_not {a b : ByteArray} (h : a ≠ b) : ¬ a.toList = b.toList := fun e => h (ba_list (by rw [← ByteArray.toList_eq, ← ByteArray.toList_eq, e]))

end Go.Proofs.YtacklokojchopaaDoor
