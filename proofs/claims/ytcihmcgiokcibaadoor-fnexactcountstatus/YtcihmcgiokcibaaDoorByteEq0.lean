/- Texts that are alike, or not, in the forms of a walk. -/
import Derived.WalkKit
import Derived.Laws.Strings
import Derived.Test.YtcihmcgiokcibaaDoorRows
namespace Go.Proofs.YtcihmcgiokcibaaDoor
set_option linter.unusedVariables false

theorem qa_list {a b : ByteArray} (h : a.data.toList = b.data.toList) : a = b := by
  apply ByteArray.ext
  exact Array.toList_inj.1 h
theorem qa_self (a : ByteArray) : (a == a) = true := by
  cases a
  rename_i d
  show (d == d) = true
  simp
theorem qa_of {a b : ByteArray} (h : (a == b) = true) : a = b := by
  have : a.data == b.data := by cases a; cases b; exact h
  apply ByteArray.ext
  exact eq_of_beq this
theorem qa_ne {a b : ByteArray} (h : a ≠ b) : (a == b) = false := by
  cases hb : (a == b)
  · rfl
  · exact absurd (qa_of hb) h
theorem qa_nself (a : ByteArray) : (a != a) = false := by simp [bne, qa_self]
theorem qa_nne {a b : ByteArray} (h : a ≠ b) : (a != b) = true := by simp [bne, qa_ne h]
theorem ql_self (a : ByteArray) : (a.toList == a.toList) = true := by simp
theorem ql_ne {a b : ByteArray} (h : a ≠ b) : (a.toList == b.toList) = false := beq_eq_false_iff_ne.2 fun e => h (qa_list (by rw [← ByteArray.toList_eq, ← ByteArray.toList_eq, e]))
theorem ql_nself (a : ByteArray) : (a.toList != a.toList) = false := by simp [bne]
theorem ql_nne {a b : ByteArray} (h : a ≠ b) : (a.toList != b.toList) = true := by simp [bne, ql_ne h]
theorem ql_not {a b : ByteArray} (h : a ≠ b) : ¬ a.toList = b.toList := fun e => h (qa_list (by rw [← ByteArray.toList_eq, ← ByteArray.toList_eq, e]))

end Go.Proofs.YtcihmcgiokcibaaDoor
