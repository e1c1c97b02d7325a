/- Paths, words of statuses, the search for a text in a text: code and specification. -/
import Derived.Test.YtcihmcgiokcibaaDoorWireL
import Derived.Test.YtcihmcgiokcibaaDoorByteEq0
import Derived.Laws.Strings
namespace Go.Proofs.YtcihmcgiokcibaaDoor
open Go.RowKit
set_option linter.unusedVariables false




theorem pathC_not {c : Int} (h1 : letB c = false) (h2 : digB c = false) (h3 : (c == 47) = false) (h4 : (c == 46) = false) (h5 : (c == 45) = false) : pathC c = false := by
  unfold pathC; rw [h1, h2]; simp at *; omega


theorem occ_eq (s sub : ByteArray) (k : Nat) (h : k + sub.size ≤ s.size) : (s.extract k (k + sub.size) = sub) ↔ Lib.occAt s.data.toList sub.data.toList k = true := by
  rw [Lib.occAt_iff_take _ _ _ (by rw [← Lib.size_eq, ← Lib.size_eq]; exact h), beq_iff_eq, Lib.extract_eq]
  rw [show k + sub.size - k = sub.data.toList.length by rw [← Lib.size_eq]; omega]
  constructor
  · intro e
    have := congrArg (fun t : ByteArray => t.data.toList) e
    simpa using this
  · intro e
    rw [e]

theorem index_out {s sub : ByteArray} {k : Nat} (h1 : 1 ≤ sub.size) (hlt : ¬ k + sub.size ≤ s.size) (hno : ∀ j, j < k → Lib.occAt s.data.toList sub.data.toList j = false) : Lib.indexB s sub = -1 :=
  Lib.index_none fun j hj => by
    by_cases ej : j < k
    · exact hno j ej
    · cases ho : Lib.occAt s.data.toList sub.data.toList j
      · rfl
      · rcases Lib.occAt_room ho with h | h
        · rw [← Lib.size_eq, ← Lib.size_eq] at h; omega
        · have := congrArg List.length h
          rw [← Lib.size_eq] at this
          have h0 : sub.size = 0 := this
          omega


end Go.Proofs.YtcihmcgiokcibaaDoor
