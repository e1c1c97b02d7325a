/- What names are: 'impl.NameOK' and 'spec.NameOK' both answer 'nameB', and leave the world as it was. -/
import Derived.Test.YtckdacbopejdmaaLetters
namespace Go.Proofs.Ytckdacbopejdmaa
open Go.RowKit

/-- byte i of a name may stand there -/
def namePart (i : Nat) (c : Int) : Bool := letB c || (decide (0 < i) && digB c)
/-- the bytes below k may stand where they stand -/
def nameTo (s : ByteArray) (k : Nat) : Prop := ∀ i (h : i < s.size), i < k → namePart i (s[i].toNat : Int) = true
def nameB (s : ByteArray) : Bool := decide (1 ≤ s.size ∧ s.size ≤ 40 ∧ ∀ i (h : i < s.size), namePart i (s[i].toNat : Int) = true)

theorem nameB_yes (s : ByteArray) (h0 : 1 ≤ s.size) (h1 : s.size ≤ 40) (k : Nat) (hk : s.size ≤ k) (h : nameTo s k) : nameB s = true := by
  unfold nameB
  rw [decide_eq_true_iff]
  exact ⟨h0, h1, fun i hi => h i hi (by omega)⟩
theorem nameB_no (s : ByteArray) (k : Nat) (hk : k < s.size) (h : namePart k (s[k].toNat : Int) = false) : nameB s = false := by
  unfold nameB
  rw [decide_eq_false_iff_not]
  rintro ⟨_, _, hall⟩
  rw [hall k hk] at h
  cases h
theorem nameB_size (s : ByteArray) (h : s.size < 1 ∨ 40 < s.size) : nameB s = false := by
  unfold nameB
  rw [decide_eq_false_iff_not]
  rintro ⟨_, _, _⟩
  omega
theorem nameTo_succ (s : ByteArray) (k : Nat) (hk : k < s.size) (h : nameTo s k) (hp : namePart k (s[k].toNat : Int) = true) : nameTo s (k + 1) := by
  intro i hi hik
  by_cases e : i = k
  · subst e; exact hp
  · exact h i hi (by omega)

end Go.Proofs.Ytckdacbopejdmaa
