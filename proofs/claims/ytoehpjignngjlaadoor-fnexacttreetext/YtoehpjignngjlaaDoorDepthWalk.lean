/- How deep a tree is: code and specification. -/
import Derived.Test.YtoehpjignngjlaaDoorGrowWalk3
import Derived.Test.YtoehpjignngjlaaDoorSWalk3
namespace Go.Proofs.YtoehpjignngjlaaDoor
open Go.RowKit Go.Joins
set_option linter.unusedVariables false

theorem Vis.depth_le {ns : List TN} {ks : List Int} {l : List Nat} {d : Nat} (h : Vis ns ks l d) : d ≤ l.length := by
  induction h with
  | nil => simp
  | cons j x ks l1 l2 d1 d2 h0 hx h1 h2 ih1 ih2 => simp; omega
/-- what a call that measures depth answers -/
def DepthRes (ns : List TN) (root r c : Int) : Prop := (¬ TreeOkP ns root ∧ r = 0 ∧ c = 1) ∨ ∃ l d, TreeP ns root l d ∧ r = ((d : Nat) : Int) ∧ c = 0
theorem DepthRes.det {ns : List TN} {root r c r' c' : Int} (h : DepthRes ns root r c) (h' : DepthRes ns root r' c') : r = r' ∧ c = c' := by
  rcases h with ⟨a, rfl, rfl⟩ | ⟨l, d, a, rfl, rfl⟩ <;> rcases h' with ⟨a', rfl, rfl⟩ | ⟨l', d', a', rfl, rfl⟩
  · exact ⟨rfl, rfl⟩
  · exact absurd ⟨_, _, a'⟩ a
  · exact absurd ⟨_, _, a⟩ a'
  · obtain ⟨_, rfl⟩ := a.2.1.det a'.2.1
    exact ⟨rfl, rfl⟩

theorem Vis.take_succ {ns : List TN} {ks : List Int} {m : Nat} {j : Int} {l l' : List Nat} {d d' : Nat} (h : Vis ns (ks.take m) l d) (hj : ks[m]? = some j) (h' : Vis ns [j] l' d') : Vis ns (ks.take (m + 1)) (l ++ l') (max d d') := by
  obtain ⟨hm, e⟩ := List.getElem?_eq_some_iff.1 hj
  rw [List.take_succ_eq_append_getElem hm, e]
  exact h.append h'
theorem Vis.at {ns : List TN} {ks : List Int} {l : List Nat} {d m : Nat} {j : Int} (h : Vis ns ks l d) (hj : ks[m]? = some j) : ∃ l' d', Vis ns [j] l' d' ∧ (∀ y ∈ l', y ∈ l) ∧ d' ≤ d ∧ 0 ≤ j ∧ l'.length ≤ l.length := by
  obtain ⟨hm, e⟩ := List.getElem?_eq_some_iff.1 hj
  have e1 : ks = ks.take m ++ ([j] ++ ks.drop (m + 1)) := by
    rw [← e]
    simp
  rw [e1] at h
  obtain ⟨a1, a2, b1, b2, v1, v2, rfl, rfl⟩ := h.split
  obtain ⟨c1, c2, f1, f2, u1, u2, rfl, rfl⟩ := v2.split
  refine ⟨c1, f1, u1, fun y hy => by simp [hy], by omega, (u1.tops j (by simp)).1, by simp; omega⟩

end Go.Proofs.YtoehpjignngjlaaDoor
