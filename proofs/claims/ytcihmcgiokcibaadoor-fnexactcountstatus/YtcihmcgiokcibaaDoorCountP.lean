/- At how many places a text stands in another, if it has no beginning of its own behind it. -/
import Derived.Lib.CountLaws
import Derived.Test.YtcihmcgiokcibaaDoorRows
namespace Go.Proofs.YtcihmcgiokcibaaDoor
set_option linter.unusedVariables false

/-- at how many places below n it stands -/
def cntP (s h : List UInt8) (n : Nat) : Nat := (List.range n).countP (Lib.occAt s h)
theorem cntP_yes {s h : List UInt8} {n : Nat} (e : Lib.occAt s h n = true) : cntP s h (n + 1) = cntP s h n + 1 := by
  unfold cntP; rw [List.range_succ, List.countP_append]; simp [e]
theorem cntP_no {s h : List UInt8} {n : Nat} (e : Lib.occAt s h n = false) : cntP s h (n + 1) = cntP s h n := by
  unfold cntP; rw [List.range_succ, List.countP_append]; simp [e]
theorem cntP_add (s h : List UInt8) (a b : Nat) : cntP s h (a + b) = cntP s h a + (List.range b).countP (fun i => Lib.occAt s h (a + i)) := by
  unfold cntP
  rw [List.range_add, List.countP_append, List.countP_map]
  rfl
theorem countP_none {n : Nat} {p : Nat → Bool} (h : ∀ i, i < n → p i = false) : (List.range n).countP p = 0 := by
  rw [List.countP_eq_zero]
  intro x hx
  rw [h x (List.mem_range.1 hx)]
  simp
theorem cntP_same {s h : List UInt8} {a b : Nat} (hab : a ≤ b) (hn : ∀ i, a ≤ i → i < b → Lib.occAt s h i = false) : cntP s h b = cntP s h a := by
  rw [show b = a + (b - a) by omega, cntP_add, countP_none (fun i hi => hn _ (by omega) (by omega)), Nat.add_zero]
theorem occ_out {s h : List UInt8} (h0 : h ≠ []) {i : Nat} (hi : s.length < i + h.length) : Lib.occAt s h i = false := by
  cases ho : Lib.occAt s h i
  · rfl
  · rcases Lib.occAt_room ho with h1 | h1
    · omega
    · exact absurd h1 h0
theorem occ_drop (s h : List UInt8) (a i : Nat) : Lib.occAt (s.drop a) h i = Lib.occAt s h (a + i) := by
  unfold Lib.occAt
  rw [List.drop_drop]
/-- what stands at a place -/
theorem occ_get {s h : List UInt8} {i j : Nat} (e : Lib.occAt s h i = true) (hj : j < h.length) : s[i + j]? = some h[j] := by
  unfold Lib.occAt at e
  rw [List.isPrefixOf_iff_prefix] at e
  obtain ⟨t, ht⟩ := e
  rw [← List.getElem?_drop, ← ht, List.getElem?_append_left hj, List.getElem?_eq_getElem hj]
/-- a text that is apart from itself -/
def Apart (h : List UInt8) : Prop := ∃ c r, h = c :: r ∧ ∀ x ∈ r, x ≠ c
theorem Apart.not {s h : List UInt8} (ha : Apart h) {i j : Nat} (e : Lib.occAt s h i = true) (h1 : i < j) (h2 : j < i + h.length) : Lib.occAt s h j = false := by
  cases ho : Lib.occAt s h j
  · rfl
  · obtain ⟨c, r, rfl, hr⟩ := ha
    have e1 := occ_get e (j := j - i) (by omega)
    have e2 := occ_get ho (j := 0) (by simp)
    rw [show i + (j - i) = j by omega] at e1
    rw [Nat.add_zero, e1] at e2
    obtain ⟨m, hm⟩ : ∃ m, j - i = m + 1 := ⟨j - i - 1, by omega⟩
    have e3 := Option.some.inj e2
    simp only [hm, List.getElem_cons_succ, List.getElem_cons_zero] at e3
    exact absurd e3 (hr _ (List.getElem_mem _))
theorem Apart.ne {h : List UInt8} (ha : Apart h) : h ≠ [] := by obtain ⟨c, r, rfl, _⟩ := ha; simp
/-- where it is apart from itself all places are counted -/
theorem count_places {h : List UInt8} (ha : Apart h) : ∀ (n : Nat) (s : List UInt8), s.length ≤ n → Lib.count s h = cntP s h (s.length + 1)
  | n, s, hn => by
    by_cases hm : ∃ i, Lib.occAt s h i = true
    · have hfirst : ∃ i, Lib.occAt s h i = true ∧ ∀ j, j < i → Lib.occAt s h j = false := by
        obtain ⟨i, hi⟩ := hm
        induction i using Nat.strongRecOn with
        | _ i ih =>
          by_cases hx : ∃ j, j < i ∧ Lib.occAt s h j = true
          · obtain ⟨j, hj, hj2⟩ := hx
            exact ih j hj hj2
          · refine ⟨i, hi, fun j hj => ?_⟩
            cases ho : Lib.occAt s h j
            · rfl
            · exact absurd ⟨j, hj, ho⟩ hx
      obtain ⟨i, hi, hf⟩ := hfirst
      have hroom : i + h.length ≤ s.length := by
        rcases Lib.occAt_room hi with h1 | h1
        · exact h1
        · exact absurd h1 ha.ne
      have hl : 0 < h.length := List.length_pos_iff.2 ha.ne
      rw [Lib.count_hit ha.ne (Lib.index_first (by omega) hi hf)]
      match n, hn with
      | 0, hn => omega
      | n + 1, hn =>
        rw [count_places ha n (s.drop (i + h.length)) (by rw [List.length_drop]; omega)]
        rw [show s.length + 1 = (i + h.length) + (s.length - (i + h.length) + 1) by omega, cntP_add s h (i + h.length)]
        rw [show cntP s h (i + h.length) = 1 by
          rw [cntP_same (a := i + 1) (by omega) (fun j h1 h2 => ha.not hi (by omega) h2), cntP_yes hi, cntP_same (a := 0) (by omega) (fun j _ h2 => hf j h2)]
          rfl]
        congr 1
        unfold cntP
        rw [List.length_drop]
        congr 1
        funext j
        exact occ_drop s h _ j
    · have hno : ∀ j, Lib.occAt s h j = false := fun j => by
        cases ho : Lib.occAt s h j
        · rfl
        · exact absurd ⟨j, ho⟩ hm
      rw [Lib.count_miss (Lib.index_none fun j _ => hno j)]
      exact (countP_none fun j _ => hno j).symm

end Go.Proofs.YtcihmcgiokcibaaDoor
