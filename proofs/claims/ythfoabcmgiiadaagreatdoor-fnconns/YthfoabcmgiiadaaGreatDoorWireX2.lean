/- Lines of a name: both sides and the law. -/
import Derived.Test.YthfoabcmgiiadaaGreatDoorWireX1
namespace Go.Proofs.YthfoabcmgiiadaaGreatDoor
open Go.RowKit Go.Shelf Go.Joins
set_option linter.unusedVariables false

theorem hdrR_long {s n : ByteArray} (h : 65536 < s.size ∨ 65536 < n.size) : hdrR s n = (⟨#[]⟩, 2) := if_pos h
theorem hdrR_bad {s n : ByteArray} (h1 : s.size ≤ 65536) (h2 : n.size ≤ 65536) (h : (reqR s).e ≠ 0) : hdrR s n = (⟨#[]⟩, (reqR s).e) := by
  unfold hdrR; rw [if_neg (by omega), if_pos h]
theorem find_yes {α : Type} {p : α → Bool} : ∀ {r : List α} {j : Nat} (hj : j < r.length), (∀ i (hi : i < r.length), i < j → p r[i] = false) → p r[j] = true → r.find? p = some r[j]
  | a :: r, 0, _, _, h => by simpa using List.find?_cons_of_pos h
  | a :: r, j + 1, hj, hn, h => by
    rw [List.find?_cons_of_neg (by have := hn 0 (by simp) (by omega); simpa using this)]
    exact find_yes (by simpa using hj) (fun i hi hij => by have := hn (i + 1) (by simpa using hi) (by omega); simpa using this) (by simpa using h)
theorem find_no {α : Type} {p : α → Bool} {r : List α} (hn : ∀ i (hi : i < r.length), p r[i] = false) : r.find? p = none := by
  rw [List.find?_eq_none]
  intro x hx
  obtain ⟨i, hi, rfl⟩ := List.mem_iff_getElem.1 hx
  rw [hn i hi]; simp
theorem hdrR_yes {s n : ByteArray} (h1 : s.size ≤ 65536) (h2 : n.size ≤ 65536) (h : (reqR s).e = 0) {j : Nat} (hj : j < (linesOf s).tail.length) (hn : ∀ i (hi : i < (linesOf s).tail.length), i < j → alikeB (hName (linesOf s).tail[i]) n = false) (hy : alikeB (hName (linesOf s).tail[j]) n = true) : hdrR s n = (hVal (linesOf s).tail[j], 0) := by
  unfold hdrR; rw [if_neg (by omega), if_neg (by rw [h]; simp), find_yes hj hn hy]
theorem hdrR_no {s n : ByteArray} (h1 : s.size ≤ 65536) (h2 : n.size ≤ 65536) (h : (reqR s).e = 0) (hn : ∀ i (hi : i < (linesOf s).tail.length), alikeB (hName (linesOf s).tail[i]) n = false) : hdrR s n = (⟨#[]⟩, 5) := by
  unfold hdrR; rw [if_neg (by omega), if_neg (by rw [h]; simp), find_no hn]
/-- what a read without a fault tells of the text -/
theorem reqR_zero {s : ByteArray} (h : (reqR s).e = 0) : s.size ≤ 65536 ∧ ∃ k : Nat, Lib.indexB s crlf2S = k ∧ k ≤ 116 ∧ HdsOk (linesOf s).tail = true := by
  by_cases h0 : 65536 < s.size
  · rw [reqR_long h0] at h; exact absurd h (by decide)
  refine ⟨by omega, ?_⟩
  rcases Lib.indexB_cases s crlf2S with hi | ⟨k, hi, _⟩
  · by_cases h1 : 120 < s.size
    · rw [reqR_over (by omega) hi h1] at h; exact absurd h (by decide)
    · rw [reqR_more (by omega) hi (by omega)] at h; exact absurd h (by decide)
  · by_cases h1 : 116 < k
    · rw [reqR_far (by omega) hi h1] at h; exact absurd h (by decide)
    obtain ⟨l, r, hlr⟩ := linesOf_cons s
    refine ⟨k, hi, by omega, ?_⟩
    rw [hlr]
    show HdsOk r = true
    by_cases hf : fstC l = 0
    · cases hr : HdsOk r
      · rw [reqR_line (by omega) hi (by omega) hlr hf hr] at h; exact absurd h (by decide)
      · rfl
    · rw [reqR_first (by omega) hi (by omega) hlr rfl hf] at h; exact absurd h hf


/-- a line that may stand there: where its colon is -/
theorem hOk_colon {u : ByteArray} (h : hOk u = true) : ∃ k : Nat, 1 ≤ k ∧ k + 1 ≤ u.size ∧ Lib.indexB u colonS = k ∧ hName u = u.extract 0 k ∧ hVal u = trimS' (u.extract (k + 1) u.size) := by
  rcases Lib.indexB_cases u colonS with hi | ⟨k, hi, hr⟩
  · rw [hOk_none hi] at h; cases h
  · have hcz : colonS.size = 1 := rfl
    rw [hcz] at hr
    by_cases h0 : k = 0
    · subst h0
      rw [hOk_zero hi] at h; cases h
    · obtain ⟨h1, h2, _⟩ := cut_hit hi
      refine ⟨k, by omega, hr, hi, h1, ?_⟩
      rw [hVal_is, h2, hcz]
theorem hds_at {r : List ByteArray} (h : HdsOk r = true) {j : Nat} (hj : j < r.length) : hOk r[j] = true := List.all_eq_true.1 h _ (List.getElem_mem hj)



end Go.Proofs.YthfoabcmgiiadaaGreatDoor
