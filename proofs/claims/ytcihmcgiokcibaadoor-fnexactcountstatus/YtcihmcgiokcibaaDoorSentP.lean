/- What SentTo answers, as a function; the specification's SentTo. -/
import Derived.Test.YtcihmcgiokcibaaDoorSentMem
namespace Go.Proofs.YtcihmcgiokcibaaDoor
open Go.RowKit Go.Joins
set_option linter.unusedVariables false

def catS (c : Int) (vs : List SV) : ByteArray := vs.foldl (fun o v => if v.c = c then o ++ v.t else o) ⟨#[]⟩
def bigS (v : SV) : Bool := decide (4000 < v.t.size)
theorem catS_snoc (c : Int) (l : List SV) (v : SV) : catS c (l ++ [v]) = if v.c = c then catS c l ++ v.t else catS c l := by simp [catS]
theorem catS_yes {c : Int} {vs : List SV} {k : Nat} (h : k < vs.length) (e : vs[k].c = c) : catS c (vs.take (k + 1)) = catS c (vs.take k) ++ vs[k].t := by
  rw [List.take_succ_eq_append_getElem h, catS_snoc, if_pos e]
theorem catS_no {c : Int} {vs : List SV} {k : Nat} (h : k < vs.length) (e : ¬ vs[k].c = c) : catS c (vs.take (k + 1)) = catS c (vs.take k) := by
  rw [List.take_succ_eq_append_getElem h, catS_snoc, if_neg e]
theorem size_appS (a b : ByteArray) : (a ++ b).size = a.size + b.size := by simp [ByteArray.size_append]
theorem any_takeS {vs : List SV} {k : Nat} (h : k < vs.length) (h0 : (vs.take k).any bigS = false) (h1 : ¬ 4000 < vs[k].t.size) : (vs.take (k + 1)).any bigS = false := by
  rw [List.take_succ_eq_append_getElem h, List.any_append, h0]
  simp [bigS]
  omega
theorem catS_size {c : Int} {vs : List SV} (k : Nat) (hb : (vs.take k).any bigS = false) (hk : k ≤ vs.length) : (catS c (vs.take k)).size ≤ 4000 * k := by
  induction k with
  | zero => simp [catS, ByteArray.size]
  | succ k ih =>
    have hlt : k < vs.length := by omega
    have h0 := hb
    rw [List.take_succ_eq_append_getElem hlt, List.any_append] at h0
    simp [bigS] at h0
    obtain ⟨h1, h2⟩ := h0
    have ih' := ih (by
      rw [List.any_eq_false]
      intro x hx
      have := h1 x hx
      simp [bigS]; omega) (by omega)
    by_cases e : vs[k].c = c
    · rw [catS_yes hlt e, size_appS]; omega
    · rw [catS_no hlt e]; omega
/-- what SentTo answers -/
def sentR (vs : List SV) (c : Int) : ByteArray × Int := if 4096 < vs.length then (⟨#[]⟩, 2) else if 500 < vs.length ∨ vs.any bigS = true then (⟨#[]⟩, 1) else (catS c vs, 0)
theorem sentR_long {vs : List SV} {c : Int} (h : 4096 < vs.length) : sentR vs c = (⟨#[]⟩, 2) := if_pos h
theorem sentR_many {vs : List SV} {c : Int} (h : ¬ 4096 < vs.length) (h1 : 500 < vs.length) : sentR vs c = (⟨#[]⟩, 1) := by unfold sentR; rw [if_neg h, if_pos (.inl h1)]
theorem sentR_any {vs : List SV} {c : Int} (h : ¬ 4096 < vs.length) (h1 : vs.any bigS = true) : sentR vs c = (⟨#[]⟩, 1) := by unfold sentR; rw [if_neg h, if_pos (.inr h1)]
theorem sentR_big {vs : List SV} {c : Int} {k : Nat} (h : ¬ 4096 < vs.length) (hk : k < vs.length) (h1 : 4000 < vs[k].t.size) : sentR vs c = (⟨#[]⟩, 1) :=
  sentR_any h (List.any_eq_true.2 ⟨vs[k], List.getElem_mem hk, by simp [bigS]; exact h1⟩)
theorem sentR_ok {vs : List SV} {c : Int} {k : Nat} (h : ¬ 500 < vs.length) (hk : vs.length ≤ k) (h1 : (vs.take k).any bigS = false) : sentR vs c = (catS c (vs.take k), 0) := by
  rw [List.take_of_length_le hk] at h1 ⊢
  unfold sentR
  rw [if_neg (by omega), if_neg]
  rintro (h2 | h2)
  · exact h h2
  · rw [h1] at h2; cases h2
theorem ret_sent {t : ByteArray} {n : Int} {r : ByteArray × Int} (h : r = (t, n)) : Ending.returned (.tuple #[.string t, .int .i64 n]) = .returned (.tuple #[.string r.1, .int .i64 r.2]) := by rw [h]


end Go.Proofs.YtcihmcgiokcibaaDoor
