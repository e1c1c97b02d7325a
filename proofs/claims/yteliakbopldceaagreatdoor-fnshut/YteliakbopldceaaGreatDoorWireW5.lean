/- Blanks left out, lines and words: code and specification. -/
import Derived.Test.YteliakbopldceaaGreatDoorWireW4
namespace Go.Proofs.YteliakbopldceaaGreatDoor
open Go.RowKit Go.Shelf
set_option linter.unusedVariables false


theorem strSplit_any (s sep : ByteArray) (w : World) (hs : s.size ≤ 1000000) (h1 : 1 ≤ sep.size) (hm : MaxL w) :
    Calls Tryz.prog 48 #[.string s, .string sep] w fun e w' => ∃ v, e = .returned v ∧ Txt w' w.heap.size v (pieces sep s) ∧ Below w.heap.size w w' := by
  obtain ⟨m, hm⟩ := hm
  refine (Any.strings_Split Tryz.lays146 (by kernel_rfl) s sep m w (by omega) hm h1).mono ?_
  rintro e w1 ⟨rfl, rfl⟩
  refine ⟨_, rfl, ?_, qx_alloc _ _⟩
  have hl := Lib.splitB_all sep h1 0 _ s rfl
  have := Txt.lit w w.heap.size (pieces sep s) (Nat.le_refl _) (by
    have := pieces_many sep h1 _ s (Nat.le_refl _)
    unfold maxLen; omega)
  unfold pieces at *
  rw [hl] at this
  exact this
theorem strTrim_any (s : ByteArray) (w : World) (hs : s.size ≤ 1000000) :
    Calls Tryz.prog 51 #[.string s, .string ⟨#[32]⟩] w fun e w' => e = .returned (.string (trimS' s)) ∧ Below w.heap.size w w' := by
  refine (Any.strings_Trim_one Tryz.lays160 s 32 (by decide) w (by omega)).mono ?_
  rintro e w1 ⟨rfl, h⟩
  rcases h with rfl | rfl
  · exact ⟨rfl, Below.refl _ _⟩
  · exact ⟨rfl, qx_drew (Below.refl _ _)⟩

theorem Txt.lit0 (w : World) (base : Nat) (h : base ≤ w.heap.size) : Txt (w.alloc (.cells #[] 9)) base (.slice (some ⟨w.heap.size, 0, none⟩) 0 0) [] := Txt.lit w base [] h (by decide)


/-- so far: from where, up to where, and what is cut off -/
def CutTo (s : ByteArray) (c : UInt8) (f i : Nat) (acc : List ByteArray) : Prop := PiecesTo ⟨#[c]⟩ s acc (s.extract f s.size) ∧ f ≤ i ∧ i ≤ s.size ∧ ∀ j (h : j < s.size), f ≤ j → j < i → s[j] ≠ c
theorem CutTo.zero (s : ByteArray) (c : UInt8) : CutTo s c 0 0 [] := by
  refine ⟨?_, Nat.le_refl _, Nat.zero_le _, fun j _ _ h => absurd h (Nat.not_lt_zero _)⟩
  rw [ByteArray.extract_zero_size]
  exact PiecesTo.zero _ _
theorem CutTo.no {s : ByteArray} {c : UInt8} {f i : Nat} {acc : List ByteArray} (h : CutTo s c f i acc) (hi : i < s.size) (hc : s[i] ≠ c) : CutTo s c f (i + 1) acc := by
  refine ⟨h.1, by have := h.2.1; omega, hi, fun j hj hf hji => ?_⟩
  by_cases e : j = i
  · subst e; exact hc
  · exact h.2.2.2 j hj hf (by omega)
theorem CutTo.yes {s : ByteArray} {c : UInt8} {f i : Nat} {acc : List ByteArray} (h : CutTo s c f i acc) (hi : i < s.size) (hc : s[i] = c) : CutTo s c (i + 1) (i + 1) (acc ++ [s.extract f i]) := by
  have hx := byte_first h.2.1 hi hc h.2.2.2
  have hz1 : (⟨#[c]⟩ : ByteArray).size = 1 := rfl
  have hfi := h.2.1
  have hp := PiecesTo.hit (sep := ⟨#[c]⟩) (by rw [hz1]; exact Nat.le_refl 1) h.1 hx (by rw [ByteArray.size_extract, hz1]; omega)
  refine ⟨?_, Nat.le_refl _, hi, fun j _ h1 h2 => absurd h1 (by omega)⟩
  rw [hz1, ByteArray.extract_extract, ByteArray.extract_extract, ByteArray.size_extract] at hp
  have e1 : s.extract (f + 0) (min (f + (i - f)) s.size) = s.extract f i := by congr 1 <;> omega
  have e2 : s.extract (f + (i - f + 1)) (min (f + (min s.size s.size - f)) s.size) = s.extract (i + 1) s.size := by congr 1 <;> omega
  rw [e1, e2] at hp
  exact hp
theorem CutTo.done {s : ByteArray} {c : UInt8} {f i : Nat} {acc : List ByteArray} (h : CutTo s c f i acc) (hi : s.size ≤ i) : acc ++ [s.extract f s.size] = pieces ⟨#[c]⟩ s :=
  h.1.miss (byte_none fun j hj hf => h.2.2.2 j hj hf (by omega))

theorem CutTo.len {s : ByteArray} {c : UInt8} {f i : Nat} {acc : List ByteArray} (h : CutTo s c f i acc) : acc.length ≤ s.size := by have := h.1.2; omega


end Go.Proofs.YteliakbopldceaaGreatDoor
