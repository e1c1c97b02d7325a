/- How long what is meant is; a number's digits are those of its text. -/
import Derived.Test.YtbipgmikgokfpaaDoorLexL
import Derived.Test.YtbipgmikgokfpaaDoorDigits
namespace Go.Proofs.YtbipgmikgokfpaaDoor
open Go.RowKit

theorem scanW_len : ∀ (n : Nat) (l : List UInt8), l.length ≤ n → ∀ t r, scanW l = some (t, r) → t.length + r.length < l.length := by
  intro n
  induction n with
  | zero =>
    intro l hl t r h
    obtain rfl : l = [] := List.eq_nil_of_length_eq_zero (by omega)
    simp [scanW] at h
  | succ n ih =>
    intro l hl t r h
    match l, hl with
    | [], _ => simp [scanW] at h
    | [c], _ =>
      simp only [scanW] at h
      split at h
      · simp at h; obtain ⟨rfl, rfl⟩ := h; simp
      · cases h
    | c :: d :: q, hl =>
      simp only [List.length_cons] at hl
      simp only [scanW] at h
      split at h
      · simp at h; obtain ⟨rfl, rfl⟩ := h; simp
      · split at h
        · split at h
          · obtain ⟨⟨a, b⟩, ha, hb⟩ := Option.map_eq_some_iff.1 h
            simp at hb
            obtain ⟨rfl, rfl⟩ := hb
            have := ih q (by omega) a b ha
            simp; omega
          · cases h
        · obtain ⟨⟨a, b⟩, ha, hb⟩ := Option.map_eq_some_iff.1 h
          simp at hb
          obtain ⟨rfl, rfl⟩ := hb
          have := ih (d :: q) (by simp; omega) a b ha
          simp at this ⊢; omega
theorem rqP_len (l : List UInt8) : (rqP l).1.length ≤ l.length ∧ (rqP l).2 ≤ l.length := by
  cases l with
  | nil => simp [rqP]
  | cons c r =>
    by_cases hc : c = 39
    · subst hc
      cases hs : scanW r with
      | none => rw [rqP_none r hs]; simp
      | some p =>
        obtain ⟨t, q⟩ := p
        have := scanW_len r.length r (Nat.le_refl _) t q hs
        rw [rqP_some r t q hs]
        simp
        omega
    · rw [rqP_other c r hc]; simp

theorem valL_pos' : ∀ (n : Nat) (l : List UInt8), l.length = n → (∀ c ∈ l, dgt c = true) → 0 ≤ valL l ∧ (l ≠ [] → l.head? ≠ some 48 → 1 ≤ valL l) := by
  intro n
  induction n with
  | zero => intro l hl _; obtain rfl := List.eq_nil_of_length_eq_zero hl; simp [valL]
  | succ n ih =>
    intro l hl hall
    obtain ⟨l', c, rfl⟩ : ∃ l' c, l = l' ++ [c] := ⟨l.dropLast, l.getLast (by intro e; rw [e] at hl; cases hl), (List.dropLast_concat_getLast _).symm⟩
    have hl' : l'.length = n := by simpa using hl
    obtain ⟨h1, h2⟩ := ih l' hl' (fun x hx => hall x (by simp [hx]))
    have hc := dgt_bd (hall c (by simp))
    rw [valL_snoc]
    refine ⟨by omega, fun _ hh => ?_⟩
    cases l' with
    | nil =>
      have : (c.toNat : Int) ≠ 48 := fun e => hh (by
        have : c = 48 := UInt8.toNat_inj.1 (by have : (48 : UInt8).toNat = 48 := rfl; omega)
        rw [this]; rfl)
      simp [valL]
      omega
    | cons a l' =>
      have := h2 (by simp) (by simpa using hh)
      omega
theorem dec_valL : ∀ (n : Nat) (l : List UInt8), l.length = n → l ≠ [] → (∀ c ∈ l, dgt c = true) → (1 < l.length → l.head? ≠ some 48) → Lib.decDigits (valL l).toNat = l := by
  intro n
  induction n with
  | zero => intro l hl hne; exact absurd (List.eq_nil_of_length_eq_zero hl) hne
  | succ n ih =>
    intro l hl hne hall hz
    obtain ⟨l', c, rfl⟩ : ∃ l' c, l = l' ++ [c] := ⟨l.dropLast, l.getLast hne, (List.dropLast_concat_getLast _).symm⟩
    have hl' : l'.length = n := by simpa using hl
    have hc := dgt_bd (hall c (by simp))
    have hcc : UInt8.ofNat c.toNat = c := by simp
    rw [valL_snoc]
    cases l' with
    | nil =>
      have e : (valL [] * 10 + ((c.toNat : Int) - 48)).toNat = c.toNat - 48 := by simp [valL]; omega
      rw [e, dec_small (by omega), show 48 + (c.toNat - 48) = c.toNat by omega, hcc]
      rfl
    | cons a l' =>
      have hh : (a :: l').head? ≠ some 48 := by simpa using hz (by simp)
      have hv := (valL_pos' _ (a :: l') rfl (fun x hx => hall x (by simp only [List.mem_append]; exact .inl hx))).2 (by simp) hh
      have hi := ih (a :: l') hl' (by simp) (fun x hx => hall x (by simp only [List.mem_append]; exact .inl hx)) (fun _ => hh)
      have e1 : (valL (a :: l') * 10 + ((c.toNat : Int) - 48)).toNat / 10 = (valL (a :: l')).toNat := by omega
      have e2 : 48 + (valL (a :: l') * 10 + ((c.toNat : Int) - 48)).toNat % 10 = c.toNat := by omega
      rw [dec_great (by omega), e1, e2, hi, hcc]
theorem digP_parts {l : List UInt8} (h : (digP l).2 = true) : l ≠ [] ∧ l.length ≤ 18 ∧ (∀ c ∈ l, dgt c = true) ∧ (1 < l.length → l.head? ≠ some 48) ∧ digP l = (valL l, true) := by
  unfold digP at h ⊢
  split at h
  · simp at h
  · rename_i hx
    refine ⟨fun e => hx (.inl (by rw [e]; rfl)), ?_, fun c hc => ?_, fun h1 h2 => hx (.inr (.inr (.inl ⟨h1, h2⟩))), if_neg hx⟩
    · by_cases hl : 18 < l.length
      · exact absurd (.inr (.inl hl)) hx
      · omega
    · cases hg : dgt c with
      | true => rfl
      | false => exact absurd (.inr (.inr (.inr ⟨c, hc, hg⟩))) hx
/-- a number's text is its digits -/
theorem dec_digP {l : List UInt8} (h : (digP l).2 = true) : Lib.decDigits ((digP l).1).toNat = l ∧ 0 ≤ (digP l).1 := by
  obtain ⟨h1, h2, h3, h4, h5⟩ := digP_parts h
  rw [h5]
  exact ⟨dec_valL _ l rfl h1 h3 h4, (valL_pos' _ l rfl h3).1⟩

end Go.Proofs.YtbipgmikgokfpaaDoor
