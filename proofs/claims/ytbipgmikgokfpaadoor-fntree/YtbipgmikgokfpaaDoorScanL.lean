/- Texts between quotes, in plain lists: what the specification's scan and the code's scan come to. -/
namespace Go.Proofs.YtbipgmikgokfpaaDoor

/-- a byte that may stand in a text between quotes -/
def okC (c : UInt8) : Bool := decide (32 ≤ c.toNat) && decide (c.toNat ≤ 126)

/-- from behind the opening quote: the text meant, and what is left behind the closing quote -/
def scanQ : List UInt8 → Option (List UInt8 × List UInt8)
  | [] => none
  | [c] => if c = 39 then some ([], []) else none
  | c :: d :: r =>
    if c = 39 then some ([], d :: r)
    else if c = 92 then (if d = 39 ∨ d = 92 then (scanQ r).map (fun p => (d :: p.1, p.2)) else none)
    else if okC c = true then (scanQ (d :: r)).map (fun p => (c :: p.1, p.2)) else none

/-- of what lies between the quotes: the text meant -/
def scanI : List UInt8 → Option (List UInt8)
  | [] => some []
  | [c] => if c ≠ 39 ∧ c ≠ 92 ∧ okC c = true then some [c] else none
  | c :: d :: r =>
    if c = 92 then (if d = 39 ∨ d = 92 then (scanI r).map (fun p => d :: p) else none)
    else if c ≠ 39 ∧ okC c = true then (scanI (d :: r)).map (fun p => c :: p) else none

theorem scan_join : ∀ (n : Nat) (l : List UInt8), l.length ≤ n → ∀ t, (scanQ (l ++ [39]) = some (t, []) ↔ scanI l = some t) := by
  intro n
  induction n with
  | zero =>
    intro l hl t
    have : l = [] := List.eq_nil_of_length_eq_zero (by omega)
    subst this
    simp [scanQ, scanI, eq_comm]
  | succ n ih =>
    intro l hl t
    match l, hl with
    | [], _ => simp [scanQ, scanI, eq_comm]
    | [c], _ =>
      simp only [List.cons_append, List.nil_append, scanQ, scanI]
      by_cases h1 : c = 39
      · simp [h1]
      · by_cases h2 : c = 92
        · simp [h2]
        · by_cases h3 : okC c = true
          · simp [h1, h2, h3, eq_comm]
          · simp [h1, h2, h3]
    | c :: d :: r, hl =>
      simp only [List.length_cons] at hl
      have i1 := ih r (by omega)
      have i2 := ih (d :: r) (by simp; omega)
      simp only [List.cons_append] at i2 ⊢
      simp only [scanQ, scanI]
      by_cases h1 : c = 39
      · subst h1
        simp
      · by_cases h2 : c = 92
        · subst h2
          simp only [if_neg h1, if_true]
          by_cases h3 : d = 39 ∨ d = 92
          · simp only [if_pos h3, Option.map_eq_some_iff]
            constructor
            · rintro ⟨⟨a, b⟩, ha, hb⟩
              simp at hb
              obtain ⟨rfl, rfl⟩ := hb
              exact ⟨a, (i1 a).1 ha, rfl⟩
            · rintro ⟨a, ha, rfl⟩
              exact ⟨(a, []), (i1 a).2 ha, rfl⟩
          · simp [h3]
        · by_cases h3 : okC c = true
          · rw [if_neg h1, if_neg h2, if_pos h3, if_neg h2, if_pos ⟨h1, h3⟩]
            simp only [Option.map_eq_some_iff]
            constructor
            · rintro ⟨⟨a, b⟩, ha, hb⟩
              simp at hb
              obtain ⟨rfl, rfl⟩ := hb
              exact ⟨a, (i2 a).1 ha, rfl⟩
            · rintro ⟨a, ha, rfl⟩
              exact ⟨(a, []), (i2 a).2 ha, rfl⟩
          · simp [h1, h2, h3]

theorem scanQ_end (r : List UInt8) : scanQ (39 :: r) = some ([], r) := by cases r <;> simp [scanQ]
theorem scanQ_plain (c : UInt8) (r : List UInt8) (h1 : c ≠ 39) (h2 : c ≠ 92) (h3 : okC c = true) : scanQ (c :: r) = (scanQ r).map (fun p => (c :: p.1, p.2)) := by
  cases r with
  | nil => simp [scanQ, h1]
  | cons d r => simp [scanQ, h1, h2, h3]
theorem scanQ_bad (c : UInt8) (r : List UInt8) (h1 : c ≠ 39) (h2 : c ≠ 92) (h3 : okC c = false) : scanQ (c :: r) = none := by
  cases r with
  | nil => simp [scanQ, h1]
  | cons d r => simp [scanQ, h1, h2, h3]
theorem scanQ_esc (d : UInt8) (r : List UInt8) (h : d = 39 ∨ d = 92) : scanQ (92 :: d :: r) = (scanQ r).map (fun p => (d :: p.1, p.2)) := by simp [scanQ, h]
theorem scanQ_escbad (d : UInt8) (r : List UInt8) (h : ¬ (d = 39 ∨ d = 92)) : scanQ (92 :: d :: r) = none := by simp [scanQ, h]
theorem scanQ_esc0 : scanQ [92] = none := by simp [scanQ]
theorem scanI_quote (r : List UInt8) : scanI (39 :: r) = none := by cases r <;> simp [scanI]
theorem scanI_plain (c : UInt8) (r : List UInt8) (h1 : c ≠ 39) (h2 : c ≠ 92) (h3 : okC c = true) : scanI (c :: r) = (scanI r).map (fun p => c :: p) := by
  cases r with
  | nil => simp [scanI, h1, h2, h3]
  | cons d r => simp [scanI, h1, h2, h3]
theorem scanI_bad (c : UInt8) (r : List UInt8) (h2 : c ≠ 92) (h3 : okC c = false) : scanI (c :: r) = none := by
  cases r with
  | nil => simp [scanI, h3]
  | cons d r => simp [scanI, h2, h3]
theorem scanI_esc (d : UInt8) (r : List UInt8) (h : d = 39 ∨ d = 92) : scanI (92 :: d :: r) = (scanI r).map (fun p => d :: p) := by simp [scanI, h]
theorem scanI_escbad (d : UInt8) (r : List UInt8) (h : ¬ (d = 39 ∨ d = 92)) : scanI (92 :: d :: r) = none := by simp [scanI, h]
theorem scanI_esc0 : scanI [92] = none := by simp [scanI]

/-- what is scanned to its end ends with a quote -/
theorem scanQ_last : ∀ (n : Nat) (l : List UInt8), l.length ≤ n → ∀ t, scanQ l = some (t, []) → ∃ l', l = l' ++ [39] := by
  intro n
  induction n with
  | zero =>
    intro l hl t h
    have : l = [] := List.eq_nil_of_length_eq_zero (by omega)
    subst this
    simp [scanQ] at h
  | succ n ih =>
    intro l hl t h
    match l, hl with
    | [], _ => simp [scanQ] at h
    | [c], _ =>
      by_cases h1 : c = 39
      · exact ⟨[], by simp [h1]⟩
      · simp [scanQ, h1] at h
    | c :: d :: r, hl =>
      simp only [List.length_cons] at hl
      simp only [scanQ] at h
      by_cases h1 : c = 39
      · simp [h1] at h
      · rw [if_neg h1] at h
        by_cases h2 : c = 92
        · rw [if_pos h2] at h
          by_cases h3 : d = 39 ∨ d = 92
          · rw [if_pos h3] at h
            obtain ⟨⟨a, b⟩, ha, hb⟩ := Option.map_eq_some_iff.1 h
            simp at hb
            obtain ⟨rfl, rfl⟩ := hb
            obtain ⟨l', hl'⟩ := ih r (by omega) a ha
            exact ⟨c :: d :: l', by simp [hl']⟩
          · rw [if_neg h3] at h; cases h
        · rw [if_neg h2] at h
          by_cases h3 : okC c = true
          · rw [if_pos h3] at h
            obtain ⟨⟨a, b⟩, ha, hb⟩ := Option.map_eq_some_iff.1 h
            simp at hb
            obtain ⟨rfl, rfl⟩ := hb
            obtain ⟨l', hl'⟩ := ih (d :: r) (by simp; omega) a ha
            exact ⟨c :: l', by rw [hl']; rfl⟩
          · rw [if_neg h3] at h; cases h

/-- the text that a text between quotes means, if it is one of at most sixty bytes -/
def quoteP (l : List UInt8) : List UInt8 × Bool :=
  match l with
  | [] => ([], false)
  | c :: r => if c = 39 then (match scanQ r with
      | some (t, []) => if t.length ≤ 60 then (t, true) else ([], false)
      | _ => ([], false)) else ([], false)
/-- the same, of what lies between the quotes -/
def innerP (l : List UInt8) : List UInt8 × Bool :=
  match scanI l with
  | some t => if t.length ≤ 60 then (t, true) else ([], false)
  | none => ([], false)
theorem quoteP_inner (l : List UInt8) : quoteP (39 :: (l ++ [39])) = innerP l := by
  unfold quoteP innerP
  dsimp only
  rw [if_pos rfl]
  have hj := scan_join l.length l (Nat.le_refl _)
  cases hi : scanI l with
  | some t => rw [(hj t).2 hi]
  | none =>
    cases hq : scanQ (l ++ [39]) with
    | none => rfl
    | some p =>
      obtain ⟨t, r⟩ := p
      cases r with
      | nil => rw [(hj t).1 hq] at hi; cases hi
      | cons a r => rfl
theorem quoteP_last (c : UInt8) (r : List UInt8) (h : ¬ ∃ l', r = l' ++ [39]) : quoteP (c :: r) = ([], false) := by
  unfold quoteP
  dsimp only
  by_cases hc : c = 39
  · rw [if_pos hc]
    cases hq : scanQ r with
    | none => rfl
    | some p =>
      obtain ⟨t, r'⟩ := p
      cases r' with
      | nil => exact absurd (scanQ_last r.length r (Nat.le_refl _) t hq) h
      | cons a r' => rfl
  · rw [if_neg hc]

end Go.Proofs.YtbipgmikgokfpaaDoor
