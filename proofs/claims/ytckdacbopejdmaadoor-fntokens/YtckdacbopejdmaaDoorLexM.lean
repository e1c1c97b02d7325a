/- Sources, in plain lists: all tokens one by one, and tokens read back from how they are written. -/
import Derived.Test.YtckdacbopejdmaaDoorLexL
import Derived.Test.YtckdacbopejdmaaDoorBuiltinWalk
namespace Go.Proofs.YtckdacbopejdmaaDoor
open Go.RowKit

def tokV (k : Int) (a : Nat) (t : List UInt8) : V3 := ⟨k, a, ⟨t.toArray⟩⟩

/-- from a place on, with what was read so far: tokens, place and code -/
inductive LexTo (l : List UInt8) : Nat → List V3 → List V3 × Nat × Int → Prop
  | done (p : Nat) (acc : List V3) : l.length ≤ p → LexTo l p acc (acc, 0, 0)
  | blank (p : Nat) (acc : List V3) (c : UInt8) (r : List UInt8) (x : List V3 × Nat × Int) : l.drop p = c :: r → blankC c = true → LexTo l (p + 1) acc x → LexTo l p acc x
  | many (p : Nat) (acc : List V3) (c : UInt8) (r : List UInt8) : l.drop p = c :: r → blankC c = false → acc.length = 300 → LexTo l p acc ([], p, 6)
  | form (p : Nat) (acc : List V3) (c : UInt8) (r : List UInt8) : l.drop p = c :: r → blankC c = false → acc.length ≠ 300 → nextT (c :: r) = none → LexTo l p acc ([], p, 3)
  | tok (p : Nat) (acc : List V3) (c : UInt8) (r : List UInt8) (k : Int) (t : List UInt8) (n : Nat) (x : List V3 × Nat × Int) : l.drop p = c :: r → blankC c = false → acc.length ≠ 300 → nextT (c :: r) = some (k, t, n) → LexTo l (p + n) (acc ++ [tokV k p t]) x → LexTo l p acc x

theorem drop_none {l : List UInt8} {p : Nat} {c : UInt8} {r : List UInt8} (h : l.drop p = c :: r) (hp : l.length ≤ p) : False := by
  rw [List.drop_of_length_le hp] at h; cases h

theorem LexTo.det {l : List UInt8} {p : Nat} {acc : List V3} {x y : List V3 × Nat × Int} (h : LexTo l p acc x) (h' : LexTo l p acc y) : x = y := by
  induction h with
  | done p acc hp =>
    cases h' with
    | done => rfl
    | blank _ _ _ _ _ hd => exact (drop_none hd hp).elim
    | many _ _ _ _ hd => exact (drop_none hd hp).elim
    | form _ _ _ _ hd => exact (drop_none hd hp).elim
    | tok _ _ _ _ _ _ _ _ hd => exact (drop_none hd hp).elim
  | blank p acc c r x hd hb _ ih =>
    cases h' with
    | done _ _ hp => exact (drop_none hd hp).elim
    | blank _ _ c' r' _ hd' hb' hx => exact ih hx
    | many _ _ c' r' hd' hb' => rw [hd] at hd'; injection hd' with e; subst e; rw [hb] at hb'; cases hb'
    | form _ _ c' r' hd' hb' => rw [hd] at hd'; injection hd' with e; subst e; rw [hb] at hb'; cases hb'
    | tok _ _ c' r' _ _ _ _ hd' hb' => rw [hd] at hd'; injection hd' with e; subst e; rw [hb] at hb'; cases hb'
  | many p acc c r hd hb hn =>
    cases h' with
    | done _ _ hp => exact (drop_none hd hp).elim
    | blank _ _ c' r' _ hd' hb' hx => rw [hd] at hd'; injection hd' with e; subst e; rw [hb] at hb'; cases hb'
    | many => rfl
    | form _ _ c' r' hd' hb' hn' => exact absurd hn hn'
    | tok _ _ c' r' _ _ _ _ hd' hb' hn' => exact absurd hn hn'
  | form p acc c r hd hb hn ht =>
    cases h' with
    | done _ _ hp => exact (drop_none hd hp).elim
    | blank _ _ c' r' _ hd' hb' hx => rw [hd] at hd'; injection hd' with e; subst e; rw [hb] at hb'; cases hb'
    | many _ _ c' r' hd' hb' hn' => exact absurd hn' hn
    | form => rfl
    | tok _ _ c' r' _ _ _ _ hd' hb' hn' ht' => rw [hd] at hd'; rw [← hd', ht] at ht'; cases ht'
  | tok p acc c r k t n x hd hb hn ht _ ih =>
    cases h' with
    | done _ _ hp => exact (drop_none hd hp).elim
    | blank _ _ c' r' _ hd' hb' hx => rw [hd] at hd'; injection hd' with e; subst e; rw [hb] at hb'; cases hb'
    | many _ _ c' r' hd' hb' hn' => exact absurd hn' hn
    | form _ _ c' r' hd' hb' hn' ht' => rw [hd] at hd'; rw [← hd', ht] at ht'; cases ht'
    | tok _ _ c' r' k' t' n' _ hd' hb' hn' ht' hx =>
      rw [hd] at hd'
      rw [← hd', ht] at ht'
      injection ht' with e
      injection e with e1 e2
      injection e2 with e2 e3
      subst e1 e2 e3
      exact ih hx

theorem nextT_ok (c : UInt8) (r : List UInt8) (k : Int) (t : List UInt8) (n : Nat) (h : nextT (c :: r) = some (k, t, n)) : tokB k t = true ∧ 0 < n ∧ n ≤ (c :: r).length := by
  rw [nextT_raw] at h
  split at h
  · rename_i hb
    injection h with h
    have := rawT_pos c r hb
    rw [h] at hb this
    exact ⟨hb, this⟩
  · cases h

/-- what was read so far is right -/
structure Lexed (acc : List V3) (p : Nat) : Prop where
  few : acc.length ≤ 300
  each : ∀ v ∈ acc, tokB v.k v.t.data.toList = true ∧ 0 ≤ v.n ∧ v.n < p
  rise : ∀ i (h : i < acc.length), 0 < i → (acc[i - 1]).n < acc[i].n
theorem Lexed.zero (p : Nat) : Lexed [] p := ⟨by simp, fun v hv => by simp at hv, fun i h => by simp at h⟩
theorem Lexed.mono {acc : List V3} {p q : Nat} (h : Lexed acc p) (hp : p ≤ q) : Lexed acc q := ⟨h.few, fun v hv => ⟨(h.each v hv).1, (h.each v hv).2.1, by have := (h.each v hv).2.2; omega⟩, h.rise⟩
theorem Lexed.snoc {acc : List V3} {p n : Nat} {k : Int} {t : List UInt8} (h : Lexed acc p) (hf : acc.length ≠ 300) (ht : tokB k t = true) (hn : 0 < n) : Lexed (acc ++ [tokV k p t]) (p + n) := by
  refine ⟨by have := h.few; simp; omega, fun v hv => ?_, fun i hi h0 => ?_⟩
  · rcases List.mem_append.1 hv with hv | hv
    · have := h.each v hv; exact ⟨this.1, this.2.1, by omega⟩
    · simp at hv; subst hv; exact ⟨by simpa [tokV] using ht, by simp [tokV], by simp [tokV]; omega⟩
  · have hi' : i ≤ acc.length := by simp at hi; omega
    by_cases e : i = acc.length
    · subst e
      have h1 : acc.length - 1 < acc.length := by omega
      have := (h.each (acc[acc.length - 1]) (List.getElem_mem h1)).2.2
      rw [List.getElem_append_left (by omega)]
      simp [tokV]
      omega
    · rw [List.getElem_append_left (by omega), List.getElem_append_left (by omega)]
      exact h.rise i (by omega) h0
theorem LexTo.good {l : List UInt8} {p : Nat} {acc : List V3} {x : List V3 × Nat × Int} (h : LexTo l p acc x) (hp : p ≤ l.length) (hg : Lexed acc p) : (x.2.2 = 0 ∧ x.2.1 = 0 ∧ Lexed x.1 l.length) ∨ (x.2.2 ≠ 0 ∧ x.1 = [] ∧ x.2.1 ≤ l.length) := by
  induction h with
  | done p acc _ => exact .inl ⟨rfl, rfl, hg.mono hp⟩
  | blank p acc c r x hd hb _ ih =>
    have hlt : p < l.length := by
      have := congrArg List.length hd
      simp at this; omega
    exact ih (by omega) (hg.mono (by omega))
  | many p acc c r => exact .inr ⟨by simp, rfl, hp⟩
  | form p acc c r => exact .inr ⟨by simp, rfl, hp⟩
  | tok p acc c r k t n x hd hb hn ht _ ih =>
    obtain ⟨h1, h2, h3⟩ := nextT_ok c r k t n ht
    have hlt : l.length - p = (c :: r).length := by
      have := congrArg List.length hd
      rw [List.length_drop] at this
      exact this
    exact ih (by simp at h3 hlt; omega) (hg.snoc hn h1 h2)

/-- tokens with a blank between -/
def joinL : List V3 → List UInt8
  | [] => []
  | [v] => tokT v.k v.t.data.toList
  | v :: u :: r => tokT v.k v.t.data.toList ++ 32 :: joinL (u :: r)

theorem takeW_run (p : UInt8 → Bool) (l r : List UInt8) (hl : ∀ x ∈ l, p x = true) (hr : r = [] ∨ ∃ q, r = 32 :: q) (h32 : p 32 = false) : (l ++ r).takeWhile p = l := by
  induction l with
  | nil =>
    rcases hr with rfl | ⟨q, rfl⟩
    · rfl
    · simp [h32]
  | cons a l ih =>
    rw [List.cons_append, List.takeWhile_cons, if_pos (hl a (by simp)), ih (fun x hx => hl x (by simp [hx]))]

theorem nameL_parts (l : List UInt8) (h : nameL l = true) : ∃ c r, l = c :: r ∧ letB (c.toNat : Int) = true ∧ ∀ x ∈ r, nmb x = true := by
  unfold nameL nameB at h
  rw [decide_eq_true_iff] at h
  obtain ⟨h0, h1, hall⟩ := h
  have hsz : (⟨l.toArray⟩ : ByteArray).size = l.length := by simp [ByteArray.size]
  cases l with
  | nil => rw [hsz] at h0; simp at h0
  | cons c r =>
    refine ⟨c, r, rfl, ?_, fun x hx => ?_⟩
    · have := hall 0 (by rw [hsz]; simp)
      simpa [namePart, ByteArray.getElem_eq_getElem_data] using this
    · obtain ⟨i, hi, rfl⟩ := List.mem_iff_getElem.1 hx
      have := hall (i + 1) (by rw [hsz]; simp; omega)
      simpa [namePart, nmb, ByteArray.getElem_eq_getElem_data] using this
theorem blank_is (c : UInt8) (h : blankC c = true) : c = 32 ∨ c = 9 ∨ c = 10 := by
  simp [blankC] at h
  rcases h with (h | h) | h
  · exact .inl h
  · exact .inr (.inl h)
  · exact .inr (.inr h)
theorem letB_blank (c : UInt8) (h : letB (c.toNat : Int) = true) : blankC c = false := by
  cases hb : blankC c
  · rfl
  · rcases blank_is c hb with rfl | rfl | rfl <;> exact absurd h (by decide)
theorem digB_facts (c : UInt8) (h : digB (c.toNat : Int) = true) : blankC c = false ∧ letB (c.toNat : Int) = false := by
  constructor
  · cases hb : blankC c
    · rfl
    · rcases blank_is c hb with rfl | rfl | rfl <;> exact absurd h (by decide)
  · simp [digB] at h
    simp [letB]
    omega

theorem scanQ_esc_run (t r : List UInt8) (h : t.all okC = true) : scanQ (t.flatMap escC ++ 39 :: r) = some (t, r) := by
  induction t with
  | nil => exact scanQ_end r
  | cons c t ih =>
    simp only [List.all_cons, Bool.and_eq_true] at h
    rw [List.flatMap_cons]
    unfold escC
    by_cases hc : c = 39 ∨ c = 92
    · rw [if_pos hc, List.append_assoc]
      show scanQ (92 :: c :: (t.flatMap escC ++ 39 :: r)) = _
      rw [scanQ_esc _ _ hc, ih h.2]; rfl
    · rw [if_neg hc, List.append_assoc]
      show scanQ (c :: (t.flatMap escC ++ 39 :: r)) = _
      rw [scanQ_plain _ _ (fun e => hc (.inl e)) (fun e => hc (.inr e)) h.1, ih h.2]; rfl

theorem nextT_name (c : UInt8) (r q : List UInt8) (k : Int) (hc : letB (c.toNat : Int) = true) (hr : ∀ x ∈ r, nmb x = true) (hq : q = [] ∨ ∃ q', q = 32 :: q') (hl : (c :: r).length ≤ 20) (hk : k = if wordB (c :: r) = true then 2 else 1) :
    nextT (c :: (r ++ q)) = some (k, c :: r, (c :: r).length) := by
  rw [nextT_let c _ hc, takeW_run nmb r q hr hq (by decide), if_pos hl, hk]

theorem nextT_back (k : Int) (t q : List UInt8) (h : tokB k t = true) (hq : q = [] ∨ ∃ q', q = 32 :: q') :
    ∃ c r, tokT k t ++ q = c :: r ∧ blankC c = false ∧ nextT (c :: r) = some (k, t, (tokT k t).length) := by
  unfold tokB at h
  by_cases h1 : k = 1
  · subst h1
    simp only [if_true, Bool.and_eq_true, decide_eq_true_iff, Bool.not_eq_true'] at h
    obtain ⟨⟨hl, hn⟩, hw⟩ := h
    obtain ⟨c, r, rfl, hc, hr⟩ := nameL_parts t hn
    exact ⟨c, r ++ q, rfl, letB_blank c hc, nextT_name c r q 1 hc hr hq hl (by simp [hw])⟩
  rw [if_neg h1] at h
  by_cases h2 : k = 2
  · subst h2
    rw [if_pos rfl] at h
    have hn : ∀ w ∈ srcWords, nameL w = true := by decide
    have hm : t ∈ srcWords := by
      simp only [wordB, List.any_eq_true] at h
      obtain ⟨w, hw, e⟩ := h
      rw [← eq_of_beq e]; exact hw
    have hlen := wordB_len h
    obtain ⟨c, r, rfl, hc, hr⟩ := nameL_parts t (hn t hm)
    exact ⟨c, r ++ q, rfl, letB_blank c hc, nextT_name c r q 2 hc hr hq (by omega) (by simp [h])⟩
  rw [if_neg h2] at h
  by_cases h3 : k = 3
  · subst h3
    rw [if_pos rfl] at h
    simp only [Bool.and_eq_true, decide_eq_true_iff] at h
    obtain ⟨hd, hv⟩ := h
    have hall : t ≠ [] ∧ ∀ c ∈ t, dgt c = true := by
      unfold digP at hd
      split at hd
      · simp at hd
      · rename_i hx
        refine ⟨fun e => hx (.inl (by rw [e]; rfl)), fun c hc => ?_⟩
        cases hg : dgt c with
        | true => rfl
        | false => exact absurd (.inr (.inr (.inr ⟨c, hc, hg⟩))) hx
    obtain ⟨hne, hall⟩ := hall
    cases t with
    | nil => exact absurd rfl hne
    | cons c r =>
      have hc := digB_facts c (hall c (by simp))
      refine ⟨c, r ++ q, rfl, hc.1, ?_⟩
      rw [nextT_dig c _ hc.2 (hall c (by simp)), takeW_run dgt r q (fun x hx => hall x (by simp [hx])) hq (by decide), if_pos ⟨hd, hv⟩]
      rfl
  rw [if_neg h3] at h
  by_cases h4 : k = 4
  · subst h4
    rw [if_pos rfl] at h
    simp only [plainB, Bool.and_eq_true, decide_eq_true_iff] at h
    refine ⟨39, t.flatMap escC ++ 39 :: q, by simp [tokT, quoteL], by decide, ?_⟩
    rw [nextT_quote, scanQ_esc_run t q h.2]
    dsimp only
    rw [if_pos h.1]
    simp [tokT, quoteL]
    omega
  rw [if_neg h4] at h
  by_cases h5 : k = 5
  · subst h5
    rw [if_pos rfl] at h
    have hm : t ∈ srcSigns := by
      simp only [signB, List.any_eq_true] at h
      obtain ⟨w, hw, e⟩ := h
      rw [← eq_of_beq e]; exact hw
    have hs : ∀ g ∈ srcSigns, (∃ c r, g = c :: r ∧ blankC c = false ∧ letB (c.toNat : Int) = false ∧ digB (c.toNat : Int) = false ∧ c ≠ 39) := by
      intro g hg
      simp only [srcSigns, List.mem_cons, List.not_mem_nil, or_false] at hg
      rcases hg with rfl | rfl | rfl | rfl | rfl | rfl | rfl | rfl | rfl | rfl | rfl | rfl | rfl | rfl | rfl | rfl | rfl
      all_goals exact ⟨_, _, rfl, by decide, by decide, by decide, by decide⟩
    obtain ⟨c, r, rfl, hb, hl, hd, h39⟩ := hs t hm
    have hsg : signT (c :: r ++ q) = some (c :: r).length := by
      simp only [srcSigns, List.mem_cons, List.not_mem_nil, or_false] at hm
      rcases hq with rfl | ⟨q', rfl⟩
      all_goals
        rcases hm with hm | hm | hm | hm | hm | hm | hm | hm | hm | hm | hm | hm | hm | hm | hm | hm | hm
      all_goals
        injection hm with e1 e2
        subst e1 e2
        simp [signT, oneSigns]
    refine ⟨c, r ++ q, rfl, hb, ?_⟩
    rw [nextT_sign c _ hl hd h39]
    rw [show c :: (r ++ q) = c :: r ++ q from rfl, hsg]
    simp [tokT]
  · rw [if_neg h5] at h; cases h

theorem lex_back (l : List UInt8) : ∀ (toks acc : List V3) (pre : List UInt8), (∀ v ∈ toks, tokB v.k v.t.data.toList = true) → acc.length + toks.length ≤ 300 → l = pre ++ joinL toks →
    ∃ back : List V3, LexTo l pre.length acc (acc ++ back, 0, 0) ∧ back.map (fun v => (v.k, v.t)) = toks.map (fun v => (v.k, v.t)) := by
  intro toks
  induction toks with
  | nil =>
    intro acc pre _ _ hl
    refine ⟨[], ?_, rfl⟩
    rw [List.append_nil]
    exact .done _ _ (by rw [hl]; simp [joinL])
  | cons v r ih =>
    intro acc pre hall hlen hl
    have hv := hall v (by simp)
    have eta : ∀ t : ByteArray, (⟨t.data.toList.toArray⟩ : ByteArray) = t := fun t => rfl
    simp only [List.length_cons] at hlen
    cases r with
    | nil =>
      obtain ⟨c, r, hcr, hb, hn⟩ := nextT_back v.k v.t.data.toList [] hv (.inl rfl)
      refine ⟨[tokV v.k pre.length v.t.data.toList], ?_, by simp [tokV]⟩
      have hd : l.drop pre.length = c :: r := by
        rw [hl, List.drop_left]
        rw [List.append_nil] at hcr
        exact hcr
      refine .tok _ _ c r v.k v.t.data.toList _ _ hd hb (by omega) hn (.done _ _ ?_)
      rw [hl]; simp [joinL]
    | cons u r =>
      obtain ⟨c, q, hcr, hb, hn⟩ := nextT_back v.k v.t.data.toList (32 :: joinL (u :: r)) hv (.inr ⟨_, rfl⟩)
      obtain ⟨back, hx, hm⟩ := ih (acc ++ [tokV v.k pre.length v.t.data.toList]) (pre ++ (tokT v.k v.t.data.toList ++ [32])) (fun x hx => hall x (by simp [hx])) (by simp at hlen ⊢; omega) (by rw [hl]; simp [joinL])
      refine ⟨tokV v.k pre.length v.t.data.toList :: back, ?_, by simp [tokV, hm]⟩
      have hd : l.drop pre.length = c :: q := by
        rw [hl, List.drop_left]
        exact hcr
      refine .tok _ _ c q v.k v.t.data.toList _ _ hd hb (by omega) hn ?_
      have hd2 : l.drop (pre.length + (tokT v.k v.t.data.toList).length) = 32 :: joinL (u :: r) := by
        rw [hl, show joinL (v :: u :: r) = tokT v.k v.t.data.toList ++ 32 :: joinL (u :: r) from rfl, ← List.append_assoc, ← List.length_append, List.drop_left]
      refine .blank _ _ 32 _ _ hd2 (by decide) ?_
      have e : (pre ++ (tokT v.k v.t.data.toList ++ [32])).length = pre.length + (tokT v.k v.t.data.toList).length + 1 := by simp; omega
      rw [e] at hx
      rw [show acc ++ tokV v.k pre.length v.t.data.toList :: back = acc ++ [tokV v.k pre.length v.t.data.toList] ++ back by simp]
      exact hx

end Go.Proofs.YtckdacbopejdmaaDoor
