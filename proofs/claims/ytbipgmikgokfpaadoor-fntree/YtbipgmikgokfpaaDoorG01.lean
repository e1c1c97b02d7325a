/- A bundle. -/
import Derived.Test.YtbipgmikgokfpaaDoorUnary2
import Derived.Test.YtbipgmikgokfpaaDoorUnaryWalk
import Derived.Deep.RegionHeld3
import Derived.Test.YtbipgmikgokfpaaDoorLexL
import Derived.WalkKit
import Derived.Laws.Strings
import Derived.Test.YtbipgmikgokfpaaDoorNodeL
import Derived.Test.YtbipgmikgokfpaaDoorGrowWalk3
import Derived.Test.YtbipgmikgokfpaaDoorSWalk3

/- Binary1 -/
namespace Go.Proofs.YtbipgmikgokfpaaDoor
open Go.RowKit
set_option linter.unusedVariables false

def intsR (l : List UInt8) (a b : Int) : Res :=
  if l = [60] then boolR (decide (a < b))
  else if l = [43] then fitR (a + b)
  else if l = [45] then fitR (a - b)
  else if l = [42] then fitR (a * b)
  else if b = 0 then zeroR 4
  else if l = [37] then fitR (a.tmod b)
  else if a.tmod b = 0 then fitR (wrap64 (a.tdiv b))
  else zeroR 4
def textsR (l : List UInt8) (s t : ByteArray) : Res :=
  if l = [60] then boolR (Op.bytesLess s.toList t.toList)
  else if 60 < s.size + t.size then zeroR 10
  else textR (s ++ t)
def eqV (ka na : Int) (ta : ByteArray) (kb nb : Int) (tb : ByteArray) : Bool := (ka == kb) && (na == nb) && (ta.toList == tb.toList)
def isOpB (l : List UInt8) : Prop := l = [60] ∨ l = [43] ∨ l = [45] ∨ l = [42] ∨ l = [47] ∨ l = [37]
def binR (l : List UInt8) (ka na : Int) (ta : ByteArray) (kb nb : Int) (tb : ByteArray) : Res :=
  if 65536 < l.length then zeroR 2
  else if vokB ka na ta = false then zeroR 1
  else if vokB kb nb tb = false then zeroR 1
  else if l = [61, 61] then boolR (eqV ka na ta kb nb tb)
  else if (l = [60] ∨ l = [43]) ∧ ka = 3 ∧ kb = 3 then textsR l ta tb
  else if l = [60] ∨ l = [43] ∨ l = [45] ∨ l = [42] ∨ l = [47] ∨ l = [37] then (if ka = 1 ∧ kb = 1 then intsR l na nb else zeroR 8)
  else zeroR 3

theorem mul_lo (a b : Int) (ha1 : -2147483648 ≤ a) (ha2 : a ≤ 2147483647) (hb1 : -2147483648 ≤ b) (hb2 : b ≤ 2147483647) : -4611686018427387904 ≤ a * b ∧ a * b ≤ 4611686018427387904 := by
  have h1 : a.natAbs ≤ 2147483648 := by omega
  have h2 : b.natAbs ≤ 2147483648 := by omega
  have h3 : (a * b).natAbs ≤ 2147483648 * 2147483648 := by rw [Int.natAbs_mul]; exact Nat.mul_le_mul h1 h2
  omega
theorem tmod_bd (a b : Int) (ha1 : -2147483648 ≤ a) (ha2 : a ≤ 2147483647) : -2147483648 ≤ a.tmod b ∧ a.tmod b ≤ 2147483647 := by
  rcases Int.le_total 0 a with h | h
  · have h1 := Int.tmod_nonneg b h
    have h2 : (a.tmod b).natAbs ≤ a.natAbs := by rw [Int.natAbs_tmod]; exact Nat.mod_le _ _
    omega
  · have h2 : (a.tmod b).natAbs ≤ a.natAbs := by rw [Int.natAbs_tmod]; exact Nat.mod_le _ _
    have h3 : a.tmod b ≤ 0 := by
      have := Int.tmod_nonneg b (show 0 ≤ -a by omega)
      rw [Int.neg_tmod] at this
      omega
    omega

end Go.Proofs.YtbipgmikgokfpaaDoor

/- SmallWalk -/
namespace Go.Proofs.YtbipgmikgokfpaaDoor
open Go.RowKit

def kindW (k : Int) : ByteArray := if k = 0 then ⟨#[110, 117, 108, 108]⟩ else if k = 1 then ⟨#[105, 110, 116]⟩ else if k = 2 then ⟨#[98, 111, 111, 108]⟩ else ⟨#[116, 101, 120, 116]⟩
theorem vok_kind {k n : Int} {t : ByteArray} (h : vokB k n t = true) : k = 0 ∨ k = 1 ∨ k = 2 ∨ k = 3 := by
  unfold vokB at h
  split at h
  · omega
  split at h
  · omega
  split at h
  · omega
  split at h
  · omega
  cases h

def cntP (l : List UInt8) : Int × Int :=
  if 65536 < l.length then (0, 2)
  else if l = [108, 101, 110] then (1, 0)
  else if l = [115, 116, 114] then (1, 0)
  else if l = [97, 98, 115] then (1, 0)
  else if l = [97, 116] then (2, 0)
  else if l = [109, 97, 120] then (2, 0)
  else if l = [109, 105, 110] then (2, 0)
  else if l = [99, 117, 116] then (3, 0)
  else (0, 5)

theorem len_toList' (s : ByteArray) : s.toList.length = s.size := by rw [ByteArray.toList_eq]; exact Array.length_toList

end Go.Proofs.YtbipgmikgokfpaaDoor

/- BuiltinWalk -/
namespace Go.Proofs.YtbipgmikgokfpaaDoor
open Go.RowKit
set_option linter.unusedVariables false

/-- a value's three fields -/
structure V3 where
  k : Int
  n : Int
  t : ByteArray
/-- values in a row of cells, three cells each -/
def ArgsAt (w : World) (b : Nat) (vs : List V3) : Prop := ∀ i (h : i < vs.length), w.cell? ⟨b, i * 3, none⟩ = some (.int .i64 vs[i].k) ∧ w.cell? ⟨b, i * 3 + 1, none⟩ = some (.int .i64 vs[i].n) ∧ w.cell? ⟨b, i * 3 + 2, none⟩ = some (.string vs[i].t)
theorem ArgsAt.later {w w' : World} {b : Nat} {vs : List V3} (h : ArgsAt w b vs) (hb : Below w.heap.size w w') : ArgsAt w' b vs := fun i hi =>
  ⟨cell_later hb (h i hi).1, cell_later hb (h i hi).2.1, cell_later hb (h i hi).2.2⟩
theorem ArgsAt.alloc {w : World} {b : Nat} {vs : List V3} (h : ArgsAt w b vs) (o : Obj) : ArgsAt (w.alloc o) b vs := h.later (nx_alloc _ _)
theorem ne_pair {a b : Nat} (h : a < b) : ¬ a = b ∧ ¬ b = a ∧ a < b := by omega
def okV (v : V3) : Prop := vokB v.k v.n v.t = true ∧ v.t.size ≤ maxLen
/-- the letter asks for the kind -/
def fitC (c k : Int) : Prop := ¬ (c = 116 ∧ ¬ k = 3) ∧ ¬ (c = 110 ∧ ¬ k = 1)

end Go.Proofs.YtbipgmikgokfpaaDoor

/- LexM -/
namespace Go.Proofs.YtbipgmikgokfpaaDoor
open Go.RowKit

def tokV (k : Int) (a : Nat) (t : List UInt8) : V3 := ⟨k, a, ⟨t.toArray⟩⟩

/-- from a place on, with what was read so far: tokens, place and code -/
inductive LexTo (l : List UInt8) : Nat → List V3 → List V3 × Nat × Int → Prop
  | done (p : Nat) (acc : List V3) : l.length ≤ p → LexTo l p acc (acc, 0, 0)
  | blank (p : Nat) (acc : List V3) (c : UInt8) (r : List UInt8) (x : List V3 × Nat × Int) : l.drop p = c :: r → blankC c = true → LexTo l (p + 1) acc x → LexTo l p acc x
  | many (p : Nat) (acc : List V3) (c : UInt8) (r : List UInt8) : l.drop p = c :: r → blankC c = false → acc.length = 300 → LexTo l p acc ([], p, 6)
  | form (p : Nat) (acc : List V3) (c : UInt8) (r : List UInt8) : l.drop p = c :: r → blankC c = false → acc.length ≠ 300 → nextT (c :: r) = none → LexTo l p acc ([], p, 3)
  | tok (p : Nat) (acc : List V3) (c : UInt8) (r : List UInt8) (k : Int) (t : List UInt8) (n : Nat) (x : List V3 × Nat × Int) : l.drop p = c :: r → blankC c = false → acc.length ≠ 300 → nextT (c :: r) = some (k, t, n) → LexTo l (p + n) (acc ++ [tokV k p t]) x → LexTo l p acc x

theorem drop_none {l : List UInt8} {p : Nat} {c : UInt8} {r : List UInt8} (h : l.drop p = c :: r) (hp : l.length ≤ p) : False := by
  rw [List.drop_of_length_le hp] at h; cases h

theorem LexTo.det {l : List UInt8} {p : Nat} {acc : List V3} {x y : List V3 × Nat × Int} (h : LexTo l p acc x) (h' : LexTo l p acc y) : x = y := by
  induction h with
  | done p acc hp =>
    cases h' with
    | done => rfl
    | blank _ _ _ _ _ hd => exact (drop_none hd hp).elim
    | many _ _ _ _ hd => exact (drop_none hd hp).elim
    | form _ _ _ _ hd => exact (drop_none hd hp).elim
    | tok _ _ _ _ _ _ _ _ hd => exact (drop_none hd hp).elim
  | blank p acc c r x hd hb _ ih =>
    cases h' with
    | done _ _ hp => exact (drop_none hd hp).elim
    | blank _ _ c' r' _ hd' hb' hx => exact ih hx
    | many _ _ c' r' hd' hb' => rw [hd] at hd'; injection hd' with e; subst e; rw [hb] at hb'; cases hb'
    | form _ _ c' r' hd' hb' => rw [hd] at hd'; injection hd' with e; subst e; rw [hb] at hb'; cases hb'
    | tok _ _ c' r' _ _ _ _ hd' hb' => rw [hd] at hd'; injection hd' with e; subst e; rw [hb] at hb'; cases hb'
  | many p acc c r hd hb hn =>
    cases h' with
    | done _ _ hp => exact (drop_none hd hp).elim
    | blank _ _ c' r' _ hd' hb' hx => rw [hd] at hd'; injection hd' with e; subst e; rw [hb] at hb'; cases hb'
    | many => rfl
    | form _ _ c' r' hd' hb' hn' => exact absurd hn hn'
    | tok _ _ c' r' _ _ _ _ hd' hb' hn' => exact absurd hn hn'
  | form p acc c r hd hb hn ht =>
    cases h' with
    | done _ _ hp => exact (drop_none hd hp).elim
    | blank _ _ c' r' _ hd' hb' hx => rw [hd] at hd'; injection hd' with e; subst e; rw [hb] at hb'; cases hb'
    | many _ _ c' r' hd' hb' hn' => exact absurd hn' hn
    | form => rfl
    | tok _ _ c' r' _ _ _ _ hd' hb' hn' ht' => rw [hd] at hd'; rw [← hd', ht] at ht'; cases ht'
  | tok p acc c r k t n x hd hb hn ht _ ih =>
    cases h' with
    | done _ _ hp => exact (drop_none hd hp).elim
    | blank _ _ c' r' _ hd' hb' hx => rw [hd] at hd'; injection hd' with e; subst e; rw [hb] at hb'; cases hb'
    | many _ _ c' r' hd' hb' hn' => exact absurd hn' hn
    | form _ _ c' r' hd' hb' hn' ht' => rw [hd] at hd'; rw [← hd', ht] at ht'; cases ht'
    | tok _ _ c' r' k' t' n' _ hd' hb' hn' ht' hx =>
      rw [hd] at hd'
      rw [← hd', ht] at ht'
      injection ht' with e
      injection e with e1 e2
      injection e2 with e2 e3
      subst e1 e2 e3
      exact ih hx

theorem nextT_ok (c : UInt8) (r : List UInt8) (k : Int) (t : List UInt8) (n : Nat) (h : nextT (c :: r) = some (k, t, n)) : tokB k t = true ∧ 0 < n ∧ n ≤ (c :: r).length := by
  rw [nextT_raw] at h
  split at h
  · rename_i hb
    injection h with h
    have := rawT_pos c r hb
    rw [h] at hb this
    exact ⟨hb, this⟩
  · cases h

/-- what was read so far is right -/
structure Lexed (acc : List V3) (p : Nat) : Prop where
  few : acc.length ≤ 300
  each : ∀ v ∈ acc, tokB v.k v.t.data.toList = true ∧ 0 ≤ v.n ∧ v.n < p
  rise : ∀ i (h : i < acc.length), 0 < i → (acc[i - 1]).n < acc[i].n
theorem Lexed.zero (p : Nat) : Lexed [] p := ⟨by simp, fun v hv => by simp at hv, fun i h => by simp at h⟩
theorem Lexed.mono {acc : List V3} {p q : Nat} (h : Lexed acc p) (hp : p ≤ q) : Lexed acc q := ⟨h.few, fun v hv => ⟨(h.each v hv).1, (h.each v hv).2.1, by have := (h.each v hv).2.2; omega⟩, h.rise⟩
theorem Lexed.snoc {acc : List V3} {p n : Nat} {k : Int} {t : List UInt8} (h : Lexed acc p) (hf : acc.length ≠ 300) (ht : tokB k t = true) (hn : 0 < n) : Lexed (acc ++ [tokV k p t]) (p + n) := by
  refine ⟨by have := h.few; simp; omega, fun v hv => ?_, fun i hi h0 => ?_⟩
  · rcases List.mem_append.1 hv with hv | hv
    · have := h.each v hv; exact ⟨this.1, this.2.1, by omega⟩
    · simp at hv; subst hv; exact ⟨by simpa [tokV] using ht, by simp [tokV], by simp [tokV]; omega⟩
  · have hi' : i ≤ acc.length := by simp at hi; omega
    by_cases e : i = acc.length
    · subst e
      have h1 : acc.length - 1 < acc.length := by omega
      have := (h.each (acc[acc.length - 1]) (List.getElem_mem h1)).2.2
      rw [List.getElem_append_left (by omega)]
      simp [tokV]
      omega
    · rw [List.getElem_append_left (by omega), List.getElem_append_left (by omega)]
      exact h.rise i (by omega) h0
theorem LexTo.good {l : List UInt8} {p : Nat} {acc : List V3} {x : List V3 × Nat × Int} (h : LexTo l p acc x) (hp : p ≤ l.length) (hg : Lexed acc p) : (x.2.2 = 0 ∧ x.2.1 = 0 ∧ Lexed x.1 l.length) ∨ (x.2.2 ≠ 0 ∧ x.1 = [] ∧ x.2.1 ≤ l.length) := by
  induction h with
  | done p acc _ => exact .inl ⟨rfl, rfl, hg.mono hp⟩
  | blank p acc c r x hd hb _ ih =>
    have hlt : p < l.length := by
      have := congrArg List.length hd
      simp at this; omega
    exact ih (by omega) (hg.mono (by omega))
  | many p acc c r => exact .inr ⟨by simp, rfl, hp⟩
  | form p acc c r => exact .inr ⟨by simp, rfl, hp⟩
  | tok p acc c r k t n x hd hb hn ht _ ih =>
    obtain ⟨h1, h2, h3⟩ := nextT_ok c r k t n ht
    have hlt : l.length - p = (c :: r).length := by
      have := congrArg List.length hd
      rw [List.length_drop] at this
      exact this
    exact ih (by simp at h3 hlt; omega) (hg.snoc hn h1 h2)

/-- tokens with a blank between -/
def joinL : List V3 → List UInt8
  | [] => []
  | [v] => tokT v.k v.t.data.toList
  | v :: u :: r => tokT v.k v.t.data.toList ++ 32 :: joinL (u :: r)

theorem takeW_run (p : UInt8 → Bool) (l r : List UInt8) (hl : ∀ x ∈ l, p x = true) (hr : r = [] ∨ ∃ q, r = 32 :: q) (h32 : p 32 = false) : (l ++ r).takeWhile p = l := by
  induction l with
  | nil =>
    rcases hr with rfl | ⟨q, rfl⟩
    · rfl
    · simp [h32]
  | cons a l ih =>
    rw [List.cons_append, List.takeWhile_cons, if_pos (hl a (by simp)), ih (fun x hx => hl x (by simp [hx]))]

theorem nameL_parts (l : List UInt8) (h : nameL l = true) : ∃ c r, l = c :: r ∧ letB (c.toNat : Int) = true ∧ ∀ x ∈ r, nmb x = true := by
  unfold nameL nameB at h
  rw [decide_eq_true_iff] at h
  obtain ⟨h0, h1, hall⟩ := h
  have hsz : (⟨l.toArray⟩ : ByteArray).size = l.length := by simp [ByteArray.size]
  cases l with
  | nil => rw [hsz] at h0; simp at h0
  | cons c r =>
    refine ⟨c, r, rfl, ?_, fun x hx => ?_⟩
    · have := hall 0 (by rw [hsz]; simp)
      simpa [namePart, ByteArray.getElem_eq_getElem_data] using this
    · obtain ⟨i, hi, rfl⟩ := List.mem_iff_getElem.1 hx
      have := hall (i + 1) (by rw [hsz]; simp; omega)
      simpa [namePart, nmb, ByteArray.getElem_eq_getElem_data] using this
theorem blank_is (c : UInt8) (h : blankC c = true) : c = 32 ∨ c = 9 ∨ c = 10 := by
  simp [blankC] at h
  rcases h with (h | h) | h
  · exact .inl h
  · exact .inr (.inl h)
  · exact .inr (.inr h)
theorem letB_blank (c : UInt8) (h : letB (c.toNat : Int) = true) : blankC c = false := by
  cases hb : blankC c
  · rfl
  · rcases blank_is c hb with rfl | rfl | rfl <;> exact absurd h (by decide)
theorem digB_facts (c : UInt8) (h : digB (c.toNat : Int) = true) : blankC c = false ∧ letB (c.toNat : Int) = false := by
  constructor
  · cases hb : blankC c
    · rfl
    · rcases blank_is c hb with rfl | rfl | rfl <;> exact absurd h (by decide)
  · simp [digB] at h
    simp [letB]
    omega

theorem scanQ_esc_run (t r : List UInt8) (h : t.all okC = true) : scanQ (t.flatMap escC ++ 39 :: r) = some (t, r) := by
  induction t with
  | nil => exact scanQ_end r
  | cons c t ih =>
    simp only [List.all_cons, Bool.and_eq_true] at h
    rw [List.flatMap_cons]
    unfold escC
    by_cases hc : c = 39 ∨ c = 92
    · rw [if_pos hc, List.append_assoc]
      show scanQ (92 :: c :: (t.flatMap escC ++ 39 :: r)) = _
      rw [scanQ_esc _ _ hc, ih h.2]; rfl
    · rw [if_neg hc, List.append_assoc]
      show scanQ (c :: (t.flatMap escC ++ 39 :: r)) = _
      rw [scanQ_plain _ _ (fun e => hc (.inl e)) (fun e => hc (.inr e)) h.1, ih h.2]; rfl

theorem nextT_name (c : UInt8) (r q : List UInt8) (k : Int) (hc : letB (c.toNat : Int) = true) (hr : ∀ x ∈ r, nmb x = true) (hq : q = [] ∨ ∃ q', q = 32 :: q') (hl : (c :: r).length ≤ 20) (hk : k = if wordB (c :: r) = true then 2 else 1) :
    nextT (c :: (r ++ q)) = some (k, c :: r, (c :: r).length) := by
  rw [nextT_let c _ hc, takeW_run nmb r q hr hq (by decide), if_pos hl, hk]

theorem nextT_back (k : Int) (t q : List UInt8) (h : tokB k t = true) (hq : q = [] ∨ ∃ q', q = 32 :: q') :
    ∃ c r, tokT k t ++ q = c :: r ∧ blankC c = false ∧ nextT (c :: r) = some (k, t, (tokT k t).length) := by
  unfold tokB at h
  by_cases h1 : k = 1
  · subst h1
    simp only [if_true, Bool.and_eq_true, decide_eq_true_iff, Bool.not_eq_true'] at h
    obtain ⟨⟨hl, hn⟩, hw⟩ := h
    obtain ⟨c, r, rfl, hc, hr⟩ := nameL_parts t hn
    exact ⟨c, r ++ q, rfl, letB_blank c hc, nextT_name c r q 1 hc hr hq hl (by simp [hw])⟩
  rw [if_neg h1] at h
  by_cases h2 : k = 2
  · subst h2
    rw [if_pos rfl] at h
    have hn : ∀ w ∈ srcWords, nameL w = true := by decide
    have hm : t ∈ srcWords := by
      simp only [wordB, List.any_eq_true] at h
      obtain ⟨w, hw, e⟩ := h
      rw [← eq_of_beq e]; exact hw
    have hlen := wordB_len h
    obtain ⟨c, r, rfl, hc, hr⟩ := nameL_parts t (hn t hm)
    exact ⟨c, r ++ q, rfl, letB_blank c hc, nextT_name c r q 2 hc hr hq (by omega) (by simp [h])⟩
  rw [if_neg h2] at h
  by_cases h3 : k = 3
  · subst h3
    rw [if_pos rfl] at h
    simp only [Bool.and_eq_true, decide_eq_true_iff] at h
    obtain ⟨hd, hv⟩ := h
    have hall : t ≠ [] ∧ ∀ c ∈ t, dgt c = true := by
      unfold digP at hd
      split at hd
      · simp at hd
      · rename_i hx
        refine ⟨fun e => hx (.inl (by rw [e]; rfl)), fun c hc => ?_⟩
        cases hg : dgt c with
        | true => rfl
        | false => exact absurd (.inr (.inr (.inr ⟨c, hc, hg⟩))) hx
    obtain ⟨hne, hall⟩ := hall
    cases t with
    | nil => exact absurd rfl hne
    | cons c r =>
      have hc := digB_facts c (hall c (by simp))
      refine ⟨c, r ++ q, rfl, hc.1, ?_⟩
      rw [nextT_dig c _ hc.2 (hall c (by simp)), takeW_run dgt r q (fun x hx => hall x (by simp [hx])) hq (by decide), if_pos ⟨hd, hv⟩]
      rfl
  rw [if_neg h3] at h
  by_cases h4 : k = 4
  · subst h4
    rw [if_pos rfl] at h
    simp only [plainB, Bool.and_eq_true, decide_eq_true_iff] at h
    refine ⟨39, t.flatMap escC ++ 39 :: q, by simp [tokT, quoteL], by decide, ?_⟩
    rw [nextT_quote, scanQ_esc_run t q h.2]
    dsimp only
    rw [if_pos h.1]
    simp [tokT, quoteL]
    omega
  rw [if_neg h4] at h
  by_cases h5 : k = 5
  · subst h5
    rw [if_pos rfl] at h
    have hm : t ∈ srcSigns := by
      simp only [signB, List.any_eq_true] at h
      obtain ⟨w, hw, e⟩ := h
      rw [← eq_of_beq e]; exact hw
    have hs : ∀ g ∈ srcSigns, (∃ c r, g = c :: r ∧ blankC c = false ∧ letB (c.toNat : Int) = false ∧ digB (c.toNat : Int) = false ∧ c ≠ 39) := by
      intro g hg
      simp only [srcSigns, List.mem_cons, List.not_mem_nil, or_false] at hg
      rcases hg with rfl | rfl | rfl | rfl | rfl | rfl | rfl | rfl | rfl | rfl | rfl | rfl | rfl | rfl | rfl | rfl | rfl
      all_goals exact ⟨_, _, rfl, by decide, by decide, by decide, by decide⟩
    obtain ⟨c, r, rfl, hb, hl, hd, h39⟩ := hs t hm
    have hsg : signT (c :: r ++ q) = some (c :: r).length := by
      simp only [srcSigns, List.mem_cons, List.not_mem_nil, or_false] at hm
      rcases hq with rfl | ⟨q', rfl⟩
      all_goals
        rcases hm with hm | hm | hm | hm | hm | hm | hm | hm | hm | hm | hm | hm | hm | hm | hm | hm | hm
      all_goals
        injection hm with e1 e2
        subst e1 e2
        simp [signT, oneSigns]
    refine ⟨c, r ++ q, rfl, hb, ?_⟩
    rw [nextT_sign c _ hl hd h39]
    rw [show c :: (r ++ q) = c :: r ++ q from rfl, hsg]
    simp [tokT]
  · rw [if_neg h5] at h; cases h

theorem lex_back (l : List UInt8) : ∀ (toks acc : List V3) (pre : List UInt8), (∀ v ∈ toks, tokB v.k v.t.data.toList = true) → acc.length + toks.length ≤ 300 → l = pre ++ joinL toks →
    ∃ back : List V3, LexTo l pre.length acc (acc ++ back, 0, 0) ∧ back.map (fun v => (v.k, v.t)) = toks.map (fun v => (v.k, v.t)) := by
  intro toks
  induction toks with
  | nil =>
    intro acc pre _ _ hl
    refine ⟨[], ?_, rfl⟩
    rw [List.append_nil]
    exact .done _ _ (by rw [hl]; simp [joinL])
  | cons v r ih =>
    intro acc pre hall hlen hl
    have hv := hall v (by simp)
    have eta : ∀ t : ByteArray, (⟨t.data.toList.toArray⟩ : ByteArray) = t := fun t => rfl
    simp only [List.length_cons] at hlen
    cases r with
    | nil =>
      obtain ⟨c, r, hcr, hb, hn⟩ := nextT_back v.k v.t.data.toList [] hv (.inl rfl)
      refine ⟨[tokV v.k pre.length v.t.data.toList], ?_, by simp [tokV]⟩
      have hd : l.drop pre.length = c :: r := by
        rw [hl, List.drop_left]
        rw [List.append_nil] at hcr
        exact hcr
      refine .tok _ _ c r v.k v.t.data.toList _ _ hd hb (by omega) hn (.done _ _ ?_)
      rw [hl]; simp [joinL]
    | cons u r =>
      obtain ⟨c, q, hcr, hb, hn⟩ := nextT_back v.k v.t.data.toList (32 :: joinL (u :: r)) hv (.inr ⟨_, rfl⟩)
      obtain ⟨back, hx, hm⟩ := ih (acc ++ [tokV v.k pre.length v.t.data.toList]) (pre ++ (tokT v.k v.t.data.toList ++ [32])) (fun x hx => hall x (by simp [hx])) (by simp at hlen ⊢; omega) (by rw [hl]; simp [joinL])
      refine ⟨tokV v.k pre.length v.t.data.toList :: back, ?_, by simp [tokV, hm]⟩
      have hd : l.drop pre.length = c :: q := by
        rw [hl, List.drop_left]
        exact hcr
      refine .tok _ _ c q v.k v.t.data.toList _ _ hd hb (by omega) hn ?_
      have hd2 : l.drop (pre.length + (tokT v.k v.t.data.toList).length) = 32 :: joinL (u :: r) := by
        rw [hl, show joinL (v :: u :: r) = tokT v.k v.t.data.toList ++ 32 :: joinL (u :: r) from rfl, ← List.append_assoc, ← List.length_append, List.drop_left]
      refine .blank _ _ 32 _ _ hd2 (by decide) ?_
      have e : (pre ++ (tokT v.k v.t.data.toList ++ [32])).length = pre.length + (tokT v.k v.t.data.toList).length + 1 := by simp; omega
      rw [e] at hx
      rw [show acc ++ tokV v.k pre.length v.t.data.toList :: back = acc ++ [tokV v.k pre.length v.t.data.toList] ++ back by simp]
      exact hx

end Go.Proofs.YtbipgmikgokfpaaDoor

/- ByteEq -/
namespace Go.Proofs.YtbipgmikgokfpaaDoor
set_option linter.unusedVariables false

theorem ba_list {a b : ByteArray} (h : a.data.toList = b.data.toList) : a = b := by
  apply ByteArray.ext
  exact Array.toList_inj.1 h
theorem ba_self (a : ByteArray) : (a == a) = true := by
  cases a
  rename_i d
  show (d == d) = true
  simp
theorem ba_of {a b : ByteArray} (h : (a == b) = true) : a = b := by
  have : a.data == b.data := by cases a; cases b; exact h
  apply ByteArray.ext
  exact eq_of_beq this
theorem ba_ne {a b : ByteArray} (h : a ≠ b) : (a == b) = false := by
  cases hb : (a == b)
  · rfl
  · exact absurd (ba_of hb) h
theorem ba_nself (a : ByteArray) : (a != a) = false := by simp [bne, ba_self]
theorem ba_nne {a b : ByteArray} (h : a ≠ b) : (a != b) = true := by simp [bne, ba_ne h]
theorem bl_self (a : ByteArray) : (a.toList == a.toList) = true := by simp
theorem bl_ne {a b : ByteArray} (h : a ≠ b) : (a.toList == b.toList) = false := beq_eq_false_iff_ne.2 fun e => h (ba_list (by rw [← ByteArray.toList_eq, ← ByteArray.toList_eq, e]))
theorem bl_nself (a : ByteArray) : (a.toList != a.toList) = false := by simp [bne]
theorem bl_nne {a b : ByteArray} (h : a ≠ b) : (a.toList != b.toList) = true := by simp [bne, bl_ne h]
theorem bl_not {a b : ByteArray} (h : a ≠ b) : ¬ a.toList = b.toList := fun e => h (ba_list (by rw [← ByteArray.toList_eq, ← ByteArray.toList_eq, e]))

def kindAt (ns : List TN) (j : Int) : Int := ((ns[j.toNat]?).map (·.k)).getD 0
def textAt (ns : List TN) (j : Int) : ByteArray := ((ns[j.toNat]?).map (·.t)).getD ⟨#[]⟩
theorem kindAt_of {ns : List TN} {j : Int} {x : TN} (h : ns[j.toNat]? = some x) : kindAt ns j = x.k := by unfold kindAt; rw [h]; rfl
theorem textAt_of {ns : List TN} {j : Int} {x : TN} (h : ns[j.toNat]? = some x) : textAt ns j = x.t := by unfold textAt; rw [h]; rfl
/-- the functions among some kids -/
def fnsIn (ns : List TN) (ks : List Int) : List Int := ks.filter fun j => kindAt ns j == 20
theorem fnsIn_yes {ns : List TN} {ks : List Int} {m : Nat} (h : m < ks.length) (hk : kindAt ns ks[m] = 20) : fnsIn ns (ks.take (m + 1)) = fnsIn ns (ks.take m) ++ [ks[m]] := by
  unfold fnsIn
  rw [List.take_succ_eq_append_getElem h, List.filter_append, List.filter_cons_of_pos (by rw [hk]; rfl)]; rfl
theorem fnsIn_no {ns : List TN} {ks : List Int} {m : Nat} (h : m < ks.length) (hk : kindAt ns ks[m] ≠ 20) : fnsIn ns (ks.take (m + 1)) = fnsIn ns (ks.take m) := by
  unfold fnsIn
  rw [List.take_succ_eq_append_getElem h, List.filter_append, List.filter_cons_of_neg (by simpa using hk)]; simp
theorem fnsIn_len (ns : List TN) (ks : List Int) : (fnsIn ns ks).length ≤ ks.length := List.length_filter_le _ _
theorem fnsIn_mem {ns : List TN} {ks : List Int} {j : Int} : j ∈ fnsIn ns ks ↔ j ∈ ks ∧ kindAt ns j = 20 := by
  unfold fnsIn; rw [List.mem_filter]; simp
/-- the kids of the outmost block -/
def rootKids (ns : List TN) (root : Int) : List Int := ((ns[root.toNat]?).map (·.kids)).getD []
theorem rootKids_of {ns : List TN} {root : Int} {x : TN} (h : ns[root.toNat]? = some x) : rootKids ns root = x.kids := by unfold rootKids; rw [h]; rfl
def funsOf (ns : List TN) (root : Int) : List Int := fnsIn ns (rootKids ns root)
def namesF (ns : List TN) (root : Int) : List ByteArray := (funsOf ns root).map (textAt ns)
/-- where a name is first among some -/
def keysB (l : List ByteArray) : List (List UInt8) := l.map fun t => t.data.toList
theorem keysB_mem {l : List ByteArray} {s : ByteArray} : s.data.toList ∈ keysB l ↔ s ∈ l := by
  unfold keysB
  rw [List.mem_map]
  exact ⟨fun ⟨t, ht, e⟩ => ba_list e ▸ ht, fun h => ⟨s, h, rfl⟩⟩
def placeIn (l : List ByteArray) (s : ByteArray) : Option Int := if s.data.toList ∈ keysB l then some (((keysB l).idxOf s.data.toList : Nat) : Int) else none
theorem placeIn_nil : placeIn [] = fun _ => none := by funext s; simp [placeIn, keysB]
theorem placeIn_mem {l : List ByteArray} {s : ByteArray} (h : s ∈ l) : (placeIn l s).isSome = true := by
  unfold placeIn; rw [if_pos (keysB_mem.2 h)]; rfl
theorem placeIn_not {l : List ByteArray} {s : ByteArray} (h : s ∉ l) : (placeIn l s).isSome = false := by
  unfold placeIn; rw [if_neg (fun hm => h (keysB_mem.1 hm))]; rfl
theorem placeIn_new {l : List ByteArray} {s : ByteArray} (h : s ∉ l) : placeIn (l ++ [s]) = fun t => if t.data.toList = s.data.toList then some ((l.length : Nat) : Int) else placeIn l t := by
  funext t
  have e0 : keysB (l ++ [s]) = keysB l ++ [s.data.toList] := by simp [keysB]
  have el : (keysB l).length = l.length := by simp [keysB]
  unfold placeIn
  rw [e0]
  by_cases e : t.data.toList = s.data.toList
  · rw [if_pos e, if_pos (by simp [e]), e, List.idxOf_append, if_neg (fun hm => h (keysB_mem.1 hm))]
    simp [el]
  · rw [if_neg e]
    by_cases hm : t.data.toList ∈ keysB l
    · rw [if_pos (by simp [hm]), if_pos hm, List.idxOf_append, if_pos hm]
    · rw [if_neg (by simp [hm, e]), if_neg hm]
theorem placeIn_old {l : List ByteArray} {s : ByteArray} (h : s ∈ l) : placeIn (l ++ [s]) = placeIn l := by
  funext t
  have e0 : keysB (l ++ [s]) = keysB l ++ [s.data.toList] := by simp [keysB]
  have hs := keysB_mem.2 h
  unfold placeIn
  rw [e0]
  by_cases hm : t.data.toList ∈ keysB l
  · rw [if_pos (by simp [hm]), if_pos hm, List.idxOf_append, if_pos hm]
  · have : t.data.toList ≠ s.data.toList := fun e => hm (e ▸ hs)
    rw [if_neg (by simp [hm, this]), if_neg hm]
theorem placeIn_first {l r : List ByteArray} {s : ByteArray} (h : s ∉ l) : placeIn (l ++ s :: r) s = some ((l.length : Nat) : Int) := by
  have e0 : keysB (l ++ s :: r) = keysB l ++ s.data.toList :: keysB r := by simp [keysB]
  have el : (keysB l).length = l.length := by simp [keysB]
  unfold placeIn
  rw [e0, if_pos (by simp), List.idxOf_append, if_neg (fun hm => h (keysB_mem.1 hm))]
  simp [el]
/-- who has a name first -/
theorem placeIn_get {l : List ByteArray} {s : ByteArray} (h : s ∈ l) : ∃ i : Nat, placeIn l s = some (i : Int) ∧ ∃ hi : i < l.length, l[i] = s ∧ ∀ j (hj : j < l.length), l[j] = s → i ≤ j := by
  have hm := keysB_mem.2 h
  have hlt := List.idxOf_lt_length_of_mem hm
  have el : (keysB l).length = l.length := by simp [keysB]
  refine ⟨(keysB l).idxOf s.data.toList, by unfold placeIn; rw [if_pos hm], by omega, ?_, ?_⟩
  · have e := List.getElem_idxOf hlt
    have e2 : (keysB l)[(keysB l).idxOf s.data.toList] = (l[(keysB l).idxOf s.data.toList]'(by omega)).data.toList := List.getElem_map _
    rw [e2] at e
    exact ba_list e
  · intro j hj e
    have e2 : (keysB l)[j]'(by omega) = s.data.toList := (List.getElem_map _).trans (by rw [e])
    refine Nat.le_of_not_lt fun hlt2 => ?_
    have := List.not_of_lt_findIdx (p := (· == s.data.toList)) (xs := keysB l) hlt2
    rw [e2] at this
    simp at this

/-- what a node adds behind its kids: the function that it calls, if it is new -/
def addC (F : ByteArray → Prop) (x : TN) (acc acc' : List ByteArray) : Prop := ((x.k = 10 ∧ F x.t ∧ x.t ∉ acc) ∧ acc' = acc ++ [x.t]) ∨ (¬ (x.k = 10 ∧ F x.t ∧ x.t ∉ acc) ∧ acc' = acc)
theorem addC.det {F : ByteArray → Prop} {x : TN} {a b c : List ByteArray} (h : addC F x a b) (h' : addC F x a c) : b = c := by
  rcases h with ⟨h, rfl⟩ | ⟨h, rfl⟩ <;> rcases h' with ⟨h', rfl⟩ | ⟨h', rfl⟩
  · rfl
  · exact absurd h h'
  · exact absurd h' h
  · rfl
theorem addC.ex (F : ByteArray → Prop) (x : TN) (a : List ByteArray) : ∃ b, addC F x a b := by
  by_cases h : x.k = 10 ∧ F x.t ∧ x.t ∉ a
  · exact ⟨_, .inl ⟨h, rfl⟩⟩
  · exact ⟨_, .inr ⟨h, rfl⟩⟩
theorem addC.len {F : ByteArray → Prop} {x : TN} {a b : List ByteArray} (h : addC F x a b) : a.length ≤ b.length ∧ b.length ≤ a.length + 1 := by
  rcases h with ⟨h, rfl⟩ | ⟨h, rfl⟩ <;> simp
theorem addC.mem {F : ByteArray → Prop} {x : TN} {a b : List ByteArray} (h : addC F x a b) : ∀ s ∈ b, s ∈ a ∨ F s := by
  rcases h with ⟨h, rfl⟩ | ⟨h, rfl⟩
  · intro s hs
    rcases List.mem_append.1 hs with hs | hs
    · exact .inl hs
    · rw [List.mem_singleton] at hs; subst hs; exact .inr h.2.1
  · exact fun s hs => .inl hs
/-- the functions that are called from these nodes on (functions are passed over), behind those that are there -/
inductive CallsR (ns : List TN) (F : ByteArray → Prop) : List Int → List ByteArray → List ByteArray → Prop
  | nil (acc : List ByteArray) : CallsR ns F [] acc acc
  | skip (j : Int) (x : TN) (ks : List Int) (acc acc' : List ByteArray) : 0 ≤ j → ns[j.toNat]? = some x → x.k = 20 → CallsR ns F ks acc acc' → CallsR ns F (j :: ks) acc acc'
  | cons (j : Int) (x : TN) (ks : List Int) (acc a1 a2 acc' : List ByteArray) : 0 ≤ j → ns[j.toNat]? = some x → x.k ≠ 20 → CallsR ns F x.kids acc a1 → addC F x a1 a2 → CallsR ns F ks a2 acc' → CallsR ns F (j :: ks) acc acc'
theorem CallsR.det {ns : List TN} {F : ByteArray → Prop} {ks : List Int} {a b c : List ByteArray} (h : CallsR ns F ks a b) (h' : CallsR ns F ks a c) : b = c := by
  induction h generalizing c with
  | nil acc => cases h'; rfl
  | skip j x ks acc acc' h0 hx hk h ih =>
    cases h' with
    | skip _ _ _ _ _ _ _ _ g => exact ih g
    | cons _ x' _ _ _ _ _ _ hx' hk' =>
      rw [hx] at hx'
      obtain rfl := Option.some.inj hx'
      exact absurd hk hk'
  | cons j x ks acc a1 a2 acc' h0 hx hk h1 h2 h3 ih1 ih3 =>
    cases h' with
    | skip _ x' _ _ _ _ hx' hk' g =>
      rw [hx] at hx'
      obtain rfl := Option.some.inj hx'
      exact absurd hk' hk
    | cons _ x' _ _ b1 b2 _ _ hx' hk' g1 g2 g3 =>
      rw [hx] at hx'
      obtain rfl := Option.some.inj hx'
      obtain rfl := ih1 g1
      obtain rfl := h2.det g2
      exact ih3 g3
theorem CallsR.append {ns : List TN} {F : ByteArray → Prop} {us bs : List Int} {a b c : List ByteArray} (h : CallsR ns F us a b) (h' : CallsR ns F bs b c) : CallsR ns F (us ++ bs) a c := by
  induction h with
  | nil acc => exact h'
  | skip j x ks acc acc' h0 hx hk h ih => exact .skip j x _ _ _ h0 hx hk (ih h')
  | cons j x ks acc a1 a2 acc' h0 hx hk h1 h2 h3 ih1 ih3 => exact .cons j x _ _ a1 a2 _ h0 hx hk h1 h2 (ih3 h')
theorem CallsR.ex {ns : List TN} (F : ByteArray → Prop) {ks : List Int} {l : List Nat} {d : Nat} (h : Vis ns ks l d) : ∀ a, ∃ b, CallsR ns F ks a b ∧ a.length ≤ b.length ∧ b.length ≤ a.length + l.length := by
  induction h with
  | nil => exact fun a => ⟨a, .nil a, by omega, by omega⟩
  | cons j x ks l1 l2 d1 d2 h0 hx h1 h2 ih1 ih2 =>
    intro a
    by_cases hk : x.k = 20
    · obtain ⟨b, hb, hl, hu⟩ := ih2 a
      exact ⟨b, .skip j x ks a b h0 hx hk hb, hl, by simp; omega⟩
    · obtain ⟨b1, hb1, hl1, hu1⟩ := ih1 a
      obtain ⟨b2, hb2⟩ := addC.ex F x b1
      obtain ⟨b3, hb3, hl3, hu3⟩ := ih2 b2
      have := hb2.len
      exact ⟨b3, .cons j x ks a b1 b2 b3 h0 hx hk hb1 hb2 hb3, by omega, by simp; omega⟩
theorem CallsR.mem {ns : List TN} {F : ByteArray → Prop} {ks : List Int} {a b : List ByteArray} (h : CallsR ns F ks a b) : ∀ s ∈ b, s ∈ a ∨ F s := by
  induction h with
  | nil acc => exact fun s hs => .inl hs
  | skip j x ks acc acc' h0 hx hk h ih => exact ih
  | cons j x ks acc a1 a2 acc' h0 hx hk h1 h2 h3 ih1 ih3 =>
    intro s hs
    rcases ih3 s hs with hs | hs
    · rcases h2.mem s hs with hs | hs
      · exact ih1 s hs
      · exact .inr hs
    · exact .inr hs
/-- the functions that are called from a node on, itself with it -/
def NodeC (ns : List TN) (F : ByteArray → Prop) (j : Int) (acc acc' : List ByteArray) : Prop := ∃ x a1, 0 ≤ j ∧ ns[j.toNat]? = some x ∧ CallsR ns F x.kids acc a1 ∧ addC F x a1 acc'
theorem NodeC.det {ns : List TN} {F : ByteArray → Prop} {j : Int} {a b c : List ByteArray} (h : NodeC ns F j a b) (h' : NodeC ns F j a c) : b = c := by
  obtain ⟨x, a1, h0, hx, h1, h2⟩ := h
  obtain ⟨x', b1, _, hx', g1, g2⟩ := h'
  rw [hx] at hx'
  obtain rfl := Option.some.inj hx'
  obtain rfl := h1.det g1
  exact h2.det g2
theorem NodeC.ex {ns : List TN} (F : ByteArray → Prop) {j : Int} {l : List Nat} {d : Nat} (h : Vis ns [j] l d) (a : List ByteArray) : ∃ b, NodeC ns F j a b ∧ a.length ≤ b.length ∧ b.length ≤ a.length + l.length := by
  obtain ⟨x, l1, l2, d1, d2, h0, hx, v1, v2, rfl, rfl⟩ := h.inv
  obtain ⟨b1, hb1, hl1, hu1⟩ := CallsR.ex F v1 a
  obtain ⟨b2, hb2⟩ := addC.ex F x b1
  have := hb2.len
  exact ⟨b2, ⟨x, b1, h0, hx, hb1, hb2⟩, by omega, by simp; omega⟩
theorem NodeC.mem {ns : List TN} {F : ByteArray → Prop} {j : Int} {a b : List ByteArray} (h : NodeC ns F j a b) : ∀ s ∈ b, s ∈ a ∨ F s := by
  obtain ⟨x, a1, h0, hx, h1, h2⟩ := h
  intro s hs
  rcases h2.mem s hs with hs | hs
  · exact h1.mem s hs
  · exact .inr hs
/-- one kid more -/
theorem CallsR.snoc_no {ns : List TN} {F : ByteArray → Prop} {ks : List Int} {m : Nat} {a b c : List ByteArray} (h : CallsR ns F (ks.take m) a b) (hm : m < ks.length) {x : TN} (h0 : 0 ≤ ks[m]) (hx : ns[ks[m].toNat]? = some x) (hk : x.k ≠ 20) (hn : NodeC ns F ks[m] b c) : CallsR ns F (ks.take (m + 1)) a c := by
  rw [List.take_succ_eq_append_getElem hm]
  obtain ⟨x', a1, _, hx', g1, g2⟩ := hn
  rw [hx] at hx'
  obtain rfl := Option.some.inj hx'
  exact h.append (.cons _ x [] _ a1 c c h0 hx hk g1 g2 (.nil _))
theorem CallsR.snoc_yes {ns : List TN} {F : ByteArray → Prop} {ks : List Int} {m : Nat} {a b : List ByteArray} (h : CallsR ns F (ks.take m) a b) (hm : m < ks.length) {x : TN} (h0 : 0 ≤ ks[m]) (hx : ns[ks[m].toNat]? = some x) (hk : x.k = 20) : CallsR ns F (ks.take (m + 1)) a b := by
  rw [List.take_succ_eq_append_getElem hm]
  exact h.append (.skip _ x [] _ _ h0 hx hk (.nil _))

end Go.Proofs.YtbipgmikgokfpaaDoor

/- DepthWalk -/
namespace Go.Proofs.YtbipgmikgokfpaaDoor
open Go.RowKit Go.Joins
set_option linter.unusedVariables false

theorem Vis.depth_le {ns : List TN} {ks : List Int} {l : List Nat} {d : Nat} (h : Vis ns ks l d) : d ≤ l.length := by
  induction h with
  | nil => simp
  | cons j x ks l1 l2 d1 d2 h0 hx h1 h2 ih1 ih2 => simp; omega
/-- what a call that measures depth answers -/
def DepthRes (ns : List TN) (root r c : Int) : Prop := (¬ TreeOkP ns root ∧ r = 0 ∧ c = 1) ∨ ∃ l d, TreeP ns root l d ∧ r = ((d : Nat) : Int) ∧ c = 0
theorem DepthRes.det {ns : List TN} {root r c r' c' : Int} (h : DepthRes ns root r c) (h' : DepthRes ns root r' c') : r = r' ∧ c = c' := by
  rcases h with ⟨a, rfl, rfl⟩ | ⟨l, d, a, rfl, rfl⟩ <;> rcases h' with ⟨a', rfl, rfl⟩ | ⟨l', d', a', rfl, rfl⟩
  · exact ⟨rfl, rfl⟩
  · exact absurd ⟨_, _, a'⟩ a
  · exact absurd ⟨_, _, a⟩ a'
  · obtain ⟨_, rfl⟩ := a.2.1.det a'.2.1
    exact ⟨rfl, rfl⟩

theorem Vis.take_succ {ns : List TN} {ks : List Int} {m : Nat} {j : Int} {l l' : List Nat} {d d' : Nat} (h : Vis ns (ks.take m) l d) (hj : ks[m]? = some j) (h' : Vis ns [j] l' d') : Vis ns (ks.take (m + 1)) (l ++ l') (max d d') := by
  obtain ⟨hm, e⟩ := List.getElem?_eq_some_iff.1 hj
  rw [List.take_succ_eq_append_getElem hm, e]
  exact h.append h'
theorem Vis.at {ns : List TN} {ks : List Int} {l : List Nat} {d m : Nat} {j : Int} (h : Vis ns ks l d) (hj : ks[m]? = some j) : ∃ l' d', Vis ns [j] l' d' ∧ (∀ y ∈ l', y ∈ l) ∧ d' ≤ d ∧ 0 ≤ j ∧ l'.length ≤ l.length := by
  obtain ⟨hm, e⟩ := List.getElem?_eq_some_iff.1 hj
  have e1 : ks = ks.take m ++ ([j] ++ ks.drop (m + 1)) := by
    rw [← e]
    simp
  rw [e1] at h
  obtain ⟨a1, a2, b1, b2, v1, v2, rfl, rfl⟩ := h.split
  obtain ⟨c1, c2, f1, f2, u1, u2, rfl, rfl⟩ := v2.split
  refine ⟨c1, f1, u1, fun y hy => by simp [hy], by omega, (u1.tops j (by simp)).1, by simp; omega⟩

set_option maxHeartbeats 1000000 in
set_option maxRecDepth 100000 in
theorem depth_any (ns : List TN) (L : Lay) (loc : Nat → Nat) (A : Nat → Prop) (w : World) (l0 : List Nat) (hbr : Hid (∀ y ∈ l0, BrIn w A L ns loc y)) (hks : Hid (∀ n ∈ ns, n.kids.length ≤ 1048576)) : ∀ (D d x : Nat) (l : List Nat), d ≤ D → Vis ns [(x : Int)] l d → (∀ y ∈ l, y ∈ l0) → d ≤ 1000 →
    Calls Tryd.prog 58 #[.pointer (some ⟨loc x, 0, none⟩)] w fun e w' => e = .returned (.int .i64 (d : Int)) ∧ w' = w := by
  intro D
  induction D with
  | zero =>
    intro d x l hd hv
    obtain ⟨_, _, _, _, _, _, _, _, _, _, rfl⟩ := hv.inv
    omega
  | succ D ih =>
    intro d x l hd hv hl0 hd1
    obtain ⟨n, l1, l2, d1, d2, h0, hx, v1, v2, rfl, rfl⟩ := hv.inv
    cases v2
    rw [Int.toNat_natCast] at hx hl0
    rw [List.append_nil] at hl0
    obtain ⟨n', pb, cb, hx', _, c0, c1, c2, c3, c4, c5, c7, hP, _⟩ := unhide hbr x (hl0 x (by simp))
    rw [hx] at hx'
    obtain rfl := Option.some.inj hx'
    rw [show max (d1 + 1) 0 = d1 + 1 by omega] at hd hd1 ⊢
    have IH := hide ih
    have HP := hide hP
    have HV := hide v1
    have HL0 : Hid (∀ y ∈ l1, y ∈ l0) := hide (fun y hy => hl0 y (by simp [hy]))
    have hkl : n.kids.length ≤ 1048576 := unhide hks n (List.mem_of_getElem? hx)
    clear ih hP v1 hl0 hv c0 c1 c2 c3 c4 c5
    generalize loc x = gx at c7
    go_enter Tryd.func58, Tryd.ntmps58
    go_wp2
    go_loopw [3, 11] (fun s i wx => ∃ (m dm : Nat) (lm : List Nat), m ≤ n.kids.length ∧ i = .int .i64 m ∧ s = .int .i64 (dm : Int) ∧ dm ≤ d1 ∧ Hid (Vis ns (n.kids.take m) lm dm) ∧ Hid (wx = w)) (fun _ i _ => n.kids.length - (intOf i).toNat)
    case atStart => exact ⟨0, 0, [], by omega, rfl, rfl, by omega, hide (by simpa using Vis.nil), hide rfl⟩
    case round =>
      obtain ⟨m, dm, lm, hm, rfl, rfl, hdm, hvm, hw⟩ := hrel
      obtain rfl := unhide hw
      by_cases hlt : m < n.kids.length
      · have hlt' : m < (n.kids.map fun j => loc j.toNat).length := by rw [List.length_map]; exact hlt
        obtain ⟨bp, hpb, _, y9⟩ := unhide HP m hlt'
        subst hpb
        have y0 : wr.cell? ⟨bp, m, none⟩ = some (.pointer (some ⟨loc n.kids[m].toNat, 0, none⟩)) := by
          rw [List.getElem_map] at y9
          exact y9
        clear y9
        have hj : Hid (n.kids[m]? = some n.kids[m]) := hide (List.getElem?_eq_getElem hlt)
        obtain ⟨lj, dj, vj, hlj, hdj, hj0, _⟩ := (unhide HV).at (unhide hj)
        have hjx : n.kids[m] = ((n.kids[m].toNat : Nat) : Int) := (Int.toNat_of_nonneg hj0).symm
        have HC := hide (unhide IH dj n.kids[m].toNat lj (by omega) (by rw [← hjx]; exact vj) (fun y hy => unhide HL0 y (hlj y hy)) (by omega))
        have hnv := hide ((unhide hvm).take_succ (unhide hj) vj)
        clear vj hlj hjx hlt'
        generalize loc n.kids[m].toNat = gj at y0 HC
        go_wp2_with fail
        refine (unhide HC).mono ?_
        rintro e w9 ⟨rfl, rfl⟩
        have hmx : (if dm < dj then (dj : Int) else (dm : Int)) = ((max dm dj : Nat) : Int) := by split <;> omega
        go_wp2
        go_roundw
        case rel => exact ⟨m + 1, max dm dj, lm ++ lj, by omega, by go_num, rfl, by omega, hide (unhide hnv), hide trivial⟩
        case measure => simp [intOf]; omega
      · have hdd : dm = d1 := by
          have h1 := unhide hvm
          rw [show m = n.kids.length by omega, List.take_length] at h1
          exact (h1.det (unhide HV)).2
        subst hdd
        go_wp2
        go_ret
        exact ⟨rfl, rfl⟩

set_option maxRecDepth 100000 in
theorem implTreeDepth_any (ns : List TN) (root : Int) (L : Lay) (w : World) (hN : NodesAt w L ns) (hsm : Small ns) (htab : Hid (TabAt w 0 srcWords)) :
    Calls Tryd.prog 21 #[.agg #[.slice L.p ns.length L.cap, .int .i64 root]] w fun e w' => ∃ r c : Int, e = .returned (.tuple #[.int .i64 r, .int .i64 c]) ∧ DepthRes ns root r c ∧ Below w.heap.size w w' := by
  have HN := hide hN
  have HS := hide hsm
  clear hN hsm
  go_enter Tryd.func21, Tryd.ntmps21
  go_wp2_with fail
  refine (rootOf_any ns root L _ ((unhide HN).later (nx_alloc _ _)) (unhide HS) (hide ((unhide htab).later (nx_alloc _ _)))).mono ?_
  rintro e w1 ⟨hb, hres⟩
  have hB := hide (nx_trans (nx_alloc _ _) hb)
  clear hb
  rcases hres with ⟨rfl, hno⟩ | ⟨G, B, loc, l, d, hT, hG, x, hxr, rfl⟩
  · have hD : Hid (DepthRes ns root 0 1) := hide (.inl ⟨hno, rfl, rfl⟩)
    clear hno
    go_wp2
    go_ret2
    exact ⟨0, 1, rfl, unhide hD, unhide hB⟩
  · have hD : Hid (DepthRes ns root ((d : Nat) : Int) 0) := hide (.inr ⟨l, d, hT, rfl, rfl⟩)
    have hd : d ≤ 1000 := by
      have h1 := hT.2.1.1.depth_le
      have h2 := nodup_le ns.length l hT.2.1.2.1 hT.2.1.1.lt
      have := hT.1
      omega
    have hv := hT.2.1.1
    rw [← hxr] at hv
    have HC := hide (depth_any ns L loc _ w1 l (hide hG.br) (hide (fun n hn => ((unhide HS).2 n hn).2.2.1)) d d x l (Nat.le_refl _) hv (fun y hy => hy) hd)
    clear hT hG hxr hv
    generalize loc x = gx at HC
    go_wp2_with fail
    refine (unhide HC).mono ?_
    rintro e w9 ⟨rfl, rfl⟩
    go_wp2
    go_ret2
    exact ⟨_, 0, rfl, unhide hD, unhide hB⟩

theorem specTreeDepth_any (ns : List TN) (root : Int) (L : Lay) (w : World) (hN : NodesAt w L ns) (hsm : Small ns) :
    Calls Tryd.prog 30 #[.agg #[.slice L.p ns.length L.cap, .int .i64 root]] w fun e w' => ∃ r c : Int, e = .returned (.tuple #[.int .i64 r, .int .i64 c]) ∧ DepthRes ns root r c ∧ Below w.heap.size w w' := by
  have HN := hide hN
  have HS := hide hsm
  clear hN hsm
  go_enter Tryd.func30, Tryd.ntmps30
  go_wp2_with fail
  refine (l03Tree_any ns root L _ ((unhide HN).later (nx_alloc _ _)) (unhide HS)).mono ?_
  rintro e w1 ⟨hb, hres⟩
  have hB := hide (nx_trans (nx_alloc _ _) hb)
  clear hb
  rcases hres with ⟨dp, rfl, hno⟩ | ⟨l, d, rfl, hT⟩
  · have hD : Hid (DepthRes ns root 0 1) := hide (.inl ⟨hno, rfl, rfl⟩)
    clear hno
    go_wp2
    go_ret2
    exact ⟨0, 1, rfl, unhide hD, unhide hB⟩
  · have hD : Hid (DepthRes ns root ((d : Nat) : Int) 0) := hide (.inr ⟨l, d, hT, rfl, rfl⟩)
    clear hT
    go_wp2
    go_ret2
    exact ⟨_, 0, rfl, unhide hD, unhide hB⟩

end Go.Proofs.YtbipgmikgokfpaaDoor

/- SizeWalk -/
namespace Go.Proofs.YtbipgmikgokfpaaDoor
open Go.RowKit Go.Joins
set_option linter.unusedVariables false

theorem Vis.take_len {ns : List TN} {ks : List Int} {l lm : List Nat} {d dm : Nat} (h : Vis ns ks l d) (m : Nat) (hm : Vis ns (ks.take m) lm dm) : lm.length ≤ l.length := by
  rw [← List.take_append_drop m ks] at h
  obtain ⟨a1, a2, b1, b2, v1, v2, rfl, rfl⟩ := h.split
  obtain ⟨rfl, _⟩ := v1.det hm
  simp
/-- what a call that measures a part answers -/
def SizeRes (ns : List TN) (root k r c : Int) : Prop := (¬ TreeOkP ns root ∧ r = 0 ∧ c = 1) ∨ (TreeOkP ns root ∧ ¬ (0 ≤ k ∧ k < ns.length) ∧ r = 0 ∧ c = 13) ∨ (TreeOkP ns root ∧ (0 ≤ k ∧ k < ns.length) ∧ (∃ l d, Vis ns [k] l d ∧ r = (l.length : Int)) ∧ c = 0)
theorem SizeRes.det {ns : List TN} {root k r c r' c' : Int} (h : SizeRes ns root k r c) (h' : SizeRes ns root k r' c') : r = r' ∧ c = c' := by
  rcases h with ⟨a, rfl, rfl⟩ | ⟨a, b, rfl, rfl⟩ | ⟨a, b, ⟨l, d, v, rfl⟩, rfl⟩ <;> rcases h' with ⟨a', rfl, rfl⟩ | ⟨a', b', rfl, rfl⟩ | ⟨a', b', ⟨l', d', v', rfl⟩, rfl⟩
  all_goals first | exact ⟨rfl, rfl⟩ | exact absurd a a' | exact absurd a' a | exact absurd b b' | exact absurd b' b | exact ⟨by rw [(v.det v').1], rfl⟩

set_option maxHeartbeats 1000000 in
set_option maxRecDepth 100000 in
theorem size_any (ns : List TN) (L : Lay) (loc : Nat → Nat) (A : Nat → Prop) (w : World) (l0 : List Nat) (hbr : Hid (∀ y ∈ l0, BrIn w A L ns loc y)) (hks : Hid (∀ n ∈ ns, n.kids.length ≤ 1048576)) : ∀ (D d x : Nat) (l : List Nat), d ≤ D → Vis ns [(x : Int)] l d → (∀ y ∈ l, y ∈ l0) → l.length ≤ 1000 →
    Calls Tryd.prog 55 #[.pointer (some ⟨loc x, 0, none⟩)] w fun e w' => e = .returned (.int .i64 (l.length : Int)) ∧ w' = w := by
  intro D
  induction D with
  | zero =>
    intro d x l hd hv
    obtain ⟨_, _, _, _, _, _, _, _, _, _, rfl⟩ := hv.inv
    omega
  | succ D ih =>
    intro d x l hd hv hl0 hd1
    obtain ⟨n, l1, l2, d1, d2, h0, hx, v1, v2, rfl, rfl⟩ := hv.inv
    cases v2
    rw [Int.toNat_natCast] at hx hl0
    rw [List.append_nil] at hl0
    obtain ⟨n', pb, cb, hx', _, c0, c1, c2, c3, c4, c5, c7, hP, _⟩ := unhide hbr x (hl0 x (by simp))
    rw [hx] at hx'
    obtain rfl := Option.some.inj hx'
    rw [show max (d1 + 1) 0 = d1 + 1 by omega] at hd
    rw [List.append_nil] at hd1 ⊢
    have hl1 : l1.length ≤ 1000 := by rw [List.length_cons] at hd1; omega
    rw [show (((x : Int).toNat :: l1).length : Int) = (l1.length : Int) + 1 by rw [List.length_cons]; omega]
    clear hd1
    have IH := hide ih
    have HP := hide hP
    have HV := hide v1
    have HL0 : Hid (∀ y ∈ l1, y ∈ l0) := hide (fun y hy => hl0 y (by simp [hy]))
    have hkl : n.kids.length ≤ 1048576 := unhide hks n (List.mem_of_getElem? hx)
    clear ih hP v1 hl0 hv c0 c1 c2 c3 c4 c5
    generalize loc x = gx at c7
    go_enter Tryd.func55, Tryd.ntmps55
    go_wp2
    go_loopw [3, 11] (fun s i wx => ∃ (m dm : Nat) (lm : List Nat), m ≤ n.kids.length ∧ i = .int .i64 m ∧ s = .int .i64 ((lm.length : Int) + 1) ∧ lm.length ≤ l1.length ∧ Hid (Vis ns (n.kids.take m) lm dm) ∧ Hid (wx = w)) (fun _ i _ => n.kids.length - (intOf i).toNat)
    case atStart => exact ⟨0, 0, [], by omega, rfl, rfl, by simp, hide (by simpa using Vis.nil), hide rfl⟩
    case round =>
      obtain ⟨m, dm, lm, hm, rfl, rfl, hdm, hvm, hw⟩ := hrel
      obtain rfl := unhide hw
      by_cases hlt : m < n.kids.length
      · have hlt' : m < (n.kids.map fun j => loc j.toNat).length := by rw [List.length_map]; exact hlt
        obtain ⟨bp, hpb, _, y9⟩ := unhide HP m hlt'
        subst hpb
        have y0 : wr.cell? ⟨bp, m, none⟩ = some (.pointer (some ⟨loc n.kids[m].toNat, 0, none⟩)) := by
          rw [List.getElem_map] at y9
          exact y9
        clear y9
        have hj : Hid (n.kids[m]? = some n.kids[m]) := hide (List.getElem?_eq_getElem hlt)
        obtain ⟨lj, dj, vj, hlj, hdj, hj0, hll⟩ := (unhide HV).at (unhide hj)
        have hjx : n.kids[m] = ((n.kids[m].toNat : Nat) : Int) := (Int.toNat_of_nonneg hj0).symm
        have HC := hide (unhide IH dj n.kids[m].toNat lj (by omega) (by rw [← hjx]; exact vj) (fun y hy => unhide HL0 y (hlj y hy)) (by omega))
        have hnv := hide ((unhide hvm).take_succ (unhide hj) vj)
        have HLE : Hid (lm.length + lj.length ≤ l1.length) := hide (by
          have h1 := (unhide HV).take_len (m + 1) (unhide hnv)
          rw [List.length_append] at h1; exact h1)
        clear vj hlj hjx hlt'
        generalize loc n.kids[m].toNat = gj at y0 HC
        go_wp2_with fail
        refine (unhide HC).mono ?_
        rintro e w9 ⟨rfl, rfl⟩
        have hll2 := unhide HLE
        have hap : ((lm ++ lj).length : Int) = (lm.length : Int) + (lj.length : Int) := by rw [List.length_append]; omega
        have HAP := hide hap
        clear hap
        go_wp2
        go_roundw
        case rel => exact ⟨m + 1, max dm dj, lm ++ lj, by omega, by go_num, by rw [unhide HAP]; go_num, by rw [List.length_append]; omega, hide (unhide hnv), hide trivial⟩
        case measure => simp [intOf]; omega
      · have hdd : lm = l1 := by
          have h1 := unhide hvm
          rw [show m = n.kids.length by omega, List.take_length] at h1
          exact (h1.det (unhide HV)).1
        subst hdd
        go_wp2
        go_ret
        exact ⟨rfl, rfl⟩


set_option maxRecDepth 100000 in
theorem implSizeOf_any (ns : List TN) (root k : Int) (L : Lay) (w : World) (hN : NodesAt w L ns) (hsm : Small ns) (htab : Hid (TabAt w 0 srcWords)) :
    Calls Tryd.prog 19 #[.agg #[.slice L.p ns.length L.cap, .int .i64 root], .int .i64 k] w fun e w' => ∃ r c : Int, e = .returned (.tuple #[.int .i64 r, .int .i64 c]) ∧ SizeRes ns root k r c ∧ Below w.heap.size w w' := by
  have HN := hide hN
  have HS := hide hsm
  clear hN hsm
  by_cases hk : 0 ≤ k ∧ k < ns.length
  · obtain ⟨a, rfl⟩ : ∃ a : Nat, k = (a : Int) := ⟨k.toNat, by omega⟩
    go_enter Tryd.func19, Tryd.ntmps19
    go_wp2_with fail
    refine (branchOf_in ns root a L _ ((unhide HN).later (nx_alloc _ _)) (unhide HS) (hide ((unhide htab).later (nx_alloc _ _))) (by omega)).mono ?_
    rintro e w1 ⟨hb, hres⟩
    have hB := hide (nx_trans (nx_alloc _ _) hb)
    clear hb
    rcases hres with ⟨rfl, hno⟩ | ⟨G, B, loc, l, d, hT, hG, x, rfl, rfl⟩
    · have hD : Hid (SizeRes ns root (a : Int) 0 1) := hide (.inl ⟨hno, rfl, rfl⟩)
      clear hno
      go_wp2
      go_ret2
      exact ⟨0, 1, rfl, unhide hD, unhide hB⟩
    · obtain ⟨lx, dx, vx, hlx, _, hll⟩ := hT.2.1.1.sub x (hT.2.2.2 x (by omega))
      have hD : Hid (SizeRes ns root (x : Int) (lx.length : Int) 0) := hide (.inr (.inr ⟨⟨l, d, hT⟩, hk, ⟨lx, dx, vx, rfl⟩, rfl⟩))
      have hd : lx.length ≤ 1000 := by
        have h2 := nodup_le ns.length l hT.2.1.2.1 hT.2.1.1.lt
        have := hT.1
        omega
      have HC := hide (size_any ns L loc _ w1 l (hide hG.br) (hide (fun n hn => ((unhide HS).2 n hn).2.2.1)) dx dx x lx (Nat.le_refl _) vx hlx hd)
      clear hT hG vx hlx hll
      generalize loc x = gx at HC
      go_wp2_with fail
      refine (unhide HC).mono ?_
      rintro e w9 ⟨rfl, rfl⟩
      go_wp2
      go_ret2
      exact ⟨_, 0, rfl, unhide hD, unhide hB⟩
  · go_enter Tryd.func19, Tryd.ntmps19
    go_wp2_with fail
    refine (branchOf_out ns root k L _ ((unhide HN).later (nx_alloc _ _)) (unhide HS) (hide ((unhide htab).later (nx_alloc _ _))) hk).mono ?_
    rintro e w1 ⟨hb, hres⟩
    have hB := hide (nx_trans (nx_alloc _ _) hb)
    clear hb
    rcases hres with ⟨rfl, hno⟩ | ⟨rfl, hok⟩
    · have hD : Hid (SizeRes ns root k 0 1) := hide (.inl ⟨hno, rfl, rfl⟩)
      clear hno hk
      go_wp2
      go_ret2
      exact ⟨0, 1, rfl, unhide hD, unhide hB⟩
    · have hD : Hid (SizeRes ns root k 0 13) := hide (.inr (.inl ⟨hok, hk, rfl, rfl⟩))
      clear hok hk
      go_wp2
      go_ret2
      exact ⟨0, 13, rfl, unhide hD, unhide hB⟩

end Go.Proofs.YtbipgmikgokfpaaDoor

/- SSize -/
namespace Go.Proofs.YtbipgmikgokfpaaDoor
open Go.RowKit Go.Joins
set_option linter.unusedVariables false

set_option maxRecDepth 100000 in
theorem l03Place_any (ns : List TN) (root k : Int) (L : Lay) (w : World) (hN : NodesAt w L ns) (hsm : Small ns) :
    Calls Tryd.prog 71 #[.agg #[.slice L.p ns.length L.cap, .int .i64 root], .int .i64 k] w fun e w' => ∃ c : Int, e = .returned (.int .i64 c) ∧ ((¬ TreeOkP ns root ∧ c = 1) ∨ (TreeOkP ns root ∧ ¬ (0 ≤ k ∧ k < ns.length) ∧ c = 13) ∨ (TreeOkP ns root ∧ (0 ≤ k ∧ k < ns.length) ∧ c = 0)) ∧ Below w.heap.size w w' := by
  have HN := hide hN
  have HS := hide hsm
  have hl := hsm.1
  clear hN hsm
  go_enter Tryd.func71, Tryd.ntmps71
  go_wp2_with fail
  refine (specTreeOK_any ns root L _ ((unhide HN).later (nx_alloc _ _)) (unhide HS)).mono ?_
  rintro e w1 ⟨b, rfl, hb, hb1⟩
  have hB := hide (nx_trans (nx_alloc _ _) hb1)
  have c1 : ∀ o, w1.cell? ⟨w.heap.size, o, none⟩ = (w.alloc (.cells #[.slice L.p ns.length L.cap, .int .i64 root] 25)).cell? ⟨w.heap.size, o, none⟩ := fun o => hb1.cell (p := ⟨w.heap.size, o, none⟩) (by simp)
  have d0 : w1.cell? ⟨w.heap.size, 0, none⟩ = some (.slice L.p ns.length L.cap) := by rw [c1]; simp
  clear hb1 c1
  cases b
  · have hD : Hid (¬ TreeOkP ns root) := hide (fun h => (by have := hb.2 h; cases this))
    clear hb
    go_wp2
    go_ret
    exact ⟨1, rfl, .inl ⟨unhide hD, rfl⟩, unhide hB⟩
  have HOK := hide (hb.1 rfl)
  clear hb
  by_cases hk : 0 ≤ k ∧ k < ns.length
  · go_wp2_with fail
    refine (l01In_is k 0 ((ns.length : Int) - 1) true _ (by simp; omega)).mono ?_
    rintro e w1 ⟨rfl, rfl⟩
    have HK := hide hk
    clear hk
    go_wp2
    go_ret
    exact ⟨0, rfl, .inr (.inr ⟨unhide HOK, unhide HK, rfl⟩), unhide hB⟩
  · go_wp2_with fail
    refine (l01In_is k 0 ((ns.length : Int) - 1) false _ (by simp; omega)).mono ?_
    rintro e w1 ⟨rfl, rfl⟩
    have HK := hide hk
    clear hk
    go_wp2
    go_ret
    exact ⟨13, rfl, .inr (.inl ⟨unhide HOK, unhide HK, rfl⟩), unhide hB⟩

theorem wrapS (x : Int) (h0 : 0 ≤ x) (h1 : x ≤ 5000) : wrap64 x = x := by unfold wrap64; omega
theorem wrapT (x : Int) (h0 : 0 ≤ x) (h1 : x ≤ 5000) : IntKind.i64.wrap x = x := by rw [IntKind.wrap_i64]; omega
theorem wrapU (a b c : Nat) (h : a + b ≤ c) (hc : c ≤ 1000) : wrap64 ((a : Int) + 1 + (b : Int)) = (a : Int) + 1 + (b : Int) ∧ IntKind.i64.wrap ((a : Int) + 1 + (b : Int)) = (a : Int) + 1 + (b : Int) := ⟨wrapS _ (by omega) (by omega), wrapT _ (by omega) (by omega)⟩

set_option maxHeartbeats 2000000 in
set_option maxRecDepth 100000 in
theorem l03Size_any (ns : List TN) (root : Int) (L : Lay) (hsm : Hid (Small ns)) : ∀ (D d a : Nat) (l : List Nat) (w : World), d ≤ D → Vis ns [(a : Int)] l d → l.length ≤ 1000 → NodesAt w L ns →
    Calls Tryd.prog 73 #[.agg #[.slice L.p ns.length L.cap, .int .i64 root], .int .i64 (a : Int)] w fun e w' => e = .returned (.int .i64 (l.length : Int)) ∧ Below w.heap.size w w' := by
  intro D
  induction D with
  | zero =>
    intro d a l w hd hv
    obtain ⟨_, _, _, _, _, _, _, _, _, _, rfl⟩ := hv.inv
    omega
  | succ D ih =>
    intro d a l w hd hv hll hN
    obtain ⟨n, l1, l2, d1, d2, h0, hx, v1, v2, rfl, rfl⟩ := hv.inv
    cases v2
    rw [Int.toNat_natCast] at hx
    rw [List.append_nil] at hll ⊢
    have hd' : d1 ≤ D := by omega
    have hl1 : l1.length ≤ 1000 := by rw [List.length_cons] at hll; omega
    rw [show (((a : Int).toNat :: l1).length : Int) = (l1.length : Int) + 1 by rw [List.length_cons]; omega]
    obtain ⟨ha, hxe⟩ := List.getElem?_eq_some_iff.1 hx
    have IH := hide ih
    have HN := hide hN
    have HV := hide v1
    have hnl := (unhide hsm).1
    have hkl : n.kids.length ≤ 1048576 := ((unhide hsm).2 n (List.mem_of_getElem? hx)).2.2.1
    have HXE := hide hxe
    clear ih hN v1 hv hll hd hx hxe
    go_enter Tryd.func73, Tryd.ntmps73
    go_wp2
    go_loopw [5, 6] (fun s i wx => ∃ (m dm : Nat) (lm : List Nat), m ≤ n.kids.length ∧ i = .int .i64 m ∧ s = .int .i64 ((lm.length : Int) + 1) ∧ lm.length ≤ l1.length ∧ Hid (Vis ns (n.kids.take m) lm dm) ∧ Hid (Below (w.heap.size + 1) (w.alloc (.cells #[.slice L.p ns.length L.cap, .int .i64 root] 25)) wx)) (fun _ i _ => n.kids.length - (intOf i).toNat)
    case atStart => exact ⟨0, 0, [], by omega, rfl, rfl, by simp, hide (by simpa using Vis.nil), hide (Below.refl _ _)⟩
    case round =>
      obtain ⟨m, dm, lm, hm, rfl, rfl, hdm, hvm, hBx⟩ := hrel
      have hw1 : w.heap.size + 1 ≤ wr.heap.size := by have := (unhide hBx).size; simpa using this
      have hcl : ∀ o, wr.cell? ⟨w.heap.size, o, none⟩ = (w.alloc (.cells #[.slice L.p ns.length L.cap, .int .i64 root] 25)).cell? ⟨w.heap.size, o, none⟩ := fun o => (unhide hBx).cell (p := ⟨w.heap.size, o, none⟩) (by simp)
      have t0 : wr.cell? ⟨w.heap.size, 0, none⟩ = some (.slice L.p ns.length L.cap) := by rw [hcl]; simp
      have t1 : wr.cell? ⟨w.heap.size, 1, none⟩ = some (.int .i64 root) := by rw [hcl]; simp
      have hBw : Hid (Below w.heap.size w wr) := hide ((nx_alloc w _).trans ((unhide hBx).mono (by omega)))
      obtain ⟨b, off, hp, q0, q1, q2, q3, q4, q5, q6⟩ := (unhide HN).later (unhide hBw) a ha
      rw [unhide HXE] at q4 q6
      clear hcl q0 q1 q2 q3 q5
      by_cases hlt : m < n.kids.length
      · obtain ⟨bk, ok, hpk, y1⟩ := q6 m hlt
        rw [hpk] at q4
        rw [hp] at t0
        have hj : Hid (n.kids[m]? = some n.kids[m]) := hide (List.getElem?_eq_getElem hlt)
        obtain ⟨lj, dj, vj, hlj, hdj, hj0, hll⟩ := (unhide HV).at (unhide hj)
        have hjx : n.kids[m] = ((n.kids[m].toNat : Nat) : Int) := (Int.toNat_of_nonneg hj0).symm
        have HND := hide ((unhide HN).later (unhide hBw).drew)
        have HC := hide (unhide IH dj n.kids[m].toNat lj wr.drew (by omega) (by rw [← hjx]; exact vj) (by omega) (unhide HND))
        rw [← hjx, hp] at HC
        have hnv := hide ((unhide hvm).take_succ (unhide hj) vj)
        have HLE : Hid (lm.length + lj.length ≤ l1.length) := hide (by
          have h1 := (unhide HV).take_len (m + 1) (unhide hnv)
          rw [List.length_append] at h1; exact h1)
        have HAP : Hid (((lm ++ lj).length : Int) = (lm.length : Int) + (lj.length : Int)) := hide (by rw [List.length_append]; omega)
        have hle2 := unhide HLE
        have HLL : Hid ((lm ++ lj).length ≤ l1.length) := hide (by rw [List.length_append]; exact hle2)
        clear vj hlj hjx q6 hpk
        generalize n.kids[m] = j at y1 HC
        obtain ⟨hwr1, hwr2⟩ := wrapU lm.length lj.length l1.length hle2 hl1
        clear hp
        go_wp2
        have D0 := hide (show wr.drew.cell? ⟨w.heap.size, 0, none⟩ = some (.slice (some ⟨b, off, none⟩) ns.length L.cap) from t0)
        have D1 := hide (show wr.drew.cell? ⟨w.heap.size, 1, none⟩ = some (.int .i64 root) from t1)
        have D4 := hide (show wr.drew.cell? ⟨b, off + a * 5 + 4, none⟩ = some (.slice (some ⟨bk, ok, none⟩) n.kids.length (L.ck a)) from q4)
        have DY := hide (show wr.drew.cell? ⟨bk, ok + m, none⟩ = some (.int .i64 j) from y1)
        go_region_held3 (fun x => x.cell? ⟨w.heap.size, 0, none⟩ = some (.slice (some ⟨b, off, none⟩) ns.length L.cap) ∧ x.cell? ⟨w.heap.size, 1, none⟩ = some (.int .i64 root) ∧ x.cell? ⟨b, off + a * 5 + 4, none⟩ = some (.slice (some ⟨bk, ok, none⟩) n.kids.length (L.ck a)) ∧ x.cell? ⟨bk, ok + m, none⟩ = some (.int .i64 j)) (go_keep) ((go_at_call 73; refine (unhide HC).mono ?_; rintro e y ⟨rfl, hby⟩; have z0 := cell_later hby (unhide D0); have z1 := cell_later hby (unhide D1); have z4 := cell_later hby (unhide D4); have zy := cell_later hby (unhide DY); have HBY := hide hby; clear hby))
        all_goals go_wp2
        all_goals (go_roundw; (case rel => exact ⟨m + 1, max dm dj, lm ++ lj, by omega, by go_num, (by rw [unhide HAP, Int.add_right_comm]), unhide HLL, hide (unhide hnv), hide ((unhide hBx).drew.trans ((unhide HBY).mono (by exact hw1)))⟩); (case measure => simp [intOf]; omega))
      · have hdd : lm = l1 := by
          have h1 := unhide hvm
          rw [show m = n.kids.length by omega, List.take_length] at h1
          exact (h1.det (unhide HV)).1
        subst hdd
        rw [hp] at t0
        clear hp
        go_wp2
        go_ret
        exact ⟨rfl, unhide hBw⟩

set_option maxRecDepth 100000 in
theorem specSizeOf_any (ns : List TN) (root k : Int) (L : Lay) (w : World) (hN : NodesAt w L ns) (hsm : Small ns) :
    Calls Tryd.prog 33 #[.agg #[.slice L.p ns.length L.cap, .int .i64 root], .int .i64 k] w fun e w' => ∃ r c : Int, e = .returned (.tuple #[.int .i64 r, .int .i64 c]) ∧ SizeRes ns root k r c ∧ Below w.heap.size w w' := by
  have HN := hide hN
  have HS := hide hsm
  clear hN hsm
  go_enter Tryd.func33, Tryd.ntmps33
  go_wp2_with fail
  refine (l03Place_any ns root k L _ ((unhide HN).later (nx_alloc _ _)) (unhide HS)).mono ?_
  rintro e w1 ⟨c, rfl, hc, hb1⟩
  have hB := hide (nx_trans (nx_alloc _ _) hb1)
  have c1 : ∀ o, w1.cell? ⟨w.heap.size, o, none⟩ = (w.alloc (.cells #[.slice L.p ns.length L.cap, .int .i64 root] 25)).cell? ⟨w.heap.size, o, none⟩ := fun o => hb1.cell (p := ⟨w.heap.size, o, none⟩) (by simp)
  have d0 : w1.cell? ⟨w.heap.size, 0, none⟩ = some (.slice L.p ns.length L.cap) := by rw [c1]; simp
  have d1 : w1.cell? ⟨w.heap.size, 1, none⟩ = some (.int .i64 root) := by rw [c1]; simp
  clear hb1 c1
  rcases hc with ⟨hno, rfl⟩ | ⟨hok, hk, rfl⟩ | ⟨hok, hk, rfl⟩
  · have hD : Hid (SizeRes ns root k 0 1) := hide (.inl ⟨hno, rfl, rfl⟩)
    clear hno
    go_wp2
    go_ret2
    exact ⟨0, 1, rfl, unhide hD, unhide hB⟩
  · have hD : Hid (SizeRes ns root k 0 13) := hide (.inr (.inl ⟨hok, hk, rfl, rfl⟩))
    clear hok hk
    go_wp2
    go_ret2
    exact ⟨0, 13, rfl, unhide hD, unhide hB⟩
  · obtain ⟨l, d, hT⟩ := hok
    obtain ⟨a, rfl⟩ : ∃ a : Nat, k = (a : Int) := ⟨k.toNat, by omega⟩
    obtain ⟨lx, dx, vx, hlx, _, hll⟩ := hT.2.1.1.sub a (hT.2.2.2 a (by omega))
    have hD : Hid (SizeRes ns root (a : Int) (lx.length : Int) 0) := hide (.inr (.inr ⟨⟨l, d, hT⟩, hk, ⟨lx, dx, vx, rfl⟩, rfl⟩))
    have hd : lx.length ≤ 1000 := by
      have h2 := nodup_le ns.length l hT.2.1.2.1 hT.2.1.1.lt
      have := hT.1
      omega
    have HC := hide (l03Size_any ns root L HS dx dx a lx w1 (Nat.le_refl _) vx hd ((unhide HN).later (unhide hB)))
    clear hT vx hlx hll hk hd
    go_wp2_with fail
    refine (unhide HC).mono ?_
    rintro e w2 ⟨rfl, hb2⟩
    have hB2 := hide (nx_trans (unhide hB) hb2)
    clear hb2
    go_wp2
    go_ret2
    exact ⟨_, 0, rfl, unhide hD, unhide hB2⟩

end Go.Proofs.YtbipgmikgokfpaaDoor
