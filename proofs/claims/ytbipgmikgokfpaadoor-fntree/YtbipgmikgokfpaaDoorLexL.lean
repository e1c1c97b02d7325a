/- Tokens, in plain lists: what code and specification both come to. -/
import Derived.Test.YtbipgmikgokfpaaDoorNumWalk
import Derived.Test.YtbipgmikgokfpaaDoorNameWalk
import Derived.Test.YtbipgmikgokfpaaDoorScanL
namespace Go.Proofs.YtbipgmikgokfpaaDoor
open Go.RowKit

/-- a byte of a name -/
def nmb (c : UInt8) : Bool := letB (c.toNat : Int) || digB (c.toNat : Int)
/-- a blank -/
def blankC (c : UInt8) : Bool := c == 32 || c == 9 || c == 10
/-- what a text between quotes may mean -/
def plainB (l : List UInt8) : Bool := decide (l.length ≤ 60) && l.all okC
def escC (c : UInt8) : List UInt8 := if c = 39 ∨ c = 92 then [92, c] else [c]
/-- a text between quotes -/
def quoteL (l : List UInt8) : List UInt8 := 39 :: (l.flatMap escC ++ [39])

/-- from behind the opening quote, whatever the bytes are: the text meant, and what is left behind the closing quote -/
def scanW : List UInt8 → Option (List UInt8 × List UInt8)
  | [] => none
  | [c] => if c = 39 then some ([], []) else none
  | c :: d :: r =>
    if c = 39 then some ([], d :: r)
    else if c = 92 then (if d = 39 ∨ d = 92 then (scanW r).map (fun p => (d :: p.1, p.2)) else none)
    else (scanW (d :: r)).map (fun p => (c :: p.1, p.2))

theorem scanW_end (r : List UInt8) : scanW (39 :: r) = some ([], r) := by cases r <;> simp [scanW]
theorem scanW_plain (c : UInt8) (r : List UInt8) (h1 : c ≠ 39) (h2 : c ≠ 92) : scanW (c :: r) = (scanW r).map (fun p => (c :: p.1, p.2)) := by
  cases r with
  | nil => simp [scanW, h1]
  | cons d r => simp [scanW, h1, h2]
theorem scanW_esc (d : UInt8) (r : List UInt8) (h : d = 39 ∨ d = 92) : scanW (92 :: d :: r) = (scanW r).map (fun p => (d :: p.1, p.2)) := by simp [scanW, h]
theorem scanW_escbad (d : UInt8) (r : List UInt8) (h : ¬ (d = 39 ∨ d = 92)) : scanW (92 :: d :: r) = none := by simp [scanW, h]
theorem scanW_esc0 : scanW [92] = none := by simp [scanW]
theorem okC_39 : okC 39 = true := by decide
theorem okC_92 : okC 92 = true := by decide

theorem scanW_lt : ∀ (n : Nat) (l : List UInt8), l.length ≤ n → ∀ t r, scanW l = some (t, r) → r.length < l.length := by
  intro n
  induction n with
  | zero =>
    intro l hl t r h
    obtain rfl : l = [] := List.eq_nil_of_length_eq_zero (by omega)
    simp [scanW] at h
  | succ n ih =>
    intro l hl t r h
    match l, hl with
    | [], _ => simp [scanW] at h
    | [c], _ =>
      simp only [scanW] at h
      split at h
      · simp at h; obtain ⟨rfl, rfl⟩ := h; simp
      · cases h
    | c :: d :: q, hl =>
      simp only [List.length_cons] at hl
      simp only [scanW] at h
      split at h
      · simp at h; obtain ⟨rfl, rfl⟩ := h; simp
      · split at h
        · split at h
          · obtain ⟨⟨a, b⟩, ha, hb⟩ := Option.map_eq_some_iff.1 h
            simp at hb
            obtain ⟨rfl, rfl⟩ := hb
            have := ih q (by omega) a b ha
            simp; omega
          · cases h
        · obtain ⟨⟨a, b⟩, ha, hb⟩ := Option.map_eq_some_iff.1 h
          simp at hb
          obtain ⟨rfl, rfl⟩ := hb
          have := ih (d :: q) (by simp; omega) a b ha
          simp at this ⊢; omega

theorem scanQ_W : ∀ (n : Nat) (l : List UInt8), l.length ≤ n → scanQ l = (scanW l).bind (fun p => if p.1.all okC = true then some p else none) := by
  intro n
  induction n with
  | zero =>
    intro l hl
    obtain rfl : l = [] := List.eq_nil_of_length_eq_zero (by omega)
    simp [scanW, scanQ]
  | succ n ih =>
    intro l hl
    match l, hl with
    | [], _ => simp [scanW, scanQ]
    | [c], _ =>
      simp only [scanW, scanQ]
      split <;> simp
    | c :: d :: q, hl =>
      simp only [List.length_cons] at hl
      have i1 := ih q (by omega)
      have i2 := ih (d :: q) (by simp; omega)
      simp only [scanW, scanQ]
      by_cases h1 : c = 39
      · simp [h1]
      rw [if_neg h1, if_neg h1]
      by_cases h2 : c = 92
      · rw [if_pos h2, if_pos h2]
        by_cases h3 : d = 39 ∨ d = 92
        · rw [if_pos h3, if_pos h3, i1]
          have hd : okC d = true := by rcases h3 with rfl | rfl <;> decide
          cases hs : scanW q with
          | none => simp
          | some p =>
            by_cases hp : p.1.all okC = true
            · simp only [Option.bind_some, Option.map_some, if_pos hp, List.all_cons, hd, Bool.true_and]
            · simp only [Option.bind_some, Option.map_some, if_neg hp, List.all_cons, hd, Bool.true_and, Option.map_none]
        · rw [if_neg h3, if_neg h3]; rfl
      · rw [if_neg h2, if_neg h2, i2]
        by_cases h3 : okC c = true
        · rw [if_pos h3]
          cases hs : scanW (d :: q) with
          | none => simp
          | some p =>
            by_cases hp : p.1.all okC = true
            · simp only [Option.bind_some, Option.map_some, if_pos hp, List.all_cons, h3, Bool.true_and]
            · simp only [Option.bind_some, Option.map_some, if_neg hp, List.all_cons, h3, Bool.true_and, Option.map_none]
        · rw [if_neg h3]
          cases hs : scanW (d :: q) with
          | none => simp
          | some p => simp [h3]

/-- a text between quotes at the beginning: what is meant, and with how many bytes it is written; none: nought -/
def rqP (l : List UInt8) : List UInt8 × Nat :=
  match l with
  | [] => ([], 0)
  | c :: r => if c = 39 then (match scanW r with
      | some (t, q) => (t, (c :: r).length - q.length)
      | none => ([], 0)) else ([], 0)
theorem rqP_some (r t q : List UInt8) (hs : scanW r = some (t, q)) : rqP (39 :: r) = (t, (39 :: r).length - q.length) := by
  unfold rqP; dsimp only; rw [if_pos rfl, hs]
theorem rqP_none (r : List UInt8) (hs : scanW r = none) : rqP (39 :: r) = ([], 0) := by
  unfold rqP; dsimp only; rw [if_pos rfl, hs]
theorem rqP_other (c : UInt8) (r : List UInt8) (hc : c ≠ 39) : rqP (c :: r) = ([], 0) := by
  unfold rqP; dsimp only; rw [if_neg hc]
theorem rqP_quote (l : List UInt8) : quoteP l = (if 0 < (rqP l).2 ∧ (rqP l).2 = l.length ∧ plainB (rqP l).1 = true then ((rqP l).1, true) else ([], false)) := by
  cases l with
  | nil => simp [quoteP, rqP]
  | cons c r =>
    by_cases hc : c = 39
    · subst hc
      have hq : quoteP (39 :: r) = (match scanQ r with
        | some (t, []) => if t.length ≤ 60 then (t, true) else ([], false)
        | _ => ([], false)) := by unfold quoteP; exact if_pos rfl
      rw [hq, scanQ_W r.length r (Nat.le_refl _)]
      cases hs : scanW r with
      | none => rw [rqP_none r hs]; simp
      | some p =>
        obtain ⟨t, q⟩ := p
        have hlt := scanW_lt r.length r (Nat.le_refl _) t q hs
        rw [rqP_some r t q hs]
        simp only [Option.bind_some]
        by_cases ha : t.all okC = true
        · rw [if_pos ha]
          cases q with
          | nil =>
            by_cases ht : t.length ≤ 60
            · simp [plainB, ht, ha]
            · simp [plainB, ht]
          | cons a q =>
            dsimp only
            rw [if_neg]
            rintro ⟨_, h, _⟩
            simp at h
            omega
        · rw [if_neg ha]
          simp [plainB, ha]
    · rw [rqP_other c r hc]
      unfold quoteP
      dsimp only
      rw [if_neg hc]; simp

def srcWords : List (List UInt8) := [[108, 101, 116], [105, 102], [101, 108, 115, 101], [119, 104, 105, 108, 101], [114, 101, 116, 117, 114, 110], [116, 104, 114, 111, 119], [116, 114, 121], [99, 97, 116, 99, 104], [102, 117, 110, 99, 116, 105, 111, 110], [116, 114, 117, 101], [102, 97, 108, 115, 101], [110, 117, 108, 108]]
def wordB (l : List UInt8) : Bool := srcWords.any (· == l)
def srcSigns : List (List UInt8) := [[61, 61], [38, 38], [124, 124], [43], [45], [42], [47], [37], [60], [61], [33], [40], [41], [123], [125], [44], [59]]
def signB (l : List UInt8) : Bool := srcSigns.any (· == l)
def nameL (l : List UInt8) : Bool := nameB ⟨l.toArray⟩
/-- what is a token -/
def tokB (k : Int) (l : List UInt8) : Bool :=
  if k = 1 then decide (l.length ≤ 20) && nameL l && !wordB l
  else if k = 2 then wordB l
  else if k = 3 then (digP l).2 && decide ((digP l).1 ≤ 2147483647)
  else if k = 4 then plainB l
  else if k = 5 then signB l
  else false
/-- how a token is written -/
def tokT (k : Int) (l : List UInt8) : List UInt8 := if k = 4 then quoteL l else l

def oneSigns : List UInt8 := [43, 45, 42, 47, 37, 60, 61, 33, 40, 41, 123, 125, 44, 59]
/-- how long the sign at the beginning is -/
def signT : List UInt8 → Option Nat
  | [] => none
  | [c] => if c ∈ oneSigns then some 1 else none
  | c :: d :: _ => if (c = 61 ∧ d = 61) ∨ (c = 38 ∧ d = 38) ∨ (c = 124 ∧ d = 124) then some 2 else if c ∈ oneSigns then some 1 else none

/-- the token at the beginning: kind, text, how many bytes it takes -/
def nextT : List UInt8 → Option (Int × List UInt8 × Nat)
  | [] => none
  | c :: r =>
    if letB (c.toNat : Int) = true then
      (if (c :: r.takeWhile nmb).length ≤ 20 then some (if wordB (c :: r.takeWhile nmb) = true then 2 else 1, c :: r.takeWhile nmb, (c :: r.takeWhile nmb).length) else none)
    else if digB (c.toNat : Int) = true then
      (if (digP (c :: r.takeWhile dgt)).2 = true ∧ (digP (c :: r.takeWhile dgt)).1 ≤ 2147483647 then some (3, c :: r.takeWhile dgt, (c :: r.takeWhile dgt).length) else none)
    else if c = 39 then
      (match scanQ r with
      | some (t, q) => if t.length ≤ 60 then some (4, t, (c :: r).length - q.length) else none
      | none => none)
    else (match signT (c :: r) with
      | some n => some (5, (c :: r).take n, n)
      | none => none)

theorem wordB_len {l : List UInt8} (h : wordB l = true) : l.length ≤ 8 := by
  simp [wordB, srcWords] at h
  rcases h with h | h | h | h | h | h | h | h | h | h | h | h <;> subst h <;> decide

theorem nameL_run (c : UInt8) (r : List UInt8) (hc : letB (c.toNat : Int) = true) (hr : ∀ x ∈ r, nmb x = true) (hl : (c :: r).length ≤ 40) : nameL (c :: r) = true := by
  unfold nameL nameB
  rw [decide_eq_true_iff]
  have hsz : (⟨(c :: r).toArray⟩ : ByteArray).size = (c :: r).length := by simp [ByteArray.size]
  refine ⟨by rw [hsz]; simp, by rw [hsz]; exact hl, fun i hi => ?_⟩
  have hi' : i < (c :: r).length := by rw [← hsz]; exact hi
  have hg : (⟨(c :: r).toArray⟩ : ByteArray)[i] = (c :: r)[i] := by simp [ByteArray.getElem_eq_getElem_data]
  rw [hg]
  cases i with
  | zero => simp [namePart, hc]
  | succ i =>
    have := hr ((c :: r)[i + 1]) (by simp)
    simp only [nmb, Bool.or_eq_true] at this
    simp [namePart]
    rcases this with h | h
    · left; simpa using h
    · right; simpa using h
theorem takeW_all (p : UInt8 → Bool) (l : List UInt8) : ∀ x ∈ l.takeWhile p, p x = true := by
  intro x hx
  exact List.all_eq_true.1 (List.all_takeWhile (p := p) (l := l)) x hx

/-- what the code reads at the beginning, right or not -/
def rawT : List UInt8 → Int × List UInt8 × Nat
  | [] => (5, [], 0)
  | c :: r =>
    if letB (c.toNat : Int) = true then (if wordB (c :: r.takeWhile nmb) = true then 2 else 1, c :: r.takeWhile nmb, (c :: r.takeWhile nmb).length)
    else if digB (c.toNat : Int) = true then (3, c :: r.takeWhile dgt, (c :: r.takeWhile dgt).length)
    else if c = 39 then (if (rqP (c :: r)).2 = 0 then (0, [], 0) else (4, (rqP (c :: r)).1, (rqP (c :: r)).2))
    else (5, (c :: r).take ((signT (c :: r)).getD 0), (signT (c :: r)).getD 0)

theorem signT_ok (c : UInt8) (r : List UInt8) (n : Nat) (h : signT (c :: r) = some n) : signB ((c :: r).take n) = true ∧ ((c :: r).take n).length = n ∧ 0 < n := by
  have one : ∀ x : UInt8, x ∈ oneSigns → signB [x] = true := by decide
  cases r with
  | nil =>
    simp only [signT] at h
    split at h
    · rename_i hm
      simp at h; subst h
      exact ⟨by simpa using one c hm, by simp, by omega⟩
    · cases h
  | cons d q =>
    simp only [signT] at h
    split at h
    · rename_i hm
      simp at h; subst h
      refine ⟨?_, by simp, by omega⟩
      rcases hm with ⟨rfl, rfl⟩ | ⟨rfl, rfl⟩ | ⟨rfl, rfl⟩ <;> simp [signB, srcSigns]
    · split at h
      · rename_i hm
        simp at h; subst h
        exact ⟨by simpa using one c hm, by simp, by omega⟩
      · cases h
theorem signB_nil : signB [] = false := by decide

theorem rawT_let (c : UInt8) (r : List UInt8) (h1 : letB (c.toNat : Int) = true) : rawT (c :: r) = (if wordB (c :: r.takeWhile nmb) = true then 2 else 1, c :: r.takeWhile nmb, (c :: r.takeWhile nmb).length) := by
  unfold rawT; dsimp only; rw [if_pos h1]
theorem rawT_dig (c : UInt8) (r : List UInt8) (h1 : letB (c.toNat : Int) = false) (h2 : digB (c.toNat : Int) = true) : rawT (c :: r) = (3, c :: r.takeWhile dgt, (c :: r.takeWhile dgt).length) := by
  unfold rawT; dsimp only; rw [if_neg (by simp [h1]), if_pos h2]
theorem rawT_quote (r : List UInt8) : rawT (39 :: r) = (if (rqP (39 :: r)).2 = 0 then (0, [], 0) else (4, (rqP (39 :: r)).1, (rqP (39 :: r)).2)) := by
  unfold rawT; dsimp only; rw [if_neg (by decide), if_neg (by decide), if_pos rfl]
theorem rawT_sign (c : UInt8) (r : List UInt8) (h1 : letB (c.toNat : Int) = false) (h2 : digB (c.toNat : Int) = false) (h3 : c ≠ 39) : rawT (c :: r) = (5, (c :: r).take ((signT (c :: r)).getD 0), (signT (c :: r)).getD 0) := by
  unfold rawT; dsimp only; rw [if_neg (by simp [h1]), if_neg (by simp [h2]), if_neg h3]
theorem nextT_let (c : UInt8) (r : List UInt8) (h1 : letB (c.toNat : Int) = true) : nextT (c :: r) = (if (c :: r.takeWhile nmb).length ≤ 20 then some (if wordB (c :: r.takeWhile nmb) = true then 2 else 1, c :: r.takeWhile nmb, (c :: r.takeWhile nmb).length) else none) := by
  unfold nextT; dsimp only; rw [if_pos h1]
theorem nextT_dig (c : UInt8) (r : List UInt8) (h1 : letB (c.toNat : Int) = false) (h2 : digB (c.toNat : Int) = true) : nextT (c :: r) = (if (digP (c :: r.takeWhile dgt)).2 = true ∧ (digP (c :: r.takeWhile dgt)).1 ≤ 2147483647 then some (3, c :: r.takeWhile dgt, (c :: r.takeWhile dgt).length) else none) := by
  unfold nextT; dsimp only; rw [if_neg (by simp [h1]), if_pos h2]
theorem nextT_quote (r : List UInt8) : nextT (39 :: r) = (match scanQ r with
      | some (t, q) => if t.length ≤ 60 then some (4, t, (39 :: r).length - q.length) else none
      | none => none) := by
  unfold nextT; dsimp only; rw [if_neg (by decide), if_neg (by decide), if_pos rfl]
theorem nextT_sign (c : UInt8) (r : List UInt8) (h1 : letB (c.toNat : Int) = false) (h2 : digB (c.toNat : Int) = false) (h3 : c ≠ 39) : nextT (c :: r) = (match signT (c :: r) with
      | some n => some (5, (c :: r).take n, n)
      | none => none) := by
  unfold nextT; dsimp only; rw [if_neg (by simp [h1]), if_neg (by simp [h2]), if_neg h3]

theorem nextT_raw (c : UInt8) (r : List UInt8) : nextT (c :: r) = (if tokB (rawT (c :: r)).1 (rawT (c :: r)).2.1 = true then some (rawT (c :: r)) else none) := by
  cases h1 : letB (c.toNat : Int)
  · cases h2 : digB (c.toNat : Int)
    · by_cases h3 : c = 39
      · subst h3
        rw [nextT_quote, rawT_quote, scanQ_W r.length r (Nat.le_refl _)]
        cases hs : scanW r with
        | none => rw [rqP_none r hs]; simp [tokB]
        | some p =>
          obtain ⟨t, q⟩ := p
          have hlt := scanW_lt r.length r (Nat.le_refl _) t q hs
          rw [rqP_some r t q hs, if_neg (show ¬ (t, (39 :: r).length - q.length).2 = 0 by simp; omega)]
          simp only [Option.bind_some]
          by_cases ha : t.all okC = true
          · rw [if_pos ha]
            by_cases ht : t.length ≤ 60
            · simp [tokB, plainB, ht, ha]
            · simp [tokB, plainB, ht]
          · rw [if_neg ha]
            simp [tokB, plainB, ha]
      · rw [nextT_sign c r h1 h2 h3, rawT_sign c r h1 h2 h3]
        cases hs : signT (c :: r) with
        | none => simp [tokB, signB_nil]
        | some n =>
          have := (signT_ok c r n hs).1
          simp [tokB, this]
    · rw [nextT_dig c r h1 h2, rawT_dig c r h1 h2]
      by_cases h3 : (digP (c :: r.takeWhile dgt)).2 = true ∧ (digP (c :: r.takeWhile dgt)).1 ≤ 2147483647
      · rw [if_pos h3, if_pos]
        simp [tokB, h3.1, h3.2]
      · rw [if_neg h3, if_neg]
        simpa [tokB] using h3
  · rw [nextT_let c r h1, rawT_let c r h1]
    cases hw : wordB (c :: r.takeWhile nmb)
    · simp only [Bool.false_eq_true, if_false]
      by_cases hl : (c :: r.takeWhile nmb).length ≤ 20
      · rw [if_pos hl, if_pos]
        simp only [tokB, if_true, hw]
        rw [nameL_run c _ h1 (takeW_all _ _) (by omega)]
        simpa using hl
      · rw [if_neg hl, if_neg]
        simp only [tokB, if_true, hw]
        simp at hl ⊢
        omega
    · have := wordB_len hw
      rw [if_pos (by omega)]
      simp [tokB, hw]

theorem rawT_pos (c : UInt8) (r : List UInt8) (h : tokB (rawT (c :: r)).1 (rawT (c :: r)).2.1 = true) : 0 < (rawT (c :: r)).2.2 ∧ (rawT (c :: r)).2.2 ≤ (c :: r).length := by
  have htw : ∀ p : UInt8 → Bool, (r.takeWhile p).length ≤ r.length := fun p => (List.takeWhile_sublist p).length_le
  cases h1 : letB (c.toNat : Int)
  · cases h2 : digB (c.toNat : Int)
    · by_cases h3 : c = 39
      · subst h3
        rw [rawT_quote] at h ⊢
        cases hs : scanW r with
        | none => rw [rqP_none r hs] at h; simp [tokB] at h
        | some p =>
          obtain ⟨t, q⟩ := p
          have hlt := scanW_lt r.length r (Nat.le_refl _) t q hs
          rw [rqP_some r t q hs, if_neg (show ¬ (t, (39 :: r).length - q.length).2 = 0 by simp; omega)]
          simp
          omega
      · rw [rawT_sign c r h1 h2 h3] at h ⊢
        cases hs : signT (c :: r) with
        | none => rw [hs] at h; simp [tokB, signB_nil] at h
        | some n =>
          have := signT_ok c r n hs
          have h9 := this.2.1
          rw [List.length_take] at h9
          simp only [Option.getD_some]
          omega
    · rw [rawT_dig c r h1 h2]; have := htw dgt; simp; omega
  · rw [rawT_let c r h1]; have := htw nmb; simp; omega

end Go.Proofs.YtbipgmikgokfpaaDoor
