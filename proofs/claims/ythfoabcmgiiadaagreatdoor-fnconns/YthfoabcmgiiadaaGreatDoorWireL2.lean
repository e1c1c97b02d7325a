/- Texts without blanks at their ends; texts alike; pieces: plain laws. -/
import Derived.Test.YthfoabcmgiiadaaGreatDoorWireL
import Derived.Test.YthfoabcmgiiadaaGreatDoorByteEq0
namespace Go.Proofs.YthfoabcmgiiadaaGreatDoor
set_option linter.unusedVariables false

theorem dataLen (s : ByteArray) : s.data.toList.length = s.size := Array.length_toList
theorem dropAt (u : ByteArray) (k : Nat) (h : k < u.size) : u.data.toList.drop k = u[k] :: u.data.toList.drop (k + 1) := by
  rw [List.drop_eq_getElem_cons (by rw [dataLen]; exact h)]; rfl
theorem takeAt (u : ByteArray) (k : Nat) (h : k < u.size) : u.data.toList.take (k + 1) = u.data.toList.take k ++ [u[k]] := by
  rw [List.take_succ_eq_append_getElem (by rw [dataLen]; exact h)]; rfl

theorem trim_left (c : UInt8) (r : List UInt8) : Lib.trimB (c :: r) c = Lib.trimB r c := by
  unfold Lib.trimB Lib.trimRightB Lib.trimLeftB
  rw [List.reverse_cons, List.dropWhile_append]
  cases h : (List.dropWhile (fun x => x == c) r.reverse) with
  | nil => simp
  | cons a t =>
    rw [if_neg (by simp)]
    rw [List.reverse_append, List.reverse_cons, List.reverse_nil, List.nil_append, List.singleton_append, List.dropWhile_cons_of_pos (by simp)]
theorem trim_right (c : UInt8) (r : List UInt8) : Lib.trimB (r ++ [c]) c = Lib.trimB r c := by
  unfold Lib.trimB Lib.trimRightB
  rw [List.reverse_append, List.reverse_cons, List.reverse_nil, List.nil_append, List.singleton_append, List.dropWhile_cons_of_pos (by simp)]
theorem trim_stay (c : UInt8) (l : List UInt8) (h0 : ∀ b, l[0]? = some b → b ≠ c) (h1 : ∀ b, 0 < l.length → l[l.length - 1]? = some b → b ≠ c) : Lib.trimB l c = l := by
  unfold Lib.trimB
  rw [Lib.trimRightB_take l c l.length (Nat.le_refl _) (fun j b hj hb => by rw [List.getElem?_eq_none hj] at hb; cases hb) h1, List.take_length, Lib.trimLeftB_drop l c 0 (Nat.zero_le _) (fun j b hj => by omega) h0]
  rfl
/-- .. of a text -/
def trimS' (s : ByteArray) : ByteArray := ⟨(Lib.trimB s.data.toList 32).toArray⟩
theorem hVal_is (l : ByteArray) : hVal l = trimS' (cutB l colonS) := rfl
theorem trim_s_left (u : ByteArray) (h : 0 < u.size) (hb : u[0] = 32) : trimS' (u.extract 1 u.size) = trimS' u := by
  unfold trimS'
  rw [Lib.extract_from]
  have e := dropAt u 0 h
  rw [List.drop_zero, hb] at e
  show (⟨(Lib.trimB (List.drop 1 u.data.toList) 32).toArray⟩ : ByteArray) = _
  rw [e, trim_left, List.drop_succ_cons, List.drop_zero]
theorem trim_s_right (u : ByteArray) (h : 0 < u.size) (hb : u[u.size - 1] = 32) : trimS' (u.extract 0 (u.size - 1)) = trimS' u := by
  unfold trimS'
  rw [Lib.extract_upto]
  have e := takeAt u (u.size - 1) (by omega)
  rw [show u.size - 1 + 1 = u.size by omega, hb, ← dataLen, List.take_length] at e
  show (⟨(Lib.trimB (List.take (u.size - 1) u.data.toList) 32).toArray⟩ : ByteArray) = _
  conv => rhs; rw [e, trim_right]
  rw [dataLen]
theorem trim_s_stay (u : ByteArray) (h0 : ∀ h : 0 < u.size, u[0] ≠ 32) (h1 : ∀ h : 0 < u.size, u[u.size - 1] ≠ 32) : trimS' u = u := by
  unfold trimS'
  rw [trim_stay 32 u.data.toList (fun b hb => ?_) (fun b hl hb => ?_)]
  · have hz : 0 < u.size := by
      rw [← dataLen]
      exact (List.getElem?_eq_some_iff.1 hb).1
    obtain ⟨_, rfl⟩ := List.getElem?_eq_some_iff.1 hb
    exact h0 hz
  · rw [dataLen] at hl
    obtain ⟨hq, rfl⟩ := List.getElem?_eq_some_iff.1 hb
    have := h1 hl
    intro e
    apply this
    rw [← e]
    simp only [dataLen]
    rfl

theorem trim_size (u : ByteArray) : (trimS' u).size ≤ u.size := by
  have h1 : (Lib.trimB u.data.toList 32).length ≤ u.data.toList.length := by
    unfold Lib.trimB Lib.trimLeftB Lib.trimRightB
    have a := List.Sublist.length_le (List.dropWhile_sublist (fun x : UInt8 => x == 32) (l := (List.dropWhile (fun x => x == 32) u.data.toList.reverse).reverse))
    have b := List.Sublist.length_le (List.dropWhile_sublist (fun x : UInt8 => x == 32) (l := u.data.toList.reverse))
    simp only [List.length_reverse] at a b
    omega
  rw [dataLen] at h1
  show (Lib.trimB u.data.toList 32).toArray.size ≤ _
  simpa using h1

theorem small_len (l : List UInt8) : (smallL l).length = l.length := List.length_map _
theorem alike_size {a b : ByteArray} (h : a.size ≠ b.size) : alikeB a b = false := by
  unfold alikeB
  rw [decide_eq_false_iff_not]
  intro e
  have := congrArg List.length e
  rw [small_len, small_len, dataLen, dataLen] at this
  exact h this
def alikeTo (a b : ByteArray) (k : Nat) : Prop := (smallL a.data.toList).take k = (smallL b.data.toList).take k
theorem alike_zero (a b : ByteArray) : alikeTo a b 0 := by simp [alikeTo]
theorem small_at (a : ByteArray) (k : Nat) (h : k < a.size) : (smallL a.data.toList).take (k + 1) = (smallL a.data.toList).take k ++ [smallC a[k]] := by
  rw [List.take_succ_eq_append_getElem (by rw [small_len, dataLen]; exact h)]
  unfold smallL
  rw [List.getElem_map]
  rfl
theorem alike_succ {a b : ByteArray} {k : Nat} (h : alikeTo a b k) (ha : k < a.size) (hb : k < b.size) (e : smallC a[k] = smallC b[k]) : alikeTo a b (k + 1) := by
  unfold alikeTo at *
  rw [small_at a k ha, small_at b k hb, h, e]
theorem alike_not {a b : ByteArray} {k : Nat} (ha : k < a.size) (hb : k < b.size) (e : smallC a[k] ≠ smallC b[k]) : alikeB a b = false := by
  unfold alikeB
  rw [decide_eq_false_iff_not]
  intro h
  have h1 := small_at a k ha
  rw [h, small_at b k hb] at h1
  have := List.append_inj_right h1 (by simp [small_len])
  simp at this
  exact e this.symm
theorem alike_end {a b : ByteArray} {k : Nat} (hz : a.size = b.size) (h : alikeTo a b k) (hk : a.size ≤ k) : alikeB a b = true := by
  unfold alikeB alikeTo at *
  rw [List.take_of_length_le (by rw [small_len, dataLen]; exact hk), List.take_of_length_le (by rw [small_len, dataLen]; omega)] at h
  rw [decide_eq_true_iff]
  exact h
theorem alike_small (a b : ByteArray) : alikeB a b = decide (smallS a = smallS b) := by
  unfold alikeB smallS
  rw [Bool.eq_iff_iff, decide_eq_true_iff, decide_eq_true_iff]
  constructor
  · intro e; rw [e]
  · intro e
    have := congrArg (fun t : ByteArray => t.data.toList) e
    simpa using this
theorem smallC_nat (c : UInt8) : ((smallC c).toNat : Int) = if 65 ≤ (c.toNat : Int) ∧ (c.toNat : Int) ≤ 90 then (c.toNat : Int) + 32 else (c.toNat : Int) := by
  unfold smallC
  by_cases h : 65 ≤ c.toNat ∧ c.toNat ≤ 90
  · rw [if_pos h, if_pos (by omega), UInt8.toNat_add]
    have : (32 : UInt8).toNat = 32 := rfl
    omega
  · rw [if_neg h, if_neg (by omega)]

/-- what a piece is made of: pieces of what is left behind those that are there -/
def PiecesTo (sep s : ByteArray) (acc : List ByteArray) (u : ByteArray) : Prop := acc ++ pieces sep u = pieces sep s ∧ acc.length + u.size ≤ s.size
theorem PiecesTo.zero (sep s : ByteArray) : PiecesTo sep s [] s := ⟨rfl, by simp⟩
theorem PiecesTo.hit {sep s u : ByteArray} {acc : List ByteArray} {i : Nat} (h1 : 1 ≤ sep.size) (h : PiecesTo sep s acc u) (hi : Lib.indexB u sep = i) (hr : i + sep.size ≤ u.size) : PiecesTo sep s (acc ++ [u.extract 0 i]) (u.extract (i + sep.size) u.size) := by
  refine ⟨?_, ?_⟩
  · rw [← h.1, pieces_hit h1 hi]; simp
  · have := h.2
    rw [ByteArray.size_extract]
    simp; omega
theorem PiecesTo.miss {sep s u : ByteArray} {acc : List ByteArray} (h : PiecesTo sep s acc u) (hi : Lib.indexB u sep = -1) : acc ++ [u] = pieces sep s := by
  rw [← h.1, pieces_miss hi]
theorem pieces_ne (sep s : ByteArray) (h1 : 1 ≤ sep.size) : pieces sep s ≠ [] := by
  rcases Lib.indexB_cases s sep with h | ⟨i, h, _⟩
  · rw [pieces_miss h]; simp
  · rw [pieces_hit h1 h]; simp
theorem pieces_small (sep : ByteArray) (h1 : 1 ≤ sep.size) : ∀ (n : Nat) (s : ByteArray), s.size ≤ n → ∀ u ∈ pieces sep s, u.size ≤ s.size
  | n, s, hn, u, hu => by
    rcases Lib.indexB_cases s sep with h | ⟨i, h, hr⟩
    · rw [pieces_miss h, List.mem_singleton] at hu
      rw [hu]; exact Nat.le_refl _
    · rw [pieces_hit h1 h] at hu
      rcases List.mem_cons.1 hu with rfl | hu
      · rw [ByteArray.size_extract]; omega
      · cases n with
        | zero => omega
        | succ n =>
          have hz : (s.extract (i + sep.size) s.size).size = s.size - (i + sep.size) := by rw [ByteArray.size_extract]; omega
          have := pieces_small sep h1 n _ (by omega) u hu
          omega
theorem pieces_many (sep : ByteArray) (h1 : 1 ≤ sep.size) : ∀ (n : Nat) (s : ByteArray), s.size ≤ n → (pieces sep s).length ≤ s.size + 1
  | n, s, hn => by
    rcases Lib.indexB_cases s sep with h | ⟨i, h, hr⟩
    · rw [pieces_miss h]; simp
    · rw [pieces_hit h1 h]
      cases n with
      | zero => omega
      | succ n =>
        have hz : (s.extract (i + sep.size) s.size).size = s.size - (i + sep.size) := by rw [ByteArray.size_extract]; omega
        have := pieces_many sep h1 n _ (show (s.extract (i + sep.size) s.size).size ≤ n by omega)
        simp only [List.length_cons]
        omega

/-- a text cut at a byte, found byte by byte -/
theorem byte_first {s : ByteArray} {c : UInt8} {f i : Nat} (hfi : f ≤ i) (hi : i < s.size) (hc : s[i] = c) (hno : ∀ j (h : j < s.size), f ≤ j → j < i → s[j] ≠ c) : Lib.indexB (s.extract f s.size) ⟨#[c]⟩ = ((i - f : Nat) : Int) := by
  have hocc : ∀ j, j + f < s.size → Lib.occAt (s.extract f s.size).data.toList [c] j = decide (s[j + f]? = some c) := fun j hj => by
    unfold Lib.occAt
    rw [Lib.extract_from]
    show List.isPrefixOf [c] (List.drop j (List.drop f s.data.toList)) = _
    rw [List.drop_drop, Nat.add_comm f j, dropAt s (j + f) hj, getElem?_pos s (j + f) hj]
    simp [List.isPrefixOf, eq_comm]
    rw [Bool.eq_iff_iff]; simp
  refine Lib.index_first (i := i - f) ?_ ?_ ?_
  · rw [Lib.extract_from]; simp; have := dataLen s; omega
  · rw [show (⟨#[c]⟩ : ByteArray).data.toList = [c] from rfl, hocc _ (by omega), show i - f + f = i by omega, getElem?_pos s i hi, hc]; simp
  · intro j hj
    rw [show (⟨#[c]⟩ : ByteArray).data.toList = [c] from rfl, hocc _ (by omega), getElem?_pos s (j + f) (by omega)]
    have := hno (j + f) (by omega) (by omega) (by omega)
    simpa using this
theorem byte_none {s : ByteArray} {c : UInt8} {f : Nat} (hno : ∀ j (h : j < s.size), f ≤ j → s[j] ≠ c) : Lib.indexB (s.extract f s.size) ⟨#[c]⟩ = -1 := by
  refine Lib.index_none fun j hj => ?_
  cases ho : Lib.occAt (s.extract f s.size).data.toList [c] j with
  | false => rfl
  | true =>
    have h := Lib.occAt_head (c := c) (t := []) rfl ho
    rw [Lib.extract_from] at h
    obtain ⟨hl, he⟩ := List.getElem?_eq_some_iff.1 h
    have hl' : j < s.size - f := by simpa [dataLen] using hl
    refine absurd ?_ (hno (f + j) (by omega) (by omega))
    rw [← he]
    simp
    rfl

end Go.Proofs.YthfoabcmgiiadaaGreatDoor
