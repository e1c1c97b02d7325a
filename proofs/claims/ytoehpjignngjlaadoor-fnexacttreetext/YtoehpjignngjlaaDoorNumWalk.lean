/- Numbers' texts: code and specification both answer 'numP'. -/
import Derived.Test.YtoehpjignngjlaaDoorUnary2
namespace Go.Proofs.YtoehpjignngjlaaDoor
open Go.RowKit
set_option linter.unusedVariables false

def dgt (c : UInt8) : Bool := digB (c.toNat : Int)
def valL (l : List UInt8) : Int := l.foldl (fun n c => n * 10 + ((c.toNat : Int) - 48)) 0
theorem valL_snoc (l : List UInt8) (c : UInt8) : valL (l ++ [c]) = valL l * 10 + ((c.toNat : Int) - 48) := by simp [valL]
theorem dgt_bd {c : UInt8} (h : dgt c = true) : 48 ≤ (c.toNat : Int) ∧ (c.toNat : Int) ≤ 57 := by simp [dgt, digB] at h; omega
theorem take_snoc (s : ByteArray) (k : Nat) (h : k < s.size) : s.data.toList.take (k + 1) = s.data.toList.take k ++ [s[k]] := by
  rw [List.take_succ_eq_append_getElem (by simpa using h)]; rfl
theorem valL_bd (s : ByteArray) : ∀ k, k ≤ s.size → (∀ c ∈ s.data.toList.take k, dgt c = true) → 0 ≤ valL (s.data.toList.take k) ∧ valL (s.data.toList.take k) + 1 ≤ ((10 ^ k : Nat) : Int) := by
  intro k
  induction k with
  | zero => intro _ _; simp [valL]
  | succ k ih =>
    intro hk hall
    rw [take_snoc s k hk] at hall ⊢
    have h1 := ih (by omega) (fun c hc => hall c (by simp [hc]))
    have h2 := dgt_bd (hall s[k] (by simp))
    rw [valL_snoc, Nat.pow_succ]
    omega
theorem pow17 {k : Nat} (h : k ≤ 17) : ((10 ^ k : Nat) : Int) ≤ 100000000000000000 := by
  have : 10 ^ k ≤ 10 ^ 17 := Nat.pow_le_pow_right (by omega) h
  omega
def digP (l : List UInt8) : Int × Bool :=
  if l.length = 0 ∨ 18 < l.length ∨ (1 < l.length ∧ l.head? = some 48) ∨ (∃ c ∈ l, dgt c = false) then (0, false) else (valL l, true)
theorem ret_two {a : Int} {p : Bool} {r : Int × Bool} (h : r = (a, p)) : Ending.returned (.tuple #[.int .i64 a, .bool p]) = .returned (.tuple #[.int .i64 r.1, .bool r.2]) := by rw [h]
theorem ret_two' {r q : Int × Bool} (h : r = q) : Ending.returned (.tuple #[.int .i64 q.1, .bool q.2]) = .returned (.tuple #[.int .i64 r.1, .bool r.2]) := by rw [h]
theorem int_eq {a b : Int} (h : a = b) : Value.int .i64 a = .int .i64 b := by rw [h]
theorem size_list (s : ByteArray) : s.data.toList.length = s.size := Array.length_toList
theorem head_list (s : ByteArray) (h : 0 < s.size) : s.data.toList.head? = some s[0] := by
  have h' : 0 < s.data.toList.length := by rw [size_list]; exact h
  rw [List.head?_eq_getElem?, List.getElem?_eq_getElem h']; rfl
theorem digP_none (s : ByteArray) (h : s.size = 0 ∨ 18 < s.size) : digP s.data.toList = (0, false) := by
  unfold digP; rw [size_list]; exact if_pos (by omega)
theorem digP_nought (s : ByteArray) (h : 1 < s.size) (h0 : (s[0].toNat : Int) = 48) : digP s.data.toList = (0, false) := by
  unfold digP; rw [size_list, head_list s (by omega)]
  refine if_pos (.inr (.inr (.inl ⟨h, ?_⟩)))
  congr 1
  apply UInt8.toNat_inj.1
  show s[0].toNat = 48
  omega
theorem digP_bad (s : ByteArray) (k : Nat) (hk : k < s.size) (h : digB (s[k].toNat : Int) = false) : digP s.data.toList = (0, false) := by
  unfold digP
  exact if_pos (.inr (.inr (.inr ⟨s[k], by simp [ByteArray.getElem_eq_getElem_data], h⟩)))
theorem digP_ok (s : ByteArray) (k : Nat) (h0 : 0 < s.size) (h1 : s.size ≤ 18) (hz : 1 < s.size → ¬ (s[0].toNat : Int) = 48) (hk : s.size ≤ k) (hall : ∀ c ∈ s.data.toList.take k, dgt c = true) : digP s.data.toList = (valL (s.data.toList.take k), true) := by
  rw [List.take_of_length_le (by rw [size_list]; omega)] at hall ⊢
  unfold digP
  rw [size_list, head_list s h0]
  refine if_neg ?_
  rintro (h | h | ⟨h, he⟩ | ⟨c, hc, he⟩)
  · omega
  · omega
  · simp at he
    apply hz h
    rw [he]; rfl
  · rw [hall c hc] at he; cases he

def numP (l : List UInt8) : Int × Bool :=
  if l.head? = some 45 then (-(digP l.tail).1, (digP l.tail).2 && (digP l.tail).1 != 0) else digP l

theorem tail_list (s : ByteArray) : (s.extract 1 s.size).data.toList = s.data.toList.tail := by
  rw [ByteArray.data_extract, Array.toList_extract, List.extract_eq_take_drop, ← List.drop_one]
  exact List.take_of_length_le (by rw [List.length_drop, size_list]; omega)
theorem numP_pos (s : ByteArray) (h : s.size = 0 ∨ ∃ h : 0 < s.size, ¬ (s[0].toNat : Int) = 45) : numP s.data.toList = digP s.data.toList := by
  unfold numP
  refine if_neg ?_
  rcases h with h | ⟨h0, h⟩
  · have : s.data.toList = [] := List.eq_nil_of_length_eq_zero (by rw [size_list]; exact h)
    rw [this]; simp
  · rw [head_list s h0]
    intro e
    simp at e
    apply h
    rw [e]; rfl
theorem numP_neg (s : ByteArray) (h0 : 0 < s.size) (h : (s[0].toNat : Int) = 45) : numP s.data.toList = (-(digP (s.extract 1 s.size).data.toList).1, (digP (s.extract 1 s.size).data.toList).2 && (digP (s.extract 1 s.size).data.toList).1 != 0) := by
  unfold numP
  rw [tail_list, head_list s h0]
  refine if_pos ?_
  congr 1
  apply UInt8.toNat_inj.1
  show s[0].toNat = 45
  omega

theorem digP_bd (l : List UInt8) : -1000000000000000000 ≤ (digP l).1 ∧ (digP l).1 ≤ 1000000000000000000 := by
  unfold digP
  split
  · simp
  · rename_i h
    have hl : l.length ≤ 18 := by omega
    have hall : ∀ c ∈ l, dgt c = true := fun c hc => by
      cases hd : dgt c
      · exact absurd (.inr (.inr (.inr ⟨c, hc, hd⟩))) h
      · rfl
    have e : (⟨l.toArray⟩ : ByteArray).data.toList.take l.length = l := by simp
    have hb := valL_bd ⟨l.toArray⟩ l.length (by simp [ByteArray.size]) (by rw [e]; exact hall)
    rw [e] at hb
    have h18 : 10 ^ l.length ≤ 10 ^ 18 := Nat.pow_le_pow_right (by omega) hl
    have h18' : ((10 ^ l.length : Nat) : Int) ≤ 1000000000000000000 := by omega
    simp only
    omega

/-! l00Number -/

theorem valL_pos (s : ByteArray) (h0 : 0 < s.size) (hz : ¬ (s[0].toNat : Int) = 48) : ∀ k, 0 < k → k ≤ s.size → (∀ c ∈ s.data.toList.take k, dgt c = true) → 1 ≤ valL (s.data.toList.take k) := by
  intro k
  induction k with
  | zero => intro h; omega
  | succ k ih =>
    intro _ hk hall
    rw [take_snoc s k hk] at hall ⊢
    have h2 := dgt_bd (hall s[k] (by simp))
    rw [valL_snoc]
    by_cases hk0 : k = 0
    · subst hk0
      simp [valL]
      omega
    · have := ih (by omega) (by omega) (fun c hc => hall c (by simp [hc]))
      omega
def NumFacts (s u : ByteArray) : Prop := u.size ≤ 18 ∧ (∃ h : 0 < u.size, ¬ (u[0].toNat : Int) = 48) ∧ numP s.data.toList = (-(digP u.data.toList).1, (digP u.data.toList).2 && (digP u.data.toList).1 != 0)
theorem negP_zero {n : Int} {b : Bool} (h : n = 0) : ((-n, b && n != 0) : Int × Bool) = (0, false) := by subst h; simp
theorem negP_pos {n : Int} (h : 1 ≤ n) : ((-n, true && n != 0) : Int × Bool) = (-n, true) := by
  rw [show (n != 0) = true by rw [bne_iff_ne]; omega]; rfl
theorem digP_lone (s : ByteArray) (h0 : 0 < s.size) (hz : (s[0].toNat : Int) = 48) : (digP s.data.toList).1 = 0 := by
  by_cases h1 : 1 < s.size
  · rw [digP_nought s h1 hz]
  · have hl : s.data.toList = [48] := by
      have hln : s.data.toList.length = 1 := by rw [size_list]; omega
      match hx : s.data.toList, hln with
      | [c], _ =>
        have := head_list s h0
        rw [hx] at this
        simp at this
        rw [this]
        congr 1
        apply UInt8.toNat_inj.1
        show s[0].toNat = 48
        omega
    rw [hl]; decide

end Go.Proofs.YtoehpjignngjlaaDoor
