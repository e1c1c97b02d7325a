/- Numbers' texts: code and specification both answer 'numP'. -/
import Derived.Test.YtbipgmikgokfpaaDoorUnary2
namespace Go.Proofs.YtbipgmikgokfpaaDoor
open Go.RowKit
set_option linter.unusedVariables false

def dgt (c : UInt8) : Bool := digB (c.toNat : Int)
def valL (l : List UInt8) : Int := l.foldl (fun n c => n * 10 + ((c.toNat : Int) - 48)) 0
theorem valL_snoc (l : List UInt8) (c : UInt8) : valL (l ++ [c]) = valL l * 10 + ((c.toNat : Int) - 48) := by simp [valL]
theorem dgt_bd {c : UInt8} (h : dgt c = true) : 48 ≤ (c.toNat : Int) ∧ (c.toNat : Int) ≤ 57 := by simp [dgt, digB] at h; omega
theorem take_snoc (s : ByteArray) (k : Nat) (h : k < s.size) : s.data.toList.take (k + 1) = s.data.toList.take k ++ [s[k]] := by
  rw [List.take_succ_eq_append_getElem (by simpa using h)]; rfl
theorem valL_bd (s : ByteArray) : ∀ k, k ≤ s.size → (∀ c ∈ s.data.toList.take k, dgt c = true) → 0 ≤ valL (s.data.toList.take k) ∧ valL (s.data.toList.take k) + 1 ≤ ((10 ^ k : Nat) : Int) := by
  intro k
  induction k with
  | zero => intro _ _; simp [valL]
  | succ k ih =>
    intro hk hall
    rw [take_snoc s k hk] at hall ⊢
    have h1 := ih (by omega) (fun c hc => hall c (by simp [hc]))
    have h2 := dgt_bd (hall s[k] (by simp))
    rw [valL_snoc, Nat.pow_succ]
    omega
theorem pow17 {k : Nat} (h : k ≤ 17) : ((10 ^ k : Nat) : Int) ≤ 100000000000000000 := by
  have : 10 ^ k ≤ 10 ^ 17 := Nat.pow_le_pow_right (by omega) h
  omega
def digP (l : List UInt8) : Int × Bool :=
  if l.length = 0 ∨ 18 < l.length ∨ (1 < l.length ∧ l.head? = some 48) ∨ (∃ c ∈ l, dgt c = false) then (0, false) else (valL l, true)
theorem ret_two {a : Int} {p : Bool} {r : Int × Bool} (h : r = (a, p)) : Ending.returned (.tuple #[.int .i64 a, .bool p]) = .returned (.tuple #[.int .i64 r.1, .bool r.2]) := by rw [h]
theorem ret_two' {r q : Int × Bool} (h : r = q) : Ending.returned (.tuple #[.int .i64 q.1, .bool q.2]) = .returned (.tuple #[.int .i64 r.1, .bool r.2]) := by rw [h]
theorem int_eq {a b : Int} (h : a = b) : Value.int .i64 a = .int .i64 b := by rw [h]
theorem size_list (s : ByteArray) : s.data.toList.length = s.size := Array.length_toList
theorem head_list (s : ByteArray) (h : 0 < s.size) : s.data.toList.head? = some s[0] := by
  have h' : 0 < s.data.toList.length := by rw [size_list]; exact h
  rw [List.head?_eq_getElem?, List.getElem?_eq_getElem h']; rfl
theorem digP_none (s : ByteArray) (h : s.size = 0 ∨ 18 < s.size) : digP s.data.toList = (0, false) := by
  unfold digP; rw [size_list]; exact if_pos (by omega)
theorem digP_nought (s : ByteArray) (h : 1 < s.size) (h0 : (s[0].toNat : Int) = 48) : digP s.data.toList = (0, false) := by
  unfold digP; rw [size_list, head_list s (by omega)]
  refine if_pos (.inr (.inr (.inl ⟨h, ?_⟩)))
  congr 1
  apply UInt8.toNat_inj.1
  show s[0].toNat = 48
  omega
theorem digP_bad (s : ByteArray) (k : Nat) (hk : k < s.size) (h : digB (s[k].toNat : Int) = false) : digP s.data.toList = (0, false) := by
  unfold digP
  exact if_pos (.inr (.inr (.inr ⟨s[k], by simp [ByteArray.getElem_eq_getElem_data], h⟩)))
theorem digP_ok (s : ByteArray) (k : Nat) (h0 : 0 < s.size) (h1 : s.size ≤ 18) (hz : 1 < s.size → ¬ (s[0].toNat : Int) = 48) (hk : s.size ≤ k) (hall : ∀ c ∈ s.data.toList.take k, dgt c = true) : digP s.data.toList = (valL (s.data.toList.take k), true) := by
  rw [List.take_of_length_le (by rw [size_list]; omega)] at hall ⊢
  unfold digP
  rw [size_list, head_list s h0]
  refine if_neg ?_
  rintro (h | h | ⟨h, he⟩ | ⟨c, hc, he⟩)
  · omega
  · omega
  · simp at he
    apply hz h
    rw [he]; rfl
  · rw [hall c hc] at he; cases he

def numP (l : List UInt8) : Int × Bool :=
  if l.head? = some 45 then (-(digP l.tail).1, (digP l.tail).2 && (digP l.tail).1 != 0) else digP l

theorem tail_list (s : ByteArray) : (s.extract 1 s.size).data.toList = s.data.toList.tail := by
  rw [ByteArray.data_extract, Array.toList_extract, List.extract_eq_take_drop, ← List.drop_one]
  exact List.take_of_length_le (by rw [List.length_drop, size_list]; omega)
theorem numP_pos (s : ByteArray) (h : s.size = 0 ∨ ∃ h : 0 < s.size, ¬ (s[0].toNat : Int) = 45) : numP s.data.toList = digP s.data.toList := by
  unfold numP
  refine if_neg ?_
  rcases h with h | ⟨h0, h⟩
  · have : s.data.toList = [] := List.eq_nil_of_length_eq_zero (by rw [size_list]; exact h)
    rw [this]; simp
  · rw [head_list s h0]
    intro e
    simp at e
    apply h
    rw [e]; rfl
theorem numP_neg (s : ByteArray) (h0 : 0 < s.size) (h : (s[0].toNat : Int) = 45) : numP s.data.toList = (-(digP (s.extract 1 s.size).data.toList).1, (digP (s.extract 1 s.size).data.toList).2 && (digP (s.extract 1 s.size).data.toList).1 != 0) := by
  unfold numP
  rw [tail_list, head_list s h0]
  refine if_pos ?_
  congr 1
  apply UInt8.toNat_inj.1
  show s[0].toNat = 45
  omega

theorem digP_bd (l : List UInt8) : -1000000000000000000 ≤ (digP l).1 ∧ (digP l).1 ≤ 1000000000000000000 := by
  unfold digP
  split
  · simp
  · rename_i h
    have hl : l.length ≤ 18 := by omega
    have hall : ∀ c ∈ l, dgt c = true := fun c hc => by
      cases hd : dgt c
      · exact absurd (.inr (.inr (.inr ⟨c, hc, hd⟩))) h
      · rfl
    have e : (⟨l.toArray⟩ : ByteArray).data.toList.take l.length = l := by simp
    have hb := valL_bd ⟨l.toArray⟩ l.length (by simp [ByteArray.size]) (by rw [e]; exact hall)
    rw [e] at hb
    have h18 : 10 ^ l.length ≤ 10 ^ 18 := Nat.pow_le_pow_right (by omega) hl
    have h18' : ((10 ^ l.length : Nat) : Int) ≤ 1000000000000000000 := by omega
    simp only
    omega

/-! l00Number -/

theorem valL_pos (s : ByteArray) (h0 : 0 < s.size) (hz : ¬ (s[0].toNat : Int) = 48) : ∀ k, 0 < k → k ≤ s.size → (∀ c ∈ s.data.toList.take k, dgt c = true) → 1 ≤ valL (s.data.toList.take k) := by
  intro k
  induction k with
  | zero => intro h; omega
  | succ k ih =>
    intro _ hk hall
    rw [take_snoc s k hk] at hall ⊢
    have h2 := dgt_bd (hall s[k] (by simp))
    rw [valL_snoc]
    by_cases hk0 : k = 0
    · subst hk0
      simp [valL]
      omega
    · have := ih (by omega) (by omega) (fun c hc => hall c (by simp [hc]))
      omega
def NumFacts (s u : ByteArray) : Prop := u.size ≤ 18 ∧ (∃ h : 0 < u.size, ¬ (u[0].toNat : Int) = 48) ∧ numP s.data.toList = (-(digP u.data.toList).1, (digP u.data.toList).2 && (digP u.data.toList).1 != 0)
theorem negP_zero {n : Int} {b : Bool} (h : n = 0) : ((-n, b && n != 0) : Int × Bool) = (0, false) := by subst h; simp
theorem negP_pos {n : Int} (h : 1 ≤ n) : ((-n, true && n != 0) : Int × Bool) = (-n, true) := by
  rw [show (n != 0) = true by rw [bne_iff_ne]; omega]; rfl
theorem digP_lone (s : ByteArray) (h0 : 0 < s.size) (hz : (s[0].toNat : Int) = 48) : (digP s.data.toList).1 = 0 := by
  by_cases h1 : 1 < s.size
  · rw [digP_nought s h1 hz]
  · have hl : s.data.toList = [48] := by
      have hln : s.data.toList.length = 1 := by rw [size_list]; omega
      match hx : s.data.toList, hln with
      | [c], _ =>
        have := head_list s h0
        rw [hx] at this
        simp at this
        rw [this]
        congr 1
        apply UInt8.toNat_inj.1
        show s[0].toNat = 48
        omega
    rw [hl]; decide

set_option maxHeartbeats 400000 in
theorem l00Number_neg_empty (s : ByteArray) (w : World) (hs : s.size ≤ 9223372036854775807) (hp : 0 < s.size) (hm : ((s[0].toNat : Int) == 45) = true) (h : s.size = 1) :
    Calls Tryd.prog 165 #[.string s] w fun e w' => e = .returned (.tuple #[.int .i64 0, .bool false]) ∧ w' = w := by
  have e0 : ((s.size - 1 : Nat) : Int) = 0 := by omega
  have e1 : (((s.size - 1 : Nat) : Int) == 0) = true := by rw [e0]; rfl
  clear e0
  go_enter Tryd.func165, Tryd.ntmps165
  go_wp2
  go_ret2
  exact ⟨rfl, rfl⟩

set_option maxHeartbeats 400000 in
theorem l00Number_neg_long (s : ByteArray) (w : World) (hs : s.size ≤ 9223372036854775807) (hp : 0 < s.size) (hm : ((s[0].toNat : Int) == 45) = true) (h : 18 < (s.size - 1)) :
    Calls Tryd.prog 165 #[.string s] w fun e w' => e = .returned (.tuple #[.int .i64 0, .bool false]) ∧ w' = w := by
  have e1 : ((((s.size - 1) : Nat) : Int) == 0) = false := beq_eq_false_iff_ne.2 (by omega)
  go_enter Tryd.func165, Tryd.ntmps165
  go_wp2
  go_ret2
  exact ⟨rfl, rfl⟩

set_option maxHeartbeats 400000 in
theorem l00Number_neg_nought (s : ByteArray) (w : World) (hs : s.size ≤ 9223372036854775807) (hp : 0 < s.size) (hm : ((s[0].toNat : Int) == 45) = true) (h1 : 1 < s.size) (h18 : s.size - 1 ≤ 18) (hu : 0 < (s.extract 1 s.size).size) (hz : (((s.extract 1 s.size)[0].toNat : Int) == 48) = true) :
    Calls Tryd.prog 165 #[.string s] w fun e w' => e = .returned (.tuple #[.int .i64 0, .bool false]) ∧ w' = w := by
  have e1 : (((s.size - 1 : Nat) : Int) == 0) = false := beq_eq_false_iff_ne.2 (by omega)
  have e2 : (0 : Int) < ((s.size - 1 : Nat) : Int) := by omega
  go_enter Tryd.func165, Tryd.ntmps165
  go_wp2
  all_goals
    go_ret2
    exact ⟨rfl, rfl⟩

set_option maxHeartbeats 1000000 in
theorem l00Number_neg_loop (s : ByteArray) (w : World) (hs : s.size ≤ 9223372036854775807) (hp : 0 < s.size) (hm : ((s[0].toNat : Int) == 45) = true) (h1 : 1 < s.size) (h18 : s.size - 1 ≤ 18) (hu : 0 < (s.extract 1 s.size).size) (hz : Hid (¬ ((s.extract 1 s.size)[0].toNat : Int) = 48)) :
    Calls Tryd.prog 165 #[.string s] w fun e w' => e = .returned (.tuple #[.int .i64 (numP s.data.toList).1, .bool (numP s.data.toList).2]) ∧ w' = w := by
  have e1 : ((((s.size - 1) : Nat) : Int) == 0) = false := beq_eq_false_iff_ne.2 (by omega)
  have e2 : (0 : Int) < ((s.size - 1 : Nat) : Int) := by omega
  have hsz : Hid ((s.extract 1 s.size).size = s.size - 1) := by rw [ByteArray.size_extract]; exact hide (by omega)
  have ez : (((s.extract 1 s.size)[0].toNat : Int) == 48) = false := beq_eq_false_iff_ne.2 (unhide hz)
  have hF := hide (show NumFacts s (s.extract 1 s.size) from ⟨by have := unhide hsz; omega, ⟨hu, unhide hz⟩, numP_neg s hp (by simpa using hm)⟩)
  clear hz hsz
  go_enter Tryd.func165, Tryd.ntmps165
  go_wp2
  clear ez
  generalize ((s.extract 1 s.size)[0].toNat : Int) = c0
  clear hu
  generalize s.extract 1 s.size = u at hF ⊢
  have hu18 : u.size ≤ 18 := (unhide hF).1
  obtain ⟨hu, hz⟩ := (unhide hF).2.1
  have hzz := hide (fun (_ : 1 < u.size) => hz)
  have hU := hide (valL_pos u hu hz)
  have hnum := hide (unhide hF).2.2
  clear hz hF
  go_loop [5, 6] (fun n i => ∃ k : Nat, k ≤ u.size ∧ i = .int .i64 k ∧ n = .int .i64 (valL (u.data.toList.take k)) ∧ ∀ c ∈ u.data.toList.take k, dgt c = true) (fun _ i => u.size - (intOf i).toNat)
  case atStart => exact ⟨0, by omega, rfl, rfl, fun c hc => by simp at hc⟩
  case round =>
    obtain ⟨k, hk, rfl, rfl, hall⟩ := hrel
    have hb := valL_bd u k hk hall
    have hv0 : 0 ≤ valL (u.data.toList.take k) := hb.1
    by_cases hlt : k < u.size
    · have hv2 : valL (u.data.toList.take k) ≤ 100000000000000000 := by
        have := pow17 (k := k) (by omega)
        omega
      clear hb
      cases hD : digB (u[k].toNat : Int)
      · have hd := hide (digP_bad u k hlt hD)
        have hDD : (u[k].toNat : Int) < 48 ∨ 57 < (u[k].toNat : Int) := by simp [digB] at hD; omega
        clear hall hD
        rcases hDD with hDD | hDD
        all_goals
          go_wp2
          go_ret2
          exact ⟨ret_two (by rw [unhide hnum]; exact negP_zero (by rw [unhide hd])), rfl⟩
      · have hc := dgt_bd (c := u[k]) hD
        have hsn : Hid (valL (u.data.toList.take (k + 1)) = valL (u.data.toList.take k) * 10 + ((u[k].toNat : Int) - 48)) := by rw [take_snoc u k hlt, valL_snoc]; rfl
        have hal : Hid (∀ c ∈ u.data.toList.take (k + 1), dgt c = true) := by
          rw [take_snoc u k hlt]
          intro c hc
          rcases List.mem_append.1 hc with h | h
          · exact hall c h
          · simp at h; subst h; exact hD
        obtain ⟨hc1, hc2⟩ := hc
        clear hall hD
        go_wp2
        go_round
        case rel => exact ⟨k + 1, by omega, by go_num, int_eq (by rw [unhide hsn]; omega), unhide hal⟩
        case measure => simp [intOf]; omega
    · have hd := hide (digP_ok u k hu hu18 (unhide hzz) (by omega) hall)
      have hpos := hide (unhide hU k (by omega) hk hall)
      have hv3 : valL (u.data.toList.take k) ≤ 1000000000000000000 := by
        have h9 : 10 ^ k ≤ 10 ^ 18 := Nat.pow_le_pow_right (by omega) (by omega)
        have : ((10 ^ k : Nat) : Int) ≤ 1000000000000000000 := by omega
        omega
      clear hall hb
      go_wp2
      go_ret2
      exact ⟨ret_two (by rw [unhide hnum, unhide hd]; rw [negP_pos (unhide hpos)]), rfl⟩

set_option maxHeartbeats 400000 in
theorem l00Number_pos_long (s : ByteArray) (w : World) (hs : s.size ≤ 9223372036854775807) (hp : 0 < s.size) (hm : ((s[0].toNat : Int) == 45) = false) (h : 18 < s.size) :
    Calls Tryd.prog 165 #[.string s] w fun e w' => e = .returned (.tuple #[.int .i64 0, .bool false]) ∧ w' = w := by
  have e1 : (((s.size : Nat) : Int) == 0) = false := beq_eq_false_iff_ne.2 (by omega)
  go_enter Tryd.func165, Tryd.ntmps165
  go_wp2
  go_ret2
  exact ⟨rfl, rfl⟩

set_option maxHeartbeats 400000 in
theorem l00Number_pos_nought (s : ByteArray) (w : World) (hs : s.size ≤ 9223372036854775807) (hp : 0 < s.size) (hm : ((s[0].toNat : Int) == 45) = false) (h1 : 1 < s.size) (h18 : s.size ≤ 18) (hz : ((s[0].toNat : Int) == 48) = true) :
    Calls Tryd.prog 165 #[.string s] w fun e w' => e = .returned (.tuple #[.int .i64 0, .bool false]) ∧ w' = w := by
  have e1 : ((s.size : Int) == 0) = false := beq_eq_false_iff_ne.2 (by omega)
  go_enter Tryd.func165, Tryd.ntmps165
  go_wp2
  go_ret2
  exact ⟨rfl, rfl⟩

set_option maxHeartbeats 1000000 in
theorem l00Number_pos_loopa (s : ByteArray) (w : World) (hs : s.size ≤ 9223372036854775807) (hp : 0 < s.size) (hm : ((s[0].toNat : Int) == 45) = false) (h18 : s.size ≤ 18) (ez : ((s[0].toNat : Int) == 48) = false) (hzz : Hid (1 < s.size → ¬ (s[0].toNat : Int) = 48))  :
    Calls Tryd.prog 165 #[.string s] w fun e w' => e = .returned (.tuple #[.int .i64 (numP s.data.toList).1, .bool (numP s.data.toList).2]) ∧ w' = w := by
  have e1 : (((s.size : Nat) : Int) == 0) = false := beq_eq_false_iff_ne.2 (by omega)
  have hnum := hide (numP_pos s (.inr ⟨hp, by simpa using hm⟩))
  go_enter Tryd.func165, Tryd.ntmps165
  go_wp2
  clear ez
  have hu18 : s.size ≤ 18 := h18
  have hu := hp
  go_loop [5, 6] (fun n i => ∃ k : Nat, k ≤ s.size ∧ i = .int .i64 k ∧ n = .int .i64 (valL (s.data.toList.take k)) ∧ ∀ c ∈ s.data.toList.take k, dgt c = true) (fun _ i => s.size - (intOf i).toNat)
  case atStart => exact ⟨0, by omega, rfl, rfl, fun c hc => by simp at hc⟩
  case round =>
    obtain ⟨k, hk, rfl, rfl, hall⟩ := hrel
    have hb := valL_bd s k hk hall
    have hv0 : 0 ≤ valL (s.data.toList.take k) := hb.1
    by_cases hlt : k < s.size
    · have hv2 : valL (s.data.toList.take k) ≤ 100000000000000000 := by
        have := pow17 (k := k) (by omega)
        omega
      clear hb
      cases hD : digB (s[k].toNat : Int)
      · have hd := hide (digP_bad s k hlt hD)
        have hDD : (s[k].toNat : Int) < 48 ∨ 57 < (s[k].toNat : Int) := by simp [digB] at hD; omega
        clear hall hD
        rcases hDD with hDD | hDD
        all_goals
          go_wp2
          go_ret2
          exact ⟨ret_two (by rw [unhide hnum]; exact unhide hd), rfl⟩
      · have hc := dgt_bd (c := s[k]) hD
        have hsn : Hid (valL (s.data.toList.take (k + 1)) = valL (s.data.toList.take k) * 10 + ((s[k].toNat : Int) - 48)) := by rw [take_snoc s k hlt, valL_snoc]; rfl
        have hal : Hid (∀ c ∈ s.data.toList.take (k + 1), dgt c = true) := by
          rw [take_snoc s k hlt]
          intro c hc
          rcases List.mem_append.1 hc with h | h
          · exact hall c h
          · simp at h; subst h; exact hD
        obtain ⟨hc1, hc2⟩ := hc
        clear hall hD
        go_wp2
        go_round
        case rel => exact ⟨k + 1, by omega, by go_num, int_eq (by rw [unhide hsn]; omega), unhide hal⟩
        case measure => simp [intOf]; omega
    · have hd := hide (digP_ok s k hu hu18 (unhide hzz) (by omega) hall)
      have hv3 : valL (s.data.toList.take k) ≤ 1000000000000000000 := by
        have h9 : 10 ^ k ≤ 10 ^ 18 := Nat.pow_le_pow_right (by omega) (by omega)
        have : ((10 ^ k : Nat) : Int) ≤ 1000000000000000000 := by omega
        omega
      clear hall hb
      go_wp2
      go_ret2
      exact ⟨ret_two (by rw [unhide hnum, unhide hd]), rfl⟩

set_option maxHeartbeats 1000000 in
theorem l00Number_pos_loopb (s : ByteArray) (w : World) (hs : s.size ≤ 9223372036854775807) (hp : 0 < s.size) (hm : ((s[0].toNat : Int) == 45) = false) (h18 : s.size ≤ 18) (ez : ((s[0].toNat : Int) == 48) = true) (hzz : Hid (1 < s.size → ¬ (s[0].toNat : Int) = 48)) (ho : s.size ≤ 1) :
    Calls Tryd.prog 165 #[.string s] w fun e w' => e = .returned (.tuple #[.int .i64 (numP s.data.toList).1, .bool (numP s.data.toList).2]) ∧ w' = w := by
  have e1 : (((s.size : Nat) : Int) == 0) = false := beq_eq_false_iff_ne.2 (by omega)
  have hnum := hide (numP_pos s (.inr ⟨hp, by simpa using hm⟩))
  go_enter Tryd.func165, Tryd.ntmps165
  go_wp2
  clear ez
  have hu18 : s.size ≤ 18 := h18
  have hu := hp
  go_loop [5, 6] (fun n i => ∃ k : Nat, k ≤ s.size ∧ i = .int .i64 k ∧ n = .int .i64 (valL (s.data.toList.take k)) ∧ ∀ c ∈ s.data.toList.take k, dgt c = true) (fun _ i => s.size - (intOf i).toNat)
  case atStart => exact ⟨0, by omega, rfl, rfl, fun c hc => by simp at hc⟩
  case round =>
    obtain ⟨k, hk, rfl, rfl, hall⟩ := hrel
    have hb := valL_bd s k hk hall
    have hv0 : 0 ≤ valL (s.data.toList.take k) := hb.1
    by_cases hlt : k < s.size
    · have hv2 : valL (s.data.toList.take k) ≤ 100000000000000000 := by
        have := pow17 (k := k) (by omega)
        omega
      clear hb
      cases hD : digB (s[k].toNat : Int)
      · have hd := hide (digP_bad s k hlt hD)
        have hDD : (s[k].toNat : Int) < 48 ∨ 57 < (s[k].toNat : Int) := by simp [digB] at hD; omega
        clear hall hD
        rcases hDD with hDD | hDD
        all_goals
          go_wp2
          go_ret2
          exact ⟨ret_two (by rw [unhide hnum]; exact unhide hd), rfl⟩
      · have hc := dgt_bd (c := s[k]) hD
        have hsn : Hid (valL (s.data.toList.take (k + 1)) = valL (s.data.toList.take k) * 10 + ((s[k].toNat : Int) - 48)) := by rw [take_snoc s k hlt, valL_snoc]; rfl
        have hal : Hid (∀ c ∈ s.data.toList.take (k + 1), dgt c = true) := by
          rw [take_snoc s k hlt]
          intro c hc
          rcases List.mem_append.1 hc with h | h
          · exact hall c h
          · simp at h; subst h; exact hD
        obtain ⟨hc1, hc2⟩ := hc
        clear hall hD
        go_wp2
        go_round
        case rel => exact ⟨k + 1, by omega, by go_num, int_eq (by rw [unhide hsn]; omega), unhide hal⟩
        case measure => simp [intOf]; omega
    · have hd := hide (digP_ok s k hu hu18 (unhide hzz) (by omega) hall)
      have hv3 : valL (s.data.toList.take k) ≤ 1000000000000000000 := by
        have h9 : 10 ^ k ≤ 10 ^ 18 := Nat.pow_le_pow_right (by omega) (by omega)
        have : ((10 ^ k : Nat) : Int) ≤ 1000000000000000000 := by omega
        omega
      clear hall hb
      go_wp2
      go_ret2
      exact ⟨ret_two (by rw [unhide hnum, unhide hd]), rfl⟩

set_option maxHeartbeats 400000 in
theorem l00Number_zero (s : ByteArray) (w : World) (h : s.size = 0) :
    Calls Tryd.prog 165 #[.string s] w fun e w' => e = .returned (.tuple #[.int .i64 0, .bool false]) ∧ w' = w := by
  have e0 : ¬ (0 : Int) < (s.size : Int) := by omega
  have e1 : ((s.size : Int) == 0) = true := by rw [h]; rfl
  clear h
  go_enter Tryd.func165, Tryd.ntmps165
  go_wp2
  go_ret2
  exact ⟨rfl, rfl⟩

theorem l00Number_any (s : ByteArray) (w : World) (hs : s.size ≤ maxLen) :
    Calls Tryd.prog 165 #[.string s] w fun e w' => e = .returned (.tuple #[.int .i64 (numP s.data.toList).1, .bool (numP s.data.toList).2]) ∧ w' = w := by
  unfold maxLen at hs
  by_cases h0 : s.size = 0
  · rw [numP_pos s (.inl h0), digP_none s (.inl h0)]
    exact l00Number_zero s w h0
  have hp : 0 < s.size := by omega
  by_cases hz : (s[0].toNat : Int) = 45
  · have hm : ((s[0].toNat : Int) == 45) = true := by rw [hz]; rfl
    have hsz : (s.extract 1 s.size).size = s.size - 1 := by rw [ByteArray.size_extract]; omega
    by_cases h1 : s.size = 1
    · rw [numP_neg s hp hz, digP_none (s.extract 1 s.size) (.inl (by omega)), negP_zero rfl]
      exact l00Number_neg_empty s w (by omega) hp hm h1
    by_cases h18 : 18 < s.size - 1
    · rw [numP_neg s hp hz, digP_none (s.extract 1 s.size) (.inr (by omega)), negP_zero rfl]
      exact l00Number_neg_long s w (by omega) hp hm h18
    have hu : 0 < (s.extract 1 s.size).size := by omega
    by_cases he : ((s.extract 1 s.size)[0].toNat : Int) = 48
    · rw [numP_neg s hp hz, negP_zero (digP_lone _ hu he)]
      exact l00Number_neg_nought s w (by omega) hp hm (by omega) (by omega) hu (by rw [he]; rfl)
    · exact l00Number_neg_loop s w (by omega) hp hm (by omega) (by omega) hu he
  · have hm : ((s[0].toNat : Int) == 45) = false := beq_eq_false_iff_ne.2 hz
    by_cases h18 : 18 < s.size
    · rw [numP_pos s (.inr ⟨hp, hz⟩), digP_none s (.inr h18)]
      exact l00Number_pos_long s w (by omega) hp hm h18
    by_cases he : (s[0].toNat : Int) = 48
    · by_cases h1 : 1 < s.size
      · rw [numP_pos s (.inr ⟨hp, hz⟩), digP_nought s h1 he]
        exact l00Number_pos_nought s w (by omega) hp hm h1 (by omega) (by rw [he]; rfl)
      · exact l00Number_pos_loopb s w (by omega) hp hm (by omega) (by rw [he]; rfl) (fun h => absurd h h1) (by omega)
    · exact l00Number_pos_loopa s w (by omega) hp hm (by omega) (beq_eq_false_iff_ne.2 he) (fun _ => he)

end Go.Proofs.YtbipgmikgokfpaaDoor
