/- What names are: 'impl.NameOK' and 'spec.NameOK' both answer 'nameB', and leave the world as it was. -/
import Derived.Test.YtbipgmikgokfpaaDoorLetters
namespace Go.Proofs.YtbipgmikgokfpaaDoor
open Go.RowKit

/-- byte i of a name may stand there -/
def namePart (i : Nat) (c : Int) : Bool := letB c || (decide (0 < i) && digB c)
/-- the bytes below k may stand where they stand -/
def nameTo (s : ByteArray) (k : Nat) : Prop := ∀ i (h : i < s.size), i < k → namePart i (s[i].toNat : Int) = true
def nameB (s : ByteArray) : Bool := decide (1 ≤ s.size ∧ s.size ≤ 40 ∧ ∀ i (h : i < s.size), namePart i (s[i].toNat : Int) = true)

theorem nameB_yes (s : ByteArray) (h0 : 1 ≤ s.size) (h1 : s.size ≤ 40) (k : Nat) (hk : s.size ≤ k) (h : nameTo s k) : nameB s = true := by
  unfold nameB
  rw [decide_eq_true_iff]
  exact ⟨h0, h1, fun i hi => h i hi (by omega)⟩
theorem nameB_no (s : ByteArray) (k : Nat) (hk : k < s.size) (h : namePart k (s[k].toNat : Int) = false) : nameB s = false := by
  unfold nameB
  rw [decide_eq_false_iff_not]
  rintro ⟨_, _, hall⟩
  rw [hall k hk] at h
  cases h
theorem nameB_size (s : ByteArray) (h : s.size < 1 ∨ 40 < s.size) : nameB s = false := by
  unfold nameB
  rw [decide_eq_false_iff_not]
  rintro ⟨_, _, _⟩
  omega
theorem nameTo_succ (s : ByteArray) (k : Nat) (hk : k < s.size) (h : nameTo s k) (hp : namePart k (s[k].toNat : Int) = true) : nameTo s (k + 1) := by
  intro i hi hik
  by_cases e : i = k
  · subst e; exact hp
  · exact h i hi (by omega)

set_option maxHeartbeats 400000 in
theorem NameOK_any (s : ByteArray) (w : World) (hs : s.size ≤ maxLen) :
    Calls Tryd.prog 171 #[.string s] w fun e w' => e = .returned (.bool (nameB s)) ∧ w' = w := by
  unfold maxLen at hs
  by_cases h0 : s.size = 0
  · have e0 : ((s.size : Int) == 0) = true := by simp [h0]
    have hb := hide (nameB_size s (by omega))
    go_enter Tryd.func171, Tryd.ntmps171
    go_wp2
    go_ret
    exact ⟨ret_bool (unhide hb).symm, rfl⟩
  have e0 : ((s.size : Int) == 0) = false := beq_eq_false_iff_ne.2 (by omega)
  by_cases h1 : 40 < s.size
  · have hb := hide (nameB_size s (by omega))
    go_enter Tryd.func171, Tryd.ntmps171
    go_wp2
    go_ret
    exact ⟨ret_bool (unhide hb).symm, rfl⟩
  go_enter Tryd.func171, Tryd.ntmps171
  go_wp2
  go_loop [14] (fun i => ∃ k : Nat, k ≤ s.size ∧ i = .int .i64 k ∧ nameTo s k) (fun i => s.size - (intOf i).toNat)
  case atStart => exact ⟨0, by omega, rfl, fun i _ hi => by omega⟩
  case round =>
    obtain ⟨k, hk, rfl, hto⟩ := hrel
    by_cases hlt : k < s.size
    · have hsuc := hide (nameTo_succ s k hlt hto)
      have hno := hide (nameB_no s k hlt)
      clear hto
      cases hL : letB (s[k].toNat : Int)
      · by_cases hk0 : k = 0
        · subst hk0
          go_wp2_with (first | (go_at_call 179; refine (isLetter_any _ _).mono ?_; rintro e w' ⟨rfl, rfl⟩) | (go_at_call 180; refine (isDigit_any _ _).mono ?_; rintro e w' ⟨rfl, rfl⟩))
          go_ret
          exact ⟨ret_bool (unhide hno (by simp [namePart, hL])).symm, rfl⟩
        · have ek : ((k : Int) == 0) = false := beq_eq_false_iff_ne.2 (by omega)
          cases hD : digB (s[k].toNat : Int)
          · go_wp2_with (first | (go_at_call 179; refine (isLetter_any _ _).mono ?_; rintro e w' ⟨rfl, rfl⟩) | (go_at_call 180; refine (isDigit_any _ _).mono ?_; rintro e w' ⟨rfl, rfl⟩))
            go_ret
            exact ⟨ret_bool (unhide hno (by simp [namePart, hL, hD])).symm, rfl⟩
          · go_wp2_with (first | (go_at_call 179; refine (isLetter_any _ _).mono ?_; rintro e w' ⟨rfl, rfl⟩) | (go_at_call 180; refine (isDigit_any _ _).mono ?_; rintro e w' ⟨rfl, rfl⟩))
            go_round
            case rel => exact ⟨k + 1, by omega, by go_num, unhide hsuc (by simp [namePart, hD]; omega)⟩
            case measure => simp [intOf]; omega
      · go_wp2_with (first | (go_at_call 179; refine (isLetter_any _ _).mono ?_; rintro e w' ⟨rfl, rfl⟩) | (go_at_call 180; refine (isDigit_any _ _).mono ?_; rintro e w' ⟨rfl, rfl⟩))
        go_round
        case rel => exact ⟨k + 1, by omega, by go_num, unhide hsuc (by simp [namePart, hL])⟩
        case measure => simp [intOf]; omega
    · have hy := hide (nameB_yes s (by omega) (by omega) k (by omega) hto)
      clear hto
      go_wp2
      go_ret
      exact ⟨ret_bool (unhide hy).symm, rfl⟩

set_option maxHeartbeats 400000 in
theorem l00Word_any (s : ByteArray) (w : World) (hs : s.size ≤ maxLen) :
    Calls Tryd.prog 178 #[.string s] w fun e w' => e = .returned (.bool (nameB s)) ∧ w' = w := by
  unfold maxLen at hs
  by_cases h0 : s.size < 1
  · have hb := hide (nameB_size s (by omega))
    go_enter Tryd.func178, Tryd.ntmps178
    go_wp2
    go_ret
    exact ⟨ret_bool (unhide hb).symm, rfl⟩
  by_cases h1 : 40 < s.size
  · have hb := hide (nameB_size s (by omega))
    go_enter Tryd.func178, Tryd.ntmps178
    go_wp2
    go_ret
    exact ⟨ret_bool (unhide hb).symm, rfl⟩
  have h2 : 0 < s.size := by omega
  have hno := hide (nameB_no s 0 h2)
  have hst : Hid (namePart 0 (s[0].toNat : Int) = true → nameTo s 1) := fun hp i hi hik => by
    obtain rfl : i = 0 := by omega
    exact hp
  cases hL : letB (s[0].toNat : Int)
  · go_enter Tryd.func178, Tryd.ntmps178
    go_wp2_with (first | (go_at_call 162; refine (l00Letter_any _ _).mono ?_; rintro e w' ⟨rfl, rfl⟩))
    go_ret
    exact ⟨ret_bool (unhide hno (by simp [namePart, hL])).symm, rfl⟩
  have hone : Hid (nameTo s 1) := unhide hst (by simp [namePart, hL])
  go_enter Tryd.func178, Tryd.ntmps178
  go_wp2_with (first | (go_at_call 162; refine (l00Letter_any _ _).mono ?_; rintro e w' ⟨rfl, rfl⟩))
  go_loop [3] (fun i => ∃ k : Nat, 1 ≤ k ∧ k ≤ s.size ∧ i = .int .i64 k ∧ nameTo s k) (fun i => s.size - (intOf i).toNat)
  case atStart => exact ⟨1, by omega, by omega, rfl, unhide hone⟩
  case round =>
    obtain ⟨k, hk1, hk, rfl, hto⟩ := hrel
    clear hL hone hno hst
    by_cases hlt : k < s.size
    · have hsuc := hide (nameTo_succ s k hlt hto)
      have hno := hide (nameB_no s k hlt)
      clear hto
      cases hL : letB (s[k].toNat : Int)
      · cases hD : digB (s[k].toNat : Int)
        · go_wp2_with (first | (go_at_call 162; refine (l00Letter_any _ _).mono ?_; rintro e w' ⟨rfl, rfl⟩) | (go_at_call 163; refine (l00Digit_any _ _).mono ?_; rintro e w' ⟨rfl, rfl⟩))
          go_ret
          exact ⟨ret_bool (unhide hno (by simp [namePart, hL, hD])).symm, rfl⟩
        · go_wp2_with (first | (go_at_call 162; refine (l00Letter_any _ _).mono ?_; rintro e w' ⟨rfl, rfl⟩) | (go_at_call 163; refine (l00Digit_any _ _).mono ?_; rintro e w' ⟨rfl, rfl⟩))
          go_round
          case rel => exact ⟨k + 1, by omega, by omega, by go_num, unhide hsuc (by simp [namePart, hD]; omega)⟩
          case measure => simp [intOf]; omega
      · go_wp2_with (first | (go_at_call 162; refine (l00Letter_any _ _).mono ?_; rintro e w' ⟨rfl, rfl⟩) | (go_at_call 163; refine (l00Digit_any _ _).mono ?_; rintro e w' ⟨rfl, rfl⟩))
        go_round
        case rel => exact ⟨k + 1, by omega, by omega, by go_num, unhide hsuc (by simp [namePart, hL])⟩
        case measure => simp [intOf]; omega
    · have hy := hide (nameB_yes s (by omega) (by omega) k (by omega) hto)
      clear hto
      go_wp2
      go_ret
      exact ⟨ret_bool (unhide hy).symm, rfl⟩

theorem specNameOK_any (s : ByteArray) (w : World) (hs : s.size ≤ maxLen) :
    Calls Tryd.prog 169 #[.string s] w fun e w' => e = .returned (.bool (nameB s)) ∧ w' = w := by
  go_enter Tryd.func169, Tryd.ntmps169
  go_wp2_with (go_at_call 178; refine (l00Word_any _ _ hs).mono ?_; rintro e w' ⟨rfl, rfl⟩)
  go_ret
  exact ⟨rfl, rfl⟩

end Go.Proofs.YtbipgmikgokfpaaDoor
