/- Paths, words of statuses, the search for a text in a text: code and specification. -/
import Derived.Test.YthfoabcmgiiadaaGreatDoorWireL
import Derived.Test.YthfoabcmgiiadaaGreatDoorByteEq0
import Derived.Laws.Strings
namespace Go.Proofs.YthfoabcmgiiadaaGreatDoor
open Go.RowKit
set_option linter.unusedVariables false

set_option maxHeartbeats 400000 in
theorem isNameByteW_any (c : Int) (w : World) :
    Calls Tryz.prog 114 #[.int .u8 c] w fun e w' => e = .returned (.bool (letB c || digB c)) ∧ w' = w := by
  go_enter Tryz.func114, Tryz.ntmps114
  cases hl : letB c
  · go_wp2_with (first | (go_at_call 127; refine (isLetter_any _ _).mono ?_; rintro e w' ⟨rfl, rfl⟩) | (go_at_call 128; refine (isDigit_any _ _).mono ?_; rintro e w' ⟨rfl, rfl⟩))
    go_ret
    exact ⟨ret_bool (by simp), rfl⟩
  · go_wp2_with (first | (go_at_call 127; refine (isLetter_any _ _).mono ?_; rintro e w' ⟨rfl, rfl⟩) | (go_at_call 128; refine (isDigit_any _ _).mono ?_; rintro e w' ⟨rfl, rfl⟩))
    go_ret
    exact ⟨ret_bool (by simp), rfl⟩

set_option maxHeartbeats 400000 in
theorem isPathByte_any (c : Int) (w : World) :
    Calls Tryz.prog 99 #[.int .u8 c] w fun e w' => e = .returned (.bool (pathC c)) ∧ w' = w := by
  go_enter Tryz.func99, Tryz.ntmps99
  cases hl : (letB c || digB c)
  · go_wp2_with (go_at_call 114; refine (isNameByteW_any _ _).mono ?_; rintro e w' ⟨rfl, rfl⟩; rw [hl])
    all_goals
      go_ret
      refine ⟨ret_bool ?_, rfl⟩
      unfold pathC
      rw [hl, Bool.eq_iff_iff]
      simp <;> omega
  · go_wp2_with (go_at_call 114; refine (isNameByteW_any _ _).mono ?_; rintro e w' ⟨rfl, rfl⟩; rw [hl])
    go_ret
    exact ⟨ret_bool (by unfold pathC; rw [hl]; simp), rfl⟩

set_option maxHeartbeats 400000 in
theorem pathOK_any (s : ByteArray) (w : World) (hs : s.size ≤ maxLen) :
    Calls Tryz.prog 90 #[.string s] w fun e w' => e = .returned (.bool (wpathB s)) ∧ w' = w := by
  unfold maxLen at hs
  by_cases h0 : s.size = 0
  · have e0 : ((s.size : Int) == 0) = true := by simp [h0]
    have hb := hide (wpathB_size s (by omega))
    go_enter Tryz.func90, Tryz.ntmps90
    go_wp2
    go_ret
    exact ⟨ret_bool (unhide hb).symm, rfl⟩
  have e0 : ((s.size : Int) == 0) = false := beq_eq_false_iff_ne.2 (by omega)
  have p0 : 0 < s.size := by omega
  have p0' : (0 : Int) < (s.size : Int) := by omega
  by_cases h1 : 40 < s.size
  · have hb := hide (wpathB_size s (by omega))
    go_enter Tryz.func90, Tryz.ntmps90
    go_wp2
    go_ret
    exact ⟨ret_bool (unhide hb).symm, rfl⟩
  by_cases h47 : (s[0].toNat : Int) = 47
  · have HH := hide (show ∀ h : 0 < s.size, (s[0].toNat : Int) = 47 from fun _ => h47)
    have b47 : ((s[0].toNat : Int) != 47) = false := by simp [h47]
    have c47 : ((s[0].toNat : Int) == 47) = true := by simp [h47]
    clear h47
    go_enter Tryz.func90, Tryz.ntmps90
    go_wp2
    go_loop [19] (fun i => ∃ k : Nat, k ≤ s.size ∧ i = .int .i64 k ∧ pathTo s k) (fun i => s.size - (intOf i).toNat)
    case atStart => exact ⟨0, by omega, rfl, fun i _ hi => by omega⟩
    case round =>
      obtain ⟨k, hk, rfl, hto⟩ := hrel
      clear b47 c47
      by_cases hlt : k < s.size
      · have hsuc := hide (pathTo_succ s k hlt hto)
        have hno := hide (wpathB_no s k hlt)
        clear hto
        cases hP : pathC (s[k].toNat : Int)
        · go_wp2_with (go_at_call 99; refine (isPathByte_any _ _).mono ?_; rintro e w' ⟨rfl, rfl⟩)
          go_ret
          exact ⟨ret_bool (unhide hno hP).symm, rfl⟩
        · go_wp2_with (go_at_call 99; refine (isPathByte_any _ _).mono ?_; rintro e w' ⟨rfl, rfl⟩)
          go_round
          case rel => exact ⟨k + 1, by omega, by go_num, unhide hsuc hP⟩
          case measure => simp [intOf]; omega
      · have hy := hide (wpathB_yes s (by omega) (by omega) (unhide HH) k (by omega) hto)
        clear hto
        go_wp2
        go_ret
        exact ⟨ret_bool (unhide hy).symm, rfl⟩
  · have hb := hide (wpathB_head s p0 h47)
    have b47 : ((s[0].toNat : Int) != 47) = true := by simp [h47]
    have c47 : ((s[0].toNat : Int) == 47) = false := by simp [h47]
    clear h47
    go_enter Tryz.func90, Tryz.ntmps90
    go_wp2
    go_ret
    exact ⟨ret_bool (unhide hb).symm, rfl⟩

theorem pathC_not {c : Int} (h1 : letB c = false) (h2 : digB c = false) (h3 : (c == 47) = false) (h4 : (c == 46) = false) (h5 : (c == 45) = false) : pathC c = false := by
  unfold pathC; rw [h1, h2]; simp at *; omega

set_option maxHeartbeats 1000000 in
theorem l08Path_any (s : ByteArray) (w : World) (hs : s.size ≤ maxLen) :
    Calls Tryz.prog 23 #[.string s] w fun e w' => e = .returned (.bool (wpathB s)) ∧ w' = w := by
  unfold maxLen at hs
  by_cases h0 : s.size = 0
  · have hb := hide (wpathB_size s (by omega))
    go_enter Tryz.func23, Tryz.ntmps23
    go_wp2
    go_ret
    exact ⟨ret_bool (unhide hb).symm, rfl⟩
  have p0 : 0 < s.size := by omega
  have p0' : (0 : Int) < (s.size : Int) := by omega
  by_cases h1 : 40 < s.size
  · have hb := hide (wpathB_size s (by omega))
    go_enter Tryz.func23, Tryz.ntmps23
    go_wp2
    go_ret
    exact ⟨ret_bool (unhide hb).symm, rfl⟩
  by_cases h47 : (s[0].toNat : Int) = 47
  · have HH := hide (show ∀ h : 0 < s.size, (s[0].toNat : Int) = 47 from fun _ => h47)
    have b47 : ((s[0].toNat : Int) != 47) = false := by simp [h47]
    have c47 : ((s[0].toNat : Int) == 47) = true := by simp [h47]
    clear h47
    go_enter Tryz.func23, Tryz.ntmps23
    go_wp2
    go_loop [3] (fun i => ∃ k : Nat, k ≤ s.size ∧ i = .int .i64 k ∧ pathTo s k) (fun i => s.size - (intOf i).toNat)
    case atStart => exact ⟨0, by omega, rfl, fun i _ hi => by omega⟩
    case round =>
      obtain ⟨k, hk, rfl, hto⟩ := hrel
      clear b47 c47
      by_cases hlt : k < s.size
      · have hsuc := hide (pathTo_succ s k hlt hto)
        have hno := hide (wpathB_no s k hlt)
        clear hto
        cases hL : letB (s[k].toNat : Int)
        · cases hD : digB (s[k].toNat : Int)
          · cases hA : ((s[k].toNat : Int) == 47)
            · have hA' : ((s[k].toNat : Int) != 47) = true := by simp [bne, hA]
              cases hB : ((s[k].toNat : Int) == 46)
              · have hB' : ((s[k].toNat : Int) != 46) = true := by simp [bne, hB]
                cases hC : ((s[k].toNat : Int) == 45)
                · have hC' : ((s[k].toNat : Int) != 45) = true := by simp [bne, hC]
                  have hf := hide (unhide hno (pathC_not hL hD hA hB hC))
                  go_wp2_with (first | (go_at_call 42; refine (l00Letter_any _ _).mono ?_; rintro e w' ⟨rfl, rfl⟩) | (go_at_call 43; refine (l00Digit_any _ _).mono ?_; rintro e w' ⟨rfl, rfl⟩))
                  go_ret
                  exact ⟨ret_bool (unhide hf).symm, rfl⟩
                · have hC' : ((s[k].toNat : Int) != 45) = false := by simp [bne, hC]
                  have hf := hide (unhide hsuc (by unfold pathC; rw [hL, hD]; simp at *; omega))
                  go_wp2_with (first | (go_at_call 42; refine (l00Letter_any _ _).mono ?_; rintro e w' ⟨rfl, rfl⟩) | (go_at_call 43; refine (l00Digit_any _ _).mono ?_; rintro e w' ⟨rfl, rfl⟩))
                  go_round
                  case rel => exact ⟨k + 1, by omega, by go_num, unhide hf⟩
                  case measure => simp [intOf]; omega
              · have hB' : ((s[k].toNat : Int) != 46) = false := by simp [bne, hB]
                have hf := hide (unhide hsuc (by unfold pathC; rw [hL, hD]; simp at *; omega))
                go_wp2_with (first | (go_at_call 42; refine (l00Letter_any _ _).mono ?_; rintro e w' ⟨rfl, rfl⟩) | (go_at_call 43; refine (l00Digit_any _ _).mono ?_; rintro e w' ⟨rfl, rfl⟩))
                go_round
                case rel => exact ⟨k + 1, by omega, by go_num, unhide hf⟩
                case measure => simp [intOf]; omega
            · have hA' : ((s[k].toNat : Int) != 47) = false := by simp [bne, hA]
              have hf := hide (unhide hsuc (by unfold pathC; rw [hL, hD]; simp at *; omega))
              go_wp2_with (first | (go_at_call 42; refine (l00Letter_any _ _).mono ?_; rintro e w' ⟨rfl, rfl⟩) | (go_at_call 43; refine (l00Digit_any _ _).mono ?_; rintro e w' ⟨rfl, rfl⟩))
              go_round
              case rel => exact ⟨k + 1, by omega, by go_num, unhide hf⟩
              case measure => simp [intOf]; omega
          · have hf := hide (unhide hsuc (by unfold pathC; rw [hL, hD]; simp))
            go_wp2_with (first | (go_at_call 42; refine (l00Letter_any _ _).mono ?_; rintro e w' ⟨rfl, rfl⟩) | (go_at_call 43; refine (l00Digit_any _ _).mono ?_; rintro e w' ⟨rfl, rfl⟩))
            go_round
            case rel => exact ⟨k + 1, by omega, by go_num, unhide hf⟩
            case measure => simp [intOf]; omega
        · have hf := hide (unhide hsuc (by unfold pathC; rw [hL]; simp))
          go_wp2_with (first | (go_at_call 42; refine (l00Letter_any _ _).mono ?_; rintro e w' ⟨rfl, rfl⟩) | (go_at_call 43; refine (l00Digit_any _ _).mono ?_; rintro e w' ⟨rfl, rfl⟩))
          go_round
          case rel => exact ⟨k + 1, by omega, by go_num, unhide hf⟩
          case measure => simp [intOf]; omega
      · have hy := hide (wpathB_yes s (by omega) (by omega) (unhide HH) k (by omega) hto)
        clear hto
        go_wp2
        go_ret
        exact ⟨ret_bool (unhide hy).symm, rfl⟩
  · have hb := hide (wpathB_head s p0 h47)
    have b47 : ((s[0].toNat : Int) != 47) = true := by simp [h47]
    have c47 : ((s[0].toNat : Int) == 47) = false := by simp [h47]
    clear h47
    go_enter Tryz.func23, Tryz.ntmps23
    go_wp2
    go_ret
    exact ⟨ret_bool (unhide hb).symm, rfl⟩

theorem occ_eq (s sub : ByteArray) (k : Nat) (h : k + sub.size ≤ s.size) : (s.extract k (k + sub.size) = sub) ↔ Lib.occAt s.data.toList sub.data.toList k = true := by
  rw [Lib.occAt_iff_take _ _ _ (by rw [← Lib.size_eq, ← Lib.size_eq]; exact h), beq_iff_eq, Lib.extract_eq]
  rw [show k + sub.size - k = sub.data.toList.length by rw [← Lib.size_eq]; omega]
  constructor
  · intro e
    have := congrArg (fun t : ByteArray => t.data.toList) e
    simpa using this
  · intro e
    rw [e]

theorem index_out {s sub : ByteArray} {k : Nat} (h1 : 1 ≤ sub.size) (hlt : ¬ k + sub.size ≤ s.size) (hno : ∀ j, j < k → Lib.occAt s.data.toList sub.data.toList j = false) : Lib.indexB s sub = -1 :=
  Lib.index_none fun j hj => by
    by_cases ej : j < k
    · exact hno j ej
    · cases ho : Lib.occAt s.data.toList sub.data.toList j
      · rfl
      · rcases Lib.occAt_room ho with h | h
        · rw [← Lib.size_eq, ← Lib.size_eq] at h; omega
        · have := congrArg List.length h
          rw [← Lib.size_eq] at this
          have h0 : sub.size = 0 := this
          omega

set_option maxHeartbeats 1000000 in
theorem l08Find_any (s sub : ByteArray) (w : World) (hs : s.size ≤ 1000000) (h1 : 1 ≤ sub.size) (h2 : sub.size ≤ 1000) :
    Calls Tryz.prog 74 #[.string s, .string sub] w fun e w' => e = .returned (.int .i64 (Lib.indexB s sub)) ∧ w' = w := by
  go_enter Tryz.func74, Tryz.ntmps74
  go_wp2
  go_loop [5] (fun i => ∃ k : Nat, k ≤ s.size ∧ i = .int .i64 k ∧ Hid (∀ j, j < k → Lib.occAt s.data.toList sub.data.toList j = false)) (fun i => s.size + 1 - (intOf i).toNat)
  case atStart => exact ⟨0, by omega, rfl, hide fun j hj => by omega⟩
  case round =>
    obtain ⟨k, hk, rfl, hno⟩ := hrel
    have hsum : IntKind.i64.wrap ((k : Int) + (sub.size : Int)) = ((k + sub.size : Nat) : Int) := by rw [IntKind.wrap_i64]; omega
    by_cases hlt : k + sub.size ≤ s.size
    · by_cases he : s.extract k (k + sub.size) = sub
      · have hd : Hid (Lib.indexB s sub = (k : Int)) := hide (Lib.index_first (by rw [← Lib.size_eq]; omega) ((occ_eq s sub k hlt).1 he) (unhide hno))
        have q1 := qa_self sub
        have q2 := ql_self sub
        go_wp2
        go_ret
        exact ⟨by rw [unhide hd]; rfl, rfl⟩
      · have hd : Hid (∀ j, j < k + 1 → Lib.occAt s.data.toList sub.data.toList j = false) := hide fun j hj => by
          by_cases ej : j = k
          · subst ej
            cases ho : Lib.occAt s.data.toList sub.data.toList j
            · rfl
            · exact absurd ((occ_eq s sub j hlt).2 ho) he
          · exact unhide hno j (by omega)
        have q1 := qa_ne he
        have q2 := ql_ne he
        clear he
        go_wp2
        go_round
        case rel => exact ⟨k + 1, by omega, by go_num, hd⟩
        case measure => simp [intOf]; omega
    · have hd : Hid (Lib.indexB s sub = -1) := hide (index_out h1 hlt (unhide hno))
      go_wp2
      go_ret
      exact ⟨by rw [unhide hd]; rfl, rfl⟩

end Go.Proofs.YthfoabcmgiiadaaGreatDoor
