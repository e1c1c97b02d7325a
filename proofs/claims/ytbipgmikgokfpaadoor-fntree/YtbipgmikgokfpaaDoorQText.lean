/- Texts put between quotes: code and specification both answer 'quoteR'; the law. -/
import Derived.Test.YtbipgmikgokfpaaDoorBufWalk
namespace Go.Proofs.YtbipgmikgokfpaaDoor
open Go.RowKit
set_option linter.unusedVariables false

set_option maxHeartbeats 1000000 in
theorem l02Plain_any (s : ByteArray) (w : World) (hs : s.size ≤ maxLen) :
    Calls Tryd.prog 148 #[.string s] w fun e w' => e = .returned (.bool (plainB s.data.toList)) ∧ w' = w := by
  unfold maxLen at hs
  go_enter Tryd.func148, Tryd.ntmps148
  go_wp2
  go_loop [3] (fun i => ∃ k : Nat, k ≤ s.size ∧ i = .int .i64 k ∧ plainTo s k) (fun i => s.size - (intOf i).toNat)
  case atStart => exact ⟨0, by omega, rfl, fun i _ hi => by omega⟩
  case round =>
    obtain ⟨k, hk, rfl, hto⟩ := hrel
    by_cases hlt : k < s.size
    · have hsuc := hide (plain_succ s k hlt hto)
      have hno := hide (plain_no s k hlt)
      clear hto
      by_cases q32 : (s[k].toNat : Int) < 32 ∨ 126 < (s[k].toNat : Int)
      · have hd := hide (unhide hno (okC_false q32))
        have qb : (s[k].toNat : Int) ≤ 255 := by have := s[k].toNat_lt; omega
        rcases q32 with q32 | q32
        all_goals
          go_wp2_with fail
          refine (l01In_is _ _ _ false _ (by simp; omega)).mono ?_
          rintro e w ⟨rfl, rfl⟩
          clear q32 qb
          go_wp2
          go_ret
          exact ⟨ret_bool (unhide hd).symm, rfl⟩
      have q1 : 32 ≤ (s[k].toNat : Int) := by omega
      have q2 : (s[k].toNat : Int) ≤ 126 := by omega
      have hd := hide (unhide hsuc (okC_true q1 q2))
      clear q32
      go_wp2_with fail
      refine (l01In_is _ _ _ true _ (by simp; omega)).mono ?_
      rintro e w ⟨rfl, rfl⟩
      clear q1 q2
      go_wp2
      go_round
      case rel => exact ⟨k + 1, by omega, by go_num, unhide hd⟩
      case measure => simp [intOf]; omega
    · by_cases h60 : s.size ≤ 60
      · have hy := hide (plain_yes s h60 k (by omega) hto)
        clear hto
        go_wp2
        go_ret
        exact ⟨ret_bool (by rw [unhide hy]; simp; omega), rfl⟩
      · have hy := hide (plain_long s (by omega))
        clear hto
        go_wp2
        go_ret
        exact ⟨ret_bool (by rw [unhide hy]; simp; omega), rfl⟩

set_option maxHeartbeats 4000000 in
set_option maxRecDepth 100000 in
theorem l02Quote_any (s : ByteArray) (w : World) (hs : s.size ≤ 65536) :
    Calls Tryd.prog 95 #[.string s] w fun e w' => e = .returned (.string ⟨(quoteL s.data.toList).toArray⟩) ∧ Below w.heap.size w w' := by
  have hlit := hide (Buf.lit w w.heap.size 39 (Nat.le_refl _))
  go_enter Tryd.func95, Tryd.ntmps95
  go_wp2
  go_loopw [3, 4] (fun m i wx => ∃ (k : Nat) (acc : List UInt8), k ≤ s.size ∧ i = .int .i64 k ∧ Hid (EscAt [] s k acc) ∧ Buf wx w.heap.size m acc ∧ Below w.heap.size w wx) (fun _ i _ => s.size - (intOf i).toNat)
  case atStart => exact ⟨0, [39], by omega, rfl, hide (esc_zero [] s), unhide hlit, nx_alloc _ _⟩
  case round =>
    clear hlit
    obtain ⟨k, acc, hk, rfl, hin, hown, hnx⟩ := hrel
    have hal : acc.length ≤ 1 + 2 * k := by have := (unhide hin).2; simp at this; omega
    have hwr : w.heap.size ≤ wr.heap.size := hnx.size
    by_cases hlt : k < s.size
    · by_cases q : (s[k].toNat : Int) = 39 ∨ (s[k].toNat : Int) = 92
      · have hin2 := hide (esc_two (unhide hin) hlt (q.imp (fun h => byte_eq (d := 39) h) (fun h => byte_eq (d := 92) h)))
        obtain ⟨b1, hb1⟩ : ∃ b, ((s[k].toNat : Int) == 39) = b := ⟨_, rfl⟩
        have hb2 : b1 = false → ((s[k].toNat : Int) == 92) = true := fun h => by
          subst h
          rcases q with q | q
          · rw [q] at hb1; exact absurd hb1 (by decide)
          · rw [q]; rfl
        have HB2 := hide hb2
        clear q hb2
        cases b1
        · have hb2 := unhide HB2 rfl
          go_wp2_with (at_builtin; refine wp_app1 _ rfl _ _ rfl w.heap.size wr.heap.size _ acc 92 rfl (hown.alloc _) rfl (by simp) ?c5 ?c3 ?c6)
          case c5 => first | omega | (simp; omega)
          case c3 => omega
          case c6 =>
            intro v2 w2 hown2 hb2
            have hnx2 : Below w.heap.size w w2 := (hnx.alloc hwr _).trans hb2
            have hw2 : w.heap.size ≤ w2.heap.size := hnx2.size
            have HO2 := hide hown2
            clear hown2 hb2 hown
            go_wp2_with (at_builtin; refine wp_app1 _ rfl _ _ rfl w.heap.size w2.heap.size _ (acc ++ [92]) s[k] rfl ((unhide HO2).alloc _) rfl (by simp) ?c5 ?c3 ?c6)
            case c5 => first | omega | (simp; omega)
            case c3 => simp; omega
            case c6 =>
              intro v3 w3 hown3 hb3
              have hnx3 : Below w.heap.size w w3 := (hnx2.alloc hw2 _).trans hb3
              have HO3 := hide hown3
              clear hown3 hb3
              go_wp2
              go_roundw
              case rel => exact ⟨k + 1, acc ++ [92, s[k]], by omega, by go_num, hide (unhide hin2), unhide HO3, hnx3⟩
              case measure => simp [intOf]; omega
        · go_wp2_with (at_builtin; refine wp_app1 _ rfl _ _ rfl w.heap.size wr.heap.size _ acc 92 rfl (hown.alloc _) rfl (by simp) ?c5 ?c3 ?c6)
          case c5 => first | omega | (simp; omega)
          case c3 => omega
          case c6 =>
            intro v2 w2 hown2 hb2
            have hnx2 : Below w.heap.size w w2 := (hnx.alloc hwr _).trans hb2
            have hw2 : w.heap.size ≤ w2.heap.size := hnx2.size
            have HO2 := hide hown2
            clear hown2 hb2 hown
            go_wp2_with (at_builtin; refine wp_app1 _ rfl _ _ rfl w.heap.size w2.heap.size _ (acc ++ [92]) s[k] rfl ((unhide HO2).alloc _) rfl (by simp) ?c5 ?c3 ?c6)
            case c5 => first | omega | (simp; omega)
            case c3 => simp; omega
            case c6 =>
              intro v3 w3 hown3 hb3
              have hnx3 : Below w.heap.size w w3 := (hnx2.alloc hw2 _).trans hb3
              have HO3 := hide hown3
              clear hown3 hb3
              go_wp2
              go_roundw
              case rel => exact ⟨k + 1, acc ++ [92, s[k]], by omega, by go_num, hide (unhide hin2), unhide HO3, hnx3⟩
              case measure => simp [intOf]; omega
      · have hin2 := hide (esc_one (unhide hin) hlt (fun h => q (h.imp (fun e => by rw [e]; rfl) (fun e => by rw [e]; rfl))))
        have b1 : ((s[k].toNat : Int) == 39) = false := beq_eq_false_iff_ne.2 (fun h => q (.inl h))
        have b2 : ((s[k].toNat : Int) == 92) = false := beq_eq_false_iff_ne.2 (fun h => q (.inr h))
        clear q
        go_wp2_with (at_builtin; refine wp_app1 _ rfl _ _ rfl w.heap.size wr.heap.size _ acc s[k] rfl (hown.alloc _) rfl (by simp) ?c5 ?c3 ?c6)
        case c5 => first | omega | (simp; omega)
        case c3 => omega
        case c6 =>
          intro v2 w2 hown2 hb2
          have hnx2 : Below w.heap.size w w2 := (hnx.alloc hwr _).trans hb2
          have HO2 := hide hown2
          clear hown2 hb2 hown
          go_wp2
          go_roundw
          case rel => exact ⟨k + 1, acc ++ [s[k]], by omega, by go_num, hide (unhide hin2), unhide HO2, hnx2⟩
          case measure => simp [intOf]; omega
    · have hd := hide (esc_end (unhide hin) (by omega))
      go_wp2_with (at_builtin; refine wp_app1 _ rfl _ _ rfl w.heap.size wr.heap.size _ acc 39 rfl (hown.alloc _) rfl (by simp) ?c5 ?c3 ?c6)
      case c5 => first | omega | (simp; omega)
      case c3 => omega
      case c6 =>
        intro v2 w2 hown2 hb2
        have hnx2 : Below w.heap.size w w2 := (hnx.alloc hwr _).trans hb2
        rw [unhide hd] at hown2
        have hcv := hown2.conv
        have HO2 := hide hown2
        clear hown2 hb2 hown
        go_wp2
        go_ret
        exact ⟨rfl, hnx2⟩

/-- a text between quotes, and a code -/
def quoteR (s : ByteArray) : List UInt8 × Int :=
  if 65536 < s.size then ([], 2) else if plainB s.data.toList = true then (quoteL s.data.toList, 0) else ([], 4)

end Go.Proofs.YtbipgmikgokfpaaDoor
