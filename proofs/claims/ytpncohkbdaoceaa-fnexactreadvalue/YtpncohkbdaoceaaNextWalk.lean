/- Texts between quotes, the specification's side: 'spec.l02Next' at a text that begins with a quote. -/
import Derived.Test.YtpncohkbdaoceaaQuoteWalk
import Derived.Laws.OwnMore
namespace Go.Proofs.Ytpncohkbdaoceaa
open Go.RowKit
set_option linter.unusedVariables false

/-- the text meant and the place behind the closing quote -/
def qN (l : List UInt8) : Option (List UInt8 × Nat) :=
  match scanQ (l.drop 1) with
  | some (t, r) => if t.length ≤ 60 then some (t, l.length - r.length) else none
  | none => none
def nextV : Option (List UInt8 × Nat) → Value
  | some (t, p) => .tuple #[.agg #[.int .i64 4, .int .i64 0, .string ⟨t.toArray⟩], .int .i64 (p : Int), .bool true]
  | none => .tuple #[.agg #[.int .i64 0, .int .i64 0, .string ⟨#[]⟩], .int .i64 0, .bool false]
def QAt (s : ByteArray) (k : Nat) (t : List UInt8) : Prop := scanQ (s.data.toList.drop 1) = (scanQ (s.data.toList.drop k)).map (fun p => (t ++ p.1, p.2))
theorem q_none {s : ByteArray} {k : Nat} {t : List UInt8} (h : QAt s k t) (hn : scanQ (s.data.toList.drop k) = none) : qN s.data.toList = none := by
  unfold qN; rw [h, hn]; rfl
theorem q_long {s : ByteArray} {k : Nat} {t : List UInt8} (h : QAt s k t) (hk : k < s.size) (hq : s[k] = 39) (ht : 60 < t.length) : qN s.data.toList = none := by
  unfold qN; rw [h, drop_at s k hk, hq, scanQ_end]
  simp
  omega
theorem q_done {s : ByteArray} {k : Nat} {t : List UInt8} (h : QAt s k t) (hk : k < s.size) (hq : s[k] = 39) (ht : t.length ≤ 60) : qN s.data.toList = some (t, k + 1) := by
  unfold qN; rw [h, drop_at s k hk, hq, scanQ_end]
  simp only [Option.map_some, List.append_nil]
  rw [if_pos ht, List.length_drop, size_list]
  congr 2
  omega
theorem q_plain {s : ByteArray} {k : Nat} {t : List UInt8} (h : QAt s k t) (hk : k < s.size) (h1 : s[k] ≠ 39) (h2 : s[k] ≠ 92) (h3 : okC s[k] = true) : QAt s (k + 1) (t ++ [s[k]]) := by
  unfold QAt at *
  rw [h, drop_at s k hk, scanQ_plain _ _ h1 h2 h3, Option.map_map]
  congr 1
  funext p
  simp
theorem q_esc {s : ByteArray} {k : Nat} {t : List UInt8} (h : QAt s k t) (hk : k < s.size) (hk1 : k + 1 < s.size) (h2 : s[k] = 92) (h3 : s[k + 1] = 39 ∨ s[k + 1] = 92) : QAt s (k + 2) (t ++ [s[k + 1]]) := by
  unfold QAt at *
  rw [h, drop_at s k hk, drop_at s (k + 1) hk1, h2, scanQ_esc _ _ h3, Option.map_map]
  congr 1
  funext p
  simp

def Z70 : Obj := .cells #[.int .i64 0, .int .i64 0, .string ⟨#[]⟩] 70

set_option maxHeartbeats 8000000 in
set_option maxRecDepth 100000 in
theorem l02Next_quote (s : ByteArray) (w : World) (hs : s.size ≤ 65536) (h1 : 1 ≤ s.size) (h0 : ((s[0].toNat : Int) == 39) = true) :
    Calls Try.prog 62 #[.string s, .int .i64 0] w fun e w' => e = .returned (nextV (qN s.data.toList)) ∧ Below w.heap.size w w' := by
  obtain ⟨i0, hi, hz0, hz1, hz2⟩ := info_parts infoByte
  have hlet : letB (s[0].toNat : Int) = false := by rw [show (s[0].toNat : Int) = 39 by simpa using h0]; decide
  have hdig : digB (s[0].toNat : Int) = false := by rw [show (s[0].toNat : Int) = 39 by simpa using h0]; decide
  obtain ⟨r, hr⟩ : ∃ r, r = qN s.data.toList := ⟨_, rfl⟩
  rw [← hr]
  have HQ := hide hr
  clear hr
  go_enter Try.func62, Try.ntmps62
  go_wp2_with (first | (go_at_call 73; refine (l00Letter_any _ _).mono ?_; rintro e w' ⟨rfl, rfl⟩) | (go_at_call 74; refine (l00Digit_any _ _).mono ?_; rintro e w' ⟨rfl, rfl⟩))
  go_loopw [8, 12] (fun i m wx => ∃ (k : Nat) (t : List UInt8), 1 ≤ k ∧ k ≤ s.size ∧ i = .int .i64 k ∧ t.length < k ∧ Hid (QAt s k t) ∧ wx.ownsRow (w.heap.size + 1) 5 1 m t.length (Lib.byteCells t) ∧ Below (w.heap.size + 1) (w.alloc Z70) wx) (fun i _ _ => s.size - (intOf i).toNat)
  case atStart => exact ⟨1, [], by omega, by omega, rfl, by simp, hide (by unfold QAt; simp), (by have h9 := World.ownsRow_lit (base := w.heap.size + 1) (e := 5) (size := 1) (w.alloc Z70) #[] 0 (by simp) (by simp) (by simp); simpa [Z70, Lib.byteCells] using h9), (Below.refl _ _).alloc (by simp) _⟩
  case round =>
    clear h0 hlet hdig
    obtain ⟨k, t, hk1, hk, rfl, ht, hin, hown, hnx⟩ := hrel
    obtain ⟨ma, mcap, rfl⟩ := own_slice hown
    by_cases hlt : k < s.size
    · by_cases q39 : (s[k].toNat : Int) = 39
      · have e39 : ((s[k].toNat : Int) != 39) = false := by rw [q39]; rfl
        have b39 := hide (byte_eq (d := 39) q39)
        have eks : ((k : Int) == (s.size : Int)) = false := beq_eq_false_iff_ne.2 (by omega)
        clear q39
        by_cases q60 : 60 < t.length
        · have hd := hide (q_long (unhide hin) hlt (unhide b39) q60)
          obtain ⟨hc, hf⟩ := bcell (W := w.alloc Z70) (by simpa using hnx)
          have hz : w.heap.size < wr.heap.size := by have := hnx.size; simp at this; omega
          unfold Z70 at hc hf
          go_wp2
          exact bodyPost_ret (v := nextV none) (by simp [results, Try.results62, go_sem, nextV, hc]) rfl ⟨by rw [unhide HQ, unhide hd], (nx_set (nx_set (nx_set (nx_trans (nx_alloc _ _) (by simpa using hnx)) (by omega)) (by omega)) (by omega))⟩
        · have hd := hide (q_done (unhide hin) hlt (unhide b39) (by omega))
          have hcv := conv_own t hown
          obtain ⟨hc, hf⟩ := bcell (W := w.alloc Z70) (by simpa using hnx)
          have hz : w.heap.size < wr.heap.size := by have := hnx.size; simp at this; omega
          unfold Z70 at hc hf
          go_wp2
          exact bodyPost_ret (v := nextV (some (t, k + 1))) (by simp [results, Try.results62, go_sem, nextV, hc]) rfl ⟨by rw [unhide HQ, unhide hd], (nx_set (nx_set (nx_set (nx_trans (nx_alloc _ _) (by simpa using hnx)) (by omega)) (by omega)) (by omega))⟩
      have e39 : ((s[k].toNat : Int) != 39) = true := by rw [bne_iff_ne]; exact q39
      by_cases q92 : (s[k].toNat : Int) = 92
      · have e92 : ((s[k].toNat : Int) == 92) = true := by rw [q92]; rfl
        have b92 := hide (byte_eq (d := 92) q92)
        by_cases hend : k + 1 = s.size
        · have ee : (((k : Int) + 1) == (s.size : Int)) = true := by simp; omega
          have hd := hide (q_none (unhide hin) (by rw [drop_at s k hlt, unhide b92, drop_end s (k + 1) (by omega)]; exact scanQ_esc0))
          clear q92 q39 hend
          obtain ⟨hc, hf⟩ := bcell (W := w.alloc Z70) (by simpa using hnx)
          have hz : w.heap.size < wr.heap.size := by have := hnx.size; simp at this; omega
          unfold Z70 at hc hf
          go_wp2
          exact bodyPost_ret (v := nextV none) (by simp [results, Try.results62, go_sem, nextV, hc]) rfl ⟨by rw [unhide HQ, unhide hd], (nx_set (nx_set (nx_set (nx_trans (nx_alloc _ _) (by simpa using hnx)) (by omega)) (by omega)) (by omega))⟩
        have hlt1 : k + 1 < s.size := by omega
        have hlt1' : (k : Int) + 1 < (s.size : Int) := by omega
        have ee : (((k : Int) + 1) == (s.size : Int)) = false := beq_eq_false_iff_ne.2 (by omega)
        by_cases qd : (s[k + 1].toNat : Int) = 39 ∨ (s[k + 1].toNat : Int) = 92
        · have hin2 := hide (q_esc (unhide hin) hlt hlt1 (unhide b92) (qd.imp (fun h => byte_eq (d := 39) h) (fun h => byte_eq (d := 92) h)))
          clear q92 q39 hend
          rcases qd with qd | qd
          · have f1 : ((s[k + 1].toNat : Int) != 39) = false := by rw [qd]; rfl
            have g1 : 32 ≤ (s[k + 1].toNat : Int) := by omega
            have g2 : (s[k + 1].toNat : Int) ≤ 126 := by omega
            clear qd
            go_wp2_with fail
            refine (l01In_is _ _ _ true _ (by simp; omega)).mono ?_
            rintro e wr ⟨rfl, rfl⟩
            go_wp2_with ((at_builtin; refine wpList_append_own _ rfl _ _ 22 rfl (w.heap.size + 1) 5 i0 (.int .u8 0) 1 1 Try.underlying22 hi hz0 hz1 hz2 rfl (by decide) _ _ _ rfl (hown.alloc _) ⟨wr.heap.size, 0, none⟩ 1 1 [Value.int .u8 (s[k + 1].toNat : Int)] rfl rfl ?c1 ?c2 ?c3 ?c4 ?c5 ?c6))
            case c1 =>
              intro j u' hj
              match j, hj with
              | 0, hj => simp at hj; subst hj; simp [Addr.add]
            case c2 => intro u' hu'; simp at hu'; subst hu'; rfl
            case c3 => unfold maxLen; omega
            case c4 => omega
            case c5 => have := hnx.size; simp at this; simp; omega
            case c6 =>
              intro v' w1 hown' hgrow _
              have hnx1 : Below (w.heap.size + 1) (w.alloc Z70) w1 := (hnx.alloc (by have := hnx.size; simp at this; omega) _).grown hgrow (by have := hnx.size; simp at this; simp; omega) (fun j hj => (hown.lt j hj).1)
              rw [cells_snoc, show t.length + 1 = (t ++ [s[k + 1]]).length by simp] at hown'
              have HO := hide hown'
              clear hown' hgrow hown
              go_wp2
              go_roundw
              case rel => exact ⟨k + 2, t ++ [s[k + 1]], by omega, by omega, by go_num, by simp; omega, hide (unhide hin2), unhide HO, hnx1⟩
              case measure => simp [intOf]; omega
          · have f1 : ((s[k + 1].toNat : Int) != 39) = true := by rw [qd]; rfl
            have f2 : ((s[k + 1].toNat : Int) != 92) = false := by rw [qd]; rfl
            have g1 : 32 ≤ (s[k + 1].toNat : Int) := by omega
            have g2 : (s[k + 1].toNat : Int) ≤ 126 := by omega
            clear qd
            go_wp2_with fail
            refine (l01In_is _ _ _ true _ (by simp; omega)).mono ?_
            rintro e wr ⟨rfl, rfl⟩
            go_wp2_with ((at_builtin; refine wpList_append_own _ rfl _ _ 22 rfl (w.heap.size + 1) 5 i0 (.int .u8 0) 1 1 Try.underlying22 hi hz0 hz1 hz2 rfl (by decide) _ _ _ rfl (hown.alloc _) ⟨wr.heap.size, 0, none⟩ 1 1 [Value.int .u8 (s[k + 1].toNat : Int)] rfl rfl ?c1 ?c2 ?c3 ?c4 ?c5 ?c6))
            case c1 =>
              intro j u' hj
              match j, hj with
              | 0, hj => simp at hj; subst hj; simp [Addr.add]
            case c2 => intro u' hu'; simp at hu'; subst hu'; rfl
            case c3 => unfold maxLen; omega
            case c4 => omega
            case c5 => have := hnx.size; simp at this; simp; omega
            case c6 =>
              intro v' w1 hown' hgrow _
              have hnx1 : Below (w.heap.size + 1) (w.alloc Z70) w1 := (hnx.alloc (by have := hnx.size; simp at this; omega) _).grown hgrow (by have := hnx.size; simp at this; simp; omega) (fun j hj => (hown.lt j hj).1)
              rw [cells_snoc, show t.length + 1 = (t ++ [s[k + 1]]).length by simp] at hown'
              have HO := hide hown'
              clear hown' hgrow hown
              go_wp2
              go_roundw
              case rel => exact ⟨k + 2, t ++ [s[k + 1]], by omega, by omega, by go_num, by simp; omega, hide (unhide hin2), unhide HO, hnx1⟩
              case measure => simp [intOf]; omega
        · have f1 : ((s[k + 1].toNat : Int) != 39) = true := by rw [bne_iff_ne]; exact fun h => qd (.inl h)
          have f2 : ((s[k + 1].toNat : Int) != 92) = true := by rw [bne_iff_ne]; exact fun h => qd (.inr h)
          have hd := hide (q_none (unhide hin) (by rw [drop_at s k hlt, unhide b92, drop_at s (k + 1) hlt1]; exact scanQ_escbad _ _ (fun h => qd (h.imp (fun e => by rw [e]; rfl) (fun e => by rw [e]; rfl)))))
          clear qd q92 q39 hend
          obtain ⟨hc, hf⟩ := bcell (W := w.alloc Z70) (by simpa using hnx)
          have hz : w.heap.size < wr.heap.size := by have := hnx.size; simp at this; omega
          unfold Z70 at hc hf
          go_wp2
          exact bodyPost_ret (v := nextV none) (by simp [results, Try.results62, go_sem, nextV, hc]) rfl ⟨by rw [unhide HQ, unhide hd], (nx_set (nx_set (nx_set (nx_trans (nx_alloc _ _) (by simpa using hnx)) (by omega)) (by omega)) (by omega))⟩
      · have e92 : ((s[k].toNat : Int) == 92) = false := beq_eq_false_iff_ne.2 q92
        by_cases qo : 32 ≤ (s[k].toNat : Int) ∧ (s[k].toNat : Int) ≤ 126
        · have hin2 := hide (q_plain (unhide hin) hlt (byte_ne (d := 39) q39) (byte_ne (d := 92) q92) (okC_true qo.1 qo.2))
          have g1 := qo.1
          have g2 := qo.2
          clear q92 q39 qo
          go_wp2_with fail
          refine (l01In_is _ _ _ true _ (by simp; omega)).mono ?_
          rintro e wr ⟨rfl, rfl⟩
          go_wp2_with ((at_builtin; refine wpList_append_own _ rfl _ _ 22 rfl (w.heap.size + 1) 5 i0 (.int .u8 0) 1 1 Try.underlying22 hi hz0 hz1 hz2 rfl (by decide) _ _ _ rfl (hown.alloc _) ⟨wr.heap.size, 0, none⟩ 1 1 [Value.int .u8 (s[k].toNat : Int)] rfl rfl ?c1 ?c2 ?c3 ?c4 ?c5 ?c6))
          case c1 =>
            intro j u' hj
            match j, hj with
            | 0, hj => simp at hj; subst hj; simp [Addr.add]
          case c2 => intro u' hu'; simp at hu'; subst hu'; rfl
          case c3 => unfold maxLen; omega
          case c4 => omega
          case c5 => have := hnx.size; simp at this; simp; omega
          case c6 =>
            intro v' w1 hown' hgrow _
            have hnx1 : Below (w.heap.size + 1) (w.alloc Z70) w1 := (hnx.alloc (by have := hnx.size; simp at this; omega) _).grown hgrow (by have := hnx.size; simp at this; simp; omega) (fun j hj => (hown.lt j hj).1)
            rw [cells_snoc, show t.length + 1 = (t ++ [s[k]]).length by simp] at hown'
            have HO := hide hown'
            clear hown' hgrow hown
            go_wp2
            go_roundw
            case rel => exact ⟨k + 1, t ++ [s[k]], by omega, by omega, by go_num, by simp; omega, hide (unhide hin2), unhide HO, hnx1⟩
            case measure => simp [intOf]; omega
        · have hd := hide (q_none (unhide hin) (by rw [drop_at s k hlt]; exact scanQ_bad _ _ (byte_ne (d := 39) q39) (byte_ne (d := 92) q92) (okC_false (by omega))))
          have g1 : (s[k].toNat : Int) < 32 ∨ 126 < (s[k].toNat : Int) := by omega
          have g256 : (s[k].toNat : Int) ≤ 255 := by have := s[k].toNat_lt; omega
          have g0 : 0 ≤ (s[k].toNat : Int) := by omega
          clear q92 q39 qo
          obtain ⟨hc, hf⟩ := bcell (W := w.alloc Z70) (by simpa using hnx)
          have hz : w.heap.size < wr.heap.size := by have := hnx.size; simp at this; omega
          unfold Z70 at hc hf
          go_wp2_with fail
          refine (l01In_is _ _ _ false _ (by simp only [Bool.and_eq_false_iff, decide_eq_false_iff_not]; omega)).mono ?_
          rintro e wr ⟨rfl, rfl⟩
          go_wp2
          exact bodyPost_ret (v := nextV none) (by simp [results, Try.results62, go_sem, nextV, hc]) rfl ⟨by rw [unhide HQ, unhide hd], (nx_set (nx_set (nx_set (nx_trans (nx_alloc _ _) (by simpa using hnx)) (by omega)) (by omega)) (by omega))⟩
    · have eks : ((k : Int) == (s.size : Int)) = true := by simp; omega
      have hd := hide (q_none (unhide hin) (by rw [drop_end s k (by omega)]; simp [scanQ]))
      obtain ⟨hc, hf⟩ := bcell (W := w.alloc Z70) (by simpa using hnx)
      have hz : w.heap.size < wr.heap.size := by have := hnx.size; simp at this; omega
      unfold Z70 at hc hf
      go_wp2
      exact bodyPost_ret (v := nextV none) (by simp [results, Try.results62, go_sem, nextV, hc]) rfl ⟨by rw [unhide HQ, unhide hd], (nx_set (nx_set (nx_set (nx_trans (nx_alloc _ _) (by simpa using hnx)) (by omega)) (by omega)) (by omega))⟩

end Go.Proofs.Ytpncohkbdaoceaa
