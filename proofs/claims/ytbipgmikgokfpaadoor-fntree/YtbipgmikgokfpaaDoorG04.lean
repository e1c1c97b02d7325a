/- A bundle. -/
import Derived.Test.YtbipgmikgokfpaaDoorG03

/- NextWalk2 -/
namespace Go.Proofs.YtbipgmikgokfpaaDoor
open Go.RowKit
set_option linter.unusedVariables false

def QAt (s : ByteArray) (p k : Nat) (t : List UInt8) : Prop := scanQ (s.data.toList.drop (p + 1)) = (scanQ (s.data.toList.drop k)).map (fun x => (t ++ x.1, x.2))
theorem q_none {s : ByteArray} {p k : Nat} {t : List UInt8} (hp : p < s.size) (h0 : s[p] = 39) (h : QAt s p k t) (hn : scanQ (s.data.toList.drop k) = none) : nextT (s.data.toList.drop p) = none := by
  rw [drop_at s p hp, h0, nextT_quote, h, hn]; rfl
theorem q_long {s : ByteArray} {p k : Nat} {t : List UInt8} (hp : p < s.size) (h0 : s[p] = 39) (h : QAt s p k t) (hk : k < s.size) (hq : s[k] = 39) (ht : 60 < t.length) : nextT (s.data.toList.drop p) = none := by
  rw [drop_at s p hp, h0, nextT_quote, h, drop_at s k hk, hq, scanQ_end]
  simp
  omega
theorem q_done {s : ByteArray} {p k : Nat} {t : List UInt8} (hp : p < s.size) (h0 : s[p] = 39) (h : QAt s p k t) (hpk : p < k) (hk : k < s.size) (hq : s[k] = 39) (ht : t.length ≤ 60) : nextT (s.data.toList.drop p) = some (4, t, k + 1 - p) := by
  have hl : (39 :: s.data.toList.drop (p + 1)).length = s.size - p := by
    rw [← h0, ← drop_at s p hp, List.length_drop, size_list]
  rw [drop_at s p hp, h0, nextT_quote, h, drop_at s k hk, hq, scanQ_end]
  simp only [Option.map_some, List.append_nil]
  rw [if_pos ht, hl, List.length_drop, size_list]
  congr 3
  omega
theorem q_plain {s : ByteArray} {p k : Nat} {t : List UInt8} (h : QAt s p k t) (hk : k < s.size) (h1 : s[k] ≠ 39) (h2 : s[k] ≠ 92) (h3 : okC s[k] = true) : QAt s p (k + 1) (t ++ [s[k]]) := by
  unfold QAt at *
  rw [h, drop_at s k hk, scanQ_plain _ _ h1 h2 h3, Option.map_map]
  congr 1
  funext p
  simp
theorem q_esc {s : ByteArray} {p k : Nat} {t : List UInt8} (h : QAt s p k t) (hk : k < s.size) (hk1 : k + 1 < s.size) (h2 : s[k] = 92) (h3 : s[k + 1] = 39 ∨ s[k + 1] = 92) : QAt s p (k + 2) (t ++ [s[k + 1]]) := by
  unfold QAt at *
  rw [h, drop_at s k hk, drop_at s (k + 1) hk1, h2, scanQ_esc _ _ h3, Option.map_map]
  congr 1
  funext p
  simp
theorem nextV_text {p k : Nat} {t : List UInt8} {x : Option (Int × List UInt8 × Nat)} (h : x = some (4, t, k + 1 - p)) (hk : p < k) :
    Value.tuple #[.agg #[.int .i64 4, .int .i64 (p : Int), .string ⟨t.toArray⟩], .int .i64 ((k : Int) + 1), .bool true] = nextV p x := by
  rw [h]
  show _ = Value.tuple #[.agg #[.int .i64 4, .int .i64 (p : Int), .string ⟨t.toArray⟩], .int .i64 ((p + (k + 1 - p) : Nat) : Int), .bool true]
  rw [show p + (k + 1 - p) = k + 1 by omega]
  rfl

set_option maxHeartbeats 8000000 in
set_option maxRecDepth 100000 in
theorem l02Next_quote (s : ByteArray) (p : Nat) (w : World) (hs : s.size ≤ 65536) (hp : p < s.size) (h0 : ((s[p].toNat : Int) == 39) = true) :
    Calls Tryd.prog 136 #[.string s, .int .i64 (p : Int)] w fun e w' => e = .returned (nextV p (nextT (s.data.toList.drop p))) ∧ Below w.heap.size w w' := by
  have b39 := hide (byte_eq (c := s[p]) (d := 39) (by simpa using h0))
  have hp0 : ¬ (p : Int) < 0 := by omega
  have hp1 : (p : Int) < (s.size : Int) := by omega
  have hlet : letB (s[p].toNat : Int) = false := by rw [show (s[p].toNat : Int) = 39 by simpa using h0]; decide
  have hdig : digB (s[p].toNat : Int) = false := by rw [show (s[p].toNat : Int) = 39 by simpa using h0]; decide
  obtain ⟨r, hr⟩ : ∃ r, r = nextT (s.data.toList.drop p) := ⟨_, rfl⟩
  rw [← hr]
  have HR := hide hr
  clear hr
  have hlit := hide (Buf.lit0 (w.alloc Z70) (w.heap.size + 1) (by simp))
  go_enter Tryd.func136, Tryd.ntmps136
  go_wp2_with (first | (go_at_call 162; refine (l00Letter_any _ _).mono ?_; rintro e wr ⟨rfl, rfl⟩) | (go_at_call 163; refine (l00Digit_any _ _).mono ?_; rintro e wr ⟨rfl, rfl⟩))
  go_loopw [8, 12] (fun i m wx => ∃ (k : Nat) (t : List UInt8), p + 1 ≤ k ∧ k ≤ s.size ∧ i = .int .i64 k ∧ t.length < k ∧ Hid (QAt s p k t) ∧ Buf wx (w.heap.size + 1) m t ∧ Below (w.heap.size + 1) (w.alloc Z70) wx) (fun i _ _ => s.size - (intOf i).toNat)
  case atStart => exact ⟨p + 1, [], by omega, by omega, by go_num, by simp, hide (by unfold QAt; simp), (by have := unhide hlit; simpa [Z70] using this), (Below.refl _ _).alloc (by simp) _⟩
  case round =>
    clear h0 hlet hdig hlit
    obtain ⟨k, t, hk1, hk, rfl, ht, hin, hown, hnx⟩ := hrel
    obtain ⟨ma, mcap, rfl⟩ := hown.slice
    by_cases hlt : k < s.size
    · have hlt0 : (k : Int) < (s.size : Int) := by omega
      by_cases q39 : (s[k].toNat : Int) = 39
      · have e39 : ((s[k].toNat : Int) != 39) = false := by rw [q39]; rfl
        have c39 := hide (byte_eq (d := 39) q39)
        have eks : ((k : Int) == (s.size : Int)) = false := beq_eq_false_iff_ne.2 (by omega)
        clear q39
        by_cases q60 : 60 < t.length
        · have hd := hide ((unhide HR).trans (q_long hp (unhide b39) (unhide hin) hlt (unhide c39) q60))
          obtain ⟨hc, hf⟩ := z70_cells (w := w) (wx := wr) (by simpa [Z70] using hnx)
          have hz : w.heap.size < wr.heap.size := by have := hnx.size; simp at this; omega
          have hnx' : Hid (Below (w.alloc (.cells #[.int .i64 0, .int .i64 0, .string ⟨#[]⟩] 169)).heap.size (w.alloc (.cells #[.int .i64 0, .int .i64 0, .string ⟨#[]⟩] 169)) wr) := hide (by simpa [Z70] using hnx)
          clear hnx
          clear hown
          go_wp2
          exact bodyPost_ret (v := nextV p none) (by simp [results, Tryd.results136, go_sem, nextV, hc]) rfl ⟨congrArg Ending.returned (nextV_none (unhide hd)), (by repeat (first | exact Below.refl _ _ | refine nx_al ?_ | refine nx_set ?_ (by first | omega | (simp <;> omega)) | refine nx_drew ?_ | refine nx_trans ?_ (unhide (by assumption))))⟩
        · have hd := hide ((unhide HR).trans (q_done hp (unhide b39) (unhide hin) (by omega) hlt (unhide c39) (by omega)))
          have hcv := hown.conv
          obtain ⟨hc, hf⟩ := z70_cells (w := w) (wx := wr) (by simpa [Z70] using hnx)
          have hz : w.heap.size < wr.heap.size := by have := hnx.size; simp at this; omega
          have hnx' : Hid (Below (w.alloc (.cells #[.int .i64 0, .int .i64 0, .string ⟨#[]⟩] 169)).heap.size (w.alloc (.cells #[.int .i64 0, .int .i64 0, .string ⟨#[]⟩] 169)) wr) := hide (by simpa [Z70] using hnx)
          clear hnx
          go_wp2
          exact bodyPost_ret (v := Value.tuple #[.agg #[.int .i64 4, .int .i64 (p : Int), .string ⟨t.toArray⟩], .int .i64 ((k : Int) + 1), .bool true]) (by simp [results, Tryd.results136, go_sem, hc]) rfl ⟨congrArg Ending.returned (nextV_text (unhide hd) (by omega)), (by repeat (first | exact Below.refl _ _ | refine nx_al ?_ | refine nx_set ?_ (by first | omega | (simp <;> omega)) | refine nx_drew ?_ | refine nx_trans ?_ (unhide (by assumption))))⟩
      have e39 : ((s[k].toNat : Int) != 39) = true := by rw [bne_iff_ne]; exact q39
      by_cases q92 : (s[k].toNat : Int) = 92
      · have e92 : ((s[k].toNat : Int) == 92) = true := by rw [q92]; rfl
        have b92 := hide (byte_eq (d := 92) q92)
        by_cases hend : k + 1 = s.size
        · have ee : (((k : Int) + 1) == (s.size : Int)) = true := by simp; omega
          have hd := hide ((unhide HR).trans (q_none hp (unhide b39) (unhide hin) (by rw [drop_at s k hlt, unhide b92, drop_end s (k + 1) (by omega)]; exact scanQ_esc0)))
          obtain ⟨hc, hf⟩ := z70_cells (w := w) (wx := wr) (by simpa [Z70] using hnx)
          have hz : w.heap.size < wr.heap.size := by have := hnx.size; simp at this; omega
          have hnx' : Hid (Below (w.alloc (.cells #[.int .i64 0, .int .i64 0, .string ⟨#[]⟩] 169)).heap.size (w.alloc (.cells #[.int .i64 0, .int .i64 0, .string ⟨#[]⟩] 169)) wr) := hide (by simpa [Z70] using hnx)
          clear hnx
          clear q92 q39 hend hown
          go_wp2
          exact bodyPost_ret (v := nextV p none) (by simp [results, Tryd.results136, go_sem, nextV, hc]) rfl ⟨congrArg Ending.returned (nextV_none (unhide hd)), (by repeat (first | exact Below.refl _ _ | refine nx_al ?_ | refine nx_set ?_ (by first | omega | (simp <;> omega)) | refine nx_drew ?_ | refine nx_trans ?_ (unhide (by assumption))))⟩
        have hlt1 : k + 1 < s.size := by omega
        have hlt1' : (k : Int) + 1 < (s.size : Int) := by omega
        have ee : (((k : Int) + 1) == (s.size : Int)) = false := beq_eq_false_iff_ne.2 (by omega)
        by_cases qd : (s[k + 1].toNat : Int) = 39 ∨ (s[k + 1].toNat : Int) = 92
        · have hin2 := hide (q_esc (unhide hin) hlt hlt1 (unhide b92) (qd.imp (fun h => byte_eq (d := 39) h) (fun h => byte_eq (d := 92) h)))
          clear q92 q39 hend
          rcases qd with qd | qd
          · have f1 : ((s[k + 1].toNat : Int) != 39) = false := by rw [qd]; rfl
            have g1 : 32 ≤ (s[k + 1].toNat : Int) := by omega
            have g2 : (s[k + 1].toNat : Int) ≤ 126 := by omega
            clear qd
            go_wp2_with fail
            refine (l01In_is _ _ _ true _ (by simp; omega)).mono ?_
            rintro e wr ⟨rfl, rfl⟩
            go_wp2_with (at_builtin; refine wp_app1 _ rfl _ _ rfl (w.heap.size + 1) wr.heap.size _ t s[k + 1] rfl (hown.alloc _) rfl (by simp) ?c5 ?c3 ?c6)
            case c5 => have := hnx.size; simp at this; simp; omega
            case c3 => omega
            case c6 =>
              intro v' w1 hown' hb1
              have hnx1 : Below (w.heap.size + 1) (w.alloc Z70) w1 := (hnx.alloc (by have := hnx.size; simp at this; omega) _).trans hb1
              have HO := hide hown'
              clear hown' hb1 hown
              go_wp2
              go_roundw
              case rel => exact ⟨k + 2, t ++ [s[k + 1]], by omega, by omega, by go_num, by simp; omega, hide (unhide hin2), unhide HO, hnx1⟩
              case measure => simp [intOf]; omega
          · have f1 : ((s[k + 1].toNat : Int) != 39) = true := by rw [qd]; rfl
            have f2 : ((s[k + 1].toNat : Int) != 92) = false := by rw [qd]; rfl
            have g1 : 32 ≤ (s[k + 1].toNat : Int) := by omega
            have g2 : (s[k + 1].toNat : Int) ≤ 126 := by omega
            clear qd
            go_wp2_with fail
            refine (l01In_is _ _ _ true _ (by simp; omega)).mono ?_
            rintro e wr ⟨rfl, rfl⟩
            go_wp2_with (at_builtin; refine wp_app1 _ rfl _ _ rfl (w.heap.size + 1) wr.heap.size _ t s[k + 1] rfl (hown.alloc _) rfl (by simp) ?c5 ?c3 ?c6)
            case c5 => have := hnx.size; simp at this; simp; omega
            case c3 => omega
            case c6 =>
              intro v' w1 hown' hb1
              have hnx1 : Below (w.heap.size + 1) (w.alloc Z70) w1 := (hnx.alloc (by have := hnx.size; simp at this; omega) _).trans hb1
              have HO := hide hown'
              clear hown' hb1 hown
              go_wp2
              go_roundw
              case rel => exact ⟨k + 2, t ++ [s[k + 1]], by omega, by omega, by go_num, by simp; omega, hide (unhide hin2), unhide HO, hnx1⟩
              case measure => simp [intOf]; omega
        · have f1 : ((s[k + 1].toNat : Int) != 39) = true := by rw [bne_iff_ne]; exact fun h => qd (.inl h)
          have f2 : ((s[k + 1].toNat : Int) != 92) = true := by rw [bne_iff_ne]; exact fun h => qd (.inr h)
          have hd := hide ((unhide HR).trans (q_none hp (unhide b39) (unhide hin) (by rw [drop_at s k hlt, unhide b92, drop_at s (k + 1) hlt1]; exact scanQ_escbad _ _ (fun h => qd (h.imp (fun e => by rw [e]; rfl) (fun e => by rw [e]; rfl))))))
          obtain ⟨hc, hf⟩ := z70_cells (w := w) (wx := wr) (by simpa [Z70] using hnx)
          have hz : w.heap.size < wr.heap.size := by have := hnx.size; simp at this; omega
          have hnx' : Hid (Below (w.alloc (.cells #[.int .i64 0, .int .i64 0, .string ⟨#[]⟩] 169)).heap.size (w.alloc (.cells #[.int .i64 0, .int .i64 0, .string ⟨#[]⟩] 169)) wr) := hide (by simpa [Z70] using hnx)
          clear hnx
          clear qd q92 q39 hend hown
          go_wp2
          exact bodyPost_ret (v := nextV p none) (by simp [results, Tryd.results136, go_sem, nextV, hc]) rfl ⟨congrArg Ending.returned (nextV_none (unhide hd)), (by repeat (first | exact Below.refl _ _ | refine nx_al ?_ | refine nx_set ?_ (by first | omega | (simp <;> omega)) | refine nx_drew ?_ | refine nx_trans ?_ (unhide (by assumption))))⟩
      · have e92 : ((s[k].toNat : Int) == 92) = false := beq_eq_false_iff_ne.2 q92
        by_cases q32 : (s[k].toNat : Int) < 32 ∨ 126 < (s[k].toNat : Int)
        · have hd := hide ((unhide HR).trans (q_none hp (unhide b39) (unhide hin) (by rw [drop_at s k hlt]; exact scanQ_bad _ _ (byte_ne (d := 39) q39) (byte_ne (d := 92) q92) (okC_false q32))))
          have qb : (s[k].toNat : Int) ≤ 255 := by have := s[k].toNat_lt; omega
          clear q92 q39
          rcases q32 with q32 | q32
          all_goals
            go_wp2_with fail
            refine (l01In_is _ _ _ false _ (by simp; omega)).mono ?_
            rintro e wr ⟨rfl, rfl⟩
            obtain ⟨hc, hf⟩ := z70_cells (w := w) (wx := wr) (by simpa [Z70] using hnx)
            have hz : w.heap.size < wr.heap.size := by have := hnx.size; simp at this; omega
            have hnx' : Hid (Below (w.alloc (.cells #[.int .i64 0, .int .i64 0, .string ⟨#[]⟩] 169)).heap.size (w.alloc (.cells #[.int .i64 0, .int .i64 0, .string ⟨#[]⟩] 169)) wr) := hide (by simpa [Z70] using hnx)
            clear hnx
            clear q32 qb hown
            go_wp2
            exact bodyPost_ret (v := nextV p none) (by simp [results, Tryd.results136, go_sem, nextV, hc]) rfl ⟨congrArg Ending.returned (nextV_none (unhide hd)), (by repeat (first | exact Below.refl _ _ | refine nx_al ?_ | refine nx_set ?_ (by first | omega | (simp <;> omega)) | refine nx_drew ?_ | refine nx_trans ?_ (unhide (by assumption))))⟩
        have g1 : 32 ≤ (s[k].toNat : Int) := by omega
        have g2 : (s[k].toNat : Int) ≤ 126 := by omega
        have hin2 := hide (q_plain (unhide hin) hlt (byte_ne (d := 39) q39) (byte_ne (d := 92) q92) (okC_true g1 g2))
        clear q32 q92 q39
        go_wp2_with fail
        refine (l01In_is _ _ _ true _ (by simp; omega)).mono ?_
        rintro e wr ⟨rfl, rfl⟩
        go_wp2_with (at_builtin; refine wp_app1 _ rfl _ _ rfl (w.heap.size + 1) wr.heap.size _ t s[k] rfl (hown.alloc _) rfl (by simp) ?c5 ?c3 ?c6)
        case c5 => have := hnx.size; simp at this; simp; omega
        case c3 => omega
        case c6 =>
          intro v' w1 hown' hb1
          have hnx1 : Below (w.heap.size + 1) (w.alloc Z70) w1 := (hnx.alloc (by have := hnx.size; simp at this; omega) _).trans hb1
          have HO := hide hown'
          clear hown' hb1 hown
          go_wp2
          go_roundw
          case rel => exact ⟨k + 1, t ++ [s[k]], by omega, by omega, by go_num, by simp; omega, hide (unhide hin2), unhide HO, hnx1⟩
          case measure => simp [intOf]; omega
    · have hlt0 : ¬ (k : Int) < (s.size : Int) := by omega
      have eks : ((k : Int) == (s.size : Int)) = true := by simp; omega
      have hd := hide ((unhide HR).trans (q_none hp (unhide b39) (unhide hin) (by rw [drop_end s k (by omega)]; rfl)))
      obtain ⟨hc, hf⟩ := z70_cells (w := w) (wx := wr) (by simpa [Z70] using hnx)
      have hz : w.heap.size < wr.heap.size := by have := hnx.size; simp at this; omega
      have hnx' : Hid (Below (w.alloc (.cells #[.int .i64 0, .int .i64 0, .string ⟨#[]⟩] 169)).heap.size (w.alloc (.cells #[.int .i64 0, .int .i64 0, .string ⟨#[]⟩] 169)) wr) := hide (by simpa [Z70] using hnx)
      clear hnx
      clear hown
      go_wp2
      exact bodyPost_ret (v := nextV p none) (by simp [results, Tryd.results136, go_sem, nextV, hc]) rfl ⟨congrArg Ending.returned (nextV_none (unhide hd)), (by repeat (first | exact Below.refl _ _ | refine nx_al ?_ | refine nx_set ?_ (by first | omega | (simp <;> omega)) | refine nx_drew ?_ | refine nx_trans ?_ (unhide (by assumption))))⟩

/-- a byte of a sign -/
def sgnL : List UInt8 := [43, 45, 42, 47, 37, 60, 61, 33, 38, 124, 40, 41, 123, 125, 44, 59]
def sgnB (c : Int) : Bool := sgnL.any fun x => (x.toNat : Int) == c
theorem sgnB_no (c : Int) (h : ∀ j, j < 16 → (((sgnL.getD j 0).toNat : Int) == c) = false) : sgnB c = false := by
  unfold sgnB
  rw [List.any_eq_false]
  intro x hx
  obtain ⟨j, hj, rfl⟩ := List.mem_iff_getElem.1 hx
  have := h j hj
  rw [List.getD_eq_getElem?_getD, List.getElem?_eq_getElem hj] at this
  simpa using this
theorem sgnB_yes (c : Int) (j : Nat) (hj : j < 16) (h : (((sgnL.getD j 0).toNat : Int) == c) = true) : sgnB c = true := by
  unfold sgnB
  rw [List.any_eq_true]
  exact ⟨sgnL.getD j 0, by rw [List.getD_eq_getElem?_getD, List.getElem?_eq_getElem (show j < sgnL.length from hj)]; simp, h⟩
theorem index_sgn (k : Nat) (hk : k < 16) (w : World) : (Instr.index 9 (.string ⟨#[43, 45, 42, 47, 37, 60, 61, 33, 38, 124, 40, 41, 123, 125, 44, 59]⟩) (.int .i64 (k : Int))).run Tryd.prog w = .ok (.int .u8 ((sgnL.getD k 0).toNat : Int)) w := by
  obtain rfl | rfl | rfl | rfl | rfl | rfl | rfl | rfl | rfl | rfl | rfl | rfl | rfl | rfl | rfl | rfl : k = 0 ∨ k = 1 ∨ k = 2 ∨ k = 3 ∨ k = 4 ∨ k = 5 ∨ k = 6 ∨ k = 7 ∨ k = 8 ∨ k = 9 ∨ k = 10 ∨ k = 11 ∨ k = 12 ∨ k = 13 ∨ k = 14 ∨ k = 15 := by omega
  all_goals kernel_rfl

set_option maxHeartbeats 400000 in
theorem l02Sign_any (c : Int) (w : World) :
    Calls Tryd.prog 166 #[.int .u8 c] w fun e w' => e = .returned (.bool (sgnB c)) ∧ w' = w := by
  go_enter Tryd.func166, Tryd.ntmps166
  go_wp2
  go_loop [3] (fun i => ∃ k : Nat, k ≤ 16 ∧ i = .int .i64 k ∧ (∀ j, j < k → (((sgnL.getD j 0).toNat : Int) == c) = false)) (fun i => 16 - (intOf i).toNat)
  case atStart => exact ⟨0, by omega, rfl, fun j hj => by omega⟩
  case round =>
    obtain ⟨k, hk, rfl, hno⟩ := hrel
    have HN := hide hno
    clear hno
    by_cases hlt : k < 16
    · have hle : (k : Int) < 16 := by omega
      have hix := index_sgn k hlt
      have hy := hide (sgnB_yes c k hlt)
      have hsu : Hid ((((sgnL.getD k 0).toNat : Int) == c) = false → ∀ j, j < k + 1 → (((sgnL.getD j 0).toNat : Int) == c) = false) := fun h j hj => by
        by_cases e : j = k
        · subst e; exact h
        · exact unhide HN j (by omega)
      generalize ((sgnL.getD k 0).toNat : Int) = d at hix hy hsu
      cases he : (d == c)
      · go_wp2
        go_round
        case rel => exact ⟨k + 1, by omega, by go_num, unhide hsu he⟩
        case measure => simp [intOf]; omega
      · go_wp2
        go_ret
        exact ⟨ret_bool (unhide hy he).symm, rfl⟩
    · have hle : ¬ (k : Int) < 16 := by omega
      go_wp2
      go_ret
      exact ⟨ret_bool (sgnB_no c (fun j hj => unhide HN j (by omega))).symm, rfl⟩

theorem sgn_fact {c : UInt8} (h : sgnB (c.toNat : Int) = true) : c ∈ sgnL := by
  unfold sgnB at h
  rw [List.any_eq_true] at h
  obtain ⟨x, hx, e⟩ := h
  have : x = c := byte_eq (by simpa using e)
  rw [← this]; exact hx
theorem sgn_not {c : UInt8} (h : sgnB (c.toNat : Int) = false) : c ∉ sgnL := fun hc => by
  unfold sgnB at h
  rw [List.any_eq_false] at h
  have := h c hc
  simp at this
theorem one_of_sgn {c : UInt8} (h : c ∈ sgnL) (h1 : c ≠ 38) (h2 : c ≠ 124) : c ∈ oneSigns := by
  simp only [sgnL, List.mem_cons, List.not_mem_nil, or_false] at h
  simp only [oneSigns, List.mem_cons, List.not_mem_nil, or_false]
  rcases h with h | h | h | h | h | h | h | h | h | h | h | h | h | h | h | h <;> subst h <;> simp at h1 h2 ⊢
theorem not_one {c : UInt8} (h : c ∉ sgnL) : c ∉ oneSigns ∧ c ≠ 61 ∧ c ≠ 38 ∧ c ≠ 124 := by
  simp only [sgnL, List.mem_cons, List.not_mem_nil, or_false, not_or] at h
  simp only [oneSigns, List.mem_cons, List.not_mem_nil, or_false, not_or]
  obtain ⟨h0, h1, h2, h3, h4, h5, h6, h7, h8, h9, h10, h11, h12, h13, h14, h15⟩ := h
  exact ⟨⟨h0, h1, h2, h3, h4, h5, h6, h7, h10, h11, h12, h13, h14, h15⟩, h6, h8, h9⟩
/-- facts of a place without letter, digit, quote -/
structure Bare (s : ByteArray) (p : Nat) : Prop where
  lt : p < s.size
  l : letB (s[p].toNat : Int) = false
  d : digB (s[p].toNat : Int) = false
  q : s[p] ≠ 39
theorem sgn_two {s : ByteArray} {p : Nat} (h : Bare s p) (hk : p + 1 < s.size) (hc : (s[p]'h.lt = 61 ∧ s[p + 1] = 61) ∨ (s[p]'h.lt = 38 ∧ s[p + 1] = 38) ∨ (s[p]'h.lt = 124 ∧ s[p + 1] = 124)) : nextT (s.data.toList.drop p) = some (5, (s.extract p (p + 2)).data.toList, p + 2 - p) := by
  rw [extract_list, drop_at s p h.lt, drop_at s (p + 1) hk, nextT_sign _ _ h.l h.d h.q]
  have e : signT (s[p]'h.lt :: s[p + 1] :: s.data.toList.drop (p + 1 + 1)) = some 2 := by
    simp only [signT]; exact if_pos hc
  rw [e, show p + 2 - p = 2 by omega]
theorem signT_one {c : UInt8} {r : List UInt8} (hc : c ∈ oneSigns) (hr : ∀ d r', r = d :: r' → ¬ ((c = 61 ∧ d = 61) ∨ (c = 38 ∧ d = 38) ∨ (c = 124 ∧ d = 124))) : signT (c :: r) = some 1 := by
  cases r with
  | nil => simp only [signT]; exact if_pos hc
  | cons d r => simp only [signT]; rw [if_neg (hr d r rfl), if_pos hc]
theorem signT_none {c : UInt8} {r : List UInt8} (hc : c ∉ oneSigns) (hr : ∀ d r', r = d :: r' → ¬ ((c = 61 ∧ d = 61) ∨ (c = 38 ∧ d = 38) ∨ (c = 124 ∧ d = 124))) : signT (c :: r) = none := by
  cases r with
  | nil => simp only [signT]; exact if_neg hc
  | cons d r => simp only [signT]; rw [if_neg (hr d r rfl), if_neg hc]
/-- no sign of two bytes stands there -/
def NoPair (s : ByteArray) (p : Nat) (h : p < s.size) : Prop := ∀ hk : p + 1 < s.size, ¬ ((s[p] = 61 ∧ s[p + 1] = 61) ∨ (s[p] = 38 ∧ s[p + 1] = 38) ∨ (s[p] = 124 ∧ s[p + 1] = 124))
theorem NoPair.list {s : ByteArray} {p : Nat} {h : p < s.size} (hn : NoPair s p h) : ∀ d r', s.data.toList.drop (p + 1) = d :: r' → ¬ ((s[p] = 61 ∧ d = 61) ∨ (s[p] = 38 ∧ d = 38) ∨ (s[p] = 124 ∧ d = 124)) := by
  intro d r' e
  by_cases hk : p + 1 < s.size
  · rw [drop_at s (p + 1) hk] at e
    injection e with e1 e2
    rw [← e1]
    exact hn hk
  · rw [drop_end s (p + 1) (by omega)] at e; cases e
theorem sgn_one {s : ByteArray} {p : Nat} (h : Bare s p) (hn : NoPair s p h.lt) (hc : s[p]'h.lt ∈ oneSigns) : nextT (s.data.toList.drop p) = some (5, (s.extract p (p + 1)).data.toList, p + 1 - p) := by
  rw [extract_list, drop_at s p h.lt, nextT_sign _ _ h.l h.d h.q, signT_one hc hn.list, show p + 1 - p = 1 by omega]
theorem sgn_none {s : ByteArray} {p : Nat} (h : Bare s p) (hn : NoPair s p h.lt) (hc : s[p]'h.lt ∉ oneSigns) : nextT (s.data.toList.drop p) = none := by
  rw [drop_at s p h.lt, nextT_sign _ _ h.l h.d h.q, signT_none hc hn.list]
theorem nextV_two {p : Nat} {s : ByteArray} {x : Option (Int × List UInt8 × Nat)} (h : x = some (5, (s.extract p (p + 2)).data.toList, p + 2 - p)) :
    Value.tuple #[.agg #[.int .i64 5, .int .i64 (p : Int), .string (s.extract p (p + 2))], .int .i64 ((p : Int) + 1 + 1), .bool true] = nextV p x := by
  rw [← nextV_some (k := p + 2) (s := s) (kd := 5) h (by omega)]
  rw [show ((p : Int) + 1 + 1) = ((p + 2 : Nat) : Int) by omega]
theorem nextV_one {p : Nat} {s : ByteArray} {x : Option (Int × List UInt8 × Nat)} (h : x = some (5, (s.extract p (p + 1)).data.toList, p + 1 - p)) :
    Value.tuple #[.agg #[.int .i64 5, .int .i64 (p : Int), .string (s.extract p (p + 1))], .int .i64 ((p : Int) + 1), .bool true] = nextV p x := by
  rw [← nextV_some (k := p + 1) (s := s) (kd := 5) h (by omega)]
  rfl

set_option maxHeartbeats 2000000 in
set_option maxRecDepth 100000 in
theorem l02Next_other (s : ByteArray) (p : Nat) (w : World) (hs : s.size ≤ 65536) (hp : p < s.size) (hl : letB (s[p].toNat : Int) = false) (hd : digB (s[p].toNat : Int) = false) (hq : ((s[p].toNat : Int) == 39) = false) (hg : sgnB (s[p].toNat : Int) = false) (hN : Hid (nextT (s.data.toList.drop p) = none)) :
    Calls Tryd.prog 136 #[.string s, .int .i64 (p : Int)] w fun e w' => e = .returned (nextV p (nextT (s.data.toList.drop p))) ∧ Below w.heap.size w w' := by
  have hp0 : ¬ (p : Int) < 0 := by omega
  have hp1 : (p : Int) < (s.size : Int) := by omega
  go_enter Tryd.func136, Tryd.ntmps136
  go_wp2_with (first | (go_at_call 162; refine (l00Letter_any _ _).mono ?_; rintro e wr ⟨rfl, rfl⟩) | (go_at_call 163; refine (l00Digit_any _ _).mono ?_; rintro e wr ⟨rfl, rfl⟩) | (go_at_call 166; refine (l02Sign_any _ _).mono ?_; rintro e wr ⟨rfl, rfl⟩))
  exact bodyPost_ret (v := nextV p none) (by simp [results, Tryd.results136, go_sem, nextV]) rfl ⟨congrArg Ending.returned (nextV_none (unhide hN)), (by repeat (first | exact Below.refl _ _ | refine nx_al ?_ | refine nx_set ?_ (by first | omega | (simp <;> omega)) | refine nx_drew ?_ | refine nx_trans ?_ (unhide (by assumption))))⟩

set_option maxHeartbeats 2000000 in
set_option maxRecDepth 100000 in
theorem l02Next_pair61 (s : ByteArray) (p : Nat) (w : World) (hs : s.size ≤ 65536) (hp : p < s.size) (hl : letB (s[p].toNat : Int) = false) (hd : digB (s[p].toNat : Int) = false) (hq : ((s[p].toNat : Int) == 39) = false) (hg : sgnB (s[p].toNat : Int) = true) (h61 : ((s[p].toNat : Int) == 61) = true) (h38 : ((s[p].toNat : Int) == 38) = false) (h124 : ((s[p].toNat : Int) == 124) = false) (hk : p + 1 < s.size) (hf : ((s[p + 1].toNat : Int) == 61) = true) (hN : Hid (nextT (s.data.toList.drop p) = some (5, (s.extract p (p + 2)).data.toList, p + 2 - p))) :
    Calls Tryd.prog 136 #[.string s, .int .i64 (p : Int)] w fun e w' => e = .returned (nextV p (nextT (s.data.toList.drop p))) ∧ Below w.heap.size w w' := by
  have hp0 : ¬ (p : Int) < 0 := by omega
  have hp1 : (p : Int) < (s.size : Int) := by omega
  have hk0 : ¬ (p : Int) + 1 < 0 := by omega
  have hk1 : (p : Int) + 1 < (s.size : Int) := by omega
  have hk2 : (p : Int) + 2 ≤ (s.size : Int) := by omega
  go_enter Tryd.func136, Tryd.ntmps136
  go_wp2_with (first | (go_at_call 162; refine (l00Letter_any _ _).mono ?_; rintro e wr ⟨rfl, rfl⟩) | (go_at_call 163; refine (l00Digit_any _ _).mono ?_; rintro e wr ⟨rfl, rfl⟩) | (go_at_call 166; refine (l02Sign_any _ _).mono ?_; rintro e wr ⟨rfl, rfl⟩))
  exact bodyPost_ret (v := Value.tuple #[.agg #[.int .i64 5, .int .i64 (p : Int), .string (s.extract p (p + 2))], .int .i64 ((p : Int) + 1 + 1), .bool true]) (by simp [results, Tryd.results136, go_sem]) rfl ⟨congrArg Ending.returned (nextV_two (unhide hN)), (by repeat (first | exact Below.refl _ _ | refine nx_al ?_ | refine nx_set ?_ (by first | omega | (simp <;> omega)) | refine nx_drew ?_ | refine nx_trans ?_ (unhide (by assumption))))⟩

set_option maxHeartbeats 2000000 in
set_option maxRecDepth 100000 in
theorem l02Next_no61 (s : ByteArray) (p : Nat) (w : World) (hs : s.size ≤ 65536) (hp : p < s.size) (hl : letB (s[p].toNat : Int) = false) (hd : digB (s[p].toNat : Int) = false) (hq : ((s[p].toNat : Int) == 39) = false) (hg : sgnB (s[p].toNat : Int) = true) (h61 : ((s[p].toNat : Int) == 61) = true) (h38 : ((s[p].toNat : Int) == 38) = false) (h124 : ((s[p].toNat : Int) == 124) = false) (hk : p + 1 < s.size) (hf : ((s[p + 1].toNat : Int) == 61) = false) (hN : Hid (nextT (s.data.toList.drop p) = some (5, (s.extract p (p + 1)).data.toList, p + 1 - p))) :
    Calls Tryd.prog 136 #[.string s, .int .i64 (p : Int)] w fun e w' => e = .returned (nextV p (nextT (s.data.toList.drop p))) ∧ Below w.heap.size w w' := by
  have hp0 : ¬ (p : Int) < 0 := by omega
  have hp1 : (p : Int) < (s.size : Int) := by omega
  have hk0 : ¬ (p : Int) + 1 < 0 := by omega
  have hk1 : (p : Int) + 1 < (s.size : Int) := by omega
  go_enter Tryd.func136, Tryd.ntmps136
  go_wp2_with (first | (go_at_call 162; refine (l00Letter_any _ _).mono ?_; rintro e wr ⟨rfl, rfl⟩) | (go_at_call 163; refine (l00Digit_any _ _).mono ?_; rintro e wr ⟨rfl, rfl⟩) | (go_at_call 166; refine (l02Sign_any _ _).mono ?_; rintro e wr ⟨rfl, rfl⟩))
  exact bodyPost_ret (v := Value.tuple #[.agg #[.int .i64 5, .int .i64 (p : Int), .string (s.extract p (p + 1))], .int .i64 ((p : Int) + 1), .bool true]) (by simp [results, Tryd.results136, go_sem]) rfl ⟨congrArg Ending.returned (nextV_one (unhide hN)), (by repeat (first | exact Below.refl _ _ | refine nx_al ?_ | refine nx_set ?_ (by first | omega | (simp <;> omega)) | refine nx_drew ?_ | refine nx_trans ?_ (unhide (by assumption))))⟩

set_option maxHeartbeats 2000000 in
set_option maxRecDepth 100000 in
theorem l02Next_end61 (s : ByteArray) (p : Nat) (w : World) (hs : s.size ≤ 65536) (hp : p < s.size) (hl : letB (s[p].toNat : Int) = false) (hd : digB (s[p].toNat : Int) = false) (hq : ((s[p].toNat : Int) == 39) = false) (hg : sgnB (s[p].toNat : Int) = true) (h61 : ((s[p].toNat : Int) == 61) = true) (h38 : ((s[p].toNat : Int) == 38) = false) (h124 : ((s[p].toNat : Int) == 124) = false) (hk : ¬ p + 1 < s.size) (hN : Hid (nextT (s.data.toList.drop p) = some (5, (s.extract p (p + 1)).data.toList, p + 1 - p))) :
    Calls Tryd.prog 136 #[.string s, .int .i64 (p : Int)] w fun e w' => e = .returned (nextV p (nextT (s.data.toList.drop p))) ∧ Below w.heap.size w w' := by
  have hp0 : ¬ (p : Int) < 0 := by omega
  have hp1 : (p : Int) < (s.size : Int) := by omega
  have hk1 : ¬ (p : Int) + 1 < (s.size : Int) := by omega
  go_enter Tryd.func136, Tryd.ntmps136
  go_wp2_with (first | (go_at_call 162; refine (l00Letter_any _ _).mono ?_; rintro e wr ⟨rfl, rfl⟩) | (go_at_call 163; refine (l00Digit_any _ _).mono ?_; rintro e wr ⟨rfl, rfl⟩) | (go_at_call 166; refine (l02Sign_any _ _).mono ?_; rintro e wr ⟨rfl, rfl⟩))
  exact bodyPost_ret (v := Value.tuple #[.agg #[.int .i64 5, .int .i64 (p : Int), .string (s.extract p (p + 1))], .int .i64 ((p : Int) + 1), .bool true]) (by simp [results, Tryd.results136, go_sem]) rfl ⟨congrArg Ending.returned (nextV_one (unhide hN)), (by repeat (first | exact Below.refl _ _ | refine nx_al ?_ | refine nx_set ?_ (by first | omega | (simp <;> omega)) | refine nx_drew ?_ | refine nx_trans ?_ (unhide (by assumption))))⟩

set_option maxHeartbeats 2000000 in
set_option maxRecDepth 100000 in
theorem l02Next_pair38 (s : ByteArray) (p : Nat) (w : World) (hs : s.size ≤ 65536) (hp : p < s.size) (hl : letB (s[p].toNat : Int) = false) (hd : digB (s[p].toNat : Int) = false) (hq : ((s[p].toNat : Int) == 39) = false) (hg : sgnB (s[p].toNat : Int) = true) (h61 : ((s[p].toNat : Int) == 61) = false) (h38 : ((s[p].toNat : Int) == 38) = true) (h124 : ((s[p].toNat : Int) == 124) = false) (hk : p + 1 < s.size) (hf : ((s[p + 1].toNat : Int) == 38) = true) (hN : Hid (nextT (s.data.toList.drop p) = some (5, (s.extract p (p + 2)).data.toList, p + 2 - p))) :
    Calls Tryd.prog 136 #[.string s, .int .i64 (p : Int)] w fun e w' => e = .returned (nextV p (nextT (s.data.toList.drop p))) ∧ Below w.heap.size w w' := by
  have hp0 : ¬ (p : Int) < 0 := by omega
  have hp1 : (p : Int) < (s.size : Int) := by omega
  have hk0 : ¬ (p : Int) + 1 < 0 := by omega
  have hk1 : (p : Int) + 1 < (s.size : Int) := by omega
  have hk2 : (p : Int) + 2 ≤ (s.size : Int) := by omega
  go_enter Tryd.func136, Tryd.ntmps136
  go_wp2_with (first | (go_at_call 162; refine (l00Letter_any _ _).mono ?_; rintro e wr ⟨rfl, rfl⟩) | (go_at_call 163; refine (l00Digit_any _ _).mono ?_; rintro e wr ⟨rfl, rfl⟩) | (go_at_call 166; refine (l02Sign_any _ _).mono ?_; rintro e wr ⟨rfl, rfl⟩))
  exact bodyPost_ret (v := Value.tuple #[.agg #[.int .i64 5, .int .i64 (p : Int), .string (s.extract p (p + 2))], .int .i64 ((p : Int) + 1 + 1), .bool true]) (by simp [results, Tryd.results136, go_sem]) rfl ⟨congrArg Ending.returned (nextV_two (unhide hN)), (by repeat (first | exact Below.refl _ _ | refine nx_al ?_ | refine nx_set ?_ (by first | omega | (simp <;> omega)) | refine nx_drew ?_ | refine nx_trans ?_ (unhide (by assumption))))⟩

set_option maxHeartbeats 2000000 in
set_option maxRecDepth 100000 in
theorem l02Next_no38 (s : ByteArray) (p : Nat) (w : World) (hs : s.size ≤ 65536) (hp : p < s.size) (hl : letB (s[p].toNat : Int) = false) (hd : digB (s[p].toNat : Int) = false) (hq : ((s[p].toNat : Int) == 39) = false) (hg : sgnB (s[p].toNat : Int) = true) (h61 : ((s[p].toNat : Int) == 61) = false) (h38 : ((s[p].toNat : Int) == 38) = true) (h124 : ((s[p].toNat : Int) == 124) = false) (hk : p + 1 < s.size) (hf : ((s[p + 1].toNat : Int) == 38) = false) (hN : Hid (nextT (s.data.toList.drop p) = none)) :
    Calls Tryd.prog 136 #[.string s, .int .i64 (p : Int)] w fun e w' => e = .returned (nextV p (nextT (s.data.toList.drop p))) ∧ Below w.heap.size w w' := by
  have hp0 : ¬ (p : Int) < 0 := by omega
  have hp1 : (p : Int) < (s.size : Int) := by omega
  have hk0 : ¬ (p : Int) + 1 < 0 := by omega
  have hk1 : (p : Int) + 1 < (s.size : Int) := by omega
  go_enter Tryd.func136, Tryd.ntmps136
  go_wp2_with (first | (go_at_call 162; refine (l00Letter_any _ _).mono ?_; rintro e wr ⟨rfl, rfl⟩) | (go_at_call 163; refine (l00Digit_any _ _).mono ?_; rintro e wr ⟨rfl, rfl⟩) | (go_at_call 166; refine (l02Sign_any _ _).mono ?_; rintro e wr ⟨rfl, rfl⟩))
  exact bodyPost_ret (v := nextV p none) (by simp [results, Tryd.results136, go_sem, nextV]) rfl ⟨congrArg Ending.returned (nextV_none (unhide hN)), (by repeat (first | exact Below.refl _ _ | refine nx_al ?_ | refine nx_set ?_ (by first | omega | (simp <;> omega)) | refine nx_drew ?_ | refine nx_trans ?_ (unhide (by assumption))))⟩

set_option maxHeartbeats 2000000 in
set_option maxRecDepth 100000 in
theorem l02Next_end38 (s : ByteArray) (p : Nat) (w : World) (hs : s.size ≤ 65536) (hp : p < s.size) (hl : letB (s[p].toNat : Int) = false) (hd : digB (s[p].toNat : Int) = false) (hq : ((s[p].toNat : Int) == 39) = false) (hg : sgnB (s[p].toNat : Int) = true) (h61 : ((s[p].toNat : Int) == 61) = false) (h38 : ((s[p].toNat : Int) == 38) = true) (h124 : ((s[p].toNat : Int) == 124) = false) (hk : ¬ p + 1 < s.size) (hN : Hid (nextT (s.data.toList.drop p) = none)) :
    Calls Tryd.prog 136 #[.string s, .int .i64 (p : Int)] w fun e w' => e = .returned (nextV p (nextT (s.data.toList.drop p))) ∧ Below w.heap.size w w' := by
  have hp0 : ¬ (p : Int) < 0 := by omega
  have hp1 : (p : Int) < (s.size : Int) := by omega
  have hk1 : ¬ (p : Int) + 1 < (s.size : Int) := by omega
  go_enter Tryd.func136, Tryd.ntmps136
  go_wp2_with (first | (go_at_call 162; refine (l00Letter_any _ _).mono ?_; rintro e wr ⟨rfl, rfl⟩) | (go_at_call 163; refine (l00Digit_any _ _).mono ?_; rintro e wr ⟨rfl, rfl⟩) | (go_at_call 166; refine (l02Sign_any _ _).mono ?_; rintro e wr ⟨rfl, rfl⟩))
  exact bodyPost_ret (v := nextV p none) (by simp [results, Tryd.results136, go_sem, nextV]) rfl ⟨congrArg Ending.returned (nextV_none (unhide hN)), (by repeat (first | exact Below.refl _ _ | refine nx_al ?_ | refine nx_set ?_ (by first | omega | (simp <;> omega)) | refine nx_drew ?_ | refine nx_trans ?_ (unhide (by assumption))))⟩

set_option maxHeartbeats 2000000 in
set_option maxRecDepth 100000 in
theorem l02Next_pair124 (s : ByteArray) (p : Nat) (w : World) (hs : s.size ≤ 65536) (hp : p < s.size) (hl : letB (s[p].toNat : Int) = false) (hd : digB (s[p].toNat : Int) = false) (hq : ((s[p].toNat : Int) == 39) = false) (hg : sgnB (s[p].toNat : Int) = true) (h61 : ((s[p].toNat : Int) == 61) = false) (h38 : ((s[p].toNat : Int) == 38) = false) (h124 : ((s[p].toNat : Int) == 124) = true) (hk : p + 1 < s.size) (hf : ((s[p + 1].toNat : Int) == 124) = true) (hN : Hid (nextT (s.data.toList.drop p) = some (5, (s.extract p (p + 2)).data.toList, p + 2 - p))) :
    Calls Tryd.prog 136 #[.string s, .int .i64 (p : Int)] w fun e w' => e = .returned (nextV p (nextT (s.data.toList.drop p))) ∧ Below w.heap.size w w' := by
  have hp0 : ¬ (p : Int) < 0 := by omega
  have hp1 : (p : Int) < (s.size : Int) := by omega
  have hk0 : ¬ (p : Int) + 1 < 0 := by omega
  have hk1 : (p : Int) + 1 < (s.size : Int) := by omega
  have hk2 : (p : Int) + 2 ≤ (s.size : Int) := by omega
  go_enter Tryd.func136, Tryd.ntmps136
  go_wp2_with (first | (go_at_call 162; refine (l00Letter_any _ _).mono ?_; rintro e wr ⟨rfl, rfl⟩) | (go_at_call 163; refine (l00Digit_any _ _).mono ?_; rintro e wr ⟨rfl, rfl⟩) | (go_at_call 166; refine (l02Sign_any _ _).mono ?_; rintro e wr ⟨rfl, rfl⟩))
  exact bodyPost_ret (v := Value.tuple #[.agg #[.int .i64 5, .int .i64 (p : Int), .string (s.extract p (p + 2))], .int .i64 ((p : Int) + 1 + 1), .bool true]) (by simp [results, Tryd.results136, go_sem]) rfl ⟨congrArg Ending.returned (nextV_two (unhide hN)), (by repeat (first | exact Below.refl _ _ | refine nx_al ?_ | refine nx_set ?_ (by first | omega | (simp <;> omega)) | refine nx_drew ?_ | refine nx_trans ?_ (unhide (by assumption))))⟩

set_option maxHeartbeats 2000000 in
set_option maxRecDepth 100000 in
theorem l02Next_no124 (s : ByteArray) (p : Nat) (w : World) (hs : s.size ≤ 65536) (hp : p < s.size) (hl : letB (s[p].toNat : Int) = false) (hd : digB (s[p].toNat : Int) = false) (hq : ((s[p].toNat : Int) == 39) = false) (hg : sgnB (s[p].toNat : Int) = true) (h61 : ((s[p].toNat : Int) == 61) = false) (h38 : ((s[p].toNat : Int) == 38) = false) (h124 : ((s[p].toNat : Int) == 124) = true) (hk : p + 1 < s.size) (hf : ((s[p + 1].toNat : Int) == 124) = false) (hN : Hid (nextT (s.data.toList.drop p) = none)) :
    Calls Tryd.prog 136 #[.string s, .int .i64 (p : Int)] w fun e w' => e = .returned (nextV p (nextT (s.data.toList.drop p))) ∧ Below w.heap.size w w' := by
  have hp0 : ¬ (p : Int) < 0 := by omega
  have hp1 : (p : Int) < (s.size : Int) := by omega
  have hk0 : ¬ (p : Int) + 1 < 0 := by omega
  have hk1 : (p : Int) + 1 < (s.size : Int) := by omega
  go_enter Tryd.func136, Tryd.ntmps136
  go_wp2_with (first | (go_at_call 162; refine (l00Letter_any _ _).mono ?_; rintro e wr ⟨rfl, rfl⟩) | (go_at_call 163; refine (l00Digit_any _ _).mono ?_; rintro e wr ⟨rfl, rfl⟩) | (go_at_call 166; refine (l02Sign_any _ _).mono ?_; rintro e wr ⟨rfl, rfl⟩))
  exact bodyPost_ret (v := nextV p none) (by simp [results, Tryd.results136, go_sem, nextV]) rfl ⟨congrArg Ending.returned (nextV_none (unhide hN)), (by repeat (first | exact Below.refl _ _ | refine nx_al ?_ | refine nx_set ?_ (by first | omega | (simp <;> omega)) | refine nx_drew ?_ | refine nx_trans ?_ (unhide (by assumption))))⟩

set_option maxHeartbeats 2000000 in
set_option maxRecDepth 100000 in
theorem l02Next_end124 (s : ByteArray) (p : Nat) (w : World) (hs : s.size ≤ 65536) (hp : p < s.size) (hl : letB (s[p].toNat : Int) = false) (hd : digB (s[p].toNat : Int) = false) (hq : ((s[p].toNat : Int) == 39) = false) (hg : sgnB (s[p].toNat : Int) = true) (h61 : ((s[p].toNat : Int) == 61) = false) (h38 : ((s[p].toNat : Int) == 38) = false) (h124 : ((s[p].toNat : Int) == 124) = true) (hk : ¬ p + 1 < s.size) (hN : Hid (nextT (s.data.toList.drop p) = none)) :
    Calls Tryd.prog 136 #[.string s, .int .i64 (p : Int)] w fun e w' => e = .returned (nextV p (nextT (s.data.toList.drop p))) ∧ Below w.heap.size w w' := by
  have hp0 : ¬ (p : Int) < 0 := by omega
  have hp1 : (p : Int) < (s.size : Int) := by omega
  have hk1 : ¬ (p : Int) + 1 < (s.size : Int) := by omega
  go_enter Tryd.func136, Tryd.ntmps136
  go_wp2_with (first | (go_at_call 162; refine (l00Letter_any _ _).mono ?_; rintro e wr ⟨rfl, rfl⟩) | (go_at_call 163; refine (l00Digit_any _ _).mono ?_; rintro e wr ⟨rfl, rfl⟩) | (go_at_call 166; refine (l02Sign_any _ _).mono ?_; rintro e wr ⟨rfl, rfl⟩))
  exact bodyPost_ret (v := nextV p none) (by simp [results, Tryd.results136, go_sem, nextV]) rfl ⟨congrArg Ending.returned (nextV_none (unhide hN)), (by repeat (first | exact Below.refl _ _ | refine nx_al ?_ | refine nx_set ?_ (by first | omega | (simp <;> omega)) | refine nx_drew ?_ | refine nx_trans ?_ (unhide (by assumption))))⟩

set_option maxHeartbeats 2000000 in
set_option maxRecDepth 100000 in
theorem l02Next_no (s : ByteArray) (p : Nat) (w : World) (hs : s.size ≤ 65536) (hp : p < s.size) (hl : letB (s[p].toNat : Int) = false) (hd : digB (s[p].toNat : Int) = false) (hq : ((s[p].toNat : Int) == 39) = false) (hg : sgnB (s[p].toNat : Int) = true) (h61 : ((s[p].toNat : Int) == 61) = false) (h38 : ((s[p].toNat : Int) == 38) = false) (h124 : ((s[p].toNat : Int) == 124) = false) (hk : p + 1 < s.size) (hN : Hid (nextT (s.data.toList.drop p) = some (5, (s.extract p (p + 1)).data.toList, p + 1 - p))) :
    Calls Tryd.prog 136 #[.string s, .int .i64 (p : Int)] w fun e w' => e = .returned (nextV p (nextT (s.data.toList.drop p))) ∧ Below w.heap.size w w' := by
  have hp0 : ¬ (p : Int) < 0 := by omega
  have hp1 : (p : Int) < (s.size : Int) := by omega
  have hk0 : ¬ (p : Int) + 1 < 0 := by omega
  have hk1 : (p : Int) + 1 < (s.size : Int) := by omega
  go_enter Tryd.func136, Tryd.ntmps136
  go_wp2_with (first | (go_at_call 162; refine (l00Letter_any _ _).mono ?_; rintro e wr ⟨rfl, rfl⟩) | (go_at_call 163; refine (l00Digit_any _ _).mono ?_; rintro e wr ⟨rfl, rfl⟩) | (go_at_call 166; refine (l02Sign_any _ _).mono ?_; rintro e wr ⟨rfl, rfl⟩))
  exact bodyPost_ret (v := Value.tuple #[.agg #[.int .i64 5, .int .i64 (p : Int), .string (s.extract p (p + 1))], .int .i64 ((p : Int) + 1), .bool true]) (by simp [results, Tryd.results136, go_sem]) rfl ⟨congrArg Ending.returned (nextV_one (unhide hN)), (by repeat (first | exact Below.refl _ _ | refine nx_al ?_ | refine nx_set ?_ (by first | omega | (simp <;> omega)) | refine nx_drew ?_ | refine nx_trans ?_ (unhide (by assumption))))⟩

set_option maxHeartbeats 2000000 in
set_option maxRecDepth 100000 in
theorem l02Next_end (s : ByteArray) (p : Nat) (w : World) (hs : s.size ≤ 65536) (hp : p < s.size) (hl : letB (s[p].toNat : Int) = false) (hd : digB (s[p].toNat : Int) = false) (hq : ((s[p].toNat : Int) == 39) = false) (hg : sgnB (s[p].toNat : Int) = true) (h61 : ((s[p].toNat : Int) == 61) = false) (h38 : ((s[p].toNat : Int) == 38) = false) (h124 : ((s[p].toNat : Int) == 124) = false) (hk : ¬ p + 1 < s.size) (hN : Hid (nextT (s.data.toList.drop p) = some (5, (s.extract p (p + 1)).data.toList, p + 1 - p))) :
    Calls Tryd.prog 136 #[.string s, .int .i64 (p : Int)] w fun e w' => e = .returned (nextV p (nextT (s.data.toList.drop p))) ∧ Below w.heap.size w w' := by
  have hp0 : ¬ (p : Int) < 0 := by omega
  have hp1 : (p : Int) < (s.size : Int) := by omega
  have hk1 : ¬ (p : Int) + 1 < (s.size : Int) := by omega
  go_enter Tryd.func136, Tryd.ntmps136
  go_wp2_with (first | (go_at_call 162; refine (l00Letter_any _ _).mono ?_; rintro e wr ⟨rfl, rfl⟩) | (go_at_call 163; refine (l00Digit_any _ _).mono ?_; rintro e wr ⟨rfl, rfl⟩) | (go_at_call 166; refine (l02Sign_any _ _).mono ?_; rintro e wr ⟨rfl, rfl⟩))
  exact bodyPost_ret (v := Value.tuple #[.agg #[.int .i64 5, .int .i64 (p : Int), .string (s.extract p (p + 1))], .int .i64 ((p : Int) + 1), .bool true]) (by simp [results, Tryd.results136, go_sem]) rfl ⟨congrArg Ending.returned (nextV_one (unhide hN)), (by repeat (first | exact Below.refl _ _ | refine nx_al ?_ | refine nx_set ?_ (by first | omega | (simp <;> omega)) | refine nx_drew ?_ | refine nx_trans ?_ (unhide (by assumption))))⟩

theorem l02Next_any (s : ByteArray) (p : Nat) (w : World) (hs : s.size ≤ 65536) (hp : p < s.size) :
    Calls Tryd.prog 136 #[.string s, .int .i64 (p : Int)] w fun e w' => e = .returned (nextV p (nextT (s.data.toList.drop p))) ∧ Below w.heap.size w w' := by
  cases hl : letB (s[p].toNat : Int)
  case true => exact l02Next_letter s p w hs hp hl
  cases hd : digB (s[p].toNat : Int)
  case true => exact l02Next_digit s p w hs hp hl hd
  by_cases h39 : (s[p].toNat : Int) = 39
  · exact l02Next_quote s p w hs hp (by rw [h39]; rfl)
  have hq : ((s[p].toNat : Int) == 39) = false := beq_eq_false_iff_ne.2 h39
  have hB : Bare s p := ⟨hp, hl, hd, byte_ne (d := 39) h39⟩
  cases hg : sgnB (s[p].toNat : Int)
  · have h := not_one (sgn_not hg)
    exact l02Next_other s p w hs hp hl hd hq hg (sgn_none hB (fun _ h' => by rcases h' with h' | h' | h' <;> simp_all) h.1)
  have hm := sgn_fact hg
  by_cases h61 : (s[p].toNat : Int) = 61
  · have b := byte_eq (d := 61) h61
    by_cases hk : p + 1 < s.size
    · by_cases hf : (s[p + 1].toNat : Int) = 61
      · exact l02Next_pair61 s p w hs hp hl hd hq hg (by rw [h61]; rfl) (by rw [h61]; rfl) (by rw [h61]; rfl) hk (by rw [hf]; rfl) (sgn_two hB hk (.inl ⟨b, byte_eq (d := 61) hf⟩))
      · have hf' := byte_ne (d := 61) hf
        exact l02Next_no61 s p w hs hp hl hd hq hg (by rw [h61]; rfl) (by rw [h61]; rfl) (by rw [h61]; rfl) hk (beq_eq_false_iff_ne.2 hf) (sgn_one hB (fun _ h' => by rw [b] at h'; rcases h' with h' | h' | h' <;> first | exact hf' h'.2 | exact absurd h'.1 (by decide)) (by rw [b]; decide))
    · exact l02Next_end61 s p w hs hp hl hd hq hg (by rw [h61]; rfl) (by rw [h61]; rfl) (by rw [h61]; rfl) hk (sgn_one hB (fun h' => absurd h' hk) (by rw [b]; decide))
  have e61 : ((s[p].toNat : Int) == 61) = false := beq_eq_false_iff_ne.2 h61
  by_cases h38 : (s[p].toNat : Int) = 38
  · have b := byte_eq (d := 38) h38
    by_cases hk : p + 1 < s.size
    · by_cases hf : (s[p + 1].toNat : Int) = 38
      · exact l02Next_pair38 s p w hs hp hl hd hq hg (by rw [h38]; rfl) (by rw [h38]; rfl) (by rw [h38]; rfl) hk (by rw [hf]; rfl) (sgn_two hB hk (.inr (.inl ⟨b, byte_eq (d := 38) hf⟩)))
      · have hf' := byte_ne (d := 38) hf
        exact l02Next_no38 s p w hs hp hl hd hq hg (by rw [h38]; rfl) (by rw [h38]; rfl) (by rw [h38]; rfl) hk (beq_eq_false_iff_ne.2 hf) (sgn_none hB (fun _ h' => by rw [b] at h'; rcases h' with h' | h' | h' <;> first | exact hf' h'.2 | exact absurd h'.1 (by decide)) (by rw [b]; decide))
    · exact l02Next_end38 s p w hs hp hl hd hq hg (by rw [h38]; rfl) (by rw [h38]; rfl) (by rw [h38]; rfl) hk (sgn_none hB (fun h' => absurd h' hk) (by rw [b]; decide))
  have e38 : ((s[p].toNat : Int) == 38) = false := beq_eq_false_iff_ne.2 h38
  by_cases h124 : (s[p].toNat : Int) = 124
  · have b := byte_eq (d := 124) h124
    by_cases hk : p + 1 < s.size
    · by_cases hf : (s[p + 1].toNat : Int) = 124
      · exact l02Next_pair124 s p w hs hp hl hd hq hg (by rw [h124]; rfl) (by rw [h124]; rfl) (by rw [h124]; rfl) hk (by rw [hf]; rfl) (sgn_two hB hk (.inr (.inr ⟨b, byte_eq (d := 124) hf⟩)))
      · have hf' := byte_ne (d := 124) hf
        exact l02Next_no124 s p w hs hp hl hd hq hg (by rw [h124]; rfl) (by rw [h124]; rfl) (by rw [h124]; rfl) hk (beq_eq_false_iff_ne.2 hf) (sgn_none hB (fun _ h' => by rw [b] at h'; rcases h' with h' | h' | h' <;> first | exact hf' h'.2 | exact absurd h'.1 (by decide)) (by rw [b]; decide))
    · exact l02Next_end124 s p w hs hp hl hd hq hg (by rw [h124]; rfl) (by rw [h124]; rfl) (by rw [h124]; rfl) hk (sgn_none hB (fun h' => absurd h' hk) (by rw [b]; decide))
  have e124 : ((s[p].toNat : Int) == 124) = false := beq_eq_false_iff_ne.2 h124
  have hno : NoPair s p hp := fun _ h' => by
    rcases h' with h' | h' | h'
    · exact byte_ne (d := 61) h61 h'.1
    · exact byte_ne (d := 38) h38 h'.1
    · exact byte_ne (d := 124) h124 h'.1
  have h1 := sgn_one hB hno (one_of_sgn hm (byte_ne (d := 38) h38) (byte_ne (d := 124) h124))
  by_cases hk : p + 1 < s.size
  · exact l02Next_no s p w hs hp hl hd hq hg e61 e38 e124 hk h1
  · exact l02Next_end s p w hs hp hl hd hq hg e61 e38 e124 hk h1

end Go.Proofs.YtbipgmikgokfpaaDoor
