/- Replies written: both sides and the law. -/
import Derived.Test.YthfoabcmgiiadaaGreatDoorWireW3
import Derived.Test.YthfoabcmgiiadaaGreatDoorWireDig
import Derived.Test.YthfoabcmgiiadaaGreatDoorCFrame
import Derived.Lib.AppendIntMem
import Derived.Lib.SmallJoins
import Derived.Lib.ItoaLen
import Derived.Stop.LaidErr
namespace Go.Proofs.YthfoabcmgiiadaaGreatDoor
open Go.RowKit Go.Joins Go.Shelf
set_option linter.unusedVariables false

def powNameW : String := (Rows.fnConnsRow.laid.map (·.1)).getD 2 ""
theorem gPowW : Tryz.prog.globalNamed powNameW = some 4 := by kernel_rfl
theorem tPowW : (Tryz.prog.globals[4]?).map (·.type) = some 162 := by kernel_rfl
def PowTabW (w : World) : Prop := Lib.TabIs Tryz.prog w powNameW .u64 Lib.pow10Tab
theorem PowTabW.later {w w' : World} {B : Nat} (h : PowTabW w) (hb : Below B w w') (hB : w.heap.size ≤ B) : PowTabW w' := tab_stays gPowW h hb hB
theorem powDataW : (Rows.laid_internal_strconv_uint64pow10 : DataW Unit) = Lib.tabData .u64 Lib.pow10Tab := by kernel_rfl
theorem powTabW_of_laid {W : World} (h : laidMetH Tryz.prog Rows.fnConnsRow.laid W) : PowTabW W := by
  rw [MakeChecks.laidMetH_plain _ _ _ (by kernel_rfl)] at h
  have h1 : laidMet Tryz.prog (_ :: _ :: (powNameW, Rows.laid_internal_strconv_uint64pow10) :: Rows.fnConnsRow.laid.drop 3) W := h
  rw [powDataW] at h1
  exact Lib.tabIs_of_head (t := 162) (e := 148) (n := 20) gPowW tPowW Tryz.underlying162 Tryz.underlying148 (by kernel_rfl) (by kernel_rfl) h1.tail.tail
def decS (n : Int) : ByteArray := ⟨(Lib.itoa n).toArray⟩
theorem decS_size (n : Int) (h0 : -2147483648 ≤ n) (h1 : n ≤ 2147483647) : (decS n).size ≤ 100 := by
  have := Lib.itoa_length_le n (by omega) (by omega)
  show (Lib.itoa n).toArray.size ≤ 100
  simp; omega
theorem ItoaW_any (n : Int) (w : World) (h0 : -2147483648 ≤ n) (h1 : n ≤ 2147483647) (ht : PowTabW w) :
    Calls Tryz.prog 95 #[.int .i64 n] w fun e w' => e = .returned (.string (decS n)) ∧ Below w.heap.size w w' := by
  refine (Any.strconv_Itoa Tryz.laysM171 n (by omega) (by omega) w ht).mono ?_
  rintro e w' ⟨rfl, k, os, rfl⟩
  exact ⟨rfl, Lib.below_grow _ _ (Nat.le_refl _) _ _⟩

def http1 : ByteArray := ⟨#[72, 84, 84, 80, 47, 49, 46, 49, 32]⟩
def clenW : ByteArray := ⟨#[67, 111, 110, 116, 101, 110, 116, 45, 76, 101, 110, 103, 116, 104, 58, 32]⟩
def replyT (d1 wd d2 body : ByteArray) (c : Bool) : ByteArray := headT c (http1 ++ d1 ++ blankS ++ wd) (clenW ++ d2) ++ body
def replyR (st : Int) (body : ByteArray) (c : Bool) : ByteArray × Int :=
  if 65536 < body.size then (⟨#[]⟩, 2) else if statW st = ⟨#[]⟩ ∨ 80 < body.size then (⟨#[]⟩, 4) else (replyT (decS st) (statW st) (decS body.size) body c, 0)
theorem statW_range {n : Int} (h : statW n ≠ ⟨#[]⟩) : 200 ≤ n ∧ n ≤ 504 := by
  unfold statW at h
  repeat (split at h; · omega)
  exact absurd rfl h

set_option maxHeartbeats 2000000 in
theorem l08Reply_any (st : Int) (body : ByteArray) (c : Bool) (w : World) (hb : body.size ≤ 80) (h0 : 200 ≤ st) (h1 : st ≤ 504) :
    Calls Tryz.prog 65 #[.int .i64 st, .string body, .bool c] w fun e w' => e = .returned (.string (replyT (decS st) (statW st) (decS body.size) body c)) ∧ Below w.heap.size w w' := by
  have H1 := hide fun w => l00Digits_anyW st w (by omega) (by omega)
  have H2 := hide fun w => l00Digits_anyW (body.size : Int) w (by omega) (by omega)
  have H3 := hide fun w => specStatusWord_any st w
  have z1 := decS_size st (by omega) (by omega)
  have z2 := decS_size (body.size : Int) (by omega) (by omega)
  have z3 := statW_size st
  have e1 : (⟨(Lib.itoa st).toArray⟩ : ByteArray) = decS st := rfl
  have e2 : (⟨(Lib.itoa (body.size : Int)).toArray⟩ : ByteArray) = decS (body.size : Int) := rfl
  rw [e1] at H1
  rw [e2] at H2
  clear e1 e2
  generalize decS st = D1 at H1 z1
  generalize decS (body.size : Int) = D2 at H2 z2
  generalize statW st = W at H3 z3
  have HT : Hid (∀ c, replyT D1 W D2 body c = if c = true then ⟨#[72, 84, 84, 80, 47, 49, 46, 49, 32]⟩ ++ D1 ++ ⟨#[32]⟩ ++ W ++ ⟨#[13, 10, 67, 111, 110, 116, 101, 110, 116, 45, 76, 101, 110, 103, 116, 104, 58, 32]⟩ ++ D2 ++ ⟨#[13, 10]⟩ ++ ⟨#[67, 111, 110, 110, 101, 99, 116, 105, 111, 110, 58, 32, 99, 108, 111, 115, 101, 13, 10]⟩ ++ ⟨#[13, 10]⟩ ++ body else ⟨#[72, 84, 84, 80, 47, 49, 46, 49, 32]⟩ ++ D1 ++ ⟨#[32]⟩ ++ W ++ ⟨#[13, 10, 67, 111, 110, 116, 101, 110, 116, 45, 76, 101, 110, 103, 116, 104, 58, 32]⟩ ++ D2 ++ ⟨#[13, 10]⟩ ++ ⟨#[13, 10]⟩ ++ body) := hide fun c => by
    apply qa_list
    cases c <;> simp [replyT, headT, http1, clenW, blankS, crlfS, closeLn]
  cases c
  all_goals
    go_enter Tryz.func65, Tryz.ntmps65
    go_wp2_with fail
    refine (unhide H1 _).mono ?_
    rintro e w1 ⟨rfl, hb1⟩
    go_wp2_with fail
    refine (unhide H3 _).mono ?_
    rintro e w1 ⟨rfl, rfl⟩
    go_wp2_with fail
    refine (unhide H2 _).mono ?_
    rintro e w2 ⟨rfl, hb2⟩
    go_wp2
    go_ret
    exact ⟨by rw [unhide HT]; rfl, qx_trans hb1 hb2⟩


set_option maxHeartbeats 2000000 in
theorem ReplyText_any (st : Int) (body : ByteArray) (c : Bool) (w : World) (hb : body.size ≤ maxLen) (hT : PowTabW w) :
    Calls Tryz.prog 85 #[.int .i64 st, .string body, .bool c] w fun e w' => e = .returned (.tuple #[.string (replyR st body c).1, .int .i64 (replyR st body c).2]) ∧ Below w.heap.size w w' := by
  unfold maxLen at hb
  have HT := hide hT
  clear hT
  by_cases h0 : 65536 < body.size
  · have HR := hide (show replyR st body c = (⟨#[]⟩, 2) from if_pos h0)
    go_enter Tryz.func85, Tryz.ntmps85
    go_wp2
    go_ret2
    exact ⟨by rw [unhide HR]; rfl, Below.refl _ _⟩
  have H3 := hide fun w => StatusWord_any st w
  by_cases hW : statW st = ⟨#[]⟩
  · have HR := hide (show replyR st body c = (⟨#[]⟩, 4) by unfold replyR; rw [if_neg h0, if_pos (.inl hW)])
    rw [hW] at H3
    clear hW
    go_enter Tryz.func85, Tryz.ntmps85
    go_wp2_with fail
    refine (unhide H3 _).mono ?_
    rintro e w1 ⟨rfl, rfl⟩
    go_wp2
    go_ret2
    exact ⟨by rw [unhide HR]; rfl, Below.refl _ _⟩
  have hl : ¬ (statW st).toList = [] := fun e => hW (qa_list (by rw [← ByteArray.toList_eq, e]))
  have hl2 : (statW st).toList.isEmpty = false := by simp [hl]
  have hl3 : ((statW st).toList == []) = false := by simp [hl]
  by_cases h8 : 80 < body.size
  · have HR := hide (show replyR st body c = (⟨#[]⟩, 4) by unfold replyR; rw [if_neg h0, if_pos (.inr h8)])
    clear hW
    generalize statW st = W at H3 hl hl2 hl3
    go_enter Tryz.func85, Tryz.ntmps85
    go_wp2_with fail
    refine (unhide H3 _).mono ?_
    rintro e w1 ⟨rfl, rfl⟩
    go_wp2
    go_ret2
    exact ⟨by rw [unhide HR]; rfl, Below.refl _ _⟩
  · obtain ⟨r0, r1⟩ := statW_range hW
    have HR := hide (show replyR st body c = (replyT (decS st) (statW st) (decS body.size) body c, 0) by unfold replyR; rw [if_neg h0, if_neg (by rintro (h | h); exact hW h; exact h8 h)])
    have H1 := hide fun w => ItoaW_any st w (by omega) (by omega)
    have H2 := hide fun w => ItoaW_any (body.size : Int) w (by omega) (by omega)
    have z1 := decS_size st (by omega) (by omega)
    have z2 := decS_size (body.size : Int) (by omega) (by omega)
    have z3 := statW_size st
    have EH : Hid (∀ a b W X, replyT a b W X c = headT c (http1 ++ a ++ blankS ++ b) (clenW ++ W) ++ X) := hide fun _ _ _ _ => rfl
    rw [unhide EH] at HR
    clear hW EH
    generalize decS st = D1 at H1 z1 HR
    generalize decS (body.size : Int) = D2 at H2 z2 HR
    generalize statW st = W at H3 z3 hl hl2 hl3 HR
    have y1 : (http1 ++ D1 ++ blankS ++ W : ByteArray).size ≤ 1000 := by simp [ByteArray.size_append]; have : http1.size = 9 := rfl; have : blankS.size = 1 := rfl; omega
    have y2 : (clenW ++ D2 : ByteArray).size ≤ 1000 := by simp [ByteArray.size_append]; have : clenW.size = 16 := rfl; omega
    have y3 : (headT c (http1 ++ D1 ++ blankS ++ W) (clenW ++ D2)).size ≤ 5000 := by
      unfold headT
      have e1 : crlfS.size = 2 := rfl
      have e2 : closeLn.size = 17 := rfl
      split
      · simp only [ByteArray.size_append] at *; omega
      · simp only [ByteArray.size_append] at *; omega
    have Y1 := hide y1
    have Y2 := hide y2
    have HH := hide (fun (base g : Nat) (w : World) hT hbase hg => headText_any c (http1 ++ D1 ++ blankS ++ W) (clenW ++ D2) base g 2 w hT hbase hg (by omega) (by omega))
    generalize headT c (http1 ++ D1 ++ blankS ++ W) (clenW ++ D2) = T at HR y3 HH
    clear y1 y2
    go_enter Tryz.func85, Tryz.ntmps85
    go_wp2_with fail
    refine (unhide H3 _).mono ?_
    rintro e w ⟨rfl, rfl⟩
    go_wp2_with fail
    refine (unhide H1 _ (unhide HT)).mono ?_
    rintro e w1 ⟨rfl, hb1⟩
    go_wp2_with fail
    refine (unhide H2 _ ((unhide HT).later hb1 (Nat.le_refl _))).mono ?_
    rintro e w2 ⟨rfl, hb2⟩
    go_wp2_with fail
    refine (unhide HH w2.heap.size w2.heap.size _ (Txt.lit2 _ _ _ _ _ rfl (Nat.le_refl _)) ?p2 (Nat.le_refl _)).mono ?p3
    case p2 => simp
    rintro e w3 ⟨rfl, hb3⟩
    go_wp2
    go_ret2
    exact ⟨by rw [unhide HR]; rfl, qx_trans (qx_trans hb1 hb2) ((qx_alloc _ _).trans hb3)⟩


end Go.Proofs.YthfoabcmgiiadaaGreatDoor
