/- The text of a value: 'impl.ValueText' and 'spec.ValueText'. -/
import Derived.Test.YtcdjdfmpnfodiaaDoorDigits
import Derived.Test.YtcdjdfmpnfodiaaDoorShelf
import Derived.Test.YtcdjdfmpnfodiaaDoorSmallWalk
import Derived.Test.YtcdjdfmpnfodiaaDoorCFrame
import Derived.Lib.AppendIntMem
import Derived.Lib.SmallJoins
import Derived.Stop.LaidErr
namespace Go.Proofs.YtcdjdfmpnfodiaaDoor
open Go.RowKit Go.Joins Go.Shelf
set_option linter.unusedVariables false

def powName : String := (Rows.fnExactJobReplyRow.laid.map (·.1)).getD 2 ""
theorem gPow : Tryd.prog.globalNamed powName = some 0 := by kernel_rfl
theorem tPow : (Tryd.prog.globals[0]?).map (·.type) = some 94 := by kernel_rfl
def PowTab (w : World) : Prop := Lib.TabIs Tryd.prog w powName .u64 Lib.pow10Tab
theorem PowTab.later {w w' : World} {B : Nat} (h : PowTab w) (hb : Below B w w') (hB : w.heap.size ≤ B) : PowTab w' := tab_stays gPow h hb hB
theorem powData : (Rows.laid_internal_strconv_uint64pow10 : DataW Unit) = Lib.tabData .u64 Lib.pow10Tab := by kernel_rfl
theorem powTab_of_laid {W : World} (h : laidMetH Tryd.prog Rows.fnExactJobReplyRow.laid W) : PowTab W := by
  rw [MakeChecks.laidMetH_plain _ _ _ (by kernel_rfl)] at h
  have h1 : laidMet Tryd.prog [_, _, (powName, Rows.laid_internal_strconv_uint64pow10)] W := h
  rw [powData] at h1
  exact Lib.tabIs_of_head (t := 94) (e := 87) (n := 20) gPow tPow Tryd.underlying94 Tryd.underlying87 (by kernel_rfl) (by kernel_rfl) h1.tail.tail
theorem Itoa_any (n : Int) (w : World) (h0 : -2147483648 ≤ n) (h1 : n ≤ 2147483647) (ht : PowTab w) :
    Calls Tryd.prog 31 #[.int .i64 n] w fun e w' => e = .returned (.string ⟨(Lib.itoa n).toArray⟩) ∧ Below w.heap.size w w' := by
  refine (Any.strconv_Itoa Tryd.laysM171 n (by omega) (by omega) w ht).mono ?_
  rintro e w' ⟨rfl, k, os, rfl⟩
  exact ⟨rfl, Lib.below_grow _ _ (Nat.le_refl _) _ _⟩
def tTrue : ByteArray := ⟨#[116, 114, 117, 101]⟩
def tFalse : ByteArray := ⟨#[102, 97, 108, 115, 101]⟩
def tNull : ByteArray := ⟨#[110, 117, 108, 108]⟩
theorem FormatBool_yes (w : World) : Calls Tryd.prog 32 #[.bool true] w fun e w' => e = .returned (.string ⟨#[116, 114, 117, 101]⟩) ∧ w' = w := Any.strconv_FormatBool Tryd.lays121 true w
theorem FormatBool_no (w : World) : Calls Tryd.prog 32 #[.bool false] w fun e w' => e = .returned (.string ⟨#[102, 97, 108, 115, 101]⟩) ∧ w' = w := Any.strconv_FormatBool Tryd.lays121 false w
def vtextB (k n : Int) (t : ByteArray) : ByteArray := if k = 1 then ⟨(Lib.itoa n).toArray⟩ else if k = 2 then (if n = 1 then ⟨#[116, 114, 117, 101]⟩ else ⟨#[102, 97, 108, 115, 101]⟩) else if k = 3 then t else ⟨#[110, 117, 108, 108]⟩
theorem vok_bits {n : Int} {t : ByteArray} (h : vokB 2 n t = true) : n = 0 ∨ n = 1 := by simp [vokB] at h; omega

set_option maxHeartbeats 1000000 in
theorem textOf_int (n : Int) (t : ByteArray) (w : World) (h0 : -2147483648 ≤ n) (h1 : n ≤ 2147483647) (ht : PowTab w) :
    Calls Tryd.prog 22 #[.agg #[.int .i64 1, .int .i64 n, .string t]] w fun e w' => e = .returned (.string ⟨(Lib.itoa n).toArray⟩) ∧ Below w.heap.size w w' := by
  have HT := hide ht
  clear ht
  go_enter Tryd.func22, Tryd.ntmps22
  go_wp2_with fail
  refine (Itoa_any n _ h0 h1 ((unhide HT).later (nx_alloc _ _) (Nat.le_refl _))).mono ?_
  rintro e w1 ⟨rfl, hb1⟩
  go_wp2
  go_ret
  exact ⟨rfl, nx_trans (nx_alloc _ _) hb1⟩

set_option maxHeartbeats 1000000 in
theorem textOf_yes (t : ByteArray) (w : World) :
    Calls Tryd.prog 22 #[.agg #[.int .i64 2, .int .i64 1, .string t]] w fun e w' => e = .returned (.string ⟨#[116, 114, 117, 101]⟩) ∧ Below w.heap.size w w' := by
  go_enter Tryd.func22, Tryd.ntmps22
  go_wp2_with fail
  refine (FormatBool_yes _).mono ?_
  rintro e w' ⟨rfl, rfl⟩
  go_wp2
  go_ret
  exact ⟨rfl, nx_alloc _ _⟩

set_option maxHeartbeats 1000000 in
theorem textOf_no (t : ByteArray) (w : World) :
    Calls Tryd.prog 22 #[.agg #[.int .i64 2, .int .i64 0, .string t]] w fun e w' => e = .returned (.string ⟨#[102, 97, 108, 115, 101]⟩) ∧ Below w.heap.size w w' := by
  go_enter Tryd.func22, Tryd.ntmps22
  go_wp2_with fail
  refine (FormatBool_no _).mono ?_
  rintro e w' ⟨rfl, rfl⟩
  go_wp2
  go_ret
  exact ⟨rfl, nx_alloc _ _⟩

set_option maxHeartbeats 1000000 in
theorem textOf_text (n : Int) (t : ByteArray) (w : World) :
    Calls Tryd.prog 22 #[.agg #[.int .i64 3, .int .i64 n, .string t]] w fun e w' => e = .returned (.string t) ∧ Below w.heap.size w w' := by
  go_enter Tryd.func22, Tryd.ntmps22
  go_wp2
  go_ret
  exact ⟨rfl, nx_alloc _ _⟩

set_option maxHeartbeats 1000000 in
theorem textOf_null (n : Int) (t : ByteArray) (w : World) :
    Calls Tryd.prog 22 #[.agg #[.int .i64 0, .int .i64 n, .string t]] w fun e w' => e = .returned (.string ⟨#[110, 117, 108, 108]⟩) ∧ Below w.heap.size w w' := by
  go_enter Tryd.func22, Tryd.ntmps22
  go_wp2
  go_ret
  exact ⟨rfl, nx_alloc _ _⟩

theorem textOf_any (k n : Int) (t : ByteArray) (w : World) (hv : vokB k n t = true) (ht : PowTab w) :
    Calls Tryd.prog 22 #[.agg #[.int .i64 k, .int .i64 n, .string t]] w fun e w' => e = .returned (.string (vtextB k n t)) ∧ Below w.heap.size w w' := by
  rcases vok_kind hv with rfl | rfl | rfl | rfl
  · exact textOf_null n t w
  · exact textOf_int n t w (vok_int hv).1 (vok_int hv).2 ht
  · rcases vok_bits hv with rfl | rfl
    · exact textOf_no t w
    · exact textOf_yes t w
  · exact textOf_text n t w

set_option maxHeartbeats 1000000 in
theorem l01ValueText_int (n : Int) (t : ByteArray) (w : World) (h0 : -2147483648 ≤ n) (h1 : n ≤ 2147483647) :
    Calls Tryd.prog 18 #[.agg #[.int .i64 1, .int .i64 n, .string t]] w fun e w' => e = .returned (.string ⟨(Lib.itoa n).toArray⟩) ∧ Below w.heap.size w w' := by
  go_enter Tryd.func18, Tryd.ntmps18
  go_wp2_with fail
  refine (l00Digits_any n _ h0 h1).mono ?_
  rintro e w1 ⟨rfl, hb1⟩
  go_wp2
  go_ret
  exact ⟨rfl, nx_trans (nx_alloc _ _) hb1⟩

set_option maxHeartbeats 1000000 in
theorem l01ValueText_yes (t : ByteArray) (w : World) :
    Calls Tryd.prog 18 #[.agg #[.int .i64 2, .int .i64 1, .string t]] w fun e w' => e = .returned (.string ⟨#[116, 114, 117, 101]⟩) ∧ Below w.heap.size w w' := by
  go_enter Tryd.func18, Tryd.ntmps18
  go_wp2
  go_ret
  exact ⟨rfl, nx_alloc _ _⟩

set_option maxHeartbeats 1000000 in
theorem l01ValueText_no (t : ByteArray) (w : World) :
    Calls Tryd.prog 18 #[.agg #[.int .i64 2, .int .i64 0, .string t]] w fun e w' => e = .returned (.string ⟨#[102, 97, 108, 115, 101]⟩) ∧ Below w.heap.size w w' := by
  go_enter Tryd.func18, Tryd.ntmps18
  go_wp2
  go_ret
  exact ⟨rfl, nx_alloc _ _⟩

set_option maxHeartbeats 1000000 in
theorem l01ValueText_text (n : Int) (t : ByteArray) (w : World) :
    Calls Tryd.prog 18 #[.agg #[.int .i64 3, .int .i64 n, .string t]] w fun e w' => e = .returned (.string t) ∧ Below w.heap.size w w' := by
  go_enter Tryd.func18, Tryd.ntmps18
  go_wp2
  go_ret
  exact ⟨rfl, nx_alloc _ _⟩

set_option maxHeartbeats 1000000 in
theorem l01ValueText_null (n : Int) (t : ByteArray) (w : World) :
    Calls Tryd.prog 18 #[.agg #[.int .i64 0, .int .i64 n, .string t]] w fun e w' => e = .returned (.string ⟨#[110, 117, 108, 108]⟩) ∧ Below w.heap.size w w' := by
  go_enter Tryd.func18, Tryd.ntmps18
  go_wp2
  go_ret
  exact ⟨rfl, nx_alloc _ _⟩

theorem l01ValueText_any (k n : Int) (t : ByteArray) (w : World) (hv : vokB k n t = true) :
    Calls Tryd.prog 18 #[.agg #[.int .i64 k, .int .i64 n, .string t]] w fun e w' => e = .returned (.string (vtextB k n t)) ∧ Below w.heap.size w w' := by
  rcases vok_kind hv with rfl | rfl | rfl | rfl
  · exact l01ValueText_null n t w
  · exact l01ValueText_int n t w (vok_int hv).1 (vok_int hv).2
  · rcases vok_bits hv with rfl | rfl
    · exact l01ValueText_no t w
    · exact l01ValueText_yes t w
  · exact l01ValueText_text n t w

set_option maxHeartbeats 1000000 in
theorem ValueText_bad (k n : Int) (t : ByteArray) (w : World) (ht : t.size ≤ maxLen) (hv : vokB k n t = false) :
    Calls Tryd.prog 14 #[.agg #[.int .i64 k, .int .i64 n, .string t]] w fun e w' => e = .returned (.tuple #[.string ⟨#[]⟩, .int .i64 1]) ∧ Below w.heap.size w w' := by
  go_enter Tryd.func14, Tryd.ntmps14
  go_wp2_with fail
  refine (ValueOK_any k n t _ ht).mono ?_
  rintro e w1 ⟨rfl, hb1⟩
  rw [hv]
  obtain ⟨hc1, hf1⟩ := bcell hb1
  have hz1 : w.heap.size < w1.heap.size := by have := hb1.size; first | omega | (simp at this; omega)
  go_wp2
  exact bodyPost_ret (v := (.tuple #[.string ⟨#[]⟩, .int .i64 1])) (by simp [results, Tryd.results14, go_sem]) rfl ⟨rfl, nx_trans (nx_alloc _ _) hb1⟩

set_option maxHeartbeats 1000000 in
theorem ValueText_ok (k n : Int) (t : ByteArray) (w : World) (ht : t.size ≤ maxLen) (hv : vokB k n t = true) (hT : PowTab w) :
    Calls Tryd.prog 14 #[.agg #[.int .i64 k, .int .i64 n, .string t]] w fun e w' => e = .returned (.tuple #[.string (vtextB k n t), .int .i64 0]) ∧ Below w.heap.size w w' := by
  have HT := hide hT
  clear hT
  go_enter Tryd.func14, Tryd.ntmps14
  go_wp2_with fail
  refine (ValueOK_any k n t _ ht).mono ?_
  rintro e w1 ⟨rfl, hb1⟩
  rw [hv]
  obtain ⟨hc1, hf1⟩ := bcell hb1
  have hz1 : w.heap.size < w1.heap.size := by have := hb1.size; first | omega | (simp at this; omega)
  go_wp2_with fail
  refine (textOf_any k n t _ hv ((unhide HT).later (nx_trans (nx_alloc _ _) hb1) (Nat.le_refl _))).mono ?_
  rintro e w2 ⟨rfl, hb2⟩
  go_wp2
  exact bodyPost_ret (v := (.tuple #[.string (vtextB k n t), .int .i64 0])) (by simp [results, Tryd.results14, go_sem]) rfl ⟨rfl, nx_trans (nx_trans (nx_alloc _ _) hb1) hb2⟩



def vtP (k n : Int) (t : ByteArray) : ByteArray × Int := if vokB k n t = true then (vtextB k n t, 0) else (⟨#[]⟩, 1)
theorem ValueText_any (k n : Int) (t : ByteArray) (w : World) (ht : t.size ≤ maxLen) (hT : PowTab w) :
    Calls Tryd.prog 14 #[.agg #[.int .i64 k, .int .i64 n, .string t]] w fun e w' => e = .returned (.tuple #[.string (vtP k n t).1, .int .i64 (vtP k n t).2]) ∧ Below w.heap.size w w' := by
  unfold vtP
  cases hv : vokB k n t
  · exact ValueText_bad k n t w ht hv
  · exact ValueText_ok k n t w ht hv hT


end Go.Proofs.YtcdjdfmpnfodiaaDoor
