/- A number's text: strconv.Itoa over the table of powers; a status that is one. -/
import Derived.Test.YtcihmcgiokcibaaDoorWireW2
import Derived.Test.YtcihmcgiokcibaaDoorShelf
import Derived.Test.YtcihmcgiokcibaaDoorWireDig
import Derived.Test.YtcihmcgiokcibaaDoorCFrame
import Derived.Lib.AppendIntMem
import Derived.Lib.SmallJoins
import Derived.Lib.ItoaLen
import Derived.Stop.LaidErr
namespace Go.Proofs.YtcihmcgiokcibaaDoor
open Go.RowKit Go.Joins Go.Shelf
set_option linter.unusedVariables false

def powNameW : String := (Rows.fnExactCountStatusRow.laid.map (·.1)).getD 2 ""
theorem gPowW : Tryd.prog.globalNamed powNameW = some 1 := by kernel_rfl
theorem tPowW : (Tryd.prog.globals[1]?).map (·.type) = some 54 := by kernel_rfl
def PowTabW (w : World) : Prop := Lib.TabIs Tryd.prog w powNameW .u64 Lib.pow10Tab
theorem PowTabW.later {w w' : World} {B : Nat} (h : PowTabW w) (hb : Below B w w') (hB : w.heap.size ≤ B) : PowTabW w' := tab_stays gPowW h hb hB
theorem powDataW : (Rows.laid_internal_strconv_uint64pow10 : DataW Unit) = Lib.tabData .u64 Lib.pow10Tab := by kernel_rfl
theorem powTabW_of_laid {W : World} (h : laidMetH Tryd.prog Rows.fnExactCountStatusRow.laid W) : PowTabW W := by
  rw [MakeChecks.laidMetH_plain _ _ _ (by kernel_rfl)] at h
  have h1 : laidMet Tryd.prog (_ :: _ :: (powNameW, Rows.laid_internal_strconv_uint64pow10) :: Rows.fnExactCountStatusRow.laid.drop 3) W := h
  rw [powDataW] at h1
  exact Lib.tabIs_of_head (t := 54) (e := 47) (n := 20) gPowW tPowW Tryd.underlying54 Tryd.underlying47 (by kernel_rfl) (by kernel_rfl) h1.tail.tail
def decS (n : Int) : ByteArray := ⟨(Lib.itoa n).toArray⟩
theorem decS_size (n : Int) (h0 : -2147483648 ≤ n) (h1 : n ≤ 2147483647) : (decS n).size ≤ 100 := by
  have := Lib.itoa_length_le n (by omega) (by omega)
  show (Lib.itoa n).toArray.size ≤ 100
  simp; omega
theorem ItoaW_any (n : Int) (w : World) (h0 : -2147483648 ≤ n) (h1 : n ≤ 2147483647) (ht : PowTabW w) :
    Calls Tryd.prog 17 #[.int .i64 n] w fun e w' => e = .returned (.string (decS n)) ∧ Below w.heap.size w w' := by
  refine (Any.strconv_Itoa Tryd.laysM171 n (by omega) (by omega) w ht).mono ?_
  rintro e w' ⟨rfl, k, os, rfl⟩
  exact ⟨rfl, Lib.below_grow _ _ (Nat.le_refl _) _ _⟩

def http1 : ByteArray := ⟨#[72, 84, 84, 80, 47, 49, 46, 49, 32]⟩
theorem statW_range {n : Int} (h : statW n ≠ ⟨#[]⟩) : 200 ≤ n ∧ n ≤ 504 := by
  unfold statW at h
  repeat (split at h; · omega)
  exact absurd rfl h

end Go.Proofs.YtcihmcgiokcibaaDoor
