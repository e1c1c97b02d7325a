/- Numbers, words and rows of texts printed by the library. -/
import Derived.Test.YtoehpjignngjlaaDoorTextL
import Derived.Test.YtoehpjignngjlaaDoorShelf
import Derived.Test.YtoehpjignngjlaaDoorCFrame
import Derived.Test.YtoehpjignngjlaaDoorNodesOf
import Derived.Lib.AppendIntMem
import Derived.Lib.SmallJoins
import Derived.Stop.LaidErr
import Derived.Shelf.Strings.OnBuilder
namespace Go.Proofs.YtoehpjignngjlaaDoor
open Go.RowKit Go.Joins Go.Shelf
set_option linter.unusedVariables false

def powName2 : String := (Rows.fnExactTreeTextRow.laid.map (·.1)).getD 2 ""
theorem gPow2 : Tryd.prog.globalNamed powName2 = some 2 := by kernel_rfl
theorem tPow2 : (Tryd.prog.globals[2]?).map (·.type) = some 129 := by kernel_rfl
def PowTab2 (w : World) : Prop := Lib.TabIs Tryd.prog w powName2 .u64 Lib.pow10Tab
theorem PowTab2.later {w w' : World} {B : Nat} (h : PowTab2 w) (hb : Below B w w') (hB : w.heap.size ≤ B) : PowTab2 w' := tab_stays gPow2 h hb hB
theorem powData2 : (Rows.laid_internal_strconv_uint64pow10 : DataW Unit) = Lib.tabData .u64 Lib.pow10Tab := by kernel_rfl
theorem Itoa2_any (n : Int) (w : World) (h0 : -2147483648 ≤ n) (h1 : n ≤ 2147483647) (ht : PowTab2 w) :
    Calls Tryd.prog 46 #[.int .i64 n] w fun e w' => e = .returned (.string ⟨(Lib.itoa n).toArray⟩) ∧ Below w.heap.size w w' := by
  refine (Any.strconv_Itoa Tryd.laysM171 n (by omega) (by omega) w ht).mono ?_
  rintro e w' ⟨rfl, k, os, rfl⟩
  exact ⟨rfl, Lib.below_grow _ _ (Nat.le_refl _) _ _⟩
theorem FormatBool2_any (v : Bool) (w : World) : Calls Tryd.prog 49 #[.bool v] w fun e w' => e = .returned (.string (if v = true then ⟨#[116, 114, 117, 101]⟩ else ⟨#[102, 97, 108, 115, 101]⟩)) ∧ w' = w := by
  cases v
  · exact Any.strconv_FormatBool Tryd.lays121 false w
  · exact Any.strconv_FormatBool Tryd.lays121 true w
theorem builderX : Builder.Extra Tryd.prog Tryd.lays156_ren := {
  sizeBuilder := by kernel_rfl
  liesBuilder := by kernel_rfl
  t5 := Tryd.underlying5
  a5 := Tryd.isAgg5
  z5 := Tryd.sizeOf5
  v5 := Tryd.zeroValue5
  infoByte := by kernel_rfl
  cellsByte := by kernel_rfl
  sizeByte := by kernel_rfl
  neB5 := by decide }
theorem join_is (sep : ByteArray) : ∀ xs : List ByteArray, (⟨(Lib.join (xs.map (·.data.toList)) sep.data.toList).toArray⟩ : ByteArray) = joinB sep xs
  | [] => rfl
  | [t] => by
    apply ByteArray.ext
    simp [Lib.join, joinB]
  | t :: u :: r => by
    have ih := join_is sep (u :: r)
    have ih2 := congrArg (fun b : ByteArray => b.data.toList) ih
    apply ByteArray.ext
    simp [joinB] at ih2 ⊢
    rw [← ih2]
    simp [Lib.join]
theorem Join2_any (p : Option Addr) (zs : List ByteArray) (w : World) (hp : ∃ g, p = some ⟨g, 0, none⟩ ∧ g < w.heap.size) (hz : StrsAt w p zs) (hl : zs.length ≤ 1048576) (hs : ∀ z ∈ zs, z.size ≤ 20) :
    Calls Tryd.prog 36 #[.slice p zs.length zs.length, .string ⟨#[44, 32]⟩] w fun e w' => e = .returned (.string (joinB ⟨#[44, 32]⟩ zs)) ∧ Below w.heap.size w w' := by
  obtain ⟨g, rfl, hg⟩ := hp
  have := Any.strings_Join Tryd.lays156 builderX g 0 zs.length zs ⟨#[44, 32]⟩ w (fun j x hx => by
    obtain ⟨hj, rfl⟩ := List.getElem?_eq_some_iff.1 hx
    obtain ⟨b, o, e, hc⟩ := hz j hj
    obtain ⟨rfl, rfl⟩ := (by simpa using e : g = b ∧ 0 = o)
    exact hc) hg (by omega) (Nat.le_refl _) (by
      have h1 := join_is ⟨#[44, 32]⟩ zs
      have h2 := joinB_size ⟨#[44, 32]⟩ (by decide) zs
      have h3 := sumB_names zs hs
      rw [← h1] at h2
      have h4 : (⟨(Lib.join (zs.map (·.data.toList)) (⟨#[44, 32]⟩ : ByteArray).data.toList).toArray⟩ : ByteArray).size = (Lib.join (zs.map (·.data.toList)) (⟨#[44, 32]⟩ : ByteArray).data.toList).length := by
        show (List.toArray _).size = _
        simp
      omega)
  rw [join_is] at this
  exact this
theorem laid4_pow {W : World} (h : laidMetH Tryd.prog Rows.fnExactTreeTextRow.laid W) : PowTab2 W := by
  rw [MakeChecks.laidMetH_plain _ _ _ (by kernel_rfl)] at h
  have h1 : laidMet Tryd.prog [_, _, (powName2, Rows.laid_internal_strconv_uint64pow10), _] W := h
  rw [powData2] at h1
  exact Lib.tabIs_of_head (t := 129) (e := 121) (n := 20) gPow2 tPow2 Tryd.underlying129 Tryd.underlying121 (by kernel_rfl) (by kernel_rfl) h1.tail.tail
theorem laid4_words {W : World} (h : laidMetH Tryd.prog Rows.fnExactTreeTextRow.laid W) : TabAt W 1 srcWords := by
  rw [MakeChecks.laidMetH_plain _ _ _ (by kernel_rfl)] at h
  have h1 : laidMet Tryd.prog [_, _, _, (srcWordsName, Rows.laid_loop_example_g00370_impl_sourceWords)] W := h
  obtain ⟨ps, ⟨g0, t0, cs0, f0, p0, q0, hg0, ht0, hv0, hd0, _, _⟩, _, _⟩ := h1.tail.tail.tail
  exact tab_words_of hg0 ht0 hv0 hd0

end Go.Proofs.YtoehpjignngjlaaDoor
