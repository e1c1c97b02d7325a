/- The table of codes' words, out of the rows' condition on its variable. -/
import Derived.Test.YthfoabcmgiiadaaGreatDoorConnC5
import Derived.Test.YthfoabcmgiiadaaGreatDoorCFrame
import Derived.Lib.SmallJoins
import Derived.MakeChecks
namespace Go.Proofs.YthfoabcmgiiadaaGreatDoor
open Go.ChangeShapes Go.WideShapes Go.ChangeAt Go.RowKit Go.Joins

def wordsNameK : String := (Rows.fnShutRow.laid.map (·.1)).getD 4 ""
theorem gWordsK : Tryz.prog.globalNamed wordsNameK = some 0 := by kernel_rfl
theorem tWordsK : (Tryz.prog.globals[0]?).map (·.type) = some 127 := by kernel_rfl
theorem cWordsK : Tryz.prog.cellsOf 127 = 20 := by kernel_rfl
theorem cStrK : Tryz.prog.cellsOf 9 = 1 := by kernel_rfl

theorem cells_wordsK {H : Type} {enc : TypeId × Value → H} {W : World} {base : Nat} {spare : Nat → Bool} {held : Bool} {fuel : Nat} {cs : Array Value} {p : List MemPlace}
    (h : DataW.trod enc Tryz.prog W base spare held fuel 127 cs.toList = some (.agg (wordsK.map fun l => .lit (.string l)), p)) : cs = wordCellsK := by
  obtain ⟨xs, m, _, hx, hlen, hn, hel⟩ := DataW.trod_array Tryz.underlying127 h
  rw [cWordsK] at hlen
  simp only [Prod.mk.injEq, DataW.agg.injEq] at hx
  have hl : cs.size = 20 := by simpa using hlen
  apply Array.ext
  · rw [hl]; rfl
  · intro i h1 h2
    have hi : i < 20 := by omega
    have he := hel i hi
    rw [cStrK, Nat.mul_one] at he
    have hxi : i < xs.length := by omega
    rw [List.getElem?_eq_getElem hxi] at he
    obtain ⟨s, e1, e2, _⟩ := DataW.trod_string Tryz.underlying9 he
    have hc : cs[i] = .string s := by
      have : (cs.toList.drop i).take 1 = [cs[i]] := by
        rw [List.drop_eq_getElem_cons (by simpa using h1)]
        simp
      rw [this] at e1
      simpa using e1
    have hw : (wordsK.map fun l => (DataW.lit (.string l) : DataW H))[i]? = some (.lit (.string s.data.toList)) := by
      rw [hx.1, List.getElem?_map, List.getElem?_eq_getElem hxi, e2]
      rfl
    rw [List.getElem?_map] at hw
    have hiw : i < wordsK.length := hi
    rw [List.getElem?_eq_getElem hiw] at hw
    simp at hw
    rw [hc]
    simp [wordCellsK, hw]

theorem tabK_of_laid {W : World} (h : laidMetH Tryz.prog Rows.fnShutRow.laid W) : TabK W := by
  rw [MakeChecks.laidMetH_plain _ _ _ (by kernel_rfl)] at h
  have h1 : laidMet Tryz.prog (_ :: _ :: _ :: _ :: (wordsNameK, Rows.laid_loop_example_g00370_impl_codeWords) :: Rows.fnShutRow.laid.drop 5) W := h
  obtain ⟨ps, ⟨g0, t0, cs0, f0, p0, q0, hg0, ht0, hv0, hd0, _, _⟩, _, _⟩ := h1.tail.tail.tail.tail
  obtain rfl := Option.some.inj (gWordsK.symm.trans hg0)
  obtain rfl := Option.some.inj (tWordsK.symm.trans ht0)
  obtain ⟨t, fr, e⟩ := var_heap hg0 hv0
  rw [cells_wordsK hd0] at e
  exact ⟨t, fr, e⟩
/-- both tables -/
theorem tabsK_of_laid {W : World} (h : laidMetH Tryz.prog Rows.fnShutRow.laid W) : PowTabW W ∧ TabK W := ⟨powTabW_of_laid h, tabK_of_laid h⟩

end Go.Proofs.YthfoabcmgiiadaaGreatDoor
