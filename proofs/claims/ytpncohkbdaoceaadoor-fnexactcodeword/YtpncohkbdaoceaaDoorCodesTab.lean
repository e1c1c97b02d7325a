/- The table of words, out of the rows' condition on its variable. -/
import Derived.Test.YtpncohkbdaoceaaDoorCodesWalk
import Derived.Test.YtpncohkbdaoceaaDoorCFrame
namespace Go.Proofs.YtpncohkbdaoceaaDoor
open Go.ChangeShapes Go.WideShapes Go.ChangeAt Go.RowKit

def wordsName : String := (Rows.fnExactCodeWordRow.laid.map (·.1)).getD 0 ""
theorem gWords : Tryd.prog.globalNamed wordsName = some 0 := by kernel_rfl
theorem tWords : (Tryd.prog.globals[0]?).map (·.type) = some 62 := by kernel_rfl
theorem cWords : Tryd.prog.cellsOf 62 = 20 := by kernel_rfl
theorem cStr : Tryd.prog.cellsOf 9 = 1 := by kernel_rfl

theorem cells_words {H : Type} {enc : TypeId × Value → H} {W : World} {base : Nat} {spare : Nat → Bool} {held : Bool} {fuel : Nat} {cs : Array Value} {p : List MemPlace}
    (h : DataW.trod enc Tryd.prog W base spare held fuel 62 cs.toList = some (.agg (words.map fun l => .lit (.string l)), p)) : cs = wordCells := by
  obtain ⟨xs, m, _, hx, hlen, hn, hel⟩ := DataW.trod_array Tryd.underlying62 h
  rw [cWords] at hlen
  simp only [Prod.mk.injEq, DataW.agg.injEq] at hx
  have hl : cs.size = 20 := by simpa using hlen
  apply Array.ext
  · rw [hl]; rfl
  · intro i h1 h2
    have hi : i < 20 := by omega
    have he := hel i hi
    rw [cStr, Nat.mul_one] at he
    have hxi : i < xs.length := by omega
    rw [List.getElem?_eq_getElem hxi] at he
    obtain ⟨s, e1, e2, _⟩ := DataW.trod_string Tryd.underlying9 he
    have hc : cs[i] = .string s := by
      have : (cs.toList.drop i).take 1 = [cs[i]] := by
        rw [List.drop_eq_getElem_cons (by simpa using h1)]
        simp
      rw [this] at e1
      simpa using e1
    have hw : (words.map fun l => (DataW.lit (.string l) : DataW H))[i]? = some (.lit (.string s.data.toList)) := by
      rw [hx.1, List.getElem?_map, List.getElem?_eq_getElem hxi, e2]
      rfl
    rw [List.getElem?_map] at hw
    have hiw : i < words.length := hi
    rw [List.getElem?_eq_getElem hiw] at hw
    simp at hw
    rw [hc]
    simp [wordCells, hw]

theorem tabW_of_laid {W : World} (h : laidMetH Tryd.prog Rows.fnExactCodeWordRow.laid W) : TabW W := by
  rw [MakeChecks.laidMetH_plain _ _ _ (by kernel_rfl)] at h
  obtain ⟨ps, ⟨g0, t0, cs0, f0, p0, q0, hg0, ht0, hv0, hd0, _, _⟩, _, _⟩ := h
  obtain rfl := Option.some.inj (gWords.symm.trans hg0)
  obtain rfl := Option.some.inj (tWords.symm.trans ht0)
  obtain ⟨t, fr, e⟩ := var_heap hg0 hv0
  rw [cells_words hd0] at e
  exact ⟨t, fr, e⟩

end Go.Proofs.YtpncohkbdaoceaaDoor
