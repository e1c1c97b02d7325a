/- The tables of words and of signs, out of the rows' conditions on their variables. -/
import Derived.Test.YtckdacbopejdmaaDoorWordWalk
import Derived.Test.YtckdacbopejdmaaDoorCFrame
namespace Go.Proofs.YtckdacbopejdmaaDoor
open Go.ChangeShapes Go.WideShapes Go.ChangeAt Go.RowKit

def srcWordsName : String := (Rows.fnExactTokenTextRow.laid.map (·.1)).getD 0 ""
def srcSignsName : String := (Rows.fnExactTokenTextRow.laid.map (·.1)).getD 1 ""
theorem gSrcWords : Tryd.prog.globalNamed srcWordsName = some 0 := by kernel_rfl
theorem tSrcWords : (Tryd.prog.globals[0]?).map (·.type) = some 80 := by kernel_rfl
theorem cSrcWords : Tryd.prog.cellsOf 80 = 12 := by kernel_rfl
theorem gSrcSigns : Tryd.prog.globalNamed srcSignsName = some 1 := by kernel_rfl
theorem tSrcSigns : (Tryd.prog.globals[1]?).map (·.type) = some 101 := by kernel_rfl
theorem cSrcSigns : Tryd.prog.cellsOf 101 = 17 := by kernel_rfl
theorem cSrcStr : Tryd.prog.cellsOf 9 = 1 := by kernel_rfl

theorem cells_strs {H : Type} {enc : TypeId × Value → H} {W : World} {base : Nat} {spare : Nat → Bool} {held : Bool} {m n : Nat} {cs : Array Value} {xs : List (DataW H × List MemPlace)} {ws : List (List UInt8)} (hl : cs.size = n) (hn : xs.length = n) (hw : ws.length = n)
    (hx : xs.map (·.1) = ws.map fun l => (DataW.lit (.string l) : DataW H))
    (hel : ∀ i, i < n → DataW.trod enc Tryd.prog W base spare held m 9 ((cs.toList.drop (i * Tryd.prog.cellsOf 9)).take (Tryd.prog.cellsOf 9)) = xs[i]?) : cs = strCells ws := by
  apply Array.ext
  · rw [hl]; simp [strCells, hw]
  · intro i h1 h2
    have hi : i < n := by omega
    have he := hel i hi
    rw [cSrcStr, Nat.mul_one] at he
    have hxi : i < xs.length := by omega
    rw [List.getElem?_eq_getElem hxi] at he
    obtain ⟨s, e1, e2, _⟩ := DataW.trod_string Tryd.underlying9 he
    have hc : cs[i] = .string s := by
      have : (cs.toList.drop i).take 1 = [cs[i]] := by
        rw [List.drop_eq_getElem_cons (by simpa using h1)]
        simp
      rw [this] at e1
      simpa using e1
    have hw' : (ws.map fun l => (DataW.lit (.string l) : DataW H))[i]? = some (.lit (.string s.data.toList)) := by
      rw [← hx, List.getElem?_map, List.getElem?_eq_getElem hxi, e2]
      rfl
    rw [List.getElem?_map] at hw'
    have hiw : i < ws.length := by omega
    rw [List.getElem?_eq_getElem hiw] at hw'
    simp at hw'
    rw [hc]
    simp [strCells, hw']

theorem tab_words_of {W : World} {g t : Nat} {cs : Array Value} {f : Nat} {p : List MemPlace} {spare : Nat → Bool} {held : Bool} {base : Nat} (hg : Tryd.prog.globalNamed srcWordsName = some g) (ht : (Tryd.prog.globals[g]?).map (·.type) = some t) (hv : W.var? Tryd.prog srcWordsName = some cs)
    {H : Type} {enc : TypeId × Value → H} (hd : DataW.trod enc Tryd.prog W base spare held f t cs.toList = some (.agg (srcWords.map fun l => .lit (.string l)), p)) : TabAt W 0 srcWords := by
  obtain rfl := Option.some.inj (gSrcWords.symm.trans hg)
  obtain rfl := Option.some.inj (tSrcWords.symm.trans ht)
  obtain ⟨tt, fr, e⟩ := var_heap hg hv
  obtain ⟨xs, m, _, hx, hlen, hn, hel⟩ := DataW.trod_array Tryd.underlying80 hd
  rw [cSrcWords] at hlen
  simp only [Prod.mk.injEq, DataW.agg.injEq] at hx
  rw [cells_strs (n := 12) (by simpa using hlen) hn rfl hx.1.symm hel] at e
  exact ⟨tt, fr, e⟩
theorem tab_signs_of {W : World} {g t : Nat} {cs : Array Value} {f : Nat} {p : List MemPlace} {spare : Nat → Bool} {held : Bool} {base : Nat} (hg : Tryd.prog.globalNamed srcSignsName = some g) (ht : (Tryd.prog.globals[g]?).map (·.type) = some t) (hv : W.var? Tryd.prog srcSignsName = some cs)
    {H : Type} {enc : TypeId × Value → H} (hd : DataW.trod enc Tryd.prog W base spare held f t cs.toList = some (.agg (srcSigns.map fun l => .lit (.string l)), p)) : TabAt W 1 srcSigns := by
  obtain rfl := Option.some.inj (gSrcSigns.symm.trans hg)
  obtain rfl := Option.some.inj (tSrcSigns.symm.trans ht)
  obtain ⟨tt, fr, e⟩ := var_heap hg hv
  obtain ⟨xs, m, _, hx, hlen, hn, hel⟩ := DataW.trod_array Tryd.underlying101 hd
  rw [cSrcSigns] at hlen
  simp only [Prod.mk.injEq, DataW.agg.injEq] at hx
  rw [cells_strs (n := 17) (by simpa using hlen) hn rfl hx.1.symm hel] at e
  exact ⟨tt, fr, e⟩

theorem tabWords_of_laid {W : World} (h : laidMetH Tryd.prog Rows.fnExactWordOKRow.laid W) : TabAt W 0 srcWords := by
  rw [MakeChecks.laidMetH_plain _ _ _ (by kernel_rfl)] at h
  obtain ⟨ps, ⟨g0, t0, cs0, f0, p0, q0, hg0, ht0, hv0, hd0, _, _⟩, _, _⟩ := h
  exact tab_words_of hg0 ht0 hv0 hd0
theorem tabs_of_laid {W : World} (h : laidMetH Tryd.prog Rows.fnExactTokenTextRow.laid W) : Tabs W := by
  rw [MakeChecks.laidMetH_plain _ _ _ (by kernel_rfl)] at h
  obtain ⟨ps, ⟨g0, t0, cs0, f0, p0, q0, hg0, ht0, hv0, hd0, ⟨g1, t1, cs1, f1, p1, q1, hg1, ht1, hv1, hd1, _, _⟩, _⟩, _, _⟩ := h
  exact ⟨tab_words_of hg0 ht0 hv0 hd0, tab_signs_of hg1 ht1 hv1 hd1⟩

end Go.Proofs.YtckdacbopejdmaaDoor
