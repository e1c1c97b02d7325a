/- A tree that came in: its nodes, their names and kids in cells. -/
import Derived.Test.YtoehpjignngjlaaDoorCFrame
import Derived.Test.YtoehpjignngjlaaDoorTreeMem
import Derived.Deep.Slices
import Derived.Test.YtoehpjignngjlaaDoorWordWalk
namespace Go.Proofs.YtoehpjignngjlaaDoor
open Go.ChangeShapes Go.WideShapes Go.RowKit
set_option linter.unusedVariables false

theorem csize3 : Tryd.prog.cellsOf 3 = 1 := by kernel_rfl
theorem csize9 : Tryd.prog.cellsOf 9 = 1 := by kernel_rfl
theorem csizeS : Tryd.prog.cellsOf 39 = 1 := by kernel_rfl
theorem csizeI : Tryd.prog.cellsOf 40 = 1 := by kernel_rfl
theorem csizeN : Tryd.prog.cellsOf 64 = 5 := by kernel_rfl
set_option maxRecDepth 100000 in
theorem nfldEx : ∃ fs : Array Field, Tryd.prog.underlying 64 = some (.struct fs) ∧ fs.map (fun f => (f.type, f.offset)) = #[(3, 0), (3, 1), (9, 2), (39, 3), (40, 4)] := ⟨_, Tryd.underlying64, by simp⟩
theorem nfldAt {fld : Array Field} (i t o : Nat) (h : (fld.map (fun f => (f.type, f.offset)))[i]? = some (t, o)) : ∃ f : Field, fld[i]? = some f ∧ f.type = t ∧ f.offset = o := by
  rw [Array.getElem?_map] at h
  obtain ⟨f, h1, h2⟩ := Option.map_eq_some_iff.1 h
  simp at h2
  exact ⟨f, h1, h2.1, h2.2⟩

theorem spot_none {W : World} {a : Addr} {v : Value} (h : W.cell? (a.add 0) = some v) : a.spot = none := by
  simpa [Addr.add] using World.cell?_spot h

set_option maxRecDepth 100000 in
theorem strs_of_trod {H : Type} {enc : TypeId × Value → H} {W : World} {base : Nat} {spare : Nat → Bool} {held : Bool} {fuel : Nat} {v : Value} {x : DataW H × List MemPlace}
    (h : DataW.trod enc Tryd.prog W base spare held fuel 39 [v] = some x) : ∃ (a : Option Addr) (ss : List ByteArray) (cap : Nat), v = .slice a ss.length cap ∧ StrsAt W a ss ∧ ss.length ≤ maxLen ∧ ∀ s ∈ ss, s.size ≤ maxLen := by
  rcases Deep.open_slice Tryd.underlying39 h with ⟨hcs, _⟩ | ⟨a', len', cap', m, n, D, Pl, hcs, hb, hl, hm, hmm, _, hx⟩
  · simp at hcs
    subst hcs
    exact ⟨none, [], 0, rfl, fun i hi => absurd hi (by simp), Nat.zero_le _, fun v hv => by simp at hv⟩
  simp at hcs
  subst hcs
  have hlm : len' ≤ m := by rw [hmm]; split <;> omega
  have each : ∀ i, i < len' → ∃ s : ByteArray, s.size ≤ maxLen ∧ W.cell? (a'.add i) = some (.string s) := by
    intro i hi
    obtain ⟨cs', h1, h2⟩ := hx i (by omega)
    rw [csize9, Nat.mul_one] at h1
    obtain ⟨_, hlen, hcell⟩ := World.cells?_some h1
    match cs', hlen with
    | [v0], _ =>
      obtain ⟨s, e, _, ws⟩ := DataW.trod_string Tryd.underlying9 h2
      simp at e
      subst e
      have c0 := hcell 0 (by omega)
      rw [Deep.add_add] at c0
      exact ⟨s, ws, by simpa using c0⟩
  obtain ⟨q, hq⟩ := @Deep.choose_lt ByteArray ⟨⟨#[]⟩⟩ _ _ each
  refine ⟨some a', (List.range len').map q, cap', by simp, fun i hi => ?_, by simp; omega, fun s hs => ?_⟩
  · have hi' : i < len' := by simpa using hi
    obtain ⟨_, c0⟩ := hq i hi'
    obtain ⟨b, off, spot⟩ := a'
    have hspot : spot = none := spot_none (hq 0 (by omega)).2
    subst hspot
    rw [Addr.add_lit] at c0
    exact ⟨b, off, rfl, by simpa using c0⟩
  · simp at hs
    obtain ⟨i, hi, rfl⟩ := hs
    exact (hq i hi).1

set_option maxRecDepth 100000 in
theorem ints_of_trod {H : Type} {enc : TypeId × Value → H} {W : World} {base : Nat} {spare : Nat → Bool} {held : Bool} {fuel : Nat} {v : Value} {x : DataW H × List MemPlace}
    (h : DataW.trod enc Tryd.prog W base spare held fuel 40 [v] = some x) : ∃ (a : Option Addr) (zs : List Int) (cap : Nat), v = .slice a zs.length cap ∧ IntsAt W a zs ∧ zs.length ≤ maxLen := by
  rcases Deep.open_slice Tryd.underlying40 h with ⟨hcs, _⟩ | ⟨a', len', cap', m, n, D, Pl, hcs, hb, hl, hm, hmm, _, hx⟩
  · simp at hcs
    subst hcs
    exact ⟨none, [], 0, rfl, fun i hi => absurd hi (by simp), Nat.zero_le _⟩
  simp at hcs
  subst hcs
  have hlm : len' ≤ m := by rw [hmm]; split <;> omega
  have each : ∀ i, i < len' → ∃ z : Int, W.cell? (a'.add i) = some (.int .i64 z) := by
    intro i hi
    obtain ⟨cs', h1, h2⟩ := hx i (by omega)
    rw [csize3, Nat.mul_one] at h1
    obtain ⟨_, hlen, hcell⟩ := World.cells?_some h1
    match cs', hlen with
    | [v0], _ =>
      obtain ⟨z, e, _, _⟩ := DataW.trod_int Tryd.underlying3 h2
      simp at e
      subst e
      have c0 := hcell 0 (by omega)
      rw [Deep.add_add] at c0
      exact ⟨z, by simpa using c0⟩
  obtain ⟨q, hq⟩ := @Deep.choose_lt Int ⟨0⟩ _ _ each
  refine ⟨some a', (List.range len').map q, cap', by simp, fun i hi => ?_, by simp; omega⟩
  have hi' : i < len' := by simpa using hi
  have c0 := hq i hi'
  obtain ⟨b, off, spot⟩ := a'
  have hspot : spot = none := spot_none (hq 0 (by omega))
  subst hspot
  rw [Addr.add_lit] at c0
  exact ⟨b, off, rfl, by simpa using c0⟩

/-- a node with where its names and kids lie -/
structure NL where
  x : TN
  pn : Option Addr
  cn : Nat
  pk : Option Addr
  ck : Nat

set_option maxRecDepth 100000 in
set_option maxHeartbeats 1000000 in
theorem nodes_of_trod {H : Type} {enc : TypeId × Value → H} {W : World} {base : Nat} {spare : Nat → Bool} {held : Bool} {fuel : Nat} {a : Option Addr} {len cap : Nat} {x : DataW H × List MemPlace}
    (h : DataW.trod enc Tryd.prog W base spare held fuel 22 [.slice a len cap] = some x) :
    ∃ (ns : List TN) (L : Lay), L.p = a ∧ L.cap = cap ∧ ns.length = len ∧ NodesAt W L ns ∧ Wide ns := by
  obtain ⟨fld, fldIs, fldAll⟩ := nfldEx
  rcases Deep.open_slice Tryd.underlying22 h with ⟨hcs, _⟩ | ⟨a', len', cap', m, n, D, Pl, hcs, hb, hl, hm, hmm, _, hx⟩
  · simp at hcs
    obtain ⟨rfl, rfl, rfl⟩ := hcs
    exact ⟨[], ⟨none, 0, fun _ => none, fun _ => 0, fun _ => none, fun _ => 0⟩, rfl, rfl, rfl, fun i hi => absurd hi (by simp), Nat.zero_le _, fun v hv => by simp at hv⟩
  simp at hcs
  obtain ⟨rfl, rfl, rfl⟩ := hcs
  have hlm : len ≤ m := by rw [hmm]; split <;> omega
  have each : ∀ i, i < len → ∃ y : NL, (y.x.t.size ≤ maxLen ∧ y.x.names.length ≤ maxLen ∧ y.x.kids.length ≤ maxLen ∧ ∀ s ∈ y.x.names, s.size ≤ maxLen) ∧ W.cell? (a'.add (i * 5)) = some (.int .i64 y.x.k) ∧ W.cell? (a'.add (i * 5 + 1)) = some (.int .i64 y.x.n) ∧ W.cell? (a'.add (i * 5 + 2)) = some (.string y.x.t) ∧ W.cell? (a'.add (i * 5 + 3)) = some (.slice y.pn y.x.names.length y.cn) ∧ W.cell? (a'.add (i * 5 + 4)) = some (.slice y.pk y.x.kids.length y.ck) ∧ StrsAt W y.pn y.x.names ∧ IntsAt W y.pk y.x.kids := by
    intro i hi
    obtain ⟨cs', h1, h2⟩ := hx i (by omega)
    rw [csizeN] at h1
    obtain ⟨_, hlen, hcell⟩ := World.cells?_some h1
    obtain ⟨xs, k, hk, hxy, _, hxl, hf⟩ := DataW.trod_struct fldIs h2
    have hxl5 : xs.length = 5 := by rw [hxl, show fld.size = (fld.map (fun f => (f.type, f.offset))).size by simp, fldAll]; rfl
    match xs, hxl5, cs', hlen with
    | [y0, y1, y2, y3, y4], _, [v0, v1, v2, v3, v4], _ =>
      obtain ⟨f0, hf0, hf0t, hf0o⟩ : ∃ f : Field, fld[0]? = some f ∧ f.type = 3 ∧ f.offset = 0 := nfldAt 0 3 0 (by rw [fldAll]; rfl)
      obtain ⟨f1, hf1, hf1t, hf1o⟩ : ∃ f : Field, fld[1]? = some f ∧ f.type = 3 ∧ f.offset = 1 := nfldAt 1 3 1 (by rw [fldAll]; rfl)
      obtain ⟨f2, hf2, hf2t, hf2o⟩ : ∃ f : Field, fld[2]? = some f ∧ f.type = 9 ∧ f.offset = 2 := nfldAt 2 9 2 (by rw [fldAll]; rfl)
      obtain ⟨f3, hf3, hf3t, hf3o⟩ : ∃ f : Field, fld[3]? = some f ∧ f.type = 39 ∧ f.offset = 3 := nfldAt 3 39 3 (by rw [fldAll]; rfl)
      obtain ⟨f4, hf4, hf4t, hf4o⟩ : ∃ f : Field, fld[4]? = some f ∧ f.type = 40 ∧ f.offset = 4 := nfldAt 4 40 4 (by rw [fldAll]; rfl)
      have g0 := hf 0 f0 hf0
      have g1 := hf 1 f1 hf1
      have g2 := hf 2 f2 hf2
      have g3 := hf 3 f3 hf3
      have g4 := hf 4 f4 hf4
      simp [hf0t, hf0o, hf1t, hf1o, hf2t, hf2o, hf3t, hf3o, hf4t, hf4o, csize3, csize9, csizeS, csizeI] at g0 g1 g2 g3 g4
      obtain ⟨z0, e0, _, _⟩ := DataW.trod_int Tryd.underlying3 g0
      obtain ⟨z1, e1, _, _⟩ := DataW.trod_int Tryd.underlying3 g1
      obtain ⟨s2, e2, _, ws⟩ := DataW.trod_string Tryd.underlying9 g2
      obtain ⟨pn, ss, cn, e3, hss, hsl, hsz⟩ := strs_of_trod g3
      obtain ⟨pk, zs, ck, e4, hzs, hzl⟩ := ints_of_trod g4
      simp at e0 e1 e2
      subst e0 e1 e2 e3 e4
      have c0 := hcell 0 (by omega)
      have c1 := hcell 1 (by omega)
      have c2 := hcell 2 (by omega)
      have c3 := hcell 3 (by omega)
      have c4 := hcell 4 (by omega)
      rw [Deep.add_add] at c0 c1 c2 c3 c4
      exact ⟨⟨⟨z0, z1, s2, ss, zs⟩, pn, cn, pk, ck⟩, ⟨ws, hsl, hzl, hsz⟩, by simpa using c0, by simpa using c1, by simpa using c2, by simpa using c3, by simpa using c4, hss, hzs⟩
  obtain ⟨q, hq⟩ := @Deep.choose_lt NL ⟨⟨⟨0, 0, ⟨#[]⟩, [], []⟩, none, 0, none, 0⟩⟩ _ _ each
  refine ⟨(List.range len).map (fun i => (q i).x), ⟨some a', cap, fun i => (q i).pn, fun i => (q i).cn, fun i => (q i).pk, fun i => (q i).ck⟩, rfl, rfl, by simp, fun i hi => ?_, by simp; omega, fun v hv => ?_⟩
  · have hi' : i < len := by simpa using hi
    obtain ⟨_, c0, c1, c2, c3, c4, hs, hz⟩ := hq i hi'
    obtain ⟨b, off, spot⟩ := a'
    have hspot : spot = none := by
      have := (hq 0 (by omega)).2.1
      rw [Nat.zero_mul] at this
      exact spot_none this
    subst hspot
    rw [Addr.add_lit] at c0 c1 c2 c3 c4
    have e : ((List.range len).map (fun i => (q i).x))[i] = (q i).x := by simp
    rw [e]
    refine ⟨b, off, rfl, by simpa using c0, ?_, ?_, ?_, ?_, hs, hz⟩
    · simpa [Nat.add_assoc] using c1
    · simpa [Nat.add_assoc] using c2
    · simpa [Nat.add_assoc] using c3
    · simpa [Nat.add_assoc] using c4
  · simp at hv
    obtain ⟨i, hi, rfl⟩ := hv
    exact (hq i hi).1
open Go.ChangeShapes Go.WideShapes Go.ChangeAt Go.RowKit

def srcWordsName : String := (Rows.fnExactUsesOfRow.laid.map (·.1)).getD 0 ""
theorem gSrcWords : Tryd.prog.globalNamed srcWordsName = some 1 := by kernel_rfl
theorem tSrcWords : (Tryd.prog.globals[1]?).map (·.type) = some 127 := by kernel_rfl
theorem cSrcWords : Tryd.prog.cellsOf 127 = 12 := by kernel_rfl
theorem cSrcStr : Tryd.prog.cellsOf 9 = 1 := by kernel_rfl

theorem cells_strs {H : Type} {enc : TypeId × Value → H} {W : World} {base : Nat} {spare : Nat → Bool} {held : Bool} {m n : Nat} {cs : Array Value} {xs : List (DataW H × List MemPlace)} {ws : List (List UInt8)} (hl : cs.size = n) (hn : xs.length = n) (hw : ws.length = n)
    (hx : xs.map (·.1) = ws.map fun l => (DataW.lit (.string l) : DataW H))
    (hel : ∀ i, i < n → DataW.trod enc Tryd.prog W base spare held m 9 ((cs.toList.drop (i * Tryd.prog.cellsOf 9)).take (Tryd.prog.cellsOf 9)) = xs[i]?) : cs = strCells ws := by
  apply Array.ext
  · rw [hl]; simp [strCells, hw]
  · intro i h1 h2
    have hi : i < n := by omega
    have he := hel i hi
    rw [cSrcStr, Nat.mul_one] at he
    have hxi : i < xs.length := by omega
    rw [List.getElem?_eq_getElem hxi] at he
    obtain ⟨s, e1, e2, _⟩ := DataW.trod_string Tryd.underlying9 he
    have hc : cs[i] = .string s := by
      have : (cs.toList.drop i).take 1 = [cs[i]] := by
        rw [List.drop_eq_getElem_cons (by simpa using h1)]
        simp
      rw [this] at e1
      simpa using e1
    have hw' : (ws.map fun l => (DataW.lit (.string l) : DataW H))[i]? = some (.lit (.string s.data.toList)) := by
      rw [← hx, List.getElem?_map, List.getElem?_eq_getElem hxi, e2]
      rfl
    rw [List.getElem?_map] at hw'
    have hiw : i < ws.length := by omega
    rw [List.getElem?_eq_getElem hiw] at hw'
    simp at hw'
    rw [hc]
    simp [strCells, hw']

theorem tab_words_of {W : World} {g t : Nat} {cs : Array Value} {f : Nat} {p : List MemPlace} {spare : Nat → Bool} {held : Bool} {base : Nat} (hg : Tryd.prog.globalNamed srcWordsName = some g) (ht : (Tryd.prog.globals[g]?).map (·.type) = some t) (hv : W.var? Tryd.prog srcWordsName = some cs)
    {H : Type} {enc : TypeId × Value → H} (hd : DataW.trod enc Tryd.prog W base spare held f t cs.toList = some (.agg (srcWords.map fun l => .lit (.string l)), p)) : TabAt W 1 srcWords := by
  obtain rfl := Option.some.inj (gSrcWords.symm.trans hg)
  obtain rfl := Option.some.inj (tSrcWords.symm.trans ht)
  obtain ⟨tt, fr, e⟩ := var_heap hg hv
  obtain ⟨xs, m, _, hx, hlen, hn, hel⟩ := DataW.trod_array Tryd.underlying127 hd
  rw [cSrcWords] at hlen
  simp only [Prod.mk.injEq, DataW.agg.injEq] at hx
  rw [cells_strs (n := 12) (by simpa using hlen) hn rfl hx.1.symm hel] at e
  exact ⟨tt, fr, e⟩

theorem tabWords_of_laid {W : World} (h : laidMetH Tryd.prog Rows.fnExactUsesOfRow.laid W) : TabAt W 1 srcWords := by
  rw [MakeChecks.laidMetH_plain _ _ _ (by kernel_rfl)] at h
  obtain ⟨ps, ⟨g0, t0, cs0, f0, p0, q0, hg0, ht0, hv0, hd0, _, _⟩, _, _⟩ := h
  exact tab_words_of hg0 ht0 hv0 hd0

end Go.Proofs.YtoehpjignngjlaaDoor
