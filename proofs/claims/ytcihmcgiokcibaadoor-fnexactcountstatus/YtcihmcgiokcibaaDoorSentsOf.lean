/- What was sent, handed in, lies in cells. -/
import Derived.Test.YtcihmcgiokcibaaDoorCFrame
import Derived.Test.YtcihmcgiokcibaaDoorSentMem
import Derived.Deep.Slices
namespace Go.Proofs.YtcihmcgiokcibaaDoor
open Go.ChangeShapes Go.WideShapes Go.RowKit
set_option linter.unusedVariables false

theorem ssize : Tryd.prog.cellsOf 32 = 3 := by kernel_rfl
theorem ssize3 : Tryd.prog.cellsOf 3 = 1 := by kernel_rfl
theorem ssize4 : Tryd.prog.cellsOf 4 = 1 := by kernel_rfl
theorem ssize9 : Tryd.prog.cellsOf 9 = 1 := by kernel_rfl
theorem sfldEx : ∃ fs : Array Field, Tryd.prog.underlying 32 = some (.struct fs) ∧ fs.map (fun f => (f.type, f.offset)) = #[(3, 0), (9, 1), (4, 2)] := ⟨_, Tryd.underlying32, by simp⟩
theorem sfldAt {fld : Array Field} (i t o : Nat) (h : (fld.map (fun f => (f.type, f.offset)))[i]? = some (t, o)) : ∃ f : Field, fld[i]? = some f ∧ f.type = t ∧ f.offset = o := by
  rw [Array.getElem?_map] at h
  obtain ⟨f, h1, h2⟩ := Option.map_eq_some_iff.1 h
  simp at h2
  exact ⟨f, h1, h2.1, h2.2⟩
set_option maxRecDepth 100000 in
theorem sents_of_trod {H : Type} {enc : TypeId × Value → H} {W : World} {base : Nat} {spare : Nat → Bool} {held : Bool} {fuel : Nat} {a : Option Addr} {len cap : Nat} {x : DataW H × List MemPlace}
    (h : DataW.trod enc Tryd.prog W base spare held fuel 22 [.slice a len cap] = some x) :
    ∃ vs : List SV, vs.length = len ∧ SentsAt W a vs ∧ len ≤ maxLen ∧ ∀ v ∈ vs, v.t.size ≤ maxLen := by
  obtain ⟨fld, fldIs, fldAll⟩ := sfldEx
  rcases Deep.open_slice Tryd.underlying22 h with ⟨hcs, _⟩ | ⟨a', len', cap', m, n, D, Pl, hcs, hb, hl, hm, hmm, _, hx⟩
  · simp at hcs
    obtain ⟨rfl, rfl, rfl⟩ := hcs
    exact ⟨[], rfl, fun i hi => absurd hi (by simp), Nat.zero_le _, fun v hv => by simp at hv⟩
  simp at hcs
  obtain ⟨rfl, rfl, rfl⟩ := hcs
  have hlm : len ≤ m := by rw [hmm]; split <;> omega
  have each : ∀ i, i < len → ∃ v : SV, v.t.size ≤ maxLen ∧ W.cell? (a'.add (i * 3)) = some (.int .i64 v.c) ∧ W.cell? (a'.add (i * 3 + 1)) = some (.string v.t) ∧ W.cell? (a'.add (i * 3 + 2)) = some (.bool v.s) := by
    intro i hi
    obtain ⟨cs', h1, h2⟩ := hx i (by omega)
    rw [ssize] at h1
    obtain ⟨_, hlen, hcell⟩ := World.cells?_some h1
    obtain ⟨xs, k, hk, hxy, _, hxl, hf⟩ := DataW.trod_struct fldIs h2
    have hxl3 : xs.length = 3 := by rw [hxl, show fld.size = (fld.map (fun f => (f.type, f.offset))).size by simp, fldAll]; rfl
    match xs, hxl3, cs', hlen with
    | [y0, y1, y2], _, [v0, v1, v2], _ =>
      obtain ⟨f0, hf0, hf0t, hf0o⟩ : ∃ f : Field, fld[0]? = some f ∧ f.type = 3 ∧ f.offset = 0 := sfldAt 0 3 0 (by rw [fldAll]; rfl)
      obtain ⟨f1, hf1, hf1t, hf1o⟩ : ∃ f : Field, fld[1]? = some f ∧ f.type = 9 ∧ f.offset = 1 := sfldAt 1 9 1 (by rw [fldAll]; rfl)
      obtain ⟨f2, hf2, hf2t, hf2o⟩ : ∃ f : Field, fld[2]? = some f ∧ f.type = 4 ∧ f.offset = 2 := sfldAt 2 4 2 (by rw [fldAll]; rfl)
      have g0 := hf 0 f0 hf0
      have g1 := hf 1 f1 hf1
      have g2 := hf 2 f2 hf2
      simp [hf0t, hf0o, hf1t, hf1o, hf2t, hf2o, ssize3, ssize4, ssize9] at g0 g1 g2
      obtain ⟨z0, e0, _, _⟩ := DataW.trod_int Tryd.underlying3 g0
      obtain ⟨s1, e1, _, ws⟩ := DataW.trod_string Tryd.underlying9 g1
      obtain ⟨b2, e2, _⟩ := DataW.trod_bool Tryd.underlying4 g2
      simp at e0 e1 e2
      subst e0 e1 e2
      have c0 := hcell 0 (by omega)
      have c1 := hcell 1 (by omega)
      have c2 := hcell 2 (by omega)
      rw [Deep.add_add] at c0 c1 c2
      exact ⟨⟨z0, s1, b2⟩, ws, by simpa using c0, by simpa using c1, by simpa using c2⟩
  obtain ⟨q, hq⟩ := @Deep.choose_lt SV ⟨⟨0, ⟨#[]⟩, false⟩⟩ _ _ each
  refine ⟨(List.range len).map q, by simp, fun i hi => ?_, by omega, fun v hv => ?_⟩
  · have hi' : i < len := by simpa using hi
    obtain ⟨_, c0, c1, c2⟩ := hq i hi'
    obtain ⟨b, off, spot⟩ := a'
    have hspot : spot = none := by
      obtain ⟨_, d0, _, _⟩ := hq 0 (by omega)
      simpa [Addr.add] using World.cell?_spot d0
    subst hspot
    rw [Addr.add_lit] at c0 c1 c2
    refine ⟨b, off, rfl, World.block_lt_of_cell? _ _ c0, ?_, ?_, ?_⟩
    · simpa using c0
    · simpa [Nat.add_assoc] using c1
    · simpa [Nat.add_assoc] using c2
  · simp at hv
    obtain ⟨i, hi, rfl⟩ := hv
    exact (hq i hi).1

end Go.Proofs.YtcihmcgiokcibaaDoor
