/- A machine that came in: its frames, their slots, stacks and tries in cells. -/
import Derived.Test.YtcdjdfmpnfodiaaDoorCFrame
import Derived.Test.YtcdjdfmpnfodiaaDoorMach1
import Derived.Deep.Slices
namespace Go.Proofs.YtcdjdfmpnfodiaaDoor
open Go.ChangeShapes Go.WideShapes Go.RowKit
set_option linter.unusedVariables false

theorem msize3 : Tryd.prog.cellsOf 3 = 1 := by kernel_rfl
theorem msize9 : Tryd.prog.cellsOf 9 = 1 := by kernel_rfl
theorem msizeV : Tryd.prog.cellsOf 24 = 3 := by kernel_rfl
theorem msizeT : Tryd.prog.cellsOf 83 = 2 := by kernel_rfl
theorem msizeF : Tryd.prog.cellsOf 61 = 5 := by kernel_rfl
theorem msizeVS : Tryd.prog.cellsOf 58 = 1 := by kernel_rfl
theorem msizeTS : Tryd.prog.cellsOf 59 = 1 := by kernel_rfl
theorem msizeFS : Tryd.prog.cellsOf 22 = 1 := by kernel_rfl
set_option maxRecDepth 100000 in
theorem mfldV : ∃ fs : Array Field, Tryd.prog.underlying 24 = some (.struct fs) ∧ fs.map (fun f => (f.type, f.offset)) = #[(3, 0), (3, 1), (9, 2)] := ⟨_, Tryd.underlying24, by simp⟩
set_option maxRecDepth 100000 in
theorem mfldT : ∃ fs : Array Field, Tryd.prog.underlying 83 = some (.struct fs) ∧ fs.map (fun f => (f.type, f.offset)) = #[(3, 0), (3, 1)] := ⟨_, Tryd.underlying83, by simp⟩
set_option maxRecDepth 100000 in
theorem mfldF : ∃ fs : Array Field, Tryd.prog.underlying 61 = some (.struct fs) ∧ fs.map (fun f => (f.type, f.offset)) = #[(3, 0), (3, 1), (58, 2), (58, 3), (59, 4)] := ⟨_, Tryd.underlying61, by simp⟩
set_option maxRecDepth 100000 in
theorem mfldM : ∃ fs : Array Field, Tryd.prog.underlying 26 = some (.struct fs) ∧ fs.map (fun f => (f.type, f.offset)) = #[(22, 0), (3, 1), (24, 2), (3, 5)] := ⟨_, Tryd.underlying26, by simp⟩
theorem mfldAt {fld : Array Field} (i t o : Nat) (h : (fld.map (fun f => (f.type, f.offset)))[i]? = some (t, o)) : ∃ f : Field, fld[i]? = some f ∧ f.type = t ∧ f.offset = o := by
  rw [Array.getElem?_map] at h
  obtain ⟨f, h1, h2⟩ := Option.map_eq_some_iff.1 h
  simp at h2
  exact ⟨f, h1, h2.1, h2.2⟩
theorem array6 {α : Type} {cs : Array α} (h : cs.size = 6) : ∃ a b c d e f, cs = #[a, b, c, d, e, f] := by
  obtain ⟨l⟩ := cs
  match l, h with
  | [a, b, c, d, e, f], _ => exact ⟨a, b, c, d, e, f, rfl⟩
theorem mspot {W : World} {a : Addr} {v : Value} (h : W.cell? (a.add 0) = some v) : a.spot = none := by
  simpa [Addr.add] using World.cell?_spot h

theorem value_of_trod {H : Type} {enc : TypeId × Value → H} {W : World} {base : Nat} {spare : Nat → Bool} {held : Bool} {fuel : Nat} {v0 v1 v2 : Value} {x : DataW H × List MemPlace}
    (h : DataW.trod enc Tryd.prog W base spare held fuel 24 [v0, v1, v2] = some x) : ∃ y : MV, v0 = .int .i64 y.k ∧ v1 = .int .i64 y.n ∧ v2 = .string y.t ∧ y.t.size ≤ maxLen := by
  obtain ⟨fld, fldIs, fldAll⟩ := mfldV
  obtain ⟨xs, k, hk, hxy, _, hxl, hf⟩ := DataW.trod_struct fldIs h
  have hxl3 : xs.length = 3 := by rw [hxl, show fld.size = (fld.map (fun f => (f.type, f.offset))).size by simp, fldAll]; rfl
  match xs, hxl3 with
  | [y0, y1, y2], _ =>
    obtain ⟨f0, hf0, hf0t, hf0o⟩ : ∃ f : Field, fld[0]? = some f ∧ f.type = 3 ∧ f.offset = 0 := mfldAt 0 3 0 (by rw [fldAll]; rfl)
    obtain ⟨f1, hf1, hf1t, hf1o⟩ : ∃ f : Field, fld[1]? = some f ∧ f.type = 3 ∧ f.offset = 1 := mfldAt 1 3 1 (by rw [fldAll]; rfl)
    obtain ⟨f2, hf2, hf2t, hf2o⟩ : ∃ f : Field, fld[2]? = some f ∧ f.type = 9 ∧ f.offset = 2 := mfldAt 2 9 2 (by rw [fldAll]; rfl)
    have g0 := hf 0 f0 hf0
    have g1 := hf 1 f1 hf1
    have g2 := hf 2 f2 hf2
    simp [hf0t, hf0o, hf1t, hf1o, hf2t, hf2o, msize3, msize9] at g0 g1 g2
    obtain ⟨z0, e0, _, _⟩ := DataW.trod_int Tryd.underlying3 g0
    obtain ⟨z1, e1, _, _⟩ := DataW.trod_int Tryd.underlying3 g1
    obtain ⟨s2, e2, _, ws⟩ := DataW.trod_string Tryd.underlying9 g2
    simp at e0 e1 e2
    exact ⟨⟨z0, z1, s2⟩, e0, e1, e2, ws⟩

set_option maxRecDepth 100000 in
theorem mvals_of_trod {H : Type} {enc : TypeId × Value → H} {W : World} {base : Nat} {spare : Nat → Bool} {held : Bool} {fuel : Nat} {v : Value} {x : DataW H × List MemPlace}
    (h : DataW.trod enc Tryd.prog W base spare held fuel 58 [v] = some x) :
    ∃ (a : Option Addr) (vs : List MV) (cap : Nat), v = .slice a vs.length cap ∧ MVals W a vs ∧ vs.length ≤ maxLen ∧ ∀ v ∈ vs, v.t.size ≤ maxLen := by
  rcases Deep.open_slice Tryd.underlying58 h with ⟨hcs, _⟩ | ⟨a', len', cap', m, n, D, Pl, hcs, hb, hl, hm, hmm, _, hx⟩
  · simp at hcs
    subst hcs
    exact ⟨none, [], 0, rfl, fun i hi => absurd hi (by simp), Nat.zero_le _, fun v hv => by simp at hv⟩
  simp at hcs
  subst hcs
  have hlm : len' ≤ m := by rw [hmm]; split <;> omega
  have each : ∀ i, i < len' → ∃ v : MV, v.t.size ≤ maxLen ∧ W.cell? (a'.add (i * 3)) = some (.int .i64 v.k) ∧ W.cell? (a'.add (i * 3 + 1)) = some (.int .i64 v.n) ∧ W.cell? (a'.add (i * 3 + 2)) = some (.string v.t) := by
    intro i hi
    obtain ⟨cs', h1, h2⟩ := hx i (by omega)
    rw [msizeV] at h1
    obtain ⟨_, hlen, hcell⟩ := World.cells?_some h1
    match cs', hlen with
    | [v0, v1, v2], _ =>
      obtain ⟨y, rfl, rfl, rfl, ws⟩ := value_of_trod h2
      have c0 := hcell 0 (by omega)
      have c1 := hcell 1 (by omega)
      have c2 := hcell 2 (by omega)
      rw [Deep.add_add] at c0 c1 c2
      exact ⟨y, ws, by simpa using c0, by simpa using c1, by simpa using c2⟩
  obtain ⟨q, hq⟩ := @Deep.choose_lt MV ⟨⟨0, 0, ⟨#[]⟩⟩⟩ _ _ each
  refine ⟨some a', (List.range len').map q, cap', by simp, fun i hi => ?_, by simp; omega, fun v hv => ?_⟩
  · have hi' : i < len' := by simpa using hi
    obtain ⟨_, c0, c1, c2⟩ := hq i hi'
    obtain ⟨b, off, spot⟩ := a'
    have hspot : spot = none := by
      obtain ⟨_, d0, _, _⟩ := hq 0 (by omega)
      rw [Nat.zero_mul] at d0
      exact mspot d0
    subst hspot
    rw [Addr.add_lit] at c0 c1 c2
    refine ⟨b, off, rfl, ?_, ?_, ?_⟩
    · simpa using c0
    · simpa [Nat.add_assoc] using c1
    · simpa [Nat.add_assoc] using c2
  · simp at hv
    obtain ⟨i, hi, rfl⟩ := hv
    exact (hq i hi).1

set_option maxRecDepth 100000 in
theorem mtries_of_trod {H : Type} {enc : TypeId × Value → H} {W : World} {base : Nat} {spare : Nat → Bool} {held : Bool} {fuel : Nat} {v : Value} {x : DataW H × List MemPlace}
    (h : DataW.trod enc Tryd.prog W base spare held fuel 59 [v] = some x) :
    ∃ (a : Option Addr) (vs : List MT) (cap : Nat), v = .slice a vs.length cap ∧ MTries W a vs ∧ vs.length ≤ maxLen := by
  obtain ⟨fld, fldIs, fldAll⟩ := mfldT
  rcases Deep.open_slice Tryd.underlying59 h with ⟨hcs, _⟩ | ⟨a', len', cap', m, n, D, Pl, hcs, hb, hl, hm, hmm, _, hx⟩
  · simp at hcs
    subst hcs
    exact ⟨none, [], 0, rfl, fun i hi => absurd hi (by simp), Nat.zero_le _⟩
  simp at hcs
  subst hcs
  have hlm : len' ≤ m := by rw [hmm]; split <;> omega
  have each : ∀ i, i < len' → ∃ v : MT, W.cell? (a'.add (i * 2)) = some (.int .i64 v.a) ∧ W.cell? (a'.add (i * 2 + 1)) = some (.int .i64 v.h) := by
    intro i hi
    obtain ⟨cs', h1, h2⟩ := hx i (by omega)
    rw [msizeT] at h1
    obtain ⟨_, hlen, hcell⟩ := World.cells?_some h1
    obtain ⟨xs, k, hk, hxy, _, hxl, hf⟩ := DataW.trod_struct fldIs h2
    have hxl2 : xs.length = 2 := by rw [hxl, show fld.size = (fld.map (fun f => (f.type, f.offset))).size by simp, fldAll]; rfl
    match xs, hxl2, cs', hlen with
    | [y0, y1], _, [v0, v1], _ =>
      obtain ⟨f0, hf0, hf0t, hf0o⟩ : ∃ f : Field, fld[0]? = some f ∧ f.type = 3 ∧ f.offset = 0 := mfldAt 0 3 0 (by rw [fldAll]; rfl)
      obtain ⟨f1, hf1, hf1t, hf1o⟩ : ∃ f : Field, fld[1]? = some f ∧ f.type = 3 ∧ f.offset = 1 := mfldAt 1 3 1 (by rw [fldAll]; rfl)
      have g0 := hf 0 f0 hf0
      have g1 := hf 1 f1 hf1
      simp [hf0t, hf0o, hf1t, hf1o, msize3] at g0 g1
      obtain ⟨z0, e0, _, _⟩ := DataW.trod_int Tryd.underlying3 g0
      obtain ⟨z1, e1, _, _⟩ := DataW.trod_int Tryd.underlying3 g1
      simp at e0 e1
      subst e0 e1
      have c0 := hcell 0 (by omega)
      have c1 := hcell 1 (by omega)
      rw [Deep.add_add] at c0 c1
      exact ⟨⟨z0, z1⟩, by simpa using c0, by simpa using c1⟩
  obtain ⟨q, hq⟩ := @Deep.choose_lt MT ⟨⟨0, 0⟩⟩ _ _ each
  refine ⟨some a', (List.range len').map q, cap', by simp, fun i hi => ?_, by simp; omega⟩
  have hi' : i < len' := by simpa using hi
  obtain ⟨c0, c1⟩ := hq i hi'
  obtain ⟨b, off, spot⟩ := a'
  have hspot : spot = none := by
    obtain ⟨d0, _⟩ := hq 0 (by omega)
    rw [Nat.zero_mul] at d0
    exact mspot d0
  subst hspot
  rw [Addr.add_lit] at c0 c1
  refine ⟨b, off, rfl, ?_, ?_⟩
  · simpa using c0
  · simpa [Nat.add_assoc] using c1

/-- a frame with where its parts lie -/
structure FL where
  x : MF
  ps : Option Addr
  cs : Nat
  pk : Option Addr
  ck : Nat
  pt : Option Addr
  ct : Nat

set_option maxRecDepth 100000 in
set_option maxHeartbeats 1000000 in
theorem frames_of_trod {H : Type} {enc : TypeId × Value → H} {W : World} {base : Nat} {spare : Nat → Bool} {held : Bool} {fuel : Nat} {v : Value} {x : DataW H × List MemPlace}
    (h : DataW.trod enc Tryd.prog W base spare held fuel 22 [v] = some x) :
    ∃ (fs : List MF) (L : FLay) (cap : Nat), v = .slice L.p fs.length cap ∧ FramesAt W L fs ∧ WideFs fs := by
  obtain ⟨fld, fldIs, fldAll⟩ := mfldF
  rcases Deep.open_slice Tryd.underlying22 h with ⟨hcs, _⟩ | ⟨a', len', cap', m, n, D, Pl, hcs, hb, hl, hm, hmm, _, hx⟩
  · simp at hcs
    subst hcs
    exact ⟨[], ⟨none, fun _ => none, fun _ => 0, fun _ => none, fun _ => 0, fun _ => none, fun _ => 0⟩, 0, rfl, fun i hi => absurd hi (by simp), Nat.zero_le _, fun v hv => by simp at hv⟩
  simp at hcs
  subst hcs
  have hlm : len' ≤ m := by rw [hmm]; split <;> omega
  have each : ∀ i, i < len' → ∃ y : FL, WideF y.x ∧ W.cell? (a'.add (i * 5)) = some (.int .i64 y.x.f) ∧ W.cell? (a'.add (i * 5 + 1)) = some (.int .i64 y.x.pc) ∧ W.cell? (a'.add (i * 5 + 2)) = some (.slice y.ps y.x.slots.length y.cs) ∧ W.cell? (a'.add (i * 5 + 3)) = some (.slice y.pk y.x.stack.length y.ck) ∧ W.cell? (a'.add (i * 5 + 4)) = some (.slice y.pt y.x.tries.length y.ct) ∧ MVals W y.ps y.x.slots ∧ MVals W y.pk y.x.stack ∧ MTries W y.pt y.x.tries := by
    intro i hi
    obtain ⟨cs', h1, h2⟩ := hx i (by omega)
    rw [msizeF] at h1
    obtain ⟨_, hlen, hcell⟩ := World.cells?_some h1
    obtain ⟨xs, k, hk, hxy, _, hxl, hf⟩ := DataW.trod_struct fldIs h2
    have hxl5 : xs.length = 5 := by rw [hxl, show fld.size = (fld.map (fun f => (f.type, f.offset))).size by simp, fldAll]; rfl
    match xs, hxl5, cs', hlen with
    | [y0, y1, y2, y3, y4], _, [v0, v1, v2, v3, v4], _ =>
      obtain ⟨f0, hf0, hf0t, hf0o⟩ : ∃ f : Field, fld[0]? = some f ∧ f.type = 3 ∧ f.offset = 0 := mfldAt 0 3 0 (by rw [fldAll]; rfl)
      obtain ⟨f1, hf1, hf1t, hf1o⟩ : ∃ f : Field, fld[1]? = some f ∧ f.type = 3 ∧ f.offset = 1 := mfldAt 1 3 1 (by rw [fldAll]; rfl)
      obtain ⟨f2, hf2, hf2t, hf2o⟩ : ∃ f : Field, fld[2]? = some f ∧ f.type = 58 ∧ f.offset = 2 := mfldAt 2 58 2 (by rw [fldAll]; rfl)
      obtain ⟨f3, hf3, hf3t, hf3o⟩ : ∃ f : Field, fld[3]? = some f ∧ f.type = 58 ∧ f.offset = 3 := mfldAt 3 58 3 (by rw [fldAll]; rfl)
      obtain ⟨f4, hf4, hf4t, hf4o⟩ : ∃ f : Field, fld[4]? = some f ∧ f.type = 59 ∧ f.offset = 4 := mfldAt 4 59 4 (by rw [fldAll]; rfl)
      have g0 := hf 0 f0 hf0
      have g1 := hf 1 f1 hf1
      have g2 := hf 2 f2 hf2
      have g3 := hf 3 f3 hf3
      have g4 := hf 4 f4 hf4
      simp [hf0t, hf0o, hf1t, hf1o, hf2t, hf2o, hf3t, hf3o, hf4t, hf4o, msize3, msizeVS, msizeTS] at g0 g1 g2 g3 g4
      obtain ⟨z0, e0, _, _⟩ := DataW.trod_int Tryd.underlying3 g0
      obtain ⟨z1, e1, _, _⟩ := DataW.trod_int Tryd.underlying3 g1
      obtain ⟨ps, ss, cs, e2, hss, hsl, hsz⟩ := mvals_of_trod g2
      obtain ⟨pk, ks, ck, e3, hks, hkl, hkz⟩ := mvals_of_trod g3
      obtain ⟨pt, ts, ct, e4, hts, htl⟩ := mtries_of_trod g4
      simp at e0 e1
      subst e0 e1 e2 e3 e4
      have c0 := hcell 0 (by omega)
      have c1 := hcell 1 (by omega)
      have c2 := hcell 2 (by omega)
      have c3 := hcell 3 (by omega)
      have c4 := hcell 4 (by omega)
      rw [Deep.add_add] at c0 c1 c2 c3 c4
      exact ⟨⟨⟨z0, z1, ss, ks, ts⟩, ps, cs, pk, ck, pt, ct⟩, ⟨hsl, hkl, htl, hsz, hkz⟩, by simpa using c0, by simpa using c1, by simpa using c2, by simpa using c3, by simpa using c4, hss, hks, hts⟩
  obtain ⟨q, hq⟩ := @Deep.choose_lt FL ⟨⟨⟨0, 0, [], [], []⟩, none, 0, none, 0, none, 0⟩⟩ _ _ each
  refine ⟨(List.range len').map (fun i => (q i).x), ⟨some a', fun i => (q i).ps, fun i => (q i).cs, fun i => (q i).pk, fun i => (q i).ck, fun i => (q i).pt, fun i => (q i).ct⟩, cap', by simp, fun i hi => ?_, by simp; omega, fun v hv => ?_⟩
  · have hi' : i < len' := by simpa using hi
    obtain ⟨_, c0, c1, c2, c3, c4, hs, hk, ht⟩ := hq i hi'
    obtain ⟨b, off, spot⟩ := a'
    have hspot : spot = none := by
      have := (hq 0 (by omega)).2.1
      rw [Nat.zero_mul] at this
      exact mspot this
    subst hspot
    rw [Addr.add_lit] at c0 c1 c2 c3 c4
    have e : ((List.range len').map (fun i => (q i).x))[i] = (q i).x := by simp
    rw [e]
    refine ⟨b, off, rfl, by simpa using c0, ?_, ?_, ?_, ?_, hs, hk, ht⟩
    · simpa [Nat.add_assoc] using c1
    · simpa [Nat.add_assoc] using c2
    · simpa [Nat.add_assoc] using c3
    · simpa [Nat.add_assoc] using c4
  · simp at hv
    obtain ⟨i, hi, rfl⟩ := hv
    exact (hq i hi).1

set_option maxHeartbeats 1000000 in
theorem machine_of_trod {H : Type} {enc : TypeId × Value → H} {W : World} {base : Nat} {spare : Nat → Bool} {held : Bool} {fuel : Nat} {v0 v1 v2 v3 v4 v5 : Value} {x : DataW H × List MemPlace}
    (h : DataW.trod enc Tryd.prog W base spare held fuel 26 [v0, v1, v2, v3, v4, v5] = some x) :
    ∃ (fs : List MF) (L : FLay) (cap : Nat) (st : Int) (y : MV) (u : Int), v0 = .slice L.p fs.length cap ∧ v1 = .int .i64 st ∧ v2 = .int .i64 y.k ∧ v3 = .int .i64 y.n ∧ v4 = .string y.t ∧ v5 = .int .i64 u ∧ FramesAt W L fs ∧ WideFs fs ∧ y.t.size ≤ maxLen := by
  obtain ⟨fld, fldIs, fldAll⟩ := mfldM
  obtain ⟨xs, k, hk, hxy, _, hxl, hf⟩ := DataW.trod_struct fldIs h
  have hxl4 : xs.length = 4 := by rw [hxl, show fld.size = (fld.map (fun f => (f.type, f.offset))).size by simp, fldAll]; rfl
  match xs, hxl4 with
  | [y0, y1, y2, y3], _ =>
    obtain ⟨f0, hf0, hf0t, hf0o⟩ : ∃ f : Field, fld[0]? = some f ∧ f.type = 22 ∧ f.offset = 0 := mfldAt 0 22 0 (by rw [fldAll]; rfl)
    obtain ⟨f1, hf1, hf1t, hf1o⟩ : ∃ f : Field, fld[1]? = some f ∧ f.type = 3 ∧ f.offset = 1 := mfldAt 1 3 1 (by rw [fldAll]; rfl)
    obtain ⟨f2, hf2, hf2t, hf2o⟩ : ∃ f : Field, fld[2]? = some f ∧ f.type = 24 ∧ f.offset = 2 := mfldAt 2 24 2 (by rw [fldAll]; rfl)
    obtain ⟨f3, hf3, hf3t, hf3o⟩ : ∃ f : Field, fld[3]? = some f ∧ f.type = 3 ∧ f.offset = 5 := mfldAt 3 3 5 (by rw [fldAll]; rfl)
    have g0 := hf 0 f0 hf0
    have g1 := hf 1 f1 hf1
    have g2 := hf 2 f2 hf2
    have g3 := hf 3 f3 hf3
    simp [hf0t, hf0o, hf1t, hf1o, hf2t, hf2o, hf3t, hf3o, msize3, msizeV, msizeFS] at g0 g1 g2 g3
    obtain ⟨fs, L, cap, e0, hF, hW⟩ := frames_of_trod g0
    obtain ⟨z1, e1, _, _⟩ := DataW.trod_int Tryd.underlying3 g1
    obtain ⟨y, e2, e3, e4, ws⟩ := value_of_trod g2
    obtain ⟨z3, e5, _, _⟩ := DataW.trod_int Tryd.underlying3 g3
    simp at e1 e5
    exact ⟨fs, L, cap, z1, y, z3, e0, e1, e2, e3, e4, e5, hF, hW, ws⟩


theorem array5 {α : Type} {cs : Array α} (h : cs.size = 5) : ∃ a b c d e, cs = #[a, b, c, d, e] := by
  obtain ⟨l⟩ := cs
  match l, h with
  | [a, b, c, d, e], _ => exact ⟨a, b, c, d, e, rfl⟩


end Go.Proofs.YtcdjdfmpnfodiaaDoor
