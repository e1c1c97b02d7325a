/- A job that came in: its numbers, its path and its machine. -/
import Derived.Test.YtcdjdfmpnfodiaaDoorMachOf
namespace Go.Proofs.YtcdjdfmpnfodiaaDoor
open Go.ChangeShapes Go.WideShapes Go.RowKit
set_option linter.unusedVariables false

theorem jsize4 : Tryd.prog.cellsOf 4 = 1 := by kernel_rfl
theorem jsizeM : Tryd.prog.cellsOf 26 = 6 := by kernel_rfl
set_option maxRecDepth 100000 in
theorem jfldJ : ∃ fs : Array Field, Tryd.prog.underlying 28 = some (.struct fs) ∧ fs.map (fun f => (f.type, f.offset)) = #[(3, 0), (3, 1), (3, 2), (9, 3), (3, 4), (4, 5), (26, 6)] := ⟨_, Tryd.underlying28, by simp⟩

theorem array12 {α : Type} {cs : Array α} (h : cs.size = 12) : ∃ a b c d e f g h i j k l, cs = #[a, b, c, d, e, f, g, h, i, j, k, l] := by
  obtain ⟨x⟩ := cs
  match x, h with
  | [a, b, c, d, e, f, g, h, i, j, k, l], _ => exact ⟨a, b, c, d, e, f, g, h, i, j, k, l, rfl⟩

def JobIs (W : World) (v0 v1 v2 v3 v4 v5 v6 v7 v8 v9 v10 v11 : Value) : Prop :=
  ∃ (id cn sq : Int) (pa : ByteArray) (si : Int) (bg : Bool) (fs : List MF) (L : FLay) (cap : Nat) (st : Int) (y : MV) (u : Int), v0 = .int .i64 id ∧ v1 = .int .i64 cn ∧ v2 = .int .i64 sq ∧ v3 = .string pa ∧ v4 = .int .i64 si ∧ v5 = .bool bg ∧ v6 = .slice L.p fs.length cap ∧ v7 = .int .i64 st ∧ v8 = .int .i64 y.k ∧ v9 = .int .i64 y.n ∧ v10 = .string y.t ∧ v11 = .int .i64 u ∧ FramesAt W L fs ∧ WideFs fs ∧ y.t.size ≤ maxLen ∧ pa.size ≤ maxLen

set_option maxHeartbeats 1000000 in
theorem job_of_trod {H : Type} {enc : TypeId × Value → H} {W : World} {base : Nat} {spare : Nat → Bool} {held : Bool} {fuel : Nat} {v0 v1 v2 v3 v4 v5 v6 v7 v8 v9 v10 v11 : Value} {x : DataW H × List MemPlace}
    (h : DataW.trod enc Tryd.prog W base spare held fuel 28 [v0, v1, v2, v3, v4, v5, v6, v7, v8, v9, v10, v11] = some x) : JobIs W v0 v1 v2 v3 v4 v5 v6 v7 v8 v9 v10 v11 := by
  obtain ⟨fld, fldIs, fldAll⟩ := jfldJ
  obtain ⟨xs, k, hk, hxy, _, hxl, hf⟩ := DataW.trod_struct fldIs h
  have hxl7 : xs.length = 7 := by rw [hxl, show fld.size = (fld.map (fun f => (f.type, f.offset))).size by simp, fldAll]; rfl
  match xs, hxl7 with
  | [y0, y1, y2, y3, y4, y5, y6], _ =>
    obtain ⟨f0, hf0, hf0t, hf0o⟩ : ∃ f : Field, fld[0]? = some f ∧ f.type = 3 ∧ f.offset = 0 := mfldAt 0 3 0 (by rw [fldAll]; rfl)
    obtain ⟨f1, hf1, hf1t, hf1o⟩ : ∃ f : Field, fld[1]? = some f ∧ f.type = 3 ∧ f.offset = 1 := mfldAt 1 3 1 (by rw [fldAll]; rfl)
    obtain ⟨f2, hf2, hf2t, hf2o⟩ : ∃ f : Field, fld[2]? = some f ∧ f.type = 3 ∧ f.offset = 2 := mfldAt 2 3 2 (by rw [fldAll]; rfl)
    obtain ⟨f3, hf3, hf3t, hf3o⟩ : ∃ f : Field, fld[3]? = some f ∧ f.type = 9 ∧ f.offset = 3 := mfldAt 3 9 3 (by rw [fldAll]; rfl)
    obtain ⟨f4, hf4, hf4t, hf4o⟩ : ∃ f : Field, fld[4]? = some f ∧ f.type = 3 ∧ f.offset = 4 := mfldAt 4 3 4 (by rw [fldAll]; rfl)
    obtain ⟨f5, hf5, hf5t, hf5o⟩ : ∃ f : Field, fld[5]? = some f ∧ f.type = 4 ∧ f.offset = 5 := mfldAt 5 4 5 (by rw [fldAll]; rfl)
    obtain ⟨f6, hf6, hf6t, hf6o⟩ : ∃ f : Field, fld[6]? = some f ∧ f.type = 26 ∧ f.offset = 6 := mfldAt 6 26 6 (by rw [fldAll]; rfl)
    have g0 := hf 0 f0 hf0
    have g1 := hf 1 f1 hf1
    have g2 := hf 2 f2 hf2
    have g3 := hf 3 f3 hf3
    have g4 := hf 4 f4 hf4
    have g5 := hf 5 f5 hf5
    have g6 := hf 6 f6 hf6
    simp [hf0t, hf0o, hf1t, hf1o, hf2t, hf2o, hf3t, hf3o, hf4t, hf4o, hf5t, hf5o, hf6t, hf6o, msize3, msize9, jsize4, jsizeM] at g0 g1 g2 g3 g4 g5 g6
    obtain ⟨z0, e0, _, _⟩ := DataW.trod_int Tryd.underlying3 g0
    obtain ⟨z1, e1, _, _⟩ := DataW.trod_int Tryd.underlying3 g1
    obtain ⟨z2, e2, _, _⟩ := DataW.trod_int Tryd.underlying3 g2
    obtain ⟨s3, e3, _, ws⟩ := DataW.trod_string Tryd.underlying9 g3
    obtain ⟨z4, e4, _, _⟩ := DataW.trod_int Tryd.underlying3 g4
    obtain ⟨b5, e5, _⟩ := DataW.trod_bool Tryd.underlying4 g5
    obtain ⟨fs, L, cap, st, y, u, e6, e7, e8, e9, e10, e11, hF, hW, wt⟩ := machine_of_trod g6
    simp at e0 e1 e2 e3 e4 e5
    exact ⟨z0, z1, z2, s3, z4, b5, fs, L, cap, st, y, u, e0, e1, e2, e3, e4, e5, e6, e7, e8, e9, e10, e11, hF, hW, wt, ws⟩

end Go.Proofs.YtcdjdfmpnfodiaaDoor
