/- Machines copied whole: 'laws.toMachine'. -/
import Derived.Test.YtcdjdfmpnfodiaaDoorMach2
namespace Go.Proofs.YtcdjdfmpnfodiaaDoor
open Go.RowKit Go.Joins
set_option linter.unusedVariables false

set_option maxHeartbeats 2000000 in
theorem toMachine_any (L : FLay) (fs : List MF) (cap : Nat) (st vk vn : Int) (vt : ByteArray) (used : Int) (w : World) (hrow : FramesAt w L fs) (hs : SmallFs fs) :
    Calls Tryd.prog 13 #[.agg #[.slice L.p fs.length cap, .int .i64 st, .int .i64 vk, .int .i64 vn, .string vt, .int .i64 used]] w fun e w' => ∃ L' : FLay, e = .returned (.agg #[.slice L'.p fs.length fs.length, .int .i64 st, .int .i64 vk, .int .i64 vn, .string vt, .int .i64 used]) ∧ FramesAt w' L' fs ∧ Below w.heap.size w w' := by
  have HR := hide hrow
  have HS := hide hs
  clear hrow hs
  go_enter Tryd.func13, Tryd.ntmps13
  go_wp2_with fail
  refine (toFrames_any L fs cap _ ((unhide HR).later (nx_al (nx_al (nx_alloc _ _)))) (unhide HS)).mono ?_
  rintro e w1 ⟨rfl, hF, hl, hb1⟩
  have hB1 := hide (nx_trans (nx_al (nx_al (nx_alloc _ _))) hb1)
  obtain ⟨hc1, hf1⟩ := bcell hb1
  have hz : w.heap.size + 3 < w1.heap.size := by simp at hl; omega
  have hz0 : w.heap.size < w1.heap.size := by omega
  have hz1 : w.heap.size + 1 < w1.heap.size := by omega
  have hz2 : w.heap.size + 1 + 1 < w1.heap.size := by omega
  have hz3 : w.heap.size + 2 < w1.heap.size := by omega
  have HF : Hid (FillMF w1 (w.heap.size + 1 + 1 + 1) fs fs.length) := hide (by simpa using hF)
  clear hF hb1
  go_wp2_with fail
  refine (toValue_any vk vn vt _).mono ?_
  rintro e w2 ⟨rfl, hb2⟩
  obtain ⟨hc2, hf2⟩ := bcell hb2
  have hF2 := hide ((FillMF.poke (o := 1) (v := .int .i64 st) (FillMF.poke (o := 0) (v := .slice (some ⟨w.heap.size + 1 + 1 + 1, 0, none⟩) fs.length fs.length) (unhide HF) (b := w.heap.size + 1 + 1) (by omega)) (b := w.heap.size + 1 + 1) (by omega)).later hb2 (by simp; omega))
  have hB2 := hide (nx_trans (nx_set (nx_set (unhide hB1) (by omega : w.heap.size ≤ w.heap.size + 1 + 1)) (by omega : w.heap.size ≤ w.heap.size + 1 + 1)) hb2)
  have hy : w.heap.size + 3 < w2.heap.size := by have := hb2.size; simp at this; omega
  have hy0 : w.heap.size < w2.heap.size := by omega
  have hy1 : w.heap.size + 1 < w2.heap.size := by omega
  have hy2 : w.heap.size + 1 + 1 < w2.heap.size := by omega
  have hy3 : w.heap.size + 2 < w2.heap.size := by omega
  clear hb2 HF
  go_wp2
  have hM : ∀ x : World, FillMF x (w.heap.size + 1 + 1 + 1) fs fs.length → Below w.heap.size w x → ∃ L' : FLay, Ending.returned (.agg #[.slice (some ⟨w.heap.size + 1 + 1 + 1, 0, none⟩) fs.length fs.length, .int .i64 st, .int .i64 vk, .int .i64 vn, .string vt, .int .i64 used]) = .returned (.agg #[.slice L'.p fs.length fs.length, .int .i64 st, .int .i64 vk, .int .i64 vn, .string vt, .int .i64 used]) ∧ FramesAt x L' fs ∧ Below w.heap.size w x := fun x h hb => by
    obtain ⟨L', hp', hL'⟩ := h.lay
    exact ⟨L', by rw [hp'], hL', hb⟩
  refine bodyPost_ret (v := .agg #[.slice (some ⟨w.heap.size + 1 + 1 + 1, 0, none⟩) fs.length fs.length, .int .i64 st, .int .i64 vk, .int .i64 vn, .string vt, .int .i64 used]) (by simp [results, Tryd.results13, go_sem, *]) rfl (hM _ ?_ ?_)
  · repeat refine FillMF.poke ?_ (by omega)
    exact unhide hF2
  · repeat refine nx_set ?_ (by omega)
    exact unhide hB2

end Go.Proofs.YtcdjdfmpnfodiaaDoor
