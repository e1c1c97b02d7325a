/- Jobs copied and held against each other, and the law on a job's reply. -/
import Derived.Test.YtcdjdfmpnfodiaaDoorMach3
import Derived.Test.YtcdjdfmpnfodiaaDoorMach4
namespace Go.Proofs.YtcdjdfmpnfodiaaDoor
open Go.RowKit Go.Joins
set_option linter.unusedVariables false

set_option maxHeartbeats 1000000 in
theorem szJob_any (L : FLay) (fs : List MF) (cap : Nat) (id cn sq si : Int) (pa : ByteArray) (bg : Bool) (st : Int) (v : MV) (used : Int) (w : World) (hrow : FramesAt w L fs) (hw : WideFs fs) (hv : v.t.size ≤ maxLen) (hp : pa.size ≤ maxLen) :
    Calls Tryd.prog 4 #[.agg #[.int .i64 id, .int .i64 cn, .int .i64 sq, .string pa, .int .i64 si, .bool bg, .slice L.p fs.length cap, .int .i64 st, .int .i64 v.k, .int .i64 v.n, .string v.t, .int .i64 used], .int .i64 1048576] w fun e w' => ∃ r : Int, e = .returned (.int .i64 r) ∧ (r < 0 ∨ (0 ≤ r ∧ SmallFs fs ∧ v.t.size ≤ 1048576)) ∧ Below w.heap.size w w' := by
  have HR := hide hrow
  have HW := hide hw
  have HV := hide hv
  unfold maxLen at hp
  clear hrow hw hv
  by_cases hy : (1048576 : Int) < (pa.size : Int)
  · go_enter Tryd.func4, Tryd.ntmps4
    go_wp2
    go_ret
    exact ⟨-1, rfl, .inl (by omega), nx_alloc _ _⟩
  · go_enter Tryd.func4, Tryd.ntmps4
    go_wp2_with fail
    refine (szMachineL_any L fs cap st v used _ _ ((unhide HR).later (nx_alloc _ _)) (unhide HW) (unhide HV) (by omega) (by omega)).mono ?_
    rintro e w1 ⟨r, rfl, hr, hb1⟩
    have hB := hide (nx_trans (nx_alloc _ _) hb1)
    clear hb1
    have HQ := hide hr
    clear hr
    by_cases hr0 : r < 0
    · go_wp2
      go_ret
      exact ⟨-1, rfl, .inl (by omega), unhide hB⟩
    · go_wp2
      go_ret
      exact ⟨_, rfl, unhide HQ, unhide hB⟩

set_option maxHeartbeats 2000000 in
theorem toMachine_fill (L : FLay) (fs : List MF) (cap : Nat) (st vk vn : Int) (vt : ByteArray) (used : Int) (w : World) (hrow : FramesAt w L fs) (hs : SmallFs fs) :
    Calls Tryd.prog 13 #[.agg #[.slice L.p fs.length cap, .int .i64 st, .int .i64 vk, .int .i64 vn, .string vt, .int .i64 used]] w fun e w' => ∃ g : Nat, e = .returned (.agg #[.slice (some ⟨g, 0, none⟩) fs.length fs.length, .int .i64 st, .int .i64 vk, .int .i64 vn, .string vt, .int .i64 used]) ∧ w.heap.size ≤ g ∧ FillMF w' g fs fs.length ∧ Below w.heap.size w w' := by
  have HR := hide hrow
  have HS := hide hs
  clear hrow hs
  go_enter Tryd.func13, Tryd.ntmps13
  go_wp2_with fail
  refine (toFrames_any L fs cap _ ((unhide HR).later (nx_al (nx_al (nx_alloc _ _)))) (unhide HS)).mono ?_
  rintro e w1 ⟨rfl, hF, hl, hb1⟩
  have hB1 := hide (nx_trans (nx_al (nx_al (nx_alloc _ _))) hb1)
  obtain ⟨hc1, hf1⟩ := bcell hb1
  have hz : w.heap.size + 3 < w1.heap.size := by simp at hl; omega
  have hz0 : w.heap.size < w1.heap.size := by omega
  have hz1 : w.heap.size + 1 < w1.heap.size := by omega
  have hz2 : w.heap.size + 1 + 1 < w1.heap.size := by omega
  have hz3 : w.heap.size + 2 < w1.heap.size := by omega
  have HF : Hid (FillMF w1 (w.heap.size + 1 + 1 + 1) fs fs.length) := hide (by simpa using hF)
  clear hF hb1
  go_wp2_with fail
  refine (toValue_any vk vn vt _).mono ?_
  rintro e w2 ⟨rfl, hb2⟩
  obtain ⟨hc2, hf2⟩ := bcell hb2
  have hF2 := hide ((FillMF.poke (o := 1) (v := .int .i64 st) (FillMF.poke (o := 0) (v := .slice (some ⟨w.heap.size + 1 + 1 + 1, 0, none⟩) fs.length fs.length) (unhide HF) (b := w.heap.size + 1 + 1) (by omega)) (b := w.heap.size + 1 + 1) (by omega)).later hb2 (by simp; omega))
  have hB2 := hide (nx_trans (nx_set (nx_set (unhide hB1) (by omega : w.heap.size ≤ w.heap.size + 1 + 1)) (by omega : w.heap.size ≤ w.heap.size + 1 + 1)) hb2)
  have hy : w.heap.size + 3 < w2.heap.size := by have := hb2.size; simp at this; omega
  have hy0 : w.heap.size < w2.heap.size := by omega
  have hy1 : w.heap.size + 1 < w2.heap.size := by omega
  have hy2 : w.heap.size + 1 + 1 < w2.heap.size := by omega
  have hy3 : w.heap.size + 2 < w2.heap.size := by omega
  clear hb2 HF
  go_wp2
  refine bodyPost_ret (v := .agg #[.slice (some ⟨w.heap.size + 1 + 1 + 1, 0, none⟩) fs.length fs.length, .int .i64 st, .int .i64 vk, .int .i64 vn, .string vt, .int .i64 used]) (by simp [results, Tryd.results13, go_sem, *]) rfl ⟨w.heap.size + 1 + 1 + 1, rfl, by omega, ?_, ?_⟩
  · repeat refine FillMF.poke ?_ (by omega)
    exact unhide hF2
  · repeat refine nx_set ?_ (by omega)
    exact unhide hB2

set_option maxHeartbeats 2000000 in
theorem toJob_any (L : FLay) (fs : List MF) (cap : Nat) (id cn sq si : Int) (pa : ByteArray) (bg : Bool) (st vk vn : Int) (vt : ByteArray) (used : Int) (w : World) (hrow : FramesAt w L fs) (hs : SmallFs fs) :
    Calls Tryd.prog 6 #[.agg #[.int .i64 id, .int .i64 cn, .int .i64 sq, .string pa, .int .i64 si, .bool bg, .slice L.p fs.length cap, .int .i64 st, .int .i64 vk, .int .i64 vn, .string vt, .int .i64 used]] w fun e w' => ∃ L' : FLay, e = .returned (.agg #[.int .i64 id, .int .i64 cn, .int .i64 sq, .string pa, .int .i64 si, .bool bg, .slice L'.p fs.length fs.length, .int .i64 st, .int .i64 vk, .int .i64 vn, .string vt, .int .i64 used]) ∧ FramesAt w' L' fs ∧ Below w.heap.size w w' := by
  have HR := hide hrow
  have HS := hide hs
  clear hrow hs
  go_enter Tryd.func6, Tryd.ntmps6
  go_wp2_with fail
  refine (toMachine_fill L fs cap st vk vn vt used _ ((unhide HR).later (nx_al (nx_al (nx_alloc _ _)))) (unhide HS)).mono ?_
  rintro e w1 ⟨g, rfl, hg, hF, hb1⟩
  have hB1 := hide (nx_trans (nx_al (nx_al (nx_alloc _ _))) hb1)
  obtain ⟨hc1, hf1⟩ := bcell hb1
  have hg3 : w.heap.size + 3 ≤ g := by simp at hg; omega
  have hz2 : w.heap.size + 1 + 1 < w1.heap.size := by have := hb1.size; simp at this; omega
  have hz1 : w.heap.size + 1 < w1.heap.size := by omega
  have hz0 : w.heap.size < w1.heap.size := by omega
  have HF := hide hF
  clear hF hb1 hg
  go_wp2
  have hM : ∀ x : World, FillMF x g fs fs.length → Below w.heap.size w x → ∃ L' : FLay, Ending.returned (.agg #[.int .i64 id, .int .i64 cn, .int .i64 sq, .string pa, .int .i64 si, .bool bg, .slice (some ⟨g, 0, none⟩) fs.length fs.length, .int .i64 st, .int .i64 vk, .int .i64 vn, .string vt, .int .i64 used]) = .returned (.agg #[.int .i64 id, .int .i64 cn, .int .i64 sq, .string pa, .int .i64 si, .bool bg, .slice L'.p fs.length fs.length, .int .i64 st, .int .i64 vk, .int .i64 vn, .string vt, .int .i64 used]) ∧ FramesAt x L' fs ∧ Below w.heap.size w x := fun x h hb => by
    obtain ⟨L', hp', hL'⟩ := h.lay
    exact ⟨L', by rw [hp'], hL', hb⟩
  refine bodyPost_ret (v := .agg #[.int .i64 id, .int .i64 cn, .int .i64 sq, .string pa, .int .i64 si, .bool bg, .slice (some ⟨g, 0, none⟩) fs.length fs.length, .int .i64 st, .int .i64 vk, .int .i64 vn, .string vt, .int .i64 used]) (by simp [results, Tryd.results6, go_sem, *]) rfl (hM _ ?_ ?_)
  · repeat refine FillMF.poke ?_ (by omega)
    exact unhide HF
  · repeat refine nx_set ?_ (by omega)
    exact unhide hB1

set_option maxHeartbeats 2000000 in
theorem eqJob_same (L L' : FLay) (fs : List MF) (c d : Nat) (id cn sq si : Int) (pa : ByteArray) (bg : Bool) (st vk vn : Int) (vt : ByteArray) (used : Int) (w : World) (ha : FramesAt w L fs) (hb : FramesAt w L' fs) (hs : SmallFs fs) :
    Calls Tryd.prog 8 #[.agg #[.int .i64 id, .int .i64 cn, .int .i64 sq, .string pa, .int .i64 si, .bool bg, .slice L.p fs.length c, .int .i64 st, .int .i64 vk, .int .i64 vn, .string vt, .int .i64 used], .agg #[.int .i64 id, .int .i64 cn, .int .i64 sq, .string pa, .int .i64 si, .bool bg, .slice L'.p fs.length d, .int .i64 st, .int .i64 vk, .int .i64 vn, .string vt, .int .i64 used]] w fun e w' => e = .returned (.bool true) ∧ Below w.heap.size w w' := by
  have HA := hide ha
  have HB := hide hb
  have HS := hide hs
  clear ha hb hs
  cases bg
  all_goals
    go_enter Tryd.func8, Tryd.ntmps8
    go_wp2_with fail
    refine (eqMachine_same L L' fs c d st vk vn vt used _ ((unhide HA).later (nx_al (nx_alloc _ _))) ((unhide HB).later (nx_al (nx_alloc _ _))) (unhide HS)).mono ?_
    rintro e w1 ⟨rfl, hb1⟩
    have hB1 := hide (nx_trans (nx_al (nx_alloc _ _)) hb1)
    clear hb1
    go_wp2
    go_ret
    exact ⟨rfl, unhide hB1⟩

end Go.Proofs.YtcdjdfmpnfodiaaDoor
