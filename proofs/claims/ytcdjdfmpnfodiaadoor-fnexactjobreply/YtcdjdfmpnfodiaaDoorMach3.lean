/- Machines held against each other: 'laws.eqMachine'. -/
import Derived.Test.YtcdjdfmpnfodiaaDoorMach2
namespace Go.Proofs.YtcdjdfmpnfodiaaDoor
open Go.RowKit Go.Joins
set_option linter.unusedVariables false

set_option maxHeartbeats 4000000 in
theorem eqMVals_same (p q : Option Addr) (vs : List MV) (c d : Nat) (w : World) (ha : MVals w p vs) (hb : MVals w q vs) (hlen : vs.length ≤ 1048576) :
    Calls Tryd.prog 40 #[.slice p vs.length c, .slice q vs.length d] w fun e w' => e = .returned (.bool true) ∧ Below w.heap.size w w' := by
  have HA := hide ha
  have HB := hide hb
  clear ha hb
  go_enter Tryd.func40, Tryd.ntmps40
  go_wp2
  go_loopw [5] (fun i wx => ∃ k : Nat, k ≤ vs.length ∧ i = .int .i64 k ∧ Below w.heap.size w wx) (fun i _ => vs.length - (intOf i).toNat)
  case atStart => exact ⟨0, by omega, rfl, Below.refl _ _⟩
  case round =>
    obtain ⟨k, hk, rfl, hnx⟩ := hrel
    by_cases hlt : k < vs.length
    · obtain ⟨b, off, rfl, q0, q1, q2⟩ := (unhide HA).later hnx k hlt
      obtain ⟨b', off', rfl, r0, r1, r2⟩ := (unhide HB).later hnx k hlt
      generalize vs[k].k = vk at q0 r0
      generalize vs[k].n = vn at q1 r1
      generalize vs[k].t = vt at q2 r2
      go_wp2
      go_region_with (go_at_call 24; refine (eqValue_same vk vn vt _).mono ?_; rintro e y ⟨rfl, hbx⟩)
      all_goals go_wp2
      all_goals (go_roundw; (case rel => exact ⟨k + 1, by omega, by go_num, (by repeat (first | exact Below.refl _ _ | assumption | refine nx_al ?_ | refine nx_drew ?_ | refine nx_trans ?_ (by assumption)))⟩); (case measure => simp [intOf]; omega))
    · go_wp2
      go_ret
      exact ⟨rfl, hnx⟩

set_option maxHeartbeats 1000000 in
theorem eqTry_same (a h : Int) (w : World) :
    Calls Tryd.prog 44 #[.agg #[.int .i64 a, .int .i64 h], .agg #[.int .i64 a, .int .i64 h]] w fun e w' => e = .returned (.bool true) ∧ Below w.heap.size w w' := by
  go_enter Tryd.func44, Tryd.ntmps44
  go_wp2
  go_ret
  exact ⟨rfl, nx_al (nx_alloc _ _)⟩

set_option maxHeartbeats 4000000 in
theorem eqMTries_same (p q : Option Addr) (vs : List MT) (c d : Nat) (w : World) (ha : MTries w p vs) (hb : MTries w q vs) (hlen : vs.length ≤ 1048576) :
    Calls Tryd.prog 41 #[.slice p vs.length c, .slice q vs.length d] w fun e w' => e = .returned (.bool true) ∧ Below w.heap.size w w' := by
  have HA := hide ha
  have HB := hide hb
  clear ha hb
  go_enter Tryd.func41, Tryd.ntmps41
  go_wp2
  go_loopw [5] (fun i wx => ∃ k : Nat, k ≤ vs.length ∧ i = .int .i64 k ∧ Below w.heap.size w wx) (fun i _ => vs.length - (intOf i).toNat)
  case atStart => exact ⟨0, by omega, rfl, Below.refl _ _⟩
  case round =>
    obtain ⟨k, hk, rfl, hnx⟩ := hrel
    by_cases hlt : k < vs.length
    · obtain ⟨b, off, rfl, q0, q1⟩ := (unhide HA).later hnx k hlt
      obtain ⟨b', off', rfl, r0, r1⟩ := (unhide HB).later hnx k hlt
      generalize vs[k].a = vk at q0 r0
      generalize vs[k].h = vn at q1 r1
      go_wp2
      go_region_with (go_at_call 44; refine (eqTry_same vk vn _).mono ?_; rintro e y ⟨rfl, hbx⟩)
      all_goals go_wp2
      all_goals (go_roundw; (case rel => exact ⟨k + 1, by omega, by go_num, (by repeat (first | exact Below.refl _ _ | assumption | refine nx_al ?_ | refine nx_drew ?_ | refine nx_trans ?_ (by assumption)))⟩); (case measure => simp [intOf]; omega))
    · go_wp2
      go_ret
      exact ⟨rfl, hnx⟩

set_option maxHeartbeats 2000000 in
theorem eqFrame_same (x : MF) (ps : Option Addr) (cs : Nat) (pk : Option Addr) (ck : Nat) (pt : Option Addr) (ct : Nat) (ps' : Option Addr) (cs' : Nat) (pk' : Option Addr) (ck' : Nat) (pt' : Option Addr) (ct' : Nat) (w : World) (h1 : MVals w ps x.slots) (h2 : MVals w pk x.stack) (h3 : MTries w pt x.tries) (h1' : MVals w ps' x.slots) (h2' : MVals w pk' x.stack) (h3' : MTries w pt' x.tries) (hs : SmallF x) :
    Calls Tryd.prog 33 #[.agg #[.int .i64 x.f, .int .i64 x.pc, .slice ps x.slots.length cs, .slice pk x.stack.length ck, .slice pt x.tries.length ct], .agg #[.int .i64 x.f, .int .i64 x.pc, .slice ps' x.slots.length cs', .slice pk' x.stack.length ck', .slice pt' x.tries.length ct']] w fun e w' => e = .returned (.bool true) ∧ Below w.heap.size w w' := by
  obtain ⟨xf, xp, xs, xk, xt⟩ := x
  obtain ⟨s1, s2, s3⟩ := hs
  have H1 := hide h1
  have H2 := hide h2
  have H3 := hide h3
  have H1' := hide h1'
  have H2' := hide h2'
  have H3' := hide h3'
  clear h1 h2 h3 h1' h2' h3'
  dsimp only at H1 H2 H3 H1' H2' H3' s1 s2 s3 ⊢
  go_enter Tryd.func33, Tryd.ntmps33
  go_wp2_with fail
  refine (eqMVals_same ps ps' xs cs cs' _ ((unhide H1).later (nx_al (nx_alloc _ _))) ((unhide H1').later (nx_al (nx_alloc _ _))) s1).mono ?_
  rintro e w1 ⟨rfl, hb1⟩
  have hB1 := hide (nx_trans (nx_al (nx_alloc _ _)) hb1)
  obtain ⟨hc1, hf1⟩ := bcell hb1
  have hz1 : w.heap.size + 1 < w1.heap.size := by have := hb1.size; simp at this; omega
  have hz0 : w.heap.size < w1.heap.size := by omega
  clear hb1
  go_wp2_with fail
  refine (eqMVals_same pk pk' xk ck ck' _ ((unhide H2).later (unhide hB1)) ((unhide H2').later (unhide hB1)) s2).mono ?_
  rintro e w2 ⟨rfl, hb2⟩
  have hB2 := hide (nx_trans (unhide hB1) hb2)
  obtain ⟨hc2, hf2⟩ := bcell hb2
  have hy1 : w.heap.size + 1 < w2.heap.size := by have := hb2.size; omega
  have hy0 : w.heap.size < w2.heap.size := by omega
  clear hb2
  go_wp2_with fail
  refine (eqMTries_same pt pt' xt ct ct' _ ((unhide H3).later (unhide hB2)) ((unhide H3').later (unhide hB2)) s3).mono ?_
  rintro e w3 ⟨rfl, hb3⟩
  have hB3 := hide (nx_trans (unhide hB2) hb3)
  clear hb3 hc1 hf1 hc2 hf2
  go_wp2
  go_ret
  exact ⟨rfl, unhide hB3⟩

set_option maxHeartbeats 2000000 in
theorem eqFrames_same (L L' : FLay) (fs : List MF) (c d : Nat) (w : World) (ha : FramesAt w L fs) (hb : FramesAt w L' fs) (hs : SmallFs fs) :
    Calls Tryd.prog 23 #[.slice L.p fs.length c, .slice L'.p fs.length d] w fun e w' => e = .returned (.bool true) ∧ Below w.heap.size w w' := by
  have HA := hide ha
  have HB := hide hb
  have HS := hide hs.2
  have hlen := hs.1
  clear ha hb hs
  go_enter Tryd.func23, Tryd.ntmps23
  go_wp2
  go_loopw [5] (fun i wx => ∃ k : Nat, k ≤ fs.length ∧ i = .int .i64 k ∧ Below w.heap.size w wx) (fun i _ => fs.length - (intOf i).toNat)
  case atStart => exact ⟨0, by omega, rfl, Below.refl _ _⟩
  case round =>
    obtain ⟨k, hk, rfl, hnx⟩ := hrel
    by_cases hlt : k < fs.length
    · obtain ⟨b, off, hp, q0, q1, q2, q3, q4, q5, q6, q7⟩ := (unhide HA).later hnx k hlt
      obtain ⟨b', off', hp', r0, r1, r2, r3, r4, r5, r6, r7⟩ := (unhide HB).later hnx k hlt
      have HZ := hide (unhide HS fs[k] (List.getElem_mem hlt))
      rw [hp, hp']
      generalize fs[k] = x at q0 q1 q2 q3 q4 q5 q6 q7 r0 r1 r2 r3 r4 r5 r6 r7 HZ
      generalize L.ps k = ps at q2 q5
      generalize L.cs k = cs at q2
      generalize L.pk k = pk at q3 q6
      generalize L.ck k = ck at q3
      generalize L.pt k = pt at q4 q7
      generalize L.ct k = ct at q4
      generalize L'.ps k = ps' at r2 r5
      generalize L'.cs k = cs' at r2
      generalize L'.pk k = pk' at r3 r6
      generalize L'.ck k = ck' at r3
      generalize L'.pt k = pt' at r4 r7
      generalize L'.ct k = ct' at r4
      have H5 := hide fun (x : World) (hx : x.heap = wr.heap) => q5.heap hx
      have H6 := hide fun (x : World) (hx : x.heap = wr.heap) => q6.heap hx
      have H7 := hide fun (x : World) (hx : x.heap = wr.heap) => q7.heap hx
      have J5 := hide fun (x : World) (hx : x.heap = wr.heap) => r5.heap hx
      have J6 := hide fun (x : World) (hx : x.heap = wr.heap) => r6.heap hx
      have J7 := hide fun (x : World) (hx : x.heap = wr.heap) => r7.heap hx
      clear q5 q6 q7 r5 r6 r7
      go_wp2
      go_region_with (go_at_call 33; refine (eqFrame_same x ps cs pk ck pt ct ps' cs' pk' ck' pt' ct' wr.drew (unhide H5 wr.drew rfl) (unhide H6 wr.drew rfl) (unhide H7 wr.drew rfl) (unhide J5 wr.drew rfl) (unhide J6 wr.drew rfl) (unhide J7 wr.drew rfl) (unhide HZ)).mono ?_; rintro e y ⟨rfl, hbx⟩)
      all_goals go_wp2
      all_goals (go_roundw; (case rel => exact ⟨k + 1, by omega, by go_num, (by repeat (first | assumption | refine nx_al ?_ | refine nx_drew ?_ | refine nx_trans ?_ (by assumption)))⟩); (case measure => simp [intOf]; omega))
    · go_wp2
      go_ret
      exact ⟨rfl, hnx⟩

set_option maxHeartbeats 2000000 in
theorem eqMachine_same (L L' : FLay) (fs : List MF) (c d : Nat) (st vk vn : Int) (vt : ByteArray) (used : Int) (w : World) (ha : FramesAt w L fs) (hb : FramesAt w L' fs) (hs : SmallFs fs) :
    Calls Tryd.prog 15 #[.agg #[.slice L.p fs.length c, .int .i64 st, .int .i64 vk, .int .i64 vn, .string vt, .int .i64 used], .agg #[.slice L'.p fs.length d, .int .i64 st, .int .i64 vk, .int .i64 vn, .string vt, .int .i64 used]] w fun e w' => e = .returned (.bool true) ∧ Below w.heap.size w w' := by
  have HA := hide ha
  have HB := hide hb
  have HS := hide hs
  clear ha hb hs
  go_enter Tryd.func15, Tryd.ntmps15
  go_wp2_with fail
  refine (eqFrames_same L L' fs c d _ ((unhide HA).later (nx_al (nx_alloc _ _))) ((unhide HB).later (nx_al (nx_alloc _ _))) (unhide HS)).mono ?_
  rintro e w1 ⟨rfl, hb1⟩
  have hB1 := hide (nx_trans (nx_al (nx_alloc _ _)) hb1)
  obtain ⟨hc1, hf1⟩ := bcell hb1
  have hz1 : w.heap.size + 1 < w1.heap.size := by have := hb1.size; simp at this; omega
  have hz0 : w.heap.size < w1.heap.size := by omega
  clear hb1
  go_wp2_with fail
  refine (eqValue_same vk vn vt _).mono ?_
  rintro e w2 ⟨rfl, hb2⟩
  have hB2 := hide (nx_trans (unhide hB1) hb2)
  obtain ⟨hc2, hf2⟩ := bcell hb2
  have hy1 : w.heap.size + 1 < w2.heap.size := by have := hb2.size; omega
  have hy0 : w.heap.size < w2.heap.size := by omega
  clear hb2
  go_wp2
  go_ret
  exact ⟨rfl, unhide hB2⟩

end Go.Proofs.YtcdjdfmpnfodiaaDoor
