/- A job's reply: 'impl.JobReply', 'spec.JobReply', jobs measured, copied and held against each other, and the law. -/
import Derived.Test.YtcdjdfmpnfodiaaDoorMach3
import Derived.Test.YtcdjdfmpnfodiaaDoorMach4
import Derived.Test.YtcdjdfmpnfodiaaDoorVText1
namespace Go.Proofs.YtcdjdfmpnfodiaaDoor
open Go.RowKit Go.Joins Go.Shelf
set_option linter.unusedVariables false

def jobP (st k n : Int) (t : ByteArray) : Int × ByteArray × Int :=
  if vokB k n t = true then (if st = 1 then (0, ⟨#[]⟩, 15) else if st = 2 then (200, vtextB k n t, 0) else if st = 3 then (500, vtextB k n t, 0) else (0, ⟨#[]⟩, 1)) else (0, ⟨#[]⟩, 1)

set_option maxHeartbeats 1000000 in
theorem JobReply_any (p : Option Addr) (c : Nat) (l : Nat) (id cn sq si : Int) (pa : ByteArray) (bg : Bool) (st k n u : Int) (t : ByteArray) (w : World) (ht : t.size ≤ maxLen) (hT : PowTab w) :
    Calls Tryd.prog 7 #[.agg #[.int .i64 id, .int .i64 cn, .int .i64 sq, .string pa, .int .i64 si, .bool bg, .slice p l c, .int .i64 st, .int .i64 k, .int .i64 n, .string t, .int .i64 u]] w fun e w' => e = .returned (.tuple #[.int .i64 (jobP st k n t).1, .string (jobP st k n t).2.1, .int .i64 (jobP st k n t).2.2]) ∧ Below w.heap.size w w' := by
  unfold jobP
  have hV := hide (fun w h => ValueText_any k n t w ht h)
  unfold vtP at hV
  have HT := hide hT
  clear hT
  cases hv : vokB k n t
  · rw [hv] at hV
    simp only [Bool.false_eq_true, if_false] at hV ⊢
    go_enter Tryd.func7, Tryd.ntmps7
    go_wp2_with fail
    refine (unhide hV _ ((unhide HT).later (nx_alloc _ _) (Nat.le_refl _))).mono ?_
    rintro e w1 ⟨rfl, hb1⟩
    go_wp2
    exact bodyPost_ret (v := (.tuple #[.int .i64 0, .string ⟨#[]⟩, .int .i64 1])) (by simp [results, Tryd.results7, go_sem]) rfl ⟨rfl, nx_trans (nx_alloc _ _) hb1⟩
  rw [hv] at hV
  simp only [if_true] at hV ⊢
  generalize vtextB k n t = s at hV
  clear hv
  by_cases e1 : st = 1
  · subst e1
    simp only [if_true]
    go_enter Tryd.func7, Tryd.ntmps7
    go_wp2_with fail
    refine (unhide hV _ ((unhide HT).later (nx_alloc _ _) (Nat.le_refl _))).mono ?_
    rintro e w1 ⟨rfl, hb1⟩
    obtain ⟨hc1, hf1⟩ := bcell hb1
    have hz0 : w.heap.size < w1.heap.size := by have := hb1.size; simp at this; omega
    go_wp2
    exact bodyPost_ret (v := (.tuple #[.int .i64 0, .string ⟨#[]⟩, .int .i64 15])) (by simp [results, Tryd.results7, go_sem]) rfl ⟨rfl, nx_trans (nx_alloc _ _) hb1⟩
  by_cases e2 : st = 2
  · subst e2
    simp only [if_true, if_neg e1]
    clear e1
    go_enter Tryd.func7, Tryd.ntmps7
    go_wp2_with fail
    refine (unhide hV _ ((unhide HT).later (nx_alloc _ _) (Nat.le_refl _))).mono ?_
    rintro e w1 ⟨rfl, hb1⟩
    obtain ⟨hc1, hf1⟩ := bcell hb1
    have hz0 : w.heap.size < w1.heap.size := by have := hb1.size; simp at this; omega
    go_wp2
    exact bodyPost_ret (v := (.tuple #[.int .i64 200, .string s, .int .i64 0])) (by simp [results, Tryd.results7, go_sem]) rfl ⟨rfl, nx_trans (nx_alloc _ _) hb1⟩
  by_cases e3 : st = 3
  · subst e3
    simp only [if_true, if_neg e1, if_neg e2]
    clear e1 e2
    go_enter Tryd.func7, Tryd.ntmps7
    go_wp2_with fail
    refine (unhide hV _ ((unhide HT).later (nx_alloc _ _) (Nat.le_refl _))).mono ?_
    rintro e w1 ⟨rfl, hb1⟩
    obtain ⟨hc1, hf1⟩ := bcell hb1
    have hz0 : w.heap.size < w1.heap.size := by have := hb1.size; simp at this; omega
    go_wp2
    exact bodyPost_ret (v := (.tuple #[.int .i64 500, .string s, .int .i64 0])) (by simp [results, Tryd.results7, go_sem]) rfl ⟨rfl, nx_trans (nx_alloc _ _) hb1⟩
  simp only [if_neg e1, if_neg e2, if_neg e3]
  go_enter Tryd.func7, Tryd.ntmps7
  go_wp2_with fail
  refine (unhide hV _ ((unhide HT).later (nx_alloc _ _) (Nat.le_refl _))).mono ?_
  rintro e w1 ⟨rfl, hb1⟩
  obtain ⟨hc1, hf1⟩ := bcell hb1
  have hz0 : w.heap.size < w1.heap.size := by have := hb1.size; simp at this; omega
  go_wp2
  exact bodyPost_ret (v := (.tuple #[.int .i64 0, .string ⟨#[]⟩, .int .i64 1])) (by simp [results, Tryd.results7, go_sem]) rfl ⟨rfl, nx_trans (nx_alloc _ _) hb1⟩

set_option maxHeartbeats 1000000 in
theorem l09Reply_any (p : Option Addr) (c : Nat) (l : Nat) (st k n u : Int) (t : ByteArray) (w : World) (hv : vokB k n t = true) (h2 : st = 2 ∨ st = 3) :
    Calls Tryd.prog 12 #[.agg #[.slice p l c, .int .i64 st, .int .i64 k, .int .i64 n, .string t, .int .i64 u]] w fun e w' => e = .returned (.tuple #[.int .i64 (jobP st k n t).1, .string (vtextB k n t)]) ∧ Below w.heap.size w w' := by
  have hV := hide (fun w => l01ValueText_any k n t w hv)
  have e2 : (jobP 2 k n t).1 = 200 := by simp [jobP, hv]
  have e3 : (jobP 3 k n t).1 = 500 := by simp [jobP, hv]
  generalize vtextB k n t = s at hV
  rcases h2 with rfl | rfl
  · rw [e2]
    clear e2 e3 hv
    go_enter Tryd.func12, Tryd.ntmps12
    go_wp2_with fail
    refine (unhide hV _).mono ?_
    rintro e w1 ⟨rfl, hb1⟩
    go_wp2
    exact bodyPost_ret (v := (.tuple #[.int .i64 200, .string s])) (by simp [results, Tryd.results12, go_sem]) rfl ⟨rfl, nx_trans (nx_alloc _ _) hb1⟩
  · rw [e3]
    clear e2 e3 hv
    go_enter Tryd.func12, Tryd.ntmps12
    go_wp2_with fail
    refine (unhide hV _).mono ?_
    rintro e w1 ⟨rfl, hb1⟩
    go_wp2
    exact bodyPost_ret (v := (.tuple #[.int .i64 500, .string s])) (by simp [results, Tryd.results12, go_sem]) rfl ⟨rfl, nx_trans (nx_alloc _ _) hb1⟩

set_option maxHeartbeats 1000000 in
theorem specJobReply_any (p : Option Addr) (c : Nat) (l : Nat) (id cn sq si : Int) (pa : ByteArray) (bg : Bool) (st k n u : Int) (t : ByteArray) (w : World) (ht : t.size ≤ maxLen) :
    Calls Tryd.prog 5 #[.agg #[.int .i64 id, .int .i64 cn, .int .i64 sq, .string pa, .int .i64 si, .bool bg, .slice p l c, .int .i64 st, .int .i64 k, .int .i64 n, .string t, .int .i64 u]] w fun e w' => e = .returned (.tuple #[.int .i64 (jobP st k n t).1, .string (jobP st k n t).2.1, .int .i64 (jobP st k n t).2.2]) ∧ Below w.heap.size w w' := by
  have hV := hide (fun w => specValueOK_any k n t w ht)
  by_cases hst : 1 ≤ st ∧ st ≤ 3
  · obtain ⟨s1, s3⟩ := hst
    cases hv : vokB k n t
    · rw [hv] at hV
      simp only [jobP, hv, Bool.false_eq_true, if_false]
      go_enter Tryd.func5, Tryd.ntmps5
      go_wp2_with fail
      refine (l01In_is st 1 3 true _ (by simp [s1, s3])).mono ?_
      rintro e w' ⟨rfl, rfl⟩
      go_wp2_with fail
      refine (unhide hV _).mono ?_
      rintro e w2 ⟨rfl, hb2⟩
      go_wp2
      exact bodyPost_ret (v := (.tuple #[.int .i64 0, .string ⟨#[]⟩, .int .i64 1])) (by simp [results, Tryd.results5, go_sem]) rfl ⟨rfl, nx_trans (nx_al (nx_alloc _ _)) hb2⟩
    · by_cases hs1 : st = 1
      · subst hs1
        rw [hv] at hV
        simp only [jobP, hv, if_true]
        go_enter Tryd.func5, Tryd.ntmps5
        go_wp2_with fail
        refine (l01In_is 1 1 3 true _ (by simp)).mono ?_
        rintro e w' ⟨rfl, rfl⟩
        go_wp2_with fail
        refine (unhide hV _).mono ?_
        rintro e w2 ⟨rfl, hb2⟩
        obtain ⟨hc2, hf2⟩ := bcell hb2
        have hz2 : w.heap.size + 1 < w2.heap.size := by have := hb2.size; simp at this; omega
        go_wp2
        exact bodyPost_ret (v := (.tuple #[.int .i64 0, .string ⟨#[]⟩, .int .i64 15])) (by simp [results, Tryd.results5, go_sem]) rfl ⟨rfl, nx_trans (nx_al (nx_alloc _ _)) hb2⟩
      · have hX := hide (fun w => l09Reply_any p c l st k n u t w hv (by omega))
        have eT : (jobP st k n t).2.1 = vtextB k n t ∧ (jobP st k n t).2.2 = 0 := by
          obtain rfl | rfl : st = 2 ∨ st = 3 := by omega
          all_goals simp [jobP, hv]
        rw [eT.1, eT.2]
        rw [hv] at hV
        clear eT hv
        generalize (jobP st k n t).1 = z at hX
        generalize vtextB k n t = s at hX
        go_enter Tryd.func5, Tryd.ntmps5
        go_wp2_with fail
        refine (l01In_is st 1 3 true _ (by simp [s1, s3])).mono ?_
        rintro e w' ⟨rfl, rfl⟩
        go_wp2_with fail
        refine (unhide hV _).mono ?_
        rintro e w2 ⟨rfl, hb2⟩
        obtain ⟨hc2, hf2⟩ := bcell hb2
        have hz2 : w.heap.size + 1 < w2.heap.size := by have := hb2.size; simp at this; omega
        go_wp2_with fail
        refine (unhide hX _).mono ?_
        rintro e w3 ⟨rfl, hb3⟩
        go_wp2
        exact bodyPost_ret (v := (.tuple #[.int .i64 z, .string s, .int .i64 0])) (by simp [results, Tryd.results5, go_sem]) rfl ⟨rfl, nx_trans (nx_trans (nx_al (nx_alloc _ _)) hb2) hb3⟩
  · have n1 : ¬ st = 1 := by omega
    have n2 : ¬ st = 2 := by omega
    have n3 : ¬ st = 3 := by omega
    simp only [jobP, if_neg n1, if_neg n2, if_neg n3, ite_self]
    have hf : (decide (1 ≤ st) && decide (st ≤ 3)) = false := by
      rw [Bool.and_eq_false_iff, decide_eq_false_iff_not, decide_eq_false_iff_not]
      omega
    have HF := hide hf
    clear hf n1 n2 n3 hst
    go_enter Tryd.func5, Tryd.ntmps5
    go_wp2_with fail
    refine (l01In_is st 1 3 false _ (unhide HF)).mono ?_
    rintro e w' ⟨rfl, rfl⟩
    go_wp2
    exact bodyPost_ret (v := (.tuple #[.int .i64 0, .string ⟨#[]⟩, .int .i64 1])) (by simp [results, Tryd.results5, go_sem]) rfl ⟨rfl, nx_al (nx_alloc _ _)⟩

end Go.Proofs.YtcdjdfmpnfodiaaDoor
