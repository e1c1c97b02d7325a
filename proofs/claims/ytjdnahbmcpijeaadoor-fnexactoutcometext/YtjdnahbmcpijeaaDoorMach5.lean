/- How a machine ended: 'impl.OutcomeText', 'spec.OutcomeText'. -/
import Derived.Test.YtjdnahbmcpijeaaDoorMach3
import Derived.Test.YtjdnahbmcpijeaaDoorMach4
import Derived.Test.YtjdnahbmcpijeaaDoorVText1
import Derived.Shelf.Strings.OnBuilder
import Derived.Lib.ItoaLen
namespace Go.Proofs.YtjdnahbmcpijeaaDoor
open Go.RowKit Go.Joins Go.Shelf
set_option linter.unusedVariables false

theorem builderM : Builder.Extra Tryd.prog Tryd.lays156_ren := {
  sizeBuilder := by kernel_rfl
  liesBuilder := by kernel_rfl
  t5 := Tryd.underlying5
  a5 := Tryd.isAgg5
  z5 := Tryd.sizeOf5
  v5 := Tryd.zeroValue5
  infoByte := by kernel_rfl
  cellsByte := by kernel_rfl
  sizeByte := by kernel_rfl
  neB5 := by decide }
def word2 (a b : ByteArray) : ByteArray := a ++ ⟨#[32]⟩ ++ b
theorem word2_is (a b : ByteArray) : (⟨(Lib.join ([a, b].map (·.data.toList)) [32]).toArray⟩ : ByteArray) = word2 a b := by
  apply ByteArray.ext
  simp [Lib.join, word2]
theorem joinWords_two (a b : ByteArray) (g : Nat) (w : World) (h0 : w.cell? ⟨g, 0, none⟩ = some (.string a)) (h1 : w.cell? ⟨g, 1, none⟩ = some (.string b)) (hg : g < w.heap.size) (ha : a.size ≤ 1000) (hb : b.size ≤ 1000) :
    Calls Tryd.prog 17 #[.slice (some ⟨g, 0, none⟩) 2 2] w fun e w' => e = .returned (.string (word2 a b)) ∧ Below w.heap.size w w' := by
  have hj := Any.strings_Join Tryd.lays156 builderM g 0 2 [a, b] ⟨#[32]⟩ w (fun j x hx => by
    match j, hx with
    | 0, hx => obtain rfl : a = x := by simpa using hx
               exact h0
    | 1, hx => obtain rfl : b = x := by simpa using hx
               exact h1
    | j + 2, hx => simp at hx) hg (by simp) (by simp) (by
      have h1 : a.data.size ≤ 1000 := ha
      have h2 : b.data.size ≤ 1000 := hb
      simp [Lib.join]; omega)
  rw [word2_is] at hj
  have HJ := hide hj
  clear hj
  go_enter Tryd.func17, Tryd.ntmps17
  go_wp2_with fail
  refine (unhide HJ).mono ?_
  rintro e w1 ⟨rfl, hb1⟩
  go_wp2
  go_ret
  exact ⟨rfl, hb1⟩

theorem vtext_small (k n : Int) (t : ByteArray) (hv : vokB k n t = true) : (vtextB k n t).size ≤ 60 := by
  unfold vtextB
  split
  · rename_i h
    subst h
    obtain ⟨h0, h1⟩ := vok_int hv
    have := Lib.itoa_length_le n (by omega) (by omega)
    show (Lib.itoa n).toArray.size ≤ 60
    simp; omega
  · split
    · split <;> decide
    · split
      · rename_i h
        subst h
        simp [vokB] at hv
        omega
      · decide

def outcomeP (st k n : Int) (t : ByteArray) : ByteArray × Int :=
  if vokB k n t = true then (if st = 1 then (⟨#[114, 117, 110, 115]⟩, 0) else if st = 2 then (word2 ⟨#[100, 111, 110, 101]⟩ (vtextB k n t), 0) else if st = 3 then (word2 ⟨#[116, 104, 114, 101, 119]⟩ (vtextB k n t), 0) else (⟨#[]⟩, 1)) else (⟨#[]⟩, 1)

set_option maxHeartbeats 1000000 in
theorem OutcomeText_any (p : Option Addr) (c : Nat) (l : Nat) (st k n u : Int) (t : ByteArray) (w : World) (ht : t.size ≤ maxLen) (hT : PowTab w) :
    Calls Tryd.prog 7 #[.agg #[.slice p l c, .int .i64 st, .int .i64 k, .int .i64 n, .string t, .int .i64 u]] w fun e w' => e = .returned (.tuple #[.string (outcomeP st k n t).1, .int .i64 (outcomeP st k n t).2]) ∧ Below w.heap.size w w' := by
  unfold outcomeP
  have hV := hide (fun w h => ValueText_any k n t w ht h)
  unfold vtP at hV
  have HT := hide hT
  clear hT
  cases hv : vokB k n t
  · rw [hv] at hV
    simp only [Bool.false_eq_true, if_false] at hV ⊢
    go_enter Tryd.func7, Tryd.ntmps7
    go_wp2_with fail
    refine (unhide hV _ ((unhide HT).later (nx_alloc _ _) (Nat.le_refl _))).mono ?_
    rintro e w1 ⟨rfl, hb1⟩
    go_wp2
    exact bodyPost_ret (v := (.tuple #[.string ⟨#[]⟩, .int .i64 1])) (by simp [results, Tryd.results7, go_sem]) rfl ⟨rfl, nx_trans (nx_alloc _ _) hb1⟩
  have hsm := vtext_small k n t hv
  rw [hv] at hV
  simp only [if_true] at hV ⊢
  generalize vtextB k n t = s at hV hsm
  clear hv
  by_cases e1 : st = 1
  · subst e1
    simp only [if_true]
    go_enter Tryd.func7, Tryd.ntmps7
    go_wp2_with fail
    refine (unhide hV _ ((unhide HT).later (nx_alloc _ _) (Nat.le_refl _))).mono ?_
    rintro e w1 ⟨rfl, hb1⟩
    obtain ⟨hc1, hf1⟩ := bcell hb1
    have hz0 : w.heap.size < w1.heap.size := by have := hb1.size; simp at this; omega
    go_wp2
    exact bodyPost_ret (v := (.tuple #[.string ⟨#[114, 117, 110, 115]⟩, .int .i64 0])) (by simp [results, Tryd.results7, go_sem]) rfl ⟨rfl, nx_trans (nx_alloc _ _) hb1⟩
  by_cases e2 : st = 2
  · subst e2
    simp only [if_true, if_neg e1]
    clear e1
    go_enter Tryd.func7, Tryd.ntmps7
    go_wp2_with fail
    refine (unhide hV _ ((unhide HT).later (nx_alloc _ _) (Nat.le_refl _))).mono ?_
    rintro e w1 ⟨rfl, hb1⟩
    obtain ⟨hc1, hf1⟩ := bcell hb1
    have hz0 : w.heap.size < w1.heap.size := by have := hb1.size; simp at this; omega
    go_wp2_with fail
    refine (joinWords_two ⟨#[100, 111, 110, 101]⟩ s w1.heap.size _ (by simp [go_sem]) (by simp [go_sem]) (by simp) (by decide) (by omega)).mono ?_
    rintro e w2 ⟨rfl, hb2⟩
    go_wp2
    exact bodyPost_ret (v := (.tuple #[.string (word2 ⟨#[100, 111, 110, 101]⟩ s), .int .i64 0])) (by simp [results, Tryd.results7, go_sem]) rfl ⟨rfl, nx_trans (nx_al (nx_trans (nx_alloc _ _) hb1)) hb2⟩
  by_cases e3 : st = 3
  · subst e3
    simp only [if_true, if_neg e1, if_neg e2]
    clear e1 e2
    go_enter Tryd.func7, Tryd.ntmps7
    go_wp2_with fail
    refine (unhide hV _ ((unhide HT).later (nx_alloc _ _) (Nat.le_refl _))).mono ?_
    rintro e w1 ⟨rfl, hb1⟩
    obtain ⟨hc1, hf1⟩ := bcell hb1
    have hz0 : w.heap.size < w1.heap.size := by have := hb1.size; simp at this; omega
    go_wp2_with fail
    refine (joinWords_two ⟨#[116, 104, 114, 101, 119]⟩ s w1.heap.size _ (by simp [go_sem]) (by simp [go_sem]) (by simp) (by decide) (by omega)).mono ?_
    rintro e w2 ⟨rfl, hb2⟩
    go_wp2
    exact bodyPost_ret (v := (.tuple #[.string (word2 ⟨#[116, 104, 114, 101, 119]⟩ s), .int .i64 0])) (by simp [results, Tryd.results7, go_sem]) rfl ⟨rfl, nx_trans (nx_al (nx_trans (nx_alloc _ _) hb1)) hb2⟩
  simp only [if_neg e1, if_neg e2, if_neg e3]
  go_enter Tryd.func7, Tryd.ntmps7
  go_wp2_with fail
  refine (unhide hV _ ((unhide HT).later (nx_alloc _ _) (Nat.le_refl _))).mono ?_
  rintro e w1 ⟨rfl, hb1⟩
  obtain ⟨hc1, hf1⟩ := bcell hb1
  have hz0 : w.heap.size < w1.heap.size := by have := hb1.size; simp at this; omega
  go_wp2
  exact bodyPost_ret (v := (.tuple #[.string ⟨#[]⟩, .int .i64 1])) (by simp [results, Tryd.results7, go_sem]) rfl ⟨rfl, nx_trans (nx_alloc _ _) hb1⟩

set_option maxHeartbeats 1000000 in
theorem l06Text_any (p : Option Addr) (c : Nat) (l : Nat) (st k n u : Int) (t : ByteArray) (w : World) (hv : vokB k n t = true) (h1 : 1 ≤ st) (h3 : st ≤ 3) :
    Calls Tryd.prog 13 #[.agg #[.slice p l c, .int .i64 st, .int .i64 k, .int .i64 n, .string t, .int .i64 u]] w fun e w' => e = .returned (.string (if st = 1 then ⟨#[114, 117, 110, 115]⟩ else if st = 2 then word2 ⟨#[100, 111, 110, 101]⟩ (vtextB k n t) else word2 ⟨#[116, 104, 114, 101, 119]⟩ (vtextB k n t))) ∧ Below w.heap.size w w' := by
  have hV := hide (fun w => l01ValueText_any k n t w hv)
  have hsm := vtext_small k n t hv
  generalize vtextB k n t = s at hV hsm
  clear hv
  have e2 : (⟨#[100, 111, 110, 101, 32]⟩ : ByteArray) ++ s = word2 ⟨#[100, 111, 110, 101]⟩ s := rfl
  have e3 : (⟨#[116, 104, 114, 101, 119, 32]⟩ : ByteArray) ++ s = word2 ⟨#[116, 104, 114, 101, 119]⟩ s := rfl
  have H2 := hide e2
  have H3 := hide e3
  clear e2 e3
  obtain rfl | rfl | rfl : st = 1 ∨ st = 2 ∨ st = 3 := by omega
  · simp only [if_true]
    go_enter Tryd.func13, Tryd.ntmps13
    go_wp2
    go_ret
    exact ⟨rfl, nx_alloc _ _⟩
  · simp only [if_true, if_neg (by decide : ¬ (2 : Int) = 1)]
    go_enter Tryd.func13, Tryd.ntmps13
    go_wp2_with fail
    refine (unhide hV _).mono ?_
    rintro e w1 ⟨rfl, hb1⟩
    go_wp2
    go_ret
    exact ⟨by rw [unhide H2]; rfl, nx_trans (nx_alloc _ _) hb1⟩
  · simp only [if_neg (by decide : ¬ (3 : Int) = 1), if_neg (by decide : ¬ (3 : Int) = 2)]
    go_enter Tryd.func13, Tryd.ntmps13
    go_wp2_with fail
    refine (unhide hV _).mono ?_
    rintro e w1 ⟨rfl, hb1⟩
    go_wp2
    go_ret
    exact ⟨by rw [unhide H3]; rfl, nx_trans (nx_alloc _ _) hb1⟩

set_option maxHeartbeats 1000000 in
theorem specOutcomeText_any (p : Option Addr) (c : Nat) (l : Nat) (st k n u : Int) (t : ByteArray) (w : World) (ht : t.size ≤ maxLen) :
    Calls Tryd.prog 5 #[.agg #[.slice p l c, .int .i64 st, .int .i64 k, .int .i64 n, .string t, .int .i64 u]] w fun e w' => e = .returned (.tuple #[.string (outcomeP st k n t).1, .int .i64 (outcomeP st k n t).2]) ∧ Below w.heap.size w w' := by
  unfold outcomeP
  have hV := hide (fun w => specValueOK_any k n t w ht)
  by_cases hst : 1 ≤ st ∧ st ≤ 3
  · obtain ⟨s1, s3⟩ := hst
    cases hv : vokB k n t
    · rw [hv] at hV
      simp only [Bool.false_eq_true, if_false]
      go_enter Tryd.func5, Tryd.ntmps5
      go_wp2_with fail
      refine (l01In_is st 1 3 true _ (by simp [s1, s3])).mono ?_
      rintro e w' ⟨rfl, rfl⟩
      go_wp2_with fail
      refine (unhide hV _).mono ?_
      rintro e w2 ⟨rfl, hb2⟩
      go_wp2
      exact bodyPost_ret (v := (.tuple #[.string ⟨#[]⟩, .int .i64 1])) (by simp [results, Tryd.results5, go_sem]) rfl ⟨rfl, nx_trans (nx_alloc _ _) hb2⟩
    · have hX := hide (fun w => l06Text_any p c l st k n u t w hv s1 s3)
      rw [hv] at hV
      have eS : (if st = 1 then ((⟨#[114, 117, 110, 115]⟩ : ByteArray), (0 : Int)) else if st = 2 then (word2 ⟨#[100, 111, 110, 101]⟩ (vtextB k n t), 0) else if st = 3 then (word2 ⟨#[116, 104, 114, 101, 119]⟩ (vtextB k n t), 0) else (⟨#[]⟩, 1)) = ((if st = 1 then (⟨#[114, 117, 110, 115]⟩ : ByteArray) else if st = 2 then word2 ⟨#[100, 111, 110, 101]⟩ (vtextB k n t) else word2 ⟨#[116, 104, 114, 101, 119]⟩ (vtextB k n t)), 0) := by
        obtain rfl | rfl | rfl : st = 1 ∨ st = 2 ∨ st = 3 := by omega
        all_goals rfl
      simp only [if_true]
      rw [eS]
      clear eS
      dsimp only
      generalize (if st = 1 then (⟨#[114, 117, 110, 115]⟩ : ByteArray) else if st = 2 then word2 ⟨#[100, 111, 110, 101]⟩ (vtextB k n t) else word2 ⟨#[116, 104, 114, 101, 119]⟩ (vtextB k n t)) = s at hX
      go_enter Tryd.func5, Tryd.ntmps5
      go_wp2_with fail
      refine (l01In_is st 1 3 true _ (by simp [s1, s3])).mono ?_
      rintro e w' ⟨rfl, rfl⟩
      go_wp2_with fail
      refine (unhide hV _).mono ?_
      rintro e w2 ⟨rfl, hb2⟩
      obtain ⟨hc2, hf2⟩ := bcell hb2
      have hz2 : w.heap.size < w2.heap.size := by have := hb2.size; simp at this; omega
      go_wp2_with fail
      refine (unhide hX _).mono ?_
      rintro e w3 ⟨rfl, hb3⟩
      go_wp2
      exact bodyPost_ret (v := (.tuple #[.string s, .int .i64 0])) (by simp [results, Tryd.results5, go_sem]) rfl ⟨rfl, nx_trans (nx_trans (nx_alloc _ _) hb2) hb3⟩
  · have n1 : ¬ st = 1 := by omega
    have n2 : ¬ st = 2 := by omega
    have n3 : ¬ st = 3 := by omega
    simp only [if_neg n1, if_neg n2, if_neg n3, ite_self]
    have hf : (decide (1 ≤ st) && decide (st ≤ 3)) = false := by
      rw [Bool.and_eq_false_iff, decide_eq_false_iff_not, decide_eq_false_iff_not]
      omega
    have HF := hide hf
    clear hf n1 n2 n3 hst
    go_enter Tryd.func5, Tryd.ntmps5
    go_wp2_with fail
    refine (l01In_is st 1 3 false _ (unhide HF)).mono ?_
    rintro e w' ⟨rfl, rfl⟩
    go_wp2
    exact bodyPost_ret (v := (.tuple #[.string ⟨#[]⟩, .int .i64 1])) (by simp [results, Tryd.results5, go_sem]) rfl ⟨rfl, nx_alloc _ _⟩

end Go.Proofs.YtjdnahbmcpijeaaDoor
