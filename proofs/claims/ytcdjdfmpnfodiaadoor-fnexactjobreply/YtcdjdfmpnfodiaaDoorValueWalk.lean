/- What values are: 'impl.ValueOK' and 'spec.ValueOK' both answer 'vokB'; they make memory and turn none that was there. -/
import Derived.Test.YtcdjdfmpnfodiaaDoorLetters
import Derived.Laws.StructEq
import Derived.Deep.RegionWith
import Derived.Deep.RegionHeld3
namespace Go.Proofs.YtcdjdfmpnfodiaaDoor
open Go.RowKit

/-- behind a call that turned nothing old: old cells and old marks read as before -/
theorem bcell {W w1 : World} (hb : Below W.heap.size W w1) : (∀ b o, b < W.heap.size → w1.cell? ⟨b, o, none⟩ = W.cell? ⟨b, o, none⟩) ∧ (∀ b o, b < W.heap.size → w1.frozen? ⟨b, o, none⟩ = W.frozen? ⟨b, o, none⟩) :=
  ⟨fun b o h => hb.cell (p := ⟨b, o, none⟩) h, fun b o h => hb.frozen (p := ⟨b, o, none⟩) h⟩

theorem nx_trans {a b c : World} (h : Below a.heap.size a b) (k : Below b.heap.size b c) : Below a.heap.size a c := h.trans (k.mono h.size)
theorem nx_alloc (w : World) (o : Obj) : Below w.heap.size w (w.alloc o) := (Below.refl _ _).alloc (Nat.le_refl _) _
theorem nx_drew {a b : World} (h : Below a.heap.size a b) : Below a.heap.size a b.drew := h.drew

/-- a right value -/
def vokB (k n : Int) (t : ByteArray) : Bool :=
  if k = 0 then decide (n = 0) && t.toList.isEmpty
  else if k = 1 then (decide (-2147483648 ≤ n) && decide (n ≤ 2147483647)) && t.toList.isEmpty
  else if k = 2 then (decide (0 ≤ n) && decide (n ≤ 1)) && t.toList.isEmpty
  else if k = 3 then decide (n = 0) && decide (t.size ≤ 60)
  else false

theorem l01In_any (n low high : Int) (w : World) :
    Calls Tryd.prog 10 #[.int .i64 n, .int .i64 low, .int .i64 high] w fun e w' => e = .returned (.bool (decide (low ≤ n) && decide (n ≤ high))) ∧ w' = w := by
  go_enter Tryd.func10, Tryd.ntmps10
  go_wp2
  all_goals
    go_ret
    refine ⟨ret_bool ?_, rfl⟩
    rw [Bool.eq_iff_iff]
    simp <;> omega

set_option maxHeartbeats 400000 in
theorem specValueOK_any (k n : Int) (t : ByteArray) (w : World) (ht : t.size ≤ maxLen) :
    Calls Tryd.prog 11 #[.agg #[.int .i64 k, .int .i64 n, .string t]] w fun e w' => e = .returned (.bool (vokB k n t)) ∧ Below w.heap.size w w' := by
  unfold maxLen at ht
  go_enter Tryd.func11, Tryd.ntmps11
  go_wp2_with (go_at_call 10; refine (l01In_any _ _ _ _).mono ?_; rintro e w' ⟨rfl, rfl⟩)
  all_goals
    go_ret
    refine ⟨ret_bool ?_, (Below.refl _ _).alloc (Nat.le_refl _) _⟩
    simp_all [vokB] <;> omega

/-- the three makers of values -/
def intV (n : Int) : Value := .agg #[.int .i64 1, .int .i64 n, .string ⟨#[]⟩]
def boolV (b : Bool) : Value := .agg #[.int .i64 2, .int .i64 (if b = true then 1 else 0), .string ⟨#[]⟩]
def textV (t : ByteArray) : Value := .agg #[.int .i64 3, .int .i64 0, .string t]

theorem intValue_any (n : Int) (w : World) :
    Calls Tryd.prog 28 #[.int .i64 n] w fun e w' => e = .returned (intV n) ∧ Below w.heap.size w w' := by
  go_enter Tryd.func28, Tryd.ntmps28
  go_wp2
  exact bodyPost_ret (v := intV n) (by simp [results, Tryd.results28, go_sem, intV]) rfl ⟨rfl, (Below.refl _ _).alloc (Nat.le_refl _) _⟩

theorem textValue_any (t : ByteArray) (w : World) :
    Calls Tryd.prog 30 #[.string t] w fun e w' => e = .returned (textV t) ∧ Below w.heap.size w w' := by
  go_enter Tryd.func30, Tryd.ntmps30
  go_wp2
  exact bodyPost_ret (v := textV t) (by simp [results, Tryd.results30, go_sem, textV]) rfl ⟨rfl, (Below.refl _ _).alloc (Nat.le_refl _) _⟩

theorem boolValue_any (b : Bool) (w : World) :
    Calls Tryd.prog 29 #[.bool b] w fun e w' => e = .returned (boolV b) ∧ Below w.heap.size w w' := by
  cases b
  all_goals
    go_enter Tryd.func29, Tryd.ntmps29
    go_wp2
    exact bodyPost_ret (v := boolV _) (by simp [results, Tryd.results29, go_sem, boolV]) rfl ⟨rfl, (Below.refl _ _).alloc (Nat.le_refl _) _⟩

set_option maxHeartbeats 400000 in
theorem ValueOK_null (n : Int) (t : ByteArray) (w : World) :
    Calls Tryd.prog 21 #[.agg #[.int .i64 0, .int .i64 n, .string t]] w fun e w' => e = .returned (.bool (vokB 0 n t)) ∧ Below w.heap.size w w' := by
  go_enter Tryd.func21, Tryd.ntmps21
  go_wp2
  all_goals
    go_ret
    refine ⟨ret_bool ?_, (Below.refl _ _).alloc (Nat.le_refl _) _⟩
    simp_all [vokB]

set_option maxHeartbeats 400000 in
theorem ValueOK_int_yes (n : Int) (t : ByteArray) (w : World) (h1 : t.toList = []) (h2 : -2147483648 ≤ n) :
    Calls Tryd.prog 21 #[.agg #[.int .i64 1, .int .i64 n, .string t]] w fun e w' => e = .returned (.bool (vokB 1 n t)) ∧ Below w.heap.size w w' := by
  go_enter Tryd.func21, Tryd.ntmps21
  go_wp2
  go_region_held3 (fun w' => w'.cell? ⟨w.heap.size, 0, none⟩ = some (.int .i64 1) ∧ w'.cell? ⟨w.heap.size, 1, none⟩ = some (.int .i64 n) ∧ w'.cell? ⟨w.heap.size, 2, none⟩ = some (.string t)) (go_keep) ((go_at_call 28; refine (intValue_any _ _).mono ?_; rintro e w' ⟨rfl, hb⟩; unfold intV; obtain ⟨hc, hf⟩ := bcell hb))
  all_goals
    go_wp2
  all_goals
    go_ret
    exact ⟨ret_bool (by simp [vokB, h1, h2]), nx_trans (nx_drew (nx_alloc _ _)) hb⟩

set_option maxHeartbeats 400000 in
theorem ValueOK_int_low (n : Int) (t : ByteArray) (w : World) (h1 : t.toList = []) (h2 : decide (-2147483648 ≤ n) = false) :
    Calls Tryd.prog 21 #[.agg #[.int .i64 1, .int .i64 n, .string t]] w fun e w' => e = .returned (.bool (vokB 1 n t)) ∧ Below w.heap.size w w' := by
  go_enter Tryd.func21, Tryd.ntmps21
  go_wp2
  first | go_region_with (go_at_call 28; refine (intValue_any _ _).mono ?_; rintro e w' ⟨rfl, hb⟩; unfold intV; obtain ⟨hc, hf⟩ := bcell hb) | fail
  all_goals
    go_wp2
  all_goals
    go_ret
    exact ⟨ret_bool (by simp [vokB, h2]), nx_trans (nx_drew (nx_alloc _ _)) hb⟩

set_option maxHeartbeats 400000 in
theorem ValueOK_int_no (n : Int) (t : ByteArray) (w : World) (h1 : ¬ t.toList = []) :
    Calls Tryd.prog 21 #[.agg #[.int .i64 1, .int .i64 n, .string t]] w fun e w' => e = .returned (.bool (vokB 1 n t)) ∧ Below w.heap.size w w' := by
  go_enter Tryd.func21, Tryd.ntmps21
  go_wp2
  first | go_region_with (go_at_call 28; refine (intValue_any _ _).mono ?_; rintro e w' ⟨rfl, hb⟩; unfold intV; obtain ⟨hc, hf⟩ := bcell hb) | fail
  all_goals
    go_wp2
  all_goals
    go_ret
    exact ⟨ret_bool (by simp [vokB, h1]), nx_trans (nx_drew (nx_alloc _ _)) hb⟩

theorem ValueOK_int (n : Int) (t : ByteArray) (w : World) :
    Calls Tryd.prog 21 #[.agg #[.int .i64 1, .int .i64 n, .string t]] w fun e w' => e = .returned (.bool (vokB 1 n t)) ∧ Below w.heap.size w w' := by
  by_cases h1 : t.toList = []
  · by_cases h2 : -2147483648 ≤ n
    · exact ValueOK_int_yes n t w h1 h2
    · exact ValueOK_int_low n t w h1 (by simpa using h2)
  · exact ValueOK_int_no n t w h1

set_option maxHeartbeats 400000 in
theorem ValueOK_bool1_yes (t : ByteArray) (w : World) (h1 : t.toList = []) :
    Calls Tryd.prog 21 #[.agg #[.int .i64 2, .int .i64 1, .string t]] w fun e w' => e = .returned (.bool (vokB 2 1 t)) ∧ Below w.heap.size w w' := by
  go_enter Tryd.func21, Tryd.ntmps21
  go_wp2
  go_region_held3 (fun w' => w'.cell? ⟨w.heap.size, 0, none⟩ = some (.int .i64 2) ∧ w'.cell? ⟨w.heap.size, 1, none⟩ = some (.int .i64 1) ∧ w'.cell? ⟨w.heap.size, 2, none⟩ = some (.string t)) (go_keep) ((go_at_call 29; refine (boolValue_any _ _).mono ?_; rintro e w' ⟨rfl, hb⟩; simp only [boolV, if_true]; obtain ⟨hc, hf⟩ := bcell hb))
  all_goals
    go_wp2
  all_goals
    go_ret
    exact ⟨ret_bool (by simp [vokB, h1]), nx_trans (nx_drew (nx_alloc _ _)) hb⟩

set_option maxHeartbeats 400000 in
theorem ValueOK_bool1_no (t : ByteArray) (w : World) (h1 : ¬ t.toList = []) :
    Calls Tryd.prog 21 #[.agg #[.int .i64 2, .int .i64 1, .string t]] w fun e w' => e = .returned (.bool (vokB 2 1 t)) ∧ Below w.heap.size w w' := by
  go_enter Tryd.func21, Tryd.ntmps21
  go_wp2
  go_region_held3 (fun w' => w'.cell? ⟨w.heap.size, 0, none⟩ = some (.int .i64 2) ∧ w'.cell? ⟨w.heap.size, 1, none⟩ = some (.int .i64 1) ∧ w'.cell? ⟨w.heap.size, 2, none⟩ = some (.string t)) (go_keep) ((go_at_call 29; refine (boolValue_any _ _).mono ?_; rintro e w' ⟨rfl, hb⟩; simp only [boolV, if_true]; obtain ⟨hc, hf⟩ := bcell hb))
  all_goals
    go_wp2
  all_goals
    go_ret
    exact ⟨ret_bool (by simp [vokB, h1]), nx_trans (nx_drew (nx_alloc _ _)) hb⟩

set_option maxHeartbeats 400000 in
theorem ValueOK_bool0_yes (t : ByteArray) (w : World) (h1 : t.toList = []) :
    Calls Tryd.prog 21 #[.agg #[.int .i64 2, .int .i64 0, .string t]] w fun e w' => e = .returned (.bool (vokB 2 0 t)) ∧ Below w.heap.size w w' := by
  go_enter Tryd.func21, Tryd.ntmps21
  go_wp2
  go_region_held3 (fun w' => w'.cell? ⟨w.heap.size, 0, none⟩ = some (.int .i64 2) ∧ w'.cell? ⟨w.heap.size, 1, none⟩ = some (.int .i64 0) ∧ w'.cell? ⟨w.heap.size, 2, none⟩ = some (.string t)) (go_keep) ((go_at_call 29; refine (boolValue_any _ _).mono ?_; rintro e w' ⟨rfl, hb⟩; simp only [boolV, Bool.false_eq_true, if_false]; obtain ⟨hc, hf⟩ := bcell hb))
  all_goals
    go_wp2
  all_goals
    go_ret
    exact ⟨ret_bool (by simp [vokB, h1]), nx_trans (nx_drew (nx_alloc _ _)) hb⟩

set_option maxHeartbeats 400000 in
theorem ValueOK_bool0_no (t : ByteArray) (w : World) (h1 : ¬ t.toList = []) :
    Calls Tryd.prog 21 #[.agg #[.int .i64 2, .int .i64 0, .string t]] w fun e w' => e = .returned (.bool (vokB 2 0 t)) ∧ Below w.heap.size w w' := by
  go_enter Tryd.func21, Tryd.ntmps21
  go_wp2
  go_region_held3 (fun w' => w'.cell? ⟨w.heap.size, 0, none⟩ = some (.int .i64 2) ∧ w'.cell? ⟨w.heap.size, 1, none⟩ = some (.int .i64 0) ∧ w'.cell? ⟨w.heap.size, 2, none⟩ = some (.string t)) (go_keep) ((go_at_call 29; refine (boolValue_any _ _).mono ?_; rintro e w' ⟨rfl, hb⟩; simp only [boolV, Bool.false_eq_true, if_false]; obtain ⟨hc, hf⟩ := bcell hb))
  all_goals
    go_wp2
  all_goals
    go_ret
    exact ⟨ret_bool (by simp [vokB, h1]), nx_trans (nx_drew (nx_alloc _ _)) hb⟩

set_option maxHeartbeats 400000 in
theorem ValueOK_boolx (n : Int) (t : ByteArray) (w : World) (h0 : (n == 0) = false) (h1 : (n == 1) = false) (hv : Hid (vokB 2 n t = false)) :
    Calls Tryd.prog 21 #[.agg #[.int .i64 2, .int .i64 n, .string t]] w fun e w' => e = .returned (.bool (vokB 2 n t)) ∧ Below w.heap.size w w' := by
  go_enter Tryd.func21, Tryd.ntmps21
  go_wp2
  go_region_held3 (fun w' => w'.cell? ⟨w.heap.size, 0, none⟩ = some (.int .i64 2) ∧ w'.cell? ⟨w.heap.size, 1, none⟩ = some (.int .i64 n) ∧ w'.cell? ⟨w.heap.size, 2, none⟩ = some (.string t)) (go_keep) ((go_at_call 29; refine (boolValue_any _ _).mono ?_; rintro e w' ⟨rfl, hb⟩; simp only [boolV, Bool.false_eq_true, if_false]; obtain ⟨hc, hf⟩ := bcell hb))
  all_goals
    go_wp2
  all_goals
    go_ret
    exact ⟨ret_bool (by exact (unhide hv).symm), nx_trans (nx_drew (nx_alloc _ _)) hb⟩

theorem ValueOK_bool (n : Int) (t : ByteArray) (w : World) :
    Calls Tryd.prog 21 #[.agg #[.int .i64 2, .int .i64 n, .string t]] w fun e w' => e = .returned (.bool (vokB 2 n t)) ∧ Below w.heap.size w w' := by
  by_cases h1 : n = 1
  · subst h1
    by_cases h : t.toList = []
    · exact ValueOK_bool1_yes t w h
    · exact ValueOK_bool1_no t w h
  by_cases h0 : n = 0
  · subst h0
    by_cases h : t.toList = []
    · exact ValueOK_bool0_yes t w h
    · exact ValueOK_bool0_no t w h
  refine ValueOK_boolx n t w (beq_eq_false_iff_ne.2 h0) (beq_eq_false_iff_ne.2 h1) ?_
  have : decide (0 ≤ n) = false ∨ decide (n ≤ 1) = false := by simp; omega
  rcases this with h | h <;> exact hide (by simp [vokB, h])

set_option maxHeartbeats 400000 in
theorem ValueOK_text_yes (t : ByteArray) (w : World) (ht : t.size ≤ 9223372036854775807) :
    Calls Tryd.prog 21 #[.agg #[.int .i64 3, .int .i64 0, .string t]] w fun e w' => e = .returned (.bool (vokB 3 0 t)) ∧ Below w.heap.size w w' := by
  go_enter Tryd.func21, Tryd.ntmps21
  go_wp2
  go_region_held3 (fun w' => w'.cell? ⟨w.heap.size, 0, none⟩ = some (.int .i64 3) ∧ w'.cell? ⟨w.heap.size, 1, none⟩ = some (.int .i64 0) ∧ w'.cell? ⟨w.heap.size, 2, none⟩ = some (.string t)) (go_keep) ((go_at_call 30; refine (textValue_any _ _).mono ?_; rintro e w' ⟨rfl, hb⟩; simp only [textV]; obtain ⟨hc, hf⟩ := bcell hb))
  all_goals
    go_wp2
  all_goals
    go_ret
    exact ⟨ret_bool (by simp [vokB]; omega), nx_trans (nx_drew (nx_alloc _ _)) hb⟩

set_option maxHeartbeats 400000 in
theorem ValueOK_text_no (n : Int) (t : ByteArray) (w : World) (h1 : (n == 0) = false) :
    Calls Tryd.prog 21 #[.agg #[.int .i64 3, .int .i64 n, .string t]] w fun e w' => e = .returned (.bool (vokB 3 n t)) ∧ Below w.heap.size w w' := by
  go_enter Tryd.func21, Tryd.ntmps21
  go_wp2
  first | go_region_with (go_at_call 30; refine (textValue_any _ _).mono ?_; rintro e w' ⟨rfl, hb⟩; simp only [textV]; obtain ⟨hc, hf⟩ := bcell hb) | fail
  all_goals
    go_wp2
  all_goals
    go_ret
    exact ⟨ret_bool (by simp [vokB, beq_eq_false_iff_ne.1 h1]), nx_trans (nx_drew (nx_alloc _ _)) hb⟩

set_option maxHeartbeats 400000 in
theorem ValueOK_none (k n : Int) (t : ByteArray) (w : World) (h0 : (k == 0) = false) (h1 : (k == 1) = false) (h2 : (k == 2) = false) (h3 : (k == 3) = false) :
    Calls Tryd.prog 21 #[.agg #[.int .i64 k, .int .i64 n, .string t]] w fun e w' => e = .returned (.bool (vokB k n t)) ∧ Below w.heap.size w w' := by
  go_enter Tryd.func21, Tryd.ntmps21
  go_wp2
  go_ret
  refine ⟨ret_bool ?_, (Below.refl _ _).alloc (Nat.le_refl _) _⟩
  simp_all [vokB]

theorem ValueOK_any (k n : Int) (t : ByteArray) (w : World) (ht : t.size ≤ maxLen) :
    Calls Tryd.prog 21 #[.agg #[.int .i64 k, .int .i64 n, .string t]] w fun e w' => e = .returned (.bool (vokB k n t)) ∧ Below w.heap.size w w' := by
  by_cases h0 : k = 0
  · subst h0; exact ValueOK_null n t w
  by_cases h1 : k = 1
  · subst h1; exact ValueOK_int n t w
  by_cases h2 : k = 2
  · subst h2; exact ValueOK_bool n t w
  by_cases h3 : k = 3
  · subst h3
    by_cases hn : n = 0
    · subst hn; exact ValueOK_text_yes t w (by unfold maxLen at ht; exact ht)
    · exact ValueOK_text_no n t w (beq_eq_false_iff_ne.2 hn)
  exact ValueOK_none k n t w (beq_eq_false_iff_ne.2 h0) (beq_eq_false_iff_ne.2 h1) (beq_eq_false_iff_ne.2 h2) (beq_eq_false_iff_ne.2 h3)

end Go.Proofs.YtcdjdfmpnfodiaaDoor
