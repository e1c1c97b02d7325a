/- 'spec.l01Builtin', at, cut, max, min. -/
import Derived.Test.YtpncohkbdaoceaaDoorBuiltin4
import Derived.Test.YtpncohkbdaoceaaDoorVText1
namespace Go.Proofs.YtpncohkbdaoceaaDoor
open Go.RowKit
set_option linter.unusedVariables false

set_option maxRecDepth 100000 in
set_option maxHeartbeats 4000000 in
theorem l01Builtin_ata (nm : ByteArray) (b cap : Nat) (na : Int) (ta : ByteArray) (n : Int) (hs : ta.size ≤ 60) (h : n < 0) (w : World) (hn : nm.toList = [97, 116]) (q0 : w.cell? ⟨b, 0, none⟩ = some (.int .i64 3)) (q1 : w.cell? ⟨b, 1, none⟩ = some (.int .i64 na)) (q2 : w.cell? ⟨b, 2, none⟩ = some (.string ta)) (q3 : w.cell? ⟨b, 3, none⟩ = some (.int .i64 1)) (q4 : w.cell? ⟨b, 4, none⟩ = some (.int .i64 n)) :
    Calls Tryd.prog 44 #[.string nm, .slice (some ⟨b, 0, none⟩) 2 cap] w fun e w' => e = .returned (.tuple #[.agg #[.int .i64 0, .int .i64 0, .string ⟨#[]⟩], .int .i64 4]) ∧ Below w.heap.size w w' := by
  have p0 : ∀ o, (w.alloc o).cell? ⟨b, 0, none⟩ = some (.int .i64 3) := fun o => cell_later (nx_alloc _ _) q0
  have p1 : ∀ o, (w.alloc o).cell? ⟨b, 1, none⟩ = some (.int .i64 na) := fun o => cell_later (nx_alloc _ _) q1
  have p2 : ∀ o, (w.alloc o).cell? ⟨b, 2, none⟩ = some (.string ta) := fun o => cell_later (nx_alloc _ _) q2
  have p3 : ∀ o, (w.alloc o).cell? ⟨b, 3, none⟩ = some (.int .i64 1) := fun o => cell_later (nx_alloc _ _) q3
  have pp3 : ∀ o o', ((w.alloc o).alloc o').cell? ⟨b, 3, none⟩ = some (.int .i64 1) := fun o o' => cell_later (nx_trans (nx_alloc _ _) (nx_alloc _ _)) q3
  have p4 : ∀ o, (w.alloc o).cell? ⟨b, 4, none⟩ = some (.int .i64 n) := fun o => cell_later (nx_alloc _ _) q4
  have pp4 : ∀ o o', ((w.alloc o).alloc o').cell? ⟨b, 4, none⟩ = some (.int .i64 n) := fun o o' => cell_later (nx_trans (nx_alloc _ _) (nx_alloc _ _)) q4
  have hE := ne_pair (World.block_lt_of_cell? _ _ q0)
  go_enter Tryd.func44, Tryd.ntmps44
  have hw : IntKind.i64.wrap ((ta.size : Int) - 1) = (ta.size : Int) - 1 := by rw [IntKind.wrap_i64]; omega
  go_wp2
  go_region_held3 (fun y => y.cell? ⟨b, 4, none⟩ = some (.int .i64 n) ∧ y.cell? ⟨w.heap.size + 1, 2, none⟩ = some (.string ta)) (go_keep) ((go_at_call 55; refine (l01In_is _ _ _ false _ (by simp; omega)).mono ?_; rintro e y ⟨rfl, rfl⟩))
  all_goals go_wp2
  all_goals exact bodyPost_ret (v := (.tuple #[.agg #[.int .i64 0, .int .i64 0, .string ⟨#[]⟩], .int .i64 4])) (by simp [results, Tryd.results44, go_sem]) rfl ⟨rfl, (by repeat (first | exact Below.refl _ _ | refine nx_al ?_ | refine nx_set ?_ (by first | omega | (simp <;> omega)) | refine nx_drew ?_ | refine nx_trans ?_ (by assumption)))⟩

set_option maxRecDepth 100000 in
set_option maxHeartbeats 4000000 in
theorem l01Builtin_atb (nm : ByteArray) (b cap : Nat) (na : Int) (ta : ByteArray) (n : Int) (hs : ta.size ≤ 60) (h : (ta.size : Int) ≤ n) (w : World) (hn : nm.toList = [97, 116]) (q0 : w.cell? ⟨b, 0, none⟩ = some (.int .i64 3)) (q1 : w.cell? ⟨b, 1, none⟩ = some (.int .i64 na)) (q2 : w.cell? ⟨b, 2, none⟩ = some (.string ta)) (q3 : w.cell? ⟨b, 3, none⟩ = some (.int .i64 1)) (q4 : w.cell? ⟨b, 4, none⟩ = some (.int .i64 n)) :
    Calls Tryd.prog 44 #[.string nm, .slice (some ⟨b, 0, none⟩) 2 cap] w fun e w' => e = .returned (.tuple #[.agg #[.int .i64 0, .int .i64 0, .string ⟨#[]⟩], .int .i64 4]) ∧ Below w.heap.size w w' := by
  have p0 : ∀ o, (w.alloc o).cell? ⟨b, 0, none⟩ = some (.int .i64 3) := fun o => cell_later (nx_alloc _ _) q0
  have p1 : ∀ o, (w.alloc o).cell? ⟨b, 1, none⟩ = some (.int .i64 na) := fun o => cell_later (nx_alloc _ _) q1
  have p2 : ∀ o, (w.alloc o).cell? ⟨b, 2, none⟩ = some (.string ta) := fun o => cell_later (nx_alloc _ _) q2
  have p3 : ∀ o, (w.alloc o).cell? ⟨b, 3, none⟩ = some (.int .i64 1) := fun o => cell_later (nx_alloc _ _) q3
  have pp3 : ∀ o o', ((w.alloc o).alloc o').cell? ⟨b, 3, none⟩ = some (.int .i64 1) := fun o o' => cell_later (nx_trans (nx_alloc _ _) (nx_alloc _ _)) q3
  have p4 : ∀ o, (w.alloc o).cell? ⟨b, 4, none⟩ = some (.int .i64 n) := fun o => cell_later (nx_alloc _ _) q4
  have pp4 : ∀ o o', ((w.alloc o).alloc o').cell? ⟨b, 4, none⟩ = some (.int .i64 n) := fun o o' => cell_later (nx_trans (nx_alloc _ _) (nx_alloc _ _)) q4
  have hE := ne_pair (World.block_lt_of_cell? _ _ q0)
  go_enter Tryd.func44, Tryd.ntmps44
  have hw : IntKind.i64.wrap ((ta.size : Int) - 1) = (ta.size : Int) - 1 := by rw [IntKind.wrap_i64]; omega
  go_wp2
  go_region_held3 (fun y => y.cell? ⟨b, 4, none⟩ = some (.int .i64 n) ∧ y.cell? ⟨w.heap.size + 1, 2, none⟩ = some (.string ta)) (go_keep) ((go_at_call 55; refine (l01In_is _ _ _ false _ (by simp; omega)).mono ?_; rintro e y ⟨rfl, rfl⟩))
  all_goals go_wp2
  all_goals exact bodyPost_ret (v := (.tuple #[.agg #[.int .i64 0, .int .i64 0, .string ⟨#[]⟩], .int .i64 4])) (by simp [results, Tryd.results44, go_sem]) rfl ⟨rfl, (by repeat (first | exact Below.refl _ _ | refine nx_al ?_ | refine nx_set ?_ (by first | omega | (simp <;> omega)) | refine nx_drew ?_ | refine nx_trans ?_ (by assumption)))⟩

set_option maxRecDepth 100000 in
set_option maxHeartbeats 4000000 in
theorem l01Builtin_atc (nm : ByteArray) (b cap : Nat) (na : Int) (ta : ByteArray) (k : Nat) (hs : ta.size ≤ 60) (h : k < ta.size) (hwr : wrap64 ((ta[k].toNat : Nat) : Int) = ((ta[k].toNat : Nat) : Int)) (hwk : IntKind.i64.wrap ((ta[k].toNat : Nat) : Int) = ((ta[k].toNat : Nat) : Int)) (w : World) (hn : nm.toList = [97, 116]) (q0 : w.cell? ⟨b, 0, none⟩ = some (.int .i64 3)) (q1 : w.cell? ⟨b, 1, none⟩ = some (.int .i64 na)) (q2 : w.cell? ⟨b, 2, none⟩ = some (.string ta)) (q3 : w.cell? ⟨b, 3, none⟩ = some (.int .i64 1)) (q4 : w.cell? ⟨b, 4, none⟩ = some (.int .i64 (k : Int))) :
    Calls Tryd.prog 44 #[.string nm, .slice (some ⟨b, 0, none⟩) 2 cap] w fun e w' => e = .returned (.tuple #[.agg #[.int .i64 1, .int .i64 ((ta[k].toNat : Nat) : Int), .string ⟨#[]⟩], .int .i64 0]) ∧ Below w.heap.size w w' := by
  have p0 : ∀ o, (w.alloc o).cell? ⟨b, 0, none⟩ = some (.int .i64 3) := fun o => cell_later (nx_alloc _ _) q0
  have p1 : ∀ o, (w.alloc o).cell? ⟨b, 1, none⟩ = some (.int .i64 na) := fun o => cell_later (nx_alloc _ _) q1
  have p2 : ∀ o, (w.alloc o).cell? ⟨b, 2, none⟩ = some (.string ta) := fun o => cell_later (nx_alloc _ _) q2
  have p3 : ∀ o, (w.alloc o).cell? ⟨b, 3, none⟩ = some (.int .i64 1) := fun o => cell_later (nx_alloc _ _) q3
  have pp3 : ∀ o o', ((w.alloc o).alloc o').cell? ⟨b, 3, none⟩ = some (.int .i64 1) := fun o o' => cell_later (nx_trans (nx_alloc _ _) (nx_alloc _ _)) q3
  have p4 : ∀ o, (w.alloc o).cell? ⟨b, 4, none⟩ = some (.int .i64 (k : Int)) := fun o => cell_later (nx_alloc _ _) q4
  have pp4 : ∀ o o', ((w.alloc o).alloc o').cell? ⟨b, 4, none⟩ = some (.int .i64 (k : Int)) := fun o o' => cell_later (nx_trans (nx_alloc _ _) (nx_alloc _ _)) q4
  have hE := ne_pair (World.block_lt_of_cell? _ _ q0)
  go_enter Tryd.func44, Tryd.ntmps44
  have hw : IntKind.i64.wrap ((ta.size : Int) - 1) = (ta.size : Int) - 1 := by rw [IntKind.wrap_i64]; omega
  go_wp2
  go_region_held3 (fun y => y.cell? ⟨b, 4, none⟩ = some (.int .i64 (k : Int)) ∧ y.cell? ⟨w.heap.size + 1, 2, none⟩ = some (.string ta)) (go_keep) ((go_at_call 55; refine (l01In_is _ _ _ true _ (by simp; omega)).mono ?_; rintro e y ⟨rfl, rfl⟩))
  all_goals go_wp2
  all_goals go_region_held3 (fun y => y.cell? ⟨b, 4, none⟩ = some (.int .i64 (k : Int)) ∧ y.cell? ⟨w.heap.size + 1, 2, none⟩ = some (.string ta)) (go_keep) ((go_at_call 50; refine (l01Int_agg _ _).mono ?_; rintro e y ⟨rfl, hbx⟩; obtain ⟨hc, hf⟩ := bcell hbx; have hz := hbx.size; (try simp at hz); have hz0 := Nat.lt_of_succ_le hz; have z0 := cell_later (a := ⟨w.heap.size, 0, none⟩) (v := .int .i64 0) hbx (by simp [*]); have z1 := cell_later (a := ⟨w.heap.size, 1, none⟩) (v := .int .i64 0) hbx (by simp [*]); have z2 := cell_later (a := ⟨w.heap.size, 2, none⟩) (v := .string ⟨#[]⟩) hbx (by simp [*]); have d2 := cell_later (a := ⟨w.heap.size + 1, 2, none⟩) (v := .string ta) hbx (by simp [*]); have c4 := cell_later (a := ⟨b, 4, none⟩) (v := .int .i64 (k : Int)) hbx (by simp [*])))
  all_goals go_wp2
  all_goals exact bodyPost_ret (v := (.tuple #[.agg #[.int .i64 1, .int .i64 ((ta[k].toNat : Nat) : Int), .string ⟨#[]⟩], .int .i64 0])) (by simp [results, Tryd.results44, go_sem, *]) rfl ⟨rfl, (by repeat (first | exact Below.refl _ _ | refine nx_al ?_ | refine nx_set ?_ (by first | omega | (simp <;> omega)) | refine nx_drew ?_ | refine nx_trans ?_ (by assumption)))⟩

set_option maxRecDepth 100000 in
set_option maxHeartbeats 2000000 in
theorem l01Builtin_cuta (nm : ByteArray) (b cap : Nat) (na : Int) (ta : ByteArray) (n m : Int) (hs : ta.size ≤ 60) (h : n < 0) (w : World) (hn : nm.toList = [99, 117, 116]) (q0 : w.cell? ⟨b, 0, none⟩ = some (.int .i64 3)) (q1 : w.cell? ⟨b, 1, none⟩ = some (.int .i64 na)) (q2 : w.cell? ⟨b, 2, none⟩ = some (.string ta)) (q3 : w.cell? ⟨b, 3, none⟩ = some (.int .i64 1)) (q4 : w.cell? ⟨b, 4, none⟩ = some (.int .i64 n)) (q6 : w.cell? ⟨b, 6, none⟩ = some (.int .i64 1)) (q7 : w.cell? ⟨b, 7, none⟩ = some (.int .i64 m)) :
    Calls Tryd.prog 44 #[.string nm, .slice (some ⟨b, 0, none⟩) 3 cap] w fun e w' => e = .returned (.tuple #[.agg #[.int .i64 0, .int .i64 0, .string ⟨#[]⟩], .int .i64 4]) ∧ Below w.heap.size w w' := by
  have p0 : ∀ o, (w.alloc o).cell? ⟨b, 0, none⟩ = some (.int .i64 3) := fun o => cell_later (nx_alloc _ _) q0
  have p1 : ∀ o, (w.alloc o).cell? ⟨b, 1, none⟩ = some (.int .i64 na) := fun o => cell_later (nx_alloc _ _) q1
  have p2 : ∀ o, (w.alloc o).cell? ⟨b, 2, none⟩ = some (.string ta) := fun o => cell_later (nx_alloc _ _) q2
  have p3 : ∀ o, (w.alloc o).cell? ⟨b, 3, none⟩ = some (.int .i64 1) := fun o => cell_later (nx_alloc _ _) q3
  have pp3 : ∀ o o', ((w.alloc o).alloc o').cell? ⟨b, 3, none⟩ = some (.int .i64 1) := fun o o' => cell_later (nx_trans (nx_alloc _ _) (nx_alloc _ _)) q3
  have p4 : ∀ o, (w.alloc o).cell? ⟨b, 4, none⟩ = some (.int .i64 n) := fun o => cell_later (nx_alloc _ _) q4
  have pp4 : ∀ o o', ((w.alloc o).alloc o').cell? ⟨b, 4, none⟩ = some (.int .i64 n) := fun o o' => cell_later (nx_trans (nx_alloc _ _) (nx_alloc _ _)) q4
  have p6 : ∀ o, (w.alloc o).cell? ⟨b, 6, none⟩ = some (.int .i64 1) := fun o => cell_later (nx_alloc _ _) q6
  have pp6 : ∀ o o', ((w.alloc o).alloc o').cell? ⟨b, 6, none⟩ = some (.int .i64 1) := fun o o' => cell_later (nx_trans (nx_alloc _ _) (nx_alloc _ _)) q6
  have p7 : ∀ o, (w.alloc o).cell? ⟨b, 7, none⟩ = some (.int .i64 m) := fun o => cell_later (nx_alloc _ _) q7
  have pp7 : ∀ o o', ((w.alloc o).alloc o').cell? ⟨b, 7, none⟩ = some (.int .i64 m) := fun o o' => cell_later (nx_trans (nx_alloc _ _) (nx_alloc _ _)) q7
  have hE := ne_pair (World.block_lt_of_cell? _ _ q0)
  go_enter Tryd.func44, Tryd.ntmps44
  go_wp2_with fail
  refine (l01In_is _ _ _ false _ (by simp; omega)).mono ?_
  rintro e y ⟨rfl, rfl⟩
  go_wp2
  exact bodyPost_ret (v := (.tuple #[.agg #[.int .i64 0, .int .i64 0, .string ⟨#[]⟩], .int .i64 4])) (by simp [results, Tryd.results44, go_sem]) rfl ⟨rfl, (by repeat (first | exact Below.refl _ _ | refine nx_al ?_ | refine nx_set ?_ (by first | omega | (simp <;> omega)) | refine nx_drew ?_ | refine nx_trans ?_ (by assumption)))⟩

set_option maxRecDepth 100000 in
set_option maxHeartbeats 2000000 in
theorem l01Builtin_cuta2 (nm : ByteArray) (b cap : Nat) (na : Int) (ta : ByteArray) (n m : Int) (hs : ta.size ≤ 60) (h : (ta.size : Int) < n) (w : World) (hn : nm.toList = [99, 117, 116]) (q0 : w.cell? ⟨b, 0, none⟩ = some (.int .i64 3)) (q1 : w.cell? ⟨b, 1, none⟩ = some (.int .i64 na)) (q2 : w.cell? ⟨b, 2, none⟩ = some (.string ta)) (q3 : w.cell? ⟨b, 3, none⟩ = some (.int .i64 1)) (q4 : w.cell? ⟨b, 4, none⟩ = some (.int .i64 n)) (q6 : w.cell? ⟨b, 6, none⟩ = some (.int .i64 1)) (q7 : w.cell? ⟨b, 7, none⟩ = some (.int .i64 m)) :
    Calls Tryd.prog 44 #[.string nm, .slice (some ⟨b, 0, none⟩) 3 cap] w fun e w' => e = .returned (.tuple #[.agg #[.int .i64 0, .int .i64 0, .string ⟨#[]⟩], .int .i64 4]) ∧ Below w.heap.size w w' := by
  have p0 : ∀ o, (w.alloc o).cell? ⟨b, 0, none⟩ = some (.int .i64 3) := fun o => cell_later (nx_alloc _ _) q0
  have p1 : ∀ o, (w.alloc o).cell? ⟨b, 1, none⟩ = some (.int .i64 na) := fun o => cell_later (nx_alloc _ _) q1
  have p2 : ∀ o, (w.alloc o).cell? ⟨b, 2, none⟩ = some (.string ta) := fun o => cell_later (nx_alloc _ _) q2
  have p3 : ∀ o, (w.alloc o).cell? ⟨b, 3, none⟩ = some (.int .i64 1) := fun o => cell_later (nx_alloc _ _) q3
  have pp3 : ∀ o o', ((w.alloc o).alloc o').cell? ⟨b, 3, none⟩ = some (.int .i64 1) := fun o o' => cell_later (nx_trans (nx_alloc _ _) (nx_alloc _ _)) q3
  have p4 : ∀ o, (w.alloc o).cell? ⟨b, 4, none⟩ = some (.int .i64 n) := fun o => cell_later (nx_alloc _ _) q4
  have pp4 : ∀ o o', ((w.alloc o).alloc o').cell? ⟨b, 4, none⟩ = some (.int .i64 n) := fun o o' => cell_later (nx_trans (nx_alloc _ _) (nx_alloc _ _)) q4
  have p6 : ∀ o, (w.alloc o).cell? ⟨b, 6, none⟩ = some (.int .i64 1) := fun o => cell_later (nx_alloc _ _) q6
  have pp6 : ∀ o o', ((w.alloc o).alloc o').cell? ⟨b, 6, none⟩ = some (.int .i64 1) := fun o o' => cell_later (nx_trans (nx_alloc _ _) (nx_alloc _ _)) q6
  have p7 : ∀ o, (w.alloc o).cell? ⟨b, 7, none⟩ = some (.int .i64 m) := fun o => cell_later (nx_alloc _ _) q7
  have pp7 : ∀ o o', ((w.alloc o).alloc o').cell? ⟨b, 7, none⟩ = some (.int .i64 m) := fun o o' => cell_later (nx_trans (nx_alloc _ _) (nx_alloc _ _)) q7
  have hE := ne_pair (World.block_lt_of_cell? _ _ q0)
  go_enter Tryd.func44, Tryd.ntmps44
  go_wp2_with fail
  refine (l01In_is _ _ _ false _ (by simp; omega)).mono ?_
  rintro e y ⟨rfl, rfl⟩
  go_wp2
  exact bodyPost_ret (v := (.tuple #[.agg #[.int .i64 0, .int .i64 0, .string ⟨#[]⟩], .int .i64 4])) (by simp [results, Tryd.results44, go_sem]) rfl ⟨rfl, (by repeat (first | exact Below.refl _ _ | refine nx_al ?_ | refine nx_set ?_ (by first | omega | (simp <;> omega)) | refine nx_drew ?_ | refine nx_trans ?_ (by assumption)))⟩

set_option maxRecDepth 100000 in
set_option maxHeartbeats 2000000 in
theorem l01Builtin_cutb (nm : ByteArray) (b cap : Nat) (na : Int) (ta : ByteArray) (n m : Int) (hs : ta.size ≤ 60) (h0 : 0 ≤ n) (h1 : n ≤ (ta.size : Int)) (h : m < n) (w : World) (hn : nm.toList = [99, 117, 116]) (q0 : w.cell? ⟨b, 0, none⟩ = some (.int .i64 3)) (q1 : w.cell? ⟨b, 1, none⟩ = some (.int .i64 na)) (q2 : w.cell? ⟨b, 2, none⟩ = some (.string ta)) (q3 : w.cell? ⟨b, 3, none⟩ = some (.int .i64 1)) (q4 : w.cell? ⟨b, 4, none⟩ = some (.int .i64 n)) (q6 : w.cell? ⟨b, 6, none⟩ = some (.int .i64 1)) (q7 : w.cell? ⟨b, 7, none⟩ = some (.int .i64 m)) :
    Calls Tryd.prog 44 #[.string nm, .slice (some ⟨b, 0, none⟩) 3 cap] w fun e w' => e = .returned (.tuple #[.agg #[.int .i64 0, .int .i64 0, .string ⟨#[]⟩], .int .i64 4]) ∧ Below w.heap.size w w' := by
  have p0 : ∀ o, (w.alloc o).cell? ⟨b, 0, none⟩ = some (.int .i64 3) := fun o => cell_later (nx_alloc _ _) q0
  have p1 : ∀ o, (w.alloc o).cell? ⟨b, 1, none⟩ = some (.int .i64 na) := fun o => cell_later (nx_alloc _ _) q1
  have p2 : ∀ o, (w.alloc o).cell? ⟨b, 2, none⟩ = some (.string ta) := fun o => cell_later (nx_alloc _ _) q2
  have p3 : ∀ o, (w.alloc o).cell? ⟨b, 3, none⟩ = some (.int .i64 1) := fun o => cell_later (nx_alloc _ _) q3
  have pp3 : ∀ o o', ((w.alloc o).alloc o').cell? ⟨b, 3, none⟩ = some (.int .i64 1) := fun o o' => cell_later (nx_trans (nx_alloc _ _) (nx_alloc _ _)) q3
  have p4 : ∀ o, (w.alloc o).cell? ⟨b, 4, none⟩ = some (.int .i64 n) := fun o => cell_later (nx_alloc _ _) q4
  have pp4 : ∀ o o', ((w.alloc o).alloc o').cell? ⟨b, 4, none⟩ = some (.int .i64 n) := fun o o' => cell_later (nx_trans (nx_alloc _ _) (nx_alloc _ _)) q4
  have p6 : ∀ o, (w.alloc o).cell? ⟨b, 6, none⟩ = some (.int .i64 1) := fun o => cell_later (nx_alloc _ _) q6
  have pp6 : ∀ o o', ((w.alloc o).alloc o').cell? ⟨b, 6, none⟩ = some (.int .i64 1) := fun o o' => cell_later (nx_trans (nx_alloc _ _) (nx_alloc _ _)) q6
  have p7 : ∀ o, (w.alloc o).cell? ⟨b, 7, none⟩ = some (.int .i64 m) := fun o => cell_later (nx_alloc _ _) q7
  have pp7 : ∀ o o', ((w.alloc o).alloc o').cell? ⟨b, 7, none⟩ = some (.int .i64 m) := fun o o' => cell_later (nx_trans (nx_alloc _ _) (nx_alloc _ _)) q7
  have hE := ne_pair (World.block_lt_of_cell? _ _ q0)
  go_enter Tryd.func44, Tryd.ntmps44
  go_wp2_with fail
  refine (l01In_is _ _ _ true _ (by simp; omega)).mono ?_
  rintro e y ⟨rfl, rfl⟩
  go_wp2_with fail
  refine (l01In_is _ _ _ false _ (by simp; omega)).mono ?_
  rintro e y ⟨rfl, rfl⟩
  go_wp2
  exact bodyPost_ret (v := (.tuple #[.agg #[.int .i64 0, .int .i64 0, .string ⟨#[]⟩], .int .i64 4])) (by simp [results, Tryd.results44, go_sem]) rfl ⟨rfl, (by repeat (first | exact Below.refl _ _ | refine nx_al ?_ | refine nx_set ?_ (by first | omega | (simp <;> omega)) | refine nx_drew ?_ | refine nx_trans ?_ (by assumption)))⟩

set_option maxRecDepth 100000 in
set_option maxHeartbeats 2000000 in
theorem l01Builtin_cutc (nm : ByteArray) (b cap : Nat) (na : Int) (ta : ByteArray) (n m : Int) (hs : ta.size ≤ 60) (h0 : 0 ≤ n) (h1 : n ≤ (ta.size : Int)) (h : (ta.size : Int) < m) (w : World) (hn : nm.toList = [99, 117, 116]) (q0 : w.cell? ⟨b, 0, none⟩ = some (.int .i64 3)) (q1 : w.cell? ⟨b, 1, none⟩ = some (.int .i64 na)) (q2 : w.cell? ⟨b, 2, none⟩ = some (.string ta)) (q3 : w.cell? ⟨b, 3, none⟩ = some (.int .i64 1)) (q4 : w.cell? ⟨b, 4, none⟩ = some (.int .i64 n)) (q6 : w.cell? ⟨b, 6, none⟩ = some (.int .i64 1)) (q7 : w.cell? ⟨b, 7, none⟩ = some (.int .i64 m)) :
    Calls Tryd.prog 44 #[.string nm, .slice (some ⟨b, 0, none⟩) 3 cap] w fun e w' => e = .returned (.tuple #[.agg #[.int .i64 0, .int .i64 0, .string ⟨#[]⟩], .int .i64 4]) ∧ Below w.heap.size w w' := by
  have p0 : ∀ o, (w.alloc o).cell? ⟨b, 0, none⟩ = some (.int .i64 3) := fun o => cell_later (nx_alloc _ _) q0
  have p1 : ∀ o, (w.alloc o).cell? ⟨b, 1, none⟩ = some (.int .i64 na) := fun o => cell_later (nx_alloc _ _) q1
  have p2 : ∀ o, (w.alloc o).cell? ⟨b, 2, none⟩ = some (.string ta) := fun o => cell_later (nx_alloc _ _) q2
  have p3 : ∀ o, (w.alloc o).cell? ⟨b, 3, none⟩ = some (.int .i64 1) := fun o => cell_later (nx_alloc _ _) q3
  have pp3 : ∀ o o', ((w.alloc o).alloc o').cell? ⟨b, 3, none⟩ = some (.int .i64 1) := fun o o' => cell_later (nx_trans (nx_alloc _ _) (nx_alloc _ _)) q3
  have p4 : ∀ o, (w.alloc o).cell? ⟨b, 4, none⟩ = some (.int .i64 n) := fun o => cell_later (nx_alloc _ _) q4
  have pp4 : ∀ o o', ((w.alloc o).alloc o').cell? ⟨b, 4, none⟩ = some (.int .i64 n) := fun o o' => cell_later (nx_trans (nx_alloc _ _) (nx_alloc _ _)) q4
  have p6 : ∀ o, (w.alloc o).cell? ⟨b, 6, none⟩ = some (.int .i64 1) := fun o => cell_later (nx_alloc _ _) q6
  have pp6 : ∀ o o', ((w.alloc o).alloc o').cell? ⟨b, 6, none⟩ = some (.int .i64 1) := fun o o' => cell_later (nx_trans (nx_alloc _ _) (nx_alloc _ _)) q6
  have p7 : ∀ o, (w.alloc o).cell? ⟨b, 7, none⟩ = some (.int .i64 m) := fun o => cell_later (nx_alloc _ _) q7
  have pp7 : ∀ o o', ((w.alloc o).alloc o').cell? ⟨b, 7, none⟩ = some (.int .i64 m) := fun o o' => cell_later (nx_trans (nx_alloc _ _) (nx_alloc _ _)) q7
  have hE := ne_pair (World.block_lt_of_cell? _ _ q0)
  go_enter Tryd.func44, Tryd.ntmps44
  go_wp2_with fail
  refine (l01In_is _ _ _ true _ (by simp; omega)).mono ?_
  rintro e y ⟨rfl, rfl⟩
  go_wp2_with fail
  refine (l01In_is _ _ _ false _ (by simp; omega)).mono ?_
  rintro e y ⟨rfl, rfl⟩
  go_wp2
  exact bodyPost_ret (v := (.tuple #[.agg #[.int .i64 0, .int .i64 0, .string ⟨#[]⟩], .int .i64 4])) (by simp [results, Tryd.results44, go_sem]) rfl ⟨rfl, (by repeat (first | exact Below.refl _ _ | refine nx_al ?_ | refine nx_set ?_ (by first | omega | (simp <;> omega)) | refine nx_drew ?_ | refine nx_trans ?_ (by assumption)))⟩

set_option maxRecDepth 100000 in
set_option maxHeartbeats 2000000 in
theorem l01Builtin_cutd (nm : ByteArray) (b cap : Nat) (na : Int) (ta : ByteArray) (j k : Nat) (hs : ta.size ≤ 60) (h1 : j ≤ k) (h : k ≤ ta.size) (w : World) (hn : nm.toList = [99, 117, 116]) (q0 : w.cell? ⟨b, 0, none⟩ = some (.int .i64 3)) (q1 : w.cell? ⟨b, 1, none⟩ = some (.int .i64 na)) (q2 : w.cell? ⟨b, 2, none⟩ = some (.string ta)) (q3 : w.cell? ⟨b, 3, none⟩ = some (.int .i64 1)) (q4 : w.cell? ⟨b, 4, none⟩ = some (.int .i64 (j : Int))) (q6 : w.cell? ⟨b, 6, none⟩ = some (.int .i64 1)) (q7 : w.cell? ⟨b, 7, none⟩ = some (.int .i64 (k : Int))) :
    Calls Tryd.prog 44 #[.string nm, .slice (some ⟨b, 0, none⟩) 3 cap] w fun e w' => e = .returned (.tuple #[.agg #[.int .i64 3, .int .i64 0, .string (ta.extract j k)], .int .i64 0]) ∧ Below w.heap.size w w' := by
  have p0 : ∀ o, (w.alloc o).cell? ⟨b, 0, none⟩ = some (.int .i64 3) := fun o => cell_later (nx_alloc _ _) q0
  have p1 : ∀ o, (w.alloc o).cell? ⟨b, 1, none⟩ = some (.int .i64 na) := fun o => cell_later (nx_alloc _ _) q1
  have p2 : ∀ o, (w.alloc o).cell? ⟨b, 2, none⟩ = some (.string ta) := fun o => cell_later (nx_alloc _ _) q2
  have p3 : ∀ o, (w.alloc o).cell? ⟨b, 3, none⟩ = some (.int .i64 1) := fun o => cell_later (nx_alloc _ _) q3
  have pp3 : ∀ o o', ((w.alloc o).alloc o').cell? ⟨b, 3, none⟩ = some (.int .i64 1) := fun o o' => cell_later (nx_trans (nx_alloc _ _) (nx_alloc _ _)) q3
  have p4 : ∀ o, (w.alloc o).cell? ⟨b, 4, none⟩ = some (.int .i64 (j : Int)) := fun o => cell_later (nx_alloc _ _) q4
  have pp4 : ∀ o o', ((w.alloc o).alloc o').cell? ⟨b, 4, none⟩ = some (.int .i64 (j : Int)) := fun o o' => cell_later (nx_trans (nx_alloc _ _) (nx_alloc _ _)) q4
  have p6 : ∀ o, (w.alloc o).cell? ⟨b, 6, none⟩ = some (.int .i64 1) := fun o => cell_later (nx_alloc _ _) q6
  have pp6 : ∀ o o', ((w.alloc o).alloc o').cell? ⟨b, 6, none⟩ = some (.int .i64 1) := fun o o' => cell_later (nx_trans (nx_alloc _ _) (nx_alloc _ _)) q6
  have p7 : ∀ o, (w.alloc o).cell? ⟨b, 7, none⟩ = some (.int .i64 (k : Int)) := fun o => cell_later (nx_alloc _ _) q7
  have pp7 : ∀ o o', ((w.alloc o).alloc o').cell? ⟨b, 7, none⟩ = some (.int .i64 (k : Int)) := fun o o' => cell_later (nx_trans (nx_alloc _ _) (nx_alloc _ _)) q7
  have hE := ne_pair (World.block_lt_of_cell? _ _ q0)
  go_enter Tryd.func44, Tryd.ntmps44
  go_wp2_with fail
  refine (l01In_is _ _ _ true _ (by simp; omega)).mono ?_
  rintro e y ⟨rfl, rfl⟩
  go_wp2_with fail
  refine (l01In_is _ _ _ true _ (by simp; omega)).mono ?_
  rintro e y ⟨rfl, rfl⟩
  go_wp2_with fail
  refine (l01Text_any _ _).mono ?_
  rintro e w1 ⟨rfl, hb1⟩
  obtain ⟨hc1, hf1⟩ := bcell hb1
  have hz1_0 : w.heap.size < w1.heap.size := by have := hb1.size; first | omega | (simp at this; omega)
  have hz1_1 : w.heap.size + 1 < w1.heap.size := by have := hb1.size; first | omega | (simp at this; omega)
  have z1_0 : w1.cell? ⟨w.heap.size, 0, none⟩ = some (.int .i64 0) := by rw [hc1 _ _ (by first | omega | (simp; done) | (simp; omega))]; simp [World.cell?_alloc_at, World.cell?_alloc_past]
  have z1_1 : w1.cell? ⟨w.heap.size, 1, none⟩ = some (.int .i64 0) := by rw [hc1 _ _ (by first | omega | (simp; done) | (simp; omega))]; simp [World.cell?_alloc_at, World.cell?_alloc_past]
  have z1_2 : w1.cell? ⟨w.heap.size, 2, none⟩ = some (.string ⟨#[]⟩) := by rw [hc1 _ _ (by first | omega | (simp; done) | (simp; omega))]; simp [World.cell?_alloc_at, World.cell?_alloc_past]
  go_wp2
  exact bodyPost_ret (v := (.tuple #[.agg #[.int .i64 3, .int .i64 0, .string (ta.extract j k)], .int .i64 0])) (by simp [results, Tryd.results44, go_sem, z1_0, z1_1, z1_2]) rfl ⟨rfl, (by repeat (first | exact Below.refl _ _ | refine nx_al ?_ | refine nx_set ?_ (by first | omega | (simp <;> omega)) | refine nx_drew ?_ | refine nx_trans ?_ (by assumption)))⟩

set_option maxRecDepth 100000 in
set_option maxHeartbeats 4000000 in
theorem l01Builtin_maxa (nm : ByteArray) (b cap : Nat) (ta : ByteArray) (x z : Int) (h : x < z) (w : World) (hn : nm.toList = [109, 97, 120]) (q0 : w.cell? ⟨b, 0, none⟩ = some (.int .i64 1)) (q1 : w.cell? ⟨b, 1, none⟩ = some (.int .i64 x)) (q2 : w.cell? ⟨b, 2, none⟩ = some (.string ta)) (q3 : w.cell? ⟨b, 3, none⟩ = some (.int .i64 1)) (q4 : w.cell? ⟨b, 4, none⟩ = some (.int .i64 z)) :
    Calls Tryd.prog 44 #[.string nm, .slice (some ⟨b, 0, none⟩) 2 cap] w fun e w' => e = .returned (.tuple #[.agg #[.int .i64 1, .int .i64 z, .string ⟨#[]⟩], .int .i64 0]) ∧ Below w.heap.size w w' := by
  have p0 : ∀ o, (w.alloc o).cell? ⟨b, 0, none⟩ = some (.int .i64 1) := fun o => cell_later (nx_alloc _ _) q0
  have p1 : ∀ o, (w.alloc o).cell? ⟨b, 1, none⟩ = some (.int .i64 x) := fun o => cell_later (nx_alloc _ _) q1
  have p2 : ∀ o, (w.alloc o).cell? ⟨b, 2, none⟩ = some (.string ta) := fun o => cell_later (nx_alloc _ _) q2
  have p3 : ∀ o, (w.alloc o).cell? ⟨b, 3, none⟩ = some (.int .i64 1) := fun o => cell_later (nx_alloc _ _) q3
  have pp3 : ∀ o o', ((w.alloc o).alloc o').cell? ⟨b, 3, none⟩ = some (.int .i64 1) := fun o o' => cell_later (nx_trans (nx_alloc _ _) (nx_alloc _ _)) q3
  have p4 : ∀ o, (w.alloc o).cell? ⟨b, 4, none⟩ = some (.int .i64 z) := fun o => cell_later (nx_alloc _ _) q4
  have pp4 : ∀ o o', ((w.alloc o).alloc o').cell? ⟨b, 4, none⟩ = some (.int .i64 z) := fun o o' => cell_later (nx_trans (nx_alloc _ _) (nx_alloc _ _)) q4
  have hE := ne_pair (World.block_lt_of_cell? _ _ q0)
  go_enter Tryd.func44, Tryd.ntmps44
  have hm : max x z = z := by omega
  go_wp2
  go_region_held3 (fun y => y.cell? ⟨b, 4, none⟩ = some (.int .i64 z) ∧ y.cell? ⟨w.heap.size + 1, 1, none⟩ = some (.int .i64 x)) (go_keep) ((go_at_call 50; refine (l01Int_agg _ _).mono ?_; rintro e y ⟨rfl, hbx⟩; obtain ⟨hc, hf⟩ := bcell hbx; have hz := hbx.size; (try simp at hz); have hz0 := Nat.lt_of_succ_le hz; have z0 := cell_later (a := ⟨w.heap.size, 0, none⟩) (v := .int .i64 0) hbx (by simp [*]); have z1 := cell_later (a := ⟨w.heap.size, 1, none⟩) (v := .int .i64 0) hbx (by simp [*]); have z2 := cell_later (a := ⟨w.heap.size, 2, none⟩) (v := .string ⟨#[]⟩) hbx (by simp [*]); have d1 := cell_later (a := ⟨w.heap.size + 1, 1, none⟩) (v := .int .i64 x) hbx (by simp [*]); have c4 := cell_later (a := ⟨b, 4, none⟩) (v := .int .i64 z) hbx (by simp [*])))
  all_goals go_wp2
  all_goals exact bodyPost_ret (v := (.tuple #[.agg #[.int .i64 1, .int .i64 z, .string ⟨#[]⟩], .int .i64 0])) (by simp [results, Tryd.results44, go_sem, *]) rfl ⟨rfl, (by repeat (first | exact Below.refl _ _ | refine nx_al ?_ | refine nx_set ?_ (by first | omega | (simp <;> omega)) | refine nx_drew ?_ | refine nx_trans ?_ (by assumption)))⟩

set_option maxRecDepth 100000 in
set_option maxHeartbeats 4000000 in
theorem l01Builtin_maxb (nm : ByteArray) (b cap : Nat) (ta : ByteArray) (x z : Int) (h : z < x) (w : World) (hn : nm.toList = [109, 97, 120]) (q0 : w.cell? ⟨b, 0, none⟩ = some (.int .i64 1)) (q1 : w.cell? ⟨b, 1, none⟩ = some (.int .i64 x)) (q2 : w.cell? ⟨b, 2, none⟩ = some (.string ta)) (q3 : w.cell? ⟨b, 3, none⟩ = some (.int .i64 1)) (q4 : w.cell? ⟨b, 4, none⟩ = some (.int .i64 z)) :
    Calls Tryd.prog 44 #[.string nm, .slice (some ⟨b, 0, none⟩) 2 cap] w fun e w' => e = .returned (.tuple #[.agg #[.int .i64 1, .int .i64 x, .string ⟨#[]⟩], .int .i64 0]) ∧ Below w.heap.size w w' := by
  have p0 : ∀ o, (w.alloc o).cell? ⟨b, 0, none⟩ = some (.int .i64 1) := fun o => cell_later (nx_alloc _ _) q0
  have p1 : ∀ o, (w.alloc o).cell? ⟨b, 1, none⟩ = some (.int .i64 x) := fun o => cell_later (nx_alloc _ _) q1
  have p2 : ∀ o, (w.alloc o).cell? ⟨b, 2, none⟩ = some (.string ta) := fun o => cell_later (nx_alloc _ _) q2
  have p3 : ∀ o, (w.alloc o).cell? ⟨b, 3, none⟩ = some (.int .i64 1) := fun o => cell_later (nx_alloc _ _) q3
  have pp3 : ∀ o o', ((w.alloc o).alloc o').cell? ⟨b, 3, none⟩ = some (.int .i64 1) := fun o o' => cell_later (nx_trans (nx_alloc _ _) (nx_alloc _ _)) q3
  have p4 : ∀ o, (w.alloc o).cell? ⟨b, 4, none⟩ = some (.int .i64 z) := fun o => cell_later (nx_alloc _ _) q4
  have pp4 : ∀ o o', ((w.alloc o).alloc o').cell? ⟨b, 4, none⟩ = some (.int .i64 z) := fun o o' => cell_later (nx_trans (nx_alloc _ _) (nx_alloc _ _)) q4
  have hE := ne_pair (World.block_lt_of_cell? _ _ q0)
  go_enter Tryd.func44, Tryd.ntmps44
  have hm : max x z = x := by omega
  go_wp2
  go_region_held3 (fun y => y.cell? ⟨b, 4, none⟩ = some (.int .i64 z) ∧ y.cell? ⟨w.heap.size + 1, 1, none⟩ = some (.int .i64 x)) (go_keep) ((go_at_call 50; refine (l01Int_agg _ _).mono ?_; rintro e y ⟨rfl, hbx⟩; obtain ⟨hc, hf⟩ := bcell hbx; have hz := hbx.size; (try simp at hz); have hz0 := Nat.lt_of_succ_le hz; have z0 := cell_later (a := ⟨w.heap.size, 0, none⟩) (v := .int .i64 0) hbx (by simp [*]); have z1 := cell_later (a := ⟨w.heap.size, 1, none⟩) (v := .int .i64 0) hbx (by simp [*]); have z2 := cell_later (a := ⟨w.heap.size, 2, none⟩) (v := .string ⟨#[]⟩) hbx (by simp [*]); have d1 := cell_later (a := ⟨w.heap.size + 1, 1, none⟩) (v := .int .i64 x) hbx (by simp [*]); have c4 := cell_later (a := ⟨b, 4, none⟩) (v := .int .i64 z) hbx (by simp [*])))
  all_goals go_wp2
  all_goals exact bodyPost_ret (v := (.tuple #[.agg #[.int .i64 1, .int .i64 x, .string ⟨#[]⟩], .int .i64 0])) (by simp [results, Tryd.results44, go_sem, *]) rfl ⟨rfl, (by repeat (first | exact Below.refl _ _ | refine nx_al ?_ | refine nx_set ?_ (by first | omega | (simp <;> omega)) | refine nx_drew ?_ | refine nx_trans ?_ (by assumption)))⟩

set_option maxRecDepth 100000 in
set_option maxHeartbeats 4000000 in
theorem l01Builtin_maxc (nm : ByteArray) (b cap : Nat) (ta : ByteArray) (x : Int) (w : World) (hn : nm.toList = [109, 97, 120]) (q0 : w.cell? ⟨b, 0, none⟩ = some (.int .i64 1)) (q1 : w.cell? ⟨b, 1, none⟩ = some (.int .i64 x)) (q2 : w.cell? ⟨b, 2, none⟩ = some (.string ta)) (q3 : w.cell? ⟨b, 3, none⟩ = some (.int .i64 1)) (q4 : w.cell? ⟨b, 4, none⟩ = some (.int .i64 x)) :
    Calls Tryd.prog 44 #[.string nm, .slice (some ⟨b, 0, none⟩) 2 cap] w fun e w' => e = .returned (.tuple #[.agg #[.int .i64 1, .int .i64 x, .string ⟨#[]⟩], .int .i64 0]) ∧ Below w.heap.size w w' := by
  have p0 : ∀ o, (w.alloc o).cell? ⟨b, 0, none⟩ = some (.int .i64 1) := fun o => cell_later (nx_alloc _ _) q0
  have p1 : ∀ o, (w.alloc o).cell? ⟨b, 1, none⟩ = some (.int .i64 x) := fun o => cell_later (nx_alloc _ _) q1
  have p2 : ∀ o, (w.alloc o).cell? ⟨b, 2, none⟩ = some (.string ta) := fun o => cell_later (nx_alloc _ _) q2
  have p3 : ∀ o, (w.alloc o).cell? ⟨b, 3, none⟩ = some (.int .i64 1) := fun o => cell_later (nx_alloc _ _) q3
  have pp3 : ∀ o o', ((w.alloc o).alloc o').cell? ⟨b, 3, none⟩ = some (.int .i64 1) := fun o o' => cell_later (nx_trans (nx_alloc _ _) (nx_alloc _ _)) q3
  have p4 : ∀ o, (w.alloc o).cell? ⟨b, 4, none⟩ = some (.int .i64 x) := fun o => cell_later (nx_alloc _ _) q4
  have pp4 : ∀ o o', ((w.alloc o).alloc o').cell? ⟨b, 4, none⟩ = some (.int .i64 x) := fun o o' => cell_later (nx_trans (nx_alloc _ _) (nx_alloc _ _)) q4
  have hE := ne_pair (World.block_lt_of_cell? _ _ q0)
  go_enter Tryd.func44, Tryd.ntmps44
  go_wp2
  go_region_held3 (fun y => y.cell? ⟨b, 4, none⟩ = some (.int .i64 x) ∧ y.cell? ⟨w.heap.size + 1, 1, none⟩ = some (.int .i64 x)) (go_keep) ((go_at_call 50; refine (l01Int_agg _ _).mono ?_; rintro e y ⟨rfl, hbx⟩; obtain ⟨hc, hf⟩ := bcell hbx; have hz := hbx.size; (try simp at hz); have hz0 := Nat.lt_of_succ_le hz; have z0 := cell_later (a := ⟨w.heap.size, 0, none⟩) (v := .int .i64 0) hbx (by simp [*]); have z1 := cell_later (a := ⟨w.heap.size, 1, none⟩) (v := .int .i64 0) hbx (by simp [*]); have z2 := cell_later (a := ⟨w.heap.size, 2, none⟩) (v := .string ⟨#[]⟩) hbx (by simp [*]); have d1 := cell_later (a := ⟨w.heap.size + 1, 1, none⟩) (v := .int .i64 x) hbx (by simp [*]); have c4 := cell_later (a := ⟨b, 4, none⟩) (v := .int .i64 x) hbx (by simp [*])))
  all_goals go_wp2
  all_goals exact bodyPost_ret (v := (.tuple #[.agg #[.int .i64 1, .int .i64 x, .string ⟨#[]⟩], .int .i64 0])) (by simp [results, Tryd.results44, go_sem, *]) rfl ⟨rfl, (by repeat (first | exact Below.refl _ _ | refine nx_al ?_ | refine nx_set ?_ (by first | omega | (simp <;> omega)) | refine nx_drew ?_ | refine nx_trans ?_ (by assumption)))⟩

set_option maxRecDepth 100000 in
set_option maxHeartbeats 4000000 in
theorem l01Builtin_mina (nm : ByteArray) (b cap : Nat) (ta : ByteArray) (x z : Int) (h : x < z) (w : World) (hn : nm.toList = [109, 105, 110]) (q0 : w.cell? ⟨b, 0, none⟩ = some (.int .i64 1)) (q1 : w.cell? ⟨b, 1, none⟩ = some (.int .i64 x)) (q2 : w.cell? ⟨b, 2, none⟩ = some (.string ta)) (q3 : w.cell? ⟨b, 3, none⟩ = some (.int .i64 1)) (q4 : w.cell? ⟨b, 4, none⟩ = some (.int .i64 z)) :
    Calls Tryd.prog 44 #[.string nm, .slice (some ⟨b, 0, none⟩) 2 cap] w fun e w' => e = .returned (.tuple #[.agg #[.int .i64 1, .int .i64 x, .string ⟨#[]⟩], .int .i64 0]) ∧ Below w.heap.size w w' := by
  have p0 : ∀ o, (w.alloc o).cell? ⟨b, 0, none⟩ = some (.int .i64 1) := fun o => cell_later (nx_alloc _ _) q0
  have p1 : ∀ o, (w.alloc o).cell? ⟨b, 1, none⟩ = some (.int .i64 x) := fun o => cell_later (nx_alloc _ _) q1
  have p2 : ∀ o, (w.alloc o).cell? ⟨b, 2, none⟩ = some (.string ta) := fun o => cell_later (nx_alloc _ _) q2
  have p3 : ∀ o, (w.alloc o).cell? ⟨b, 3, none⟩ = some (.int .i64 1) := fun o => cell_later (nx_alloc _ _) q3
  have pp3 : ∀ o o', ((w.alloc o).alloc o').cell? ⟨b, 3, none⟩ = some (.int .i64 1) := fun o o' => cell_later (nx_trans (nx_alloc _ _) (nx_alloc _ _)) q3
  have p4 : ∀ o, (w.alloc o).cell? ⟨b, 4, none⟩ = some (.int .i64 z) := fun o => cell_later (nx_alloc _ _) q4
  have pp4 : ∀ o o', ((w.alloc o).alloc o').cell? ⟨b, 4, none⟩ = some (.int .i64 z) := fun o o' => cell_later (nx_trans (nx_alloc _ _) (nx_alloc _ _)) q4
  have hE := ne_pair (World.block_lt_of_cell? _ _ q0)
  go_enter Tryd.func44, Tryd.ntmps44
  have hm : min x z = x := by omega
  go_wp2
  go_region_held3 (fun y => y.cell? ⟨b, 4, none⟩ = some (.int .i64 z) ∧ y.cell? ⟨w.heap.size + 1, 1, none⟩ = some (.int .i64 x)) (go_keep) ((go_at_call 50; refine (l01Int_agg _ _).mono ?_; rintro e y ⟨rfl, hbx⟩; obtain ⟨hc, hf⟩ := bcell hbx; have hz := hbx.size; (try simp at hz); have hz0 := Nat.lt_of_succ_le hz; have z0 := cell_later (a := ⟨w.heap.size, 0, none⟩) (v := .int .i64 0) hbx (by simp [*]); have z1 := cell_later (a := ⟨w.heap.size, 1, none⟩) (v := .int .i64 0) hbx (by simp [*]); have z2 := cell_later (a := ⟨w.heap.size, 2, none⟩) (v := .string ⟨#[]⟩) hbx (by simp [*]); have d1 := cell_later (a := ⟨w.heap.size + 1, 1, none⟩) (v := .int .i64 x) hbx (by simp [*]); have c4 := cell_later (a := ⟨b, 4, none⟩) (v := .int .i64 z) hbx (by simp [*])))
  all_goals go_wp2
  all_goals exact bodyPost_ret (v := (.tuple #[.agg #[.int .i64 1, .int .i64 x, .string ⟨#[]⟩], .int .i64 0])) (by simp [results, Tryd.results44, go_sem, *]) rfl ⟨rfl, (by repeat (first | exact Below.refl _ _ | refine nx_al ?_ | refine nx_set ?_ (by first | omega | (simp <;> omega)) | refine nx_drew ?_ | refine nx_trans ?_ (by assumption)))⟩

set_option maxRecDepth 100000 in
set_option maxHeartbeats 4000000 in
theorem l01Builtin_minb (nm : ByteArray) (b cap : Nat) (ta : ByteArray) (x z : Int) (h : z < x) (w : World) (hn : nm.toList = [109, 105, 110]) (q0 : w.cell? ⟨b, 0, none⟩ = some (.int .i64 1)) (q1 : w.cell? ⟨b, 1, none⟩ = some (.int .i64 x)) (q2 : w.cell? ⟨b, 2, none⟩ = some (.string ta)) (q3 : w.cell? ⟨b, 3, none⟩ = some (.int .i64 1)) (q4 : w.cell? ⟨b, 4, none⟩ = some (.int .i64 z)) :
    Calls Tryd.prog 44 #[.string nm, .slice (some ⟨b, 0, none⟩) 2 cap] w fun e w' => e = .returned (.tuple #[.agg #[.int .i64 1, .int .i64 z, .string ⟨#[]⟩], .int .i64 0]) ∧ Below w.heap.size w w' := by
  have p0 : ∀ o, (w.alloc o).cell? ⟨b, 0, none⟩ = some (.int .i64 1) := fun o => cell_later (nx_alloc _ _) q0
  have p1 : ∀ o, (w.alloc o).cell? ⟨b, 1, none⟩ = some (.int .i64 x) := fun o => cell_later (nx_alloc _ _) q1
  have p2 : ∀ o, (w.alloc o).cell? ⟨b, 2, none⟩ = some (.string ta) := fun o => cell_later (nx_alloc _ _) q2
  have p3 : ∀ o, (w.alloc o).cell? ⟨b, 3, none⟩ = some (.int .i64 1) := fun o => cell_later (nx_alloc _ _) q3
  have pp3 : ∀ o o', ((w.alloc o).alloc o').cell? ⟨b, 3, none⟩ = some (.int .i64 1) := fun o o' => cell_later (nx_trans (nx_alloc _ _) (nx_alloc _ _)) q3
  have p4 : ∀ o, (w.alloc o).cell? ⟨b, 4, none⟩ = some (.int .i64 z) := fun o => cell_later (nx_alloc _ _) q4
  have pp4 : ∀ o o', ((w.alloc o).alloc o').cell? ⟨b, 4, none⟩ = some (.int .i64 z) := fun o o' => cell_later (nx_trans (nx_alloc _ _) (nx_alloc _ _)) q4
  have hE := ne_pair (World.block_lt_of_cell? _ _ q0)
  go_enter Tryd.func44, Tryd.ntmps44
  have hm : min x z = z := by omega
  go_wp2
  go_region_held3 (fun y => y.cell? ⟨b, 4, none⟩ = some (.int .i64 z) ∧ y.cell? ⟨w.heap.size + 1, 1, none⟩ = some (.int .i64 x)) (go_keep) ((go_at_call 50; refine (l01Int_agg _ _).mono ?_; rintro e y ⟨rfl, hbx⟩; obtain ⟨hc, hf⟩ := bcell hbx; have hz := hbx.size; (try simp at hz); have hz0 := Nat.lt_of_succ_le hz; have z0 := cell_later (a := ⟨w.heap.size, 0, none⟩) (v := .int .i64 0) hbx (by simp [*]); have z1 := cell_later (a := ⟨w.heap.size, 1, none⟩) (v := .int .i64 0) hbx (by simp [*]); have z2 := cell_later (a := ⟨w.heap.size, 2, none⟩) (v := .string ⟨#[]⟩) hbx (by simp [*]); have d1 := cell_later (a := ⟨w.heap.size + 1, 1, none⟩) (v := .int .i64 x) hbx (by simp [*]); have c4 := cell_later (a := ⟨b, 4, none⟩) (v := .int .i64 z) hbx (by simp [*])))
  all_goals go_wp2
  all_goals exact bodyPost_ret (v := (.tuple #[.agg #[.int .i64 1, .int .i64 z, .string ⟨#[]⟩], .int .i64 0])) (by simp [results, Tryd.results44, go_sem, *]) rfl ⟨rfl, (by repeat (first | exact Below.refl _ _ | refine nx_al ?_ | refine nx_set ?_ (by first | omega | (simp <;> omega)) | refine nx_drew ?_ | refine nx_trans ?_ (by assumption)))⟩

set_option maxRecDepth 100000 in
set_option maxHeartbeats 4000000 in
theorem l01Builtin_minc (nm : ByteArray) (b cap : Nat) (ta : ByteArray) (x : Int) (w : World) (hn : nm.toList = [109, 105, 110]) (q0 : w.cell? ⟨b, 0, none⟩ = some (.int .i64 1)) (q1 : w.cell? ⟨b, 1, none⟩ = some (.int .i64 x)) (q2 : w.cell? ⟨b, 2, none⟩ = some (.string ta)) (q3 : w.cell? ⟨b, 3, none⟩ = some (.int .i64 1)) (q4 : w.cell? ⟨b, 4, none⟩ = some (.int .i64 x)) :
    Calls Tryd.prog 44 #[.string nm, .slice (some ⟨b, 0, none⟩) 2 cap] w fun e w' => e = .returned (.tuple #[.agg #[.int .i64 1, .int .i64 x, .string ⟨#[]⟩], .int .i64 0]) ∧ Below w.heap.size w w' := by
  have p0 : ∀ o, (w.alloc o).cell? ⟨b, 0, none⟩ = some (.int .i64 1) := fun o => cell_later (nx_alloc _ _) q0
  have p1 : ∀ o, (w.alloc o).cell? ⟨b, 1, none⟩ = some (.int .i64 x) := fun o => cell_later (nx_alloc _ _) q1
  have p2 : ∀ o, (w.alloc o).cell? ⟨b, 2, none⟩ = some (.string ta) := fun o => cell_later (nx_alloc _ _) q2
  have p3 : ∀ o, (w.alloc o).cell? ⟨b, 3, none⟩ = some (.int .i64 1) := fun o => cell_later (nx_alloc _ _) q3
  have pp3 : ∀ o o', ((w.alloc o).alloc o').cell? ⟨b, 3, none⟩ = some (.int .i64 1) := fun o o' => cell_later (nx_trans (nx_alloc _ _) (nx_alloc _ _)) q3
  have p4 : ∀ o, (w.alloc o).cell? ⟨b, 4, none⟩ = some (.int .i64 x) := fun o => cell_later (nx_alloc _ _) q4
  have pp4 : ∀ o o', ((w.alloc o).alloc o').cell? ⟨b, 4, none⟩ = some (.int .i64 x) := fun o o' => cell_later (nx_trans (nx_alloc _ _) (nx_alloc _ _)) q4
  have hE := ne_pair (World.block_lt_of_cell? _ _ q0)
  go_enter Tryd.func44, Tryd.ntmps44
  go_wp2
  go_region_held3 (fun y => y.cell? ⟨b, 4, none⟩ = some (.int .i64 x) ∧ y.cell? ⟨w.heap.size + 1, 1, none⟩ = some (.int .i64 x)) (go_keep) ((go_at_call 50; refine (l01Int_agg _ _).mono ?_; rintro e y ⟨rfl, hbx⟩; obtain ⟨hc, hf⟩ := bcell hbx; have hz := hbx.size; (try simp at hz); have hz0 := Nat.lt_of_succ_le hz; have z0 := cell_later (a := ⟨w.heap.size, 0, none⟩) (v := .int .i64 0) hbx (by simp [*]); have z1 := cell_later (a := ⟨w.heap.size, 1, none⟩) (v := .int .i64 0) hbx (by simp [*]); have z2 := cell_later (a := ⟨w.heap.size, 2, none⟩) (v := .string ⟨#[]⟩) hbx (by simp [*]); have d1 := cell_later (a := ⟨w.heap.size + 1, 1, none⟩) (v := .int .i64 x) hbx (by simp [*]); have c4 := cell_later (a := ⟨b, 4, none⟩) (v := .int .i64 x) hbx (by simp [*])))
  all_goals go_wp2
  all_goals exact bodyPost_ret (v := (.tuple #[.agg #[.int .i64 1, .int .i64 x, .string ⟨#[]⟩], .int .i64 0])) (by simp [results, Tryd.results44, go_sem, *]) rfl ⟨rfl, (by repeat (first | exact Below.refl _ _ | refine nx_al ?_ | refine nx_set ?_ (by first | omega | (simp <;> omega)) | refine nx_drew ?_ | refine nx_trans ?_ (by assumption)))⟩


end Go.Proofs.YtpncohkbdaoceaaDoor
