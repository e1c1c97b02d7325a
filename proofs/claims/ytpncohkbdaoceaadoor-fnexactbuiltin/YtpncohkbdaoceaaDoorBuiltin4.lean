/- 'spec.l01Builtin', arguments of wrong kinds, str, len, abs. -/
import Derived.Test.YtpncohkbdaoceaaDoorBuiltin3
import Derived.Test.YtpncohkbdaoceaaDoorVText1
namespace Go.Proofs.YtpncohkbdaoceaaDoor
open Go.RowKit
set_option linter.unusedVariables false

theorem l01Int_agg (n : Int) (w : World) : Calls Tryd.prog 50 #[.int .i64 n] w fun e w' => e = .returned (.agg #[.int .i64 1, .int .i64 n, .string ⟨#[]⟩]) ∧ Below w.heap.size w w' := l01Int_any n w

set_option maxRecDepth 100000 in
set_option maxHeartbeats 1000000 in
theorem l01Builtin_str (nm : ByteArray) (b cap : Nat) (ka na : Int) (ta : ByteArray) (hv : vokB ka na ta = true) (w : World) (hn : nm.toList = [115, 116, 114]) (q0 : w.cell? ⟨b, 0, none⟩ = some (.int .i64 ka)) (q1 : w.cell? ⟨b, 1, none⟩ = some (.int .i64 na)) (q2 : w.cell? ⟨b, 2, none⟩ = some (.string ta)) :
    Calls Tryd.prog 44 #[.string nm, .slice (some ⟨b, 0, none⟩) 1 cap] w fun e w' => e = .returned (.tuple #[.agg #[.int .i64 3, .int .i64 0, .string (vtextB ka na ta)], .int .i64 0]) ∧ Below w.heap.size w w' := by
  have p0 : ∀ o, (w.alloc o).cell? ⟨b, 0, none⟩ = some (.int .i64 ka) := fun o => cell_later (nx_alloc _ _) q0
  have p1 : ∀ o, (w.alloc o).cell? ⟨b, 1, none⟩ = some (.int .i64 na) := fun o => cell_later (nx_alloc _ _) q1
  have p2 : ∀ o, (w.alloc o).cell? ⟨b, 2, none⟩ = some (.string ta) := fun o => cell_later (nx_alloc _ _) q2
  have hE := ne_pair (World.block_lt_of_cell? _ _ q0)
  go_enter Tryd.func44, Tryd.ntmps44
  go_wp2_with fail
  refine (l01ValueText_any ka na ta _ hv).mono ?_
  rintro e w1 ⟨rfl, hb1⟩
  obtain ⟨hc1, hf1⟩ := bcell hb1
  have hz1_0 : w.heap.size < w1.heap.size := by have := hb1.size; first | omega | (simp at this; omega)
  have hz1_1 : w.heap.size + 1 < w1.heap.size := by have := hb1.size; first | omega | (simp at this; omega)
  have z1_0 : w1.cell? ⟨w.heap.size, 0, none⟩ = some (.int .i64 0) := by rw [hc1 _ _ (by first | omega | (simp; done) | (simp; omega))]; simp [World.cell?_alloc_at, World.cell?_alloc_past]
  have z1_1 : w1.cell? ⟨w.heap.size, 1, none⟩ = some (.int .i64 0) := by rw [hc1 _ _ (by first | omega | (simp; done) | (simp; omega))]; simp [World.cell?_alloc_at, World.cell?_alloc_past]
  have z1_2 : w1.cell? ⟨w.heap.size, 2, none⟩ = some (.string ⟨#[]⟩) := by rw [hc1 _ _ (by first | omega | (simp; done) | (simp; omega))]; simp [World.cell?_alloc_at, World.cell?_alloc_past]
  go_wp2_with fail
  refine (l01Text_any _ _).mono ?_
  rintro e w2 ⟨rfl, hb2⟩
  obtain ⟨hc2, hf2⟩ := bcell hb2
  have hz2_0 : w.heap.size < w2.heap.size := by have := hb2.size; first | omega | (simp at this; omega)
  have hz2_1 : w.heap.size + 1 < w2.heap.size := by have := hb2.size; first | omega | (simp at this; omega)
  have z2_0 : w2.cell? ⟨w.heap.size, 0, none⟩ = some (.int .i64 0) := by rw [hc2 _ _ (by first | omega | (simp; done) | (simp; omega))]; exact z1_0
  have z2_1 : w2.cell? ⟨w.heap.size, 1, none⟩ = some (.int .i64 0) := by rw [hc2 _ _ (by first | omega | (simp; done) | (simp; omega))]; exact z1_1
  have z2_2 : w2.cell? ⟨w.heap.size, 2, none⟩ = some (.string ⟨#[]⟩) := by rw [hc2 _ _ (by first | omega | (simp; done) | (simp; omega))]; exact z1_2
  go_wp2
  exact bodyPost_ret (v := (.tuple #[.agg #[.int .i64 3, .int .i64 0, .string (vtextB ka na ta)], .int .i64 0])) (by simp [results, Tryd.results44, go_sem, z2_0, z2_1, z2_2]) rfl ⟨rfl, (by repeat (first | exact Below.refl _ _ | refine nx_al ?_ | refine nx_set ?_ (by first | omega | (simp <;> omega)) | refine nx_drew ?_ | refine nx_trans ?_ (by assumption)))⟩

set_option maxRecDepth 100000 in
set_option maxHeartbeats 1000000 in
theorem l01Builtin_len (nm : ByteArray) (b cap : Nat) (na : Int) (ta : ByteArray) (hs : ta.size ≤ 60) (w : World) (hn : nm.toList = [108, 101, 110]) (q0 : w.cell? ⟨b, 0, none⟩ = some (.int .i64 3)) (q1 : w.cell? ⟨b, 1, none⟩ = some (.int .i64 na)) (q2 : w.cell? ⟨b, 2, none⟩ = some (.string ta)) :
    Calls Tryd.prog 44 #[.string nm, .slice (some ⟨b, 0, none⟩) 1 cap] w fun e w' => e = .returned (.tuple #[.agg #[.int .i64 1, .int .i64 ((ta.size : Nat) : Int), .string ⟨#[]⟩], .int .i64 0]) ∧ Below w.heap.size w w' := by
  have p0 : ∀ o, (w.alloc o).cell? ⟨b, 0, none⟩ = some (.int .i64 3) := fun o => cell_later (nx_alloc _ _) q0
  have p1 : ∀ o, (w.alloc o).cell? ⟨b, 1, none⟩ = some (.int .i64 na) := fun o => cell_later (nx_alloc _ _) q1
  have p2 : ∀ o, (w.alloc o).cell? ⟨b, 2, none⟩ = some (.string ta) := fun o => cell_later (nx_alloc _ _) q2
  have hE := ne_pair (World.block_lt_of_cell? _ _ q0)
  go_enter Tryd.func44, Tryd.ntmps44
  go_wp2_with fail
  refine (l01Int_agg _ _).mono ?_
  rintro e w1 ⟨rfl, hb1⟩
  obtain ⟨hc1, hf1⟩ := bcell hb1
  have hz1_0 : w.heap.size < w1.heap.size := by have := hb1.size; first | omega | (simp at this; omega)
  have hz1_1 : w.heap.size + 1 < w1.heap.size := by have := hb1.size; first | omega | (simp at this; omega)
  have z1_0 : w1.cell? ⟨w.heap.size, 0, none⟩ = some (.int .i64 0) := by rw [hc1 _ _ (by first | omega | (simp; done) | (simp; omega))]; simp [World.cell?_alloc_at, World.cell?_alloc_past]
  have z1_1 : w1.cell? ⟨w.heap.size, 1, none⟩ = some (.int .i64 0) := by rw [hc1 _ _ (by first | omega | (simp; done) | (simp; omega))]; simp [World.cell?_alloc_at, World.cell?_alloc_past]
  have z1_2 : w1.cell? ⟨w.heap.size, 2, none⟩ = some (.string ⟨#[]⟩) := by rw [hc1 _ _ (by first | omega | (simp; done) | (simp; omega))]; simp [World.cell?_alloc_at, World.cell?_alloc_past]
  go_wp2
  exact bodyPost_ret (v := (.tuple #[.agg #[.int .i64 1, .int .i64 ((ta.size : Nat) : Int), .string ⟨#[]⟩], .int .i64 0])) (by simp [results, Tryd.results44, go_sem, z1_0, z1_1, z1_2]) rfl ⟨rfl, (by repeat (first | exact Below.refl _ _ | refine nx_al ?_ | refine nx_set ?_ (by first | omega | (simp <;> omega)) | refine nx_drew ?_ | refine nx_trans ?_ (by assumption)))⟩

set_option maxRecDepth 100000 in
set_option maxHeartbeats 1000000 in
theorem l01Builtin_lenno0 (nm : ByteArray) (b cap : Nat) (ka na : Int) (ta : ByteArray) (hka : ¬ ka = 3) (w : World) (hn : nm.toList = [108, 101, 110]) (q0 : w.cell? ⟨b, 0, none⟩ = some (.int .i64 ka)) (q1 : w.cell? ⟨b, 1, none⟩ = some (.int .i64 na)) (q2 : w.cell? ⟨b, 2, none⟩ = some (.string ta)) :
    Calls Tryd.prog 44 #[.string nm, .slice (some ⟨b, 0, none⟩) 1 cap] w fun e w' => e = .returned (.tuple #[.agg #[.int .i64 0, .int .i64 0, .string ⟨#[]⟩], .int .i64 8]) ∧ Below w.heap.size w w' := by
  have hne : (ka != 3) = true := bne_iff_ne.2 hka
  have p0 : ∀ o, (w.alloc o).cell? ⟨b, 0, none⟩ = some (.int .i64 ka) := fun o => cell_later (nx_alloc _ _) q0
  have p1 : ∀ o, (w.alloc o).cell? ⟨b, 1, none⟩ = some (.int .i64 na) := fun o => cell_later (nx_alloc _ _) q1
  have p2 : ∀ o, (w.alloc o).cell? ⟨b, 2, none⟩ = some (.string ta) := fun o => cell_later (nx_alloc _ _) q2
  have hE := ne_pair (World.block_lt_of_cell? _ _ q0)
  go_enter Tryd.func44, Tryd.ntmps44
  go_wp2
  exact bodyPost_ret (v := (.tuple #[.agg #[.int .i64 0, .int .i64 0, .string ⟨#[]⟩], .int .i64 8])) (by simp [results, Tryd.results44, go_sem]) rfl ⟨rfl, (by repeat (first | exact Below.refl _ _ | refine nx_al ?_ | refine nx_set ?_ (by first | omega | (simp <;> omega)) | refine nx_drew ?_ | refine nx_trans ?_ (by assumption)))⟩

set_option maxRecDepth 100000 in
set_option maxHeartbeats 1000000 in
theorem l01Builtin_atno0 (nm : ByteArray) (b cap : Nat) (ka na : Int) (ta : ByteArray) (kb : Int) (hka : ¬ ka = 3) (w : World) (hn : nm.toList = [97, 116]) (q0 : w.cell? ⟨b, 0, none⟩ = some (.int .i64 ka)) (q1 : w.cell? ⟨b, 1, none⟩ = some (.int .i64 na)) (q2 : w.cell? ⟨b, 2, none⟩ = some (.string ta)) (q3 : w.cell? ⟨b, 3, none⟩ = some (.int .i64 kb)) :
    Calls Tryd.prog 44 #[.string nm, .slice (some ⟨b, 0, none⟩) 2 cap] w fun e w' => e = .returned (.tuple #[.agg #[.int .i64 0, .int .i64 0, .string ⟨#[]⟩], .int .i64 8]) ∧ Below w.heap.size w w' := by
  have hne : (ka != 3) = true := bne_iff_ne.2 hka
  have p0 : ∀ o, (w.alloc o).cell? ⟨b, 0, none⟩ = some (.int .i64 ka) := fun o => cell_later (nx_alloc _ _) q0
  have p1 : ∀ o, (w.alloc o).cell? ⟨b, 1, none⟩ = some (.int .i64 na) := fun o => cell_later (nx_alloc _ _) q1
  have p2 : ∀ o, (w.alloc o).cell? ⟨b, 2, none⟩ = some (.string ta) := fun o => cell_later (nx_alloc _ _) q2
  have p3 : ∀ o, (w.alloc o).cell? ⟨b, 3, none⟩ = some (.int .i64 kb) := fun o => cell_later (nx_alloc _ _) q3
  have pp3 : ∀ o o', ((w.alloc o).alloc o').cell? ⟨b, 3, none⟩ = some (.int .i64 kb) := fun o o' => cell_later (nx_trans (nx_alloc _ _) (nx_alloc _ _)) q3
  have hE := ne_pair (World.block_lt_of_cell? _ _ q0)
  go_enter Tryd.func44, Tryd.ntmps44
  go_wp2
  exact bodyPost_ret (v := (.tuple #[.agg #[.int .i64 0, .int .i64 0, .string ⟨#[]⟩], .int .i64 8])) (by simp [results, Tryd.results44, go_sem]) rfl ⟨rfl, (by repeat (first | exact Below.refl _ _ | refine nx_al ?_ | refine nx_set ?_ (by first | omega | (simp <;> omega)) | refine nx_drew ?_ | refine nx_trans ?_ (by assumption)))⟩

set_option maxRecDepth 100000 in
set_option maxHeartbeats 1000000 in
theorem l01Builtin_atno1 (nm : ByteArray) (b cap : Nat) (ka na : Int) (ta : ByteArray) (kb : Int) (hka : ka = 3) (hkb : ¬ kb = 1) (w : World) (hn : nm.toList = [97, 116]) (q0 : w.cell? ⟨b, 0, none⟩ = some (.int .i64 ka)) (q1 : w.cell? ⟨b, 1, none⟩ = some (.int .i64 na)) (q2 : w.cell? ⟨b, 2, none⟩ = some (.string ta)) (q3 : w.cell? ⟨b, 3, none⟩ = some (.int .i64 kb)) :
    Calls Tryd.prog 44 #[.string nm, .slice (some ⟨b, 0, none⟩) 2 cap] w fun e w' => e = .returned (.tuple #[.agg #[.int .i64 0, .int .i64 0, .string ⟨#[]⟩], .int .i64 8]) ∧ Below w.heap.size w w' := by
  subst hka
  have hne : (kb != 1) = true := bne_iff_ne.2 hkb
  have p0 : ∀ o, (w.alloc o).cell? ⟨b, 0, none⟩ = some (.int .i64 3) := fun o => cell_later (nx_alloc _ _) q0
  have p1 : ∀ o, (w.alloc o).cell? ⟨b, 1, none⟩ = some (.int .i64 na) := fun o => cell_later (nx_alloc _ _) q1
  have p2 : ∀ o, (w.alloc o).cell? ⟨b, 2, none⟩ = some (.string ta) := fun o => cell_later (nx_alloc _ _) q2
  have p3 : ∀ o, (w.alloc o).cell? ⟨b, 3, none⟩ = some (.int .i64 kb) := fun o => cell_later (nx_alloc _ _) q3
  have pp3 : ∀ o o', ((w.alloc o).alloc o').cell? ⟨b, 3, none⟩ = some (.int .i64 kb) := fun o o' => cell_later (nx_trans (nx_alloc _ _) (nx_alloc _ _)) q3
  have hE := ne_pair (World.block_lt_of_cell? _ _ q0)
  go_enter Tryd.func44, Tryd.ntmps44
  go_wp2
  exact bodyPost_ret (v := (.tuple #[.agg #[.int .i64 0, .int .i64 0, .string ⟨#[]⟩], .int .i64 8])) (by simp [results, Tryd.results44, go_sem]) rfl ⟨rfl, (by repeat (first | exact Below.refl _ _ | refine nx_al ?_ | refine nx_set ?_ (by first | omega | (simp <;> omega)) | refine nx_drew ?_ | refine nx_trans ?_ (by assumption)))⟩

set_option maxRecDepth 100000 in
set_option maxHeartbeats 1000000 in
theorem l01Builtin_cutno0 (nm : ByteArray) (b cap : Nat) (ka na : Int) (ta : ByteArray) (kb : Int) (kc : Int) (hka : ¬ ka = 3) (w : World) (hn : nm.toList = [99, 117, 116]) (q0 : w.cell? ⟨b, 0, none⟩ = some (.int .i64 ka)) (q1 : w.cell? ⟨b, 1, none⟩ = some (.int .i64 na)) (q2 : w.cell? ⟨b, 2, none⟩ = some (.string ta)) (q3 : w.cell? ⟨b, 3, none⟩ = some (.int .i64 kb)) (q6 : w.cell? ⟨b, 6, none⟩ = some (.int .i64 kc)) :
    Calls Tryd.prog 44 #[.string nm, .slice (some ⟨b, 0, none⟩) 3 cap] w fun e w' => e = .returned (.tuple #[.agg #[.int .i64 0, .int .i64 0, .string ⟨#[]⟩], .int .i64 8]) ∧ Below w.heap.size w w' := by
  have hne : (ka != 3) = true := bne_iff_ne.2 hka
  have p0 : ∀ o, (w.alloc o).cell? ⟨b, 0, none⟩ = some (.int .i64 ka) := fun o => cell_later (nx_alloc _ _) q0
  have p1 : ∀ o, (w.alloc o).cell? ⟨b, 1, none⟩ = some (.int .i64 na) := fun o => cell_later (nx_alloc _ _) q1
  have p2 : ∀ o, (w.alloc o).cell? ⟨b, 2, none⟩ = some (.string ta) := fun o => cell_later (nx_alloc _ _) q2
  have p3 : ∀ o, (w.alloc o).cell? ⟨b, 3, none⟩ = some (.int .i64 kb) := fun o => cell_later (nx_alloc _ _) q3
  have pp3 : ∀ o o', ((w.alloc o).alloc o').cell? ⟨b, 3, none⟩ = some (.int .i64 kb) := fun o o' => cell_later (nx_trans (nx_alloc _ _) (nx_alloc _ _)) q3
  have p6 : ∀ o, (w.alloc o).cell? ⟨b, 6, none⟩ = some (.int .i64 kc) := fun o => cell_later (nx_alloc _ _) q6
  have pp6 : ∀ o o', ((w.alloc o).alloc o').cell? ⟨b, 6, none⟩ = some (.int .i64 kc) := fun o o' => cell_later (nx_trans (nx_alloc _ _) (nx_alloc _ _)) q6
  have hE := ne_pair (World.block_lt_of_cell? _ _ q0)
  go_enter Tryd.func44, Tryd.ntmps44
  go_wp2
  exact bodyPost_ret (v := (.tuple #[.agg #[.int .i64 0, .int .i64 0, .string ⟨#[]⟩], .int .i64 8])) (by simp [results, Tryd.results44, go_sem]) rfl ⟨rfl, (by repeat (first | exact Below.refl _ _ | refine nx_al ?_ | refine nx_set ?_ (by first | omega | (simp <;> omega)) | refine nx_drew ?_ | refine nx_trans ?_ (by assumption)))⟩

set_option maxRecDepth 100000 in
set_option maxHeartbeats 1000000 in
theorem l01Builtin_cutno1 (nm : ByteArray) (b cap : Nat) (ka na : Int) (ta : ByteArray) (kb : Int) (kc : Int) (hka : ka = 3) (hkb : ¬ kb = 1) (w : World) (hn : nm.toList = [99, 117, 116]) (q0 : w.cell? ⟨b, 0, none⟩ = some (.int .i64 ka)) (q1 : w.cell? ⟨b, 1, none⟩ = some (.int .i64 na)) (q2 : w.cell? ⟨b, 2, none⟩ = some (.string ta)) (q3 : w.cell? ⟨b, 3, none⟩ = some (.int .i64 kb)) (q6 : w.cell? ⟨b, 6, none⟩ = some (.int .i64 kc)) :
    Calls Tryd.prog 44 #[.string nm, .slice (some ⟨b, 0, none⟩) 3 cap] w fun e w' => e = .returned (.tuple #[.agg #[.int .i64 0, .int .i64 0, .string ⟨#[]⟩], .int .i64 8]) ∧ Below w.heap.size w w' := by
  subst hka
  have hne : (kb != 1) = true := bne_iff_ne.2 hkb
  have p0 : ∀ o, (w.alloc o).cell? ⟨b, 0, none⟩ = some (.int .i64 3) := fun o => cell_later (nx_alloc _ _) q0
  have p1 : ∀ o, (w.alloc o).cell? ⟨b, 1, none⟩ = some (.int .i64 na) := fun o => cell_later (nx_alloc _ _) q1
  have p2 : ∀ o, (w.alloc o).cell? ⟨b, 2, none⟩ = some (.string ta) := fun o => cell_later (nx_alloc _ _) q2
  have p3 : ∀ o, (w.alloc o).cell? ⟨b, 3, none⟩ = some (.int .i64 kb) := fun o => cell_later (nx_alloc _ _) q3
  have pp3 : ∀ o o', ((w.alloc o).alloc o').cell? ⟨b, 3, none⟩ = some (.int .i64 kb) := fun o o' => cell_later (nx_trans (nx_alloc _ _) (nx_alloc _ _)) q3
  have p6 : ∀ o, (w.alloc o).cell? ⟨b, 6, none⟩ = some (.int .i64 kc) := fun o => cell_later (nx_alloc _ _) q6
  have pp6 : ∀ o o', ((w.alloc o).alloc o').cell? ⟨b, 6, none⟩ = some (.int .i64 kc) := fun o o' => cell_later (nx_trans (nx_alloc _ _) (nx_alloc _ _)) q6
  have hE := ne_pair (World.block_lt_of_cell? _ _ q0)
  go_enter Tryd.func44, Tryd.ntmps44
  go_wp2
  exact bodyPost_ret (v := (.tuple #[.agg #[.int .i64 0, .int .i64 0, .string ⟨#[]⟩], .int .i64 8])) (by simp [results, Tryd.results44, go_sem]) rfl ⟨rfl, (by repeat (first | exact Below.refl _ _ | refine nx_al ?_ | refine nx_set ?_ (by first | omega | (simp <;> omega)) | refine nx_drew ?_ | refine nx_trans ?_ (by assumption)))⟩

set_option maxRecDepth 100000 in
set_option maxHeartbeats 1000000 in
theorem l01Builtin_cutno2 (nm : ByteArray) (b cap : Nat) (ka na : Int) (ta : ByteArray) (kb : Int) (kc : Int) (hka : ka = 3) (hkb : kb = 1) (hkc : ¬ kc = 1) (w : World) (hn : nm.toList = [99, 117, 116]) (q0 : w.cell? ⟨b, 0, none⟩ = some (.int .i64 ka)) (q1 : w.cell? ⟨b, 1, none⟩ = some (.int .i64 na)) (q2 : w.cell? ⟨b, 2, none⟩ = some (.string ta)) (q3 : w.cell? ⟨b, 3, none⟩ = some (.int .i64 kb)) (q6 : w.cell? ⟨b, 6, none⟩ = some (.int .i64 kc)) :
    Calls Tryd.prog 44 #[.string nm, .slice (some ⟨b, 0, none⟩) 3 cap] w fun e w' => e = .returned (.tuple #[.agg #[.int .i64 0, .int .i64 0, .string ⟨#[]⟩], .int .i64 8]) ∧ Below w.heap.size w w' := by
  subst hka
  subst hkb
  have hne : (kc != 1) = true := bne_iff_ne.2 hkc
  have p0 : ∀ o, (w.alloc o).cell? ⟨b, 0, none⟩ = some (.int .i64 3) := fun o => cell_later (nx_alloc _ _) q0
  have p1 : ∀ o, (w.alloc o).cell? ⟨b, 1, none⟩ = some (.int .i64 na) := fun o => cell_later (nx_alloc _ _) q1
  have p2 : ∀ o, (w.alloc o).cell? ⟨b, 2, none⟩ = some (.string ta) := fun o => cell_later (nx_alloc _ _) q2
  have p3 : ∀ o, (w.alloc o).cell? ⟨b, 3, none⟩ = some (.int .i64 1) := fun o => cell_later (nx_alloc _ _) q3
  have pp3 : ∀ o o', ((w.alloc o).alloc o').cell? ⟨b, 3, none⟩ = some (.int .i64 1) := fun o o' => cell_later (nx_trans (nx_alloc _ _) (nx_alloc _ _)) q3
  have p6 : ∀ o, (w.alloc o).cell? ⟨b, 6, none⟩ = some (.int .i64 kc) := fun o => cell_later (nx_alloc _ _) q6
  have pp6 : ∀ o o', ((w.alloc o).alloc o').cell? ⟨b, 6, none⟩ = some (.int .i64 kc) := fun o o' => cell_later (nx_trans (nx_alloc _ _) (nx_alloc _ _)) q6
  have hE := ne_pair (World.block_lt_of_cell? _ _ q0)
  go_enter Tryd.func44, Tryd.ntmps44
  go_wp2
  exact bodyPost_ret (v := (.tuple #[.agg #[.int .i64 0, .int .i64 0, .string ⟨#[]⟩], .int .i64 8])) (by simp [results, Tryd.results44, go_sem]) rfl ⟨rfl, (by repeat (first | exact Below.refl _ _ | refine nx_al ?_ | refine nx_set ?_ (by first | omega | (simp <;> omega)) | refine nx_drew ?_ | refine nx_trans ?_ (by assumption)))⟩

set_option maxRecDepth 100000 in
set_option maxHeartbeats 1000000 in
theorem l01Builtin_absno0 (nm : ByteArray) (b cap : Nat) (ka na : Int) (ta : ByteArray) (hka : ¬ ka = 1) (w : World) (hn : nm.toList = [97, 98, 115]) (q0 : w.cell? ⟨b, 0, none⟩ = some (.int .i64 ka)) (q1 : w.cell? ⟨b, 1, none⟩ = some (.int .i64 na)) (q2 : w.cell? ⟨b, 2, none⟩ = some (.string ta)) :
    Calls Tryd.prog 44 #[.string nm, .slice (some ⟨b, 0, none⟩) 1 cap] w fun e w' => e = .returned (.tuple #[.agg #[.int .i64 0, .int .i64 0, .string ⟨#[]⟩], .int .i64 8]) ∧ Below w.heap.size w w' := by
  have hne : (ka != 1) = true := bne_iff_ne.2 hka
  have p0 : ∀ o, (w.alloc o).cell? ⟨b, 0, none⟩ = some (.int .i64 ka) := fun o => cell_later (nx_alloc _ _) q0
  have p1 : ∀ o, (w.alloc o).cell? ⟨b, 1, none⟩ = some (.int .i64 na) := fun o => cell_later (nx_alloc _ _) q1
  have p2 : ∀ o, (w.alloc o).cell? ⟨b, 2, none⟩ = some (.string ta) := fun o => cell_later (nx_alloc _ _) q2
  have hE := ne_pair (World.block_lt_of_cell? _ _ q0)
  go_enter Tryd.func44, Tryd.ntmps44
  go_wp2
  exact bodyPost_ret (v := (.tuple #[.agg #[.int .i64 0, .int .i64 0, .string ⟨#[]⟩], .int .i64 8])) (by simp [results, Tryd.results44, go_sem]) rfl ⟨rfl, (by repeat (first | exact Below.refl _ _ | refine nx_al ?_ | refine nx_set ?_ (by first | omega | (simp <;> omega)) | refine nx_drew ?_ | refine nx_trans ?_ (by assumption)))⟩

set_option maxRecDepth 100000 in
set_option maxHeartbeats 1000000 in
theorem l01Builtin_maxno0 (nm : ByteArray) (b cap : Nat) (ka na : Int) (ta : ByteArray) (kb : Int) (hka : ¬ ka = 1) (w : World) (hn : nm.toList = [109, 97, 120]) (q0 : w.cell? ⟨b, 0, none⟩ = some (.int .i64 ka)) (q1 : w.cell? ⟨b, 1, none⟩ = some (.int .i64 na)) (q2 : w.cell? ⟨b, 2, none⟩ = some (.string ta)) (q3 : w.cell? ⟨b, 3, none⟩ = some (.int .i64 kb)) :
    Calls Tryd.prog 44 #[.string nm, .slice (some ⟨b, 0, none⟩) 2 cap] w fun e w' => e = .returned (.tuple #[.agg #[.int .i64 0, .int .i64 0, .string ⟨#[]⟩], .int .i64 8]) ∧ Below w.heap.size w w' := by
  have hne : (ka != 1) = true := bne_iff_ne.2 hka
  have p0 : ∀ o, (w.alloc o).cell? ⟨b, 0, none⟩ = some (.int .i64 ka) := fun o => cell_later (nx_alloc _ _) q0
  have p1 : ∀ o, (w.alloc o).cell? ⟨b, 1, none⟩ = some (.int .i64 na) := fun o => cell_later (nx_alloc _ _) q1
  have p2 : ∀ o, (w.alloc o).cell? ⟨b, 2, none⟩ = some (.string ta) := fun o => cell_later (nx_alloc _ _) q2
  have p3 : ∀ o, (w.alloc o).cell? ⟨b, 3, none⟩ = some (.int .i64 kb) := fun o => cell_later (nx_alloc _ _) q3
  have pp3 : ∀ o o', ((w.alloc o).alloc o').cell? ⟨b, 3, none⟩ = some (.int .i64 kb) := fun o o' => cell_later (nx_trans (nx_alloc _ _) (nx_alloc _ _)) q3
  have hE := ne_pair (World.block_lt_of_cell? _ _ q0)
  go_enter Tryd.func44, Tryd.ntmps44
  go_wp2
  exact bodyPost_ret (v := (.tuple #[.agg #[.int .i64 0, .int .i64 0, .string ⟨#[]⟩], .int .i64 8])) (by simp [results, Tryd.results44, go_sem]) rfl ⟨rfl, (by repeat (first | exact Below.refl _ _ | refine nx_al ?_ | refine nx_set ?_ (by first | omega | (simp <;> omega)) | refine nx_drew ?_ | refine nx_trans ?_ (by assumption)))⟩

set_option maxRecDepth 100000 in
set_option maxHeartbeats 1000000 in
theorem l01Builtin_maxno1 (nm : ByteArray) (b cap : Nat) (ka na : Int) (ta : ByteArray) (kb : Int) (hka : ka = 1) (hkb : ¬ kb = 1) (w : World) (hn : nm.toList = [109, 97, 120]) (q0 : w.cell? ⟨b, 0, none⟩ = some (.int .i64 ka)) (q1 : w.cell? ⟨b, 1, none⟩ = some (.int .i64 na)) (q2 : w.cell? ⟨b, 2, none⟩ = some (.string ta)) (q3 : w.cell? ⟨b, 3, none⟩ = some (.int .i64 kb)) :
    Calls Tryd.prog 44 #[.string nm, .slice (some ⟨b, 0, none⟩) 2 cap] w fun e w' => e = .returned (.tuple #[.agg #[.int .i64 0, .int .i64 0, .string ⟨#[]⟩], .int .i64 8]) ∧ Below w.heap.size w w' := by
  subst hka
  have hne : (kb != 1) = true := bne_iff_ne.2 hkb
  have p0 : ∀ o, (w.alloc o).cell? ⟨b, 0, none⟩ = some (.int .i64 1) := fun o => cell_later (nx_alloc _ _) q0
  have p1 : ∀ o, (w.alloc o).cell? ⟨b, 1, none⟩ = some (.int .i64 na) := fun o => cell_later (nx_alloc _ _) q1
  have p2 : ∀ o, (w.alloc o).cell? ⟨b, 2, none⟩ = some (.string ta) := fun o => cell_later (nx_alloc _ _) q2
  have p3 : ∀ o, (w.alloc o).cell? ⟨b, 3, none⟩ = some (.int .i64 kb) := fun o => cell_later (nx_alloc _ _) q3
  have pp3 : ∀ o o', ((w.alloc o).alloc o').cell? ⟨b, 3, none⟩ = some (.int .i64 kb) := fun o o' => cell_later (nx_trans (nx_alloc _ _) (nx_alloc _ _)) q3
  have hE := ne_pair (World.block_lt_of_cell? _ _ q0)
  go_enter Tryd.func44, Tryd.ntmps44
  go_wp2
  exact bodyPost_ret (v := (.tuple #[.agg #[.int .i64 0, .int .i64 0, .string ⟨#[]⟩], .int .i64 8])) (by simp [results, Tryd.results44, go_sem]) rfl ⟨rfl, (by repeat (first | exact Below.refl _ _ | refine nx_al ?_ | refine nx_set ?_ (by first | omega | (simp <;> omega)) | refine nx_drew ?_ | refine nx_trans ?_ (by assumption)))⟩

set_option maxRecDepth 100000 in
set_option maxHeartbeats 1000000 in
theorem l01Builtin_minno0 (nm : ByteArray) (b cap : Nat) (ka na : Int) (ta : ByteArray) (kb : Int) (hka : ¬ ka = 1) (w : World) (hn : nm.toList = [109, 105, 110]) (q0 : w.cell? ⟨b, 0, none⟩ = some (.int .i64 ka)) (q1 : w.cell? ⟨b, 1, none⟩ = some (.int .i64 na)) (q2 : w.cell? ⟨b, 2, none⟩ = some (.string ta)) (q3 : w.cell? ⟨b, 3, none⟩ = some (.int .i64 kb)) :
    Calls Tryd.prog 44 #[.string nm, .slice (some ⟨b, 0, none⟩) 2 cap] w fun e w' => e = .returned (.tuple #[.agg #[.int .i64 0, .int .i64 0, .string ⟨#[]⟩], .int .i64 8]) ∧ Below w.heap.size w w' := by
  have hne : (ka != 1) = true := bne_iff_ne.2 hka
  have p0 : ∀ o, (w.alloc o).cell? ⟨b, 0, none⟩ = some (.int .i64 ka) := fun o => cell_later (nx_alloc _ _) q0
  have p1 : ∀ o, (w.alloc o).cell? ⟨b, 1, none⟩ = some (.int .i64 na) := fun o => cell_later (nx_alloc _ _) q1
  have p2 : ∀ o, (w.alloc o).cell? ⟨b, 2, none⟩ = some (.string ta) := fun o => cell_later (nx_alloc _ _) q2
  have p3 : ∀ o, (w.alloc o).cell? ⟨b, 3, none⟩ = some (.int .i64 kb) := fun o => cell_later (nx_alloc _ _) q3
  have pp3 : ∀ o o', ((w.alloc o).alloc o').cell? ⟨b, 3, none⟩ = some (.int .i64 kb) := fun o o' => cell_later (nx_trans (nx_alloc _ _) (nx_alloc _ _)) q3
  have hE := ne_pair (World.block_lt_of_cell? _ _ q0)
  go_enter Tryd.func44, Tryd.ntmps44
  go_wp2
  exact bodyPost_ret (v := (.tuple #[.agg #[.int .i64 0, .int .i64 0, .string ⟨#[]⟩], .int .i64 8])) (by simp [results, Tryd.results44, go_sem]) rfl ⟨rfl, (by repeat (first | exact Below.refl _ _ | refine nx_al ?_ | refine nx_set ?_ (by first | omega | (simp <;> omega)) | refine nx_drew ?_ | refine nx_trans ?_ (by assumption)))⟩

set_option maxRecDepth 100000 in
set_option maxHeartbeats 1000000 in
theorem l01Builtin_minno1 (nm : ByteArray) (b cap : Nat) (ka na : Int) (ta : ByteArray) (kb : Int) (hka : ka = 1) (hkb : ¬ kb = 1) (w : World) (hn : nm.toList = [109, 105, 110]) (q0 : w.cell? ⟨b, 0, none⟩ = some (.int .i64 ka)) (q1 : w.cell? ⟨b, 1, none⟩ = some (.int .i64 na)) (q2 : w.cell? ⟨b, 2, none⟩ = some (.string ta)) (q3 : w.cell? ⟨b, 3, none⟩ = some (.int .i64 kb)) :
    Calls Tryd.prog 44 #[.string nm, .slice (some ⟨b, 0, none⟩) 2 cap] w fun e w' => e = .returned (.tuple #[.agg #[.int .i64 0, .int .i64 0, .string ⟨#[]⟩], .int .i64 8]) ∧ Below w.heap.size w w' := by
  subst hka
  have hne : (kb != 1) = true := bne_iff_ne.2 hkb
  have p0 : ∀ o, (w.alloc o).cell? ⟨b, 0, none⟩ = some (.int .i64 1) := fun o => cell_later (nx_alloc _ _) q0
  have p1 : ∀ o, (w.alloc o).cell? ⟨b, 1, none⟩ = some (.int .i64 na) := fun o => cell_later (nx_alloc _ _) q1
  have p2 : ∀ o, (w.alloc o).cell? ⟨b, 2, none⟩ = some (.string ta) := fun o => cell_later (nx_alloc _ _) q2
  have p3 : ∀ o, (w.alloc o).cell? ⟨b, 3, none⟩ = some (.int .i64 kb) := fun o => cell_later (nx_alloc _ _) q3
  have pp3 : ∀ o o', ((w.alloc o).alloc o').cell? ⟨b, 3, none⟩ = some (.int .i64 kb) := fun o o' => cell_later (nx_trans (nx_alloc _ _) (nx_alloc _ _)) q3
  have hE := ne_pair (World.block_lt_of_cell? _ _ q0)
  go_enter Tryd.func44, Tryd.ntmps44
  go_wp2
  exact bodyPost_ret (v := (.tuple #[.agg #[.int .i64 0, .int .i64 0, .string ⟨#[]⟩], .int .i64 8])) (by simp [results, Tryd.results44, go_sem]) rfl ⟨rfl, (by repeat (first | exact Below.refl _ _ | refine nx_al ?_ | refine nx_set ?_ (by first | omega | (simp <;> omega)) | refine nx_drew ?_ | refine nx_trans ?_ (by assumption)))⟩

set_option maxRecDepth 100000 in
set_option maxHeartbeats 1000000 in
theorem l01Builtin_absa (nm : ByteArray) (b cap : Nat) (x : Int) (ta : ByteArray) (h0 : -2147483648 ≤ x) (h1 : x ≤ 2147483647) (h : x < 0) (w : World) (hn : nm.toList = [97, 98, 115]) (q0 : w.cell? ⟨b, 0, none⟩ = some (.int .i64 1)) (q1 : w.cell? ⟨b, 1, none⟩ = some (.int .i64 x)) (q2 : w.cell? ⟨b, 2, none⟩ = some (.string ta)) :
    Calls Tryd.prog 44 #[.string nm, .slice (some ⟨b, 0, none⟩) 1 cap] w fun e w' => e = .returned (.tuple #[.agg #[.int .i64 (fitR (-x)).k, .int .i64 (fitR (-x)).n, .string (fitR (-x)).t], .int .i64 (fitR (-x)).c]) ∧ Below w.heap.size w w' := by
  have p0 : ∀ o, (w.alloc o).cell? ⟨b, 0, none⟩ = some (.int .i64 1) := fun o => cell_later (nx_alloc _ _) q0
  have p1 : ∀ o, (w.alloc o).cell? ⟨b, 1, none⟩ = some (.int .i64 x) := fun o => cell_later (nx_alloc _ _) q1
  have p2 : ∀ o, (w.alloc o).cell? ⟨b, 2, none⟩ = some (.string ta) := fun o => cell_later (nx_alloc _ _) q2
  have hE := ne_pair (World.block_lt_of_cell? _ _ q0)
  go_enter Tryd.func44, Tryd.ntmps44
  have hw : IntKind.i64.wrap (-x) = -x := by rw [IntKind.wrap_i64]; omega
  have hm : max x (-x) = -x := by omega
  go_wp2_with fail
  refine (l01Fit_any _ _).mono ?_
  rintro e w1 ⟨rfl, hb1⟩
  obtain ⟨hc1, hf1⟩ := bcell hb1
  have hz1_0 : w.heap.size < w1.heap.size := by have := hb1.size; first | omega | (simp at this; omega)
  have hz1_1 : w.heap.size + 1 < w1.heap.size := by have := hb1.size; first | omega | (simp at this; omega)
  have z1_0 : w1.cell? ⟨w.heap.size, 0, none⟩ = some (.int .i64 0) := by rw [hc1 _ _ (by first | omega | (simp; done) | (simp; omega))]; simp [World.cell?_alloc_at, World.cell?_alloc_past]
  have z1_1 : w1.cell? ⟨w.heap.size, 1, none⟩ = some (.int .i64 0) := by rw [hc1 _ _ (by first | omega | (simp; done) | (simp; omega))]; simp [World.cell?_alloc_at, World.cell?_alloc_past]
  have z1_2 : w1.cell? ⟨w.heap.size, 2, none⟩ = some (.string ⟨#[]⟩) := by rw [hc1 _ _ (by first | omega | (simp; done) | (simp; omega))]; simp [World.cell?_alloc_at, World.cell?_alloc_past]
  go_wp2
  exact bodyPost_ret (v := (.tuple #[.agg #[.int .i64 (fitR (-x)).k, .int .i64 (fitR (-x)).n, .string (fitR (-x)).t], .int .i64 (fitR (-x)).c])) (by simp [results, Tryd.results44, go_sem, z1_0, z1_1, z1_2]) rfl ⟨rfl, (by repeat (first | exact Below.refl _ _ | refine nx_al ?_ | refine nx_set ?_ (by first | omega | (simp <;> omega)) | refine nx_drew ?_ | refine nx_trans ?_ (by assumption)))⟩

set_option maxRecDepth 100000 in
set_option maxHeartbeats 1000000 in
theorem l01Builtin_absb (nm : ByteArray) (b cap : Nat) (x : Int) (ta : ByteArray) (h0 : -2147483648 ≤ x) (h1 : x ≤ 2147483647) (h : 0 < x) (w : World) (hn : nm.toList = [97, 98, 115]) (q0 : w.cell? ⟨b, 0, none⟩ = some (.int .i64 1)) (q1 : w.cell? ⟨b, 1, none⟩ = some (.int .i64 x)) (q2 : w.cell? ⟨b, 2, none⟩ = some (.string ta)) :
    Calls Tryd.prog 44 #[.string nm, .slice (some ⟨b, 0, none⟩) 1 cap] w fun e w' => e = .returned (.tuple #[.agg #[.int .i64 (fitR (x)).k, .int .i64 (fitR (x)).n, .string (fitR (x)).t], .int .i64 (fitR (x)).c]) ∧ Below w.heap.size w w' := by
  have p0 : ∀ o, (w.alloc o).cell? ⟨b, 0, none⟩ = some (.int .i64 1) := fun o => cell_later (nx_alloc _ _) q0
  have p1 : ∀ o, (w.alloc o).cell? ⟨b, 1, none⟩ = some (.int .i64 x) := fun o => cell_later (nx_alloc _ _) q1
  have p2 : ∀ o, (w.alloc o).cell? ⟨b, 2, none⟩ = some (.string ta) := fun o => cell_later (nx_alloc _ _) q2
  have hE := ne_pair (World.block_lt_of_cell? _ _ q0)
  go_enter Tryd.func44, Tryd.ntmps44
  have hw : IntKind.i64.wrap (-x) = -x := by rw [IntKind.wrap_i64]; omega
  have hm : max x (-x) = x := by omega
  go_wp2_with fail
  refine (l01Fit_any _ _).mono ?_
  rintro e w1 ⟨rfl, hb1⟩
  obtain ⟨hc1, hf1⟩ := bcell hb1
  have hz1_0 : w.heap.size < w1.heap.size := by have := hb1.size; first | omega | (simp at this; omega)
  have hz1_1 : w.heap.size + 1 < w1.heap.size := by have := hb1.size; first | omega | (simp at this; omega)
  have z1_0 : w1.cell? ⟨w.heap.size, 0, none⟩ = some (.int .i64 0) := by rw [hc1 _ _ (by first | omega | (simp; done) | (simp; omega))]; simp [World.cell?_alloc_at, World.cell?_alloc_past]
  have z1_1 : w1.cell? ⟨w.heap.size, 1, none⟩ = some (.int .i64 0) := by rw [hc1 _ _ (by first | omega | (simp; done) | (simp; omega))]; simp [World.cell?_alloc_at, World.cell?_alloc_past]
  have z1_2 : w1.cell? ⟨w.heap.size, 2, none⟩ = some (.string ⟨#[]⟩) := by rw [hc1 _ _ (by first | omega | (simp; done) | (simp; omega))]; simp [World.cell?_alloc_at, World.cell?_alloc_past]
  go_wp2
  exact bodyPost_ret (v := (.tuple #[.agg #[.int .i64 (fitR (x)).k, .int .i64 (fitR (x)).n, .string (fitR (x)).t], .int .i64 (fitR (x)).c])) (by simp [results, Tryd.results44, go_sem, z1_0, z1_1, z1_2]) rfl ⟨rfl, (by repeat (first | exact Below.refl _ _ | refine nx_al ?_ | refine nx_set ?_ (by first | omega | (simp <;> omega)) | refine nx_drew ?_ | refine nx_trans ?_ (by assumption)))⟩

set_option maxRecDepth 100000 in
set_option maxHeartbeats 1000000 in
theorem l01Builtin_absc (nm : ByteArray) (b cap : Nat) (ta : ByteArray) (w : World) (hn : nm.toList = [97, 98, 115]) (q0 : w.cell? ⟨b, 0, none⟩ = some (.int .i64 1)) (q1 : w.cell? ⟨b, 1, none⟩ = some (.int .i64 0)) (q2 : w.cell? ⟨b, 2, none⟩ = some (.string ta)) :
    Calls Tryd.prog 44 #[.string nm, .slice (some ⟨b, 0, none⟩) 1 cap] w fun e w' => e = .returned (.tuple #[.agg #[.int .i64 (fitR (0)).k, .int .i64 (fitR (0)).n, .string (fitR (0)).t], .int .i64 (fitR (0)).c]) ∧ Below w.heap.size w w' := by
  have p0 : ∀ o, (w.alloc o).cell? ⟨b, 0, none⟩ = some (.int .i64 1) := fun o => cell_later (nx_alloc _ _) q0
  have p1 : ∀ o, (w.alloc o).cell? ⟨b, 1, none⟩ = some (.int .i64 0) := fun o => cell_later (nx_alloc _ _) q1
  have p2 : ∀ o, (w.alloc o).cell? ⟨b, 2, none⟩ = some (.string ta) := fun o => cell_later (nx_alloc _ _) q2
  have hE := ne_pair (World.block_lt_of_cell? _ _ q0)
  go_enter Tryd.func44, Tryd.ntmps44
  go_wp2_with fail
  refine (l01Fit_any _ _).mono ?_
  rintro e w1 ⟨rfl, hb1⟩
  obtain ⟨hc1, hf1⟩ := bcell hb1
  have hz1_0 : w.heap.size < w1.heap.size := by have := hb1.size; first | omega | (simp at this; omega)
  have hz1_1 : w.heap.size + 1 < w1.heap.size := by have := hb1.size; first | omega | (simp at this; omega)
  have z1_0 : w1.cell? ⟨w.heap.size, 0, none⟩ = some (.int .i64 0) := by rw [hc1 _ _ (by first | omega | (simp; done) | (simp; omega))]; simp [World.cell?_alloc_at, World.cell?_alloc_past]
  have z1_1 : w1.cell? ⟨w.heap.size, 1, none⟩ = some (.int .i64 0) := by rw [hc1 _ _ (by first | omega | (simp; done) | (simp; omega))]; simp [World.cell?_alloc_at, World.cell?_alloc_past]
  have z1_2 : w1.cell? ⟨w.heap.size, 2, none⟩ = some (.string ⟨#[]⟩) := by rw [hc1 _ _ (by first | omega | (simp; done) | (simp; omega))]; simp [World.cell?_alloc_at, World.cell?_alloc_past]
  go_wp2
  exact bodyPost_ret (v := (.tuple #[.agg #[.int .i64 (fitR (0)).k, .int .i64 (fitR (0)).n, .string (fitR (0)).t], .int .i64 (fitR (0)).c])) (by simp [results, Tryd.results44, go_sem, z1_0, z1_1, z1_2]) rfl ⟨rfl, (by repeat (first | exact Below.refl _ _ | refine nx_al ?_ | refine nx_set ?_ (by first | omega | (simp <;> omega)) | refine nx_drew ?_ | refine nx_trans ?_ (by assumption)))⟩


end Go.Proofs.YtpncohkbdaoceaaDoor
