/- Builtins, the code's side: over arguments that lie in a row of cells. -/
import Derived.Test.YtckdacbopejdmaaDoorBinary1
import Derived.Test.YtckdacbopejdmaaDoorSmallWalk
import Derived.Deep.RegionHeld3
namespace Go.Proofs.YtckdacbopejdmaaDoor
open Go.RowKit
set_option linter.unusedVariables false

/-- a value's three fields -/
structure V3 where
  k : Int
  n : Int
  t : ByteArray
/-- values in a row of cells, three cells each -/
def ArgsAt (w : World) (b : Nat) (vs : List V3) : Prop := ∀ i (h : i < vs.length), w.cell? ⟨b, i * 3, none⟩ = some (.int .i64 vs[i].k) ∧ w.cell? ⟨b, i * 3 + 1, none⟩ = some (.int .i64 vs[i].n) ∧ w.cell? ⟨b, i * 3 + 2, none⟩ = some (.string vs[i].t)
theorem ArgsAt.later {w w' : World} {b : Nat} {vs : List V3} (h : ArgsAt w b vs) (hb : Below w.heap.size w w') : ArgsAt w' b vs := fun i hi =>
  ⟨cell_later hb (h i hi).1, cell_later hb (h i hi).2.1, cell_later hb (h i hi).2.2⟩
theorem ArgsAt.alloc {w : World} {b : Nat} {vs : List V3} (h : ArgsAt w b vs) (o : Obj) : ArgsAt (w.alloc o) b vs := h.later (nx_alloc _ _)
theorem ne_pair {a b : Nat} (h : a < b) : ¬ a = b ∧ ¬ b = a ∧ a < b := by omega
def okV (v : V3) : Prop := vokB v.k v.n v.t = true ∧ v.t.size ≤ maxLen
/-- the letter asks for the kind -/
def fitC (c k : Int) : Prop := ¬ (c = 116 ∧ ¬ k = 3) ∧ ¬ (c = 110 ∧ ¬ k = 1)

theorem intValue_agg (n : Int) (w : World) :
    Calls Tryd.prog 69 #[.int .i64 n] w fun e w' => e = .returned (.agg #[.int .i64 1, .int .i64 n, .string ⟨#[]⟩]) ∧ Below w.heap.size w w' := intValue_any n w

set_option maxHeartbeats 2000000 in
theorem kindsFit_yes (tk : ByteArray) (vs : List V3) (b cap : Nat) (w : World) (htk : tk.size = vs.length) (hs : vs.length ≤ 4096) (hargs : ArgsAt w b vs)
    (hfit : ∀ i (h : i < vs.length) (h' : i < tk.size), fitC (tk[i].toNat : Int) vs[i].k) :
    Calls Tryd.prog 48 #[.string tk, .slice (some ⟨b, 0, none⟩) vs.length cap] w fun e w' => e = .returned (.bool true) ∧ Below w.heap.size w w' := by
  have HA := hide hargs
  have HF := hide hfit
  have HT := hide htk
  clear hargs hfit htk
  go_enter Tryd.func48, Tryd.ntmps48
  go_wp2
  go_loopw [9] (fun i wx => ∃ k : Nat, k ≤ vs.length ∧ i = .int .i64 k ∧ Below w.heap.size w wx) (fun i _ => vs.length - (intOf i).toNat)
  case atStart => exact ⟨0, by omega, rfl, Below.refl _ _⟩
  case round =>
    obtain ⟨k, hk, rfl, hnx⟩ := hrel
    by_cases hlt : k < vs.length
    · obtain ⟨q0, q1, q2⟩ := (unhide HA).later hnx k hlt
      have hkt : k < tk.size := by have := unhide HT; omega
      have hf := unhide HF k hlt hkt
      generalize vs[k].k = vk at q0 hf
      generalize vs[k].n = vn at q1
      generalize vs[k].t = vt at q2
      by_cases e1 : (tk[k].toNat : Int) = 116
      · have hk3 : vk = 3 := Classical.byContradiction fun h => hf.1 ⟨e1, h⟩
        have b1 : ((tk[k].toNat : Int) == 116) = true := by rw [e1]; rfl
        have b2 : ((tk[k].toNat : Int) == 110) = false := by rw [e1]; rfl
        subst hk3
        clear hf e1
        go_wp2
        go_roundw
        case rel => exact ⟨k + 1, by omega, by go_num, hnx.alloc hnx.size _⟩
        case measure => simp [intOf]; omega
      have b1 : ((tk[k].toNat : Int) == 116) = false := beq_eq_false_iff_ne.2 e1
      by_cases e2 : (tk[k].toNat : Int) = 110
      · have hk3 : vk = 1 := Classical.byContradiction fun h => hf.2 ⟨e2, h⟩
        have b2 : ((tk[k].toNat : Int) == 110) = true := by rw [e2]; rfl
        subst hk3
        clear hf e1 e2
        go_wp2
        go_roundw
        case rel => exact ⟨k + 1, by omega, by go_num, hnx.alloc hnx.size _⟩
        case measure => simp [intOf]; omega
      · have b2 : ((tk[k].toNat : Int) == 110) = false := beq_eq_false_iff_ne.2 e2
        clear hf e1 e2
        go_wp2
        go_roundw
        case rel => exact ⟨k + 1, by omega, by go_num, hnx.alloc hnx.size _⟩
        case measure => simp [intOf]; omega
    · go_wp2
      go_ret
      exact ⟨rfl, hnx⟩

set_option maxHeartbeats 1000000 in
theorem callBuiltin_abs_a (nm : ByteArray) (b cap : Nat) (x : Int) (h1 : -2147483648 ≤ x) (h : x < 0) (w : World) (hn : nm.toList = [97, 98, 115]) (q1 : w.cell? ⟨b, 1, none⟩ = some (.int .i64 x)) :
    Calls Tryd.prog 50 #[.string nm, .slice (some ⟨b, 0, none⟩) 1 cap] w fun e w' => e = .returned (.tuple #[.agg #[.int .i64 (fitR (-x)).k, .int .i64 (fitR (-x)).n, .string (fitR (-x)).t], .int .i64 (fitR (-x)).c]) ∧ Below w.heap.size w w' := by
  have p1 : ∀ o, (w.alloc o).cell? ⟨b, 1, none⟩ = some (.int .i64 x) := fun o => cell_later (nx_alloc _ _) q1
  have hw : IntKind.i64.wrap (-x) = -x := by rw [IntKind.wrap_i64]; omega
  have hlt : x < -x := by omega
  have hE := ne_pair (World.block_lt_of_cell? _ _ q1)
  go_enter Tryd.func50, Tryd.ntmps50
  go_wp2
  go_region_held3 (fun y => y.cell? ⟨b, 1, none⟩ = some (.int .i64 x)) (go_keep) ((go_at_call 45; refine (boundedInt_any _ _).mono ?_; rintro e y ⟨rfl, hbx⟩; obtain ⟨hc, hf⟩ := bcell hbx; have hz := hbx.size; (try simp at hz); have hz0 := Nat.lt_of_succ_le hz; have c1 := cell_later (a := ⟨b, 1, none⟩) (v := .int .i64 x) hbx (by simp [*])))
  all_goals go_wp2
  all_goals exact bodyPost_ret (v := (.tuple #[.agg #[.int .i64 (fitR (-x)).k, .int .i64 (fitR (-x)).n, .string (fitR (-x)).t], .int .i64 (fitR (-x)).c])) (by simp [results, Tryd.results50, go_sem, *]) rfl ⟨rfl, (by repeat (first | exact Below.refl _ _ | refine nx_al ?_ | refine nx_set ?_ (by first | omega | (simp <;> omega)) | refine nx_drew ?_ | refine nx_trans ?_ (by assumption)))⟩

set_option maxHeartbeats 1000000 in
theorem callBuiltin_abs_b (nm : ByteArray) (b cap : Nat) (x : Int) (h2 : x ≤ 2147483647) (h : 0 < x) (w : World) (hn : nm.toList = [97, 98, 115]) (q1 : w.cell? ⟨b, 1, none⟩ = some (.int .i64 x)) :
    Calls Tryd.prog 50 #[.string nm, .slice (some ⟨b, 0, none⟩) 1 cap] w fun e w' => e = .returned (.tuple #[.agg #[.int .i64 (fitR (x)).k, .int .i64 (fitR (x)).n, .string (fitR (x)).t], .int .i64 (fitR (x)).c]) ∧ Below w.heap.size w w' := by
  have p1 : ∀ o, (w.alloc o).cell? ⟨b, 1, none⟩ = some (.int .i64 x) := fun o => cell_later (nx_alloc _ _) q1
  have hw : IntKind.i64.wrap (-x) = -x := by rw [IntKind.wrap_i64]; omega
  have hlt : -x < x := by omega
  have hE := ne_pair (World.block_lt_of_cell? _ _ q1)
  go_enter Tryd.func50, Tryd.ntmps50
  go_wp2
  go_region_held3 (fun y => y.cell? ⟨b, 1, none⟩ = some (.int .i64 x)) (go_keep) ((go_at_call 45; refine (boundedInt_any _ _).mono ?_; rintro e y ⟨rfl, hbx⟩; obtain ⟨hc, hf⟩ := bcell hbx; have hz := hbx.size; (try simp at hz); have hz0 := Nat.lt_of_succ_le hz; have c1 := cell_later (a := ⟨b, 1, none⟩) (v := .int .i64 x) hbx (by simp [*])))
  all_goals go_wp2
  all_goals exact bodyPost_ret (v := (.tuple #[.agg #[.int .i64 (fitR (x)).k, .int .i64 (fitR (x)).n, .string (fitR (x)).t], .int .i64 (fitR (x)).c])) (by simp [results, Tryd.results50, go_sem, *]) rfl ⟨rfl, (by repeat (first | exact Below.refl _ _ | refine nx_al ?_ | refine nx_set ?_ (by first | omega | (simp <;> omega)) | refine nx_drew ?_ | refine nx_trans ?_ (by assumption)))⟩

set_option maxHeartbeats 1000000 in
theorem callBuiltin_abs_c (nm : ByteArray) (b cap : Nat)  (w : World) (hn : nm.toList = [97, 98, 115]) (q1 : w.cell? ⟨b, 1, none⟩ = some (.int .i64 0)) :
    Calls Tryd.prog 50 #[.string nm, .slice (some ⟨b, 0, none⟩) 1 cap] w fun e w' => e = .returned (.tuple #[.agg #[.int .i64 (fitR (0)).k, .int .i64 (fitR (0)).n, .string (fitR (0)).t], .int .i64 (fitR (0)).c]) ∧ Below w.heap.size w w' := by
  have p1 : ∀ o, (w.alloc o).cell? ⟨b, 1, none⟩ = some (.int .i64 0) := fun o => cell_later (nx_alloc _ _) q1
  have hE := ne_pair (World.block_lt_of_cell? _ _ q1)
  go_enter Tryd.func50, Tryd.ntmps50
  go_wp2
  go_region_held3 (fun y => y.cell? ⟨b, 1, none⟩ = some (.int .i64 0)) (go_keep) ((go_at_call 45; refine (boundedInt_any _ _).mono ?_; rintro e y ⟨rfl, hbx⟩; obtain ⟨hc, hf⟩ := bcell hbx; have hz := hbx.size; (try simp at hz); have hz0 := Nat.lt_of_succ_le hz; have c1 := cell_later (a := ⟨b, 1, none⟩) (v := .int .i64 0) hbx (by simp [*])))
  all_goals go_wp2
  all_goals exact bodyPost_ret (v := (.tuple #[.agg #[.int .i64 (fitR (0)).k, .int .i64 (fitR (0)).n, .string (fitR (0)).t], .int .i64 (fitR (0)).c])) (by simp [results, Tryd.results50, go_sem, *]) rfl ⟨rfl, (by repeat (first | exact Below.refl _ _ | refine nx_al ?_ | refine nx_set ?_ (by first | omega | (simp <;> omega)) | refine nx_drew ?_ | refine nx_trans ?_ (by assumption)))⟩

set_option maxHeartbeats 1000000 in
theorem callBuiltin_max_a (nm : ByteArray) (b cap : Nat) (x z : Int) (h : x < z) (w : World) (hn : nm.toList = [109, 97, 120]) (q1 : w.cell? ⟨b, 1, none⟩ = some (.int .i64 x)) (q4 : w.cell? ⟨b, 4, none⟩ = some (.int .i64 z)) :
    Calls Tryd.prog 50 #[.string nm, .slice (some ⟨b, 0, none⟩) 2 cap] w fun e w' => e = .returned (.tuple #[.agg #[.int .i64 1, .int .i64 z, .string ⟨#[]⟩], .int .i64 0]) ∧ Below w.heap.size w w' := by
  have p1 : ∀ o, (w.alloc o).cell? ⟨b, 1, none⟩ = some (.int .i64 x) := fun o => cell_later (nx_alloc _ _) q1
  have p4 : ∀ o, (w.alloc o).cell? ⟨b, 4, none⟩ = some (.int .i64 z) := fun o => cell_later (nx_alloc _ _) q4
  have hE := ne_pair (World.block_lt_of_cell? _ _ q1)
  go_enter Tryd.func50, Tryd.ntmps50
  go_wp2
  go_region_held3 (fun y => y.cell? ⟨b, 1, none⟩ = some (.int .i64 x) ∧ y.cell? ⟨b, 4, none⟩ = some (.int .i64 z)) (go_keep) ((go_at_call 69; refine (intValue_agg _ _).mono ?_; rintro e y ⟨rfl, hbx⟩; obtain ⟨hc, hf⟩ := bcell hbx; have hz := hbx.size; (try simp at hz); have hz0 := Nat.lt_of_succ_le hz; have c1 := cell_later (a := ⟨b, 1, none⟩) (v := .int .i64 x) hbx (by simp [*]); have c4 := cell_later (a := ⟨b, 4, none⟩) (v := .int .i64 z) hbx (by simp [*])))
  all_goals go_wp2
  all_goals exact bodyPost_ret (v := (.tuple #[.agg #[.int .i64 1, .int .i64 z, .string ⟨#[]⟩], .int .i64 0])) (by simp [results, Tryd.results50, go_sem, *]) rfl ⟨rfl, (by repeat (first | exact Below.refl _ _ | refine nx_al ?_ | refine nx_set ?_ (by first | omega | (simp <;> omega)) | refine nx_drew ?_ | refine nx_trans ?_ (by assumption)))⟩

set_option maxHeartbeats 1000000 in
theorem callBuiltin_max_b (nm : ByteArray) (b cap : Nat) (x z : Int) (h : z < x) (w : World) (hn : nm.toList = [109, 97, 120]) (q1 : w.cell? ⟨b, 1, none⟩ = some (.int .i64 x)) (q4 : w.cell? ⟨b, 4, none⟩ = some (.int .i64 z)) :
    Calls Tryd.prog 50 #[.string nm, .slice (some ⟨b, 0, none⟩) 2 cap] w fun e w' => e = .returned (.tuple #[.agg #[.int .i64 1, .int .i64 x, .string ⟨#[]⟩], .int .i64 0]) ∧ Below w.heap.size w w' := by
  have p1 : ∀ o, (w.alloc o).cell? ⟨b, 1, none⟩ = some (.int .i64 x) := fun o => cell_later (nx_alloc _ _) q1
  have p4 : ∀ o, (w.alloc o).cell? ⟨b, 4, none⟩ = some (.int .i64 z) := fun o => cell_later (nx_alloc _ _) q4
  have hE := ne_pair (World.block_lt_of_cell? _ _ q1)
  go_enter Tryd.func50, Tryd.ntmps50
  go_wp2
  go_region_held3 (fun y => y.cell? ⟨b, 1, none⟩ = some (.int .i64 x) ∧ y.cell? ⟨b, 4, none⟩ = some (.int .i64 z)) (go_keep) ((go_at_call 69; refine (intValue_agg _ _).mono ?_; rintro e y ⟨rfl, hbx⟩; obtain ⟨hc, hf⟩ := bcell hbx; have hz := hbx.size; (try simp at hz); have hz0 := Nat.lt_of_succ_le hz; have c1 := cell_later (a := ⟨b, 1, none⟩) (v := .int .i64 x) hbx (by simp [*]); have c4 := cell_later (a := ⟨b, 4, none⟩) (v := .int .i64 z) hbx (by simp [*])))
  all_goals go_wp2
  all_goals exact bodyPost_ret (v := (.tuple #[.agg #[.int .i64 1, .int .i64 x, .string ⟨#[]⟩], .int .i64 0])) (by simp [results, Tryd.results50, go_sem, *]) rfl ⟨rfl, (by repeat (first | exact Below.refl _ _ | refine nx_al ?_ | refine nx_set ?_ (by first | omega | (simp <;> omega)) | refine nx_drew ?_ | refine nx_trans ?_ (by assumption)))⟩

set_option maxHeartbeats 1000000 in
theorem callBuiltin_min_a (nm : ByteArray) (b cap : Nat) (x z : Int) (h : x < z) (w : World) (hn : nm.toList = [109, 105, 110]) (q1 : w.cell? ⟨b, 1, none⟩ = some (.int .i64 x)) (q4 : w.cell? ⟨b, 4, none⟩ = some (.int .i64 z)) :
    Calls Tryd.prog 50 #[.string nm, .slice (some ⟨b, 0, none⟩) 2 cap] w fun e w' => e = .returned (.tuple #[.agg #[.int .i64 1, .int .i64 x, .string ⟨#[]⟩], .int .i64 0]) ∧ Below w.heap.size w w' := by
  have p1 : ∀ o, (w.alloc o).cell? ⟨b, 1, none⟩ = some (.int .i64 x) := fun o => cell_later (nx_alloc _ _) q1
  have p4 : ∀ o, (w.alloc o).cell? ⟨b, 4, none⟩ = some (.int .i64 z) := fun o => cell_later (nx_alloc _ _) q4
  have hE := ne_pair (World.block_lt_of_cell? _ _ q1)
  go_enter Tryd.func50, Tryd.ntmps50
  go_wp2
  go_region_held3 (fun y => y.cell? ⟨b, 1, none⟩ = some (.int .i64 x) ∧ y.cell? ⟨b, 4, none⟩ = some (.int .i64 z)) (go_keep) ((go_at_call 69; refine (intValue_agg _ _).mono ?_; rintro e y ⟨rfl, hbx⟩; obtain ⟨hc, hf⟩ := bcell hbx; have hz := hbx.size; (try simp at hz); have hz0 := Nat.lt_of_succ_le hz; have c1 := cell_later (a := ⟨b, 1, none⟩) (v := .int .i64 x) hbx (by simp [*]); have c4 := cell_later (a := ⟨b, 4, none⟩) (v := .int .i64 z) hbx (by simp [*])))
  all_goals go_wp2
  all_goals exact bodyPost_ret (v := (.tuple #[.agg #[.int .i64 1, .int .i64 x, .string ⟨#[]⟩], .int .i64 0])) (by simp [results, Tryd.results50, go_sem, *]) rfl ⟨rfl, (by repeat (first | exact Below.refl _ _ | refine nx_al ?_ | refine nx_set ?_ (by first | omega | (simp <;> omega)) | refine nx_drew ?_ | refine nx_trans ?_ (by assumption)))⟩

set_option maxHeartbeats 1000000 in
theorem callBuiltin_min_b (nm : ByteArray) (b cap : Nat) (x z : Int) (h : z < x) (w : World) (hn : nm.toList = [109, 105, 110]) (q1 : w.cell? ⟨b, 1, none⟩ = some (.int .i64 x)) (q4 : w.cell? ⟨b, 4, none⟩ = some (.int .i64 z)) :
    Calls Tryd.prog 50 #[.string nm, .slice (some ⟨b, 0, none⟩) 2 cap] w fun e w' => e = .returned (.tuple #[.agg #[.int .i64 1, .int .i64 z, .string ⟨#[]⟩], .int .i64 0]) ∧ Below w.heap.size w w' := by
  have p1 : ∀ o, (w.alloc o).cell? ⟨b, 1, none⟩ = some (.int .i64 x) := fun o => cell_later (nx_alloc _ _) q1
  have p4 : ∀ o, (w.alloc o).cell? ⟨b, 4, none⟩ = some (.int .i64 z) := fun o => cell_later (nx_alloc _ _) q4
  have hE := ne_pair (World.block_lt_of_cell? _ _ q1)
  go_enter Tryd.func50, Tryd.ntmps50
  go_wp2
  go_region_held3 (fun y => y.cell? ⟨b, 1, none⟩ = some (.int .i64 x) ∧ y.cell? ⟨b, 4, none⟩ = some (.int .i64 z)) (go_keep) ((go_at_call 69; refine (intValue_agg _ _).mono ?_; rintro e y ⟨rfl, hbx⟩; obtain ⟨hc, hf⟩ := bcell hbx; have hz := hbx.size; (try simp at hz); have hz0 := Nat.lt_of_succ_le hz; have c1 := cell_later (a := ⟨b, 1, none⟩) (v := .int .i64 x) hbx (by simp [*]); have c4 := cell_later (a := ⟨b, 4, none⟩) (v := .int .i64 z) hbx (by simp [*])))
  all_goals go_wp2
  all_goals exact bodyPost_ret (v := (.tuple #[.agg #[.int .i64 1, .int .i64 z, .string ⟨#[]⟩], .int .i64 0])) (by simp [results, Tryd.results50, go_sem, *]) rfl ⟨rfl, (by repeat (first | exact Below.refl _ _ | refine nx_al ?_ | refine nx_set ?_ (by first | omega | (simp <;> omega)) | refine nx_drew ?_ | refine nx_trans ?_ (by assumption)))⟩

set_option maxHeartbeats 1000000 in
theorem callBuiltin_max_c (nm : ByteArray) (b cap : Nat) (x : Int) (w : World) (hn : nm.toList = [109, 97, 120]) (q1 : w.cell? ⟨b, 1, none⟩ = some (.int .i64 x)) (q4 : w.cell? ⟨b, 4, none⟩ = some (.int .i64 x)) :
    Calls Tryd.prog 50 #[.string nm, .slice (some ⟨b, 0, none⟩) 2 cap] w fun e w' => e = .returned (.tuple #[.agg #[.int .i64 1, .int .i64 x, .string ⟨#[]⟩], .int .i64 0]) ∧ Below w.heap.size w w' := by
  have p1 : ∀ o, (w.alloc o).cell? ⟨b, 1, none⟩ = some (.int .i64 x) := fun o => cell_later (nx_alloc _ _) q1
  have p4 : ∀ o, (w.alloc o).cell? ⟨b, 4, none⟩ = some (.int .i64 x) := fun o => cell_later (nx_alloc _ _) q4
  have hE := ne_pair (World.block_lt_of_cell? _ _ q1)
  go_enter Tryd.func50, Tryd.ntmps50
  go_wp2
  go_region_held3 (fun y => y.cell? ⟨b, 1, none⟩ = some (.int .i64 x) ∧ y.cell? ⟨b, 4, none⟩ = some (.int .i64 x)) (go_keep) ((go_at_call 69; refine (intValue_agg _ _).mono ?_; rintro e y ⟨rfl, hbx⟩; obtain ⟨hc, hf⟩ := bcell hbx; have hz := hbx.size; (try simp at hz); have hz0 := Nat.lt_of_succ_le hz; have c1 := cell_later (a := ⟨b, 1, none⟩) (v := .int .i64 x) hbx (by simp [*]); have c4 := cell_later (a := ⟨b, 4, none⟩) (v := .int .i64 x) hbx (by simp [*])))
  all_goals go_wp2
  all_goals exact bodyPost_ret (v := (.tuple #[.agg #[.int .i64 1, .int .i64 x, .string ⟨#[]⟩], .int .i64 0])) (by simp [results, Tryd.results50, go_sem, *]) rfl ⟨rfl, (by repeat (first | exact Below.refl _ _ | refine nx_al ?_ | refine nx_set ?_ (by first | omega | (simp <;> omega)) | refine nx_drew ?_ | refine nx_trans ?_ (by assumption)))⟩

set_option maxHeartbeats 1000000 in
theorem callBuiltin_min_c (nm : ByteArray) (b cap : Nat) (x : Int) (w : World) (hn : nm.toList = [109, 105, 110]) (q1 : w.cell? ⟨b, 1, none⟩ = some (.int .i64 x)) (q4 : w.cell? ⟨b, 4, none⟩ = some (.int .i64 x)) :
    Calls Tryd.prog 50 #[.string nm, .slice (some ⟨b, 0, none⟩) 2 cap] w fun e w' => e = .returned (.tuple #[.agg #[.int .i64 1, .int .i64 x, .string ⟨#[]⟩], .int .i64 0]) ∧ Below w.heap.size w w' := by
  have p1 : ∀ o, (w.alloc o).cell? ⟨b, 1, none⟩ = some (.int .i64 x) := fun o => cell_later (nx_alloc _ _) q1
  have p4 : ∀ o, (w.alloc o).cell? ⟨b, 4, none⟩ = some (.int .i64 x) := fun o => cell_later (nx_alloc _ _) q4
  have hE := ne_pair (World.block_lt_of_cell? _ _ q1)
  go_enter Tryd.func50, Tryd.ntmps50
  go_wp2
  go_region_held3 (fun y => y.cell? ⟨b, 1, none⟩ = some (.int .i64 x) ∧ y.cell? ⟨b, 4, none⟩ = some (.int .i64 x)) (go_keep) ((go_at_call 69; refine (intValue_agg _ _).mono ?_; rintro e y ⟨rfl, hbx⟩; obtain ⟨hc, hf⟩ := bcell hbx; have hz := hbx.size; (try simp at hz); have hz0 := Nat.lt_of_succ_le hz; have c1 := cell_later (a := ⟨b, 1, none⟩) (v := .int .i64 x) hbx (by simp [*]); have c4 := cell_later (a := ⟨b, 4, none⟩) (v := .int .i64 x) hbx (by simp [*])))
  all_goals go_wp2
  all_goals exact bodyPost_ret (v := (.tuple #[.agg #[.int .i64 1, .int .i64 x, .string ⟨#[]⟩], .int .i64 0])) (by simp [results, Tryd.results50, go_sem, *]) rfl ⟨rfl, (by repeat (first | exact Below.refl _ _ | refine nx_al ?_ | refine nx_set ?_ (by first | omega | (simp <;> omega)) | refine nx_drew ?_ | refine nx_trans ?_ (by assumption)))⟩

end Go.Proofs.YtckdacbopejdmaaDoor
