/- Builtins on texts, the code's side. -/
import Derived.Test.YtpncohkbdaoceaaDoorBuiltin2
import Derived.Test.YtpncohkbdaoceaaDoorUnary2
import Derived.Deep.RegionHeld3
namespace Go.Proofs.YtpncohkbdaoceaaDoor
open Go.RowKit
set_option linter.unusedVariables false

def tx (t : ByteArray) : V3 := ⟨3, 0, t⟩
theorem okV_tx {t : ByteArray} (h : t.size ≤ 60) : okV (tx t) := ⟨by simp [tx, vokB, h], Nat.le_trans h (by decide)⟩

set_option maxHeartbeats 400000 in
theorem byteAt_neg (t : ByteArray) (n : Int) (h : n < 0) (w : World) :
    Calls Tryd.prog 53 #[.string t, .int .i64 n] w fun e w' => e = .returned (.tuple #[.agg #[.int .i64 0, .int .i64 0, .string ⟨#[]⟩], .int .i64 4]) ∧ Below w.heap.size w w' := by
  go_enter Tryd.func53, Tryd.ntmps53
  go_wp2
  exact bodyPost_ret (v := (.tuple #[.agg #[.int .i64 0, .int .i64 0, .string ⟨#[]⟩], .int .i64 4])) (by simp [results, Tryd.results53, go_sem]) rfl ⟨rfl, (by repeat (first | exact Below.refl _ _ | refine nx_al ?_ | refine nx_set ?_ (by first | omega | (simp <;> omega)) | refine nx_drew ?_ | refine nx_trans ?_ (by assumption)))⟩

set_option maxHeartbeats 400000 in
theorem byteAt_far (t : ByteArray) (n : Int) (h0 : 0 ≤ n) (h : (t.size : Int) ≤ n) (w : World) :
    Calls Tryd.prog 53 #[.string t, .int .i64 n] w fun e w' => e = .returned (.tuple #[.agg #[.int .i64 0, .int .i64 0, .string ⟨#[]⟩], .int .i64 4]) ∧ Below w.heap.size w w' := by
  go_enter Tryd.func53, Tryd.ntmps53
  go_wp2
  exact bodyPost_ret (v := (.tuple #[.agg #[.int .i64 0, .int .i64 0, .string ⟨#[]⟩], .int .i64 4])) (by simp [results, Tryd.results53, go_sem]) rfl ⟨rfl, (by repeat (first | exact Below.refl _ _ | refine nx_al ?_ | refine nx_set ?_ (by first | omega | (simp <;> omega)) | refine nx_drew ?_ | refine nx_trans ?_ (by assumption)))⟩

set_option maxHeartbeats 400000 in
theorem byteAt_in (t : ByteArray) (k : Nat) (h : k < t.size) (hs : t.size ≤ 60) (w : World) :
    Calls Tryd.prog 53 #[.string t, .int .i64 (k : Int)] w fun e w' => e = .returned (.tuple #[.agg #[.int .i64 1, .int .i64 ((t[k].toNat : Nat) : Int), .string ⟨#[]⟩], .int .i64 0]) ∧ Below w.heap.size w w' := by
  go_enter Tryd.func53, Tryd.ntmps53
  have hwr : wrap64 ((t[k].toNat : Nat) : Int) = ((t[k].toNat : Nat) : Int) := by have := t[k].toNat_lt; unfold wrap64; omega
  go_wp2_with fail
  refine (intValue_agg _ _).mono ?_
  rintro e w1 ⟨rfl, hb1⟩
  obtain ⟨hc1, hf1⟩ := bcell hb1
  have hz1_0 : w.heap.size < w1.heap.size := by have := hb1.size; first | omega | (simp at this; omega)
  go_wp2
  exact bodyPost_ret (v := (.tuple #[.agg #[.int .i64 1, .int .i64 ((t[k].toNat : Nat) : Int), .string ⟨#[]⟩], .int .i64 0])) (by simp [results, Tryd.results53, go_sem, hc1]) rfl ⟨rfl, (by repeat (first | exact Below.refl _ _ | refine nx_al ?_ | refine nx_set ?_ (by first | omega | (simp <;> omega)) | refine nx_drew ?_ | refine nx_trans ?_ (by assumption)))⟩

set_option maxHeartbeats 400000 in
theorem cutText_neg (t : ByteArray) (n m : Int) (h : n < 0) (w : World) :
    Calls Tryd.prog 54 #[.string t, .int .i64 n, .int .i64 m] w fun e w' => e = .returned (.tuple #[.agg #[.int .i64 0, .int .i64 0, .string ⟨#[]⟩], .int .i64 4]) ∧ Below w.heap.size w w' := by
  go_enter Tryd.func54, Tryd.ntmps54
  go_wp2
  exact bodyPost_ret (v := (.tuple #[.agg #[.int .i64 0, .int .i64 0, .string ⟨#[]⟩], .int .i64 4])) (by simp [results, Tryd.results54, go_sem]) rfl ⟨rfl, (by repeat (first | exact Below.refl _ _ | refine nx_al ?_ | refine nx_set ?_ (by first | omega | (simp <;> omega)) | refine nx_drew ?_ | refine nx_trans ?_ (by assumption)))⟩

set_option maxHeartbeats 400000 in
theorem cutText_back (t : ByteArray) (n m : Int) (h0 : 0 ≤ n) (h : m < n) (w : World) :
    Calls Tryd.prog 54 #[.string t, .int .i64 n, .int .i64 m] w fun e w' => e = .returned (.tuple #[.agg #[.int .i64 0, .int .i64 0, .string ⟨#[]⟩], .int .i64 4]) ∧ Below w.heap.size w w' := by
  go_enter Tryd.func54, Tryd.ntmps54
  go_wp2
  exact bodyPost_ret (v := (.tuple #[.agg #[.int .i64 0, .int .i64 0, .string ⟨#[]⟩], .int .i64 4])) (by simp [results, Tryd.results54, go_sem]) rfl ⟨rfl, (by repeat (first | exact Below.refl _ _ | refine nx_al ?_ | refine nx_set ?_ (by first | omega | (simp <;> omega)) | refine nx_drew ?_ | refine nx_trans ?_ (by assumption)))⟩

set_option maxHeartbeats 400000 in
theorem cutText_far (t : ByteArray) (n m : Int) (h0 : 0 ≤ n) (h1 : n ≤ m) (h : (t.size : Int) < m) (w : World) :
    Calls Tryd.prog 54 #[.string t, .int .i64 n, .int .i64 m] w fun e w' => e = .returned (.tuple #[.agg #[.int .i64 0, .int .i64 0, .string ⟨#[]⟩], .int .i64 4]) ∧ Below w.heap.size w w' := by
  go_enter Tryd.func54, Tryd.ntmps54
  go_wp2
  exact bodyPost_ret (v := (.tuple #[.agg #[.int .i64 0, .int .i64 0, .string ⟨#[]⟩], .int .i64 4])) (by simp [results, Tryd.results54, go_sem]) rfl ⟨rfl, (by repeat (first | exact Below.refl _ _ | refine nx_al ?_ | refine nx_set ?_ (by first | omega | (simp <;> omega)) | refine nx_drew ?_ | refine nx_trans ?_ (by assumption)))⟩

set_option maxHeartbeats 400000 in
theorem cutText_in (t : ByteArray) (j k : Nat) (h1 : j ≤ k) (h : k ≤ t.size) (hs : t.size ≤ 60) (w : World) :
    Calls Tryd.prog 54 #[.string t, .int .i64 (j : Int), .int .i64 (k : Int)] w fun e w' => e = .returned (.tuple #[.agg #[.int .i64 3, .int .i64 0, .string (t.extract j k)], .int .i64 0]) ∧ Below w.heap.size w w' := by
  go_enter Tryd.func54, Tryd.ntmps54
  go_wp2_with fail
  refine (textValue_agg _ _).mono ?_
  rintro e w1 ⟨rfl, hb1⟩
  obtain ⟨hc1, hf1⟩ := bcell hb1
  have hz1_0 : w.heap.size < w1.heap.size := by have := hb1.size; first | omega | (simp at this; omega)
  go_wp2
  exact bodyPost_ret (v := (.tuple #[.agg #[.int .i64 3, .int .i64 0, .string (t.extract j k)], .int .i64 0])) (by simp [results, Tryd.results54, go_sem, hc1]) rfl ⟨rfl, (by repeat (first | exact Below.refl _ _ | refine nx_al ?_ | refine nx_set ?_ (by first | omega | (simp <;> omega)) | refine nx_drew ?_ | refine nx_trans ?_ (by assumption)))⟩

set_option maxHeartbeats 2000000 in
theorem kindsFit_no (tk : ByteArray) (vs : List V3) (b cap : Nat) (w : World) (htk : tk.size = vs.length) (hs : vs.length ≤ 4096) (hargs : ArgsAt w b vs)
    (hno : ¬ ∀ i (h : i < vs.length) (h' : i < tk.size), fitC (tk[i].toNat : Int) vs[i].k) :
    Calls Tryd.prog 32 #[.string tk, .slice (some ⟨b, 0, none⟩) vs.length cap] w fun e w' => e = .returned (.bool false) ∧ Below w.heap.size w w' := by
  have HA := hide hargs
  have HF := hide hno
  have HT := hide htk
  clear hargs hno htk
  go_enter Tryd.func32, Tryd.ntmps32
  go_wp2
  go_loopw [9] (fun i wx => ∃ k : Nat, k ≤ vs.length ∧ i = .int .i64 k ∧ Below w.heap.size w wx ∧ Hid (∀ i (h : i < vs.length) (h' : i < tk.size), i < k → fitC (tk[i].toNat : Int) vs[i].k)) (fun i _ => vs.length - (intOf i).toNat)
  case atStart => exact ⟨0, by omega, rfl, Below.refl _ _, hide fun i h h' hk => by omega⟩
  case round =>
    obtain ⟨k, hk, rfl, hnx, HK⟩ := hrel
    by_cases hlt : k < vs.length
    · obtain ⟨q0, q1, q2⟩ := (unhide HA).later hnx k hlt
      have hkt : k < tk.size := by have := unhide HT; omega
      have HS : Hid (fitC (tk[k].toNat : Int) vs[k].k → ∀ i (h : i < vs.length) (h' : i < tk.size), i < k + 1 → fitC (tk[i].toNat : Int) vs[i].k) := hide fun hf i h h' hi => by
        by_cases e : i = k
        · subst e; exact hf
        · exact unhide HK i h h' (by omega)
      generalize vs[k].k = vk at q0 HS
      generalize vs[k].n = vn at q1
      generalize vs[k].t = vt at q2
      by_cases e1 : (tk[k].toNat : Int) = 116
      · have b1 : ((tk[k].toNat : Int) == 116) = true := by rw [e1]; rfl
        have b2 : ((tk[k].toNat : Int) == 110) = false := by rw [e1]; rfl
        by_cases e3 : vk = 3
        · subst e3
          have HG := hide (unhide HS ⟨fun h => h.2 rfl, fun h => by omega⟩)
          clear HS e1
          go_wp2
          go_roundw
          case rel => exact ⟨k + 1, by omega, by go_num, hnx.alloc hnx.size _, HG⟩
          case measure => simp [intOf]; omega
        · have b3 : (vk != 3) = true := bne_iff_ne.2 e3
          clear HS e1
          go_wp2
          go_ret
          exact ⟨rfl, hnx.alloc hnx.size _⟩
      have b1 : ((tk[k].toNat : Int) == 116) = false := beq_eq_false_iff_ne.2 e1
      by_cases e2 : (tk[k].toNat : Int) = 110
      · have b2 : ((tk[k].toNat : Int) == 110) = true := by rw [e2]; rfl
        by_cases e3 : vk = 1
        · subst e3
          have HG := hide (unhide HS ⟨fun h => e1 h.1, fun h => h.2 rfl⟩)
          clear HS e1 e2
          go_wp2
          go_roundw
          case rel => exact ⟨k + 1, by omega, by go_num, hnx.alloc hnx.size _, HG⟩
          case measure => simp [intOf]; omega
        · have b3 : (vk != 1) = true := bne_iff_ne.2 e3
          clear HS e1 e2
          go_wp2
          go_ret
          exact ⟨rfl, hnx.alloc hnx.size _⟩
      · have b2 : ((tk[k].toNat : Int) == 110) = false := beq_eq_false_iff_ne.2 e2
        have HG := hide (unhide HS ⟨fun h => e1 h.1, fun h => e2 h.1⟩)
        clear HS e1 e2
        go_wp2
        go_roundw
        case rel => exact ⟨k + 1, by omega, by go_num, hnx.alloc hnx.size _, HG⟩
        case measure => simp [intOf]; omega
    · exact absurd (fun i h h' => unhide HK i h h' (by omega)) (unhide HF)

set_option maxHeartbeats 1000000 in
theorem callBuiltin_len (nm : ByteArray) (b cap : Nat) (t : ByteArray) (hs : t.size ≤ 60) (w : World) (hn : nm.toList = [108, 101, 110]) (q2 : w.cell? ⟨b, 2, none⟩ = some (.string t)) :
    Calls Tryd.prog 34 #[.string nm, .slice (some ⟨b, 0, none⟩) 1 cap] w fun e w' => e = .returned (.tuple #[.agg #[.int .i64 1, .int .i64 ((t.size : Nat) : Int), .string ⟨#[]⟩], .int .i64 0]) ∧ Below w.heap.size w w' := by
  have p2 : ∀ o, (w.alloc o).cell? ⟨b, 2, none⟩ = some (.string t) := fun o => cell_later (nx_alloc _ _) q2
  have hE := ne_pair (World.block_lt_of_cell? _ _ q2)
  go_enter Tryd.func34, Tryd.ntmps34
  go_wp2_with fail
  refine (intValue_agg _ _).mono ?_
  rintro e w1 ⟨rfl, hb1⟩
  obtain ⟨hc1, hf1⟩ := bcell hb1
  have hz1_0 : w.heap.size < w1.heap.size := by have := hb1.size; first | omega | (simp at this; omega)
  go_wp2
  exact bodyPost_ret (v := (.tuple #[.agg #[.int .i64 1, .int .i64 ((t.size : Nat) : Int), .string ⟨#[]⟩], .int .i64 0])) (by simp [results, Tryd.results34, go_sem, hc1]) rfl ⟨rfl, (by repeat (first | exact Below.refl _ _ | refine nx_al ?_ | refine nx_set ?_ (by first | omega | (simp <;> omega)) | refine nx_drew ?_ | refine nx_trans ?_ (by assumption)))⟩

set_option maxHeartbeats 1000000 in
theorem callBuiltin_at_a (nm : ByteArray) (b cap : Nat) (t : ByteArray) (n : Int) (h : n < 0) (w : World) (hn : nm.toList = [97, 116]) (q2 : w.cell? ⟨b, 2, none⟩ = some (.string t)) (q4 : w.cell? ⟨b, 4, none⟩ = some (.int .i64 n)) :
    Calls Tryd.prog 34 #[.string nm, .slice (some ⟨b, 0, none⟩) 2 cap] w fun e w' => e = .returned (.tuple #[.agg #[.int .i64 0, .int .i64 0, .string ⟨#[]⟩], .int .i64 4]) ∧ Below w.heap.size w w' := by
  have p2 : ∀ o, (w.alloc o).cell? ⟨b, 2, none⟩ = some (.string t) := fun o => cell_later (nx_alloc _ _) q2
  have p4 : ∀ o, (w.alloc o).cell? ⟨b, 4, none⟩ = some (.int .i64 n) := fun o => cell_later (nx_alloc _ _) q4
  have hE := ne_pair (World.block_lt_of_cell? _ _ q2)
  go_enter Tryd.func34, Tryd.ntmps34
  go_wp2
  go_region_held3 (fun y => y.cell? ⟨b, 2, none⟩ = some (.string t) ∧ y.cell? ⟨b, 4, none⟩ = some (.int .i64 n)) (go_keep) ((go_at_call 53; refine (byteAt_neg t n h _).mono ?_; rintro e y ⟨rfl, hbx⟩; obtain ⟨hc, hf⟩ := bcell hbx; have hz := hbx.size; (try simp at hz); have hz0 := Nat.lt_of_succ_le hz; have c2 := cell_later (a := ⟨b, 2, none⟩) (v := .string t) hbx (by simp [*]); have c4 := cell_later (a := ⟨b, 4, none⟩) (v := .int .i64 n) hbx (by simp [*])))
  all_goals go_wp2
  all_goals exact bodyPost_ret (v := (.tuple #[.agg #[.int .i64 0, .int .i64 0, .string ⟨#[]⟩], .int .i64 4])) (by simp [results, Tryd.results34, go_sem, *]) rfl ⟨rfl, (by repeat (first | exact Below.refl _ _ | refine nx_al ?_ | refine nx_set ?_ (by first | omega | (simp <;> omega)) | refine nx_drew ?_ | refine nx_trans ?_ (by assumption)))⟩

set_option maxHeartbeats 1000000 in
theorem callBuiltin_at_b (nm : ByteArray) (b cap : Nat) (t : ByteArray) (n : Int) (h0 : 0 ≤ n) (h : (t.size : Int) ≤ n) (w : World) (hn : nm.toList = [97, 116]) (q2 : w.cell? ⟨b, 2, none⟩ = some (.string t)) (q4 : w.cell? ⟨b, 4, none⟩ = some (.int .i64 n)) :
    Calls Tryd.prog 34 #[.string nm, .slice (some ⟨b, 0, none⟩) 2 cap] w fun e w' => e = .returned (.tuple #[.agg #[.int .i64 0, .int .i64 0, .string ⟨#[]⟩], .int .i64 4]) ∧ Below w.heap.size w w' := by
  have p2 : ∀ o, (w.alloc o).cell? ⟨b, 2, none⟩ = some (.string t) := fun o => cell_later (nx_alloc _ _) q2
  have p4 : ∀ o, (w.alloc o).cell? ⟨b, 4, none⟩ = some (.int .i64 n) := fun o => cell_later (nx_alloc _ _) q4
  have hE := ne_pair (World.block_lt_of_cell? _ _ q2)
  go_enter Tryd.func34, Tryd.ntmps34
  go_wp2
  go_region_held3 (fun y => y.cell? ⟨b, 2, none⟩ = some (.string t) ∧ y.cell? ⟨b, 4, none⟩ = some (.int .i64 n)) (go_keep) ((go_at_call 53; refine (byteAt_far t n h0 h _).mono ?_; rintro e y ⟨rfl, hbx⟩; obtain ⟨hc, hf⟩ := bcell hbx; have hz := hbx.size; (try simp at hz); have hz0 := Nat.lt_of_succ_le hz; have c2 := cell_later (a := ⟨b, 2, none⟩) (v := .string t) hbx (by simp [*]); have c4 := cell_later (a := ⟨b, 4, none⟩) (v := .int .i64 n) hbx (by simp [*])))
  all_goals go_wp2
  all_goals exact bodyPost_ret (v := (.tuple #[.agg #[.int .i64 0, .int .i64 0, .string ⟨#[]⟩], .int .i64 4])) (by simp [results, Tryd.results34, go_sem, *]) rfl ⟨rfl, (by repeat (first | exact Below.refl _ _ | refine nx_al ?_ | refine nx_set ?_ (by first | omega | (simp <;> omega)) | refine nx_drew ?_ | refine nx_trans ?_ (by assumption)))⟩

set_option maxHeartbeats 1000000 in
theorem callBuiltin_at_c (nm : ByteArray) (b cap : Nat) (t : ByteArray) (k : Nat) (h : k < t.size) (hs : t.size ≤ 60) (w : World) (hn : nm.toList = [97, 116]) (q2 : w.cell? ⟨b, 2, none⟩ = some (.string t)) (q4 : w.cell? ⟨b, 4, none⟩ = some (.int .i64 (k : Int))) :
    Calls Tryd.prog 34 #[.string nm, .slice (some ⟨b, 0, none⟩) 2 cap] w fun e w' => e = .returned (.tuple #[.agg #[.int .i64 1, .int .i64 ((t[k].toNat : Nat) : Int), .string ⟨#[]⟩], .int .i64 0]) ∧ Below w.heap.size w w' := by
  have p2 : ∀ o, (w.alloc o).cell? ⟨b, 2, none⟩ = some (.string t) := fun o => cell_later (nx_alloc _ _) q2
  have p4 : ∀ o, (w.alloc o).cell? ⟨b, 4, none⟩ = some (.int .i64 (k : Int)) := fun o => cell_later (nx_alloc _ _) q4
  have hE := ne_pair (World.block_lt_of_cell? _ _ q2)
  go_enter Tryd.func34, Tryd.ntmps34
  go_wp2
  go_region_held3 (fun y => y.cell? ⟨b, 2, none⟩ = some (.string t) ∧ y.cell? ⟨b, 4, none⟩ = some (.int .i64 (k : Int))) (go_keep) ((go_at_call 53; refine (byteAt_in t k h hs _).mono ?_; rintro e y ⟨rfl, hbx⟩; obtain ⟨hc, hf⟩ := bcell hbx; have hz := hbx.size; (try simp at hz); have hz0 := Nat.lt_of_succ_le hz; have c2 := cell_later (a := ⟨b, 2, none⟩) (v := .string t) hbx (by simp [*]); have c4 := cell_later (a := ⟨b, 4, none⟩) (v := .int .i64 (k : Int)) hbx (by simp [*])))
  all_goals go_wp2
  all_goals exact bodyPost_ret (v := (.tuple #[.agg #[.int .i64 1, .int .i64 ((t[k].toNat : Nat) : Int), .string ⟨#[]⟩], .int .i64 0])) (by simp [results, Tryd.results34, go_sem, *]) rfl ⟨rfl, (by repeat (first | exact Below.refl _ _ | refine nx_al ?_ | refine nx_set ?_ (by first | omega | (simp <;> omega)) | refine nx_drew ?_ | refine nx_trans ?_ (by assumption)))⟩

set_option maxHeartbeats 1000000 in
theorem callBuiltin_cut_a (nm : ByteArray) (b cap : Nat) (t : ByteArray) (n m : Int) (h : n < 0) (w : World) (hn : nm.toList = [99, 117, 116]) (q2 : w.cell? ⟨b, 2, none⟩ = some (.string t)) (q4 : w.cell? ⟨b, 4, none⟩ = some (.int .i64 n)) (q7 : w.cell? ⟨b, 7, none⟩ = some (.int .i64 m)) :
    Calls Tryd.prog 34 #[.string nm, .slice (some ⟨b, 0, none⟩) 3 cap] w fun e w' => e = .returned (.tuple #[.agg #[.int .i64 0, .int .i64 0, .string ⟨#[]⟩], .int .i64 4]) ∧ Below w.heap.size w w' := by
  have p2 : ∀ o, (w.alloc o).cell? ⟨b, 2, none⟩ = some (.string t) := fun o => cell_later (nx_alloc _ _) q2
  have p4 : ∀ o, (w.alloc o).cell? ⟨b, 4, none⟩ = some (.int .i64 n) := fun o => cell_later (nx_alloc _ _) q4
  have p7 : ∀ o, (w.alloc o).cell? ⟨b, 7, none⟩ = some (.int .i64 m) := fun o => cell_later (nx_alloc _ _) q7
  have hE := ne_pair (World.block_lt_of_cell? _ _ q2)
  go_enter Tryd.func34, Tryd.ntmps34
  go_wp2
  go_region_held3 (fun y => y.cell? ⟨b, 2, none⟩ = some (.string t) ∧ y.cell? ⟨b, 4, none⟩ = some (.int .i64 n) ∧ y.cell? ⟨b, 7, none⟩ = some (.int .i64 m)) (go_keep) ((go_at_call 54; refine (cutText_neg t n m h _).mono ?_; rintro e y ⟨rfl, hbx⟩; obtain ⟨hc, hf⟩ := bcell hbx; have hz := hbx.size; (try simp at hz); have hz0 := Nat.lt_of_succ_le hz; have c2 := cell_later (a := ⟨b, 2, none⟩) (v := .string t) hbx (by simp [*]); have c4 := cell_later (a := ⟨b, 4, none⟩) (v := .int .i64 n) hbx (by simp [*]); have c7 := cell_later (a := ⟨b, 7, none⟩) (v := .int .i64 m) hbx (by simp [*])))
  all_goals go_wp2
  all_goals exact bodyPost_ret (v := (.tuple #[.agg #[.int .i64 0, .int .i64 0, .string ⟨#[]⟩], .int .i64 4])) (by simp [results, Tryd.results34, go_sem, *]) rfl ⟨rfl, (by repeat (first | exact Below.refl _ _ | refine nx_al ?_ | refine nx_set ?_ (by first | omega | (simp <;> omega)) | refine nx_drew ?_ | refine nx_trans ?_ (by assumption)))⟩

set_option maxHeartbeats 1000000 in
theorem callBuiltin_cut_b (nm : ByteArray) (b cap : Nat) (t : ByteArray) (n m : Int) (h0 : 0 ≤ n) (h : m < n) (w : World) (hn : nm.toList = [99, 117, 116]) (q2 : w.cell? ⟨b, 2, none⟩ = some (.string t)) (q4 : w.cell? ⟨b, 4, none⟩ = some (.int .i64 n)) (q7 : w.cell? ⟨b, 7, none⟩ = some (.int .i64 m)) :
    Calls Tryd.prog 34 #[.string nm, .slice (some ⟨b, 0, none⟩) 3 cap] w fun e w' => e = .returned (.tuple #[.agg #[.int .i64 0, .int .i64 0, .string ⟨#[]⟩], .int .i64 4]) ∧ Below w.heap.size w w' := by
  have p2 : ∀ o, (w.alloc o).cell? ⟨b, 2, none⟩ = some (.string t) := fun o => cell_later (nx_alloc _ _) q2
  have p4 : ∀ o, (w.alloc o).cell? ⟨b, 4, none⟩ = some (.int .i64 n) := fun o => cell_later (nx_alloc _ _) q4
  have p7 : ∀ o, (w.alloc o).cell? ⟨b, 7, none⟩ = some (.int .i64 m) := fun o => cell_later (nx_alloc _ _) q7
  have hE := ne_pair (World.block_lt_of_cell? _ _ q2)
  go_enter Tryd.func34, Tryd.ntmps34
  go_wp2
  go_region_held3 (fun y => y.cell? ⟨b, 2, none⟩ = some (.string t) ∧ y.cell? ⟨b, 4, none⟩ = some (.int .i64 n) ∧ y.cell? ⟨b, 7, none⟩ = some (.int .i64 m)) (go_keep) ((go_at_call 54; refine (cutText_back t n m h0 h _).mono ?_; rintro e y ⟨rfl, hbx⟩; obtain ⟨hc, hf⟩ := bcell hbx; have hz := hbx.size; (try simp at hz); have hz0 := Nat.lt_of_succ_le hz; have c2 := cell_later (a := ⟨b, 2, none⟩) (v := .string t) hbx (by simp [*]); have c4 := cell_later (a := ⟨b, 4, none⟩) (v := .int .i64 n) hbx (by simp [*]); have c7 := cell_later (a := ⟨b, 7, none⟩) (v := .int .i64 m) hbx (by simp [*])))
  all_goals go_wp2
  all_goals exact bodyPost_ret (v := (.tuple #[.agg #[.int .i64 0, .int .i64 0, .string ⟨#[]⟩], .int .i64 4])) (by simp [results, Tryd.results34, go_sem, *]) rfl ⟨rfl, (by repeat (first | exact Below.refl _ _ | refine nx_al ?_ | refine nx_set ?_ (by first | omega | (simp <;> omega)) | refine nx_drew ?_ | refine nx_trans ?_ (by assumption)))⟩

set_option maxHeartbeats 1000000 in
theorem callBuiltin_cut_c (nm : ByteArray) (b cap : Nat) (t : ByteArray) (n m : Int) (h0 : 0 ≤ n) (h1 : n ≤ m) (h : (t.size : Int) < m) (w : World) (hn : nm.toList = [99, 117, 116]) (q2 : w.cell? ⟨b, 2, none⟩ = some (.string t)) (q4 : w.cell? ⟨b, 4, none⟩ = some (.int .i64 n)) (q7 : w.cell? ⟨b, 7, none⟩ = some (.int .i64 m)) :
    Calls Tryd.prog 34 #[.string nm, .slice (some ⟨b, 0, none⟩) 3 cap] w fun e w' => e = .returned (.tuple #[.agg #[.int .i64 0, .int .i64 0, .string ⟨#[]⟩], .int .i64 4]) ∧ Below w.heap.size w w' := by
  have p2 : ∀ o, (w.alloc o).cell? ⟨b, 2, none⟩ = some (.string t) := fun o => cell_later (nx_alloc _ _) q2
  have p4 : ∀ o, (w.alloc o).cell? ⟨b, 4, none⟩ = some (.int .i64 n) := fun o => cell_later (nx_alloc _ _) q4
  have p7 : ∀ o, (w.alloc o).cell? ⟨b, 7, none⟩ = some (.int .i64 m) := fun o => cell_later (nx_alloc _ _) q7
  have hE := ne_pair (World.block_lt_of_cell? _ _ q2)
  go_enter Tryd.func34, Tryd.ntmps34
  go_wp2
  go_region_held3 (fun y => y.cell? ⟨b, 2, none⟩ = some (.string t) ∧ y.cell? ⟨b, 4, none⟩ = some (.int .i64 n) ∧ y.cell? ⟨b, 7, none⟩ = some (.int .i64 m)) (go_keep) ((go_at_call 54; refine (cutText_far t n m h0 h1 h _).mono ?_; rintro e y ⟨rfl, hbx⟩; obtain ⟨hc, hf⟩ := bcell hbx; have hz := hbx.size; (try simp at hz); have hz0 := Nat.lt_of_succ_le hz; have c2 := cell_later (a := ⟨b, 2, none⟩) (v := .string t) hbx (by simp [*]); have c4 := cell_later (a := ⟨b, 4, none⟩) (v := .int .i64 n) hbx (by simp [*]); have c7 := cell_later (a := ⟨b, 7, none⟩) (v := .int .i64 m) hbx (by simp [*])))
  all_goals go_wp2
  all_goals exact bodyPost_ret (v := (.tuple #[.agg #[.int .i64 0, .int .i64 0, .string ⟨#[]⟩], .int .i64 4])) (by simp [results, Tryd.results34, go_sem, *]) rfl ⟨rfl, (by repeat (first | exact Below.refl _ _ | refine nx_al ?_ | refine nx_set ?_ (by first | omega | (simp <;> omega)) | refine nx_drew ?_ | refine nx_trans ?_ (by assumption)))⟩

set_option maxHeartbeats 1000000 in
theorem callBuiltin_cut_d (nm : ByteArray) (b cap : Nat) (t : ByteArray) (j k : Nat) (h1 : j ≤ k) (h : k ≤ t.size) (hs : t.size ≤ 60) (w : World) (hn : nm.toList = [99, 117, 116]) (q2 : w.cell? ⟨b, 2, none⟩ = some (.string t)) (q4 : w.cell? ⟨b, 4, none⟩ = some (.int .i64 (j : Int))) (q7 : w.cell? ⟨b, 7, none⟩ = some (.int .i64 (k : Int))) :
    Calls Tryd.prog 34 #[.string nm, .slice (some ⟨b, 0, none⟩) 3 cap] w fun e w' => e = .returned (.tuple #[.agg #[.int .i64 3, .int .i64 0, .string (t.extract j k)], .int .i64 0]) ∧ Below w.heap.size w w' := by
  have p2 : ∀ o, (w.alloc o).cell? ⟨b, 2, none⟩ = some (.string t) := fun o => cell_later (nx_alloc _ _) q2
  have p4 : ∀ o, (w.alloc o).cell? ⟨b, 4, none⟩ = some (.int .i64 (j : Int)) := fun o => cell_later (nx_alloc _ _) q4
  have p7 : ∀ o, (w.alloc o).cell? ⟨b, 7, none⟩ = some (.int .i64 (k : Int)) := fun o => cell_later (nx_alloc _ _) q7
  have hE := ne_pair (World.block_lt_of_cell? _ _ q2)
  go_enter Tryd.func34, Tryd.ntmps34
  go_wp2
  go_region_held3 (fun y => y.cell? ⟨b, 2, none⟩ = some (.string t) ∧ y.cell? ⟨b, 4, none⟩ = some (.int .i64 (j : Int)) ∧ y.cell? ⟨b, 7, none⟩ = some (.int .i64 (k : Int))) (go_keep) ((go_at_call 54; refine (cutText_in t j k h1 h hs _).mono ?_; rintro e y ⟨rfl, hbx⟩; obtain ⟨hc, hf⟩ := bcell hbx; have hz := hbx.size; (try simp at hz); have hz0 := Nat.lt_of_succ_le hz; have c2 := cell_later (a := ⟨b, 2, none⟩) (v := .string t) hbx (by simp [*]); have c4 := cell_later (a := ⟨b, 4, none⟩) (v := .int .i64 (j : Int)) hbx (by simp [*]); have c7 := cell_later (a := ⟨b, 7, none⟩) (v := .int .i64 (k : Int)) hbx (by simp [*])))
  all_goals go_wp2
  all_goals exact bodyPost_ret (v := (.tuple #[.agg #[.int .i64 3, .int .i64 0, .string (t.extract j k)], .int .i64 0])) (by simp [results, Tryd.results34, go_sem, *]) rfl ⟨rfl, (by repeat (first | exact Below.refl _ _ | refine nx_al ?_ | refine nx_set ?_ (by first | omega | (simp <;> omega)) | refine nx_drew ?_ | refine nx_trans ?_ (by assumption)))⟩

end Go.Proofs.YtpncohkbdaoceaaDoor
