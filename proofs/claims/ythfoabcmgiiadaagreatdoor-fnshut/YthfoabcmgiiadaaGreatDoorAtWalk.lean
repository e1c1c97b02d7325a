/- The choices that the laws draw out of bytes: 'laws.at' answers a number from 0 to below n. -/
import Derived.Test.YthfoabcmgiiadaaGreatDoorCFrame
import Derived.Test.YthfoabcmgiiadaaGreatDoorLetters
import Derived.Deep.QuietTactic
import Derived.BigQuiet
namespace Go.Proofs.YthfoabcmgiiadaaGreatDoor
open Go.RowKit
set_option linter.unusedVariables false

theorem ret_ex {r : Int} : Ending.returned (.int .i64 r) = .returned (.int .i64 r) := rfl

set_option maxHeartbeats 1000000 in
theorem at_core (b off len cap j1 j2 : Nat) (i n c d : Int) (w : World) (hl : 1 ≤ len) (hl2 : len ≤ 1048576) (hi0 : 0 ≤ i) (hi1 : i ≤ 1) (h1 : 1 < n) (hn : n ≤ 60000)
    (hj1 : i % (len : Int) = (j1 : Int)) (hj2 : (i + 1) % (len : Int) = (j2 : Int)) (hb1 : j1 < len) (hb2 : j2 < len) (hq0 : 0 ≤ i / (len : Int)) (hq1 : i / (len : Int) ≤ 1)
    (hc : w.cell? ⟨b, off + j1, none⟩ = some (.int .u8 c)) (hd : w.cell? ⟨b, off + j2, none⟩ = some (.int .u8 d)) (hc0 : 0 ≤ c) (hc1 : c ≤ 255) (hd0 : 0 ≤ d) (hd1 : d ≤ 255) :
    Calls Tryz.prog 13 #[.slice (some ⟨b, off, none⟩) len cap, .int .i64 i, .int .i64 n] w fun e w' => ∃ r, e = .returned (.int .i64 r) ∧ 0 ≤ r ∧ r < n ∧ Below w.heap.size w w' := by
  have hne : ((len : Int) == 0) = false := beq_eq_false_iff_ne.2 (by omega)
  have hne' : ¬ len = 0 := by omega
  have hb1' : (j1 : Int) < (len : Int) := by omega
  have hb2' : (j2 : Int) < (len : Int) := by omega
  have hnn : decide (n ≤ 1) = false := by simp; omega
  go_enter Tryz.func13, Tryz.ntmps13
  go_wp2
  go_region
  all_goals go_wp2
  all_goals
    go_ret
    refine ⟨_, rfl, Int.emod_nonneg _ (by omega), Int.emod_lt_of_pos _ (by omega), (Below.refl _ _).drew⟩

set_option maxHeartbeats 400000 in
theorem at_empty (a : Option Addr) (cap : Nat) (i n : Int) (w : World) (hi0 : 0 ≤ i) (hi1 : i ≤ 1) (h1 : 1 < n) (hn : n ≤ 60000) :
    Calls Tryz.prog 13 #[.slice a 0 cap, .int .i64 i, .int .i64 n] w fun e w' => ∃ r, e = .returned (.int .i64 r) ∧ 0 ≤ r ∧ r < n ∧ Below w.heap.size w w' := by
  go_enter Tryz.func13, Tryz.ntmps13
  go_wp2
  go_ret
  exact ⟨_, rfl, Int.emod_nonneg _ (by omega), Int.emod_lt_of_pos _ (by omega), Below.refl _ _⟩

theorem wf_u8 {n : Int} (h : (Lit.int .u8 n).wf = true) : 0 ≤ n ∧ n ≤ 255 := bounds_u8 h

theorem at_any (a : Option Addr) (len cap : Nat) (zs : List Int) (i n : Int) (w : World) (hrow : IsRow .u8 w a len cap zs) (hlen : len ≤ 1048576) (hi : i = 0 ∨ i = 1) (h1 : 1 < n) (hn : n ≤ 60000) :
    Calls Tryz.prog 13 #[.slice a len cap, .int .i64 i, .int .i64 n] w fun e w' => ∃ r, e = .returned (.int .i64 r) ∧ 0 ≤ r ∧ r < n ∧ Below w.heap.size w w' := by
  rcases hrow with ⟨rfl, rfl, rfl, rfl⟩ | ⟨x, rfl, hl, hm, hz, hcell, hwz⟩
  · exact at_empty none 0 i n w (by omega) (by omega) h1 hn
  by_cases h0 : len = 0
  · subst h0; exact at_empty (some x) cap i n w (by omega) (by omega) h1 hn
  have hc0 := hcell 0 (by omega)
  obtain ⟨b, off, spot⟩ := x
  have hspot : spot = none := by simpa [Addr.add] using World.cell?_spot hc0
  subst hspot
  have hat : ∀ j, j < len → w.cell? ⟨b, off + j, none⟩ = some (.int .u8 (zs.getD j 0)) ∧ 0 ≤ zs.getD j 0 ∧ zs.getD j 0 ≤ 255 := fun j hj => by
    have hjz : j < zs.length := by omega
    refine ⟨by
      have h9 := hcell j hjz
      by_cases hj0 : j = 0
      · subst hj0; simpa [Addr.add] using h9
      · simpa [Addr.add, hj0] using h9, ?_⟩
    have hw := hwz (zs.getD j 0) (by rw [List.getD_eq_getElem?_getD, List.getElem?_eq_getElem hjz]; simp)
    exact wf_u8 hw
  have hj : ∀ m : Int, 0 ≤ m → ∃ j : Nat, m % (len : Int) = (j : Int) ∧ j < len := fun m hm0 => by
    have e1 := Int.emod_nonneg m (show (len : Int) ≠ 0 by omega)
    have e2 := Int.emod_lt_of_pos m (show (0 : Int) < (len : Int) by omega)
    exact ⟨(m % (len : Int)).toNat, by omega, by omega⟩
  obtain ⟨j1, e1, l1⟩ := hj i (by omega)
  obtain ⟨j2, e2, l2⟩ := hj (i + 1) (by omega)
  obtain ⟨c1, c1a, c1b⟩ := hat j1 l1
  obtain ⟨c2, c2a, c2b⟩ := hat j2 l2
  have q0 : 0 ≤ i / (len : Int) := Int.ediv_nonneg (by omega) (by omega)
  have q1 : i / (len : Int) ≤ 1 := Int.le_trans (Int.ediv_le_self _ (by omega)) (by omega)
  exact at_core b off len cap j1 j2 i n _ _ w (by omega) hlen (by omega) (by omega) h1 hn e1 e2 l1 l2 q0 q1 c1 c2 c1a c1b c2a c2b

theorem IsRow.later {k : IntKind} {w w' : World} {a : Option Addr} {len cap : Nat} {zs : List Int} (h : IsRow k w a len cap zs) (hb : Below w.heap.size w w') : IsRow k w' a len cap zs := by
  rcases h with h | ⟨x, rfl, hl, hm, hz, hcell, hwz⟩
  · exact .inl h
  · exact .inr ⟨x, rfl, hl, hm, hz, fun i hi => (hb.cell (World.block_lt_of_cell? _ _ (hcell i hi))).trans (hcell i hi), hwz⟩
theorem IsRow.len {k : IntKind} {w : World} {a : Option Addr} {len cap : Nat} {zs : List Int} (h : IsRow k w a len cap zs) : len ≤ 9223372036854775807 := by
  rcases h with ⟨_, rfl, _, _⟩ | ⟨x, _, hl, hm, _⟩
  · omega
  · unfold maxLen at hm; omega

end Go.Proofs.YthfoabcmgiiadaaGreatDoor
