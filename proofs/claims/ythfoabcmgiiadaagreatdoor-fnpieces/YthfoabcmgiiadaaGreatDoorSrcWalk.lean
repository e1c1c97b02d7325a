/- The source of choices: what 'l00Src.byte' answers and writes. -/
import Derived.Test.YthfoabcmgiiadaaGreatDoorLetters
import Derived.Test.YthfoabcmgiiadaaGreatDoorUnary2
import Derived.Deep.QuietTactic
import Derived.BigQuiet
import Derived.RegionTactic
import Derived.ChangeAlike
namespace Go.Proofs.YthfoabcmgiiadaaGreatDoor
open Go.RowKit
set_option linter.unusedVariables false

/-- the bytes of a slice lie in cells -/
def ByteRow (w : World) (a : Option Addr) (len : Nat) : Prop := ∀ i, i < len → ∃ (b off : Nat) (c : Int), a = some ⟨b, off, none⟩ ∧ w.cell? ⟨b, off + i, none⟩ = some (.int .u8 c) ∧ 0 ≤ c ∧ c ≤ 255
theorem ByteRow.later {w w' : World} {a : Option Addr} {len : Nat} (h : ByteRow w a len) (hb : Below w.heap.size w w') : ByteRow w' a len := fun i hi => by
  obtain ⟨b, off, c, h1, h2, h3⟩ := h i hi
  exact ⟨b, off, c, h1, cell_later hb h2, h3⟩
/-- a source of choices in block g: its bytes, how many were taken, its seed -/
structure SrcAt (w : World) (g : Nat) (a : Option Addr) (len cap : Nat) (at' seed : Int) : Prop where
  c0 : w.cell? ⟨g, 0, none⟩ = some (.slice a len cap)
  c1 : w.cell? ⟨g, 1, none⟩ = some (.int .i64 at')
  c2 : w.cell? ⟨g, 2, none⟩ = some (.int .i64 seed)
  z1 : w.frozen? ⟨g, 1, none⟩ = false
  z2 : w.frozen? ⟨g, 2, none⟩ = false
  s0 : 0 ≤ seed
  s1 : seed < 2147483648
  a0 : 0 ≤ at'
  a1 : at' ≤ 1000000000

/-- all but block g is as it was -/
structure OnlyAt (g : Nat) (w w' : World) : Prop where
  os : w'.os = w.os
  tape : w'.tape = w.tape
  output : w'.output = w.output
  size : w'.heap.size = w.heap.size
  block : ∀ k, k ≠ g → w'.heap[k]? = w.heap[k]?
theorem OnlyAt.refl (g : Nat) (w : World) : OnlyAt g w w := ⟨rfl, rfl, rfl, rfl, fun _ _ => rfl⟩
theorem OnlyAt.drew {g : Nat} {w w' : World} (h : OnlyAt g w w') : OnlyAt g w w'.drew := ⟨h.os, h.tape, h.output, h.size, h.block⟩
theorem OnlyAt.set {g o : Nat} {w w' : World} {v : Value} (h : OnlyAt g w w') : OnlyAt g w (w'.setCell ⟨g, o, none⟩ v) :=
  ⟨h.os, h.tape, h.output, by simp [h.size], fun k hk => (Below.heap_setCell w' ⟨g, o, none⟩ v k hk).trans (h.block k hk)⟩
theorem OnlyAt.trans {g : Nat} {a b c : World} (h : OnlyAt g a b) (k : OnlyAt g b c) : OnlyAt g a c :=
  ⟨k.os.trans h.os, k.tape.trans h.tape, k.output.trans h.output, k.size.trans h.size, fun i hi => (k.block i hi).trans (h.block i hi)⟩

theorem src_one {w : World} {g : Nat} {a : Option Addr} {len cap : Nat} {n seed : Int} (h : SrcAt w g a len cap n seed) (hn : n + 1 ≤ 1000000000) : SrcAt (w.setCell ⟨g, 1, none⟩ (.int .i64 (n + 1))) g a len cap (n + 1) seed where
  c0 := by rw [World.cell?_setCell_other _ _ _ _ (by simp)]; exact h.c0
  c1 := World.cell?_setCell_same' _ _ _ (by rw [h.c1]; rfl)
  c2 := by rw [World.cell?_setCell_other _ _ _ _ (by simp)]; exact h.c2
  z1 := by simpa using h.z1
  z2 := by simpa using h.z2
  s0 := h.s0
  s1 := h.s1
  a0 := by have := h.a0; omega
  a1 := hn
theorem src_two {w : World} {g : Nat} {a : Option Addr} {len cap : Nat} {n seed s' : Int} (h : SrcAt w g a len cap n seed) (h0 : 0 ≤ s') (h1 : s' < 2147483648) : SrcAt (w.setCell ⟨g, 2, none⟩ (.int .i64 s')) g a len cap n s' where
  c0 := by rw [World.cell?_setCell_other _ _ _ _ (by simp)]; exact h.c0
  c1 := by rw [World.cell?_setCell_other _ _ _ _ (by simp)]; exact h.c1
  c2 := World.cell?_setCell_same' _ _ _ (by rw [h.c2]; rfl)
  z1 := by simpa using h.z1
  z2 := by simpa using h.z2
  s0 := h0
  s1 := h1
  a0 := h.a0
  a1 := h.a1
theorem src_drew {w : World} {g : Nat} {a : Option Addr} {len cap : Nat} {n seed : Int} (h : SrcAt w g a len cap n seed) : SrcAt w.drew g a len cap n seed := ⟨h.c0, h.c1, h.c2, h.z1, h.z2, h.s0, h.s1, h.a0, h.a1⟩

/-- what a byte's drawing leaves -/
def Drawn (g : Nat) (a : Option Addr) (len cap : Nat) (n : Int) (w : World) (top : Int) (e : Ending) (w' : World) : Prop :=
  ∃ r s', e = .returned (.int .i64 r) ∧ 0 ≤ r ∧ r < top ∧ SrcAt w' g a len cap (n + 1) s' ∧ OnlyAt g w w'

set_option maxHeartbeats 1000000 in
theorem byte_zero (g : Nat) (a : Option Addr) (len cap : Nat) (n seed : Int) (w : World) (h : SrcAt w g a len cap n seed) (hl : (len : Int) < n + 1) (h3 : 3000 < n + 1) (hn : n + 1 ≤ 1000000000) :
    Calls Tryz.prog 73 #[.pointer (some ⟨g, 0, none⟩)] w fun e w' => Drawn g a len cap n w 256 e w' := by
  have H := hide h
  obtain ⟨c0, c1, c2, z1, z2, s0, s1, a0, a1⟩ := h
  go_enter Tryz.func73, Tryz.ntmps73
  go_wp2
  go_region
  all_goals go_wp2
  all_goals
    go_ret
    exact ⟨0, seed, rfl, by omega, by omega, src_drew (src_one (unhide H) hn), (OnlyAt.refl _ _).set.drew⟩

set_option maxHeartbeats 1000000 in
theorem byte_seed (g : Nat) (a : Option Addr) (len cap : Nat) (n seed : Int) (w : World) (h : SrcAt w g a len cap n seed) (hl : (len : Int) < n + 1) (h3 : n + 1 ≤ 3000) :
    Calls Tryz.prog 73 #[.pointer (some ⟨g, 0, none⟩)] w fun e w' => Drawn g a len cap n w 256 e w' := by
  have H := hide h
  obtain ⟨c0, c1, c2, z1, z2, s0, s1, a0, a1⟩ := h
  go_enter Tryz.func73, Tryz.ntmps73
  go_wp2
  go_region
  all_goals go_wp2
  all_goals
    go_ret
    exact ⟨_, _, rfl, Int.emod_nonneg _ (by omega), Int.emod_lt_of_pos _ (by omega), src_drew (src_two (src_one (unhide H) (by omega)) (Int.emod_nonneg _ (by omega)) (Int.emod_lt_of_pos _ (by omega))), (OnlyAt.refl _ _).set.set.drew⟩

set_option maxHeartbeats 2000000 in
theorem byte_code (g b off len cap : Nat) (n seed c : Int) (w : World) (h : SrcAt w g (some ⟨b, off, none⟩) len cap n seed) (hl : n + 1 ≤ (len : Int)) (hlen : (len : Int) ≤ 1048577) (hb : ¬ b = g) (hb' : ¬ g = b)
    (hc : w.cell? ⟨b, off + n.toNat, none⟩ = some (.int .u8 c)) (c0' : 0 ≤ c) (c1' : c ≤ 255) :
    Calls Tryz.prog 73 #[.pointer (some ⟨g, 0, none⟩)] w fun e w' => Drawn g (some ⟨b, off, none⟩) len cap n w 256 e w' := by
  have H := hide h
  obtain ⟨c0, c1, c2, z1, z2, s0, s1, a0, a1⟩ := h
  have hlt : n < (len : Int) := by omega
  have hw1 : IntKind.i64.wrap (n + 1 - 1) = n := by rw [IntKind.wrap_i64]; omega
  have hw2 : IntKind.i64.wrap n = n := by rw [IntKind.wrap_i64]; omega
  have hw3 : IntKind.i64.wrap (seed * 31) = seed * 31 := by rw [IntKind.wrap_i64]; omega
  have hw4 : IntKind.i64.wrap (seed * 31 + c) = seed * 31 + c := by rw [IntKind.wrap_i64]; omega
  have hw5 : IntKind.i64.wrap (seed * 31 + c + 7) = seed * 31 + c + 7 := by rw [IntKind.wrap_i64]; omega
  have hw6 : IntKind.i64.wrap c = c := by rw [IntKind.wrap_i64]; omega
  go_enter Tryz.func73, Tryz.ntmps73
  go_wp2
  go_region
  all_goals go_wp2
  go_region
  all_goals go_wp2
  go_region
  all_goals go_wp2
  all_goals
    go_ret
    exact ⟨c, _, rfl, c0', by omega, src_drew (src_drew (src_drew (src_two (src_one (unhide H) (by omega)) (Int.emod_nonneg _ (by omega)) (Int.emod_lt_of_pos _ (by omega))))), (OnlyAt.refl _ _).set.set.drew.drew.drew⟩

theorem byte_any (g : Nat) (a : Option Addr) (len cap : Nat) (n seed : Int) (w : World) (h : SrcAt w g a len cap n seed) (hn : n + 1 ≤ 1000000000) (hlen : len ≤ 1048577) (hrow : ByteRow w a len) (hg : 0 < len → ∀ x, a = some x → ¬ x.block = g) :
    Calls Tryz.prog 73 #[.pointer (some ⟨g, 0, none⟩)] w fun e w' => Drawn g a len cap n w 256 e w' := by
  by_cases hl : (len : Int) < n + 1
  · by_cases h3 : n + 1 ≤ 3000
    · exact byte_seed g a len cap n seed w h hl h3
    · exact byte_zero g a len cap n seed w h hl (by omega) hn
  have h0 := h.a0
  obtain ⟨b, off, c, rfl, hc, hc0, hc1⟩ := hrow n.toNat (by omega)
  have hb := hg (by omega) _ rfl
  exact byte_code g b off len cap n seed c w h (by omega) (by omega) hb (fun e => hb e.symm) hc hc0 hc1

theorem only_cell {g : Nat} {w w' : World} (h : OnlyAt g w w') {b o : Nat} (hb : b ≠ g) : w'.cell? ⟨b, o, none⟩ = w.cell? ⟨b, o, none⟩ := World.cell?_of_block (w := w) (h.block b hb)
theorem only_frozen {g : Nat} {w w' : World} (h : OnlyAt g w w') {b o : Nat} (hb : b ≠ g) : w'.frozen? ⟨b, o, none⟩ = w.frozen? ⟨b, o, none⟩ := World.frozen?_of_block (w := w) (h.block b hb)
theorem only_below {g B : Nat} {w w' : World} (h : OnlyAt g w w') (hB : B ≤ g) : Below B w w' := ⟨h.os, h.tape, h.output, by rw [h.size]; exact Nat.le_refl _, fun k hk => h.block k (by omega)⟩

set_option maxHeartbeats 1000000 in
theorem next_any (g : Nat) (a : Option Addr) (len cap : Nat) (n seed m : Int) (w : World) (h : SrcAt w g a len cap n seed) (hn : n + 1 ≤ 1000000000) (hlen : len ≤ 1048577) (hrow : ByteRow w a len) (hg : 0 < len → ∀ x, a = some x → ¬ x.block = g) (hm1 : 1 < m) (hm2 : m ≤ 256) :
    Calls Tryz.prog 59 #[.pointer (some ⟨g, 0, none⟩), .int .i64 m] w fun e w' => Drawn g a len cap n w m e w' := by
  have HB := hide (byte_any g a len cap n seed w h hn hlen hrow hg)
  clear h hrow hg
  go_enter Tryz.func59, Tryz.ntmps59
  go_wp2_with fail
  refine (unhide HB).mono ?_
  rintro e w1 ⟨r, s', rfl, ra, rb, hs, ho⟩
  have HS := hide hs
  have HO := hide ho
  clear hs ho HB
  go_wp2
  go_ret
  exact ⟨_, s', rfl, Int.emod_nonneg _ (by omega), Int.emod_lt_of_pos _ (by omega), unhide HS, unhide HO⟩

set_option maxHeartbeats 1000000 in
theorem chance_any (g : Nat) (a : Option Addr) (len cap : Nat) (n seed m : Int) (w : World) (h : SrcAt w g a len cap n seed) (hn : n + 1 ≤ 1000000000) (hlen : len ≤ 1048577) (hrow : ByteRow w a len) (hg : 0 < len → ∀ x, a = some x → ¬ x.block = g) (hm1 : 1 < m) (hm2 : m ≤ 256) :
    Calls Tryz.prog 68 #[.pointer (some ⟨g, 0, none⟩), .int .i64 m] w fun e w' => ∃ (b : Bool) (s' : Int), e = .returned (.bool b) ∧ SrcAt w' g a len cap (n + 1) s' ∧ OnlyAt g w w' := by
  have HB := hide (next_any g a len cap n seed m w h hn hlen hrow hg hm1 hm2)
  clear h hrow hg
  go_enter Tryz.func68, Tryz.ntmps68
  go_wp2_with fail
  refine (unhide HB).mono ?_
  rintro e w1 ⟨r, s', rfl, ra, rb, hs, ho⟩
  have HS := hide hs
  have HO := hide ho
  clear hs ho HB
  go_wp2
  all_goals
    go_ret
    exact ⟨_, s', rfl, unhide HS, unhide HO⟩

set_option maxHeartbeats 1000000 in
theorem pick_any (g : Nat) (a : Option Addr) (len cap : Nat) (n seed : Int) (q L qc : Nat) (ts : Nat → ByteArray) (w : World) (h : SrcAt w g a len cap n seed) (hn : n + 1 ≤ 1000000000) (hlen : len ≤ 1048577) (hrow : ByteRow w a len) (hg : 0 < len → ∀ x, a = some x → ¬ x.block = g) (hq : q ≠ g) (hL1 : 1 < L) (hL2 : L ≤ 256)
    (hts : ∀ j, j < L → w.cell? ⟨q, j, none⟩ = some (.string (ts j))) :
    Calls Tryz.prog 61 #[.pointer (some ⟨g, 0, none⟩), .slice (some ⟨q, 0, none⟩) L qc] w fun e w' => ∃ (j : Nat) (s' : Int), j < L ∧ e = .returned (.string (ts j)) ∧ SrcAt w' g a len cap (n + 1) s' ∧ OnlyAt g w w' := by
  have HB := hide (next_any g a len cap n seed (L : Int) w h hn hlen hrow hg (by omega) (by omega))
  have HT := hide hts
  have e0 : ((L : Int) == 0) = false := beq_eq_false_iff_ne.2 (by omega)
  clear h hrow hg hts
  go_enter Tryz.func61, Tryz.ntmps61
  go_wp2_with fail
  refine (unhide HB).mono ?_
  rintro e w1 ⟨r, s', rfl, ra, rb, hs, ho⟩
  obtain ⟨j, rfl⟩ := Int.eq_ofNat_of_zero_le ra
  have hj : j < L := by omega
  have hc : w1.cell? ⟨q, j, none⟩ = some (.string (ts j)) := (only_cell ho hq).trans (unhide HT j hj)
  have HS := hide hs
  have HO := hide ho
  clear hs ho HB HT
  go_wp2
  go_ret
  exact ⟨j, s', hj, rfl, unhide HS, unhide HO⟩

end Go.Proofs.YthfoabcmgiiadaaGreatDoor
