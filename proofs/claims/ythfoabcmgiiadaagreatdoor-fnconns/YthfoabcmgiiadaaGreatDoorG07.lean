/- A bundle. -/
import Derived.Test.YthfoabcmgiiadaaGreatDoorCFrame
import Derived.Test.YthfoabcmgiiadaaGreatDoorLetters
import Derived.Deep.QuietTactic
import Derived.BigQuiet
import Derived.Laws.StructEq
import Derived.Deep.RegionWith
import Derived.Deep.RegionHeld3
import Derived.RegionTactic
import Derived.ChangeAlike
import Derived.Lib.SmallJoins
import Derived.Test.YthfoabcmgiiadaaGreatDoorWireX2
import Derived.Test.YthfoabcmgiiadaaGreatDoorWireX3
import Derived.Test.YthfoabcmgiiadaaGreatDoorWireP
import Derived.Test.YthfoabcmgiiadaaGreatDoorPieceP
import Derived.WalkSmall
import Derived.OrdersHeld
import Derived.StillTail

/- AtWalk -/
namespace Go.Proofs.YthfoabcmgiiadaaGreatDoor
open Go.RowKit
set_option linter.unusedVariables false

theorem ret_ex {r : Int} : Ending.returned (.int .i64 r) = .returned (.int .i64 r) := rfl

set_option maxHeartbeats 1000000 in
theorem at_core (b off len cap j1 j2 : Nat) (i n c d : Int) (w : World) (hl : 1 ≤ len) (hl2 : len ≤ 1048576) (hi0 : 0 ≤ i) (hi1 : i ≤ 1) (h1 : 1 < n) (hn : n ≤ 60000)
    (hj1 : i % (len : Int) = (j1 : Int)) (hj2 : (i + 1) % (len : Int) = (j2 : Int)) (hb1 : j1 < len) (hb2 : j2 < len) (hq0 : 0 ≤ i / (len : Int)) (hq1 : i / (len : Int) ≤ 1)
    (hc : w.cell? ⟨b, off + j1, none⟩ = some (.int .u8 c)) (hd : w.cell? ⟨b, off + j2, none⟩ = some (.int .u8 d)) (hc0 : 0 ≤ c) (hc1 : c ≤ 255) (hd0 : 0 ≤ d) (hd1 : d ≤ 255) :
    Calls Tryz.prog 13 #[.slice (some ⟨b, off, none⟩) len cap, .int .i64 i, .int .i64 n] w fun e w' => ∃ r, e = .returned (.int .i64 r) ∧ 0 ≤ r ∧ r < n ∧ Below w.heap.size w w' := by
  have hne : ((len : Int) == 0) = false := beq_eq_false_iff_ne.2 (by omega)
  have hne' : ¬ len = 0 := by omega
  have hb1' : (j1 : Int) < (len : Int) := by omega
  have hb2' : (j2 : Int) < (len : Int) := by omega
  have hnn : decide (n ≤ 1) = false := by simp; omega
  go_enter Tryz.func13, Tryz.ntmps13
  go_wp2
  go_region
  all_goals go_wp2
  all_goals
    go_ret
    refine ⟨_, rfl, Int.emod_nonneg _ (by omega), Int.emod_lt_of_pos _ (by omega), (Below.refl _ _).drew⟩

set_option maxHeartbeats 400000 in
theorem at_empty (a : Option Addr) (cap : Nat) (i n : Int) (w : World) (hi0 : 0 ≤ i) (hi1 : i ≤ 1) (h1 : 1 < n) (hn : n ≤ 60000) :
    Calls Tryz.prog 13 #[.slice a 0 cap, .int .i64 i, .int .i64 n] w fun e w' => ∃ r, e = .returned (.int .i64 r) ∧ 0 ≤ r ∧ r < n ∧ Below w.heap.size w w' := by
  go_enter Tryz.func13, Tryz.ntmps13
  go_wp2
  go_ret
  exact ⟨_, rfl, Int.emod_nonneg _ (by omega), Int.emod_lt_of_pos _ (by omega), Below.refl _ _⟩

theorem wf_u8 {n : Int} (h : (Lit.int .u8 n).wf = true) : 0 ≤ n ∧ n ≤ 255 := bounds_u8 h

theorem at_any (a : Option Addr) (len cap : Nat) (zs : List Int) (i n : Int) (w : World) (hrow : IsRow .u8 w a len cap zs) (hlen : len ≤ 1048576) (hi : i = 0 ∨ i = 1) (h1 : 1 < n) (hn : n ≤ 60000) :
    Calls Tryz.prog 13 #[.slice a len cap, .int .i64 i, .int .i64 n] w fun e w' => ∃ r, e = .returned (.int .i64 r) ∧ 0 ≤ r ∧ r < n ∧ Below w.heap.size w w' := by
  rcases hrow with ⟨rfl, rfl, rfl, rfl⟩ | ⟨x, rfl, hl, hm, hz, hcell, hwz⟩
  · exact at_empty none 0 i n w (by omega) (by omega) h1 hn
  by_cases h0 : len = 0
  · subst h0; exact at_empty (some x) cap i n w (by omega) (by omega) h1 hn
  have hc0 := hcell 0 (by omega)
  obtain ⟨b, off, spot⟩ := x
  have hspot : spot = none := by simpa [Addr.add] using World.cell?_spot hc0
  subst hspot
  have hat : ∀ j, j < len → w.cell? ⟨b, off + j, none⟩ = some (.int .u8 (zs.getD j 0)) ∧ 0 ≤ zs.getD j 0 ∧ zs.getD j 0 ≤ 255 := fun j hj => by
    have hjz : j < zs.length := by omega
    refine ⟨by
      have h9 := hcell j hjz
      by_cases hj0 : j = 0
      · subst hj0; simpa [Addr.add] using h9
      · simpa [Addr.add, hj0] using h9, ?_⟩
    have hw := hwz (zs.getD j 0) (by rw [List.getD_eq_getElem?_getD, List.getElem?_eq_getElem hjz]; simp)
    exact wf_u8 hw
  have hj : ∀ m : Int, 0 ≤ m → ∃ j : Nat, m % (len : Int) = (j : Int) ∧ j < len := fun m hm0 => by
    have e1 := Int.emod_nonneg m (show (len : Int) ≠ 0 by omega)
    have e2 := Int.emod_lt_of_pos m (show (0 : Int) < (len : Int) by omega)
    exact ⟨(m % (len : Int)).toNat, by omega, by omega⟩
  obtain ⟨j1, e1, l1⟩ := hj i (by omega)
  obtain ⟨j2, e2, l2⟩ := hj (i + 1) (by omega)
  obtain ⟨c1, c1a, c1b⟩ := hat j1 l1
  obtain ⟨c2, c2a, c2b⟩ := hat j2 l2
  have q0 : 0 ≤ i / (len : Int) := Int.ediv_nonneg (by omega) (by omega)
  have q1 : i / (len : Int) ≤ 1 := Int.le_trans (Int.ediv_le_self _ (by omega)) (by omega)
  exact at_core b off len cap j1 j2 i n _ _ w (by omega) hlen (by omega) (by omega) h1 hn e1 e2 l1 l2 q0 q1 c1 c2 c1a c1b c2a c2b

theorem IsRow.later {k : IntKind} {w w' : World} {a : Option Addr} {len cap : Nat} {zs : List Int} (h : IsRow k w a len cap zs) (hb : Below w.heap.size w w') : IsRow k w' a len cap zs := by
  rcases h with h | ⟨x, rfl, hl, hm, hz, hcell, hwz⟩
  · exact .inl h
  · exact .inr ⟨x, rfl, hl, hm, hz, fun i hi => (hb.cell (World.block_lt_of_cell? _ _ (hcell i hi))).trans (hcell i hi), hwz⟩
theorem IsRow.len {k : IntKind} {w : World} {a : Option Addr} {len cap : Nat} {zs : List Int} (h : IsRow k w a len cap zs) : len ≤ 9223372036854775807 := by
  rcases h with ⟨_, rfl, _, _⟩ | ⟨x, _, hl, hm, _⟩
  · omega
  · unfold maxLen at hm; omega

end Go.Proofs.YthfoabcmgiiadaaGreatDoor

/- ValueWalk -/
namespace Go.Proofs.YthfoabcmgiiadaaGreatDoor
open Go.RowKit

/-- behind a call that turned nothing old: old cells and old marks read as before -/
theorem bcell {W w1 : World} (hb : Below W.heap.size W w1) : (∀ b o, b < W.heap.size → w1.cell? ⟨b, o, none⟩ = W.cell? ⟨b, o, none⟩) ∧ (∀ b o, b < W.heap.size → w1.frozen? ⟨b, o, none⟩ = W.frozen? ⟨b, o, none⟩) :=
  ⟨fun b o h => hb.cell (p := ⟨b, o, none⟩) h, fun b o h => hb.frozen (p := ⟨b, o, none⟩) h⟩

theorem nx_trans {a b c : World} (h : Below a.heap.size a b) (k : Below b.heap.size b c) : Below a.heap.size a c := h.trans (k.mono h.size)
theorem nx_alloc (w : World) (o : Obj) : Below w.heap.size w (w.alloc o) := (Below.refl _ _).alloc (Nat.le_refl _) _
theorem nx_drew {a b : World} (h : Below a.heap.size a b) : Below a.heap.size a b.drew := h.drew

/-- a right value -/
def vokB (k n : Int) (t : ByteArray) : Bool :=
  if k = 0 then decide (n = 0) && t.toList.isEmpty
  else if k = 1 then (decide (-2147483648 ≤ n) && decide (n ≤ 2147483647)) && t.toList.isEmpty
  else if k = 2 then (decide (0 ≤ n) && decide (n ≤ 1)) && t.toList.isEmpty
  else if k = 3 then decide (n = 0) && decide (t.size ≤ 60)
  else false

theorem l01In_any (n low high : Int) (w : World) :
    Calls Tryz.prog 63 #[.int .i64 n, .int .i64 low, .int .i64 high] w fun e w' => e = .returned (.bool (decide (low ≤ n) && decide (n ≤ high))) ∧ w' = w := by
  go_enter Tryz.func63, Tryz.ntmps63
  go_wp2
  all_goals
    go_ret
    refine ⟨ret_bool ?_, rfl⟩
    rw [Bool.eq_iff_iff]
    simp <;> omega


/-- the three makers of values -/
def intV (n : Int) : Value := .agg #[.int .i64 1, .int .i64 n, .string ⟨#[]⟩]
def boolV (b : Bool) : Value := .agg #[.int .i64 2, .int .i64 (if b = true then 1 else 0), .string ⟨#[]⟩]
def textV (t : ByteArray) : Value := .agg #[.int .i64 3, .int .i64 0, .string t]



















end Go.Proofs.YthfoabcmgiiadaaGreatDoor

/- ValueLaws -/
namespace Go.Proofs.YthfoabcmgiiadaaGreatDoor
open Go.RowKit

/-- a value as the machine holds it -/
abbrev valV (k n : Int) (t : ByteArray) : Value := .agg #[.int .i64 k, .int .i64 n, .string t]






end Go.Proofs.YthfoabcmgiiadaaGreatDoor

/- UnaryWalk -/
namespace Go.Proofs.YthfoabcmgiiadaaGreatDoor
open Go.RowKit

theorem nx_al {a b : World} {o : Obj} (h : Below a.heap.size a b) : Below a.heap.size a (b.alloc o) := h.alloc h.size o
theorem nx_set {a b : World} {k o : Nat} {v : Value} (h : Below a.heap.size a b) (hk : a.heap.size ≤ k) : Below a.heap.size a (b.setCell ⟨k, o, none⟩ v) := h.setCell hk v

/-- an answer: a value's three fields and a code -/
structure Res where
  k : Int
  n : Int
  t : ByteArray
  c : Int

def zeroR (c : Int) : Res := ⟨0, 0, ⟨#[]⟩, c⟩
def intR (n : Int) : Res := ⟨1, n, ⟨#[]⟩, 0⟩
/-- a bool as a number -/
def bitI (b : Bool) : Int := if b = true then 1 else 0
def boolR (b : Bool) : Res := ⟨2, bitI b, ⟨#[]⟩, 0⟩
def textR (t : ByteArray) : Res := ⟨3, 0, t, 0⟩
def fitR (n : Int) : Res := if -2147483648 ≤ n ∧ n ≤ 2147483647 then intR n else zeroR 4
def truthB (n : Int) (t : ByteArray) : Bool := (n != 0) || !t.toList.isEmpty








theorem l01In_is (n low high : Int) (b : Bool) (w : World) (h : (decide (low ≤ n) && decide (n ≤ high)) = b) :
    Calls Tryz.prog 63 #[.int .i64 n, .int .i64 low, .int .i64 high] w fun e w' => e = .returned (.bool b) ∧ w' = w := h ▸ l01In_any n low high w






end Go.Proofs.YthfoabcmgiiadaaGreatDoor

/- Unary2 -/
namespace Go.Proofs.YthfoabcmgiiadaaGreatDoor
open Go.RowKit

def unaryR (op : List UInt8) (k n : Int) (t : ByteArray) : Res :=
  if 65536 < op.length then zeroR 2
  else if vokB k n t = false then zeroR 1
  else if op = [33] then boolR (!truthB n t)
  else if op = [45] then (if k = 1 then fitR (-n) else zeroR 8)
  else zeroR 3

theorem len_toList (s : ByteArray) : s.toList.length = s.size := by rw [ByteArray.toList_eq]; exact Array.length_toList
theorem vok_int {n : Int} {t : ByteArray} (h : vokB 1 n t = true) : -2147483648 ≤ n ∧ n ≤ 2147483647 := by simp [vokB] at h; omega





















end Go.Proofs.YthfoabcmgiiadaaGreatDoor

/- SrcWalk -/
namespace Go.Proofs.YthfoabcmgiiadaaGreatDoor
open Go.RowKit
set_option linter.unusedVariables false

/-- the bytes of a slice lie in cells -/
def ByteRow (w : World) (a : Option Addr) (len : Nat) : Prop := ∀ i, i < len → ∃ (b off : Nat) (c : Int), a = some ⟨b, off, none⟩ ∧ w.cell? ⟨b, off + i, none⟩ = some (.int .u8 c) ∧ 0 ≤ c ∧ c ≤ 255
theorem ByteRow.later {w w' : World} {a : Option Addr} {len : Nat} (h : ByteRow w a len) (hb : Below w.heap.size w w') : ByteRow w' a len := fun i hi => by
  obtain ⟨b, off, c, h1, h2, h3⟩ := h i hi
  exact ⟨b, off, c, h1, cell_later hb h2, h3⟩
/-- a source of choices in block g: its bytes, how many were taken, its seed -/
structure SrcAt (w : World) (g : Nat) (a : Option Addr) (len cap : Nat) (at' seed : Int) : Prop where
  c0 : w.cell? ⟨g, 0, none⟩ = some (.slice a len cap)
  c1 : w.cell? ⟨g, 1, none⟩ = some (.int .i64 at')
  c2 : w.cell? ⟨g, 2, none⟩ = some (.int .i64 seed)
  z1 : w.frozen? ⟨g, 1, none⟩ = false
  z2 : w.frozen? ⟨g, 2, none⟩ = false
  s0 : 0 ≤ seed
  s1 : seed < 2147483648
  a0 : 0 ≤ at'
  a1 : at' ≤ 1000000000

/-- all but block g is as it was -/
structure OnlyAt (g : Nat) (w w' : World) : Prop where
  os : w'.os = w.os
  tape : w'.tape = w.tape
  output : w'.output = w.output
  size : w'.heap.size = w.heap.size
  block : ∀ k, k ≠ g → w'.heap[k]? = w.heap[k]?
  shape : ∀ cs t fr, w.heap[g]? = some (.cells cs t fr) → ∃ ds, w'.heap[g]? = some (.cells ds t fr) ∧ ds.size = cs.size
theorem OnlyAt.refl (g : Nat) (w : World) : OnlyAt g w w := ⟨rfl, rfl, rfl, rfl, fun _ _ => rfl, fun cs _ _ h => ⟨cs, h, rfl⟩⟩
theorem OnlyAt.drew {g : Nat} {w w' : World} (h : OnlyAt g w w') : OnlyAt g w w'.drew := ⟨h.os, h.tape, h.output, h.size, h.block, h.shape⟩
theorem OnlyAt.set {g o : Nat} {w w' : World} {v : Value} (h : OnlyAt g w w') : OnlyAt g w (w'.setCell ⟨g, o, none⟩ v) :=
  ⟨h.os, h.tape, h.output, by simp [h.size], fun k hk => (Below.heap_setCell w' ⟨g, o, none⟩ v k hk).trans (h.block k hk), fun cs t fr hc => by
    obtain ⟨ds, h1, h2⟩ := h.shape cs t fr hc
    exact ⟨_, Joins.block_setCell h1 v, by rw [Array.size_setIfInBounds]; exact h2⟩⟩
theorem OnlyAt.trans {g : Nat} {a b c : World} (h : OnlyAt g a b) (k : OnlyAt g b c) : OnlyAt g a c :=
  ⟨k.os.trans h.os, k.tape.trans h.tape, k.output.trans h.output, k.size.trans h.size, fun i hi => (k.block i hi).trans (h.block i hi), fun cs t fr hc => by
    obtain ⟨ds, h1, h2⟩ := h.shape cs t fr hc
    obtain ⟨es, h3, h4⟩ := k.shape ds t fr h1
    exact ⟨es, h3, h4.trans h2⟩⟩

theorem src_one {w : World} {g : Nat} {a : Option Addr} {len cap : Nat} {n seed : Int} (h : SrcAt w g a len cap n seed) (hn : n + 1 ≤ 1000000000) : SrcAt (w.setCell ⟨g, 1, none⟩ (.int .i64 (n + 1))) g a len cap (n + 1) seed where
  c0 := by rw [World.cell?_setCell_other _ _ _ _ (by simp)]; exact h.c0
  c1 := World.cell?_setCell_same' _ _ _ (by rw [h.c1]; rfl)
  c2 := by rw [World.cell?_setCell_other _ _ _ _ (by simp)]; exact h.c2
  z1 := by simpa using h.z1
  z2 := by simpa using h.z2
  s0 := h.s0
  s1 := h.s1
  a0 := by have := h.a0; omega
  a1 := hn
theorem src_two {w : World} {g : Nat} {a : Option Addr} {len cap : Nat} {n seed s' : Int} (h : SrcAt w g a len cap n seed) (h0 : 0 ≤ s') (h1 : s' < 2147483648) : SrcAt (w.setCell ⟨g, 2, none⟩ (.int .i64 s')) g a len cap n s' where
  c0 := by rw [World.cell?_setCell_other _ _ _ _ (by simp)]; exact h.c0
  c1 := by rw [World.cell?_setCell_other _ _ _ _ (by simp)]; exact h.c1
  c2 := World.cell?_setCell_same' _ _ _ (by rw [h.c2]; rfl)
  z1 := by simpa using h.z1
  z2 := by simpa using h.z2
  s0 := h0
  s1 := h1
  a0 := h.a0
  a1 := h.a1
theorem src_drew {w : World} {g : Nat} {a : Option Addr} {len cap : Nat} {n seed : Int} (h : SrcAt w g a len cap n seed) : SrcAt w.drew g a len cap n seed := ⟨h.c0, h.c1, h.c2, h.z1, h.z2, h.s0, h.s1, h.a0, h.a1⟩

/-- what a byte's drawing leaves -/
def Drawn (g : Nat) (a : Option Addr) (len cap : Nat) (n : Int) (w : World) (top : Int) (e : Ending) (w' : World) : Prop :=
  ∃ r s', e = .returned (.int .i64 r) ∧ 0 ≤ r ∧ r < top ∧ SrcAt w' g a len cap (n + 1) s' ∧ OnlyAt g w w'

set_option maxHeartbeats 1000000 in
theorem byte_zero (g : Nat) (a : Option Addr) (len cap : Nat) (n seed : Int) (w : World) (h : SrcAt w g a len cap n seed) (hl : (len : Int) < n + 1) (h3 : 3000 < n + 1) (hn : n + 1 ≤ 1000000000) :
    Calls Tryz.prog 73 #[.pointer (some ⟨g, 0, none⟩)] w fun e w' => Drawn g a len cap n w 256 e w' := by
  have H := hide h
  obtain ⟨c0, c1, c2, z1, z2, s0, s1, a0, a1⟩ := h
  go_enter Tryz.func73, Tryz.ntmps73
  go_wp2
  go_region
  all_goals go_wp2
  all_goals
    go_ret
    exact ⟨0, seed, rfl, by omega, by omega, src_drew (src_one (unhide H) hn), (OnlyAt.refl _ _).set.drew⟩

set_option maxHeartbeats 1000000 in
theorem byte_seed (g : Nat) (a : Option Addr) (len cap : Nat) (n seed : Int) (w : World) (h : SrcAt w g a len cap n seed) (hl : (len : Int) < n + 1) (h3 : n + 1 ≤ 3000) :
    Calls Tryz.prog 73 #[.pointer (some ⟨g, 0, none⟩)] w fun e w' => Drawn g a len cap n w 256 e w' := by
  have H := hide h
  obtain ⟨c0, c1, c2, z1, z2, s0, s1, a0, a1⟩ := h
  go_enter Tryz.func73, Tryz.ntmps73
  go_wp2
  go_region
  all_goals go_wp2
  all_goals
    go_ret
    exact ⟨_, _, rfl, Int.emod_nonneg _ (by omega), Int.emod_lt_of_pos _ (by omega), src_drew (src_two (src_one (unhide H) (by omega)) (Int.emod_nonneg _ (by omega)) (Int.emod_lt_of_pos _ (by omega))), (OnlyAt.refl _ _).set.set.drew⟩

set_option maxHeartbeats 2000000 in
theorem byte_code (g b off len cap : Nat) (n seed c : Int) (w : World) (h : SrcAt w g (some ⟨b, off, none⟩) len cap n seed) (hl : n + 1 ≤ (len : Int)) (hlen : (len : Int) ≤ 1048577) (hb : ¬ b = g) (hb' : ¬ g = b)
    (hc : w.cell? ⟨b, off + n.toNat, none⟩ = some (.int .u8 c)) (c0' : 0 ≤ c) (c1' : c ≤ 255) :
    Calls Tryz.prog 73 #[.pointer (some ⟨g, 0, none⟩)] w fun e w' => Drawn g (some ⟨b, off, none⟩) len cap n w 256 e w' := by
  have H := hide h
  obtain ⟨c0, c1, c2, z1, z2, s0, s1, a0, a1⟩ := h
  have hlt : n < (len : Int) := by omega
  have hw1 : IntKind.i64.wrap (n + 1 - 1) = n := by rw [IntKind.wrap_i64]; omega
  have hw2 : IntKind.i64.wrap n = n := by rw [IntKind.wrap_i64]; omega
  have hw3 : IntKind.i64.wrap (seed * 31) = seed * 31 := by rw [IntKind.wrap_i64]; omega
  have hw4 : IntKind.i64.wrap (seed * 31 + c) = seed * 31 + c := by rw [IntKind.wrap_i64]; omega
  have hw5 : IntKind.i64.wrap (seed * 31 + c + 7) = seed * 31 + c + 7 := by rw [IntKind.wrap_i64]; omega
  have hw6 : IntKind.i64.wrap c = c := by rw [IntKind.wrap_i64]; omega
  go_enter Tryz.func73, Tryz.ntmps73
  go_wp2
  go_region
  all_goals go_wp2
  go_region
  all_goals go_wp2
  go_region
  all_goals go_wp2
  all_goals
    go_ret
    exact ⟨c, _, rfl, c0', by omega, src_drew (src_drew (src_drew (src_two (src_one (unhide H) (by omega)) (Int.emod_nonneg _ (by omega)) (Int.emod_lt_of_pos _ (by omega))))), (OnlyAt.refl _ _).set.set.drew.drew.drew⟩

theorem byte_any (g : Nat) (a : Option Addr) (len cap : Nat) (n seed : Int) (w : World) (h : SrcAt w g a len cap n seed) (hn : n + 1 ≤ 1000000000) (hlen : len ≤ 1048577) (hrow : ByteRow w a len) (hg : 0 < len → ∀ x, a = some x → ¬ x.block = g) :
    Calls Tryz.prog 73 #[.pointer (some ⟨g, 0, none⟩)] w fun e w' => Drawn g a len cap n w 256 e w' := by
  by_cases hl : (len : Int) < n + 1
  · by_cases h3 : n + 1 ≤ 3000
    · exact byte_seed g a len cap n seed w h hl h3
    · exact byte_zero g a len cap n seed w h hl (by omega) hn
  have h0 := h.a0
  obtain ⟨b, off, c, rfl, hc, hc0, hc1⟩ := hrow n.toNat (by omega)
  have hb := hg (by omega) _ rfl
  exact byte_code g b off len cap n seed c w h (by omega) (by omega) hb (fun e => hb e.symm) hc hc0 hc1

theorem only_cell {g : Nat} {w w' : World} (h : OnlyAt g w w') {b o : Nat} (hb : b ≠ g) : w'.cell? ⟨b, o, none⟩ = w.cell? ⟨b, o, none⟩ := World.cell?_of_block (w := w) (h.block b hb)
theorem only_frozen {g : Nat} {w w' : World} (h : OnlyAt g w w') {b o : Nat} (hb : b ≠ g) : w'.frozen? ⟨b, o, none⟩ = w.frozen? ⟨b, o, none⟩ := World.frozen?_of_block (w := w) (h.block b hb)
theorem only_below {g B : Nat} {w w' : World} (h : OnlyAt g w w') (hB : B ≤ g) : Below B w w' := ⟨h.os, h.tape, h.output, by rw [h.size]; exact Nat.le_refl _, fun k hk => h.block k (by omega)⟩

set_option maxHeartbeats 1000000 in
theorem next_any (g : Nat) (a : Option Addr) (len cap : Nat) (n seed m : Int) (w : World) (h : SrcAt w g a len cap n seed) (hn : n + 1 ≤ 1000000000) (hlen : len ≤ 1048577) (hrow : ByteRow w a len) (hg : 0 < len → ∀ x, a = some x → ¬ x.block = g) (hm1 : 1 < m) (hm2 : m ≤ 256) :
    Calls Tryz.prog 59 #[.pointer (some ⟨g, 0, none⟩), .int .i64 m] w fun e w' => Drawn g a len cap n w m e w' := by
  have HB := hide (byte_any g a len cap n seed w h hn hlen hrow hg)
  clear h hrow hg
  go_enter Tryz.func59, Tryz.ntmps59
  go_wp2_with fail
  refine (unhide HB).mono ?_
  rintro e w1 ⟨r, s', rfl, ra, rb, hs, ho⟩
  have HS := hide hs
  have HO := hide ho
  clear hs ho HB
  go_wp2
  go_ret
  exact ⟨_, s', rfl, Int.emod_nonneg _ (by omega), Int.emod_lt_of_pos _ (by omega), unhide HS, unhide HO⟩

set_option maxHeartbeats 1000000 in
theorem chance_any (g : Nat) (a : Option Addr) (len cap : Nat) (n seed m : Int) (w : World) (h : SrcAt w g a len cap n seed) (hn : n + 1 ≤ 1000000000) (hlen : len ≤ 1048577) (hrow : ByteRow w a len) (hg : 0 < len → ∀ x, a = some x → ¬ x.block = g) (hm1 : 1 < m) (hm2 : m ≤ 256) :
    Calls Tryz.prog 68 #[.pointer (some ⟨g, 0, none⟩), .int .i64 m] w fun e w' => ∃ (b : Bool) (s' : Int), e = .returned (.bool b) ∧ SrcAt w' g a len cap (n + 1) s' ∧ OnlyAt g w w' := by
  have HB := hide (next_any g a len cap n seed m w h hn hlen hrow hg hm1 hm2)
  clear h hrow hg
  go_enter Tryz.func68, Tryz.ntmps68
  go_wp2_with fail
  refine (unhide HB).mono ?_
  rintro e w1 ⟨r, s', rfl, ra, rb, hs, ho⟩
  have HS := hide hs
  have HO := hide ho
  clear hs ho HB
  go_wp2
  all_goals
    go_ret
    exact ⟨_, s', rfl, unhide HS, unhide HO⟩

set_option maxHeartbeats 1000000 in
theorem pick_any (g : Nat) (a : Option Addr) (len cap : Nat) (n seed : Int) (q L qc : Nat) (ts : Nat → ByteArray) (w : World) (h : SrcAt w g a len cap n seed) (hn : n + 1 ≤ 1000000000) (hlen : len ≤ 1048577) (hrow : ByteRow w a len) (hg : 0 < len → ∀ x, a = some x → ¬ x.block = g) (hq : q ≠ g) (hL1 : 1 < L) (hL2 : L ≤ 256)
    (hts : ∀ j, j < L → w.cell? ⟨q, j, none⟩ = some (.string (ts j))) :
    Calls Tryz.prog 61 #[.pointer (some ⟨g, 0, none⟩), .slice (some ⟨q, 0, none⟩) L qc] w fun e w' => ∃ (j : Nat) (s' : Int), j < L ∧ e = .returned (.string (ts j)) ∧ SrcAt w' g a len cap (n + 1) s' ∧ OnlyAt g w w' := by
  have HB := hide (next_any g a len cap n seed (L : Int) w h hn hlen hrow hg (by omega) (by omega))
  have HT := hide hts
  have e0 : ((L : Int) == 0) = false := beq_eq_false_iff_ne.2 (by omega)
  clear h hrow hg hts
  go_enter Tryz.func61, Tryz.ntmps61
  go_wp2_with fail
  refine (unhide HB).mono ?_
  rintro e w1 ⟨r, s', rfl, ra, rb, hs, ho⟩
  obtain ⟨j, rfl⟩ := Int.eq_ofNat_of_zero_le ra
  have hj : j < L := by omega
  have hc : w1.cell? ⟨q, j, none⟩ = some (.string (ts j)) := (only_cell ho hq).trans (unhide HT j hj)
  have HS := hide hs
  have HO := hide ho
  clear hs ho HB HT
  go_wp2
  go_ret
  exact ⟨j, s', hj, rfl, unhide HS, unhide HO⟩

end Go.Proofs.YthfoabcmgiiadaaGreatDoor

/- RowOf -/
namespace Go.Proofs.YthfoabcmgiiadaaGreatDoor
open Go.RowKit
set_option linter.unusedVariables false

theorem byteRow_of {w : World} {a : Option Addr} {len cap : Nat} {zs : List Int} (h : IsRow .u8 w a len cap zs) : ByteRow w a len := fun i hi => by
  rcases h with ⟨_, rfl, _, _⟩ | ⟨x, rfl, hl, hm, hz, hcell, hwz⟩
  · omega
  have hc0 := hcell 0 (by omega)
  obtain ⟨b, off, spot⟩ := x
  have hspot : spot = none := by simpa [Addr.add] using World.cell?_spot hc0
  subst hspot
  have hiz : i < zs.length := by omega
  have hw := bounds_u8 (hwz (zs.getD i 0) (by rw [List.getD_eq_getElem?_getD, List.getElem?_eq_getElem hiz]; simp))
  refine ⟨b, off, zs.getD i 0, rfl, ?_, hw.1, hw.2⟩
  have h9 := hcell i hiz
  by_cases hj0 : i = 0
  · rw [hj0] at h9 ⊢; simpa [Addr.add] using h9
  · simpa [Addr.add, hj0] using h9

end Go.Proofs.YthfoabcmgiiadaaGreatDoor

/- WireX4 -/
namespace Go.Proofs.YthfoabcmgiiadaaGreatDoor
open Go.RowKit Go.Shelf Go.Joins
set_option linter.unusedVariables false

set_option maxHeartbeats 1000000 in
theorem sourceW_any (a : Option Addr) (len cap : Nat) (w : World) (hlen : len ≤ 1048577) :
    Calls Tryz.prog 33 #[.slice a len cap] w fun e w' => e = .returned (.pointer (some ⟨w.heap.size, 0, none⟩)) ∧ Below w.heap.size w w' ∧ w.heap.size < w'.heap.size ∧ SrcAt w' w.heap.size a len cap 0 ((len : Int) % 1000) := by
  go_enter Tryz.func33, Tryz.ntmps33
  go_wp2
  go_ret
  exact ⟨rfl, qx_alloc _ _, by simp, by simp, by simp, by simp, by simp, by simp, by omega, by omega, by omega, by omega⟩
theorem row_blockW {w : World} {a : Option Addr} {len : Nat} (h : ByteRow w a len) (h0 : 0 < len) : ∀ x, a = some x → x.block < w.heap.size := fun x hx => by
  obtain ⟨b, off, c, h1, h2, _⟩ := h 0 h0
  rw [h1] at hx
  cases hx
  exact World.block_lt_of_cell? _ _ h2

theorem only_trans_below {B g : Nat} {w w1 w2 : World} (h : Below B w w1) (ho : OnlyAt g w1 w2) (hB : B ≤ g) : Below B w w2 := h.trans (only_below ho hB)
theorem SrcAt.other {w w' : World} {g : Nat} {a : Option Addr} {len cap : Nat} {n seed : Int} (h : SrcAt w g a len cap n seed) (hb : Below w.heap.size w w') (hg : g < w.heap.size) : SrcAt w' g a len cap n seed := by
  obtain ⟨hc, hf⟩ := qcell hb
  exact ⟨by rw [hc g 0 hg]; exact h.c0, by rw [hc g 1 hg]; exact h.c1, by rw [hc g 2 hg]; exact h.c2, by rw [hf g 1 hg]; exact h.z1, by rw [hf g 2 hg]; exact h.z2, h.s0, h.s1, h.a0, h.a1⟩

set_option maxHeartbeats 4000000 in
set_option maxRecDepth 100000 in
theorem request_any (g : Nat) (a : Option Addr) (len cap : Nat) (seed : Int) (w : World) (h : SrcAt w g a len cap 0 seed) (hlen : len ≤ 1048577) (hrow : ByteRow w a len) (hg : 0 < len → ∀ x, a = some x → x.block < g) (hgw : g < w.heap.size) :
    Calls Tryz.prog 41 #[.pointer (some ⟨g, 0, none⟩)] w fun e w' => ∃ (j : Nat) (c : Bool), j < 9 ∧ e = .returned (.agg #[.string (wireP j), .bool c]) ∧ Below g w w' := by
  have HS := hide h
  have HR := hide hrow
  have HG := hide hg
  clear h hrow hg
  go_enter Tryz.func41, Tryz.ntmps41
  go_wp2_with fail
  have hts : Hid (∀ (W : World), W = ((w.alloc (.cells #[.string ⟨#[]⟩, .bool false] 31)).alloc (.cells (wirePaths.map fun l => Value.string ⟨l.toArray⟩).toArray 9)) → SrcAt W g a len cap 0 seed ∧ ByteRow W a len ∧ ∀ j, j < 9 → W.cell? ⟨w.heap.size + 1, j, none⟩ = some (.string (wireP j))) := hide (by
    rintro W rfl
    have hb : Below w.heap.size w ((w.alloc (.cells #[.string ⟨#[]⟩, .bool false] 31)).alloc (.cells (wirePaths.map fun l => Value.string ⟨l.toArray⟩).toArray 9)) := qx_al (qx_alloc _ _)
    refine ⟨(unhide HS).other hb hgw, (unhide HR).later hb, fun j hj => ?_⟩
    have e9 : (wirePaths.map fun l => Value.string ⟨l.toArray⟩).toArray[j]? = some (.string (wireP j)) := by
      have hl : wirePaths.length = 9 := rfl
      simp [wireP, hl, hj]
    rw [← e9]
    simp)
  obtain ⟨hs1, hr1, ht1⟩ := unhide hts _ rfl
  refine (pick_any g a len cap 0 seed (w.heap.size + 1) 9 9 wireP _ hs1 (by omega) hlen hr1 (fun h0 x hx => Nat.ne_of_lt (unhide HG h0 x hx)) (by omega) (by omega) (by omega) ht1).mono ?_
  rintro e w1 ⟨j, s', hj, rfl, hs1', ho1⟩
  have hr2 := hide (show ByteRow w1 a len from fun i hi => by
    obtain ⟨b, off, c, e1, e2, e3⟩ := hr1 i hi
    have : b ≠ g := Nat.ne_of_lt (unhide HG (by omega) _ e1)
    exact ⟨b, off, c, e1, by rw [only_cell ho1 this]; exact e2, e3⟩)
  have hbw : Below g w w1 := ((qx_al (qx_alloc _ _)).mono (Nat.le_of_lt hgw)).trans (only_below ho1 (Nat.le_refl _))
  have HS2 := hide hs1'
  have hres := hide (show ReqAt w1 w.heap.size ⟨#[]⟩ false from by
    have := (ReqAt.new w ⟨#[]⟩ false w.heap.size rfl 31).later (qx_alloc _ (.cells (wirePaths.map fun l => Value.string ⟨l.toArray⟩).toArray 9))
    obtain ⟨q0, q1, q2, q3, q4⟩ := this
    have hne : w.heap.size ≠ g := by omega
    exact ⟨by rw [only_cell ho1 hne]; exact q0, by rw [only_cell ho1 hne]; exact q1, by rw [only_frozen ho1 hne]; exact q2, by rw [only_frozen ho1 hne]; exact q3, by rw [ho1.size]; exact q4⟩)
  clear hs1 hr1 ht1 hs1' ho1 hts
  go_wp2_with fail
  refine (chance_any g a len cap (0 + 1) s' 8 _ (unhide HS2) (by omega) hlen (unhide hr2) (fun h0 x hx => Nat.ne_of_lt (unhide HG h0 x hx)) (by omega) (by omega)).mono ?_
  rintro e w2 ⟨c, s'', rfl, _, ho2⟩
  have hne : w.heap.size ≠ g := by omega
  obtain ⟨rc0, rc1, rf0, rf1, rl⟩ : ReqAt w2 w.heap.size ⟨#[]⟩ false := by
    obtain ⟨q0, q1, q2, q3, q4⟩ := unhide hres
    exact ⟨by rw [only_cell ho2 hne]; exact q0, by rw [only_cell ho2 hne]; exact q1, by rw [only_frozen ho2 hne]; exact q2, by rw [only_frozen ho2 hne]; exact q3, by rw [ho2.size]; exact q4⟩
  have hbw2 : Below g w w2 := hbw.trans (only_below ho2 (Nat.le_refl _))
  clear hne ho2
  go_wp2
  exact bodyPost_ret (v := .agg #[.string (wireP j), .bool c]) (by simp [results, Tryz.results41, go_sem, rc0, rc1]) rfl ⟨j, c, hj, rfl, ((hbw2.setCell (Nat.le_of_lt hgw) _).setCell (Nat.le_of_lt hgw) _)⟩

set_option maxHeartbeats 2000000 in
theorem RequestOf_any (a : Option Addr) (len cap : Nat) (w : World) (hlen : len ≤ 1048577) (hrow : ByteRow w a len) :
    Calls Tryz.prog 22 #[.slice a len cap] w fun e w' => ∃ (j : Nat) (c : Bool), j < 9 ∧ e = .returned (.agg #[.string (wireP j), .bool c]) ∧ Below w.heap.size w w' := by
  have HR := hide hrow
  clear hrow
  go_enter Tryz.func22, Tryz.ntmps22
  go_wp2_with fail
  refine (sourceW_any a len cap _ hlen).mono ?_
  rintro e w1 ⟨rfl, hb1, hz1, hs1⟩
  have hr1 := hide ((unhide HR).later (qx_trans (qx_alloc _ _) hb1))
  have HS1 := hide hs1
  have hres := hide ((ReqAt.new w ⟨#[]⟩ false w.heap.size rfl 31).later hb1)
  have hz0 : w.heap.size + 1 < w1.heap.size := by simpa using hz1
  have htop := hide (qx_trans (qx_alloc w (.cells #[.string ⟨#[]⟩, .bool false] 31)) hb1)
  have hgr : Hid (0 < len → ∀ x, a = some x → x.block < w.heap.size + 1) := hide fun h0 x hx => Nat.lt_succ_of_lt (row_blockW (unhide HR) h0 x hx)
  clear hs1 hb1 hz1
  simp only [World.size_alloc] at HS1
  go_wp2_with fail
  refine (request_any (w.heap.size + 1) a len cap _ _ (unhide HS1) hlen (unhide hr1) (unhide hgr) hz0).mono ?_
  rintro e w2 ⟨j, c, hj, rfl, hb2⟩
  obtain ⟨rc0, rc1, rf0, rf1, rl⟩ := (unhide hres).below hb2 (Nat.lt_succ_self _)
  have htop2 := hide ((unhide htop).trans (hb2.mono (by omega)))
  clear hb2
  go_wp2
  exact bodyPost_ret (v := .agg #[.string (wireP j), .bool c]) (by simp [results, Tryz.results22, go_sem, rc0, rc1]) rfl ⟨j, c, hj, rfl, qx_set (qx_set (unhide htop2) (Nat.le_refl _)) (Nat.le_refl _)⟩

end Go.Proofs.YthfoabcmgiiadaaGreatDoor

/- PieceW0 -/
namespace Go.Proofs.YthfoabcmgiiadaaGreatDoor
open Go.RowKit Go.Joins
set_option linter.unusedVariables false

/-- a connection in a variable's block -/
def CnB (w : World) (b : Nat) (c : CN) (v : Value) : Prop := w.heap[b]? = some (.cells #[.bool c.o, .bool c.e, .string c.i, v, .int .i64 c.n] 25 (0, 0))
theorem CnB.lt {w : World} {b : Nat} {c : CN} {v : Value} (h : CnB w b c v) : b < w.heap.size := (Array.getElem?_eq_some_iff.1 h).1
theorem CnB.below {w w' : World} {b B : Nat} {c : CN} {v : Value} (h : CnB w b c v) (hb : Below B w w') (hB : b < B) : CnB w' b c v := by unfold CnB; rw [hb.block b hB]; exact h
theorem CnB.later {w w' : World} {b : Nat} {c : CN} {v : Value} (h : CnB w b c v) (hb : Below w.heap.size w w') : CnB w' b c v := h.below hb h.lt
theorem CnB.cells {w : World} {b : Nat} {c : CN} {v : Value} (h : CnB w b c v) : w.cell? ⟨b, 0, none⟩ = some (.bool c.o) ∧ w.cell? ⟨b, 1, none⟩ = some (.bool c.e) ∧ w.cell? ⟨b, 2, none⟩ = some (.string c.i) ∧ w.cell? ⟨b, 3, none⟩ = some v ∧ w.cell? ⟨b, 4, none⟩ = some (.int .i64 c.n) :=
  ⟨(cell_of_block h 0).trans rfl, (cell_of_block h 1).trans rfl, (cell_of_block h 2).trans rfl, (cell_of_block h 3).trans rfl, (cell_of_block h 4).trans rfl⟩
theorem CnB.free {w : World} {b : Nat} {c : CN} {v : Value} (h : CnB w b c v) : w.frozen? ⟨b, 0, none⟩ = false ∧ w.frozen? ⟨b, 1, none⟩ = false ∧ w.frozen? ⟨b, 2, none⟩ = false ∧ w.frozen? ⟨b, 3, none⟩ = false ∧ w.frozen? ⟨b, 4, none⟩ = false :=
  ⟨unfrozen_of_block h 0, unfrozen_of_block h 1, unfrozen_of_block h 2, unfrozen_of_block h 3, unfrozen_of_block h 4⟩
theorem CnB.five {w : World} {b : Nat} {c : CN} {v : Value} (h : CnB w b c v) (d : CN) (u : Value) : CnB (fiveC w b d u) b d u := by
  have := block_setCell (i := 4) (block_setCell (i := 3) (block_setCell (i := 2) (block_setCell (i := 1) (block_setCell (i := 0) h (.bool d.o)) (.bool d.e)) (.string d.i)) u) (.int .i64 d.n)
  exact this
theorem CnB.other {w : World} {b g : Nat} {c d : CN} {v u : Value} (h : CnB w b c v) (hg : b ≠ g) : CnB (fiveC w g d u) b c v := by unfold CnB; rw [fiveC_other _ _ _ _ _ hg]; exact h
theorem CnB.new (w : World) (c : CN) (v : Value) (n : Nat) (hn : w.heap.size = n) : CnB (w.alloc (.cells #[.bool c.o, .bool c.e, .string c.i, v, .int .i64 c.n] 25)) n c v := by
  subst hn; show (w.heap.push _)[w.heap.size]? = _; simp
theorem RowSl.five2 {w : World} {g : Nat} {c : CN} {v u : Value} {s : List SL} (h : RowSl w u s) (hv : ∀ j, u.ownBlock = some j → j ≠ g) : RowSl (fiveC w g c v) u s := h.five hv

theorem two_slots {w : World} {p q : Option Addr} {s : List SL} {l : Nat} (hll : s.length = l) (hp : SlotsAt w p s) (hq : SlotsAt w q s) (k : Nat) (hk : k < l) :
    ∃ (sq : Int) (sr : Bool) (st : ByteArray) (b off b' off' : Nat), p = some ⟨b, off, none⟩ ∧ q = some ⟨b', off', none⟩ ∧ (w.cell? ⟨b, off + k * 3, none⟩ = some (.int .i64 sq) ∧ w.cell? ⟨b, off + k * 3 + 1, none⟩ = some (.bool sr) ∧ w.cell? ⟨b, off + k * 3 + 2, none⟩ = some (.string st)) ∧ (w.cell? ⟨b', off' + k * 3, none⟩ = some (.int .i64 sq) ∧ w.cell? ⟨b', off' + k * 3 + 1, none⟩ = some (.bool sr) ∧ w.cell? ⟨b', off' + k * 3 + 2, none⟩ = some (.string st)) := by
  subst hll
  obtain ⟨b, off, rfl, a⟩ := hp k hk
  obtain ⟨b', off', rfl, c⟩ := hq k hk
  exact ⟨_, _, _, b, off, b', off', rfl, rfl, a, c⟩
theorem pc_al {w : World} {g : Nat} {x : Obj} (h : w.heap[g]? = some x) (ob : Obj) : (w.alloc ob).heap[g]? = some x := by
  have hl := (Array.getElem?_eq_some_iff.1 h).1
  show (w.heap.push _)[g]? = _
  rw [Array.getElem?_push, if_neg (by omega)]
  exact h
theorem bool_nself (b : Bool) : (b != b) = false ∧ (b == b) = true := by cases b <;> exact ⟨rfl, rfl⟩

theorem RowSl.empty {w w' : World} {v : Value} (h : RowSl w v []) : RowSl w' v [] := by
  rcases h with h | ⟨b, off, cap, rfl, _⟩
  · exact .inl h
  · exact .inr ⟨b, off, cap, rfl, fun i hi => absurd hi (by simp)⟩
theorem RowSl.lt {w : World} {v : Value} {s : List SL} (h : RowSl w v s) (hs : s ≠ []) : ∀ j, v.ownBlock = some j → j < w.heap.size := by
  rcases h with ⟨rfl, _⟩ | ⟨b, off, cap, rfl, hat⟩
  · exact fun j hj => by cases hj
  · intro j hj
    cases hj
    have h0 : 0 < s.length := List.length_pos_iff.2 hs
    exact World.block_lt_of_cell? _ _ (hat 0 h0).1
theorem RowSl.kept {w w' : World} {v : Value} {s : List SL} (h : RowSl w v s) (hk : s ≠ [] → ∀ j, v.ownBlock = some j → w'.heap[j]? = w.heap[j]?) : RowSl w' v s := by
  by_cases hs : s = []
  · subst hs; exact h.empty
  · rcases h with h | ⟨g, off, cap, rfl, hat⟩
    · exact .inl h
    · have e := hk hs g rfl
      exact .inr ⟨g, off, cap, rfl, fun i hi => ⟨(World.cell?_of_block (a := ⟨g, _, Option.none⟩) e).trans (hat i hi).1, (World.cell?_of_block (a := ⟨g, _, Option.none⟩) e).trans (hat i hi).2.1, (World.cell?_of_block (a := ⟨g, _, Option.none⟩) e).trans (hat i hi).2.2⟩⟩
theorem RowSl.apartC {w : World} {b : Nat} {c : CN} {v u : Value} {s : List SL} (hc : CnB w b c v) (hv : ∃ p n k, v = .slice p n k) (h : RowSl w u s) (hs : s ≠ []) : ∀ j, u.ownBlock = some j → j ≠ b := by
  rcases h with ⟨_, h0⟩ | ⟨g, off, cap, rfl, hat⟩
  · exact absurd h0 hs
  · intro j hj e
    cases hj
    subst e
    have h0 : 0 < s.length := List.length_pos_iff.2 hs
    obtain ⟨a0, a1, _⟩ := hat 0 h0
    obtain ⟨p, n, k, rfl⟩ := hv
    rw [cell_of_block hc] at a0 a1
    match off with
    | 0 => simp at a0
    | 1 => simp at a0
    | 2 => simp at a0
    | 3 => simp at a0
    | 4 => simp at a1
    | off + 5 => simp at a0
theorem RowSl.fiveO {w : World} {b : Nat} {c d : CN} {v u x : Value} {s : List SL} (h : RowSl w u s) (hc : CnB w b c v) (hv : ∃ p n k, v = .slice p n k) : RowSl (fiveC w b d x) u s :=
  h.kept fun hs j hj => fiveC_other _ _ _ _ _ (RowSl.apartC hc hv h hs j hj)
theorem RqB.kept {w w' : World} {base : Nat} {v : Value} {l : List RQ} (h : RqB w base v l) (hk : ∀ j, v.ownBlock = some j → w'.heap[j]? = w.heap[j]?) : RqB w' base v l := by
  refine ⟨h.1, ?_⟩
  rcases h.2 with h | ⟨g, cap, cur, e, hg, hgg, r⟩
  · exact .inl h
  · refine .inr ⟨g, cap, cur, e, hg, ?_, r⟩
    rw [hk g (by rw [e]; rfl)]; exact hgg
theorem two_reqs {w : World} {a b : Option Addr} {l : List RQ} {n : Nat} (hl : l.length = n)
    (ha : ∀ i (hi : i < l.length), ∃ g, a = some ⟨g, 0, none⟩ ∧ w.cell? ⟨g, i * 2, none⟩ = some (.string l[i].p) ∧ w.cell? ⟨g, i * 2 + 1, none⟩ = some (.bool l[i].x) ∧ g < w.heap.size)
    (hb : ∀ i (hi : i < l.length), ∃ g, b = some ⟨g, 0, none⟩ ∧ w.cell? ⟨g, i * 2, none⟩ = some (.string l[i].p) ∧ w.cell? ⟨g, i * 2 + 1, none⟩ = some (.bool l[i].x) ∧ g < w.heap.size) (k : Nat) (hk : k < n) :
    ∃ (p : ByteArray) (x : Bool) (g g' : Nat), a = some ⟨g, 0, none⟩ ∧ b = some ⟨g', 0, none⟩ ∧ w.cell? ⟨g, k * 2, none⟩ = some (.string p) ∧ w.cell? ⟨g, k * 2 + 1, none⟩ = some (.bool x) ∧ w.cell? ⟨g', k * 2, none⟩ = some (.string p) ∧ w.cell? ⟨g', k * 2 + 1, none⟩ = some (.bool x) := by
  subst hl
  obtain ⟨g, e, c1, c2, _⟩ := ha k hk
  obtain ⟨g', e', d1, d2, _⟩ := hb k hk
  exact ⟨_, _, g, g', e, e', c1, c2, d1, d2⟩
theorem RqB.notParts {w : World} {base pb : Nat} {v : Value} {l : List RQ} {cs : Array Value} {fr : Nat × Nat} (h : RqB w base v l) (hp : w.heap[pb]? = some (.cells cs 9 fr)) : v.ownBlock ≠ some pb := by
  intro e
  rcases h.2 with ⟨rfl, _⟩ | ⟨g, cap, cur, rfl, hg, hgg, r⟩
  · cases e
  · cases e
    rw [hgg] at hp
    injection hp with hp
    injection hp with _ hp _
    exact absurd hp (by decide)
theorem wp_appRqX (w : World) {ops : Array Oper} {rest : List Oper} {o : Oper} {a : Act} {Q : Exit → Act → World → Prop} (hgd : o.guard = none) (s x : Operand)
    (ho : o.op = .call { callee := .builtin .append, args := #[s, x], argTypes := #[50, 50] }) (base g : Nat) (v : Value) (vs : List RQ) (c : RQ) (hs : a.eval s = v)
    (hown : RqB w base v vs) (hx : a.eval x = .slice (some ⟨g, 0, none⟩) 1 1) (hc0 : w.cell? ⟨g, 0, none⟩ = some (.string c.p)) (hc1 : w.cell? ⟨g, 1, none⟩ = some (.bool c.x)) (hbase : base ≤ w.heap.size) (hl : vs.length ≤ 1000000)
    (h : ∀ v' w', RqB w' base v' (vs ++ [c]) → Below base w w' → (∀ k, k < w.heap.size → v.ownBlock ≠ some k → w'.heap[k]? = w.heap[k]?) → wpList Tryz.prog ops Q rest (a.put o.dst v') w') : wpList Tryz.prog ops Q (o :: rest) a w := by
  obtain ⟨i0, hi, hz0, hz1, hz2⟩ := info_parts infoRq
  refine wpList_append_own _ hgd s x 50 ho base 31 i0 (.agg #[.string ⟨#[]⟩, .bool false]) 2 24 Tryz.underlying50 hi hz0 hz1 hz2 rfl (by decide) _ _ _ hs hown ⟨g, 0, none⟩ 1 1 [.string c.p, .bool c.x] hx rfl ?_ ?_ (by unfold maxLen; omega) (by omega) hbase ?_
  · intro j u' hj
    match j, hj with
    | 0, hj => simp at hj; subst hj; simpa [Addr.add] using hc0
    | 1, hj => simp at hj; subst hj; simpa [Addr.add] using hc1
    | j + 2, hj => simp at hj
  · intro u' hu'
    simp at hu'
    rcases hu' with rfl | rfl <;> rfl
  · intro v' w' hown' hgrow _
    rw [rqCells_snoc, show vs.length + 1 = (vs ++ [c]).length by simp] at hown'
    exact h v' w' hown' ((Below.refl _ _).grown hgrow hbase (fun j hj => (World.ownsRow.lt hown j hj).1)) (fun k hk hv => hgrow.block k hk (fun e => hv e.symm))

theorem newC_cells {w y : World} (n : Nat) (hn : w.heap.size = n) (hb : Below (w.alloc (.cells #[.bool false, .bool false, .string ⟨#[]⟩, .slice none 0 0, .int .i64 0] 25)).heap.size (w.alloc (.cells #[.bool false, .bool false, .string ⟨#[]⟩, .slice none 0 0, .int .i64 0] 25)) y) : CnB y n ⟨false, false, ⟨#[]⟩, [], 0⟩ (.slice none 0 0) ∧ n < y.heap.size := by
  subst hn
  have h := (CnB.new w ⟨false, false, ⟨#[]⟩, [], 0⟩ (.slice none 0 0) w.heap.size rfl).later hb
  exact ⟨h, h.lt⟩
theorem newC_cellsD {w y : World} (n : Nat) (hn : w.heap.size = n) (hb : Below (w.alloc (.cells #[.bool false, .bool false, .string ⟨#[]⟩, .slice none 0 0, .int .i64 0] 25)).drew.heap.size (w.alloc (.cells #[.bool false, .bool false, .string ⟨#[]⟩, .slice none 0 0, .int .i64 0] 25)).drew y) : CnB y n ⟨false, false, ⟨#[]⟩, [], 0⟩ (.slice none 0 0) ∧ n < y.heap.size :=
  newC_cells n hn (qx_trans (qx_drew (Below.refl _ _)) hb)
theorem piece_cutB {wr y : World} {Do De : Bool} {Di : ByteArray} {Dm code : Int} {Ds : List SL} {p : Option Addr} {n k : Nat} (hN : CnB y wr.heap.size ⟨false, false, ⟨#[]⟩, [], 0⟩ (.slice none 0 0)) (hR : RowSl y (.slice p n k) Ds) (hB : Below (wr.alloc (.cells #[.bool false, .bool false, .string ⟨#[]⟩, .slice none 0 0, .int .i64 0] 25)).drew.heap.size (wr.alloc (.cells #[.bool false, .bool false, .string ⟨#[]⟩, .slice none 0 0, .int .i64 0] 25)).drew y) :
    ∃ (bx : Nat) (v' : Value), Value.pointer (some ⟨wr.heap.size, 0, none⟩) = .pointer (some ⟨bx, 0, none⟩) ∧ Value.int .i64 code = .int .i64 code ∧ wr.heap.size ≤ bx ∧ Hid (CnB (((((y.setCell ⟨wr.heap.size, 0, none⟩ (.bool Do)).setCell ⟨wr.heap.size, 1, none⟩ (.bool De)).setCell ⟨wr.heap.size, 2, none⟩ (.string Di)).setCell ⟨wr.heap.size, 3, none⟩ (.slice p n k)).setCell ⟨wr.heap.size, 4, none⟩ (.int .i64 Dm)) bx ⟨Do, De, Di, Ds, Dm⟩ v') ∧ Hid (RowSl (((((y.setCell ⟨wr.heap.size, 0, none⟩ (.bool Do)).setCell ⟨wr.heap.size, 1, none⟩ (.bool De)).setCell ⟨wr.heap.size, 2, none⟩ (.string Di)).setCell ⟨wr.heap.size, 3, none⟩ (.slice p n k)).setCell ⟨wr.heap.size, 4, none⟩ (.int .i64 Dm)) v' Ds) ∧ Hid (Below wr.heap.size wr (((((y.setCell ⟨wr.heap.size, 0, none⟩ (.bool Do)).setCell ⟨wr.heap.size, 1, none⟩ (.bool De)).setCell ⟨wr.heap.size, 2, none⟩ (.string Di)).setCell ⟨wr.heap.size, 3, none⟩ (.slice p n k)).setCell ⟨wr.heap.size, 4, none⟩ (.int .i64 Dm))) := by
  have h1 := hN.five ⟨Do, De, Di, Ds, Dm⟩ (.slice p n k)
  have h2 := hR.fiveO (d := ⟨Do, De, Di, Ds, Dm⟩) (x := .slice p n k) hN ⟨_, _, _, rfl⟩
  have h3 : Below wr.heap.size wr y := qx_trans (qx_drew (qx_alloc wr _)) hB
  have h4 := fiveC.below (g := wr.heap.size) (c := ⟨Do, De, Di, Ds, Dm⟩) (v := .slice p n k) h3 (Nat.le_refl _)
  exact ⟨wr.heap.size, .slice p n k, rfl, rfl, Nat.le_refl _, hide h1, hide h2, hide h4⟩
theorem piece_cutA {wr y : World} {Do De : Bool} {Di : ByteArray} {Dm code : Int} {Ds : List SL} {p : Option Addr} {n k : Nat} (hR : RowSl y (.slice p n k) Ds) (hB : Below wr.drew.heap.size wr.drew y) :
    ∃ (bx : Nat) (v' : Value), Value.pointer (some ⟨y.heap.size, 0, none⟩) = .pointer (some ⟨bx, 0, none⟩) ∧ Value.int .i64 code = .int .i64 code ∧ wr.heap.size ≤ bx ∧ Hid (CnB (y.alloc (.cells #[.bool Do, .bool De, .string Di, .slice p n k, .int .i64 Dm] 25)) bx ⟨Do, De, Di, Ds, Dm⟩ v') ∧ Hid (RowSl (y.alloc (.cells #[.bool Do, .bool De, .string Di, .slice p n k, .int .i64 Dm] 25)) v' Ds) ∧ Hid (Below wr.heap.size wr (y.alloc (.cells #[.bool Do, .bool De, .string Di, .slice p n k, .int .i64 Dm] 25))) := by
  have h3 : Below wr.heap.size wr y := qx_trans (qx_drew (Below.refl _ _)) hB
  exact ⟨y.heap.size, .slice p n k, rfl, rfl, h3.size, hide (CnB.new y ⟨Do, De, Di, Ds, Dm⟩ (.slice p n k) y.heap.size rfl), hide (hR.later (qx_alloc _ _)), hide (qx_al h3)⟩
/-- a law's connection that is asked for requests, and those read so far; all else below base is as it was in W0 -/
structure PcR (w W0 wr : World) (ob base : Nat) (c : CN) (f : Value) (l : List RQ) : Prop where
  var : ∃ v, CnB wr ob c v ∧ RowSl wr v c.s
  req : RqB wr base f l
  kp : ∀ k, k < base → k ≠ ob → wr.heap[k]? = W0.heap[k]?
  bel : Below w.heap.size w wr
  sz : base ≤ wr.heap.size
theorem PcR.later {w W0 wr u : World} {ob base : Nat} {c : CN} {f : Value} {l : List RQ} (h : PcR w W0 wr ob base c f l) (hb : Below wr.heap.size wr u) : PcR w W0 u ob base c f l := by
  obtain ⟨v, h1, h2⟩ := h.var
  exact ⟨⟨v, h1.later hb, h2.later hb⟩, h.req.later hb, fun k hk hko => (hb.block k (Nat.lt_of_lt_of_le hk h.sz)).trans (h.kp k hk hko), qx_trans h.bel hb, Nat.le_trans h.sz hb.size⟩
/-- where a call answered y-wards: the variable's new value lies in v' -/
theorem PcR.next {w W0 wr u : World} {ob base : Nat} {c d : CN} {f f' : Value} {l l' : List RQ} {v' : Value} (h : PcR w W0 wr ob base c f l) (hob : ob < base) (hwo : w.heap.size ≤ ob)
    (hq : RqB u base f' l') (hk : ∀ k, k < base → u.heap[k]? = wr.heap[k]?) (hz : base ≤ u.heap.size) (hr : RowSl u v' d.s) (hb : Below w.heap.size w u) : PcR w W0 (fiveC u ob d v') ob base d f' l' := by
  obtain ⟨v, hc, hrow⟩ := h.var
  have hcu : CnB u ob c v := by unfold CnB; rw [hk ob hob]; exact hc
  obtain ⟨p, n, k, hv, _⟩ : ∃ p n k, v = .slice p n k ∧ True := by
    obtain ⟨p, k, e, _⟩ := hrow.slice
    exact ⟨p, _, k, e, trivial⟩
  refine ⟨⟨v', hcu.five d v', hr.fiveO hcu ⟨p, n, k, hv⟩⟩, hq.kept fun j hj => fiveC_other _ _ _ _ _ (by have := (hq.own_lt j hj).1; omega), fun k hkb hko => (fiveC_other _ _ _ _ _ hko).trans ((hk k hkb).trans (h.kp k hkb hko)), ?_, ?_⟩
  · exact qx_set (qx_set (qx_set (qx_set (qx_set hb hwo) hwo) hwo) hwo) hwo
  · show base ≤ (fiveC u ob d v').heap.size
    unfold fiveC
    simpa using hz

set_option maxHeartbeats 2000000 in
set_option maxRecDepth 100000 in
theorem sameConn_same (c : CN) (v u : Value) (w : World) (hv : RowSl w v c.s) (hu : RowSl w u c.s) (hl6 : c.s.length ≤ 1000) :
    Calls Tryz.prog 21 #[cnV c v, cnV c u] w fun e w' => e = .returned (.bool true) ∧ Below w.heap.size w w' := by
  obtain ⟨p, cp, rfl, hp⟩ := hv.slice
  obtain ⟨q, cq, rfl, hq⟩ := hu.slice
  obtain ⟨o, e, i, s, n⟩ := c
  dsimp only [cnV] at *
  have HP := hide (fun (W : World) (hb : Below w.heap.size w W) k hk => two_slots rfl (hp.later hb) (hq.later hb) k hk)
  clear hv hu hp hq
  have b1 := (bool_nself o).1
  have b2 := (bool_nself e).1
  have q1 := qa_nself i
  have q2 := ql_nself i
  generalize hsl : s.length = l at *
  clear hsl
  have HW := hide (qx_al (o := .cells #[.bool o, .bool e, .string i, .slice q l cq, .int .i64 n] 25) (qx_alloc w (.cells #[.bool o, .bool e, .string i, .slice p l cp, .int .i64 n] 25)))
  have HX : Hid (((w.alloc (.cells #[.bool o, .bool e, .string i, .slice p l cp, .int .i64 n] 25)).alloc (.cells #[.bool o, .bool e, .string i, .slice q l cq, .int .i64 n] 25)).cell? ⟨w.heap.size, 3, none⟩ = some (.slice p l cp) ∧ ((w.alloc (.cells #[.bool o, .bool e, .string i, .slice p l cp, .int .i64 n] 25)).alloc (.cells #[.bool o, .bool e, .string i, .slice q l cq, .int .i64 n] 25)).cell? ⟨w.heap.size + 1, 3, none⟩ = some (.slice q l cq)) := hide (by constructor <;> simp)
  go_enter Tryz.func21, Tryz.ntmps21
  go_wp2
  generalize ((w.alloc (.cells #[.bool o, .bool e, .string i, .slice p l cp, .int .i64 n] 25)).alloc (.cells #[.bool o, .bool e, .string i, .slice q l cq, .int .i64 n] 25)) = W at *
  go_loopw [5] (fun x wx => ∃ k : Nat, k ≤ l ∧ x = .int .i64 k ∧ Hid (Below W.heap.size W wx)) (fun x _ => l - (intOf x).toNat)
  case atStart => exact ⟨0, by omega, rfl, hide (Below.refl _ _)⟩
  case round =>
    obtain ⟨k, hk, rfl, hnx⟩ := hrel
    have y1 := cell_later (unhide hnx) (unhide HX).1
    have y2 := cell_later (unhide hnx) (unhide HX).2
    by_cases hlt : k < l
    · obtain ⟨sq, sr, st, b, off, b', off', rfl, rfl, ⟨a0, a1, a2⟩, ⟨c0, c1, c2⟩⟩ := unhide HP wr (qx_trans (unhide HW) (unhide hnx)) k hlt
      have hlt' : (k : Int) < (l : Int) := by omega
      have b3 := (bool_nself sr).1
      have b4 := (bool_nself sr).2
      have q3 := qa_nself st
      have q4 := ql_nself st
      have q5 := qa_self st
      have q6 := ql_self st
      clear HP HX
      go_wp2
      go_quiet (fail)
      go_wp2
      go_roundw
      case rel => exact ⟨k + 1, by omega, by go_num, hide (below_drewN (unhide hnx) _)⟩
      case measure => simp [intOf]; omega
    · go_wp2
      go_ret
      exact ⟨rfl, qx_trans (unhide HW) (unhide hnx)⟩

end Go.Proofs.YthfoabcmgiiadaaGreatDoor

/- OrdV -/
namespace Go.Proofs.YthfoabcmgiiadaaGreatDoor
open Go Go.RowKit
set_option linter.unusedVariables false

/-- in whatever order; behind each operation that comes ahead of number f S holds -/
def AnyV (P : Program) (md : Region.Mode) (ops : Array Oper) (Q : Exit → Act → World → Prop) (S : World → Prop) (f : Nat) (n : Nat) (done : Array Bool) (a : Act) (w : World) : Prop :=
  match n with
  | 0 => Region.ready md ops done = [] ∧ Q .normal a w
  | m + 1 => (Region.ready md ops done = [] → Q .normal a w) ∧ ∀ j, j ∈ Region.ready md ops done → wpOp P ops Q j (fun b u => (done.getD f true = false → j ≠ f → S u) ∧ AnyV P md ops Q S f m (done.setIfInBounds j true) b u) a w

variable {P : Program} {ops : Array Oper} {Q : Exit → Act → World → Prop} {md : Region.Mode} {S : World → Prop} {f : Nat}

theorem AnyV.any : ∀ {n : Nat} {done : Array Bool} {a : Act} {w : World}, AnyV P md ops Q S f n done a w → wpAny P md ops Q n done a w := by
  intro n
  induction n with
  | zero => exact fun h => h
  | succ m ih => exact fun h => ⟨h.1, fun j hj => wpOp_mono (fun _ _ hk => ih hk.2) (h.2 j hj)⟩
theorem AnyV.done {done : Array Bool} {a : Act} {w : World} (hr : Region.ready md ops done = []) (h : Q .normal a w) (n : Nat) : AnyV P md ops Q S f n done a w := by
  cases n with
  | zero => exact ⟨hr, h⟩
  | succ m => exact ⟨fun _ => h, fun j hj => by rw [hr] at hj; cases hj⟩

theorem AnyV.first {i : Nat} {o : Oper} {v : Value} (hi : ops[i]? = some o) (hsel : ∀ (j : Nat) (p : Oper) cs b, ops[j]? = some p → p.op ≠ .select cs b) (hQ : ∀ c a w, Q (.panic c) (a.put o.dst v) w → Q (.panic c) a w) (hwt : Region.waitsFor md ops f i = true) {n : Nat} :
    ∀ {done : Array Bool} {a : Act} {w : World}, (∀ j p, ops[j]? = some p → j ≠ i → done.getD j true = false → (∀ e ∈ p.after, Region.binds md e = true → e.on ≠ i) → o.apart ops p = true) → i ∈ Region.ready md ops done → done.getD f true = false → YieldsIf P ops S o v a → S w →
      AnyV P md ops Q S f n (done.setIfInBounds i true) (a.put o.dst v) w → AnyV P md ops Q S f (n + 1) done a w := by
  obtain ⟨pf, hpf, ef, hef, hbf, hof⟩ := Region.waitsFor_spec hwt
  have hstep : ∀ {done : Array Bool} {j : Nat}, j ∈ Region.ready md ops done → i ∈ Region.ready md ops done → ∀ p, ops[j]? = some p → ∀ x ∈ p.after, Region.binds md x = true → x.on ≠ i := by
    intro done j hj hri p hp x hx hb hon
    obtain ⟨_, q, hq, hdeps⟩ := mem_ready.1 hj
    rw [hp] at hq
    cases hq
    have hd := hdeps x hx hb
    have hi0 := (mem_ready.1 hri).1
    rw [hon] at hd
    by_cases hlt : i < done.size
    · have h2 : done.getD i true = done.getD i false := by simp [Array.getD, hlt]
      rw [h2, hd] at hi0
      cases hi0
    · have h3 : done.getD i false = false := by simp [Array.getD, hlt]
      rw [h3] at hd
      cases hd
  induction n with
  | zero =>
    intro done a w hfr hri hdf hy hS H
    refine ⟨fun e => absurd hri (by rw [e]; simp), fun j hj => ?_⟩
    by_cases e : j = i
    · rw [e]; exact hy.wpOp hi hS ⟨fun _ _ => hS, H⟩
    · exact absurd (ready_mono hj e) (by rw [H.1]; simp)
  | succ m ih =>
    intro done a w hfr hri hdf hy hS H
    refine ⟨fun e => absurd hri (by rw [e]; simp), fun j hj => ?_⟩
    by_cases e : j = i
    · rw [e]; exact hy.wpOp hi hS ⟨fun _ _ => hS, H⟩
    have hj2 := H.2 j (ready_mono hj e)
    obtain ⟨hun, p, hp, _⟩ := mem_ready.1 hj
    have hidle := hstep hj hri p hp
    have hjf : j ≠ f := by
      intro h
      rw [h, hpf] at hp
      cases hp
      exact hidle ef hef hbf hof
    have hif : i ≠ f := by
      intro h
      have hfi : f ∈ Region.ready md ops done := by rw [← h]; exact hri
      exact hstep hfi hri pf hpf ef hef hbf hof
    have hdf2 : (done.setIfInBounds i true).getD f true = false := by rw [getD_set_ne true hif]; exact hdf
    have hput := wpOp_putIf hp (hfr j p hp e hun hidle) (fun cs b => hsel i o cs b hi) (fun cs b => hsel j p cs b hp) hQ hy hj2
    have hfr2 : ∀ k q, ops[k]? = some q → k ≠ i → (done.setIfInBounds j true).getD k true = false → (∀ x ∈ q.after, Region.binds md x = true → x.on ≠ i) → o.apart ops q = true := by
      intro k q hq hki hku hkd
      refine hfr k q hq hki ?_ hkd
      by_cases hjk : j = k
      · rw [← hjk]; exact hun
      · rwa [getD_set_ne true hjk] at hku
    refine wpOp_mono (fun b u hk => ?_) hput
    obtain ⟨hyb, hSb, hrest⟩ := hk
    have hSu := hSb hdf2 hjf
    refine ⟨fun _ _ => hSu, ih hfr2 (ready_mono hri (fun x => e x.symm)) (by rw [getD_set_ne true hjf]; exact hdf) hyb hSu ?_⟩
    rw [Array.setIfInBounds_comm _ _ e]
    exact hrest

/-- number i is taken first: a load, say -/
theorem AnyV.take {i : Nat} {o : Oper} {v : Value} {n : Nat} {done : Array Bool} {a : Act} {w : World} (hi : ops[i]? = some o) (hs : Region.noSelect ops = true) (hwt : Region.waitsFor md ops f i = true) (hdf : done.getD f true = false) (hf : Region.free md ops done i = true) (hr : (Region.ready md ops done).contains i = true)
    (hQ : ∀ c a w, Q (.panic c) (a.put o.dst v) w → Q (.panic c) a w) (hS : S w) (hy : YieldsIf P ops S o v a) (h : AnyV P md ops Q S f n (done.setIfInBounds i true) (a.put o.dst v) w) : AnyV P md ops Q S f (n + 1) done a w :=
  AnyV.first hi (Region.noSelect_spec hs) hQ hwt (Region.free_spec hi hf) (by simpa using hr) hdf hy hS h

/-- each of these comes up next -/
def AllV (P : Program) (md : Region.Mode) (ops : Array Oper) (Q : Exit → Act → World → Prop) (S : World → Prop) (f : Nat) (n : Nat) (done : Array Bool) (a : Act) (w : World) (l : List Nat) : Prop :=
  ∀ j ∈ l, wpOp P ops Q j (fun b u => (done.getD f true = false → j ≠ f → S u) ∧ AnyV P md ops Q S f n (done.setIfInBounds j true) b u) a w
theorem AllV.nil {n : Nat} {done : Array Bool} {a : Act} {w : World} : AllV P md ops Q S f n done a w [] := fun _ h => by cases h
theorem AllV.cons {n i : Nat} {o : Oper} {l : List Nat} {done : Array Bool} {a : Act} {w : World} (ho : ops[i]? = some o)
    (h : ∀ K : Act → World → Prop, Hid (∀ b u, (done.getD f true = false → i ≠ f → S u) → AnyV P md ops Q S f n (done.setIfInBounds i true) b u → K b u) → if Region.wanted o (yielded ops a.tmps) = true then Oper.wp P o a w K Q else K (a.put o.dst undef) w)
    (hs : AllV P md ops Q S f n done a w l) : AllV P md ops Q S f n done a w (i :: l) := by
  intro j hj
  rcases List.mem_cons.1 hj with e | hj
  · rw [e]
    exact wpOp_step ho (fun K hK => h K (fun b u h1 h2 => hK b u ⟨h1, h2⟩))
  · exact hs j hj
theorem AnyV.branch {l : List Nat} {n : Nat} {done : Array Bool} {a : Act} {w : World} (hr : Region.ready md ops done = l) (hne : l ≠ []) (h : AllV P md ops Q S f n done a w l) : AnyV P md ops Q S f (n + 1) done a w :=
  ⟨fun e => absurd (hr.symm.trans e) hne, fun j hj => h j (by rw [← hr]; exact hj)⟩
theorem wp_region_V {id : Nat} {a : Act} {w : World} (S : World → Prop) (f : Nat) (hm : P.follows .mixedOrders = true) (h : AnyV P .any ops Q S f ops.size (Array.replicate ops.size false) a w.drew) : (Code.region id ops true).wp P Q a w :=
  wp_region_any hm (AnyV.any h)

end Go.Proofs.YthfoabcmgiiadaaGreatDoor
