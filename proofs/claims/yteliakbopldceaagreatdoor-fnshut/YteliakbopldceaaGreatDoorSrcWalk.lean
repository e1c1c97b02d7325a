/- The source of choices: what 'l00Src.byte' answers and writes. -/
import Derived.Test.YteliakbopldceaaGreatDoorLetters
import Derived.Test.YteliakbopldceaaGreatDoorUnary2
import Derived.Deep.QuietTactic
import Derived.BigQuiet
import Derived.RegionTactic
import Derived.ChangeAlike
namespace Go.Proofs.YteliakbopldceaaGreatDoor
open Go.RowKit
set_option linter.unusedVariables false

/-- the bytes of a slice lie in cells -/
def ByteRow (w : World) (a : Option Addr) (len : Nat) : Prop := ∀ i, i < len → ∃ (b off : Nat) (c : Int), a = some ⟨b, off, none⟩ ∧ w.cell? ⟨b, off + i, none⟩ = some (.int .u8 c) ∧ 0 ≤ c ∧ c ≤ 255
theorem ByteRow.later {w w' : World} {a : Option Addr} {len : Nat} (h : ByteRow w a len) (hb : Below w.heap.size w w') : ByteRow w' a len := fun i hi => by
  obtain ⟨b, off, c, h1, h2, h3⟩ := h i hi
  exact ⟨b, off, c, h1, cell_later hb h2, h3⟩
/-- a source of choices in block g: its bytes, how many were taken, its seed -/
structure SrcAt (w : World) (g : Nat) (a : Option Addr) (len cap : Nat) (at' seed : Int) : Prop where
  c0 : w.cell? ⟨g, 0, none⟩ = some (.slice a len cap)
  c1 : w.cell? ⟨g, 1, none⟩ = some (.int .i64 at')
  c2 : w.cell? ⟨g, 2, none⟩ = some (.int .i64 seed)
  z1 : w.frozen? ⟨g, 1, none⟩ = false
  z2 : w.frozen? ⟨g, 2, none⟩ = false
  s0 : 0 ≤ seed
  s1 : seed < 2147483648
  a0 : 0 ≤ at'
  a1 : at' ≤ 1000000000

/-- all but block g is as it was -/
structure OnlyAt (g : Nat) (w w' : World) : Prop where
  os : w'.os = w.os
  tape : w'.tape = w.tape
  output : w'.output = w.output
  size : w'.heap.size = w.heap.size
  block : ∀ k, k ≠ g → w'.heap[k]? = w.heap[k]?
theorem OnlyAt.refl (g : Nat) (w : World) : OnlyAt g w w := ⟨rfl, rfl, rfl, rfl, fun _ _ => rfl⟩
theorem OnlyAt.drew {g : Nat} {w w' : World} (h : OnlyAt g w w') : OnlyAt g w w'.drew := ⟨h.os, h.tape, h.output, h.size, h.block⟩
theorem OnlyAt.set {g o : Nat} {w w' : World} {v : Value} (h : OnlyAt g w w') : OnlyAt g w (w'.setCell ⟨g, o, none⟩ v) :=
  ⟨h.os, h.tape, h.output, by simp [h.size], fun k hk => (Below.heap_setCell w' ⟨g, o, none⟩ v k hk).trans (h.block k hk)⟩
theorem OnlyAt.trans {g : Nat} {a b c : World} (h : OnlyAt g a b) (k : OnlyAt g b c) : OnlyAt g a c :=
  ⟨k.os.trans h.os, k.tape.trans h.tape, k.output.trans h.output, k.size.trans h.size, fun i hi => (k.block i hi).trans (h.block i hi)⟩

theorem src_one {w : World} {g : Nat} {a : Option Addr} {len cap : Nat} {n seed : Int} (h : SrcAt w g a len cap n seed) (hn : n + 1 ≤ 1000000000) : SrcAt (w.setCell ⟨g, 1, none⟩ (.int .i64 (n + 1))) g a len cap (n + 1) seed where
  c0 := by rw [World.cell?_setCell_other _ _ _ _ (by simp)]; exact h.c0
  c1 := World.cell?_setCell_same' _ _ _ (by rw [h.c1]; rfl)
  c2 := by rw [World.cell?_setCell_other _ _ _ _ (by simp)]; exact h.c2
  z1 := by simpa using h.z1
  z2 := by simpa using h.z2
  s0 := h.s0
  s1 := h.s1
  a0 := by have := h.a0; omega
  a1 := hn
theorem src_two {w : World} {g : Nat} {a : Option Addr} {len cap : Nat} {n seed s' : Int} (h : SrcAt w g a len cap n seed) (h0 : 0 ≤ s') (h1 : s' < 2147483648) : SrcAt (w.setCell ⟨g, 2, none⟩ (.int .i64 s')) g a len cap n s' where
  c0 := by rw [World.cell?_setCell_other _ _ _ _ (by simp)]; exact h.c0
  c1 := by rw [World.cell?_setCell_other _ _ _ _ (by simp)]; exact h.c1
  c2 := World.cell?_setCell_same' _ _ _ (by rw [h.c2]; rfl)
  z1 := by simpa using h.z1
  z2 := by simpa using h.z2
  s0 := h0
  s1 := h1
  a0 := h.a0
  a1 := h.a1
theorem src_drew {w : World} {g : Nat} {a : Option Addr} {len cap : Nat} {n seed : Int} (h : SrcAt w g a len cap n seed) : SrcAt w.drew g a len cap n seed := ⟨h.c0, h.c1, h.c2, h.z1, h.z2, h.s0, h.s1, h.a0, h.a1⟩

/-- what a byte's drawing leaves -/
def Drawn (g : Nat) (a : Option Addr) (len cap : Nat) (n : Int) (w : World) (top : Int) (e : Ending) (w' : World) : Prop :=
  ∃ r s', e = .returned (.int .i64 r) ∧ 0 ≤ r ∧ r < top ∧ SrcAt w' g a len cap (n + 1) s' ∧ OnlyAt g w w'





theorem only_cell {g : Nat} {w w' : World} (h : OnlyAt g w w') {b o : Nat} (hb : b ≠ g) : w'.cell? ⟨b, o, none⟩ = w.cell? ⟨b, o, none⟩ := World.cell?_of_block (w := w) (h.block b hb)
theorem only_frozen {g : Nat} {w w' : World} (h : OnlyAt g w w') {b o : Nat} (hb : b ≠ g) : w'.frozen? ⟨b, o, none⟩ = w.frozen? ⟨b, o, none⟩ := World.frozen?_of_block (w := w) (h.block b hb)
theorem only_below {g B : Nat} {w w' : World} (h : OnlyAt g w w') (hB : B ≤ g) : Below B w w' := ⟨h.os, h.tape, h.output, by rw [h.size]; exact Nat.le_refl _, fun k hk => h.block k (by omega)⟩




end Go.Proofs.YteliakbopldceaaGreatDoor
