/- What values are: 'impl.ValueOK' and 'spec.ValueOK' both answer 'vokB'; they make memory and turn none that was there. -/
import Derived.Test.YthfoabcmgiiadaaGreatDoorLetters
import Derived.Laws.StructEq
import Derived.Deep.RegionWith
import Derived.Deep.RegionHeld3
namespace Go.Proofs.YthfoabcmgiiadaaGreatDoor
open Go.RowKit

/-- behind a call that turned nothing old: old cells and old marks read as before -/
theorem bcell {W w1 : World} (hb : Below W.heap.size W w1) : (∀ b o, b < W.heap.size → w1.cell? ⟨b, o, none⟩ = W.cell? ⟨b, o, none⟩) ∧ (∀ b o, b < W.heap.size → w1.frozen? ⟨b, o, none⟩ = W.frozen? ⟨b, o, none⟩) :=
  ⟨fun b o h => hb.cell (p := ⟨b, o, none⟩) h, fun b o h => hb.frozen (p := ⟨b, o, none⟩) h⟩

theorem nx_trans {a b c : World} (h : Below a.heap.size a b) (k : Below b.heap.size b c) : Below a.heap.size a c := h.trans (k.mono h.size)
theorem nx_alloc (w : World) (o : Obj) : Below w.heap.size w (w.alloc o) := (Below.refl _ _).alloc (Nat.le_refl _) _
theorem nx_drew {a b : World} (h : Below a.heap.size a b) : Below a.heap.size a b.drew := h.drew

/-- a right value -/
def vokB (k n : Int) (t : ByteArray) : Bool :=
  if k = 0 then decide (n = 0) && t.toList.isEmpty
  else if k = 1 then (decide (-2147483648 ≤ n) && decide (n ≤ 2147483647)) && t.toList.isEmpty
  else if k = 2 then (decide (0 ≤ n) && decide (n ≤ 1)) && t.toList.isEmpty
  else if k = 3 then decide (n = 0) && decide (t.size ≤ 60)
  else false

theorem l01In_any (n low high : Int) (w : World) :
    Calls Tryz.prog 63 #[.int .i64 n, .int .i64 low, .int .i64 high] w fun e w' => e = .returned (.bool (decide (low ≤ n) && decide (n ≤ high))) ∧ w' = w := by
  go_enter Tryz.func63, Tryz.ntmps63
  go_wp2
  all_goals
    go_ret
    refine ⟨ret_bool ?_, rfl⟩
    rw [Bool.eq_iff_iff]
    simp <;> omega


/-- the three makers of values -/
def intV (n : Int) : Value := .agg #[.int .i64 1, .int .i64 n, .string ⟨#[]⟩]
def boolV (b : Bool) : Value := .agg #[.int .i64 2, .int .i64 (if b = true then 1 else 0), .string ⟨#[]⟩]
def textV (t : ByteArray) : Value := .agg #[.int .i64 3, .int .i64 0, .string t]



















end Go.Proofs.YthfoabcmgiiadaaGreatDoor
