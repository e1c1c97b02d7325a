/- Truth, bounds and the operations with one operand: code and specification answer the same plain function. -/
import Derived.Test.YthfoabcmgiiadaaGreatDoorValueLaws
namespace Go.Proofs.YthfoabcmgiiadaaGreatDoor
open Go.RowKit

theorem nx_al {a b : World} {o : Obj} (h : Below a.heap.size a b) : Below a.heap.size a (b.alloc o) := h.alloc h.size o
theorem nx_set {a b : World} {k o : Nat} {v : Value} (h : Below a.heap.size a b) (hk : a.heap.size ≤ k) : Below a.heap.size a (b.setCell ⟨k, o, none⟩ v) := h.setCell hk v

/-- an answer: a value's three fields and a code -/
structure Res where
  k : Int
  n : Int
  t : ByteArray
  c : Int

def zeroR (c : Int) : Res := ⟨0, 0, ⟨#[]⟩, c⟩
def intR (n : Int) : Res := ⟨1, n, ⟨#[]⟩, 0⟩
/-- a bool as a number -/
def bitI (b : Bool) : Int := if b = true then 1 else 0
def boolR (b : Bool) : Res := ⟨2, bitI b, ⟨#[]⟩, 0⟩
def textR (t : ByteArray) : Res := ⟨3, 0, t, 0⟩
def fitR (n : Int) : Res := if -2147483648 ≤ n ∧ n ≤ 2147483647 then intR n else zeroR 4
def truthB (n : Int) (t : ByteArray) : Bool := (n != 0) || !t.toList.isEmpty








theorem l01In_is (n low high : Int) (b : Bool) (w : World) (h : (decide (low ≤ n) && decide (n ≤ high)) = b) :
    Calls Tryz.prog 63 #[.int .i64 n, .int .i64 low, .int .i64 high] w fun e w' => e = .returned (.bool b) ∧ w' = w := h ▸ l01In_any n low high w






end Go.Proofs.YthfoabcmgiiadaaGreatDoor
