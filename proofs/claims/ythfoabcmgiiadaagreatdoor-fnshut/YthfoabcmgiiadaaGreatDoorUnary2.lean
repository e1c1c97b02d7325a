/- The operations with one operand: code and specification both answer 'unaryR'. -/
import Derived.Test.YthfoabcmgiiadaaGreatDoorUnaryWalk
namespace Go.Proofs.YthfoabcmgiiadaaGreatDoor
open Go.RowKit

def unaryR (op : List UInt8) (k n : Int) (t : ByteArray) : Res :=
  if 65536 < op.length then zeroR 2
  else if vokB k n t = false then zeroR 1
  else if op = [33] then boolR (!truthB n t)
  else if op = [45] then (if k = 1 then fitR (-n) else zeroR 8)
  else zeroR 3

theorem len_toList (s : ByteArray) : s.toList.length = s.size := by rw [ByteArray.toList_eq]; exact Array.length_toList
theorem vok_int {n : Int} {t : ByteArray} (h : vokB 1 n t = true) : -2147483648 ≤ n ∧ n ≤ 2147483647 := by simp [vokB] at h; omega





















end Go.Proofs.YthfoabcmgiiadaaGreatDoor
