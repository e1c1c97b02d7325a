/- The words of kinds and the counts of builtins: code and specification answer alike. -/
import Derived.Test.YtcdjdfmpnfodiaaDoorUnaryWalk
namespace Go.Proofs.YtcdjdfmpnfodiaaDoor
open Go.RowKit

def kindW (k : Int) : ByteArray := if k = 0 then ⟨#[110, 117, 108, 108]⟩ else if k = 1 then ⟨#[105, 110, 116]⟩ else if k = 2 then ⟨#[98, 111, 111, 108]⟩ else ⟨#[116, 101, 120, 116]⟩
theorem vok_kind {k n : Int} {t : ByteArray} (h : vokB k n t = true) : k = 0 ∨ k = 1 ∨ k = 2 ∨ k = 3 := by
  unfold vokB at h
  split at h
  · omega
  split at h
  · omega
  split at h
  · omega
  split at h
  · omega
  cases h














def cntP (l : List UInt8) : Int × Int :=
  if 65536 < l.length then (0, 2)
  else if l = [108, 101, 110] then (1, 0)
  else if l = [115, 116, 114] then (1, 0)
  else if l = [97, 98, 115] then (1, 0)
  else if l = [97, 116] then (2, 0)
  else if l = [109, 97, 120] then (2, 0)
  else if l = [109, 105, 110] then (2, 0)
  else if l = [99, 117, 116] then (3, 0)
  else (0, 5)

theorem len_toList' (s : ByteArray) : s.toList.length = s.size := by rw [ByteArray.toList_eq]; exact Array.length_toList






















end Go.Proofs.YtcdjdfmpnfodiaaDoor
