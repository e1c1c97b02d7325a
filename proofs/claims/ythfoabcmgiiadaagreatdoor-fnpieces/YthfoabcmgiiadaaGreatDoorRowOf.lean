/- A slice of bytes that came in has its bytes in cells. -/
import Derived.Test.YthfoabcmgiiadaaGreatDoorCFrame
import Derived.Test.YthfoabcmgiiadaaGreatDoorSrcWalk
namespace Go.Proofs.YthfoabcmgiiadaaGreatDoor
open Go.RowKit
set_option linter.unusedVariables false

theorem byteRow_of {w : World} {a : Option Addr} {len cap : Nat} {zs : List Int} (h : IsRow .u8 w a len cap zs) : ByteRow w a len := fun i hi => by
  rcases h with ⟨_, rfl, _, _⟩ | ⟨x, rfl, hl, hm, hz, hcell, hwz⟩
  · omega
  have hc0 := hcell 0 (by omega)
  obtain ⟨b, off, spot⟩ := x
  have hspot : spot = none := by simpa [Addr.add] using World.cell?_spot hc0
  subst hspot
  have hiz : i < zs.length := by omega
  have hw := bounds_u8 (hwz (zs.getD i 0) (by rw [List.getD_eq_getElem?_getD, List.getElem?_eq_getElem hiz]; simp))
  refine ⟨b, off, zs.getD i 0, rfl, ?_, hw.1, hw.2⟩
  have h9 := hcell i hiz
  by_cases hj0 : i = 0
  · rw [hj0] at h9 ⊢; simpa [Addr.add] using h9
  · simpa [Addr.add, hj0] using h9

end Go.Proofs.YthfoabcmgiiadaaGreatDoor
