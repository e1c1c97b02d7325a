/- Rows of texts and numbers that are marked: only their own block changes. -/
import Derived.Test.YtfhjmmkpmjemoaaDoorTreeMark2
namespace Go.Proofs.YtfhjmmkpmjemoaaDoor
open Go.RowKit Go.Joins
set_option linter.unusedVariables false

/-- of what was there, only blocks from B on and below E may have changed -/
def Touch (B E : Nat) (w w' : World) : Prop := Below B w w' ∧ ∀ j, E ≤ j → j < w.heap.size → w'.heap[j]? = w.heap[j]?
theorem Touch.refl (B E : Nat) (w : World) : Touch B E w w := ⟨Below.refl _ _, fun _ _ _ => rfl⟩
theorem Touch.trans {B E : Nat} {a b c : World} (h : Touch B E a b) (h' : Touch B E b c) : Touch B E a c :=
  ⟨h.1.trans h'.1, fun j hj hl => by rw [h'.2 j hj (by have := h.1.size; omega), h.2 j hj hl]⟩
theorem Touch.wid {B E B' E' : Nat} {a b : World} (h : Touch B E a b) (hB : B' ≤ B) (hE : E ≤ E') : Touch B' E' a b :=
  ⟨h.1.mono hB, fun j hj hl => h.2 j (by omega) hl⟩
theorem Touch.of {B : Nat} (E : Nat) {a b : World} (h : Below a.heap.size a b) (hB : B ≤ a.heap.size) : Touch B E a b :=
  ⟨h.mono hB, fun j _ hl => h.block j hl⟩
theorem Touch.set {B E g o : Nat} {v : Value} {a b : World} (h : Touch B E a b) (hB : B ≤ g) (hE : g < E) : Touch B E a (b.setCell ⟨g, o, none⟩ v) :=
  ⟨h.1.setCell hB _, fun j hj hl => by rw [Below.heap_setCell b ⟨g, o, none⟩ v j (by show j ≠ g; omega), h.2 j hj hl]⟩
theorem Touch.else {B E j : Nat} {a b : World} (h : Touch B E a b) (hl : j < a.heap.size) (hj : j < B ∨ E ≤ j) : b.heap[j]? = a.heap[j]? := by
  rcases hj with hj | hj
  · exact h.1.block j hj
  · exact h.2 j hj hl
theorem RowSh.touch {B E g n : Nat} {t : TypeId} {a b : World} (h : RowSh a g t n) (ht : Touch B E a b) (hj : g < B ∨ E ≤ g) : RowSh b g t n := h.same (ht.else h.lt hj)

/-- the first k are marked -/
def MrkI (w : World) (g n : Nat) (k0 : Int) (k : Nat) : Prop := ∃ cs : Array Value, w.heap[g]? = some (.cells cs 3 (0, 0)) ∧ cs.size = n ∧ ∀ j, j < k → cs[j]? = some (.int .i64 (k0 + (j : Int)))
theorem MrkI.sh {w : World} {g n k : Nat} {k0 : Int} (h : MrkI w g n k0 k) : RowSh w g 3 n := by
  obtain ⟨cs, h1, h2, _⟩ := h
  exact ⟨cs, h1, h2⟩
theorem MrkI.zero {w : World} {g n : Nat} (k0 : Int) (h : RowSh w g 3 n) : MrkI w g n k0 0 := by
  obtain ⟨cs, h1, h2⟩ := h
  exact ⟨cs, h1, h2, fun j hj => by omega⟩
theorem MrkI.next {w : World} {g n k : Nat} {k0 : Int} (h : MrkI w g n k0 k) (hk : k < n) : MrkI (w.setCell ⟨g, k, none⟩ (.int .i64 (k0 + (k : Int)))) g n k0 (k + 1) := by
  obtain ⟨cs, h1, h2, h3⟩ := h
  refine ⟨_, block_setCell h1 _, by simp [h2], fun j hj => ?_⟩
  by_cases e : j = k
  · subst e
    simp [h2, hk]
  · have : k ≠ j := fun h => e h.symm
    simp [this]
    exact h3 j (by omega)
theorem MrkI.cell {w : World} {g n k j : Nat} {k0 : Int} (h : MrkI w g n k0 k) (hj : j < k) : w.cell? ⟨g, j, none⟩ = some (.int .i64 (k0 + (j : Int))) := by
  obtain ⟨cs, h1, h2, h3⟩ := h
  rw [cell_of_block h1, h3 j hj]

set_option maxHeartbeats 2000000 in
set_option maxRecDepth 100000 in
theorem markIntS_sh (g n cap : Nat) (k0 : Int) (w : World) (hrow : RowSh w g 3 n) (hn : n ≤ 1048576) (h0 : 0 ≤ k0) (h1 : k0 ≤ 4611686018427387904) :
    Calls Tryd.prog 36 #[.slice (some ⟨g, 0, none⟩) n cap, .int .i64 k0] w fun e w' => e = .returned (.int .i64 (k0 + (n : Int))) ∧ MrkI w' g n k0 n ∧ Touch g (g + 1) w w' := by
  have HM := hide (MrkI.zero k0 hrow)
  clear hrow
  go_enter Tryd.func36, Tryd.ntmps36
  go_wp2
  go_loopw [1, 5] (fun m i wx => ∃ k : Nat, k ≤ n ∧ i = .int .i64 k ∧ m = .int .i64 (k0 + (k : Int)) ∧ Hid (MrkI wx g n k0 k) ∧ Hid (Touch g (g + 1) w wx)) (fun _ i _ => n - (intOf i).toNat)
  case atStart => exact ⟨0, by omega, rfl, by simp, HM, hide (Touch.refl _ _ _)⟩
  case round =>
    clear HM
    obtain ⟨k, hk, rfl, rfl, hM, hT⟩ := hrel
    by_cases hlt : k < n
    · have HM2 := hide ((unhide hM).next hlt)
      have HT2 : Hid (Touch g (g + 1) w (wr.setCell ⟨g, k, none⟩ (.int .i64 (k0 + (k : Int))))) := hide ((unhide hT).set (Nat.le_refl _) (by omega))
      obtain ⟨u0, c0⟩ := (unhide hM).sh.cell hlt
      have f0 : wr.frozen? ⟨g, k, none⟩ = false := (unhide hM).sh.free
      clear hM hT
      go_wp2
      go_roundw
      case rel => exact ⟨k + 1, by omega, by go_num, int_eq (by omega), HM2, HT2⟩
      case measure => simp [intOf]; omega
    · obtain rfl : k = n := by omega
      go_wp2
      go_ret
      exact ⟨rfl, unhide hM, unhide hT⟩

set_option maxHeartbeats 2000000 in
set_option maxRecDepth 100000 in
theorem markStringS_sh (g n cap : Nat) (k0 : Int) (w : World) (hrow : RowSh w g 9 n) (hn : n ≤ 1048576) (h0 : 1 ≤ k0) (h1 : k0 ≤ 4611686018427387904) :
    Calls Tryd.prog 81 #[.slice (some ⟨g, 0, none⟩) n cap, .int .i64 k0] w fun e w' => e = .returned (.int .i64 (k0 + (n : Int))) ∧ RowSh w' g 9 n ∧ Touch g (g + 1) w w' := by
  have HM := hide hrow
  clear hrow
  go_enter Tryd.func81, Tryd.ntmps81
  go_wp2
  go_loopw [1, 5] (fun m i wx => ∃ k : Nat, k ≤ n ∧ i = .int .i64 k ∧ m = .int .i64 (k0 + (k : Int)) ∧ Hid (RowSh wx g 9 n) ∧ Hid (Touch g (g + 1) w wx)) (fun _ i _ => n - (intOf i).toNat)
  case atStart => exact ⟨0, by omega, rfl, by simp, HM, hide (Touch.refl _ _ _)⟩
  case round =>
    clear HM
    obtain ⟨k, hk, rfl, rfl, hM, hT⟩ := hrel
    by_cases hlt : k < n
    · go_wp2_with fail
      refine (markText_some _ _ (by omega) (by omega)).mono ?_
      rintro e w1 ⟨⟨t, rfl, hts⟩, hb1⟩
      have hM1 := hide ((unhide hM).later hb1)
      have hT1 := hide ((unhide hT).trans (Touch.of (g + 1) hb1 (Nat.le_of_lt (unhide hM).lt)))
      have HM2 : Hid (RowSh (w1.setCell ⟨g, k, none⟩ (.string t)) g 9 n) := hide (unhide hM1).put
      have HT2 : Hid (Touch g (g + 1) w (w1.setCell ⟨g, k, none⟩ (.string t))) := hide ((unhide hT1).set (Nat.le_refl _) (by omega))
      obtain ⟨u0, c0⟩ := (unhide hM1).cell hlt
      have f0 : w1.frozen? ⟨g, k, none⟩ = false := (unhide hM1).free
      clear hM hT hM1 hT1 hb1
      go_wp2
      go_roundw
      case rel => exact ⟨k + 1, by omega, by go_num, int_eq (by omega), HM2, HT2⟩
      case measure => simp [intOf]; omega
    · obtain rfl : k = n := by omega
      go_wp2
      go_ret
      exact ⟨rfl, unhide hM, unhide hT⟩
end Go.Proofs.YtfhjmmkpmjemoaaDoor
