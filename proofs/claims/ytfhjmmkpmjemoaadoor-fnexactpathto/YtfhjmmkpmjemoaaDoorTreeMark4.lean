/- Trees that are marked: only what was copied for them changes. -/
import Derived.Test.YtfhjmmkpmjemoaaDoorTreeMark3
namespace Go.Proofs.YtfhjmmkpmjemoaaDoor
open Go.RowKit Go.Joins
set_option linter.unusedVariables false

/-- a tree between marks: its rows may be written, and lie from B on, below E -/
structure Markg (w : World) (L : Lay) (ns : List TN) (g B E : Nat) : Prop where
  lo : B ≤ g
  hi : g < E
  fit : E ≤ w.heap.size
  sh : NodeSh w L ns g
  parts : ∀ i (h : i < ns.length), ∃ g1 g2, L.pn i = some ⟨g1, 0, none⟩ ∧ B ≤ g1 ∧ g1 < E ∧ RowSh w g1 9 ns[i].names.length ∧ L.pk i = some ⟨g2, 0, none⟩ ∧ B ≤ g2 ∧ g2 < E ∧ RowSh w g2 3 ns[i].kids.length
theorem MadR.markg {w : World} {L : Lay} {ns : List TN} {B E : Nat} (h : MadR w L ns B E) (hE : E ≤ w.heap.size) : ∃ g, L.p = some ⟨g, 0, none⟩ ∧ Markg w L ns g B E := by
  obtain ⟨g, e, h1, h2, h3⟩ := h.row
  exact ⟨g, e, h1, h2, hE, h3, h.parts⟩
theorem NodeSh.same {w w' : World} {L : Lay} {ns : List TN} {g : Nat} (h : NodeSh w L ns g) (hb : w'.heap[g]? = w.heap[g]?) : NodeSh w' L ns g := by
  obtain ⟨cs, h1, h2⟩ := h
  exact ⟨cs, by rw [hb]; exact h1, h2⟩
theorem Markg.later {w w' : World} {L : Lay} {ns : List TN} {g B E : Nat} (h : Markg w L ns g B E) (hb : Below w.heap.size w w') : Markg w' L ns g B E := by
  refine ⟨h.lo, h.hi, Nat.le_trans h.fit hb.size, h.sh.same (hb.block g (Nat.lt_of_lt_of_le h.hi h.fit)), fun i hi => ?_⟩
  obtain ⟨g1, g2, a, a1, a2, a3, b, b1, b2, b3⟩ := h.parts i hi
  exact ⟨g1, g2, a, a1, a2, a3.later hb, b, b1, b2, b3.later hb⟩
theorem Markg.store {w : World} {L : Lay} {ns : List TN} {g B E : Nat} (h : Markg w L ns g B E) (i j : Nat) (v : Value) (hj : j < 3) : Markg (w.setCell ⟨g, i * 5 + j, none⟩ v) L ns g B E := by
  refine ⟨h.lo, h.hi, by have := h.fit; simpa using this, ?_, fun i hi => ?_⟩
  · obtain ⟨cs, h1, h2, h3⟩ := h.sh
    refine ⟨_, block_setCell h1 _, by simp [h2], fun k hk => ?_⟩
    obtain ⟨c3, c4⟩ := h3 k hk
    have n3 : i * 5 + j ≠ k * 5 + 3 := by omega
    have n4 : i * 5 + j ≠ k * 5 + 4 := by omega
    exact ⟨by simp [n3]; exact c3, by simp [n4]; exact c4⟩
  · obtain ⟨g1, g2, a, a1, a2, a3, b, b1, b2, b3⟩ := h.parts i hi
    exact ⟨g1, g2, a, a1, a2, a3.put, b, b1, b2, b3.put⟩
theorem RowSh.unique {w : World} {g n n' : Nat} {t t' : TypeId} (h : RowSh w g t n) (h' : RowSh w g t' n') : t' = t ∧ n' = n := by
  obtain ⟨cs, h1, h2⟩ := h
  obtain ⟨cs', h1', h2'⟩ := h'
  rw [h1] at h1'
  injection h1' with e
  injection e with e1 e2 e3
  subst e1 e2
  exact ⟨rfl, by omega⟩
theorem RowSh.stay {w w' : World} {g g' n n' : Nat} {t t' : TypeId} (h : RowSh w g t n) (hd : RowSh w' g t n) (ht : Touch g (g + 1) w w') (h' : RowSh w g' t' n') : RowSh w' g' t' n' := by
  by_cases e : g' = g
  · subst e
    obtain ⟨rfl, rfl⟩ := h.unique h'
    exact hd
  · exact h'.touch ht (by omega)
theorem Markg.row {w w' : World} {L : Lay} {ns : List TN} {g B E g1 n : Nat} {t : TypeId} (h : Markg w L ns g B E) (hr : RowSh w g1 t n) (hd : RowSh w' g1 t n) (ht : Touch g1 (g1 + 1) w w') (hne : t ≠ 36) : Markg w' L ns g B E := by
  refine ⟨h.lo, h.hi, Nat.le_trans h.fit ht.1.size, h.sh.same (ht.else (Nat.lt_of_lt_of_le h.hi h.fit) ?_), fun i hi => ?_⟩
  · by_cases e : g = g1
    · subst e
      obtain ⟨cs, h1, h2, _⟩ := h.sh
      exact absurd (RowSh.unique (⟨cs, h1, rfl⟩ : RowSh w g 36 cs.size) hr).1 hne
    · omega
  · obtain ⟨g1, g2, a, a1, a2, a3, b, b1, b2, b3⟩ := h.parts i hi
    exact ⟨g1, g2, a, a1, a2, hr.stay hd ht a3, b, b1, b2, hr.stay hd ht b3⟩
theorem Markg.cell {w : World} {L : Lay} {ns : List TN} {g B E i : Nat} (h : Markg w L ns g B E) (hi : i < ns.length * 5) : ∃ v, w.cell? ⟨g, i, none⟩ = some v := by
  obtain ⟨cs, h1, h2, _⟩ := h.sh
  exact RowSh.cell (⟨cs, h1, rfl⟩ : RowSh w g 36 cs.size) (by omega)
theorem Markg.free {w : World} {L : Lay} {ns : List TN} {g B E : Nat} (h : Markg w L ns g B E) (i : Nat) : w.frozen? ⟨g, i, none⟩ = false := by
  obtain ⟨cs, h1, h2, _⟩ := h.sh
  exact unfrozen_of_block h1 i
theorem Markg.slices {w : World} {L : Lay} {ns : List TN} {g B E i : Nat} (h : Markg w L ns g B E) (hi : i < ns.length) : w.cell? ⟨g, i * 5 + 3, none⟩ = some (.slice (L.pn i) ns[i].names.length (L.cn i)) ∧ w.cell? ⟨g, i * 5 + 4, none⟩ = some (.slice (L.pk i) ns[i].kids.length (L.ck i)) := by
  obtain ⟨cs, h1, h2, h3⟩ := h.sh
  obtain ⟨c3, c4⟩ := h3 i hi
  exact ⟨by rw [cell_of_block h1, c3], by rw [cell_of_block h1, c4]⟩
theorem Markg.rows {w : World} {L : Lay} {ns : List TN} {g B E i g1 g2 : Nat} (h : Markg w L ns g B E) (hi : i < ns.length) (e1 : L.pn i = some ⟨g1, 0, none⟩) (e2 : L.pk i = some ⟨g2, 0, none⟩) : RowSh w g1 9 ns[i].names.length ∧ RowSh w g2 3 ns[i].kids.length := by
  obtain ⟨h1, h2, a, a1, a2, a3, b, b1, b2, b3⟩ := h.parts i hi
  rw [e1] at a
  rw [e2] at b
  injection a with a
  injection a with a _ _
  injection b with b
  injection b with b _ _
  subst a b
  exact ⟨a3, b3⟩

set_option maxHeartbeats 2000000 in
set_option maxRecDepth 100000 in
theorem heldIntS_sh (g n cap : Nat) (k0 : Int) (w : World) (hrow : MrkI w g n k0 n) (hn : n ≤ 1048576) (h0 : 0 ≤ k0) (h1 : k0 ≤ 4611686018427387904) :
    Calls Tryd.prog 37 #[.slice (some ⟨g, 0, none⟩) n cap, .int .i64 k0] w fun e w' => e = .returned (.int .i64 (k0 + (n : Int))) ∧ Below w.heap.size w w' := by
  have HM := hide hrow
  clear hrow
  go_enter Tryd.func37, Tryd.ntmps37
  go_wp2
  go_loopw [1, 5] (fun m i wx => ∃ k : Nat, k ≤ n ∧ i = .int .i64 k ∧ m = .int .i64 (k0 + (k : Int)) ∧ wx = w) (fun _ i _ => n - (intOf i).toNat)
  case atStart => exact ⟨0, by omega, rfl, by simp, rfl⟩
  case round =>
    obtain ⟨k, hk, rfl, rfl, rfl⟩ := hrel
    by_cases hlt : k < n
    · have c0 := (unhide HM).cell hlt
      go_wp2
      go_roundw
      case rel => exact ⟨k + 1, by omega, by go_num, int_eq (by omega), trivial⟩
      case measure => simp [intOf]; omega
    · obtain rfl : k = n := by omega
      go_wp2
      go_ret
      exact ⟨rfl, Below.refl _ _⟩
end Go.Proofs.YtfhjmmkpmjemoaaDoor
