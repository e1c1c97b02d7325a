/- A mark's text, for any mark: some text. -/
import Derived.Test.YtoehpjignngjlaaDoorTreeMark
import Derived.Laws.IdiomStrings
namespace Go.Proofs.YtoehpjignngjlaaDoor
open Go.RowKit Go.Joins
set_option linter.unusedVariables false

theorem convM (u : World) (c : Int) (h0 : 0 ≤ c) (h1 : c ≤ 255) : (convert 50 9 (.slice (some ⟨u.heap.size, 0, none⟩) 1 1)).run Tryd.prog (u.alloc (.cells #[.int .u8 c] 5)) = .ok (.string ⟨#[UInt8.ofNat c.toNat]⟩) (u.alloc (.cells #[.int .u8 c] 5)) := by
  have h := run_convert_bytes_back (P := Tryd.prog) (u.alloc (.cells #[.int .u8 c] 5)) 50 9 5 ⟨u.heap.size, 0, none⟩ 1 [UInt8.ofNat c.toNat] Tryd.underlying50 Tryd.underlying5 Tryd.underlying9 (fun j hj => by
    obtain rfl : j = 0 := by simpa using hj
    rw [Addr.add_lit, Nat.add_zero, show (u.alloc (.cells #[.int .u8 c] 5)).cell? ⟨u.heap.size, 0, none⟩ = some (.int .u8 c) by simp]
    simp
    omega)
  exact h

/-- so far: what is left has no more digits than there is room for -/
def RoomAt (n s : Nat) : Prop := s ≤ 19 ∧ n < 10 ^ (19 - s)
theorem RoomAt.next {n s : Nat} (h : RoomAt n s) (h0 : 0 < n) : RoomAt (n / 10) (1 + s) := by
  obtain ⟨h1, h2⟩ := h
  by_cases hs : s = 19
  · subst hs; simp at h2; omega
  · refine ⟨by omega, ?_⟩
    have e : 19 - s = (19 - (1 + s)) + 1 := by omega
    rw [e, Nat.pow_succ] at h2
    exact Nat.div_lt_of_lt_mul (by rw [Nat.mul_comm]; exact h2)
theorem RoomAt.start {z : Int} (h0 : 1 ≤ z) (h1 : z ≤ 9223372036854775807) : RoomAt z.toNat 0 := ⟨by omega, by
  show z.toNat < 10 ^ 19
  have : (10 : Nat) ^ 19 = 10000000000000000000 := by decide
  omega⟩

/-- of what was there, only blocks from B on and below E may have changed -/
def Touch (B E : Nat) (w w' : World) : Prop := Below B w w' ∧ ∀ j, E ≤ j → j < w.heap.size → w'.heap[j]? = w.heap[j]?
theorem Touch.refl (B E : Nat) (w : World) : Touch B E w w := ⟨Below.refl _ _, fun _ _ _ => rfl⟩
theorem Touch.trans {B E : Nat} {a b c : World} (h : Touch B E a b) (h' : Touch B E b c) : Touch B E a c :=
  ⟨h.1.trans h'.1, fun j hj hl => by rw [h'.2 j hj (by have := h.1.size; omega), h.2 j hj hl]⟩
theorem Touch.wid {B E B' E' : Nat} {a b : World} (h : Touch B E a b) (hB : B' ≤ B) (hE : E ≤ E') : Touch B' E' a b :=
  ⟨h.1.mono hB, fun j hj hl => h.2 j (by omega) hl⟩
theorem Touch.of {B : Nat} (E : Nat) {a b : World} (h : Below a.heap.size a b) (hB : B ≤ a.heap.size) : Touch B E a b :=
  ⟨h.mono hB, fun j _ hl => h.block j hl⟩
theorem Touch.set {B E g o : Nat} {v : Value} {a b : World} (h : Touch B E a b) (hB : B ≤ g) (hE : g < E) : Touch B E a (b.setCell ⟨g, o, none⟩ v) :=
  ⟨h.1.setCell hB _, fun j hj hl => by rw [Below.heap_setCell b ⟨g, o, none⟩ v j (by show j ≠ g; omega), h.2 j hj hl]⟩
theorem Touch.else {B E j : Nat} {a b : World} (h : Touch B E a b) (hl : j < a.heap.size) (hj : j < B ∨ E ≤ j) : b.heap[j]? = a.heap[j]? := by
  rcases hj with hj | hj
  · exact h.1.block j hj
  · exact h.2 j hj hl
theorem RowSh.touch {B E g n : Nat} {t : TypeId} {a b : World} (h : RowSh a g t n) (ht : Touch B E a b) (hj : g < B ∨ E ≤ g) : RowSh b g t n := h.same (ht.else h.lt hj)

/-- the first k are marked -/
def MrkI (w : World) (g n : Nat) (k0 : Int) (k : Nat) : Prop := ∃ cs : Array Value, w.heap[g]? = some (.cells cs 3 (0, 0)) ∧ cs.size = n ∧ ∀ j, j < k → cs[j]? = some (.int .i64 (k0 + (j : Int)))
theorem MrkI.sh {w : World} {g n k : Nat} {k0 : Int} (h : MrkI w g n k0 k) : RowSh w g 3 n := by
  obtain ⟨cs, h1, h2, _⟩ := h
  exact ⟨cs, h1, h2⟩
theorem MrkI.zero {w : World} {g n : Nat} (k0 : Int) (h : RowSh w g 3 n) : MrkI w g n k0 0 := by
  obtain ⟨cs, h1, h2⟩ := h
  exact ⟨cs, h1, h2, fun j hj => by omega⟩
theorem MrkI.next {w : World} {g n k : Nat} {k0 : Int} (h : MrkI w g n k0 k) (hk : k < n) : MrkI (w.setCell ⟨g, k, none⟩ (.int .i64 (k0 + (k : Int)))) g n k0 (k + 1) := by
  obtain ⟨cs, h1, h2, h3⟩ := h
  refine ⟨_, block_setCell h1 _, by simp [h2], fun j hj => ?_⟩
  by_cases e : j = k
  · subst e
    simp [h2, hk]
  · have : k ≠ j := fun h => e h.symm
    simp [this]
    exact h3 j (by omega)
theorem MrkI.cell {w : World} {g n k j : Nat} {k0 : Int} (h : MrkI w g n k0 k) (hj : j < k) : w.cell? ⟨g, j, none⟩ = some (.int .i64 (k0 + (j : Int))) := by
  obtain ⟨cs, h1, h2, h3⟩ := h
  rw [cell_of_block h1, h3 j hj]

/-- a tree between marks: its rows may be written, and lie from B on, below E -/
structure Markg (w : World) (L : Lay) (ns : List TN) (g B E : Nat) : Prop where
  lo : B ≤ g
  hi : g < E
  fit : E ≤ w.heap.size
  sh : NodeSh w L ns g
  parts : ∀ i (h : i < ns.length), ∃ g1 g2, L.pn i = some ⟨g1, 0, none⟩ ∧ B ≤ g1 ∧ g1 < E ∧ RowSh w g1 9 ns[i].names.length ∧ L.pk i = some ⟨g2, 0, none⟩ ∧ B ≤ g2 ∧ g2 < E ∧ RowSh w g2 3 ns[i].kids.length
theorem MadR.markg {w : World} {L : Lay} {ns : List TN} {B E : Nat} (h : MadR w L ns B E) (hE : E ≤ w.heap.size) : ∃ g, L.p = some ⟨g, 0, none⟩ ∧ Markg w L ns g B E := by
  obtain ⟨g, e, h1, h2, h3⟩ := h.row
  exact ⟨g, e, h1, h2, hE, h3, h.parts⟩
theorem NodeSh.same {w w' : World} {L : Lay} {ns : List TN} {g : Nat} (h : NodeSh w L ns g) (hb : w'.heap[g]? = w.heap[g]?) : NodeSh w' L ns g := by
  obtain ⟨cs, h1, h2⟩ := h
  exact ⟨cs, by rw [hb]; exact h1, h2⟩
theorem Markg.later {w w' : World} {L : Lay} {ns : List TN} {g B E : Nat} (h : Markg w L ns g B E) (hb : Below w.heap.size w w') : Markg w' L ns g B E := by
  refine ⟨h.lo, h.hi, Nat.le_trans h.fit hb.size, h.sh.same (hb.block g (Nat.lt_of_lt_of_le h.hi h.fit)), fun i hi => ?_⟩
  obtain ⟨g1, g2, a, a1, a2, a3, b, b1, b2, b3⟩ := h.parts i hi
  exact ⟨g1, g2, a, a1, a2, a3.later hb, b, b1, b2, b3.later hb⟩
theorem Markg.store {w : World} {L : Lay} {ns : List TN} {g B E : Nat} (h : Markg w L ns g B E) (i j : Nat) (v : Value) (hj : j < 3) : Markg (w.setCell ⟨g, i * 5 + j, none⟩ v) L ns g B E := by
  refine ⟨h.lo, h.hi, by have := h.fit; simpa using this, ?_, fun i hi => ?_⟩
  · obtain ⟨cs, h1, h2, h3⟩ := h.sh
    refine ⟨_, block_setCell h1 _, by simp [h2], fun k hk => ?_⟩
    obtain ⟨c3, c4⟩ := h3 k hk
    have n3 : i * 5 + j ≠ k * 5 + 3 := by omega
    have n4 : i * 5 + j ≠ k * 5 + 4 := by omega
    exact ⟨by simp [n3]; exact c3, by simp [n4]; exact c4⟩
  · obtain ⟨g1, g2, a, a1, a2, a3, b, b1, b2, b3⟩ := h.parts i hi
    exact ⟨g1, g2, a, a1, a2, a3.put, b, b1, b2, b3.put⟩
theorem RowSh.unique {w : World} {g n n' : Nat} {t t' : TypeId} (h : RowSh w g t n) (h' : RowSh w g t' n') : t' = t ∧ n' = n := by
  obtain ⟨cs, h1, h2⟩ := h
  obtain ⟨cs', h1', h2'⟩ := h'
  rw [h1] at h1'
  injection h1' with e
  injection e with e1 e2 e3
  subst e1 e2
  exact ⟨rfl, by omega⟩
theorem RowSh.stay {w w' : World} {g g' n n' : Nat} {t t' : TypeId} (h : RowSh w g t n) (hd : RowSh w' g t n) (ht : Touch g (g + 1) w w') (h' : RowSh w g' t' n') : RowSh w' g' t' n' := by
  by_cases e : g' = g
  · subst e
    obtain ⟨rfl, rfl⟩ := h.unique h'
    exact hd
  · exact h'.touch ht (by omega)
theorem Markg.row {w w' : World} {L : Lay} {ns : List TN} {g B E g1 n : Nat} {t : TypeId} (h : Markg w L ns g B E) (hr : RowSh w g1 t n) (hd : RowSh w' g1 t n) (ht : Touch g1 (g1 + 1) w w') (hne : t ≠ 42) : Markg w' L ns g B E := by
  refine ⟨h.lo, h.hi, Nat.le_trans h.fit ht.1.size, h.sh.same (ht.else (Nat.lt_of_lt_of_le h.hi h.fit) ?_), fun i hi => ?_⟩
  · by_cases e : g = g1
    · subst e
      obtain ⟨cs, h1, h2, _⟩ := h.sh
      exact absurd (RowSh.unique (⟨cs, h1, rfl⟩ : RowSh w g 42 cs.size) hr).1 hne
    · omega
  · obtain ⟨g1, g2, a, a1, a2, a3, b, b1, b2, b3⟩ := h.parts i hi
    exact ⟨g1, g2, a, a1, a2, hr.stay hd ht a3, b, b1, b2, hr.stay hd ht b3⟩
theorem Markg.cell {w : World} {L : Lay} {ns : List TN} {g B E i : Nat} (h : Markg w L ns g B E) (hi : i < ns.length * 5) : ∃ v, w.cell? ⟨g, i, none⟩ = some v := by
  obtain ⟨cs, h1, h2, _⟩ := h.sh
  exact RowSh.cell (⟨cs, h1, rfl⟩ : RowSh w g 42 cs.size) (by omega)
theorem Markg.free {w : World} {L : Lay} {ns : List TN} {g B E : Nat} (h : Markg w L ns g B E) (i : Nat) : w.frozen? ⟨g, i, none⟩ = false := by
  obtain ⟨cs, h1, h2, _⟩ := h.sh
  exact unfrozen_of_block h1 i
theorem Markg.slices {w : World} {L : Lay} {ns : List TN} {g B E i : Nat} (h : Markg w L ns g B E) (hi : i < ns.length) : w.cell? ⟨g, i * 5 + 3, none⟩ = some (.slice (L.pn i) ns[i].names.length (L.cn i)) ∧ w.cell? ⟨g, i * 5 + 4, none⟩ = some (.slice (L.pk i) ns[i].kids.length (L.ck i)) := by
  obtain ⟨cs, h1, h2, h3⟩ := h.sh
  obtain ⟨c3, c4⟩ := h3 i hi
  exact ⟨by rw [cell_of_block h1, c3], by rw [cell_of_block h1, c4]⟩
theorem Markg.rows {w : World} {L : Lay} {ns : List TN} {g B E i g1 g2 : Nat} (h : Markg w L ns g B E) (hi : i < ns.length) (e1 : L.pn i = some ⟨g1, 0, none⟩) (e2 : L.pk i = some ⟨g2, 0, none⟩) : RowSh w g1 9 ns[i].names.length ∧ RowSh w g2 3 ns[i].kids.length := by
  obtain ⟨h1, h2, a, a1, a2, a3, b, b1, b2, b3⟩ := h.parts i hi
  rw [e1] at a
  rw [e2] at b
  injection a with a
  injection a with a _ _
  injection b with b
  injection b with b _ _
  subst a b
  exact ⟨a3, b3⟩

end Go.Proofs.YtoehpjignngjlaaDoor
