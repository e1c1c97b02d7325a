/- A mark's text, for any mark: some text. -/
import Derived.Test.YtbipgmikgokfpaaDoorTreeMark
import Derived.Laws.IdiomStrings
namespace Go.Proofs.YtbipgmikgokfpaaDoor
open Go.RowKit Go.Joins
set_option linter.unusedVariables false

theorem convM (u : World) (c : Int) (h0 : 0 ≤ c) (h1 : c ≤ 255) : (convert 22 9 (.slice (some ⟨u.heap.size, 0, none⟩) 1 1)).run Tryd.prog (u.alloc (.cells #[.int .u8 c] 5)) = .ok (.string ⟨#[UInt8.ofNat c.toNat]⟩) (u.alloc (.cells #[.int .u8 c] 5)) := by
  have h := run_convert_bytes_back (P := Tryd.prog) (u.alloc (.cells #[.int .u8 c] 5)) 22 9 5 ⟨u.heap.size, 0, none⟩ 1 [UInt8.ofNat c.toNat] Tryd.underlying22 Tryd.underlying5 Tryd.underlying9 (fun j hj => by
    obtain rfl : j = 0 := by simpa using hj
    rw [Addr.add_lit, Nat.add_zero, show (u.alloc (.cells #[.int .u8 c] 5)).cell? ⟨u.heap.size, 0, none⟩ = some (.int .u8 c) by simp]
    simp
    omega)
  exact h

/-- so far: what is left has no more digits than there is room for -/
def RoomAt (n s : Nat) : Prop := s ≤ 19 ∧ n < 10 ^ (19 - s)
theorem RoomAt.next {n s : Nat} (h : RoomAt n s) (h0 : 0 < n) : RoomAt (n / 10) (1 + s) := by
  obtain ⟨h1, h2⟩ := h
  by_cases hs : s = 19
  · subst hs; simp at h2; omega
  · refine ⟨by omega, ?_⟩
    have e : 19 - s = (19 - (1 + s)) + 1 := by omega
    rw [e, Nat.pow_succ] at h2
    exact Nat.div_lt_of_lt_mul (by rw [Nat.mul_comm]; exact h2)
theorem RoomAt.start {z : Int} (h0 : 1 ≤ z) (h1 : z ≤ 9223372036854775807) : RoomAt z.toNat 0 := ⟨by omega, by
  show z.toNat < 10 ^ 19
  have : (10 : Nat) ^ 19 = 10000000000000000000 := by decide
  omega⟩

set_option maxHeartbeats 2000000 in
set_option maxRecDepth 100000 in
theorem markText_some (z : Int) (w : World) (h0 : 1 ≤ z) (h1 : z ≤ 9223372036854775807) :
    Calls Tryd.prog 76 #[.int .i64 z] w fun e w' => (∃ t : ByteArray, e = .returned (.string t) ∧ t.size ≤ 20) ∧ Below w.heap.size w w' := by
  have hz : ¬ z ≤ 0 := by omega
  have hst : Hid (RoomAt z.toNat 0) := hide (RoomAt.start h0 h1)
  go_enter Tryd.func76, Tryd.ntmps76
  go_wp2
  go_loopw [0, 3] (fun m o wx => ∃ (n : Nat) (t : ByteArray), n ≤ 9223372036854775807 ∧ m = .int .i64 (n : Int) ∧ o = .string t ∧ Hid (RoomAt n t.size) ∧ Below w.heap.size w wx) (fun m _ _ => (intOf m).toNat)
  case atStart => exact ⟨z.toNat, ⟨#[]⟩, by omega, by rw [Int.toNat_of_nonneg (by omega)], rfl, hide (unhide hst), Below.refl _ _⟩
  case round =>
    clear hst hz
    obtain ⟨n, t, hn, rfl, rfl, hin, hnx⟩ := hrel
    have hts : t.size ≤ 19 := (unhide hin).1
    by_cases hp : 0 < n
    · have hp' : (0 : Int) < (n : Int) := by omega
      have hd := hide ((unhide hin).next hp)
      obtain ⟨r, hr⟩ : ∃ r, r = n % 10 := ⟨_, rfl⟩
      obtain ⟨q, hq⟩ : ∃ q, q = n / 10 := ⟨_, rfl⟩
      rw [← hq] at hd
      have hr9 : r ≤ 9 := by omega
      have hqn : q < n := by omega
      have hrm : (n : Int).tmod 10 = (r : Int) := by rw [Int.tmod_eq_emod_of_nonneg (by omega)]; omega
      have hqd : (n : Int).tdiv 10 = (q : Int) := by rw [Int.tdiv_eq_ediv_of_nonneg (by omega)]; omega
      have hw2 : IntKind.u8.wrap (48 + (r : Int)) = 48 + (r : Int) := by unfold IntKind.wrap; simp [IntKind.bits, IntKind.signed]; omega
      have hcv : ∀ u : World, (convert 22 9 (.slice (some ⟨u.heap.size, 0, none⟩) 1 1)).run Tryd.prog (u.alloc (.cells #[.int .u8 (48 + (r : Int))] 5)) = .ok (.string ⟨#[UInt8.ofNat (48 + r)]⟩) (u.alloc (.cells #[.int .u8 (48 + (r : Int))] 5)) := fun u => by
        rw [convM u (48 + (r : Int)) (by omega) (by omega), show (48 + (r : Int)).toNat = 48 + r by omega]
      have hzz : (⟨#[UInt8.ofNat (48 + r)]⟩ : ByteArray).size = 1 := rfl
      generalize (⟨#[UInt8.ofNat (48 + r)]⟩ : ByteArray) = D at hcv hzz
      have hsz : (D ++ t).size = 1 + t.size := by rw [ByteArray.size_append, hzz]
      rw [← hsz] at hd
      clear hr hq hsz
      go_wp2
      go_roundw
      case rel => exact ⟨q, _, by omega, rfl, rfl, hide (unhide hd), nx_al hnx⟩
      case measure => simp [intOf]; omega
    · have hp' : ¬ (0 : Int) < (n : Int) := by omega
      obtain rfl : n = 0 := by omega
      have hzz : (⟨#[109]⟩ : ByteArray).size = 1 := rfl
      have hsz : (⟨#[109]⟩ ++ t : ByteArray).size ≤ 20 := by rw [ByteArray.size_append, hzz]; omega
      go_wp2
      go_ret
      exact ⟨⟨_, rfl, hsz⟩, hnx⟩

/-- of what was there, only blocks from B on and below E may have changed -/
def Touch (B E : Nat) (w w' : World) : Prop := Below B w w' ∧ ∀ j, E ≤ j → j < w.heap.size → w'.heap[j]? = w.heap[j]?
theorem Touch.refl (B E : Nat) (w : World) : Touch B E w w := ⟨Below.refl _ _, fun _ _ _ => rfl⟩
theorem Touch.trans {B E : Nat} {a b c : World} (h : Touch B E a b) (h' : Touch B E b c) : Touch B E a c :=
  ⟨h.1.trans h'.1, fun j hj hl => by rw [h'.2 j hj (by have := h.1.size; omega), h.2 j hj hl]⟩
theorem Touch.wid {B E B' E' : Nat} {a b : World} (h : Touch B E a b) (hB : B' ≤ B) (hE : E ≤ E') : Touch B' E' a b :=
  ⟨h.1.mono hB, fun j hj hl => h.2 j (by omega) hl⟩
theorem Touch.of {B : Nat} (E : Nat) {a b : World} (h : Below a.heap.size a b) (hB : B ≤ a.heap.size) : Touch B E a b :=
  ⟨h.mono hB, fun j _ hl => h.block j hl⟩
theorem Touch.set {B E g o : Nat} {v : Value} {a b : World} (h : Touch B E a b) (hB : B ≤ g) (hE : g < E) : Touch B E a (b.setCell ⟨g, o, none⟩ v) :=
  ⟨h.1.setCell hB _, fun j hj hl => by rw [Below.heap_setCell b ⟨g, o, none⟩ v j (by show j ≠ g; omega), h.2 j hj hl]⟩
theorem Touch.else {B E j : Nat} {a b : World} (h : Touch B E a b) (hl : j < a.heap.size) (hj : j < B ∨ E ≤ j) : b.heap[j]? = a.heap[j]? := by
  rcases hj with hj | hj
  · exact h.1.block j hj
  · exact h.2 j hj hl
theorem RowSh.touch {B E g n : Nat} {t : TypeId} {a b : World} (h : RowSh a g t n) (ht : Touch B E a b) (hj : g < B ∨ E ≤ g) : RowSh b g t n := h.same (ht.else h.lt hj)

/-- the first k are marked -/
def MrkI (w : World) (g n : Nat) (k0 : Int) (k : Nat) : Prop := ∃ cs : Array Value, w.heap[g]? = some (.cells cs 3 (0, 0)) ∧ cs.size = n ∧ ∀ j, j < k → cs[j]? = some (.int .i64 (k0 + (j : Int)))
theorem MrkI.sh {w : World} {g n k : Nat} {k0 : Int} (h : MrkI w g n k0 k) : RowSh w g 3 n := by
  obtain ⟨cs, h1, h2, _⟩ := h
  exact ⟨cs, h1, h2⟩
theorem MrkI.zero {w : World} {g n : Nat} (k0 : Int) (h : RowSh w g 3 n) : MrkI w g n k0 0 := by
  obtain ⟨cs, h1, h2⟩ := h
  exact ⟨cs, h1, h2, fun j hj => by omega⟩
theorem MrkI.next {w : World} {g n k : Nat} {k0 : Int} (h : MrkI w g n k0 k) (hk : k < n) : MrkI (w.setCell ⟨g, k, none⟩ (.int .i64 (k0 + (k : Int)))) g n k0 (k + 1) := by
  obtain ⟨cs, h1, h2, h3⟩ := h
  refine ⟨_, block_setCell h1 _, by simp [h2], fun j hj => ?_⟩
  by_cases e : j = k
  · subst e
    simp [h2, hk]
  · have : k ≠ j := fun h => e h.symm
    simp [this]
    exact h3 j (by omega)
theorem MrkI.cell {w : World} {g n k j : Nat} {k0 : Int} (h : MrkI w g n k0 k) (hj : j < k) : w.cell? ⟨g, j, none⟩ = some (.int .i64 (k0 + (j : Int))) := by
  obtain ⟨cs, h1, h2, h3⟩ := h
  rw [cell_of_block h1, h3 j hj]

set_option maxHeartbeats 2000000 in
set_option maxRecDepth 100000 in
theorem markIntS_sh (g n cap : Nat) (k0 : Int) (w : World) (hrow : RowSh w g 3 n) (hn : n ≤ 1048576) (h0 : 0 ≤ k0) (h1 : k0 ≤ 4611686018427387904) :
    Calls Tryd.prog 37 #[.slice (some ⟨g, 0, none⟩) n cap, .int .i64 k0] w fun e w' => e = .returned (.int .i64 (k0 + (n : Int))) ∧ MrkI w' g n k0 n ∧ Touch g (g + 1) w w' := by
  have HM := hide (MrkI.zero k0 hrow)
  clear hrow
  go_enter Tryd.func37, Tryd.ntmps37
  go_wp2
  go_loopw [1, 5] (fun m i wx => ∃ k : Nat, k ≤ n ∧ i = .int .i64 k ∧ m = .int .i64 (k0 + (k : Int)) ∧ Hid (MrkI wx g n k0 k) ∧ Hid (Touch g (g + 1) w wx)) (fun _ i _ => n - (intOf i).toNat)
  case atStart => exact ⟨0, by omega, rfl, by simp, HM, hide (Touch.refl _ _ _)⟩
  case round =>
    clear HM
    obtain ⟨k, hk, rfl, rfl, hM, hT⟩ := hrel
    by_cases hlt : k < n
    · have HM2 := hide ((unhide hM).next hlt)
      have HT2 : Hid (Touch g (g + 1) w (wr.setCell ⟨g, k, none⟩ (.int .i64 (k0 + (k : Int))))) := hide ((unhide hT).set (Nat.le_refl _) (by omega))
      obtain ⟨u0, c0⟩ := (unhide hM).sh.cell hlt
      have f0 : wr.frozen? ⟨g, k, none⟩ = false := (unhide hM).sh.free
      clear hM hT
      go_wp2
      go_roundw
      case rel => exact ⟨k + 1, by omega, by go_num, int_eq (by omega), HM2, HT2⟩
      case measure => simp [intOf]; omega
    · obtain rfl : k = n := by omega
      go_wp2
      go_ret
      exact ⟨rfl, unhide hM, unhide hT⟩

set_option maxHeartbeats 2000000 in
set_option maxRecDepth 100000 in
theorem markStringS_sh (g n cap : Nat) (k0 : Int) (w : World) (hrow : RowSh w g 9 n) (hn : n ≤ 1048576) (h0 : 1 ≤ k0) (h1 : k0 ≤ 4611686018427387904) :
    Calls Tryd.prog 42 #[.slice (some ⟨g, 0, none⟩) n cap, .int .i64 k0] w fun e w' => e = .returned (.int .i64 (k0 + (n : Int))) ∧ RowSh w' g 9 n ∧ Touch g (g + 1) w w' := by
  have HM := hide hrow
  clear hrow
  go_enter Tryd.func42, Tryd.ntmps42
  go_wp2
  go_loopw [1, 5] (fun m i wx => ∃ k : Nat, k ≤ n ∧ i = .int .i64 k ∧ m = .int .i64 (k0 + (k : Int)) ∧ Hid (RowSh wx g 9 n) ∧ Hid (Touch g (g + 1) w wx)) (fun _ i _ => n - (intOf i).toNat)
  case atStart => exact ⟨0, by omega, rfl, by simp, HM, hide (Touch.refl _ _ _)⟩
  case round =>
    clear HM
    obtain ⟨k, hk, rfl, rfl, hM, hT⟩ := hrel
    by_cases hlt : k < n
    · go_wp2_with fail
      refine (markText_some _ _ (by omega) (by omega)).mono ?_
      rintro e w1 ⟨⟨t, rfl, hts⟩, hb1⟩
      have hM1 := hide ((unhide hM).later hb1)
      have hT1 := hide ((unhide hT).trans (Touch.of (g + 1) hb1 (Nat.le_of_lt (unhide hM).lt)))
      have HM2 : Hid (RowSh (w1.setCell ⟨g, k, none⟩ (.string t)) g 9 n) := hide (unhide hM1).put
      have HT2 : Hid (Touch g (g + 1) w (w1.setCell ⟨g, k, none⟩ (.string t))) := hide ((unhide hT1).set (Nat.le_refl _) (by omega))
      obtain ⟨u0, c0⟩ := (unhide hM1).cell hlt
      have f0 : w1.frozen? ⟨g, k, none⟩ = false := (unhide hM1).free
      clear hM hT hM1 hT1 hb1
      go_wp2
      go_roundw
      case rel => exact ⟨k + 1, by omega, by go_num, int_eq (by omega), HM2, HT2⟩
      case measure => simp [intOf]; omega
    · obtain rfl : k = n := by omega
      go_wp2
      go_ret
      exact ⟨rfl, unhide hM, unhide hT⟩

/-- a tree between marks: its rows may be written, and lie from B on, below E -/
structure Markg (w : World) (L : Lay) (ns : List TN) (g B E : Nat) : Prop where
  lo : B ≤ g
  hi : g < E
  fit : E ≤ w.heap.size
  sh : NodeSh w L ns g
  parts : ∀ i (h : i < ns.length), ∃ g1 g2, L.pn i = some ⟨g1, 0, none⟩ ∧ B ≤ g1 ∧ g1 < E ∧ RowSh w g1 9 ns[i].names.length ∧ L.pk i = some ⟨g2, 0, none⟩ ∧ B ≤ g2 ∧ g2 < E ∧ RowSh w g2 3 ns[i].kids.length
theorem MadR.markg {w : World} {L : Lay} {ns : List TN} {B E : Nat} (h : MadR w L ns B E) (hE : E ≤ w.heap.size) : ∃ g, L.p = some ⟨g, 0, none⟩ ∧ Markg w L ns g B E := by
  obtain ⟨g, e, h1, h2, h3⟩ := h.row
  exact ⟨g, e, h1, h2, hE, h3, h.parts⟩
theorem NodeSh.same {w w' : World} {L : Lay} {ns : List TN} {g : Nat} (h : NodeSh w L ns g) (hb : w'.heap[g]? = w.heap[g]?) : NodeSh w' L ns g := by
  obtain ⟨cs, h1, h2⟩ := h
  exact ⟨cs, by rw [hb]; exact h1, h2⟩
theorem Markg.later {w w' : World} {L : Lay} {ns : List TN} {g B E : Nat} (h : Markg w L ns g B E) (hb : Below w.heap.size w w') : Markg w' L ns g B E := by
  refine ⟨h.lo, h.hi, Nat.le_trans h.fit hb.size, h.sh.same (hb.block g (Nat.lt_of_lt_of_le h.hi h.fit)), fun i hi => ?_⟩
  obtain ⟨g1, g2, a, a1, a2, a3, b, b1, b2, b3⟩ := h.parts i hi
  exact ⟨g1, g2, a, a1, a2, a3.later hb, b, b1, b2, b3.later hb⟩
theorem Markg.store {w : World} {L : Lay} {ns : List TN} {g B E : Nat} (h : Markg w L ns g B E) (i j : Nat) (v : Value) (hj : j < 3) : Markg (w.setCell ⟨g, i * 5 + j, none⟩ v) L ns g B E := by
  refine ⟨h.lo, h.hi, by have := h.fit; simpa using this, ?_, fun i hi => ?_⟩
  · obtain ⟨cs, h1, h2, h3⟩ := h.sh
    refine ⟨_, block_setCell h1 _, by simp [h2], fun k hk => ?_⟩
    obtain ⟨c3, c4⟩ := h3 k hk
    have n3 : i * 5 + j ≠ k * 5 + 3 := by omega
    have n4 : i * 5 + j ≠ k * 5 + 4 := by omega
    exact ⟨by simp [n3]; exact c3, by simp [n4]; exact c4⟩
  · obtain ⟨g1, g2, a, a1, a2, a3, b, b1, b2, b3⟩ := h.parts i hi
    exact ⟨g1, g2, a, a1, a2, a3.put, b, b1, b2, b3.put⟩
theorem RowSh.unique {w : World} {g n n' : Nat} {t t' : TypeId} (h : RowSh w g t n) (h' : RowSh w g t' n') : t' = t ∧ n' = n := by
  obtain ⟨cs, h1, h2⟩ := h
  obtain ⟨cs', h1', h2'⟩ := h'
  rw [h1] at h1'
  injection h1' with e
  injection e with e1 e2 e3
  subst e1 e2
  exact ⟨rfl, by omega⟩
theorem RowSh.stay {w w' : World} {g g' n n' : Nat} {t t' : TypeId} (h : RowSh w g t n) (hd : RowSh w' g t n) (ht : Touch g (g + 1) w w') (h' : RowSh w g' t' n') : RowSh w' g' t' n' := by
  by_cases e : g' = g
  · subst e
    obtain ⟨rfl, rfl⟩ := h.unique h'
    exact hd
  · exact h'.touch ht (by omega)
theorem Markg.row {w w' : World} {L : Lay} {ns : List TN} {g B E g1 n : Nat} {t : TypeId} (h : Markg w L ns g B E) (hr : RowSh w g1 t n) (hd : RowSh w' g1 t n) (ht : Touch g1 (g1 + 1) w w') (hne : t ≠ 36) : Markg w' L ns g B E := by
  refine ⟨h.lo, h.hi, Nat.le_trans h.fit ht.1.size, h.sh.same (ht.else (Nat.lt_of_lt_of_le h.hi h.fit) ?_), fun i hi => ?_⟩
  · by_cases e : g = g1
    · subst e
      obtain ⟨cs, h1, h2, _⟩ := h.sh
      exact absurd (RowSh.unique (⟨cs, h1, rfl⟩ : RowSh w g 36 cs.size) hr).1 hne
    · omega
  · obtain ⟨g1, g2, a, a1, a2, a3, b, b1, b2, b3⟩ := h.parts i hi
    exact ⟨g1, g2, a, a1, a2, hr.stay hd ht a3, b, b1, b2, hr.stay hd ht b3⟩
theorem Markg.cell {w : World} {L : Lay} {ns : List TN} {g B E i : Nat} (h : Markg w L ns g B E) (hi : i < ns.length * 5) : ∃ v, w.cell? ⟨g, i, none⟩ = some v := by
  obtain ⟨cs, h1, h2, _⟩ := h.sh
  exact RowSh.cell (⟨cs, h1, rfl⟩ : RowSh w g 36 cs.size) (by omega)
theorem Markg.free {w : World} {L : Lay} {ns : List TN} {g B E : Nat} (h : Markg w L ns g B E) (i : Nat) : w.frozen? ⟨g, i, none⟩ = false := by
  obtain ⟨cs, h1, h2, _⟩ := h.sh
  exact unfrozen_of_block h1 i
theorem Markg.slices {w : World} {L : Lay} {ns : List TN} {g B E i : Nat} (h : Markg w L ns g B E) (hi : i < ns.length) : w.cell? ⟨g, i * 5 + 3, none⟩ = some (.slice (L.pn i) ns[i].names.length (L.cn i)) ∧ w.cell? ⟨g, i * 5 + 4, none⟩ = some (.slice (L.pk i) ns[i].kids.length (L.ck i)) := by
  obtain ⟨cs, h1, h2, h3⟩ := h.sh
  obtain ⟨c3, c4⟩ := h3 i hi
  exact ⟨by rw [cell_of_block h1, c3], by rw [cell_of_block h1, c4]⟩
theorem Markg.rows {w : World} {L : Lay} {ns : List TN} {g B E i g1 g2 : Nat} (h : Markg w L ns g B E) (hi : i < ns.length) (e1 : L.pn i = some ⟨g1, 0, none⟩) (e2 : L.pk i = some ⟨g2, 0, none⟩) : RowSh w g1 9 ns[i].names.length ∧ RowSh w g2 3 ns[i].kids.length := by
  obtain ⟨h1, h2, a, a1, a2, a3, b, b1, b2, b3⟩ := h.parts i hi
  rw [e1] at a
  rw [e2] at b
  injection a with a
  injection a with a _ _
  injection b with b
  injection b with b _ _
  subst a b
  exact ⟨a3, b3⟩

set_option maxHeartbeats 2000000 in
set_option maxRecDepth 100000 in
theorem heldIntS_sh (g n cap : Nat) (k0 : Int) (w : World) (hrow : MrkI w g n k0 n) (hn : n ≤ 1048576) (h0 : 0 ≤ k0) (h1 : k0 ≤ 4611686018427387904) :
    Calls Tryd.prog 38 #[.slice (some ⟨g, 0, none⟩) n cap, .int .i64 k0] w fun e w' => e = .returned (.int .i64 (k0 + (n : Int))) ∧ Below w.heap.size w w' := by
  have HM := hide hrow
  clear hrow
  go_enter Tryd.func38, Tryd.ntmps38
  go_wp2
  go_loopw [1, 5] (fun m i wx => ∃ k : Nat, k ≤ n ∧ i = .int .i64 k ∧ m = .int .i64 (k0 + (k : Int)) ∧ wx = w) (fun _ i _ => n - (intOf i).toNat)
  case atStart => exact ⟨0, by omega, rfl, by simp, rfl⟩
  case round =>
    obtain ⟨k, hk, rfl, rfl, rfl⟩ := hrel
    by_cases hlt : k < n
    · have c0 := (unhide HM).cell hlt
      go_wp2
      go_roundw
      case rel => exact ⟨k + 1, by omega, by go_num, int_eq (by omega), trivial⟩
      case measure => simp [intOf]; omega
    · obtain rfl : k = n := by omega
      go_wp2
      go_ret
      exact ⟨rfl, Below.refl _ _⟩

set_option maxHeartbeats 4000000 in
set_option maxRecDepth 100000 in
theorem markNodeS_sh (L : Lay) (ns : List TN) (g B E cap : Nat) (w : World) (hrow : Markg w L ns g B E) (hs : Small ns) :
    Calls Tryd.prog 74 #[.slice (some ⟨g, 0, none⟩) ns.length cap, .int .i64 1] w fun e w' => (∃ z : Int, e = .returned (.int .i64 z) ∧ 1 ≤ z ∧ z ≤ 1 + 2097155 * (ns.length : Int)) ∧ Touch B E w w' := by
  have HM := hide hrow
  have HS := hide hs.2
  have hn := hs.1
  clear hrow hs
  go_enter Tryd.func74, Tryd.ntmps74
  go_wp2
  go_loopw [1, 5] (fun m i wx => ∃ (k : Nat) (z : Int), k ≤ ns.length ∧ i = .int .i64 k ∧ m = .int .i64 z ∧ 1 ≤ z ∧ z ≤ 1 + 2097155 * (k : Int) ∧ Hid (Markg wx L ns g B E) ∧ Hid (Touch B E w wx)) (fun _ i _ => ns.length - (intOf i).toNat)
  case atStart => exact ⟨0, 1, by omega, rfl, rfl, by omega, by omega, HM, hide (Touch.refl _ _ _)⟩
  case round =>
    clear HM
    obtain ⟨k, z, hk, rfl, rfl, hz0, hz1, hM, hT⟩ := hrel
    by_cases hlt : k < ns.length
    · obtain ⟨g1, g2, e1, a1, a2, _, e2, b1, b2, _⟩ := (unhide hM).parts k hlt
      have hsm := unhide HS ns[k] (List.getElem_mem hlt)
      have HK : Hid (∀ wx : World, Markg wx L ns g B E → wx.cell? ⟨g, k * 5 + 3, none⟩ = some (.slice (some ⟨g1, 0, none⟩) ns[k].names.length (L.cn k)) ∧ wx.cell? ⟨g, k * 5 + 4, none⟩ = some (.slice (some ⟨g2, 0, none⟩) ns[k].kids.length (L.ck k)) ∧ RowSh wx g1 9 ns[k].names.length ∧ RowSh wx g2 3 ns[k].kids.length) := hide (fun wx hx => by
        have c := hx.slices hlt
        rw [e1, e2] at c
        exact ⟨c.1, c.2, hx.rows hlt e1 e2⟩)
      have hnl := hsm.2.1
      have hkl := hsm.2.2.1
      clear hsm e1 e2
      generalize ns[k].names.length = nl at HK hnl
      generalize ns[k].kids.length = kl at HK hkl
      generalize L.cn k = cn at HK
      generalize L.ck k = ck at HK
      obtain ⟨u0, c0⟩ := (unhide hM).cell (i := k * 5) (by omega)
      obtain ⟨u1, c1⟩ := (unhide hM).cell (i := k * 5 + 1) (by omega)
      have f0 := (unhide hM).free
      have hlo := (unhide hM).lo
      have hhi := (unhide hM).hi
      have HA : Hid (Markg ((wr.setCell ⟨g, k * 5, none⟩ (.int .i64 z)).setCell ⟨g, k * 5 + 1, none⟩ (.int .i64 (z + 1))) L ns g B E) := hide (((unhide hM).store k 0 _ (by omega)).store k 1 _ (by omega))
      have TA : Hid (Touch B E w ((wr.setCell ⟨g, k * 5, none⟩ (.int .i64 z)).setCell ⟨g, k * 5 + 1, none⟩ (.int .i64 (z + 1)))) := hide (((unhide hT).set hlo hhi).set hlo hhi)
      clear hM hT
      go_wp2_with fail
      refine (markText_some _ _ (by omega) (by omega)).mono ?_
      rintro e w1 ⟨⟨t, rfl, hts⟩, hb1⟩
      have H1 := hide ((unhide HA).later hb1)
      have T1 := hide ((unhide TA).trans (Touch.of E hb1 (Nat.le_trans hlo (Nat.le_trans (Nat.le_of_lt hhi) (unhide HA).fit))))
      have HB : Hid (Markg (w1.setCell ⟨g, k * 5 + 2, none⟩ (.string t)) L ns g B E) := hide ((unhide H1).store k 2 _ (by omega))
      have TB : Hid (Touch B E w (w1.setCell ⟨g, k * 5 + 2, none⟩ (.string t))) := hide ((unhide T1).set hlo hhi)
      obtain ⟨u2, c2⟩ := (unhide H1).cell (i := k * 5 + 2) (by omega)
      have f1 := (unhide H1).free
      have c3 := (unhide HK _ (unhide H1)).1
      have c3' := (unhide HK _ (unhide HB)).1
      clear H1 T1 hb1 HA TA c0 c1 f0
      go_wp2_with fail
      refine (markStringS_sh g1 nl cn _ _ (unhide HK _ (unhide HB)).2.2.1 hnl (by omega) (by omega)).mono ?_
      rintro e w2 ⟨rfl, hR2, hT2⟩
      have H2 := hide ((unhide HB).row (unhide HK _ (unhide HB)).2.2.1 hR2 hT2 (by decide))
      have T2 := hide ((unhide TB).trans (hT2.wid a1 (by omega)))
      have c4 := (unhide HK _ (unhide H2)).2.1
      clear HB TB hR2 hT2 c2 c3 c3' f1
      go_wp2_with fail
      refine (markIntS_sh g2 kl ck _ _ (unhide HK _ (unhide H2)).2.2.2 hkl (by omega) (by omega)).mono ?_
      rintro e w3 ⟨rfl, hR3, hT3⟩
      have H3 := hide ((unhide H2).row (unhide HK _ (unhide H2)).2.2.2 hR3.sh hT3 (by decide))
      have T3 := hide ((unhide T2).trans (hT3.wid b1 (by omega)))
      clear H2 T2 hR3 hT3 c4
      go_wp2
      go_roundw
      case rel => exact ⟨k + 1, _, by omega, by go_num, rfl, by omega, by omega, H3, T3⟩
      case measure => simp [intOf]; omega
    · obtain rfl : k = ns.length := by omega
      go_wp2
      go_ret
      exact ⟨⟨_, rfl, hz0, hz1⟩, unhide hT⟩

set_option maxHeartbeats 1000000 in
theorem markTree_sh (L : Lay) (ns : List TN) (cap : Nat) (root : Int) (B E : Nat) (w : World) (hrow : MadR w L ns B E) (hE : E ≤ w.heap.size) (hs : Small ns) :
    Calls Tryd.prog 36 #[.agg #[.slice L.p ns.length cap, .int .i64 root], .int .i64 1] w fun e w' => (∃ z : Int, e = .returned (.int .i64 z) ∧ 1 ≤ z ∧ z ≤ 1 + 2097155 * (ns.length : Int)) ∧ Touch B E w w' := by
  obtain ⟨g, hp, hM⟩ := hrow.markg hE
  rw [hp]
  have hB : B ≤ w.heap.size := Nat.le_trans hM.lo (Nat.le_trans (Nat.le_of_lt hM.hi) hM.fit)
  have HM := hide hM
  have HS := hide hs
  clear hrow hM hs hp
  go_enter Tryd.func36, Tryd.ntmps36
  go_wp2_with fail
  refine (markNodeS_sh L ns g B E cap _ ((unhide HM).later (nx_alloc _ _)) (unhide HS)).mono ?_
  rintro e w1 ⟨⟨z, rfl, hz0, hz1⟩, hT⟩
  have HT := hide ((Touch.of E (nx_alloc _ _) hB).trans hT)
  clear hT
  go_wp2
  go_ret
  exact ⟨⟨z, rfl, hz0, hz1⟩, unhide HT⟩

end Go.Proofs.YtbipgmikgokfpaaDoor
