/- Lists of what was sent: 'laws.szSentS', 'laws.toSentS', 'laws.eqSentS'; what SentTo and CountStatus answer, as functions. -/
import Derived.Test.YtcihmcgiokcibaaDoorWireMem
import Derived.Laws.MakeOwn
import Derived.Lib.SmallJoins
namespace Go.Proofs.YtcihmcgiokcibaaDoor
open Go.RowKit Go.Joins
set_option linter.unusedVariables false

/-- what was sent: a connection, bytes, whether it is shut -/
structure SV where
  c : Int
  t : ByteArray
  s : Bool
def encSV (v : SV) : List Value := [.int .i64 v.c, .string v.t, .bool v.s]

/-- values that came in: three cells each, from some place on -/
def SentsAt (w : World) (p : Option Addr) (vs : List SV) : Prop := ∀ i (h : i < vs.length), ∃ b off, p = some ⟨b, off, none⟩ ∧ b < w.heap.size ∧ w.cell? ⟨b, off + i * 3, none⟩ = some (.int .i64 vs[i].c) ∧ w.cell? ⟨b, off + i * 3 + 1, none⟩ = some (.string vs[i].t) ∧ w.cell? ⟨b, off + i * 3 + 2, none⟩ = some (.bool vs[i].s)
theorem SentsAt.later {w w' : World} {p : Option Addr} {vs : List SV} (h : SentsAt w p vs) (hb : Below w.heap.size w w') : SentsAt w' p vs := fun i hi => by
  obtain ⟨b, off, rfl, hlt, h0, h1, h2⟩ := h i hi
  exact ⟨b, off, rfl, Nat.lt_of_lt_of_le hlt hb.size, cell_later hb h0, cell_later hb h1, cell_later hb h2⟩

theorem szSent_yes (c : Int) (t : ByteArray) (s : Bool) (left : Int) (w : World) (h0 : left ≤ 1048576) (h : (t.size : Int) ≤ left) :
    Calls Tryd.prog 9 #[.agg #[.int .i64 c, .string t, .bool s], .int .i64 left] w fun e w' => e = .returned (.int .i64 (left - t.size)) ∧ Below w.heap.size w w' := by
  go_enter Tryd.func9, Tryd.ntmps9
  go_wp2
  go_ret
  exact ⟨rfl, qx_alloc _ _⟩
theorem szSent_no (c : Int) (t : ByteArray) (s : Bool) (left : Int) (w : World) (ht : t.size ≤ maxLen) (h0 : 0 ≤ left) (h1 : left ≤ 1048576) (h : left < (t.size : Int)) :
    Calls Tryd.prog 9 #[.agg #[.int .i64 c, .string t, .bool s], .int .i64 left] w fun e w' => e = .returned (.int .i64 (-1)) ∧ Below w.heap.size w w' := by
  unfold maxLen at ht
  go_enter Tryd.func9, Tryd.ntmps9
  go_wp2
  go_ret
  exact ⟨rfl, qx_alloc _ _⟩

/-- the bytes of all, together -/
def bytesS (vs : List SV) : Nat := (vs.map fun v => v.t.size).foldr (· + ·) 0
theorem bytesS_take {vs : List SV} {k : Nat} (h : k < vs.length) : bytesS (vs.take (k + 1)) = bytesS (vs.take k) + vs[k].t.size := by
  induction vs generalizing k with
  | nil => simp at h
  | cons v r ih => cases k with
    | zero => simp [bytesS]
    | succ k => have := ih (k := k) (by simpa using h); simp [bytesS] at this ⊢; omega

set_option maxHeartbeats 2000000 in
theorem szSentS_any (p : Option Addr) (vs : List SV) (cap : Nat) (w : World) (hrow : SentsAt w p vs) (hlen : vs.length ≤ 9223372036854775807) (hsz : ∀ v ∈ vs, v.t.size ≤ maxLen) :
    Calls Tryd.prog 4 #[.slice p vs.length cap, .int .i64 1048576] w fun e w' => ∃ r : Int, e = .returned (.int .i64 r) ∧ (r < 0 ∨ (0 ≤ r ∧ vs.length + bytesS vs ≤ 1048576)) ∧ Below w.heap.size w w' := by
  have HR := hide hrow
  have HS := hide hsz
  clear hrow hsz
  by_cases hl : 1048576 < vs.length
  · go_enter Tryd.func4, Tryd.ntmps4
    go_wp2
    go_ret
    exact ⟨-1, rfl, .inl (by omega), Below.refl _ _⟩
  go_enter Tryd.func4, Tryd.ntmps4
  go_wp2
  go_loopw [1, 5] (fun l i wx => ∃ (k : Nat) (left : Int), k ≤ vs.length ∧ i = .int .i64 k ∧ l = .int .i64 left ∧ 0 ≤ left ∧ left ≤ 1048576 ∧ Hid (left + (vs.length + bytesS (vs.take k) : Nat) = 1048576) ∧ Below w.heap.size w wx) (fun l i _ => vs.length - (intOf i).toNat)
  case atStart => exact ⟨0, 1048576 - (vs.length : Int), by omega, rfl, rfl, by omega, by omega, hide (by simp [bytesS]), Below.refl _ _⟩
  case round =>
    obtain ⟨k, left, hk, rfl, rfl, hl0, hl1, hsum, hnx⟩ := hrel
    by_cases hlt : k < vs.length
    · obtain ⟨b, off, rfl, _, q0, q1, q2⟩ := (unhide HR).later hnx k hlt
      have hsz := unhide HS vs[k] (List.getElem_mem hlt)
      have hst := hide (bytesS_take hlt)
      generalize vs[k].c = vc at q0
      generalize vs[k].t = vt at q1 hsz hst
      generalize vs[k].s = vs' at q2
      by_cases hy : (vt.size : Int) ≤ left
      · go_wp2_with fail
        refine (szSent_yes vc vt vs' left _ hl1 hy).mono ?_
        rintro e w1 ⟨rfl, hb1⟩
        go_wp2
        go_roundw
        case rel => exact ⟨k + 1, left - vt.size, by omega, by go_num, rfl, by omega, by omega, hide (by have h1 := unhide hsum; have h2 := unhide hst; rw [h2]; omega), qx_trans hnx hb1⟩
        case measure => simp [intOf]; omega
      · go_wp2_with fail
        refine (szSent_no vc vt vs' left _ hsz hl0 hl1 (by omega)).mono ?_
        rintro e w1 ⟨rfl, hb1⟩
        go_wp2
        go_ret
        exact ⟨-1, rfl, .inl (by omega), qx_trans hnx hb1⟩
    · go_wp2
      go_ret
      refine ⟨left, rfl, .inr ⟨hl0, ?_⟩, hnx⟩
      have h1 := unhide hsum
      rw [List.take_of_length_le (by omega)] at h1
      omega

/-- what lies in a block of one's own -/
def SArgs (w : World) (g : Nat) (vs : List SV) : Prop := g < w.heap.size ∧ ∀ i (h : i < vs.length), w.cell? ⟨g, i * 3, none⟩ = some (.int .i64 vs[i].c) ∧ w.cell? ⟨g, i * 3 + 1, none⟩ = some (.string vs[i].t) ∧ w.cell? ⟨g, i * 3 + 2, none⟩ = some (.bool vs[i].s)
theorem SArgs.sents {w : World} {g : Nat} {vs : List SV} (h : SArgs w g vs) : SentsAt w (some ⟨g, 0, none⟩) vs := fun i hi => ⟨g, 0, rfl, h.1, by simpa using (h.2 i hi).1, by simpa using (h.2 i hi).2.1, by simpa using (h.2 i hi).2.2⟩
theorem SArgs.later {w w' : World} {g : Nat} {vs : List SV} (h : SArgs w g vs) (hb : Below w.heap.size w w') : SArgs w' g vs :=
  ⟨Nat.lt_of_lt_of_le h.1 hb.size, fun i hi => ⟨cell_later hb (h.2 i hi).1, cell_later hb (h.2 i hi).2.1, cell_later hb (h.2 i hi).2.2⟩⟩
/-- the row that is made, filled up to k -/
def SFilled (w : World) (g : Nat) (vs : List SV) (k : Nat) : Prop := ∃ cs : Array Value, w.heap[g]? = some (.cells cs 34 (0, 0)) ∧ cs.size = vs.length * 3 ∧ ∀ i (h : i < vs.length), i < k → cs[i * 3]? = some (.int .i64 vs[i].c) ∧ cs[i * 3 + 1]? = some (.string vs[i].t) ∧ cs[i * 3 + 2]? = some (.bool vs[i].s)
theorem SFilled.later {w w' : World} {g : Nat} {vs : List SV} {k : Nat} (h : SFilled w g vs k) (hb : Below w.heap.size w w') (hg : g < w.heap.size) : SFilled w' g vs k := by
  obtain ⟨cs, h1, h2, h3⟩ := h
  exact ⟨cs, by rw [hb.block g hg]; exact h1, h2, h3⟩
theorem SFilled.cells {w : World} {g : Nat} {vs : List SV} {k : Nat} (h : SFilled w g vs k) (i : Nat) (hi : i < vs.length * 3) : ∃ v, w.cell? ⟨g, i, none⟩ = some v := by
  obtain ⟨cs, h1, h2, h3⟩ := h
  refine ⟨cs[i]'(by omega), ?_⟩
  rw [cell_of_block h1 i, Array.getElem?_eq_getElem (by omega)]
theorem SFilled.free {w : World} {g : Nat} {vs : List SV} {k : Nat} (h : SFilled w g vs k) (i : Nat) : w.frozen? ⟨g, i, none⟩ = false := by
  obtain ⟨cs, h1, h2, h3⟩ := h
  exact unfrozen_of_block h1 i
theorem SFilled.set {w : World} {g : Nat} {vs : List SV} {k : Nat} (h : SFilled w g vs k) (hk : k < vs.length) :
    SFilled (((w.setCell ⟨g, k * 3, none⟩ (.int .i64 vs[k].c)).setCell ⟨g, k * 3 + 1, none⟩ (.string vs[k].t)).setCell ⟨g, k * 3 + 2, none⟩ (.bool vs[k].s)) g vs (k + 1) := by
  obtain ⟨cs, h1, h2, h3⟩ := h
  refine ⟨_, block_setCell (block_setCell (block_setCell h1 _) _) _, by simp [h2], fun i hi hik => ?_⟩
  by_cases e : i = k
  · subst e
    refine ⟨?_, ?_, ?_⟩
    all_goals simp [Array.getElem?_setIfInBounds, h2]
    all_goals omega
  · obtain ⟨c0, c1, c2⟩ := h3 i hi (by omega)
    refine ⟨?_, ?_, ?_⟩
    · rw [Array.getElem?_setIfInBounds_ne (by omega), Array.getElem?_setIfInBounds_ne (by omega), Array.getElem?_setIfInBounds_ne (by omega), c0]
    · rw [Array.getElem?_setIfInBounds_ne (by omega), Array.getElem?_setIfInBounds_ne (by omega), Array.getElem?_setIfInBounds_ne (by omega), c1]
    · rw [Array.getElem?_setIfInBounds_ne (by omega), Array.getElem?_setIfInBounds_ne (by omega), Array.getElem?_setIfInBounds_ne (by omega), c2]
theorem SFilled.args {w : World} {g : Nat} {vs : List SV} (h : SFilled w g vs vs.length) : SArgs w g vs := by
  obtain ⟨cs, h1, h2, h3⟩ := h
  refine ⟨(Array.getElem?_eq_some_iff.1 h1).1, fun i hi => ?_⟩
  obtain ⟨c0, c1, c2⟩ := h3 i hi hi
  exact ⟨by rw [cell_of_block h1, c0], by rw [cell_of_block h1, c1], by rw [cell_of_block h1, c2]⟩

theorem toSent_any (c : Int) (t : ByteArray) (s : Bool) (w : World) :
    Calls Tryd.prog 13 #[.agg #[.int .i64 c, .string t, .bool s]] w fun e w' => e = .returned (.agg #[.int .i64 c, .string t, .bool s]) ∧ Below w.heap.size w w' := by
  go_enter Tryd.func13, Tryd.ntmps13
  go_wp2
  exact bodyPost_ret (v := .agg #[.int .i64 c, .string t, .bool s]) (by simp [results, Tryd.results13, go_sem]) rfl ⟨rfl, qx_trans (qx_trans (qx_alloc _ _) (qx_alloc _ _)) (qx_alloc _ _)⟩

set_option maxRecDepth 100000 in
theorem smade3 (n : Nat) (w : World) (hn : n ≤ 1048576) : (Instr.makeSlice 26 (.int .i64 (n : Int)) (.int .i64 (n : Int))).run Tryd.prog w = .ok (.slice (some ⟨w.heap.size, 0, none⟩) n n) (w.alloc (.cells (madeCells #[.int .i64 0, .string ⟨#[]⟩, .bool false] (n * 3)) 34)) := by
  have h := run_make (P := Tryd.prog) w 26 34 _ (.agg #[.int .i64 0, .string ⟨#[]⟩, .bool false]) Tryd.underlying26 rfl rfl .i64 .i64 (n : Int) (n : Int) (by omega) (Int.le_refl _) (by show (32 : Int) * (n : Int) ≤ 281474976710656; omega) (by omega)
  simp only [Int.toNat_natCast] at h
  exact h

set_option maxHeartbeats 4000000 in
theorem toSentS_any (p : Option Addr) (vs : List SV) (cap : Nat) (w : World) (hrow : SentsAt w p vs) (hlen : vs.length ≤ 1048576) :
    Calls Tryd.prog 6 #[.slice p vs.length cap] w fun e w' => e = .returned (.slice (some ⟨w.heap.size, 0, none⟩) vs.length vs.length) ∧ SArgs w' w.heap.size vs ∧ Below w.heap.size w w' := by
  have HR := hide hrow
  have hmk := smade3 vs.length w hlen
  have hF0 : Hid (SFilled (w.alloc (.cells (madeCells #[.int .i64 0, .string ⟨#[]⟩, .bool false] (vs.length * 3)) 34)) w.heap.size vs 0) := hide ⟨madeCells #[.int .i64 0, .string ⟨#[]⟩, .bool false] (vs.length * 3), by show (w.heap.push _)[w.heap.size]? = _; simp, size_madeCells _ _, fun i _ h => absurd h (by omega)⟩
  clear hrow
  go_enter Tryd.func6, Tryd.ntmps6
  go_wp2
  go_loopw [4] (fun i wx => ∃ k : Nat, k ≤ vs.length ∧ i = .int .i64 k ∧ Hid (SFilled wx w.heap.size vs k) ∧ w.heap.size < wx.heap.size ∧ Below w.heap.size w wx) (fun i _ => vs.length - (intOf i).toNat)
  case atStart => exact ⟨0, by omega, rfl, hF0, by simp, qx_alloc _ _⟩
  case round =>
    obtain ⟨k, hk, rfl, hF, hgl, hnx⟩ := hrel
    by_cases hlt : k < vs.length
    · obtain ⟨b, off, rfl, _, q0, q1, q2⟩ := (unhide HR).later hnx k hlt
      have HS := hide fun (x : World) (hx : SFilled x w.heap.size vs k) => hx.set hlt
      generalize vs[k].c = vc at q0 HS
      generalize vs[k].t = vt at q1 HS
      generalize vs[k].s = vb at q2 HS
      go_wp2_with fail
      refine (toSent_any vc vt vb _).mono ?_
      rintro e w1 ⟨rfl, hb1⟩
      have hF1 := (unhide hF).later hb1 hgl
      have hS := unhide HS w1 hF1
      obtain ⟨u0, c0⟩ := hF1.cells (k * 3) (by omega)
      obtain ⟨u1, c1⟩ := hF1.cells (k * 3 + 1) (by omega)
      obtain ⟨u2, c2⟩ := hF1.cells (k * 3 + 2) (by omega)
      have f0 := hF1.free (k * 3)
      have f1 := hF1.free (k * 3 + 1)
      have f2 := hF1.free (k * 3 + 2)
      have hg1 : w.heap.size < w1.heap.size := by have := hb1.size; omega
      have HF2 := hide hS
      clear hS hF1 hF
      go_wp2
      go_roundw
      case rel => exact ⟨k + 1, by omega, by go_num, HF2, by simp; omega, qx_set (qx_set (qx_set (qx_trans hnx hb1) (Nat.le_refl _)) (Nat.le_refl _)) (Nat.le_refl _)⟩
      case measure => simp [intOf]; omega
    · obtain rfl : k = vs.length := by omega
      go_wp2
      go_ret
      exact ⟨rfl, (unhide hF).args, hnx⟩

theorem eqSent_same (c : Int) (t : ByteArray) (s : Bool) (w : World) :
    Calls Tryd.prog 19 #[.agg #[.int .i64 c, .string t, .bool s], .agg #[.int .i64 c, .string t, .bool s]] w fun e w' => e = .returned (.bool true) ∧ Below w.heap.size w w' := by
  cases s with
  | true =>
    go_enter Tryd.func19, Tryd.ntmps19
    go_wp2
    go_ret
    exact ⟨rfl, qx_trans (qx_alloc _ _) (qx_alloc _ _)⟩
  | false =>
    go_enter Tryd.func19, Tryd.ntmps19
    go_wp2
    go_ret
    exact ⟨rfl, qx_trans (qx_alloc _ _) (qx_alloc _ _)⟩

set_option maxHeartbeats 4000000 in
theorem eqSentS_same (p q : Option Addr) (vs : List SV) (c d : Nat) (w : World) (hlen : vs.length ≤ 1048576) (ha : SentsAt w p vs) (hb : SentsAt w q vs) :
    Calls Tryd.prog 8 #[.slice p vs.length c, .slice q vs.length d] w fun e w' => e = .returned (.bool true) ∧ Below w.heap.size w w' := by
  have HA := hide ha
  have HB := hide hb
  clear ha hb
  go_enter Tryd.func8, Tryd.ntmps8
  go_wp2
  go_loopw [5] (fun i wx => ∃ k : Nat, k ≤ vs.length ∧ i = .int .i64 k ∧ Below w.heap.size w wx) (fun i _ => vs.length - (intOf i).toNat)
  case atStart => exact ⟨0, by omega, rfl, Below.refl _ _⟩
  case round =>
    obtain ⟨k, hk, rfl, hnx⟩ := hrel
    by_cases hlt : k < vs.length
    · obtain ⟨b1, o1, rfl, _, q0, q1, q2⟩ := (unhide HA).later hnx k hlt
      obtain ⟨b2, o2, rfl, _, r0, r1, r2⟩ := (unhide HB).later hnx k hlt
      generalize vs[k].c = vc at q0 r0
      generalize vs[k].t = vt at q1 r1
      generalize vs[k].s = vb at q2 r2
      go_wp2
      go_region_with (go_at_call 19; refine (eqSent_same vc vt vb _).mono ?_; rintro e y ⟨rfl, hbx⟩)
      all_goals go_wp2
      all_goals (go_roundw; (case rel => exact ⟨k + 1, by omega, by go_num, (by repeat (first | exact Below.refl _ _ | assumption | refine qx_al ?_ | refine qx_drew ?_ | refine qx_trans ?_ (by assumption)))⟩); (case measure => simp [intOf]; omega))
    · go_wp2
      go_ret
      exact ⟨rfl, hnx⟩

end Go.Proofs.YtcihmcgiokcibaaDoor
