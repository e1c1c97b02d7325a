/- Lists of tokens: 'laws.szTokenS', 'laws.toTokenS', 'laws.eqTokenS'. -/
import Derived.Test.YtckdacbopejdmaaDoorBuiltinWalk
import Derived.Test.YtckdacbopejdmaaDoorTokWalk2
import Derived.Laws.MakeOwn
import Derived.Lib.SmallJoins
namespace Go.Proofs.YtckdacbopejdmaaDoor
open Go.RowKit Go.Joins
set_option linter.unusedVariables false

/-- values that came in: three cells each, from some place on -/
def ToksAt (w : World) (p : Option Addr) (vs : List V3) : Prop := ∀ i (h : i < vs.length), ∃ b off, p = some ⟨b, off, none⟩ ∧ w.cell? ⟨b, off + i * 3, none⟩ = some (.int .i64 vs[i].k) ∧ w.cell? ⟨b, off + i * 3 + 1, none⟩ = some (.int .i64 vs[i].n) ∧ w.cell? ⟨b, off + i * 3 + 2, none⟩ = some (.string vs[i].t)
theorem ToksAt.later {w w' : World} {p : Option Addr} {vs : List V3} (h : ToksAt w p vs) (hb : Below w.heap.size w w') : ToksAt w' p vs := fun i hi => by
  obtain ⟨b, off, rfl, h0, h1, h2⟩ := h i hi
  exact ⟨b, off, rfl, cell_later hb h0, cell_later hb h1, cell_later hb h2⟩

set_option maxHeartbeats 2000000 in
theorem szTokenS_any (p : Option Addr) (vs : List V3) (cap : Nat) (w : World) (hrow : ToksAt w p vs) (hlen : vs.length ≤ 9223372036854775807) (hsz : ∀ v ∈ vs, v.t.size ≤ maxLen) :
    Calls Tryd.prog 32 #[.slice p vs.length cap, .int .i64 1048576] w fun e w' => ∃ r : Int, e = .returned (.int .i64 r) ∧ (r < 0 ∨ (0 ≤ r ∧ vs.length ≤ 1048576)) ∧ Below w.heap.size w w' := by
  have HR := hide hrow
  have HS := hide hsz
  clear hrow hsz
  by_cases hl : 1048576 < vs.length
  · go_enter Tryd.func32, Tryd.ntmps32
    go_wp2
    go_ret
    exact ⟨-1, rfl, .inl (by omega), Below.refl _ _⟩
  go_enter Tryd.func32, Tryd.ntmps32
  go_wp2
  go_loopw [1, 5] (fun l i wx => ∃ (k : Nat) (left : Int), k ≤ vs.length ∧ i = .int .i64 k ∧ l = .int .i64 left ∧ 0 ≤ left ∧ left ≤ 1048576 ∧ Below w.heap.size w wx) (fun l i _ => vs.length - (intOf i).toNat)
  case atStart => exact ⟨0, 1048576 - (vs.length : Int), by omega, rfl, rfl, by omega, by omega, Below.refl _ _⟩
  case round =>
    obtain ⟨k, left, hk, rfl, rfl, hl0, hl1, hnx⟩ := hrel
    by_cases hlt : k < vs.length
    · obtain ⟨b, off, rfl, q0, q1, q2⟩ := (unhide HR).later hnx k hlt
      have hsz := unhide HS vs[k] (List.getElem_mem hlt)
      generalize vs[k].k = vk at q0
      generalize vs[k].n = vn at q1
      generalize vs[k].t = vt at q2 hsz
      by_cases hy : (vt.size : Int) ≤ left
      · go_wp2_with fail
        refine (szToken_yes vk vn vt left _ hl1 hy).mono ?_
        rintro e w1 ⟨rfl, hb1⟩
        go_wp2
        go_roundw
        case rel => exact ⟨k + 1, left - vt.size, by omega, by go_num, rfl, by omega, by omega, nx_trans hnx hb1⟩
        case measure => simp [intOf]; omega
      · go_wp2_with fail
        refine (szToken_no vk vn vt left _ hsz hl0 hl1 (by omega)).mono ?_
        rintro e w1 ⟨rfl, hb1⟩
        go_wp2
        go_ret
        exact ⟨-1, rfl, .inl (by omega), nx_trans hnx hb1⟩
    · go_wp2
      go_ret
      exact ⟨left, rfl, .inr ⟨hl0, by omega⟩, hnx⟩

/-- the row that is made, filled up to k -/
def TFilled (w : World) (g : Nat) (vs : List V3) (k : Nat) : Prop := ∃ cs : Array Value, w.heap[g]? = some (.cells cs 44 (0, 0)) ∧ cs.size = vs.length * 3 ∧ ∀ i (h : i < vs.length), i < k → cs[i * 3]? = some (.int .i64 vs[i].k) ∧ cs[i * 3 + 1]? = some (.int .i64 vs[i].n) ∧ cs[i * 3 + 2]? = some (.string vs[i].t)
theorem TFilled.later {w w' : World} {g : Nat} {vs : List V3} {k : Nat} (h : TFilled w g vs k) (hb : Below w.heap.size w w') (hg : g < w.heap.size) : TFilled w' g vs k := by
  obtain ⟨cs, h1, h2, h3⟩ := h
  exact ⟨cs, by rw [hb.block g hg]; exact h1, h2, h3⟩
theorem TFilled.cells {w : World} {g : Nat} {vs : List V3} {k : Nat} (h : TFilled w g vs k) (i : Nat) (hi : i < vs.length * 3) : ∃ v, w.cell? ⟨g, i, none⟩ = some v := by
  obtain ⟨cs, h1, h2, h3⟩ := h
  refine ⟨cs[i]'(by omega), ?_⟩
  rw [cell_of_block h1 i, Array.getElem?_eq_getElem (by omega)]
theorem TFilled.free {w : World} {g : Nat} {vs : List V3} {k : Nat} (h : TFilled w g vs k) (i : Nat) : w.frozen? ⟨g, i, none⟩ = false := by
  obtain ⟨cs, h1, h2, h3⟩ := h
  exact unfrozen_of_block h1 i
theorem TFilled.set {w : World} {g : Nat} {vs : List V3} {k : Nat} (h : TFilled w g vs k) (hk : k < vs.length) :
    TFilled (((w.setCell ⟨g, k * 3, none⟩ (.int .i64 vs[k].k)).setCell ⟨g, k * 3 + 1, none⟩ (.int .i64 vs[k].n)).setCell ⟨g, k * 3 + 2, none⟩ (.string vs[k].t)) g vs (k + 1) := by
  obtain ⟨cs, h1, h2, h3⟩ := h
  refine ⟨_, block_setCell (block_setCell (block_setCell h1 _) _) _, by simp [h2], fun i hi hik => ?_⟩
  by_cases e : i = k
  · subst e
    refine ⟨?_, ?_, ?_⟩
    all_goals simp [Array.getElem?_setIfInBounds, h2]
    all_goals omega
  · obtain ⟨c0, c1, c2⟩ := h3 i hi (by omega)
    refine ⟨?_, ?_, ?_⟩
    · rw [Array.getElem?_setIfInBounds_ne (by omega), Array.getElem?_setIfInBounds_ne (by omega), Array.getElem?_setIfInBounds_ne (by omega), c0]
    · rw [Array.getElem?_setIfInBounds_ne (by omega), Array.getElem?_setIfInBounds_ne (by omega), Array.getElem?_setIfInBounds_ne (by omega), c1]
    · rw [Array.getElem?_setIfInBounds_ne (by omega), Array.getElem?_setIfInBounds_ne (by omega), Array.getElem?_setIfInBounds_ne (by omega), c2]
theorem TFilled.args {w : World} {g : Nat} {vs : List V3} (h : TFilled w g vs vs.length) : ArgsAt w g vs := fun i hi => by
  obtain ⟨cs, h1, h2, h3⟩ := h
  obtain ⟨c0, c1, c2⟩ := h3 i hi hi
  exact ⟨by rw [cell_of_block h1, c0], by rw [cell_of_block h1, c1], by rw [cell_of_block h1, c2]⟩

set_option maxRecDepth 100000 in
theorem tmade3 (n : Nat) (w : World) (hn : n ≤ 1048576) : (Instr.makeSlice 37 (.int .i64 (n : Int)) (.int .i64 (n : Int))).run Tryd.prog w = .ok (.slice (some ⟨w.heap.size, 0, none⟩) n n) (w.alloc (.cells (madeCells #[.int .i64 0, .int .i64 0, .string ⟨#[]⟩] (n * 3)) 44)) := by
  have h := run_make (P := Tryd.prog) w 37 44 _ (.agg #[.int .i64 0, .int .i64 0, .string ⟨#[]⟩]) Tryd.underlying37 rfl rfl .i64 .i64 (n : Int) (n : Int) (by omega) (Int.le_refl _) (by show (32 : Int) * (n : Int) ≤ 281474976710656; omega) (by omega)
  simp only [Int.toNat_natCast] at h
  exact h

set_option maxHeartbeats 4000000 in
theorem toTokenS_any (p : Option Addr) (vs : List V3) (cap : Nat) (w : World) (hrow : ToksAt w p vs) (hlen : vs.length ≤ 1048576) :
    Calls Tryd.prog 34 #[.slice p vs.length cap] w fun e w' => e = .returned (.slice (some ⟨w.heap.size, 0, none⟩) vs.length vs.length) ∧ ArgsAt w' w.heap.size vs ∧ Below w.heap.size w w' := by
  have HR := hide hrow
  have hmk := tmade3 vs.length w hlen
  have hF0 : Hid (TFilled (w.alloc (.cells (madeCells #[.int .i64 0, .int .i64 0, .string ⟨#[]⟩] (vs.length * 3)) 44)) w.heap.size vs 0) := hide ⟨madeCells #[.int .i64 0, .int .i64 0, .string ⟨#[]⟩] (vs.length * 3), by show (w.heap.push _)[w.heap.size]? = _; simp, size_madeCells _ _, fun i _ h => absurd h (by omega)⟩
  clear hrow
  go_enter Tryd.func34, Tryd.ntmps34
  go_wp2
  go_loopw [4] (fun i wx => ∃ k : Nat, k ≤ vs.length ∧ i = .int .i64 k ∧ Hid (TFilled wx w.heap.size vs k) ∧ w.heap.size < wx.heap.size ∧ Below w.heap.size w wx) (fun i _ => vs.length - (intOf i).toNat)
  case atStart => exact ⟨0, by omega, rfl, hF0, by simp, nx_alloc _ _⟩
  case round =>
    obtain ⟨k, hk, rfl, hF, hgl, hnx⟩ := hrel
    by_cases hlt : k < vs.length
    · obtain ⟨b, off, rfl, q0, q1, q2⟩ := (unhide HR).later hnx k hlt
      have HS := hide fun (x : World) (hx : TFilled x w.heap.size vs k) => hx.set hlt
      generalize vs[k].k = vk at q0 HS
      generalize vs[k].n = vn at q1 HS
      generalize vs[k].t = vt at q2 HS
      go_wp2_with fail
      refine (toToken_any vk vn vt _).mono ?_
      rintro e w1 ⟨rfl, hb1⟩
      have hF1 := (unhide hF).later hb1 hgl
      have hS := unhide HS w1 hF1
      obtain ⟨u0, c0⟩ := hF1.cells (k * 3) (by omega)
      obtain ⟨u1, c1⟩ := hF1.cells (k * 3 + 1) (by omega)
      obtain ⟨u2, c2⟩ := hF1.cells (k * 3 + 2) (by omega)
      have f0 := hF1.free (k * 3)
      have f1 := hF1.free (k * 3 + 1)
      have f2 := hF1.free (k * 3 + 2)
      have hg1 : w.heap.size < w1.heap.size := by have := hb1.size; omega
      have HF2 := hide hS
      clear hS hF1 hF
      go_wp2
      go_roundw
      case rel => exact ⟨k + 1, by omega, by go_num, HF2, by simp; omega, nx_set (nx_set (nx_set (nx_trans hnx hb1) (Nat.le_refl _)) (Nat.le_refl _)) (Nat.le_refl _)⟩
      case measure => simp [intOf]; omega
    · obtain rfl : k = vs.length := by omega
      go_wp2
      go_ret
      exact ⟨rfl, (unhide hF).args, hnx⟩

set_option maxHeartbeats 400000 in
theorem eqToken_same (k n : Int) (t : ByteArray) (w : World) :
    Calls Tryd.prog 59 #[.agg #[.int .i64 k, .int .i64 n, .string t], .agg #[.int .i64 k, .int .i64 n, .string t]] w fun e w' => e = .returned (.bool true) ∧ Below w.heap.size w w' := by
  go_enter Tryd.func59, Tryd.ntmps59
  go_wp2
  go_ret
  exact ⟨rfl, nx_trans (nx_alloc _ _) (nx_alloc _ _)⟩

theorem ArgsAt.toks {w : World} {g : Nat} {vs : List V3} (h : ArgsAt w g vs) : ToksAt w (some ⟨g, 0, none⟩) vs := fun i hi => ⟨g, 0, rfl, by simpa using (h i hi).1, by simpa using (h i hi).2.1, by simpa using (h i hi).2.2⟩

set_option maxHeartbeats 4000000 in
theorem eqTokenS_same (p q : Option Addr) (vs : List V3) (c d : Nat) (w : World) (hlen : vs.length ≤ 1048576) (ha : ToksAt w p vs) (hb : ToksAt w q vs) :
    Calls Tryd.prog 25 #[.slice p vs.length c, .slice q vs.length d] w fun e w' => e = .returned (.bool true) ∧ Below w.heap.size w w' := by
  have HA := hide ha
  have HB := hide hb
  clear ha hb
  go_enter Tryd.func25, Tryd.ntmps25
  go_wp2
  go_loopw [5] (fun i wx => ∃ k : Nat, k ≤ vs.length ∧ i = .int .i64 k ∧ Below w.heap.size w wx) (fun i _ => vs.length - (intOf i).toNat)
  case atStart => exact ⟨0, by omega, rfl, Below.refl _ _⟩
  case round =>
    obtain ⟨k, hk, rfl, hnx⟩ := hrel
    by_cases hlt : k < vs.length
    · obtain ⟨b1, o1, rfl, q0, q1, q2⟩ := (unhide HA).later hnx k hlt
      obtain ⟨b2, o2, rfl, r0, r1, r2⟩ := (unhide HB).later hnx k hlt
      generalize vs[k].k = vk at q0 r0
      generalize vs[k].n = vn at q1 r1
      generalize vs[k].t = vt at q2 r2
      go_wp2
      go_region_with (go_at_call 59; refine (eqToken_same vk vn vt _).mono ?_; rintro e y ⟨rfl, hbx⟩)
      all_goals go_wp2
      all_goals (go_roundw; (case rel => exact ⟨k + 1, by omega, by go_num, (by repeat (first | exact Below.refl _ _ | assumption | refine nx_al ?_ | refine nx_drew ?_ | refine nx_trans ?_ (by assumption)))⟩); (case measure => simp [intOf]; omega))
    · go_wp2
      go_ret
      exact ⟨rfl, hnx⟩

end Go.Proofs.YtckdacbopejdmaaDoor
