/- Machines that are copied: 'laws.toMachine'. -/
import Derived.Test.YtcdjdfmpnfodiaaDoorMach1
import Derived.Test.YtcdjdfmpnfodiaaDoorUnaryWalk
namespace Go.Proofs.YtcdjdfmpnfodiaaDoor
open Go.RowKit Go.Joins
set_option linter.unusedVariables false

/-- values, tries in a row of their own -/
def MValsG (w : World) (g : Nat) (vs : List MV) : Prop := ∀ i (h : i < vs.length), w.cell? ⟨g, i * 3, none⟩ = some (.int .i64 vs[i].k) ∧ w.cell? ⟨g, i * 3 + 1, none⟩ = some (.int .i64 vs[i].n) ∧ w.cell? ⟨g, i * 3 + 2, none⟩ = some (.string vs[i].t)
def MTriesG (w : World) (g : Nat) (ts : List MT) : Prop := ∀ i (h : i < ts.length), w.cell? ⟨g, i * 2, none⟩ = some (.int .i64 ts[i].a) ∧ w.cell? ⟨g, i * 2 + 1, none⟩ = some (.int .i64 ts[i].h)
theorem MValsG.later {w w' : World} {g : Nat} {vs : List MV} (h : MValsG w g vs) (hb : Below w.heap.size w w') : MValsG w' g vs := fun i hi => ⟨cell_later hb (h i hi).1, cell_later hb (h i hi).2.1, cell_later hb (h i hi).2.2⟩
theorem MTriesG.later {w w' : World} {g : Nat} {vs : List MT} (h : MTriesG w g vs) (hb : Below w.heap.size w w') : MTriesG w' g vs := fun i hi => ⟨cell_later hb (h i hi).1, cell_later hb (h i hi).2⟩
theorem MValsG.same {w w' : World} {g : Nat} {vs : List MV} (h : MValsG w g vs) (hb : w'.heap[g]? = w.heap[g]?) : MValsG w' g vs := fun i hi => by
  have e : ∀ o, w'.cell? ⟨g, o, none⟩ = w.cell? ⟨g, o, none⟩ := fun o => World.cell?_of_block hb
  exact ⟨by rw [e]; exact (h i hi).1, by rw [e]; exact (h i hi).2.1, by rw [e]; exact (h i hi).2.2⟩
theorem MTriesG.same {w w' : World} {g : Nat} {vs : List MT} (h : MTriesG w g vs) (hb : w'.heap[g]? = w.heap[g]?) : MTriesG w' g vs := fun i hi => by
  have e : ∀ o, w'.cell? ⟨g, o, none⟩ = w.cell? ⟨g, o, none⟩ := fun o => World.cell?_of_block hb
  exact ⟨by rw [e]; exact (h i hi).1, by rw [e]; exact (h i hi).2⟩
theorem MValsG.set {w : World} {g b o : Nat} {v : Value} {vs : List MV} (h : MValsG w g vs) (hb : g ≠ b) : MValsG (w.setCell ⟨b, o, none⟩ v) g vs := h.same (Below.heap_setCell w ⟨b, o, none⟩ v g hb)
theorem MTriesG.set {w : World} {g b o : Nat} {v : Value} {vs : List MT} (h : MTriesG w g vs) (hb : g ≠ b) : MTriesG (w.setCell ⟨b, o, none⟩ v) g vs := h.same (Below.heap_setCell w ⟨b, o, none⟩ v g hb)
theorem MValsG.at {w : World} {g : Nat} {vs : List MV} (h : MValsG w g vs) : MVals w (some ⟨g, 0, none⟩) vs := fun i hi => ⟨g, 0, rfl, by rw [Nat.zero_add]; exact (h i hi).1, by rw [Nat.zero_add]; exact (h i hi).2.1, by rw [Nat.zero_add]; exact (h i hi).2.2⟩
theorem MTriesG.at {w : World} {g : Nat} {vs : List MT} (h : MTriesG w g vs) : MTries w (some ⟨g, 0, none⟩) vs := fun i hi => ⟨g, 0, rfl, by rw [Nat.zero_add]; exact (h i hi).1, by rw [Nat.zero_add]; exact (h i hi).2⟩

/-- rows that are made, filled up to k -/
def FillMV (w : World) (g : Nat) (vs : List MV) (k : Nat) : Prop := ∃ cs : Array Value, w.heap[g]? = some (.cells cs 33 (0, 0)) ∧ cs.size = vs.length * 3 ∧ ∀ i (h : i < vs.length), i < k → cs[i * 3]? = some (.int .i64 vs[i].k) ∧ cs[i * 3 + 1]? = some (.int .i64 vs[i].n) ∧ cs[i * 3 + 2]? = some (.string vs[i].t)
theorem FillMV.later {w w' : World} {g : Nat} {vs : List MV} {k : Nat} (h : FillMV w g vs k) (hb : Below w.heap.size w w') (hg : g < w.heap.size) : FillMV w' g vs k := by
  obtain ⟨cs, h1, h2, h3⟩ := h
  exact ⟨cs, by rw [hb.block g hg]; exact h1, h2, h3⟩
theorem FillMV.cells {w : World} {g : Nat} {vs : List MV} {k : Nat} (h : FillMV w g vs k) (i : Nat) (hi : i < vs.length * 3) : ∃ v, w.cell? ⟨g, i, none⟩ = some v := by
  obtain ⟨cs, h1, h2, h3⟩ := h
  refine ⟨cs[i]'(by omega), ?_⟩
  rw [cell_of_block h1 i, Array.getElem?_eq_getElem (by omega)]
theorem FillMV.free {w : World} {g : Nat} {vs : List MV} {k : Nat} (h : FillMV w g vs k) (i : Nat) : w.frozen? ⟨g, i, none⟩ = false := by
  obtain ⟨cs, h1, h2, h3⟩ := h
  exact unfrozen_of_block h1 i
theorem FillMV.set {w : World} {g : Nat} {vs : List MV} {k : Nat} (h : FillMV w g vs k) (hk : k < vs.length) :
    FillMV (((w.setCell ⟨g, k * 3, none⟩ (.int .i64 vs[k].k)).setCell ⟨g, k * 3 + 1, none⟩ (.int .i64 vs[k].n)).setCell ⟨g, k * 3 + 2, none⟩ (.string vs[k].t)) g vs (k + 1) := by
  obtain ⟨cs, h1, h2, h3⟩ := h
  refine ⟨_, block_setCell (block_setCell (block_setCell h1 _) _) _, by simp [h2], fun i hi hik => ?_⟩
  by_cases e : i = k
  · subst e
    refine ⟨?_, ?_, ?_⟩
    all_goals simp [Array.getElem?_setIfInBounds, h2]
    all_goals omega
  · obtain ⟨c0, c1, c2⟩ := h3 i hi (by omega)
    refine ⟨?_, ?_, ?_⟩
    · rw [Array.getElem?_setIfInBounds_ne (by omega), Array.getElem?_setIfInBounds_ne (by omega), Array.getElem?_setIfInBounds_ne (by omega), c0]
    · rw [Array.getElem?_setIfInBounds_ne (by omega), Array.getElem?_setIfInBounds_ne (by omega), Array.getElem?_setIfInBounds_ne (by omega), c1]
    · rw [Array.getElem?_setIfInBounds_ne (by omega), Array.getElem?_setIfInBounds_ne (by omega), Array.getElem?_setIfInBounds_ne (by omega), c2]
theorem FillMV.row {w : World} {g : Nat} {vs : List MV} (h : FillMV w g vs vs.length) : MValsG w g vs := fun i hi => by
  obtain ⟨cs, h1, h2, h3⟩ := h
  obtain ⟨c0, c1, c2⟩ := h3 i hi hi
  exact ⟨by rw [cell_of_block h1, c0], by rw [cell_of_block h1, c1], by rw [cell_of_block h1, c2]⟩
def FillMT (w : World) (g : Nat) (vs : List MT) (k : Nat) : Prop := ∃ cs : Array Value, w.heap[g]? = some (.cells cs 81 (0, 0)) ∧ cs.size = vs.length * 2 ∧ ∀ i (h : i < vs.length), i < k → cs[i * 2]? = some (.int .i64 vs[i].a) ∧ cs[i * 2 + 1]? = some (.int .i64 vs[i].h)
theorem FillMT.later {w w' : World} {g : Nat} {vs : List MT} {k : Nat} (h : FillMT w g vs k) (hb : Below w.heap.size w w') (hg : g < w.heap.size) : FillMT w' g vs k := by
  obtain ⟨cs, h1, h2, h3⟩ := h
  exact ⟨cs, by rw [hb.block g hg]; exact h1, h2, h3⟩
theorem FillMT.cells {w : World} {g : Nat} {vs : List MT} {k : Nat} (h : FillMT w g vs k) (i : Nat) (hi : i < vs.length * 2) : ∃ v, w.cell? ⟨g, i, none⟩ = some v := by
  obtain ⟨cs, h1, h2, h3⟩ := h
  refine ⟨cs[i]'(by omega), ?_⟩
  rw [cell_of_block h1 i, Array.getElem?_eq_getElem (by omega)]
theorem FillMT.free {w : World} {g : Nat} {vs : List MT} {k : Nat} (h : FillMT w g vs k) (i : Nat) : w.frozen? ⟨g, i, none⟩ = false := by
  obtain ⟨cs, h1, h2, h3⟩ := h
  exact unfrozen_of_block h1 i
theorem FillMT.set {w : World} {g : Nat} {vs : List MT} {k : Nat} (h : FillMT w g vs k) (hk : k < vs.length) :
    FillMT ((w.setCell ⟨g, k * 2, none⟩ (.int .i64 vs[k].a)).setCell ⟨g, k * 2 + 1, none⟩ (.int .i64 vs[k].h)) g vs (k + 1) := by
  obtain ⟨cs, h1, h2, h3⟩ := h
  refine ⟨_, block_setCell (block_setCell h1 _) _, by simp [h2], fun i hi hik => ?_⟩
  by_cases e : i = k
  · subst e
    refine ⟨?_, ?_⟩
    all_goals simp [Array.getElem?_setIfInBounds, h2]
    all_goals omega
  · obtain ⟨c0, c1⟩ := h3 i hi (by omega)
    refine ⟨?_, ?_⟩
    · rw [Array.getElem?_setIfInBounds_ne (by omega), Array.getElem?_setIfInBounds_ne (by omega), c0]
    · rw [Array.getElem?_setIfInBounds_ne (by omega), Array.getElem?_setIfInBounds_ne (by omega), c1]
theorem FillMT.row {w : World} {g : Nat} {vs : List MT} (h : FillMT w g vs vs.length) : MTriesG w g vs := fun i hi => by
  obtain ⟨cs, h1, h2, h3⟩ := h
  obtain ⟨c0, c1⟩ := h3 i hi hi
  exact ⟨by rw [cell_of_block h1, c0], by rw [cell_of_block h1, c1]⟩

set_option maxRecDepth 100000 in
theorem madeMV (n : Nat) (w : World) (hn : n ≤ 1048576) : (Instr.makeSlice 63 (.int .i64 (n : Int)) (.int .i64 (n : Int))).run Tryd.prog w = .ok (.slice (some ⟨w.heap.size, 0, none⟩) n n) (w.alloc (.cells (madeCells #[.int .i64 0, .int .i64 0, .string ⟨#[]⟩] (n * 3)) 33)) := by
  have h := run_make (P := Tryd.prog) w 63 33 _ (.agg #[.int .i64 0, .int .i64 0, .string ⟨#[]⟩]) Tryd.underlying63 rfl rfl .i64 .i64 (n : Int) (n : Int) (by omega) (Int.le_refl _) (by show (32 : Int) * (n : Int) ≤ 281474976710656; omega) (by omega)
  simp only [Int.toNat_natCast] at h
  exact h
set_option maxRecDepth 100000 in
theorem madeMT (n : Nat) (w : World) (hn : n ≤ 1048576) : (Instr.makeSlice 64 (.int .i64 (n : Int)) (.int .i64 (n : Int))).run Tryd.prog w = .ok (.slice (some ⟨w.heap.size, 0, none⟩) n n) (w.alloc (.cells (madeCells #[.int .i64 0, .int .i64 0] (n * 2)) 81)) := by
  have h := run_make (P := Tryd.prog) w 64 81 _ (.agg #[.int .i64 0, .int .i64 0]) Tryd.underlying64 rfl rfl .i64 .i64 (n : Int) (n : Int) (by omega) (Int.le_refl _) (by show (16 : Int) * (n : Int) ≤ 281474976710656; omega) (by omega)
  simp only [Int.toNat_natCast] at h
  exact h
set_option maxRecDepth 100000 in
theorem madeMF (n : Nat) (w : World) (hn : n ≤ 1048576) : (Instr.makeSlice 32 (.int .i64 (n : Int)) (.int .i64 (n : Int))).run Tryd.prog w = .ok (.slice (some ⟨w.heap.size, 0, none⟩) n n) (w.alloc (.cells (madeCells #[.int .i64 0, .int .i64 0, .slice none 0 0, .slice none 0 0, .slice none 0 0] (n * 5)) 66)) := by
  have h := run_make (P := Tryd.prog) w 32 66 _ (.agg #[.int .i64 0, .int .i64 0, .slice none 0 0, .slice none 0 0, .slice none 0 0]) Tryd.underlying32 rfl rfl .i64 .i64 (n : Int) (n : Int) (by omega) (Int.le_refl _) (by show (88 : Int) * (n : Int) ≤ 281474976710656; omega) (by omega)
  simp only [Int.toNat_natCast] at h
  exact h

set_option maxHeartbeats 4000000 in
theorem toMVals_any (p : Option Addr) (vs : List MV) (cap : Nat) (w : World) (hrow : MVals w p vs) (hlen : vs.length ≤ 1048576) :
    Calls Tryd.prog 36 #[.slice p vs.length cap] w fun e w' => e = .returned (.slice (some ⟨w.heap.size, 0, none⟩) vs.length vs.length) ∧ MValsG w' w.heap.size vs ∧ w.heap.size < w'.heap.size ∧ Below w.heap.size w w' := by
  have HR := hide hrow
  have hmk := madeMV vs.length w hlen
  have hF0 : Hid (FillMV (w.alloc (.cells (madeCells #[.int .i64 0, .int .i64 0, .string ⟨#[]⟩] (vs.length * 3)) 33)) w.heap.size vs 0) := hide ⟨madeCells #[.int .i64 0, .int .i64 0, .string ⟨#[]⟩] (vs.length * 3), by show (w.heap.push _)[w.heap.size]? = _; simp, size_madeCells _ _, fun i _ h => absurd h (by omega)⟩
  clear hrow
  go_enter Tryd.func36, Tryd.ntmps36
  go_wp2
  go_loopw [4] (fun i wx => ∃ k : Nat, k ≤ vs.length ∧ i = .int .i64 k ∧ Hid (FillMV wx w.heap.size vs k) ∧ w.heap.size < wx.heap.size ∧ Below w.heap.size w wx) (fun i _ => vs.length - (intOf i).toNat)
  case atStart => exact ⟨0, by omega, rfl, hF0, by simp, nx_alloc _ _⟩
  case round =>
    obtain ⟨k, hk, rfl, hF, hgl, hnx⟩ := hrel
    by_cases hlt : k < vs.length
    · obtain ⟨b, off, rfl, q0, q1, q2⟩ := (unhide HR).later hnx k hlt
      have HS := hide fun (x : World) (hx : FillMV x w.heap.size vs k) => hx.set hlt
      generalize vs[k].k = vk at q0 HS
      generalize vs[k].n = vn at q1 HS
      generalize vs[k].t = vt at q2 HS
      go_wp2_with fail
      refine (toValue_any vk vn vt _).mono ?_
      rintro e w1 ⟨rfl, hb1⟩
      have hF1 := (unhide hF).later hb1 hgl
      have hS := unhide HS w1 hF1
      obtain ⟨u0, c0⟩ := hF1.cells (k * 3) (by omega)
      obtain ⟨u1, c1⟩ := hF1.cells (k * 3 + 1) (by omega)
      obtain ⟨u2, c2⟩ := hF1.cells (k * 3 + 2) (by omega)
      have f0 := hF1.free (k * 3)
      have f1 := hF1.free (k * 3 + 1)
      have f2 := hF1.free (k * 3 + 2)
      have hg1 : w.heap.size < w1.heap.size := by have := hb1.size; omega
      have HF2 := hide hS
      clear hS hF1 hF
      go_wp2
      go_roundw
      case rel => exact ⟨k + 1, by omega, by go_num, HF2, by simp; omega, nx_set (nx_set (nx_set (nx_trans hnx hb1) (Nat.le_refl _)) (Nat.le_refl _)) (Nat.le_refl _)⟩
      case measure => simp [intOf]; omega
    · obtain rfl : k = vs.length := by omega
      go_wp2
      go_ret
      exact ⟨rfl, (unhide hF).row, hgl, hnx⟩

set_option maxHeartbeats 1000000 in
theorem toTry_any (a h : Int) (w : World) :
    Calls Tryd.prog 42 #[.agg #[.int .i64 a, .int .i64 h]] w fun e w' => e = .returned (.agg #[.int .i64 a, .int .i64 h]) ∧ Below w.heap.size w w' := by
  go_enter Tryd.func42, Tryd.ntmps42
  go_wp2
  exact bodyPost_ret (v := .agg #[.int .i64 a, .int .i64 h]) (by simp [results, Tryd.results42, go_sem]) rfl ⟨rfl, (by repeat (first | exact Below.refl _ _ | refine nx_al ?_ | refine nx_set ?_ (by first | omega | (simp <;> omega))))⟩

set_option maxHeartbeats 4000000 in
theorem toMTries_any (p : Option Addr) (vs : List MT) (cap : Nat) (w : World) (hrow : MTries w p vs) (hlen : vs.length ≤ 1048576) :
    Calls Tryd.prog 37 #[.slice p vs.length cap] w fun e w' => e = .returned (.slice (some ⟨w.heap.size, 0, none⟩) vs.length vs.length) ∧ MTriesG w' w.heap.size vs ∧ w.heap.size < w'.heap.size ∧ Below w.heap.size w w' := by
  have HR := hide hrow
  have hmk := madeMT vs.length w hlen
  have hF0 : Hid (FillMT (w.alloc (.cells (madeCells #[.int .i64 0, .int .i64 0] (vs.length * 2)) 81)) w.heap.size vs 0) := hide ⟨madeCells #[.int .i64 0, .int .i64 0] (vs.length * 2), by show (w.heap.push _)[w.heap.size]? = _; simp, size_madeCells _ _, fun i _ h => absurd h (by omega)⟩
  clear hrow
  go_enter Tryd.func37, Tryd.ntmps37
  go_wp2
  go_loopw [4] (fun i wx => ∃ k : Nat, k ≤ vs.length ∧ i = .int .i64 k ∧ Hid (FillMT wx w.heap.size vs k) ∧ w.heap.size < wx.heap.size ∧ Below w.heap.size w wx) (fun i _ => vs.length - (intOf i).toNat)
  case atStart => exact ⟨0, by omega, rfl, hF0, by simp, nx_alloc _ _⟩
  case round =>
    obtain ⟨k, hk, rfl, hF, hgl, hnx⟩ := hrel
    by_cases hlt : k < vs.length
    · obtain ⟨b, off, rfl, q0, q1⟩ := (unhide HR).later hnx k hlt
      have HS := hide fun (x : World) (hx : FillMT x w.heap.size vs k) => hx.set hlt
      generalize vs[k].a = vk at q0 HS
      generalize vs[k].h = vn at q1 HS
      go_wp2_with fail
      refine (toTry_any vk vn _).mono ?_
      rintro e w1 ⟨rfl, hb1⟩
      have hF1 := (unhide hF).later hb1 hgl
      have hS := unhide HS w1 hF1
      obtain ⟨u0, c0⟩ := hF1.cells (k * 2) (by omega)
      obtain ⟨u1, c1⟩ := hF1.cells (k * 2 + 1) (by omega)
      have f0 := hF1.free (k * 2)
      have f1 := hF1.free (k * 2 + 1)
      have hg1 : w.heap.size < w1.heap.size := by have := hb1.size; omega
      have HF2 := hide hS
      clear hS hF1 hF
      go_wp2
      go_roundw
      case rel => exact ⟨k + 1, by omega, by go_num, HF2, by simp; omega, nx_set (nx_set (nx_trans hnx hb1) (Nat.le_refl _)) (Nat.le_refl _)⟩
      case measure => simp [intOf]; omega
    · obtain rfl : k = vs.length := by omega
      go_wp2
      go_ret
      exact ⟨rfl, (unhide hF).row, hgl, hnx⟩

set_option maxHeartbeats 2000000 in
theorem toFrame_any (x : MF) (ps : Option Addr) (cs : Nat) (pk : Option Addr) (ck : Nat) (pt : Option Addr) (ct : Nat) (w : World) (h1 : MVals w ps x.slots) (h2 : MVals w pk x.stack) (h3 : MTries w pt x.tries) (hs : SmallF x) :
    Calls Tryd.prog 27 #[.agg #[.int .i64 x.f, .int .i64 x.pc, .slice ps x.slots.length cs, .slice pk x.stack.length ck, .slice pt x.tries.length ct]] w fun e w' => ∃ g1 g2 g3, e = .returned (.agg #[.int .i64 x.f, .int .i64 x.pc, .slice (some ⟨g1, 0, none⟩) x.slots.length x.slots.length, .slice (some ⟨g2, 0, none⟩) x.stack.length x.stack.length, .slice (some ⟨g3, 0, none⟩) x.tries.length x.tries.length]) ∧ w.heap.size ≤ g1 ∧ w.heap.size ≤ g2 ∧ w.heap.size ≤ g3 ∧ MValsG w' g1 x.slots ∧ MValsG w' g2 x.stack ∧ MTriesG w' g3 x.tries ∧ Below w.heap.size w w' := by
  obtain ⟨xf, xp, xs, xk, xt⟩ := x
  obtain ⟨s1, s2, s3⟩ := hs
  have H1 := hide h1
  have H2 := hide h2
  have H3 := hide h3
  clear h1 h2 h3
  dsimp only at H1 H2 H3 s1 s2 s3 ⊢
  go_enter Tryd.func27, Tryd.ntmps27
  go_wp2_with fail
  refine (toMVals_any ps xs cs _ ((unhide H1).later ?b0) s1).mono ?_
  case b0 => exact nx_al (nx_al (nx_alloc _ _))
  rintro e w1 ⟨rfl, hs1, hl1, hb1⟩
  have hB1 := hide (nx_trans (nx_al (nx_al (nx_alloc _ _))) hb1)
  obtain ⟨hc1, hf1⟩ := bcell hb1
  have hz : w.heap.size + 3 ≤ w1.heap.size := by have := hb1.size; simp at this; omega
  have hz0 : w.heap.size < w1.heap.size := by omega
  have hz1 : w.heap.size + 1 < w1.heap.size := by omega
  have hz2 : w.heap.size + 1 + 1 < w1.heap.size := by omega
  have hz3 : w.heap.size + 2 < w1.heap.size := by omega
  have HS1 : Hid (MValsG w1 (w.heap.size + 1 + 1 + 1) xs) := hide (by simpa using hs1)
  clear hs1 hb1
  go_wp2_with fail
  refine (toMVals_any pk xk ck _ ((unhide H2).later ?b1) s2).mono ?_
  case b1 => exact nx_set (unhide hB1) (by first | omega | (simp; omega))
  rintro e w2 ⟨rfl, hs2, hl2, hb2⟩
  have hB2 := hide (nx_trans (nx_set (unhide hB1) (by first | omega | (simp; omega))) hb2)
  obtain ⟨hc2, hf2⟩ := bcell hb2
  have hsz2 : w1.heap.size < w2.heap.size := by simpa using hl2
  have hT1 := hide (((unhide HS1).set (b := w.heap.size + 2) (o := 2) (v := .slice (some ⟨w.heap.size + 1 + 1 + 1, 0, none⟩) xs.length xs.length) (by omega)).later hb2)
  have HS2 : Hid (MValsG w2 w1.heap.size xk) := hide (by simpa using hs2)
  clear hs2 hb2 HS1
  have hy0 : w.heap.size < w2.heap.size := by omega
  have hy1 : w.heap.size + 1 < w2.heap.size := by omega
  have hy2 : w.heap.size + 1 + 1 < w2.heap.size := by omega
  have hy3 : w.heap.size + 2 < w2.heap.size := by omega
  go_wp2_with fail
  refine (toMTries_any pt xt ct _ ((unhide H3).later ?b2) s3).mono ?_
  case b2 => exact nx_set (unhide hB2) (by first | omega | (simp; omega))
  rintro e w3 ⟨rfl, hs3, hl3, hb3⟩
  have hB3 := hide (nx_trans (nx_set (unhide hB2) (by first | omega | (simp; omega))) hb3)
  obtain ⟨hc3, hf3⟩ := bcell hb3
  have hsz3 : w2.heap.size < w3.heap.size := by simpa using hl3
  have hT1' := hide (((unhide hT1).set (b := w.heap.size + 2) (o := 3) (v := .slice (some ⟨w1.heap.size, 0, none⟩) xk.length xk.length) (by omega)).later hb3)
  have hT2 := hide (((unhide HS2).set (b := w.heap.size + 2) (o := 3) (v := .slice (some ⟨w1.heap.size, 0, none⟩) xk.length xk.length) (by omega)).later hb3)
  have HS3 : Hid (MTriesG w3 w2.heap.size xt) := hide (by simpa using hs3)
  clear hs3 hb3 HS2 hT1
  go_wp2
  refine bodyPost_ret (v := .agg #[.int .i64 xf, .int .i64 xp, .slice (some ⟨w.heap.size + 1 + 1 + 1, 0, none⟩) xs.length xs.length, .slice (some ⟨w1.heap.size, 0, none⟩) xk.length xk.length, .slice (some ⟨w2.heap.size, 0, none⟩) xt.length xt.length]) (by simp [results, Tryd.results27, go_sem, *]) rfl ⟨w.heap.size + 1 + 1 + 1, w1.heap.size, w2.heap.size, rfl, by omega, by omega, by omega, ?_, ?_, ?_, ?_⟩
  · repeat refine MValsG.set ?_ (by omega)
    exact unhide hT1'
  · repeat refine MValsG.set ?_ (by omega)
    exact unhide hT2
  · repeat refine MTriesG.set ?_ (by omega)
    exact unhide HS3
  · repeat refine nx_set ?_ (by omega)
    exact unhide hB3

/-- frames in a row of their own, filled up to k -/
def FillMF (w : World) (g : Nat) (fs : List MF) (k : Nat) : Prop := ∃ cs : Array Value, w.heap[g]? = some (.cells cs 66 (0, 0)) ∧ cs.size = fs.length * 5 ∧ ∀ i (h : i < fs.length), i < k → ∃ g1 g2 g3, g < g1 ∧ g < g2 ∧ g < g3 ∧ cs[i * 5]? = some (.int .i64 fs[i].f) ∧ cs[i * 5 + 1]? = some (.int .i64 fs[i].pc) ∧ cs[i * 5 + 2]? = some (.slice (some ⟨g1, 0, none⟩) fs[i].slots.length fs[i].slots.length) ∧ cs[i * 5 + 3]? = some (.slice (some ⟨g2, 0, none⟩) fs[i].stack.length fs[i].stack.length) ∧ cs[i * 5 + 4]? = some (.slice (some ⟨g3, 0, none⟩) fs[i].tries.length fs[i].tries.length) ∧ MValsG w g1 fs[i].slots ∧ MValsG w g2 fs[i].stack ∧ MTriesG w g3 fs[i].tries
theorem FillMF.later {w w' : World} {g : Nat} {fs : List MF} {k : Nat} (h : FillMF w g fs k) (hb : Below w.heap.size w w') (hg : g < w.heap.size) : FillMF w' g fs k := by
  obtain ⟨cs, h1, h2, h3⟩ := h
  refine ⟨cs, by rw [hb.block g hg]; exact h1, h2, fun i hi hik => ?_⟩
  obtain ⟨g1, g2, g3, a1, b1, d1, c0, c1, c2, c3, c4, x1, x2, x3⟩ := h3 i hi hik
  exact ⟨g1, g2, g3, a1, b1, d1, c0, c1, c2, c3, c4, x1.later hb, x2.later hb, x3.later hb⟩
theorem FillMF.cells {w : World} {g : Nat} {fs : List MF} {k : Nat} (h : FillMF w g fs k) (i : Nat) (hi : i < fs.length * 5) : ∃ v, w.cell? ⟨g, i, none⟩ = some v := by
  obtain ⟨cs, h1, h2, h3⟩ := h
  refine ⟨cs[i]'(by omega), ?_⟩
  rw [cell_of_block h1 i, Array.getElem?_eq_getElem (by omega)]
theorem FillMF.free {w : World} {g : Nat} {fs : List MF} {k : Nat} (h : FillMF w g fs k) (i : Nat) : w.frozen? ⟨g, i, none⟩ = false := by
  obtain ⟨cs, h1, h2, h3⟩ := h
  exact unfrozen_of_block h1 i
theorem FillMF.zero (w : World) (z : Array Value) (fs : List MF) : FillMF (w.alloc (.cells (madeCells z (fs.length * 5)) 66)) w.heap.size fs 0 := ⟨madeCells z (fs.length * 5), by show (w.heap.push _)[w.heap.size]? = _; simp, size_madeCells _ _, fun i _ h => absurd h (by omega)⟩
theorem FillMF.set {w : World} {g g1 g2 g3 : Nat} {fs : List MF} {k : Nat} (h : FillMF w g fs k) (hk : k < fs.length) (a1 : g < g1) (b1 : g < g2) (d1 : g < g3) (x1 : MValsG w g1 fs[k].slots) (x2 : MValsG w g2 fs[k].stack) (x3 : MTriesG w g3 fs[k].tries) :
    FillMF (((((w.setCell ⟨g, k * 5, none⟩ (.int .i64 fs[k].f)).setCell ⟨g, k * 5 + 1, none⟩ (.int .i64 fs[k].pc)).setCell ⟨g, k * 5 + 2, none⟩ (.slice (some ⟨g1, 0, none⟩) fs[k].slots.length fs[k].slots.length)).setCell ⟨g, k * 5 + 3, none⟩ (.slice (some ⟨g2, 0, none⟩) fs[k].stack.length fs[k].stack.length)).setCell ⟨g, k * 5 + 4, none⟩ (.slice (some ⟨g3, 0, none⟩) fs[k].tries.length fs[k].tries.length)) g fs (k + 1) := by
  obtain ⟨cs, h1, h2, h3⟩ := h
  refine ⟨_, block_setCell (block_setCell (block_setCell (block_setCell (block_setCell h1 _) _) _) _) _, by simp [h2], fun i hi hik => ?_⟩
  by_cases e : i = k
  · subst e
    refine ⟨g1, g2, g3, a1, b1, d1, ?_, ?_, ?_, ?_, ?_, ?_, ?_, ?_⟩
    case refine_6 =>
      repeat refine MValsG.set ?_ (by omega)
      exact x1
    case refine_7 =>
      repeat refine MValsG.set ?_ (by omega)
      exact x2
    case refine_8 =>
      repeat refine MTriesG.set ?_ (by omega)
      exact x3
    all_goals simp [Array.getElem?_setIfInBounds, h2]
    all_goals omega
  · obtain ⟨q1, q2, q3, e1, f1, m1, c0, c1, c2, c3, c4, y1, y2, y3⟩ := h3 i hi (by omega)
    refine ⟨q1, q2, q3, e1, f1, m1, ?_, ?_, ?_, ?_, ?_, ?_, ?_, ?_⟩
    case refine_6 =>
      repeat refine MValsG.set ?_ (by omega)
      exact y1
    case refine_7 =>
      repeat refine MValsG.set ?_ (by omega)
      exact y2
    case refine_8 =>
      repeat refine MTriesG.set ?_ (by omega)
      exact y3
    all_goals rw [Array.getElem?_setIfInBounds_ne (by omega), Array.getElem?_setIfInBounds_ne (by omega), Array.getElem?_setIfInBounds_ne (by omega), Array.getElem?_setIfInBounds_ne (by omega), Array.getElem?_setIfInBounds_ne (by omega)]
    all_goals assumption
theorem FillMF.poke {w : World} {g b o : Nat} {v : Value} {fs : List MF} {k : Nat} (h : FillMF w g fs k) (hb : b < g) : FillMF (w.setCell ⟨b, o, none⟩ v) g fs k := by
  obtain ⟨cs, h1, h2, h3⟩ := h
  refine ⟨cs, by rw [Below.heap_setCell w ⟨b, o, none⟩ v g (by show g ≠ b; omega)]; exact h1, h2, fun i hi hik => ?_⟩
  obtain ⟨g1, g2, g3, a1, b1, d1, c0, c1, c2, c3, c4, x1, x2, x3⟩ := h3 i hi hik
  exact ⟨g1, g2, g3, a1, b1, d1, c0, c1, c2, c3, c4, x1.set (by omega), x2.set (by omega), x3.set (by omega)⟩
theorem FillMF.lay {w : World} {g : Nat} {fs : List MF} (h : FillMF w g fs fs.length) : ∃ L : FLay, L.p = some ⟨g, 0, none⟩ ∧ FramesAt w L fs := by
  obtain ⟨cs, h1, h2, h3⟩ := h
  have each : ∀ i, i < fs.length → ∃ q : Nat × Nat × Nat, ∃ x, fs[i]? = some x ∧ cs[i * 5]? = some (.int .i64 x.f) ∧ cs[i * 5 + 1]? = some (.int .i64 x.pc) ∧ cs[i * 5 + 2]? = some (.slice (some ⟨q.1, 0, none⟩) x.slots.length x.slots.length) ∧ cs[i * 5 + 3]? = some (.slice (some ⟨q.2.1, 0, none⟩) x.stack.length x.stack.length) ∧ cs[i * 5 + 4]? = some (.slice (some ⟨q.2.2, 0, none⟩) x.tries.length x.tries.length) ∧ MValsG w q.1 x.slots ∧ MValsG w q.2.1 x.stack ∧ MTriesG w q.2.2 x.tries := by
    intro i hi
    obtain ⟨g1, g2, g3, a1, b1, d1, r⟩ := h3 i hi hi
    exact ⟨(g1, g2, g3), fs[i], List.getElem?_eq_getElem hi, r⟩
  obtain ⟨q, hq⟩ := @Deep.choose_lt (Nat × Nat × Nat) ⟨(0, 0, 0)⟩ _ _ each
  refine ⟨⟨some ⟨g, 0, none⟩, fun i => some ⟨(q i).1, 0, none⟩, fun i => (fs[i]?.map (·.slots.length)).getD 0, fun i => some ⟨(q i).2.1, 0, none⟩, fun i => (fs[i]?.map (·.stack.length)).getD 0, fun i => some ⟨(q i).2.2, 0, none⟩, fun i => (fs[i]?.map (·.tries.length)).getD 0⟩, rfl, fun i hi => ?_⟩
  obtain ⟨x, hx, c0, c1, c2, c3, c4, d1, d2, d3⟩ := hq i hi
  rw [List.getElem?_eq_getElem hi] at hx
  obtain rfl := Option.some.inj hx
  refine ⟨g, 0, rfl, ?_, ?_, ?_, ?_, ?_, d1.at, d2.at, d3.at⟩
  · rw [Nat.zero_add, cell_of_block h1]; exact c0
  · rw [Nat.zero_add, cell_of_block h1]; exact c1
  · rw [Nat.zero_add, cell_of_block h1, c2]; simp [hi]
  · rw [Nat.zero_add, cell_of_block h1, c3]; simp [hi]
  · rw [Nat.zero_add, cell_of_block h1, c4]; simp [hi]

set_option maxHeartbeats 2000000 in
theorem toFrames_any (L : FLay) (fs : List MF) (cap : Nat) (w : World) (hrow : FramesAt w L fs) (hs : SmallFs fs) :
    Calls Tryd.prog 19 #[.slice L.p fs.length cap] w fun e w' => e = .returned (.slice (some ⟨w.heap.size, 0, none⟩) fs.length fs.length) ∧ FillMF w' w.heap.size fs fs.length ∧ w.heap.size < w'.heap.size ∧ Below w.heap.size w w' := by
  have HR := hide hrow
  have HS := hide hs.2
  have hlen := hs.1
  have hmk := madeMF fs.length w hlen
  have HF0 := hide (FillMF.zero w #[.int .i64 0, .int .i64 0, .slice none 0 0, .slice none 0 0, .slice none 0 0] fs)
  clear hrow hs
  go_enter Tryd.func19, Tryd.ntmps19
  go_wp2
  go_loopw [4] (fun i wx => ∃ k : Nat, k ≤ fs.length ∧ i = .int .i64 k ∧ Hid (FillMF wx w.heap.size fs k) ∧ w.heap.size < wx.heap.size ∧ Below w.heap.size w wx) (fun i _ => fs.length - (intOf i).toNat)
  case atStart => exact ⟨0, by omega, rfl, HF0, by simp, nx_alloc _ _⟩
  case round =>
    obtain ⟨k, hk, rfl, hF, hgl, hnx⟩ := hrel
    by_cases hlt : k < fs.length
    · obtain ⟨b, off, hp, q0, q1, q2, q3, q4, q5, q6, q7⟩ := (unhide HR).later hnx k hlt
      have HZ := hide (unhide HS fs[k] (List.getElem_mem hlt))
      have HSet := hide fun (x : World) (g1 g2 g3 : Nat) (hx : FillMF x w.heap.size fs k) (a1 : w.heap.size < g1) (b1 : w.heap.size < g2) (d1 : w.heap.size < g3) (x1 : MValsG x g1 fs[k].slots) (x2 : MValsG x g2 fs[k].stack) (x3 : MTriesG x g3 fs[k].tries) => hx.set hlt a1 b1 d1 x1 x2 x3
      have H5 := hide q5
      have H6 := hide q6
      have H7 := hide q7
      clear q5 q6 q7
      rw [hp]
      generalize fs[k] = x at q0 q1 q2 q3 q4 HZ HSet H5 H6 H7
      generalize L.ps k = ps at q2 H5
      generalize L.cs k = cs at q2
      generalize L.pk k = pk at q3 H6
      generalize L.ck k = ck at q3
      generalize L.pt k = pt at q4 H7
      generalize L.ct k = ct at q4
      go_wp2_with fail
      refine (toFrame_any x ps cs pk ck pt ct _ (unhide H5) (unhide H6) (unhide H7) (unhide HZ)).mono ?_
      rintro e w1 ⟨g1, g2, g3, rfl, a1, b1, d1, x1, x2, x3, hb1⟩
      have hF1 := (unhide hF).later hb1 hgl
      have hg1 : w.heap.size < w1.heap.size := by have := hb1.size; omega
      have hS := hide (unhide HSet w1 g1 g2 g3 hF1 (by omega) (by omega) (by omega) x1 x2 x3)
      obtain ⟨u0, c0⟩ := hF1.cells (k * 5) (by omega)
      obtain ⟨u1, c1⟩ := hF1.cells (k * 5 + 1) (by omega)
      obtain ⟨u2, c2⟩ := hF1.cells (k * 5 + 2) (by omega)
      obtain ⟨u3, c3⟩ := hF1.cells (k * 5 + 3) (by omega)
      obtain ⟨u4, c4⟩ := hF1.cells (k * 5 + 4) (by omega)
      have f0 := hF1.free (k * 5)
      have f1 := hF1.free (k * 5 + 1)
      have f2 := hF1.free (k * 5 + 2)
      have f3 := hF1.free (k * 5 + 3)
      have f4 := hF1.free (k * 5 + 4)
      have hN := hide (nx_trans hnx hb1)
      clear hF1 hF x1 x2 x3 hb1
      go_wp2
      go_roundw
      case rel => exact ⟨k + 1, by omega, by go_num, hide (unhide hS), by simp; omega, nx_set (nx_set (nx_set (nx_set (nx_set (unhide hN) (Nat.le_refl _)) (Nat.le_refl _)) (Nat.le_refl _)) (Nat.le_refl _)) (Nat.le_refl _)⟩
      case measure => simp [intOf]; omega
    · obtain rfl : k = fs.length := by omega
      go_wp2
      go_ret
      exact ⟨rfl, unhide hF, hgl, hnx⟩

end Go.Proofs.YtcdjdfmpnfodiaaDoor
