/- Slots and connections measured, copied, held against each other, marked: the law's helpers. -/
import Derived.Test.YtieojlgnbcibdaaConnMem
import Derived.Deep.RegionHeld3
namespace Go.Proofs.Ytieojlgnbcibdaa
open Go.RowKit Go.Joins
set_option linter.unusedVariables false





/-- the row that is made, filled up to k -/
def SFilled (w : World) (g : Nat) (vs : List SL) (k : Nat) : Prop := ∃ cs : Array Value, w.heap[g]? = some (.cells cs 33 (0, 0)) ∧ cs.size = vs.length * 3 ∧ ∀ i (h : i < vs.length), i < k → cs[i * 3]? = some (.int .i64 vs[i].q) ∧ cs[i * 3 + 1]? = some (.bool vs[i].r) ∧ cs[i * 3 + 2]? = some (.string vs[i].t)
theorem SFilled.later {w w' : World} {g : Nat} {vs : List SL} {k : Nat} (h : SFilled w g vs k) (hb : Below w.heap.size w w') (hg : g < w.heap.size) : SFilled w' g vs k := by
  obtain ⟨cs, h1, h2, h3⟩ := h
  exact ⟨cs, by rw [hb.block g hg]; exact h1, h2, h3⟩
theorem SFilled.cells {w : World} {g : Nat} {vs : List SL} {k : Nat} (h : SFilled w g vs k) (i : Nat) (hi : i < vs.length * 3) : ∃ v, w.cell? ⟨g, i, none⟩ = some v := by
  obtain ⟨cs, h1, h2, h3⟩ := h
  refine ⟨cs[i]'(by omega), ?_⟩
  rw [cell_of_block h1 i, Array.getElem?_eq_getElem (by omega)]
theorem SFilled.free {w : World} {g : Nat} {vs : List SL} {k : Nat} (h : SFilled w g vs k) (i : Nat) : w.frozen? ⟨g, i, none⟩ = false := by
  obtain ⟨cs, h1, h2, h3⟩ := h
  exact unfrozen_of_block h1 i
theorem SFilled.set {w : World} {g : Nat} {vs : List SL} {k : Nat} (h : SFilled w g vs k) (hk : k < vs.length) :
    SFilled (((w.setCell ⟨g, k * 3, none⟩ (.int .i64 vs[k].q)).setCell ⟨g, k * 3 + 1, none⟩ (.bool vs[k].r)).setCell ⟨g, k * 3 + 2, none⟩ (.string vs[k].t)) g vs (k + 1) := by
  obtain ⟨cs, h1, h2, h3⟩ := h
  refine ⟨_, block_setCell (block_setCell (block_setCell h1 _) _) _, by simp [h2], fun i hi hik => ?_⟩
  by_cases e : i = k
  · subst e
    refine ⟨?_, ?_, ?_⟩
    all_goals simp [Array.getElem?_setIfInBounds, h2]
    all_goals omega
  · obtain ⟨c0, c1, c2⟩ := h3 i hi (by omega)
    refine ⟨?_, ?_, ?_⟩
    · rw [Array.getElem?_setIfInBounds_ne (by omega), Array.getElem?_setIfInBounds_ne (by omega), Array.getElem?_setIfInBounds_ne (by omega), c0]
    · rw [Array.getElem?_setIfInBounds_ne (by omega), Array.getElem?_setIfInBounds_ne (by omega), Array.getElem?_setIfInBounds_ne (by omega), c1]
    · rw [Array.getElem?_setIfInBounds_ne (by omega), Array.getElem?_setIfInBounds_ne (by omega), Array.getElem?_setIfInBounds_ne (by omega), c2]
theorem SFilled.buf {w : World} {g base : Nat} {vs : List SL} (h : SFilled w g vs vs.length) (hg : base ≤ g) (hl : vs.length ≤ 1048576) : SlBuf w base (.slice (some ⟨g, 0, none⟩) vs.length vs.length) vs := by
  obtain ⟨cs, h1, h2, h3⟩ := h
  refine ⟨slCells_len vs, .inr ⟨g, vs.length, cs, rfl, hg, h1, Nat.le_refl _, by unfold maxLen; omega, h2, ?_⟩⟩
  rw [List.take_of_length_le (by rw [Array.length_toList]; omega)]
  apply List.ext_getElem?
  intro j
  by_cases hj : j < vs.length * 3
  · have hi : j / 3 < vs.length := by omega
    obtain ⟨c0, c1, c2⟩ := h3 (j / 3) hi hi
    obtain ⟨g0, g1, g2⟩ := slCells_get vs (j / 3) hi
    rw [Array.getElem?_toList]
    obtain h | h | h : j % 3 = 0 ∨ j % 3 = 1 ∨ j % 3 = 2 := by omega
    · rw [show j = j / 3 * 3 by omega, g0, c0]
    · rw [show j = j / 3 * 3 + 1 by omega, g1, c1]
    · rw [show j = j / 3 * 3 + 2 by omega, g2, c2]
  · rw [List.getElem?_eq_none (by rw [Array.length_toList]; omega), List.getElem?_eq_none (by rw [slCells_len]; omega)]

set_option maxRecDepth 100000 in
theorem smade3 (n : Nat) (w : World) (hn : n ≤ 1048576) : (Instr.makeSlice 22 (.int .i64 (n : Int)) (.int .i64 (n : Int))).run Try.prog w = .ok (.slice (some ⟨w.heap.size, 0, none⟩) n n) (w.alloc (.cells (madeCells #[.int .i64 0, .bool false, .string ⟨#[]⟩] (n * 3)) 33)) := by
  have h := run_make (P := Try.prog) w 22 33 _ (.agg #[.int .i64 0, .bool false, .string ⟨#[]⟩]) Try.underlying22 rfl rfl .i64 .i64 (n : Int) (n : Int) (by omega) (Int.le_refl _) (by show (32 : Int) * (n : Int) ≤ 281474976710656; omega) (by omega)
  simp only [Int.toNat_natCast] at h
  exact h


set_option maxHeartbeats 400000 in
theorem eqSlot_same (k : Int) (n : Bool) (t : ByteArray) (w : World) :
    Calls Try.prog 12 #[.agg #[.int .i64 k, .bool n, .string t], .agg #[.int .i64 k, .bool n, .string t]] w fun e w' => e = .returned (.bool true) ∧ Below w.heap.size w w' := by
  go_enter Try.func12, Try.ntmps12
  go_wp2
  go_ret
  exact ⟨rfl, qx_trans (qx_alloc _ _) (qx_alloc _ _)⟩

set_option maxHeartbeats 4000000 in
theorem eqSlotS_same (p q : Option Addr) (vs : List SL) (c d : Nat) (w : World) (hlen : vs.length ≤ 1048576) (ha : SlotsAt w p vs) (hb : SlotsAt w q vs) :
    Calls Try.prog 9 #[.slice p vs.length c, .slice q vs.length d] w fun e w' => e = .returned (.bool true) ∧ Below w.heap.size w w' := by
  have HA := hide ha
  have HB := hide hb
  clear ha hb
  go_enter Try.func9, Try.ntmps9
  go_wp2
  go_loopw [5] (fun i wx => ∃ k : Nat, k ≤ vs.length ∧ i = .int .i64 k ∧ Below w.heap.size w wx) (fun i _ => vs.length - (intOf i).toNat)
  case atStart => exact ⟨0, by omega, rfl, Below.refl _ _⟩
  case round =>
    obtain ⟨k, hk, rfl, hnx⟩ := hrel
    by_cases hlt : k < vs.length
    · obtain ⟨b1, o1, rfl, q0, q1, q2⟩ := (unhide HA).later hnx k hlt
      obtain ⟨b2, o2, rfl, r0, r1, r2⟩ := (unhide HB).later hnx k hlt
      generalize vs[k].q = vk at q0 r0
      generalize vs[k].r = vn at q1 r1
      generalize vs[k].t = vt at q2 r2
      go_wp2
      go_region_with (go_at_call 12; refine (eqSlot_same vk vn vt _).mono ?_; rintro e y ⟨rfl, hbx⟩)
      all_goals go_wp2
      all_goals (go_roundw; (case rel => exact ⟨k + 1, by omega, by go_num, (by repeat (first | exact Below.refl _ _ | assumption | refine qx_al ?_ | refine qx_drew ?_ | refine qx_trans ?_ (by assumption)))⟩); (case measure => simp [intOf]; omega))
    · go_wp2
      go_ret
      exact ⟨rfl, hnx⟩

set_option maxHeartbeats 4000000 in
set_option maxRecDepth 100000 in
theorem markSlotS_any (base : Nat) (v : Value) (vs : List SL) (w : World) (hown : SlBuf w base v vs) (hbase : base ≤ w.heap.size) (h300 : vs.length ≤ 1048576) :
    Calls Try.prog 10 #[v, .int .i64 1] w fun e w' => e = .returned (.int .i64 (1 + 3 * (vs.length : Int))) ∧ SlBuf w' base v (kmarkL vs.length) ∧ Below base w w' := by
  obtain ⟨a, cap, rfl⟩ := hown.slice
  have HO := hide hown
  clear hown
  go_enter Try.func10, Try.ntmps10
  go_wp2
  go_loopw [1, 5] (fun m i wx => ∃ k : Nat, k ≤ vs.length ∧ i = .int .i64 k ∧ m = .int .i64 (1 + 3 * (k : Int)) ∧ SlBuf wx base (.slice a vs.length cap) (kmixL vs k) ∧ Below base w wx) (fun _ i _ => vs.length - (intOf i).toNat)
  case atStart => exact ⟨0, by omega, rfl, by simp, by rw [kmixL_zero]; exact unhide HO, Below.refl _ _⟩
  case round =>
    clear HO
    obtain ⟨k, hk, rfl, rfl, hown, hnx⟩ := hrel
    by_cases hlt : k < vs.length
    · have hml := kmixL_len vs k hk
      obtain ⟨g, rfl, hgb, hgl, hat⟩ := hown.opened (by omega)
      obtain ⟨q0, q1, q2⟩ := hat k (by omega)
      have hwl : base ≤ wr.heap.size := by have := hnx.size; omega
      have f0 := hown.free (k * 3)
      have s1 := hown.store k 0 (by omega) (by omega) (.int .i64 (1 + 3 * (k : Int))) ⟨1 + 3 * (k : Int), (kmixL vs k)[k].r, (kmixL vs k)[k].t⟩ rfl
      have s2 := s1.store k 1 (by rw [List.length_set]; omega) (by omega) (.bool false) ⟨1 + 3 * (k : Int), false, (kmixL vs k)[k].t⟩ (by rw [List.getElem_set_self]; rfl)
      have hnx2 : Below base w ((wr.setCell ⟨g, k * 3, none⟩ (.int .i64 (1 + 3 * (k : Int)))).setCell ⟨g, k * 3 + 1, none⟩ (.bool false)) := (hnx.setCell hgb _).setCell hgb _
      rw [List.set_set, Nat.add_zero] at s2
      have f1 := s2.free
      have f0' : ∀ i, wr.frozen? ⟨g, i, none⟩ = false := hown.free
      have HS2 := hide s2
      have HN2 := hide hnx2
      have HV : Hid (⟨1 + 3 * (k : Int), false, kmT (1 + 3 * (k : Int) + 1 + 1).toNat⟩ = kmarkV k) := rfl
      have HM := hide (kmixL_set vs k hlt)
      have hml2 := kmixL_len vs k hk
      clear s1 s2 hat hown hnx2 f0
      generalize (kmixL vs k)[k].q = vk at q0
      generalize hvn : (kmixL vs k)[k].r = vn at q1
      clear hvn
      have HK : Hid (∀ w1 : World, SlBuf w1 base (.slice (some ⟨g, 0, none⟩) vs.length cap) ((kmixL vs k).set k ⟨1 + 3 * (k : Int), false, (kmixL vs k)[k].t⟩) → (∃ u, w1.cell? ⟨g, k * 3 + 2, none⟩ = some u) ∧ w1.frozen? ⟨g, k * 3 + 2, none⟩ = false ∧ SlBuf (w1.setCell ⟨g, k * 3 + 2, none⟩ (.string (kmT (1 + 3 * (k : Int) + 1 + 1).toNat))) base (.slice (some ⟨g, 0, none⟩) vs.length cap) (kmixL vs (k + 1))) := hide (fun w1 hb => by
        refine ⟨?_, hb.free _, ?_⟩
        · obtain ⟨g', e, _, _, hat⟩ := hb.opened (by rw [List.length_set]; omega)
          injection e with e
          injection e with e _ _
          subst e
          exact ⟨_, (hat k (by rw [List.length_set]; omega)).2.2⟩
        · have := hb.store k 2 (by rw [List.length_set]; omega) (by omega) (.string (kmT (1 + 3 * (k : Int) + 1 + 1).toNat)) (kmarkV k) (by rw [List.getElem_set_self]; rfl)
          rw [List.set_set, unhide HM] at this
          exact this)
      have hmod : (1 + 3 * (k : Int) + 1).tmod 3 = 2 := by rw [Int.tmod_eq_emod_of_nonneg (by omega)]; omega
      go_wp2_with fail
      refine (kmarkText_any _ _ (by omega) (by omega)).mono ?_
      rintro e w1 ⟨rfl, hb1⟩
      have hb1' := hb1
      obtain ⟨⟨u, c2⟩, fz, hfin⟩ := unhide HK w1 ((unhide HS2).below hb1 (fun j hj => by
        have : g = j := by simpa [Value.ownBlock] using hj
        subst this
        simp; omega))
      have hnx3 := hide ((unhide HN2).trans (hb1.mono (by simp; omega)))
      have HF := hide hfin
      clear hfin hb1 hb1'
      go_wp2
      go_roundw
      case rel => exact ⟨k + 1, by omega, by go_num, k_int (by omega), unhide HF, (unhide hnx3).setCell hgb _⟩
      case measure => simp [intOf]; omega
    · have hd := hide (kmixL_all vs k (by omega) hk)
      rw [unhide hd] at hown
      obtain rfl : k = vs.length := by omega
      have HO := hide hown
      clear hown
      go_wp2
      go_ret
      exact ⟨rfl, unhide HO, hnx⟩

set_option maxHeartbeats 4000000 in
set_option maxRecDepth 100000 in
theorem heldSlotS_any (base : Nat) (v : Value) (n : Nat) (w : World) (hown : SlBuf w base v (kmarkL n)) (h300 : n ≤ 1048576) :
    Calls Try.prog 11 #[v, .int .i64 1] w fun e w' => e = .returned (.int .i64 (1 + 3 * (n : Int))) ∧ Below w.heap.size w w' := by
  obtain ⟨a, cap, rfl⟩ := hown.slice
  rw [kmarkL_len]
  have HO := hide hown
  clear hown
  go_enter Try.func11, Try.ntmps11
  go_wp2
  go_loopw [1, 5] (fun m i wx => ∃ k : Nat, k ≤ n ∧ i = .int .i64 k ∧ m = .int .i64 (1 + 3 * (k : Int)) ∧ Below w.heap.size w wx) (fun _ i _ => n - (intOf i).toNat)
  case atStart => exact ⟨0, by omega, rfl, by simp, Below.refl _ _⟩
  case round =>
    obtain ⟨k, hk, rfl, rfl, hnx⟩ := hrel
    by_cases hlt : k < n
    · have hcur := (unhide HO).later hnx
      rw [kmarkL_len] at hcur
      obtain ⟨g, rfl, _, hgl, hat⟩ := hcur.opened (by rw [kmarkL_len]; omega)
      obtain ⟨q0, q1, q2⟩ := hat k (by rw [kmarkL_len]; omega)
      rw [kmarkL_get] at q0 q1 q2
      have q0' : wr.cell? ⟨g, k * 3, none⟩ = some (.int .i64 (1 + 3 * (k : Int))) := q0
      have q1' : wr.cell? ⟨g, k * 3 + 1, none⟩ = some (.bool false) := q1
      have q2' : wr.cell? ⟨g, k * 3 + 2, none⟩ = some (.string (kmT (1 + 3 * (k : Int) + 1 + 1).toNat)) := q2
      have hmod : (1 + 3 * (k : Int) + 1).tmod 3 = 2 := by rw [Int.tmod_eq_emod_of_nonneg (by omega)]; omega
      clear hat hcur q0 q1 q2
      go_wp2
      go_region_held3 (fun y => y.cell? ⟨g, k * 3 + 2, none⟩ = some (.string (kmT (1 + 3 * (k : Int) + 1 + 1).toNat))) (go_keep) ((go_at_call 13; refine (kmarkText_any _ _ (by omega) (by omega)).mono ?_; rintro e y ⟨rfl, hbx⟩; have z2 := cell_later hbx q2'))
      all_goals go_wp2
      all_goals (go_roundw; (case rel => exact ⟨k + 1, by omega, by go_num, k_int (by omega), (by repeat (first | exact Below.refl _ _ | assumption | refine qx_al ?_ | refine qx_drew ?_ | refine qx_trans ?_ (by assumption)))⟩); (case measure => simp [intOf]; omega))
    · obtain rfl : k = n := by omega
      go_wp2
      go_ret
      exact ⟨rfl, hnx⟩


end Go.Proofs.Ytieojlgnbcibdaa
