/- Drawn sources: spoilt ones; 'spec.AnySource' answers a text. -/
import Derived.Test.YtckdacbopejdmaaDoorAnyWalk3
import Derived.Test.YtckdacbopejdmaaDoorQuoteWalk
namespace Go.Proofs.YtckdacbopejdmaaDoor
open Go.RowKit
set_option linter.unusedVariables false

variable {g : Nat} {a : Option Addr} {len cap : Nat}

/-- a row of bytes of one's own that may be written -/
structure RowB (w : World) (b n cp : Nat) : Prop where
  le : n ≤ cp
  is : IsB w b cp
  free : ∀ j, j < cp → w.frozen? ⟨b, j, none⟩ = false
theorem RowB.keep {w w' : World} {b n cp : Nat} (h : RowB w b n cp) (k : Keeps g w w') (hb : b ≠ g) (hl : b < w.heap.size) : RowB w' b n cp :=
  ⟨h.le, h.is.keep k hb, fun j hj => (World.frozen?_of_block (w := w) (k.block b hl hb)).trans (h.free j hj)⟩
theorem RowB.drew {w : World} {b n cp : Nat} (h : RowB w b n cp) : RowB w.drew b n cp := ⟨h.le, h.is, h.free⟩
theorem RowB.alloc {w : World} {b n cp : Nat} (h : RowB w b n cp) (o : Obj) (hb : b ≠ g) (hl : b < w.heap.size) : RowB (w.alloc o) b n cp := h.keep (g := g) (.of_below (nx_alloc w o)) hb hl
theorem IsB.list {w : World} {b n : Nat} (h : IsB w b n) : ∃ xs : List Int, xs.length = n ∧ ∀ i, i < n → w.cell? ⟨b, i, none⟩ = some (.int .u8 (xs.getD i 0)) := by
  induction n with
  | zero => exact ⟨[], rfl, fun i hi => by omega⟩
  | succ n ih =>
    obtain ⟨xs, h1, h2⟩ := ih (h.less (by omega))
    obtain ⟨c, hc⟩ := h n (by omega)
    refine ⟨xs ++ [c], by simp [h1], fun i hi => ?_⟩
    by_cases e : i = n
    · subst e
      rw [hc]
      simp [← h1]
    · rw [h2 i (by omega)]
      have : i < xs.length := by omega
      simp [List.getD_eq_getElem?_getD, List.getElem?_append_left this]
/-- what spoiling leaves: bytes that are a text -/
def SpoiltC (g n : Nat) (w : World) (e : Ending) (w' : World) : Prop := ∃ (v : Value) (s : ByteArray), e = .returned v ∧ s.size ≤ n + 1 ∧ (convert 22 9 v).run Tryd.prog w' = .ok (.string s) w' ∧ Below g w w'
theorem SpoiltC.mk {g n m b cp : Nat} {w w' : World} (h : IsB w' b m) (hm : m ≤ n + 1) (hb : Below g w w') : SpoiltC g n w (.returned (.slice (some ⟨b, 0, none⟩) m cp)) w' := by
  obtain ⟨s, h1, h2⟩ := h.conv (cp := cp)
  exact ⟨_, s, rfl, by omega, h2, hb⟩

set_option maxHeartbeats 4000000 in
set_option maxRecDepth 100000 in
theorem spoilt_st (N : Int) (b n cp : Nat) (w : World) (hst0 : St g a len cap N w) (hN : N ≤ 700000000) (hrow : RowB w b n cp) (hgb : g < b) (hbl : b < w.heap.size) (hn : n ≤ 100000) (hcp : cp ≤ 9223372036854775807) :
    Calls Tryd.prog 79 #[.pointer (some ⟨g, 0, none⟩), .slice (some ⟨b, 0, none⟩) n cp] w fun e w' => SpoiltC g n w e w' := by
  have S0 := hide hst0
  have R0 := hide hrow
  have hg0 := hst0.lt
  have hle := hrow.le
  have hbg : Hid (b ≠ g) := hide (by omega)
  clear hst0 hrow
  go_enter Tryd.func79, Tryd.ntmps79
  go_wp2_with fail
  refine (next_st N 4 _ (unhide S0) (by omega) (by omega) (by omega)).mono ?_
  rintro e w1 ⟨r, rfl, r0, r1, hst, hk⟩
  have S1 := hide hst
  have hB1 := hide (hk.below (Nat.le_refl g) hg0)
  have R1 := hide ((unhide R0).keep hk (unhide hbg) hbl)
  have hz1 := hk.size
  clear hst hk R0 S0
  obtain rfl | rfl | rfl | rfl : r = 0 ∨ r = 1 ∨ r = 2 ∨ r = 3 := by omega
  · by_cases hn0 : 0 < n
    · have hn0' : (0 : Int) < (n : Int) := by omega
      have hsd := hide (unhide S1).drew
      have R1d := hide (unhide R1).drew
      have hB1d := hide (unhide hB1).drew
      go_wp2
      go_region_with (first | (go_at_call 63; refine (next_st _ 255 _ (unhide S2) (by omega) (by omega) (by omega)).mono ?_; rintro e y2 ⟨z, rfl, z0, z1, hst2, hk2⟩; have hc2 := hk2.cell hc (unhide hbg); have R3 := hide ((unhide R2).keep hk2 (unhide hbg) (Nat.lt_of_lt_of_le hbl (Nat.le_trans hz1 hz2))); have hf2 := (unhide R3).free k (Nat.lt_of_lt_of_le hkn hle); have B3 := hide ((unhide B2).trans (hk2.below (Nat.le_refl g) (unhide S2).lt)); clear hst2 hk2) | (go_at_call 63; refine (nextg_st _ (n : Int) _ (unhide hsd) (by omega) (by omega) (by omega)).mono ?_; rintro e y1 ⟨q, rfl, q0, q1, hst1, hk1⟩; obtain ⟨k, rfl⟩ := Int.eq_ofNat_of_zero_le q0; have hkn : k < n := Int.ofNat_lt.1 q1; have S2 := hide hst1; have R2 := hide (RowB.keep (unhide R1d) hk1 (unhide hbg) (Nat.lt_of_lt_of_le hbl hz1)); have hz2 : w1.heap.size ≤ y1.heap.size := hk1.size; have B2 : Hid (Below g w y1) := hide ((unhide hB1d).trans (hk1.below (Nat.le_refl g) (unhide hsd).lt)); obtain ⟨c, hc⟩ := (unhide R2).is k (Nat.lt_of_lt_of_le hkn hle); clear hst1 hk1))
      all_goals go_wp2
      all_goals go_ret
      all_goals exact SpoiltC.mk (((unhide R3).is.less hle).set) (by omega) ((unhide B3).setCell (by simp; omega) _)
    · have hn0' : ¬ (0 : Int) < (n : Int) := by omega
      go_wp2
      go_ret
      exact SpoiltC.mk ((unhide R1).is.less hle) (by omega) (unhide hB1)
  · go_wp2_with fail
    refine (nextg_st _ ((n : Int) + 1) _ (unhide S1) (by omega) (by omega) (by omega)).mono ?_
    rintro e w2 ⟨q, rfl, q0, q1, hst, hk⟩
    obtain ⟨k, rfl⟩ := Int.eq_ofNat_of_zero_le q0
    have hkn : k ≤ n := by omega
    have hkc : (k : Int) ≤ (cp : Int) := by omega
    have hB2 := hide ((unhide hB1).trans (hk.below (Nat.le_refl g) (unhide S1).lt))
    have R2 := hide ((unhide R1).keep hk (unhide hbg) (by omega))
    clear hst hk
    go_wp2
    go_ret
    exact SpoiltC.mk ((unhide R2).is.less (by omega)) (by omega) (unhide hB2)
  · obtain ⟨i0, hi, hi0, hi1, hi2⟩ := info_parts infoByte
    go_wp2_with fail
    refine (next_st _ 90 _ (unhide S1) (by omega) (by omega) (by omega)).mono ?_
    rintro e w2 ⟨z, rfl, z0, z1, hst, hk⟩
    have hB2 := hide ((unhide hB1).trans (hk.below (Nat.le_refl g) (unhide S1).lt))
    have R2 := hide ((unhide R1).keep hk (unhide hbg) (by omega))
    have hz2 : b < w2.heap.size := by have := hk.size; omega
    have R3 : Hid (∀ o, RowB (w2.alloc o) b n cp) := hide (fun o => RowB.alloc (g := g) (unhide R2) o (unhide hbg) hz2)
    obtain ⟨xs, hx1, hx2⟩ := ((unhide R2).is.less hle).list
    have HX := hide hx2
    have hwz : IntKind.u8.wrap (32 + z) = 32 + z := by unfold IntKind.wrap; simp [IntKind.bits, IntKind.signed]; omega
    clear hst hk hx2
    go_wp2_with (at_builtin; refine wpList_append_arg _ rfl _ _ 22 rfl 5 i0 (.int .u8 0) 1 1 Tryd.underlying22 hi hi0 hi1 hi2 rfl (by decide) b 0 n cp (xs.map (Value.int .u8)) rfl ?lo ?olds ⟨w2.heap.size, 0, none⟩ 1 1 [Value.int .u8 (32 + z)] rfl rfl ?c1 ?c2 ?spare ?b1 ?b2 ?room ?grow)
    case lo => simp [hx1]
    case olds =>
      intro j u hj
      have hjl : j < xs.length := by
        rcases Nat.lt_or_ge j xs.length with h | h
        · exact h
        · simp [List.getElem?_eq_none (show (xs.map (Value.int .u8)).length ≤ j by simpa using h)] at hj
      have := cell_later (nx_alloc w2 (.cells #[.int .u8 (32 + z)] 5)) (unhide HX j (by omega))
      rw [List.getElem?_map, List.getElem?_eq_getElem hjl] at hj
      simp at hj
      subst hj
      rw [Nat.zero_add, this]
      simp [List.getD_eq_getElem?_getD, List.getElem?_eq_getElem hjl]
    case c1 =>
      intro j u' hj
      match j, hj with
      | 0, hj => simp at hj; subst hj; simp [Addr.add]
    case c2 => intro u' hu'; simp at hu'; subst hu'; rfl
    case spare =>
      intro hroom j hj
      have hj0 : j = 0 := by simpa using hj
      subst hj0
      have hR := unhide R3 (.cells #[.int .u8 (32 + z)] 5)
      obtain ⟨c, hc⟩ := hR.is n (by omega)
      refine ⟨?_, ?_⟩
      · rw [show 0 + n * 1 + 0 = n by omega, hc]; rfl
      · rw [show 0 + n * 1 + 0 = n by omega]; exact hR.free n (by omega)
    case b1 => unfold maxLen; omega
    case b2 => omega
    case room =>
      intro hroom
      have hR := unhide R3 (.cells #[.int .u8 (32 + z)] 5)
      have hfin := hide (show IsB ((w2.alloc (.cells #[.int .u8 (32 + z)] 5)).setCell ⟨b, n, none⟩ (.int .u8 (32 + z))) b (n + 1) from (hR.is.less hroom).set)
      have hb3 := hide (((unhide hB2).alloc (by omega) (.cells #[.int .u8 (32 + z)] 5)).setCell (p := ⟨b, n, none⟩) (Nat.le_of_lt hgb) (.int .u8 (32 + z)))
      clear hR
      go_wp2
      go_ret
      exact SpoiltC.mk (by simpa [World.setCells] using unhide hfin) (by omega) (by simpa [World.setCells] using unhide hb3)
    case grow =>
      intro hfull v' w' hown hgrow
      have hb3 := hide (((unhide hB2).alloc (by omega) (.cells #[.int .u8 (32 + z)] 5)).trans (Below.mono (B := (w2.alloc (.cells #[.int .u8 (32 + z)] 5)).heap.size) ⟨hgrow.os, hgrow.tape, hgrow.output, hgrow.size, fun k hk => hgrow.block k hk (by simp)⟩ (by simp; omega)))
      obtain ⟨g', cp', hv, hg'⟩ : ∃ g' cp', v' = .slice (some ⟨g', 0, none⟩) (n + 1) cp' ∧ IsB w' g' (n + 1) := by
        rcases hown.2 with ⟨_, h0⟩ | ⟨g', cp', cur, e, hrest⟩
        · omega
        · subst e
          refine ⟨g', cp', rfl, fun j hj => ?_⟩
          have hc := World.ownsRow.cellAt hown j (by omega)
          by_cases e : j < n
          · rw [List.getElem?_append_left (by simp; omega), List.getElem?_map, List.getElem?_eq_getElem (show j < xs.length by omega)] at hc
            exact ⟨_, hc⟩
          · obtain rfl : j = n := by omega
            rw [List.getElem?_append_right (by simp; omega)] at hc
            simp [hx1] at hc
            exact ⟨_, hc⟩
      subst hv
      have HG := hide hg'
      clear hown hgrow hg'
      go_wp2
      go_ret
      exact SpoiltC.mk (unhide HG) (by omega) (unhide hb3)
  · go_wp2
    go_ret
    exact SpoiltC.mk ((unhide R1).is.less hle) (by omega) (unhide hB1)

end Go.Proofs.YtckdacbopejdmaaDoor
