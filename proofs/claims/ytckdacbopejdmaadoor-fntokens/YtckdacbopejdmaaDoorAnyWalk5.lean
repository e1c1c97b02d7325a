/- Drawn sources: 'spec.AnySource' answers a text, and changes nothing that was there. -/
import Derived.Test.YtckdacbopejdmaaDoorAnyWalk4
namespace Go.Proofs.YtckdacbopejdmaaDoor
open Go.RowKit
set_option linter.unusedVariables false

variable {g : Nat} {a : Option Addr} {len cap : Nat}

theorem below_bytes (w : World) (s : ByteArray) : Below w.heap.size w (Lib.bytesWorld w 5 s) :=
  ⟨rfl, rfl, rfl, by rw [Lib.bytesWorld_size]; omega, fun k hk => Lib.bytesWorld_at_old w 5 s k hk⟩
theorem bytes_size (w : World) (s : ByteArray) : (Lib.bytesCells w 5 s).size = grownCap w s.size 0 5 := by
  have := grownCap_ge w s.size 0 5
  simp [Lib.bytesCells]
  omega
theorem bytes_row (w : World) (s : ByteArray) : RowB (Lib.bytesWorld w 5 s) w.heap.size s.size (grownCap w s.size 0 5) := by
  have hn := Lib.bytesWorld_at_new w 5 s
  have hz := bytes_size w s
  refine ⟨grownCap_ge w s.size 0 5, fun j hj => ?_, fun j hj => ?_⟩
  · have hc : (Lib.bytesWorld w 5 s).cell? ⟨w.heap.size, j, none⟩ = (Lib.bytesCells w 5 s)[j]? := by simp [World.cell?, hn]
    rw [hc]
    unfold Lib.bytesCells
    by_cases h : j < s.size
    · rw [Array.getElem?_append_left (by simpa using h)]
      refine ⟨(s[j].toNat : Int), ?_⟩
      simp [ByteArray.getElem_eq_getElem_data, h]
    · rw [Array.getElem?_append_right (by simpa using (by omega : s.size ≤ j))]
      refine ⟨0, ?_⟩
      have : j - s.size < grownCap w s.size 0 5 - s.size := by omega
      simp [this]
  · simp only [World.frozen?, hn]
    simp
    omega
theorem bytes_of_str (N : Int) (w : World) (s : ByteArray) (h : St g a len cap N w) (hs : s.size ≤ 100000) :
    ∃ (W : World) (cp : Nat), (convert 9 22 (.string s)).run Tryd.prog w = .ok (.slice (some ⟨w.heap.size, 0, none⟩) s.size cp) W ∧ St g a len cap N W ∧ RowB W w.heap.size s.size cp ∧ Below w.heap.size w W ∧ w.heap.size < W.heap.size ∧ cp ≤ 9223372036854775807 := by
  refine ⟨Lib.bytesWorld w 5 s, grownCap w s.size 0 5, Lib.run_convert_string_bytes w 9 22 5 s Tryd.underlying9 Tryd.underlying22 Tryd.underlying5, h.later (below_bytes w s), bytes_row w s, below_bytes w s, by rw [Lib.bytesWorld_size]; omega, ?_⟩
  have := grownCap_le_maxLen w s.size 0 5 (by unfold maxLen; omega)
  unfold maxLen at this
  exact this

set_option maxHeartbeats 4000000 in
set_option maxRecDepth 100000 in
theorem anyProgram_st (N : Int) (w : World) (hst0 : St g a len cap N w) (hN : N ≤ 600000000) :
    Calls Tryd.prog 51 #[.pointer (some ⟨g, 0, none⟩)] w fun e w' => ∃ s : ByteArray, e = .returned (.string s) ∧ s.size ≤ 10000 ∧ Below g w w' := by
  have S0 := hide hst0
  have hg0 := hst0.lt
  clear hst0
  go_enter Tryd.func51, Tryd.ntmps51
  go_wp2_with fail
  refine (program_st N _ (unhide S0) (by omega)).mono ?_
  rintro e w1 ⟨t, rfl, ht, hst, hk⟩
  have S1 := hide hst
  have B1 := hide (hk.below (Nat.le_refl g) hg0)
  clear hst hk
  go_wp2_with fail
  refine (next_st _ 8 _ (unhide S1) (by omega) (by omega) (by omega)).mono ?_
  rintro e w2 ⟨r, rfl, r0, r1, hst, hk⟩
  have S2 := hide hst
  have B2 := hide ((unhide B1).trans (hk.below (Nat.le_refl g) (unhide S1).lt))
  clear hst hk
  obtain rfl | rfl | hr : r = 0 ∨ r = 1 ∨ 2 ≤ r := by omega
  · obtain ⟨W, cp, hcv, hst, hrow, hbW, hlt, hcp⟩ := bytes_of_str _ w2 t (unhide S2) (by omega)
    have hg2 := (unhide S2).lt
    have SW := hide hst
    have RW := hide hrow
    have BW := hide ((unhide B2).trans (hbW.mono (by omega)))
    clear hst hrow hbW
    go_wp2_with fail
    refine (spoilt_st _ w2.heap.size t.size cp _ (unhide SW) (by omega) (unhide RW) hg2 hlt (by omega) hcp).mono ?_
    rintro e w3 ⟨v, s, rfl, hs, hback, hb3⟩
    have B3 := hide ((unhide BW).trans hb3)
    clear hb3 hcv
    go_wp2
    go_ret
    exact ⟨s, rfl, by omega, unhide B3⟩
  · go_wp2_with fail
    refine (pick_lit _ 18 100 _ _ (unhide S2) (by omega) (by omega) (by omega) rfl rfl).mono ?_
    rintro e w3 ⟨s, rfl, hs, hst, hk⟩
    have B3 := hide ((unhide B2).trans (hk.below (Nat.le_refl g) (unhide S2).lt))
    clear hst hk
    go_wp2
    go_ret
    exact ⟨s, rfl, by omega, unhide B3⟩
  · have q0 : (r == 0) = false := beq_eq_false_iff_ne.2 (by omega)
    have q1 : (r == 1) = false := beq_eq_false_iff_ne.2 (by omega)
    go_wp2
    go_ret
    exact ⟨t, rfl, by omega, unhide B2⟩

set_option maxHeartbeats 1000000 in
theorem AnySource_any (a : Option Addr) (len cap : Nat) (w : World) (hlen : len ≤ 1048577) (hrow : ByteRow w a len) :
    Calls Tryd.prog 18 #[.slice a len cap] w fun e w' => ∃ s : ByteArray, e = .returned (.string s) ∧ s.size ≤ 10000 ∧ Below w.heap.size w w' := by
  have HR := hide hrow
  clear hrow
  go_enter Tryd.func18, Tryd.ntmps18
  go_wp2_with fail
  refine (source_any a len cap _ hlen).mono ?_
  rintro e w1 ⟨rfl, hb1, hlt, hsrc⟩
  have S1 := hide (show St w.heap.size a len cap 0 w1 from ⟨⟨0, _, hsrc, by omega⟩, (unhide HR).later hb1, fun h0 => row_block (unhide HR) h0, hlen⟩)
  have B1 := hide hb1
  clear hsrc hb1
  go_wp2_with fail
  refine (anyProgram_st 0 _ (unhide S1) (by omega)).mono ?_
  rintro e w2 ⟨s, rfl, hs, hb2⟩
  go_wp2
  go_ret
  exact ⟨s, rfl, hs, (unhide B1).trans hb2⟩

end Go.Proofs.YtckdacbopejdmaaDoor
