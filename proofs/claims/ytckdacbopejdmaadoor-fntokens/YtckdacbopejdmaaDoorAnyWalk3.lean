/- Drawn sources: programs, spoilt or not. -/
import Derived.Test.YtckdacbopejdmaaDoorAnyWalk2
import Derived.ArgAppend
import Derived.Lib.ConvBytes
import Derived.Laws.BytesArg
namespace Go.Proofs.YtckdacbopejdmaaDoor
open Go.RowKit
set_option linter.unusedVariables false

variable {g : Nat} {a : Option Addr} {len cap : Nat}

/-- so far in a program: k statements are still to come -/
def PrgAt (g : Nat) (a : Option Addr) (len cap : Nat) (N : Int) (k z : Nat) (w : World) : Prop :=
  (k = 3 ∧ z ≤ 300 ∧ St g a len cap (N + 2) w) ∨ (k = 2 ∧ z ≤ 2300 ∧ St g a len cap (N + 402) w) ∨ (k = 1 ∧ z ≤ 4300 ∧ St g a len cap (N + 802) w) ∨ (k = 0 ∧ z ≤ 6300 ∧ St g a len cap (N + 1202) w)

set_option maxHeartbeats 8000000 in
set_option maxRecDepth 100000 in
theorem program_st (N : Int) (w : World) (hst0 : St g a len cap N w) (hN : N ≤ 700000000) :
    Calls Tryd.prog 78 #[.pointer (some ⟨g, 0, none⟩)] w fun e w' => ∃ s : ByteArray, e = .returned (.string s) ∧ s.size ≤ 7000 ∧ St g a len cap (N + 1300) w' ∧ Keeps g w w' := by
  have S0 := hide hst0
  have hg0 := hide hst0.lt
  clear hst0
  go_enter Tryd.func78, Tryd.ntmps78
  go_wp2_with fail
  refine (pick_lit N 5 60 _ _ (unhide S0) (by omega) (by omega) (by omega) rfl rfl).mono ?_
  rintro e w1 ⟨s0, rfl, hs0, hst, hk⟩
  have S1 := hide (hst.alloc (.cells #[.string ⟨#[120]⟩, .string ⟨#[121]⟩, .string ⟨#[112, 97, 116, 104]⟩] 9))
  have K1 := hide (hk.trans (.of_below (nx_alloc w1 (.cells #[.string ⟨#[120]⟩, .string ⟨#[121]⟩, .string ⟨#[112, 97, 116, 104]⟩] 9))))
  have M1 : Hid (Nm g (w1.alloc (.cells #[.string ⟨#[120]⟩, .string ⟨#[121]⟩, .string ⟨#[112, 97, 116, 104]⟩] 9)) w1.heap.size) := hide ⟨by have := hst.lt; omega, fun j hj => by
    obtain rfl | rfl | rfl : j = 0 ∨ j = 1 ∨ j = 2 := by omega
    all_goals simp [nm3]⟩
  clear hst hk
  go_wp2_with fail
  refine (next_st _ 4 _ (unhide S1) (by omega) (by omega) (by omega)).mono ?_
  rintro e w2 ⟨r, rfl, r0, r1, hst, hk⟩
  have S2 := hide hst
  have K2 := hide ((unhide K1).trans hk)
  have M2 := hide ((unhide M1).keep hk)
  clear hst hk
  obtain ⟨k0, rfl⟩ := Int.eq_ofNat_of_zero_le r0
  have hat0 : Hid (∀ z, z ≤ 300 → PrgAt g a len cap N k0 z w2) := hide (fun z hz => by
    obtain rfl | rfl | rfl | rfl : k0 = 0 ∨ k0 = 1 ∨ k0 = 2 ∨ k0 = 3 := by omega
    · exact .inr (.inr (.inr ⟨rfl, by omega, (unhide S2).mono (by omega)⟩))
    · exact .inr (.inr (.inl ⟨rfl, by omega, (unhide S2).mono (by omega)⟩))
    · exact .inr (.inl ⟨rfl, by omega, (unhide S2).mono (by omega)⟩)
    · exact .inl ⟨rfl, by omega, (unhide S2).mono (by omega)⟩)
  have hk0 : k0 ≤ 3 := by omega
  go_wp2
  go_loopw [3, 5] (fun m i wx => ∃ (k : Nat) (s : ByteArray), k ≤ 3 ∧ i = .int .i64 k ∧ m = .string s ∧ Hid (PrgAt g a len cap N k s.size wx) ∧ Keeps g w wx ∧ Hid (Nm g wx w1.heap.size)) (fun _ i _ => (intOf i).toNat)
  case atStart => exact ⟨k0, _, hk0, rfl, rfl, hide (unhide hat0 _ (by simp only [ByteArray.size_append, sz]; simp; omega)), unhide K2, M2⟩
  case round =>
    clear hat0 hk0 r1
    obtain ⟨k, s, hk, rfl, rfl, hin, hkp, M3⟩ := hrel
    have K3 := hide hkp
    clear hkp
    rcases unhide hin with ⟨rfl, hz, hs⟩ | ⟨rfl, hz, hs⟩ | ⟨rfl, hz, hs⟩ | ⟨rfl, hz, hs⟩
    · have S3 := hide hs
      clear hs hin
      go_wp2_with fail
      refine (state_two _ _ _ (by omega) (unhide S3) (unhide M3)).mono ?_
      rintro e w4 ⟨ea, rfl, hea, hst, hk⟩
      have S4 := hide hst
      have K4 := hide ((unhide K3).trans hk)
      have M4 := hide ((unhide M3).keep hk)
      clear hst hk
      go_wp2
      go_roundw
      case rel => exact ⟨2, _, by omega, rfl, rfl, hide (.inr (.inl ⟨rfl, by simp only [ByteArray.size_append, sz]; simp; omega, (unhide S4).mono (by omega)⟩)), unhide K4, M4⟩
      case measure => simp [intOf]
    · have S3 := hide hs
      clear hs hin
      go_wp2_with fail
      refine (state_two _ _ _ (by omega) (unhide S3) (unhide M3)).mono ?_
      rintro e w4 ⟨ea, rfl, hea, hst, hk⟩
      have S4 := hide hst
      have K4 := hide ((unhide K3).trans hk)
      have M4 := hide ((unhide M3).keep hk)
      clear hst hk
      go_wp2
      go_roundw
      case rel => exact ⟨1, _, by omega, rfl, rfl, hide (.inr (.inr (.inl ⟨rfl, by simp only [ByteArray.size_append, sz]; simp; omega, (unhide S4).mono (by omega)⟩))), unhide K4, M4⟩
      case measure => simp [intOf]
    · have S3 := hide hs
      clear hs hin
      go_wp2_with fail
      refine (state_two _ _ _ (by omega) (unhide S3) (unhide M3)).mono ?_
      rintro e w4 ⟨ea, rfl, hea, hst, hk⟩
      have S4 := hide hst
      have K4 := hide ((unhide K3).trans hk)
      have M4 := hide ((unhide M3).keep hk)
      clear hst hk
      go_wp2
      go_roundw
      case rel => exact ⟨0, _, by omega, rfl, rfl, hide (.inr (.inr (.inr ⟨rfl, by simp only [ByteArray.size_append, sz]; simp; omega, (unhide S4).mono (by omega)⟩))), unhide K4, M4⟩
      case measure => simp [intOf]
    · have S3 := hide hs
      clear hs hin
      go_wp2_with fail
      refine (expr_two _ _ _ (by omega) (unhide S3) (unhide M3)).mono ?_
      rintro e w4 ⟨ea, rfl, hea, hst, hk⟩
      have S4 := hide hst
      have K4 := hide ((unhide K3).trans hk)
      have M4 := hide ((unhide M3).keep hk)
      clear hst hk
      go_wp2
      go_ret
      exact ⟨_, rfl, by simp only [ByteArray.size_append, sz]; simp; omega, (unhide S4).mono (by omega), unhide K4⟩

theorem St.drew {N : Int} {w : World} (h : St g a len cap N w) : St g a len cap N w.drew := by
  obtain ⟨n, s, h1, h2⟩ := h.src
  exact ⟨⟨n, s, src_drew h1, h2⟩, h.row, h.apart, h.few⟩
theorem byte_st (N : Int) (w : World) (h : St g a len cap N w) (hN : N ≤ 900000000) :
    Calls Tryd.prog 93 #[.pointer (some ⟨g, 0, none⟩)] w fun e w' => ∃ r : Int, e = .returned (.int .i64 r) ∧ 0 ≤ r ∧ r < 256 ∧ St g a len cap (N + 1) w' ∧ Keeps g w w' := by
  obtain ⟨n, seed, h1, h2⟩ := h.src
  refine (byte_any g a len cap n seed w h1 (by omega) h.few h.row h.apart).mono ?_
  rintro e w' ⟨r, s', rfl, r0, r1, hs, ho⟩
  exact ⟨r, rfl, r0, r1, ⟨⟨n + 1, s', hs, by omega⟩, row_only h.row ho h.apart, h.apart, h.few⟩, .of_only ho⟩

set_option maxHeartbeats 1000000 in
theorem next_big (N m : Int) (w : World) (h : St g a len cap N w) (hN : N ≤ 800000000) (hm1 : 256 < m) (hm2 : m ≤ 1000000) :
    Calls Tryd.prog 63 #[.pointer (some ⟨g, 0, none⟩), .int .i64 m] w fun e w' => ∃ r : Int, e = .returned (.int .i64 r) ∧ 0 ≤ r ∧ r < m ∧ St g a len cap (N + 3) w' ∧ Keeps g w w' := by
  have S0 := hide h
  clear h
  go_enter Tryd.func63, Tryd.ntmps63
  go_wp2_with fail
  refine (byte_st N _ (unhide S0) (by omega)).mono ?_
  rintro e w1 ⟨x, rfl, x0, x1, hst, hk⟩
  have S1 := hide hst
  have K1 := hide hk
  clear hst hk
  go_wp2_with fail
  refine (byte_st _ _ (unhide S1) (by omega)).mono ?_
  rintro e w2 ⟨y, rfl, y0, y1, hst, hk⟩
  have S2 := hide hst
  have K2 := hide ((unhide K1).trans hk)
  clear hst hk
  go_wp2_with fail
  refine (byte_st _ _ (unhide S2) (by omega)).mono ?_
  rintro e w3 ⟨z, rfl, z0, z1, hst, hk⟩
  have S3 := hide hst
  have K3 := hide ((unhide K2).trans hk)
  clear hst hk
  go_wp2
  go_ret
  exact ⟨_, rfl, Int.emod_nonneg _ (by omega), Int.emod_lt_of_pos _ (by omega), (unhide S3).mono (by omega), unhide K3⟩

theorem next_one (N : Int) (w : World) (h : St g a len cap N w) :
    Calls Tryd.prog 63 #[.pointer (some ⟨g, 0, none⟩), .int .i64 1] w fun e w' => ∃ r : Int, e = .returned (.int .i64 r) ∧ 0 ≤ r ∧ r < 1 ∧ St g a len cap N w' ∧ Keeps g w w' := by
  have S0 := hide h
  clear h
  go_enter Tryd.func63, Tryd.ntmps63
  go_wp2
  go_ret
  exact ⟨0, rfl, by omega, by omega, unhide S0, Keeps.refl _ _⟩

theorem nextg_st (N m : Int) (w : World) (h : St g a len cap N w) (hN : N ≤ 800000000) (hm1 : 1 ≤ m) (hm2 : m ≤ 1000000) :
    Calls Tryd.prog 63 #[.pointer (some ⟨g, 0, none⟩), .int .i64 m] w fun e w' => ∃ r : Int, e = .returned (.int .i64 r) ∧ 0 ≤ r ∧ r < m ∧ St g a len cap (N + 3) w' ∧ Keeps g w w' := by
  by_cases h1 : m = 1
  · subst h1
    exact (next_one N w h).mono fun e w' ⟨r, e1, e2, e3, e4, e5⟩ => ⟨r, e1, e2, e3, e4.mono (by omega), e5⟩
  by_cases h2 : m ≤ 256
  · exact (next_st N m w h (by omega) (by omega) h2).mono fun e w' ⟨r, e1, e2, e3, e4, e5⟩ => ⟨r, e1, e2, e3, e4.mono (by omega), e5⟩
  · exact next_big N m w h hN (by omega) hm2

/-- bytes in block b -/
def IsB (w : World) (b n : Nat) : Prop := ∀ j, j < n → ∃ c : Int, w.cell? ⟨b, j, none⟩ = some (.int .u8 c)
theorem IsB.keep {w w' : World} {b n : Nat} (h : IsB w b n) (k : Keeps g w w') (hb : b ≠ g) : IsB w' b n := fun j hj => by
  obtain ⟨c, hc⟩ := h j hj
  exact ⟨c, k.cell hc hb⟩
theorem IsB.less {w : World} {b n m : Nat} (h : IsB w b n) (hm : m ≤ n) : IsB w b m := fun j hj => h j (by omega)
theorem IsB.set {w : World} {b n k : Nat} {x : Int} (h : IsB w b n) : IsB (w.setCell ⟨b, k, none⟩ (.int .u8 x)) b n := fun j hj => by
  obtain ⟨c, hc⟩ := h j hj
  by_cases e : j = k
  · subst e
    exact ⟨x, World.cell?_setCell_same' _ _ _ (by rw [hc]; rfl)⟩
  · exact ⟨c, by rw [World.cell?_setCell_other _ _ _ _ (by simp)]; exact hc⟩
theorem IsB.conv {w : World} {b n cp : Nat} (h : IsB w b n) : ∃ s : ByteArray, s.size = n ∧ (convert 22 9 (.slice (some ⟨b, 0, none⟩) n cp)).run Tryd.prog w = .ok (.string s) w := by
  have hx : ∃ xs : List Int, xs.length = n ∧ ∀ i, i < n → w.cell? ⟨b, 0 + i, none⟩ = some (.int .u8 (xs.getD i 0)) := by
    induction n with
    | zero => exact ⟨[], rfl, fun i hi => by omega⟩
    | succ n ih =>
      obtain ⟨xs, h1, h2⟩ := ih (h.less (by omega))
      obtain ⟨c, hc⟩ := h n (by omega)
      refine ⟨xs ++ [c], by simp [h1], fun i hi => ?_⟩
      by_cases e : i = n
      · subst e
        rw [Nat.zero_add, hc]
        simp [← h1]
      · rw [h2 i (by omega)]
        have : i < xs.length := by omega
        simp [List.getD_eq_getElem?_getD, List.getElem?_append_left this]
  obtain ⟨xs, h1, h2⟩ := hx
  refine ⟨strOfNums xs, ?_, run_convert_bytes_arg w 22 5 Tryd.underlying22 Tryd.underlying5 b 0 n cp xs h1 h2 9 Tryd.underlying9⟩
  rw [← h1]
  exact strOfNums_size xs

end Go.Proofs.YtckdacbopejdmaaDoor
