/- Drawn sources: statements, blocks, programs. -/
import Derived.Test.YtckdacbopejdmaaDoorAnyWalk1
namespace Go.Proofs.YtckdacbopejdmaaDoor
open Go.RowKit
set_option linter.unusedVariables false

variable {g : Nat} {a : Option Addr} {len cap : Nat}

def StateC (g : Nat) (a : Option Addr) (len cap : Nat) (d : Int) (B : Nat) (D : Int) : Prop := ∀ (N : Int) (q : Nat) (w : World), N + D ≤ 800000000 → St g a len cap N w → Nm g w q →
    Calls Tryd.prog 97 #[.pointer (some ⟨g, 0, none⟩), .slice (some ⟨q, 0, none⟩) 3 3, .int .i64 d] w fun e w' => ∃ s : ByteArray, e = .returned (.string s) ∧ s.size ≤ B ∧ St g a len cap (N + D) w' ∧ Keeps g w w'
def BlockC (g : Nat) (a : Option Addr) (len cap : Nat) (d : Int) (B : Nat) (D : Int) : Prop := ∀ (N : Int) (q : Nat) (w : World), N + D ≤ 800000000 → St g a len cap N w → Nm g w q →
    Calls Tryd.prog 105 #[.pointer (some ⟨g, 0, none⟩), .slice (some ⟨q, 0, none⟩) 3 3, .int .i64 d] w fun e w' => ∃ s : ByteArray, e = .returned (.string s) ∧ s.size ≤ B ∧ St g a len cap (N + D) w' ∧ Keeps g w w'

set_option maxHeartbeats 4000000 in
theorem state_zero : StateC g a len cap 0 70 18 := by
  intro N q w hN hst0 hnm
  have S0 := hide hst0
  have M0 := hide hnm
  have K0 := hide (Keeps.refl g w)
  clear hst0 hnm
  go_enter Tryd.func97, Tryd.ntmps97
  go_wp2_with fail
  refine (expr_two _ q _ (by omega) (unhide S0) (unhide M0)).mono ?_
  rintro e w1 ⟨ea, rfl, hea, hst, hk⟩
  have S1 := hide hst
  have K1 := hide ((unhide K0).trans hk)
  have M1 := hide ((unhide M0).keep hk)
  clear hst hk
  go_wp2_with fail
  refine (pick_st _ 3 70 _ _ (unhide S1) (by omega) (by omega) (by omega) rfl (fun j hj => by
    obtain rfl | rfl | rfl : j = 0 ∨ j = 1 ∨ j = 2 := by omega
    · exact ⟨_, rfl, by simp only [ByteArray.size_append, sz]; simp; omega⟩
    · exact ⟨_, rfl, by simp only [ByteArray.size_append, sz]; simp; omega⟩
    · exact ⟨_, rfl, by decide⟩)).mono ?_
  rintro e w2 ⟨s, rfl, hs, hst, hk⟩
  have S2 := hide hst
  have K2 := hide ((unhide K1).trans hk)
  have M2 := hide ((unhide M1).keep hk)
  clear hst hk
  go_wp2
  go_ret
  exact ⟨_, rfl, (by first | omega | (simp only [ByteArray.size_append]; omega) | (simp only [ByteArray.size_append, sz]; simp; omega)), (unhide S2).mono (by omega), unhide K2⟩

set_option maxHeartbeats 8000000 in
theorem state_succ (d : Int) (B : Nat) (D : Int) (hd0 : 1 ≤ d) (hd1 : d ≤ 100) (hB1 : B ≤ 100000) (hD : 0 ≤ D) (hD1 : D ≤ 100000) (HE : BlockC g a len cap (d - 1) B D) : StateC g a len cap d (2 * B + 165) (2 * D + 19) := by
  intro N q w hN hst0 hnm
  have S0 := hide hst0
  have M0 := hide hnm
  have K0 := hide (Keeps.refl g w)
  have HX := hide HE
  have hz : (d == 0) = false := beq_eq_false_iff_ne.2 (by omega)
  clear hst0 hnm HE
  go_enter Tryd.func97, Tryd.ntmps97
  go_wp2_with fail
  refine (expr_two _ q _ (by omega) (unhide S0) (unhide M0)).mono ?_
  rintro e w1 ⟨ea, rfl, hea, hst, hk⟩
  have S1 := hide hst
  have K1 := hide ((unhide K0).trans hk)
  have M1 := hide ((unhide M0).keep hk)
  clear hst hk
  go_wp2_with fail
  refine (unhide HX _ q _ (by omega) (unhide S1) (unhide M1)).mono ?_
  rintro e w2 ⟨eb, rfl, heb, hst, hk⟩
  have S2 := hide hst
  have K2 := hide ((unhide K1).trans hk)
  have M2 := hide ((unhide M1).keep hk)
  clear hst hk
  go_wp2_with fail
  refine (next_st _ 10 _ (unhide S2) (by omega) (by omega) (by omega)).mono ?_
  rintro e w3 ⟨r, rfl, r0, r1, hst, hk⟩
  have S3 := hide hst
  have K3 := hide ((unhide K2).trans hk)
  have M3 := hide ((unhide M2).keep hk)
  clear hst hk
  obtain rfl | rfl | rfl | rfl | rfl | rfl | rfl | rfl | rfl | hr : r = 0 ∨ r = 1 ∨ r = 2 ∨ r = 3 ∨ r = 4 ∨ r = 5 ∨ r = 6 ∨ r = 7 ∨ r = 8 ∨ 9 ≤ r := by omega
  · go_wp2
    go_ret
    exact ⟨_, rfl, (by first | omega | (simp only [ByteArray.size_append]; omega) | (simp only [ByteArray.size_append, sz]; simp; omega)), (unhide S3).mono (by omega), unhide K3⟩
  · go_wp2
    go_ret
    exact ⟨_, rfl, (by first | omega | (simp only [ByteArray.size_append]; omega) | (simp only [ByteArray.size_append, sz]; simp; omega)), (unhide S3).mono (by omega), unhide K3⟩
  · go_wp2_with fail
    refine (unhide HX _ q _ (by omega) (unhide S3) (unhide M3)).mono ?_
    rintro e w4 ⟨ec, rfl, hec, hst, hk⟩
    have S4 := hide hst
    have K4 := hide ((unhide K3).trans hk)
    have M4 := hide ((unhide M3).keep hk)
    clear hst hk
    go_wp2
    go_ret
    exact ⟨_, rfl, (by first | omega | (simp only [ByteArray.size_append]; omega) | (simp only [ByteArray.size_append, sz]; simp; omega)), (unhide S4).mono (by omega), unhide K4⟩
  · go_wp2
    go_ret
    exact ⟨_, rfl, (by first | omega | (simp only [ByteArray.size_append]; omega) | (simp only [ByteArray.size_append, sz]; simp; omega)), (unhide S3).mono (by omega), unhide K3⟩
  · go_wp2_with fail
    refine (next_st _ 5 _ (unhide S3) (by omega) (by omega) (by omega)).mono ?_
    rintro e w4 ⟨z, rfl, z0, z1, hst, hk⟩
    have S4 := hide hst
    have K4 := hide ((unhide K3).trans hk)
    have M4 := hide ((unhide M3).keep hk)
    clear hst hk
    go_wp2_with fail
    refine (digits_st _ _ _ (unhide S4) (by omega) (by omega)).mono ?_
    rintro e w5 ⟨s, rfl, hs, hst, hk⟩
    have S5 := hide hst
    have K5 := hide ((unhide K4).trans hk)
    have M5 := hide ((unhide M4).keep hk)
    clear hst hk
    go_wp2
    go_ret
    exact ⟨_, rfl, (by first | omega | (simp only [ByteArray.size_append]; omega) | (simp only [ByteArray.size_append, sz]; simp; omega)), (unhide S5).mono (by omega), unhide K5⟩
  · go_wp2
    go_ret
    exact ⟨_, rfl, (by first | omega | (simp only [ByteArray.size_append]; omega) | (simp only [ByteArray.size_append, sz]; simp; omega)), (unhide S3).mono (by omega), unhide K3⟩
  · go_wp2
    go_ret
    exact ⟨_, rfl, (by first | omega | (simp only [ByteArray.size_append]; omega) | (simp only [ByteArray.size_append, sz]; simp; omega)), (unhide S3).mono (by omega), unhide K3⟩
  · go_wp2
    go_ret
    exact ⟨_, rfl, (by first | omega | (simp only [ByteArray.size_append]; omega) | (simp only [ByteArray.size_append, sz]; simp; omega)), (unhide S3).mono (by omega), unhide K3⟩
  · go_wp2
    go_ret
    exact ⟨_, rfl, (by first | omega | (simp only [ByteArray.size_append]; omega) | (simp only [ByteArray.size_append, sz]; simp; omega)), (unhide S3).mono (by omega), unhide K3⟩
  · have q0 : (r == 0) = false := beq_eq_false_iff_ne.2 (by omega)
    have q1 : (r == 1) = false := beq_eq_false_iff_ne.2 (by omega)
    have q2 : (r == 2) = false := beq_eq_false_iff_ne.2 (by omega)
    have q3 : (r == 3) = false := beq_eq_false_iff_ne.2 (by omega)
    have q4 : (r == 4) = false := beq_eq_false_iff_ne.2 (by omega)
    have q5 : (r == 5) = false := beq_eq_false_iff_ne.2 (by omega)
    have q6 : (r == 6) = false := beq_eq_false_iff_ne.2 (by omega)
    have q7 : (r == 7) = false := beq_eq_false_iff_ne.2 (by omega)
    have q8 : (r == 8) = false := beq_eq_false_iff_ne.2 (by omega)
    go_wp2
    go_ret
    exact ⟨_, rfl, (by first | omega | (simp only [ByteArray.size_append]; omega) | (simp only [ByteArray.size_append, sz]; simp; omega)), (unhide S3).mono (by omega), unhide K3⟩

/-- so far in a block: k statements are still to come -/
def BlkAt (g : Nat) (a : Option Addr) (len cap : Nat) (B : Nat) (D N : Int) (k z : Nat) (w : World) : Prop :=
  (k = 2 ∧ z ≤ 2 ∧ St g a len cap (N + 1) w) ∨ (k = 1 ∧ z ≤ 3 + B ∧ St g a len cap (N + 1 + D) w) ∨ (k = 0 ∧ z ≤ 4 + 2 * B ∧ St g a len cap (N + 1 + 2 * D) w)

set_option maxHeartbeats 4000000 in
theorem block_any (d : Int) (B : Nat) (D : Int) (hB1 : B ≤ 100000) (hD : 0 ≤ D) (hD1 : D ≤ 100000) (HE : StateC g a len cap d B D) : BlockC g a len cap d (2 * B + 5) (2 * D + 1) := by
  intro N q w hN hst0 hnm
  have S0 := hide hst0
  have M0 := hide hnm
  have K0 := hide (Keeps.refl g w)
  have HX := hide HE
  clear hst0 hnm HE
  go_enter Tryd.func105, Tryd.ntmps105
  go_wp2_with fail
  refine (next_st _ 3 _ (unhide S0) (by omega) (by omega) (by omega)).mono ?_
  rintro e w1 ⟨r, rfl, r0, r1, hst, hk⟩
  have S1 := hide hst
  have K1 := hide ((unhide K0).trans hk)
  have M1 := hide ((unhide M0).keep hk)
  clear hst hk
  obtain ⟨k0, rfl⟩ := Int.eq_ofNat_of_zero_le r0
  have hat0 : Hid (BlkAt g a len cap B D N k0 2 w1) := hide (by
    obtain rfl | rfl | rfl : k0 = 0 ∨ k0 = 1 ∨ k0 = 2 := by omega
    · exact .inr (.inr ⟨rfl, by omega, (unhide S1).mono (by omega)⟩)
    · exact .inr (.inl ⟨rfl, by omega, (unhide S1).mono (by omega)⟩)
    · exact .inl ⟨rfl, by omega, unhide S1⟩)
  have hk0 : k0 ≤ 2 := by omega
  go_wp2
  go_loopw [7, 8] (fun m i wx => ∃ (k : Nat) (s : ByteArray), k ≤ 2 ∧ i = .int .i64 k ∧ m = .string s ∧ Hid (BlkAt g a len cap B D N k s.size wx) ∧ Keeps g w wx) (fun _ i _ => (intOf i).toNat)
  case atStart => exact ⟨k0, _, hk0, rfl, rfl, hide (unhide hat0), unhide K1⟩
  case round =>
    clear hat0 hk0 r1
    obtain ⟨k, s, hk, rfl, rfl, hin, hkp⟩ := hrel
    have M3 := hide ((unhide M0).keep hkp)
    have K3 := hide hkp
    clear hkp
    rcases unhide hin with ⟨rfl, hz, hs⟩ | ⟨rfl, hz, hs⟩ | ⟨rfl, hz, hs⟩
    · have S3 := hide hs
      clear hs hin
      go_wp2_with fail
      refine (unhide HX _ q _ (by omega) (unhide S3) (unhide M3)).mono ?_
      rintro e w4 ⟨ea, rfl, hea, hst, hk⟩
      have S4 := hide hst
      have K4 := hide ((unhide K3).trans hk)
      have M4 := hide ((unhide M3).keep hk)
      clear hst hk
      go_wp2
      go_roundw
      case rel => exact ⟨1, _, by omega, rfl, rfl, hide (.inr (.inl ⟨rfl, by simp only [ByteArray.size_append, sz]; simp; omega, unhide S4⟩)), unhide K4⟩
      case measure => simp [intOf]
    · have S3 := hide hs
      clear hs hin
      go_wp2_with fail
      refine (unhide HX _ q _ (by omega) (unhide S3) (unhide M3)).mono ?_
      rintro e w4 ⟨ea, rfl, hea, hst, hk⟩
      have S4 := hide hst
      have K4 := hide ((unhide K3).trans hk)
      have M4 := hide ((unhide M3).keep hk)
      clear hst hk
      go_wp2
      go_roundw
      case rel => exact ⟨0, _, by omega, rfl, rfl, hide (.inr (.inr ⟨rfl, by simp only [ByteArray.size_append, sz]; simp; omega, (unhide S4).mono (by omega)⟩)), unhide K4⟩
      case measure => simp [intOf]
    · have S3 := hide hs
      clear hs hin
      go_wp2
      go_ret
      exact ⟨_, rfl, by simp only [ByteArray.size_append, sz]; simp; omega, (unhide S3).mono (by omega), unhide K3⟩

theorem state_two : StateC g a len cap 2 1995 393 :=
  state_succ 2 915 187 (by omega) (by omega) (by omega) (by omega) (by omega) (block_any 1 455 93 (by omega) (by omega) (by omega) (state_succ 1 145 37 (by omega) (by omega) (by omega) (by omega) (by omega) (block_any 0 70 18 (by omega) (by omega) (by omega) state_zero)))

end Go.Proofs.YtckdacbopejdmaaDoor
