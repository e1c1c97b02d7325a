/- A mark's text, for any mark: some text. -/
import Derived.Test.YtfhjmmkpmjemoaaDoorTreeMark
import Derived.Laws.IdiomStrings
namespace Go.Proofs.YtfhjmmkpmjemoaaDoor
open Go.RowKit Go.Joins
set_option linter.unusedVariables false

theorem convM (u : World) (c : Int) (h0 : 0 ≤ c) (h1 : c ≤ 255) : (convert 22 9 (.slice (some ⟨u.heap.size, 0, none⟩) 1 1)).run Tryd.prog (u.alloc (.cells #[.int .u8 c] 5)) = .ok (.string ⟨#[UInt8.ofNat c.toNat]⟩) (u.alloc (.cells #[.int .u8 c] 5)) := by
  have h := run_convert_bytes_back (P := Tryd.prog) (u.alloc (.cells #[.int .u8 c] 5)) 22 9 5 ⟨u.heap.size, 0, none⟩ 1 [UInt8.ofNat c.toNat] Tryd.underlying22 Tryd.underlying5 Tryd.underlying9 (fun j hj => by
    obtain rfl : j = 0 := by simpa using hj
    rw [Addr.add_lit, Nat.add_zero, show (u.alloc (.cells #[.int .u8 c] 5)).cell? ⟨u.heap.size, 0, none⟩ = some (.int .u8 c) by simp]
    simp
    omega)
  exact h

/-- so far: what is left has no more digits than there is room for -/
def RoomAt (n s : Nat) : Prop := s ≤ 19 ∧ n < 10 ^ (19 - s)
theorem RoomAt.next {n s : Nat} (h : RoomAt n s) (h0 : 0 < n) : RoomAt (n / 10) (1 + s) := by
  obtain ⟨h1, h2⟩ := h
  by_cases hs : s = 19
  · subst hs; simp at h2; omega
  · refine ⟨by omega, ?_⟩
    have e : 19 - s = (19 - (1 + s)) + 1 := by omega
    rw [e, Nat.pow_succ] at h2
    exact Nat.div_lt_of_lt_mul (by rw [Nat.mul_comm]; exact h2)
theorem RoomAt.start {z : Int} (h0 : 1 ≤ z) (h1 : z ≤ 9223372036854775807) : RoomAt z.toNat 0 := ⟨by omega, by
  show z.toNat < 10 ^ 19
  have : (10 : Nat) ^ 19 = 10000000000000000000 := by decide
  omega⟩

set_option maxHeartbeats 2000000 in
set_option maxRecDepth 100000 in
theorem markText_some (z : Int) (w : World) (h0 : 1 ≤ z) (h1 : z ≤ 9223372036854775807) :
    Calls Tryd.prog 80 #[.int .i64 z] w fun e w' => (∃ t : ByteArray, e = .returned (.string t) ∧ t.size ≤ 20) ∧ Below w.heap.size w w' := by
  have hz : ¬ z ≤ 0 := by omega
  have hst : Hid (RoomAt z.toNat 0) := hide (RoomAt.start h0 h1)
  go_enter Tryd.func80, Tryd.ntmps80
  go_wp2
  go_loopw [0, 3] (fun m o wx => ∃ (n : Nat) (t : ByteArray), n ≤ 9223372036854775807 ∧ m = .int .i64 (n : Int) ∧ o = .string t ∧ Hid (RoomAt n t.size) ∧ Below w.heap.size w wx) (fun m _ _ => (intOf m).toNat)
  case atStart => exact ⟨z.toNat, ⟨#[]⟩, by omega, by rw [Int.toNat_of_nonneg (by omega)], rfl, hide (unhide hst), Below.refl _ _⟩
  case round =>
    clear hst hz
    obtain ⟨n, t, hn, rfl, rfl, hin, hnx⟩ := hrel
    have hts : t.size ≤ 19 := (unhide hin).1
    by_cases hp : 0 < n
    · have hp' : (0 : Int) < (n : Int) := by omega
      have hd := hide ((unhide hin).next hp)
      obtain ⟨r, hr⟩ : ∃ r, r = n % 10 := ⟨_, rfl⟩
      obtain ⟨q, hq⟩ : ∃ q, q = n / 10 := ⟨_, rfl⟩
      rw [← hq] at hd
      have hr9 : r ≤ 9 := by omega
      have hqn : q < n := by omega
      have hrm : (n : Int).tmod 10 = (r : Int) := by rw [Int.tmod_eq_emod_of_nonneg (by omega)]; omega
      have hqd : (n : Int).tdiv 10 = (q : Int) := by rw [Int.tdiv_eq_ediv_of_nonneg (by omega)]; omega
      have hw2 : IntKind.u8.wrap (48 + (r : Int)) = 48 + (r : Int) := by unfold IntKind.wrap; simp [IntKind.bits, IntKind.signed]; omega
      have hcv : ∀ u : World, (convert 22 9 (.slice (some ⟨u.heap.size, 0, none⟩) 1 1)).run Tryd.prog (u.alloc (.cells #[.int .u8 (48 + (r : Int))] 5)) = .ok (.string ⟨#[UInt8.ofNat (48 + r)]⟩) (u.alloc (.cells #[.int .u8 (48 + (r : Int))] 5)) := fun u => by
        rw [convM u (48 + (r : Int)) (by omega) (by omega), show (48 + (r : Int)).toNat = 48 + r by omega]
      have hzz : (⟨#[UInt8.ofNat (48 + r)]⟩ : ByteArray).size = 1 := rfl
      generalize (⟨#[UInt8.ofNat (48 + r)]⟩ : ByteArray) = D at hcv hzz
      have hsz : (D ++ t).size = 1 + t.size := by rw [ByteArray.size_append, hzz]
      rw [← hsz] at hd
      clear hr hq hsz
      go_wp2
      go_roundw
      case rel => exact ⟨q, _, by omega, rfl, rfl, hide (unhide hd), nx_al hnx⟩
      case measure => simp [intOf]; omega
    · have hp' : ¬ (0 : Int) < (n : Int) := by omega
      obtain rfl : n = 0 := by omega
      have hzz : (⟨#[109]⟩ : ByteArray).size = 1 := rfl
      have hsz : (⟨#[109]⟩ ++ t : ByteArray).size ≤ 20 := by rw [ByteArray.size_append, hzz]; omega
      go_wp2
      go_ret
      exact ⟨⟨_, rfl, hsz⟩, hnx⟩
end Go.Proofs.YtfhjmmkpmjemoaaDoor
