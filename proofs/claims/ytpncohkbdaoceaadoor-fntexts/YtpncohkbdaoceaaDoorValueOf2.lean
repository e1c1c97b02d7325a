/- 'spec.ValueOf' as a whole: some right value. -/
import Derived.Test.YtpncohkbdaoceaaDoorValueOfWalk
import Derived.Test.YtpncohkbdaoceaaDoorBuiltin2
namespace Go.Proofs.YtpncohkbdaoceaaDoor
open Go.RowKit
set_option linter.unusedVariables false

set_option maxHeartbeats 1000000 in
theorem source_any (a : Option Addr) (len cap : Nat) (w : World) (hlen : len ≤ 1048577) :
    Calls Tryd.prog 28 #[.slice a len cap] w fun e w' => e = .returned (.pointer (some ⟨w.heap.size, 0, none⟩)) ∧ Below w.heap.size w w' ∧ w.heap.size < w'.heap.size ∧ SrcAt w' w.heap.size a len cap 0 ((len : Int) % 1000) := by
  go_enter Tryd.func28, Tryd.ntmps28
  go_wp2
  go_ret
  exact ⟨rfl, nx_alloc _ _, by simp, by simp, by simp, by simp, by simp, by simp, by omega, by omega, by omega, by omega⟩

theorem row_block {w : World} {a : Option Addr} {len cap : Nat} {zs : List Int} (h : IsRow .u8 w a len cap zs) (h0 : 0 < cap) : ∀ x, a = some x → ¬ x.block = w.heap.size := by
  rcases h with ⟨rfl, _, _, _⟩ | ⟨x, rfl, hl, hm, hz, hcell, hwz⟩
  · intro x hx; cases hx
  · intro y hy
    cases hy
    have := World.block_lt_of_cell? _ _ (hcell 0 (by omega))
    have e : (x.add 0).block = x.block := by unfold Addr.add; split <;> rfl
    omega

set_option maxHeartbeats 1000000 in
theorem ValueOf_any (a : Option Addr) (len cap : Nat) (zs : List Int) (w : World) (hlen : len ≤ 1048576) (hrow : IsRow .u8 w a len cap zs) :
    Calls Tryd.prog 10 #[.slice a len cap] w fun e w' => ∃ (k n : Int) (t : ByteArray), e = .returned (.agg #[.int .i64 k, .int .i64 n, .string t]) ∧ vokB k n t = true ∧ t.size ≤ 60 ∧ Below w.heap.size w w' := by
  have HR := hide hrow
  clear hrow
  go_enter Tryd.func10, Tryd.ntmps10
  go_wp2_with fail
  refine (source_any a len cap _ (by omega)).mono ?_
  rintro e w1 ⟨rfl, hb1, hz1, hs1⟩
  have hsz : (w.alloc (.cells #[.int .i64 0, .int .i64 0, .string ⟨#[]⟩] 24)).heap.size = w.heap.size + 1 := by simp
  have hg : 0 < cap → ∀ x, a = some x → ¬ x.block = w.heap.size + 1 := fun hc => by
    have := row_block ((unhide HR).later (nx_alloc w (.cells #[.int .i64 0, .int .i64 0, .string ⟨#[]⟩] 24))) hc
    rwa [hsz] at this
  rw [hsz] at hb1 hs1 hz1
  have HV := hide (value_any (w.heap.size + 1) a len cap zs 0 _ w1 hs1 (by omega) hlen ((unhide HR).later (z24_out hb1)) hg)
  have H1 := hide hb1
  clear hs1 HR hg hsz hb1
  go_wp2_with fail
  refine (unhide HV).mono ?_
  rintro e w2 ⟨k, n, t, rfl, hv, ht, hb2⟩
  have h12 := (unhide H1).trans hb2
  obtain ⟨hc, hf, hz⟩ := z24_cells h12
  have HB := hide (z24_out h12)
  clear hb2 hz1 HV h12
  go_wp2
  exact bodyPost_ret (v := .agg #[.int .i64 k, .int .i64 n, .string t]) (by simp [results, Tryd.results10, go_sem, hc]) rfl ⟨k, n, t, rfl, hv, ht, set3 (unhide HB) (Nat.le_refl _)⟩

end Go.Proofs.YtpncohkbdaoceaaDoor
