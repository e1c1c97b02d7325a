/- Whether one of a list has too many bytes: slices.ContainsFunc at 'impl.hasTooMuch'. -/
import Derived.Test.YtcihmcgiokcibaaDoorSentP
namespace Go.Proofs.YtcihmcgiokcibaaDoor
open Go.RowKit Go.Joins
set_option linter.unusedVariables false

theorem hasTooMuch_any (c : Int) (t : ByteArray) (s : Bool) (w : World) (ht : t.size ≤ maxLen) :
    Calls Tryd.prog 16 #[.agg #[.int .i64 c, .string t, .bool s]] w fun e w' => e = .returned (.bool (decide (4000 < t.size))) ∧ Below w.heap.size w w' := by
  unfold maxLen at ht
  go_enter Tryd.func16, Tryd.ntmps16
  go_wp2
  go_ret
  exact ⟨by simp; omega, qx_alloc _ _⟩

set_option maxHeartbeats 1000000 in
theorem indexMuch_any (p : Option Addr) (vs : List SV) (cap : Nat) (w : World) (hrow : SentsAt w p vs) (hlen : vs.length ≤ 1048576) (hsz : ∀ v ∈ vs, v.t.size ≤ maxLen) :
    Calls Tryd.prog 20 #[.slice p vs.length cap, .func (.func 16) #[] #[]] w fun e w' => ∃ r : Int, e = .returned (.int .i64 r) ∧ (vs.any bigS = decide (0 ≤ r)) ∧ Below w.heap.size w w' := by
  have HR := hide hrow
  have HS := hide hsz
  clear hrow hsz
  go_enter Tryd.func20, Tryd.ntmps20
  go_wp2
  go_loopw [5, 8] (fun _ i wx => ∃ k : Nat, k ≤ vs.length ∧ i = .int .i64 k ∧ Hid ((vs.take k).any bigS = false) ∧ Below w.heap.size w wx) (fun _ i _ => vs.length - (intOf i).toNat)
  case atStart => exact ⟨0, by omega, rfl, hide rfl, Below.refl _ _⟩
  case round =>
    obtain ⟨k, hk, rfl, HB, hnx⟩ := hrel
    by_cases hlt : k < vs.length
    · obtain ⟨b, off, rfl, _, q0, q1, q2⟩ := (unhide HR).later hnx k hlt
      have HT := hide (fun h => any_takeS hlt (unhide HB) h)
      have HG := hide (fun h : 4000 < vs[k].t.size => (List.any_eq_true.2 ⟨vs[k], List.getElem_mem hlt, by simp [bigS]; exact h⟩ : vs.any bigS = true))
      have hsz := unhide HS vs[k] (List.getElem_mem hlt)
      generalize vs[k].c = vc at q0
      generalize vs[k].t = vt at q1 HT HG hsz
      generalize vs[k].s = vb at q2
      have hcall := fun wz => hasTooMuch_any vc vt vb wz hsz
      by_cases h4 : 4000 < vt.size
      · rw [decide_eq_true h4] at hcall
        go_wp2_with fail
        refine (hcall _).mono ?_
        rintro e w' ⟨rfl, hb'⟩
        go_wp2
        go_ret
        exact ⟨(k : Int), rfl, by rw [unhide HG h4]; simp, qx_trans hnx hb'⟩
      · rw [decide_eq_false h4] at hcall
        go_wp2_with fail
        refine (hcall _).mono ?_
        rintro e w' ⟨rfl, hb'⟩
        go_wp2
        go_roundw
        case rel => exact ⟨k + 1, by omega, by go_num, hide (unhide HT h4), qx_trans hnx hb'⟩
        case measure => simp [intOf]; omega
    · have hz := unhide HB
      rw [List.take_of_length_le (by omega)] at hz
      go_wp2
      go_ret
      exact ⟨-1, rfl, by rw [hz]; rfl, hnx⟩

theorem containsMuch_any (p : Option Addr) (vs : List SV) (cap : Nat) (w : World) (hrow : SentsAt w p vs) (hlen : vs.length ≤ 1048576) (hsz : ∀ v ∈ vs, v.t.size ≤ maxLen) :
    Calls Tryd.prog 15 #[.slice p vs.length cap, .func (.func 16) #[] #[]] w fun e w' => e = .returned (.bool (vs.any bigS)) ∧ Below w.heap.size w w' := by
  generalize hq : vs.any bigS = q
  have HR := hide hrow
  have HS := hide hsz
  have HQ := hide hq
  clear hrow hsz hq
  go_enter Tryd.func15, Tryd.ntmps15
  go_wp2_with fail
  refine (indexMuch_any p vs cap _ (unhide HR) hlen (unhide HS)).mono ?_
  rintro e w' ⟨r, rfl, hr, hb⟩
  rw [unhide HQ] at hr
  subst hr
  go_wp2
  go_ret
  exact ⟨rfl, hb⟩

end Go.Proofs.YtcihmcgiokcibaaDoor
