/- What is right of a branch by itself, the code's side: 'partsOK' answers 'partsB'. -/
import Derived.Test.YtbipgmikgokfpaaDoorNodeWalk2
namespace Go.Proofs.YtbipgmikgokfpaaDoor
open Go.RowKit Go.Joins
set_option linter.unusedVariables false

set_option maxHeartbeats 4000000 in
set_option maxRecDepth 100000 in
theorem partsOK_named (b : Nat) (k n : Int) (t : ByteArray) (pn : Option Addr) (cn : Nat) (w : World) (h0 : w.cell? ⟨b, 0, none⟩ = some (.int .i64 k)) (h1 : w.cell? ⟨b, 1, none⟩ = some (.int .i64 n)) (h2 : w.cell? ⟨b, 2, none⟩ = some (.string t)) (h3 : w.cell? ⟨b, 3, none⟩ = some (.slice pn 0 cn)) (hk : k = 5 ∨ k = 10 ∨ k = 11 ∨ k = 12 ∨ k = 17) (hz : n = 0) (hs : t.size ≤ maxLen) (ht : Hid (TabAt w 0 srcWords)) :
    Calls Tryd.prog 123 #[.pointer (some ⟨b, 0, none⟩)] w fun e w' => e = .returned (.bool (identB t)) ∧ w' = w := by
  subst hz
  obtain ⟨bb, hbb⟩ : ∃ bb, identB t = bb := ⟨_, rfl⟩
  have HB := hide hbb
  rw [hbb]
  clear hbb
  rcases hk with rfl | rfl | rfl | rfl | rfl
  all_goals cases bb
  all_goals
    go_enter Tryd.func123, Tryd.ntmps123
    go_wp2_with fail
    refine (identOK_any t _ hs ht).mono ?_
    rintro e w' ⟨rfl, rfl⟩
    rw [show tokB 1 t.data.toList = identB t from rfl, unhide HB]
    first
      | (go_wp2_with fail
         refine (ContainsFunc_any pn [] cn _ (fun i hi => absurd hi (by simp)) (by simp) (by simp) ht).mono ?_
         rintro e w' ⟨rfl, rfl⟩
         go_wp2
         go_ret
         exact ⟨by simp, rfl⟩)
      | (go_wp2
         go_ret
         exact ⟨by simp, rfl⟩)

set_option maxHeartbeats 4000000 in
set_option maxRecDepth 100000 in
theorem partsOK_func (b : Nat) (k n : Int) (t : ByteArray) (pn : Option Addr) (names : List ByteArray) (cn : Nat) (w : World) (h0 : w.cell? ⟨b, 0, none⟩ = some (.int .i64 k)) (h1 : w.cell? ⟨b, 1, none⟩ = some (.int .i64 n)) (h2 : w.cell? ⟨b, 2, none⟩ = some (.string t)) (h3 : w.cell? ⟨b, 3, none⟩ = some (.slice pn names.length cn)) (hk : k = 20) (hz : n = 0) (hs : t.size ≤ maxLen) (hr : StrsAt w pn names) (hl : names.length ≤ 1048576) (hsz : ∀ s ∈ names, s.size ≤ 1048576) (ht : Hid (TabAt w 0 srcWords)) :
    Calls Tryd.prog 123 #[.pointer (some ⟨b, 0, none⟩)] w fun e w' => e = .returned (.bool (names.all identB && identB t)) ∧ w' = w := by
  subst hz
  have HR := hide hr
  have HS := hide hsz
  clear hr hsz
  obtain ⟨bb, hbb⟩ : ∃ bb, identB t = bb := ⟨_, rfl⟩
  have HB := hide hbb
  rw [hbb]
  clear hbb
  subst hk
  all_goals cases bb
  all_goals
    go_enter Tryd.func123, Tryd.ntmps123
    go_wp2_with fail
    refine (identOK_any t _ hs ht).mono ?_
    rintro e w' ⟨rfl, rfl⟩
    rw [show tokB 1 t.data.toList = identB t from rfl, unhide HB]
    first
      | (go_wp2_with fail
         refine (ContainsFunc_any pn names cn _ (unhide HR) hl (unhide HS) ht).mono ?_
         rintro e w' ⟨rfl, rfl⟩
         go_wp2
         go_ret
         exact ⟨by simp, rfl⟩)
      | (go_wp2
         go_ret
         exact ⟨by simp, rfl⟩)

end Go.Proofs.YtbipgmikgokfpaaDoor
