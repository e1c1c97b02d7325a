/- The law on builtins. -/
import Derived.Test.YtpncohkbdaoceaaDoorBuiltin7
import Derived.Test.YtpncohkbdaoceaaDoorListWalk
namespace Go.Proofs.YtpncohkbdaoceaaDoor
open Go.RowKit
set_option linter.unusedVariables false

theorem two_flat (nm : ByteArray) (vs : List V3) (hl : vs.length ≤ 1048576) (hsz : ∀ v ∈ vs, v.t.size ≤ maxLen) : ∃ (rk rn : Int) (rt : ByteArray) (rc : Int),
    (∀ (w : World) (b cap : Nat), ArgsAt w b vs → PowTab w → Calls Tryd.prog 11 #[.string nm, .slice (some ⟨b, 0, none⟩) vs.length cap] w fun e w' => e = .returned (.tuple #[.agg #[.int .i64 rk, .int .i64 rn, .string rt], .int .i64 rc]) ∧ Below w.heap.size w w') ∧
    (∀ (w : World) (b cap : Nat), ArgsAt w b vs → Calls Tryd.prog 24 #[.string nm, .slice (some ⟨b, 0, none⟩) vs.length cap] w fun e w' => e = .returned (.tuple #[.agg #[.int .i64 rk, .int .i64 rn, .string rt], .int .i64 rc]) ∧ Below w.heap.size w w') := by
  obtain ⟨r, hI, hS⟩ := two_any nm vs hl hsz
  exact ⟨r.k, r.n, r.t, r.c, hI, hS⟩

set_option maxRecDepth 100000 in
set_option maxHeartbeats 8000000 in
theorem lawBuiltin_any (nm : ByteArray) (p : Option Addr) (vs : List V3) (cap : Nat) (w : World) (hs : nm.size ≤ maxLen) (hrow : ValsAt w p vs) (hlen : vs.length ≤ maxLen) (hsz : ∀ v ∈ vs, v.t.size ≤ maxLen) (hT : PowTab w) :
    Calls Tryd.prog 9 #[.string nm, .slice p vs.length cap] w fun e w' => e = .returned (.bool true) ∧ Below w.heap.size w w' := by
  unfold maxLen at hs hlen
  have HR := hide hrow
  have HS := hide hsz
  have HT := hide hT
  clear hrow hsz hT
  by_cases hn : 1048576 < nm.size
  · go_enter Tryd.func9, Tryd.ntmps9
    go_wp2
    go_ret
    exact ⟨rfl, Below.refl _ _⟩
  go_enter Tryd.func9, Tryd.ntmps9
  go_wp2_with fail
  refine (szValueS_any p vs cap _ (unhide HR) hlen (unhide HS)).mono ?_
  rintro e w1 ⟨r, rfl, hr, hb1⟩
  have hB1 := hide hb1
  clear hb1
  rcases hr with hr | ⟨hr, hl⟩
  · go_wp2
    go_ret
    exact ⟨rfl, unhide hB1⟩
  obtain ⟨rk, rn, rt, rc, hI, hS⟩ := two_flat nm vs hl (unhide HS)
  have HI := hide hI
  have HP := hide hS
  clear hI hS HS
  go_wp2_with fail
  refine (toValueS_any p vs cap _ ((unhide HR).later (unhide hB1)) hl).mono ?_
  rintro e w2 ⟨rfl, hA2, hb2⟩
  have HA2 := hide hA2
  have hB2 := hide (nx_trans (unhide hB1) hb2)
  clear hA2 hb2 hB1
  go_wp2_with fail
  refine (unhide HP _ _ _ (unhide HA2)).mono ?_
  rintro e w3 ⟨rfl, hb3⟩
  have hB3 := hide (nx_trans (unhide hB2) hb3)
  clear hb3 HA2 hB2 HP
  go_wp2_with fail
  refine (toValueS_any p vs cap _ ((unhide HR).later (nx_al (unhide hB3))) hl).mono ?_
  rintro e w4 ⟨rfl, hA4, hb4⟩
  have HA4 : Hid (ArgsAt w4 (w3.heap.size + 1) vs) := hide (by simpa using hA4)
  have f0 : Hid (w4.cell? ⟨w3.heap.size, 0, none⟩ = some (.int .i64 rk)) := cell_later hb4 (by simp)
  have f1 : Hid (w4.cell? ⟨w3.heap.size, 1, none⟩ = some (.int .i64 rn)) := cell_later hb4 (by simp)
  have f2 : Hid (w4.cell? ⟨w3.heap.size, 2, none⟩ = some (.string rt)) := cell_later hb4 (by simp)
  have hB4 := hide (nx_trans (nx_al (unhide hB3)) hb4)
  clear hA4 hb4 hB3
  go_wp2_with fail
  refine (unhide HI _ _ _ (unhide HA4) ((unhide HT).later (unhide hB4) (Nat.le_refl _))).mono ?_
  rintro e w5 ⟨rfl, hb5⟩
  have HA5 := hide ((unhide HA4).later hb5)
  have e0 : ∀ o, (w5.alloc o).cell? ⟨w3.heap.size, 0, none⟩ = some (.int .i64 rk) := fun o => cell_later (nx_trans hb5 (nx_alloc _ _)) (unhide f0)
  have e1 : ∀ o, (w5.alloc o).cell? ⟨w3.heap.size, 1, none⟩ = some (.int .i64 rn) := fun o => cell_later (nx_trans hb5 (nx_alloc _ _)) (unhide f1)
  have e2 : ∀ o, (w5.alloc o).cell? ⟨w3.heap.size, 2, none⟩ = some (.string rt) := fun o => cell_later (nx_trans hb5 (nx_alloc _ _)) (unhide f2)
  have hB5 := hide (nx_trans (unhide hB4) hb5)
  clear hb5 HA4 hB4 HI HT f0 f1 f2
  go_wp2_with fail
  refine (eqValue_same rk rn rt _).mono ?_
  rintro e w6 ⟨rfl, hb6⟩
  have HA6 := hide ((unhide HA5).later (nx_trans (nx_alloc _ _) hb6))
  have hB6 := hide (nx_trans (nx_al (unhide hB5)) hb6)
  clear hb6 HA5 hB5 e0 e1 e2
  go_wp2_with fail
  refine (toValueS_any p vs cap _ ((unhide HR).later (unhide hB6)) hl).mono ?_
  rintro e w7 ⟨rfl, hA7, hb7⟩
  have HA7 := hide hA7
  have HA6' := hide ((unhide HA6).later hb7)
  have hB7 := hide (nx_trans (unhide hB6) hb7)
  clear hA7 hb7 hB6 HA6
  go_wp2_with fail
  refine (eqValueS_same _ _ vs _ hl (unhide HA6') (unhide HA7)).mono ?_
  rintro e w8 ⟨rfl, hb8⟩
  have hB8 := hide (nx_trans (unhide hB7) hb8)
  clear hb8 hB7 HA6' HA7
  go_wp2
  go_ret
  exact ⟨rfl, unhide hB8⟩

end Go.Proofs.YtpncohkbdaoceaaDoor
