/- Builtins on texts, whole. -/
import Derived.Test.YtpncohkbdaoceaaDoorBuiltin3
import Derived.Test.YtpncohkbdaoceaaDoorBounds1
namespace Go.Proofs.YtpncohkbdaoceaaDoor
open Go.RowKit
set_option linter.unusedVariables false

set_option maxHeartbeats 2000000 in
theorem Builtin_nofit (nm : ByteArray) (vs : List V3) (b cap : Nat) (c : Int) (tk : ByteArray) (w : World) (hn : nm.size ≤ 65536) (hl : vs.length ≤ 4096) (hargs : ArgsAt w b vs) (hok : ∀ v ∈ vs, okV v)
    (hcnt : Hid (∀ w, Calls Tryd.prog 31 #[.string nm] w fun e w' => e = .returned (.tuple #[.int .i64 c, .int .i64 0]) ∧ w' = w)) (hlen : (((vs.length : Int)) != c) = false)
    (htk : Hid (∀ w, Calls Tryd.prog 33 #[.string nm] w fun e w' => e = .returned (.string tk) ∧ w' = w))
    (hfit : Hid (∀ w, ArgsAt w b vs → Calls Tryd.prog 32 #[.string tk, .slice (some ⟨b, 0, none⟩) vs.length cap] w fun e w' => e = .returned (.bool false) ∧ Below w.heap.size w w')) :
    Calls Tryd.prog 11 #[.string nm, .slice (some ⟨b, 0, none⟩) vs.length cap] w fun e w' => e = .returned (.tuple #[.agg #[.int .i64 0, .int .i64 0, .string ⟨#[]⟩], .int .i64 8]) ∧ Below w.heap.size w w' := by
  have HA := hide hargs
  have HK := hide hok
  clear hargs hok
  go_enter Tryd.func11, Tryd.ntmps11
  go_wp2
  go_loopw [21] (fun i wx => ∃ k : Nat, k ≤ vs.length ∧ i = .int .i64 k ∧ Below (w.heap.size + 1) (w.alloc Z24) wx) (fun i _ => vs.length - (intOf i).toNat)
  case atStart => exact ⟨0, by omega, rfl, Below.refl _ _⟩
  case round =>
    obtain ⟨k, hk, rfl, hnx⟩ := hrel
    by_cases hlt : k < vs.length
    · obtain ⟨q0, q1, q2⟩ := args_z24 (unhide HA) hnx k hlt
      obtain ⟨hv, hsz⟩ := unhide HK vs[k] (List.getElem_mem hlt)
      generalize vs[k].k = vk at q0 hv
      generalize vs[k].n = vn at q1 hv
      generalize vs[k].t = vt at q2 hv hsz
      go_wp2_with fail
      refine (ValueOK_any vk vn vt _ hsz).mono ?_
      rintro e w1 ⟨rfl, hb1⟩
      go_wp2
      go_roundw
      case rel => exact ⟨k + 1, by omega, by go_num, z24_trans (z24_trans hnx (nx_alloc _ _)) hb1⟩
      case measure => simp [intOf]; omega
    · obtain ⟨hc, hf, hz⟩ := z24_cells hnx
      clear hc hf
      go_wp2_with fail
      refine (unhide hcnt _).mono ?_
      rintro e wr ⟨rfl, rfl⟩
      go_wp2_with fail
      refine (unhide htk _).mono ?_
      rintro e wr ⟨rfl, rfl⟩
      go_wp2_with fail
      refine (unhide hfit _ (args_z24 (unhide HA) hnx)).mono ?_
      rintro e w1 ⟨rfl, hb1⟩
      obtain ⟨hc, hf, hz⟩ := z24_cells (z24_trans hnx hb1)
      go_wp2
      exact bodyPost_ret (v := (.tuple #[.agg #[.int .i64 0, .int .i64 0, .string ⟨#[]⟩], .int .i64 8])) (by simp [results, Tryd.results11, go_sem, hc]) rfl ⟨rfl, nx_set (nx_set (nx_set (z24_out (z24_trans hnx hb1)) (Nat.le_refl _)) (Nat.le_refl _)) (Nat.le_refl _)⟩

theorem fit_t (k : Int) (c : Int) (hc : c = 116) (hk : k = 3) : fitC c k := by subst hc hk; exact ⟨by omega, by omega⟩
theorem bi_len (t : ByteArray) (b cap : Nat) (w : World) (hs : t.size ≤ 60) (hA : ArgsAt w b [tx t]) :
    Calls Tryd.prog 11 #[.string ⟨#[108, 101, 110]⟩, .slice (some ⟨b, 0, none⟩) 1 cap] w fun e w' => e = .returned (.tuple #[.agg #[.int .i64 1, .int .i64 ((t.size : Nat) : Int), .string ⟨#[]⟩], .int .i64 0]) ∧ Below w.heap.size w w' :=
  Builtin_run ⟨#[108, 101, 110]⟩ [tx t] b cap 1 ⟨#[116]⟩ (intR ((t.size : Nat) : Int)) w (by decide) (by simp) hA (fun v hv => by simp at hv; subst hv; exact okV_tx hs) (hide fun w => BuiltinCount_len _ w (by decide) (tl _)) rfl (hide fun w => takes_len _ w (tl _))
    (hide fun w hA => kindsFit_yes ⟨#[116]⟩ [tx t] b cap w rfl (by simp) hA (fun i h h' => by
      obtain rfl : i = 0 := by simp at h; omega
      exact fit_t _ _ rfl rfl)) (hide fun w hA => callBuiltin_len _ b cap t hs w (tl _) (hA 0 (by simp)).2.2)
theorem bi_lenno (v : V3) (b cap : Nat) (w : World) (hv : okV v) (hk : ¬ v.k = 3) (hA : ArgsAt w b [v]) :
    Calls Tryd.prog 11 #[.string ⟨#[108, 101, 110]⟩, .slice (some ⟨b, 0, none⟩) 1 cap] w fun e w' => e = .returned (.tuple #[.agg #[.int .i64 0, .int .i64 0, .string ⟨#[]⟩], .int .i64 8]) ∧ Below w.heap.size w w' :=
  Builtin_nofit ⟨#[108, 101, 110]⟩ [v] b cap 1 ⟨#[116]⟩ w (by decide) (by simp) hA (fun u hu => by simp at hu; subst hu; exact hv) (hide fun w => BuiltinCount_len _ w (by decide) (tl _)) rfl (hide fun w => takes_len _ w (tl _))
    (hide fun w hA => kindsFit_no ⟨#[116]⟩ [v] b cap w rfl (by simp) hA (fun h => (h 0 (by simp) (by decide)).1 ⟨rfl, hk⟩))
theorem fit_tnn (t : ByteArray) (n m : Int) : ∀ i (h : i < [tx t, iv n, iv m].length) (h' : i < (⟨#[116, 110, 110]⟩ : ByteArray).size), fitC ((⟨#[116, 110, 110]⟩ : ByteArray)[i].toNat : Int) [tx t, iv n, iv m][i].k := fun i h h' => by
  obtain rfl | rfl | rfl : i = 0 ∨ i = 1 ∨ i = 2 := by simp at h; omega
  · exact fit_t _ _ rfl rfl
  · exact fit_n _ _ rfl rfl
  · exact fit_n _ _ rfl rfl
theorem fit_tn (t : ByteArray) (n : Int) : ∀ i (h : i < [tx t, iv n].length) (h' : i < (⟨#[116, 110]⟩ : ByteArray).size), fitC ((⟨#[116, 110]⟩ : ByteArray)[i].toNat : Int) [tx t, iv n][i].k := fun i h h' => by
  obtain rfl | rfl : i = 0 ∨ i = 1 := by simp at h; omega
  · exact fit_t _ _ rfl rfl
  · exact fit_n _ _ rfl rfl
theorem bi_cut (t : ByteArray) (j k : Nat) (b cap : Nat) (w : World) (hs : t.size ≤ 60) (h1 : j ≤ k) (h2 : k ≤ t.size) (hA : ArgsAt w b [tx t, iv (j : Int), iv (k : Int)]) :
    Calls Tryd.prog 11 #[.string ⟨#[99, 117, 116]⟩, .slice (some ⟨b, 0, none⟩) 3 cap] w fun e w' => e = .returned (.tuple #[.agg #[.int .i64 3, .int .i64 0, .string (t.extract j k)], .int .i64 0]) ∧ Below w.heap.size w w' :=
  Builtin_run ⟨#[99, 117, 116]⟩ [tx t, iv (j : Int), iv (k : Int)] b cap 3 ⟨#[116, 110, 110]⟩ (textR (t.extract j k)) w (by decide) (by simp) hA (fun v hv => by simp at hv; rcases hv with rfl | rfl | rfl; exact okV_tx hs; exact okV_iv (by omega) (by omega); exact okV_iv (by omega) (by omega)) (hide fun w => BuiltinCount_cut _ w (by decide) (tl _)) rfl (hide fun w => takes_cut _ w (tl _))
    (hide fun w hA => kindsFit_yes ⟨#[116, 110, 110]⟩ [tx t, iv (j : Int), iv (k : Int)] b cap w rfl (by simp) hA (fit_tnn t _ _)) (hide fun w hA => callBuiltin_cut_d _ b cap t j k h1 h2 hs w (tl _) (hA 0 (by simp)).2.2 (hA 1 (by simp)).2.1 (hA 2 (by simp)).2.1)
theorem bi_atfar (t : ByteArray) (n : Int) (b cap : Nat) (w : World) (hs : t.size ≤ 60) (h1 : (t.size : Int) ≤ n) (h2 : n ≤ 60) (hA : ArgsAt w b [tx t, iv n]) :
    Calls Tryd.prog 11 #[.string ⟨#[97, 116]⟩, .slice (some ⟨b, 0, none⟩) 2 cap] w fun e w' => e = .returned (.tuple #[.agg #[.int .i64 0, .int .i64 0, .string ⟨#[]⟩], .int .i64 4]) ∧ Below w.heap.size w w' :=
  Builtin_run ⟨#[97, 116]⟩ [tx t, iv n] b cap 2 ⟨#[116, 110]⟩ (zeroR 4) w (by decide) (by simp) hA (fun v hv => by simp at hv; rcases hv with rfl | rfl; exact okV_tx hs; exact okV_iv (by omega) (by omega)) (hide fun w => BuiltinCount_at _ w (by decide) (tl _)) rfl (hide fun w => takes_at _ w (tl _))
    (hide fun w hA => kindsFit_yes ⟨#[116, 110]⟩ [tx t, iv n] b cap w rfl (by simp) hA (fit_tn t _)) (hide fun w hA => callBuiltin_at_b _ b cap t n (by omega) h1 w (tl _) (hA 0 (by simp)).2.2 (hA 1 (by simp)).2.1)
theorem bin_cat (t a b : ByteArray) (w : World) (hs : t.size ≤ 60) (h : a ++ b = t) :
    Calls Tryd.prog 13 #[.string ⟨#[43]⟩, .agg #[.int .i64 3, .int .i64 0, .string a], .agg #[.int .i64 3, .int .i64 0, .string b]] w fun e w' => e = .returned (.tuple #[.agg #[.int .i64 3, .int .i64 0, .string t], .int .i64 0]) ∧ Below w.heap.size w w' := by
  have hz : a.size + b.size = t.size := by rw [← h]; simp
  have := Binary_text_add ⟨#[43]⟩ 0 a 0 b w (by decide) (Nat.le_trans (show a.size ≤ 60 by omega) (by decide)) (Nat.le_trans (show b.size ≤ 60 by omega) (by decide)) (okV_tx (t := a) (by omega)).1 (okV_tx (t := b) (by omega)).1 (by omega) (by omega) (tl [43])
  rw [show textsR (⟨#[43]⟩ : ByteArray).toList a b = textR t by rw [tl [43]]; unfold textsR; rw [if_neg (by decide), if_neg (by omega), h]] at this
  exact this
theorem args_one {w : World} {b : Nat} {k n : Int} {t : ByteArray} (h0 : w.cell? ⟨b, 0, none⟩ = some (.int .i64 k)) (h1 : w.cell? ⟨b, 1, none⟩ = some (.int .i64 n)) (h2 : w.cell? ⟨b, 2, none⟩ = some (.string t)) : ArgsAt w b [⟨k, n, t⟩] := fun i hi => by
  obtain rfl : i = 0 := by simp at hi; omega
  exact ⟨h0, h1, h2⟩
theorem args_two {w : World} {b : Nat} {t : ByteArray} {x : Int} (h0 : w.cell? ⟨b, 0, none⟩ = some (.int .i64 3)) (h1 : w.cell? ⟨b, 1, none⟩ = some (.int .i64 0)) (h2 : w.cell? ⟨b, 2, none⟩ = some (.string t))
    (h3 : w.cell? ⟨b, 3, none⟩ = some (.int .i64 1)) (h4 : w.cell? ⟨b, 4, none⟩ = some (.int .i64 x)) (h5 : w.cell? ⟨b, 5, none⟩ = some (.string ⟨#[]⟩)) : ArgsAt w b [tx t, iv x] := fun i hi => by
  obtain rfl | rfl : i = 0 ∨ i = 1 := by simp at hi; omega
  · exact ⟨h0, h1, h2⟩
  · exact ⟨h3, h4, h5⟩
theorem args_three {w : World} {b : Nat} {t : ByteArray} {x z : Int} (h0 : w.cell? ⟨b, 0, none⟩ = some (.int .i64 3)) (h1 : w.cell? ⟨b, 1, none⟩ = some (.int .i64 0)) (h2 : w.cell? ⟨b, 2, none⟩ = some (.string t))
    (h3 : w.cell? ⟨b, 3, none⟩ = some (.int .i64 1)) (h4 : w.cell? ⟨b, 4, none⟩ = some (.int .i64 x)) (h5 : w.cell? ⟨b, 5, none⟩ = some (.string ⟨#[]⟩))
    (h6 : w.cell? ⟨b, 6, none⟩ = some (.int .i64 1)) (h7 : w.cell? ⟨b, 7, none⟩ = some (.int .i64 z)) (h8 : w.cell? ⟨b, 8, none⟩ = some (.string ⟨#[]⟩)) : ArgsAt w b [tx t, iv x, iv z] := fun i hi => by
  obtain rfl | rfl | rfl : i = 0 ∨ i = 1 ∨ i = 2 := by simp at hi; omega
  · exact ⟨h0, h1, h2⟩
  · exact ⟨h3, h4, h5⟩
  · exact ⟨h6, h7, h8⟩
theorem at_one (a : Option Addr) (len cap : Nat) (i n : Int) (w : World) (h1 : n = 1) :
    Calls Tryd.prog 12 #[.slice a len cap, .int .i64 i, .int .i64 n] w fun e w' => ∃ r, e = .returned (.int .i64 r) ∧ 0 ≤ r ∧ r < n ∧ Below w.heap.size w w' := by
  subst h1
  go_enter Tryd.func12, Tryd.ntmps12
  go_wp2
  go_ret
  exact ⟨0, rfl, by omega, by omega, Below.refl _ _⟩
theorem at_all (a : Option Addr) (len cap : Nat) (zs : List Int) (i n : Int) (w : World) (hrow : IsRow .u8 w a len cap zs) (hlen : len ≤ 1048576) (hi : i = 0 ∨ i = 1) (h1 : 1 ≤ n) (hn : n ≤ 60000) :
    Calls Tryd.prog 12 #[.slice a len cap, .int .i64 i, .int .i64 n] w fun e w' => ∃ r, e = .returned (.int .i64 r) ∧ 0 ≤ r ∧ r < n ∧ Below w.heap.size w w' := by
  by_cases h : n = 1
  · exact at_one a len cap i n w h
  · exact at_any a len cap zs i n w hrow hlen hi (by omega) hn
theorem halves (t : ByteArray) (k : Nat) (h : k ≤ t.size) : t.extract 0 k ++ t.extract k t.size = t := by
  apply ByteArray.ext
  simp

end Go.Proofs.YtpncohkbdaoceaaDoor
