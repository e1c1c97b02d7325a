/- 'impl.Builtin' as a whole, over arguments that lie in a row of cells; the builtins on numbers. -/
import Derived.Test.YtckdacbopejdmaaDoorBuiltinWalk
namespace Go.Proofs.YtckdacbopejdmaaDoor
open Go.RowKit
set_option linter.unusedVariables false

def Z24 : Obj := .cells #[.int .i64 0, .int .i64 0, .string ⟨#[]⟩] 24
theorem z24_cells {w wx : World} (h : Below (w.heap.size + 1) (w.alloc Z24) wx) : (∀ b o, b < w.heap.size + 1 → wx.cell? ⟨b, o, none⟩ = (w.alloc (.cells #[.int .i64 0, .int .i64 0, .string ⟨#[]⟩] 24)).cell? ⟨b, o, none⟩) ∧ (∀ b o, b < w.heap.size + 1 → wx.frozen? ⟨b, o, none⟩ = (w.alloc (.cells #[.int .i64 0, .int .i64 0, .string ⟨#[]⟩] 24)).frozen? ⟨b, o, none⟩) ∧ w.heap.size < wx.heap.size := by
  obtain ⟨h1, h2⟩ := bcell (W := w.alloc Z24) (by simpa using h)
  refine ⟨fun b o hb => h1 b o (by simpa using hb), fun b o hb => h2 b o (by simpa using hb), ?_⟩
  have := h.size
  simp at this
  omega
theorem z24_trans {w a b : World} (h : Below (w.heap.size + 1) (w.alloc Z24) a) (k : Below a.heap.size a b) : Below (w.heap.size + 1) (w.alloc Z24) b := by
  have hs := h.size
  simp at hs
  exact h.trans (k.mono (by omega))
theorem z24_out {w a : World} (h : Below (w.heap.size + 1) (w.alloc Z24) a) : Below w.heap.size w a := nx_trans (nx_alloc w Z24) (by simpa using h)
theorem args_z24 {w a : World} {b : Nat} {vs : List V3} (hA : ArgsAt w b vs) (h : Below (w.heap.size + 1) (w.alloc Z24) a) : ArgsAt a b vs := hA.later (z24_out h)

set_option maxHeartbeats 2000000 in
theorem Builtin_count (nm : ByteArray) (vs : List V3) (b cap : Nat) (c : Int) (w : World) (hn : nm.size ≤ 65536) (hl : vs.length ≤ 4096) (hargs : ArgsAt w b vs) (hok : ∀ v ∈ vs, okV v)
    (hcnt : Hid (∀ w, Calls Tryd.prog 17 #[.string nm] w fun e w' => e = .returned (.tuple #[.int .i64 c, .int .i64 0]) ∧ w' = w)) (hlen : (((vs.length : Int)) != c) = true) :
    Calls Tryd.prog 16 #[.string nm, .slice (some ⟨b, 0, none⟩) vs.length cap] w fun e w' => e = .returned (.tuple #[.agg #[.int .i64 0, .int .i64 0, .string ⟨#[]⟩], .int .i64 14]) ∧ Below w.heap.size w w' := by
  have HA := hide hargs
  have HK := hide hok
  clear hargs hok
  go_enter Tryd.func16, Tryd.ntmps16
  go_wp2
  go_loopw [21] (fun i wx => ∃ k : Nat, k ≤ vs.length ∧ i = .int .i64 k ∧ Below (w.heap.size + 1) (w.alloc Z24) wx) (fun i _ => vs.length - (intOf i).toNat)
  case atStart => exact ⟨0, by omega, rfl, Below.refl _ _⟩
  case round =>
    obtain ⟨k, hk, rfl, hnx⟩ := hrel
    by_cases hlt : k < vs.length
    · obtain ⟨q0, q1, q2⟩ := args_z24 (unhide HA) hnx k hlt
      obtain ⟨hv, hsz⟩ := unhide HK vs[k] (List.getElem_mem hlt)
      generalize vs[k].k = vk at q0 hv
      generalize vs[k].n = vn at q1 hv
      generalize vs[k].t = vt at q2 hv hsz
      go_wp2_with fail
      refine (ValueOK_any vk vn vt _ hsz).mono ?_
      rintro e w1 ⟨rfl, hb1⟩
      go_wp2
      go_roundw
      case rel => exact ⟨k + 1, by omega, by go_num, z24_trans (z24_trans hnx (nx_alloc _ _)) hb1⟩
      case measure => simp [intOf]; omega
    · obtain ⟨hc, hf, hz⟩ := z24_cells hnx
      go_wp2_with fail
      refine (unhide hcnt _).mono ?_
      rintro e wr ⟨rfl, rfl⟩
      go_wp2
      exact bodyPost_ret (v := (.tuple #[.agg #[.int .i64 0, .int .i64 0, .string ⟨#[]⟩], .int .i64 14])) (by simp [results, Tryd.results16, go_sem, hc]) rfl ⟨rfl, nx_set (nx_set (nx_set (z24_out hnx) (Nat.le_refl _)) (Nat.le_refl _)) (Nat.le_refl _)⟩

set_option maxHeartbeats 2000000 in
theorem Builtin_run (nm : ByteArray) (vs : List V3) (b cap : Nat) (c : Int) (tk : ByteArray) (r : Res) (w : World) (hn : nm.size ≤ 65536) (hl : vs.length ≤ 4096) (hargs : ArgsAt w b vs) (hok : ∀ v ∈ vs, okV v)
    (hcnt : Hid (∀ w, Calls Tryd.prog 17 #[.string nm] w fun e w' => e = .returned (.tuple #[.int .i64 c, .int .i64 0]) ∧ w' = w)) (hlen : (((vs.length : Int)) != c) = false)
    (htk : Hid (∀ w, Calls Tryd.prog 49 #[.string nm] w fun e w' => e = .returned (.string tk) ∧ w' = w))
    (hfit : Hid (∀ w, ArgsAt w b vs → Calls Tryd.prog 48 #[.string tk, .slice (some ⟨b, 0, none⟩) vs.length cap] w fun e w' => e = .returned (.bool true) ∧ Below w.heap.size w w'))
    (hcall : Hid (∀ w, ArgsAt w b vs → Calls Tryd.prog 50 #[.string nm, .slice (some ⟨b, 0, none⟩) vs.length cap] w fun e w' => e = .returned (.tuple #[.agg #[.int .i64 r.k, .int .i64 r.n, .string r.t], .int .i64 r.c]) ∧ Below w.heap.size w w')) :
    Calls Tryd.prog 16 #[.string nm, .slice (some ⟨b, 0, none⟩) vs.length cap] w fun e w' => e = .returned (.tuple #[.agg #[.int .i64 r.k, .int .i64 r.n, .string r.t], .int .i64 r.c]) ∧ Below w.heap.size w w' := by
  have HA := hide hargs
  have HK := hide hok
  clear hargs hok
  go_enter Tryd.func16, Tryd.ntmps16
  go_wp2
  go_loopw [21] (fun i wx => ∃ k : Nat, k ≤ vs.length ∧ i = .int .i64 k ∧ Below (w.heap.size + 1) (w.alloc Z24) wx) (fun i _ => vs.length - (intOf i).toNat)
  case atStart => exact ⟨0, by omega, rfl, Below.refl _ _⟩
  case round =>
    obtain ⟨k, hk, rfl, hnx⟩ := hrel
    by_cases hlt : k < vs.length
    · obtain ⟨q0, q1, q2⟩ := args_z24 (unhide HA) hnx k hlt
      obtain ⟨hv, hsz⟩ := unhide HK vs[k] (List.getElem_mem hlt)
      generalize vs[k].k = vk at q0 hv
      generalize vs[k].n = vn at q1 hv
      generalize vs[k].t = vt at q2 hv hsz
      go_wp2_with fail
      refine (ValueOK_any vk vn vt _ hsz).mono ?_
      rintro e w1 ⟨rfl, hb1⟩
      go_wp2
      go_roundw
      case rel => exact ⟨k + 1, by omega, by go_num, z24_trans (z24_trans hnx (nx_alloc _ _)) hb1⟩
      case measure => simp [intOf]; omega
    · obtain ⟨hc, hf, hz⟩ := z24_cells hnx
      clear hc hf
      go_wp2_with fail
      refine (unhide hcnt _).mono ?_
      rintro e wr ⟨rfl, rfl⟩
      go_wp2_with fail
      refine (unhide htk _).mono ?_
      rintro e wr ⟨rfl, rfl⟩
      go_wp2_with fail
      refine (unhide hfit _ (args_z24 (unhide HA) hnx)).mono ?_
      rintro e w1 ⟨rfl, hb1⟩
      have hnx1 := z24_trans hnx hb1
      go_wp2_with fail
      refine (unhide hcall _ (args_z24 (unhide HA) hnx1)).mono ?_
      rintro e w2 ⟨rfl, hb2⟩
      have hnx2 := z24_trans hnx1 hb2
      obtain ⟨hc, hf, hz⟩ := z24_cells hnx2
      go_wp2
      exact bodyPost_ret (v := (.tuple #[.agg #[.int .i64 r.k, .int .i64 r.n, .string r.t], .int .i64 r.c])) (by simp [results, Tryd.results16, go_sem, hc]) rfl ⟨rfl, nx_set (nx_set (nx_set (z24_out hnx2) (Nat.le_refl _)) (Nat.le_refl _)) (Nat.le_refl _)⟩

theorem takes_len (nm : ByteArray) (w : World) (h : nm.toList = [108, 101, 110]) :
    Calls Tryd.prog 49 #[.string nm] w fun e w' => e = .returned (.string ⟨#[116]⟩) ∧ w' = w := by
  go_enter Tryd.func49, Tryd.ntmps49
  go_wp2
  go_ret
  exact ⟨rfl, rfl⟩

theorem takes_str (nm : ByteArray) (w : World) (h : nm.toList = [115, 116, 114]) :
    Calls Tryd.prog 49 #[.string nm] w fun e w' => e = .returned (.string ⟨#[118]⟩) ∧ w' = w := by
  go_enter Tryd.func49, Tryd.ntmps49
  go_wp2
  go_ret
  exact ⟨rfl, rfl⟩

theorem takes_abs (nm : ByteArray) (w : World) (h : nm.toList = [97, 98, 115]) :
    Calls Tryd.prog 49 #[.string nm] w fun e w' => e = .returned (.string ⟨#[110]⟩) ∧ w' = w := by
  go_enter Tryd.func49, Tryd.ntmps49
  go_wp2
  go_ret
  exact ⟨rfl, rfl⟩

theorem takes_at (nm : ByteArray) (w : World) (h : nm.toList = [97, 116]) :
    Calls Tryd.prog 49 #[.string nm] w fun e w' => e = .returned (.string ⟨#[116, 110]⟩) ∧ w' = w := by
  go_enter Tryd.func49, Tryd.ntmps49
  go_wp2
  go_ret
  exact ⟨rfl, rfl⟩

theorem takes_max (nm : ByteArray) (w : World) (h : nm.toList = [109, 97, 120]) :
    Calls Tryd.prog 49 #[.string nm] w fun e w' => e = .returned (.string ⟨#[110, 110]⟩) ∧ w' = w := by
  go_enter Tryd.func49, Tryd.ntmps49
  go_wp2
  go_ret
  exact ⟨rfl, rfl⟩

theorem takes_min (nm : ByteArray) (w : World) (h : nm.toList = [109, 105, 110]) :
    Calls Tryd.prog 49 #[.string nm] w fun e w' => e = .returned (.string ⟨#[110, 110]⟩) ∧ w' = w := by
  go_enter Tryd.func49, Tryd.ntmps49
  go_wp2
  go_ret
  exact ⟨rfl, rfl⟩

theorem takes_cut (nm : ByteArray) (w : World) (h : nm.toList = [99, 117, 116]) :
    Calls Tryd.prog 49 #[.string nm] w fun e w' => e = .returned (.string ⟨#[116, 110, 110]⟩) ∧ w' = w := by
  go_enter Tryd.func49, Tryd.ntmps49
  go_wp2
  go_ret
  exact ⟨rfl, rfl⟩

theorem fit_n (k : Int) (c : Int) (hc : c = 110) (hk : k = 1) : fitC c k := by subst hc hk; exact ⟨by omega, by omega⟩
def iv (n : Int) : V3 := ⟨1, n, ⟨#[]⟩⟩
theorem okV_iv {n : Int} (h1 : -2147483648 ≤ n) (h2 : n ≤ 2147483647) : okV (iv n) := ⟨by simp [iv, vokB, h1, h2, ByteArray.toList_eq], by show 0 ≤ maxLen; exact Nat.zero_le _⟩

theorem Builtin_abs (nm : ByteArray) (x : Int) (b cap : Nat) (w : World) (hn : nm.toList = [97, 98, 115]) (hs : nm.size ≤ 65536) (h1 : -2147483648 ≤ x) (h2 : x ≤ 2147483647) (hargs : ArgsAt w b [iv x]) :
    Calls Tryd.prog 16 #[.string nm, .slice (some ⟨b, 0, none⟩) 1 cap] w fun e w' => e = .returned (.tuple #[.agg #[.int .i64 (fitR (max x (-x))).k, .int .i64 (fitR (max x (-x))).n, .string (fitR (max x (-x))).t], .int .i64 (fitR (max x (-x))).c]) ∧ Below w.heap.size w w' := by
  refine Builtin_run nm [iv x] b cap 1 ⟨#[110]⟩ (fitR (max x (-x))) w hs (by simp) hargs (fun v hv => by simp at hv; subst hv; exact okV_iv h1 h2) (hide fun w => BuiltinCount_abs nm w hs hn) rfl (hide fun w => takes_abs nm w hn)
    (hide fun w hA => kindsFit_yes ⟨#[110]⟩ [iv x] b cap w rfl (by simp) hA (fun i h h' => by
      obtain rfl : i = 0 := by simp at h; omega
      exact fit_n _ _ rfl rfl)) (hide fun w hA => ?_)
  have q1 := (hA 0 (by simp)).2.1
  rcases Int.lt_trichotomy x 0 with h | h | h
  · rw [show max x (-x) = -x by omega]
    exact callBuiltin_abs_a nm b cap x h1 h w hn q1
  · subst h
    exact callBuiltin_abs_c nm b cap w hn q1
  · rw [show max x (-x) = x by omega]
    exact callBuiltin_abs_b nm b cap x h2 h w hn q1

theorem Builtin_max (nm : ByteArray) (x z : Int) (b cap : Nat) (w : World) (hn : nm.toList = [109, 97, 120]) (hs : nm.size ≤ 65536) (h1 : -2147483648 ≤ x) (h2 : x ≤ 2147483647) (h3 : -2147483648 ≤ z) (h4 : z ≤ 2147483647) (hargs : ArgsAt w b [iv x, iv z]) :
    Calls Tryd.prog 16 #[.string nm, .slice (some ⟨b, 0, none⟩) 2 cap] w fun e w' => e = .returned (.tuple #[.agg #[.int .i64 (intR (max x z)).k, .int .i64 (intR (max x z)).n, .string (intR (max x z)).t], .int .i64 (intR (max x z)).c]) ∧ Below w.heap.size w w' := by
  refine Builtin_run nm [iv x, iv z] b cap 2 ⟨#[110, 110]⟩ (intR (max x z)) w hs (by simp) hargs (fun v hv => by simp at hv; rcases hv with rfl | rfl; exact okV_iv h1 h2; exact okV_iv h3 h4) (hide fun w => BuiltinCount_max nm w hs hn) rfl (hide fun w => takes_max nm w hn)
    (hide fun w hA => kindsFit_yes ⟨#[110, 110]⟩ [iv x, iv z] b cap w rfl (by simp) hA (fun i h h' => by
      obtain rfl | rfl : i = 0 ∨ i = 1 := by simp at h; omega
      · exact fit_n _ _ rfl rfl
      · exact fit_n _ _ rfl rfl)) (hide fun w hA => ?_)
  have q1 := (hA 0 (by simp)).2.1
  have q4 := (hA 1 (by simp)).2.1
  rcases Int.lt_trichotomy x z with h | h | h
  · rw [show max x z = z by omega]
    exact callBuiltin_max_a nm b cap x z h w hn q1 q4
  · subst h
    rw [show max x x = x by omega]
    exact callBuiltin_max_c nm b cap x w hn q1 q4
  · rw [show max x z = x by omega]
    exact callBuiltin_max_b nm b cap x z h w hn q1 q4

theorem Builtin_min (nm : ByteArray) (x z : Int) (b cap : Nat) (w : World) (hn : nm.toList = [109, 105, 110]) (hs : nm.size ≤ 65536) (h1 : -2147483648 ≤ x) (h2 : x ≤ 2147483647) (h3 : -2147483648 ≤ z) (h4 : z ≤ 2147483647) (hargs : ArgsAt w b [iv x, iv z]) :
    Calls Tryd.prog 16 #[.string nm, .slice (some ⟨b, 0, none⟩) 2 cap] w fun e w' => e = .returned (.tuple #[.agg #[.int .i64 (intR (min x z)).k, .int .i64 (intR (min x z)).n, .string (intR (min x z)).t], .int .i64 (intR (min x z)).c]) ∧ Below w.heap.size w w' := by
  refine Builtin_run nm [iv x, iv z] b cap 2 ⟨#[110, 110]⟩ (intR (min x z)) w hs (by simp) hargs (fun v hv => by simp at hv; rcases hv with rfl | rfl; exact okV_iv h1 h2; exact okV_iv h3 h4) (hide fun w => BuiltinCount_min nm w hs hn) rfl (hide fun w => takes_min nm w hn)
    (hide fun w hA => kindsFit_yes ⟨#[110, 110]⟩ [iv x, iv z] b cap w rfl (by simp) hA (fun i h h' => by
      obtain rfl | rfl : i = 0 ∨ i = 1 := by simp at h; omega
      · exact fit_n _ _ rfl rfl
      · exact fit_n _ _ rfl rfl)) (hide fun w hA => ?_)
  have q1 := (hA 0 (by simp)).2.1
  have q4 := (hA 1 (by simp)).2.1
  rcases Int.lt_trichotomy x z with h | h | h
  · rw [show min x z = x by omega]
    exact callBuiltin_min_a nm b cap x z h w hn q1 q4
  · subst h
    rw [show min x x = x by omega]
    exact callBuiltin_min_c nm b cap x w hn q1 q4
  · rw [show min x z = z by omega]
    exact callBuiltin_min_b nm b cap x z h w hn q1 q4

theorem Builtin_maxone (nm : ByteArray) (x : Int) (b cap : Nat) (w : World) (hn : nm.toList = [109, 97, 120]) (hs : nm.size ≤ 65536) (h1 : -2147483648 ≤ x) (h2 : x ≤ 2147483647) (hargs : ArgsAt w b [iv x]) :
    Calls Tryd.prog 16 #[.string nm, .slice (some ⟨b, 0, none⟩) 1 cap] w fun e w' => e = .returned (.tuple #[.agg #[.int .i64 0, .int .i64 0, .string ⟨#[]⟩], .int .i64 14]) ∧ Below w.heap.size w w' :=
  Builtin_count nm [iv x] b cap 2 w hs (by simp) hargs (fun v hv => by simp at hv; subst hv; exact okV_iv h1 h2) (hide fun w => BuiltinCount_max nm w hs hn) rfl

end Go.Proofs.YtckdacbopejdmaaDoor
