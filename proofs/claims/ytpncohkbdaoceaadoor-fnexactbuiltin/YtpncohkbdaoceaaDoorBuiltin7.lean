/- 'impl.Builtin' and 'spec.Builtin' answer alike. -/
import Derived.Test.YtpncohkbdaoceaaDoorBuiltin5
import Derived.Test.YtpncohkbdaoceaaDoorBuiltin6
namespace Go.Proofs.YtpncohkbdaoceaaDoor
open Go.RowKit
set_option linter.unusedVariables false

set_option maxHeartbeats 1000000 in
theorem callBuiltin_str (nm : ByteArray) (b cap : Nat) (ka na : Int) (ta : ByteArray) (hv : vokB ka na ta = true) (w : World) (hn : nm.toList = [115, 116, 114]) (q0 : w.cell? ⟨b, 0, none⟩ = some (.int .i64 ka)) (q1 : w.cell? ⟨b, 1, none⟩ = some (.int .i64 na)) (q2 : w.cell? ⟨b, 2, none⟩ = some (.string ta)) (hT : PowTab w) :
    Calls Tryd.prog 34 #[.string nm, .slice (some ⟨b, 0, none⟩) 1 cap] w fun e w' => e = .returned (.tuple #[.agg #[.int .i64 3, .int .i64 0, .string (vtextB ka na ta)], .int .i64 0]) ∧ Below w.heap.size w w' := by
  have HT := hide hT
  clear hT
  have p0 : ∀ o, (w.alloc o).cell? ⟨b, 0, none⟩ = some (.int .i64 ka) := fun o => cell_later (nx_alloc _ _) q0
  have p1 : ∀ o, (w.alloc o).cell? ⟨b, 1, none⟩ = some (.int .i64 na) := fun o => cell_later (nx_alloc _ _) q1
  have p2 : ∀ o, (w.alloc o).cell? ⟨b, 2, none⟩ = some (.string ta) := fun o => cell_later (nx_alloc _ _) q2
  have hE := ne_pair (World.block_lt_of_cell? _ _ q0)
  go_enter Tryd.func34, Tryd.ntmps34
  go_wp2_with fail
  refine (textOf_any ka na ta _ hv ((unhide HT).later (nx_alloc _ _) (Nat.le_refl _))).mono ?_
  rintro e w1 ⟨rfl, hb1⟩
  obtain ⟨hc1, hf1⟩ := bcell hb1
  have hz1 : w.heap.size < w1.heap.size := by have := hb1.size; first | omega | (simp at this; omega)
  go_wp2_with fail
  refine (textValue_agg _ _).mono ?_
  rintro e w2 ⟨rfl, hb2⟩
  obtain ⟨hc2, hf2⟩ := bcell hb2
  have hz2 : w.heap.size < w2.heap.size := by have := hb2.size; omega
  go_wp2
  exact bodyPost_ret (v := (.tuple #[.agg #[.int .i64 3, .int .i64 0, .string (vtextB ka na ta)], .int .i64 0])) (by simp [results, Tryd.results34, go_sem, hc1, hc2, hz1]) rfl ⟨rfl, (by repeat (first | exact Below.refl _ _ | refine nx_al ?_ | refine nx_set ?_ (by first | omega | (simp <;> omega)) | refine nx_drew ?_ | refine nx_trans ?_ (by assumption)))⟩

theorem fit_v (k : Int) (c : Int) (hc : c = 118) : fitC c k := by subst hc; exact ⟨by omega, by omega⟩
theorem vok_t60 {n : Int} {t : ByteArray} (h : vokB 3 n t = true) : t.size ≤ 60 := by simp [vokB] at h; exact h.2
theorem vok_i {n : Int} {t : ByteArray} (h : vokB 1 n t = true) : -2147483648 ≤ n ∧ n ≤ 2147483647 := vok_int h

def Two (nm : ByteArray) (vs : List V3) (r : Res) : Prop :=
  (∀ (w : World) (b cap : Nat), ArgsAt w b vs → PowTab w → Calls Tryd.prog 11 #[.string nm, .slice (some ⟨b, 0, none⟩) vs.length cap] w fun e w' => e = .returned (.tuple #[.agg #[.int .i64 r.k, .int .i64 r.n, .string r.t], .int .i64 r.c]) ∧ Below w.heap.size w w') ∧
  (∀ (w : World) (b cap : Nat), ArgsAt w b vs → Calls Tryd.prog 24 #[.string nm, .slice (some ⟨b, 0, none⟩) vs.length cap] w fun e w' => e = .returned (.tuple #[.agg #[.int .i64 r.k, .int .i64 r.n, .string r.t], .int .i64 r.c]) ∧ Below w.heap.size w w')
/-- what is told of a name: how many arguments, their letters -/
structure Named (nm : ByteArray) (c : Nat) (tk : ByteArray) : Prop where
  size : nm.size ≤ 65536
  cI : ∀ w, Calls Tryd.prog 31 #[.string nm] w fun e w' => e = .returned (.tuple #[.int .i64 (c : Int), .int .i64 0]) ∧ w' = w
  cS : ∀ w, Calls Tryd.prog 43 #[.string nm] w fun e w' => e = .returned (.int .i64 (c : Int)) ∧ w' = w
  tI : ∀ w, Calls Tryd.prog 33 #[.string nm] w fun e w' => e = .returned (.string tk) ∧ w' = w
  ts : tk.size = c
theorem two_count {nm : ByteArray} {c : Nat} {tk : ByteArray} (N : Named nm c tk) (vs : List V3) (hl : vs.length ≤ 4096) (hok : ∀ v ∈ vs, okV v) (h : ¬ vs.length = c) : Two nm vs (zeroR 14) := by
  have hne : (((vs.length : Nat) : Int) != (c : Int)) = true := bne_iff_ne.2 (by omega)
  exact ⟨fun w b cap hA _ => Builtin_count nm vs b cap c w N.size hl hA hok (hide N.cI) hne, fun w b cap hA => specBuiltin_count nm vs b cap c w N.size hl hA hok (hide N.cS) (by omega) hne⟩
theorem two_run {nm : ByteArray} {c : Nat} {tk : ByteArray} (N : Named nm c tk) (vs : List V3) (r : Res) (hl : vs.length ≤ 4096) (hok : ∀ v ∈ vs, okV v) (h : vs.length = c)
    (hfit : ∀ i (h : i < vs.length) (h' : i < tk.size), fitC (tk[i].toNat : Int) vs[i].k)
    (hI : ∀ (w : World) (b cap : Nat), ArgsAt w b vs → PowTab w → Calls Tryd.prog 34 #[.string nm, .slice (some ⟨b, 0, none⟩) vs.length cap] w fun e w' => e = .returned (.tuple #[.agg #[.int .i64 r.k, .int .i64 r.n, .string r.t], .int .i64 r.c]) ∧ Below w.heap.size w w')
    (hS : ∀ (w : World) (b cap : Nat), ArgsAt w b vs → Calls Tryd.prog 44 #[.string nm, .slice (some ⟨b, 0, none⟩) vs.length cap] w fun e w' => e = .returned (.tuple #[.agg #[.int .i64 r.k, .int .i64 r.n, .string r.t], .int .i64 r.c]) ∧ Below w.heap.size w w') : Two nm vs r := by
  have hne : (((vs.length : Nat) : Int) != (c : Int)) = false := by rw [h]; simp
  exact ⟨fun w b cap hA hT => Builtin_runT nm vs b cap c tk r w N.size hl hA hok (hide N.cI) hne (hide N.tI) (hide fun w hA => kindsFit_yes tk vs b cap w (by rw [N.ts, h]) hl hA hfit) hT (hide fun w hA hT => hI w b cap hA hT),
    fun w b cap hA => specBuiltin_run nm vs b cap c r w N.size hl hA hok (hide N.cS) (by omega) hne (hide fun w hA => hS w b cap hA)⟩
theorem two_no {nm : ByteArray} {c : Nat} {tk : ByteArray} (N : Named nm c tk) (vs : List V3) (hl : vs.length ≤ 4096) (hok : ∀ v ∈ vs, okV v) (h : vs.length = c)
    (hno : ¬ ∀ i (h : i < vs.length) (h' : i < tk.size), fitC (tk[i].toNat : Int) vs[i].k)
    (hS : ∀ (w : World) (b cap : Nat), ArgsAt w b vs → Calls Tryd.prog 44 #[.string nm, .slice (some ⟨b, 0, none⟩) vs.length cap] w fun e w' => e = .returned (.tuple #[.agg #[.int .i64 0, .int .i64 0, .string ⟨#[]⟩], .int .i64 8]) ∧ Below w.heap.size w w') : Two nm vs (zeroR 8) := by
  have hne : (((vs.length : Nat) : Int) != (c : Int)) = false := by rw [h]; simp
  exact ⟨fun w b cap hA hT => Builtin_nofit nm vs b cap c tk w N.size hl hA hok (hide N.cI) hne (hide N.tI) (hide fun w hA => kindsFit_no tk vs b cap w (by rw [N.ts, h]) hl hA hno),
    fun w b cap hA => specBuiltin_run nm vs b cap c (zeroR 8) w N.size hl hA hok (hide N.cS) (by omega) hne (hide fun w hA => hS w b cap hA)⟩

theorem named_len (nm : ByteArray) (hs : nm.size ≤ 65536) (h : nm.toList = [108, 101, 110]) : Named nm 1 ⟨#[116]⟩ :=
  ⟨hs, fun w => BuiltinCount_len nm w hs h, fun w => l01Count_len nm w h, fun w => takes_len nm w h, rfl⟩
theorem named_str (nm : ByteArray) (hs : nm.size ≤ 65536) (h : nm.toList = [115, 116, 114]) : Named nm 1 ⟨#[118]⟩ :=
  ⟨hs, fun w => BuiltinCount_str nm w hs h, fun w => l01Count_str nm w h, fun w => takes_str nm w h, rfl⟩
theorem named_abs (nm : ByteArray) (hs : nm.size ≤ 65536) (h : nm.toList = [97, 98, 115]) : Named nm 1 ⟨#[110]⟩ :=
  ⟨hs, fun w => BuiltinCount_abs nm w hs h, fun w => l01Count_abs nm w h, fun w => takes_abs nm w h, rfl⟩
theorem named_at (nm : ByteArray) (hs : nm.size ≤ 65536) (h : nm.toList = [97, 116]) : Named nm 2 ⟨#[116, 110]⟩ :=
  ⟨hs, fun w => BuiltinCount_at nm w hs h, fun w => l01Count_at nm w h, fun w => takes_at nm w h, rfl⟩
theorem named_max (nm : ByteArray) (hs : nm.size ≤ 65536) (h : nm.toList = [109, 97, 120]) : Named nm 2 ⟨#[110, 110]⟩ :=
  ⟨hs, fun w => BuiltinCount_max nm w hs h, fun w => l01Count_max nm w h, fun w => takes_max nm w h, rfl⟩
theorem named_min (nm : ByteArray) (hs : nm.size ≤ 65536) (h : nm.toList = [109, 105, 110]) : Named nm 2 ⟨#[110, 110]⟩ :=
  ⟨hs, fun w => BuiltinCount_min nm w hs h, fun w => l01Count_min nm w h, fun w => takes_min nm w h, rfl⟩
theorem named_cut (nm : ByteArray) (hs : nm.size ≤ 65536) (h : nm.toList = [99, 117, 116]) : Named nm 3 ⟨#[116, 110, 110]⟩ :=
  ⟨hs, fun w => BuiltinCount_cut nm w hs h, fun w => l01Count_cut nm w h, fun w => takes_cut nm w h, rfl⟩
set_option maxRecDepth 10000 in
theorem two_len (nm : ByteArray) (hs : nm.size ≤ 65536) (hx : nm.toList = [108, 101, 110]) (k0 n0 : Int) (t0 : ByteArray) (o0 : okV ⟨k0, n0, t0⟩) : ∃ r, Two nm [(⟨k0, n0, t0⟩ : V3)] r := by
  have N := named_len nm hs hx
  have hok : ∀ v ∈ [(⟨k0, n0, t0⟩ : V3)], okV v := fun v hv => by
    simp at hv
    subst hv
    exact o0
  by_cases hk0 : k0 = 3
  rotate_left
  · exact ⟨_, two_no N _ (by simp) hok rfl (fun h => (h 0 (by simp) (by decide)).1 ⟨rfl, hk0⟩) (fun w b cap hA => l01Builtin_lenno0 nm b cap k0 n0 t0 hk0 w hx (hA 0 (by simp)).1 (hA 0 (by simp)).2.1 (hA 0 (by simp)).2.2)⟩
  subst hk0
  have HFIT := show ∀ i (h : i < [(⟨3, n0, t0⟩ : V3)].length) (h' : i < (⟨#[116]⟩ : ByteArray).size), fitC ((⟨#[116]⟩ : ByteArray)[i].toNat : Int) [(⟨3, n0, t0⟩ : V3)][i].k from (fun i h h' => by
    obtain rfl : i = 0 := by simp at h; omega
    · exact fit_t _ _ rfl rfl)
  have h60 := vok_t60 o0.1
  exact ⟨intR ((t0.size : Nat) : Int), two_run N _ _ (by simp) hok rfl HFIT (fun w b cap hA hT => callBuiltin_len nm b cap t0 h60 w hx (hA 0 (by simp)).2.2) (fun w b cap hA => l01Builtin_len nm b cap n0 t0 h60 w hx (hA 0 (by simp)).1 (hA 0 (by simp)).2.1 (hA 0 (by simp)).2.2)⟩

set_option maxRecDepth 10000 in
theorem two_str (nm : ByteArray) (hs : nm.size ≤ 65536) (hx : nm.toList = [115, 116, 114]) (k0 n0 : Int) (t0 : ByteArray) (o0 : okV ⟨k0, n0, t0⟩) : ∃ r, Two nm [(⟨k0, n0, t0⟩ : V3)] r := by
  have N := named_str nm hs hx
  have hok : ∀ v ∈ [(⟨k0, n0, t0⟩ : V3)], okV v := fun v hv => by
    simp at hv
    subst hv
    exact o0
  have HFIT := show ∀ i (h : i < [(⟨k0, n0, t0⟩ : V3)].length) (h' : i < (⟨#[118]⟩ : ByteArray).size), fitC ((⟨#[118]⟩ : ByteArray)[i].toNat : Int) [(⟨k0, n0, t0⟩ : V3)][i].k from (fun i h h' => by
    obtain rfl : i = 0 := by simp at h; omega
    · exact fit_v _ _ rfl)
  exact ⟨textR (vtextB k0 n0 t0), two_run N _ _ (by simp) hok rfl HFIT (fun w b cap hA hT => callBuiltin_str nm b cap k0 n0 t0 o0.1 w hx (hA 0 (by simp)).1 (hA 0 (by simp)).2.1 (hA 0 (by simp)).2.2 hT) (fun w b cap hA => l01Builtin_str nm b cap k0 n0 t0 o0.1 w hx (hA 0 (by simp)).1 (hA 0 (by simp)).2.1 (hA 0 (by simp)).2.2)⟩

set_option maxRecDepth 10000 in
theorem two_abs (nm : ByteArray) (hs : nm.size ≤ 65536) (hx : nm.toList = [97, 98, 115]) (k0 n0 : Int) (t0 : ByteArray) (o0 : okV ⟨k0, n0, t0⟩) : ∃ r, Two nm [(⟨k0, n0, t0⟩ : V3)] r := by
  have N := named_abs nm hs hx
  have hok : ∀ v ∈ [(⟨k0, n0, t0⟩ : V3)], okV v := fun v hv => by
    simp at hv
    subst hv
    exact o0
  by_cases hk0 : k0 = 1
  rotate_left
  · exact ⟨_, two_no N _ (by simp) hok rfl (fun h => (h 0 (by simp) (by decide)).2 ⟨rfl, hk0⟩) (fun w b cap hA => l01Builtin_absno0 nm b cap k0 n0 t0 hk0 w hx (hA 0 (by simp)).1 (hA 0 (by simp)).2.1 (hA 0 (by simp)).2.2)⟩
  subst hk0
  have HFIT := show ∀ i (h : i < [(⟨1, n0, t0⟩ : V3)].length) (h' : i < (⟨#[110]⟩ : ByteArray).size), fitC ((⟨#[110]⟩ : ByteArray)[i].toNat : Int) [(⟨1, n0, t0⟩ : V3)][i].k from (fun i h h' => by
    obtain rfl : i = 0 := by simp at h; omega
    · exact fit_n _ _ rfl rfl)
  obtain ⟨b0, b1⟩ := vok_i o0.1
  rcases Int.lt_trichotomy n0 0 with h | h | h
  · exact ⟨fitR (-n0), two_run N _ _ (by simp) hok rfl HFIT (fun w b cap hA hT => callBuiltin_abs_a nm b cap n0 b0 h w hx (hA 0 (by simp)).2.1) (fun w b cap hA => l01Builtin_absa nm b cap n0 t0 b0 b1 h w hx (hA 0 (by simp)).1 (hA 0 (by simp)).2.1 (hA 0 (by simp)).2.2)⟩
  · subst h
    exact ⟨fitR 0, two_run N _ _ (by simp) hok rfl HFIT (fun w b cap hA hT => callBuiltin_abs_c nm b cap w hx (hA 0 (by simp)).2.1) (fun w b cap hA => l01Builtin_absc nm b cap t0 w hx (hA 0 (by simp)).1 (hA 0 (by simp)).2.1 (hA 0 (by simp)).2.2)⟩
  · exact ⟨fitR n0, two_run N _ _ (by simp) hok rfl HFIT (fun w b cap hA hT => callBuiltin_abs_b nm b cap n0 b1 h w hx (hA 0 (by simp)).2.1) (fun w b cap hA => l01Builtin_absb nm b cap n0 t0 b0 b1 h w hx (hA 0 (by simp)).1 (hA 0 (by simp)).2.1 (hA 0 (by simp)).2.2)⟩

set_option maxRecDepth 10000 in
theorem two_at (nm : ByteArray) (hs : nm.size ≤ 65536) (hx : nm.toList = [97, 116]) (k0 n0 : Int) (t0 : ByteArray) (o0 : okV ⟨k0, n0, t0⟩) (k1 n1 : Int) (t1 : ByteArray) (o1 : okV ⟨k1, n1, t1⟩) : ∃ r, Two nm [(⟨k0, n0, t0⟩ : V3), (⟨k1, n1, t1⟩ : V3)] r := by
  have N := named_at nm hs hx
  have hok : ∀ v ∈ [(⟨k0, n0, t0⟩ : V3), (⟨k1, n1, t1⟩ : V3)], okV v := fun v hv => by
    simp at hv
    rcases hv with rfl | rfl
    · exact o0
    · exact o1
  by_cases hk0 : k0 = 3
  rotate_left
  · exact ⟨_, two_no N _ (by simp) hok rfl (fun h => (h 0 (by simp) (by decide)).1 ⟨rfl, hk0⟩) (fun w b cap hA => l01Builtin_atno0 nm b cap k0 n0 t0 k1 hk0 w hx (hA 0 (by simp)).1 (hA 0 (by simp)).2.1 (hA 0 (by simp)).2.2 (hA 1 (by simp)).1)⟩
  subst hk0
  by_cases hk1 : k1 = 1
  rotate_left
  · exact ⟨_, two_no N _ (by simp) hok rfl (fun h => (h 1 (by simp) (by decide)).2 ⟨rfl, hk1⟩) (fun w b cap hA => l01Builtin_atno1 nm b cap 3 n0 t0 k1 rfl hk1 w hx (hA 0 (by simp)).1 (hA 0 (by simp)).2.1 (hA 0 (by simp)).2.2 (hA 1 (by simp)).1)⟩
  subst hk1
  have HFIT := show ∀ i (h : i < [(⟨3, n0, t0⟩ : V3), (⟨1, n1, t1⟩ : V3)].length) (h' : i < (⟨#[116, 110]⟩ : ByteArray).size), fitC ((⟨#[116, 110]⟩ : ByteArray)[i].toNat : Int) [(⟨3, n0, t0⟩ : V3), (⟨1, n1, t1⟩ : V3)][i].k from (fun i h h' => by
    obtain rfl | rfl : i = 0 ∨ i = 1 := by simp at h; omega
    · exact fit_t _ _ rfl rfl
    · exact fit_n _ _ rfl rfl)
  have h60 := vok_t60 o0.1
  by_cases ha : n1 < 0
  · exact ⟨zeroR 4, two_run N _ _ (by simp) hok rfl HFIT (fun w b cap hA hT => callBuiltin_at_a nm b cap t0 n1 ha w hx (hA 0 (by simp)).2.2 (hA 1 (by simp)).2.1) (fun w b cap hA => l01Builtin_ata nm b cap n0 t0 n1 h60 ha w hx (hA 0 (by simp)).1 (hA 0 (by simp)).2.1 (hA 0 (by simp)).2.2 (hA 1 (by simp)).1 (hA 1 (by simp)).2.1)⟩
  by_cases hb : (t0.size : Int) ≤ n1
  · exact ⟨zeroR 4, two_run N _ _ (by simp) hok rfl HFIT (fun w b cap hA hT => callBuiltin_at_b nm b cap t0 n1 (by omega) hb w hx (hA 0 (by simp)).2.2 (hA 1 (by simp)).2.1) (fun w b cap hA => l01Builtin_atb nm b cap n0 t0 n1 h60 hb w hx (hA 0 (by simp)).1 (hA 0 (by simp)).2.1 (hA 0 (by simp)).2.2 (hA 1 (by simp)).1 (hA 1 (by simp)).2.1)⟩
  obtain ⟨k, rfl⟩ := Int.eq_ofNat_of_zero_le (show 0 ≤ n1 by omega)
  have hk : k < t0.size := by omega
  have hl := t0[k].toNat_lt
  exact ⟨intR ((t0[k].toNat : Nat) : Int), two_run N _ _ (by simp) hok rfl HFIT (fun w b cap hA hT => callBuiltin_at_c nm b cap t0 k hk h60 w hx (hA 0 (by simp)).2.2 (hA 1 (by simp)).2.1) (fun w b cap hA => l01Builtin_atc nm b cap n0 t0 k h60 hk (by unfold wrap64; omega) (by rw [IntKind.wrap_i64]; omega) w hx (hA 0 (by simp)).1 (hA 0 (by simp)).2.1 (hA 0 (by simp)).2.2 (hA 1 (by simp)).1 (hA 1 (by simp)).2.1)⟩

set_option maxRecDepth 10000 in
theorem two_max (nm : ByteArray) (hs : nm.size ≤ 65536) (hx : nm.toList = [109, 97, 120]) (k0 n0 : Int) (t0 : ByteArray) (o0 : okV ⟨k0, n0, t0⟩) (k1 n1 : Int) (t1 : ByteArray) (o1 : okV ⟨k1, n1, t1⟩) : ∃ r, Two nm [(⟨k0, n0, t0⟩ : V3), (⟨k1, n1, t1⟩ : V3)] r := by
  have N := named_max nm hs hx
  have hok : ∀ v ∈ [(⟨k0, n0, t0⟩ : V3), (⟨k1, n1, t1⟩ : V3)], okV v := fun v hv => by
    simp at hv
    rcases hv with rfl | rfl
    · exact o0
    · exact o1
  by_cases hk0 : k0 = 1
  rotate_left
  · exact ⟨_, two_no N _ (by simp) hok rfl (fun h => (h 0 (by simp) (by decide)).2 ⟨rfl, hk0⟩) (fun w b cap hA => l01Builtin_maxno0 nm b cap k0 n0 t0 k1 hk0 w hx (hA 0 (by simp)).1 (hA 0 (by simp)).2.1 (hA 0 (by simp)).2.2 (hA 1 (by simp)).1)⟩
  subst hk0
  by_cases hk1 : k1 = 1
  rotate_left
  · exact ⟨_, two_no N _ (by simp) hok rfl (fun h => (h 1 (by simp) (by decide)).2 ⟨rfl, hk1⟩) (fun w b cap hA => l01Builtin_maxno1 nm b cap 1 n0 t0 k1 rfl hk1 w hx (hA 0 (by simp)).1 (hA 0 (by simp)).2.1 (hA 0 (by simp)).2.2 (hA 1 (by simp)).1)⟩
  subst hk1
  have HFIT := show ∀ i (h : i < [(⟨1, n0, t0⟩ : V3), (⟨1, n1, t1⟩ : V3)].length) (h' : i < (⟨#[110, 110]⟩ : ByteArray).size), fitC ((⟨#[110, 110]⟩ : ByteArray)[i].toNat : Int) [(⟨1, n0, t0⟩ : V3), (⟨1, n1, t1⟩ : V3)][i].k from (fun i h h' => by
    obtain rfl | rfl : i = 0 ∨ i = 1 := by simp at h; omega
    · exact fit_n _ _ rfl rfl
    · exact fit_n _ _ rfl rfl)
  rcases Int.lt_trichotomy n0 n1 with h | h | h
  · exact ⟨intR n1, two_run N _ _ (by simp) hok rfl HFIT (fun w b cap hA hT => callBuiltin_max_a nm b cap n0 n1 h w hx (hA 0 (by simp)).2.1 (hA 1 (by simp)).2.1) (fun w b cap hA => l01Builtin_maxa nm b cap t0 n0 n1 h w hx (hA 0 (by simp)).1 (hA 0 (by simp)).2.1 (hA 0 (by simp)).2.2 (hA 1 (by simp)).1 (hA 1 (by simp)).2.1)⟩
  · subst h
    exact ⟨intR n0, two_run N _ _ (by simp) hok rfl HFIT (fun w b cap hA hT => callBuiltin_max_c nm b cap n0 w hx (hA 0 (by simp)).2.1 (hA 1 (by simp)).2.1) (fun w b cap hA => l01Builtin_maxc nm b cap t0 n0 w hx (hA 0 (by simp)).1 (hA 0 (by simp)).2.1 (hA 0 (by simp)).2.2 (hA 1 (by simp)).1 (hA 1 (by simp)).2.1)⟩
  · exact ⟨intR n0, two_run N _ _ (by simp) hok rfl HFIT (fun w b cap hA hT => callBuiltin_max_b nm b cap n0 n1 h w hx (hA 0 (by simp)).2.1 (hA 1 (by simp)).2.1) (fun w b cap hA => l01Builtin_maxb nm b cap t0 n0 n1 h w hx (hA 0 (by simp)).1 (hA 0 (by simp)).2.1 (hA 0 (by simp)).2.2 (hA 1 (by simp)).1 (hA 1 (by simp)).2.1)⟩

set_option maxRecDepth 10000 in
theorem two_min (nm : ByteArray) (hs : nm.size ≤ 65536) (hx : nm.toList = [109, 105, 110]) (k0 n0 : Int) (t0 : ByteArray) (o0 : okV ⟨k0, n0, t0⟩) (k1 n1 : Int) (t1 : ByteArray) (o1 : okV ⟨k1, n1, t1⟩) : ∃ r, Two nm [(⟨k0, n0, t0⟩ : V3), (⟨k1, n1, t1⟩ : V3)] r := by
  have N := named_min nm hs hx
  have hok : ∀ v ∈ [(⟨k0, n0, t0⟩ : V3), (⟨k1, n1, t1⟩ : V3)], okV v := fun v hv => by
    simp at hv
    rcases hv with rfl | rfl
    · exact o0
    · exact o1
  by_cases hk0 : k0 = 1
  rotate_left
  · exact ⟨_, two_no N _ (by simp) hok rfl (fun h => (h 0 (by simp) (by decide)).2 ⟨rfl, hk0⟩) (fun w b cap hA => l01Builtin_minno0 nm b cap k0 n0 t0 k1 hk0 w hx (hA 0 (by simp)).1 (hA 0 (by simp)).2.1 (hA 0 (by simp)).2.2 (hA 1 (by simp)).1)⟩
  subst hk0
  by_cases hk1 : k1 = 1
  rotate_left
  · exact ⟨_, two_no N _ (by simp) hok rfl (fun h => (h 1 (by simp) (by decide)).2 ⟨rfl, hk1⟩) (fun w b cap hA => l01Builtin_minno1 nm b cap 1 n0 t0 k1 rfl hk1 w hx (hA 0 (by simp)).1 (hA 0 (by simp)).2.1 (hA 0 (by simp)).2.2 (hA 1 (by simp)).1)⟩
  subst hk1
  have HFIT := show ∀ i (h : i < [(⟨1, n0, t0⟩ : V3), (⟨1, n1, t1⟩ : V3)].length) (h' : i < (⟨#[110, 110]⟩ : ByteArray).size), fitC ((⟨#[110, 110]⟩ : ByteArray)[i].toNat : Int) [(⟨1, n0, t0⟩ : V3), (⟨1, n1, t1⟩ : V3)][i].k from (fun i h h' => by
    obtain rfl | rfl : i = 0 ∨ i = 1 := by simp at h; omega
    · exact fit_n _ _ rfl rfl
    · exact fit_n _ _ rfl rfl)
  rcases Int.lt_trichotomy n0 n1 with h | h | h
  · exact ⟨intR n0, two_run N _ _ (by simp) hok rfl HFIT (fun w b cap hA hT => callBuiltin_min_a nm b cap n0 n1 h w hx (hA 0 (by simp)).2.1 (hA 1 (by simp)).2.1) (fun w b cap hA => l01Builtin_mina nm b cap t0 n0 n1 h w hx (hA 0 (by simp)).1 (hA 0 (by simp)).2.1 (hA 0 (by simp)).2.2 (hA 1 (by simp)).1 (hA 1 (by simp)).2.1)⟩
  · subst h
    exact ⟨intR n0, two_run N _ _ (by simp) hok rfl HFIT (fun w b cap hA hT => callBuiltin_min_c nm b cap n0 w hx (hA 0 (by simp)).2.1 (hA 1 (by simp)).2.1) (fun w b cap hA => l01Builtin_minc nm b cap t0 n0 w hx (hA 0 (by simp)).1 (hA 0 (by simp)).2.1 (hA 0 (by simp)).2.2 (hA 1 (by simp)).1 (hA 1 (by simp)).2.1)⟩
  · exact ⟨intR n1, two_run N _ _ (by simp) hok rfl HFIT (fun w b cap hA hT => callBuiltin_min_b nm b cap n0 n1 h w hx (hA 0 (by simp)).2.1 (hA 1 (by simp)).2.1) (fun w b cap hA => l01Builtin_minb nm b cap t0 n0 n1 h w hx (hA 0 (by simp)).1 (hA 0 (by simp)).2.1 (hA 0 (by simp)).2.2 (hA 1 (by simp)).1 (hA 1 (by simp)).2.1)⟩

set_option maxRecDepth 10000 in
theorem two_cut (nm : ByteArray) (hs : nm.size ≤ 65536) (hx : nm.toList = [99, 117, 116]) (k0 n0 : Int) (t0 : ByteArray) (o0 : okV ⟨k0, n0, t0⟩) (k1 n1 : Int) (t1 : ByteArray) (o1 : okV ⟨k1, n1, t1⟩) (k2 n2 : Int) (t2 : ByteArray) (o2 : okV ⟨k2, n2, t2⟩) : ∃ r, Two nm [(⟨k0, n0, t0⟩ : V3), (⟨k1, n1, t1⟩ : V3), (⟨k2, n2, t2⟩ : V3)] r := by
  have N := named_cut nm hs hx
  have hok : ∀ v ∈ [(⟨k0, n0, t0⟩ : V3), (⟨k1, n1, t1⟩ : V3), (⟨k2, n2, t2⟩ : V3)], okV v := fun v hv => by
    simp at hv
    rcases hv with rfl | rfl | rfl
    · exact o0
    · exact o1
    · exact o2
  by_cases hk0 : k0 = 3
  rotate_left
  · exact ⟨_, two_no N _ (by simp) hok rfl (fun h => (h 0 (by simp) (by decide)).1 ⟨rfl, hk0⟩) (fun w b cap hA => l01Builtin_cutno0 nm b cap k0 n0 t0 k1 k2 hk0 w hx (hA 0 (by simp)).1 (hA 0 (by simp)).2.1 (hA 0 (by simp)).2.2 (hA 1 (by simp)).1 (hA 2 (by simp)).1)⟩
  subst hk0
  by_cases hk1 : k1 = 1
  rotate_left
  · exact ⟨_, two_no N _ (by simp) hok rfl (fun h => (h 1 (by simp) (by decide)).2 ⟨rfl, hk1⟩) (fun w b cap hA => l01Builtin_cutno1 nm b cap 3 n0 t0 k1 k2 rfl hk1 w hx (hA 0 (by simp)).1 (hA 0 (by simp)).2.1 (hA 0 (by simp)).2.2 (hA 1 (by simp)).1 (hA 2 (by simp)).1)⟩
  subst hk1
  by_cases hk2 : k2 = 1
  rotate_left
  · exact ⟨_, two_no N _ (by simp) hok rfl (fun h => (h 2 (by simp) (by decide)).2 ⟨rfl, hk2⟩) (fun w b cap hA => l01Builtin_cutno2 nm b cap 3 n0 t0 1 k2 rfl rfl hk2 w hx (hA 0 (by simp)).1 (hA 0 (by simp)).2.1 (hA 0 (by simp)).2.2 (hA 1 (by simp)).1 (hA 2 (by simp)).1)⟩
  subst hk2
  have HFIT := show ∀ i (h : i < [(⟨3, n0, t0⟩ : V3), (⟨1, n1, t1⟩ : V3), (⟨1, n2, t2⟩ : V3)].length) (h' : i < (⟨#[116, 110, 110]⟩ : ByteArray).size), fitC ((⟨#[116, 110, 110]⟩ : ByteArray)[i].toNat : Int) [(⟨3, n0, t0⟩ : V3), (⟨1, n1, t1⟩ : V3), (⟨1, n2, t2⟩ : V3)][i].k from (fun i h h' => by
    obtain rfl | rfl | rfl : i = 0 ∨ i = 1 ∨ i = 2 := by simp at h; omega
    · exact fit_t _ _ rfl rfl
    · exact fit_n _ _ rfl rfl
    · exact fit_n _ _ rfl rfl)
  have h60 := vok_t60 o0.1
  by_cases ha : n1 < 0
  · exact ⟨zeroR 4, two_run N _ _ (by simp) hok rfl HFIT (fun w b cap hA hT => callBuiltin_cut_a nm b cap t0 n1 n2 ha w hx (hA 0 (by simp)).2.2 (hA 1 (by simp)).2.1 (hA 2 (by simp)).2.1) (fun w b cap hA => l01Builtin_cuta nm b cap n0 t0 n1 n2 h60 ha w hx (hA 0 (by simp)).1 (hA 0 (by simp)).2.1 (hA 0 (by simp)).2.2 (hA 1 (by simp)).1 (hA 1 (by simp)).2.1 (hA 2 (by simp)).1 (hA 2 (by simp)).2.1)⟩
  by_cases hf : (t0.size : Int) < n1
  · by_cases hm : n2 < n1
    · exact ⟨zeroR 4, two_run N _ _ (by simp) hok rfl HFIT (fun w b cap hA hT => callBuiltin_cut_b nm b cap t0 n1 n2 (by omega) hm w hx (hA 0 (by simp)).2.2 (hA 1 (by simp)).2.1 (hA 2 (by simp)).2.1) (fun w b cap hA => l01Builtin_cuta2 nm b cap n0 t0 n1 n2 h60 hf w hx (hA 0 (by simp)).1 (hA 0 (by simp)).2.1 (hA 0 (by simp)).2.2 (hA 1 (by simp)).1 (hA 1 (by simp)).2.1 (hA 2 (by simp)).1 (hA 2 (by simp)).2.1)⟩
    · exact ⟨zeroR 4, two_run N _ _ (by simp) hok rfl HFIT (fun w b cap hA hT => callBuiltin_cut_c nm b cap t0 n1 n2 (by omega) (by omega) (by omega) w hx (hA 0 (by simp)).2.2 (hA 1 (by simp)).2.1 (hA 2 (by simp)).2.1) (fun w b cap hA => l01Builtin_cuta2 nm b cap n0 t0 n1 n2 h60 hf w hx (hA 0 (by simp)).1 (hA 0 (by simp)).2.1 (hA 0 (by simp)).2.2 (hA 1 (by simp)).1 (hA 1 (by simp)).2.1 (hA 2 (by simp)).1 (hA 2 (by simp)).2.1)⟩
  by_cases hm : n2 < n1
  · exact ⟨zeroR 4, two_run N _ _ (by simp) hok rfl HFIT (fun w b cap hA hT => callBuiltin_cut_b nm b cap t0 n1 n2 (by omega) hm w hx (hA 0 (by simp)).2.2 (hA 1 (by simp)).2.1 (hA 2 (by simp)).2.1) (fun w b cap hA => l01Builtin_cutb nm b cap n0 t0 n1 n2 h60 (by omega) (by omega) hm w hx (hA 0 (by simp)).1 (hA 0 (by simp)).2.1 (hA 0 (by simp)).2.2 (hA 1 (by simp)).1 (hA 1 (by simp)).2.1 (hA 2 (by simp)).1 (hA 2 (by simp)).2.1)⟩
  by_cases hg : (t0.size : Int) < n2
  · exact ⟨zeroR 4, two_run N _ _ (by simp) hok rfl HFIT (fun w b cap hA hT => callBuiltin_cut_c nm b cap t0 n1 n2 (by omega) (by omega) hg w hx (hA 0 (by simp)).2.2 (hA 1 (by simp)).2.1 (hA 2 (by simp)).2.1) (fun w b cap hA => l01Builtin_cutc nm b cap n0 t0 n1 n2 h60 (by omega) (by omega) hg w hx (hA 0 (by simp)).1 (hA 0 (by simp)).2.1 (hA 0 (by simp)).2.2 (hA 1 (by simp)).1 (hA 1 (by simp)).2.1 (hA 2 (by simp)).1 (hA 2 (by simp)).2.1)⟩
  obtain ⟨j, rfl⟩ := Int.eq_ofNat_of_zero_le (show 0 ≤ n1 by omega)
  obtain ⟨k, rfl⟩ := Int.eq_ofNat_of_zero_le (show 0 ≤ n2 by omega)
  exact ⟨textR (t0.extract j k), two_run N _ _ (by simp) hok rfl HFIT (fun w b cap hA hT => callBuiltin_cut_d nm b cap t0 j k (by omega) (by omega) h60 w hx (hA 0 (by simp)).2.2 (hA 1 (by simp)).2.1 (hA 2 (by simp)).2.1) (fun w b cap hA => l01Builtin_cutd nm b cap n0 t0 j k h60 (by omega) (by omega) w hx (hA 0 (by simp)).1 (hA 0 (by simp)).2.1 (hA 0 (by simp)).2.2 (hA 1 (by simp)).1 (hA 1 (by simp)).2.1 (hA 2 (by simp)).1 (hA 2 (by simp)).2.1)⟩

theorem two_any (nm : ByteArray) (vs : List V3) (hl : vs.length ≤ 1048576) (hsz : ∀ v ∈ vs, v.t.size ≤ maxLen) : ∃ r, Two nm vs r := by
  by_cases h1 : 65536 < nm.size
  · exact ⟨zeroR 2, fun w b cap _ _ => Builtin_long1 nm vs b cap w hl h1, fun w b cap _ => specBuiltin_long1 nm vs b cap w hl h1⟩
  have hs : nm.size ≤ 65536 := by omega
  by_cases h2 : 4096 < vs.length
  · exact ⟨zeroR 2, fun w b cap _ _ => Builtin_long2 nm vs b cap w hl hs h2, fun w b cap _ => specBuiltin_long2 nm vs b cap w hl hs h2⟩
  have hl' : vs.length ≤ 4096 := by omega
  by_cases h3 : ∀ i (h : i < vs.length), vokB vs[i].k vs[i].n vs[i].t = true
  rotate_left
  · exact ⟨zeroR 1, fun w b cap hA _ => Builtin_bad nm vs b cap w hs hl' hA hsz h3, fun w b cap hA => specBuiltin_bad nm vs b cap w hs hl' hA hsz h3⟩
  have hok : ∀ v ∈ vs, okV v := fun v hv => by
    obtain ⟨i, hi, rfl⟩ := List.getElem_of_mem hv
    exact ⟨h3 i hi, hsz _ hv⟩
  by_cases e0 : nm.toList = [108, 101, 110]
  · by_cases hc : vs.length = 1
    · match vs, hc, hok with
      | [⟨k0, n0, t0⟩], _, hok => exact two_len nm hs e0 k0 n0 t0 (hok ⟨k0, n0, t0⟩ (by simp))
    · exact ⟨_, two_count (named_len nm hs e0) vs hl' hok hc⟩
  by_cases e1 : nm.toList = [115, 116, 114]
  · by_cases hc : vs.length = 1
    · match vs, hc, hok with
      | [⟨k0, n0, t0⟩], _, hok => exact two_str nm hs e1 k0 n0 t0 (hok ⟨k0, n0, t0⟩ (by simp))
    · exact ⟨_, two_count (named_str nm hs e1) vs hl' hok hc⟩
  by_cases e2 : nm.toList = [97, 98, 115]
  · by_cases hc : vs.length = 1
    · match vs, hc, hok with
      | [⟨k0, n0, t0⟩], _, hok => exact two_abs nm hs e2 k0 n0 t0 (hok ⟨k0, n0, t0⟩ (by simp))
    · exact ⟨_, two_count (named_abs nm hs e2) vs hl' hok hc⟩
  by_cases e3 : nm.toList = [97, 116]
  · by_cases hc : vs.length = 2
    · match vs, hc, hok with
      | [⟨k0, n0, t0⟩, ⟨k1, n1, t1⟩], _, hok => exact two_at nm hs e3 k0 n0 t0 (hok ⟨k0, n0, t0⟩ (by simp)) k1 n1 t1 (hok ⟨k1, n1, t1⟩ (by simp))
    · exact ⟨_, two_count (named_at nm hs e3) vs hl' hok hc⟩
  by_cases e4 : nm.toList = [109, 97, 120]
  · by_cases hc : vs.length = 2
    · match vs, hc, hok with
      | [⟨k0, n0, t0⟩, ⟨k1, n1, t1⟩], _, hok => exact two_max nm hs e4 k0 n0 t0 (hok ⟨k0, n0, t0⟩ (by simp)) k1 n1 t1 (hok ⟨k1, n1, t1⟩ (by simp))
    · exact ⟨_, two_count (named_max nm hs e4) vs hl' hok hc⟩
  by_cases e5 : nm.toList = [109, 105, 110]
  · by_cases hc : vs.length = 2
    · match vs, hc, hok with
      | [⟨k0, n0, t0⟩, ⟨k1, n1, t1⟩], _, hok => exact two_min nm hs e5 k0 n0 t0 (hok ⟨k0, n0, t0⟩ (by simp)) k1 n1 t1 (hok ⟨k1, n1, t1⟩ (by simp))
    · exact ⟨_, two_count (named_min nm hs e5) vs hl' hok hc⟩
  by_cases e6 : nm.toList = [99, 117, 116]
  · by_cases hc : vs.length = 3
    · match vs, hc, hok with
      | [⟨k0, n0, t0⟩, ⟨k1, n1, t1⟩, ⟨k2, n2, t2⟩], _, hok => exact two_cut nm hs e6 k0 n0 t0 (hok ⟨k0, n0, t0⟩ (by simp)) k1 n1 t1 (hok ⟨k1, n1, t1⟩ (by simp)) k2 n2 t2 (hok ⟨k2, n2, t2⟩ (by simp))
    · exact ⟨_, two_count (named_cut nm hs e6) vs hl' hok hc⟩
  exact ⟨zeroR 5, fun w b cap hA _ => Builtin_none nm vs b cap w hs hl' hA hok (hide fun w => BuiltinCount_none nm w hs (beq_eq_false_iff_ne.2 e0) (beq_eq_false_iff_ne.2 e1) (beq_eq_false_iff_ne.2 e2) (beq_eq_false_iff_ne.2 e3) (beq_eq_false_iff_ne.2 e4) (beq_eq_false_iff_ne.2 e5) (beq_eq_false_iff_ne.2 e6)), fun w b cap hA => specBuiltin_none nm vs b cap w hs hl' hA hok (hide fun w => l01Count_none nm w (beq_eq_false_iff_ne.2 e0) (beq_eq_false_iff_ne.2 e1) (beq_eq_false_iff_ne.2 e2) (beq_eq_false_iff_ne.2 e3) (beq_eq_false_iff_ne.2 e4) (beq_eq_false_iff_ne.2 e5) (beq_eq_false_iff_ne.2 e6))⟩

end Go.Proofs.YtpncohkbdaoceaaDoor
