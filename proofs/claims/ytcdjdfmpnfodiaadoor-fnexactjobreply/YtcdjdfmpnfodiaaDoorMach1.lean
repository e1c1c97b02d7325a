/- Machines that came in: frames in rows of five cells, their slots, stacks and tries in rows of their own; 'laws.szMachine', 'laws.toMachine'. -/
import Derived.Test.YtcdjdfmpnfodiaaDoorValueLaws
import Derived.Laws.MakeOwn
import Derived.Lib.SmallJoins
import Derived.Deep.Slices
namespace Go.Proofs.YtcdjdfmpnfodiaaDoor
open Go.RowKit Go.Joins
set_option linter.unusedVariables false

/-- a value, a try, a frame -/
structure MV where
  k : Int
  n : Int
  t : ByteArray
structure MT where
  a : Int
  h : Int
structure MF where
  f : Int
  pc : Int
  slots : List MV
  stack : List MV
  tries : List MT
/-- where frames lie -/
structure FLay where
  p : Option Addr
  ps : Nat → Option Addr
  cs : Nat → Nat
  pk : Nat → Option Addr
  ck : Nat → Nat
  pt : Nat → Option Addr
  ct : Nat → Nat
def MVals (w : World) (p : Option Addr) (vs : List MV) : Prop := ∀ i (h : i < vs.length), ∃ b off, p = some ⟨b, off, none⟩ ∧ w.cell? ⟨b, off + i * 3, none⟩ = some (.int .i64 vs[i].k) ∧ w.cell? ⟨b, off + i * 3 + 1, none⟩ = some (.int .i64 vs[i].n) ∧ w.cell? ⟨b, off + i * 3 + 2, none⟩ = some (.string vs[i].t)
def MTries (w : World) (p : Option Addr) (ts : List MT) : Prop := ∀ i (h : i < ts.length), ∃ b off, p = some ⟨b, off, none⟩ ∧ w.cell? ⟨b, off + i * 2, none⟩ = some (.int .i64 ts[i].a) ∧ w.cell? ⟨b, off + i * 2 + 1, none⟩ = some (.int .i64 ts[i].h)
theorem MVals.later {w w' : World} {p : Option Addr} {vs : List MV} (h : MVals w p vs) (hb : Below w.heap.size w w') : MVals w' p vs := fun i hi => by
  obtain ⟨b, off, rfl, h0, h1, h2⟩ := h i hi
  exact ⟨b, off, rfl, cell_later hb h0, cell_later hb h1, cell_later hb h2⟩
theorem MTries.later {w w' : World} {p : Option Addr} {vs : List MT} (h : MTries w p vs) (hb : Below w.heap.size w w') : MTries w' p vs := fun i hi => by
  obtain ⟨b, off, rfl, h0, h1⟩ := h i hi
  exact ⟨b, off, rfl, cell_later hb h0, cell_later hb h1⟩
theorem MVals.heap {w w' : World} {p : Option Addr} {vs : List MV} (h : MVals w p vs) (hb : w'.heap = w.heap) : MVals w' p vs := fun i hi => by
  obtain ⟨b, off, rfl, h0, h1, h2⟩ := h i hi
  have e : ∀ o, w'.cell? ⟨b, o, none⟩ = w.cell? ⟨b, o, none⟩ := fun o => World.cell?_of_block (by rw [hb])
  exact ⟨b, off, rfl, by rw [e]; exact h0, by rw [e]; exact h1, by rw [e]; exact h2⟩
theorem MTries.heap {w w' : World} {p : Option Addr} {vs : List MT} (h : MTries w p vs) (hb : w'.heap = w.heap) : MTries w' p vs := fun i hi => by
  obtain ⟨b, off, rfl, h0, h1⟩ := h i hi
  have e : ∀ o, w'.cell? ⟨b, o, none⟩ = w.cell? ⟨b, o, none⟩ := fun o => World.cell?_of_block (by rw [hb])
  exact ⟨b, off, rfl, by rw [e]; exact h0, by rw [e]; exact h1⟩
def FramesAt (w : World) (L : FLay) (fs : List MF) : Prop := ∀ i (h : i < fs.length), ∃ b off, L.p = some ⟨b, off, none⟩ ∧ w.cell? ⟨b, off + i * 5, none⟩ = some (.int .i64 fs[i].f) ∧ w.cell? ⟨b, off + i * 5 + 1, none⟩ = some (.int .i64 fs[i].pc) ∧ w.cell? ⟨b, off + i * 5 + 2, none⟩ = some (.slice (L.ps i) fs[i].slots.length (L.cs i)) ∧ w.cell? ⟨b, off + i * 5 + 3, none⟩ = some (.slice (L.pk i) fs[i].stack.length (L.ck i)) ∧ w.cell? ⟨b, off + i * 5 + 4, none⟩ = some (.slice (L.pt i) fs[i].tries.length (L.ct i)) ∧ MVals w (L.ps i) fs[i].slots ∧ MVals w (L.pk i) fs[i].stack ∧ MTries w (L.pt i) fs[i].tries
theorem FramesAt.later {w w' : World} {L : FLay} {fs : List MF} (h : FramesAt w L fs) (hb : Below w.heap.size w w') : FramesAt w' L fs := fun i hi => by
  obtain ⟨b, off, hp, h0, h1, h2, h3, h4, h5, h6, h7⟩ := h i hi
  exact ⟨b, off, hp, cell_later hb h0, cell_later hb h1, cell_later hb h2, cell_later hb h3, cell_later hb h4, h5.later hb, h6.later hb, h7.later hb⟩
def WideF (x : MF) : Prop := x.slots.length ≤ maxLen ∧ x.stack.length ≤ maxLen ∧ x.tries.length ≤ maxLen ∧ (∀ v ∈ x.slots, v.t.size ≤ maxLen) ∧ ∀ v ∈ x.stack, v.t.size ≤ maxLen
def WideFs (fs : List MF) : Prop := fs.length ≤ maxLen ∧ ∀ x ∈ fs, WideF x
def SmallF (x : MF) : Prop := x.slots.length ≤ 1048576 ∧ x.stack.length ≤ 1048576 ∧ x.tries.length ≤ 1048576
def SmallFs (fs : List MF) : Prop := fs.length ≤ 1048576 ∧ ∀ x ∈ fs, SmallF x

set_option maxHeartbeats 2000000 in
theorem szMVals_any (p : Option Addr) (vs : List MV) (cap : Nat) (left : Int) (w : World) (hrow : MVals w p vs) (h0 : 0 ≤ left) (h1 : left ≤ 1048576) (hlen : vs.length ≤ 9223372036854775807) (hsz : ∀ v ∈ vs, v.t.size ≤ maxLen) :
    Calls Tryd.prog 34 #[.slice p vs.length cap, .int .i64 left] w fun e w' => ∃ r : Int, e = .returned (.int .i64 r) ∧ (r < 0 ∨ (0 ≤ r ∧ r ≤ left ∧ vs.length ≤ 1048576)) ∧ Below w.heap.size w w' := by
  have HR := hide hrow
  have HS := hide hsz
  clear hrow hsz
  by_cases hl : left < vs.length
  · go_enter Tryd.func34, Tryd.ntmps34
    go_wp2
    go_ret
    exact ⟨-1, rfl, .inl (by omega), Below.refl _ _⟩
  go_enter Tryd.func34, Tryd.ntmps34
  go_wp2
  go_loopw [1, 5] (fun l i wx => ∃ (k : Nat) (lf : Int), k ≤ vs.length ∧ i = .int .i64 k ∧ l = .int .i64 lf ∧ 0 ≤ lf ∧ lf ≤ left ∧ Below w.heap.size w wx) (fun l i _ => vs.length - (intOf i).toNat)
  case atStart => exact ⟨0, left - (vs.length : Int), by omega, rfl, rfl, by omega, by omega, Below.refl _ _⟩
  case round =>
    obtain ⟨k, lf, hk, rfl, rfl, hl0, hl1, hnx⟩ := hrel
    by_cases hlt : k < vs.length
    · obtain ⟨b, off, rfl, q0, q1, q2⟩ := (unhide HR).later hnx k hlt
      have hsz := unhide HS vs[k] (List.getElem_mem hlt)
      generalize vs[k].k = vk at q0
      generalize vs[k].n = vn at q1
      generalize vs[k].t = vt at q2 hsz
      by_cases hy : (vt.size : Int) ≤ lf
      · go_wp2_with fail
        refine (szValue_yes vk vn vt lf _ (by omega) hy).mono ?_
        rintro e w1 ⟨rfl, hb1⟩
        go_wp2
        go_roundw
        case rel => exact ⟨k + 1, lf - vt.size, by omega, by go_num, rfl, by omega, by omega, nx_trans hnx hb1⟩
        case measure => simp [intOf]; omega
      · go_wp2_with fail
        refine (szValue_no vk vn vt lf _ hsz hl0 (by omega) (by omega)).mono ?_
        rintro e w1 ⟨rfl, hb1⟩
        go_wp2
        go_ret
        exact ⟨-1, rfl, .inl (by omega), nx_trans hnx hb1⟩
    · go_wp2
      go_ret
      exact ⟨lf, rfl, .inr ⟨hl0, hl1, by omega⟩, hnx⟩

theorem szMTries_any (p : Option Addr) (n cap : Nat) (left : Int) (w : World) (h0 : 0 ≤ left) (h1 : left ≤ 1048576) (hlen : n ≤ 9223372036854775807) :
    Calls Tryd.prog 35 #[.slice p n cap, .int .i64 left] w fun e w' => ∃ r : Int, e = .returned (.int .i64 r) ∧ (r < 0 ∨ (0 ≤ r ∧ r ≤ left ∧ n ≤ 1048576)) ∧ Below w.heap.size w w' := by
  by_cases hl : left < n
  · go_enter Tryd.func35, Tryd.ntmps35
    go_wp2
    go_ret
    exact ⟨-1, rfl, .inl (by omega), Below.refl _ _⟩
  · go_enter Tryd.func35, Tryd.ntmps35
    go_wp2
    go_ret
    exact ⟨_, rfl, .inr ⟨by omega, by omega, by omega⟩, Below.refl _ _⟩

set_option maxHeartbeats 2000000 in
theorem szFrame_any (x : MF) (ps : Option Addr) (cs : Nat) (pk : Option Addr) (ck : Nat) (pt : Option Addr) (ct : Nat) (left : Int) (w : World) (hs : MVals w ps x.slots) (hk : MVals w pk x.stack) (h0 : 0 ≤ left) (h1 : left ≤ 1048576) (hw : WideF x) :
    Calls Tryd.prog 25 #[.agg #[.int .i64 x.f, .int .i64 x.pc, .slice ps x.slots.length cs, .slice pk x.stack.length ck, .slice pt x.tries.length ct], .int .i64 left] w fun e w' => ∃ r : Int, e = .returned (.int .i64 r) ∧ (r < 0 ∨ (0 ≤ r ∧ r ≤ left ∧ SmallF x)) ∧ Below w.heap.size w w' := by
  obtain ⟨xf, xp, xs, xk, xt⟩ := x
  obtain ⟨z0, z1, z2, z3, z4⟩ := hw
  have HS := hide hs
  have HK := hide hk
  have HZ3 := hide z3
  have HZ4 := hide z4
  unfold maxLen at z0 z1 z2
  clear hs hk z3 z4
  dsimp only at HS HK HZ3 HZ4 z0 z1 z2 ⊢
  go_enter Tryd.func25, Tryd.ntmps25
  go_wp2_with fail
  refine (szMVals_any ps xs cs left _ ((unhide HS).later (nx_alloc _ _)) h0 h1 (by omega) (unhide HZ3)).mono ?_
  rintro e w1 ⟨r1, rfl, hr1, hb1⟩
  obtain ⟨hc1, hf1⟩ := bcell hb1
  have hz1 : w.heap.size < w1.heap.size := by have := hb1.size; simp at this; omega
  have hB1 := hide (nx_trans (nx_alloc _ _) hb1)
  clear hb1
  rcases hr1 with hr1 | ⟨hr0, hrl, hn1⟩
  · go_wp2
    go_ret
    exact ⟨-1, rfl, .inl (by omega), unhide hB1⟩
  go_wp2_with fail
  refine (szMVals_any pk xk ck r1 w1 ((unhide HK).later (unhide hB1)) hr0 (by omega) (by omega) (unhide HZ4)).mono ?_
  rintro e w2 ⟨r2, rfl, hr2, hb2⟩
  obtain ⟨hc2, hf2⟩ := bcell hb2
  have hz2 : w.heap.size < w2.heap.size := by have := hb2.size; omega
  have hB2 := hide (nx_trans (unhide hB1) hb2)
  clear hb2
  rcases hr2 with hr2 | ⟨hr20, hrl2, hn2⟩
  · go_wp2
    go_ret
    exact ⟨-1, rfl, .inl (by omega), unhide hB2⟩
  go_wp2_with fail
  refine (szMTries_any pt xt.length ct r2 w2 hr20 (by omega) (by omega)).mono ?_
  rintro e w3 ⟨r3, rfl, hr3, hb3⟩
  have hB3 := hide (nx_trans (unhide hB2) hb3)
  clear hb3 hc1 hf1 hc2 hf2
  rcases hr3 with hr3 | ⟨hr30, hrl3, hn3⟩
  · go_wp2
    go_ret
    exact ⟨-1, rfl, .inl (by omega), unhide hB3⟩
  go_wp2
  go_ret
  exact ⟨r3, rfl, .inr ⟨hr30, by omega, hn1, hn2, hn3⟩, unhide hB3⟩

def SfUp (ns : List MF) (k : Nat) : Prop := ∀ j (h : j < ns.length), j < k → SmallF ns[j]
theorem SfUp.next {ns : List MF} {k : Nat} (h : SfUp ns k) (hk : k < ns.length) (hs : SmallF ns[k]) : SfUp ns (k + 1) := fun j hj hjk => by
  by_cases e : j = k
  · subst e; exact hs
  · exact h j hj (by omega)
theorem SfUp.all {ns : List MF} (h : SfUp ns ns.length) : ∀ s ∈ ns, SmallF s := fun s hs => by
  obtain ⟨i, hi, rfl⟩ := List.getElem_of_mem hs
  exact h i hi hi

set_option maxHeartbeats 4000000 in
theorem szFramesL_any (L : FLay) (fs : List MF) (cap : Nat) (left : Int) (w : World) (hrow : FramesAt w L fs) (hw : WideFs fs) (h0 : 0 ≤ left) (h1 : left ≤ 1048576) :
    Calls Tryd.prog 16 #[.slice L.p fs.length cap, .int .i64 left] w fun e w' => ∃ r : Int, e = .returned (.int .i64 r) ∧ (r < 0 ∨ (0 ≤ r ∧ r ≤ 1048576 ∧ SmallFs fs)) ∧ Below w.heap.size w w' := by
  have HR := hide hrow
  have HW := hide hw.2
  have hlen := hw.1
  unfold maxLen at hlen
  clear hrow hw
  by_cases hl : left < fs.length
  · go_enter Tryd.func16, Tryd.ntmps16
    go_wp2
    go_ret
    exact ⟨-1, rfl, .inl (by omega), Below.refl _ _⟩
  go_enter Tryd.func16, Tryd.ntmps16
  go_wp2
  go_loopw [1, 5] (fun l i wx => ∃ (k : Nat) (lf : Int), k ≤ fs.length ∧ i = .int .i64 k ∧ l = .int .i64 lf ∧ 0 ≤ lf ∧ lf ≤ 1048576 ∧ Hid (SfUp fs k) ∧ Below w.heap.size w wx) (fun l i _ => fs.length - (intOf i).toNat)
  case atStart => exact ⟨0, left - (fs.length : Int), by omega, rfl, rfl, by omega, by omega, hide (fun j _ h => absurd h (by omega)), Below.refl _ _⟩
  case round =>
    obtain ⟨k, lf, hk, rfl, rfl, hl0, hl1, hup, hnx⟩ := hrel
    by_cases hlt : k < fs.length
    · obtain ⟨b, off, hp, q0, q1, q2, q3, q4, q5, q6, q7⟩ := (unhide HR).later hnx k hlt
      have HZ := hide (unhide HW fs[k] (List.getElem_mem hlt))
      have hn := hide (fun h => (unhide hup).next hlt h)
      have H5 := hide q5
      have H6 := hide q6
      clear q5 q6 q7
      rw [hp]
      generalize fs[k] = x at q0 q1 q2 q3 q4 HZ hn H5 H6
      generalize L.ps k = ps at q2 H5
      generalize L.cs k = cs at q2
      generalize L.pk k = pk at q3 H6
      generalize L.ck k = ck at q3
      generalize L.pt k = pt at q4
      generalize L.ct k = ct at q4
      go_wp2_with fail
      refine (szFrame_any x ps cs pk ck pt ct lf _ (unhide H5) (unhide H6) hl0 hl1 (unhide HZ)).mono ?_
      rintro e w1 ⟨r, rfl, hr, hb1⟩
      have hB := hide (nx_trans hnx hb1)
      rcases hr with hr | ⟨hr0, hrl, s0⟩
      · go_wp2
        go_ret
        exact ⟨-1, rfl, .inl (by omega), unhide hB⟩
      · have hd := hide (unhide hn s0)
        clear s0
        go_wp2
        go_roundw
        case rel => exact ⟨k + 1, r, by omega, by go_num, rfl, hr0, by omega, hide (unhide hd), unhide hB⟩
        case measure => simp [intOf]; omega
    · obtain rfl : k = fs.length := by omega
      go_wp2
      go_ret
      exact ⟨lf, rfl, .inr ⟨hl0, hl1, by omega, (unhide hup).all⟩, hnx⟩

set_option maxHeartbeats 2000000 in
theorem szMachineL_any (L : FLay) (fs : List MF) (cap : Nat) (st : Int) (v : MV) (used left : Int) (w : World) (hrow : FramesAt w L fs) (hw : WideFs fs) (hv : v.t.size ≤ maxLen) (h0 : 0 ≤ left) (h1 : left ≤ 1048576) :
    Calls Tryd.prog 9 #[.agg #[.slice L.p fs.length cap, .int .i64 st, .int .i64 v.k, .int .i64 v.n, .string v.t, .int .i64 used], .int .i64 left] w fun e w' => ∃ r : Int, e = .returned (.int .i64 r) ∧ (r < 0 ∨ (0 ≤ r ∧ SmallFs fs ∧ v.t.size ≤ 1048576)) ∧ Below w.heap.size w w' := by
  have HR := hide hrow
  have HW := hide hw
  obtain ⟨vk, vn, vt⟩ := v
  dsimp only at hv ⊢
  clear hrow hw
  go_enter Tryd.func9, Tryd.ntmps9
  go_wp2_with fail
  refine (szFramesL_any L fs cap left _ ((unhide HR).later (nx_alloc _ _)) (unhide HW) h0 h1).mono ?_
  rintro e w1 ⟨r, rfl, hr, hb1⟩
  obtain ⟨hc1, hf1⟩ := bcell hb1
  have hz1 : w.heap.size < w1.heap.size := by have := hb1.size; simp at this; omega
  have hB := hide (nx_trans (nx_alloc _ _) hb1)
  clear hb1
  rcases hr with hr | ⟨hr0, hr1, hs⟩
  · go_wp2
    go_ret
    exact ⟨-1, rfl, .inl (by omega), unhide hB⟩
  have HS := hide hs
  clear hs
  by_cases hy : (vt.size : Int) ≤ r
  · go_wp2_with fail
    refine (szValue_yes vk vn vt r _ (by omega) hy).mono ?_
    rintro e w2 ⟨rfl, hb2⟩
    have hB2 := hide (nx_trans (unhide hB) hb2)
    clear hb2
    go_wp2
    go_ret
    exact ⟨_, rfl, .inr ⟨by omega, unhide HS, by omega⟩, unhide hB2⟩
  · go_wp2_with fail
    refine (szValue_no vk vn vt r _ hv hr0 (by omega) (by omega)).mono ?_
    rintro e w2 ⟨rfl, hb2⟩
    have hB2 := hide (nx_trans (unhide hB) hb2)
    clear hb2
    go_wp2
    go_ret
    exact ⟨-1, rfl, .inl (by omega), unhide hB2⟩

theorem szMachine_any (L : FLay) (fs : List MF) (cap : Nat) (st : Int) (v : MV) (used : Int) (w : World) (hrow : FramesAt w L fs) (hw : WideFs fs) (hv : v.t.size ≤ maxLen) :
    Calls Tryd.prog 9 #[.agg #[.slice L.p fs.length cap, .int .i64 st, .int .i64 v.k, .int .i64 v.n, .string v.t, .int .i64 used], .int .i64 1048576] w fun e w' => ∃ r : Int, e = .returned (.int .i64 r) ∧ (r < 0 ∨ (0 ≤ r ∧ SmallFs fs ∧ v.t.size ≤ 1048576)) ∧ Below w.heap.size w w' :=
  szMachineL_any L fs cap st v used 1048576 w hrow hw hv (by omega) (by omega)

end Go.Proofs.YtcdjdfmpnfodiaaDoor
