/- Trees that are measured, copied and held against each other: 'laws.szTree', 'laws.toTree', 'laws.eqTree'. -/
import Derived.Test.YtbipgmikgokfpaaDoorTreeMem
import Derived.Deep.Slices
namespace Go.Proofs.YtbipgmikgokfpaaDoor
open Go.RowKit Go.Joins
set_option linter.unusedVariables false

/-- the first k texts are small -/
def SzUp (ss : List ByteArray) (k : Nat) : Prop := ∀ j (h : j < ss.length), j < k → ss[j].size ≤ 1048576
theorem SzUp.next {ss : List ByteArray} {k : Nat} (h : SzUp ss k) (hk : k < ss.length) (hs : ss[k].size ≤ 1048576) : SzUp ss (k + 1) := fun j hj hjk => by
  by_cases e : j = k
  · subst e; exact hs
  · exact h j hj (by omega)
theorem SzUp.all {ss : List ByteArray} (h : SzUp ss ss.length) : ∀ s ∈ ss, s.size ≤ 1048576 := fun s hs => by
  obtain ⟨i, hi, rfl⟩ := List.getElem_of_mem hs
  exact h i hi hi

set_option maxHeartbeats 2000000 in
theorem szStringS_any (p : Option Addr) (ss : List ByteArray) (cap : Nat) (left : Int) (w : World) (hrow : StrsAt w p ss) (h0 : 0 ≤ left) (h1 : left ≤ 1048576) (hlen : ss.length ≤ 9223372036854775807) (hsz : ∀ s ∈ ss, s.size ≤ 9223372036854775807) :
    Calls Tryd.prog 114 #[.slice p ss.length cap, .int .i64 left] w fun e w' => ∃ r : Int, e = .returned (.int .i64 r) ∧ (r < 0 ∨ (0 ≤ r ∧ r ≤ left ∧ ss.length ≤ 1048576 ∧ ∀ s ∈ ss, s.size ≤ 1048576)) ∧ Below w.heap.size w w' := by
  have HR := hide hrow
  have HS := hide hsz
  clear hrow hsz
  by_cases hl : left < ss.length
  · go_enter Tryd.func114, Tryd.ntmps114
    go_wp2
    go_ret
    exact ⟨-1, rfl, .inl (by omega), Below.refl _ _⟩
  go_enter Tryd.func114, Tryd.ntmps114
  go_wp2
  go_loopw [1, 5] (fun l i wx => ∃ (k : Nat) (lf : Int), k ≤ ss.length ∧ i = .int .i64 k ∧ l = .int .i64 lf ∧ 0 ≤ lf ∧ lf ≤ left ∧ Hid (SzUp ss k) ∧ Below w.heap.size w wx) (fun l i _ => ss.length - (intOf i).toNat)
  case atStart => exact ⟨0, left - (ss.length : Int), by omega, rfl, rfl, by omega, by omega, hide (fun j _ h => absurd h (by omega)), Below.refl _ _⟩
  case round =>
    obtain ⟨k, lf, hk, rfl, rfl, hl0, hl1, hup, hnx⟩ := hrel
    by_cases hlt : k < ss.length
    · obtain ⟨b, off, rfl, q0⟩ := (unhide HR).later hnx k hlt
      have hz := unhide HS ss[k] (List.getElem_mem hlt)
      have hn := hide (fun h => (unhide hup).next hlt h)
      generalize ss[k] = s at q0 hz hn
      by_cases hy : (s.size : Int) ≤ lf
      · have hd := hide (unhide hn (by omega))
        go_wp2
        go_roundw
        case rel => exact ⟨k + 1, lf - s.size, by omega, by go_num, by go_num, by omega, by omega, hide (unhide hd), hnx⟩
        case measure => simp [intOf]; omega
      · go_wp2
        go_ret
        exact ⟨-1, rfl, .inl (by omega), hnx⟩
    · obtain rfl : k = ss.length := by omega
      go_wp2
      go_ret
      exact ⟨lf, rfl, .inr ⟨hl0, hl1, by omega, (unhide hup).all⟩, hnx⟩

theorem szIntS_any (p : Option Addr) (n cap : Nat) (left : Int) (w : World) (h0 : 0 ≤ left) (h1 : left ≤ 1048576) (hlen : n ≤ 9223372036854775807) :
    Calls Tryd.prog 115 #[.slice p n cap, .int .i64 left] w fun e w' => ∃ r : Int, e = .returned (.int .i64 r) ∧ (r < 0 ∨ (0 ≤ r ∧ r ≤ left ∧ n ≤ 1048576)) ∧ Below w.heap.size w w' := by
  by_cases hl : left < n
  · go_enter Tryd.func115, Tryd.ntmps115
    go_wp2
    go_ret
    exact ⟨-1, rfl, .inl (by omega), Below.refl _ _⟩
  · go_enter Tryd.func115, Tryd.ntmps115
    go_wp2
    go_ret
    exact ⟨_, rfl, .inr ⟨by omega, by omega, by omega⟩, Below.refl _ _⟩

set_option maxHeartbeats 2000000 in
theorem szNode_any (k n : Int) (t : ByteArray) (pn : Option Addr) (names : List ByteArray) (cn : Nat) (pk : Option Addr) (kl ck : Nat) (left : Int) (w : World) (hrow : StrsAt w pn names) (h0 : 0 ≤ left) (h1 : left ≤ 1048576) (ht : t.size ≤ 9223372036854775807) (hlen : names.length ≤ 9223372036854775807) (hkl : kl ≤ 9223372036854775807) (hsz : ∀ s ∈ names, s.size ≤ 9223372036854775807) :
    Calls Tryd.prog 88 #[.agg #[.int .i64 k, .int .i64 n, .string t, .slice pn names.length cn, .slice pk kl ck], .int .i64 left] w fun e w' => ∃ r : Int, e = .returned (.int .i64 r) ∧ (r < 0 ∨ (0 ≤ r ∧ r ≤ left ∧ t.size ≤ 1048576 ∧ names.length ≤ 1048576 ∧ kl ≤ 1048576 ∧ ∀ s ∈ names, s.size ≤ 1048576)) ∧ Below w.heap.size w w' := by
  have HR := hide hrow
  have HS := hide hsz
  clear hrow hsz
  by_cases hl : left < t.size
  · go_enter Tryd.func88, Tryd.ntmps88
    go_wp2
    go_ret
    exact ⟨-1, rfl, .inl (by omega), nx_alloc _ _⟩
  go_enter Tryd.func88, Tryd.ntmps88
  go_wp2_with fail
  refine (szStringS_any pn names cn (left - t.size) _ ((unhide HR).later (nx_alloc _ _)) (by omega) (by omega) hlen (unhide HS)).mono ?_
  rintro e w1 ⟨r1, rfl, hr1, hb1⟩
  obtain ⟨hc1, hf1⟩ := bcell hb1
  have hz1 : w.heap.size < w1.heap.size := by have := hb1.size; simp at this; omega
  have hB1 := hide (nx_trans (nx_alloc _ _) hb1)
  clear hb1
  rcases hr1 with hr1 | ⟨hr0, hrl, hn1, hn2⟩
  · go_wp2
    go_ret
    exact ⟨-1, rfl, .inl (by omega), unhide hB1⟩
  have HN2 := hide hn2
  clear hn2
  go_wp2_with fail
  refine (szIntS_any pk kl ck r1 w1 hr0 (by omega) hkl).mono ?_
  rintro e w2 ⟨r2, rfl, hr2, hb2⟩
  have hB2 := hide (nx_trans (unhide hB1) hb2)
  clear hb2 hc1 hf1
  rcases hr2 with hr2 | ⟨hr20, hrl2, hn3⟩
  · go_wp2
    go_ret
    exact ⟨-1, rfl, .inl (by omega), unhide hB2⟩
  go_wp2
  go_ret
  exact ⟨r2, rfl, .inr ⟨hr20, by omega, by omega, hn1, hn3, unhide HN2⟩, unhide hB2⟩

/-- the first k nodes are small -/
def SmUp (ns : List TN) (k : Nat) : Prop := ∀ j (h : j < ns.length), j < k → SmallN ns[j]
theorem SmUp.next {ns : List TN} {k : Nat} (h : SmUp ns k) (hk : k < ns.length) (hs : SmallN ns[k]) : SmUp ns (k + 1) := fun j hj hjk => by
  by_cases e : j = k
  · subst e; exact hs
  · exact h j hj (by omega)
theorem SmUp.all {ns : List TN} (h : SmUp ns ns.length) : ∀ s ∈ ns, SmallN s := fun s hs => by
  obtain ⟨i, hi, rfl⟩ := List.getElem_of_mem hs
  exact h i hi hi

set_option maxHeartbeats 4000000 in
theorem szNodeS_any (L : Lay) (ns : List TN) (cap : Nat) (w : World) (hrow : NodesAt w L ns) (hw : Wide ns) :
    Calls Tryd.prog 59 #[.slice L.p ns.length cap, .int .i64 1048576] w fun e w' => ∃ r : Int, e = .returned (.int .i64 r) ∧ (r < 0 ∨ (0 ≤ r ∧ Small ns)) ∧ Below w.heap.size w w' := by
  have HR := hide hrow
  have HW := hide hw.2
  have hlen := hw.1
  unfold maxLen at hlen
  clear hrow hw
  by_cases hl : 1048576 < ns.length
  · go_enter Tryd.func59, Tryd.ntmps59
    go_wp2
    go_ret
    exact ⟨-1, rfl, .inl (by omega), Below.refl _ _⟩
  go_enter Tryd.func59, Tryd.ntmps59
  go_wp2
  go_loopw [1, 5] (fun l i wx => ∃ (k : Nat) (lf : Int), k ≤ ns.length ∧ i = .int .i64 k ∧ l = .int .i64 lf ∧ 0 ≤ lf ∧ lf ≤ 1048576 ∧ Hid (SmUp ns k) ∧ Below w.heap.size w wx) (fun l i _ => ns.length - (intOf i).toNat)
  case atStart => exact ⟨0, 1048576 - (ns.length : Int), by omega, rfl, rfl, by omega, by omega, hide (fun j _ h => absurd h (by omega)), Below.refl _ _⟩
  case round =>
    obtain ⟨k, lf, hk, rfl, rfl, hl0, hl1, hup, hnx⟩ := hrel
    by_cases hlt : k < ns.length
    · obtain ⟨b, off, hp, q0, q1, q2, q3, q4, q5, q6⟩ := (unhide HR).later hnx k hlt
      obtain ⟨z0, z1, z2, z3⟩ := unhide HW ns[k] (List.getElem_mem hlt)
      have hn := hide (fun h => (unhide hup).next hlt h)
      have HZ := hide z3
      have HQ := hide q5
      clear q5 q6 z3
      rw [hp]
      generalize ns[k] = x at q0 q1 q2 q3 q4 z0 z1 z2 HZ hn HQ
      generalize L.pn k = pn at q3 HQ
      generalize L.cn k = cn at q3
      generalize L.pk k = pk at q4
      generalize L.ck k = ck at q4
      obtain ⟨xk, xn, xt, xs, xj⟩ := x
      dsimp only at q0 q1 q2 q3 q4 z0 z1 z2 HZ HQ
      go_wp2_with fail
      refine (szNode_any xk xn xt pn xs cn pk xj.length ck lf _ (unhide HQ) hl0 hl1 (by unfold maxLen at z0; omega) (by unfold maxLen at z1; omega) (by unfold maxLen at z2; omega) (unhide HZ)).mono ?_
      rintro e w1 ⟨r, rfl, hr, hb1⟩
      have hB := hide (nx_trans hnx hb1)
      rcases hr with hr | ⟨hr0, hrl, s0, s1, s2, s3⟩
      · go_wp2
        go_ret
        exact ⟨-1, rfl, .inl (by omega), unhide hB⟩
      · have hd := hide (unhide hn ⟨s0, s1, s2, s3⟩)
        clear s3
        go_wp2
        go_roundw
        case rel => exact ⟨k + 1, r, by omega, by go_num, rfl, hr0, by omega, hide (unhide hd), unhide hB⟩
        case measure => simp [intOf]; omega
    · obtain rfl : k = ns.length := by omega
      go_wp2
      go_ret
      exact ⟨lf, rfl, .inr ⟨hl0, by omega, (unhide hup).all⟩, hnx⟩

theorem szTree_any (L : Lay) (ns : List TN) (cap : Nat) (root : Int) (w : World) (hrow : NodesAt w L ns) (hw : Wide ns) :
    Calls Tryd.prog 23 #[.agg #[.slice L.p ns.length cap, .int .i64 root], .int .i64 1048576] w fun e w' => ∃ r : Int, e = .returned (.int .i64 r) ∧ (r < 0 ∨ (0 ≤ r ∧ Small ns)) ∧ Below w.heap.size w w' := by
  have HR := hide hrow
  have HW := hide hw
  clear hrow hw
  go_enter Tryd.func23, Tryd.ntmps23
  go_wp2_with fail
  refine (szNodeS_any L ns cap _ ((unhide HR).later (nx_alloc _ _)) (unhide HW)).mono ?_
  rintro e w1 ⟨r, rfl, hr, hb1⟩
  have hB := hide (nx_trans (nx_alloc _ _) hb1)
  rcases hr with hr | ⟨hr0, hs⟩
  · go_wp2
    go_ret
    exact ⟨-1, rfl, .inl (by omega), unhide hB⟩
  · have HS := hide hs
    clear hs
    go_wp2
    go_ret
    exact ⟨r, rfl, .inr ⟨hr0, unhide HS⟩, unhide hB⟩

/-- a row that is made, filled up to k -/
def FillV (w : World) (g : Nat) (t : TypeId) (vs : List Value) (k : Nat) : Prop := ∃ cs : Array Value, w.heap[g]? = some (.cells cs t (0, 0)) ∧ cs.size = vs.length ∧ ∀ i (h : i < vs.length), i < k → cs[i]? = some vs[i]
theorem FillV.cells {w : World} {g : Nat} {t : TypeId} {vs : List Value} {k : Nat} (h : FillV w g t vs k) (i : Nat) (hi : i < vs.length) : ∃ v, w.cell? ⟨g, i, none⟩ = some v := by
  obtain ⟨cs, h1, h2, h3⟩ := h
  refine ⟨cs[i]'(by omega), ?_⟩
  rw [cell_of_block h1 i, Array.getElem?_eq_getElem (by omega)]
theorem FillV.free {w : World} {g : Nat} {t : TypeId} {vs : List Value} {k : Nat} (h : FillV w g t vs k) (i : Nat) : w.frozen? ⟨g, i, none⟩ = false := by
  obtain ⟨cs, h1, h2, h3⟩ := h
  exact unfrozen_of_block h1 i
theorem FillV.set {w : World} {g : Nat} {t : TypeId} {vs : List Value} {k : Nat} (h : FillV w g t vs k) (hk : k < vs.length) : FillV (w.setCell ⟨g, k, none⟩ vs[k]) g t vs (k + 1) := by
  obtain ⟨cs, h1, h2, h3⟩ := h
  refine ⟨_, block_setCell h1 _, by simp [h2], fun i hi hik => ?_⟩
  by_cases e : i = k
  · subst e
    simp [h2, hk]
  · rw [Array.getElem?_setIfInBounds_ne (by omega)]
    exact h3 i hi (by omega)
theorem FillV.row {w : World} {g : Nat} {t : TypeId} {vs : List Value} (h : FillV w g t vs vs.length) (i : Nat) (hi : i < vs.length) : w.cell? ⟨g, i, none⟩ = some vs[i] := by
  obtain ⟨cs, h1, h2, h3⟩ := h
  rw [cell_of_block h1]; exact h3 i hi hi
theorem FillV.zero (w : World) (t : TypeId) (z : Array Value) (vs : List Value) : FillV (w.alloc (.cells (madeCells z vs.length) t)) w.heap.size t vs 0 := ⟨madeCells z vs.length, by show (w.heap.push _)[w.heap.size]? = _; simp, size_madeCells _ _, fun i _ h => absurd h (by omega)⟩

set_option maxRecDepth 100000 in
theorem madeS (n : Nat) (w : World) (hn : n ≤ 1048576) : (Instr.makeSlice 34 (.int .i64 (n : Int)) (.int .i64 (n : Int))).run Tryd.prog w = .ok (.slice (some ⟨w.heap.size, 0, none⟩) n n) (w.alloc (.cells (madeCells #[.string ⟨#[]⟩] n) 9)) := by
  have h := run_make (P := Tryd.prog) w 34 9 _ (.string ⟨#[]⟩) Tryd.underlying34 rfl rfl .i64 .i64 (n : Int) (n : Int) (by omega) (Int.le_refl _) (by show (16 : Int) * (n : Int) ≤ 281474976710656; omega) (by omega)
  simp only [Int.toNat_natCast] at h
  have h' : (Instr.makeSlice 34 (.int .i64 (n : Int)) (.int .i64 (n : Int))).run Tryd.prog w = .ok (.slice (some ⟨w.heap.size, 0, none⟩) n n) (w.alloc (.cells (madeCells #[.string ⟨#[]⟩] (n * 1)) 9)) := h
  rw [Nat.mul_one] at h'
  exact h'
set_option maxRecDepth 100000 in
theorem madeI (n : Nat) (w : World) (hn : n ≤ 1048576) : (Instr.makeSlice 30 (.int .i64 (n : Int)) (.int .i64 (n : Int))).run Tryd.prog w = .ok (.slice (some ⟨w.heap.size, 0, none⟩) n n) (w.alloc (.cells (madeCells #[.int .i64 0] n) 3)) := by
  have h := run_make (P := Tryd.prog) w 30 3 _ (.int .i64 0) Tryd.underlying30 rfl rfl .i64 .i64 (n : Int) (n : Int) (by omega) (Int.le_refl _) (by show (8 : Int) * (n : Int) ≤ 281474976710656; omega) (by omega)
  simp only [Int.toNat_natCast] at h
  have h' : (Instr.makeSlice 30 (.int .i64 (n : Int)) (.int .i64 (n : Int))).run Tryd.prog w = .ok (.slice (some ⟨w.heap.size, 0, none⟩) n n) (w.alloc (.cells (madeCells #[.int .i64 0] (n * 1)) 3)) := h
  rw [Nat.mul_one] at h'
  exact h'
set_option maxRecDepth 100000 in
theorem madeN (n : Nat) (w : World) (hn : n ≤ 1048576) : (Instr.makeSlice 23 (.int .i64 (n : Int)) (.int .i64 (n : Int))).run Tryd.prog w = .ok (.slice (some ⟨w.heap.size, 0, none⟩) n n) (w.alloc (.cells (madeCells #[.int .i64 0, .int .i64 0, .string ⟨#[]⟩, .slice none 0 0, .slice none 0 0] (n * 5)) 36)) := by
  have h := run_make (P := Tryd.prog) w 23 36 _ (.agg #[.int .i64 0, .int .i64 0, .string ⟨#[]⟩, .slice none 0 0, .slice none 0 0]) Tryd.underlying23 rfl rfl .i64 .i64 (n : Int) (n : Int) (by omega) (Int.le_refl _) (by show (80 : Int) * (n : Int) ≤ 281474976710656; omega) (by omega)
  simp only [Int.toNat_natCast] at h
  exact h

/-- texts, numbers in a row of their own -/
def StrsG (w : World) (g : Nat) (ss : List ByteArray) : Prop := ∀ i (h : i < ss.length), w.cell? ⟨g, i, none⟩ = some (.string ss[i])
def IntsG (w : World) (g : Nat) (zs : List Int) : Prop := ∀ i (h : i < zs.length), w.cell? ⟨g, i, none⟩ = some (.int .i64 zs[i])
theorem StrsG.later {w w' : World} {g : Nat} {ss : List ByteArray} (h : StrsG w g ss) (hb : Below w.heap.size w w') : StrsG w' g ss := fun i hi => cell_later hb (h i hi)
theorem IntsG.later {w w' : World} {g : Nat} {zs : List Int} (h : IntsG w g zs) (hb : Below w.heap.size w w') : IntsG w' g zs := fun i hi => cell_later hb (h i hi)
theorem StrsG.same {w w' : World} {g : Nat} {ss : List ByteArray} (h : StrsG w g ss) (hb : w'.heap[g]? = w.heap[g]?) : StrsG w' g ss := fun i hi => (World.cell?_of_block (a := ⟨g, i, none⟩) hb).trans (h i hi)
theorem IntsG.same {w w' : World} {g : Nat} {zs : List Int} (h : IntsG w g zs) (hb : w'.heap[g]? = w.heap[g]?) : IntsG w' g zs := fun i hi => (World.cell?_of_block (a := ⟨g, i, none⟩) hb).trans (h i hi)
theorem StrsG.at {w : World} {g : Nat} {ss : List ByteArray} (h : StrsG w g ss) : StrsAt w (some ⟨g, 0, none⟩) ss := fun i hi => ⟨g, 0, rfl, by rw [Nat.zero_add]; exact h i hi⟩
theorem IntsG.at {w : World} {g : Nat} {zs : List Int} (h : IntsG w g zs) : IntsAt w (some ⟨g, 0, none⟩) zs := fun i hi => ⟨g, 0, rfl, by rw [Nat.zero_add]; exact h i hi⟩

set_option maxHeartbeats 4000000 in
theorem toStringS_any (p : Option Addr) (ss : List ByteArray) (cap : Nat) (w : World) (hrow : StrsAt w p ss) (hlen : ss.length ≤ 1048576) :
    Calls Tryd.prog 120 #[.slice p ss.length cap] w fun e w' => e = .returned (.slice (some ⟨w.heap.size, 0, none⟩) ss.length ss.length) ∧ StrsG w' w.heap.size ss ∧ w.heap.size < w'.heap.size ∧ Below w.heap.size w w' := by
  have HR := hide hrow
  have hmk := madeS ss.length w hlen
  obtain ⟨vs, hvs⟩ : ∃ vs, vs = ss.map Value.string := ⟨_, rfl⟩
  have hvl : vs.length = ss.length := by rw [hvs]; simp
  have HF0 := hide (FillV.zero w 9 #[.string ⟨#[]⟩] vs)
  rw [hvl] at HF0
  have HV := hide hvs
  clear hrow hvs
  go_enter Tryd.func120, Tryd.ntmps120
  go_wp2
  go_loopw [4] (fun i wx => ∃ k : Nat, k ≤ ss.length ∧ i = .int .i64 k ∧ Hid (FillV wx w.heap.size 9 vs k) ∧ w.heap.size < wx.heap.size ∧ Below w.heap.size w wx) (fun i _ => ss.length - (intOf i).toNat)
  case atStart => exact ⟨0, by omega, rfl, HF0, by simp, nx_alloc _ _⟩
  case round =>
    obtain ⟨k, hk, rfl, hF, hgl, hnx⟩ := hrel
    by_cases hlt : k < ss.length
    · obtain ⟨b, off, rfl, q0⟩ := (unhide HR).later hnx k hlt
      have hS := (unhide hF).set (by omega)
      have hvk : vs[k]'(by omega) = .string ss[k] := by have hvs := unhide HV; subst hvs; simp
      rw [hvk] at hS
      obtain ⟨u0, c0⟩ := (unhide hF).cells k (by omega)
      have f0 := (unhide hF).free k
      generalize ss[k] = s at q0 hS
      have HF2 := hide hS
      clear hS hvk hF
      go_wp2
      go_roundw
      case rel => exact ⟨k + 1, by omega, by go_num, HF2, by simp; omega, nx_set hnx (Nat.le_refl _)⟩
      case measure => simp [intOf]; omega
    · obtain rfl : k = ss.length := by omega
      have hd : Hid (StrsG wr w.heap.size ss) := hide (fun i hi => by
        have hF' := unhide hF
        rw [← hvl] at hF'
        have := hF'.row i (by omega)
        rw [this]
        have hvs := unhide HV
        subst hvs
        simp)
      go_wp2
      go_ret
      exact ⟨rfl, unhide hd, hgl, hnx⟩

set_option maxHeartbeats 4000000 in
theorem toIntS_any (p : Option Addr) (zs : List Int) (cap : Nat) (w : World) (hrow : IntsAt w p zs) (hlen : zs.length ≤ 1048576) :
    Calls Tryd.prog 121 #[.slice p zs.length cap] w fun e w' => e = .returned (.slice (some ⟨w.heap.size, 0, none⟩) zs.length zs.length) ∧ IntsG w' w.heap.size zs ∧ w.heap.size < w'.heap.size ∧ Below w.heap.size w w' := by
  have HR := hide hrow
  have hmk := madeI zs.length w hlen
  obtain ⟨vs, hvs⟩ : ∃ vs, vs = zs.map (Value.int .i64) := ⟨_, rfl⟩
  have hvl : vs.length = zs.length := by rw [hvs]; simp
  have HF0 := hide (FillV.zero w 3 #[.int .i64 0] vs)
  rw [hvl] at HF0
  have HV := hide hvs
  clear hrow hvs
  go_enter Tryd.func121, Tryd.ntmps121
  go_wp2
  go_loopw [4] (fun i wx => ∃ k : Nat, k ≤ zs.length ∧ i = .int .i64 k ∧ Hid (FillV wx w.heap.size 3 vs k) ∧ w.heap.size < wx.heap.size ∧ Below w.heap.size w wx) (fun i _ => zs.length - (intOf i).toNat)
  case atStart => exact ⟨0, by omega, rfl, HF0, by simp, nx_alloc _ _⟩
  case round =>
    obtain ⟨k, hk, rfl, hF, hgl, hnx⟩ := hrel
    by_cases hlt : k < zs.length
    · obtain ⟨b, off, rfl, q0⟩ := (unhide HR).later hnx k hlt
      have hS := (unhide hF).set (by omega)
      have hvk : vs[k]'(by omega) = .int .i64 zs[k] := by have hvs := unhide HV; subst hvs; simp
      rw [hvk] at hS
      obtain ⟨u0, c0⟩ := (unhide hF).cells k (by omega)
      have f0 := (unhide hF).free k
      generalize zs[k] = s at q0 hS
      have HF2 := hide hS
      clear hS hvk hF
      go_wp2
      go_roundw
      case rel => exact ⟨k + 1, by omega, by go_num, HF2, by simp; omega, nx_set hnx (Nat.le_refl _)⟩
      case measure => simp [intOf]; omega
    · obtain rfl : k = zs.length := by omega
      have hd : Hid (IntsG wr w.heap.size zs) := hide (fun i hi => by
        have hF' := unhide hF
        rw [← hvl] at hF'
        have := hF'.row i (by omega)
        rw [this]
        have hvs := unhide HV
        subst hvs
        simp)
      go_wp2
      go_ret
      exact ⟨rfl, unhide hd, hgl, hnx⟩

end Go.Proofs.YtbipgmikgokfpaaDoor
