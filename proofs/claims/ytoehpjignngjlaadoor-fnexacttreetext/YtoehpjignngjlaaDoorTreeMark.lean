/- Trees that are copied, once more: each row of the copy is a block of its own that may be written. -/
import Derived.Test.YtoehpjignngjlaaDoorTreeLaw3
namespace Go.Proofs.YtoehpjignngjlaaDoor
open Go.RowKit Go.Joins
set_option linter.unusedVariables false

/-- a row that may be written -/
def RowSh (w : World) (g : Nat) (t : TypeId) (n : Nat) : Prop := ∃ cs : Array Value, w.heap[g]? = some (.cells cs t (0, 0)) ∧ cs.size = n
theorem RowSh.same {w w' : World} {g n : Nat} {t : TypeId} (h : RowSh w g t n) (hb : w'.heap[g]? = w.heap[g]?) : RowSh w' g t n := by
  obtain ⟨cs, h1, h2⟩ := h
  exact ⟨cs, by rw [hb]; exact h1, h2⟩
theorem RowSh.lt {w : World} {g n : Nat} {t : TypeId} (h : RowSh w g t n) : g < w.heap.size := by
  obtain ⟨cs, h1, h2⟩ := h
  exact (Array.getElem?_eq_some_iff.1 h1).1
theorem RowSh.later {w w' : World} {g n : Nat} {t : TypeId} (h : RowSh w g t n) (hb : Below w.heap.size w w') : RowSh w' g t n := h.same (hb.block g h.lt)
theorem RowSh.put {w : World} {g n b o : Nat} {t : TypeId} {v : Value} (h : RowSh w g t n) : RowSh (w.setCell ⟨b, o, none⟩ v) g t n := by
  by_cases e : g = b
  · subst e
    obtain ⟨cs, h1, h2⟩ := h
    exact ⟨_, block_setCell h1 _, by simp [h2]⟩
  · exact h.same (Below.heap_setCell w ⟨b, o, none⟩ v g e)
theorem RowSh.cell {w : World} {g n i : Nat} {t : TypeId} (h : RowSh w g t n) (hi : i < n) : ∃ v, w.cell? ⟨g, i, none⟩ = some v := by
  obtain ⟨cs, h1, h2⟩ := h
  exact ⟨cs[i]'(by omega), by rw [cell_of_block h1, Array.getElem?_eq_getElem (by omega)]⟩
theorem RowSh.free {w : World} {g n i : Nat} {t : TypeId} (h : RowSh w g t n) : w.frozen? ⟨g, i, none⟩ = false := by
  obtain ⟨cs, h1, h2⟩ := h
  exact unfrozen_of_block h1 i
def StrsR (w : World) (g : Nat) (ss : List ByteArray) : Prop := StrsG w g ss ∧ RowSh w g 9 ss.length
def IntsR (w : World) (g : Nat) (zs : List Int) : Prop := IntsG w g zs ∧ RowSh w g 3 zs.length
theorem StrsR.later {w w' : World} {g : Nat} {ss : List ByteArray} (h : StrsR w g ss) (hb : Below w.heap.size w w') : StrsR w' g ss := ⟨h.1.later hb, h.2.later hb⟩
theorem IntsR.later {w w' : World} {g : Nat} {zs : List Int} (h : IntsR w g zs) (hb : Below w.heap.size w w') : IntsR w' g zs := ⟨h.1.later hb, h.2.later hb⟩
theorem StrsR.set {w : World} {g b o : Nat} {v : Value} {ss : List ByteArray} (h : StrsR w g ss) (hb : g ≠ b) : StrsR (w.setCell ⟨b, o, none⟩ v) g ss := ⟨h.1.set hb, h.2.put⟩
theorem IntsR.set {w : World} {g b o : Nat} {v : Value} {zs : List Int} (h : IntsR w g zs) (hb : g ≠ b) : IntsR (w.setCell ⟨b, o, none⟩ v) g zs := ⟨h.1.set hb, h.2.put⟩
theorem StrsR.at {w : World} {g : Nat} {ss : List ByteArray} (h : StrsR w g ss) : StrsAt w (some ⟨g, 0, none⟩) ss := h.1.at
theorem IntsR.at {w : World} {g : Nat} {zs : List Int} (h : IntsR w g zs) : IntsAt w (some ⟨g, 0, none⟩) zs := h.1.at

set_option maxHeartbeats 4000000 in
theorem toStringS_sh (p : Option Addr) (ss : List ByteArray) (cap : Nat) (w : World) (hrow : StrsAt w p ss) (hlen : ss.length ≤ 1048576) :
    Calls Tryd.prog 41 #[.slice p ss.length cap] w fun e w' => e = .returned (.slice (some ⟨w.heap.size, 0, none⟩) ss.length ss.length) ∧ StrsR w' w.heap.size ss ∧ w.heap.size < w'.heap.size ∧ Below w.heap.size w w' := by
  have HR := hide hrow
  have hmk := madeS ss.length w hlen
  obtain ⟨vs, hvs⟩ : ∃ vs, vs = ss.map Value.string := ⟨_, rfl⟩
  have hvl : vs.length = ss.length := by rw [hvs]; simp
  have HF0 := hide (FillV.zero w 9 #[.string ⟨#[]⟩] vs)
  rw [hvl] at HF0
  have HV := hide hvs
  clear hrow hvs
  go_enter Tryd.func41, Tryd.ntmps41
  go_wp2
  go_loopw [4] (fun i wx => ∃ k : Nat, k ≤ ss.length ∧ i = .int .i64 k ∧ Hid (FillV wx w.heap.size 9 vs k) ∧ w.heap.size < wx.heap.size ∧ Below w.heap.size w wx) (fun i _ => ss.length - (intOf i).toNat)
  case atStart => exact ⟨0, by omega, rfl, HF0, by simp, nx_alloc _ _⟩
  case round =>
    obtain ⟨k, hk, rfl, hF, hgl, hnx⟩ := hrel
    by_cases hlt : k < ss.length
    · obtain ⟨b, off, rfl, q0⟩ := (unhide HR).later hnx k hlt
      have hS := (unhide hF).set (by omega)
      have hvk : vs[k]'(by omega) = .string ss[k] := by have hvs := unhide HV; subst hvs; simp
      rw [hvk] at hS
      obtain ⟨u0, c0⟩ := (unhide hF).cells k (by omega)
      have f0 := (unhide hF).free k
      generalize ss[k] = s at q0 hS
      have HF2 := hide hS
      clear hS hvk hF
      go_wp2
      go_roundw
      case rel => exact ⟨k + 1, by omega, by go_num, HF2, by simp; omega, nx_set hnx (Nat.le_refl _)⟩
      case measure => simp [intOf]; omega
    · obtain rfl : k = ss.length := by omega
      have hd : Hid (StrsR wr w.heap.size ss) := hide ⟨fun i hi => by
        have hF' := unhide hF
        rw [← hvl] at hF'
        have := hF'.row i (by omega)
        rw [this]
        have hvs := unhide HV
        subst hvs
        simp, by
        obtain ⟨cs, f1, f2, _⟩ := unhide hF
        exact ⟨cs, f1, by rw [f2]; exact hvl⟩⟩
      go_wp2
      go_ret
      exact ⟨rfl, unhide hd, hgl, hnx⟩

set_option maxHeartbeats 4000000 in
theorem toIntS_sh (p : Option Addr) (zs : List Int) (cap : Nat) (w : World) (hrow : IntsAt w p zs) (hlen : zs.length ≤ 1048576) :
    Calls Tryd.prog 42 #[.slice p zs.length cap] w fun e w' => e = .returned (.slice (some ⟨w.heap.size, 0, none⟩) zs.length zs.length) ∧ IntsR w' w.heap.size zs ∧ w.heap.size < w'.heap.size ∧ Below w.heap.size w w' := by
  have HR := hide hrow
  have hmk := madeI zs.length w hlen
  obtain ⟨vs, hvs⟩ : ∃ vs, vs = zs.map (Value.int .i64) := ⟨_, rfl⟩
  have hvl : vs.length = zs.length := by rw [hvs]; simp
  have HF0 := hide (FillV.zero w 3 #[.int .i64 0] vs)
  rw [hvl] at HF0
  have HV := hide hvs
  clear hrow hvs
  go_enter Tryd.func42, Tryd.ntmps42
  go_wp2
  go_loopw [4] (fun i wx => ∃ k : Nat, k ≤ zs.length ∧ i = .int .i64 k ∧ Hid (FillV wx w.heap.size 3 vs k) ∧ w.heap.size < wx.heap.size ∧ Below w.heap.size w wx) (fun i _ => zs.length - (intOf i).toNat)
  case atStart => exact ⟨0, by omega, rfl, HF0, by simp, nx_alloc _ _⟩
  case round =>
    obtain ⟨k, hk, rfl, hF, hgl, hnx⟩ := hrel
    by_cases hlt : k < zs.length
    · obtain ⟨b, off, rfl, q0⟩ := (unhide HR).later hnx k hlt
      have hS := (unhide hF).set (by omega)
      have hvk : vs[k]'(by omega) = .int .i64 zs[k] := by have hvs := unhide HV; subst hvs; simp
      rw [hvk] at hS
      obtain ⟨u0, c0⟩ := (unhide hF).cells k (by omega)
      have f0 := (unhide hF).free k
      generalize zs[k] = s at q0 hS
      have HF2 := hide hS
      clear hS hvk hF
      go_wp2
      go_roundw
      case rel => exact ⟨k + 1, by omega, by go_num, HF2, by simp; omega, nx_set hnx (Nat.le_refl _)⟩
      case measure => simp [intOf]; omega
    · obtain rfl : k = zs.length := by omega
      have hd : Hid (IntsR wr w.heap.size zs) := hide ⟨fun i hi => by
        have hF' := unhide hF
        rw [← hvl] at hF'
        have := hF'.row i (by omega)
        rw [this]
        have hvs := unhide HV
        subst hvs
        simp, by
        obtain ⟨cs, f1, f2, _⟩ := unhide hF
        exact ⟨cs, f1, by rw [f2]; exact hvl⟩⟩
      go_wp2
      go_ret
      exact ⟨rfl, unhide hd, hgl, hnx⟩

set_option maxHeartbeats 1000000 in
theorem toNode_sh (k n : Int) (t : ByteArray) (pn : Option Addr) (names : List ByteArray) (cn : Nat) (pk : Option Addr) (kids : List Int) (ck : Nat) (w : World) (hn : StrsAt w pn names) (hk : IntsAt w pk kids) (hnl : names.length ≤ 1048576) (hkl : kids.length ≤ 1048576) :
    Calls Tryd.prog 30 #[.agg #[.int .i64 k, .int .i64 n, .string t, .slice pn names.length cn, .slice pk kids.length ck]] w fun e w' => ∃ g1 g2, e = .returned (.agg #[.int .i64 k, .int .i64 n, .string t, .slice (some ⟨g1, 0, none⟩) names.length names.length, .slice (some ⟨g2, 0, none⟩) kids.length kids.length]) ∧ w.heap.size ≤ g1 ∧ g1 < w'.heap.size ∧ w.heap.size ≤ g2 ∧ g2 < w'.heap.size ∧ StrsR w' g1 names ∧ IntsR w' g2 kids ∧ Below w.heap.size w w' := by
  have HN := hide hn
  have HK := hide hk
  clear hn hk
  go_enter Tryd.func30, Tryd.ntmps30
  go_wp2_with fail
  refine (toStringS_sh pn names cn _ ((unhide HN).later ?b0) hnl).mono ?_
  case b0 => exact nx_al (nx_al (nx_alloc _ _))
  rintro e w1 ⟨rfl, hs1, hl1, hb1⟩
  have hB1 := hide (nx_trans (nx_al (nx_al (nx_alloc _ _))) hb1)
  obtain ⟨hc1, hf1⟩ := bcell hb1
  have hz : w.heap.size + 3 ≤ w1.heap.size := by have := hb1.size; simp at this; omega
  have hz0 : w.heap.size < w1.heap.size := by omega
  have hz1 : w.heap.size + 1 < w1.heap.size := by omega
  have hz2 : w.heap.size + 1 + 1 < w1.heap.size := by omega
  have hz3 : w.heap.size + 2 < w1.heap.size := by omega
  have HS1 := hide hs1
  clear hs1 hb1
  go_wp2_with fail
  refine (toIntS_sh pk kids ck _ ((unhide HK).later ?b1) hkl).mono ?_
  case b1 => exact nx_set (unhide hB1) (by first | omega | (simp; omega))
  rintro e w2 ⟨rfl, hs2, hl2, hb2⟩
  have hB2 := hide (nx_trans (nx_set (unhide hB1) (by first | omega | (simp; omega))) hb2)
  obtain ⟨hc2, hf2⟩ := bcell hb2
  have hsz2 : w1.heap.size < w2.heap.size := by simpa using hl2
  have hT1 := hide ((unhide HS1).set (b := w.heap.size + 2) (o := 3) (v := .slice (some ⟨w.heap.size + 3, 0, none⟩) names.length names.length) (by simp))
  have hT2 := hide ((unhide hT1).later hb2)
  have HS2 := hide hs2
  clear hs2 hb2
  go_wp2
  refine bodyPost_ret (v := .agg #[.int .i64 k, .int .i64 n, .string t, .slice (some ⟨w.heap.size + 1 + 1 + 1, 0, none⟩) names.length names.length, .slice (some ⟨w1.heap.size, 0, none⟩) kids.length kids.length]) (by simp [results, Tryd.results30, go_sem, *]) rfl ⟨w.heap.size + 1 + 1 + 1, w1.heap.size, rfl, by omega, ?_, by omega, ?_, ?_, ?_, ?_⟩
  · simp; omega
  · simp; omega
  · repeat refine StrsR.set ?_ (by omega)
    simpa using unhide hT2
  · repeat refine IntsR.set ?_ (by omega)
    simpa using unhide HS2
  · repeat refine nx_set ?_ (by omega)
    exact unhide hB2

/-- nodes in a row of their own, filled up to k: names and kids in rows behind it -/
def FilR (w : World) (g : Nat) (ns : List TN) (k : Nat) : Prop := ∃ cs : Array Value, w.heap[g]? = some (.cells cs 42 (0, 0)) ∧ cs.size = ns.length * 5 ∧ ∀ i (h : i < ns.length), i < k → ∃ g1 g2, g < g1 ∧ g1 < w.heap.size ∧ g < g2 ∧ g2 < w.heap.size ∧ cs[i * 5]? = some (.int .i64 ns[i].k) ∧ cs[i * 5 + 1]? = some (.int .i64 ns[i].n) ∧ cs[i * 5 + 2]? = some (.string ns[i].t) ∧ cs[i * 5 + 3]? = some (.slice (some ⟨g1, 0, none⟩) ns[i].names.length ns[i].names.length) ∧ cs[i * 5 + 4]? = some (.slice (some ⟨g2, 0, none⟩) ns[i].kids.length ns[i].kids.length) ∧ StrsR w g1 ns[i].names ∧ IntsR w g2 ns[i].kids
theorem FilR.later {w w' : World} {g : Nat} {ns : List TN} {k : Nat} (h : FilR w g ns k) (hb : Below w.heap.size w w') (hg : g < w.heap.size) : FilR w' g ns k := by
  obtain ⟨cs, h1, h2, h3⟩ := h
  refine ⟨cs, by rw [hb.block g hg]; exact h1, h2, fun i hi hik => ?_⟩
  obtain ⟨g1, g2, a1, a2, b1, b2, c0, c1, c2, c3, c4, d1, d2⟩ := h3 i hi hik
  have := hb.size
  exact ⟨g1, g2, a1, by omega, b1, by omega, c0, c1, c2, c3, c4, d1.later hb, d2.later hb⟩
theorem FilR.cells {w : World} {g : Nat} {ns : List TN} {k : Nat} (h : FilR w g ns k) (i : Nat) (hi : i < ns.length * 5) : ∃ v, w.cell? ⟨g, i, none⟩ = some v := by
  obtain ⟨cs, h1, h2, h3⟩ := h
  refine ⟨cs[i]'(by omega), ?_⟩
  rw [cell_of_block h1 i, Array.getElem?_eq_getElem (by omega)]
theorem FilR.free {w : World} {g : Nat} {ns : List TN} {k : Nat} (h : FilR w g ns k) (i : Nat) : w.frozen? ⟨g, i, none⟩ = false := by
  obtain ⟨cs, h1, h2, h3⟩ := h
  exact unfrozen_of_block h1 i
theorem FilR.zero (w : World) (z : Array Value) (ns : List TN) : FilR (w.alloc (.cells (madeCells z (ns.length * 5)) 42)) w.heap.size ns 0 := ⟨madeCells z (ns.length * 5), by show (w.heap.push _)[w.heap.size]? = _; simp, size_madeCells _ _, fun i _ h => absurd h (by omega)⟩
theorem FilR.set {w : World} {g g1 g2 : Nat} {ns : List TN} {k : Nat} (h : FilR w g ns k) (hk : k < ns.length) (a1 : g < g1) (a2 : g1 < w.heap.size) (b1 : g < g2) (b2 : g2 < w.heap.size) (d1 : StrsR w g1 ns[k].names) (d2 : IntsR w g2 ns[k].kids) :
    FilR (((((w.setCell ⟨g, k * 5, none⟩ (.int .i64 ns[k].k)).setCell ⟨g, k * 5 + 1, none⟩ (.int .i64 ns[k].n)).setCell ⟨g, k * 5 + 2, none⟩ (.string ns[k].t)).setCell ⟨g, k * 5 + 3, none⟩ (.slice (some ⟨g1, 0, none⟩) ns[k].names.length ns[k].names.length)).setCell ⟨g, k * 5 + 4, none⟩ (.slice (some ⟨g2, 0, none⟩) ns[k].kids.length ns[k].kids.length)) g ns (k + 1) := by
  obtain ⟨cs, h1, h2, h3⟩ := h
  refine ⟨_, block_setCell (block_setCell (block_setCell (block_setCell (block_setCell h1 _) _) _) _) _, by simp [h2], fun i hi hik => ?_⟩
  by_cases e : i = k
  · subst e
    refine ⟨g1, g2, a1, by simpa using a2, b1, by simpa using b2, ?_, ?_, ?_, ?_, ?_, ?_, ?_⟩
    case refine_6 =>
      repeat refine StrsR.set ?_ (by omega)
      exact d1
    case refine_7 =>
      repeat refine IntsR.set ?_ (by omega)
      exact d2
    all_goals simp [Array.getElem?_setIfInBounds, h2]
    all_goals omega
  · obtain ⟨q1, q2, e1, e2, f1, f2, c0, c1, c2, c3, c4, x1, x2⟩ := h3 i hi (by omega)
    refine ⟨q1, q2, e1, by simpa using e2, f1, by simpa using f2, ?_, ?_, ?_, ?_, ?_, ?_, ?_⟩
    case refine_6 =>
      repeat refine StrsR.set ?_ (by omega)
      exact x1
    case refine_7 =>
      repeat refine IntsR.set ?_ (by omega)
      exact x2
    all_goals rw [Array.getElem?_setIfInBounds_ne (by omega), Array.getElem?_setIfInBounds_ne (by omega), Array.getElem?_setIfInBounds_ne (by omega), Array.getElem?_setIfInBounds_ne (by omega), Array.getElem?_setIfInBounds_ne (by omega)]
    all_goals assumption
theorem FilR.poke {w : World} {g b o : Nat} {v : Value} {ns : List TN} {k : Nat} (h : FilR w g ns k) (hb : b < g) : FilR (w.setCell ⟨b, o, none⟩ v) g ns k := by
  obtain ⟨cs, h1, h2, h3⟩ := h
  refine ⟨cs, by rw [Below.heap_setCell w ⟨b, o, none⟩ v g (by show g ≠ b; omega)]; exact h1, h2, fun i hi hik => ?_⟩
  obtain ⟨g1, g2, a1, a2, b1, b2, c0, c1, c2, c3, c4, d1, d2⟩ := h3 i hi hik
  exact ⟨g1, g2, a1, by simpa using a2, b1, by simpa using b2, c0, c1, c2, c3, c4, d1.set (by omega), d2.set (by omega)⟩
/-- the row of nodes: what each node's names and kids are does not change -/
def NodeSh (w : World) (L : Lay) (ns : List TN) (g : Nat) : Prop := ∃ cs : Array Value, w.heap[g]? = some (.cells cs 42 (0, 0)) ∧ cs.size = ns.length * 5 ∧ ∀ i (h : i < ns.length), cs[i * 5 + 3]? = some (.slice (L.pn i) ns[i].names.length (L.cn i)) ∧ cs[i * 5 + 4]? = some (.slice (L.pk i) ns[i].kids.length (L.ck i))
/-- a tree that was made: all that it has lies from B on, below E, and may be written -/
structure MadR (w : World) (L : Lay) (ns : List TN) (B E : Nat) : Prop where
  row : ∃ g, L.p = some ⟨g, 0, none⟩ ∧ B ≤ g ∧ g < E ∧ NodeSh w L ns g
  nodes : NodesAt w L ns
  parts : ∀ i (h : i < ns.length), ∃ g1 g2, L.pn i = some ⟨g1, 0, none⟩ ∧ B ≤ g1 ∧ g1 < E ∧ RowSh w g1 9 ns[i].names.length ∧ L.pk i = some ⟨g2, 0, none⟩ ∧ B ≤ g2 ∧ g2 < E ∧ RowSh w g2 3 ns[i].kids.length
theorem FilR.made {w : World} {g B : Nat} {ns : List TN} (h : FilR w g ns ns.length) (hB : B ≤ g) (hE : g < w.heap.size) : ∃ L : Lay, L.p = some ⟨g, 0, none⟩ ∧ L.cap = ns.length ∧ MadR w L ns B w.heap.size := by
  obtain ⟨cs, h1, h2, h3⟩ := h
  have each : ∀ i, i < ns.length → ∃ q : Nat × Nat, g < q.1 ∧ q.1 < w.heap.size ∧ g < q.2 ∧ q.2 < w.heap.size ∧ ∃ x, ns[i]? = some x ∧ cs[i * 5]? = some (.int .i64 x.k) ∧ cs[i * 5 + 1]? = some (.int .i64 x.n) ∧ cs[i * 5 + 2]? = some (.string x.t) ∧ cs[i * 5 + 3]? = some (.slice (some ⟨q.1, 0, none⟩) x.names.length x.names.length) ∧ cs[i * 5 + 4]? = some (.slice (some ⟨q.2, 0, none⟩) x.kids.length x.kids.length) ∧ StrsR w q.1 x.names ∧ IntsR w q.2 x.kids := by
    intro i hi
    obtain ⟨g1, g2, a1, a2, b1, b2, r⟩ := h3 i hi hi
    exact ⟨(g1, g2), a1, a2, b1, b2, ns[i], List.getElem?_eq_getElem hi, r⟩
  obtain ⟨q, hq⟩ := @Deep.choose_lt (Nat × Nat) ⟨(0, 0)⟩ _ _ each
  refine ⟨⟨some ⟨g, 0, none⟩, ns.length, fun i => some ⟨(q i).1, 0, none⟩, fun i => (ns[i]?.map (·.names.length)).getD 0, fun i => some ⟨(q i).2, 0, none⟩, fun i => (ns[i]?.map (·.kids.length)).getD 0⟩, rfl, rfl, ⟨g, rfl, hB, hE, cs, h1, h2, fun i hi => ?_⟩, fun i hi => ?_, fun i hi => ?_⟩
  · obtain ⟨a1, a2, b1, b2, x, hx, c0, c1, c2, c3, c4, d1, d2⟩ := hq i hi
    rw [List.getElem?_eq_getElem hi] at hx
    obtain rfl := Option.some.inj hx
    exact ⟨by rw [c3]; simp [hi], by rw [c4]; simp [hi]⟩
  · obtain ⟨a1, a2, b1, b2, x, hx, c0, c1, c2, c3, c4, d1, d2⟩ := hq i hi
    rw [List.getElem?_eq_getElem hi] at hx
    obtain rfl := Option.some.inj hx
    refine ⟨g, 0, rfl, ?_, ?_, ?_, ?_, ?_, d1.at, d2.at⟩
    · rw [Nat.zero_add, cell_of_block h1]; exact c0
    · rw [Nat.zero_add, cell_of_block h1]; exact c1
    · rw [Nat.zero_add, cell_of_block h1]; exact c2
    · rw [Nat.zero_add, cell_of_block h1, c3]; simp [hi]
    · rw [Nat.zero_add, cell_of_block h1, c4]; simp [hi]
  · obtain ⟨a1, a2, b1, b2, x, hx, _, _, _, _, _, d1, d2⟩ := hq i hi
    rw [List.getElem?_eq_getElem hi] at hx
    obtain rfl := Option.some.inj hx
    exact ⟨_, _, rfl, by omega, a2, d1.2, rfl, by omega, b2, d2.2⟩

set_option maxHeartbeats 1000000 in
theorem toNodeS_sh (L : Lay) (ns : List TN) (cap : Nat) (w : World) (hrow : NodesAt w L ns) (hs : Small ns) :
    Calls Tryd.prog 16 #[.slice L.p ns.length cap] w fun e w' => e = .returned (.slice (some ⟨w.heap.size, 0, none⟩) ns.length ns.length) ∧ FilR w' w.heap.size ns ns.length ∧ w.heap.size < w'.heap.size ∧ Below w.heap.size w w' := by
  have HR := hide hrow
  have HS := hide hs.2
  have hlen := hs.1
  have hmk := madeN ns.length w hlen
  have HF0 := hide (FilR.zero w #[.int .i64 0, .int .i64 0, .string ⟨#[]⟩, .slice none 0 0, .slice none 0 0] ns)
  clear hrow hs
  go_enter Tryd.func16, Tryd.ntmps16
  go_wp2
  go_loopw [4] (fun i wx => ∃ k : Nat, k ≤ ns.length ∧ i = .int .i64 k ∧ Hid (FilR wx w.heap.size ns k) ∧ w.heap.size < wx.heap.size ∧ Below w.heap.size w wx) (fun i _ => ns.length - (intOf i).toNat)
  case atStart => exact ⟨0, by omega, rfl, HF0, by simp, nx_alloc _ _⟩
  case round =>
    obtain ⟨k, hk, rfl, hF, hgl, hnx⟩ := hrel
    by_cases hlt : k < ns.length
    · obtain ⟨b, off, hp, q0, q1, q2, q3, q4, q5, q6⟩ := (unhide HR).later hnx k hlt
      obtain ⟨z0, z1, z2, z3⟩ := unhide HS ns[k] (List.getElem_mem hlt)
      have HSet := hide fun (x : World) (g1 g2 : Nat) (hx : FilR x w.heap.size ns k) (a1 : w.heap.size < g1) (a2 : g1 < x.heap.size) (b1 : w.heap.size < g2) (b2 : g2 < x.heap.size) (d1 : StrsR x g1 ns[k].names) (d2 : IntsR x g2 ns[k].kids) => hx.set hlt a1 a2 b1 b2 d1 d2
      have HQ := hide q5
      have HQ2 := hide q6
      clear q5 q6 z3
      rw [hp]
      generalize ns[k] = x at q0 q1 q2 q3 q4 z1 z2 HSet HQ HQ2
      generalize L.pn k = pn at q3 HQ
      generalize L.cn k = cn at q3
      generalize L.pk k = pk at q4 HQ2
      generalize L.ck k = ck at q4
      obtain ⟨xk, xn, xt, xs, xj⟩ := x
      dsimp only at q0 q1 q2 q3 q4 z1 z2 HSet HQ HQ2
      go_wp2_with fail
      refine (toNode_sh xk xn xt pn xs cn pk xj ck _ (unhide HQ) (unhide HQ2) z1 z2).mono ?_
      rintro e w1 ⟨g1, g2, rfl, a1, a2, b1, b2, d1, d2, hb1⟩
      have hF1 := (unhide hF).later hb1 hgl
      have hg1 : w.heap.size < w1.heap.size := by have := hb1.size; omega
      have hS := hide (unhide HSet w1 g1 g2 hF1 (by omega) a2 (by omega) b2 d1 d2)
      obtain ⟨u0, c0⟩ := hF1.cells (k * 5) (by omega)
      obtain ⟨u1, c1⟩ := hF1.cells (k * 5 + 1) (by omega)
      obtain ⟨u2, c2⟩ := hF1.cells (k * 5 + 2) (by omega)
      obtain ⟨u3, c3⟩ := hF1.cells (k * 5 + 3) (by omega)
      obtain ⟨u4, c4⟩ := hF1.cells (k * 5 + 4) (by omega)
      have f0 := hF1.free (k * 5)
      have f1 := hF1.free (k * 5 + 1)
      have f2 := hF1.free (k * 5 + 2)
      have f3 := hF1.free (k * 5 + 3)
      have f4 := hF1.free (k * 5 + 4)
      have hN := hide (nx_trans hnx hb1)
      clear hF1 hF d1 d2 hb1
      go_wp2
      go_roundw
      case rel => exact ⟨k + 1, by omega, by go_num, hide (unhide hS), by simp; omega, nx_set (nx_set (nx_set (nx_set (nx_set (unhide hN) (Nat.le_refl _)) (Nat.le_refl _)) (Nat.le_refl _)) (Nat.le_refl _)) (Nat.le_refl _)⟩
      case measure => simp [intOf]; omega
    · obtain rfl : k = ns.length := by omega
      go_wp2
      go_ret
      exact ⟨rfl, unhide hF, hgl, hnx⟩

set_option maxHeartbeats 1000000 in
theorem toTree_sh (L : Lay) (ns : List TN) (cap : Nat) (root : Int) (w : World) (hrow : NodesAt w L ns) (hs : Small ns) :
    Calls Tryd.prog 7 #[.agg #[.slice L.p ns.length cap, .int .i64 root]] w fun e w' => ∃ L' : Lay, e = .returned (.agg #[.slice L'.p ns.length L'.cap, .int .i64 root]) ∧ MadR w' L' ns w.heap.size w'.heap.size ∧ Below w.heap.size w w' := by
  have HR := hide hrow
  have HS := hide hs
  clear hrow hs
  go_enter Tryd.func7, Tryd.ntmps7
  go_wp2_with fail
  refine (toNodeS_sh L ns cap _ ((unhide HR).later (nx_al (nx_al (nx_alloc _ _)))) (unhide HS)).mono ?_
  rintro e w1 ⟨rfl, hF, hl, hb1⟩
  have hB1 := hide (nx_trans (nx_al (nx_al (nx_alloc _ _))) hb1)
  obtain ⟨hc1, hf1⟩ := bcell hb1
  have hz : w.heap.size + 3 < w1.heap.size := by simp at hl; omega
  have hz0 : w.heap.size < w1.heap.size := by omega
  have hz1 : w.heap.size + 1 < w1.heap.size := by omega
  have hz2 : w.heap.size + 1 + 1 < w1.heap.size := by omega
  have HF := hide hF
  clear hF hb1
  have HF' : Hid (FilR w1 (w.heap.size + 1 + 1 + 1) ns ns.length) := hide (by simpa using unhide HF)
  go_wp2
  have hM := FilR.made (B := w.heap.size) (FilR.poke (o := 1) (v := .int .i64 root) (FilR.poke (o := 0) (v := .slice (some ⟨w.heap.size + 1 + 1 + 1, 0, none⟩) ns.length ns.length) (FilR.poke (o := 1) (v := .int .i64 root) (FilR.poke (o := 0) (v := .slice (some ⟨w.heap.size + 1 + 1 + 1, 0, none⟩) ns.length ns.length) (unhide HF') (b := w.heap.size + 1 + 1) (by omega)) (b := w.heap.size + 1 + 1) (by omega)) (b := w.heap.size + 1) (by omega)) (b := w.heap.size + 1) (by omega)) (by omega) (by simp; omega)
  obtain ⟨L', hp', hc', hM⟩ := hM
  refine bodyPost_ret (v := .agg #[.slice (some ⟨w.heap.size + 1 + 1 + 1, 0, none⟩) ns.length ns.length, .int .i64 root]) (by simp [results, Tryd.results7, go_sem, *]) rfl ⟨L', by rw [hp', hc'], hM, ?_⟩
  repeat refine nx_set ?_ (by omega)
  exact unhide hB1

end Go.Proofs.YtoehpjignngjlaaDoor
