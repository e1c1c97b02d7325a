/- A bundle. -/
import Derived.Test.YtbipgmikgokfpaaDoorG03
import Derived.Laws.IdiomStrings
import Derived.Laws.OwnMore
import Derived.Lib.ItoaNum
import Derived.Deep.RegionHeld3
import Derived.Test.YtbipgmikgokfpaaDoorG01
import Derived.Test.YtbipgmikgokfpaaDoorGrowWalk3
import Derived.Laws.AppendOwnNone
import Derived.Deep.AppendLies

/- TreeMark -/
namespace Go.Proofs.YtbipgmikgokfpaaDoor
open Go.RowKit Go.Joins
set_option linter.unusedVariables false

/-- a row that may be written -/
def RowSh (w : World) (g : Nat) (t : TypeId) (n : Nat) : Prop := ∃ cs : Array Value, w.heap[g]? = some (.cells cs t (0, 0)) ∧ cs.size = n
theorem RowSh.same {w w' : World} {g n : Nat} {t : TypeId} (h : RowSh w g t n) (hb : w'.heap[g]? = w.heap[g]?) : RowSh w' g t n := by
  obtain ⟨cs, h1, h2⟩ := h
  exact ⟨cs, by rw [hb]; exact h1, h2⟩
theorem RowSh.lt {w : World} {g n : Nat} {t : TypeId} (h : RowSh w g t n) : g < w.heap.size := by
  obtain ⟨cs, h1, h2⟩ := h
  exact (Array.getElem?_eq_some_iff.1 h1).1
theorem RowSh.later {w w' : World} {g n : Nat} {t : TypeId} (h : RowSh w g t n) (hb : Below w.heap.size w w') : RowSh w' g t n := h.same (hb.block g h.lt)
theorem RowSh.put {w : World} {g n b o : Nat} {t : TypeId} {v : Value} (h : RowSh w g t n) : RowSh (w.setCell ⟨b, o, none⟩ v) g t n := by
  by_cases e : g = b
  · subst e
    obtain ⟨cs, h1, h2⟩ := h
    exact ⟨_, block_setCell h1 _, by simp [h2]⟩
  · exact h.same (Below.heap_setCell w ⟨b, o, none⟩ v g e)
theorem RowSh.cell {w : World} {g n i : Nat} {t : TypeId} (h : RowSh w g t n) (hi : i < n) : ∃ v, w.cell? ⟨g, i, none⟩ = some v := by
  obtain ⟨cs, h1, h2⟩ := h
  exact ⟨cs[i]'(by omega), by rw [cell_of_block h1, Array.getElem?_eq_getElem (by omega)]⟩
theorem RowSh.free {w : World} {g n i : Nat} {t : TypeId} (h : RowSh w g t n) : w.frozen? ⟨g, i, none⟩ = false := by
  obtain ⟨cs, h1, h2⟩ := h
  exact unfrozen_of_block h1 i
def StrsR (w : World) (g : Nat) (ss : List ByteArray) : Prop := StrsG w g ss ∧ RowSh w g 9 ss.length
def IntsR (w : World) (g : Nat) (zs : List Int) : Prop := IntsG w g zs ∧ RowSh w g 3 zs.length
theorem StrsR.later {w w' : World} {g : Nat} {ss : List ByteArray} (h : StrsR w g ss) (hb : Below w.heap.size w w') : StrsR w' g ss := ⟨h.1.later hb, h.2.later hb⟩
theorem IntsR.later {w w' : World} {g : Nat} {zs : List Int} (h : IntsR w g zs) (hb : Below w.heap.size w w') : IntsR w' g zs := ⟨h.1.later hb, h.2.later hb⟩
theorem StrsR.set {w : World} {g b o : Nat} {v : Value} {ss : List ByteArray} (h : StrsR w g ss) (hb : g ≠ b) : StrsR (w.setCell ⟨b, o, none⟩ v) g ss := ⟨h.1.set hb, h.2.put⟩
theorem IntsR.set {w : World} {g b o : Nat} {v : Value} {zs : List Int} (h : IntsR w g zs) (hb : g ≠ b) : IntsR (w.setCell ⟨b, o, none⟩ v) g zs := ⟨h.1.set hb, h.2.put⟩
theorem StrsR.at {w : World} {g : Nat} {ss : List ByteArray} (h : StrsR w g ss) : StrsAt w (some ⟨g, 0, none⟩) ss := h.1.at
theorem IntsR.at {w : World} {g : Nat} {zs : List Int} (h : IntsR w g zs) : IntsAt w (some ⟨g, 0, none⟩) zs := h.1.at

set_option maxHeartbeats 4000000 in
theorem toStringS_sh (p : Option Addr) (ss : List ByteArray) (cap : Nat) (w : World) (hrow : StrsAt w p ss) (hlen : ss.length ≤ 1048576) :
    Calls Tryd.prog 120 #[.slice p ss.length cap] w fun e w' => e = .returned (.slice (some ⟨w.heap.size, 0, none⟩) ss.length ss.length) ∧ StrsR w' w.heap.size ss ∧ w.heap.size < w'.heap.size ∧ Below w.heap.size w w' := by
  have HR := hide hrow
  have hmk := madeS ss.length w hlen
  obtain ⟨vs, hvs⟩ : ∃ vs, vs = ss.map Value.string := ⟨_, rfl⟩
  have hvl : vs.length = ss.length := by rw [hvs]; simp
  have HF0 := hide (FillV.zero w 9 #[.string ⟨#[]⟩] vs)
  rw [hvl] at HF0
  have HV := hide hvs
  clear hrow hvs
  go_enter Tryd.func120, Tryd.ntmps120
  go_wp2
  go_loopw [4] (fun i wx => ∃ k : Nat, k ≤ ss.length ∧ i = .int .i64 k ∧ Hid (FillV wx w.heap.size 9 vs k) ∧ w.heap.size < wx.heap.size ∧ Below w.heap.size w wx) (fun i _ => ss.length - (intOf i).toNat)
  case atStart => exact ⟨0, by omega, rfl, HF0, by simp, nx_alloc _ _⟩
  case round =>
    obtain ⟨k, hk, rfl, hF, hgl, hnx⟩ := hrel
    by_cases hlt : k < ss.length
    · obtain ⟨b, off, rfl, q0⟩ := (unhide HR).later hnx k hlt
      have hS := (unhide hF).set (by omega)
      have hvk : vs[k]'(by omega) = .string ss[k] := by have hvs := unhide HV; subst hvs; simp
      rw [hvk] at hS
      obtain ⟨u0, c0⟩ := (unhide hF).cells k (by omega)
      have f0 := (unhide hF).free k
      generalize ss[k] = s at q0 hS
      have HF2 := hide hS
      clear hS hvk hF
      go_wp2
      go_roundw
      case rel => exact ⟨k + 1, by omega, by go_num, HF2, by simp; omega, nx_set hnx (Nat.le_refl _)⟩
      case measure => simp [intOf]; omega
    · obtain rfl : k = ss.length := by omega
      have hd : Hid (StrsR wr w.heap.size ss) := hide ⟨fun i hi => by
        have hF' := unhide hF
        rw [← hvl] at hF'
        have := hF'.row i (by omega)
        rw [this]
        have hvs := unhide HV
        subst hvs
        simp, by
        obtain ⟨cs, f1, f2, _⟩ := unhide hF
        exact ⟨cs, f1, by rw [f2]; exact hvl⟩⟩
      go_wp2
      go_ret
      exact ⟨rfl, unhide hd, hgl, hnx⟩

set_option maxHeartbeats 4000000 in
theorem toIntS_sh (p : Option Addr) (zs : List Int) (cap : Nat) (w : World) (hrow : IntsAt w p zs) (hlen : zs.length ≤ 1048576) :
    Calls Tryd.prog 121 #[.slice p zs.length cap] w fun e w' => e = .returned (.slice (some ⟨w.heap.size, 0, none⟩) zs.length zs.length) ∧ IntsR w' w.heap.size zs ∧ w.heap.size < w'.heap.size ∧ Below w.heap.size w w' := by
  have HR := hide hrow
  have hmk := madeI zs.length w hlen
  obtain ⟨vs, hvs⟩ : ∃ vs, vs = zs.map (Value.int .i64) := ⟨_, rfl⟩
  have hvl : vs.length = zs.length := by rw [hvs]; simp
  have HF0 := hide (FillV.zero w 3 #[.int .i64 0] vs)
  rw [hvl] at HF0
  have HV := hide hvs
  clear hrow hvs
  go_enter Tryd.func121, Tryd.ntmps121
  go_wp2
  go_loopw [4] (fun i wx => ∃ k : Nat, k ≤ zs.length ∧ i = .int .i64 k ∧ Hid (FillV wx w.heap.size 3 vs k) ∧ w.heap.size < wx.heap.size ∧ Below w.heap.size w wx) (fun i _ => zs.length - (intOf i).toNat)
  case atStart => exact ⟨0, by omega, rfl, HF0, by simp, nx_alloc _ _⟩
  case round =>
    obtain ⟨k, hk, rfl, hF, hgl, hnx⟩ := hrel
    by_cases hlt : k < zs.length
    · obtain ⟨b, off, rfl, q0⟩ := (unhide HR).later hnx k hlt
      have hS := (unhide hF).set (by omega)
      have hvk : vs[k]'(by omega) = .int .i64 zs[k] := by have hvs := unhide HV; subst hvs; simp
      rw [hvk] at hS
      obtain ⟨u0, c0⟩ := (unhide hF).cells k (by omega)
      have f0 := (unhide hF).free k
      generalize zs[k] = s at q0 hS
      have HF2 := hide hS
      clear hS hvk hF
      go_wp2
      go_roundw
      case rel => exact ⟨k + 1, by omega, by go_num, HF2, by simp; omega, nx_set hnx (Nat.le_refl _)⟩
      case measure => simp [intOf]; omega
    · obtain rfl : k = zs.length := by omega
      have hd : Hid (IntsR wr w.heap.size zs) := hide ⟨fun i hi => by
        have hF' := unhide hF
        rw [← hvl] at hF'
        have := hF'.row i (by omega)
        rw [this]
        have hvs := unhide HV
        subst hvs
        simp, by
        obtain ⟨cs, f1, f2, _⟩ := unhide hF
        exact ⟨cs, f1, by rw [f2]; exact hvl⟩⟩
      go_wp2
      go_ret
      exact ⟨rfl, unhide hd, hgl, hnx⟩

set_option maxHeartbeats 1000000 in
theorem toNode_sh (k n : Int) (t : ByteArray) (pn : Option Addr) (names : List ByteArray) (cn : Nat) (pk : Option Addr) (kids : List Int) (ck : Nat) (w : World) (hn : StrsAt w pn names) (hk : IntsAt w pk kids) (hnl : names.length ≤ 1048576) (hkl : kids.length ≤ 1048576) :
    Calls Tryd.prog 90 #[.agg #[.int .i64 k, .int .i64 n, .string t, .slice pn names.length cn, .slice pk kids.length ck]] w fun e w' => ∃ g1 g2, e = .returned (.agg #[.int .i64 k, .int .i64 n, .string t, .slice (some ⟨g1, 0, none⟩) names.length names.length, .slice (some ⟨g2, 0, none⟩) kids.length kids.length]) ∧ w.heap.size ≤ g1 ∧ g1 < w'.heap.size ∧ w.heap.size ≤ g2 ∧ g2 < w'.heap.size ∧ StrsR w' g1 names ∧ IntsR w' g2 kids ∧ Below w.heap.size w w' := by
  have HN := hide hn
  have HK := hide hk
  clear hn hk
  go_enter Tryd.func90, Tryd.ntmps90
  go_wp2_with fail
  refine (toStringS_sh pn names cn _ ((unhide HN).later ?b0) hnl).mono ?_
  case b0 => exact nx_al (nx_al (nx_alloc _ _))
  rintro e w1 ⟨rfl, hs1, hl1, hb1⟩
  have hB1 := hide (nx_trans (nx_al (nx_al (nx_alloc _ _))) hb1)
  obtain ⟨hc1, hf1⟩ := bcell hb1
  have hz : w.heap.size + 3 ≤ w1.heap.size := by have := hb1.size; simp at this; omega
  have hz0 : w.heap.size < w1.heap.size := by omega
  have hz1 : w.heap.size + 1 < w1.heap.size := by omega
  have hz2 : w.heap.size + 1 + 1 < w1.heap.size := by omega
  have hz3 : w.heap.size + 2 < w1.heap.size := by omega
  have HS1 := hide hs1
  clear hs1 hb1
  go_wp2_with fail
  refine (toIntS_sh pk kids ck _ ((unhide HK).later ?b1) hkl).mono ?_
  case b1 => exact nx_set (unhide hB1) (by first | omega | (simp; omega))
  rintro e w2 ⟨rfl, hs2, hl2, hb2⟩
  have hB2 := hide (nx_trans (nx_set (unhide hB1) (by first | omega | (simp; omega))) hb2)
  obtain ⟨hc2, hf2⟩ := bcell hb2
  have hsz2 : w1.heap.size < w2.heap.size := by simpa using hl2
  have hT1 := hide ((unhide HS1).set (b := w.heap.size + 2) (o := 3) (v := .slice (some ⟨w.heap.size + 3, 0, none⟩) names.length names.length) (by simp))
  have hT2 := hide ((unhide hT1).later hb2)
  have HS2 := hide hs2
  clear hs2 hb2
  go_wp2
  refine bodyPost_ret (v := .agg #[.int .i64 k, .int .i64 n, .string t, .slice (some ⟨w.heap.size + 1 + 1 + 1, 0, none⟩) names.length names.length, .slice (some ⟨w1.heap.size, 0, none⟩) kids.length kids.length]) (by simp [results, Tryd.results90, go_sem, *]) rfl ⟨w.heap.size + 1 + 1 + 1, w1.heap.size, rfl, by omega, ?_, by omega, ?_, ?_, ?_, ?_⟩
  · simp; omega
  · simp; omega
  · repeat refine StrsR.set ?_ (by omega)
    simpa using unhide hT2
  · repeat refine IntsR.set ?_ (by omega)
    simpa using unhide HS2
  · repeat refine nx_set ?_ (by omega)
    exact unhide hB2

/-- nodes in a row of their own, filled up to k: names and kids in rows behind it -/
def FilR (w : World) (g : Nat) (ns : List TN) (k : Nat) : Prop := ∃ cs : Array Value, w.heap[g]? = some (.cells cs 36 (0, 0)) ∧ cs.size = ns.length * 5 ∧ ∀ i (h : i < ns.length), i < k → ∃ g1 g2, g < g1 ∧ g1 < w.heap.size ∧ g < g2 ∧ g2 < w.heap.size ∧ cs[i * 5]? = some (.int .i64 ns[i].k) ∧ cs[i * 5 + 1]? = some (.int .i64 ns[i].n) ∧ cs[i * 5 + 2]? = some (.string ns[i].t) ∧ cs[i * 5 + 3]? = some (.slice (some ⟨g1, 0, none⟩) ns[i].names.length ns[i].names.length) ∧ cs[i * 5 + 4]? = some (.slice (some ⟨g2, 0, none⟩) ns[i].kids.length ns[i].kids.length) ∧ StrsR w g1 ns[i].names ∧ IntsR w g2 ns[i].kids
theorem FilR.later {w w' : World} {g : Nat} {ns : List TN} {k : Nat} (h : FilR w g ns k) (hb : Below w.heap.size w w') (hg : g < w.heap.size) : FilR w' g ns k := by
  obtain ⟨cs, h1, h2, h3⟩ := h
  refine ⟨cs, by rw [hb.block g hg]; exact h1, h2, fun i hi hik => ?_⟩
  obtain ⟨g1, g2, a1, a2, b1, b2, c0, c1, c2, c3, c4, d1, d2⟩ := h3 i hi hik
  have := hb.size
  exact ⟨g1, g2, a1, by omega, b1, by omega, c0, c1, c2, c3, c4, d1.later hb, d2.later hb⟩
theorem FilR.cells {w : World} {g : Nat} {ns : List TN} {k : Nat} (h : FilR w g ns k) (i : Nat) (hi : i < ns.length * 5) : ∃ v, w.cell? ⟨g, i, none⟩ = some v := by
  obtain ⟨cs, h1, h2, h3⟩ := h
  refine ⟨cs[i]'(by omega), ?_⟩
  rw [cell_of_block h1 i, Array.getElem?_eq_getElem (by omega)]
theorem FilR.free {w : World} {g : Nat} {ns : List TN} {k : Nat} (h : FilR w g ns k) (i : Nat) : w.frozen? ⟨g, i, none⟩ = false := by
  obtain ⟨cs, h1, h2, h3⟩ := h
  exact unfrozen_of_block h1 i
theorem FilR.zero (w : World) (z : Array Value) (ns : List TN) : FilR (w.alloc (.cells (madeCells z (ns.length * 5)) 36)) w.heap.size ns 0 := ⟨madeCells z (ns.length * 5), by show (w.heap.push _)[w.heap.size]? = _; simp, size_madeCells _ _, fun i _ h => absurd h (by omega)⟩
theorem FilR.set {w : World} {g g1 g2 : Nat} {ns : List TN} {k : Nat} (h : FilR w g ns k) (hk : k < ns.length) (a1 : g < g1) (a2 : g1 < w.heap.size) (b1 : g < g2) (b2 : g2 < w.heap.size) (d1 : StrsR w g1 ns[k].names) (d2 : IntsR w g2 ns[k].kids) :
    FilR (((((w.setCell ⟨g, k * 5, none⟩ (.int .i64 ns[k].k)).setCell ⟨g, k * 5 + 1, none⟩ (.int .i64 ns[k].n)).setCell ⟨g, k * 5 + 2, none⟩ (.string ns[k].t)).setCell ⟨g, k * 5 + 3, none⟩ (.slice (some ⟨g1, 0, none⟩) ns[k].names.length ns[k].names.length)).setCell ⟨g, k * 5 + 4, none⟩ (.slice (some ⟨g2, 0, none⟩) ns[k].kids.length ns[k].kids.length)) g ns (k + 1) := by
  obtain ⟨cs, h1, h2, h3⟩ := h
  refine ⟨_, block_setCell (block_setCell (block_setCell (block_setCell (block_setCell h1 _) _) _) _) _, by simp [h2], fun i hi hik => ?_⟩
  by_cases e : i = k
  · subst e
    refine ⟨g1, g2, a1, by simpa using a2, b1, by simpa using b2, ?_, ?_, ?_, ?_, ?_, ?_, ?_⟩
    case refine_6 =>
      repeat refine StrsR.set ?_ (by omega)
      exact d1
    case refine_7 =>
      repeat refine IntsR.set ?_ (by omega)
      exact d2
    all_goals simp [Array.getElem?_setIfInBounds, h2]
    all_goals omega
  · obtain ⟨q1, q2, e1, e2, f1, f2, c0, c1, c2, c3, c4, x1, x2⟩ := h3 i hi (by omega)
    refine ⟨q1, q2, e1, by simpa using e2, f1, by simpa using f2, ?_, ?_, ?_, ?_, ?_, ?_, ?_⟩
    case refine_6 =>
      repeat refine StrsR.set ?_ (by omega)
      exact x1
    case refine_7 =>
      repeat refine IntsR.set ?_ (by omega)
      exact x2
    all_goals rw [Array.getElem?_setIfInBounds_ne (by omega), Array.getElem?_setIfInBounds_ne (by omega), Array.getElem?_setIfInBounds_ne (by omega), Array.getElem?_setIfInBounds_ne (by omega), Array.getElem?_setIfInBounds_ne (by omega)]
    all_goals assumption
theorem FilR.poke {w : World} {g b o : Nat} {v : Value} {ns : List TN} {k : Nat} (h : FilR w g ns k) (hb : b < g) : FilR (w.setCell ⟨b, o, none⟩ v) g ns k := by
  obtain ⟨cs, h1, h2, h3⟩ := h
  refine ⟨cs, by rw [Below.heap_setCell w ⟨b, o, none⟩ v g (by show g ≠ b; omega)]; exact h1, h2, fun i hi hik => ?_⟩
  obtain ⟨g1, g2, a1, a2, b1, b2, c0, c1, c2, c3, c4, d1, d2⟩ := h3 i hi hik
  exact ⟨g1, g2, a1, by simpa using a2, b1, by simpa using b2, c0, c1, c2, c3, c4, d1.set (by omega), d2.set (by omega)⟩
/-- the row of nodes: what each node's names and kids are does not change -/
def NodeSh (w : World) (L : Lay) (ns : List TN) (g : Nat) : Prop := ∃ cs : Array Value, w.heap[g]? = some (.cells cs 36 (0, 0)) ∧ cs.size = ns.length * 5 ∧ ∀ i (h : i < ns.length), cs[i * 5 + 3]? = some (.slice (L.pn i) ns[i].names.length (L.cn i)) ∧ cs[i * 5 + 4]? = some (.slice (L.pk i) ns[i].kids.length (L.ck i))
/-- a tree that was made: all that it has lies from B on, below E, and may be written -/
structure MadR (w : World) (L : Lay) (ns : List TN) (B E : Nat) : Prop where
  row : ∃ g, L.p = some ⟨g, 0, none⟩ ∧ B ≤ g ∧ g < E ∧ NodeSh w L ns g
  nodes : NodesAt w L ns
  parts : ∀ i (h : i < ns.length), ∃ g1 g2, L.pn i = some ⟨g1, 0, none⟩ ∧ B ≤ g1 ∧ g1 < E ∧ RowSh w g1 9 ns[i].names.length ∧ L.pk i = some ⟨g2, 0, none⟩ ∧ B ≤ g2 ∧ g2 < E ∧ RowSh w g2 3 ns[i].kids.length
theorem FilR.made {w : World} {g B : Nat} {ns : List TN} (h : FilR w g ns ns.length) (hB : B ≤ g) (hE : g < w.heap.size) : ∃ L : Lay, L.p = some ⟨g, 0, none⟩ ∧ L.cap = ns.length ∧ MadR w L ns B w.heap.size := by
  obtain ⟨cs, h1, h2, h3⟩ := h
  have each : ∀ i, i < ns.length → ∃ q : Nat × Nat, g < q.1 ∧ q.1 < w.heap.size ∧ g < q.2 ∧ q.2 < w.heap.size ∧ ∃ x, ns[i]? = some x ∧ cs[i * 5]? = some (.int .i64 x.k) ∧ cs[i * 5 + 1]? = some (.int .i64 x.n) ∧ cs[i * 5 + 2]? = some (.string x.t) ∧ cs[i * 5 + 3]? = some (.slice (some ⟨q.1, 0, none⟩) x.names.length x.names.length) ∧ cs[i * 5 + 4]? = some (.slice (some ⟨q.2, 0, none⟩) x.kids.length x.kids.length) ∧ StrsR w q.1 x.names ∧ IntsR w q.2 x.kids := by
    intro i hi
    obtain ⟨g1, g2, a1, a2, b1, b2, r⟩ := h3 i hi hi
    exact ⟨(g1, g2), a1, a2, b1, b2, ns[i], List.getElem?_eq_getElem hi, r⟩
  obtain ⟨q, hq⟩ := @Deep.choose_lt (Nat × Nat) ⟨(0, 0)⟩ _ _ each
  refine ⟨⟨some ⟨g, 0, none⟩, ns.length, fun i => some ⟨(q i).1, 0, none⟩, fun i => (ns[i]?.map (·.names.length)).getD 0, fun i => some ⟨(q i).2, 0, none⟩, fun i => (ns[i]?.map (·.kids.length)).getD 0⟩, rfl, rfl, ⟨g, rfl, hB, hE, cs, h1, h2, fun i hi => ?_⟩, fun i hi => ?_, fun i hi => ?_⟩
  · obtain ⟨a1, a2, b1, b2, x, hx, c0, c1, c2, c3, c4, d1, d2⟩ := hq i hi
    rw [List.getElem?_eq_getElem hi] at hx
    obtain rfl := Option.some.inj hx
    exact ⟨by rw [c3]; simp [hi], by rw [c4]; simp [hi]⟩
  · obtain ⟨a1, a2, b1, b2, x, hx, c0, c1, c2, c3, c4, d1, d2⟩ := hq i hi
    rw [List.getElem?_eq_getElem hi] at hx
    obtain rfl := Option.some.inj hx
    refine ⟨g, 0, rfl, ?_, ?_, ?_, ?_, ?_, d1.at, d2.at⟩
    · rw [Nat.zero_add, cell_of_block h1]; exact c0
    · rw [Nat.zero_add, cell_of_block h1]; exact c1
    · rw [Nat.zero_add, cell_of_block h1]; exact c2
    · rw [Nat.zero_add, cell_of_block h1, c3]; simp [hi]
    · rw [Nat.zero_add, cell_of_block h1, c4]; simp [hi]
  · obtain ⟨a1, a2, b1, b2, x, hx, _, _, _, _, _, d1, d2⟩ := hq i hi
    rw [List.getElem?_eq_getElem hi] at hx
    obtain rfl := Option.some.inj hx
    exact ⟨_, _, rfl, by omega, a2, d1.2, rfl, by omega, b2, d2.2⟩

set_option maxHeartbeats 1000000 in
theorem toNodeS_sh (L : Lay) (ns : List TN) (cap : Nat) (w : World) (hrow : NodesAt w L ns) (hs : Small ns) :
    Calls Tryd.prog 61 #[.slice L.p ns.length cap] w fun e w' => e = .returned (.slice (some ⟨w.heap.size, 0, none⟩) ns.length ns.length) ∧ FilR w' w.heap.size ns ns.length ∧ w.heap.size < w'.heap.size ∧ Below w.heap.size w w' := by
  have HR := hide hrow
  have HS := hide hs.2
  have hlen := hs.1
  have hmk := madeN ns.length w hlen
  have HF0 := hide (FilR.zero w #[.int .i64 0, .int .i64 0, .string ⟨#[]⟩, .slice none 0 0, .slice none 0 0] ns)
  clear hrow hs
  go_enter Tryd.func61, Tryd.ntmps61
  go_wp2
  go_loopw [4] (fun i wx => ∃ k : Nat, k ≤ ns.length ∧ i = .int .i64 k ∧ Hid (FilR wx w.heap.size ns k) ∧ w.heap.size < wx.heap.size ∧ Below w.heap.size w wx) (fun i _ => ns.length - (intOf i).toNat)
  case atStart => exact ⟨0, by omega, rfl, HF0, by simp, nx_alloc _ _⟩
  case round =>
    obtain ⟨k, hk, rfl, hF, hgl, hnx⟩ := hrel
    by_cases hlt : k < ns.length
    · obtain ⟨b, off, hp, q0, q1, q2, q3, q4, q5, q6⟩ := (unhide HR).later hnx k hlt
      obtain ⟨z0, z1, z2, z3⟩ := unhide HS ns[k] (List.getElem_mem hlt)
      have HSet := hide fun (x : World) (g1 g2 : Nat) (hx : FilR x w.heap.size ns k) (a1 : w.heap.size < g1) (a2 : g1 < x.heap.size) (b1 : w.heap.size < g2) (b2 : g2 < x.heap.size) (d1 : StrsR x g1 ns[k].names) (d2 : IntsR x g2 ns[k].kids) => hx.set hlt a1 a2 b1 b2 d1 d2
      have HQ := hide q5
      have HQ2 := hide q6
      clear q5 q6 z3
      rw [hp]
      generalize ns[k] = x at q0 q1 q2 q3 q4 z1 z2 HSet HQ HQ2
      generalize L.pn k = pn at q3 HQ
      generalize L.cn k = cn at q3
      generalize L.pk k = pk at q4 HQ2
      generalize L.ck k = ck at q4
      obtain ⟨xk, xn, xt, xs, xj⟩ := x
      dsimp only at q0 q1 q2 q3 q4 z1 z2 HSet HQ HQ2
      go_wp2_with fail
      refine (toNode_sh xk xn xt pn xs cn pk xj ck _ (unhide HQ) (unhide HQ2) z1 z2).mono ?_
      rintro e w1 ⟨g1, g2, rfl, a1, a2, b1, b2, d1, d2, hb1⟩
      have hF1 := (unhide hF).later hb1 hgl
      have hg1 : w.heap.size < w1.heap.size := by have := hb1.size; omega
      have hS := hide (unhide HSet w1 g1 g2 hF1 (by omega) a2 (by omega) b2 d1 d2)
      obtain ⟨u0, c0⟩ := hF1.cells (k * 5) (by omega)
      obtain ⟨u1, c1⟩ := hF1.cells (k * 5 + 1) (by omega)
      obtain ⟨u2, c2⟩ := hF1.cells (k * 5 + 2) (by omega)
      obtain ⟨u3, c3⟩ := hF1.cells (k * 5 + 3) (by omega)
      obtain ⟨u4, c4⟩ := hF1.cells (k * 5 + 4) (by omega)
      have f0 := hF1.free (k * 5)
      have f1 := hF1.free (k * 5 + 1)
      have f2 := hF1.free (k * 5 + 2)
      have f3 := hF1.free (k * 5 + 3)
      have f4 := hF1.free (k * 5 + 4)
      have hN := hide (nx_trans hnx hb1)
      clear hF1 hF d1 d2 hb1
      go_wp2
      go_roundw
      case rel => exact ⟨k + 1, by omega, by go_num, hide (unhide hS), by simp; omega, nx_set (nx_set (nx_set (nx_set (nx_set (unhide hN) (Nat.le_refl _)) (Nat.le_refl _)) (Nat.le_refl _)) (Nat.le_refl _)) (Nat.le_refl _)⟩
      case measure => simp [intOf]; omega
    · obtain rfl : k = ns.length := by omega
      go_wp2
      go_ret
      exact ⟨rfl, unhide hF, hgl, hnx⟩

set_option maxHeartbeats 1000000 in
theorem toTree_sh (L : Lay) (ns : List TN) (cap : Nat) (root : Int) (w : World) (hrow : NodesAt w L ns) (hs : Small ns) :
    Calls Tryd.prog 25 #[.agg #[.slice L.p ns.length cap, .int .i64 root]] w fun e w' => ∃ L' : Lay, e = .returned (.agg #[.slice L'.p ns.length L'.cap, .int .i64 root]) ∧ MadR w' L' ns w.heap.size w'.heap.size ∧ Below w.heap.size w w' := by
  have HR := hide hrow
  have HS := hide hs
  clear hrow hs
  go_enter Tryd.func25, Tryd.ntmps25
  go_wp2_with fail
  refine (toNodeS_sh L ns cap _ ((unhide HR).later (nx_al (nx_al (nx_alloc _ _)))) (unhide HS)).mono ?_
  rintro e w1 ⟨rfl, hF, hl, hb1⟩
  have hB1 := hide (nx_trans (nx_al (nx_al (nx_alloc _ _))) hb1)
  obtain ⟨hc1, hf1⟩ := bcell hb1
  have hz : w.heap.size + 3 < w1.heap.size := by simp at hl; omega
  have hz0 : w.heap.size < w1.heap.size := by omega
  have hz1 : w.heap.size + 1 < w1.heap.size := by omega
  have hz2 : w.heap.size + 1 + 1 < w1.heap.size := by omega
  have HF := hide hF
  clear hF hb1
  have HF' : Hid (FilR w1 (w.heap.size + 1 + 1 + 1) ns ns.length) := hide (by simpa using unhide HF)
  go_wp2
  have hM := FilR.made (B := w.heap.size) (FilR.poke (o := 1) (v := .int .i64 root) (FilR.poke (o := 0) (v := .slice (some ⟨w.heap.size + 1 + 1 + 1, 0, none⟩) ns.length ns.length) (FilR.poke (o := 1) (v := .int .i64 root) (FilR.poke (o := 0) (v := .slice (some ⟨w.heap.size + 1 + 1 + 1, 0, none⟩) ns.length ns.length) (unhide HF') (b := w.heap.size + 1 + 1) (by omega)) (b := w.heap.size + 1 + 1) (by omega)) (b := w.heap.size + 1) (by omega)) (b := w.heap.size + 1) (by omega)) (by omega) (by simp; omega)
  obtain ⟨L', hp', hc', hM⟩ := hM
  refine bodyPost_ret (v := .agg #[.slice (some ⟨w.heap.size + 1 + 1 + 1, 0, none⟩) ns.length ns.length, .int .i64 root]) (by simp [results, Tryd.results25, go_sem, *]) rfl ⟨L', by rw [hp', hc'], hM, ?_⟩
  repeat refine nx_set ?_ (by omega)
  exact unhide hB1

end Go.Proofs.YtbipgmikgokfpaaDoor

/- TreeMark2 -/
namespace Go.Proofs.YtbipgmikgokfpaaDoor
open Go.RowKit Go.Joins
set_option linter.unusedVariables false

theorem convM (u : World) (c : Int) (h0 : 0 ≤ c) (h1 : c ≤ 255) : (convert 22 9 (.slice (some ⟨u.heap.size, 0, none⟩) 1 1)).run Tryd.prog (u.alloc (.cells #[.int .u8 c] 5)) = .ok (.string ⟨#[UInt8.ofNat c.toNat]⟩) (u.alloc (.cells #[.int .u8 c] 5)) := by
  have h := run_convert_bytes_back (P := Tryd.prog) (u.alloc (.cells #[.int .u8 c] 5)) 22 9 5 ⟨u.heap.size, 0, none⟩ 1 [UInt8.ofNat c.toNat] Tryd.underlying22 Tryd.underlying5 Tryd.underlying9 (fun j hj => by
    obtain rfl : j = 0 := by simpa using hj
    rw [Addr.add_lit, Nat.add_zero, show (u.alloc (.cells #[.int .u8 c] 5)).cell? ⟨u.heap.size, 0, none⟩ = some (.int .u8 c) by simp]
    simp
    omega)
  exact h

/-- so far: what is left has no more digits than there is room for -/
def RoomAt (n s : Nat) : Prop := s ≤ 19 ∧ n < 10 ^ (19 - s)
theorem RoomAt.next {n s : Nat} (h : RoomAt n s) (h0 : 0 < n) : RoomAt (n / 10) (1 + s) := by
  obtain ⟨h1, h2⟩ := h
  by_cases hs : s = 19
  · subst hs; simp at h2; omega
  · refine ⟨by omega, ?_⟩
    have e : 19 - s = (19 - (1 + s)) + 1 := by omega
    rw [e, Nat.pow_succ] at h2
    exact Nat.div_lt_of_lt_mul (by rw [Nat.mul_comm]; exact h2)
theorem RoomAt.start {z : Int} (h0 : 1 ≤ z) (h1 : z ≤ 9223372036854775807) : RoomAt z.toNat 0 := ⟨by omega, by
  show z.toNat < 10 ^ 19
  have : (10 : Nat) ^ 19 = 10000000000000000000 := by decide
  omega⟩

set_option maxHeartbeats 2000000 in
set_option maxRecDepth 100000 in
theorem markText_some (z : Int) (w : World) (h0 : 1 ≤ z) (h1 : z ≤ 9223372036854775807) :
    Calls Tryd.prog 76 #[.int .i64 z] w fun e w' => (∃ t : ByteArray, e = .returned (.string t) ∧ t.size ≤ 20) ∧ Below w.heap.size w w' := by
  have hz : ¬ z ≤ 0 := by omega
  have hst : Hid (RoomAt z.toNat 0) := hide (RoomAt.start h0 h1)
  go_enter Tryd.func76, Tryd.ntmps76
  go_wp2
  go_loopw [0, 3] (fun m o wx => ∃ (n : Nat) (t : ByteArray), n ≤ 9223372036854775807 ∧ m = .int .i64 (n : Int) ∧ o = .string t ∧ Hid (RoomAt n t.size) ∧ Below w.heap.size w wx) (fun m _ _ => (intOf m).toNat)
  case atStart => exact ⟨z.toNat, ⟨#[]⟩, by omega, by rw [Int.toNat_of_nonneg (by omega)], rfl, hide (unhide hst), Below.refl _ _⟩
  case round =>
    clear hst hz
    obtain ⟨n, t, hn, rfl, rfl, hin, hnx⟩ := hrel
    have hts : t.size ≤ 19 := (unhide hin).1
    by_cases hp : 0 < n
    · have hp' : (0 : Int) < (n : Int) := by omega
      have hd := hide ((unhide hin).next hp)
      obtain ⟨r, hr⟩ : ∃ r, r = n % 10 := ⟨_, rfl⟩
      obtain ⟨q, hq⟩ : ∃ q, q = n / 10 := ⟨_, rfl⟩
      rw [← hq] at hd
      have hr9 : r ≤ 9 := by omega
      have hqn : q < n := by omega
      have hrm : (n : Int).tmod 10 = (r : Int) := by rw [Int.tmod_eq_emod_of_nonneg (by omega)]; omega
      have hqd : (n : Int).tdiv 10 = (q : Int) := by rw [Int.tdiv_eq_ediv_of_nonneg (by omega)]; omega
      have hw2 : IntKind.u8.wrap (48 + (r : Int)) = 48 + (r : Int) := by unfold IntKind.wrap; simp [IntKind.bits, IntKind.signed]; omega
      have hcv : ∀ u : World, (convert 22 9 (.slice (some ⟨u.heap.size, 0, none⟩) 1 1)).run Tryd.prog (u.alloc (.cells #[.int .u8 (48 + (r : Int))] 5)) = .ok (.string ⟨#[UInt8.ofNat (48 + r)]⟩) (u.alloc (.cells #[.int .u8 (48 + (r : Int))] 5)) := fun u => by
        rw [convM u (48 + (r : Int)) (by omega) (by omega), show (48 + (r : Int)).toNat = 48 + r by omega]
      have hzz : (⟨#[UInt8.ofNat (48 + r)]⟩ : ByteArray).size = 1 := rfl
      generalize (⟨#[UInt8.ofNat (48 + r)]⟩ : ByteArray) = D at hcv hzz
      have hsz : (D ++ t).size = 1 + t.size := by rw [ByteArray.size_append, hzz]
      rw [← hsz] at hd
      clear hr hq hsz
      go_wp2
      go_roundw
      case rel => exact ⟨q, _, by omega, rfl, rfl, hide (unhide hd), nx_al hnx⟩
      case measure => simp [intOf]; omega
    · have hp' : ¬ (0 : Int) < (n : Int) := by omega
      obtain rfl : n = 0 := by omega
      have hzz : (⟨#[109]⟩ : ByteArray).size = 1 := rfl
      have hsz : (⟨#[109]⟩ ++ t : ByteArray).size ≤ 20 := by rw [ByteArray.size_append, hzz]; omega
      go_wp2
      go_ret
      exact ⟨⟨_, rfl, hsz⟩, hnx⟩

/-- of what was there, only blocks from B on and below E may have changed -/
def Touch (B E : Nat) (w w' : World) : Prop := Below B w w' ∧ ∀ j, E ≤ j → j < w.heap.size → w'.heap[j]? = w.heap[j]?
theorem Touch.refl (B E : Nat) (w : World) : Touch B E w w := ⟨Below.refl _ _, fun _ _ _ => rfl⟩
theorem Touch.trans {B E : Nat} {a b c : World} (h : Touch B E a b) (h' : Touch B E b c) : Touch B E a c :=
  ⟨h.1.trans h'.1, fun j hj hl => by rw [h'.2 j hj (by have := h.1.size; omega), h.2 j hj hl]⟩
theorem Touch.wid {B E B' E' : Nat} {a b : World} (h : Touch B E a b) (hB : B' ≤ B) (hE : E ≤ E') : Touch B' E' a b :=
  ⟨h.1.mono hB, fun j hj hl => h.2 j (by omega) hl⟩
theorem Touch.of {B : Nat} (E : Nat) {a b : World} (h : Below a.heap.size a b) (hB : B ≤ a.heap.size) : Touch B E a b :=
  ⟨h.mono hB, fun j _ hl => h.block j hl⟩
theorem Touch.set {B E g o : Nat} {v : Value} {a b : World} (h : Touch B E a b) (hB : B ≤ g) (hE : g < E) : Touch B E a (b.setCell ⟨g, o, none⟩ v) :=
  ⟨h.1.setCell hB _, fun j hj hl => by rw [Below.heap_setCell b ⟨g, o, none⟩ v j (by show j ≠ g; omega), h.2 j hj hl]⟩
theorem Touch.else {B E j : Nat} {a b : World} (h : Touch B E a b) (hl : j < a.heap.size) (hj : j < B ∨ E ≤ j) : b.heap[j]? = a.heap[j]? := by
  rcases hj with hj | hj
  · exact h.1.block j hj
  · exact h.2 j hj hl
theorem RowSh.touch {B E g n : Nat} {t : TypeId} {a b : World} (h : RowSh a g t n) (ht : Touch B E a b) (hj : g < B ∨ E ≤ g) : RowSh b g t n := h.same (ht.else h.lt hj)

/-- the first k are marked -/
def MrkI (w : World) (g n : Nat) (k0 : Int) (k : Nat) : Prop := ∃ cs : Array Value, w.heap[g]? = some (.cells cs 3 (0, 0)) ∧ cs.size = n ∧ ∀ j, j < k → cs[j]? = some (.int .i64 (k0 + (j : Int)))
theorem MrkI.sh {w : World} {g n k : Nat} {k0 : Int} (h : MrkI w g n k0 k) : RowSh w g 3 n := by
  obtain ⟨cs, h1, h2, _⟩ := h
  exact ⟨cs, h1, h2⟩
theorem MrkI.zero {w : World} {g n : Nat} (k0 : Int) (h : RowSh w g 3 n) : MrkI w g n k0 0 := by
  obtain ⟨cs, h1, h2⟩ := h
  exact ⟨cs, h1, h2, fun j hj => by omega⟩
theorem MrkI.next {w : World} {g n k : Nat} {k0 : Int} (h : MrkI w g n k0 k) (hk : k < n) : MrkI (w.setCell ⟨g, k, none⟩ (.int .i64 (k0 + (k : Int)))) g n k0 (k + 1) := by
  obtain ⟨cs, h1, h2, h3⟩ := h
  refine ⟨_, block_setCell h1 _, by simp [h2], fun j hj => ?_⟩
  by_cases e : j = k
  · subst e
    simp [h2, hk]
  · have : k ≠ j := fun h => e h.symm
    simp [this]
    exact h3 j (by omega)
theorem MrkI.cell {w : World} {g n k j : Nat} {k0 : Int} (h : MrkI w g n k0 k) (hj : j < k) : w.cell? ⟨g, j, none⟩ = some (.int .i64 (k0 + (j : Int))) := by
  obtain ⟨cs, h1, h2, h3⟩ := h
  rw [cell_of_block h1, h3 j hj]

set_option maxHeartbeats 2000000 in
set_option maxRecDepth 100000 in
theorem markIntS_sh (g n cap : Nat) (k0 : Int) (w : World) (hrow : RowSh w g 3 n) (hn : n ≤ 1048576) (h0 : 0 ≤ k0) (h1 : k0 ≤ 4611686018427387904) :
    Calls Tryd.prog 37 #[.slice (some ⟨g, 0, none⟩) n cap, .int .i64 k0] w fun e w' => e = .returned (.int .i64 (k0 + (n : Int))) ∧ MrkI w' g n k0 n ∧ Touch g (g + 1) w w' := by
  have HM := hide (MrkI.zero k0 hrow)
  clear hrow
  go_enter Tryd.func37, Tryd.ntmps37
  go_wp2
  go_loopw [1, 5] (fun m i wx => ∃ k : Nat, k ≤ n ∧ i = .int .i64 k ∧ m = .int .i64 (k0 + (k : Int)) ∧ Hid (MrkI wx g n k0 k) ∧ Hid (Touch g (g + 1) w wx)) (fun _ i _ => n - (intOf i).toNat)
  case atStart => exact ⟨0, by omega, rfl, by simp, HM, hide (Touch.refl _ _ _)⟩
  case round =>
    clear HM
    obtain ⟨k, hk, rfl, rfl, hM, hT⟩ := hrel
    by_cases hlt : k < n
    · have HM2 := hide ((unhide hM).next hlt)
      have HT2 : Hid (Touch g (g + 1) w (wr.setCell ⟨g, k, none⟩ (.int .i64 (k0 + (k : Int))))) := hide ((unhide hT).set (Nat.le_refl _) (by omega))
      obtain ⟨u0, c0⟩ := (unhide hM).sh.cell hlt
      have f0 : wr.frozen? ⟨g, k, none⟩ = false := (unhide hM).sh.free
      clear hM hT
      go_wp2
      go_roundw
      case rel => exact ⟨k + 1, by omega, by go_num, int_eq (by omega), HM2, HT2⟩
      case measure => simp [intOf]; omega
    · obtain rfl : k = n := by omega
      go_wp2
      go_ret
      exact ⟨rfl, unhide hM, unhide hT⟩

set_option maxHeartbeats 2000000 in
set_option maxRecDepth 100000 in
theorem markStringS_sh (g n cap : Nat) (k0 : Int) (w : World) (hrow : RowSh w g 9 n) (hn : n ≤ 1048576) (h0 : 1 ≤ k0) (h1 : k0 ≤ 4611686018427387904) :
    Calls Tryd.prog 42 #[.slice (some ⟨g, 0, none⟩) n cap, .int .i64 k0] w fun e w' => e = .returned (.int .i64 (k0 + (n : Int))) ∧ RowSh w' g 9 n ∧ Touch g (g + 1) w w' := by
  have HM := hide hrow
  clear hrow
  go_enter Tryd.func42, Tryd.ntmps42
  go_wp2
  go_loopw [1, 5] (fun m i wx => ∃ k : Nat, k ≤ n ∧ i = .int .i64 k ∧ m = .int .i64 (k0 + (k : Int)) ∧ Hid (RowSh wx g 9 n) ∧ Hid (Touch g (g + 1) w wx)) (fun _ i _ => n - (intOf i).toNat)
  case atStart => exact ⟨0, by omega, rfl, by simp, HM, hide (Touch.refl _ _ _)⟩
  case round =>
    clear HM
    obtain ⟨k, hk, rfl, rfl, hM, hT⟩ := hrel
    by_cases hlt : k < n
    · go_wp2_with fail
      refine (markText_some _ _ (by omega) (by omega)).mono ?_
      rintro e w1 ⟨⟨t, rfl, hts⟩, hb1⟩
      have hM1 := hide ((unhide hM).later hb1)
      have hT1 := hide ((unhide hT).trans (Touch.of (g + 1) hb1 (Nat.le_of_lt (unhide hM).lt)))
      have HM2 : Hid (RowSh (w1.setCell ⟨g, k, none⟩ (.string t)) g 9 n) := hide (unhide hM1).put
      have HT2 : Hid (Touch g (g + 1) w (w1.setCell ⟨g, k, none⟩ (.string t))) := hide ((unhide hT1).set (Nat.le_refl _) (by omega))
      obtain ⟨u0, c0⟩ := (unhide hM1).cell hlt
      have f0 : w1.frozen? ⟨g, k, none⟩ = false := (unhide hM1).free
      clear hM hT hM1 hT1 hb1
      go_wp2
      go_roundw
      case rel => exact ⟨k + 1, by omega, by go_num, int_eq (by omega), HM2, HT2⟩
      case measure => simp [intOf]; omega
    · obtain rfl : k = n := by omega
      go_wp2
      go_ret
      exact ⟨rfl, unhide hM, unhide hT⟩

/-- a tree between marks: its rows may be written, and lie from B on, below E -/
structure Markg (w : World) (L : Lay) (ns : List TN) (g B E : Nat) : Prop where
  lo : B ≤ g
  hi : g < E
  fit : E ≤ w.heap.size
  sh : NodeSh w L ns g
  parts : ∀ i (h : i < ns.length), ∃ g1 g2, L.pn i = some ⟨g1, 0, none⟩ ∧ B ≤ g1 ∧ g1 < E ∧ RowSh w g1 9 ns[i].names.length ∧ L.pk i = some ⟨g2, 0, none⟩ ∧ B ≤ g2 ∧ g2 < E ∧ RowSh w g2 3 ns[i].kids.length
theorem MadR.markg {w : World} {L : Lay} {ns : List TN} {B E : Nat} (h : MadR w L ns B E) (hE : E ≤ w.heap.size) : ∃ g, L.p = some ⟨g, 0, none⟩ ∧ Markg w L ns g B E := by
  obtain ⟨g, e, h1, h2, h3⟩ := h.row
  exact ⟨g, e, h1, h2, hE, h3, h.parts⟩
theorem NodeSh.same {w w' : World} {L : Lay} {ns : List TN} {g : Nat} (h : NodeSh w L ns g) (hb : w'.heap[g]? = w.heap[g]?) : NodeSh w' L ns g := by
  obtain ⟨cs, h1, h2⟩ := h
  exact ⟨cs, by rw [hb]; exact h1, h2⟩
theorem Markg.later {w w' : World} {L : Lay} {ns : List TN} {g B E : Nat} (h : Markg w L ns g B E) (hb : Below w.heap.size w w') : Markg w' L ns g B E := by
  refine ⟨h.lo, h.hi, Nat.le_trans h.fit hb.size, h.sh.same (hb.block g (Nat.lt_of_lt_of_le h.hi h.fit)), fun i hi => ?_⟩
  obtain ⟨g1, g2, a, a1, a2, a3, b, b1, b2, b3⟩ := h.parts i hi
  exact ⟨g1, g2, a, a1, a2, a3.later hb, b, b1, b2, b3.later hb⟩
theorem Markg.store {w : World} {L : Lay} {ns : List TN} {g B E : Nat} (h : Markg w L ns g B E) (i j : Nat) (v : Value) (hj : j < 3) : Markg (w.setCell ⟨g, i * 5 + j, none⟩ v) L ns g B E := by
  refine ⟨h.lo, h.hi, by have := h.fit; simpa using this, ?_, fun i hi => ?_⟩
  · obtain ⟨cs, h1, h2, h3⟩ := h.sh
    refine ⟨_, block_setCell h1 _, by simp [h2], fun k hk => ?_⟩
    obtain ⟨c3, c4⟩ := h3 k hk
    have n3 : i * 5 + j ≠ k * 5 + 3 := by omega
    have n4 : i * 5 + j ≠ k * 5 + 4 := by omega
    exact ⟨by simp [n3]; exact c3, by simp [n4]; exact c4⟩
  · obtain ⟨g1, g2, a, a1, a2, a3, b, b1, b2, b3⟩ := h.parts i hi
    exact ⟨g1, g2, a, a1, a2, a3.put, b, b1, b2, b3.put⟩
theorem RowSh.unique {w : World} {g n n' : Nat} {t t' : TypeId} (h : RowSh w g t n) (h' : RowSh w g t' n') : t' = t ∧ n' = n := by
  obtain ⟨cs, h1, h2⟩ := h
  obtain ⟨cs', h1', h2'⟩ := h'
  rw [h1] at h1'
  injection h1' with e
  injection e with e1 e2 e3
  subst e1 e2
  exact ⟨rfl, by omega⟩
theorem RowSh.stay {w w' : World} {g g' n n' : Nat} {t t' : TypeId} (h : RowSh w g t n) (hd : RowSh w' g t n) (ht : Touch g (g + 1) w w') (h' : RowSh w g' t' n') : RowSh w' g' t' n' := by
  by_cases e : g' = g
  · subst e
    obtain ⟨rfl, rfl⟩ := h.unique h'
    exact hd
  · exact h'.touch ht (by omega)
theorem Markg.row {w w' : World} {L : Lay} {ns : List TN} {g B E g1 n : Nat} {t : TypeId} (h : Markg w L ns g B E) (hr : RowSh w g1 t n) (hd : RowSh w' g1 t n) (ht : Touch g1 (g1 + 1) w w') (hne : t ≠ 36) : Markg w' L ns g B E := by
  refine ⟨h.lo, h.hi, Nat.le_trans h.fit ht.1.size, h.sh.same (ht.else (Nat.lt_of_lt_of_le h.hi h.fit) ?_), fun i hi => ?_⟩
  · by_cases e : g = g1
    · subst e
      obtain ⟨cs, h1, h2, _⟩ := h.sh
      exact absurd (RowSh.unique (⟨cs, h1, rfl⟩ : RowSh w g 36 cs.size) hr).1 hne
    · omega
  · obtain ⟨g1, g2, a, a1, a2, a3, b, b1, b2, b3⟩ := h.parts i hi
    exact ⟨g1, g2, a, a1, a2, hr.stay hd ht a3, b, b1, b2, hr.stay hd ht b3⟩
theorem Markg.cell {w : World} {L : Lay} {ns : List TN} {g B E i : Nat} (h : Markg w L ns g B E) (hi : i < ns.length * 5) : ∃ v, w.cell? ⟨g, i, none⟩ = some v := by
  obtain ⟨cs, h1, h2, _⟩ := h.sh
  exact RowSh.cell (⟨cs, h1, rfl⟩ : RowSh w g 36 cs.size) (by omega)
theorem Markg.free {w : World} {L : Lay} {ns : List TN} {g B E : Nat} (h : Markg w L ns g B E) (i : Nat) : w.frozen? ⟨g, i, none⟩ = false := by
  obtain ⟨cs, h1, h2, _⟩ := h.sh
  exact unfrozen_of_block h1 i
theorem Markg.slices {w : World} {L : Lay} {ns : List TN} {g B E i : Nat} (h : Markg w L ns g B E) (hi : i < ns.length) : w.cell? ⟨g, i * 5 + 3, none⟩ = some (.slice (L.pn i) ns[i].names.length (L.cn i)) ∧ w.cell? ⟨g, i * 5 + 4, none⟩ = some (.slice (L.pk i) ns[i].kids.length (L.ck i)) := by
  obtain ⟨cs, h1, h2, h3⟩ := h.sh
  obtain ⟨c3, c4⟩ := h3 i hi
  exact ⟨by rw [cell_of_block h1, c3], by rw [cell_of_block h1, c4]⟩
theorem Markg.rows {w : World} {L : Lay} {ns : List TN} {g B E i g1 g2 : Nat} (h : Markg w L ns g B E) (hi : i < ns.length) (e1 : L.pn i = some ⟨g1, 0, none⟩) (e2 : L.pk i = some ⟨g2, 0, none⟩) : RowSh w g1 9 ns[i].names.length ∧ RowSh w g2 3 ns[i].kids.length := by
  obtain ⟨h1, h2, a, a1, a2, a3, b, b1, b2, b3⟩ := h.parts i hi
  rw [e1] at a
  rw [e2] at b
  injection a with a
  injection a with a _ _
  injection b with b
  injection b with b _ _
  subst a b
  exact ⟨a3, b3⟩

set_option maxHeartbeats 2000000 in
set_option maxRecDepth 100000 in
theorem heldIntS_sh (g n cap : Nat) (k0 : Int) (w : World) (hrow : MrkI w g n k0 n) (hn : n ≤ 1048576) (h0 : 0 ≤ k0) (h1 : k0 ≤ 4611686018427387904) :
    Calls Tryd.prog 38 #[.slice (some ⟨g, 0, none⟩) n cap, .int .i64 k0] w fun e w' => e = .returned (.int .i64 (k0 + (n : Int))) ∧ Below w.heap.size w w' := by
  have HM := hide hrow
  clear hrow
  go_enter Tryd.func38, Tryd.ntmps38
  go_wp2
  go_loopw [1, 5] (fun m i wx => ∃ k : Nat, k ≤ n ∧ i = .int .i64 k ∧ m = .int .i64 (k0 + (k : Int)) ∧ wx = w) (fun _ i _ => n - (intOf i).toNat)
  case atStart => exact ⟨0, by omega, rfl, by simp, rfl⟩
  case round =>
    obtain ⟨k, hk, rfl, rfl, rfl⟩ := hrel
    by_cases hlt : k < n
    · have c0 := (unhide HM).cell hlt
      go_wp2
      go_roundw
      case rel => exact ⟨k + 1, by omega, by go_num, int_eq (by omega), trivial⟩
      case measure => simp [intOf]; omega
    · obtain rfl : k = n := by omega
      go_wp2
      go_ret
      exact ⟨rfl, Below.refl _ _⟩

set_option maxHeartbeats 4000000 in
set_option maxRecDepth 100000 in
theorem markNodeS_sh (L : Lay) (ns : List TN) (g B E cap : Nat) (w : World) (hrow : Markg w L ns g B E) (hs : Small ns) :
    Calls Tryd.prog 74 #[.slice (some ⟨g, 0, none⟩) ns.length cap, .int .i64 1] w fun e w' => (∃ z : Int, e = .returned (.int .i64 z) ∧ 1 ≤ z ∧ z ≤ 1 + 2097155 * (ns.length : Int)) ∧ Touch B E w w' := by
  have HM := hide hrow
  have HS := hide hs.2
  have hn := hs.1
  clear hrow hs
  go_enter Tryd.func74, Tryd.ntmps74
  go_wp2
  go_loopw [1, 5] (fun m i wx => ∃ (k : Nat) (z : Int), k ≤ ns.length ∧ i = .int .i64 k ∧ m = .int .i64 z ∧ 1 ≤ z ∧ z ≤ 1 + 2097155 * (k : Int) ∧ Hid (Markg wx L ns g B E) ∧ Hid (Touch B E w wx)) (fun _ i _ => ns.length - (intOf i).toNat)
  case atStart => exact ⟨0, 1, by omega, rfl, rfl, by omega, by omega, HM, hide (Touch.refl _ _ _)⟩
  case round =>
    clear HM
    obtain ⟨k, z, hk, rfl, rfl, hz0, hz1, hM, hT⟩ := hrel
    by_cases hlt : k < ns.length
    · obtain ⟨g1, g2, e1, a1, a2, _, e2, b1, b2, _⟩ := (unhide hM).parts k hlt
      have hsm := unhide HS ns[k] (List.getElem_mem hlt)
      have HK : Hid (∀ wx : World, Markg wx L ns g B E → wx.cell? ⟨g, k * 5 + 3, none⟩ = some (.slice (some ⟨g1, 0, none⟩) ns[k].names.length (L.cn k)) ∧ wx.cell? ⟨g, k * 5 + 4, none⟩ = some (.slice (some ⟨g2, 0, none⟩) ns[k].kids.length (L.ck k)) ∧ RowSh wx g1 9 ns[k].names.length ∧ RowSh wx g2 3 ns[k].kids.length) := hide (fun wx hx => by
        have c := hx.slices hlt
        rw [e1, e2] at c
        exact ⟨c.1, c.2, hx.rows hlt e1 e2⟩)
      have hnl := hsm.2.1
      have hkl := hsm.2.2.1
      clear hsm e1 e2
      generalize ns[k].names.length = nl at HK hnl
      generalize ns[k].kids.length = kl at HK hkl
      generalize L.cn k = cn at HK
      generalize L.ck k = ck at HK
      obtain ⟨u0, c0⟩ := (unhide hM).cell (i := k * 5) (by omega)
      obtain ⟨u1, c1⟩ := (unhide hM).cell (i := k * 5 + 1) (by omega)
      have f0 := (unhide hM).free
      have hlo := (unhide hM).lo
      have hhi := (unhide hM).hi
      have HA : Hid (Markg ((wr.setCell ⟨g, k * 5, none⟩ (.int .i64 z)).setCell ⟨g, k * 5 + 1, none⟩ (.int .i64 (z + 1))) L ns g B E) := hide (((unhide hM).store k 0 _ (by omega)).store k 1 _ (by omega))
      have TA : Hid (Touch B E w ((wr.setCell ⟨g, k * 5, none⟩ (.int .i64 z)).setCell ⟨g, k * 5 + 1, none⟩ (.int .i64 (z + 1)))) := hide (((unhide hT).set hlo hhi).set hlo hhi)
      clear hM hT
      go_wp2_with fail
      refine (markText_some _ _ (by omega) (by omega)).mono ?_
      rintro e w1 ⟨⟨t, rfl, hts⟩, hb1⟩
      have H1 := hide ((unhide HA).later hb1)
      have T1 := hide ((unhide TA).trans (Touch.of E hb1 (Nat.le_trans hlo (Nat.le_trans (Nat.le_of_lt hhi) (unhide HA).fit))))
      have HB : Hid (Markg (w1.setCell ⟨g, k * 5 + 2, none⟩ (.string t)) L ns g B E) := hide ((unhide H1).store k 2 _ (by omega))
      have TB : Hid (Touch B E w (w1.setCell ⟨g, k * 5 + 2, none⟩ (.string t))) := hide ((unhide T1).set hlo hhi)
      obtain ⟨u2, c2⟩ := (unhide H1).cell (i := k * 5 + 2) (by omega)
      have f1 := (unhide H1).free
      have c3 := (unhide HK _ (unhide H1)).1
      have c3' := (unhide HK _ (unhide HB)).1
      clear H1 T1 hb1 HA TA c0 c1 f0
      go_wp2_with fail
      refine (markStringS_sh g1 nl cn _ _ (unhide HK _ (unhide HB)).2.2.1 hnl (by omega) (by omega)).mono ?_
      rintro e w2 ⟨rfl, hR2, hT2⟩
      have H2 := hide ((unhide HB).row (unhide HK _ (unhide HB)).2.2.1 hR2 hT2 (by decide))
      have T2 := hide ((unhide TB).trans (hT2.wid a1 (by omega)))
      have c4 := (unhide HK _ (unhide H2)).2.1
      clear HB TB hR2 hT2 c2 c3 c3' f1
      go_wp2_with fail
      refine (markIntS_sh g2 kl ck _ _ (unhide HK _ (unhide H2)).2.2.2 hkl (by omega) (by omega)).mono ?_
      rintro e w3 ⟨rfl, hR3, hT3⟩
      have H3 := hide ((unhide H2).row (unhide HK _ (unhide H2)).2.2.2 hR3.sh hT3 (by decide))
      have T3 := hide ((unhide T2).trans (hT3.wid b1 (by omega)))
      clear H2 T2 hR3 hT3 c4
      go_wp2
      go_roundw
      case rel => exact ⟨k + 1, _, by omega, by go_num, rfl, by omega, by omega, H3, T3⟩
      case measure => simp [intOf]; omega
    · obtain rfl : k = ns.length := by omega
      go_wp2
      go_ret
      exact ⟨⟨_, rfl, hz0, hz1⟩, unhide hT⟩

set_option maxHeartbeats 1000000 in
theorem markTree_sh (L : Lay) (ns : List TN) (cap : Nat) (root : Int) (B E : Nat) (w : World) (hrow : MadR w L ns B E) (hE : E ≤ w.heap.size) (hs : Small ns) :
    Calls Tryd.prog 36 #[.agg #[.slice L.p ns.length cap, .int .i64 root], .int .i64 1] w fun e w' => (∃ z : Int, e = .returned (.int .i64 z) ∧ 1 ≤ z ∧ z ≤ 1 + 2097155 * (ns.length : Int)) ∧ Touch B E w w' := by
  obtain ⟨g, hp, hM⟩ := hrow.markg hE
  rw [hp]
  have hB : B ≤ w.heap.size := Nat.le_trans hM.lo (Nat.le_trans (Nat.le_of_lt hM.hi) hM.fit)
  have HM := hide hM
  have HS := hide hs
  clear hrow hM hs hp
  go_enter Tryd.func36, Tryd.ntmps36
  go_wp2_with fail
  refine (markNodeS_sh L ns g B E cap _ ((unhide HM).later (nx_alloc _ _)) (unhide HS)).mono ?_
  rintro e w1 ⟨⟨z, rfl, hz0, hz1⟩, hT⟩
  have HT := hide ((Touch.of E (nx_alloc _ _) hB).trans hT)
  clear hT
  go_wp2
  go_ret
  exact ⟨⟨z, rfl, hz0, hz1⟩, unhide HT⟩

end Go.Proofs.YtbipgmikgokfpaaDoor

/- StrBuf -/
namespace Go.Proofs.YtbipgmikgokfpaaDoor
open Go.RowKit Go.Joins
set_option linter.unusedVariables false

set_option maxRecDepth 100000 in
theorem infoSt : (Tryd.prog.info? 9).map (fun i => (i.zero, i.size, i.bytes)) = some (some (.string ⟨#[]⟩), 1, 16) := by kernel_rfl
/-- a list of texts of one's own -/
def StrBuf (w : World) (base : Nat) (v : Value) (zs : List ByteArray) : Prop := w.ownsRow base 9 1 v zs.length (zs.map Value.string)
theorem StrBuf.nil (w : World) (base : Nat) : StrBuf w base (.slice none 0 0) [] := World.ownsRow_nil _ _ _ _
theorem StrBuf.alloc {w : World} {base : Nat} {v : Value} {zs : List ByteArray} (h : StrBuf w base v zs) (o : Obj) : StrBuf (w.alloc o) base v zs := World.ownsRow.alloc h o
theorem StrBuf.lit (w : World) (base : Nat) (zs : List ByteArray) (h : base ≤ w.heap.size) (hl : zs.length ≤ maxLen) : StrBuf (w.alloc (.cells (zs.map Value.string).toArray 9)) base (.slice (some ⟨w.heap.size, 0, none⟩) zs.length zs.length) zs := by
  have := World.ownsRow_lit (base := base) (e := 9) (size := 1) w (zs.map Value.string).toArray zs.length h hl (by simp)
  simpa [StrBuf] using this
theorem StrBuf.slice {w : World} {base : Nat} {v : Value} {zs : List ByteArray} (h : StrBuf w base v zs) : ∃ a cap, v = .slice a zs.length cap := own_slice h
theorem StrBuf.own_lt {w : World} {base : Nat} {v : Value} {zs : List ByteArray} (h : StrBuf w base v zs) : ∀ j, v.ownBlock = some j → base ≤ j ∧ j < w.heap.size := fun j hj => World.ownsRow.lt h j hj
theorem StrBuf.below {w w' : World} {base B : Nat} {v : Value} {zs : List ByteArray} (h : StrBuf w base v zs) (hb : Below B w w') (hB : ∀ j, v.ownBlock = some j → j < B) : StrBuf w' base v zs := by
  refine ⟨h.1, ?_⟩
  rcases h.2 with h | ⟨g, cap, cur, e, hg, hgg, r⟩
  · exact .inl h
  · refine .inr ⟨g, cap, cur, e, hg, ?_, r⟩
    rw [hb.block g (hB g (by rw [e]; rfl))]; exact hgg
theorem StrBuf.later {w w' : World} {base : Nat} {v : Value} {zs : List ByteArray} (h : StrBuf w base v zs) (hb : Below w.heap.size w w') : StrBuf w' base v zs := h.below hb fun j hj => (h.own_lt j hj).2
theorem StrBuf.strs {w : World} {base : Nat} {v : Value} {zs : List ByteArray} (h : StrBuf w base v zs) : ∃ a cap, v = .slice a zs.length cap ∧ StrsAt w a zs := by
  rcases h.2 with ⟨rfl, h0⟩ | ⟨g, cap, cur, rfl, hg⟩
  · exact ⟨none, 0, by rw [h0], fun i hi => by omega⟩
  · refine ⟨some ⟨g, 0, none⟩, cap, rfl, fun i hi => ⟨g, 0, rfl, ?_⟩⟩
    have := World.ownsRow.cellAt h i (by omega)
    rw [Nat.zero_add, this]
    simp [hi]

theorem wp_appStr (w : World) {ops : Array Oper} {rest : List Oper} {o : Oper} {a : Act} {Q : Exit → Act → World → Prop} (hgd : o.guard = none) (s x : Operand)
    (ho : o.op = .call { callee := .builtin .append, args := #[s, x], argTypes := #[34, 34] }) (base g : Nat) (v : Value) (zs : List ByteArray) (c : ByteArray) (hs : a.eval s = v)
    (hown : StrBuf w base v zs) (hx : a.eval x = .slice (some ⟨g, 0, none⟩) 1 1) (hc0 : w.cell? ⟨g, 0, none⟩ = some (.string c)) (hbase : base ≤ w.heap.size) (hl : zs.length ≤ 1000000000)
    (h : ∀ v' w', StrBuf w' base v' (zs ++ [c]) → Below base w w' → wpList Tryd.prog ops Q rest (a.put o.dst v') w') : wpList Tryd.prog ops Q (o :: rest) a w := by
  obtain ⟨i0, hi, hz0, hz1, hz2⟩ := info_parts infoSt
  refine wpList_append_own _ hgd s x 34 ho base 9 i0 (.string ⟨#[]⟩) 1 16 Tryd.underlying34 hi hz0 hz1 hz2 rfl (by decide) _ _ _ hs hown ⟨g, 0, none⟩ 1 1 [.string c] hx rfl ?_ ?_ (by unfold maxLen; omega) (by omega) hbase ?_
  · intro j u' hj
    match j, hj with
    | 0, hj => simp at hj; subst hj; simpa [Addr.add] using hc0
    | j + 1, hj => simp at hj
  · intro u' hu'
    simp at hu'
    subst hu'
    rfl
  · intro v' w' hown' hgrow _
    rw [show zs.map Value.string ++ [.string c] = (zs ++ [c]).map Value.string by simp, show zs.length + 1 = (zs ++ [c]).length by simp] at hown'
    exact h v' w' hown' ((Below.refl _ _).grown hgrow hbase (fun j hj => (World.ownsRow.lt hown j hj).1))

theorem StrBuf.set {w : World} {base g n cap i : Nat} {us : List ByteArray} (h : StrBuf w base (.slice (some ⟨g, 0, none⟩) n cap) us) (hi : i < us.length) (z : ByteArray) : StrBuf (w.setCell ⟨g, i, none⟩ (.string z)) base (.slice (some ⟨g, 0, none⟩) n cap) (us.set i z) := by
  refine ⟨by simp, ?_⟩
  rcases h.2 with ⟨e, _⟩ | ⟨g', cap', cur, e, hg, hgg, hn, hm, hs, ht⟩
  · cases e
  · simp at e
    obtain ⟨rfl, rfl, rfl⟩ := e
    refine .inr ⟨g, cap, cur.setIfInBounds i (.string z), by simp, hg, block_setCell hgg _, by simpa using hn, hm, by simpa using hs, ?_⟩
    rw [List.length_set, Array.toList_setIfInBounds, List.take_set, ht, List.map_set]
theorem StrBuf.free {w : World} {base g n cap : Nat} {us : List ByteArray} (h : StrBuf w base (.slice (some ⟨g, 0, none⟩) n cap) us) (i : Nat) : w.frozen? ⟨g, i, none⟩ = false := by
  rcases h.2 with ⟨e, _⟩ | ⟨g', cap', cur, e, hg, hgg, _⟩
  · cases e
  · simp at e
    obtain ⟨rfl, rfl, rfl⟩ := e
    exact unfrozen_of_block hgg i
theorem StrBuf.get {w : World} {base g n cap : Nat} {us : List ByteArray} (h : StrBuf w base (.slice (some ⟨g, 0, none⟩) n cap) us) (i : Nat) (hi : i < us.length) : w.cell? ⟨g, i, none⟩ = some (.string us[i]) := by
  have e : n = us.length := by
    obtain ⟨a, c, e⟩ := h.slice
    simp at e
    exact e.2.1
  subst e
  rw [World.ownsRow.cellAt h i (by omega)]
  simp [hi]
theorem StrBuf.touch {B E base : Nat} {w w' : World} {v : Value} {zs : List ByteArray} (h : StrBuf w base v zs) (ht : Touch B E w w') (hE : E ≤ base) : StrBuf w' base v zs := by
  refine ⟨h.1, ?_⟩
  rcases h.2 with h' | ⟨g, cap, cur, e, hg, hgg, r⟩
  · exact .inl h'
  · exact .inr ⟨g, cap, cur, e, hg, by rw [ht.2 g (by omega) (Array.getElem?_eq_some_iff.1 hgg).1]; exact hgg, r⟩
theorem StrBuf.opened {w : World} {base n cap : Nat} {a : Option Addr} {zs : List ByteArray} (h : StrBuf w base (.slice a n cap) zs) (h0 : 0 < zs.length) : ∃ g, a = some ⟨g, 0, none⟩ ∧ base ≤ g ∧ g < w.heap.size := by
  rcases h.2 with ⟨h', _⟩ | ⟨g, cap', cur, e, hg, hgg, r⟩
  · omega
  · injection e with e1 _ _
    exact ⟨g, e1, hg, (Array.getElem?_eq_some_iff.1 hgg).1⟩

/-- the text of mark k -/
def mkS (k : Nat) : ByteArray := ⟨(109 :: Lib.decDigits k).toArray⟩
theorem decS_small {n : Nat} (h : n < 10) : Lib.decDigits n = [UInt8.ofNat (48 + n)] := by
  rw [Lib.decDigits, dif_pos h]
theorem decS_great {n : Nat} (h : ¬ n < 10) : Lib.decDigits n = Lib.decDigits (n / 10) ++ [UInt8.ofNat (48 + n % 10)] := by
  rw [Lib.decDigits, dif_neg h]
/-- so far: what is left, and the digits made -/
def MarkS (k n : Nat) (o : ByteArray) : Prop := (n = 0 → o.data.toList = Lib.decDigits k) ∧ (0 < n → Lib.decDigits n ++ o.data.toList = Lib.decDigits k)
theorem MarkS.next {k n : Nat} {o : ByteArray} (h : MarkS k n o) (h0 : 0 < n) : MarkS k (n / 10) (⟨#[UInt8.ofNat (48 + n % 10)]⟩ ++ o) := by
  have h1 := h.2 h0
  have e : (⟨#[UInt8.ofNat (48 + n % 10)]⟩ ++ o : ByteArray).data.toList = UInt8.ofNat (48 + n % 10) :: o.data.toList := by simp
  by_cases h10 : n < 10
  · have hd : Lib.decDigits n = [UInt8.ofNat (48 + n % 10)] := by rw [decS_small h10, Nat.mod_eq_of_lt h10]
    refine ⟨fun _ => ?_, fun h => by omega⟩
    rw [e, ← h1, hd]; rfl
  · have hd := decS_great h10
    refine ⟨fun h => by omega, fun _ => ?_⟩
    rw [e, ← h1, hd, List.append_assoc]; rfl
theorem MarkS.done {k : Nat} {o : ByteArray} (h : MarkS k 0 o) : (⟨#[109]⟩ ++ o : ByteArray) = mkS k := by
  have := h.1 rfl
  unfold mkS
  rw [← this]
  apply ByteArray.ext
  simp
theorem ret_st {a b : ByteArray} (h : a = b) : Ending.returned (.string a) = .returned (.string b) := by rw [h]

set_option maxHeartbeats 2000000 in
set_option maxRecDepth 100000 in
theorem markText_is (z : Int) (w : World) (h0 : 1 ≤ z) (h1 : z ≤ 9223372036854775807) :
    Calls Tryd.prog 76 #[.int .i64 z] w fun e w' => e = .returned (.string (mkS z.toNat)) ∧ Below w.heap.size w w' := by
  have hz : ¬ z ≤ 0 := by omega
  have hst : Hid (RoomAt z.toNat 0) := hide (RoomAt.start h0 h1)
  have hmt : Hid (MarkS z.toNat z.toNat ⟨#[]⟩) := hide ⟨fun h => by omega, fun _ => by simp⟩
  go_enter Tryd.func76, Tryd.ntmps76
  go_wp2
  go_loopw [0, 3] (fun m o wx => ∃ (n : Nat) (t : ByteArray), n ≤ 9223372036854775807 ∧ m = .int .i64 (n : Int) ∧ o = .string t ∧ Hid (RoomAt n t.size) ∧ Hid (MarkS z.toNat n t) ∧ Below w.heap.size w wx) (fun m _ _ => (intOf m).toNat)
  case atStart => exact ⟨z.toNat, ⟨#[]⟩, by omega, by rw [Int.toNat_of_nonneg (by omega)], rfl, hide (unhide hst), hide (unhide hmt), Below.refl _ _⟩
  case round =>
    clear hst hz hmt
    obtain ⟨n, t, hn, rfl, rfl, hin, hmk, hnx⟩ := hrel
    have hts : t.size ≤ 19 := (unhide hin).1
    by_cases hp : 0 < n
    · have hp' : (0 : Int) < (n : Int) := by omega
      have hd := hide ((unhide hin).next hp)
      have hm2 := hide ((unhide hmk).next hp)
      obtain ⟨r, hr⟩ : ∃ r, r = n % 10 := ⟨_, rfl⟩
      obtain ⟨q, hq⟩ : ∃ q, q = n / 10 := ⟨_, rfl⟩
      rw [← hq] at hd
      rw [← hr, ← hq] at hm2
      have hr9 : r ≤ 9 := by omega
      have hqn : q < n := by omega
      have hrm : (n : Int).tmod 10 = (r : Int) := by rw [Int.tmod_eq_emod_of_nonneg (by omega)]; omega
      have hqd : (n : Int).tdiv 10 = (q : Int) := by rw [Int.tdiv_eq_ediv_of_nonneg (by omega)]; omega
      have hw2 : IntKind.u8.wrap (48 + (r : Int)) = 48 + (r : Int) := by unfold IntKind.wrap; simp [IntKind.bits, IntKind.signed]; omega
      have hcv : ∀ u : World, (convert 22 9 (.slice (some ⟨u.heap.size, 0, none⟩) 1 1)).run Tryd.prog (u.alloc (.cells #[.int .u8 (48 + (r : Int))] 5)) = .ok (.string ⟨#[UInt8.ofNat (48 + r)]⟩) (u.alloc (.cells #[.int .u8 (48 + (r : Int))] 5)) := fun u => by
        rw [convM u (48 + (r : Int)) (by omega) (by omega), show (48 + (r : Int)).toNat = 48 + r by omega]
      have hzz : (⟨#[UInt8.ofNat (48 + r)]⟩ : ByteArray).size = 1 := rfl
      generalize (⟨#[UInt8.ofNat (48 + r)]⟩ : ByteArray) = D at hcv hzz hm2
      have hsz : (D ++ t).size = 1 + t.size := by rw [ByteArray.size_append, hzz]
      rw [← hsz] at hd
      clear hr hq hsz
      go_wp2
      go_roundw
      case rel => exact ⟨q, _, by omega, rfl, rfl, hide (unhide hd), hide (unhide hm2), nx_al hnx⟩
      case measure => simp [intOf]; omega
    · have hp' : ¬ (0 : Int) < (n : Int) := by omega
      obtain rfl : n = 0 := by omega
      have hd := hide ((unhide hmk).done)
      have hzz : (⟨#[109]⟩ : ByteArray).size = 1 := rfl
      go_wp2
      go_ret
      exact ⟨ret_st (unhide hd), hnx⟩

/-- the marks from 1 on -/
def marksS (n : Nat) : List ByteArray := (List.range n).map fun i : Nat => mkS (1 + (i : Int)).toNat
theorem marksS_len (n : Nat) : (marksS n).length = n := by simp [marksS]
theorem marksS_get (n i : Nat) (h : i < (marksS n).length) : (marksS n)[i] = mkS (1 + (i : Int)).toNat := by simp [marksS]
def mixS (zs : List ByteArray) (k : Nat) : List ByteArray := marksS k ++ zs.drop k
theorem mixS_len (zs : List ByteArray) (k : Nat) (h : k ≤ zs.length) : (mixS zs k).length = zs.length := by
  unfold mixS; rw [List.length_append, marksS_len, List.length_drop]; omega
theorem mixS_zero (zs : List ByteArray) : mixS zs 0 = zs := by simp [mixS, marksS]
theorem mixS_all (zs : List ByteArray) : mixS zs zs.length = marksS zs.length := by simp [mixS]
theorem mixS_set (zs : List ByteArray) (k : Nat) (h : k < zs.length) : (mixS zs k).set k (mkS (1 + (k : Int)).toNat) = mixS zs (k + 1) := by
  unfold mixS
  rw [List.set_append_right _ _ (by rw [marksS_len]; omega), marksS_len, Nat.sub_self, List.drop_eq_getElem_cons h, List.set_cons_zero]
  simp [marksS, List.range_succ]

set_option maxHeartbeats 2000000 in
set_option maxRecDepth 100000 in
theorem markStringS_buf (base : Nat) (a : Option Addr) (cap : Nat) (zs : List ByteArray) (w : World) (hI : StrBuf w base (.slice a zs.length cap) zs) (hn : zs.length ≤ 1048576) :
    Calls Tryd.prog 42 #[.slice a zs.length cap, .int .i64 1] w fun e w' => e = .returned (.int .i64 (1 + (zs.length : Int))) ∧ StrBuf w' base (.slice a zs.length cap) (marksS zs.length) ∧ Below base w w' := by
  have HM := hide hI
  clear hI
  go_enter Tryd.func42, Tryd.ntmps42
  go_wp2
  go_loopw [1, 5] (fun m i wx => ∃ k : Nat, k ≤ zs.length ∧ i = .int .i64 k ∧ m = .int .i64 (1 + (k : Int)) ∧ Hid (StrBuf wx base (.slice a zs.length cap) (mixS zs k)) ∧ Hid (Below base w wx)) (fun _ i _ => zs.length - (intOf i).toNat)
  case atStart => exact ⟨0, by omega, rfl, by simp, hide (by rw [mixS_zero]; exact unhide HM), hide (Below.refl _ _)⟩
  case round =>
    clear HM
    obtain ⟨k, hk, rfl, rfl, hM, hT⟩ := hrel
    by_cases hlt : k < zs.length
    · have hml := mixS_len zs k hk
      obtain ⟨g, rfl, hgb, hgl⟩ := (unhide hM).opened (by omega)
      go_wp2_with fail
      refine (markText_is (1 + (k : Int)) _ (by omega) (by omega)).mono ?_
      rintro e w1 ⟨rfl, hb1⟩
      have hM1 := hide ((unhide hM).later hb1)
      have HM2 : Hid (StrBuf (w1.setCell ⟨g, k, none⟩ (.string (mkS (1 + (k : Int)).toNat))) base (.slice (some ⟨g, 0, none⟩) zs.length cap) (mixS zs (k + 1))) := hide (by
        have := (unhide hM1).set (i := k) (by omega) (mkS (1 + (k : Int)).toNat)
        rw [mixS_set zs k hlt] at this
        exact this)
      have HT2 : Hid (Below base w (w1.setCell ⟨g, k, none⟩ (.string (mkS (1 + (k : Int)).toNat)))) := hide (((unhide hT).trans (hb1.mono (by omega))).setCell hgb _)
      have c0 := (unhide hM1).get k (by omega)
      have f0 := (unhide hM1).free k
      clear hM hT hM1 hb1
      generalize (mixS zs k)[k] = u0 at c0
      generalize mkS (1 + (k : Int)).toNat = mk at HM2 HT2
      go_wp2
      go_roundw
      case rel => exact ⟨k + 1, by omega, by go_num, int_eq (by omega), HM2, HT2⟩
      case measure => simp [intOf]; omega
    · obtain rfl : k = zs.length := by omega
      have HM2 : Hid (StrBuf wr base (.slice a zs.length cap) (marksS zs.length)) := hide (by rw [← mixS_all]; exact unhide hM)
      clear hM
      go_wp2
      go_ret
      exact ⟨rfl, unhide HM2, unhide hT⟩

set_option maxHeartbeats 2000000 in
set_option maxRecDepth 100000 in
theorem heldStringS_at (a : Option Addr) (n cap : Nat) (w : World) (hI : StrsAt w a (marksS n)) (hn : n ≤ 1048576) :
    Calls Tryd.prog 43 #[.slice a n cap, .int .i64 1] w fun e w' => e = .returned (.int .i64 (1 + (n : Int))) ∧ Below w.heap.size w w' := by
  have HM := hide hI
  clear hI
  go_enter Tryd.func43, Tryd.ntmps43
  go_wp2
  go_loopw [1, 5] (fun m i wx => ∃ k : Nat, k ≤ n ∧ i = .int .i64 k ∧ m = .int .i64 (1 + (k : Int)) ∧ Hid (Below w.heap.size w wx)) (fun _ i _ => n - (intOf i).toNat)
  case atStart => exact ⟨0, by omega, rfl, by simp, hide (Below.refl _ _)⟩
  case round =>
    obtain ⟨k, hk, rfl, rfl, hB⟩ := hrel
    by_cases hlt : k < n
    · obtain ⟨b, off, rfl, c0⟩ := (unhide HM).later (unhide hB) k (by rw [marksS_len]; exact hlt)
      rw [marksS_get] at c0
      have HC := hide (markText_is (1 + (k : Int)) wr.drew (by omega) (by omega))
      generalize mkS (1 + (k : Int)).toNat = mk at c0 HC
      have D0 := hide (show wr.drew.cell? ⟨b, off + k, none⟩ = some (.string mk) from c0)
      have e1 : (mk != mk) = false := ba_nself mk
      have e2 : (mk == mk) = true := ba_self mk
      go_wp2
      go_region_held3 (fun x => x.cell? ⟨b, off + k, none⟩ = some (.string mk)) (go_keep) ((go_at_call 76; refine (unhide HC).mono ?_; rintro e y ⟨rfl, hby⟩; have z0 := cell_later hby (unhide D0); have HBY := hide hby; clear hby))
      all_goals go_wp2
      all_goals (go_roundw; (case rel => exact ⟨k + 1, by omega, by go_num, int_eq (by omega), hide (nx_trans (nx_drew (unhide hB)) (unhide HBY))⟩); (case measure => simp [intOf]; omega))
    · obtain rfl : k = n := by omega
      go_wp2
      go_ret
      exact ⟨rfl, unhide hB⟩

theorem MadR.lat {w w' : World} {L : Lay} {ns : List TN} {B E : Nat} (h : MadR w L ns B E) (hE : E ≤ w.heap.size) (hb : Below w.heap.size w w') : MadR w' L ns B E := by
  obtain ⟨g, e, h1, h2, h3⟩ := h.row
  refine ⟨⟨g, e, h1, h2, h3.same (hb.block g (by omega))⟩, h.nodes.later hb, fun i hi => ?_⟩
  obtain ⟨g1, g2, a, a1, a2, a3, b, b1, b2, b3⟩ := h.parts i hi
  exact ⟨g1, g2, a, a1, a2, a3.later hb, b, b1, b2, b3.later hb⟩


end Go.Proofs.YtbipgmikgokfpaaDoor

/- ScopeWalk -/
namespace Go.Proofs.YtbipgmikgokfpaaDoor
open Go.RowKit Go.Joins
set_option linter.unusedVariables false

theorem TreeP.over {ns : List TN} {root : Int} {l : List Nat} {d a : Nat} (h : TreeP ns root l d) (ha : a < ns.length) (hr : (a : Int) ≠ root) : ∃ x ∈ l, Par ns x a := by
  obtain ⟨j, hj, ps, hu, _⟩ := h.2.1.1.up a (h.2.2.2 a ha)
  rw [List.mem_singleton] at hj
  subst hj
  cases hu with
  | here _ => exact absurd (Int.toNat_of_nonneg h.root.1) hr
  | step x _ ps hx _ hp _ => exact ⟨x, hx, hp⟩
theorem StrBuf.low {w : World} {base base' : Nat} {v : Value} {zs : List ByteArray} (h : StrBuf w base v zs) (hb : base' ≤ base) : StrBuf w base' v zs := ownsRow_le h hb
/-- texts put behind texts -/
theorem wp_appStrs (w : World) {ops : Array Oper} {rest : List Oper} {o : Oper} {a : Act} {Q : Exit → Act → World → Prop} (hgd : o.guard = none) (s x : Operand)
    (ho : o.op = .call { callee := .builtin .append, args := #[s, x], argTypes := #[34, 34] }) (base g off m c : Nat) (v : Value) (zs ys : List ByteArray) (hs : a.eval s = v)
    (hown : StrBuf w base v zs) (hx : a.eval x = .slice (some ⟨g, off, none⟩) m c) (hm : m = ys.length) (hc0 : ∀ i (h : i < ys.length), w.cell? ⟨g, off + i, none⟩ = some (.string ys[i])) (hbase : base ≤ w.heap.size) (hl : zs.length + ys.length ≤ 1000000000)
    (h : ∀ v' w', StrBuf w' base v' (zs ++ ys) → Below base w w' → wpList Tryd.prog ops Q rest (a.put o.dst v') w') : wpList Tryd.prog ops Q (o :: rest) a w := by
  subst hm
  obtain ⟨i0, hi, hz0, hz1, hz2⟩ := info_parts infoSt
  refine wpList_append_own _ hgd s x 34 ho base 9 i0 (.string ⟨#[]⟩) 1 16 Tryd.underlying34 hi hz0 hz1 hz2 rfl (by decide) _ _ _ hs hown ⟨g, off, none⟩ ys.length c (ys.map Value.string) hx (by simp) ?_ ?_ (by unfold maxLen; omega) (by omega) hbase ?_
  · intro j u' hj
    rw [List.getElem?_map] at hj
    obtain ⟨z, hz, rfl⟩ := Option.map_eq_some_iff.1 hj
    obtain ⟨hjl, rfl⟩ := List.getElem?_eq_some_iff.1 hz
    have := hc0 j hjl
    rw [Addr.add_lit]
    exact this
  · intro u' hu'
    obtain ⟨z, _, rfl⟩ := List.mem_map.1 hu'
    rfl
  · intro v' w' hown' hgrow _
    rw [← List.map_append, show zs.length + ys.length = (zs ++ ys).length by simp] at hown'
    exact h v' w' hown' ((Below.refl _ _).grown hgrow hbase (fun j hj => (World.ownsRow.lt hown j hj).1))
/-- .. out of a row of one's own -/
theorem wp_appBuf (w : World) {ops : Array Oper} {rest : List Oper} {o : Oper} {a : Act} {Q : Exit → Act → World → Prop} (hgd : o.guard = none) (s x : Operand)
    (ho : o.op = .call { callee := .builtin .append, args := #[s, x], argTypes := #[34, 34] }) (base base2 : Nat) (v v2 : Value) (zs ys : List ByteArray) (hs : a.eval s = v)
    (hown : StrBuf w base v zs) (hx : a.eval x = v2) (hsrc : StrBuf w base2 v2 ys) (hbase : base ≤ w.heap.size) (hl : zs.length + ys.length ≤ 1000000000)
    (h : ∀ v' w', StrBuf w' base v' (zs ++ ys) → Below base w w' → wpList Tryd.prog ops Q rest (a.put o.dst v') w') : wpList Tryd.prog ops Q (o :: rest) a w := by
  have hs2 := hsrc
  rcases hsrc.2 with ⟨h1, h0⟩ | ⟨g, cap, cur, e, hg, hgg, r⟩
  · subst h1
    have hy : ys = [] := List.length_eq_zero_iff.1 h0
    subst hy
    obtain ⟨i0, hi, hz0, hz1, hz2⟩ := info_parts infoSt
    refine wpList_append_own_none hgd s x 34 ho base 9 i0 1 Tryd.underlying34 hi v _ _ hs hown hx ?_
    exact h v w (by rw [List.append_nil]; exact hown) (Below.refl _ _)
  · subst e
    refine wp_appStrs w hgd s x ho base g 0 ys.length cap v zs ys hs hown hx rfl (fun i hi => ?_) hbase hl h
    rw [Nat.zero_add]
    exact hs2.get i hi

def pathB : ByteArray := ⟨#[112, 97, 116, 104]⟩
/-- k is a function, or the outmost block -/
def UnitAt (ns : List TN) (root k : Int) : Prop := ∃ n, 0 ≤ k ∧ ns[k.toNat]? = some n ∧ (n.k = 20 ∨ k = root)
def UnitPost (ns : List TN) (root : Int) (L : Lay) (k : Int) (w : World) (e : Ending) (w' : World) : Prop :=
  Below w.heap.size w w' ∧ ((e = .returned (.tuple #[.pointer none, .int .i64 1]) ∧ ¬ TreeOkP ns root) ∨ (e = .returned (.tuple #[.pointer none, .int .i64 13]) ∧ TreeOkP ns root ∧ ¬ UnitAt ns root k) ∨
    ∃ (G B : Nat) (loc : Nat → Nat) (l : List Nat) (d x : Nat) (n : TN), TreeP ns root l d ∧ Grown w' G B L ns root loc l ∧ k = (x : Int) ∧ ns[x]? = some n ∧ (n.k = 20 ∨ k = root) ∧ e = .returned (.tuple #[.pointer (some ⟨loc x, 0, none⟩), .int .i64 0]))

set_option maxHeartbeats 1000000 in
set_option maxRecDepth 100000 in
theorem unitOf_any (ns : List TN) (root k : Int) (L : Lay) (w : World) (hN : NodesAt w L ns) (hsm : Small ns) (htab : Hid (TabAt w 0 srcWords)) :
    Calls Tryd.prog 78 #[.agg #[.slice L.p ns.length L.cap, .int .i64 root], .int .i64 k] w (UnitPost ns root L k w) := by
  have HN := hide hN
  have HS := hide hsm
  clear hN hsm
  by_cases hk : 0 ≤ k ∧ k < ns.length
  · obtain ⟨a, rfl⟩ : ∃ a : Nat, k = (a : Int) := ⟨k.toNat, by omega⟩
    go_enter Tryd.func78, Tryd.ntmps78
    go_wp2_with fail
    refine (branchOf_in ns root a L _ ((unhide HN).later (nx_alloc _ _)) (unhide HS) (hide ((unhide htab).later (nx_alloc _ _))) (by omega)).mono ?_
    rintro e w1 ⟨hb, hres⟩
    have hB := hide (nx_trans (nx_alloc _ _) hb)
    clear hb
    rcases hres with ⟨rfl, hno⟩ | ⟨G, B, loc, l, d, hT, hG, x, rfl, rfl⟩
    · have hD := hide hno
      clear hno
      go_wp2
      go_ret2
      exact ⟨unhide hB, .inl ⟨rfl, unhide hD⟩⟩
    · have hx : x < ns.length := by omega
      obtain ⟨n, pb, cb, hn, _, c0, _⟩ := hG.br x (hT.2.2.2 x hx)
      by_cases h20 : n.k = 20
      · have hD : Hid (UnitPost ns root L (x : Int) w (.returned (.tuple #[.pointer (some ⟨loc x, 0, none⟩), .int .i64 0])) w1) := hide ⟨unhide hB, .inr (.inr ⟨G, B, loc, l, d, x, n, hT, hG, rfl, hn, .inl h20, rfl⟩)⟩
        rw [h20] at c0
        clear hT hG h20 hn
        generalize loc x = gx at c0 hD
        go_wp2
        go_ret2
        exact unhide hD
      have e20 : (n.k != 20) = true := by simp [h20]
      by_cases hr : (x : Int) = root
      · have c6 := hG.top
        rw [← hr, Int.toNat_natCast] at c6
        have hD : Hid (UnitPost ns root L (x : Int) w (.returned (.tuple #[.pointer (some ⟨loc x, 0, none⟩), .int .i64 0])) w1) := hide ⟨unhide hB, .inr (.inr ⟨G, B, loc, l, d, x, n, hT, hG, rfl, hn, .inr hr, rfl⟩)⟩
        clear hT hG hr h20 hn
        generalize loc x = gx at c0 c6 hD
        go_wp2
        go_ret2
        exact unhide hD
      · obtain ⟨p, hpl, hp⟩ := hT.over (a := x) hx hr
        have hD : Hid (UnitPost ns root L (x : Int) w (.returned (.tuple #[.pointer none, .int .i64 13])) w1) := hide ⟨unhide hB, .inr (.inl ⟨rfl, ⟨l, d, hT⟩, fun ⟨n', _, hn', h'⟩ => by
          rw [Int.toNat_natCast, hn] at hn'
          obtain rfl := Option.some.inj hn'
          rcases h' with h' | h'
          · exact h20 h'
          · exact hr h'⟩)⟩
        obtain ⟨n2, _, _, hn2, _, _, _, _, _, _, _, _, _, hkid⟩ := hG.br p hpl
        obtain ⟨n', hn', j, hj, _, hjx⟩ := hp
        rw [hn2] at hn'
        obtain rfl := Option.some.inj hn'
        have c6 := (hkid j hj).2.2
        rw [hjx] at c6
        clear hT hG hr hkid hn hj hjx hpl hn2 h20
        generalize loc x = gx at c0 c6
        generalize loc p = gp at c6
        go_wp2
        go_ret2
        exact unhide hD
  · have HK : Hid (¬ UnitAt ns root k) := hide (fun ⟨n, h0, hn, _⟩ => hk (by
      have := (List.getElem?_eq_some_iff.1 hn).1
      omega))
    go_enter Tryd.func78, Tryd.ntmps78
    go_wp2_with fail
    refine (branchOf_out ns root k L _ ((unhide HN).later (nx_alloc _ _)) (unhide HS) (hide ((unhide htab).later (nx_alloc _ _))) hk).mono ?_
    rintro e w1 ⟨hb, hres⟩
    have hB := hide (nx_trans (nx_alloc _ _) hb)
    clear hb hk
    rcases hres with ⟨rfl, hno⟩ | ⟨rfl, hok⟩
    · have hD := hide hno
      clear hno
      go_wp2
      go_ret2
      exact ⟨unhide hB, .inl ⟨rfl, unhide hD⟩⟩
    · have hD := hide hok
      clear hok
      go_wp2
      go_ret2
      exact ⟨unhide hB, .inr (.inl ⟨rfl, unhide hD, unhide HK⟩)⟩

/-- what is answered -/
def ScopeAtRes (ns : List TN) (root k : Int) (zs : List ByteArray) (c : Int) : Prop := (¬ TreeOkP ns root ∧ zs = [] ∧ c = 1) ∨ (TreeOkP ns root ∧ ¬ UnitAt ns root k ∧ zs = [] ∧ c = 13) ∨ (TreeOkP ns root ∧ (∃ n, 0 ≤ k ∧ ns[k.toNat]? = some n ∧ (n.k = 20 ∨ k = root) ∧ zs = (if n.k = 20 then n.names else [pathB]) ∧ zs.length ≤ 1048576) ∧ c = 0)
theorem ScopeAtRes.det {ns : List TN} {root k : Int} {zs zs' : List ByteArray} {c c' : Int} (h : ScopeAtRes ns root k zs c) (h' : ScopeAtRes ns root k zs' c') : zs = zs' ∧ c = c' := by
  rcases h with ⟨h1, rfl, rfl⟩ | ⟨h1, h2, rfl, rfl⟩ | ⟨h1, ⟨n, a1, a2, a3, a4, a5⟩, rfl⟩ <;> rcases h' with ⟨g1, rfl, rfl⟩ | ⟨g1, g2, rfl, rfl⟩ | ⟨g1, ⟨n', b1, b2, b3, b4, b5⟩, rfl⟩
  all_goals first | exact ⟨rfl, rfl⟩ | exact absurd h1 g1 | exact absurd g1 h1 | exact absurd ⟨_, a1, a2, a3⟩ g2 | exact absurd ⟨_, b1, b2, b3⟩ h2 | skip
  rw [a2] at b2
  obtain rfl := Option.some.inj b2
  exact ⟨a4.trans b4.symm, rfl⟩
theorem ScopeAtRes.len {ns : List TN} {root k : Int} {zs : List ByteArray} {c : Int} (h : ScopeAtRes ns root k zs c) : zs.length ≤ 1048576 := by
  rcases h with ⟨h1, rfl, rfl⟩ | ⟨h1, h2, rfl, rfl⟩ | ⟨h1, ⟨n, a1, a2, a3, a4, a5⟩, rfl⟩
  · simp
  · simp
  · exact a5
/-- rows of names that lie somewhere -/
def NamesIn (L : Lay) (n : Nat) : Prop := ∀ i, i < n → ∃ g o, L.pn i = some ⟨g, o, none⟩
theorem MadR.namesIn {w : World} {L : Lay} {ns : List TN} {B E : Nat} (h : MadR w L ns B E) : NamesIn L ns.length := fun i hi => by
  obtain ⟨g1, _, e, _⟩ := h.parts i hi
  exact ⟨g1, 0, e⟩

set_option maxRecDepth 100000 in
theorem namesAhead_fun (gx g off c : Nat) (ys : List ByteArray) (w : World) (c0 : w.cell? ⟨gx, 0, none⟩ = some (.int .i64 20)) (c3 : w.cell? ⟨gx, 3, none⟩ = some (.slice (some ⟨g, off, none⟩) ys.length c)) (hy : ∀ i (h : i < ys.length), w.cell? ⟨g, off + i, none⟩ = some (.string ys[i])) (hl : ys.length ≤ 1048576) :
    Calls Tryd.prog 79 #[.pointer (some ⟨gx, 0, none⟩)] w fun e w' => ∃ v, e = .returned v ∧ StrBuf w' w.heap.size v ys ∧ Below w.heap.size w w' := by
  have HY := hide hy
  clear hy
  go_enter Tryd.func79, Tryd.ntmps79
  go_wp2_with (at_builtin; refine wp_appStrs _ rfl _ _ rfl w.heap.size g off ys.length c _ [] ys rfl (StrBuf.nil _ _) rfl rfl (unhide HY) (Nat.le_refl _) (by simp; omega) ?_)
  intro v' w' hS hb
  have HS := hide hS
  clear hS
  go_wp2
  go_ret
  exact ⟨v', rfl, unhide HS, hb⟩
set_option maxRecDepth 100000 in
theorem namesAhead_top (gx : Nat) (k : Int) (w : World) (c0 : w.cell? ⟨gx, 0, none⟩ = some (.int .i64 k)) (hk : (k == 20) = false) :
    Calls Tryd.prog 79 #[.pointer (some ⟨gx, 0, none⟩)] w fun e w' => ∃ v, e = .returned v ∧ StrBuf w' w.heap.size v [pathB] ∧ Below w.heap.size w w' := by
  have HS := hide (StrBuf.lit w w.heap.size [pathB] (Nat.le_refl _) (by decide))
  go_enter Tryd.func79, Tryd.ntmps79
  go_wp2
  go_ret
  exact ⟨_, rfl, by simpa [pathB] using unhide HS, nx_alloc _ _⟩

set_option maxHeartbeats 1000000 in
set_option maxRecDepth 100000 in
theorem implScopeAt_any (ns : List TN) (root k : Int) (L : Lay) (w : World) (hN : NodesAt w L ns) (hsm : Small ns) (hni : NamesIn L ns.length) (htab : Hid (TabAt w 0 srcWords)) :
    Calls Tryd.prog 45 #[.agg #[.slice L.p ns.length L.cap, .int .i64 root], .int .i64 k] w fun e w' => ∃ v zs c, e = .returned (.tuple #[v, .int .i64 c]) ∧ ScopeAtRes ns root k zs c ∧ StrBuf w' w.heap.size v zs ∧ Below w.heap.size w w' := by
  have HN := hide hN
  have HS := hide hsm
  have HI := hide hni
  clear hN hsm hni
  go_enter Tryd.func45, Tryd.ntmps45
  go_wp2_with fail
  refine (unitOf_any ns root k L _ ((unhide HN).later (nx_alloc _ _)) (unhide HS) (hide ((unhide htab).later (nx_alloc _ _)))).mono ?_
  rintro e w1 ⟨hb, hres⟩
  have hB := hide (nx_trans (nx_alloc _ _) hb)
  have hw1 : w.heap.size < w1.heap.size := by have := hb.size; simp at this; omega
  clear hb
  rcases hres with ⟨rfl, hno⟩ | ⟨rfl, hok, hun⟩ | ⟨G, B, loc, l, d, x, n, hT, hG, rfl, hn, hor, rfl⟩
  · have hD : Hid (ScopeAtRes ns root k [] 1) := hide (.inl ⟨hno, rfl, rfl⟩)
    clear hno
    go_wp2
    go_ret2
    exact ⟨_, [], 1, rfl, unhide hD, StrBuf.nil _ _, unhide hB⟩
  · have hD : Hid (ScopeAtRes ns root k [] 13) := hide (.inr (.inl ⟨hok, hun, rfl, rfl⟩))
    clear hok hun
    go_wp2
    go_ret2
    exact ⟨_, [], 13, rfl, unhide hD, StrBuf.nil _ _, unhide hB⟩
  · have hxn := (List.getElem?_eq_some_iff.1 hn).1
    have hxe := (List.getElem?_eq_some_iff.1 hn).2
    obtain ⟨n', pb, cb, hn', _, c0, _, _, c3, _⟩ := hG.br x (hT.2.2.2 x hxn)
    rw [hn] at hn'
    obtain rfl := Option.some.inj hn'
    have hnl : n.names.length ≤ 1048576 := ((unhide HS).2 n (List.mem_of_getElem? hn)).2.1
    by_cases h20 : n.k = 20
    · have hD : Hid (ScopeAtRes ns root (x : Int) n.names 0) := hide (.inr (.inr ⟨⟨l, d, hT⟩, ⟨n, by omega, by rw [Int.toNat_natCast]; exact hn, hor, by rw [if_pos h20], hnl⟩, rfl⟩))
      obtain ⟨g, o, hpn⟩ := unhide HI x hxn
      have hstr := ((unhide HN).later (unhide hB) x hxn).choose_spec.choose_spec.2.2.2.2.2.2.1
      rw [hxe, hpn] at hstr
      rw [hpn] at c3
      rw [h20] at c0
      have HST : Hid (∀ i (h : i < n.names.length), w1.cell? ⟨g, o + i, none⟩ = some (.string n.names[i])) := hide (fun i hi => by
        obtain ⟨b, off, e, hc⟩ := hstr i hi
        injection e with e
        injection e with e1 e2 _
        subst e1 e2
        exact hc)
      clear hT hG hstr hn hxe h20 hor
      generalize loc x = gx at c0 c3
      go_wp2_with fail
      refine (namesAhead_fun gx g o (L.cn x) n.names w1 c0 c3 (unhide HST) hnl).mono ?_
      rintro e w2 ⟨v, rfl, hS, hb2⟩
      have HS2 : Hid (StrBuf w2 w.heap.size v n.names) := hide (ownsRow_le hS (by omega))
      have hB2 := hide (nx_trans (unhide hB) hb2)
      clear hS hb2
      go_wp2
      go_ret2
      exact ⟨v, _, 0, rfl, unhide hD, unhide HS2, unhide hB2⟩
    · have hD : Hid (ScopeAtRes ns root (x : Int) [pathB] 0) := hide (.inr (.inr ⟨⟨l, d, hT⟩, ⟨n, by omega, by rw [Int.toNat_natCast]; exact hn, hor, by rw [if_neg h20], by simp⟩, rfl⟩))
      have e20 : (n.k == 20) = false := beq_eq_false_iff_ne.2 h20
      clear hT hG hn hxe hor
      generalize loc x = gx at c0 c3
      go_wp2_with fail
      refine (namesAhead_top gx n.k w1 c0 e20).mono ?_
      rintro e w2 ⟨v, rfl, hS, hb2⟩
      have HS2 : Hid (StrBuf w2 w.heap.size v [pathB]) := hide (ownsRow_le hS (by omega))
      have hB2 := hide (nx_trans (unhide hB) hb2)
      clear hS hb2
      go_wp2
      go_ret2
      exact ⟨v, _, 0, rfl, unhide hD, unhide HS2, unhide hB2⟩

theorem cellB {base b o : Nat} {w w' : World} {v : Value} (hb : Below base w w') (hl : b < base) (h : w.cell? ⟨b, o, none⟩ = some v) : w'.cell? ⟨b, o, none⟩ = some v := by
  rw [hb.cell (p := ⟨b, o, none⟩) hl]; exact h
theorem step_appStr (w : World) {ops : Array Oper} {o : Oper} {a : Act} {K : Act → World → Prop} {Q : Exit → Act → World → Prop} {E : Prop} (hgd : o.guard = none) (s x : Operand)
    (ho : o.op = .call { callee := .builtin .append, args := #[s, x], argTypes := #[34, 34] }) (base g : Nat) (v : Value) (zs : List ByteArray) (c : ByteArray) (hs : a.eval s = v)
    (hown : StrBuf w base v zs) (hx : a.eval x = .slice (some ⟨g, 0, none⟩) 1 1) (hc0 : w.cell? ⟨g, 0, none⟩ = some (.string c)) (hbase : base ≤ w.heap.size) (hl : zs.length ≤ 1000000000)
    (h : ∀ v' w', StrBuf w' base v' (zs ++ [c]) → Below base w w' → K (a.put o.dst v') w') : if Region.wanted o (yielded ops a.tmps) = true then Oper.wp Tryd.prog o a w K Q else E := by
  have hw : Region.wanted o (yielded ops a.tmps) = true := by simp [Region.wanted, hgd]
  rw [if_pos hw]
  obtain ⟨i0, hi, hz0, hz1, hz2⟩ := info_parts infoSt
  refine wp_append_own w s x 34 ho base 9 i0 (.string ⟨#[]⟩) 1 16 Tryd.underlying34 hi hz0 hz1 hz2 rfl (by decide) _ _ _ hs hown ⟨g, 0, none⟩ 1 1 [.string c] hx rfl ?_ ?_ (by unfold maxLen; omega) (by omega) hbase ?_
  · intro j u' hj
    match j, hj with
    | 0, hj => simp at hj; subst hj; simpa [Addr.add] using hc0
    | j + 1, hj => simp at hj
  · intro u' hu'
    simp at hu'
    subst hu'
    rfl
  · intro v' w' hown' hgrow _
    rw [show zs.map Value.string ++ [.string c] = (zs ++ [c]).map Value.string by simp, show zs.length + 1 = (zs ++ [c]).length by simp] at hown'
    exact h v' w' hown' ((Below.refl _ _).grown hgrow hbase (fun j hj => (World.ownsRow.lt hown j hj).1))
theorem step_appBuf (w : World) {ops : Array Oper} {o : Oper} {a : Act} {K : Act → World → Prop} {Q : Exit → Act → World → Prop} {E : Prop} (hgd : o.guard = none) (s x : Operand)
    (ho : o.op = .call { callee := .builtin .append, args := #[s, x], argTypes := #[34, 34] }) (base base2 : Nat) (v v2 : Value) (zs ys : List ByteArray) (hs : a.eval s = v)
    (hown : StrBuf w base v zs) (hx : a.eval x = v2) (hsrc : StrBuf w base2 v2 ys) (hbase : base ≤ w.heap.size) (hl : zs.length + ys.length ≤ 1000000000)
    (h : ∀ v' w', StrBuf w' base v' (zs ++ ys) → Below base w w' → K (a.put o.dst v') w') : if Region.wanted o (yielded ops a.tmps) = true then Oper.wp Tryd.prog o a w K Q else E := by
  have hw : Region.wanted o (yielded ops a.tmps) = true := by simp [Region.wanted, hgd]
  rw [if_pos hw]
  obtain ⟨i0, hi, hz0, hz1, hz2⟩ := info_parts infoSt
  have hs2 := hsrc
  rcases hsrc.2 with ⟨h1, h0⟩ | ⟨g, cap, cur, e, hg, hgg, r⟩
  · subst h1
    have hy : ys = [] := List.length_eq_zero_iff.1 h0
    subst hy
    have hrun := run_append_owned_none (P := Tryd.prog) (w := w) base 34 o.type 9 i0 1 Tryd.underlying34 hi v _ _ hown
    unfold Oper.wp
    simp [execOp, ho, resolve, invoke, builtin, hs, hx, hrun, Result.andThen]
    exact h v w (by rw [List.append_nil]; exact hown) (Below.refl _ _)
  · subst e
    refine wp_append_own w s x 34 ho base 9 i0 (.string ⟨#[]⟩) 1 16 Tryd.underlying34 hi hz0 hz1 hz2 rfl (by decide) _ _ _ hs hown ⟨g, 0, none⟩ ys.length cap (ys.map Value.string) hx (by simp) ?_ ?_ (by unfold maxLen; omega) (by omega) hbase ?_
    · intro j u' hj
      rw [List.getElem?_map] at hj
      obtain ⟨z, hz, rfl⟩ := Option.map_eq_some_iff.1 hj
      obtain ⟨hjl, rfl⟩ := List.getElem?_eq_some_iff.1 hz
      have := hs2.get j hjl
      rw [Addr.add_lit]
      simpa using this
    · intro u' hu'
      obtain ⟨z, _, rfl⟩ := List.mem_map.1 hu'
      rfl
    · intro v' w' hown' hgrow _
      rw [← List.map_append, show zs.length + ys.length = (zs ++ ys).length by simp] at hown'
      exact h v' w' hown' ((Below.refl _ _).grown hgrow hbase (fun j hj => (World.ownsRow.lt hown j hj).1))
theorem step_appStrG (w : World) {ops : Array Oper} {o : Oper} {a : Act} {K : Act → World → Prop} {Q : Exit → Act → World → Prop} {E : Prop} (hgd : o.guard = none) (s x : Operand)
    (ho : o.op = .call { callee := .builtin .append, args := #[s, x], argTypes := #[34, 34] }) (base g : Nat) (v : Value) (zs : List ByteArray) (c : ByteArray) (hs : a.eval s = v)
    (hown : StrBuf w base v zs) (hx : a.eval x = .slice (some ⟨g, 0, none⟩) 1 1) (hc0 : w.cell? ⟨g, 0, none⟩ = some (.string c)) (hbase : base ≤ w.heap.size) (hl : zs.length ≤ 1000000000)
    (h : ∀ v' w', StrBuf w' base v' (zs ++ [c]) → Below base w w' → w.grownBy w' v.ownBlock → K (a.put o.dst v') w') : if Region.wanted o (yielded ops a.tmps) = true then Oper.wp Tryd.prog o a w K Q else E := by
  have hw : Region.wanted o (yielded ops a.tmps) = true := by simp [Region.wanted, hgd]
  rw [if_pos hw]
  obtain ⟨i0, hi, hz0, hz1, hz2⟩ := info_parts infoSt
  refine wp_append_own w s x 34 ho base 9 i0 (.string ⟨#[]⟩) 1 16 Tryd.underlying34 hi hz0 hz1 hz2 rfl (by decide) _ _ _ hs hown ⟨g, 0, none⟩ 1 1 [.string c] hx rfl ?_ ?_ (by unfold maxLen; omega) (by omega) hbase ?_
  · intro j u' hj
    match j, hj with
    | 0, hj => simp at hj; subst hj; simpa [Addr.add] using hc0
    | j + 1, hj => simp at hj
  · intro u' hu'
    simp at hu'
    subst hu'
    rfl
  · intro v' w' hown' hgrow _
    rw [show zs.map Value.string ++ [.string c] = (zs ++ [c]).map Value.string by simp, show zs.length + 1 = (zs ++ [c]).length by simp] at hown'
    exact h v' w' hown' ((Below.refl _ _).grown hgrow hbase (fun j hj => (World.ownsRow.lt hown j hj).1)) hgrow
theorem step_appBufG (w : World) {ops : Array Oper} {o : Oper} {a : Act} {K : Act → World → Prop} {Q : Exit → Act → World → Prop} {E : Prop} (hgd : o.guard = none) (s x : Operand)
    (ho : o.op = .call { callee := .builtin .append, args := #[s, x], argTypes := #[34, 34] }) (base base2 : Nat) (v v2 : Value) (zs ys : List ByteArray) (hs : a.eval s = v)
    (hown : StrBuf w base v zs) (hx : a.eval x = v2) (hsrc : StrBuf w base2 v2 ys) (hbase : base ≤ w.heap.size) (hl : zs.length + ys.length ≤ 1000000000)
    (h : ∀ v' w', StrBuf w' base v' (zs ++ ys) → Below base w w' → w.grownBy w' v.ownBlock → K (a.put o.dst v') w') : if Region.wanted o (yielded ops a.tmps) = true then Oper.wp Tryd.prog o a w K Q else E := by
  have hw : Region.wanted o (yielded ops a.tmps) = true := by simp [Region.wanted, hgd]
  rw [if_pos hw]
  obtain ⟨i0, hi, hz0, hz1, hz2⟩ := info_parts infoSt
  have hs2 := hsrc
  rcases hsrc.2 with ⟨h1, h0⟩ | ⟨g, cap, cur, e, hg, hgg, r⟩
  · subst h1
    have hy : ys = [] := List.length_eq_zero_iff.1 h0
    subst hy
    have hrun := run_append_owned_none (P := Tryd.prog) (w := w) base 34 o.type 9 i0 1 Tryd.underlying34 hi v _ _ hown
    unfold Oper.wp
    simp [execOp, ho, resolve, invoke, builtin, hs, hx, hrun, Result.andThen]
    exact h v w (by rw [List.append_nil]; exact hown) (Below.refl _ _) ⟨rfl, rfl, rfl, Nat.le_refl _, fun _ _ _ => rfl⟩
  · subst e
    refine wp_append_own w s x 34 ho base 9 i0 (.string ⟨#[]⟩) 1 16 Tryd.underlying34 hi hz0 hz1 hz2 rfl (by decide) _ _ _ hs hown ⟨g, 0, none⟩ ys.length cap (ys.map Value.string) hx (by simp) ?_ ?_ (by unfold maxLen; omega) (by omega) hbase ?_
    · intro j u' hj
      rw [List.getElem?_map] at hj
      obtain ⟨z, hz, rfl⟩ := Option.map_eq_some_iff.1 hj
      obtain ⟨hjl, rfl⟩ := List.getElem?_eq_some_iff.1 hz
      have := hs2.get j hjl
      rw [Addr.add_lit]
      simpa using this
    · intro u' hu'
      obtain ⟨z, _, rfl⟩ := List.mem_map.1 hu'
      rfl
    · intro v' w' hown' hgrow _
      rw [← List.map_append, show zs.length + ys.length = (zs ++ ys).length by simp] at hown'
      exact h v' w' hown' ((Below.refl _ _).grown hgrow hbase (fun j hj => (World.ownsRow.lt hown j hj).1)) hgrow

end Go.Proofs.YtbipgmikgokfpaaDoor
