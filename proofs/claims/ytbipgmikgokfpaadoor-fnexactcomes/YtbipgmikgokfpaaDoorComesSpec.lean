/- Whether calls lead from one function to another: the specification's side. -/
import Derived.Test.YtbipgmikgokfpaaDoorCallSpec
import Derived.ArgAppend
import Derived.Deep.LoopGhost
import Derived.Test.YtbipgmikgokfpaaDoorTreeLaw3
namespace Go.Proofs.YtbipgmikgokfpaaDoor
open Go.RowKit Go.Joins
set_option linter.unusedVariables false

/-- texts that wait, at the end of a row of one's own -/
def QRow (w : World) (base : Nat) (v : Value) (zs : List ByteArray) : Prop := ∃ (g off cap : Nat) (cs : Array Value), v = .slice (some ⟨g, off, none⟩) zs.length cap ∧ base ≤ g ∧ w.heap[g]? = some (.cells cs 9 (0, 0)) ∧ zs.length ≤ cap ∧ off + cap ≤ cs.size ∧ ∀ i (h : i < zs.length), cs[off + i]? = some (.string zs[i])
theorem QRow.same {w w' : World} {base : Nat} {v : Value} {zs : List ByteArray} (h : QRow w base v zs) (hb : ∀ j, v.ownBlock = some j → w'.heap[j]? = w.heap[j]?) : QRow w' base v zs := by
  obtain ⟨g, off, cap, cs, rfl, h1, h2, r⟩ := h
  exact ⟨g, off, cap, cs, rfl, h1, by rw [hb g rfl]; exact h2, r⟩
theorem QRow.own_lt {w : World} {base : Nat} {v : Value} {zs : List ByteArray} (h : QRow w base v zs) : ∀ j, v.ownBlock = some j → base ≤ j ∧ j < w.heap.size := fun j hj => by
  obtain ⟨g, off, cap, cs, rfl, h1, h2, r⟩ := h
  obtain rfl : g = j := by injection hj
  exact ⟨h1, (Array.getElem?_eq_some_iff.1 h2).1⟩
theorem QRow.later {w w' : World} {base : Nat} {v : Value} {zs : List ByteArray} (h : QRow w base v zs) (hb : Below w.heap.size w w') : QRow w' base v zs := h.same fun j hj => hb.block j (h.own_lt j hj).2
theorem QRow.growB {w w' : World} {base : Nat} {v v' v2 : Value} {zs : List ByteArray} (h : QRow w base v2 zs) (hg : GrowB v v' w w') (hne : ∀ j2, v2.ownBlock = some j2 → ∀ j, v.ownBlock = some j → j ≠ j2) : QRow w' base v2 zs := h.same fun j hj => hg.block (h.own_lt j hj).2 (fun k hk => hne j hj k hk)
theorem QRow.lit (w : World) (base : Nat) (s : ByteArray) (h : base ≤ w.heap.size) : QRow (w.alloc (.cells #[.string s] 9)) base (.slice (some ⟨w.heap.size, 0, none⟩) 1 1) [s] := by
  refine ⟨w.heap.size, 0, 1, #[.string s], rfl, h, ?_, by simp, by simp, fun i hi => ?_⟩
  · show (w.heap.push _)[w.heap.size]? = _
    simp
  · have hi0 : i = 0 := by rw [List.length_singleton] at hi; omega
    subst hi0
    rfl
theorem QRow.tail {w : World} {base g off n cap : Nat} {z : ByteArray} {zs : List ByteArray} (h : QRow w base (.slice (some ⟨g, off, none⟩) n cap) (z :: zs)) : n = zs.length + 1 ∧ zs.length + 1 ≤ cap ∧ w.cell? ⟨g, off, none⟩ = some (.string z) ∧ QRow w base (.slice (some ⟨g, off + 1, none⟩) zs.length (cap - 1)) zs := by
  obtain ⟨g', off', cap', cs, e, h1, h2, h3, h4, h5⟩ := h
  injection e with e1 e2 e3
  injection e1 with e1
  injection e1 with e4 e5 _
  subst e4 e5 e3
  rw [List.length_cons] at h3 e2
  refine ⟨e2, by omega, ?_, g, off + 1, cap - 1, cs, rfl, h1, h2, by omega, by omega, fun i hi => ?_⟩
  · rw [cell_of_block h2]
    have := h5 0 (by simp)
    simpa using this
  · have := h5 (i + 1) (by simp; omega)
    rw [show off + 1 + i = off + (i + 1) by omega]
    simpa using this
theorem QRow.lone {w : World} {base g off n : Nat} {z : ByteArray} {zs : List ByteArray} (h : QRow w base (.slice (some ⟨g, off, none⟩) n 1) (z :: zs)) : zs = [] ∧ QRow w base (.slice (some ⟨g, off, none⟩) zs.length 0) zs := by
  obtain ⟨g', off', cap', cs, e, h1, h2, h3, h4, h5⟩ := h
  injection e with e1 e2 e3
  injection e1 with e1
  injection e1 with e4 e5 _
  subst e4 e5 e3
  have hz : zs = [] := List.eq_nil_of_length_eq_zero (by rw [List.length_cons] at h3; omega)
  subst hz
  exact ⟨rfl, g, off, 0, cs, rfl, h1, h2, by simp, by omega, fun i hi => by simp at hi⟩
/-- what is left of the texts that wait, wherever its slice begins -/
def Rest (g9 o9 c9 n : Nat) (v : Value) : Prop := (¬ c9 = 1 ∧ v = .slice (some ⟨g9, o9 + 1, none⟩) n (c9 - 1)) ∨ (c9 = 1 ∧ v = .slice (some ⟨g9, o9, none⟩) n 0)
theorem QRow.rest {w : World} {base g off n cap : Nat} {z : ByteArray} {zs : List ByteArray} (h : QRow w base (.slice (some ⟨g, off, none⟩) n cap) (z :: zs)) {v : Value} (hv : Rest g off cap zs.length v) : QRow w base v zs ∧ v.ownBlock = some g := by
  rcases hv with ⟨_, rfl⟩ | ⟨hc, rfl⟩
  · exact ⟨h.tail.2.2.2, rfl⟩
  · subst hc
    exact ⟨h.lone.2, rfl⟩
theorem wp_appQ (w : World) {ops : Array Oper} {rest : List Oper} {o : Oper} {a : Act} {Q : Exit → Act → World → Prop} (hgd : o.guard = none) (s x : Operand)
    (ho : o.op = .call { callee := .builtin .append, args := #[s, x], argTypes := #[34, 34] }) (base gx : Nat) (v : Value) (zs : List ByteArray) (c : ByteArray) (hs : a.eval s = v)
    (hown : QRow w base v zs) (hx : a.eval x = .slice (some ⟨gx, 0, none⟩) 1 1) (hc0 : w.cell? ⟨gx, 0, none⟩ = some (.string c)) (hbase : base ≤ w.heap.size) (hl : zs.length ≤ 1000000000)
    (h : ∀ v' w', QRow w' base v' (zs ++ [c]) → GrowB v v' w w' → wpList Tryd.prog ops Q rest (a.put o.dst v') w') : wpList Tryd.prog ops Q (o :: rest) a w := by
  obtain ⟨i0, hi, hz0, hz1, hz2⟩ := info_parts infoSt
  obtain ⟨g, off, cap, cs, rfl, h1, h2, h3, h4, h5⟩ := hown
  have hg := (Array.getElem?_eq_some_iff.1 h2).1
  refine wpList_append_arg _ hgd s x 34 ho 9 i0 (.string ⟨#[]⟩) 1 16 Tryd.underlying34 hi hz0 hz1 hz2 rfl (by decide) g off zs.length cap (zs.map Value.string) hs (by simp) ?_ ⟨gx, 0, none⟩ 1 1 [.string c] hx rfl ?_ ?_ ?_ (by unfold maxLen; omega) (by omega) ?_ ?_
  · intro j u' hj
    rw [List.getElem?_map] at hj
    obtain ⟨z, hz, rfl⟩ := Option.map_eq_some_iff.1 hj
    obtain ⟨hjl, rfl⟩ := List.getElem?_eq_some_iff.1 hz
    rw [cell_of_block h2]
    exact h5 j hjl
  · intro j u' hj
    match j, hj with
    | 0, hj => simp at hj; subst hj; simpa [Addr.add] using hc0
    | j + 1, hj => simp at hj
  · intro u' hu'
    simp at hu'
    subst hu'
    rfl
  · intro hroom j hj
    have hj0 : j = 0 := by simpa using hj
    subst hj0
    rw [show off + zs.length * 1 + 0 = off + zs.length by omega]
    refine ⟨?_, unfrozen_of_block h2 _⟩
    rw [cell_of_block h2, Array.getElem?_eq_getElem (by omega)]
    rfl
  · intro hroom
    have e : w.setCells g (off + zs.length * 1) [.string c] = w.setCell ⟨g, off + zs.length, none⟩ (.string c) := by simp [World.setCells]
    rw [e]
    refine h _ _ ⟨g, off, cap, cs.setIfInBounds (off + zs.length) (.string c), by simp, h1, block_setCell h2 _, by simpa using hroom, by simpa using h4, fun i hi' => ?_⟩ ⟨⟨rfl, rfl, rfl, by simp, fun k hk hne => Below.heap_setCell w ⟨g, off + zs.length, none⟩ _ k (fun e => hne (by rw [e]; rfl))⟩, fun j hj => .inl hj⟩
    by_cases e : i < zs.length
    · rw [Array.getElem?_setIfInBounds_ne (by omega), h5 i e, List.getElem_append_left e]
    · have e2 : i = zs.length := by simp at hi'; omega
      subst e2
      rw [Array.getElem?_setIfInBounds_self_of_lt (by omega)]
      simp
  · intro hfull v' w' hown' hgrow
    rcases hown'.2 with ⟨_, h0⟩ | ⟨g', cap', cur, e, hg', hgg, hnc, hcm, hcs, htk⟩
    · omega
    · subst e
      have hw := hgrow.size
      refine h _ _ ⟨g', 0, cap', cur, by simp, by omega, hgg, by simpa using hnc, by omega, fun i hi' => ?_⟩ ⟨⟨hgrow.os, hgrow.tape, hgrow.output, hgrow.size, fun k hk hne => hgrow.block k hk (by simp)⟩, fun j hj => .inr ?_⟩
      · have hc := World.ownsRow.cellAt hown' i (by simp at hi'; omega)
        rw [cell_of_block hgg] at hc
        rw [Nat.zero_add, hc, ← List.map_singleton, ← List.map_append, List.getElem?_map, List.getElem?_eq_getElem hi']
        rfl
      · obtain rfl : g' = j := by injection hj
        exact hg'

/-- two rows lie apart -/
def Dis (v v2 : Value) : Prop := ∀ j2, v2.ownBlock = some j2 → ∀ j, v.ownBlock = some j → j ≠ j2
theorem Dis.symm {v v2 : Value} (h : Dis v v2) : Dis v2 v := fun j2 h2 j h1 e => h j h1 j2 h2 e.symm
theorem Dis.grow {v v' v2 : Value} {w w' : World} (h : Dis v v2) (hg : GrowB v v' w w') (hlt : ∀ j2, v2.ownBlock = some j2 → j2 < w.heap.size) : Dis v' v2 := fun j2 h2 j h1 => by
  rcases hg.lies j h1 with e | e
  · exact h j2 h2 j e
  · have := hlt j2 h2
    omega
/-- what a function of a name calls, by the specification's two calls -/
theorem specCall {ns : List TN} {root : Int} {L : Lay} {w : World} {l : List Nat} {d : Nat} (hN : NodesAt w L ns) (hS : Hid (Small ns)) (hT : TreeP ns root l d) {x : ByteArray} (hx : x ∈ namesF ns root) :
    ∃ r : Int, (∀ wx, Below w.heap.size w wx → Calls Tryd.prog 83 #[.agg #[.slice L.p ns.length L.cap, .int .i64 root], .string x] wx fun e w' => e = .returned (.int .i64 r) ∧ Below wx.heap.size wx w') ∧
      ∀ wx base v, Below w.heap.size w wx → base ≤ wx.heap.size → StrBuf wx base v [] → Calls Tryd.prog 80 #[.agg #[.slice L.p ns.length L.cap, .int .i64 root], .int .i64 r, v] wx fun e w' => ∃ v' cs, e = .returned v' ∧ StepF ns root x cs ∧ StrBuf w' base v' cs ∧ Below wx.heap.size wx w' ∧ cs.length ≤ 1048576 := by
  obtain ⟨i, hpi, hi, _, _⟩ := placeIn_get hx
  have hi' : i < (funsOf ns root).length := by unfold namesF at hi; rw [List.length_map] at hi; exact hi
  have hF : FirstFn ns root x (funsOf ns root)[i] := .inr ⟨i, hi', hpi, rfl⟩
  have hj0 : 0 ≤ (funsOf ns root)[i] := by
    rcases hF.pos ⟨l, d, hT⟩ with ⟨h1, _⟩ | ⟨_, h1⟩
    · exact absurd hx h1
    · exact h1
  obtain ⟨hr0, hrl, hrn⟩ := hT.root
  have hm := (fnsIn_mem.1 (List.getElem_mem hi')).1
  rw [rootKids_of (List.getElem?_eq_getElem hrn)] at hm
  have hjl := (hT.2.1.1.kid root.toNat hrl _ (List.getElem?_eq_getElem hrn) _ hm).2
  have hjn := hT.2.1.1.lt _ hjl
  refine ⟨(funsOf ns root)[i], fun wx hb => ?_, fun wx base v hb hbs hv => ?_⟩
  · refine (l04Func_any ns root x L wx (hN.later hb) (unhide hS) ⟨l, d, hT⟩).mono ?_
    rintro e w' ⟨r, rfl, hr, hb'⟩
    rw [hr.det hF]
    exact ⟨rfl, hb'⟩
  · obtain ⟨lx, dx, vx, hlx, hl200⟩ := hT.part hjn
    have := l04Calls_any ns root L hS (hide ⟨l, d, hT⟩) dx dx _ lx [] base v wx (Nat.le_refl _) vx (by simp; omega) (hN.later hb) hv hbs
    rw [Int.toNat_of_nonneg hj0] at this
    refine this.mono ?_
    rintro e w' ⟨v', cs, rfl, hC, hS', hb'⟩
    refine ⟨v', cs, rfl, ⟨_, hF, hj0, hC⟩, hS', hb', ?_⟩
    rw [← Int.toNat_of_nonneg hj0] at hC
    exact hC.le vx hl200

/-- the texts that are seen, those that wait and those that are called, each in a row of its own -/
structure Two (w wx : World) (L : Lay) (nl : Nat) (root : Int) (va vb lv : Value) (U Q cs : List ByteArray) : Prop where
  s8 : StrBuf wx (w.heap.size + 1) va U
  s9 : QRow wx (w.heap.size + 1) vb Q
  s2 : StrBuf wx (w.heap.size + 1) lv cs
  d89 : Dis va vb
  d82 : Dis va lv
  d92 : Dis vb lv
  bx : Below w.heap.size w wx
  x0 : wx.cell? ⟨w.heap.size, 0, none⟩ = some (.slice L.p nl L.cap)
  x1 : wx.cell? ⟨w.heap.size, 1, none⟩ = some (.int .i64 root)
theorem Two.later {w wx wy : World} {L : Lay} {nl : Nat} {root : Int} {s8 s9 lv : Value} {U Q cs : List ByteArray} (h : Two w wx L nl root s8 s9 lv U Q cs) (hb : Below wx.heap.size wx wy) : Two w wy L nl root s8 s9 lv U Q cs :=
  ⟨h.s8.later hb, h.s9.later hb, h.s2.later hb, h.d89, h.d82, h.d92, nx_trans h.bx hb, cell_later hb h.x0, cell_later hb h.x1⟩
theorem Two.lt {w wx : World} {L : Lay} {nl : Nat} {root : Int} {s8 s9 lv : Value} {U Q cs : List ByteArray} (h : Two w wx L nl root s8 s9 lv U Q cs) : w.heap.size < wx.heap.size := World.block_lt_of_cell? _ _ h.x0
theorem Two.add8 {w wx wy : World} {L : Lay} {nl : Nat} {root : Int} {s8 s9 lv v : Value} {U V Q cs : List ByteArray} (h : Two w wx L nl root s8 s9 lv U Q cs) (hs : StrBuf wy (w.heap.size + 1) v V) (hg : GrowB s8 v wx wy) : Two w wy L nl root v s9 lv V Q cs := by
  have hlt := h.lt
  have ho : ∀ j, s8.ownBlock = some j → w.heap.size + 1 ≤ j := fun j hj => (h.s8.own_lt j hj).1
  exact ⟨hs, h.s9.growB hg h.d89, h.s2.growB hg h.d82, h.d89.grow hg (fun j hj => (h.s9.own_lt j hj).2), h.d82.grow hg (fun j hj => (h.s2.own_lt j hj).2), h.d92, h.bx.trans (hg.below (by omega) (fun j hj => by have := ho j hj; omega)), hg.cell h.x0 (fun j hj => by have := ho j hj; omega), hg.cell h.x1 (fun j hj => by have := ho j hj; omega)⟩
theorem Two.add9 {w wx wy : World} {L : Lay} {nl : Nat} {root : Int} {s8 s9 lv v : Value} {U V Q cs : List ByteArray} (h : Two w wx L nl root s8 s9 lv U Q cs) (hs : QRow wy (w.heap.size + 1) v V) (hg : GrowB s9 v wx wy) : Two w wy L nl root s8 v lv U V cs := by
  have hlt := h.lt
  have ho : ∀ j, s9.ownBlock = some j → w.heap.size + 1 ≤ j := fun j hj => (h.s9.own_lt j hj).1
  exact ⟨h.s8.growB hg h.d89.symm, hs, h.s2.growB hg h.d92, (h.d89.symm.grow hg (fun j hj => (h.s8.own_lt j hj).2)).symm, h.d82, h.d92.grow hg (fun j hj => (h.s2.own_lt j hj).2), h.bx.trans (hg.below (by omega) (fun j hj => by have := ho j hj; omega)), hg.cell h.x0 (fun j hj => by have := ho j hj; omega), hg.cell h.x1 (fun j hj => by have := ho j hj; omega)⟩

set_option maxHeartbeats 8000000 in
set_option maxRecDepth 100000 in
theorem specComes_any (ns : List TN) (root : Int) (src dst : ByteArray) (L : Lay) (w : World) (hN : NodesAt w L ns) (hsm : Small ns) (hs1 : src.size ≤ 1048576) (hd1 : dst.size ≤ 1048576) :
    Calls Tryd.prog 50 #[.agg #[.slice L.p ns.length L.cap, .int .i64 root], .string src, .string dst] w (ComesP ns root src dst w) := by
  have HN := hide hN
  have HS := hide hsm
  clear hN hsm
  by_cases h1 : 65536 < src.size
  · go_enter Tryd.func50, Tryd.ntmps50
    go_wp2
    go_ret2
    exact ComesP.mk (.inl ⟨.inl h1, rfl, rfl⟩) (nx_alloc _ _)
  by_cases h2 : 65536 < dst.size
  · go_enter Tryd.func50, Tryd.ntmps50
    go_wp2
    go_ret2
    exact ComesP.mk (.inl ⟨.inr h2, rfl, rfl⟩) (nx_alloc _ _)
  have H3 : Hid (¬ (65536 < src.size ∨ 65536 < dst.size)) := hide (by omega)
  have dd1 : decide (65536 < src.size) = false := decide_eq_false h1
  have dd2 : decide (65536 < dst.size) = false := decide_eq_false h2
  go_enter Tryd.func50, Tryd.ntmps50
  go_wp2_with fail
  refine (specTreeOK_any ns root L _ ((unhide HN).later (nx_alloc _ _)) (unhide HS)).mono ?_
  rintro e w1 ⟨b, rfl, hb, hb1⟩
  have hB := hide (nx_trans (nx_alloc _ _) hb1)
  have c1 : ∀ o, w1.cell? ⟨w.heap.size, o, none⟩ = (w.alloc (.cells #[.slice L.p ns.length L.cap, .int .i64 root] 25)).cell? ⟨w.heap.size, o, none⟩ := fun o => hb1.cell (p := ⟨w.heap.size, o, none⟩) (by simp)
  have d0 : w1.cell? ⟨w.heap.size, 0, none⟩ = some (.slice L.p ns.length L.cap) := by rw [c1]; simp
  have d1 : w1.cell? ⟨w.heap.size, 1, none⟩ = some (.int .i64 root) := by rw [c1]; simp
  clear hb1 c1
  cases b
  · have hD : Hid (ComesRes ns root src dst false 1) := hide (.inr (.inl ⟨unhide H3, fun h => (by have := hb.2 h; cases this), rfl, rfl⟩))
    clear hb
    go_wp2
    go_ret2
    exact ComesP.mk (unhide hD) (unhide hB)
  have HTO := hide (hb.1 rfl)
  clear hb
  go_wp2_with fail
  refine (l04Func_any ns root src L w1 ((unhide HN).later (unhide hB)) (unhide HS) (unhide HTO)).mono ?_
  rintro e w2 ⟨r1, rfl, hr1, hb2⟩
  have e0 := cell_later hb2 d0
  have e1 := cell_later hb2 d1
  have hB2 := hide (nx_trans (unhide hB) hb2)
  clear hb2 d0 d1
  rcases hr1.pos (unhide HTO) with ⟨hsN, hr10⟩ | ⟨hsN, hr10⟩
  · have hD : Hid (ComesRes ns root src dst false 11) := hide (.inr (.inr (.inl ⟨unhide H3, unhide HTO, fun h => hsN h.1, rfl, rfl⟩)))
    clear hsN hr1
    go_wp2
    go_ret2
    exact ComesP.mk (unhide hD) (unhide hB2)
  have hr11 : ¬ r1 < 0 := by omega
  have hr12 : decide (r1 < 0) = false := decide_eq_false hr11
  clear hr1
  go_wp2_with fail
  refine (l04Func_any ns root dst L w2 ((unhide HN).later (unhide hB2)) (unhide HS) (unhide HTO)).mono ?_
  rintro e w3 ⟨r2, rfl, hr2, hb3⟩
  have d0 := cell_later hb3 e0
  have d1 := cell_later hb3 e1
  have hB3 := hide (nx_trans (unhide hB2) hb3)
  have hw3 : w.heap.size < w3.heap.size := World.block_lt_of_cell? _ _ d0
  clear hb3 e0 e1
  rcases hr2.pos (unhide HTO) with ⟨hdN, hr20⟩ | ⟨hdN, hr20⟩
  · have hD : Hid (ComesRes ns root src dst false 11) := hide (.inr (.inr (.inl ⟨unhide H3, unhide HTO, fun h => hdN h.2, rfl, rfl⟩)))
    clear hdN hr2 hsN
    go_wp2
    go_ret2
    exact ComesP.mk (unhide hD) (unhide hB3)
  have hr21 : ¬ r2 < 0 := by omega
  have hr22 : decide (r2 < 0) = false := decide_eq_false hr21
  have hD : Hid (∀ r : Bool, (r = true ↔ Leads2 ns root src dst) → ComesRes ns root src dst r 0) := hide (fun r h => .inr (.inr (.inr ⟨unhide H3, unhide HTO, ⟨hsN, hdN⟩, h, rfl⟩)))
  have HI0 := hide (InvC.start (dst := dst) hsN)
  obtain ⟨l, d, hT⟩ := unhide HTO
  obtain ⟨rt, hrt, _⟩ := hT.2.2.1
  have hnl : (namesF ns root).length ≤ 1048576 := by
    have h1 := fnsIn_len ns (rootKids ns root)
    rw [rootKids_of hrt] at h1
    have h2 : (namesF ns root).length = (fnsIn ns rt.kids).length := by unfold namesF funsOf; rw [List.length_map, rootKids_of hrt]
    have h3 := ((unhide HS).2 rt (List.mem_of_getElem? hrt)).2.2.1
    omega
  have HLEN : Hid (∀ R : List ByteArray, R.Nodup → (∀ x ∈ R, x ∈ namesF ns root) → R.length ≤ 1048576) := hide (fun R h1 h2 => Nat.le_trans (sub_le R _ h1 h2) hnl)
  have HCALL := hide (fun (wx : World) (x : ByteArray) (hb : Below w.heap.size w wx) (hx : x ∈ namesF ns root) => specCall (w := wx) ((unhide HN).later hb) HS hT hx)
  clear hT hrt hnl hr2 hsN hdN
  have LS : Hid (StrBuf (w3.alloc (.cells #[] 9)) (w.heap.size + 1) (.slice (some ⟨w3.heap.size, 0, none⟩) 0 0) []) := hide (by simpa using StrBuf.lit w3 (w.heap.size + 1) [] (by omega) (by decide))
  have LQ := hide (QRow.lit (w3.alloc (.cells #[] 9)) (w.heap.size + 1) src (by simp; omega))
  have hle : (w3.alloc (.cells #[] 9)).heap.size = w3.heap.size + 1 := by simp
  rw [hle] at LQ
  have LS2 := hide ((unhide LS).alloc (.cells #[.string src] 9))
  have X0 : Hid (((w3.alloc (.cells #[] 9)).alloc (.cells #[.string src] 9)).cell? ⟨w.heap.size, 0, none⟩ = some (.slice L.p ns.length L.cap)) := hide (cell_later (nx_alloc _ _) (cell_later (nx_alloc _ _) d0))
  have X1 : Hid (((w3.alloc (.cells #[] 9)).alloc (.cells #[.string src] 9)).cell? ⟨w.heap.size, 1, none⟩ = some (.int .i64 root)) := hide (cell_later (nx_alloc _ _) (cell_later (nx_alloc _ _) d1))
  have B3 := hide (nx_al (o := .cells #[.string src] 9) (nx_al (o := .cells #[] 9) (unhide hB3)))
  clear LS
  go_wp2
  generalize (w3.alloc (.cells #[] 9)).alloc (.cells #[.string src] 9) = w4 at LQ LS2 X0 X1 B3 ⊢
  go_loopg [8, 9] 1048580 (fun gn s8 s9 wx => ∃ (T : List ByteArray) (i : Nat), gn + i = 1048580 ∧ i ≤ T.length + 1 ∧ T.length ≤ 1048576 ∧ Hid (InvC ns root src dst (src :: T) i) ∧ Hid T.Nodup ∧ Hid (StrBuf wx (w.heap.size + 1) s8 T) ∧ Hid (QRow wx (w.heap.size + 1) s9 ((src :: T).drop i)) ∧ Hid (Dis s8 s9) ∧ Hid (Below w.heap.size w wx) ∧ Hid (wx.cell? ⟨w.heap.size, 0, none⟩ = some (.slice L.p ns.length L.cap)) ∧ Hid (wx.cell? ⟨w.heap.size, 1, none⟩ = some (.int .i64 root)))
  case atStart => exact ⟨[], 0, rfl, by simp, by simp, HI0, hide (by simp), LS2, LQ, hide (fun j2 h2 j h1 => by simp [Value.ownBlock] at h1 h2; omega), B3, X0, X1⟩
  case round =>
    clear HI0 LS2 LQ X0 X1 B3 d0 d1
    obtain ⟨T, i, hgi, hiT, hTl, hI, hND, hS8, hQ9, hDJ, hBx, hx0, hx1⟩ := hrel
    obtain ⟨p8, c8, rfl⟩ := (unhide hS8).slice
    have c0 := unhide hx0
    have c1 := unhide hx1
    have hwr : w.heap.size < wr.heap.size := World.block_lt_of_cell? _ _ c0
    by_cases hlt : i < T.length + 1
    · have HDR : Hid ((src :: T).drop i = (src :: T)[i] :: (src :: T).drop (i + 1)) := hide (List.drop_eq_getElem_cons (by simpa using hlt))
      have HXI : Hid ((src :: T)[i]? = some (src :: T)[i]) := hide (List.getElem?_eq_getElem (by simpa using hlt))
      have hxN := (unhide hI).sub (src :: T)[i] (List.getElem_mem (by simpa using hlt))
      have hQ := unhide hQ9
      rw [unhide HDR] at hQ
      generalize (src :: T)[i] = x at HDR HXI hxN hQ
      obtain ⟨g9, o9, c9, cs9, e9, _⟩ := hQ
      subst e9
      have hQ := unhide hQ9
      rw [unhide HDR] at hQ
      obtain ⟨hn9, hc9, q0, hQt⟩ := hQ.tail
      have HQR : Hid (∀ v, Rest g9 o9 c9 ((src :: T).drop (i + 1)).length v → QRow wr (w.heap.size + 1) v ((src :: T).drop (i + 1)) ∧ v.ownBlock = some g9) := hide (fun v hv => hQ.rest hv)
      obtain ⟨r, hfn, hcl⟩ := unhide HCALL wr x (unhide hBx) hxN
      have HFN := hide hfn
      have HCL := hide hcl
      have LA : Hid (StrBuf (wr.drew.alloc (.cells #[] 9)) wr.heap.size (.slice (some ⟨wr.heap.size, 0, none⟩) 0 0) []) := hide (by simpa using StrBuf.lit wr.drew wr.heap.size [] (Nat.le_refl _) (by decide))
      have LB : Hid (∀ y : World, wr.heap.size ≤ y.heap.size → StrBuf (y.alloc (.cells #[] 9)) wr.heap.size (.slice (some ⟨y.heap.size, 0, none⟩) 0 0) []) := hide (fun y hy => by simpa using StrBuf.lit y wr.heap.size [] hy (by decide))
      have hdl : ((src :: T).drop (i + 1)).length ≤ 1048577 := by rw [List.length_drop, List.length_cons]; omega
      rw [hn9]
      generalize hdd : ((src :: T).drop (i + 1)).length = nd at HQR hdl hc9 ⊢
      clear hfn hcl hQ hQt hxN HDR hQ9 hn9 hdd
      have C0 : Hid (wr.drew.cell? ⟨w.heap.size, 0, none⟩ = some (.slice L.p ns.length L.cap)) := hide c0
      have C1 : Hid (wr.drew.cell? ⟨w.heap.size, 1, none⟩ = some (.int .i64 root)) := hide c1
      have C2 : Hid (wr.drew.cell? ⟨g9, o9, none⟩ = some (.string x)) := hide q0
      have C3 : Hid (wr.cell? ⟨g9, o9, none⟩ = some (.string x)) := hide q0
      have hg9 : g9 < wr.heap.size := World.block_lt_of_cell? _ _ q0
      have hgn : ¬ g9 = wr.heap.size := by omega
      have hwn : ¬ w.heap.size = wr.heap.size := by omega
      go_wp2
      go_region_held3 (fun z => z.cell? ⟨w.heap.size, 0, none⟩ = some (.slice L.p ns.length L.cap) ∧ z.cell? ⟨w.heap.size, 1, none⟩ = some (.int .i64 root) ∧ z.cell? ⟨g9, o9, none⟩ = some (.string x)) (go_keep) ((first | (go_at_call 83; refine (unhide HFN wr.drew (nx_drew (Below.refl _ _))).mono ?_; rintro e y ⟨rfl, hby⟩; have HBY := hide (nx_trans (nx_drew (Below.refl wr.heap.size wr)) hby); have z0 := cell_later (unhide HBY) (unhide hx0); have z1 := cell_later (unhide HBY) (unhide hx1); have z2 := cell_later (unhide HBY) (unhide C3); have hys := (unhide HBY).size; clear hby) | (go_at_call 83; refine (unhide HFN (wr.drew.alloc (.cells #[] 9)) (nx_al (nx_drew (Below.refl _ _)))).mono ?_; rintro e y ⟨rfl, hby⟩; have HLY := hide ((unhide LA).later hby); have HBY := hide (nx_trans (nx_al (nx_drew (Below.refl wr.heap.size wr))) hby); have z0 := cell_later (unhide HBY) (unhide hx0); have z1 := cell_later (unhide HBY) (unhide hx1); have z2 := cell_later (unhide HBY) (unhide C3); have hys := (unhide HBY).size; clear hby) | (go_at_call 80; refine (unhide HCL y wr.heap.size _ (unhide HBY) hys (unhide HLY)).mono ?_; rintro e y2 ⟨v2, cs, rfl, hSt, hS2, hb2, hcsl⟩; have HSt := hide hSt; have HS2 := hide hS2; have HB2 := hide (nx_trans (unhide HBY) hb2); have zz0 := cell_later (unhide HB2) (unhide hx0); have zz1 := cell_later (unhide HB2) (unhide hx1); have zz2 := cell_later (unhide HB2) (unhide C3); clear hSt hS2 hb2) | (go_at_call 80; refine (unhide HCL (y.alloc (.cells #[] 9)) wr.heap.size _ (nx_al (unhide HBY)) (by simp; omega) (unhide LB y hys)).mono ?_; rintro e y2 ⟨v2, cs, rfl, hSt, hS2, hb2, hcsl⟩; have HSt := hide hSt; have HS2 := hide hS2; have HB2 := hide (nx_trans (nx_al (unhide HBY)) hb2); have zz0 := cell_later (unhide HB2) (unhide hx0); have zz1 := cell_later (unhide HB2) (unhide hx1); have zz2 := cell_later (unhide HB2) (unhide C3); clear hSt hS2 hb2)))
      all_goals (
        obtain ⟨p2, k2, e2⟩ := (unhide HS2).slice
        subst e2
        have hy2 : wr.heap.size ≤ y2.heap.size := (unhide HB2).size
        have S8 := hide ((unhide hS8).later (unhide HB2))
        have Q9 : Hid (∀ v, Rest g9 o9 c9 nd v → QRow y2 (w.heap.size + 1) v ((src :: T).drop (i + 1))) := hide (fun v hv => ((unhide HQR) v hv).1.later (unhide HB2))
        have D89 : Hid (∀ v, Rest g9 o9 c9 nd v → Dis (.slice p8 T.length c8) v) := hide (fun v hv j2 h2 j h1 => unhide hDJ j2 (by rw [((unhide HQR) v hv).2] at h2; exact h2) j h1)
        have D82 : Hid (Dis (.slice p8 T.length c8) (.slice p2 cs.length k2)) := hide (fun j2 h2 j h1 => by
          have a1 := ((unhide HS2).own_lt j2 h2).1
          have a2 := ((unhide hS8).own_lt j h1).2
          omega)
        have D92 : Hid (∀ v, Rest g9 o9 c9 nd v → Dis v (.slice p2 cs.length k2)) := hide (fun v hv j2 h2 j h1 => by
          have a1 := ((unhide HS2).own_lt j2 h2).1
          rw [((unhide HQR) v hv).2] at h1
          injection h1 with h1
          omega)
        have BB := hide (nx_trans (unhide hBx) (unhide HB2))
        have XX0 := hide zz0
        have XX1 := hide zz1
        clear zz0 zz1 zz2 z0 z1 z2 C0 C1 C2 C3 HFN HCL LA LB HBY HB2 q0 c0 c1 hBx hx0 hx1 hS8 HQR hDJ
        by_cases hc1 : c9 = 1)
      all_goals first | (subst hc1; obtain rfl : nd = 0 := (by omega); rw [show (0 : Nat) + 1 = 1 from rfl]; rw [show ((0 : Nat) : Int) + 1 = 1 from rfl]) | skip
      all_goals (
        go_wp2
        go_loopw [8, 9, 11] (fun s8 s9 s11 wx => ∃ (U : List ByteArray) (k : Nat), s11 = .int .i64 k ∧ k ≤ cs.length ∧ U.length ≤ 1048576 ∧ i < U.length + 1 ∧ Hid (InvC ns root src dst (src :: U) i) ∧ Hid ((src :: U)[i]? = some x) ∧ Hid U.Nodup ∧ Hid (∀ u ∈ cs.take k, u ≠ dst ∧ u ∈ src :: U) ∧ Hid (Two w wx L ns.length root s8 s9 (.slice p2 cs.length k2) U ((src :: U).drop (i + 1)) cs)) (fun _ _ s11 _ => cs.length - (intOf s11).toNat)
        case atStart => exact ⟨T, 0, rfl, by omega, hTl, hlt, hide (unhide hI), hide (unhide HXI), hide (unhide hND), hide (by simp), hide ⟨unhide S8, unhide Q9 _ (by first | exact .inl ⟨hc1, rfl⟩ | exact .inr ⟨rfl, rfl⟩), (unhide HS2).low (by omega), unhide D89 _ (by first | exact .inl ⟨hc1, rfl⟩ | exact .inr ⟨rfl, rfl⟩), unhide D82, unhide D92 _ (by first | exact .inl ⟨hc1, rfl⟩ | exact .inr ⟨rfl, rfl⟩), unhide BB, unhide XX0, unhide XX1⟩⟩
        case round =>
          clear S8 Q9 HS2 D89 D82 D92 BB XX0 XX1 hI HXI hND hy2
          obtain ⟨U, k, rfl, hk, hUl, hiU, hI, hXI, hND, hcs, hTw⟩ := hrel
          obtain ⟨q8, k8, rfl⟩ := (unhide hTw).s8.slice
          by_cases hkl : k < cs.length
          · obtain ⟨a', c', ea, hst⟩ := (unhide hTw).s2.strs
            injection ea with ea _ ec
            subst ea ec
            obtain ⟨b2, o2, hp2, u0⟩ := hst k hkl
            subst hp2
            have HUC := hide (List.getElem_mem hkl)
            have HUT := hide (List.take_succ_eq_append_getElem hkl)
            generalize cs[k] = u at u0 HUC HUT
            clear hst
            by_cases hud : u = dst
            · have HF := hide (unhide hD true ⟨fun _ => hud ▸ (unhide hI).reach (List.mem_of_getElem? (unhide hXI)) (unhide HSt) (unhide HUC), fun _ => rfl⟩)
              have hBx := hide (unhide hTw).bx
              subst hud
              have e1 := ba_self u
              have e2 := bl_self u
              clear HUC HUT
              go_wp2
              go_ret2
              exact ComesP.mk (unhide HF) (unhide hBx)
            · have e1 := ba_ne hud
              have e2 := bl_ne hud
              have U0 := hide u0
              have HUD := hide hud
              obtain ⟨wo, hwo⟩ : ∃ wo, wo = wr := ⟨_, rfl⟩
              subst hwo
              go_wp2
              go_loopw [12, 13] (fun s12 s13 wx => ∃ (m : Nat) (kb : Bool), s12 = .bool kb ∧ s13 = .int .i64 m ∧ m ≤ U.length ∧ Hid (kb = true ↔ u ∈ U.take m) ∧ Hid (Below wo.heap.size wo wx)) (fun _ s13 _ => U.length - (intOf s13).toNat)
              case atStart => exact ⟨0, false, rfl, rfl, by omega, hide (by simp), hide (Below.refl _ _)⟩
              case round =>
                clear u0 hud e1 e2
                obtain ⟨m, kb, rfl, rfl, hm, hkb, hBo⟩ := hrel
                by_cases hml : m < U.length
                · obtain ⟨a8, d8, ea8, hst8⟩ := ((unhide hTw).s8.later (unhide hBo)).strs
                  injection ea8 with ea8 _ ec8
                  subst ea8 ec8
                  obtain ⟨b8, o8, hp8, v0⟩ := hst8 m hml
                  subst hp8
                  have u1 := cell_later (unhide hBo) (unhide U0)
                  have HT8 := hide (List.take_succ_eq_append_getElem hml)
                  generalize U[m] = y at v0 HT8
                  clear hst8
                  cases kb
                  · have HN8 : Hid (u ∉ U.take m) := hide (fun h => by have := (unhide hkb).2 h; cases this)
                    by_cases hyu : y = u
                    · have HK : Hid (u ∈ U.take (m + 1)) := hide (by rw [unhide HT8, hyu]; simp)
                      subst hyu
                      have e1 := ba_self y
                      have e2 := bl_self y
                      clear HT8 HN8 hkb
                      go_wp2
                      go_region
                      go_wp2
                      go_roundw
                      case rel => exact ⟨m + 1, true, rfl, by go_num, by omega, hide ⟨fun _ => unhide HK, fun _ => rfl⟩, hide (nx_drew (unhide hBo))⟩
                      case measure => simp [intOf]; omega
                    · have HK : Hid (u ∉ U.take (m + 1)) := hide (fun h => by
                        rw [unhide HT8] at h
                        rcases List.mem_append.1 h with h | h
                        · exact absurd h (unhide HN8)
                        · exact absurd (List.mem_singleton.1 h).symm hyu)
                      have e1 := ba_ne hyu
                      have e2 := bl_ne hyu
                      clear HT8 HN8 hkb hyu
                      go_wp2
                      go_region
                      go_wp2
                      go_roundw
                      case rel => exact ⟨m + 1, false, rfl, by go_num, by omega, hide ⟨fun h => (by cases h), fun h => absurd h (unhide HK)⟩, hide (nx_drew (unhide hBo))⟩
                      case measure => simp [intOf]; omega
                  · have HK : Hid (u ∈ U.take (m + 1)) := hide (by
                      rw [unhide HT8]
                      exact List.mem_append.2 (.inl ((unhide hkb).1 rfl)))
                    clear HT8 hkb
                    go_wp2
                    go_region
                    go_wp2
                    go_roundw
                    case rel => exact ⟨m + 1, true, rfl, by go_num, by omega, hide ⟨fun _ => unhide HK, fun _ => rfl⟩, hide (nx_drew (unhide hBo))⟩
                    case measure => simp [intOf]; omega
                · obtain rfl : m = U.length := by omega
                  rw [List.take_length] at hkb
                  have u1 := cell_later (unhide hBo) (unhide U0)
                  have hTo := hide ((unhide hTw).later (unhide hBo))
                  clear hTw hBo U0
                  cases kb
                  · have huU : u ∉ U := fun h => by have := (unhide hkb).2 h; cases this
                    have HI2 : Hid (InvC ns root src dst (src :: (U ++ [u])) i) := hide ((unhide hI).add (List.mem_of_getElem? (unhide hXI)) (unhide HSt) (unhide HUC) (by simpa using hiU))
                    have HND2 := hide (nodup_snoc (unhide hND) huU)
                    have hU2 : (U ++ [u]).length ≤ 1048576 := unhide HLEN _ (unhide HND2) (fun z hz => (unhide HI2).sub z (List.mem_cons_of_mem _ hz))
                    have HX2 : Hid ((src :: (U ++ [u]))[i]? = some x) := hide (by rw [← List.cons_append, List.getElem?_append_left (by simpa using hiU)]; exact unhide hXI)
                    have HDR2 : Hid ((src :: (U ++ [u])).drop (i + 1) = (src :: U).drop (i + 1) ++ [u]) := hide (by rw [← List.cons_append, List.drop_append_of_le_length (by rw [List.length_cons]; omega)])
                    have HCS : Hid (∀ v ∈ cs.take (k + 1), v ≠ dst ∧ v ∈ src :: (U ++ [u])) := hide (fun v hv => by
                      rw [unhide HUT] at hv
                      rcases List.mem_append.1 hv with hv | hv
                      · refine ⟨(unhide hcs v hv).1, ?_⟩
                        rw [← List.cons_append]
                        exact List.mem_append.2 (.inl (unhide hcs v hv).2)
                      · rw [List.mem_singleton] at hv; subst hv; exact ⟨unhide HUD, by simp⟩)
                    have hdl2 : ((src :: U).drop (i + 1)).length ≤ 1048577 := by rw [List.length_drop, List.length_cons]; omega
                    have hiU2 : i < (U ++ [u]).length + 1 := by rw [List.length_append]; omega
                    have hwl := (unhide hTo).lt
                    have U1 := hide u1
                    clear hkb huU hI hND hXI hcs HUC HUT HUD
                    generalize (src :: U).drop (i + 1) = Q9 at hTo HDR2 hdl2
                    go_wp2_with (at_builtin; refine wp_appStrAt _ rfl _ _ rfl (w.heap.size + 1) wr.heap.size _ U u rfl ((unhide hTo).s8.alloc _) rfl (by simp) ?c1 ?c2 ?c3)
                    case c1 => simp; omega
                    case c2 => omega
                    case c3 =>
                      intro v5 w5 hS5 hG5
                      have hTw5 := ((unhide hTo).later (nx_alloc _ _)).add8 hS5 hG5
                      have u5 := hG5.cell (cell_later (nx_alloc _ _) (unhide U1)) (fun j hj => (unhide hTo).d82 b2 rfl j hj)
                      have HT5 := hide hTw5
                      have hw5 := hTw5.lt
                      clear hTo hTw5 hS5 hG5 u1 U1 hwl
                      go_wp2_with (at_builtin; refine wp_appQ _ rfl _ _ rfl (w.heap.size + 1) w5.heap.size _ Q9 u rfl ((unhide HT5).s9.later (nx_alloc _ _)) rfl (by simp) ?c4 ?c5 ?c6)
                      case c4 => simp; omega
                      case c5 => omega
                      case c6 =>
                        intro v6 w6 hQ6 hG6
                        have HT6 := hide (((unhide HT5).later (nx_alloc _ _)).add9 (by rw [← unhide HDR2] at hQ6; exact hQ6) hG6)
                        clear HT5 hQ6 hG6 u5 hw5 HDR2
                        go_wp2
                        go_roundw
                        case rel => exact ⟨U ++ [u], k + 1, by go_num, by omega, hU2, hiU2, hide (unhide HI2), hide (unhide HX2), hide (unhide HND2), hide (unhide HCS), hide (unhide HT6)⟩
                        case measure => simp [intOf]; omega
                  · have huU := (unhide hkb).1 rfl
                    have HCS : Hid (∀ v ∈ cs.take (k + 1), v ≠ dst ∧ v ∈ src :: U) := hide (fun v hv => by
                      rw [unhide HUT] at hv
                      rcases List.mem_append.1 hv with hv | hv
                      · exact unhide hcs v hv
                      · rw [List.mem_singleton] at hv; subst hv; exact ⟨unhide HUD, List.mem_cons_of_mem _ huU⟩)
                    clear huU hkb HUC HUT HUD hcs u1
                    go_wp2
                    go_roundw
                    case rel => exact ⟨U, k + 1, by go_num, by omega, hUl, hiU, hide (unhide hI), hide (unhide hXI), hide (unhide hND), hide (unhide HCS), hide (unhide hTo)⟩
                    case measure => simp [intOf]; omega
          · have HIN := hide ((unhide hI).next (unhide hXI) (unhide HSt) (by
              have := unhide hcs
              rw [show k = cs.length by omega, List.take_length] at this
              exact this))
            go_wp2
            go_roundg (gk - 1)
            case rel => exact ⟨U, i + 1, by omega, by omega, hUl, hide (unhide HIN), hide (unhide hND), hide (unhide hTw).s8, hide (unhide hTw).s9, hide (unhide hTw).d89, hide (unhide hTw).bx, hide (unhide hTw).x0, hide (unhide hTw).x1⟩
            case measure => omega)
    · have HF := hide (unhide hD false ⟨fun h => (by cases h), fun h => absurd h ((unhide hI).none (by simp; omega))⟩)
      have hz : (src :: T).drop i = [] := List.drop_eq_nil_of_le (by simp; omega)
      have hQ := unhide hQ9
      rw [hz] at hQ
      obtain ⟨g9, o9, c9, cs9, e9, _⟩ := hQ
      subst e9
      clear hQ9
      go_wp2
      go_ret2
      exact ComesP.mk (unhide HF) (unhide hBx)

set_option maxHeartbeats 2000000 in
set_option maxRecDepth 100000 in
theorem lawComes_any (L : Lay) (ns : List TN) (root : Int) (s : ByteArray) (s2 : ByteArray) (w : World) (hN : NodesAt w L ns) (hw : Wide ns) (hsw : s.size ≤ maxLen) (hsw2 : s2.size ≤ maxLen) (htab : Hid (TabAt w 0 srcWords)) :
    Calls Tryd.prog 15 #[.agg #[.slice L.p ns.length L.cap, .int .i64 root], .string s, .string s2] w fun e w' => e = .returned (.bool true) ∧ Below w.heap.size w w' := by
  have HN := hide hN
  have HW := hide hw
  clear hN hw
  unfold maxLen at hsw hsw2
  by_cases hss : 1048576 < s.size
  · go_enter Tryd.func15, Tryd.ntmps15
    go_wp2
    go_ret
    exact ⟨rfl, nx_alloc _ _⟩
  by_cases hss2 : 1048576 < s2.size
  · go_enter Tryd.func15, Tryd.ntmps15
    go_wp2
    go_ret
    exact ⟨rfl, nx_alloc _ _⟩
  go_enter Tryd.func15, Tryd.ntmps15
  go_wp2_with fail
  refine (szTree_any L ns L.cap root _ ((unhide HN).later (nx_alloc _ _)) (unhide HW)).mono ?_
  rintro e w1 ⟨r, rfl, hr, hb1⟩
  have hB1 := hide (nx_trans (nx_alloc _ _) hb1)
  rcases hr with hr | ⟨hr0, hs⟩
  · go_wp2
    go_ret
    exact ⟨rfl, unhide hB1⟩
  have HS := hide hs
  have c1 : ∀ o, w1.cell? ⟨w.heap.size, o, none⟩ = (w.alloc (.cells #[.slice L.p ns.length L.cap, .int .i64 root] 40)).cell? ⟨w.heap.size, o, none⟩ := fun o => hb1.cell (p := ⟨w.heap.size, o, none⟩) (by simp)
  have d0 : w1.cell? ⟨w.heap.size, 0, none⟩ = some (.slice L.p ns.length L.cap) := by rw [c1]; simp
  have d1 : w1.cell? ⟨w.heap.size, 1, none⟩ = some (.int .i64 root) := by rw [c1]; simp
  clear hs hb1 c1
  go_wp2_with fail
  refine (toTree_any L ns L.cap root w1 ((unhide HN).later (unhide hB1)) (unhide HS)).mono ?_
  rintro e w2 ⟨L2, rfl, hM2, hb2⟩
  have hB2 := hide (nx_trans (unhide hB1) hb2)
  have e0 := cell_later hb2 d0
  have e1 := cell_later hb2 d1
  have HM2 := hide hM2
  clear d0 d1 hb2 hM2
  go_wp2_with fail
  refine (specComes_any ns root s s2 L2 w2 (unhide HM2).nodes (unhide HS) (by omega) (by omega)).mono ?_
  rintro e w3 ⟨ra, ca, rfl, hra, hb3⟩
  have hB3 := hide (nx_trans (unhide hB2) hb3)
  have d0 := cell_later hb3 e0
  have d1 := cell_later hb3 e1
  have HRA := hide hra
  clear e0 e1 hb3 hra HM2
  go_wp2_with fail
  refine (toTree_any L ns L.cap root w3 ((unhide HN).later (unhide hB3)) (unhide HS)).mono ?_
  rintro e w4 ⟨L4, rfl, hM4, hb4⟩
  have hB4 := hide (nx_trans (unhide hB3) hb4)
  have e0 := cell_later hb4 d0
  have e1 := cell_later hb4 d1
  have HM4 := hide hM4
  clear d0 d1 hb4 hM4
  go_wp2_with fail
  refine (implComes_any ns root s s2 L4 _ ((unhide HM4).nodes.later (nx_alloc _ _)) (unhide HS) (by omega) (by omega) (hide ((unhide htab).later (nx_al (unhide hB4))))).mono ?_
  rintro e w5 ⟨rb, cb, rfl, hrb, hb5⟩
  obtain ⟨rfl, rfl⟩ := hrb.det (unhide HRA)
  have hB5 := hide (nx_trans (nx_al (unhide hB4)) hb5)
  have d0 := cell_later hb5 (cell_later (nx_alloc w4 (.cells #[.slice L4.p ns.length L4.cap, .int .i64 root] 25)) e0)
  have d1 := cell_later hb5 (cell_later (nx_alloc w4 (.cells #[.slice L4.p ns.length L4.cap, .int .i64 root] 25)) e1)
  have x0 : w5.cell? ⟨w4.heap.size, 0, none⟩ = some (.slice L4.p ns.length L4.cap) := cell_later hb5 (by simp)
  have x1 : w5.cell? ⟨w4.heap.size, 1, none⟩ = some (.int .i64 root) := cell_later hb5 (by simp)
  have HM5 := hide (((unhide HM4).nodes.later (nx_alloc _ _)).later hb5)
  clear e0 e1 hb5 hrb HM4 HRA
  have HX0 := hide (show w5.drew.cell? ⟨w4.heap.size, 0, none⟩ = some (.slice L4.p ns.length L4.cap) from x0)
  have HX1 := hide (show w5.drew.cell? ⟨w4.heap.size, 1, none⟩ = some (.int .i64 root) from x1)
  have HM6 := hide ((unhide HM5).later (Below.refl _ _).drew)
  have HN6 := hide ((unhide HN).later (unhide hB5).drew)
  have q1 : (rb != rb) = false := by simp
  have q2 : (cb != cb) = false := by simp
  have q3 : (rb == rb) = true := by simp
  have q4 : (cb == cb) = true := by simp
  go_wp2
  go_region_with (first | (go_at_call 25; refine (toTree_any L ns L.cap root w5.drew (unhide HN6) (unhide HS)).mono ?_; rintro e y ⟨L6, rfl, hM6, hby⟩; have y0 := cell_later hby (unhide HX0); have y1 := cell_later hby (unhide HX1); have HMY := hide hM6; have HBY := hide hby; clear hM6 hby) | (go_at_call 27; refine (eqTree_same L4 L6 ns L4.cap L6.cap root y ((unhide HM6).later (unhide HBY)) (unhide HMY).nodes (unhide HS)).mono ?_; rintro e z ⟨rfl, hbz⟩))
  all_goals go_wp2
  all_goals go_ret
  all_goals exact ⟨rfl, nx_trans (nx_trans (nx_drew (unhide hB5)) (unhide HBY)) hbz⟩

end Go.Proofs.YtbipgmikgokfpaaDoor
