/- Connections in variables of a law; two alike. -/
import Derived.Test.YthfoabcmgiiadaaGreatDoorPieceP
import Derived.Test.YthfoabcmgiiadaaGreatDoorAtWalk
import Derived.Test.YthfoabcmgiiadaaGreatDoorWireX4
import Derived.WalkSmall
namespace Go.Proofs.YthfoabcmgiiadaaGreatDoor
open Go.RowKit Go.Joins
set_option linter.unusedVariables false

/-- a connection in a variable's block -/
def CnB (w : World) (b : Nat) (c : CN) (v : Value) : Prop := w.heap[b]? = some (.cells #[.bool c.o, .bool c.e, .string c.i, v, .int .i64 c.n] 25 (0, 0))
theorem CnB.lt {w : World} {b : Nat} {c : CN} {v : Value} (h : CnB w b c v) : b < w.heap.size := (Array.getElem?_eq_some_iff.1 h).1
theorem CnB.below {w w' : World} {b B : Nat} {c : CN} {v : Value} (h : CnB w b c v) (hb : Below B w w') (hB : b < B) : CnB w' b c v := by unfold CnB; rw [hb.block b hB]; exact h
theorem CnB.later {w w' : World} {b : Nat} {c : CN} {v : Value} (h : CnB w b c v) (hb : Below w.heap.size w w') : CnB w' b c v := h.below hb h.lt
theorem CnB.cells {w : World} {b : Nat} {c : CN} {v : Value} (h : CnB w b c v) : w.cell? ⟨b, 0, none⟩ = some (.bool c.o) ∧ w.cell? ⟨b, 1, none⟩ = some (.bool c.e) ∧ w.cell? ⟨b, 2, none⟩ = some (.string c.i) ∧ w.cell? ⟨b, 3, none⟩ = some v ∧ w.cell? ⟨b, 4, none⟩ = some (.int .i64 c.n) :=
  ⟨(cell_of_block h 0).trans rfl, (cell_of_block h 1).trans rfl, (cell_of_block h 2).trans rfl, (cell_of_block h 3).trans rfl, (cell_of_block h 4).trans rfl⟩
theorem CnB.free {w : World} {b : Nat} {c : CN} {v : Value} (h : CnB w b c v) : w.frozen? ⟨b, 0, none⟩ = false ∧ w.frozen? ⟨b, 1, none⟩ = false ∧ w.frozen? ⟨b, 2, none⟩ = false ∧ w.frozen? ⟨b, 3, none⟩ = false ∧ w.frozen? ⟨b, 4, none⟩ = false :=
  ⟨unfrozen_of_block h 0, unfrozen_of_block h 1, unfrozen_of_block h 2, unfrozen_of_block h 3, unfrozen_of_block h 4⟩
theorem CnB.five {w : World} {b : Nat} {c : CN} {v : Value} (h : CnB w b c v) (d : CN) (u : Value) : CnB (fiveC w b d u) b d u := by
  have := block_setCell (i := 4) (block_setCell (i := 3) (block_setCell (i := 2) (block_setCell (i := 1) (block_setCell (i := 0) h (.bool d.o)) (.bool d.e)) (.string d.i)) u) (.int .i64 d.n)
  exact this
theorem CnB.other {w : World} {b g : Nat} {c d : CN} {v u : Value} (h : CnB w b c v) (hg : b ≠ g) : CnB (fiveC w g d u) b c v := by unfold CnB; rw [fiveC_other _ _ _ _ _ hg]; exact h
theorem CnB.new (w : World) (c : CN) (v : Value) (n : Nat) (hn : w.heap.size = n) : CnB (w.alloc (.cells #[.bool c.o, .bool c.e, .string c.i, v, .int .i64 c.n] 25)) n c v := by
  subst hn; show (w.heap.push _)[w.heap.size]? = _; simp
theorem RowSl.five2 {w : World} {g : Nat} {c : CN} {v u : Value} {s : List SL} (h : RowSl w u s) (hv : ∀ j, u.ownBlock = some j → j ≠ g) : RowSl (fiveC w g c v) u s := h.five hv

theorem two_slots {w : World} {p q : Option Addr} {s : List SL} {l : Nat} (hll : s.length = l) (hp : SlotsAt w p s) (hq : SlotsAt w q s) (k : Nat) (hk : k < l) :
    ∃ (sq : Int) (sr : Bool) (st : ByteArray) (b off b' off' : Nat), p = some ⟨b, off, none⟩ ∧ q = some ⟨b', off', none⟩ ∧ (w.cell? ⟨b, off + k * 3, none⟩ = some (.int .i64 sq) ∧ w.cell? ⟨b, off + k * 3 + 1, none⟩ = some (.bool sr) ∧ w.cell? ⟨b, off + k * 3 + 2, none⟩ = some (.string st)) ∧ (w.cell? ⟨b', off' + k * 3, none⟩ = some (.int .i64 sq) ∧ w.cell? ⟨b', off' + k * 3 + 1, none⟩ = some (.bool sr) ∧ w.cell? ⟨b', off' + k * 3 + 2, none⟩ = some (.string st)) := by
  subst hll
  obtain ⟨b, off, rfl, a⟩ := hp k hk
  obtain ⟨b', off', rfl, c⟩ := hq k hk
  exact ⟨_, _, _, b, off, b', off', rfl, rfl, a, c⟩
theorem pc_al {w : World} {g : Nat} {x : Obj} (h : w.heap[g]? = some x) (ob : Obj) : (w.alloc ob).heap[g]? = some x := by
  have hl := (Array.getElem?_eq_some_iff.1 h).1
  show (w.heap.push _)[g]? = _
  rw [Array.getElem?_push, if_neg (by omega)]
  exact h
theorem bool_nself (b : Bool) : (b != b) = false ∧ (b == b) = true := by cases b <;> exact ⟨rfl, rfl⟩

theorem RowSl.empty {w w' : World} {v : Value} (h : RowSl w v []) : RowSl w' v [] := by
  rcases h with h | ⟨b, off, cap, rfl, _⟩
  · exact .inl h
  · exact .inr ⟨b, off, cap, rfl, fun i hi => absurd hi (by simp)⟩
theorem RowSl.lt {w : World} {v : Value} {s : List SL} (h : RowSl w v s) (hs : s ≠ []) : ∀ j, v.ownBlock = some j → j < w.heap.size := by
  rcases h with ⟨rfl, _⟩ | ⟨b, off, cap, rfl, hat⟩
  · exact fun j hj => by cases hj
  · intro j hj
    cases hj
    have h0 : 0 < s.length := List.length_pos_iff.2 hs
    exact World.block_lt_of_cell? _ _ (hat 0 h0).1
theorem RowSl.kept {w w' : World} {v : Value} {s : List SL} (h : RowSl w v s) (hk : s ≠ [] → ∀ j, v.ownBlock = some j → w'.heap[j]? = w.heap[j]?) : RowSl w' v s := by
  by_cases hs : s = []
  · subst hs; exact h.empty
  · rcases h with h | ⟨g, off, cap, rfl, hat⟩
    · exact .inl h
    · have e := hk hs g rfl
      exact .inr ⟨g, off, cap, rfl, fun i hi => ⟨(World.cell?_of_block (a := ⟨g, _, Option.none⟩) e).trans (hat i hi).1, (World.cell?_of_block (a := ⟨g, _, Option.none⟩) e).trans (hat i hi).2.1, (World.cell?_of_block (a := ⟨g, _, Option.none⟩) e).trans (hat i hi).2.2⟩⟩
theorem RowSl.apartC {w : World} {b : Nat} {c : CN} {v u : Value} {s : List SL} (hc : CnB w b c v) (hv : ∃ p n k, v = .slice p n k) (h : RowSl w u s) (hs : s ≠ []) : ∀ j, u.ownBlock = some j → j ≠ b := by
  rcases h with ⟨_, h0⟩ | ⟨g, off, cap, rfl, hat⟩
  · exact absurd h0 hs
  · intro j hj e
    cases hj
    subst e
    have h0 : 0 < s.length := List.length_pos_iff.2 hs
    obtain ⟨a0, a1, _⟩ := hat 0 h0
    obtain ⟨p, n, k, rfl⟩ := hv
    rw [cell_of_block hc] at a0 a1
    match off with
    | 0 => simp at a0
    | 1 => simp at a0
    | 2 => simp at a0
    | 3 => simp at a0
    | 4 => simp at a1
    | off + 5 => simp at a0
theorem RowSl.fiveO {w : World} {b : Nat} {c d : CN} {v u x : Value} {s : List SL} (h : RowSl w u s) (hc : CnB w b c v) (hv : ∃ p n k, v = .slice p n k) : RowSl (fiveC w b d x) u s :=
  h.kept fun hs j hj => fiveC_other _ _ _ _ _ (RowSl.apartC hc hv h hs j hj)
theorem RqB.kept {w w' : World} {base : Nat} {v : Value} {l : List RQ} (h : RqB w base v l) (hk : ∀ j, v.ownBlock = some j → w'.heap[j]? = w.heap[j]?) : RqB w' base v l := by
  refine ⟨h.1, ?_⟩
  rcases h.2 with h | ⟨g, cap, cur, e, hg, hgg, r⟩
  · exact .inl h
  · refine .inr ⟨g, cap, cur, e, hg, ?_, r⟩
    rw [hk g (by rw [e]; rfl)]; exact hgg
theorem two_reqs {w : World} {a b : Option Addr} {l : List RQ} {n : Nat} (hl : l.length = n)
    (ha : ∀ i (hi : i < l.length), ∃ g, a = some ⟨g, 0, none⟩ ∧ w.cell? ⟨g, i * 2, none⟩ = some (.string l[i].p) ∧ w.cell? ⟨g, i * 2 + 1, none⟩ = some (.bool l[i].x) ∧ g < w.heap.size)
    (hb : ∀ i (hi : i < l.length), ∃ g, b = some ⟨g, 0, none⟩ ∧ w.cell? ⟨g, i * 2, none⟩ = some (.string l[i].p) ∧ w.cell? ⟨g, i * 2 + 1, none⟩ = some (.bool l[i].x) ∧ g < w.heap.size) (k : Nat) (hk : k < n) :
    ∃ (p : ByteArray) (x : Bool) (g g' : Nat), a = some ⟨g, 0, none⟩ ∧ b = some ⟨g', 0, none⟩ ∧ w.cell? ⟨g, k * 2, none⟩ = some (.string p) ∧ w.cell? ⟨g, k * 2 + 1, none⟩ = some (.bool x) ∧ w.cell? ⟨g', k * 2, none⟩ = some (.string p) ∧ w.cell? ⟨g', k * 2 + 1, none⟩ = some (.bool x) := by
  subst hl
  obtain ⟨g, e, c1, c2, _⟩ := ha k hk
  obtain ⟨g', e', d1, d2, _⟩ := hb k hk
  exact ⟨_, _, g, g', e, e', c1, c2, d1, d2⟩
theorem RqB.notParts {w : World} {base pb : Nat} {v : Value} {l : List RQ} {cs : Array Value} {fr : Nat × Nat} (h : RqB w base v l) (hp : w.heap[pb]? = some (.cells cs 9 fr)) : v.ownBlock ≠ some pb := by
  intro e
  rcases h.2 with ⟨rfl, _⟩ | ⟨g, cap, cur, rfl, hg, hgg, r⟩
  · cases e
  · cases e
    rw [hgg] at hp
    injection hp with hp
    injection hp with _ hp _
    exact absurd hp (by decide)
theorem wp_appRqX (w : World) {ops : Array Oper} {rest : List Oper} {o : Oper} {a : Act} {Q : Exit → Act → World → Prop} (hgd : o.guard = none) (s x : Operand)
    (ho : o.op = .call { callee := .builtin .append, args := #[s, x], argTypes := #[50, 50] }) (base g : Nat) (v : Value) (vs : List RQ) (c : RQ) (hs : a.eval s = v)
    (hown : RqB w base v vs) (hx : a.eval x = .slice (some ⟨g, 0, none⟩) 1 1) (hc0 : w.cell? ⟨g, 0, none⟩ = some (.string c.p)) (hc1 : w.cell? ⟨g, 1, none⟩ = some (.bool c.x)) (hbase : base ≤ w.heap.size) (hl : vs.length ≤ 1000000)
    (h : ∀ v' w', RqB w' base v' (vs ++ [c]) → Below base w w' → (∀ k, k < w.heap.size → v.ownBlock ≠ some k → w'.heap[k]? = w.heap[k]?) → wpList Tryz.prog ops Q rest (a.put o.dst v') w') : wpList Tryz.prog ops Q (o :: rest) a w := by
  obtain ⟨i0, hi, hz0, hz1, hz2⟩ := info_parts infoRq
  refine wpList_append_own _ hgd s x 50 ho base 31 i0 (.agg #[.string ⟨#[]⟩, .bool false]) 2 24 Tryz.underlying50 hi hz0 hz1 hz2 rfl (by decide) _ _ _ hs hown ⟨g, 0, none⟩ 1 1 [.string c.p, .bool c.x] hx rfl ?_ ?_ (by unfold maxLen; omega) (by omega) hbase ?_
  · intro j u' hj
    match j, hj with
    | 0, hj => simp at hj; subst hj; simpa [Addr.add] using hc0
    | 1, hj => simp at hj; subst hj; simpa [Addr.add] using hc1
    | j + 2, hj => simp at hj
  · intro u' hu'
    simp at hu'
    rcases hu' with rfl | rfl <;> rfl
  · intro v' w' hown' hgrow _
    rw [rqCells_snoc, show vs.length + 1 = (vs ++ [c]).length by simp] at hown'
    exact h v' w' hown' ((Below.refl _ _).grown hgrow hbase (fun j hj => (World.ownsRow.lt hown j hj).1)) (fun k hk hv => hgrow.block k hk (fun e => hv e.symm))

theorem newC_cells {w y : World} (n : Nat) (hn : w.heap.size = n) (hb : Below (w.alloc (.cells #[.bool false, .bool false, .string ⟨#[]⟩, .slice none 0 0, .int .i64 0] 25)).heap.size (w.alloc (.cells #[.bool false, .bool false, .string ⟨#[]⟩, .slice none 0 0, .int .i64 0] 25)) y) : CnB y n ⟨false, false, ⟨#[]⟩, [], 0⟩ (.slice none 0 0) ∧ n < y.heap.size := by
  subst hn
  have h := (CnB.new w ⟨false, false, ⟨#[]⟩, [], 0⟩ (.slice none 0 0) w.heap.size rfl).later hb
  exact ⟨h, h.lt⟩
theorem newC_cellsD {w y : World} (n : Nat) (hn : w.heap.size = n) (hb : Below (w.alloc (.cells #[.bool false, .bool false, .string ⟨#[]⟩, .slice none 0 0, .int .i64 0] 25)).drew.heap.size (w.alloc (.cells #[.bool false, .bool false, .string ⟨#[]⟩, .slice none 0 0, .int .i64 0] 25)).drew y) : CnB y n ⟨false, false, ⟨#[]⟩, [], 0⟩ (.slice none 0 0) ∧ n < y.heap.size :=
  newC_cells n hn (qx_trans (qx_drew (Below.refl _ _)) hb)
theorem piece_cutB {wr y : World} {Do De : Bool} {Di : ByteArray} {Dm code : Int} {Ds : List SL} {p : Option Addr} {n k : Nat} (hN : CnB y wr.heap.size ⟨false, false, ⟨#[]⟩, [], 0⟩ (.slice none 0 0)) (hR : RowSl y (.slice p n k) Ds) (hB : Below (wr.alloc (.cells #[.bool false, .bool false, .string ⟨#[]⟩, .slice none 0 0, .int .i64 0] 25)).drew.heap.size (wr.alloc (.cells #[.bool false, .bool false, .string ⟨#[]⟩, .slice none 0 0, .int .i64 0] 25)).drew y) :
    ∃ (bx : Nat) (v' : Value), Value.pointer (some ⟨wr.heap.size, 0, none⟩) = .pointer (some ⟨bx, 0, none⟩) ∧ Value.int .i64 code = .int .i64 code ∧ wr.heap.size ≤ bx ∧ Hid (CnB (((((y.setCell ⟨wr.heap.size, 0, none⟩ (.bool Do)).setCell ⟨wr.heap.size, 1, none⟩ (.bool De)).setCell ⟨wr.heap.size, 2, none⟩ (.string Di)).setCell ⟨wr.heap.size, 3, none⟩ (.slice p n k)).setCell ⟨wr.heap.size, 4, none⟩ (.int .i64 Dm)) bx ⟨Do, De, Di, Ds, Dm⟩ v') ∧ Hid (RowSl (((((y.setCell ⟨wr.heap.size, 0, none⟩ (.bool Do)).setCell ⟨wr.heap.size, 1, none⟩ (.bool De)).setCell ⟨wr.heap.size, 2, none⟩ (.string Di)).setCell ⟨wr.heap.size, 3, none⟩ (.slice p n k)).setCell ⟨wr.heap.size, 4, none⟩ (.int .i64 Dm)) v' Ds) ∧ Hid (Below wr.heap.size wr (((((y.setCell ⟨wr.heap.size, 0, none⟩ (.bool Do)).setCell ⟨wr.heap.size, 1, none⟩ (.bool De)).setCell ⟨wr.heap.size, 2, none⟩ (.string Di)).setCell ⟨wr.heap.size, 3, none⟩ (.slice p n k)).setCell ⟨wr.heap.size, 4, none⟩ (.int .i64 Dm))) := by
  have h1 := hN.five ⟨Do, De, Di, Ds, Dm⟩ (.slice p n k)
  have h2 := hR.fiveO (d := ⟨Do, De, Di, Ds, Dm⟩) (x := .slice p n k) hN ⟨_, _, _, rfl⟩
  have h3 : Below wr.heap.size wr y := qx_trans (qx_drew (qx_alloc wr _)) hB
  have h4 := fiveC.below (g := wr.heap.size) (c := ⟨Do, De, Di, Ds, Dm⟩) (v := .slice p n k) h3 (Nat.le_refl _)
  exact ⟨wr.heap.size, .slice p n k, rfl, rfl, Nat.le_refl _, hide h1, hide h2, hide h4⟩
theorem piece_cutA {wr y : World} {Do De : Bool} {Di : ByteArray} {Dm code : Int} {Ds : List SL} {p : Option Addr} {n k : Nat} (hR : RowSl y (.slice p n k) Ds) (hB : Below wr.drew.heap.size wr.drew y) :
    ∃ (bx : Nat) (v' : Value), Value.pointer (some ⟨y.heap.size, 0, none⟩) = .pointer (some ⟨bx, 0, none⟩) ∧ Value.int .i64 code = .int .i64 code ∧ wr.heap.size ≤ bx ∧ Hid (CnB (y.alloc (.cells #[.bool Do, .bool De, .string Di, .slice p n k, .int .i64 Dm] 25)) bx ⟨Do, De, Di, Ds, Dm⟩ v') ∧ Hid (RowSl (y.alloc (.cells #[.bool Do, .bool De, .string Di, .slice p n k, .int .i64 Dm] 25)) v' Ds) ∧ Hid (Below wr.heap.size wr (y.alloc (.cells #[.bool Do, .bool De, .string Di, .slice p n k, .int .i64 Dm] 25))) := by
  have h3 : Below wr.heap.size wr y := qx_trans (qx_drew (Below.refl _ _)) hB
  exact ⟨y.heap.size, .slice p n k, rfl, rfl, h3.size, hide (CnB.new y ⟨Do, De, Di, Ds, Dm⟩ (.slice p n k) y.heap.size rfl), hide (hR.later (qx_alloc _ _)), hide (qx_al h3)⟩
/-- a law's connection that is asked for requests, and those read so far; all else below base is as it was in W0 -/
structure PcR (w W0 wr : World) (ob base : Nat) (c : CN) (f : Value) (l : List RQ) : Prop where
  var : ∃ v, CnB wr ob c v ∧ RowSl wr v c.s
  req : RqB wr base f l
  kp : ∀ k, k < base → k ≠ ob → wr.heap[k]? = W0.heap[k]?
  bel : Below w.heap.size w wr
  sz : base ≤ wr.heap.size
theorem PcR.later {w W0 wr u : World} {ob base : Nat} {c : CN} {f : Value} {l : List RQ} (h : PcR w W0 wr ob base c f l) (hb : Below wr.heap.size wr u) : PcR w W0 u ob base c f l := by
  obtain ⟨v, h1, h2⟩ := h.var
  exact ⟨⟨v, h1.later hb, h2.later hb⟩, h.req.later hb, fun k hk hko => (hb.block k (Nat.lt_of_lt_of_le hk h.sz)).trans (h.kp k hk hko), qx_trans h.bel hb, Nat.le_trans h.sz hb.size⟩
/-- where a call answered y-wards: the variable's new value lies in v' -/
theorem PcR.next {w W0 wr u : World} {ob base : Nat} {c d : CN} {f f' : Value} {l l' : List RQ} {v' : Value} (h : PcR w W0 wr ob base c f l) (hob : ob < base) (hwo : w.heap.size ≤ ob)
    (hq : RqB u base f' l') (hk : ∀ k, k < base → u.heap[k]? = wr.heap[k]?) (hz : base ≤ u.heap.size) (hr : RowSl u v' d.s) (hb : Below w.heap.size w u) : PcR w W0 (fiveC u ob d v') ob base d f' l' := by
  obtain ⟨v, hc, hrow⟩ := h.var
  have hcu : CnB u ob c v := by unfold CnB; rw [hk ob hob]; exact hc
  obtain ⟨p, n, k, hv, _⟩ : ∃ p n k, v = .slice p n k ∧ True := by
    obtain ⟨p, k, e, _⟩ := hrow.slice
    exact ⟨p, _, k, e, trivial⟩
  refine ⟨⟨v', hcu.five d v', hr.fiveO hcu ⟨p, n, k, hv⟩⟩, hq.kept fun j hj => fiveC_other _ _ _ _ _ (by have := (hq.own_lt j hj).1; omega), fun k hkb hko => (fiveC_other _ _ _ _ _ hko).trans ((hk k hkb).trans (h.kp k hkb hko)), ?_, ?_⟩
  · exact qx_set (qx_set (qx_set (qx_set (qx_set hb hwo) hwo) hwo) hwo) hwo
  · show base ≤ (fiveC u ob d v').heap.size
    unfold fiveC
    simpa using hz

set_option maxHeartbeats 2000000 in
set_option maxRecDepth 100000 in
theorem sameConn_same (c : CN) (v u : Value) (w : World) (hv : RowSl w v c.s) (hu : RowSl w u c.s) (hl6 : c.s.length ≤ 1000) :
    Calls Tryz.prog 21 #[cnV c v, cnV c u] w fun e w' => e = .returned (.bool true) ∧ Below w.heap.size w w' := by
  obtain ⟨p, cp, rfl, hp⟩ := hv.slice
  obtain ⟨q, cq, rfl, hq⟩ := hu.slice
  obtain ⟨o, e, i, s, n⟩ := c
  dsimp only [cnV] at *
  have HP := hide (fun (W : World) (hb : Below w.heap.size w W) k hk => two_slots rfl (hp.later hb) (hq.later hb) k hk)
  clear hv hu hp hq
  have b1 := (bool_nself o).1
  have b2 := (bool_nself e).1
  have q1 := qa_nself i
  have q2 := ql_nself i
  generalize hsl : s.length = l at *
  clear hsl
  have HW := hide (qx_al (o := .cells #[.bool o, .bool e, .string i, .slice q l cq, .int .i64 n] 25) (qx_alloc w (.cells #[.bool o, .bool e, .string i, .slice p l cp, .int .i64 n] 25)))
  have HX : Hid (((w.alloc (.cells #[.bool o, .bool e, .string i, .slice p l cp, .int .i64 n] 25)).alloc (.cells #[.bool o, .bool e, .string i, .slice q l cq, .int .i64 n] 25)).cell? ⟨w.heap.size, 3, none⟩ = some (.slice p l cp) ∧ ((w.alloc (.cells #[.bool o, .bool e, .string i, .slice p l cp, .int .i64 n] 25)).alloc (.cells #[.bool o, .bool e, .string i, .slice q l cq, .int .i64 n] 25)).cell? ⟨w.heap.size + 1, 3, none⟩ = some (.slice q l cq)) := hide (by constructor <;> simp)
  go_enter Tryz.func21, Tryz.ntmps21
  go_wp2
  generalize ((w.alloc (.cells #[.bool o, .bool e, .string i, .slice p l cp, .int .i64 n] 25)).alloc (.cells #[.bool o, .bool e, .string i, .slice q l cq, .int .i64 n] 25)) = W at *
  go_loopw [5] (fun x wx => ∃ k : Nat, k ≤ l ∧ x = .int .i64 k ∧ Hid (Below W.heap.size W wx)) (fun x _ => l - (intOf x).toNat)
  case atStart => exact ⟨0, by omega, rfl, hide (Below.refl _ _)⟩
  case round =>
    obtain ⟨k, hk, rfl, hnx⟩ := hrel
    have y1 := cell_later (unhide hnx) (unhide HX).1
    have y2 := cell_later (unhide hnx) (unhide HX).2
    by_cases hlt : k < l
    · obtain ⟨sq, sr, st, b, off, b', off', rfl, rfl, ⟨a0, a1, a2⟩, ⟨c0, c1, c2⟩⟩ := unhide HP wr (qx_trans (unhide HW) (unhide hnx)) k hlt
      have hlt' : (k : Int) < (l : Int) := by omega
      have b3 := (bool_nself sr).1
      have b4 := (bool_nself sr).2
      have q3 := qa_nself st
      have q4 := ql_nself st
      have q5 := qa_self st
      have q6 := ql_self st
      clear HP HX
      go_wp2
      go_quiet (fail)
      go_wp2
      go_roundw
      case rel => exact ⟨k + 1, by omega, by go_num, hide (below_drewN (unhide hnx) _)⟩
      case measure => simp [intOf]; omega
    · go_wp2
      go_ret
      exact ⟨rfl, qx_trans (unhide HW) (unhide hnx)⟩

end Go.Proofs.YthfoabcmgiiadaaGreatDoor
