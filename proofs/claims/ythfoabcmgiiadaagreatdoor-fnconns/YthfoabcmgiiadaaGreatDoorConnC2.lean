/- The program's lines: a connection made anew, and its methods. -/
import Derived.Test.YthfoabcmgiiadaaGreatDoorConnC1
import Derived.StillTailTactics
import Derived.Deep.RegionLaw
namespace Go.Proofs.YthfoabcmgiiadaaGreatDoor
open Go.RowKit Go.Joins
set_option linter.unusedVariables false

/-- a line in a block of one's own; v is its row of slots -/
structure LnAt (w : World) (base b : Nat) (c : CN) (v : Value) : Prop where
  hb : base ≤ b
  blk : w.heap[b]? = some (.cells #[.bool c.o, .bool c.e, .string c.i, v, .int .i64 c.n] 57 (0, 0))
  row : SlBuf w base v c.s
  ne : ∀ j, v.ownBlock = some j → j ≠ b
theorem LnAt.lt {w : World} {base b : Nat} {c : CN} {v : Value} (h : LnAt w base b c v) : b < w.heap.size := (Array.getElem?_eq_some_iff.1 h.blk).1
theorem LnAt.cells {w : World} {base b : Nat} {c : CN} {v : Value} (h : LnAt w base b c v) : w.cell? ⟨b, 0, none⟩ = some (.bool c.o) ∧ w.cell? ⟨b, 1, none⟩ = some (.bool c.e) ∧ w.cell? ⟨b, 2, none⟩ = some (.string c.i) ∧ w.cell? ⟨b, 3, none⟩ = some v ∧ w.cell? ⟨b, 4, none⟩ = some (.int .i64 c.n) :=
  ⟨(cell_of_block h.blk 0).trans rfl, (cell_of_block h.blk 1).trans rfl, (cell_of_block h.blk 2).trans rfl, (cell_of_block h.blk 3).trans rfl, (cell_of_block h.blk 4).trans rfl⟩
theorem LnAt.free {w : World} {base b : Nat} {c : CN} {v : Value} (h : LnAt w base b c v) (i : Nat) : w.frozen? ⟨b, i, none⟩ = false := unfrozen_of_block h.blk i
theorem LnAt.later {w w' : World} {base b : Nat} {c : CN} {v : Value} (h : LnAt w base b c v) (hb : Below w.heap.size w w') : LnAt w' base b c v :=
  ⟨h.hb, by rw [hb.block b h.lt]; exact h.blk, h.row.later hb, h.ne⟩
theorem SlBuf.apart {w : World} {base b o : Nat} {v u : Value} {s : List SL} (h : SlBuf w base v s) (ne : ∀ j, v.ownBlock = some j → j ≠ b) : SlBuf (w.setCell ⟨b, o, none⟩ u) base v s := by
  refine ⟨h.1, ?_⟩
  rcases h.2 with h | ⟨g, cap, cur, e, hg, hgg, r⟩
  · exact .inl h
  · refine .inr ⟨g, cap, cur, e, hg, ?_, r⟩
    rw [Below.heap_setCell _ _ _ _ (ne g (by rw [e]; rfl))]; exact hgg
/-- a line just made -/
theorem LnAt.new (w : World) (base : Nat) (c : CN) (v : Value) (n : Nat) (hn : w.heap.size = n) (hbase : base ≤ n) (hrow : SlBuf w base v c.s) : LnAt (w.alloc (.cells #[.bool c.o, .bool c.e, .string c.i, v, .int .i64 c.n] 57)) base n c v := by
  subst hn
  refine ⟨hbase, ?_, hrow.alloc _, fun j hj => ?_⟩
  · show (w.heap.push _)[w.heap.size]? = _
    rw [Array.getElem?_push, if_pos rfl]
  · have := hrow.own_lt j hj
    omega
theorem LnAt.setI {w : World} {base b : Nat} {c : CN} {v : Value} (h : LnAt w base b c v) (i : ByteArray) : LnAt (w.setCell ⟨b, 2, none⟩ (.string i)) base b { c with i := i } v :=
  ⟨h.hb, by have := block_setCell (i := 2) h.blk (.string i); exact this, h.row.apart h.ne, h.ne⟩
theorem LnAt.setE {w : World} {base b : Nat} {c : CN} {v : Value} (h : LnAt w base b c v) (e : Bool) : LnAt (w.setCell ⟨b, 1, none⟩ (.bool e)) base b { c with e := e } v :=
  ⟨h.hb, by have := block_setCell (i := 1) h.blk (.bool e); exact this, h.row.apart h.ne, h.ne⟩
theorem LnAt.setN {w : World} {base b : Nat} {c : CN} {v : Value} (h : LnAt w base b c v) (n : Int) : LnAt (w.setCell ⟨b, 4, none⟩ (.int .i64 n)) base b { c with n := n } v :=
  ⟨h.hb, by have := block_setCell (i := 4) h.blk (.int .i64 n); exact this, h.row.apart h.ne, h.ne⟩

/-- a line in a block: what its methods read -/
structure LnB (w : World) (b : Nat) (c : CN) (v : Value) : Prop where
  blk : w.heap[b]? = some (.cells #[.bool c.o, .bool c.e, .string c.i, v, .int .i64 c.n] 57 (0, 0))
  sl : ∃ p cap, v = .slice p c.s.length cap
theorem LnAt.b {w : World} {base b : Nat} {c : CN} {v : Value} (h : LnAt w base b c v) : LnB w b c v := ⟨h.blk, h.row.slice⟩
theorem LnB.lt {w : World} {b : Nat} {c : CN} {v : Value} (h : LnB w b c v) : b < w.heap.size := (Array.getElem?_eq_some_iff.1 h.blk).1
theorem LnB.cells {w : World} {b : Nat} {c : CN} {v : Value} (h : LnB w b c v) : w.cell? ⟨b, 0, none⟩ = some (.bool c.o) ∧ w.cell? ⟨b, 1, none⟩ = some (.bool c.e) ∧ w.cell? ⟨b, 2, none⟩ = some (.string c.i) ∧ w.cell? ⟨b, 3, none⟩ = some v ∧ w.cell? ⟨b, 4, none⟩ = some (.int .i64 c.n) :=
  ⟨(cell_of_block h.blk 0).trans rfl, (cell_of_block h.blk 1).trans rfl, (cell_of_block h.blk 2).trans rfl, (cell_of_block h.blk 3).trans rfl, (cell_of_block h.blk 4).trans rfl⟩
theorem LnB.free {w : World} {b : Nat} {c : CN} {v : Value} (h : LnB w b c v) (i : Nat) : w.frozen? ⟨b, i, none⟩ = false := unfrozen_of_block h.blk i
theorem LnB.later {w w' : World} {b : Nat} {c : CN} {v : Value} (h : LnB w b c v) (hb : Below w.heap.size w w') : LnB w' b c v := ⟨by rw [hb.block b h.lt]; exact h.blk, h.sl⟩
theorem LnB.shut {w : World} {b : Nat} {c : CN} {v : Value} (h : LnB w b c v) : LnB (((((w.setCell ⟨b, 0, none⟩ (.bool false)).setCell ⟨b, 1, none⟩ (.bool false)).setCell ⟨b, 2, none⟩ (.string ⟨#[]⟩)).setCell ⟨b, 3, none⟩ (.slice none 0 0)).setCell ⟨b, 4, none⟩ (.int .i64 c.n)) b ⟨false, false, ⟨#[]⟩, [], c.n⟩ (.slice none 0 0) :=
  ⟨by have := block_setCell (i := 4) (block_setCell (i := 3) (block_setCell (i := 2) (block_setCell (i := 1) (block_setCell (i := 0) h.blk (.bool false)) (.bool false)) (.string ⟨#[]⟩)) (.slice none 0 0)) (.int .i64 c.n); exact this, ⟨none, 0, rfl⟩⟩

theorem takes_any {w : World} {b : Nat} {c : CN} {v : Value} (h : LnB w b c v) :
    Calls Tryz.prog 39 #[.pointer (some ⟨b, 0, none⟩)] w fun e w' => e = .returned (.bool (c.o && !c.e)) ∧ w' = w := by
  obtain ⟨c0, c1, c2, c3, c4⟩ := h.cells
  obtain ⟨o, e, i, s, n⟩ := c
  dsimp only at *
  clear h c2 c3 c4
  cases o
  · cases e
    · go_enter Tryz.func39, Tryz.ntmps39
      go_wp2
      go_ret
      exact ⟨rfl, rfl⟩
    · go_enter Tryz.func39, Tryz.ntmps39
      go_wp2
      go_ret
      exact ⟨rfl, rfl⟩
  · cases e
    · go_enter Tryz.func39, Tryz.ntmps39
      go_wp2
      go_ret
      exact ⟨rfl, rfl⟩
    · go_enter Tryz.func39, Tryz.ntmps39
      go_wp2
      go_ret
      exact ⟨rfl, rfl⟩

theorem room_any {w : World} {b : Nat} {c : CN} {v : Value} (h : LnB w b c v) (hz : c.i.size ≤ 400) :
    Calls Tryz.prog 40 #[.pointer (some ⟨b, 0, none⟩)] w fun e w' => e = .returned (.int .i64 (400 - (c.i.size : Int))) ∧ w' = w := by
  obtain ⟨c0, c1, c2, c3, c4⟩ := h.cells
  clear h c0 c1 c3 c4
  go_enter Tryz.func40, Tryz.ntmps40
  go_wp2
  go_ret
  exact ⟨rfl, rfl⟩

theorem qsize_any {w : World} {b : Nat} {c : CN} {v : Value} (h : LnB w b c v) :
    Calls Tryz.prog 46 #[.pointer (some ⟨b, 3, none⟩)] w fun e w' => e = .returned (.int .i64 (c.s.length : Int)) ∧ w' = w := by
  obtain ⟨c0, c1, c2, c3, c4⟩ := h.cells
  obtain ⟨p, cap, rfl⟩ := h.sl
  clear h c0 c1 c2 c4
  generalize c.s.length = l at *
  go_enter Tryz.func46, Tryz.ntmps46
  go_wp2
  go_ret
  exact ⟨rfl, rfl⟩

set_option maxHeartbeats 2000000 in
set_option maxRecDepth 100000 in
theorem conn_any {w : World} {b : Nat} {c : CN} {v : Value} (h : LnB w b c v) :
    Calls Tryz.prog 27 #[.pointer (some ⟨b, 0, none⟩)] w fun e w' => e = .returned (cnV c v) ∧ Below w.heap.size w w' := by
  obtain ⟨c0, c1, c2, c3, c4⟩ := h.cells
  obtain ⟨p, cap, rfl⟩ := h.sl
  have hbl := h.lt
  clear h
  obtain ⟨o, e, i, s, n⟩ := c
  dsimp only [cnV] at *
  generalize s.length = l at *
  go_enter Tryz.func27, Tryz.ntmps27
  go_wp2
  go_region
  all_goals go_wp2
  all_goals exact bodyPost_ret (v := .agg #[.bool o, .bool e, .string i, .slice p l cap, .int .i64 n]) (by simp [results, Tryz.results27, go_sem]) rfl ⟨rfl, qx_drew (qx_alloc _ _)⟩

set_option maxHeartbeats 2000000 in
theorem lend_any {w : World} {base b : Nat} {c : CN} {v : Value} (h : LnAt w base b c v) :
    Calls Tryz.prog 49 #[.pointer (some ⟨b, 0, none⟩)] w fun e w' => e = .returned (.tuple #[]) ∧ LnAt w' base b { c with i := ⟨#[]⟩, e := true } v ∧ Below base w w' ∧ ∀ k, k ≠ b → w'.heap[k]? = w.heap[k]? := by
  have HF := hide ((h.setI ⟨#[]⟩).setE true)
  obtain ⟨c0, c1, c2, c3, c4⟩ := h.cells
  have f1 := h.free 1
  have f2 := h.free 2
  have hbl := h.lt
  have hbb := h.hb
  clear h
  go_enter Tryz.func49, Tryz.ntmps49
  go_wp2
  go_end0
  exact ⟨rfl, unhide HF, ((Below.refl _ _).setCell hbb _).setCell hbb _, fun k hk => (Below.heap_setCell _ ⟨b, 1, none⟩ _ k (by exact hk)).trans (Below.heap_setCell _ ⟨b, 2, none⟩ _ k (by exact hk))⟩

set_option maxHeartbeats 2000000 in
theorem shut_any {w : World} {base b : Nat} {c : CN} {v : Value} (h : LnB w b c v) (hbb : base ≤ b) :
    Calls Tryz.prog 56 #[.pointer (some ⟨b, 0, none⟩)] w fun e w' => e = .returned (.tuple #[]) ∧ LnB w' b ⟨false, false, ⟨#[]⟩, [], c.n⟩ (.slice none 0 0) ∧ Below base w w' ∧ ∀ k, k ≠ b → w'.heap[k]? = w.heap[k]? := by
  have HF := hide h.shut
  obtain ⟨c0, c1, c2, c3, c4⟩ := h.cells
  have f0 := h.free 0
  have f1 := h.free 1
  have f2 := h.free 2
  have f3 := h.free 3
  have f4 := h.free 4
  have hbl := h.lt
  clear h
  go_enter Tryz.func56, Tryz.ntmps56
  go_wp2
  go_end0
  exact ⟨rfl, unhide HF, (((((Below.refl _ _).setCell hbb _).setCell hbb _).setCell hbb _).setCell hbb _).setCell hbb _, fun k hk => (Below.heap_setCell _ ⟨b, 4, none⟩ _ k (by exact hk)).trans ((Below.heap_setCell _ ⟨b, 3, none⟩ _ k (by exact hk)).trans ((Below.heap_setCell _ ⟨b, 2, none⟩ _ k (by exact hk)).trans ((Below.heap_setCell _ ⟨b, 1, none⟩ _ k (by exact hk)).trans (Below.heap_setCell _ ⟨b, 0, none⟩ _ k (by exact hk)))))⟩

/-- where a row of slots lies behind an append -/
structure SlX (w w' : World) (base : Nat) (v v' : Value) (s : List SL) : Prop where
  row : SlBuf w' base v' s
  block : ∀ k, k < w.heap.size → v.ownBlock ≠ some k → w'.heap[k]? = w.heap[k]?
  own : ∀ j, v'.ownBlock = some j → v.ownBlock = some j ∨ w.heap.size ≤ j
  below : Below base w w'
theorem appendK_where {P : Program} (w : World) (base : Nat) (t ty e : TypeId) (i : TypeInfo) (z : Value) (size bytes : Nat) (ht : P.underlying t = some (.slice e)) (hi : P.info? e = some i) (hz : i.zero = some z)
    (hsize : i.size = size) (hby : i.bytes = bytes) (v : Value) (n : Nat) (xs : List Value) (hown : w.ownsRow base e size v n xs) (a : Addr) (m c : Nat) (hm : 0 < m) (news : List Value) (hl : news.length = m * size) (hnews : ∀ j u, news[j]? = some u → w.cell? (a.add j) = some u) (h1 : ∀ u ∈ news, u.oneCell' = true)
    (h63 : n + m ≤ maxLen) (hbytes : (n + m) * bytes ≤ 140737488355328) (v' : Value) (w' : World) (hr : (Builtin.append_ #[t, t] ty #[v, .slice (some a) m c]).run P w = .ok v' w') : v'.ownBlock = v.ownBlock ∨ v'.ownBlock = some w.heap.size := by
  subst hsize
  subst hby
  have hsmall : n + m ≤ 9223372036854775807 := by simp only [maxLen] at h63; omega
  rcases hown.2 with ⟨rfl, rfl⟩ | ⟨g, cap, cur, rfl, hbg, hg, hnc, hcm, hcs, htake⟩
  · have hr' := run_append_nil (P := P) w t ty e i z ht hi hz a m c news hl hnews (by omega) (by omega) (by have hb := hbytes; simp only [Nat.zero_add] at hb; omega)
    rw [hr'] at hr
    cases hr
    exact .inr rfl
  · by_cases hroom : n + m ≤ cap
    · have hfit : n * i.size + news.length ≤ cur.size := by rw [hl, hcs, ← Nat.add_mul]; exact Nat.mul_le_mul_right _ hroom
      have hr' := run_append_room (P := P) w t ty e i ht hi g n cap cur hg a m c news hl hnews h1 hroom hfit
      rw [hr'] at hr
      cases hr
      exact .inl rfl
    · have holds : ∀ j u, xs[j]? = some u → w.cell? ((⟨g, 0, none⟩ : Addr).add j) = some u := hown.cells (g := g) rfl
      have hr' := run_append_grow (P := P) w t ty e i z ht hi hz ⟨g, 0, none⟩ n cap xs hown.1 holds a m c news hl hnews (by omega) (by omega) (growslice_fits (by omega) hbytes)
      rw [hr'] at hr
      cases hr
      exact .inr rfl
theorem step_appSl (w : World) {ops : Array Oper} {o : Oper} {a : Act} {K : Act → World → Prop} {Q : Exit → Act → World → Prop} {E : Prop} (hgd : o.guard = none) (s x : Operand)
    (ho : o.op = .call { callee := .builtin .append, args := #[s, x], argTypes := #[23, 23] }) (B q : Nat) (v : Value) (vs : List SL) (c : SL) (hs : a.eval s = v)
    (hrow : SlBuf w B v vs) (hx : a.eval x = .slice (some ⟨q, 0, none⟩) 1 1)
    (hc0 : w.cell? ⟨q, 0, none⟩ = some (.int .i64 c.q)) (hc1 : w.cell? ⟨q, 1, none⟩ = some (.bool c.r)) (hc2 : w.cell? ⟨q, 2, none⟩ = some (.string c.t)) (hB : B ≤ w.heap.size) (hl : vs.length ≤ 1000000)
    (h : ∀ v' w', SlX w w' B v v' (vs ++ [c]) → K (a.put o.dst v') w') : if Region.wanted o (yielded ops a.tmps) = true then Oper.wp Tryz.prog o a w K Q else E := by
  have hw : Region.wanted o (yielded ops a.tmps) = true := by simp [Region.wanted, hgd]
  rw [if_pos hw]
  obtain ⟨i0, hi, hz0, hz1, hz2⟩ := info_parts infoSl
  have hnews : ∀ j u, (cellsK c)[j]? = some u → w.cell? ((⟨q, 0, none⟩ : Addr).add j) = some u := by
    intro j u' hj
    match j, hj with
    | 0, hj => simp [cellsK] at hj; subst hj; simpa [Addr.add] using hc0
    | 1, hj => simp [cellsK] at hj; subst hj; simpa [Addr.add] using hc1
    | 2, hj => simp [cellsK] at hj; subst hj; simpa [Addr.add] using hc2
    | j + 3, hj => simp [cellsK] at hj
  have h1 : ∀ u ∈ cellsK c, u.oneCell' = true := by
    intro u' hu'
    simp [cellsK] at hu'
    rcases hu' with rfl | rfl | rfl <;> rfl
  obtain ⟨v', w', hr, h2, h3, h4⟩ := run_append_own (P := Tryz.prog) w B 23 o.type 66 i0 _ 3 32 Tryz.underlying23 hi hz0 hz1 hz2 rfl (by decide) v vs.length (slCells vs) hrow ⟨q, 0, none⟩ 1 1 (cellsK c) rfl hnews h1 (by unfold maxLen; omega) (by omega) (by omega)
  have hwh := appendK_where (P := Tryz.prog) w B 23 o.type 66 i0 _ 3 32 Tryz.underlying23 hi hz0 hz1 hz2 v vs.length (slCells vs) hrow ⟨q, 0, none⟩ 1 1 (by omega) (cellsK c) rfl hnews h1 (by unfold maxLen; omega) (by omega) v' w' hr
  have hb := (Below.refl _ _).grown h3 hB (fun j hj => (World.ownsRow.lt hrow j hj).1)
  unfold Oper.wp execOp
  simp only [ho, resolve, invoke, builtin, Sem.run_bind, Sem.run_pure, Result.andThen_ok, List.map_toArray, List.map_cons, List.map_nil, hs, hx, hr]
  rw [← slCells_snoc, show vs.length + 1 = (vs ++ [c]).length by simp] at h2
  refine h v' w' ⟨h2, fun k hk hv => h3.block k hk (fun e => hv e.symm), fun j hj => ?_, hb⟩
  rcases hwh with e | e
  · exact .inl (e ▸ hj)
  · rw [e] at hj
    exact .inr (by have := Option.some.inj hj; omega)
theorem LnAt.put {w w9 : World} {base b : Nat} {c : CN} {v v9 : Value} {x : SL} (h : LnAt w base b c v) (hR : SlX w w9 base v v9 (c.s ++ [x])) : LnAt (w9.setCell ⟨b, 3, none⟩ v9) base b { c with s := c.s ++ [x] } v9 := by
  have hbk : w9.heap[b]? = w.heap[b]? := hR.block b h.lt (fun e => h.ne b e rfl)
  have hne : ∀ j, v9.ownBlock = some j → j ≠ b := fun j hj => by
    rcases hR.own j hj with e | e
    · exact h.ne j e
    · have := h.lt
      omega
  exact ⟨h.hb, by have := block_setCell (i := 3) (hbk.trans h.blk) v9; exact this, hR.row.apart hne, hne⟩

set_option maxHeartbeats 2000000 in
set_option maxRecDepth 100000 in
theorem join_any {w : World} {base b : Nat} {c : CN} {v : Value} (x : SL) (h : LnAt w base b c v) (hl : c.s.length ≤ 1000) :
    Calls Tryz.prog 45 #[.pointer (some ⟨b, 3, none⟩), .agg #[.int .i64 x.q, .bool x.r, .string x.t]] w fun e w' => e = .returned (.tuple #[]) ∧ ∃ v', LnAt w' base b { c with s := c.s ++ [x] } v' ∧ Below base w w' ∧ ∀ k, k < w.heap.size → k ≠ b → v.ownBlock ≠ some k → w'.heap[k]? = w.heap[k]? := by
  obtain ⟨va, vc, hv⟩ := h.row.slice
  have hbl := h.lt
  have hb8 : Below w.heap.size w ((w.alloc (.cells #[.int .i64 x.q, .bool x.r, .string x.t] 66)).alloc (.cells #[.int .i64 x.q, .bool x.r, .string x.t] 66)).drew := qx_drew (qx_al (qx_alloc _ _))
  have HC8 := hide (h.later hb8)
  have HB8 := hide hb8
  have HBX : Hid (((w.alloc (.cells #[.int .i64 x.q, .bool x.r, .string x.t] 66)).alloc (.cells #[.int .i64 x.q, .bool x.r, .string x.t] 66)).drew.heap[w.heap.size + 1]? = some (.cells #[.int .i64 x.q, .bool x.r, .string x.t] 66 (0, 0))) := hide (by
    show ((w.heap.push _).push _)[w.heap.size + 1]? = _
    rw [Array.getElem?_push, if_pos (by simp)])
  have n0 := (cell_of_block (unhide HBX) 0).trans rfl
  have n1 := (cell_of_block (unhide HBX) 1).trans rfl
  have n2 := (cell_of_block (unhide HBX) 2).trans rfl
  have hBs : base ≤ w.heap.size := by have := h.hb; omega
  have hBs8 : base ≤ ((w.alloc (.cells #[.int .i64 x.q, .bool x.r, .string x.t] 66)).alloc (.cells #[.int .i64 x.q, .bool x.r, .string x.t] 66)).drew.heap.size := Nat.le_trans hBs hb8.size
  have hbb := h.hb
  obtain ⟨c0, c1, c2, c3, c4⟩ := h.cells
  rw [hv] at c3
  have HV := hide hv
  clear h hv hb8 HBX c0 c1 c2 c4
  go_enter Tryz.func45, Tryz.ntmps45
  go_wp2
  go_region_law (refine step_appSl _ (by rfl) _ _ (by rfl) base (w.heap.size + 1) v c.s x (by rw [unhide HV]; rfl) (unhide HC8).row (by rfl) n0 n1 n2 hBs8 (by omega) ?_; intro v9 w9 hR9; obtain ⟨a9, k9, hv9⟩ := hR9.row.slice; subst hv9; have y3 := (World.cell?_of_block (hR9.block b (unhide HC8).lt (fun e => (unhide HC8).ne b e rfl))).trans (unhide HC8).cells.2.2.2.1; have zz3 := unfrozen_of_block ((hR9.block b (unhide HC8).lt (fun e => (unhide HC8).ne b e rfl)).trans (unhide HC8).blk) 3)
  all_goals
    have hP := (unhide HC8).put hR9
    have hB9 := ((unhide HB8).mono hBs).trans hR9.below
    rw [show (c.s ++ [x]).length = c.s.length + 1 by simp] at hP
    have HF := hide hP
    have HG := hide (hB9.setCell (p := ⟨b, 3, none⟩) hbb (.slice a9 (c.s.length + 1) k9))
    have HK := hide (fun k (hk : k < w.heap.size) (hkb : k ≠ b) (hkv : v.ownBlock ≠ some k) => (Below.heap_setCell w9 ⟨b, 3, none⟩ (.slice a9 (c.s.length + 1) k9) k (by exact hkb)).trans ((hR9.block k (Nat.lt_of_lt_of_le hk (unhide HB8).size) hkv).trans ((unhide HB8).block k hk)))
    clear hP hR9 zz3 hB9 y3
  all_goals go_wp2
  all_goals
    go_end0
    exact ⟨rfl, _, unhide HF, unhide HG, unhide HK⟩

set_option maxHeartbeats 1000000 in
theorem isReady_any (x : SL) (w : World) :
    Calls Tryz.prog 54 #[.agg #[.int .i64 x.q, .bool x.r, .string x.t]] w fun e w' => e = .returned (.bool x.r) ∧ Below w.heap.size w w' := by
  go_enter Tryz.func54, Tryz.ntmps54
  go_wp2
  go_ret
  exact ⟨rfl, qx_alloc _ _⟩

end Go.Proofs.YthfoabcmgiiadaaGreatDoor
