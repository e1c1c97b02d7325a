/- A bundle. -/
import Derived.Test.YthfoabcmgiiadaaGreatDoorG03

/- ConnS7 -/
namespace Go.Proofs.YthfoabcmgiiadaaGreatDoor
open Go.RowKit Go.Joins
set_option linter.unusedVariables false

theorem appendK_where2 {P : Program} (w : World) (base : Nat) (t ty e : TypeId) (i : TypeInfo) (z : Value) (size bytes : Nat) (ht : P.underlying t = some (.slice e)) (hi : P.info? e = some i) (hz : i.zero = some z)
    (hsize : i.size = size) (hby : i.bytes = bytes) (v : Value) (hv : v ≠ .slice none 0 0) (n : Nat) (xs : List Value) (hown : w.ownsRow base e size v n xs) (a : Addr) (m c : Nat) (news : List Value) (hl : news.length = m * size) (hnews : ∀ j u, news[j]? = some u → w.cell? (a.add j) = some u) (h1 : ∀ u ∈ news, u.oneCell' = true)
    (h63 : n + m ≤ maxLen) (hbytes : (n + m) * bytes ≤ 140737488355328) (v' : Value) (w' : World) (hr : (Builtin.append_ #[t, t] ty #[v, .slice (some a) m c]).run P w = .ok v' w') : v'.ownBlock = v.ownBlock ∨ v'.ownBlock = some w.heap.size := by
  subst hsize
  subst hby
  have hsmall : n + m ≤ 9223372036854775807 := by simp only [maxLen] at h63; omega
  rcases hown.2 with ⟨rfl, rfl⟩ | ⟨g, cap, cur, rfl, hbg, hg, hnc, hcm, hcs, htake⟩
  · exact absurd rfl hv
  · by_cases hroom : n + m ≤ cap
    · have hfit : n * i.size + news.length ≤ cur.size := by rw [hl, hcs, ← Nat.add_mul]; exact Nat.mul_le_mul_right _ hroom
      have hr' := run_append_room (P := P) w t ty e i ht hi g n cap cur hg a m c news hl hnews h1 hroom hfit
      rw [hr'] at hr
      cases hr
      exact .inl rfl
    · have holds : ∀ j u, xs[j]? = some u → w.cell? ((⟨g, 0, none⟩ : Addr).add j) = some u := hown.cells (g := g) rfl
      have hr' := run_append_grow (P := P) w t ty e i z ht hi hz ⟨g, 0, none⟩ n cap xs hown.1 holds a m c news hl hnews (by omega) (by omega) (growslice_fits (by omega) hbytes)
      rw [hr'] at hr
      cases hr
      exact .inr rfl
theorem step_appSls (w : World) {ops : Array Oper} {o : Oper} {a : Act} {K : Act → World → Prop} {Q : Exit → Act → World → Prop} {E : Prop} (hgd : o.guard = none) (s x : Operand)
    (ho : o.op = .call { callee := .builtin .append, args := #[s, x], argTypes := #[23, 23] }) (B : Nat) (v u : Value) (vs ys : List SL) (hs : a.eval s = v)
    (hrow : SlBuf w B v vs) (hv : v ≠ .slice none 0 0) (hx : a.eval x = u) (hu : RowSl w u ys) (hB : B ≤ w.heap.size) (hl : vs.length + ys.length ≤ 1000000)
    (h : ∀ v' w', SlX w w' B v v' (vs ++ ys) → K (a.put o.dst v') w') : if Region.wanted o (yielded ops a.tmps) = true then Oper.wp Tryz.prog o a w K Q else E := by
  have hw : Region.wanted o (yielded ops a.tmps) = true := by simp [Region.wanted, hgd]
  rw [if_pos hw]
  obtain ⟨i0, hi, hz0, hz1, hz2⟩ := info_parts infoSl
  rcases hu with ⟨rfl, rfl⟩ | ⟨b, off, cap, rfl, hat⟩
  · have hr := run_append_owned_none (P := Tryz.prog) (w := w) B 23 o.type 66 i0 3 Tryz.underlying23 hi v vs.length (slCells vs) hrow
    unfold Oper.wp execOp
    simp only [ho, resolve, invoke, builtin, Sem.run_bind, Sem.run_pure, Result.andThen_ok, List.map_toArray, List.map_cons, List.map_nil, hs, hx, hr]
    exact h v w ⟨by simpa using hrow, fun k hk hv => rfl, fun j hj => .inl hj, Below.refl _ _⟩
  · obtain ⟨v', w', hr, h2, h3, h4⟩ := run_append_own (P := Tryz.prog) w B 23 o.type 66 i0 _ 3 32 Tryz.underlying23 hi hz0 hz1 hz2 rfl (by decide) v vs.length (slCells vs) hrow ⟨b, off, none⟩ ys.length cap (slCells ys) (slCells_len ys) (slCells_news hat) (slCells_one ys) (by unfold maxLen; omega) (by omega) (by omega)
    have hwh := appendK_where2 (P := Tryz.prog) w B 23 o.type 66 i0 _ 3 32 Tryz.underlying23 hi hz0 hz1 hz2 v hv vs.length (slCells vs) hrow ⟨b, off, none⟩ ys.length cap (slCells ys) (slCells_len ys) (slCells_news hat) (slCells_one ys) (by unfold maxLen; omega) (by omega) v' w' hr
    have hb := (Below.refl _ _).grown h3 hB (fun j hj => (World.ownsRow.lt hrow j hj).1)
    unfold Oper.wp execOp
    simp only [ho, resolve, invoke, builtin, Sem.run_bind, Sem.run_pure, Result.andThen_ok, List.map_toArray, List.map_cons, List.map_nil, hs, hx, hr]
    rw [← slCells_app, show vs.length + ys.length = (vs ++ ys).length by simp] at h2
    refine h v' w' ⟨h2, fun k hk hv => h3.block k hk (fun e => hv e.symm), fun j hj => ?_, hb⟩
    rcases hwh with e | e
    · exact .inl (e ▸ hj)
    · rw [e] at hj
      exact .inr (by have := Option.some.inj hj; omega)

theorem l10Fault_k (k : Nat) (w : World) (hk : k = 2 ∨ k = 3 ∨ k = 17) :
    Calls Tryz.prog 66 #[.int .i64 k] w fun e w' => e = .returned (.int .i64 (faultC k)) ∧ w' = w := by
  obtain rfl | rfl | rfl := hk
  all_goals
    go_enter Tryz.func66, Tryz.ntmps66
    go_wp2
    go_ret
    exact ⟨rfl, rfl⟩

theorem specCodeWord_k (k : Nat) (w : World) (hk : k = 2 ∨ k = 3 ∨ k = 17) :
    Calls Tryz.prog 67 #[.int .i64 k] w fun e w' => e = .returned (.string (wordK k)) ∧ Below w.heap.size w w' := by
  obtain rfl | rfl | rfl := hk
  all_goals
    go_enter Tryz.func67, Tryz.ntmps67
    go_wp2
    go_ret
    exact ⟨rfl, qx_alloc _ _⟩
theorem faultT_is (k : Nat) (hk : k = 2 ∨ k = 3 ∨ k = 17) : faultT k = replyT (decS (faultC k)) (statW (faultC k)) (decS (wordK k).size) (wordK k) true ∧ (wordK k).size ≤ 80 ∧ 200 ≤ faultC k ∧ faultC k ≤ 504 := by
  have h : (([2, 3, 17] : List Nat).all fun k => decide (¬ (statW (faultC k) = ⟨#[]⟩ ∨ 80 < (wordK k).size)) && decide ((wordK k).size ≤ 80) && decide (200 ≤ faultC k) && decide (faultC k ≤ 504)) = true := by kernel_rfl
  have := List.all_eq_true.1 h k (by obtain rfl | rfl | rfl := hk <;> simp)
  simp only [Bool.and_eq_true, decide_eq_true_eq] at this
  obtain ⟨⟨⟨h1, h2⟩, h3⟩, h4⟩ := this
  refine ⟨?_, h2, h3, h4⟩
  unfold faultT replyR
  rw [if_neg (by omega), if_neg h1]

/-- what lies where ahead of the slot's joining -/
structure NxW (w V : World) (e : Bool) (i : ByteArray) (v : Value) (n : Int) (rb xb : Nat) (P : ByteArray) (x : Bool) (sl : SL) : Prop where
  c : V.heap[w.heap.size]? = some (.cells #[.bool true, .bool e, .string i, v, .int .i64 n] 25 (0, 0))
  z : ZeroN V (w.heap.size + 1)
  r : V.heap[rb]? = some (.cells #[.string P, .bool x] 31 (0, 0))
  s : V.heap[xb]? = some (.cells #[.int .i64 sl.q, .bool sl.r, .string sl.t] 66 (0, 0))
  b : Below w.heap.size w V
theorem NxW.cells {w V : World} {e : Bool} {i : ByteArray} {v : Value} {n : Int} {rb xb : Nat} {P : ByteArray} {x : Bool} {sl : SL} (h : NxW w V e i v n rb xb P x sl) : V.cell? ⟨w.heap.size, 0, none⟩ = some (.bool true) ∧ V.cell? ⟨w.heap.size, 1, none⟩ = some (.bool e) ∧ V.cell? ⟨w.heap.size, 2, none⟩ = some (.string i) ∧ V.cell? ⟨w.heap.size, 3, none⟩ = some v ∧ V.cell? ⟨w.heap.size, 4, none⟩ = some (.int .i64 n) ∧ V.cell? ⟨rb, 0, none⟩ = some (.string P) ∧ V.cell? ⟨rb, 1, none⟩ = some (.bool x) ∧ V.cell? ⟨xb, 0, none⟩ = some (.int .i64 sl.q) ∧ V.cell? ⟨xb, 1, none⟩ = some (.bool sl.r) ∧ V.cell? ⟨xb, 2, none⟩ = some (.string sl.t) :=
  ⟨(cell_of_block h.c 0).trans rfl, (cell_of_block h.c 1).trans rfl, (cell_of_block h.c 2).trans rfl, (cell_of_block h.c 3).trans rfl, (cell_of_block h.c 4).trans rfl, (cell_of_block h.r 0).trans rfl, (cell_of_block h.r 1).trans rfl, (cell_of_block h.s 0).trans rfl, (cell_of_block h.s 1).trans rfl, (cell_of_block h.s 2).trans rfl⟩
theorem NxW.put {w V u : World} {e : Bool} {i : ByteArray} {v : Value} {n : Int} {rb xb : Nat} {P : ByteArray} {x : Bool} {sl : SL} (h : NxW w V e i v n rb xb P x sl) (hb : Below V.heap.size V u) (hr : rb ≠ w.heap.size) (hx : xb ≠ w.heap.size) (v' : Value) : NxW w (u.setCell ⟨w.heap.size, 3, none⟩ v') e i v' n rb xb P x sl where
  c := by
    have := (hb.block _ (Array.getElem?_eq_some_iff.1 h.c).1).trans h.c
    have := block_setCell (i := 3) this v'
    exact this
  z := by
    have hz := h.z.later hb
    exact ⟨hz.c.set (by omega), by unfold ZeroR; rw [Below.heap_setCell _ _ _ _ (by show w.heap.size + 1 + 1 ≠ w.heap.size; omega)]; exact hz.r⟩
  r := by rw [Below.heap_setCell _ _ _ _ (by exact hr), hb.block _ (Array.getElem?_eq_some_iff.1 h.r).1]; exact h.r
  s := by rw [Below.heap_setCell _ _ _ _ (by exact hx), hb.block _ (Array.getElem?_eq_some_iff.1 h.s).1]; exact h.s
  b := qx_set (qx_trans h.b hb) (Nat.le_refl _)
theorem SlBuf.litB {w : World} {base g : Nat} (h : w.heap[g]? = some (.cells #[] 66 (0, 0))) (hb : base ≤ g) : SlBuf w base (.slice (some ⟨g, 0, none⟩) 0 0) [] :=
  ⟨rfl, .inr ⟨g, 0, #[], rfl, hb, h, Nat.le_refl _, by decide, rfl, rfl⟩⟩
theorem heapN2 (w : World) (a b : Obj) : ((w.alloc a).alloc b).heap[w.heap.size + 1]? = some b := by show ((w.heap.push _).push _)[w.heap.size + 1]? = _; rw [Array.getElem?_push, if_pos (by simp)]
theorem heapN (w : World) (o : Obj) : (w.alloc o).heap[w.heap.size]? = some o := by show (w.heap.push _)[w.heap.size]? = _; simp

theorem ZeroN.set {w : World} {g k o : Nat} {u : Value} (h : ZeroN w g) (hk : k ≠ g) (hk2 : k ≠ g + 1) : ZeroN (w.setCell ⟨k, o, none⟩ u) g :=
  ⟨h.c.set hk, by unfold ZeroR; rw [Below.heap_setCell _ _ _ _ (fun e => hk2 e.symm)]; exact h.r⟩
theorem NxW.make {w u : World} {e : Bool} {i : ByteArray} {v : Value} {n : Int} {N : Nat} (hc : u.heap[w.heap.size]? = some (.cells #[.bool true, .bool e, .string i, v, .int .i64 n] 25 (0, 0))) (hz : ZeroN u (w.heap.size + 1)) (hb : Below w.heap.size w u) (hs : u.heap.size = N) (P : ByteArray) (x : Bool) (sl : SL) :
    NxW w ((u.alloc (.cells #[.string P, .bool x] 31)).alloc (.cells #[.int .i64 sl.q, .bool sl.r, .string sl.t] 66)) e i v n N (N + 1) P x sl := by
  subst hs
  exact ⟨heap_al (heap_al hc _) _, (hz.later (qx_alloc _ _)).later (qx_alloc _ _), heap_al (heapN _ _) _, heapN2 _ _ _, qx_al (qx_al hb)⟩
theorem drew_heap (w : World) (g : Nat) : w.drew.heap[g]? = w.heap[g]? := rfl
theorem rowC_drew {w : World} {v : Value} {s : List SL} (h : RowC w v s) : RowC w.drew v s := h.later (qx_drew (Below.refl _ _))
set_option maxRecDepth 100000 in
theorem ZeroN.loadC_dr {w : World} {g : Nat} (h : ZeroN w g) (c : CN) (v : Value) (p : ByteArray) (x : Bool) : (loadVar 25 ⟨g, 0, none⟩).run Tryz.prog (sevenC w g c v p x).drew = .ok (cnV c v) (sevenC w g c v p x).drew :=
  run_loadVar_row (P := Tryz.prog) _ g 25 25 _ (0, 0) _ ((drew_heap _ _).trans (h.blockC c v p x)) Tryz.underlying25 rfl rfl
set_option maxRecDepth 100000 in
theorem ZeroN.loadR_dr {w : World} {g : Nat} (h : ZeroN w g) (c : CN) (v : Value) (p : ByteArray) (x : Bool) : (loadVar 31 ⟨g + 1, 0, none⟩).run Tryz.prog (sevenC w g c v p x).drew = .ok (.agg #[.string p, .bool x]) (sevenC w g c v p x).drew :=
  run_loadVar_row (P := Tryz.prog) _ (g + 1) 31 31 _ (0, 0) _ ((drew_heap _ _).trans (h.blockR c v p x)) Tryz.underlying31 rfl rfl
/-- the answer's row -/
theorem nx_end {w u : World} {v : Value} {s : List SL} {c : CN} {p : ByteArray} {x : Bool} (hs : SlBuf u (w.heap.size + 3) v s) (hb : Below w.heap.size w u) : RowC (sevenC u (w.heap.size + 1) c v p x).drew v s ∧ Below w.heap.size w (sevenC u (w.heap.size + 1) c v p x).drew := by
  have hn : ∀ b, b < w.heap.size + 3 → ∀ j, v.ownBlock = some j → j ≠ b := fun b hb j hj => by have := (World.ownsRow.lt hs j hj).1; omega
  have h1 := hn (w.heap.size + 1) (by omega)
  have h2 := hn (w.heap.size + 1 + 1) (by omega)
  have hB := sevenC.below (c := c) (v := v) (p := p) (x := x) hb (Nat.le_succ _)
  have hS : SlBuf (sevenC u (w.heap.size + 1) c v p x) (w.heap.size + 3) v s := ((((((hs.apart h1).apart h1).apart h1).apart h1).apart h1).apart h2).apart h2
  generalize sevenC u (w.heap.size + 1) c v p x = Z at *
  exact ⟨rowC_drew hS.rowC, qx_drew hB⟩

set_option maxHeartbeats 1000000 in
set_option maxRecDepth 100000 in
theorem specNext_ok (c : CN) (v : Value) (w : World) (hv : RowC w v c.s) (hr : connB c = true) (h : c.o = true ∧ c.e = false) (hf : ¬ (6 ≤ c.s.length ∨ 100000 ≤ c.n)) (P : ByteArray) (m : Nat) (hm' : m ≤ c.i.size) (hR : reqR c.i = ⟨P, false, (m : Int), 0⟩) :
    Calls Tryz.prog 38 #[cnV c v] w fun e w' => AnsM (nextC c) w e w' := by
  rw [nextC_ok h hf hR]
  have HV := hide hv
  obtain ⟨p, cap, rfl, _⟩ := hv.1.slice
  obtain ⟨hn0, hn1, h2, h3⟩ := connB_few hr
  have H1 := hide fun w => l08Read_any c.i w (by omega)
  rw [hR] at H1
  obtain ⟨o, e, i, s, n⟩ := c
  dsimp only [cnV] at *
  obtain ⟨rfl, rfl⟩ := h
  clear hv hr hR
  generalize hsl : s.length = l at *
  have HSL := hide hsl
  clear hsl
  have e1 : ¬ (l : Int) = 6 := by omega
  have e2 : ((l : Int) == 6) = false := by simp; omega
  have e3 : ¬ n = 100000 := by omega
  have e4 : (n == 100000) = false := by simp; omega
  have hwn : IntKind.i64.wrap (n + 1) = n + 1 := by unfold IntKind.wrap; simp [IntKind.bits, IntKind.signed]; omega
  clear hf
  go_enter Tryz.func38, Tryz.ntmps38
  go_wp2_with fail
  refine (unhide H1 _).mono ?_
  rintro ex w1 ⟨rfl, hb1⟩
  have hzn := (ZeroN.new w (.cells #[.bool true, .bool false, .string i, .slice p l cap, .int .i64 n] 25)).later hb1
  have HZ := hide hzn
  have HB := hide (qx_trans (qx_al (qx_al (qx_alloc w _))) hb1)
  have HB1 := hide (hb1.block w.heap.size (by simp; omega))
  obtain ⟨hc1, hf1⟩ := qcell hb1
  have hz1 := hb1.size
  simp at hz1
  have d1 : w.heap.size < w1.heap.size := by omega
  have d2 : w.heap.size + 1 < w1.heap.size := by omega
  have d3 : w.heap.size + 2 < w1.heap.size := by omega
  clear hzn hb1
  dsimp only [rrV]
  go_wp2
  obtain ⟨V, hV⟩ : ∃ V : World, V = ((((w1.setCell ⟨w.heap.size, 4, none⟩ (.int .i64 (n + 1))).setCell ⟨w.heap.size, 2, none⟩ (.string (i.extract m i.size))).alloc (.cells #[.string P, .bool false] 31)).alloc (.cells #[.int .i64 n, .bool false, .string ⟨#[]⟩] 66)) := ⟨_, rfl⟩
  have hNW : NxW w V false (i.extract m i.size) (.slice p l cap) (n + 1) w1.heap.size (w1.heap.size + 1) P false ⟨n, false, ⟨#[]⟩⟩ := by
    rw [hV]
    have hblk : w1.heap[w.heap.size]? = some (.cells #[.bool true, .bool false, .string i, .slice p l cap, .int .i64 n] 25 (0, 0)) := by
      rw [unhide HB1]
      exact heap_al (heap_al (heapN _ _) _) _
    have h2 := block_setCell (i := 2) (block_setCell (i := 4) hblk (.int .i64 (n + 1))) (.string (i.extract m i.size))
    exact NxW.make h2 (((unhide HZ).set (by omega) (by omega)).set (by omega) (by omega)) (qx_set (qx_set (unhide HB) (Nat.le_refl _)) (Nat.le_refl _)) (by simp) P false ⟨n, false, ⟨#[]⟩⟩
  rw [← hV]
  clear hV
  have HNW := hide hNW
  have hrb : w1.heap.size ≠ w.heap.size := by omega
  have hxb : w1.heap.size + 1 ≠ w.heap.size := by omega
  have nb1 : w1.heap.size ≠ w.heap.size + 1 := by omega
  have nb2 : w1.heap.size ≠ w.heap.size + 1 + 1 := by omega
  have nb3 : w.heap.size ≠ w1.heap.size := by omega
  have nb4 : w.heap.size + 1 ≠ w1.heap.size := by omega
  have nb5 : w.heap.size + 1 + 1 ≠ w1.heap.size := by omega
  have hlt := (Array.getElem?_eq_some_iff.1 hNW.s).1
  obtain ⟨c0, c1, c2, c3, c4, r0, r1, x0, x1, x2⟩ := hNW.cells
  dsimp only at x0 x1 x2
  clear c0 c1 c2 c4 r0 r1
  have f3 := unfrozen_of_block hNW.c 3
  have HRow := hide (fun (W : World) (hb : Below V.heap.size V W) => ((unhide HV).later hNW.b).1.later hb)
  have hb0 : w.heap.size < V.heap.size := by omega
  have hb3 : w.heap.size + 3 ≤ V.heap.size := by omega
  clear hNW hc1 hf1 H1 d1 d2 d3 hz1
  go_cut [] from 72 to 79 (fun wx => ∃ v', Hid (SlBuf wx (w.heap.size + 3) v' (s ++ [⟨n, false, ⟨#[]⟩⟩])) ∧ Hid (NxW w wx false (i.extract m i.size) v' (n + 1) w1.heap.size (w1.heap.size + 1) P false ⟨n, false, ⟨#[]⟩⟩))
  case first =>
    go_region_law (first
      | (refine step_appSls _ (by rfl) _ _ (by rfl) V.heap.size _ (.slice p l cap) [] s (by rfl) (SlBuf.litB (by first | exact heapN _ _ | exact heap_al (heapN _ _) _ | exact heapN2 _ _ _) (by first | (simp; done) | (simp; omega))) (by simp) (by rfl) (unhide HRow _ (by repeat (first | exact Below.refl _ _ | refine qx_al ?_ | refine qx_drew ?_))) (by first | (simp; done) | (simp; omega)) (by have := unhide HSL; simp; omega) ?_; intro v9 w9 hR9; obtain ⟨p9, k9, hv9⟩ := hR9.row.slice; subst hv9; have hb9 : Below V.heap.size V w9 := Below.trans (by repeat (first | exact Below.refl _ _ | refine qx_al ?_ | refine qx_drew ?_)) hR9.below; have y0 := cell_later hb9 x0; have y1 := cell_later hb9 x1; have y2 := cell_later hb9 x2; have y3 := cell_later hb9 c3; have g3 := frozen_later hb9 hb0 f3; have HR9 := hide hR9.row; have HK9 := hide hR9.block; have HB9 := hide hb9; have hz9 : V.heap.size ≤ w9.heap.size := hb9.size; clear hR9 hb9)
      | (refine step_appSl _ (by rfl) _ _ (by rfl) V.heap.size _ _ ([] ++ s) ⟨n, false, ⟨#[]⟩⟩ (by rfl) ((unhide HR9).later (by repeat (first | exact Below.refl _ _ | refine qx_al ?_ | refine qx_drew ?_))) (by rfl) (by first | (simp; done) | exact (cell_of_block ((unhide HK9 _ (by first | (simp; done) | (simp; omega)) (by first | (simp [Value.ownBlock]; done) | (simp [Value.ownBlock]; omega))).trans (by first | exact heapN _ _ | exact heap_al (heapN _ _) _ | exact heapN2 _ _ _)) 0).trans rfl) (by first | (simp; done) | exact (cell_of_block ((unhide HK9 _ (by first | (simp; done) | (simp; omega)) (by first | (simp [Value.ownBlock]; done) | (simp [Value.ownBlock]; omega))).trans (by first | exact heapN _ _ | exact heap_al (heapN _ _) _ | exact heapN2 _ _ _)) 1).trans rfl) (by first | (simp; done) | exact (cell_of_block ((unhide HK9 _ (by first | (simp; done) | (simp; omega)) (by first | (simp [Value.ownBlock]; done) | (simp [Value.ownBlock]; omega))).trans (by first | exact heapN _ _ | exact heap_al (heapN _ _) _ | exact heapN2 _ _ _)) 2).trans rfl) (by first | assumption | (simp; done) | (simp; omega)) (by have := unhide HSL; simp; omega) ?_; intro vA wA hRA; obtain ⟨pA, kA, hvA⟩ := hRA.row.slice; subst hvA; have hbA : Below V.heap.size V wA := Below.trans (by repeat (first | exact unhide HB9 | refine qx_al ?_ | refine qx_drew ?_)) hRA.below; have u3 := cell_later hbA c3; have h3 := frozen_later hbA hb0 f3; have HRA := hide hRA.row; have HBA := hide hbA; clear hRA hbA))
    all_goals
      have hfin := ((unhide HNW).put (unhide HBA) hrb hxb (.slice pA ([] ++ s ++ [(⟨n, false, ⟨#[]⟩⟩ : SL)]).length kA))
      have hrow := SlBuf.mono (base' := w.heap.size + 3) ((unhide HRA).apart (b := w.heap.size) (o := 3) (u := .slice pA ([] ++ s ++ [(⟨n, false, ⟨#[]⟩⟩ : SL)]).length kA) (fun j hj => by have := (World.ownsRow.lt (unhide HRA) j hj).1; omega)) hb3
      simp only [List.nil_append, List.length_append, List.length_cons, List.length_nil, Nat.zero_add] at hfin hrow
      go_wp2
      go_meet
      exact ⟨_, hide hrow, hide hfin⟩
  case rest =>
  obtain ⟨v', hs9, hn9⟩ := hcut
  have hn := unhide hn9
  obtain ⟨c0, c1, c2, c3, c4, r0, r1, x0, x1, x2⟩ := hn.cells
  obtain ⟨p9, k9, rfl⟩ := (unhide hs9).slice
  generalize (s ++ [(⟨n, false, ⟨#[]⟩⟩ : SL)]).length = L at *
  obtain ⟨q0, q1, q2, q3, q4⟩ := hn.z.c.cells
  obtain ⟨f0, f1, f2, f3', f4⟩ := hn.z.c.free
  obtain ⟨s0, s1, g0, g1⟩ := hn.z.r.cells
  clear x0 x1 x2 hn f3 hlt
  go_wp2
  go_region
  go_wp2
  refine bodyPost_ret (v := .tuple #[cnV ⟨true, false, i.extract m i.size, s ++ [⟨n, false, ⟨#[]⟩⟩], n + 1⟩ (.slice p9 L k9), .agg #[.string P, .bool false], .int .i64 n, .int .i64 0]) ?_ rfl ⟨_, rfl, (nx_end (c := ⟨true, false, i.extract m i.size, s ++ [⟨n, false, ⟨#[]⟩⟩], n + 1⟩) (p := P) (x := false) (unhide hs9) (unhide hn9).b).1, (nx_end (c := ⟨true, false, i.extract m i.size, s ++ [⟨n, false, ⟨#[]⟩⟩], n + 1⟩) (p := P) (x := false) (unhide hs9) (unhide hn9).b).2⟩
  have hld := (unhide hn9).z.loadC_dr ⟨true, false, i.extract m i.size, s ++ [⟨n, false, ⟨#[]⟩⟩], n + 1⟩ (.slice p9 L k9) P false
  have hlr := (unhide hn9).z.loadR_dr ⟨true, false, i.extract m i.size, s ++ [⟨n, false, ⟨#[]⟩⟩], n + 1⟩ (.slice p9 L k9) P false
  simp only [sevenC, fiveC] at hld hlr
  simp [results, Tryz.results38, asAddr, Result.andThen, hld, hlr]

end Go.Proofs.YthfoabcmgiiadaaGreatDoor
