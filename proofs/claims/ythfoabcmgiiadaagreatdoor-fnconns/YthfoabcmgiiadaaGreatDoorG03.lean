/- A bundle. -/
import Derived.Test.YthfoabcmgiiadaaGreatDoorG02

/- ConnS5 -/
namespace Go.Proofs.YthfoabcmgiiadaaGreatDoor
open Go.RowKit Go.Joins
set_option linter.unusedVariables false

set_option maxHeartbeats 500000 in
set_option maxRecDepth 100000 in
theorem specFlush_nil (o e : Bool) (i : ByteArray) (n : Int) (w : World) :
    Calls Tryz.prog 36 #[cnV ⟨o, e, i, [], n⟩ (.slice none 0 0)] w fun ex w' => AnsG (flushS ⟨o, e, i, [], n⟩) w ex w' := by
  dsimp only [cnV]
  go_enter Tryz.func36, Tryz.ntmps36
  go_wp2
  go_loop [5, 6] (fun t i => i = .int .i64 0 ∧ t = .string ⟨#[]⟩) (fun _ i => 0)
  case atStart => exact ⟨rfl, rfl⟩
  case round =>
    obtain ⟨rfl, rfl⟩ := hrel
    · skip
      go_wp2_with (at_builtin; refine wp_appSls _ rfl _ _ rfl (w.heap.size + 2) (.slice (some ⟨w.heap.size + 2, 0, none⟩) 0 0) _ [] [] rfl ?d1 rfl ?d2 ?d3 ?d4 ?d5)
      case d1 => exact SlBuf.litN _ _ _ (by simp) (Nat.le_refl _)
      case d2 => exact .inl ⟨rfl, rfl⟩
      case d5 =>
        intro v' w1 hown hb1
        have HB := hide ((qx_al (qx_al (qx_alloc w _))).trans (hb1.mono (by omega)))
        have hbk : w1.heap[w.heap.size]? = some (.cells #[.bool o, .bool e, .string i, .slice none 0 0, .int .i64 n] 25 (0, 0)) := by
          rw [hb1.block _ (by simp)]
          show (((w.heap.push _).push _).push _)[w.heap.size]? = _
          rw [Array.getElem?_push, if_neg (by simp; omega), Array.getElem?_push, if_neg (by simp), Array.getElem?_push, if_pos rfl]
        have hzc : ZeroC w1 (w.heap.size + 1) := by
          unfold ZeroC
          rw [hb1.block _ (by simp)]
          show (((w.heap.push _).push _).push _)[w.heap.size + 1]? = _
          rw [Array.getElem?_push, if_neg (by simp), Array.getElem?_push, if_pos (by simp)]
        have HZ := hide hzc
        have r0 := (cell_of_block hbk 0).trans rfl
        have r1 := (cell_of_block hbk 1).trans rfl
        have r2 := (cell_of_block hbk 2).trans rfl
        have r3 := (cell_of_block hbk 3).trans rfl
        have r4 := (cell_of_block hbk 4).trans rfl
        have f3 := unfrozen_of_block hbk 3
        obtain ⟨a0, a1, a2, a3, a4⟩ := hzc.cells
        obtain ⟨z0, z1, z2, z3, z4⟩ := hzc.free
        obtain ⟨p1, k1, rfl⟩ := hown.slice
        simp only [List.length_nil] at hown ⊢
        have hne : ∀ b, b < w.heap.size + 2 → ∀ j, (Value.slice p1 0 k1).ownBlock = some j → j ≠ b := fun b hb j hj => by have := (World.ownsRow.lt hown j hj).1; omega
        have HN := hide hne
        have HR := hide hown
        have hw1 : w.heap.size + 2 < w1.heap.size := by have := hb1.size; simp at this; omega
        have hw2 : w.heap.size + 1 < w1.heap.size := by omega
        have hw3 : w.heap.size < w1.heap.size := by omega
        clear hown hb1 hbk hzc hne
        cases o with
        | false =>
          have HA9 := hide (show flushS ⟨false, e, i, [], n⟩ = ⟨⟨false, e, i, [], n⟩, ⟨#[]⟩, false, 0⟩ from if_neg (fun h => by cases h.1))
          have HZ9 := hide ((unhide HZ).set (k := w.heap.size) (o := 3) (u := .slice p1 0 k1) (by omega))
          clear HZ
          go_wp2
          refine bodyPost_ret (v := .tuple #[cnV ⟨false, e, i, [], n⟩ (.slice p1 0 k1), .string ⟨#[]⟩, .bool false]) ?_ rfl ?_
          · have hld := (unhide HZ9).load ⟨false, e, i, [], n⟩ (.slice p1 0 k1)
            simp only [fiveC] at hld
            simp [results, Tryz.results36, asAddr, Result.andThen, hld]
          · rw [unhide HA9]
            refine ⟨(.slice p1 0 k1), rfl, ?_, ?_⟩
            · have h1 := (unhide HR).apart (b := w.heap.size) (o := 3) (u := .slice p1 0 k1) (unhide HN _ (by omega))
              have hn1 := unhide HN (w.heap.size + 1) (by omega)
              exact SlBuf.rowC (((((h1.apart hn1).apart hn1).apart hn1).apart hn1).apart hn1)
            · exact fiveC.below (c := ⟨false, e, i, [], n⟩) (v := (.slice p1 0 k1)) (qx_set (unhide HB) (Nat.le_refl _)) (Nat.le_succ _)
        | true =>
          cases e with
          | false =>
            have HA9 := hide (show flushS ⟨true, false, i, [], n⟩ = ⟨⟨true, false, i, [], n⟩, ⟨#[]⟩, false, 0⟩ from if_neg (fun h => by cases h.2.1))
            have HZ9 := hide ((unhide HZ).set (k := w.heap.size) (o := 3) (u := .slice p1 0 k1) (by omega))
            clear HZ
            go_wp2
            refine bodyPost_ret (v := .tuple #[cnV ⟨true, false, i, [], n⟩ (.slice p1 0 k1), .string ⟨#[]⟩, .bool false]) ?_ rfl ?_
            · have hld := (unhide HZ9).load ⟨true, false, i, [], n⟩ (.slice p1 0 k1)
              simp only [fiveC] at hld
              simp [results, Tryz.results36, asAddr, Result.andThen, hld]
            · rw [unhide HA9]
              refine ⟨(.slice p1 0 k1), rfl, ?_, ?_⟩
              · have h1 := (unhide HR).apart (b := w.heap.size) (o := 3) (u := .slice p1 0 k1) (unhide HN _ (by omega))
                have hn1 := unhide HN (w.heap.size + 1) (by omega)
                exact SlBuf.rowC (((((h1.apart hn1).apart hn1).apart hn1).apart hn1).apart hn1)
              · exact fiveC.below (c := ⟨true, false, i, [], n⟩) (v := (.slice p1 0 k1)) (qx_set (unhide HB) (Nat.le_refl _)) (Nat.le_succ _)
          | true =>
            have HA9 := hide (show flushS ⟨true, true, i, [], n⟩ = ⟨⟨false, false, ⟨#[]⟩, [], n⟩, ⟨#[]⟩, true, 0⟩ from if_pos ⟨rfl, rfl, rfl⟩)
            have HZ9 := hide ((unhide HZ).set (k := w.heap.size) (o := 3) (u := .slice p1 0 k1) (by omega))
            clear HZ
            go_wp2
            refine bodyPost_ret (v := .tuple #[cnV ⟨false, false, ⟨#[]⟩, [], n⟩ (.slice (some ⟨w1.heap.size, 0, none⟩) 0 0), .string ⟨#[]⟩, .bool true]) ?_ rfl ?_
            · have hld := (unhide HZ9).load_al ⟨false, false, ⟨#[]⟩, [], n⟩ (.slice (some ⟨w1.heap.size, 0, none⟩) 0 0) (.cells #[] 66)
              simp only [fiveC] at hld
              simp [results, Tryz.results36, asAddr, Result.andThen, hld]
            · rw [unhide HA9]
              refine ⟨(.slice (some ⟨w1.heap.size, 0, none⟩) 0 0), rfl, ⟨.inr ⟨_, _, _, rfl, fun i hi => absurd hi (by simp)⟩, fun a n k e => by injection e with _ e1 e2; omega⟩, ?_⟩
              exact qx_al (o := .cells #[] 66) (fiveC.below (c := ⟨false, false, ⟨#[]⟩, [], n⟩) (v := (.slice (some ⟨w1.heap.size, 0, none⟩) 0 0)) (qx_set (unhide HB) (Nat.le_refl _)) (Nat.le_succ _))

theorem specFlush_any (c : CN) (v : Value) (w : World) (hv : RowC w v c.s) (hr : connB c = true) :
    Calls Tryz.prog 36 #[cnV c v] w fun e w' => AnsG (flushS c) w e w' := by
  rcases hv.1 with ⟨rfl, h0⟩ | ⟨b, off, cap, rfl, _⟩
  · obtain ⟨o, e, i, s, n⟩ := c
    dsimp only at h0
    subst h0
    exact specFlush_nil o e i n w
  · exact specFlush_some c b off cap w hv hr

end Go.Proofs.YthfoabcmgiiadaaGreatDoor

/- ConnS6 -/
namespace Go.Proofs.YthfoabcmgiiadaaGreatDoor
open Go.RowKit Go.Joins
set_option linter.unusedVariables false

/-- what the specification's next request's call answers -/
def AnsM (r : NX) (w : World) (e : Ending) (w' : World) : Prop := ∃ v', e = .returned (.tuple #[cnV r.c v', .agg #[.string r.p, .bool r.x], .int .i64 r.q, .int .i64 r.e]) ∧ RowC w' v' r.c.s ∧ Below w.heap.size w w'

theorem heap_al {w : World} {g : Nat} {x : Obj} (h : w.heap[g]? = some x) (ob : Obj) : (w.alloc ob).heap[g]? = some x := by
  have hl := (Array.getElem?_eq_some_iff.1 h).1
  show (w.heap.push _)[g]? = _
  rw [Array.getElem?_push, if_neg (by omega)]
  exact h
theorem ZeroN.blockC {w : World} {g : Nat} (h : ZeroN w g) (c : CN) (v : Value) (p : ByteArray) (x : Bool) : (sevenC w g c v p x).heap[g]? = some (.cells #[.bool c.o, .bool c.e, .string c.i, v, .int .i64 c.n] 25 (0, 0)) := by
  unfold sevenC
  rw [Below.heap_setCell _ _ _ _ (by show g ≠ g + 1; omega), Below.heap_setCell _ _ _ _ (by show g ≠ g + 1; omega)]
  exact h.c.five c v
theorem ZeroN.blockR {w : World} {g : Nat} (h : ZeroN w g) (c : CN) (v : Value) (p : ByteArray) (x : Bool) : (sevenC w g c v p x).heap[g + 1]? = some (.cells #[.string p, .bool x] 31 (0, 0)) := by
  unfold sevenC
  have h5 : (fiveC w g c v).heap[g + 1]? = some (.cells #[.string ⟨#[]⟩, .bool false] 31 (0, 0)) := (fiveC_other w g c v (g + 1) (by omega)).trans h.r
  have := block_setCell (i := 1) (block_setCell (i := 0) h5 (.string p)) (.bool x)
  exact this
set_option maxRecDepth 100000 in
theorem ZeroN.loadC_al {w : World} {g : Nat} (h : ZeroN w g) (c : CN) (v : Value) (p : ByteArray) (x : Bool) (ob : Obj) : (loadVar 25 ⟨g, 0, none⟩).run Tryz.prog ((sevenC w g c v p x).alloc ob) = .ok (cnV c v) ((sevenC w g c v p x).alloc ob) :=
  run_loadVar_row (P := Tryz.prog) _ g 25 25 _ (0, 0) _ (heap_al (h.blockC c v p x) ob) Tryz.underlying25 rfl rfl
set_option maxRecDepth 100000 in
theorem ZeroN.loadR_al {w : World} {g : Nat} (h : ZeroN w g) (c : CN) (v : Value) (p : ByteArray) (x : Bool) (ob : Obj) : (loadVar 31 ⟨g + 1, 0, none⟩).run Tryz.prog ((sevenC w g c v p x).alloc ob) = .ok (.agg #[.string p, .bool x]) ((sevenC w g c v p x).alloc ob) :=
  run_loadVar_row (P := Tryz.prog) _ (g + 1) 31 31 _ (0, 0) _ (heap_al (h.blockR c v p x) ob) Tryz.underlying31 rfl rfl

set_option maxHeartbeats 1000000 in
set_option maxRecDepth 100000 in
theorem specNext_shut (c : CN) (v : Value) (w : World) (hv : RowC w v c.s) (h : ¬ (c.o = true ∧ c.e = false)) :
    Calls Tryz.prog 38 #[cnV c v] w fun e w' => AnsM (nextC c) w e w' := by
  rw [nextC_shut h]
  have HV := hide hv
  obtain ⟨p, cap, rfl, _⟩ := hv.1.slice
  obtain ⟨o, e, i, s, n⟩ := c
  dsimp only [cnV] at *
  clear hv
  generalize s.length = l at *
  cases o
  · clear h
    go_enter Tryz.func38, Tryz.ntmps38
    go_wp2
    refine bodyPost_ret (v := .tuple #[cnV ⟨false, e, i, s, n⟩ (.slice p l cap), .agg #[.string ⟨#[]⟩, .bool false], .int .i64 0, .int .i64 19]) (by simp [results, Tryz.results38, go_sem, cnV]) rfl ⟨_, rfl, (unhide HV).later ?_, ?_⟩
    all_goals repeat (first | exact Below.refl _ _ | refine qx_al ?_ | refine qx_set ?_ (by first | exact Nat.le_refl _ | omega | (simp <;> omega)))
  · obtain rfl : e = true := by cases e <;> simp_all
    clear h
    go_enter Tryz.func38, Tryz.ntmps38
    go_wp2
    refine bodyPost_ret (v := .tuple #[cnV ⟨true, true, i, s, n⟩ (.slice p l cap), .agg #[.string ⟨#[]⟩, .bool false], .int .i64 0, .int .i64 19]) (by simp [results, Tryz.results38, go_sem, cnV]) rfl ⟨_, rfl, (unhide HV).later ?_, ?_⟩
    all_goals repeat (first | exact Below.refl _ _ | refine qx_al ?_ | refine qx_set ?_ (by first | exact Nat.le_refl _ | omega | (simp <;> omega)))

set_option maxHeartbeats 1000000 in
set_option maxRecDepth 100000 in
theorem specNext_full (c : CN) (v : Value) (w : World) (hv : RowC w v c.s) (hr : connB c = true) (h : c.o = true ∧ c.e = false) (hf : 6 ≤ c.s.length ∨ 100000 ≤ c.n) :
    Calls Tryz.prog 38 #[cnV c v] w fun e w' => AnsM (nextC c) w e w' := by
  rw [nextC_full h hf]
  have HV := hide hv
  obtain ⟨p, cap, rfl, _⟩ := hv.1.slice
  obtain ⟨hn0, hn1, h2, h3⟩ := connB_few hr
  obtain ⟨o, e, i, s, n⟩ := c
  dsimp only [cnV] at *
  obtain ⟨rfl, rfl⟩ := h
  clear hv hr
  generalize s.length = l at *
  by_cases hl : l = 6
  · subst hl
    clear hf
    go_enter Tryz.func38, Tryz.ntmps38
    go_wp2
    refine bodyPost_ret (v := .tuple #[cnV ⟨true, false, i, s, n⟩ (.slice p 6 cap), .agg #[.string ⟨#[]⟩, .bool false], .int .i64 0, .int .i64 7]) (by simp [results, Tryz.results38, go_sem, cnV]) rfl ⟨_, rfl, (unhide HV).later ?_, ?_⟩
    all_goals repeat (first | exact Below.refl _ _ | refine qx_al ?_ | refine qx_set ?_ (by first | exact Nat.le_refl _ | omega | (simp <;> omega)))
  · obtain rfl : n = 100000 := by omega
    have e1 : ¬ (l : Int) = 6 := by omega
    have e2 : ((l : Int) == 6) = false := by simp; omega
    clear hf
    go_enter Tryz.func38, Tryz.ntmps38
    go_wp2
    refine bodyPost_ret (v := .tuple #[cnV ⟨true, false, i, s, 100000⟩ (.slice p l cap), .agg #[.string ⟨#[]⟩, .bool false], .int .i64 0, .int .i64 7]) (by simp [results, Tryz.results38, go_sem, cnV]) rfl ⟨_, rfl, (unhide HV).later ?_, ?_⟩
    all_goals repeat (first | exact Below.refl _ _ | refine qx_al ?_ | refine qx_set ?_ (by first | exact Nat.le_refl _ | omega | (simp <;> omega)))

set_option maxHeartbeats 1000000 in
set_option maxRecDepth 100000 in
theorem specNext_more (c : CN) (v : Value) (w : World) (hv : RowC w v c.s) (hr : connB c = true) (h : c.o = true ∧ c.e = false) (hf : ¬ (6 ≤ c.s.length ∨ 100000 ≤ c.n)) (hR : reqR c.i = RR.bad 18) :
    Calls Tryz.prog 38 #[cnV c v] w fun e w' => AnsM (nextC c) w e w' := by
  rw [nextC_more h hf hR]
  have HV := hide hv
  obtain ⟨p, cap, rfl, _⟩ := hv.1.slice
  obtain ⟨hn0, hn1, h2, h3⟩ := connB_few hr
  have H1 := hide fun w => l08Read_any c.i w (by omega)
  rw [hR] at H1
  obtain ⟨o, e, i, s, n⟩ := c
  dsimp only [cnV] at *
  obtain ⟨rfl, rfl⟩ := h
  clear hv hr hR
  generalize s.length = l at *
  have e1 : ¬ (l : Int) = 6 := by omega
  have e2 : ((l : Int) == 6) = false := by simp; omega
  have e3 : ¬ n = 100000 := by omega
  have e4 : (n == 100000) = false := by simp; omega
  clear hf
  go_enter Tryz.func38, Tryz.ntmps38
  go_wp2_with fail
  refine (unhide H1 _).mono ?_
  rintro ex w1 ⟨rfl, hb1⟩
  have hzn := (ZeroN.new w (.cells #[.bool true, .bool false, .string i, .slice p l cap, .int .i64 n] 25)).later hb1
  have HZ := hide hzn
  have HB := hide (qx_trans (qx_al (qx_al (qx_alloc w _))) hb1)
  obtain ⟨hc1, hf1⟩ := qcell hb1
  have hz1 := hb1.size
  simp at hz1
  have d1 : w.heap.size < w1.heap.size := by omega
  have d2 : w.heap.size + 1 < w1.heap.size := by omega
  have d3 : w.heap.size + 2 < w1.heap.size := by omega
  clear hzn hb1
  dsimp only [rrV, RR.bad]
  go_wp2
  refine bodyPost_ret (v := .tuple #[cnV ⟨true, false, i, s, n⟩ (.slice p l cap), .agg #[.string ⟨#[]⟩, .bool false], .int .i64 0, .int .i64 18]) ?_ rfl ⟨_, rfl, (unhide HV).later ?_, ?_⟩
  · have hld := (unhide HZ).loadC_al ⟨true, false, i, s, n⟩ (.slice p l cap) ⟨#[]⟩ false (.cells #[.string ⟨#[]⟩, .bool false] 31)
    have hlr := (unhide HZ).loadR_al ⟨true, false, i, s, n⟩ (.slice p l cap) ⟨#[]⟩ false (.cells #[.string ⟨#[]⟩, .bool false] 31)
    simp only [sevenC, fiveC] at hld hlr
    simp [results, Tryz.results38, asAddr, Result.andThen, hld, hlr]
  · exact qx_al (sevenC.below (c := ⟨true, false, i, s, n⟩) (v := .slice p l cap) (p := ⟨#[]⟩) (x := false) (unhide HB) (Nat.le_succ _))
  · exact qx_al (sevenC.below (c := ⟨true, false, i, s, n⟩) (v := .slice p l cap) (p := ⟨#[]⟩) (x := false) (unhide HB) (Nat.le_succ _))

end Go.Proofs.YthfoabcmgiiadaaGreatDoor
