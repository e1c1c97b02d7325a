/- A bundle. -/
import Derived.Test.YthfoabcmgiiadaaGreatDoorG05
import Derived.Test.YthfoabcmgiiadaaGreatDoorG06
import Derived.Test.YthfoabcmgiiadaaGreatDoorG07

/- ConnS10 -/
namespace Go.Proofs.YthfoabcmgiiadaaGreatDoor
open Go.RowKit Go.Joins
set_option linter.unusedVariables false

theorem specNext_any (c : CN) (v : Value) (w : World) (hv : RowC w v c.s) (hr : connB c = true) :
    Calls Tryz.prog 38 #[cnV c v] w fun e w' => AnsM (nextC c) w e w' := by
  by_cases h : c.o = true ∧ c.e = false
  · by_cases hf : 6 ≤ c.s.length ∨ 100000 ≤ c.n
    · exact specNext_full c v w hv hr h hf
    · rcases reqR_cases c.i with hR | ⟨k, hk, hR⟩ | ⟨P, x, m, hm', hR⟩
      · exact specNext_more c v w hv hr h hf hR
      · exact specNext_fault c v w hv hr h hf k hk hR
      · cases x
        · exact specNext_ok c v w hv hr h hf P m hm' hR
        · exact specNext_close c v w hv hr h hf P m hm' hR
  · exact specNext_shut c v w hv h

theorem flushS_few {c : CN} (hr : connB c = true) : (flushS c).c.s.length ≤ 6 ∧ (flushS c).e = 0 := by
  have h3 := (connB_few hr).2.2.2
  unfold flushS
  split
  · exact ⟨Nat.zero_le _, rfl⟩
  · exact ⟨by show (c.s.drop _).length ≤ 6; rw [List.length_drop]; omega, rfl⟩
theorem nextC_few {c : CN} (hr : connB c = true) : (nextC c).c.s.length ≤ 6 := (connB_few (nextC_right hr)).2.2.2

set_option maxHeartbeats 600000 in
set_option maxRecDepth 100000 in
theorem specConnFlush_any (c : CN) (v : Value) (w : World) (hv : RowC w v c.s) (hr : connB c = true) :
    Calls Tryz.prog 17 #[cnV c v] w fun e w' => AnsF (flushC c) w e w' := by
  rw [flushS_is hr]
  obtain ⟨hfl, hfe⟩ := flushS_few hr
  have HOK := hide (fun (W : World) (hb : Below w.heap.size w W) => specConnOK_right c v W (hv.1.later hb) hr)
  have HFl := hide (fun (W : World) (hb : Below w.heap.size w W) => specFlush_any c v W (hv.later hb) hr)
  generalize flushS c = F at *
  obtain ⟨⟨fo, fe, fi, fs, fn⟩, ft, fx, fc⟩ := F
  dsimp only at hfl hfe
  subst hfe
  obtain ⟨p, cap, rfl, _⟩ := hv.1.slice
  obtain ⟨o, e, i, s, n⟩ := c
  dsimp only [cnV] at *
  clear hv hr
  generalize s.length = l at *
  go_enter Tryz.func17, Tryz.ntmps17
  go_wp2_with fail
  refine (unhide HOK _ (qx_al (qx_alloc _ _))).mono ?_
  rintro ex w1 ⟨rfl, hb1⟩
  have hP1 : CnB w1 w.heap.size ⟨o, e, i, s, n⟩ (.slice p l cap) := by
    unfold CnB
    rw [hb1.block _ (by simp; omega)]
    exact pc_al (CnB.new w ⟨o, e, i, s, n⟩ (.slice p l cap) w.heap.size rfl) _
  have HZ1 := hide ((ZeroC.new2 w (.cells #[.bool o, .bool e, .string i, .slice p l cap, .int .i64 n] 25)).later hb1)
  have HB1 := hide (qx_trans (qx_al (qx_alloc w _)) hb1)
  obtain ⟨t0, t1, t2, t3, t4⟩ := hP1.cells
  dsimp only at t0 t1 t2 t3 t4
  clear hb1 hP1
  go_wp2_with fail
  refine (unhide HFl _ (unhide HB1)).mono ?_
  rintro ex w2 ⟨v2, rfl, hrc2, hb2⟩
  have HZ2 := hide ((unhide HZ1).later hb2)
  have HB2 := hide (qx_trans (unhide HB1) hb2)
  have HR2 := hide hrc2.1
  obtain ⟨p2, k2, hv2, hx2⟩ := hrc2.1.slice
  subst hv2
  clear hb2 hrc2 hx2 t0 t1 t2 t3 t4 HZ1 HB1
  dsimp only [cnV] at *
  have HFL := hide hfl
  generalize hfs : fs.length = lf at HR2 ⊢
  have HFS := hide hfs
  clear hfs hfl
  have HOw := hide (fun (ob : Obj) => specOwn_any ⟨fo, fe, fi, fs, fn⟩ (.slice p2 lf k2) (w2.alloc ob) ((unhide HR2).later (qx_alloc _ _)) (by show fs.length ≤ 1000; have := unhide HFL; omega))
  go_wp2_with fail
  refine (unhide HOw _).mono ?_
  rintro ex w3 ⟨v3, rfl, hs3, hb3⟩
  have hz3 := ((unhide HZ2).later (qx_alloc w2 (.cells #[.bool fo, .bool fe, .string fi, .slice p2 lf k2, .int .i64 fn] 25))).later hb3
  have HZ3 := hide hz3
  have HB3 := hide (qx_trans (qx_al (unhide HB2)) hb3)
  have hsz2 : w.heap.size + 2 ≤ w2.heap.size := by have := (unhide HZ2).lt; omega
  have HS3 := hide (SlBuf.mono (base' := w.heap.size + 2) hs3 (by simp; omega))
  obtain ⟨p3, k3, hv3⟩ := hs3.slice
  subst hv3
  obtain ⟨a0, a1, a2, a3, a4⟩ := hz3.cells
  obtain ⟨g0, g1, g2, g3, g4⟩ := hz3.free
  have hl3 : w.heap.size + 1 < w3.heap.size := hz3.lt
  dsimp only [cnV] at *
  generalize hfs3 : fs.length = lg at HS3 ⊢
  clear hfs3
  clear hz3 hb3 hs3
  go_wp2
  refine bodyPost_ret (v := .tuple #[cnV ⟨fo, fe, fi, fs, fn⟩ (.slice p3 lg k3), .string ft, .bool fx, .int .i64 0]) ?_ rfl ⟨.slice p3 lg k3, rfl, ?_, fiveC.below (c := ⟨fo, fe, fi, fs, fn⟩) (v := .slice p3 lg k3) (unhide HB3) (Nat.le_succ _)⟩
  · have hld := (unhide HZ3).load ⟨fo, fe, fi, fs, fn⟩ (.slice p3 lg k3)
    simp only [fiveC] at hld
    simp [results, Tryz.results17, asAddr, Result.andThen, hld]
  · exact (unhide HS3).row.five (c := ⟨fo, fe, fi, fs, fn⟩) (v := .slice p3 lg k3) (fun j hj => by have := (World.ownsRow.lt (unhide HS3) j hj).1; omega)

set_option maxHeartbeats 600000 in
set_option maxRecDepth 100000 in
theorem specConnNext_any (c : CN) (v : Value) (w : World) (hv : RowC w v c.s) (hr : connB c = true) :
    Calls Tryz.prog 18 #[cnV c v] w fun e w' => AnsN (nextC c) w e w' := by
  have hfl := nextC_few hr
  have HOK := hide (fun (W : World) (hb : Below w.heap.size w W) => specConnOK_right c v W (hv.1.later hb) hr)
  have HFl := hide (fun (W : World) (hb : Below w.heap.size w W) => specNext_any c v W (hv.later hb) hr)
  generalize nextC c = F at *
  obtain ⟨⟨fo, fe, fi, fs, fn⟩, fp, fx, fq, fc⟩ := F
  dsimp only at hfl
  obtain ⟨p, cap, rfl, _⟩ := hv.1.slice
  obtain ⟨o, e, i, s, n⟩ := c
  dsimp only [cnV] at *
  clear hv hr
  generalize s.length = l at *
  go_enter Tryz.func18, Tryz.ntmps18
  go_wp2_with fail
  refine (unhide HOK _ (qx_al (qx_al (qx_alloc _ _)))).mono ?_
  rintro ex w1 ⟨rfl, hb1⟩
  have hP1 : CnB w1 w.heap.size ⟨o, e, i, s, n⟩ (.slice p l cap) := by
    unfold CnB
    rw [hb1.block _ (by simp; omega)]
    exact pc_al (pc_al (CnB.new w ⟨o, e, i, s, n⟩ (.slice p l cap) w.heap.size rfl) _) _
  have HZ1 := hide ((ZeroN.new w (.cells #[.bool o, .bool e, .string i, .slice p l cap, .int .i64 n] 25)).later hb1)
  have HB1 := hide (qx_trans (qx_al (qx_al (qx_alloc w _))) hb1)
  obtain ⟨t0, t1, t2, t3, t4⟩ := hP1.cells
  dsimp only at t0 t1 t2 t3 t4
  clear hb1 hP1
  go_wp2_with fail
  refine (unhide HFl _ (unhide HB1)).mono ?_
  rintro ex w2 ⟨v2, rfl, hrc2, hb2⟩
  have HZ2 := hide ((unhide HZ1).later hb2)
  have HB2 := hide (qx_trans (unhide HB1) hb2)
  have HR2 := hide hrc2.1
  obtain ⟨p2, k2, hv2, hx2⟩ := hrc2.1.slice
  subst hv2
  clear hb2 hrc2 hx2 t0 t1 t2 t3 t4 HZ1 HB1
  dsimp only [cnV] at *
  have HFL := hide hfl
  generalize hfs : fs.length = lf at HR2 ⊢
  have HFS := hide hfs
  clear hfs hfl
  have HOw := hide (fun (W : World) (hb : Below w2.heap.size w2 W) => specOwn_any ⟨fo, fe, fi, fs, fn⟩ (.slice p2 lf k2) W ((unhide HR2).later hb) (by show fs.length ≤ 1000; have := unhide HFL; omega))
  have hsz2 : w.heap.size + 3 ≤ w2.heap.size := by have := (unhide HZ2).r.lt; omega
  have nb1 : w2.heap.size + 1 ≠ w.heap.size + 1 := by omega
  have nb2 : w2.heap.size + 1 ≠ w.heap.size + 1 + 1 := by omega
  have nb3 : w2.heap.size ≠ w.heap.size := by omega
  have nb4 : w.heap.size ≠ w2.heap.size := by omega
  have nb5 : w.heap.size + 1 ≠ w2.heap.size + 1 := by omega
  have nb6 : w.heap.size + 1 + 1 ≠ w2.heap.size + 1 := by omega
  dsimp only [cnV] at *
  go_wp2
  go_region_with (go_at_call 37; refine (unhide HOw _ (by repeat (first | exact Below.refl _ _ | refine qx_al ?_ | refine qx_drew ?_))).mono ?_; rintro ex w3 ⟨v3, rfl, hs3, hb3⟩; obtain ⟨p3, k3, hv3⟩ := hs3.slice; subst hv3; have hbz := qx_trans (show Below w2.heap.size w2 _ from by repeat (first | exact Below.refl _ _ | refine qx_al ?_ | refine qx_drew ?_)) hb3; have HBZ := hide hbz; have hz3 := (unhide HZ2).later hbz; have HZ3 := hide hz3; have hrq : w3.heap[w2.heap.size + 1]? = some (.cells #[.string fp, .bool fx] 31 (0, 0)) := (hb3.block _ (by simp)).trans (heapN2 _ _ _); have u0 : w3.cell? ⟨w2.heap.size + 1, 0, none⟩ = some (.string fp) := (cell_of_block hrq 0).trans rfl; have u1 : w3.cell? ⟨w2.heap.size + 1, 1, none⟩ = some (.bool fx) := (cell_of_block hrq 1).trans rfl; have HS3 := hide (SlBuf.mono (base' := w.heap.size + 3) hs3 (by simp; omega)); obtain ⟨a0, a1, a2, a3, a4⟩ := hz3.c.cells; obtain ⟨g0, g1, g2, g3, g4⟩ := hz3.c.free; obtain ⟨b0, b1, z0, z1⟩ := hz3.r.cells; have hl3 : w.heap.size + 1 < w3.heap.size := hz3.c.lt; have hl4 : w.heap.size + 1 + 1 < w3.heap.size := hz3.r.lt; dsimp only [cnV] at *; generalize hfs3 : fs.length = lg at HS3 ⊢; clear hfs3 hz3 hb3 hs3 hrq hbz)
  all_goals go_wp2
  all_goals
    refine bodyPost_ret (v := .tuple #[cnV ⟨fo, fe, fi, fs, fn⟩ (.slice p3 lg k3), .agg #[.string fp, .bool fx], .int .i64 fq, .int .i64 fc]) ?_ rfl ⟨_, rfl, (unhide HS3).row.seven (c := ⟨fo, fe, fi, fs, fn⟩) (v := .slice p3 lg k3) (p := fp) (x := fx) (fun j hj => by have := (World.ownsRow.lt (unhide HS3) j hj).1; omega), sevenC.below (c := ⟨fo, fe, fi, fs, fn⟩) (v := .slice p3 lg k3) (p := fp) (x := fx) (qx_trans (unhide HB2) (unhide HBZ)) (Nat.le_succ _)⟩
    have hld := (unhide HZ3).loadC ⟨fo, fe, fi, fs, fn⟩ (.slice p3 lg k3) fp fx
    have hlr := (unhide HZ3).loadR ⟨fo, fe, fi, fs, fn⟩ (.slice p3 lg k3) fp fx
    simp only [sevenC, fiveC] at hld hlr
    simp [results, Tryz.results18, Act.put, asAddr, Result.andThen, hld, hlr]

set_option maxHeartbeats 600000 in
theorem specRoomOf_any (c : CN) (v : Value) (w : World) (hv : RowC w v c.s) (hr : connB c = true) :
    Calls Tryz.prog 20 #[cnV c v] w fun e w' => e = .returned (.tuple #[.int .i64 (roomC c).1, .int .i64 (roomC c).2]) ∧ Below w.heap.size w w' := by
  have HOK := hide (fun (W : World) (hb : Below w.heap.size w W) => specConnOK_right c v W (hv.1.later hb) hr)
  have h2 := (connB_few hr).2.2.1
  obtain ⟨p, cap, rfl, _⟩ := hv.1.slice
  have hroom : roomC c = if c.o = true ∧ c.e = false then ((400 : Int) - c.i.size, (0 : Int)) else (0, 19) := by unfold roomC; rw [if_pos hr]
  rw [hroom]
  obtain ⟨o, e, i, s, n⟩ := c
  dsimp only [cnV] at *
  clear hv hr hroom
  generalize s.length = l at *
  cases o
  · rw [if_neg (by simp)]
    go_enter Tryz.func20, Tryz.ntmps20
    go_wp2_with fail
    refine (unhide HOK _ (qx_alloc _ _)).mono ?_
    rintro ex w1 ⟨rfl, hb1⟩
    have hP1 : CnB w1 w.heap.size ⟨false, e, i, s, n⟩ (.slice p l cap) := (CnB.new w ⟨false, e, i, s, n⟩ (.slice p l cap) w.heap.size rfl).later hb1
    have HB1 := hide (qx_trans (qx_alloc w _) hb1)
    obtain ⟨t0, t1, t2, t3, t4⟩ := hP1.cells
    dsimp only at t0 t1 t2 t3 t4
    clear hb1 hP1
    go_wp2
    go_ret2
    exact ⟨rfl, unhide HB1⟩
  · cases e
    · rw [if_pos ⟨rfl, rfl⟩]
      go_enter Tryz.func20, Tryz.ntmps20
      go_wp2_with fail
      refine (unhide HOK _ (qx_alloc _ _)).mono ?_
      rintro ex w1 ⟨rfl, hb1⟩
      have hP1 : CnB w1 w.heap.size ⟨true, false, i, s, n⟩ (.slice p l cap) := (CnB.new w ⟨true, false, i, s, n⟩ (.slice p l cap) w.heap.size rfl).later hb1
      have HB1 := hide (qx_trans (qx_alloc w _) hb1)
      obtain ⟨t0, t1, t2, t3, t4⟩ := hP1.cells
      dsimp only at t0 t1 t2 t3 t4
      clear hb1 hP1
      go_wp2
      go_ret2
      exact ⟨rfl, unhide HB1⟩
    · rw [if_neg (by simp)]
      go_enter Tryz.func20, Tryz.ntmps20
      go_wp2_with fail
      refine (unhide HOK _ (qx_alloc _ _)).mono ?_
      rintro ex w1 ⟨rfl, hb1⟩
      have hP1 : CnB w1 w.heap.size ⟨true, true, i, s, n⟩ (.slice p l cap) := (CnB.new w ⟨true, true, i, s, n⟩ (.slice p l cap) w.heap.size rfl).later hb1
      have HB1 := hide (qx_trans (qx_alloc w _) hb1)
      obtain ⟨t0, t1, t2, t3, t4⟩ := hP1.cells
      dsimp only at t0 t1 t2 t3 t4
      clear hb1 hP1
      go_wp2
      go_ret2
      exact ⟨rfl, unhide HB1⟩

end Go.Proofs.YthfoabcmgiiadaaGreatDoor
