/- The program's ConnReady at right connections. -/
import Derived.Test.YtbgaodamgedlgaaGreatDoorConnC8
namespace Go.Proofs.YtbgaodamgedlgaaGreatDoor
open Go.RowKit Go.Joins
set_option linter.unusedVariables false

theorem ZeroC.new3 (w : World) (o p : Obj) : ZeroC (((w.alloc o).alloc p).alloc (.cells #[.bool false, .bool false, .string ⟨#[]⟩, .slice none 0 0, .int .i64 0] 25)) (w.heap.size + 1 + 1) := by
  show (((w.heap.push _).push _).push _)[w.heap.size + 1 + 1]? = _
  rw [Array.getElem?_push, if_pos (by simp)]

theorem readyL_none : ∀ (s : List SL) (seq : Int) (t : ByteArray), (∀ x ∈ s, x.q ≠ seq) → readyL s seq t = (s, 5)
  | [], _, _, _ => rfl
  | x :: s, seq, t, h => by
    unfold readyL
    rw [if_neg (h x (by simp)), readyL_none s seq t (fun y hy => h y (by simp [hy]))]
theorem readyL_at : ∀ (s : List SL) (seq : Int) (t : ByteArray) (j : Nat) (hj : j < s.length), s[j].q = seq → (∀ i (hi : i < j), (s[i]'(by omega)).q ≠ seq) → readyL s seq t = if s[j].r = true then (s, 12) else (s.set j ⟨seq, true, t⟩, 0)
  | [], _, _, j, hj, _, _ => absurd hj (by simp)
  | x :: s, seq, t, 0, hj, h, _ => by
    have h' : x.q = seq := h
    unfold readyL
    rw [if_pos h', h']
    rfl
  | x :: s, seq, t, j + 1, hj, h, hn => by
    have ih := readyL_at s seq t j (by simpa using hj) h (fun i hi => hn (i + 1) (by omega))
    have h0 : x.q ≠ seq := hn 0 (by omega)
    have hj' : j < s.length := by simpa using hj
    have e : (x :: s)[j + 1] = s[j]'hj' := rfl
    unfold readyL
    rw [if_neg h0, ih, e]
    split <;> rfl

set_option maxHeartbeats 8000000 in
set_option maxRecDepth 100000 in
theorem ConnReady_none (c : CN) (v : Value) (seq : Int) (t : ByteArray) (w : World) (hv : RowSl w v c.s) (hr : connB c = true) (ht : 1 ≤ t.size ∧ t.size ≤ 300) (hno : ∀ x ∈ c.s, x.q ≠ seq) :
    Calls Tryz.prog 13 #[cnV c v, .int .i64 seq, .string t] w fun e w' => AnsC (c, 5) w e w' := by
  have HNo := hide hno
  clear hno
  obtain ⟨p, cap, rfl, _⟩ := hv.slice
  have h2 := (connB_few hr).2.2.1
  have h3 := (connB_few hr).2.2.2
  have HL := hide (fun wx (hnx : Below w.heap.size w wx) => lineOf_right c (.slice p c.s.length cap) wx (hv.later hnx) hr)
  have HCl := hide (fun w => strClone_any t w (by omega))
  have ht' : ¬ (65536 : Int) < (t.size : Int) := by omega
  clear hv hr
  obtain ⟨o, e, i, s, n⟩ := c
  dsimp only [cnV] at *
  generalize hsl0 : s.length = l at *
  have HSL0 := hide hsl0
  clear hsl0
  go_enter Tryz.func13, Tryz.ntmps13
  go_wp2_with fail
  refine (unhide HL _ (qx_al (qx_al (qx_alloc _ _)))).mono ?_
  rintro ex w1 ⟨v1, rfl, hrow, hb1⟩
  have HZ := hide ((ZeroC.new3 w _ _).later hb1)
  have HB1 := hide (qx_trans (qx_al (qx_al (qx_alloc _ _))) hb1)
  have hsq : w1.cell? ⟨w.heap.size + 1, 0, none⟩ = some (.int .i64 seq) := (cell_of_block ((hb1.block (w.heap.size + 1) (by first | (simp; done) | (simp; omega))).trans (heap3 _ _ _ _)) 0).trans rfl
  have hz1 := hb1.size
  simp at hz1
  obtain ⟨p1, k1, rfl⟩ := hrow.slice
  have HLn := hide (LnAt.new w1 (w.heap.size + 3) ⟨o, e, i, s, n⟩ _ w1.heap.size rfl (by omega) (SlBuf.mono hrow (by simp)))
  have hBA := qx_alloc w1 (.cells #[.bool o, .bool e, .string i, .slice p1 s.length k1, .int .i64 n] 57)
  have hsq2 := cell_later hBA hsq
  have HBA := hide hBA
  clear hrow hb1 HL hBA
  dsimp only at HLn
  rw [unhide HSL0] at HLn HBA hsq2 ⊢
  have HFd := hide (find_any seq (w.heap.size + 1) (unhide HLn) hsq2 (by show s.length ≤ 6; rw [unhide HSL0]; exact h3))
  dsimp only at HFd
  go_wp2_with fail
  refine (isWithin_k _ _ _ true _ (by simp; omega)).mono ?_
  rintro ex w2 ⟨rfl, rfl⟩
  go_wp2_with fail
  refine (unhide HFd).mono ?_
  rintro ex y ⟨pt, rfl, hfd, hby⟩
  have HLy := hide ((unhide HLn).later hby)
  have HZy := hide (((unhide HZ).later (unhide HBA)).later hby)
  have HBy := hide (qx_trans (qx_trans (unhide HB1) (unhide HBA)) hby)
  clear hby HFd hsq hsq2
  rcases hfd with ⟨rfl, _⟩ | ⟨vb, j, cap', hj, _, _, hq, _⟩
  case inr => exact absurd hq (unhide HNo _ (List.getElem_mem hj))
  go_wp2_with fail
  refine (conn_any (unhide HLy).b).mono ?_
  rintro ex w3 ⟨rfl, hb3⟩
  dsimp only [cnV]
  have HZ3 := hide ((unhide HZy).later hb3)
  obtain ⟨a0, a1, a2, a3, a4⟩ := (unhide HZ3).cells
  obtain ⟨f0, f1, f2, f3, f4⟩ := (unhide HZ3).free
  have HRw := hide ((unhide HLy).row.row.later hb3)
  have hap := hide (fun j hj => show j ≠ w.heap.size + 1 + 1 by have := (World.ownsRow.lt (unhide HLy).row j hj).1; omega)
  have HB3 := hide (qx_trans (unhide HBy) hb3)
  clear hb3
  go_wp2
  refine bodyPost_ret (v := .tuple #[cnV ⟨o, e, i, s, n⟩ (.slice p1 l k1), .int .i64 5]) ?_ rfl ⟨_, rfl, (unhide HRw).five (c := ⟨o, e, i, s, n⟩) (v := (.slice p1 l k1)) (unhide hap), fiveC.below (c := ⟨o, e, i, s, n⟩) (v := (.slice p1 l k1)) (unhide HB3) (by omega)⟩
  rw [results_cell_tmp rfl]
  have hld := (unhide HZ3).load ⟨o, e, i, s, n⟩ (.slice p1 l k1)
  simp only [fiveC] at hld
  simp [asAddr, Result.andThen, hld]

set_option maxHeartbeats 8000000 in
set_option maxRecDepth 100000 in
theorem ConnReady_twice (c : CN) (v : Value) (seq : Int) (t : ByteArray) (w : World) (hv : RowSl w v c.s) (hr : connB c = true) (ht : 1 ≤ t.size ∧ t.size ≤ 300) (j : Nat) (x : SL) (hx : c.s[j]? = some x) (hq : x.q = seq) (hfst : ∀ y ∈ c.s.take j, y.q ≠ seq) (hrd : x.r = true) :
    Calls Tryz.prog 13 #[cnV c v, .int .i64 seq, .string t] w fun e w' => AnsC (c, 12) w e w' := by
  have HFst := hide hfst
  have HQ := hide hq
  have HX := hide hx
  clear hfst hq hx
  obtain ⟨p, cap, rfl, _⟩ := hv.slice
  have h2 := (connB_few hr).2.2.1
  have h3 := (connB_few hr).2.2.2
  have HL := hide (fun wx (hnx : Below w.heap.size w wx) => lineOf_right c (.slice p c.s.length cap) wx (hv.later hnx) hr)
  have HCl := hide (fun w => strClone_any t w (by omega))
  have ht' : ¬ (65536 : Int) < (t.size : Int) := by omega
  clear hv hr
  obtain ⟨o, e, i, s, n⟩ := c
  dsimp only [cnV] at *
  generalize hsl0 : s.length = l at *
  have HSL0 := hide hsl0
  clear hsl0
  go_enter Tryz.func13, Tryz.ntmps13
  go_wp2_with fail
  refine (unhide HL _ (qx_al (qx_al (qx_alloc _ _)))).mono ?_
  rintro ex w1 ⟨v1, rfl, hrow, hb1⟩
  have HZ := hide ((ZeroC.new3 w _ _).later hb1)
  have HB1 := hide (qx_trans (qx_al (qx_al (qx_alloc _ _))) hb1)
  have hsq : w1.cell? ⟨w.heap.size + 1, 0, none⟩ = some (.int .i64 seq) := (cell_of_block ((hb1.block (w.heap.size + 1) (by first | (simp; done) | (simp; omega))).trans (heap3 _ _ _ _)) 0).trans rfl
  have hz1 := hb1.size
  simp at hz1
  obtain ⟨p1, k1, rfl⟩ := hrow.slice
  have HLn := hide (LnAt.new w1 (w.heap.size + 3) ⟨o, e, i, s, n⟩ _ w1.heap.size rfl (by omega) (SlBuf.mono hrow (by simp)))
  have hBA := qx_alloc w1 (.cells #[.bool o, .bool e, .string i, .slice p1 s.length k1, .int .i64 n] 57)
  have hsq2 := cell_later hBA hsq
  have HBA := hide hBA
  clear hrow hb1 HL hBA
  dsimp only at HLn
  rw [unhide HSL0] at HLn HBA hsq2 ⊢
  have HFd := hide (find_any seq (w.heap.size + 1) (unhide HLn) hsq2 (by show s.length ≤ 6; rw [unhide HSL0]; exact h3))
  dsimp only at HFd
  go_wp2_with fail
  refine (isWithin_k _ _ _ true _ (by simp; omega)).mono ?_
  rintro ex w2 ⟨rfl, rfl⟩
  go_wp2_with fail
  refine (unhide HFd).mono ?_
  rintro ex y ⟨pt, rfl, hfd, hby⟩
  have HLy := hide ((unhide HLn).later hby)
  have HZy := hide (((unhide HZ).later (unhide HBA)).later hby)
  have HBy := hide (qx_trans (qx_trans (unhide HB1) (unhide HBA)) hby)
  clear hby HFd hsq hsq2
  have hjl : j < s.length := (List.getElem?_eq_some_iff.1 (unhide HX)).1
  have hxj : s[j] = x := (List.getElem?_eq_some_iff.1 (unhide HX)).2
  rcases hfd with ⟨rfl, hno⟩ | ⟨vb, j', cap', hj', hvv, rfl, hq', hn'⟩
  case inl => exact absurd (by rw [hxj]; exact unhide HQ) (hno _ (List.getElem_mem hjl))
  obtain rfl : j' = j := by
    rcases Nat.lt_trichotomy j' j with h | h | h
    · exact absurd hq' (unhide HFst _ (List.mem_take_iff_getElem.2 ⟨j', by omega, rfl⟩))
    · exact h
    · exact absurd (by rw [hxj]; exact unhide HQ) (hn' j h)
  have hro := (unhide HLy).row
  injection hvv with hp1 hl1 hk1
  subst hp1 hk1
  dsimp only at hro
  obtain ⟨g', eg, hg1, hg2, hcs⟩ := hro.opened (by omega)
  injection eg with eg
  injection eg with eg
  subst eg
  obtain ⟨q0, q1, q2⟩ := hcs j' hjl
  rw [hxj] at q0 q1 q2
  have HXJ := hide hxj
  clear hcs hq' hn' hl1 hxj hj'
  rw [hrd] at q1
  clear hro
  go_wp2_with fail
  refine (conn_any (unhide HLy).b).mono ?_
  rintro ex w3 ⟨rfl, hb3⟩
  dsimp only [cnV]
  have HZ3 := hide ((unhide HZy).later hb3)
  obtain ⟨a0, a1, a2, a3, a4⟩ := (unhide HZ3).cells
  obtain ⟨f0, f1, f2, f3, f4⟩ := (unhide HZ3).free
  have HRw := hide ((unhide HLy).row.row.later hb3)
  have hap := hide (fun j hj => show j ≠ w.heap.size + 1 + 1 by have := (World.ownsRow.lt (unhide HLy).row j hj).1; omega)
  have HB3 := hide (qx_trans (unhide HBy) hb3)
  clear hb3
  go_wp2
  refine bodyPost_ret (v := .tuple #[cnV ⟨o, e, i, s, n⟩ (.slice (some ⟨vb, 0, none⟩) l k1), .int .i64 12]) ?_ rfl ⟨_, rfl, (unhide HRw).five (c := ⟨o, e, i, s, n⟩) (v := (.slice (some ⟨vb, 0, none⟩) l k1)) (unhide hap), fiveC.below (c := ⟨o, e, i, s, n⟩) (v := (.slice (some ⟨vb, 0, none⟩) l k1)) (unhide HB3) (by omega)⟩
  rw [results_cell_tmp rfl]
  have hld := (unhide HZ3).load ⟨o, e, i, s, n⟩ (.slice (some ⟨vb, 0, none⟩) l k1)
  simp only [fiveC] at hld
  simp [asAddr, Result.andThen, hld]

set_option maxHeartbeats 8000000 in
set_option maxRecDepth 100000 in
theorem ConnReady_ok (c : CN) (v : Value) (seq : Int) (t : ByteArray) (w : World) (hv : RowSl w v c.s) (hr : connB c = true) (ht : 1 ≤ t.size ∧ t.size ≤ 300) (j : Nat) (x : SL) (hx : c.s[j]? = some x) (hq : x.q = seq) (hfst : ∀ y ∈ c.s.take j, y.q ≠ seq) (hrd : x.r = false) :
    Calls Tryz.prog 13 #[cnV c v, .int .i64 seq, .string t] w fun e w' => AnsC ({ c with s := c.s.set j ⟨seq, true, t⟩ }, 0) w e w' := by
  have HFst := hide hfst
  have HQ := hide hq
  have HX := hide hx
  clear hfst hq hx
  obtain ⟨p, cap, rfl, _⟩ := hv.slice
  have h2 := (connB_few hr).2.2.1
  have h3 := (connB_few hr).2.2.2
  have HL := hide (fun wx (hnx : Below w.heap.size w wx) => lineOf_right c (.slice p c.s.length cap) wx (hv.later hnx) hr)
  have HCl := hide (fun w => strClone_any t w (by omega))
  have ht' : ¬ (65536 : Int) < (t.size : Int) := by omega
  clear hv hr
  obtain ⟨o, e, i, s, n⟩ := c
  dsimp only [cnV] at *
  generalize hsl0 : s.length = l at *
  have HSL0 := hide hsl0
  clear hsl0
  go_enter Tryz.func13, Tryz.ntmps13
  go_wp2_with fail
  refine (unhide HL _ (qx_al (qx_al (qx_alloc _ _)))).mono ?_
  rintro ex w1 ⟨v1, rfl, hrow, hb1⟩
  have HZ := hide ((ZeroC.new3 w _ _).later hb1)
  have HB1 := hide (qx_trans (qx_al (qx_al (qx_alloc _ _))) hb1)
  have hsq : w1.cell? ⟨w.heap.size + 1, 0, none⟩ = some (.int .i64 seq) := (cell_of_block ((hb1.block (w.heap.size + 1) (by first | (simp; done) | (simp; omega))).trans (heap3 _ _ _ _)) 0).trans rfl
  have hz1 := hb1.size
  simp at hz1
  obtain ⟨p1, k1, rfl⟩ := hrow.slice
  have HLn := hide (LnAt.new w1 (w.heap.size + 3) ⟨o, e, i, s, n⟩ _ w1.heap.size rfl (by omega) (SlBuf.mono hrow (by simp)))
  have hBA := qx_alloc w1 (.cells #[.bool o, .bool e, .string i, .slice p1 s.length k1, .int .i64 n] 57)
  have hsq2 := cell_later hBA hsq
  have HBA := hide hBA
  clear hrow hb1 HL hBA
  dsimp only at HLn
  rw [unhide HSL0] at HLn HBA hsq2 ⊢
  have HFd := hide (find_any seq (w.heap.size + 1) (unhide HLn) hsq2 (by show s.length ≤ 6; rw [unhide HSL0]; exact h3))
  dsimp only at HFd
  go_wp2_with fail
  refine (isWithin_k _ _ _ true _ (by simp; omega)).mono ?_
  rintro ex w2 ⟨rfl, rfl⟩
  go_wp2_with fail
  refine (unhide HFd).mono ?_
  rintro ex y ⟨pt, rfl, hfd, hby⟩
  have HLy := hide ((unhide HLn).later hby)
  have HZy := hide (((unhide HZ).later (unhide HBA)).later hby)
  have HBy := hide (qx_trans (qx_trans (unhide HB1) (unhide HBA)) hby)
  clear hby HFd hsq hsq2
  have hjl : j < s.length := (List.getElem?_eq_some_iff.1 (unhide HX)).1
  have hxj : s[j] = x := (List.getElem?_eq_some_iff.1 (unhide HX)).2
  rcases hfd with ⟨rfl, hno⟩ | ⟨vb, j', cap', hj', hvv, rfl, hq', hn'⟩
  case inl => exact absurd (by rw [hxj]; exact unhide HQ) (hno _ (List.getElem_mem hjl))
  obtain rfl : j' = j := by
    rcases Nat.lt_trichotomy j' j with h | h | h
    · exact absurd hq' (unhide HFst _ (List.mem_take_iff_getElem.2 ⟨j', by omega, rfl⟩))
    · exact h
    · exact absurd (by rw [hxj]; exact unhide HQ) (hn' j h)
  have hro := (unhide HLy).row
  injection hvv with hp1 hl1 hk1
  subst hp1 hk1
  dsimp only at hro
  obtain ⟨g', eg, hg1, hg2, hcs⟩ := hro.opened (by omega)
  injection eg with eg
  injection eg with eg
  subst eg
  obtain ⟨q0, q1, q2⟩ := hcs j' hjl
  rw [hxj] at q0 q1 q2
  have HXJ := hide hxj
  clear hcs hq' hn' hl1 hxj hj'
  rw [hrd] at q1
  have fr1 := hro.free (j' * 3 + 1)
  have fr2 := hro.free (j' * 3 + 2)
  go_wp2_with fail
  refine (unhide HCl _).mono ?_
  rintro ex y2 ⟨rfl, hby2⟩
  have z1 := cell_later hby2 q1
  have z2 := cell_later hby2 q2
  have fz1 := frozen_later hby2 hg2 fr1
  have fz2 := frozen_later hby2 hg2 fr2
  have hL2 := (unhide HLy).later hby2
  have hS := (hL2.row.store j' 1 hjl (by omega) (.bool true) ⟨x.q, true, x.t⟩ (by dsimp only; rw [unhide HXJ]; rfl))
  have hS2 := hS.store j' 2 (by rw [List.length_set]; exact hjl) (by omega) (.string t) ⟨x.q, true, t⟩ (by rw [List.getElem_set_self]; rfl)
  rw [List.set_set, unhide HQ] at hS2
  have hne : vb ≠ w1.heap.size := hL2.ne vb rfl
  have HL2 : Hid (LnAt ((y2.setCell ⟨vb, j' * 3 + 1, none⟩ (.bool true)).setCell ⟨vb, j' * 3 + 2, none⟩ (.string t)) (w.heap.size + 3) w1.heap.size ⟨o, e, i, s.set j' ⟨seq, true, t⟩, n⟩ (.slice (some ⟨vb, 0, none⟩) l k1)) := hide ⟨hL2.hb, by rw [Below.heap_setCell _ _ _ _ (by exact fun e => hne e.symm), Below.heap_setCell _ _ _ _ (by exact fun e => hne e.symm)]; exact hL2.blk, hS2, hL2.ne⟩
  have hzg : w.heap.size + 1 + 1 ≠ vb := by omega
  have HZ2 := hide ((((unhide HZy).later hby2).set (k := vb) (o := j' * 3 + 1) (u := .bool true) (by omega)).set (k := vb) (o := j' * 3 + 2) (u := .string t) (by omega))
  have HB2 := hide (qx_set (o := j' * 3 + 2) (v := .string t) (qx_set (o := j' * 3 + 1) (v := .bool true) (qx_trans (unhide HBy) hby2) (show w.heap.size ≤ vb by omega)) (show w.heap.size ≤ vb by omega))
  clear hby2 hL2 hS hS2 hro q0 q1 q2 fr1 fr2
  go_wp2_with fail
  refine (conn_any (unhide HL2).b).mono ?_
  rintro ex w3 ⟨rfl, hb3⟩
  dsimp only [cnV]
  have HZ3 := hide ((unhide HZ2).later hb3)
  obtain ⟨a0, a1, a2, a3, a4⟩ := (unhide HZ3).cells
  obtain ⟨f0, f1, f2, f3, f4⟩ := (unhide HZ3).free
  have HRw := hide ((unhide HL2).row.row.later hb3)
  have hap := hide (fun j hj => show j ≠ w.heap.size + 1 + 1 by have := (World.ownsRow.lt (unhide HL2).row j hj).1; omega)
  have HB3 := hide (qx_trans (unhide HB2) hb3)
  clear hb3
  go_wp2
  refine bodyPost_ret (v := .tuple #[cnV ⟨o, e, i, s.set j' ⟨seq, true, t⟩, n⟩ (.slice (some ⟨vb, 0, none⟩) l k1), .int .i64 0]) ?_ rfl ⟨_, rfl, (unhide HRw).five (c := ⟨o, e, i, s.set j' ⟨seq, true, t⟩, n⟩) (v := (.slice (some ⟨vb, 0, none⟩) l k1)) (unhide hap), fiveC.below (c := ⟨o, e, i, s.set j' ⟨seq, true, t⟩, n⟩) (v := (.slice (some ⟨vb, 0, none⟩) l k1)) (unhide HB3) (by omega)⟩
  rw [results_cell_tmp rfl]
  have hld := (unhide HZ3).load ⟨o, e, i, s.set j' ⟨seq, true, t⟩, n⟩ (.slice (some ⟨vb, 0, none⟩) l k1)
  simp only [fiveC] at hld
  simp [asAddr, Result.andThen, hld]

end Go.Proofs.YtbgaodamgedlgaaGreatDoor
