/- A slot that is made ready, and the program's ConnReady at right connections. -/
import Derived.Test.YthfoabcmgiiadaaGreatDoorConnC8
namespace Go.Proofs.YthfoabcmgiiadaaGreatDoor
open Go.RowKit Go.Joins
set_option linter.unusedVariables false

theorem readyL_none : ∀ (s : List SL) (seq : Int) (t : ByteArray), (∀ x ∈ s, x.q ≠ seq) → readyL s seq t = (s, 5)
  | [], _, _, _ => rfl
  | x :: s, seq, t, h => by
    unfold readyL
    rw [if_neg (h x (by simp)), readyL_none s seq t (fun y hy => h y (by simp [hy]))]
theorem readyL_at : ∀ (s : List SL) (seq : Int) (t : ByteArray) (j : Nat) (hj : j < s.length), s[j].q = seq → (∀ i (hi : i < j), (s[i]'(by omega)).q ≠ seq) → readyL s seq t = if s[j].r = true then (s, 12) else (s.set j ⟨seq, true, t⟩, 0)
  | [], _, _, j, hj, _, _ => absurd hj (by simp)
  | x :: s, seq, t, 0, hj, h, _ => by
    have h' : x.q = seq := h
    unfold readyL
    rw [if_pos h', h']
    rfl
  | x :: s, seq, t, j + 1, hj, h, hn => by
    have ih := readyL_at s seq t j (by simpa using hj) h (fun i hi => hn (i + 1) (by omega))
    have h0 : x.q ≠ seq := hn 0 (by omega)
    have hj' : j < s.length := by simpa using hj
    have e : (x :: s)[j + 1] = s[j]'hj' := rfl
    unfold readyL
    rw [if_neg h0, ih, e]
    split <;> rfl

set_option maxHeartbeats 8000000 in
set_option maxRecDepth 100000 in
theorem ready_none {w : World} {base b : Nat} {c : CN} {v : Value} (seq : Int) (t : ByteArray) (H : LnAt w base b c v) (h3 : c.s.length ≤ 6) (ht : 1 ≤ t.size ∧ t.size ≤ 300) (hno : ∀ x ∈ c.s, x.q ≠ seq) :
    Calls Tryz.prog 31 #[.pointer (some ⟨b, 0, none⟩), .int .i64 seq, .string t] w fun e w' => LineR (c, 5) base b v w e w' := by
  have HNo := hide hno
  clear hno
  obtain ⟨p1, k1, hv⟩ := H.row.slice
  subst hv
  have hbl := H.lt
  have hbb := H.hb
  have HBB := hide (Nat.le_trans H.hb (Nat.le_of_lt H.lt))
  have HA := hide (qx_alloc w (.cells #[.int .i64 seq] 3))
  have HLn := hide (H.later (unhide HA))
  have HF := hide (LnF.of (b := b) (v := .slice p1 c.s.length k1) (unhide HA) (unhide HBB))
  have hsq : (w.alloc (.cells #[.int .i64 seq] 3)).cell? ⟨w.heap.size, 0, none⟩ = some (.int .i64 seq) := (cell_of_block (show (w.heap.push _)[w.heap.size]? = some (.cells #[.int .i64 seq] 3 (0, 0)) by rw [Array.getElem?_push, if_pos rfl]) 0).trans rfl
  have HFd := hide (find_any seq w.heap.size (unhide HLn) hsq h3)
  have HCl := hide (fun w => strClone_any t w (by omega))
  clear H hsq
  obtain ⟨o, e, i, s, n⟩ := c
  dsimp only at *
  generalize hsl0 : s.length = l at *
  have HSL0 := hide hsl0
  clear hsl0
  go_enter Tryz.func31, Tryz.ntmps31
  go_wp2_with fail
  refine (unhide HFd).mono ?_
  rintro ex y ⟨pt, rfl, hfd, hby⟩
  have HLy := hide ((unhide HLn).later hby)
  have HFy := hide ((unhide HF).trans (LnF.of hby (Nat.le_trans (unhide HBB) (unhide HA).size)))
  clear hby HFd
  rcases hfd with ⟨rfl, _⟩ | ⟨vb, j, cap', hj, _, _, hq, _⟩
  case inr => exact absurd hq (unhide HNo _ (List.getElem_mem hj))
  go_wp2
  go_ret
  exact ⟨rfl, unhide HLy, unhide HFy⟩

set_option maxHeartbeats 8000000 in
set_option maxRecDepth 100000 in
theorem ready_twice {w : World} {base b : Nat} {c : CN} {v : Value} (seq : Int) (t : ByteArray) (H : LnAt w base b c v) (h3 : c.s.length ≤ 6) (ht : 1 ≤ t.size ∧ t.size ≤ 300) (j : Nat) (x : SL) (hx : c.s[j]? = some x) (hq : x.q = seq) (hfst : ∀ y ∈ c.s.take j, y.q ≠ seq) (hrd : x.r = true) :
    Calls Tryz.prog 31 #[.pointer (some ⟨b, 0, none⟩), .int .i64 seq, .string t] w fun e w' => LineR (c, 12) base b v w e w' := by
  have HFst := hide hfst
  have HQ := hide hq
  have HX := hide hx
  clear hfst hq hx
  obtain ⟨p1, k1, hv⟩ := H.row.slice
  subst hv
  have hbl := H.lt
  have hbb := H.hb
  have HBB := hide (Nat.le_trans H.hb (Nat.le_of_lt H.lt))
  have HA := hide (qx_alloc w (.cells #[.int .i64 seq] 3))
  have HLn := hide (H.later (unhide HA))
  have HF := hide (LnF.of (b := b) (v := .slice p1 c.s.length k1) (unhide HA) (unhide HBB))
  have hsq : (w.alloc (.cells #[.int .i64 seq] 3)).cell? ⟨w.heap.size, 0, none⟩ = some (.int .i64 seq) := (cell_of_block (show (w.heap.push _)[w.heap.size]? = some (.cells #[.int .i64 seq] 3 (0, 0)) by rw [Array.getElem?_push, if_pos rfl]) 0).trans rfl
  have HFd := hide (find_any seq w.heap.size (unhide HLn) hsq h3)
  have HCl := hide (fun w => strClone_any t w (by omega))
  clear H hsq
  obtain ⟨o, e, i, s, n⟩ := c
  dsimp only at *
  generalize hsl0 : s.length = l at *
  have HSL0 := hide hsl0
  clear hsl0
  go_enter Tryz.func31, Tryz.ntmps31
  go_wp2_with fail
  refine (unhide HFd).mono ?_
  rintro ex y ⟨pt, rfl, hfd, hby⟩
  have HLy := hide ((unhide HLn).later hby)
  have HFy := hide ((unhide HF).trans (LnF.of hby (Nat.le_trans (unhide HBB) (unhide HA).size)))
  clear hby HFd
  have hjl : j < s.length := (List.getElem?_eq_some_iff.1 (unhide HX)).1
  have hxj : s[j] = x := (List.getElem?_eq_some_iff.1 (unhide HX)).2
  rcases hfd with ⟨rfl, hno⟩ | ⟨vb, j', cap', hj', hvv, rfl, hq', hn'⟩
  case inl => exact absurd (by rw [hxj]; exact unhide HQ) (hno _ (List.getElem_mem hjl))
  obtain rfl : j' = j := by
    rcases Nat.lt_trichotomy j' j with h | h | h
    · exact absurd hq' (unhide HFst _ (List.mem_take_iff_getElem.2 ⟨j', by omega, rfl⟩))
    · exact h
    · exact absurd (by rw [hxj]; exact unhide HQ) (hn' j h)
  have hro := (unhide HLy).row
  injection hvv with hp1 hl1 hk1
  subst hp1 hk1
  dsimp only at hro
  obtain ⟨g', eg, hg1, hg2, hcs⟩ := hro.opened (by omega)
  injection eg with eg
  injection eg with eg
  subst eg
  obtain ⟨q0, q1, q2⟩ := hcs j' hjl
  rw [hxj] at q0 q1 q2
  have HXJ := hide hxj
  clear hcs hq' hn' hl1 hxj hj'
  rw [hrd] at q1
  clear hro
  go_wp2
  go_ret
  exact ⟨rfl, unhide HLy, unhide HFy⟩

set_option maxHeartbeats 8000000 in
set_option maxRecDepth 100000 in
theorem ready_ok {w : World} {base b : Nat} {c : CN} {v : Value} (seq : Int) (t : ByteArray) (H : LnAt w base b c v) (h3 : c.s.length ≤ 6) (ht : 1 ≤ t.size ∧ t.size ≤ 300) (j : Nat) (x : SL) (hx : c.s[j]? = some x) (hq : x.q = seq) (hfst : ∀ y ∈ c.s.take j, y.q ≠ seq) (hrd : x.r = false) :
    Calls Tryz.prog 31 #[.pointer (some ⟨b, 0, none⟩), .int .i64 seq, .string t] w fun e w' => LineR ({ c with s := c.s.set j ⟨seq, true, t⟩ }, 0) base b v w e w' := by
  have HFst := hide hfst
  have HQ := hide hq
  have HX := hide hx
  clear hfst hq hx
  obtain ⟨p1, k1, hv⟩ := H.row.slice
  subst hv
  have hbl := H.lt
  have hbb := H.hb
  have HBB := hide (Nat.le_trans H.hb (Nat.le_of_lt H.lt))
  have HA := hide (qx_alloc w (.cells #[.int .i64 seq] 3))
  have HLn := hide (H.later (unhide HA))
  have HF := hide (LnF.of (b := b) (v := .slice p1 c.s.length k1) (unhide HA) (unhide HBB))
  have hsq : (w.alloc (.cells #[.int .i64 seq] 3)).cell? ⟨w.heap.size, 0, none⟩ = some (.int .i64 seq) := (cell_of_block (show (w.heap.push _)[w.heap.size]? = some (.cells #[.int .i64 seq] 3 (0, 0)) by rw [Array.getElem?_push, if_pos rfl]) 0).trans rfl
  have HFd := hide (find_any seq w.heap.size (unhide HLn) hsq h3)
  have HCl := hide (fun w => strClone_any t w (by omega))
  clear H hsq
  obtain ⟨o, e, i, s, n⟩ := c
  dsimp only at *
  generalize hsl0 : s.length = l at *
  have HSL0 := hide hsl0
  clear hsl0
  go_enter Tryz.func31, Tryz.ntmps31
  go_wp2_with fail
  refine (unhide HFd).mono ?_
  rintro ex y ⟨pt, rfl, hfd, hby⟩
  have HLy := hide ((unhide HLn).later hby)
  have HFy := hide ((unhide HF).trans (LnF.of hby (Nat.le_trans (unhide HBB) (unhide HA).size)))
  clear hby HFd
  have hjl : j < s.length := (List.getElem?_eq_some_iff.1 (unhide HX)).1
  have hxj : s[j] = x := (List.getElem?_eq_some_iff.1 (unhide HX)).2
  rcases hfd with ⟨rfl, hno⟩ | ⟨vb, j', cap', hj', hvv, rfl, hq', hn'⟩
  case inl => exact absurd (by rw [hxj]; exact unhide HQ) (hno _ (List.getElem_mem hjl))
  obtain rfl : j' = j := by
    rcases Nat.lt_trichotomy j' j with h | h | h
    · exact absurd hq' (unhide HFst _ (List.mem_take_iff_getElem.2 ⟨j', by omega, rfl⟩))
    · exact h
    · exact absurd (by rw [hxj]; exact unhide HQ) (hn' j h)
  have hro := (unhide HLy).row
  injection hvv with hp1 hl1 hk1
  subst hp1 hk1
  dsimp only at hro
  obtain ⟨g', eg, hg1, hg2, hcs⟩ := hro.opened (by omega)
  injection eg with eg
  injection eg with eg
  subst eg
  obtain ⟨q0, q1, q2⟩ := hcs j' hjl
  rw [hxj] at q0 q1 q2
  have HXJ := hide hxj
  clear hcs hq' hn' hl1 hxj hj'
  rw [hrd] at q1
  have fr1 := hro.free (j' * 3 + 1)
  have fr2 := hro.free (j' * 3 + 2)
  go_wp2_with fail
  refine (unhide HCl _).mono ?_
  rintro ex y2 ⟨rfl, hby2⟩
  have z1 := cell_later hby2 q1
  have z2 := cell_later hby2 q2
  have fz1 := frozen_later hby2 hg2 fr1
  have fz2 := frozen_later hby2 hg2 fr2
  have hL2 := (unhide HLy).later hby2
  have hS := (hL2.row.store j' 1 hjl (by omega) (.bool true) ⟨x.q, true, x.t⟩ (by dsimp only; rw [unhide HXJ]; rfl))
  have hS2 := hS.store j' 2 (by rw [List.length_set]; exact hjl) (by omega) (.string t) ⟨x.q, true, t⟩ (by rw [List.getElem_set_self]; rfl)
  rw [List.set_set, unhide HQ] at hS2
  have hne : vb ≠ b := hL2.ne vb rfl
  have HL2 : Hid (LnAt ((y2.setCell ⟨vb, j' * 3 + 1, none⟩ (.bool true)).setCell ⟨vb, j' * 3 + 2, none⟩ (.string t)) base b ⟨o, e, i, s.set j' ⟨seq, true, t⟩, n⟩ (.slice (some ⟨vb, 0, none⟩) l k1)) := hide ⟨hL2.hb, by rw [Below.heap_setCell _ _ _ _ (by exact fun e => hne e.symm), Below.heap_setCell _ _ _ _ (by exact fun e => hne e.symm)]; exact hL2.blk, hS2, hL2.ne⟩
  have hbs : base ≤ y.heap.size := Nat.le_trans hg1 (Nat.le_of_lt hg2)
  have HF2 := hide ((((unhide HFy).trans (LnF.of hby2 hbs)).row hg1 rfl (j' * 3 + 1) (.bool true)).row hg1 rfl (j' * 3 + 2) (.string t))
  clear hby2 hL2 hS hS2 hro q0 q1 q2 fr1 fr2
  go_wp2
  go_ret
  exact ⟨rfl, unhide HL2, unhide HF2⟩

set_option maxHeartbeats 8000000 in
set_option maxRecDepth 100000 in
theorem ConnReady_by (c : CN) (r : CN × Int) (v : Value) (seq : Int) (t : ByteArray) (w : World) (hv : RowSl w v c.s) (hr : connB c = true) (ht : 1 ≤ t.size ∧ t.size ≤ 300)
    (hm : ∀ (w : World) (base b : Nat) (v : Value), LnAt w base b c v → Calls Tryz.prog 31 #[.pointer (some ⟨b, 0, none⟩), .int .i64 seq, .string t] w fun e w' => LineR r base b v w e w') :
    Calls Tryz.prog 14 #[cnV c v, .int .i64 seq, .string t] w fun e w' => AnsC r w e w' := by
  obtain ⟨p, cap, rfl, _⟩ := hv.slice
  have HL := hide (fun wx (hnx : Below w.heap.size w wx) => lineOf_right c (.slice p c.s.length cap) wx (hv.later hnx) hr)
  have HM := hide hm
  have ht' : ¬ (65536 : Int) < (t.size : Int) := by omega
  clear hv hr hm
  obtain ⟨o, e, i, s, n⟩ := c
  obtain ⟨⟨ro, re, ri, rs, rn⟩, rc⟩ := r
  dsimp only [cnV] at *
  generalize s.length = l at *
  go_enter Tryz.func14, Tryz.ntmps14
  go_wp2_with fail
  refine (unhide HL _ (qx_al (qx_alloc _ _))).mono ?_
  rintro ex w1 ⟨v1, rfl, hrow, hb1⟩
  have HZ := hide ((ZeroC.new2 w _).later hb1)
  have HB1 := hide (qx_trans (qx_al (qx_alloc _ _)) hb1)
  have hz1 := hb1.size
  simp at hz1
  obtain ⟨p1, k1, rfl⟩ := hrow.slice
  have HLn := hide (LnAt.new w1 (w.heap.size + 2) ⟨o, e, i, s, n⟩ _ w1.heap.size rfl (by omega) (SlBuf.mono hrow (by simp)))
  have HBA := hide (qx_alloc w1 (.cells #[.bool o, .bool e, .string i, .slice p1 s.length k1, .int .i64 n] 57))
  clear hrow hb1 HL
  dsimp only at HLn
  generalize hsl : s.length = l2 at *
  have HSL := hide hsl
  clear hsl
  have HM1 := hide (unhide HM _ _ _ _ (unhide HLn))
  go_wp2_with fail
  refine (isWithin_k _ _ _ true _ (by simp; omega)).mono ?_
  rintro ex w2 ⟨rfl, rfl⟩
  go_wp2_with fail
  refine (unhide HM1).mono ?_
  rintro ex w2 ⟨rfl, hl2, hf2⟩
  have HL2 := hide hl2
  have HZ2 := hide (((unhide HZ).later (unhide HBA)).below hf2.below (by omega))
  have HB2 := hide ((qx_trans (unhide HB1) (unhide HBA)).trans (hf2.below.mono (show w.heap.size ≤ w.heap.size + 2 by omega)))
  clear hl2 hf2 HM1
  go_wp2_with fail
  refine (conn_any (unhide HL2).b).mono ?_
  rintro ex w3 ⟨rfl, hb3⟩
  dsimp only [cnV]
  have HZ3 := hide ((unhide HZ2).later hb3)
  obtain ⟨a0, a1, a2, a3, a4⟩ := (unhide HZ3).cells
  obtain ⟨f0, f1, f2, f3, f4⟩ := (unhide HZ3).free
  have HRw := hide ((unhide HL2).row.row.later hb3)
  have hap := hide (fun j hj => show j ≠ w.heap.size + 1 by have := (World.ownsRow.lt (unhide HL2).row j hj).1; omega)
  have HB3 := hide (qx_trans (unhide HB2) hb3)
  clear hb3
  go_wp2
  refine bodyPost_ret (v := .tuple #[cnV ⟨ro, re, ri, rs, rn⟩ (.slice p1 l2 k1), .int .i64 rc]) ?_ rfl ⟨_, rfl, (unhide HRw).five (c := ⟨ro, re, ri, rs, rn⟩) (v := .slice p1 l2 k1) (unhide hap), fiveC.below (c := ⟨ro, re, ri, rs, rn⟩) (v := .slice p1 l2 k1) (unhide HB3) (Nat.le_succ _)⟩
  rw [results_cell_tmp rfl]
  have hld := (unhide HZ3).load ⟨ro, re, ri, rs, rn⟩ (.slice p1 l2 k1)
  simp only [fiveC] at hld
  simp [asAddr, Result.andThen, hld]

theorem ConnReady_none (c : CN) (v : Value) (seq : Int) (t : ByteArray) (w : World) (hv : RowSl w v c.s) (hr : connB c = true) (ht : 1 ≤ t.size ∧ t.size ≤ 300) (hno : ∀ x ∈ c.s, x.q ≠ seq) :
    Calls Tryz.prog 14 #[cnV c v, .int .i64 seq, .string t] w fun e w' => AnsC (c, 5) w e w' :=
  ConnReady_by c _ v seq t w hv hr ht fun _ _ _ _ H => ready_none seq t H (connB_few hr).2.2.2 ht hno
theorem ConnReady_twice (c : CN) (v : Value) (seq : Int) (t : ByteArray) (w : World) (hv : RowSl w v c.s) (hr : connB c = true) (ht : 1 ≤ t.size ∧ t.size ≤ 300) (j : Nat) (x : SL) (hx : c.s[j]? = some x) (hq : x.q = seq) (hfst : ∀ y ∈ c.s.take j, y.q ≠ seq) (hrd : x.r = true) :
    Calls Tryz.prog 14 #[cnV c v, .int .i64 seq, .string t] w fun e w' => AnsC (c, 12) w e w' :=
  ConnReady_by c _ v seq t w hv hr ht fun _ _ _ _ H => ready_twice seq t H (connB_few hr).2.2.2 ht j x hx hq hfst hrd
theorem ConnReady_ok (c : CN) (v : Value) (seq : Int) (t : ByteArray) (w : World) (hv : RowSl w v c.s) (hr : connB c = true) (ht : 1 ≤ t.size ∧ t.size ≤ 300) (j : Nat) (x : SL) (hx : c.s[j]? = some x) (hq : x.q = seq) (hfst : ∀ y ∈ c.s.take j, y.q ≠ seq) (hrd : x.r = false) :
    Calls Tryz.prog 14 #[cnV c v, .int .i64 seq, .string t] w fun e w' => AnsC ({ c with s := c.s.set j ⟨seq, true, t⟩ }, 0) w e w' :=
  ConnReady_by c _ v seq t w hv hr ht fun _ _ _ _ H => ready_ok seq t H (connB_few hr).2.2.2 ht j x hx hq hfst hrd

end Go.Proofs.YthfoabcmgiiadaaGreatDoor
