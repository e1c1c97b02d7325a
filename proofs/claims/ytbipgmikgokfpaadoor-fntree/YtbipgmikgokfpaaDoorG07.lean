/- A bundle. -/
import Derived.Test.YtbipgmikgokfpaaDoorG06
import Derived.WalkMore
import Derived.BigQuiet
import Derived.Test.YtbipgmikgokfpaaDoorG05
import Derived.Test.YtbipgmikgokfpaaDoorG02
import Derived.Deep.RegionLaw

/- PWalk1 -/
namespace Go.Proofs.YtbipgmikgokfpaaDoor
open Go.RowKit Go.Joins
set_option linter.unusedVariables false

set_option maxRecDepth 100000 in
theorem fieldTok (k n : Int) (t : ByteArray) (w : World) : (Instr.field 169 (.agg #[.int .i64 k, .int .i64 n, .string t]) 1).run Tryd.prog w = .ok (.int .i64 n) w := by kernel_rfl
set_option maxRecDepth 100000 in
theorem fieldTok2 (k n : Int) (t : ByteArray) (w : World) : (Instr.field 169 (.agg #[.int .i64 k, .int .i64 n, .string t]) 2).run Tryd.prog w = .ok (.string t) w := by kernel_rfl
def tokA (x : V3) : Value := .agg #[.int .i64 x.k, .int .i64 x.n, .string x.t]
theorem nextP_in {ts : List V3} {s : PS} (h : s.at' < ts.length) : nextP ts s = ts[s.at'] := by unfold nextP; exact dif_pos h
theorem nextP_out {ts : List V3} {s : PS} (h : ¬ s.at' < ts.length) : nextP ts s = ⟨0, endP ts, em⟩ := by unfold nextP; exact dif_neg h
theorem endP_some {ts : List V3} (h : 0 < ts.length) : endP ts = ts[ts.length - 1].n + 1 := by
  unfold endP
  rw [List.getLast?_eq_getElem?, List.getElem?_eq_getElem (by omega)]
theorem endP_none {ts : List V3} (h : ¬ 0 < ts.length) : endP ts = 0 := by
  cases ts with
  | nil => rfl
  | cons => simp at h
theorem next_lt {ts : List V3} {s : PS} (h : (nextP ts s).k ≠ 0) : s.at' < ts.length := Classical.byContradiction fun hn => by
  rw [nextP_out hn] at h
  exact h rfl
theorem is_lt {ts : List V3} {s : PS} {t : List UInt8} (h : isP ts s t = true) : s.at' < ts.length := next_lt (fun e => by
  unfold isP isV at h
  rw [e] at h
  simp at h)

set_option maxHeartbeats 2000000 in
set_option maxRecDepth 100000 in
theorem pnext_in {g : Nat} {lp : Option Addr} {lc : PX} {ts : List V3} {v : Value} {s : PS} {w : World} (hTS : TS ts) (h : PAt w g lp lc ts v s) (hlt : s.at' < ts.length) :
    Calls Tryd.prog 167 #[.pointer (some ⟨g, 0, none⟩)] w fun e w' => e = .returned (tokA ts[s.at']) ∧ Below w.heap.size w w' := by
  obtain ⟨c0, c1, c2, c3, c4, c5⟩ := h.cells
  have hg := h.lt
  obtain ⟨b, off, rfl, t0, t1, t2⟩ := h.toks s.at' hlt
  have hb : b < g := Nat.lt_of_lt_of_le (h.tb _ rfl) h.bg
  have hbw : b < w.heap.size := by omega
  have hf := hTS.few
  have hl1 : (s.at' : Int) < (ts.length : Int) := by omega
  have hl0 : (0 : Int) ≤ (s.at' : Int) := Int.natCast_nonneg _
  clear h c2 c3 c4 c5 hTS
  generalize ts[s.at'] = x at t0 t1 t2 ⊢
  go_enter Tryd.func167, Tryd.ntmps167
  go_wp2
  go_region
  all_goals go_wp2
  go_region
  all_goals go_wp2
  all_goals exact bodyPost_ret (v := tokA x) (by simp [results, Tryd.results167, go_sem, tokA]) rfl ⟨rfl, (by repeat (first | exact Below.refl _ _ | refine nx_al ?_ | refine nx_drew ?_ | refine nx_set ?_ (Nat.le_refl _)))⟩

set_option maxHeartbeats 2000000 in
set_option maxRecDepth 100000 in
theorem pnext_out {g : Nat} {lp : Option Addr} {lc : PX} {ts : List V3} {v : Value} {s : PS} {w : World} (hTS : TS ts) (h : PAt w g lp lc ts v s) (hlt : ¬ s.at' < ts.length) :
    Calls Tryd.prog 167 #[.pointer (some ⟨g, 0, none⟩)] w fun e w' => e = .returned (tokA ⟨0, endP ts, em⟩) ∧ Below w.heap.size w w' := by
  obtain ⟨c0, c1, c2, c3, c4, c5⟩ := h.cells
  have hg := h.lt
  have hf := hTS.few
  have hl1 : ¬ (s.at' : Int) < (ts.length : Int) := by omega
  by_cases hz : 0 < ts.length
  · obtain ⟨b, off, rfl, t0, t1, t2⟩ := h.toks (ts.length - 1) (by omega)
    have hb : b < g := Nat.lt_of_lt_of_le (h.tb _ rfl) h.bg
    have hbw : b < w.heap.size := by omega
    have hn := hTS.each _ (List.getElem_mem (show ts.length - 1 < ts.length by omega))
    rw [endP_some hz]
    have hz' : (0 : Int) < (ts.length : Int) := by omega
    obtain ⟨m, hm⟩ : ∃ m, ts.length = m + 1 := ⟨ts.length - 1, by omega⟩
    generalize ts[ts.length - 1] = x at t0 t1 t2 hn ⊢
    rw [hm, Nat.add_sub_cancel] at t0 t1 t2
    rw [hm] at c0 hl1 hz' hf
    have hw1 : IntKind.i64.wrap (((m + 1 : Nat) : Int) - 1) = (m : Int) := by rw [IntKind.wrap_i64]; omega
    have hw2 : IntKind.i64.wrap (x.n + 1) = x.n + 1 := by rw [IntKind.wrap_i64]; omega
    have hm1 : (m : Int) < ((m + 1 : Nat) : Int) := by omega
    have hm0 : (0 : Int) ≤ (m : Int) := Int.natCast_nonneg _
    clear h c2 c3 c4 c5 hTS hlt hz hm
    go_enter Tryd.func167, Tryd.ntmps167
    go_wp2
    go_region
    all_goals go_wp2
    go_region
    all_goals go_wp2
    all_goals exact bodyPost_ret (v := tokA ⟨0, x.n + 1, em⟩) (by simp [results, Tryd.results167, go_sem, tokA, em]) rfl ⟨rfl, (by repeat (first | exact Below.refl _ _ | refine nx_al ?_ | refine nx_drew ?_ | refine nx_set ?_ (Nat.le_refl _)))⟩
  · rw [endP_none hz]
    have hz' : ¬ (0 : Int) < (ts.length : Int) := by omega
    clear h c2 c3 c4 c5 hTS hlt hz
    go_enter Tryd.func167, Tryd.ntmps167
    go_wp2
    go_region
    all_goals go_wp2
    all_goals exact bodyPost_ret (v := tokA ⟨0, 0, em⟩) (by simp [results, Tryd.results167, go_sem, tokA, em]) rfl ⟨rfl, (by repeat (first | exact Below.refl _ _ | refine nx_al ?_ | refine nx_drew ?_ | refine nx_set ?_ (Nat.le_refl _)))⟩

theorem pnext {g : Nat} {lp : Option Addr} {lc : PX} {ts : List V3} {v : Value} {s : PS} {w : World} (hTS : TS ts) (h : PAt w g lp lc ts v s) :
    Calls Tryd.prog 167 #[.pointer (some ⟨g, 0, none⟩)] w fun e w' => e = .returned (tokA (nextP ts s)) ∧ Below w.heap.size w w' := by
  by_cases hlt : s.at' < ts.length
  · rw [nextP_in hlt]; exact pnext_in hTS h hlt
  · rw [nextP_out hlt]; exact pnext_out hTS h hlt

theorem isV_yes {x : V3} {t : ByteArray} (hk : x.k = 2 ∨ x.k = 5) (ht : x.t = t) : isV x t.data.toList = true := by
  unfold isV; rw [ht]
  rcases hk with h | h <;> rw [h] <;> simp
theorem isV_kind {x : V3} {l : List UInt8} (h2 : ¬ x.k = 2) (h5 : ¬ x.k = 5) : isV x l = false := by
  unfold isV; simp [h2, h5]
theorem isV_text {x : V3} {t : ByteArray} (ht : ¬ x.t = t) : isV x t.data.toList = false := by
  unfold isV
  have : (x.t.data.toList == t.data.toList) = false := beq_eq_false_iff_ne.2 fun e => ht (by cases hx : x.t; cases t; rw [hx] at e; simp at e; rw [e])
  rw [this]; simp

set_option maxHeartbeats 2000000 in
set_option maxRecDepth 100000 in
theorem pis {g : Nat} {lp : Option Addr} {lc : PX} {ts : List V3} {v : Value} {s : PS} {w : World} (hTS : TS ts) (h : PAt w g lp lc ts v s) (t : ByteArray) :
    Calls Tryd.prog 137 #[.pointer (some ⟨g, 0, none⟩), .string t] w fun e w' => e = .returned (.bool (isP ts s t.data.toList)) ∧ Below w.heap.size w w' := by
  have HN := hide (pnext hTS h)
  unfold isP
  clear h hTS
  generalize nextP ts s = x at HN ⊢
  obtain ⟨xk, xn, xt⟩ := x
  unfold tokA at HN
  by_cases h2 : xk = 2
  · subst h2
    by_cases ht : xt = t
    · subst ht
      rw [isV_yes (.inl rfl) rfl]
      have e1 := ba_self xt
      have e2 := bl_self xt
      go_enter Tryd.func137, Tryd.ntmps137
      go_wp2_with fail
      refine (unhide HN).mono ?_
      rintro e w1 ⟨rfl, hb⟩
      clear HN
      go_wp2
      go_ret
      exact ⟨rfl, nx_al hb⟩
    · rw [isV_text ht]
      have e1 := ba_ne ht
      have e2 := bl_ne ht
      go_enter Tryd.func137, Tryd.ntmps137
      go_wp2_with fail
      refine (unhide HN).mono ?_
      rintro e w1 ⟨rfl, hb⟩
      clear HN
      go_wp2
      go_ret
      exact ⟨rfl, nx_al hb⟩
  by_cases h5 : xk = 5
  · subst h5
    by_cases ht : xt = t
    · subst ht
      rw [isV_yes (.inr rfl) rfl]
      have e1 := ba_self xt
      have e2 := bl_self xt
      go_enter Tryd.func137, Tryd.ntmps137
      go_wp2_with fail
      refine (unhide HN).mono ?_
      rintro e w1 ⟨rfl, hb⟩
      clear HN
      go_wp2
      go_ret
      exact ⟨rfl, nx_al hb⟩
    · rw [isV_text ht]
      have e1 := ba_ne ht
      have e2 := bl_ne ht
      go_enter Tryd.func137, Tryd.ntmps137
      go_wp2_with fail
      refine (unhide HN).mono ?_
      rintro e w1 ⟨rfl, hb⟩
      clear HN
      go_wp2
      go_ret
      exact ⟨rfl, nx_al hb⟩
  · rw [isV_kind h2 h5]
    have e1 : (xk == 2) = false := beq_eq_false_iff_ne.2 h2
    have e2 : (xk == 5) = false := beq_eq_false_iff_ne.2 h5
    go_enter Tryd.func137, Tryd.ntmps137
    go_wp2_with fail
    refine (unhide HN).mono ?_
    rintro e w1 ⟨rfl, hb⟩
    clear HN
    go_wp2
    go_ret
    exact ⟨rfl, nx_al hb⟩

theorem adv_eq (s : PS) : advP s = { s with at' := s.at' + 1 } := rfl
theorem up_eq (s : PS) : upP s = { s with dp := s.dp - 1 } := rfl
theorem PAt.adv {w : World} {g : Nat} {lp : Option Addr} {lc : PX} {ts : List V3} {v : Value} {s : PS} (h : PAt w g lp lc ts v s) (hn : s.at' < ts.length) : PAt (w.setCell ⟨g, 1, none⟩ (.int .i64 ((s.at' : Int) + 1))) g lp lc ts v (advP s) := by
  have := h.setAt (s.at' + 1) hn
  rw [adv_eq]
  simpa using this
/-- behind 'take' -/
def takeS (ts : List V3) (s : PS) (t : List UInt8) : PS := if tkP ts s t = true then advP s else s

set_option maxHeartbeats 2000000 in
set_option maxRecDepth 100000 in
theorem ptake {g : Nat} {lp : Option Addr} {lc : PX} {ts : List V3} {v : Value} {s : PS} {w : World} (hTS : TS ts) (h : PAt w g lp lc ts v s) (t : ByteArray) :
    Calls Tryd.prog 106 #[.pointer (some ⟨g, 0, none⟩), .string t] w fun e w' => e = .returned (.bool (tkP ts s t.data.toList)) ∧ PAt w' g lp lc ts v (takeS ts s t.data.toList) ∧ PK g v v w w' := by
  have HI := hide (pis hTS h t)
  have H := hide h
  obtain ⟨c0, c1, c2, c3, c4, c5⟩ := h.cells
  have hg := h.lt
  have hf := hTS.few
  have hat := h.hat
  unfold takeS
  by_cases hc : s.code = 0
  · have e0 : (s.code == 0) = true := by rw [hc]; rfl
    cases hi : isP ts s t.data.toList with
    | true =>
      have ht : tkP ts s t.data.toList = true := by unfold tkP; rw [e0, hi]; rfl
      have hlt := is_lt hi
      rw [if_pos ht, ht]
      rw [hi] at HI
      rw [hc] at c4
      clear h hTS e0 hi ht c0 c2 c3 c5
      go_enter Tryd.func106, Tryd.ntmps106
      go_wp2_with fail
      refine (unhide HI).mono ?_
      rintro e w1 ⟨rfl, hb⟩
      have H1 := hide ((unhide H).later hb)
      have d1 := cell_later hb c1
      have z1 := (unhide H1).free 1
      have HB := hide hb
      clear HI H hb c1 c4
      go_wp2
      go_ret
      exact ⟨rfl, (unhide H1).adv hlt, (PK.of_below (unhide HB)).set⟩
    | false =>
      have ht : tkP ts s t.data.toList = false := by unfold tkP; rw [hi]; simp
      rw [if_neg (by rw [ht]; simp), ht]
      rw [hi] at HI
      rw [hc] at c4
      clear h hTS e0 hi ht c0 c2 c3 c5
      go_enter Tryd.func106, Tryd.ntmps106
      go_wp2_with fail
      refine (unhide HI).mono ?_
      rintro e w1 ⟨rfl, hb⟩
      have H1 := hide ((unhide H).later hb)
      have HB := hide hb
      clear HI H hb c1 c4
      go_wp2
      go_ret
      exact ⟨rfl, unhide H1, PK.of_below (unhide HB)⟩
  · have e0 : (s.code == 0) = false := beq_eq_false_iff_ne.2 hc
    have ht : tkP ts s t.data.toList = false := by unfold tkP; rw [e0]; rfl
    rw [if_neg (by rw [ht]; simp), ht]
    clear h hTS ht c0 c2 c3 c5 HI
    go_enter Tryd.func106, Tryd.ntmps106
    go_wp2
    go_ret
    exact ⟨rfl, unhide H, PK.refl _ _ _⟩

set_option maxHeartbeats 2000000 in
set_option maxRecDepth 100000 in
theorem pfail {g : Nat} {lp : Option Addr} {lc : PX} {ts : List V3} {v : Value} {s : PS} {w : World} (hTS : TS ts) (h : PAt w g lp lc ts v s) (c : Int) :
    Calls Tryd.prog 143 #[.pointer (some ⟨g, 0, none⟩), .int .i64 c] w fun e w' => e = .returned (.tuple #[]) ∧ PAt w' g lp lc ts v (failP ts c s) ∧ PK g v v w w' := by
  obtain ⟨c0, c1, c2, c3, c4, c5⟩ := h.cells
  have hg := h.lt
  have z4 := h.free 4
  have H := hide h
  unfold failP
  by_cases hc : s.code = 0
  · rw [if_pos hc]
    rw [hc] at c4
    have hn : nextP ts { s with code := c } = nextP ts s := by unfold nextP; rfl
    have HN := hide (pnext hTS (h.setCode c))
    rw [hn] at HN
    have H4 := hide (h.setCode c)
    have HK := hide ((PK.refl g v w).set (o := 4) (x := .int .i64 c))
    clear h hTS c0 c1 c2 c3 c5 hn
    generalize hx : nextP ts s = x at HN ⊢
    unfold tokA at HN
    clear hx
    go_enter Tryd.func143, Tryd.ntmps143
    go_wp2_with fail
    refine (unhide HN).mono ?_
    rintro e w1 ⟨rfl, hb⟩
    have H5 := hide ((unhide H4).later hb)
    have HK1 := hide ((unhide HK).then_below hb)
    have d5 := (unhide H5).cells.2.2.2.2.2
    have z5 := (unhide H5).free 5
    have hfd := fieldTok x.k x.n x.t w1
    clear HN H4 HK hb c4 z4 H
    go_wp2
    go_end0
    exact ⟨rfl, (unhide H5).setPlace x.n, (unhide HK1).set⟩
  · rw [if_neg hc]
    have e0 : (s.code == 0) = false := beq_eq_false_iff_ne.2 hc
    clear h hTS c0 c1 c2 c3 c5 hc
    go_enter Tryd.func143, Tryd.ntmps143
    go_wp2
    go_end0
    exact ⟨rfl, unhide H, PK.refl _ _ _⟩

set_option maxHeartbeats 2000000 in
set_option maxRecDepth 100000 in
theorem pneed {g : Nat} {lp : Option Addr} {lc : PX} {ts : List V3} {v : Value} {s : PS} {w : World} (hTS : TS ts) (h : PAt w g lp lc ts v s) (t : ByteArray) :
    Calls Tryd.prog 139 #[.pointer (some ⟨g, 0, none⟩), .string t] w fun e w' => e = .returned (.tuple #[]) ∧ PAt w' g lp lc ts v (needP ts t.data.toList s) ∧ PK g v v w w' := by
  have HT := hide (ptake hTS h t)
  obtain ⟨c0, c1, c2, c3, c4, c5⟩ := h.cells
  have hg := h.lt
  have H := hide h
  unfold needP
  by_cases hc : s.code = 0
  · rw [if_pos hc]
    have e0 : (s.code == 0) = true := by rw [hc]; rfl
    cases hi : isP ts s t.data.toList with
    | true =>
      rw [if_pos rfl]
      have ht : tkP ts s t.data.toList = true := by unfold tkP; rw [e0, hi]; rfl
      unfold takeS at HT
      rw [if_pos ht, ht] at HT
      rw [hc] at c4
      clear h hTS e0 hi ht c0 c1 c2 c3 c5
      go_enter Tryd.func139, Tryd.ntmps139
      go_wp2_with fail
      refine (unhide HT).mono ?_
      rintro e w1 ⟨rfl, hb, hk⟩
      have H1 := hide hb
      have HK := hide hk
      clear HT hb hk c4
      go_wp2
      go_end0
      exact ⟨rfl, unhide H1, unhide HK⟩
    | false =>
      rw [if_neg (by simp)]
      have ht : tkP ts s t.data.toList = false := by unfold tkP; rw [hi]; simp
      unfold takeS at HT
      rw [if_neg (by rw [ht]; simp), ht] at HT
      rw [hc] at c4
      have HF := hide (fun w' (h' : PAt w' g lp lc ts v s) => pfail hTS h' 3)
      clear h hTS e0 hi ht c0 c1 c2 c3 c5
      go_enter Tryd.func139, Tryd.ntmps139
      go_wp2_with fail
      refine (unhide HT).mono ?_
      rintro e w1 ⟨rfl, hb, hk⟩
      have HF1 := hide (unhide HF w1 hb)
      have HK := hide hk
      clear HT HF hb hk c4
      go_wp2_with fail
      refine (unhide HF1).mono ?_
      rintro e w2 ⟨rfl, hb, hk⟩
      have H2 := hide hb
      have HK2 := hide ((unhide HK).trans hk)
      clear HF1 HK hb hk
      go_wp2
      go_end0
      exact ⟨rfl, unhide H2, unhide HK2⟩
  · rw [if_neg hc]
    have e0 : (s.code == 0) = false := beq_eq_false_iff_ne.2 hc
    clear h hTS c0 c1 c2 c3 c5 hc HT
    go_enter Tryd.func139, Tryd.ntmps139
    go_wp2
    go_end0
    exact ⟨rfl, unhide H, PK.refl _ _ _⟩

set_option maxHeartbeats 2000000 in
set_option maxRecDepth 100000 in
theorem pname {g : Nat} {lp : Option Addr} {lc : PX} {ts : List V3} {v : Value} {s : PS} {w : World} (hTS : TS ts) (h : PAt w g lp lc ts v s) :
    Calls Tryd.prog 138 #[.pointer (some ⟨g, 0, none⟩)] w fun e w' => e = .returned (.string (nameP ts s).1) ∧ PAt w' g lp lc ts v (nameP ts s).2 ∧ PK g v v w w' := by
  have HN := hide (pnext hTS h)
  have hg := h.lt
  have H := hide h
  have hf := hTS.few
  have hat := h.hat
  by_cases hk : (nextP ts s).k = 1
  · have hlt := next_lt (ts := ts) (s := s) (by rw [hk]; decide)
    unfold nameP
    rw [if_pos hk]
    generalize nextP ts s = x at HN hk ⊢
    obtain ⟨xk, xn, xt⟩ := x
    simp only at hk
    subst hk
    unfold tokA at HN
    clear h hTS
    go_enter Tryd.func138, Tryd.ntmps138
    go_wp2_with fail
    refine (unhide HN).mono ?_
    rintro e w1 ⟨rfl, hb⟩
    have H1 := hide ((unhide H).later hb)
    have HB := hide hb
    have d1 := cell_later hb (unhide H).cells.2.1
    have hg1 : g < w1.heap.size := Nat.lt_of_lt_of_le hg hb.size
    have z1 := ((unhide H).later hb).free 1
    clear HN hb H
    go_wp2
    go_ret
    exact ⟨rfl, ((unhide H1).adv hlt).alloc _, ((PK.of_below (unhide HB)).set).alloc _⟩
  · unfold nameP
    rw [if_neg hk]
    have HF := hide (fun w' (h' : PAt w' g lp lc ts v s) => pfail hTS h' 3)
    generalize nextP ts s = x at HN hk
    obtain ⟨xk, xn, xt⟩ := x
    simp only at hk
    have e1 : (xk != 1) = true := by simp [hk]
    unfold tokA at HN
    clear h hTS hk
    go_enter Tryd.func138, Tryd.ntmps138
    go_wp2_with fail
    refine (unhide HN).mono ?_
    rintro e w1 ⟨rfl, hb⟩
    have HF1 := hide (unhide HF (w1.alloc (.cells #[.int .i64 xk, .int .i64 xn, .string xt] 169)) (((unhide H).later hb).alloc _))
    have HB := hide (nx_al (o := .cells #[.int .i64 xk, .int .i64 xn, .string xt] 169) hb)
    clear HN HF hb H
    go_wp2_with fail
    refine (unhide HF1).mono ?_
    rintro e w2 ⟨rfl, hb, hk⟩
    have H2 := hide hb
    have HK2 := hide ((PK.of_below (unhide HB)).trans hk)
    clear HF1 HB hb hk
    go_wp2
    go_ret
    exact ⟨rfl, unhide H2, unhide HK2⟩

set_option maxHeartbeats 2000000 in
set_option maxRecDepth 100000 in
theorem pdown {g : Nat} {lp : Option Addr} {lc : PX} {ts : List V3} {v : Value} {s : PS} {w : World} (hTS : TS ts) (h : PAt w g lp lc ts v s) (hd : s.dp ≤ 20) :
    Calls Tryd.prog 141 #[.pointer (some ⟨g, 0, none⟩)] w fun e w' => e = .returned (.bool ((downP ts s).code == 0)) ∧ PAt w' g lp lc ts v (downP ts s) ∧ PK g v v w w' := by
  obtain ⟨c0, c1, c2, c3, c4, c5⟩ := h.cells
  have hg := h.lt
  have z3 := h.free 3
  have H3 : Hid (PAt (w.setCell ⟨g, 3, none⟩ (.int .i64 ((s.dp : Int) + 1))) g lp lc ts v { s with dp := s.dp + 1 }) := hide (by have := h.setDp (s.dp + 1); simpa using this)
  have HK := hide ((PK.refl g v w).set (o := 3) (x := .int .i64 ((s.dp : Int) + 1)))
  have hw : IntKind.i64.wrap ((s.dp : Int) + 1) = (s.dp : Int) + 1 := by rw [IntKind.wrap_i64]; omega
  unfold downP
  by_cases h20 : 20 < s.dp + 1
  · rw [if_pos h20]
    have hi : (20 : Int) < (s.dp : Int) + 1 := by omega
    have HF := hide (pfail hTS (unhide H3) 9)
    clear h hTS c0 c1 c2 c5 h20 H3
    generalize failP ts 9 { s with dp := s.dp + 1 } = s2 at HF ⊢
    go_enter Tryd.func141, Tryd.ntmps141
    go_wp2_with fail
    refine (unhide HF).mono ?_
    rintro e w2 ⟨rfl, hb, hk⟩
    have H2 := hide hb
    have HK2 := hide ((unhide HK).trans hk)
    have d4 := hb.cells.2.2.2.2.1
    clear HF HK hb hk c3 c4
    go_wp2
    go_ret
    exact ⟨rfl, unhide H2, unhide HK2⟩
  · rw [if_neg h20]
    have hi : ¬ (20 : Int) < (s.dp : Int) + 1 := by omega
    clear h hTS c0 c1 c2 c5 h20
    go_enter Tryd.func141, Tryd.ntmps141
    go_wp2
    go_ret
    exact ⟨rfl, unhide H3, unhide HK⟩

end Go.Proofs.YtbipgmikgokfpaaDoor

/- PWalk2 -/
namespace Go.Proofs.YtbipgmikgokfpaaDoor
open Go.RowKit Go.Joins
set_option linter.unusedVariables false

set_option maxRecDepth 100000 in
theorem infoNode : (Tryd.prog.info? 36).map (fun i => (i.zero, i.size, i.bytes)) = some (some (.agg #[.int .i64 0, .int .i64 0, .string ⟨#[]⟩, .slice none 0 0, .slice none 0 0]), 5, 80) := by kernel_rfl
/-- numbers put behind numbers, out of a row of one's own -/
theorem wp_appBufI (w : World) {ops : Array Oper} {rest : List Oper} {o : Oper} {a : Act} {Q : Exit → Act → World → Prop} (hgd : o.guard = none) (s x : Operand)
    (ho : o.op = .call { callee := .builtin .append, args := #[s, x], argTypes := #[30, 30] }) (base base2 : Nat) (v v2 : Value) (zs ys : List Int) (hs : a.eval s = v)
    (hown : IntBuf w base v zs) (hx : a.eval x = v2) (hsrc : IntBuf w base2 v2 ys) (hbase : base ≤ w.heap.size) (hl : zs.length + ys.length ≤ 1000000000)
    (h : ∀ v' w', IntBuf w' base v' (zs ++ ys) → Below base w w' → wpList Tryd.prog ops Q rest (a.put o.dst v') w') : wpList Tryd.prog ops Q (o :: rest) a w := by
  have hs2 := hsrc
  rcases hsrc.2 with ⟨h1, h0⟩ | ⟨g, cap, cur, e, hg, hgg, r⟩
  · subst h1
    have hy : ys = [] := List.length_eq_zero_iff.1 h0
    subst hy
    obtain ⟨i0, hi, hz0, hz1, hz2⟩ := info_parts infoInt
    refine wpList_append_own_none hgd s x 30 ho base 3 i0 1 Tryd.underlying30 hi v _ _ hs hown hx ?_
    exact h v w (by rw [List.append_nil]; exact hown) (Below.refl _ _)
  · subst e
    exact wp_appII w hgd s x ho base g ys.length cap v zs ys hs hown hx rfl (fun i hi => hs2.get i hi) hbase hl h

theorem KidsK.one {w : World} {g : Nat} {E : Nat → Prop} {v u : Value} {zs : List Int} (h : KidsK w g E v u zs) : u.oneCell' = true := by
  obtain ⟨a, cap, rfl, _⟩ := h; rfl
theorem NamesK.one {w : World} {g : Nat} {E : Nat → Prop} {v u : Value} {zs : List ByteArray} (h : NamesK w g E v u zs) : u.oneCell' = true := by
  obtain ⟨a, cap, rfl, _⟩ := h; rfl
/-- a node put behind the row, in a region that draws its order -/
theorem step_appN (w : World) {ops : Array Oper} {o : Oper} {a : Act} {K : Act → World → Prop} {Q : Exit → Act → World → Prop} {E : Prop} (hgd : o.guard = none) (s x : Operand)
    (ho : o.op = .call { callee := .builtin .append, args := #[s, x], argTypes := #[23, 23] }) (g q : Nat) (lc : PX) (v : Value) (ns : List TN) (cs : List NC) (c : NC) (hs : a.eval s = v)
    (hrow : NRow w g lc v ns cs) (hx : a.eval x = .slice (some ⟨q, 0, none⟩) 1 1) (hc0 : w.cell? ⟨q, 0, none⟩ = some (.int .i64 c.x.k)) (hc1 : w.cell? ⟨q, 1, none⟩ = some (.int .i64 c.x.n)) (hc2 : w.cell? ⟨q, 2, none⟩ = some (.string c.x.t)) (hc3 : w.cell? ⟨q, 3, none⟩ = some c.un) (hc4 : w.cell? ⟨q, 4, none⟩ = some c.uk) (hg : g < w.heap.size) (hl : ns.length ≤ 1000) (hnk : NamesK w g lc.E v c.un c.x.names) (hkk : KidsK w g lc.E v c.uk c.x.kids) (hEx : ∀ j, lc.E j → j < w.heap.size) (hbg : lc.b ≤ g) (hnf : c.x.names.length ≤ 1000000)
    (h : ∀ v' w', NRow w' g lc v' (ns ++ [c.x]) (cs ++ [c]) → PK g v v' w w' → w'.heap[g]? = w.heap[g]? → K (a.put o.dst v') w') : if Region.wanted o (yielded ops a.tmps) = true then Oper.wp Tryd.prog o a w K Q else E := by
  have hw : Region.wanted o (yielded ops a.tmps) = true := by simp [Region.wanted, hgd]
  rw [if_pos hw]
  have hlen := hrow.len
  obtain ⟨i0, hi, hz0, hz1, hz2⟩ := info_parts infoNode
  have hnews : ∀ j u, (cells5 c)[j]? = some u → w.cell? ((⟨q, 0, none⟩ : Addr).add j) = some u := by
    intro j u' hj
    match j, hj with
    | 0, hj => simp [cells5] at hj; subst hj; simpa [Addr.add] using hc0
    | 1, hj => simp [cells5] at hj; subst hj; simpa [Addr.add] using hc1
    | 2, hj => simp [cells5] at hj; subst hj; simpa [Addr.add] using hc2
    | 3, hj => simp [cells5] at hj; subst hj; simpa [Addr.add] using hc3
    | 4, hj => simp [cells5] at hj; subst hj; simpa [Addr.add] using hc4
    | j + 5, hj => simp [cells5] at hj
  have h1 : ∀ u ∈ cells5 c, u.oneCell' = true := by
    intro u' hu'
    simp [cells5] at hu'
    rcases hu' with rfl | rfl | rfl | rfl | rfl
    · rfl
    · rfl
    · rfl
    · exact hnk.one
    · exact hkk.one
  obtain ⟨v', w', hr, h2, h3, h4⟩ := run_append_own (P := Tryd.prog) w lc.b 23 o.type 36 i0 _ 5 80 Tryd.underlying23 hi hz0 hz1 hz2 rfl (by decide) v cs.length (nodeCells cs) hrow.row ⟨q, 0, none⟩ 1 1 (cells5 c) rfl hnews h1 (by unfold maxLen; omega) (by omega) (by omega)
  have hwh := append_where (P := Tryd.prog) w lc.b 23 o.type 36 i0 _ 5 80 Tryd.underlying23 hi hz0 hz1 hz2 v cs.length (nodeCells cs) hrow.row ⟨q, 0, none⟩ 1 1 (by omega) (cells5 c) rfl hnews h1 (by unfold maxLen; omega) (by omega) v' w' hr
  have hb := (Below.refl _ _).grown h3 (show lc.b ≤ w.heap.size by omega) (fun j hj => (World.ownsRow.lt hrow.row j hj).1)
  have hk : PK g v v' w w' := ⟨hb.os, hb.tape, hb.output, hb.size, fun k hk _ hv => h3.block k hk (fun e => hv e.symm), fun j hj => by
    rcases hwh with e | e
    · exact .inl (e ▸ hj)
    · rw [e] at hj
      exact .inr (by have := Option.some.inj hj; omega)⟩
  have hkn : PK g v v' w w' := hk
  unfold Oper.wp execOp
  simp only [ho, resolve, invoke, builtin, Sem.run_bind, Sem.run_pure, Result.andThen_ok, List.map_toArray, List.map_cons, List.map_nil, hs, hx, hr]
  rw [← nodeCells_snoc, show cs.length + 1 = (cs ++ [c]).length by simp] at h2
  refine h v' w' ⟨by simp [hrow.map], h2, fun j hj => ?_, fun d hd => ?_, fun j hj he => ?_, fun d hd => ?_⟩ hk (h3.block g hg (fun e => hrow.ng g e.symm rfl))
  · rcases hk.own j hj with e | e
    · exact hrow.ng j e
    · omega
  rotate_left
  · rcases hk.own j hj with e | e
    · exact hrow.off j e he
    · have := hEx j he; omega
  · rcases List.mem_append.1 hd with hd | hd
    · exact hrow.few d hd
    · rw [List.mem_singleton.1 hd]; exact hnf
  rcases List.mem_append.1 hd with hd | hd
  · exact ⟨(hrow.each d hd).1.keep hk, (hrow.each d hd).2.keep hk⟩
  · rw [List.mem_singleton.1 hd]
    exact ⟨hnk.keep hk, hkk.keep hk⟩

/-- a node in a box -/
def BoxN (w : World) (q : Nat) (x : TN) (un uk : Value) : Prop := w.heap[q]? = some (.cells #[.int .i64 x.k, .int .i64 x.n, .string x.t, un, uk] 36 (0, 0))
theorem BoxN.cells {w : World} {q : Nat} {x : TN} {un uk : Value} (h : BoxN w q x un uk) : w.cell? ⟨q, 0, none⟩ = some (.int .i64 x.k) ∧ w.cell? ⟨q, 1, none⟩ = some (.int .i64 x.n) ∧ w.cell? ⟨q, 2, none⟩ = some (.string x.t) ∧ w.cell? ⟨q, 3, none⟩ = some un ∧ w.cell? ⟨q, 4, none⟩ = some uk := by
  refine ⟨?_, ?_, ?_, ?_, ?_⟩ <;> (rw [cell_of_block h]; rfl)
theorem BoxN.free {w : World} {q : Nat} {x : TN} {un uk : Value} (h : BoxN w q x un uk) (i : Nat) : w.frozen? ⟨q, i, none⟩ = false := unfrozen_of_block h i
theorem BoxN.lt {w : World} {q : Nat} {x : TN} {un uk : Value} (h : BoxN w q x un uk) : q < w.heap.size := (Array.getElem?_eq_some_iff.1 h).1
theorem BoxN.same {w w' : World} {q : Nat} {x : TN} {un uk : Value} (h : BoxN w q x un uk) (hb : w'.heap[q]? = w.heap[q]?) : BoxN w' q x un uk := hb.trans h
theorem BoxN.set3 {w : World} {q : Nat} {x : TN} {un uk : Value} (h : BoxN w q x un uk) (u : Value) : BoxN (w.setCell ⟨q, 3, none⟩ u) q x u uk := by
  have := block_setCell (i := 3) h u
  exact this
theorem BoxN.set4 {w : World} {q : Nat} {x : TN} {un uk : Value} (h : BoxN w q x un uk) (u : Value) : BoxN (w.setCell ⟨q, 4, none⟩ u) q x un u := by
  have := block_setCell (i := 4) h u
  exact this
/-- the row has grown, and is stored -/
theorem PAt.grow {w w' : World} {g : Nat} {lp : Option Addr} {lc : PX} {ts : List V3} {v v' : Value} {s : PS} {x : TN} {cs : List NC} (h : PAt w g lp lc ts v s) (hr : NRow w' g lc v' (s.ns ++ [x]) cs) (hk : PK g v v' w w') (hg : w'.heap[g]? = w.heap[g]?) : PAt (w'.setCell ⟨g, 2, none⟩ v') g lp lc ts v' { s with ns := s.ns ++ [x] } := by
  have hb := block_setCell (i := 2) (hg.trans h.blk) v'
  have hk2 : PK g v v' w (w'.setCell ⟨g, 2, none⟩ v') := hk.set
  refine ⟨hb, fun i hi => ?_, h.tb, h.bg, ⟨cs, hr.keep (PK.refl g v' w').set fun j hj => Below.heap_setCell w' ⟨g, 2, none⟩ v' j (by show j ≠ g; have := hr.own j hj; omega)⟩, fun j hj => ⟨(h.ex j hj).1, Nat.lt_of_lt_of_le (h.ex j hj).2 hk2.size⟩, h.hat⟩
  obtain ⟨b, off, rfl, h0, h1, h2⟩ := h.toks i hi
  have hbb := h.tb _ rfl
  have hbg : b < g := Nat.lt_of_lt_of_le hbb h.bg
  have hv : v.ownBlock ≠ some b := fun e => by have := (h.own b e).1.1; exact absurd hbb (Nat.not_lt.2 this)
  exact ⟨b, off, rfl, hk2.cell h0 (by omega) hv, hk2.cell h1 (by omega) hv, hk2.cell h2 (by omega) hv⟩
theorem cellG {w w' : World} {g : Nat} (h : w'.heap[g]? = w.heap[g]?) (o : Nat) : w'.cell? ⟨g, o, none⟩ = w.cell? ⟨g, o, none⟩ := World.cell?_of_block (w := w) (a := ⟨g, o, none⟩) h
theorem frozenG {w w' : World} {g : Nat} (h : w'.heap[g]? = w.heap[g]?) (o : Nat) : w'.frozen? ⟨g, o, none⟩ = w.frozen? ⟨g, o, none⟩ := World.frozen?_of_block (w := w) (a := ⟨g, o, none⟩) h
/-- what a call of the parser that may put nodes leaves -/
def PP (g : Nat) (lp : Option Addr) (lc : PX) (ts : List V3) (v : Value) (w : World) (s' : PS) (w' : World) : Prop := ∃ v', PAt w' g lp lc ts v' s' ∧ PK g v v' w w'

set_option maxHeartbeats 4000000 in
set_option maxRecDepth 100000 in
theorem pput {g : Nat} {lp : Option Addr} {lc : PX} {ts : List V3} {v : Value} {s : PS} {w : World} (hTS : TS ts) (h : PAt w g lp lc ts v s) (hf : Few s) (x : TN) (un uk : Value) (b1 b2 : Nat) (hn : StrBuf w b1 un x.names) (hk : IntBuf w b2 uk x.kids) (hl1 : x.names.length ≤ 1000000) (hl2 : x.kids.length ≤ 1000000) :
    Calls Tryd.prog 109 #[.pointer (some ⟨g, 0, none⟩), .agg #[.int .i64 x.k, .int .i64 x.n, .string x.t, un, uk]] w fun e w' => e = .returned (.int .i64 (putP ts x s).1) ∧ PP g lp lc ts v w (putP ts x s).2 w' := by
  have hg := h.lt
  have hf' : s.ns.length ≤ 200 := hf
  obtain ⟨va, vc, hv⟩ := h.slice
  obtain ⟨na, nc, hna⟩ := hn.slice
  obtain ⟨ka, kc, hka⟩ := hk.slice
  subst hna
  subst hka
  have H0 := hide (h.alloc (.cells #[.int .i64 x.k, .int .i64 x.n, .string x.t, .slice na x.names.length nc, .slice ka x.kids.length kc] 36))
  have HB0 := hide (nx_alloc w (.cells #[.int .i64 x.k, .int .i64 x.n, .string x.t, .slice na x.names.length nc, .slice ka x.kids.length kc] 36))
  have HX0 : Hid (BoxN (w.alloc (.cells #[.int .i64 x.k, .int .i64 x.n, .string x.t, .slice na x.names.length nc, .slice ka x.kids.length kc] 36)) w.heap.size x (.slice na x.names.length nc) (.slice ka x.kids.length kc)) := hide (heap_alloc_new w _)
  have hs0 : (w.alloc (.cells #[.int .i64 x.k, .int .i64 x.n, .string x.t, .slice na x.names.length nc, .slice ka x.kids.length kc] 36)).heap.size = w.heap.size + 1 := by simp
  unfold putP
  by_cases h2 : s.ns.length = 200
  · rw [if_pos h2]
    have HF := hide (pfail hTS (unhide H0) 6)
    have c2 := (unhide H0).cells.2.2.1
    rw [hv] at c2
    have e2 : ((s.ns.length : Int) == 200) = true := by rw [h2]; rfl
    clear h hTS hf hn hk hf' hv H0 HX0 h2
    go_enter Tryd.func109, Tryd.ntmps109
    go_wp2_with fail
    refine (unhide HF).mono ?_
    rintro e w2 ⟨rfl, hp, hk2⟩
    have H2 := hide hp
    have HK2 := hide ((PK.of_below (unhide HB0)).trans hk2)
    clear HF HB0 hp hk2
    go_wp2
    go_ret
    exact ⟨rfl, v, unhide H2, unhide HK2⟩
  · rw [if_neg h2]
    have e2 : ((s.ns.length : Int) == 200) = false := beq_eq_false_iff_ne.2 (by omega)
    have c2 := (unhide H0).cells.2.2.1
    have d3 := (unhide HX0).cells.2.2.2.1
    have HP := hide h
    have HN0 := hide hn
    have HKI0 := hide hk
    have HV := hide hv
    rw [hv] at c2
    clear h hTS hf hn hk h2 hv
    have HL1 : Hid (StrBuf ((w.alloc (.cells #[.int .i64 x.k, .int .i64 x.n, .string x.t, .slice na x.names.length nc, .slice ka x.kids.length kc] 36)).alloc (.cells #[] 9)) (w.heap.size + 1) (.slice (some ⟨w.heap.size + 1, 0, none⟩) 0 0) []) := hide (by simpa using StrBuf.lit (w.alloc (.cells #[.int .i64 x.k, .int .i64 x.n, .string x.t, .slice na x.names.length nc, .slice ka x.kids.length kc] 36)) (w.heap.size + 1) [] (by simp) (by decide))
    have HN1 := hide ((unhide HN0).later (nx_al (o := .cells #[] 9) (unhide HB0)))
    have HB2 := hide (nx_al (o := .cells #[] 9) (unhide HB0))
    have HX2 : Hid (BoxN ((w.alloc (.cells #[.int .i64 x.k, .int .i64 x.n, .string x.t, .slice na x.names.length nc, .slice ka x.kids.length kc] 36)).alloc (.cells #[] 9)) w.heap.size x (.slice na x.names.length nc) (.slice ka x.kids.length kc)) := hide ((unhide HX0).same ((nx_alloc _ _).block _ (by simp)))
    go_enter Tryd.func109, Tryd.ntmps109
    go_wp2_with (at_builtin; refine wp_appBuf _ rfl _ _ rfl (w.heap.size + 1) b1 _ (.slice na x.names.length nc) [] x.names rfl (unhide HL1) rfl (unhide HN1) (by simp) (by simp; omega) ?c0)
    case c0 =>
      intro v3 w3 hS3 hb3
      obtain ⟨a3, k3, hv3⟩ := hS3.slice
      subst hv3
      have HB3 : Hid (Below w.heap.size w w3) := hide ((unhide HB2).trans ⟨hb3.os, hb3.tape, hb3.output, hb3.size, fun k hk => hb3.block k (by omega)⟩)
      have hX3 : BoxN w3 w.heap.size x (.slice na x.names.length nc) (.slice ka x.kids.length kc) := (unhide HX2).same (hb3.block _ (by omega))
      have hz3 := hb3.size
      simp at hz3
      have hq3 : w.heap.size < w3.heap.size := by omega
      have hg3 : g < w3.heap.size := by omega
      obtain ⟨y0, y1, y2, y3, y4⟩ := hX3.cells
      have z3 := hX3.free 3
      have HX4 := hide (hX3.set3 (.slice a3 x.names.length k3))
      have HB4 : Hid (Below w.heap.size w (w3.setCell ⟨w.heap.size, 3, none⟩ (.slice a3 x.names.length k3))) := hide (nx_set (unhide HB3) (Nat.le_refl _))
      have HL2 : Hid (IntBuf ((w3.setCell ⟨w.heap.size, 3, none⟩ (.slice a3 x.names.length k3)).alloc (.cells #[] 3)) w3.heap.size (.slice (some ⟨w3.heap.size, 0, none⟩) 0 0) []) := hide (by simpa using IntBuf.lit (w3.setCell ⟨w.heap.size, 3, none⟩ (.slice a3 x.names.length k3)) w3.heap.size [] (by simp) (by decide))
      have HB5 := hide (nx_al (o := .cells #[] 3) (unhide HB4))
      have HK5 := hide ((unhide HKI0).later (unhide HB5))
      have HX5 : Hid (BoxN ((w3.setCell ⟨w.heap.size, 3, none⟩ (.slice a3 x.names.length k3)).alloc (.cells #[] 3)) w.heap.size x (.slice a3 x.names.length k3) (.slice ka x.kids.length kc)) := hide ((unhide HX4).same ((nx_alloc _ _).block _ (by simp; omega)))
      have HS3 := hide hS3
      clear hX3 hS3 hb3 hz3 HL1 HN1 HB2 HX2 HX0 c2 d3 hs0 HB3 HX4 HB4
      go_wp2_with (at_builtin; refine wp_appBufI _ rfl _ _ rfl w3.heap.size b2 _ (.slice ka x.kids.length kc) [] x.kids rfl (unhide HL2) rfl (unhide HK5) (by simp) (by simp; omega) ?c1)
      case c1 =>
        intro v6 w6 hI6 hb6
        obtain ⟨a6, k6, hv6⟩ := hI6.slice
        subst hv6
        have hX6 : BoxN w6 w.heap.size x (.slice a3 x.names.length k3) (.slice ka x.kids.length kc) := (unhide HX5).same (hb6.block _ (by omega))
        have HB6 : Hid (Below w.heap.size w w6) := hide ((unhide HB5).trans ⟨hb6.os, hb6.tape, hb6.output, hb6.size, fun k hk => hb6.block k (by omega)⟩)
        have hz6 := hb6.size
        simp at hz6
        have hq6 : w.heap.size < w6.heap.size := by omega
        have hS6 : StrBuf w6 (w.heap.size + 1) (.slice a3 x.names.length k3) x.names := ownsRow_same (unhide HS3) fun j hj => by
          have hj' := (unhide HS3).own_lt j hj
          rw [hb6.block j (by omega), Below.heap_alloc _ _ _ (by simp; omega), Below.heap_setCell _ _ _ _ (by show j ≠ w.heap.size; omega)]
        obtain ⟨u0, u1, u2, u3, u4⟩ := hX6.cells
        have z4 := hX6.free 4
        have HX7 := hide (hX6.set4 (.slice a6 x.kids.length k6))
        have HB7 : Hid (Below w.heap.size w (w6.setCell ⟨w.heap.size, 4, none⟩ (.slice a6 x.kids.length k6))) := hide (nx_set (unhide HB6) (Nat.le_refl _))
        have hP7 : PAt (w6.setCell ⟨w.heap.size, 4, none⟩ (.slice a6 x.kids.length k6)) g lp lc ts v s := (unhide HP).later (unhide HB7)
        have hS7 : StrBuf (w6.setCell ⟨w.heap.size, 4, none⟩ (.slice a6 x.kids.length k6)) (w.heap.size + 1) (.slice a3 x.names.length k3) x.names := ownsRow_same hS6 fun j hj => by
          have hj' := hS6.own_lt j hj
          rw [Below.heap_setCell _ _ _ _ (by show j ≠ w.heap.size; omega)]
        have hI7 : IntBuf (w6.setCell ⟨w.heap.size, 4, none⟩ (.slice a6 x.kids.length k6)) w3.heap.size (.slice a6 x.kids.length k6) x.kids := ownsRow_same hI6 fun j hj => by
          have hj' := hI6.own_lt j hj
          rw [Below.heap_setCell _ _ _ _ (by show j ≠ w.heap.size; omega)]
        have hown := (unhide HP).own
        have hexx := (unhide HP).ex
        have HNK := hide (hS7.namesK (g := g) (E := lc.E) (v := v) (by omega) (fun j hj e => by have h1 := hS7.own_lt j hj; have h2 := hown j e; omega) (fun j hj e => by have h1 := hS7.own_lt j hj; have h2 := hexx j e; omega))
        have HKK := hide (hI7.kidsK (g := g) (E := lc.E) (v := v) (by omega) (fun j hj e => by have h1 := hI7.own_lt j hj; have h2 := hown j e; omega) (fun j hj e => by have h1 := hI7.own_lt j hj; have h2 := hexx j e; omega))
        have hg7 : g < w6.heap.size := by omega
        clear hX6 hS6 hI6 hb6 hz6 HL2 HB5 HK5 HX5 HS3 HB6 hS7 hI7 hown hexx y0 y1 y2 y3 y4 z3 HKI0 HN0 H0 HB0
        go_wp2
        generalize hw7 : w6.setCell ⟨w.heap.size, 4, none⟩ (.slice a6 x.kids.length k6) = w7 at HX7 HB7 hP7 HNK HKK ⊢
        have hs7 : w7.heap.size = w6.heap.size := by rw [← hw7]; simp
        have hg8 : g < w7.heap.size := by omega
        have hq8 : w.heap.size < w7.heap.size := by omega
        obtain ⟨cs, hr⟩ := hP7.row
        obtain ⟨q0, q1, q2, q3, q4⟩ := (unhide HX7).cells
        have c2 := hP7.cells.2.2.1
        have hz2 := hP7.free 2
        rw [unhide HV] at c2
        have hb8 := nx_drew (nx_al (o := (.cells #[.int .i64 x.k, .int .i64 x.n, .string x.t, .slice a3 x.names.length k3, .slice a6 x.kids.length k6] 36)) (Below.refl w7.heap.size w7))
        have RL := hide (hr.later hb8)
        have RN := hide ((unhide HNK).keep (PK.of_below hb8))
        have RK := hide ((unhide HKK).keep (PK.of_below hb8))
        have HP8 := hide (hP7.later hb8)
        have HB8 := hide (hb8)
        have hX9 : BoxN (w7.alloc (.cells #[.int .i64 x.k, .int .i64 x.n, .string x.t, .slice a3 x.names.length k3, .slice a6 x.kids.length k6] 36)).drew w7.heap.size x (.slice a3 x.names.length k3) (.slice a6 x.kids.length k6) := heap_alloc_new w7 _
        obtain ⟨n0, n1, n2, n3, n4⟩ := hX9.cells
        have hg9 : g < (w7.alloc (.cells #[.int .i64 x.k, .int .i64 x.n, .string x.t, .slice a3 x.names.length k3, .slice a6 x.kids.length k6] 36)).drew.heap.size := Nat.lt_of_lt_of_le hg8 hb8.size
        clear hs7 hX9 hw7 hP7 HNK HKK HX7 hr hb8 u0 u1 u2 u3 u4 z4
        go_region_law (refine step_appN _ (by rfl) _ _ (by rfl) g w7.heap.size lc v s.ns cs ⟨x, (.slice a3 x.names.length k3), (.slice a6 x.kids.length k6)⟩ (by rw [unhide HV]; rfl) (unhide RL) (by rfl) n0 n1 n2 n3 n4 hg9 (by omega) (unhide RN) (unhide RK) (fun j hj => ((unhide HP8).ex j hj).2) (unhide HP8).bg hl1 ?_; intro v9 w9 hR9 hk9 hb9; obtain ⟨a9, k9, hv9⟩ := hR9.slice; subst hv9; have y2 := (cellG hb9 2).trans (unhide HP8).cells.2.2.1; have zz2 := (frozenG hb9 2).trans ((unhide HP8).free 2))
        all_goals
          have HF := hide ((unhide HP8).grow hR9 hk9 hb9)
          have HG := hide ((((PK.of_below (g := g) (v := v) (unhide HB7)).then_below (unhide HB8)).trans hk9).set (o := 2) (x := .slice a9 (s.ns ++ [x]).length k9))
          clear hR9 hk9 hb9
          rw [List.length_append, List.length_singleton] at HF HG
        all_goals go_wp2
        all_goals
          go_ret
          exact ⟨rfl, _, unhide HF, unhide HG⟩

end Go.Proofs.YtbipgmikgokfpaaDoor

/- PWalk3 -/
namespace Go.Proofs.YtbipgmikgokfpaaDoor
open Go.RowKit Go.Joins
set_option linter.unusedVariables false

def lev : PF → Nat
  | .first => 1 | .sign => 2 | .prodL _ => 3 | .prod => 4 | .sumL _ => 5 | .sum => 6 | .orderL _ => 7 | .order => 8 | .andL _ => 9 | .and => 10 | .exprL _ => 11 | .expr => 12
  | .args _ => 13 | .block => 13 | .blockL _ => 16 | .inner => 14 | .stmt => 15 | .func => 14 | .funcL _ => 1 | .topL _ => 17
def lev0 : PF → Nat
  | .first => 1 | .sign => 2 | .prodL _ => 1 | .prod => 3 | .sumL _ => 1 | .sum => 4 | .orderL _ => 1 | .order => 5 | .andL _ => 1 | .and => 6 | .exprL _ => 1 | .expr => 1
  | .args _ => 1 | .block => 2 | .blockL _ => 1 | .inner => 3 | .stmt => 1 | .func => 3 | .funcL _ => 1 | .topL _ => 1
/-- how many steps are enough -/
def needN (ts : List V3) (f : PF) (s : PS) : Nat := if s.code = 0 then lev f + 30 * (ts.length + 1 - s.at') else lev0 f
theorem lev_bd (f : PF) : 1 ≤ lev f ∧ lev f ≤ 17 ∧ 1 ≤ lev0 f ∧ lev0 f ≤ 6 := by cases f <;> simp [lev, lev0]
theorem need_pos {ts : List V3} {f : PF} {s : PS} {n : Nat} (h : needN ts f s ≤ n) : ∃ k, n = k + 1 := by
  have := lev_bd f
  unfold needN at h
  split at h
  · exact ⟨n - 1, by omega⟩
  · exact ⟨n - 1, by omega⟩
theorem need_lt {ts : List V3} {f f' : PF} {s s' : PS} (hat : s.at' ≤ ts.length) (hle : PLe s s') (h0 : s.code = 0 → s'.code = 0 → lev f' < lev f ∨ s.at' < s'.at') (h1 : ¬ s.code = 0 → lev0 f' < lev0 f) : needN ts f' s' < needN ts f s := by
  have a1 := lev_bd f
  have a2 := lev_bd f'
  have a3 := hle.at'
  unfold needN
  by_cases c : s.code = 0
  · rw [if_pos c]
    by_cases c' : s'.code = 0
    · rw [if_pos c']
      rcases h0 c c' with h | h
      · omega
      · omega
    · rw [if_neg c']; omega
  · rw [if_neg c, if_neg (fun e => c (hle.code e))]
    exact h1 c
theorem need_run {ts : List V3} {f f' : PF} {s s' : PS} {n : Nat} (hn : needN ts f s ≤ n + 1) (hat : s.at' ≤ ts.length) (hle : PLe s s') (h0 : s.code = 0 → s'.code = 0 → lev f' < lev f ∨ s.at' < s'.at') (h1 : ¬ s.code = 0 → lev0 f' < lev0 f) : needN ts f' s' ≤ n := by
  have := need_lt (f := f) (f' := f') hat hle h0 h1
  omega
/-- a token was taken, without a fault ahead -/
theorem need_on {ts : List V3} {f f' : PF} {s s' : PS} {n : Nat} (hn : needN ts f s ≤ n + 1) (hat : s.at' ≤ ts.length) (hle : PLe s s') (hlt : PLt s s') (hc : s.code = 0) : needN ts f' s' ≤ n := need_run hn hat hle (fun _ c => .inr (hlt c)) (fun c => absurd hc c)
theorem tk_code {ts : List V3} {s : PS} {t : List UInt8} (h : tkP ts s t = true) : s.code = 0 ∧ isP ts s t = true := by
  unfold tkP at h
  simp at h
  exact h
/-- a call of the parser answers as it should -/
def PQ (ts : List V3) (n : Nat) (f : PF) (no : Nat) : Prop := ∀ (g : Nat) (lp : Option Addr) (lc : PX) (v : Value) (s : PS) (w : World), PAt w g lp lc ts v s → Few s → s.dp ≤ 20 → needN ts f s ≤ n → Calls Tryd.prog no #[.pointer (some ⟨g, 0, none⟩)] w fun e w' => e = .returned (.int .i64 (run ts n f s).r) ∧ PP g lp lc ts v w (run ts n f s).s w'

/-- a call of the parser answers this -/
def PZ (no g : Nat) (lp : Option Addr) (lc : PX) (ts : List V3) (v : Value) (w : World) (o : PO) : Prop := Calls Tryd.prog no #[.pointer (some ⟨g, 0, none⟩)] w fun e w' => e = .returned (.int .i64 o.r) ∧ PP g lp lc ts v w o.s w'
theorem nt {b : Bool} (h : b = false) : ¬ b = true := by rw [h]; simp
theorem PAt.up {w : World} {g : Nat} {lp : Option Addr} {lc : PX} {ts : List V3} {v : Value} {s : PS} (h : PAt w g lp lc ts v s) : PAt (w.setCell ⟨g, 3, none⟩ (.int .i64 ((s.dp - 1 : Nat) : Int))) g lp lc ts v (upP s) := by
  rw [up_eq]
  exact h.setDp (s.dp - 1)
theorem PAt.adv2 {w : World} {g : Nat} {lp : Option Addr} {lc : PX} {ts : List V3} {v : Value} {s : PS} (h : PAt w g lp lc ts v s) (hn : s.at' + 1 < ts.length) : PAt (w.setCell ⟨g, 1, none⟩ (.int .i64 ((s.at' : Int) + 2))) g lp lc ts v (advP (advP s)) := by
  have := h.setAt (s.at' + 1 + 1) hn
  rw [adv_eq, adv_eq]
  rw [show ((s.at' + 1 + 1 : Nat) : Int) = (s.at' : Int) + 2 by omega] at this
  exact this
theorem PAt.up1 {w : World} {g d : Nat} {lp : Option Addr} {lc : PX} {ts : List V3} {v : Value} {s : PS} (h : PAt w g lp lc ts v s) (e : s.dp = d + 1) : PAt (w.setCell ⟨g, 3, none⟩ (.int .i64 (d : Int))) g lp lc ts v (upP s) := by
  have := h.up
  rw [e, Nat.add_sub_cancel] at this
  exact this
theorem down_ok {ts : List V3} {s : PS} (h : (downP ts s).code = 0) : s.dp + 1 ≤ 20 := by
  unfold downP at h
  by_cases h2 : 20 < s.dp + 1
  · rw [if_pos h2] at h
    exact absurd h (fail_code (by decide))
  · omega
theorem lit_ne {t : ByteArray} {l : List UInt8} (h : ¬ t = ⟨l.toArray⟩) : (t.toList == l) = false := beq_eq_false_iff_ne.2 fun e => h (by
  rw [ByteArray.toList_eq] at e
  cases t; simp at e; rw [← e])

theorem pput0 {g : Nat} {lp : Option Addr} {lc : PX} {ts : List V3} {v : Value} {s : PS} {w : World} (hTS : TS ts) (h : PAt w g lp lc ts v s) (hf : Few s) (k n : Int) (t : ByteArray) :
    Calls Tryd.prog 109 #[.pointer (some ⟨g, 0, none⟩), .agg #[.int .i64 k, .int .i64 n, .string t, .slice none 0 0, .slice none 0 0]] w fun e w' => e = .returned (.int .i64 (putP ts ⟨k, n, t, [], []⟩ s).1) ∧ PP g lp lc ts v w (putP ts ⟨k, n, t, [], []⟩ s).2 w' :=
  pput hTS h hf ⟨k, n, t, [], []⟩ (.slice none 0 0) (.slice none 0 0) 0 0 (StrBuf.nil _ _) (IntBuf.nil _ _) (by simp) (by simp)
theorem PP.from {g : Nat} {lp : Option Addr} {lc : PX} {ts : List V3} {v : Value} {w w1 w' : World} {s' : PS} (h : PP g lp lc ts v w1 s' w') (hb : Below w.heap.size w w1) : PP g lp lc ts v w s' w' := by
  obtain ⟨v', h1, h2⟩ := h
  exact ⟨v', h1, (PK.of_below hb).trans h2⟩
theorem pputL {g : Nat} {lp : Option Addr} {lc : PX} {ts : List V3} {v : Value} {s : PS} {w : World} (hTS : TS ts) (h : PAt w g lp lc ts v s) (hf : Few s) (k : Int) (t : ByteArray) (zs : List Int) (hl : zs.length ≤ 1000) :
    Calls Tryd.prog 109 #[.pointer (some ⟨g, 0, none⟩), .agg #[.int .i64 k, .int .i64 0, .string t, .slice none 0 0, .slice (some ⟨w.heap.size, 0, none⟩) zs.length zs.length]] (w.alloc (.cells (zs.map (Value.int .i64)).toArray 3)) fun e w' => e = .returned (.int .i64 (putP ts ⟨k, 0, t, [], zs⟩ s).1) ∧ PP g lp lc ts v w (putP ts ⟨k, 0, t, [], zs⟩ s).2 w' :=
  (pput hTS (h.alloc _) hf ⟨k, 0, t, [], zs⟩ (.slice none 0 0) (.slice (some ⟨w.heap.size, 0, none⟩) zs.length zs.length) 0 w.heap.size (StrBuf.nil _ _) (IntBuf.lit w w.heap.size zs (Nat.le_refl _) (by unfold maxLen; omega)) (by simp) (by simp; omega)).mono fun e w' ⟨h1, h2⟩ => ⟨h1, h2.from (nx_alloc _ _)⟩
theorem pput1 {g : Nat} {lp : Option Addr} {lc : PX} {ts : List V3} {v : Value} {s : PS} {w : World} (hTS : TS ts) (h : PAt w g lp lc ts v s) (hf : Few s) (k : Int) (t : ByteArray) (a : Int) :
    Calls Tryd.prog 109 #[.pointer (some ⟨g, 0, none⟩), .agg #[.int .i64 k, .int .i64 0, .string t, .slice none 0 0, .slice (some ⟨w.heap.size, 0, none⟩) 1 1]] (w.alloc (.cells #[.int .i64 a] 3)) fun e w' => e = .returned (.int .i64 (putP ts ⟨k, 0, t, [], [a]⟩ s).1) ∧ PP g lp lc ts v w (putP ts ⟨k, 0, t, [], [a]⟩ s).2 w' := pputL hTS h hf k t [a] (by simp)
theorem pput2 {g : Nat} {lp : Option Addr} {lc : PX} {ts : List V3} {v : Value} {s : PS} {w : World} (hTS : TS ts) (h : PAt w g lp lc ts v s) (hf : Few s) (k : Int) (t : ByteArray) (a b : Int) :
    Calls Tryd.prog 109 #[.pointer (some ⟨g, 0, none⟩), .agg #[.int .i64 k, .int .i64 0, .string t, .slice none 0 0, .slice (some ⟨w.heap.size, 0, none⟩) 2 2]] (w.alloc (.cells #[.int .i64 a, .int .i64 b] 3)) fun e w' => e = .returned (.int .i64 (putP ts ⟨k, 0, t, [], [a, b]⟩ s).1) ∧ PP g lp lc ts v w (putP ts ⟨k, 0, t, [], [a, b]⟩ s).2 w' := pputL hTS h hf k t [a, b] (by simp)
theorem pput3 {g : Nat} {lp : Option Addr} {lc : PX} {ts : List V3} {v : Value} {s : PS} {w : World} (hTS : TS ts) (h : PAt w g lp lc ts v s) (hf : Few s) (k : Int) (t : ByteArray) (a b c : Int) :
    Calls Tryd.prog 109 #[.pointer (some ⟨g, 0, none⟩), .agg #[.int .i64 k, .int .i64 0, .string t, .slice none 0 0, .slice (some ⟨w.heap.size, 0, none⟩) 3 3]] (w.alloc (.cells #[.int .i64 a, .int .i64 b, .int .i64 c] 3)) fun e w' => e = .returned (.int .i64 (putP ts ⟨k, 0, t, [], [a, b, c]⟩ s).1) ∧ PP g lp lc ts v w (putP ts ⟨k, 0, t, [], [a, b, c]⟩ s).2 w' := pputL hTS h hf k t [a, b, c] (by simp)
theorem Few.run {ts : List V3} {n : Nat} {f : PF} {s : PS} (h : Few s) : Few (YtbipgmikgokfpaaDoor.run ts n f s).s := run_few ts n f s h

end Go.Proofs.YtbipgmikgokfpaaDoor
