/- A bundle. -/
import Derived.Test.YthfoabcmgiiadaaGreatDoorG09
import Derived.Test.YthfoabcmgiiadaaGreatDoorG10
import Derived.Laws.BytesArg

/- ConnsW -/
namespace Go.Proofs.YthfoabcmgiiadaaGreatDoor
open Go.RowKit Go.Joins
set_option linter.unusedVariables false

/-- a connection in a law's variable -/
structure CV (w : World) (b : Nat) (c : CN) (v : Value) : Prop where
  cn : CnB w b c v
  row : RowSl w v c.s
theorem CV.later {w u : World} {b : Nat} {c : CN} {v : Value} (h : CV w b c v) (hb : Below w.heap.size w u) : CV u b c v := ⟨h.cn.later hb, h.row.later hb⟩
theorem CV.put {u : World} {b : Nat} {c : CN} {v : Value} (h : CnB u b c v) (d : CN) (x : Value) (hr : RowSl u x d.s) : CV (fiveC u b d x) b d x :=
  ⟨h.five d x, hr.off h.noSl fun k _ hk => fiveC_other u b d x k hk⟩
theorem CV.new (w : World) (c : CN) (v : Value) (n : Nat) (hn : w.heap.size = n) (hr : RowSl w v c.s) : CV (w.alloc (.cells #[.bool c.o, .bool c.e, .string c.i, v, .int .i64 c.n] 25)) n c v := ⟨CnB.new w c v n hn, hr.later (qx_alloc _ _)⟩

set_option maxHeartbeats 4000000 in
set_option maxRecDepth 100000 in
theorem connOf_any (a : Option Addr) (len cap : Nat) (w : World) (hlen : len ≤ 1048576) (hrow : ByteRow w a len) :
    Calls Tryz.prog 16 #[.slice a len cap] w fun e w' => ∃ (c : CN) (v : Value), e = .returned (cnV c v) ∧ RowC w' v c.s ∧ connB c = true ∧ Below w.heap.size w w' := by
  have HR := hide hrow
  clear hrow
  go_enter Tryz.func16, Tryz.ntmps16
  go_wp2_with fail
  refine (sourceC_any a len cap _ (by omega) ((unhide HR).later (qx_alloc _ _))).mono ?_
  rintro e w1 ⟨rfl, hb1, hd1⟩
  have HZ := hide (show ZeroC w1 w.heap.size by
    refine ZeroC.later ?_ hb1
    show (w.heap.push _)[w.heap.size]? = _
    rw [Array.getElem?_push, if_pos rfl])
  have HB1 := hide (qx_trans (qx_alloc _ _) hb1)
  have HD := hide hd1
  simp only [World.size_alloc] at HD
  clear hb1 hd1
  go_wp2_with fail
  refine (connC_any (w.heap.size + 1) a len cap _ (unhide HD) (by omega)).mono ?_
  rintro e w2 ⟨c, v, rfl, hrow, hr, hb2⟩
  have HZ2 := hide ((unhide HZ).below hb2 (Nat.lt_succ_self _))
  have HB2 := hide ((unhide HB1).trans (hb2.mono (Nat.le_succ _)))
  have HR2 := hide hrow
  obtain ⟨p, cp, hv, _⟩ := hrow.1.slice
  subst hv
  generalize hL : c.s.length = L at *
  clear hrow hb2 hL
  obtain ⟨a0, a1, a2, a3, a4⟩ := (unhide HZ2).cells
  obtain ⟨f0, f1, f2, f3, f4⟩ := (unhide HZ2).free
  dsimp only [cnV]
  go_wp2
  refine bodyPost_ret (v := cnV c (.slice p L cp)) ?_ rfl ⟨c, _, rfl, (unhide HR2).five (b := w.heap.size) (c := CN.zero) (u := .slice none 0 0) (d := c) (x := .slice p L cp) (unhide HZ2), hr, fiveC.below (c := c) (v := .slice p L cp) (unhide HB2) (Nat.le_refl _)⟩
  have hld := (unhide HZ2).load c (.slice p L cp)
  simp only [fiveC] at hld
  simp [results, Tryz.results16, asAddr, hld]

/-- an append of a number of one's own; all blocks but the row's are as they were -/
theorem wp_appIX (w : World) {ops : Array Oper} {rest : List Oper} {o : Oper} {a : Act} {Q : Exit → Act → World → Prop} (hgd : o.guard = none) (s x : Operand)
    (ho : o.op = .call { callee := .builtin .append, args := #[s, x], argTypes := #[27, 27] }) (base g : Nat) (v : Value) (zs : List Int) (c : Int) (hs : a.eval s = v)
    (hown : IntK w base v zs) (hx : a.eval x = .slice (some ⟨g, 0, none⟩) 1 1) (hc0 : w.cell? ⟨g, 0, none⟩ = some (.int .i64 c)) (hbase : base ≤ w.heap.size) (hl : zs.length ≤ 1000000000)
    (h : ∀ v' w', IntK w' base v' (zs ++ [c]) → Below base w w' → (∀ k, k < w.heap.size → v.ownBlock ≠ some k → w'.heap[k]? = w.heap[k]?) → wpList Tryz.prog ops Q rest (a.put o.dst v') w') : wpList Tryz.prog ops Q (o :: rest) a w := by
  obtain ⟨i0, hi, hz0, hz1, hz2⟩ := info_parts infoIK
  refine wpList_append_own _ hgd s x 27 ho base 3 i0 (.int .i64 0) 1 8 Tryz.underlying27 hi hz0 hz1 hz2 rfl (by decide) _ _ _ hs hown ⟨g, 0, none⟩ 1 1 [.int .i64 c] hx rfl ?_ ?_ (by unfold maxLen; omega) (by omega) hbase ?_
  · intro j u' hj
    match j, hj with
    | 0, hj => simp at hj; subst hj; simpa [Addr.add] using hc0
    | j + 1, hj => simp at hj
  · intro u' hu'
    simp at hu'
    subst hu'
    rfl
  · intro v' w' hown' hgrow _
    rw [show zs.map (Value.int .i64) ++ [.int .i64 c] = (zs ++ [c]).map (Value.int .i64) by simp, show zs.length + 1 = (zs ++ [c]).length by simp] at hown'
    exact h v' w' hown' ((Below.refl _ _).grown hgrow hbase (fun j hj => (World.ownsRow.lt hown j hj).1)) (fun k hk hv => hgrow.block k hk (fun e => hv e.symm))
theorem RowSl.rest {w w' : World} {v u : Value} {s : List SL} (h : RowSl w v s) (hne : ∀ j, v.ownBlock = some j → u.ownBlock ≠ some j) (hk : ∀ k, k < w.heap.size → u.ownBlock ≠ some k → w'.heap[k]? = w.heap[k]?) : RowSl w' v s := by
  rcases h with h | ⟨g, off, cap, rfl, hat⟩
  · exact .inl h
  · refine .inr ⟨g, off, cap, rfl, fun i hi => ?_⟩
    obtain ⟨q0, q1, q2⟩ := hat i hi
    have e := hk g (World.block_lt_of_cell? _ _ q0) (hne g rfl)
    exact ⟨(World.cell?_of_block (a := ⟨g, _, Option.none⟩) e).trans q0, (World.cell?_of_block (a := ⟨g, _, Option.none⟩) e).trans q1, (World.cell?_of_block (a := ⟨g, _, Option.none⟩) e).trans q2⟩
theorem IntK.five {w : World} {base b : Nat} {v x : Value} {zs : List Int} {c : CN} (h : IntK w base v zs) (hb : b < base) : IntK (fiveC w b c x) base v zs := by
  refine ⟨h.1, ?_⟩
  rcases h.2 with h | ⟨g, cap, cur, e, hg, hgg, r⟩
  · exact .inl h
  · refine .inr ⟨g, cap, cur, e, hg, ?_, r⟩
    rw [fiveC_other _ _ _ _ _ (by omega)]; exact hgg
theorem fiveC.under {w w' : World} {B g : Nat} {c : CN} {v : Value} (hb : Below B w w') (hg : B ≤ g) : Below B w (fiveC w' g c v) :=
  ((((hb.setCell (p := ⟨g, 0, none⟩) hg _).setCell (p := ⟨g, 1, none⟩) hg _).setCell (p := ⟨g, 2, none⟩) hg _).setCell (p := ⟨g, 3, none⟩) hg _).setCell (p := ⟨g, 4, none⟩) hg _

def zK (k : Nat) : List Int := (List.range k).map Int.ofNat
theorem zK_succ (k : Nat) : zK (k + 1) = zK k ++ [(k : Int)] := by unfold zK; rw [List.range_succ, List.map_append]; rfl

theorem cvL (w : World) (kk : Nat) (hk : kk < 4) : (convert 22 9 (.slice (some ⟨w.heap.size, 0, none⟩) 1 1)).run Tryz.prog (w.alloc (.cells #[.int .u8 (97 + (kk : Int))] 5)) = .ok (.string (letW kk)) (w.alloc (.cells #[.int .u8 (97 + (kk : Int))] 5)) := by
  have h := run_convert_bytes_arg (P := Tryz.prog) (w.alloc (.cells #[.int .u8 (97 + (kk : Int))] 5)) 22 5 Tryz.underlying22 Tryz.underlying5 w.heap.size 0 1 1 [97 + (kk : Int)] (by simp) (fun i hi => by
    obtain rfl : i = 0 := by simpa using hi
    simp) 9 Tryz.underlying9
  rw [h]
  obtain rfl | rfl | rfl | rfl : kk = 0 ∨ kk = 1 ∨ kk = 2 ∨ kk = 3 := by omega
  all_goals rfl

set_option maxHeartbeats 16000000 in
set_option maxRecDepth 100000 in
theorem conns_walk (a0 a1 : Option Addr) (len0 cap0 len1 cap1 : Nat) (z0 z1 : List Int) (w : World) (h0 : IsRow .u8 w a0 len0 cap0 z0) (h1 : IsRow .u8 w a1 len1 cap1 z1) (hl0 : len0 ≤ 1048576) (hl1 : len1 ≤ 1048576) (hT : PowTabW w) (hK : TabK w) (hm : MaxL w) :
    Calls Tryz.prog 3 #[.slice a0 len0 cap0, .slice a1 len1 cap1] w fun e w' => e = .returned (.bool true) ∧ Below w.heap.size w w' := by
  have HR0 := hide (byteRow_of h0)
  have HI1 := hide h1
  have HT := hide hT
  have HK := hide hK
  have HM := hide hm
  clear h0 h1 hT hK hm
  have q0 : ¬ (1048576 : Int) < (len0 : Int) := by omega
  have q1 : ¬ (1048576 : Int) < (len1 : Int) := by omega
  go_enter Tryz.func3, Tryz.ntmps3
  go_wp2_with fail
  refine (implOpen_any _).mono ?_
  rintro e w1 ⟨rfl, hb1⟩
  have HB1 := hide hb1
  have HC1 := hide ((CV.new w1 CN.start (.slice none 0 0) w1.heap.size rfl (RowSl.none _)).later (qx_alloc _ (.cells #[] 3)))
  have HBA := hide (qx_al (o := .cells #[] 3) (qx_alloc w1 (.cells #[.bool true, .bool false, .string ⟨#[]⟩, .slice none 0 0, .int .i64 0] 25)))
  clear hb1
  dsimp only [cnV, CN.start] at HC1 ⊢
  go_wp2
  have HS1 := hide (IntK.lit (w1.alloc (.cells #[.bool true, .bool false, .string ⟨#[]⟩, .slice none 0 0, .int .i64 0] 25)) (w1.heap.size + 1) [] (by simp) (by simp))
  have HW1 := hide (qx_trans (unhide HB1) (unhide HBA))
  have hwb : w.heap.size ≤ w1.heap.size := (unhide HB1).size
  simp only [List.length_nil, List.map_nil, World.size_alloc] at HS1
  generalize hW0 : (w1.alloc (.cells #[.bool true, .bool false, .string ⟨#[]⟩, .slice none 0 0, .int .i64 0] 25)).alloc (.cells #[] 3) = W0 at *
  have HS2 := HS1
  clear hW0 HS1 HBA HB1
  generalize w1.heap.size = B5 at *
  go_loopw [6, 7] (fun sq ix wx => ∃ (k : Nat) (v : Value), k ≤ 4 ∧ ix = .int .i64 k ∧ Hid (CV wx B5 (aK k) v) ∧ Hid (IntK wx (B5 + 1) sq (zK k)) ∧ Hid (Below w.heap.size w wx)) (fun _ ix _ => 4 - (intOf ix).toNat)
  case atStart => exact ⟨0, _, by omega, rfl, hide (unhide HC1), hide (unhide HS2), hide (unhide HW1)⟩
  case round =>
    obtain ⟨k, v, hk, rfl, hcv, hsq, hbe⟩ := hrel
    clear HC1 HS2 HW1
    by_cases hlt : k < 4
    · have hlt' : (k : Int) < 4 := by omega
      have HTk := hide (fun (W : World) (hb : Below wr.heap.size wr W) => take_req hlt v W ((unhide hcv).row.later hb))
      have HNx := hide (fun (W : World) (x : Value) (hb : Below w.heap.size w W) (hx : RowSl W x (takeC (aK k) reqW).1.s) => next_req hlt x W hx ((unhide HM).later hb) ((unhide HK).later hb) ((unhide HT).later hb (Nat.le_refl _)))
      have hri : connB (aK (k + 1)) = true := nextC_right (takeC_right reqW (takes_at hlt).1 (by have := of_decide_eq_true req_small; omega))
      have HOk := hide (fun (W : World) (x : Value) (hx : RowSl W x (aK (k + 1)).s) => ConnOK_right (aK (k + 1)) x W hx hri)
      clear hri
      dsimp only [oneW] at HNx
      generalize hd : aK (k + 1) = d at *
      have HD := hide hd
      clear hd
      generalize (nextC (takeC (aK k) reqW).1).x = nx at *
      generalize (takeC (aK k) reqW).1 = x at *
      generalize aK k = c at *
      obtain ⟨p, cp, hv, _⟩ := (unhide hcv).row.slice
      subst hv
      generalize c.s.length = lc at *
      dsimp only [cnV] at HTk HNx HOk
      obtain ⟨sp, sc, hsv⟩ := (unhide hsq).slice
      subst hsv
      generalize hzl : (zK k).length = zl at *
      have HZL := hide hzl
      clear hzl
      go_wp2_with fail
      refine (text_req _).mono ?_
      rintro e w2 ⟨rfl, hb2⟩
      have HB2 := hide hb2
      obtain ⟨t0, t1, t2, t3, t4⟩ := ((unhide hcv).later hb2).cn.cells
      clear hb2
      go_wp2_with fail
      refine (unhide HTk _ (unhide HB2)).mono ?_
      rintro e w3 ⟨v3, rfl, hr3, hb3⟩
      dsimp only at hr3
      have HX := hide (CV.new w3 x v3 w3.heap.size rfl hr3)
      have HB3 := hide (qx_al (o := .cells #[.bool x.o, .bool x.e, .string x.i, v3, .int .i64 x.n] 25) (qx_trans (unhide HB2) hb3))
      have hs3 := (qx_trans (unhide HB2) hb3).size
      obtain ⟨p3, c3, hv3, _⟩ := hr3.slice
      subst hv3
      generalize x.s.length = lx at *
      dsimp only [cnV]
      clear hb3 hr3 t0 t1 t2 t3 t4 HTk HB2
      go_wp2_with fail
      refine (unhide HNx _ _ (qx_trans (unhide hbe) (unhide HB3)) (unhide HX).row).mono ?_
      rintro e w4 ⟨v4, rfl, hr4, hb4, ho4⟩
      dsimp only at hr4
      have HDv := hide ((CV.new w4 d v4 w4.heap.size rfl hr4).later (qx_alloc _ (.cells #[.string ⟨#[47, 111, 110, 101]⟩, .bool nx] 31)))
      have HQ := hide (ReqAt.new (w4.alloc (.cells #[.bool d.o, .bool d.e, .string d.i, v4, .int .i64 d.n] 25)) ⟨#[47, 111, 110, 101]⟩ nx (w4.heap.size + 1) (by simp) 31)
      have HB4 := hide (qx_al (o := .cells #[.string ⟨#[47, 111, 110, 101]⟩, .bool nx] 31) (qx_al (o := .cells #[.bool d.o, .bool d.e, .string d.i, v4, .int .i64 d.n] 25) (qx_trans (unhide HB3) hb4)))
      have hs4 := (qx_trans (unhide HB3) hb4).size
      have HO4 := hide ho4
      obtain ⟨p4, c4, hv4, _⟩ := hr4.slice
      subst hv4
      generalize d.s.length = ld at *
      dsimp only [cnV]
      clear hb4 hr4 ho4 HX HNx HB3
      obtain ⟨y0, y1, y2, y3, y4⟩ := (unhide HDv).cn.cells
      obtain ⟨r0, r1, _, _, _⟩ := unhide HQ
      go_wp2_with fail
      refine (unhide HOk _ _ (unhide HDv).row).mono ?_
      rintro e w5 ⟨rfl, hb5⟩
      have HD5 := hide ((unhide HDv).later hb5)
      have HB5' := hide (qx_trans (unhide HB4) hb5)
      have HS5 := hide ((unhide hsq).later (unhide HB5'))
      have hs5 := hb5.size
      simp at hs5
      clear hb5 HDv HQ HOk HB4 y0 y1 y2 y3 y4 r0 r1
      go_wp2_with (at_builtin; refine wp_appIX _ rfl _ _ rfl (B5 + 1) w5.heap.size _ (zK k) (k : Int) rfl ((unhide HS5).alloc _) rfl (by simp) ?c1 ?c2 ?c3)
      case c1 => have := (unhide hcv).cn.lt; simp; omega
      case c2 => simp [zK]; omega
      case c3 =>
        intro v6 w6 hown hb6 hk6
        have hne : ∀ j, (Value.slice sp zl sc).ownBlock = some j → j < wr.heap.size := fun j hj => ((unhide hsq).own_lt j hj).2
        have hne4 : (Value.slice sp zl sc).ownBlock ≠ some w4.heap.size := fun e => by have := hne _ e; omega
        have hD6 : CV w6 w4.heap.size d (.slice p4 ld c4) := by
          refine ⟨?_, ((unhide HD5).row.later (qx_alloc w5 (.cells #[.int .i64 (k : Int)] 3))).rest (u := .slice sp zl sc) (fun j hj e => ?_) (fun q hq hqv => hk6 q (by first | exact hq | simpa using hq) hqv)⟩
          · unfold CnB
            rw [hk6 _ (by first | omega | (simp; omega)) hne4]
            exact ((unhide HD5).cn.later (qx_alloc _ _))
          · have h1 := unhide HO4 j hj
            have h2 := hne j e
            first | omega | (simp at h1; omega)
        have hcB : CnB w6 B5 c (.slice p lc cp) := by
          have h1 := ((unhide hcv).cn.later (unhide HB5')).later (qx_alloc w5 (.cells #[.int .i64 (k : Int)] 3))
          exact h1.below hb6 (Nat.lt_succ_self _)
        have HF := hide (CV.put hcB d (.slice p4 ld c4) hD6.row)
        have HI := hide (hown.five (b := B5) (c := d) (x := .slice p4 ld c4) (Nat.lt_succ_self _))
        have HBf := hide (fiveC.under (g := B5) (c := d) (v := .slice p4 ld c4) ((qx_al (o := .cells #[.int .i64 (k : Int)] 3) (qx_trans (unhide hbe) (unhide HB5'))).trans (hb6.mono (by omega))) hwb)
        obtain ⟨y0, y1, y2, y3, y4⟩ := hD6.cn.cells
        obtain ⟨t0, t1, t2, t3, t4⟩ := hcB.cells
        obtain ⟨f0, f1, f2, f3, f4⟩ := hcB.free
        have hne5 : B5 ≠ w4.heap.size := by have := (unhide hcv).cn.lt; omega
        rw [← zK_succ] at HI
        obtain ⟨p6, c6, hv6⟩ := hown.slice
        subst hv6
        generalize (zK k ++ [(k : Int)]).length = l6 at *
        clear hown hb6 hk6 hne hne4 hD6 hcB HS5 HD5 HB5' HO4 hcv hsq hbe
        go_wp2
        go_roundw
        case rel => exact ⟨k + 1, _, by omega, by go_num, by rw [unhide HD]; exact hide (unhide HF), hide (unhide HI), hide (unhide HBf)⟩
        case measure => simp [intOf]; omega
    · obtain rfl : k = 4 := by omega
      have hnk : ¬ ((4 : Nat) : Int) < 4 := by omega
      have hri := waits_at.2
      have HWt := hide (fun (W : World) (hb : Below wr.heap.size wr W) => WaitingOf_any (aK 4) v W ((unhide hcv).row.later hb) hri)
      rw [waits_at.1, show ([0, 1, 2, 3] : List Int) = zK 4 from rfl] at HWt
      have hzl : (zK 4).length ≤ 1000 := by decide
      generalize zK 4 = zs at *
      have H0 := hide (show CV wr B5 (bK 0 0).1 v from unhide hcv)
      generalize hc : aK 4 = c at *
      have HC := hide hc
      clear hc hri
      obtain ⟨p, cp, hv, _⟩ := (unhide hcv).row.slice
      subst hv
      generalize c.s.length = lc at *
      dsimp only [cnV] at HWt
      obtain ⟨sp, sc, hsv⟩ := (unhide hsq).slice
      subst hsv
      obtain ⟨t0, t1, t2, t3, t4⟩ := (unhide hcv).cn.cells
      go_wp2_with fail
      refine (unhide HWt _ (Below.refl _ _)).mono ?_
      rintro e w2 ⟨v2, rfl, hw2, hb2⟩
      have HB2 := hide hb2
      have HSm := hide (fun (W : World) (hb : Below w2.heap.size w2 W) => by
        obtain ⟨a', ca, e1, h1⟩ := hw2.ints
        obtain ⟨b', cb, e2, h2⟩ := ((unhide hsq).later hb2).ints
        exact (⟨a', ca, b', cb, e1, e2, sameInts_same a' b' ca cb zs W (h1.later hb) (h2.later hb) hzl⟩ : ∃ a' ca b' cb, v2 = .slice a' zs.length ca ∧ Value.slice sp zs.length sc = .slice b' zs.length cb ∧ Calls Tryz.prog 12 #[.slice a' zs.length ca, .slice b' zs.length cb] W fun e w' => e = .returned (.bool true) ∧ Below W.heap.size W w'))
      obtain ⟨a', ca, b', cb, e1, e2, hsm⟩ := unhide HSm w2 (Below.refl _ _)
      have HS2 := hide hsm
      injection e2 with e3 _ e4
      subst e1 e3 e4
      clear hb2 hw2 HSm HWt t0 t1 t2 t3 t4 hsm
      generalize zs.length = zl at *
      go_wp2_with fail
      refine (unhide HS2).mono ?_
      rintro e w3 ⟨rfl, hb3⟩
      have HB3 := hide (qx_trans (unhide HB2) hb3)
      clear hb3 HS2 HB2
      go_wp2_with fail
      refine (at_any a1 len1 cap1 z1 0 4 _ ((unhide HI1).later (qx_trans (unhide hbe) (unhide HB3))) hl1 (.inl rfl) (by omega) (by omega)).mono ?_
      rintro e w4 ⟨f0, rfl, hf0, hf4, hb4⟩
      obtain ⟨f, rfl⟩ := Int.eq_ofNat_of_zero_le hf0
      have hfl : f < 4 := by omega
      have HB4 := hide (qx_trans (unhide HB3) hb4)
      have HCv := hide ((unhide H0).later (unhide HB4))
      have HBw := hide (qx_trans (unhide hbe) (unhide HB4))
      clear hb4 HB3 HB4 hcv hsq hbe H0 hf0 hf4 HC HI1
      go_wp2
      go_loopw [19, 20] (fun out ix wx => ∃ (i : Nat) (v : Value), i ≤ 4 ∧ ix = .int .i64 i ∧ out = .string (bK f i).2 ∧ Hid (CV wx B5 (bK f i).1 v) ∧ Hid (Below w.heap.size w wx)) (fun _ ix _ => 4 - (intOf ix).toNat)
      case atStart => exact ⟨0, _, by omega, rfl, rfl, hide (unhide HCv), hide (unhide HBw)⟩
      case round =>
        obtain ⟨i, v, hi, rfl, rfl, hcv, hbe⟩ := hrel
        clear HCv HBw
        by_cases hlt : i < 4
        · have hlt' : (i : Int) < 4 := by omega
          have hk4 : (f + i) % 4 < 4 := Nat.mod_lt _ (by omega)
          have hkk : ((f : Int) + (i : Int)) % 4 = (((f + i) % 4 : Nat) : Int) := by omega
          have HRd := hide (fun (W : World) (hb : Below wr.heap.size wr W) => ready_req hfl hlt v W ((unhide hcv).row.later hb))
          have HAg := hide (fun (W : World) (x : Value) (hx : RowSl W x (xK f i).s) => again_req hfl hlt x W hx)
          have HFl := hide (fun (W : World) (x : Value) (hx : RowSl W x (xK f i).s) => flush_req hfl hlt x W hx)
          have HOut := hide ((replies_at hfl hlt).2.2.2.2.1)
          have hsz := (replies_at hfl hlt).2.2.2.2.2
          have hTz : (bK f i).2.size + (flushC (xK f i)).t.size ≤ 100 := by
            have h1 : (bK f (i + 1)).2.size ≤ 100 := by
              by_cases h4 : i + 1 < 4
              · exact (replies_at hfl h4).2.2.2.2.2
              · obtain rfl : i = 3 := by omega
                rw [(ends_at hfl).1]
                decide
            rw [unhide HOut, ByteArray.size_append] at h1
            exact h1
          generalize hd : (bK f (i + 1)).1 = d at *
          have HD := hide hd
          clear hd
          generalize (f + i) % 4 = kk at *
          have hcvL := fun u : World => cvL u kk hk4
          generalize (readyC (xK f i) (kk : Nat) againW).1 = ag at *
          generalize (flushC (xK f i)).t = T at *
          generalize xK f i = x at *
          generalize (bK f i).1 = c at *
          generalize hot : (bK f i).2 = ot at *
          clear hot
          dsimp only [cnV] at HRd HAg HFl
          obtain ⟨p, cp, hv, _⟩ := (unhide hcv).row.slice
          subst hv
          generalize c.s.length = lc at *
          obtain ⟨t0, t1, t2, t3, t4⟩ := (unhide hcv).cn.cells
          go_wp2_with fail
          refine (unhide HRd _ (qx_alloc _ _)).mono ?_
          rintro e w2 ⟨v2, rfl, hr2, hb2⟩
          dsimp only at hr2
          have HX := hide (CV.new w2 x v2 w2.heap.size rfl hr2)
          have HB2 := hide (qx_al (o := .cells #[.bool x.o, .bool x.e, .string x.i, v2, .int .i64 x.n] 25) (qx_trans (qx_alloc wr (.cells #[.int .u8 (97 + (kk : Int))] 5)) hb2))
          obtain ⟨p2, c2, hv2, _⟩ := hr2.slice
          subst hv2
          generalize x.s.length = lx at *
          dsimp only [cnV]
          obtain ⟨x0, x1, x2, x3, x4⟩ := (unhide HX).cn.cells
          clear hb2 hr2 HRd t0 t1 t2 t3 t4 hcvL
          go_wp2_with fail
          refine (unhide HAg _ _ (unhide HX).row).mono ?_
          rintro e w3 ⟨v3, rfl, hr3, hb3⟩
          dsimp only at hr3
          obtain ⟨p3, c3, hv3, _⟩ := hr3.slice
          subst hv3
          generalize ag.s.length = la at *
          have HX3 := hide (((unhide HX).later hb3).later (qx_alloc w3 (.cells #[.bool ag.o, .bool ag.e, .string ag.i, .slice p3 la c3, .int .i64 ag.n] 25)))
          have HB3 := hide (qx_al (o := .cells #[.bool ag.o, .bool ag.e, .string ag.i, .slice p3 la c3, .int .i64 ag.n] 25) (qx_trans (unhide HB2) hb3))
          dsimp only [cnV]
          clear hb3 hr3 HX HB2 HAg x0 x1 x2 x3 x4
          obtain ⟨x0, x1, x2, x3, x4⟩ := (unhide HX3).cn.cells
          go_wp2_with fail
          refine (unhide HFl _ _ (unhide HX3).row).mono ?_
          rintro e w4 ⟨v4, rfl, hr4, hb4⟩
          dsimp only at hr4
          obtain ⟨p4, c4, hv4, _⟩ := hr4.slice
          subst hv4
          generalize hld : d.s.length = ld at *
          clear hld
          have HB4 := hide (qx_trans (unhide HB3) hb4)
          have HDv := hide (CnB.new w4 d (.slice p4 ld c4) w4.heap.size rfl)
          have HF := hide ((CV.put ((unhide hcv).cn.later (unhide HB4)) d (.slice p4 ld c4) hr4).later (qx_alloc _ (.cells #[.bool d.o, .bool d.e, .string d.i, .slice p4 ld c4, .int .i64 d.n] 25)))
          have HBf := hide (qx_al (o := .cells #[.bool d.o, .bool d.e, .string d.i, .slice p4 ld c4, .int .i64 d.n] 25) (fiveC.under (g := B5) (c := d) (v := .slice p4 ld c4) (qx_trans (unhide hbe) (unhide HB4)) hwb))
          have hcC := (unhide hcv).cn.later (unhide HB4)
          obtain ⟨t0, t1, t2, t3, t4⟩ := hcC.cells
          obtain ⟨g0, g1, g2, g3, g4⟩ := hcC.free
          have hne5 : B5 ≠ w4.heap.size := by have := hcC.lt; omega
          have hlt5 : B5 < w4.heap.size := hcC.lt
          dsimp only [cnV]
          clear hb4 hr4 HX3 HB3 HFl HB4 hcC x0 x1 x2 x3 x4
          go_wp2
          go_roundw
          case rel => exact ⟨i + 1, _, by omega, by go_num, by rw [unhide HOut], by rw [unhide HD]; exact hide (unhide HF), hide (unhide HBf)⟩
          case measure => simp [intOf]; omega
        · obtain rfl : i = 4 := by omega
          have hnk : ¬ ((4 : Nat) : Int) < 4 := by omega
          obtain ⟨he1, he2⟩ := ends_at hfl
          rw [he1]
          generalize hc : (bK f 4).1 = c at *
          clear hc he1
          obtain ⟨p, cp, hv, _⟩ := (unhide hcv).row.slice
          subst hv
          rw [he2] at hcv
          have H5 := hide (unhide hcv)
          go_wp2_with fail
          refine (connOf_any a0 len0 cap0 _ hl0 ((unhide HR0).later (unhide hbe))).mono ?_
          rintro e u1 ⟨D, v1, rfl, hrow1, hri, hb1⟩
          obtain ⟨p1, k1, hv1, _⟩ := hrow1.1.slice
          subst hv1
          generalize hLD : D.s.length = LD at *
          have HBB := hide (qx_al (o := (.cells #[.bool D.o, .bool D.e, .string D.i, (.slice p1 LD k1), .int .i64 D.n] 25)) hb1)
          have HR := hide (hrow1.later (qx_alloc u1 (.cells #[.bool D.o, .bool D.e, .string D.i, (.slice p1 LD k1), .int .i64 D.n] 25)))
          have H30 := hide (CV.new u1 D (.slice p1 LD k1) u1.heap.size rfl hrow1.1)
          have H5 := hide ((unhide H5).later (unhide HBB))
          have HTot := hide (qx_trans (unhide hbe) (unhide HBB))
          have HF := hide (fun (W : World) (hr : RowC W (.slice p1 LD k1) D.s) => ConnFlush_gen D (.slice p1 LD k1) W hr.1 hri)
          have HFs := hide (fun (W : World) (hr : RowC W (.slice p1 LD k1) D.s) => specConnFlush_any D (.slice p1 LD k1) W hr hri)
          have HN := hide (fun (W : World) (hr : RowC W (.slice p1 LD k1) D.s) (hb : Below w.heap.size w W) => ConnNext_gen D (.slice p1 LD k1) W hr.1 hri ((unhide HM).later hb) ((unhide HK).later hb) ((unhide HT).later hb (Nat.le_refl _)))
          have HNs := hide (fun (W : World) (hr : RowC W (.slice p1 LD k1) D.s) => specConnNext_any D (.slice p1 LD k1) W hr hri)
          have HRm := hide (fun (W : World) (hr : RowC W (.slice p1 LD k1) D.s) => RoomOf_any D (.slice p1 LD k1) W hr.1 hri)
          have HRs := hide (fun (W : World) (hr : RowC W (.slice p1 LD k1) D.s) => specRoomOf_any D (.slice p1 LD k1) W hr hri)
          have HOk := hide (fun (W : World) (hr : RowC W (.slice p1 LD k1) D.s) => ConnOK_right D (.slice p1 LD k1) W hr.1 hri)
          rw [flush_few hri] at HF HFs
          have hF6 := (connB_few (flushC_right hri)).2.2.2
          have hN6 := (connB_few (nextC_right hri)).2.2.2
          generalize (flushC D).c = fc at *
          generalize (flushC D).t = ft at *
          generalize (flushC D).x = fx at *
          generalize nextC D = N at *
          obtain ⟨nc, np, nx, nq, ne⟩ := N
          dsimp only at hN6
          generalize roomC D = R at *
          obtain ⟨r1, r2⟩ := R
          dsimp only [cnV] at HF HFs HN HNs HRm HRs HOk
          have hft1 := qa_self ft
          have hft2 := ql_self ft
          have hnp1 := qa_self np
          have hnp2 := ql_self np
          clear hb1 hrow1 hcv hbe HBB hri hLD he2 hft1 hft2 hnp1 hnp2
          obtain ⟨d0, d1, d2, d3, d4⟩ := (unhide H30).cn.cells
          dsimp only [cnV]
          go_wp2_with fail
          refine (unhide HF _ (unhide HR)).mono ?_
          rintro e u2 ⟨v2, rfl, hr2, hb2⟩
          dsimp only at hr2
          obtain ⟨p2, k2, hv2, _⟩ := hr2.slice
          subst hv2
          generalize hL : fc.s.length = Lfc at *
          have HLfc := hide hL
          clear hL
          have HBB := hide (qx_al (o := (.cells #[.bool fc.o, .bool fc.e, .string fc.i, (.slice p2 Lfc k2), .int .i64 fc.n] 25)) hb2)
          clear d0 d1 d2 d3 d4
          have HR := hide ((unhide HR).later (unhide HBB))
          have H30 := hide ((unhide H30).later (unhide HBB))
          have H5 := hide ((unhide H5).later (unhide HBB))
          have HTot := hide (qx_trans (unhide HTot) (unhide HBB))
          have H31 := hide (CV.new u2 fc (.slice p2 Lfc k2) u2.heap.size rfl hr2)
          dsimp only [cnV]
          clear hb2 hr2 HBB
          obtain ⟨d0, d1, d2, d3, d4⟩ := (unhide H30).cn.cells
          go_wp2_with fail
          refine (unhide HFs _ (unhide HR)).mono ?_
          rintro e u3 ⟨v3, rfl, hr3, hb3⟩
          dsimp only at hr3
          obtain ⟨p3, k3, hv3, _⟩ := hr3.slice
          subst hv3
          rw [unhide HLfc] at hr3 ⊢
          have HBB := hide (qx_al (o := (.cells #[.bool fc.o, .bool fc.e, .string fc.i, (.slice p3 Lfc k3), .int .i64 fc.n] 25)) hb3)
          clear d0 d1 d2 d3 d4
          have HR := hide ((unhide HR).later (unhide HBB))
          have H30 := hide ((unhide H30).later (unhide HBB))
          have H5 := hide ((unhide H5).later (unhide HBB))
          have H31 := hide ((unhide H31).later (unhide HBB))
          have HTot := hide (qx_trans (unhide HTot) (unhide HBB))
          have H35 := hide (CV.new u3 fc (.slice p3 Lfc k3) u3.heap.size rfl hr3)
          dsimp only [cnV]
          clear hb3 hr3 HBB
          obtain ⟨d0, d1, d2, d3, d4⟩ := (unhide H30).cn.cells
          go_wp2_with fail
          refine (unhide HN _ (unhide HR) (unhide HTot)).mono ?_
          rintro e u4 ⟨v4, rfl, hr4, hb4, _⟩
          dsimp only at hr4
          obtain ⟨p4, k4, hv4, _⟩ := hr4.slice
          subst hv4
          generalize hL : nc.s.length = Lnc at *
          have HLnc := hide hL
          clear hL
          have HBB := hide (qx_al (o := (.cells #[.string np, .bool nx] 31)) (qx_al (o := (.cells #[.bool nc.o, .bool nc.e, .string nc.i, (.slice p4 Lnc k4), .int .i64 nc.n] 25)) hb4))
          clear d0 d1 d2 d3 d4
          have HR := hide ((unhide HR).later (unhide HBB))
          have H30 := hide ((unhide H30).later (unhide HBB))
          have H5 := hide ((unhide H5).later (unhide HBB))
          have H31 := hide ((unhide H31).later (unhide HBB))
          have H35 := hide ((unhide H35).later (unhide HBB))
          have HTot := hide (qx_trans (unhide HTot) (unhide HBB))
          have H39 := hide ((CV.new u4 nc (.slice p4 Lnc k4) u4.heap.size rfl hr4).later (qx_alloc _ (.cells #[.string np, .bool nx] 31)))
          have H40 := hide (ReqAt.new (u4.alloc (.cells #[.bool nc.o, .bool nc.e, .string nc.i, (.slice p4 Lnc k4), .int .i64 nc.n] 25)) np nx (u4.heap.size + 1) (by simp) 31)
          dsimp only [cnV]
          clear hb4 hr4 HBB
          obtain ⟨d0, d1, d2, d3, d4⟩ := (unhide H30).cn.cells
          go_wp2_with fail
          refine (unhide HNs _ (unhide HR)).mono ?_
          rintro e u5 ⟨v5, rfl, hr5, hb5⟩
          dsimp only at hr5
          obtain ⟨p5, k5, hv5, _⟩ := hr5.slice
          subst hv5
          rw [unhide HLnc] at hr5 ⊢
          have HBB := hide (qx_al (o := (.cells #[.string np, .bool nx] 31)) (qx_al (o := (.cells #[.bool nc.o, .bool nc.e, .string nc.i, (.slice p5 Lnc k5), .int .i64 nc.n] 25)) hb5))
          clear d0 d1 d2 d3 d4
          have HR := hide ((unhide HR).later (unhide HBB))
          have H30 := hide ((unhide H30).later (unhide HBB))
          have H5 := hide ((unhide H5).later (unhide HBB))
          have H31 := hide ((unhide H31).later (unhide HBB))
          have H35 := hide ((unhide H35).later (unhide HBB))
          have H39 := hide ((unhide H39).later (unhide HBB))
          have H40 := hide ((unhide H40).later (unhide HBB))
          have HTot := hide (qx_trans (unhide HTot) (unhide HBB))
          have H43 := hide ((CV.new u5 nc (.slice p5 Lnc k5) u5.heap.size rfl hr5).later (qx_alloc _ (.cells #[.string np, .bool nx] 31)))
          have H44 := hide (ReqAt.new (u5.alloc (.cells #[.bool nc.o, .bool nc.e, .string nc.i, (.slice p5 Lnc k5), .int .i64 nc.n] 25)) np nx (u5.heap.size + 1) (by simp) 31)
          dsimp only [cnV]
          clear hb5 hr5 HBB
          obtain ⟨d0, d1, d2, d3, d4⟩ := (unhide H30).cn.cells
          go_wp2_with fail
          refine (unhide HRm _ (unhide HR)).mono ?_
          rintro e u6 ⟨rfl, hb6⟩
          have HBB := hide hb6
          clear d0 d1 d2 d3 d4
          have HR := hide ((unhide HR).later (unhide HBB))
          have H30 := hide ((unhide H30).later (unhide HBB))
          have H5 := hide ((unhide H5).later (unhide HBB))
          have H31 := hide ((unhide H31).later (unhide HBB))
          have H35 := hide ((unhide H35).later (unhide HBB))
          have H39 := hide ((unhide H39).later (unhide HBB))
          have H40 := hide ((unhide H40).later (unhide HBB))
          have H43 := hide ((unhide H43).later (unhide HBB))
          have H44 := hide ((unhide H44).later (unhide HBB))
          have HTot := hide (qx_trans (unhide HTot) (unhide HBB))
          clear hb6 HBB
          dsimp only
          obtain ⟨d0, d1, d2, d3, d4⟩ := (unhide H30).cn.cells
          go_wp2_with fail
          refine (unhide HRs _ (unhide HR)).mono ?_
          rintro e u7 ⟨rfl, hb7⟩
          have HBB := hide hb7
          clear d0 d1 d2 d3 d4
          have HR := hide ((unhide HR).later (unhide HBB))
          have H30 := hide ((unhide H30).later (unhide HBB))
          have H5 := hide ((unhide H5).later (unhide HBB))
          have H31 := hide ((unhide H31).later (unhide HBB))
          have H35 := hide ((unhide H35).later (unhide HBB))
          have H39 := hide ((unhide H39).later (unhide HBB))
          have H40 := hide ((unhide H40).later (unhide HBB))
          have H43 := hide ((unhide H43).later (unhide HBB))
          have H44 := hide ((unhide H44).later (unhide HBB))
          have HTot := hide (qx_trans (unhide HTot) (unhide HBB))
          clear hb7 HBB
          dsimp only
          clear HF HFs HN HNs HRm HRs
          obtain ⟨m0_0, m0_1, m0_2, m0_3, m0_4⟩ := (unhide H5).cn.cells
          obtain ⟨m1_0, m1_1, m1_2, m1_3, m1_4⟩ := (unhide H31).cn.cells
          obtain ⟨m2_0, m2_1, m2_2, m2_3, m2_4⟩ := (unhide H35).cn.cells
          have HS1 := hide (sameConn_same fc (.slice p2 Lfc k2) (.slice p3 Lfc k3) u7 (unhide H31).row (unhide H35).row (by rw [unhide HLfc]; omega))
          dsimp only [cnV] at HS1
          go_wp2_with fail
          refine (unhide HS1).mono ?_
          rintro e u8 ⟨rfl, hb8⟩
          have HBB := hide hb8
          clear HS1
          clear m0_0 m0_1 m0_2 m0_3 m0_4 m1_0 m1_1 m1_2 m1_3 m1_4 m2_0 m2_1 m2_2 m2_3 m2_4
          have HR := hide ((unhide HR).later (unhide HBB))
          have H30 := hide ((unhide H30).later (unhide HBB))
          have H39 := hide ((unhide H39).later (unhide HBB))
          have H40 := hide ((unhide H40).later (unhide HBB))
          have H43 := hide ((unhide H43).later (unhide HBB))
          have H44 := hide ((unhide H44).later (unhide HBB))
          have HTot := hide (qx_trans (unhide HTot) (unhide HBB))
          clear hb8 HBB
          obtain ⟨n0_0, n0_1, n0_2, n0_3, n0_4⟩ := (unhide H39).cn.cells
          obtain ⟨n1_0, n1_1, n1_2, n1_3, n1_4⟩ := (unhide H43).cn.cells
          have hft1 := qa_self ft
          have hft2 := ql_self ft
          have HS2 := hide (sameConn_same nc (.slice p4 Lnc k4) (.slice p5 Lnc k5) u8 (unhide H39).row (unhide H43).row (by rw [unhide HLnc]; omega))
          dsimp only [cnV] at HS2
          go_wp2_with fail
          refine (unhide HS2).mono ?_
          rintro e u9 ⟨rfl, hb9⟩
          have HBB := hide hb9
          clear HS2 n0_0 n0_1 n0_2 n0_3 n0_4 n1_0 n1_1 n1_2 n1_3 n1_4
          have HR := hide ((unhide HR).later (unhide HBB))
          have H30 := hide ((unhide H30).later (unhide HBB))
          have H40 := hide ((unhide H40).later (unhide HBB))
          have H44 := hide ((unhide H44).later (unhide HBB))
          have HTot := hide (qx_trans (unhide HTot) (unhide HBB))
          clear hb9 HBB
          obtain ⟨q0_0, q0_1, q0_2, q0_3, q0_4⟩ := (unhide H30).cn.cells
          obtain ⟨q1_0, q1_1, _, _, _⟩ := unhide H40
          obtain ⟨q2_0, q2_1, _, _, _⟩ := unhide H44
          have hnp1 := qa_self np
          have hnp2 := ql_self np
          go_wp2_with fail
          refine (unhide HOk _ (unhide HR)).mono ?_
          rintro e u10 ⟨rfl, hb10⟩
          have HTot := hide (qx_trans (unhide HTot) hb10)
          clear hb10 HOk
          go_wp2
          go_ret
          exact ⟨rfl, unhide HTot⟩

set_option maxRecDepth 100000 in
theorem lawConns_any (a0 : Option Addr) (len0 cap0 : Nat) (z0 : List Int) (a1 : Option Addr) (len1 cap1 : Nat) (z1 : List Int) (w : World) (h0 : IsRow .u8 w a0 len0 cap0 z0) (h1 : IsRow .u8 w a1 len1 cap1 z1) (hT : PowTabW w ∧ TabK w) (hm : MaxL w) :
    Calls Tryz.prog 3 #[.slice a0 len0 cap0, .slice a1 len1 cap1] w fun e w' => e = .returned (.bool true) ∧ Below w.heap.size w w' := by
  by_cases hl0 : len0 ≤ 1048576
  · by_cases hl1 : len1 ≤ 1048576
    · exact conns_walk a0 a1 len0 cap0 len1 cap1 z0 z1 w h0 h1 hl0 hl1 hT.1 hT.2 hm
    · have q0 : ¬ (1048576 : Int) < (len0 : Int) := by omega
      have q1 : (1048576 : Int) < (len1 : Int) := by omega
      go_enter Tryz.func3, Tryz.ntmps3
      go_wp2
      go_ret
      exact ⟨rfl, Below.refl _ _⟩
  · have q0 : (1048576 : Int) < (len0 : Int) := by omega
    go_enter Tryz.func3, Tryz.ntmps3
    go_wp2
    go_ret
    exact ⟨rfl, Below.refl _ _⟩

end Go.Proofs.YthfoabcmgiiadaaGreatDoor
