/- However a text is cut into pieces, the same requests are read from it: the law's walk. -/
import Derived.Test.YthfoabcmgiiadaaGreatDoorPieceW0
namespace Go.Proofs.YthfoabcmgiiadaaGreatDoor
open Go.RowKit Go.Joins
set_option linter.unusedVariables false

/-- the law's two connections, and the requests read so far -/
structure PcI (w wr : World) (ob tb base : Nat) (c d : CN) (f : Value) (l : List RQ) : Prop where
  one : ∃ v, CnB wr ob c v ∧ RowSl wr v c.s
  two : ∃ v, CnB wr tb d v ∧ RowSl wr v d.s
  req : RqB wr base f l
  bel : Below w.heap.size w wr
theorem PcI.later {w wr u : World} {ob tb base : Nat} {c d : CN} {f : Value} {l : List RQ} (h : PcI w wr ob tb base c d f l) (hb : Below wr.heap.size wr u) : PcI w u ob tb base c d f l := by
  obtain ⟨v, h1, h2⟩ := h.one
  obtain ⟨v', h3, h4⟩ := h.two
  exact ⟨⟨v, h1.later hb, h2.later hb⟩, ⟨v', h3.later hb, h4.later hb⟩, h.req.later hb, qx_trans h.bel hb⟩

set_option maxHeartbeats 16000000 in
set_option maxRecDepth 100000 in
theorem pieces_walk (a0 a1 : Option Addr) (len0 cap0 len1 cap1 : Nat) (z0 z1 : List Int) (w : World) (h0 : IsRow .u8 w a0 len0 cap0 z0) (h1 : IsRow .u8 w a1 len1 cap1 z1) (hl0 : len0 ≤ 1048576) (hl1 : len1 ≤ 1048576) (hT : PowTabW w) (hK : TabK w) (hm : MaxL w) :
    Calls Tryz.prog 4 #[.slice a0 len0 cap0, .slice a1 len1 cap1] w fun e w' => e = .returned (.bool true) ∧ Below w.heap.size w w' := by
  have HR0 := hide (byteRow_of h0)
  have HR1 := hide (byteRow_of h1)
  have HI1 := hide h1
  have HT := hide hT
  have HK := hide hK
  have HM := hide hm
  clear h0 h1 hT hK hm
  have q0 : ¬ (1048576 : Int) < (len0 : Int) := by omega
  have q1 : ¬ (1048576 : Int) < (len1 : Int) := by omega
  go_enter Tryz.func4, Tryz.ntmps4
  go_wp2_with fail
  refine (RequestOf_any a0 len0 cap0 _ (by omega) (unhide HR0)).mono ?_
  rintro e w1 ⟨j1, c1, hj1, rfl, hb1⟩
  have HB1 := hide hb1
  have hw1 := wire_facts j1 hj1 c1
  have hpz1 : (wireP j1).size ≤ maxLen := by have := (wpathB_is hw1.path).2; unfold maxLen; omega
  have H1 := hide fun w => specRequestText_any (wireP j1) c1 w hpz1
  rw [show reqTR (wireP j1) c1 = (reqT c1 (wireP j1), 0) by unfold reqTR; rw [if_pos hw1.path]] at H1
  have hs1 := hw1.small
  clear hb1 hw1 hpz1
  go_wp2_with fail
  refine (unhide H1 _).mono ?_
  rintro e w2 ⟨rfl, hb2⟩
  have HB2 := hide (qx_trans (unhide HB1) hb2)
  clear hb2
  go_wp2_with fail
  refine (RequestOf_any a1 len1 cap1 _ (by omega) ((unhide HR1).later (unhide HB2))).mono ?_
  rintro e w3 ⟨j2, c2, hj2, rfl, hb3⟩
  have HB3 := hide (qx_trans (unhide HB2) hb3)
  have hw2 := wire_facts j2 hj2 c2
  have hpz2 : (wireP j2).size ≤ maxLen := by have := (wpathB_is hw2.path).2; unfold maxLen; omega
  have H2 := hide fun w => specRequestText_any (wireP j2) c2 w hpz2
  rw [show reqTR (wireP j2) c2 = (reqT c2 (wireP j2), 0) by unfold reqTR; rw [if_pos hw2.path]] at H2
  have hs2 := hw2.small
  have hbig := hw2.big
  clear hb3 hw2 hpz2
  go_wp2_with fail
  refine (unhide H2 _).mono ?_
  rintro e w4 ⟨rfl, hb4⟩
  have HB4 := hide (qx_trans (unhide HB3) hb4)
  have HF := hide fun k hk => piece_facts j1 j2 hj1 hj2 c1 c2 k hk
  have hTz : (reqT c1 (wireP j1) ++ reqT c2 (wireP j2)).size ≤ 400 ∧ 4 ≤ (reqT c1 (wireP j1) ++ reqT c2 (wireP j2)).size := by rw [ByteArray.size_append]; omega
  clear hb4 HB1 HB2 HB3 H1 H2 hbig
  dsimp only
  generalize hTT : reqT c1 (wireP j1) ++ reqT c2 (wireP j2) = T at *
  have HTT := hide hTT
  clear hTT
  obtain ⟨hT4, hTb⟩ := hTz
  have HAt := hide (fun w hr => at_any a1 len1 cap1 z1 0 ((T.size : Int) + 1) w hr hl1 (.inl rfl) (by omega) (by omega))
  generalize reqT c1 (wireP j1) = T1 at *
  generalize reqT c2 (wireP j2) = T2 at *
  have hsum : (T1 ++ T2 : ByteArray) = T := unhide HTT
  have hq4 : ¬ (400 : Int) < (T.size : Int) := by omega
  go_wp2_with fail
  refine (unhide HAt _ ((unhide HI1).later (unhide HB4))).mono ?_
  rintro e w5 ⟨k0, rfl, hk0, hk1, hb5⟩
  obtain ⟨k9, rfl⟩ := Int.eq_ofNat_of_zero_le hk0
  have hkt : k9 ≤ T.size := by omega
  have hkt' : (k9 : Int) ≤ (T.size : Int) := by omega
  have HP := hide (unhide HF k9 hkt)
  have HB5 := hide (qx_trans (unhide HB4) hb5)
  clear hb5 HB4 HAt HF hk0 hk1 HR0 HR1 HI1
  go_wp2_with fail
  refine (implOpen_any _).mono ?_
  rintro e w6 ⟨rfl, hb6⟩
  have HB6 := hide (qx_trans (unhide HB5) hb6)
  have HO6 := hide (CnB.new w6 CN.start (.slice none 0 0) w6.heap.size rfl)
  have HA6 := hide (qx_alloc w6 (.cells #[.bool true, .bool false, .string ⟨#[]⟩, .slice none 0 0, .int .i64 0] 25))
  have hb1w : w.heap.size ≤ w6.heap.size := (unhide HB6).size
  clear hb6 HB5
  dsimp only [cnV, CN.start] at HO6 ⊢
  go_wp2_with fail
  refine (implOpen_any _).mono ?_
  rintro e w7 ⟨rfl, hb7⟩
  have HB7 := hide (qx_trans (qx_trans (unhide HB6) (unhide HA6)) hb7)
  have HO7 := hide (((unhide HO6).later hb7).later (qx_alloc w7 (.cells #[.bool true, .bool false, .string ⟨#[]⟩, .slice none 0 0, .int .i64 0] 25)))
  have HW7 := hide (CnB.new w7 CN.start (.slice none 0 0) w7.heap.size rfl)
  have hz7 : w6.heap.size < w7.heap.size := by have := hb7.size; simp at this; omega
  have HA7 := hide (qx_alloc w7 (.cells #[.bool true, .bool false, .string ⟨#[]⟩, .slice none 0 0, .int .i64 0] 25))
  clear hb7 HB6 HO6 HA6
  obtain ⟨o0, o1, o2, o3, o4⟩ := (unhide HO7).cells
  dsimp only [cnV, CN.start] at HW7 o0 o1 o2 o3 o4 ⊢
  have HTk := hide (fun w => ConnTake_gen CN.start (.slice none 0 0) T w (RowSl.none _) rfl (by omega))
  rw [(unhide HP).a.2] at HTk
  go_wp2_with fail
  refine (unhide HTk _).mono ?_
  rintro e w8 ⟨v8, rfl, hr8, hb8⟩
  have HB8 := hide (qx_trans (qx_trans (unhide HB7) (unhide HA7)) hb8)
  have HO8 := hide ((unhide HO7).later hb8)
  have HW8 := hide ((unhide HW7).later hb8)
  have hz8 : w7.heap.size < w8.heap.size := by have := hb8.size; simp at this; omega
  have hz86 : w6.heap.size < w8.heap.size := by omega
  have HR8 := hide hr8
  obtain ⟨p8, k8, rfl, _⟩ := hr8.slice
  clear o0 o1 o2 o3 o4 hb8 HB7 HO7 HW7 HA7 HTk hr8
  obtain ⟨o0, o1, o2, o3, o4⟩ := (unhide HO8).cells
  obtain ⟨f0, f1, f2, f3, f4⟩ := (unhide HO8).free
  dsimp only [cnV, cn0, List.length_nil] at HR8 o0 o1 o2 o3 o4 ⊢
  go_wp2
  -- the loops
  have HRT := hide (fun k => runN_right k _ [] (unhide HP).a.1)
  have HLen : Hid (∀ k, k < 3 → (runN k (cn0 T) []).2.length ≤ 20) := hide (fun k hk => by have := runN_len k (cn0 T) []; simp only [List.length_nil] at this; omega)
  obtain ⟨W0, hW0⟩ : ∃ W0 : World, W0 = ((fiveC w8 w6.heap.size (cn0 T) (.slice p8 0 k8)).alloc (.cells #[.bool true, .bool false, .string T, .slice p8 0 k8, .int .i64 0] 25)).alloc (.cells #[] 31) := ⟨_, rfl⟩
  have hPC : PcR w W0 W0 w6.heap.size (w8.heap.size + 1) (cn0 T) (.slice (some ⟨w8.heap.size + 1, 0, none⟩) 0 0) [] := by
    have h8 := unhide HB8
    have hsz : ((fiveC w8 w6.heap.size (cn0 T) (.slice p8 0 k8)).alloc (.cells #[.bool true, .bool false, .string T, .slice p8 0 k8, .int .i64 0] 25)).heap.size = w8.heap.size + 1 := by simp [fiveC]
    refine ⟨⟨.slice p8 0 k8, ?_, (unhide HR8).empty⟩, ?_, fun k hk hko => rfl, ?_, ?_⟩
    · rw [hW0]
      exact pc_al (pc_al ((unhide HO8).five (cn0 T) _) _) _
    · rw [hW0]
      exact RqB.lit0 _ _ _ hsz (Nat.le_refl _)
    · rw [hW0]
      exact qx_al (qx_al (qx_set (qx_set (qx_set (qx_set (qx_set h8 hb1w) hb1w) hb1w) hb1w) hb1w))
    · rw [hW0]
      simp [fiveC]
  have hTw : CnB W0 w7.heap.size CN.start (.slice none 0 0) := by
    rw [hW0]
    refine pc_al (pc_al ?_ _) _
    exact (unhide HW8).other (by omega)
  simp only [fiveC, cn0] at hW0
  rw [← hW0]
  clear hW0 o0 o1 o2 o3 o4 f0 f1 f2 f3 f4 HO8 HW8 HR8 HB8
  have hobase : w6.heap.size < w8.heap.size + 1 := by omega
  have HTw := hide hTw
  have HPC := hide hPC
  clear hPC hTw
  go_loopw [15, 16] (fun f x wx => ∃ k : Nat, k ≤ 3 ∧ x = .int .i64 k ∧ Hid (PcR w W0 wx w6.heap.size (w8.heap.size + 1) (runN k (cn0 T) []).1 f (runN k (cn0 T) []).2)) (fun _ x _ => 3 - (intOf x).toNat)
  case atStart => exact ⟨0, by omega, rfl, hide (unhide HPC)⟩
  case round =>
    obtain ⟨k, hk, rfl, hpc⟩ := hrel
    by_cases hlt : k < 3
    · have hlt' : (k : Int) < 3 := by omega
      obtain ⟨v, hcn, hrow⟩ := (unhide hpc).var
      have hright := unhide HRT k
      have hlen := unhide HLen k (by omega)
      have hbel := hide (unhide hpc).bel
      have HN := hide (show runN (k + 1) (cn0 T) [] = ((nextC (runN k (cn0 T) []).1).c, if (nextC (runN k (cn0 T) []).1).e = 0 then (runN k (cn0 T) []).2 ++ [⟨(nextC (runN k (cn0 T) []).1).p, (nextC (runN k (cn0 T) []).1).x⟩] else (runN k (cn0 T) []).2) from rfl)
      have HC := hide (ConnNext_gen (runN k (cn0 T) []).1 v wr hrow hright ((unhide HM).later (unhide hbel)) ((unhide HK).later (unhide hbel)) ((unhide HT).later (unhide hbel) (Nat.le_refl _)))
      generalize (runN k (cn0 T) []).1 = c at hpc hcn hrow hright HN HC
      generalize (runN k (cn0 T) []).2 = l at hpc hlen HN
      generalize nextC c = r at HN HC
      have hszw := (unhide hpc).sz
      have hoblt : w6.heap.size < wr.heap.size := hcn.lt
      have HCN := hide hcn
      obtain ⟨p, kk, hv, _⟩ := hrow.slice
      subst hv
      clear hrow hright
      obtain ⟨t0, t1, t2, t3, t4⟩ := hcn.cells
      obtain ⟨co, ce, ci, cs, cm⟩ := c
      obtain ⟨⟨do', de, di, ds, dm⟩, rp, rx, rq, re⟩ := r
      dsimp only [cnV] at *
      generalize cs.length = lc at *
      clear hcn
      go_wp2_with fail
      refine (unhide HC).mono ?_
      rintro ex y ⟨v', rfl, hr', hb', hown'⟩
      have HQ := hide (fun (Z : World) (hb : Below y.heap.size y Z) => ((unhide hpc).req.later hb').later hb)
      have HBy := hide (qx_trans (unhide hbel) hb')
      have HCy := hide ((unhide HCN).later hb')
      have hyz : wr.heap.size ≤ y.heap.size := hb'.size
      have hoby : w6.heap.size < y.heap.size := by omega
      have HKy := hide (fun k (hk : k < wr.heap.size) => hb'.block k hk)
      have HR' := hide hr'
      have HO' := hide hown'
      obtain ⟨p', kk', hv', _⟩ := hr'.slice
      subst hv'
      clear t0 t1 t2 t3 t4 hb' hr' hown' HC HCN
      obtain ⟨t0, t1, t2, t3, t4⟩ := (unhide HCy).cells
      obtain ⟨f0, f1, f2, f3, f4⟩ := (unhide HCy).free
      dsimp only [cnV] at *
      generalize hdl : ds.length = ld at *
      have HDL := hide hdl
      clear hdl
      by_cases he : re = 0
      · subst he
        have HNV := hide (CnB.new y ⟨do', de, di, ds, dm⟩ (.slice p' ld kk') y.heap.size rfl)
        go_wp2_with (at_builtin; refine wp_appRqX _ rfl _ _ rfl (w8.heap.size + 1) (y.heap.size + 2) _ l ⟨rp, rx⟩ rfl ?k1a rfl ?k2a ?k3a ?k4a ?k5a ?k6a)
        case k1a => exact unhide HQ _ (qx_al (qx_al (qx_alloc y _)))
        case k4a => omega
        case k5a => omega
        case k6a =>
          intro f9 w9 hq9 hb9 hk9
          have hfo : ∀ j, u15.ownBlock = some j → j < wr.heap.size := fun j hj => ((unhide hpc).req.own_lt j hj).2
          have hyc : CnB w9 y.heap.size ⟨do', de, di, ds, dm⟩ (.slice p' ld kk') := by
            unfold CnB
            rw [hk9 y.heap.size (by first | (simp; done) | (simp; omega) | omega) (fun e => by have := hfo _ e; omega)]
            exact pc_al (pc_al (unhide HNV) _) _
          have hoc := ((((unhide HCy).later (qx_alloc _ (.cells #[.bool do', .bool de, .string di, .slice p' ld kk', .int .i64 dm] 25))).later (qx_alloc _ (.cells #[.string rp, .bool rx] 31))).later (qx_alloc _ (.cells #[.string rp, .bool rx] 31))).below hb9 hobase
          have hnx : PcR w W0 (fiveC w9 w6.heap.size ⟨do', de, di, ds, dm⟩ (.slice p' ld kk')) w6.heap.size (w8.heap.size + 1) ⟨do', de, di, ds, dm⟩ f9 (l ++ [⟨rp, rx⟩]) := by
            refine (unhide hpc).next hobase hb1w hq9 ?_ ?_ ?_ ?_
            · intro k hk
              rw [hb9.block k hk]
              exact ((qx_al (o := .cells #[.string rp, .bool rx] 31) (qx_al (o := .cells #[.string rp, .bool rx] 31) (qx_alloc y (.cells #[.bool do', .bool de, .string di, .slice p' ld kk', .int .i64 dm] 25)))).block k (by omega)).trans (unhide HKy k (by omega))
            · have := hb9.size
              simp at this
              omega
            · have hrz := (unhide HR').later (qx_al (o := .cells #[.string rp, .bool rx] 31) (qx_al (o := .cells #[.string rp, .bool rx] 31) (qx_alloc y (.cells #[.bool do', .bool de, .string di, .slice p' ld kk', .int .i64 dm] 25))))
              exact hrz.kept fun hs j hj => hk9 j (by have := RowSl.lt hrz hs j hj; simp at this; omega) (fun e => by have := hfo _ e; have := unhide HO' j hj; omega)
            · exact (qx_al (o := .cells #[.string rp, .bool rx] 31) (qx_al (o := .cells #[.string rp, .bool rx] 31) (qx_al (o := .cells #[.bool do', .bool de, .string di, .slice p' ld kk', .int .i64 dm] 25) (unhide HBy)))).trans (hb9.mono (by omega))
          have HNX := hide hnx
          have HN2 : Hid (runN (k + 1) (cn0 T) [] = (⟨do', de, di, ds, dm⟩, l ++ [⟨rp, rx⟩])) := hide (by simpa using unhide HN)
          clear t0 t1 t2 t3 t4 f0 f1 f2 f3 f4
          obtain ⟨t0, t1, t2, t3, t4⟩ := hoc.cells
          obtain ⟨f0, f1, f2, f3, f4⟩ := hoc.free
          obtain ⟨s0, s1, s2, s3, s4⟩ := hyc.cells
          dsimp only at t0 t1 t2 t3 t4 s0 s1 s2 s3 s4
          have nyo : y.heap.size ≠ w6.heap.size := by omega
          have nyo2 : w6.heap.size ≠ y.heap.size := by omega
          clear hoc hyc hnx hq9 hb9 hk9 HN hfo
          go_wp2
          go_roundw
          case rel => exact ⟨k + 1, by omega, by go_num, hide (by rw [unhide HN2]; exact unhide HNX)⟩
          case measure => simp [intOf]; omega
      · have he1 : (re == 0) = false := by simp [he]
        have he2 : decide (re = 0) = false := by simp [he]
        have hnx : PcR w W0 (fiveC y w6.heap.size ⟨do', de, di, ds, dm⟩ (.slice p' ld kk')) w6.heap.size (w8.heap.size + 1) ⟨do', de, di, ds, dm⟩ u15 l := by
          refine (unhide hpc).next hobase hb1w (unhide HQ y (Below.refl _ _)) ?_ ?_ ?_ ?_
          · exact fun k hk => unhide HKy k (by omega)
          · omega
          · exact unhide HR'
          · exact unhide HBy
        have HNX := hide ((hnx.later (qx_alloc _ (.cells #[.bool do', .bool de, .string di, .slice p' ld kk', .int .i64 dm] 25))).later (qx_alloc _ (.cells #[.string rp, .bool rx] 31)))
        have HN2 : Hid (runN (k + 1) (cn0 T) [] = (⟨do', de, di, ds, dm⟩, l)) := hide (by simpa [he] using unhide HN)
        clear hnx HN
        go_wp2
        go_roundw
        case rel => exact ⟨k + 1, by omega, by go_num, hide (by rw [unhide HN2]; exact unhide HNX)⟩
        case measure => simp [intOf]; omega
    · have hk3 : k = 3 := by omega
      have hPC3 := unhide hpc
      rw [hk3] at hPC3
      clear hk3 hk
      have hTw3 : CnB wr w7.heap.size CN.start (.slice none 0 0) := by
        unfold CnB
        rw [hPC3.kp _ (by omega) (by omega)]
        exact unhide HTw
      have hne : (runN 3 (cn0 T) []).2 ≠ [] := (unhide HP).e
      have hl6 : (runN 3 (cn0 T) []).2.length ≤ 6 := (unhide HP).f
      obtain ⟨a15, c15, h15, hx15⟩ := hPC3.req.slice
      subst h15
      clear hx15
      have HTw3 := hide hTw3
      have hlz := hPC3.sz
      obtain ⟨v3, hv3, hr3⟩ := hPC3.var
      have HV3 := hide hv3
      have HR3 := hide hr3
      have HQ3 := hide hPC3.req
      have HB3 := hide hPC3.bel
      have hright3 := unhide HRT 3
      have hlt9 : ¬ (k : Int) < 3 := by omega
      clear hpc hPC3 hTw3 hv3 hr3 HPC HTw HRT HLen
      obtain ⟨v3p, v3k, hv3s, hx3⟩ := (unhide HR3).slice
      subst hv3s
      clear hx3
      have HFin := hide (And.intro hne (And.intro hl6 hright3))
      clear hne hright3
      generalize hl1 : (runN 3 (cn0 T) []).2 = l1 at *
      generalize hC1 : (runN 3 (cn0 T) []).1 = C1 at *
      have HL1 := hide hl1
      have HC1 := hide hC1
      clear hl1 hC1
      generalize hn1 : l1.length = n1 at *
      generalize hm1 : C1.s.length = m1 at *
      have HN1 := hide hn1
      clear hn1 hm1
      have hX : ((0 : Int) ≤ (k9 : Int)) := by omega
      clear hlt
      go_wp2
      go_region
      go_wp2
      have HS := hide (st_facts (unhide HP) hT4)
      clear HP
      generalize T.extract 0 k9 = X at *
      generalize T.extract k9 T.size = Y at *
      obtain ⟨wz, hwz⟩ : ∃ wz : World, wz = wr := ⟨_, rfl⟩
      subst hwz
      obtain ⟨W1, hW1⟩ : ∃ W1 : World, W1 = ((wz.alloc (.cells #[] 31)).alloc (.cells #[.string X, .string Y] 9)).drew := ⟨_, rfl⟩
      have hbW : Below wz.heap.size wz W1 := by rw [hW1]; exact qx_drew (qx_al (qx_alloc _ _))
      have hPa : W1.heap[wz.heap.size + 1]? = some (.cells #[.string X, .string Y] 9 (0, 0)) := by
        rw [hW1]
        show ((wz.heap.push _).push _)[wz.heap.size + 1]? = _
        rw [Array.getElem?_push, if_pos (by simp)]
      have hPC2 : PcR w W1 W1 w7.heap.size wz.heap.size CN.start (.slice (some ⟨wz.heap.size, 0, none⟩) 0 0) [] := by
        refine ⟨⟨.slice none 0 0, (unhide HTw3).later hbW, .inl ⟨rfl, rfl⟩⟩, ?_, fun k hk hko => rfl, qx_trans (unhide HB3) hbW, hbW.size⟩
        rw [hW1]
        exact (RqB.lit0 wz wz.heap.size wz.heap.size rfl (Nat.le_refl _)).later (qx_drew (qx_alloc _ _))
      rw [← hW1]
      have HV1 := hide ((unhide HV3).later hbW)
      have HR1 := hide ((unhide HR3).later hbW)
      have HQ1 := hide ((unhide HQ3).later hbW)
      have HRz := hide (fun (hs : C1.s ≠ []) => RowSl.lt (unhide HR3) hs)
      have HRt := hide (fun (hs : C1.s ≠ []) => RowSl.apartC (unhide HTw3) ⟨_, _, _, rfl⟩ (unhide HR3) hs)
      have HQz := hide (fun j hj => ((unhide HQ3).own_lt j hj))
      have hz7z : w7.heap.size < wz.heap.size := by omega
      have hz6z : w6.heap.size < wz.heap.size := by omega
      have hb7w : w.heap.size ≤ w7.heap.size := by omega
      have HPa := hide hPa
      have HPC2 := hide hPC2
      clear hPa hPC2 hW1 hbW HV3 HR3 HQ3 HB3 HTw3 hX
      go_loopw [21, 23] (fun g x wx => ∃ p : Nat, p ≤ 2 ∧ x = .int .i64 p ∧ Hid (PcR w W1 wx w7.heap.size wz.heap.size (stP X Y p).1 g (stP X Y p).2) ∧ Hid (wx.heap[wz.heap.size + 1]? = some (.cells #[.string X, .string Y] 9 (0, 0)))) (fun _ x _ => 2 - (intOf x).toNat)
      case atStart => exact ⟨0, by omega, rfl, hide (unhide HPC2), hide (unhide HPa)⟩
      case round =>
        clear HPC2 HPa
        obtain ⟨pp, hp, rfl, hpc, hpa⟩ := hrel
        by_cases hlt2 : pp < 2
        · have hlt2' : (pp : Int) < 2 := by omega
          obtain ⟨v, hcn, hrow⟩ := (unhide hpc).var
          have hbel := hide (unhide hpc).bel
          have HT0 := hide (fun (W : World) (hb : Below wr.heap.size wr W) => ConnTake_gen (stP X Y pp).1 v (pcT X Y pp) W (hrow.later hb) ((unhide HS).right pp) ((unhide HS).small pp))
          have hcode := (unhide HS).code pp hlt2
          have hllen := (unhide HS).len pp hlt2
          have HEnd : Hid (stP X Y (pp + 1) = runN 3 (takeC (stP X Y pp).1 (pcT X Y pp)).1 (stP X Y pp).2) := hide rfl
          have HRD := hide (takeC_right (pcT X Y pp) ((unhide HS).right pp) ((unhide HS).small pp))
          have hpcell : wr.cell? ⟨wz.heap.size + 1, pp, none⟩ = some (.string (pcT X Y pp)) := by
            rw [cell_of_block (unhide hpa)]
            obtain rfl | rfl : pp = 0 ∨ pp = 1 := by omega
            · rfl
            · rfl
          have hplt : wz.heap.size + 1 < wr.heap.size := (Array.getElem?_eq_some_iff.1 (unhide hpa)).1
          generalize (stP X Y pp).2 = l0 at *
          generalize (stP X Y pp).1 = c0 at *
          generalize pcT X Y pp = PT at *
          have HCN := hide hcn
          have hoblt : w7.heap.size < wr.heap.size := hcn.lt
          obtain ⟨p, kk, hv, hx⟩ := hrow.slice
          subst hv
          clear hrow hx
          obtain ⟨t0, t1, t2, t3, t4⟩ := hcn.cells
          generalize hTK : takeC c0 PT = TK at *
          clear hTK
          obtain ⟨⟨Do, De, Di, Ds, Dm⟩, code⟩ := TK
          obtain ⟨co, ce, ci, cs, cm⟩ := c0
          dsimp only [cnV] at *
          generalize cs.length = lc at *
          clear hcn
          have HD0 := hide hpc
          go_wp2
          go_cut [24, 25] from 113 to 121 (fun s24 s25 wx => ∃ (bx : Nat) (v' : Value), s24 = .pointer (some ⟨bx, 0, none⟩) ∧ s25 = .int .i64 code ∧ wr.heap.size ≤ bx ∧ Hid (CnB wx bx ⟨Do, De, Di, Ds, Dm⟩ v') ∧ Hid (RowSl wx v' Ds) ∧ Hid (Below wr.heap.size wr wx))
          case first =>
            go_region_with (go_at_call 8; refine (unhide HT0 _ (by repeat (first | exact Below.refl _ _ | refine qx_al ?_ | refine qx_drew ?_))).mono ?_; rintro ex y ⟨v', rfl, hr', hb'⟩; obtain ⟨p', kk', hv', hx'⟩ := hr'.slice; subst hv'; clear hx'; dsimp only [cnV] at *; have HRR := hide hr'; have HBB := hide hb'; first | (obtain ⟨hnc, hnl⟩ := newC_cellsD wr.heap.size rfl hb'; obtain ⟨z0, z1, z2, z3, z4⟩ := hnc.cells; obtain ⟨y0, y1, y2, y3, y4⟩ := hnc.free; have HNC := hide hnc; clear hnc hr' hb'; dsimp only at z0 z1 z2 z3 z4) | (clear hr' hb'))
            all_goals (go_wp2; go_meet)
            all_goals first
              | exact piece_cutB (unhide HNC) (unhide HRR) (unhide HBB)
              | exact piece_cutA (unhide HRR) (unhide HBB)
          case rest =>
          obtain ⟨bx, v', rfl, rfl, hbx, hcx, hrx, hbw⟩ := hcut
          obtain ⟨p', kk', hv', hx'⟩ := (unhide hrx).slice
          subst hv'
          clear hx' t0 t1 t2 t3 t4 hpcell
          generalize hdl : Ds.length = ld at *
          have HDL := hide hdl
          clear hdl
          have HCNx := hide ((unhide HCN).later (unhide hbw))
          have HPAx := hide (((unhide hbw).block _ hplt).trans (unhide hpa))
          have hoby : w7.heap.size < wc.heap.size := (unhide HCNx).lt
          obtain ⟨t0, t1, t2, t3, t4⟩ := (unhide HCNx).cells
          obtain ⟨f0, f1, f2, f3, f4⟩ := (unhide HCNx).free
          obtain ⟨s0, s1, s2, s3, s4⟩ := (unhide hcx).cells
          have nxo : bx ≠ w7.heap.size := by omega
          have nxo2 : w7.heap.size ≠ bx := by omega
          have hszz := (unhide hpc).sz
          dsimp only at t0 t1 t2 t3 t4 s0 s1 s2 s3 s4
          rcases hcode with rfl | ⟨rfl, hcd⟩
          · have hd0 : PcR w W1 (fiveC wc w7.heap.size ⟨Do, De, Di, Ds, Dm⟩ (.slice p' ld kk')) w7.heap.size wz.heap.size ⟨Do, De, Di, Ds, Dm⟩ u21 l0 := by
              refine (unhide hpc).next hz7z hb7w ((unhide hpc).req.later (unhide hbw)) ?_ ?_ (unhide hrx) (qx_trans (unhide hbel) (unhide hbw))
              · exact fun k hk => (unhide hbw).block k (by omega)
              · exact Nat.le_trans hszz (unhide hbw).size
            have HD0' := hide hd0
            have HPA2 := hide ((fiveC_other wc w7.heap.size ⟨Do, De, Di, Ds, Dm⟩ (.slice p' ld kk') (wz.heap.size + 1) (by omega)).trans (unhide HPAx))
            obtain ⟨WX, hWX⟩ : ∃ WX : World, WX = fiveC wc w7.heap.size ⟨Do, De, Di, Ds, Dm⟩ (.slice p' ld kk') := ⟨_, rfl⟩
            rw [← hWX] at hd0
            have HPA3 := unhide HPA2
            rw [← hWX] at HPA3
            have HDX := hide hd0
            have HPAX := hide HPA3
            simp only [fiveC] at hWX
            clear hd0 HD0' HPA3 HPA2 hcx hrx hbw HCNx HPAx HCN HD0 hpc hpa HT0
            go_wp2
            rw [← hWX]
            clear hWX t0 t1 t2 t3 t4 s0 s1 s2 s3 s4 f0 f1 f2 f3 f4
            obtain ⟨wo, hwo⟩ : ∃ wo : World, wo = wr := ⟨_, rfl⟩
            subst hwo
            have HRT2 := hide (fun q => runN_right q ⟨Do, De, Di, Ds, Dm⟩ l0 (unhide HRD))
            have HLen2 : Hid (∀ k, k < 3 → (runN k ⟨Do, De, Di, Ds, Dm⟩ l0).2.length ≤ 20) := hide (fun k hk => by have := runN_len k ⟨Do, De, Di, Ds, Dm⟩ l0; omega)
            go_loopw [21, 26] (fun g x wx => ∃ k : Nat, k ≤ 3 ∧ x = .int .i64 k ∧ Hid (PcR w W1 wx w7.heap.size wz.heap.size (runN k ⟨Do, De, Di, Ds, Dm⟩ l0).1 g (runN k ⟨Do, De, Di, Ds, Dm⟩ l0).2) ∧ Hid (wx.heap[wz.heap.size + 1]? = some (.cells #[.string X, .string Y] 9 (0, 0)))) (fun _ x _ => 3 - (intOf x).toNat)
            case atStart => exact ⟨0, by omega, rfl, hide (unhide HDX), hide (unhide HPAX)⟩
            case round =>
              obtain ⟨k, hk, rfl, hpc, hpa⟩ := hrel
              clear HDX HPAX
              by_cases hlt : k < 3
              · have hlt' : (k : Int) < 3 := by omega
                obtain ⟨v, hcn, hrow⟩ := (unhide hpc).var
                have hright := unhide HRT2 k
                have hlen := unhide HLen2 k (by omega)
                have hpbl : wz.heap.size + 1 < wr.heap.size := (Array.getElem?_eq_some_iff.1 (unhide hpa)).1
                have hbel := hide (unhide hpc).bel
                have HN := hide (show runN (k + 1) ⟨Do, De, Di, Ds, Dm⟩ l0 = ((nextC (runN k ⟨Do, De, Di, Ds, Dm⟩ l0).1).c, if (nextC (runN k ⟨Do, De, Di, Ds, Dm⟩ l0).1).e = 0 then (runN k ⟨Do, De, Di, Ds, Dm⟩ l0).2 ++ [⟨(nextC (runN k ⟨Do, De, Di, Ds, Dm⟩ l0).1).p, (nextC (runN k ⟨Do, De, Di, Ds, Dm⟩ l0).1).x⟩] else (runN k ⟨Do, De, Di, Ds, Dm⟩ l0).2) from rfl)
                have HC := hide (ConnNext_gen (runN k ⟨Do, De, Di, Ds, Dm⟩ l0).1 v wr hrow hright ((unhide HM).later (unhide hbel)) ((unhide HK).later (unhide hbel)) ((unhide HT).later (unhide hbel) (Nat.le_refl _)))
                generalize (runN k ⟨Do, De, Di, Ds, Dm⟩ l0).1 = c at hpc hcn hrow hright HN HC
                generalize (runN k ⟨Do, De, Di, Ds, Dm⟩ l0).2 = l at hpc hlen HN
                generalize nextC c = r at HN HC
                have hszw := (unhide hpc).sz
                have hoblt : w7.heap.size < wr.heap.size := hcn.lt
                have HCN := hide hcn
                obtain ⟨p, kk, hv, _⟩ := hrow.slice
                subst hv
                clear hrow hright
                obtain ⟨t0, t1, t2, t3, t4⟩ := hcn.cells
                obtain ⟨co, ce, ci, cs, cm⟩ := c
                obtain ⟨⟨do', de, di, ds, dm⟩, rp, rx, rq, re⟩ := r
                dsimp only [cnV] at *
                generalize cs.length = lc at *
                clear hcn
                go_wp2_with fail
                refine (unhide HC).mono ?_
                rintro ex y ⟨v', rfl, hr', hb', hown'⟩
                have HQ := hide (fun (Z : World) (hb : Below y.heap.size y Z) => ((unhide hpc).req.later hb').later hb)
                have HBy := hide (qx_trans (unhide hbel) hb')
                have HCy := hide ((unhide HCN).later hb')
                have hyz : wr.heap.size ≤ y.heap.size := hb'.size
                have hoby : w7.heap.size < y.heap.size := by omega
                have HKy := hide (fun k (hk : k < wr.heap.size) => hb'.block k hk)
                have HR' := hide hr'
                have HO' := hide hown'
                obtain ⟨p', kk', hv', _⟩ := hr'.slice
                subst hv'
                clear t0 t1 t2 t3 t4 hb' hr' hown' HC HCN
                obtain ⟨t0, t1, t2, t3, t4⟩ := (unhide HCy).cells
                obtain ⟨f0, f1, f2, f3, f4⟩ := (unhide HCy).free
                dsimp only [cnV] at *
                generalize hdl : ds.length = ld at *
                have HDL := hide hdl
                clear hdl
                by_cases he : re = 0
                · subst he
                  have HNV := hide (CnB.new y ⟨do', de, di, ds, dm⟩ (.slice p' ld kk') y.heap.size rfl)
                  go_wp2_with (at_builtin; refine wp_appRqX _ rfl _ _ rfl wz.heap.size (y.heap.size + 2) _ l ⟨rp, rx⟩ rfl ?k1b rfl ?k2b ?k3b ?k4b ?k5b ?k6b)
                  case k1b => exact unhide HQ _ (qx_al (qx_al (qx_alloc y _)))
                  case k4b => omega
                  case k5b => omega
                  case k6b =>
                    intro f9 w9 hq9 hb9 hk9
                    have hfo : ∀ j, u21.ownBlock = some j → j < wr.heap.size := fun j hj => ((unhide hpc).req.own_lt j hj).2
                    have hyc : CnB w9 y.heap.size ⟨do', de, di, ds, dm⟩ (.slice p' ld kk') := by
                      unfold CnB
                      rw [hk9 y.heap.size (by first | (simp; done) | (simp; omega) | omega) (fun e => by have := hfo _ e; omega)]
                      exact pc_al (pc_al (unhide HNV) _) _
                    have hoc := ((((unhide HCy).later (qx_alloc _ (.cells #[.bool do', .bool de, .string di, .slice p' ld kk', .int .i64 dm] 25))).later (qx_alloc _ (.cells #[.string rp, .bool rx] 31))).later (qx_alloc _ (.cells #[.string rp, .bool rx] 31))).below hb9 hz7z
                    have hnx : PcR w W1 (fiveC w9 w7.heap.size ⟨do', de, di, ds, dm⟩ (.slice p' ld kk')) w7.heap.size wz.heap.size ⟨do', de, di, ds, dm⟩ f9 (l ++ [⟨rp, rx⟩]) := by
                      refine (unhide hpc).next hz7z hb7w hq9 ?_ ?_ ?_ ?_
                      · intro k hk
                        rw [hb9.block k hk]
                        exact ((qx_al (o := .cells #[.string rp, .bool rx] 31) (qx_al (o := .cells #[.string rp, .bool rx] 31) (qx_alloc y (.cells #[.bool do', .bool de, .string di, .slice p' ld kk', .int .i64 dm] 25)))).block k (by omega)).trans (unhide HKy k (by omega))
                      · have := hb9.size
                        simp at this
                        omega
                      · have hrz := (unhide HR').later (qx_al (o := .cells #[.string rp, .bool rx] 31) (qx_al (o := .cells #[.string rp, .bool rx] 31) (qx_alloc y (.cells #[.bool do', .bool de, .string di, .slice p' ld kk', .int .i64 dm] 25))))
                        exact hrz.kept fun hs j hj => hk9 j (by have := RowSl.lt hrz hs j hj; simp at this; omega) (fun e => by have := hfo _ e; have := unhide HO' j hj; omega)
                      · exact (qx_al (o := .cells #[.string rp, .bool rx] 31) (qx_al (o := .cells #[.string rp, .bool rx] 31) (qx_al (o := .cells #[.bool do', .bool de, .string di, .slice p' ld kk', .int .i64 dm] 25) (unhide HBy)))).trans (hb9.mono (by omega))
                    have HPX : Hid ((fiveC w9 w7.heap.size ⟨do', de, di, ds, dm⟩ (.slice p' ld kk')).heap[wz.heap.size + 1]? = some (.cells #[.string X, .string Y] 9 (0, 0))) := hide ((fiveC_other w9 w7.heap.size ⟨do', de, di, ds, dm⟩ (.slice p' ld kk') (wz.heap.size + 1) (by omega)).trans ((hk9 (wz.heap.size + 1) (by first | (simp; done) | (simp; omega) | omega) ((unhide hpc).req.notParts (unhide hpa))).trans (pc_al (pc_al (pc_al ((unhide HKy _ hpbl).trans (unhide hpa)) _) _) _)))
                    have HNX := hide hnx
                    have HN2 : Hid (runN (k + 1) ⟨Do, De, Di, Ds, Dm⟩ l0 = (⟨do', de, di, ds, dm⟩, l ++ [⟨rp, rx⟩])) := hide (by simpa using unhide HN)
                    clear t0 t1 t2 t3 t4 f0 f1 f2 f3 f4
                    obtain ⟨t0, t1, t2, t3, t4⟩ := hoc.cells
                    obtain ⟨f0, f1, f2, f3, f4⟩ := hoc.free
                    obtain ⟨s0, s1, s2, s3, s4⟩ := hyc.cells
                    dsimp only at t0 t1 t2 t3 t4 s0 s1 s2 s3 s4
                    have nyo : y.heap.size ≠ w7.heap.size := by omega
                    have nyo2 : w7.heap.size ≠ y.heap.size := by omega
                    clear hoc hyc hnx hq9 hb9 hk9 HN hfo
                    go_wp2
                    go_roundw
                    case rel => exact ⟨k + 1, by omega, by go_num, hide (by rw [unhide HN2]; exact unhide HNX), hide (unhide HPX)⟩
                    case measure => simp [intOf]; omega
                · have he1 : (re == 0) = false := by simp [he]
                  have he2 : decide (re = 0) = false := by simp [he]
                  have hnx : PcR w W1 (fiveC y w7.heap.size ⟨do', de, di, ds, dm⟩ (.slice p' ld kk')) w7.heap.size wz.heap.size ⟨do', de, di, ds, dm⟩ u21 l := by
                    refine (unhide hpc).next hz7z hb7w (unhide HQ y (Below.refl _ _)) ?_ ?_ ?_ ?_
                    · exact fun k hk => unhide HKy k (by omega)
                    · omega
                    · exact unhide HR'
                    · exact unhide HBy
                  have HPX := hide (pc_al (pc_al ((fiveC_other y w7.heap.size ⟨do', de, di, ds, dm⟩ (.slice p' ld kk') (wz.heap.size + 1) (by omega)).trans ((unhide HKy _ hpbl).trans (unhide hpa))) (.cells #[.bool do', .bool de, .string di, .slice p' ld kk', .int .i64 dm] 25)) (.cells #[.string rp, .bool rx] 31))
                  have HNX := hide ((hnx.later (qx_alloc _ (.cells #[.bool do', .bool de, .string di, .slice p' ld kk', .int .i64 dm] 25))).later (qx_alloc _ (.cells #[.string rp, .bool rx] 31)))
                  have HN2 : Hid (runN (k + 1) ⟨Do, De, Di, Ds, Dm⟩ l0 = (⟨do', de, di, ds, dm⟩, l)) := hide (by simpa [he] using unhide HN)
                  clear hnx HN
                  go_wp2
                  go_roundw
                  case rel => exact ⟨k + 1, by omega, by go_num, hide (by rw [unhide HN2]; exact unhide HNX), hide (unhide HPX)⟩
                  case measure => simp [intOf]; omega
              · have hk3 : k = 3 := by omega
                have hpc3 := unhide hpc
                rw [hk3] at hpc3
                have hlt9 : ¬ (k : Int) < 3 := by omega
                have HPC3 := hide hpc3
                clear hk3 hk hpc hpc3
                go_wp2
                go_roundw
                case rel => exact ⟨pp + 1, by omega, by go_num, hide (by rw [unhide HEnd]; exact unhide HPC3), hide (unhide hpa)⟩
                case measure => simp [intOf]; omega
          · have HDX : Hid (PcR w W1 wc w7.heap.size wz.heap.size ⟨Do, De, Di, Ds, Dm⟩ u21 l0) := hide (by
              rw [show (⟨Do, De, Di, Ds, Dm⟩ : CN) = ⟨co, ce, ci, cs, cm⟩ from hcd]
              exact (unhide hpc).later (unhide hbw))
            have HPAX := HPAx
            clear hcx hrx hbw HCNx HPAx HCN HD0 hpc hpa HT0 hcd
            go_wp2
            clear t0 t1 t2 t3 t4 s0 s1 s2 s3 s4 f0 f1 f2 f3 f4
            obtain ⟨wo, hwo⟩ : ∃ wo : World, wo = wr := ⟨_, rfl⟩
            subst hwo
            have HRT2 := hide (fun q => runN_right q ⟨Do, De, Di, Ds, Dm⟩ l0 (unhide HRD))
            have HLen2 : Hid (∀ k, k < 3 → (runN k ⟨Do, De, Di, Ds, Dm⟩ l0).2.length ≤ 20) := hide (fun k hk => by have := runN_len k ⟨Do, De, Di, Ds, Dm⟩ l0; omega)
            go_loopw [21, 26] (fun g x wx => ∃ k : Nat, k ≤ 3 ∧ x = .int .i64 k ∧ Hid (PcR w W1 wx w7.heap.size wz.heap.size (runN k ⟨Do, De, Di, Ds, Dm⟩ l0).1 g (runN k ⟨Do, De, Di, Ds, Dm⟩ l0).2) ∧ Hid (wx.heap[wz.heap.size + 1]? = some (.cells #[.string X, .string Y] 9 (0, 0)))) (fun _ x _ => 3 - (intOf x).toNat)
            case atStart => exact ⟨0, by omega, rfl, hide (unhide HDX), hide (unhide HPAX)⟩
            case round =>
              obtain ⟨k, hk, rfl, hpc, hpa⟩ := hrel
              clear HDX HPAX
              by_cases hlt : k < 3
              · have hlt' : (k : Int) < 3 := by omega
                obtain ⟨v, hcn, hrow⟩ := (unhide hpc).var
                have hright := unhide HRT2 k
                have hlen := unhide HLen2 k (by omega)
                have hpbl : wz.heap.size + 1 < wr.heap.size := (Array.getElem?_eq_some_iff.1 (unhide hpa)).1
                have hbel := hide (unhide hpc).bel
                have HN := hide (show runN (k + 1) ⟨Do, De, Di, Ds, Dm⟩ l0 = ((nextC (runN k ⟨Do, De, Di, Ds, Dm⟩ l0).1).c, if (nextC (runN k ⟨Do, De, Di, Ds, Dm⟩ l0).1).e = 0 then (runN k ⟨Do, De, Di, Ds, Dm⟩ l0).2 ++ [⟨(nextC (runN k ⟨Do, De, Di, Ds, Dm⟩ l0).1).p, (nextC (runN k ⟨Do, De, Di, Ds, Dm⟩ l0).1).x⟩] else (runN k ⟨Do, De, Di, Ds, Dm⟩ l0).2) from rfl)
                have HC := hide (ConnNext_gen (runN k ⟨Do, De, Di, Ds, Dm⟩ l0).1 v wr hrow hright ((unhide HM).later (unhide hbel)) ((unhide HK).later (unhide hbel)) ((unhide HT).later (unhide hbel) (Nat.le_refl _)))
                generalize (runN k ⟨Do, De, Di, Ds, Dm⟩ l0).1 = c at hpc hcn hrow hright HN HC
                generalize (runN k ⟨Do, De, Di, Ds, Dm⟩ l0).2 = l at hpc hlen HN
                generalize nextC c = r at HN HC
                have hszw := (unhide hpc).sz
                have hoblt : w7.heap.size < wr.heap.size := hcn.lt
                have HCN := hide hcn
                obtain ⟨p, kk, hv, _⟩ := hrow.slice
                subst hv
                clear hrow hright
                obtain ⟨t0, t1, t2, t3, t4⟩ := hcn.cells
                obtain ⟨co, ce, ci, cs, cm⟩ := c
                obtain ⟨⟨do', de, di, ds, dm⟩, rp, rx, rq, re⟩ := r
                dsimp only [cnV] at *
                generalize cs.length = lc at *
                clear hcn
                go_wp2_with fail
                refine (unhide HC).mono ?_
                rintro ex y ⟨v', rfl, hr', hb', hown'⟩
                have HQ := hide (fun (Z : World) (hb : Below y.heap.size y Z) => ((unhide hpc).req.later hb').later hb)
                have HBy := hide (qx_trans (unhide hbel) hb')
                have HCy := hide ((unhide HCN).later hb')
                have hyz : wr.heap.size ≤ y.heap.size := hb'.size
                have hoby : w7.heap.size < y.heap.size := by omega
                have HKy := hide (fun k (hk : k < wr.heap.size) => hb'.block k hk)
                have HR' := hide hr'
                have HO' := hide hown'
                obtain ⟨p', kk', hv', _⟩ := hr'.slice
                subst hv'
                clear t0 t1 t2 t3 t4 hb' hr' hown' HC HCN
                obtain ⟨t0, t1, t2, t3, t4⟩ := (unhide HCy).cells
                obtain ⟨f0, f1, f2, f3, f4⟩ := (unhide HCy).free
                dsimp only [cnV] at *
                generalize hdl : ds.length = ld at *
                have HDL := hide hdl
                clear hdl
                by_cases he : re = 0
                · subst he
                  have HNV := hide (CnB.new y ⟨do', de, di, ds, dm⟩ (.slice p' ld kk') y.heap.size rfl)
                  go_wp2_with (at_builtin; refine wp_appRqX _ rfl _ _ rfl wz.heap.size (y.heap.size + 2) _ l ⟨rp, rx⟩ rfl ?k1c rfl ?k2c ?k3c ?k4c ?k5c ?k6c)
                  case k1c => exact unhide HQ _ (qx_al (qx_al (qx_alloc y _)))
                  case k4c => omega
                  case k5c => omega
                  case k6c =>
                    intro f9 w9 hq9 hb9 hk9
                    have hfo : ∀ j, u21.ownBlock = some j → j < wr.heap.size := fun j hj => ((unhide hpc).req.own_lt j hj).2
                    have hyc : CnB w9 y.heap.size ⟨do', de, di, ds, dm⟩ (.slice p' ld kk') := by
                      unfold CnB
                      rw [hk9 y.heap.size (by first | (simp; done) | (simp; omega) | omega) (fun e => by have := hfo _ e; omega)]
                      exact pc_al (pc_al (unhide HNV) _) _
                    have hoc := ((((unhide HCy).later (qx_alloc _ (.cells #[.bool do', .bool de, .string di, .slice p' ld kk', .int .i64 dm] 25))).later (qx_alloc _ (.cells #[.string rp, .bool rx] 31))).later (qx_alloc _ (.cells #[.string rp, .bool rx] 31))).below hb9 hz7z
                    have hnx : PcR w W1 (fiveC w9 w7.heap.size ⟨do', de, di, ds, dm⟩ (.slice p' ld kk')) w7.heap.size wz.heap.size ⟨do', de, di, ds, dm⟩ f9 (l ++ [⟨rp, rx⟩]) := by
                      refine (unhide hpc).next hz7z hb7w hq9 ?_ ?_ ?_ ?_
                      · intro k hk
                        rw [hb9.block k hk]
                        exact ((qx_al (o := .cells #[.string rp, .bool rx] 31) (qx_al (o := .cells #[.string rp, .bool rx] 31) (qx_alloc y (.cells #[.bool do', .bool de, .string di, .slice p' ld kk', .int .i64 dm] 25)))).block k (by omega)).trans (unhide HKy k (by omega))
                      · have := hb9.size
                        simp at this
                        omega
                      · have hrz := (unhide HR').later (qx_al (o := .cells #[.string rp, .bool rx] 31) (qx_al (o := .cells #[.string rp, .bool rx] 31) (qx_alloc y (.cells #[.bool do', .bool de, .string di, .slice p' ld kk', .int .i64 dm] 25))))
                        exact hrz.kept fun hs j hj => hk9 j (by have := RowSl.lt hrz hs j hj; simp at this; omega) (fun e => by have := hfo _ e; have := unhide HO' j hj; omega)
                      · exact (qx_al (o := .cells #[.string rp, .bool rx] 31) (qx_al (o := .cells #[.string rp, .bool rx] 31) (qx_al (o := .cells #[.bool do', .bool de, .string di, .slice p' ld kk', .int .i64 dm] 25) (unhide HBy)))).trans (hb9.mono (by omega))
                    have HPX : Hid ((fiveC w9 w7.heap.size ⟨do', de, di, ds, dm⟩ (.slice p' ld kk')).heap[wz.heap.size + 1]? = some (.cells #[.string X, .string Y] 9 (0, 0))) := hide ((fiveC_other w9 w7.heap.size ⟨do', de, di, ds, dm⟩ (.slice p' ld kk') (wz.heap.size + 1) (by omega)).trans ((hk9 (wz.heap.size + 1) (by first | (simp; done) | (simp; omega) | omega) ((unhide hpc).req.notParts (unhide hpa))).trans (pc_al (pc_al (pc_al ((unhide HKy _ hpbl).trans (unhide hpa)) _) _) _)))
                    have HNX := hide hnx
                    have HN2 : Hid (runN (k + 1) ⟨Do, De, Di, Ds, Dm⟩ l0 = (⟨do', de, di, ds, dm⟩, l ++ [⟨rp, rx⟩])) := hide (by simpa using unhide HN)
                    clear t0 t1 t2 t3 t4 f0 f1 f2 f3 f4
                    obtain ⟨t0, t1, t2, t3, t4⟩ := hoc.cells
                    obtain ⟨f0, f1, f2, f3, f4⟩ := hoc.free
                    obtain ⟨s0, s1, s2, s3, s4⟩ := hyc.cells
                    dsimp only at t0 t1 t2 t3 t4 s0 s1 s2 s3 s4
                    have nyo : y.heap.size ≠ w7.heap.size := by omega
                    have nyo2 : w7.heap.size ≠ y.heap.size := by omega
                    clear hoc hyc hnx hq9 hb9 hk9 HN hfo
                    go_wp2
                    go_roundw
                    case rel => exact ⟨k + 1, by omega, by go_num, hide (by rw [unhide HN2]; exact unhide HNX), hide (unhide HPX)⟩
                    case measure => simp [intOf]; omega
                · have he1 : (re == 0) = false := by simp [he]
                  have he2 : decide (re = 0) = false := by simp [he]
                  have hnx : PcR w W1 (fiveC y w7.heap.size ⟨do', de, di, ds, dm⟩ (.slice p' ld kk')) w7.heap.size wz.heap.size ⟨do', de, di, ds, dm⟩ u21 l := by
                    refine (unhide hpc).next hz7z hb7w (unhide HQ y (Below.refl _ _)) ?_ ?_ ?_ ?_
                    · exact fun k hk => unhide HKy k (by omega)
                    · omega
                    · exact unhide HR'
                    · exact unhide HBy
                  have HPX := hide (pc_al (pc_al ((fiveC_other y w7.heap.size ⟨do', de, di, ds, dm⟩ (.slice p' ld kk') (wz.heap.size + 1) (by omega)).trans ((unhide HKy _ hpbl).trans (unhide hpa))) (.cells #[.bool do', .bool de, .string di, .slice p' ld kk', .int .i64 dm] 25)) (.cells #[.string rp, .bool rx] 31))
                  have HNX := hide ((hnx.later (qx_alloc _ (.cells #[.bool do', .bool de, .string di, .slice p' ld kk', .int .i64 dm] 25))).later (qx_alloc _ (.cells #[.string rp, .bool rx] 31)))
                  have HN2 : Hid (runN (k + 1) ⟨Do, De, Di, Ds, Dm⟩ l0 = (⟨do', de, di, ds, dm⟩, l)) := hide (by simpa [he] using unhide HN)
                  clear hnx HN
                  go_wp2
                  go_roundw
                  case rel => exact ⟨k + 1, by omega, by go_num, hide (by rw [unhide HN2]; exact unhide HNX), hide (unhide HPX)⟩
                  case measure => simp [intOf]; omega
              · have hk3 : k = 3 := by omega
                have hpc3 := unhide hpc
                rw [hk3] at hpc3
                have hlt9 : ¬ (k : Int) < 3 := by omega
                have HPC3 := hide hpc3
                clear hk3 hk hpc hpc3
                go_wp2
                go_roundw
                case rel => exact ⟨pp + 1, by omega, by go_num, hide (by rw [unhide HEnd]; exact unhide HPC3), hide (unhide hpa)⟩
                case measure => simp [intOf]; omega
        · have hp2 : pp = 2 := by omega
          have hpc2 := unhide hpc
          rw [hp2, (unhide HS).fin] at hpc2
          have hlt8 : ¬ (pp : Int) < 2 := by omega
          have hC : (runN 3 (cn0 T) []).1 = C1 := unhide HC1
          have hL : (runN 3 (cn0 T) []).2 = l1 := unhide HL1
          rw [hC, hL] at hpc2
          obtain ⟨v, hcn, hrow⟩ := hpc2.var
          have hq2 := hpc2.req
          obtain ⟨a21, c21, h21, hx21⟩ := hq2.slice
          subst h21
          have hone : CnB wr w6.heap.size C1 (.slice v3p m1 v3k) := by
            unfold CnB
            rw [hpc2.kp _ hz6z (by omega)]
            exact unhide HV1
          have hrone : RowSl wr (.slice v3p m1 v3k) C1.s := (unhide HR1).kept fun hs j hj => hpc2.kp j (unhide HRz hs j hj) (unhide HRt hs j hj)
          have hqone : RqB wr (w8.heap.size + 1) (.slice a15 n1 c15) l1 := (unhide HQ1).kept fun j hj => hpc2.kp j (unhide HQz j hj).2 (by have := (unhide HQz j hj).1; omega)
          obtain ⟨hne, hl6, hright⟩ := unhide HFin
          have hn1 : l1.length = n1 := unhide HN1
          have hbel := hide hpc2.bel
          have HTwo := hide hcn
          have HRTwo := hide hrow
          have HOne := hide hone
          have HROne := hide hrone
          obtain ⟨b15, e15, hb15, hx15⟩ := hqone.slice
          injection hb15 with hb1 hb2 hb3
          subst hb1 hb3
          have HXY := hide (fun k hk => two_reqs hn1 hx15 hx21 k hk)
          have hn0 : n1 ≠ 0 := fun e => hne (List.length_eq_zero_iff.1 (hn1.trans e))
          have hn0i : ¬ (n1 : Int) = 0 := by omega
          have hn0b : ((n1 : Int) == 0) = false := by simp; omega
          have hn6 : n1 ≤ 6 := by omega
          rw [hn1] at *
          obtain ⟨q, kq, hvq, hxq⟩ := hrow.slice
          subst hvq
          clear hxq
          have HSC := hide (fun W hv hu => sameConn_same C1 (.slice v3p m1 v3k) (.slice q C1.s.length kq) W hv hu (by have := (connB_few hright).2.2.2; omega))
          generalize C1.s.length = mq at *
          dsimp only [cnV] at HSC
          obtain ⟨wo, hwo⟩ : ∃ wo : World, wo = wr := ⟨_, rfl⟩
          subst hwo
          clear hpc hpa hpc2 hC hL hcn hrow hone hrone hqone hx15 hx21 HV1 HR1 HQ1 HRz HRt HQz HFin hne hl6 hright HS HC1 HL1 HN1 hp hp2 hlt2
          go_wp2
          go_loopw [31] (fun x wx => ∃ k : Nat, k ≤ n1 ∧ x = .int .i64 k ∧ Hid (Below wo.heap.size wo wx)) (fun x _ => n1 - (intOf x).toNat)
          case atStart => exact ⟨0, by omega, rfl, hide (Below.refl _ _)⟩
          case round =>
            obtain ⟨kk, hkk, rfl, hnx⟩ := hrel
            by_cases hlt5 : kk < n1
            · obtain ⟨pq, xq, g1, g2, e1, e2, c1a, c1b, c2a, c2b⟩ := unhide HXY kk hlt5
              have hlt5' : (kk : Int) < (n1 : Int) := by omega
              have d1 := cell_later (unhide hnx) c1a
              have d2 := cell_later (unhide hnx) c1b
              have d3 := cell_later (unhide hnx) c2a
              have d4 := cell_later (unhide hnx) c2b
              clear c1a c1b c2a c2b HXY
              subst e1 e2
              have b3 := (bool_nself xq).1
              have b4 := (bool_nself xq).2
              have q3 := qa_nself pq
              have q4 := ql_nself pq
              have q5 := qa_self pq
              have q6 := ql_self pq
              go_wp2
              go_quiet (fail)
              go_wp2
              go_roundw
              case rel => exact ⟨kk + 1, by omega, by go_num, hide (below_drewN (unhide hnx) _)⟩
              case measure => simp [intOf]; omega
            · have hlt5' : ¬ (kk : Int) < (n1 : Int) := by omega
              obtain ⟨t0, t1, t2, t3, t4⟩ := ((unhide HOne).later (unhide hnx)).cells
              obtain ⟨s0, s1, s2, s3, s4⟩ := ((unhide HTwo).later (unhide hnx)).cells
              go_wp2_with fail
              refine (unhide HSC _ ((unhide HROne).later (unhide hnx)) ((unhide HRTwo).later (unhide hnx))).mono ?_
              rintro ex y ⟨rfl, hby⟩
              go_wp2
              go_ret
              exact ⟨rfl, qx_trans (qx_trans (unhide hbel) (unhide hnx)) hby⟩

set_option maxHeartbeats 2000000 in
set_option maxRecDepth 100000 in
theorem lawPieces_any (a0 : Option Addr) (len0 cap0 : Nat) (z0 : List Int) (a1 : Option Addr) (len1 cap1 : Nat) (z1 : List Int) (w : World) (h0 : IsRow .u8 w a0 len0 cap0 z0) (h1 : IsRow .u8 w a1 len1 cap1 z1) (hT : PowTabW w ∧ TabK w) (hm : MaxL w) :
    Calls Tryz.prog 4 #[.slice a0 len0 cap0, .slice a1 len1 cap1] w fun e w' => e = .returned (.bool true) ∧ Below w.heap.size w w' := by
  by_cases hl0 : len0 ≤ 1048576
  · by_cases hl1 : len1 ≤ 1048576
    · exact pieces_walk a0 a1 len0 cap0 len1 cap1 z0 z1 w h0 h1 hl0 hl1 hT.1 hT.2 hm
    · have q0 : ¬ (1048576 : Int) < (len0 : Int) := by omega
      have q1 : (1048576 : Int) < (len1 : Int) := by omega
      clear h0 h1 hT hm hl0 hl1
      go_enter Tryz.func4, Tryz.ntmps4
      go_wp2
      go_ret
      exact ⟨rfl, Below.refl _ _⟩
  · have q0 : (1048576 : Int) < (len0 : Int) := by omega
    clear h0 h1 hT hm hl0
    go_enter Tryz.func4, Tryz.ntmps4
    go_wp2
    go_ret
    exact ⟨rfl, Below.refl _ _⟩

end Go.Proofs.YthfoabcmgiiadaaGreatDoor
