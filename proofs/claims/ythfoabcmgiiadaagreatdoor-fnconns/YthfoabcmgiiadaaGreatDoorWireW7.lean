/- The code's reading of a request. -/
import Derived.Test.YthfoabcmgiiadaaGreatDoorWireW6
import Derived.Deep.RegionHeld3
namespace Go.Proofs.YthfoabcmgiiadaaGreatDoor
open Go.RowKit Go.Shelf Go.Joins
set_option linter.unusedVariables false

set_option maxHeartbeats 2000000 in
theorem readFirstLine_any (l : ByteArray) (w : World) (hl : l.size ≤ 1000) (hm : MaxL w) :
    Calls Tryz.prog 82 #[.string l] w fun e w' => e = .returned (.tuple #[.string (if fstC l = 0 then fstP l else ⟨#[]⟩), .int .i64 (fstC l)]) ∧ Below w.heap.size w w' := by
  have HM := hide hm
  clear hm
  have hc : ∀ s sep : ByteArray, 1 ≤ sep.size → (cutA s sep).size ≤ s.size ∧ (cutB s sep).size ≤ s.size := fun s sep h1 => by
    rcases Lib.indexB_cases s sep with h | ⟨k, h, hr⟩
    · obtain ⟨e1, e2, _⟩ := cut_miss h
      rw [e1, e2]
      exact ⟨Nat.le_refl _, Nat.zero_le _⟩
    · obtain ⟨e1, e2, _⟩ := cut_hit h
      rw [e1, e2, ByteArray.size_extract, ByteArray.size_extract]
      omega
  have z1 := (hc l blankS (by decide)).2
  have z2 := (hc (cutB l blankS) blankS (by decide)).1
  have H1 := hide fun w => strCut_any l blankS w (by omega)
  have H2 := hide fun w => strCut_any (cutB l blankS) blankS w (by omega)
  have HP := hide fun w => pathOK_any (fstP l) w (by unfold maxLen fstP; omega)
  have C1 := hide (fstC_other (l := l))
  have C2 := hide (fstC_path (l := l))
  have C3 := hide (fstC_get (l := l))
  have C4 := hide (fstC_ok (l := l))
  have e1 : cutA (cutB l blankS) blankS = fstP l := rfl
  have e2 : cutB (cutB l blankS) blankS = fstV l := rfl
  have e3 : cutA l blankS = fstM l := rfl
  rw [e1, e2] at H2
  rw [e3] at H1
  clear z1 z2 e1 e2 e3 hc
  generalize fstP l = P at H2 HP C2 C3 C4
  generalize fstV l = V at H2 C1 C3 C4
  generalize fstM l = M at H1 C3 C4
  generalize cutB l blankS = B at H1 H2
  generalize cutF l blankS = F1 at H1
  generalize cutF B blankS = F2 at H2
  generalize fstC l = C at C1 C2 C3 C4
  cases hp : wpathB P
  · have hC := unhide C2 hp
    subst hC
    rw [hp] at HP
    clear C1 C2 C3 C4 hp
    rw [if_neg (by decide)]
    go_enter Tryz.func82, Tryz.ntmps82
    go_wp2_with fail
    refine (unhide H1 _ (unhide HM)).mono ?_
    rintro e w1 ⟨rfl, hb1⟩
    have hm1 := hide ((unhide HM).later hb1)
    go_wp2_with fail
    refine (unhide H2 _ (unhide hm1)).mono ?_
    rintro e w2 ⟨rfl, hb2⟩
    go_wp2_with fail
    refine (unhide HP _).mono ?_
    rintro e w2 ⟨rfl, rfl⟩
    go_wp2
    go_ret2
    exact ⟨rfl, qx_trans hb1 hb2⟩
  · rw [hp] at HP
    by_cases hv : V = httpS
    · obtain ⟨n1, n2, n3⟩ := req_text (N := V) (L := [72, 84, 84, 80, 47, 49, 46, 49]) hv
      by_cases hg : M = getS
      · have hC := unhide C4 hp hv hg
        obtain ⟨g1, g2, g3⟩ := req_text (N := M) (L := [71, 69, 84]) hg
        subst hC
        clear C1 C2 C3 C4 hp hv hg
        rw [if_pos rfl]
        go_enter Tryz.func82, Tryz.ntmps82
        go_wp2_with fail
        refine (unhide H1 _ (unhide HM)).mono ?_
        rintro e w1 ⟨rfl, hb1⟩
        have hm1 := hide ((unhide HM).later hb1)
        go_wp2_with fail
        refine (unhide H2 _ (unhide hm1)).mono ?_
        rintro e w2 ⟨rfl, hb2⟩
        go_wp2_with fail
        refine (unhide HP _).mono ?_
        rintro e w2 ⟨rfl, rfl⟩
        go_wp2
        go_ret2
        exact ⟨rfl, qx_trans hb1 hb2⟩
      · have hC := unhide C3 hp hv hg
        obtain ⟨g1, g2, g3, _, _⟩ := txt_no (N := M) (L := [71, 69, 84]) hg
        subst hC
        clear C1 C2 C3 C4 hp hv hg
        rw [if_neg (by decide)]
        go_enter Tryz.func82, Tryz.ntmps82
        go_wp2_with fail
        refine (unhide H1 _ (unhide HM)).mono ?_
        rintro e w1 ⟨rfl, hb1⟩
        have hm1 := hide ((unhide HM).later hb1)
        go_wp2_with fail
        refine (unhide H2 _ (unhide hm1)).mono ?_
        rintro e w2 ⟨rfl, hb2⟩
        go_wp2_with fail
        refine (unhide HP _).mono ?_
        rintro e w2 ⟨rfl, rfl⟩
        go_wp2
        go_ret2
        exact ⟨rfl, qx_trans hb1 hb2⟩
    · have hC := unhide C1 hv
      obtain ⟨n1, n2, n3, _, _⟩ := txt_no (N := V) (L := [72, 84, 84, 80, 47, 49, 46, 49]) hv
      subst hC
      clear C1 C2 C3 C4 hp hv
      rw [if_neg (by decide)]
      go_enter Tryz.func82, Tryz.ntmps82
      go_wp2_with fail
      refine (unhide H1 _ (unhide HM)).mono ?_
      rintro e w1 ⟨rfl, hb1⟩
      have hm1 := hide ((unhide HM).later hb1)
      go_wp2_with fail
      refine (unhide H2 _ (unhide hm1)).mono ?_
      rintro e w2 ⟨rfl, hb2⟩
      go_wp2_with fail
      refine (unhide HP _).mono ?_
      rintro e w2 ⟨rfl, rfl⟩
      go_wp2
      go_ret2
      exact ⟨rfl, qx_trans hb1 hb2⟩

/-- names and values in a row of one's own -/
structure HV where
  n : ByteArray
  v : ByteArray
def hvOf (l : ByteArray) : HV := ⟨hName l, hVal l⟩
def hvCells (hs : List HV) : List Value := hs.flatMap fun h => [.string h.n, .string h.v]
theorem hvCells_len (hs : List HV) : (hvCells hs).length = hs.length * 2 := by
  induction hs with
  | nil => rfl
  | cons a t ih => simp [hvCells] at ih ⊢; omega
set_option maxRecDepth 100000 in
theorem infoH : (Tryz.prog.info? 124).map (fun i => (i.zero, i.size, i.bytes)) = some (some (.agg #[.string ⟨#[]⟩, .string ⟨#[]⟩]), 2, 32) := by kernel_rfl
def Hds (w : World) (base : Nat) (v : Value) (hs : List HV) : Prop := w.ownsRow base 124 2 v hs.length (hvCells hs)
theorem Hds.nil (w : World) (base : Nat) : Hds w base (.slice none 0 0) [] := World.ownsRow_nil _ _ _ _
theorem Hds.alloc {w : World} {base : Nat} {v : Value} {hs : List HV} (h : Hds w base v hs) (o : Obj) : Hds (w.alloc o) base v hs := World.ownsRow.alloc h o
theorem Hds.own_lt {w : World} {base : Nat} {v : Value} {hs : List HV} (h : Hds w base v hs) : ∀ j, v.ownBlock = some j → base ≤ j ∧ j < w.heap.size := fun j hj => World.ownsRow.lt h j hj
theorem Hds.later {w w' : World} {base : Nat} {v : Value} {hs : List HV} (h : Hds w base v hs) (hb : Below w.heap.size w w') : Hds w' base v hs := by
  have hl := h.own_lt
  refine ⟨h.1, ?_⟩
  rcases h.2 with h | ⟨g, cap, cur, e, hg, hgg, r⟩
  · exact .inl h
  · refine .inr ⟨g, cap, cur, e, hg, ?_, r⟩
    rw [hb.block g (hl g (by rw [e]; rfl)).2]; exact hgg
theorem Hds.drew {w : World} {base : Nat} {v : Value} {hs : List HV} (h : Hds w base v hs) : Hds w.drew base v hs := h.later (qx_drew (Below.refl _ _))
theorem hvCells_get (hs : List HV) (i : Nat) (hi : i < hs.length) : (hvCells hs)[i * 2]? = some (.string hs[i].n) ∧ (hvCells hs)[i * 2 + 1]? = some (.string hs[i].v) := by
  induction hs generalizing i with
  | nil => simp at hi
  | cons a t ih =>
    cases i with
    | zero => simp [hvCells]
    | succ i =>
      have := ih i (by simpa using hi)
      have e : hvCells (a :: t) = .string a.n :: .string a.v :: hvCells t := rfl
      rw [e, show (i + 1) * 2 = i * 2 + 1 + 1 by omega]
      simpa using this
theorem Hds.slice {w : World} {base : Nat} {v : Value} {hs : List HV} (h : Hds w base v hs) : ∃ a cap, v = .slice a hs.length cap ∧ ∀ i (hi : i < hs.length), ∃ g, a = some ⟨g, 0, none⟩ ∧ w.cell? ⟨g, i * 2, none⟩ = some (.string hs[i].n) ∧ w.cell? ⟨g, i * 2 + 1, none⟩ = some (.string hs[i].v) ∧ g < w.heap.size := by
  rcases h.2 with ⟨rfl, h0⟩ | ⟨g, cap, cur, rfl, hg, hgg, r⟩
  · exact ⟨none, 0, by rw [h0], fun i hi => by omega⟩
  · refine ⟨some ⟨g, 0, none⟩, cap, rfl, fun i hi => ⟨g, rfl, ?_, ?_, (Array.getElem?_eq_some_iff.1 hgg).1⟩⟩
    · have := World.ownsRow.cells h (g := g) rfl (i * 2) _ (hvCells_get hs i hi).1
      rw [Addr.add_lit, Nat.zero_add] at this
      exact this
    · have := World.ownsRow.cells h (g := g) rfl (i * 2 + 1) _ (hvCells_get hs i hi).2
      rw [Addr.add_lit, Nat.zero_add] at this
      exact this

theorem hvCells_snoc (hs : List HV) (c : HV) : hvCells hs ++ [.string c.n, .string c.v] = hvCells (hs ++ [c]) := by simp [hvCells]
theorem wp_appHd (w : World) {ops : Array Oper} {rest : List Oper} {o : Oper} {a : Act} {Q : Exit → Act → World → Prop} (hgd : o.guard = none) (s x : Operand)
    (ho : o.op = .call { callee := .builtin .append, args := #[s, x], argTypes := #[103, 103] }) (base g : Nat) (v : Value) (vs : List HV) (c : HV) (hs : a.eval s = v)
    (hown : Hds w base v vs) (hx : a.eval x = .slice (some ⟨g, 0, none⟩) 1 1) (hc0 : w.cell? ⟨g, 0, none⟩ = some (.string c.n)) (hc1 : w.cell? ⟨g, 1, none⟩ = some (.string c.v)) (hbase : base ≤ w.heap.size) (hl : vs.length ≤ 1000000)
    (h : ∀ v' w', Hds w' base v' (vs ++ [c]) → Below base w w' → wpList Tryz.prog ops Q rest (a.put o.dst v') w') : wpList Tryz.prog ops Q (o :: rest) a w := by
  obtain ⟨i0, hi, hz0, hz1, hz2⟩ := info_parts infoH
  refine wpList_append_own _ hgd s x 103 ho base 124 i0 (.agg #[.string ⟨#[]⟩, .string ⟨#[]⟩]) 2 32 Tryz.underlying103 hi hz0 hz1 hz2 rfl (by decide) _ _ _ hs hown ⟨g, 0, none⟩ 1 1 [.string c.n, .string c.v] hx rfl ?_ ?_ (by unfold maxLen; omega) (by omega) hbase ?_
  · intro j u' hj
    match j, hj with
    | 0, hj => simp at hj; subst hj; simpa [Addr.add] using hc0
    | 1, hj => simp at hj; subst hj; simpa [Addr.add] using hc1
    | j + 2, hj => simp at hj
  · intro u' hu'
    simp at hu'
    rcases hu' with rfl | rfl <;> rfl
  · intro v' w' hown' hgrow _
    rw [hvCells_snoc, show vs.length + 1 = (vs ++ [c]).length by simp] at hown'
    exact h v' w' hown' ((Below.refl _ _).grown hgrow hbase (fun j hj => (World.ownsRow.lt hown j hj).1))

/-- texts that lie from some place on -/
def TxtsAt (w : World) (a : Option Addr) (r : List ByteArray) : Prop := ∀ i (h : i < r.length), ∃ g off, a = some ⟨g, off, none⟩ ∧ w.cell? ⟨g, off + i, none⟩ = some (.string r[i])
theorem TxtsAt.later {w w' : World} {a : Option Addr} {r : List ByteArray} (h : TxtsAt w a r) (hb : Below w.heap.size w w') : TxtsAt w' a r := fun i hi => by
  obtain ⟨g, off, e, hc⟩ := h i hi
  exact ⟨g, off, e, cell_later hb hc⟩
theorem hOk_parts (u : ByteArray) : hOk u = (cutF u colonS && !(decide ((hName u).size = 0)) && !(alikeB (hName u) clenS || alikeB (hName u) tencS)) := rfl
theorem cut_sizes (s sep : ByteArray) : (cutA s sep).size ≤ s.size ∧ (cutB s sep).size ≤ s.size := by
  rcases Lib.indexB_cases s sep with h | ⟨k, h, hr⟩
  · obtain ⟨e1, e2, _⟩ := cut_miss h
    rw [e1, e2]
    exact ⟨Nat.le_refl _, Nat.zero_le _⟩
  · obtain ⟨e1, e2, _⟩ := cut_hit h
    rw [e1, e2, ByteArray.size_extract, ByteArray.size_extract]
    omega

set_option maxHeartbeats 4000000 in
set_option maxRecDepth 100000 in
theorem readHeaders_any (r : List ByteArray) (a : Option Addr) (cap : Nat) (w : World) (hr : TxtsAt w a r) (hsm : ∀ u ∈ r, u.size ≤ 1000) (hl : r.length ≤ 1000) (hm : MaxL w) :
    Calls Tryz.prog 83 #[.slice a r.length cap] w fun e w' => Below w.heap.size w w' ∧ ((HdsOk r = false ∧ e = .returned (.tuple #[.slice none 0 0, .int .i64 3])) ∨ (HdsOk r = true ∧ ∃ v, e = .returned (.tuple #[v, .int .i64 0]) ∧ Hds w' w.heap.size v (r.map hvOf))) := by
  have HM := hide hm
  have HT := hide hr
  have HSM := hide hsm
  clear hm hr hsm
  go_enter Tryz.func83, Tryz.ntmps83
  go_wp2
  go_loopw [2, 11] (fun m i wx => ∃ j : Nat, j ≤ r.length ∧ i = .int .i64 j ∧ Hid (HdsOk (r.take j) = true) ∧ Hid (Hds wx w.heap.size m ((r.take j).map hvOf)) ∧ Below w.heap.size w wx) (fun _ i _ => r.length - (intOf i).toNat)
  case atStart => exact ⟨0, by omega, rfl, hide (by simp [HdsOk]), hide (Hds.nil _ _), Below.refl _ _⟩
  case round =>
    obtain ⟨j, hj, rfl, hok, hown, hnx⟩ := hrel
    have hwr : w.heap.size ≤ wr.heap.size := hnx.size
    by_cases hlt : j < r.length
    · obtain ⟨g, off, ea, hcell⟩ := (unhide HT).later hnx j hlt
      have husz := unhide HSM r[j] (List.getElem_mem hlt)
      have HOK := hide fun hk => hds_take (unhide hok) hlt hk
      have HNO := hide fun hk => hds_no (r := r) hlt hk
      have hmap : Hid ((r.take j).map hvOf ++ [hvOf r[j]] = (r.take (j + 1)).map hvOf) := hide (by rw [List.take_succ_eq_append_getElem hlt, List.map_append]; rfl)
      have hlen : Hid (((r.take j).map hvOf).length ≤ 1000) := hide (by simp; omega)
      generalize (r.take j).map hvOf = acc at hown hmap hlen
      generalize r[j] = u at hcell husz HOK HNO hmap
      have hO := hOk_parts u
      have zN : (hName u).size ≤ 1000 := by have := (cut_sizes u colonS).1; unfold hName; omega
      have zV : (cutB u colonS).size ≤ 1000 := by have := (cut_sizes u colonS).2; omega
      have H1 := hide fun w => strCut_any u colonS w (by omega)
      have H2 := hide fun w => announcesBody_any (hName u) w (by omega)
      have H3 := hide fun w => strTrim_any (cutB u colonS) w (by omega)
      have eN : cutA u colonS = hName u := rfl
      rw [eN] at H1
      have hv : Hid (hvOf u = ⟨hName u, trimS' (cutB u colonS)⟩) := hide rfl
      generalize (alikeB (hName u) clenS || alikeB (hName u) tencS) = X at hO H2
      generalize hName u = N at hO H1 H2 hv zN
      generalize trimS' (cutB u colonS) = V at H3 hv
      generalize cutB u colonS = C at H1 H3
      generalize cutF u colonS = F at hO H1
      subst ea
      clear eN zV
      cases F
      · have hno := hide (unhide HNO (by rw [hO]; rfl))
        clear hO HOK HNO hmap hown
        go_wp2_with fail
        refine (unhide H1 _ ((unhide HM).later hnx)).mono ?_
        rintro e w1 ⟨rfl, hb1⟩
        go_wp2
        go_ret2
        exact ⟨qx_trans hnx hb1, .inl ⟨unhide hno, rfl⟩⟩
      by_cases hN : N.size = 0
      · have hNe : N = ⟨#[]⟩ := qa_list (List.eq_nil_of_length_eq_zero (by rw [dataLen]; exact hN))
        have hno := hide (unhide HNO (by rw [hO]; simp [hN]))
        subst hNe
        clear hO HOK HNO hmap hown hN
        go_wp2_with fail
        refine (unhide H1 _ ((unhide HM).later hnx)).mono ?_
        rintro e w1 ⟨rfl, hb1⟩
        go_wp2
        go_ret2
        exact ⟨qx_trans hnx hb1, .inl ⟨unhide hno, rfl⟩⟩
      · have hNe : N ≠ ⟨#[]⟩ := fun e => hN (by rw [e]; rfl)
        obtain ⟨m1, m2, m3, m4, m5⟩ := txt_no (N := N) (L := []) hNe
        have m6 : N.toList.isEmpty = false := by simp [m1]
        cases X
        · have hyes := hide (unhide HOK (by rw [hO]; simp [hN]))
          clear hO HOK HNO hN hNe
          go_wp2_with fail
          refine (unhide H1 _ ((unhide HM).later hnx)).mono ?_
          rintro e w1 ⟨rfl, hb1⟩
          have hnx1 := qx_trans hnx hb1
          go_wp2_with fail
          refine (unhide H2 _).mono ?_
          rintro e w2 ⟨rfl, hb2⟩
          have hnx2 := qx_trans hnx1 hb2
          go_wp2_with fail
          refine (unhide H3 _).mono ?_
          rintro e w3 ⟨rfl, hb3⟩
          have hnx3 := qx_trans hnx2 hb3
          have hown3 := hide (((unhide hown).later hb1).later (qx_trans hb2 hb3))
          have hw3 : w.heap.size ≤ w3.heap.size := hnx3.size
          have hal := unhide hlen
          go_wp2_with (at_builtin; refine wp_appHd _ rfl _ _ rfl w.heap.size w3.heap.size _ acc ⟨N, V⟩ rfl ((unhide hown3).alloc _) rfl (by simp) (by simp) ?c5 ?c3 ?c6)
          case c5 => first | omega | (simp; omega)
          case c3 => omega
          case c6 =>
            intro v4 w4 hown4 hb4
            have hnx4 : Below w.heap.size w w4 := (hnx3.alloc hw3 _).trans hb4
            have HO4 := hide (show Hds w4 w.heap.size v4 ((r.take (j + 1)).map hvOf) by rw [← unhide hmap, unhide hv]; exact hown4)
            clear hown4 hb4 hown3 hown
            go_wp2
            go_roundw
            case rel => exact ⟨j + 1, by omega, by go_num, hyes, HO4, hnx4⟩
            case measure => simp [intOf]; omega
        · have hno := hide (unhide HNO (by rw [hO]; simp))
          clear hO HOK HNO hmap hown hN hNe
          go_wp2_with fail
          refine (unhide H1 _ ((unhide HM).later hnx)).mono ?_
          rintro e w1 ⟨rfl, hb1⟩
          go_wp2_with fail
          refine (unhide H2 _).mono ?_
          rintro e w2 ⟨rfl, hb2⟩
          go_wp2
          go_ret2
          exact ⟨qx_trans (qx_trans hnx hb1) hb2, .inl ⟨unhide hno, rfl⟩⟩
    · have hyes := hide (hds_end (unhide hok) (by omega))
      have hto : r.take j = r := List.take_of_length_le (by omega)
      rw [hto] at hown
      clear hto
      go_wp2
      go_ret2
      exact ⟨hnx, .inr ⟨unhide hyes, _, rfl, unhide hown⟩⟩

def HVsAt (w : World) (a : Option Addr) (hs : List HV) : Prop := ∀ i (hi : i < hs.length), ∃ g, a = some ⟨g, 0, none⟩ ∧ w.cell? ⟨g, i * 2, none⟩ = some (.string hs[i].n) ∧ w.cell? ⟨g, i * 2 + 1, none⟩ = some (.string hs[i].v) ∧ g < w.heap.size
theorem HVsAt.later {w w' : World} {a : Option Addr} {hs : List HV} (h : HVsAt w a hs) (hb : Below w.heap.size w w') : HVsAt w' a hs := fun i hi => by
  obtain ⟨g, e, h0, h1, h2⟩ := h i hi
  exact ⟨g, e, cell_later hb h0, cell_later hb h1, Nat.lt_of_lt_of_le h2 hb.size⟩
def hvShut (h : HV) : Bool := alikeB h.n connS && alikeB h.v closeS

set_option maxHeartbeats 4000000 in
set_option maxRecDepth 100000 in
theorem asksToClose_any (hs : List HV) (a : Option Addr) (cap : Nat) (w : World) (hr : HVsAt w a hs) (hsm : ∀ h ∈ hs, h.n.size ≤ 1000 ∧ h.v.size ≤ 1000) (hl : hs.length ≤ 1000) :
    Calls Tryz.prog 84 #[.slice a hs.length cap] w fun e w' => e = .returned (.bool (hs.any hvShut)) ∧ Below w.heap.size w w' := by
  have HT := hide hr
  have HSM := hide hsm
  clear hr hsm
  go_enter Tryz.func84, Tryz.ntmps84
  go_wp2
  go_loopw [7] (fun i wx => ∃ j : Nat, j ≤ hs.length ∧ i = .int .i64 j ∧ Hid ((hs.take j).any hvShut = false) ∧ Below w.heap.size w wx) (fun i _ => hs.length - (intOf i).toNat)
  case atStart => exact ⟨0, by omega, rfl, hide (by simp), Below.refl _ _⟩
  case round =>
    obtain ⟨j, hj, rfl, hno, hnx⟩ := hrel
    by_cases hlt : j < hs.length
    · obtain ⟨g, ea, q0, q1, q2⟩ := (unhide HT).later hnx j hlt
      obtain ⟨z1, z2⟩ := unhide HSM hs[j] (List.getElem_mem hlt)
      have HN := hide fun (hk : hvShut hs[j] = false) => show (hs.take (j + 1)).any hvShut = false by rw [List.take_succ_eq_append_getElem hlt, List.any_append, unhide hno]; simp [hk]
      have HY := hide fun (hk : hvShut hs[j] = true) => show hs.any hvShut = true from List.any_eq_true.2 ⟨_, List.getElem_mem hlt, hk⟩
      have eS : hvShut hs[j] = (alikeB hs[j].n connS && alikeB hs[j].v closeS) := rfl
      have H1 := hide fun w => lettersAlike_any hs[j].n connS w (by omega) (by decide)
      have H2 := hide fun w => lettersAlike_any hs[j].v closeS w (by omega) (by decide)
      generalize hvShut hs[j] = K at HN HY eS
      generalize hs[j].n = N at q0 H1 eS z1
      generalize hs[j].v = V at q1 H2 eS z2
      generalize alikeB N connS = A at H1 eS
      generalize alikeB V closeS = B at H2 eS
      subst ea
      have hne : g ≠ wr.heap.size := by omega
      cases A
      · have hd := hide (unhide HN (by rw [eS]; rfl))
        clear HN HY eS
        go_wp2_with fail
        refine (unhide H1 _).mono ?_
        rintro e w1 ⟨rfl, hb1⟩
        go_wp2
        go_roundw
        case rel => exact ⟨j + 1, by omega, by go_num, hd, qx_trans (qx_al hnx) hb1⟩
        case measure => simp [intOf]; omega
      · cases B
        · have hd := hide (unhide HN (by rw [eS]; rfl))
          clear HN HY eS
          go_wp2_with fail
          refine (unhide H1 _).mono ?_
          rintro e w1 ⟨rfl, hb1⟩
          obtain ⟨hc1, hf1⟩ := qcell hb1
          have hz1 : wr.heap.size < w1.heap.size := by have := hb1.size; simp at this; omega
          go_wp2_with fail
          refine (unhide H2 _).mono ?_
          rintro e w2 ⟨rfl, hb2⟩
          go_wp2
          go_roundw
          case rel => exact ⟨j + 1, by omega, by go_num, hd, qx_trans (qx_trans (qx_al hnx) hb1) hb2⟩
          case measure => simp [intOf]; omega
        · have hd := hide (unhide HY (by rw [eS]; rfl))
          clear HN HY eS
          go_wp2_with fail
          refine (unhide H1 _).mono ?_
          rintro e w1 ⟨rfl, hb1⟩
          obtain ⟨hc1, hf1⟩ := qcell hb1
          have hz1 : wr.heap.size < w1.heap.size := by have := hb1.size; simp at this; omega
          go_wp2_with fail
          refine (unhide H2 _).mono ?_
          rintro e w2 ⟨rfl, hb2⟩
          go_wp2
          go_ret
          exact ⟨ret_bool (unhide hd).symm, qx_trans (qx_trans (qx_al hnx) hb1) hb2⟩
    · have hd : Hid (hs.any hvShut = false) := hide (by have := unhide hno; rwa [List.take_of_length_le (by omega)] at this)
      go_wp2
      go_ret
      exact ⟨ret_bool (unhide hd).symm, hnx⟩

end Go.Proofs.YthfoabcmgiiadaaGreatDoor
