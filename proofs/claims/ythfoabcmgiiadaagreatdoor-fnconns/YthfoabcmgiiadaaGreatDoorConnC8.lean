/- A slot that is looked for; slots that leave. -/
import Derived.Test.YthfoabcmgiiadaaGreatDoorConnC4
namespace Go.Proofs.YthfoabcmgiiadaaGreatDoor
open Go.RowKit Go.Joins
set_option linter.unusedVariables false

theorem meant_any (x : SL) (seq : Int) (g : Nat) (w : World) (hc : w.cell? ⟨g, 0, none⟩ = some (.int .i64 seq)) :
    Calls Tryz.prog 52 #[.agg #[.int .i64 x.q, .bool x.r, .string x.t], .pointer (some ⟨g, 0, none⟩)] w fun e w' => e = .returned (.bool (decide (x.q = seq))) ∧ Below w.heap.size w w' := by
  have hgl := World.block_lt_of_cell? _ _ hc
  by_cases h : x.q = seq
  · have h1 : (x.q == seq) = true := by simp [h]
    rw [show decide (x.q = seq) = true by simp [h]]
    go_enter Tryz.func52, Tryz.ntmps52
    go_wp2
    go_ret
    exact ⟨by simp, qx_alloc _ _⟩
  · have h1 : (x.q == seq) = false := by simp [h]
    rw [show decide (x.q = seq) = false by simp [h]]
    go_enter Tryz.func52, Tryz.ntmps52
    go_wp2
    go_ret
    exact ⟨by simp, qx_alloc _ _⟩

/-- the first slot of that number: its place -/
def FindAt (s : List SL) (seq : Int) (v e : Value) : Prop := (e = .pointer none ∧ ∀ x ∈ s, x.q ≠ seq) ∨ ∃ (vb j cap : Nat) (hj : j < s.length), v = .slice (some ⟨vb, 0, none⟩) s.length cap ∧ e = .pointer (some ⟨vb, j * 3, none⟩) ∧ s[j].q = seq ∧ ∀ i (hi : i < j), (s[i]'(by omega)).q ≠ seq

set_option maxHeartbeats 4000000 in
set_option maxRecDepth 100000 in
theorem find_any {w : World} {base b : Nat} {c : CN} {v : Value} (seq : Int) (g : Nat) (h : LnAt w base b c v) (hc : w.cell? ⟨g, 0, none⟩ = some (.int .i64 seq)) (hl6 : c.s.length ≤ 6) :
    Calls Tryz.prog 51 #[.pointer (some ⟨b, 3, none⟩), .func (.func 52) #[] #[.pointer (some ⟨g, 0, none⟩)]] w fun e w' => ∃ p, e = .returned p ∧ FindAt c.s seq v p ∧ Below w.heap.size w w' := by
  obtain ⟨c0, c1, c2, c3, c4⟩ := h.cells
  obtain ⟨vp, cap, hv⟩ := h.row.slice
  have HO := hide h.row
  have hbl := h.lt
  clear h c0 c1 c2 c4
  obtain ⟨o, e, i, s, n⟩ := c
  dsimp only at *
  rw [hv] at c3
  have HV := hide hv
  clear hv
  go_enter Tryz.func51, Tryz.ntmps51
  go_wp2
  go_loopw [11] (fun ix wx => ∃ k : Nat, k ≤ s.length ∧ ix = .int .i64 k ∧ Hid (∀ x ∈ s.take k, x.q ≠ seq) ∧ Below w.heap.size w wx) (fun ix _ => s.length - (intOf ix).toNat)
  case atStart => exact ⟨0, by omega, rfl, hide (by simp), Below.refl _ _⟩
  case round =>
    obtain ⟨k, hk, rfl, hno, hnx⟩ := hrel
    by_cases hlt : k < s.length
    · have ho := unhide HO
      rw [unhide HV] at ho
      obtain ⟨vb, rfl, hvb, hvl, hcs⟩ := ho.opened (by omega)
      obtain ⟨q0, q1, q2⟩ := hcs k hlt
      have r0 := cell_later hnx q0
      have r1 := cell_later hnx q1
      have r2 := cell_later hnx q2
      have hc' := cell_later hnx hc
      have c3' := cell_later hnx c3
      obtain ⟨x, hx⟩ : ∃ x, x = s[k] := ⟨_, rfl⟩
      rw [← hx] at r0 r1 r2
      have HX := hide hx
      have HM := hide (meant_any x seq g wr hc')
      have hlt' : (k : Int) < (s.length : Int) := by omega
      clear hx q0 q1 q2 hcs ho c3 hc
      obtain ⟨xq, xr, xt⟩ := x
      dsimp only at r0 r1 r2 HM
      go_wp2_with fail
      refine (unhide HM).mono ?_
      rintro ex y ⟨rfl, hby⟩
      have c3y := cell_later hby c3'
      have hny := qx_trans hnx hby
      by_cases hq : xq = seq
      · subst hq
        have HF := hide (show FindAt s xq v (.pointer (some ⟨vb, k * 3, none⟩)) from .inr ⟨vb, k, cap, hlt, unhide HV, rfl, by rw [← unhide HX], fun i hi => unhide hno _ (List.mem_take_iff_getElem.2 ⟨i, by omega, rfl⟩)⟩)
        have hd : decide (xq = xq) = true := by simp
        rw [hd]
        clear hby HM hno
        go_wp2
        go_ret
        exact ⟨_, rfl, unhide HF, hny⟩
      · have hd : decide (xq = seq) = false := by simp [hq]
        rw [hd]
        have HN := hide (show ∀ x ∈ s.take (k + 1), x.q ≠ seq by
          intro x hx
          rw [List.take_add_one, List.getElem?_eq_getElem hlt] at hx
          rcases List.mem_append.1 hx with h | h
          · exact unhide hno x h
          · simp at h
            rw [h, ← unhide HX]
            exact hq)
        clear hby HM hno
        go_wp2
        go_roundw
        case rel => exact ⟨k + 1, by omega, by go_num, hide (unhide HN), hny⟩
        case measure => simp [intOf]; omega
    · have HN := hide (show ∀ x ∈ s, x.q ≠ seq by
        have := unhide hno
        rw [List.take_of_length_le (by omega)] at this
        exact this)
      have hlt' : ¬ (k : Int) < (s.length : Int) := by omega
      clear hno
      go_wp2
      go_ret
      exact ⟨_, rfl, .inl ⟨rfl, unhide HN⟩, hnx⟩

/-- slots that have left: the line, what is left of it, and the row of those that went -/
structure LeftAt (w w' : World) (base b : Nat) (c : CN) (k : Nat) (gv v v' : Value) : Prop where
  blk : LnB w' b { c with s := c.s.drop k } v'
  rest : RowSl w' v' (c.s.drop k)
  gone : SlBuf w' w.heap.size gv (c.s.take k)
  off : ∀ j, v'.ownBlock = some j → v.ownBlock = some j
  frame : ∀ j, j < w.heap.size → j ≠ b → w'.heap[j]? = w.heap[j]?
  below : Below b w w'
  typ : ∀ j, v'.ownBlock = some j → ∃ cs, w'.heap[j]? = some (.cells cs 66 (0, 0))

/-- what is left of the row behind k slots -/
def LeftV (vb l cap k : Nat) (v : Value) : Prop := (k < l ∧ v = .slice (some ⟨vb, k * 3, none⟩) (l - k) (cap - k)) ∨ (k = l ∧ (v = .slice none 0 0 ∨ ∃ off cp, v = .slice (some ⟨vb, off, none⟩) 0 cp))
theorem LeftV.own {vb l cap k : Nat} {v : Value} (h : LeftV vb l cap k v) : ∀ j, v.ownBlock = some j → j = vb := by
  intro j hj
  rcases h with ⟨_, rfl⟩ | ⟨_, rfl | ⟨off, cp, rfl⟩⟩
  · injection hj with hj; exact hj.symm
  · cases hj
  · injection hj with hj; exact hj.symm
theorem LeftV.row {w : World} {vb l cap k : Nat} {v : Value} {s : List SL} (h : LeftV vb l cap k v) (hl : s.length = l) (hcs : ∀ i (hi : i < s.length), w.cell? ⟨vb, i * 3, none⟩ = some (.int .i64 s[i].q) ∧ w.cell? ⟨vb, i * 3 + 1, none⟩ = some (.bool s[i].r) ∧ w.cell? ⟨vb, i * 3 + 2, none⟩ = some (.string s[i].t)) : RowSl w v (s.drop k) := by
  subst hl
  rcases h with ⟨hk, rfl⟩ | ⟨hk, h⟩
  · refine .inr ⟨vb, k * 3, cap - k, by rw [List.length_drop], fun i hi => ?_⟩
    rw [List.length_drop] at hi
    have := hcs (k + i) (by omega)
    rw [List.getElem_drop]
    rw [show k * 3 + i * 3 = (k + i) * 3 by omega]
    exact this
  · rw [List.drop_of_length_le (by omega)]
    rcases h with rfl | ⟨off, cp, rfl⟩
    · exact .inl ⟨rfl, rfl⟩
    · exact .inr ⟨vb, off, cp, rfl, fun i hi => absurd hi (by simp)⟩
theorem LeftV.slice {vb l cap k : Nat} {v : Value} (h : LeftV vb l cap k v) : ∃ p cp, v = .slice p (l - k) cp := by
  rcases h with ⟨_, rfl⟩ | ⟨hk, rfl | ⟨off, cp, rfl⟩⟩
  · exact ⟨_, _, rfl⟩
  · exact ⟨_, _, by rw [hk, Nat.sub_self]⟩
  · exact ⟨_, _, by rw [hk, Nat.sub_self]⟩
theorem goL_cons (x : SL) (s : List SL) : goL (x :: s) = if x.r = true then goL s + 1 else 0 := by
  unfold goL
  rw [List.takeWhile_cons]
  split
  · rfl
  · rfl
theorem goL_step : ∀ (s : List SL) (k : Nat) (hk : k < s.length), k ≤ goL s → (s[k].r = true → k + 1 ≤ goL s) ∧ (s[k].r = false → goL s = k)
  | [], k, hk, _ => absurd hk (by simp)
  | x :: s, 0, hk, _ => by
    rw [goL_cons]
    refine ⟨fun h => ?_, fun h => ?_⟩
    · have h' : x.r = true := h
      rw [if_pos h']; omega
    · have h' : x.r = false := h
      rw [if_neg (by rw [h']; simp)]
  | x :: s, k + 1, hk, h => by
    rw [goL_cons] at h ⊢
    split at h
    · rename_i hx
      have := goL_step s k (by simpa using hk) (by omega)
      simp only [if_pos hx]
      exact ⟨fun q => by have := this.1 q; omega, fun q => by have := this.2 q; omega⟩
    · omega
theorem goL_le (s : List SL) : goL s ≤ s.length := by
  unfold goL
  exact (List.takeWhile_prefix _).length_le
def lenV : Value → Nat
  | .slice _ n _ => n
  | _ => 0

set_option maxHeartbeats 8000000 in
set_option maxRecDepth 100000 in
theorem leave_any {w : World} {base b : Nat} {c : CN} {v : Value} (h : LnAt w base b c v) (hl6 : c.s.length ≤ 6) :
    Calls Tryz.prog 53 #[.pointer (some ⟨b, 3, none⟩), .func (.func 54) #[] #[]] w fun e w' => ∃ gv v', e = .returned gv ∧ LeftAt w w' base b c (goL c.s) gv v v' := by
  have hbl := h.lt
  have hbb := h.hb
  obtain ⟨vb, cap, hlc, hV0, hcs, hvb⟩ : ∃ vb cap, c.s.length ≤ cap ∧ LeftV vb c.s.length cap 0 v ∧ (∀ i (hi : i < c.s.length), w.cell? ⟨vb, i * 3, none⟩ = some (.int .i64 c.s[i].q) ∧ w.cell? ⟨vb, i * 3 + 1, none⟩ = some (.bool c.s[i].r) ∧ w.cell? ⟨vb, i * 3 + 2, none⟩ = some (.string c.s[i].t)) ∧ (∀ j, v.ownBlock = some j → j = vb) := by
    rcases h.row.2 with ⟨rfl, h0⟩ | ⟨g, cap, cur, rfl, hg, hgg, h1, h2, h3, h4⟩
    · exact ⟨0, 0, by omega, .inr ⟨by omega, .inl rfl⟩, fun i hi => absurd hi (by omega), fun j hj => by cases hj⟩
    · refine ⟨g, cap, h1, ?_, ?_, fun j hj => by injection hj with hj; exact hj.symm⟩
      · by_cases h0 : 0 < c.s.length
        · exact .inl ⟨h0, by simp⟩
        · have h0' : c.s.length = 0 := by omega
          exact .inr ⟨by omega, .inr ⟨0, cap, by rw [h0']⟩⟩
      · by_cases h0 : 0 < c.s.length
        · obtain ⟨g', e, _, _, hh⟩ := h.row.opened h0
          injection e with e
          injection e with e
          subst e
          exact hh
        · exact fun i hi => absurd hi (by omega)
  have HH := hide h
  have HB0 := hide h.b
  have hown := hide (fun j hj => (World.ownsRow.lt h.row j hj))
  have hne := hide h.ne
  have HV0 := hide hV0
  have HCS := hide hcs
  have HVB := hide hvb
  have HTY := hide (show ∀ j, v.ownBlock = some j → ∃ cs, w.heap[j]? = some (.cells cs 66 (0, 0)) from by
    intro j hj
    rcases h.row.2 with ⟨rfl, _⟩ | ⟨g, cap, cur, rfl, hg, hgg, _⟩
    · cases hj
    · injection hj with hj
      subst hj
      exact ⟨cur, hgg⟩)
  have hc3 := h.cells.2.2.2.1
  clear h hV0 hcs hvb
  obtain ⟨o, e, i, s, n⟩ := c
  dsimp only at *
  go_enter Tryz.func53, Tryz.ntmps53
  go_wp2
  go_loopw [5] (fun gv wx => ∃ (k : Nat) (v' : Value), Hid (k ≤ goL s) ∧ k ≤ s.length ∧ Hid (LeftV vb s.length cap k v') ∧ Hid (LnB wx b ⟨o, e, i, s.drop k, n⟩ v') ∧ Hid (SlBuf wx w.heap.size gv (s.take k)) ∧ Hid (∀ j, j < w.heap.size → j ≠ b → wx.heap[j]? = w.heap[j]?) ∧ Hid (Below b w wx) ∧ Hid (∀ j, v'.ownBlock = some j → v.ownBlock = some j)) (fun gv _ => s.length - lenV gv)
  case atStart => exact ⟨0, v, hide (Nat.zero_le _), Nat.zero_le _, hide (unhide HV0), hide (by simpa using unhide HB0), hide (by simpa using SlBuf.nil _ _), hide (fun _ _ _ => rfl), hide (Below.refl _ _), hide (fun _ h => h)⟩
  case round =>
    obtain ⟨k, v', hgo, hk, hLV, hLB, hG, hfr, hbe, hvo⟩ := hrel
    have c3 := (unhide hLB).cells.2.2.2.1
    have hsz := (unhide hbe).size
    obtain ⟨gp, gc, hgv⟩ := (unhide hG).slice
    rw [List.length_take, Nat.min_eq_left hk] at hgv
    subst hgv
    by_cases hlt : k < s.length
    · have hv' : v' = .slice (some ⟨vb, k * 3, none⟩) (s.length - k) (cap - k) := by
        rcases unhide hLV with ⟨_, h⟩ | ⟨h, _⟩
        · exact h
        · omega
      have hvob : v.ownBlock = some vb := unhide hvo vb (by rw [hv']; rfl)
      have hvl : vb < w.heap.size := (unhide hown vb hvob).2
      have hvn : vb ≠ b := unhide hne vb hvob
      have hcell : ∀ off, wr.cell? ⟨vb, off, none⟩ = w.cell? ⟨vb, off, none⟩ := fun off => World.cell?_of_block (unhide hfr vb hvl hvn)
      obtain ⟨q0, q1, q2⟩ := unhide HCS k hlt
      rw [← hcell] at q0 q1 q2
      obtain ⟨x, hx⟩ : ∃ x, x = s[k] := ⟨_, rfl⟩
      rw [← hx] at q0 q1 q2
      have HGS := hide (fun (h : x.r = true) => (goL_step s k hlt (unhide hgo)).1 (show s[k].r = true by rw [← hx]; exact h))
      have HGE := hide (fun (h : x.r = false) => (goL_step s k hlt (unhide hgo)).2 (show s[k].r = false by rw [← hx]; exact h))
      have HTK := hide (show s.take (k + 1) = s.take k ++ [x] by rw [List.take_add_one, List.getElem?_eq_getElem hlt, hx]; rfl)
      have HM := hide (isReady_any x wr)
      rw [hv'] at c3
      obtain ⟨m, hm⟩ : ∃ m, m = s.length - k := ⟨_, rfl⟩
      obtain ⟨cp, hcp⟩ : ∃ cp, cp = cap - k := ⟨_, rfl⟩
      rw [← hm, ← hcp] at c3
      have hm0 : 0 < m := by omega
      have hm0' : (0 : Int) < (m : Int) := by omega
      have hmc : m ≤ cp := by omega
      have HM1 := hide hm
      have HC1 := hide hcp
      have HX := hide hx
      have HV' := hide hv'
      clear hx hcell hv' hm hcp hc3
      obtain ⟨xq, xr, xt⟩ := x
      dsimp only at q0 q1 q2 HM HGS HGE
      cases xr with
      | false =>
        have HE := hide (unhide HGE rfl)
        have HAns := hide (fun (y : World) (hby : Below wr.heap.size wr y) => show LeftAt w y base b ⟨o, e, i, s, n⟩ (goL s) (.slice gp k gc) v v' from by
          rw [unhide HE]
          refine ⟨(unhide hLB).later hby, ?_, (unhide hG).later hby, fun j hj => ?_, fun j hj hjb => ?_, (unhide hbe).trans (hby.mono (by omega)), fun j hj => ?_⟩
          · have hc : ∀ off, wr.cell? ⟨vb, off, none⟩ = w.cell? ⟨vb, off, none⟩ := fun off => World.cell?_of_block (unhide hfr vb hvl hvn)
            exact RowSl.later ((unhide hLV).row rfl (fun i hi => by rw [hc, hc, hc]; exact unhide HCS i hi)) hby
          · exact unhide hvo j hj
          · rw [hby.block j (by omega)]
            exact unhide hfr j hj hjb
          · have h1 := unhide hvo j hj
            obtain ⟨cs, hcs⟩ := unhide HTY j h1
            have h2 := (unhide hown j h1).2
            exact ⟨cs, by rw [hby.block j (by omega), unhide hfr j h2 (unhide hne j h1)]; exact hcs⟩)
        go_wp2_with fail
        refine (unhide HM).mono ?_
        rintro ex y ⟨rfl, hby⟩
        have HA2 := hide (unhide HAns y hby)
        clear hby HM
        go_wp2
        go_ret
        exact ⟨_, v', rfl, unhide HA2⟩
      | true =>
        go_wp2_with fail
        refine (unhide HM).mono ?_
        rintro ex y ⟨rfl, hby⟩
        have z0 := cell_later hby q0
        have z1 := cell_later hby q1
        have z2 := cell_later hby q2
        have zc := cell_later hby c3
        have hwy : w.heap.size ≤ y.heap.size := Nat.le_trans hsz hby.size
        have HGy := hide ((unhide hG).later hby)
        go_wp2_with (at_builtin; refine wp_appSl _ rfl _ _ rfl w.heap.size y.heap.size _ (s.take k) ⟨xq, true, xt⟩ rfl ((unhide HGy).alloc _) rfl (by simp) (by simp) (by simp) ?c5 ?c3 ?c6)
        case c5 => first | omega | (simp; omega)
        case c3 => rw [List.length_take]; omega
        case c6 =>
          intro v2 w2 hown2 hb2
          rw [← unhide HTK] at hown2
          obtain ⟨p2, k2, hv2⟩ := hown2.slice
          rw [List.length_take, Nat.min_eq_left hlt] at hv2
          have HO2 := hide hown2
          have hbW : Below w.heap.size wr w2 := ((hby.mono hsz).trans ((qx_al (o := .cells #[.int .i64 xq, .bool true, .string xt] 66) (Below.refl _ _)).mono hwy)).trans hb2
          have HBW := hide hbW
          have w3 : w2.cell? ⟨b, 3, none⟩ = some (.slice (some ⟨vb, k * 3, none⟩) m cp) := by rw [hbW.cell (p := ⟨b, 3, none⟩) hbl]; exact c3
          have hLB2 : LnB w2 b ⟨o, e, i, s.drop k, n⟩ v' := ⟨by rw [hbW.block b hbl]; exact (unhide hLB).blk, (unhide hLB).sl⟩
          have HLB2 := hide hLB2
          have g3 := hLB2.free 3
          rw [hv2] at HO2 ⊢
          clear hown2 hb2 hbW hLB2 hv2 z0 z1 z2 zc hby HM HGy
          have HFIN := hide (fun v'' (hL : LeftV vb s.length cap (k + 1) v'') => show (∃ k_1 v', Hid (k_1 ≤ goL s) ∧ k_1 ≤ s.length ∧ Hid (LeftV vb s.length cap k_1 v') ∧ Hid (LnB (w2.setCell ⟨b, 3, none⟩ v'') b ⟨o, e, i, s.drop k_1, n⟩ v') ∧ Hid (SlBuf (w2.setCell ⟨b, 3, none⟩ v'') w.heap.size (.slice p2 (k + 1) k2) (s.take k_1)) ∧ Hid (∀ j, j < w.heap.size → j ≠ b → (w2.setCell ⟨b, 3, none⟩ v'').heap[j]? = w.heap[j]?) ∧ Hid (Below b w (w2.setCell ⟨b, 3, none⟩ v'')) ∧ Hid (∀ j, v'.ownBlock = some j → v.ownBlock = some j)) from by
            refine ⟨k + 1, v'', hide (unhide HGS trivial), hlt, hide hL, hide ⟨?_, ?_⟩, hide ?_, hide ?_, hide ?_, hide ?_⟩
            · have := block_setCell (i := 3) (unhide HLB2).blk v''
              exact this
            · obtain ⟨p, cp, hp⟩ := hL.slice
              exact ⟨p, cp, by rw [hp]; simp⟩
            · exact (unhide HO2).apart (fun j hj => by have := (World.ownsRow.lt (unhide HO2) j hj).1; omega)
            · intro j hj hjb
              rw [Below.heap_setCell _ _ _ _ (by exact hjb), (unhide HBW).block j hj]
              exact unhide hfr j hj hjb
            · exact ((unhide hbe).trans ((unhide HBW).mono (by omega))).setCell (Nat.le_refl _) _
            · intro j hj
              rw [hL.own j hj]
              exact hvob)
          by_cases hcp1 : cp = 1
          · have HL1 := hide (show LeftV vb s.length cap (k + 1) (.slice (some ⟨vb, k * 3, none⟩) 0 0) from by
              have h1 := unhide HM1
              have h2 := unhide HC1
              exact .inr ⟨by omega, .inr ⟨_, _, rfl⟩⟩)
            subst hcp1
            go_wp2
            exact ⟨unhide HFIN _ (unhide HL1), by simp only [lenV]; omega⟩
          · have HL1 := hide (show LeftV vb s.length cap (k + 1) (.slice (some ⟨vb, k * 3 + 3, none⟩) (m - 1) (cp - 1)) from by
              have h1 := unhide HM1
              have h2 := unhide HC1
              by_cases h3 : k + 1 < s.length
              · exact .inl ⟨h3, by rw [h1, h2, show (k + 1) * 3 = k * 3 + 3 by omega, show s.length - k - 1 = s.length - (k + 1) by omega, show cap - k - 1 = cap - (k + 1) by omega]⟩
              · exact .inr ⟨by omega, .inr ⟨_, _, by rw [show m - 1 = 0 by omega]⟩⟩)
            go_wp2
            exact ⟨unhide HFIN _ (unhide HL1), by simp only [lenV]; omega⟩
    · have hkl : k = s.length := by omega
      have hE : goL s = k := by have := unhide hgo; have := goL_le s; omega
      have HAns := hide (show LeftAt w wr base b ⟨o, e, i, s, n⟩ (goL s) (.slice gp k gc) v v' from by
        rw [hE]
        refine ⟨unhide hLB, ?_, unhide hG, fun j hj => ?_, unhide hfr, unhide hbe, fun j hj => ?_⟩
        · rcases unhide hLV with ⟨h, _⟩ | ⟨_, rfl | ⟨off, cp, rfl⟩⟩
          · omega
          · exact .inl ⟨rfl, by rw [hkl]; simp⟩
          · exact .inr ⟨vb, off, cp, by simp [hkl], fun i hi => absurd hi (by simp [hkl])⟩
        · exact unhide hvo j hj
        · have h1 := unhide hvo j hj
          obtain ⟨cs, hcs⟩ := unhide HTY j h1
          exact ⟨cs, by rw [unhide hfr j (unhide hown j h1).2 (unhide hne j h1)]; exact hcs⟩)
      obtain ⟨pp, cp, hv'⟩ := (unhide hLV).slice
      rw [show s.length - k = 0 by omega] at hv'
      rw [hv'] at c3
      have HV' := hide hv'
      clear hE hkl hv' hc3
      go_wp2
      go_ret
      exact ⟨_, v', rfl, unhide HAns⟩

end Go.Proofs.YthfoabcmgiiadaaGreatDoor
