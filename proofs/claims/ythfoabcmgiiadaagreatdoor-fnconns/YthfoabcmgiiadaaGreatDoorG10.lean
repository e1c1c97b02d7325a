/- A bundle. -/
import Derived.Test.YthfoabcmgiiadaaGreatDoorG09
import Derived.Deep.CutRange
import Derived.Deep.RegionWith
import Derived.Test.YthfoabcmgiiadaaGreatDoorG07

/- ConnS12 -/
namespace Go.Proofs.YthfoabcmgiiadaaGreatDoor
open Go.RowKit Go.Joins
set_option linter.unusedVariables false

/-- the drawing of a connection: it lies in block b, right; the source in g; the result's block is not written yet -/
structure CI (w wx : World) (g b : Nat) (a : Option Addr) (len cap : Nat) (c : CN) (v : Value) (n : Int) : Prop where
  cn : CnB wx b c v
  row : RowC wx v c.s
  right : connB c = true
  src : DC wx g a len cap n
  res : ZeroC wx w.heap.size
  fr : SrF g w wx
  hb : w.heap.size < b
  hg : g < w.heap.size
theorem CI.later {w wx u : World} {g b : Nat} {a : Option Addr} {len cap : Nat} {c : CN} {v : Value} {n : Int} (h : CI w wx g b a len cap c v n) (hb : Below wx.heap.size wx u) : CI w u g b a len cap c v n :=
  ⟨h.cn.later hb, h.row.later hb, h.right, h.src.later hb, h.res.later hb, h.fr.trans (SrF.of hb (Nat.lt_of_lt_of_le h.hg h.fr.below.size)), h.hb, h.hg⟩
theorem CI.step {w wx u : World} {g b : Nat} {a : Option Addr} {len cap : Nat} {c : CN} {v : Value} {n m : Int} (h : CI w wx g b a len cap c v n) (hd : DC u g a len cap m) (hf : SrF g wx u) : CI w u g b a len cap c v m := by
  have h1 := h.hb
  have h2 := h.hg
  refine ⟨h.cn.src (by omega) hf, h.row.src h.src hf, h.right, hd, ?_, h.fr.trans hf, h.hb, h.hg⟩
  unfold ZeroC
  rw [hf.keep _ h.res.lt (by omega)]
  exact h.res
theorem CI.put {w wx u : World} {g b : Nat} {a : Option Addr} {len cap : Nat} {c : CN} {v : Value} {n : Int} (h : CI w wx g b a len cap c v n) (hb : Below wx.heap.size wx u) (d : CN) (x : Value) (hrow : RowC u x d.s) (hr : connB d = true) : CI w (fiveC u b d x) g b a len cap d x n := by
  have h' := h.later hb
  have h1 := h.hb
  have h2 := h.hg
  refine ⟨h'.cn.five d x, hrow.five h'.cn, hr, h'.src.five (by omega), ?_, h'.fr.five h2 (Nat.le_of_lt h1), h1, h2⟩
  unfold ZeroC
  rw [fiveC_other _ _ _ _ _ (by omega)]
  exact h'.res
theorem CI.start {w w1 : World} {g : Nat} {a : Option Addr} {len cap : Nat} {v : Value} {n : Int} (hd : DC w g a len cap n) (hb : Below (w.heap.size + 1) (w.alloc (.cells #[.bool false, .bool false, .string ⟨#[]⟩, .slice none 0 0, .int .i64 0] 25)) w1) (hrow : SlBuf w1 (w.heap.size + 1) v []) :
    CI w (w1.alloc (.cells #[.bool true, .bool false, .string ⟨#[]⟩, v, .int .i64 0] 25)) g w1.heap.size a len cap CN.start v n := by
  have hb0 : Below w.heap.size w w1 := (qx_alloc w (.cells #[.bool false, .bool false, .string ⟨#[]⟩, .slice none 0 0, .int .i64 0] 25)).trans (hb.mono (by omega))
  have hb1 := qx_al (o := .cells #[.bool true, .bool false, .string ⟨#[]⟩, v, .int .i64 0] 25) hb0
  have hz : w.heap.size < w1.heap.size := by have := hb.size; simp at this; omega
  refine ⟨CnB.new w1 CN.start v w1.heap.size rfl, (SlBuf.rowC hrow).later (qx_alloc _ _), rfl, hd.later hb1, ?_, SrF.of hb1 hd.g_lt, hz, hd.g_lt⟩
  refine ZeroC.later ?_ (qx_alloc _ _)
  unfold ZeroC
  rw [hb.block _ (by omega)]
  show (w.heap.push _)[w.heap.size]? = _
  rw [Array.getElem?_push, if_pos rfl]

/-- the number of slot j -/
def seqQ (s : List SL) (j : Nat) : Int := ((s[j]?).map (·.q)).getD 0
theorem slotQ_at {W : World} {vb off L cp : Nat} {s : List SL} (hL : s.length = L) (h : RowSl W (.slice (some ⟨vb, off, none⟩) L cp) s) (j : Nat) (hj : j < L) : W.cell? ⟨vb, off + j * 3, none⟩ = some (.int .i64 (seqQ s j)) := by
  subst hL
  rcases h with ⟨e, _⟩ | ⟨g, o, c, e, hat⟩
  · cases e
  · injection e with e1 _ _
    injection e1 with e1
    injection e1 with e2 e3 _
    subst e2 e3
    rw [(hat j hj).1]
    unfold seqQ
    rw [List.getElem?_eq_getElem hj]
    rfl

set_option maxHeartbeats 16000000 in
set_option maxRecDepth 100000 in
theorem connC_any (g : Nat) (a : Option Addr) (len cap : Nat) (w : World) (h : DC w g a len cap 0) (hlen : len ≤ 1048577) :
    Calls Tryz.prog 34 #[.pointer (some ⟨g, 0, none⟩)] w fun e w' => ∃ (c : CN) (v : Value), e = .returned (cnV c v) ∧ RowC w' v c.s ∧ connB c = true ∧ Below g w w' := by
  have HD := hide h
  clear h
  go_enter Tryz.func34, Tryz.ntmps34
  go_wp2_with fail
  refine (specOpen_any _).mono ?_
  rintro e w1 ⟨v1, rfl, hrow, hb1⟩
  simp only [World.size_alloc] at hrow hb1
  have HC := hide (CI.start (unhide HD) hb1 hrow)
  have hz1 : w.heap.size < w1.heap.size := by have := hb1.size; simp at this; omega
  obtain ⟨p1, k1, hv1⟩ := hrow.slice
  subst hv1
  simp only [List.length_nil] at HC ⊢
  dsimp only [cnV, CN.start] at *
  clear hrow hb1 HD
  go_wp2_with fail
  refine (nextC_any g a len cap 0 9 _ (unhide HC).src hlen (by omega) (by omega) (by omega)).mono ?_
  rintro e w2 ⟨r, n1, rfl, r0, r9, hn1, hd, hf⟩
  have HC2 := hide ((unhide HC).step hd hf)
  obtain ⟨k0, rfl⟩ := Int.eq_ofNat_of_zero_le r0
  generalize hB : w1.heap.size = B at *
  clear hd hf HC hB hz1
  go_wp2
  go_loopw [4] (fun ix wx => ∃ (k : Nat) (c : CN) (v : Value) (n : Int), ix = .int .i64 k ∧ n + 6 * k ≤ 100 ∧ k ≤ 9 ∧ Hid (CI w wx g B a len cap c v n)) (fun ix _ => (intOf ix).toNat)
  case atStart => exact ⟨k0, _, _, n1, rfl, by omega, by omega, hide (unhide HC2)⟩
  case round =>
    obtain ⟨k, c, v, n, rfl, hn, hk9, hI⟩ := hrel
    clear HC2
    by_cases hk : 0 < k
    · have hk' : (0 : Int) < (k : Int) := by omega
      go_wp2_with fail
      refine (nextC_any g a len cap n 5 _ (unhide hI).src hlen (by omega) (by omega) (by omega)).mono ?_
      rintro e w3 ⟨r, n3, rfl, r0, r5, hn3, hd3, hf3⟩
      have H3 := hide ((unhide hI).step hd3 hf3)
      obtain ⟨p, cp, hv, _⟩ := (unhide H3).row.1.slice
      subst hv
      have HFl := hide (specFlush_any c _ w3 (unhide H3).row (unhide H3).right)
      have HNx := hide (specNext_any c _ w3 (unhide H3).row (unhide H3).right)
      have HRF := hide (show connB (flushS c).c = true by rw [← flushS_is (unhide H3).right]; exact flushC_right (unhide H3).right)
      have HRN := hide (nextC_right (unhide H3).right)
      obtain ⟨x0, x1, x2, x3, x4⟩ := (unhide H3).cn.cells
      clear hd3 hf3 hI
      generalize hL : c.s.length = L at *
      have HL := hide hL
      clear hL
      have hr : r = 0 ∨ r = 1 ∨ r = 2 ∨ r = 3 ∨ r = 4 := by omega
      rcases hr with rfl | rfl | rfl | rfl | rfl
      · clear HNx HRN
        generalize flushS c = F at *
        obtain ⟨d, ft, fx, fe⟩ := F
        dsimp only [cnV] at HFl HRF
        go_wp2_with fail
        refine (unhide HFl).mono ?_
        rintro e w4 ⟨v4, rfl, hrow4, hb4⟩
        dsimp only at hrow4
        dsimp only [cnV]
        have H4 := hide ((unhide H3).put hb4 d v4 hrow4 (unhide HRF))
        have hcn := (unhide H3).cn.later hb4
        obtain ⟨y0, y1, y2, y3, y4⟩ := hcn.cells
        obtain ⟨f0, f1, f2, f3, f4⟩ := hcn.free
        obtain ⟨p4, c4, hv4, _⟩ := hrow4.1.slice
        subst hv4
        generalize d.s.length = L4 at *
        clear hb4 hrow4 hcn HFl x0 x1 x2 x3 x4
        go_wp2
        go_roundw
        case rel => exact ⟨k - 1, d, _, n3, by go_num, by omega, by omega, hide (unhide H4)⟩
        case measure => simp [intOf]; omega
      · clear HFl HRF HNx HRN
        by_cases hL0 : 0 < L
        · have hL0' : (0 : Int) < (L : Int) := by omega
          have hL6 : L ≤ 6 := by have := (connB_few (unhide H3).right).2.2.2; rw [unhide HL] at this; exact this
          have HI := hide ((unhide H3).later (qx_drew (Below.refl _ _)))
          obtain ⟨vb, off, hp⟩ : ∃ vb off, p = some ⟨vb, off, none⟩ := by
            rcases (unhide H3).row.1 with ⟨_, h0⟩ | ⟨vb, off, cp', e, _⟩
            · have := unhide HL; rw [h0] at this; simp at this; omega
            · exact ⟨vb, off, by injection e⟩
          subst hp
          have HTk := hide (fun (W : World) (hrow : RowC W (.slice (some ⟨vb, off, none⟩) L cp) c.s) (q : Int) (t : ByteArray) (ht : 1 ≤ t.size ∧ t.size ≤ 300) => specReady_any c (.slice (some ⟨vb, off, none⟩) L cp) q t W hrow (unhide H3).right ht)
          have HTR := hide (fun (q : Int) (t : ByteArray) (ht : 1 ≤ t.size ∧ t.size ≤ 300) => readyC_right (seq := q) (unhide H3).right ht)
          have HSq := hide (fun (W : World) (n' : Int) (hI' : CI w W g B a len cap c (.slice (some ⟨vb, off, none⟩) L cp) n') (j : Nat) (hj : j < L) => slotQ_at (unhide HL) hI'.row.1 j hj)
          dsimp only [cnV] at HTk
          have hn9 : n3 ≤ 95 := by omega
          clear H3
          go_wp2_with fail
          refine wp_region_V (fun wx => ∃ n' : Int, CI w wx g B a len cap c (.slice (some ⟨vb, off, none⟩) L cp) n') 18 (by kernel_rfl) ?_
          clear x0 x1 x2 x3 x4
          refine AnyV.take (i := 1) (v := ?_) rfl (by kernel_rfl) (by kernel_rfl) (by kernel_rfl) (by kernel_rfl) (by kernel_rfl) (fun _ _ _ h => h) ⟨_, unhide HI⟩ (Or.inl ⟨by rfl, ?_⟩) ?_
          rotate_left
          · (intro w' _; go_simp <;> with_reducible rfl)
          refine AnyV.take (i := 3) (v := ?_) rfl (by kernel_rfl) (by kernel_rfl) (by kernel_rfl) (by kernel_rfl) (by kernel_rfl) (fun _ _ _ h => h) ⟨_, unhide HI⟩ (Or.inl ⟨by rfl, ?_⟩) ?_
          rotate_left
          · (intro w' _; go_simp <;> with_reducible rfl)
          refine AnyV.take (i := 4) (v := ?_) rfl (by kernel_rfl) (by kernel_rfl) (by kernel_rfl) (by kernel_rfl) (by kernel_rfl) (fun _ _ _ h => h) ⟨_, unhide HI⟩ (Or.inl ⟨by rfl, ?_⟩) ?_
          rotate_left
          · (intro w' _; go_simp <;> with_reducible rfl)
          refine AnyV.take (i := 11) (v := ?_) rfl (by kernel_rfl) (by kernel_rfl) (by kernel_rfl) (by kernel_rfl) (by kernel_rfl) (fun _ _ _ h => h) ⟨_, unhide HI⟩ (Or.inl ⟨by rfl, ?_⟩) ?_
          rotate_left
          · (intro w' _; go_simp <;> with_reducible rfl)
          refine AnyV.take (i := 0) (v := ?_) rfl (by kernel_rfl) (by kernel_rfl) (by kernel_rfl) (by kernel_rfl) (by kernel_rfl) (fun _ _ _ h => h) ⟨_, unhide HI⟩ (Or.inl ⟨by rfl, ?_⟩) ?_
          rotate_left
          · (intro w' hS'; obtain ⟨n', hI'⟩ := hS'; obtain ⟨x0, x1, x2, x3, x4⟩ := hI'.cn.cells; clear hI'; go_simp <;> with_reducible rfl)
          refine AnyV.take (i := 2) (v := ?_) rfl (by kernel_rfl) (by kernel_rfl) (by kernel_rfl) (by kernel_rfl) (by kernel_rfl) (fun _ _ _ h => h) ⟨_, unhide HI⟩ (Or.inl ⟨by rfl, ?_⟩) ?_
          rotate_left
          · (intro w' hS'; obtain ⟨n', hI'⟩ := hS'; obtain ⟨x0, x1, x2, x3, x4⟩ := hI'.cn.cells; clear hI'; go_simp <;> with_reducible rfl)
          refine AnyV.take (i := 5) (v := ?_) rfl (by kernel_rfl) (by kernel_rfl) (by kernel_rfl) (by kernel_rfl) (by kernel_rfl) (fun _ _ _ h => h) ⟨_, unhide HI⟩ (Or.inl ⟨by rfl, ?_⟩) ?_
          rotate_left
          · (intro w' hS'; obtain ⟨n', hI'⟩ := hS'; obtain ⟨x0, x1, x2, x3, x4⟩ := hI'.cn.cells; clear hI'; go_simp <;> with_reducible rfl)
          refine AnyV.take (i := 6) (v := ?_) rfl (by kernel_rfl) (by kernel_rfl) (by kernel_rfl) (by kernel_rfl) (by kernel_rfl) (fun _ _ _ h => h) ⟨_, unhide HI⟩ (Or.inl ⟨by rfl, ?_⟩) ?_
          rotate_left
          · (intro w' _; go_simp <;> with_reducible rfl)
          refine AnyV.branch (l := [7, 12]) (by kernel_rfl) (by simp) (AllV.cons rfl (fun K hK => ?_) (AllV.cons rfl (fun K hK => ?_) AllV.nil))
          · go_simp
            go_at_call 59
            refine (nextC_any g a len cap n3 (L : Int) _ (unhide HI).src hlen (by omega) (by omega) (by omega)).mono ?_
            rintro e y ⟨r, n4, rfl, r0, rL, hn4, hd, hf⟩
            obtain ⟨j, rfl⟩ := Int.eq_ofNat_of_zero_le r0
            have hjL : j < L := by omega
            have HI := hide ((unhide HI).step hd hf)
            clear hd hf r0
            dsimp only
            refine unhide hK _ _ (fun _ _ => ⟨_, unhide HI⟩) ?_
            clear hK
            refine AnyV.take (i := 8) (v := ?_) rfl (by kernel_rfl) (by kernel_rfl) (by kernel_rfl) (by kernel_rfl) (by kernel_rfl) (fun _ _ _ h => h) ⟨_, unhide HI⟩ (Or.inl ⟨by rfl, ?_⟩) ?_
            rotate_left
            · (intro w' _; go_simp <;> with_reducible rfl)
            refine AnyV.take (i := 9) (v := ?_) rfl (by kernel_rfl) (by kernel_rfl) (by kernel_rfl) (by kernel_rfl) (by kernel_rfl) (fun _ _ _ h => h) ⟨_, unhide HI⟩ (Or.inl ⟨by rfl, ?_⟩) ?_
            rotate_left
            · (intro w' _; go_simp <;> with_reducible rfl)
            refine AnyV.take (i := 10) (v := ?_) rfl (by kernel_rfl) (by kernel_rfl) (by kernel_rfl) (by kernel_rfl) (by kernel_rfl) (fun _ _ _ h => h) ⟨_, unhide HI⟩ (Or.inl ⟨by rfl, ?_⟩) ?_
            rotate_left
            · (intro w' hS'; obtain ⟨n', hI'⟩ := hS'; obtain ⟨x0, x1, x2, x3, x4⟩ := hI'.cn.cells; have hsq := unhide HSq _ _ hI' j hjL; clear hI'; go_simp <;> with_reducible rfl)
            refine AnyV.branch (l := [12]) (by kernel_rfl) (by simp) (AllV.cons rfl (fun K hK => ?_) AllV.nil)
            go_simp
            refine unhide hK _ _ (fun _ _ => ⟨_, (unhide HI).later (qx_alloc _ _)⟩) ?_
            clear hK
            refine AnyV.branch (l := [13]) (by kernel_rfl) (by simp) (AllV.cons rfl (fun K hK => ?_) AllV.nil)
            go_simp
            go_at_call 61
            refine (pick2_any g a len cap n4 _ _ _ ⟨#[114, 101, 112, 108, 121]⟩ ⟨#[116, 101, 120, 116]⟩ ((unhide HI).later (qx_alloc _ _)).src hlen (by omega) (by have := (unhide HI).src.g_lt; omega) (by simp) (by simp)).mono ?_
            rintro e y ⟨t, ht, rfl, hd, hf⟩
            have hts : 1 ≤ t.size ∧ t.size ≤ 300 := by rcases ht with rfl | rfl <;> decide
            have HI := hide (((unhide HI).later (qx_alloc _ _)).step hd hf)
            clear hd hf ht
            dsimp only
            refine unhide hK _ _ (fun _ _ => ⟨_, unhide HI⟩) ?_
            clear hK
            refine AnyV.branch (l := [14]) (by kernel_rfl) (by simp) (AllV.cons rfl (fun K hK => ?_) AllV.nil)
            go_simp
            go_at_call 60
            refine (unhide HTk _ (unhide HI).row _ _ hts).mono ?_
            rintro e y ⟨v4, rfl, hrow4, hb4⟩
            have HR4 := hide (unhide HTR (seqQ c.s j) _ hts)
            generalize readyC c (seqQ c.s j) t = D at *
            obtain ⟨d, dc⟩ := D
            dsimp only at hrow4 HR4
            dsimp only [cnV]
            have H4 := hide ((unhide HI).put hb4 d v4 hrow4 (unhide HR4))
            have HI := hide ((unhide HI).later hb4)
            obtain ⟨y0, y1, y2, y3, y4⟩ := (unhide HI).cn.cells
            obtain ⟨f0, f1, f2, f3, f4⟩ := (unhide HI).cn.free
            obtain ⟨p4, c4, hv4, _⟩ := hrow4.1.slice
            subst hv4
            generalize d.s.length = L4 at *
            clear hb4 hrow4
            refine unhide hK _ _ (fun _ _ => ⟨_, unhide HI⟩) ?_
            clear hK
            refine AnyV.take (i := 15) (v := ?_) rfl (by kernel_rfl) (by kernel_rfl) (by kernel_rfl) (by kernel_rfl) (by kernel_rfl) (fun _ _ _ h => h) ⟨_, unhide HI⟩ (Or.inl ⟨by rfl, ?_⟩) ?_
            rotate_left
            · (intro w' _; go_simp <;> with_reducible rfl)
            refine AnyV.take (i := 16) (v := ?_) rfl (by kernel_rfl) (by kernel_rfl) (by kernel_rfl) (by kernel_rfl) (by kernel_rfl) (fun _ _ _ h => h) ⟨_, unhide HI⟩ (Or.inl ⟨by rfl, ?_⟩) ?_
            rotate_left
            · (intro w' _; go_simp <;> with_reducible rfl)
            refine AnyV.branch (l := [17, 18]) (by kernel_rfl) (by simp) (AllV.cons rfl (fun K hK => ?_) (AllV.cons rfl (fun K hK => ?_) AllV.nil))
            · go_simp
              refine unhide hK _ _ (fun _ _ => ⟨_, unhide HI⟩) ?_
              clear hK
              refine AnyV.branch (l := [18]) (by kernel_rfl) (by simp) (AllV.cons rfl (fun K hK => ?_) AllV.nil)
              go_simp
              refine unhide hK _ _ (fun _ h => absurd rfl h) ?_
              clear hK
              refine AnyV.done (by kernel_rfl) ?_ _
              go_wp2
              go_roundw
              case rel => exact ⟨k - 1, d, _, _, by go_num, by omega, by omega, hide (unhide H4)⟩
              case measure => simp [intOf]; omega
            · go_simp
              refine unhide hK _ _ (fun _ h => absurd rfl h) ?_
              clear hK
              refine AnyV.branch (l := [17]) (by kernel_rfl) (by simp) (AllV.cons rfl (fun K hK => ?_) AllV.nil)
              go_simp
              refine unhide hK _ _ (fun h _ => absurd (Eq.trans (Eq.symm h) (by kernel_rfl)) (by decide : ¬ (false = true))) ?_
              clear hK
              refine AnyV.done (by kernel_rfl) ?_ _
              go_wp2
              go_roundw
              case rel => exact ⟨k - 1, d, _, _, by go_num, by omega, by omega, hide (unhide H4)⟩
              case measure => simp [intOf]; omega
          · go_simp
            refine unhide hK _ _ (fun _ _ => ⟨_, (unhide HI).later (qx_alloc _ _)⟩) ?_
            clear hK
            have HI0 := hide ((unhide HI).later (qx_alloc _ (.cells #[.string ⟨#[114, 101, 112, 108, 121]⟩, .string ⟨#[116, 101, 120, 116]⟩] 9)))
            have hg3 := (unhide HI).src.g_lt
            clear HI
            have HI := HI0
            clear HI0
            refine AnyV.branch (l := [7]) (by kernel_rfl) (by simp) (AllV.cons rfl (fun K hK => ?_) AllV.nil)
            go_simp
            go_at_call 59
            refine (nextC_any g a len cap n3 (L : Int) _ (unhide HI).src hlen (by omega) (by omega) (by omega)).mono ?_
            rintro e y ⟨r, n4, rfl, r0, rL, hn4, hd, hf⟩
            obtain ⟨j, rfl⟩ := Int.eq_ofNat_of_zero_le r0
            have hjL : j < L := by omega
            have hl0 := (World.cell?_of_block (a := ⟨w3.heap.size, 0, none⟩) (hf.keep w3.heap.size (by show _ < (w3.heap.push _).size; simp) (by have : g < w3.heap.size := hg3; omega))).trans (show (w3.alloc (.cells #[.string ⟨#[114, 101, 112, 108, 121]⟩, .string ⟨#[116, 101, 120, 116]⟩] 9)).cell? ⟨w3.heap.size, 0, none⟩ = some (Value.string ⟨#[114, 101, 112, 108, 121]⟩) by simp)
            have hl1 := (World.cell?_of_block (a := ⟨w3.heap.size, 1, none⟩) (hf.keep w3.heap.size (by show _ < (w3.heap.push _).size; simp) (by have : g < w3.heap.size := hg3; omega))).trans (show (w3.alloc (.cells #[.string ⟨#[114, 101, 112, 108, 121]⟩, .string ⟨#[116, 101, 120, 116]⟩] 9)).cell? ⟨w3.heap.size, 1, none⟩ = some (Value.string ⟨#[116, 101, 120, 116]⟩) by simp)
            have HI := hide ((unhide HI).step hd hf)
            clear hd hf r0
            dsimp only
            refine unhide hK _ _ (fun _ _ => ⟨_, unhide HI⟩) ?_
            clear hK
            refine AnyV.take (i := 8) (v := ?_) rfl (by kernel_rfl) (by kernel_rfl) (by kernel_rfl) (by kernel_rfl) (by kernel_rfl) (fun _ _ _ h => h) ⟨_, unhide HI⟩ (Or.inl ⟨by rfl, ?_⟩) ?_
            rotate_left
            · (intro w' _; go_simp <;> with_reducible rfl)
            refine AnyV.take (i := 9) (v := ?_) rfl (by kernel_rfl) (by kernel_rfl) (by kernel_rfl) (by kernel_rfl) (by kernel_rfl) (fun _ _ _ h => h) ⟨_, unhide HI⟩ (Or.inl ⟨by rfl, ?_⟩) ?_
            rotate_left
            · (intro w' _; go_simp <;> with_reducible rfl)
            refine AnyV.take (i := 10) (v := ?_) rfl (by kernel_rfl) (by kernel_rfl) (by kernel_rfl) (by kernel_rfl) (by kernel_rfl) (fun _ _ _ h => h) ⟨_, unhide HI⟩ (Or.inl ⟨by rfl, ?_⟩) ?_
            rotate_left
            · (intro w' hS'; obtain ⟨n', hI'⟩ := hS'; obtain ⟨x0, x1, x2, x3, x4⟩ := hI'.cn.cells; have hsq := unhide HSq _ _ hI' j hjL; clear hI'; go_simp <;> with_reducible rfl)
            refine AnyV.branch (l := [13]) (by kernel_rfl) (by simp) (AllV.cons rfl (fun K hK => ?_) AllV.nil)
            go_simp
            go_at_call 61
            refine (pick2_any g a len cap n4 _ _ _ ⟨#[114, 101, 112, 108, 121]⟩ ⟨#[116, 101, 120, 116]⟩ (unhide HI).src hlen (by omega) (by have : g < w3.heap.size := hg3; omega) hl0 hl1).mono ?_
            rintro e y ⟨t, ht, rfl, hd, hf⟩
            have hts : 1 ≤ t.size ∧ t.size ≤ 300 := by rcases ht with rfl | rfl <;> decide
            have HI := hide ((unhide HI).step hd hf)
            clear hd hf ht
            dsimp only
            refine unhide hK _ _ (fun _ _ => ⟨_, unhide HI⟩) ?_
            clear hK
            refine AnyV.branch (l := [14]) (by kernel_rfl) (by simp) (AllV.cons rfl (fun K hK => ?_) AllV.nil)
            go_simp
            go_at_call 60
            refine (unhide HTk _ (unhide HI).row _ _ hts).mono ?_
            rintro e y ⟨v4, rfl, hrow4, hb4⟩
            have HR4 := hide (unhide HTR (seqQ c.s j) _ hts)
            generalize readyC c (seqQ c.s j) t = D at *
            obtain ⟨d, dc⟩ := D
            dsimp only at hrow4 HR4
            dsimp only [cnV]
            have H4 := hide ((unhide HI).put hb4 d v4 hrow4 (unhide HR4))
            have HI := hide ((unhide HI).later hb4)
            obtain ⟨y0, y1, y2, y3, y4⟩ := (unhide HI).cn.cells
            obtain ⟨f0, f1, f2, f3, f4⟩ := (unhide HI).cn.free
            obtain ⟨p4, c4, hv4, _⟩ := hrow4.1.slice
            subst hv4
            generalize d.s.length = L4 at *
            clear hb4 hrow4
            refine unhide hK _ _ (fun _ _ => ⟨_, unhide HI⟩) ?_
            clear hK
            refine AnyV.take (i := 15) (v := ?_) rfl (by kernel_rfl) (by kernel_rfl) (by kernel_rfl) (by kernel_rfl) (by kernel_rfl) (fun _ _ _ h => h) ⟨_, unhide HI⟩ (Or.inl ⟨by rfl, ?_⟩) ?_
            rotate_left
            · (intro w' _; go_simp <;> with_reducible rfl)
            refine AnyV.take (i := 16) (v := ?_) rfl (by kernel_rfl) (by kernel_rfl) (by kernel_rfl) (by kernel_rfl) (by kernel_rfl) (fun _ _ _ h => h) ⟨_, unhide HI⟩ (Or.inl ⟨by rfl, ?_⟩) ?_
            rotate_left
            · (intro w' _; go_simp <;> with_reducible rfl)
            refine AnyV.branch (l := [17, 18]) (by kernel_rfl) (by simp) (AllV.cons rfl (fun K hK => ?_) (AllV.cons rfl (fun K hK => ?_) AllV.nil))
            · go_simp
              refine unhide hK _ _ (fun _ _ => ⟨_, unhide HI⟩) ?_
              clear hK
              refine AnyV.branch (l := [18]) (by kernel_rfl) (by simp) (AllV.cons rfl (fun K hK => ?_) AllV.nil)
              go_simp
              refine unhide hK _ _ (fun _ h => absurd rfl h) ?_
              clear hK
              refine AnyV.done (by kernel_rfl) ?_ _
              go_wp2
              go_roundw
              case rel => exact ⟨k - 1, d, _, _, by go_num, by omega, by omega, hide (unhide H4)⟩
              case measure => simp [intOf]; omega
            · go_simp
              refine unhide hK _ _ (fun _ h => absurd rfl h) ?_
              clear hK
              refine AnyV.branch (l := [17]) (by kernel_rfl) (by simp) (AllV.cons rfl (fun K hK => ?_) AllV.nil)
              go_simp
              refine unhide hK _ _ (fun h _ => absurd (Eq.trans (Eq.symm h) (by kernel_rfl)) (by decide : ¬ (false = true))) ?_
              clear hK
              refine AnyV.done (by kernel_rfl) ?_ _
              go_wp2
              go_roundw
              case rel => exact ⟨k - 1, d, _, _, by go_num, by omega, by omega, hide (unhide H4)⟩
              case measure => simp [intOf]; omega
        · have hL0' : ¬ (0 : Int) < (L : Int) := by omega
          go_wp2
          go_roundw
          case rel => exact ⟨k - 1, c, _, n3, by go_num, by omega, by omega, hide (unhide H3)⟩
          case measure => simp [intOf]; omega
      · clear HFl HRF HNx HRN
        have HI := hide ((unhide H3).later (qx_drew (Below.refl _ _)))
        have HTk := hide (fun (W : World) (hrow : RowC W (.slice p L cp) c.s) (t : ByteArray) (ht : t.size ≤ 65536) => specTake_any c (.slice p L cp) t W hrow (unhide H3).right ht)
        have HTR := hide (fun (t : ByteArray) (ht : t.size ≤ 65536) => takeC_right t (unhide H3).right ht)
        dsimp only [cnV] at HTk
        have hn9 : n3 ≤ 95 := by omega
        clear H3
        go_wp2_with fail
        refine wp_region_V (fun wx => ∃ n' : Int, CI w wx g B a len cap c (.slice p L cp) n') 14 (by kernel_rfl) ?_
        clear x0 x1 x2 x3 x4
        refine AnyV.take (i := 0) (v := ?_) rfl (by kernel_rfl) (by kernel_rfl) (by kernel_rfl) (by kernel_rfl) (by kernel_rfl) (fun _ _ _ h => h) ⟨_, unhide HI⟩ (Or.inl ⟨by rfl, ?_⟩) ?_
        rotate_left
        · (intro w' hS'; obtain ⟨n', hI'⟩ := hS'; obtain ⟨x0, x1, x2, x3, x4⟩ := hI'.cn.cells; clear hI'; go_simp <;> with_reducible rfl)
        refine AnyV.take (i := 1) (v := ?_) rfl (by kernel_rfl) (by kernel_rfl) (by kernel_rfl) (by kernel_rfl) (by kernel_rfl) (fun _ _ _ h => h) ⟨_, unhide HI⟩ (Or.inl ⟨by rfl, ?_⟩) ?_
        rotate_left
        · (intro w' _; go_simp <;> with_reducible rfl)
        refine AnyV.take (i := 2) (v := ?_) rfl (by kernel_rfl) (by kernel_rfl) (by kernel_rfl) (by kernel_rfl) (by kernel_rfl) (fun _ _ _ h => h) ⟨_, unhide HI⟩ (Or.inl ⟨by rfl, ?_⟩) ?_
        rotate_left
        · (intro w' _; go_simp <;> with_reducible rfl)
        refine AnyV.take (i := 5) (v := ?_) rfl (by kernel_rfl) (by kernel_rfl) (by kernel_rfl) (by kernel_rfl) (by kernel_rfl) (fun _ _ _ h => h) ⟨_, unhide HI⟩ (Or.inl ⟨by rfl, ?_⟩) ?_
        rotate_left
        · (intro w' _; go_simp <;> with_reducible rfl)
        refine AnyV.branch (l := [3]) (by kernel_rfl) (by simp) (AllV.cons rfl (fun K hK => ?_) AllV.nil)
        go_simp
        go_at_call 41
        refine (requestC_any g a len cap _ _ (unhide HI).src hlen (by omega)).mono ?_
        rintro e y ⟨j1, cb1, hj, rfl, hd, hf⟩
        have HI := hide ((unhide HI).step hd hf)
        obtain ⟨hp1, hq1⟩ := wireP_few j1 cb1 hj
        clear hd hf hj
        dsimp only
        refine unhide hK _ _ (fun _ _ => ⟨_, unhide HI⟩) ?_
        clear hK
        refine AnyV.branch (l := [4]) (by kernel_rfl) (by simp) (AllV.cons rfl (fun K hK => ?_) AllV.nil)
        go_simp
        go_at_call 24
        refine (l08Text_any _ _ _ hp1).mono ?_
        rintro e y ⟨rfl, hb⟩
        have HI := hide ((unhide HI).later hb)
        clear hb
        dsimp only
        refine unhide hK _ _ (fun _ _ => ⟨_, unhide HI⟩) ?_
        clear hK
        refine AnyV.branch (l := [6]) (by kernel_rfl) (by simp) (AllV.cons rfl (fun K hK => ?_) AllV.nil)
        go_simp
        go_at_call 41
        refine (requestC_any g a len cap _ _ (unhide HI).src hlen (by omega)).mono ?_
        rintro e y ⟨j2, cb2, hj, rfl, hd, hf⟩
        have HI := hide ((unhide HI).step hd hf)
        obtain ⟨hp2, hq2⟩ := wireP_few j2 cb2 hj
        clear hd hf hj
        dsimp only
        refine unhide hK _ _ (fun _ _ => ⟨_, unhide HI⟩) ?_
        clear hK
        refine AnyV.branch (l := [7]) (by kernel_rfl) (by simp) (AllV.cons rfl (fun K hK => ?_) AllV.nil)
        go_simp
        go_at_call 24
        refine (l08Text_any _ _ _ hp2).mono ?_
        rintro e y ⟨rfl, hb⟩
        have HI := hide ((unhide HI).later hb)
        clear hb
        dsimp only
        refine unhide hK _ _ (fun _ _ => ⟨_, unhide HI⟩) ?_
        clear hK
        refine AnyV.branch (l := [8]) (by kernel_rfl) (by simp) (AllV.cons rfl (fun K hK => ?_) AllV.nil)
        go_simp
        refine unhide hK _ _ (fun _ _ => ⟨_, (unhide HI).later (qx_alloc _ _)⟩) ?_
        clear hK
        refine AnyV.branch (l := [9]) (by kernel_rfl) (by simp) (AllV.cons rfl (fun K hK => ?_) AllV.nil)
        go_simp
        go_at_call 61
        refine (pick4_any g a len cap _ _ _ _ _ _ (unhide HI).src hlen (by omega)).mono ?_
        rintro e y ⟨t, ht, rfl, hd, hf⟩
        have hts : t.size ≤ 65536 := by rcases ht with rfl | rfl | rfl | rfl <;> first | omega | decide
        have HI := hide ((unhide HI).step hd hf)
        clear hd hf ht
        dsimp only
        refine unhide hK _ _ (fun _ _ => ⟨_, unhide HI⟩) ?_
        clear hK
        refine AnyV.branch (l := [10]) (by kernel_rfl) (by simp) (AllV.cons rfl (fun K hK => ?_) AllV.nil)
        go_simp
        go_at_call 62
        refine (unhide HTk _ (unhide HI).row _ hts).mono ?_
        rintro e y ⟨v4, rfl, hrow4, hb4⟩
        have HR4 := hide (unhide HTR _ hts)
        generalize takeC c t = D at *
        obtain ⟨d, dc⟩ := D
        dsimp only at hrow4 HR4
        dsimp only [cnV]
        have H4 := hide ((unhide HI).put hb4 d v4 hrow4 (unhide HR4))
        have HI := hide ((unhide HI).later hb4)
        obtain ⟨y0, y1, y2, y3, y4⟩ := (unhide HI).cn.cells
        obtain ⟨f0, f1, f2, f3, f4⟩ := (unhide HI).cn.free
        obtain ⟨p4, c4, hv4, _⟩ := hrow4.1.slice
        subst hv4
        generalize d.s.length = L4 at *
        clear hb4 hrow4
        refine unhide hK _ _ (fun _ _ => ⟨_, unhide HI⟩) ?_
        clear hK
        refine AnyV.take (i := 11) (v := ?_) rfl (by kernel_rfl) (by kernel_rfl) (by kernel_rfl) (by kernel_rfl) (by kernel_rfl) (fun _ _ _ h => h) ⟨_, unhide HI⟩ (Or.inl ⟨by rfl, ?_⟩) ?_
        rotate_left
        · (intro w' _; go_simp <;> with_reducible rfl)
        refine AnyV.take (i := 12) (v := ?_) rfl (by kernel_rfl) (by kernel_rfl) (by kernel_rfl) (by kernel_rfl) (by kernel_rfl) (fun _ _ _ h => h) ⟨_, unhide HI⟩ (Or.inl ⟨by rfl, ?_⟩) ?_
        rotate_left
        · (intro w' _; go_simp <;> with_reducible rfl)
        refine AnyV.branch (l := [13, 14]) (by kernel_rfl) (by simp) (AllV.cons rfl (fun K hK => ?_) (AllV.cons rfl (fun K hK => ?_) AllV.nil))
        · go_simp
          refine unhide hK _ _ (fun _ _ => ⟨_, unhide HI⟩) ?_
          clear hK
          refine AnyV.branch (l := [14]) (by kernel_rfl) (by simp) (AllV.cons rfl (fun K hK => ?_) AllV.nil)
          go_simp
          refine unhide hK _ _ (fun _ h => absurd rfl h) ?_
          clear hK
          refine AnyV.done (by kernel_rfl) ?_ _
          go_wp2
          go_roundw
          case rel => exact ⟨k - 1, d, _, _, by go_num, by omega, by omega, hide (unhide H4)⟩
          case measure => simp [intOf]; omega
        · go_simp
          refine unhide hK _ _ (fun _ h => absurd rfl h) ?_
          clear hK
          refine AnyV.branch (l := [13]) (by kernel_rfl) (by simp) (AllV.cons rfl (fun K hK => ?_) AllV.nil)
          go_simp
          refine unhide hK _ _ (fun h _ => absurd (Eq.trans (Eq.symm h) (by kernel_rfl)) (by decide : ¬ (false = true))) ?_
          clear hK
          refine AnyV.done (by kernel_rfl) ?_ _
          go_wp2
          go_roundw
          case rel => exact ⟨k - 1, d, _, _, by go_num, by omega, by omega, hide (unhide H4)⟩
          case measure => simp [intOf]; omega
      all_goals
        clear HFl HRF
        generalize nextC c = F at *
        obtain ⟨d, fp, fx, fq, fe⟩ := F
        dsimp only [cnV] at HNx HRN
        go_wp2_with fail
        refine (unhide HNx).mono ?_
        rintro e w4 ⟨v4, rfl, hrow4, hb4⟩
        dsimp only at hrow4
        dsimp only [cnV]
        have H4 := hide ((unhide H3).put hb4 d v4 hrow4 (unhide HRN))
        have hcn := (unhide H3).cn.later hb4
        obtain ⟨y0, y1, y2, y3, y4⟩ := hcn.cells
        obtain ⟨f0, f1, f2, f3, f4⟩ := hcn.free
        obtain ⟨p4, c4, hv4, _⟩ := hrow4.1.slice
        subst hv4
        generalize d.s.length = L4 at *
        clear hb4 hrow4 hcn HNx x0 x1 x2 x3 x4
        go_wp2
        go_roundw
        case rel => exact ⟨k - 1, d, _, n3, by go_num, by omega, by omega, hide (unhide H4)⟩
        case measure => simp [intOf]; omega
    · have hk' : ¬ (0 : Int) < (k : Int) := by omega
      obtain ⟨p, cp, hv, _⟩ := (unhide hI).row.1.slice
      subst hv
      have HOw := hide (specOwn_any c _ wr (unhide hI).row.1 (by have := (connB_few (unhide hI).right).2.2.2; omega))
      obtain ⟨x0, x1, x2, x3, x4⟩ := (unhide hI).cn.cells
      generalize c.s.length = L at *
      dsimp only [cnV] at HOw
      go_wp2_with fail
      refine (unhide HOw).mono ?_
      rintro e w4 ⟨v4, rfl, hrow4, hb4⟩
      have hz := (unhide hI).res.later hb4
      have HZ := hide hz
      have HB4 := hide (((unhide hI).fr.trans (SrF.of hb4 (Nat.lt_of_lt_of_le (unhide hI).hg (unhide hI).fr.below.size))).below)
      have HN := hide (fun j hj => show j ≠ w.heap.size by have := (World.ownsRow.lt hrow4 j hj).1; have := (unhide hI).res.lt; omega)
      have HR := hide hrow4
      have hgw := (unhide hI).hg
      obtain ⟨a0, a1, a2, a3, a4⟩ := hz.cells
      obtain ⟨f0, f1, f2, f3, f4⟩ := hz.free
      obtain ⟨p4, c4, hv4⟩ := hrow4.slice
      subst hv4
      dsimp only [cnV]
      generalize hL4 : c.s.length = L4 at *
      clear hb4 hrow4 hz HOw x0 x1 x2 x3 x4 hL4
      go_wp2
      refine bodyPost_ret (v := cnV c (.slice p4 L4 c4)) ?_ rfl ⟨c, _, rfl, SlBuf.rowC ((((((unhide HR).apart (unhide HN)).apart (unhide HN)).apart (unhide HN)).apart (unhide HN)).apart (unhide HN)), (unhide hI).right, ?_⟩
      · have hld := (unhide HZ).load c (.slice p4 L4 c4)
        simp only [fiveC] at hld
        simp [results, Tryz.results34, asAddr, hld]
      · have hg' : g ≤ w.heap.size := Nat.le_of_lt hgw
        exact (((((unhide HB4).setCell (p := ⟨w.heap.size, 0, none⟩) hg' _).setCell (p := ⟨w.heap.size, 1, none⟩) hg' _).setCell (p := ⟨w.heap.size, 2, none⟩) hg' _).setCell (p := ⟨w.heap.size, 3, none⟩) hg' _).setCell (p := ⟨w.heap.size, 4, none⟩) hg' _

end Go.Proofs.YthfoabcmgiiadaaGreatDoor
