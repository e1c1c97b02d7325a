/- The program's ConnFlush at right connections. -/
import Derived.Test.YtbgaodamgedlgaaGreatDoorConnC8
import Derived.Shelf.Strings.BuilderK
namespace Go.Proofs.YtbgaodamgedlgaaGreatDoor
open Go.RowKit Go.Joins Go.Shelf
set_option linter.unusedVariables false

/-- a text builder of one's own, and what it holds -/
def BldC (B b : Nat) (t : ByteArray) (w : World) : Prop := Lib.IsBuilderF 75 5 B b (Lib.byteCells t.data.toList) w
/-- all blocks but the builder's, and rows of bytes, are as they were -/
def KeptC (b : Nat) (w w' : World) : Prop := Lib.OthersKept 5 (some b) w w'

theorem writeC_any (B b : Nat) (t s : ByteArray) (w : World) (h : BldC B b t w) (hlen : t.size + s.size ≤ 100000) (hBw : B ≤ w.heap.size) :
    Calls Tryz.prog 39 #[.pointer (some ⟨b, 0, none⟩), .string s] w fun e w' => e = .returned (.tuple #[.int .i64 s.size, .nilIface]) ∧ BldC B b (t ++ s) w' ∧ Below B w w' ∧ KeptC b w w' := by
  have hl : (Lib.byteCells t.data.toList).length + s.size ≤ 140737488355328 := by
    have : (Lib.byteCells t.data.toList).length = t.size := by rw [Lib.byteCells_length, Array.length_toList]; rfl
    rw [this]
    omega
  refine (Any.Builder_WriteString_k (ρ := Tryz.lays156_ren) { Tryz.lays156 with } builderW B b _ s w h hl hBw).mono ?_
  rintro e w' ⟨rfl, hb, hbl, hk⟩
  refine ⟨rfl, .inr ?_, hbl, hk⟩
  have e : Lib.byteCells (t ++ s).data.toList = Lib.byteCells t.data.toList ++ Lib.strCells s := by
    unfold Lib.byteCells Lib.strCells
    rw [← List.map_append, ByteArray.data_append, Array.toList_append]
  rw [e]
  exact hb
theorem stringC_any (B b : Nat) (t : ByteArray) (w : World) (h : BldC B b t w) (hBw : B ≤ w.heap.size) :
    Calls Tryz.prog 41 #[.pointer (some ⟨b, 0, none⟩)] w fun e w' => e = .returned (.string t) ∧ Below B w w' ∧ KeptC b w w' := by
  refine (Any.Builder_String_any_k (ρ := Tryz.lays156_ren) { Tryz.lays156 with } builderW B b _ w h hBw).mono ?_
  rintro e w' ⟨rfl, hb, hbl, hk⟩
  exact ⟨rfl, hbl, hk⟩

/-- rows and lines are kept -/
theorem SlBuf.kept {w w' : World} {B b : Nat} {v : Value} {s : List SL} (h : SlBuf w B v s) (hk : KeptC b w w') (hne : ∀ j, v.ownBlock = some j → j ≠ b) : SlBuf w' B v s := by
  refine ⟨h.1, ?_⟩
  rcases h.2 with h | ⟨g, cap, cur, e, hg, hgg, r⟩
  · exact .inl h
  · exact .inr ⟨g, cap, cur, e, hg, hk g _ hgg (fun e2 => hne g (by rw [e]; rfl) (Option.some.inj e2)) (fun c fz e3 => by injection e3 with _ e3 _; exact absurd e3 (by decide)), r⟩
theorem LnB.kept {w w' : World} {b k : Nat} {c : CN} {v : Value} (h : LnB w b c v) (hk : KeptC k w w') (hne : b ≠ k) : LnB w' b c v :=
  ⟨hk b _ h.blk (fun e => hne (Option.some.inj e)) (fun c fz e3 => by injection e3 with _ e3 _; exact absurd e3 (by decide)), h.sl⟩
theorem ZeroC.kept {w w' : World} {g k : Nat} (h : ZeroC w g) (hk : KeptC k w w') (hne : g ≠ k) : ZeroC w' g :=
  hk g _ h (fun e => hne (Option.some.inj e)) (fun c fz e3 => by injection e3 with _ e3 _; exact absurd e3 (by decide))
theorem RowSl.nil4 (w : World) : RowSl w (.slice none 0 0) [] := .inl ⟨rfl, rfl⟩
/-- a row whose block is one of slots -/
structure RowT (w : World) (v : Value) (s : List SL) : Prop where
  row : RowSl w v s
  typ : ∀ j, v.ownBlock = some j → ∃ cs, w.heap[j]? = some (.cells cs 64 (0, 0))
theorem RowT.same {w w' : World} {v : Value} {s : List SL} (h : RowT w v s) (hs : ∀ j, v.ownBlock = some j → w'.heap[j]? = w.heap[j]?) : RowT w' v s := by
  refine ⟨?_, fun j hj => by rw [hs j hj]; exact h.typ j hj⟩
  rcases h.row with h | ⟨g, off, cap, rfl, hat⟩
  · exact .inl h
  · have e := hs g rfl
    exact .inr ⟨g, off, cap, rfl, fun i hi => ⟨(World.cell?_of_block (a := ⟨g, _, none⟩) e).trans (hat i hi).1, (World.cell?_of_block (a := ⟨g, _, none⟩) e).trans (hat i hi).2.1, (World.cell?_of_block (a := ⟨g, _, none⟩) e).trans (hat i hi).2.2⟩⟩
theorem RowT.kept {w w' : World} {b : Nat} {v : Value} {s : List SL} (h : RowT w v s) (hk : KeptC b w w') (hne : ∀ j, v.ownBlock = some j → j ≠ b) : RowT w' v s := by
  refine h.same fun j hj => ?_
  obtain ⟨cs, hc⟩ := h.typ j hj
  rw [hc]
  exact hk j _ hc (fun e => hne j hj (Option.some.inj e)) (fun c fz e3 => by injection e3 with _ e3 _; exact absurd e3 (by decide))
theorem RowT.later {w w' : World} {v : Value} {s : List SL} (h : RowT w v s) (hb : Below w.heap.size w w') : RowT w' v s := by
  refine h.same fun j hj => ?_
  obtain ⟨cs, hc⟩ := h.typ j hj
  exact hb.block j (Array.getElem?_eq_some_iff.1 hc).1
theorem BldC.new {w : World} {b : Nat} (h : w.heap[b]? = some (.cells #[.pointer none, .slice none 0 0] 75 (0, 0))) : BldC b b ⟨#[]⟩ w :=
  .inl ⟨Nat.le_refl _, _, h, World.ownsRowF_of (World.ownsRow_nil _ _ _ _), fun e => by cases e⟩
theorem BldC.alloc {w : World} {B b : Nat} {t : ByteArray} (h : BldC B b t w) (o : Obj) : BldC B b t (w.alloc o) := by
  rcases h with h | h
  · exact .inl (h.alloc o)
  · exact .inr (h.alloc o)
theorem BldC.same {w w' : World} {B b k : Nat} {t : ByteArray} (h : BldC B b t w) (hs : ∀ j, j ≠ k → w'.heap[j]? = w.heap[j]?) (hk : k < B) : BldC B b t w' := by
  have h2 : ∀ (p : Value), Lib.BuilderAtF 75 5 B b p (Lib.byteCells t.data.toList) w → Lib.BuilderAtF 75 5 B b p (Lib.byteCells t.data.toList) w' := by
    rintro p ⟨h1, v, h2, h3, h4⟩
    refine ⟨h1, v, by rw [hs b (by omega)]; exact h2, ⟨h3.1, ?_⟩, h4⟩
    rcases h3.2 with h | ⟨g, cap, cur, fz, e, hg, hgg, r⟩
    · exact .inl h
    · exact .inr ⟨g, cap, cur, fz, e, hg, by rw [hs g (by omega)]; exact hgg, r⟩
  rcases h with h | h
  · exact .inl (h2 _ h)
  · exact .inr (h2 _ h)
theorem textL_snoc (s : List SL) (x : SL) : textL (s ++ [x]) = textL s ++ x.t := by unfold textL; rw [List.foldl_append]; rfl
theorem BldC.lt {w : World} {B b : Nat} {t : ByteArray} (h : BldC B b t w) : b < w.heap.size := by
  rcases h with ⟨_, v, h, _⟩ | ⟨_, v, h, _⟩
  · exact (Array.getElem?_eq_some_iff.1 h).1
  · exact (Array.getElem?_eq_some_iff.1 h).1
theorem BldC.later {w w' : World} {B b : Nat} {t : ByteArray} (h : BldC B b t w) (hb : Below w.heap.size w w') : BldC B b t w' := by
  have h2 : ∀ (p : Value), Lib.BuilderAtF 75 5 B b p (Lib.byteCells t.data.toList) w → Lib.BuilderAtF 75 5 B b p (Lib.byteCells t.data.toList) w' := by
    rintro p ⟨h1, v, h2, h3, h4⟩
    refine ⟨h1, v, by rw [hb.block b (Array.getElem?_eq_some_iff.1 h2).1]; exact h2, ⟨h3.1, ?_⟩, h4⟩
    rcases h3.2 with h | ⟨g, cap, cur, fz, e, hg, hgg, r⟩
    · exact .inl h
    · exact .inr ⟨g, cap, cur, fz, e, hg, by rw [hb.block g (Array.getElem?_eq_some_iff.1 hgg).1]; exact hgg, r⟩
  rcases h with h | h
  · exact .inl (h2 _ h)
  · exact .inr (h2 _ h)

/-- what the flush leaves -/
def AnsF (r : FL) (w : World) (e : Ending) (w' : World) : Prop := ∃ v', e = .returned (.tuple #[cnV r.c v', .string r.t, .bool r.x, .int .i64 r.e]) ∧ RowSl w' v' r.c.s ∧ Below w.heap.size w w'

set_option maxHeartbeats 8000000 in
set_option maxRecDepth 100000 in
theorem ConnFlush_open (c : CN) (v : Value) (w : World) (hv : RowSl w v c.s) (hr : connB c = true) (he : c.e = false) :
    Calls Tryz.prog 14 #[cnV c v] w fun e w' => AnsF ⟨{ c with s := c.s.drop (goL c.s) }, textL (c.s.take (goL c.s)), false, 0⟩ w e w' := by
  obtain ⟨p, cap, rfl, _⟩ := hv.slice
  have h3 := (connB_few hr).2.2.2
  have HTx := hide (connB_texts hr)
  have HL := hide (fun wx (hnx : Below w.heap.size w wx) => lineOf_right c (.slice p c.s.length cap) wx (hv.later hnx) hr)
  clear hv hr
  obtain ⟨o, e, i, s, n⟩ := c
  dsimp only [cnV] at *
  subst he
  have HGo := hide (goL_le s)
  generalize hKK : goL s = K at *
  have HKK := hide hKK
  clear hKK
  generalize hsl0 : s.length = l at *
  have HSL0 := hide hsl0
  clear hsl0
  go_enter Tryz.func14, Tryz.ntmps14
  go_wp2_with fail
  refine (unhide HL _ (qx_al (qx_alloc _ _))).mono ?_
  rintro ex w1 ⟨v1, rfl, hrow, hb1⟩
  have HZ := hide ((ZeroC.new2 w _).later hb1)
  have HB1 := hide (qx_trans (qx_al (qx_alloc _ _)) hb1)
  have hz1 := hb1.size
  simp at hz1
  obtain ⟨p1, k1, rfl⟩ := hrow.slice
  have HLn := hide ((LnAt.new w1 (w.heap.size + 2) ⟨o, false, i, s, n⟩ _ w1.heap.size rfl (by omega) (SlBuf.mono hrow (by simp))).later (qx_alloc _ (.cells #[.pointer none, .slice none 0 0] 75)))
  have hBA := qx_al (o := .cells #[.pointer none, .slice none 0 0] 75) (qx_alloc w1 (.cells #[.bool o, .bool false, .string i, .slice p1 s.length k1, .int .i64 n] 57))
  have HBA := hide hBA
  have HBB : Hid (((w1.alloc (.cells #[.bool o, .bool false, .string i, .slice p1 s.length k1, .int .i64 n] 57)).alloc (.cells #[.pointer none, .slice none 0 0] 75)).heap[w1.heap.size + 1]? = some (.cells #[.pointer none, .slice none 0 0] 75 (0, 0))) := hide (by
    show ((w1.heap.push _).push _)[w1.heap.size + 1]? = _
    rw [Array.getElem?_push, if_pos (by simp)])
  have HOw := hide (fun j hj => show w.heap.size + 2 ≤ j ∧ j < w1.heap.size by have := World.ownsRow.lt hrow j hj; simp at this; omega)
  clear hrow hb1 HL hBA
  dsimp only at HLn
  rw [unhide HSL0] at HLn HBA HBB HOw ⊢
  have HLv := hide (leave_any (unhide HLn) (by show s.length ≤ 6; rw [unhide HSL0]; exact h3))
  dsimp only at HLv
  rw [unhide HKK] at HLv
  go_wp2_with fail
  refine (unhide HLv).mono ?_
  rintro ex w2 ⟨gv, v2, rfl, hlv⟩
  have HLv2 := hide hlv
  have hsz2 := hlv.below.size
  simp at hsz2
  have HB2 := hide (qx_trans (unhide HB1) (unhide HBA) |>.trans (hlv.below.mono (show w.heap.size ≤ w1.heap.size by omega)))
  have HBd := hide (BldC.new ((hlv.frame (w1.heap.size + 1) (by simp) (by omega)).trans (unhide HBB)))
  have HZ2 := hide ((((unhide HZ).later (unhide HBA))).below hlv.below (by omega))
  have HGn := hide hlv.gone
  obtain ⟨gp, gc, hgv⟩ := hlv.gone.slice
  dsimp only at hgv
  rw [List.length_take, unhide HSL0, Nat.min_eq_left (unhide HGo)] at hgv
  subst hgv
  have hK6 : K ≤ 6 := by have := unhide HGo; omega
  have HGne := hide (fun j hj => show j ≠ w1.heap.size + 1 by have := (World.ownsRow.lt (unhide HGn) j hj).1; simp at this; omega)
  clear hlv HLv HBB
  go_wp2
  go_loopw [23] (fun ix wy => ∃ (k : Nat) (tt : ByteArray), k ≤ K ∧ ix = .int .i64 k ∧ Hid (tt = textL ((s.take K).take k)) ∧ tt.size ≤ 300 * k ∧ Hid (KeptC (w1.heap.size + 1) w2 wy) ∧ Hid (BldC (w1.heap.size + 1) (w1.heap.size + 1) tt wy) ∧ Hid (Below (w1.heap.size + 1) w2 wy)) (fun ix _ => K - (intOf ix).toNat)
  case atStart => exact ⟨0, ⟨#[]⟩, by omega, rfl, hide rfl, by decide, hide (Lib.OthersKept.refl _ _ _), hide (unhide HBd), hide (Below.refl _ _)⟩
  case round =>
    obtain ⟨k, tt, hk, rfl, htt, hts, hke, hbd, hbe⟩ := hrel
    have hsz3 := (unhide hbe).size
    by_cases hlt : k < K
    · have hlen : k < (s.take K).length := by rw [List.length_take, unhide HSL0, Nat.min_eq_left (unhide HGo)]; exact hlt
      have hgr := (unhide HGn).kept (unhide hke) (unhide HGne)
      obtain ⟨gb, rfl, hgb1, hgb2, hcs⟩ := hgr.opened (show 0 < (s.take K).length by omega)
      obtain ⟨q0, q1, q2⟩ := hcs k hlen
      obtain ⟨x, hx⟩ : ∃ x, x = (s.take K)[k] := ⟨_, rfl⟩
      rw [← hx] at q0 q1 q2
      have hxz : x.t.size ≤ 300 := unhide HTx x (List.mem_of_mem_take (by rw [hx]; exact List.getElem_mem hlen))
      have HTN := hide (show tt ++ x.t = textL ((s.take K).take (k + 1)) by rw [List.take_add_one, List.getElem?_eq_getElem hlen, ← hx]; show _ = textL (_ ++ [x]); rw [textL_snoc, unhide htt])
      have hlt' : (k : Int) < (K : Int) := by omega
      clear hx hcs hgr
      obtain ⟨xq, xr, xt⟩ := x
      dsimp only at q0 q1 q2 hxz HTN
      have HW := hide (writeC_any (w1.heap.size + 1) (w1.heap.size + 1) tt xt _ ((unhide hbd).alloc (.cells #[.int .i64 xq, .bool xr, .string xt] 64)) (by omega) (by simp; omega))
      have hts2 : (tt ++ xt).size ≤ 300 * (k + 1) := by rw [ByteArray.size_append]; omega
      go_wp2_with fail
      refine (unhide HW).mono ?_
      rintro ex y ⟨rfl, hbd2, hbe2, hke2⟩
      have HK2 := hide (((unhide hke).alloc (.cells #[.int .i64 xq, .bool xr, .string xt] 64)).trans hke2)
      have HBd2 := hide hbd2
      have HBe2 := hide (((unhide hbe).alloc (by omega) (.cells #[.int .i64 xq, .bool xr, .string xt] 64)).trans hbe2)
      clear hbd2 hbe2 hke2 HW q0 q1 q2
      go_wp2
      go_roundw
      case rel => exact ⟨k + 1, tt ++ xt, by omega, by go_num, hide (unhide HTN), hts2, hide (unhide HK2), hide (unhide HBd2), hide (unhide HBe2)⟩
      case measure => simp [intOf]; omega
    · have hkK : k = K := by omega
      subst hkK
      have HT : Hid (tt = textL (s.take k)) := hide (by rw [unhide htt, List.take_of_length_le (by rw [List.length_take]; omega)])
      have HLB := hide ((unhide HLv2).blk.kept (unhide hke) (by omega))
      have HRT := hide (RowT.kept ⟨(unhide HLv2).rest, (unhide HLv2).typ⟩ (unhide hke) (fun j hj => by have := unhide HOw j ((unhide HLv2).off j hj); omega))
      have HOv := hide (fun j hj => show j ≠ w.heap.size + 1 ∧ j ≠ w1.heap.size + 1 ∧ j ≠ w1.heap.size by have := unhide HOw j ((unhide HLv2).off j hj); omega)
      have HZ3 := hide ((unhide HZ2).below (unhide hbe) (by omega))
      have HB3 := hide ((unhide HB2).trans ((unhide hbe).mono (by omega)))
      have hcl := (unhide HLB).cells.2.1
      dsimp only at hcl
      have hnk : ¬ (k : Int) < (k : Int) := by omega
      obtain ⟨p2, k2, hv2⟩ := (unhide HLB).sl
      dsimp only at hv2
      subst hv2
      generalize (s.drop k).length = lr at *
      clear HLv2 htt hts hke hbe
      have HOvV := HOv
      go_wp2_with fail
      refine (conn_any (unhide HLB)).mono ?_
      rintro ex w5 ⟨rfl, hb5⟩
      have HBd5 := hide ((unhide hbd).later hb5)
      have HR5 := hide ((unhide HRT).later hb5)
      have HZ5 := hide ((unhide HZ3).later hb5)
      have HB5 := hide (qx_trans (unhide HB3) hb5)
      have hs5 := hb5.size
      clear hb5
      dsimp only [cnV]
      go_wp2_with fail
      refine (stringC_any (w1.heap.size + 1) (w1.heap.size + 1) tt _ (unhide HBd5) (by omega)).mono ?_
      rintro ex w6 ⟨rfl, hb6, hk6⟩
      have HR6 := hide ((unhide HR5).kept hk6 (fun j hj => (unhide HOvV j hj).2.1))
      have HZ6 := hide ((unhide HZ5).kept hk6 (by omega))
      have HB6 := hide ((unhide HB5).trans (hb6.mono (by omega)))
      obtain ⟨a0, a1, a2, a3, a4⟩ := (unhide HZ6).cells
      obtain ⟨f0, f1, f2, f3, f4⟩ := (unhide HZ6).free
      clear hb6 hk6
      go_wp2
      refine bodyPost_ret (v := .tuple #[cnV ⟨o, false, i, s.drop k, n⟩ (.slice p2 lr k2), .string tt, .bool false, .int .i64 0]) ?_ rfl ⟨_, by rw [unhide HT], (unhide HR6).row.five (c := ⟨o, false, i, s.drop k, n⟩) (v := (.slice p2 lr k2)) (fun j hj => (unhide HOvV j hj).1), fiveC.below (c := ⟨o, false, i, s.drop k, n⟩) (v := (.slice p2 lr k2)) (unhide HB6) (by omega)⟩
      have hld := (unhide HZ6).load ⟨o, false, i, s.drop k, n⟩ (.slice p2 lr k2)
      simp only [fiveC] at hld
      simp [results, Tryz.results14, asAddr, Result.andThen, hld]

set_option maxHeartbeats 8000000 in
set_option maxRecDepth 100000 in
theorem ConnFlush_wait (c : CN) (v : Value) (w : World) (hv : RowSl w v c.s) (hr : connB c = true) (he : c.e = true) (hw : goL c.s ≠ c.s.length) :
    Calls Tryz.prog 14 #[cnV c v] w fun e w' => AnsF ⟨{ c with s := c.s.drop (goL c.s) }, textL (c.s.take (goL c.s)), false, 0⟩ w e w' := by
  obtain ⟨p, cap, rfl, _⟩ := hv.slice
  have h3 := (connB_few hr).2.2.2
  have HTx := hide (connB_texts hr)
  have HL := hide (fun wx (hnx : Below w.heap.size w wx) => lineOf_right c (.slice p c.s.length cap) wx (hv.later hnx) hr)
  clear hv hr
  obtain ⟨o, e, i, s, n⟩ := c
  dsimp only [cnV] at *
  subst he
  have HGo := hide (goL_le s)
  have HWt := hide hw
  clear hw
  generalize hKK : goL s = K at *
  have HKK := hide hKK
  clear hKK
  generalize hsl0 : s.length = l at *
  have HSL0 := hide hsl0
  clear hsl0
  go_enter Tryz.func14, Tryz.ntmps14
  go_wp2_with fail
  refine (unhide HL _ (qx_al (qx_alloc _ _))).mono ?_
  rintro ex w1 ⟨v1, rfl, hrow, hb1⟩
  have HZ := hide ((ZeroC.new2 w _).later hb1)
  have HB1 := hide (qx_trans (qx_al (qx_alloc _ _)) hb1)
  have hz1 := hb1.size
  simp at hz1
  obtain ⟨p1, k1, rfl⟩ := hrow.slice
  have HLn := hide ((LnAt.new w1 (w.heap.size + 2) ⟨o, true, i, s, n⟩ _ w1.heap.size rfl (by omega) (SlBuf.mono hrow (by simp))).later (qx_alloc _ (.cells #[.pointer none, .slice none 0 0] 75)))
  have hBA := qx_al (o := .cells #[.pointer none, .slice none 0 0] 75) (qx_alloc w1 (.cells #[.bool o, .bool true, .string i, .slice p1 s.length k1, .int .i64 n] 57))
  have HBA := hide hBA
  have HBB : Hid (((w1.alloc (.cells #[.bool o, .bool true, .string i, .slice p1 s.length k1, .int .i64 n] 57)).alloc (.cells #[.pointer none, .slice none 0 0] 75)).heap[w1.heap.size + 1]? = some (.cells #[.pointer none, .slice none 0 0] 75 (0, 0))) := hide (by
    show ((w1.heap.push _).push _)[w1.heap.size + 1]? = _
    rw [Array.getElem?_push, if_pos (by simp)])
  have HOw := hide (fun j hj => show w.heap.size + 2 ≤ j ∧ j < w1.heap.size by have := World.ownsRow.lt hrow j hj; simp at this; omega)
  clear hrow hb1 HL hBA
  dsimp only at HLn
  rw [unhide HSL0] at HLn HBA HBB HOw ⊢
  have HLv := hide (leave_any (unhide HLn) (by show s.length ≤ 6; rw [unhide HSL0]; exact h3))
  dsimp only at HLv
  rw [unhide HKK] at HLv
  go_wp2_with fail
  refine (unhide HLv).mono ?_
  rintro ex w2 ⟨gv, v2, rfl, hlv⟩
  have HLv2 := hide hlv
  have hsz2 := hlv.below.size
  simp at hsz2
  have HB2 := hide (qx_trans (unhide HB1) (unhide HBA) |>.trans (hlv.below.mono (show w.heap.size ≤ w1.heap.size by omega)))
  have HBd := hide (BldC.new ((hlv.frame (w1.heap.size + 1) (by simp) (by omega)).trans (unhide HBB)))
  have HZ2 := hide ((((unhide HZ).later (unhide HBA))).below hlv.below (by omega))
  have HGn := hide hlv.gone
  obtain ⟨gp, gc, hgv⟩ := hlv.gone.slice
  dsimp only at hgv
  rw [List.length_take, unhide HSL0, Nat.min_eq_left (unhide HGo)] at hgv
  subst hgv
  have hK6 : K ≤ 6 := by have := unhide HGo; omega
  have HGne := hide (fun j hj => show j ≠ w1.heap.size + 1 by have := (World.ownsRow.lt (unhide HGn) j hj).1; simp at this; omega)
  clear hlv HLv HBB
  go_wp2
  go_loopw [23] (fun ix wy => ∃ (k : Nat) (tt : ByteArray), k ≤ K ∧ ix = .int .i64 k ∧ Hid (tt = textL ((s.take K).take k)) ∧ tt.size ≤ 300 * k ∧ Hid (KeptC (w1.heap.size + 1) w2 wy) ∧ Hid (BldC (w1.heap.size + 1) (w1.heap.size + 1) tt wy) ∧ Hid (Below (w1.heap.size + 1) w2 wy)) (fun ix _ => K - (intOf ix).toNat)
  case atStart => exact ⟨0, ⟨#[]⟩, by omega, rfl, hide rfl, by decide, hide (Lib.OthersKept.refl _ _ _), hide (unhide HBd), hide (Below.refl _ _)⟩
  case round =>
    obtain ⟨k, tt, hk, rfl, htt, hts, hke, hbd, hbe⟩ := hrel
    have hsz3 := (unhide hbe).size
    by_cases hlt : k < K
    · have hlen : k < (s.take K).length := by rw [List.length_take, unhide HSL0, Nat.min_eq_left (unhide HGo)]; exact hlt
      have hgr := (unhide HGn).kept (unhide hke) (unhide HGne)
      obtain ⟨gb, rfl, hgb1, hgb2, hcs⟩ := hgr.opened (show 0 < (s.take K).length by omega)
      obtain ⟨q0, q1, q2⟩ := hcs k hlen
      obtain ⟨x, hx⟩ : ∃ x, x = (s.take K)[k] := ⟨_, rfl⟩
      rw [← hx] at q0 q1 q2
      have hxz : x.t.size ≤ 300 := unhide HTx x (List.mem_of_mem_take (by rw [hx]; exact List.getElem_mem hlen))
      have HTN := hide (show tt ++ x.t = textL ((s.take K).take (k + 1)) by rw [List.take_add_one, List.getElem?_eq_getElem hlen, ← hx]; show _ = textL (_ ++ [x]); rw [textL_snoc, unhide htt])
      have hlt' : (k : Int) < (K : Int) := by omega
      clear hx hcs hgr
      obtain ⟨xq, xr, xt⟩ := x
      dsimp only at q0 q1 q2 hxz HTN
      have HW := hide (writeC_any (w1.heap.size + 1) (w1.heap.size + 1) tt xt _ ((unhide hbd).alloc (.cells #[.int .i64 xq, .bool xr, .string xt] 64)) (by omega) (by simp; omega))
      have hts2 : (tt ++ xt).size ≤ 300 * (k + 1) := by rw [ByteArray.size_append]; omega
      go_wp2_with fail
      refine (unhide HW).mono ?_
      rintro ex y ⟨rfl, hbd2, hbe2, hke2⟩
      have HK2 := hide (((unhide hke).alloc (.cells #[.int .i64 xq, .bool xr, .string xt] 64)).trans hke2)
      have HBd2 := hide hbd2
      have HBe2 := hide (((unhide hbe).alloc (by omega) (.cells #[.int .i64 xq, .bool xr, .string xt] 64)).trans hbe2)
      clear hbd2 hbe2 hke2 HW q0 q1 q2
      go_wp2
      go_roundw
      case rel => exact ⟨k + 1, tt ++ xt, by omega, by go_num, hide (unhide HTN), hts2, hide (unhide HK2), hide (unhide HBd2), hide (unhide HBe2)⟩
      case measure => simp [intOf]; omega
    · have hkK : k = K := by omega
      subst hkK
      have HT : Hid (tt = textL (s.take k)) := hide (by rw [unhide htt, List.take_of_length_le (by rw [List.length_take]; omega)])
      have HLB := hide ((unhide HLv2).blk.kept (unhide hke) (by omega))
      have HRT := hide (RowT.kept ⟨(unhide HLv2).rest, (unhide HLv2).typ⟩ (unhide hke) (fun j hj => by have := unhide HOw j ((unhide HLv2).off j hj); omega))
      have HOv := hide (fun j hj => show j ≠ w.heap.size + 1 ∧ j ≠ w1.heap.size + 1 ∧ j ≠ w1.heap.size by have := unhide HOw j ((unhide HLv2).off j hj); omega)
      have HZ3 := hide ((unhide HZ2).below (unhide hbe) (by omega))
      have HB3 := hide ((unhide HB2).trans ((unhide hbe).mono (by omega)))
      have hcl := (unhide HLB).cells.2.1
      dsimp only at hcl
      have hnk : ¬ (k : Int) < (k : Int) := by omega
      obtain ⟨p2, k2, hv2⟩ := (unhide HLB).sl
      dsimp only at hv2
      subst hv2
      have HLrr := hide (show (s.drop k).length = s.length - k from List.length_drop)
      generalize hlr : (s.drop k).length = lr at *
      have HLR := hide hlr
      clear hlr
      clear HLv2 htt hts hke hbe
      have HOvV := HOv
      go_wp2_with fail
      refine (qsize_any (unhide HLB)).mono ?_
      rintro ex w4 ⟨rfl, rfl⟩
      dsimp only
      rw [unhide HLR]
      have hlr0 : (lr : Int) ≠ 0 := by have := unhide HLrr; have := unhide HWt; have := unhide HGo; have := unhide HSL0; omega
      have hlr1 : ((lr : Int) == 0) = false := by simpa using hlr0
      have hlr2 : lr ≠ 0 := by omega
      go_wp2_with fail
      refine (conn_any (unhide HLB)).mono ?_
      rintro ex w5 ⟨rfl, hb5⟩
      have HBd5 := hide ((unhide hbd).later hb5)
      have HR5 := hide ((unhide HRT).later hb5)
      have HZ5 := hide ((unhide HZ3).later hb5)
      have HB5 := hide (qx_trans (unhide HB3) hb5)
      have hs5 := hb5.size
      clear hb5
      dsimp only [cnV]
      go_wp2_with fail
      refine (stringC_any (w1.heap.size + 1) (w1.heap.size + 1) tt _ (unhide HBd5) (by omega)).mono ?_
      rintro ex w6 ⟨rfl, hb6, hk6⟩
      have HR6 := hide ((unhide HR5).kept hk6 (fun j hj => (unhide HOvV j hj).2.1))
      have HZ6 := hide ((unhide HZ5).kept hk6 (by omega))
      have HB6 := hide ((unhide HB5).trans (hb6.mono (by omega)))
      obtain ⟨a0, a1, a2, a3, a4⟩ := (unhide HZ6).cells
      obtain ⟨f0, f1, f2, f3, f4⟩ := (unhide HZ6).free
      clear hb6 hk6
      go_wp2
      refine bodyPost_ret (v := .tuple #[cnV ⟨o, true, i, s.drop k, n⟩ (.slice p2 lr k2), .string tt, .bool false, .int .i64 0]) ?_ rfl ⟨_, by rw [unhide HT], (unhide HR6).row.five (c := ⟨o, true, i, s.drop k, n⟩) (v := (.slice p2 lr k2)) (fun j hj => (unhide HOvV j hj).1), fiveC.below (c := ⟨o, true, i, s.drop k, n⟩) (v := (.slice p2 lr k2)) (unhide HB6) (by omega)⟩
      have hld := (unhide HZ6).load ⟨o, true, i, s.drop k, n⟩ (.slice p2 lr k2)
      simp only [fiveC] at hld
      simp [results, Tryz.results14, asAddr, Result.andThen, hld]

set_option maxHeartbeats 8000000 in
set_option maxRecDepth 100000 in
theorem ConnFlush_close (c : CN) (v : Value) (w : World) (hv : RowSl w v c.s) (hr : connB c = true) (he : c.e = true) (hw : goL c.s = c.s.length) :
    Calls Tryz.prog 14 #[cnV c v] w fun e w' => AnsF ⟨⟨false, false, ⟨#[]⟩, [], c.n⟩, textL (c.s.take (goL c.s)), true, 0⟩ w e w' := by
  obtain ⟨p, cap, rfl, _⟩ := hv.slice
  have h3 := (connB_few hr).2.2.2
  have HTx := hide (connB_texts hr)
  have HL := hide (fun wx (hnx : Below w.heap.size w wx) => lineOf_right c (.slice p c.s.length cap) wx (hv.later hnx) hr)
  clear hv hr
  obtain ⟨o, e, i, s, n⟩ := c
  dsimp only [cnV] at *
  subst he
  have HGo := hide (goL_le s)
  have HWt := hide hw
  clear hw
  generalize hKK : goL s = K at *
  have HKK := hide hKK
  clear hKK
  generalize hsl0 : s.length = l at *
  have HSL0 := hide hsl0
  clear hsl0
  go_enter Tryz.func14, Tryz.ntmps14
  go_wp2_with fail
  refine (unhide HL _ (qx_al (qx_alloc _ _))).mono ?_
  rintro ex w1 ⟨v1, rfl, hrow, hb1⟩
  have HZ := hide ((ZeroC.new2 w _).later hb1)
  have HB1 := hide (qx_trans (qx_al (qx_alloc _ _)) hb1)
  have hz1 := hb1.size
  simp at hz1
  obtain ⟨p1, k1, rfl⟩ := hrow.slice
  have HLn := hide ((LnAt.new w1 (w.heap.size + 2) ⟨o, true, i, s, n⟩ _ w1.heap.size rfl (by omega) (SlBuf.mono hrow (by simp))).later (qx_alloc _ (.cells #[.pointer none, .slice none 0 0] 75)))
  have hBA := qx_al (o := .cells #[.pointer none, .slice none 0 0] 75) (qx_alloc w1 (.cells #[.bool o, .bool true, .string i, .slice p1 s.length k1, .int .i64 n] 57))
  have HBA := hide hBA
  have HBB : Hid (((w1.alloc (.cells #[.bool o, .bool true, .string i, .slice p1 s.length k1, .int .i64 n] 57)).alloc (.cells #[.pointer none, .slice none 0 0] 75)).heap[w1.heap.size + 1]? = some (.cells #[.pointer none, .slice none 0 0] 75 (0, 0))) := hide (by
    show ((w1.heap.push _).push _)[w1.heap.size + 1]? = _
    rw [Array.getElem?_push, if_pos (by simp)])
  have HOw := hide (fun j hj => show w.heap.size + 2 ≤ j ∧ j < w1.heap.size by have := World.ownsRow.lt hrow j hj; simp at this; omega)
  clear hrow hb1 HL hBA
  dsimp only at HLn
  rw [unhide HSL0] at HLn HBA HBB HOw ⊢
  have HLv := hide (leave_any (unhide HLn) (by show s.length ≤ 6; rw [unhide HSL0]; exact h3))
  dsimp only at HLv
  rw [unhide HKK] at HLv
  go_wp2_with fail
  refine (unhide HLv).mono ?_
  rintro ex w2 ⟨gv, v2, rfl, hlv⟩
  have HLv2 := hide hlv
  have hsz2 := hlv.below.size
  simp at hsz2
  have HB2 := hide (qx_trans (unhide HB1) (unhide HBA) |>.trans (hlv.below.mono (show w.heap.size ≤ w1.heap.size by omega)))
  have HBd := hide (BldC.new ((hlv.frame (w1.heap.size + 1) (by simp) (by omega)).trans (unhide HBB)))
  have HZ2 := hide ((((unhide HZ).later (unhide HBA))).below hlv.below (by omega))
  have HGn := hide hlv.gone
  obtain ⟨gp, gc, hgv⟩ := hlv.gone.slice
  dsimp only at hgv
  rw [List.length_take, unhide HSL0, Nat.min_eq_left (unhide HGo)] at hgv
  subst hgv
  have hK6 : K ≤ 6 := by have := unhide HGo; omega
  have HGne := hide (fun j hj => show j ≠ w1.heap.size + 1 by have := (World.ownsRow.lt (unhide HGn) j hj).1; simp at this; omega)
  clear hlv HLv HBB
  go_wp2
  go_loopw [23] (fun ix wy => ∃ (k : Nat) (tt : ByteArray), k ≤ K ∧ ix = .int .i64 k ∧ Hid (tt = textL ((s.take K).take k)) ∧ tt.size ≤ 300 * k ∧ Hid (KeptC (w1.heap.size + 1) w2 wy) ∧ Hid (BldC (w1.heap.size + 1) (w1.heap.size + 1) tt wy) ∧ Hid (Below (w1.heap.size + 1) w2 wy)) (fun ix _ => K - (intOf ix).toNat)
  case atStart => exact ⟨0, ⟨#[]⟩, by omega, rfl, hide rfl, by decide, hide (Lib.OthersKept.refl _ _ _), hide (unhide HBd), hide (Below.refl _ _)⟩
  case round =>
    obtain ⟨k, tt, hk, rfl, htt, hts, hke, hbd, hbe⟩ := hrel
    have hsz3 := (unhide hbe).size
    by_cases hlt : k < K
    · have hlen : k < (s.take K).length := by rw [List.length_take, unhide HSL0, Nat.min_eq_left (unhide HGo)]; exact hlt
      have hgr := (unhide HGn).kept (unhide hke) (unhide HGne)
      obtain ⟨gb, rfl, hgb1, hgb2, hcs⟩ := hgr.opened (show 0 < (s.take K).length by omega)
      obtain ⟨q0, q1, q2⟩ := hcs k hlen
      obtain ⟨x, hx⟩ : ∃ x, x = (s.take K)[k] := ⟨_, rfl⟩
      rw [← hx] at q0 q1 q2
      have hxz : x.t.size ≤ 300 := unhide HTx x (List.mem_of_mem_take (by rw [hx]; exact List.getElem_mem hlen))
      have HTN := hide (show tt ++ x.t = textL ((s.take K).take (k + 1)) by rw [List.take_add_one, List.getElem?_eq_getElem hlen, ← hx]; show _ = textL (_ ++ [x]); rw [textL_snoc, unhide htt])
      have hlt' : (k : Int) < (K : Int) := by omega
      clear hx hcs hgr
      obtain ⟨xq, xr, xt⟩ := x
      dsimp only at q0 q1 q2 hxz HTN
      have HW := hide (writeC_any (w1.heap.size + 1) (w1.heap.size + 1) tt xt _ ((unhide hbd).alloc (.cells #[.int .i64 xq, .bool xr, .string xt] 64)) (by omega) (by simp; omega))
      have hts2 : (tt ++ xt).size ≤ 300 * (k + 1) := by rw [ByteArray.size_append]; omega
      go_wp2_with fail
      refine (unhide HW).mono ?_
      rintro ex y ⟨rfl, hbd2, hbe2, hke2⟩
      have HK2 := hide (((unhide hke).alloc (.cells #[.int .i64 xq, .bool xr, .string xt] 64)).trans hke2)
      have HBd2 := hide hbd2
      have HBe2 := hide (((unhide hbe).alloc (by omega) (.cells #[.int .i64 xq, .bool xr, .string xt] 64)).trans hbe2)
      clear hbd2 hbe2 hke2 HW q0 q1 q2
      go_wp2
      go_roundw
      case rel => exact ⟨k + 1, tt ++ xt, by omega, by go_num, hide (unhide HTN), hts2, hide (unhide HK2), hide (unhide HBd2), hide (unhide HBe2)⟩
      case measure => simp [intOf]; omega
    · have hkK : k = K := by omega
      subst hkK
      have HT : Hid (tt = textL (s.take k)) := hide (by rw [unhide htt, List.take_of_length_le (by rw [List.length_take]; omega)])
      have HLB := hide ((unhide HLv2).blk.kept (unhide hke) (by omega))
      have HRT := hide (RowT.kept ⟨(unhide HLv2).rest, (unhide HLv2).typ⟩ (unhide hke) (fun j hj => by have := unhide HOw j ((unhide HLv2).off j hj); omega))
      have HOv := hide (fun j hj => show j ≠ w.heap.size + 1 ∧ j ≠ w1.heap.size + 1 ∧ j ≠ w1.heap.size by have := unhide HOw j ((unhide HLv2).off j hj); omega)
      have HZ3 := hide ((unhide HZ2).below (unhide hbe) (by omega))
      have HB3 := hide ((unhide HB2).trans ((unhide hbe).mono (by omega)))
      have hcl := (unhide HLB).cells.2.1
      dsimp only at hcl
      have hnk : ¬ (k : Int) < (k : Int) := by omega
      obtain ⟨p2, k2, hv2⟩ := (unhide HLB).sl
      dsimp only at hv2
      subst hv2
      have HLrr := hide (show (s.drop k).length = s.length - k from List.length_drop)
      generalize hlr : (s.drop k).length = lr at *
      have HLR := hide hlr
      clear hlr
      clear HLv2 htt hts hke hbe
      go_wp2_with fail
      refine (qsize_any (unhide HLB)).mono ?_
      rintro ex w4 ⟨rfl, rfl⟩
      dsimp only
      rw [unhide HLR]
      have hlr0 : lr = 0 := by have := unhide HLrr; have := unhide HWt; have := unhide HSL0; omega
      subst hlr0
      go_wp2_with fail
      refine (shut_any (base := w1.heap.size) (unhide HLB) (Nat.le_refl _)).mono ?_
      rintro ex w4 ⟨rfl, hl4, hb4, hf4⟩
      have HLB4 := hide hl4
      have HRT4 := hide (show RowT w4 (.slice none 0 0) [] from ⟨RowSl.nil4 _, fun j hj => by cases hj⟩)
      have HBd4 := hide ((unhide hbd).same hf4 (by omega))
      have HZ4 := hide (show ZeroC w4 (w.heap.size + 1) from (hf4 _ (by omega)).trans (unhide HZ3))
      have HB4 := hide ((unhide HB3).trans (hb4.mono (by omega)))
      have hs4 := hb4.size
      have HOvV : Hid (∀ j, (Value.slice none 0 0).ownBlock = some j → j ≠ w.heap.size + 1 ∧ j ≠ w1.heap.size + 1 ∧ j ≠ w1.heap.size) := hide (fun j hj => by cases hj)
      dsimp only at HLB4
      clear hl4 hb4 hf4
      go_wp2_with fail
      refine (conn_any (unhide HLB4)).mono ?_
      rintro ex w5 ⟨rfl, hb5⟩
      have HBd5 := hide ((unhide HBd4).later hb5)
      have HR5 := hide ((unhide HRT4).later hb5)
      have HZ5 := hide ((unhide HZ4).later hb5)
      have HB5 := hide (qx_trans (unhide HB4) hb5)
      have hs5 := hb5.size
      clear hb5
      dsimp only [cnV]
      go_wp2_with fail
      refine (stringC_any (w1.heap.size + 1) (w1.heap.size + 1) tt _ (unhide HBd5) (by omega)).mono ?_
      rintro ex w6 ⟨rfl, hb6, hk6⟩
      have HR6 := hide ((unhide HR5).kept hk6 (fun j hj => (unhide HOvV j hj).2.1))
      have HZ6 := hide ((unhide HZ5).kept hk6 (by omega))
      have HB6 := hide ((unhide HB5).trans (hb6.mono (by omega)))
      obtain ⟨a0, a1, a2, a3, a4⟩ := (unhide HZ6).cells
      obtain ⟨f0, f1, f2, f3, f4⟩ := (unhide HZ6).free
      clear hb6 hk6
      go_wp2
      refine bodyPost_ret (v := .tuple #[cnV ⟨false, false, ⟨#[]⟩, [], n⟩ (.slice none 0 0), .string tt, .bool true, .int .i64 0]) ?_ rfl ⟨_, by rw [unhide HT], (unhide HR6).row.five (c := ⟨false, false, ⟨#[]⟩, [], n⟩) (v := (.slice none 0 0)) (fun j hj => (unhide HOvV j hj).1), fiveC.below (c := ⟨false, false, ⟨#[]⟩, [], n⟩) (v := (.slice none 0 0)) (unhide HB6) (by omega)⟩
      have hld := (unhide HZ6).load ⟨false, false, ⟨#[]⟩, [], n⟩ (.slice none 0 0)
      simp only [fiveC] at hld
      simp [results, Tryz.results14, asAddr, Result.andThen, hld]

end Go.Proofs.YtbgaodamgedlgaaGreatDoor
