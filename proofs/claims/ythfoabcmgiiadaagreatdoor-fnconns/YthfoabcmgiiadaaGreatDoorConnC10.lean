/- The program's ConnFlush at right connections. -/
import Derived.Test.YthfoabcmgiiadaaGreatDoorConnC8
import Derived.Shelf.Strings.BuilderK
namespace Go.Proofs.YthfoabcmgiiadaaGreatDoor
open Go.RowKit Go.Joins Go.Shelf
set_option linter.unusedVariables false

/-- a text builder of one's own, and what it holds -/
def BldC (B b : Nat) (t : ByteArray) (w : World) : Prop := Lib.IsBuilderF 89 5 B b (Lib.byteCells t.data.toList) w
/-- all blocks but the builder's, and rows of bytes, are as they were -/
def KeptC (b : Nat) (w w' : World) : Prop := Lib.OthersKept 5 (some b) w w'

theorem writeC_any (B b : Nat) (t s : ByteArray) (w : World) (h : BldC B b t w) (hlen : t.size + s.size ≤ 100000) (hBw : B ≤ w.heap.size) :
    Calls Tryz.prog 55 #[.pointer (some ⟨b, 0, none⟩), .string s] w fun e w' => e = .returned (.tuple #[.int .i64 s.size, .nilIface]) ∧ BldC B b (t ++ s) w' ∧ Below B w w' ∧ KeptC b w w' := by
  have hl : (Lib.byteCells t.data.toList).length + s.size ≤ 140737488355328 := by
    have : (Lib.byteCells t.data.toList).length = t.size := by rw [Lib.byteCells_length, Array.length_toList]; rfl
    rw [this]
    omega
  refine (Any.Builder_WriteString_k (ρ := Tryz.lays156_ren) { Tryz.lays156 with } builderW B b _ s w h hl hBw).mono ?_
  rintro e w' ⟨rfl, hb, hbl, hk⟩
  refine ⟨rfl, .inr ?_, hbl, hk⟩
  have e : Lib.byteCells (t ++ s).data.toList = Lib.byteCells t.data.toList ++ Lib.strCells s := by
    unfold Lib.byteCells Lib.strCells
    rw [← List.map_append, ByteArray.data_append, Array.toList_append]
  rw [e]
  exact hb
theorem stringC_any (B b : Nat) (t : ByteArray) (w : World) (h : BldC B b t w) (hBw : B ≤ w.heap.size) :
    Calls Tryz.prog 57 #[.pointer (some ⟨b, 0, none⟩)] w fun e w' => e = .returned (.string t) ∧ Below B w w' ∧ KeptC b w w' := by
  refine (Any.Builder_String_any_k (ρ := Tryz.lays156_ren) { Tryz.lays156 with } builderW B b _ w h hBw).mono ?_
  rintro e w' ⟨rfl, hb, hbl, hk⟩
  exact ⟨rfl, hbl, hk⟩

/-- rows and lines are kept -/
theorem SlBuf.kept {w w' : World} {B b : Nat} {v : Value} {s : List SL} (h : SlBuf w B v s) (hk : KeptC b w w') (hne : ∀ j, v.ownBlock = some j → j ≠ b) : SlBuf w' B v s := by
  refine ⟨h.1, ?_⟩
  rcases h.2 with h | ⟨g, cap, cur, e, hg, hgg, r⟩
  · exact .inl h
  · exact .inr ⟨g, cap, cur, e, hg, hk g _ hgg (fun e2 => hne g (by rw [e]; rfl) (Option.some.inj e2)) (fun c fz e3 => by injection e3 with _ e3 _; exact absurd e3 (by decide)), r⟩
theorem LnB.kept {w w' : World} {b k : Nat} {c : CN} {v : Value} (h : LnB w b c v) (hk : KeptC k w w') (hne : b ≠ k) : LnB w' b c v :=
  ⟨hk b _ h.blk (fun e => hne (Option.some.inj e)) (fun c fz e3 => by injection e3 with _ e3 _; exact absurd e3 (by decide)), h.sl⟩
theorem ZeroC.kept {w w' : World} {g k : Nat} (h : ZeroC w g) (hk : KeptC k w w') (hne : g ≠ k) : ZeroC w' g :=
  hk g _ h (fun e => hne (Option.some.inj e)) (fun c fz e3 => by injection e3 with _ e3 _; exact absurd e3 (by decide))
theorem RowSl.nil4 (w : World) : RowSl w (.slice none 0 0) [] := .inl ⟨rfl, rfl⟩
/-- a row whose block is one of slots -/
structure RowT (w : World) (v : Value) (s : List SL) : Prop where
  row : RowSl w v s
  typ : ∀ j, v.ownBlock = some j → ∃ cs, w.heap[j]? = some (.cells cs 66 (0, 0))
theorem RowT.same {w w' : World} {v : Value} {s : List SL} (h : RowT w v s) (hs : ∀ j, v.ownBlock = some j → w'.heap[j]? = w.heap[j]?) : RowT w' v s := by
  refine ⟨?_, fun j hj => by rw [hs j hj]; exact h.typ j hj⟩
  rcases h.row with h | ⟨g, off, cap, rfl, hat⟩
  · exact .inl h
  · have e := hs g rfl
    exact .inr ⟨g, off, cap, rfl, fun i hi => ⟨(World.cell?_of_block (a := ⟨g, _, none⟩) e).trans (hat i hi).1, (World.cell?_of_block (a := ⟨g, _, none⟩) e).trans (hat i hi).2.1, (World.cell?_of_block (a := ⟨g, _, none⟩) e).trans (hat i hi).2.2⟩⟩
theorem RowT.kept {w w' : World} {b : Nat} {v : Value} {s : List SL} (h : RowT w v s) (hk : KeptC b w w') (hne : ∀ j, v.ownBlock = some j → j ≠ b) : RowT w' v s := by
  refine h.same fun j hj => ?_
  obtain ⟨cs, hc⟩ := h.typ j hj
  rw [hc]
  exact hk j _ hc (fun e => hne j hj (Option.some.inj e)) (fun c fz e3 => by injection e3 with _ e3 _; exact absurd e3 (by decide))
theorem RowT.later {w w' : World} {v : Value} {s : List SL} (h : RowT w v s) (hb : Below w.heap.size w w') : RowT w' v s := by
  refine h.same fun j hj => ?_
  obtain ⟨cs, hc⟩ := h.typ j hj
  exact hb.block j (Array.getElem?_eq_some_iff.1 hc).1
theorem BldC.new {w : World} {b : Nat} (h : w.heap[b]? = some (.cells #[.pointer none, .slice none 0 0] 89 (0, 0))) : BldC b b ⟨#[]⟩ w :=
  .inl ⟨Nat.le_refl _, _, h, World.ownsRowF_of (World.ownsRow_nil _ _ _ _), fun e => by cases e⟩
theorem BldC.alloc {w : World} {B b : Nat} {t : ByteArray} (h : BldC B b t w) (o : Obj) : BldC B b t (w.alloc o) := by
  rcases h with h | h
  · exact .inl (h.alloc o)
  · exact .inr (h.alloc o)
theorem BldC.same {w w' : World} {B b k : Nat} {t : ByteArray} (h : BldC B b t w) (hs : ∀ j, j ≠ k → w'.heap[j]? = w.heap[j]?) (hk : k < B) : BldC B b t w' := by
  have h2 : ∀ (p : Value), Lib.BuilderAtF 89 5 B b p (Lib.byteCells t.data.toList) w → Lib.BuilderAtF 89 5 B b p (Lib.byteCells t.data.toList) w' := by
    rintro p ⟨h1, v, h2, h3, h4⟩
    refine ⟨h1, v, by rw [hs b (by omega)]; exact h2, ⟨h3.1, ?_⟩, h4⟩
    rcases h3.2 with h | ⟨g, cap, cur, fz, e, hg, hgg, r⟩
    · exact .inl h
    · exact .inr ⟨g, cap, cur, fz, e, hg, by rw [hs g (by omega)]; exact hgg, r⟩
  rcases h with h | h
  · exact .inl (h2 _ h)
  · exact .inr (h2 _ h)
theorem textL_snoc (s : List SL) (x : SL) : textL (s ++ [x]) = textL s ++ x.t := by unfold textL; rw [List.foldl_append]; rfl
theorem BldC.lt {w : World} {B b : Nat} {t : ByteArray} (h : BldC B b t w) : b < w.heap.size := by
  rcases h with ⟨_, v, h, _⟩ | ⟨_, v, h, _⟩
  · exact (Array.getElem?_eq_some_iff.1 h).1
  · exact (Array.getElem?_eq_some_iff.1 h).1
theorem BldC.later {w w' : World} {B b : Nat} {t : ByteArray} (h : BldC B b t w) (hb : Below w.heap.size w w') : BldC B b t w' := by
  have h2 : ∀ (p : Value), Lib.BuilderAtF 89 5 B b p (Lib.byteCells t.data.toList) w → Lib.BuilderAtF 89 5 B b p (Lib.byteCells t.data.toList) w' := by
    rintro p ⟨h1, v, h2, h3, h4⟩
    refine ⟨h1, v, by rw [hb.block b (Array.getElem?_eq_some_iff.1 h2).1]; exact h2, ⟨h3.1, ?_⟩, h4⟩
    rcases h3.2 with h | ⟨g, cap, cur, fz, e, hg, hgg, r⟩
    · exact .inl h
    · exact .inr ⟨g, cap, cur, fz, e, hg, by rw [hb.block g (Array.getElem?_eq_some_iff.1 hgg).1]; exact hgg, r⟩
  rcases h with h | h
  · exact .inl (h2 _ h)
  · exact .inr (h2 _ h)

/-- what the flush leaves -/
def AnsF (r : FL) (w : World) (e : Ending) (w' : World) : Prop := ∃ v', e = .returned (.tuple #[cnV r.c v', .string r.t, .bool r.x, .int .i64 r.e]) ∧ RowSl w' v' r.c.s ∧ Below w.heap.size w w'
/-- what a line's flush leaves: its row lies where it lay, or nowhere -/
structure FlAt (w w' : World) (base b : Nat) (v : Value) (c : CN) (v' : Value) : Prop where
  blk : LnB w' b c v'
  row : RowT w' v' c.s
  own : ∀ j, v'.ownBlock = some j → v.ownBlock = some j
  fr : LnF base b v w w'
def LineF (r : FL) (base b : Nat) (v : Value) (w : World) (e : Ending) (w' : World) : Prop := ∃ v', e = .returned (.tuple #[.string r.t, .bool r.x]) ∧ FlAt w w' base b v r.c v'

set_option maxHeartbeats 8000000 in
set_option maxRecDepth 100000 in
theorem flush_open {w : World} {base b : Nat} {c : CN} {v : Value} (H : LnAt w base b c v) (h3 : c.s.length ≤ 6) (htx : ∀ x ∈ c.s, x.t.size ≤ 300) (he : c.e = false) :
    Calls Tryz.prog 32 #[.pointer (some ⟨b, 0, none⟩)] w fun e w' => LineF ⟨{ c with s := c.s.drop (goL c.s) }, textL (c.s.take (goL c.s)), false, 0⟩ base b v w e w' := by
  obtain ⟨p1, k1, hv⟩ := H.row.slice
  subst hv
  have hbl := H.lt
  have hbb := H.hb
  have HBS := hide (Nat.le_trans H.hb (Nat.le_of_lt H.lt))
  have HTx := hide htx
  have hBA := qx_alloc w (.cells #[.pointer none, .slice none 0 0] 89)
  have HBA := hide hBA
  have HLn := hide (H.later hBA)
  have HBB : Hid ((w.alloc (.cells #[.pointer none, .slice none 0 0] 89)).heap[w.heap.size]? = some (.cells #[.pointer none, .slice none 0 0] 89 (0, 0))) := hide (by
    show (w.heap.push _)[w.heap.size]? = _
    rw [Array.getElem?_push, if_pos rfl])
  have HOw := hide (fun j hj => World.ownsRow.lt H.row j hj)
  have HNe := hide H.ne
  clear H hBA htx
  obtain ⟨o, e, i, s, n⟩ := c
  dsimp only at *
  subst he
  have HGo := hide (goL_le s)
  generalize hKK : goL s = K at *
  have HKK := hide hKK
  clear hKK
  generalize hsl0 : s.length = l at *
  have HSL0 := hide hsl0
  clear hsl0
  have HLv := hide (leave_any (unhide HLn) (by show s.length ≤ 6; rw [unhide HSL0]; exact h3))
  dsimp only at HLv
  rw [unhide HKK] at HLv
  go_enter Tryz.func32, Tryz.ntmps32
  go_wp2_with fail
  refine (unhide HLv).mono ?_
  rintro ex w2 ⟨gv, v2, rfl, hlv⟩
  have HLv2 := hide hlv
  have hsz2 := hlv.below.size
  simp at hsz2
  have HF2 := hide (LnF.trans (LnF.of (b := b) (v := .slice p1 l k1) (unhide HBA) (unhide HBS)) ⟨hlv.below.mono hbb, fun k hk hkb _ => hlv.frame k hk hkb⟩)
  have HBd := hide (BldC.new ((hlv.frame w.heap.size (by simp) (by omega)).trans (unhide HBB)))
  have HGn := hide hlv.gone
  obtain ⟨gp, gc, hgv⟩ := hlv.gone.slice
  dsimp only at hgv
  rw [List.length_take, unhide HSL0, Nat.min_eq_left (unhide HGo)] at hgv
  subst hgv
  have hK6 : K ≤ 6 := by have := unhide HGo; omega
  have HGne := hide (fun j hj => show j ≠ w.heap.size by have := (World.ownsRow.lt (unhide HGn) j hj).1; simp at this; omega)
  clear hlv HLv HBB
  go_wp2
  go_loopw [13] (fun ix wy => ∃ (k : Nat) (tt : ByteArray), k ≤ K ∧ ix = .int .i64 k ∧ Hid (tt = textL ((s.take K).take k)) ∧ tt.size ≤ 300 * k ∧ Hid (KeptC w.heap.size w2 wy) ∧ Hid (BldC w.heap.size w.heap.size tt wy) ∧ Hid (Below w.heap.size w2 wy)) (fun ix _ => K - (intOf ix).toNat)
  case atStart => exact ⟨0, ⟨#[]⟩, by omega, rfl, hide rfl, by decide, hide (Lib.OthersKept.refl _ _ _), hide (unhide HBd), hide (Below.refl _ _)⟩
  case round =>
    obtain ⟨k, tt, hk, rfl, htt, hts, hke, hbd, hbe⟩ := hrel
    have hsz3 := (unhide hbe).size
    by_cases hlt : k < K
    · have hlen : k < (s.take K).length := by rw [List.length_take, unhide HSL0, Nat.min_eq_left (unhide HGo)]; exact hlt
      have hgr := (unhide HGn).kept (unhide hke) (unhide HGne)
      obtain ⟨gb, rfl, hgb1, hgb2, hcs⟩ := hgr.opened (show 0 < (s.take K).length by omega)
      obtain ⟨q0, q1, q2⟩ := hcs k hlen
      obtain ⟨x, hx⟩ : ∃ x, x = (s.take K)[k] := ⟨_, rfl⟩
      rw [← hx] at q0 q1 q2
      have hxz : x.t.size ≤ 300 := unhide HTx x (List.mem_of_mem_take (by rw [hx]; exact List.getElem_mem hlen))
      have HTN := hide (show tt ++ x.t = textL ((s.take K).take (k + 1)) by rw [List.take_add_one, List.getElem?_eq_getElem hlen, ← hx]; show _ = textL (_ ++ [x]); rw [textL_snoc, unhide htt])
      have hlt' : (k : Int) < (K : Int) := by omega
      clear hx hcs hgr
      obtain ⟨xq, xr, xt⟩ := x
      dsimp only at q0 q1 q2 hxz HTN
      have HW := hide (writeC_any w.heap.size w.heap.size tt xt _ ((unhide hbd).alloc (.cells #[.int .i64 xq, .bool xr, .string xt] 66)) (by omega) (by simp; omega))
      have hts2 : (tt ++ xt).size ≤ 300 * (k + 1) := by rw [ByteArray.size_append]; omega
      go_wp2_with fail
      refine (unhide HW).mono ?_
      rintro ex y ⟨rfl, hbd2, hbe2, hke2⟩
      have HK2 := hide (((unhide hke).alloc (.cells #[.int .i64 xq, .bool xr, .string xt] 66)).trans hke2)
      have HBd2 := hide hbd2
      have HBe2 := hide (((unhide hbe).alloc (by omega) (.cells #[.int .i64 xq, .bool xr, .string xt] 66)).trans hbe2)
      clear hbd2 hbe2 hke2 HW q0 q1 q2
      go_wp2
      go_roundw
      case rel => exact ⟨k + 1, tt ++ xt, by omega, by go_num, hide (unhide HTN), hts2, hide (unhide HK2), hide (unhide HBd2), hide (unhide HBe2)⟩
      case measure => simp [intOf]; omega
    · have hkK : k = K := by omega
      subst hkK
      have HT : Hid (tt = textL (s.take k)) := hide (by rw [unhide htt, List.take_of_length_le (by rw [List.length_take]; omega)])
      have HLB := hide ((unhide HLv2).blk.kept (unhide hke) (by omega))
      have HRT := hide (RowT.kept ⟨(unhide HLv2).rest, (unhide HLv2).typ⟩ (unhide hke) (fun j hj => by have := unhide HOw j ((unhide HLv2).off j hj); omega))
      have HOv := hide (unhide HLv2).off
      have HF3 := hide (⟨(unhide HF2).below.trans ((unhide hbe).mono (unhide HBS)), fun k2 hk2 hkb hkv => ((unhide hbe).block k2 hk2).trans ((unhide HF2).keep k2 hk2 hkb hkv)⟩ : LnF base b (.slice p1 l k1) w wr)
      have hcl := (unhide HLB).cells.2.1
      dsimp only at hcl
      have hnk : ¬ (k : Int) < (k : Int) := by omega
      obtain ⟨p2, k2, hv2⟩ := (unhide HLB).sl
      dsimp only at hv2
      subst hv2
      generalize (s.drop k).length = lr at *
      clear HLv2 htt hts hke hbe
      go_wp2_with fail
      refine (stringC_any w.heap.size w.heap.size tt _ (unhide hbd) (by omega)).mono ?_
      rintro ex w6 ⟨rfl, hb6, hk6⟩
      have HL6 := hide ((unhide HLB).kept hk6 (by omega))
      have HR6 := hide ((unhide HRT).kept hk6 (fun j hj => by have := unhide HOw j (unhide HOv j hj); omega))
      have HF6 := hide (⟨(unhide HF3).below.trans (hb6.mono (unhide HBS)), fun k2 hk2 hkb hkv => (hb6.block k2 hk2).trans ((unhide HF3).keep k2 hk2 hkb hkv)⟩ : LnF base b (.slice p1 l k1) w w6)
      clear hb6 hk6
      go_wp2
      go_ret2
      exact ⟨_, by rw [unhide HT]; rfl, unhide HL6, unhide HR6, unhide HOv, unhide HF6⟩

set_option maxHeartbeats 8000000 in
set_option maxRecDepth 100000 in
theorem flush_wait {w : World} {base b : Nat} {c : CN} {v : Value} (H : LnAt w base b c v) (h3 : c.s.length ≤ 6) (htx : ∀ x ∈ c.s, x.t.size ≤ 300) (he : c.e = true) (hw : goL c.s ≠ c.s.length) :
    Calls Tryz.prog 32 #[.pointer (some ⟨b, 0, none⟩)] w fun e w' => LineF ⟨{ c with s := c.s.drop (goL c.s) }, textL (c.s.take (goL c.s)), false, 0⟩ base b v w e w' := by
  obtain ⟨p1, k1, hv⟩ := H.row.slice
  subst hv
  have hbl := H.lt
  have hbb := H.hb
  have HBS := hide (Nat.le_trans H.hb (Nat.le_of_lt H.lt))
  have HTx := hide htx
  have hBA := qx_alloc w (.cells #[.pointer none, .slice none 0 0] 89)
  have HBA := hide hBA
  have HLn := hide (H.later hBA)
  have HBB : Hid ((w.alloc (.cells #[.pointer none, .slice none 0 0] 89)).heap[w.heap.size]? = some (.cells #[.pointer none, .slice none 0 0] 89 (0, 0))) := hide (by
    show (w.heap.push _)[w.heap.size]? = _
    rw [Array.getElem?_push, if_pos rfl])
  have HOw := hide (fun j hj => World.ownsRow.lt H.row j hj)
  have HNe := hide H.ne
  clear H hBA htx
  obtain ⟨o, e, i, s, n⟩ := c
  dsimp only at *
  subst he
  have HGo := hide (goL_le s)
  have HWt := hide hw
  clear hw
  generalize hKK : goL s = K at *
  have HKK := hide hKK
  clear hKK
  generalize hsl0 : s.length = l at *
  have HSL0 := hide hsl0
  clear hsl0
  have HLv := hide (leave_any (unhide HLn) (by show s.length ≤ 6; rw [unhide HSL0]; exact h3))
  dsimp only at HLv
  rw [unhide HKK] at HLv
  go_enter Tryz.func32, Tryz.ntmps32
  go_wp2_with fail
  refine (unhide HLv).mono ?_
  rintro ex w2 ⟨gv, v2, rfl, hlv⟩
  have HLv2 := hide hlv
  have hsz2 := hlv.below.size
  simp at hsz2
  have HF2 := hide (LnF.trans (LnF.of (b := b) (v := .slice p1 l k1) (unhide HBA) (unhide HBS)) ⟨hlv.below.mono hbb, fun k hk hkb _ => hlv.frame k hk hkb⟩)
  have HBd := hide (BldC.new ((hlv.frame w.heap.size (by simp) (by omega)).trans (unhide HBB)))
  have HGn := hide hlv.gone
  obtain ⟨gp, gc, hgv⟩ := hlv.gone.slice
  dsimp only at hgv
  rw [List.length_take, unhide HSL0, Nat.min_eq_left (unhide HGo)] at hgv
  subst hgv
  have hK6 : K ≤ 6 := by have := unhide HGo; omega
  have HGne := hide (fun j hj => show j ≠ w.heap.size by have := (World.ownsRow.lt (unhide HGn) j hj).1; simp at this; omega)
  clear hlv HLv HBB
  go_wp2
  go_loopw [13] (fun ix wy => ∃ (k : Nat) (tt : ByteArray), k ≤ K ∧ ix = .int .i64 k ∧ Hid (tt = textL ((s.take K).take k)) ∧ tt.size ≤ 300 * k ∧ Hid (KeptC w.heap.size w2 wy) ∧ Hid (BldC w.heap.size w.heap.size tt wy) ∧ Hid (Below w.heap.size w2 wy)) (fun ix _ => K - (intOf ix).toNat)
  case atStart => exact ⟨0, ⟨#[]⟩, by omega, rfl, hide rfl, by decide, hide (Lib.OthersKept.refl _ _ _), hide (unhide HBd), hide (Below.refl _ _)⟩
  case round =>
    obtain ⟨k, tt, hk, rfl, htt, hts, hke, hbd, hbe⟩ := hrel
    have hsz3 := (unhide hbe).size
    by_cases hlt : k < K
    · have hlen : k < (s.take K).length := by rw [List.length_take, unhide HSL0, Nat.min_eq_left (unhide HGo)]; exact hlt
      have hgr := (unhide HGn).kept (unhide hke) (unhide HGne)
      obtain ⟨gb, rfl, hgb1, hgb2, hcs⟩ := hgr.opened (show 0 < (s.take K).length by omega)
      obtain ⟨q0, q1, q2⟩ := hcs k hlen
      obtain ⟨x, hx⟩ : ∃ x, x = (s.take K)[k] := ⟨_, rfl⟩
      rw [← hx] at q0 q1 q2
      have hxz : x.t.size ≤ 300 := unhide HTx x (List.mem_of_mem_take (by rw [hx]; exact List.getElem_mem hlen))
      have HTN := hide (show tt ++ x.t = textL ((s.take K).take (k + 1)) by rw [List.take_add_one, List.getElem?_eq_getElem hlen, ← hx]; show _ = textL (_ ++ [x]); rw [textL_snoc, unhide htt])
      have hlt' : (k : Int) < (K : Int) := by omega
      clear hx hcs hgr
      obtain ⟨xq, xr, xt⟩ := x
      dsimp only at q0 q1 q2 hxz HTN
      have HW := hide (writeC_any w.heap.size w.heap.size tt xt _ ((unhide hbd).alloc (.cells #[.int .i64 xq, .bool xr, .string xt] 66)) (by omega) (by simp; omega))
      have hts2 : (tt ++ xt).size ≤ 300 * (k + 1) := by rw [ByteArray.size_append]; omega
      go_wp2_with fail
      refine (unhide HW).mono ?_
      rintro ex y ⟨rfl, hbd2, hbe2, hke2⟩
      have HK2 := hide (((unhide hke).alloc (.cells #[.int .i64 xq, .bool xr, .string xt] 66)).trans hke2)
      have HBd2 := hide hbd2
      have HBe2 := hide (((unhide hbe).alloc (by omega) (.cells #[.int .i64 xq, .bool xr, .string xt] 66)).trans hbe2)
      clear hbd2 hbe2 hke2 HW q0 q1 q2
      go_wp2
      go_roundw
      case rel => exact ⟨k + 1, tt ++ xt, by omega, by go_num, hide (unhide HTN), hts2, hide (unhide HK2), hide (unhide HBd2), hide (unhide HBe2)⟩
      case measure => simp [intOf]; omega
    · have hkK : k = K := by omega
      subst hkK
      have HT : Hid (tt = textL (s.take k)) := hide (by rw [unhide htt, List.take_of_length_le (by rw [List.length_take]; omega)])
      have HLB := hide ((unhide HLv2).blk.kept (unhide hke) (by omega))
      have HRT := hide (RowT.kept ⟨(unhide HLv2).rest, (unhide HLv2).typ⟩ (unhide hke) (fun j hj => by have := unhide HOw j ((unhide HLv2).off j hj); omega))
      have HOv := hide (unhide HLv2).off
      have HF3 := hide (⟨(unhide HF2).below.trans ((unhide hbe).mono (unhide HBS)), fun k2 hk2 hkb hkv => ((unhide hbe).block k2 hk2).trans ((unhide HF2).keep k2 hk2 hkb hkv)⟩ : LnF base b (.slice p1 l k1) w wr)
      have hcl := (unhide HLB).cells.2.1
      dsimp only at hcl
      have hnk : ¬ (k : Int) < (k : Int) := by omega
      obtain ⟨p2, k2, hv2⟩ := (unhide HLB).sl
      dsimp only at hv2
      subst hv2
      have HLrr := hide (show (s.drop k).length = s.length - k from List.length_drop)
      generalize hlr : (s.drop k).length = lr at *
      have HLR := hide hlr
      clear hlr
      clear HLv2 htt hts hke hbe
      go_wp2_with fail
      refine (qsize_any (unhide HLB)).mono ?_
      rintro ex w4 ⟨rfl, rfl⟩
      dsimp only
      rw [unhide HLR]
      have hlr0 : (lr : Int) ≠ 0 := by have := unhide HLrr; have := unhide HWt; have := unhide HGo; have := unhide HSL0; omega
      have hlr1 : ((lr : Int) == 0) = false := by simpa using hlr0
      have hlr2 : lr ≠ 0 := by omega
      go_wp2_with fail
      refine (stringC_any w.heap.size w.heap.size tt _ (unhide hbd) (by omega)).mono ?_
      rintro ex w6 ⟨rfl, hb6, hk6⟩
      have HL6 := hide ((unhide HLB).kept hk6 (by omega))
      have HR6 := hide ((unhide HRT).kept hk6 (fun j hj => by have := unhide HOw j (unhide HOv j hj); omega))
      have HF6 := hide (⟨(unhide HF3).below.trans (hb6.mono (unhide HBS)), fun k2 hk2 hkb hkv => (hb6.block k2 hk2).trans ((unhide HF3).keep k2 hk2 hkb hkv)⟩ : LnF base b (.slice p1 l k1) w w6)
      clear hb6 hk6
      go_wp2
      go_ret2
      exact ⟨_, by rw [unhide HT]; rfl, unhide HL6, unhide HR6, unhide HOv, unhide HF6⟩

set_option maxHeartbeats 8000000 in
set_option maxRecDepth 100000 in
theorem flush_close {w : World} {base b : Nat} {c : CN} {v : Value} (H : LnAt w base b c v) (h3 : c.s.length ≤ 6) (htx : ∀ x ∈ c.s, x.t.size ≤ 300) (he : c.e = true) (hw : goL c.s = c.s.length) :
    Calls Tryz.prog 32 #[.pointer (some ⟨b, 0, none⟩)] w fun e w' => LineF ⟨⟨false, false, ⟨#[]⟩, [], c.n⟩, textL (c.s.take (goL c.s)), true, 0⟩ base b v w e w' := by
  obtain ⟨p1, k1, hv⟩ := H.row.slice
  subst hv
  have hbl := H.lt
  have hbb := H.hb
  have HBS := hide (Nat.le_trans H.hb (Nat.le_of_lt H.lt))
  have HTx := hide htx
  have hBA := qx_alloc w (.cells #[.pointer none, .slice none 0 0] 89)
  have HBA := hide hBA
  have HLn := hide (H.later hBA)
  have HBB : Hid ((w.alloc (.cells #[.pointer none, .slice none 0 0] 89)).heap[w.heap.size]? = some (.cells #[.pointer none, .slice none 0 0] 89 (0, 0))) := hide (by
    show (w.heap.push _)[w.heap.size]? = _
    rw [Array.getElem?_push, if_pos rfl])
  have HOw := hide (fun j hj => World.ownsRow.lt H.row j hj)
  have HNe := hide H.ne
  clear H hBA htx
  obtain ⟨o, e, i, s, n⟩ := c
  dsimp only at *
  subst he
  have HGo := hide (goL_le s)
  have HWt := hide hw
  clear hw
  generalize hKK : goL s = K at *
  have HKK := hide hKK
  clear hKK
  generalize hsl0 : s.length = l at *
  have HSL0 := hide hsl0
  clear hsl0
  have HLv := hide (leave_any (unhide HLn) (by show s.length ≤ 6; rw [unhide HSL0]; exact h3))
  dsimp only at HLv
  rw [unhide HKK] at HLv
  go_enter Tryz.func32, Tryz.ntmps32
  go_wp2_with fail
  refine (unhide HLv).mono ?_
  rintro ex w2 ⟨gv, v2, rfl, hlv⟩
  have HLv2 := hide hlv
  have hsz2 := hlv.below.size
  simp at hsz2
  have HF2 := hide (LnF.trans (LnF.of (b := b) (v := .slice p1 l k1) (unhide HBA) (unhide HBS)) ⟨hlv.below.mono hbb, fun k hk hkb _ => hlv.frame k hk hkb⟩)
  have HBd := hide (BldC.new ((hlv.frame w.heap.size (by simp) (by omega)).trans (unhide HBB)))
  have HGn := hide hlv.gone
  obtain ⟨gp, gc, hgv⟩ := hlv.gone.slice
  dsimp only at hgv
  rw [List.length_take, unhide HSL0, Nat.min_eq_left (unhide HGo)] at hgv
  subst hgv
  have hK6 : K ≤ 6 := by have := unhide HGo; omega
  have HGne := hide (fun j hj => show j ≠ w.heap.size by have := (World.ownsRow.lt (unhide HGn) j hj).1; simp at this; omega)
  clear hlv HLv HBB
  go_wp2
  go_loopw [13] (fun ix wy => ∃ (k : Nat) (tt : ByteArray), k ≤ K ∧ ix = .int .i64 k ∧ Hid (tt = textL ((s.take K).take k)) ∧ tt.size ≤ 300 * k ∧ Hid (KeptC w.heap.size w2 wy) ∧ Hid (BldC w.heap.size w.heap.size tt wy) ∧ Hid (Below w.heap.size w2 wy)) (fun ix _ => K - (intOf ix).toNat)
  case atStart => exact ⟨0, ⟨#[]⟩, by omega, rfl, hide rfl, by decide, hide (Lib.OthersKept.refl _ _ _), hide (unhide HBd), hide (Below.refl _ _)⟩
  case round =>
    obtain ⟨k, tt, hk, rfl, htt, hts, hke, hbd, hbe⟩ := hrel
    have hsz3 := (unhide hbe).size
    by_cases hlt : k < K
    · have hlen : k < (s.take K).length := by rw [List.length_take, unhide HSL0, Nat.min_eq_left (unhide HGo)]; exact hlt
      have hgr := (unhide HGn).kept (unhide hke) (unhide HGne)
      obtain ⟨gb, rfl, hgb1, hgb2, hcs⟩ := hgr.opened (show 0 < (s.take K).length by omega)
      obtain ⟨q0, q1, q2⟩ := hcs k hlen
      obtain ⟨x, hx⟩ : ∃ x, x = (s.take K)[k] := ⟨_, rfl⟩
      rw [← hx] at q0 q1 q2
      have hxz : x.t.size ≤ 300 := unhide HTx x (List.mem_of_mem_take (by rw [hx]; exact List.getElem_mem hlen))
      have HTN := hide (show tt ++ x.t = textL ((s.take K).take (k + 1)) by rw [List.take_add_one, List.getElem?_eq_getElem hlen, ← hx]; show _ = textL (_ ++ [x]); rw [textL_snoc, unhide htt])
      have hlt' : (k : Int) < (K : Int) := by omega
      clear hx hcs hgr
      obtain ⟨xq, xr, xt⟩ := x
      dsimp only at q0 q1 q2 hxz HTN
      have HW := hide (writeC_any w.heap.size w.heap.size tt xt _ ((unhide hbd).alloc (.cells #[.int .i64 xq, .bool xr, .string xt] 66)) (by omega) (by simp; omega))
      have hts2 : (tt ++ xt).size ≤ 300 * (k + 1) := by rw [ByteArray.size_append]; omega
      go_wp2_with fail
      refine (unhide HW).mono ?_
      rintro ex y ⟨rfl, hbd2, hbe2, hke2⟩
      have HK2 := hide (((unhide hke).alloc (.cells #[.int .i64 xq, .bool xr, .string xt] 66)).trans hke2)
      have HBd2 := hide hbd2
      have HBe2 := hide (((unhide hbe).alloc (by omega) (.cells #[.int .i64 xq, .bool xr, .string xt] 66)).trans hbe2)
      clear hbd2 hbe2 hke2 HW q0 q1 q2
      go_wp2
      go_roundw
      case rel => exact ⟨k + 1, tt ++ xt, by omega, by go_num, hide (unhide HTN), hts2, hide (unhide HK2), hide (unhide HBd2), hide (unhide HBe2)⟩
      case measure => simp [intOf]; omega
    · have hkK : k = K := by omega
      subst hkK
      have HT : Hid (tt = textL (s.take k)) := hide (by rw [unhide htt, List.take_of_length_le (by rw [List.length_take]; omega)])
      have HLB := hide ((unhide HLv2).blk.kept (unhide hke) (by omega))
      have HRT := hide (RowT.kept ⟨(unhide HLv2).rest, (unhide HLv2).typ⟩ (unhide hke) (fun j hj => by have := unhide HOw j ((unhide HLv2).off j hj); omega))
      have HOv := hide (unhide HLv2).off
      have HF3 := hide (⟨(unhide HF2).below.trans ((unhide hbe).mono (unhide HBS)), fun k2 hk2 hkb hkv => ((unhide hbe).block k2 hk2).trans ((unhide HF2).keep k2 hk2 hkb hkv)⟩ : LnF base b (.slice p1 l k1) w wr)
      have hcl := (unhide HLB).cells.2.1
      dsimp only at hcl
      have hnk : ¬ (k : Int) < (k : Int) := by omega
      obtain ⟨p2, k2, hv2⟩ := (unhide HLB).sl
      dsimp only at hv2
      subst hv2
      have HLrr := hide (show (s.drop k).length = s.length - k from List.length_drop)
      generalize hlr : (s.drop k).length = lr at *
      have HLR := hide hlr
      clear hlr
      clear HLv2 htt hts hke hbe
      go_wp2_with fail
      refine (qsize_any (unhide HLB)).mono ?_
      rintro ex w4 ⟨rfl, rfl⟩
      dsimp only
      rw [unhide HLR]
      have hlr0 : lr = 0 := by have := unhide HLrr; have := unhide HWt; have := unhide HSL0; omega
      subst hlr0
      go_wp2_with fail
      refine (shut_any (base := base) (unhide HLB) hbb).mono ?_
      rintro ex w4 ⟨rfl, hl4, hb4, hf4⟩
      have HLB4 := hide hl4
      have HRT4 := hide (show RowT w4 (.slice none 0 0) [] from ⟨RowSl.nil4 _, fun j hj => by cases hj⟩)
      have HBd4 := hide ((unhide hbd).same hf4 (by omega))
      have HF4 := hide ((unhide HF3).trans ⟨hb4, fun k _ hkb _ => hf4 k hkb⟩)
      have hs4 := hb4.size
      have HOvV : Hid (∀ j, (Value.slice none 0 0).ownBlock = some j → (Value.slice p1 l k1).ownBlock = some j) := hide (fun j hj => by cases hj)
      dsimp only at HLB4
      clear hl4 hb4 hf4
      go_wp2_with fail
      refine (stringC_any w.heap.size w.heap.size tt _ (unhide HBd4) (by omega)).mono ?_
      rintro ex w6 ⟨rfl, hb6, hk6⟩
      have HL6 := hide ((unhide HLB4).kept hk6 (by omega))
      have HR6 := hide ((unhide HRT4).kept hk6 (fun j hj => by have := unhide HOw j (unhide HOvV j hj); omega))
      have HF6 := hide (⟨(unhide HF4).below.trans (hb6.mono (unhide HBS)), fun k2 hk2 hkb hkv => (hb6.block k2 hk2).trans ((unhide HF4).keep k2 hk2 hkb hkv)⟩ : LnF base b (.slice p1 l k1) w w6)
      clear hb6 hk6
      go_wp2
      go_ret2
      exact ⟨_, by rw [unhide HT]; rfl, unhide HL6, unhide HR6, unhide HOvV, unhide HF6⟩

set_option maxHeartbeats 8000000 in
set_option maxRecDepth 100000 in
theorem ConnFlush_by (c d : CN) (T : ByteArray) (X : Bool) (v : Value) (w : World) (hv : RowSl w v c.s) (hr : connB c = true)
    (hm : ∀ (w : World) (base b : Nat) (v : Value), LnAt w base b c v → Calls Tryz.prog 32 #[.pointer (some ⟨b, 0, none⟩)] w fun e w' => LineF ⟨d, T, X, 0⟩ base b v w e w') :
    Calls Tryz.prog 15 #[cnV c v] w fun e w' => AnsF ⟨d, T, X, 0⟩ w e w' := by
  obtain ⟨p, cap, rfl, _⟩ := hv.slice
  have HL := hide (fun wx (hnx : Below w.heap.size w wx) => lineOf_right c (.slice p c.s.length cap) wx (hv.later hnx) hr)
  have HM := hide hm
  clear hv hr hm
  obtain ⟨o, e, i, s, n⟩ := c
  obtain ⟨ro, re, ri, rs, rn⟩ := d
  dsimp only [cnV] at *
  generalize s.length = l at *
  go_enter Tryz.func15, Tryz.ntmps15
  go_wp2_with fail
  refine (unhide HL _ (qx_al (qx_alloc _ _))).mono ?_
  rintro ex w1 ⟨v1, rfl, hrow, hb1⟩
  have HZ := hide ((ZeroC.new2 w _).later hb1)
  have HB1 := hide (qx_trans (qx_al (qx_alloc _ _)) hb1)
  have hz1 := hb1.size
  simp at hz1
  obtain ⟨p1, k1, rfl⟩ := hrow.slice
  have HOw := hide (fun j hj => World.ownsRow.lt hrow j hj)
  have HLn := hide (LnAt.new w1 (w.heap.size + 2) ⟨o, e, i, s, n⟩ _ w1.heap.size rfl (by omega) (SlBuf.mono hrow (by simp)))
  have HBA := hide (qx_alloc w1 (.cells #[.bool o, .bool e, .string i, .slice p1 s.length k1, .int .i64 n] 57))
  clear hrow hb1 HL
  dsimp only at HLn
  generalize hsl : s.length = l2 at *
  have HSL := hide hsl
  clear hsl
  have HM1 := hide (unhide HM _ _ _ _ (unhide HLn))
  go_wp2_with fail
  refine (unhide HM1).mono ?_
  rintro ex w2 ⟨v2, rfl, hl2, hr2, ho2, hf2⟩
  have HL2 := hide hl2
  have HR2 := hide hr2
  have HZ2 := hide (((unhide HZ).later (unhide HBA)).below hf2.below (by omega))
  have HB2 := hide ((qx_trans (unhide HB1) (unhide HBA)).trans (hf2.below.mono (show w.heap.size ≤ w.heap.size + 2 by omega)))
  have HO2 := hide (fun j hj => show j ≠ w.heap.size + 1 by have := (unhide HOw j (ho2 j hj)).1; simp at this; omega)
  obtain ⟨p2, k2, hv2⟩ := hl2.sl
  dsimp only at hv2
  subst hv2
  generalize rs.length = lr at *
  clear hl2 hr2 ho2 hf2 HM1
  go_wp2_with fail
  refine (conn_any (unhide HL2)).mono ?_
  rintro ex w3 ⟨rfl, hb3⟩
  dsimp only [cnV]
  have HZ3 := hide ((unhide HZ2).later hb3)
  obtain ⟨a0, a1, a2, a3, a4⟩ := (unhide HZ3).cells
  obtain ⟨f0, f1, f2, f3, f4⟩ := (unhide HZ3).free
  have HRw := hide ((unhide HR2).later hb3)
  have HB3 := hide (qx_trans (unhide HB2) hb3)
  clear hb3
  go_wp2
  refine bodyPost_ret (v := .tuple #[cnV ⟨ro, re, ri, rs, rn⟩ (.slice p2 lr k2), .string T, .bool X, .int .i64 0]) ?_ rfl ⟨_, rfl, (unhide HRw).row.five (c := ⟨ro, re, ri, rs, rn⟩) (v := .slice p2 lr k2) (unhide HO2), fiveC.below (c := ⟨ro, re, ri, rs, rn⟩) (v := .slice p2 lr k2) (unhide HB3) (Nat.le_succ _)⟩
  have hld := (unhide HZ3).load ⟨ro, re, ri, rs, rn⟩ (.slice p2 lr k2)
  simp only [fiveC] at hld
  simp [results, Tryz.results15, asAddr, Result.andThen, hld]

theorem ConnFlush_open (c : CN) (v : Value) (w : World) (hv : RowSl w v c.s) (hr : connB c = true) (he : c.e = false) :
    Calls Tryz.prog 15 #[cnV c v] w fun e w' => AnsF ⟨{ c with s := c.s.drop (goL c.s) }, textL (c.s.take (goL c.s)), false, 0⟩ w e w' :=
  ConnFlush_by c _ _ _ v w hv hr fun _ _ _ _ H => flush_open H (connB_few hr).2.2.2 (connB_texts hr) he
theorem ConnFlush_wait (c : CN) (v : Value) (w : World) (hv : RowSl w v c.s) (hr : connB c = true) (he : c.e = true) (hw : goL c.s ≠ c.s.length) :
    Calls Tryz.prog 15 #[cnV c v] w fun e w' => AnsF ⟨{ c with s := c.s.drop (goL c.s) }, textL (c.s.take (goL c.s)), false, 0⟩ w e w' :=
  ConnFlush_by c _ _ _ v w hv hr fun _ _ _ _ H => flush_wait H (connB_few hr).2.2.2 (connB_texts hr) he hw
theorem ConnFlush_close (c : CN) (v : Value) (w : World) (hv : RowSl w v c.s) (hr : connB c = true) (he : c.e = true) (hw : goL c.s = c.s.length) :
    Calls Tryz.prog 15 #[cnV c v] w fun e w' => AnsF ⟨⟨false, false, ⟨#[]⟩, [], c.n⟩, textL (c.s.take (goL c.s)), true, 0⟩ w e w' :=
  ConnFlush_by c _ _ _ v w hv hr fun _ _ _ _ H => flush_close H (connB_few hr).2.2.2 (connB_texts hr) he hw

end Go.Proofs.YthfoabcmgiiadaaGreatDoor
