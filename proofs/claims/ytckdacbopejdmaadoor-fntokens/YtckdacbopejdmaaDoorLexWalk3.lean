/- Sources read: code and specification both answer all tokens ('LexTo'). -/
import Derived.Test.YtckdacbopejdmaaDoorLexWalk2
import Derived.Test.YtckdacbopejdmaaDoorTokList
namespace Go.Proofs.YtckdacbopejdmaaDoor
open Go.RowKit Go.Joins
set_option linter.unusedVariables false

theorem infoTok : (Tryd.prog.info? 44).map (fun i => (i.zero, i.size, i.bytes)) = some (some (.agg #[.int .i64 0, .int .i64 0, .string ⟨#[]⟩]), 3, 32) := by kernel_rfl
def cells3 (v : V3) : List Value := [.int .i64 v.k, .int .i64 v.n, .string v.t]
def tokCells (vs : List V3) : List Value := vs.flatMap cells3
theorem tokCells_snoc (vs : List V3) (v : V3) : tokCells (vs ++ [v]) = tokCells vs ++ cells3 v := by simp [tokCells]
theorem tokCells_len (vs : List V3) : (tokCells vs).length = vs.length * 3 := by
  induction vs with
  | nil => rfl
  | cons v vs ih => rw [tokCells, List.flatMap_cons, List.length_append]; simp only [tokCells] at ih; rw [ih]; simp [cells3]; omega
theorem tokCells_get : ∀ (vs : List V3) (i : Nat) (h : i < vs.length), (tokCells vs)[i * 3]? = some (.int .i64 vs[i].k) ∧ (tokCells vs)[i * 3 + 1]? = some (.int .i64 vs[i].n) ∧ (tokCells vs)[i * 3 + 2]? = some (.string vs[i].t) := by
  intro vs
  induction vs with
  | nil => intro i h; simp at h
  | cons v vs ih =>
    intro i h
    have e : tokCells (v :: vs) = cells3 v ++ tokCells vs := by simp [tokCells]
    cases i with
    | zero => rw [e]; exact ⟨rfl, rfl, rfl⟩
    | succ i =>
      have h' : i < vs.length := by simpa using h
      have := ih i h'
      have hl : (cells3 v).length = 3 := rfl
      refine ⟨?_, ?_, ?_⟩
      · rw [e, List.getElem?_append_right (by omega), show (i + 1) * 3 - (cells3 v).length = i * 3 by omega]; exact this.1
      · rw [e, List.getElem?_append_right (by omega), show (i + 1) * 3 + 1 - (cells3 v).length = i * 3 + 1 by omega]; exact this.2.1
      · rw [e, List.getElem?_append_right (by omega), show (i + 1) * 3 + 2 - (cells3 v).length = i * 3 + 2 by omega]; exact this.2.2
/-- a list of tokens of one's own -/
def TokBuf (w : World) (base : Nat) (v : Value) (vs : List V3) : Prop := w.ownsRow base 44 3 v vs.length (tokCells vs)
theorem TokBuf.nil (w : World) (base : Nat) : TokBuf w base (.slice none 0 0) [] := World.ownsRow_nil _ _ _ _
theorem TokBuf.alloc {w : World} {base : Nat} {v : Value} {vs : List V3} (h : TokBuf w base v vs) (o : Obj) : TokBuf (w.alloc o) base v vs := World.ownsRow.alloc h o
theorem TokBuf.lit0 (w : World) (base : Nat) (h : base ≤ w.heap.size) : TokBuf (w.alloc (.cells #[] 44)) base (.slice (some ⟨w.heap.size, 0, none⟩) 0 0) [] := by
  have := World.ownsRow_lit (base := base) (e := 44) (size := 3) w #[] 0 h (by decide) (by simp)
  simpa [TokBuf, tokCells] using this
theorem TokBuf.slice {w : World} {base : Nat} {v : Value} {vs : List V3} (h : TokBuf w base v vs) : ∃ a cap, v = .slice a vs.length cap := own_slice h
theorem TokBuf.own_lt {w : World} {base : Nat} {v : Value} {vs : List V3} (h : TokBuf w base v vs) : ∀ j, v.ownBlock = some j → j < w.heap.size := fun j hj => (World.ownsRow.lt h j hj).2
theorem TokBuf.below {w w' : World} {base B : Nat} {v : Value} {vs : List V3} (h : TokBuf w base v vs) (hb : Below B w w') (hB : ∀ j, v.ownBlock = some j → j < B) : TokBuf w' base v vs := by
  refine ⟨h.1, ?_⟩
  rcases h.2 with h | ⟨g, cap, cur, e, hg, hgg, r⟩
  · exact .inl h
  · refine .inr ⟨g, cap, cur, e, hg, ?_, r⟩
    rw [hb.block g (hB g (by rw [e]; rfl))]; exact hgg
theorem TokBuf.later {w w' : World} {base : Nat} {v : Value} {vs : List V3} (h : TokBuf w base v vs) (hb : Below w.heap.size w w') : TokBuf w' base v vs := h.below hb h.own_lt
theorem TokBuf.toks {w : World} {base : Nat} {v : Value} {vs : List V3} (h : TokBuf w base v vs) : ∃ a cap, v = .slice a vs.length cap ∧ ToksAt w a vs := by
  rcases h.2 with ⟨rfl, h0⟩ | ⟨g, cap, cur, rfl, hg⟩
  · exact ⟨none, 0, by rw [h0], fun i hi => by omega⟩
  · refine ⟨some ⟨g, 0, none⟩, cap, rfl, fun i hi => ⟨g, 0, rfl, ?_, ?_, ?_⟩⟩
    · have := World.ownsRow.cellAt h (i * 3) (by omega)
      rw [(tokCells_get vs i hi).1] at this
      simpa using this
    · have := World.ownsRow.cellAt h (i * 3 + 1) (by omega)
      rw [(tokCells_get vs i hi).2.1] at this
      simpa using this
    · have := World.ownsRow.cellAt h (i * 3 + 2) (by omega)
      rw [(tokCells_get vs i hi).2.2] at this
      simpa using this
theorem TokBuf.mono {w : World} {base base' : Nat} {v : Value} {vs : List V3} (h : TokBuf w base v vs) (hb : base' ≤ base) : TokBuf w base' v vs := by
  refine ⟨h.1, ?_⟩
  rcases h.2 with h | ⟨g, cap, cur, e, hg, r⟩
  · exact .inl h
  · exact .inr ⟨g, cap, cur, e, Nat.le_trans hb hg, r⟩

theorem wp_appK (w : World) {ops : Array Oper} {rest : List Oper} {o : Oper} {a : Act} {Q : Exit → Act → World → Prop} (hgd : o.guard = none) (s x : Operand)
    (ho : o.op = .call { callee := .builtin .append, args := #[s, x], argTypes := #[37, 37] }) (base g : Nat) (v : Value) (vs : List V3) (c : V3) (hs : a.eval s = v)
    (hown : TokBuf w base v vs) (hx : a.eval x = .slice (some ⟨g, 0, none⟩) 1 1) (hc0 : w.cell? ⟨g, 0, none⟩ = some (.int .i64 c.k)) (hc1 : w.cell? ⟨g, 1, none⟩ = some (.int .i64 c.n)) (hc2 : w.cell? ⟨g, 2, none⟩ = some (.string c.t)) (hbase : base ≤ w.heap.size) (hl : vs.length ≤ 1000000)
    (h : ∀ v' w', TokBuf w' base v' (vs ++ [c]) → Below base w w' → wpList Tryd.prog ops Q rest (a.put o.dst v') w') : wpList Tryd.prog ops Q (o :: rest) a w := by
  obtain ⟨i0, hi, hz0, hz1, hz2⟩ := info_parts infoTok
  refine wpList_append_own _ hgd s x 37 ho base 44 i0 (.agg #[.int .i64 0, .int .i64 0, .string ⟨#[]⟩]) 3 32 Tryd.underlying37 hi hz0 hz1 hz2 rfl (by decide) _ _ _ hs hown ⟨g, 0, none⟩ 1 1 (cells3 c) hx rfl ?_ ?_ (by unfold maxLen; omega) (by omega) hbase ?_
  · intro j u' hj
    match j, hj with
    | 0, hj => simp [cells3] at hj; subst hj; simpa [Addr.add] using hc0
    | 1, hj => simp [cells3] at hj; subst hj; simpa [Addr.add] using hc1
    | 2, hj => simp [cells3] at hj; subst hj; simpa [Addr.add] using hc2
    | j + 3, hj => simp [cells3] at hj
  · intro u' hu'
    simp [cells3] at hu'
    rcases hu' with rfl | rfl | rfl <;> rfl
  · intro v' w' hown' hgrow _
    rw [← tokCells_snoc, show vs.length + 1 = (vs ++ [c]).length by simp] at hown'
    exact h v' w' hown' ((Below.refl _ _).grown hgrow hbase (fun j hj => (World.ownsRow.lt hown j hj).1))

/-- what a source is read to: tokens, place, code -/
def LexIs (s : ByteArray) (x : List V3 × Nat × Int) : Prop :=
  (65536 < s.size ∧ x = ([], 0, 2)) ∨ (600 < s.size ∧ s.size ≤ 65536 ∧ x = ([], 0, 10)) ∨ (s.size ≤ 600 ∧ LexTo s.data.toList 0 [] x)
theorem LexIs.det {s : ByteArray} {x y : List V3 × Nat × Int} (h : LexIs s x) (h' : LexIs s y) : x = y := by
  rcases h with ⟨h1, rfl⟩ | ⟨h1, h2, rfl⟩ | ⟨h1, hx⟩
  · rcases h' with ⟨_, rfl⟩ | ⟨_, _, _⟩ | ⟨_, _⟩
    · rfl
    · omega
    · omega
  · rcases h' with ⟨_, rfl⟩ | ⟨_, _, rfl⟩ | ⟨_, _⟩
    · omega
    · rfl
    · omega
  · rcases h' with ⟨_, rfl⟩ | ⟨_, _, rfl⟩ | ⟨_, hy⟩
    · omega
    · omega
    · exact hx.det hy
/-- what a call that reads a source leaves -/
def LexPost (s : ByteArray) (w : World) (e : Ending) (w' : World) : Prop :=
  ∃ (v : Value) (vs : List V3) (p : Nat) (c : Int), e = .returned (.tuple #[v, .int .i64 (p : Int), .int .i64 c]) ∧ LexIs s (vs, p, c) ∧ TokBuf w' w.heap.size v vs ∧ Below w.heap.size w w'
theorem LexPost.mk {s : ByteArray} {w w' : World} (v : Value) (vs : List V3) (p : Nat) (c : Int) (h1 : LexIs s (vs, p, c)) (h2 : TokBuf w' w.heap.size v vs) (h3 : Below w.heap.size w w') : LexPost s w (.returned (.tuple #[v, .int .i64 (p : Int), .int .i64 c])) w' := ⟨v, vs, p, c, rfl, h1, h2, h3⟩

/-- so far: tokens up to p -/
def LexAt (l : List UInt8) (p : Nat) (acc : List V3) : Prop := (∀ x, LexTo l p acc x → LexTo l 0 [] x) ∧ acc.length ≤ 300
theorem lexAt_many {l : List UInt8} {p : Nat} {acc : List V3} (h : LexAt l p acc) (hp : p < l.length) (hb : blankC l[p] = false) (hn : acc.length = 300) : LexTo l 0 [] ([], p, 6) :=
  h.1 _ (.many p acc l[p] _ (List.drop_eq_getElem_cons hp) hb hn)
theorem lexAt_form {l : List UInt8} {p : Nat} {acc : List V3} (h : LexAt l p acc) (hp : p < l.length) (hb : blankC l[p] = false) (hn : acc.length ≠ 300) (ht : nextT (l.drop p) = none) : LexTo l 0 [] ([], p, 3) := by
  rw [List.drop_eq_getElem_cons hp] at ht
  exact h.1 _ (.form p acc l[p] _ (List.drop_eq_getElem_cons hp) hb hn ht)
theorem lexAt_tok {l : List UInt8} {p : Nat} {acc : List V3} {k : Int} {t : List UInt8} {n : Nat} (h : LexAt l p acc) (hp : p < l.length) (hb : blankC l[p] = false) (hn : acc.length ≠ 300) (ht : nextT (l.drop p) = some (k, t, n)) : LexAt l (p + n) (acc ++ [tokV k p t]) := by
  rw [List.drop_eq_getElem_cons hp] at ht
  exact ⟨fun x hx => h.1 _ (.tok p acc l[p] _ k t n x (List.drop_eq_getElem_cons hp) hb hn ht hx), by have := h.2; simp; omega⟩
theorem lexAt_done {l : List UInt8} {p : Nat} {acc : List V3} (h : LexAt l p acc) (hp : l.length ≤ p) : LexTo l 0 [] (acc, 0, 0) := h.1 _ (.done p acc hp)
theorem lexAt_skip {l : List UInt8} {p q : Nat} {acc : List V3} (h : LexAt l p acc) (hq : Leads l q p) : LexAt l q acc := ⟨fun x hx => h.1 _ (hq _ _ hx), h.2⟩
theorem lexAt_zero (l : List UInt8) : LexAt l 0 [] := ⟨fun _ h => h, by simp⟩
theorem drop_extract (s : ByteArray) (p : Nat) : (s.extract p s.size).data.toList = s.data.toList.drop p := by
  rw [extract_list]
  exact List.take_of_length_le (by rw [List.length_drop, size_list]; omega)
theorem readToken_at (s : ByteArray) (p : Nat) (k : Int) (t : List UInt8) (n : Nat) (w : World) (hs : s.size ≤ 65536) (hp : p < s.size) (ht : Hid (Tabs w)) (hr : Hid (rawT (s.data.toList.drop p) = (k, t, n))) :
    Calls Tryd.prog 53 #[.string (s.extract p s.size)] w fun e w' => e = .returned (.tuple #[.agg #[.int .i64 k, .int .i64 0, .string ⟨t.toArray⟩], .int .i64 (n : Int)]) ∧ Below w.heap.size w w' := by
  have hz : (s.extract p s.size).size = s.size - p := by rw [ByteArray.size_extract]; omega
  have := readToken_any (s.extract p s.size) w (by omega) (by omega) ht
  rw [drop_extract, unhide hr] at this
  exact this
theorem raw_len (l : List UInt8) : (rawT l).2.1.length ≤ l.length := by
  cases l with
  | nil => simp [rawT]
  | cons c r =>
    have htw : ∀ p : UInt8 → Bool, (r.takeWhile p).length ≤ r.length := fun p => (List.takeWhile_sublist p).length_le
    cases h1 : letB (c.toNat : Int)
    · cases h2 : digB (c.toNat : Int)
      · by_cases h3 : c = 39
        · subst h3
          rw [rawT_quote]
          have := (rqP_len (39 :: r)).1
          split
          · simp
          · exact this
        · rw [rawT_sign c r h1 h2 h3]
          dsimp only
          rw [List.length_take]
          exact Nat.min_le_right _ _
      · rw [rawT_dig c r h1 h2]; have := htw dgt; simp; omega
    · rw [rawT_let c r h1]; have := htw nmb; simp; omega

theorem raw_next {s : ByteArray} {p : Nat} {k : Int} {t : List UInt8} {n : Nat} (hlt : p < s.size) (hr : rawT (s.data.toList.drop p) = (k, t, n)) : (nextT (s.data.toList.drop p) = if tokB k t = true then some (k, t, n) else none) ∧ (tokB k t = true → 0 < n ∧ p + n ≤ s.size) := by
  obtain ⟨c, r, hcr⟩ : ∃ c r, s.data.toList.drop p = c :: r := ⟨_, _, drop_at s p hlt⟩
  have hl : (c :: r).length = s.size - p := by rw [← hcr, List.length_drop, size_list]
  rw [hcr] at hr ⊢
  refine ⟨by rw [nextT_raw, hr], fun h => ?_⟩
  have hz := rawT_pos c r (by rw [hr]; exact h)
  rw [hr, hl] at hz
  dsimp only at hz
  omega

theorem cell_new {u : World} {g : Nat} {a b c : Value} {t : TypeId} (hg : g = u.heap.size) : (u.alloc (.cells #[a, b, c] t)).cell? ⟨g, 0, none⟩ = some a ∧ (u.alloc (.cells #[a, b, c] t)).cell? ⟨g, 1, none⟩ = some b ∧ (u.alloc (.cells #[a, b, c] t)).cell? ⟨g, 2, none⟩ = some c := by
  subst hg
  exact ⟨by simp, by simp, by simp⟩

theorem LexSource_long (s : ByteArray) (w : World) (h : 65536 < s.size) (hs : s.size ≤ 9223372036854775807) : Calls Tryd.prog 19 #[.string s] w (LexPost s w) := by
  go_enter Tryd.func19, Tryd.ntmps19
  go_wp2
  go_ret3
  exact LexPost.mk _ [] 0 2 (.inl ⟨h, rfl⟩) (TokBuf.nil _ _) (Below.refl _ _)

theorem LexSource_size (s : ByteArray) (w : World) (h : 600 < s.size) (hs : s.size ≤ 65536) : Calls Tryd.prog 19 #[.string s] w (LexPost s w) := by
  go_enter Tryd.func19, Tryd.ntmps19
  go_wp2
  go_ret3
  exact LexPost.mk _ [] 0 10 (.inr (.inl ⟨h, hs, rfl⟩)) (TokBuf.nil _ _) (Below.refl _ _)

set_option maxHeartbeats 8000000 in
set_option maxRecDepth 100000 in
theorem LexSource_loop (s : ByteArray) (w : World) (h6 : s.size ≤ 600) (ht : Hid (Tabs w)) : Calls Tryd.prog 19 #[.string s] w (LexPost s w) := by
  have hs : s.size ≤ 65536 := by omega
  go_enter Tryd.func19, Tryd.ntmps19
  go_wp2_with fail
  refine (skipBlanks_any s 0 _ hs (by omega)).mono ?_
  rintro e w ⟨q0, rfl, _, hq0, hl0, hb0, rfl⟩
  go_wp2
  go_loopw [5, 6] (fun m i wx => ∃ (p : Nat) (acc : List V3), p ≤ s.size ∧ i = .int .i64 p ∧ Hid (LexAt s.data.toList p acc) ∧ Hid (∀ h : p < s.size, blankC s[p] = false) ∧ TokBuf wx w.heap.size m acc ∧ Below w.heap.size w wx) (fun _ i _ => s.size - (intOf i).toNat)
  case atStart => exact ⟨q0, [], hq0, rfl, hide (lexAt_skip (lexAt_zero _) (unhide hl0)), hide (unhide hb0), TokBuf.nil _ _, Below.refl _ _⟩
  case round =>
    clear hl0 hb0 hq0
    obtain ⟨p, acc, hp, rfl, hin, hbl, hown, hnx⟩ := hrel
    have hwr : w.heap.size ≤ wr.heap.size := hnx.size
    have hal : acc.length ≤ 300 := (unhide hin).2
    obtain ⟨ma, mcap, rfl⟩ := hown.slice
    by_cases hlt : p < s.size
    · have hlt' : (p : Int) < (s.size : Int) := by omega
      have hple : (p : Int) ≤ (s.size : Int) := by omega
      have hb := hide (unhide hbl hlt)
      have hpl : Hid (p < s.data.toList.length) := hide (by rw [size_list]; exact hlt)
      by_cases h300 : acc.length = 300
      · have e3 : ((acc.length : Int) == 300) = true := by rw [h300]; rfl
        have hd := hide (lexAt_many (unhide hin) (unhide hpl) (unhide hb) h300)
        clear h300
        go_wp2
        go_ret3
        exact LexPost.mk _ [] p 6 (.inr (.inr ⟨h6, unhide hd⟩)) (TokBuf.nil _ _) hnx
      have e3 : ((acc.length : Int) == 300) = false := beq_eq_false_iff_ne.2 (by omega)
      obtain ⟨k, t, n, hr⟩ : ∃ k t n, rawT (s.data.toList.drop p) = (k, t, n) := ⟨_, _, _, rfl⟩
      have HR := hide hr
      have htl : t.length ≤ 600 := by
        have := raw_len (s.data.toList.drop p)
        rw [hr, List.length_drop, size_list] at this
        dsimp only at this
        omega
      have hnt : Hid (nextT (s.data.toList.drop p) = if tokB k t = true then some (k, t, n) else none) := hide (raw_next hlt hr).1
      have hpos : Hid (tokB k t = true → 0 < n ∧ p + n ≤ s.size) := hide (raw_next hlt hr).2
      clear hr
      have hform := hide (fun h => lexAt_form (unhide hin) (unhide hpl) (unhide hb) h300 h)
      have htok := hide (fun h => lexAt_tok (k := k) (t := t) (n := n) (unhide hin) (unhide hpl) (unhide hb) h300 h)
      have hT0 := hide ((unhide ht).later hnx)
      have HL := hide hown.own_lt
      clear h300
      have htz : (⟨t.toArray⟩ : ByteArray).size ≤ maxLen := by rw [size_mk']; unfold maxLen; omega
      cases hB : tokB k t
      · have hd := hide (unhide hform (by rw [unhide hnt, hB]; rfl))
        have hBB := hide (show tokB k (⟨t.toArray⟩ : ByteArray).data.toList = false by simpa using hB)
        clear hB hform htok hpos hnt
        go_wp2_with fail
        refine (readToken_at s p k t n _ hs hlt hT0 HR).mono ?_
        rintro e w1 ⟨rfl, hb1⟩
        have hT1 : ∀ o, Hid (Tabs (w1.alloc o)) := fun o => hide (((unhide hT0).later hb1).later (nx_alloc _ o))
        have hnx1 := hide (nx_trans hnx hb1)
        clear hb1
        go_wp2_with fail
        refine (tokenOK_is k 0 ⟨t.toArray⟩ false _ htz (hT1 _) hBB).mono ?_
        rintro e w2 ⟨rfl, hb2⟩
        go_wp2
        go_ret3
        exact LexPost.mk _ [] p 3 (.inr (.inr ⟨h6, unhide hd⟩)) (TokBuf.nil _ _) (nx_trans (nx_al (unhide hnx1)) hb2)
      · have hd := hide (unhide htok (by rw [unhide hnt, hB]; rfl))
        have hn := unhide hpos hB
        obtain ⟨hn0, hns⟩ := hn
        have hBB := hide (show tokB k (⟨t.toArray⟩ : ByteArray).data.toList = true by simpa using hB)
        clear hB hform htok hpos hnt
        go_wp2_with fail
        refine (readToken_at s p k t n _ hs hlt hT0 HR).mono ?_
        rintro e w1 ⟨rfl, hb1⟩
        have hT1 : ∀ o, Hid (Tabs (w1.alloc o)) := fun o => hide (((unhide hT0).later hb1).later (nx_alloc _ o))
        have hnx1 := hide (nx_trans hnx hb1)
        have hown1 := hide (hown.later hb1)
        have HL1 : Hid (∀ j, (Value.slice ma acc.length mcap).ownBlock = some j → j < w1.heap.size) := hide (unhide hown1).own_lt
        clear hb1 HL
        go_wp2_with fail
        refine (tokenOK_is k 0 ⟨t.toArray⟩ true _ htz (hT1 _) hBB).mono ?_
        rintro e w2 ⟨rfl, hb2⟩
        obtain ⟨hc2, hf2⟩ := bcell hb2
        have hz2 : w1.heap.size < w2.heap.size := by have := hb2.size; simp at this; omega
        have hown2 := hide (((unhide hown1).alloc _).later hb2)
        have hnx2 := hide (nx_trans (nx_al (unhide hnx1)) hb2)
        clear hb2
        have hset := hide (fun (u : Value) (o : Nat) => (unhide hown2).below ((Below.refl w1.heap.size w2).setCell (p := ⟨w1.heap.size, o, none⟩) (Nat.le_refl w1.heap.size) u) (unhide HL1))
        go_wp2_with (at_builtin; refine wp_appK _ rfl _ _ rfl w.heap.size w2.heap.size _ acc (tokV k p t) rfl (TokBuf.alloc (unhide hset _ _) _) rfl ?c0 ?c1 ?c2 ?c5 ?c3 ?c6)
        case c0 => exact (cell_new (by simp)).1
        case c1 => exact (cell_new (by simp)).2.1
        case c2 => exact (cell_new (by simp)).2.2
        case c5 => have := (unhide hnx2).size; first | omega | (simp; omega)
        case c3 => omega
        case c6 =>
          intro v3 w3 hown3 hb3
          have hnx3 : Below w.heap.size w w3 := (((unhide hnx2).setCell (by have := hnx.size; have := (unhide hnx1).size; omega) _).alloc (by have := (unhide hnx2).size; simp; omega) _).trans hb3
          have HO3 := hide hown3
          have hN3 := hide hnx3
          clear hown3 hb3 hown hc2 hf2 hset hnx3
          go_wp2_with fail
          rw [show (p : Int) + (n : Int) = ((p + n : Nat) : Int) by omega]
          refine (skipBlanks_any s (p + n) _ hs hns).mono ?_
          rintro e w3 ⟨q, rfl, hq1, hq2, hl, hbq, rfl⟩
          have hd2 := hide (lexAt_skip (unhide hd) (unhide hl))
          clear hl
          go_wp2
          go_roundw
          case rel => exact ⟨q, acc ++ [tokV k p t], hq2, rfl, hide (unhide hd2), hide (unhide hbq), unhide HO3, unhide hN3⟩
          case measure => simp [intOf]; omega
    · have hlt' : ¬ (p : Int) < (s.size : Int) := by omega
      have hd := hide (lexAt_done (unhide hin) (by rw [size_list]; omega))
      have HO := hide hown
      clear hown
      go_wp2
      go_ret3
      exact LexPost.mk _ acc 0 0 (.inr (.inr ⟨h6, unhide hd⟩)) (unhide HO) hnx

theorem LexSource_any (s : ByteArray) (w : World) (hs : s.size ≤ maxLen) (ht : Hid (Tabs w)) : Calls Tryd.prog 19 #[.string s] w (LexPost s w) := by
  unfold maxLen at hs
  by_cases h : 65536 < s.size
  · exact LexSource_long s w h (by omega)
  by_cases h6 : 600 < s.size
  · exact LexSource_size s w h6 (by omega)
  exact LexSource_loop s w (by omega) ht

end Go.Proofs.YtckdacbopejdmaaDoor
