/- A bundle. -/
import Derived.Test.YtbipgmikgokfpaaDoorTokWalk
import Derived.Test.YtbipgmikgokfpaaDoorG04
import Derived.Test.YtbipgmikgokfpaaDoorG01
import Derived.Laws.MakeOwn
import Derived.Lib.SmallJoins
import Derived.Test.YtbipgmikgokfpaaDoorG02
import Derived.Test.YtbipgmikgokfpaaDoorIntBuf
import Derived.Test.YtbipgmikgokfpaaDoorG05
import Derived.Test.YtbipgmikgokfpaaDoorGrowWalk1

/- TokWalk2 -/
namespace Go.Proofs.YtbipgmikgokfpaaDoor
open Go.RowKit
set_option linter.unusedVariables false

theorem num_tok {l : List UInt8} {n : Int} {b : Bool} (h : numP l = (n, b)) : (b = true ∧ 0 ≤ n ∧ n ≤ 2147483647 → tokB 3 l = true ∧ Lib.itoa n = l) ∧ (¬ (b = true ∧ 0 ≤ n ∧ n ≤ 2147483647) → tokB 3 l = false) := by
  rw [tokB_3]
  unfold numP at h
  by_cases hh : l.head? = some 45
  · rw [if_pos hh] at h
    have hd : (digP l).2 = false := by
      cases hd : (digP l).2
      · rfl
      · have := digP_parts hd
        cases l with
        | nil => cases hh
        | cons c r =>
          simp at hh
          have := this.2.2.1 c (by simp)
          rw [hh] at this
          exact absurd this (by decide)
    rw [hd]
    refine ⟨fun ⟨hb, h0, h1⟩ => ?_, fun _ => rfl⟩
    exfalso
    have e1 : -(digP l.tail).1 = n := congrArg Prod.fst h
    have e2 : ((digP l.tail).2 && (digP l.tail).1 != 0) = b := congrArg Prod.snd h
    rw [hb] at e2
    simp at e2
    have := (dec_digP e2.1).2
    omega
  · rw [if_neg hh] at h
    rw [h]
    refine ⟨fun ⟨hb, h0, h1⟩ => ?_, fun hn => ?_⟩
    · subst hb
      have hd := dec_digP (l := l) (by rw [h])
      rw [h] at hd
      refine ⟨by simp; omega, ?_⟩
      unfold Lib.itoa
      rw [if_neg (by omega)]
      exact hd.1
    · cases b
      · rfl
      · have hd := dec_digP (l := l) (by rw [h])
        rw [h] at hd
        have : 0 ≤ n := hd.2
        simp
        have : ¬ (0 ≤ n ∧ n ≤ 2147483647) := fun hx => hn ⟨rfl, hx⟩
        omega

theorem l00Digits_is (n : Int) (s : ByteArray) (w : World) (h0 : 0 ≤ n) (h1 : n ≤ 2147483647) (h : Hid (Lib.itoa n = s.data.toList)) :
    Calls Tryd.prog 94 #[.int .i64 n] w fun e w' => e = .returned (.string s) ∧ Below w.heap.size w w' := by
  have := l00Digits_any n w (by omega) h1
  rw [unhide h] at this
  exact this

theorem list_one (s : ByteArray) (h : s.size = 1) : s.toList = [s[0]] := by
  rw [ByteArray.toList_eq, list_cons s (by omega), drop_end s 1 (by omega)]
theorem sign_one (c : UInt8) : signB [c] = (sgnB (c.toNat : Int) && ([c] != [38]) && ([c] != [124])) := by
  cases hg : sgnB (c.toNat : Int)
  · have h := not_one (sgn_not hg)
    simp only [Bool.false_and]
    cases hs : signB [c]
    · rfl
    · exfalso
      simp only [signB, srcSigns, List.any_cons, List.any_nil, Bool.or_false, Bool.or_eq_true, beq_iff_eq] at hs
      have hm := h.1
      simp only [oneSigns, List.mem_cons, List.not_mem_nil, or_false, not_or] at hm
      simp only [List.cons.injEq, and_true, reduceCtorEq, and_false, false_or] at hs
      obtain ⟨g1, g2, g3, g4, g5, g6, g7, g8, g9, g10, g11, g12, g13, g14⟩ := hm
      rcases hs with hs | hs | hs | hs | hs | hs | hs | hs | hs | hs | hs | hs | hs | hs
      · exact g1 hs.symm
      · exact g2 hs.symm
      · exact g3 hs.symm
      · exact g4 hs.symm
      · exact g5 hs.symm
      · exact g6 hs.symm
      · exact g7 hs.symm
      · exact g8 hs.symm
      · exact g9 hs.symm
      · exact g10 hs.symm
      · exact g11 hs.symm
      · exact g12 hs.symm
      · exact g13 hs.symm
      · exact g14 hs.symm
  · have hm := sgn_fact hg
    simp only [sgnL, List.mem_cons, List.not_mem_nil, or_false] at hm
    rcases hm with h | h | h | h | h | h | h | h | h | h | h | h | h | h | h | h <;> subst h <;> decide
theorem sign_not_one (l : List UInt8) (h : l.length ≠ 1) : signB l = (l == [61, 61] || l == [38, 38] || l == [124, 124]) := by
  rw [Bool.eq_iff_iff]
  simp only [signB, srcSigns, List.any_cons, List.any_nil, Bool.or_false, Bool.or_eq_true, beq_iff_eq]
  constructor
  · rintro (h | h | h | h | h | h | h | h | h | h | h | h | h | h | h | h | h)
    · exact .inl (.inl h.symm)
    · exact .inl (.inr h.symm)
    · exact .inr h.symm
    all_goals (subst h; simp at *)
  · rintro ((h | h) | h)
    · exact .inl h.symm
    · exact .inr (.inl h.symm)
    · exact .inr (.inr (.inl h.symm))

end Go.Proofs.YtbipgmikgokfpaaDoor

/- LexWalk -/
namespace Go.Proofs.YtbipgmikgokfpaaDoor
open Go.RowKit
set_option linter.unusedVariables false

theorem blankC_eq (c : UInt8) : blankC c = (((c.toNat : Int) == 32) || ((c.toNat : Int) == 9) || ((c.toNat : Int) == 10)) := by
  have h : ∀ d : UInt8, (c == d) = ((c.toNat : Int) == (d.toNat : Int)) := fun d => by
    rw [Bool.eq_iff_iff]
    simp only [beq_iff_eq]
    exact ⟨fun h => by rw [h], fun h => byte_eq h⟩
  unfold blankC
  rw [h 32, h 9, h 10]
  rfl
/-- what is read from q on is read from p on -/
def Leads (l : List UInt8) (q p : Nat) : Prop := ∀ acc x, LexTo l q acc x → LexTo l p acc x
theorem ret_txt {a b : List UInt8} (h : a = b) : Ending.returned (.string ⟨a.toArray⟩) = .returned (.string ⟨b.toArray⟩) := by rw [h]
theorem lex_skip {l : List UInt8} {p : Nat} (h : p < l.length) (hb : blankC l[p] = true) (acc : List V3) (x : List V3 × Nat × Int) (hx : LexTo l (p + 1) acc x) : LexTo l p acc x :=
  .blank p acc l[p] (l.drop (p + 1)) x (List.drop_eq_getElem_cons h) hb hx

/-- so far: the first k bytes are such -/
def RunAt (q : UInt8 → Bool) (s : ByteArray) (k : Nat) : Prop := ∀ j (h : j < s.size), j < k → q s[j] = true
theorem RunAt.succ {q : UInt8 → Bool} {s : ByteArray} {k : Nat} (h : RunAt q s k) (hk : k < s.size) (hq : q s[k] = true) : RunAt q s (k + 1) := by
  intro j hj h2
  by_cases e : j = k
  · subst e; exact hq
  · exact h j hj (by omega)
theorem RunAt.stop {q : UInt8 → Bool} {s : ByteArray} {k : Nat} (hk : k ≤ s.size) (h : RunAt q s k) (hs : ∀ hlt : k < s.size, q s[k] = false) : s.data.toList.take k = s.data.toList.takeWhile q := by
  rw [takeW_stop q _ k]
  · intro x hx
    obtain ⟨j, hj, rfl⟩ := List.mem_iff_getElem.1 hx
    simp only [List.length_take, size_list] at hj
    simp only [List.getElem_take]
    exact h j (by omega) (by omega)
  · intro c hc
    rw [get_list] at hc
    split at hc
    · rename_i hlt
      have e := Option.some.inj hc
      rw [← e]; exact hs hlt
    · cases hc
theorem take_len (s : ByteArray) (k : Nat) (h : k ≤ s.size) : (s.data.toList.take k).length = k := by rw [List.length_take, size_list]; omega

/-- p stands at the beginning of s -/
def hpB (s p : ByteArray) : Bool := p.data.toList.isPrefixOf s.data.toList
theorem prefix_take (s p : ByteArray) (h : p.size ≤ s.size) : ((s.extract 0 p.size).toList == p.toList) = hpB s p := by
  unfold hpB
  rw [ByteArray.toList_eq, ByteArray.toList_eq, extract_list, List.drop_zero, Nat.sub_zero, Bool.eq_iff_iff]
  rw [beq_iff_eq, List.isPrefixOf_iff_prefix, List.prefix_iff_eq_take, size_list]
  exact ⟨fun h => h.symm, fun h => h.symm⟩
theorem prefix_long (s p : ByteArray) (h : s.size < p.size) : hpB s p = false := by
  cases hb : hpB s p
  · rfl
  · have := (List.isPrefixOf_iff_prefix.1 hb).length_le
    rw [size_list, size_list] at this
    omega

end Go.Proofs.YtbipgmikgokfpaaDoor

/- LexWalk2 -/
namespace Go.Proofs.YtbipgmikgokfpaaDoor
open Go.RowKit
set_option linter.unusedVariables false

def rawV (x : Int × List UInt8 × Nat) : Value := .tuple #[.agg #[.int .i64 x.1, .int .i64 0, .string ⟨x.2.1.toArray⟩], .int .i64 (x.2.2 : Int)]
theorem rawV_eq {x y : Int × List UInt8 × Nat} (h : x = y) : Ending.returned (rawV y) = .returned (rawV x) := by rw [h]
theorem rawV_mk (k : Int) (t : List UInt8) (n : Nat) : rawV (k, t, n) = .tuple #[.agg #[.int .i64 k, .int .i64 0, .string ⟨t.toArray⟩], .int .i64 (n : Int)] := rfl
theorem run_head {q : UInt8 → Bool} {s : ByteArray} (h : 0 < s.size) (hq : q s[0] = true) : s.data.toList.takeWhile q = s[0] :: (s.data.toList.drop 1).takeWhile q := by
  conv => lhs; rw [list_cons s h]
  rw [List.takeWhile_cons, if_pos hq]

theorem run_len (q : UInt8 → Bool) (s : ByteArray) : (s.data.toList.takeWhile q).length ≤ s.size := by
  have := (List.takeWhile_sublist q (l := s.data.toList)).length_le
  rw [size_list] at this
  exact this

theorem raw_is {s : ByteArray} {k : Int} {t : List UInt8} {n : Nat} (h : rawT s.data.toList = (k, t, n)) (m : Nat) (hm : m = n) :
    Value.tuple #[.agg #[.int .i64 k, .int .i64 0, .string ⟨t.toArray⟩], .int .i64 (m : Int)] = rawV (rawT s.data.toList) := by rw [h, hm]; rfl
theorem size_mk' (l : List UInt8) : (⟨l.toArray⟩ : ByteArray).size = l.length := by simp [ByteArray.size]

end Go.Proofs.YtbipgmikgokfpaaDoor

/- TokList -/
namespace Go.Proofs.YtbipgmikgokfpaaDoor
open Go.RowKit Go.Joins
set_option linter.unusedVariables false

/-- values that came in: three cells each, from some place on -/
def ToksAt (w : World) (p : Option Addr) (vs : List V3) : Prop := ∀ i (h : i < vs.length), ∃ b off, p = some ⟨b, off, none⟩ ∧ w.cell? ⟨b, off + i * 3, none⟩ = some (.int .i64 vs[i].k) ∧ w.cell? ⟨b, off + i * 3 + 1, none⟩ = some (.int .i64 vs[i].n) ∧ w.cell? ⟨b, off + i * 3 + 2, none⟩ = some (.string vs[i].t)
theorem ToksAt.later {w w' : World} {p : Option Addr} {vs : List V3} (h : ToksAt w p vs) (hb : Below w.heap.size w w') : ToksAt w' p vs := fun i hi => by
  obtain ⟨b, off, rfl, h0, h1, h2⟩ := h i hi
  exact ⟨b, off, rfl, cell_later hb h0, cell_later hb h1, cell_later hb h2⟩

/-- the row that is made, filled up to k -/
def TFilled (w : World) (g : Nat) (vs : List V3) (k : Nat) : Prop := ∃ cs : Array Value, w.heap[g]? = some (.cells cs 169 (0, 0)) ∧ cs.size = vs.length * 3 ∧ ∀ i (h : i < vs.length), i < k → cs[i * 3]? = some (.int .i64 vs[i].k) ∧ cs[i * 3 + 1]? = some (.int .i64 vs[i].n) ∧ cs[i * 3 + 2]? = some (.string vs[i].t)
theorem TFilled.later {w w' : World} {g : Nat} {vs : List V3} {k : Nat} (h : TFilled w g vs k) (hb : Below w.heap.size w w') (hg : g < w.heap.size) : TFilled w' g vs k := by
  obtain ⟨cs, h1, h2, h3⟩ := h
  exact ⟨cs, by rw [hb.block g hg]; exact h1, h2, h3⟩
theorem TFilled.cells {w : World} {g : Nat} {vs : List V3} {k : Nat} (h : TFilled w g vs k) (i : Nat) (hi : i < vs.length * 3) : ∃ v, w.cell? ⟨g, i, none⟩ = some v := by
  obtain ⟨cs, h1, h2, h3⟩ := h
  refine ⟨cs[i]'(by omega), ?_⟩
  rw [cell_of_block h1 i, Array.getElem?_eq_getElem (by omega)]
theorem TFilled.free {w : World} {g : Nat} {vs : List V3} {k : Nat} (h : TFilled w g vs k) (i : Nat) : w.frozen? ⟨g, i, none⟩ = false := by
  obtain ⟨cs, h1, h2, h3⟩ := h
  exact unfrozen_of_block h1 i
theorem TFilled.set {w : World} {g : Nat} {vs : List V3} {k : Nat} (h : TFilled w g vs k) (hk : k < vs.length) :
    TFilled (((w.setCell ⟨g, k * 3, none⟩ (.int .i64 vs[k].k)).setCell ⟨g, k * 3 + 1, none⟩ (.int .i64 vs[k].n)).setCell ⟨g, k * 3 + 2, none⟩ (.string vs[k].t)) g vs (k + 1) := by
  obtain ⟨cs, h1, h2, h3⟩ := h
  refine ⟨_, block_setCell (block_setCell (block_setCell h1 _) _) _, by simp [h2], fun i hi hik => ?_⟩
  by_cases e : i = k
  · subst e
    refine ⟨?_, ?_, ?_⟩
    all_goals simp [Array.getElem?_setIfInBounds, h2]
    all_goals omega
  · obtain ⟨c0, c1, c2⟩ := h3 i hi (by omega)
    refine ⟨?_, ?_, ?_⟩
    · rw [Array.getElem?_setIfInBounds_ne (by omega), Array.getElem?_setIfInBounds_ne (by omega), Array.getElem?_setIfInBounds_ne (by omega), c0]
    · rw [Array.getElem?_setIfInBounds_ne (by omega), Array.getElem?_setIfInBounds_ne (by omega), Array.getElem?_setIfInBounds_ne (by omega), c1]
    · rw [Array.getElem?_setIfInBounds_ne (by omega), Array.getElem?_setIfInBounds_ne (by omega), Array.getElem?_setIfInBounds_ne (by omega), c2]
theorem TFilled.args {w : World} {g : Nat} {vs : List V3} (h : TFilled w g vs vs.length) : ArgsAt w g vs := fun i hi => by
  obtain ⟨cs, h1, h2, h3⟩ := h
  obtain ⟨c0, c1, c2⟩ := h3 i hi hi
  exact ⟨by rw [cell_of_block h1, c0], by rw [cell_of_block h1, c1], by rw [cell_of_block h1, c2]⟩

set_option maxRecDepth 100000 in
theorem tmade3 (n : Nat) (w : World) (hn : n ≤ 1048576) : (Instr.makeSlice 144 (.int .i64 (n : Int)) (.int .i64 (n : Int))).run Tryd.prog w = .ok (.slice (some ⟨w.heap.size, 0, none⟩) n n) (w.alloc (.cells (madeCells #[.int .i64 0, .int .i64 0, .string ⟨#[]⟩] (n * 3)) 169)) := by
  have h := run_make (P := Tryd.prog) w 144 169 _ (.agg #[.int .i64 0, .int .i64 0, .string ⟨#[]⟩]) Tryd.underlying144 rfl rfl .i64 .i64 (n : Int) (n : Int) (by omega) (Int.le_refl _) (by show (32 : Int) * (n : Int) ≤ 281474976710656; omega) (by omega)
  simp only [Int.toNat_natCast] at h
  exact h

theorem ArgsAt.toks {w : World} {g : Nat} {vs : List V3} (h : ArgsAt w g vs) : ToksAt w (some ⟨g, 0, none⟩) vs := fun i hi => ⟨g, 0, rfl, by simpa using (h i hi).1, by simpa using (h i hi).2.1, by simpa using (h i hi).2.2⟩

end Go.Proofs.YtbipgmikgokfpaaDoor

/- LexWalk3 -/
namespace Go.Proofs.YtbipgmikgokfpaaDoor
open Go.RowKit Go.Joins
set_option linter.unusedVariables false

theorem infoTok : (Tryd.prog.info? 169).map (fun i => (i.zero, i.size, i.bytes)) = some (some (.agg #[.int .i64 0, .int .i64 0, .string ⟨#[]⟩]), 3, 32) := by kernel_rfl
def cells3 (v : V3) : List Value := [.int .i64 v.k, .int .i64 v.n, .string v.t]
def tokCells (vs : List V3) : List Value := vs.flatMap cells3
theorem tokCells_snoc (vs : List V3) (v : V3) : tokCells (vs ++ [v]) = tokCells vs ++ cells3 v := by simp [tokCells]
theorem tokCells_len (vs : List V3) : (tokCells vs).length = vs.length * 3 := by
  induction vs with
  | nil => rfl
  | cons v vs ih => rw [tokCells, List.flatMap_cons, List.length_append]; simp only [tokCells] at ih; rw [ih]; simp [cells3]; omega
theorem tokCells_get : ∀ (vs : List V3) (i : Nat) (h : i < vs.length), (tokCells vs)[i * 3]? = some (.int .i64 vs[i].k) ∧ (tokCells vs)[i * 3 + 1]? = some (.int .i64 vs[i].n) ∧ (tokCells vs)[i * 3 + 2]? = some (.string vs[i].t) := by
  intro vs
  induction vs with
  | nil => intro i h; simp at h
  | cons v vs ih =>
    intro i h
    have e : tokCells (v :: vs) = cells3 v ++ tokCells vs := by simp [tokCells]
    cases i with
    | zero => rw [e]; exact ⟨rfl, rfl, rfl⟩
    | succ i =>
      have h' : i < vs.length := by simpa using h
      have := ih i h'
      have hl : (cells3 v).length = 3 := rfl
      refine ⟨?_, ?_, ?_⟩
      · rw [e, List.getElem?_append_right (by omega), show (i + 1) * 3 - (cells3 v).length = i * 3 by omega]; exact this.1
      · rw [e, List.getElem?_append_right (by omega), show (i + 1) * 3 + 1 - (cells3 v).length = i * 3 + 1 by omega]; exact this.2.1
      · rw [e, List.getElem?_append_right (by omega), show (i + 1) * 3 + 2 - (cells3 v).length = i * 3 + 2 by omega]; exact this.2.2
/-- a list of tokens of one's own -/
def TokBuf (w : World) (base : Nat) (v : Value) (vs : List V3) : Prop := w.ownsRow base 169 3 v vs.length (tokCells vs)
theorem TokBuf.nil (w : World) (base : Nat) : TokBuf w base (.slice none 0 0) [] := World.ownsRow_nil _ _ _ _
theorem TokBuf.alloc {w : World} {base : Nat} {v : Value} {vs : List V3} (h : TokBuf w base v vs) (o : Obj) : TokBuf (w.alloc o) base v vs := World.ownsRow.alloc h o
theorem TokBuf.lit0 (w : World) (base : Nat) (h : base ≤ w.heap.size) : TokBuf (w.alloc (.cells #[] 169)) base (.slice (some ⟨w.heap.size, 0, none⟩) 0 0) [] := by
  have := World.ownsRow_lit (base := base) (e := 169) (size := 3) w #[] 0 h (by decide) (by simp)
  simpa [TokBuf, tokCells] using this
theorem TokBuf.slice {w : World} {base : Nat} {v : Value} {vs : List V3} (h : TokBuf w base v vs) : ∃ a cap, v = .slice a vs.length cap := own_slice h
theorem TokBuf.own_lt {w : World} {base : Nat} {v : Value} {vs : List V3} (h : TokBuf w base v vs) : ∀ j, v.ownBlock = some j → j < w.heap.size := fun j hj => (World.ownsRow.lt h j hj).2
theorem TokBuf.below {w w' : World} {base B : Nat} {v : Value} {vs : List V3} (h : TokBuf w base v vs) (hb : Below B w w') (hB : ∀ j, v.ownBlock = some j → j < B) : TokBuf w' base v vs := by
  refine ⟨h.1, ?_⟩
  rcases h.2 with h | ⟨g, cap, cur, e, hg, hgg, r⟩
  · exact .inl h
  · refine .inr ⟨g, cap, cur, e, hg, ?_, r⟩
    rw [hb.block g (hB g (by rw [e]; rfl))]; exact hgg
theorem TokBuf.later {w w' : World} {base : Nat} {v : Value} {vs : List V3} (h : TokBuf w base v vs) (hb : Below w.heap.size w w') : TokBuf w' base v vs := h.below hb h.own_lt
theorem TokBuf.toks {w : World} {base : Nat} {v : Value} {vs : List V3} (h : TokBuf w base v vs) : ∃ a cap, v = .slice a vs.length cap ∧ ToksAt w a vs := by
  rcases h.2 with ⟨rfl, h0⟩ | ⟨g, cap, cur, rfl, hg⟩
  · exact ⟨none, 0, by rw [h0], fun i hi => by omega⟩
  · refine ⟨some ⟨g, 0, none⟩, cap, rfl, fun i hi => ⟨g, 0, rfl, ?_, ?_, ?_⟩⟩
    · have := World.ownsRow.cellAt h (i * 3) (by omega)
      rw [(tokCells_get vs i hi).1] at this
      simpa using this
    · have := World.ownsRow.cellAt h (i * 3 + 1) (by omega)
      rw [(tokCells_get vs i hi).2.1] at this
      simpa using this
    · have := World.ownsRow.cellAt h (i * 3 + 2) (by omega)
      rw [(tokCells_get vs i hi).2.2] at this
      simpa using this
theorem TokBuf.mono {w : World} {base base' : Nat} {v : Value} {vs : List V3} (h : TokBuf w base v vs) (hb : base' ≤ base) : TokBuf w base' v vs := by
  refine ⟨h.1, ?_⟩
  rcases h.2 with h | ⟨g, cap, cur, e, hg, r⟩
  · exact .inl h
  · exact .inr ⟨g, cap, cur, e, Nat.le_trans hb hg, r⟩

theorem wp_appK (w : World) {ops : Array Oper} {rest : List Oper} {o : Oper} {a : Act} {Q : Exit → Act → World → Prop} (hgd : o.guard = none) (s x : Operand)
    (ho : o.op = .call { callee := .builtin .append, args := #[s, x], argTypes := #[144, 144] }) (base g : Nat) (v : Value) (vs : List V3) (c : V3) (hs : a.eval s = v)
    (hown : TokBuf w base v vs) (hx : a.eval x = .slice (some ⟨g, 0, none⟩) 1 1) (hc0 : w.cell? ⟨g, 0, none⟩ = some (.int .i64 c.k)) (hc1 : w.cell? ⟨g, 1, none⟩ = some (.int .i64 c.n)) (hc2 : w.cell? ⟨g, 2, none⟩ = some (.string c.t)) (hbase : base ≤ w.heap.size) (hl : vs.length ≤ 1000000)
    (h : ∀ v' w', TokBuf w' base v' (vs ++ [c]) → Below base w w' → wpList Tryd.prog ops Q rest (a.put o.dst v') w') : wpList Tryd.prog ops Q (o :: rest) a w := by
  obtain ⟨i0, hi, hz0, hz1, hz2⟩ := info_parts infoTok
  refine wpList_append_own _ hgd s x 144 ho base 169 i0 (.agg #[.int .i64 0, .int .i64 0, .string ⟨#[]⟩]) 3 32 Tryd.underlying144 hi hz0 hz1 hz2 rfl (by decide) _ _ _ hs hown ⟨g, 0, none⟩ 1 1 (cells3 c) hx rfl ?_ ?_ (by unfold maxLen; omega) (by omega) hbase ?_
  · intro j u' hj
    match j, hj with
    | 0, hj => simp [cells3] at hj; subst hj; simpa [Addr.add] using hc0
    | 1, hj => simp [cells3] at hj; subst hj; simpa [Addr.add] using hc1
    | 2, hj => simp [cells3] at hj; subst hj; simpa [Addr.add] using hc2
    | j + 3, hj => simp [cells3] at hj
  · intro u' hu'
    simp [cells3] at hu'
    rcases hu' with rfl | rfl | rfl <;> rfl
  · intro v' w' hown' hgrow _
    rw [← tokCells_snoc, show vs.length + 1 = (vs ++ [c]).length by simp] at hown'
    exact h v' w' hown' ((Below.refl _ _).grown hgrow hbase (fun j hj => (World.ownsRow.lt hown j hj).1))

/-- what a source is read to: tokens, place, code -/
def LexIs (s : ByteArray) (x : List V3 × Nat × Int) : Prop :=
  (65536 < s.size ∧ x = ([], 0, 2)) ∨ (600 < s.size ∧ s.size ≤ 65536 ∧ x = ([], 0, 10)) ∨ (s.size ≤ 600 ∧ LexTo s.data.toList 0 [] x)
theorem LexIs.det {s : ByteArray} {x y : List V3 × Nat × Int} (h : LexIs s x) (h' : LexIs s y) : x = y := by
  rcases h with ⟨h1, rfl⟩ | ⟨h1, h2, rfl⟩ | ⟨h1, hx⟩
  · rcases h' with ⟨_, rfl⟩ | ⟨_, _, _⟩ | ⟨_, _⟩
    · rfl
    · omega
    · omega
  · rcases h' with ⟨_, rfl⟩ | ⟨_, _, rfl⟩ | ⟨_, _⟩
    · omega
    · rfl
    · omega
  · rcases h' with ⟨_, rfl⟩ | ⟨_, _, rfl⟩ | ⟨_, hy⟩
    · omega
    · omega
    · exact hx.det hy
/-- what a call that reads a source leaves -/
def LexPost (s : ByteArray) (w : World) (e : Ending) (w' : World) : Prop :=
  ∃ (v : Value) (vs : List V3) (p : Nat) (c : Int), e = .returned (.tuple #[v, .int .i64 (p : Int), .int .i64 c]) ∧ LexIs s (vs, p, c) ∧ TokBuf w' w.heap.size v vs ∧ Below w.heap.size w w'
theorem LexPost.mk {s : ByteArray} {w w' : World} (v : Value) (vs : List V3) (p : Nat) (c : Int) (h1 : LexIs s (vs, p, c)) (h2 : TokBuf w' w.heap.size v vs) (h3 : Below w.heap.size w w') : LexPost s w (.returned (.tuple #[v, .int .i64 (p : Int), .int .i64 c])) w' := ⟨v, vs, p, c, rfl, h1, h2, h3⟩

/-- so far: tokens up to p -/
def LexAt (l : List UInt8) (p : Nat) (acc : List V3) : Prop := (∀ x, LexTo l p acc x → LexTo l 0 [] x) ∧ acc.length ≤ 300
theorem lexAt_many {l : List UInt8} {p : Nat} {acc : List V3} (h : LexAt l p acc) (hp : p < l.length) (hb : blankC l[p] = false) (hn : acc.length = 300) : LexTo l 0 [] ([], p, 6) :=
  h.1 _ (.many p acc l[p] _ (List.drop_eq_getElem_cons hp) hb hn)
theorem lexAt_form {l : List UInt8} {p : Nat} {acc : List V3} (h : LexAt l p acc) (hp : p < l.length) (hb : blankC l[p] = false) (hn : acc.length ≠ 300) (ht : nextT (l.drop p) = none) : LexTo l 0 [] ([], p, 3) := by
  rw [List.drop_eq_getElem_cons hp] at ht
  exact h.1 _ (.form p acc l[p] _ (List.drop_eq_getElem_cons hp) hb hn ht)
theorem lexAt_tok {l : List UInt8} {p : Nat} {acc : List V3} {k : Int} {t : List UInt8} {n : Nat} (h : LexAt l p acc) (hp : p < l.length) (hb : blankC l[p] = false) (hn : acc.length ≠ 300) (ht : nextT (l.drop p) = some (k, t, n)) : LexAt l (p + n) (acc ++ [tokV k p t]) := by
  rw [List.drop_eq_getElem_cons hp] at ht
  exact ⟨fun x hx => h.1 _ (.tok p acc l[p] _ k t n x (List.drop_eq_getElem_cons hp) hb hn ht hx), by have := h.2; simp; omega⟩
theorem lexAt_done {l : List UInt8} {p : Nat} {acc : List V3} (h : LexAt l p acc) (hp : l.length ≤ p) : LexTo l 0 [] (acc, 0, 0) := h.1 _ (.done p acc hp)
theorem lexAt_skip {l : List UInt8} {p q : Nat} {acc : List V3} (h : LexAt l p acc) (hq : Leads l q p) : LexAt l q acc := ⟨fun x hx => h.1 _ (hq _ _ hx), h.2⟩
theorem lexAt_zero (l : List UInt8) : LexAt l 0 [] := ⟨fun _ h => h, by simp⟩
theorem drop_extract (s : ByteArray) (p : Nat) : (s.extract p s.size).data.toList = s.data.toList.drop p := by
  rw [extract_list]
  exact List.take_of_length_le (by rw [List.length_drop, size_list]; omega)

theorem raw_len (l : List UInt8) : (rawT l).2.1.length ≤ l.length := by
  cases l with
  | nil => simp [rawT]
  | cons c r =>
    have htw : ∀ p : UInt8 → Bool, (r.takeWhile p).length ≤ r.length := fun p => (List.takeWhile_sublist p).length_le
    cases h1 : letB (c.toNat : Int)
    · cases h2 : digB (c.toNat : Int)
      · by_cases h3 : c = 39
        · subst h3
          rw [rawT_quote]
          have := (rqP_len (39 :: r)).1
          split
          · simp
          · exact this
        · rw [rawT_sign c r h1 h2 h3]
          dsimp only
          rw [List.length_take]
          exact Nat.min_le_right _ _
      · rw [rawT_dig c r h1 h2]; have := htw dgt; simp; omega
    · rw [rawT_let c r h1]; have := htw nmb; simp; omega

theorem raw_next {s : ByteArray} {p : Nat} {k : Int} {t : List UInt8} {n : Nat} (hlt : p < s.size) (hr : rawT (s.data.toList.drop p) = (k, t, n)) : (nextT (s.data.toList.drop p) = if tokB k t = true then some (k, t, n) else none) ∧ (tokB k t = true → 0 < n ∧ p + n ≤ s.size) := by
  obtain ⟨c, r, hcr⟩ : ∃ c r, s.data.toList.drop p = c :: r := ⟨_, _, drop_at s p hlt⟩
  have hl : (c :: r).length = s.size - p := by rw [← hcr, List.length_drop, size_list]
  rw [hcr] at hr ⊢
  refine ⟨by rw [nextT_raw, hr], fun h => ?_⟩
  have hz := rawT_pos c r (by rw [hr]; exact h)
  rw [hr, hl] at hz
  dsimp only at hz
  omega

theorem cell_new {u : World} {g : Nat} {a b c : Value} {t : TypeId} (hg : g = u.heap.size) : (u.alloc (.cells #[a, b, c] t)).cell? ⟨g, 0, none⟩ = some a ∧ (u.alloc (.cells #[a, b, c] t)).cell? ⟨g, 1, none⟩ = some b ∧ (u.alloc (.cells #[a, b, c] t)).cell? ⟨g, 2, none⟩ = some c := by
  subst hg
  exact ⟨by simp, by simp, by simp⟩

end Go.Proofs.YtbipgmikgokfpaaDoor

/- ParseMem -/
namespace Go.Proofs.YtbipgmikgokfpaaDoor
open Go.RowKit Go.Joins
set_option linter.unusedVariables false

/-- all blocks stay but the parser's and that of its nodes' row, which lies where it lay or in a new block -/
structure PK (g : Nat) (v v' : Value) (w w' : World) : Prop where
  os : w'.os = w.os
  tape : w'.tape = w.tape
  output : w'.output = w.output
  size : w.heap.size ≤ w'.heap.size
  block : ∀ k, k < w.heap.size → k ≠ g → v.ownBlock ≠ some k → w'.heap[k]? = w.heap[k]?
  own : ∀ j, v'.ownBlock = some j → v.ownBlock = some j ∨ w.heap.size ≤ j
theorem PK.refl (g : Nat) (v : Value) (w : World) : PK g v v w w := ⟨rfl, rfl, rfl, Nat.le_refl _, fun _ _ _ _ => rfl, fun _ h => .inl h⟩
theorem PK.trans {g : Nat} {u v x : Value} {a b c : World} (h : PK g u v a b) (k : PK g v x b c) : PK g u x a c :=
  ⟨k.os.trans h.os, k.tape.trans h.tape, k.output.trans h.output, Nat.le_trans h.size k.size, fun i hi hg hu => (k.block i (by have := h.size; omega) hg (fun e => by
    rcases h.own i e with e | e
    · exact hu e
    · omega)).trans (h.block i hi hg hu), fun j hj => by
    rcases k.own j hj with e | e
    · exact h.own j e
    · exact .inr (Nat.le_trans h.size e)⟩
theorem PK.of_below {g : Nat} {v : Value} {w w' : World} (h : Below w.heap.size w w') : PK g v v w w' := ⟨h.os, h.tape, h.output, h.size, fun k hk _ _ => h.block k hk, fun _ h => .inl h⟩
theorem PK.then_below {g : Nat} {u v : Value} {a b c : World} (h : PK g u v a b) (k : Below b.heap.size b c) : PK g u v a c := h.trans (.of_below k)
theorem PK.alloc {g : Nat} {u v : Value} {a b : World} (h : PK g u v a b) (o : Obj) : PK g u v a (b.alloc o) := h.then_below (nx_alloc _ _)
theorem PK.drew {g : Nat} {u v : Value} {a b : World} (h : PK g u v a b) : PK g u v a b.drew := ⟨h.os, h.tape, h.output, h.size, h.block, h.own⟩
theorem PK.set {g o : Nat} {u v : Value} {a b : World} {x : Value} (h : PK g u v a b) : PK g u v a (b.setCell ⟨g, o, none⟩ x) :=
  ⟨h.os, h.tape, h.output, by have := h.size; simpa using this, fun k hk hg hu => by rw [Below.heap_setCell b ⟨g, o, none⟩ x k hg]; exact h.block k hk hg hu, h.own⟩
theorem PK.setNew {g n o : Nat} {u v : Value} {a b : World} {x : Value} (h : PK g u v a b) (hn : a.heap.size ≤ n) : PK g u v a (b.setCell ⟨n, o, none⟩ x) :=
  ⟨h.os, h.tape, h.output, by have := h.size; simpa using this, fun k hk hg hu => by rw [Below.heap_setCell b ⟨n, o, none⟩ x k (by show k ≠ n; omega)]; exact h.block k hk hg hu, h.own⟩
theorem PK.cell {g : Nat} {v v' x : Value} {w w' : World} {b o : Nat} (h : PK g v v' w w') (hc : w.cell? ⟨b, o, none⟩ = some x) (hg : b ≠ g) (hv : v.ownBlock ≠ some b) : w'.cell? ⟨b, o, none⟩ = some x := by
  rw [World.cell?_of_block (h.block b (World.block_lt_of_cell? _ _ hc) hg hv)]; exact hc
theorem PK.below {g B : Nat} {v v' : Value} {w w' : World} (h : PK g v v' w w') (hB : B ≤ g) (hw : g < w.heap.size) (hv : ∀ j, v.ownBlock = some j → B ≤ j) : Below B w w' :=
  ⟨h.os, h.tape, h.output, h.size, fun k hk => h.block k (by omega) (by omega) (fun e => by have := hv k e; omega)⟩

/-- the tokens' capacity, blocks that are others' own, and from where on all is the parser's -/
structure PX where
  c : Nat
  E : Nat → Prop
  b : Nat
def PX.on (lc : PX) (kv : Value) : PX := ⟨lc.c, fun j => lc.E j ∨ kv.ownBlock = some j, lc.b⟩
/-- numbers that lie in a block that is neither the parser's nor its row's, nor another's -/
def KidsK (w : World) (g : Nat) (E : Nat → Prop) (v u : Value) (zs : List Int) : Prop := ∃ a cap, u = .slice a zs.length cap ∧ ∀ i (h : i < zs.length), ∃ b off, a = some ⟨b, off, none⟩ ∧ g < b ∧ b < w.heap.size ∧ ¬ E b ∧ v.ownBlock ≠ some b ∧ w.cell? ⟨b, off + i, none⟩ = some (.int .i64 zs[i])
def NamesK (w : World) (g : Nat) (E : Nat → Prop) (v u : Value) (zs : List ByteArray) : Prop := ∃ a cap, u = .slice a zs.length cap ∧ ∀ i (h : i < zs.length), ∃ b off, a = some ⟨b, off, none⟩ ∧ g < b ∧ b < w.heap.size ∧ ¬ E b ∧ v.ownBlock ≠ some b ∧ w.cell? ⟨b, off + i, none⟩ = some (.string zs[i])
theorem KidsK.keep {w w' : World} {g : Nat} {E : Nat → Prop} {v v' u : Value} {zs : List Int} (h : KidsK w g E v u zs) (hk : PK g v v' w w') : KidsK w' g E v' u zs := by
  obtain ⟨a, cap, e, hc⟩ := h
  refine ⟨a, cap, e, fun i hi => ?_⟩
  obtain ⟨b, off, ha, h1, h2, he, h3, h4⟩ := hc i hi
  refine ⟨b, off, ha, h1, Nat.lt_of_lt_of_le h2 hk.size, he, fun e => ?_, hk.cell h4 (by omega) h3⟩
  rcases hk.own b e with e | e
  · exact h3 e
  · omega
theorem NamesK.keep {w w' : World} {g : Nat} {E : Nat → Prop} {v v' u : Value} {zs : List ByteArray} (h : NamesK w g E v u zs) (hk : PK g v v' w w') : NamesK w' g E v' u zs := by
  obtain ⟨a, cap, e, hc⟩ := h
  refine ⟨a, cap, e, fun i hi => ?_⟩
  obtain ⟨b, off, ha, h1, h2, he, h3, h4⟩ := hc i hi
  refine ⟨b, off, ha, h1, Nat.lt_of_lt_of_le h2 hk.size, he, fun e => ?_, hk.cell h4 (by omega) h3⟩
  rcases hk.own b e with e | e
  · exact h3 e
  · omega
theorem KidsK.nil {w : World} {g : Nat} {E : Nat → Prop} {v : Value} (a : Option Addr) (cap : Nat) : KidsK w g E v (.slice a 0 cap) [] := ⟨a, cap, rfl, fun i h => by simp at h⟩
theorem NamesK.nil {w : World} {g : Nat} {E : Nat → Prop} {v : Value} (a : Option Addr) (cap : Nat) : NamesK w g E v (.slice a 0 cap) [] := ⟨a, cap, rfl, fun i h => by simp at h⟩
theorem IntBuf.kidsK {w : World} {base g : Nat} {E : Nat → Prop} {v u : Value} {zs : List Int} (h : IntBuf w base u zs) (hg : g < base) (hd : ∀ j, u.ownBlock = some j → v.ownBlock ≠ some j) (hE : ∀ j, u.ownBlock = some j → ¬ E j) : KidsK w g E v u zs := by
  rcases h.2 with ⟨rfl, h0⟩ | ⟨b, cap, cur, rfl, hb⟩
  · exact ⟨none, 0, by rw [h0], fun i hi => by omega⟩
  · refine ⟨some ⟨b, 0, none⟩, cap, rfl, fun i hi => ⟨b, 0, rfl, by have := (h.own_lt b rfl).1; omega, (h.own_lt b rfl).2, hE b rfl, hd b rfl, ?_⟩⟩
    have := World.ownsRow.cellAt h i (by omega)
    rw [Nat.zero_add, this]
    simp [hi]
theorem StrBuf.namesK {w : World} {base g : Nat} {E : Nat → Prop} {v u : Value} {zs : List ByteArray} (h : StrBuf w base u zs) (hg : g < base) (hd : ∀ j, u.ownBlock = some j → v.ownBlock ≠ some j) (hE : ∀ j, u.ownBlock = some j → ¬ E j) : NamesK w g E v u zs := by
  rcases h.2 with ⟨rfl, h0⟩ | ⟨b, cap, cur, rfl, hb⟩
  · exact ⟨none, 0, by rw [h0], fun i hi => by omega⟩
  · refine ⟨some ⟨b, 0, none⟩, cap, rfl, fun i hi => ⟨b, 0, rfl, by have := (h.own_lt b rfl).1; omega, (h.own_lt b rfl).2, hE b rfl, hd b rfl, ?_⟩⟩
    have := World.ownsRow.cellAt h i (by omega)
    rw [Nat.zero_add, this]
    simp [hi]

/-- a node in its five cells -/
structure NC where
  x : TN
  un : Value
  uk : Value
def cells5 (c : NC) : List Value := [.int .i64 c.x.k, .int .i64 c.x.n, .string c.x.t, c.un, c.uk]
def nodeCells (cs : List NC) : List Value := cs.flatMap cells5
theorem nodeCells_snoc (cs : List NC) (c : NC) : nodeCells (cs ++ [c]) = nodeCells cs ++ cells5 c := by simp [nodeCells]
theorem nodeCells_get : ∀ (cs : List NC) (i : Nat) (h : i < cs.length), (nodeCells cs)[i * 5]? = some (.int .i64 cs[i].x.k) ∧ (nodeCells cs)[i * 5 + 1]? = some (.int .i64 cs[i].x.n) ∧ (nodeCells cs)[i * 5 + 2]? = some (.string cs[i].x.t) ∧ (nodeCells cs)[i * 5 + 3]? = some cs[i].un ∧ (nodeCells cs)[i * 5 + 4]? = some cs[i].uk := by
  intro cs
  induction cs with
  | nil => intro i h; simp at h
  | cons v cs ih =>
    intro i h
    have e : nodeCells (v :: cs) = cells5 v ++ nodeCells cs := by simp [nodeCells]
    cases i with
    | zero => rw [e]; exact ⟨rfl, rfl, rfl, rfl, rfl⟩
    | succ i =>
      have h' : i < cs.length := by simpa using h
      have := ih i h'
      have hl : (cells5 v).length = 5 := rfl
      refine ⟨?_, ?_, ?_, ?_, ?_⟩
      · rw [e, List.getElem?_append_right (by omega), show (i + 1) * 5 - (cells5 v).length = i * 5 by omega]; exact this.1
      · rw [e, List.getElem?_append_right (by omega), show (i + 1) * 5 + 1 - (cells5 v).length = i * 5 + 1 by omega]; exact this.2.1
      · rw [e, List.getElem?_append_right (by omega), show (i + 1) * 5 + 2 - (cells5 v).length = i * 5 + 2 by omega]; exact this.2.2.1
      · rw [e, List.getElem?_append_right (by omega), show (i + 1) * 5 + 3 - (cells5 v).length = i * 5 + 3 by omega]; exact this.2.2.2.1
      · rw [e, List.getElem?_append_right (by omega), show (i + 1) * 5 + 4 - (cells5 v).length = i * 5 + 4 by omega]; exact this.2.2.2.2
theorem ownsRow_same {w w' : World} {base : Nat} {e : TypeId} {sz : Nat} {v : Value} {n : Nat} {xs : List Value} (h : w.ownsRow base e sz v n xs) (hk : ∀ j, v.ownBlock = some j → w'.heap[j]? = w.heap[j]?) : w'.ownsRow base e sz v n xs := by
  refine ⟨h.1, ?_⟩
  rcases h.2 with h | ⟨g, cap, cur, e, hg, hgg, r⟩
  · exact .inl h
  · refine .inr ⟨g, cap, cur, e, hg, ?_, r⟩
    rw [hk g (by rw [e]; rfl)]; exact hgg
/-- the row of nodes -/
structure NRow (w : World) (g : Nat) (lc : PX) (v : Value) (ns : List TN) (cs : List NC) : Prop where
  map : cs.map NC.x = ns
  row : w.ownsRow lc.b 36 5 v cs.length (nodeCells cs)
  ng : ∀ j, v.ownBlock = some j → j ≠ g
  each : ∀ c ∈ cs, NamesK w g lc.E v c.un c.x.names ∧ KidsK w g lc.E v c.uk c.x.kids
  off : ∀ j, v.ownBlock = some j → ¬ lc.E j
  few : ∀ c ∈ cs, c.x.names.length ≤ 1000000
theorem NRow.len {w : World} {g : Nat} {lc : PX} {v : Value} {ns : List TN} {cs : List NC} (h : NRow w g lc v ns cs) : cs.length = ns.length := by rw [← h.map]; simp
theorem NRow.slice {w : World} {g : Nat} {lc : PX} {v : Value} {ns : List TN} {cs : List NC} (h : NRow w g lc v ns cs) : ∃ a cap, v = .slice a ns.length cap := by
  rw [← h.len]; exact own_slice h.row
theorem NRow.own {w : World} {g : Nat} {lc : PX} {v : Value} {ns : List TN} {cs : List NC} (h : NRow w g lc v ns cs) : ∀ j, v.ownBlock = some j → (lc.b ≤ j ∧ j ≠ g) ∧ j < w.heap.size := fun j hj => ⟨⟨(World.ownsRow.lt h.row j hj).1, h.ng j hj⟩, (World.ownsRow.lt h.row j hj).2⟩
/-- what stays if neither the parser's row nor what it has is written -/
theorem NRow.keep {w w' : World} {g : Nat} {lc : PX} {v : Value} {ns : List TN} {cs : List NC} (h : NRow w g lc v ns cs) (hk : PK g v v w w') (hb : ∀ j, v.ownBlock = some j → w'.heap[j]? = w.heap[j]?) : NRow w' g lc v ns cs :=
  ⟨h.map, ownsRow_same h.row hb, h.ng, fun c hc => ⟨(h.each c hc).1.keep hk, (h.each c hc).2.keep hk⟩, h.off, h.few⟩
theorem NRow.later {w w' : World} {g : Nat} {lc : PX} {v : Value} {ns : List TN} {cs : List NC} (h : NRow w g lc v ns cs) (hb : Below w.heap.size w w') : NRow w' g lc v ns cs := h.keep (.of_below hb) fun j hj => hb.block j (h.own j hj).2

/-- the parser in block g -/
structure PAt (w : World) (g : Nat) (lp : Option Addr) (lc : PX) (ts : List V3) (v : Value) (s : PS) : Prop where
  blk : w.heap[g]? = some (.cells #[.slice lp ts.length lc.c, .int .i64 (s.at' : Int), v, .int .i64 (s.dp : Int), .int .i64 s.code, .int .i64 s.place] 149 (0, 0))
  toks : ToksAt w lp ts
  tb : ∀ a, lp = some a → a.block < lc.b
  bg : lc.b ≤ g
  row : ∃ cs, NRow w g lc v s.ns cs
  ex : ∀ j, lc.E j → g < j ∧ j < w.heap.size
  hat : s.at' ≤ ts.length
theorem PAt.lt {w : World} {g : Nat} {lp : Option Addr} {lc : PX} {ts : List V3} {v : Value} {s : PS} (h : PAt w g lp lc ts v s) : g < w.heap.size := (Array.getElem?_eq_some_iff.1 h.blk).1
theorem PAt.cells {w : World} {g : Nat} {lp : Option Addr} {lc : PX} {ts : List V3} {v : Value} {s : PS} (h : PAt w g lp lc ts v s) : w.cell? ⟨g, 0, none⟩ = some (.slice lp ts.length lc.c) ∧ w.cell? ⟨g, 1, none⟩ = some (.int .i64 (s.at' : Int)) ∧ w.cell? ⟨g, 2, none⟩ = some v ∧ w.cell? ⟨g, 3, none⟩ = some (.int .i64 (s.dp : Int)) ∧ w.cell? ⟨g, 4, none⟩ = some (.int .i64 s.code) ∧ w.cell? ⟨g, 5, none⟩ = some (.int .i64 s.place) := by
  refine ⟨?_, ?_, ?_, ?_, ?_, ?_⟩ <;> (rw [cell_of_block h.blk]; rfl)
theorem PAt.free {w : World} {g : Nat} {lp : Option Addr} {lc : PX} {ts : List V3} {v : Value} {s : PS} (h : PAt w g lp lc ts v s) (i : Nat) : w.frozen? ⟨g, i, none⟩ = false := unfrozen_of_block h.blk i
theorem PAt.later {w w' : World} {g : Nat} {lp : Option Addr} {lc : PX} {ts : List V3} {v : Value} {s : PS} (h : PAt w g lp lc ts v s) (hb : Below w.heap.size w w') : PAt w' g lp lc ts v s := by
  obtain ⟨cs, hr⟩ := h.row
  exact ⟨(hb.block g h.lt).trans h.blk, h.toks.later hb, h.tb, h.bg, ⟨cs, hr.later hb⟩, fun j hj => ⟨(h.ex j hj).1, Nat.lt_of_lt_of_le (h.ex j hj).2 hb.size⟩, h.hat⟩
theorem PAt.alloc {w : World} {g : Nat} {lp : Option Addr} {lc : PX} {ts : List V3} {v : Value} {s : PS} (h : PAt w g lp lc ts v s) (o : Obj) : PAt (w.alloc o) g lp lc ts v s := h.later (nx_alloc _ _)
theorem PAt.drew {w : World} {g : Nat} {lp : Option Addr} {lc : PX} {ts : List V3} {v : Value} {s : PS} (h : PAt w g lp lc ts v s) : PAt w.drew g lp lc ts v s := h.later (nx_drew (Below.refl _ _))
theorem PAt.own {w : World} {g : Nat} {lp : Option Addr} {lc : PX} {ts : List V3} {v : Value} {s : PS} (h : PAt w g lp lc ts v s) : ∀ j, v.ownBlock = some j → (lc.b ≤ j ∧ j ≠ g) ∧ j < w.heap.size := by
  obtain ⟨cs, hr⟩ := h.row
  exact hr.own
theorem PAt.slice {w : World} {g : Nat} {lp : Option Addr} {lc : PX} {ts : List V3} {v : Value} {s : PS} (h : PAt w g lp lc ts v s) : ∃ a cap, v = .slice a s.ns.length cap := by
  obtain ⟨cs, hr⟩ := h.row
  exact hr.slice
/-- a store into one of its cells but the row's -/
theorem PAt.poke {w : World} {g o : Nat} {lp : Option Addr} {lc : PX} {ts : List V3} {v x : Value} {s s' : PS} (h : PAt w g lp lc ts v s) (hb : (w.setCell ⟨g, o, none⟩ x).heap[g]? = some (.cells #[.slice lp ts.length lc.c, .int .i64 (s'.at' : Int), v, .int .i64 (s'.dp : Int), .int .i64 s'.code, .int .i64 s'.place] 149 (0, 0))) (hn : s'.ns = s.ns) (ha : s'.at' ≤ ts.length) : PAt (w.setCell ⟨g, o, none⟩ x) g lp lc ts v s' := by
  obtain ⟨cs, hr⟩ := h.row
  have hk : PK g v v w (w.setCell ⟨g, o, none⟩ x) := (PK.refl g v w).set
  refine ⟨hb, fun i hi => ?_, h.tb, h.bg, ⟨cs, by rw [hn]; exact hr.keep hk fun j hj => Below.heap_setCell w ⟨g, o, none⟩ x j (by show j ≠ g; have := hr.own j hj; omega)⟩, fun j hj => ⟨(h.ex j hj).1, Nat.lt_of_lt_of_le (h.ex j hj).2 hk.size⟩, ha⟩
  obtain ⟨b, off, rfl, h0, h1, h2⟩ := h.toks i hi
  have hbg : b < g := Nat.lt_of_lt_of_le (h.tb _ rfl) h.bg
  have e : ∀ o', (w.setCell ⟨g, o, none⟩ x).cell? ⟨b, o', none⟩ = w.cell? ⟨b, o', none⟩ := fun o' => World.cell?_of_block (Below.heap_setCell w ⟨g, o, none⟩ x b (by show b ≠ g; omega))
  exact ⟨b, off, rfl, by rw [e]; exact h0, by rw [e]; exact h1, by rw [e]; exact h2⟩
theorem PAt.setAt {w : World} {g : Nat} {lp : Option Addr} {lc : PX} {ts : List V3} {v : Value} {s : PS} (h : PAt w g lp lc ts v s) (n : Nat) (hn : n ≤ ts.length) : PAt (w.setCell ⟨g, 1, none⟩ (.int .i64 (n : Int))) g lp lc ts v { s with at' := n } := h.poke (by have := block_setCell (i := 1) h.blk (.int .i64 (n : Int)); exact this) rfl hn
theorem PAt.setDp {w : World} {g : Nat} {lp : Option Addr} {lc : PX} {ts : List V3} {v : Value} {s : PS} (h : PAt w g lp lc ts v s) (n : Nat) : PAt (w.setCell ⟨g, 3, none⟩ (.int .i64 (n : Int))) g lp lc ts v { s with dp := n } := h.poke (by have := block_setCell (i := 3) h.blk (.int .i64 (n : Int)); exact this) rfl h.hat
theorem PAt.setCode {w : World} {g : Nat} {lp : Option Addr} {lc : PX} {ts : List V3} {v : Value} {s : PS} (h : PAt w g lp lc ts v s) (c : Int) : PAt (w.setCell ⟨g, 4, none⟩ (.int .i64 c)) g lp lc ts v { s with code := c } := h.poke (by have := block_setCell (i := 4) h.blk (.int .i64 c); exact this) rfl h.hat
theorem PAt.setPlace {w : World} {g : Nat} {lp : Option Addr} {lc : PX} {ts : List V3} {v : Value} {s : PS} (h : PAt w g lp lc ts v s) (c : Int) : PAt (w.setCell ⟨g, 5, none⟩ (.int .i64 c)) g lp lc ts v { s with place := c } := h.poke (by have := block_setCell (i := 5) h.blk (.int .i64 c); exact this) rfl h.hat

theorem PAt.off {w : World} {g : Nat} {lp : Option Addr} {lc : PX} {ts : List V3} {v : Value} {s : PS} (h : PAt w g lp lc ts v s) : ∀ j, v.ownBlock = some j → ¬ lc.E j := by
  obtain ⟨cs, hr⟩ := h.row
  exact hr.off
/-- other blocks are others' own: none of the parser's is among them -/
theorem PAt.move {w w' : World} {g : Nat} {lp : Option Addr} {lc lc' : PX} {ts : List V3} {v : Value} {s : PS} (h : PAt w g lp lc ts v s) (hc : lc'.c = lc.c) (hbb : lc'.b = lc.b) (hs : w.heap.size ≤ w'.heap.size) (hk : ∀ b, b < w.heap.size → ¬ lc.E b → w'.heap[b]? = w.heap[b]?) (hE : ∀ b, b < w.heap.size → lc'.E b → lc.E b) (hx : ∀ j, lc'.E j → g < j ∧ j < w'.heap.size) : PAt w' g lp lc' ts v s := by
  obtain ⟨cs, hr⟩ := h.row
  have hgl := h.lt
  have hg : ¬ lc.E g := fun e => by have := h.ex g e; omega
  have hl : ∀ b, b < g → ¬ lc.E b := fun b hb e => by have := h.ex b e; omega
  refine ⟨by rw [hk g hgl hg, hc]; exact h.blk, fun i hi => ?_, by rw [hbb]; exact h.tb, by rw [hbb]; exact h.bg, ⟨cs, hr.map, by rw [hbb]; exact ownsRow_same hr.row fun j hj => hk j (hr.own j hj).2 (hr.off j hj), hr.ng, fun c hc => ⟨?_, ?_⟩, fun j hj he => hr.off j hj (hE j (hr.own j hj).2 he), hr.few⟩, hx, h.hat⟩
  · obtain ⟨b, off, rfl, h0, h1, h2⟩ := h.toks i hi
    have hbg : b < g := Nat.lt_of_lt_of_le (h.tb _ rfl) h.bg
    have e : ∀ o', w'.cell? ⟨b, o', none⟩ = w.cell? ⟨b, o', none⟩ := fun o' => World.cell?_of_block (hk b (by omega) (hl b hbg))
    exact ⟨b, off, rfl, by rw [e]; exact h0, by rw [e]; exact h1, by rw [e]; exact h2⟩
  · obtain ⟨a, cap, e, hh⟩ := (hr.each c hc).1
    refine ⟨a, cap, e, fun i hi => ?_⟩
    obtain ⟨b, off, ha, h1, h2, he, h3, h4⟩ := hh i hi
    exact ⟨b, off, ha, h1, by omega, fun x => he (hE b h2 x), h3, by rw [World.cell?_of_block (hk b h2 he)]; exact h4⟩
  · obtain ⟨a, cap, e, hh⟩ := (hr.each c hc).2
    refine ⟨a, cap, e, fun i hi => ?_⟩
    obtain ⟨b, off, ha, h1, h2, he, h3, h4⟩ := hh i hi
    exact ⟨b, off, ha, h1, by omega, fun x => he (hE b h2 x), h3, by rw [World.cell?_of_block (hk b h2 he)]; exact h4⟩

/-- what is known of the tokens -/
structure TS (ts : List V3) : Prop where
  few : ts.length ≤ 300
  each : ∀ v ∈ ts, 0 ≤ v.n ∧ v.n ≤ 1000000 ∧ v.t.size ≤ 1048576

end Go.Proofs.YtbipgmikgokfpaaDoor
