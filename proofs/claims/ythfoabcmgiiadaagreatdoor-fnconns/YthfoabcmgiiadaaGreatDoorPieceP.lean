/- However a text is cut into pieces, the same requests are read from it: by reckoning; requests in a row of one's own. -/
import Derived.Test.YthfoabcmgiiadaaGreatDoorConnP
import Derived.Test.YthfoabcmgiiadaaGreatDoorWireP
namespace Go.Proofs.YthfoabcmgiiadaaGreatDoor
open Go.RowKit Go.Joins
set_option linter.unusedVariables false

/-- requests in a row of one's own -/
structure RQ where
  p : ByteArray
  x : Bool
def rqCells (hs : List RQ) : List Value := hs.flatMap fun h => [.string h.p, .bool h.x]
theorem rqCells_len (hs : List RQ) : (rqCells hs).length = hs.length * 2 := by
  induction hs with
  | nil => rfl
  | cons a t ih => simp [rqCells] at ih ⊢; omega
set_option maxRecDepth 100000 in
theorem infoRq : (Tryz.prog.info? 31).map (fun i => (i.zero, i.size, i.bytes)) = some (some (.agg #[.string ⟨#[]⟩, .bool false]), 2, 24) := by kernel_rfl
def RqB (w : World) (base : Nat) (v : Value) (hs : List RQ) : Prop := w.ownsRow base 31 2 v hs.length (rqCells hs)
theorem RqB.nil (w : World) (base : Nat) : RqB w base (.slice none 0 0) [] := World.ownsRow_nil _ _ _ _
theorem RqB.alloc {w : World} {base : Nat} {v : Value} {hs : List RQ} (h : RqB w base v hs) (o : Obj) : RqB (w.alloc o) base v hs := World.ownsRow.alloc h o
theorem RqB.own_lt {w : World} {base : Nat} {v : Value} {hs : List RQ} (h : RqB w base v hs) : ∀ j, v.ownBlock = some j → base ≤ j ∧ j < w.heap.size := fun j hj => World.ownsRow.lt h j hj
theorem RqB.later {w w' : World} {base : Nat} {v : Value} {hs : List RQ} (h : RqB w base v hs) (hb : Below w.heap.size w w') : RqB w' base v hs := by
  have hl := h.own_lt
  refine ⟨h.1, ?_⟩
  rcases h.2 with h | ⟨g, cap, cur, e, hg, hgg, r⟩
  · exact .inl h
  · refine .inr ⟨g, cap, cur, e, hg, ?_, r⟩
    rw [hb.block g (hl g (by rw [e]; rfl)).2]; exact hgg
theorem RqB.drew {w : World} {base : Nat} {v : Value} {hs : List RQ} (h : RqB w base v hs) : RqB w.drew base v hs := h.later (qx_drew (Below.refl _ _))
theorem rqCells_get (hs : List RQ) (i : Nat) (hi : i < hs.length) : (rqCells hs)[i * 2]? = some (.string hs[i].p) ∧ (rqCells hs)[i * 2 + 1]? = some (.bool hs[i].x) := by
  induction hs generalizing i with
  | nil => simp at hi
  | cons a t ih =>
    cases i with
    | zero => simp [rqCells]
    | succ i =>
      have := ih i (by simpa using hi)
      have e : rqCells (a :: t) = .string a.p :: .bool a.x :: rqCells t := rfl
      rw [e, show (i + 1) * 2 = i * 2 + 1 + 1 by omega]
      simpa using this
theorem RqB.slice {w : World} {base : Nat} {v : Value} {hs : List RQ} (h : RqB w base v hs) : ∃ a cap, v = .slice a hs.length cap ∧ ∀ i (hi : i < hs.length), ∃ g, a = some ⟨g, 0, none⟩ ∧ w.cell? ⟨g, i * 2, none⟩ = some (.string hs[i].p) ∧ w.cell? ⟨g, i * 2 + 1, none⟩ = some (.bool hs[i].x) ∧ g < w.heap.size := by
  rcases h.2 with ⟨rfl, h0⟩ | ⟨g, cap, cur, rfl, hg, hgg, r⟩
  · exact ⟨none, 0, by rw [h0], fun i hi => by omega⟩
  · refine ⟨some ⟨g, 0, none⟩, cap, rfl, fun i hi => ⟨g, rfl, ?_, ?_, (Array.getElem?_eq_some_iff.1 hgg).1⟩⟩
    · have := World.ownsRow.cells h (g := g) rfl (i * 2) _ (rqCells_get hs i hi).1
      rw [Addr.add_lit, Nat.zero_add] at this
      exact this
    · have := World.ownsRow.cells h (g := g) rfl (i * 2 + 1) _ (rqCells_get hs i hi).2
      rw [Addr.add_lit, Nat.zero_add] at this
      exact this

theorem rqCells_snoc (hs : List RQ) (c : RQ) : rqCells hs ++ [.string c.p, .bool c.x] = rqCells (hs ++ [c]) := by simp [rqCells]
theorem wp_appRq (w : World) {ops : Array Oper} {rest : List Oper} {o : Oper} {a : Act} {Q : Exit → Act → World → Prop} (hgd : o.guard = none) (s x : Operand)
    (ho : o.op = .call { callee := .builtin .append, args := #[s, x], argTypes := #[50, 50] }) (base g : Nat) (v : Value) (vs : List RQ) (c : RQ) (hs : a.eval s = v)
    (hown : RqB w base v vs) (hx : a.eval x = .slice (some ⟨g, 0, none⟩) 1 1) (hc0 : w.cell? ⟨g, 0, none⟩ = some (.string c.p)) (hc1 : w.cell? ⟨g, 1, none⟩ = some (.bool c.x)) (hbase : base ≤ w.heap.size) (hl : vs.length ≤ 1000000)
    (h : ∀ v' w', RqB w' base v' (vs ++ [c]) → Below base w w' → wpList Tryz.prog ops Q rest (a.put o.dst v') w') : wpList Tryz.prog ops Q (o :: rest) a w := by
  obtain ⟨i0, hi, hz0, hz1, hz2⟩ := info_parts infoRq
  refine wpList_append_own _ hgd s x 50 ho base 31 i0 (.agg #[.string ⟨#[]⟩, .bool false]) 2 24 Tryz.underlying50 hi hz0 hz1 hz2 rfl (by decide) _ _ _ hs hown ⟨g, 0, none⟩ 1 1 [.string c.p, .bool c.x] hx rfl ?_ ?_ (by unfold maxLen; omega) (by omega) hbase ?_
  · intro j u' hj
    match j, hj with
    | 0, hj => simp at hj; subst hj; simpa [Addr.add] using hc0
    | 1, hj => simp at hj; subst hj; simpa [Addr.add] using hc1
    | j + 2, hj => simp at hj
  · intro u' hu'
    simp at hu'
    rcases hu' with rfl | rfl <;> rfl
  · intro v' w' hown' hgrow _
    rw [rqCells_snoc, show vs.length + 1 = (vs ++ [c]).length by simp] at hown'
    exact h v' w' hown' ((Below.refl _ _).grown hgrow hbase (fun j hj => (World.ownsRow.lt hown j hj).1))

theorem RqB.lit0 (w : World) (base n : Nat) (hn : w.heap.size = n) (h : base ≤ n) : RqB (w.alloc (.cells #[] 31)) base (.slice (some ⟨n, 0, none⟩) 0 0) [] := by
  subst hn
  have := World.ownsRow_lit (base := base) (e := 31) (size := 2) w #[] 0 h (by decide) (by simp)
  simpa [RqB, rqCells] using this

/-! What is read, call by call. -/
def stepR (c : CN) (l : List RQ) : List RQ := if (nextC c).e = 0 then l ++ [⟨(nextC c).p, (nextC c).x⟩] else l
/-- k calls: the connection, and the requests that were read behind those of l -/
def runN : Nat → CN → List RQ → CN × List RQ
  | 0, c, l => (c, l)
  | k + 1, c, l => ((nextC (runN k c l).1).c, stepR (runN k c l).1 (runN k c l).2)
theorem runN_stay {c : CN} (h : (nextC c).c = c) (he : (nextC c).e ≠ 0) (l : List RQ) : ∀ k, runN k c l = (c, l) := by
  intro k
  induction k with
  | zero => rfl
  | succ k ih => unfold runN stepR; rw [ih]; dsimp only; rw [h, if_neg he]
theorem runN_first {c d : CN} {P : ByteArray} {x : Bool} {q : Int} (h : nextC c = ⟨d, P, x, q, 0⟩) (l : List RQ) : ∀ k, runN (k + 1) c l = runN k d (l ++ [⟨P, x⟩]) := by
  intro k
  induction k with
  | zero => unfold runN stepR; unfold runN; dsimp only; rw [h]; rfl
  | succ k ih => rw [runN, ih]; rfl

theorem occ_ext (t r r' : ByteArray) (j : Nat) (hj : j + 4 ≤ t.size) : Lib.occAt (t ++ r).data.toList crlf2S.data.toList j = Lib.occAt (t ++ r').data.toList crlf2S.data.toList j := by
  have key : ∀ r : ByteArray, Lib.occAt (t ++ r).data.toList crlf2S.data.toList j = crlf2S.data.toList.isPrefixOf (t.data.toList.drop j) := by
    intro r
    unfold Lib.occAt
    rw [Bool.eq_iff_iff, List.isPrefixOf_iff_prefix, List.isPrefixOf_iff_prefix, ByteArray.data_append, Array.toList_append, List.drop_append_of_le_length (by rw [dataLen]; omega)]
    constructor
    · intro h
      have h4 : crlf2S.data.toList.length = 4 := rfl
      rw [List.prefix_iff_eq_take] at h ⊢
      rw [h4] at h ⊢
      rw [h, List.take_append_of_le_length (by rw [List.length_drop, dataLen]; omega)]
    · exact fun h => h.trans (List.prefix_append _ _)
  rw [key r, key r']
theorem index_ext (t r r' : ByteArray) (k : Nat) (hk : Lib.indexB (t ++ r) crlf2S = (k : Int)) (hz : k + 4 ≤ t.size) : Lib.indexB (t ++ r') crlf2S = (k : Int) := by
  rcases Lib.index_spec (t ++ r).data.toList crlf2S.data.toList with ⟨h1, _⟩ | ⟨i, h1, _, h3, h4⟩
  · have : Lib.indexB (t ++ r) crlf2S = -1 := h1
    omega
  · have hi : Lib.indexB (t ++ r) crlf2S = (i : Int) := h1
    obtain rfl : i = k := by omega
    rcases Lib.index_spec (t ++ r').data.toList crlf2S.data.toList with ⟨g1, g2⟩ | ⟨i', g1, g2, g3, g4⟩
    · have := g2 i (by rw [← Lib.size_eq, ByteArray.size_append]; omega)
      rw [occ_ext t r' r i hz, h3] at this
      cases this
    · have gi : Lib.indexB (t ++ r') crlf2S = (i' : Int) := g1
      rw [gi]
      rcases Nat.lt_trichotomy i i' with hlt | he | hgt
      · have := g4 i hlt
        rw [occ_ext t r' r i hz, h3] at this
        cases this
      · rw [he]
      · have := h4 i' hgt
        rw [occ_ext t r r' i' (by omega), g3] at this
        cases this
theorem wire_index (j : Nat) (hj : j < 9) (c : Bool) : Lib.indexB (reqT c (wireP j) ++ restS) crlf2S + 4 = ((reqT c (wireP j)).size : Int) := by
  have h : wireGood (wireP j) c = true := by
    cases c
    · exact List.all_eq_true.1 wire_n j (List.mem_range.2 hj)
    · exact List.all_eq_true.1 wire_y j (List.mem_range.2 hj)
  unfold wireGood at h
  simp only [Bool.and_eq_true, decide_eq_true_iff] at h
  exact h.1.1.1.1.1.1.2
theorem reqR_ext (t r r' : ByteArray) (k : Nat) (hk : Lib.indexB (t ++ r) crlf2S = (k : Int)) (hz : k + 4 ≤ t.size) (h1 : (t ++ r).size ≤ 65536) (h2 : (t ++ r').size ≤ 65536) : reqR (t ++ r') = reqR (t ++ r) := by
  have hk' := index_ext t r r' k hk hz
  have hl : linesOf (t ++ r') = linesOf (t ++ r) := by
    rw [linesOf_is hk, linesOf_is hk']
    congr 1
    rw [ByteArray.extract_append, ByteArray.extract_append]
    have e : k - t.size = 0 := by omega
    rw [e]
    simp
  simp only [reqR, hk, hk', hl, show ¬ 65536 < (t ++ r).size by omega, show ¬ 65536 < (t ++ r').size by omega, show ¬ ((k : Int) = -1) by omega, if_false]
/-- what is read behind which anything stands -/
theorem wire_read (j : Nat) (hj : j < 9) (c : Bool) (r : ByteArray) (hr : r.size ≤ 1000) : reqR (reqT c (wireP j) ++ r) = ⟨wireP j, c, ((reqT c (wireP j)).size : Int), 0⟩ := by
  have hf := wire_facts j hj c
  have hi := wire_index j hj c
  have hs := hf.small
  rw [← hf.back]
  exact reqR_ext _ _ _ ((reqT c (wireP j)).size - 4) (by have := hf.big; omega) (by have := hf.big; omega) (by rw [ByteArray.size_append]; have : restS.size = 4 := rfl; omega) (by rw [ByteArray.size_append]; omega)
theorem reqR_empty : reqR ⟨#[]⟩ = RR.bad 18 := by
  have := (wire_facts 0 (by omega) true).more 0 (by have := (wire_facts 0 (by omega) true).big; omega)
  rw [show (reqT true (wireP 0)).extract 0 0 = ⟨#[]⟩ by apply ByteArray.ext; simp] at this
  exact this

/-! The connections of the law. -/
def cn0 (t : ByteArray) : CN := ⟨true, false, t, [], 0⟩
def cn1 (t : ByteArray) : CN := ⟨true, false, t, [⟨0, false, ⟨#[]⟩⟩], 1⟩
def cn2 (t : ByteArray) : CN := ⟨true, false, t, [⟨0, false, ⟨#[]⟩⟩, ⟨1, false, ⟨#[]⟩⟩], 2⟩
def ce1 : CN := ⟨true, true, ⟨#[]⟩, [⟨0, false, ⟨#[]⟩⟩], 1⟩
def ce2 : CN := ⟨true, true, ⟨#[]⟩, [⟨0, false, ⟨#[]⟩⟩, ⟨1, false, ⟨#[]⟩⟩], 2⟩
theorem take_app (t r : ByteArray) : (t ++ r).extract t.size (t ++ r).size = r := by
  exact ByteArray.extract_append_eq_right rfl (by rw [ByteArray.size_append])
theorem n0_read (j : Nat) (hj : j < 9) (r : ByteArray) (hr : r.size ≤ 1000) : nextC (cn0 (reqT false (wireP j) ++ r)) = ⟨cn1 r, wireP j, false, 0, 0⟩ := by
  have h := nextC_ok (c := cn0 (reqT false (wireP j) ++ r)) ⟨rfl, rfl⟩ (by simp [cn0]) (wire_read j hj false r hr)
  rw [show (cn0 (reqT false (wireP j) ++ r)).i = reqT false (wireP j) ++ r from rfl, take_app] at h
  exact h
theorem n0_end (j : Nat) (hj : j < 9) (r : ByteArray) (hr : r.size ≤ 1000) : nextC (cn0 (reqT true (wireP j) ++ r)) = ⟨ce1, wireP j, true, 0, 0⟩ := by
  exact nextC_close (c := cn0 (reqT true (wireP j) ++ r)) ⟨rfl, rfl⟩ (by simp [cn0]) (wire_read j hj true r hr)
theorem n1_read (j : Nat) (hj : j < 9) (r : ByteArray) (hr : r.size ≤ 1000) : nextC (cn1 (reqT false (wireP j) ++ r)) = ⟨cn2 r, wireP j, false, 1, 0⟩ := by
  have h := nextC_ok (c := cn1 (reqT false (wireP j) ++ r)) ⟨rfl, rfl⟩ (by simp [cn1]) (wire_read j hj false r hr)
  rw [show (cn1 (reqT false (wireP j) ++ r)).i = reqT false (wireP j) ++ r from rfl, take_app] at h
  exact h
theorem n1_end (j : Nat) (hj : j < 9) (r : ByteArray) (hr : r.size ≤ 1000) : nextC (cn1 (reqT true (wireP j) ++ r)) = ⟨ce2, wireP j, true, 1, 0⟩ := by
  exact nextC_close (c := cn1 (reqT true (wireP j) ++ r)) ⟨rfl, rfl⟩ (by simp [cn1]) (wire_read j hj true r hr)
theorem more_stay {c : CN} (h : c.o = true ∧ c.e = false) (hf : ¬ (6 ≤ c.s.length ∨ 100000 ≤ c.n)) (hR : reqR c.i = RR.bad 18) (l : List RQ) (k : Nat) : runN k c l = (c, l) :=
  runN_stay (by rw [nextC_more h hf hR]) (by rw [nextC_more h hf hR]; show (18 : Int) ≠ 0; decide) l k
theorem shut_stay {c : CN} (h : ¬ (c.o = true ∧ c.e = false)) (l : List RQ) (k : Nat) : runN k c l = (c, l) :=
  runN_stay (by rw [nextC_shut h]) (by rw [nextC_shut h]; show (19 : Int) ≠ 0; decide) l k
theorem ce1_stay (l : List RQ) (k : Nat) : runN k ce1 l = (ce1, l) := shut_stay (by decide) l k
theorem ce2_stay (l : List RQ) (k : Nat) : runN k ce2 l = (ce2, l) := shut_stay (by decide) l k
theorem cn2_stay (l : List RQ) (k : Nat) : runN k (cn2 ⟨#[]⟩) l = (cn2 ⟨#[]⟩, l) := more_stay ⟨rfl, rfl⟩ (by simp [cn2]) reqR_empty l k
/-- where the second text leads -/
def endC (c : Bool) : CN := if c = true then ce2 else cn2 ⟨#[]⟩
theorem emp_right (t : ByteArray) : t ++ (⟨#[]⟩ : ByteArray) = t := by apply ByteArray.ext; simp
theorem run1 (j : Nat) (hj : j < 9) (c : Bool) (l : List RQ) (k : Nat) : runN (k + 1) (cn1 (reqT c (wireP j))) l = (endC c, l ++ [⟨wireP j, c⟩]) := by
  cases c
  · have := n1_read j hj ⟨#[]⟩ (by rw [emptyB]; omega)
    rw [emp_right] at this
    rw [runN_first this, cn2_stay]; rfl
  · have := n1_end j hj ⟨#[]⟩ (by rw [emptyB]; omega)
    rw [emp_right] at this
    rw [runN_first this, ce2_stay]; rfl
theorem run0 (j j2 : Nat) (hj : j < 9) (hj2 : j2 < 9) (c : Bool) : runN 3 (cn0 (reqT false (wireP j) ++ reqT c (wireP j2))) [] = (endC c, [⟨wireP j, false⟩, ⟨wireP j2, c⟩]) := by
  rw [runN_first (n0_read j hj _ (by have := (wire_facts j2 hj2 c).small; omega)), run1 j2 hj2 c]; rfl
theorem run0e (j : Nat) (hj : j < 9) (r : ByteArray) (hr : r.size ≤ 1000) (l : List RQ) : runN 3 (cn0 (reqT true (wireP j) ++ r)) l = (ce1, l ++ [⟨wireP j, true⟩]) := by
  rw [runN_first (n0_end j hj r hr), ce1_stay]

/-- the second connection's second piece -/
def take2 (c : CN) (t : ByteArray) : CN := (takeC c t).1
theorem take2_open {c : CN} {t : ByteArray} (hr : connB c = true) (ht : t.size ≤ 65536) (h : c.o = true ∧ c.e = false) (hf : c.i.size + t.size ≤ 400) : takeC c t = ({ c with i := c.i ++ t }, 0) := takeC_ok hr ht h (by omega)
structure PieceFacts (t : ByteArray) (k : Nat) : Prop where
  a : connB (cn0 t) = true ∧ takeC CN.start t = (cn0 t, 0)
  b : takeC CN.start (t.extract 0 k) = (cn0 (t.extract 0 k), 0)
  c : (takeC (runN 3 (cn0 (t.extract 0 k)) []).1 (t.extract k t.size)).2 = 0 ∨ (takeC (runN 3 (cn0 (t.extract 0 k)) []).1 (t.extract k t.size)).2 = 19
  d : runN 3 (takeC (runN 3 (cn0 (t.extract 0 k)) []).1 (t.extract k t.size)).1 (runN 3 (cn0 (t.extract 0 k)) []).2 = runN 3 (cn0 t) []
  e : (runN 3 (cn0 t) []).2 ≠ []
  f : (runN 3 (cn0 t) []).2.length ≤ 6

theorem cut_left (A B : ByteArray) (k : Nat) (h : k ≤ A.size) : (A ++ B).extract 0 k = A.extract 0 k := by
  rw [ByteArray.extract_append, show k - A.size = 0 by omega]
  apply ByteArray.ext; simp
theorem cut_join (t : ByteArray) (k : Nat) (h : k ≤ t.size) : t.extract 0 k ++ t.extract k t.size = t := by
  rw [ByteArray.extract_append_extract]
  simp [Nat.max_eq_right h]
theorem cut_mid (A B : ByteArray) (m : Nat) (h : m ≤ B.size) : (A ++ B).extract 0 (A.size + m) = A ++ B.extract 0 m ∧ (A ++ B).extract (A.size + m) (A ++ B).size = B.extract m B.size := by
  constructor
  · rw [ByteArray.extract_append, show A.size + m - A.size = m by omega]
    apply ByteArray.ext
    simp
    rw [Array.extract_eq_self_of_le (by show A.size ≤ _; omega)]
  · rw [ByteArray.extract_append, ByteArray.size_append, show A.size + m - A.size = m by omega, show A.size + B.size - A.size = B.size by omega]
    apply ByteArray.ext; simp
theorem cn0_ok {t : ByteArray} (h : t.size ≤ 400) : connB (cn0 t) = true := by
  refine ConnR.mk' ⟨⟨(by decide : (0 : Int) ≤ 0), (by decide : (0 : Int) ≤ 100000), h, (by decide : 0 ≤ 6)⟩, fun _ i hi => absurd hi (by simp [cn0]), (fun h => by cases h), (fun h => by cases h)⟩
theorem start_take {t : ByteArray} (h : t.size ≤ 400) : takeC CN.start t = (cn0 t, 0) := by
  rw [take2_open rfl (by omega) ⟨rfl, rfl⟩ (by show 0 + t.size ≤ 400; omega)]
  show (({ CN.start with i := ⟨#[]⟩ ++ t } : CN), (0 : Int)) = _
  rw [show (⟨#[]⟩ : ByteArray) ++ t = t by apply ByteArray.ext; simp]; rfl
theorem runN_len : ∀ (k : Nat) (c : CN) (l : List RQ), (runN k c l).2.length ≤ l.length + k := by
  intro k
  induction k with
  | zero => exact fun _ _ => Nat.le_refl _
  | succ k ih =>
    intro c l
    have := ih c l
    unfold runN stepR
    dsimp only
    split
    · rw [List.length_append, List.length_singleton]; omega
    · omega
theorem runN_right : ∀ (k : Nat) (c : CN) (l : List RQ), connB c = true → connB (runN k c l).1 = true := by
  intro k
  induction k with
  | zero => exact fun _ _ h => h
  | succ k ih => exact fun c l h => nextC_right (ih c l h)
set_option maxHeartbeats 1000000 in
theorem piece_facts (j1 j2 : Nat) (h1 : j1 < 9) (h2 : j2 < 9) (c1 c2 : Bool) (k : Nat) (hk : k ≤ (reqT c1 (wireP j1) ++ reqT c2 (wireP j2)).size) : PieceFacts (reqT c1 (wireP j1) ++ reqT c2 (wireP j2)) k := by
  have w1 := wire_facts j1 h1 c1
  have w2 := wire_facts j2 h2 c2
  have s1 := w1.small
  have s2 := w2.small
  have hz : (reqT c1 (wireP j1) ++ reqT c2 (wireP j2)).size = (reqT c1 (wireP j1)).size + (reqT c2 (wireP j2)).size := ByteArray.size_append
  have hx : ((reqT c1 (wireP j1) ++ reqT c2 (wireP j2)).extract 0 k).size ≤ 400 := by rw [ByteArray.size_extract]; omega
  -- the whole
  have hone : ∃ d l, runN 3 (cn0 (reqT c1 (wireP j1) ++ reqT c2 (wireP j2))) [] = (d, l) ∧ l ≠ [] ∧ l.length ≤ 6 := by
    cases c1
    · exact ⟨_, _, run0 j1 j2 h1 h2 c2, by simp, by simp⟩
    · exact ⟨_, _, run0e j1 h1 _ (by omega) [], by simp, by simp⟩
  obtain ⟨d, l, hd, hl, hl6⟩ := hone
  have key : ((takeC (runN 3 (cn0 ((reqT c1 (wireP j1) ++ reqT c2 (wireP j2)).extract 0 k)) []).1 ((reqT c1 (wireP j1) ++ reqT c2 (wireP j2)).extract k (reqT c1 (wireP j1) ++ reqT c2 (wireP j2)).size)).2 = 0 ∨ (takeC (runN 3 (cn0 ((reqT c1 (wireP j1) ++ reqT c2 (wireP j2)).extract 0 k)) []).1 ((reqT c1 (wireP j1) ++ reqT c2 (wireP j2)).extract k (reqT c1 (wireP j1) ++ reqT c2 (wireP j2)).size)).2 = 19) ∧ runN 3 (takeC (runN 3 (cn0 ((reqT c1 (wireP j1) ++ reqT c2 (wireP j2)).extract 0 k)) []).1 ((reqT c1 (wireP j1) ++ reqT c2 (wireP j2)).extract k (reqT c1 (wireP j1) ++ reqT c2 (wireP j2)).size)).1 (runN 3 (cn0 ((reqT c1 (wireP j1) ++ reqT c2 (wireP j2)).extract 0 k)) []).2 = runN 3 (cn0 (reqT c1 (wireP j1) ++ reqT c2 (wireP j2))) [] := by
    have hright := runN_right 3 _ [] (cn0_ok hx)
    have hrest : ((reqT c1 (wireP j1) ++ reqT c2 (wireP j2)).extract k (reqT c1 (wireP j1) ++ reqT c2 (wireP j2)).size).size ≤ 400 := by rw [ByteArray.size_extract]; omega
    by_cases hlt : k < (reqT c1 (wireP j1)).size
    · -- within the first
      have e : (reqT c1 (wireP j1) ++ reqT c2 (wireP j2)).extract 0 k = (reqT c1 (wireP j1)).extract 0 k := cut_left _ _ _ (by omega)
      have hs : runN 3 (cn0 ((reqT c1 (wireP j1) ++ reqT c2 (wireP j2)).extract 0 k)) [] = (cn0 ((reqT c1 (wireP j1) ++ reqT c2 (wireP j2)).extract 0 k), []) := by
        rw [e]
        have hR1 : reqR (cn0 ((reqT c1 (wireP j1)).extract 0 k)).i = RR.bad 18 := w1.more k hlt
        exact more_stay (c := cn0 ((reqT c1 (wireP j1)).extract 0 k)) ⟨rfl, rfl⟩ (by simp [cn0]) hR1 [] 3
      rw [hs] at hright ⊢
      have ht := take2_open hright (t := (reqT c1 (wireP j1) ++ reqT c2 (wireP j2)).extract k (reqT c1 (wireP j1) ++ reqT c2 (wireP j2)).size) (by omega) ⟨rfl, rfl⟩ (by show ((reqT c1 (wireP j1) ++ reqT c2 (wireP j2)).extract 0 k).size + _ ≤ 400; rw [ByteArray.size_extract, ByteArray.size_extract]; omega)
      rw [ht]
      refine ⟨.inl rfl, ?_⟩
      show runN 3 (cn0 ((reqT c1 (wireP j1) ++ reqT c2 (wireP j2)).extract 0 k ++ (reqT c1 (wireP j1) ++ reqT c2 (wireP j2)).extract k (reqT c1 (wireP j1) ++ reqT c2 (wireP j2)).size)) [] = _
      rw [cut_join _ _ hk]
    · obtain ⟨m, rfl⟩ : ∃ m, k = (reqT c1 (wireP j1)).size + m := ⟨k - (reqT c1 (wireP j1)).size, by omega⟩
      have hm : m ≤ (reqT c2 (wireP j2)).size := by omega
      obtain ⟨e1, e2⟩ := cut_mid (reqT c1 (wireP j1)) (reqT c2 (wireP j2)) m hm
      rw [e1] at hright ⊢
      rw [e2] at hrest ⊢
      have hb : ((reqT c2 (wireP j2)).extract 0 m).size ≤ 1000 := by rw [ByteArray.size_extract]; omega
      cases c1
      · by_cases hlt2 : m < (reqT c2 (wireP j2)).size
        · have hs : runN 3 (cn0 (reqT false (wireP j1) ++ (reqT c2 (wireP j2)).extract 0 m)) [] = (cn1 ((reqT c2 (wireP j2)).extract 0 m), [⟨wireP j1, false⟩]) := by
            rw [runN_first (n0_read j1 h1 _ hb)]
            rw [List.nil_append]
            have hR2 : reqR (cn1 ((reqT c2 (wireP j2)).extract 0 m)).i = RR.bad 18 := w2.more m hlt2
            exact more_stay (c := cn1 ((reqT c2 (wireP j2)).extract 0 m)) ⟨rfl, rfl⟩ (by simp [cn1]) hR2 [⟨wireP j1, false⟩] 2
          rw [hs] at hright ⊢
          have ht := take2_open hright (t := (reqT c2 (wireP j2)).extract m (reqT c2 (wireP j2)).size) (by omega) ⟨rfl, rfl⟩ (by show ((reqT c2 (wireP j2)).extract 0 m).size + _ ≤ 400; rw [ByteArray.size_extract, ByteArray.size_extract]; omega)
          rw [ht]
          refine ⟨.inl rfl, ?_⟩
          show runN 3 (cn1 ((reqT c2 (wireP j2)).extract 0 m ++ (reqT c2 (wireP j2)).extract m (reqT c2 (wireP j2)).size)) _ = _
          rw [cut_join _ _ hm, run1 j2 h2 c2, run0 j1 j2 h1 h2 c2]; rfl
        · obtain rfl : m = (reqT c2 (wireP j2)).size := by omega
          have e3 : (reqT c2 (wireP j2)).extract 0 (reqT c2 (wireP j2)).size = reqT c2 (wireP j2) := by apply ByteArray.ext; simp
          have e4 : (reqT c2 (wireP j2)).extract (reqT c2 (wireP j2)).size (reqT c2 (wireP j2)).size = ⟨#[]⟩ := by apply ByteArray.ext; simp
          rw [e3] at hright ⊢
          rw [e4]
          rw [run0 j1 j2 h1 h2 c2] at hright ⊢
          cases c2
          · have ht := take2_open hright (t := ⟨#[]⟩) (by rw [emptyB]; omega) ⟨rfl, rfl⟩ (by show (⟨#[]⟩ : ByteArray).size + (⟨#[]⟩ : ByteArray).size ≤ 400; rw [emptyB]; omega)
            rw [ht]
            refine ⟨.inl rfl, ?_⟩
            show runN 3 (cn2 (⟨#[]⟩ ++ ⟨#[]⟩)) _ = _
            rw [emp_right, cn2_stay]; rfl
          · have ht := takeC_shut hright (t := ⟨#[]⟩) (by rw [emptyB]; omega) (show ¬ (ce2.o = true ∧ ce2.e = false) by decide)
            rw [ht]
            exact ⟨.inr rfl, ce2_stay _ 3⟩
      · rw [run0e j1 h1 _ hb []] at hright ⊢
        have ht := takeC_shut hright (t := (reqT c2 (wireP j2)).extract m (reqT c2 (wireP j2)).size) (by omega) (show ¬ (ce1.o = true ∧ ce1.e = false) by decide)
        rw [ht, run0e j1 h1 _ (by omega) []]
        exact ⟨.inr rfl, ce1_stay _ 3⟩
  exact ⟨⟨cn0_ok (by omega), start_take (by omega)⟩, start_take hx, key.1, key.2, by rw [hd]; exact hl, by rw [hd]; exact hl6⟩

/-! The second connection, piece by piece. -/
def pcT (X Y : ByteArray) (p : Nat) : ByteArray := if p = 0 then X else Y
def stP (X Y : ByteArray) : Nat → CN × List RQ
  | 0 => (CN.start, [])
  | p + 1 => runN 3 (takeC (stP X Y p).1 (pcT X Y p)).1 (stP X Y p).2
theorem takeC_19 {c : CN} {t : ByteArray} (hr : connB c = true) (ht : t.size ≤ 65536) (h : (takeC c t).2 = 19) : (takeC c t).1 = c := by
  by_cases ho : c.o = true ∧ c.e = false
  · by_cases hf : 400 < c.i.size + t.size
    · rw [takeC_full hr ht ho hf]
    · rw [takeC_ok hr ht ho hf] at h
      exact absurd h (show ¬ (0 : Int) = 19 by decide)
  · rw [takeC_shut hr ht ho]
structure StF (X Y T : ByteArray) : Prop where
  right : ∀ p, connB (stP X Y p).1 = true
  len : ∀ p, p < 2 → (stP X Y p).2.length ≤ 3 * p
  code : ∀ p, p < 2 → ((takeC (stP X Y p).1 (pcT X Y p)).2 = 0 ∨ ((takeC (stP X Y p).1 (pcT X Y p)).2 = 19 ∧ (takeC (stP X Y p).1 (pcT X Y p)).1 = (stP X Y p).1))
  small : ∀ p, (pcT X Y p).size ≤ 65536
  fin : stP X Y 2 = runN 3 (cn0 T) []
theorem st_facts {T : ByteArray} {k : Nat} (h : PieceFacts T k) (hT : T.size ≤ 400) : StF (T.extract 0 k) (T.extract k T.size) T := by
  have hs : ∀ p, (pcT (T.extract 0 k) (T.extract k T.size) p).size ≤ 65536 := fun p => by
    unfold pcT
    split
    · rw [ByteArray.size_extract]; omega
    · rw [ByteArray.size_extract]; omega
  have hr : ∀ p, connB (stP (T.extract 0 k) (T.extract k T.size) p).1 = true := by
    intro p
    induction p with
    | zero => rfl
    | succ p ih => exact runN_right 3 _ _ (takeC_right _ ih (hs p))
  have h1 : stP (T.extract 0 k) (T.extract k T.size) 1 = runN 3 (cn0 (T.extract 0 k)) [] := by
    show runN 3 (takeC CN.start (T.extract 0 k)).1 [] = _
    rw [h.b]
  refine ⟨hr, ?_, ?_, hs, ?_⟩
  · intro p hp
    obtain rfl | rfl : p = 0 ∨ p = 1 := by omega
    · exact Nat.zero_le _
    · rw [h1]
      have := runN_len 3 (cn0 (T.extract 0 k)) []
      simpa using this
  · intro p hp
    obtain rfl | rfl : p = 0 ∨ p = 1 := by omega
    · left
      show (takeC CN.start (T.extract 0 k)).2 = 0
      rw [h.b]
    · have hc : (takeC (stP (T.extract 0 k) (T.extract k T.size) 1).1 (pcT (T.extract 0 k) (T.extract k T.size) 1)).2 = 0 ∨ (takeC (stP (T.extract 0 k) (T.extract k T.size) 1).1 (pcT (T.extract 0 k) (T.extract k T.size) 1)).2 = 19 := by
        rw [h1]; exact h.c
      rcases hc with hc | hc
      · exact .inl hc
      · exact .inr ⟨hc, takeC_19 (hr 1) (hs 1) hc⟩
  · show runN 3 (takeC (stP (T.extract 0 k) (T.extract k T.size) 1).1 (T.extract k T.size)).1 (stP (T.extract 0 k) (T.extract k T.size) 1).2 = _
    rw [h1]; exact h.d

end Go.Proofs.YthfoabcmgiiadaaGreatDoor
