/- Slots of connections: rows that came in, rows of one's own that grow and are marked. -/
import Derived.Test.YthfoabcmgiiadaaGreatDoorConnL
import Derived.Test.YthfoabcmgiiadaaGreatDoorWireDig
import Derived.Laws.MakeOwn
import Derived.Laws.AppendOwnNone
import Derived.Lib.SmallJoins
import Derived.Lib.BufferRead
namespace Go.Proofs.YthfoabcmgiiadaaGreatDoor
open Go.RowKit Go.Joins
set_option linter.unusedVariables false

theorem k_int {a b : Int} (h : a = b) : Value.int .i64 a = .int .i64 b := by rw [h]
theorem k_len (s : ByteArray) : s.data.toList.length = s.size := Array.length_toList
theorem k_slice {w : World} {base : Nat} {v : Value} {n : Nat} {xs : List Value} {e size : Nat} (h : w.ownsRow base e size v n xs) : ∃ a cap, v = .slice a n cap := by
  rcases h.2 with ⟨rfl, h0⟩ | ⟨g, cap, cur, rfl, _⟩
  · exact ⟨none, 0, by rw [h0]⟩
  · exact ⟨_, _, rfl⟩

/-- values that came in: three cells each, from some place on -/
def SlotsAt (w : World) (p : Option Addr) (vs : List SL) : Prop := ∀ i (h : i < vs.length), ∃ b off, p = some ⟨b, off, none⟩ ∧ w.cell? ⟨b, off + i * 3, none⟩ = some (.int .i64 vs[i].q) ∧ w.cell? ⟨b, off + i * 3 + 1, none⟩ = some (.bool vs[i].r) ∧ w.cell? ⟨b, off + i * 3 + 2, none⟩ = some (.string vs[i].t)
theorem SlotsAt.later {w w' : World} {p : Option Addr} {vs : List SL} (h : SlotsAt w p vs) (hb : Below w.heap.size w w') : SlotsAt w' p vs := fun i hi => by
  obtain ⟨b, off, rfl, h0, h1, h2⟩ := h i hi
  exact ⟨b, off, rfl, cell_later hb h0, cell_later hb h1, cell_later hb h2⟩

theorem infoSl : (Tryz.prog.info? 66).map (fun i => (i.zero, i.size, i.bytes)) = some (some (.agg #[.int .i64 0, .bool false, .string ⟨#[]⟩]), 3, 32) := by kernel_rfl
def cellsK (v : SL) : List Value := [.int .i64 v.q, .bool v.r, .string v.t]
def slCells (vs : List SL) : List Value := vs.flatMap cellsK
theorem slCells_snoc (vs : List SL) (v : SL) : slCells (vs ++ [v]) = slCells vs ++ cellsK v := by simp [slCells]
theorem slCells_len (vs : List SL) : (slCells vs).length = vs.length * 3 := by
  induction vs with
  | nil => rfl
  | cons v vs ih => rw [slCells, List.flatMap_cons, List.length_append]; simp only [slCells] at ih; rw [ih]; simp [cellsK]; omega
theorem slCells_get : ∀ (vs : List SL) (i : Nat) (h : i < vs.length), (slCells vs)[i * 3]? = some (.int .i64 vs[i].q) ∧ (slCells vs)[i * 3 + 1]? = some (.bool vs[i].r) ∧ (slCells vs)[i * 3 + 2]? = some (.string vs[i].t) := by
  intro vs
  induction vs with
  | nil => intro i h; simp at h
  | cons v vs ih =>
    intro i h
    have e : slCells (v :: vs) = cellsK v ++ slCells vs := by simp [slCells]
    cases i with
    | zero => rw [e]; exact ⟨rfl, rfl, rfl⟩
    | succ i =>
      have h' : i < vs.length := by simpa using h
      have := ih i h'
      have hl : (cellsK v).length = 3 := rfl
      refine ⟨?_, ?_, ?_⟩
      · rw [e, List.getElem?_append_right (by omega), show (i + 1) * 3 - (cellsK v).length = i * 3 by omega]; exact this.1
      · rw [e, List.getElem?_append_right (by omega), show (i + 1) * 3 + 1 - (cellsK v).length = i * 3 + 1 by omega]; exact this.2.1
      · rw [e, List.getElem?_append_right (by omega), show (i + 1) * 3 + 2 - (cellsK v).length = i * 3 + 2 by omega]; exact this.2.2
/-- a list of tokens of one's own -/
def SlBuf (w : World) (base : Nat) (v : Value) (vs : List SL) : Prop := w.ownsRow base 66 3 v vs.length (slCells vs)
theorem SlBuf.nil (w : World) (base : Nat) : SlBuf w base (.slice none 0 0) [] := World.ownsRow_nil _ _ _ _
theorem SlBuf.alloc {w : World} {base : Nat} {v : Value} {vs : List SL} (h : SlBuf w base v vs) (o : Obj) : SlBuf (w.alloc o) base v vs := World.ownsRow.alloc h o
theorem SlBuf.lit0 (w : World) (base : Nat) (h : base ≤ w.heap.size) : SlBuf (w.alloc (.cells #[] 66)) base (.slice (some ⟨w.heap.size, 0, none⟩) 0 0) [] := by
  have := World.ownsRow_lit (base := base) (e := 66) (size := 3) w #[] 0 h (by decide) (by simp)
  simpa [SlBuf, slCells] using this
theorem SlBuf.slice {w : World} {base : Nat} {v : Value} {vs : List SL} (h : SlBuf w base v vs) : ∃ a cap, v = .slice a vs.length cap := k_slice h
theorem SlBuf.own_lt {w : World} {base : Nat} {v : Value} {vs : List SL} (h : SlBuf w base v vs) : ∀ j, v.ownBlock = some j → j < w.heap.size := fun j hj => (World.ownsRow.lt h j hj).2
theorem SlBuf.below {w w' : World} {base B : Nat} {v : Value} {vs : List SL} (h : SlBuf w base v vs) (hb : Below B w w') (hB : ∀ j, v.ownBlock = some j → j < B) : SlBuf w' base v vs := by
  refine ⟨h.1, ?_⟩
  rcases h.2 with h | ⟨g, cap, cur, e, hg, hgg, r⟩
  · exact .inl h
  · refine .inr ⟨g, cap, cur, e, hg, ?_, r⟩
    rw [hb.block g (hB g (by rw [e]; rfl))]; exact hgg
theorem SlBuf.later {w w' : World} {base : Nat} {v : Value} {vs : List SL} (h : SlBuf w base v vs) (hb : Below w.heap.size w w') : SlBuf w' base v vs := h.below hb h.own_lt
theorem SlBuf.toks {w : World} {base : Nat} {v : Value} {vs : List SL} (h : SlBuf w base v vs) : ∃ a cap, v = .slice a vs.length cap ∧ SlotsAt w a vs := by
  rcases h.2 with ⟨rfl, h0⟩ | ⟨g, cap, cur, rfl, hg⟩
  · exact ⟨none, 0, by rw [h0], fun i hi => by omega⟩
  · refine ⟨some ⟨g, 0, none⟩, cap, rfl, fun i hi => ⟨g, 0, rfl, ?_, ?_, ?_⟩⟩
    · have := World.ownsRow.cellAt h (i * 3) (by omega)
      rw [(slCells_get vs i hi).1] at this
      simpa using this
    · have := World.ownsRow.cellAt h (i * 3 + 1) (by omega)
      rw [(slCells_get vs i hi).2.1] at this
      simpa using this
    · have := World.ownsRow.cellAt h (i * 3 + 2) (by omega)
      rw [(slCells_get vs i hi).2.2] at this
      simpa using this
theorem SlBuf.mono {w : World} {base base' : Nat} {v : Value} {vs : List SL} (h : SlBuf w base v vs) (hb : base' ≤ base) : SlBuf w base' v vs := by
  refine ⟨h.1, ?_⟩
  rcases h.2 with h | ⟨g, cap, cur, e, hg, r⟩
  · exact .inl h
  · exact .inr ⟨g, cap, cur, e, Nat.le_trans hb hg, r⟩

theorem wp_appSl (w : World) {ops : Array Oper} {rest : List Oper} {o : Oper} {a : Act} {Q : Exit → Act → World → Prop} (hgd : o.guard = none) (s x : Operand)
    (ho : o.op = .call { callee := .builtin .append, args := #[s, x], argTypes := #[23, 23] }) (base g : Nat) (v : Value) (vs : List SL) (c : SL) (hs : a.eval s = v)
    (hown : SlBuf w base v vs) (hx : a.eval x = .slice (some ⟨g, 0, none⟩) 1 1) (hc0 : w.cell? ⟨g, 0, none⟩ = some (.int .i64 c.q)) (hc1 : w.cell? ⟨g, 1, none⟩ = some (.bool c.r)) (hc2 : w.cell? ⟨g, 2, none⟩ = some (.string c.t)) (hbase : base ≤ w.heap.size) (hl : vs.length ≤ 1000000)
    (h : ∀ v' w', SlBuf w' base v' (vs ++ [c]) → Below base w w' → wpList Tryz.prog ops Q rest (a.put o.dst v') w') : wpList Tryz.prog ops Q (o :: rest) a w := by
  obtain ⟨i0, hi, hz0, hz1, hz2⟩ := info_parts infoSl
  refine wpList_append_own _ hgd s x 23 ho base 66 i0 (.agg #[.int .i64 0, .bool false, .string ⟨#[]⟩]) 3 32 Tryz.underlying23 hi hz0 hz1 hz2 rfl (by decide) _ _ _ hs hown ⟨g, 0, none⟩ 1 1 (cellsK c) hx rfl ?_ ?_ (by unfold maxLen; omega) (by omega) hbase ?_
  · intro j u' hj
    match j, hj with
    | 0, hj => simp [cellsK] at hj; subst hj; simpa [Addr.add] using hc0
    | 1, hj => simp [cellsK] at hj; subst hj; simpa [Addr.add] using hc1
    | 2, hj => simp [cellsK] at hj; subst hj; simpa [Addr.add] using hc2
    | j + 3, hj => simp [cellsK] at hj
  · intro u' hu'
    simp [cellsK] at hu'
    rcases hu' with rfl | rfl | rfl <;> rfl
  · intro v' w' hown' hgrow _
    rw [← slCells_snoc, show vs.length + 1 = (vs ++ [c]).length by simp] at hown'
    exact h v' w' hown' ((Below.refl _ _).grown hgrow hbase (fun j hj => (World.ownsRow.lt hown j hj).1))

theorem kret_s {a b : ByteArray} (h : a = b) : Ending.returned (.string a) = .returned (.string b) := by rw [h]
/-- the text of mark k -/
def kmT (k : Nat) : ByteArray := ⟨(109 :: Lib.decDigits k).toArray⟩
/-- so far: what is left, and the digits made -/
def KMarkAt (k n : Nat) (o : ByteArray) : Prop := (n = 0 → o.data.toList = Lib.decDigits k) ∧ (0 < n → Lib.decDigits n ++ o.data.toList = Lib.decDigits k) ∧ o.size ≤ 10
theorem kmark_next {k n : Nat} {o : ByteArray} (hk : k ≤ 9000000) (h : KMarkAt k n o) (h0 : 0 < n) : KMarkAt k (n / 10) (⟨#[UInt8.ofNat (48 + n % 10)]⟩ ++ o) := by
  have h1 := h.2.1 h0
  have hl : (Lib.decDigits k).length ≤ 7 := dec_lenW 6 k (by omega)
  have e : (⟨#[UInt8.ofNat (48 + n % 10)]⟩ ++ o : ByteArray).data.toList = UInt8.ofNat (48 + n % 10) :: o.data.toList := by simp
  have hsz : (⟨#[UInt8.ofNat (48 + n % 10)]⟩ ++ o : ByteArray).size = 1 + o.size := by rw [ByteArray.size_append]; rfl
  have ho := k_len o
  have hlen := congrArg List.length h1
  rw [List.length_append, ho] at hlen
  by_cases h10 : n < 10
  · have hd : Lib.decDigits n = [UInt8.ofNat (48 + n % 10)] := by rw [dec_smallW h10, Nat.mod_eq_of_lt h10]
    refine ⟨fun _ => ?_, fun h => by omega, by omega⟩
    rw [e, ← h1, hd]; rfl
  · have hd := dec_greatW h10
    refine ⟨fun h => by omega, fun _ => ?_, ?_⟩
    · rw [e, ← h1, hd, List.append_assoc]; rfl
    · have : (Lib.decDigits n).length = (Lib.decDigits (n / 10)).length + 1 := by rw [hd]; simp
      omega
theorem kmark_done {k : Nat} {o : ByteArray} (h : KMarkAt k 0 o) : (⟨#[109]⟩ ++ o : ByteArray) = kmT k := by
  have := h.1 rfl
  unfold kmT
  rw [← this]
  apply ByteArray.ext
  simp


/-- mark i of a list -/
def kmarkV (i : Nat) : SL := ⟨1 + 3 * (i : Int), false, kmT (1 + 3 * (i : Int) + 1 + 1).toNat⟩
def kmarkL (n : Nat) : List SL := (List.range n).map kmarkV
theorem kmarkL_len (n : Nat) : (kmarkL n).length = n := by simp [kmarkL]
theorem kmarkL_get (n i : Nat) (h : i < (kmarkL n).length) : (kmarkL n)[i] = kmarkV i := by simp [kmarkL]

theorem slCells_set : ∀ (vs : List SL) (i j : Nat) (h : i < vs.length) (hj : j < 3) (u : Value) (c : SL), cellsK c = (cellsK vs[i]).set j u → (slCells vs).set (i * 3 + j) u = slCells (vs.set i c) := by
  intro vs
  induction vs with
  | nil => intro i j h; simp at h
  | cons v vs ih =>
    intro i j h hj u c hc
    have e : ∀ v : SL, ∀ vs, slCells (v :: vs) = cellsK v ++ slCells vs := fun v vs => by simp [slCells]
    have hl : (cellsK v).length = 3 := rfl
    cases i with
    | zero =>
      rw [e, List.set_cons_zero, e, hc, List.set_append_left _ _ (by omega)]
      simp
    | succ i =>
      rw [e, List.set_cons_succ, e, List.set_append_right _ _ (by omega), show (i + 1) * 3 + j - (cellsK v).length = i * 3 + j by omega, ih i j (by simpa using h) hj u c (by simpa using hc)]
theorem ktake_set (vs : List SL) (cur : Array Value) (i j : Nat) (u : Value) (c : SL) (hi : i < vs.length) (hj : j < 3) (hc : cellsK c = (cellsK vs[i]).set j u) (h4 : cur.toList.take (vs.length * 3) = slCells vs) : (cur.toList.set (i * 3 + j) u).take (vs.length * 3) = slCells (vs.set i c) := by
  rw [← slCells_set vs i j hi hj u c hc, ← h4, List.take_set]
theorem SlBuf.store {w : World} {base g n cap : Nat} {vs : List SL} (h : SlBuf w base (.slice (some ⟨g, 0, none⟩) n cap) vs) (i j : Nat) (hi : i < vs.length) (hj : j < 3) (u : Value) (c : SL) (hc : cellsK c = (cellsK vs[i]).set j u) :
    SlBuf (w.setCell ⟨g, i * 3 + j, none⟩ u) base (.slice (some ⟨g, 0, none⟩) n cap) (vs.set i c) := by
  refine ⟨by rw [slCells_len, List.length_set], ?_⟩
  rcases h.2 with ⟨h, _⟩ | ⟨g', cap', cur, e, hg, hgg, h1, h2, h3, h4⟩
  · cases h
  · injection e with e1 e2 e3
    injection e1 with e1
    injection e1 with e1 _ _
    subst e1 e3
    refine .inr ⟨g, cap, _, by rw [e2, List.length_set], hg, block_setCell hgg u, by rw [List.length_set]; exact h1, h2, by rw [Array.size_setIfInBounds]; exact h3, ?_⟩
    rw [List.length_set, Array.toList_setIfInBounds]
    exact ktake_set vs cur i j u c hi hj hc h4
theorem SlBuf.opened {w : World} {base n cap : Nat} {a : Option Addr} {vs : List SL} (h : SlBuf w base (.slice a n cap) vs) (h0 : 0 < vs.length) : ∃ g, a = some ⟨g, 0, none⟩ ∧ base ≤ g ∧ g < w.heap.size ∧ ∀ i (hi : i < vs.length), w.cell? ⟨g, i * 3, none⟩ = some (.int .i64 vs[i].q) ∧ w.cell? ⟨g, i * 3 + 1, none⟩ = some (.bool vs[i].r) ∧ w.cell? ⟨g, i * 3 + 2, none⟩ = some (.string vs[i].t) := by
  obtain ⟨a', cap', e, hat⟩ := h.toks
  have hlt := h.own_lt
  rcases h.2 with ⟨h, _⟩ | ⟨g', cp, cur, e', hb, _⟩
  · omega
  · injection e' with e1 _ _
    injection e with e2 _ _
    subst e1
    subst e2
    refine ⟨g', rfl, hb, hlt g' rfl, fun i hi => ?_⟩
    obtain ⟨b, off, ea, q0, q1, q2⟩ := hat i hi
    injection ea with ea
    injection ea with ea1 ea2 _
    subst ea1 ea2
    rw [Nat.zero_add] at q0 q1 q2
    exact ⟨q0, q1, q2⟩
theorem SlBuf.free {w : World} {base g n cap : Nat} {vs : List SL} (h : SlBuf w base (.slice (some ⟨g, 0, none⟩) n cap) vs) (i : Nat) : w.frozen? ⟨g, i, none⟩ = false := by
  rcases h.2 with ⟨h, _⟩ | ⟨g', cap', cur, e, hg, hgg, _⟩
  · cases h
  · injection e with e1 _ _
    injection e1 with e1
    injection e1 with e1 _ _
    subst e1
    exact unfrozen_of_block hgg i
/-- the first k are marked -/
def kmixL (vs : List SL) (k : Nat) : List SL := kmarkL k ++ vs.drop k
theorem kmixL_len (vs : List SL) (k : Nat) (h : k ≤ vs.length) : (kmixL vs k).length = vs.length := by
  unfold kmixL; rw [List.length_append, kmarkL_len, List.length_drop]; omega
theorem kmixL_zero (vs : List SL) : kmixL vs 0 = vs := by simp [kmixL, kmarkL]
theorem kmixL_all (vs : List SL) (k : Nat) (h : vs.length ≤ k) (hk : k ≤ vs.length) : kmixL vs k = kmarkL vs.length := by
  obtain rfl : k = vs.length := by omega
  simp [kmixL]
theorem kmixL_set (vs : List SL) (k : Nat) (h : k < vs.length) : (kmixL vs k).set k (kmarkV k) = kmixL vs (k + 1) := by
  unfold kmixL
  rw [List.set_append_right _ _ (by rw [kmarkL_len]; omega), kmarkL_len, Nat.sub_self, List.drop_eq_getElem_cons h, List.set_cons_zero]
  simp [kmarkL, List.range_succ]


theorem slCells_news {w : World} {b off : Nat} {ys : List SL} (hat : ∀ i (h : i < ys.length), w.cell? ⟨b, off + i * 3, none⟩ = some (.int .i64 ys[i].q) ∧ w.cell? ⟨b, off + i * 3 + 1, none⟩ = some (.bool ys[i].r) ∧ w.cell? ⟨b, off + i * 3 + 2, none⟩ = some (.string ys[i].t)) (j : Nat) (u : Value) (hu : (slCells ys)[j]? = some u) : w.cell? ((⟨b, off, none⟩ : Addr).add j) = some u := by
  have hj : j < ys.length * 3 := by
    have := (List.getElem?_eq_some_iff.1 hu).1
    rw [slCells_len] at this; exact this
  have hi : j / 3 < ys.length := by omega
  obtain ⟨c0, c1, c2⟩ := hat (j / 3) hi
  obtain ⟨g0, g1, g2⟩ := slCells_get ys (j / 3) hi
  rw [Addr.add_lit]
  obtain h | h | h : j % 3 = 0 ∨ j % 3 = 1 ∨ j % 3 = 2 := by omega
  · rw [show j = j / 3 * 3 by omega, g0] at hu
    rw [show off + j = off + j / 3 * 3 by omega, c0]; exact hu
  · rw [show j = j / 3 * 3 + 1 by omega, g1] at hu
    rw [show off + j = off + j / 3 * 3 + 1 by omega, c1]; exact hu
  · rw [show j = j / 3 * 3 + 2 by omega, g2] at hu
    rw [show off + j = off + j / 3 * 3 + 2 by omega, c2]; exact hu
theorem slCells_one (ys : List SL) : ∀ u ∈ slCells ys, u.oneCell' = true := by
  intro u hu
  unfold slCells at hu
  rw [List.mem_flatMap] at hu
  obtain ⟨x, _, hx⟩ := hu
  simp [cellsK] at hx
  rcases hx with rfl | rfl | rfl <;> rfl
theorem slCells_app (vs ys : List SL) : slCells (vs ++ ys) = slCells vs ++ slCells ys := by simp [slCells]

theorem SlBuf.other {w : World} {base g n cap b o : Nat} {vs : List SL} {u : Value} (h : SlBuf w base (.slice (some ⟨g, 0, none⟩) n cap) vs) (hb : b ≠ g) : SlBuf (w.setCell ⟨b, o, none⟩ u) base (.slice (some ⟨g, 0, none⟩) n cap) vs := by
  refine ⟨h.1, ?_⟩
  rcases h.2 with ⟨h, _⟩ | ⟨g', cap', cur, e, hg, hgg, r⟩
  · cases h
  · injection e with e1 e2 e3
    injection e1 with e1
    injection e1 with e1
    subst e1
    exact .inr ⟨g, cap', cur, by rw [e2, e3], hg, by rw [Below.heap_setCell _ _ _ _ (fun e => hb e.symm)]; exact hgg, r⟩
/-- a row that is some slice's -/
def RowSl (w : World) (v : Value) (ys : List SL) : Prop := (v = .slice none 0 0 ∧ ys = []) ∨ ∃ b off cap, v = .slice (some ⟨b, off, none⟩) ys.length cap ∧ ∀ i (h : i < ys.length), w.cell? ⟨b, off + i * 3, none⟩ = some (.int .i64 ys[i].q) ∧ w.cell? ⟨b, off + i * 3 + 1, none⟩ = some (.bool ys[i].r) ∧ w.cell? ⟨b, off + i * 3 + 2, none⟩ = some (.string ys[i].t)
theorem RowSl.later {w w' : World} {v : Value} {ys : List SL} (h : RowSl w v ys) (hb : Below w.heap.size w w') : RowSl w' v ys := by
  rcases h with h | ⟨b, off, cap, e, hat⟩
  · exact .inl h
  · exact .inr ⟨b, off, cap, e, fun i hi => ⟨cell_later hb (hat i hi).1, cell_later hb (hat i hi).2.1, cell_later hb (hat i hi).2.2⟩⟩
theorem RowSl.slice {w : World} {v : Value} {ys : List SL} (h : RowSl w v ys) : ∃ p cap, v = .slice p ys.length cap ∧ SlotsAt w p ys := by
  rcases h with ⟨rfl, rfl⟩ | ⟨b, off, cap, rfl, hat⟩
  · exact ⟨none, 0, rfl, fun i hi => absurd hi (by simp)⟩
  · exact ⟨some ⟨b, off, none⟩, cap, rfl, fun i hi => ⟨b, off, rfl, hat i hi⟩⟩
theorem SlBuf.row {w : World} {base : Nat} {v : Value} {vs : List SL} (h : SlBuf w base v vs) : RowSl w v vs := by
  obtain ⟨a, cap, rfl, hat⟩ := h.toks
  rcases h.2 with ⟨h, h0⟩ | ⟨g, cap', cur, e, hg⟩
  · injection h with e1 e2 e3
    subst e1 e3
    exact .inl ⟨by rw [e2], List.length_eq_zero_iff.1 e2⟩
  · injection e with e1 e2 e3
    subst e1 e3
    refine .inr ⟨g, 0, cap, rfl, fun i hi => ?_⟩
    obtain ⟨b, off, e, q⟩ := hat i hi
    injection e with e
    injection e with e1 e2
    subst e1 e2
    exact q

theorem wp_appSls (w : World) {ops : Array Oper} {rest : List Oper} {o : Oper} {a : Act} {Q : Exit → Act → World → Prop} (hgd : o.guard = none) (s x : Operand)
    (ho : o.op = .call { callee := .builtin .append, args := #[s, x], argTypes := #[23, 23] }) (base : Nat) (v u : Value) (vs ys : List SL) (hs : a.eval s = v)
    (hown : SlBuf w base v vs) (hx : a.eval x = u) (hrow : RowSl w u ys) (hbase : base ≤ w.heap.size) (hl : vs.length + ys.length ≤ 1100000)
    (h : ∀ v' w', SlBuf w' base v' (vs ++ ys) → Below base w w' → wpList Tryz.prog ops Q rest (a.put o.dst v') w') : wpList Tryz.prog ops Q (o :: rest) a w := by
  obtain ⟨i0, hi, hz0, hz1, hz2⟩ := info_parts infoSl
  rcases hrow with ⟨rfl, rfl⟩ | ⟨b, off, cap, rfl, hat⟩
  · refine wpList_append_own_none hgd s x 23 ho base 66 i0 3 Tryz.underlying23 hi v _ _ hs hown hx ?_
    exact h v w (by simpa using hown) (Below.refl _ _)
  · refine wpList_append_own _ hgd s x 23 ho base 66 i0 (.agg #[.int .i64 0, .bool false, .string ⟨#[]⟩]) 3 32 Tryz.underlying23 hi hz0 hz1 hz2 rfl (by decide) _ _ _ hs hown ⟨b, off, none⟩ ys.length cap (slCells ys) hx (slCells_len ys) (slCells_news hat) (slCells_one ys) (by unfold maxLen; omega) (by omega) hbase ?_
    intro v' w' hown' hgrow _
    rw [← slCells_app, show vs.length + ys.length = (vs ++ ys).length by simp] at hown'
    exact h v' w' hown' ((Below.refl _ _).grown hgrow hbase (fun j hj => (World.ownsRow.lt hown j hj).1))

end Go.Proofs.YthfoabcmgiiadaaGreatDoor
