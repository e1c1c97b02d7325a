/- A list of texts of one's own that grows, is marked, and still holds its marks. -/
import Derived.Test.YtoehpjignngjlaaDoorTreeMark2
import Derived.Laws.OwnMore
import Derived.Lib.ItoaNum
import Derived.Deep.RegionHeld3
import Derived.Test.YtoehpjignngjlaaDoorByteEq
namespace Go.Proofs.YtoehpjignngjlaaDoor
open Go.RowKit Go.Joins
set_option linter.unusedVariables false

set_option maxRecDepth 100000 in
theorem infoSt : (Tryd.prog.info? 9).map (fun i => (i.zero, i.size, i.bytes)) = some (some (.string ⟨#[]⟩), 1, 16) := by kernel_rfl
/-- a list of texts of one's own -/
def StrBuf (w : World) (base : Nat) (v : Value) (zs : List ByteArray) : Prop := w.ownsRow base 9 1 v zs.length (zs.map Value.string)
theorem StrBuf.nil (w : World) (base : Nat) : StrBuf w base (.slice none 0 0) [] := World.ownsRow_nil _ _ _ _
theorem StrBuf.alloc {w : World} {base : Nat} {v : Value} {zs : List ByteArray} (h : StrBuf w base v zs) (o : Obj) : StrBuf (w.alloc o) base v zs := World.ownsRow.alloc h o
theorem StrBuf.lit (w : World) (base : Nat) (zs : List ByteArray) (h : base ≤ w.heap.size) (hl : zs.length ≤ maxLen) : StrBuf (w.alloc (.cells (zs.map Value.string).toArray 9)) base (.slice (some ⟨w.heap.size, 0, none⟩) zs.length zs.length) zs := by
  have := World.ownsRow_lit (base := base) (e := 9) (size := 1) w (zs.map Value.string).toArray zs.length h hl (by simp)
  simpa [StrBuf] using this
theorem StrBuf.slice {w : World} {base : Nat} {v : Value} {zs : List ByteArray} (h : StrBuf w base v zs) : ∃ a cap, v = .slice a zs.length cap := own_slice h
theorem StrBuf.own_lt {w : World} {base : Nat} {v : Value} {zs : List ByteArray} (h : StrBuf w base v zs) : ∀ j, v.ownBlock = some j → base ≤ j ∧ j < w.heap.size := fun j hj => World.ownsRow.lt h j hj
theorem StrBuf.below {w w' : World} {base B : Nat} {v : Value} {zs : List ByteArray} (h : StrBuf w base v zs) (hb : Below B w w') (hB : ∀ j, v.ownBlock = some j → j < B) : StrBuf w' base v zs := by
  refine ⟨h.1, ?_⟩
  rcases h.2 with h | ⟨g, cap, cur, e, hg, hgg, r⟩
  · exact .inl h
  · refine .inr ⟨g, cap, cur, e, hg, ?_, r⟩
    rw [hb.block g (hB g (by rw [e]; rfl))]; exact hgg
theorem StrBuf.later {w w' : World} {base : Nat} {v : Value} {zs : List ByteArray} (h : StrBuf w base v zs) (hb : Below w.heap.size w w') : StrBuf w' base v zs := h.below hb fun j hj => (h.own_lt j hj).2
theorem StrBuf.strs {w : World} {base : Nat} {v : Value} {zs : List ByteArray} (h : StrBuf w base v zs) : ∃ a cap, v = .slice a zs.length cap ∧ StrsAt w a zs := by
  rcases h.2 with ⟨rfl, h0⟩ | ⟨g, cap, cur, rfl, hg⟩
  · exact ⟨none, 0, by rw [h0], fun i hi => by omega⟩
  · refine ⟨some ⟨g, 0, none⟩, cap, rfl, fun i hi => ⟨g, 0, rfl, ?_⟩⟩
    have := World.ownsRow.cellAt h i (by omega)
    rw [Nat.zero_add, this]
    simp [hi]

theorem wp_appStr (w : World) {ops : Array Oper} {rest : List Oper} {o : Oper} {a : Act} {Q : Exit → Act → World → Prop} (hgd : o.guard = none) (s x : Operand)
    (ho : o.op = .call { callee := .builtin .append, args := #[s, x], argTypes := #[39, 39] }) (base g : Nat) (v : Value) (zs : List ByteArray) (c : ByteArray) (hs : a.eval s = v)
    (hown : StrBuf w base v zs) (hx : a.eval x = .slice (some ⟨g, 0, none⟩) 1 1) (hc0 : w.cell? ⟨g, 0, none⟩ = some (.string c)) (hbase : base ≤ w.heap.size) (hl : zs.length ≤ 1000000000)
    (h : ∀ v' w', StrBuf w' base v' (zs ++ [c]) → Below base w w' → wpList Tryd.prog ops Q rest (a.put o.dst v') w') : wpList Tryd.prog ops Q (o :: rest) a w := by
  obtain ⟨i0, hi, hz0, hz1, hz2⟩ := info_parts infoSt
  refine wpList_append_own _ hgd s x 39 ho base 9 i0 (.string ⟨#[]⟩) 1 16 Tryd.underlying39 hi hz0 hz1 hz2 rfl (by decide) _ _ _ hs hown ⟨g, 0, none⟩ 1 1 [.string c] hx rfl ?_ ?_ (by unfold maxLen; omega) (by omega) hbase ?_
  · intro j u' hj
    match j, hj with
    | 0, hj => simp at hj; subst hj; simpa [Addr.add] using hc0
    | j + 1, hj => simp at hj
  · intro u' hu'
    simp at hu'
    subst hu'
    rfl
  · intro v' w' hown' hgrow _
    rw [show zs.map Value.string ++ [.string c] = (zs ++ [c]).map Value.string by simp, show zs.length + 1 = (zs ++ [c]).length by simp] at hown'
    exact h v' w' hown' ((Below.refl _ _).grown hgrow hbase (fun j hj => (World.ownsRow.lt hown j hj).1))

theorem StrBuf.set {w : World} {base g n cap i : Nat} {us : List ByteArray} (h : StrBuf w base (.slice (some ⟨g, 0, none⟩) n cap) us) (hi : i < us.length) (z : ByteArray) : StrBuf (w.setCell ⟨g, i, none⟩ (.string z)) base (.slice (some ⟨g, 0, none⟩) n cap) (us.set i z) := by
  refine ⟨by simp, ?_⟩
  rcases h.2 with ⟨e, _⟩ | ⟨g', cap', cur, e, hg, hgg, hn, hm, hs, ht⟩
  · cases e
  · simp at e
    obtain ⟨rfl, rfl, rfl⟩ := e
    refine .inr ⟨g, cap, cur.setIfInBounds i (.string z), by simp, hg, block_setCell hgg _, by simpa using hn, hm, by simpa using hs, ?_⟩
    rw [List.length_set, Array.toList_setIfInBounds, List.take_set, ht, List.map_set]
theorem StrBuf.free {w : World} {base g n cap : Nat} {us : List ByteArray} (h : StrBuf w base (.slice (some ⟨g, 0, none⟩) n cap) us) (i : Nat) : w.frozen? ⟨g, i, none⟩ = false := by
  rcases h.2 with ⟨e, _⟩ | ⟨g', cap', cur, e, hg, hgg, _⟩
  · cases e
  · simp at e
    obtain ⟨rfl, rfl, rfl⟩ := e
    exact unfrozen_of_block hgg i
theorem StrBuf.get {w : World} {base g n cap : Nat} {us : List ByteArray} (h : StrBuf w base (.slice (some ⟨g, 0, none⟩) n cap) us) (i : Nat) (hi : i < us.length) : w.cell? ⟨g, i, none⟩ = some (.string us[i]) := by
  have e : n = us.length := by
    obtain ⟨a, c, e⟩ := h.slice
    simp at e
    exact e.2.1
  subst e
  rw [World.ownsRow.cellAt h i (by omega)]
  simp [hi]
theorem StrBuf.touch {B E base : Nat} {w w' : World} {v : Value} {zs : List ByteArray} (h : StrBuf w base v zs) (ht : Touch B E w w') (hE : E ≤ base) : StrBuf w' base v zs := by
  refine ⟨h.1, ?_⟩
  rcases h.2 with h' | ⟨g, cap, cur, e, hg, hgg, r⟩
  · exact .inl h'
  · exact .inr ⟨g, cap, cur, e, hg, by rw [ht.2 g (by omega) (Array.getElem?_eq_some_iff.1 hgg).1]; exact hgg, r⟩
theorem StrBuf.opened {w : World} {base n cap : Nat} {a : Option Addr} {zs : List ByteArray} (h : StrBuf w base (.slice a n cap) zs) (h0 : 0 < zs.length) : ∃ g, a = some ⟨g, 0, none⟩ ∧ base ≤ g ∧ g < w.heap.size := by
  rcases h.2 with ⟨h', _⟩ | ⟨g, cap', cur, e, hg, hgg, r⟩
  · omega
  · injection e with e1 _ _
    exact ⟨g, e1, hg, (Array.getElem?_eq_some_iff.1 hgg).1⟩

/-- the text of mark k -/
def mkS (k : Nat) : ByteArray := ⟨(109 :: Lib.decDigits k).toArray⟩
theorem decS_small {n : Nat} (h : n < 10) : Lib.decDigits n = [UInt8.ofNat (48 + n)] := by
  rw [Lib.decDigits, dif_pos h]
theorem decS_great {n : Nat} (h : ¬ n < 10) : Lib.decDigits n = Lib.decDigits (n / 10) ++ [UInt8.ofNat (48 + n % 10)] := by
  rw [Lib.decDigits, dif_neg h]
/-- so far: what is left, and the digits made -/
def MarkS (k n : Nat) (o : ByteArray) : Prop := (n = 0 → o.data.toList = Lib.decDigits k) ∧ (0 < n → Lib.decDigits n ++ o.data.toList = Lib.decDigits k)
theorem MarkS.next {k n : Nat} {o : ByteArray} (h : MarkS k n o) (h0 : 0 < n) : MarkS k (n / 10) (⟨#[UInt8.ofNat (48 + n % 10)]⟩ ++ o) := by
  have h1 := h.2 h0
  have e : (⟨#[UInt8.ofNat (48 + n % 10)]⟩ ++ o : ByteArray).data.toList = UInt8.ofNat (48 + n % 10) :: o.data.toList := by simp
  by_cases h10 : n < 10
  · have hd : Lib.decDigits n = [UInt8.ofNat (48 + n % 10)] := by rw [decS_small h10, Nat.mod_eq_of_lt h10]
    refine ⟨fun _ => ?_, fun h => by omega⟩
    rw [e, ← h1, hd]; rfl
  · have hd := decS_great h10
    refine ⟨fun h => by omega, fun _ => ?_⟩
    rw [e, ← h1, hd, List.append_assoc]; rfl
theorem MarkS.done {k : Nat} {o : ByteArray} (h : MarkS k 0 o) : (⟨#[109]⟩ ++ o : ByteArray) = mkS k := by
  have := h.1 rfl
  unfold mkS
  rw [← this]
  apply ByteArray.ext
  simp
theorem ret_st {a b : ByteArray} (h : a = b) : Ending.returned (.string a) = .returned (.string b) := by rw [h]

/-- the marks from 1 on -/
def marksS (n : Nat) : List ByteArray := (List.range n).map fun i : Nat => mkS (1 + (i : Int)).toNat
theorem marksS_len (n : Nat) : (marksS n).length = n := by simp [marksS]
theorem marksS_get (n i : Nat) (h : i < (marksS n).length) : (marksS n)[i] = mkS (1 + (i : Int)).toNat := by simp [marksS]
def mixS (zs : List ByteArray) (k : Nat) : List ByteArray := marksS k ++ zs.drop k
theorem mixS_len (zs : List ByteArray) (k : Nat) (h : k ≤ zs.length) : (mixS zs k).length = zs.length := by
  unfold mixS; rw [List.length_append, marksS_len, List.length_drop]; omega
theorem mixS_zero (zs : List ByteArray) : mixS zs 0 = zs := by simp [mixS, marksS]
theorem mixS_all (zs : List ByteArray) : mixS zs zs.length = marksS zs.length := by simp [mixS]
theorem mixS_set (zs : List ByteArray) (k : Nat) (h : k < zs.length) : (mixS zs k).set k (mkS (1 + (k : Int)).toNat) = mixS zs (k + 1) := by
  unfold mixS
  rw [List.set_append_right _ _ (by rw [marksS_len]; omega), marksS_len, Nat.sub_self, List.drop_eq_getElem_cons h, List.set_cons_zero]
  simp [marksS, List.range_succ]

theorem MadR.lat {w w' : World} {L : Lay} {ns : List TN} {B E : Nat} (h : MadR w L ns B E) (hE : E ≤ w.heap.size) (hb : Below w.heap.size w w') : MadR w' L ns B E := by
  obtain ⟨g, e, h1, h2, h3⟩ := h.row
  refine ⟨⟨g, e, h1, h2, h3.same (hb.block g (by omega))⟩, h.nodes.later hb, fun i hi => ?_⟩
  obtain ⟨g1, g2, a, a1, a2, a3, b, b1, b2, b3⟩ := h.parts i hi
  exact ⟨g1, g2, a, a1, a2, a3.later hb, b, b1, b2, b3.later hb⟩


end Go.Proofs.YtoehpjignngjlaaDoor
