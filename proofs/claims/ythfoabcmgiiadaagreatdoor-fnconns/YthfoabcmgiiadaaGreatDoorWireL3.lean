/- What a request is read as, branch by branch. -/
import Derived.Test.YthfoabcmgiiadaaGreatDoorWireL2
namespace Go.Proofs.YthfoabcmgiiadaaGreatDoor
set_option linter.unusedVariables false

theorem reqR_long {s : ByteArray} (h : 65536 < s.size) : reqR s = RR.bad 2 := if_pos h
theorem reqR_over {s : ByteArray} (h : s.size ≤ 65536) (hi : Lib.indexB s crlf2S = -1) (h1 : 120 < s.size) : reqR s = RR.bad 2 := by
  unfold reqR; rw [if_neg (by omega), if_pos hi, if_pos h1]
theorem reqR_more {s : ByteArray} (h : s.size ≤ 65536) (hi : Lib.indexB s crlf2S = -1) (h1 : s.size ≤ 120) : reqR s = RR.bad 18 := by
  unfold reqR; rw [if_neg (by omega), if_pos hi, if_neg (by omega)]
theorem reqR_far {s : ByteArray} {k : Nat} (h : s.size ≤ 65536) (hi : Lib.indexB s crlf2S = k) (h1 : 116 < k) : reqR s = RR.bad 2 := by
  unfold reqR; rw [if_neg (by omega), if_neg (by omega), if_pos (by omega)]
theorem reqR_first {s : ByteArray} {k : Nat} {l : ByteArray} {r : List ByteArray} (h : s.size ≤ 65536) (hi : Lib.indexB s crlf2S = k) (h1 : k ≤ 116) (hl : linesOf s = l :: r) {c : Int} (hc : fstC l = c) (h0 : c ≠ 0) : reqR s = RR.bad c := by
  unfold reqR; rw [if_neg (by omega), if_neg (by omega), if_neg (by omega), hl]
  dsimp only
  rw [if_pos (by rw [hc]; exact h0), hc]
theorem reqR_line {s : ByteArray} {k : Nat} {l : ByteArray} {r : List ByteArray} (h : s.size ≤ 65536) (hi : Lib.indexB s crlf2S = k) (h1 : k ≤ 116) (hl : linesOf s = l :: r) (hc : fstC l = 0) (h0 : HdsOk r = false) : reqR s = RR.bad 3 := by
  unfold reqR; rw [if_neg (by omega), if_neg (by omega), if_neg (by omega), hl]
  dsimp only
  rw [if_neg (by rw [hc]; simp), h0]; rfl
theorem reqR_ok {s : ByteArray} {k : Nat} {l : ByteArray} {r : List ByteArray} (h : s.size ≤ 65536) (hi : Lib.indexB s crlf2S = k) (h1 : k ≤ 116) (hl : linesOf s = l :: r) (hc : fstC l = 0) (h0 : HdsOk r = true) : reqR s = ⟨fstP l, r.any hShut, (k : Int) + 4, 0⟩ := by
  unfold reqR; rw [if_neg (by omega), if_neg (by omega), if_neg (by omega), hl]
  dsimp only
  rw [if_neg (by rw [hc]; simp), if_pos h0, hi]
theorem linesOf_is {s : ByteArray} {k : Nat} (hi : Lib.indexB s crlf2S = k) : linesOf s = pieces crlfS (s.extract 0 k) := by
  unfold linesOf headOf; rw [(cut_hit hi).1]
theorem linesOf_cons (s : ByteArray) : ∃ l r, linesOf s = l :: r := by
  have h := pieces_ne crlfS (headOf s) (by decide)
  unfold linesOf
  cases hp : pieces crlfS (headOf s) with
  | nil => exact absurd hp h
  | cons l r => exact ⟨l, r, rfl⟩

theorem fstC_other {l : ByteArray} (h : fstV l ≠ httpS) : fstC l = 3 := if_neg fun hh => h hh.2
theorem fstC_path {l : ByteArray} (h : wpathB (fstP l) = false) : fstC l = 3 := if_neg fun hh => by rw [hh.1] at h; cases h
theorem fstC_get {l : ByteArray} (h1 : wpathB (fstP l) = true) (h2 : fstV l = httpS) (h3 : fstM l ≠ getS) : fstC l = 17 := by
  unfold fstC; rw [if_pos ⟨h1, h2⟩, if_neg h3]
theorem fstC_ok {l : ByteArray} (h1 : wpathB (fstP l) = true) (h2 : fstV l = httpS) (h3 : fstM l = getS) : fstC l = 0 := by
  unfold fstC; rw [if_pos ⟨h1, h2⟩, if_pos h3]

theorem small_clen : smallS clenS = clenS := by decide
theorem small_tenc : smallS tencS = tencS := by decide
theorem small_conn : smallS connS = connS := by decide
theorem small_close : smallS closeS = closeS := by decide
/-- what a line's name and value are, as texts made small -/
theorem hOk_hit {u : ByteArray} {k : Nat} (hi : Lib.indexB u colonS = k) (hk : 1 ≤ k) (hr : k ≤ u.size) : hOk u = !(decide (smallS (u.extract 0 k) = clenS) || decide (smallS (u.extract 0 k) = tencS)) := by
  obtain ⟨h1, h2, h3⟩ := cut_hit hi
  have e : hName u = u.extract 0 k := h1
  have hz : (u.extract 0 k).size = k := by rw [ByteArray.size_extract]; omega
  unfold hOk
  rw [h3, e, alike_small, alike_small, small_clen, small_tenc, hz]
  have : decide (k = 0) = false := by simp; omega
  rw [this]
  rfl
theorem hOk_none {u : ByteArray} (hi : Lib.indexB u colonS = -1) : hOk u = false := by
  obtain ⟨h1, h2, h3⟩ := cut_miss hi
  unfold hOk
  rw [h3]; rfl
theorem hOk_zero {u : ByteArray} (hi : Lib.indexB u colonS = ((0 : Nat) : Int)) : hOk u = false := by
  obtain ⟨h1, h2, h3⟩ := cut_hit hi
  have e : hName u = u.extract 0 0 := h1
  have hz : (u.extract 0 0).size = 0 := by rw [ByteArray.size_extract]; omega
  unfold hOk
  rw [h3, e, hz]; rfl
theorem hShut_hit {u : ByteArray} {k : Nat} (hi : Lib.indexB u colonS = k) : hShut u = (decide (smallS (u.extract 0 k) = connS) && decide (smallS (trimS' (u.extract (k + 1) u.size)) = closeS)) := by
  obtain ⟨h1, h2, h3⟩ := cut_hit hi
  have e : hName u = u.extract 0 k := h1
  have e2 : cutB u colonS = u.extract (k + 1) u.size := h2
  unfold hShut
  rw [e, hVal_is, e2, alike_small, alike_small, small_conn, small_close]

theorem hds_take {r : List ByteArray} {j : Nat} (h : HdsOk (r.take j) = true) (hj : j < r.length) (hk : hOk r[j] = true) : HdsOk (r.take (j + 1)) = true := by
  unfold HdsOk at *
  rw [List.take_succ_eq_append_getElem hj, List.all_append, h]
  simp [hk]
theorem hds_no {r : List ByteArray} {j : Nat} (hj : j < r.length) (hk : hOk r[j] = false) : HdsOk r = false := by
  unfold HdsOk
  rw [List.all_eq_false]
  exact ⟨r[j], List.getElem_mem hj, by rw [hk]; simp⟩
theorem hds_end {r : List ByteArray} {j : Nat} (h : HdsOk (r.take j) = true) (hj : r.length ≤ j) : HdsOk r = true := by
  rwa [List.take_of_length_le hj] at h
theorem shut_take {r : List ByteArray} {j : Nat} (hj : j < r.length) : (r.take (j + 1)).any hShut = ((r.take j).any hShut || hShut r[j]) := by
  rw [List.take_succ_eq_append_getElem hj, List.any_append]; simp
theorem shut_end {r : List ByteArray} {j : Nat} (hj : r.length ≤ j) : (r.take j).any hShut = r.any hShut := by rw [List.take_of_length_le hj]

/-- a text against a written one, in the forms of a walk -/
theorem txt_no {N : ByteArray} {L : List UInt8} (h : N ≠ ⟨L.toArray⟩) : ¬ N.toList = L ∧ (N.toList == L) = false ∧ (N.toList != L) = true ∧ (N == ⟨L.toArray⟩) = false ∧ (N != ⟨L.toArray⟩) = true := by
  have hl : ¬ N.toList = L := fun e => h (qa_list (by rw [← ByteArray.toList_eq, e]))
  refine ⟨hl, by simp [hl], by simp [bne, hl], qa_ne h, qa_nne h⟩

end Go.Proofs.YthfoabcmgiiadaaGreatDoor
