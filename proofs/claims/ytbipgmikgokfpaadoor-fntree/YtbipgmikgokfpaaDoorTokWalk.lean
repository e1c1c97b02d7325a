/- What is a token, and how it is written: code and specification both answer 'tokB' and 'tokT'. -/
import Derived.Test.YtbipgmikgokfpaaDoorQText
import Derived.Test.YtbipgmikgokfpaaDoorWordWalk
import Derived.Test.YtbipgmikgokfpaaDoorLexN
namespace Go.Proofs.YtbipgmikgokfpaaDoor
open Go.RowKit
set_option linter.unusedVariables false

theorem eta_bytes (s : ByteArray) : (⟨s.data.toList.toArray⟩ : ByteArray) = s := rfl
theorem tokB_1 (l : List UInt8) : tokB 1 l = (decide (l.length ≤ 20) && nameL l && !wordB l) := rfl
theorem tokB_2 (l : List UInt8) : tokB 2 l = wordB l := rfl
theorem tokB_3 (l : List UInt8) : tokB 3 l = ((digP l).2 && decide ((digP l).1 ≤ 2147483647)) := rfl
theorem tokB_4 (l : List UInt8) : tokB 4 l = plainB l := rfl
theorem tokB_5 (l : List UInt8) : tokB 5 l = signB l := rfl
theorem tokB_other (k : Int) (l : List UInt8) (h : ¬ (1 ≤ k ∧ k ≤ 5)) : tokB k l = false := by
  unfold tokB
  rw [if_neg (by omega), if_neg (by omega), if_neg (by omega), if_neg (by omega), if_neg (by omega)]
theorem nameL_eta (s : ByteArray) : nameL s.data.toList = nameB s := rfl
theorem signB_len {l : List UInt8} (h : signB l = true) : l.length ≤ 2 := by
  simp [signB, srcSigns] at h
  rcases h with h | h | h | h | h | h | h | h | h | h | h | h | h | h | h | h | h <;> subst h <;> decide
theorem tokB_len {k : Int} {l : List UInt8} (h : tokB k l = true) : l.length ≤ 60 := by
  by_cases hk : 1 ≤ k ∧ k ≤ 5
  · obtain rfl | rfl | rfl | rfl | rfl : k = 1 ∨ k = 2 ∨ k = 3 ∨ k = 4 ∨ k = 5 := by omega
    · rw [tokB_1] at h; simp at h; omega
    · have := wordB_len (tokB_2 l ▸ h); omega
    · rw [tokB_3] at h; simp at h; have := (digP_parts h.1).2.1; omega
    · rw [tokB_4, plainB] at h; simp at h; omega
    · have := signB_len (tokB_5 l ▸ h); omega
  · rw [tokB_other k l hk] at h; cases h
theorem quoteL_len (l : List UInt8) : (quoteL l).length ≤ 2 * l.length + 2 := by
  have : ∀ l : List UInt8, (l.flatMap escC).length ≤ 2 * l.length := by
    intro l
    induction l with
    | nil => simp
    | cons c l ih =>
      rw [List.flatMap_cons, List.length_append]
      have : (escC c).length ≤ 2 := by unfold escC; split <;> simp
      rw [List.length_cons]; omega
  have := this l
  unfold quoteL
  simp only [List.length_cons, List.length_append, List.length_nil]; omega
theorem tokT_len {k : Int} {l : List UInt8} (h : tokB k l = true) : (tokT k l).length ≤ 122 := by
  have h1 := tokB_len h
  unfold tokT
  split
  · have := quoteL_len l; omega
  · omega

set_option maxHeartbeats 400000 in
theorem identOK_any (s : ByteArray) (w : World) (hs : s.size ≤ maxLen) (ht : Hid (TabAt w 0 srcWords)) :
    Calls Tryd.prog 154 #[.string s] w fun e w' => e = .returned (.bool (tokB 1 s.data.toList)) ∧ w' = w := by
  rw [tokB_1, nameL_eta, size_list]
  by_cases h20 : s.size ≤ 20
  · cases hn : nameB s
    · go_enter Tryd.func154, Tryd.ntmps154
      go_wp2_with (go_at_call 171; refine (NameOK_any _ _ hs).mono ?_; rintro e wr ⟨rfl, rfl⟩)
      go_ret
      exact ⟨ret_bool (by simp), rfl⟩
    · cases hw : wordB s.data.toList
      all_goals
        go_enter Tryd.func154, Tryd.ntmps154
        go_wp2_with fail
        refine (NameOK_any _ _ hs).mono ?_
        rintro e w ⟨rfl, rfl⟩
        rw [hn]
        go_wp2_with fail
        refine (WordOK_any _ _ ht).mono ?_
        rintro e w ⟨rfl, rfl⟩
        rw [hw]
        go_wp2
        go_ret
        exact ⟨ret_bool (by simp [h20]), rfl⟩
  · have hb : decide (s.size ≤ 20) = false := by simp; omega
    rw [hb]
    go_enter Tryd.func154, Tryd.ntmps154
    go_wp2
    go_ret
    exact ⟨ret_bool (by simp), rfl⟩

theorem strC (s : ByteArray) : Lib.strCells s = Lib.byteCells s.data.toList := by
  simp [Lib.strCells, Lib.byteCells]

theorem wp_appS (w : World) {ops : Array Oper} {rest : List Oper} {o : Oper} {a : Act} {Q : Exit → Act → World → Prop} (hgd : o.guard = none) (sl x : Operand)
    (ho : o.op = .call { callee := .builtin .append, args := #[sl, x], argTypes := #[22, 9] }) (base : Nat) (v : Value) (t : List UInt8) (s : ByteArray) (hs : a.eval sl = v)
    (hown : Buf w base v t) (hx : a.eval x = .string s) (hbase : base ≤ w.heap.size) (hl : t.length + s.size ≤ 1000000000)
    (h : ∀ v' w', Buf w' base v' (t ++ s.data.toList) → Below base w w' → wpList Tryd.prog ops Q rest (a.put o.dst v') w') : wpList Tryd.prog ops Q (o :: rest) a w := by
  obtain ⟨i0, hi, hz0, hz1, hz2⟩ := info_parts infoByte
  refine Lib.wpList_append_own_string _ hgd sl x 22 9 ho base 5 i0 Tryd.underlying22 Tryd.underlying9 hi hz0 hz1 hz2 v t.length (Lib.byteCells t) hs hown s hx (by unfold maxLen; omega) (by omega) hbase ?_
  intro v' w' hown' hgrow _
  refine h v' w' ?_ ((Below.refl _ _).grown hgrow hbase (fun j hj => (World.ownsRow.lt hown j hj).1))
  rw [strC] at hown'
  have e : (t ++ s.data.toList).length = t.length + s.size := by rw [List.length_append, size_list]
  unfold Buf
  rw [e]
  simpa [Lib.byteCells] using hown'

/-- how a token is written, and a code -/
def tokR (k : Int) (l : List UInt8) : List UInt8 × Int := if tokB k l = true then (tokT k l, 0) else ([], 1)

end Go.Proofs.YtbipgmikgokfpaaDoor
