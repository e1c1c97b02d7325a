/- Texts between quotes, the code's side: 'impl.readQuoted' answers 'rqP', 'impl.quotable' answers 'plainB'. -/
import Derived.Test.YtbipgmikgokfpaaDoorLexL
import Derived.OwnWalk
import Derived.Lib.BufferRead
namespace Go.Proofs.YtbipgmikgokfpaaDoor
open Go.RowKit
set_option linter.unusedVariables false

theorem infoByte : (Tryd.prog.info? 5).map (fun i => (i.zero, i.size, i.bytes)) = some (some (.int .u8 0), 1, 1) := by kernel_rfl

theorem own_slice {w : World} {base : Nat} {v : Value} {n : Nat} {xs : List Value} {e size : Nat} (h : w.ownsRow base e size v n xs) : ∃ a cap, v = .slice a n cap := by
  rcases h.2 with ⟨rfl, rfl⟩ | ⟨g, cap, cur, rfl, _⟩
  · exact ⟨none, 0, rfl⟩
  · exact ⟨_, _, rfl⟩
theorem conv_own {w : World} {base : Nat} {v : Value} (t : List UInt8) (h : w.ownsRow base 5 1 v t.length (Lib.byteCells t)) : (convert 22 9 v).run Tryd.prog w = .ok (.string ⟨t.toArray⟩) w := by
  rcases h.2 with ⟨rfl, h0⟩ | ⟨g, cap, cur, rfl, _⟩
  · have : t = [] := List.eq_nil_of_length_eq_zero h0
    subst this
    exact Lib.run_convert_nil_bytes w 22 9 5 0 Tryd.underlying22 Tryd.underlying5 Tryd.underlying9
  · exact run_convert_bytes_back (P := Tryd.prog) w 22 9 5 ⟨g, 0, none⟩ cap t Tryd.underlying22 Tryd.underlying5 Tryd.underlying9 (fun j hj => h.cells (g := g) rfl j _ (by simp [Lib.byteCells, hj]))
theorem cells_snoc (t : List UInt8) (c : UInt8) : Lib.byteCells t ++ [Value.int .u8 (c.toNat : Int)] = Lib.byteCells (t ++ [c]) := by simp [Lib.byteCells]

theorem drop_at (u : ByteArray) (k : Nat) (h : k < u.size) : u.data.toList.drop k = u[k] :: u.data.toList.drop (k + 1) := by
  rw [List.drop_eq_getElem_cons (by rw [size_list]; exact h)]; rfl
theorem drop_end (u : ByteArray) (k : Nat) (h : u.size ≤ k) : u.data.toList.drop k = [] := List.drop_of_length_le (by rw [size_list]; exact h)
theorem byte_eq {c d : UInt8} (h : (c.toNat : Int) = (d.toNat : Int)) : c = d := UInt8.toNat_inj.1 (by omega)
theorem byte_ne {c d : UInt8} (h : ¬ (c.toNat : Int) = (d.toNat : Int)) : c ≠ d := fun e => h (by rw [e])
theorem okC_true {c : UInt8} (h0 : 32 ≤ (c.toNat : Int)) (h1 : (c.toNat : Int) ≤ 126) : okC c = true := by simp [okC]; omega
theorem okC_false {c : UInt8} (h : (c.toNat : Int) < 32 ∨ 126 < (c.toNat : Int)) : okC c = false := by simp [okC]; omega
theorem list_cons (s : ByteArray) (h : 0 < s.size) : s.data.toList = s[0] :: s.data.toList.drop 1 := by
  have := drop_at s 0 h
  simpa using this

/-- a byte that has a backslash ahead -/
def hbB (c : Int) : Bool := decide (c = 39) || decide (c = 92)
theorem hbB_true {c : UInt8} (h : hbB (c.toNat : Int) = true) : c = 39 ∨ c = 92 := by
  simp [hbB] at h
  exact h.imp (fun h => byte_eq (d := 39) h) (fun h => byte_eq (d := 92) h)
theorem hbB_false {c : UInt8} (h : hbB (c.toNat : Int) = false) : ¬ (c = 39 ∨ c = 92) := by
  rintro (rfl | rfl)
  · exact absurd h (by decide)
  · exact absurd h (by decide)

set_option maxHeartbeats 400000 in
theorem hasBackslash_any (c : Int) (w : World) :
    Calls Tryd.prog 159 #[.int .u8 c] w fun e w' => e = .returned (.bool (hbB c)) ∧ w' = w := by
  go_enter Tryd.func159, Tryd.ntmps159
  go_wp2
  all_goals
    go_ret
    refine ⟨ret_bool ?_, rfl⟩
    rw [Bool.eq_iff_iff]
    simp [hbB] <;> omega

/-- the bytes below k may be meant -/
def plainTo (s : ByteArray) (k : Nat) : Prop := ∀ i (h : i < s.size), i < k → okC s[i] = true
theorem plain_succ (s : ByteArray) (k : Nat) (hk : k < s.size) (h : plainTo s k) (hp : okC s[k] = true) : plainTo s (k + 1) := by
  intro i hi hik
  by_cases e : i = k
  · subst e; exact hp
  · exact h i hi (by omega)
theorem plain_yes (s : ByteArray) (h60 : s.size ≤ 60) (k : Nat) (hk : s.size ≤ k) (h : plainTo s k) : plainB s.data.toList = true := by
  simp only [plainB, Bool.and_eq_true, decide_eq_true_iff, List.all_eq_true]
  refine ⟨by rw [size_list]; exact h60, fun x hx => ?_⟩
  obtain ⟨i, hi, rfl⟩ := List.mem_iff_getElem.1 hx
  rw [size_list] at hi
  exact h i hi (by omega)
theorem plain_all (s : ByteArray) (k : Nat) (hk : k < s.size) (h : okC s[k] = false) : s.data.toList.all okC = false := by
  rw [List.all_eq_false]
  exact ⟨s[k], by simp [ByteArray.getElem_eq_getElem_data], by simp [h]⟩
theorem plain_no (s : ByteArray) (k : Nat) (hk : k < s.size) (h : okC s[k] = false) : plainB s.data.toList = false := by
  simp only [plainB, plain_all s k hk h, Bool.and_false]
theorem plain_long (s : ByteArray) (h : 60 < s.size) : plainB s.data.toList = false := by
  simp only [plainB, size_list, Bool.and_eq_false_iff, decide_eq_false_iff_not]
  exact .inl (by omega)

set_option maxHeartbeats 1000000 in
theorem quotable_any (s : ByteArray) (w : World) (hs : s.size ≤ maxLen) :
    Calls Tryd.prog 151 #[.string s] w fun e w' => e = .returned (.bool (plainB s.data.toList)) ∧ w' = w := by
  unfold maxLen at hs
  by_cases h60 : 60 < s.size
  · have hb := hide (plain_long s h60)
    go_enter Tryd.func151, Tryd.ntmps151
    go_wp2
    go_ret
    exact ⟨ret_bool (unhide hb).symm, rfl⟩
  go_enter Tryd.func151, Tryd.ntmps151
  go_wp2
  go_loop [9] (fun i => ∃ k : Nat, k ≤ s.size ∧ i = .int .i64 k ∧ plainTo s k) (fun i => s.size - (intOf i).toNat)
  case atStart => exact ⟨0, by omega, rfl, fun i _ hi => by omega⟩
  case round =>
    obtain ⟨k, hk, rfl, hto⟩ := hrel
    by_cases hlt : k < s.size
    · have hsuc := hide (plain_succ s k hlt hto)
      have hno := hide (plain_no s k hlt)
      clear hto
      by_cases q32 : (s[k].toNat : Int) < 32 ∨ 126 < (s[k].toNat : Int)
      · have hd := hide (unhide hno (okC_false q32))
        rcases q32 with q32 | q32
        all_goals
          go_wp2
          go_ret
          exact ⟨ret_bool (unhide hd).symm, rfl⟩
      have q1 : 32 ≤ (s[k].toNat : Int) := by omega
      have q2 : (s[k].toNat : Int) ≤ 126 := by omega
      have hd := hide (unhide hsuc (okC_true q1 q2))
      clear q32
      go_wp2
      go_round
      case rel => exact ⟨k + 1, by omega, by go_num, unhide hd⟩
      case measure => simp [intOf]; omega
    · have hy := hide (plain_yes s (by omega) k (by omega) hto)
      clear hto
      go_wp2
      go_ret
      exact ⟨ret_bool (unhide hy).symm, rfl⟩

def WAt (s : ByteArray) (k : Nat) (t : List UInt8) : Prop := scanW (s.data.toList.drop 1) = (scanW (s.data.toList.drop k)).map (fun p => (t ++ p.1, p.2))
theorem w_none {s : ByteArray} {k : Nat} {t : List UInt8} (h0 : 0 < s.size) (hc : s[0] = 39) (h : WAt s k t) (hn : scanW (s.data.toList.drop k) = none) : rqP s.data.toList = ([], 0) := by
  rw [list_cons s h0, hc]
  exact rqP_none _ (by rw [h, hn]; rfl)
theorem w_done {s : ByteArray} {k : Nat} {t : List UInt8} (h0 : 0 < s.size) (hc : s[0] = 39) (h : WAt s k t) (hk : k < s.size) (hq : s[k] = 39) : rqP s.data.toList = (t, k + 1) := by
  have e : scanW (s.data.toList.drop 1) = some (t, s.data.toList.drop (k + 1)) := by
    rw [h, drop_at s k hk, hq, scanW_end]; simp
  have hl := size_list s
  rw [list_cons s h0, hc] at hl ⊢
  rw [rqP_some _ _ _ e, hl, List.length_drop, size_list]
  congr 1
  omega
theorem w_plain {s : ByteArray} {k : Nat} {t : List UInt8} (h : WAt s k t) (hk : k < s.size) (h1 : s[k] ≠ 39) (h2 : s[k] ≠ 92) : WAt s (k + 1) (t ++ [s[k]]) := by
  unfold WAt at *
  rw [h, drop_at s k hk, scanW_plain _ _ h1 h2, Option.map_map]
  congr 1
  funext p
  simp
theorem w_esc {s : ByteArray} {k : Nat} {t : List UInt8} (h : WAt s k t) (hk : k < s.size) (hk1 : k + 1 < s.size) (h2 : s[k] = 92) (h3 : s[k + 1] = 39 ∨ s[k + 1] = 92) : WAt s (k + 2) (t ++ [s[k + 1]]) := by
  unfold WAt at *
  rw [h, drop_at s k hk, drop_at s (k + 1) hk1, h2, scanW_esc _ _ h3, Option.map_map]
  congr 1
  funext p
  simp
theorem ret_rq {t : List UInt8} {n : Int} {r : List UInt8 × Nat} (h : r = (t, n.toNat)) (hn : 0 ≤ n) : Ending.returned (.tuple #[.string ⟨t.toArray⟩, .int .i64 n]) = .returned (.tuple #[.string ⟨r.1.toArray⟩, .int .i64 (r.2 : Int)]) := by rw [h]; simp; omega

end Go.Proofs.YtbipgmikgokfpaaDoor
