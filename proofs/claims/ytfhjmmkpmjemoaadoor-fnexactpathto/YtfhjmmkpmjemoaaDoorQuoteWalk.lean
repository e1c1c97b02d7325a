/- Texts between quotes, the code's side: 'impl.readQuoted' answers 'rqP', 'impl.quotable' answers 'plainB'. -/
import Derived.Test.YtfhjmmkpmjemoaaDoorLexL
import Derived.OwnWalk
import Derived.Lib.BufferRead
namespace Go.Proofs.YtfhjmmkpmjemoaaDoor
open Go.RowKit
set_option linter.unusedVariables false

theorem infoByte : (Tryd.prog.info? 5).map (fun i => (i.zero, i.size, i.bytes)) = some (some (.int .u8 0), 1, 1) := by kernel_rfl

theorem own_slice {w : World} {base : Nat} {v : Value} {n : Nat} {xs : List Value} {e size : Nat} (h : w.ownsRow base e size v n xs) : ∃ a cap, v = .slice a n cap := by
  rcases h.2 with ⟨rfl, rfl⟩ | ⟨g, cap, cur, rfl, _⟩
  · exact ⟨none, 0, rfl⟩
  · exact ⟨_, _, rfl⟩
theorem conv_own {w : World} {base : Nat} {v : Value} (t : List UInt8) (h : w.ownsRow base 5 1 v t.length (Lib.byteCells t)) : (convert 22 9 v).run Tryd.prog w = .ok (.string ⟨t.toArray⟩) w := by
  rcases h.2 with ⟨rfl, h0⟩ | ⟨g, cap, cur, rfl, _⟩
  · have : t = [] := List.eq_nil_of_length_eq_zero h0
    subst this
    exact Lib.run_convert_nil_bytes w 22 9 5 0 Tryd.underlying22 Tryd.underlying5 Tryd.underlying9
  · exact run_convert_bytes_back (P := Tryd.prog) w 22 9 5 ⟨g, 0, none⟩ cap t Tryd.underlying22 Tryd.underlying5 Tryd.underlying9 (fun j hj => h.cells (g := g) rfl j _ (by simp [Lib.byteCells, hj]))
theorem cells_snoc (t : List UInt8) (c : UInt8) : Lib.byteCells t ++ [Value.int .u8 (c.toNat : Int)] = Lib.byteCells (t ++ [c]) := by simp [Lib.byteCells]

theorem drop_at (u : ByteArray) (k : Nat) (h : k < u.size) : u.data.toList.drop k = u[k] :: u.data.toList.drop (k + 1) := by
  rw [List.drop_eq_getElem_cons (by rw [size_list]; exact h)]; rfl
theorem drop_end (u : ByteArray) (k : Nat) (h : u.size ≤ k) : u.data.toList.drop k = [] := List.drop_of_length_le (by rw [size_list]; exact h)
theorem byte_eq {c d : UInt8} (h : (c.toNat : Int) = (d.toNat : Int)) : c = d := UInt8.toNat_inj.1 (by omega)
theorem byte_ne {c d : UInt8} (h : ¬ (c.toNat : Int) = (d.toNat : Int)) : c ≠ d := fun e => h (by rw [e])
theorem okC_true {c : UInt8} (h0 : 32 ≤ (c.toNat : Int)) (h1 : (c.toNat : Int) ≤ 126) : okC c = true := by simp [okC]; omega
theorem okC_false {c : UInt8} (h : (c.toNat : Int) < 32 ∨ 126 < (c.toNat : Int)) : okC c = false := by simp [okC]; omega
theorem list_cons (s : ByteArray) (h : 0 < s.size) : s.data.toList = s[0] :: s.data.toList.drop 1 := by
  have := drop_at s 0 h
  simpa using this

/-- a byte that has a backslash ahead -/
def hbB (c : Int) : Bool := decide (c = 39) || decide (c = 92)
theorem hbB_true {c : UInt8} (h : hbB (c.toNat : Int) = true) : c = 39 ∨ c = 92 := by
  simp [hbB] at h
  exact h.imp (fun h => byte_eq (d := 39) h) (fun h => byte_eq (d := 92) h)
theorem hbB_false {c : UInt8} (h : hbB (c.toNat : Int) = false) : ¬ (c = 39 ∨ c = 92) := by
  rintro (rfl | rfl)
  · exact absurd h (by decide)
  · exact absurd h (by decide)

set_option maxHeartbeats 400000 in
theorem hasBackslash_any (c : Int) (w : World) :
    Calls Tryd.prog 160 #[.int .u8 c] w fun e w' => e = .returned (.bool (hbB c)) ∧ w' = w := by
  go_enter Tryd.func160, Tryd.ntmps160
  go_wp2
  all_goals
    go_ret
    refine ⟨ret_bool ?_, rfl⟩
    rw [Bool.eq_iff_iff]
    simp [hbB] <;> omega

/-- the bytes below k may be meant -/
def plainTo (s : ByteArray) (k : Nat) : Prop := ∀ i (h : i < s.size), i < k → okC s[i] = true
theorem plain_succ (s : ByteArray) (k : Nat) (hk : k < s.size) (h : plainTo s k) (hp : okC s[k] = true) : plainTo s (k + 1) := by
  intro i hi hik
  by_cases e : i = k
  · subst e; exact hp
  · exact h i hi (by omega)
theorem plain_yes (s : ByteArray) (h60 : s.size ≤ 60) (k : Nat) (hk : s.size ≤ k) (h : plainTo s k) : plainB s.data.toList = true := by
  simp only [plainB, Bool.and_eq_true, decide_eq_true_iff, List.all_eq_true]
  refine ⟨by rw [size_list]; exact h60, fun x hx => ?_⟩
  obtain ⟨i, hi, rfl⟩ := List.mem_iff_getElem.1 hx
  rw [size_list] at hi
  exact h i hi (by omega)
theorem plain_all (s : ByteArray) (k : Nat) (hk : k < s.size) (h : okC s[k] = false) : s.data.toList.all okC = false := by
  rw [List.all_eq_false]
  exact ⟨s[k], by simp [ByteArray.getElem_eq_getElem_data], by simp [h]⟩
theorem plain_no (s : ByteArray) (k : Nat) (hk : k < s.size) (h : okC s[k] = false) : plainB s.data.toList = false := by
  simp only [plainB, plain_all s k hk h, Bool.and_false]
theorem plain_long (s : ByteArray) (h : 60 < s.size) : plainB s.data.toList = false := by
  simp only [plainB, size_list, Bool.and_eq_false_iff, decide_eq_false_iff_not]
  exact .inl (by omega)

set_option maxHeartbeats 1000000 in
theorem quotable_any (s : ByteArray) (w : World) (hs : s.size ≤ maxLen) :
    Calls Tryd.prog 118 #[.string s] w fun e w' => e = .returned (.bool (plainB s.data.toList)) ∧ w' = w := by
  unfold maxLen at hs
  by_cases h60 : 60 < s.size
  · have hb := hide (plain_long s h60)
    go_enter Tryd.func118, Tryd.ntmps118
    go_wp2
    go_ret
    exact ⟨ret_bool (unhide hb).symm, rfl⟩
  go_enter Tryd.func118, Tryd.ntmps118
  go_wp2
  go_loop [9] (fun i => ∃ k : Nat, k ≤ s.size ∧ i = .int .i64 k ∧ plainTo s k) (fun i => s.size - (intOf i).toNat)
  case atStart => exact ⟨0, by omega, rfl, fun i _ hi => by omega⟩
  case round =>
    obtain ⟨k, hk, rfl, hto⟩ := hrel
    by_cases hlt : k < s.size
    · have hsuc := hide (plain_succ s k hlt hto)
      have hno := hide (plain_no s k hlt)
      clear hto
      by_cases q32 : (s[k].toNat : Int) < 32 ∨ 126 < (s[k].toNat : Int)
      · have hd := hide (unhide hno (okC_false q32))
        rcases q32 with q32 | q32
        all_goals
          go_wp2
          go_ret
          exact ⟨ret_bool (unhide hd).symm, rfl⟩
      have q1 : 32 ≤ (s[k].toNat : Int) := by omega
      have q2 : (s[k].toNat : Int) ≤ 126 := by omega
      have hd := hide (unhide hsuc (okC_true q1 q2))
      clear q32
      go_wp2
      go_round
      case rel => exact ⟨k + 1, by omega, by go_num, unhide hd⟩
      case measure => simp [intOf]; omega
    · have hy := hide (plain_yes s (by omega) k (by omega) hto)
      clear hto
      go_wp2
      go_ret
      exact ⟨ret_bool (unhide hy).symm, rfl⟩

def WAt (s : ByteArray) (k : Nat) (t : List UInt8) : Prop := scanW (s.data.toList.drop 1) = (scanW (s.data.toList.drop k)).map (fun p => (t ++ p.1, p.2))
theorem w_none {s : ByteArray} {k : Nat} {t : List UInt8} (h0 : 0 < s.size) (hc : s[0] = 39) (h : WAt s k t) (hn : scanW (s.data.toList.drop k) = none) : rqP s.data.toList = ([], 0) := by
  rw [list_cons s h0, hc]
  exact rqP_none _ (by rw [h, hn]; rfl)
theorem w_done {s : ByteArray} {k : Nat} {t : List UInt8} (h0 : 0 < s.size) (hc : s[0] = 39) (h : WAt s k t) (hk : k < s.size) (hq : s[k] = 39) : rqP s.data.toList = (t, k + 1) := by
  have e : scanW (s.data.toList.drop 1) = some (t, s.data.toList.drop (k + 1)) := by
    rw [h, drop_at s k hk, hq, scanW_end]; simp
  have hl := size_list s
  rw [list_cons s h0, hc] at hl ⊢
  rw [rqP_some _ _ _ e, hl, List.length_drop, size_list]
  congr 1
  omega
theorem w_plain {s : ByteArray} {k : Nat} {t : List UInt8} (h : WAt s k t) (hk : k < s.size) (h1 : s[k] ≠ 39) (h2 : s[k] ≠ 92) : WAt s (k + 1) (t ++ [s[k]]) := by
  unfold WAt at *
  rw [h, drop_at s k hk, scanW_plain _ _ h1 h2, Option.map_map]
  congr 1
  funext p
  simp
theorem w_esc {s : ByteArray} {k : Nat} {t : List UInt8} (h : WAt s k t) (hk : k < s.size) (hk1 : k + 1 < s.size) (h2 : s[k] = 92) (h3 : s[k + 1] = 39 ∨ s[k + 1] = 92) : WAt s (k + 2) (t ++ [s[k + 1]]) := by
  unfold WAt at *
  rw [h, drop_at s k hk, drop_at s (k + 1) hk1, h2, scanW_esc _ _ h3, Option.map_map]
  congr 1
  funext p
  simp
theorem ret_rq {t : List UInt8} {n : Int} {r : List UInt8 × Nat} (h : r = (t, n.toNat)) (hn : 0 ≤ n) : Ending.returned (.tuple #[.string ⟨t.toArray⟩, .int .i64 n]) = .returned (.tuple #[.string ⟨r.1.toArray⟩, .int .i64 (r.2 : Int)]) := by rw [h]; simp; omega

theorem readQuoted_empty (s : ByteArray) (w : World) (h : s.size = 0) :
    Calls Tryd.prog 114 #[.string s] w fun e w' => e = .returned (.tuple #[.string ⟨#[]⟩, .int .i64 0]) ∧ w' = w := by
  have e0 : ((s.size : Int) == 0) = true := by rw [h]; rfl
  clear h
  go_enter Tryd.func114, Tryd.ntmps114
  go_wp2
  go_ret2
  exact ⟨rfl, rfl⟩

theorem readQuoted_first (s : ByteArray) (w : World) (hs : s.size ≤ 65536) (h : 0 < s.size) (h0 : ((s[0].toNat : Int) != 39) = true) :
    Calls Tryd.prog 114 #[.string s] w fun e w' => e = .returned (.tuple #[.string ⟨#[]⟩, .int .i64 0]) ∧ w' = w := by
  have e0 : ((s.size : Int) == 0) = false := beq_eq_false_iff_ne.2 (by omega)
  go_enter Tryd.func114, Tryd.ntmps114
  go_wp2
  go_ret2
  exact ⟨rfl, rfl⟩

set_option maxHeartbeats 4000000 in
set_option maxRecDepth 100000 in
theorem readQuoted_loop (s : ByteArray) (w : World) (hs : s.size ≤ 65536) (hp : 0 < s.size) (h0 : ((s[0].toNat : Int) != 39) = false) :
    Calls Tryd.prog 114 #[.string s] w fun e w' => e = .returned (.tuple #[.string ⟨(rqP s.data.toList).1.toArray⟩, .int .i64 ((rqP s.data.toList).2 : Int)]) ∧ Below w.heap.size w w' := by
  obtain ⟨i0, hi, hz0, hz1, hz2⟩ := info_parts infoByte
  have e0 : ((s.size : Int) == 0) = false := beq_eq_false_iff_ne.2 (by omega)
  have hc0 : Hid (s[0] = 39) := hide (byte_eq (d := 39) (by simpa using h0))
  obtain ⟨r, hr⟩ : ∃ r, r = rqP s.data.toList := ⟨_, rfl⟩
  rw [← hr]
  have HR := hide hr
  clear hr
  go_enter Tryd.func114, Tryd.ntmps114
  go_wp2
  go_loopw [4, 5] (fun m i wx => ∃ (k : Nat) (t : List UInt8), 1 ≤ k ∧ k ≤ s.size ∧ i = .int .i64 k ∧ t.length < k ∧ Hid (WAt s k t) ∧ wx.ownsRow w.heap.size 5 1 m t.length (Lib.byteCells t) ∧ Below w.heap.size w wx) (fun _ i _ => s.size - (intOf i).toNat)
  case atStart => exact ⟨1, [], by omega, by omega, rfl, by simp, hide (by unfold WAt; simp), World.ownsRow_nil _ _ _ _, Below.refl _ _⟩
  case round =>
    clear h0
    obtain ⟨k, t, hk1, hk, rfl, ht, hin, hown, hnx⟩ := hrel
    obtain ⟨ma, mcap, rfl⟩ := own_slice hown
    by_cases hlt : k < s.size
    · by_cases q39 : (s[k].toNat : Int) = 39
      · have e39 : ((s[k].toNat : Int) == 39) = true := by rw [q39]; rfl
        have hd := hide (w_done hp (unhide hc0) (unhide hin) hlt (byte_eq (d := 39) q39))
        have hcv := conv_own t hown
        clear q39
        go_wp2
        go_ret2
        exact ⟨ret_rq ((unhide HR).trans (by rw [unhide hd]; simp)) (by omega), hnx⟩
      have e39 : ((s[k].toNat : Int) == 39) = false := beq_eq_false_iff_ne.2 q39
      by_cases q92 : (s[k].toNat : Int) = 92
      · have e92 : ((s[k].toNat : Int) == 92) = true := by rw [q92]; rfl
        have b92 := hide (byte_eq (d := 92) q92)
        by_cases hend : k + 1 = s.size
        · have ee : (((k : Int) + 1) == (s.size : Int)) = true := by simp; omega
          have hd := hide (w_none hp (unhide hc0) (unhide hin) (by rw [drop_at s k hlt, unhide b92, drop_end s (k + 1) (by omega)]; exact scanW_esc0))
          clear q92 q39 hend
          go_wp2
          go_ret2
          exact ⟨ret_rq ((unhide HR).trans (unhide hd)) (by omega), hnx⟩
        have hlt1 : k + 1 < s.size := by omega
        have hlt1' : (k : Int) + 1 < (s.size : Int) := by omega
        have ee : (((k : Int) + 1) == (s.size : Int)) = false := beq_eq_false_iff_ne.2 (by omega)
        cases hB : hbB (s[k + 1].toNat : Int)
        · have hd := hide (w_none hp (unhide hc0) (unhide hin) (by rw [drop_at s k hlt, unhide b92, drop_at s (k + 1) hlt1]; exact scanW_escbad _ _ (hbB_false hB)))
          clear q92 q39 hend
          go_wp2_with (go_at_call 160; refine (hasBackslash_any _ _).mono ?_; rintro e w' ⟨rfl, rfl⟩)
          go_ret2
          exact ⟨ret_rq ((unhide HR).trans (unhide hd)) (by omega), hnx⟩
        · have hin2 := hide (w_esc (unhide hin) hlt hlt1 (unhide b92) (hbB_true hB))
          clear q92 q39 hend
          go_wp2_with (first | (go_at_call 160; refine (hasBackslash_any _ _).mono ?_; rintro e wr ⟨rfl, rfl⟩) | (at_builtin; refine wpList_append_own _ rfl _ _ 22 rfl w.heap.size 5 i0 (.int .u8 0) 1 1 Tryd.underlying22 hi hz0 hz1 hz2 rfl (by decide) _ _ _ rfl (hown.alloc _) ⟨wr.heap.size, 0, none⟩ 1 1 [Value.int .u8 (s[k + 1].toNat : Int)] rfl rfl ?c1 ?c2 ?c3 ?c4 ?c5 ?c6))
          case c1 =>
            intro j u' hj
            match j, hj with
            | 0, hj => simp at hj; subst hj; simp [Addr.add]
          case c2 => intro u' hu'; simp at hu'; subst hu'; rfl
          case c3 => unfold maxLen; omega
          case c4 => omega
          case c5 => have := hnx.size; simp; omega
          case c6 =>
            intro v' w1 hown' hgrow _
            have hnx1 : Below w.heap.size w w1 := (hnx.alloc (by have := hnx.size; omega) _).grown hgrow (by have := hnx.size; simp; omega) (fun j hj => (hown.lt j hj).1)
            rw [cells_snoc, show t.length + 1 = (t ++ [s[k + 1]]).length by simp] at hown'
            have HO := hide hown'
            clear hown' hgrow hown
            go_wp2
            go_roundw
            case rel => exact ⟨k + 2, t ++ [s[k + 1]], by omega, by omega, by go_num, by simp; omega, hide (unhide hin2), unhide HO, hnx1⟩
            case measure => simp [intOf]; omega
      · have e92 : ((s[k].toNat : Int) == 92) = false := beq_eq_false_iff_ne.2 q92
        have hin2 := hide (w_plain (unhide hin) hlt (byte_ne (d := 39) q39) (byte_ne (d := 92) q92))
        clear q92 q39
        go_wp2_with (first | (go_at_call 160; refine (hasBackslash_any _ _).mono ?_; rintro e wr ⟨rfl, rfl⟩) | (at_builtin; refine wpList_append_own _ rfl _ _ 22 rfl w.heap.size 5 i0 (.int .u8 0) 1 1 Tryd.underlying22 hi hz0 hz1 hz2 rfl (by decide) _ _ _ rfl (hown.alloc _) ⟨wr.heap.size, 0, none⟩ 1 1 [Value.int .u8 (s[k].toNat : Int)] rfl rfl ?c1 ?c2 ?c3 ?c4 ?c5 ?c6))
        case c1 =>
          intro j u' hj
          match j, hj with
          | 0, hj => simp at hj; subst hj; simp [Addr.add]
        case c2 => intro u' hu'; simp at hu'; subst hu'; rfl
        case c3 => unfold maxLen; omega
        case c4 => omega
        case c5 => have := hnx.size; simp; omega
        case c6 =>
          intro v' w1 hown' hgrow _
          have hnx1 : Below w.heap.size w w1 := (hnx.alloc (by have := hnx.size; omega) _).grown hgrow (by have := hnx.size; simp; omega) (fun j hj => (hown.lt j hj).1)
          rw [cells_snoc, show t.length + 1 = (t ++ [s[k]]).length by simp] at hown'
          have HO := hide hown'
          clear hown' hgrow hown
          go_wp2
          go_roundw
          case rel => exact ⟨k + 1, t ++ [s[k]], by omega, by omega, by go_num, by simp; omega, hide (unhide hin2), unhide HO, hnx1⟩
          case measure => simp [intOf]; omega
    · have hd := hide (w_none hp (unhide hc0) (unhide hin) (by rw [drop_end s k (by omega)]; rfl))
      go_wp2
      go_ret2
      exact ⟨ret_rq ((unhide HR).trans (unhide hd)) (by omega), hnx⟩

theorem readQuoted_any (s : ByteArray) (w : World) (hs : s.size ≤ 65536) :
    Calls Tryd.prog 114 #[.string s] w fun e w' => e = .returned (.tuple #[.string ⟨(rqP s.data.toList).1.toArray⟩, .int .i64 ((rqP s.data.toList).2 : Int)]) ∧ Below w.heap.size w w' := by
  by_cases hp : s.size = 0
  · have hn : s.data.toList = [] := List.eq_nil_of_length_eq_zero (by rw [size_list]; exact hp)
    rw [hn]
    exact (readQuoted_empty s w hp).mono fun e w' h => ⟨h.1, h.2 ▸ Below.refl _ _⟩
  have hp : 0 < s.size := by omega
  by_cases h0 : (s[0].toNat : Int) = 39
  · exact readQuoted_loop s w hs hp (by rw [h0]; rfl)
  · rw [list_cons s hp, rqP_other _ _ (byte_ne (d := 39) h0)]
    exact (readQuoted_first s w hs hp (by rw [bne_iff_ne]; exact h0)).mono fun e w' h => ⟨h.1, h.2 ▸ Below.refl _ _⟩

end Go.Proofs.YtfhjmmkpmjemoaaDoor
