/- Buffers of bytes: one byte, or a text, is put behind. -/
import Derived.Test.YtbipgmikgokfpaaDoorQuoteWalk
import Derived.Laws.OwnMore
import Derived.Lib.AppendStr
namespace Go.Proofs.YtbipgmikgokfpaaDoor
open Go.RowKit
set_option linter.unusedVariables false

/-- a buffer of one's own that holds these bytes -/
def Buf (w : World) (base : Nat) (v : Value) (t : List UInt8) : Prop := w.ownsRow base 5 1 v t.length (Lib.byteCells t)
theorem Buf.nil (w : World) (base : Nat) : Buf w base (.slice none 0 0) [] := World.ownsRow_nil _ _ _ _
theorem Buf.alloc {w : World} {base : Nat} {v : Value} {t : List UInt8} (h : Buf w base v t) (o : Obj) : Buf (w.alloc o) base v t := World.ownsRow.alloc h o
theorem Buf.slice {w : World} {base : Nat} {v : Value} {t : List UInt8} (h : Buf w base v t) : ∃ a cap, v = .slice a t.length cap := own_slice h
theorem Buf.conv {w : World} {base : Nat} {v : Value} {t : List UInt8} (h : Buf w base v t) : (convert 22 9 v).run Tryd.prog w = .ok (.string ⟨t.toArray⟩) w := conv_own t h
theorem Buf.lit (w : World) (base : Nat) (c : UInt8) (h : base ≤ w.heap.size) : Buf (w.alloc (.cells #[.int .u8 (c.toNat : Int)] 5)) base (.slice (some ⟨w.heap.size, 0, none⟩) 1 1) [c] := by
  have := World.ownsRow_lit (base := base) (e := 5) (size := 1) w #[.int .u8 (c.toNat : Int)] 1 h (by decide) (by simp)
  simpa [Buf, Lib.byteCells] using this
theorem Buf.lit0 (w : World) (base : Nat) (h : base ≤ w.heap.size) : Buf (w.alloc (.cells #[] 5)) base (.slice (some ⟨w.heap.size, 0, none⟩) 0 0) [] := by
  have := World.ownsRow_lit (base := base) (e := 5) (size := 1) w #[] 0 h (by decide) (by simp)
  simpa [Buf, Lib.byteCells] using this
theorem Buf.mono {w : World} {base base' : Nat} {v : Value} {t : List UInt8} (h : Buf w base v t) (hb : base' ≤ base) : Buf w base' v t := by
  refine ⟨h.1, ?_⟩
  rcases h.2 with h | ⟨g, cap, cur, e, hg, r⟩
  · exact .inl h
  · exact .inr ⟨g, cap, cur, e, Nat.le_trans hb hg, r⟩
theorem Buf.later {w w' : World} {base : Nat} {v : Value} {t : List UInt8} (h : Buf w base v t) (hb : Below w.heap.size w w') : Buf w' base v t := by
  refine ⟨h.1, ?_⟩
  rcases h.2 with h | ⟨g, cap, cur, e, hg, hgg, r⟩
  · exact .inl h
  · exact .inr ⟨g, cap, cur, e, hg, by rw [hb.block g (Array.getElem?_eq_some_iff.1 hgg).1]; exact hgg, r⟩

theorem wp_app1 (w : World) {ops : Array Oper} {rest : List Oper} {o : Oper} {a : Act} {Q : Exit → Act → World → Prop} (hgd : o.guard = none) (s x : Operand)
    (ho : o.op = .call { callee := .builtin .append, args := #[s, x], argTypes := #[22, 22] }) (base g : Nat) (v : Value) (t : List UInt8) (c : UInt8) (hs : a.eval s = v)
    (hown : Buf w base v t) (hx : a.eval x = .slice (some ⟨g, 0, none⟩) 1 1) (hc : w.cell? ⟨g, 0, none⟩ = some (.int .u8 (c.toNat : Int))) (hbase : base ≤ w.heap.size) (hl : t.length ≤ 1000000000)
    (h : ∀ v' w', Buf w' base v' (t ++ [c]) → Below base w w' → wpList Tryd.prog ops Q rest (a.put o.dst v') w') : wpList Tryd.prog ops Q (o :: rest) a w := by
  obtain ⟨i0, hi, hz0, hz1, hz2⟩ := info_parts infoByte
  refine wpList_append_own _ hgd s x 22 ho base 5 i0 (.int .u8 0) 1 1 Tryd.underlying22 hi hz0 hz1 hz2 rfl (by decide) _ _ _ hs hown ⟨g, 0, none⟩ 1 1 [Value.int .u8 (c.toNat : Int)] hx rfl ?_ ?_ (by unfold maxLen; omega) (by omega) hbase ?_
  · intro j u' hj
    match j, hj with
    | 0, hj => simp at hj; subst hj; simpa [Addr.add] using hc
  · intro u' hu'; simp at hu'; subst hu'; rfl
  · intro v' w' hown' hgrow _
    rw [cells_snoc, show t.length + 1 = (t ++ [c]).length by simp] at hown'
    exact h v' w' hown' ((Below.refl _ _).grown hgrow hbase (fun j hj => (World.ownsRow.lt hown j hj).1))

theorem escC_yes {c : UInt8} (h : c = 39 ∨ c = 92) : escC c = [92, c] := if_pos h
theorem escC_no {c : UInt8} (h : ¬ (c = 39 ∨ c = 92)) : escC c = [c] := if_neg h
/-- the first k bytes are written -/
def EscAt (pre : List UInt8) (s : ByteArray) (k : Nat) (acc : List UInt8) : Prop := acc = pre ++ 39 :: (s.data.toList.take k).flatMap escC ∧ acc.length ≤ pre.length + 1 + 2 * k
theorem esc_zero (pre : List UInt8) (s : ByteArray) : EscAt pre s 0 (pre ++ [39]) := ⟨by simp, by simp⟩
theorem esc_two {pre : List UInt8} {s : ByteArray} {k : Nat} {acc : List UInt8} (h : EscAt pre s k acc) (hk : k < s.size) (hc : s[k] = 39 ∨ s[k] = 92) : EscAt pre s (k + 1) (acc ++ [92, s[k]]) :=
  ⟨by rw [take_snoc s k hk, h.1]; simp [escC_yes hc], by have := h.2; simp; omega⟩
theorem esc_one {pre : List UInt8} {s : ByteArray} {k : Nat} {acc : List UInt8} (h : EscAt pre s k acc) (hk : k < s.size) (hc : ¬ (s[k] = 39 ∨ s[k] = 92)) : EscAt pre s (k + 1) (acc ++ [s[k]]) :=
  ⟨by rw [take_snoc s k hk, h.1]; simp [escC_no hc], by have := h.2; simp; omega⟩
theorem esc_end {pre : List UInt8} {s : ByteArray} {k : Nat} {acc : List UInt8} (h : EscAt pre s k acc) (hk : s.size ≤ k) : acc ++ [39] = pre ++ quoteL s.data.toList := by
  rw [h.1, List.take_of_length_le (by rw [size_list]; exact hk)]; simp [quoteL]

set_option maxHeartbeats 4000000 in
set_option maxRecDepth 100000 in
theorem appendQuoted_any (base : Nat) (pre : List UInt8) (v : Value) (s : ByteArray) (w : World) (hbase : base ≤ w.heap.size) (hown0 : Buf w base v pre) (hs : s.size ≤ 65536) (hpre : pre.length ≤ 1000000) :
    Calls Tryd.prog 129 #[v, .string s] w fun e w' => ∃ v', e = .returned v' ∧ Buf w' base v' (pre ++ quoteL s.data.toList) ∧ Below base w w' := by
  go_enter Tryd.func129, Tryd.ntmps129
  go_wp2_with (at_builtin; refine wp_app1 _ rfl _ _ rfl base w.heap.size _ pre 39 rfl (hown0.alloc _) rfl (by simp) ?c5 ?c3 ?c6)
  case c5 => simp; omega
  case c3 => omega
  case c6 =>
    intro v1 w1 hown1 hb1
    have hnx1 : Below base w w1 := ((Below.refl base w).alloc hbase _).trans hb1
    have HO1 := hide hown1
    clear hown1 hb1 hown0
    go_wp2
    go_loopw [0, 11] (fun m i wx => ∃ (k : Nat) (acc : List UInt8), k ≤ s.size ∧ i = .int .i64 k ∧ Hid (EscAt pre s k acc) ∧ Buf wx base m acc ∧ Below base w wx) (fun _ i _ => s.size - (intOf i).toNat)
    case atStart => exact ⟨0, pre ++ [39], by omega, rfl, hide (esc_zero pre s), unhide HO1, hnx1⟩
    case round =>
      clear HO1 hnx1
      obtain ⟨k, acc, hk, rfl, hin, hown, hnx⟩ := hrel
      have hal : acc.length ≤ 1000000 + 1 + 2 * k := by have := (unhide hin).2; omega
      have hwr : base ≤ wr.heap.size := by have := hnx.size; omega
      by_cases hlt : k < s.size
      · cases hB : hbB (s[k].toNat : Int)
        · have hin2 := hide (esc_one (unhide hin) hlt (hbB_false hB))
          go_wp2_with (first | (go_at_call 159; refine (hasBackslash_any _ _).mono ?_; rintro e wr ⟨rfl, rfl⟩) | (at_builtin; refine wp_app1 _ rfl _ _ rfl base wr.heap.size _ acc s[k] rfl (hown.alloc _) rfl (by simp) ?c5 ?c3 ?c6))
          case c5 => simp; omega
          case c3 => omega
          case c6 =>
            intro v2 w2 hown2 hb2
            have hnx2 : Below base w w2 := (hnx.alloc hwr _).trans hb2
            have HO2 := hide hown2
            clear hown2 hb2 hown
            go_wp2
            go_roundw
            case rel => exact ⟨k + 1, acc ++ [s[k]], by omega, by go_num, hide (unhide hin2), unhide HO2, hnx2⟩
            case measure => simp [intOf]; omega
        · have hin2 := hide (esc_two (unhide hin) hlt (hbB_true hB))
          go_wp2_with (first | (go_at_call 159; refine (hasBackslash_any _ _).mono ?_; rintro e wr ⟨rfl, rfl⟩) | (at_builtin; refine wp_app1 _ rfl _ _ rfl base wr.heap.size _ acc 92 rfl (hown.alloc _) rfl (by simp) ?c5 ?c3 ?c6))
          case c5 => simp; omega
          case c3 => omega
          case c6 =>
            intro v2 w2 hown2 hb2
            have hnx2 : Below base w w2 := (hnx.alloc hwr _).trans hb2
            have hw2 : base ≤ w2.heap.size := by have := hnx2.size; omega
            have HO2 := hide hown2
            clear hown2 hb2 hown
            go_wp2_with (at_builtin; refine wp_app1 _ rfl _ _ rfl base w2.heap.size _ (acc ++ [92]) s[k] rfl ((unhide HO2).alloc _) rfl (by simp) ?c5 ?c3 ?c6)
            case c5 => simp; omega
            case c3 => simp; omega
            case c6 =>
              intro v3 w3 hown3 hb3
              have hnx3 : Below base w w3 := (hnx2.alloc hw2 _).trans hb3
              have HO3 := hide hown3
              clear hown3 hb3
              go_wp2
              go_roundw
              case rel => exact ⟨k + 1, acc ++ [92, s[k]], by omega, by go_num, hide (unhide hin2), unhide HO3, hnx3⟩
              case measure => simp [intOf]; omega
      · have hd := hide (esc_end (unhide hin) (by omega))
        go_wp2_with (at_builtin; refine wp_app1 _ rfl _ _ rfl base wr.heap.size _ acc 39 rfl (hown.alloc _) rfl (by simp) ?c5 ?c3 ?c6)
        case c5 => simp; omega
        case c3 => omega
        case c6 =>
          intro v2 w2 hown2 hb2
          have hnx2 : Below base w w2 := (hnx.alloc hwr _).trans hb2
          rw [unhide hd] at hown2
          have HO2 := hide hown2
          clear hown2 hb2 hown
          go_wp2
          go_ret
          exact ⟨_, rfl, unhide HO2, hnx2⟩

end Go.Proofs.YtbipgmikgokfpaaDoor
