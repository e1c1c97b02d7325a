/- Letters alike, blanks left out, lines and words: code and specification. -/
import Derived.Test.YthfoabcmgiiadaaGreatDoorWireW3
import Derived.Test.YthfoabcmgiiadaaGreatDoorWireL2
import Derived.Lib.AppendStr
import Derived.Shelf.Strings.Split
import Derived.Shelf.Strings.Trim
namespace Go.Proofs.YthfoabcmgiiadaaGreatDoor
open Go.RowKit Go.Shelf
set_option linter.unusedVariables false

theorem smallLetter_any (c : UInt8) (w : World) :
    Calls Tryz.prog 107 #[.int .u8 (c.toNat : Int)] w fun e w' => e = .returned (.int .u8 ((smallC c).toNat : Int)) ∧ w' = w := by
  have hlt : (c.toNat : Int) ≤ 255 := by have := c.toNat_lt; omega
  by_cases h : 65 ≤ (c.toNat : Int) ∧ (c.toNat : Int) ≤ 90
  · have HE := hide (show ((smallC c).toNat : Int) = (c.toNat : Int) + 32 by rw [smallC_nat, if_pos h])
    obtain ⟨h1, h2⟩ := h
    have e1 : IntKind.u8.wrap ((c.toNat : Int) - 65) = (c.toNat : Int) - 65 := by unfold IntKind.wrap; simp [IntKind.bits, IntKind.signed]; omega
    have e2 : IntKind.u8.wrap ((c.toNat : Int) - 65 + 97) = (c.toNat : Int) + 32 := by unfold IntKind.wrap; simp [IntKind.bits, IntKind.signed]; omega
    go_enter Tryz.func107, Tryz.ntmps107
    go_wp2
    go_ret
    exact ⟨by rw [unhide HE]; rfl, rfl⟩
  · have HE := hide (show ((smallC c).toNat : Int) = (c.toNat : Int) by rw [smallC_nat, if_neg h])
    by_cases h1 : 65 ≤ (c.toNat : Int)
    · have h2 : ¬ (c.toNat : Int) ≤ 90 := fun h2 => h ⟨h1, h2⟩
      clear h
      go_enter Tryz.func107, Tryz.ntmps107
      go_wp2
      go_ret
      exact ⟨by rw [unhide HE]; rfl, rfl⟩
    · clear h
      go_enter Tryz.func107, Tryz.ntmps107
      go_wp2
      go_ret
      exact ⟨by rw [unhide HE]; rfl, rfl⟩

set_option maxHeartbeats 2000000 in
theorem lettersAlike_any (a b : ByteArray) (w : World) (ha : a.size ≤ 1000000) (hb : b.size ≤ 1000000) :
    Calls Tryz.prog 93 #[.string a, .string b] w fun e w' => e = .returned (.bool (alikeB a b)) ∧ Below w.heap.size w w' := by
  by_cases hz : a.size = b.size
  · have hz1 : ((a.size : Int) != (b.size : Int)) = false := by simp [hz]
    go_enter Tryz.func93, Tryz.ntmps93
    go_wp2
    go_loopw [13] (fun i wx => ∃ k : Nat, k ≤ a.size ∧ i = .int .i64 k ∧ Hid (alikeTo a b k) ∧ Below w.heap.size w wx) (fun i _ => a.size - (intOf i).toNat)
    case atStart => exact ⟨0, by omega, rfl, hide (alike_zero a b), Below.refl _ _⟩
    case round =>
      obtain ⟨k, hk, rfl, hto, hnx⟩ := hrel
      clear hz1
      by_cases hlt : k < a.size
      · have hlb : k < b.size := by omega
        have i1 : (k : Int) < (a.size : Int) := by omega
        have i2 : (k : Int) < (b.size : Int) := by omega
        by_cases he : smallC a[k] = smallC b[k]
        · have hs := hide (alike_succ (unhide hto) hlt hlb he)
          have n1 : (((smallC a[k]).toNat : Int) != ((smallC b[k]).toNat : Int)) = false := by rw [he]; simp
          go_wp2
          go_region_with (go_at_call 107; refine (smallLetter_any _ _).mono ?_; rintro e y ⟨rfl, rfl⟩)
          all_goals go_wp2
          all_goals (go_roundw; (case rel => exact ⟨k + 1, by omega, by go_num, hs, (by repeat (first | exact Below.refl _ _ | assumption | refine qx_al ?_ | refine qx_drew ?_ | refine qx_trans ?_ (by assumption)))⟩); (case measure => simp [intOf]; omega))
        · have hs := hide (alike_not hlt hlb he)
          have n1 : (((smallC a[k]).toNat : Int) != ((smallC b[k]).toNat : Int)) = true := by
            simp
            intro e
            exact he (UInt8.toNat_inj.1 (by omega))
          go_wp2
          go_region_with (go_at_call 107; refine (smallLetter_any _ _).mono ?_; rintro e y ⟨rfl, rfl⟩)
          all_goals go_wp2
          all_goals go_ret
          all_goals exact ⟨ret_bool (unhide hs).symm, (by repeat (first | exact Below.refl _ _ | assumption | refine qx_al ?_ | refine qx_drew ?_ | refine qx_trans ?_ (by assumption)))⟩
      · have hy := hide (alike_end hz (unhide hto) (by omega))
        go_wp2
        go_ret
        exact ⟨ret_bool (unhide hy).symm, hnx⟩
  · have hz1 : ((a.size : Int) != (b.size : Int)) = true := by simp; omega
    have hn := hide (alike_size hz)
    go_enter Tryz.func93, Tryz.ntmps93
    go_wp2
    go_ret
    exact ⟨ret_bool (unhide hn).symm, Below.refl _ _⟩

set_option maxHeartbeats 1000000 in
theorem announcesBody_any (a : ByteArray) (w : World) (ha : a.size ≤ 1000000) :
    Calls Tryz.prog 91 #[.string a] w fun e w' => e = .returned (.bool (alikeB a clenS || alikeB a tencS)) ∧ Below w.heap.size w w' := by
  have H1 := hide fun w => lettersAlike_any a clenS w ha (by decide)
  have H2 := hide fun w => lettersAlike_any a tencS w ha (by decide)
  generalize alikeB a clenS = p at H1
  generalize alikeB a tencS = q at H2
  cases p
  · go_enter Tryz.func91, Tryz.ntmps91
    go_wp2_with fail
    refine (unhide H1 _).mono ?_
    rintro e w1 ⟨rfl, hb1⟩
    go_wp2_with fail
    refine (unhide H2 _).mono ?_
    rintro e w2 ⟨rfl, hb2⟩
    go_wp2
    go_ret
    exact ⟨ret_bool (by simp), qx_trans hb1 hb2⟩
  · go_enter Tryz.func91, Tryz.ntmps91
    go_wp2_with fail
    refine (unhide H1 _).mono ?_
    rintro e w1 ⟨rfl, hb1⟩
    go_wp2
    go_ret
    exact ⟨ret_bool (by simp), hb1⟩

theorem l01In_w (n low high : Int) (b : Bool) (w : World) (h : (decide (low ≤ n) && decide (n ≤ high)) = b) :
    Calls Tryz.prog 63 #[.int .i64 n, .int .i64 low, .int .i64 high] w fun e w' => e = .returned (.bool b) ∧ w' = w := by
  go_enter Tryz.func63, Tryz.ntmps63
  go_wp2
  all_goals
    go_ret
    refine ⟨ret_bool ?_, rfl⟩
    rw [← h, Bool.eq_iff_iff]
    simp <;> omega

set_option maxRecDepth 100000 in
theorem infoB : (Tryz.prog.info? 5).map (fun i => (i.zero, i.size, i.bytes)) = some (some (.int .u8 0), 1, 1) := by kernel_rfl
/-- bytes of one's own -/
def Byt (w : World) (base : Nat) (v : Value) (t : List UInt8) : Prop := w.ownsRow base 5 1 v t.length (Lib.byteCells t)
theorem Byt.alloc {w : World} {base : Nat} {v : Value} {t : List UInt8} (h : Byt w base v t) (o : Obj) : Byt (w.alloc o) base v t := World.ownsRow.alloc h o
theorem Byt.lit0 (w : World) (base : Nat) (h : base ≤ w.heap.size) : Byt (w.alloc (.cells #[] 5)) base (.slice (some ⟨w.heap.size, 0, none⟩) 0 0) [] := by
  have := World.ownsRow_lit (base := base) (e := 5) (size := 1) w #[] 0 h (by decide) (by simp)
  simpa [Byt, Lib.byteCells] using this
theorem Byt.conv {w : World} {base : Nat} {v : Value} {t : List UInt8} (h : Byt w base v t) : (convert 22 9 v).run Tryz.prog w = .ok (.string ⟨t.toArray⟩) w := by
  rcases h.2 with ⟨rfl, h0⟩ | ⟨g, cap, cur, rfl, _⟩
  · have : t = [] := List.eq_nil_of_length_eq_zero h0
    subst this
    exact Lib.run_convert_nil_bytes w 22 9 5 0 Tryz.underlying22 Tryz.underlying5 Tryz.underlying9
  · exact run_convert_bytes_back (P := Tryz.prog) w 22 9 5 ⟨g, 0, none⟩ cap t Tryz.underlying22 Tryz.underlying5 Tryz.underlying9 (fun j hj => World.ownsRow.cells h (g := g) rfl j _ (by simp [Lib.byteCells, hj]))
theorem wp_appByt (w : World) {ops : Array Oper} {rest : List Oper} {o : Oper} {a : Act} {Q : Exit → Act → World → Prop} (hgd : o.guard = none) (s x : Operand)
    (ho : o.op = .call { callee := .builtin .append, args := #[s, x], argTypes := #[22, 22] }) (base g : Nat) (v : Value) (t : List UInt8) (c : UInt8) (hs : a.eval s = v)
    (hown : Byt w base v t) (hx : a.eval x = .slice (some ⟨g, 0, none⟩) 1 1) (hc : w.cell? ⟨g, 0, none⟩ = some (.int .u8 (c.toNat : Int))) (hbase : base ≤ w.heap.size) (hl : t.length ≤ 1000000000)
    (h : ∀ v' w', Byt w' base v' (t ++ [c]) → Below base w w' → wpList Tryz.prog ops Q rest (a.put o.dst v') w') : wpList Tryz.prog ops Q (o :: rest) a w := by
  obtain ⟨i0, hi, hz0, hz1, hz2⟩ := info_parts infoB
  refine wpList_append_own _ hgd s x 22 ho base 5 i0 (.int .u8 0) 1 1 Tryz.underlying22 hi hz0 hz1 hz2 rfl (by decide) _ _ _ hs hown ⟨g, 0, none⟩ 1 1 [Value.int .u8 (c.toNat : Int)] hx rfl ?_ ?_ (by unfold maxLen; omega) (by omega) hbase ?_
  · intro j u' hj
    match j, hj with
    | 0, hj => simp at hj; subst hj; simpa [Addr.add] using hc
  · intro u' hu'; simp at hu'; subst hu'; rfl
  · intro v' w' hown' hgrow _
    rw [show Lib.byteCells t ++ [Value.int .u8 (c.toNat : Int)] = Lib.byteCells (t ++ [c]) by simp [Lib.byteCells], show t.length + 1 = (t ++ [c]).length by simp] at hown'
    exact h v' w' hown' ((Below.refl _ _).grown hgrow hbase (fun j hj => (World.ownsRow.lt hown j hj).1))

/-- the first k bytes made small -/
def smallTo (s : ByteArray) (k : Nat) (acc : List UInt8) : Prop := acc = (smallL s.data.toList).take k
theorem smallTo_succ {s : ByteArray} {k : Nat} {acc : List UInt8} (h : smallTo s k acc) (hk : k < s.size) : smallTo s (k + 1) (acc ++ [smallC s[k]]) := by
  unfold smallTo at *
  rw [small_at s k hk, h]
theorem smallTo_end {s : ByteArray} {k : Nat} {acc : List UInt8} (h : smallTo s k acc) (hk : s.size ≤ k) : (⟨acc.toArray⟩ : ByteArray) = smallS s := by
  unfold smallTo at h
  rw [List.take_of_length_le (by rw [small_len, dataLen]; exact hk)] at h
  rw [h]; rfl
theorem smallTo_len {s : ByteArray} {k : Nat} {acc : List UInt8} (h : smallTo s k acc) : acc.length ≤ k := by
  unfold smallTo at h
  rw [h, List.length_take]; omega

set_option maxHeartbeats 2000000 in
set_option maxRecDepth 100000 in
theorem l08Small_any (s : ByteArray) (w : World) (hs : s.size ≤ 1000000) :
    Calls Tryz.prog 77 #[.string s] w fun e w' => e = .returned (.string (smallS s)) ∧ Below w.heap.size w w' := by
  have hlit := hide (Byt.lit0 w w.heap.size (Nat.le_refl _))
  go_enter Tryz.func77, Tryz.ntmps77
  go_wp2
  go_loopw [3, 4] (fun m i wx => ∃ (k : Nat) (acc : List UInt8), k ≤ s.size ∧ i = .int .i64 k ∧ Hid (smallTo s k acc) ∧ Byt wx w.heap.size m acc ∧ Below w.heap.size w wx) (fun _ i _ => s.size - (intOf i).toNat)
  case atStart => exact ⟨0, [], by omega, rfl, hide (by simp [smallTo]), unhide hlit, qx_alloc _ _⟩
  case round =>
    clear hlit
    obtain ⟨k, acc, hk, rfl, hin, hown, hnx⟩ := hrel
    have hal := smallTo_len (unhide hin)
    have hwr : w.heap.size ≤ wr.heap.size := hnx.size
    by_cases hlt : k < s.size
    · have HS := hide (smallTo_succ (unhide hin) hlt)
      have hn := smallC_nat s[k]
      have hq : (s[k].toNat : Int) ≤ 255 := by have := s[k].toNat_lt; omega
      by_cases hc : 65 ≤ (s[k].toNat : Int) ∧ (s[k].toNat : Int) ≤ 90
      · rw [if_pos hc] at hn
        have e1 : IntKind.u8.wrap ((s[k].toNat : Int) + 32) = ((smallC s[k]).toNat : Int) := by rw [hn]; unfold IntKind.wrap; simp [IntKind.bits, IntKind.signed]; omega
        have HI := hide fun w => l01In_w (s[k].toNat : Int) 65 90 true w (by simp; omega)
        generalize smallC s[k] = d at HS e1
        clear hn hc
        go_wp2_with fail
        refine (unhide HI _).mono ?_
        rintro e wr ⟨rfl, rfl⟩
        go_wp2_with (at_builtin; refine wp_appByt _ rfl _ _ rfl w.heap.size wr.heap.size _ acc d rfl (hown.alloc _) rfl (by simp) ?c5 ?c3 ?c6)
        case c5 => first | omega | (simp; omega)
        case c3 => omega
        case c6 =>
          intro v2 w2 hown2 hb2
          have hnx2 : Below w.heap.size w w2 := (hnx.alloc hwr _).trans hb2
          have HO2 := hide hown2
          clear hown2 hb2 hown
          go_wp2
          go_roundw
          case rel => exact ⟨k + 1, acc ++ [d], by omega, by go_num, HS, unhide HO2, hnx2⟩
          case measure => simp [intOf]; omega
      · rw [if_neg hc] at hn
        have e0 : smallC s[k] = s[k] := UInt8.toNat_inj.1 (by omega)
        rw [e0] at HS
        have HI := hide fun w => l01In_w (s[k].toNat : Int) 65 90 false w (by simp; omega)
        clear hn hc e0
        go_wp2_with fail
        refine (unhide HI _).mono ?_
        rintro e wr ⟨rfl, rfl⟩
        go_wp2_with (at_builtin; refine wp_appByt _ rfl _ _ rfl w.heap.size wr.heap.size _ acc s[k] rfl (hown.alloc _) rfl (by simp) ?c5 ?c3 ?c6)
        case c5 => first | omega | (simp; omega)
        case c3 => omega
        case c6 =>
          intro v2 w2 hown2 hb2
          have hnx2 : Below w.heap.size w w2 := (hnx.alloc hwr _).trans hb2
          have HO2 := hide hown2
          clear hown2 hb2 hown
          go_wp2
          go_roundw
          case rel => exact ⟨k + 1, acc ++ [s[k]], by omega, by go_num, HS, unhide HO2, hnx2⟩
          case measure => simp [intOf]; omega
    · have hd := hide (smallTo_end (unhide hin) (by omega))
      have hcv := hown.conv
      clear hown
      go_wp2
      go_ret
      exact ⟨by rw [← unhide hd]; rfl, hnx⟩

end Go.Proofs.YthfoabcmgiiadaaGreatDoor
