/- Texts between quotes, the code's side: 'impl.readQuoted' answers 'innerP' of what lies between the quotes. -/
import Derived.Test.YtpncohkbdaoceaaNumWalk
import Derived.Test.YtpncohkbdaoceaaScanL
import Derived.OwnWalk
import Derived.Lib.BufferRead
namespace Go.Proofs.Ytpncohkbdaoceaa
open Go.RowKit
set_option linter.unusedVariables false

theorem infoByte : (Try.prog.info? 5).map (fun i => (i.zero, i.size, i.bytes)) = some (some (.int .u8 0), 1, 1) := by kernel_rfl

theorem own_slice {w : World} {base : Nat} {v : Value} {n : Nat} {xs : List Value} (h : w.ownsRow base 5 1 v n xs) : ∃ a cap, v = .slice a n cap := by
  rcases h.2 with ⟨rfl, rfl⟩ | ⟨g, cap, cur, rfl, _⟩
  · exact ⟨none, 0, rfl⟩
  · exact ⟨_, _, rfl⟩
theorem conv_own {w : World} {base : Nat} {v : Value} (t : List UInt8) (h : w.ownsRow base 5 1 v t.length (Lib.byteCells t)) : (convert 22 9 v).run Try.prog w = .ok (.string ⟨t.toArray⟩) w := by
  rcases h.2 with ⟨rfl, h0⟩ | ⟨g, cap, cur, rfl, _⟩
  · have : t = [] := List.eq_nil_of_length_eq_zero h0
    subst this
    exact Lib.run_convert_nil_bytes w 22 9 5 0 Try.underlying22 Try.underlying5 Try.underlying9
  · exact run_convert_bytes_back (P := Try.prog) w 22 9 5 ⟨g, 0, none⟩ cap t Try.underlying22 Try.underlying5 Try.underlying9 (fun j hj => h.cells (g := g) rfl j _ (by simp [Lib.byteCells, hj]))
theorem cells_snoc (t : List UInt8) (c : UInt8) : Lib.byteCells t ++ [Value.int .u8 (c.toNat : Int)] = Lib.byteCells (t ++ [c]) := by simp [Lib.byteCells]

theorem drop_at (u : ByteArray) (k : Nat) (h : k < u.size) : u.data.toList.drop k = u[k] :: u.data.toList.drop (k + 1) := by
  rw [List.drop_eq_getElem_cons (by rw [size_list]; exact h)]; rfl
theorem drop_end (u : ByteArray) (k : Nat) (h : u.size ≤ k) : u.data.toList.drop k = [] := List.drop_of_length_le (by rw [size_list]; exact h)
theorem byte_eq {c d : UInt8} (h : (c.toNat : Int) = (d.toNat : Int)) : c = d := UInt8.toNat_inj.1 (by omega)
theorem byte_ne {c d : UInt8} (h : ¬ (c.toNat : Int) = (d.toNat : Int)) : c ≠ d := fun e => h (by rw [e])
theorem okC_true {c : UInt8} (h0 : 32 ≤ (c.toNat : Int)) (h1 : (c.toNat : Int) ≤ 126) : okC c = true := by simp [okC]; omega
theorem okC_false {c : UInt8} (h : (c.toNat : Int) < 32 ∨ 126 < (c.toNat : Int)) : okC c = false := by simp [okC]; omega

/-- so far: t is meant, and the rest decides -/
def InnerAt (u : ByteArray) (k : Nat) (t : List UInt8) : Prop := scanI u.data.toList = (scanI (u.data.toList.drop k)).map (fun p => t ++ p)
theorem inner_none {u : ByteArray} {k : Nat} {t : List UInt8} (h : InnerAt u k t) (hn : scanI (u.data.toList.drop k) = none) : innerP u.data.toList = ([], false) := by
  unfold innerP; rw [h, hn]; rfl
theorem inner_full {u : ByteArray} {k : Nat} {t : List UInt8} (h : InnerAt u k t) (hk : k < u.size) (ht : t.length = 60) : innerP u.data.toList = ([], false) := by
  unfold innerP
  rw [h]
  cases hs : scanI (u.data.toList.drop k) with
  | none => rfl
  | some p =>
    have hp : p ≠ [] := by
      intro e
      subst e
      rw [drop_at u k hk] at hs
      cases hr : u.data.toList.drop (k + 1) with
      | nil => rw [hr] at hs; simp [scanI] at hs
      | cons d r =>
        rw [hr] at hs
        simp only [scanI] at hs
        split at hs
        · split at hs
          · simp at hs
          · cases hs
        · split at hs
          · simp at hs
          · cases hs
    simp only [Option.map_some]
    rw [if_neg]
    have : 0 < p.length := List.length_pos_iff.2 hp
    simp; omega
theorem inner_done {u : ByteArray} {k : Nat} {t : List UInt8} (h : InnerAt u k t) (hk : u.size ≤ k) (ht : t.length ≤ 60) : innerP u.data.toList = (t, true) := by
  unfold innerP
  rw [h, drop_end u k hk]
  simp [scanI, ht]
theorem inner_plain {u : ByteArray} {k : Nat} {t : List UInt8} (h : InnerAt u k t) (hk : k < u.size) (h1 : u[k] ≠ 39) (h2 : u[k] ≠ 92) (h3 : okC u[k] = true) : InnerAt u (k + 1) (t ++ [u[k]]) := by
  unfold InnerAt at *
  rw [h, drop_at u k hk, scanI_plain _ _ h1 h2 h3, Option.map_map]
  congr 1
  funext p
  simp
theorem inner_esc {u : ByteArray} {k : Nat} {t : List UInt8} (h : InnerAt u k t) (hk : k < u.size) (hk1 : k + 1 < u.size) (h2 : u[k] = 92) (h3 : u[k + 1] = 39 ∨ u[k + 1] = 92) : InnerAt u (k + 2) (t ++ [u[k + 1]]) := by
  unfold InnerAt at *
  rw [h, drop_at u k hk, drop_at u (k + 1) hk1, h2, scanI_esc _ _ h3, Option.map_map]
  congr 1
  funext p
  simp

theorem ret_q {t : List UInt8} {b : Bool} {r : List UInt8 × Bool} (h : r = (t, b)) : Ending.returned (.tuple #[.string ⟨t.toArray⟩, .bool b]) = .returned (.tuple #[.string ⟨r.1.toArray⟩, .bool r.2]) := by rw [h]

set_option maxHeartbeats 400000 in
theorem readQuoted_short (s : ByteArray) (w : World) (hs : s.size ≤ 9223372036854775807) (h : s.size < 2) :
    Calls Try.prog 65 #[.string s] w fun e w' => e = .returned (.tuple #[.string ⟨#[]⟩, .bool false]) ∧ w' = w := by
  go_enter Try.func65, Try.ntmps65
  go_wp2
  go_ret2
  exact ⟨rfl, rfl⟩

set_option maxHeartbeats 400000 in
theorem readQuoted_first (s : ByteArray) (w : World) (hs : s.size ≤ 9223372036854775807) (h2 : 2 ≤ s.size) (h0 : ((s[0].toNat : Int) != 39) = true) :
    Calls Try.prog 65 #[.string s] w fun e w' => e = .returned (.tuple #[.string ⟨#[]⟩, .bool false]) ∧ w' = w := by
  go_enter Try.func65, Try.ntmps65
  go_wp2
  go_ret2
  exact ⟨rfl, rfl⟩

set_option maxHeartbeats 400000 in
theorem readQuoted_last (s : ByteArray) (w : World) (hs : s.size ≤ 9223372036854775807) (h2 : 2 ≤ s.size) (h0 : ((s[0].toNat : Int) != 39) = false) (h1 : ((s[s.size - 1].toNat : Int) != 39) = true) :
    Calls Try.prog 65 #[.string s] w fun e w' => e = .returned (.tuple #[.string ⟨#[]⟩, .bool false]) ∧ w' = w := by
  go_enter Try.func65, Try.ntmps65
  go_wp2
  go_ret2
  exact ⟨rfl, rfl⟩

set_option maxHeartbeats 4000000 in
set_option maxRecDepth 100000 in
theorem readQuoted_inner (s : ByteArray) (w : World) (hs : s.size ≤ 9223372036854775807) (h2 : 2 ≤ s.size) (h0 : ((s[0].toNat : Int) != 39) = false) (h1 : ((s[s.size - 1].toNat : Int) != 39) = false) :
    Calls Try.prog 65 #[.string s] w fun e w' => e = .returned (.tuple #[.string ⟨(innerP (s.extract 1 (s.size - 1)).data.toList).1.toArray⟩, .bool (innerP (s.extract 1 (s.size - 1)).data.toList).2]) ∧ Below w.heap.size w w' := by
  obtain ⟨i0, hi, hz0, hz1, hz2⟩ := info_parts infoByte
  have hd2 : decide ((s.size : Int) < 2) = false := by simp; omega
  have hux : Hid ((s.extract 1 (s.size - 1)).size ≤ 9223372036854775807) := by rw [ByteArray.size_extract]; exact hide (by omega)
  obtain ⟨r, hr⟩ : ∃ r, r = innerP (s.extract 1 (s.size - 1)).data.toList := ⟨_, rfl⟩
  rw [← hr]
  have HR := hide hr
  clear hr
  go_enter Try.func65, Try.ntmps65
  go_wp2
  generalize s.extract 1 (s.size - 1) = u at HR hux ⊢
  have hu := unhide hux
  clear hux
  go_loopw [5, 6] (fun m i wx => ∃ (k : Nat) (t : List UInt8), k ≤ u.size ∧ i = .int .i64 k ∧ t.length ≤ 60 ∧ Hid (InnerAt u k t) ∧ wx.ownsRow w.heap.size 5 1 m t.length (Lib.byteCells t) ∧ Below w.heap.size w wx) (fun _ i _ => u.size - (intOf i).toNat)
  case atStart => exact ⟨0, [], by omega, rfl, by simp, hide (by unfold InnerAt; simp), World.ownsRow_nil _ _ _ _, Below.refl _ _⟩
  case round =>
    obtain ⟨k, t, hk, rfl, ht, hin, hown, hnx⟩ := hrel
    obtain ⟨ma, mcap, rfl⟩ := own_slice hown
    by_cases hlt : k < u.size
    · by_cases q39 : (u[k].toNat : Int) = 39
      · have e39 : ((u[k].toNat : Int) == 39) = true := by rw [q39]; rfl
        have hd := hide (inner_none (unhide hin) (by rw [drop_at u k hlt, byte_eq (d := 39) q39]; exact scanI_quote _))
        clear q39
        go_wp2
        go_ret2
        exact ⟨ret_q ((unhide HR).trans (unhide hd)), hnx⟩
      have e39 : ((u[k].toNat : Int) == 39) = false := beq_eq_false_iff_ne.2 q39
      by_cases q32 : (u[k].toNat : Int) < 32 ∨ 126 < (u[k].toNat : Int)
      · have hd := hide (inner_none (unhide hin) (by rw [drop_at u k hlt]; exact scanI_bad _ _ (byte_ne (d := 92) (by simp; omega)) (okC_false q32)))
        clear q39
        rcases q32 with q32 | q32
        all_goals
          go_wp2
          go_ret2
          exact ⟨ret_q ((unhide HR).trans (unhide hd)), hnx⟩
      have q32a : 32 ≤ (u[k].toNat : Int) := by omega
      have q32b : (u[k].toNat : Int) ≤ 126 := by omega
      clear q32
      by_cases q60 : t.length = 60
      · have e60 : ((t.length : Int) == 60) = true := by rw [q60]; rfl
        have hd := hide (inner_full (unhide hin) hlt q60)
        clear q60 q39
        go_wp2
        go_ret2
        exact ⟨ret_q ((unhide HR).trans (unhide hd)), hnx⟩
      have e60 : ((t.length : Int) == 60) = false := beq_eq_false_iff_ne.2 (by omega)
      have ht6 : t.length < 60 := by omega
      by_cases q92 : (u[k].toNat : Int) = 92
      · have e92 : ((u[k].toNat : Int) == 92) = true := by rw [q92]; rfl
        have b92 := hide (byte_eq (d := 92) q92)
        by_cases hend : k + 1 = u.size
        · have ee : (((k : Int) + 1) == (u.size : Int)) = true := by simp; omega
          have hd := hide (inner_none (unhide hin) (by rw [drop_at u k hlt, unhide b92, drop_end u (k + 1) (by omega)]; exact scanI_esc0))
          clear q92 q39 q60 hend
          go_wp2
          go_ret2
          exact ⟨ret_q ((unhide HR).trans (unhide hd)), hnx⟩
        have hlt1 : k + 1 < u.size := by omega
        have hlt1' : (k : Int) + 1 < (u.size : Int) := by omega
        have ee : (((k : Int) + 1) == (u.size : Int)) = false := beq_eq_false_iff_ne.2 (by omega)
        by_cases qd : (u[k + 1].toNat : Int) = 39 ∨ (u[k + 1].toNat : Int) = 92
        · have hin2 := hide (inner_esc (unhide hin) hlt hlt1 (unhide b92) (qd.imp (fun h => byte_eq (d := 39) h) (fun h => byte_eq (d := 92) h)))
          clear q92 q39 q60 hend
          rcases qd with qd | qd
          · have f1 : ((u[k + 1].toNat : Int) != 39) = false := by rw [qd]; rfl
            clear qd
            go_wp2_with (at_builtin; refine wpList_append_own _ rfl _ _ 22 rfl w.heap.size 5 i0 (.int .u8 0) 1 1 Try.underlying22 hi hz0 hz1 hz2 rfl (by decide) _ _ _ rfl (hown.alloc _) ⟨wr.heap.size, 0, none⟩ 1 1 [Value.int .u8 (u[k + 1].toNat : Int)] rfl rfl ?c1 ?c2 ?c3 ?c4 ?c5 ?c6)
            case c1 =>
              intro j u' hj
              match j, hj with
              | 0, hj => simp at hj; subst hj; simp [Addr.add]
            case c2 => intro u' hu'; simp at hu'; subst hu'; rfl
            case c3 => unfold maxLen; omega
            case c4 => omega
            case c5 => have := hnx.size; simp; omega
            case c6 =>
              intro v' w1 hown' hgrow _
              have hnx1 : Below w.heap.size w w1 := (hnx.alloc (by have := hnx.size; omega) _).grown hgrow (by have := hnx.size; simp; omega) (fun j hj => (hown.lt j hj).1)
              rw [cells_snoc, show t.length + 1 = (t ++ [u[k + 1]]).length by simp] at hown'
              have HO := hide hown'
              clear hown' hgrow hown
              go_wp2
              go_roundw
              case rel => exact ⟨k + 2, t ++ [u[k + 1]], by omega, by go_num, by simp; omega, hide (unhide hin2), unhide HO, hnx1⟩
              case measure => simp [intOf]; omega
          · have f1 : ((u[k + 1].toNat : Int) != 39) = true := by rw [qd]; rfl
            have f2 : ((u[k + 1].toNat : Int) != 92) = false := by rw [qd]; rfl
            clear qd
            go_wp2_with (at_builtin; refine wpList_append_own _ rfl _ _ 22 rfl w.heap.size 5 i0 (.int .u8 0) 1 1 Try.underlying22 hi hz0 hz1 hz2 rfl (by decide) _ _ _ rfl (hown.alloc _) ⟨wr.heap.size, 0, none⟩ 1 1 [Value.int .u8 (u[k + 1].toNat : Int)] rfl rfl ?c1 ?c2 ?c3 ?c4 ?c5 ?c6)
            case c1 =>
              intro j u' hj
              match j, hj with
              | 0, hj => simp at hj; subst hj; simp [Addr.add]
            case c2 => intro u' hu'; simp at hu'; subst hu'; rfl
            case c3 => unfold maxLen; omega
            case c4 => omega
            case c5 => have := hnx.size; simp; omega
            case c6 =>
              intro v' w1 hown' hgrow _
              have hnx1 : Below w.heap.size w w1 := (hnx.alloc (by have := hnx.size; omega) _).grown hgrow (by have := hnx.size; simp; omega) (fun j hj => (hown.lt j hj).1)
              rw [cells_snoc, show t.length + 1 = (t ++ [u[k + 1]]).length by simp] at hown'
              have HO := hide hown'
              clear hown' hgrow hown
              go_wp2
              go_roundw
              case rel => exact ⟨k + 2, t ++ [u[k + 1]], by omega, by go_num, by simp; omega, hide (unhide hin2), unhide HO, hnx1⟩
              case measure => simp [intOf]; omega
        · have f1 : ((u[k + 1].toNat : Int) != 39) = true := by rw [bne_iff_ne]; exact fun h => qd (.inl h)
          have f2 : ((u[k + 1].toNat : Int) != 92) = true := by rw [bne_iff_ne]; exact fun h => qd (.inr h)
          have hd := hide (inner_none (unhide hin) (by rw [drop_at u k hlt, unhide b92, drop_at u (k + 1) hlt1]; exact scanI_escbad _ _ (fun h => qd (h.imp (fun e => by rw [e]; rfl) (fun e => by rw [e]; rfl)))))
          clear qd q92 q39 q60 hend
          go_wp2
          go_ret2
          exact ⟨ret_q ((unhide HR).trans (unhide hd)), hnx⟩
      · have e92 : ((u[k].toNat : Int) == 92) = false := beq_eq_false_iff_ne.2 q92
        have hin2 := hide (inner_plain (unhide hin) hlt (byte_ne (d := 39) q39) (byte_ne (d := 92) q92) (okC_true q32a q32b))
        clear q92 q39 q60
        go_wp2_with (at_builtin; refine wpList_append_own _ rfl _ _ 22 rfl w.heap.size 5 i0 (.int .u8 0) 1 1 Try.underlying22 hi hz0 hz1 hz2 rfl (by decide) _ _ _ rfl (hown.alloc _) ⟨wr.heap.size, 0, none⟩ 1 1 [Value.int .u8 (u[k].toNat : Int)] rfl rfl ?c1 ?c2 ?c3 ?c4 ?c5 ?c6)
        case c1 =>
          intro j u' hj
          match j, hj with
          | 0, hj => simp at hj; subst hj; simp [Addr.add]
        case c2 => intro u' hu'; simp at hu'; subst hu'; rfl
        case c3 => unfold maxLen; omega
        case c4 => omega
        case c5 => have := hnx.size; simp; omega
        case c6 =>
          intro v' w1 hown' hgrow _
          have hnx1 : Below w.heap.size w w1 := (hnx.alloc (by have := hnx.size; omega) _).grown hgrow (by have := hnx.size; simp; omega) (fun j hj => (hown.lt j hj).1)
          rw [cells_snoc, show t.length + 1 = (t ++ [u[k]]).length by simp] at hown'
          have HO := hide hown'
          clear hown' hgrow hown
          go_wp2
          go_roundw
          case rel => exact ⟨k + 1, t ++ [u[k]], by omega, by go_num, by simp; omega, hide (unhide hin2), unhide HO, hnx1⟩
          case measure => simp [intOf]; omega
    · have hd := hide (inner_done (unhide hin) (by omega) ht)
      have hcv := conv_own t hown
      go_wp2
      go_ret2
      exact ⟨ret_q ((unhide HR).trans (unhide hd)), hnx⟩

end Go.Proofs.Ytpncohkbdaoceaa
