/- A list of texts of one's own that grows, is marked, and still holds its marks. -/
import Derived.Test.YtbipgmikgokfpaaDoorTreeMark2
import Derived.Laws.OwnMore
import Derived.Lib.ItoaNum
import Derived.Deep.RegionHeld3
import Derived.Test.YtbipgmikgokfpaaDoorByteEq
namespace Go.Proofs.YtbipgmikgokfpaaDoor
open Go.RowKit Go.Joins
set_option linter.unusedVariables false

set_option maxRecDepth 100000 in
theorem infoSt : (Tryd.prog.info? 9).map (fun i => (i.zero, i.size, i.bytes)) = some (some (.string ⟨#[]⟩), 1, 16) := by kernel_rfl
/-- a list of texts of one's own -/
def StrBuf (w : World) (base : Nat) (v : Value) (zs : List ByteArray) : Prop := w.ownsRow base 9 1 v zs.length (zs.map Value.string)
theorem StrBuf.nil (w : World) (base : Nat) : StrBuf w base (.slice none 0 0) [] := World.ownsRow_nil _ _ _ _
theorem StrBuf.alloc {w : World} {base : Nat} {v : Value} {zs : List ByteArray} (h : StrBuf w base v zs) (o : Obj) : StrBuf (w.alloc o) base v zs := World.ownsRow.alloc h o
theorem StrBuf.lit (w : World) (base : Nat) (zs : List ByteArray) (h : base ≤ w.heap.size) (hl : zs.length ≤ maxLen) : StrBuf (w.alloc (.cells (zs.map Value.string).toArray 9)) base (.slice (some ⟨w.heap.size, 0, none⟩) zs.length zs.length) zs := by
  have := World.ownsRow_lit (base := base) (e := 9) (size := 1) w (zs.map Value.string).toArray zs.length h hl (by simp)
  simpa [StrBuf] using this
theorem StrBuf.slice {w : World} {base : Nat} {v : Value} {zs : List ByteArray} (h : StrBuf w base v zs) : ∃ a cap, v = .slice a zs.length cap := own_slice h
theorem StrBuf.own_lt {w : World} {base : Nat} {v : Value} {zs : List ByteArray} (h : StrBuf w base v zs) : ∀ j, v.ownBlock = some j → base ≤ j ∧ j < w.heap.size := fun j hj => World.ownsRow.lt h j hj
theorem StrBuf.below {w w' : World} {base B : Nat} {v : Value} {zs : List ByteArray} (h : StrBuf w base v zs) (hb : Below B w w') (hB : ∀ j, v.ownBlock = some j → j < B) : StrBuf w' base v zs := by
  refine ⟨h.1, ?_⟩
  rcases h.2 with h | ⟨g, cap, cur, e, hg, hgg, r⟩
  · exact .inl h
  · refine .inr ⟨g, cap, cur, e, hg, ?_, r⟩
    rw [hb.block g (hB g (by rw [e]; rfl))]; exact hgg
theorem StrBuf.later {w w' : World} {base : Nat} {v : Value} {zs : List ByteArray} (h : StrBuf w base v zs) (hb : Below w.heap.size w w') : StrBuf w' base v zs := h.below hb fun j hj => (h.own_lt j hj).2
theorem StrBuf.strs {w : World} {base : Nat} {v : Value} {zs : List ByteArray} (h : StrBuf w base v zs) : ∃ a cap, v = .slice a zs.length cap ∧ StrsAt w a zs := by
  rcases h.2 with ⟨rfl, h0⟩ | ⟨g, cap, cur, rfl, hg⟩
  · exact ⟨none, 0, by rw [h0], fun i hi => by omega⟩
  · refine ⟨some ⟨g, 0, none⟩, cap, rfl, fun i hi => ⟨g, 0, rfl, ?_⟩⟩
    have := World.ownsRow.cellAt h i (by omega)
    rw [Nat.zero_add, this]
    simp [hi]

theorem wp_appStr (w : World) {ops : Array Oper} {rest : List Oper} {o : Oper} {a : Act} {Q : Exit → Act → World → Prop} (hgd : o.guard = none) (s x : Operand)
    (ho : o.op = .call { callee := .builtin .append, args := #[s, x], argTypes := #[34, 34] }) (base g : Nat) (v : Value) (zs : List ByteArray) (c : ByteArray) (hs : a.eval s = v)
    (hown : StrBuf w base v zs) (hx : a.eval x = .slice (some ⟨g, 0, none⟩) 1 1) (hc0 : w.cell? ⟨g, 0, none⟩ = some (.string c)) (hbase : base ≤ w.heap.size) (hl : zs.length ≤ 1000000000)
    (h : ∀ v' w', StrBuf w' base v' (zs ++ [c]) → Below base w w' → wpList Tryd.prog ops Q rest (a.put o.dst v') w') : wpList Tryd.prog ops Q (o :: rest) a w := by
  obtain ⟨i0, hi, hz0, hz1, hz2⟩ := info_parts infoSt
  refine wpList_append_own _ hgd s x 34 ho base 9 i0 (.string ⟨#[]⟩) 1 16 Tryd.underlying34 hi hz0 hz1 hz2 rfl (by decide) _ _ _ hs hown ⟨g, 0, none⟩ 1 1 [.string c] hx rfl ?_ ?_ (by unfold maxLen; omega) (by omega) hbase ?_
  · intro j u' hj
    match j, hj with
    | 0, hj => simp at hj; subst hj; simpa [Addr.add] using hc0
    | j + 1, hj => simp at hj
  · intro u' hu'
    simp at hu'
    subst hu'
    rfl
  · intro v' w' hown' hgrow _
    rw [show zs.map Value.string ++ [.string c] = (zs ++ [c]).map Value.string by simp, show zs.length + 1 = (zs ++ [c]).length by simp] at hown'
    exact h v' w' hown' ((Below.refl _ _).grown hgrow hbase (fun j hj => (World.ownsRow.lt hown j hj).1))

theorem StrBuf.set {w : World} {base g n cap i : Nat} {us : List ByteArray} (h : StrBuf w base (.slice (some ⟨g, 0, none⟩) n cap) us) (hi : i < us.length) (z : ByteArray) : StrBuf (w.setCell ⟨g, i, none⟩ (.string z)) base (.slice (some ⟨g, 0, none⟩) n cap) (us.set i z) := by
  refine ⟨by simp, ?_⟩
  rcases h.2 with ⟨e, _⟩ | ⟨g', cap', cur, e, hg, hgg, hn, hm, hs, ht⟩
  · cases e
  · simp at e
    obtain ⟨rfl, rfl, rfl⟩ := e
    refine .inr ⟨g, cap, cur.setIfInBounds i (.string z), by simp, hg, block_setCell hgg _, by simpa using hn, hm, by simpa using hs, ?_⟩
    rw [List.length_set, Array.toList_setIfInBounds, List.take_set, ht, List.map_set]
theorem StrBuf.free {w : World} {base g n cap : Nat} {us : List ByteArray} (h : StrBuf w base (.slice (some ⟨g, 0, none⟩) n cap) us) (i : Nat) : w.frozen? ⟨g, i, none⟩ = false := by
  rcases h.2 with ⟨e, _⟩ | ⟨g', cap', cur, e, hg, hgg, _⟩
  · cases e
  · simp at e
    obtain ⟨rfl, rfl, rfl⟩ := e
    exact unfrozen_of_block hgg i
theorem StrBuf.get {w : World} {base g n cap : Nat} {us : List ByteArray} (h : StrBuf w base (.slice (some ⟨g, 0, none⟩) n cap) us) (i : Nat) (hi : i < us.length) : w.cell? ⟨g, i, none⟩ = some (.string us[i]) := by
  have e : n = us.length := by
    obtain ⟨a, c, e⟩ := h.slice
    simp at e
    exact e.2.1
  subst e
  rw [World.ownsRow.cellAt h i (by omega)]
  simp [hi]
theorem StrBuf.touch {B E base : Nat} {w w' : World} {v : Value} {zs : List ByteArray} (h : StrBuf w base v zs) (ht : Touch B E w w') (hE : E ≤ base) : StrBuf w' base v zs := by
  refine ⟨h.1, ?_⟩
  rcases h.2 with h' | ⟨g, cap, cur, e, hg, hgg, r⟩
  · exact .inl h'
  · exact .inr ⟨g, cap, cur, e, hg, by rw [ht.2 g (by omega) (Array.getElem?_eq_some_iff.1 hgg).1]; exact hgg, r⟩
theorem StrBuf.opened {w : World} {base n cap : Nat} {a : Option Addr} {zs : List ByteArray} (h : StrBuf w base (.slice a n cap) zs) (h0 : 0 < zs.length) : ∃ g, a = some ⟨g, 0, none⟩ ∧ base ≤ g ∧ g < w.heap.size := by
  rcases h.2 with ⟨h', _⟩ | ⟨g, cap', cur, e, hg, hgg, r⟩
  · omega
  · injection e with e1 _ _
    exact ⟨g, e1, hg, (Array.getElem?_eq_some_iff.1 hgg).1⟩

/-- the text of mark k -/
def mkS (k : Nat) : ByteArray := ⟨(109 :: Lib.decDigits k).toArray⟩
theorem decS_small {n : Nat} (h : n < 10) : Lib.decDigits n = [UInt8.ofNat (48 + n)] := by
  rw [Lib.decDigits, dif_pos h]
theorem decS_great {n : Nat} (h : ¬ n < 10) : Lib.decDigits n = Lib.decDigits (n / 10) ++ [UInt8.ofNat (48 + n % 10)] := by
  rw [Lib.decDigits, dif_neg h]
/-- so far: what is left, and the digits made -/
def MarkS (k n : Nat) (o : ByteArray) : Prop := (n = 0 → o.data.toList = Lib.decDigits k) ∧ (0 < n → Lib.decDigits n ++ o.data.toList = Lib.decDigits k)
theorem MarkS.next {k n : Nat} {o : ByteArray} (h : MarkS k n o) (h0 : 0 < n) : MarkS k (n / 10) (⟨#[UInt8.ofNat (48 + n % 10)]⟩ ++ o) := by
  have h1 := h.2 h0
  have e : (⟨#[UInt8.ofNat (48 + n % 10)]⟩ ++ o : ByteArray).data.toList = UInt8.ofNat (48 + n % 10) :: o.data.toList := by simp
  by_cases h10 : n < 10
  · have hd : Lib.decDigits n = [UInt8.ofNat (48 + n % 10)] := by rw [decS_small h10, Nat.mod_eq_of_lt h10]
    refine ⟨fun _ => ?_, fun h => by omega⟩
    rw [e, ← h1, hd]; rfl
  · have hd := decS_great h10
    refine ⟨fun h => by omega, fun _ => ?_⟩
    rw [e, ← h1, hd, List.append_assoc]; rfl
theorem MarkS.done {k : Nat} {o : ByteArray} (h : MarkS k 0 o) : (⟨#[109]⟩ ++ o : ByteArray) = mkS k := by
  have := h.1 rfl
  unfold mkS
  rw [← this]
  apply ByteArray.ext
  simp
theorem ret_st {a b : ByteArray} (h : a = b) : Ending.returned (.string a) = .returned (.string b) := by rw [h]

set_option maxHeartbeats 2000000 in
set_option maxRecDepth 100000 in
theorem markText_is (z : Int) (w : World) (h0 : 1 ≤ z) (h1 : z ≤ 9223372036854775807) :
    Calls Tryd.prog 76 #[.int .i64 z] w fun e w' => e = .returned (.string (mkS z.toNat)) ∧ Below w.heap.size w w' := by
  have hz : ¬ z ≤ 0 := by omega
  have hst : Hid (RoomAt z.toNat 0) := hide (RoomAt.start h0 h1)
  have hmt : Hid (MarkS z.toNat z.toNat ⟨#[]⟩) := hide ⟨fun h => by omega, fun _ => by simp⟩
  go_enter Tryd.func76, Tryd.ntmps76
  go_wp2
  go_loopw [0, 3] (fun m o wx => ∃ (n : Nat) (t : ByteArray), n ≤ 9223372036854775807 ∧ m = .int .i64 (n : Int) ∧ o = .string t ∧ Hid (RoomAt n t.size) ∧ Hid (MarkS z.toNat n t) ∧ Below w.heap.size w wx) (fun m _ _ => (intOf m).toNat)
  case atStart => exact ⟨z.toNat, ⟨#[]⟩, by omega, by rw [Int.toNat_of_nonneg (by omega)], rfl, hide (unhide hst), hide (unhide hmt), Below.refl _ _⟩
  case round =>
    clear hst hz hmt
    obtain ⟨n, t, hn, rfl, rfl, hin, hmk, hnx⟩ := hrel
    have hts : t.size ≤ 19 := (unhide hin).1
    by_cases hp : 0 < n
    · have hp' : (0 : Int) < (n : Int) := by omega
      have hd := hide ((unhide hin).next hp)
      have hm2 := hide ((unhide hmk).next hp)
      obtain ⟨r, hr⟩ : ∃ r, r = n % 10 := ⟨_, rfl⟩
      obtain ⟨q, hq⟩ : ∃ q, q = n / 10 := ⟨_, rfl⟩
      rw [← hq] at hd
      rw [← hr, ← hq] at hm2
      have hr9 : r ≤ 9 := by omega
      have hqn : q < n := by omega
      have hrm : (n : Int).tmod 10 = (r : Int) := by rw [Int.tmod_eq_emod_of_nonneg (by omega)]; omega
      have hqd : (n : Int).tdiv 10 = (q : Int) := by rw [Int.tdiv_eq_ediv_of_nonneg (by omega)]; omega
      have hw2 : IntKind.u8.wrap (48 + (r : Int)) = 48 + (r : Int) := by unfold IntKind.wrap; simp [IntKind.bits, IntKind.signed]; omega
      have hcv : ∀ u : World, (convert 22 9 (.slice (some ⟨u.heap.size, 0, none⟩) 1 1)).run Tryd.prog (u.alloc (.cells #[.int .u8 (48 + (r : Int))] 5)) = .ok (.string ⟨#[UInt8.ofNat (48 + r)]⟩) (u.alloc (.cells #[.int .u8 (48 + (r : Int))] 5)) := fun u => by
        rw [convM u (48 + (r : Int)) (by omega) (by omega), show (48 + (r : Int)).toNat = 48 + r by omega]
      have hzz : (⟨#[UInt8.ofNat (48 + r)]⟩ : ByteArray).size = 1 := rfl
      generalize (⟨#[UInt8.ofNat (48 + r)]⟩ : ByteArray) = D at hcv hzz hm2
      have hsz : (D ++ t).size = 1 + t.size := by rw [ByteArray.size_append, hzz]
      rw [← hsz] at hd
      clear hr hq hsz
      go_wp2
      go_roundw
      case rel => exact ⟨q, _, by omega, rfl, rfl, hide (unhide hd), hide (unhide hm2), nx_al hnx⟩
      case measure => simp [intOf]; omega
    · have hp' : ¬ (0 : Int) < (n : Int) := by omega
      obtain rfl : n = 0 := by omega
      have hd := hide ((unhide hmk).done)
      have hzz : (⟨#[109]⟩ : ByteArray).size = 1 := rfl
      go_wp2
      go_ret
      exact ⟨ret_st (unhide hd), hnx⟩

/-- the marks from 1 on -/
def marksS (n : Nat) : List ByteArray := (List.range n).map fun i : Nat => mkS (1 + (i : Int)).toNat
theorem marksS_len (n : Nat) : (marksS n).length = n := by simp [marksS]
theorem marksS_get (n i : Nat) (h : i < (marksS n).length) : (marksS n)[i] = mkS (1 + (i : Int)).toNat := by simp [marksS]
def mixS (zs : List ByteArray) (k : Nat) : List ByteArray := marksS k ++ zs.drop k
theorem mixS_len (zs : List ByteArray) (k : Nat) (h : k ≤ zs.length) : (mixS zs k).length = zs.length := by
  unfold mixS; rw [List.length_append, marksS_len, List.length_drop]; omega
theorem mixS_zero (zs : List ByteArray) : mixS zs 0 = zs := by simp [mixS, marksS]
theorem mixS_all (zs : List ByteArray) : mixS zs zs.length = marksS zs.length := by simp [mixS]
theorem mixS_set (zs : List ByteArray) (k : Nat) (h : k < zs.length) : (mixS zs k).set k (mkS (1 + (k : Int)).toNat) = mixS zs (k + 1) := by
  unfold mixS
  rw [List.set_append_right _ _ (by rw [marksS_len]; omega), marksS_len, Nat.sub_self, List.drop_eq_getElem_cons h, List.set_cons_zero]
  simp [marksS, List.range_succ]

set_option maxHeartbeats 2000000 in
set_option maxRecDepth 100000 in
theorem markStringS_buf (base : Nat) (a : Option Addr) (cap : Nat) (zs : List ByteArray) (w : World) (hI : StrBuf w base (.slice a zs.length cap) zs) (hn : zs.length ≤ 1048576) :
    Calls Tryd.prog 42 #[.slice a zs.length cap, .int .i64 1] w fun e w' => e = .returned (.int .i64 (1 + (zs.length : Int))) ∧ StrBuf w' base (.slice a zs.length cap) (marksS zs.length) ∧ Below base w w' := by
  have HM := hide hI
  clear hI
  go_enter Tryd.func42, Tryd.ntmps42
  go_wp2
  go_loopw [1, 5] (fun m i wx => ∃ k : Nat, k ≤ zs.length ∧ i = .int .i64 k ∧ m = .int .i64 (1 + (k : Int)) ∧ Hid (StrBuf wx base (.slice a zs.length cap) (mixS zs k)) ∧ Hid (Below base w wx)) (fun _ i _ => zs.length - (intOf i).toNat)
  case atStart => exact ⟨0, by omega, rfl, by simp, hide (by rw [mixS_zero]; exact unhide HM), hide (Below.refl _ _)⟩
  case round =>
    clear HM
    obtain ⟨k, hk, rfl, rfl, hM, hT⟩ := hrel
    by_cases hlt : k < zs.length
    · have hml := mixS_len zs k hk
      obtain ⟨g, rfl, hgb, hgl⟩ := (unhide hM).opened (by omega)
      go_wp2_with fail
      refine (markText_is (1 + (k : Int)) _ (by omega) (by omega)).mono ?_
      rintro e w1 ⟨rfl, hb1⟩
      have hM1 := hide ((unhide hM).later hb1)
      have HM2 : Hid (StrBuf (w1.setCell ⟨g, k, none⟩ (.string (mkS (1 + (k : Int)).toNat))) base (.slice (some ⟨g, 0, none⟩) zs.length cap) (mixS zs (k + 1))) := hide (by
        have := (unhide hM1).set (i := k) (by omega) (mkS (1 + (k : Int)).toNat)
        rw [mixS_set zs k hlt] at this
        exact this)
      have HT2 : Hid (Below base w (w1.setCell ⟨g, k, none⟩ (.string (mkS (1 + (k : Int)).toNat)))) := hide (((unhide hT).trans (hb1.mono (by omega))).setCell hgb _)
      have c0 := (unhide hM1).get k (by omega)
      have f0 := (unhide hM1).free k
      clear hM hT hM1 hb1
      generalize (mixS zs k)[k] = u0 at c0
      generalize mkS (1 + (k : Int)).toNat = mk at HM2 HT2
      go_wp2
      go_roundw
      case rel => exact ⟨k + 1, by omega, by go_num, int_eq (by omega), HM2, HT2⟩
      case measure => simp [intOf]; omega
    · obtain rfl : k = zs.length := by omega
      have HM2 : Hid (StrBuf wr base (.slice a zs.length cap) (marksS zs.length)) := hide (by rw [← mixS_all]; exact unhide hM)
      clear hM
      go_wp2
      go_ret
      exact ⟨rfl, unhide HM2, unhide hT⟩

set_option maxHeartbeats 2000000 in
set_option maxRecDepth 100000 in
theorem heldStringS_at (a : Option Addr) (n cap : Nat) (w : World) (hI : StrsAt w a (marksS n)) (hn : n ≤ 1048576) :
    Calls Tryd.prog 43 #[.slice a n cap, .int .i64 1] w fun e w' => e = .returned (.int .i64 (1 + (n : Int))) ∧ Below w.heap.size w w' := by
  have HM := hide hI
  clear hI
  go_enter Tryd.func43, Tryd.ntmps43
  go_wp2
  go_loopw [1, 5] (fun m i wx => ∃ k : Nat, k ≤ n ∧ i = .int .i64 k ∧ m = .int .i64 (1 + (k : Int)) ∧ Hid (Below w.heap.size w wx)) (fun _ i _ => n - (intOf i).toNat)
  case atStart => exact ⟨0, by omega, rfl, by simp, hide (Below.refl _ _)⟩
  case round =>
    obtain ⟨k, hk, rfl, rfl, hB⟩ := hrel
    by_cases hlt : k < n
    · obtain ⟨b, off, rfl, c0⟩ := (unhide HM).later (unhide hB) k (by rw [marksS_len]; exact hlt)
      rw [marksS_get] at c0
      have HC := hide (markText_is (1 + (k : Int)) wr.drew (by omega) (by omega))
      generalize mkS (1 + (k : Int)).toNat = mk at c0 HC
      have D0 := hide (show wr.drew.cell? ⟨b, off + k, none⟩ = some (.string mk) from c0)
      have e1 : (mk != mk) = false := ba_nself mk
      have e2 : (mk == mk) = true := ba_self mk
      go_wp2
      go_region_held3 (fun x => x.cell? ⟨b, off + k, none⟩ = some (.string mk)) (go_keep) ((go_at_call 76; refine (unhide HC).mono ?_; rintro e y ⟨rfl, hby⟩; have z0 := cell_later hby (unhide D0); have HBY := hide hby; clear hby))
      all_goals go_wp2
      all_goals (go_roundw; (case rel => exact ⟨k + 1, by omega, by go_num, int_eq (by omega), hide (nx_trans (nx_drew (unhide hB)) (unhide HBY))⟩); (case measure => simp [intOf]; omega))
    · obtain rfl : k = n := by omega
      go_wp2
      go_ret
      exact ⟨rfl, unhide hB⟩

theorem MadR.lat {w w' : World} {L : Lay} {ns : List TN} {B E : Nat} (h : MadR w L ns B E) (hE : E ≤ w.heap.size) (hb : Below w.heap.size w w') : MadR w' L ns B E := by
  obtain ⟨g, e, h1, h2, h3⟩ := h.row
  refine ⟨⟨g, e, h1, h2, h3.same (hb.block g (by omega))⟩, h.nodes.later hb, fun i hi => ?_⟩
  obtain ⟨g1, g2, a, a1, a2, a3, b, b1, b2, b3⟩ := h.parts i hi
  exact ⟨g1, g2, a, a1, a2, a3.later hb, b, b1, b2, b3.later hb⟩


end Go.Proofs.YtbipgmikgokfpaaDoor
