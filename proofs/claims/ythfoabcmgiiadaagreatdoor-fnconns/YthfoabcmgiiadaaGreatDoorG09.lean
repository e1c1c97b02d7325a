/- A bundle. -/
import Derived.Test.YthfoabcmgiiadaaGreatDoorG07
import Derived.Test.YthfoabcmgiiadaaGreatDoorConnP
import Derived.Test.YthfoabcmgiiadaaGreatDoorG08

/- ConnC11 -/
namespace Go.Proofs.YthfoabcmgiiadaaGreatDoor
open Go.RowKit Go.Joins
set_option linter.unusedVariables false

set_option maxRecDepth 100000 in
theorem infoIK : (Tryz.prog.info? 3).map (fun i => (i.zero, i.size, i.bytes)) = some (some (.int .i64 0), 1, 8) := by kernel_rfl
/-- a list of numbers of one's own -/
def IntK (w : World) (base : Nat) (v : Value) (zs : List Int) : Prop := w.ownsRow base 3 1 v zs.length (zs.map (Value.int .i64))
theorem IntK.nil (w : World) (base : Nat) : IntK w base (.slice none 0 0) [] := World.ownsRow_nil _ _ _ _
theorem IntK.alloc {w : World} {base : Nat} {v : Value} {zs : List Int} (h : IntK w base v zs) (o : Obj) : IntK (w.alloc o) base v zs := World.ownsRow.alloc h o
theorem IntK.lit (w : World) (base : Nat) (zs : List Int) (h : base ≤ w.heap.size) (hl : zs.length ≤ maxLen) : IntK (w.alloc (.cells (zs.map (Value.int .i64)).toArray 3)) base (.slice (some ⟨w.heap.size, 0, none⟩) zs.length zs.length) zs := by
  have := World.ownsRow_lit (base := base) (e := 3) (size := 1) w (zs.map (Value.int .i64)).toArray zs.length h hl (by simp)
  simpa [IntK] using this
theorem IntK.slice {w : World} {base : Nat} {v : Value} {zs : List Int} (h : IntK w base v zs) : ∃ a cap, v = .slice a zs.length cap := k_slice h
theorem IntK.own_lt {w : World} {base : Nat} {v : Value} {zs : List Int} (h : IntK w base v zs) : ∀ j, v.ownBlock = some j → base ≤ j ∧ j < w.heap.size := fun j hj => World.ownsRow.lt h j hj
theorem IntK.below {w w' : World} {base B : Nat} {v : Value} {zs : List Int} (h : IntK w base v zs) (hb : Below B w w') (hB : ∀ j, v.ownBlock = some j → j < B) : IntK w' base v zs := by
  refine ⟨h.1, ?_⟩
  rcases h.2 with h | ⟨g, cap, cur, e, hg, hgg, r⟩
  · exact .inl h
  · refine .inr ⟨g, cap, cur, e, hg, ?_, r⟩
    rw [hb.block g (hB g (by rw [e]; rfl))]; exact hgg
theorem IntK.later {w w' : World} {base : Nat} {v : Value} {zs : List Int} (h : IntK w base v zs) (hb : Below w.heap.size w w') : IntK w' base v zs := h.below hb fun j hj => (h.own_lt j hj).2
def IntsK (w : World) (p : Option Addr) (zs : List Int) : Prop := ∀ i (h : i < zs.length), ∃ b off, p = some ⟨b, off, none⟩ ∧ w.cell? ⟨b, off + i, none⟩ = some (.int .i64 zs[i])
theorem IntsK.later {w w' : World} {p : Option Addr} {zs : List Int} (h : IntsK w p zs) (hb : Below w.heap.size w w') : IntsK w' p zs := fun i hi => by
  obtain ⟨b, off, e, c⟩ := h i hi
  exact ⟨b, off, e, cell_later hb c⟩
theorem IntK.ints {w : World} {base : Nat} {v : Value} {zs : List Int} (h : IntK w base v zs) : ∃ a cap, v = .slice a zs.length cap ∧ IntsK w a zs := by
  rcases h.2 with ⟨rfl, h0⟩ | ⟨g, cap, cur, rfl, hg⟩
  · exact ⟨none, 0, by rw [h0], fun i hi => by omega⟩
  · refine ⟨some ⟨g, 0, none⟩, cap, rfl, fun i hi => ⟨g, 0, rfl, ?_⟩⟩
    have := World.ownsRow.cellAt h i (by omega)
    rw [Nat.zero_add, this]
    simp [hi]

theorem wp_appIK (w : World) {ops : Array Oper} {rest : List Oper} {o : Oper} {a : Act} {Q : Exit → Act → World → Prop} (hgd : o.guard = none) (s x : Operand)
    (ho : o.op = .call { callee := .builtin .append, args := #[s, x], argTypes := #[27, 27] }) (base g : Nat) (v : Value) (zs : List Int) (c : Int) (hs : a.eval s = v)
    (hown : IntK w base v zs) (hx : a.eval x = .slice (some ⟨g, 0, none⟩) 1 1) (hc0 : w.cell? ⟨g, 0, none⟩ = some (.int .i64 c)) (hbase : base ≤ w.heap.size) (hl : zs.length ≤ 1000000000)
    (h : ∀ v' w', IntK w' base v' (zs ++ [c]) → Below base w w' → wpList Tryz.prog ops Q rest (a.put o.dst v') w') : wpList Tryz.prog ops Q (o :: rest) a w := by
  obtain ⟨i0, hi, hz0, hz1, hz2⟩ := info_parts infoIK
  refine wpList_append_own _ hgd s x 27 ho base 3 i0 (.int .i64 0) 1 8 Tryz.underlying27 hi hz0 hz1 hz2 rfl (by decide) _ _ _ hs hown ⟨g, 0, none⟩ 1 1 [.int .i64 c] hx rfl ?_ ?_ (by unfold maxLen; omega) (by omega) hbase ?_
  · intro j u' hj
    match j, hj with
    | 0, hj => simp at hj; subst hj; simpa [Addr.add] using hc0
    | j + 1, hj => simp at hj
  · intro u' hu'
    simp at hu'
    subst hu'
    rfl
  · intro v' w' hown' hgrow _
    rw [show zs.map (Value.int .i64) ++ [.int .i64 c] = (zs ++ [c]).map (Value.int .i64) by simp, show zs.length + 1 = (zs ++ [c]).length by simp] at hown'
    exact h v' w' hown' ((Below.refl _ _).grown hgrow hbase (fun j hj => (World.ownsRow.lt hown j hj).1))


set_option maxHeartbeats 1000000 in
set_option maxRecDepth 100000 in
theorem RoomOf_any (c : CN) (v : Value) (w : World) (hv : RowSl w v c.s) (hr : connB c = true) :
    Calls Tryz.prog 19 #[cnV c v] w fun e w' => e = .returned (.tuple #[.int .i64 (roomC c).1, .int .i64 (roomC c).2]) ∧ Below w.heap.size w w' := by
  have h2 := (connB_few hr).2.2.1
  have HL := hide (fun wx (hnx : Below w.heap.size w wx) => lineOf_right c v wx (hv.later hnx) hr)
  have hroom : roomC c = if c.o = true ∧ c.e = false then ((400 : Int) - c.i.size, (0 : Int)) else (0, 19) := by unfold roomC; rw [if_pos hr]
  rw [hroom]
  obtain ⟨p, cap, rfl, _⟩ := hv.slice
  obtain ⟨o, e, i, s, n⟩ := c
  dsimp only [cnV] at *
  clear hv hr hroom
  cases o
  · rw [if_neg (by simp)]
    go_enter Tryz.func19, Tryz.ntmps19
    go_wp2_with fail
    refine (unhide HL _ (qx_alloc _ _)).mono ?_
    rintro ex w1 ⟨v1, rfl, hrow, hb1⟩
    obtain ⟨p1, k1, rfl⟩ := hrow.slice
    have hbs : w.heap.size ≤ w1.heap.size := by have := hb1.size; simp at this; omega
    have HLn := hide (LnAt.new w1 w.heap.size ⟨false, e, i, s, n⟩ _ w1.heap.size rfl hbs (SlBuf.mono hrow (by simp)))
    have HB1 := hide (qx_al (o := .cells #[.bool false, .bool e, .string i, .slice p1 s.length k1, .int .i64 n] 57) (qx_trans (qx_alloc w _) hb1))
    clear hrow hb1 HL
    try dsimp only [cnV] at HLn ⊢
    go_wp2_with fail
    refine (takes_any (unhide HLn).b).mono ?_
    rintro ex w2 ⟨rfl, rfl⟩
    try dsimp only
    try dsimp only [Bool.false_and, Bool.and_false, Bool.not_true]
    go_wp2
    go_ret2
    exact ⟨rfl, unhide HB1⟩
  · cases e
    · rw [if_pos ⟨rfl, rfl⟩]
      go_enter Tryz.func19, Tryz.ntmps19
      go_wp2_with fail
      refine (unhide HL _ (qx_alloc _ _)).mono ?_
      rintro ex w1 ⟨v1, rfl, hrow, hb1⟩
      obtain ⟨p1, k1, rfl⟩ := hrow.slice
      have hbs : w.heap.size ≤ w1.heap.size := by have := hb1.size; simp at this; omega
      have HLn := hide (LnAt.new w1 w.heap.size ⟨true, false, i, s, n⟩ _ w1.heap.size rfl hbs (SlBuf.mono hrow (by simp)))
      have HB1 := hide (qx_al (o := .cells #[.bool true, .bool false, .string i, .slice p1 s.length k1, .int .i64 n] 57) (qx_trans (qx_alloc w _) hb1))
      clear hrow hb1 HL
      try dsimp only [cnV] at HLn ⊢
      go_wp2_with fail
      refine (takes_any (unhide HLn).b).mono ?_
      rintro ex w2 ⟨rfl, rfl⟩
      try dsimp only
      try dsimp only [Bool.not_false, Bool.and_true]
      go_wp2_with fail
      refine (room_any (unhide HLn).b h2).mono ?_
      rintro ex w2 ⟨rfl, rfl⟩
      go_wp2
      go_ret2
      exact ⟨rfl, unhide HB1⟩
    · rw [if_neg (by simp)]
      go_enter Tryz.func19, Tryz.ntmps19
      go_wp2_with fail
      refine (unhide HL _ (qx_alloc _ _)).mono ?_
      rintro ex w1 ⟨v1, rfl, hrow, hb1⟩
      obtain ⟨p1, k1, rfl⟩ := hrow.slice
      have hbs : w.heap.size ≤ w1.heap.size := by have := hb1.size; simp at this; omega
      have HLn := hide (LnAt.new w1 w.heap.size ⟨true, true, i, s, n⟩ _ w1.heap.size rfl hbs (SlBuf.mono hrow (by simp)))
      have HB1 := hide (qx_al (o := .cells #[.bool true, .bool true, .string i, .slice p1 s.length k1, .int .i64 n] 57) (qx_trans (qx_alloc w _) hb1))
      clear hrow hb1 HL
      try dsimp only [cnV] at HLn ⊢
      go_wp2_with fail
      refine (takes_any (unhide HLn).b).mono ?_
      rintro ex w2 ⟨rfl, rfl⟩
      try dsimp only
      try dsimp only [Bool.false_and, Bool.and_false, Bool.not_true]
      go_wp2
      go_ret2
      exact ⟨rfl, unhide HB1⟩

theorem wait_step (s : List SL) (k : Nat) (hk : k < s.length) : ((s.take (k + 1)).filter (!·.r)).map (·.q) = ((s.take k).filter (!·.r)).map (·.q) ++ (if s[k].r = true then [] else [s[k].q]) := by
  rw [List.take_add_one, List.getElem?_eq_getElem hk, List.filter_append, List.map_append]
  congr 1
  cases h : s[k].r <;> simp [h]

end Go.Proofs.YthfoabcmgiiadaaGreatDoor

/- ConnC12 -/
namespace Go.Proofs.YthfoabcmgiiadaaGreatDoor
open Go.RowKit Go.Joins
set_option linter.unusedVariables false

theorem IntK.mono {w : World} {base base' : Nat} {v : Value} {zs : List Int} (h : IntK w base v zs) (hb : base' ≤ base) : IntK w base' v zs := by
  refine ⟨h.1, ?_⟩
  rcases h.2 with h | ⟨g, cap, cur, e, hg, r⟩
  · exact .inl h
  · exact .inr ⟨g, cap, cur, e, Nat.le_trans hb hg, r⟩
def waitTo (s : List SL) (k : Nat) : List Int := ((s.take k).filter (!·.r)).map (·.q)
theorem wait_read {w : World} {p : Option Addr} {s : List SL} {l : Nat} (hll : s.length = l) (hat : SlotsAt w p s) (k : Nat) (hk : k < l) :
    ∃ (b off : Nat) (q : Int) (r : Bool) (t : ByteArray), p = some ⟨b, off, none⟩ ∧ w.cell? ⟨b, off + k * 3, none⟩ = some (.int .i64 q) ∧ w.cell? ⟨b, off + k * 3 + 1, none⟩ = some (.bool r) ∧ w.cell? ⟨b, off + k * 3 + 2, none⟩ = some (.string t) ∧ waitTo s (k + 1) = waitTo s k ++ (if r = true then [] else [q]) := by
  subst hll
  obtain ⟨b, off, rfl, q0, q1, q2⟩ := hat k hk
  exact ⟨b, off, _, _, _, rfl, q0, q1, q2, wait_step s k hk⟩
theorem waitTo_len (s : List SL) (k : Nat) : (waitTo s k).length ≤ k := by
  unfold waitTo
  rw [List.length_map]
  exact Nat.le_trans (List.length_filter_le _ _) (by rw [List.length_take]; omega)

set_option maxHeartbeats 1000000 in
set_option maxRecDepth 100000 in
theorem WaitingOf_any (c : CN) (v : Value) (w : World) (hv : RowSl w v c.s) (hr : connB c = true) :
    Calls Tryz.prog 11 #[cnV c v] w fun e w' => ∃ v', e = .returned (.tuple #[v', .int .i64 0]) ∧ IntK w' w.heap.size v' (waitTo c.s c.s.length) ∧ Below w.heap.size w w' := by
  have h6 := (connB_few hr).2.2.2
  have HOK := hide (fun (W : World) (hb : Below w.heap.size w W) => ConnOK_right c v W (hv.later hb) hr)
  obtain ⟨p, cap, rfl, hat⟩ := hv.slice
  have HF := hide (fun (W : World) (hb : Below w.heap.size w W) k hk => wait_read rfl (hat.later hb) k hk)
  obtain ⟨o, e, i, s, n⟩ := c
  dsimp only [cnV] at *
  clear hv hr hat
  have HW := hide (fun k => waitTo_len s k)
  have h0 : waitTo s 0 = [] := rfl
  have H0 := hide h0
  clear h0
  generalize s.length = l at *
  go_enter Tryz.func11, Tryz.ntmps11
  go_wp2_with fail
  refine (unhide HOK _ (qx_alloc _ _)).mono ?_
  rintro ex w1 ⟨rfl, hb1⟩
  have hP1 : CnB w1 w.heap.size ⟨o, e, i, s, n⟩ (.slice p l cap) := (CnB.new w ⟨o, e, i, s, n⟩ (.slice p l cap) w.heap.size rfl).later hb1
  have HB1 := hide (qx_trans (qx_alloc w _) hb1)
  have hsz1 : w.heap.size ≤ w1.heap.size := (unhide HB1).size
  obtain ⟨t0, t1, t2, t3, t4⟩ := hP1.cells
  dsimp only at t0 t1 t2 t3 t4
  clear hb1 hP1
  go_wp2
  go_loopw [4, 13] (fun sq x wx => ∃ k : Nat, k ≤ l ∧ x = .int .i64 k ∧ Hid (IntK wx w1.heap.size sq (waitTo s k)) ∧ Hid (Below w1.heap.size w1 wx)) (fun _ x _ => l - (intOf x).toNat)
  case atStart => exact ⟨0, by omega, rfl, hide (by rw [unhide H0]; exact IntK.nil _ _), hide (Below.refl _ _)⟩
  case round =>
    clear t0 t1 t2 t3 t4
    obtain ⟨k, hk, rfl, hik, hnx⟩ := hrel
    by_cases hlt : k < l
    · obtain ⟨b, off, vq, vr, vt, rfl, c0, c1, c2, hst⟩ := unhide HF wr (qx_trans (unhide HB1) (unhide hnx)) k hlt
      have hlt' : (k : Int) < (l : Int) := by omega
      have hwl := unhide HW k
      cases vr
      · have HS : Hid (waitTo s (k + 1) = waitTo s k ++ [vq]) := hide (by rw [hst]; rfl)
        clear hst HF
        generalize waitTo s k = zs at *
        go_wp2_with (at_builtin; refine wp_appIK _ rfl _ _ rfl w1.heap.size (wr.heap.size + 1) _ zs vq rfl (((unhide hik).alloc _).alloc _) rfl (by simp) ?c5 ?c3 ?c6)
        case c5 => have := (unhide hnx).size; simp; omega
        case c3 => omega
        case c6 =>
          intro v9 w9 h9 hb9
          have H9 := hide h9
          have HB9 := hide hb9
          clear h9 hb9
          go_wp2
          go_roundw
          case rel => exact ⟨k + 1, by omega, by go_num, hide (by rw [unhide HS]; exact unhide H9), hide (Below.trans (qx_al (qx_al (unhide hnx))) (unhide HB9))⟩
          case measure => simp [intOf]; omega
      · have HS : Hid (waitTo s (k + 1) = waitTo s k) := hide (by rw [hst]; simp)
        clear hst HF
        generalize waitTo s k = zs at *
        go_wp2
        go_roundw
        case rel => exact ⟨k + 1, by omega, by go_num, hide (by rw [unhide HS]; exact (unhide hik).alloc _), hide (qx_al (unhide hnx))⟩
        case measure => simp [intOf]; omega
    · have hkl : k = l := by omega
      have hlt' : ¬ (k : Int) < (l : Int) := by omega
      have HI : Hid (IntK wr w1.heap.size u4 (waitTo s l)) := hide (by rw [← hkl]; exact unhide hik)
      clear hkl
      go_wp2
      go_ret2
      exact ⟨_, rfl, (unhide HI).mono hsz1, qx_trans (unhide HB1) (unhide hnx)⟩

set_option maxHeartbeats 1000000 in
set_option maxRecDepth 100000 in
theorem sameInts_same (a b : Option Addr) (ca cb : Nat) (zs : List Int) (w : World) (ha : IntsK w a zs) (hb : IntsK w b zs) (hl : zs.length ≤ 1000) :
    Calls Tryz.prog 12 #[.slice a zs.length ca, .slice b zs.length cb] w fun e w' => e = .returned (.bool true) ∧ Below w.heap.size w w' := by
  have HF : Hid (∀ (W : World), Below w.heap.size w W → ∀ k, k < zs.length → ∃ (z : Int) (g o g' o' : Nat), a = some ⟨g, o, none⟩ ∧ b = some ⟨g', o', none⟩ ∧ W.cell? ⟨g, o + k, none⟩ = some (.int .i64 z) ∧ W.cell? ⟨g', o' + k, none⟩ = some (.int .i64 z)) := hide (fun W hbW k hk => by
    obtain ⟨g, o, e1, c1⟩ := (ha.later hbW) k hk
    obtain ⟨g', o', e2, c2⟩ := (hb.later hbW) k hk
    exact ⟨_, g, o, g', o', e1, e2, c1, c2⟩)
  clear ha hb
  generalize zs.length = l at *
  go_enter Tryz.func12, Tryz.ntmps12
  go_wp2
  go_loopw [5] (fun x wx => ∃ k : Nat, k ≤ l ∧ x = .int .i64 k ∧ Hid (Below w.heap.size w wx)) (fun x _ => l - (intOf x).toNat)
  case atStart => exact ⟨0, by omega, rfl, hide (Below.refl _ _)⟩
  case round =>
    obtain ⟨k, hk, rfl, hnx⟩ := hrel
    by_cases hlt : k < l
    · obtain ⟨z, g, o, g', o', rfl, rfl, c1, c2⟩ := unhide HF wr (unhide hnx) k hlt
      have hlt' : (k : Int) < (l : Int) := by omega
      have z1 : (z != z) = false := by simp
      clear HF
      go_wp2
      go_quiet (fail)
      go_wp2
      go_roundw
      case rel => exact ⟨k + 1, by omega, by go_num, hide (below_drewN (unhide hnx) _)⟩
      case measure => simp [intOf]; omega
    · have hlt' : ¬ (k : Int) < (l : Int) := by omega
      go_wp2
      go_ret
      exact ⟨rfl, unhide hnx⟩

end Go.Proofs.YthfoabcmgiiadaaGreatDoor

/- ConnsP -/
namespace Go.Proofs.YthfoabcmgiiadaaGreatDoor
open Go.RowKit Go.Joins
set_option linter.unusedVariables false

def oneW : ByteArray := ⟨#[47, 111, 110, 101]⟩
def reqW : ByteArray := reqT false oneW
/-- so many requests taken and read -/
def aK : Nat → CN
  | 0 => CN.start
  | k + 1 => (nextC (takeC (aK k) reqW).1).c
/-- the reply of number k -/
def letW (k : Nat) : ByteArray := ⟨#[UInt8.ofNat (97 + k)]⟩
def againW : ByteArray := ⟨#[97, 103, 97, 105, 110]⟩
/-- the connection and what was sent, after i replies from the first-th on, round -/
def bK (f : Nat) : Nat → CN × ByteArray
  | 0 => (aK 4, ⟨#[]⟩)
  | i + 1 => ((flushC (readyC (bK f i).1 ((f + i) % 4 : Nat) (letW ((f + i) % 4))).1).c, (bK f i).2 ++ (flushC (readyC (bK f i).1 ((f + i) % 4 : Nat) (letW ((f + i) % 4))).1).t)

def takesB (k : Nat) : Bool := connB (aK k) && decide ((takeC (aK k) reqW).2 = 0) && decide ((nextC (takeC (aK k) reqW).1).e = 0) && decide ((nextC (takeC (aK k) reqW).1).p.data.toList = oneW.data.toList) && decide ((nextC (takeC (aK k) reqW).1).q = (k : Int)) && decide ((aK k).s.length ≤ 6)
def repliesB (f i : Nat) : Bool := connB (bK f i).1 && decide ((readyC (bK f i).1 ((f + i) % 4 : Nat) (letW ((f + i) % 4))).2 = 0) && decide ((readyC (readyC (bK f i).1 ((f + i) % 4 : Nat) (letW ((f + i) % 4))).1 ((f + i) % 4 : Nat) againW).2 = 12) && decide ((flushC (readyC (bK f i).1 ((f + i) % 4 : Nat) (letW ((f + i) % 4))).1).e = 0) && !(flushC (readyC (bK f i).1 ((f + i) % 4 : Nat) (letW ((f + i) % 4))).1).x && decide ((bK f i).2.size ≤ 100)
def endB (f : Nat) : Bool := decide ((bK f 4).2.data.toList = [97, 98, 99, 100]) && decide ((bK f 4).1.s.length = 0)
set_option maxRecDepth 100000 in
theorem takes_all : ((List.range 4).all takesB) = true := by kernel_rfl
set_option maxRecDepth 100000 in
theorem replies_all : ((List.range 4).all fun f => (List.range 4).all fun i => repliesB f i) = true := by kernel_rfl
set_option maxRecDepth 100000 in
theorem ends_all : ((List.range 4).all endB) = true := by kernel_rfl
set_option maxRecDepth 100000 in
theorem waits_all : (decide (waitTo (aK 4).s (aK 4).s.length = [0, 1, 2, 3]) && connB (aK 4)) = true := by kernel_rfl
set_option maxRecDepth 100000 in
theorem req_small : decide (reqW.size ≤ 400) = true := by kernel_rfl

theorem nx_eta {r : NX} {P : ByteArray} {q : Int} (h1 : r.e = 0) (h2 : r.p = P) (h3 : r.q = q) : r = ⟨r.c, P, r.x, q, 0⟩ := by
  cases r; simp_all
theorem fl_eta {r : FL} (h1 : r.e = 0) (h2 : r.x = false) : r = ⟨r.c, r.t, false, 0⟩ := by
  cases r; simp_all
theorem pr_eta {r : CN × Int} {q : Int} (h : r.2 = q) : r = (r.1, q) := by
  cases r; simp_all
theorem takes_at {k : Nat} (hk : k < 4) : connB (aK k) = true ∧ (takeC (aK k) reqW).2 = 0 ∧ (nextC (takeC (aK k) reqW).1).e = 0 ∧ (nextC (takeC (aK k) reqW).1).p = oneW ∧ (nextC (takeC (aK k) reqW).1).q = (k : Int) ∧ (aK k).s.length ≤ 6 := by
  have h := List.all_eq_true.1 takes_all k (List.mem_range.2 hk)
  unfold takesB at h
  simp only [Bool.and_eq_true, decide_eq_true_eq] at h
  obtain ⟨⟨⟨⟨⟨h1, h2⟩, h3⟩, h4⟩, h5⟩, h6⟩ := h
  exact ⟨h1, h2, h3, qa_list h4, h5, h6⟩
/-- what stands once number (f + i) is made ready -/
def xK (f i : Nat) : CN := (readyC (bK f i).1 ((f + i) % 4 : Nat) (letW ((f + i) % 4))).1
theorem replies_at {f i : Nat} (hf : f < 4) (hi : i < 4) : connB (bK f i).1 = true ∧ readyC (bK f i).1 ((f + i) % 4 : Nat) (letW ((f + i) % 4)) = (xK f i, 0) ∧ (readyC (xK f i) ((f + i) % 4 : Nat) againW).2 = 12 ∧ flushC (xK f i) = ⟨(bK f (i + 1)).1, (flushC (xK f i)).t, false, 0⟩ ∧ (bK f (i + 1)).2 = (bK f i).2 ++ (flushC (xK f i)).t ∧ (bK f i).2.size ≤ 100 := by
  have h := List.all_eq_true.1 (List.all_eq_true.1 replies_all f (List.mem_range.2 hf)) i (List.mem_range.2 hi)
  unfold repliesB at h
  simp only [Bool.and_eq_true, decide_eq_true_eq, Bool.not_eq_true'] at h
  obtain ⟨⟨⟨⟨⟨h1, h2⟩, h3⟩, h4⟩, h5⟩, h6⟩ := h
  exact ⟨h1, pr_eta h2, h3, fl_eta h4 h5, rfl, h6⟩
theorem ends_at {f : Nat} (hf : f < 4) : (bK f 4).2 = ⟨#[97, 98, 99, 100]⟩ ∧ (bK f 4).1.s.length = 0 := by
  have h := List.all_eq_true.1 ends_all f (List.mem_range.2 hf)
  unfold endB at h
  simp only [Bool.and_eq_true, decide_eq_true_eq] at h
  exact ⟨qa_list h.1, h.2⟩
theorem waits_at : waitTo (aK 4).s (aK 4).s.length = [0, 1, 2, 3] ∧ connB (aK 4) = true := by
  have h := waits_all
  simp only [Bool.and_eq_true, decide_eq_true_eq] at h
  exact h

/-- the calls -/
theorem text_req (w : World) : Calls Tryz.prog 7 #[.agg #[.string ⟨#[47, 111, 110, 101]⟩, .bool false]] w fun e w' => e = .returned (.tuple #[.string reqW, .int .i64 0]) ∧ Below w.heap.size w w' := by
  have h := specRequestText_any ⟨#[47, 111, 110, 101]⟩ false w (by decide)
  rw [show reqTR ⟨#[47, 111, 110, 101]⟩ false = (reqW, 0) by unfold reqTR; rw [if_pos (by kernel_rfl)]; rfl] at h
  exact h
theorem take_req {k : Nat} (hk : k < 4) (v : Value) (w : World) (hv : RowSl w v (aK k).s) : Calls Tryz.prog 8 #[cnV (aK k) v, .string reqW] w fun e w' => AnsC ((takeC (aK k) reqW).1, 0) w e w' := by
  have h := ConnTake_gen (aK k) v reqW w hv (takes_at hk).1 (by have := of_decide_eq_true req_small; omega)
  rw [pr_eta (takes_at hk).2.1] at h
  exact h
theorem next_req {k : Nat} (hk : k < 4) (v : Value) (w : World) (hv : RowSl w v (takeC (aK k) reqW).1.s) (hm : MaxL w) (ht : TabK w) (hp : PowTabW w) : Calls Tryz.prog 9 #[cnV (takeC (aK k) reqW).1 v] w fun e w' => AnsNo ⟨aK (k + 1), oneW, (nextC (takeC (aK k) reqW).1).x, (k : Int), 0⟩ w e w' := by
  have h := ConnNext_gen (takeC (aK k) reqW).1 v w hv (takeC_right reqW (takes_at hk).1 (by have := of_decide_eq_true req_small; omega)) hm ht hp
  rw [nx_eta (takes_at hk).2.2.1 (takes_at hk).2.2.2.1 (takes_at hk).2.2.2.2.1] at h
  exact h
theorem letW_size (k : Nat) : (letW k).size = 1 := rfl
theorem ready_req {f i : Nat} (hf : f < 4) (hi : i < 4) (v : Value) (w : World) (hv : RowSl w v (bK f i).1.s) : Calls Tryz.prog 14 #[cnV (bK f i).1 v, .int .i64 ((f + i) % 4 : Nat), .string (letW ((f + i) % 4))] w fun e w' => AnsC (xK f i, 0) w e w' := by
  have h := ConnReady_gen (bK f i).1 v ((f + i) % 4 : Nat) (letW ((f + i) % 4)) w hv (replies_at hf hi).1 (by rw [letW_size]; omega)
  rw [(replies_at hf hi).2.1] at h
  exact h
theorem xK_right {f i : Nat} (hf : f < 4) (hi : i < 4) : connB (xK f i) = true := by
  have h := readyC_right (seq := ((f + i) % 4 : Nat)) (t := letW ((f + i) % 4)) (replies_at hf hi).1 (by rw [letW_size]; omega)
  exact h
theorem again_req {f i : Nat} (hf : f < 4) (hi : i < 4) (v : Value) (w : World) (hv : RowSl w v (xK f i).s) : Calls Tryz.prog 14 #[cnV (xK f i) v, .int .i64 ((f + i) % 4 : Nat), .string ⟨#[97, 103, 97, 105, 110]⟩] w fun e w' => AnsC ((readyC (xK f i) ((f + i) % 4 : Nat) againW).1, 12) w e w' := by
  have h := ConnReady_gen (xK f i) v ((f + i) % 4 : Nat) againW w hv (xK_right hf hi) (by decide)
  rw [pr_eta (replies_at hf hi).2.2.1] at h
  exact h
theorem flush_req {f i : Nat} (hf : f < 4) (hi : i < 4) (v : Value) (w : World) (hv : RowSl w v (xK f i).s) : Calls Tryz.prog 15 #[cnV (xK f i) v] w fun e w' => AnsF ⟨(bK f (i + 1)).1, (flushC (xK f i)).t, false, 0⟩ w e w' := by
  have h := ConnFlush_gen (xK f i) v w hv (xK_right hf hi)
  rw [(replies_at hf hi).2.2.2.1] at h
  exact h
theorem flush_few {c : CN} (hr : connB c = true) : flushC c = ⟨(flushC c).c, (flushC c).t, (flushC c).x, 0⟩ := by
  have h : (flushC c).e = 0 := by rw [flushS_is hr]; exact (flushS_few hr).2
  rw [← h]

end Go.Proofs.YthfoabcmgiiadaaGreatDoor

/- SrcC -/
namespace Go.Proofs.YthfoabcmgiiadaaGreatDoor
open Go.RowKit Go.Joins
set_option linter.unusedVariables false

/-- all but the source's block g is as it was -/
structure SrF (g : Nat) (w w' : World) : Prop where
  below : Below g w w'
  keep : ∀ k, k < w.heap.size → k ≠ g → w'.heap[k]? = w.heap[k]?
theorem SrF.refl (g : Nat) (w : World) : SrF g w w := ⟨Below.refl _ _, fun _ _ _ => rfl⟩
theorem SrF.trans {g : Nat} {a b c : World} (h : SrF g a b) (k : SrF g b c) : SrF g a c :=
  ⟨h.below.trans k.below, fun i hi hg => (k.keep i (Nat.lt_of_lt_of_le hi h.below.size) hg).trans (h.keep i hi hg)⟩
theorem SrF.of {g : Nat} {w w' : World} (h : Below w.heap.size w w') (hg : g < w.heap.size) : SrF g w w' := ⟨h.mono (Nat.le_of_lt hg), fun k hk _ => h.block k hk⟩
theorem SrF.only {g : Nat} {w w' : World} (h : OnlyAt g w w') : SrF g w w' := ⟨only_below h (Nat.le_refl _), fun k _ hg => h.block k hg⟩
theorem SrF.new {g b o : Nat} {w w1 : World} {v : Value} (h : SrF g w w1) (hg : g < w.heap.size) (hb : w.heap.size ≤ b) : SrF g w (w1.setCell ⟨b, o, none⟩ v) :=
  ⟨h.below.setCell (p := ⟨b, o, none⟩) (show g ≤ b by omega) v, fun k hk hkg => (Below.heap_setCell _ _ _ k (by show k ≠ b; omega)).trans (h.keep k hk hkg)⟩

/-- a source of choices: n have been taken -/
structure DC (w : World) (g : Nat) (a : Option Addr) (len cap : Nat) (n : Int) : Prop where
  src : ∃ seed, SrcAt w g a len cap n seed
  shp : ∃ cs t fr, w.heap[g]? = some (.cells cs t fr) ∧ cs.size = 3
  row : ByteRow w a len
  lt : 0 < len → ∀ x, a = some x → x.block < g
theorem DC.g_lt {w : World} {g : Nat} {a : Option Addr} {len cap : Nat} {n : Int} (h : DC w g a len cap n) : g < w.heap.size := by
  obtain ⟨cs, t, fr, h1, _⟩ := h.shp
  exact (Array.getElem?_eq_some_iff.1 h1).1
theorem DC.later {w w' : World} {g : Nat} {a : Option Addr} {len cap : Nat} {n : Int} (h : DC w g a len cap n) (hb : Below w.heap.size w w') : DC w' g a len cap n := by
  have hg := h.g_lt
  obtain ⟨s, h1⟩ := h.src
  obtain ⟨cs, t, fr, h2, h3⟩ := h.shp
  exact ⟨⟨s, h1.other hb hg⟩, ⟨cs, t, fr, by rw [hb.block g hg]; exact h2, h3⟩, h.row.later hb, h.lt⟩
theorem DC.only {w w' : World} {g : Nat} {a : Option Addr} {len cap : Nat} {n m s : Int} (h : DC w g a len cap n) (hs : SrcAt w' g a len cap m s) (ho : OnlyAt g w w') : DC w' g a len cap m := by
  obtain ⟨cs, t, fr, h2, h3⟩ := h.shp
  obtain ⟨ds, h4, h5⟩ := ho.shape cs t fr h2
  refine ⟨⟨s, hs⟩, ⟨ds, t, fr, h4, h5.trans h3⟩, fun i hi => ?_, h.lt⟩
  obtain ⟨b, off, c, e1, e2, e3⟩ := h.row i hi
  have : b ≠ g := Nat.ne_of_lt (h.lt (by omega) _ e1)
  exact ⟨b, off, c, e1, by rw [only_cell ho this]; exact e2, e3⟩
theorem DC.set {w : World} {g b o : Nat} {a : Option Addr} {len cap : Nat} {n : Int} {v : Value} (h : DC w g a len cap n) (hb : g < b) : DC (w.setCell ⟨b, o, none⟩ v) g a len cap n := by
  have hbel : Below b w (w.setCell ⟨b, o, none⟩ v) := (Below.refl _ _).setCell (p := ⟨b, o, none⟩) (Nat.le_refl _) v
  have e : ∀ k, k ≠ b → (w.setCell ⟨b, o, none⟩ v).heap[k]? = w.heap[k]? := fun k hk => Below.heap_setCell _ _ _ k (by exact hk)
  have hgb : g ≠ b := by omega
  have hc : ∀ i, (w.setCell ⟨b, o, none⟩ v).cell? ⟨g, i, none⟩ = w.cell? ⟨g, i, none⟩ := fun i => World.cell?_of_block (e g hgb)
  have hf : ∀ i, (w.setCell ⟨b, o, none⟩ v).frozen? ⟨g, i, none⟩ = w.frozen? ⟨g, i, none⟩ := fun i => World.frozen?_of_block (e g hgb)
  obtain ⟨s, h1⟩ := h.src
  obtain ⟨cs, t, fr, h2, h3⟩ := h.shp
  refine ⟨⟨s, by rw [hc]; exact h1.c0, by rw [hc]; exact h1.c1, by rw [hc]; exact h1.c2, by rw [hf]; exact h1.z1, by rw [hf]; exact h1.z2, h1.s0, h1.s1, h1.a0, h1.a1⟩, ⟨cs, t, fr, by rw [e g hgb]; exact h2, h3⟩, fun i hi => ?_, h.lt⟩
  obtain ⟨q, off, c, e1, e2, e3⟩ := h.row i hi
  have : q < g := h.lt (by omega) _ e1
  exact ⟨q, off, c, e1, by rw [World.cell?_of_block (a := ⟨q, _, none⟩) (e q (by omega))]; exact e2, e3⟩

/-- no slot lies in a block: nowhere a number ahead of a Boolean -/
def NoSl (w : World) (b : Nat) : Prop := ∀ o q r, w.cell? ⟨b, o, none⟩ = some (.int .i64 q) → w.cell? ⟨b, o + 1, none⟩ ≠ some (.bool r)
theorem DC.noSl {w : World} {g : Nat} {a : Option Addr} {len cap : Nat} {n : Int} (h : DC w g a len cap n) : NoSl w g := by
  intro o q r h0 h1
  obtain ⟨s, hs⟩ := h.src
  obtain ⟨cs, t, fr, h2, h3⟩ := h.shp
  have e1 : w.cell? ⟨g, o + 1, none⟩ = cs[o + 1]? := cell_of_block h2 (o + 1)
  rw [h1] at e1
  have hlt : o + 1 < cs.size := (Array.getElem?_eq_some_iff.1 e1.symm).1
  have ho : o = 0 ∨ o = 1 := by omega
  rcases ho with rfl | rfl
  · rw [hs.c0] at h0; injection h0 with h0; cases h0
  · rw [show w.cell? ⟨g, 1 + 1, none⟩ = _ from hs.c2] at h1; injection h1 with h1; cases h1
theorem CnB.noSl {w : World} {b : Nat} {c : CN} {v : Value} (h : CnB w b c v) : NoSl w b := by
  intro o q r h0 h1
  have e0 : w.cell? ⟨b, o, none⟩ = (#[Value.bool c.o, .bool c.e, .string c.i, v, .int .i64 c.n])[o]? := cell_of_block h o
  have e1 : w.cell? ⟨b, o + 1, none⟩ = (#[Value.bool c.o, .bool c.e, .string c.i, v, .int .i64 c.n])[o + 1]? := cell_of_block h (o + 1)
  rw [h0] at e0
  rw [h1] at e1
  match o, e0, e1 with
  | 0, e0, _ => simp at e0
  | 1, e0, _ => simp at e0
  | 2, e0, _ => simp at e0
  | 3, e0, e1 => simp at e1
  | 4, e0, e1 => simp at e1
  | o + 5, e0, _ => simp at e0
theorem RowSl.off {w w' : World} {b : Nat} {v : Value} {s : List SL} (h : RowSl w v s) (hn : NoSl w b) (hk : ∀ k, k < w.heap.size → k ≠ b → w'.heap[k]? = w.heap[k]?) : RowSl w' v s := by
  rcases h with h | ⟨g, off, cap, rfl, hat⟩
  · exact .inl h
  · refine .inr ⟨g, off, cap, rfl, fun i hi => ?_⟩
    obtain ⟨q0, q1, q2⟩ := hat i hi
    have hgl := World.block_lt_of_cell? _ _ q0
    have hne : g ≠ b := by
      rintro rfl
      exact hn _ _ _ q0 q1
    have e := hk g hgl hne
    exact ⟨(World.cell?_of_block (a := ⟨g, _, Option.none⟩) e).trans q0, (World.cell?_of_block (a := ⟨g, _, Option.none⟩) e).trans q1, (World.cell?_of_block (a := ⟨g, _, Option.none⟩) e).trans q2⟩
theorem RowC.off {w w' : World} {b : Nat} {v : Value} {s : List SL} (h : RowC w v s) (hn : NoSl w b) (hk : ∀ k, k < w.heap.size → k ≠ b → w'.heap[k]? = w.heap[k]?) : RowC w' v s := ⟨h.1.off hn hk, h.2⟩
theorem RowC.src {w w' : World} {g : Nat} {a : Option Addr} {len cap : Nat} {n : Int} {v : Value} {s : List SL} (h : RowC w v s) (hd : DC w g a len cap n) (hf : SrF g w w') : RowC w' v s := h.off hd.noSl hf.keep
theorem RowC.five {w : World} {b : Nat} {c d : CN} {v u x : Value} {s : List SL} (h : RowC w v s) (hc : CnB w b c u) : RowC (fiveC w b d x) v s := h.off hc.noSl fun k _ hk => fiveC_other w b d x k hk
theorem CnB.src {w w' : World} {g b : Nat} {c : CN} {v : Value} (h : CnB w b c v) (hb : b ≠ g) (hf : SrF g w w') : CnB w' b c v := by
  unfold CnB; rw [hf.keep b h.lt hb]; exact h
theorem DC.five {w : World} {g b : Nat} {a : Option Addr} {len cap : Nat} {n : Int} {d : CN} {x : Value} (h : DC w g a len cap n) (hb : g < b) : DC (fiveC w b d x) g a len cap n := ((((h.set hb).set hb).set hb).set hb).set hb
theorem SrF.five {g b : Nat} {w w1 : World} {d : CN} {x : Value} (h : SrF g w w1) (hg : g < w.heap.size) (hb : w.heap.size ≤ b) : SrF g w (fiveC w1 b d x) := ((((h.new hg hb).new hg hb).new hg hb).new hg hb).new hg hb

/-- what is drawn -/
def DrawnC (g : Nat) (a : Option Addr) (len cap : Nat) (n m : Int) (w : World) (e : Ending) (w' : World) : Prop :=
  ∃ r n', e = .returned (.int .i64 r) ∧ 0 ≤ r ∧ r < m ∧ n' ≤ n + 1 ∧ DC w' g a len cap n' ∧ SrF g w w'

set_option maxHeartbeats 1000000 in
theorem next_one (p : Value) (w : World) :
    Calls Tryz.prog 59 #[p, .int .i64 1] w fun e w' => e = .returned (.int .i64 0) ∧ w' = w := by
  go_enter Tryz.func59, Tryz.ntmps59
  go_wp2
  go_ret
  exact ⟨rfl, rfl⟩
theorem nextC_any (g : Nat) (a : Option Addr) (len cap : Nat) (n m : Int) (w : World) (h : DC w g a len cap n) (hlen : len ≤ 1048577) (hn : n ≤ 1000) (hm1 : 1 ≤ m) (hm2 : m ≤ 256) :
    Calls Tryz.prog 59 #[.pointer (some ⟨g, 0, none⟩), .int .i64 m] w fun e w' => DrawnC g a len cap n m w e w' := by
  by_cases h1 : m = 1
  · subst h1
    refine (next_one _ w).mono ?_
    rintro e w' ⟨rfl, rfl⟩
    exact ⟨0, n, rfl, by omega, by omega, by omega, h, SrF.refl _ _⟩
  · obtain ⟨s, hs⟩ := h.src
    refine (next_any g a len cap n s m w hs (by omega) hlen h.row (fun h0 x hx => Nat.ne_of_lt (h.lt h0 x hx)) (by omega) hm2).mono ?_
    rintro e w' ⟨r, s', rfl, ra, rb, hs', ho⟩
    exact ⟨r, n + 1, rfl, ra, rb, by omega, h.only hs' ho, SrF.only ho⟩
theorem pickC_any (g : Nat) (a : Option Addr) (len cap : Nat) (n : Int) (q L qc : Nat) (ts : Nat → ByteArray) (w : World) (h : DC w g a len cap n) (hlen : len ≤ 1048577) (hn : n ≤ 1000) (hq : q ≠ g) (hL1 : 1 < L) (hL2 : L ≤ 256)
    (hts : ∀ j, j < L → w.cell? ⟨q, j, none⟩ = some (.string (ts j))) :
    Calls Tryz.prog 61 #[.pointer (some ⟨g, 0, none⟩), .slice (some ⟨q, 0, none⟩) L qc] w fun e w' => ∃ j, j < L ∧ e = .returned (.string (ts j)) ∧ DC w' g a len cap (n + 1) ∧ SrF g w w' := by
  obtain ⟨s, hs⟩ := h.src
  refine (pick_any g a len cap n s q L qc ts w hs (by omega) hlen h.row (fun h0 x hx => Nat.ne_of_lt (h.lt h0 x hx)) hq hL1 hL2 hts).mono ?_
  rintro e w' ⟨j, s', hj, rfl, hs', ho⟩
  exact ⟨j, hj, rfl, h.only hs' ho, SrF.only ho⟩
theorem chanceC_any (g : Nat) (a : Option Addr) (len cap : Nat) (n m : Int) (w : World) (h : DC w g a len cap n) (hlen : len ≤ 1048577) (hn : n ≤ 1000) (hm1 : 1 < m) (hm2 : m ≤ 256) :
    Calls Tryz.prog 68 #[.pointer (some ⟨g, 0, none⟩), .int .i64 m] w fun e w' => ∃ b : Bool, e = .returned (.bool b) ∧ DC w' g a len cap (n + 1) ∧ SrF g w w' := by
  obtain ⟨s, hs⟩ := h.src
  refine (chance_any g a len cap n s m w hs (by omega) hlen h.row (fun h0 x hx => Nat.ne_of_lt (h.lt h0 x hx)) hm1 hm2).mono ?_
  rintro e w' ⟨b, s', rfl, hs', ho⟩
  exact ⟨b, rfl, h.only hs' ho, SrF.only ho⟩

theorem ReqAt.src {w w' : World} {b g : Nat} {p : ByteArray} {c : Bool} (h : ReqAt w b p c) (hb : b ≠ g) (hf : SrF g w w') : ReqAt w' b p c := by
  obtain ⟨q0, q1, q2, q3, q4⟩ := h
  have e := hf.keep b q4 hb
  exact ⟨by rw [World.cell?_of_block (a := ⟨b, _, none⟩) e]; exact q0, by rw [World.cell?_of_block (a := ⟨b, _, none⟩) e]; exact q1, by rw [World.frozen?_of_block (a := ⟨b, _, none⟩) e]; exact q2, by rw [World.frozen?_of_block (a := ⟨b, _, none⟩) e]; exact q3, Nat.lt_of_lt_of_le q4 hf.below.size⟩

set_option maxHeartbeats 4000000 in
set_option maxRecDepth 100000 in
theorem requestC_any (g : Nat) (a : Option Addr) (len cap : Nat) (n : Int) (w : World) (h : DC w g a len cap n) (hlen : len ≤ 1048577) (hn : n ≤ 900) :
    Calls Tryz.prog 41 #[.pointer (some ⟨g, 0, none⟩)] w fun e w' => ∃ (j : Nat) (c : Bool), j < 9 ∧ e = .returned (.agg #[.string (wireP j), .bool c]) ∧ DC w' g a len cap (n + 1 + 1) ∧ SrF g w w' := by
  have HD := hide h
  have hgw := h.g_lt
  clear h
  go_enter Tryz.func41, Tryz.ntmps41
  go_wp2_with fail
  have hts : Hid (∀ (W : World), W = ((w.alloc (.cells #[.string ⟨#[]⟩, .bool false] 31)).alloc (.cells (wirePaths.map fun l => Value.string ⟨l.toArray⟩).toArray 9)) → DC W g a len cap n ∧ SrF g w W ∧ ∀ j, j < 9 → W.cell? ⟨w.heap.size + 1, j, none⟩ = some (.string (wireP j))) := hide (by
    rintro W rfl
    have hb : Below w.heap.size w ((w.alloc (.cells #[.string ⟨#[]⟩, .bool false] 31)).alloc (.cells (wirePaths.map fun l => Value.string ⟨l.toArray⟩).toArray 9)) := qx_al (qx_alloc _ _)
    refine ⟨(unhide HD).later hb, SrF.of hb hgw, fun j hj => ?_⟩
    have e9 : (wirePaths.map fun l => Value.string ⟨l.toArray⟩).toArray[j]? = some (.string (wireP j)) := by
      have hl : wirePaths.length = 9 := rfl
      simp [wireP, hl, hj]
    rw [← e9]
    simp)
  obtain ⟨hs1, hf1, ht1⟩ := unhide hts _ rfl
  refine (pickC_any g a len cap n (w.heap.size + 1) 9 9 wireP _ hs1 hlen (by omega) (by omega) (by omega) (by omega) ht1).mono ?_
  rintro e w1 ⟨j, hj, rfl, hd1, hg1⟩
  have HD1 := hide hd1
  have HF1 := hide (hf1.trans hg1)
  have hne : w.heap.size ≠ g := by omega
  have hres := hide (((ReqAt.new w ⟨#[]⟩ false w.heap.size rfl 31).later (qx_alloc _ (.cells (wirePaths.map fun l => Value.string ⟨l.toArray⟩).toArray 9))).src hne hg1)
  clear hs1 hf1 ht1 hd1 hg1 hts
  go_wp2_with fail
  refine (chanceC_any g a len cap (n + 1) 8 _ (unhide HD1) hlen (by omega) (by omega) (by omega)).mono ?_
  rintro e w2 ⟨c, rfl, hd2, hg2⟩
  have HD2 := hide (hd2.set (b := w.heap.size) (o := 0) (v := .string (wireP j)) (by omega) |>.set (b := w.heap.size) (o := 1) (v := .bool c) (by omega))
  have HF2 := hide ((((unhide HF1).trans hg2).new (b := w.heap.size) (o := 0) (v := .string (wireP j)) hgw (Nat.le_refl _)).new (b := w.heap.size) (o := 1) (v := .bool c) hgw (Nat.le_refl _))
  obtain ⟨rc0, rc1, rf0, rf1, rl⟩ := (unhide hres).src hne hg2
  clear hne hd2 hg2
  go_wp2
  exact bodyPost_ret (v := .agg #[.string (wireP j), .bool c]) (by simp [results, Tryz.results41, go_sem, rc0, rc1]) rfl ⟨j, c, hj, rfl, unhide HD2, unhide HF2⟩

set_option maxHeartbeats 1000000 in
theorem sourceC_any (a : Option Addr) (len cap : Nat) (w : World) (hlen : len ≤ 1048577) (hrow : ByteRow w a len) :
    Calls Tryz.prog 33 #[.slice a len cap] w fun e w' => e = .returned (.pointer (some ⟨w.heap.size, 0, none⟩)) ∧ Below w.heap.size w w' ∧ DC w' w.heap.size a len cap 0 := by
  have HR := hide hrow
  clear hrow
  go_enter Tryz.func33, Tryz.ntmps33
  go_wp2
  go_ret
  refine ⟨rfl, qx_alloc _ _, ⟨(len : Int) % 1000, by simp, by simp, by simp, by simp, by simp, by omega, by omega, by omega, by omega⟩, ?_, (unhide HR).later (qx_alloc _ _), fun h0 => row_blockW (unhide HR) h0⟩
  refine ⟨_, _, _, show (w.heap.push _)[w.heap.size]? = some _ by rw [Array.getElem?_push, if_pos rfl], rfl⟩

/-- one of four texts of a list just made, and of two -/
theorem pick4_any (g : Nat) (a : Option Addr) (len cap : Nat) (n : Int) (y : World) (t1 t2 t3 t4 : ByteArray) (h : DC y g a len cap n) (hlen : len ≤ 1048577) (hn : n ≤ 1000) :
    Calls Tryz.prog 61 #[.pointer (some ⟨g, 0, none⟩), .slice (some ⟨y.heap.size, 0, none⟩) 4 4] (y.alloc (.cells #[.string t1, .string t2, .string t3, .string t4] 9)) fun e w' =>
      ∃ t, (t = t1 ∨ t = t2 ∨ t = t3 ∨ t = t4) ∧ e = .returned (.string t) ∧ DC w' g a len cap (n + 1) ∧ SrF g y w' := by
  have hg := h.g_lt
  refine (pickC_any g a len cap n y.heap.size 4 4 (fun j => [t1, t2, t3, t4].getD j t4) _ (h.later (qx_alloc _ _)) hlen hn (by omega) (by omega) (by omega) ?_).mono ?_
  · intro j hj
    have h4 : j = 0 ∨ j = 1 ∨ j = 2 ∨ j = 3 := by omega
    rcases h4 with rfl | rfl | rfl | rfl <;> simp
  · rintro e w' ⟨j, hj, rfl, hd, hf⟩
    refine ⟨_, ?_, rfl, hd, (SrF.of (qx_alloc _ _) hg).trans hf⟩
    have h4 : j = 0 ∨ j = 1 ∨ j = 2 ∨ j = 3 := by omega
    rcases h4 with rfl | rfl | rfl | rfl <;> simp
theorem pick2_any (g : Nat) (a : Option Addr) (len cap : Nat) (n : Int) (q qc : Nat) (y : World) (t1 t2 : ByteArray) (h : DC y g a len cap n) (hlen : len ≤ 1048577) (hn : n ≤ 1000) (hq : q ≠ g) (h0 : y.cell? ⟨q, 0, none⟩ = some (.string t1)) (h1 : y.cell? ⟨q, 1, none⟩ = some (.string t2)) :
    Calls Tryz.prog 61 #[.pointer (some ⟨g, 0, none⟩), .slice (some ⟨q, 0, none⟩) 2 qc] y fun e w' =>
      ∃ t, (t = t1 ∨ t = t2) ∧ e = .returned (.string t) ∧ DC w' g a len cap (n + 1) ∧ SrF g y w' := by
  refine (pickC_any g a len cap n q 2 qc (fun j => [t1, t2].getD j t2) _ h hlen hn hq (by omega) (by omega) ?_).mono ?_
  · intro j hj
    have h4 : j = 0 ∨ j = 1 := by omega
    rcases h4 with rfl | rfl
    · exact h0
    · exact h1
  · rintro e w' ⟨j, hj, rfl, hd, hf⟩
    refine ⟨_, ?_, rfl, hd, hf⟩
    have h4 : j = 0 ∨ j = 1 := by omega
    rcases h4 with rfl | rfl <;> simp
theorem wireP_few (j : Nat) (c : Bool) (hj : j < 9) : (wireP j).size ≤ 1000 ∧ (reqT c (wireP j)).size ≤ 1000 := by
  have h := wire_facts j hj c
  exact ⟨by have := (wpathB_is h.path).2; omega, by have := h.small; omega⟩

end Go.Proofs.YthfoabcmgiiadaaGreatDoor

/- ConnS11 -/
namespace Go.Proofs.YthfoabcmgiiadaaGreatDoor
open Go.RowKit Go.Joins
set_option linter.unusedVariables false

theorem slot_read {w : World} {p : Option Addr} {s : List SL} {l : Nat} (hll : s.length = l) (hat : SlotsAt w p s) (k : Nat) (hk : k < l) :
    ∃ (b off : Nat) (q : Int) (r : Bool) (t : ByteArray), p = some ⟨b, off, none⟩ ∧ w.cell? ⟨b, off + k * 3, none⟩ = some (.int .i64 q) ∧ w.cell? ⟨b, off + k * 3 + 1, none⟩ = some (.bool r) ∧ w.cell? ⟨b, off + k * 3 + 2, none⟩ = some (.string t) ∧ s[k]? = some ⟨q, r, t⟩ := by
  subst hll
  obtain ⟨b, off, rfl, q0, q1, q2⟩ := hat k hk
  exact ⟨b, off, _, _, _, rfl, q0, q1, q2, List.getElem?_eq_getElem hk⟩

set_option maxHeartbeats 1000000 in
set_option maxRecDepth 100000 in
theorem specReady_none (c : CN) (v : Value) (seq : Int) (t : ByteArray) (w : World) (hv : RowC w v c.s) (hr : connB c = true) (hno : ∀ x ∈ c.s, x.q ≠ seq) :
    Calls Tryz.prog 60 #[cnV c v, .int .i64 seq, .string t] w fun e w' => AnsD (c, 5) w e w' := by
  have h6 := (connB_few hr).2.2.2
  have HV := hide hv
  obtain ⟨p, cap, rfl, hat⟩ := hv.1.slice
  have HF : Hid (∀ (W : World), Below w.heap.size w W → ∀ k, k < c.s.length → ∃ (b off : Nat) (q : Int), p = some ⟨b, off, none⟩ ∧ W.cell? ⟨b, off + k * 3, none⟩ = some (.int .i64 q) ∧ q ≠ seq) := hide (fun W hb k hk => by
    obtain ⟨b, off, q, r, t, e, q0, _, _, hs⟩ := slot_read rfl (hat.later hb) k hk
    exact ⟨b, off, q, e, q0, hno ⟨q, r, t⟩ (List.mem_of_getElem? hs)⟩)
  obtain ⟨o, e, i, s, n⟩ := c
  dsimp only [cnV] at *
  clear hv hr hat hno
  generalize s.length = l at *
  go_enter Tryz.func60, Tryz.ntmps60
  go_wp2
  go_loop [8] (fun x => ∃ k : Nat, k ≤ l ∧ x = .int .i64 k) (fun x => l - (intOf x).toNat)
  case atStart => exact ⟨0, by omega, rfl⟩
  case round =>
    obtain ⟨k, hk, rfl⟩ := hrel
    by_cases hlt : k < l
    · obtain ⟨b, off, vq, rfl, q0, hne⟩ := unhide HF ((w.alloc (.cells #[.bool o, .bool e, .string i, .slice p l cap, .int .i64 n] 25)).alloc (.cells #[.bool false, .bool false, .string ⟨#[]⟩, .slice none 0 0, .int .i64 0] 25)) (qx_al (qx_alloc _ _)) k hlt
      have hlt' : (k : Int) < (l : Int) := by omega
      have hne' : (vq != seq) = true := by simp [hne]
      clear HF
      go_wp2
      go_round
      case rel => exact ⟨k + 1, by omega, by go_num⟩
      case measure => simp [intOf]; omega
    · have hlt' : ¬ (k : Int) < (l : Int) := by omega
      go_wp2
      refine bodyPost_ret (v := .tuple #[cnV ⟨o, e, i, s, n⟩ (.slice p l cap), .int .i64 5]) (by simp [results, Tryz.results60, go_sem, cnV]) rfl ⟨_, rfl, (unhide HV).later ?_, ?_⟩
      all_goals repeat (first | exact Below.refl _ _ | refine qx_al ?_ | refine qx_set ?_ (by first | exact Nat.le_refl _ | omega | (simp <;> omega)))

set_option maxHeartbeats 1000000 in
set_option maxRecDepth 100000 in
theorem specReady_twice (c : CN) (v : Value) (seq : Int) (t : ByteArray) (w : World) (hv : RowC w v c.s) (hr : connB c = true) (j : Nat) (hj : j < c.s.length) (hq : c.s[j].q = seq) (hb : ∀ i (hi : i < j), (c.s[i]'(by omega)).q ≠ seq) (hrd : c.s[j].r = true) :
    Calls Tryz.prog 60 #[cnV c v, .int .i64 seq, .string t] w fun e w' => AnsD (c, 12) w e w' := by
  have h6 := (connB_few hr).2.2.2
  have HV := hide hv
  obtain ⟨p, cap, rfl, hat⟩ := hv.1.slice
  have HF : Hid (∀ (W : World), Below w.heap.size w W → ∀ k, k < j → ∃ (b off : Nat) (q : Int), p = some ⟨b, off, none⟩ ∧ W.cell? ⟨b, off + k * 3, none⟩ = some (.int .i64 q) ∧ q ≠ seq) := hide (fun W hbW k hk => by
    obtain ⟨b, off, q, r, t, e, q0, _, _, hs⟩ := slot_read rfl (hat.later hbW) k (by omega)
    refine ⟨b, off, q, e, q0, ?_⟩
    have := hb k hk
    rw [List.getElem?_eq_getElem (by omega)] at hs
    rw [Option.some.inj hs] at this
    exact this)
  have HJ : Hid (∀ (W : World), Below w.heap.size w W → ∃ (b off : Nat), p = some ⟨b, off, none⟩ ∧ W.cell? ⟨b, off + j * 3, none⟩ = some (.int .i64 seq) ∧ W.cell? ⟨b, off + j * 3 + 1, none⟩ = some (.bool true)) := hide (fun W hbW => by
    obtain ⟨b, off, e, q0, q1, _⟩ := (hat.later hbW) j hj
    rw [hq] at q0
    rw [hrd] at q1
    exact ⟨b, off, e, q0, q1⟩)
  obtain ⟨o, e, i, s, n⟩ := c
  dsimp only [cnV] at *
  clear hv hr hat hb hq hrd
  generalize s.length = l at *
  go_enter Tryz.func60, Tryz.ntmps60
  go_wp2
  go_loop [8] (fun x => ∃ k : Nat, k ≤ j ∧ x = .int .i64 k) (fun x => l - (intOf x).toNat)
  case atStart => exact ⟨0, by omega, rfl⟩
  case round =>
    obtain ⟨k, hk, rfl⟩ := hrel
    have hlt' : (k : Int) < (l : Int) := by omega
    have hltn : k < l := by omega
    by_cases hlt : k < j
    · obtain ⟨b, off, vq, rfl, q0, hne⟩ := unhide HF ((w.alloc (.cells #[.bool o, .bool e, .string i, .slice p l cap, .int .i64 n] 25)).alloc (.cells #[.bool false, .bool false, .string ⟨#[]⟩, .slice none 0 0, .int .i64 0] 25)) (qx_al (qx_alloc _ _)) k hlt
      have hne' : (vq != seq) = true := by simp [hne]
      clear HF HJ
      go_wp2
      go_round
      case rel => exact ⟨k + 1, by omega, by go_num⟩
      case measure => simp [intOf]; omega
    · obtain rfl : k = j := by omega
      obtain ⟨b, off, rfl, q0, q1⟩ := unhide HJ ((w.alloc (.cells #[.bool o, .bool e, .string i, .slice p l cap, .int .i64 n] 25)).alloc (.cells #[.bool false, .bool false, .string ⟨#[]⟩, .slice none 0 0, .int .i64 0] 25)) (qx_al (qx_alloc _ _))
      have hne' : (seq != seq) = false := by simp
      clear HF HJ
      go_wp2
      refine bodyPost_ret (v := .tuple #[cnV ⟨o, e, i, s, n⟩ (.slice (some ⟨b, off, none⟩) l cap), .int .i64 12]) (by simp [results, Tryz.results60, go_sem, cnV]) rfl ⟨_, rfl, (unhide HV).later ?_, ?_⟩
      all_goals repeat (first | exact Below.refl _ _ | refine qx_al ?_ | refine qx_set ?_ (by first | exact Nat.le_refl _ | omega | (simp <;> omega)))

set_option maxHeartbeats 2000000 in
set_option maxRecDepth 100000 in
theorem specReady_ok (c : CN) (v : Value) (seq : Int) (t : ByteArray) (w : World) (hv : RowC w v c.s) (hr : connB c = true) (j : Nat) (x : SL) (hj : j < c.s.length) (hx : c.s[j] = x) (hq : x.q = seq) (hb : ∀ i (hi : i < j), (c.s[i]'(by omega)).q ≠ seq) (hrd : x.r = false) :
    Calls Tryz.prog 60 #[cnV c v, .int .i64 seq, .string t] w fun e w' => AnsD ({ c with s := c.s.set j ⟨seq, true, t⟩ }, 0) w e w' := by
  have h6 := (connB_few hr).2.2.2
  have HOwn := hide (fun (W : World) (hbW : Below w.heap.size w W) => specOwn_any c v W (hv.1.later hbW) (by omega))
  obtain ⟨p, cap, rfl, hat⟩ := hv.1.slice
  have HF : Hid (∀ (W : World), Below w.heap.size w W → ∀ k, k < j → ∃ (b off : Nat) (q : Int), p = some ⟨b, off, none⟩ ∧ W.cell? ⟨b, off + k * 3, none⟩ = some (.int .i64 q) ∧ q ≠ seq) := hide (fun W hbW k hk => by
    obtain ⟨b, off, q, r, t, e, q0, _, _, hs⟩ := slot_read rfl (hat.later hbW) k (by omega)
    refine ⟨b, off, q, e, q0, ?_⟩
    have := hb k hk
    rw [List.getElem?_eq_getElem (by omega)] at hs
    rw [Option.some.inj hs] at this
    exact this)
  have HJ : Hid (∀ (W : World), Below w.heap.size w W → ∃ (b off : Nat), p = some ⟨b, off, none⟩ ∧ W.cell? ⟨b, off + j * 3, none⟩ = some (.int .i64 seq) ∧ W.cell? ⟨b, off + j * 3 + 1, none⟩ = some (.bool false)) := hide (fun W hbW => by
    obtain ⟨b, off, e, q0, q1, _⟩ := (hat.later hbW) j hj
    rw [hx, hq] at q0
    rw [hx, hrd] at q1
    exact ⟨b, off, e, q0, q1⟩)
  have HX := hide (show c.s[j]? = some x by rw [List.getElem?_eq_getElem hj, hx])
  have HQ := hide hq
  have HRd := hide hrd
  obtain ⟨o, e, i, s, n⟩ := c
  dsimp only [cnV] at *
  clear hv hr hat hb hq hrd hx
  generalize hsl0 : s.length = l at *
  have HSL0 := hide hsl0
  clear hsl0
  go_enter Tryz.func60, Tryz.ntmps60
  go_wp2
  go_loop [8] (fun x => ∃ k : Nat, k ≤ j ∧ x = .int .i64 k) (fun x => l - (intOf x).toNat)
  case atStart => exact ⟨0, by omega, rfl⟩
  case round =>
    obtain ⟨k, hk, rfl⟩ := hrel
    have hlt' : (k : Int) < (l : Int) := by omega
    have hltn : k < l := by omega
    by_cases hlt : k < j
    · obtain ⟨b, off, vq, rfl, q0, hne⟩ := unhide HF ((w.alloc (.cells #[.bool o, .bool e, .string i, .slice p l cap, .int .i64 n] 25)).alloc (.cells #[.bool false, .bool false, .string ⟨#[]⟩, .slice none 0 0, .int .i64 0] 25)) (qx_al (qx_alloc _ _)) k hlt
      have hne' : (vq != seq) = true := by simp [hne]
      clear HF HJ HOwn
      go_wp2
      go_round
      case rel => exact ⟨k + 1, by omega, by go_num⟩
      case measure => simp [intOf]; omega
    · obtain rfl : k = j := by omega
      obtain ⟨b, off, rfl, q0, q1⟩ := unhide HJ ((w.alloc (.cells #[.bool o, .bool e, .string i, .slice p l cap, .int .i64 n] 25)).alloc (.cells #[.bool false, .bool false, .string ⟨#[]⟩, .slice none 0 0, .int .i64 0] 25)) (qx_al (qx_alloc _ _))
      have hne' : (seq != seq) = false := by simp
      have HO := hide (unhide HOwn ((w.alloc (.cells #[.bool o, .bool e, .string i, .slice (some ⟨b, off, none⟩) l cap, .int .i64 n] 25)).alloc (.cells #[.bool false, .bool false, .string ⟨#[]⟩, .slice none 0 0, .int .i64 0] 25)) (qx_al (qx_alloc _ _)))
      clear HF HJ HOwn
      go_wp2_with fail
      refine (unhide HO).mono ?_
      rintro ex y ⟨v2, rfl, hrow, hb2⟩
      dsimp only [cnV]
      have HB2 := hide (qx_trans (qx_al (qx_alloc _ _)) hb2)
      have HZ2 := hide ((ZeroC.new2 w _).later hb2)
      have HC2 := hide (((CnB.new w ⟨o, e, i, s, n⟩ (.slice (some ⟨b, off, none⟩) l cap) w.heap.size rfl).later (qx_alloc _ (.cells #[.bool false, .bool false, .string ⟨#[]⟩, .slice none 0 0, .int .i64 0] 25))).later hb2)
      have hjl : k < s.length := by rw [unhide HSL0]; exact hltn
      have hxj : s[k] = x := (List.getElem?_eq_some_iff.1 (unhide HX)).2
      obtain ⟨p2, k2, hv2⟩ := hrow.slice
      subst hv2
      obtain ⟨vb, rfl, hg1, hg2, hcs⟩ := hrow.opened (by show 0 < s.length; omega)
      obtain ⟨c0, c1, c2⟩ := hcs k hjl
      rw [hxj] at c0 c1 c2
      rw [unhide HRd] at c1
      have fr1 := hrow.free (k * 3 + 1)
      have fr2 := hrow.free (k * 3 + 2)
      have hg1' : w.heap.size + 2 ≤ vb := by simpa using hg1
      have hne1 : vb ≠ w.heap.size := by omega
      have hne2 : vb ≠ w.heap.size + 1 := by omega
      have hne3 : w.heap.size ≠ vb := by omega
      have hne4 : w.heap.size + 1 ≠ vb := by omega
      obtain ⟨a0, a1, a2, a3, a4⟩ := (unhide HZ2).cells
      obtain ⟨f0, f1, f2, f3, f4⟩ := (unhide HZ2).free
      obtain ⟨d0, d1, d2, d3, d4⟩ := (unhide HC2).cells
      obtain ⟨e0, e1, e2, e3, e4⟩ := (unhide HC2).free
      have hn1 : ∀ b, b ≠ vb → ∀ j, (Value.slice (some ⟨vb, 0, none⟩) s.length k2).ownBlock = some j → j ≠ b := fun b hb j hj => by
        have : vb = j := by simpa [Value.ownBlock] using hj
        omega
      have hr5 := ((((hrow.apart (b := w.heap.size) (o := 0) (u := .bool o) (hn1 _ hne3)).apart (b := w.heap.size) (o := 1) (u := .bool e) (hn1 _ hne3)).apart (b := w.heap.size) (o := 2) (u := .string i) (hn1 _ hne3)).apart (b := w.heap.size) (o := 3) (u := .slice (some ⟨vb, 0, none⟩) s.length k2) (hn1 _ hne3)).apart (b := w.heap.size) (o := 4) (u := .int .i64 n) (hn1 _ hne3)
      have hS := hr5.store k 1 hjl (by omega) (.bool true) ⟨x.q, true, x.t⟩ (by rw [hxj]; rfl)
      have hS2 := hS.store k 2 (by rw [List.length_set]; exact hjl) (by omega) (.string t) ⟨x.q, true, t⟩ (by rw [List.getElem_set_self]; rfl)
      rw [List.set_set, unhide HQ] at hS2
      have HS2 := hide hS2
      have HZ9 := hide ((((((((unhide HZ2).set (k := w.heap.size) (o := 0) (u := .bool o) (by omega)).set (k := w.heap.size) (o := 1) (u := .bool e) (by omega)).set (k := w.heap.size) (o := 2) (u := .string i) (by omega)).set (k := w.heap.size) (o := 3) (u := .slice (some ⟨vb, 0, none⟩) s.length k2) (by omega)).set (k := w.heap.size) (o := 4) (u := .int .i64 n) (by omega)).set (k := vb) (o := k * 3 + 1) (u := .bool true) (by omega)).set (k := vb) (o := k * 3 + 2) (u := .string t) (by omega))
      have HB9 := hide (qx_set (o := k * 3 + 2) (v := .string t) (qx_set (o := k * 3 + 1) (v := .bool true) (fiveC.below (g := w.heap.size) (c := ⟨o, e, i, s, n⟩) (v := .slice (some ⟨vb, 0, none⟩) s.length k2) (unhide HB2) (Nat.le_refl _)) (show w.heap.size ≤ vb by omega)) (show w.heap.size ≤ vb by omega))
      have hkl : (k : Int) < (s.length : Int) := by omega
      have HN := hide (hn1 (w.heap.size + 1) hne4)
      clear hr5 hS hS2 hcs hxj HC2 HZ2 HB2 HX hb2 hrow hjl hn1
      generalize s.length = ls at *
      go_wp2
      refine bodyPost_ret (v := .tuple #[cnV ⟨o, e, i, s.set k ⟨seq, true, t⟩, n⟩ (.slice (some ⟨vb, 0, none⟩) ls k2), .int .i64 0]) ?_ rfl ⟨_, rfl, SlBuf.rowC ((((((unhide HS2).apart (unhide HN)).apart (unhide HN)).apart (unhide HN)).apart (unhide HN)).apart (unhide HN)), fiveC.below (c := ⟨o, e, i, s.set k ⟨seq, true, t⟩, n⟩) (v := .slice (some ⟨vb, 0, none⟩) ls k2) (unhide HB9) (Nat.le_succ _)⟩
      have hld := (unhide HZ9).load ⟨o, e, i, s.set k ⟨seq, true, t⟩, n⟩ (.slice (some ⟨vb, 0, none⟩) ls k2)
      simp only [fiveC] at hld
      simp [results, Tryz.results60, asAddr, Result.andThen, hld]

theorem specReady_any (c : CN) (v : Value) (seq : Int) (t : ByteArray) (w : World) (hv : RowC w v c.s) (hr : connB c = true) (ht : 1 ≤ t.size ∧ t.size ≤ 300) :
    Calls Tryz.prog 60 #[cnV c v, .int .i64 seq, .string t] w fun e w' => AnsD (readyC c seq t) w e w' := by
  rw [readyC_is hr ht]
  rcases find_first c.s seq with h | ⟨j, hj, hq, hb⟩
  · rw [readyL_none _ _ _ h]; exact specReady_none c v seq t w hv hr h
  · rw [readyL_at _ _ _ j hj hq hb]
    cases hrd : c.s[j].r
    · rw [if_neg (by simp)]
      exact specReady_ok c v seq t w hv hr j _ hj rfl hq hb hrd
    · rw [if_pos rfl]
      exact specReady_twice c v seq t w hv hr j hj hq hb hrd

end Go.Proofs.YthfoabcmgiiadaaGreatDoor
