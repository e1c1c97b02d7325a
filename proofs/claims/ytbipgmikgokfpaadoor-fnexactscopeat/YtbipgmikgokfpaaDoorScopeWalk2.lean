/- What a function, or the outmost block, begins with: the specification's scope. -/
import Derived.Test.YtbipgmikgokfpaaDoorScopeWalk
namespace Go.Proofs.YtbipgmikgokfpaaDoor
open Go.RowKit Go.Joins
set_option linter.unusedVariables false

/-- a scope that goes over names -/
def ScAt (w : World) (X : Nat) (t0 t1 v : Value) (st mo fc fn : Int) : Prop := w.heap[X]? = some (.cells #[t0, t1, v, .int .i64 st, .int .i64 mo, .int .i64 fc, .int .i64 fn] 102 (0, 0))
theorem ScAt.same {w w' : World} {X : Nat} {t0 t1 v : Value} {st mo fc fn : Int} (h : ScAt w X t0 t1 v st mo fc fn) (hb : w'.heap[X]? = w.heap[X]?) : ScAt w' X t0 t1 v st mo fc fn := by unfold ScAt; rw [hb]; exact h
theorem ScAt.lt {w : World} {X : Nat} {t0 t1 v : Value} {st mo fc fn : Int} (h : ScAt w X t0 t1 v st mo fc fn) : X < w.heap.size := (Array.getElem?_eq_some_iff.1 h).1
theorem ScAt.later {w w' : World} {X : Nat} {t0 t1 v : Value} {st mo fc fn : Int} (h : ScAt w X t0 t1 v st mo fc fn) (hb : Below w.heap.size w w') : ScAt w' X t0 t1 v st mo fc fn := h.same (hb.block X h.lt)
theorem ScAt.cells {w : World} {X : Nat} {t0 t1 v : Value} {st mo fc fn : Int} (h : ScAt w X t0 t1 v st mo fc fn) : w.cell? ⟨X, 0, none⟩ = some t0 ∧ w.cell? ⟨X, 1, none⟩ = some t1 ∧ w.cell? ⟨X, 2, none⟩ = some v ∧ w.cell? ⟨X, 3, none⟩ = some (.int .i64 st) ∧ w.cell? ⟨X, 4, none⟩ = some (.int .i64 mo) ∧ w.cell? ⟨X, 5, none⟩ = some (.int .i64 fc) ∧ w.cell? ⟨X, 6, none⟩ = some (.int .i64 fn) :=
  ⟨(cell_of_block h 0).trans rfl, (cell_of_block h 1).trans rfl, (cell_of_block h 2).trans rfl, (cell_of_block h 3).trans rfl, (cell_of_block h 4).trans rfl, (cell_of_block h 5).trans rfl, (cell_of_block h 6).trans rfl⟩
theorem ScAt.free {w : World} {X : Nat} {t0 t1 v : Value} {st mo fc fn : Int} (h : ScAt w X t0 t1 v st mo fc fn) (i : Nat) : w.frozen? ⟨X, i, none⟩ = false := unfrozen_of_block h i
theorem ScAt.set2 {w : World} {X : Nat} {t0 t1 v : Value} {st mo fc fn : Int} (h : ScAt w X t0 t1 v st mo fc fn) (u : Value) : ScAt (w.setCell ⟨X, 2, none⟩ u) X t0 t1 u st mo fc fn := (block_setCell h u).trans rfl
theorem ScAt.set4 {w : World} {X : Nat} {t0 t1 v : Value} {st mo fc fn : Int} (h : ScAt w X t0 t1 v st mo fc fn) (u : Int) : ScAt (w.setCell ⟨X, 4, none⟩ (.int .i64 u)) X t0 t1 v st u fc fn := (block_setCell h _).trans rfl
theorem ScAt.set5 {w : World} {X : Nat} {t0 t1 v : Value} {st mo fc fn : Int} (h : ScAt w X t0 t1 v st mo fc fn) (u : Int) : ScAt (w.setCell ⟨X, 5, none⟩ (.int .i64 u)) X t0 t1 v st mo u fn := (block_setCell h _).trans rfl
theorem ScAt.set6 {w : World} {X : Nat} {t0 t1 v : Value} {st mo fc fn : Int} (h : ScAt w X t0 t1 v st mo fc fn) (u : Int) : ScAt (w.setCell ⟨X, 6, none⟩ (.int .i64 u)) X t0 t1 v st mo fc u := (block_setCell h _).trans rfl
theorem StrBuf.keep {w w' : World} {base X : Nat} {v : Value} {zs : List ByteArray} (h : StrBuf w base v zs) (hk : Keep X w w') (hx : ∀ j, v.ownBlock = some j → j ≠ X) : StrBuf w' base v zs := by
  have hlt := h.own_lt
  refine ⟨h.1, ?_⟩
  rcases h.2 with h' | ⟨g, cap, cur, e, hg, hgg, r⟩
  · exact .inl h'
  · refine .inr ⟨g, cap, cur, e, hg, ?_, r⟩
    rw [hk.block g (Array.getElem?_eq_some_iff.1 hgg).1 (hx g (by rw [e]; rfl))]; exact hgg

set_option maxRecDepth 100000 in
theorem scopeFail_any (X : Nat) (t0 t1 v : Value) (st mo fc fn c n : Int) (w : World) (h : ScAt w X t0 t1 v st mo fc fn) :
    Calls Tryd.prog 134 #[.pointer (some ⟨X, 0, none⟩), .int .i64 c, .int .i64 n] w fun e w' => e = .returned (.tuple #[]) ∧ (∃ fc' fn', ScAt w' X t0 t1 v st mo fc' fn') ∧ Keep X w w' ∧ w'.heap.size = w.heap.size := by
  obtain ⟨_, _, _, _, _, c5, c6⟩ := h.cells
  have f := h.free
  have H := hide h
  clear h
  by_cases h0 : fc = 0
  · subst h0
    have hD : Hid (ScAt ((w.setCell ⟨X, 5, none⟩ (.int .i64 c)).setCell ⟨X, 6, none⟩ (.int .i64 n)) X t0 t1 v st mo c n) := hide (((unhide H).set5 c).set6 n)
    go_enter Tryd.func134, Tryd.ntmps134
    go_wp2
    go_end0
    exact ⟨rfl, ⟨c, n, unhide hD⟩, ((Keep.refl _ _).set_it).set_it, by simp⟩
  · have e0 : (fc == 0) = false := beq_eq_false_iff_ne.2 h0
    go_enter Tryd.func134, Tryd.ntmps134
    go_wp2
    go_end0
    exact ⟨rfl, ⟨fc, fn, unhide H⟩, Keep.refl _ _, rfl⟩

def BringPost (X base : Nat) (t0 t1 : Value) (zs : List ByteArray) (w w' : World) : Prop := ∃ v' mo' fc' fn', ScAt w' X t0 t1 v' 0 ((mo' : Nat) : Int) fc' fn' ∧ StrBuf w' base v' zs ∧ (∀ j, v'.ownBlock = some j → j ≠ X) ∧ Keep X w w'
set_option maxHeartbeats 2000000 in
set_option maxRecDepth 100000 in
theorem scopeBring_any (X base : Nat) (t0 t1 v : Value) (mo : Nat) (fc fn n : Int) (zs : List ByteArray) (s : ByteArray) (w : World) (h : ScAt w X t0 t1 v 0 (mo : Int) fc fn) (hS : StrBuf w base v zs) (hX : ∀ j, v.ownBlock = some j → j ≠ X) (hb : base ≤ w.heap.size) (hl : zs.length ≤ 1048576) (hss : s.size ≤ maxLen) :
    Calls Tryd.prog 103 #[.pointer (some ⟨X, 0, none⟩), .string s, .int .i64 n] w fun e w' => e = .returned (.tuple #[]) ∧ BringPost X base t0 t1 (zs ++ [s]) w w' := by
  obtain ⟨a, cap, rfl, hst⟩ := hS.strs
  have hXl := h.lt
  obtain ⟨_, _, c2, c3, _⟩ := h.cells
  have H := hide h
  have HS := hide hS
  have HX := hide hX
  clear h hS hX hst
  go_enter Tryd.func103, Tryd.ntmps103
  go_wp2
  go_loopw [6] (fun i wx => ∃ (k : Nat) (fc fn : Int), k ≤ zs.length ∧ i = .int .i64 k ∧ Hid (ScAt wx X t0 t1 (.slice a zs.length cap) 0 (mo : Int) fc fn) ∧ Hid (Keep X w wx) ∧ Hid (wx.heap.size = w.heap.size)) (fun i _ => zs.length - (intOf i).toNat)
  case atStart => exact ⟨0, fc, fn, by omega, rfl, H, hide (Keep.refl _ _), hide rfl⟩
  case round =>
    clear H c2 c3
    obtain ⟨k, fc, fn, hk, rfl, H, hK, hsz⟩ := hrel
    obtain ⟨_, _, c2, c3, c4, c5, c6⟩ := (unhide H).cells
    have HSx := hide ((unhide HS).keep (unhide hK) (unhide HX))
    have hXr : X < wr.heap.size := (unhide H).lt
    by_cases hlt : k < zs.length
    · obtain ⟨a', cap', ea, hat⟩ := (unhide HSx).strs
      injection ea with ea1 _ ea2
      subst ea1 ea2
      obtain ⟨b, off, rfl, q0⟩ := hat k hlt
      generalize zs[k] = u at q0
      clear hat
      by_cases hu : u = s
      · subst hu
        have e1 := ba_self u
        have e2 := bl_self u
        go_wp2_with fail
        refine (scopeFail_any X t0 t1 _ 0 (mo : Int) fc fn 12 n wr (unhide H)).mono ?_
        rintro e w1 ⟨rfl, ⟨fc', fn', hA⟩, hK1, hs1'⟩
        have hs1 : Hid (w1.heap.size = w.heap.size) := hide (hs1'.trans (unhide hsz))
        clear hs1'
        have HA := hide hA
        have HK1 := hide ((unhide hK).trans hK1)
        clear hA hK1
        go_wp2
        go_roundw
        case rel => exact ⟨k + 1, fc', fn', by omega, by go_num, hide (unhide HA), hide (unhide HK1), hide (unhide hs1)⟩
        case measure => simp [intOf]; omega
      · have e1 := ba_ne hu
        have e2 := bl_ne hu
        clear hu
        go_wp2
        go_roundw
        case rel => exact ⟨k + 1, fc, fn, by omega, by go_num, hide (unhide H), hide (unhide hK), hide (unhide hsz)⟩
        case measure => simp [intOf]; omega
    · have HE : Hid (StrBuf (wr.alloc (.cells #[] 9)) wr.heap.size (.slice (some ⟨wr.heap.size, 0, none⟩) 0 0) []) := hide (by simpa using StrBuf.lit wr wr.heap.size [] (Nat.le_refl _) (by decide))
      go_wp2_with (at_builtin; refine wp_appBuf _ rfl _ _ rfl wr.heap.size base _ _ [] zs rfl (unhide HE) rfl ((unhide HSx).alloc _) ?c1 ?c2 ?c3)
      case c1 => simp
      case c2 => simp; omega
      case c3 =>
        intro v1 w1 hS1 hb1
        have HS1 := hide hS1
        have HB1 := hide (((Below.refl wr.heap.size wr).alloc (Nat.le_refl _) _).trans hb1)
        clear hS1 hb1
        have hw1 : wr.heap.size ≤ w1.heap.size := (unhide HB1).size
        go_wp2_with (at_builtin; refine wp_appStr _ rfl _ _ rfl wr.heap.size w1.heap.size _ zs s rfl ((unhide HS1).alloc _) rfl (by simp) ?c1 ?c2 ?c3)
        case c1 => simp; omega
        case c2 => omega
        case c3 =>
          intro v2 w2 hS2 hb2
          obtain ⟨p2, cap2, rfl⟩ := hS2.slice
          have HB2 := hide (((unhide HB1).alloc hw1 _).trans hb2)
          have hw2 : wr.heap.size ≤ w2.heap.size := (unhide HB2).size
          have HA2 := hide ((unhide H).same ((unhide HB2).block X (by have := (unhide H).lt; omega)))
          obtain ⟨_, _, d2, d3, d4, d5, d6⟩ := (unhide HA2).cells
          have f2 := (unhide HA2).free
          have hlen : (zs ++ [s]).length = zs.length + 1 := by simp
          rw [hlen] at hS2 ⊢
          have hnl1 : zs.length + 1 ≤ 1048577 := by omega
          generalize zs.length + 1 = nl at hS2 hnl1 ⊢
          have HS2 := hide hS2
          have hxo : Hid (∀ j, (Value.slice p2 nl cap2).ownBlock = some j → j ≠ X) := hide (fun j hj => by
            have := ((unhide HS2).own_lt j hj).1
            omega)
          have hXw2 : X < w2.heap.size := by omega
          have HSB : Hid (wr.heap.size = w.heap.size) := hsz
          clear hS2 hb2 c2 c3 c4 c5 c6 hlen
          have FIN : Hid (∀ mo' : Nat, ScAt ((w2.setCell ⟨X, 2, none⟩ (.slice p2 nl cap2)).setCell ⟨X, 4, none⟩ (.int .i64 (mo' : Int))) X t0 t1 (.slice p2 nl cap2) 0 (mo' : Int) fc fn ∧ Keep X w ((w2.setCell ⟨X, 2, none⟩ (.slice p2 nl cap2)).setCell ⟨X, 4, none⟩ (.int .i64 (mo' : Int))).drew ∧ StrBuf ((w2.setCell ⟨X, 2, none⟩ (.slice p2 nl cap2)).setCell ⟨X, 4, none⟩ (.int .i64 (mo' : Int))) base (.slice p2 nl cap2) (zs ++ [s])) := hide (fun mo' => ⟨((unhide HA2).set2 _).set4 _, (((unhide hK).then_below (unhide HB2)).set_it.set_it).drew, ownsRow_le ((unhide HS2).keep ((Keep.refl X w2).set_it.set_it) (unhide hxo)) (by have := unhide hsz; omega)⟩)
          have TAIL : Hid (∀ (mo' : Nat) (w3 : World) (fc' fn' : Int), ScAt w3 X t0 t1 (.slice p2 nl cap2) 0 (mo' : Int) fc' fn' → Keep X ((w2.setCell ⟨X, 2, none⟩ (.slice p2 nl cap2)).setCell ⟨X, 4, none⟩ (.int .i64 (mo' : Int))).drew w3 → BringPost X base t0 t1 (zs ++ [s]) w w3) := hide (fun mo' w3 fc' fn' hA hKK => ⟨_, mo', fc', fn', hA, ((unhide FIN mo').2.2).keep ⟨hKK.os, hKK.tape, hKK.output, hKK.size, hKK.block⟩ (unhide hxo), unhide hxo, (unhide FIN mo').2.1.trans hKK⟩)
          go_upto_region 6 with fail
          by_cases hmn : mo < nl
          · have hmn' : (mo : Int) < (nl : Int) := by omega
            go_region
            have HA4 : Hid (ScAt ((w2.setCell ⟨X, 2, none⟩ (.slice p2 nl cap2)).setCell ⟨X, 4, none⟩ (.int .i64 (nl : Int))).drew X t0 t1 (.slice p2 nl cap2) 0 (nl : Int) fc fn) := hide (unhide FIN nl).1
            have T4 := hide (unhide TAIL nl)
            generalize ((w2.setCell ⟨X, 2, none⟩ (.slice p2 nl cap2)).setCell ⟨X, 4, none⟩ (.int .i64 (nl : Int))).drew = w4 at HA4 T4 ⊢
            obtain ⟨_, _, x2, x3, x4, x5, x6⟩ := (unhide HA4).cells
            clear d2 d3 d4 d5 d6 f2 FIN TAIL
            by_cases h20 : 20 < nl
            · go_wp2_with fail
              refine (scopeFail_any X t0 t1 _ 0 (nl : Int) fc fn 7 n w4 (unhide HA4)).mono ?_
              rintro e w5 ⟨rfl, ⟨fc', fn', hA⟩, hK5, hs5⟩
              have HF := hide (unhide T4 w5 fc' fn' hA hK5)
              clear hA hK5 hs5
              go_wp2
              go_end0
              exact ⟨rfl, unhide HF⟩
            · have HF := hide (unhide T4 w4 fc fn (unhide HA4) (Keep.refl _ _))
              go_wp2
              go_end0
              exact ⟨rfl, unhide HF⟩
          · have hmn' : ¬ (mo : Int) < (nl : Int) := by omega
            go_region
            have HA4 : Hid (ScAt ((w2.setCell ⟨X, 2, none⟩ (.slice p2 nl cap2)).setCell ⟨X, 4, none⟩ (.int .i64 (mo : Int))).drew X t0 t1 (.slice p2 nl cap2) 0 (mo : Int) fc fn) := hide (unhide FIN mo).1
            have T4 := hide (unhide TAIL mo)
            generalize ((w2.setCell ⟨X, 2, none⟩ (.slice p2 nl cap2)).setCell ⟨X, 4, none⟩ (.int .i64 (mo : Int))).drew = w4 at HA4 T4 ⊢
            obtain ⟨_, _, x2, x3, x4, x5, x6⟩ := (unhide HA4).cells
            clear d2 d3 d4 d5 d6 f2 FIN TAIL
            by_cases h20 : 20 < nl
            · go_wp2_with fail
              refine (scopeFail_any X t0 t1 _ 0 (mo : Int) fc fn 7 n w4 (unhide HA4)).mono ?_
              rintro e w5 ⟨rfl, ⟨fc', fn', hA⟩, hK5, hs5⟩
              have HF := hide (unhide T4 w5 fc' fn' hA hK5)
              clear hA hK5 hs5
              go_wp2
              go_end0
              exact ⟨rfl, unhide HF⟩
            · have HF := hide (unhide T4 w4 fc fn (unhide HA4) (Keep.refl _ _))
              go_wp2
              go_end0
              exact ⟨rfl, unhide HF⟩

theorem push3 {α : Type} (h : Array α) (a b c : α) : (((h.push a).push b).push c)[h.size + 1 + 1]? = some c := by
  have e : ((h.push a).push b).size = h.size + 1 + 1 := by simp
  rw [← e, Array.getElem?_push_size]

set_option maxHeartbeats 2000000 in
set_option maxRecDepth 100000 in
theorem l04Start_fun (ns : List TN) (root : Int) (a : Nat) (n : TN) (L : Lay) (w : World) (hN : NodesAt w L ns) (hsm : Small ns) (hn : ns[a]? = some n) (hr : (a : Int) ≠ root) :
    Calls Tryd.prog 77 #[.agg #[.slice L.p ns.length L.cap, .int .i64 root], .int .i64 (a : Int)] w fun e w' => ∃ X v, e = .returned (.pointer (some ⟨X, 0, none⟩)) ∧ w'.cell? ⟨X, 2, none⟩ = some v ∧ StrBuf w' w.heap.size v n.names ∧ Below w.heap.size w w' := by
  obtain ⟨ha, hxe⟩ := List.getElem?_eq_some_iff.1 hn
  have hnl : n.names.length ≤ 1048576 := (hsm.2 n (List.mem_of_getElem? hn)).2.1
  have HZ := hide ((hsm.2 n (List.mem_of_getElem? hn)).2.2.2)
  have hal := hsm.1
  have HN := hide hN
  have HXE := hide hxe
  have e1 : ((a : Int) == root) = false := beq_eq_false_iff_ne.2 hr
  have HL0 : Hid (StrBuf (w.alloc (.cells #[.slice L.p ns.length L.cap, .int .i64 root] 25) |>.alloc (.cells #[] 9)) w.heap.size (.slice (some ⟨w.heap.size + 1, 0, none⟩) 0 0) []) := hide (by
    have := StrBuf.lit (w.alloc (.cells #[.slice L.p ns.length L.cap, .int .i64 root] 25)) w.heap.size [] (by simp) (by decide)
    simpa using this)
  clear hN hsm hn hr hxe
  go_enter Tryd.func77, Tryd.ntmps77
  go_wp2
  have HA0 : Hid (ScAt (((w.alloc (.cells #[.slice L.p ns.length L.cap, .int .i64 root] 25)).alloc (.cells #[] 9)).alloc (.cells #[.slice L.p ns.length L.cap, .int .i64 root, .slice (some ⟨w.heap.size + 1, 0, none⟩) 0 0, .int .i64 0, .int .i64 0, .int .i64 0, .int .i64 0] 102)) (w.heap.size + 1 + 1) (.slice L.p ns.length L.cap) (.int .i64 root) (.slice (some ⟨w.heap.size + 1, 0, none⟩) 0 0) 0 ((0 : Nat) : Int) 0 0) := hide (by
    exact push3 _ _ _ _)
  have HB0 : Hid (Below w.heap.size w (((w.alloc (.cells #[.slice L.p ns.length L.cap, .int .i64 root] 25)).alloc (.cells #[] 9)).alloc (.cells #[.slice L.p ns.length L.cap, .int .i64 root, .slice (some ⟨w.heap.size + 1, 0, none⟩) 0 0, .int .i64 0, .int .i64 0, .int .i64 0, .int .i64 0] 102))) := hide (nx_al (nx_al (nx_alloc _ _)))
  have HT0 : Hid ((((w.alloc (.cells #[.slice L.p ns.length L.cap, .int .i64 root] 25)).alloc (.cells #[] 9)).alloc (.cells #[.slice L.p ns.length L.cap, .int .i64 root, .slice (some ⟨w.heap.size + 1, 0, none⟩) 0 0, .int .i64 0, .int .i64 0, .int .i64 0, .int .i64 0] 102)).cell? ⟨w.heap.size, 0, none⟩ = some (.slice L.p ns.length L.cap)) := hide (cell_later (nx_alloc _ _) (cell_later (nx_alloc _ _) (by simp)))
  have HS0 := hide ((unhide HL0).alloc (.cells #[.slice L.p ns.length L.cap, .int .i64 root, .slice (some ⟨w.heap.size + 1, 0, none⟩) 0 0, .int .i64 0, .int .i64 0, .int .i64 0, .int .i64 0] 102))
  clear HL0
  generalize (((w.alloc (.cells #[.slice L.p ns.length L.cap, .int .i64 root] 25)).alloc (.cells #[] 9)).alloc (.cells #[.slice L.p ns.length L.cap, .int .i64 root, .slice (some ⟨w.heap.size + 1, 0, none⟩) 0 0, .int .i64 0, .int .i64 0, .int .i64 0, .int .i64 0] 102)) = w3 at HA0 HB0 HT0 HS0 ⊢
  go_loopw [6] (fun i wx => ∃ (k mo : Nat) (fc fn : Int) (v : Value), k ≤ n.names.length ∧ i = .int .i64 k ∧ Hid (ScAt wx (w.heap.size + 1 + 1) (.slice L.p ns.length L.cap) (.int .i64 root) v 0 (mo : Int) fc fn) ∧ Hid (StrBuf wx w.heap.size v (n.names.take k)) ∧ Hid (∀ j, v.ownBlock = some j → j ≠ w.heap.size + 1 + 1) ∧ Hid (Below w.heap.size w wx) ∧ Hid (wx.cell? ⟨w.heap.size, 0, none⟩ = some (.slice L.p ns.length L.cap))) (fun i _ => n.names.length - (intOf i).toNat)
  case atStart => exact ⟨0, 0, 0, 0, _, by omega, rfl, HA0, hide (by simpa using unhide HS0), hide (fun j hj => by simp [Value.ownBlock] at hj; omega), HB0, HT0⟩
  case round =>
    clear HA0 HB0 HT0 HS0
    obtain ⟨k, mo, fc, fn, v, hk, rfl, H, hS, hX, hB, hT⟩ := hrel
    have t0 := unhide hT
    obtain ⟨b, off, hp, q0, q1, q2, q3, q4, q5, q6⟩ := (unhide HN).later (unhide hB) a ha
    rw [unhide HXE] at q3 q5
    obtain ⟨_, _, c2, _⟩ := (unhide H).cells
    have hXr : w.heap.size + 1 + 1 < wr.heap.size := (unhide H).lt
    rw [hp] at t0
    clear q0 q1 q2 q4 q6
    by_cases hlt : k < n.names.length
    · obtain ⟨bn, on, hpn, y0⟩ := q5 k hlt
      rw [hpn] at q3
      have hsz := unhide HZ n.names[k] (List.getElem_mem hlt)
      have HTK : Hid (n.names.take k ++ [n.names[k]] = n.names.take (k + 1)) := hide (List.take_succ_eq_append_getElem hlt).symm
      have HC := hide (scopeBring_any (w.heap.size + 1 + 1) w.heap.size (.slice L.p ns.length L.cap) (.int .i64 root) v mo fc fn (a : Int) (n.names.take k) n.names[k] wr (unhide H) (unhide hS) (unhide hX) (by omega) (by rw [List.length_take]; omega) (by unfold maxLen; omega))
      rw [unhide HTK] at HC
      clear HTK hpn q5 hp
      generalize n.names[k] = u at y0 HC hsz
      go_wp2_with fail
      refine (unhide HC).mono ?_
      rintro e w4 ⟨rfl, v', mo', fc', fn', hA, hS4, hX4, hK4⟩
      have HA := hide hA
      have HS4 := hide hS4
      have HX4 := hide hX4
      have HB4 : Hid (Below w.heap.size w w4) := hide ((unhide hB).trans (hK4.below (by omega) (by omega)))
      have HT4 : Hid (w4.cell? ⟨w.heap.size, 0, none⟩ = some (.slice L.p ns.length L.cap)) := hide (by rw [hK4.cell (by omega) (by omega)]; exact unhide hT)
      clear hA hS4 hX4 hK4 HC
      go_wp2
      go_roundw
      case rel => exact ⟨k + 1, mo', fc', fn', v', by omega, by go_num, hide (unhide HA), hide (unhide HS4), hide (unhide HX4), hide (unhide HB4), hide (unhide HT4)⟩
      case measure => simp [intOf]; omega
    · have hE : Hid (StrBuf wr w.heap.size v n.names) := hide (by
        have := unhide hS
        rw [show k = n.names.length by omega, List.take_length] at this
        exact this)
      have hC2 := hide c2
      clear q5 hp
      go_wp2
      go_ret
      exact ⟨_, v, rfl, unhide hC2, unhide hE, unhide hB⟩

set_option maxHeartbeats 2000000 in
set_option maxRecDepth 100000 in
theorem l04Start_top (ns : List TN) (root : Int) (L : Lay) (w : World) :
    Calls Tryd.prog 77 #[.agg #[.slice L.p ns.length L.cap, .int .i64 root], .int .i64 root] w fun e w' => ∃ X v, e = .returned (.pointer (some ⟨X, 0, none⟩)) ∧ w'.cell? ⟨X, 2, none⟩ = some v ∧ StrBuf w' w.heap.size v [pathB] ∧ Below w.heap.size w w' := by
  have e1 : (root == root) = true := by simp
  have HL0 : Hid (StrBuf (w.alloc (.cells #[.slice L.p ns.length L.cap, .int .i64 root] 25) |>.alloc (.cells #[] 9)) w.heap.size (.slice (some ⟨w.heap.size + 1, 0, none⟩) 0 0) []) := hide (by
    have := StrBuf.lit (w.alloc (.cells #[.slice L.p ns.length L.cap, .int .i64 root] 25)) w.heap.size [] (by simp) (by decide)
    simpa using this)
  have HA0 : Hid (ScAt (((w.alloc (.cells #[.slice L.p ns.length L.cap, .int .i64 root] 25)).alloc (.cells #[] 9)).alloc (.cells #[.slice L.p ns.length L.cap, .int .i64 root, .slice (some ⟨w.heap.size + 1, 0, none⟩) 0 0, .int .i64 0, .int .i64 0, .int .i64 0, .int .i64 0] 102)) (w.heap.size + 1 + 1) (.slice L.p ns.length L.cap) (.int .i64 root) (.slice (some ⟨w.heap.size + 1, 0, none⟩) 0 0) 0 ((0 : Nat) : Int) 0 0) := hide (by
    exact push3 _ _ _ _)
  have HB0 : Hid (Below w.heap.size w (((w.alloc (.cells #[.slice L.p ns.length L.cap, .int .i64 root] 25)).alloc (.cells #[] 9)).alloc (.cells #[.slice L.p ns.length L.cap, .int .i64 root, .slice (some ⟨w.heap.size + 1, 0, none⟩) 0 0, .int .i64 0, .int .i64 0, .int .i64 0, .int .i64 0] 102))) := hide (nx_al (nx_al (nx_alloc _ _)))
  have HS0 := hide ((unhide HL0).alloc (.cells #[.slice L.p ns.length L.cap, .int .i64 root, .slice (some ⟨w.heap.size + 1, 0, none⟩) 0 0, .int .i64 0, .int .i64 0, .int .i64 0, .int .i64 0] 102))
  clear HL0
  go_enter Tryd.func77, Tryd.ntmps77
  go_wp2_with fail
  refine (scopeBring_any (w.heap.size + 1 + 1) w.heap.size (.slice L.p ns.length L.cap) (.int .i64 root) _ 0 0 0 root [] pathB _ (unhide HA0) (unhide HS0) (fun j hj => by simp [Value.ownBlock] at hj; omega) (by simp; omega) (by simp) (by decide)).mono ?_
  rintro e w4 ⟨rfl, v', mo', fc', fn', hA, hS4, hX4, hK4⟩
  have c2 := hide hA.cells.2.2.1
  have HS4 := hide hS4
  have HB4 : Hid (Below w.heap.size w w4) := hide ((unhide HB0).trans (hK4.below (by omega) (by simp; omega)))
  clear hA hS4 hX4 hK4
  go_wp2
  go_ret
  exact ⟨_, v', rfl, unhide c2, by simpa using unhide HS4, unhide HB4⟩

end Go.Proofs.YtbipgmikgokfpaaDoor
