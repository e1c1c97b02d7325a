/- The law on tokens read back. -/
import Derived.Test.YtckdacbopejdmaaDoorLexWalk4
import Derived.Test.YtckdacbopejdmaaDoorJoinWalk
import Derived.Test.YtckdacbopejdmaaDoorAnyWalk5
import Derived.Test.YtckdacbopejdmaaDoorRowOf
import Derived.Deep.QuietTactic
import Derived.BigQuiet
namespace Go.Proofs.YtckdacbopejdmaaDoor
open Go.RowKit Go.Joins
set_option linter.unusedVariables false

theorem nx_drewN {B : Nat} {a b : World} {n : Nat} (h : Below B a b) : Below B a (b.drewN n) := ⟨h.os, h.tape, h.output, h.size, h.block⟩

set_option maxHeartbeats 4000000 in
theorem sameTokens_same (p q : Option Addr) (vs : List V3) (c d : Nat) (w : World) (hlen : vs.length ≤ 1048576) (ha : ToksAt w p vs) (hb : ToksAt w q vs) :
    Calls Tryd.prog 21 #[.slice p vs.length c, .slice q vs.length d] w fun e w' => e = .returned (.bool true) ∧ Below w.heap.size w w' := by
  have HA := hide ha
  have HB := hide hb
  clear ha hb
  go_enter Tryd.func21, Tryd.ntmps21
  go_wp2
  go_loopw [5] (fun i wx => ∃ k : Nat, k ≤ vs.length ∧ i = .int .i64 k ∧ Below w.heap.size w wx) (fun i _ => vs.length - (intOf i).toNat)
  case atStart => exact ⟨0, by omega, rfl, Below.refl _ _⟩
  case round =>
    obtain ⟨k, hk, rfl, hnx⟩ := hrel
    by_cases hlt : k < vs.length
    · obtain ⟨b1, o1, rfl, q0, q1, q2⟩ := (unhide HA).later hnx k hlt
      obtain ⟨b2, o2, rfl, r0, r1, r2⟩ := (unhide HB).later hnx k hlt
      have hlt' : (k : Int) < (vs.length : Int) := by omega
      generalize vs[k].k = vk at q0 r0
      generalize vs[k].n = vn at q1 r1
      generalize vs[k].t = vt at q2 r2
      go_wp2
      go_region
      all_goals go_wp2
      all_goals (go_roundw; (case rel => exact ⟨k + 1, by omega, by go_num, (by repeat (first | exact Below.refl _ _ | assumption | refine nx_al ?_ | refine nx_drew ?_ | refine nx_trans ?_ (by assumption)))⟩); (case measure => simp [intOf]; omega))
    · go_wp2
      go_ret
      exact ⟨rfl, hnx⟩

theorem sameTokens_bufs {b b' : Nat} {v v' : Value} {vs : List V3} (w : World) (h : TokBuf w b v vs) (h' : TokBuf w b' v' vs) (hl : vs.length ≤ 300) :
    Calls Tryd.prog 21 #[v, v'] w fun e w' => e = .returned (.bool true) ∧ Below w.heap.size w w' := by
  obtain ⟨a, cap, rfl, ha⟩ := h.toks
  obtain ⟨a', cap', rfl, ha'⟩ := h'.toks
  exact sameTokens_same a a' vs cap cap' w (by omega) ha ha'

theorem lex_few' {s : ByteArray} {vs : List V3} {p : Nat} {c : Int} (h : LexIs s (vs, p, c)) : vs.length ≤ 300 ∧ (c ≠ 0 → vs = []) ∧ (c = 0 → Lexed vs s.size) := by
  rcases h with ⟨_, h⟩ | ⟨_, _, h⟩ | ⟨_, h⟩
  · injection h with h1 h2
    injection h2 with h2 h3
    subst h1 h3
    exact ⟨by simp, fun _ => rfl, fun h => by omega⟩
  · injection h with h1 h2
    injection h2 with h2 h3
    subst h1 h3
    exact ⟨by simp, fun _ => rfl, fun h => by omega⟩
  · rcases h.good (by omega) (Lexed.zero 0) with ⟨h1, _, h⟩ | ⟨h1, h, _⟩
    · dsimp only at h1 h
      rw [size_list] at h
      exact ⟨h.few, fun h => absurd h1 h, fun _ => h⟩
    · dsimp only at h1 h
      subst h
      exact ⟨by simp, fun _ => rfl, fun h => absurd h h1⟩
theorem join_lexed {vs : List V3} {n : Nat} (h : Lexed vs n) : joinR vs = (joinL vs, 0) := by
  unfold joinR
  have := h.few
  rw [if_neg (by omega), if_neg (by omega), if_pos, joinL_T]
  rw [List.all_eq_true]
  exact fun v hv => (h.each v hv).1
theorem back_is {vs : List V3} {n : Nat} (h : Lexed vs n) (hl : (joinL vs).length ≤ 600) {vs2 : List V3} {p2 : Nat} {c2 : Int} (h2 : LexIs ⟨(joinL vs).toArray⟩ (vs2, p2, c2)) : c2 = 0 ∧ vs2.length = vs.length ∧ ∀ i (h1 : i < vs.length) (h2 : i < vs2.length), vs2[i].k = vs[i].k ∧ vs2[i].t = vs[i].t := by
  obtain ⟨back, hb, hm⟩ := lex_back (joinL vs) vs [] [] (fun v hv => (h.each v hv).1) (by have := h.few; simp; omega) (by simp)
  have hb' : LexIs ⟨(joinL vs).toArray⟩ (back, 0, 0) := .inr (.inr ⟨by rw [size_mk']; exact hl, by simpa using hb⟩)
  have := h2.det hb'
  injection this with e1 e2
  injection e2 with e2 e3
  subst e1 e3
  have hlen : vs2.length = vs.length := by simpa using congrArg List.length hm
  refine ⟨rfl, hlen, fun i h1 h2 => ?_⟩
  have := congrArg (fun l => l[i]?) hm
  simp only [List.getElem?_map, List.getElem?_eq_getElem h1, List.getElem?_eq_getElem h2, Option.map_some, Option.some.injEq, Prod.mk.injEq] at this
  exact this
theorem TT_is (k a : Int) (s : ByteArray) (x : List UInt8) (w : World) (hs : s.size ≤ 60) (ht : Hid (Tabs w)) (h : Hid (tokR k s.data.toList = (x, 0))) :
    Calls Tryd.prog 23 #[.agg #[.int .i64 k, .int .i64 a, .string s]] w fun e w' => e = .returned (.tuple #[.string ⟨x.toArray⟩, .int .i64 0]) ∧ Below w.heap.size w w' := by
  have := TokenText_any k a s w (by unfold maxLen; omega) ht
  rw [unhide h] at this
  exact this
theorem sTT_is (k a : Int) (s : ByteArray) (x : List UInt8) (w : World) (hs : s.size ≤ 60) (h : Hid (tokR k s.data.toList = (x, 0))) :
    Calls Tryd.prog 24 #[.agg #[.int .i64 k, .int .i64 a, .string s]] w fun e w' => e = .returned (.tuple #[.string ⟨x.toArray⟩, .int .i64 0]) ∧ Below w.heap.size w w' := by
  have := specTokenText_any k a s w (by unfold maxLen; omega)
  rw [unhide h] at this
  exact this
theorem JT_is {base : Nat} {v : Value} {vs : List V3} (w : World) (h : TokBuf w base v vs) (J : List UInt8) (hl : vs.length ≤ 300) (hz : ∀ v ∈ vs, v.t.size ≤ 60) (ht : Hid (Tabs w)) (hj : Hid (joinR vs = (J, 0))) :
    Calls Tryd.prog 22 #[v] w fun e w' => e = .returned (.tuple #[.string ⟨J.toArray⟩, .int .i64 0]) ∧ Below w.heap.size w w' := by
  obtain ⟨a, cap, rfl, ha⟩ := h.toks
  have := JoinTokens_any a vs cap w ha (by omega) (fun v hv => by have := hz v hv; unfold maxLen; omega) ht
  rw [unhide hj] at this
  exact this

end Go.Proofs.YtckdacbopejdmaaDoor
