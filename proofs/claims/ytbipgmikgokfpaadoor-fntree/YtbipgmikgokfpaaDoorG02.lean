/- A bundle. -/
import Derived.Test.YtbipgmikgokfpaaDoorNodeL
import Derived.Test.YtbipgmikgokfpaaDoorG01
import Derived.Test.YtbipgmikgokfpaaDoorLexN
import Derived.Test.YtbipgmikgokfpaaDoorLetters
import Derived.Test.YtbipgmikgokfpaaDoorUnary2
import Derived.Deep.QuietTactic
import Derived.BigQuiet
import Derived.RegionTactic
import Derived.ChangeAlike
import Derived.Laws.IdiomStrings
import Derived.Test.YtbipgmikgokfpaaDoorRows
import Derived.WalkKit
import Derived.ProofKit
import Derived.LaidMore
import Derived.OpenShut
import Derived.ShutString
import Derived.ChangeOld
import Derived.Below
import Derived.Stop.Joined
import Derived.WalkSmall
import Derived.Lib.SmallJoins
import Derived.Test.YtbipgmikgokfpaaDoorTreeMem
import Derived.Deep.Slices
import Derived.Test.YtbipgmikgokfpaaDoorWordWalk

/- ParseL -/
namespace Go.Proofs.YtbipgmikgokfpaaDoor
set_option linter.unusedVariables false

/-- the parser's state -/
structure PS where
  at' : Nat
  ns : List TN
  dp : Nat
  code : Int
  place : Int
def em : ByteArray := ⟨#[]⟩
def endP (ts : List V3) : Int := match ts.getLast? with | none => 0 | some x => x.n + 1
def nextP (ts : List V3) (s : PS) : V3 := if h : s.at' < ts.length then ts[s.at'] else ⟨0, endP ts, em⟩
def failP (ts : List V3) (c : Int) (s : PS) : PS := if s.code = 0 then { s with code := c, place := (nextP ts s).n } else s
def isV (x : V3) (t : List UInt8) : Bool := (x.k == 2 || x.k == 5) && x.t.data.toList == t
def isP (ts : List V3) (s : PS) (t : List UInt8) : Bool := isV (nextP ts s) t
def advP (s : PS) : PS := { s with at' := s.at' + 1 }
/-- taken: no fault yet, and it stands there -/
def tkP (ts : List V3) (s : PS) (t : List UInt8) : Bool := (s.code == 0) && isP ts s t
def needP (ts : List V3) (t : List UInt8) (s : PS) : PS := if s.code = 0 then (if isP ts s t = true then advP s else failP ts 3 s) else s
def nameP (ts : List V3) (s : PS) : ByteArray × PS := if (nextP ts s).k = 1 then ((nextP ts s).t, advP s) else (em, failP ts 3 s)
def putP (ts : List V3) (n : TN) (s : PS) : Int × PS := if s.ns.length = 200 then (0, failP ts 6 s) else ((s.ns.length : Int), { s with ns := s.ns ++ [n] })
def downP (ts : List V3) (s : PS) : PS := if 20 < s.dp + 1 then failP ts 9 { s with dp := s.dp + 1 } else { s with dp := s.dp + 1 }
def upP (s : PS) : PS := { s with dp := s.dp - 1 }
/-- a comma, but ahead of the first one -/
def comP (ts : List V3) (n : Nat) (s : PS) : PS := if 0 < n then needP ts [44] s else s
def setP (ts : List V3) (s : PS) : Bool := (nextP ts s).k == 1 && (if h : s.at' + 1 < ts.length then (ts[s.at' + 1].t.data.toList == [61]) && (ts[s.at' + 1].k == 5) else false)

/-- the parser's functions, and its loops -/
inductive PF
  | expr | exprL (a : Int) | and | andL (a : Int) | order | orderL (a : Int) | sum | sumL (a : Int) | prod | prodL (a : Int) | sign | first | args (ks : List Int)
  | block | blockL (ks : List Int) | stmt | inner | func | funcL (nm : List ByteArray) | topL (ks : List Int)
/-- an answer: a node, kids, names, and the state behind -/
structure PO where
  r : Int
  ks : List Int
  nm : List ByteArray
  s : PS
def oneP (x : Int × PS) : PO := ⟨x.1, [], [], x.2⟩
def retP (r : Int) (s : PS) : PO := ⟨r, [], [], s⟩

def run (ts : List V3) : Nat → PF → PS → PO
  | 0, _, s => retP 0 (if s.code = 0 then { s with code := 99 } else s)
  | n + 1, .expr, s =>
    if (downP ts s).code = 0 then retP (run ts n (.exprL (run ts n .and (downP ts s)).r) (run ts n .and (downP ts s)).s).r (upP (run ts n (.exprL (run ts n .and (downP ts s)).r) (run ts n .and (downP ts s)).s).s)
    else retP 0 (upP (downP ts s))
  | n + 1, .exprL a, s =>
    if tkP ts s [124, 124] = true then run ts n (.exprL (putP ts ⟨9, 0, em, [], [a, (run ts n .and (advP s)).r]⟩ (run ts n .and (advP s)).s).1) (putP ts ⟨9, 0, em, [], [a, (run ts n .and (advP s)).r]⟩ (run ts n .and (advP s)).s).2
    else retP a s
  | n + 1, .and, s => run ts n (.andL (run ts n .order s).r) (run ts n .order s).s
  | n + 1, .andL a, s =>
    if tkP ts s [38, 38] = true then run ts n (.andL (putP ts ⟨8, 0, em, [], [a, (run ts n .order (advP s)).r]⟩ (run ts n .order (advP s)).s).1) (putP ts ⟨8, 0, em, [], [a, (run ts n .order (advP s)).r]⟩ (run ts n .order (advP s)).s).2
    else retP a s
  | n + 1, .order, s => run ts n (.orderL (run ts n .sum s).r) (run ts n .sum s).s
  | n + 1, .orderL a, s =>
    if s.code = 0 ∧ (isP ts s [60] = true ∨ isP ts s [61, 61] = true) then run ts n (.orderL (putP ts ⟨7, 0, (nextP ts s).t, [], [a, (run ts n .sum (advP s)).r]⟩ (run ts n .sum (advP s)).s).1) (putP ts ⟨7, 0, (nextP ts s).t, [], [a, (run ts n .sum (advP s)).r]⟩ (run ts n .sum (advP s)).s).2
    else retP a s
  | n + 1, .sum, s => run ts n (.sumL (run ts n .prod s).r) (run ts n .prod s).s
  | n + 1, .sumL a, s =>
    if s.code = 0 ∧ (isP ts s [43] = true ∨ isP ts s [45] = true) then run ts n (.sumL (putP ts ⟨7, 0, (nextP ts s).t, [], [a, (run ts n .prod (advP s)).r]⟩ (run ts n .prod (advP s)).s).1) (putP ts ⟨7, 0, (nextP ts s).t, [], [a, (run ts n .prod (advP s)).r]⟩ (run ts n .prod (advP s)).s).2
    else retP a s
  | n + 1, .prod, s => run ts n (.prodL (run ts n .sign s).r) (run ts n .sign s).s
  | n + 1, .prodL a, s =>
    if s.code = 0 ∧ (isP ts s [42] = true ∨ isP ts s [47] = true ∨ isP ts s [37] = true) then run ts n (.prodL (putP ts ⟨7, 0, (nextP ts s).t, [], [a, (run ts n .sign (advP s)).r]⟩ (run ts n .sign (advP s)).s).1) (putP ts ⟨7, 0, (nextP ts s).t, [], [a, (run ts n .sign (advP s)).r]⟩ (run ts n .sign (advP s)).s).2
    else retP a s
  | n + 1, .sign, s =>
    if s.code = 0 ∧ (isP ts s [33] = true ∨ isP ts s [45] = true) then
      (if (downP ts (advP s)).code = 0 then oneP (putP ts ⟨6, 0, (nextP ts s).t, [], [(run ts n .sign (downP ts (advP s))).r]⟩ (upP (run ts n .sign (downP ts (advP s))).s))
       else retP 0 (upP (downP ts (advP s))))
    else run ts n .first s
  | n + 1, .first, s =>
    if ¬ s.code = 0 then retP 0 s
    else if (nextP ts s).k = 3 then oneP (putP ts ⟨1, (numP (nextP ts s).t.data.toList).1, em, [], []⟩ (advP s))
    else if (nextP ts s).k = 4 then oneP (putP ts ⟨2, 0, (nextP ts s).t, [], []⟩ (advP s))
    else if isP ts s [116, 114, 117, 101] = true then oneP (putP ts ⟨3, 1, em, [], []⟩ (advP s))
    else if isP ts s [102, 97, 108, 115, 101] = true then oneP (putP ts ⟨3, 0, em, [], []⟩ (advP s))
    else if isP ts s [110, 117, 108, 108] = true then oneP (putP ts ⟨4, 0, em, [], []⟩ (advP s))
    else if isP ts s [40] = true then retP (run ts n .expr (advP s)).r (needP ts [41] (run ts n .expr (advP s)).s)
    else if (nextP ts s).k = 1 then
      (if tkP ts (advP s) [40] = true then oneP (putP ts ⟨10, 0, (nextP ts s).t, [], (run ts n (.args []) (advP (advP s))).ks⟩ (run ts n (.args []) (advP (advP s))).s)
       else oneP (putP ts ⟨5, 0, (nextP ts s).t, [], []⟩ (advP s)))
    else retP 0 (failP ts 3 s)
  | n + 1, .args ks, s =>
    if s.code = 0 then
      (if isP ts s [41] = true then ⟨0, ks, [], advP s⟩
       else run ts n (.args (ks ++ [(run ts n .expr (comP ts ks.length s)).r])) (run ts n .expr (comP ts ks.length s)).s)
    else ⟨0, ks, [], s⟩
  | n + 1, .block, s => oneP (putP ts ⟨18, 0, em, [], (run ts n (.blockL []) (needP ts [123] s)).ks⟩ (run ts n (.blockL []) (needP ts [123] s)).s)
  | n + 1, .blockL ks, s =>
    if s.code = 0 then (if isP ts s [125] = true then ⟨0, ks, [], advP s⟩ else run ts n (.blockL (ks ++ [(run ts n .stmt s).r])) (run ts n .stmt s).s)
    else ⟨0, ks, [], s⟩
  | n + 1, .stmt, s =>
    if (downP ts s).code = 0 then retP (run ts n .inner (downP ts s)).r (upP (run ts n .inner (downP ts s)).s) else retP 0 (upP (downP ts s))
  | n + 1, .inner, s =>
    if tkP ts s [108, 101, 116] = true then
      oneP (putP ts ⟨11, 0, (nameP ts (advP s)).1, [], [(run ts n .expr (needP ts [61] (nameP ts (advP s)).2)).r]⟩ (needP ts [59] (run ts n .expr (needP ts [61] (nameP ts (advP s)).2)).s))
    else if tkP ts s [105, 102] = true then
      (if tkP ts (run ts n .block (needP ts [41] (run ts n .expr (needP ts [40] (advP s))).s)).s [101, 108, 115, 101] = true then
        oneP (putP ts ⟨13, 0, em, [], [(run ts n .expr (needP ts [40] (advP s))).r, (run ts n .block (needP ts [41] (run ts n .expr (needP ts [40] (advP s))).s)).r, (run ts n .block (advP (run ts n .block (needP ts [41] (run ts n .expr (needP ts [40] (advP s))).s)).s)).r]⟩ (run ts n .block (advP (run ts n .block (needP ts [41] (run ts n .expr (needP ts [40] (advP s))).s)).s)).s)
       else oneP (putP ts ⟨13, 0, em, [], [(run ts n .expr (needP ts [40] (advP s))).r, (run ts n .block (needP ts [41] (run ts n .expr (needP ts [40] (advP s))).s)).r]⟩ (run ts n .block (needP ts [41] (run ts n .expr (needP ts [40] (advP s))).s)).s))
    else if tkP ts s [119, 104, 105, 108, 101] = true then
      oneP (putP ts ⟨14, 0, em, [], [(run ts n .expr (needP ts [40] (advP s))).r, (run ts n .block (needP ts [41] (run ts n .expr (needP ts [40] (advP s))).s)).r]⟩ (run ts n .block (needP ts [41] (run ts n .expr (needP ts [40] (advP s))).s)).s)
    else if tkP ts s [114, 101, 116, 117, 114, 110] = true then
      oneP (putP ts ⟨15, 0, em, [], [(run ts n .expr (advP s)).r]⟩ (needP ts [59] (run ts n .expr (advP s)).s))
    else if tkP ts s [116, 104, 114, 111, 119] = true then
      oneP (putP ts ⟨16, 0, em, [], [(run ts n .expr (advP s)).r]⟩ (needP ts [59] (run ts n .expr (advP s)).s))
    else if tkP ts s [116, 114, 121] = true then
      (if (needP ts [40] (needP ts [99, 97, 116, 99, 104] (run ts n .block (advP s)).s)).code = 0 then
        oneP (putP ts ⟨17, 0, (nameP ts (needP ts [40] (needP ts [99, 97, 116, 99, 104] (run ts n .block (advP s)).s))).1, [], [(run ts n .block (advP s)).r, (run ts n .block (needP ts [41] (nameP ts (needP ts [40] (needP ts [99, 97, 116, 99, 104] (run ts n .block (advP s)).s))).2)).r]⟩ (run ts n .block (needP ts [41] (nameP ts (needP ts [40] (needP ts [99, 97, 116, 99, 104] (run ts n .block (advP s)).s))).2)).s)
       else
        oneP (putP ts ⟨17, 0, em, [], [(run ts n .block (advP s)).r, (run ts n .block (needP ts [41] (needP ts [40] (needP ts [99, 97, 116, 99, 104] (run ts n .block (advP s)).s)))).r]⟩ (run ts n .block (needP ts [41] (needP ts [40] (needP ts [99, 97, 116, 99, 104] (run ts n .block (advP s)).s)))).s))
    else if isP ts s [123] = true then run ts n .block s
    else if ¬ s.code = 0 then retP 0 s
    else if setP ts s = true then
      oneP (putP ts ⟨12, 0, (nextP ts s).t, [], [(run ts n .expr (advP (advP s))).r]⟩ (needP ts [59] (run ts n .expr (advP (advP s))).s))
    else oneP (putP ts ⟨19, 0, em, [], [(run ts n .expr s).r]⟩ (needP ts [59] (run ts n .expr s).s))
  | n + 1, .func, s =>
    oneP (putP ts ⟨20, 0, (nameP ts s).1, (run ts n (.funcL []) (needP ts [40] (nameP ts s).2)).nm, [(run ts n .block (run ts n (.funcL []) (needP ts [40] (nameP ts s).2)).s).r]⟩ (run ts n .block (run ts n (.funcL []) (needP ts [40] (nameP ts s).2)).s).s)
  | n + 1, .funcL nm, s =>
    if s.code = 0 then
      (if isP ts s [41] = true then ⟨0, [], nm, advP s⟩
       else if (comP ts nm.length s).code = 0 then run ts n (.funcL (nm ++ [(nameP ts (comP ts nm.length s)).1])) (nameP ts (comP ts nm.length s)).2
       else run ts n (.funcL nm) (comP ts nm.length s))
    else ⟨0, [], nm, s⟩
  | n + 1, .topL ks, s =>
    if s.code = 0 ∧ s.at' < ts.length then
      (if isP ts s [102, 117, 110, 99, 116, 105, 111, 110] = true then run ts n (.topL (ks ++ [(run ts n .func (advP s)).r])) (run ts n .func (advP s)).s
       else run ts n (.topL (ks ++ [(run ts n .stmt s).r])) (run ts n .stmt s).s)
    else ⟨0, ks, [], s⟩


/-- later: places only rise, a fault stays, nodes are only added -/
structure PLe (s s' : PS) : Prop where
  at' : s.at' ≤ s'.at'
  ns : s.ns <+: s'.ns
  code : s'.code = 0 → s.code = 0
theorem PLe.refl (s : PS) : PLe s s := ⟨Nat.le_refl _, List.prefix_refl _, id⟩
theorem PLe.trans {a b c : PS} (h : PLe a b) (k : PLe b c) : PLe a c := ⟨Nat.le_trans h.at' k.at', h.ns.trans k.ns, fun e => h.code (k.code e)⟩
theorem PLe.adv {s0 s : PS} (h : PLe s0 s) : PLe s0 (advP s) := ⟨Nat.le_succ_of_le h.at', h.ns, h.code⟩
theorem PLe.fail {ts : List V3} {c : Int} (hc : c ≠ 0) {s0 s : PS} (h : PLe s0 s) : PLe s0 (failP ts c s) := by
  unfold failP; split
  · exact ⟨h.at', h.ns, fun e => absurd e hc⟩
  · exact h
theorem PLe.need {ts : List V3} {t : List UInt8} {s0 s : PS} (h : PLe s0 s) : PLe s0 (needP ts t s) := by
  unfold needP; split
  · split
    · exact h.adv
    · exact h.fail (by decide)
  · exact h
theorem PLe.name {ts : List V3} {s0 s : PS} (h : PLe s0 s) : PLe s0 (nameP ts s).2 := by
  unfold nameP; split
  · exact h.adv
  · exact h.fail (by decide)
theorem PLe.put {ts : List V3} {x : TN} {s0 s : PS} (h : PLe s0 s) : PLe s0 (putP ts x s).2 := by
  unfold putP; split
  · exact h.fail (by decide)
  · exact ⟨h.at', h.ns.trans (List.prefix_append _ _), h.code⟩
theorem PLe.deep {s0 s : PS} (h : PLe s0 s) (d : Nat) : PLe s0 { s with dp := d } := ⟨h.at', h.ns, h.code⟩
theorem PLe.down {ts : List V3} {s0 s : PS} (h : PLe s0 s) : PLe s0 (downP ts s) := by
  unfold downP; split
  · exact (h.deep _).fail (by decide)
  · exact h.deep _
theorem PLe.up {s0 s : PS} (h : PLe s0 s) : PLe s0 (upP s) := h.deep _
theorem PLe.ite {p : Prop} [Decidable p] {s0 a b : PS} (h : PLe s0 a) (k : PLe s0 b) : PLe s0 (if p then a else b) := by split <;> assumption
theorem PLe.com {ts : List V3} {n : Nat} {s0 s : PS} (h : PLe s0 s) : PLe s0 (comP ts n s) := by
  unfold comP; split
  · exact h.need
  · exact h
theorem PLe.stop {s0 s : PS} (h : PLe s0 s) : PLe s0 (if s.code = 0 then { s with code := 99 } else s) := by
  split
  · exact ⟨h.at', h.ns, fun e => absurd e (show ¬ (99 : Int) = 0 by decide)⟩
  · exact h
theorem run_zero (ts : List V3) (f : PF) (s : PS) : run ts 0 f s = retP 0 (if s.code = 0 then { s with code := 99 } else s) := by cases f <;> rfl
attribute [local irreducible] run advP upP comP needP nameP putP downP failP isP tkP nextP setP
theorem run_le (ts : List V3) : ∀ (n : Nat) (f : PF) (s0 s : PS), PLe s0 s → PLe s0 (run ts n f s).s
  | 0, f, s0, s, h => by
    rw [run_zero]; exact h.stop
  | n + 1, f, s0, s, h => by
    have ih := run_le ts n
    cases f <;> (unfold run; repeat' split) <;> ((try simp only [retP, oneP]); repeat (first | exact h | apply PLe.up | apply PLe.put | apply PLe.need | apply PLe.com | apply PLe.name | apply PLe.adv | apply ih | apply PLe.down | apply PLe.fail (by decide) | apply PLe.ite))

/-- without a fault behind, a token more was taken -/
def PLt (s s' : PS) : Prop := s'.code = 0 → s.at' < s'.at'
theorem PLt.le {a b c : PS} (h : PLt a b) (k : PLe b c) : PLt a c := fun e => Nat.lt_of_lt_of_le (h (k.code e)) k.at'
theorem PLt.adv {s0 s : PS} (h : PLe s0 s) : PLt s0 (advP s) := by
  unfold advP
  exact fun _ => Nat.lt_succ_of_le h.at'
theorem PLt.fail {ts : List V3} {c : Int} (hc : c ≠ 0) {s0 s : PS} : PLt s0 (failP ts c s) := by
  unfold failP; split
  · exact fun e => absurd e hc
  · exact fun e => absurd e (by assumption)
theorem PLt.need {ts : List V3} {t : List UInt8} {s0 s : PS} (h : PLe s0 s) : PLt s0 (needP ts t s) := by
  unfold needP; split
  · split
    · exact PLt.adv h
    · exact PLt.fail (by decide)
  · exact fun e => absurd e (by assumption)
theorem PLt.name {ts : List V3} {s0 s : PS} (h : PLe s0 s) : PLt s0 (nameP ts s).2 := by
  unfold nameP; split
  · exact PLt.adv h
  · exact PLt.fail (by decide)
theorem PLt.put {ts : List V3} {x : TN} {s0 s : PS} (h : PLt s0 s) : PLt s0 (putP ts x s).2 := h.le (PLe.refl s).put
theorem PLt.up {s0 s : PS} (h : PLt s0 s) : PLt s0 (upP s) := h.le (PLe.refl s).up
theorem PLt.bad {s0 s : PS} (h : ¬ s.code = 0) : PLt s0 s := fun e => absurd e h
def strictF : PF → Bool
  | .expr | .and | .order | .sum | .prod | .sign | .first | .block | .stmt | .inner | .func => true
  | _ => false
theorem PLt.loop {ts : List V3} {n : Nat} {f : PF} {s0 s : PS} (h : PLt s0 s) : PLt s0 (run ts n f s).s := h.le (run_le ts n f s s (PLe.refl s))
set_option maxHeartbeats 400000 in
theorem run_lt (ts : List V3) (n : Nat) : ∀ (f : PF) (s0 s : PS), strictF f = true → PLe s0 s → PLt s0 (run ts n f s).s := by
  induction n with
  | zero =>
    intro f s0 s _ h
    have : PLt s0 (if s.code = 0 then { s with code := 99 } else s) := by
      split
      · exact fun e => absurd e (show ¬ (99 : Int) = 0 by decide)
      · exact fun e => absurd e (by assumption)
    rw [run_zero]; exact this
  | succ n ih =>
    intro f s0 s hf h
    have il := run_le ts n
    cases f <;> (first | (simp [strictF] at hf; done) | skip) <;> (unfold run; repeat' split) <;> (try simp only [retP, oneP]) <;> repeat (first | exact h | apply PLt.up | apply PLt.put | apply PLt.need | apply PLt.name | apply PLt.adv | (refine ih _ _ _ rfl ?_) | apply PLt.loop | apply PLt.fail (by decide) | apply PLe.up | apply PLe.put | apply PLe.need | apply PLe.com | apply PLe.name | apply PLe.adv | apply il | apply PLe.down | apply PLe.fail (by decide) | apply PLe.ite | exact PLt.bad (by assumption))

theorem fail_dp (ts : List V3) (c : Int) (s : PS) : (failP ts c s).dp = s.dp := by unfold failP; split <;> rfl
theorem need_dp (ts : List V3) (t : List UInt8) (s : PS) : (needP ts t s).dp = s.dp := by
  unfold needP
  split
  · split
    · unfold advP; rfl
    · exact fail_dp _ _ _
  · rfl
theorem name_dp (ts : List V3) (s : PS) : (nameP ts s).2.dp = s.dp := by unfold nameP; split <;> first | rfl | exact fail_dp _ _ _ | (unfold advP; rfl)
theorem put_dp (ts : List V3) (x : TN) (s : PS) : (putP ts x s).2.dp = s.dp := by unfold putP; split <;> first | rfl | exact fail_dp _ _ _
theorem adv_dp (s : PS) : (advP s).dp = s.dp := by unfold advP; rfl
theorem up_dp (s : PS) : (upP s).dp = s.dp - 1 := by unfold upP; rfl
theorem down_dp (ts : List V3) (s : PS) : (downP ts s).dp = s.dp + 1 := by unfold downP; split <;> first | rfl | exact fail_dp _ _ _
theorem com_dp (ts : List V3) (n : Nat) (s : PS) : (comP ts n s).dp = s.dp := by
  unfold comP
  split
  · exact need_dp _ _ _
  · rfl
theorem ite_dp {p : Prop} [Decidable p] {d : Nat} {a b : PS} (h : a.dp = d) (k : b.dp = d) : (if p then a else b).dp = d := by split <;> assumption
set_option maxHeartbeats 2000000 in
theorem run_dp (ts : List V3) : ∀ (n : Nat) (f : PF) (s : PS), (run ts n f s).s.dp = s.dp
  | 0, f, s => by
    have : (if s.code = 0 then { s with code := 99 } else s).dp = s.dp := by split <;> rfl
    rw [run_zero]; exact this
  | n + 1, f, s => by
    have ih := run_dp ts n
    cases f <;> (unfold run; repeat' split) <;> simp [retP, oneP, ih, need_dp, com_dp, name_dp, put_dp, adv_dp, up_dp, down_dp, fail_dp]

/-- the kind of a node -/
def kd (ns : List TN) (j : Int) : Int := match ns[j.toNat]? with | some m => m.k | none => 0
def Good0 (ns : List TN) (x : TN) : Prop := nodeB x = true ∧ ∀ i j, x.kids[i]? = some j → takesB x.k false i (kd ns j) = true
/-- these nodes, with all below them, are the nodes from lo to hi, each behind what is below it -/
inductive Seg (ns : List TN) : List Int → Nat → Nat → Prop
  | nil (lo : Nat) : Seg ns [] lo lo
  | cons (lo mid hi : Nat) (x : TN) (ks : List Int) : ns[mid]? = some x → Good0 ns x → Seg ns x.kids lo mid → Seg ns ks (mid + 1) hi → Seg ns ((mid : Int) :: ks) lo hi
theorem Seg.le {ns : List TN} {ks : List Int} {lo hi : Nat} (h : Seg ns ks lo hi) : lo ≤ hi := by
  induction h with
  | nil => exact Nat.le_refl _
  | cons lo mid hi x ks hx hg h1 h2 i1 i2 => omega
theorem Seg.mem {ns : List TN} {ks : List Int} {lo hi : Nat} (h : Seg ns ks lo hi) : ∀ j ∈ ks, 0 ≤ j ∧ ∃ m, ns[j.toNat]? = some m := by
  induction h with
  | nil => intro j hj; cases hj
  | cons lo mid hi x ks hx hg h1 h2 i1 i2 =>
    intro j hj
    rcases List.mem_cons.1 hj with rfl | hj
    · exact ⟨by omega, x, by rw [Int.toNat_natCast]; exact hx⟩
    · exact i2 j hj
theorem pre_get {ns ns' : List TN} (h : ns <+: ns') {i : Nat} {m : TN} (hi : ns[i]? = some m) : ns'[i]? = some m := by
  obtain ⟨t, rfl⟩ := h
  rw [List.getElem?_append_left (List.getElem?_eq_some_iff.1 hi).1]; exact hi
theorem kd_of {ns : List TN} {j : Int} {m : TN} (h : ns[j.toNat]? = some m) : kd ns j = m.k := by unfold kd; rw [h]
theorem Seg.kd {ns ns' : List TN} {ks : List Int} {lo hi : Nat} (h : Seg ns ks lo hi) (hp : ns <+: ns') : ∀ j ∈ ks, YtbipgmikgokfpaaDoor.kd ns' j = YtbipgmikgokfpaaDoor.kd ns j := fun j hj => by
  obtain ⟨_, m, hm⟩ := h.mem j hj
  rw [kd_of hm, kd_of (pre_get hp hm)]
theorem Seg.mono {ns ns' : List TN} {ks : List Int} {lo hi : Nat} (h : Seg ns ks lo hi) (hp : ns <+: ns') : Seg ns' ks lo hi := by
  induction h with
  | nil lo => exact .nil lo
  | cons lo mid hi x ks hx hg h1 h2 i1 i2 =>
    exact .cons lo mid hi x ks (pre_get hp hx) ⟨hg.1, fun i j hj => by rw [h1.kd hp j (List.mem_of_getElem? hj)]; exact hg.2 i j hj⟩ i1 i2
theorem Seg.append {ns : List TN} {xs ys : List Int} {lo mid hi : Nat} (h : Seg ns xs lo mid) (k : Seg ns ys mid hi) : Seg ns (xs ++ ys) lo hi := by
  induction h with
  | nil => exact k
  | cons lo m hi' x ks hx hg h1 h2 i1 i2 => exact .cons lo m hi x _ hx hg h1 (i2 k)

theorem fail_code {ts : List V3} {c : Int} {s : PS} (hc : c ≠ 0) : ¬ (failP ts c s).code = 0 := by
  unfold failP; split
  · exact hc
  · assumption
theorem put_seg {ts : List V3} {x : TN} {s : PS} {lo : Nat} (h0 : (putP ts x s).2.code = 0) (hs : Seg s.ns x.kids lo s.ns.length) (hn : nodeB x = true) (hk : ∀ i j, x.kids[i]? = some j → takesB x.k false i (kd s.ns j) = true) :
    Seg (putP ts x s).2.ns [(putP ts x s).1] lo (putP ts x s).2.ns.length ∧ kd (putP ts x s).2.ns (putP ts x s).1 = x.k := by
  by_cases h : s.ns.length = 200
  · rw [putP, if_pos h] at h0
    exact absurd h0 (fail_code (by decide))
  · rw [putP, if_neg h]
    have hx : (s.ns ++ [x])[s.ns.length]? = some x := by simp
    have hp : s.ns <+: s.ns ++ [x] := List.prefix_append _ _
    refine ⟨?_, kd_of (by rw [Int.toNat_natCast]; exact hx)⟩
    have := Seg.cons (ns := s.ns ++ [x]) lo s.ns.length (s.ns.length + 1) x [] hx ⟨hn, fun i j hj => by rw [hs.kd hp j (List.mem_of_getElem? hj)]; exact hk i j hj⟩ (hs.mono hp) (.nil _)
    simpa using this
/-- an expression, a statement, whatever the kind: from lo to the end -/
def SegR (p : Int → Bool) (lo : Nat) (r : Int) (s : PS) : Prop := Seg s.ns [r] lo s.ns.length ∧ p (kd s.ns r) = true
def SegA (p : Int → Bool) (lo : Nat) (ks : List Int) (s : PS) : Prop := Seg s.ns ks lo s.ns.length ∧ ∀ j ∈ ks, p (kd s.ns j) = true
def exB (k : Int) : Bool := decide (1 ≤ k) && decide (k ≤ 10)
def stB (k : Int) : Bool := decide (11 ≤ k) && decide (k ≤ 19)
def toB (k : Int) : Bool := decide (11 ≤ k) && decide (k ≤ 20)
def blB (k : Int) : Bool := k == 18
def fnB (k : Int) : Bool := k == 20
theorem SegR.more {p : Int → Bool} {lo : Nat} {a b : Int} {s s' : PS} {q : Int → Bool} (h : SegR p lo a s) (hp : s.ns <+: s'.ns) (k : SegR q s.ns.length b s') : Seg s'.ns [a, b] lo s'.ns.length ∧ p (kd s'.ns a) = true ∧ q (kd s'.ns b) = true :=
  ⟨(h.1.mono hp).append k.1, by rw [h.1.kd hp a (List.mem_singleton.2 rfl)]; exact h.2, k.2⟩
theorem SegA.more {p : Int → Bool} {lo : Nat} {ks : List Int} {b : Int} {s s' : PS} (h : SegA p lo ks s) (hp : s.ns <+: s'.ns) (k : SegR p s.ns.length b s') : SegA p lo (ks ++ [b]) s' := by
  refine ⟨(h.1.mono hp).append k.1, fun j hj => ?_⟩
  rcases List.mem_append.1 hj with hj | hj
  · rw [h.1.kd hp j hj]; exact h.2 j hj
  · rw [List.mem_singleton.1 hj]; exact k.2
theorem SegA.nil {p : Int → Bool} {s : PS} : SegA p s.ns.length [] s := ⟨.nil _, fun j hj => by cases hj⟩
theorem SegA.same {p : Int → Bool} {lo : Nat} {ks : List Int} {s s' : PS} (h : SegA p lo ks s) (e : s'.ns = s.ns) : SegA p lo ks s' := by unfold SegA; rw [e]; exact h
theorem SegR.same {p : Int → Bool} {lo : Nat} {r : Int} {s s' : PS} (h : SegR p lo r s) (e : s'.ns = s.ns) : SegR p lo r s' := by unfold SegR; rw [e]; exact h
theorem SegR.imp {p q : Int → Bool} {lo : Nat} {r : Int} {s : PS} (h : SegR p lo r s) (hpq : ∀ k, p k = true → q k = true) : SegR q lo r s := ⟨h.1, hpq _ h.2⟩

theorem adv_ns (s : PS) : (advP s).ns = s.ns := by unfold advP; rfl
theorem adv_code (s : PS) : (advP s).code = s.code := by unfold advP; rfl
theorem up_ns (s : PS) : (upP s).ns = s.ns := by unfold upP; rfl
theorem up_code (s : PS) : (upP s).code = s.code := by unfold upP; rfl
theorem fail_ns (ts : List V3) (c : Int) (s : PS) : (failP ts c s).ns = s.ns := by unfold failP; split <;> rfl
theorem need_ns (ts : List V3) (t : List UInt8) (s : PS) : (needP ts t s).ns = s.ns := by
  unfold needP
  split
  · split
    · exact adv_ns s
    · exact fail_ns _ _ _
  · rfl
theorem com_ns (ts : List V3) (n : Nat) (s : PS) : (comP ts n s).ns = s.ns := by
  unfold comP
  split
  · exact need_ns _ _ _
  · rfl
theorem name_ns (ts : List V3) (s : PS) : (nameP ts s).2.ns = s.ns := by
  unfold nameP
  split
  · exact adv_ns s
  · exact fail_ns _ _ _
theorem down_ns (ts : List V3) (s : PS) : (downP ts s).ns = s.ns := by
  unfold downP
  split
  · exact fail_ns _ _ _
  · rfl
theorem PLe.c0 {s s' : PS} (h : PLe s s') (e : s'.code = 0) : s.code = 0 := h.code e

theorem next_mem {ts : List V3} {s : PS} (h : (nextP ts s).k ≠ 0) : nextP ts s ∈ ts := by
  unfold nextP at h ⊢
  split
  · exact List.getElem_mem _
  · rename_i hn
    rw [dif_neg hn] at h
    exact absurd rfl h
theorem ident_of {ts : List V3} (hts : ∀ v ∈ ts, tokB v.k v.t.data.toList = true) {s : PS} (h : (nextP ts s).k = 1) : identB (nextP ts s).t = true := by
  have := hts _ (next_mem (ts := ts) (s := s) (by rw [h]; decide))
  rw [h] at this; exact this
theorem plain_of {ts : List V3} (hts : ∀ v ∈ ts, tokB v.k v.t.data.toList = true) {s : PS} (h : (nextP ts s).k = 4) : plainB (nextP ts s).t.data.toList = true := by
  have := hts _ (next_mem (ts := ts) (s := s) (by rw [h]; decide))
  rw [h] at this; exact this
theorem name_ident {ts : List V3} (hts : ∀ v ∈ ts, tokB v.k v.t.data.toList = true) {s : PS} (h : (nameP ts s).2.code = 0) : identB (nameP ts s).1 = true := by
  unfold nameP at h ⊢
  split
  · exact ident_of hts (by assumption)
  · rename_i hn
    rw [if_neg hn] at h
    exact absurd h (fail_code (by decide))
theorem is_text {ts : List V3} {s : PS} {t : List UInt8} (h : isP ts s t = true) : (nextP ts s).t.data.toList = t := by
  unfold isP isV at h
  simp at h
  exact h.2
theorem node_lr (k : Int) (a b : Int) (h : k = 8 ∨ k = 9) : nodeB ⟨k, 0, em, [], [a, b]⟩ = true := by rcases h with rfl | rfl <;> rfl
theorem node_op (t : ByteArray) (a b : Int) (h : opB t.data.toList = true) : nodeB ⟨7, 0, t, [], [a, b]⟩ = true := by
  show (true && partsB ⟨7, 0, t, [], [a, b]⟩) = true
  have : partsB ⟨7, 0, t, [], [a, b]⟩ = opB t.data.toList := rfl
  rw [this, h]; rfl
theorem takes_expr (k : Int) (i : Nat) (kk : Int) (hk : k ≠ 18 ∧ k ≠ 17 ∧ k ≠ 20 ∧ k ≠ 13 ∧ k ≠ 14) (h : exB kk = true) : takesB k false i kk = true := by
  unfold takesB
  rw [if_neg hk.1, if_neg (by omega), if_neg (by omega)]
  exact h
theorem two_kids {p : Int → Prop} {a b : Int} {x : List Int} (hx : x = [a, b]) (ha : p a) (hb : p b) : ∀ (i : Nat) (j : Int), x[i]? = some j → p j := by
  subst hx
  intro i j hj
  match i, hj with
  | 0, hj => cases hj; exact ha
  | 1, hj => cases hj; exact hb
  | i + 2, hj => simp at hj
theorem one_kid {p : Int → Prop} {a : Int} {x : List Int} (hx : x = [a]) (ha : p a) : ∀ (i : Nat) (j : Int), x[i]? = some j → p j := by
  subst hx
  intro i j hj
  match i, hj with
  | 0, hj => cases hj; exact ha
  | i + 1, hj => simp at hj
/-- two expressions and a sign between -/
theorem bin_seg {ts : List V3} {n : Nat} {g : PF} {s : PS} {lo : Nat} {a k : Int} {t : ByteArray} (hk : k = 7 ∨ k = 8 ∨ k = 9) (hn : ∀ b, nodeB ⟨k, 0, t, [], [a, b]⟩ = true)
    (ha : SegR exB lo a s) (hg : (run ts n g (advP s)).s.code = 0 → SegR exB (advP s).ns.length (run ts n g (advP s)).r (run ts n g (advP s)).s)
    (h0 : (putP ts ⟨k, 0, t, [], [a, (run ts n g (advP s)).r]⟩ (run ts n g (advP s)).s).2.code = 0) :
    SegR exB lo (putP ts ⟨k, 0, t, [], [a, (run ts n g (advP s)).r]⟩ (run ts n g (advP s)).s).1 (putP ts ⟨k, 0, t, [], [a, (run ts n g (advP s)).r]⟩ (run ts n g (advP s)).s).2 := by
  have hc : (run ts n g (advP s)).s.code = 0 := (PLe.refl _).put.c0 h0
  have hb := hg hc
  rw [adv_ns] at hb
  have hp : s.ns <+: (run ts n g (advP s)).s.ns := (run_le ts n g s (advP s) (PLe.refl s).adv).ns
  obtain ⟨h1, h2, h3⟩ := ha.more hp hb
  obtain ⟨q1, q2⟩ := put_seg (lo := lo) h0 h1 (hn _) (fun i j hj => takes_expr k i _ (by omega) (two_kids (p := fun j => exB (kd (run ts n g (advP s)).s.ns j) = true) rfl h2 h3 i j hj))
  refine ⟨q1, ?_⟩
  rw [q2]
  rcases hk with rfl | rfl | rfl <;> rfl

def SegPost (f : PF) (s : PS) (o : PO) : Prop := match f with
  | .expr | .and | .order | .sum | .prod | .sign | .first => SegR exB s.ns.length o.r o.s
  | .exprL a | .andL a | .orderL a | .sumL a | .prodL a => ∀ lo, SegR exB lo a s → SegR exB lo o.r o.s
  | .args ks => ∀ lo, SegA exB lo ks s → SegA exB lo o.ks o.s
  | .block => SegR blB s.ns.length o.r o.s
  | .blockL ks => ∀ lo, SegA stB lo ks s → SegA stB lo o.ks o.s
  | .stmt | .inner => SegR stB s.ns.length o.r o.s
  | .func => SegR fnB s.ns.length o.r o.s
  | .funcL nm => nm.all identB = true → o.nm.all identB = true ∧ o.s.ns = s.ns
  | .topL ks => ∀ lo, SegA toB lo ks s → SegA toB lo o.ks o.s
theorem c0_run {ts : List V3} {n : Nat} {f : PF} {s : PS} (h : (run ts n f s).s.code = 0) : s.code = 0 := (run_le ts n f s s (PLe.refl s)).c0 h
theorem c0_put {ts : List V3} {x : TN} {s : PS} (h : (putP ts x s).2.code = 0) : s.code = 0 := (PLe.refl s).put.c0 h
theorem c0_need {ts : List V3} {t : List UInt8} {s : PS} (h : (needP ts t s).code = 0) : s.code = 0 := (PLe.refl s).need.c0 h
theorem c0_name {ts : List V3} {s : PS} (h : (nameP ts s).2.code = 0) : s.code = 0 := (PLe.refl s).name.c0 h
theorem run_pre {ts : List V3} (n : Nat) (f : PF) (s : PS) : s.ns <+: (run ts n f s).s.ns := (run_le ts n f s s (PLe.refl s)).ns
/-- a node of no kids -/
theorem leaf_seg {ts : List V3} {s : PS} {x : TN} (hk : x.kids = []) (hn : nodeB x = true) (he : exB x.k = true) (h0 : (putP ts x s).2.code = 0) : SegR exB s.ns.length (putP ts x s).1 (putP ts x s).2 := by
  obtain ⟨q1, q2⟩ := put_seg (lo := s.ns.length) h0 (by rw [hk]; exact .nil _) hn (fun i j hj => by rw [hk] at hj; simp at hj)
  exact ⟨q1, by rw [q2]; exact he⟩
/-- a node of one kid -/
theorem one_seg {ts : List V3} {s : PS} {k : Int} {t : ByteArray} {nm : List ByteArray} {r : Int} {lo : Nat} {p q : Int → Bool} (h : SegR p lo r s) (hn : nodeB ⟨k, 0, t, nm, [r]⟩ = true) (ht : ∀ kk, p kk = true → takesB k false 0 kk = true) (hq : q k = true) (h0 : (putP ts ⟨k, 0, t, nm, [r]⟩ s).2.code = 0) :
    SegR q lo (putP ts ⟨k, 0, t, nm, [r]⟩ s).1 (putP ts ⟨k, 0, t, nm, [r]⟩ s).2 := by
  obtain ⟨q1, q2⟩ := put_seg (lo := lo) h0 h.1 hn (fun i j hj => by
    match i, hj with
    | 0, hj => cases hj; exact ht _ h.2
    | i + 1, hj => simp at hj)
  exact ⟨q1, by rw [q2]; exact hq⟩
theorem two_seg {ts : List V3} {s : PS} {k : Int} {t : ByteArray} {a b : Int} {lo : Nat} {q : Int → Bool} (h : Seg s.ns [a, b] lo s.ns.length) (hn : nodeB ⟨k, 0, t, [], [a, b]⟩ = true) (ha : takesB k false 0 (kd s.ns a) = true) (hb : takesB k false 1 (kd s.ns b) = true) (hq : q k = true) (h0 : (putP ts ⟨k, 0, t, [], [a, b]⟩ s).2.code = 0) :
    SegR q lo (putP ts ⟨k, 0, t, [], [a, b]⟩ s).1 (putP ts ⟨k, 0, t, [], [a, b]⟩ s).2 := by
  obtain ⟨q1, q2⟩ := put_seg (lo := lo) h0 h hn (fun i j hj => by
    match i, hj with
    | 0, hj => cases hj; exact ha
    | 1, hj => cases hj; exact hb
    | i + 2, hj => simp at hj)
  exact ⟨q1, by rw [q2]; exact hq⟩
theorem many_seg {ts : List V3} {s : PS} {k : Int} {t : ByteArray} {ks : List Int} {lo : Nat} {p q : Int → Bool} (h : SegA p lo ks s) (hn : nodeB ⟨k, 0, t, [], ks⟩ = true) (ht : ∀ i kk, p kk = true → takesB k false i kk = true) (hq : q k = true) (h0 : (putP ts ⟨k, 0, t, [], ks⟩ s).2.code = 0) :
    SegR q lo (putP ts ⟨k, 0, t, [], ks⟩ s).1 (putP ts ⟨k, 0, t, [], ks⟩ s).2 := by
  obtain ⟨q1, q2⟩ := put_seg (lo := lo) h0 h.1 hn (fun i j hj => ht i _ (h.2 j (List.mem_of_getElem? hj)))
  exact ⟨q1, by rw [q2]; exact hq⟩
theorem node_named1 (k : Int) (t : ByteArray) (a : Int) (hk : k = 11 ∨ k = 12) (h : identB t = true) : nodeB ⟨k, 0, t, [], [a]⟩ = true := by
  rcases hk with rfl | rfl
  · have : nodeB ⟨11, 0, t, [], [a]⟩ = identB t := rfl
    rw [this, h]
  · have : nodeB ⟨12, 0, t, [], [a]⟩ = identB t := rfl
    rw [this, h]
theorem node_plain1 (k : Int) (a : Int) (hk : k = 15 ∨ k = 16 ∨ k = 19) : nodeB ⟨k, 0, em, [], [a]⟩ = true := by rcases hk with rfl | rfl | rfl <;> rfl
theorem node_try (t : ByteArray) (a b : Int) (h : identB t = true) : nodeB ⟨17, 0, t, [], [a, b]⟩ = true := by
  have : nodeB ⟨17, 0, t, [], [a, b]⟩ = identB t := rfl
  rw [this, h]
theorem node_func (t : ByteArray) (nm : List ByteArray) (a : Int) (h : identB t = true) (hn : nm.all identB = true) : nodeB ⟨20, 0, t, nm, [a]⟩ = true := by
  have : nodeB ⟨20, 0, t, nm, [a]⟩ = (nm.all identB && identB t) := by
    unfold nodeB partsB
    simp [countB, namedB]
  rw [this, h, hn]; rfl
theorem node_call (t : ByteArray) (ks : List Int) (h : identB t = true) : nodeB ⟨10, 0, t, [], ks⟩ = true := by
  have : nodeB ⟨10, 0, t, [], ks⟩ = identB t := rfl
  rw [this, h]
theorem node_block (ks : List Int) : nodeB ⟨18, 0, em, [], ks⟩ = true := rfl
theorem node_name (t : ByteArray) (h : identB t = true) : nodeB ⟨5, 0, t, [], []⟩ = true := by
  have : nodeB ⟨5, 0, t, [], []⟩ = identB t := rfl
  rw [this, h]
theorem node_text (t : ByteArray) (h : plainB t.data.toList = true) : nodeB ⟨2, 0, t, [], []⟩ = true := by
  have : nodeB ⟨2, 0, t, [], []⟩ = plainB t.data.toList := rfl
  rw [this, h]
theorem node_int (n : Int) (h0 : 0 ≤ n) (h1 : n ≤ 2147483647) : nodeB ⟨1, n, em, [], []⟩ = true := by
  have : nodeB ⟨1, n, em, [], []⟩ = (decide (0 ≤ n) && decide (n ≤ 2147483647) && true && true) := rfl
  rw [this, decide_eq_true h0, decide_eq_true h1]; rfl
theorem node_sign (t : ByteArray) (a : Int) (h : t.data.toList = [33] ∨ t.data.toList = [45]) : nodeB ⟨6, 0, t, [], [a]⟩ = true := by
  have : nodeB ⟨6, 0, t, [], [a]⟩ = ((t.data.toList == [33]) || (t.data.toList == [45])) := rfl
  rw [this]
  rcases h with h | h <;> rw [h] <;> rfl
theorem takes_bl (i : Nat) (kk : Int) (h : stB kk = true) : takesB 18 false i kk = true := by
  unfold takesB; rw [if_pos rfl]
  show (stB kk || _) = true
  rw [h]; rfl
theorem takes_b2 (k : Int) (i : Nat) (kk : Int) (hk : k = 17 ∨ k = 20 ∨ ((k = 13 ∨ k = 14) ∧ 0 < i)) (h : blB kk = true) : takesB k false i kk = true := by
  unfold takesB
  rw [if_neg (by omega)]
  by_cases h1 : k = 17 ∨ k = 20
  · rw [if_pos h1]; exact h
  · rw [if_neg h1, if_pos (by omega)]; exact h
theorem takes_e0 (k : Int) (kk : Int) (hk : k = 13 ∨ k = 14) (h : exB kk = true) : takesB k false 0 kk = true := by
  unfold takesB
  rw [if_neg (by omega), if_neg (by omega), if_neg (by omega)]; exact h
theorem three_seg {ts : List V3} {s : PS} {k : Int} {a b c : Int} {lo : Nat} {q : Int → Bool} (h : Seg s.ns [a, b, c] lo s.ns.length) (hn : nodeB ⟨k, 0, em, [], [a, b, c]⟩ = true) (ha : takesB k false 0 (kd s.ns a) = true) (hb : takesB k false 1 (kd s.ns b) = true) (hc : takesB k false 2 (kd s.ns c) = true) (hq : q k = true) (h0 : (putP ts ⟨k, 0, em, [], [a, b, c]⟩ s).2.code = 0) :
    SegR q lo (putP ts ⟨k, 0, em, [], [a, b, c]⟩ s).1 (putP ts ⟨k, 0, em, [], [a, b, c]⟩ s).2 := by
  obtain ⟨q1, q2⟩ := put_seg (lo := lo) h0 h hn (fun i j hj => by
    match i, hj with
    | 0, hj => cases hj; exact ha
    | 1, hj => cases hj; exact hb
    | 2, hj => cases hj; exact hc
    | i + 3, hj => simp at hj)
  exact ⟨q1, by rw [q2]; exact hq⟩
theorem op_is {ts : List V3} {s : PS} (h : isP ts s [60] = true ∨ isP ts s [61, 61] = true ∨ isP ts s [43] = true ∨ isP ts s [45] = true ∨ isP ts s [42] = true ∨ isP ts s [47] = true ∨ isP ts s [37] = true) : opB (nextP ts s).t.data.toList = true := by
  rcases h with h | h | h | h | h | h | h <;> rw [is_text h] <;> rfl
theorem bl_st (k : Int) (h : blB k = true) : stB k = true := by
  unfold blB at h
  rw [eq_of_beq h]; rfl
theorem st_to (k : Int) (h : stB k = true) : toB k = true := by
  unfold stB at h; unfold toB; simp at h ⊢; omega
theorem fn_to (k : Int) (h : fnB k = true) : toB k = true := by
  unfold fnB at h
  rw [eq_of_beq h]; rfl

theorem num_node {ts : List V3} (hts : ∀ v ∈ ts, tokB v.k v.t.data.toList = true) {s : PS} (h : (nextP ts s).k = 3) : nodeB ⟨1, (numP (nextP ts s).t.data.toList).1, em, [], []⟩ = true := by
  have ht := hts _ (next_mem (ts := ts) (s := s) (by rw [h]; decide))
  rw [h] at ht
  generalize (nextP ts s).t.data.toList = l at ht
  have h2 : ((digP l).2 && decide ((digP l).1 ≤ 2147483647)) = true := ht
  rw [Bool.and_eq_true] at h2
  obtain ⟨h3, h4⟩ := h2
  have h5 := of_decide_eq_true h4
  obtain ⟨hne, hl, hall, _, he⟩ := digP_parts h3
  have hn : numP l = digP l := by
    unfold numP
    refine if_neg fun hh => ?_
    cases l with
    | nil => exact hne rfl
    | cons c r =>
      have : c = 45 := by simpa using hh
      have hc := hall c (by simp)
      rw [this] at hc
      exact absurd hc (by decide)
  rw [hn]
  have h0 : 0 ≤ (digP l).1 := by rw [he]; exact (valL_pos' l.length l rfl hall).1
  exact node_int _ h0 h5

theorem inner_seg {ts : List V3} (hts : ∀ v ∈ ts, tokB v.k v.t.data.toList = true) (n : Nat) (ih : ∀ (f : PF) (s : PS), (run ts n f s).s.code = 0 → SegPost f s (run ts n f s)) (s : PS) (h0 : (run ts (n + 1) .inner s).s.code = 0) : SegR stB s.ns.length (run ts (n + 1) .inner s).r (run ts (n + 1) .inner s).s := by
  have HE : ∀ s, (run ts n .expr s).s.code = 0 → SegR exB s.ns.length (run ts n .expr s).r (run ts n .expr s).s := fun s h => ih .expr s h
  have HB : ∀ s, (run ts n .block s).s.code = 0 → SegR blB s.ns.length (run ts n .block s).r (run ts n .block s).s := fun s h => ih .block s h
  unfold run at h0 ⊢
  split at h0
  · rename_i hd
    rw [if_pos hd]
    simp only [oneP] at h0 ⊢
    have c1 := c0_need (c0_put h0)
    have h1 := HE _ c1
    rw [need_ns, name_ns, adv_ns] at h1
    exact one_seg (h1.same (need_ns _ _ _)) (node_named1 11 _ _ (.inl rfl) (name_ident hts (c0_need (c0_run c1)))) (fun kk h => takes_expr 11 0 kk (by decide) h) rfl h0
  rename_i hd
  rw [if_neg hd]
  clear hd
  split at h0
  · rename_i hd
    rw [if_pos hd]
    split at h0
    · rename_i he
      rw [if_pos he]
      simp only [oneP] at h0 ⊢
      have c3 := c0_put h0
      have c2 := c0_run c3
      rw [adv_code] at c2
      have c1 := c0_need (c0_run c2)
      have h1 := HE _ c1
      have h2 := HB _ c2
      have h3 := HB _ c3
      rw [need_ns, adv_ns] at h1
      rw [need_ns] at h2
      rw [adv_ns] at h3
      obtain ⟨g1, g2, g3⟩ := h1.more (by have := run_pre (ts := ts) n .block (needP ts [41] (run ts n .expr (needP ts [40] (advP s))).s); rw [need_ns] at this; exact this) h2
      have hp : (run ts n .block (needP ts [41] (run ts n .expr (needP ts [40] (advP s))).s)).s.ns <+: (run ts n .block (advP (run ts n .block (needP ts [41] (run ts n .expr (needP ts [40] (advP s))).s)).s)).s.ns := (run_le ts n .block _ _ (PLe.refl _).adv).ns
      have k1 := (g1.mono hp).append h3.1
      refine three_seg (by simpa using k1) rfl (takes_e0 13 _ (.inl rfl) ?_) (takes_b2 13 1 _ (by omega) ?_) (takes_b2 13 2 _ (by omega) h3.2) rfl h0
      · rw [g1.kd hp _ (by simp)]; exact g2
      · rw [g1.kd hp _ (by simp)]; exact g3
    · rename_i he
      rw [if_neg he]
      simp only [oneP] at h0 ⊢
      have c2 := c0_put h0
      have c1 := c0_need (c0_run c2)
      have h1 := HE _ c1
      have h2 := HB _ c2
      rw [need_ns, adv_ns] at h1
      rw [need_ns] at h2
      obtain ⟨g1, g2, g3⟩ := h1.more (by have := run_pre (ts := ts) n .block (needP ts [41] (run ts n .expr (needP ts [40] (advP s))).s); rw [need_ns] at this; exact this) h2
      exact two_seg g1 rfl (takes_e0 13 _ (.inl rfl) g2) (takes_b2 13 1 _ (by omega) g3) rfl h0
  rename_i hd
  rw [if_neg hd]
  clear hd
  split at h0
  · rename_i hd
    rw [if_pos hd]
    simp only [oneP] at h0 ⊢
    have c2 := c0_put h0
    have c1 := c0_need (c0_run c2)
    have h1 := HE _ c1
    have h2 := HB _ c2
    rw [need_ns, adv_ns] at h1
    rw [need_ns] at h2
    obtain ⟨g1, g2, g3⟩ := h1.more (by have := run_pre (ts := ts) n .block (needP ts [41] (run ts n .expr (needP ts [40] (advP s))).s); rw [need_ns] at this; exact this) h2
    exact two_seg g1 rfl (takes_e0 14 _ (.inr rfl) g2) (takes_b2 14 1 _ (by omega) g3) rfl h0
  rename_i hd
  rw [if_neg hd]
  clear hd
  split at h0
  · rename_i hd
    rw [if_pos hd]
    simp only [oneP] at h0 ⊢
    have h1 := HE _ (c0_need (c0_put h0))
    rw [adv_ns] at h1
    exact one_seg (h1.same (need_ns _ _ _)) (node_plain1 15 _ (by omega)) (fun kk h => takes_expr 15 0 kk (by decide) h) rfl h0
  rename_i hd
  rw [if_neg hd]
  clear hd
  split at h0
  · rename_i hd
    rw [if_pos hd]
    simp only [oneP] at h0 ⊢
    have h1 := HE _ (c0_need (c0_put h0))
    rw [adv_ns] at h1
    exact one_seg (h1.same (need_ns _ _ _)) (node_plain1 16 _ (by omega)) (fun kk h => takes_expr 16 0 kk (by decide) h) rfl h0
  rename_i hd
  rw [if_neg hd]
  clear hd
  split at h0
  · rename_i hd
    rw [if_pos hd]
    split at h0
    · rename_i he
      rw [if_pos he]
      simp only [oneP] at h0 ⊢
      have c2 := c0_put h0
      have c1 := c0_run c2
      have cn := c0_need c1
      have h1 := HB _ (c0_need (c0_need (c0_name cn)))
      have h2 := HB _ c2
      rw [adv_ns] at h1
      rw [need_ns, name_ns, need_ns, need_ns] at h2
      obtain ⟨g1, g2, g3⟩ := h1.more (by have := run_pre (ts := ts) n .block (needP ts [41] (nameP ts (needP ts [40] (needP ts [99, 97, 116, 99, 104] (run ts n .block (advP s)).s))).2); rw [need_ns, name_ns, need_ns, need_ns] at this; exact this) h2
      exact two_seg g1 (node_try _ _ _ (name_ident hts cn)) (takes_b2 17 0 _ (by omega) g2) (takes_b2 17 1 _ (by omega) g3) rfl h0
    · rename_i he
      simp only [oneP] at h0
      exact absurd (c0_need (c0_run (c0_put h0))) he
  rename_i hd
  rw [if_neg hd]
  clear hd
  split at h0
  · rename_i hd
    rw [if_pos hd]
    exact (HB _ h0).imp bl_st
  rename_i hd
  rw [if_neg hd]
  clear hd
  split at h0
  · rename_i hd
    exact absurd h0 hd
  rename_i hd
  rw [if_neg hd]
  clear hd
  split at h0
  · rename_i hd
    rw [if_pos hd]
    simp only [oneP] at h0 ⊢
    have h1 := HE _ (c0_need (c0_put h0))
    rw [adv_ns, adv_ns] at h1
    refine one_seg (h1.same (need_ns _ _ _)) (node_named1 12 _ _ (.inr rfl) (ident_of hts ?_)) (fun kk h => takes_expr 12 0 kk (by decide) h) rfl h0
    unfold setP at hd
    simp at hd
    exact hd.1
  · rename_i hd
    rw [if_neg hd]
    simp only [oneP] at h0 ⊢
    have h1 := HE _ (c0_need (c0_put h0))
    exact one_seg (h1.same (need_ns _ _ _)) (node_plain1 19 _ (by omega)) (fun kk h => takes_expr 19 0 kk (by decide) h) rfl h0

set_option maxHeartbeats 1000000 in
theorem run_seg {ts : List V3} (hts : ∀ v ∈ ts, tokB v.k v.t.data.toList = true) (n : Nat) : ∀ (f : PF) (s : PS), (run ts n f s).s.code = 0 → SegPost f s (run ts n f s) := by
  induction n with
  | zero =>
    intro f s h0
    rw [run_zero] at h0
    by_cases h : s.code = 0
    · rw [if_pos h] at h0; exact absurd h0 (show ¬ (99 : Int) = 0 by decide)
    · rw [if_neg h] at h0; exact absurd h0 h
  | succ n ih =>
    have loopE : ∀ {g : PF} {s : PS} {lo : Nat} {a k : Int} {t : ByteArray} {L : Int → PF}, (k = 7 ∨ k = 8 ∨ k = 9) → (∀ b, nodeB ⟨k, 0, t, [], [a, b]⟩ = true) → (∀ s', (run ts n g s').s.code = 0 → SegR exB s'.ns.length (run ts n g s').r (run ts n g s').s) → (∀ b s', (run ts n (L b) s').s.code = 0 → ∀ lo, SegR exB lo b s' → SegR exB lo (run ts n (L b) s').r (run ts n (L b) s').s) → SegR exB lo a s →
        (run ts n (L (putP ts ⟨k, 0, t, [], [a, (run ts n g (advP s)).r]⟩ (run ts n g (advP s)).s).1) (putP ts ⟨k, 0, t, [], [a, (run ts n g (advP s)).r]⟩ (run ts n g (advP s)).s).2).s.code = 0 →
        SegR exB lo (run ts n (L (putP ts ⟨k, 0, t, [], [a, (run ts n g (advP s)).r]⟩ (run ts n g (advP s)).s).1) (putP ts ⟨k, 0, t, [], [a, (run ts n g (advP s)).r]⟩ (run ts n g (advP s)).s).2).r (run ts n (L (putP ts ⟨k, 0, t, [], [a, (run ts n g (advP s)).r]⟩ (run ts n g (advP s)).s).1) (putP ts ⟨k, 0, t, [], [a, (run ts n g (advP s)).r]⟩ (run ts n g (advP s)).s).2).s := by
      intro g s lo a k t L hk hn hg hL ha h0
      exact hL _ _ h0 lo (bin_seg hk hn ha (hg (advP s)) (c0_run h0))
    intro f s h0
    cases f with
    | expr =>
      unfold run at h0 ⊢
      split at h0
      · rename_i hd
        rw [if_pos hd]
        simp only [retP, up_code] at h0 ⊢
        have h1 := ih _ _ (c0_run h0)
        rw [SegPost, down_ns] at h1
        exact (ih _ _ h0 _ h1).same (up_ns _)
      · rename_i hd
        simp only [retP, up_code] at h0
        exact absurd h0 hd
    | and =>
      unfold run at h0 ⊢
      exact ih _ _ h0 _ (ih _ _ (c0_run h0))
    | order =>
      unfold run at h0 ⊢
      exact ih _ _ h0 _ (ih _ _ (c0_run h0))
    | sum =>
      unfold run at h0 ⊢
      exact ih _ _ h0 _ (ih _ _ (c0_run h0))
    | prod =>
      unfold run at h0 ⊢
      exact ih _ _ h0 _ (ih _ _ (c0_run h0))
    | exprL a =>
      intro lo ha
      unfold run at h0 ⊢
      split at h0
      · rename_i hd
        rw [if_pos hd]
        exact loopE (L := .exprL) (.inr (.inr rfl)) (fun b => node_lr 9 a b (.inr rfl)) (fun s' h => ih .and s' h) (fun b s' h => ih (.exprL b) s' h) ha h0
      · rename_i hd
        rw [if_neg hd]; exact ha
    | andL a =>
      intro lo ha
      unfold run at h0 ⊢
      split at h0
      · rename_i hd
        rw [if_pos hd]
        exact loopE (L := .andL) (.inr (.inl rfl)) (fun b => node_lr 8 a b (.inl rfl)) (fun s' h => ih .order s' h) (fun b s' h => ih (.andL b) s' h) ha h0
      · rename_i hd
        rw [if_neg hd]; exact ha
    | orderL a =>
      intro lo ha
      unfold run at h0 ⊢
      split at h0
      · rename_i hd
        rw [if_pos hd]
        exact loopE (L := .orderL) (.inl rfl) (fun b => node_op _ a b (op_is (by rcases hd.2 with h | h <;> simp [h]))) (fun s' h => ih .sum s' h) (fun b s' h => ih (.orderL b) s' h) ha h0
      · rename_i hd
        rw [if_neg hd]; exact ha
    | sumL a =>
      intro lo ha
      unfold run at h0 ⊢
      split at h0
      · rename_i hd
        rw [if_pos hd]
        exact loopE (L := .sumL) (.inl rfl) (fun b => node_op _ a b (op_is (by rcases hd.2 with h | h <;> simp [h]))) (fun s' h => ih .prod s' h) (fun b s' h => ih (.sumL b) s' h) ha h0
      · rename_i hd
        rw [if_neg hd]; exact ha
    | prodL a =>
      intro lo ha
      unfold run at h0 ⊢
      split at h0
      · rename_i hd
        rw [if_pos hd]
        exact loopE (L := .prodL) (.inl rfl) (fun b => node_op _ a b (op_is (by rcases hd.2 with h | h | h <;> simp [h]))) (fun s' h => ih .sign s' h) (fun b s' h => ih (.prodL b) s' h) ha h0
      · rename_i hd
        rw [if_neg hd]; exact ha
    | sign =>
      unfold run at h0 ⊢
      split at h0
      · rename_i hd
        rw [if_pos hd]
        split at h0
        · rename_i he
          rw [if_pos he]
          simp only [oneP] at h0 ⊢
          have h1 := c0_put h0
          rw [up_code] at h1
          have h2 : SegR exB (downP ts (advP s)).ns.length _ _ := ih .sign _ h1
          rw [down_ns, adv_ns] at h2
          exact one_seg (h2.same (up_ns _)) (node_sign _ _ (by rcases hd.2 with h | h <;> simp [is_text h])) (fun kk h => takes_expr 6 0 kk (by decide) h) rfl h0
        · rename_i he
          simp only [retP, up_code] at h0
          exact absurd h0 he
      · rename_i hd
        rw [if_neg hd]
        exact ih .first s h0
    | first =>
      unfold run at h0 ⊢
      split at h0
      · rename_i hd; exact absurd h0 hd
      rename_i hd
      rw [if_neg hd]
      split at h0
      · rename_i h3
        rw [if_pos h3]
        simp only [oneP] at h0 ⊢
        have := leaf_seg rfl (num_node hts h3) rfl h0
        rw [adv_ns] at this; exact this
      rename_i h3
      rw [if_neg h3]
      split at h0
      · rename_i h4
        rw [if_pos h4]
        simp only [oneP] at h0 ⊢
        have := leaf_seg rfl (node_text _ (plain_of hts h4)) rfl h0
        rw [adv_ns] at this; exact this
      rename_i h4
      rw [if_neg h4]
      split at h0
      · rename_i h5
        rw [if_pos h5]
        simp only [oneP] at h0 ⊢
        have := leaf_seg rfl (show nodeB ⟨3, 1, em, [], []⟩ = true from rfl) rfl h0
        rw [adv_ns] at this; exact this
      rename_i h5
      rw [if_neg h5]
      split at h0
      · rename_i h5
        rw [if_pos h5]
        simp only [oneP] at h0 ⊢
        have := leaf_seg rfl (show nodeB ⟨3, 0, em, [], []⟩ = true from rfl) rfl h0
        rw [adv_ns] at this; exact this
      rename_i h5
      rw [if_neg h5]
      split at h0
      · rename_i h5
        rw [if_pos h5]
        simp only [oneP] at h0 ⊢
        have := leaf_seg rfl (show nodeB ⟨4, 0, em, [], []⟩ = true from rfl) rfl h0
        rw [adv_ns] at this; exact this
      rename_i h5
      rw [if_neg h5]
      split at h0
      · rename_i h5
        rw [if_pos h5]
        simp only [retP] at h0 ⊢
        have h1 : SegR exB (advP s).ns.length _ _ := ih .expr _ (c0_need h0)
        rw [adv_ns] at h1
        exact h1.same (need_ns _ _ _)
      rename_i h5
      rw [if_neg h5]
      split at h0
      · rename_i h1
        rw [if_pos h1]
        split at h0
        · rename_i h6
          rw [if_pos h6]
          simp only [oneP] at h0 ⊢
          have h2 : SegA exB (advP (advP s)).ns.length _ _ := ih (.args []) _ (c0_put h0) _ .nil
          rw [adv_ns, adv_ns] at h2
          exact many_seg h2 (node_call _ _ (ident_of hts h1)) (fun i kk h => takes_expr 10 i kk (by decide) h) rfl h0
        · rename_i h6
          rw [if_neg h6]
          simp only [oneP] at h0 ⊢
          have := leaf_seg rfl (node_name _ (ident_of hts h1)) rfl h0
          rw [adv_ns] at this; exact this
      · simp only [retP] at h0
        exact absurd h0 (fail_code (by decide))
    | args ks =>
      intro lo ha
      unfold run at h0 ⊢
      split at h0
      · rename_i hd
        rw [if_pos hd]
        split at h0
        · rename_i he
          rw [if_pos he]
          exact ha.same (adv_ns s)
        · rename_i he
          rw [if_neg he]
          have hns := com_ns ts ks.length s
          have h1 : SegR exB (comP ts ks.length s).ns.length _ _ := ih .expr _ (c0_run h0)
          exact ih _ _ h0 lo ((ha.same hns).more (run_pre n _ _) h1)
      · rename_i hd
        rw [if_neg hd]; exact ha
    | block =>
      unfold run at h0 ⊢
      simp only [oneP] at h0 ⊢
      have h2 : SegA stB (needP ts [123] s).ns.length _ _ := ih (.blockL []) _ (c0_put h0) _ .nil
      rw [need_ns] at h2
      exact many_seg h2 (node_block _) (fun i kk h => takes_bl i kk h) rfl h0
    | blockL ks =>
      intro lo ha
      unfold run at h0 ⊢
      split at h0
      · rename_i hd
        rw [if_pos hd]
        split at h0
        · rename_i he
          rw [if_pos he]
          exact ha.same (adv_ns s)
        · rename_i he
          rw [if_neg he]
          exact ih _ _ h0 lo (ha.more (run_pre n _ _) (ih .stmt _ (c0_run h0)))
      · rename_i hd
        rw [if_neg hd]; exact ha
    | stmt =>
      unfold run at h0 ⊢
      split at h0
      · rename_i hd
        rw [if_pos hd]
        simp only [retP, up_code] at h0 ⊢
        have h1 : SegR stB (downP ts s).ns.length _ _ := ih .inner _ h0
        rw [down_ns] at h1
        exact h1.same (up_ns _)
      · rename_i hd
        simp only [retP, up_code] at h0
        exact absurd h0 hd
    | func =>
      unfold run at h0 ⊢
      simp only [oneP] at h0 ⊢
      have h1 : SegR blB _ _ _ := ih .block _ (c0_put h0)
      have h2 := c0_run (c0_put h0)
      obtain ⟨h3, h4⟩ := ih (.funcL []) _ h2 rfl
      rw [h4, need_ns, name_ns] at h1
      exact one_seg h1 (node_func _ _ _ (name_ident hts (c0_need (c0_run h2))) h3) (fun kk h => takes_b2 20 0 kk (.inr (.inl rfl)) h) rfl h0
    | funcL nm =>
      intro ha
      unfold run at h0 ⊢
      split at h0
      · rename_i hd
        rw [if_pos hd]
        split at h0
        · rename_i he
          rw [if_pos he]
          exact ⟨ha, adv_ns s⟩
        · rename_i he
          rw [if_neg he]
          have hns := com_ns ts nm.length s
          split at h0
          · rename_i hf
            rw [if_pos hf]
            obtain ⟨h1, h2⟩ := ih _ _ h0 (by rw [List.all_append, ha]; simp [name_ident hts (c0_run h0)])
            exact ⟨h1, by rw [h2, name_ns, hns]⟩
          · rename_i hf
            rw [if_neg hf]
            obtain ⟨h1, h2⟩ := ih _ _ h0 ha
            exact ⟨h1, by rw [h2, hns]⟩
      · rename_i hd
        rw [if_neg hd]; exact ⟨ha, rfl⟩
    | topL ks =>
      intro lo ha
      unfold run at h0 ⊢
      split at h0
      · rename_i hd
        rw [if_pos hd]
        split at h0
        · rename_i he
          rw [if_pos he]
          have h1 : SegR fnB (advP s).ns.length _ _ := ih .func _ (c0_run h0)
          rw [adv_ns] at h1
          exact ih _ _ h0 lo (ha.more (run_le ts n _ s _ (PLe.refl s).adv).ns (h1.imp fn_to))
        · rename_i he
          rw [if_neg he]
          have h1 : SegR stB _ _ _ := ih .stmt _ (c0_run h0)
          exact ih _ _ h0 lo (ha.more (run_pre n _ _) (h1.imp st_to))
      · rename_i hd
        rw [if_neg hd]; exact ha
    | inner => exact inner_seg hts n ih s h0

def Few (s : PS) : Prop := s.ns.length ≤ 200
theorem Few.same {s s' : PS} (h : Few s) (e : s'.ns = s.ns) : Few s' := by unfold Few; rw [e]; exact h
theorem Few.put {ts : List V3} {x : TN} {s : PS} (h : Few s) : Few (putP ts x s).2 := by
  unfold putP
  split
  · exact h.same (fail_ns _ _ _)
  · rename_i hn
    unfold Few at h ⊢
    simp; omega
theorem run_few (ts : List V3) (n : Nat) : ∀ (f : PF) (s : PS), Few s → Few (run ts n f s).s := by
  induction n with
  | zero =>
    intro f s h
    rw [run_zero]
    exact h.same (by show (if s.code = 0 then { s with code := 99 } else s).ns = s.ns; split <;> rfl)
  | succ n ih =>
    intro f s h
    cases f <;> (unfold run; repeat' split) <;> (try simp only [retP, oneP]) <;> repeat (first | exact h | refine Few.same ?_ (up_ns _) | apply Few.put | refine Few.same ?_ (need_ns _ _ _) | refine Few.same ?_ (com_ns _ _ _) | refine Few.same ?_ (name_ns _ _) | refine Few.same ?_ (adv_ns _) | apply ih | refine Few.same ?_ (down_ns _ _) | refine Few.same ?_ (fail_ns _ _ _))

theorem Seg.vis {ns : List TN} {root : Nat} {ks : List Int} {lo hi : Nat} (h : Seg ns ks lo hi) (hr : hi ≤ root) : ∃ l d, Vis ns ks l d ∧ l.Nodup ∧ (∀ x, x ∈ l ↔ lo ≤ x ∧ x < hi) ∧ ∀ x ∈ l, GoodT ns (root : Int) x := by
  induction h with
  | nil lo => exact ⟨[], 0, .nil, by simp, fun x => ⟨fun h => (by cases h), fun h => (by omega)⟩, fun x h => (by cases h)⟩
  | cons lo mid hi x ks hx hg h1 h2 i1 i2 =>
    have hm := h2.le
    have hlo := h1.le
    obtain ⟨l1, d1, v1, n1, m1, g1⟩ := i1 (by omega)
    obtain ⟨l2, d2, v2, n2, m2, g2⟩ := i2 hr
    have hv := Vis.cons (ns := ns) (mid : Int) x ks l1 l2 d1 d2 (by omega) (by rw [Int.toNat_natCast]; exact hx) v1 v2
    rw [Int.toNat_natCast] at hv
    refine ⟨_, _, hv, ?_, ?_, ?_⟩
    · rw [List.nodup_cons]
      refine ⟨fun hm' => ?_, ?_⟩
      · rcases List.mem_append.1 hm' with hm' | hm'
        · have := (m1 mid).1 hm'; omega
        · have := (m2 mid).1 hm'; omega
      · rw [List.nodup_append]
        refine ⟨n1, n2, fun a ha b hb e => ?_⟩
        subst e
        have := (m1 a).1 ha
        have := (m2 a).1 hb
        omega
    · intro y
      rw [List.mem_cons, List.mem_append, m1, m2]
      omega
    · intro y hy
      rcases List.mem_cons.1 hy with rfl | hy
      · refine ⟨x, hx, hg.1, fun i j hj => ?_⟩
        obtain ⟨hj0, m, hjm⟩ := h1.mem j (List.mem_of_getElem? hj)
        refine ⟨m, hj0, hjm, ?_⟩
        have := hg.2 i j hj
        rw [kd_of hjm] at this
        rw [decide_eq_false (by omega)]
        exact this
      · rcases List.mem_append.1 hy with hy | hy
        · exact g1 y hy
        · exact g2 y hy
theorem takes_top (i : Nat) (kk : Int) (h : toB kk = true) : takesB 18 true i kk = true := by
  unfold takesB; rw [if_pos rfl]
  unfold toB at h
  simp at h ⊢
  omega
/-- the parser's end: the outmost block -/
def endPO (ts : List V3) (n : Nat) : Int × PS := putP ts ⟨18, 0, em, [], (run ts n (.topL []) ⟨0, [], 0, 0, 0⟩).ks⟩ (run ts n (.topL []) ⟨0, [], 0, 0, 0⟩).s
theorem parse_tree {ts : List V3} (hts : ∀ v ∈ ts, tokB v.k v.t.data.toList = true) (n : Nat) (h0 : (endPO ts n).2.code = 0) : TreeOkP (endPO ts n).2.ns (endPO ts n).1 := by
  unfold endPO at h0 ⊢
  have c1 := c0_put h0
  have hA : SegA toB 0 _ _ := run_seg hts n (.topL []) _ c1 0 (SegA.nil (s := ⟨0, [], 0, 0, 0⟩))
  have hf : Few (run ts n (.topL []) ⟨0, [], 0, 0, 0⟩).s := run_few ts n _ _ (by show (0 : Nat) ≤ 200; omega)
  generalize run ts n (.topL []) ⟨0, [], 0, 0, 0⟩ = o at *
  have hf2 : Few (putP ts ⟨18, 0, em, [], o.ks⟩ o.s).2 := hf.put
  unfold Few at hf2
  have hl : ¬ o.s.ns.length = 200 := fun e => by
    rw [putP, if_pos e] at h0
    exact absurd h0 (fail_code (by decide))
  rw [putP, if_neg hl] at hf2 ⊢
  simp only at hf2 ⊢
  generalize hx : (⟨18, 0, em, [], o.ks⟩ : TN) = x at *
  have hp : o.s.ns <+: o.s.ns ++ [x] := List.prefix_append _ _
  have hxe : (o.s.ns ++ [x])[o.s.ns.length]? = some x := by simp
  have hk18 : x.k = 18 := by rw [← hx]
  have hkk : x.kids = o.ks := by rw [← hx]
  obtain ⟨l, d, v, nd, mm, gg⟩ := (hA.1.mono hp).vis (root := o.s.ns.length) (Nat.le_refl _)
  have hv := Vis.cons (ns := o.s.ns ++ [x]) (o.s.ns.length : Int) x [] l [] d 0 (by omega) (by rw [Int.toNat_natCast]; exact hxe) (by rw [hkk]; exact v) .nil
  rw [Int.toNat_natCast, List.append_nil] at hv
  refine ⟨_, _, hf2, ⟨hv, ?_, ?_, ?_⟩, ⟨x, by rw [Int.toNat_natCast]; exact hxe, hk18⟩, ?_⟩
  · rw [List.nodup_cons]
    exact ⟨fun h => by have := (mm _).1 h; omega, nd⟩
  · intro y _ h; cases h
  · intro y hy
    rcases List.mem_cons.1 hy with rfl | hy
    · refine ⟨x, hxe, by rw [← hx]; exact node_block _, fun i j hj => ?_⟩
      rw [hkk] at hj
      have hjm := List.mem_of_getElem? hj
      obtain ⟨hj0, m, hm⟩ := (hA.1.mono hp).mem j hjm
      refine ⟨m, hj0, hm, ?_⟩
      rw [hk18, decide_eq_true rfl]
      apply takes_top
      have := hA.2 j hjm
      rw [← hA.1.kd hp j hjm, kd_of hm] at this
      exact this
    · exact gg y hy
  · intro i hi
    rw [List.length_append, List.length_singleton] at hi
    rw [List.mem_cons, mm]
    omega

end Go.Proofs.YtbipgmikgokfpaaDoor

/- ParentWalk -/
namespace Go.Proofs.YtbipgmikgokfpaaDoor
open Go.RowKit Go.Joins
set_option linter.unusedVariables false

theorem Par.lt {ns : List TN} {x y : Nat} (h : Par ns x y) : x < ns.length := by
  obtain ⟨n, hn, _⟩ := h
  exact (List.getElem?_eq_some_iff.1 hn).1
theorem TreeP.parent {ns : List TN} {root : Int} {l : List Nat} {d a : Nat} (h : TreeP ns root l d) (ha : a < ns.length) (hr : (a : Int) ≠ root) : ∃ x ∈ l, Par ns x a := by
  obtain ⟨j, hj, ps, hu, _⟩ := h.2.1.1.up a (h.2.2.2 a ha)
  rw [List.mem_singleton] at hj
  subst hj
  cases hu with
  | here _ => exact absurd (Int.toNat_of_nonneg h.root.1) hr
  | step x _ ps hx _ hp _ => exact ⟨x, hx, hp⟩
theorem TreeP.uniq {ns : List TN} {root : Int} {l : List Nat} {d a x x' : Nat} (h : TreeP ns root l d) (hp : Par ns x a) (hp' : Par ns x' a) : x = x' :=
  (h.2.1.1.uniq h.2.1.2.1).2 x (h.2.2.2 x hp.lt) x' (h.2.2.2 x' hp'.lt) a hp hp'
theorem TreeP.noPar {ns : List TN} {root : Int} {l : List Nat} {d x : Nat} (h : TreeP ns root l d) : ¬ Par ns x root.toNat := fun hp =>
  (h.2.1.1.uniq h.2.1.2.1).1 x (h.2.2.2 x hp.lt) root (by simp) hp
/-- what a call that tells a parent answers -/
def ParentRes (ns : List TN) (root k r c : Int) : Prop := (¬ TreeOkP ns root ∧ r = 0 ∧ c = 1) ∨ (TreeOkP ns root ∧ ¬ (0 ≤ k ∧ k < ns.length) ∧ r = 0 ∧ c = 13) ∨ (TreeOkP ns root ∧ (0 ≤ k ∧ k < ns.length) ∧ k = root ∧ r = 0 ∧ c = 5) ∨ (TreeOkP ns root ∧ (0 ≤ k ∧ k < ns.length) ∧ k ≠ root ∧ (∃ x : Nat, Par ns x k.toNat ∧ r = (x : Int)) ∧ c = 0)
theorem ParentRes.det {ns : List TN} {root k r c r' c' : Int} (h : ParentRes ns root k r c) (h' : ParentRes ns root k r' c') : r = r' ∧ c = c' := by
  rcases h with ⟨a, rfl, rfl⟩ | ⟨a, b, rfl, rfl⟩ | ⟨a, b, e, rfl, rfl⟩ | ⟨a, b, e, ⟨x, p, rfl⟩, rfl⟩ <;> rcases h' with ⟨a', rfl, rfl⟩ | ⟨a', b', rfl, rfl⟩ | ⟨a', b', e', rfl, rfl⟩ | ⟨a', b', e', ⟨x', p', rfl⟩, rfl⟩
  all_goals first | exact ⟨rfl, rfl⟩ | exact absurd a a' | exact absurd a' a | exact absurd b b' | exact absurd b' b | exact absurd e e' | exact absurd e' e | skip
  obtain ⟨l, d, hT⟩ := a
  rw [hT.uniq p p']
  exact ⟨rfl, rfl⟩

set_option maxRecDepth 100000 in
theorem implParentOf_any (ns : List TN) (root k : Int) (L : Lay) (w : World) (hN : NodesAt w L ns) (hsm : Small ns) (htab : Hid (TabAt w 0 srcWords)) :
    Calls Tryd.prog 18 #[.agg #[.slice L.p ns.length L.cap, .int .i64 root], .int .i64 k] w fun e w' => ∃ r c : Int, e = .returned (.tuple #[.int .i64 r, .int .i64 c]) ∧ ParentRes ns root k r c ∧ Below w.heap.size w w' := by
  have HN := hide hN
  have HS := hide hsm
  clear hN hsm
  by_cases hk : 0 ≤ k ∧ k < ns.length
  · obtain ⟨a, rfl⟩ : ∃ a : Nat, k = (a : Int) := ⟨k.toNat, by omega⟩
    go_enter Tryd.func18, Tryd.ntmps18
    go_wp2_with fail
    refine (branchOf_in ns root a L _ ((unhide HN).later (nx_alloc _ _)) (unhide HS) (hide ((unhide htab).later (nx_alloc _ _))) (by omega)).mono ?_
    rintro e w1 ⟨hb, hres⟩
    have hB := hide (nx_trans (nx_alloc _ _) hb)
    clear hb
    rcases hres with ⟨rfl, hno⟩ | ⟨G, B, loc, l, d, hT, hG, x, rfl, rfl⟩
    · have hD : Hid (ParentRes ns root (a : Int) 0 1) := hide (.inl ⟨hno, rfl, rfl⟩)
      clear hno
      go_wp2
      go_ret2
      exact ⟨0, 1, rfl, unhide hD, unhide hB⟩
    · by_cases hr : (x : Int) = root
      · have c6 := hG.top
        rw [← hr, Int.toNat_natCast] at c6
        have hD : Hid (ParentRes ns root (x : Int) 0 5) := hide (.inr (.inr (.inl ⟨⟨l, d, hT⟩, hk, hr, rfl, rfl⟩)))
        clear hT hG hr
        generalize loc x = gx at c6
        go_wp2
        go_ret2
        exact ⟨0, 5, rfl, unhide hD, unhide hB⟩
      · obtain ⟨p, hpl, hp⟩ := hT.parent (a := x) (by omega) hr
        have hD : Hid (ParentRes ns root (x : Int) (p : Int) 0) := hide (.inr (.inr (.inr ⟨⟨l, d, hT⟩, hk, hr, ⟨p, by rw [Int.toNat_natCast]; exact hp, rfl⟩, rfl⟩)))
        obtain ⟨n, pb, cb, hn, _, _, _, _, _, _, c5, _, _, hkid⟩ := hG.br p hpl
        obtain ⟨n', hn', j, hj, _, hjx⟩ := hp
        rw [hn] at hn'
        obtain rfl := Option.some.inj hn'
        have c6 := (hkid j hj).2.2
        rw [hjx] at c6
        clear hT hG hr hkid hn hj hjx hpl
        generalize loc x = gx at c6
        generalize loc p = gp at c5 c6
        go_wp2
        go_ret2
        exact ⟨_, 0, rfl, unhide hD, unhide hB⟩
  · go_enter Tryd.func18, Tryd.ntmps18
    go_wp2_with fail
    refine (branchOf_out ns root k L _ ((unhide HN).later (nx_alloc _ _)) (unhide HS) (hide ((unhide htab).later (nx_alloc _ _))) hk).mono ?_
    rintro e w1 ⟨hb, hres⟩
    have hB := hide (nx_trans (nx_alloc _ _) hb)
    clear hb
    rcases hres with ⟨rfl, hno⟩ | ⟨rfl, hok⟩
    · have hD : Hid (ParentRes ns root k 0 1) := hide (.inl ⟨hno, rfl, rfl⟩)
      clear hno hk
      go_wp2
      go_ret2
      exact ⟨0, 1, rfl, unhide hD, unhide hB⟩
    · have hD : Hid (ParentRes ns root k 0 13) := hide (.inr (.inl ⟨hok, hk, rfl, rfl⟩))
      clear hok hk
      go_wp2
      go_ret2
      exact ⟨0, 13, rfl, unhide hD, unhide hB⟩

/-- no kid so far is it, and one that is comes -/
def NoKid (ks : List Int) (a : Nat) (m : Nat) : Prop := ∃ p, m ≤ p ∧ ks[p]? = some (a : Int)

set_option maxHeartbeats 2000000 in
set_option maxRecDepth 100000 in
theorem l03Parent_any (ns : List TN) (root : Int) (a x : Nat) (L : Lay) (w : World) (hN : NodesAt w L ns) (hsm : Small ns) (hp : Par ns x a) (hu : ∀ y, Par ns y a → y = x) :
    Calls Tryd.prog 72 #[.agg #[.slice L.p ns.length L.cap, .int .i64 root], .int .i64 (a : Int)] w fun e w' => e = .returned (.int .i64 (x : Int)) ∧ Below w.heap.size w w' := by
  have hx := hp.lt
  have hnl := hsm.1
  have HN := hide (hN.later (nx_alloc w (.cells #[.slice L.p ns.length L.cap, .int .i64 root] 25)))
  have HS := hide hsm.2
  have HP := hide hp
  have HU := hide hu
  clear hN hsm hp hu
  go_enter Tryd.func72, Tryd.ntmps72
  go_wp2
  go_loopw [5] (fun i wx => ∃ m : Nat, m ≤ x ∧ i = .int .i64 m ∧ Hid (wx = w.alloc (.cells #[.slice L.p ns.length L.cap, .int .i64 root] 25))) (fun i _ => x + 1 - (intOf i).toNat)
  case atStart => exact ⟨0, by omega, rfl, hide rfl⟩
  case round =>
    obtain ⟨m, hm, rfl, hw⟩ := hrel
    obtain rfl := unhide hw
    have t0 : (w.alloc (.cells #[.slice L.p ns.length L.cap, .int .i64 root] 25)).cell? ⟨w.heap.size, 0, none⟩ = some (.slice L.p ns.length L.cap) := by simp
    obtain ⟨b, off, hp, q0, q1, q2, q3, q4, q5, q6⟩ := unhide HN m (by omega)
    have hkl := (unhide HS ns[m] (List.getElem_mem (by omega))).2.2.1
    have HPar : Hid (∀ j, j ∈ ns[m].kids → j = (a : Int) → m = x) := hide (fun j hj e => unhide HU m ⟨ns[m], List.getElem?_eq_getElem (by omega), j, hj, by omega, by omega⟩)
    have HNK : Hid (m = x → NoKid ns[m].kids a 0) := hide (fun e => by
      obtain ⟨n, hn, j, hj, h0, hja⟩ := unhide HP
      rw [← e, List.getElem?_eq_getElem (by omega)] at hn
      obtain rfl := Option.some.inj hn
      obtain ⟨p, hpl, hpe⟩ := List.getElem_of_mem hj
      exact ⟨p, by omega, by rw [List.getElem?_eq_getElem hpl, hpe]; congr 1; omega⟩)
    generalize hW0 : w.alloc (.cells #[.slice L.p ns.length L.cap, .int .i64 root] 25) = wb at t0 q4 q6 ⊢
    have HBW : Hid (Below w.heap.size w wb) := hide (by rw [← hW0]; exact nx_alloc _ _)
    have HWB := hide hW0
    rw [hp] at t0
    clear q0 q1 q2 q3 q5 hw hp hW0
    have hmn : m < ns.length := by omega
    generalize ns[m] = y at q4 q6 hkl HPar HNK
    have Q6 := hide q6
    clear q6
    go_wp2
    go_loopw [6] (fun i wx => ∃ p : Nat, p ≤ y.kids.length ∧ i = .int .i64 p ∧ Hid (m = x → NoKid y.kids a p) ∧ Hid (wx = wb)) (fun i _ => y.kids.length - (intOf i).toNat)
    case atStart => exact ⟨0, by omega, rfl, HNK, hide rfl⟩
    case round =>
      obtain ⟨p, hpl, rfl, hnk, hw2⟩ := hrel
      obtain rfl := unhide hw2
      by_cases hlt : p < y.kids.length
      · obtain ⟨bk, ok, hpk, y1⟩ := unhide Q6 p hlt
        rw [hpk] at q4
        clear hpk
        have hmem := List.getElem_mem hlt
        have hget := List.getElem?_eq_getElem hlt
        have HM := hide (fun (e : y.kids[p] = (a : Int)) => unhide HPar y.kids[p] hmem e)
        have HNX : Hid (y.kids[p] ≠ (a : Int) → m = x → NoKid y.kids a (p + 1)) := hide (fun hne e => by
          obtain ⟨p', h1, h2⟩ := unhide hnk e
          refine ⟨p', ?_, h2⟩
          by_cases hpp : p' = p
          · subst hpp
            rw [hget] at h2
            exact absurd (Option.some.inj h2) hne
          · omega)
        clear hmem hget
        generalize y.kids[p] = j at y1 HM HNX
        by_cases hja : j = (a : Int)
        · have hmx := unhide HM hja
          have e1 : (j == (a : Int)) = true := by simp [hja]
          clear hja HM HNX
          subst hmx
          go_wp2
          go_ret
          exact ⟨rfl, unhide HBW⟩
        · have e1 : (j == (a : Int)) = false := beq_eq_false_iff_ne.2 hja
          have hd := hide (unhide HNX hja)
          clear hja HM HNX
          go_wp2
          go_roundw
          case rel => exact ⟨p + 1, by omega, by go_num, hide (unhide hd), hide trivial⟩
          case measure => simp [intOf]; omega
      · have hmx : m ≠ x := fun e => by
          obtain ⟨p', h1, h2⟩ := unhide hnk e
          have := (List.getElem?_eq_some_iff.1 h2).1
          omega
        have hmx2 : m + 1 ≤ x := by omega
        clear hmx
        go_wp2
        go_roundw
        case rel => exact ⟨m + 1, hmx2, by go_num, hide trivial⟩
        case measure => simp [intOf]; omega

set_option maxRecDepth 100000 in
theorem specParentOf_any (ns : List TN) (root k : Int) (L : Lay) (w : World) (hN : NodesAt w L ns) (hsm : Small ns) :
    Calls Tryd.prog 32 #[.agg #[.slice L.p ns.length L.cap, .int .i64 root], .int .i64 k] w fun e w' => ∃ r c : Int, e = .returned (.tuple #[.int .i64 r, .int .i64 c]) ∧ ParentRes ns root k r c ∧ Below w.heap.size w w' := by
  have HN := hide hN
  have HS := hide hsm
  clear hN hsm
  go_enter Tryd.func32, Tryd.ntmps32
  go_wp2_with fail
  refine (l03Place_any ns root k L _ ((unhide HN).later (nx_alloc _ _)) (unhide HS)).mono ?_
  rintro e w1 ⟨c, rfl, hc, hb1⟩
  have hB := hide (nx_trans (nx_alloc _ _) hb1)
  have c1 : ∀ o, w1.cell? ⟨w.heap.size, o, none⟩ = (w.alloc (.cells #[.slice L.p ns.length L.cap, .int .i64 root] 25)).cell? ⟨w.heap.size, o, none⟩ := fun o => hb1.cell (p := ⟨w.heap.size, o, none⟩) (by simp)
  have d0 : w1.cell? ⟨w.heap.size, 0, none⟩ = some (.slice L.p ns.length L.cap) := by rw [c1]; simp
  have d1 : w1.cell? ⟨w.heap.size, 1, none⟩ = some (.int .i64 root) := by rw [c1]; simp
  clear hb1 c1
  rcases hc with ⟨hno, rfl⟩ | ⟨hok, hk, rfl⟩ | ⟨hok, hk, rfl⟩
  · have hD : Hid (ParentRes ns root k 0 1) := hide (.inl ⟨hno, rfl, rfl⟩)
    clear hno
    go_wp2
    go_ret2
    exact ⟨0, 1, rfl, unhide hD, unhide hB⟩
  · have hD : Hid (ParentRes ns root k 0 13) := hide (.inr (.inl ⟨hok, hk, rfl, rfl⟩))
    clear hok hk
    go_wp2
    go_ret2
    exact ⟨0, 13, rfl, unhide hD, unhide hB⟩
  · obtain ⟨l, d, hT⟩ := hok
    obtain ⟨a, rfl⟩ : ∃ a : Nat, k = (a : Int) := ⟨k.toNat, by omega⟩
    by_cases hr : (a : Int) = root
    · have hD : Hid (ParentRes ns root (a : Int) 0 5) := hide (.inr (.inr (.inl ⟨⟨l, d, hT⟩, hk, hr, rfl, rfl⟩)))
      have e1 : ((a : Int) == root) = true := by simp [hr]
      clear hT hk hr
      go_wp2
      go_ret2
      exact ⟨0, 5, rfl, unhide hD, unhide hB⟩
    · obtain ⟨p, hpl, hp⟩ := hT.parent (a := a) (by omega) hr
      have hD : Hid (ParentRes ns root (a : Int) (p : Int) 0) := hide (.inr (.inr (.inr ⟨⟨l, d, hT⟩, hk, hr, ⟨p, by rw [Int.toNat_natCast]; exact hp, rfl⟩, rfl⟩)))
      have e1 : ((a : Int) == root) = false := beq_eq_false_iff_ne.2 hr
      have HC := hide (l03Parent_any ns root a p L w1 ((unhide HN).later (unhide hB)) (unhide HS) hp (fun y hy => hT.uniq hy hp))
      clear hT hk hr hpl hp
      go_wp2_with fail
      refine (unhide HC).mono ?_
      rintro e w2 ⟨rfl, hb2⟩
      have hB2 := hide (nx_trans (unhide hB) hb2)
      clear hb2
      go_wp2
      go_ret2
      exact ⟨_, 0, rfl, unhide hD, unhide hB2⟩

end Go.Proofs.YtbipgmikgokfpaaDoor

/- PathWalk -/
namespace Go.Proofs.YtbipgmikgokfpaaDoor
open Go.RowKit Go.Joins
set_option linter.unusedVariables false

def lenV : Value → Nat
  | .slice _ n _ => n
  | _ => 0
theorem lenV_slice (a : Option Addr) (n c : Nat) : lenV (.slice a n c) = n := rfl
/-- the way to a node, from the outmost block on -/
def PathIs (ns : List TN) (root : Int) (a : Nat) (zs : List Int) : Prop := ∃ l d ps, TreeP ns root l d ∧ Up ns l root.toNat a ps ∧ zs = (ps.map fun x : Nat => (x : Int)).reverse
theorem Up.det {ns : List TN} {root : Int} {l l' : List Nat} {d : Nat} (hT : TreeP ns root l d) {y : Nat} {ps ps' : List Nat} (h : Up ns l root.toNat y ps) (h' : Up ns l' root.toNat y ps') : ps = ps' := by
  induction h generalizing ps' with
  | here hl =>
    cases h' with
    | here _ => rfl
    | step x _ ps' _ _ hp _ => exact absurd hp hT.noPar
  | step x y ps hx hy hp h ih =>
    cases h' with
    | here _ => exact absurd hp hT.noPar
    | step x' _ ps' _ _ hp' h'' =>
      obtain rfl := hT.uniq hp hp'
      rw [ih h'']
theorem PathIs.det {ns : List TN} {root : Int} {a : Nat} {zs zs' : List Int} (h : PathIs ns root a zs) (h' : PathIs ns root a zs') : zs = zs' := by
  obtain ⟨l, d, ps, hT, hu, rfl⟩ := h
  obtain ⟨l', d', ps', hT', hu', rfl⟩ := h'
  rw [Up.det hT hu hu']
theorem TreeP.path {ns : List TN} {root : Int} {l : List Nat} {d a : Nat} (h : TreeP ns root l d) (ha : a < ns.length) : ∃ ps, Up ns l root.toNat a ps ∧ ps.length ≤ 200 := by
  obtain ⟨j, hj, ps, hu, hd⟩ := h.2.1.1.up a (h.2.2.2 a ha)
  rw [List.mem_singleton] at hj
  subst hj
  have h1 := h.2.1.1.depth_le
  have h2 := nodup_le ns.length l h.2.1.2.1 h.2.1.1.lt
  have := h.1
  exact ⟨ps, hu, by omega⟩

/-- what is left of the way up: from y on, or nothing -/
def UpFrom (ns : List TN) (l : List Nat) (r : Nat) (loc : Nat → Nat) (full acc : List Int) (v : Value) : Prop :=
  (∃ y ps, v = .pointer (some ⟨loc y, 0, none⟩) ∧ Up ns l r y ps ∧ full = acc ++ ps.map fun x : Nat => (x : Int)) ∨ (v = .pointer none ∧ full = acc)

theorem IntBuf.set {w : World} {base g n cap i : Nat} {us : List Int} (h : IntBuf w base (.slice (some ⟨g, 0, none⟩) n cap) us) (hi : i < us.length) (z : Int) : IntBuf (w.setCell ⟨g, i, none⟩ (.int .i64 z)) base (.slice (some ⟨g, 0, none⟩) n cap) (us.set i z) := by
  refine ⟨by simp, ?_⟩
  rcases h.2 with ⟨e, _⟩ | ⟨g', cap', cur, e, hg, hgg, hn, hm, hs, ht⟩
  · cases e
  · simp at e
    obtain ⟨rfl, rfl, rfl⟩ := e
    refine .inr ⟨g, cap, cur.setIfInBounds i (.int .i64 z), by simp, hg, block_setCell hgg _, by simpa using hn, hm, by simpa using hs, ?_⟩
    rw [List.length_set, Array.toList_setIfInBounds, List.take_set, ht, List.map_set]
theorem IntBuf.free {w : World} {base g n cap : Nat} {us : List Int} (h : IntBuf w base (.slice (some ⟨g, 0, none⟩) n cap) us) (i : Nat) : w.frozen? ⟨g, i, none⟩ = false := by
  rcases h.2 with ⟨e, _⟩ | ⟨g', cap', cur, e, hg, hgg, _⟩
  · cases e
  · simp at e
    obtain ⟨rfl, rfl, rfl⟩ := e
    exact unfrozen_of_block hgg i
theorem IntBuf.get {w : World} {base g n cap : Nat} {us : List Int} (h : IntBuf w base (.slice (some ⟨g, 0, none⟩) n cap) us) (i : Nat) (hi : i < us.length) : w.cell? ⟨g, i, none⟩ = some (.int .i64 us[i]) := by
  have e : n = us.length := by
    obtain ⟨a, c, e⟩ := h.slice
    simp at e
    exact e.2.1
  subst e
  rw [World.ownsRow.cellAt h i (by omega)]
  simp [hi]
/-- the first k and the last k have changed places -/
def RevAt (zs us : List Int) (k : Nat) : Prop := us.length = zs.length ∧ ∀ i, i < zs.length → us[i]? = if i < k ∨ zs.length - 1 - i < k then zs[zs.length - 1 - i]? else zs[i]?
theorem RevAt.zero (zs : List Int) : RevAt zs zs 0 := ⟨rfl, fun i hi => by rw [if_neg (by omega)]⟩
theorem RevAt.done {zs us : List Int} {k : Nat} (h : RevAt zs us k) (hk : zs.length ≤ k + k + 1) : us = zs.reverse := by
  apply List.ext_getElem?
  intro i
  by_cases hi : i < zs.length
  · rw [h.2 i hi, List.getElem?_reverse hi]
    split
    · rfl
    · rw [show zs.length - 1 - i = i by omega]
  · rw [List.getElem?_eq_none (by rw [h.1]; omega), List.getElem?_eq_none (by rw [List.length_reverse]; omega)]
theorem RevAt.next {zs us : List Int} {k : Nat} {p q : Int} (h : RevAt zs us k) (hk : k + k + 1 < zs.length) (hp : us[k]? = some p) (hq : us[zs.length - 1 - k]? = some q) : RevAt zs ((us.set k q).set (zs.length - 1 - k) p) (k + 1) := by
  have hp' : zs[k]? = some p := by rw [← hp, h.2 k (by omega), if_neg (by omega)]
  have hq' : zs[zs.length - 1 - k]? = some q := by rw [← hq, h.2 (zs.length - 1 - k) (by omega), if_neg (by omega)]
  refine ⟨by simp [h.1], fun i hi => ?_⟩
  by_cases e1 : i = zs.length - 1 - k
  · subst e1
    rw [List.getElem?_set_self (by simp [h.1]; omega), if_pos (by omega), show zs.length - 1 - (zs.length - 1 - k) = k by omega, hp']
  · rw [List.getElem?_set_ne (by omega)]
    by_cases e2 : i = k
    · subst e2
      rw [List.getElem?_set_self (by rw [h.1]; omega), if_pos (by omega), hq']
    · rw [List.getElem?_set_ne (by omega), h.2 i hi]
      by_cases hc : i < k ∨ zs.length - 1 - i < k
      · rw [if_pos hc, if_pos (by omega)]
      · rw [if_neg hc, if_neg (by omega)]

set_option maxHeartbeats 1000000 in
set_option maxRecDepth 100000 in
theorem Reverse_any (base : Nat) (v : Value) (zs : List Int) (w : World) (hz : zs.length ≤ 1000) (hI : IntBuf w base v zs) :
    Calls Tryd.prog 56 #[v] w fun e w' => e = .returned (.tuple #[]) ∧ IntBuf w' base v zs.reverse ∧ Below base w w' ∧ w'.heap.size = w.heap.size := by
  by_cases h0 : zs.length = 0
  · have hz0 : zs = [] := List.length_eq_zero_iff.1 h0
    subst hz0
    obtain ⟨pa, cap, rfl⟩ := hI.slice
    have HI := hide hI
    clear hI h0
    go_enter Tryd.func56, Tryd.ntmps56
    go_wp2
    go_loopw [2, 3] (fun i j wx => i = .int .i64 0 ∧ j = .int .i64 (-1) ∧ Hid (wx = w)) (fun _ _ _ => 0)
    case atStart => exact ⟨rfl, rfl, hide rfl⟩
    case round =>
      obtain ⟨rfl, rfl, hw⟩ := hrel
      obtain rfl := unhide hw
      go_wp2
      go_end0
      exact ⟨rfl, unhide HI, Below.refl _ _, rfl⟩
  · obtain ⟨g, cap, rfl⟩ : ∃ g cap, v = .slice (some ⟨g, 0, none⟩) zs.length cap := ownsRow_form hI (by omega)
    have hgb : base ≤ g := (hI.own_lt g rfl).1
    have HI := hide hI
    clear hI
    go_enter Tryd.func56, Tryd.ntmps56
    go_wp2
    go_loopw [2, 3] (fun i j wx => ∃ (k : Nat) (us : List Int), k + k ≤ zs.length + 1 ∧ i = .int .i64 (k : Int) ∧ j = .int .i64 ((zs.length : Int) - 1 - (k : Int)) ∧ Hid (RevAt zs us k) ∧ Hid (IntBuf wx base (.slice (some ⟨g, 0, none⟩) zs.length cap) us) ∧ Hid (Below base w wx) ∧ wx.heap.size = w.heap.size) (fun i _ _ => zs.length - (intOf i).toNat)
    case atStart => exact ⟨0, zs, by omega, rfl, by simp, hide (RevAt.zero zs), HI, hide (Below.refl _ _), rfl⟩
    case round =>
      obtain ⟨k, us, hk, rfl, rfl, hr, hIx, hBx, hsz⟩ := hrel
      by_cases hlt : k + k + 1 < zs.length
      · have hul := (unhide hr).1
        have hk1 : k < us.length := by omega
        have hk2 : zs.length - 1 - k < us.length := by omega
        have y0 := (unhide hIx).get k hk1
        have y1 := (unhide hIx).get (zs.length - 1 - k) hk2
        have f0 := (unhide hIx).free k
        have f1 := (unhide hIx).free (zs.length - 1 - k)
        have hnx := hide ((unhide hr).next hlt (List.getElem?_eq_getElem hk1) (List.getElem?_eq_getElem hk2))
        have hIn := hide (((unhide hIx).set hk1 us[zs.length - 1 - k]).set (i := zs.length - 1 - k) (by rw [List.length_set]; exact hk2) us[k])
        generalize us[k] = p at y0 hnx hIn
        generalize us[zs.length - 1 - k] = q at y1 hnx hIn
        have hjj : ((zs.length : Int) - 1 - (k : Int)) = ((zs.length - 1 - k : Nat) : Int) := by omega
        have hlt2 : (k : Int) < ((zs.length - 1 - k : Nat) : Int) := by omega
        have hne : ¬ k = zs.length - 1 - k := by omega
        have hne2 : ¬ zs.length - 1 - k = k := by omega
        have hj3 : zs.length - 1 - k < zs.length := by omega
        have hk3 : k < zs.length := by omega
        rw [hjj]
        generalize hJ : zs.length - 1 - k = J at y1 f1 hnx hIn hlt2 hne hne2 hj3 ⊢
        go_wp2
        go_region
        all_goals go_wp2
        all_goals (go_roundw; (case rel => exact ⟨k + 1, _, by omega, by go_num, by congr 1; omega, hide (unhide hnx), hide ((unhide hIn).later (Below.refl _ _).drew), hide (((unhide hBx).setCell (p := ⟨g, k, none⟩) hgb _).setCell (p := ⟨g, J, none⟩) hgb _).drew, by simpa [World.drew] using hsz⟩); (case measure => simp [intOf]; omega))
      · have hD := hide ((unhide hr).done (by omega))
        have hlt2 : ¬ (k : Int) < (zs.length : Int) - 1 - (k : Int) := by omega
        go_wp2
        go_end0
        exact ⟨rfl, by rw [← unhide hD]; exact unhide hIx, unhide hBx, hsz⟩

set_option maxHeartbeats 2000000 in
set_option maxRecDepth 100000 in
theorem implPathTo_in (ns : List TN) (root : Int) (a : Nat) (L : Lay) (w : World) (hN : NodesAt w L ns) (hsm : Small ns) (htab : Hid (TabAt w 0 srcWords)) (ha : a < ns.length) :
    Calls Tryd.prog 20 #[.agg #[.slice L.p ns.length L.cap, .int .i64 root], .int .i64 (a : Int)] w fun e w' => Below w.heap.size w w' ∧ ((e = .returned (.tuple #[.slice none 0 0, .int .i64 1]) ∧ ¬ TreeOkP ns root) ∨ ∃ v zs, e = .returned (.tuple #[v, .int .i64 0]) ∧ PathIs ns root a zs ∧ IntBuf w' w.heap.size v zs) := by
  have HN := hide hN
  have HS := hide hsm
  clear hN hsm
  go_enter Tryd.func20, Tryd.ntmps20
  go_wp2_with fail
  refine (branchOf_in ns root a L _ ((unhide HN).later (nx_alloc _ _)) (unhide HS) (hide ((unhide htab).later (nx_alloc _ _))) ha).mono ?_
  rintro e w1 ⟨hb, hres⟩
  have hB := hide (nx_trans (nx_alloc _ _) hb)
  have hw1 : w.heap.size < w1.heap.size := by have := hb.size; simp at this; omega
  clear hb
  rcases hres with ⟨rfl, hno⟩ | ⟨G, B, loc, l, d, hT, hG, x, rfl, rfl⟩
  · have hD := hide hno
    clear hno
    go_wp2
    go_ret2
    exact ⟨unhide hB, .inl ⟨rfl, unhide hD⟩⟩
  obtain ⟨ps, hu, hpl⟩ := hT.path (a := x) ha
  obtain ⟨full, hfull⟩ : ∃ full, full = ps.map fun x : Nat => (x : Int) := ⟨_, rfl⟩
  have hfl : full.length ≤ 200 := by rw [hfull, List.length_map]; exact hpl
  have HPI : Hid (PathIs ns root x full.reverse) := hide ⟨l, d, ps, hT, hu, by rw [hfull]⟩
  have HUF : Hid (UpFrom ns l root.toNat loc full [] (.pointer (some ⟨loc x, 0, none⟩))) := hide (.inl ⟨x, ps, rfl, hu, by rw [hfull]; rfl⟩)
  have HT := hide hT
  have HG := hide hG
  clear hT hG hu hfull hpl
  generalize loc x = gx at HUF
  go_wp2
  go_loopw [6, 8] (fun s6 s8 wx => ∃ acc : List Int, Hid (UpFrom ns l root.toNat loc full acc s6) ∧ acc.length ≤ full.length ∧ Hid (IntBuf wx w1.heap.size s8 acc) ∧ Hid (Below w1.heap.size w1 wx)) (fun _ s8 _ => full.length - lenV s8)
  case atStart => exact ⟨[], HUF, by simp, hide (IntBuf.nil _ _), hide (Below.refl _ _)⟩
  case round =>
    obtain ⟨acc, hUF, hal, hI, hBx⟩ := hrel
    obtain ⟨pa, cap, rfl⟩ := (unhide hI).slice
    have hwx : w1.heap.size ≤ wr.heap.size := (unhide hBx).size
    rcases unhide hUF with ⟨y, ps, rfl, hu, hfull⟩ | ⟨rfl, hfull⟩
    · have hGx := (unhide HG).later (unhide hBx)
      obtain ⟨qs, hqs⟩ := hu.head
      have hyl : y ∈ l := hu.mem y (by rw [hqs]; simp)
      obtain ⟨n, pb, cb, hn, _, _, _, _, _, _, c5, _, _, _⟩ := hGx.br y hyl
      have hlen : acc.length < full.length := by rw [hfull, hqs]; simp
      obtain ⟨nv, c6, hnext⟩ : ∃ nv : Option Addr, wr.cell? ⟨loc y, 6, none⟩ = some (.pointer nv) ∧ UpFrom ns l root.toNat loc full (acc ++ [(y : Int)]) (.pointer nv) := by
        cases hu with
        | here _ => exact ⟨none, hGx.top, .inr ⟨rfl, by rw [hfull]; rfl⟩⟩
        | step p _ ps' hp _ hpar hu' =>
          obtain ⟨n', _, _, hn', _, _, _, _, _, _, _, _, _, hkid⟩ := hGx.br p hp
          obtain ⟨n'', hn'', j, hj, _, hjx⟩ := hpar
          rw [hn'] at hn''
          obtain rfl := Option.some.inj hn''
          have c6 := (hkid j hj).2.2
          rw [hjx] at c6
          exact ⟨some ⟨loc p, 0, none⟩, c6, .inl ⟨p, ps', rfl, hu', by rw [hfull, List.map_cons, List.append_assoc]; rfl⟩⟩
      have hgy : loc y < w1.heap.size := by
        obtain ⟨_, _, _, _, hA, _⟩ := (unhide HG).br y hyl
        exact hA
      have HNX := hide hnext
      clear hGx hu hfull hqs hyl hn hnext hUF
      generalize loc y = gy at c5 c6 hgy
      go_wp2_with (at_builtin; refine wp_appI _ rfl _ _ rfl w1.heap.size wr.heap.size _ acc (y : Int) rfl ((unhide hI).alloc _) rfl (by simp) ?c5 ?c3 ?c6)
      case c5 => first | omega | (simp; omega)
      case c3 => omega
      case c6 =>
        intro v' w3 hI3 hb3
        have hl3 : lenV v' = acc.length + 1 := by
          obtain ⟨pa', cap', rfl⟩ := hI3.slice
          simp [lenV]
        have d6 : w3.cell? ⟨gy, 6, none⟩ = some (.pointer nv) := by
          rw [hb3.cell (p := ⟨gy, 6, none⟩) hgy, (nx_alloc wr _).cell (p := ⟨gy, 6, none⟩) (by show gy < wr.heap.size; omega)]
          exact c6
        have HI3 := hide hI3
        have HB3 := hide (((unhide hBx).alloc hwx _).trans hb3)
        clear hI3 hb3 c5 c6
        go_wp2
        go_roundw
        case rel => exact ⟨acc ++ [(y : Int)], hide (unhide HNX), by simp; omega, hide (unhide HI3), hide (unhide HB3)⟩
        case measure => simp [hl3, lenV_slice]; omega
    · have hD : Hid (IntBuf wr w1.heap.size (.slice pa acc.length cap) full) := hide (by rw [hfull]; exact unhide hI)
      go_wp2_with fail
      refine (Reverse_any w1.heap.size (.slice pa acc.length cap) full wr (by omega) (unhide hD)).mono ?_
      rintro e w4 ⟨rfl, hI4, hb4, hs4⟩
      have hF : Hid (Below w.heap.size w w4) := hide (nx_trans (unhide hB) ((unhide hBx).trans hb4))
      have HI4 : Hid (IntBuf w4 w.heap.size (.slice pa acc.length cap) full.reverse) := hide (ownsRow_le hI4 (by omega))
      clear hI4 hb4 hs4 hfull
      go_wp2
      go_ret2
      exact ⟨unhide hF, .inr ⟨_, _, rfl, unhide HPI, unhide HI4⟩⟩

end Go.Proofs.YtbipgmikgokfpaaDoor

/- SPath -/
namespace Go.Proofs.YtbipgmikgokfpaaDoor
open Go.RowKit Go.Joins
set_option linter.unusedVariables false

/-- numbers put behind numbers -/
theorem wp_appII (w : World) {ops : Array Oper} {rest : List Oper} {o : Oper} {a : Act} {Q : Exit → Act → World → Prop} (hgd : o.guard = none) (s x : Operand)
    (ho : o.op = .call { callee := .builtin .append, args := #[s, x], argTypes := #[30, 30] }) (base g m c : Nat) (v : Value) (zs ys : List Int) (hs : a.eval s = v)
    (hown : IntBuf w base v zs) (hx : a.eval x = .slice (some ⟨g, 0, none⟩) m c) (hm : m = ys.length) (hc0 : ∀ i (h : i < ys.length), w.cell? ⟨g, i, none⟩ = some (.int .i64 ys[i])) (hbase : base ≤ w.heap.size) (hl : zs.length + ys.length ≤ 1000000000)
    (h : ∀ v' w', IntBuf w' base v' (zs ++ ys) → Below base w w' → wpList Tryd.prog ops Q rest (a.put o.dst v') w') : wpList Tryd.prog ops Q (o :: rest) a w := by
  subst hm
  obtain ⟨i0, hi, hz0, hz1, hz2⟩ := info_parts infoInt
  refine wpList_append_own _ hgd s x 30 ho base 3 i0 (.int .i64 0) 1 8 Tryd.underlying30 hi hz0 hz1 hz2 rfl (by decide) _ _ _ hs hown ⟨g, 0, none⟩ ys.length c (ys.map (Value.int .i64)) hx (by simp) ?_ ?_ (by unfold maxLen; omega) (by omega) hbase ?_
  · intro j u' hj
    rw [List.getElem?_map] at hj
    obtain ⟨z, hz, rfl⟩ := Option.map_eq_some_iff.1 hj
    obtain ⟨hjl, rfl⟩ := List.getElem?_eq_some_iff.1 hz
    have := hc0 j hjl
    rw [Addr.add_lit]
    simpa using this
  · intro u' hu'
    obtain ⟨z, _, rfl⟩ := List.mem_map.1 hu'
    rfl
  · intro v' w' hown' hgrow _
    rw [← List.map_append, show zs.length + ys.length = (zs ++ ys).length by simp] at hown'
    exact h v' w' hown' ((Below.refl _ _).grown hgrow hbase (fun j hj => (World.ownsRow.lt hown j hj).1))

/-- what is left of the way up behind y, and what is gathered -/
def UpAcc (ns : List TN) (l : List Nat) (r : Nat) (full acc : List Int) (y : Nat) : Prop := ∃ ps, Up ns l r y (y :: ps) ∧ full = (ps.map fun x : Nat => (x : Int)).reverse ++ acc

set_option maxHeartbeats 2000000 in
set_option maxRecDepth 100000 in
theorem specPathTo_any (ns : List TN) (root k : Int) (L : Lay) (w : World) (hN : NodesAt w L ns) (hsm : Small ns) :
    Calls Tryd.prog 34 #[.agg #[.slice L.p ns.length L.cap, .int .i64 root], .int .i64 k] w fun e w' => Below w.heap.size w w' ∧ ∃ v zs c, e = .returned (.tuple #[v, .int .i64 c]) ∧ IntBuf w' w.heap.size v zs ∧ ((¬ TreeOkP ns root ∧ zs = [] ∧ c = 1) ∨ (TreeOkP ns root ∧ ¬ (0 ≤ k ∧ k < ns.length) ∧ zs = [] ∧ c = 13) ∨ (TreeOkP ns root ∧ (0 ≤ k ∧ k < ns.length) ∧ PathIs ns root k.toNat zs ∧ c = 0)) := by
  have HN := hide hN
  have HS := hide hsm
  clear hN hsm
  go_enter Tryd.func34, Tryd.ntmps34
  go_wp2_with fail
  refine (l03Place_any ns root k L _ ((unhide HN).later (nx_alloc _ _)) (unhide HS)).mono ?_
  rintro e w1 ⟨c, rfl, hc, hb1⟩
  have hB := hide (nx_trans (nx_alloc _ _) hb1)
  have hw1 : w.heap.size < w1.heap.size := by have := hb1.size; simp at this; omega
  have c1 : ∀ o, w1.cell? ⟨w.heap.size, o, none⟩ = (w.alloc (.cells #[.slice L.p ns.length L.cap, .int .i64 root] 25)).cell? ⟨w.heap.size, o, none⟩ := fun o => hb1.cell (p := ⟨w.heap.size, o, none⟩) (by simp)
  have d0 : w1.cell? ⟨w.heap.size, 0, none⟩ = some (.slice L.p ns.length L.cap) := by rw [c1]; simp
  have d1 : w1.cell? ⟨w.heap.size, 1, none⟩ = some (.int .i64 root) := by rw [c1]; simp
  clear hb1 c1
  have HE : Hid (IntBuf (w1.alloc (.cells #[] 3)) w.heap.size (.slice (some ⟨w1.heap.size, 0, none⟩) 0 0) []) := hide (by simpa using IntBuf.lit w1 w.heap.size [] (by omega) (by decide))
  rcases hc with ⟨hno, rfl⟩ | ⟨hok, hk, rfl⟩ | ⟨hok, hk, rfl⟩
  · have hD := hide hno
    clear hno
    go_wp2
    go_ret2
    exact ⟨nx_al (unhide hB), _, [], 1, rfl, unhide HE, .inl ⟨unhide hD, rfl, rfl⟩⟩
  · have hD := hide (And.intro hok hk)
    clear hok hk
    go_wp2
    go_ret2
    exact ⟨nx_al (unhide hB), _, [], 13, rfl, unhide HE, .inr (.inl ⟨(unhide hD).1, (unhide hD).2, rfl, rfl⟩)⟩
  · obtain ⟨l, d, hT⟩ := hok
    obtain ⟨a, rfl⟩ : ∃ a : Nat, k = (a : Int) := ⟨k.toNat, by omega⟩
    obtain ⟨ps0, hu, hpl⟩ := hT.path (a := a) (by omega)
    obtain ⟨full, hfull⟩ : ∃ full, full = (ps0.map fun x : Nat => (x : Int)).reverse := ⟨_, rfl⟩
    have hfl : full.length ≤ 200 := by rw [hfull, List.length_reverse, List.length_map]; exact hpl
    have HPI : Hid (PathIs ns root a full) := hide ⟨l, d, ps0, hT, hu, hfull⟩
    obtain ⟨qs, hqs⟩ := hu.head
    have HUA : Hid (UpAcc ns l root.toNat full [(a : Int)] a) := hide ⟨qs, by rw [← hqs]; exact hu, by rw [hfull, hqs]; simp⟩
    have hf1 : 1 ≤ full.length := by rw [hfull, hqs]; simp
    have hro := hT.root.1
    have HT := hide hT
    have HIL : Hid (IntBuf (w1.alloc (.cells #[.int .i64 (a : Int)] 3)) w1.heap.size (.slice (some ⟨w1.heap.size, 0, none⟩) 1 1) [(a : Int)]) := hide (by simpa using IntBuf.lit w1 w1.heap.size [(a : Int)] (by omega) (by unfold maxLen; simp))
    have HK := hide hk
    clear hT hu hfull hpl hqs hk HE
    go_wp2
    go_loopw [1, 7] (fun s1 s7 wx => ∃ (y : Nat) (acc : List Int), s1 = .int .i64 (y : Int) ∧ Hid (UpAcc ns l root.toNat full acc y) ∧ 1 ≤ acc.length ∧ acc.length ≤ full.length ∧ Hid (IntBuf wx w1.heap.size s7 acc) ∧ Hid (Below w1.heap.size w1 wx)) (fun _ s7 _ => full.length - lenV s7)
    case atStart => exact ⟨a, [(a : Int)], rfl, HUA, by simp, by simpa using hf1, HIL, hide (nx_alloc _ _)⟩
    case round =>
      obtain ⟨y, acc, rfl, hUA, ha1, hal, hI, hBx⟩ := hrel
      obtain ⟨g, cap, rfl⟩ := ownsRow_form (unhide hI) (by omega)
      have hwx : w1.heap.size ≤ wr.heap.size := (unhide hBx).size
      have x0 : wr.cell? ⟨w.heap.size, 0, none⟩ = some (.slice L.p ns.length L.cap) := by rw [(unhide hBx).cell (p := ⟨w.heap.size, 0, none⟩) hw1]; exact d0
      have x1 : wr.cell? ⟨w.heap.size, 1, none⟩ = some (.int .i64 root) := by rw [(unhide hBx).cell (p := ⟨w.heap.size, 1, none⟩) hw1]; exact d1
      have hBw := hide (nx_trans (unhide hB) (unhide hBx))
      obtain ⟨ps, hu, hfull⟩ := unhide hUA
      by_cases hr : (y : Int) = root
      · have hps : ps = [] := by
          have hyr : y = root.toNat := by omega
          subst hyr
          cases hu with
          | here _ => rfl
          | step p _ _ _ _ hp _ => exact absurd hp (unhide HT).noPar
        have hacc : full = acc := by rw [hfull, hps]; simp
        have HF : Hid (IntBuf wr w.heap.size (.slice (some ⟨g, 0, none⟩) acc.length cap) full) := hide (by rw [hacc]; exact ownsRow_le (unhide hI) (by omega))
        have e1 : ((y : Int) == root) = true := by simp [hr]
        have e2 : ((y : Int) != root) = false := by simp [bne, e1]
        clear hu hfull hps hacc hr hUA
        go_wp2
        go_ret2
        exact ⟨unhide hBw, _, _, 0, rfl, unhide HF, .inr (.inr ⟨⟨l, d, unhide HT⟩, unhide HK, by rw [Int.toNat_natCast]; exact unhide HPI, rfl⟩)⟩
      · obtain ⟨p, ps', hpl, hpar, hu', hps'⟩ : ∃ p ps', p ∈ l ∧ Par ns p y ∧ Up ns l root.toNat p (p :: ps') ∧ ps = p :: ps' := by
          cases hu with
          | here _ => exact absurd (Int.toNat_of_nonneg hro) hr
          | step p _ _ hp _ hpar hu'' =>
            obtain ⟨qs, hqs⟩ := hu''.head
            rw [hqs] at hu''
            exact ⟨p, qs, hp, hpar, hu'', hqs⟩
        have HNX : Hid (UpAcc ns l root.toNat full ((p : Int) :: acc) p) := hide ⟨ps', hu', by rw [hfull, hps']; simp⟩
        have hlen : acc.length + 1 ≤ full.length := by rw [hfull, hps']; simp
        have e1 : ((y : Int) == root) = false := beq_eq_false_iff_ne.2 hr
        have e2 : ((y : Int) != root) = true := by simp [bne, e1]
        have HC := hide (l03Parent_any ns root y p L wr ((unhide HN).later (unhide hBw)) (unhide HS) hpar (fun z hz => (unhide HT).uniq hz hpar))
        clear hu hfull hps' hr hUA hpar hu' hpl
        go_wp2_with fail
        refine (unhide HC).mono ?_
        rintro e w2 ⟨rfl, hb2⟩
        have HB2 := hide ((unhide hBx).trans (hb2.mono hwx))
        have HI2 := hide ((unhide hI).later hb2)
        have hw2 : w1.heap.size ≤ w2.heap.size := (unhide HB2).size
        clear hb2 HC x0 x1
        have HLIT : Hid (IntBuf (w2.alloc (.cells #[.int .i64 (p : Int)] 3)) w1.heap.size (.slice (some ⟨w2.heap.size, 0, none⟩) 1 1) [(p : Int)]) := hide (by simpa using IntBuf.lit w2 w1.heap.size [(p : Int)] (by omega) (by unfold maxLen; simp))
        have HCL : Hid (∀ i (h : i < acc.length), (w2.alloc (.cells #[.int .i64 (p : Int)] 3)).cell? ⟨g, i, none⟩ = some (.int .i64 acc[i])) := hide (fun i h => ((unhide HI2).alloc _).get i h)
        go_wp2_with (at_builtin; refine wp_appII _ rfl _ _ rfl w1.heap.size g acc.length cap _ [(p : Int)] acc rfl (unhide HLIT) rfl rfl (unhide HCL) ?c5 ?c3 ?c6)
        case c5 => first | omega | (simp; omega)
        case c3 => simp; omega
        case c6 =>
          intro v' w3 hI3 hb3
          have hl3 : lenV v' = acc.length + 1 := by
            obtain ⟨pa', cap', rfl⟩ := hI3.slice
            simp [lenV]
          have HI3 := hide hI3
          have HB3 := hide (((unhide HB2).alloc hw2 _).trans hb3)
          clear hI3 hb3
          go_wp2
          go_roundw
          case rel => exact ⟨p, (p : Int) :: acc, rfl, hide (unhide HNX), by simp, by simpa using hlen, hide (unhide HI3), hide (unhide HB3)⟩
          case measure => simp [hl3, lenV_slice]; omega

end Go.Proofs.YtbipgmikgokfpaaDoor

/- SrcWalk -/
namespace Go.Proofs.YtbipgmikgokfpaaDoor
open Go.RowKit
set_option linter.unusedVariables false

/-- the bytes of a slice lie in cells -/
def ByteRow (w : World) (a : Option Addr) (len : Nat) : Prop := ∀ i, i < len → ∃ (b off : Nat) (c : Int), a = some ⟨b, off, none⟩ ∧ w.cell? ⟨b, off + i, none⟩ = some (.int .u8 c) ∧ 0 ≤ c ∧ c ≤ 255
theorem ByteRow.later {w w' : World} {a : Option Addr} {len : Nat} (h : ByteRow w a len) (hb : Below w.heap.size w w') : ByteRow w' a len := fun i hi => by
  obtain ⟨b, off, c, h1, h2, h3⟩ := h i hi
  exact ⟨b, off, c, h1, cell_later hb h2, h3⟩
/-- a source of choices in block g: its bytes, how many were taken, its seed -/
structure SrcAt (w : World) (g : Nat) (a : Option Addr) (len cap : Nat) (at' seed : Int) : Prop where
  c0 : w.cell? ⟨g, 0, none⟩ = some (.slice a len cap)
  c1 : w.cell? ⟨g, 1, none⟩ = some (.int .i64 at')
  c2 : w.cell? ⟨g, 2, none⟩ = some (.int .i64 seed)
  z1 : w.frozen? ⟨g, 1, none⟩ = false
  z2 : w.frozen? ⟨g, 2, none⟩ = false
  s0 : 0 ≤ seed
  s1 : seed < 2147483648
  a0 : 0 ≤ at'
  a1 : at' ≤ 1000000000

/-- all but block g is as it was -/
structure OnlyAt (g : Nat) (w w' : World) : Prop where
  os : w'.os = w.os
  tape : w'.tape = w.tape
  output : w'.output = w.output
  size : w'.heap.size = w.heap.size
  block : ∀ k, k ≠ g → w'.heap[k]? = w.heap[k]?
theorem OnlyAt.refl (g : Nat) (w : World) : OnlyAt g w w := ⟨rfl, rfl, rfl, rfl, fun _ _ => rfl⟩
theorem OnlyAt.drew {g : Nat} {w w' : World} (h : OnlyAt g w w') : OnlyAt g w w'.drew := ⟨h.os, h.tape, h.output, h.size, h.block⟩
theorem OnlyAt.set {g o : Nat} {w w' : World} {v : Value} (h : OnlyAt g w w') : OnlyAt g w (w'.setCell ⟨g, o, none⟩ v) :=
  ⟨h.os, h.tape, h.output, by simp [h.size], fun k hk => (Below.heap_setCell w' ⟨g, o, none⟩ v k hk).trans (h.block k hk)⟩
theorem OnlyAt.trans {g : Nat} {a b c : World} (h : OnlyAt g a b) (k : OnlyAt g b c) : OnlyAt g a c :=
  ⟨k.os.trans h.os, k.tape.trans h.tape, k.output.trans h.output, k.size.trans h.size, fun i hi => (k.block i hi).trans (h.block i hi)⟩

theorem src_one {w : World} {g : Nat} {a : Option Addr} {len cap : Nat} {n seed : Int} (h : SrcAt w g a len cap n seed) (hn : n + 1 ≤ 1000000000) : SrcAt (w.setCell ⟨g, 1, none⟩ (.int .i64 (n + 1))) g a len cap (n + 1) seed where
  c0 := by rw [World.cell?_setCell_other _ _ _ _ (by simp)]; exact h.c0
  c1 := World.cell?_setCell_same' _ _ _ (by rw [h.c1]; rfl)
  c2 := by rw [World.cell?_setCell_other _ _ _ _ (by simp)]; exact h.c2
  z1 := by simpa using h.z1
  z2 := by simpa using h.z2
  s0 := h.s0
  s1 := h.s1
  a0 := by have := h.a0; omega
  a1 := hn
theorem src_two {w : World} {g : Nat} {a : Option Addr} {len cap : Nat} {n seed s' : Int} (h : SrcAt w g a len cap n seed) (h0 : 0 ≤ s') (h1 : s' < 2147483648) : SrcAt (w.setCell ⟨g, 2, none⟩ (.int .i64 s')) g a len cap n s' where
  c0 := by rw [World.cell?_setCell_other _ _ _ _ (by simp)]; exact h.c0
  c1 := by rw [World.cell?_setCell_other _ _ _ _ (by simp)]; exact h.c1
  c2 := World.cell?_setCell_same' _ _ _ (by rw [h.c2]; rfl)
  z1 := by simpa using h.z1
  z2 := by simpa using h.z2
  s0 := h0
  s1 := h1
  a0 := h.a0
  a1 := h.a1
theorem src_drew {w : World} {g : Nat} {a : Option Addr} {len cap : Nat} {n seed : Int} (h : SrcAt w g a len cap n seed) : SrcAt w.drew g a len cap n seed := ⟨h.c0, h.c1, h.c2, h.z1, h.z2, h.s0, h.s1, h.a0, h.a1⟩

/-- what a byte's drawing leaves -/
def Drawn (g : Nat) (a : Option Addr) (len cap : Nat) (n : Int) (w : World) (top : Int) (e : Ending) (w' : World) : Prop :=
  ∃ r s', e = .returned (.int .i64 r) ∧ 0 ≤ r ∧ r < top ∧ SrcAt w' g a len cap (n + 1) s' ∧ OnlyAt g w w'

set_option maxHeartbeats 1000000 in
theorem byte_zero (g : Nat) (a : Option Addr) (len cap : Nat) (n seed : Int) (w : World) (h : SrcAt w g a len cap n seed) (hl : (len : Int) < n + 1) (h3 : 3000 < n + 1) (hn : n + 1 ≤ 1000000000) :
    Calls Tryd.prog 144 #[.pointer (some ⟨g, 0, none⟩)] w fun e w' => Drawn g a len cap n w 256 e w' := by
  have H := hide h
  obtain ⟨c0, c1, c2, z1, z2, s0, s1, a0, a1⟩ := h
  go_enter Tryd.func144, Tryd.ntmps144
  go_wp2
  go_region
  all_goals go_wp2
  all_goals
    go_ret
    exact ⟨0, seed, rfl, by omega, by omega, src_drew (src_one (unhide H) hn), (OnlyAt.refl _ _).set.drew⟩

set_option maxHeartbeats 1000000 in
theorem byte_seed (g : Nat) (a : Option Addr) (len cap : Nat) (n seed : Int) (w : World) (h : SrcAt w g a len cap n seed) (hl : (len : Int) < n + 1) (h3 : n + 1 ≤ 3000) :
    Calls Tryd.prog 144 #[.pointer (some ⟨g, 0, none⟩)] w fun e w' => Drawn g a len cap n w 256 e w' := by
  have H := hide h
  obtain ⟨c0, c1, c2, z1, z2, s0, s1, a0, a1⟩ := h
  go_enter Tryd.func144, Tryd.ntmps144
  go_wp2
  go_region
  all_goals go_wp2
  all_goals
    go_ret
    exact ⟨_, _, rfl, Int.emod_nonneg _ (by omega), Int.emod_lt_of_pos _ (by omega), src_drew (src_two (src_one (unhide H) (by omega)) (Int.emod_nonneg _ (by omega)) (Int.emod_lt_of_pos _ (by omega))), (OnlyAt.refl _ _).set.set.drew⟩

set_option maxHeartbeats 2000000 in
theorem byte_code (g b off len cap : Nat) (n seed c : Int) (w : World) (h : SrcAt w g (some ⟨b, off, none⟩) len cap n seed) (hl : n + 1 ≤ (len : Int)) (hlen : (len : Int) ≤ 1048577) (hb : ¬ b = g) (hb' : ¬ g = b)
    (hc : w.cell? ⟨b, off + n.toNat, none⟩ = some (.int .u8 c)) (c0' : 0 ≤ c) (c1' : c ≤ 255) :
    Calls Tryd.prog 144 #[.pointer (some ⟨g, 0, none⟩)] w fun e w' => Drawn g (some ⟨b, off, none⟩) len cap n w 256 e w' := by
  have H := hide h
  obtain ⟨c0, c1, c2, z1, z2, s0, s1, a0, a1⟩ := h
  have hlt : n < (len : Int) := by omega
  have hw1 : IntKind.i64.wrap (n + 1 - 1) = n := by rw [IntKind.wrap_i64]; omega
  have hw2 : IntKind.i64.wrap n = n := by rw [IntKind.wrap_i64]; omega
  have hw3 : IntKind.i64.wrap (seed * 31) = seed * 31 := by rw [IntKind.wrap_i64]; omega
  have hw4 : IntKind.i64.wrap (seed * 31 + c) = seed * 31 + c := by rw [IntKind.wrap_i64]; omega
  have hw5 : IntKind.i64.wrap (seed * 31 + c + 7) = seed * 31 + c + 7 := by rw [IntKind.wrap_i64]; omega
  have hw6 : IntKind.i64.wrap c = c := by rw [IntKind.wrap_i64]; omega
  go_enter Tryd.func144, Tryd.ntmps144
  go_wp2
  go_region
  all_goals go_wp2
  go_region
  all_goals go_wp2
  go_region
  all_goals go_wp2
  all_goals
    go_ret
    exact ⟨c, _, rfl, c0', by omega, src_drew (src_drew (src_drew (src_two (src_one (unhide H) (by omega)) (Int.emod_nonneg _ (by omega)) (Int.emod_lt_of_pos _ (by omega))))), (OnlyAt.refl _ _).set.set.drew.drew.drew⟩

theorem byte_any (g : Nat) (a : Option Addr) (len cap : Nat) (n seed : Int) (w : World) (h : SrcAt w g a len cap n seed) (hn : n + 1 ≤ 1000000000) (hlen : len ≤ 1048577) (hrow : ByteRow w a len) (hg : 0 < len → ∀ x, a = some x → ¬ x.block = g) :
    Calls Tryd.prog 144 #[.pointer (some ⟨g, 0, none⟩)] w fun e w' => Drawn g a len cap n w 256 e w' := by
  by_cases hl : (len : Int) < n + 1
  · by_cases h3 : n + 1 ≤ 3000
    · exact byte_seed g a len cap n seed w h hl h3
    · exact byte_zero g a len cap n seed w h hl (by omega) hn
  have h0 := h.a0
  obtain ⟨b, off, c, rfl, hc, hc0, hc1⟩ := hrow n.toNat (by omega)
  have hb := hg (by omega) _ rfl
  exact byte_code g b off len cap n seed c w h (by omega) (by omega) hb (fun e => hb e.symm) hc hc0 hc1

theorem only_cell {g : Nat} {w w' : World} (h : OnlyAt g w w') {b o : Nat} (hb : b ≠ g) : w'.cell? ⟨b, o, none⟩ = w.cell? ⟨b, o, none⟩ := World.cell?_of_block (w := w) (h.block b hb)
theorem only_frozen {g : Nat} {w w' : World} (h : OnlyAt g w w') {b o : Nat} (hb : b ≠ g) : w'.frozen? ⟨b, o, none⟩ = w.frozen? ⟨b, o, none⟩ := World.frozen?_of_block (w := w) (h.block b hb)
theorem only_below {g B : Nat} {w w' : World} (h : OnlyAt g w w') (hB : B ≤ g) : Below B w w' := ⟨h.os, h.tape, h.output, by rw [h.size]; exact Nat.le_refl _, fun k hk => h.block k (by omega)⟩

set_option maxHeartbeats 1000000 in
theorem next_any (g : Nat) (a : Option Addr) (len cap : Nat) (n seed m : Int) (w : World) (h : SrcAt w g a len cap n seed) (hn : n + 1 ≤ 1000000000) (hlen : len ≤ 1048577) (hrow : ByteRow w a len) (hg : 0 < len → ∀ x, a = some x → ¬ x.block = g) (hm1 : 1 < m) (hm2 : m ≤ 256) :
    Calls Tryd.prog 111 #[.pointer (some ⟨g, 0, none⟩), .int .i64 m] w fun e w' => Drawn g a len cap n w m e w' := by
  have HB := hide (byte_any g a len cap n seed w h hn hlen hrow hg)
  clear h hrow hg
  go_enter Tryd.func111, Tryd.ntmps111
  go_wp2_with fail
  refine (unhide HB).mono ?_
  rintro e w1 ⟨r, s', rfl, ra, rb, hs, ho⟩
  have HS := hide hs
  have HO := hide ho
  clear hs ho HB
  go_wp2
  go_ret
  exact ⟨_, s', rfl, Int.emod_nonneg _ (by omega), Int.emod_lt_of_pos _ (by omega), unhide HS, unhide HO⟩

set_option maxHeartbeats 1000000 in
theorem chance_any (g : Nat) (a : Option Addr) (len cap : Nat) (n seed m : Int) (w : World) (h : SrcAt w g a len cap n seed) (hn : n + 1 ≤ 1000000000) (hlen : len ≤ 1048577) (hrow : ByteRow w a len) (hg : 0 < len → ∀ x, a = some x → ¬ x.block = g) (hm1 : 1 < m) (hm2 : m ≤ 256) :
    Calls Tryd.prog 146 #[.pointer (some ⟨g, 0, none⟩), .int .i64 m] w fun e w' => ∃ (b : Bool) (s' : Int), e = .returned (.bool b) ∧ SrcAt w' g a len cap (n + 1) s' ∧ OnlyAt g w w' := by
  have HB := hide (next_any g a len cap n seed m w h hn hlen hrow hg hm1 hm2)
  clear h hrow hg
  go_enter Tryd.func146, Tryd.ntmps146
  go_wp2_with fail
  refine (unhide HB).mono ?_
  rintro e w1 ⟨r, s', rfl, ra, rb, hs, ho⟩
  have HS := hide hs
  have HO := hide ho
  clear hs ho HB
  go_wp2
  all_goals
    go_ret
    exact ⟨_, s', rfl, unhide HS, unhide HO⟩

set_option maxHeartbeats 1000000 in
theorem pick_any (g : Nat) (a : Option Addr) (len cap : Nat) (n seed : Int) (q L qc : Nat) (ts : Nat → ByteArray) (w : World) (h : SrcAt w g a len cap n seed) (hn : n + 1 ≤ 1000000000) (hlen : len ≤ 1048577) (hrow : ByteRow w a len) (hg : 0 < len → ∀ x, a = some x → ¬ x.block = g) (hq : q ≠ g) (hL1 : 1 < L) (hL2 : L ≤ 256)
    (hts : ∀ j, j < L → w.cell? ⟨q, j, none⟩ = some (.string (ts j))) :
    Calls Tryd.prog 110 #[.pointer (some ⟨g, 0, none⟩), .slice (some ⟨q, 0, none⟩) L qc] w fun e w' => ∃ (j : Nat) (s' : Int), j < L ∧ e = .returned (.string (ts j)) ∧ SrcAt w' g a len cap (n + 1) s' ∧ OnlyAt g w w' := by
  have HB := hide (next_any g a len cap n seed (L : Int) w h hn hlen hrow hg (by omega) (by omega))
  have HT := hide hts
  have e0 : ((L : Int) == 0) = false := beq_eq_false_iff_ne.2 (by omega)
  clear h hrow hg hts
  go_enter Tryd.func110, Tryd.ntmps110
  go_wp2_with fail
  refine (unhide HB).mono ?_
  rintro e w1 ⟨r, s', rfl, ra, rb, hs, ho⟩
  obtain ⟨j, rfl⟩ := Int.eq_ofNat_of_zero_le ra
  have hj : j < L := by omega
  have hc : w1.cell? ⟨q, j, none⟩ = some (.string (ts j)) := (only_cell ho hq).trans (unhide HT j hj)
  have HS := hide hs
  have HO := hide ho
  clear hs ho HB HT
  go_wp2
  go_ret
  exact ⟨j, s', hj, rfl, unhide HS, unhide HO⟩

end Go.Proofs.YtbipgmikgokfpaaDoor

/- ValueOfWalk -/
namespace Go.Proofs.YtbipgmikgokfpaaDoor
open Go.RowKit
set_option linter.unusedVariables false

theorem src_later {w w' : World} {g : Nat} {a : Option Addr} {len cap : Nat} {n seed : Int} (h : SrcAt w g a len cap n seed) (hb : Below w.heap.size w w') : SrcAt w' g a len cap n seed := by
  have hl := World.block_lt_of_cell? _ _ h.c0
  exact ⟨cell_later hb h.c0, cell_later hb h.c1, cell_later hb h.c2, (hb.frozen (p := ⟨g, 1, none⟩) hl).trans h.z1, (hb.frozen (p := ⟨g, 2, none⟩) hl).trans h.z2, h.s0, h.s1, h.a0, h.a1⟩
theorem row_only {g : Nat} {w w' : World} {a : Option Addr} {len : Nat} (h : ByteRow w a len) (ho : OnlyAt g w w') (hg : 0 < len → ∀ x, a = some x → ¬ x.block = g) : ByteRow w' a len := fun i hi => by
  obtain ⟨b, off, c, rfl, h2, h3⟩ := h i hi
  exact ⟨b, off, c, rfl, (only_cell ho (hg (by omega) _ rfl)).trans h2, h3⟩

/-- a right value is answered; what lies below g is as it was -/
def RightV (g : Nat) (w : World) (e : Ending) (w' : World) : Prop :=
  ∃ (k n : Int) (t : ByteArray), e = .returned (.agg #[.int .i64 k, .int .i64 n, .string t]) ∧ vokB k n t = true ∧ t.size ≤ 60 ∧ Below g w w'
theorem vok_zero : vokB 0 0 ⟨#[]⟩ = true := by simp [vokB, ByteArray.toList_eq]
theorem vok_bit (b : Bool) : vokB 2 (bitI b) ⟨#[]⟩ = true := by cases b <;> simp [vokB, bitI, ByteArray.toList_eq]
theorem vok_num {n : Int} (h1 : -2147483648 ≤ n) (h2 : n ≤ 2147483647) : vokB 1 n ⟨#[]⟩ = true := by simp [vokB, h1, h2, ByteArray.toList_eq]
theorem bel_trans {B : Nat} {a b c : World} (h : Below B a b) (k : Below b.heap.size b c) (hB : B ≤ a.heap.size) : Below B a c := h.trans (k.mono (Nat.le_trans hB h.size))
theorem only_bel {g B : Nat} {a b c : World} (h : Below B a b) (k : OnlyAt g b c) (hB : B ≤ g) : Below B a c := h.trans (only_below k hB)

def zs40 : ByteArray := ⟨(List.replicate 40 (0 : UInt8)).toArray⟩
def cells40 : Array Value := Array.replicate 40 (.int .u8 0)
def strs6 (j : Nat) : ByteArray := if j = 0 then ⟨#[]⟩ else if j = 1 then ⟨#[97]⟩ else if j = 2 then ⟨#[97, 98]⟩ else if j = 3 then ⟨#[116, 101, 120, 116]⟩ else if j = 4 then ⟨#[98]⟩ else zs40
theorem strs6_size (j : Nat) : (strs6 j).size ≤ 60 := by
  unfold strs6
  repeat' split
  all_goals decide
theorem vok_str (j : Nat) : vokB 3 0 (strs6 j) = true := by simp [vokB, strs6_size j]
theorem make40 (w : World) : (Instr.makeSlice 22 (.int .i64 40) (.int .i64 40)).run Tryd.prog w = .ok (.slice (some ⟨w.heap.size, 0, none⟩) 40 40) (w.alloc (.cells cells40 5)) := by kernel_rfl
theorem conv40 (w : World) : (convert 22 9 (.slice (some ⟨w.heap.size, 0, none⟩) 40 40)).run Tryd.prog (w.alloc (.cells cells40 5)) = .ok (.string zs40) (w.alloc (.cells cells40 5)) := by
  have h := run_convert_bytes_back (P := Tryd.prog) (w.alloc (.cells cells40 5)) 22 9 5 ⟨w.heap.size, 0, none⟩ 40 (List.replicate 40 (0 : UInt8)) Tryd.underlying22 Tryd.underlying5 Tryd.underlying9 (fun j hj => by
    have hj' : j < 40 := by simpa using hj
    have e : (⟨w.heap.size, 0, none⟩ : Addr).add j = ⟨w.heap.size, j, none⟩ := by
      unfold Addr.add
      split <;> simp_all
    rw [e, World.cell?_alloc_at _ _ _ _ rfl]
    have e2 : (List.replicate 40 (0 : UInt8))[j] = 0 := List.getElem_replicate _
    rw [e2]
    simp [cells40, hj'])
  exact h

end Go.Proofs.YtbipgmikgokfpaaDoor

/- ValueOf2 -/
namespace Go.Proofs.YtbipgmikgokfpaaDoor
open Go.RowKit
set_option linter.unusedVariables false

def Zv : Obj := .cells #[.int .i64 0, .int .i64 0, .string ⟨#[]⟩] 132
theorem zv_cells {w wx : World} (h : Below (w.heap.size + 1) (w.alloc Zv) wx) : (∀ b o, b < w.heap.size + 1 → wx.cell? ⟨b, o, none⟩ = (w.alloc (.cells #[.int .i64 0, .int .i64 0, .string ⟨#[]⟩] 132)).cell? ⟨b, o, none⟩) ∧ (∀ b o, b < w.heap.size + 1 → wx.frozen? ⟨b, o, none⟩ = (w.alloc (.cells #[.int .i64 0, .int .i64 0, .string ⟨#[]⟩] 132)).frozen? ⟨b, o, none⟩) ∧ w.heap.size < wx.heap.size := by
  obtain ⟨h1, h2⟩ := bcell (W := w.alloc Zv) (by simpa using h)
  refine ⟨fun b o hb => h1 b o (by simpa using hb), fun b o hb => h2 b o (by simpa using hb), ?_⟩
  have := h.size
  simp at this
  omega
theorem zv_out {w a : World} (h : Below (w.heap.size + 1) (w.alloc Zv) a) : Below w.heap.size w a := nx_trans (nx_alloc w Zv) (by simpa using h)

set_option maxHeartbeats 1000000 in
theorem source_any (a : Option Addr) (len cap : Nat) (w : World) (hlen : len ≤ 1048577) :
    Calls Tryd.prog 52 #[.slice a len cap] w fun e w' => e = .returned (.pointer (some ⟨w.heap.size, 0, none⟩)) ∧ Below w.heap.size w w' ∧ w.heap.size < w'.heap.size ∧ SrcAt w' w.heap.size a len cap 0 ((len : Int) % 1000) := by
  go_enter Tryd.func52, Tryd.ntmps52
  go_wp2
  go_ret
  exact ⟨rfl, nx_alloc _ _, by simp, by simp, by simp, by simp, by simp, by simp, by omega, by omega, by omega, by omega⟩

theorem row_block {w : World} {a : Option Addr} {len : Nat} (h : ByteRow w a len) (h0 : 0 < len) : ∀ x, a = some x → ¬ x.block = w.heap.size := fun x hx => by
  obtain ⟨b, off, c, h1, h2, _⟩ := h 0 h0
  rw [h1] at hx
  cases hx
  have := World.block_lt_of_cell? _ _ h2
  exact Nat.ne_of_lt this

end Go.Proofs.YtbipgmikgokfpaaDoor

/- CFrame -/
namespace Go.Proofs.YtbipgmikgokfpaaDoor
open Go.RowKit

theorem own : ownKnob Tryd.prog.godebug = none := by kernel_rfl
theorem laidOut : laidOutB Tryd.prog = true := by kernel_rfl

/-- a slice of integers that came in: nil, or a row of cells -/
def IsRow (k : IntKind) (w : World) (a : Option Addr) (len cap : Nat) (zs : List Int) : Prop :=
  (a = none ∧ len = 0 ∧ cap = 0 ∧ zs = []) ∨
  ∃ x, a = some x ∧ len ≤ cap ∧ cap ≤ maxLen ∧ zs.length = cap ∧ (∀ i, i < zs.length → w.cell? (x.add i) = some (.int k (zs.getD i 0))) ∧ ∀ n ∈ zs, (Lit.int k n).wf = true

theorem var_heap {P : Program} {w : World} {n : String} {g : Nat} {cs : Array Value} (hg : P.globalNamed n = some g) (h : w.var? P n = some cs) : ∃ t fr, w.heap[g]? = some (.cells cs t fr) := by
  simp only [World.var?, hg, Option.bind_some] at h
  split at h
  · rename_i cs' t fr e
    simp at h
    subst h
    exact ⟨t, fr, e⟩
  · simp at h
theorem var_lt {P : Program} {w : World} {n : String} {g : Nat} {cs : Array Value} (hg : P.globalNamed n = some g) (h : w.var? P n = some cs) : g < w.heap.size := by
  obtain ⟨t, fr, e⟩ := var_heap hg h
  exact (Array.getElem?_eq_some_iff.1 e).1
theorem var_below {P : Program} {w w' : World} {n : String} {g : Nat} {cs : Array Value} (hb : Below w.heap.size w w') (hg : P.globalNamed n = some g) (hl : g < w.heap.size) (h : w.var? P n = some cs) : w'.var? P n = some cs :=
  var?_below hb hg hl h

end Go.Proofs.YtbipgmikgokfpaaDoor

/- RowOf -/
namespace Go.Proofs.YtbipgmikgokfpaaDoor
open Go.RowKit
set_option linter.unusedVariables false

theorem byteRow_of {w : World} {a : Option Addr} {len cap : Nat} {zs : List Int} (h : IsRow .u8 w a len cap zs) : ByteRow w a len := fun i hi => by
  rcases h with ⟨_, rfl, _, _⟩ | ⟨x, rfl, hl, hm, hz, hcell, hwz⟩
  · omega
  have hc0 := hcell 0 (by omega)
  obtain ⟨b, off, spot⟩ := x
  have hspot : spot = none := by simpa [Addr.add] using World.cell?_spot hc0
  subst hspot
  have hiz : i < zs.length := by omega
  have hw := bounds_u8 (hwz (zs.getD i 0) (by rw [List.getD_eq_getElem?_getD, List.getElem?_eq_getElem hiz]; simp))
  refine ⟨b, off, zs.getD i 0, rfl, ?_, hw.1, hw.2⟩
  have h9 := hcell i hiz
  by_cases hj0 : i = 0
  · rw [hj0] at h9 ⊢; simpa [Addr.add] using h9
  · simpa [Addr.add, hj0] using h9

end Go.Proofs.YtbipgmikgokfpaaDoor

/- NodesOf -/
namespace Go.Proofs.YtbipgmikgokfpaaDoor
open Go.ChangeShapes Go.WideShapes Go.RowKit
set_option linter.unusedVariables false

theorem csize3 : Tryd.prog.cellsOf 3 = 1 := by kernel_rfl
theorem csize9 : Tryd.prog.cellsOf 9 = 1 := by kernel_rfl
theorem csizeS : Tryd.prog.cellsOf 34 = 1 := by kernel_rfl
theorem csizeI : Tryd.prog.cellsOf 30 = 1 := by kernel_rfl
theorem csizeN : Tryd.prog.cellsOf 119 = 5 := by kernel_rfl
set_option maxRecDepth 100000 in
theorem nfldEx : ∃ fs : Array Field, Tryd.prog.underlying 119 = some (.struct fs) ∧ fs.map (fun f => (f.type, f.offset)) = #[(3, 0), (3, 1), (9, 2), (34, 3), (30, 4)] := ⟨_, Tryd.underlying119, by simp⟩
theorem nfldAt {fld : Array Field} (i t o : Nat) (h : (fld.map (fun f => (f.type, f.offset)))[i]? = some (t, o)) : ∃ f : Field, fld[i]? = some f ∧ f.type = t ∧ f.offset = o := by
  rw [Array.getElem?_map] at h
  obtain ⟨f, h1, h2⟩ := Option.map_eq_some_iff.1 h
  simp at h2
  exact ⟨f, h1, h2.1, h2.2⟩

theorem spot_none {W : World} {a : Addr} {v : Value} (h : W.cell? (a.add 0) = some v) : a.spot = none := by
  simpa [Addr.add] using World.cell?_spot h

set_option maxRecDepth 100000 in
theorem strs_of_trod {H : Type} {enc : TypeId × Value → H} {W : World} {base : Nat} {spare : Nat → Bool} {held : Bool} {fuel : Nat} {v : Value} {x : DataW H × List MemPlace}
    (h : DataW.trod enc Tryd.prog W base spare held fuel 34 [v] = some x) : ∃ (a : Option Addr) (ss : List ByteArray) (cap : Nat), v = .slice a ss.length cap ∧ StrsAt W a ss ∧ ss.length ≤ maxLen ∧ ∀ s ∈ ss, s.size ≤ maxLen := by
  rcases Deep.open_slice Tryd.underlying34 h with ⟨hcs, _⟩ | ⟨a', len', cap', m, n, D, Pl, hcs, hb, hl, hm, hmm, _, hx⟩
  · simp at hcs
    subst hcs
    exact ⟨none, [], 0, rfl, fun i hi => absurd hi (by simp), Nat.zero_le _, fun v hv => by simp at hv⟩
  simp at hcs
  subst hcs
  have hlm : len' ≤ m := by rw [hmm]; split <;> omega
  have each : ∀ i, i < len' → ∃ s : ByteArray, s.size ≤ maxLen ∧ W.cell? (a'.add i) = some (.string s) := by
    intro i hi
    obtain ⟨cs', h1, h2⟩ := hx i (by omega)
    rw [csize9, Nat.mul_one] at h1
    obtain ⟨_, hlen, hcell⟩ := World.cells?_some h1
    match cs', hlen with
    | [v0], _ =>
      obtain ⟨s, e, _, ws⟩ := DataW.trod_string Tryd.underlying9 h2
      simp at e
      subst e
      have c0 := hcell 0 (by omega)
      rw [Deep.add_add] at c0
      exact ⟨s, ws, by simpa using c0⟩
  obtain ⟨q, hq⟩ := @Deep.choose_lt ByteArray ⟨⟨#[]⟩⟩ _ _ each
  refine ⟨some a', (List.range len').map q, cap', by simp, fun i hi => ?_, by simp; omega, fun s hs => ?_⟩
  · have hi' : i < len' := by simpa using hi
    obtain ⟨_, c0⟩ := hq i hi'
    obtain ⟨b, off, spot⟩ := a'
    have hspot : spot = none := spot_none (hq 0 (by omega)).2
    subst hspot
    rw [Addr.add_lit] at c0
    exact ⟨b, off, rfl, by simpa using c0⟩
  · simp at hs
    obtain ⟨i, hi, rfl⟩ := hs
    exact (hq i hi).1

set_option maxRecDepth 100000 in
theorem ints_of_trod {H : Type} {enc : TypeId × Value → H} {W : World} {base : Nat} {spare : Nat → Bool} {held : Bool} {fuel : Nat} {v : Value} {x : DataW H × List MemPlace}
    (h : DataW.trod enc Tryd.prog W base spare held fuel 30 [v] = some x) : ∃ (a : Option Addr) (zs : List Int) (cap : Nat), v = .slice a zs.length cap ∧ IntsAt W a zs ∧ zs.length ≤ maxLen := by
  rcases Deep.open_slice Tryd.underlying30 h with ⟨hcs, _⟩ | ⟨a', len', cap', m, n, D, Pl, hcs, hb, hl, hm, hmm, _, hx⟩
  · simp at hcs
    subst hcs
    exact ⟨none, [], 0, rfl, fun i hi => absurd hi (by simp), Nat.zero_le _⟩
  simp at hcs
  subst hcs
  have hlm : len' ≤ m := by rw [hmm]; split <;> omega
  have each : ∀ i, i < len' → ∃ z : Int, W.cell? (a'.add i) = some (.int .i64 z) := by
    intro i hi
    obtain ⟨cs', h1, h2⟩ := hx i (by omega)
    rw [csize3, Nat.mul_one] at h1
    obtain ⟨_, hlen, hcell⟩ := World.cells?_some h1
    match cs', hlen with
    | [v0], _ =>
      obtain ⟨z, e, _, _⟩ := DataW.trod_int Tryd.underlying3 h2
      simp at e
      subst e
      have c0 := hcell 0 (by omega)
      rw [Deep.add_add] at c0
      exact ⟨z, by simpa using c0⟩
  obtain ⟨q, hq⟩ := @Deep.choose_lt Int ⟨0⟩ _ _ each
  refine ⟨some a', (List.range len').map q, cap', by simp, fun i hi => ?_, by simp; omega⟩
  have hi' : i < len' := by simpa using hi
  have c0 := hq i hi'
  obtain ⟨b, off, spot⟩ := a'
  have hspot : spot = none := spot_none (hq 0 (by omega))
  subst hspot
  rw [Addr.add_lit] at c0
  exact ⟨b, off, rfl, by simpa using c0⟩

/-- a node with where its names and kids lie -/
structure NL where
  x : TN
  pn : Option Addr
  cn : Nat
  pk : Option Addr
  ck : Nat

set_option maxRecDepth 100000 in
set_option maxHeartbeats 1000000 in
theorem nodes_of_trod {H : Type} {enc : TypeId × Value → H} {W : World} {base : Nat} {spare : Nat → Bool} {held : Bool} {fuel : Nat} {a : Option Addr} {len cap : Nat} {x : DataW H × List MemPlace}
    (h : DataW.trod enc Tryd.prog W base spare held fuel 38 [.slice a len cap] = some x) :
    ∃ (ns : List TN) (L : Lay), L.p = a ∧ L.cap = cap ∧ ns.length = len ∧ NodesAt W L ns ∧ Wide ns := by
  obtain ⟨fld, fldIs, fldAll⟩ := nfldEx
  rcases Deep.open_slice Tryd.underlying38 h with ⟨hcs, _⟩ | ⟨a', len', cap', m, n, D, Pl, hcs, hb, hl, hm, hmm, _, hx⟩
  · simp at hcs
    obtain ⟨rfl, rfl, rfl⟩ := hcs
    exact ⟨[], ⟨none, 0, fun _ => none, fun _ => 0, fun _ => none, fun _ => 0⟩, rfl, rfl, rfl, fun i hi => absurd hi (by simp), Nat.zero_le _, fun v hv => by simp at hv⟩
  simp at hcs
  obtain ⟨rfl, rfl, rfl⟩ := hcs
  have hlm : len ≤ m := by rw [hmm]; split <;> omega
  have each : ∀ i, i < len → ∃ y : NL, (y.x.t.size ≤ maxLen ∧ y.x.names.length ≤ maxLen ∧ y.x.kids.length ≤ maxLen ∧ ∀ s ∈ y.x.names, s.size ≤ maxLen) ∧ W.cell? (a'.add (i * 5)) = some (.int .i64 y.x.k) ∧ W.cell? (a'.add (i * 5 + 1)) = some (.int .i64 y.x.n) ∧ W.cell? (a'.add (i * 5 + 2)) = some (.string y.x.t) ∧ W.cell? (a'.add (i * 5 + 3)) = some (.slice y.pn y.x.names.length y.cn) ∧ W.cell? (a'.add (i * 5 + 4)) = some (.slice y.pk y.x.kids.length y.ck) ∧ StrsAt W y.pn y.x.names ∧ IntsAt W y.pk y.x.kids := by
    intro i hi
    obtain ⟨cs', h1, h2⟩ := hx i (by omega)
    rw [csizeN] at h1
    obtain ⟨_, hlen, hcell⟩ := World.cells?_some h1
    obtain ⟨xs, k, hk, hxy, _, hxl, hf⟩ := DataW.trod_struct fldIs h2
    have hxl5 : xs.length = 5 := by rw [hxl, show fld.size = (fld.map (fun f => (f.type, f.offset))).size by simp, fldAll]; rfl
    match xs, hxl5, cs', hlen with
    | [y0, y1, y2, y3, y4], _, [v0, v1, v2, v3, v4], _ =>
      obtain ⟨f0, hf0, hf0t, hf0o⟩ : ∃ f : Field, fld[0]? = some f ∧ f.type = 3 ∧ f.offset = 0 := nfldAt 0 3 0 (by rw [fldAll]; rfl)
      obtain ⟨f1, hf1, hf1t, hf1o⟩ : ∃ f : Field, fld[1]? = some f ∧ f.type = 3 ∧ f.offset = 1 := nfldAt 1 3 1 (by rw [fldAll]; rfl)
      obtain ⟨f2, hf2, hf2t, hf2o⟩ : ∃ f : Field, fld[2]? = some f ∧ f.type = 9 ∧ f.offset = 2 := nfldAt 2 9 2 (by rw [fldAll]; rfl)
      obtain ⟨f3, hf3, hf3t, hf3o⟩ : ∃ f : Field, fld[3]? = some f ∧ f.type = 34 ∧ f.offset = 3 := nfldAt 3 34 3 (by rw [fldAll]; rfl)
      obtain ⟨f4, hf4, hf4t, hf4o⟩ : ∃ f : Field, fld[4]? = some f ∧ f.type = 30 ∧ f.offset = 4 := nfldAt 4 30 4 (by rw [fldAll]; rfl)
      have g0 := hf 0 f0 hf0
      have g1 := hf 1 f1 hf1
      have g2 := hf 2 f2 hf2
      have g3 := hf 3 f3 hf3
      have g4 := hf 4 f4 hf4
      simp [hf0t, hf0o, hf1t, hf1o, hf2t, hf2o, hf3t, hf3o, hf4t, hf4o, csize3, csize9, csizeS, csizeI] at g0 g1 g2 g3 g4
      obtain ⟨z0, e0, _, _⟩ := DataW.trod_int Tryd.underlying3 g0
      obtain ⟨z1, e1, _, _⟩ := DataW.trod_int Tryd.underlying3 g1
      obtain ⟨s2, e2, _, ws⟩ := DataW.trod_string Tryd.underlying9 g2
      obtain ⟨pn, ss, cn, e3, hss, hsl, hsz⟩ := strs_of_trod g3
      obtain ⟨pk, zs, ck, e4, hzs, hzl⟩ := ints_of_trod g4
      simp at e0 e1 e2
      subst e0 e1 e2 e3 e4
      have c0 := hcell 0 (by omega)
      have c1 := hcell 1 (by omega)
      have c2 := hcell 2 (by omega)
      have c3 := hcell 3 (by omega)
      have c4 := hcell 4 (by omega)
      rw [Deep.add_add] at c0 c1 c2 c3 c4
      exact ⟨⟨⟨z0, z1, s2, ss, zs⟩, pn, cn, pk, ck⟩, ⟨ws, hsl, hzl, hsz⟩, by simpa using c0, by simpa using c1, by simpa using c2, by simpa using c3, by simpa using c4, hss, hzs⟩
  obtain ⟨q, hq⟩ := @Deep.choose_lt NL ⟨⟨⟨0, 0, ⟨#[]⟩, [], []⟩, none, 0, none, 0⟩⟩ _ _ each
  refine ⟨(List.range len).map (fun i => (q i).x), ⟨some a', cap, fun i => (q i).pn, fun i => (q i).cn, fun i => (q i).pk, fun i => (q i).ck⟩, rfl, rfl, by simp, fun i hi => ?_, by simp; omega, fun v hv => ?_⟩
  · have hi' : i < len := by simpa using hi
    obtain ⟨_, c0, c1, c2, c3, c4, hs, hz⟩ := hq i hi'
    obtain ⟨b, off, spot⟩ := a'
    have hspot : spot = none := by
      have := (hq 0 (by omega)).2.1
      rw [Nat.zero_mul] at this
      exact spot_none this
    subst hspot
    rw [Addr.add_lit] at c0 c1 c2 c3 c4
    have e : ((List.range len).map (fun i => (q i).x))[i] = (q i).x := by simp
    rw [e]
    refine ⟨b, off, rfl, by simpa using c0, ?_, ?_, ?_, ?_, hs, hz⟩
    · simpa [Nat.add_assoc] using c1
    · simpa [Nat.add_assoc] using c2
    · simpa [Nat.add_assoc] using c3
    · simpa [Nat.add_assoc] using c4
  · simp at hv
    obtain ⟨i, hi, rfl⟩ := hv
    exact (hq i hi).1
open Go.ChangeShapes Go.WideShapes Go.ChangeAt Go.RowKit

def srcWordsName : String := (Rows.fnExactTreeOKRow.laid.map (·.1)).getD 0 ""
theorem gSrcWords : Tryd.prog.globalNamed srcWordsName = some 0 := by kernel_rfl
theorem tSrcWords : (Tryd.prog.globals[0]?).map (·.type) = some 184 := by kernel_rfl
theorem cSrcWords : Tryd.prog.cellsOf 184 = 12 := by kernel_rfl
theorem cSrcStr : Tryd.prog.cellsOf 9 = 1 := by kernel_rfl

theorem cells_strs {H : Type} {enc : TypeId × Value → H} {W : World} {base : Nat} {spare : Nat → Bool} {held : Bool} {m n : Nat} {cs : Array Value} {xs : List (DataW H × List MemPlace)} {ws : List (List UInt8)} (hl : cs.size = n) (hn : xs.length = n) (hw : ws.length = n)
    (hx : xs.map (·.1) = ws.map fun l => (DataW.lit (.string l) : DataW H))
    (hel : ∀ i, i < n → DataW.trod enc Tryd.prog W base spare held m 9 ((cs.toList.drop (i * Tryd.prog.cellsOf 9)).take (Tryd.prog.cellsOf 9)) = xs[i]?) : cs = strCells ws := by
  apply Array.ext
  · rw [hl]; simp [strCells, hw]
  · intro i h1 h2
    have hi : i < n := by omega
    have he := hel i hi
    rw [cSrcStr, Nat.mul_one] at he
    have hxi : i < xs.length := by omega
    rw [List.getElem?_eq_getElem hxi] at he
    obtain ⟨s, e1, e2, _⟩ := DataW.trod_string Tryd.underlying9 he
    have hc : cs[i] = .string s := by
      have : (cs.toList.drop i).take 1 = [cs[i]] := by
        rw [List.drop_eq_getElem_cons (by simpa using h1)]
        simp
      rw [this] at e1
      simpa using e1
    have hw' : (ws.map fun l => (DataW.lit (.string l) : DataW H))[i]? = some (.lit (.string s.data.toList)) := by
      rw [← hx, List.getElem?_map, List.getElem?_eq_getElem hxi, e2]
      rfl
    rw [List.getElem?_map] at hw'
    have hiw : i < ws.length := by omega
    rw [List.getElem?_eq_getElem hiw] at hw'
    simp at hw'
    rw [hc]
    simp [strCells, hw']

theorem tab_words_of {W : World} {g t : Nat} {cs : Array Value} {f : Nat} {p : List MemPlace} {spare : Nat → Bool} {held : Bool} {base : Nat} (hg : Tryd.prog.globalNamed srcWordsName = some g) (ht : (Tryd.prog.globals[g]?).map (·.type) = some t) (hv : W.var? Tryd.prog srcWordsName = some cs)
    {H : Type} {enc : TypeId × Value → H} (hd : DataW.trod enc Tryd.prog W base spare held f t cs.toList = some (.agg (srcWords.map fun l => .lit (.string l)), p)) : TabAt W 0 srcWords := by
  obtain rfl := Option.some.inj (gSrcWords.symm.trans hg)
  obtain rfl := Option.some.inj (tSrcWords.symm.trans ht)
  obtain ⟨tt, fr, e⟩ := var_heap hg hv
  obtain ⟨xs, m, _, hx, hlen, hn, hel⟩ := DataW.trod_array Tryd.underlying184 hd
  rw [cSrcWords] at hlen
  simp only [Prod.mk.injEq, DataW.agg.injEq] at hx
  rw [cells_strs (n := 12) (by simpa using hlen) hn rfl hx.1.symm hel] at e
  exact ⟨tt, fr, e⟩

theorem tabWords_of_laid {W : World} (h : laidMetH Tryd.prog Rows.fnExactTreeOKRow.laid W) : TabAt W 0 srcWords := by
  rw [MakeChecks.laidMetH_plain _ _ _ (by kernel_rfl)] at h
  obtain ⟨ps, ⟨g0, t0, cs0, f0, p0, q0, hg0, ht0, hv0, hd0, _, _⟩, _, _⟩ := h
  exact tab_words_of hg0 ht0 hv0 hd0

end Go.Proofs.YtbipgmikgokfpaaDoor
