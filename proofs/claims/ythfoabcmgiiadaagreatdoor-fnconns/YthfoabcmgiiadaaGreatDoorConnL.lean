/- Connections, as the document says them: slots, what is right, bytes taken in, a request read, a reply made ready, replies sent. -/
import Derived.Test.YthfoabcmgiiadaaGreatDoorWireL3
namespace Go.Proofs.YthfoabcmgiiadaaGreatDoor
set_option linter.unusedVariables false

/-- a slot -/
structure SL where
  q : Int
  r : Bool
  t : ByteArray
/-- a connection -/
structure CN where
  o : Bool
  e : Bool
  i : ByteArray
  s : List SL
  n : Int
def CN.zero : CN := ⟨false, false, ⟨#[]⟩, [], 0⟩

/-- slot k is right -/
def slotB (n : Int) (s : List SL) (k : Nat) : Bool := decide (∀ h : k < s.length, 0 ≤ s[k].q ∧ s[k].q ≤ n - 1 ∧ (∀ (_ : 0 < k), (s[k - 1]'(by omega)).q < s[k].q) ∧ s[k].t.size ≤ 300 ∧ s[k].r = !decide (s[k].t.size = 0))
def slotOk (n : Int) (s : List SL) (k : Nat) : Prop := ∀ h : k < s.length, 0 ≤ s[k].q ∧ s[k].q ≤ n - 1 ∧ (∀ (_ : 0 < k), (s[k - 1]'(by omega)).q < s[k].q) ∧ s[k].t.size ≤ 300 ∧ s[k].r = !decide (s[k].t.size = 0)
theorem slotB_is (n : Int) (s : List SL) (k : Nat) : slotB n s k = true ↔ slotOk n s k := by unfold slotB slotOk; exact decide_eq_true_iff
/-- the first slots are right -/
def slotsTo (n : Int) (s : List SL) (k : Nat) : Prop := ∀ i, i < k → slotOk n s i
def slotsB (n : Int) (s : List SL) : Bool := (List.range s.length).all (slotB n s)
theorem slotsB_is (n : Int) (s : List SL) : slotsB n s = true ↔ slotsTo n s s.length := by
  unfold slotsB slotsTo
  rw [List.all_eq_true]
  exact ⟨fun h i hi => (slotB_is n s i).1 (h i (List.mem_range.2 hi)), fun h i hi => (slotB_is n s i).2 (h i (List.mem_range.1 hi))⟩
/-- numbers and lengths are right -/
def connN (c : CN) : Prop := 0 ≤ c.n ∧ c.n ≤ 100000 ∧ c.i.size ≤ 400 ∧ c.s.length ≤ 6
def connNB (c : CN) : Bool := decide (0 ≤ c.n ∧ c.n ≤ 100000 ∧ c.i.size ≤ 400 ∧ c.s.length ≤ 6)
theorem connNB_is (c : CN) : connNB c = true ↔ connN c := by unfold connNB connN; exact decide_eq_true_iff
def connB (c : CN) : Bool := connNB c && (if c.o = true then slotsB c.n c.s && (!c.e || decide (c.i.size = 0)) else !c.e && decide (c.i.size = 0) && decide (c.s.length = 0))

theorem connB_num {c : CN} (h : ¬ connN c) : connB c = false := by
  have : connNB c = false := by rw [← Bool.not_eq_true, connNB_is]; exact h
  simp [connB, this]
theorem connB_shut {c : CN} (h : connN c) (ho : c.o = false) : connB c = (!c.e && decide (c.i.size = 0) && decide (c.s.length = 0)) := by
  have := (connNB_is c).2 h
  simp [connB, this, ho]
theorem connB_slot {c : CN} {k : Nat} (ho : c.o = true) (hk : k < c.s.length) (h : ¬ slotOk c.n c.s k) : connB c = false := by
  have : slotsB c.n c.s = false := by rw [← Bool.not_eq_true, slotsB_is]; exact fun hh => h (hh k hk)
  simp [connB, ho, this]
theorem connB_open {c : CN} {k : Nat} (h : connN c) (ho : c.o = true) (hk : c.s.length ≤ k) (hs : slotsTo c.n c.s k) : connB c = (!c.e || decide (c.i.size = 0)) := by
  have h1 := (connNB_is c).2 h
  have h2 := (slotsB_is c.n c.s).2 (fun i hi => hs i (by omega))
  simp [connB, h1, ho, h2]
theorem slotsTo_zero (n : Int) (s : List SL) : slotsTo n s 0 := fun i hi => absurd hi (by omega)
theorem slotsTo_succ {n : Int} {s : List SL} {k : Nat} (h : slotsTo n s k) (hk : slotOk n s k) : slotsTo n s (k + 1) := fun i hi => by
  by_cases e : i = k
  · subst e; exact hk
  · exact h i (by omega)
theorem connB_few {c : CN} (h : connB c = true) : connN c := by
  by_cases hn : connN c
  · exact hn
  · rw [connB_num hn] at h; cases h
theorem connB_slots {c : CN} (h : connB c = true) (ho : c.o = true) : slotsTo c.n c.s c.s.length := by
  rw [← slotsB_is]
  cases hs : slotsB c.n c.s
  · simp [connB, ho, hs] at h
  · rfl
theorem connB_end {c : CN} (h : connB c = true) (he : c.e = true) : c.o = true ∧ c.i.size = 0 := by
  cases ho : c.o
  · simp [connB, ho, he] at h
  · simp [connB, ho, he] at h; exact ⟨rfl, by rw [h.2.2]; rfl⟩
theorem connB_not {c : CN} (h : connB c = true) (ho : c.o = false) : c.e = false ∧ c.i = ⟨#[]⟩ ∧ c.s = [] := by
  simp [connB, ho] at h
  exact ⟨h.2.1.1, h.2.1.2, h.2.2⟩

/-- bytes join what waits -/
def takeC (c : CN) (t : ByteArray) : CN × Int :=
  if 65536 < t.size then (CN.zero, 2) else if connB c = true then (if c.o = true ∧ c.e = false then (if 400 < c.i.size + t.size then (c, 7) else ({ c with i := c.i ++ t }, 0)) else (c, 19)) else (CN.zero, 1)
/-- the status of what is no request -/
def faultC (e : Int) : Int := if e = 2 then 431 else if e = 17 then 501 else 400
/-- a reply is made ready -/
def readyL (s : List SL) (seq : Int) (t : ByteArray) : List SL × Int :=
  match s with
  | [] => ([], 5)
  | x :: r => if x.q = seq then (if x.r = true then (x :: r, 12) else (⟨x.q, true, t⟩ :: r, 0)) else (x :: (readyL r seq t).1, (readyL r seq t).2)
def readyC (c : CN) (seq : Int) (t : ByteArray) : CN × Int :=
  if 65536 < t.size then (CN.zero, 2) else if connB c = true then (if 1 ≤ t.size ∧ t.size ≤ 300 then ({ c with s := (readyL c.s seq t).1 }, (readyL c.s seq t).2) else (CN.zero, 4)) else (CN.zero, 1)
/-- how many of the first slots are ready -/
def goL (s : List SL) : Nat := (s.takeWhile (·.r)).length
def textL (s : List SL) : ByteArray := s.foldl (fun a x => a ++ x.t) ⟨#[]⟩
structure FL where
  c : CN
  t : ByteArray
  x : Bool
  e : Int
def flushC (c : CN) : FL :=
  if connB c = true then (if c.o = true ∧ c.e = true ∧ (c.s.drop (goL c.s)).length = 0 then ⟨⟨false, false, ⟨#[]⟩, [], c.n⟩, textL (c.s.take (goL c.s)), true, 0⟩ else ⟨{ c with s := c.s.drop (goL c.s) }, textL (c.s.take (goL c.s)), false, 0⟩) else ⟨CN.zero, ⟨#[]⟩, false, 1⟩
/-- the numbers that wait -/
def waitC (c : CN) : List Int × Int := if connB c = true then ((c.s.filter (!·.r)).map (·.q), 0) else ([], 1)
def roomC (c : CN) : Int × Int := if connB c = true then (if c.o = true ∧ c.e = false then (400 - c.i.size, 0) else (0, 19)) else (0, 1)
/-- what the next call of a connection answers -/
structure NX where
  c : CN
  p : ByteArray
  x : Bool
  q : Int
  e : Int

end Go.Proofs.YthfoabcmgiiadaaGreatDoor
