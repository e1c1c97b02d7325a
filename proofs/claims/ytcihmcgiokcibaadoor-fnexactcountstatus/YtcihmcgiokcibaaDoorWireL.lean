/- Requests and replies as plain functions on texts. -/
import Derived.Test.YtcihmcgiokcibaaDoorLetters
import Derived.Lib.Split
import Derived.Lib.TrimByte
namespace Go.Proofs.YtcihmcgiokcibaaDoor
set_option linter.unusedVariables false

/-- a byte of a path, by its number -/
def pathC (c : Int) : Bool := letB c || digB c || decide (c = 47) || decide (c = 46) || decide (c = 45)
def pathTo (s : ByteArray) (k : Nat) : Prop := ∀ i (h : i < s.size), i < k → pathC (s[i].toNat : Int) = true
/-- a path -/
def wpathB (s : ByteArray) : Bool := decide (1 ≤ s.size ∧ s.size ≤ 40 ∧ (∀ h : 0 < s.size, (s[0].toNat : Int) = 47) ∧ ∀ i (h : i < s.size), pathC (s[i].toNat : Int) = true)
theorem wpathB_yes (s : ByteArray) (h0 : 1 ≤ s.size) (h1 : s.size ≤ 40) (hh : ∀ h : 0 < s.size, (s[0].toNat : Int) = 47) (k : Nat) (hk : s.size ≤ k) (h : pathTo s k) : wpathB s = true := by
  unfold wpathB
  rw [decide_eq_true_iff]
  exact ⟨h0, h1, hh, fun i hi => h i hi (by omega)⟩
theorem wpathB_no (s : ByteArray) (k : Nat) (hk : k < s.size) (h : pathC (s[k].toNat : Int) = false) : wpathB s = false := by
  unfold wpathB
  rw [decide_eq_false_iff_not]
  rintro ⟨_, _, _, hall⟩
  rw [hall k hk] at h
  cases h
theorem wpathB_size (s : ByteArray) (h : s.size < 1 ∨ 40 < s.size) : wpathB s = false := by
  unfold wpathB
  rw [decide_eq_false_iff_not]
  rintro ⟨_, _, _⟩
  omega
theorem wpathB_head (s : ByteArray) (h : 0 < s.size) (hn : ¬ (s[0].toNat : Int) = 47) : wpathB s = false := by
  unfold wpathB
  rw [decide_eq_false_iff_not]
  rintro ⟨_, _, hh, _⟩
  exact hn (hh h)
theorem wpathB_is {s : ByteArray} (h : wpathB s = true) : 1 ≤ s.size ∧ s.size ≤ 40 := by
  unfold wpathB at h
  rw [decide_eq_true_iff] at h
  exact ⟨h.1, h.2.1⟩
theorem pathTo_succ (s : ByteArray) (k : Nat) (hk : k < s.size) (h : pathTo s k) (hp : pathC (s[k].toNat : Int) = true) : pathTo s (k + 1) := by
  intro i hi hik
  by_cases e : i = k
  · subst e; exact hp
  · exact h i hi (by omega)

/-- small letters for great ones -/
def smallC (c : UInt8) : UInt8 := if 65 ≤ c.toNat ∧ c.toNat ≤ 90 then c + 32 else c
def smallL (l : List UInt8) : List UInt8 := l.map smallC
def smallS (s : ByteArray) : ByteArray := ⟨(smallL s.data.toList).toArray⟩
def alikeB (a b : ByteArray) : Bool := decide (smallL a.data.toList = smallL b.data.toList)

/-- the lines, or the words, of a text -/
def pieces (sep s : ByteArray) : List ByteArray := Lib.splitB sep 0 (Lib.countB s sep) s
theorem pieces_miss {sep s : ByteArray} (h : Lib.indexB s sep = -1) : pieces sep s = [s] := Lib.splitB_miss sep 0 _ s h
theorem pieces_hit {sep s : ByteArray} {i : Nat} (h1 : 1 ≤ sep.size) (h : Lib.indexB s sep = i) : pieces sep s = s.extract 0 i :: pieces sep (s.extract (i + sep.size) s.size) := by
  unfold pieces
  rw [Lib.countB_hit s sep i h1 h, Nat.add_comm 1, Lib.splitB_hit sep 0 _ s i h]
  rfl

def blankS : ByteArray := ⟨#[32]⟩
def colonS : ByteArray := ⟨#[58]⟩
def slashS : ByteArray := ⟨#[47]⟩
def crlfS : ByteArray := ⟨#[13, 10]⟩
def crlf2S : ByteArray := ⟨#[13, 10, 13, 10]⟩
def httpS : ByteArray := ⟨#[72, 84, 84, 80, 47, 49, 46, 49]⟩
def getS : ByteArray := ⟨#[71, 69, 84]⟩
def connS : ByteArray := ⟨#[99, 111, 110, 110, 101, 99, 116, 105, 111, 110]⟩
def closeS : ByteArray := ⟨#[99, 108, 111, 115, 101]⟩
def clenS : ByteArray := ⟨#[99, 111, 110, 116, 101, 110, 116, 45, 108, 101, 110, 103, 116, 104]⟩
def tencS : ByteArray := ⟨#[116, 114, 97, 110, 115, 102, 101, 114, 45, 101, 110, 99, 111, 100, 105, 110, 103]⟩

/-- what stands ahead of the first instance, behind it, and whether there is one -/
def cutA (s sep : ByteArray) : ByteArray := ⟨(Lib.cut s.data.toList sep.data.toList).1.toArray⟩
def cutB (s sep : ByteArray) : ByteArray := ⟨(Lib.cut s.data.toList sep.data.toList).2.1.toArray⟩
def cutF (s sep : ByteArray) : Bool := (Lib.cut s.data.toList sep.data.toList).2.2
theorem cut_hit {s sep : ByteArray} {i : Nat} (h : Lib.indexB s sep = i) : cutA s sep = s.extract 0 i ∧ cutB s sep = s.extract (i + sep.size) s.size ∧ cutF s sep = true := Lib.cutB_hit s sep i h
theorem cut_miss {s sep : ByteArray} (h : Lib.indexB s sep = -1) : cutA s sep = s ∧ cutB s sep = ⟨#[]⟩ ∧ cutF s sep = false := Lib.cutB_miss s sep h

def fstM (l : ByteArray) : ByteArray := cutA l blankS
def fstP (l : ByteArray) : ByteArray := cutA (cutB l blankS) blankS
def fstV (l : ByteArray) : ByteArray := cutB (cutB l blankS) blankS
/-- the code of a first line -/
def fstC (l : ByteArray) : Int := if wpathB (fstP l) = true ∧ fstV l = httpS then (if fstM l = getS then 0 else 17) else 3

theorem index_nil_blank : Lib.indexB ⟨#[]⟩ blankS = -1 := by decide
theorem index_http : Lib.indexB httpS blankS = -1 := by decide

/-- the words of a first line, as the specification reads them -/
def FstWords (l : ByteArray) : Prop := (∃ a b c, pieces blankS l = [a, b, c] ∧ fstM l = a ∧ fstP l = b ∧ fstV l = c) ∨ ((pieces blankS l).length ≠ 3 ∧ fstV l ≠ httpS)
theorem fst_words (l : ByteArray) : FstWords l := by
  rcases Lib.indexB_cases l blankS with h | ⟨i, h, hr⟩
  · refine .inr ⟨by rw [pieces_miss h]; simp, ?_⟩
    unfold fstV
    rw [(cut_miss h).2.1, (cut_miss index_nil_blank).2.1]
    decide
  · obtain ⟨ha, hb, _⟩ := cut_hit h
    have hp := pieces_hit (sep := blankS) (by decide) h
    unfold fstV at *
    rw [← hb] at hp
    generalize hr2 : cutB l blankS = r at *
    rcases Lib.indexB_cases r blankS with h2 | ⟨j, h2, _⟩
    · refine .inr ⟨by rw [hp, pieces_miss h2]; simp, ?_⟩
      unfold fstV
      rw [hr2, (cut_miss h2).2.1]
      decide
    · obtain ⟨ha2, hb2, _⟩ := cut_hit h2
      have hp2 := pieces_hit (sep := blankS) (by decide) h2
      rw [← hb2] at hp2
      rcases Lib.indexB_cases (cutB r blankS) blankS with h3 | ⟨k, h3, _⟩
      · refine .inl ⟨l.extract 0 i, r.extract 0 j, cutB r blankS, by rw [hp, hp2, pieces_miss h3], ha, ?_, ?_⟩
        · unfold fstP; rw [hr2, ha2]
        · unfold fstV; rw [hr2]
      · refine .inr ⟨?_, ?_⟩
        · rw [hp, hp2, pieces_hit (by decide) h3]
          have : (pieces blankS ((cutB r blankS).extract (k + blankS.size) (cutB r blankS).size)).length ≠ 0 := by
            unfold pieces
            intro e
            rcases Lib.indexB_cases ((cutB r blankS).extract (k + blankS.size) (cutB r blankS).size) blankS with h4 | ⟨m, h4, _⟩
            · rw [Lib.splitB_miss _ _ _ _ h4] at e; cases e
            · rw [Lib.countB_hit _ _ m (by decide) h4, Nat.add_comm 1, Lib.splitB_hit _ _ _ _ m h4] at e; cases e
          simp only [List.length_cons]
          omega
        · unfold fstV
          rw [hr2]
          intro e
          rw [e, index_http] at h3
          omega

/-- a line behind the first one -/
def hName (l : ByteArray) : ByteArray := cutA l colonS
def hVal (l : ByteArray) : ByteArray := ⟨(Lib.trimB (cutB l colonS).data.toList 32).toArray⟩
def hOk (l : ByteArray) : Bool := cutF l colonS && !(decide ((hName l).size = 0)) && !(alikeB (hName l) clenS || alikeB (hName l) tencS)
def hShut (l : ByteArray) : Bool := alikeB (hName l) connS && alikeB (hVal l) closeS
def HdsOk (ls : List ByteArray) : Bool := ls.all hOk

/-- the answer of a read: path, whether it closes, bytes, code -/
structure RR where
  p : ByteArray
  c : Bool
  n : Int
  e : Int
def RR.bad (e : Int) : RR := ⟨⟨#[]⟩, false, 0, e⟩
def headOf (s : ByteArray) : ByteArray := cutA s crlf2S
def linesOf (s : ByteArray) : List ByteArray := pieces crlfS (headOf s)
def reqR (s : ByteArray) : RR :=
  if 65536 < s.size then RR.bad 2
  else if Lib.indexB s crlf2S = -1 then (if 120 < s.size then RR.bad 2 else RR.bad 18)
  else if 116 < Lib.indexB s crlf2S then RR.bad 2
  else match linesOf s with
    | [] => RR.bad 3
    | l :: r => if fstC l ≠ 0 then RR.bad (fstC l) else if HdsOk r = true then ⟨fstP l, r.any hShut, Lib.indexB s crlf2S + 4, 0⟩ else RR.bad 3

def hdrR (s name : ByteArray) : ByteArray × Int :=
  if 65536 < s.size ∨ 65536 < name.size then (⟨#[]⟩, 2)
  else if (reqR s).e ≠ 0 then (⟨#[]⟩, (reqR s).e)
  else match (linesOf s).tail.find? (fun l => alikeB (hName l) name) with
    | some l => (hVal l, 0)
    | none => (⟨#[]⟩, 5)

end Go.Proofs.YtcihmcgiokcibaaDoor
