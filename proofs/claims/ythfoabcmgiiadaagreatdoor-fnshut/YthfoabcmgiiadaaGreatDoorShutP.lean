/- What is no request, and what the calls answer to it: the texts of the law, read by the kernel. -/
import Derived.Test.YthfoabcmgiiadaaGreatDoorConnC5
import Derived.Test.YthfoabcmgiiadaaGreatDoorWireP
namespace Go.Proofs.YthfoabcmgiiadaaGreatDoor
set_option linter.unusedVariables false

def oneS : ByteArray := ⟨#[47, 111, 110, 101]⟩
def reqOne : ByteArray := reqT false oneS
def junkS : Nat → ByteArray
  | 0 => ⟨#[106, 117, 110, 107, 13, 10, 13, 10]⟩
  | 1 => ⟨#[80, 79, 83, 84, 32, 47, 32, 72, 84, 84, 80, 47, 49, 46, 49, 13, 10, 13, 10]⟩
  | 2 => ⟨#[71, 69, 84, 32, 47, 32, 72, 84, 84, 80, 47, 49, 46, 49, 13, 10, 110, 111, 32, 99, 111, 108, 111, 110, 13, 10, 13, 10]⟩
  | _ => ⟨(List.replicate 121 0).toArray⟩
def junkE : Nat → Nat
  | 0 => 3
  | 1 => 17
  | 2 => 3
  | _ => 2
def rrB (r : RR) (p : ByteArray) (c : Bool) (n e : Int) : Bool := decide (r.p = p) && (r.c == c) && decide (r.n = n) && decide (r.e = e)
theorem rrB_is {r : RR} {p : ByteArray} {c : Bool} {n e : Int} (h : rrB r p c n e = true) : r = ⟨p, c, n, e⟩ := by
  obtain ⟨a, b, d, f⟩ := r
  simp only [rrB, Bool.and_eq_true, decide_eq_true_eq, beq_iff_eq] at h
  obtain ⟨⟨⟨rfl, rfl⟩, rfl⟩, rfl⟩ := h
  rfl
def shutGood (j : Nat) : Bool := rrB (reqR (reqOne ++ junkS j)) oneS false (reqOne.size : Int) 0 && rrB (reqR (junkS j)) ⟨#[]⟩ false 0 (junkE j : Int) && decide ((reqOne ++ junkS j).extract reqOne.size (reqOne ++ junkS j).size = junkS j) && decide (reqOne.size + (junkS j).size ≤ 400) && decide (1 ≤ (faultT (junkE j)).size) && decide ((faultT (junkE j)).size ≤ 300)
theorem shut_all : ((List.range 4).all shutGood) = true := by kernel_rfl
structure ShutFacts (T J F : ByteArray) (k : Nat) : Prop where
  read : reqR (T ++ J) = ⟨oneS, false, (T.size : Int), 0⟩
  bad : reqR J = RR.bad k
  cut : (T ++ J).extract T.size (T ++ J).size = J
  small : T.size + J.size ≤ 400
  f1 : 1 ≤ F.size
  f2 : F.size ≤ 300
theorem shut_facts (j : Nat) (hj : j < 4) : ShutFacts reqOne (junkS j) (faultT (junkE j)) (junkE j) := by
  have h := List.all_eq_true.1 shut_all j (List.mem_range.2 hj)
  simp only [shutGood, Bool.and_eq_true, decide_eq_true_eq] at h
  obtain ⟨⟨⟨⟨⟨h1, h2⟩, h3⟩, h4⟩, h5⟩, h6⟩ := h
  exact ⟨rrB_is h1, rrB_is h2, h3, h4, h5, h6⟩
theorem junkE_in (j : Nat) : junkE j = 2 ∨ junkE j = 3 ∨ junkE j = 17 := by
  unfold junkE
  split
  · exact .inr (.inl rfl)
  · exact .inr (.inr rfl)
  · exact .inr (.inl rfl)
  · exact .inl rfl

end Go.Proofs.YthfoabcmgiiadaaGreatDoor
