/- Words of statuses; requests written: code and specification. -/
import Derived.Test.YtcihmcgiokcibaaDoorWireW1
namespace Go.Proofs.YtcihmcgiokcibaaDoor
open Go.RowKit
set_option linter.unusedVariables false

/-- the word of a status -/
def statW (n : Int) : ByteArray :=
  if n = 200 then ⟨#[79, 75]⟩ else if n = 400 then ⟨#[66, 97, 100, 32, 82, 101, 113, 117, 101, 115, 116]⟩ else if n = 404 then ⟨#[78, 111, 116, 32, 70, 111, 117, 110, 100]⟩
  else if n = 431 then ⟨#[82, 101, 113, 117, 101, 115, 116, 32, 72, 101, 97, 100, 101, 114, 32, 70, 105, 101, 108, 100, 115, 32, 84, 111, 111, 32, 76, 97, 114, 103, 101]⟩
  else if n = 500 then ⟨#[73, 110, 116, 101, 114, 110, 97, 108, 32, 83, 101, 114, 118, 101, 114, 32, 69, 114, 114, 111, 114]⟩
  else if n = 501 then ⟨#[78, 111, 116, 32, 73, 109, 112, 108, 101, 109, 101, 110, 116, 101, 100]⟩
  else if n = 503 then ⟨#[83, 101, 114, 118, 105, 99, 101, 32, 85, 110, 97, 118, 97, 105, 108, 97, 98, 108, 101]⟩
  else if n = 504 then ⟨#[71, 97, 116, 101, 119, 97, 121, 32, 84, 105, 109, 101, 111, 117, 116]⟩ else ⟨#[]⟩
theorem statW_size (n : Int) : (statW n).size ≤ 31 := by
  unfold statW
  repeat' split
  all_goals decide

theorem statW_none {n : Int} (h1 : ¬ n = 200) (h2 : ¬ n = 400) (h3 : ¬ n = 404) (h4 : ¬ n = 431) (h5 : ¬ n = 500) (h6 : ¬ n = 501) (h7 : ¬ n = 503) (h8 : ¬ n = 504) : statW n = ⟨#[]⟩ := by
  unfold statW
  rw [if_neg h1, if_neg h2, if_neg h3, if_neg h4, if_neg h5, if_neg h6, if_neg h7, if_neg h8]

set_option maxHeartbeats 1000000 in
theorem StatusWord_any (n : Int) (w : World) :
    Calls Tryd.prog 14 #[.int .i64 n] w fun e w' => e = .returned (.string (statW n)) ∧ w' = w := by
  go_enter Tryd.func14, Tryd.ntmps14
  by_cases h1 : n = 200
  · subst h1
    go_wp2
    go_ret
    exact ⟨rfl, rfl⟩
  by_cases h2 : n = 400
  · subst h2
    go_wp2
    go_ret
    exact ⟨rfl, rfl⟩
  by_cases h3 : n = 404
  · subst h3
    go_wp2
    go_ret
    exact ⟨rfl, rfl⟩
  by_cases h4 : n = 431
  · subst h4
    go_wp2
    go_ret
    exact ⟨rfl, rfl⟩
  by_cases h5 : n = 500
  · subst h5
    go_wp2
    go_ret
    exact ⟨rfl, rfl⟩
  by_cases h6 : n = 501
  · subst h6
    go_wp2
    go_ret
    exact ⟨rfl, rfl⟩
  by_cases h7 : n = 503
  · subst h7
    go_wp2
    go_ret
    exact ⟨rfl, rfl⟩
  by_cases h8 : n = 504
  · subst h8
    go_wp2
    go_ret
    exact ⟨rfl, rfl⟩
  have hd := hide (statW_none h1 h2 h3 h4 h5 h6 h7 h8)
  have b1 : (n == 200) = false := beq_eq_false_iff_ne.2 h1
  have b2 : (n == 400) = false := beq_eq_false_iff_ne.2 h2
  have b3 : (n == 404) = false := beq_eq_false_iff_ne.2 h3
  have b4 : (n == 431) = false := beq_eq_false_iff_ne.2 h4
  have b5 : (n == 500) = false := beq_eq_false_iff_ne.2 h5
  have b6 : (n == 501) = false := beq_eq_false_iff_ne.2 h6
  have b7 : (n == 503) = false := beq_eq_false_iff_ne.2 h7
  have b8 : (n == 504) = false := beq_eq_false_iff_ne.2 h8
  go_wp2
  go_ret
  exact ⟨by rw [unhide hd]; rfl, rfl⟩

set_option maxHeartbeats 1000000 in
theorem specStatusWord_any (n : Int) (w : World) :
    Calls Tryd.prog 10 #[.int .i64 n] w fun e w' => e = .returned (.string (statW n)) ∧ w' = w := by
  go_enter Tryd.func10, Tryd.ntmps10
  by_cases h1 : n = 200
  · subst h1
    go_wp2
    go_ret
    exact ⟨rfl, rfl⟩
  by_cases h2 : n = 400
  · subst h2
    go_wp2
    go_ret
    exact ⟨rfl, rfl⟩
  by_cases h3 : n = 404
  · subst h3
    go_wp2
    go_ret
    exact ⟨rfl, rfl⟩
  by_cases h4 : n = 431
  · subst h4
    go_wp2
    go_ret
    exact ⟨rfl, rfl⟩
  by_cases h5 : n = 500
  · subst h5
    go_wp2
    go_ret
    exact ⟨rfl, rfl⟩
  by_cases h6 : n = 501
  · subst h6
    go_wp2
    go_ret
    exact ⟨rfl, rfl⟩
  by_cases h7 : n = 503
  · subst h7
    go_wp2
    go_ret
    exact ⟨rfl, rfl⟩
  by_cases h8 : n = 504
  · subst h8
    go_wp2
    go_ret
    exact ⟨rfl, rfl⟩
  have hd := hide (statW_none h1 h2 h3 h4 h5 h6 h7 h8)
  have b1 : (n == 200) = false := beq_eq_false_iff_ne.2 h1
  have b2 : (n == 400) = false := beq_eq_false_iff_ne.2 h2
  have b3 : (n == 404) = false := beq_eq_false_iff_ne.2 h3
  have b4 : (n == 431) = false := beq_eq_false_iff_ne.2 h4
  have b5 : (n == 500) = false := beq_eq_false_iff_ne.2 h5
  have b6 : (n == 501) = false := beq_eq_false_iff_ne.2 h6
  have b7 : (n == 503) = false := beq_eq_false_iff_ne.2 h7
  have b8 : (n == 504) = false := beq_eq_false_iff_ne.2 h8
  go_wp2
  go_ret
  exact ⟨by rw [unhide hd]; rfl, rfl⟩


end Go.Proofs.YtcihmcgiokcibaaDoor
