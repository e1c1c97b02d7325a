/- Words of statuses; requests written: code and specification. -/
import Derived.Test.YtcihmcgiokcibaaWireW1
namespace Go.Proofs.Ytcihmcgiokcibaa
open Go.RowKit
set_option linter.unusedVariables false

/-- the word of a status -/
def statW (n : Int) : ByteArray :=
  if n = 200 then ⟨#[79, 75]⟩ else if n = 400 then ⟨#[66, 97, 100, 32, 82, 101, 113, 117, 101, 115, 116]⟩ else if n = 404 then ⟨#[78, 111, 116, 32, 70, 111, 117, 110, 100]⟩
  else if n = 431 then ⟨#[82, 101, 113, 117, 101, 115, 116, 32, 72, 101, 97, 100, 101, 114, 32, 70, 105, 101, 108, 100, 115, 32, 84, 111, 111, 32, 76, 97, 114, 103, 101]⟩
  else if n = 500 then ⟨#[73, 110, 116, 101, 114, 110, 97, 108, 32, 83, 101, 114, 118, 101, 114, 32, 69, 114, 114, 111, 114]⟩
  else if n = 501 then ⟨#[78, 111, 116, 32, 73, 109, 112, 108, 101, 109, 101, 110, 116, 101, 100]⟩
  else if n = 503 then ⟨#[83, 101, 114, 118, 105, 99, 101, 32, 85, 110, 97, 118, 97, 105, 108, 97, 98, 108, 101]⟩
  else if n = 504 then ⟨#[71, 97, 116, 101, 119, 97, 121, 32, 84, 105, 109, 101, 111, 117, 116]⟩ else ⟨#[]⟩
theorem statW_size (n : Int) : (statW n).size ≤ 31 := by
  unfold statW
  repeat' split
  all_goals decide

theorem statW_none {n : Int} (h1 : ¬ n = 200) (h2 : ¬ n = 400) (h3 : ¬ n = 404) (h4 : ¬ n = 431) (h5 : ¬ n = 500) (h6 : ¬ n = 501) (h7 : ¬ n = 503) (h8 : ¬ n = 504) : statW n = ⟨#[]⟩ := by
  unfold statW
  rw [if_neg h1, if_neg h2, if_neg h3, if_neg h4, if_neg h5, if_neg h6, if_neg h7, if_neg h8]




end Go.Proofs.Ytcihmcgiokcibaa
