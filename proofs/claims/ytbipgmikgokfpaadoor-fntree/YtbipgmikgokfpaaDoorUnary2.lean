/- The operations with one operand: code and specification both answer 'unaryR'. -/
import Derived.Test.YtbipgmikgokfpaaDoorUnaryWalk
namespace Go.Proofs.YtbipgmikgokfpaaDoor
open Go.RowKit

def unaryR (op : List UInt8) (k n : Int) (t : ByteArray) : Res :=
  if 65536 < op.length then zeroR 2
  else if vokB k n t = false then zeroR 1
  else if op = [33] then boolR (!truthB n t)
  else if op = [45] then (if k = 1 then fitR (-n) else zeroR 8)
  else zeroR 3

theorem len_toList (s : ByteArray) : s.toList.length = s.size := by rw [ByteArray.toList_eq]; exact Array.length_toList
theorem vok_int {n : Int} {t : ByteArray} (h : vokB 1 n t = true) : -2147483648 ≤ n ∧ n ≤ 2147483647 := by simp [vokB] at h; omega

theorem l01Bit_any (b : Bool) (w : World) :
    Calls Tryd.prog 70 #[.bool b] w fun e w' => e = .returned (.int .i64 (bitI b)) ∧ w' = w := by
  cases b
  all_goals
    go_enter Tryd.func70, Tryd.ntmps70
    go_wp2
    go_ret
    exact ⟨rfl, rfl⟩

set_option maxHeartbeats 400000 in
theorem l01Bool_any (b : Bool) (w : World) :
    Calls Tryd.prog 97 #[.bool b] w fun e w' => e = .returned (.agg #[.int .i64 2, .int .i64 (bitI b), .string ⟨#[]⟩]) ∧ Below w.heap.size w w' := by
  go_enter Tryd.func97, Tryd.ntmps97
  go_wp2_with fail
  refine (l01Bit_any _ _).mono ?_
  rintro e w' ⟨rfl, rfl⟩
  go_wp2
  exact bodyPost_ret (v := (.agg #[.int .i64 2, .int .i64 (bitI b), .string ⟨#[]⟩])) (by simp [results, Tryd.results97, go_sem]) rfl ⟨rfl, (by repeat (first | exact Below.refl _ _ | refine nx_al ?_ | refine nx_set ?_ (by simp <;> omega) | refine nx_drew ?_ | refine nx_trans ?_ (by assumption)))⟩

end Go.Proofs.YtbipgmikgokfpaaDoor
