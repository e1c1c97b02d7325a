/- How many nodes there are from one on, which one is a node's parent: the specification's side. -/
import Derived.Test.YtpfglgfmebjeiaaDoorSizeWalk
namespace Go.Proofs.YtpfglgfmebjeiaaDoor
open Go.RowKit Go.Joins
set_option linter.unusedVariables false

set_option maxRecDepth 100000 in
theorem l03Place_any (ns : List TN) (root k : Int) (L : Lay) (w : World) (hN : NodesAt w L ns) (hsm : Small ns) :
    Calls Tryd.prog 61 #[.agg #[.slice L.p ns.length L.cap, .int .i64 root], .int .i64 k] w fun e w' => ∃ c : Int, e = .returned (.int .i64 c) ∧ ((¬ TreeOkP ns root ∧ c = 1) ∨ (TreeOkP ns root ∧ ¬ (0 ≤ k ∧ k < ns.length) ∧ c = 13) ∨ (TreeOkP ns root ∧ (0 ≤ k ∧ k < ns.length) ∧ c = 0)) ∧ Below w.heap.size w w' := by
  have HN := hide hN
  have HS := hide hsm
  have hl := hsm.1
  clear hN hsm
  go_enter Tryd.func61, Tryd.ntmps61
  go_wp2_with fail
  refine (specTreeOK_any ns root L _ ((unhide HN).later (nx_alloc _ _)) (unhide HS)).mono ?_
  rintro e w1 ⟨b, rfl, hb, hb1⟩
  have hB := hide (nx_trans (nx_alloc _ _) hb1)
  have c1 : ∀ o, w1.cell? ⟨w.heap.size, o, none⟩ = (w.alloc (.cells #[.slice L.p ns.length L.cap, .int .i64 root] 25)).cell? ⟨w.heap.size, o, none⟩ := fun o => hb1.cell (p := ⟨w.heap.size, o, none⟩) (by simp)
  have d0 : w1.cell? ⟨w.heap.size, 0, none⟩ = some (.slice L.p ns.length L.cap) := by rw [c1]; simp
  clear hb1 c1
  cases b
  · have hD : Hid (¬ TreeOkP ns root) := hide (fun h => (by have := hb.2 h; cases this))
    clear hb
    go_wp2
    go_ret
    exact ⟨1, rfl, .inl ⟨unhide hD, rfl⟩, unhide hB⟩
  have HOK := hide (hb.1 rfl)
  clear hb
  by_cases hk : 0 ≤ k ∧ k < ns.length
  · go_wp2_with fail
    refine (l01In_is k 0 ((ns.length : Int) - 1) true _ (by simp; omega)).mono ?_
    rintro e w1 ⟨rfl, rfl⟩
    have HK := hide hk
    clear hk
    go_wp2
    go_ret
    exact ⟨0, rfl, .inr (.inr ⟨unhide HOK, unhide HK, rfl⟩), unhide hB⟩
  · go_wp2_with fail
    refine (l01In_is k 0 ((ns.length : Int) - 1) false _ (by simp; omega)).mono ?_
    rintro e w1 ⟨rfl, rfl⟩
    have HK := hide hk
    clear hk
    go_wp2
    go_ret
    exact ⟨13, rfl, .inr (.inl ⟨unhide HOK, unhide HK, rfl⟩), unhide hB⟩

theorem wrapS (x : Int) (h0 : 0 ≤ x) (h1 : x ≤ 5000) : wrap64 x = x := by unfold wrap64; omega
theorem wrapT (x : Int) (h0 : 0 ≤ x) (h1 : x ≤ 5000) : IntKind.i64.wrap x = x := by rw [IntKind.wrap_i64]; omega
theorem wrapU (a b c : Nat) (h : a + b ≤ c) (hc : c ≤ 1000) : wrap64 ((a : Int) + 1 + (b : Int)) = (a : Int) + 1 + (b : Int) ∧ IntKind.i64.wrap ((a : Int) + 1 + (b : Int)) = (a : Int) + 1 + (b : Int) := ⟨wrapS _ (by omega) (by omega), wrapT _ (by omega) (by omega)⟩

end Go.Proofs.YtpfglgfmebjeiaaDoor
