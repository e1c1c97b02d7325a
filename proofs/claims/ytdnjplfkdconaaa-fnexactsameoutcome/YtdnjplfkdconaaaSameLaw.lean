/- For every input the law FnExactSameOutcome returns true and its arguments read as they did. -/
import Derived.Test.YtdnjplfkdconaaaSameL
import Derived.Test.YtdnjplfkdconaaaFrame
import Derived.Test.YtdnjplfkdconaaaMachOf
namespace Go.Proofs.Ytdnjplfkdconaaa
open Go.ChangeShapes Go.WideShapes Go.ChangeAt Go.RowKit Go.Joins
open Go.ChangeMaps (open_string shut_string)
set_option linter.unusedVariables false

set_option maxRecDepth 100000 in
theorem FnExactSameOutcome_lifted (os : Os) (started : os.Started) (H : Type) (enc : TypeId × Value → H) :
    ReturnsInHanded {} Try.checked os 3 .any (Rows.fnExactSameOutcomeSpec.pre6 enc Try.prog Try.f3 Rows.fnExactSameOutcomeRow.domain false) (Rows.fnExactSameOutcomeSpec.post enc Try.prog Try.f3 false true false false) := by
  refine returnsInHanded_of_change (C := Try.checked) own started (by kernel_rfl) Try.func3
    (ChangeSpec.witness6 (enc := enc) (C := Try.checked) false ⟨#[], #[.agg #[.int .i64 0, .int .i64 0, .int .i64 0, .string ⟨#[]⟩, .int .i64 0], .agg #[.slice none 0 0, .int .i64 0, .int .i64 0, .int .i64 0, .string ⟨#[]⟩, .int .i64 0]], []⟩ 8 (by kernel_rfl) (by kernel_rfl) (by kernel_rfl) (by kernel_rfl)) ?_
  intro W base args ds gs before hval0 hW hcnd _
  have hval : ∀ (j : Nat) t v, Try.f3.params[j]? = some t → args[j]? = some v → Value.okWide Try.prog W .any base t v := hval0
  have hW' := hW
  obtain ⟨p, q, hA0, hV, rfl, hfz, hnd⟩ := hW
  have hA : DataW.TrodAll enc Try.prog W 0 (fun _ => true) true Try.f3.params.toList args.toList ds p := hA0
  rw [Try.params3] at hA hval
  obtain ⟨v0, vs0, d0, ds0, p0, q0, hargs, rfl, rfl, h0, r0⟩ := trodAll_cons hA
  obtain ⟨v1, vs1, d1, ds1, p1, q1, rfl, rfl, rfl, h1, r1⟩ := trodAll_cons r0
  obtain ⟨rfl, rfl, rfl⟩ := trodAll_nil r1
  obtain rfl : args = #[v0, v1] := by cases args; simp_all
  obtain ⟨rfl, rfl⟩ := trodVars_none hV
  have k0 := h0
  have lt0 : ∀ x ∈ p0, x.block < W.heap.size := by obtain ⟨m, hm⟩ := k0; exact DataW.trod_lt m _ _ _ hm
  obtain ⟨cs0, rfl, hsz0⟩ := okWide_struct Try.underlying25 (hval 0 25 v0 rfl rfl)
  obtain ⟨u0a, u0b, u0c, u0d, u0e, rfl⟩ := array5 (hsz0.trans (by kernel_rfl))
  obtain ⟨st0, y0, us0, rfl, rfl, rfl, rfl, rfl, wt0⟩ : ∃ (st : Int) (y : MV) (u : Int), u0a = .int .i64 st ∧ u0b = .int .i64 y.k ∧ u0c = .int .i64 y.n ∧ u0d = .string y.t ∧ u0e = .int .i64 u ∧ y.t.size ≤ maxLen := by
    obtain ⟨fuel, hf⟩ := h0
    exact outcome_of_trod (by simpa [Value.cells] using hf)
  have k1 := h1
  have lt1 : ∀ x ∈ p1, x.block < W.heap.size := by obtain ⟨m, hm⟩ := k1; exact DataW.trod_lt m _ _ _ hm
  obtain ⟨cs1, rfl, hsz1⟩ := okWide_struct Try.underlying28 (hval 1 28 v1 rfl rfl)
  obtain ⟨u1a, u1b, u1c, u1d, u1e, u1f, rfl⟩ := array6 (hsz1.trans (by kernel_rfl))
  obtain ⟨x1, L1, cap1, st1, y1, us1, rfl, rfl, rfl, rfl, rfl, rfl, w1, ww1, wt1⟩ : ∃ (fs : List MF) (L : FLay) (cap : Nat) (st : Int) (y : MV) (u : Int), u1a = .slice L.p fs.length cap ∧ u1b = .int .i64 st ∧ u1c = .int .i64 y.k ∧ u1d = .int .i64 y.n ∧ u1e = .string y.t ∧ u1f = .int .i64 u ∧ FramesAt W L fs ∧ WideFs fs ∧ y.t.size ≤ maxLen := by
    obtain ⟨fuel, hf⟩ := h1
    exact machine_of_trod (by simpa [Value.cells] using hf)
  clear hA0 hval0
  refine (lawSameOutcome_any st0 y0.k y0.n y0.t us0 L1 x1 cap1 st1 y1.k y1.n us1 y1.t W wt0 w1 ww1 wt1).mono fun e W' ⟨he, bel⟩ => ?_
  subst he
  exact ⟨_, rfl, _, _, _, [], _, [], hW', trodAll_mk1 (shut_bool Try.underlying4 _), (trodAll_cons_mk (Below.trod laidOut (by kernel_rfl) (of_decide_eq_true (by kernel_rfl)) k0 bel lt0) (trodAll_cons_mk (Below.trod laidOut (by kernel_rfl) (of_decide_eq_true (by kernel_rfl)) k1 bel lt1) trodAll_mk0)), rfl, bel.frame _, fun h => by cases h⟩

theorem FnExactSameOutcome_holds : Rows.FnExactSameOutcomeSaid :=
  OpenClaim.holds_of_wide 3 Try.f3 rfl rfl rfl rfl rfl rfl rfl ⟨rfl, rfl, rfl, rfl, rfl⟩ rfl rfl rfl rfl rfl (by kernel_rfl) Try.func3 (by kernel_rfl)
    (of_decide_eq_true (by kernel_rfl)) (by unfold Func.isWrapper; rw [if_neg (of_decide_eq_false (by kernel_rfl))]; exact ⟨rfl, rfl⟩)
    (fun os started H enc _ => FnExactSameOutcome_lifted os started H enc)

end Go.Proofs.Ytdnjplfkdconaaa
