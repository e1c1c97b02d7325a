/- 'spec.OpOf': one of the seven operations; and bytes that are put behind one. -/
import Derived.Test.YtpncohkbdaoceaaValueOf2
import Derived.ArgAppend
import Derived.Laws.OwnMore
namespace Go.Proofs.Ytpncohkbdaoceaa
open Go.RowKit
set_option linter.unusedVariables false

def ops7 (j : Nat) : ByteArray := if j = 0 then ⟨#[43]⟩ else if j = 1 then ⟨#[45]⟩ else if j = 2 then ⟨#[42]⟩ else if j = 3 then ⟨#[47]⟩ else if j = 4 then ⟨#[37]⟩ else if j = 5 then ⟨#[60]⟩ else ⟨#[61, 61]⟩

set_option maxHeartbeats 1000000 in
theorem op_any (g : Nat) (a : Option Addr) (len cap : Nat) (n seed : Int) (w : World) (h : SrcAt w g a len cap n seed) (hn : n + 1 ≤ 1000000000) (hlen : len ≤ 1048577) (hrow : ByteRow w a len) (hg : 0 < len → ∀ x, a = some x → ¬ x.block = g) :
    Calls Try.prog 38 #[.pointer (some ⟨g, 0, none⟩)] w fun e w' => ∃ j, j < 7 ∧ e = .returned (.string (ops7 j)) ∧ Below g w w' := by
  have hgl : g < w.heap.size := World.block_lt_of_cell? _ _ h.c0
  have HC := hide (fun (o : Obj) (hts : ∀ j, j < 7 → (w.alloc o).cell? ⟨w.heap.size, j, none⟩ = some (.string (ops7 j))) => pick_any g a len cap n seed w.heap.size 7 7 ops7 (w.alloc o) (src_later h (nx_alloc _ _)) hn hlen (hrow.later (nx_alloc _ _)) hg (by omega) (by omega) (by omega) hts)
  clear h hrow hg
  go_enter Try.func38, Try.ntmps38
  go_wp2_with fail
  refine (unhide HC _ (fun j hj => by
    obtain rfl | rfl | rfl | rfl | rfl | rfl | rfl : j = 0 ∨ j = 1 ∨ j = 2 ∨ j = 3 ∨ j = 4 ∨ j = 5 ∨ j = 6 := by omega
    all_goals simp [ops7])).mono ?_
  rintro e w2 ⟨j, s2, hj, rfl, hs2, ho2⟩
  have HB := hide (only_bel ((Below.refl g w).alloc (Nat.le_of_lt hgl) _) ho2 (Nat.le_refl _))
  clear hs2 ho2 HC
  go_wp2
  go_ret
  exact ⟨j, hj, rfl, unhide HB⟩

set_option maxHeartbeats 1000000 in
theorem OpOf_any (a : Option Addr) (len cap : Nat) (w : World) (hlen : len ≤ 1048577) (hrow : ByteRow w a len) :
    Calls Try.prog 14 #[.slice a len cap] w fun e w' => ∃ j, j < 7 ∧ e = .returned (.string (ops7 j)) ∧ Below w.heap.size w w' := by
  have HR := hide hrow
  clear hrow
  go_enter Try.func14, Try.ntmps14
  go_wp2_with fail
  refine (source_any a len cap _ (by omega)).mono ?_
  rintro e w1 ⟨rfl, hb1, hz1, hs1⟩
  have HV := hide (op_any w.heap.size a len cap 0 _ w1 hs1 (by omega) hlen ((unhide HR).later hb1) (fun hc => row_block (unhide HR) hc))
  have H1 := hide hb1
  clear hs1 HR hb1
  go_wp2_with fail
  refine (unhide HV).mono ?_
  rintro e w2 ⟨j, hj, rfl, hb2⟩
  have HB := hide ((unhide H1).trans hb2)
  clear hb2 HV H1
  go_wp2
  go_ret
  exact ⟨j, hj, rfl, unhide HB⟩

/-- an append whose run is known by an equation -/
theorem wpList_append_eq {P : Program} (w : World) {ops : Array Oper} {rest : List Oper} {o : Oper} {a : Act} {Q : Exit → Act → World → Prop} (hgd : o.guard = none) (s x : Operand) (t : TypeId)
    (ho : o.op = .call { callee := .builtin .append, args := #[s, x], argTypes := #[t, t] }) (v u : Value) (hs : a.eval s = v) (hx : a.eval x = u) {v' : Value} {w' : World}
    (hr : (Builtin.append_ #[t, t] o.type #[v, u]).run P w = .ok v' w') (h : wpList P ops Q rest (a.put o.dst v') w') : wpList P ops Q (o :: rest) a w := by
  refine wpList_plain hgd fun K hK => ?_
  unfold Oper.wp
  simp [execOp, ho, resolve, invoke, builtin, hs, hx, hr, Result.andThen]
  exact hK _ _ h

theorem grown_below {w w' : World} (h : w.grownBy w' none) : Below w.heap.size w w' := ⟨h.os, h.tape, h.output, h.size, fun k hk => h.block k hk (by simp)⟩

theorem append_behind (ty : TypeId) (q : Nat) (a : Option Addr) (len cap : Nat) (w : World) (hq : w.cell? ⟨q, 0, none⟩ = some (.int .u8 9)) (hrow : ByteRow w a len) (hlen : len ≤ 1048576) :
    ∃ v' w' a' cap', (Builtin.append_ #[22, 22] ty #[.slice (some ⟨q, 0, none⟩) 1 1, .slice a len cap]).run Try.prog w = .ok v' w' ∧ v' = .slice a' (1 + len) cap' ∧ ByteRow w' a' (1 + len) ∧ Below w.heap.size w w' := by
  obtain ⟨i0, hi, hz0, hz1, hz2⟩ : ∃ i, Try.prog.info? 5 = some i ∧ i.zero = some (.int .u8 0) ∧ i.size = 1 ∧ i.bytes = 1 := ⟨_, rfl, rfl, rfl, rfl⟩
  by_cases h0 : len = 0
  · subst h0
    have hst : ∀ x, (storeCells x []).run Try.prog w = .ok () w := fun x => rfl
    refine ⟨.slice (some ⟨q, 0, none⟩) 1 1, w, some ⟨q, 0, none⟩, 1, ?_, rfl, fun i hi => ?_, Below.refl _ _⟩
    · cases a with
      | none => simp [Builtin.append_, run_underlying Try.underlying22, sizeOf, typeInfo, hi, Builtin.lenOf, run_firstCells_none, hst, Result.andThen]
      | some x =>
        have hf := run_firstCells_some (P := Try.prog) w i0.size 0 x 0 cap [] (by simp) (by simp)
        simp [Builtin.append_, run_underlying Try.underlying22, sizeOf, typeInfo, hi, Builtin.lenOf, hf, hst, Result.andThen]
    · obtain rfl : i = 0 := by omega
      exact ⟨q, 0, 9, rfl, hq, by omega, by omega⟩
  · obtain ⟨b, off, c0, rfl, _, _⟩ := hrow 0 (by omega)
    have hrow' : ∀ i, i < len → ∃ c : Int, w.cell? ⟨b, off + i, none⟩ = some (.int .u8 c) ∧ 0 ≤ c ∧ c ≤ 255 := fun i hi => by
      obtain ⟨b', off', c, e, h1, h2⟩ := hrow i hi
      cases e
      exact ⟨c, h1, h2⟩
    have hadd : ∀ j, (⟨b, off, none⟩ : Addr).add j = ⟨b, off + j, none⟩ := fun j => Addr.add_lit b off j
    obtain ⟨v', w', hrun, ⟨hlen', hown⟩, hgr⟩ := run_append_arg_grows (P := Try.prog) w 22 ty 5 i0 (.int .u8 0) 1 1 Try.underlying22 hi hz0 hz1 hz2 rfl (by decide) ⟨q, 0, none⟩ 1 1 [.int .u8 9] rfl
      (fun j u hj => by
        match j, hj with
        | 0, hj => simp at hj; subst hj; simpa [Addr.add] using hq)
      ⟨b, off, none⟩ len cap ((List.range len).map fun j => (w.cell? ⟨b, off + j, none⟩).getD (.int .u8 0)) (by simp)
      (fun j u hj => by
        have hj' : j < len := by
          have := (List.getElem?_eq_some_iff.1 hj).1
          simpa using this
        obtain ⟨c, h1, _⟩ := hrow' j hj'
        rw [hadd, h1]
        simp [hj', h1] at hj
        rw [hj])
      (by omega) (by unfold maxLen; omega) (by omega)
    rcases hown with ⟨_, hn⟩ | ⟨g, cap', cur, rfl, hg, hheap, hcap, hmax, hcs, htake⟩
    · omega
    refine ⟨_, w', some ⟨g, 0, none⟩, cap', hrun, rfl, fun i hi => ?_, grown_below hgr⟩
    have hcell : w'.cell? ⟨g, 0 + i, none⟩ = cur[i]? := by
      unfold World.cell?
      rw [hheap]
      simp
    have hci : cur[i]? = ([.int .u8 9] ++ (List.range len).map fun j => (w.cell? ⟨b, off + j, none⟩).getD (.int .u8 0))[i]? := by
      rw [← htake, List.getElem?_take, if_pos (by omega)]
      simp
    cases i with
    | zero => exact ⟨g, 0, 9, rfl, by rw [hcell, hci]; rfl, by omega, by omega⟩
    | succ j =>
      obtain ⟨c, h1, h2, h3⟩ := hrow' j (by omega)
      refine ⟨g, 0, c, rfl, ?_, h2, h3⟩
      rw [hcell, hci]
      simp [show j < len by omega, h1]

end Go.Proofs.Ytpncohkbdaoceaa
