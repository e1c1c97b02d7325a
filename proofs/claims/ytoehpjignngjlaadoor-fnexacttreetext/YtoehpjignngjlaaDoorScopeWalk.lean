/- What a function, or the outmost block, begins with: code and specification. -/
import Derived.Test.YtoehpjignngjlaaDoorGrowWalk3
import Derived.Test.YtoehpjignngjlaaDoorStrBuf
import Derived.Laws.AppendOwnNone
import Derived.Deep.RegionHeld3
import Derived.Deep.AppendLies
namespace Go.Proofs.YtoehpjignngjlaaDoor
open Go.RowKit Go.Joins
set_option linter.unusedVariables false

theorem TreeP.over {ns : List TN} {root : Int} {l : List Nat} {d a : Nat} (h : TreeP ns root l d) (ha : a < ns.length) (hr : (a : Int) ≠ root) : ∃ x ∈ l, Par ns x a := by
  obtain ⟨j, hj, ps, hu, _⟩ := h.2.1.1.up a (h.2.2.2 a ha)
  rw [List.mem_singleton] at hj
  subst hj
  cases hu with
  | here _ => exact absurd (Int.toNat_of_nonneg h.root.1) hr
  | step x _ ps hx _ hp _ => exact ⟨x, hx, hp⟩
theorem StrBuf.low {w : World} {base base' : Nat} {v : Value} {zs : List ByteArray} (h : StrBuf w base v zs) (hb : base' ≤ base) : StrBuf w base' v zs := ownsRow_le h hb
/-- texts put behind texts -/
theorem wp_appStrs (w : World) {ops : Array Oper} {rest : List Oper} {o : Oper} {a : Act} {Q : Exit → Act → World → Prop} (hgd : o.guard = none) (s x : Operand)
    (ho : o.op = .call { callee := .builtin .append, args := #[s, x], argTypes := #[39, 39] }) (base g off m c : Nat) (v : Value) (zs ys : List ByteArray) (hs : a.eval s = v)
    (hown : StrBuf w base v zs) (hx : a.eval x = .slice (some ⟨g, off, none⟩) m c) (hm : m = ys.length) (hc0 : ∀ i (h : i < ys.length), w.cell? ⟨g, off + i, none⟩ = some (.string ys[i])) (hbase : base ≤ w.heap.size) (hl : zs.length + ys.length ≤ 1000000000)
    (h : ∀ v' w', StrBuf w' base v' (zs ++ ys) → Below base w w' → wpList Tryd.prog ops Q rest (a.put o.dst v') w') : wpList Tryd.prog ops Q (o :: rest) a w := by
  subst hm
  obtain ⟨i0, hi, hz0, hz1, hz2⟩ := info_parts infoSt
  refine wpList_append_own _ hgd s x 39 ho base 9 i0 (.string ⟨#[]⟩) 1 16 Tryd.underlying39 hi hz0 hz1 hz2 rfl (by decide) _ _ _ hs hown ⟨g, off, none⟩ ys.length c (ys.map Value.string) hx (by simp) ?_ ?_ (by unfold maxLen; omega) (by omega) hbase ?_
  · intro j u' hj
    rw [List.getElem?_map] at hj
    obtain ⟨z, hz, rfl⟩ := Option.map_eq_some_iff.1 hj
    obtain ⟨hjl, rfl⟩ := List.getElem?_eq_some_iff.1 hz
    have := hc0 j hjl
    rw [Addr.add_lit]
    exact this
  · intro u' hu'
    obtain ⟨z, _, rfl⟩ := List.mem_map.1 hu'
    rfl
  · intro v' w' hown' hgrow _
    rw [← List.map_append, show zs.length + ys.length = (zs ++ ys).length by simp] at hown'
    exact h v' w' hown' ((Below.refl _ _).grown hgrow hbase (fun j hj => (World.ownsRow.lt hown j hj).1))
/-- .. out of a row of one's own -/
theorem wp_appBuf (w : World) {ops : Array Oper} {rest : List Oper} {o : Oper} {a : Act} {Q : Exit → Act → World → Prop} (hgd : o.guard = none) (s x : Operand)
    (ho : o.op = .call { callee := .builtin .append, args := #[s, x], argTypes := #[39, 39] }) (base base2 : Nat) (v v2 : Value) (zs ys : List ByteArray) (hs : a.eval s = v)
    (hown : StrBuf w base v zs) (hx : a.eval x = v2) (hsrc : StrBuf w base2 v2 ys) (hbase : base ≤ w.heap.size) (hl : zs.length + ys.length ≤ 1000000000)
    (h : ∀ v' w', StrBuf w' base v' (zs ++ ys) → Below base w w' → wpList Tryd.prog ops Q rest (a.put o.dst v') w') : wpList Tryd.prog ops Q (o :: rest) a w := by
  have hs2 := hsrc
  rcases hsrc.2 with ⟨h1, h0⟩ | ⟨g, cap, cur, e, hg, hgg, r⟩
  · subst h1
    have hy : ys = [] := List.length_eq_zero_iff.1 h0
    subst hy
    obtain ⟨i0, hi, hz0, hz1, hz2⟩ := info_parts infoSt
    refine wpList_append_own_none hgd s x 39 ho base 9 i0 1 Tryd.underlying39 hi v _ _ hs hown hx ?_
    exact h v w (by rw [List.append_nil]; exact hown) (Below.refl _ _)
  · subst e
    refine wp_appStrs w hgd s x ho base g 0 ys.length cap v zs ys hs hown hx rfl (fun i hi => ?_) hbase hl h
    rw [Nat.zero_add]
    exact hs2.get i hi

def pathB : ByteArray := ⟨#[112, 97, 116, 104]⟩
/-- k is a function, or the outmost block -/
def UnitAt (ns : List TN) (root k : Int) : Prop := ∃ n, 0 ≤ k ∧ ns[k.toNat]? = some n ∧ (n.k = 20 ∨ k = root)
def UnitPost (ns : List TN) (root : Int) (L : Lay) (k : Int) (w : World) (e : Ending) (w' : World) : Prop :=
  Below w.heap.size w w' ∧ ((e = .returned (.tuple #[.pointer none, .int .i64 1]) ∧ ¬ TreeOkP ns root) ∨ (e = .returned (.tuple #[.pointer none, .int .i64 13]) ∧ TreeOkP ns root ∧ ¬ UnitAt ns root k) ∨
    ∃ (G B : Nat) (loc : Nat → Nat) (l : List Nat) (d x : Nat) (n : TN), TreeP ns root l d ∧ Grown w' G B L ns root loc l ∧ k = (x : Int) ∧ ns[x]? = some n ∧ (n.k = 20 ∨ k = root) ∧ e = .returned (.tuple #[.pointer (some ⟨loc x, 0, none⟩), .int .i64 0]))

/-- what is answered -/
def ScopeAtRes (ns : List TN) (root k : Int) (zs : List ByteArray) (c : Int) : Prop := (¬ TreeOkP ns root ∧ zs = [] ∧ c = 1) ∨ (TreeOkP ns root ∧ ¬ UnitAt ns root k ∧ zs = [] ∧ c = 13) ∨ (TreeOkP ns root ∧ (∃ n, 0 ≤ k ∧ ns[k.toNat]? = some n ∧ (n.k = 20 ∨ k = root) ∧ zs = (if n.k = 20 then n.names else [pathB]) ∧ zs.length ≤ 1048576) ∧ c = 0)
theorem ScopeAtRes.det {ns : List TN} {root k : Int} {zs zs' : List ByteArray} {c c' : Int} (h : ScopeAtRes ns root k zs c) (h' : ScopeAtRes ns root k zs' c') : zs = zs' ∧ c = c' := by
  rcases h with ⟨h1, rfl, rfl⟩ | ⟨h1, h2, rfl, rfl⟩ | ⟨h1, ⟨n, a1, a2, a3, a4, a5⟩, rfl⟩ <;> rcases h' with ⟨g1, rfl, rfl⟩ | ⟨g1, g2, rfl, rfl⟩ | ⟨g1, ⟨n', b1, b2, b3, b4, b5⟩, rfl⟩
  all_goals first | exact ⟨rfl, rfl⟩ | exact absurd h1 g1 | exact absurd g1 h1 | exact absurd ⟨_, a1, a2, a3⟩ g2 | exact absurd ⟨_, b1, b2, b3⟩ h2 | skip
  rw [a2] at b2
  obtain rfl := Option.some.inj b2
  exact ⟨a4.trans b4.symm, rfl⟩
theorem ScopeAtRes.len {ns : List TN} {root k : Int} {zs : List ByteArray} {c : Int} (h : ScopeAtRes ns root k zs c) : zs.length ≤ 1048576 := by
  rcases h with ⟨h1, rfl, rfl⟩ | ⟨h1, h2, rfl, rfl⟩ | ⟨h1, ⟨n, a1, a2, a3, a4, a5⟩, rfl⟩
  · simp
  · simp
  · exact a5
/-- rows of names that lie somewhere -/
def NamesIn (L : Lay) (n : Nat) : Prop := ∀ i, i < n → ∃ g o, L.pn i = some ⟨g, o, none⟩
theorem MadR.namesIn {w : World} {L : Lay} {ns : List TN} {B E : Nat} (h : MadR w L ns B E) : NamesIn L ns.length := fun i hi => by
  obtain ⟨g1, _, e, _⟩ := h.parts i hi
  exact ⟨g1, 0, e⟩

theorem cellB {base b o : Nat} {w w' : World} {v : Value} (hb : Below base w w') (hl : b < base) (h : w.cell? ⟨b, o, none⟩ = some v) : w'.cell? ⟨b, o, none⟩ = some v := by
  rw [hb.cell (p := ⟨b, o, none⟩) hl]; exact h
theorem step_appStr (w : World) {ops : Array Oper} {o : Oper} {a : Act} {K : Act → World → Prop} {Q : Exit → Act → World → Prop} {E : Prop} (hgd : o.guard = none) (s x : Operand)
    (ho : o.op = .call { callee := .builtin .append, args := #[s, x], argTypes := #[39, 39] }) (base g : Nat) (v : Value) (zs : List ByteArray) (c : ByteArray) (hs : a.eval s = v)
    (hown : StrBuf w base v zs) (hx : a.eval x = .slice (some ⟨g, 0, none⟩) 1 1) (hc0 : w.cell? ⟨g, 0, none⟩ = some (.string c)) (hbase : base ≤ w.heap.size) (hl : zs.length ≤ 1000000000)
    (h : ∀ v' w', StrBuf w' base v' (zs ++ [c]) → Below base w w' → K (a.put o.dst v') w') : if Region.wanted o (yielded ops a.tmps) = true then Oper.wp Tryd.prog o a w K Q else E := by
  have hw : Region.wanted o (yielded ops a.tmps) = true := by simp [Region.wanted, hgd]
  rw [if_pos hw]
  obtain ⟨i0, hi, hz0, hz1, hz2⟩ := info_parts infoSt
  refine wp_append_own w s x 39 ho base 9 i0 (.string ⟨#[]⟩) 1 16 Tryd.underlying39 hi hz0 hz1 hz2 rfl (by decide) _ _ _ hs hown ⟨g, 0, none⟩ 1 1 [.string c] hx rfl ?_ ?_ (by unfold maxLen; omega) (by omega) hbase ?_
  · intro j u' hj
    match j, hj with
    | 0, hj => simp at hj; subst hj; simpa [Addr.add] using hc0
    | j + 1, hj => simp at hj
  · intro u' hu'
    simp at hu'
    subst hu'
    rfl
  · intro v' w' hown' hgrow _
    rw [show zs.map Value.string ++ [.string c] = (zs ++ [c]).map Value.string by simp, show zs.length + 1 = (zs ++ [c]).length by simp] at hown'
    exact h v' w' hown' ((Below.refl _ _).grown hgrow hbase (fun j hj => (World.ownsRow.lt hown j hj).1))
theorem step_appBuf (w : World) {ops : Array Oper} {o : Oper} {a : Act} {K : Act → World → Prop} {Q : Exit → Act → World → Prop} {E : Prop} (hgd : o.guard = none) (s x : Operand)
    (ho : o.op = .call { callee := .builtin .append, args := #[s, x], argTypes := #[39, 39] }) (base base2 : Nat) (v v2 : Value) (zs ys : List ByteArray) (hs : a.eval s = v)
    (hown : StrBuf w base v zs) (hx : a.eval x = v2) (hsrc : StrBuf w base2 v2 ys) (hbase : base ≤ w.heap.size) (hl : zs.length + ys.length ≤ 1000000000)
    (h : ∀ v' w', StrBuf w' base v' (zs ++ ys) → Below base w w' → K (a.put o.dst v') w') : if Region.wanted o (yielded ops a.tmps) = true then Oper.wp Tryd.prog o a w K Q else E := by
  have hw : Region.wanted o (yielded ops a.tmps) = true := by simp [Region.wanted, hgd]
  rw [if_pos hw]
  obtain ⟨i0, hi, hz0, hz1, hz2⟩ := info_parts infoSt
  have hs2 := hsrc
  rcases hsrc.2 with ⟨h1, h0⟩ | ⟨g, cap, cur, e, hg, hgg, r⟩
  · subst h1
    have hy : ys = [] := List.length_eq_zero_iff.1 h0
    subst hy
    have hrun := run_append_owned_none (P := Tryd.prog) (w := w) base 39 o.type 9 i0 1 Tryd.underlying39 hi v _ _ hown
    unfold Oper.wp
    simp [execOp, ho, resolve, invoke, builtin, hs, hx, hrun, Result.andThen]
    exact h v w (by rw [List.append_nil]; exact hown) (Below.refl _ _)
  · subst e
    refine wp_append_own w s x 39 ho base 9 i0 (.string ⟨#[]⟩) 1 16 Tryd.underlying39 hi hz0 hz1 hz2 rfl (by decide) _ _ _ hs hown ⟨g, 0, none⟩ ys.length cap (ys.map Value.string) hx (by simp) ?_ ?_ (by unfold maxLen; omega) (by omega) hbase ?_
    · intro j u' hj
      rw [List.getElem?_map] at hj
      obtain ⟨z, hz, rfl⟩ := Option.map_eq_some_iff.1 hj
      obtain ⟨hjl, rfl⟩ := List.getElem?_eq_some_iff.1 hz
      have := hs2.get j hjl
      rw [Addr.add_lit]
      simpa using this
    · intro u' hu'
      obtain ⟨z, _, rfl⟩ := List.mem_map.1 hu'
      rfl
    · intro v' w' hown' hgrow _
      rw [← List.map_append, show zs.length + ys.length = (zs ++ ys).length by simp] at hown'
      exact h v' w' hown' ((Below.refl _ _).grown hgrow hbase (fun j hj => (World.ownsRow.lt hown j hj).1))
theorem step_appStrG (w : World) {ops : Array Oper} {o : Oper} {a : Act} {K : Act → World → Prop} {Q : Exit → Act → World → Prop} {E : Prop} (hgd : o.guard = none) (s x : Operand)
    (ho : o.op = .call { callee := .builtin .append, args := #[s, x], argTypes := #[39, 39] }) (base g : Nat) (v : Value) (zs : List ByteArray) (c : ByteArray) (hs : a.eval s = v)
    (hown : StrBuf w base v zs) (hx : a.eval x = .slice (some ⟨g, 0, none⟩) 1 1) (hc0 : w.cell? ⟨g, 0, none⟩ = some (.string c)) (hbase : base ≤ w.heap.size) (hl : zs.length ≤ 1000000000)
    (h : ∀ v' w', StrBuf w' base v' (zs ++ [c]) → Below base w w' → w.grownBy w' v.ownBlock → K (a.put o.dst v') w') : if Region.wanted o (yielded ops a.tmps) = true then Oper.wp Tryd.prog o a w K Q else E := by
  have hw : Region.wanted o (yielded ops a.tmps) = true := by simp [Region.wanted, hgd]
  rw [if_pos hw]
  obtain ⟨i0, hi, hz0, hz1, hz2⟩ := info_parts infoSt
  refine wp_append_own w s x 39 ho base 9 i0 (.string ⟨#[]⟩) 1 16 Tryd.underlying39 hi hz0 hz1 hz2 rfl (by decide) _ _ _ hs hown ⟨g, 0, none⟩ 1 1 [.string c] hx rfl ?_ ?_ (by unfold maxLen; omega) (by omega) hbase ?_
  · intro j u' hj
    match j, hj with
    | 0, hj => simp at hj; subst hj; simpa [Addr.add] using hc0
    | j + 1, hj => simp at hj
  · intro u' hu'
    simp at hu'
    subst hu'
    rfl
  · intro v' w' hown' hgrow _
    rw [show zs.map Value.string ++ [.string c] = (zs ++ [c]).map Value.string by simp, show zs.length + 1 = (zs ++ [c]).length by simp] at hown'
    exact h v' w' hown' ((Below.refl _ _).grown hgrow hbase (fun j hj => (World.ownsRow.lt hown j hj).1)) hgrow
theorem step_appBufG (w : World) {ops : Array Oper} {o : Oper} {a : Act} {K : Act → World → Prop} {Q : Exit → Act → World → Prop} {E : Prop} (hgd : o.guard = none) (s x : Operand)
    (ho : o.op = .call { callee := .builtin .append, args := #[s, x], argTypes := #[39, 39] }) (base base2 : Nat) (v v2 : Value) (zs ys : List ByteArray) (hs : a.eval s = v)
    (hown : StrBuf w base v zs) (hx : a.eval x = v2) (hsrc : StrBuf w base2 v2 ys) (hbase : base ≤ w.heap.size) (hl : zs.length + ys.length ≤ 1000000000)
    (h : ∀ v' w', StrBuf w' base v' (zs ++ ys) → Below base w w' → w.grownBy w' v.ownBlock → K (a.put o.dst v') w') : if Region.wanted o (yielded ops a.tmps) = true then Oper.wp Tryd.prog o a w K Q else E := by
  have hw : Region.wanted o (yielded ops a.tmps) = true := by simp [Region.wanted, hgd]
  rw [if_pos hw]
  obtain ⟨i0, hi, hz0, hz1, hz2⟩ := info_parts infoSt
  have hs2 := hsrc
  rcases hsrc.2 with ⟨h1, h0⟩ | ⟨g, cap, cur, e, hg, hgg, r⟩
  · subst h1
    have hy : ys = [] := List.length_eq_zero_iff.1 h0
    subst hy
    have hrun := run_append_owned_none (P := Tryd.prog) (w := w) base 39 o.type 9 i0 1 Tryd.underlying39 hi v _ _ hown
    unfold Oper.wp
    simp [execOp, ho, resolve, invoke, builtin, hs, hx, hrun, Result.andThen]
    exact h v w (by rw [List.append_nil]; exact hown) (Below.refl _ _) ⟨rfl, rfl, rfl, Nat.le_refl _, fun _ _ _ => rfl⟩
  · subst e
    refine wp_append_own w s x 39 ho base 9 i0 (.string ⟨#[]⟩) 1 16 Tryd.underlying39 hi hz0 hz1 hz2 rfl (by decide) _ _ _ hs hown ⟨g, 0, none⟩ ys.length cap (ys.map Value.string) hx (by simp) ?_ ?_ (by unfold maxLen; omega) (by omega) hbase ?_
    · intro j u' hj
      rw [List.getElem?_map] at hj
      obtain ⟨z, hz, rfl⟩ := Option.map_eq_some_iff.1 hj
      obtain ⟨hjl, rfl⟩ := List.getElem?_eq_some_iff.1 hz
      have := hs2.get j hjl
      rw [Addr.add_lit]
      simpa using this
    · intro u' hu'
      obtain ⟨z, _, rfl⟩ := List.mem_map.1 hu'
      rfl
    · intro v' w' hown' hgrow _
      rw [← List.map_append, show zs.length + ys.length = (zs ++ ys).length by simp] at hown'
      exact h v' w' hown' ((Below.refl _ _).grown hgrow hbase (fun j hj => (World.ownsRow.lt hown j hj).1)) hgrow

end Go.Proofs.YtoehpjignngjlaaDoor
