/- A list of numbers of one's own that grows, and one of pointers. -/
import Derived.Test.YtbipgmikgokfpaaDoorTreeLaw1
import Derived.Laws.OwnMore
namespace Go.Proofs.YtbipgmikgokfpaaDoor
open Go.RowKit Go.Joins
set_option linter.unusedVariables false

set_option maxRecDepth 100000 in
theorem infoInt : (Tryd.prog.info? 3).map (fun i => (i.zero, i.size, i.bytes)) = some (some (.int .i64 0), 1, 8) := by kernel_rfl
/-- a list of numbers of one's own -/
def IntBuf (w : World) (base : Nat) (v : Value) (zs : List Int) : Prop := w.ownsRow base 3 1 v zs.length (zs.map (Value.int .i64))
theorem IntBuf.nil (w : World) (base : Nat) : IntBuf w base (.slice none 0 0) [] := World.ownsRow_nil _ _ _ _
theorem IntBuf.alloc {w : World} {base : Nat} {v : Value} {zs : List Int} (h : IntBuf w base v zs) (o : Obj) : IntBuf (w.alloc o) base v zs := World.ownsRow.alloc h o
theorem IntBuf.lit (w : World) (base : Nat) (zs : List Int) (h : base ≤ w.heap.size) (hl : zs.length ≤ maxLen) : IntBuf (w.alloc (.cells (zs.map (Value.int .i64)).toArray 3)) base (.slice (some ⟨w.heap.size, 0, none⟩) zs.length zs.length) zs := by
  have := World.ownsRow_lit (base := base) (e := 3) (size := 1) w (zs.map (Value.int .i64)).toArray zs.length h hl (by simp)
  simpa [IntBuf] using this
theorem IntBuf.slice {w : World} {base : Nat} {v : Value} {zs : List Int} (h : IntBuf w base v zs) : ∃ a cap, v = .slice a zs.length cap := own_slice h
theorem IntBuf.own_lt {w : World} {base : Nat} {v : Value} {zs : List Int} (h : IntBuf w base v zs) : ∀ j, v.ownBlock = some j → base ≤ j ∧ j < w.heap.size := fun j hj => World.ownsRow.lt h j hj
theorem IntBuf.below {w w' : World} {base B : Nat} {v : Value} {zs : List Int} (h : IntBuf w base v zs) (hb : Below B w w') (hB : ∀ j, v.ownBlock = some j → j < B) : IntBuf w' base v zs := by
  refine ⟨h.1, ?_⟩
  rcases h.2 with h | ⟨g, cap, cur, e, hg, hgg, r⟩
  · exact .inl h
  · refine .inr ⟨g, cap, cur, e, hg, ?_, r⟩
    rw [hb.block g (hB g (by rw [e]; rfl))]; exact hgg
theorem IntBuf.later {w w' : World} {base : Nat} {v : Value} {zs : List Int} (h : IntBuf w base v zs) (hb : Below w.heap.size w w') : IntBuf w' base v zs := h.below hb fun j hj => (h.own_lt j hj).2
theorem IntBuf.ints {w : World} {base : Nat} {v : Value} {zs : List Int} (h : IntBuf w base v zs) : ∃ a cap, v = .slice a zs.length cap ∧ IntsAt w a zs := by
  rcases h.2 with ⟨rfl, h0⟩ | ⟨g, cap, cur, rfl, hg⟩
  · exact ⟨none, 0, by rw [h0], fun i hi => by omega⟩
  · refine ⟨some ⟨g, 0, none⟩, cap, rfl, fun i hi => ⟨g, 0, rfl, ?_⟩⟩
    have := World.ownsRow.cellAt h i (by omega)
    rw [Nat.zero_add, this]
    simp [hi]

theorem wp_appI (w : World) {ops : Array Oper} {rest : List Oper} {o : Oper} {a : Act} {Q : Exit → Act → World → Prop} (hgd : o.guard = none) (s x : Operand)
    (ho : o.op = .call { callee := .builtin .append, args := #[s, x], argTypes := #[30, 30] }) (base g : Nat) (v : Value) (zs : List Int) (c : Int) (hs : a.eval s = v)
    (hown : IntBuf w base v zs) (hx : a.eval x = .slice (some ⟨g, 0, none⟩) 1 1) (hc0 : w.cell? ⟨g, 0, none⟩ = some (.int .i64 c)) (hbase : base ≤ w.heap.size) (hl : zs.length ≤ 1000000000)
    (h : ∀ v' w', IntBuf w' base v' (zs ++ [c]) → Below base w w' → wpList Tryd.prog ops Q rest (a.put o.dst v') w') : wpList Tryd.prog ops Q (o :: rest) a w := by
  obtain ⟨i0, hi, hz0, hz1, hz2⟩ := info_parts infoInt
  refine wpList_append_own _ hgd s x 30 ho base 3 i0 (.int .i64 0) 1 8 Tryd.underlying30 hi hz0 hz1 hz2 rfl (by decide) _ _ _ hs hown ⟨g, 0, none⟩ 1 1 [.int .i64 c] hx rfl ?_ ?_ (by unfold maxLen; omega) (by omega) hbase ?_
  · intro j u' hj
    match j, hj with
    | 0, hj => simp at hj; subst hj; simpa [Addr.add] using hc0
    | j + 1, hj => simp at hj
  · intro u' hu'
    simp at hu'
    subst hu'
    rfl
  · intro v' w' hown' hgrow _
    rw [show zs.map (Value.int .i64) ++ [.int .i64 c] = (zs ++ [c]).map (Value.int .i64) by simp, show zs.length + 1 = (zs ++ [c]).length by simp] at hown'
    exact h v' w' hown' ((Below.refl _ _).grown hgrow hbase (fun j hj => (World.ownsRow.lt hown j hj).1))

end Go.Proofs.YtbipgmikgokfpaaDoor
