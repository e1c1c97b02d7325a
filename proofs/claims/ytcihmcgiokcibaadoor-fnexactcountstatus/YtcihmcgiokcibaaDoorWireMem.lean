/- Small laws of memory, and rows of texts of one's own. -/
import Derived.Test.YtcihmcgiokcibaaDoorWireW2
import Derived.OwnWalk
import Derived.Laws.OwnMore
import Derived.Lib.BufferRead
import Derived.Deep.RegionHeld3
import Derived.Deep.DeepFit
namespace Go.Proofs.YtcihmcgiokcibaaDoor
open Go.RowKit
set_option linter.unusedVariables false

theorem qcell {W w1 : World} (hb : Below W.heap.size W w1) : (∀ b o, b < W.heap.size → w1.cell? ⟨b, o, none⟩ = W.cell? ⟨b, o, none⟩) ∧ (∀ b o, b < W.heap.size → w1.frozen? ⟨b, o, none⟩ = W.frozen? ⟨b, o, none⟩) :=
  ⟨fun b o h => hb.cell (p := ⟨b, o, none⟩) h, fun b o h => hb.frozen (p := ⟨b, o, none⟩) h⟩
theorem qx_trans {a b c : World} (h : Below a.heap.size a b) (k : Below b.heap.size b c) : Below a.heap.size a c := h.trans (k.mono h.size)
theorem qx_alloc (w : World) (o : Obj) : Below w.heap.size w (w.alloc o) := (Below.refl _ _).alloc (Nat.le_refl _) _
theorem qx_drew {a b : World} (h : Below a.heap.size a b) : Below a.heap.size a b.drew := h.drew
theorem qx_al {a b : World} {o : Obj} (h : Below a.heap.size a b) : Below a.heap.size a (b.alloc o) := h.alloc h.size o
theorem qx_set {a b : World} {k o : Nat} {v : Value} (h : Below a.heap.size a b) (hk : a.heap.size ≤ k) : Below a.heap.size a (b.setCell ⟨k, o, none⟩ v) := h.setCell hk v
theorem qx_drewN {B : Nat} {a b : World} {n : Nat} (h : Below B a b) : Below B a (b.drewN n) := ⟨h.os, h.tape, h.output, h.size, h.block⟩
theorem cell_later {w w' : World} {b o : Nat} {v : Value} (hb : Below w.heap.size w w') (h : w.cell? ⟨b, o, none⟩ = some v) : w'.cell? ⟨b, o, none⟩ = some v := by
  rw [(qcell hb).1 b o (World.block_lt_of_cell? _ _ h)]; exact h

/-- the library's variable holds some number -/
def MaxL (w : World) : Prop := ∃ m, w.cell? ⟨0, 0, none⟩ = some (.int .i64 m)
theorem MaxL.later {w w' : World} (h : MaxL w) (hb : Below w.heap.size w w') : MaxL w' := by
  obtain ⟨m, hm⟩ := h
  exact ⟨m, cell_later hb hm⟩
theorem MaxL.al {w : World} (h : MaxL w) (o : Obj) : MaxL (w.alloc o) := h.later (qx_alloc _ _)

set_option maxRecDepth 100000 in
theorem infoT : (Tryd.prog.info? 9).map (fun i => (i.zero, i.size, i.bytes)) = some (some (.string ⟨#[]⟩), 1, 16) := by kernel_rfl
theorem info_parts {P : Program} {t : TypeId} {z : Option Value} {n b : Nat} (h : (P.info? t).map (fun i => (i.zero, i.size, i.bytes)) = some (z, n, b)) : ∃ i, P.info? t = some i ∧ i.zero = z ∧ i.size = n ∧ i.bytes = b := by
  cases hi : P.info? t with
  | none => rw [hi] at h; cases h
  | some i =>
    rw [hi] at h
    simp at h
    exact ⟨i, rfl, h.1, h.2.1, h.2.2⟩
/-- a list of texts of one's own -/
def Txt (w : World) (base : Nat) (v : Value) (zs : List ByteArray) : Prop := w.ownsRow base 9 1 v zs.length (zs.map Value.string)
theorem Txt.nil (w : World) (base : Nat) : Txt w base (.slice none 0 0) [] := World.ownsRow_nil _ _ _ _
theorem Txt.alloc {w : World} {base : Nat} {v : Value} {zs : List ByteArray} (h : Txt w base v zs) (o : Obj) : Txt (w.alloc o) base v zs := World.ownsRow.alloc h o
theorem Txt.lit (w : World) (base : Nat) (zs : List ByteArray) (h : base ≤ w.heap.size) (hl : zs.length ≤ maxLen) : Txt (w.alloc (.cells (zs.map Value.string).toArray 9)) base (.slice (some ⟨w.heap.size, 0, none⟩) zs.length zs.length) zs := by
  have := World.ownsRow_lit (base := base) (e := 9) (size := 1) w (zs.map Value.string).toArray zs.length h hl (by simp)
  simpa [Txt] using this
theorem Txt.slice {w : World} {base : Nat} {v : Value} {zs : List ByteArray} (h : Txt w base v zs) : ∃ a cap, v = .slice a zs.length cap := by
  rcases h.2 with ⟨rfl, h0⟩ | ⟨g, cap, cur, rfl, _⟩
  · exact ⟨none, 0, by rw [h0]⟩
  · exact ⟨_, _, rfl⟩
theorem Txt.own_lt {w : World} {base : Nat} {v : Value} {zs : List ByteArray} (h : Txt w base v zs) : ∀ j, v.ownBlock = some j → base ≤ j ∧ j < w.heap.size := fun j hj => World.ownsRow.lt h j hj
theorem Txt.below {w w' : World} {base B : Nat} {v : Value} {zs : List ByteArray} (h : Txt w base v zs) (hb : Below B w w') (hB : ∀ j, v.ownBlock = some j → j < B) : Txt w' base v zs := by
  refine ⟨h.1, ?_⟩
  rcases h.2 with h | ⟨g, cap, cur, e, hg, hgg, r⟩
  · exact .inl h
  · refine .inr ⟨g, cap, cur, e, hg, ?_, r⟩
    rw [hb.block g (hB g (by rw [e]; rfl))]; exact hgg
theorem Txt.later {w w' : World} {base : Nat} {v : Value} {zs : List ByteArray} (h : Txt w base v zs) (hb : Below w.heap.size w w') : Txt w' base v zs := h.below hb fun j hj => (h.own_lt j hj).2
theorem Txt.get {w : World} {base g n cap : Nat} {us : List ByteArray} (h : Txt w base (.slice (some ⟨g, 0, none⟩) n cap) us) (i : Nat) (hi : i < us.length) : w.cell? ⟨g, i, none⟩ = some (.string us[i]) := by
  have e : n = us.length := by
    obtain ⟨a, c, e⟩ := h.slice
    simp at e
    exact e.2.1
  subst e
  rw [World.ownsRow.cellAt h i (by omega)]
  simp [hi]
theorem Txt.opened {w : World} {base : Nat} {v : Value} {zs : List ByteArray} (h : Txt w base v zs) (h0 : 0 < zs.length) : ∃ g cap, v = .slice (some ⟨g, 0, none⟩) zs.length cap ∧ base ≤ g ∧ g < w.heap.size ∧ zs.length ≤ cap := by
  rcases h.2 with ⟨_, h'⟩ | ⟨g, cap, cur, e, hg, hgg, hn, hm, r⟩
  · omega
  · exact ⟨g, cap, e, hg, (Array.getElem?_eq_some_iff.1 hgg).1, hn⟩

theorem Txt.lit2 (W : World) (base n : Nat) (a b : ByteArray) (hn : W.heap.size = n) (h : base ≤ n) : Txt (W.alloc (.cells #[.string a, .string b] 9)) base (.slice (some ⟨n, 0, none⟩) 2 2) [a, b] := by
  subst hn
  exact Txt.lit W base [a, b] h (by unfold maxLen; simp)


end Go.Proofs.YtcihmcgiokcibaaDoor
