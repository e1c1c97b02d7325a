/- Where a tree lies: its nodes in rows of five cells, names and kids in rows of their own. -/
import Derived.Test.YtbipgmikgokfpaaDoorNodeL
import Derived.Test.YtbipgmikgokfpaaDoorTokWalk
import Derived.Laws.MakeOwn
import Derived.Lib.SmallJoins
import Derived.Test.YtbipgmikgokfpaaDoorTreeL
namespace Go.Proofs.YtbipgmikgokfpaaDoor
open Go.RowKit Go.Joins
set_option linter.unusedVariables false

/-- where nodes lie: the row of them, and of each the rows of its names and kids -/
structure Lay where
  p : Option Addr
  cap : Nat
  pn : Nat → Option Addr
  cn : Nat → Nat
  pk : Nat → Option Addr
  ck : Nat → Nat
def StrsAt (w : World) (p : Option Addr) (ss : List ByteArray) : Prop := ∀ i (h : i < ss.length), ∃ b off, p = some ⟨b, off, none⟩ ∧ w.cell? ⟨b, off + i, none⟩ = some (.string ss[i])
def IntsAt (w : World) (p : Option Addr) (zs : List Int) : Prop := ∀ i (h : i < zs.length), ∃ b off, p = some ⟨b, off, none⟩ ∧ w.cell? ⟨b, off + i, none⟩ = some (.int .i64 zs[i])
theorem StrsAt.later {w w' : World} {p : Option Addr} {ss : List ByteArray} (h : StrsAt w p ss) (hb : Below w.heap.size w w') : StrsAt w' p ss := fun i hi => by
  obtain ⟨b, off, rfl, h0⟩ := h i hi
  exact ⟨b, off, rfl, cell_later hb h0⟩
theorem IntsAt.later {w w' : World} {p : Option Addr} {zs : List Int} (h : IntsAt w p zs) (hb : Below w.heap.size w w') : IntsAt w' p zs := fun i hi => by
  obtain ⟨b, off, rfl, h0⟩ := h i hi
  exact ⟨b, off, rfl, cell_later hb h0⟩
def NodesAt (w : World) (L : Lay) (ns : List TN) : Prop := ∀ i (h : i < ns.length), ∃ b off, L.p = some ⟨b, off, none⟩ ∧ w.cell? ⟨b, off + i * 5, none⟩ = some (.int .i64 ns[i].k) ∧ w.cell? ⟨b, off + i * 5 + 1, none⟩ = some (.int .i64 ns[i].n) ∧ w.cell? ⟨b, off + i * 5 + 2, none⟩ = some (.string ns[i].t) ∧ w.cell? ⟨b, off + i * 5 + 3, none⟩ = some (.slice (L.pn i) ns[i].names.length (L.cn i)) ∧ w.cell? ⟨b, off + i * 5 + 4, none⟩ = some (.slice (L.pk i) ns[i].kids.length (L.ck i)) ∧ StrsAt w (L.pn i) ns[i].names ∧ IntsAt w (L.pk i) ns[i].kids
theorem NodesAt.later {w w' : World} {L : Lay} {ns : List TN} (h : NodesAt w L ns) (hb : Below w.heap.size w w') : NodesAt w' L ns := fun i hi => by
  obtain ⟨b, off, hp, h0, h1, h2, h3, h4, h5, h6⟩ := h i hi
  exact ⟨b, off, hp, cell_later hb h0, cell_later hb h1, cell_later hb h2, cell_later hb h3, cell_later hb h4, h5.later hb, h6.later hb⟩
/-- sizes that a reading gives -/
def Wide (ns : List TN) : Prop := ns.length ≤ maxLen ∧ ∀ x ∈ ns, x.t.size ≤ maxLen ∧ x.names.length ≤ maxLen ∧ x.kids.length ≤ maxLen ∧ ∀ s ∈ x.names, s.size ≤ maxLen
/-- sizes that the law's own measure lets by -/
def SmallN (x : TN) : Prop := x.t.size ≤ 1048576 ∧ x.names.length ≤ 1048576 ∧ x.kids.length ≤ 1048576 ∧ ∀ s ∈ x.names, s.size ≤ 1048576
def Small (ns : List TN) : Prop := ns.length ≤ 1048576 ∧ ∀ x ∈ ns, SmallN x
/-- numbers that fit -/
def Fits (ns : List TN) : Prop := ∀ x ∈ ns, (-9223372036854775808 ≤ x.k ∧ x.k ≤ 9223372036854775807) ∧ (-9223372036854775808 ≤ x.n ∧ x.n ≤ 9223372036854775807) ∧ ∀ z ∈ x.kids, -9223372036854775808 ≤ z ∧ z ≤ 9223372036854775807

/-- all blocks stay but one -/
structure Keep (B : Nat) (w w' : World) : Prop where
  os : w'.os = w.os
  tape : w'.tape = w.tape
  output : w'.output = w.output
  size : w.heap.size ≤ w'.heap.size
  block : ∀ k, k < w.heap.size → k ≠ B → w'.heap[k]? = w.heap[k]?
theorem Keep.refl (B : Nat) (w : World) : Keep B w w := ⟨rfl, rfl, rfl, Nat.le_refl _, fun _ _ _ => rfl⟩
theorem Keep.trans {B : Nat} {a b c : World} (h : Keep B a b) (k : Keep B b c) : Keep B a c :=
  ⟨k.os.trans h.os, k.tape.trans h.tape, k.output.trans h.output, Nat.le_trans h.size k.size, fun i hi hB => (k.block i (by have := h.size; omega) hB).trans (h.block i hi hB)⟩
theorem Keep.of_below {B : Nat} {w w' : World} (h : Below w.heap.size w w') : Keep B w w' := ⟨h.os, h.tape, h.output, h.size, fun k hk _ => h.block k hk⟩
theorem Keep.then_below {B : Nat} {a b c : World} (h : Keep B a b) (k : Below b.heap.size b c) : Keep B a c := h.trans (.of_below k)
/-- what a call changes above a's size is nothing of a's -/
theorem Keep.then_above {B : Nat} {a b c : World} (h : Keep B a b) (k : Below a.heap.size b c) : Keep B a c :=
  ⟨k.os.trans h.os, k.tape.trans h.tape, k.output.trans h.output, Nat.le_trans h.size k.size, fun i hi hB => (k.block i hi).trans (h.block i hi hB)⟩
theorem Keep.below {B B0 : Nat} {w w' : World} (h : Keep B w w') (h0 : B0 ≤ B) (h1 : B0 ≤ w.heap.size) : Below B0 w w' := ⟨h.os, h.tape, h.output, h.size, fun k hk => h.block k (by omega) (by omega)⟩
theorem Keep.alloc {B : Nat} {a b : World} (h : Keep B a b) (o : Obj) : Keep B a (b.alloc o) := h.then_below (nx_alloc _ _)
theorem Keep.drew {B : Nat} {a b : World} (h : Keep B a b) : Keep B a b.drew := ⟨h.os, h.tape, h.output, h.size, h.block⟩
theorem Keep.set_new {B : Nat} {a b : World} {k o : Nat} {v : Value} (h : Keep B a b) (hk : a.heap.size ≤ k) : Keep B a (b.setCell ⟨k, o, none⟩ v) := h.then_above ((Below.refl a.heap.size b).setCell (p := ⟨k, o, none⟩) hk v)
theorem Keep.set_it {B : Nat} {a b : World} {o : Nat} {v : Value} (h : Keep B a b) : Keep B a (b.setCell ⟨B, o, none⟩ v) :=
  ⟨h.os, h.tape, h.output, by have := h.size; simpa using this, fun k hk hB => by rw [Below.heap_setCell b ⟨B, o, none⟩ v k hB]; exact h.block k hk hB⟩
theorem Keep.cell {B : Nat} {w w' : World} (h : Keep B w w') {b o : Nat} (hb : b < w.heap.size) (hB : b ≠ B) : w'.cell? ⟨b, o, none⟩ = w.cell? ⟨b, o, none⟩ := World.cell?_of_block (h.block b hb hB)

/-- pointers to branches, in a row whose block is among A -/
def PtrsIn (w : World) (A : Nat → Prop) (p : Option Addr) (ls : List Nat) : Prop := ∀ i (h : i < ls.length), ∃ b, p = some ⟨b, 0, none⟩ ∧ A b ∧ w.cell? ⟨b, i, none⟩ = some (.pointer (some ⟨ls[i], 0, none⟩))
/-- a branch that has grown: all that it has lies in blocks among A -/
def BrIn (w : World) (A : Nat → Prop) (L : Lay) (ns : List TN) (loc : Nat → Nat) (x : Nat) : Prop := ∃ n pb cb, ns[x]? = some n ∧ A (loc x) ∧ w.cell? ⟨loc x, 0, none⟩ = some (.int .i64 n.k) ∧ w.cell? ⟨loc x, 1, none⟩ = some (.int .i64 n.n) ∧ w.cell? ⟨loc x, 2, none⟩ = some (.string n.t) ∧ w.cell? ⟨loc x, 3, none⟩ = some (.slice (L.pn x) n.names.length (L.cn x)) ∧ w.cell? ⟨loc x, 4, none⟩ = some (.slice (L.pk x) n.kids.length (L.ck x)) ∧ w.cell? ⟨loc x, 5, none⟩ = some (.int .i64 (x : Int)) ∧ w.cell? ⟨loc x, 7, none⟩ = some (.slice pb n.kids.length cb) ∧ PtrsIn w A pb (n.kids.map fun j => loc j.toNat) ∧ ∀ j ∈ n.kids, A (loc j.toNat) ∧ loc x < loc j.toNat ∧ w.cell? ⟨loc j.toNat, 6, none⟩ = some (.pointer (some ⟨loc x, 0, none⟩))
theorem PtrsIn.keep {w w' : World} {A A' : Nat → Prop} {p : Option Addr} {ls : List Nat} (h : PtrsIn w A p ls) (hk : ∀ b, A b → w'.heap[b]? = w.heap[b]?) (hA : ∀ b, A b → A' b) : PtrsIn w' A' p ls := fun i hi => by
  obtain ⟨b, rfl, ha, hc⟩ := h i hi
  exact ⟨b, rfl, hA b ha, by rw [World.cell?_of_block (hk b ha)]; exact hc⟩
theorem BrIn.keep {w w' : World} {A A' : Nat → Prop} {L : Lay} {ns : List TN} {loc : Nat → Nat} {x : Nat} (h : BrIn w A L ns loc x) (hk : ∀ b, A b → w'.heap[b]? = w.heap[b]?) (hA : ∀ b, A b → A' b) : BrIn w' A' L ns loc x := by
  obtain ⟨n, pb, cb, hn, ha, c0, c1, c2, c3, c4, c5, c7, hp, hj⟩ := h
  have e : ∀ o, w'.cell? ⟨loc x, o, none⟩ = w.cell? ⟨loc x, o, none⟩ := fun o => World.cell?_of_block (hk _ ha)
  refine ⟨n, pb, cb, hn, hA _ ha, by rw [e]; exact c0, by rw [e]; exact c1, by rw [e]; exact c2, by rw [e]; exact c3, by rw [e]; exact c4, by rw [e]; exact c5, by rw [e]; exact c7, hp.keep hk hA, fun j hjm => ?_⟩
  obtain ⟨ja, jl, jc⟩ := hj j hjm
  exact ⟨hA _ ja, jl, by rw [World.cell?_of_block (hk _ ja)]; exact jc⟩
/-- another map of places that is the same where it counts -/
theorem BrIn.at {w : World} {A : Nat → Prop} {L : Lay} {ns : List TN} {loc loc' : Nat → Nat} {x : Nat} (h : BrIn w A L ns loc x) (hx : loc' x = loc x) (hk : ∀ n, ns[x]? = some n → ∀ j ∈ n.kids, loc' j.toNat = loc j.toNat) : BrIn w A L ns loc' x := by
  obtain ⟨n, pb, cb, hn, ha, c0, c1, c2, c3, c4, c5, c7, hp, hj⟩ := h
  have hk' := hk n hn
  rw [← hx] at ha c0 c1 c2 c3 c4 c5 c7
  refine ⟨n, pb, cb, hn, ha, c0, c1, c2, c3, c4, c5, c7, ?_, fun j hjm => ?_⟩
  · rw [show (n.kids.map fun j => loc' j.toNat) = n.kids.map fun j => loc j.toNat from List.map_congr_left hk']
    exact hp
  · rw [hk' j hjm, hx]
    exact hj j hjm

/-- the row of branches: those that are seen have one -/
def BrsAt (w : World) (B n : Nat) (S : List Nat) (loc : Nat → Nat) : Prop := ∃ cs : Array Value, w.heap[B]? = some (.cells cs 65 (0, 0)) ∧ cs.size = n ∧ ∀ i, i < n → (i ∈ S → cs[i]? = some (.pointer (some ⟨loc i, 0, none⟩))) ∧ (i ∉ S → cs[i]? = some (.pointer none))
theorem BrsAt.yes {w : World} {B n : Nat} {S : List Nat} {loc : Nat → Nat} (h : BrsAt w B n S loc) {i : Nat} (hi : i < n) (hs : i ∈ S) : w.cell? ⟨B, i, none⟩ = some (.pointer (some ⟨loc i, 0, none⟩)) := by
  obtain ⟨cs, h1, h2, h3⟩ := h
  rw [cell_of_block h1]; exact (h3 i hi).1 hs
theorem BrsAt.no {w : World} {B n : Nat} {S : List Nat} {loc : Nat → Nat} (h : BrsAt w B n S loc) {i : Nat} (hi : i < n) (hs : i ∉ S) : w.cell? ⟨B, i, none⟩ = some (.pointer none) := by
  obtain ⟨cs, h1, h2, h3⟩ := h
  rw [cell_of_block h1]; exact (h3 i hi).2 hs
theorem BrsAt.free {w : World} {B n : Nat} {S : List Nat} {loc : Nat → Nat} (h : BrsAt w B n S loc) (i : Nat) : w.frozen? ⟨B, i, none⟩ = false := by
  obtain ⟨cs, h1, h2, h3⟩ := h
  exact unfrozen_of_block h1 i
theorem BrsAt.same {w w' : World} {B n : Nat} {S : List Nat} {loc : Nat → Nat} (h : BrsAt w B n S loc) (hb : w'.heap[B]? = w.heap[B]?) : BrsAt w' B n S loc := by
  obtain ⟨cs, h1, h2⟩ := h
  exact ⟨cs, by rw [hb]; exact h1, h2⟩
theorem BrsAt.at {w : World} {B n : Nat} {S : List Nat} {loc loc' : Nat → Nat} (h : BrsAt w B n S loc) (hl : ∀ x ∈ S, loc' x = loc x) : BrsAt w B n S loc' := by
  obtain ⟨cs, h1, h2, h3⟩ := h
  exact ⟨cs, h1, h2, fun i hi => ⟨fun hs => by rw [hl i hs]; exact (h3 i hi).1 hs, (h3 i hi).2⟩⟩
theorem BrsAt.set {w : World} {B n : Nat} {S : List Nat} {loc : Nat → Nat} (h : BrsAt w B n S loc) {a g : Nat} (ha : a < n) (hs : a ∉ S) : BrsAt (w.setCell ⟨B, a, none⟩ (.pointer (some ⟨g, 0, none⟩))) B n (S ++ [a]) (fun y => if y = a then g else loc y) := by
  obtain ⟨cs, h1, h2, h3⟩ := h
  refine ⟨_, block_setCell h1 _, by simp [h2], fun i hi => ?_⟩
  by_cases e : i = a
  · subst e
    refine ⟨fun _ => ?_, fun hn => absurd (by simp) hn⟩
    simp [h2, ha]
  · rw [Array.getElem?_setIfInBounds_ne (by omega)]
    refine ⟨fun hm => ?_, fun hm => (h3 i hi).2 (fun h => hm (by simp [h]))⟩
    show _ = some (Value.pointer (some ⟨if i = a then g else loc i, 0, none⟩))
    rw [if_neg e]
    exact (h3 i hi).1 (by simpa [e] using hm)

end Go.Proofs.YtbipgmikgokfpaaDoor
