/- How the specification goes over a tree: what it keeps, in memory. -/
import Derived.Test.YtbipgmikgokfpaaDoorSNode
import Derived.Test.YtbipgmikgokfpaaDoorSKids
import Derived.Test.YtbipgmikgokfpaaDoorTreeL
import Derived.Deep.CutRange
namespace Go.Proofs.YtbipgmikgokfpaaDoor
open Go.RowKit Go.Joins
set_option linter.unusedVariables false

/-- three new blocks -/
theorem three_heap (w : World) (a b c : Obj) : (((w.alloc a).alloc b).alloc c).drew.heap[w.heap.size]? = some a ∧ (((w.alloc a).alloc b).alloc c).drew.heap[w.heap.size + 1]? = some b ∧ (((w.alloc a).alloc b).alloc c).drew.heap[w.heap.size + 2]? = some c ∧ (((w.alloc a).alloc b).alloc c).drew.heap.size = w.heap.size + 3 := by
  have s1 : (w.alloc a).heap.size = w.heap.size + 1 := by simp
  have s2 : ((w.alloc a).alloc b).heap.size = w.heap.size + 2 := by simp
  have e1 := heap_alloc_new w a
  have e2 := heap_alloc_new (w.alloc a) b
  have e3 := heap_alloc_new ((w.alloc a).alloc b) c
  rw [s1] at e2
  rw [s2] at e3
  refine ⟨?_, ?_, e3, by simp [World.drew]⟩
  · show (((w.alloc a).alloc b).alloc c).heap[w.heap.size]? = _
    rw [Below.heap_alloc _ _ _ (by omega), Below.heap_alloc _ _ _ (by omega)]; exact e1
  · show (((w.alloc a).alloc b).alloc c).heap[w.heap.size + 1]? = _
    rw [Below.heap_alloc _ _ _ (by omega)]; exact e2
/-- all blocks stay but two -/
structure Kept (A B : Nat) (w w' : World) : Prop where
  os : w'.os = w.os
  tape : w'.tape = w.tape
  output : w'.output = w.output
  size : w.heap.size ≤ w'.heap.size
  block : ∀ k, k < w.heap.size → k ≠ A → k ≠ B → w'.heap[k]? = w.heap[k]?
theorem Kept.refl (A B : Nat) (w : World) : Kept A B w w := ⟨rfl, rfl, rfl, Nat.le_refl _, fun _ _ _ _ => rfl⟩
theorem Kept.trans {A B : Nat} {a b c : World} (h : Kept A B a b) (k : Kept A B b c) : Kept A B a c :=
  ⟨k.os.trans h.os, k.tape.trans h.tape, k.output.trans h.output, Nat.le_trans h.size k.size, fun i hi hA hB => (k.block i (by have := h.size; omega) hA hB).trans (h.block i hi hA hB)⟩
theorem Kept.of_below {A B : Nat} {w w' : World} (h : Below w.heap.size w w') : Kept A B w w' := ⟨h.os, h.tape, h.output, h.size, fun k hk _ _ => h.block k hk⟩
theorem Kept.then_below {A B : Nat} {a b c : World} (h : Kept A B a b) (k : Below b.heap.size b c) : Kept A B a c := h.trans (.of_below k)
theorem Kept.alloc {A B : Nat} {a b : World} (h : Kept A B a b) (o : Obj) : Kept A B a (b.alloc o) := h.then_below (nx_alloc _ _)
theorem Kept.below {A B B0 : Nat} {w w' : World} (h : Kept A B w w') (hA : B0 ≤ A) (hB : B0 ≤ B) (h1 : B0 ≤ w.heap.size) : Below B0 w w' := ⟨h.os, h.tape, h.output, h.size, fun k hk => h.block k (by omega) (by omega) (by omega)⟩
theorem Kept.set {A B : Nat} {a b : World} {k o : Nat} {v : Value} (h : Kept A B a b) (hk : k = A ∨ k = B ∨ a.heap.size ≤ k) : Kept A B a (b.setCell ⟨k, o, none⟩ v) :=
  ⟨h.os, h.tape, h.output, by have := h.size; simpa using this, fun i hi hA hB => by rw [Below.heap_setCell b ⟨k, o, none⟩ v i (by show i ≠ k; omega)]; exact h.block i hi hA hB⟩
theorem Kept.cell {A B : Nat} {w w' : World} (h : Kept A B w w') {b o : Nat} (hb : b < w.heap.size) (hA : b ≠ A) (hB : b ≠ B) : w'.cell? ⟨b, o, none⟩ = w.cell? ⟨b, o, none⟩ := World.cell?_of_block (h.block b hb hA hB)

/-- what it keeps beside what is seen -/
def LookAt (w : World) (X B : Nat) (L : Lay) (n : Nat) (root : Int) (ok : Bool) (dp : Nat) : Prop := w.heap[X]? = some (.cells #[.slice L.p n L.cap, .int .i64 root, .slice (some ⟨B, 0, none⟩) n n, .bool ok, .int .i64 (dp : Int)] 123 (0, 0))
theorem LookAt.cells {w : World} {X B : Nat} {L : Lay} {n : Nat} {root : Int} {ok : Bool} {dp : Nat} (h : LookAt w X B L n root ok dp) : w.cell? ⟨X, 0, none⟩ = some (.slice L.p n L.cap) ∧ w.cell? ⟨X, 1, none⟩ = some (.int .i64 root) ∧ w.cell? ⟨X, 2, none⟩ = some (.slice (some ⟨B, 0, none⟩) n n) ∧ w.cell? ⟨X, 3, none⟩ = some (.bool ok) ∧ w.cell? ⟨X, 4, none⟩ = some (.int .i64 (dp : Int)) := by
  refine ⟨?_, ?_, ?_, ?_, ?_⟩ <;> (rw [cell_of_block h]; rfl)
theorem LookAt.free {w : World} {X B : Nat} {L : Lay} {n : Nat} {root : Int} {ok : Bool} {dp : Nat} (h : LookAt w X B L n root ok dp) (i : Nat) : w.frozen? ⟨X, i, none⟩ = false := unfrozen_of_block h i
theorem LookAt.same {w w' : World} {X B : Nat} {L : Lay} {n : Nat} {root : Int} {ok : Bool} {dp : Nat} (h : LookAt w X B L n root ok dp) (hb : w'.heap[X]? = w.heap[X]?) : LookAt w' X B L n root ok dp := hb.trans h
theorem LookAt.lt {w : World} {X B : Nat} {L : Lay} {n : Nat} {root : Int} {ok : Bool} {dp : Nat} (h : LookAt w X B L n root ok dp) : X < w.heap.size := (Array.getElem?_eq_some_iff.1 h).1
theorem LookAt.later {w w' : World} {X B : Nat} {L : Lay} {n : Nat} {root : Int} {ok : Bool} {dp : Nat} (h : LookAt w X B L n root ok dp) (hb : Below w.heap.size w w') : LookAt w' X B L n root ok dp := h.same (hb.block X h.lt)
theorem LookAt.setOk {w : World} {X B : Nat} {L : Lay} {n : Nat} {root : Int} {ok : Bool} {dp : Nat} (h : LookAt w X B L n root ok dp) (b : Bool) : LookAt (w.setCell ⟨X, 3, none⟩ (.bool b)) X B L n root b dp := by
  have := block_setCell (i := 3) h (.bool b)
  exact this
theorem LookAt.setDeep {w : World} {X B : Nat} {L : Lay} {n : Nat} {root : Int} {ok : Bool} {dp : Nat} (h : LookAt w X B L n root ok dp) (d : Nat) : LookAt (w.setCell ⟨X, 4, none⟩ (.int .i64 (d : Int))) X B L n root ok d := by
  have := block_setCell (i := 4) h (.int .i64 (d : Int))
  exact this
theorem LookAt.poke {w : World} {X B b o : Nat} {v : Value} {L : Lay} {n : Nat} {root : Int} {ok : Bool} {dp : Nat} (h : LookAt w X B L n root ok dp) (hb : X ≠ b) : LookAt (w.setCell ⟨b, o, none⟩ v) X B L n root ok dp := h.same (Below.heap_setCell w ⟨b, o, none⟩ v X hb)

/-- what is seen -/
def SeenAt (w : World) (B n : Nat) (S : List Nat) : Prop := ∃ cs : Array Value, w.heap[B]? = some (.cells cs 4 (0, 0)) ∧ cs.size = n ∧ ∀ i, i < n → (i ∈ S → cs[i]? = some (.bool true)) ∧ (i ∉ S → cs[i]? = some (.bool false))
theorem SeenAt.yes {w : World} {B n : Nat} {S : List Nat} (h : SeenAt w B n S) {i : Nat} (hi : i < n) (hs : i ∈ S) : w.cell? ⟨B, i, none⟩ = some (.bool true) := by
  obtain ⟨cs, h1, h2, h3⟩ := h
  rw [cell_of_block h1]; exact (h3 i hi).1 hs
theorem SeenAt.no {w : World} {B n : Nat} {S : List Nat} (h : SeenAt w B n S) {i : Nat} (hi : i < n) (hs : i ∉ S) : w.cell? ⟨B, i, none⟩ = some (.bool false) := by
  obtain ⟨cs, h1, h2, h3⟩ := h
  rw [cell_of_block h1]; exact (h3 i hi).2 hs
theorem SeenAt.free {w : World} {B n : Nat} {S : List Nat} (h : SeenAt w B n S) (i : Nat) : w.frozen? ⟨B, i, none⟩ = false := by
  obtain ⟨cs, h1, h2, h3⟩ := h
  exact unfrozen_of_block h1 i
theorem SeenAt.same {w w' : World} {B n : Nat} {S : List Nat} (h : SeenAt w B n S) (hb : w'.heap[B]? = w.heap[B]?) : SeenAt w' B n S := by
  obtain ⟨cs, h1, h2⟩ := h
  exact ⟨cs, by rw [hb]; exact h1, h2⟩
theorem SeenAt.lt {w : World} {B n : Nat} {S : List Nat} (h : SeenAt w B n S) : B < w.heap.size := by
  obtain ⟨cs, h1, h2⟩ := h
  exact (Array.getElem?_eq_some_iff.1 h1).1
theorem SeenAt.later {w w' : World} {B n : Nat} {S : List Nat} (h : SeenAt w B n S) (hb : Below w.heap.size w w') : SeenAt w' B n S := h.same (hb.block B h.lt)
theorem SeenAt.poke {w : World} {B b o n : Nat} {v : Value} {S : List Nat} (h : SeenAt w B n S) (hb : B ≠ b) : SeenAt (w.setCell ⟨b, o, none⟩ v) B n S := h.same (Below.heap_setCell w ⟨b, o, none⟩ v B hb)
theorem SeenAt.set {w : World} {B n : Nat} {S : List Nat} (h : SeenAt w B n S) {a : Nat} (ha : a < n) : SeenAt (w.setCell ⟨B, a, none⟩ (.bool true)) B n (S ++ [a]) := by
  obtain ⟨cs, h1, h2, h3⟩ := h
  refine ⟨_, block_setCell h1 _, by simp [h2], fun i hi => ?_⟩
  by_cases e : i = a
  · subst e
    refine ⟨fun _ => ?_, fun hn => absurd (by simp) hn⟩
    simp [h2, ha]
  · rw [Array.getElem?_setIfInBounds_ne (by omega)]
    exact ⟨fun hm => (h3 i hi).1 (by simpa [e] using hm), fun hm => (h3 i hi).2 (fun h => hm (by simp [h]))⟩

/-- what a visit leaves: all that is met from k on, or a word that it is not right -/
def WalkPost (ns : List TN) (root : Int) (L : Lay) (X B : Nat) (S : List Nat) (k sort : Int) (deep dp : Nat) (w w' : World) : Prop :=
  Kept X B w w' ∧
  ((∃ l d m, OkW ns (GoodT ns root) [k] S l d ∧ ns[k.toNat]? = some m ∧ rightB sort m.k = true ∧ LookAt w' X B L ns.length root true (max dp (deep - 1 + d)) ∧ SeenAt w' B ns.length (S ++ l)) ∨
   ((¬ ∃ m, OkF ns (GoodT ns root) [k] S ∧ ns[k.toNat]? = some m ∧ rightB sort m.k = true) ∧ ∃ dp', LookAt w' X B L ns.length root false dp'))

theorem sort_top (k : Int) (i : Nat) : sortAt k true i = if sortAt k false i = 3 then 4 else sortAt k false i := by
  unfold sortAt
  by_cases h : k = 18
  · simp [h]
  · rw [if_neg h, if_neg h]
    by_cases h1 : k = 17 ∨ k = 20
    · rw [if_pos h1]; simp
    · rw [if_neg h1]
      by_cases h2 : (k = 13 ∨ k = 14) ∧ 0 < i
      · rw [if_pos h2]; simp
      · rw [if_neg h2]; simp
theorem sort_range (k : Int) (top : Bool) (i : Nat) : sortAt k top i = 1 ∨ sortAt k top i = 2 ∨ sortAt k top i = 3 ∨ sortAt k top i = 4 := by
  unfold sortAt
  split
  · split <;> simp
  · split
    · simp
    · split <;> simp

theorem IntBuf.kept {A B base : Nat} {w w' : World} {v : Value} {zs : List Int} (h : IntBuf w base v zs) (hk : Kept A B w w') (hA : A < base) (hB : B < base) : IntBuf w' base v zs := by
  have hlt := h.own_lt
  refine ⟨h.1, ?_⟩
  rcases h.2 with h | ⟨g, cap, cur, e, hg, hgg, r⟩
  · exact .inl h
  · refine .inr ⟨g, cap, cur, e, hg, ?_, r⟩
    obtain ⟨h1, h2⟩ := hlt g (by rw [e]; rfl)
    rw [hk.block g h2 (by omega) (by omega)]; exact hgg
/-- the first m kids are of kinds that may stand there -/
def TakesUp (ns : List TN) (root : Int) (a : Nat) (x : TN) (m : Nat) : Prop := ∀ i j, i < m → x.kids[i]? = some j → ∃ q, 0 ≤ j ∧ ns[j.toNat]? = some q ∧ takesB x.k (decide ((a : Int) = root)) i q.k = true
/-- all kids can be met, and may stand there -/
def KidsOk (ns : List TN) (root : Int) (S : List Nat) (a : Nat) (x : TN) : Prop := OkF ns (GoodT ns root) x.kids (S ++ [a]) ∧ TakesUp ns root a x x.kids.length
theorem KidsOk.of {ns : List TN} {root : Int} {S : List Nat} {a : Nat} {x : TN} (hx : ns[a]? = some x) (h : OkF ns (GoodT ns root) [(a : Int)] S) : nodeB x = true ∧ KidsOk ns root S a x := by
  obtain ⟨l, d, h⟩ := h
  obtain ⟨x', l1, d1, h0, hx', hs, hg, hk, rfl, rfl⟩ := h.one_inv
  rw [Int.toNat_natCast, hx] at hx'
  obtain rfl := Option.some.inj hx'
  rw [Int.toNat_natCast] at hk hg
  obtain ⟨n, hn, hb, ht⟩ := hg
  rw [hx] at hn
  obtain rfl := Option.some.inj hn
  exact ⟨hb, ⟨l1, d1, hk⟩, fun i j hi hj => by
    obtain ⟨q, q0, q1, q2⟩ := ht i j hj
    exact ⟨q, q0, q1, q2⟩⟩
theorem okW_node {ns : List TN} {root : Int} {S : List Nat} {a : Nat} {x : TN} {l : List Nat} {d : Nat} (hx : ns[a]? = some x) (hs : a ∉ S) (hb : nodeB x = true) (ht : TakesUp ns root a x x.kids.length) (hk : OkW ns (GoodT ns root) x.kids (S ++ [a]) l d) : OkW ns (GoodT ns root) [(a : Int)] S (a :: l) (d + 1) := by
  have hg : GoodT ns root a := ⟨x, hx, hb, fun i j hj => by
    obtain ⟨q, q0, q1, q2⟩ := ht i j (List.getElem?_eq_some_iff.1 hj).1 hj
    exact ⟨q, q0, q1, q2⟩⟩
  have := OkW.one (ns := ns) (G := GoodT ns root) (j := (a : Int)) (S := S) (l1 := l) (d1 := d) (x := x) (by omega) (by rw [Int.toNat_natCast]; exact hx) (by rw [Int.toNat_natCast]; exact hs) (by rw [Int.toNat_natCast]; exact hg) (by rw [Int.toNat_natCast]; exact hk)
  rw [Int.toNat_natCast] at this
  exact this
theorem TakesUp.next {ns : List TN} {root : Int} {a : Nat} {x : TN} {m : Nat} {j : Int} {q : TN} (h : TakesUp ns root a x m) (hj : x.kids[m]? = some j) (h0 : 0 ≤ j) (hq : ns[j.toNat]? = some q) (ht : takesB x.k (decide ((a : Int) = root)) m q.k = true) : TakesUp ns root a x (m + 1) := fun i j' hi hj' => by
  by_cases e : i = m
  · subst e
    rw [hj] at hj'
    obtain rfl := Option.some.inj hj'
    exact ⟨q, h0, hq, ht⟩
  · exact h i j' (by omega) hj'
theorem okF_nonneg {ns : List TN} {G : Nat → Prop} {j : Int} {S l : List Nat} {d : Nat} (h : OkW ns G [j] S l d) : 0 ≤ j := by
  obtain ⟨x', l1, d1, h0, _⟩ := h.one_inv
  exact h0

/-- what stands behind m kids -/
def KidsAt (ns : List TN) (root : Int) (L : Lay) (X B : Nat) (S : List Nat) (a : Nat) (x : TN) (deep dm m : Nat) (w wx : World) : Prop :=
  Kept X B w wx ∧
  ((∃ l d, OkW ns (GoodT ns root) (x.kids.take m) (S ++ [a]) l d ∧ TakesUp ns root a x m ∧ LookAt wx X B L ns.length root true (max dm (deep + d)) ∧ SeenAt wx B ns.length (S ++ [a] ++ l)) ∨
   (¬ KidsOk ns root S a x ∧ ∃ dp', LookAt wx X B L ns.length root false dp'))
theorem KidsAt.zero {ns : List TN} {root : Int} {L : Lay} {X B : Nat} {S : List Nat} {a : Nat} {x : TN} {deep dm : Nat} {w : World} (hd : deep ≤ dm) (hL : LookAt w X B L ns.length root true dm) (hS : SeenAt w B ns.length (S ++ [a])) : KidsAt ns root L X B S a x deep dm 0 w w := by
  refine ⟨Kept.refl _ _ _, .inl ⟨[], 0, by simpa using OkW.nil, fun i j hi => absurd hi (by omega), ?_, by simpa using hS⟩⟩
  rw [show max dm (deep + 0) = dm by omega]
  exact hL
/-- a kid more -/
theorem KidsAt.next {ns : List TN} {root : Int} {L : Lay} {X B : Nat} {S : List Nat} {a : Nat} {x : TN} {deep dm m : Nat} {w wx wy : World} {l : List Nat} {d : Nat} {j : Int} (hk : Kept X B w wx) (hO : OkW ns (GoodT ns root) (x.kids.take m) (S ++ [a]) l d) (hT : TakesUp ns root a x m) (hj : x.kids[m]? = some j)
    (hP : WalkPost ns root L X B (S ++ [a] ++ l) j (sortAt x.k (decide ((a : Int) = root)) m) (deep + 1) (max dm (deep + d)) wx wy) : KidsAt ns root L X B S a x deep dm (m + 1) w wy := by
  refine ⟨hk.trans hP.1, ?_⟩
  rcases hP.2 with ⟨l', d', q, o, hq, hr, hL, hS⟩ | ⟨hno, hL⟩
  · refine .inl ⟨l ++ l', max d d', okW_take hO hj o, hT.next hj (okF_nonneg o) hq (by rw [right_takes] at hr; exact hr), ?_, ?_⟩
    · rw [show max dm (deep + max d d') = max (max dm (deep + d)) (deep + 1 - 1 + d') by omega]
      exact hL
    · rw [← List.append_assoc]; exact hS
  · refine .inr ⟨fun hk => ?_, hL⟩
    obtain ⟨hm, _⟩ := List.getElem?_eq_some_iff.1 hj
    obtain ⟨q, _, hq, ht⟩ := hk.2 m j hm hj
    refine hno ⟨q, ?_, hq, by rw [right_takes]; exact ht⟩
    refine Classical.byContradiction fun hf => ?_
    exact okF_fail hO hj hf hk.1
theorem KidsAt.off {ns : List TN} {root : Int} {L : Lay} {X B : Nat} {S : List Nat} {a : Nat} {x : TN} {deep dm m m' : Nat} {w wx wy : World} (hk : Kept X B w wx) (hn : ¬ KidsOk ns root S a x) (hy : Kept X B wx wy) (hL : ∃ dp', LookAt wy X B L ns.length root false dp') : KidsAt ns root L X B S a x deep dm m' w wy := ⟨hk.trans hy, .inr ⟨hn, hL⟩⟩
/-- all kids are met -/
theorem KidsAt.done {ns : List TN} {root : Int} {L : Lay} {X B : Nat} {S : List Nat} {a : Nat} {x : TN} {sort : Int} {deep dp m : Nat} {w w1 wx : World} (hx : ns[a]? = some x) (hs : a ∉ S) (hb : nodeB x = true) (hr : rightB sort x.k = true) (hd : 1 ≤ deep) (hm : m = x.kids.length) (hk : Kept X B w w1) (h : KidsAt ns root L X B S a x deep (max dp deep) m w1 wx) : WalkPost ns root L X B S a sort deep dp w wx := by
  subst hm
  refine ⟨hk.trans h.1, ?_⟩
  rcases h.2 with ⟨l, d, o, ht, hL, hS⟩ | ⟨hno, hL⟩
  · rw [List.take_length] at o
    refine .inl ⟨a :: l, d + 1, x, okW_node hx hs hb ht o, by rw [Int.toNat_natCast]; exact hx, hr, ?_, ?_⟩
    · rw [show max dp (deep - 1 + (d + 1)) = max (max dp deep) (deep + d) by omega]
      exact hL
    · rw [List.append_assoc] at hS; exact hS
  · refine .inr ⟨fun ⟨q, hf, _⟩ => hno (KidsOk.of hx hf).2, hL⟩
theorem walk_fail_right {ns : List TN} {root : Int} {L : Lay} {X B : Nat} {S : List Nat} {a : Nat} {x : TN} {sort : Int} {deep dp dq : Nat} {w w' : World} (hx : ns[a]? = some x) (hr : rightB sort x.k = false) (hk : Kept X B w w') (hL : LookAt w' X B L ns.length root false dq) : WalkPost ns root L X B S a sort deep dp w w' := by
  refine ⟨hk, .inr ⟨?_, dq, hL⟩⟩
  rintro ⟨q, _, hq, hr'⟩
  rw [Int.toNat_natCast, hx] at hq
  obtain rfl := Option.some.inj hq
  rw [hr] at hr'
  cases hr'
theorem walk_fail_node {ns : List TN} {root : Int} {L : Lay} {X B : Nat} {S : List Nat} {a : Nat} {x : TN} {sort : Int} {deep dp dq : Nat} {w w' : World} (hx : ns[a]? = some x) (hb : nodeB x = false) (hk : Kept X B w w') (hL : LookAt w' X B L ns.length root false dq) : WalkPost ns root L X B S a sort deep dp w w' := by
  refine ⟨hk, .inr ⟨?_, dq, hL⟩⟩
  rintro ⟨q, hf, _⟩
  have := (KidsOk.of hx hf).1
  rw [hb] at this
  cases this
theorem walk_fail_out {ns : List TN} {root : Int} {L : Lay} {X B : Nat} {S : List Nat} {k : Int} {sort : Int} {deep dp dq : Nat} {w w' : World} (hf : ¬ OkF ns (GoodT ns root) [k] S) (hk : Kept X B w w') (hL : LookAt w' X B L ns.length root false dq) : WalkPost ns root L X B S k sort deep dp w w' :=
  ⟨hk, .inr ⟨fun ⟨q, h, _⟩ => hf h, ⟨dq, hL⟩⟩⟩

theorem walk_off (X B : Nat) (L : Lay) (n : Nat) (root k sort deep : Int) (dp : Nat) (w : World) (h : LookAt w X B L n root false dp) :
    Calls Tryd.prog 89 #[.pointer (some ⟨X, 0, none⟩), .int .i64 k, .int .i64 sort, .int .i64 deep] w fun e w' => e = .returned (.tuple #[]) ∧ w' = w.setCell ⟨X, 3, none⟩ (.bool false) := by
  obtain ⟨c0, c1, c2, c3, c4⟩ := h.cells
  have f3 := h.free 3
  clear h
  go_enter Tryd.func89, Tryd.ntmps89
  go_wp2
  (try simp only [Exit.inBlock, Exit.then])
  refine bodyPost_ret (results_none rfl _ _ _) rfl ?_
  exact ⟨rfl, rfl⟩

set_option maxHeartbeats 1000000 in
set_option maxRecDepth 100000 in
theorem walk_out (X B : Nat) (L : Lay) (n : Nat) (root k sort deep : Int) (dp : Nat) (w : World) (h : LookAt w X B L n root true dp) (hn : n ≤ 200) (hk : ¬ (0 ≤ k ∧ k < n)) :
    Calls Tryd.prog 89 #[.pointer (some ⟨X, 0, none⟩), .int .i64 k, .int .i64 sort, .int .i64 deep] w fun e w' => e = .returned (.tuple #[]) ∧ w' = w.setCell ⟨X, 3, none⟩ (.bool false) := by
  obtain ⟨c0, c1, c2, c3, c4⟩ := h.cells
  have f3 := h.free 3
  have hin : (decide (0 ≤ k) && decide (k ≤ (n : Int) - 1)) = false := by simp; omega
  clear h hk
  go_enter Tryd.func89, Tryd.ntmps89
  go_wp2_with fail
  refine (l01In_is k 0 ((n : Int) - 1) false _ hin).mono ?_
  rintro e w' ⟨rfl, rfl⟩
  go_wp2
  (try simp only [Exit.inBlock, Exit.then])
  refine bodyPost_ret (results_none rfl _ _ _) rfl ?_
  exact ⟨rfl, rfl⟩

set_option maxHeartbeats 1000000 in
set_option maxRecDepth 100000 in
theorem walk_seen (X B : Nat) (L : Lay) (n a : Nat) (root sort deep : Int) (dp : Nat) (w : World) (h : LookAt w X B L n root true dp) (hn : n ≤ 200) (ha : a < n) (hs : w.cell? ⟨B, a, none⟩ = some (.bool true)) :
    Calls Tryd.prog 89 #[.pointer (some ⟨X, 0, none⟩), .int .i64 (a : Int), .int .i64 sort, .int .i64 deep] w fun e w' => e = .returned (.tuple #[]) ∧ w' = w.setCell ⟨X, 3, none⟩ (.bool false) := by
  obtain ⟨c0, c1, c2, c3, c4⟩ := h.cells
  have f3 := h.free 3
  have hin : (decide (0 ≤ (a : Int)) && decide ((a : Int) ≤ (n : Int) - 1)) = true := by simp; omega
  clear h
  go_enter Tryd.func89, Tryd.ntmps89
  go_wp2_with fail
  refine (l01In_is a 0 ((n : Int) - 1) true _ hin).mono ?_
  rintro e w' ⟨rfl, rfl⟩
  go_wp2
  (try simp only [Exit.inBlock, Exit.then])
  refine bodyPost_ret (results_none rfl _ _ _) rfl ?_
  exact ⟨rfl, rfl⟩

set_option maxHeartbeats 1000000 in
set_option maxRecDepth 100000 in
theorem walk_deep (X B : Nat) (L : Lay) (n a : Nat) (root sort deep : Int) (dp : Nat) (w : World) (h : LookAt w X B L n root true dp) (hn : n ≤ 200) (ha : a < n) (hs : w.cell? ⟨B, a, none⟩ = some (.bool false)) (hd : 200 < deep) :
    Calls Tryd.prog 89 #[.pointer (some ⟨X, 0, none⟩), .int .i64 (a : Int), .int .i64 sort, .int .i64 deep] w fun e w' => e = .returned (.tuple #[]) ∧ w' = w.setCell ⟨X, 3, none⟩ (.bool false) := by
  obtain ⟨c0, c1, c2, c3, c4⟩ := h.cells
  have f3 := h.free 3
  have hin : (decide (0 ≤ (a : Int)) && decide ((a : Int) ≤ (n : Int) - 1)) = true := by simp; omega
  clear h
  go_enter Tryd.func89, Tryd.ntmps89
  go_wp2_with fail
  refine (l01In_is a 0 ((n : Int) - 1) true _ hin).mono ?_
  rintro e w' ⟨rfl, rfl⟩
  go_wp2
  (try simp only [Exit.inBlock, Exit.then])
  refine bodyPost_ret (results_none rfl _ _ _) rfl ?_
  exact ⟨rfl, rfl⟩

end Go.Proofs.YtbipgmikgokfpaaDoor
