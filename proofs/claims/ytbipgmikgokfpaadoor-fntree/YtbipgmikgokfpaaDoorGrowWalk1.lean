/- Branches that grow: parts that are right, and a list of pointers that grows. -/
import Derived.Test.YtbipgmikgokfpaaDoorTreeMem
import Derived.Test.YtbipgmikgokfpaaDoorNodeWalk1
import Derived.Test.YtbipgmikgokfpaaDoorNodeWalk3
import Derived.Test.YtbipgmikgokfpaaDoorNodeWalk4
import Derived.Test.YtbipgmikgokfpaaDoorNodeWalk6
import Derived.Test.YtbipgmikgokfpaaDoorSNode
import Derived.Test.YtbipgmikgokfpaaDoorSLook
namespace Go.Proofs.YtbipgmikgokfpaaDoor
open Go.RowKit Go.Joins
set_option linter.unusedVariables false

theorem partsOK_any (b : Nat) (x : TN) (pn : Option Addr) (cn : Nat) (w : World) (hc : countB x.k x.kids.length = true) (h0 : w.cell? ⟨b, 0, none⟩ = some (.int .i64 x.k)) (h1 : w.cell? ⟨b, 1, none⟩ = some (.int .i64 x.n)) (h2 : w.cell? ⟨b, 2, none⟩ = some (.string x.t)) (h3 : w.cell? ⟨b, 3, none⟩ = some (.slice pn x.names.length cn)) (hs : x.t.size ≤ maxLen) (hr : StrsAt w pn x.names) (hl : x.names.length ≤ 1048576) (hsz : ∀ s ∈ x.names, s.size ≤ 1048576) (ht : Hid (TabAt w 0 srcWords)) :
    Calls Tryd.prog 123 #[.pointer (some ⟨b, 0, none⟩)] w fun e w' => e = .returned (.bool (partsB x)) ∧ w' = w := by
  have hk : 1 ≤ x.k ∧ x.k ≤ 20 := by
    unfold countB at hc
    by_cases hh : 1 ≤ x.k ∧ x.k ≤ 20
    · exact hh
    · rw [if_neg (by omega), if_neg (by omega), if_neg (by omega), if_neg (by omega)] at hc
      simp at hc
      omega
  by_cases hnn : x.k ≠ 20 ∧ 0 < x.names.length
  · have hp : partsB x = false := by
      by_cases h1 : x.k = 1
      · rw [parts_1 h1, decide_eq_false (p := x.names.length = 0) (by omega)]; simp
      by_cases h3 : x.k = 3
      · rw [parts_3 h3, decide_eq_false (p := x.names.length = 0) (by omega)]; simp
      exact parts_bad h1 h3 (.inr hnn)
    rw [hp]
    exact partsOK_names b x.k x.n x.t pn x.names.length cn w h0 h1 h2 h3 (by omega) hnn.2
  by_cases hk1 : x.k = 1
  · have hn : x.names.length = 0 := by omega
    rw [parts_1 hk1, decide_eq_true (p := x.names.length = 0) hn]
    by_cases ht : x.t.toList = []
    · rw [decide_eq_true (p := x.t.size = 0) ((sz0 _).1 ht)]
      by_cases ha : 0 ≤ x.n
      · by_cases hb : x.n ≤ 2147483647
        · rw [decide_eq_true ha, decide_eq_true hb]
          exact partsOK_int_ok b x.k x.n x.t pn x.names.length cn w h0 h1 h2 h3 hk1 hn ht ha hb
        · rw [decide_eq_true ha, decide_eq_false hb]
          exact partsOK_int_high b x.k x.n x.t pn x.names.length cn w h0 h1 h2 h3 hk1 hn ht ha hb
      · rw [decide_eq_false ha]
        exact partsOK_int_low b x.k x.n x.t pn x.names.length cn w h0 h1 h2 h3 hk1 hn ht ha
    · rw [decide_eq_false (p := x.t.size = 0) (fun h => ht ((sz0 _).2 h)), Bool.and_false, Bool.false_and]
      exact partsOK_int_text b x.k x.n x.t pn x.names.length cn w h0 h1 h2 h3 hk1 hn ht
  by_cases hk3 : x.k = 3
  · have hn : x.names.length = 0 := by omega
    rw [parts_3 hk3, decide_eq_true (p := x.names.length = 0) hn]
    by_cases ht : x.t.toList = []
    · rw [decide_eq_true (p := x.t.size = 0) ((sz0 _).1 ht)]
      by_cases ha : x.n = 0
      · rw [show (decide (0 ≤ x.n) && decide (x.n ≤ 1) && true && true) = true by rw [ha]; rfl]
        exact partsOK_bool_0 b x.k x.n x.t pn x.names.length cn w h0 h1 h2 h3 hk3 hn ht ha
      · by_cases hb : x.n = 1
        · rw [show (decide (0 ≤ x.n) && decide (x.n ≤ 1) && true && true) = true by rw [hb]; rfl]
          exact partsOK_bool_1 b x.k x.n x.t pn x.names.length cn w h0 h1 h2 h3 hk3 hn ht hb
        · rw [show (decide (0 ≤ x.n) && decide (x.n ≤ 1) && true && true) = false by simp; omega]
          exact partsOK_bool_no b x.k x.n x.t pn x.names.length cn w h0 h1 h2 h3 hk3 hn ht ha hb
    · rw [decide_eq_false (p := x.t.size = 0) (fun h => ht ((sz0 _).2 h)), Bool.and_false, Bool.false_and]
      exact partsOK_bool_text b x.k x.n x.t pn x.names.length cn w h0 h1 h2 h3 hk3 hn ht
  by_cases hz : x.n = 0
  · by_cases h20 : x.k = 20
    · rw [parts_named (by omega) hz (.inl h20)]
      exact partsOK_func b x.k x.n x.t pn x.names cn w h0 h1 h2 h3 h20 hz hs hr hl hsz ht
    · have hn : x.names.length = 0 := by omega
      by_cases hnm : x.k = 5 ∨ x.k = 10 ∨ x.k = 11 ∨ x.k = 12 ∨ x.k = 17
      · rw [parts_named (by omega) hz (.inr hn), List.length_eq_zero_iff.1 hn]
        exact partsOK_named b x.k x.n x.t pn cn w h0 h1 h2 (by rw [hn] at h3; exact h3) hnm hz hs ht
      by_cases hq2 : x.k = 2
      · rw [parts_2 hq2 hz hn]
        exact partsOK_quoted b x.k x.n x.t pn x.names.length cn w h0 h1 h2 h3 hq2 hn hz hs
      by_cases hq6 : x.k = 6
      · rw [parts_6 hq6 hz hn]
        exact partsOK_unary b x.k x.n x.t pn x.names.length cn w h0 h1 h2 h3 hq6 hn hz
      by_cases hq7 : x.k = 7
      · rw [parts_7 hq7 hz hn]
        exact partsOK_binary b x.k x.n x.t pn x.names.length cn w h0 h1 h2 h3 hq7 hn hz
      have hpl : x.k = 4 ∨ x.k = 8 ∨ x.k = 9 ∨ x.k = 13 ∨ x.k = 14 ∨ x.k = 15 ∨ x.k = 16 ∨ x.k = 18 ∨ x.k = 19 := by omega
      rw [parts_plain hpl hz hn]
      by_cases ht : x.t.toList = []
      · rw [decide_eq_true ((sz0 _).1 ht)]
        exact partsOK_empty b x.k x.n x.t pn x.names.length cn w h0 h1 h2 h3 hpl hz hn ht
      · rw [decide_eq_false (p := x.t.size = 0) (fun h => ht ((sz0 _).2 h))]
        exact partsOK_text b x.k x.n x.t pn x.names.length cn w h0 h1 h2 h3 hpl hz hn ht
  · rw [parts_bad hk1 hk3 (.inl hz)]
    by_cases h20 : x.k = 20
    · exact partsOK_n20 b x.k x.n x.t pn x.names.length cn w h0 h1 h2 h3 h20 hz
    · exact partsOK_n b x.k x.n x.t pn x.names.length cn w h0 h1 h2 h3 (by omega) (by omega) hz

set_option maxRecDepth 100000 in
theorem infoPtr : (Tryd.prog.info? 65).map (fun i => (i.zero, i.size, i.bytes)) = some (some (.pointer none), 1, 8) := by kernel_rfl
def ptrV (g : Nat) : Value := .pointer (some ⟨g, 0, none⟩)
/-- a list of pointers of one's own -/
def PtrBuf (w : World) (base : Nat) (v : Value) (gs : List Nat) : Prop := w.ownsRow base 65 1 v gs.length (gs.map ptrV)
theorem PtrBuf.nil (w : World) (base : Nat) : PtrBuf w base (.slice none 0 0) [] := World.ownsRow_nil _ _ _ _
theorem PtrBuf.alloc {w : World} {base : Nat} {v : Value} {gs : List Nat} (h : PtrBuf w base v gs) (o : Obj) : PtrBuf (w.alloc o) base v gs := World.ownsRow.alloc h o
theorem PtrBuf.slice {w : World} {base : Nat} {v : Value} {gs : List Nat} (h : PtrBuf w base v gs) : ∃ a cap, v = .slice a gs.length cap := own_slice h
theorem PtrBuf.own_lt {w : World} {base : Nat} {v : Value} {gs : List Nat} (h : PtrBuf w base v gs) : ∀ j, v.ownBlock = some j → base ≤ j ∧ j < w.heap.size := fun j hj => World.ownsRow.lt h j hj
theorem PtrBuf.same {w w' : World} {base : Nat} {v : Value} {gs : List Nat} (h : PtrBuf w base v gs) (hk : ∀ j, v.ownBlock = some j → w'.heap[j]? = w.heap[j]?) : PtrBuf w' base v gs := by
  refine ⟨h.1, ?_⟩
  rcases h.2 with h | ⟨g, cap, cur, e, hg, hgg, r⟩
  · exact .inl h
  · refine .inr ⟨g, cap, cur, e, hg, ?_, r⟩
    rw [hk g (by rw [e]; rfl)]; exact hgg
theorem PtrBuf.ptrs {w : World} {base : Nat} {v : Value} {gs : List Nat} {A : Nat → Prop} (h : PtrBuf w base v gs) (hA : ∀ j, v.ownBlock = some j → A j) : ∃ a cap, v = .slice a gs.length cap ∧ PtrsIn w A a gs := by
  rcases h.2 with ⟨rfl, h0⟩ | ⟨g, cap, cur, rfl, hg⟩
  · exact ⟨none, 0, by rw [h0], fun i hi => by omega⟩
  · refine ⟨some ⟨g, 0, none⟩, cap, rfl, fun i hi => ⟨g, rfl, hA g rfl, ?_⟩⟩
    have := World.ownsRow.cellAt h i (by omega)
    rw [this]
    simp [hi, ptrV]
/-- where a row lies that was appended to: where it lay, or in a new block -/
theorem append_where {P : Program} (w : World) (base : Nat) (t ty e : TypeId) (i : TypeInfo) (z : Value) (size bytes : Nat) (ht : P.underlying t = some (.slice e)) (hi : P.info? e = some i) (hz : i.zero = some z)
    (hsize : i.size = size) (hby : i.bytes = bytes) (v : Value) (n : Nat) (xs : List Value) (hown : w.ownsRow base e size v n xs) (a : Addr) (m c : Nat) (hm : 0 < m) (news : List Value) (hl : news.length = m * size) (hnews : ∀ j u, news[j]? = some u → w.cell? (a.add j) = some u) (h1 : ∀ u ∈ news, u.oneCell' = true)
    (h63 : n + m ≤ maxLen) (hbytes : (n + m) * bytes ≤ 140737488355328) (v' : Value) (w' : World) (hr : (Builtin.append_ #[t, t] ty #[v, .slice (some a) m c]).run P w = .ok v' w') : v'.ownBlock = v.ownBlock ∨ v'.ownBlock = some w.heap.size := by
  subst hsize
  subst hby
  have hsmall : n + m ≤ 9223372036854775807 := by simp only [maxLen] at h63; omega
  rcases hown.2 with ⟨rfl, rfl⟩ | ⟨g, cap, cur, rfl, hbg, hg, hnc, hcm, hcs, htake⟩
  · have hr' := run_append_nil (P := P) w t ty e i z ht hi hz a m c news hl hnews (by omega) (by omega) (by have hb := hbytes; simp only [Nat.zero_add] at hb; omega)
    rw [hr'] at hr
    cases hr
    exact .inr rfl
  · by_cases hroom : n + m ≤ cap
    · have hfit : n * i.size + news.length ≤ cur.size := by rw [hl, hcs, ← Nat.add_mul]; exact Nat.mul_le_mul_right _ hroom
      have hr' := run_append_room (P := P) w t ty e i ht hi g n cap cur hg a m c news hl hnews h1 hroom hfit
      rw [hr'] at hr
      cases hr
      exact .inl rfl
    · have holds : ∀ j u, xs[j]? = some u → w.cell? ((⟨g, 0, none⟩ : Addr).add j) = some u := hown.cells (g := g) rfl
      have hr' := run_append_grow (P := P) w t ty e i z ht hi hz ⟨g, 0, none⟩ n cap xs hown.1 holds a m c news hl hnews (by omega) (by omega) (growslice_fits (by omega) hbytes)
      rw [hr'] at hr
      cases hr
      exact .inr rfl

theorem wp_appP (w : World) {ops : Array Oper} {rest : List Oper} {o : Oper} {a : Act} {Q : Exit → Act → World → Prop} (hgd : o.guard = none) (s x : Operand)
    (ho : o.op = .call { callee := .builtin .append, args := #[s, x], argTypes := #[68, 68] }) (base g : Nat) (v : Value) (gs : List Nat) (c : Nat) (hs : a.eval s = v)
    (hown : PtrBuf w base v gs) (hx : a.eval x = .slice (some ⟨g, 0, none⟩) 1 1) (hc0 : w.cell? ⟨g, 0, none⟩ = some (.pointer (some ⟨c, 0, none⟩))) (hbase : base ≤ w.heap.size) (hl : gs.length ≤ 1000000000)
    (h : ∀ v' w', PtrBuf w' base v' (gs ++ [c]) → Below base w w' → (∀ b, b < w.heap.size → v.ownBlock ≠ some b → w'.heap[b]? = w.heap[b]?) → (∀ j, v'.ownBlock = some j → v.ownBlock = some j ∨ w.heap.size ≤ j) → wpList Tryd.prog ops Q rest (a.put o.dst v') w') : wpList Tryd.prog ops Q (o :: rest) a w := by
  obtain ⟨i0, hi, hz0, hz1, hz2⟩ := info_parts infoPtr
  have hnews : ∀ j u, [ptrV c][j]? = some u → w.cell? ((⟨g, 0, none⟩ : Addr).add j) = some u := by
    intro j u' hj
    match j, hj with
    | 0, hj => simp at hj; subst hj; simpa [Addr.add, ptrV] using hc0
    | j + 1, hj => simp at hj
  have h1 : ∀ u ∈ [ptrV c], u.oneCell' = true := by
    intro u' hu'
    simp at hu'
    subst hu'
    rfl
  obtain ⟨v', w', hr, h2, h3, h4⟩ := run_append_own (P := Tryd.prog) w base 68 o.type 65 i0 (.pointer none) 1 8 Tryd.underlying68 hi hz0 hz1 hz2 rfl (by decide) v gs.length (gs.map ptrV) hown ⟨g, 0, none⟩ 1 1 [ptrV c] rfl hnews h1 (by unfold maxLen; omega) (by omega) hbase
  have hwh := append_where (P := Tryd.prog) w base 68 o.type 65 i0 (.pointer none) 1 8 Tryd.underlying68 hi hz0 hz1 hz2 v gs.length (gs.map ptrV) hown ⟨g, 0, none⟩ 1 1 (by omega) [ptrV c] rfl hnews h1 (by unfold maxLen; omega) (by omega) v' w' hr
  refine wpList_plain hgd fun _ hK => ?_
  unfold Oper.wp execOp
  simp only [ho, resolve, invoke, builtin, Sem.run_bind, Sem.run_pure, Result.andThen_ok, List.map_toArray, List.map_cons, List.map_nil, hs, hx, hr]
  rw [show gs.map ptrV ++ [ptrV c] = (gs ++ [c]).map ptrV by simp, show gs.length + 1 = (gs ++ [c]).length by simp] at h2
  refine hK _ _ (h v' w' h2 ((Below.refl _ _).grown h3 hbase (fun j hj => (World.ownsRow.lt hown j hj).1)) (fun b hb hne => h3.block b hb (fun e => hne e.symm)) ?_)
  intro j hj
  rcases hwh with e | e
  · exact .inl (e ▸ hj)
  · rw [e] at hj
    exact .inr (by have := Option.some.inj hj; omega)

/-- a branch's own block -/
def OwnB (w : World) (L : Lay) (N a : Nat) (x : TN) (par : Option Addr) (v : Value) : Prop := w.heap[N]? = some (.cells #[.int .i64 x.k, .int .i64 x.n, .string x.t, .slice (L.pn a) x.names.length (L.cn a), .slice (L.pk a) x.kids.length (L.ck a), .int .i64 (a : Int), .pointer par, v] 70 (0, 0))
theorem OwnB.cells {w : World} {L : Lay} {N a : Nat} {x : TN} {par : Option Addr} {v : Value} (h : OwnB w L N a x par v) : w.cell? ⟨N, 0, none⟩ = some (.int .i64 x.k) ∧ w.cell? ⟨N, 1, none⟩ = some (.int .i64 x.n) ∧ w.cell? ⟨N, 2, none⟩ = some (.string x.t) ∧ w.cell? ⟨N, 3, none⟩ = some (.slice (L.pn a) x.names.length (L.cn a)) ∧ w.cell? ⟨N, 4, none⟩ = some (.slice (L.pk a) x.kids.length (L.ck a)) ∧ w.cell? ⟨N, 5, none⟩ = some (.int .i64 (a : Int)) ∧ w.cell? ⟨N, 6, none⟩ = some (.pointer par) ∧ w.cell? ⟨N, 7, none⟩ = some v := by
  refine ⟨?_, ?_, ?_, ?_, ?_, ?_, ?_, ?_⟩ <;> (rw [cell_of_block h]; rfl)
theorem OwnB.free {w : World} {L : Lay} {N a : Nat} {x : TN} {par : Option Addr} {v : Value} (h : OwnB w L N a x par v) (i : Nat) : w.frozen? ⟨N, i, none⟩ = false := unfrozen_of_block h i
theorem OwnB.same {w w' : World} {L : Lay} {N a : Nat} {x : TN} {par : Option Addr} {v : Value} (h : OwnB w L N a x par v) (hb : w'.heap[N]? = w.heap[N]?) : OwnB w' L N a x par v := hb.trans h
theorem OwnB.lt {w : World} {L : Lay} {N a : Nat} {x : TN} {par : Option Addr} {v : Value} (h : OwnB w L N a x par v) : N < w.heap.size := (Array.getElem?_eq_some_iff.1 h).1
theorem OwnB.set {w : World} {L : Lay} {N a : Nat} {x : TN} {par : Option Addr} {v : Value} (h : OwnB w L N a x par v) (v' : Value) : OwnB (w.setCell ⟨N, 7, none⟩ v') L N a x par v' := by
  have := block_setCell (i := 7) h v'
  exact this

/-- what a call that grows a branch leaves -/
def GrowPost (ns : List TN) (root : Int) (L : Lay) (B : Nat) (S : List Nat) (k : Int) (par : Option Addr) (loc : Nat → Nat) (w : World) (e : Ending) (w' : World) : Prop :=
  Keep B w w' ∧
  ((e = .returned (.pointer none) ∧ ¬ OkF ns (GoodT ns root) [k] S) ∨
   ∃ l d loc', e = .returned (.pointer (some ⟨loc' k.toNat, 0, none⟩)) ∧ OkW ns (GoodT ns root) [k] S l d ∧ BrsAt w' B ns.length (S ++ l) loc' ∧ (∀ x ∈ S, loc' x = loc x) ∧ (∀ x ∈ l, BrIn w' (fun b => w.heap.size ≤ b ∧ b < w'.heap.size) L ns loc' x) ∧ w'.cell? ⟨loc' k.toNat, 6, none⟩ = some (.pointer par))

/-- blocks of one's kids: neither one's own nor one's row -/
def Kin (N : Nat) (w : World) (v : Value) (b : Nat) : Prop := N < b ∧ b < w.heap.size ∧ v.ownBlock ≠ some b
/-- what stands behind m kids -/
structure GrowAt (ns : List TN) (root : Int) (L : Lay) (B : Nat) (S : List Nat) (a N : Nat) (x : TN) (par : Option Addr) (loc : Nat → Nat) (m : Nat) (l : List Nat) (d : Nat) (loc2 : Nat → Nat) (v : Value) (w wx : World) : Prop where
  keep : Keep B w wx
  ok : OkW ns (GoodT ns root) (x.kids.take m) (S ++ [a]) l d
  takes : TakesUp ns root a x m
  brs : BrsAt wx B ns.length (S ++ [a] ++ l) loc2
  old : ∀ y ∈ S, loc2 y = loc y
  here : loc2 a = N
  kin : ∀ y ∈ l, BrIn wx (Kin N wx v) L ns loc2 y
  own : OwnB wx L N a x par v
  row : PtrBuf wx (N + 1) v ((x.kids.take m).map fun j => loc2 j.toNat)
  kids : ∀ j ∈ x.kids.take m, Kin N wx v (loc2 j.toNat) ∧ wx.cell? ⟨loc2 j.toNat, 6, none⟩ = some (.pointer (some ⟨N, 0, none⟩))

theorem map_take_succ {α β : Type} (f : α → β) (l : List α) (m : Nat) (j : α) (h : l[m]? = some j) : (l.take (m + 1)).map f = (l.take m).map f ++ [f j] := by
  obtain ⟨hm, e⟩ := List.getElem?_eq_some_iff.1 h
  rw [List.take_succ_eq_append_getElem hm, e]; simp
theorem mem_take_succ {α : Type} {l : List α} {m : Nat} {j i : α} (h : l[m]? = some j) (hi : i ∈ l.take (m + 1)) : i ∈ l.take m ∨ i = j := by
  obtain ⟨hm, e⟩ := List.getElem?_eq_some_iff.1 h
  rw [List.take_succ_eq_append_getElem hm, e] at hi
  simpa using hi

theorem GrowAt.next {ns : List TN} {root : Int} {L : Lay} {B : Nat} {S : List Nat} {a N : Nat} {x : TN} {par : Option Addr} {loc : Nat → Nat} {m : Nat} {l : List Nat} {d : Nat} {loc2 : Nat → Nat} {v : Value} {w wr wy w3 : World} {l' : List Nat} {d' : Nat} {loc3 : Nat → Nat} {j : Int} {q : TN} {v' : Value} {o : Obj}
    (h : GrowAt ns root L B S a N x par loc m l d loc2 v w wr) (hN : N = w.heap.size) (hB : B < N) (hj : x.kids[m]? = some j)
    (hk : Keep B wr wy) (hok : OkW ns (GoodT ns root) [j] (S ++ [a] ++ l) l' d') (hbrs : BrsAt wy B ns.length (S ++ [a] ++ l ++ l') loc3) (hold : ∀ y ∈ S ++ [a] ++ l, loc3 y = loc2 y) (hkin : ∀ y ∈ l', BrIn wy (fun b => wr.heap.size ≤ b ∧ b < wy.heap.size) L ns loc3 y) (h6 : wy.cell? ⟨loc3 j.toNat, 6, none⟩ = some (.pointer (some ⟨N, 0, none⟩)))
    (hq : ns[j.toNat]? = some q) (ht : takesB x.k (decide ((a : Int) = root)) m q.k = true)
    (hrow : PtrBuf w3 (N + 1) v' (((x.kids.take m).map fun j => loc2 j.toNat) ++ [loc3 j.toNat])) (hb3 : Below (N + 1) (wy.alloc o) w3) (hk3 : ∀ b, b < (wy.alloc o).heap.size → v.ownBlock ≠ some b → w3.heap[b]? = (wy.alloc o).heap[b]?) (hv3 : ∀ b, v'.ownBlock = some b → v.ownBlock = some b ∨ (wy.alloc o).heap.size ≤ b) :
    GrowAt ns root L B S a N x par loc (m + 1) (l ++ l') (max d d') loc3 v' w (w3.setCell ⟨N, 7, none⟩ v') := by
  have hNr : N < wr.heap.size := h.own.lt
  have hry : wr.heap.size ≤ wy.heap.size := hk.size
  have hsz : (wy.alloc o).heap.size = wy.heap.size + 1 := by simp
  have hs3 : wy.heap.size + 1 ≤ w3.heap.size := by have := hb3.size; omega
  have hvlt : ∀ b, v.ownBlock = some b → b < wr.heap.size := fun b hb => (h.row.own_lt b hb).2
  have hj0 : 0 ≤ j := okF_nonneg hok
  have hjl : j.toNat ∈ l' := by
    obtain ⟨_, l1, d1, _, _, _, _, _, rfl, _⟩ := hok.one_inv
    simp
  -- blocks that stay from the kid's call to the store
  have same : ∀ b, b < wy.heap.size → v.ownBlock ≠ some b → b ≠ N → (w3.setCell ⟨N, 7, none⟩ v').heap[b]? = wy.heap[b]? := by
    intro b hb hvb hbN
    rw [Below.heap_setCell w3 ⟨N, 7, none⟩ v' b hbN, hk3 b (by omega) hvb]
    exact Below.heap_alloc wy o b hb
  have keepR : ∀ b, Kin N wr v b → (w3.setCell ⟨N, 7, none⟩ v').heap[b]? = wr.heap[b]? := by
    intro b hb
    obtain ⟨h1, h2, h3⟩ := hb
    rw [same b (by omega) h3 (by omega)]
    exact hk.block b h2 (by omega)
  have kinR : ∀ b, Kin N wr v b → Kin N (w3.setCell ⟨N, 7, none⟩ v') v' b := by
    intro b hb
    obtain ⟨h1, h2, h3⟩ := hb
    refine ⟨h1, by simp; omega, fun e => ?_⟩
    rcases hv3 b e with e' | e'
    · exact h3 e'
    · omega
  have keepY : ∀ b, (wr.heap.size ≤ b ∧ b < wy.heap.size) → (w3.setCell ⟨N, 7, none⟩ v').heap[b]? = wy.heap[b]? := by
    intro b hb
    exact same b hb.2 (fun e => by have := hvlt b e; omega) (by omega)
  have kinY : ∀ b, (wr.heap.size ≤ b ∧ b < wy.heap.size) → Kin N (w3.setCell ⟨N, 7, none⟩ v') v' b := by
    intro b hb
    refine ⟨by omega, by simp; omega, fun e => ?_⟩
    rcases hv3 b e with e' | e'
    · have := hvlt b e'; omega
    · omega
  have hkl : ∀ j' ∈ x.kids.take m, j'.toNat ∈ l := fun j' hj' => (h.ok.1.tops j' hj').2
  have hmap : ((x.kids.take m).map fun j => loc2 j.toNat) = (x.kids.take m).map fun j => loc3 j.toNat := List.map_congr_left fun j' hj' => (hold _ (by simp [hkl j' hj'])).symm
  have hjq := hkin _ hjl
  obtain ⟨_, _, _, _, hjA, _⟩ := hjq
  refine ⟨?_, okW_take h.ok hj hok, h.takes.next hj hj0 hq ht, ?_, fun y hy => ?_, ?_, fun y hy => ?_, ?_, ?_, fun j' hj' => ?_⟩
  · refine (((h.keep.trans hk).alloc o).then_above (hb3.mono (by omega))).set_new (by omega)
  · rw [← List.append_assoc]
    refine hbrs.same ?_
    rw [Below.heap_setCell w3 ⟨N, 7, none⟩ v' B (by show B ≠ N; omega), hb3.block B (by omega)]
    exact Below.heap_alloc wy o B (by omega)
  · rw [hold y (by simp [hy])]; exact h.old y hy
  · rw [hold a (by simp)]; exact h.here
  · rcases List.mem_append.1 hy with hy | hy
    · refine ((h.kin y hy).keep keepR kinR).at (hold y (by simp [hy])) (fun n hn j' hj' => ?_)
      exact hold _ (by simp [(h.ok.1.kid y hy n hn j' hj').2])
    · exact (hkin y hy).keep keepY kinY
  · refine OwnB.set (v := v) (h.own.same ?_) v'
    rw [hb3.block N (by omega), Below.heap_alloc wy o N (by omega)]
    exact hk.block N hNr (by omega)
  · rw [map_take_succ _ _ _ _ hj, ← hmap]
    refine hrow.same fun b hb => ?_
    exact Below.heap_setCell w3 ⟨N, 7, none⟩ v' b (by have := (hrow.own_lt b hb).1; show b ≠ N; omega)
  · rcases mem_take_succ hj hj' with hj' | rfl
    · obtain ⟨hA, hc⟩ := h.kids j' hj'
      rw [hold _ (by simp [hkl j' hj'])]
      exact ⟨kinR _ hA, by rw [World.cell?_of_block (keepR _ hA)]; exact hc⟩
    · exact ⟨kinY _ hjA, by rw [World.cell?_of_block (keepY _ hjA)]; exact h6⟩

theorem GrowAt.zero {ns : List TN} {root : Int} {L : Lay} {B : Nat} {S : List Nat} {a N : Nat} {x : TN} {par : Option Addr} {loc : Nat → Nat} {w wx : World} (hs : a ∉ S) (hk : Keep B w wx) (hb : BrsAt wx B ns.length (S ++ [a]) (fun y => if y = a then N else loc y)) (ho : OwnB wx L N a x par (.slice none 0 0)) :
    GrowAt ns root L B S a N x par loc 0 [] 0 (fun y => if y = a then N else loc y) (.slice none 0 0) w wx :=
  ⟨hk, by simpa using OkW.nil, fun i j hi => absurd hi (by omega), by simpa using hb, fun y hy => if_neg (fun (e : y = a) => hs (e ▸ hy)), if_pos rfl, fun y hy => by simp at hy, ho, by simpa using PtrBuf.nil _ _, fun j hj => by simp at hj⟩

theorem GrowAt.done {ns : List TN} {root : Int} {L : Lay} {B : Nat} {S : List Nat} {a N : Nat} {x : TN} {par : Option Addr} {loc : Nat → Nat} {m : Nat} {l : List Nat} {d : Nat} {loc2 : Nat → Nat} {v : Value} {w wx : World}
    (h : GrowAt ns root L B S a N x par loc m l d loc2 v w wx) (hN : N = w.heap.size) (hm : m = x.kids.length) (hx : ns[a]? = some x) (hs : a ∉ S) (hb : nodeB x = true) : GrowPost ns root L B S a par loc w (.returned (.pointer (some ⟨N, 0, none⟩))) wx := by
  subst hm
  have hok := h.ok
  have hrow := h.row
  have hkids := h.kids
  rw [List.take_length] at hok hrow hkids
  obtain ⟨c0, c1, c2, c3, c4, c5, c6, c7⟩ := h.own.cells
  have hNl := h.own.lt
  have kinA : ∀ b, Kin N wx v b → w.heap.size ≤ b ∧ b < wx.heap.size := fun b hb => ⟨by have := hb.1; omega, hb.2.1⟩
  refine ⟨h.keep, .inr ⟨a :: l, d + 1, loc2, by rw [Int.toNat_natCast, h.here], okW_node hx hs hb h.takes hok, ?_, h.old, fun y hy => ?_, by rw [Int.toNat_natCast, h.here]; exact c6⟩⟩
  · have := h.brs
    rw [List.append_assoc] at this
    exact this
  · rcases List.mem_cons.1 hy with rfl | hy
    · obtain ⟨pb, cb, hv, hP⟩ := hrow.ptrs (A := fun b => w.heap.size ≤ b ∧ b < wx.heap.size) (fun b hb' => by have := hrow.own_lt b hb'; omega)
      rw [List.length_map] at hv
      rw [hv] at c7
      refine ⟨x, pb, cb, hx, by rw [h.here]; omega, by rw [h.here]; exact c0, by rw [h.here]; exact c1, by rw [h.here]; exact c2, by rw [h.here]; exact c3, by rw [h.here]; exact c4, by rw [h.here]; exact c5, by rw [h.here]; exact c7, hP, fun j hj => ?_⟩
      obtain ⟨hA, hc⟩ := hkids j hj
      exact ⟨kinA _ hA, by rw [h.here]; exact hA.1, by rw [h.here]; exact hc⟩
    · exact (h.kin y hy).keep (fun _ _ => rfl) kinA

/-- a kid cannot grow, or may not stand there -/
theorem GrowAt.fail {ns : List TN} {root : Int} {L : Lay} {B : Nat} {S : List Nat} {a N : Nat} {x : TN} {par : Option Addr} {loc : Nat → Nat} {m : Nat} {l : List Nat} {d : Nat} {loc2 : Nat → Nat} {v : Value} {w wx : World} {j : Int}
    (h : GrowAt ns root L B S a N x par loc m l d loc2 v w wx) (hx : ns[a]? = some x) (hj : x.kids[m]? = some j) (hf : ¬ OkF ns (GoodT ns root) [j] (S ++ [a] ++ l)) : ¬ OkF ns (GoodT ns root) [(a : Int)] S := fun hk => okF_fail h.ok hj hf (KidsOk.of hx hk).2.1
theorem fail_takes {ns : List TN} {root : Int} {S : List Nat} {a : Nat} {x : TN} {m : Nat} {j : Int} {q : TN} (hx : ns[a]? = some x) (hj : x.kids[m]? = some j) (hq : ns[j.toNat]? = some q) (ht : takesB x.k (decide ((a : Int) = root)) m q.k = false) : ¬ OkF ns (GoodT ns root) [(a : Int)] S := fun hk => by
  obtain ⟨hm, _⟩ := List.getElem?_eq_some_iff.1 hj
  obtain ⟨q', _, hq', ht'⟩ := (KidsOk.of hx hk).2.2 m j hm hj
  rw [hq] at hq'
  obtain rfl := Option.some.inj hq'
  rw [ht] at ht'
  cases ht'
theorem fail_node {ns : List TN} {root : Int} {S : List Nat} {a : Nat} {x : TN} (hx : ns[a]? = some x) (hb : nodeB x = false) : ¬ OkF ns (GoodT ns root) [(a : Int)] S := fun hk => by
  have := (KidsOk.of hx hk).1
  rw [hb] at this
  cases this

end Go.Proofs.YtbipgmikgokfpaaDoor
