/- A map from texts to numbers that a call made: what it has, and where. -/
import Derived.Test.YtpfglgfmebjeiaaDoorTreeMem
import Derived.Test.YtpfglgfmebjeiaaDoorByteEq
import Derived.StringKeys
import Derived.Maps.OwnSet
namespace Go.Proofs.YtpfglgfmebjeiaaDoor
open Go.RowKit Go.Joins Go.Maps
set_option linter.unusedVariables false

theorem lawS : Keyed Tryd.prog 9 := string_keyed Tryd.underlying9
set_option maxRecDepth 100000 in
theorem zeroI (w : World) : (zeroValue 3).run Tryd.prog w = .ok (.int .i64 0) w := by kernel_rfl
def keyL (s : ByteArray) : Lit := .string s.data.toList
theorem keyL_inj {s t : ByteArray} (h : keyL s = keyL t) : s = t := by
  unfold keyL at h
  injection h with h
  exact ba_list h
theorem keyL_of {s : ByteArray} (h : s.size ≤ maxLen) : keyOf Tryd.prog 9 (.string s) = some (keyL s) := WideMaps.keyOf_string_mk Tryd.underlying9 h
/-- block b is a map of at most n entries that reads as f -/
def MapIs (w : World) (b n : Nat) (f : ByteArray → Option Int) : Prop := ∃ D : DataW Unit, w.ownsMap Tryd.prog 9 (plainElem Tryd.prog 3) b n D ∧ ∀ s : ByteArray, s.size ≤ maxLen → Maps.has D (keyL s) = (f s).isSome ∧ D.atKey (keyL s) (.lit (.int .i64 0)) = .lit (.int .i64 ((f s).getD 0))
theorem MapIs.made (w : World) : MapIs (w.alloc (.map #[] 0)) w.heap.size 0 (fun _ => none) :=
  ⟨.map [], World.ownsMap_made _ _ _ _, fun s _ => ⟨rfl, rfl⟩⟩
theorem MapIs.same {w w' : World} {b n : Nat} {f : ByteArray → Option Int} (h : MapIs w b n f) (hb : w'.heap[b]? = w.heap[b]?) : MapIs w' b n f := by
  obtain ⟨D, ⟨es, clock, h1, h2⟩, h3⟩ := h
  exact ⟨D, ⟨es, clock, by rw [hb]; exact h1, h2⟩, h3⟩
theorem MapIs.lt {w : World} {b n : Nat} {f : ByteArray → Option Int} (h : MapIs w b n f) : b < w.heap.size := by
  obtain ⟨D, h1, _⟩ := h
  exact h1.lt
theorem MapIs.later {w w' : World} {b n : Nat} {f : ByteArray → Option Int} (h : MapIs w b n f) (hb : Below w.heap.size w w') : MapIs w' b n f := h.same (hb.block b h.lt)
theorem MapIs.look {w : World} {b n : Nat} {f : ByteArray → Option Int} (h : MapIs w b n f) (s : ByteArray) (hs : s.size ≤ maxLen) : (Instr.lookup 85 (.map (some b)) (.string s) true).run Tryd.prog w = .ok (.tuple #[.int .i64 ((f s).getD 0), .bool (f s).isSome]) w := by
  obtain ⟨D, h1, h2⟩ := h
  obtain ⟨v, ps, hr, hv⟩ := h1.look_ok lawS Tryd.underlying85 (zeroI w) (plainElem_int Tryd.underlying3 (by decide)) (keyL_of hs)
  obtain ⟨c, rfl, hc, _⟩ := plainElem_int_inv Tryd.underlying3 hv
  have hc := congrArg Prod.fst hc
  rw [(h2 s hs).2] at hc
  simp at hc
  rw [hr, (h2 s hs).1, ← hc]
theorem MapIs.look0 {w : World} {b n : Nat} {f : ByteArray → Option Int} (h : MapIs w b n f) (s : ByteArray) (hs : s.size ≤ maxLen) : (Instr.lookup 85 (.map (some b)) (.string s) false).run Tryd.prog w = .ok (.int .i64 ((f s).getD 0)) w := by
  obtain ⟨D, h1, h2⟩ := h
  obtain ⟨c, hr, hc, _⟩ := h1.lookup_int lawS Tryd.underlying85 Tryd.underlying3 (zeroI w) (keyL_of hs)
  rw [(h2 s hs).2] at hc
  simp at hc
  rw [hr, ← hc]
/-- f, and s has v -/
def updM (f : ByteArray → Option Int) (s : ByteArray) (v : Int) : ByteArray → Option Int := fun t => if t.data.toList = s.data.toList then some v else f t
theorem MapIs.store {w : World} {b n : Nat} {f : ByteArray → Option Int} (h : MapIs w b n f) (s : ByteArray) (v : Int) (hs : s.size ≤ maxLen) (hn : n < maxLen) (hv : (Lit.int .i64 v).wf = true) : ∃ w', (Instr.mapUpdate 85 (.map (some b)) (.string s) (.int .i64 v)).run Tryd.prog w = .ok () w' ∧ MapIs w' b (n + 1) (updM f s v) ∧ w.grownBy w' (some b) := by
  obtain ⟨D, h1, h2⟩ := h
  obtain ⟨w', hr, ho, hg⟩ := h1.update lawS Tryd.underlying85 hn (keyL_of hs) (plainElem_int Tryd.underlying3 hv)
  refine ⟨w', hr, ⟨_, ho, fun t ht => ?_⟩, hg⟩
  unfold updM
  by_cases e : t.data.toList = s.data.toList
  · obtain rfl := ba_list e
    rw [if_pos rfl]
    exact ⟨has_put_same (k := keyL t) h1.isMap (show WideAt.IsKeyLit (.string t.data.toList) from True.intro) _, atKey_put_same (k := keyL t) h1.isMap (show WideAt.IsKeyLit (.string t.data.toList) from True.intro) _ _⟩
  · rw [if_neg e]
    have hne : keyL t ≠ keyL s := fun h => e (by rw [keyL_inj h])
    rw [has_put_other hne, atKey_put_other hne]
    exact h2 t ht

end Go.Proofs.YtpfglgfmebjeiaaDoor
