/- A bundle. -/
import Derived.Test.YtbipgmikgokfpaaDoorTreeMem
import Derived.Test.YtbipgmikgokfpaaDoorG01
import Derived.StringKeys
import Derived.Maps.OwnSet
import Derived.Test.YtbipgmikgokfpaaDoorGrowWalk3
import Derived.Test.YtbipgmikgokfpaaDoorG05
import Derived.Deep.RegionHeld3
import Derived.Test.YtbipgmikgokfpaaDoorSWalk3

/- MapSI -/
namespace Go.Proofs.YtbipgmikgokfpaaDoor
open Go.RowKit Go.Joins Go.Maps
set_option linter.unusedVariables false

theorem lawS : Keyed Tryd.prog 9 := string_keyed Tryd.underlying9
set_option maxRecDepth 100000 in
theorem zeroI (w : World) : (zeroValue 3).run Tryd.prog w = .ok (.int .i64 0) w := by kernel_rfl
def keyL (s : ByteArray) : Lit := .string s.data.toList
theorem keyL_inj {s t : ByteArray} (h : keyL s = keyL t) : s = t := by
  unfold keyL at h
  injection h with h
  exact ba_list h
theorem keyL_of {s : ByteArray} (h : s.size ≤ maxLen) : keyOf Tryd.prog 9 (.string s) = some (keyL s) := WideMaps.keyOf_string_mk Tryd.underlying9 h
/-- block b is a map of at most n entries that reads as f -/
def MapIs (w : World) (b n : Nat) (f : ByteArray → Option Int) : Prop := ∃ D : DataW Unit, w.ownsMap Tryd.prog 9 (plainElem Tryd.prog 3) b n D ∧ ∀ s : ByteArray, s.size ≤ maxLen → Maps.has D (keyL s) = (f s).isSome ∧ D.atKey (keyL s) (.lit (.int .i64 0)) = .lit (.int .i64 ((f s).getD 0))
theorem MapIs.made (w : World) : MapIs (w.alloc (.map #[] 0)) w.heap.size 0 (fun _ => none) :=
  ⟨.map [], World.ownsMap_made _ _ _ _, fun s _ => ⟨rfl, rfl⟩⟩
theorem MapIs.same {w w' : World} {b n : Nat} {f : ByteArray → Option Int} (h : MapIs w b n f) (hb : w'.heap[b]? = w.heap[b]?) : MapIs w' b n f := by
  obtain ⟨D, ⟨es, clock, h1, h2⟩, h3⟩ := h
  exact ⟨D, ⟨es, clock, by rw [hb]; exact h1, h2⟩, h3⟩
theorem MapIs.lt {w : World} {b n : Nat} {f : ByteArray → Option Int} (h : MapIs w b n f) : b < w.heap.size := by
  obtain ⟨D, h1, _⟩ := h
  exact h1.lt
theorem MapIs.later {w w' : World} {b n : Nat} {f : ByteArray → Option Int} (h : MapIs w b n f) (hb : Below w.heap.size w w') : MapIs w' b n f := h.same (hb.block b h.lt)
theorem MapIs.look {w : World} {b n : Nat} {f : ByteArray → Option Int} (h : MapIs w b n f) (s : ByteArray) (hs : s.size ≤ maxLen) : (Instr.lookup 94 (.map (some b)) (.string s) true).run Tryd.prog w = .ok (.tuple #[.int .i64 ((f s).getD 0), .bool (f s).isSome]) w := by
  obtain ⟨D, h1, h2⟩ := h
  obtain ⟨v, ps, hr, hv⟩ := h1.look_ok lawS Tryd.underlying94 (zeroI w) (plainElem_int Tryd.underlying3 (by decide)) (keyL_of hs)
  obtain ⟨c, rfl, hc, _⟩ := plainElem_int_inv Tryd.underlying3 hv
  have hc := congrArg Prod.fst hc
  rw [(h2 s hs).2] at hc
  simp at hc
  rw [hr, (h2 s hs).1, ← hc]
theorem MapIs.look0 {w : World} {b n : Nat} {f : ByteArray → Option Int} (h : MapIs w b n f) (s : ByteArray) (hs : s.size ≤ maxLen) : (Instr.lookup 94 (.map (some b)) (.string s) false).run Tryd.prog w = .ok (.int .i64 ((f s).getD 0)) w := by
  obtain ⟨D, h1, h2⟩ := h
  obtain ⟨c, hr, hc, _⟩ := h1.lookup_int lawS Tryd.underlying94 Tryd.underlying3 (zeroI w) (keyL_of hs)
  rw [(h2 s hs).2] at hc
  simp at hc
  rw [hr, ← hc]
/-- f, and s has v -/
def updM (f : ByteArray → Option Int) (s : ByteArray) (v : Int) : ByteArray → Option Int := fun t => if t.data.toList = s.data.toList then some v else f t
theorem MapIs.store {w : World} {b n : Nat} {f : ByteArray → Option Int} (h : MapIs w b n f) (s : ByteArray) (v : Int) (hs : s.size ≤ maxLen) (hn : n < maxLen) (hv : (Lit.int .i64 v).wf = true) : ∃ w', (Instr.mapUpdate 94 (.map (some b)) (.string s) (.int .i64 v)).run Tryd.prog w = .ok () w' ∧ MapIs w' b (n + 1) (updM f s v) ∧ w.grownBy w' (some b) := by
  obtain ⟨D, h1, h2⟩ := h
  obtain ⟨w', hr, ho, hg⟩ := h1.update lawS Tryd.underlying94 hn (keyL_of hs) (plainElem_int Tryd.underlying3 hv)
  refine ⟨w', hr, ⟨_, ho, fun t ht => ?_⟩, hg⟩
  unfold updM
  by_cases e : t.data.toList = s.data.toList
  · obtain rfl := ba_list e
    rw [if_pos rfl]
    exact ⟨has_put_same (k := keyL t) h1.isMap (show WideAt.IsKeyLit (.string t.data.toList) from True.intro) _, atKey_put_same (k := keyL t) h1.isMap (show WideAt.IsKeyLit (.string t.data.toList) from True.intro) _ _⟩
  · rw [if_neg e]
    have hne : keyL t ≠ keyL s := fun h => e (by rw [keyL_inj h])
    rw [has_put_other hne, atKey_put_other hne]
    exact h2 t ht

theorem Keep.of_grown {b : Nat} {w w' : World} (h : w.grownBy w' (some b)) : Keep b w w' := ⟨h.os, h.tape, h.output, h.size, fun k hk hne => h.block k hk (fun e => hne (Option.some.inj e))⟩

set_option maxRecDepth 100000 in
theorem has_any (fs : Value) (b n : Nat) (f : ByteArray → Option Int) (s : ByteArray) (w : World) (hM : MapIs w b n f) (hs : s.size ≤ maxLen) :
    Calls Tryd.prog 84 #[.agg #[fs, .map (some b)], .string s] w fun e w' => e = .returned (.bool (f s).isSome) ∧ Below w.heap.size w w' := by
  have hl := (hM.later (nx_alloc w (.cells #[fs, .map (some b)] 96))).look s hs
  go_enter Tryd.func84, Tryd.ntmps84
  go_wp2
  go_ret
  exact ⟨rfl, nx_alloc _ _⟩

/-- so far: the functions among the first kids -/
structure FL (w : World) (ns : List TN) (loc : Nat → Nat) (fs : List Int) (v : Value) (m : Nat) (wx : World) : Prop where
  var : wx.heap[w.heap.size + 1 + 1]? = some (.cells #[v, .map (some (w.heap.size + 1))] 96 (0, 0))
  row : PtrBuf wx (w.heap.size + 1 + 1 + 1) v (fs.map fun j => loc j.toNat)
  map : MapIs wx (w.heap.size + 1) m (placeIn (fs.map (textAt ns)))
  res : wx.heap[w.heap.size]? = some (.cells #[.slice none 0 0, .map none] 96 (0, 0))
  below : Below w.heap.size w wx
  size : w.heap.size + 1 + 1 + 1 ≤ wx.heap.size
theorem FL.later {w : World} {ns : List TN} {loc : Nat → Nat} {fs : List Int} {v : Value} {m : Nat} {wx wy : World} (h : FL w ns loc fs v m wx) (hb : Below wx.heap.size wx wy) : FL w ns loc fs v m wy := by
  have hs := h.size
  exact ⟨by rw [hb.block _ (by omega)]; exact h.var, h.row.same (fun j hj => hb.block j (h.row.own_lt j hj).2), h.map.later hb, by rw [hb.block _ (by omega)]; exact h.res, nx_trans h.below hb, by have := hb.size; omega⟩
theorem FL.put {w : World} {ns : List TN} {loc : Nat → Nat} {fs fs' : List Int} {v : Value} {m m' : Nat} {wx wy : World} (h : FL w ns loc fs v m wx) (hk : Keep (w.heap.size + 1) wx wy) (hM : MapIs wy (w.heap.size + 1) m' (placeIn (fs'.map (textAt ns)))) : wy.heap[w.heap.size + 1 + 1]? = some (.cells #[v, .map (some (w.heap.size + 1))] 96 (0, 0)) ∧ PtrBuf wy (w.heap.size + 1 + 1 + 1) v (fs.map fun j => loc j.toNat) ∧ wy.heap[w.heap.size]? = some (.cells #[.slice none 0 0, .map none] 96 (0, 0)) ∧ Below w.heap.size w wy ∧ w.heap.size + 1 + 1 + 1 ≤ wy.heap.size := by
  have hs := h.size
  refine ⟨by rw [hk.block _ (by omega) (by omega)]; exact h.var, h.row.same (fun j hj => hk.block j (h.row.own_lt j hj).2 (by have := (h.row.own_lt j hj).1; omega)), by rw [hk.block _ (by omega) (by omega)]; exact h.res, h.below.trans (hk.below (by omega) (by omega)), by have := hk.size; omega⟩
/-- one function more, behind the map's part -/
theorem FL.more {w : World} {ns : List TN} {loc : Nat → Nat} {fs : List Int} {j : Int} {v v2 : Value} {m' : Nat} {wy w2 : World} {o : Obj} (hv : wy.heap[w.heap.size + 1 + 1]? = some (.cells #[v, .map (some (w.heap.size + 1))] 96 (0, 0))) (hr : wy.heap[w.heap.size]? = some (.cells #[.slice none 0 0, .map none] 96 (0, 0))) (hb : Below w.heap.size w wy) (hs : w.heap.size + 1 + 1 + 1 ≤ wy.heap.size)
    (hM : MapIs wy (w.heap.size + 1) m' (placeIn ((fs ++ [j]).map (textAt ns)))) (h2 : PtrBuf w2 (w.heap.size + 1 + 1 + 1) v2 ((fs.map fun j => loc j.toNat) ++ [loc j.toNat])) (hb2 : Below (w.heap.size + 1 + 1 + 1) (wy.alloc o) w2) : FL w ns loc (fs ++ [j]) v2 m' (w2.setCell ⟨w.heap.size + 1 + 1, 0, none⟩ v2) := by
  have hb3 : Below (w.heap.size + 1 + 1 + 1) wy w2 := ((Below.refl (w.heap.size + 1 + 1 + 1) wy).alloc hs o).trans hb2
  have hs2 := hb3.size
  have hv2 : w2.heap[w.heap.size + 1 + 1]? = some (.cells #[v, .map (some (w.heap.size + 1))] 96 (0, 0)) := by rw [hb3.block _ (by omega)]; exact hv
  refine ⟨(block_setCell hv2 v2).trans rfl, ?_, ?_, ?_, ?_, by simpa using Nat.le_trans hs hs2⟩
  · rw [List.map_append]
    refine PtrBuf.same h2 (fun k hk => ?_)
    have := (h2.own_lt k hk).1
    exact Below.heap_setCell w2 ⟨w.heap.size + 1 + 1, 0, none⟩ v2 k (by show k ≠ w.heap.size + 1 + 1; omega)
  · refine (hM.same (hb3.block _ (by omega))).same ?_
    exact Below.heap_setCell w2 ⟨w.heap.size + 1 + 1, 0, none⟩ v2 _ (by show w.heap.size + 1 ≠ w.heap.size + 1 + 1; omega)
  · rw [Below.heap_setCell w2 ⟨w.heap.size + 1 + 1, 0, none⟩ v2 _ (by show w.heap.size ≠ w.heap.size + 1 + 1; omega), hb3.block _ (by omega)]; exact hr
  · exact (hb.trans (hb3.mono (by omega))).setCell (by show w.heap.size ≤ w.heap.size + 1 + 1; omega) _

/-- a branch's kids lie there, each with its kind and text -/
def KidsUp (w : World) (ns : List TN) (loc : Nat → Nat) (pb : Option Addr) (ks : List Int) : Prop := ∀ m (h : m < ks.length), ∃ bp x, pb = some ⟨bp, 0, none⟩ ∧ w.cell? ⟨bp, m, none⟩ = some (.pointer (some ⟨loc ks[m].toNat, 0, none⟩)) ∧ 0 ≤ ks[m] ∧ ns[ks[m].toNat]? = some x ∧ w.cell? ⟨loc ks[m].toNat, 0, none⟩ = some (.int .i64 x.k) ∧ w.cell? ⟨loc ks[m].toNat, 2, none⟩ = some (.string x.t)
theorem KidsUp.later {w w' : World} {ns : List TN} {loc : Nat → Nat} {pb : Option Addr} {ks : List Int} (h : KidsUp w ns loc pb ks) (hb : Below w.heap.size w w') : KidsUp w' ns loc pb ks := fun m hm => by
  obtain ⟨bp, x, e, c, h0, hx, k0, k2⟩ := h m hm
  exact ⟨bp, x, e, cell_later hb c, h0, hx, cell_later hb k0, cell_later hb k2⟩

theorem push3b {α : Type} (h : Array α) (a b c : α) : (((h.push a).push b).push c)[h.size + 1 + 1]? = some c := by
  have e : ((h.push a).push b).size = h.size + 1 + 1 := by simp
  rw [← e, Array.getElem?_push_size]
theorem push3a {α : Type} (h : Array α) (a b c : α) : (((h.push a).push b).push c)[h.size]? = some a := by
  rw [Array.getElem?_push, if_neg (by simp; omega), Array.getElem?_push, if_neg (by simp), Array.getElem?_push_size]

set_option maxHeartbeats 2000000 in
set_option maxRecDepth 100000 in
theorem listFunctions_any (ns : List TN) (loc : Nat → Nat) (gr cb : Nat) (pb : Option Addr) (ks : List Int) (w : World) (c7 : w.cell? ⟨gr, 7, none⟩ = some (.slice pb ks.length cb)) (hK : KidsUp w ns loc pb ks) (hl : ks.length ≤ 1048576) (hsz : ∀ x ∈ ns, x.t.size ≤ 1048576) :
    Calls Tryd.prog 75 #[.pointer (some ⟨gr, 0, none⟩)] w fun e w' => ∃ v b n, e = .returned (.agg #[v, .map (some b)]) ∧ PtrBuf w' w.heap.size v ((fnsIn ns ks).map fun j => loc j.toNat) ∧ MapIs w' b n (placeIn ((fnsIn ns ks).map (textAt ns))) ∧ w.heap.size ≤ b ∧ Below w.heap.size w w' := by
  have hmm := @run_makeMap Tryd.prog
  have HK := hide hK
  have HZ := hide hsz
  have hgr : gr < w.heap.size := World.block_lt_of_cell? _ _ c7
  clear hK hsz
  have ca : ((w.alloc (.cells #[.slice none 0 0, .map none] 96)).alloc (.map #[] 0)).cell? ⟨gr, 7, none⟩ = some (.slice pb ks.length cb) := cell_later (nx_al (nx_alloc _ _)) c7
  have cb7 : (((w.alloc (.cells #[.slice none 0 0, .map none] 96)).alloc (.map #[] 0)).alloc (.cells #[.slice none 0 0, .map (some (w.heap.size + 1))] 96)).cell? ⟨gr, 7, none⟩ = some (.slice pb ks.length cb) := cell_later (nx_alloc _ _) ca
  have HF0 : Hid (FL w ns loc [] (.slice none 0 0) 0 (((w.alloc (.cells #[.slice none 0 0, .map none] 96)).alloc (.map #[] 0)).alloc (.cells #[.slice none 0 0, .map (some (w.heap.size + 1))] 96))) := hide (by
    have hM := MapIs.made (w.alloc (.cells #[.slice none 0 0, .map none] 96))
    have h1 : (w.alloc (.cells #[.slice none 0 0, .map none] 96)).heap.size = w.heap.size + 1 := by simp
    rw [h1] at hM
    refine ⟨?_, PtrBuf.nil _ _, ?_, ?_, nx_al (nx_al (nx_alloc _ _)), by simp⟩
    · exact push3b _ _ _ _
    · show MapIs _ _ _ (placeIn [])
      rw [placeIn_nil]
      exact hM.later (nx_alloc _ _)
    · exact push3a _ _ _ _)
  go_enter Tryd.func75, Tryd.ntmps75
  go_wp2
  generalize (((w.alloc (.cells #[.slice none 0 0, .map none] 96)).alloc (.map #[] 0)).alloc (.cells #[.slice none 0 0, .map (some (w.heap.size + 1))] 96)) = w0 at HF0 cb7 ⊢
  clear ca cb7 c7
  go_loopw [13] (fun i wx => ∃ (m n : Nat) (v : Value), m ≤ ks.length ∧ n ≤ m ∧ i = .int .i64 m ∧ Hid (FL w ns loc (fnsIn ns (ks.take m)) v n wx)) (fun i _ => ks.length - (intOf i).toNat)
  case atStart => exact ⟨0, 0, _, by omega, by omega, rfl, hide (by simpa [fnsIn] using unhide HF0)⟩
  case round =>
    clear HF0
    obtain ⟨m, n, v, hm, hnm, rfl, hF⟩ := hrel
    have hsz := (unhide hF).size
    by_cases hlt : m < ks.length
    · have hgj2 : loc ks[m].toNat < w.heap.size := by
        obtain ⟨_, _, _, _, _, _, k, _⟩ := unhide HK m hlt
        exact World.block_lt_of_cell? _ _ k
      obtain ⟨bp, x, hpb, y0, hj0, hx, k0, k2⟩ := ((unhide HK).later (unhide hF).below) m hlt
      subst hpb
      have hkx := kindAt_of hx
      by_cases h20 : x.k = 20
      · have HN := hide (fnsIn_yes (ns := ns) hlt (by rw [hkx, h20]))
        have htx := textAt_of hx
        have hxs : x.t.size ≤ 1048576 := unhide HZ x (List.mem_of_getElem? hx)
        rw [h20] at k0
        obtain ⟨pv, cv, hv⟩ := (unhide hF).row.slice
        have hfl : (fnsIn ns (ks.take m)).length ≤ m := Nat.le_trans (fnsIn_len _ _) (by rw [List.length_take]; omega)
        rw [List.length_map] at hv
        subst hv
        generalize hfs : fnsIn ns (ks.take m) = fs at hF HN hfl
        have v0 : wr.cell? ⟨w.heap.size + 1 + 1, 0, none⟩ = some (.slice pv fs.length cv) := (cell_of_block (unhide hF).var 0).trans rfl
        have v1 : wr.cell? ⟨w.heap.size + 1 + 1, 1, none⟩ = some (.map (some (w.heap.size + 1))) := (cell_of_block (unhide hF).var 1).trans rfl
        have HC := hide (has_any (.slice pv fs.length cv) (w.heap.size + 1) n (placeIn (fs.map (textAt ns))) x.t wr.drew ((unhide hF).map.later (Below.refl _ _).drew) (by unfold maxLen; omega))
        have HT := hide htx
        have hgj : loc ks[m].toNat < wr.heap.size := World.block_lt_of_cell? _ _ k0
        clear hfs hkx hx hj0 h20
        generalize hj : ks[m] = j at y0 k0 k2 HN HT htx hgj hgj2
        generalize hgl : loc j.toNat = gj at y0 k0 k2 hgj hgj2
        generalize x.t = s at k2 HC HT htx hxs
        have V0 := hide (show wr.drew.cell? ⟨w.heap.size + 1 + 1, 0, none⟩ = some (.slice pv fs.length cv) from v0)
        have V1 := hide (show wr.drew.cell? ⟨w.heap.size + 1 + 1, 1, none⟩ = some (.map (some (w.heap.size + 1))) from v1)
        have K2 := hide (show wr.drew.cell? ⟨gj, 2, none⟩ = some (.string s) from k2)
        go_wp2
        go_region_held3 (fun y => y.cell? ⟨w.heap.size + 1 + 1, 0, none⟩ = some (.slice pv fs.length cv) ∧ y.cell? ⟨w.heap.size + 1 + 1, 1, none⟩ = some (.map (some (w.heap.size + 1))) ∧ y.cell? ⟨gj, 2, none⟩ = some (.string s)) (go_keep) ((go_at_call 84; refine (unhide HC).mono ?_; rintro e y ⟨rfl, hby⟩; have z0 := cell_later hby (unhide V0); have z1 := cell_later hby (unhide V1); have z2 := cell_later hby (unhide K2); have HBY := hide hby; clear hby))
        have HFY : Hid (FL w ns loc fs (.slice pv fs.length cv) n y) := hide (((unhide hF).later (Below.refl _ _).drew).later (unhide HBY))
        have hgy : gj < y.heap.size := by have := (unhide HBY).size; exact Nat.lt_of_lt_of_le hgj this
        have hsy : w.heap.size + 1 + 1 + 1 ≤ y.heap.size := (unhide HFY).size
        clear hF HBY V0 V1 K2 HC v0 v1 k2 k0
        by_cases hmem : s ∈ fs.map (textAt ns)
        · have e1 := placeIn_mem hmem
          have e2 : (placeIn (fs.map (textAt ns)) s).isNone = false := by rw [← Option.not_isSome, e1]; rfl
          have HMP : Hid (MapIs y (w.heap.size + 1) n (placeIn ((fs ++ [j]).map (textAt ns)))) := hide (by
            rw [List.map_append, show List.map (textAt ns) [j] = [s] by rw [← unhide HT]; rfl, placeIn_old hmem]
            exact (unhide HFY).map)
          have HP := hide ((unhide HFY).put (fs' := fs) (Keep.refl _ y) (unhide HFY).map)
          clear hmem HFY
          rw [e1, e2]
          clear e1 e2
          obtain ⟨hva, hrow, hra, hba, hsa⟩ := unhide HP
          have a0 : y.cell? ⟨w.heap.size + 1 + 1, 0, none⟩ = some (.slice pv fs.length cv) := (cell_of_block hva 0).trans rfl
          have HROW := hide hrow
          have HX := hide (And.intro hva (And.intro hra (And.intro hba hsa)))
          clear hva hrow hra hba HP
          go_wp2_with (at_builtin; refine wp_appP _ rfl _ _ rfl (w.heap.size + 1 + 1 + 1) y.heap.size _ (fs.map fun j => loc j.toNat) gj rfl ((unhide HROW).alloc _) rfl (by simp) ?c1 ?c2 ?c3)
          case c1 => simp; omega
          case c2 => rw [List.length_map]; omega
          case c3 =>
            intro v2 w2 hP2 hb2 _ _
            obtain ⟨p2, c2, rfl⟩ := hP2.slice
            generalize ((fs.map fun j => loc j.toNat) ++ [gj]).length = n2 at hP2 ⊢
            obtain ⟨hva, hra, hba, hsa'⟩ := unhide HX
            have hvb : w2.heap[w.heap.size + 1 + 1]? = some (.cells #[.slice pv fs.length cv, .map (some (w.heap.size + 1))] 96 (0, 0)) := by
              rw [hb2.block _ (by omega), (nx_alloc y _).block _ (by omega)]; exact hva
            have b0 : w2.cell? ⟨w.heap.size + 1 + 1, 0, none⟩ = some (.slice pv fs.length cv) := (cell_of_block hvb 0).trans rfl
            have bf : w2.frozen? ⟨w.heap.size + 1 + 1, 0, none⟩ = false := unfrozen_of_block hvb 0
            have HD : Hid (FL w ns loc (fnsIn ns (ks.take (m + 1))) (.slice p2 n2 c2) n (w2.setCell ⟨w.heap.size + 1 + 1, 0, none⟩ (.slice p2 n2 c2))) := hide (by
              rw [unhide HN]
              exact FL.more hva hra hba hsa' (unhide HMP) (by rw [hgl]; exact hP2) hb2)
            clear hP2 hb2 hva hra hba hvb HX HROW HMP
            go_wp2
            go_roundw
            case rel => exact ⟨m + 1, n, _, by omega, by omega, by go_num, hide (unhide HD)⟩
            case measure => simp [intOf]; omega
        · have e1 := placeIn_not hmem
          have e2 : (placeIn (fs.map (textAt ns)) s).isNone = true := by rw [← Option.not_isSome, e1]; rfl
          obtain ⟨w5, hst, hM5, hg5⟩ := ((unhide HFY).map.later (Below.refl y.heap.size y).drew).store s (fs.length : Int) (by unfold maxLen; omega) (by unfold maxLen; omega) (WalkArith.wf_i64 (by omega))
          have HMP : Hid (MapIs w5 (w.heap.size + 1) (n + 1) (placeIn ((fs ++ [j]).map (textAt ns)))) := hide (by
            rw [List.map_append, show List.map (textAt ns) [j] = [s] by rw [← unhide HT]; rfl, placeIn_new hmem, List.length_map]
            exact hM5)
          have HP := hide (((unhide HFY).later (Below.refl y.heap.size y).drew).put (fs' := fs ++ [j]) (Keep.of_grown hg5) (unhide HMP))
          have hk5 := Keep.of_grown hg5
          have g2 : w5.cell? ⟨gj, 2, none⟩ = some (.string s) := by rw [hk5.cell hgy (by omega)]; exact z2
          clear hmem HFY hM5 hg5
          rw [e1, e2]
          clear e1 e2
          go_wp2
          go_region
          obtain ⟨hva, hrow, hra, hba, hsa⟩ := unhide HP
          have a0 : w5.cell? ⟨w.heap.size + 1 + 1, 0, none⟩ = some (.slice pv fs.length cv) := (cell_of_block hva 0).trans rfl
          have HROW := hide hrow
          have HX := hide (And.intro hva (And.intro hra (And.intro hba hsa)))
          clear hva hrow hra hba HP
          go_wp2_with (at_builtin; refine wp_appP _ rfl _ _ rfl (w.heap.size + 1 + 1 + 1) w5.heap.size _ (fs.map fun j => loc j.toNat) gj rfl ((unhide HROW).alloc _) rfl (by simp) ?c1 ?c2 ?c3)
          case c1 => simp; omega
          case c2 => rw [List.length_map]; omega
          case c3 =>
            intro v2 w2 hP2 hb2 _ _
            obtain ⟨p2, c2, rfl⟩ := hP2.slice
            generalize ((fs.map fun j => loc j.toNat) ++ [gj]).length = n2 at hP2 ⊢
            obtain ⟨hva, hra, hba, hsa'⟩ := unhide HX
            have hvb : w2.heap[w.heap.size + 1 + 1]? = some (.cells #[.slice pv fs.length cv, .map (some (w.heap.size + 1))] 96 (0, 0)) := by
              rw [hb2.block _ (by omega), (nx_alloc w5 _).block _ (by omega)]; exact hva
            have b0 : w2.cell? ⟨w.heap.size + 1 + 1, 0, none⟩ = some (.slice pv fs.length cv) := (cell_of_block hvb 0).trans rfl
            have bf : w2.frozen? ⟨w.heap.size + 1 + 1, 0, none⟩ = false := unfrozen_of_block hvb 0
            have HD : Hid (FL w ns loc (fnsIn ns (ks.take (m + 1))) (.slice p2 n2 c2) (n + 1) (w2.setCell ⟨w.heap.size + 1 + 1, 0, none⟩ (.slice p2 n2 c2))) := hide (by
              rw [unhide HN]
              exact FL.more hva hra hba hsa' (unhide HMP) (by rw [hgl]; exact hP2) hb2)
            clear hP2 hb2 hva hra hba hvb HX HROW HMP
            go_wp2
            go_roundw
            case rel => exact ⟨m + 1, n + 1, _, by omega, by omega, by go_num, hide (unhide HD)⟩
            case measure => simp [intOf]; omega
      · have HN := hide (fnsIn_no (ns := ns) hlt (by rw [hkx]; exact h20))
        have e20 : (x.k != 20) = true := by simp [h20]
        have HD : Hid (FL w ns loc (fnsIn ns (ks.take (m + 1))) v n wr) := hide (by rw [unhide HN]; exact unhide hF)
        clear hF HN hkx
        clear hgj2
        generalize loc ks[m].toNat = gj at y0 k0 k2
        go_wp2
        go_roundw
        case rel => exact ⟨m + 1, n, v, by omega, by omega, by go_num, hide (unhide HD)⟩
        case measure => simp [intOf]; omega
    · have hF2 := unhide hF
      rw [show m = ks.length by omega, List.take_length] at hF2
      obtain ⟨pv, cv, rfl⟩ := hF2.row.slice
      generalize ((fnsIn ns ks).map fun j => loc j.toNat).length = nv at hF hF2
      have v0 : wr.cell? ⟨w.heap.size + 1 + 1, 0, none⟩ = some (.slice pv nv cv) := (cell_of_block hF2.var 0).trans rfl
      have v1 : wr.cell? ⟨w.heap.size + 1 + 1, 1, none⟩ = some (.map (some (w.heap.size + 1))) := (cell_of_block hF2.var 1).trans rfl
      have r0 : wr.cell? ⟨w.heap.size, 0, none⟩ = some (.slice none 0 0) := (cell_of_block hF2.res 0).trans rfl
      have r1 : wr.cell? ⟨w.heap.size, 1, none⟩ = some (.map none) := (cell_of_block hF2.res 1).trans rfl
      have rf : ∀ i, wr.frozen? ⟨w.heap.size, i, none⟩ = false := unfrozen_of_block hF2.res
      have HD : Hid (PtrBuf ((wr.setCell ⟨w.heap.size, 0, none⟩ (.slice pv nv cv)).setCell ⟨w.heap.size, 1, none⟩ (.map (some (w.heap.size + 1)))) w.heap.size (.slice pv nv cv) ((fnsIn ns ks).map fun j => loc j.toNat) ∧ MapIs ((wr.setCell ⟨w.heap.size, 0, none⟩ (.slice pv nv cv)).setCell ⟨w.heap.size, 1, none⟩ (.map (some (w.heap.size + 1)))) (w.heap.size + 1) n (placeIn ((fnsIn ns ks).map (textAt ns))) ∧ Below w.heap.size w ((wr.setCell ⟨w.heap.size, 0, none⟩ (.slice pv nv cv)).setCell ⟨w.heap.size, 1, none⟩ (.map (some (w.heap.size + 1))))) := hide (by
        have hk : Keep w.heap.size wr ((wr.setCell ⟨w.heap.size, 0, none⟩ (.slice pv nv cv)).setCell ⟨w.heap.size, 1, none⟩ (.map (some (w.heap.size + 1)))) := (Keep.refl _ _).set_it.set_it
        refine ⟨ownsRow_le (hF2.row.same (fun j hj => hk.block j (hF2.row.own_lt j hj).2 (by have := (hF2.row.own_lt j hj).1; omega))) (by omega), hF2.map.same (hk.block _ (by omega) (by omega)), hF2.below.trans (hk.below (by omega) (by omega))⟩)
      clear hF hF2
      go_wp2
      refine bodyPost_ret (v := .agg #[.slice pv nv cv, .map (some (w.heap.size + 1))]) (by simp [results, Tryd.results75, go_sem, *]) rfl ⟨.slice pv nv cv, w.heap.size + 1, n, rfl, (unhide HD).1, (unhide HD).2.1, by omega, (unhide HD).2.2⟩

theorem Grown.kids {w : World} {G B : Nat} {L : Lay} {ns : List TN} {root : Int} {loc : Nat → Nat} {l : List Nat} {d x : Nat} {n : TN} (hT : TreeP ns root l d) (hG : Grown w G B L ns root loc l) (hn : ns[x]? = some n) : ∃ pb cb, w.cell? ⟨loc x, 7, none⟩ = some (.slice pb n.kids.length cb) ∧ KidsUp w ns loc pb n.kids := by
  have hxl := (List.getElem?_eq_some_iff.1 hn).1
  obtain ⟨n', pb, cb, hn', _, c0, c1, c2, c3, c4, c5, c7, hP, hj⟩ := hG.br x (hT.2.2.2 x hxl)
  rw [hn] at hn'
  obtain rfl := Option.some.inj hn'
  refine ⟨pb, cb, c7, fun m hm => ?_⟩
  obtain ⟨bp, e, _, hc⟩ := hP m (by rw [List.length_map]; exact hm)
  rw [List.getElem_map] at hc
  obtain ⟨h0, hjl⟩ := hT.2.1.1.kid x (hT.2.2.2 x hxl) n hn n.kids[m] (List.getElem_mem hm)
  obtain ⟨y, _, _, hy, _, k0, _, k2, _⟩ := hG.br n.kids[m].toNat hjl
  exact ⟨bp, y, e, hc, h0, hy, k0, k2⟩
theorem KidsUp.mem {w : World} {ns : List TN} {loc : Nat → Nat} {pb : Option Addr} {ks : List Int} (h : KidsUp w ns loc pb ks) {j : Int} (hj : j ∈ ks) : w.cell? ⟨loc j.toNat, 2, none⟩ = some (.string (textAt ns j)) := by
  obtain ⟨m, hm, rfl⟩ := List.getElem_of_mem hj
  obtain ⟨bp, x, e, c, h0, hx, k0, k2⟩ := h m hm
  rw [textAt_of hx]; exact k2
set_option maxRecDepth 100000 in
theorem fieldFL (p : Option Addr) (n c b : Nat) (w : World) : (Instr.field 96 (.agg #[.slice p n c, .map (some b)]) 0).run Tryd.prog w = .ok (.slice p n c) w := by kernel_rfl
def FuncsOfRes (ns : List TN) (root : Int) (zs : List ByteArray) (c : Int) : Prop := (¬ TreeOkP ns root ∧ zs = [] ∧ c = 1) ∨ (TreeOkP ns root ∧ (zs = namesF ns root ∧ zs.length ≤ 1048576) ∧ c = 0)
theorem FuncsOfRes.det {ns : List TN} {root : Int} {zs zs' : List ByteArray} {c c' : Int} (h : FuncsOfRes ns root zs c) (h' : FuncsOfRes ns root zs' c') : zs = zs' ∧ c = c' := by
  rcases h with ⟨h1, rfl, rfl⟩ | ⟨h1, ⟨rfl, _⟩, rfl⟩ <;> rcases h' with ⟨g1, rfl, rfl⟩ | ⟨g1, ⟨rfl, _⟩, rfl⟩
  all_goals first | exact ⟨rfl, rfl⟩ | exact absurd h1 g1 | exact absurd g1 h1
theorem FuncsOfRes.len {ns : List TN} {root : Int} {zs : List ByteArray} {c : Int} (h : FuncsOfRes ns root zs c) : zs.length ≤ 1048576 := by
  rcases h with ⟨h1, rfl, rfl⟩ | ⟨h1, ⟨_, h2⟩, rfl⟩
  · simp
  · exact h2
theorem namesF_len {ns : List TN} {root : Int} {r : TN} (h : ns[root.toNat]? = some r) : (namesF ns root).length ≤ r.kids.length := by
  unfold namesF funsOf
  rw [List.length_map, rootKids_of h]
  exact fnsIn_len _ _

set_option maxHeartbeats 2000000 in
set_option maxRecDepth 100000 in
theorem implFuncsOf_any (ns : List TN) (root : Int) (L : Lay) (w : World) (hN : NodesAt w L ns) (hsm : Small ns) (htab : Hid (TabAt w 0 srcWords)) :
    Calls Tryd.prog 40 #[.agg #[.slice L.p ns.length L.cap, .int .i64 root]] w fun e w' => ∃ v zs c, e = .returned (.tuple #[v, .int .i64 c]) ∧ FuncsOfRes ns root zs c ∧ StrBuf w' w.heap.size v zs ∧ Below w.heap.size w w' := by
  have HN := hide hN
  have HS := hide hsm
  clear hN hsm
  go_enter Tryd.func40, Tryd.ntmps40
  go_wp2_with fail
  refine (rootOf_any ns root L _ ((unhide HN).later (nx_alloc _ _)) (unhide HS) (hide ((unhide htab).later (nx_alloc _ _)))).mono ?_
  rintro e w1 ⟨hb, hres⟩
  have hB := hide (nx_trans (nx_alloc _ _) hb)
  have hw1 : w.heap.size < w1.heap.size := by have := hb.size; simp at this; omega
  clear hb
  rcases hres with ⟨rfl, hno⟩ | ⟨G, B, loc, l, d, hT, hG, x, hxr, rfl⟩
  · have hD : Hid (FuncsOfRes ns root [] 1) := hide (.inl ⟨hno, rfl, rfl⟩)
    clear hno
    go_wp2
    go_ret2
    exact ⟨_, [], 1, rfl, unhide hD, StrBuf.nil _ _, unhide hB⟩
  obtain ⟨r, hr, _⟩ := hT.2.2.1
  have hrl : r.kids.length ≤ 1048576 := ((unhide HS).2 r (List.mem_of_getElem? hr)).2.2.1
  have hnl := namesF_len hr
  have hD : Hid (FuncsOfRes ns root (namesF ns root) 0) := hide (.inr ⟨⟨l, d, hT⟩, ⟨rfl, by omega⟩, rfl⟩)
  have hrx : ns[x]? = some r := by rw [← hxr, Int.toNat_natCast] at hr; exact hr
  obtain ⟨pb, cb, c7, hKU⟩ := hG.kids hT hrx
  have HF : Hid (namesF ns root = (fnsIn ns r.kids).map (textAt ns)) := hide (by unfold namesF funsOf; rw [rootKids_of hr])
  have HKU := hide hKU
  have HC := hide (listFunctions_any ns loc (loc x) cb pb r.kids w1 c7 hKU hrl (fun y hy => ((unhide HS).2 y hy).1))
  have hfl := fnsIn_len ns r.kids
  have HMJ : Hid (∀ j ∈ fnsIn ns r.kids, j ∈ r.kids) := hide (fun j hj => (fnsIn_mem.1 hj).1)
  clear hT hG hxr hr hrx hKU c7 hnl
  rw [unhide HF] at hD
  generalize loc x = gx at HC
  generalize hfs : fnsIn ns r.kids = fs at HC hD hfl HMJ
  go_wp2_with fail
  refine (unhide HC).mono ?_
  rintro e w2 ⟨v, b, n, rfl, hP, hM, hbl, hb2⟩
  obtain ⟨pv, cv, rfl, hPI⟩ := hP.ptrs (A := fun j => j < w2.heap.size) (fun j hj => (hP.own_lt j hj).2)
  have hB2 := hide (nx_trans (unhide hB) hb2)
  have hw2 := hb2.size
  have HPI := hide hPI
  have HK2 := hide ((unhide HKU).later hb2)
  clear hP hM hb2 hPI HKU
  rw [List.length_map]
  have hfld := fieldFL pv fs.length cv b w2
  go_wp2
  clear hfld
  go_loopw [6, 21] (fun s i wx => ∃ m : Nat, m ≤ fs.length ∧ i = .int .i64 m ∧ Hid (StrBuf wx w2.heap.size s ((fs.take m).map (textAt ns))) ∧ Hid (Below w2.heap.size w2 wx)) (fun _ i _ => fs.length - (intOf i).toNat)
  case atStart => exact ⟨0, by omega, rfl, hide (by simpa using StrBuf.nil _ _), hide (Below.refl _ _)⟩
  case round =>
    obtain ⟨m, hm, rfl, hS, hBx⟩ := hrel
    obtain ⟨ps, cs, rfl⟩ := (unhide hS).slice
    have hwx := (unhide hBx).size
    have hlm : ((fs.take m).map (textAt ns)).length = m := by rw [List.length_map, List.length_take]; omega
    by_cases hlt : m < fs.length
    · obtain ⟨bp, e1, hbp, y0⟩ := unhide HPI m (by rw [List.length_map]; exact hlt)
      subst e1
      rw [List.getElem_map] at y0
      have k2 := (unhide HK2).mem (unhide HMJ fs[m] (List.getElem_mem hlt))
      have y1 : wr.cell? ⟨bp, m, none⟩ = some (.pointer (some ⟨loc fs[m].toNat, 0, none⟩)) := by rw [(unhide hBx).cell (p := ⟨bp, m, none⟩) hbp]; exact y0
      have k3 : wr.cell? ⟨loc fs[m].toNat, 2, none⟩ = some (.string (textAt ns fs[m])) := by rw [(unhide hBx).cell (p := ⟨loc fs[m].toNat, 2, none⟩) (World.block_lt_of_cell? _ _ k2)]; exact k2
      have HTK : Hid ((fs.take m).map (textAt ns) ++ [textAt ns fs[m]] = (fs.take (m + 1)).map (textAt ns)) := hide (by rw [List.take_succ_eq_append_getElem hlt, List.map_append]; rfl)
      have hgl : loc fs[m].toNat < wr.heap.size := World.block_lt_of_cell? _ _ k3
      clear y0 k2
      rw [hlm] at hS ⊢
      generalize textAt ns fs[m] = u at k3 HTK
      generalize (fs.take m).map (textAt ns) = zs at hS HTK hlm
      generalize loc fs[m].toNat = gj at y1 k3 hgl
      go_wp2_with (at_builtin; refine wp_appStr _ rfl _ _ rfl w2.heap.size wr.heap.size _ zs u rfl ((unhide hS).alloc _) rfl (by simp) ?c1 ?c2 ?c3)
      case c1 => simp; omega
      case c2 => rw [hlm]; omega
      case c3 =>
        intro v' w3 hS3 hb3
        have HS3 : Hid (StrBuf w3 w2.heap.size v' ((fs.take (m + 1)).map (textAt ns))) := hide (by rw [← unhide HTK]; exact hS3)
        have HB3 := hide (((unhide hBx).alloc hwx _).trans hb3)
        clear hS3 hb3
        go_wp2
        go_roundw
        case rel => exact ⟨m + 1, by omega, by go_num, hide (unhide HS3), hide (unhide HB3)⟩
        case measure => simp [intOf]; omega
    · have HF3 : Hid (StrBuf wr w.heap.size (.slice ps ((fs.take m).map (textAt ns)).length cs) (fs.map (textAt ns))) := hide (by
        have := unhide hS
        rw [show m = fs.length by omega, List.take_length] at this ⊢
        exact ownsRow_le this (by omega))
      have HB3 := hide ((unhide hB2).trans ((unhide hBx).mono (by omega)))
      rw [hlm] at HF3 ⊢
      go_wp2
      go_ret2
      exact ⟨_, _, 0, rfl, unhide hD, unhide HF3, unhide HB3⟩

set_option maxHeartbeats 2000000 in
set_option maxRecDepth 100000 in
theorem specFuncsOf_any (ns : List TN) (root : Int) (L : Lay) (w : World) (hN : NodesAt w L ns) (hsm : Small ns) :
    Calls Tryd.prog 39 #[.agg #[.slice L.p ns.length L.cap, .int .i64 root]] w fun e w' => ∃ v zs c, e = .returned (.tuple #[v, .int .i64 c]) ∧ FuncsOfRes ns root zs c ∧ StrBuf w' w.heap.size v zs ∧ Below w.heap.size w w' := by
  have HN := hide hN
  have HS := hide hsm
  have hl := hsm.1
  clear hN hsm
  go_enter Tryd.func39, Tryd.ntmps39
  go_wp2_with fail
  refine (specTreeOK_any ns root L _ ((unhide HN).later (nx_alloc _ _)) (unhide HS)).mono ?_
  rintro e w1 ⟨b, rfl, hb, hb1⟩
  have hB := hide (nx_trans (nx_alloc _ _) hb1)
  have hw1 : w.heap.size < w1.heap.size := by have := hb1.size; simp at this; omega
  have c1 : ∀ o, w1.cell? ⟨w.heap.size, o, none⟩ = (w.alloc (.cells #[.slice L.p ns.length L.cap, .int .i64 root] 25)).cell? ⟨w.heap.size, o, none⟩ := fun o => hb1.cell (p := ⟨w.heap.size, o, none⟩) (by simp)
  have d0 : w1.cell? ⟨w.heap.size, 0, none⟩ = some (.slice L.p ns.length L.cap) := by rw [c1]; simp
  have d1 : w1.cell? ⟨w.heap.size, 1, none⟩ = some (.int .i64 root) := by rw [c1]; simp
  clear hb1 c1
  have HE : Hid (StrBuf (w1.alloc (.cells #[] 9)) w.heap.size (.slice (some ⟨w1.heap.size, 0, none⟩) 0 0) []) := hide (by simpa using StrBuf.lit w1 w.heap.size [] (by omega) (by decide))
  have HE1 : Hid (StrBuf (w1.alloc (.cells #[] 9)) w1.heap.size (.slice (some ⟨w1.heap.size, 0, none⟩) 0 0) []) := hide (by simpa using StrBuf.lit w1 w1.heap.size [] (by omega) (by decide))
  cases b
  · have hD : Hid (FuncsOfRes ns root [] 1) := hide (.inl ⟨fun h => (by have := hb.2 h; cases this), rfl, rfl⟩)
    clear hb
    go_wp2
    go_ret2
    exact ⟨_, [], 1, rfl, unhide hD, unhide HE, nx_al (unhide hB)⟩
  obtain ⟨l, d, hT⟩ := hb.1 rfl
  obtain ⟨hr0, hrl, hrn⟩ := hT.root
  obtain ⟨a, rfl⟩ : ∃ a : Nat, root = (a : Int) := ⟨root.toNat, by omega⟩
  rw [Int.toNat_natCast] at hrl hrn
  have hr : ns[(a : Int).toNat]? = some ns[a] := by rw [Int.toNat_natCast]; exact List.getElem?_eq_getElem hrn
  have hkl : ns[a].kids.length ≤ 1048576 := ((unhide HS).2 ns[a] (List.getElem_mem hrn)).2.2.1
  have hnl := namesF_len hr
  have HF : Hid (namesF ns (a : Int) = (fnsIn ns ns[a].kids).map (textAt ns)) := hide (by unfold namesF funsOf; rw [rootKids_of hr])
  have hD : Hid (FuncsOfRes ns (a : Int) ((fnsIn ns ns[a].kids).map (textAt ns)) 0) := hide (.inr ⟨⟨l, d, hT⟩, ⟨(unhide HF).symm, by rw [← unhide HF]; omega⟩, rfl⟩)
  have HKD : Hid (∀ j ∈ ns[a].kids, ∃ c : Nat, j = (c : Int) ∧ c < ns.length) := hide (fun j hj => by
    obtain ⟨h0, hm⟩ := hT.2.1.1.kid a hrl ns[a] (List.getElem?_eq_getElem hrn) j hj
    exact ⟨j.toNat, by omega, hT.2.1.1.lt _ hm⟩)
  obtain ⟨bn, off, hp, q0, q1, q2, q3, q4, q5, q6⟩ := (unhide HN).later (unhide hB) a hrn
  have HQ6 := hide q6
  have HNx := hide ((unhide HN).later (unhide hB))
  have hbn : bn < w1.heap.size := World.block_lt_of_cell? _ _ q4
  have hbn' : ¬ bn = w1.heap.size := by omega
  have hwb : w.heap.size < w1.heap.size := hw1
  clear hT hr hr0 hrl hb q0 q1 q2 q3 q5 q6 hnl HF
  rw [hp] at d0
  generalize ns[a].kids = ks at q4 HQ6 hkl hD HKD
  generalize L.pk a = pk at q4 HQ6
  generalize L.ck a = ck at q4
  go_wp2
  go_loopw [4, 6] (fun s i wx => ∃ m : Nat, m ≤ ks.length ∧ i = .int .i64 m ∧ Hid (StrBuf wx w1.heap.size s ((fnsIn ns (ks.take m)).map (textAt ns))) ∧ Hid (Below w1.heap.size w1 wx)) (fun _ i _ => ks.length - (intOf i).toNat)
  case atStart => exact ⟨0, by omega, rfl, hide (by simpa [fnsIn] using unhide HE1), hide ((Below.refl _ _).alloc (Nat.le_refl _) _)⟩
  case round =>
    clear HE HE1
    obtain ⟨m, hm, rfl, hS, hBx⟩ := hrel
    obtain ⟨ps, cs, rfl⟩ := (unhide hS).slice
    have hwx := (unhide hBx).size
    have hll : ((fnsIn ns (ks.take m)).map (textAt ns)).length ≤ m := by rw [List.length_map]; exact Nat.le_trans (fnsIn_len _ _) (by rw [List.length_take]; omega)
    by_cases hlt : m < ks.length
    · obtain ⟨bk, ok, hpk, y0⟩ := unhide HQ6 m hlt
      subst hpk
      obtain ⟨c, hkc, hcl⟩ := unhide HKD ks[m] (List.getElem_mem hlt)
      obtain ⟨bn2, off2, hp2, x0, x1, x2, x3, x4, x5, x6⟩ := unhide HNx c hcl
      rw [hp] at hp2
      obtain ⟨rfl, rfl⟩ := (by simpa using hp2 : bn = bn2 ∧ off = off2)
      have hkx : kindAt ns ks[m] = ns[c].k := kindAt_of (by rw [hkc, Int.toNat_natCast]; exact List.getElem?_eq_getElem hcl)
      have htx : textAt ns ks[m] = ns[c].t := textAt_of (by rw [hkc, Int.toNat_natCast]; exact List.getElem?_eq_getElem hcl)
      have hbk : bk < w1.heap.size := World.block_lt_of_cell? _ _ y0
      have d0' := cellB (unhide hBx) hwb d0
      have y0' := cellB (unhide hBx) hbk y0
      have x0' := cellB (unhide hBx) hbn x0
      have x2' := cellB (unhide hBx) hbn x2
      rw [hkc] at y0'
      clear x1 x3 x4 x5 x6 x0 x2 y0 hp2
      by_cases h20 : ns[c].k = 20
      · have HTK : Hid ((fnsIn ns (ks.take m)).map (textAt ns) ++ [ns[c].t] = (fnsIn ns (ks.take (m + 1))).map (textAt ns)) := hide (by rw [fnsIn_yes hlt (by rw [hkx, h20]), List.map_append, ← htx]; rfl)
        rw [h20] at x0'
        clear hkx htx h20 hkc
        generalize ns[c].t = u at x2' HTK
        generalize (fnsIn ns (ks.take m)).map (textAt ns) = zs at hS HTK hll ⊢
        have D0 := hide (show wr.drew.cell? ⟨w.heap.size, 0, none⟩ = some (.slice (some ⟨bn, off, none⟩) ns.length L.cap) from d0')
        have Y0 := hide (show wr.drew.cell? ⟨bk, ok + m, none⟩ = some (.int .i64 (c : Int)) from y0')
        have X2 := hide (show wr.drew.cell? ⟨bn, off + c * 5 + 2, none⟩ = some (.string u) from x2')
        have hc0 : (0 : Int) ≤ (c : Int) := Int.natCast_nonneg _
        have hc1 : (c : Int) < (ns.length : Int) := by omega
        have hm0 : (0 : Int) ≤ (m : Int) := Int.natCast_nonneg _
        have hm1 : (m : Int) < (ks.length : Int) := by omega
        have HSD := hide ((unhide hS).later (Below.refl wr.heap.size wr).drew)
        have HBD := hide (unhide hBx).drew
        have hwd : w1.heap.size ≤ wr.drew.heap.size := hwx
        go_wp2
        go_region
        clear hS hBx
        generalize wr.drew = wd at D0 Y0 X2 HSD HBD hwd ⊢
        clear d0' y0' x0' x2'
        have f0 := unhide D0
        have f1 := unhide Y0
        have f2 := unhide X2
        have hbk' : ¬ bk = wd.heap.size := by omega
        have hbn2 : ¬ bn = wd.heap.size := by omega
        have hws2 : ¬ w.heap.size = wd.heap.size := by omega
        go_wp2
        go_region_held3 (fun x => x.cell? ⟨w.heap.size, 0, none⟩ = some (.slice (some ⟨bn, off, none⟩) ns.length L.cap) ∧ x.cell? ⟨bk, ok + m, none⟩ = some (.int .i64 (c : Int)) ∧ x.cell? ⟨bn, off + c * 5 + 2, none⟩ = some (.string u)) (first | go_keep | (go_split_ands; exact ⟨cellB hb3 (by omega) (by assumption), cellB hb3 (by omega) (by assumption), cellB hb3 (by omega) (by assumption)⟩)) ((refine step_appStr _ (by rfl) _ _ (by rfl) w1.heap.size wd.heap.size _ zs u (by rfl) (((unhide HSD).later (Below.refl wd.heap.size wd).drew).alloc _) (by rfl) (by simp) (by simp; omega) (by omega) ?_; intro v3 w3 hS3 hb3))
        have HS3 : Hid (StrBuf w3 w1.heap.size v3 ((fnsIn ns (ks.take (m + 1))).map (textAt ns))) := hide (by rw [← unhide HTK]; exact hS3)
        have HB3 : Hid (Below w1.heap.size w1 w3) := hide (((unhide HBD).drew.alloc hwd _).trans hb3)
        clear hS3 hb3
        go_wp2
        go_roundw
        case rel => exact ⟨m + 1, by omega, by go_num, hide (unhide HS3), hide (unhide HB3)⟩
        case measure => simp [intOf]; omega
      · have HTK : Hid ((fnsIn ns (ks.take m)).map (textAt ns) = (fnsIn ns (ks.take (m + 1))).map (textAt ns)) := hide (by rw [fnsIn_no hlt (by rw [hkx]; exact h20)])
        have HS2 : Hid (StrBuf wr w1.heap.size (.slice ps ((fnsIn ns (ks.take m)).map (textAt ns)).length cs) ((fnsIn ns (ks.take (m + 1))).map (textAt ns))) := hide (by rw [← unhide HTK]; exact unhide hS)
        have e20 : (ns[c].k == 20) = false := beq_eq_false_iff_ne.2 h20
        clear hkx htx hkc HTK h20 hS
        generalize ns[c].k = nk at x0' e20
        generalize ((fnsIn ns (ks.take m)).map (textAt ns)).length = nz at HS2 hll ⊢
        go_wp2
        go_region
        all_goals go_wp2
        all_goals (go_roundw; (case rel => exact ⟨m + 1, by omega, by go_num, hide ((unhide HS2).later (Below.refl _ _).drew), hide (unhide hBx).drew⟩); (case measure => simp [intOf]; omega))
    · have HF3 : Hid (StrBuf wr w.heap.size (.slice ps ((fnsIn ns (ks.take m)).map (textAt ns)).length cs) ((fnsIn ns ks).map (textAt ns))) := hide (by
        have := unhide hS
        rw [show m = ks.length by omega, List.take_length] at this ⊢
        exact ownsRow_le this (by omega))
      have HB3 := hide ((unhide hB).trans ((unhide hBx).mono (by omega)))
      generalize ((fnsIn ns (ks.take m)).map (textAt ns)).length = nz at HF3 hll ⊢
      clear hS
      go_wp2
      go_ret2
      exact ⟨_, _, 0, rfl, unhide hD, unhide HF3, unhide HB3⟩

end Go.Proofs.YtbipgmikgokfpaaDoor
