/- The functions of a tree that has grown: in their order, and by name. -/
import Derived.Test.YtpfglgfmebjeiaaDoorGrowWalk3
import Derived.Test.YtpfglgfmebjeiaaDoorStrBuf
import Derived.Test.YtpfglgfmebjeiaaDoorFunL
import Derived.Test.YtpfglgfmebjeiaaDoorMapSI
import Derived.Deep.RegionHeld3
namespace Go.Proofs.YtpfglgfmebjeiaaDoor
open Go.RowKit Go.Joins
set_option linter.unusedVariables false

theorem Keep.of_grown {b : Nat} {w w' : World} (h : w.grownBy w' (some b)) : Keep b w w' := ⟨h.os, h.tape, h.output, h.size, fun k hk hne => h.block k hk (fun e => hne (Option.some.inj e))⟩

set_option maxRecDepth 100000 in
theorem has_any (fs : Value) (b n : Nat) (f : ByteArray → Option Int) (s : ByteArray) (w : World) (hM : MapIs w b n f) (hs : s.size ≤ maxLen) :
    Calls Tryd.prog 66 #[.agg #[fs, .map (some b)], .string s] w fun e w' => e = .returned (.bool (f s).isSome) ∧ Below w.heap.size w w' := by
  have hl := (hM.later (nx_alloc w (.cells #[fs, .map (some b)] 87))).look s hs
  go_enter Tryd.func66, Tryd.ntmps66
  go_wp2
  go_ret
  exact ⟨rfl, nx_alloc _ _⟩

/-- so far: the functions among the first kids -/
structure FL (w : World) (ns : List TN) (loc : Nat → Nat) (fs : List Int) (v : Value) (m : Nat) (wx : World) : Prop where
  var : wx.heap[w.heap.size + 1 + 1]? = some (.cells #[v, .map (some (w.heap.size + 1))] 87 (0, 0))
  row : PtrBuf wx (w.heap.size + 1 + 1 + 1) v (fs.map fun j => loc j.toNat)
  map : MapIs wx (w.heap.size + 1) m (placeIn (fs.map (textAt ns)))
  res : wx.heap[w.heap.size]? = some (.cells #[.slice none 0 0, .map none] 87 (0, 0))
  below : Below w.heap.size w wx
  size : w.heap.size + 1 + 1 + 1 ≤ wx.heap.size
theorem FL.later {w : World} {ns : List TN} {loc : Nat → Nat} {fs : List Int} {v : Value} {m : Nat} {wx wy : World} (h : FL w ns loc fs v m wx) (hb : Below wx.heap.size wx wy) : FL w ns loc fs v m wy := by
  have hs := h.size
  exact ⟨by rw [hb.block _ (by omega)]; exact h.var, h.row.same (fun j hj => hb.block j (h.row.own_lt j hj).2), h.map.later hb, by rw [hb.block _ (by omega)]; exact h.res, nx_trans h.below hb, by have := hb.size; omega⟩
theorem FL.put {w : World} {ns : List TN} {loc : Nat → Nat} {fs fs' : List Int} {v : Value} {m m' : Nat} {wx wy : World} (h : FL w ns loc fs v m wx) (hk : Keep (w.heap.size + 1) wx wy) (hM : MapIs wy (w.heap.size + 1) m' (placeIn (fs'.map (textAt ns)))) : wy.heap[w.heap.size + 1 + 1]? = some (.cells #[v, .map (some (w.heap.size + 1))] 87 (0, 0)) ∧ PtrBuf wy (w.heap.size + 1 + 1 + 1) v (fs.map fun j => loc j.toNat) ∧ wy.heap[w.heap.size]? = some (.cells #[.slice none 0 0, .map none] 87 (0, 0)) ∧ Below w.heap.size w wy ∧ w.heap.size + 1 + 1 + 1 ≤ wy.heap.size := by
  have hs := h.size
  refine ⟨by rw [hk.block _ (by omega) (by omega)]; exact h.var, h.row.same (fun j hj => hk.block j (h.row.own_lt j hj).2 (by have := (h.row.own_lt j hj).1; omega)), by rw [hk.block _ (by omega) (by omega)]; exact h.res, h.below.trans (hk.below (by omega) (by omega)), by have := hk.size; omega⟩
/-- one function more, behind the map's part -/
theorem FL.more {w : World} {ns : List TN} {loc : Nat → Nat} {fs : List Int} {j : Int} {v v2 : Value} {m' : Nat} {wy w2 : World} {o : Obj} (hv : wy.heap[w.heap.size + 1 + 1]? = some (.cells #[v, .map (some (w.heap.size + 1))] 87 (0, 0))) (hr : wy.heap[w.heap.size]? = some (.cells #[.slice none 0 0, .map none] 87 (0, 0))) (hb : Below w.heap.size w wy) (hs : w.heap.size + 1 + 1 + 1 ≤ wy.heap.size)
    (hM : MapIs wy (w.heap.size + 1) m' (placeIn ((fs ++ [j]).map (textAt ns)))) (h2 : PtrBuf w2 (w.heap.size + 1 + 1 + 1) v2 ((fs.map fun j => loc j.toNat) ++ [loc j.toNat])) (hb2 : Below (w.heap.size + 1 + 1 + 1) (wy.alloc o) w2) : FL w ns loc (fs ++ [j]) v2 m' (w2.setCell ⟨w.heap.size + 1 + 1, 0, none⟩ v2) := by
  have hb3 : Below (w.heap.size + 1 + 1 + 1) wy w2 := ((Below.refl (w.heap.size + 1 + 1 + 1) wy).alloc hs o).trans hb2
  have hs2 := hb3.size
  have hv2 : w2.heap[w.heap.size + 1 + 1]? = some (.cells #[v, .map (some (w.heap.size + 1))] 87 (0, 0)) := by rw [hb3.block _ (by omega)]; exact hv
  refine ⟨(block_setCell hv2 v2).trans rfl, ?_, ?_, ?_, ?_, by simpa using Nat.le_trans hs hs2⟩
  · rw [List.map_append]
    refine PtrBuf.same h2 (fun k hk => ?_)
    have := (h2.own_lt k hk).1
    exact Below.heap_setCell w2 ⟨w.heap.size + 1 + 1, 0, none⟩ v2 k (by show k ≠ w.heap.size + 1 + 1; omega)
  · refine (hM.same (hb3.block _ (by omega))).same ?_
    exact Below.heap_setCell w2 ⟨w.heap.size + 1 + 1, 0, none⟩ v2 _ (by show w.heap.size + 1 ≠ w.heap.size + 1 + 1; omega)
  · rw [Below.heap_setCell w2 ⟨w.heap.size + 1 + 1, 0, none⟩ v2 _ (by show w.heap.size ≠ w.heap.size + 1 + 1; omega), hb3.block _ (by omega)]; exact hr
  · exact (hb.trans (hb3.mono (by omega))).setCell (by show w.heap.size ≤ w.heap.size + 1 + 1; omega) _

/-- a branch's kids lie there, each with its kind and text -/
def KidsUp (w : World) (ns : List TN) (loc : Nat → Nat) (pb : Option Addr) (ks : List Int) : Prop := ∀ m (h : m < ks.length), ∃ bp x, pb = some ⟨bp, 0, none⟩ ∧ w.cell? ⟨bp, m, none⟩ = some (.pointer (some ⟨loc ks[m].toNat, 0, none⟩)) ∧ 0 ≤ ks[m] ∧ ns[ks[m].toNat]? = some x ∧ w.cell? ⟨loc ks[m].toNat, 0, none⟩ = some (.int .i64 x.k) ∧ w.cell? ⟨loc ks[m].toNat, 2, none⟩ = some (.string x.t)
theorem KidsUp.later {w w' : World} {ns : List TN} {loc : Nat → Nat} {pb : Option Addr} {ks : List Int} (h : KidsUp w ns loc pb ks) (hb : Below w.heap.size w w') : KidsUp w' ns loc pb ks := fun m hm => by
  obtain ⟨bp, x, e, c, h0, hx, k0, k2⟩ := h m hm
  exact ⟨bp, x, e, cell_later hb c, h0, hx, cell_later hb k0, cell_later hb k2⟩

theorem push3b {α : Type} (h : Array α) (a b c : α) : (((h.push a).push b).push c)[h.size + 1 + 1]? = some c := by
  have e : ((h.push a).push b).size = h.size + 1 + 1 := by simp
  rw [← e, Array.getElem?_push_size]
theorem push3a {α : Type} (h : Array α) (a b c : α) : (((h.push a).push b).push c)[h.size]? = some a := by
  rw [Array.getElem?_push, if_neg (by simp; omega), Array.getElem?_push, if_neg (by simp), Array.getElem?_push_size]

set_option maxHeartbeats 2000000 in
set_option maxRecDepth 100000 in
theorem listFunctions_any (ns : List TN) (loc : Nat → Nat) (gr cb : Nat) (pb : Option Addr) (ks : List Int) (w : World) (c7 : w.cell? ⟨gr, 7, none⟩ = some (.slice pb ks.length cb)) (hK : KidsUp w ns loc pb ks) (hl : ks.length ≤ 1048576) (hsz : ∀ x ∈ ns, x.t.size ≤ 1048576) :
    Calls Tryd.prog 53 #[.pointer (some ⟨gr, 0, none⟩)] w fun e w' => ∃ v b n, e = .returned (.agg #[v, .map (some b)]) ∧ PtrBuf w' w.heap.size v ((fnsIn ns ks).map fun j => loc j.toNat) ∧ MapIs w' b n (placeIn ((fnsIn ns ks).map (textAt ns))) ∧ w.heap.size ≤ b ∧ Below w.heap.size w w' := by
  have hmm := @run_makeMap Tryd.prog
  have HK := hide hK
  have HZ := hide hsz
  have hgr : gr < w.heap.size := World.block_lt_of_cell? _ _ c7
  clear hK hsz
  have ca : ((w.alloc (.cells #[.slice none 0 0, .map none] 87)).alloc (.map #[] 0)).cell? ⟨gr, 7, none⟩ = some (.slice pb ks.length cb) := cell_later (nx_al (nx_alloc _ _)) c7
  have cb7 : (((w.alloc (.cells #[.slice none 0 0, .map none] 87)).alloc (.map #[] 0)).alloc (.cells #[.slice none 0 0, .map (some (w.heap.size + 1))] 87)).cell? ⟨gr, 7, none⟩ = some (.slice pb ks.length cb) := cell_later (nx_alloc _ _) ca
  have HF0 : Hid (FL w ns loc [] (.slice none 0 0) 0 (((w.alloc (.cells #[.slice none 0 0, .map none] 87)).alloc (.map #[] 0)).alloc (.cells #[.slice none 0 0, .map (some (w.heap.size + 1))] 87))) := hide (by
    have hM := MapIs.made (w.alloc (.cells #[.slice none 0 0, .map none] 87))
    have h1 : (w.alloc (.cells #[.slice none 0 0, .map none] 87)).heap.size = w.heap.size + 1 := by simp
    rw [h1] at hM
    refine ⟨?_, PtrBuf.nil _ _, ?_, ?_, nx_al (nx_al (nx_alloc _ _)), by simp⟩
    · exact push3b _ _ _ _
    · show MapIs _ _ _ (placeIn [])
      rw [placeIn_nil]
      exact hM.later (nx_alloc _ _)
    · exact push3a _ _ _ _)
  go_enter Tryd.func53, Tryd.ntmps53
  go_wp2
  generalize (((w.alloc (.cells #[.slice none 0 0, .map none] 87)).alloc (.map #[] 0)).alloc (.cells #[.slice none 0 0, .map (some (w.heap.size + 1))] 87)) = w0 at HF0 cb7 ⊢
  clear ca cb7 c7
  go_loopw [13] (fun i wx => ∃ (m n : Nat) (v : Value), m ≤ ks.length ∧ n ≤ m ∧ i = .int .i64 m ∧ Hid (FL w ns loc (fnsIn ns (ks.take m)) v n wx)) (fun i _ => ks.length - (intOf i).toNat)
  case atStart => exact ⟨0, 0, _, by omega, by omega, rfl, hide (by simpa [fnsIn] using unhide HF0)⟩
  case round =>
    clear HF0
    obtain ⟨m, n, v, hm, hnm, rfl, hF⟩ := hrel
    have hsz := (unhide hF).size
    by_cases hlt : m < ks.length
    · have hgj2 : loc ks[m].toNat < w.heap.size := by
        obtain ⟨_, _, _, _, _, _, k, _⟩ := unhide HK m hlt
        exact World.block_lt_of_cell? _ _ k
      obtain ⟨bp, x, hpb, y0, hj0, hx, k0, k2⟩ := ((unhide HK).later (unhide hF).below) m hlt
      subst hpb
      have hkx := kindAt_of hx
      by_cases h20 : x.k = 20
      · have HN := hide (fnsIn_yes (ns := ns) hlt (by rw [hkx, h20]))
        have htx := textAt_of hx
        have hxs : x.t.size ≤ 1048576 := unhide HZ x (List.mem_of_getElem? hx)
        rw [h20] at k0
        obtain ⟨pv, cv, hv⟩ := (unhide hF).row.slice
        have hfl : (fnsIn ns (ks.take m)).length ≤ m := Nat.le_trans (fnsIn_len _ _) (by rw [List.length_take]; omega)
        rw [List.length_map] at hv
        subst hv
        generalize hfs : fnsIn ns (ks.take m) = fs at hF HN hfl
        have v0 : wr.cell? ⟨w.heap.size + 1 + 1, 0, none⟩ = some (.slice pv fs.length cv) := (cell_of_block (unhide hF).var 0).trans rfl
        have v1 : wr.cell? ⟨w.heap.size + 1 + 1, 1, none⟩ = some (.map (some (w.heap.size + 1))) := (cell_of_block (unhide hF).var 1).trans rfl
        have HC := hide (has_any (.slice pv fs.length cv) (w.heap.size + 1) n (placeIn (fs.map (textAt ns))) x.t wr.drew ((unhide hF).map.later (Below.refl _ _).drew) (by unfold maxLen; omega))
        have HT := hide htx
        have hgj : loc ks[m].toNat < wr.heap.size := World.block_lt_of_cell? _ _ k0
        clear hfs hkx hx hj0 h20
        generalize hj : ks[m] = j at y0 k0 k2 HN HT htx hgj hgj2
        generalize hgl : loc j.toNat = gj at y0 k0 k2 hgj hgj2
        generalize x.t = s at k2 HC HT htx hxs
        have V0 := hide (show wr.drew.cell? ⟨w.heap.size + 1 + 1, 0, none⟩ = some (.slice pv fs.length cv) from v0)
        have V1 := hide (show wr.drew.cell? ⟨w.heap.size + 1 + 1, 1, none⟩ = some (.map (some (w.heap.size + 1))) from v1)
        have K2 := hide (show wr.drew.cell? ⟨gj, 2, none⟩ = some (.string s) from k2)
        go_wp2
        go_region_held3 (fun y => y.cell? ⟨w.heap.size + 1 + 1, 0, none⟩ = some (.slice pv fs.length cv) ∧ y.cell? ⟨w.heap.size + 1 + 1, 1, none⟩ = some (.map (some (w.heap.size + 1))) ∧ y.cell? ⟨gj, 2, none⟩ = some (.string s)) (go_keep) ((go_at_call 66; refine (unhide HC).mono ?_; rintro e y ⟨rfl, hby⟩; have z0 := cell_later hby (unhide V0); have z1 := cell_later hby (unhide V1); have z2 := cell_later hby (unhide K2); have HBY := hide hby; clear hby))
        have HFY : Hid (FL w ns loc fs (.slice pv fs.length cv) n y) := hide (((unhide hF).later (Below.refl _ _).drew).later (unhide HBY))
        have hgy : gj < y.heap.size := by have := (unhide HBY).size; exact Nat.lt_of_lt_of_le hgj this
        have hsy : w.heap.size + 1 + 1 + 1 ≤ y.heap.size := (unhide HFY).size
        clear hF HBY V0 V1 K2 HC v0 v1 k2 k0
        by_cases hmem : s ∈ fs.map (textAt ns)
        · have e1 := placeIn_mem hmem
          have e2 : (placeIn (fs.map (textAt ns)) s).isNone = false := by rw [← Option.not_isSome, e1]; rfl
          have HMP : Hid (MapIs y (w.heap.size + 1) n (placeIn ((fs ++ [j]).map (textAt ns)))) := hide (by
            rw [List.map_append, show List.map (textAt ns) [j] = [s] by rw [← unhide HT]; rfl, placeIn_old hmem]
            exact (unhide HFY).map)
          have HP := hide ((unhide HFY).put (fs' := fs) (Keep.refl _ y) (unhide HFY).map)
          clear hmem HFY
          rw [e1, e2]
          clear e1 e2
          obtain ⟨hva, hrow, hra, hba, hsa⟩ := unhide HP
          have a0 : y.cell? ⟨w.heap.size + 1 + 1, 0, none⟩ = some (.slice pv fs.length cv) := (cell_of_block hva 0).trans rfl
          have HROW := hide hrow
          have HX := hide (And.intro hva (And.intro hra (And.intro hba hsa)))
          clear hva hrow hra hba HP
          go_wp2_with (at_builtin; refine wp_appP _ rfl _ _ rfl (w.heap.size + 1 + 1 + 1) y.heap.size _ (fs.map fun j => loc j.toNat) gj rfl ((unhide HROW).alloc _) rfl (by simp) ?c1 ?c2 ?c3)
          case c1 => simp; omega
          case c2 => rw [List.length_map]; omega
          case c3 =>
            intro v2 w2 hP2 hb2 _ _
            obtain ⟨p2, c2, rfl⟩ := hP2.slice
            generalize ((fs.map fun j => loc j.toNat) ++ [gj]).length = n2 at hP2 ⊢
            obtain ⟨hva, hra, hba, hsa'⟩ := unhide HX
            have hvb : w2.heap[w.heap.size + 1 + 1]? = some (.cells #[.slice pv fs.length cv, .map (some (w.heap.size + 1))] 87 (0, 0)) := by
              rw [hb2.block _ (by omega), (nx_alloc y _).block _ (by omega)]; exact hva
            have b0 : w2.cell? ⟨w.heap.size + 1 + 1, 0, none⟩ = some (.slice pv fs.length cv) := (cell_of_block hvb 0).trans rfl
            have bf : w2.frozen? ⟨w.heap.size + 1 + 1, 0, none⟩ = false := unfrozen_of_block hvb 0
            have HD : Hid (FL w ns loc (fnsIn ns (ks.take (m + 1))) (.slice p2 n2 c2) n (w2.setCell ⟨w.heap.size + 1 + 1, 0, none⟩ (.slice p2 n2 c2))) := hide (by
              rw [unhide HN]
              exact FL.more hva hra hba hsa' (unhide HMP) (by rw [hgl]; exact hP2) hb2)
            clear hP2 hb2 hva hra hba hvb HX HROW HMP
            go_wp2
            go_roundw
            case rel => exact ⟨m + 1, n, _, by omega, by omega, by go_num, hide (unhide HD)⟩
            case measure => simp [intOf]; omega
        · have e1 := placeIn_not hmem
          have e2 : (placeIn (fs.map (textAt ns)) s).isNone = true := by rw [← Option.not_isSome, e1]; rfl
          obtain ⟨w5, hst, hM5, hg5⟩ := ((unhide HFY).map.later (Below.refl y.heap.size y).drew).store s (fs.length : Int) (by unfold maxLen; omega) (by unfold maxLen; omega) (WalkArith.wf_i64 (by omega))
          have HMP : Hid (MapIs w5 (w.heap.size + 1) (n + 1) (placeIn ((fs ++ [j]).map (textAt ns)))) := hide (by
            rw [List.map_append, show List.map (textAt ns) [j] = [s] by rw [← unhide HT]; rfl, placeIn_new hmem, List.length_map]
            exact hM5)
          have HP := hide (((unhide HFY).later (Below.refl y.heap.size y).drew).put (fs' := fs ++ [j]) (Keep.of_grown hg5) (unhide HMP))
          have hk5 := Keep.of_grown hg5
          have g2 : w5.cell? ⟨gj, 2, none⟩ = some (.string s) := by rw [hk5.cell hgy (by omega)]; exact z2
          clear hmem HFY hM5 hg5
          rw [e1, e2]
          clear e1 e2
          go_wp2
          go_region
          obtain ⟨hva, hrow, hra, hba, hsa⟩ := unhide HP
          have a0 : w5.cell? ⟨w.heap.size + 1 + 1, 0, none⟩ = some (.slice pv fs.length cv) := (cell_of_block hva 0).trans rfl
          have HROW := hide hrow
          have HX := hide (And.intro hva (And.intro hra (And.intro hba hsa)))
          clear hva hrow hra hba HP
          go_wp2_with (at_builtin; refine wp_appP _ rfl _ _ rfl (w.heap.size + 1 + 1 + 1) w5.heap.size _ (fs.map fun j => loc j.toNat) gj rfl ((unhide HROW).alloc _) rfl (by simp) ?c1 ?c2 ?c3)
          case c1 => simp; omega
          case c2 => rw [List.length_map]; omega
          case c3 =>
            intro v2 w2 hP2 hb2 _ _
            obtain ⟨p2, c2, rfl⟩ := hP2.slice
            generalize ((fs.map fun j => loc j.toNat) ++ [gj]).length = n2 at hP2 ⊢
            obtain ⟨hva, hra, hba, hsa'⟩ := unhide HX
            have hvb : w2.heap[w.heap.size + 1 + 1]? = some (.cells #[.slice pv fs.length cv, .map (some (w.heap.size + 1))] 87 (0, 0)) := by
              rw [hb2.block _ (by omega), (nx_alloc w5 _).block _ (by omega)]; exact hva
            have b0 : w2.cell? ⟨w.heap.size + 1 + 1, 0, none⟩ = some (.slice pv fs.length cv) := (cell_of_block hvb 0).trans rfl
            have bf : w2.frozen? ⟨w.heap.size + 1 + 1, 0, none⟩ = false := unfrozen_of_block hvb 0
            have HD : Hid (FL w ns loc (fnsIn ns (ks.take (m + 1))) (.slice p2 n2 c2) (n + 1) (w2.setCell ⟨w.heap.size + 1 + 1, 0, none⟩ (.slice p2 n2 c2))) := hide (by
              rw [unhide HN]
              exact FL.more hva hra hba hsa' (unhide HMP) (by rw [hgl]; exact hP2) hb2)
            clear hP2 hb2 hva hra hba hvb HX HROW HMP
            go_wp2
            go_roundw
            case rel => exact ⟨m + 1, n + 1, _, by omega, by omega, by go_num, hide (unhide HD)⟩
            case measure => simp [intOf]; omega
      · have HN := hide (fnsIn_no (ns := ns) hlt (by rw [hkx]; exact h20))
        have e20 : (x.k != 20) = true := by simp [h20]
        have HD : Hid (FL w ns loc (fnsIn ns (ks.take (m + 1))) v n wr) := hide (by rw [unhide HN]; exact unhide hF)
        clear hF HN hkx
        clear hgj2
        generalize loc ks[m].toNat = gj at y0 k0 k2
        go_wp2
        go_roundw
        case rel => exact ⟨m + 1, n, v, by omega, by omega, by go_num, hide (unhide HD)⟩
        case measure => simp [intOf]; omega
    · have hF2 := unhide hF
      rw [show m = ks.length by omega, List.take_length] at hF2
      obtain ⟨pv, cv, rfl⟩ := hF2.row.slice
      generalize ((fnsIn ns ks).map fun j => loc j.toNat).length = nv at hF hF2
      have v0 : wr.cell? ⟨w.heap.size + 1 + 1, 0, none⟩ = some (.slice pv nv cv) := (cell_of_block hF2.var 0).trans rfl
      have v1 : wr.cell? ⟨w.heap.size + 1 + 1, 1, none⟩ = some (.map (some (w.heap.size + 1))) := (cell_of_block hF2.var 1).trans rfl
      have r0 : wr.cell? ⟨w.heap.size, 0, none⟩ = some (.slice none 0 0) := (cell_of_block hF2.res 0).trans rfl
      have r1 : wr.cell? ⟨w.heap.size, 1, none⟩ = some (.map none) := (cell_of_block hF2.res 1).trans rfl
      have rf : ∀ i, wr.frozen? ⟨w.heap.size, i, none⟩ = false := unfrozen_of_block hF2.res
      have HD : Hid (PtrBuf ((wr.setCell ⟨w.heap.size, 0, none⟩ (.slice pv nv cv)).setCell ⟨w.heap.size, 1, none⟩ (.map (some (w.heap.size + 1)))) w.heap.size (.slice pv nv cv) ((fnsIn ns ks).map fun j => loc j.toNat) ∧ MapIs ((wr.setCell ⟨w.heap.size, 0, none⟩ (.slice pv nv cv)).setCell ⟨w.heap.size, 1, none⟩ (.map (some (w.heap.size + 1)))) (w.heap.size + 1) n (placeIn ((fnsIn ns ks).map (textAt ns))) ∧ Below w.heap.size w ((wr.setCell ⟨w.heap.size, 0, none⟩ (.slice pv nv cv)).setCell ⟨w.heap.size, 1, none⟩ (.map (some (w.heap.size + 1))))) := hide (by
        have hk : Keep w.heap.size wr ((wr.setCell ⟨w.heap.size, 0, none⟩ (.slice pv nv cv)).setCell ⟨w.heap.size, 1, none⟩ (.map (some (w.heap.size + 1)))) := (Keep.refl _ _).set_it.set_it
        refine ⟨ownsRow_le (hF2.row.same (fun j hj => hk.block j (hF2.row.own_lt j hj).2 (by have := (hF2.row.own_lt j hj).1; omega))) (by omega), hF2.map.same (hk.block _ (by omega) (by omega)), hF2.below.trans (hk.below (by omega) (by omega))⟩)
      clear hF hF2
      go_wp2
      refine bodyPost_ret (v := .agg #[.slice pv nv cv, .map (some (w.heap.size + 1))]) (by simp [results, Tryd.results53, go_sem, *]) rfl ⟨.slice pv nv cv, w.heap.size + 1, n, rfl, (unhide HD).1, (unhide HD).2.1, by omega, (unhide HD).2.2⟩

end Go.Proofs.YtpfglgfmebjeiaaDoor
