/- Branches that grow: 'grow'. -/
import Derived.Test.YtbipgmikgokfpaaDoorGrowWalk1
import Derived.Deep.CutRange
namespace Go.Proofs.YtbipgmikgokfpaaDoor
open Go.RowKit Go.Joins
set_option linter.unusedVariables false

/-- what the grown tree itself has -/
def GAt (w : World) (G B : Nat) (L : Lay) (n : Nat) (root : Int) : Prop := w.cell? ⟨G, 0, none⟩ = some (.slice L.p n L.cap) ∧ w.cell? ⟨G, 1, none⟩ = some (.int .i64 root) ∧ w.cell? ⟨G, 2, none⟩ = some (.slice (some ⟨B, 0, none⟩) n n)
theorem GAt.keep {w w' : World} {G B : Nat} {L : Lay} {n : Nat} {root : Int} (h : GAt w G B L n root) (hk : Keep B w w') (hG : G < w.heap.size) (hne : G ≠ B) : GAt w' G B L n root :=
  ⟨by rw [hk.cell hG hne]; exact h.1, by rw [hk.cell hG hne]; exact h.2.1, by rw [hk.cell hG hne]; exact h.2.2⟩

set_option maxHeartbeats 1000000 in
set_option maxRecDepth 100000 in
theorem grow_out (G B : Nat) (L : Lay) (n : Nat) (root k : Int) (par : Option Addr) (w : World) (h : GAt w G B L n root) (hn : n ≤ 200) (hk : ¬ (0 ≤ k ∧ k < n)) :
    Calls Tryd.prog 91 #[.pointer (some ⟨G, 0, none⟩), .int .i64 k, .pointer par] w fun e w' => e = .returned (.pointer none) ∧ w' = w := by
  obtain ⟨c0, c1, c2⟩ := h
  by_cases h0 : k < 0
  · clear hk
    go_enter Tryd.func91, Tryd.ntmps91
    go_wp2
    go_ret
    exact ⟨rfl, rfl⟩
  · have h1 : (n : Int) ≤ k := by omega
    clear hk
    go_enter Tryd.func91, Tryd.ntmps91
    go_wp2
    go_ret
    exact ⟨rfl, rfl⟩

set_option maxHeartbeats 1000000 in
set_option maxRecDepth 100000 in
theorem grow_seen (G B : Nat) (L : Lay) (n a g : Nat) (root : Int) (par : Option Addr) (w : World) (h : GAt w G B L n root) (hn : n ≤ 200) (ha : a < n) (hs : w.cell? ⟨B, a, none⟩ = some (.pointer (some ⟨g, 0, none⟩))) :
    Calls Tryd.prog 91 #[.pointer (some ⟨G, 0, none⟩), .int .i64 (a : Int), .pointer par] w fun e w' => e = .returned (.pointer none) ∧ w' = w := by
  obtain ⟨c0, c1, c2⟩ := h
  go_enter Tryd.func91, Tryd.ntmps91
  go_wp2
  go_ret
  exact ⟨rfl, rfl⟩

set_option maxHeartbeats 2000000 in
set_option maxRecDepth 100000 in
theorem grow_go (ns : List TN) (root : Int) (L : Lay) (G B : Nat) (w0 : World) (hN : NodesAt w0 L ns) (hsm : Small ns) (hn : ns.length ≤ 200) (hB : w0.heap.size ≤ B) (hGB : G ≠ B) (hG0 : w0.heap.size ≤ G) (htab : Hid (TabAt w0 0 srcWords))
    (S : List Nat) (a : Nat) (par : Option Addr) (loc : Nat → Nat) (w : World) (hS : Seen ns.length S) (ha : a < ns.length) (hns : a ∉ S) (htop : par.isNone = decide ((a : Int) = root))
    (hG : GAt w G B L ns.length root) (hGl : G < w.heap.size) (hBr : BrsAt w B ns.length S loc) (hBl : B < w.heap.size) (hw : Below w0.heap.size w0 w)
    (ih : ∀ (S' : List Nat) (j : Int) (par' : Option Addr) (loc' : Nat → Nat) (w' : World), S.length < S'.length → Seen ns.length S' → a ∈ S' → (∀ y ∈ S, y ∈ S') → par'.isNone = false → GAt w' G B L ns.length root → G < w'.heap.size → BrsAt w' B ns.length S' loc' → B < w'.heap.size → Below w0.heap.size w0 w' → Calls Tryd.prog 91 #[.pointer (some ⟨G, 0, none⟩), .int .i64 j, .pointer par'] w' (GrowPost ns root L B S' j par' loc' w')) :
    Calls Tryd.prog 91 #[.pointer (some ⟨G, 0, none⟩), .int .i64 (a : Int), .pointer par] w (GrowPost ns root L B S a par loc w) := by
  obtain ⟨c0, c1, c2⟩ := hG
  have s0 := hBr.no ha hns
  have sf := hBr.free a
  have HG := hide (show GAt w G B L ns.length root from ⟨c0, c1, c2⟩)
  have HBr := hide hBr
  have IH := hide ih
  obtain ⟨b, off, hp, q0, q1, q2, q3, q4, q5, q6⟩ := hN.later hw a ha
  have hxa : Hid (ns[a]? = some ns[a]) := hide (List.getElem?_eq_getElem ha)
  obtain ⟨z0, z1, z2, z3⟩ := hsm.2 ns[a] (List.getElem_mem ha)
  have HZ := hide z3
  have HQ5 := hide ((hN a ha).choose_spec.choose_spec.2.2.2.2.2.2.1)
  have HQ6 := hide ((hN a ha).choose_spec.choose_spec.2.2.2.2.2.2.2)
  have HW := hide hw
  have HS0 := hide hS
  have HNS := hide hns
  have hGB' : ¬ B = G := fun e => hGB e.symm
  clear hBr ih z3 q5 q6 hw hS hns hN hsm
  generalize ns[a] = x at q0 q1 q2 q3 q4 hxa z0 z1 z2 HZ HQ5 HQ6
  generalize hpk : L.pk a = pk at q4 HQ6
  have HPK := hide hpk
  clear hpk
  have e1 : decide ((a : Int) < 0) = false := decide_eq_false (by omega)
  have e2 : decide (ns.length ≤ a) = false := decide_eq_false (by omega)
  go_enter Tryd.func91, Tryd.ntmps91
  go_upto_region 5 with fail
  go_cut [59] from 52 to 58 (fun s59 wx => s59 = .bool (!nodeB x) ∧ Hid (BrsAt wx B ns.length (S ++ [a]) (fun y => if y = a then w.heap.size else loc y)) ∧ Hid (Keep B w wx) ∧ Hid (OwnB wx L w.heap.size a x par (.slice none 0 0)) ∧ wx.heap.size = w.heap.size + 1)
  case first =>
    have hfin : Hid (BrsAt ((w.setCell ⟨B, a, none⟩ (.pointer (some ⟨w.heap.size, 0, none⟩))).alloc (.cells #[.int .i64 x.k, .int .i64 x.n, .string x.t, .slice (L.pn a) x.names.length (L.cn a), .slice pk x.kids.length (L.ck a), .int .i64 (a : Int), .pointer par, .slice none 0 0] 70)) B ns.length (S ++ [a]) (fun y => if y = a then w.heap.size else loc y)) ∧ Hid (Keep B w ((w.setCell ⟨B, a, none⟩ (.pointer (some ⟨w.heap.size, 0, none⟩))).alloc (.cells #[.int .i64 x.k, .int .i64 x.n, .string x.t, .slice (L.pn a) x.names.length (L.cn a), .slice pk x.kids.length (L.ck a), .int .i64 (a : Int), .pointer par, .slice none 0 0] 70))) ∧ Hid (OwnB ((w.setCell ⟨B, a, none⟩ (.pointer (some ⟨w.heap.size, 0, none⟩))).alloc (.cells #[.int .i64 x.k, .int .i64 x.n, .string x.t, .slice (L.pn a) x.names.length (L.cn a), .slice pk x.kids.length (L.ck a), .int .i64 (a : Int), .pointer par, .slice none 0 0] 70)) L w.heap.size a x par (.slice none 0 0)) := by
      refine ⟨hide (((unhide HBr).set ha (unhide HNS)).same ?_), hide ((Keep.refl B w).set_it.alloc _), hide ?_⟩
      · exact Below.heap_alloc _ _ B (by simpa using hBl)
      · unfold OwnB
        rw [unhide HPK]
        have h9 := heap_alloc_new (w.setCell ⟨B, a, none⟩ (.pointer (some ⟨w.heap.size, 0, none⟩))) (.cells #[.int .i64 x.k, .int .i64 x.n, .string x.t, .slice (L.pn a) x.names.length (L.cn a), .slice pk x.kids.length (L.ck a), .int .i64 (a : Int), .pointer par, .slice none 0 0] 70)
        rw [show (w.setCell ⟨B, a, none⟩ (.pointer (some ⟨w.heap.size, 0, none⟩))).heap.size = w.heap.size by simp] at h9
        exact h9
    have hBW : Hid (Below w0.heap.size w0 ((w.setCell ⟨B, a, none⟩ (.pointer (some ⟨w.heap.size, 0, none⟩))).alloc (.cells #[.int .i64 x.k, .int .i64 x.n, .string x.t, .slice (L.pn a) x.names.length (L.cn a), .slice pk x.kids.length (L.ck a), .int .i64 (a : Int), .pointer par, .slice none 0 0] 70))) := hide ((unhide HW).trans ((unhide hfin.2.1).below hB (unhide HW).size))
    obtain ⟨HF1, HF2, HF3⟩ := hfin
    have HSA := hide ((unhide HQ5).later (unhide hBW))
    have HTB := hide (hide ((unhide htab).later (unhide hBW)))
    have o0 := (unhide HF3).cells.1
    have o1 := (unhide HF3).cells.2.1
    have o2 := (unhide HF3).cells.2.2.1
    have o3 := (unhide HF3).cells.2.2.2.1
    have o4 := (unhide HF3).cells.2.2.2.2.1
    have HO := hide (And.intro o0 (And.intro o1 (And.intro o2 (And.intro o3 o4))))
    clear o0 o1 o2 o3 o4 c0 c1 c2 s0 sf q0 q1 q2 q3 q4 hBW
    obtain ⟨cb, hcb⟩ : ∃ cb, countB x.k x.kids.length = cb := ⟨_, rfl⟩
    have HCB := hide hcb
    go_wp2_with fail
    refine (countOK_any w.heap.size x.k (L.pk a) x.kids.length (L.ck a) _ (unhide HO).1 (unhide HO).2.2.2.2).mono ?_
    rintro e w' ⟨rfl, rfl⟩
    rw [hcb]
    clear hcb
    cases cb
    · go_wp2
      go_meet
      case rel => exact ⟨by unfold nodeB; rw [unhide HCB]; rfl, HF1, HF2, HF3, by simp⟩
    · obtain ⟨pb, hpb⟩ : ∃ pb, partsB x = pb := ⟨_, rfl⟩
      have HPB := hide hpb
      go_wp2_with fail
      refine (partsOK_any w.heap.size x (L.pn a) (L.cn a) _ (unhide HCB) (unhide HO).1 (unhide HO).2.1 (unhide HO).2.2.1 (unhide HO).2.2.2.1 (by unfold maxLen; omega) (unhide HSA) z1 (unhide HZ) (unhide HTB)).mono ?_
      rintro e w' ⟨rfl, rfl⟩
      rw [hpb]
      clear hpb
      cases pb
      all_goals (go_wp2; go_meet; (case rel => exact ⟨by unfold nodeB; rw [unhide HCB, unhide HPB]; rfl, HF1, HF2, HF3, by simp⟩))
  case rest =>
    obtain ⟨rfl, hBr1, hK1, hO1, hsz⟩ := hcut
    clear c0 c1 c2 s0 sf q0 q1 q2 q3 q4
    obtain ⟨nb, hnb⟩ : ∃ nb, nodeB x = nb := ⟨_, rfl⟩
    have HNB := hide hnb
    rw [hnb]
    clear hnb
    cases nb
    · go_wp2
      go_ret
      exact ⟨unhide hK1, .inl ⟨rfl, fail_node (unhide hxa) (unhide HNB)⟩⟩
    have o4 := (unhide hO1).cells.2.2.2.2.1
    rw [unhide HPK] at o4
    rw [show (!true) = false from rfl]
    go_wp2
    go_loopw [66] (fun i wx => ∃ (m : Nat) (l : List Nat) (d : Nat) (loc2 : Nat → Nat) (v : Value), m ≤ x.kids.length ∧ i = .int .i64 m ∧ Hid (GrowAt ns root L B S a w.heap.size x par loc m l d loc2 v w wx)) (fun i _ => x.kids.length - (intOf i).toNat)
    case atStart => exact ⟨0, [], 0, _, _, by omega, rfl, hide (GrowAt.zero (unhide HNS) (unhide hK1) (unhide hBr1) (unhide hO1))⟩
    case round =>
      obtain ⟨m, l, d, loc2, v, hm, rfl, hA⟩ := hrel
      have hWx := hide ((unhide HW).trans ((unhide hA).keep.below hB (unhide HW).size))
      by_cases hlt : m < x.kids.length
      · obtain ⟨bk, ok, hpk2, y1⟩ := (unhide HQ6).later (unhide hWx) m hlt
        subst hpk2
        have hjm : Hid (x.kids[m]? = some x.kids[m]) := hide (List.getElem?_eq_getElem hlt)
        generalize x.kids[m] = j at y1 hjm
        have hSn := hide (((unhide HS0).snoc ha (unhide HNS)).more (unhide hA).ok)
        have hGx := hide ((unhide HG).keep (unhide hA).keep hGl hGB)
        have HIH := hide (unhide IH (S ++ [a] ++ l) j (some ⟨w.heap.size, 0, none⟩) loc2 wr (by have : ([a] : List Nat).length = 1 := rfl; rw [List.length_append, List.length_append]; omega) (unhide hSn) (by simp) (fun y hy => by simp [hy]) rfl (unhide hGx) (by have := (unhide hA).keep.size; omega) (unhide hA).brs (by have := (unhide hA).keep.size; omega) (unhide hWx))
        go_wp2_with fail
        refine (unhide HIH).mono ?_
        rintro e wy ⟨hky, hres⟩
        have HKY := hide hky
        clear hky HIH
        rcases hres with ⟨rfl, hno⟩ | ⟨l', d', loc3, rfl, hok, hbrs, hold, hkin, h6⟩
        · have hD := hide ((unhide hA).fail (unhide hxa) (unhide hjm) hno)
          clear hno
          go_wp2
          go_ret
          exact ⟨(unhide hA).keep.trans (unhide HKY), .inl ⟨rfl, unhide hD⟩⟩
        · have hjl : j.toNat ∈ l' := by
            obtain ⟨_, l1, d1, _, _, _, _, _, rfl, _⟩ := hok.one_inv
            simp
          obtain ⟨q, pb, cb, hq, hqA, k0, _⟩ := hkin _ hjl
          have hNr := (unhide hA).own.lt
          have hOy := hide ((unhide hA).own.same ((unhide HKY).block w.heap.size hNr (by omega)))
          have o0 := (unhide hOy).cells.1
          have o6 := (unhide hOy).cells.2.2.2.2.2.2.1
          have o7 := (unhide hOy).cells.2.2.2.2.2.2.2
          have of7 := (unhide hOy).free 7
          have hnx := hide (fun (v' : Value) (w3 : World) (o : Obj) ht hrow hb3 hk3 hv3 => GrowAt.next (v' := v') (w3 := w3) (o := o) (unhide hA) rfl (by omega) (unhide hjm) (unhide HKY) hok hbrs hold hkin h6 hq ht hrow hb3 hk3 hv3)
          have hft := hide (fun ht => fail_takes (root := root) (S := S) (unhide hxa) (unhide hjm) hq ht)
          have hPB := hide ((unhide hA).row.same (w' := wy) (fun b hb => (unhide HKY).block b ((unhide hA).row.own_lt b hb).2 (by have := ((unhide hA).row.own_lt b hb).1; omega)))
          have hwy : w.heap.size < wy.heap.size := by have := (unhide HKY).size; omega
          clear hok hbrs hold hkin h6 hq hqA
          generalize loc3 j.toNat = gj at k0 hnx
          obtain ⟨tb, htb⟩ : ∃ tb, takesB x.k (decide ((a : Int) = root)) m q.k = tb := ⟨_, rfl⟩
          rw [htb] at hft hnx
          go_wp2_with fail
          refine (takes_any w.heap.size x.k q.k m par wy o0 o6).mono ?_
          rintro e wy ⟨rfl, rfl⟩
          rw [htop, htb]
          clear htb
          cases tb
          · have hD := hide (unhide hft rfl)
            clear hft hnx
            go_wp2
            go_ret
            exact ⟨(unhide hA).keep.trans (unhide HKY), .inl ⟨rfl, unhide hD⟩⟩
          · clear hft
            go_wp2_with (at_builtin; refine wp_appP _ rfl _ _ rfl (w.heap.size + 1) wy.heap.size _ ((x.kids.take m).map fun j => loc2 j.toNat) gj rfl ((unhide hPB).alloc _) rfl (by simp) ?c5 ?c3 ?c6)
            case c5 => simp; omega
            case c3 => simp; omega
            case c6 =>
              intro v' w3 hrow hb3 hk3 hv3
              obtain ⟨pa, n', cap', rfl⟩ : ∃ pa n' cap', v' = .slice pa n' cap' := by
                obtain ⟨pa, cap', h⟩ := hrow.slice
                exact ⟨pa, _, cap', h⟩
              have hD := hide (unhide hnx _ w3 _ trivial (by rw [List.map_take]; exact hrow) hb3 (fun b hb h => hk3 b (by simpa using hb) h) (fun b hb => by have := hv3 b hb; simpa using this))
              have y7 : w3.cell? ⟨w.heap.size, 7, none⟩ = some v := by
                rw [hb3.cell (p := ⟨w.heap.size, 7, none⟩) (by simp)]
                rw [(nx_alloc wy _).cell (p := ⟨w.heap.size, 7, none⟩) hwy]
                exact o7
              have yf : w3.frozen? ⟨w.heap.size, 7, none⟩ = false := by
                rw [World.frozen?_of_block (hb3.block w.heap.size (by omega)), World.frozen?_of_block ((nx_alloc wy _).block w.heap.size hwy)]
                exact of7
              clear hnx hrow hb3 hk3 hv3 o0 o6 o7 of7 k0
              go_wp2
              go_roundw
              case rel => exact ⟨m + 1, _, _, _, _, by omega, by go_num, hide (unhide hD)⟩
              case measure => simp [intOf]; omega
      · have hD := hide ((unhide hA).done rfl (by omega) (unhide hxa) (unhide HNS) (unhide HNB))
        go_wp2
        go_ret
        exact unhide hD

end Go.Proofs.YtbipgmikgokfpaaDoor
