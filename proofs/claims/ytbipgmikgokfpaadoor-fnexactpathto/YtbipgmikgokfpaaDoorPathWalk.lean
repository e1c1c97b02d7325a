/- The way from the outmost block to a node, the code's side. -/
import Derived.Test.YtbipgmikgokfpaaDoorParentWalk
namespace Go.Proofs.YtbipgmikgokfpaaDoor
open Go.RowKit Go.Joins
set_option linter.unusedVariables false

def lenV : Value → Nat
  | .slice _ n _ => n
  | _ => 0
theorem lenV_slice (a : Option Addr) (n c : Nat) : lenV (.slice a n c) = n := rfl
/-- the way to a node, from the outmost block on -/
def PathIs (ns : List TN) (root : Int) (a : Nat) (zs : List Int) : Prop := ∃ l d ps, TreeP ns root l d ∧ Up ns l root.toNat a ps ∧ zs = (ps.map fun x : Nat => (x : Int)).reverse
theorem Up.det {ns : List TN} {root : Int} {l l' : List Nat} {d : Nat} (hT : TreeP ns root l d) {y : Nat} {ps ps' : List Nat} (h : Up ns l root.toNat y ps) (h' : Up ns l' root.toNat y ps') : ps = ps' := by
  induction h generalizing ps' with
  | here hl =>
    cases h' with
    | here _ => rfl
    | step x _ ps' _ _ hp _ => exact absurd hp hT.noPar
  | step x y ps hx hy hp h ih =>
    cases h' with
    | here _ => exact absurd hp hT.noPar
    | step x' _ ps' _ _ hp' h'' =>
      obtain rfl := hT.uniq hp hp'
      rw [ih h'']
theorem PathIs.det {ns : List TN} {root : Int} {a : Nat} {zs zs' : List Int} (h : PathIs ns root a zs) (h' : PathIs ns root a zs') : zs = zs' := by
  obtain ⟨l, d, ps, hT, hu, rfl⟩ := h
  obtain ⟨l', d', ps', hT', hu', rfl⟩ := h'
  rw [Up.det hT hu hu']
theorem TreeP.path {ns : List TN} {root : Int} {l : List Nat} {d a : Nat} (h : TreeP ns root l d) (ha : a < ns.length) : ∃ ps, Up ns l root.toNat a ps ∧ ps.length ≤ 200 := by
  obtain ⟨j, hj, ps, hu, hd⟩ := h.2.1.1.up a (h.2.2.2 a ha)
  rw [List.mem_singleton] at hj
  subst hj
  have h1 := h.2.1.1.depth_le
  have h2 := nodup_le ns.length l h.2.1.2.1 h.2.1.1.lt
  have := h.1
  exact ⟨ps, hu, by omega⟩

/-- what is left of the way up: from y on, or nothing -/
def UpFrom (ns : List TN) (l : List Nat) (r : Nat) (loc : Nat → Nat) (full acc : List Int) (v : Value) : Prop :=
  (∃ y ps, v = .pointer (some ⟨loc y, 0, none⟩) ∧ Up ns l r y ps ∧ full = acc ++ ps.map fun x : Nat => (x : Int)) ∨ (v = .pointer none ∧ full = acc)

theorem IntBuf.set {w : World} {base g n cap i : Nat} {us : List Int} (h : IntBuf w base (.slice (some ⟨g, 0, none⟩) n cap) us) (hi : i < us.length) (z : Int) : IntBuf (w.setCell ⟨g, i, none⟩ (.int .i64 z)) base (.slice (some ⟨g, 0, none⟩) n cap) (us.set i z) := by
  refine ⟨by simp, ?_⟩
  rcases h.2 with ⟨e, _⟩ | ⟨g', cap', cur, e, hg, hgg, hn, hm, hs, ht⟩
  · cases e
  · simp at e
    obtain ⟨rfl, rfl, rfl⟩ := e
    refine .inr ⟨g, cap, cur.setIfInBounds i (.int .i64 z), by simp, hg, block_setCell hgg _, by simpa using hn, hm, by simpa using hs, ?_⟩
    rw [List.length_set, Array.toList_setIfInBounds, List.take_set, ht, List.map_set]
theorem IntBuf.free {w : World} {base g n cap : Nat} {us : List Int} (h : IntBuf w base (.slice (some ⟨g, 0, none⟩) n cap) us) (i : Nat) : w.frozen? ⟨g, i, none⟩ = false := by
  rcases h.2 with ⟨e, _⟩ | ⟨g', cap', cur, e, hg, hgg, _⟩
  · cases e
  · simp at e
    obtain ⟨rfl, rfl, rfl⟩ := e
    exact unfrozen_of_block hgg i
theorem IntBuf.get {w : World} {base g n cap : Nat} {us : List Int} (h : IntBuf w base (.slice (some ⟨g, 0, none⟩) n cap) us) (i : Nat) (hi : i < us.length) : w.cell? ⟨g, i, none⟩ = some (.int .i64 us[i]) := by
  have e : n = us.length := by
    obtain ⟨a, c, e⟩ := h.slice
    simp at e
    exact e.2.1
  subst e
  rw [World.ownsRow.cellAt h i (by omega)]
  simp [hi]
/-- the first k and the last k have changed places -/
def RevAt (zs us : List Int) (k : Nat) : Prop := us.length = zs.length ∧ ∀ i, i < zs.length → us[i]? = if i < k ∨ zs.length - 1 - i < k then zs[zs.length - 1 - i]? else zs[i]?
theorem RevAt.zero (zs : List Int) : RevAt zs zs 0 := ⟨rfl, fun i hi => by rw [if_neg (by omega)]⟩
theorem RevAt.done {zs us : List Int} {k : Nat} (h : RevAt zs us k) (hk : zs.length ≤ k + k + 1) : us = zs.reverse := by
  apply List.ext_getElem?
  intro i
  by_cases hi : i < zs.length
  · rw [h.2 i hi, List.getElem?_reverse hi]
    split
    · rfl
    · rw [show zs.length - 1 - i = i by omega]
  · rw [List.getElem?_eq_none (by rw [h.1]; omega), List.getElem?_eq_none (by rw [List.length_reverse]; omega)]
theorem RevAt.next {zs us : List Int} {k : Nat} {p q : Int} (h : RevAt zs us k) (hk : k + k + 1 < zs.length) (hp : us[k]? = some p) (hq : us[zs.length - 1 - k]? = some q) : RevAt zs ((us.set k q).set (zs.length - 1 - k) p) (k + 1) := by
  have hp' : zs[k]? = some p := by rw [← hp, h.2 k (by omega), if_neg (by omega)]
  have hq' : zs[zs.length - 1 - k]? = some q := by rw [← hq, h.2 (zs.length - 1 - k) (by omega), if_neg (by omega)]
  refine ⟨by simp [h.1], fun i hi => ?_⟩
  by_cases e1 : i = zs.length - 1 - k
  · subst e1
    rw [List.getElem?_set_self (by simp [h.1]; omega), if_pos (by omega), show zs.length - 1 - (zs.length - 1 - k) = k by omega, hp']
  · rw [List.getElem?_set_ne (by omega)]
    by_cases e2 : i = k
    · subst e2
      rw [List.getElem?_set_self (by rw [h.1]; omega), if_pos (by omega), hq']
    · rw [List.getElem?_set_ne (by omega), h.2 i hi]
      by_cases hc : i < k ∨ zs.length - 1 - i < k
      · rw [if_pos hc, if_pos (by omega)]
      · rw [if_neg hc, if_neg (by omega)]

set_option maxHeartbeats 1000000 in
set_option maxRecDepth 100000 in
theorem Reverse_any (base : Nat) (v : Value) (zs : List Int) (w : World) (hz : zs.length ≤ 1000) (hI : IntBuf w base v zs) :
    Calls Tryd.prog 56 #[v] w fun e w' => e = .returned (.tuple #[]) ∧ IntBuf w' base v zs.reverse ∧ Below base w w' ∧ w'.heap.size = w.heap.size := by
  by_cases h0 : zs.length = 0
  · have hz0 : zs = [] := List.length_eq_zero_iff.1 h0
    subst hz0
    obtain ⟨pa, cap, rfl⟩ := hI.slice
    have HI := hide hI
    clear hI h0
    go_enter Tryd.func56, Tryd.ntmps56
    go_wp2
    go_loopw [2, 3] (fun i j wx => i = .int .i64 0 ∧ j = .int .i64 (-1) ∧ Hid (wx = w)) (fun _ _ _ => 0)
    case atStart => exact ⟨rfl, rfl, hide rfl⟩
    case round =>
      obtain ⟨rfl, rfl, hw⟩ := hrel
      obtain rfl := unhide hw
      go_wp2
      go_end0
      exact ⟨rfl, unhide HI, Below.refl _ _, rfl⟩
  · obtain ⟨g, cap, rfl⟩ : ∃ g cap, v = .slice (some ⟨g, 0, none⟩) zs.length cap := ownsRow_form hI (by omega)
    have hgb : base ≤ g := (hI.own_lt g rfl).1
    have HI := hide hI
    clear hI
    go_enter Tryd.func56, Tryd.ntmps56
    go_wp2
    go_loopw [2, 3] (fun i j wx => ∃ (k : Nat) (us : List Int), k + k ≤ zs.length + 1 ∧ i = .int .i64 (k : Int) ∧ j = .int .i64 ((zs.length : Int) - 1 - (k : Int)) ∧ Hid (RevAt zs us k) ∧ Hid (IntBuf wx base (.slice (some ⟨g, 0, none⟩) zs.length cap) us) ∧ Hid (Below base w wx) ∧ wx.heap.size = w.heap.size) (fun i _ _ => zs.length - (intOf i).toNat)
    case atStart => exact ⟨0, zs, by omega, rfl, by simp, hide (RevAt.zero zs), HI, hide (Below.refl _ _), rfl⟩
    case round =>
      obtain ⟨k, us, hk, rfl, rfl, hr, hIx, hBx, hsz⟩ := hrel
      by_cases hlt : k + k + 1 < zs.length
      · have hul := (unhide hr).1
        have hk1 : k < us.length := by omega
        have hk2 : zs.length - 1 - k < us.length := by omega
        have y0 := (unhide hIx).get k hk1
        have y1 := (unhide hIx).get (zs.length - 1 - k) hk2
        have f0 := (unhide hIx).free k
        have f1 := (unhide hIx).free (zs.length - 1 - k)
        have hnx := hide ((unhide hr).next hlt (List.getElem?_eq_getElem hk1) (List.getElem?_eq_getElem hk2))
        have hIn := hide (((unhide hIx).set hk1 us[zs.length - 1 - k]).set (i := zs.length - 1 - k) (by rw [List.length_set]; exact hk2) us[k])
        generalize us[k] = p at y0 hnx hIn
        generalize us[zs.length - 1 - k] = q at y1 hnx hIn
        have hjj : ((zs.length : Int) - 1 - (k : Int)) = ((zs.length - 1 - k : Nat) : Int) := by omega
        have hlt2 : (k : Int) < ((zs.length - 1 - k : Nat) : Int) := by omega
        have hne : ¬ k = zs.length - 1 - k := by omega
        have hne2 : ¬ zs.length - 1 - k = k := by omega
        have hj3 : zs.length - 1 - k < zs.length := by omega
        have hk3 : k < zs.length := by omega
        rw [hjj]
        generalize hJ : zs.length - 1 - k = J at y1 f1 hnx hIn hlt2 hne hne2 hj3 ⊢
        go_wp2
        go_region
        all_goals go_wp2
        all_goals (go_roundw; (case rel => exact ⟨k + 1, _, by omega, by go_num, by congr 1; omega, hide (unhide hnx), hide ((unhide hIn).later (Below.refl _ _).drew), hide (((unhide hBx).setCell (p := ⟨g, k, none⟩) hgb _).setCell (p := ⟨g, J, none⟩) hgb _).drew, by simpa [World.drew] using hsz⟩); (case measure => simp [intOf]; omega))
      · have hD := hide ((unhide hr).done (by omega))
        have hlt2 : ¬ (k : Int) < (zs.length : Int) - 1 - (k : Int) := by omega
        go_wp2
        go_end0
        exact ⟨rfl, by rw [← unhide hD]; exact unhide hIx, unhide hBx, hsz⟩

set_option maxHeartbeats 2000000 in
set_option maxRecDepth 100000 in
theorem implPathTo_in (ns : List TN) (root : Int) (a : Nat) (L : Lay) (w : World) (hN : NodesAt w L ns) (hsm : Small ns) (htab : Hid (TabAt w 0 srcWords)) (ha : a < ns.length) :
    Calls Tryd.prog 20 #[.agg #[.slice L.p ns.length L.cap, .int .i64 root], .int .i64 (a : Int)] w fun e w' => Below w.heap.size w w' ∧ ((e = .returned (.tuple #[.slice none 0 0, .int .i64 1]) ∧ ¬ TreeOkP ns root) ∨ ∃ v zs, e = .returned (.tuple #[v, .int .i64 0]) ∧ PathIs ns root a zs ∧ IntBuf w' w.heap.size v zs) := by
  have HN := hide hN
  have HS := hide hsm
  clear hN hsm
  go_enter Tryd.func20, Tryd.ntmps20
  go_wp2_with fail
  refine (branchOf_in ns root a L _ ((unhide HN).later (nx_alloc _ _)) (unhide HS) (hide ((unhide htab).later (nx_alloc _ _))) ha).mono ?_
  rintro e w1 ⟨hb, hres⟩
  have hB := hide (nx_trans (nx_alloc _ _) hb)
  have hw1 : w.heap.size < w1.heap.size := by have := hb.size; simp at this; omega
  clear hb
  rcases hres with ⟨rfl, hno⟩ | ⟨G, B, loc, l, d, hT, hG, x, rfl, rfl⟩
  · have hD := hide hno
    clear hno
    go_wp2
    go_ret2
    exact ⟨unhide hB, .inl ⟨rfl, unhide hD⟩⟩
  obtain ⟨ps, hu, hpl⟩ := hT.path (a := x) ha
  obtain ⟨full, hfull⟩ : ∃ full, full = ps.map fun x : Nat => (x : Int) := ⟨_, rfl⟩
  have hfl : full.length ≤ 200 := by rw [hfull, List.length_map]; exact hpl
  have HPI : Hid (PathIs ns root x full.reverse) := hide ⟨l, d, ps, hT, hu, by rw [hfull]⟩
  have HUF : Hid (UpFrom ns l root.toNat loc full [] (.pointer (some ⟨loc x, 0, none⟩))) := hide (.inl ⟨x, ps, rfl, hu, by rw [hfull]; rfl⟩)
  have HT := hide hT
  have HG := hide hG
  clear hT hG hu hfull hpl
  generalize loc x = gx at HUF
  go_wp2
  go_loopw [6, 8] (fun s6 s8 wx => ∃ acc : List Int, Hid (UpFrom ns l root.toNat loc full acc s6) ∧ acc.length ≤ full.length ∧ Hid (IntBuf wx w1.heap.size s8 acc) ∧ Hid (Below w1.heap.size w1 wx)) (fun _ s8 _ => full.length - lenV s8)
  case atStart => exact ⟨[], HUF, by simp, hide (IntBuf.nil _ _), hide (Below.refl _ _)⟩
  case round =>
    obtain ⟨acc, hUF, hal, hI, hBx⟩ := hrel
    obtain ⟨pa, cap, rfl⟩ := (unhide hI).slice
    have hwx : w1.heap.size ≤ wr.heap.size := (unhide hBx).size
    rcases unhide hUF with ⟨y, ps, rfl, hu, hfull⟩ | ⟨rfl, hfull⟩
    · have hGx := (unhide HG).later (unhide hBx)
      obtain ⟨qs, hqs⟩ := hu.head
      have hyl : y ∈ l := hu.mem y (by rw [hqs]; simp)
      obtain ⟨n, pb, cb, hn, _, _, _, _, _, _, c5, _, _, _⟩ := hGx.br y hyl
      have hlen : acc.length < full.length := by rw [hfull, hqs]; simp
      obtain ⟨nv, c6, hnext⟩ : ∃ nv : Option Addr, wr.cell? ⟨loc y, 6, none⟩ = some (.pointer nv) ∧ UpFrom ns l root.toNat loc full (acc ++ [(y : Int)]) (.pointer nv) := by
        cases hu with
        | here _ => exact ⟨none, hGx.top, .inr ⟨rfl, by rw [hfull]; rfl⟩⟩
        | step p _ ps' hp _ hpar hu' =>
          obtain ⟨n', _, _, hn', _, _, _, _, _, _, _, _, _, hkid⟩ := hGx.br p hp
          obtain ⟨n'', hn'', j, hj, _, hjx⟩ := hpar
          rw [hn'] at hn''
          obtain rfl := Option.some.inj hn''
          have c6 := (hkid j hj).2.2
          rw [hjx] at c6
          exact ⟨some ⟨loc p, 0, none⟩, c6, .inl ⟨p, ps', rfl, hu', by rw [hfull, List.map_cons, List.append_assoc]; rfl⟩⟩
      have hgy : loc y < w1.heap.size := by
        obtain ⟨_, _, _, _, hA, _⟩ := (unhide HG).br y hyl
        exact hA
      have HNX := hide hnext
      clear hGx hu hfull hqs hyl hn hnext hUF
      generalize loc y = gy at c5 c6 hgy
      go_wp2_with (at_builtin; refine wp_appI _ rfl _ _ rfl w1.heap.size wr.heap.size _ acc (y : Int) rfl ((unhide hI).alloc _) rfl (by simp) ?c5 ?c3 ?c6)
      case c5 => first | omega | (simp; omega)
      case c3 => omega
      case c6 =>
        intro v' w3 hI3 hb3
        have hl3 : lenV v' = acc.length + 1 := by
          obtain ⟨pa', cap', rfl⟩ := hI3.slice
          simp [lenV]
        have d6 : w3.cell? ⟨gy, 6, none⟩ = some (.pointer nv) := by
          rw [hb3.cell (p := ⟨gy, 6, none⟩) hgy, (nx_alloc wr _).cell (p := ⟨gy, 6, none⟩) (by show gy < wr.heap.size; omega)]
          exact c6
        have HI3 := hide hI3
        have HB3 := hide (((unhide hBx).alloc hwx _).trans hb3)
        clear hI3 hb3 c5 c6
        go_wp2
        go_roundw
        case rel => exact ⟨acc ++ [(y : Int)], hide (unhide HNX), by simp; omega, hide (unhide HI3), hide (unhide HB3)⟩
        case measure => simp [hl3, lenV_slice]; omega
    · have hD : Hid (IntBuf wr w1.heap.size (.slice pa acc.length cap) full) := hide (by rw [hfull]; exact unhide hI)
      go_wp2_with fail
      refine (Reverse_any w1.heap.size (.slice pa acc.length cap) full wr (by omega) (unhide hD)).mono ?_
      rintro e w4 ⟨rfl, hI4, hb4, hs4⟩
      have hF : Hid (Below w.heap.size w w4) := hide (nx_trans (unhide hB) ((unhide hBx).trans hb4))
      have HI4 : Hid (IntBuf w4 w.heap.size (.slice pa acc.length cap) full.reverse) := hide (ownsRow_le hI4 (by omega))
      clear hI4 hb4 hs4 hfull
      go_wp2
      go_ret2
      exact ⟨unhide hF, .inr ⟨_, _, rfl, unhide HPI, unhide HI4⟩⟩

end Go.Proofs.YtbipgmikgokfpaaDoor
