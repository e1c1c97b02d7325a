/- Requests that are drawn are read back: the law. -/
import Derived.Test.YthfoabcmgiiadaaGreatDoorWireX2
import Derived.Test.YthfoabcmgiiadaaGreatDoorWireX3
import Derived.Test.YthfoabcmgiiadaaGreatDoorWireP
import Derived.Test.YthfoabcmgiiadaaGreatDoorSrcWalk
import Derived.Test.YthfoabcmgiiadaaGreatDoorAtWalk
import Derived.Test.YthfoabcmgiiadaaGreatDoorRowOf
namespace Go.Proofs.YthfoabcmgiiadaaGreatDoor
open Go.RowKit Go.Shelf Go.Joins
set_option linter.unusedVariables false

set_option maxHeartbeats 1000000 in
theorem sourceW_any (a : Option Addr) (len cap : Nat) (w : World) (hlen : len ≤ 1048577) :
    Calls Tryz.prog 33 #[.slice a len cap] w fun e w' => e = .returned (.pointer (some ⟨w.heap.size, 0, none⟩)) ∧ Below w.heap.size w w' ∧ w.heap.size < w'.heap.size ∧ SrcAt w' w.heap.size a len cap 0 ((len : Int) % 1000) := by
  go_enter Tryz.func33, Tryz.ntmps33
  go_wp2
  go_ret
  exact ⟨rfl, qx_alloc _ _, by simp, by simp, by simp, by simp, by simp, by simp, by omega, by omega, by omega, by omega⟩
theorem row_blockW {w : World} {a : Option Addr} {len : Nat} (h : ByteRow w a len) (h0 : 0 < len) : ∀ x, a = some x → x.block < w.heap.size := fun x hx => by
  obtain ⟨b, off, c, h1, h2, _⟩ := h 0 h0
  rw [h1] at hx
  cases hx
  exact World.block_lt_of_cell? _ _ h2

theorem only_trans_below {B g : Nat} {w w1 w2 : World} (h : Below B w w1) (ho : OnlyAt g w1 w2) (hB : B ≤ g) : Below B w w2 := h.trans (only_below ho hB)
theorem SrcAt.other {w w' : World} {g : Nat} {a : Option Addr} {len cap : Nat} {n seed : Int} (h : SrcAt w g a len cap n seed) (hb : Below w.heap.size w w') (hg : g < w.heap.size) : SrcAt w' g a len cap n seed := by
  obtain ⟨hc, hf⟩ := qcell hb
  exact ⟨by rw [hc g 0 hg]; exact h.c0, by rw [hc g 1 hg]; exact h.c1, by rw [hc g 2 hg]; exact h.c2, by rw [hf g 1 hg]; exact h.z1, by rw [hf g 2 hg]; exact h.z2, h.s0, h.s1, h.a0, h.a1⟩

set_option maxHeartbeats 4000000 in
set_option maxRecDepth 100000 in
theorem request_any (g : Nat) (a : Option Addr) (len cap : Nat) (seed : Int) (w : World) (h : SrcAt w g a len cap 0 seed) (hlen : len ≤ 1048577) (hrow : ByteRow w a len) (hg : 0 < len → ∀ x, a = some x → x.block < g) (hgw : g < w.heap.size) :
    Calls Tryz.prog 41 #[.pointer (some ⟨g, 0, none⟩)] w fun e w' => ∃ (j : Nat) (c : Bool), j < 9 ∧ e = .returned (.agg #[.string (wireP j), .bool c]) ∧ Below g w w' := by
  have HS := hide h
  have HR := hide hrow
  have HG := hide hg
  clear h hrow hg
  go_enter Tryz.func41, Tryz.ntmps41
  go_wp2_with fail
  have hts : Hid (∀ (W : World), W = ((w.alloc (.cells #[.string ⟨#[]⟩, .bool false] 31)).alloc (.cells (wirePaths.map fun l => Value.string ⟨l.toArray⟩).toArray 9)) → SrcAt W g a len cap 0 seed ∧ ByteRow W a len ∧ ∀ j, j < 9 → W.cell? ⟨w.heap.size + 1, j, none⟩ = some (.string (wireP j))) := hide (by
    rintro W rfl
    have hb : Below w.heap.size w ((w.alloc (.cells #[.string ⟨#[]⟩, .bool false] 31)).alloc (.cells (wirePaths.map fun l => Value.string ⟨l.toArray⟩).toArray 9)) := qx_al (qx_alloc _ _)
    refine ⟨(unhide HS).other hb hgw, (unhide HR).later hb, fun j hj => ?_⟩
    have e9 : (wirePaths.map fun l => Value.string ⟨l.toArray⟩).toArray[j]? = some (.string (wireP j)) := by
      have hl : wirePaths.length = 9 := rfl
      simp [wireP, hl, hj]
    rw [← e9]
    simp)
  obtain ⟨hs1, hr1, ht1⟩ := unhide hts _ rfl
  refine (pick_any g a len cap 0 seed (w.heap.size + 1) 9 9 wireP _ hs1 (by omega) hlen hr1 (fun h0 x hx => Nat.ne_of_lt (unhide HG h0 x hx)) (by omega) (by omega) (by omega) ht1).mono ?_
  rintro e w1 ⟨j, s', hj, rfl, hs1', ho1⟩
  have hr2 := hide (show ByteRow w1 a len from fun i hi => by
    obtain ⟨b, off, c, e1, e2, e3⟩ := hr1 i hi
    have : b ≠ g := Nat.ne_of_lt (unhide HG (by omega) _ e1)
    exact ⟨b, off, c, e1, by rw [only_cell ho1 this]; exact e2, e3⟩)
  have hbw : Below g w w1 := ((qx_al (qx_alloc _ _)).mono (Nat.le_of_lt hgw)).trans (only_below ho1 (Nat.le_refl _))
  have HS2 := hide hs1'
  have hres := hide (show ReqAt w1 w.heap.size ⟨#[]⟩ false from by
    have := (ReqAt.new w ⟨#[]⟩ false w.heap.size rfl 31).later (qx_alloc _ (.cells (wirePaths.map fun l => Value.string ⟨l.toArray⟩).toArray 9))
    obtain ⟨q0, q1, q2, q3, q4⟩ := this
    have hne : w.heap.size ≠ g := by omega
    exact ⟨by rw [only_cell ho1 hne]; exact q0, by rw [only_cell ho1 hne]; exact q1, by rw [only_frozen ho1 hne]; exact q2, by rw [only_frozen ho1 hne]; exact q3, by rw [ho1.size]; exact q4⟩)
  clear hs1 hr1 ht1 hs1' ho1 hts
  go_wp2_with fail
  refine (chance_any g a len cap (0 + 1) s' 8 _ (unhide HS2) (by omega) hlen (unhide hr2) (fun h0 x hx => Nat.ne_of_lt (unhide HG h0 x hx)) (by omega) (by omega)).mono ?_
  rintro e w2 ⟨c, s'', rfl, _, ho2⟩
  have hne : w.heap.size ≠ g := by omega
  obtain ⟨rc0, rc1, rf0, rf1, rl⟩ : ReqAt w2 w.heap.size ⟨#[]⟩ false := by
    obtain ⟨q0, q1, q2, q3, q4⟩ := unhide hres
    exact ⟨by rw [only_cell ho2 hne]; exact q0, by rw [only_cell ho2 hne]; exact q1, by rw [only_frozen ho2 hne]; exact q2, by rw [only_frozen ho2 hne]; exact q3, by rw [ho2.size]; exact q4⟩
  have hbw2 : Below g w w2 := hbw.trans (only_below ho2 (Nat.le_refl _))
  clear hne ho2
  go_wp2
  exact bodyPost_ret (v := .agg #[.string (wireP j), .bool c]) (by simp [results, Tryz.results41, go_sem, rc0, rc1]) rfl ⟨j, c, hj, rfl, ((hbw2.setCell (Nat.le_of_lt hgw) _).setCell (Nat.le_of_lt hgw) _)⟩

set_option maxHeartbeats 2000000 in
theorem RequestOf_any (a : Option Addr) (len cap : Nat) (w : World) (hlen : len ≤ 1048577) (hrow : ByteRow w a len) :
    Calls Tryz.prog 22 #[.slice a len cap] w fun e w' => ∃ (j : Nat) (c : Bool), j < 9 ∧ e = .returned (.agg #[.string (wireP j), .bool c]) ∧ Below w.heap.size w w' := by
  have HR := hide hrow
  clear hrow
  go_enter Tryz.func22, Tryz.ntmps22
  go_wp2_with fail
  refine (sourceW_any a len cap _ hlen).mono ?_
  rintro e w1 ⟨rfl, hb1, hz1, hs1⟩
  have hr1 := hide ((unhide HR).later (qx_trans (qx_alloc _ _) hb1))
  have HS1 := hide hs1
  have hres := hide ((ReqAt.new w ⟨#[]⟩ false w.heap.size rfl 31).later hb1)
  have hz0 : w.heap.size + 1 < w1.heap.size := by simpa using hz1
  have htop := hide (qx_trans (qx_alloc w (.cells #[.string ⟨#[]⟩, .bool false] 31)) hb1)
  have hgr : Hid (0 < len → ∀ x, a = some x → x.block < w.heap.size + 1) := hide fun h0 x hx => Nat.lt_succ_of_lt (row_blockW (unhide HR) h0 x hx)
  clear hs1 hb1 hz1
  simp only [World.size_alloc] at HS1
  go_wp2_with fail
  refine (request_any (w.heap.size + 1) a len cap _ _ (unhide HS1) hlen (unhide hr1) (unhide hgr) hz0).mono ?_
  rintro e w2 ⟨j, c, hj, rfl, hb2⟩
  obtain ⟨rc0, rc1, rf0, rf1, rl⟩ := (unhide hres).below hb2 (Nat.lt_succ_self _)
  have htop2 := hide ((unhide htop).trans (hb2.mono (by omega)))
  clear hb2
  go_wp2
  exact bodyPost_ret (v := .agg #[.string (wireP j), .bool c]) (by simp [results, Tryz.results22, go_sem, rc0, rc1]) rfl ⟨j, c, hj, rfl, qx_set (qx_set (unhide htop2) (Nat.le_refl _)) (Nat.le_refl _)⟩

end Go.Proofs.YthfoabcmgiiadaaGreatDoor
