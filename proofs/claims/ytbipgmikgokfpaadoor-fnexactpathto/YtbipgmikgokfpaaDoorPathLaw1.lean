/- The way to a node: what both sides answer; rows of numbers that were answered, marked. -/
import Derived.Test.YtbipgmikgokfpaaDoorSPath
import Derived.Test.YtbipgmikgokfpaaDoorTreeMark2
namespace Go.Proofs.YtbipgmikgokfpaaDoor
open Go.RowKit Go.Joins
set_option linter.unusedVariables false

def PathRes (ns : List TN) (root k : Int) (zs : List Int) (c : Int) : Prop := (¬ TreeOkP ns root ∧ zs = [] ∧ c = 1) ∨ (TreeOkP ns root ∧ ¬ (0 ≤ k ∧ k < ns.length) ∧ zs = [] ∧ c = 13) ∨ (TreeOkP ns root ∧ (0 ≤ k ∧ k < ns.length) ∧ PathIs ns root k.toNat zs ∧ c = 0)
theorem PathRes.det {ns : List TN} {root k : Int} {zs zs' : List Int} {c c' : Int} (h : PathRes ns root k zs c) (h' : PathRes ns root k zs' c') : zs = zs' ∧ c = c' := by
  rcases h with ⟨h1, rfl, rfl⟩ | ⟨h1, h2, rfl, rfl⟩ | ⟨h1, h2, h3, rfl⟩ <;> rcases h' with ⟨g1, rfl, rfl⟩ | ⟨g1, g2, rfl, rfl⟩ | ⟨g1, g2, g3, rfl⟩ <;> first | exact ⟨rfl, rfl⟩ | exact absurd h1 g1 | exact absurd g1 h1 | exact absurd h2 g2 | exact absurd g2 h2 | exact ⟨h3.det g3, rfl⟩
theorem PathRes.len {ns : List TN} {root k : Int} {zs : List Int} {c : Int} (h : PathRes ns root k zs c) : zs.length ≤ 1048576 := by
  rcases h with ⟨h1, rfl, rfl⟩ | ⟨h1, h2, rfl, rfl⟩ | ⟨h1, h2, h3, rfl⟩
  · simp
  · simp
  · obtain ⟨l, d, ps, hT, hu, rfl⟩ := h3
    obtain ⟨ps', hu', hl⟩ := hT.path (a := k.toNat) (by omega)
    rw [Up.det hT hu hu']
    simp
    omega

set_option maxHeartbeats 1000000 in
theorem implPathTo_any (ns : List TN) (root k : Int) (L : Lay) (w : World) (hN : NodesAt w L ns) (hsm : Small ns) (htab : Hid (TabAt w 0 srcWords)) :
    Calls Tryd.prog 20 #[.agg #[.slice L.p ns.length L.cap, .int .i64 root], .int .i64 k] w fun e w' => ∃ v zs c, e = .returned (.tuple #[v, .int .i64 c]) ∧ PathRes ns root k zs c ∧ IntBuf w' w.heap.size v zs ∧ Below w.heap.size w w' := by
  by_cases hk : 0 ≤ k ∧ k < ns.length
  · obtain ⟨a, rfl⟩ : ∃ a : Nat, k = (a : Int) := ⟨k.toNat, by omega⟩
    refine (implPathTo_in ns root a L w hN hsm htab (by omega)).mono ?_
    rintro e w1 ⟨hb, ⟨rfl, hno⟩ | ⟨v, zs, rfl, hP, hI⟩⟩
    · exact ⟨_, [], 1, rfl, .inl ⟨hno, rfl, rfl⟩, IntBuf.nil _ _, hb⟩
    · refine ⟨v, zs, 0, rfl, .inr (.inr ⟨?_, hk, by simpa using hP, rfl⟩), hI, hb⟩
      obtain ⟨l, d, ps, hT, _⟩ := hP
      exact ⟨l, d, hT⟩
  · have HN := hide hN
    have HS := hide hsm
    clear hN hsm
    go_enter Tryd.func20, Tryd.ntmps20
    go_wp2_with fail
    refine (branchOf_out ns root k L _ ((unhide HN).later (nx_alloc _ _)) (unhide HS) (hide ((unhide htab).later (nx_alloc _ _))) hk).mono ?_
    rintro e w1 ⟨hb, hres⟩
    have hB := hide (nx_trans (nx_alloc _ _) hb)
    clear hb
    rcases hres with ⟨rfl, hno⟩ | ⟨rfl, hok⟩
    · have hD : Hid (PathRes ns root k [] 1) := hide (.inl ⟨hno, rfl, rfl⟩)
      clear hno hk
      go_wp2
      go_ret2
      exact ⟨_, [], 1, rfl, unhide hD, IntBuf.nil _ _, unhide hB⟩
    · have hD : Hid (PathRes ns root k [] 13) := hide (.inr (.inl ⟨hok, hk, rfl, rfl⟩))
      clear hok hk
      go_wp2
      go_ret2
      exact ⟨_, [], 13, rfl, unhide hD, IntBuf.nil _ _, unhide hB⟩
theorem specPathTo_res (ns : List TN) (root k : Int) (L : Lay) (w : World) (hN : NodesAt w L ns) (hsm : Small ns) :
    Calls Tryd.prog 34 #[.agg #[.slice L.p ns.length L.cap, .int .i64 root], .int .i64 k] w fun e w' => ∃ v zs c, e = .returned (.tuple #[v, .int .i64 c]) ∧ PathRes ns root k zs c ∧ IntBuf w' w.heap.size v zs ∧ Below w.heap.size w w' := by
  refine (specPathTo_any ns root k L w hN hsm).mono ?_
  rintro e w1 ⟨hb, v, zs, c, he, hI, hres⟩
  exact ⟨v, zs, c, he, hres, hI, hb⟩

theorem IntBuf.touch {B E base : Nat} {w w' : World} {v : Value} {zs : List Int} (h : IntBuf w base v zs) (ht : Touch B E w w') (hE : E ≤ base) : IntBuf w' base v zs := by
  refine ⟨h.1, ?_⟩
  rcases h.2 with h' | ⟨g, cap, cur, e, hg, hgg, r⟩
  · exact .inl h'
  · exact .inr ⟨g, cap, cur, e, hg, by rw [ht.2 g (by omega) (Array.getElem?_eq_some_iff.1 hgg).1]; exact hgg, r⟩
theorem IntBuf.opened {w : World} {base n cap : Nat} {a : Option Addr} {zs : List Int} (h : IntBuf w base (.slice a n cap) zs) (h0 : 0 < zs.length) : ∃ g, a = some ⟨g, 0, none⟩ ∧ base ≤ g ∧ g < w.heap.size := by
  rcases h.2 with ⟨h', _⟩ | ⟨g, cap', cur, e, hg, hgg, r⟩
  · omega
  · injection e with e1 _ _
    exact ⟨g, e1, hg, (Array.getElem?_eq_some_iff.1 hgg).1⟩
/-- the marks from 1 on -/
def marksI (n : Nat) : List Int := (List.range n).map fun i : Nat => 1 + (i : Int)
theorem marksI_len (n : Nat) : (marksI n).length = n := by simp [marksI]
theorem marksI_get (n i : Nat) (h : i < (marksI n).length) : (marksI n)[i] = 1 + (i : Int) := by simp [marksI]
def mixI (zs : List Int) (k : Nat) : List Int := marksI k ++ zs.drop k
theorem mixI_len (zs : List Int) (k : Nat) (h : k ≤ zs.length) : (mixI zs k).length = zs.length := by
  unfold mixI; rw [List.length_append, marksI_len, List.length_drop]; omega
theorem mixI_zero (zs : List Int) : mixI zs 0 = zs := by simp [mixI, marksI]
theorem mixI_all (zs : List Int) : mixI zs zs.length = marksI zs.length := by simp [mixI]
theorem mixI_set (zs : List Int) (k : Nat) (h : k < zs.length) : (mixI zs k).set k (1 + (k : Int)) = mixI zs (k + 1) := by
  unfold mixI
  rw [List.set_append_right _ _ (by rw [marksI_len]; omega), marksI_len, Nat.sub_self, List.drop_eq_getElem_cons h, List.set_cons_zero]
  simp [marksI, List.range_succ]

set_option maxHeartbeats 2000000 in
set_option maxRecDepth 100000 in
theorem markIntS_buf (base : Nat) (a : Option Addr) (cap : Nat) (zs : List Int) (w : World) (hI : IntBuf w base (.slice a zs.length cap) zs) (hn : zs.length ≤ 1048576) :
    Calls Tryd.prog 37 #[.slice a zs.length cap, .int .i64 1] w fun e w' => e = .returned (.int .i64 (1 + (zs.length : Int))) ∧ IntBuf w' base (.slice a zs.length cap) (marksI zs.length) ∧ Below base w w' := by
  have HM := hide hI
  clear hI
  go_enter Tryd.func37, Tryd.ntmps37
  go_wp2
  go_loopw [1, 5] (fun m i wx => ∃ k : Nat, k ≤ zs.length ∧ i = .int .i64 k ∧ m = .int .i64 (1 + (k : Int)) ∧ Hid (IntBuf wx base (.slice a zs.length cap) (mixI zs k)) ∧ Hid (Below base w wx)) (fun _ i _ => zs.length - (intOf i).toNat)
  case atStart => exact ⟨0, by omega, rfl, by simp, hide (by rw [mixI_zero]; exact unhide HM), hide (Below.refl _ _)⟩
  case round =>
    clear HM
    obtain ⟨k, hk, rfl, rfl, hM, hT⟩ := hrel
    by_cases hlt : k < zs.length
    · have hml := mixI_len zs k hk
      obtain ⟨g, rfl, hgb, hgl⟩ := (unhide hM).opened (by omega)
      have HM2 : Hid (IntBuf (wr.setCell ⟨g, k, none⟩ (.int .i64 (1 + (k : Int)))) base (.slice (some ⟨g, 0, none⟩) zs.length cap) (mixI zs (k + 1))) := hide (by
        have := (unhide hM).set (i := k) (by omega) (1 + (k : Int))
        rw [mixI_set zs k hlt] at this
        exact this)
      have HT2 : Hid (Below base w (wr.setCell ⟨g, k, none⟩ (.int .i64 (1 + (k : Int))))) := hide ((unhide hT).setCell hgb _)
      have c0 := (unhide hM).get k (by omega)
      have f0 := (unhide hM).free k
      clear hM hT
      generalize (mixI zs k)[k] = u0 at c0
      go_wp2
      go_roundw
      case rel => exact ⟨k + 1, by omega, by go_num, int_eq (by omega), HM2, HT2⟩
      case measure => simp [intOf]; omega
    · obtain rfl : k = zs.length := by omega
      have HM2 : Hid (IntBuf wr base (.slice a zs.length cap) (marksI zs.length)) := hide (by rw [← mixI_all]; exact unhide hM)
      clear hM
      go_wp2
      go_ret
      exact ⟨rfl, unhide HM2, unhide hT⟩

set_option maxHeartbeats 2000000 in
set_option maxRecDepth 100000 in
theorem heldIntS_at (a : Option Addr) (n cap : Nat) (w : World) (hI : IntsAt w a (marksI n)) (hn : n ≤ 1048576) :
    Calls Tryd.prog 38 #[.slice a n cap, .int .i64 1] w fun e w' => e = .returned (.int .i64 (1 + (n : Int))) ∧ w' = w := by
  have HM := hide hI
  clear hI
  go_enter Tryd.func38, Tryd.ntmps38
  go_wp2
  go_loopw [1, 5] (fun m i wx => ∃ k : Nat, k ≤ n ∧ i = .int .i64 k ∧ m = .int .i64 (1 + (k : Int)) ∧ wx = w) (fun _ i _ => n - (intOf i).toNat)
  case atStart => exact ⟨0, by omega, rfl, by simp, rfl⟩
  case round =>
    obtain ⟨k, hk, rfl, rfl, rfl⟩ := hrel
    by_cases hlt : k < n
    · obtain ⟨b, off, rfl, c0⟩ := unhide HM k (by rw [marksI_len]; exact hlt)
      rw [marksI_get] at c0
      go_wp2
      go_roundw
      case rel => exact ⟨k + 1, by omega, by go_num, int_eq (by omega), trivial⟩
      case measure => simp [intOf]; omega
    · obtain rfl : k = n := by omega
      go_wp2
      go_ret
      exact ⟨rfl, rfl⟩
end Go.Proofs.YtbipgmikgokfpaaDoor
