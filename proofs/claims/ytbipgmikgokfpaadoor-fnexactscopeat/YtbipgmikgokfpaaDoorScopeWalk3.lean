/- What a function, or the outmost block, begins with: the specification's answer. -/
import Derived.Test.YtbipgmikgokfpaaDoorScopeWalk2
import Derived.Test.YtbipgmikgokfpaaDoorSWalk3
namespace Go.Proofs.YtbipgmikgokfpaaDoor
open Go.RowKit Go.Joins
set_option linter.unusedVariables false

set_option maxHeartbeats 2000000 in
set_option maxRecDepth 100000 in
theorem specScopeAt_any (ns : List TN) (root k : Int) (L : Lay) (w : World) (hN : NodesAt w L ns) (hsm : Small ns) :
    Calls Tryd.prog 44 #[.agg #[.slice L.p ns.length L.cap, .int .i64 root], .int .i64 k] w fun e w' => ∃ v zs c, e = .returned (.tuple #[v, .int .i64 c]) ∧ ScopeAtRes ns root k zs c ∧ StrBuf w' w.heap.size v zs ∧ Below w.heap.size w w' := by
  have HN := hide hN
  have HS := hide hsm
  have hl := hsm.1
  clear hN hsm
  go_enter Tryd.func44, Tryd.ntmps44
  go_wp2_with fail
  refine (specTreeOK_any ns root L _ ((unhide HN).later (nx_alloc _ _)) (unhide HS)).mono ?_
  rintro e w1 ⟨b, rfl, hb, hb1⟩
  have hB := hide (nx_trans (nx_alloc _ _) hb1)
  have hw1 : w.heap.size < w1.heap.size := by have := hb1.size; simp at this; omega
  have c1 : ∀ o, w1.cell? ⟨w.heap.size, o, none⟩ = (w.alloc (.cells #[.slice L.p ns.length L.cap, .int .i64 root] 25)).cell? ⟨w.heap.size, o, none⟩ := fun o => hb1.cell (p := ⟨w.heap.size, o, none⟩) (by simp)
  have d0 : w1.cell? ⟨w.heap.size, 0, none⟩ = some (.slice L.p ns.length L.cap) := by rw [c1]; simp
  have d1 : w1.cell? ⟨w.heap.size, 1, none⟩ = some (.int .i64 root) := by rw [c1]; simp
  clear hb1 c1
  have HE : Hid (StrBuf (w1.alloc (.cells #[] 9)) w.heap.size (.slice (some ⟨w1.heap.size, 0, none⟩) 0 0) []) := hide (by simpa using StrBuf.lit w1 w.heap.size [] (by omega) (by decide))
  have HE1 : Hid (StrBuf (w1.alloc (.cells #[] 9)) w1.heap.size (.slice (some ⟨w1.heap.size, 0, none⟩) 0 0) []) := hide (by simpa using StrBuf.lit w1 w1.heap.size [] (by omega) (by decide))
  cases b
  · have hD : Hid (ScopeAtRes ns root k [] 1) := hide (.inl ⟨fun h => (by have := hb.2 h; cases this), rfl, rfl⟩)
    clear hb
    go_wp2
    go_ret2
    exact ⟨_, [], 1, rfl, unhide hD, unhide HE, nx_al (unhide hB)⟩
  have HOK := hide (hb.1 rfl)
  clear hb
  by_cases hk : 0 ≤ k ∧ k < ns.length
  · obtain ⟨a, rfl⟩ : ∃ a : Nat, k = (a : Int) := ⟨k.toNat, by omega⟩
    have ha : a < ns.length := by omega
    have hin : (decide (0 ≤ (a : Int)) && decide ((a : Int) ≤ (ns.length : Int) - 1)) = true := by simp; omega
    have hna : ns[a]? = some ns[a] := List.getElem?_eq_getElem ha
    by_cases hr : (a : Int) = root
    · have hrk : ns[a].k ≠ 20 := by
        obtain ⟨l, d, hT⟩ := unhide HOK
        obtain ⟨r, hrr, h18⟩ := hT.2.2.1
        rw [← hr, Int.toNat_natCast, hna] at hrr
        obtain rfl := Option.some.inj hrr
        omega
      have hD : Hid (ScopeAtRes ns root (a : Int) [pathB] 0) := hide (.inr (.inr ⟨unhide HOK, ⟨ns[a], by omega, by rw [Int.toNat_natCast]; exact hna, .inr hr, by rw [if_neg hrk], by simp⟩, rfl⟩))
      subst hr
      have er : ((a : Int) != (a : Int)) = false := by simp
      clear hrk hna hk
      go_wp2_with fail
      refine (l01In_is a 0 ((ns.length : Int) - 1) true _ hin).mono ?_
      rintro e w1 ⟨rfl, rfl⟩
      go_wp2_with fail
      refine (l04Start_top ns (a : Int) L _).mono ?_
      rintro e w2 ⟨X, v, rfl, x2, hS2, hb2⟩
      have HS2 := hide hS2
      have HE2 := hide ((unhide HE1).later hb2)
      have hB2 := hide (nx_trans (nx_al (unhide hB)) hb2)
      have hw2 : w1.heap.size < w2.heap.size := by have := hb2.size; simp at this; omega
      clear hS2 hb2
      go_wp2_with (at_builtin; refine wp_appBuf _ rfl _ _ rfl w1.heap.size _ _ _ [] [pathB] rfl (unhide HE2) rfl (unhide HS2) ?c1 ?c2 ?c3)
      case c1 => omega
      case c2 => simp
      case c3 =>
        intro v3 w3 hS3 hb3
        have HF := hide (hS3.low (base' := w.heap.size) (by omega))
        have HBF := hide ((unhide hB2).trans (hb3.mono (by omega)))
        clear hS3 hb3
        go_wp2
        go_ret2
        exact ⟨_, _, 0, rfl, unhide hD, by simpa using unhide HF, unhide HBF⟩
    · have er : ((a : Int) != root) = true := by simp [hr]
      obtain ⟨b, off, hp, q0, _⟩ := (unhide HN).later (unhide hB) a ha
      have hnl : ns[a].names.length ≤ 1048576 := ((unhide HS).2 ns[a] (List.getElem_mem ha)).2.1
      rw [hp] at d0
      by_cases h20 : ns[a].k = 20
      · have hD : Hid (ScopeAtRes ns root (a : Int) ns[a].names 0) := hide (.inr (.inr ⟨unhide HOK, ⟨ns[a], by omega, by rw [Int.toNat_natCast]; exact hna, .inl h20, by rw [if_pos h20], hnl⟩, rfl⟩))
        have HC := hide (fun wx hb => l04Start_fun ns root a ns[a] L wx ((unhide HN).later hb) (unhide HS) hna hr)
        rw [h20] at q0
        rw [hp] at HC
        clear hna hk h20 hr hp
        generalize ns[a].names = zs at hD HC hnl
        go_wp2_with fail
        refine (l01In_is a 0 ((ns.length : Int) - 1) true _ hin).mono ?_
        rintro e w1 ⟨rfl, rfl⟩
        go_wp2_with fail
        refine (unhide HC _ (nx_al (unhide hB))).mono ?_
        rintro e w2 ⟨X, v, rfl, x2, hS2, hb2⟩
        have HS2 := hide hS2
        have HE2 := hide ((unhide HE1).later hb2)
        have hB2 := hide (nx_trans (nx_al (unhide hB)) hb2)
        have hw2 : w1.heap.size < w2.heap.size := by have := hb2.size; simp at this; omega
        clear hS2 hb2
        go_wp2_with (at_builtin; refine wp_appBuf _ rfl _ _ rfl w1.heap.size _ _ _ [] zs rfl (unhide HE2) rfl (unhide HS2) ?c1 ?c2 ?c3)
        case c1 => omega
        case c2 => simp; omega
        case c3 =>
          intro v3 w3 hS3 hb3
          have HF := hide (hS3.low (base' := w.heap.size) (by omega))
          have HBF := hide ((unhide hB2).trans (hb3.mono (by omega)))
          clear hS3 hb3
          go_wp2
          go_ret2
          exact ⟨_, _, 0, rfl, unhide hD, by simpa using unhide HF, unhide HBF⟩
      · have hD : Hid (ScopeAtRes ns root (a : Int) [] 13) := hide (.inr (.inl ⟨unhide HOK, fun ⟨n', _, hn', h'⟩ => by
          rw [Int.toNat_natCast, hna] at hn'
          obtain rfl := Option.some.inj hn'
          rcases h' with h' | h'
          · exact h20 h'
          · exact hr h', rfl, rfl⟩))
        have e20 : (ns[a].k != 20) = true := by simp [h20]
        clear hna hk h20 hr hp
        generalize ns[a].k = nk at q0 e20
        go_wp2_with fail
        refine (l01In_is a 0 ((ns.length : Int) - 1) true _ hin).mono ?_
        rintro e w1 ⟨rfl, rfl⟩
        go_wp2
        go_ret2
        exact ⟨_, [], 13, rfl, unhide hD, unhide HE, nx_al (unhide hB)⟩
  · have hD : Hid (ScopeAtRes ns root k [] 13) := hide (.inr (.inl ⟨unhide HOK, fun ⟨n, h0, hn, _⟩ => hk (by
      have := (List.getElem?_eq_some_iff.1 hn).1
      omega), rfl, rfl⟩))
    go_wp2_with fail
    refine (l01In_is k 0 ((ns.length : Int) - 1) false _ (by simp; omega)).mono ?_
    rintro e w1 ⟨rfl, rfl⟩
    clear hk
    go_wp2
    go_ret2
    exact ⟨_, [], 13, rfl, unhide hD, unhide HE, nx_al (unhide hB)⟩

end Go.Proofs.YtbipgmikgokfpaaDoor
