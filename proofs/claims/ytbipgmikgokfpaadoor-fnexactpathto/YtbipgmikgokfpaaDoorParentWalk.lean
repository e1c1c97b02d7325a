/- Which one is a node's parent: code and specification. -/
import Derived.Test.YtbipgmikgokfpaaDoorSSize
namespace Go.Proofs.YtbipgmikgokfpaaDoor
open Go.RowKit Go.Joins
set_option linter.unusedVariables false

theorem Par.lt {ns : List TN} {x y : Nat} (h : Par ns x y) : x < ns.length := by
  obtain ⟨n, hn, _⟩ := h
  exact (List.getElem?_eq_some_iff.1 hn).1
theorem TreeP.parent {ns : List TN} {root : Int} {l : List Nat} {d a : Nat} (h : TreeP ns root l d) (ha : a < ns.length) (hr : (a : Int) ≠ root) : ∃ x ∈ l, Par ns x a := by
  obtain ⟨j, hj, ps, hu, _⟩ := h.2.1.1.up a (h.2.2.2 a ha)
  rw [List.mem_singleton] at hj
  subst hj
  cases hu with
  | here _ => exact absurd (Int.toNat_of_nonneg h.root.1) hr
  | step x _ ps hx _ hp _ => exact ⟨x, hx, hp⟩
theorem TreeP.uniq {ns : List TN} {root : Int} {l : List Nat} {d a x x' : Nat} (h : TreeP ns root l d) (hp : Par ns x a) (hp' : Par ns x' a) : x = x' :=
  (h.2.1.1.uniq h.2.1.2.1).2 x (h.2.2.2 x hp.lt) x' (h.2.2.2 x' hp'.lt) a hp hp'
theorem TreeP.noPar {ns : List TN} {root : Int} {l : List Nat} {d x : Nat} (h : TreeP ns root l d) : ¬ Par ns x root.toNat := fun hp =>
  (h.2.1.1.uniq h.2.1.2.1).1 x (h.2.2.2 x hp.lt) root (by simp) hp
/-- what a call that tells a parent answers -/
def ParentRes (ns : List TN) (root k r c : Int) : Prop := (¬ TreeOkP ns root ∧ r = 0 ∧ c = 1) ∨ (TreeOkP ns root ∧ ¬ (0 ≤ k ∧ k < ns.length) ∧ r = 0 ∧ c = 13) ∨ (TreeOkP ns root ∧ (0 ≤ k ∧ k < ns.length) ∧ k = root ∧ r = 0 ∧ c = 5) ∨ (TreeOkP ns root ∧ (0 ≤ k ∧ k < ns.length) ∧ k ≠ root ∧ (∃ x : Nat, Par ns x k.toNat ∧ r = (x : Int)) ∧ c = 0)
theorem ParentRes.det {ns : List TN} {root k r c r' c' : Int} (h : ParentRes ns root k r c) (h' : ParentRes ns root k r' c') : r = r' ∧ c = c' := by
  rcases h with ⟨a, rfl, rfl⟩ | ⟨a, b, rfl, rfl⟩ | ⟨a, b, e, rfl, rfl⟩ | ⟨a, b, e, ⟨x, p, rfl⟩, rfl⟩ <;> rcases h' with ⟨a', rfl, rfl⟩ | ⟨a', b', rfl, rfl⟩ | ⟨a', b', e', rfl, rfl⟩ | ⟨a', b', e', ⟨x', p', rfl⟩, rfl⟩
  all_goals first | exact ⟨rfl, rfl⟩ | exact absurd a a' | exact absurd a' a | exact absurd b b' | exact absurd b' b | exact absurd e e' | exact absurd e' e | skip
  obtain ⟨l, d, hT⟩ := a
  rw [hT.uniq p p']
  exact ⟨rfl, rfl⟩

set_option maxRecDepth 100000 in
theorem implParentOf_any (ns : List TN) (root k : Int) (L : Lay) (w : World) (hN : NodesAt w L ns) (hsm : Small ns) (htab : Hid (TabAt w 0 srcWords)) :
    Calls Tryd.prog 18 #[.agg #[.slice L.p ns.length L.cap, .int .i64 root], .int .i64 k] w fun e w' => ∃ r c : Int, e = .returned (.tuple #[.int .i64 r, .int .i64 c]) ∧ ParentRes ns root k r c ∧ Below w.heap.size w w' := by
  have HN := hide hN
  have HS := hide hsm
  clear hN hsm
  by_cases hk : 0 ≤ k ∧ k < ns.length
  · obtain ⟨a, rfl⟩ : ∃ a : Nat, k = (a : Int) := ⟨k.toNat, by omega⟩
    go_enter Tryd.func18, Tryd.ntmps18
    go_wp2_with fail
    refine (branchOf_in ns root a L _ ((unhide HN).later (nx_alloc _ _)) (unhide HS) (hide ((unhide htab).later (nx_alloc _ _))) (by omega)).mono ?_
    rintro e w1 ⟨hb, hres⟩
    have hB := hide (nx_trans (nx_alloc _ _) hb)
    clear hb
    rcases hres with ⟨rfl, hno⟩ | ⟨G, B, loc, l, d, hT, hG, x, rfl, rfl⟩
    · have hD : Hid (ParentRes ns root (a : Int) 0 1) := hide (.inl ⟨hno, rfl, rfl⟩)
      clear hno
      go_wp2
      go_ret2
      exact ⟨0, 1, rfl, unhide hD, unhide hB⟩
    · by_cases hr : (x : Int) = root
      · have c6 := hG.top
        rw [← hr, Int.toNat_natCast] at c6
        have hD : Hid (ParentRes ns root (x : Int) 0 5) := hide (.inr (.inr (.inl ⟨⟨l, d, hT⟩, hk, hr, rfl, rfl⟩)))
        clear hT hG hr
        generalize loc x = gx at c6
        go_wp2
        go_ret2
        exact ⟨0, 5, rfl, unhide hD, unhide hB⟩
      · obtain ⟨p, hpl, hp⟩ := hT.parent (a := x) (by omega) hr
        have hD : Hid (ParentRes ns root (x : Int) (p : Int) 0) := hide (.inr (.inr (.inr ⟨⟨l, d, hT⟩, hk, hr, ⟨p, by rw [Int.toNat_natCast]; exact hp, rfl⟩, rfl⟩)))
        obtain ⟨n, pb, cb, hn, _, _, _, _, _, _, c5, _, _, hkid⟩ := hG.br p hpl
        obtain ⟨n', hn', j, hj, _, hjx⟩ := hp
        rw [hn] at hn'
        obtain rfl := Option.some.inj hn'
        have c6 := (hkid j hj).2.2
        rw [hjx] at c6
        clear hT hG hr hkid hn hj hjx hpl
        generalize loc x = gx at c6
        generalize loc p = gp at c5 c6
        go_wp2
        go_ret2
        exact ⟨_, 0, rfl, unhide hD, unhide hB⟩
  · go_enter Tryd.func18, Tryd.ntmps18
    go_wp2_with fail
    refine (branchOf_out ns root k L _ ((unhide HN).later (nx_alloc _ _)) (unhide HS) (hide ((unhide htab).later (nx_alloc _ _))) hk).mono ?_
    rintro e w1 ⟨hb, hres⟩
    have hB := hide (nx_trans (nx_alloc _ _) hb)
    clear hb
    rcases hres with ⟨rfl, hno⟩ | ⟨rfl, hok⟩
    · have hD : Hid (ParentRes ns root k 0 1) := hide (.inl ⟨hno, rfl, rfl⟩)
      clear hno hk
      go_wp2
      go_ret2
      exact ⟨0, 1, rfl, unhide hD, unhide hB⟩
    · have hD : Hid (ParentRes ns root k 0 13) := hide (.inr (.inl ⟨hok, hk, rfl, rfl⟩))
      clear hok hk
      go_wp2
      go_ret2
      exact ⟨0, 13, rfl, unhide hD, unhide hB⟩

/-- no kid so far is it, and one that is comes -/
def NoKid (ks : List Int) (a : Nat) (m : Nat) : Prop := ∃ p, m ≤ p ∧ ks[p]? = some (a : Int)

set_option maxHeartbeats 2000000 in
set_option maxRecDepth 100000 in
theorem l03Parent_any (ns : List TN) (root : Int) (a x : Nat) (L : Lay) (w : World) (hN : NodesAt w L ns) (hsm : Small ns) (hp : Par ns x a) (hu : ∀ y, Par ns y a → y = x) :
    Calls Tryd.prog 72 #[.agg #[.slice L.p ns.length L.cap, .int .i64 root], .int .i64 (a : Int)] w fun e w' => e = .returned (.int .i64 (x : Int)) ∧ Below w.heap.size w w' := by
  have hx := hp.lt
  have hnl := hsm.1
  have HN := hide (hN.later (nx_alloc w (.cells #[.slice L.p ns.length L.cap, .int .i64 root] 25)))
  have HS := hide hsm.2
  have HP := hide hp
  have HU := hide hu
  clear hN hsm hp hu
  go_enter Tryd.func72, Tryd.ntmps72
  go_wp2
  go_loopw [5] (fun i wx => ∃ m : Nat, m ≤ x ∧ i = .int .i64 m ∧ Hid (wx = w.alloc (.cells #[.slice L.p ns.length L.cap, .int .i64 root] 25))) (fun i _ => x + 1 - (intOf i).toNat)
  case atStart => exact ⟨0, by omega, rfl, hide rfl⟩
  case round =>
    obtain ⟨m, hm, rfl, hw⟩ := hrel
    obtain rfl := unhide hw
    have t0 : (w.alloc (.cells #[.slice L.p ns.length L.cap, .int .i64 root] 25)).cell? ⟨w.heap.size, 0, none⟩ = some (.slice L.p ns.length L.cap) := by simp
    obtain ⟨b, off, hp, q0, q1, q2, q3, q4, q5, q6⟩ := unhide HN m (by omega)
    have hkl := (unhide HS ns[m] (List.getElem_mem (by omega))).2.2.1
    have HPar : Hid (∀ j, j ∈ ns[m].kids → j = (a : Int) → m = x) := hide (fun j hj e => unhide HU m ⟨ns[m], List.getElem?_eq_getElem (by omega), j, hj, by omega, by omega⟩)
    have HNK : Hid (m = x → NoKid ns[m].kids a 0) := hide (fun e => by
      obtain ⟨n, hn, j, hj, h0, hja⟩ := unhide HP
      rw [← e, List.getElem?_eq_getElem (by omega)] at hn
      obtain rfl := Option.some.inj hn
      obtain ⟨p, hpl, hpe⟩ := List.getElem_of_mem hj
      exact ⟨p, by omega, by rw [List.getElem?_eq_getElem hpl, hpe]; congr 1; omega⟩)
    generalize hW0 : w.alloc (.cells #[.slice L.p ns.length L.cap, .int .i64 root] 25) = wb at t0 q4 q6 ⊢
    have HBW : Hid (Below w.heap.size w wb) := hide (by rw [← hW0]; exact nx_alloc _ _)
    have HWB := hide hW0
    rw [hp] at t0
    clear q0 q1 q2 q3 q5 hw hp hW0
    have hmn : m < ns.length := by omega
    generalize ns[m] = y at q4 q6 hkl HPar HNK
    have Q6 := hide q6
    clear q6
    go_wp2
    go_loopw [6] (fun i wx => ∃ p : Nat, p ≤ y.kids.length ∧ i = .int .i64 p ∧ Hid (m = x → NoKid y.kids a p) ∧ Hid (wx = wb)) (fun i _ => y.kids.length - (intOf i).toNat)
    case atStart => exact ⟨0, by omega, rfl, HNK, hide rfl⟩
    case round =>
      obtain ⟨p, hpl, rfl, hnk, hw2⟩ := hrel
      obtain rfl := unhide hw2
      by_cases hlt : p < y.kids.length
      · obtain ⟨bk, ok, hpk, y1⟩ := unhide Q6 p hlt
        rw [hpk] at q4
        clear hpk
        have hmem := List.getElem_mem hlt
        have hget := List.getElem?_eq_getElem hlt
        have HM := hide (fun (e : y.kids[p] = (a : Int)) => unhide HPar y.kids[p] hmem e)
        have HNX : Hid (y.kids[p] ≠ (a : Int) → m = x → NoKid y.kids a (p + 1)) := hide (fun hne e => by
          obtain ⟨p', h1, h2⟩ := unhide hnk e
          refine ⟨p', ?_, h2⟩
          by_cases hpp : p' = p
          · subst hpp
            rw [hget] at h2
            exact absurd (Option.some.inj h2) hne
          · omega)
        clear hmem hget
        generalize y.kids[p] = j at y1 HM HNX
        by_cases hja : j = (a : Int)
        · have hmx := unhide HM hja
          have e1 : (j == (a : Int)) = true := by simp [hja]
          clear hja HM HNX
          subst hmx
          go_wp2
          go_ret
          exact ⟨rfl, unhide HBW⟩
        · have e1 : (j == (a : Int)) = false := beq_eq_false_iff_ne.2 hja
          have hd := hide (unhide HNX hja)
          clear hja HM HNX
          go_wp2
          go_roundw
          case rel => exact ⟨p + 1, by omega, by go_num, hide (unhide hd), hide trivial⟩
          case measure => simp [intOf]; omega
      · have hmx : m ≠ x := fun e => by
          obtain ⟨p', h1, h2⟩ := unhide hnk e
          have := (List.getElem?_eq_some_iff.1 h2).1
          omega
        have hmx2 : m + 1 ≤ x := by omega
        clear hmx
        go_wp2
        go_roundw
        case rel => exact ⟨m + 1, hmx2, by go_num, hide trivial⟩
        case measure => simp [intOf]; omega

set_option maxRecDepth 100000 in
theorem specParentOf_any (ns : List TN) (root k : Int) (L : Lay) (w : World) (hN : NodesAt w L ns) (hsm : Small ns) :
    Calls Tryd.prog 32 #[.agg #[.slice L.p ns.length L.cap, .int .i64 root], .int .i64 k] w fun e w' => ∃ r c : Int, e = .returned (.tuple #[.int .i64 r, .int .i64 c]) ∧ ParentRes ns root k r c ∧ Below w.heap.size w w' := by
  have HN := hide hN
  have HS := hide hsm
  clear hN hsm
  go_enter Tryd.func32, Tryd.ntmps32
  go_wp2_with fail
  refine (l03Place_any ns root k L _ ((unhide HN).later (nx_alloc _ _)) (unhide HS)).mono ?_
  rintro e w1 ⟨c, rfl, hc, hb1⟩
  have hB := hide (nx_trans (nx_alloc _ _) hb1)
  have c1 : ∀ o, w1.cell? ⟨w.heap.size, o, none⟩ = (w.alloc (.cells #[.slice L.p ns.length L.cap, .int .i64 root] 25)).cell? ⟨w.heap.size, o, none⟩ := fun o => hb1.cell (p := ⟨w.heap.size, o, none⟩) (by simp)
  have d0 : w1.cell? ⟨w.heap.size, 0, none⟩ = some (.slice L.p ns.length L.cap) := by rw [c1]; simp
  have d1 : w1.cell? ⟨w.heap.size, 1, none⟩ = some (.int .i64 root) := by rw [c1]; simp
  clear hb1 c1
  rcases hc with ⟨hno, rfl⟩ | ⟨hok, hk, rfl⟩ | ⟨hok, hk, rfl⟩
  · have hD : Hid (ParentRes ns root k 0 1) := hide (.inl ⟨hno, rfl, rfl⟩)
    clear hno
    go_wp2
    go_ret2
    exact ⟨0, 1, rfl, unhide hD, unhide hB⟩
  · have hD : Hid (ParentRes ns root k 0 13) := hide (.inr (.inl ⟨hok, hk, rfl, rfl⟩))
    clear hok hk
    go_wp2
    go_ret2
    exact ⟨0, 13, rfl, unhide hD, unhide hB⟩
  · obtain ⟨l, d, hT⟩ := hok
    obtain ⟨a, rfl⟩ : ∃ a : Nat, k = (a : Int) := ⟨k.toNat, by omega⟩
    by_cases hr : (a : Int) = root
    · have hD : Hid (ParentRes ns root (a : Int) 0 5) := hide (.inr (.inr (.inl ⟨⟨l, d, hT⟩, hk, hr, rfl, rfl⟩)))
      have e1 : ((a : Int) == root) = true := by simp [hr]
      clear hT hk hr
      go_wp2
      go_ret2
      exact ⟨0, 5, rfl, unhide hD, unhide hB⟩
    · obtain ⟨p, hpl, hp⟩ := hT.parent (a := a) (by omega) hr
      have hD : Hid (ParentRes ns root (a : Int) (p : Int) 0) := hide (.inr (.inr (.inr ⟨⟨l, d, hT⟩, hk, hr, ⟨p, by rw [Int.toNat_natCast]; exact hp, rfl⟩, rfl⟩)))
      have e1 : ((a : Int) == root) = false := beq_eq_false_iff_ne.2 hr
      have HC := hide (l03Parent_any ns root a p L w1 ((unhide HN).later (unhide hB)) (unhide HS) hp (fun y hy => hT.uniq hy hp))
      clear hT hk hr hpl hp
      go_wp2_with fail
      refine (unhide HC).mono ?_
      rintro e w2 ⟨rfl, hb2⟩
      have hB2 := hide (nx_trans (unhide hB) hb2)
      clear hb2
      go_wp2
      go_ret2
      exact ⟨_, 0, rfl, unhide hD, unhide hB2⟩

end Go.Proofs.YtbipgmikgokfpaaDoor
