/- Trees that grow, whole: 'grow', 'growTree'. -/
import Derived.Test.YtbipgmikgokfpaaDoorGrowWalk2
import Derived.Test.YtbipgmikgokfpaaDoorSWalk3
namespace Go.Proofs.YtbipgmikgokfpaaDoor
open Go.RowKit Go.Joins
set_option linter.unusedVariables false

theorem grow_any (ns : List TN) (root : Int) (L : Lay) (G B : Nat) (w0 : World) (hN : NodesAt w0 L ns) (hsm : Small ns) (hn : ns.length ≤ 200) (hB : w0.heap.size ≤ B) (hGB : G ≠ B) (hG0 : w0.heap.size ≤ G) (htab : Hid (TabAt w0 0 srcWords)) : ∀ (f : Nat)
    (S : List Nat) (k : Int) (par : Option Addr) (loc : Nat → Nat) (w : World), ns.length ≤ S.length + f → Seen ns.length S → (par.isNone = true → k = root) → (par.isNone = false → root.toNat ∈ S) →
    GAt w G B L ns.length root → G < w.heap.size → BrsAt w B ns.length S loc → B < w.heap.size → Below w0.heap.size w0 w →
    Calls Tryd.prog 91 #[.pointer (some ⟨G, 0, none⟩), .int .i64 k, .pointer par] w (GrowPost ns root L B S k par loc w) := by
  intro f
  induction f with
  | zero =>
    intro S k par loc w hf hS hp1 hp2 hG hGl hBr hBl hw
    by_cases hk : 0 ≤ k ∧ k < ns.length
    · obtain ⟨a, rfl⟩ : ∃ a : Nat, k = (a : Int) := ⟨k.toNat, by omega⟩
      have ha : a < ns.length := by omega
      have hs : a ∈ S := hS.full (by omega) a ha
      exact (grow_seen G B L ns.length a (loc a) root par w hG hn ha (hBr.yes ha hs)).mono fun e w' h => ⟨h.2 ▸ Keep.refl _ _, .inl ⟨h.1, okF_seen hs⟩⟩
    · exact (grow_out G B L ns.length root k par w hG hn hk).mono fun e w' h => ⟨h.2 ▸ Keep.refl _ _, .inl ⟨h.1, okF_out hk⟩⟩
  | succ f ih =>
    intro S k par loc w hf hS hp1 hp2 hG hGl hBr hBl hw
    by_cases hk : 0 ≤ k ∧ k < ns.length
    · obtain ⟨a, rfl⟩ : ∃ a : Nat, k = (a : Int) := ⟨k.toNat, by omega⟩
      have ha : a < ns.length := by omega
      by_cases hs : a ∈ S
      · exact (grow_seen G B L ns.length a (loc a) root par w hG hn ha (hBr.yes ha hs)).mono fun e w' h => ⟨h.2 ▸ Keep.refl _ _, .inl ⟨h.1, okF_seen hs⟩⟩
      have htop : par.isNone = decide ((a : Int) = root) := by
        cases hpp : par.isNone
        · symm
          refine decide_eq_false (fun e => ?_)
          have := hp2 hpp
          rw [← e, Int.toNat_natCast] at this
          exact hs this
        · symm
          exact decide_eq_true (hp1 hpp)
      refine grow_go ns root L G B w0 hN hsm hn hB hGB hG0 htab S a par loc w hS ha hs htop hG hGl hBr hBl hw ?_
      intro S' j par' loc' w' hlen hS' haS' hSS' hpar' hG' hGl' hBr' hBl' hw'
      refine ih S' j par' loc' w' (by omega) hS' (fun h => by rw [hpar'] at h; cases h) (fun _ => ?_) hG' hGl' hBr' hBl' hw'
      cases hpp : par.isNone
      · exact hSS' _ (hp2 hpp)
      · have := hp1 hpp
        rw [← this, Int.toNat_natCast]
        exact haS'
    · exact (grow_out G B L ns.length root k par w hG hn hk).mono fun e w' h => ⟨h.2 ▸ Keep.refl _ _, .inl ⟨h.1, okF_out hk⟩⟩

theorem eqlIn_nil_ptr {P : Program} (w : World) (d : Nat) (t e : TypeId) (a : Addr) (h : P.underlying t = some (.pointer e)) : (Op.equalIn (d + 1) t (.pointer none) (.pointer (some a))).run P w = .ok false w := by
  simp [Op.equalIn, run_underlying h]
theorem eql_nil_any {P : Program} (w : World) (t e : TypeId) (a : Addr) (h : P.underlying t = some (.pointer e)) : (binOp .eql t (.pointer none) (.pointer (some a))).run P w = .ok (.bool false) w := by
  simp only [binOp]
  simp [Op.equal, Op.maxDepth, eqlIn_nil_ptr w 9999 t e a h]
theorem eql_nil_ptr (g : Nat) (w : World) : (binOp .eql 65 (.pointer none) (.pointer (some ⟨g, 0, none⟩))).run Tryd.prog w = .ok (.bool false) w := eql_nil_any w _ _ _ Tryd.underlying65
/-- the first k have a branch -/
def AllUp (l : List Nat) (k : Nat) : Prop := ∀ j, j < k → j ∈ l

set_option maxHeartbeats 1000000 in
set_option maxRecDepth 100000 in
theorem Index_any (B n : Nat) (l : List Nat) (loc : Nat → Nat) (w : World) (hn : n ≤ 200) (hb : BrsAt w B n l loc) :
    Calls Tryd.prog 125 #[.slice (some ⟨B, 0, none⟩) n n, .pointer none] w fun e w' => ∃ r : Int, e = .returned (.int .i64 r) ∧ (AllUp l n ∧ r < 0 ∨ ¬ AllUp l n ∧ 0 ≤ r) ∧ w' = w := by
  have HB := hide hb
  clear hb
  go_enter Tryd.func125, Tryd.ntmps125
  go_wp2
  go_loopw [8] (fun i wx => ∃ k : Nat, k ≤ n ∧ i = .int .i64 k ∧ Hid (AllUp l k) ∧ wx = w) (fun i _ => n - (intOf i).toNat)
  case atStart => exact ⟨0, by omega, rfl, hide (fun j h => absurd h (by omega)), rfl⟩
  case round =>
    obtain ⟨k, hk, rfl, hup, hw⟩ := hrel
    subst hw
    by_cases hlt : k < n
    · by_cases hm : k ∈ l
      · have q0 := (unhide HB).yes hlt hm
        have hd : Hid (AllUp l (k + 1)) := hide (fun j hj => by
          by_cases e : j = k
          · subst e; exact hm
          · exact unhide hup j (by omega))
        clear hm
        have e0 := eql_nil_ptr (loc k) wr
        go_wp2
        go_roundw
        case rel => exact ⟨k + 1, by omega, by go_num, hide (unhide hd), trivial⟩
        case measure => simp [intOf]; omega
      · have q0 := (unhide HB).no hlt hm
        have hd : Hid (¬ AllUp l n) := hide (fun h => hm (h k hlt))
        clear hm
        go_wp2
        go_ret
        exact ⟨k, rfl, .inr ⟨unhide hd, by omega⟩, rfl⟩
    · obtain rfl : k = n := by omega
      go_wp2
      go_ret
      exact ⟨-1, rfl, .inl ⟨unhide hup, by omega⟩, rfl⟩

set_option maxRecDepth 100000 in
theorem Contains_any (B n : Nat) (l : List Nat) (loc : Nat → Nat) (w : World) (hn : n ≤ 200) (hb : BrsAt w B n l loc) :
    Calls Tryd.prog 92 #[.slice (some ⟨B, 0, none⟩) n n, .pointer none] w fun e w' => ∃ b : Bool, e = .returned (.bool b) ∧ (AllUp l n ∧ b = false ∨ ¬ AllUp l n ∧ b = true) ∧ w' = w := by
  have HB := hide hb
  clear hb
  go_enter Tryd.func92, Tryd.ntmps92
  go_wp2_with fail
  refine (Index_any B n l loc _ hn (unhide HB)).mono ?_
  rintro e w' ⟨r, rfl, hr, rfl⟩
  rcases hr with ⟨ha, hr⟩ | ⟨ha, hr⟩
  · have HA := hide ha
    have hd : decide (0 ≤ r) = false := decide_eq_false (by omega)
    clear ha
    go_wp2
    go_ret
    exact ⟨false, rfl, .inl ⟨unhide HA, rfl⟩, rfl⟩
  · have HA := hide ha
    clear ha
    go_wp2
    go_ret
    exact ⟨true, rfl, .inr ⟨unhide HA, rfl⟩, rfl⟩

set_option maxRecDepth 100000 in
theorem madeP (n : Nat) (hn : n ≤ 1048576) (w : World) : (Instr.makeSlice 68 (.int .i64 (n : Int)) (.int .i64 (n : Int))).run Tryd.prog w = .ok (.slice (some ⟨w.heap.size, 0, none⟩) n n) (w.alloc (.cells (madeCells #[.pointer none] n) 65)) := by
  have h := run_make (P := Tryd.prog) w 68 65 _ (.pointer none) Tryd.underlying68 rfl rfl .i64 .i64 (n : Int) (n : Int) (by omega) (Int.le_refl _) (by show (8 : Int) * (n : Int) ≤ 281474976710656; omega) (by omega)
  simp only [Int.toNat_natCast] at h
  have h' : (Instr.makeSlice 68 (.int .i64 (n : Int)) (.int .i64 (n : Int))).run Tryd.prog w = .ok (.slice (some ⟨w.heap.size, 0, none⟩) n n) (w.alloc (.cells (madeCells #[.pointer none] (n * 1)) 65)) := h
  rw [Nat.mul_one] at h'
  exact h'
theorem made_get (z : Value) (n i : Nat) (h : i < n) : (madeCells #[z] n)[i]? = some z := by
  unfold madeCells
  rw [Array.getElem?_map, Array.getElem?_range, if_pos h]
  simp [Nat.mod_one]
theorem BrsAt.new (w : World) (g n : Nat) (loc : Nat → Nat) (h : w.heap[g]? = some (.cells (madeCells #[.pointer none] n) 65 (0, 0))) : BrsAt w g n [] loc :=
  ⟨_, h, size_madeCells _ _, fun i hi => ⟨fun hm => by simp at hm, fun _ => made_get _ _ _ hi⟩⟩

/-- a tree that has grown -/
structure Grown (w : World) (G B : Nat) (L : Lay) (ns : List TN) (root : Int) (loc : Nat → Nat) (l : List Nat) : Prop where
  g : GAt w G B L ns.length root
  brs : BrsAt w B ns.length l loc
  br : ∀ x ∈ l, BrIn w (fun b => b < w.heap.size) L ns loc x
  top : w.cell? ⟨loc root.toNat, 6, none⟩ = some (.pointer none)
theorem Grown.later {w w' : World} {G B : Nat} {L : Lay} {ns : List TN} {root : Int} {loc : Nat → Nat} {l : List Nat} (h : Grown w G B L ns root loc l) (hb : Below w.heap.size w w') : Grown w' G B L ns root loc l := by
  have hBl : B < w.heap.size := by
    obtain ⟨cs, h1, _⟩ := h.brs
    exact (Array.getElem?_eq_some_iff.1 h1).1
  exact ⟨⟨cell_later hb h.g.1, cell_later hb h.g.2.1, cell_later hb h.g.2.2⟩, h.brs.same (hb.block B hBl), fun x hx => (h.br x hx).keep (fun b hb' => hb.block b hb') (fun b hb' => by have := hb.size; omega), cell_later hb h.top⟩

/-- what a call that grows a tree leaves -/
def TreePost (ns : List TN) (root : Int) (L : Lay) (w : World) (e : Ending) (w' : World) : Prop :=
  Below w.heap.size w w' ∧
  ((e = .returned (.tuple #[.pointer none, .int .i64 1]) ∧ ¬ TreeOkP ns root) ∨
   ∃ G B loc l d, e = .returned (.tuple #[.pointer (some ⟨G, 0, none⟩), .int .i64 0]) ∧ TreeP ns root l d ∧ Grown w' G B L ns root loc l)

theorem growTree_many (ns : List TN) (root : Int) (L : Lay) (w : World) (hn : 200 < ns.length) (hl : ns.length ≤ 1048576) :
    Calls Tryd.prog 62 #[.agg #[.slice L.p ns.length L.cap, .int .i64 root]] w (TreePost ns root L w) := by
  go_enter Tryd.func62, Tryd.ntmps62
  go_wp2
  go_ret2
  exact ⟨nx_alloc _ _, .inl ⟨rfl, fun ⟨l, d, h⟩ => by have := h.1; omega⟩⟩

set_option maxHeartbeats 2000000 in
set_option maxRecDepth 100000 in
theorem growTree_few (ns : List TN) (root : Int) (L : Lay) (w : World) (hN : NodesAt w L ns) (hsm : Small ns) (hn : ns.length ≤ 200) (htab : Hid (TabAt w 0 srcWords)) :
    Calls Tryd.prog 62 #[.agg #[.slice L.p ns.length L.cap, .int .i64 root]] w (TreePost ns root L w) := by
  have HN := hide hN
  have HS := hide hsm
  have hmk := madeP ns.length (by omega)
  have h200 : ¬ (200 : Int) < (ns.length : Int) := by omega
  clear hN hsm
  go_enter Tryd.func62, Tryd.ntmps62
  go_upto_region 3 with fail
  go_cut [4] from 10 to 16 (fun s4 wx => s4 = .pointer (some ⟨w.heap.size + 2, 0, none⟩) ∧ Hid (GAt wx (w.heap.size + 2) (w.heap.size + 1) L ns.length root) ∧ Hid (BrsAt wx (w.heap.size + 1) ns.length [] (fun _ => 0)) ∧ wx.heap.size = w.heap.size + 3 ∧ wx.cell? ⟨w.heap.size, 1, none⟩ = some (.int .i64 root) ∧ Hid (Below w.heap.size w wx))
  case first =>
    go_region
    all_goals (go_wp2; go_meet; (case rel => exact ⟨rfl, hide ⟨(cell_of_block (three_heap w _ _ _).2.2.1 0).trans rfl, (cell_of_block (three_heap w _ _ _).2.2.1 1).trans rfl, (cell_of_block (three_heap w _ _ _).2.2.1 2).trans rfl⟩, hide (BrsAt.new _ _ _ _ (three_heap w _ _ _).2.1), (three_heap w _ _ _).2.2.2, (cell_of_block (three_heap w _ _ _).1 1).trans rfl, hide ((nx_al (nx_al (nx_alloc _ _))).drew)⟩))
  case rest =>
    obtain ⟨rfl, hG, hBr, hsz, c1, hB⟩ := hcut
    go_wp2_with fail
    refine (grow_any ns root L (w.heap.size + 2) (w.heap.size + 1) w (unhide HN) (unhide HS) hn (by omega) (by omega) (by omega) htab ns.length [] root none (fun _ => 0) wc (by simp) (Seen.nil _) (fun _ => rfl) (fun h => by cases h) (unhide hG) (by omega) (unhide hBr) (by omega) (unhide hB)).mono ?_
    rintro e w1 ⟨hk, hres⟩
    have hB1 := hide ((unhide hB).trans (hk.below (by omega) (by omega)))
    have hG1 := hide ((unhide hG).keep hk (by omega) (by omega))
    obtain ⟨g0, g1, g2⟩ := unhide hG1
    have hks := hk.size
    clear hk
    rcases hres with ⟨rfl, hno⟩ | ⟨l, d, loc, rfl, hok, hbrs, _, hbr, h6⟩
    · have hD : Hid (¬ TreeOkP ns root) := hide (fun ⟨l, d, h⟩ => hno ⟨l, d, h.2.1⟩)
      clear hno
      go_wp2
      go_ret2
      exact ⟨unhide hB1, .inl ⟨rfl, unhide hD⟩⟩
    · obtain ⟨x, l1, d1, h0, hx, _, _, _, hl, _⟩ := hok.one_inv
      obtain ⟨x', pb, cb, hx', _, k0, _⟩ := hbr root.toNat (by rw [hl]; simp)
      rw [hx] at hx'
      obtain rfl := Option.some.inj hx'
      have HG : Hid (AllUp l ns.length → x.k = 18 → TreePost ns root L w (.returned (.tuple #[.pointer (some ⟨w.heap.size + 2, 0, none⟩), .int .i64 0])) w1) := hide (fun hall hk => ⟨unhide hB1, .inr ⟨w.heap.size + 2, w.heap.size + 1, loc, l, d, rfl, ⟨hn, hok, ⟨x, hx, hk⟩, hall⟩, ⟨unhide hG1, by simpa using hbrs, fun y hy => (hbr y hy).keep (fun _ _ => rfl) (fun b hb => hb.2), h6⟩⟩⟩)
      have HF : Hid ((¬ AllUp l ns.length ∨ x.k ≠ 18) → TreePost ns root L w (.returned (.tuple #[.pointer none, .int .i64 1])) w1) := hide (fun hor => ⟨unhide hB1, .inl ⟨rfl, fun ⟨l', d', h⟩ => by
        obtain ⟨rfl, _⟩ := h.2.1.det hok
        rcases hor with ho | ho
        · exact ho (fun j hj => h.2.2.2 j hj)
        · obtain ⟨r, hr, hrk⟩ := h.2.2.1
          rw [hx] at hr
          obtain rfl := Option.some.inj hr
          exact ho hrk⟩⟩)
      have HBr := hide hbrs
      rw [List.nil_append] at HBr
      generalize loc root.toNat = gr at k0
      clear hok hbrs hbr h6 hl hx h0
      by_cases h18 : x.k = 18
      · have HT := hide (fun h => unhide HG h h18)
        have HF2 := hide (fun h => unhide HF (.inl h))
        rw [h18] at k0
        clear HG HF h18
        go_wp2_with fail
        refine (Contains_any (w.heap.size + 1) ns.length l loc w1 hn (unhide HBr)).mono ?_
        rintro e w1 ⟨bb, rfl, hbb, rfl⟩
        rcases hbb with ⟨hall, rfl⟩ | ⟨hall, rfl⟩
        · have hD := hide (unhide HT hall)
          clear hall
          go_wp2
          go_ret2
          exact unhide hD
        · have hD := hide (unhide HF2 hall)
          clear hall
          go_wp2
          go_ret2
          exact unhide hD
      · have hD := hide (unhide HF (.inr h18))
        have e1 : (x.k == 18) = false := beq_eq_false_iff_ne.2 h18
        have e2 : (x.k != 18) = true := by simp [bne, e1]
        clear HG HF h18
        go_wp2
        go_ret2
        exact unhide hD

theorem growTree_any (ns : List TN) (root : Int) (L : Lay) (w : World) (hN : NodesAt w L ns) (hsm : Small ns) (htab : Hid (TabAt w 0 srcWords)) :
    Calls Tryd.prog 62 #[.agg #[.slice L.p ns.length L.cap, .int .i64 root]] w (TreePost ns root L w) := by
  by_cases hn : ns.length ≤ 200
  · exact growTree_few ns root L w hN hsm hn htab
  · exact growTree_many ns root L w (by omega) hsm.1

theorem implTreeOK_any (ns : List TN) (root : Int) (L : Lay) (w : World) (hN : NodesAt w L ns) (hsm : Small ns) (htab : Hid (TabAt w 0 srcWords)) :
    Calls Tryd.prog 26 #[.agg #[.slice L.p ns.length L.cap, .int .i64 root]] w fun e w' => ∃ b : Bool, e = .returned (.bool b) ∧ (b = true ↔ TreeOkP ns root) ∧ Below w.heap.size w w' := by
  have HN := hide hN
  have HS := hide hsm
  clear hN hsm
  go_enter Tryd.func26, Tryd.ntmps26
  go_wp2_with fail
  refine (growTree_any ns root L _ ((unhide HN).later (nx_alloc _ _)) (unhide HS) (hide ((unhide htab).later (nx_alloc _ _)))).mono ?_
  rintro e w1 ⟨hb, hres⟩
  have hB := hide (nx_trans (nx_alloc _ _) hb)
  clear hb
  rcases hres with ⟨rfl, hno⟩ | ⟨G, B, loc, l, d, rfl, hT, hG⟩
  · have hD := hide hno
    clear hno
    go_wp2
    go_ret
    exact ⟨false, rfl, ⟨fun h => (by cases h), fun h => absurd h (unhide hD)⟩, unhide hB⟩
  · have hD := hide hT
    clear hT hG
    go_wp2
    go_ret
    exact ⟨true, rfl, ⟨fun _ => ⟨l, d, unhide hD⟩, fun _ => rfl⟩, unhide hB⟩

/-- what a call that finds a branch leaves -/
def BranchPost (ns : List TN) (root : Int) (L : Lay) (k : Nat → Nat → Prop) (c : Int) (w : World) (e : Ending) (w' : World) : Prop :=
  Below w.heap.size w w' ∧
  ((e = .returned (.tuple #[.pointer none, .int .i64 1]) ∧ ¬ TreeOkP ns root) ∨
   ∃ G B loc l d, TreeP ns root l d ∧ Grown w' G B L ns root loc l ∧ ∃ x, k x ns.length ∧ e = .returned (.tuple #[.pointer (some ⟨loc x, 0, none⟩), .int .i64 0]))

theorem TreeP.root {ns : List TN} {root : Int} {l : List Nat} {d : Nat} (h : TreeP ns root l d) : 0 ≤ root ∧ root.toNat ∈ l ∧ root.toNat < ns.length := by
  obtain ⟨x, l1, d1, h0, hx, _, _, _, hl, _⟩ := h.2.1.one_inv
  exact ⟨h0, by rw [hl]; simp, (List.getElem?_eq_some_iff.1 hx).1⟩

set_option maxHeartbeats 1000000 in
set_option maxRecDepth 100000 in
theorem rootOf_any (ns : List TN) (root : Int) (L : Lay) (w : World) (hN : NodesAt w L ns) (hsm : Small ns) (htab : Hid (TabAt w 0 srcWords)) :
    Calls Tryd.prog 57 #[.agg #[.slice L.p ns.length L.cap, .int .i64 root]] w (BranchPost ns root L (fun x _ => (x : Int) = root) 0 w) := by
  have HN := hide hN
  have HS := hide hsm
  clear hN hsm
  go_enter Tryd.func57, Tryd.ntmps57
  go_wp2_with fail
  refine (growTree_any ns root L _ ((unhide HN).later (nx_alloc _ _)) (unhide HS) (hide ((unhide htab).later (nx_alloc _ _)))).mono ?_
  rintro e w1 ⟨hb, hres⟩
  have hB := hide (nx_trans (nx_alloc _ _) hb)
  clear hb
  rcases hres with ⟨rfl, hno⟩ | ⟨G, B, loc, l, d, rfl, hT, hG⟩
  · have hD := hide hno
    clear hno
    go_wp2
    go_ret2
    exact ⟨unhide hB, .inl ⟨rfl, unhide hD⟩⟩
  · obtain ⟨hr0, hrl, hrn⟩ := hT.root
    obtain ⟨a, rfl⟩ : ∃ a : Nat, root = (a : Int) := ⟨root.toNat, by omega⟩
    rw [Int.toNat_natCast] at hrl hrn
    have y0 := hG.brs.yes hrn hrl
    obtain ⟨g0, g1, g2⟩ := hG.g
    have hD : Hid (∀ w', Below w1.heap.size w1 w' → BranchPost ns (a : Int) L (fun x _ => (x : Int) = (a : Int)) 0 w (.returned (.tuple #[.pointer (some ⟨loc a, 0, none⟩), .int .i64 0])) w') := hide (fun w' hb => ⟨nx_trans (unhide hB) hb, .inr ⟨G, B, loc, l, d, hT, hG.later hb, a, rfl, rfl⟩⟩)
    have h200 := hT.1
    clear hT hG hr0 hrl
    generalize loc a = ga at y0 hD
    go_wp2
    go_region
    all_goals go_wp2
    all_goals go_ret2
    all_goals exact unhide hD _ (Below.refl _ _).drew

set_option maxHeartbeats 1000000 in
set_option maxRecDepth 100000 in
theorem branchOf_out (ns : List TN) (root k : Int) (L : Lay) (w : World) (hN : NodesAt w L ns) (hsm : Small ns) (htab : Hid (TabAt w 0 srcWords)) (hk : ¬ (0 ≤ k ∧ k < ns.length)) :
    Calls Tryd.prog 54 #[.agg #[.slice L.p ns.length L.cap, .int .i64 root], .int .i64 k] w fun e w' => Below w.heap.size w w' ∧ ((e = .returned (.tuple #[.pointer none, .int .i64 1]) ∧ ¬ TreeOkP ns root) ∨ (e = .returned (.tuple #[.pointer none, .int .i64 13]) ∧ TreeOkP ns root)) := by
  have HN := hide hN
  have HS := hide hsm
  have hl := hsm.1
  clear hN hsm
  by_cases h0 : k < 0
  · clear hk
    go_enter Tryd.func54, Tryd.ntmps54
    go_wp2_with fail
    refine (growTree_any ns root L _ ((unhide HN).later (nx_alloc _ _)) (unhide HS) (hide ((unhide htab).later (nx_alloc _ _)))).mono ?_
    rintro e w1 ⟨hb, hres⟩
    have hB := hide (nx_trans (nx_alloc _ _) hb)
    clear hb
    rcases hres with ⟨rfl, hno⟩ | ⟨G, B, loc, l, d, rfl, hT, hG⟩
    · have hD := hide hno
      clear hno
      go_wp2
      go_ret2
      exact ⟨unhide hB, .inl ⟨rfl, unhide hD⟩⟩
    · have hD := hide hT
      clear hT hG
      go_wp2
      go_ret2
      exact ⟨unhide hB, .inr ⟨rfl, l, d, unhide hD⟩⟩
  · have h1 : (ns.length : Int) ≤ k := by omega
    clear hk
    go_enter Tryd.func54, Tryd.ntmps54
    go_wp2_with fail
    refine (growTree_any ns root L _ ((unhide HN).later (nx_alloc _ _)) (unhide HS) (hide ((unhide htab).later (nx_alloc _ _)))).mono ?_
    rintro e w1 ⟨hb, hres⟩
    have hB := hide (nx_trans (nx_alloc _ _) hb)
    clear hb
    rcases hres with ⟨rfl, hno⟩ | ⟨G, B, loc, l, d, rfl, hT, hG⟩
    · have hD := hide hno
      clear hno
      go_wp2
      go_ret2
      exact ⟨unhide hB, .inl ⟨rfl, unhide hD⟩⟩
    · have hD := hide hT
      obtain ⟨g0, g1, g2⟩ := hG.g
      clear hT hG
      go_wp2
      go_ret2
      exact ⟨unhide hB, .inr ⟨rfl, l, d, unhide hD⟩⟩

set_option maxHeartbeats 1000000 in
set_option maxRecDepth 100000 in
theorem branchOf_in (ns : List TN) (root : Int) (a : Nat) (L : Lay) (w : World) (hN : NodesAt w L ns) (hsm : Small ns) (htab : Hid (TabAt w 0 srcWords)) (ha : a < ns.length) :
    Calls Tryd.prog 54 #[.agg #[.slice L.p ns.length L.cap, .int .i64 root], .int .i64 (a : Int)] w (BranchPost ns root L (fun x _ => x = a) 0 w) := by
  have HN := hide hN
  have HS := hide hsm
  have hl := hsm.1
  have e1 : decide ((a : Int) < 0) = false := decide_eq_false (by omega)
  have e2 : decide (ns.length ≤ a) = false := decide_eq_false (by omega)
  clear hN hsm
  go_enter Tryd.func54, Tryd.ntmps54
  go_wp2_with fail
  refine (growTree_any ns root L _ ((unhide HN).later (nx_alloc _ _)) (unhide HS) (hide ((unhide htab).later (nx_alloc _ _)))).mono ?_
  rintro e w1 ⟨hb, hres⟩
  have hB := hide (nx_trans (nx_alloc _ _) hb)
  clear hb
  rcases hres with ⟨rfl, hno⟩ | ⟨G, B, loc, l, d, rfl, hT, hG⟩
  · have hD := hide hno
    clear hno
    go_wp2
    go_ret2
    exact ⟨unhide hB, .inl ⟨rfl, unhide hD⟩⟩
  · have y0 := hG.brs.yes ha (hT.2.2.2 a ha)
    obtain ⟨g0, g1, g2⟩ := hG.g
    have hD : Hid (BranchPost ns root L (fun x _ => x = a) 0 w (.returned (.tuple #[.pointer (some ⟨loc a, 0, none⟩), .int .i64 0])) w1) := hide ⟨unhide hB, .inr ⟨G, B, loc, l, d, hT, hG, a, rfl, rfl⟩⟩
    clear hT hG
    generalize loc a = ga at y0 hD
    go_wp2
    go_ret2
    exact unhide hD

end Go.Proofs.YtbipgmikgokfpaaDoor
