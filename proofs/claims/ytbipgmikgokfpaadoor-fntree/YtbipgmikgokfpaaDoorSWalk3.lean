/- How the specification goes over a tree, whole: 'walk', 'l03Tree', 'TreeOK', 'TreeDepth'. -/
import Derived.Test.YtbipgmikgokfpaaDoorSWalk2
namespace Go.Proofs.YtbipgmikgokfpaaDoor
open Go.RowKit Go.Joins
set_option linter.unusedVariables false

theorem okF_out {ns : List TN} {G : Nat → Prop} {k : Int} {S : List Nat} (h : ¬ (0 ≤ k ∧ k < ns.length)) : ¬ OkF ns G [k] S := by
  rintro ⟨l, d, ho⟩
  obtain ⟨x, l1, d1, h0, hx, _⟩ := ho.one_inv
  have := (List.getElem?_eq_some_iff.1 hx).1
  omega
theorem okF_seen {ns : List TN} {G : Nat → Prop} {a : Nat} {S : List Nat} (h : a ∈ S) : ¬ OkF ns G [(a : Int)] S := by
  rintro ⟨l, d, ho⟩
  obtain ⟨x, l1, d1, h0, hx, hs, _⟩ := ho.one_inv
  rw [Int.toNat_natCast] at hs
  exact hs h

theorem walk_any (ns : List TN) (root : Int) (L : Lay) (X B : Nat) (w0 : World) (hN : NodesAt w0 L ns) (hsm : Small ns) (hn : ns.length ≤ 200) (hB : w0.heap.size ≤ B) (hX : B < X) : ∀ (f : Nat)
    (S : List Nat) (k sort : Int) (deep dp : Nat) (w : World), ns.length ≤ S.length + f → Seen ns.length S → 1 ≤ deep → deep ≤ S.length + 1 → (sort = 1 ∨ sort = 2 ∨ sort = 3 ∨ sort = 4) →
    LookAt w X B L ns.length root true dp → SeenAt w B ns.length S → Below w0.heap.size w0 w →
    Calls Tryd.prog 89 #[.pointer (some ⟨X, 0, none⟩), .int .i64 k, .int .i64 sort, .int .i64 (deep : Int)] w fun e w' => e = .returned (.tuple #[]) ∧ WalkPost ns root L X B S k sort deep dp w w' := by
  intro f
  induction f with
  | zero =>
    intro S k sort deep dp w hf hS hd1 hd2 hso hL hSe hw
    have fail : ∀ w', ¬ OkF ns (GoodT ns root) [k] S → w' = w.setCell ⟨X, 3, none⟩ (.bool false) → WalkPost ns root L X B S k sort deep dp w w' := fun w' hno e => by
      subst e
      exact walk_fail_out hno ((Kept.refl X B w).set (.inl rfl)) (hL.setOk false)
    by_cases hk : 0 ≤ k ∧ k < ns.length
    · obtain ⟨a, rfl⟩ : ∃ a : Nat, k = (a : Int) := ⟨k.toNat, by omega⟩
      have ha : a < ns.length := by omega
      have hs : a ∈ S := hS.full (by omega) a ha
      exact (walk_seen X B L ns.length a root sort deep dp w hL hn ha (hSe.yes ha hs)).mono fun e w' h => ⟨h.1, fail w' (okF_seen hs) h.2⟩
    · exact (walk_out X B L ns.length root k sort deep dp w hL hn hk).mono fun e w' h => ⟨h.1, fail w' (okF_out hk) h.2⟩
  | succ f ih =>
    intro S k sort deep dp w hf hS hd1 hd2 hso hL hSe hw
    have fail : ∀ w', ¬ OkF ns (GoodT ns root) [k] S → w' = w.setCell ⟨X, 3, none⟩ (.bool false) → WalkPost ns root L X B S k sort deep dp w w' := fun w' hno e => by
      subst e
      exact walk_fail_out hno ((Kept.refl X B w).set (.inl rfl)) (hL.setOk false)
    by_cases hk : 0 ≤ k ∧ k < ns.length
    · obtain ⟨a, rfl⟩ : ∃ a : Nat, k = (a : Int) := ⟨k.toNat, by omega⟩
      have ha : a < ns.length := by omega
      by_cases hs : a ∈ S
      · exact (walk_seen X B L ns.length a root sort deep dp w hL hn ha (hSe.yes ha hs)).mono fun e w' h => ⟨h.1, fail w' (okF_seen hs) h.2⟩
      have hle := (hS.snoc ha hs).le
      rw [List.length_append] at hle
      have h1 : ([a] : List Nat).length = 1 := rfl
      refine walk_go ns root L X B w0 hN hsm hn hB hX S a sort deep dp w hS ha hs hd1 (by omega) hso hL hSe hw ?_
      intro S' j s' dp' w' hlen hS' hso' hL' hSe' hw'
      exact ih S' j s' (deep + 1) dp' w' (by omega) hS' (by omega) (by omega) hso' hL' hSe' hw'
    · exact (walk_out X B L ns.length root k sort deep dp w hL hn hk).mono fun e w' h => ⟨h.1, fail w' (okF_out hk) h.2⟩

/-- what a look over a tree leaves -/
def LookPost (ns : List TN) (root : Int) (w : World) (e : Ending) (w' : World) : Prop :=
  Below w.heap.size w w' ∧
  ((∃ dp : Int, e = .returned (.tuple #[.bool false, .int .i64 dp]) ∧ ¬ TreeOkP ns root) ∨
   ∃ l d, e = .returned (.tuple #[.bool true, .int .i64 ((d : Nat) : Int)]) ∧ TreeP ns root l d)

set_option maxRecDepth 100000 in
theorem madeB (n : Nat) (hn : n ≤ 1048576) (w : World) : (Instr.makeSlice 121 (.int .i64 (n : Int)) (.int .i64 (n : Int))).run Tryd.prog w = .ok (.slice (some ⟨w.heap.size, 0, none⟩) n n) (w.alloc (.cells (madeCells #[.bool false] n) 4)) := by
  have h := run_make (P := Tryd.prog) w 121 4 _ (.bool false) Tryd.underlying121 rfl rfl .i64 .i64 (n : Int) (n : Int) (by omega) (Int.le_refl _) (by show (1 : Int) * (n : Int) ≤ 281474976710656; omega) (by omega)
  simp only [Int.toNat_natCast] at h
  have h' : (Instr.makeSlice 121 (.int .i64 (n : Int)) (.int .i64 (n : Int))).run Tryd.prog w = .ok (.slice (some ⟨w.heap.size, 0, none⟩) n n) (w.alloc (.cells (madeCells #[.bool false] (n * 1)) 4)) := h
  rw [Nat.mul_one] at h'
  exact h'
theorem made_get1 (z : Value) (n i : Nat) (h : i < n) : (madeCells #[z] n)[i]? = some z := by
  unfold madeCells
  rw [Array.getElem?_map, Array.getElem?_range, if_pos h]
  simp [Nat.mod_one]
theorem SeenAt.new (w : World) (g n : Nat) (h : w.heap[g]? = some (.cells (madeCells #[.bool false] n) 4 (0, 0))) : SeenAt w g n [] :=
  ⟨_, h, size_madeCells _ _, fun i hi => ⟨fun hm => by simp at hm, fun _ => made_get1 _ _ _ hi⟩⟩

theorem l03Tree_many (ns : List TN) (root : Int) (L : Lay) (w : World) (hn : 200 < ns.length) (hl : ns.length ≤ 1048576) :
    Calls Tryd.prog 60 #[.agg #[.slice L.p ns.length L.cap, .int .i64 root]] w (LookPost ns root w) := by
  go_enter Tryd.func60, Tryd.ntmps60
  go_wp2
  go_ret2
  exact ⟨nx_alloc _ _, .inl ⟨0, rfl, fun ⟨l, d, h⟩ => by have := h.1; omega⟩⟩

/-- the first k are seen, or some is not -/
def SeenUp (S : List Nat) (k : Nat) (b : Bool) : Prop := (b = true ↔ ∀ j, j < k → j ∈ S)
theorem SeenUp.yes {S : List Nat} {k : Nat} {b : Bool} (h : SeenUp S k b) (hk : k ∈ S) : SeenUp S (k + 1) b := by
  constructor
  · intro hb j hj
    by_cases e : j = k
    · subst e; exact hk
    · exact h.1 hb j (by omega)
  · intro hj
    exact h.2 (fun j h' => hj j (by omega))
theorem SeenUp.no {S : List Nat} {k : Nat} (hk : k ∉ S) : SeenUp S (k + 1) false := by
  constructor
  · intro h; cases h
  · intro hj
    exact absurd (hj k (by omega)) hk
theorem SeenUp.off {S : List Nat} {k : Nat} (h : SeenUp S k false) : SeenUp S (k + 1) false := by
  constructor
  · intro h; cases h
  · intro hj
    exact h.2 (fun j h' => hj j (by omega))

set_option maxHeartbeats 2000000 in
set_option maxRecDepth 100000 in
theorem l03Tree_few (ns : List TN) (root : Int) (L : Lay) (w : World) (hN : NodesAt w L ns) (hsm : Small ns) (hn : ns.length ≤ 200) :
    Calls Tryd.prog 60 #[.agg #[.slice L.p ns.length L.cap, .int .i64 root]] w (LookPost ns root w) := by
  have HN := hide hN
  have HS := hide hsm
  have hmk := madeB ns.length (by omega)
  have h200 : ¬ (200 : Int) < (ns.length : Int) := by omega
  clear hN hsm
  go_enter Tryd.func60, Tryd.ntmps60
  go_upto_region 3 with fail
  go_cut [4] from 10 to 16 (fun s4 wx => s4 = .pointer (some ⟨w.heap.size + 2, 0, none⟩) ∧ Hid (LookAt wx (w.heap.size + 2) (w.heap.size + 1) L ns.length root true 0) ∧ Hid (SeenAt wx (w.heap.size + 1) ns.length []) ∧ wx.heap.size = w.heap.size + 3 ∧ wx.cell? ⟨w.heap.size, 1, none⟩ = some (.int .i64 root) ∧ Hid (Below w.heap.size w wx))
  case first =>
    go_region
    all_goals (go_wp2; go_meet; (case rel => exact ⟨rfl, hide (three_heap w _ _ _).2.2.1, hide (SeenAt.new _ _ _ (three_heap w _ _ _).2.1), (three_heap w _ _ _).2.2.2, (cell_of_block (three_heap w _ _ _).1 1).trans rfl, hide ((nx_al (nx_al (nx_alloc _ _))).drew)⟩))
  case rest =>
    obtain ⟨rfl, hL, hSe, hsz, c1, hB⟩ := hcut
    go_wp2_with fail
    refine (walk_any ns root L (w.heap.size + 2) (w.heap.size + 1) w (unhide HN) (unhide HS) hn (by omega) (by omega) ns.length [] root 2 1 0 wc (by simp) (Seen.nil _) (by omega) (by simp) (by simp) (unhide hL) (unhide hSe) (unhide hB)).mono ?_
    rintro e w1 ⟨rfl, hk, hres⟩
    have hB1 := hide ((unhide hB).trans (hk.below (by omega) (by omega) (by omega)))
    clear hk
    rcases hres with ⟨l, d, x, hok, hx, hr, hL1, hS1⟩ | ⟨hno, dq, hL1⟩
    · rw [List.nil_append] at hS1
      rw [show max 0 (1 - 1 + d) = d by omega] at hL1
      have h18 : x.k = 18 := by simpa [rightB] using hr
      have HL := hide hL1
      have HS1 := hide hS1
      have HG : Hid (∀ b, SeenUp l ns.length b → ∀ w', Below w.heap.size w w' → LookPost ns root w (.returned (.tuple #[.bool b, .int .i64 ((d : Nat) : Int)])) w') := hide (fun b hb w' hbw => by
        cases b
        · refine ⟨hbw, .inl ⟨_, rfl, fun ⟨l', d', h⟩ => ?_⟩⟩
          obtain ⟨rfl, _⟩ := h.2.1.det hok
          have := hb.2 (fun j hj => h.2.2.2 j hj)
          cases this
        · exact ⟨hbw, .inr ⟨l, d, rfl, hn, hok, ⟨x, hx, h18⟩, hb.1 rfl⟩⟩)
      obtain ⟨k0, k1, k2, k3, k4⟩ := hL1.cells
      clear hL1 hS1 hok hx hr h18
      go_wp2
      go_loopw [5] (fun i wx => ∃ (m : Nat) (b : Bool), m ≤ ns.length ∧ i = .int .i64 m ∧ Hid (SeenUp l m b) ∧ Hid (LookAt wx (w.heap.size + 2) (w.heap.size + 1) L ns.length root b d) ∧ Hid (SeenAt wx (w.heap.size + 1) ns.length l) ∧ Hid (Below w.heap.size w wx)) (fun i _ => ns.length - (intOf i).toNat)
      case atStart => exact ⟨0, true, by omega, rfl, hide ⟨fun _ j hj => absurd hj (by omega), fun _ => rfl⟩, HL, HS1, hB1⟩
      case round =>
        obtain ⟨m, b, hm, rfl, hup, hLx, hSx, hBx⟩ := hrel
        obtain ⟨k0, k1, k2, k3, k4⟩ := (unhide hLx).cells
        have f3 := (unhide hLx).free 3
        by_cases hlt : m < ns.length
        · have hP := hide (fun b' => (unhide hLx).setOk b')
          have hQ := hide (fun b' : Bool => (unhide hSx).poke (o := 3) (v := .bool b') (b := w.heap.size + 2) (by omega))
          have hR := hide (fun b' : Bool => (unhide hBx).setCell (p := ⟨w.heap.size + 2, 3, none⟩) (by show w.heap.size ≤ w.heap.size + 2; omega) (.bool b'))
          cases b
          · have hd := hide (unhide hup).off
            go_wp2
            go_roundw
            case rel => exact ⟨m + 1, false, by omega, by go_num, hide (unhide hd), hide (unhide hP false), hide (unhide hQ false), hide (unhide hR false)⟩
            case measure => simp [intOf]; omega
          · by_cases hmm : m ∈ l
            · have y0 := (unhide hSx).yes hlt hmm
              have hd := hide ((unhide hup).yes hmm)
              clear hmm
              go_wp2
              go_roundw
              case rel => exact ⟨m + 1, true, by omega, by go_num, hide (unhide hd), hide (unhide hP true), hide (unhide hQ true), hide (unhide hR true)⟩
              case measure => simp [intOf]; omega
            · have y0 := (unhide hSx).no hlt hmm
              have hd := hide (SeenUp.no hmm)
              clear hmm
              go_wp2
              go_roundw
              case rel => exact ⟨m + 1, false, by omega, by go_num, hide (unhide hd), hide (unhide hP false), hide (unhide hQ false), hide (unhide hR false)⟩
              case measure => simp [intOf]; omega
        · obtain rfl : m = ns.length := by omega
          have hD := hide (unhide HG b (unhide hup) wr (unhide hBx))
          have hDd := hide (unhide HG b (unhide hup) wr.drew (unhide hBx).drew)
          go_wp2
          go_region
          all_goals go_wp2
          all_goals go_ret2
          all_goals first | exact unhide hDd | exact unhide hD
    · have HL := hide hL1
      have HF : Hid (∀ dp : Int, ∀ w', Below w.heap.size w w' → LookPost ns root w (.returned (.tuple #[.bool false, .int .i64 dp])) w') := hide (fun dp w' hbw => ⟨hbw, .inl ⟨dp, rfl, fun ⟨l, d, h⟩ => by
        obtain ⟨r, hr, hrk⟩ := h.2.2.1
        exact hno ⟨r, ⟨l, d, h.2.1⟩, hr, by rw [hrk]; rfl⟩⟩⟩)
      obtain ⟨k0, k1, k2, k3, k4⟩ := hL1.cells
      clear hL1 hno
      go_wp2
      go_loopw [5] (fun i wx => ∃ (m : Nat), m ≤ ns.length ∧ i = .int .i64 m ∧ Hid (LookAt wx (w.heap.size + 2) (w.heap.size + 1) L ns.length root false dq) ∧ Hid (Below w.heap.size w wx)) (fun i _ => ns.length - (intOf i).toNat)
      case atStart => exact ⟨0, by omega, rfl, HL, hB1⟩
      case round =>
        obtain ⟨m, hm, rfl, hLx, hBx⟩ := hrel
        obtain ⟨k0, k1, k2, k3, k4⟩ := (unhide hLx).cells
        have f3 := (unhide hLx).free 3
        by_cases hlt : m < ns.length
        · have hP := hide ((unhide hLx).setOk false)
          have hR := hide ((unhide hBx).setCell (p := ⟨w.heap.size + 2, 3, none⟩) (by show w.heap.size ≤ w.heap.size + 2; omega) (.bool false))
          go_wp2
          go_roundw
          case rel => exact ⟨m + 1, by omega, by go_num, hide (unhide hP), hide (unhide hR)⟩
          case measure => simp [intOf]; omega
        · have hD := hide (unhide HF dq wr (unhide hBx))
          have hDd := hide (unhide HF dq wr.drew (unhide hBx).drew)
          go_wp2
          go_region
          all_goals go_wp2
          all_goals go_ret2
          all_goals first | exact unhide hDd | exact unhide hD

theorem l03Tree_any (ns : List TN) (root : Int) (L : Lay) (w : World) (hN : NodesAt w L ns) (hsm : Small ns) :
    Calls Tryd.prog 60 #[.agg #[.slice L.p ns.length L.cap, .int .i64 root]] w (LookPost ns root w) := by
  by_cases hn : ns.length ≤ 200
  · exact l03Tree_few ns root L w hN hsm hn
  · exact l03Tree_many ns root L w (by omega) hsm.1

theorem specTreeOK_any (ns : List TN) (root : Int) (L : Lay) (w : World) (hN : NodesAt w L ns) (hsm : Small ns) :
    Calls Tryd.prog 24 #[.agg #[.slice L.p ns.length L.cap, .int .i64 root]] w fun e w' => ∃ b : Bool, e = .returned (.bool b) ∧ (b = true ↔ TreeOkP ns root) ∧ Below w.heap.size w w' := by
  have HN := hide hN
  have HS := hide hsm
  clear hN hsm
  go_enter Tryd.func24, Tryd.ntmps24
  go_wp2_with fail
  refine (l03Tree_any ns root L _ ((unhide HN).later (nx_alloc _ _)) (unhide HS)).mono ?_
  rintro e w1 ⟨hb, hres⟩
  have hB := hide (nx_trans (nx_alloc _ _) hb)
  clear hb
  rcases hres with ⟨dp, rfl, hno⟩ | ⟨l, d, rfl, hT⟩
  · have hD := hide hno
    clear hno
    go_wp2
    go_ret
    exact ⟨false, rfl, ⟨fun h => (by cases h), fun h => absurd h (unhide hD)⟩, unhide hB⟩
  · have hD := hide hT
    clear hT
    go_wp2
    go_ret
    exact ⟨true, rfl, ⟨fun _ => ⟨l, d, unhide hD⟩, fun _ => rfl⟩, unhide hB⟩

end Go.Proofs.YtbipgmikgokfpaaDoor
