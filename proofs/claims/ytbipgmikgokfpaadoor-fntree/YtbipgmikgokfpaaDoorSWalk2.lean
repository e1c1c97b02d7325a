/- How the specification goes over a tree: 'walk', a node that is new. -/
import Derived.Test.YtbipgmikgokfpaaDoorSLook
namespace Go.Proofs.YtbipgmikgokfpaaDoor
open Go.RowKit Go.Joins
set_option linter.unusedVariables false

set_option maxHeartbeats 2000000 in
set_option maxRecDepth 100000 in
theorem walk_go (ns : List TN) (root : Int) (L : Lay) (X B : Nat) (w0 : World) (hN : NodesAt w0 L ns) (hsm : Small ns) (hn : ns.length ≤ 200) (hB : w0.heap.size ≤ B) (hX : B < X)
    (S : List Nat) (a : Nat) (sort : Int) (deep dp : Nat) (w : World) (hS : Seen ns.length S) (ha : a < ns.length) (hns : a ∉ S) (hd1 : 1 ≤ deep) (hd2 : deep ≤ 200) (hso : sort = 1 ∨ sort = 2 ∨ sort = 3 ∨ sort = 4)
    (hL : LookAt w X B L ns.length root true dp) (hSe : SeenAt w B ns.length S) (hw : Below w0.heap.size w0 w)
    (ih : ∀ (S' : List Nat) (j s' : Int) (dp' : Nat) (w' : World), S.length < S'.length → Seen ns.length S' → (s' = 1 ∨ s' = 2 ∨ s' = 3 ∨ s' = 4) → LookAt w' X B L ns.length root true dp' → SeenAt w' B ns.length S' → Below w0.heap.size w0 w' → Calls Tryd.prog 89 #[.pointer (some ⟨X, 0, none⟩), .int .i64 j, .int .i64 s', .int .i64 ((deep + 1 : Nat) : Int)] w' fun e w'' => e = .returned (.tuple #[]) ∧ WalkPost ns root L X B S' j s' (deep + 1) dp' w' w'') :
    Calls Tryd.prog 89 #[.pointer (some ⟨X, 0, none⟩), .int .i64 (a : Int), .int .i64 sort, .int .i64 (deep : Int)] w fun e w' => e = .returned (.tuple #[]) ∧ WalkPost ns root L X B S a sort deep dp w w' := by
  obtain ⟨c0, c1, c2, c3, c4⟩ := hL.cells
  have f3 := hL.free 3
  have f4 := hL.free 4
  have s0 := hSe.no ha hns
  have sf := hSe.free a
  have hXB : ¬ X = B := by omega
  have hBX : ¬ B = X := by omega
  have hin : (decide (0 ≤ (a : Int)) && decide ((a : Int) ≤ (ns.length : Int) - 1)) = true := by simp; omega
  have hd3 : ¬ (200 : Int) < (deep : Int) := by omega
  have HL := hide hL
  have HSe := hide hSe
  obtain ⟨b, off, hp, q0, q1, q2, q3, q4, q5, q6⟩ := hN.later hw a ha
  have hbl : b < w0.heap.size := by
    obtain ⟨b', off', hp', q0', _⟩ := hN a ha
    rw [hp] at hp'
    obtain ⟨rfl, _⟩ := (by simpa using hp' : b = b' ∧ off = off')
    exact World.block_lt_of_cell? _ _ q0'
  have hbB : ¬ b = B := by omega
  have hbX : ¬ b = X := by omega
  obtain ⟨dm, hdm⟩ : ∃ dm, dm = max dp deep := ⟨_, rfl⟩
  have hmx : (if dp < deep then (deep : Int) else (dp : Int)) = (dm : Int) := by rw [hdm]; split <;> omega
  have HDM := hide hdm
  have IH := hide ih
  have hxa : Hid (ns[a]? = some ns[a]) := hide (List.getElem?_eq_getElem ha)
  obtain ⟨z0, z1, z2, z3⟩ := hsm.2 ns[a] (List.getElem_mem ha)
  have HZ := hide z3
  have HQ5 := hide ((hN a ha).choose_spec.choose_spec.2.2.2.2.2.2.1)
  have HQ6 := hide ((hN a ha).choose_spec.choose_spec.2.2.2.2.2.2.2)
  have HW := hide hw
  have HS0 := hide hS
  have HNS := hide hns
  have hXw : X < w.heap.size := hL.lt
  clear hL hSe hdm ih z3 q5 q6 hw hS hns hN hsm
  generalize ns[a] = x at q0 q1 q2 q3 q4 hxa z0 z1 z2 HZ HQ5 HQ6
  generalize L.pn a = pn at q3 HQ5
  generalize L.cn a = cn at q3
  generalize L.pk a = pk at q4 HQ6
  generalize L.ck a = ck at q4
  obtain ⟨xk, xn, xt, xs, xj⟩ := x
  dsimp only at q0 q1 q2 q3 q4 z0 z1 z2 HZ HQ5 HQ6
  go_enter Tryd.func89, Tryd.ntmps89
  go_wp2_with fail
  refine (l01In_is a 0 ((ns.length : Int) - 1) true _ hin).mono ?_
  rintro e w ⟨rfl, rfl⟩
  go_upto_region 5 with fail
  go_cut [9] from 69 to 107 (fun s9 wx => s9 = .bool (rightB sort xk) ∧ Hid (LookAt wx X B L ns.length root true dm) ∧ Hid (SeenAt wx B ns.length (S ++ [a])) ∧ Hid (Kept X B w wx) ∧ wx.heap.size = w.heap.size + 1 ∧ wx.cell? ⟨w.heap.size, 0, none⟩ = some (.int .i64 xk) ∧ wx.cell? ⟨w.heap.size, 1, none⟩ = some (.int .i64 xn) ∧ wx.cell? ⟨w.heap.size, 2, none⟩ = some (.string xt) ∧ wx.cell? ⟨w.heap.size, 3, none⟩ = some (.slice pn xs.length cn) ∧ wx.cell? ⟨w.heap.size, 4, none⟩ = some (.slice pk xj.length ck))
  case first =>
    have hfin : ∀ o : Obj, Hid (LookAt (((w.setCell ⟨B, a, none⟩ (.bool true)).setCell ⟨X, 4, none⟩ (.int .i64 (dm : Int))).alloc o) X B L ns.length root true dm) ∧ Hid (SeenAt (((w.setCell ⟨B, a, none⟩ (.bool true)).setCell ⟨X, 4, none⟩ (.int .i64 (dm : Int))).alloc o) B ns.length (S ++ [a])) ∧ Hid (Kept X B w (((w.setCell ⟨B, a, none⟩ (.bool true)).setCell ⟨X, 4, none⟩ (.int .i64 (dm : Int))).alloc o)) := fun o =>
      ⟨hide ((((unhide HL).poke (by omega)).setDeep dm).later (nx_alloc _ _)), hide ((((unhide HSe).set ha).poke (by omega)).later (nx_alloc _ _)), hide ((((Kept.refl X B w).set (.inr (.inl rfl))).set (.inl rfl)).alloc _)⟩
    have HF := hide hfin
    clear hfin
    rcases hso with rfl | rfl | rfl | rfl
    · obtain ⟨bb, hbb⟩ : ∃ bb, (decide (1 ≤ xk) && decide (xk ≤ 10)) = bb := ⟨_, rfl⟩
      have hr : Hid (rightB 1 xk = bb) := hide (by simp [rightB, ← hbb])
      go_wp2_with fail
      refine (l03Expr_any xk _).mono ?_
      rintro e w' ⟨rfl, rfl⟩
      rw [hbb]
      clear hbb
      cases bb
      all_goals (go_wp2; go_meet; (case rel => exact ⟨by rw [unhide hr], (unhide HF _).1, (unhide HF _).2.1, (unhide HF _).2.2, by simp, (cell_alloc_mark_at _ _ _ _ _ 0 (by simp)).trans rfl, (cell_alloc_mark_at _ _ _ _ _ 1 (by simp)).trans rfl, (cell_alloc_mark_at _ _ _ _ _ 2 (by simp)).trans rfl, (cell_alloc_mark_at _ _ _ _ _ 3 (by simp)).trans rfl, (cell_alloc_mark_at _ _ _ _ _ 4 (by simp)).trans rfl⟩))
    · obtain ⟨bb, hbb⟩ : ∃ bb, (xk == 18) = bb := ⟨_, rfl⟩
      have hr : Hid (rightB 2 xk = bb) := hide (by simp [rightB, ← hbb])
      cases bb
      all_goals (go_wp2; go_meet; (case rel => exact ⟨by rw [unhide hr], (unhide HF _).1, (unhide HF _).2.1, (unhide HF _).2.2, by simp, (cell_alloc_mark_at _ _ _ _ _ 0 (by simp)).trans rfl, (cell_alloc_mark_at _ _ _ _ _ 1 (by simp)).trans rfl, (cell_alloc_mark_at _ _ _ _ _ 2 (by simp)).trans rfl, (cell_alloc_mark_at _ _ _ _ _ 3 (by simp)).trans rfl, (cell_alloc_mark_at _ _ _ _ _ 4 (by simp)).trans rfl⟩))
    · obtain ⟨bb, hbb⟩ : ∃ bb, (decide (11 ≤ xk) && decide (xk ≤ 19)) = bb := ⟨_, rfl⟩
      have hr : Hid (rightB 3 xk = bb) := hide (by simp [rightB, ← hbb])
      go_wp2_with fail
      refine (l03State_any xk _).mono ?_
      rintro e w' ⟨rfl, rfl⟩
      rw [hbb]
      clear hbb
      cases bb
      all_goals (go_wp2; go_meet; (case rel => exact ⟨by rw [unhide hr], (unhide HF _).1, (unhide HF _).2.1, (unhide HF _).2.2, by simp, (cell_alloc_mark_at _ _ _ _ _ 0 (by simp)).trans rfl, (cell_alloc_mark_at _ _ _ _ _ 1 (by simp)).trans rfl, (cell_alloc_mark_at _ _ _ _ _ 2 (by simp)).trans rfl, (cell_alloc_mark_at _ _ _ _ _ 3 (by simp)).trans rfl, (cell_alloc_mark_at _ _ _ _ _ 4 (by simp)).trans rfl⟩))
    · obtain ⟨bb, hbb⟩ : ∃ bb, (decide (11 ≤ xk) && decide (xk ≤ 19)) = bb := ⟨_, rfl⟩
      obtain ⟨cc, hcc⟩ : ∃ cc, (xk == 20) = cc := ⟨_, rfl⟩
      have hr : Hid (rightB 4 xk = (bb || cc)) := hide (by subst hbb; subst hcc; rfl)
      go_wp2_with fail
      refine (l03State_any xk _).mono ?_
      rintro e w' ⟨rfl, rfl⟩
      rw [hbb]
      clear hbb
      cases bb
      all_goals cases cc
      all_goals (go_wp2; go_meet; (case rel => exact ⟨by rw [unhide hr]; rfl, (unhide HF _).1, (unhide HF _).2.1, (unhide HF _).2.2, by simp, (cell_alloc_mark_at _ _ _ _ _ 0 (by simp)).trans rfl, (cell_alloc_mark_at _ _ _ _ _ 1 (by simp)).trans rfl, (cell_alloc_mark_at _ _ _ _ _ 2 (by simp)).trans rfl, (cell_alloc_mark_at _ _ _ _ _ 3 (by simp)).trans rfl, (cell_alloc_mark_at _ _ _ _ _ 4 (by simp)).trans rfl⟩))
  case rest =>
    obtain ⟨rfl, hLc, hSc, hKc, hsz, d0, d1, d2, d3, d4⟩ := hcut
    clear c0 c1 c2 c3 c4 f3 f4 s0 sf q0 q1 q2 q3 q4 hmx
    have hwl : w.heap.size < wc.heap.size := by omega
    have hWc : Hid (Below w0.heap.size w0 wc) := hide ((unhide HW).trans ((unhide hKc).below (by omega) (by omega) (by have := (unhide HW).size; omega)))
    have HR5 : Hid (StrsAt wc pn xs) := hide ((unhide HQ5).later (unhide hWc))
    obtain ⟨rb, hrb⟩ : ∃ rb, rightB sort xk = rb := ⟨_, rfl⟩
    have HRB := hide hrb
    rw [hrb]
    clear hrb
    go_wp2_with fail
    refine (l03Kids_any xk xn xt pn xs.length cn pk xj.length ck wc z2).mono ?_
    rintro e w1 ⟨v, rfl, hI, hb1⟩
    obtain ⟨hc1, hf1⟩ := bcell hb1
    have g0 := hc1 w.heap.size 0 hwl
    have g1 := hc1 w.heap.size 1 hwl
    have g2 := hc1 w.heap.size 2 hwl
    have g3 := hc1 w.heap.size 3 hwl
    have g4 := hc1 w.heap.size 4 hwl
    rw [d0] at g0
    rw [d1] at g1
    rw [d2] at g2
    rw [d3] at g3
    rw [d4] at g4
    have hL1 := hide ((unhide hLc).later hb1)
    have hS1 := hide ((unhide hSc).later hb1)
    have hK1 := hide ((unhide hKc).then_below hb1)
    have hW1 := hide ((unhide hWc).trans (hb1.mono (by have := (unhide HW).size; omega)))
    have hsz1 : w.heap.size < w1.heap.size := by have := hb1.size; omega
    have HR6 : Hid (StrsAt w1 pn xs) := hide ((unhide HQ5).later (unhide hW1))
    have HB1 := hide hb1
    have HI := hide hI
    obtain ⟨sa, scap, rfl⟩ := hI.slice
    clear hI hb1 hc1 hf1 d0 d1 d2 d3 d4
    obtain ⟨c0, c1, c2, c3, c4⟩ := (unhide hL1).cells
    have f3 := (unhide hL1).free 3
    cases rb
    · have hP := hide (fun w' (hk : Kept X B w w') (hL : LookAt w' X B L ns.length root false dm) => walk_fail_right (S := S) (deep := deep) (dp := dp) (unhide hxa) (unhide HRB) hk hL)
      have hD := hide (unhide hP _ ((unhide hK1).set (o := 3) (v := .bool false) (.inl rfl)) ((unhide hL1).setOk false))
      clear hP
      go_wp2
      (try simp only [Exit.inBlock, Exit.then])
      refine bodyPost_ret (results_none rfl _ _ _) rfl ?_
      exact ⟨rfl, unhide hD⟩
    go_wp2_with fail
    refine (l03Node_any ⟨xk, xn, xt, xs, xj⟩ pn cn pk xj.length ck w1 (by unfold maxLen; dsimp only; omega) (unhide HR6) z1 (unhide HZ)).mono ?_
    rintro e w2 ⟨rfl, hb2⟩
    obtain ⟨pb, hpb⟩ : ∃ pb, partsB ⟨xk, xn, xt, xs, xj⟩ = pb := ⟨_, rfl⟩
    have HPB := hide hpb
    rw [hpb]
    clear hpb
    obtain ⟨hc2, hf2⟩ := bcell hb2
    have e4 := hc2 w.heap.size 4 hsz1
    rw [g4] at e4
    have hL2 := hide ((unhide hL1).later hb2)
    have hS2 := hide ((unhide hS1).later hb2)
    have hK2 := hide ((unhide hK1).then_below hb2)
    have hW2 := hide ((unhide hW1).trans (hb2.mono (by have := (unhide HW).size; omega)))
    have hsz2 : w.heap.size < w2.heap.size := by have := hb2.size; omega
    have HI2 := hide ((unhide HI).later hb2)
    clear hb2 hc2 hf2 c0 c1 c2 c3 c4 f3 g0 g1 g2 g3 g4 HI hL1 hS1 hK1 hW1 HB1 HR5 HR6
    obtain ⟨c0, c1, c2, c3, c4⟩ := (unhide hL2).cells
    have f3 := (unhide hL2).free 3
    cases pb
    · have hD := hide (walk_fail_node (S := S) (sort := sort) (deep := deep) (dp := dp) (unhide hxa) (by rw [← nodeB_spec, unhide HPB]; rfl) ((unhide hK2).set (o := 3) (v := .bool false) (.inl rfl)) ((unhide hL2).setOk false))
      go_wp2
      (try simp only [Exit.inBlock, Exit.then])
      refine bodyPost_ret (results_none rfl _ _ _) rfl ?_
      exact ⟨rfl, unhide hD⟩
    obtain ⟨sn, hsn⟩ : ∃ sn, (sortL xk xj.length).length = sn := ⟨_, rfl⟩
    have HSN := hide hsn
    rw [hsn]
    by_cases hle : sn = xj.length
    · have e1 : ((sn : Int) == (xj.length : Int)) = true := by rw [hle]; simp
      have e2 : ((sn : Int) != (xj.length : Int)) = false := by simp [bne, e1]
      have hnb : Hid (nodeB ⟨xk, xn, xt, xs, xj⟩ = true) := hide (by
        rw [← nodeB_spec, unhide HPB]
        show (sortsN xk xj.length == xj.length) = true
        rw [← sortL_len, hsn, hle]; simp)
      have HLE := hide hle
      clear hsn hle
      go_wp2
      go_loopw [11] (fun i wx => ∃ m : Nat, m ≤ sn ∧ i = .int .i64 m ∧ Hid (KidsAt ns root L X B S a ⟨xk, xn, xt, xs, xj⟩ deep dm m w2 wx)) (fun i _ => sn - (intOf i).toNat)
      case atStart => exact ⟨0, by omega, rfl, hide (KidsAt.zero (by rw [unhide HDM]; omega) (unhide hL2) (unhide hS2))⟩
      case round =>
        obtain ⟨m, hm, rfl, hA⟩ := hrel
        have hKx := (unhide hA).1
        have x4 : wr.cell? ⟨w.heap.size, 4, none⟩ = some (.slice pk xj.length ck) := by rw [hKx.cell hsz2 (by omega) (by omega)]; exact e4
        have hWx := hide ((unhide hW2).trans (hKx.below (by omega) (by omega) (by have := (unhide HW).size; omega)))
        have HIx := hide ((unhide HI2).kept hKx (by omega) (by omega))
        have HKx := hide hKx
        clear hKx c0 c1 c2 c3 c4 f3
        by_cases hlt : m < sn
        · have hmj : m < xj.length := by rw [← unhide HLE]; exact hlt
          have hms : m < (sortL xk xj.length).length := by rw [unhide HSN]; exact hlt
          obtain ⟨sv, scap', hsv, hsI⟩ := (unhide HIx).ints
          obtain ⟨bs, os, hps, y0⟩ := hsI m hms
          obtain ⟨bk, ok, hpk, y1⟩ := (unhide HQ6).later (unhide hWx) m hmj
          have hsg := sortL_get xk xj.length m hms
          rw [List.getElem?_eq_getElem hms] at hsg
          rw [Option.some.inj hsg] at y0
          simp at hsv
          obtain ⟨rfl, rfl⟩ := hsv
          subst hps
          rw [hpk] at x4
          have hjm : Hid (xj[m]? = some xj[m]) := hide (List.getElem?_eq_getElem hmj)
          have hst := sort_top xk m
          have hrange := fun top => sort_range xk top m
          generalize xj[m] = j at y1 hjm
          generalize hs0 : sortAt xk false m = s0 at y0 hst hrange
          clear hsI hpk hsg hms
          rcases (unhide hA).2 with ⟨l, d, hO, hT, hLx, hSx⟩ | ⟨hno, dq, hLx⟩
          · have hnx := hide (fun wy h => KidsAt.next (L := L) (deep := deep) (dm := dm) (wy := wy) (unhide HKx) hO hT (unhide hjm) h)
            have hSn := hide (((unhide HS0).snoc ha (unhide HNS)).more hO)
            have HIH := hide (unhide IH (S ++ [a] ++ l) j (sortAt xk (decide ((a : Int) = root)) m) (max dm (deep + d)) wr (by have : ([a] : List Nat).length = 1 := rfl; rw [List.length_append, List.length_append]; omega) (unhide hSn) (hrange _) hLx hSx (unhide hWx))
            obtain ⟨c0, c1, c2, c3, c4⟩ := hLx.cells
            clear hO hT hLx hSx hA
            by_cases hr : (a : Int) = root
            · rw [decide_eq_true hr, hst] at HIH
              rw [decide_eq_true hr, hst] at hnx
              have r1 : ((a : Int) == root) = true := by simp [hr]
              by_cases h3 : s0 = 3
              · rw [if_pos h3] at HIH hnx
                have r2 : (s0 == 3) = true := by simp [h3]
                clear hr h3 hst hrange
                go_wp2_with fail
                refine (unhide HIH).mono ?_
                rintro e wy ⟨rfl, hP⟩
                have hD := hide (unhide hnx wy hP)
                clear hP hnx HIH
                go_wp2
                go_roundw
                case rel => exact ⟨m + 1, by omega, by go_num, hide (unhide hD)⟩
                case measure => simp [intOf]; omega
              · rw [if_neg h3] at HIH hnx
                have r2 : (s0 == 3) = false := beq_eq_false_iff_ne.2 h3
                clear hr h3 hst hrange
                go_wp2_with fail
                refine (unhide HIH).mono ?_
                rintro e wy ⟨rfl, hP⟩
                have hD := hide (unhide hnx wy hP)
                clear hP hnx HIH
                go_wp2
                go_roundw
                case rel => exact ⟨m + 1, by omega, by go_num, hide (unhide hD)⟩
                case measure => simp [intOf]; omega
            · rw [decide_eq_false hr, hs0] at HIH hnx
              have r1 : ((a : Int) == root) = false := beq_eq_false_iff_ne.2 hr
              clear hr hst hrange
              go_wp2_with fail
              refine (unhide HIH).mono ?_
              rintro e wy ⟨rfl, hP⟩
              have hD := hide (unhide hnx wy hP)
              clear hP hnx HIH
              go_wp2
              go_roundw
              case rel => exact ⟨m + 1, by omega, by go_num, hide (unhide hD)⟩
              case measure => simp [intOf]; omega
          · have hD := hide (KidsAt.off (deep := deep) (dm := dm) (m := m) (m' := m + 1) (unhide HKx) hno ((Kept.refl X B wr).set (o := 3) (v := .bool false) (.inl rfl)) ⟨dq, hLx.setOk false⟩)
            have HOff := hide (fun s => walk_off X B L ns.length root j s ((deep : Int) + 1) dq wr hLx)
            obtain ⟨c0, c1, c2, c3, c4⟩ := hLx.cells
            clear hno hLx hA
            by_cases hr : (a : Int) = root
            · have r1 : ((a : Int) == root) = true := by simp [hr]
              by_cases h3 : s0 = 3
              · have r2 : (s0 == 3) = true := by simp [h3]
                clear hr h3 hst hrange
                go_wp2_with fail
                refine (unhide HOff _).mono ?_
                rintro e wy ⟨rfl, rfl⟩
                go_wp2
                go_roundw
                case rel => exact ⟨m + 1, by omega, by go_num, hide (unhide hD)⟩
                case measure => simp [intOf]; omega
              · have r2 : (s0 == 3) = false := beq_eq_false_iff_ne.2 h3
                clear hr h3 hst hrange
                go_wp2_with fail
                refine (unhide HOff _).mono ?_
                rintro e wy ⟨rfl, rfl⟩
                go_wp2
                go_roundw
                case rel => exact ⟨m + 1, by omega, by go_num, hide (unhide hD)⟩
                case measure => simp [intOf]; omega
            · have r1 : ((a : Int) == root) = false := beq_eq_false_iff_ne.2 hr
              clear hr hst hrange
              go_wp2_with fail
              refine (unhide HOff _).mono ?_
              rintro e wy ⟨rfl, rfl⟩
              go_wp2
              go_roundw
              case rel => exact ⟨m + 1, by omega, by go_num, hide (unhide hD)⟩
              case measure => simp [intOf]; omega
        · have hD := hide (KidsAt.done (sort := sort) (dp := dp) (unhide hxa) (unhide HNS) (unhide hnb) (unhide HRB) hd1 (show m = xj.length by rw [← unhide HLE]; omega) (unhide hK2) (by rw [← unhide HDM]; exact unhide hA))
          go_wp2
          go_end0
          exact ⟨rfl, unhide hD⟩
    · have e1 : ((sn : Int) == (xj.length : Int)) = false := beq_eq_false_iff_ne.2 (by omega)
      have e2 : ((sn : Int) != (xj.length : Int)) = true := by simp [bne, e1]
      have hD := hide (walk_fail_node (S := S) (sort := sort) (deep := deep) (dp := dp) (unhide hxa) (by
        rw [← nodeB_spec, unhide HPB]
        show (sortsN xk xj.length == xj.length) = false
        rw [← sortL_len, hsn]
        exact beq_eq_false_iff_ne.2 hle) ((unhide hK2).set (o := 3) (v := .bool false) (.inl rfl)) ((unhide hL2).setOk false))
      clear hsn hle
      go_wp2
      (try simp only [Exit.inBlock, Exit.then])
      refine bodyPost_ret (results_none rfl _ _ _) rfl ?_
      exact ⟨rfl, unhide hD⟩

end Go.Proofs.YtbipgmikgokfpaaDoor
