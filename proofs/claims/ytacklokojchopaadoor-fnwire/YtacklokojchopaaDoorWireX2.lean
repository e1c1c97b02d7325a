/- Lines of a name: both sides and the law. -/
import Derived.Test.YtacklokojchopaaDoorWireX1
namespace Go.Proofs.YtacklokojchopaaDoor
open Go.RowKit Go.Shelf Go.Joins
set_option linter.unusedVariables false

theorem hdrR_long {s n : ByteArray} (h : 65536 < s.size ∨ 65536 < n.size) : hdrR s n = (⟨#[]⟩, 2) := if_pos h
theorem hdrR_bad {s n : ByteArray} (h1 : s.size ≤ 65536) (h2 : n.size ≤ 65536) (h : (reqR s).e ≠ 0) : hdrR s n = (⟨#[]⟩, (reqR s).e) := by
  unfold hdrR; rw [if_neg (by omega), if_pos h]
theorem find_yes {α : Type} {p : α → Bool} : ∀ {r : List α} {j : Nat} (hj : j < r.length), (∀ i (hi : i < r.length), i < j → p r[i] = false) → p r[j] = true → r.find? p = some r[j]
  | a :: r, 0, _, _, h => by simpa using List.find?_cons_of_pos h
  | a :: r, j + 1, hj, hn, h => by
    rw [List.find?_cons_of_neg (by have := hn 0 (by simp) (by omega); simpa using this)]
    exact find_yes (by simpa using hj) (fun i hi hij => by have := hn (i + 1) (by simpa using hi) (by omega); simpa using this) (by simpa using h)
theorem find_no {α : Type} {p : α → Bool} {r : List α} (hn : ∀ i (hi : i < r.length), p r[i] = false) : r.find? p = none := by
  rw [List.find?_eq_none]
  intro x hx
  obtain ⟨i, hi, rfl⟩ := List.mem_iff_getElem.1 hx
  rw [hn i hi]; simp
theorem hdrR_yes {s n : ByteArray} (h1 : s.size ≤ 65536) (h2 : n.size ≤ 65536) (h : (reqR s).e = 0) {j : Nat} (hj : j < (linesOf s).tail.length) (hn : ∀ i (hi : i < (linesOf s).tail.length), i < j → alikeB (hName (linesOf s).tail[i]) n = false) (hy : alikeB (hName (linesOf s).tail[j]) n = true) : hdrR s n = (hVal (linesOf s).tail[j], 0) := by
  unfold hdrR; rw [if_neg (by omega), if_neg (by rw [h]; simp), find_yes hj hn hy]
theorem hdrR_no {s n : ByteArray} (h1 : s.size ≤ 65536) (h2 : n.size ≤ 65536) (h : (reqR s).e = 0) (hn : ∀ i (hi : i < (linesOf s).tail.length), alikeB (hName (linesOf s).tail[i]) n = false) : hdrR s n = (⟨#[]⟩, 5) := by
  unfold hdrR; rw [if_neg (by omega), if_neg (by rw [h]; simp), find_no hn]
/-- what a read without a fault tells of the text -/
theorem reqR_zero {s : ByteArray} (h : (reqR s).e = 0) : s.size ≤ 65536 ∧ ∃ k : Nat, Lib.indexB s crlf2S = k ∧ k ≤ 116 ∧ HdsOk (linesOf s).tail = true := by
  by_cases h0 : 65536 < s.size
  · rw [reqR_long h0] at h; exact absurd h (by decide)
  refine ⟨by omega, ?_⟩
  rcases Lib.indexB_cases s crlf2S with hi | ⟨k, hi, _⟩
  · by_cases h1 : 120 < s.size
    · rw [reqR_over (by omega) hi h1] at h; exact absurd h (by decide)
    · rw [reqR_more (by omega) hi (by omega)] at h; exact absurd h (by decide)
  · by_cases h1 : 116 < k
    · rw [reqR_far (by omega) hi h1] at h; exact absurd h (by decide)
    obtain ⟨l, r, hlr⟩ := linesOf_cons s
    refine ⟨k, hi, by omega, ?_⟩
    rw [hlr]
    show HdsOk r = true
    by_cases hf : fstC l = 0
    · cases hr : HdsOk r
      · rw [reqR_line (by omega) hi (by omega) hlr hf hr] at h; exact absurd h (by decide)
      · rfl
    · rw [reqR_first (by omega) hi (by omega) hlr rfl hf] at h; exact absurd h hf

set_option maxHeartbeats 4000000 in
set_option maxRecDepth 100000 in
theorem HeaderOf_any (s n : ByteArray) (w : World) (hs : s.size ≤ maxLen) (hn : n.size ≤ maxLen) (hm : MaxL w) :
    Calls Tryd.prog 14 #[.string s, .string n] w fun e w' => e = .returned (.tuple #[.string (hdrR s n).1, .int .i64 (hdrR s n).2]) ∧ Below w.heap.size w w' := by
  have HM := hide hm
  clear hm
  have hs' := hs
  have hn' := hn
  unfold maxLen at hs' hn'
  by_cases h1 : 65536 < s.size
  · have HR := hide (hdrR_long (n := n) (.inl h1))
    go_enter Tryd.func14, Tryd.ntmps14
    go_wp2
    go_ret2
    exact ⟨by rw [unhide HR]; rfl, Below.refl _ _⟩
  by_cases h2 : 65536 < n.size
  · have HR := hide (hdrR_long (s := s) (.inr h2))
    go_enter Tryd.func14, Tryd.ntmps14
    go_wp2
    go_ret2
    exact ⟨by rw [unhide HR]; rfl, Below.refl _ _⟩
  go_enter Tryd.func14, Tryd.ntmps14
  go_wp2_with fail
  refine (readHead_any s _ hs (unhide HM)).mono ?_
  rintro e w1 ⟨hb1, v, rfl, hH⟩
  by_cases he : (reqR s).e = 0
  · obtain ⟨_, k, hk, hk6, hok⟩ := reqR_zero he
    have hH := hH he
    obtain ⟨hsm, hmany⟩ := lines_small (by omega) hk hk6
    have hsm2 : ∀ u ∈ (linesOf s).tail, u.size ≤ 1000 := fun u hu => hsm u (List.mem_of_mem_tail hu)
    have HSV := hide (hv_small hsm2)
    have hlen : (linesOf s).tail.length ≤ 1000 := by rw [List.length_tail]; omega
    have HY := hide (fun (j : Nat) (hj : j < (linesOf s).tail.length) => hdrR_yes (n := n) (by omega) (by omega) he hj)
    have HN := hide (hdrR_no (s := s) (n := n) (by omega) (by omega) he)
    have hs6 : s.size ≤ 65536 := by omega
    have hn6 : n.size ≤ 65536 := by omega
    generalize (linesOf s).tail = r at hH HSV hlen HY HN
    clear hsm hsm2 hmany hok hk hk6
    generalize (reqR s).p = P
    generalize (reqR s).c = C
    generalize (reqR s).n = NN
    obtain ⟨E, hE⟩ : ∃ E, (reqR s).e = E := ⟨_, rfl⟩
    rw [he] at hE ⊢
    clear hE he
    obtain ⟨a, cap, rfl, hat⟩ := hH.slice
    have HAT := hide (show HVsAt w1 a (r.map hvOf) from hat)
    rw [List.length_map]
    clear hat hH
    go_wp2
    go_loopw [32] (fun i wx => ∃ j : Nat, j ≤ r.length ∧ i = .int .i64 j ∧ Hid (∀ i (hi : i < r.length), i < j → alikeB (hName r[i]) n = false) ∧ Below w1.heap.size w1 wx) (fun i _ => r.length - (intOf i).toNat)
    case atStart => exact ⟨0, by omega, rfl, hide (fun i _ h => absurd h (Nat.not_lt_zero _)), qx_alloc _ _⟩
    case round =>
      obtain ⟨j, hj, rfl, hno, hnx⟩ := hrel
      by_cases hlt : j < r.length
      · obtain ⟨g, ea, q0, q1, q2⟩ := (unhide HAT).later hnx j (by simpa using hlt)
        have z0 := unhide HSV (hvOf r[j]) (List.mem_map_of_mem (List.getElem_mem hlt))
        simp only [List.getElem_map] at q0 q1
        have HA := hide (fun w => lettersAlike_any (hvOf r[j]).n n w (by omega) (by omega))
        have HYj := hide (unhide HY j hlt (unhide hno))
        have HNj := hide (fun (hk : alikeB (hName r[j]) n = false) => show ∀ i (hi : i < r.length), i < j + 1 → alikeB (hName r[i]) n = false from fun i hi hij => by
          by_cases e : i = j
          · subst e; exact hk
          · exact unhide hno i hi (by omega))
        have e1 : alikeB (hvOf r[j]).n n = alikeB (hName r[j]) n := rfl
        have e2 : hVal r[j] = (hvOf r[j]).v := rfl
        rw [e1] at HA
        rw [e2] at HYj
        generalize alikeB (hName r[j]) n = K at HA HYj HNj
        generalize hvOf r[j] = x at q0 q1 z0 HA HYj
        obtain ⟨xn, xv⟩ := x
        dsimp only at q0 q1 z0 HA HYj
        obtain ⟨zn, zv⟩ := z0
        subst ea
        have hne : g ≠ wr.heap.size := by omega
        clear e1 e2
        cases K
        · have HD := hide (unhide HNj rfl)
          clear HNj HYj
          go_wp2_with fail
          refine (unhide HA _).mono ?_
          rintro e w2 ⟨rfl, hb2⟩
          go_wp2
          go_roundw
          case rel => exact ⟨j + 1, by omega, by go_num, HD, qx_trans (qx_al hnx) hb2⟩
          case measure => simp [intOf]; omega
        · have HR := hide (unhide HYj rfl)
          go_wp2_with fail
          refine (unhide HA _).mono ?_
          rintro e w2 ⟨rfl, hb2⟩
          obtain ⟨hc2, hf2⟩ := qcell hb2
          have hz2 : wr.heap.size < w2.heap.size := by have := hb2.size; simp at this; omega
          go_wp2_with fail
          refine (strClone_any xv _ (by omega)).mono ?_
          rintro e w3 ⟨rfl, hb3⟩
          go_wp2
          go_ret2
          exact ⟨by rw [unhide HR]; rfl, qx_trans hb1 (qx_trans (qx_trans (qx_al hnx) hb2) hb3)⟩
      · have HR := hide (unhide HN fun i hi => unhide hno i hi (by omega))
        go_wp2
        go_ret2
        exact ⟨by rw [unhide HR]; rfl, qx_trans hb1 hnx⟩
  · have HR := hide (hdrR_bad (s := s) (n := n) (by omega) (by omega) he)
    clear hH
    generalize (reqR s).p = P
    generalize (reqR s).c = C
    generalize (reqR s).n = NN
    obtain ⟨E, hE⟩ : ∃ E, (reqR s).e = E := ⟨_, rfl⟩
    rw [hE] at HR he ⊢
    have hcb : (E != 0) = true := by simp [he]
    have hce : (E == 0) = false := by simp [he]
    clear hE
    go_wp2
    go_ret2
    exact ⟨by rw [unhide HR]; rfl, qx_al hb1⟩

/-- a line that may stand there: where its colon is -/
theorem hOk_colon {u : ByteArray} (h : hOk u = true) : ∃ k : Nat, 1 ≤ k ∧ k + 1 ≤ u.size ∧ Lib.indexB u colonS = k ∧ hName u = u.extract 0 k ∧ hVal u = trimS' (u.extract (k + 1) u.size) := by
  rcases Lib.indexB_cases u colonS with hi | ⟨k, hi, hr⟩
  · rw [hOk_none hi] at h; cases h
  · have hcz : colonS.size = 1 := rfl
    rw [hcz] at hr
    by_cases h0 : k = 0
    · subst h0
      rw [hOk_zero hi] at h; cases h
    · obtain ⟨h1, h2, _⟩ := cut_hit hi
      refine ⟨k, by omega, hr, hi, h1, ?_⟩
      rw [hVal_is, h2, hcz]
theorem hds_at {r : List ByteArray} (h : HdsOk r = true) {j : Nat} (hj : j < r.length) : hOk r[j] = true := List.all_eq_true.1 h _ (List.getElem_mem hj)

set_option maxHeartbeats 8000000 in
set_option maxRecDepth 100000 in
theorem specHeaderOf_any (s n : ByteArray) (w : World) (hs : s.size ≤ maxLen) (hn : n.size ≤ maxLen) :
    Calls Tryd.prog 21 #[.string s, .string n] w fun e w' => e = .returned (.tuple #[.string (hdrR s n).1, .int .i64 (hdrR s n).2]) ∧ Below w.heap.size w w' := by
  have hs' := hs
  have hn' := hn
  unfold maxLen at hs' hn'
  by_cases h1 : 65536 < s.size
  · have HR := hide (hdrR_long (n := n) (.inl h1))
    go_enter Tryd.func21, Tryd.ntmps21
    go_wp2
    go_ret2
    exact ⟨by rw [unhide HR]; rfl, Below.refl _ _⟩
  by_cases h2 : 65536 < n.size
  · have HR := hide (hdrR_long (s := s) (.inr h2))
    go_enter Tryd.func21, Tryd.ntmps21
    go_wp2
    go_ret2
    exact ⟨by rw [unhide HR]; rfl, Below.refl _ _⟩
  have HRd := hide fun w => l08Read_any s w (by omega)
  have hV : Hid (rrV (reqR s) = .tuple #[.agg #[.string (reqR s).p, .bool (reqR s).c], .int .i64 (reqR s).n, .int .i64 (reqR s).e]) := hide rfl
  rw [unhide hV] at HRd
  clear hV
  by_cases he : (reqR s).e = 0
  · obtain ⟨_, k, hk, hk6, hok⟩ := reqR_zero he
    obtain ⟨hsm, hmany⟩ := lines_small (by omega) hk hk6
    obtain ⟨l, r, hlr⟩ := linesOf_cons s
    have htl : (linesOf s).tail = r := by rw [hlr]; rfl
    have HY := hide (fun (j : Nat) (hj : j < (linesOf s).tail.length) => hdrR_yes (n := n) (by omega) (by omega) he hj)
    have HN := hide (hdrR_no (s := s) (n := n) (by omega) (by omega) he)
    have hkr : k + 4 ≤ s.size := by
      rcases Lib.indexB_cases s crlf2S with hi | ⟨k', hi, hr⟩
      · rw [hi] at hk; omega
      · rw [hi] at hk
        have : crlf2S.size = 4 := rfl
        omega
    have hz : (s.extract 0 k).size = k := by rw [ByteArray.size_extract]; omega
    have HF := hide fun w => l08Find_any s crlf2S w (by omega) (by decide) (by decide)
    have HL := hide fun w => l08Lines_any (s.extract 0 k) w (by omega)
    rw [hk] at HF
    rw [← linesOf_is hk, hlr] at HL
    rw [htl] at HY HN hok
    rw [hlr] at hsm hmany
    have HSM := hide (show ∀ u ∈ r, u.size ≤ 1000 from fun u hu => hsm u (List.mem_cons_of_mem _ hu))
    have HOK := hide hok
    have hrl : r.length ≤ 1000 := by simp at hmany; omega
    have hks : (k : Int) ≤ (s.size : Int) := by omega
    have HSN := hide fun w => l08Small_any n w (by omega)
    clear hsm hmany hok hk htl hlr hz hkr
    generalize (reqR s).p = P at HRd
    generalize (reqR s).c = C at HRd
    generalize (reqR s).n = NN at HRd
    rw [he] at HRd
    clear he
    go_enter Tryd.func21, Tryd.ntmps21
    go_wp2_with fail
    refine (unhide HRd _).mono ?_
    rintro e w1 ⟨rfl, hb1⟩
    go_wp2_with fail
    refine (unhide HF _).mono ?_
    rintro e w1' ⟨rfl, rfl⟩
    go_wp2_with fail
    refine (unhide HL _).mono ?_
    rintro e w2 ⟨v2, rfl, ht2, hb2⟩
    obtain ⟨g2, cap2, rfl, hc0, hcap2, hgl2, hrest⟩ := rest_at ht2
    have htop := hide (show Below w.heap.size w w2 from qx_trans (qx_al hb1) hb2)
    have HG : Hid (∀ wx, Below w2.heap.size w2 wx → ∀ j (h : j < r.length), wx.cell? ⟨g2, j + 1, none⟩ = some (.string r[j])) := hide fun wx hx j h => by
      rw [hx.cell (p := ⟨g2, j + 1, none⟩) hgl2, Nat.add_comm j 1]
      exact hrest j h
    obtain ⟨q, hq⟩ : ∃ q, r.length + 1 = q := ⟨_, rfl⟩
    rw [hq]
    clear ht2 hrest hb1 hb2 hcap2 hc0
    go_wp2
    go_loopw [10] (fun i wx => ∃ j : Nat, j ≤ r.length ∧ i = .int .i64 ((j + 1 : Nat) : Int) ∧ Hid (∀ i (hi : i < r.length), i < j → alikeB (hName r[i]) n = false) ∧ Below w2.heap.size w2 wx) (fun i _ => r.length + 1 - (intOf i).toNat)
    case atStart => exact ⟨0, by omega, rfl, hide (fun i _ h => absurd h (Nat.not_lt_zero _)), Below.refl _ _⟩
    case round =>
      obtain ⟨j, hj, rfl, hno, hnx⟩ := hrel
      obtain ⟨i0, hi0⟩ : ∃ i0, j + 1 = i0 := ⟨_, rfl⟩
      by_cases hlt : j < r.length
      · have hcell := unhide HG wr hnx j hlt
        have husz := unhide HSM r[j] (List.getElem_mem hlt)
        have hiq : (i0 : Int) < (q : Int) := by omega
        obtain ⟨k2, hk1, hk2, hx, eN, eV⟩ := hOk_colon (hds_at (unhide HOK) hlt)
        have HYj := hide (unhide HY j hlt (unhide hno))
        have HNj := hide (fun (hk : alikeB (hName r[j]) n = false) => show ∀ i (hi : i < r.length), i < j + 1 → alikeB (hName r[i]) n = false from fun i hi hij => by
          by_cases e : i = j
          · subst e; exact hk
          · exact unhide hno i hi (by omega))
        rw [eN, alike_small] at HYj HNj
        rw [eV] at HYj
        rw [hi0] at hcell ⊢
        generalize r[j] = u at hcell husz hk2 hx eN eV HYj HNj
        have HF2 := hide fun w => l08Find_any u colonS w (by omega) (by decide) (by decide)
        rw [hx] at HF2
        have e1 : IntKind.i64.wrap ((k2 : Int) + 1) = ((k2 + 1 : Nat) : Int) := by rw [IntKind.wrap_i64]; omega
        have z1 : (u.extract 0 k2).size ≤ 1000 := by rw [ByteArray.size_extract]; omega
        have z2 : (u.extract (k2 + 1) u.size).size ≤ 1000 := by rw [ByteArray.size_extract]; omega
        have hk2' : (k2 : Int) ≤ (u.size : Int) := by omega
        obtain ⟨k3, hk3⟩ : ∃ k3, k2 + 1 = k3 := ⟨_, rfl⟩
        rw [hk3] at e1 z2 HYj
        have hk3' : (k3 : Int) ≤ (u.size : Int) := by omega
        have hk30 : (0 : Int) ≤ (k3 : Int) := by omega
        have HM1 := hide fun w => l08Small_any (u.extract 0 k2) w (by omega)
        have HBR := hide fun w => l08Bare_any (u.extract k3 u.size) w (by omega)
        generalize smallS (u.extract 0 k2) = A at HM1 HYj HNj
        obtain ⟨B, hB⟩ : ∃ B, smallS n = B := ⟨_, rfl⟩
        have HSB := hide fun w => unhide HSN w
        rw [hB] at HSB HYj HNj
        generalize trimS' (u.extract k3 u.size) = V at HBR HYj
        clear hx hk3 z1 z2 eN eV hB
        by_cases hAB : A = B
        · have HR := hide (unhide HYj (by simp [hAB]))
          subst hAB
          have q1 := qa_self A
          have q2 := ql_self A
          clear HYj HNj
          go_wp2_with fail
          refine (unhide HF2 _).mono ?_
          rintro e wr ⟨rfl, rfl⟩
          go_wp2_with fail
          refine (unhide HM1 _).mono ?_
          rintro e w4 ⟨rfl, hb4⟩
          go_wp2_with fail
          refine (unhide HSB _).mono ?_
          rintro e w5 ⟨rfl, hb5⟩
          have hcell5 := cell_later hb5 (cell_later hb4 hcell)
          go_wp2_with fail
          refine (unhide HBR _).mono ?_
          rintro e w5 ⟨rfl, rfl⟩
          go_wp2
          go_ret2
          exact ⟨by rw [unhide HR]; rfl, qx_trans (unhide htop) (qx_trans (qx_trans hnx hb4) hb5)⟩
        · have HD := hide (unhide HNj (by simp [hAB]))
          have q1 := qa_ne hAB
          have q2 := ql_ne hAB
          have q3 := ql_not hAB
          clear HYj HNj hAB
          go_wp2_with fail
          refine (unhide HF2 _).mono ?_
          rintro e wr ⟨rfl, rfl⟩
          go_wp2_with fail
          refine (unhide HM1 _).mono ?_
          rintro e w4 ⟨rfl, hb4⟩
          go_wp2_with fail
          refine (unhide HSB _).mono ?_
          rintro e w5 ⟨rfl, hb5⟩
          have hiN : i0 + 1 = j + 1 + 1 := by omega
          go_wp2
          go_roundw
          case rel => exact ⟨j + 1, by omega, by rw [← hiN]; go_num, HD, qx_trans (qx_trans hnx hb4) hb5⟩
          case measure => simp [intOf]; omega
      · have HR := hide (unhide HN fun i hi => unhide hno i hi (by omega))
        have hiq : ¬ (i0 : Int) < (q : Int) := by omega
        rw [hi0]
        go_wp2
        go_ret2
        exact ⟨by rw [unhide HR]; rfl, qx_trans (unhide htop) hnx⟩
  · have HR := hide (hdrR_bad (s := s) (n := n) (by omega) (by omega) he)
    generalize (reqR s).p = P at HRd
    generalize (reqR s).c = C at HRd
    generalize (reqR s).n = NN at HRd
    generalize (reqR s).e = E at HRd HR he
    have hcb : (E != 0) = true := by simp [he]
    have hce : (E == 0) = false := by simp [he]
    go_enter Tryd.func21, Tryd.ntmps21
    go_wp2_with fail
    refine (unhide HRd _).mono ?_
    rintro e w1 ⟨rfl, hb1⟩
    go_wp2
    go_ret2
    exact ⟨by rw [unhide HR]; rfl, qx_al hb1⟩

set_option maxHeartbeats 2000000 in
theorem lawHeaderOf_any (s n : ByteArray) (w : World) (hs : s.size ≤ maxLen) (hn : n.size ≤ maxLen) (hm : MaxL w) :
    Calls Tryd.prog 6 #[.string s, .string n] w fun e w' => e = .returned (.bool true) ∧ Below w.heap.size w w' := by
  have hs' := hs
  have hn' := hn
  unfold maxLen at hs' hn'
  have HM := hide hm
  clear hm
  by_cases h : 1048576 < s.size
  · go_enter Tryd.func6, Tryd.ntmps6
    go_wp2
    go_ret
    exact ⟨rfl, Below.refl _ _⟩
  by_cases h' : 1048576 < n.size
  · go_enter Tryd.func6, Tryd.ntmps6
    go_wp2
    go_ret
    exact ⟨rfl, Below.refl _ _⟩
  · have H1 := hide fun w => specHeaderOf_any s n w hs hn
    have H2 := hide fun w => HeaderOf_any s n w hs hn
    generalize hdrR s n = R at H1 H2
    obtain ⟨a, b⟩ := R
    dsimp only at H1 H2
    have q1 := qa_nself a
    have q2 := ql_nself a
    go_enter Tryd.func6, Tryd.ntmps6
    go_wp2_with fail
    refine (unhide H1 _).mono ?_
    rintro e w1 ⟨rfl, hb1⟩
    go_wp2_with fail
    refine (unhide H2 _ ((unhide HM).later hb1)).mono ?_
    rintro e w2 ⟨rfl, hb2⟩
    go_wp2
    go_ret
    exact ⟨rfl, qx_trans hb1 hb2⟩

end Go.Proofs.YtacklokojchopaaDoor
