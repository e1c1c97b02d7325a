/- The specification's reading of a request. -/
import Derived.Test.YthfoabcmgiiadaaGreatDoorWireW5
import Derived.Test.YthfoabcmgiiadaaGreatDoorWireL3
import Derived.Lib.SmallJoins
namespace Go.Proofs.YthfoabcmgiiadaaGreatDoor
open Go.RowKit Go.Shelf Go.Joins
set_option linter.unusedVariables false

/-- an answer of a read -/
def rrV (r : RR) : Value := .tuple #[.agg #[.string r.p, .bool r.c], .int .i64 r.n, .int .i64 r.e]

/-- a request of one's own in two cells -/
def ReqAt (w : World) (b : Nat) (p : ByteArray) (c : Bool) : Prop := w.cell? ⟨b, 0, none⟩ = some (.string p) ∧ w.cell? ⟨b, 1, none⟩ = some (.bool c) ∧ w.frozen? ⟨b, 0, none⟩ = false ∧ w.frozen? ⟨b, 1, none⟩ = false ∧ b < w.heap.size
theorem ReqAt.later {w w' : World} {b : Nat} {p : ByteArray} {c : Bool} (h : ReqAt w b p c) (hb : Below w.heap.size w w') : ReqAt w' b p c := by
  obtain ⟨h0, h1, h2, h3, h4⟩ := h
  exact ⟨cell_later hb h0, cell_later hb h1, by rw [(qcell hb).2 _ _ h4]; exact h2, by rw [(qcell hb).2 _ _ h4]; exact h3, Nat.lt_of_lt_of_le h4 hb.size⟩

theorem ReqAt.below {w w' : World} {B b : Nat} {p : ByteArray} {c : Bool} (h : ReqAt w b p c) (hb : Below B w w') (hB : b < B) : ReqAt w' b p c := by
  obtain ⟨h0, h1, h2, h3, h4⟩ := h
  exact ⟨by rw [hb.cell (p := ⟨b, 0, none⟩) hB]; exact h0, by rw [hb.cell (p := ⟨b, 1, none⟩) hB]; exact h1, by rw [hb.frozen (p := ⟨b, 0, none⟩) hB]; exact h2, by rw [hb.frozen (p := ⟨b, 1, none⟩) hB]; exact h3, Nat.lt_of_lt_of_le h4 hb.size⟩
theorem ReqAt.new (w : World) (p : ByteArray) (c : Bool) (n : Nat) (hn : w.heap.size = n) (t : TypeId) : ReqAt (w.alloc (.cells #[.string p, .bool c] t)) n p c := by
  subst hn
  refine ⟨by simp, by simp, ?_, ?_, by simp⟩
  · exact unfrozen_of_block (g := w.heap.size) (cs := #[.string p, .bool c]) (t := t) (by show (w.heap.push _)[w.heap.size]? = _; simp) 0
  · exact unfrozen_of_block (g := w.heap.size) (cs := #[.string p, .bool c]) (t := t) (by show (w.heap.push _)[w.heap.size]? = _; simp) 1
theorem ReqAt.shut {w : World} {b : Nat} {p : ByteArray} {c : Bool} (h : ReqAt w b p c) : ReqAt (w.setCell ⟨b, 1, none⟩ (.bool true)) b p true := by
  obtain ⟨h0, h1, h2, h3, h4⟩ := h
  refine ⟨?_, World.cell?_setCell_same _ _ _ h1, ?_, ?_, by simpa using h4⟩
  · rw [World.cell?_setCell_other _ _ _ _ (by simp)]; exact h0
  · simpa using h2
  · simpa using h3

theorem req_text {N : ByteArray} {L : List UInt8} (h : N = ⟨L.toArray⟩) : N.toList = L ∧ (N.toList == L) = true ∧ (N.toList != L) = false := by
  subst h
  rw [ByteArray.toList_eq]
  simp

set_option maxHeartbeats 8000000 in
set_option maxRecDepth 100000 in
theorem l08Read_any (s : ByteArray) (w : World) (hs : s.size ≤ 65536) :
    Calls Tryz.prog 64 #[.string s] w fun e w' => e = .returned (rrV (reqR s)) ∧ Below w.heap.size w w' := by
  have HF := hide fun w => l08Find_any s crlf2S w (by omega) (by decide) (by decide)
  rcases Lib.indexB_cases s crlf2S with h | ⟨k, h, hr⟩
  · rw [h] at HF
    by_cases h1 : 120 < s.size
    · have HR := hide (reqR_over hs h h1)
      clear h
      go_enter Tryz.func64, Tryz.ntmps64
      go_wp2_with fail
      refine (unhide HF _).mono ?_
      rintro e w1 ⟨rfl, rfl⟩
      go_wp2
      exact bodyPost_ret (v := rrV (RR.bad 2)) (by simp [results, Tryz.results64, go_sem, rrV, RR.bad]) rfl ⟨by rw [unhide HR], qx_alloc _ _⟩
    · have HR := hide (reqR_more hs h (by omega))
      clear h
      go_enter Tryz.func64, Tryz.ntmps64
      go_wp2_with fail
      refine (unhide HF _).mono ?_
      rintro e w1 ⟨rfl, rfl⟩
      go_wp2
      exact bodyPost_ret (v := rrV (RR.bad 18)) (by simp [results, Tryz.results64, go_sem, rrV, RR.bad]) rfl ⟨by rw [unhide HR], qx_alloc _ _⟩
  · rw [h] at HF
    by_cases h1 : 116 < k
    · have HR := hide (reqR_far hs h h1)
      clear h
      go_enter Tryz.func64, Tryz.ntmps64
      go_wp2_with fail
      refine (unhide HF _).mono ?_
      rintro e w1 ⟨rfl, rfl⟩
      go_wp2
      exact bodyPost_ret (v := rrV (RR.bad 2)) (by simp [results, Tryz.results64, go_sem, rrV, RR.bad]) rfl ⟨by rw [unhide HR], qx_alloc _ _⟩
    · have hk4 : crlf2S.size = 4 := rfl
      rw [hk4] at hr
      have hks : (k : Int) ≤ (s.size : Int) := by omega
      have hz : (s.extract 0 k).size = k := by rw [ByteArray.size_extract]; omega
      have HL := hide fun w => l08Lines_any (s.extract 0 k) w (by omega)
      obtain ⟨l, r, hlr⟩ := linesOf_cons s
      rw [← linesOf_is h, hlr] at HL
      have HRF := hide fun c (hc : fstC l = c) (h0 : c ≠ 0) => reqR_first hs h (by omega) hlr hc h0
      have HRL := hide fun (hc : fstC l = 0) (h0 : HdsOk r = false) => reqR_line hs h (by omega) hlr hc h0
      have HRO := hide fun (hc : fstC l = 0) (h0 : HdsOk r = true) => reqR_ok hs h (by omega) hlr hc h0
      have hsm : ∀ u ∈ l :: r, u.size ≤ 1000 := fun u hu => by
        rw [← hlr, linesOf_is h] at hu
        have := pieces_small crlfS (by decide) _ (s.extract 0 k) (Nat.le_refl _) u hu
        omega
      have hmany : (l :: r).length ≤ 1000 := by
        rw [← hlr, linesOf_is h]
        have := pieces_many crlfS (by decide) _ (s.extract 0 k) (Nat.le_refl _)
        omega
      have HSM := hide hsm
      have hlz : l.size ≤ 1000 := hsm l (by simp)
      clear hsm hlr h hz
      generalize reqR s = R at HRF HRL HRO
      have HCut := hide fun w => l00Cut_any l 32 w (by omega)
      have hpz := fun u hu => pieces_small ⟨#[32]⟩ (Nat.le_refl 1) _ l (Nat.le_refl _) u hu
      obtain ⟨q, hq⟩ : ∃ q, (l :: r).length = q := ⟨_, rfl⟩
      have hq0 : (0 : Int) < (q : Int) := by rw [← hq]; simp
      rcases fst_words l with ⟨a, b, c, hp, hm, hpp, hv⟩ | ⟨hp, hv⟩
      · have hp' : pieces ⟨#[32]⟩ l = [a, b, c] := hp
        rw [hp'] at HCut hpz
        clear hp hp'
        have hbz : b.size ≤ maxLen := by have := hpz b (by simp); unfold maxLen; omega
        clear hpz
        have HP := hide fun w => l08Path_any b w hbz
        by_cases hcv : c = httpS
        · cases hpb : wpathB b
          · have HR := hide (unhide HRF 3 (fstC_path (by rw [hpp]; exact hpb)) (by omega))
            obtain ⟨n1, n2, n3⟩ := req_text (N := c) (L := [72, 84, 84, 80, 47, 49, 46, 49]) hcv
            rw [hpb] at HP
            clear hcv HRF HRL HRO hpb
            go_enter Tryz.func64, Tryz.ntmps64
            go_wp2_with fail
            refine (unhide HF _).mono ?_
            rintro e w1 ⟨rfl, rfl⟩
            go_wp2_with fail
            refine (unhide HL _).mono ?_
            rintro e w2 ⟨v2, rfl, ht2, hb2⟩
            obtain ⟨g2, cap2, rfl, hg2, hgl2, hcap2⟩ := ht2.opened (by simp)
            have hc0 : w2.cell? ⟨g2, 0, none⟩ = some (.string l) := ht2.get 0 (by simp)
            rw [hq]
            obtain ⟨hc2, hf2⟩ := qcell hb2
            have hz2 : w.heap.size < w2.heap.size := by have := hb2.size; simp at this; omega
            have HT2 := hide ht2
            clear ht2
            go_wp2_with fail
            refine (unhide HCut _).mono ?_
            rintro e w3 ⟨v3, rfl, ht3, hb3⟩
            obtain ⟨g3, cap3, rfl, hg3, hgl3, hcap3⟩ := ht3.opened (by simp)
            have hd0 : w3.cell? ⟨g3, 0, none⟩ = some (.string a) := ht3.get 0 (by simp)
            have hd1 : w3.cell? ⟨g3, 1, none⟩ = some (.string b) := ht3.get 1 (by simp)
            have hd2 : w3.cell? ⟨g3, 2, none⟩ = some (.string c) := ht3.get 2 (by simp)
            obtain ⟨hc3, hf3⟩ := qcell hb3
            have hz3 : w.heap.size < w3.heap.size := by have := hb3.size; omega
            clear ht3
            simp only [List.length_cons, List.length_nil, Nat.zero_add, Nat.reduceAdd]
            go_wp2_with fail
            refine (unhide HP _).mono ?_
            rintro e w3 ⟨rfl, rfl⟩
            go_wp2
            exact bodyPost_ret (v := rrV (RR.bad 3)) (by simp [results, Tryz.results64, go_sem, rrV, RR.bad, hc3, hc2, hz2]) rfl ⟨by rw [unhide HR], qx_set (qx_set (qx_trans (qx_trans (qx_alloc _ _) hb2) hb3) (Nat.le_refl _)) (Nat.le_refl _)⟩
          · rw [hpb] at HP
            by_cases ha : a = getS
            · have HFS := hide (fstC_ok (l := l) (by rw [hpp]; exact hpb) (by rw [hv]; exact hcv) (by rw [hm]; exact ha))
              obtain ⟨n1, n2, n3⟩ := req_text (N := c) (L := [72, 84, 84, 80, 47, 49, 46, 49]) hcv
              obtain ⟨g1, g2', g3'⟩ := req_text (N := a) (L := [71, 69, 84]) ha
              clear hcv HRF hpb ha hm hv
              go_enter Tryz.func64, Tryz.ntmps64
              go_wp2_with fail
              refine (unhide HF _).mono ?_
              rintro e w1 ⟨rfl, rfl⟩
              go_wp2_with fail
              refine (unhide HL _).mono ?_
              rintro e w2 ⟨v2, rfl, ht2, hb2⟩
              obtain ⟨g2, cap2, rfl, hg2, hgl2, hcap2⟩ := ht2.opened (by simp)
              have hc0 : w2.cell? ⟨g2, 0, none⟩ = some (.string l) := ht2.get 0 (by simp)
              rw [hq]
              obtain ⟨hc2, hf2⟩ := qcell hb2
              have hz2 : w.heap.size < w2.heap.size := by have := hb2.size; simp at this; omega
              have HT2 := hide ht2
              clear ht2
              go_wp2_with fail
              refine (unhide HCut _).mono ?_
              rintro e w3 ⟨v3, rfl, ht3, hb3⟩
              obtain ⟨g3, cap3, rfl, hg3, hgl3, hcap3⟩ := ht3.opened (by simp)
              have hd0 : w3.cell? ⟨g3, 0, none⟩ = some (.string a) := ht3.get 0 (by simp)
              have hd1 : w3.cell? ⟨g3, 1, none⟩ = some (.string b) := ht3.get 1 (by simp)
              have hd2 : w3.cell? ⟨g3, 2, none⟩ = some (.string c) := ht3.get 2 (by simp)
              obtain ⟨hc3, hf3⟩ := qcell hb3
              have hz3 : w.heap.size < w3.heap.size := by have := hb3.size; omega
              clear ht3
              simp only [List.length_cons, List.length_nil, Nat.zero_add, Nat.reduceAdd]
              go_wp2_with fail
              refine (unhide HP _).mono ?_
              rintro e w3 ⟨rfl, rfl⟩
              have htop := hide (show Below w.heap.size w w3 from qx_trans (qx_trans (qx_alloc _ _) hb2) hb3)
              have hres : ReqAt w3 w.heap.size ⟨#[]⟩ false := (((ReqAt.new w _ _ _ rfl _).later hb2).later hb3)
              have hT3 := (unhide HT2).later hb3
              have hgg3 : g2 < w3.heap.size := Nat.lt_of_lt_of_le hgl2 hb3.size
              have HG : Hid (∀ wx, Below w3.heap.size w3 wx → ∀ j (h : j < r.length), wx.cell? ⟨g2, j + 1, none⟩ = some (.string r[j])) := hide fun wx hx j h => by
                rw [hx.cell (p := ⟨g2, j + 1, none⟩) hgg3]
                exact hT3.get (j + 1) (by simp; omega)
              have HRS : Hid (∀ wx, Below w3.heap.size w3 wx → ReqAt wx w.heap.size ⟨#[]⟩ false) := hide fun wx hx => hres.below hx hz3
              have hout : ∀ wx, Below w3.heap.size w3 wx → Below w.heap.size w wx := fun wx hx => qx_trans (unhide htop) hx
              have hnew := hide (ReqAt.new w3 b false w3.heap.size rfl 31)
              have hqr : q = r.length + 1 := by rw [← hq]; simp
              have hrl : r.length ≤ 1000 := by simp at hmany; omega
              clear hres hT3 hc2 hf2 hb2 hb3 HT2 htop hq hg2 hg3 hgl2 hgl3 hcap2 hcap3 hc0
              go_wp2
              clear hd0 hd1 hd2 hc3 hf3
              go_loopw [9] (fun i wx => ∃ (j : Nat) (cl : Bool), j ≤ r.length ∧ i = .int .i64 ((j + 1 : Nat) : Int) ∧ Hid (HdsOk (r.take j) = true) ∧ Hid ((r.take j).any hShut = cl) ∧ Hid (ReqAt wx w3.heap.size b cl) ∧ Below w3.heap.size w3 wx) (fun i _ => r.length + 1 - (intOf i).toNat)
              case atStart => exact ⟨0, false, by omega, rfl, hide (by simp [HdsOk]), hide (by simp), hnew, qx_alloc _ _⟩
              case round =>
                clear hnew
                obtain ⟨j, cl, hj, rfl, hok, hcl, hat, hnx⟩ := hrel
                have hi : ((j + 1 : Nat) : Int) = (j : Int) + 1 := by omega
                obtain ⟨i0, hi0⟩ : ∃ i0, j + 1 = i0 := ⟨_, rfl⟩
                have HGj := hide (unhide HG wr hnx j)
                obtain ⟨rc0, rc1, rf0, rf1, rl⟩ := unhide HRS wr hnx
                by_cases hlt : j < r.length
                · have hcell := unhide HGj hlt
                  have hiq : (i0 : Int) < (q : Int) := by omega
                  have husz := unhide HSM r[j] (List.mem_cons_of_mem _ (List.getElem_mem hlt))
                  have HOK := hide fun hk => hds_take (unhide hok) hlt hk
                  have HNO := hide fun hk => unhide HRL (unhide HFS) (hds_no hlt hk)
                  have HSH := hide ((shut_take hlt).trans (by rw [unhide hcl]))
                  rw [hi0] at hcell ⊢
                  clear hi
                  generalize r[j] = u at hcell husz HOK HNO HSH
                  have HF2 := hide fun w => l08Find_any u colonS w (by omega) (by decide) (by decide)
                  rcases Lib.indexB_cases u colonS with hx | ⟨k2, hx, hr2⟩
                  · have HR := hide (unhide HNO (hOk_none hx))
                    rw [hx] at HF2
                    clear hx HOK HNO HSH
                    go_wp2_with fail
                    refine (unhide HF2 _).mono ?_
                    rintro e wr ⟨rfl, rfl⟩
                    go_wp2
                    exact bodyPost_ret (v := rrV (RR.bad 3)) (by simp [results, Tryz.results64, go_sem, rrV, RR.bad, rc0, rc1]) rfl ⟨by rw [unhide HR], qx_set (qx_set (hout _ hnx) (Nat.le_refl _)) (Nat.le_refl _)⟩
                  · by_cases hk0 : k2 = 0
                    · subst hk0
                      have HR := hide (unhide HNO (hOk_zero hx))
                      rw [hx] at HF2
                      clear hx HOK HNO HSH
                      go_wp2_with fail
                      refine (unhide HF2 _).mono ?_
                      rintro e wr ⟨rfl, rfl⟩
                      go_wp2
                      exact bodyPost_ret (v := rrV (RR.bad 3)) (by simp [results, Tryz.results64, go_sem, rrV, RR.bad, rc0, rc1]) rfl ⟨by rw [unhide HR], qx_set (qx_set (hout _ hnx) (Nat.le_refl _)) (Nat.le_refl _)⟩
                    · have hcz : colonS.size = 1 := rfl
                      rw [hcz] at hr2
                      have hO := hOk_hit hx (by omega) (by omega)
                      have hS := hShut_hit hx
                      rw [hx] at HF2
                      rw [hS] at HSH
                      have e1 : IntKind.i64.wrap ((k2 : Int) + 1) = ((k2 + 1 : Nat) : Int) := by rw [IntKind.wrap_i64]; omega
                      have z1 : (u.extract 0 k2).size ≤ 1000 := by rw [ByteArray.size_extract]; omega
                      have z2 : (u.extract (k2 + 1) u.size).size ≤ 1000 := by rw [ByteArray.size_extract]; omega
                      have hk1 : ¬ (k2 : Int) < 1 := by omega
                      have hk2 : (k2 : Int) ≤ (u.size : Int) := by omega
                      obtain ⟨k3, hk3⟩ : ∃ k3, k2 + 1 = k3 := ⟨_, rfl⟩
                      rw [hk3] at e1 z2 HSH
                      have hk3' : (k3 : Int) ≤ (u.size : Int) := by omega
                      have hk30 : (0 : Int) ≤ (k3 : Int) := by omega
                      have HM1 := hide fun w => l08Small_any (u.extract 0 k2) w (by omega)
                      have HBR := hide fun w => l08Bare_any (u.extract k3 u.size) w (by omega)
                      have z3 : (trimS' (u.extract k3 u.size)).size ≤ 1000 := Nat.le_trans (trim_size _) z2
                      have HM2 := hide fun w => l08Small_any (trimS' (u.extract k3 u.size)) w (by omega)
                      generalize smallS (u.extract 0 k2) = N at HM1 hO HSH
                      generalize smallS (trimS' (u.extract k3 u.size)) = V at HM2 HSH
                      clear hx hr2 hk0 hk3 z1 z2 z3
                      go_wp2_with fail
                      refine (unhide HF2 _).mono ?_
                      rintro e wr ⟨rfl, rfl⟩
                      go_wp2_with fail
                      refine (unhide HM1 _).mono ?_
                      rintro e w4 ⟨rfl, hb4⟩
                      have hcell4 := cell_later hb4 hcell
                      go_wp2_with fail
                      refine (unhide HBR _).mono ?_
                      rintro e w4 ⟨rfl, rfl⟩
                      go_wp2_with fail
                      refine (unhide HM2 _).mono ?_
                      rintro e w5 ⟨rfl, hb5⟩
                      have hat5 := hide (((unhide hat).later hb4).later hb5)
                      have hnx5 := qx_trans (qx_trans hnx hb4) hb5
                      clear hat rc0 rc1 rf0 rf1 rl hcell hcell4 hnx hb4 hb5
                      obtain ⟨rc0, rc1, rf0, rf1, rl⟩ := unhide HRS w5 hnx5
                      by_cases hN1 : N = clenS
                      · have HR := hide (unhide HNO (by rw [hO]; simp [hN1]))
                        obtain ⟨m1, m2, m3⟩ := req_text (N := N) (L := [99, 111, 110, 116, 101, 110, 116, 45, 108, 101, 110, 103, 116, 104]) hN1
                        clear hO HOK HNO HSH hN1
                        go_wp2
                        exact bodyPost_ret (v := rrV (RR.bad 3)) (by simp [results, Tryz.results64, go_sem, rrV, RR.bad, rc0, rc1]) rfl ⟨by rw [unhide HR], qx_set (qx_set (hout _ hnx5) (Nat.le_refl _)) (Nat.le_refl _)⟩
                      · by_cases hN2 : N = tencS
                        · have HR := hide (unhide HNO (by rw [hO]; simp [hN2]))
                          obtain ⟨m1, m2, m3, _, _⟩ := txt_no (N := N) (L := [99, 111, 110, 116, 101, 110, 116, 45, 108, 101, 110, 103, 116, 104]) hN1
                          obtain ⟨p1, p2, p3⟩ := req_text (N := N) (L := [116, 114, 97, 110, 115, 102, 101, 114, 45, 101, 110, 99, 111, 100, 105, 110, 103]) hN2
                          clear hO HOK HNO HSH hN1 hN2
                          go_wp2
                          exact bodyPost_ret (v := rrV (RR.bad 3)) (by simp [results, Tryz.results64, go_sem, rrV, RR.bad, rc0, rc1]) rfl ⟨by rw [unhide HR], qx_set (qx_set (hout _ hnx5) (Nat.le_refl _)) (Nat.le_refl _)⟩
                        · have HD := hide (unhide HOK (by rw [hO]; simp [hN1, hN2]))
                          obtain ⟨m1, m2, m3, _, _⟩ := txt_no (N := N) (L := [99, 111, 110, 116, 101, 110, 116, 45, 108, 101, 110, 103, 116, 104]) hN1
                          obtain ⟨p1, p2, p3, _, _⟩ := txt_no (N := N) (L := [116, 114, 97, 110, 115, 102, 101, 114, 45, 101, 110, 99, 111, 100, 105, 110, 103]) hN2
                          have hiN : i0 + 1 = j + 1 + 1 := by omega
                          by_cases hN3 : N = connS
                          · obtain ⟨r1, r2, r3⟩ := req_text (N := N) (L := [99, 111, 110, 110, 101, 99, 116, 105, 111, 110]) hN3
                            by_cases hV : V = closeS
                            · obtain ⟨s1, s2, s3⟩ := req_text (N := V) (L := [99, 108, 111, 115, 101]) hV
                              have HS2 : Hid ((List.take (j + 1) r).any hShut = true) := hide ((unhide HSH).trans (by simp [hN3, hV]))
                              obtain ⟨ac0, ac1, af0, af1, al⟩ := unhide hat5
                              have hat6 := hide (unhide hat5).shut
                              clear hO HOK HNO HSH hN1 hN2 hN3 hV hat5
                              go_wp2
                              go_roundw
                              case rel => exact ⟨j + 1, true, by omega, by rw [← hiN]; go_num, HD, HS2, hat6, qx_set hnx5 (Nat.le_refl _)⟩
                              case measure => simp [intOf]; omega
                            · obtain ⟨s1, s2, s3, _, _⟩ := txt_no (N := V) (L := [99, 108, 111, 115, 101]) hV
                              have HS2 : Hid ((List.take (j + 1) r).any hShut = cl) := hide ((unhide HSH).trans (by simp [hV]))
                              clear hO HOK HNO HSH hN1 hN2 hN3 hV
                              go_wp2
                              go_roundw
                              case rel => exact ⟨j + 1, cl, by omega, by rw [← hiN]; go_num, HD, HS2, hat5, hnx5⟩
                              case measure => simp [intOf]; omega
                          · obtain ⟨r1, r2, r3, _, _⟩ := txt_no (N := N) (L := [99, 111, 110, 110, 101, 99, 116, 105, 111, 110]) hN3
                            have HS2 : Hid ((List.take (j + 1) r).any hShut = cl) := hide ((unhide HSH).trans (by simp [hN3]))
                            clear hO HOK HNO HSH hN1 hN2 hN3
                            go_wp2
                            go_roundw
                            case rel => exact ⟨j + 1, cl, by omega, by rw [← hiN]; go_num, HD, HS2, hat5, hnx5⟩
                            case measure => simp [intOf]; omega
                · have HR := hide (unhide HRO (unhide HFS) (hds_end (unhide hok) (by omega)))
                  have hcl2 := hide ((shut_end (r := r) (j := j) (by omega)).symm.trans (unhide hcl))
                  have hiq : ¬ (i0 : Int) < (q : Int) := by omega
                  rw [hi0]
                  clear hi
                  obtain ⟨ac0, ac1, af0, af1, al⟩ := unhide hat
                  go_wp2
                  exact bodyPost_ret (v := rrV ⟨b, cl, (k : Int) + 4, 0⟩) (by simp [results, Tryz.results64, go_sem, rrV, rc0, rc1]) rfl ⟨by rw [unhide HR, hpp, unhide hcl2], qx_set (qx_set (hout _ hnx) (Nat.le_refl _)) (Nat.le_refl _)⟩
            · have HR := hide (unhide HRF 17 (fstC_get (by rw [hpp]; exact hpb) (by rw [hv]; exact hcv) (by rw [hm]; exact ha)) (by omega))
              obtain ⟨n1, n2, n3⟩ := req_text (N := c) (L := [72, 84, 84, 80, 47, 49, 46, 49]) hcv
              obtain ⟨g1, g2', g3', _, _⟩ := txt_no (N := a) (L := [71, 69, 84]) ha
              clear hcv HRF HRL HRO hpb ha
              go_enter Tryz.func64, Tryz.ntmps64
              go_wp2_with fail
              refine (unhide HF _).mono ?_
              rintro e w1 ⟨rfl, rfl⟩
              go_wp2_with fail
              refine (unhide HL _).mono ?_
              rintro e w2 ⟨v2, rfl, ht2, hb2⟩
              obtain ⟨g2, cap2, rfl, hg2, hgl2, hcap2⟩ := ht2.opened (by simp)
              have hc0 : w2.cell? ⟨g2, 0, none⟩ = some (.string l) := ht2.get 0 (by simp)
              rw [hq]
              obtain ⟨hc2, hf2⟩ := qcell hb2
              have hz2 : w.heap.size < w2.heap.size := by have := hb2.size; simp at this; omega
              have HT2 := hide ht2
              clear ht2
              go_wp2_with fail
              refine (unhide HCut _).mono ?_
              rintro e w3 ⟨v3, rfl, ht3, hb3⟩
              obtain ⟨g3, cap3, rfl, hg3, hgl3, hcap3⟩ := ht3.opened (by simp)
              have hd0 : w3.cell? ⟨g3, 0, none⟩ = some (.string a) := ht3.get 0 (by simp)
              have hd1 : w3.cell? ⟨g3, 1, none⟩ = some (.string b) := ht3.get 1 (by simp)
              have hd2 : w3.cell? ⟨g3, 2, none⟩ = some (.string c) := ht3.get 2 (by simp)
              obtain ⟨hc3, hf3⟩ := qcell hb3
              have hz3 : w.heap.size < w3.heap.size := by have := hb3.size; omega
              clear ht3
              simp only [List.length_cons, List.length_nil, Nat.zero_add, Nat.reduceAdd]
              go_wp2_with fail
              refine (unhide HP _).mono ?_
              rintro e w3 ⟨rfl, rfl⟩
              go_wp2
              exact bodyPost_ret (v := rrV (RR.bad 17)) (by simp [results, Tryz.results64, go_sem, rrV, RR.bad, hc3, hc2, hz2]) rfl ⟨by rw [unhide HR], qx_set (qx_set (qx_trans (qx_trans (qx_alloc _ _) hb2) hb3) (Nat.le_refl _)) (Nat.le_refl _)⟩
        · have HR := hide (unhide HRF 3 (fstC_other (by rw [hv]; exact hcv)) (by omega))
          obtain ⟨n1, n2, n3, n4, n5⟩ := txt_no (N := c) (L := [72, 84, 84, 80, 47, 49, 46, 49]) hcv
          clear hcv HRF HRL HRO
          go_enter Tryz.func64, Tryz.ntmps64
          go_wp2_with fail
          refine (unhide HF _).mono ?_
          rintro e w1 ⟨rfl, rfl⟩
          go_wp2_with fail
          refine (unhide HL _).mono ?_
          rintro e w2 ⟨v2, rfl, ht2, hb2⟩
          obtain ⟨g2, cap2, rfl, hg2, hgl2, hcap2⟩ := ht2.opened (by simp)
          have hc0 : w2.cell? ⟨g2, 0, none⟩ = some (.string l) := ht2.get 0 (by simp)
          rw [hq]
          obtain ⟨hc2, hf2⟩ := qcell hb2
          have hz2 : w.heap.size < w2.heap.size := by have := hb2.size; simp at this; omega
          clear ht2
          go_wp2_with fail
          refine (unhide HCut _).mono ?_
          rintro e w3 ⟨v3, rfl, ht3, hb3⟩
          obtain ⟨g3, cap3, rfl, hg3, hgl3, hcap3⟩ := ht3.opened (by simp)
          have hd2 : w3.cell? ⟨g3, 2, none⟩ = some (.string c) := ht3.get 2 (by simp)
          obtain ⟨hc3, hf3⟩ := qcell hb3
          have hz3 : w.heap.size < w3.heap.size := by have := hb3.size; omega
          clear ht3
          simp only [List.length_cons, List.length_nil, Nat.zero_add, Nat.reduceAdd]
          go_wp2
          exact bodyPost_ret (v := rrV (RR.bad 3)) (by simp [results, Tryz.results64, go_sem, rrV, RR.bad, hc3, hc2, hz2]) rfl ⟨by rw [unhide HR], qx_set (qx_set (qx_trans (qx_trans (qx_alloc _ _) hb2) hb3) (Nat.le_refl _)) (Nat.le_refl _)⟩
      · have HR := hide (unhide HRF 3 (fstC_other hv) (by omega))
        obtain ⟨n, hn⟩ : ∃ n, (pieces ⟨#[32]⟩ l).length = n := ⟨_, rfl⟩
        have hn3 : ((n : Int) != 3) = true := by
          have : n ≠ 3 := fun e => hp (hn.trans e)
          simp; omega
        have hn0 : 0 < n := by
          rw [← hn]
          exact List.length_pos_iff.2 (pieces_ne _ _ (Nat.le_refl 1))
        clear hv hp hpz HRF HRL HRO
        generalize pieces ⟨#[32]⟩ l = ws at HCut hn
        go_enter Tryz.func64, Tryz.ntmps64
        go_wp2_with fail
        refine (unhide HF _).mono ?_
        rintro e w1 ⟨rfl, rfl⟩
        go_wp2_with fail
        refine (unhide HL _).mono ?_
        rintro e w2 ⟨v2, rfl, ht2, hb2⟩
        obtain ⟨g2, cap2, rfl, hg2, hgl2, hcap2⟩ := ht2.opened (by simp)
        have hc0 : w2.cell? ⟨g2, 0, none⟩ = some (.string l) := ht2.get 0 (by simp)
        rw [hq]
        obtain ⟨hc2, hf2⟩ := qcell hb2
        have hz2 : w.heap.size < w2.heap.size := by have := hb2.size; simp at this; omega
        clear ht2
        go_wp2_with fail
        refine (unhide HCut _).mono ?_
        rintro e w3 ⟨v3, rfl, ht3, hb3⟩
        obtain ⟨g3, cap3, rfl, hg3, hgl3, hcap3⟩ := ht3.opened (by rw [hn]; exact hn0)
        rw [hn]
        obtain ⟨hc3, hf3⟩ := qcell hb3
        have hz3 : w.heap.size < w3.heap.size := by have := hb3.size; omega
        clear ht3
        go_wp2
        exact bodyPost_ret (v := rrV (RR.bad 3)) (by simp [results, Tryz.results64, go_sem, rrV, RR.bad, hc3, hc2, hz2]) rfl ⟨by rw [unhide HR], qx_set (qx_set (qx_trans (qx_trans (qx_alloc _ _) hb2) hb3) (Nat.le_refl _)) (Nat.le_refl _)⟩

end Go.Proofs.YthfoabcmgiiadaaGreatDoor
