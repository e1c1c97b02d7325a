/- What the code's writer prints of an expression. -/
import Derived.Test.YtoehpjignngjlaaDoorTextL
import Derived.Test.YtoehpjignngjlaaDoorSText
import Derived.Test.YtoehpjignngjlaaDoorBufWalk
import Derived.Test.YtoehpjignngjlaaDoorGrowWalk3
import Derived.Test.YtoehpjignngjlaaDoorByteEq
import Derived.Test.YtoehpjignngjlaaDoorTreeLaw3
namespace Go.Proofs.YtoehpjignngjlaaDoor
open Go.RowKit Go.Joins
set_option linter.unusedVariables false
set_option linter.unusedSimpArgs false

/-- the branches of a tree, all below B -/
def Brs (w : World) (B : Nat) (L : Lay) (ns : List TN) (loc : Nat → Nat) (l0 : List Nat) : Prop := ∀ y ∈ l0, BrIn w (fun k => k < B) L ns loc y
theorem Brs.keep {w w' : World} {B : Nat} {L : Lay} {ns : List TN} {loc : Nat → Nat} {l0 : List Nat} (h : Brs w B L ns loc l0) (hb : Below B w w') : Brs w' B L ns loc l0 := fun y hy => (h y hy).keep (fun k hk => hb.block k hk) (fun k hk => hk)
/-- what a call of the writer leaves -/
def TwP (B b : Nat) (acc : List UInt8) (t : ByteArray) (w : World) (e : Ending) (w' : World) : Prop := e = .returned (.tuple #[]) ∧ Tw B b (acc ++ t.data.toList) w' ∧ Below B w w'
theorem TwP.mk {B b : Nat} {acc A : List UInt8} {t : ByteArray} {w w' : World} (h : Tw B b A w') (he : A = acc ++ t.data.toList) (hb : Below B w w') : TwP B b acc t w (.returned (.tuple #[])) w' := ⟨rfl, he ▸ h, hb⟩
theorem pre_len {A X acc T : List UInt8} (h : A ++ X = acc ++ T) {n : Nat} (hn : acc.length + T.length ≤ n) : A.length ≤ n := by
  have := congrArg List.length h
  rw [List.length_append, List.length_append] at this
  omega
theorem Buf.some {w : World} {base : Nat} {v : Value} {t : List UInt8} (h : Buf w base v t) (h0 : t ≠ []) : ∃ g cap, v = .slice (some ⟨g, 0, Option.none⟩) t.length cap := by
  have h : w.ownsRow base 5 1 v t.length (Lib.byteCells t) := h
  rcases h.2 with ⟨_, hz⟩ | ⟨g, cap, cur, hv, _⟩
  · exact absurd (List.eq_nil_of_length_eq_zero hz) h0
  · exact ⟨g, cap, hv⟩
theorem toL_len (s : ByteArray) : s.data.toList.length = s.size := Array.length_toList
theorem toL_app (a b : ByteArray) : (a ++ b).data.toList = a.data.toList ++ b.data.toList := by simp
theorem twPuts (B b : Nat) (l : List UInt8) (zs : List ByteArray) (n : Nat) (w : World) (h : Tw B b l w) (hl : l.length ≤ 100000000000) (hz : ∀ z ∈ zs, z.size ≤ 10000000000) (hzl : zs.length ≤ 5) (hBw : B ≤ w.heap.size) (hn : n = zs.length) :
    Calls Tryd.prog 18 #[.pointer (some ⟨b, 0, none⟩), .slice (some ⟨w.heap.size, 0, none⟩) n n] (w.alloc (.cells (zs.map Value.string).toArray 9)) fun e w' => e = .returned (.tuple #[]) ∧ Tw B b (l ++ flatB zs) w' ∧ Below B w w' := by
  refine (twPut_any B b w.heap.size n l zs _ (h.later (nx_alloc _ _)) (by show (w.heap.push _)[w.heap.size]? = _; simp) hn hl hz hzl (by simp; omega)).mono ?_
  rintro e w' ⟨rfl, hT, hb⟩
  exact ⟨rfl, hT, ((Below.refl B w).alloc hBw _).trans hb⟩
theorem twPut1 (B b : Nat) (l : List UInt8) (s : ByteArray) (w : World) (h : Tw B b l w) (hl : l.length ≤ 100000000000) (h1 : s.size ≤ 10000000000) (hBw : B ≤ w.heap.size) :
    Calls Tryd.prog 18 #[.pointer (some ⟨b, 0, none⟩), .slice (some ⟨w.heap.size, 0, none⟩) 1 1] (w.alloc (.cells #[.string s] 9)) fun e w' => e = .returned (.tuple #[]) ∧ Tw B b (l ++ flatB [s]) w' ∧ Below B w w' :=
  twPuts B b l [s] 1 w h hl (by simpa using h1) (by simp) hBw rfl
theorem twPut2 (B b : Nat) (l : List UInt8) (s t : ByteArray) (w : World) (h : Tw B b l w) (hl : l.length ≤ 100000000000) (h1 : s.size ≤ 10000000000) (h2 : t.size ≤ 10000000000) (hBw : B ≤ w.heap.size) :
    Calls Tryd.prog 18 #[.pointer (some ⟨b, 0, none⟩), .slice (some ⟨w.heap.size, 0, none⟩) 2 2] (w.alloc (.cells #[.string s, .string t] 9)) fun e w' => e = .returned (.tuple #[]) ∧ Tw B b (l ++ flatB [s, t]) w' ∧ Below B w w' :=
  twPuts B b l [s, t] 2 w h hl (by simpa using ⟨h1, h2⟩) (by simp) hBw rfl
theorem twPut3 (B b : Nat) (l : List UInt8) (s t u : ByteArray) (w : World) (h : Tw B b l w) (hl : l.length ≤ 100000000000) (h1 : s.size ≤ 10000000000) (h2 : t.size ≤ 10000000000) (h3 : u.size ≤ 10000000000) (hBw : B ≤ w.heap.size) :
    Calls Tryd.prog 18 #[.pointer (some ⟨b, 0, none⟩), .slice (some ⟨w.heap.size, 0, none⟩) 3 3] (w.alloc (.cells #[.string s, .string t, .string u] 9)) fun e w' => e = .returned (.tuple #[]) ∧ Tw B b (l ++ flatB [s, t, u]) w' ∧ Below B w w' :=
  twPuts B b l [s, t, u] 3 w h hl (by simpa using ⟨h1, h2, h3⟩) (by simp) hBw rfl

set_option maxHeartbeats 1000000 in
set_option maxRecDepth 100000 in
theorem signBetween_any (g : Nat) (k : Int) (t : ByteArray) (w : World) (c0 : w.cell? ⟨g, 0, none⟩ = some (.int .i64 k)) (c2 : w.cell? ⟨g, 2, none⟩ = some (.string t)) :
    Calls Tryd.prog 51 #[.pointer (some ⟨g, 0, none⟩)] w fun e w' => e = .returned (.string (if k = 9 then ⟨#[124, 124]⟩ else if k = 8 then ⟨#[38, 38]⟩ else t)) ∧ w' = w := by
  by_cases h9 : k = 9
  · subst h9
    go_enter Tryd.func51, Tryd.ntmps51
    go_wp2
    go_ret
    exact ⟨rfl, rfl⟩
  by_cases h8 : k = 8
  · subst h8
    go_enter Tryd.func51, Tryd.ntmps51
    go_wp2
    go_ret
    exact ⟨rfl, rfl⟩
  have e9 : (k == 9) = false := beq_eq_false_iff_ne.2 h9
  have e8 : (k == 8) = false := beq_eq_false_iff_ne.2 h8
  rw [if_neg h9, if_neg h8]
  clear h9 h8
  go_enter Tryd.func51, Tryd.ntmps51
  go_wp2
  go_ret
  exact ⟨rfl, rfl⟩

set_option maxHeartbeats 2000000 in
set_option maxRecDepth 100000 in
theorem twCall_of (ns : List TN) (loc : Nat → Nat) (B b gx cb : Nat) (pb : Option Addr) (nd : TN) (ts : List ByteArray) (acc : List UInt8) (w : World) (hgx : gx < B) (hT : Tw B b acc w) (hBw : B ≤ w.heap.size)
    (c2 : w.cell? ⟨gx, 2, none⟩ = some (.string nd.t)) (c7 : w.cell? ⟨gx, 7, none⟩ = some (.slice pb nd.kids.length cb)) (hP : PtrsIn w (fun k => k < B) pb (nd.kids.map fun j => loc j.toNat)) (htl : ts.length = nd.kids.length) (hkl : nd.kids.length ≤ 1048576) (hnt : nd.t.size ≤ 1048576)
    (hlen : acc.length + (nd.t ++ ⟨#[40]⟩ ++ joinB ⟨#[44, 32]⟩ ts ++ ⟨#[41]⟩).size ≤ 100000000000) (htsz : (nd.t ++ ⟨#[40]⟩ ++ joinB ⟨#[44, 32]⟩ ts ++ ⟨#[41]⟩).size ≤ 10000000000)
    (HK : Hid (∀ i (hi : i < nd.kids.length) (wx : World) (A : List UInt8), Below B w wx → Tw B b A wx → A.length + (kid ts i).size ≤ 100000000000 → B ≤ wx.heap.size → (kid ts i).size ≤ 10000000000 → Calls Tryd.prog 35 #[.pointer (some ⟨b, 0, none⟩), .pointer (some ⟨loc nd.kids[i].toNat, 0, none⟩)] wx (TwP B b A (kid ts i) wx))) :
    Calls Tryd.prog 50 #[.pointer (some ⟨b, 0, none⟩), .pointer (some ⟨gx, 0, none⟩)] w (TwP B b acc (nd.t ++ ⟨#[40]⟩ ++ joinB ⟨#[44, 32]⟩ ts ++ ⟨#[41]⟩) w) := by
  have HT := hide hT
  have HP := hide hP
  have HLEN := hide hlen
  clear hT hP hlen
  have hpart : Hid (∀ i, i ≤ ts.length → (joinB ⟨#[44, 32]⟩ (ts.take i)).size + acc.length + nd.t.size + 2 ≤ 100000000000 ∧ (joinB ⟨#[44, 32]⟩ (ts.take i)).size ≤ 10000000000) := hide (fun i hi => by
    have h := unhide HLEN
    have h' := htsz
    simp only [ByteArray.size_append] at h h'
    have h1 : (⟨#[40]⟩ : ByteArray).size = 1 := rfl
    have h2 : (⟨#[41]⟩ : ByteArray).size = 1 := rfl
    have h3 : ∀ j, j + i = ts.length → (joinB ⟨#[44, 32]⟩ (ts.take i)).size ≤ (joinB ⟨#[44, 32]⟩ ts).size := by
      intro j
      induction j generalizing i with
      | zero => intro hj; rw [List.take_of_length_le (by omega)]; exact Nat.le_refl _
      | succ j ih =>
        intro hj
        have h4 := ih (i + 1) (by omega) (by omega)
        have hlt : i < ts.length := by omega
        by_cases h0 : i = 0
        · subst h0
          show (0 : Nat) ≤ _
          omega
        · rw [join_next hlt (by omega)] at h4
          simp only [ByteArray.size_append] at h4
          omega
    have := h3 (ts.length - i) (by omega)
    omega)
  go_enter Tryd.func50, Tryd.ntmps50
  have hl0 := unhide hpart 0 (by omega)
  clear htsz
  go_wp2_with fail
  refine (twPut2 B b acc nd.t ⟨#[40]⟩ w (unhide HT) (by omega) (by omega) (by decide) hBw).mono ?_
  rintro e w1 ⟨rfl, hT1, hb1⟩
  have HT1 := hide hT1
  have HB1 := hide hb1
  have hs1 : B ≤ w1.heap.size := Nat.le_trans hBw hb1.size
  have d7 := cellB hb1 hgx c7
  clear c2 c7 hT1 hb1 HT
  go_wp2
  go_loopw [19] (fun i wx => ∃ m : Nat, m ≤ nd.kids.length ∧ i = .int .i64 m ∧ Hid (Tw B b (acc ++ flatB [nd.t, ⟨#[40]⟩] ++ (joinB ⟨#[44, 32]⟩ (ts.take m)).data.toList) wx) ∧ Hid (Below B w wx)) (fun i _ => nd.kids.length - (intOf i).toNat)
  case atStart => exact ⟨0, by omega, rfl, hide (by simpa [joinB] using unhide HT1), hide (unhide HB1)⟩
  case round =>
    clear HT1 HB1 hs1 d7
    obtain ⟨m, hm, rfl, hTm, hBm⟩ := hrel
    have hsm : B ≤ wr.heap.size := Nat.le_trans hBw (unhide hBm).size
    by_cases hlt : m < nd.kids.length
    · obtain ⟨bp, hpb, hbp, y9⟩ := unhide HP m (by rw [List.length_map]; exact hlt)
      subst hpb
      rw [List.getElem_map] at y9
      have y0 := cellB (unhide hBm) hbp y9
      have hmt : m < ts.length := by omega
      have HKm := hide (fun wx A => unhide HK m hlt wx A)
      have hlm := unhide hpart (m + 1) (by omega)
      have hlm0 := unhide hpart m (by omega)
      have HF0 : Hid (m = 0 → ∀ A : List UInt8, A ++ (joinB ⟨#[44, 32]⟩ (ts.take m)).data.toList ++ (kid ts m).data.toList = A ++ (joinB ⟨#[44, 32]⟩ (ts.take (m + 1))).data.toList) := hide (fun h0 A => by
        subst h0
        rw [join_first hmt, kid_at hmt]
        simp [joinB])
      have HF1 : Hid (0 < m → ∀ A : List UInt8, A ++ (joinB ⟨#[44, 32]⟩ (ts.take m)).data.toList ++ flatB [⟨#[44, 32]⟩] ++ (kid ts m).data.toList = A ++ (joinB ⟨#[44, 32]⟩ (ts.take (m + 1))).data.toList) := hide (fun h0 A => by
        rw [join_next hmt h0, kid_at hmt, toL_app, toL_app]
        simp [flatB])
      have hks : (kid ts m).size ≤ (joinB ⟨#[44, 32]⟩ (ts.take (m + 1))).size := by
        by_cases h0 : m = 0
        · subst h0; rw [join_first hmt, kid_at hmt]; exact Nat.le_refl _
        · rw [join_next hmt (by omega), kid_at hmt]; simp only [ByteArray.size_append]; omega
      have hks2 : 0 < m → (joinB ⟨#[44, 32]⟩ (ts.take m)).size + 2 + (kid ts m).size = (joinB ⟨#[44, 32]⟩ (ts.take (m + 1))).size := fun h0 => by
        rw [join_next hmt h0, kid_at hmt]; simp only [ByteArray.size_append]; rfl
      have hfl : (flatB [nd.t, ⟨#[40]⟩]).length = nd.t.size + 1 := by simp [flatB]
      have hAl : (acc ++ flatB [nd.t, ⟨#[40]⟩] ++ (joinB ⟨#[44, 32]⟩ (ts.take m)).data.toList).length = acc.length + nd.t.size + 1 + (joinB ⟨#[44, 32]⟩ (ts.take m)).size := by rw [List.length_append, List.length_append, hfl, toL_len]; omega
      have HNX : Hid (∀ w', Tw B b (acc ++ flatB [nd.t, ⟨#[40]⟩] ++ (joinB ⟨#[44, 32]⟩ (ts.take (m + 1))).data.toList) w' → Tw B b (acc ++ flatB [nd.t, ⟨#[40]⟩] ++ (joinB ⟨#[44, 32]⟩ (ts.take (m + 1))).data.toList) w') := hide (fun _ h => h)
      by_cases h0 : m = 0
      · have HK0 := hide (unhide HKm wr _ (unhide hBm) (unhide hTm) (by
          have hj0 : (joinB ⟨#[44, 32]⟩ (ts.take m)).size = 0 := by subst h0; rfl
          omega) hsm (by omega))
        have HQ := hide (unhide HF0 h0 (acc ++ flatB [nd.t, ⟨#[40]⟩]))
        have e0 : ¬ (0 : Int) < (m : Int) := by omega
        clear h0 HF0 HF1 HKm hks2
        go_wp2_with fail
        refine (unhide HK0).mono ?_
        rintro e w2 ⟨rfl, hT2, hb2⟩
        have HT2 : Hid (Tw B b (acc ++ flatB [nd.t, ⟨#[40]⟩] ++ (joinB ⟨#[44, 32]⟩ (ts.take (m + 1))).data.toList) w2) := hide (by rw [← unhide HQ]; exact hT2)
        have HB2 := hide ((unhide hBm).trans hb2)
        clear hT2 hb2 HK0 y0 y9
        go_wp2
        go_roundw
        case rel => exact ⟨m + 1, by omega, by go_num, hide (unhide HT2), hide (unhide HB2)⟩
        case measure => simp [intOf]; omega
      · have hm0 : 0 < m := by omega
        have hk2 := hks2 hm0
        have HQ := hide (unhide HF1 hm0 (acc ++ flatB [nd.t, ⟨#[40]⟩]))
        have e0 : (0 : Int) < (m : Int) := by omega
        clear h0 HF0 HF1 hks2
        go_wp2_with fail
        refine (twPut1 B b _ ⟨#[44, 32]⟩ wr (unhide hTm) (by omega) (by decide) hsm).mono ?_
        rintro e w2 ⟨rfl, hT2, hb2⟩
        have HT2 := hide hT2
        have HB2 := hide ((unhide hBm).trans hb2)
        have hs2 : B ≤ w2.heap.size := Nat.le_trans hsm hb2.size
        have HK0 := hide (unhide HKm w2 _ (unhide HB2) (unhide HT2) (by
          have hf2 : (flatB [(⟨#[44, 32]⟩ : ByteArray)]).length = 2 := rfl
          rw [List.length_append, hf2]
          omega) hs2 (by omega))
        clear hT2 hb2 y0 y9 HKm
        go_wp2_with fail
        refine (unhide HK0).mono ?_
        rintro e w3 ⟨rfl, hT3, hb3⟩
        have HT3 : Hid (Tw B b (acc ++ flatB [nd.t, ⟨#[40]⟩] ++ (joinB ⟨#[44, 32]⟩ (ts.take (m + 1))).data.toList) w3) := hide (by rw [← unhide HQ]; exact hT3)
        have HB3 := hide ((unhide HB2).trans hb3)
        clear hT3 hb3 HK0 HT2
        go_wp2
        go_roundw
        case rel => exact ⟨m + 1, by omega, by go_num, hide (unhide HT3), hide (unhide HB3)⟩
        case measure => simp [intOf]; omega
    · have hlm0 := unhide hpart m (by omega)
      have hfl : (flatB [nd.t, ⟨#[40]⟩]).length = nd.t.size + 1 := by simp [flatB]
      have hAl : (acc ++ flatB [nd.t, ⟨#[40]⟩] ++ (joinB ⟨#[44, 32]⟩ (ts.take m)).data.toList).length = acc.length + nd.t.size + 1 + (joinB ⟨#[44, 32]⟩ (ts.take m)).size := by rw [List.length_append, List.length_append, hfl, toL_len]; omega
      have HE : Hid (acc ++ flatB [nd.t, ⟨#[40]⟩] ++ (joinB ⟨#[44, 32]⟩ (ts.take m)).data.toList ++ flatB [⟨#[41]⟩] = acc ++ (nd.t ++ ⟨#[40]⟩ ++ joinB ⟨#[44, 32]⟩ ts ++ ⟨#[41]⟩).data.toList) := hide (by
        rw [List.take_of_length_le (by omega)]
        simp [flatB])
      go_wp2_with fail
      refine (twPut1 B b _ ⟨#[41]⟩ wr (unhide hTm) (by omega) (by decide) hsm).mono ?_
      rintro e w2 ⟨rfl, hT2, hb2⟩
      have HF := hide (TwP.mk hT2 (unhide HE) ((unhide hBm).trans hb2))
      clear hT2 hb2
      go_wp2
      go_end0
      exact unhide HF


theorem takes_expr {k : Int} {top : Bool} {i : Nat} {kk : Int} (h : takesB k top i kk = true) (hk : k ≤ 10) : kk ≤ 10 := by
  unfold takesB at h
  rw [if_neg (by omega), if_neg (by omega), if_neg (by omega)] at h
  simp only [Bool.and_eq_true, decide_eq_true_eq] at h
  omega

set_option maxHeartbeats 16000000 in
set_option maxRecDepth 100000 in
theorem twExpr_any (ns : List TN) (root : Int) (L : Lay) (loc : Nat → Nat) (l0 : List Nat) (B b : Nat) (wz : World) (hsm : Hid (Small ns)) (hF : Hid (∀ x ∈ ns, PrintT x)) (hG : Hid (∀ x, x < ns.length → GoodT ns root x))
    (HIT : Hid (∀ (n : Int) (wx : World), 0 ≤ n → n ≤ 2147483647 → Below B wz wx → Calls Tryd.prog 46 #[.int .i64 n] wx fun e w' => e = .returned (.string ⟨(Lib.itoa n).toArray⟩) ∧ Below wx.heap.size wx w'))
    (HFB : Hid (∀ (v : Bool) (wx : World), Calls Tryd.prog 49 #[.bool v] wx fun e w' => e = .returned (.string (if v = true then ⟨#[116, 114, 117, 101]⟩ else ⟨#[102, 97, 108, 115, 101]⟩)) ∧ w' = wx)) :
    ∀ (D d x : Nat) (l : List Nat) (t : ByteArray) (acc : List UInt8) (w : World), d ≤ D → Vis ns [(x : Int)] l d → (∀ y ∈ l, y ∈ l0) → TxtR ns [(x : Int)] [t] → (∀ nd, ns[x]? = some nd → nd.k ≤ 10) → acc.length + t.size ≤ 100000000000 → t.size ≤ 10000000000 → Tw B b acc w → Brs w B L ns loc l0 → Below B wz w → B ≤ w.heap.size →
    Calls Tryd.prog 35 #[.pointer (some ⟨b, 0, none⟩), .pointer (some ⟨loc x, 0, none⟩)] w (TwP B b acc t w) := by
  intro D
  induction D with
  | zero =>
    intro d x l t acc w hd hv
    obtain ⟨_, _, _, _, _, _, _, _, _, _, rfl⟩ := hv.inv
    omega
  | succ D ih =>
    intro d x l t acc w hd hv hl0 htx hk10 hlen htsz hT hBr hBz hBw
    obtain ⟨nd, l1, l2, d1, d2, h0, hx, v1, v2, rfl, rfl⟩ := hv.inv
    cases v2
    rw [Int.toNat_natCast] at hx hl0
    rw [List.append_nil] at hl0
    have hd' : d1 ≤ D := by omega
    obtain ⟨nd', ts, ts', _, hx', hts, hte, ett⟩ := htx.inv
    rw [Int.toNat_natCast, hx] at hx'
    obtain rfl := Option.some.inj hx'
    cases hte
    obtain rfl : t = nodeT nd ts := by simpa using ett
    clear ett
    have hxn : x < ns.length := (List.getElem?_eq_some_iff.1 hx).1
    obtain ⟨n', pb, cb, hx', hgx, c0, c1, c2, c3, c4, c5, c7, hP, _⟩ := hBr x (hl0 x (by simp))
    rw [hx] at hx'
    obtain rfl := Option.some.inj hx'
    have hk := hk10 nd hx
    have hmem := List.mem_of_getElem? hx
    have HP' := hide (unhide hF nd hmem)
    have hkl : nd.kids.length ≤ 1048576 := ((unhide hsm).2 nd hmem).2.2.1
    have htl : nd.t.size ≤ 1048576 := ((unhide hsm).2 nd hmem).1
    have htsl : ts.length = nd.kids.length := hts.len
    have HK : Hid (∀ i (hi : i < nd.kids.length) (wx : World) (A : List UInt8), Below B w wx → Tw B b A wx → A.length + (kid ts i).size ≤ 100000000000 → B ≤ wx.heap.size → (kid ts i).size ≤ 10000000000 → Calls Tryd.prog 35 #[.pointer (some ⟨b, 0, none⟩), .pointer (some ⟨loc nd.kids[i].toNat, 0, none⟩)] wx (TwP B b A (kid ts i) wx)) := hide (fun i hi wx A hbx hTx hlx hBx hkx => by
      obtain ⟨lj, dj, vj, hlj, hdj, hj0, hll⟩ := v1.at (List.getElem?_eq_getElem hi)
      obtain ⟨ti, hti, hgi, _, _⟩ := hts.at hi
      have hkid : kid ts i = ti := by
        have hi' : i < ts.length := by omega
        rw [kid_at hi']
        rw [List.getElem?_eq_getElem hi'] at hgi
        exact Option.some.inj hgi
      obtain ⟨ng, hng, _, hgk⟩ := unhide hG x hxn
      rw [hx] at hng
      obtain rfl := Option.some.inj hng
      obtain ⟨mk, _, hmk, htk⟩ := hgk i nd.kids[i] (List.getElem?_eq_getElem hi)
      rw [hkid] at hlx hkx ⊢
      exact ih dj nd.kids[i].toNat lj ti A wx (by omega) (by rw [Int.toNat_of_nonneg hj0]; exact vj) (fun y hy => hl0 y (by simp [hlj y hy])) (by rw [Int.toNat_of_nonneg hj0]; exact hti) (fun m2 hm2 => by
        rw [hmk] at hm2
        obtain rfl := Option.some.inj hm2
        exact takes_expr htk hk) hlx hkx hTx (hBr.keep hbx) (hBz.trans hbx) hBx)
    have HT0 := hide hT
    have HB0 : Hid (Below B w w) := hide (Below.refl _ _)
    have HBz := hide hBz
    have HPT := hide hP
    have hcount := (unhide HP').count
    rw [← htsl] at hcount
    have hk1 := (unhide HP').kinds.1
    have hlen2 : acc.length + (nodeT nd ts).data.toList.length ≤ 100000000000 := by rw [toL_len]; exact hlen
    clear ih hv v1 hl0 htx hts hBr hBz hT hP c3 c4 c5 hx hk10 hmem hd
    generalize loc x = gx at c0 c1 c2 c7 hgx
    have hcases : nd.k = 1 ∨ nd.k = 2 ∨ nd.k = 3 ∨ nd.k = 4 ∨ nd.k = 5 ∨ nd.k = 6 ∨ nd.k = 7 ∨ nd.k = 8 ∨ nd.k = 9 ∨ nd.k = 10 := by omega
    rcases hcases with hk | hk | hk | hk | hk | hk | hk | hk | hk | hk
    · have HE0 : nodeT nd ts = ⟨(Lib.itoa nd.n).toArray⟩ := by unfold nodeT; rw [hk]; rfl
      rw [HE0] at hlen hlen2 htsz ⊢
      clear HE0
      have hint := (unhide HP').int hk
      rw [hk] at c0
      have HI := hide (unhide HIT nd.n w hint.1 hint.2 (unhide HBz))
      generalize (⟨(Lib.itoa nd.n).toArray⟩ : ByteArray) = tt at HI hlen hlen2 htsz ⊢
      have HE : Hid (acc ++ flatB [tt] = acc ++ tt.data.toList) := hide (by simp [flatB])
      rw [toL_len] at hlen2
      clear hlen HK HPT hcount hk1 hk HP' hkl htsl c2 c7
      go_enter Tryd.func35, Tryd.ntmps35
      go_wp2_with fail
      refine (unhide HI).mono ?_
      rintro e wq ⟨rfl, hbq⟩
      have hTq := hide ((unhide HT0).later hbq)
      have hBq := hide (hbq.mono hBw)
      have hsq : B ≤ wq.heap.size := Nat.le_trans hBw hbq.size
      clear hbq
      go_wp2_with fail
      refine (twPut1 B b acc tt wq (unhide hTq) (by omega) (by omega) hsq).mono ?_
      rintro e w1 ⟨rfl, hT, hb⟩
      have HF := hide (TwP.mk hT (unhide HE) ((unhide hBq).trans hb))
      clear hT hb
      go_wp2
      first | go_end0 | (refine bodyPost_ret (results_none rfl _ _ _) rfl ?_)
      exact unhide HF
    · have HE0 : nodeT nd ts = qB nd.t := by unfold nodeT; rw [hk]; rfl
      rw [HE0] at hlen hlen2 htsz ⊢
      clear HE0
      have hts := (unhide HP').text hk
      rw [hk] at c0
      clear HK HPT hcount hk1 hk HP' hkl htsl c7
      have HA : Hid (∀ wx : World, Calls Tryd.prog 48 #[.slice none 0 0, .string nd.t] wx fun e w' => ∃ v', e = .returned v' ∧ Buf w' wx.heap.size v' (quoteL nd.t.data.toList) ∧ Below wx.heap.size wx w') := hide (fun wx => by
        have := appendQuoted_any wx.heap.size [] (.slice none 0 0) nd.t wx (Nat.le_refl _) (Buf.nil _ _) hts (by simp)
        rw [List.nil_append] at this
        exact this)
      have HE : Hid (acc ++ quoteL nd.t.data.toList = acc ++ (qB nd.t).data.toList) := hide (by simp [qB])
      have hql : acc.length + (quoteL nd.t.data.toList).length ≤ 100000000000 := by
        have : (qB nd.t).data.toList = quoteL nd.t.data.toList := by simp [qB]
        rw [← this]; exact hlen2
      have hq0 : Hid (quoteL nd.t.data.toList ≠ []) := hide (by simp [quoteL])
      generalize quoteL nd.t.data.toList = ql at HA HE hql hq0
      generalize qB nd.t = tq at HE hlen hlen2 htsz ⊢
      generalize nd.t = nt at HA c2 htl hts
      have HTD := hide ((unhide HT0).later (nx_drew (Below.refl w.heap.size w)))
      have hBd : B ≤ w.drew.heap.size := hBw
      go_enter Tryd.func35, Tryd.ntmps35
      go_wp2
      go_region_with (first | (go_at_call 48; refine (unhide HA w.drew).mono ?_; rintro e y ⟨vq, rfl, hBf, hby⟩; obtain ⟨gq, cq, hvq⟩ := hBf.some (unhide hq0); subst hvq; have HBF := hide hBf; have HBY := hide hby; clear hBf hby) | (go_at_call 47; refine (twWrite_any B b gq cq acc ql w.drew y (unhide HTD) (unhide HBY) (unhide HBF) (by omega) hBd).mono ?_; rintro e y2 ⟨rfl, hT, hb⟩))
      all_goals (
        have HF := hide (TwP.mk (w := w) hT (unhide HE) (Below.trans (Below.drew (Below.refl B w)) hb))
        clear hT hb
        go_wp2
        first | go_end0 | (refine bodyPost_ret (results_none rfl _ _ _) rfl ?_)
        exact unhide HF)
    · rcases (unhide HP').bool hk with hn | hn
      · have HE0 : nodeT nd ts = ⟨#[102, 97, 108, 115, 101]⟩ := by unfold nodeT; rw [hk, hn]; rfl
        rw [HE0] at hlen hlen2 htsz ⊢
        clear HE0
        rw [hk] at c0
        rw [hn] at c1
        have HI : Hid (Calls Tryd.prog 49 #[.bool false] w fun e w' => e = .returned (.string ⟨#[102, 97, 108, 115, 101]⟩) ∧ w' = w) := hide (by simpa using unhide HFB false w)
        generalize (⟨#[102, 97, 108, 115, 101]⟩ : ByteArray) = tt at HI hlen hlen2 htsz ⊢
        have HE : Hid (acc ++ flatB [tt] = acc ++ tt.data.toList) := hide (by simp [flatB])
        rw [toL_len] at hlen2
        clear hlen HK HPT hcount hk1 hk HP' hkl htsl c2 c7
        go_enter Tryd.func35, Tryd.ntmps35
        go_wp2_with fail
        refine (unhide HI).mono ?_
        rintro e w ⟨rfl, rfl⟩
        go_wp2_with fail
        refine (twPut1 B b acc tt w (unhide HT0) (by omega) (by omega) hBw).mono ?_
        rintro e w1 ⟨rfl, hT, hb⟩
        have HF := hide (TwP.mk hT (unhide HE) hb)
        clear hT hb
        go_wp2
        first | go_end0 | (refine bodyPost_ret (results_none rfl _ _ _) rfl ?_)
        exact unhide HF
      · have HE0 : nodeT nd ts = ⟨#[116, 114, 117, 101]⟩ := by unfold nodeT; rw [hk, hn]; rfl
        rw [HE0] at hlen hlen2 htsz ⊢
        clear HE0
        rw [hk] at c0
        rw [hn] at c1
        have HI : Hid (Calls Tryd.prog 49 #[.bool true] w fun e w' => e = .returned (.string ⟨#[116, 114, 117, 101]⟩) ∧ w' = w) := hide (by simpa using unhide HFB true w)
        generalize (⟨#[116, 114, 117, 101]⟩ : ByteArray) = tt at HI hlen hlen2 htsz ⊢
        have HE : Hid (acc ++ flatB [tt] = acc ++ tt.data.toList) := hide (by simp [flatB])
        rw [toL_len] at hlen2
        clear hlen HK HPT hcount hk1 hk HP' hkl htsl c2 c7
        go_enter Tryd.func35, Tryd.ntmps35
        go_wp2_with fail
        refine (unhide HI).mono ?_
        rintro e w ⟨rfl, rfl⟩
        go_wp2_with fail
        refine (twPut1 B b acc tt w (unhide HT0) (by omega) (by omega) hBw).mono ?_
        rintro e w1 ⟨rfl, hT, hb⟩
        have HF := hide (TwP.mk hT (unhide HE) hb)
        clear hT hb
        go_wp2
        first | go_end0 | (refine bodyPost_ret (results_none rfl _ _ _) rfl ?_)
        exact unhide HF
    · have HE0 : nodeT nd ts = ⟨#[110, 117, 108, 108]⟩ := by unfold nodeT; rw [hk]; rfl
      rw [HE0] at hlen hlen2 htsz ⊢
      clear HE0
      have hkk := hk
      rw [hk] at c0
      generalize nd.t = nt at c2 htl hlen hlen2 htsz ⊢
      have HE : Hid (acc ++ flatB [⟨#[110, 117, 108, 108]⟩] = acc ++ (⟨#[110, 117, 108, 108]⟩ : ByteArray).data.toList) := hide (by simp [flatB])
      first | simp only [ByteArray.size_append] at htsz | skip
      have hTT := True.intro
      clear hTT hlen HK HPT hcount hk1 hk HP' hkl htsl hkk
      go_enter Tryd.func35, Tryd.ntmps35
      have hl0 : (acc).length ≤ 100000000000 := pre_len (X := flatB [⟨#[110, 117, 108, 108]⟩]) (by rw [← unhide HE] <;> first | rfl | simp only [List.append_assoc]) hlen2
      go_wp2_with fail
      refine (twPut1 B b _ ⟨#[110, 117, 108, 108]⟩ w (unhide HT0) hl0 (by first | decide | omega) hBw).mono ?_
      rintro e w1 ⟨rfl, hT, hb⟩
      have HT1 := hide hT
      have HB1 := hide ((unhide HB0).trans hb)
      have hs1 : B ≤ w1.heap.size := Nat.le_trans hBw hb.size
      have c0_1 := cellB hb hgx c0
      have c2_1 := cellB hb hgx c2
      have c7_1 := cellB hb hgx c7
      clear c0 c2 c7
      clear hT hb HT0
      go_wp2
      first | go_end0 | (refine bodyPost_ret (results_none rfl _ _ _) rfl ?_)
      exact TwP.mk (unhide HT1) (unhide HE) (unhide HB1)
    · have HE0 : nodeT nd ts = nd.t := by unfold nodeT; rw [hk]; rfl
      rw [HE0] at hlen hlen2 htsz ⊢
      clear HE0
      have hkk := hk
      rw [hk] at c0
      generalize nd.t = nt at c2 htl hlen hlen2 htsz ⊢
      have HE : Hid (acc ++ flatB [nt] = acc ++ (nt : ByteArray).data.toList) := hide (by simp [flatB])
      first | simp only [ByteArray.size_append] at htsz | skip
      have hTT := True.intro
      clear hTT hlen HK HPT hcount hk1 hk HP' hkl htsl hkk
      go_enter Tryd.func35, Tryd.ntmps35
      have hl0 : (acc).length ≤ 100000000000 := pre_len (X := flatB [nt]) (by rw [← unhide HE] <;> first | rfl | simp only [List.append_assoc]) hlen2
      go_wp2_with fail
      refine (twPut1 B b _ nt w (unhide HT0) hl0 (by first | decide | omega) hBw).mono ?_
      rintro e w1 ⟨rfl, hT, hb⟩
      have HT1 := hide hT
      have HB1 := hide ((unhide HB0).trans hb)
      have hs1 : B ≤ w1.heap.size := Nat.le_trans hBw hb.size
      have c0_1 := cellB hb hgx c0
      have c2_1 := cellB hb hgx c2
      have c7_1 := cellB hb hgx c7
      clear c0 c2 c7
      clear hT hb HT0
      go_wp2
      first | go_end0 | (refine bodyPost_ret (results_none rfl _ _ _) rfl ?_)
      exact TwP.mk (unhide HT1) (unhide HE) (unhide HB1)
    · have HE0 : nodeT nd ts = ⟨#[40]⟩ ++ nd.t ++ kid ts 0 ++ ⟨#[41]⟩ := by unfold nodeT; rw [hk]; rfl
      rw [HE0] at hlen hlen2 htsz ⊢
      clear HE0
      have hnk : ts.length = 1 := by simp [hk, countB] at hcount; omega
      have hi0 : 0 < nd.kids.length := by omega
      obtain ⟨bp, hpb0, hbp0, y0⟩ := unhide HPT 0 (by rw [List.length_map]; exact hi0)
      subst hpb0
      rw [List.getElem_map] at y0
      have HK0 := hide (fun wx A => unhide HK 0 hi0 wx A)
      generalize loc nd.kids[0].toNat = gk0 at y0 HK0
      generalize kid ts 0 = k0 at hlen hlen2 htsz HK0 ⊢
      have hkk := hk
      rw [hk] at c0
      generalize nd.t = nt at c2 htl hlen hlen2 htsz ⊢
      have HE : Hid (acc ++ flatB [⟨#[40]⟩, nt] ++ k0.data.toList ++ flatB [⟨#[41]⟩] = acc ++ (⟨#[40]⟩ ++ nt ++ k0 ++ ⟨#[41]⟩ : ByteArray).data.toList) := hide (by simp [flatB])
      first | simp only [ByteArray.size_append] at htsz | skip
      generalize hTT : (⟨#[40]⟩ ++ nt ++ k0 ++ ⟨#[41]⟩ : ByteArray) = TT at HE hlen2 ⊢
      clear hTT hlen HK HPT hcount hk1 hk HP' hkl htsl hkk
      go_enter Tryd.func35, Tryd.ntmps35
      have hl0 : (acc).length ≤ 100000000000 := pre_len (X := flatB [⟨#[40]⟩, nt] ++ k0.data.toList ++ flatB [⟨#[41]⟩]) (by rw [← unhide HE] <;> first | rfl | simp only [List.append_assoc]) hlen2
      go_wp2_with fail
      refine (twPut2 B b _ ⟨#[40]⟩ nt w (unhide HT0) hl0 (by first | decide | omega) (by first | decide | omega) hBw).mono ?_
      rintro e w1 ⟨rfl, hT, hb⟩
      have HT1 := hide hT
      have HB1 := hide ((unhide HB0).trans hb)
      have hs1 : B ≤ w1.heap.size := Nat.le_trans hBw hb.size
      have c0_1 := cellB hb hgx c0
      have c2_1 := cellB hb hgx c2
      have c7_1 := cellB hb hgx c7
      have y0_1 := cellB hb hbp0 y0
      clear c0 c2 c7 y0
      clear hT hb HT0
      have hl1 : (acc ++ flatB [⟨#[40]⟩, nt]).length ≤ 100000000000 := pre_len (X := k0.data.toList ++ flatB [⟨#[41]⟩]) (by rw [← unhide HE] <;> first | rfl | simp only [List.append_assoc]) hlen2
      have hl1k : (acc ++ flatB [⟨#[40]⟩, nt]).length + k0.size ≤ 100000000000 := by rw [← toL_len, ← List.length_append]; exact pre_len (X := flatB [⟨#[41]⟩]) (by rw [← unhide HE] <;> simp only [List.append_assoc, List.append_nil]) hlen2
      go_wp2_with fail
      refine (unhide HK0 w1 _ (unhide HB1) (unhide HT1) hl1k hs1 (by omega)).mono ?_
      rintro e w2 ⟨rfl, hT, hb⟩
      have HT2 := hide hT
      have HB2 := hide ((unhide HB1).trans hb)
      have hs2 : B ≤ w2.heap.size := Nat.le_trans hs1 hb.size
      have c0_2 := cellB hb hgx c0_1
      have c2_2 := cellB hb hgx c2_1
      have c7_2 := cellB hb hgx c7_1
      have y0_2 := cellB hb hbp0 y0_1
      clear c0_1 c2_1 c7_1 y0_1
      clear hT hb HT1
      have hl2 : (acc ++ flatB [⟨#[40]⟩, nt] ++ k0.data.toList).length ≤ 100000000000 := pre_len (X := flatB [⟨#[41]⟩]) (by rw [← unhide HE] <;> first | rfl | simp only [List.append_assoc]) hlen2
      go_wp2_with fail
      refine (twPut1 B b _ ⟨#[41]⟩ w2 (unhide HT2) hl2 (by first | decide | omega) hs2).mono ?_
      rintro e w3 ⟨rfl, hT, hb⟩
      have HT3 := hide hT
      have HB3 := hide ((unhide HB2).trans hb)
      have hs3 : B ≤ w3.heap.size := Nat.le_trans hs2 hb.size
      have c0_3 := cellB hb hgx c0_2
      have c2_3 := cellB hb hgx c2_2
      have c7_3 := cellB hb hgx c7_2
      have y0_3 := cellB hb hbp0 y0_2
      clear c0_2 c2_2 c7_2 y0_2
      clear hT hb HT2
      go_wp2
      first | go_end0 | (refine bodyPost_ret (results_none rfl _ _ _) rfl ?_)
      exact TwP.mk (unhide HT3) (unhide HE) (unhide HB3)
    · have HE0 : nodeT nd ts = ⟨#[40]⟩ ++ kid ts 0 ++ ⟨#[32]⟩ ++ nd.t ++ ⟨#[32]⟩ ++ kid ts 1 ++ ⟨#[41]⟩ := by unfold nodeT; rw [hk]; rfl
      rw [HE0] at hlen hlen2 htsz ⊢
      clear HE0
      have hnk : ts.length = 2 := by simp [hk, countB] at hcount; omega
      have hi0 : 0 < nd.kids.length := by omega
      obtain ⟨bp, hpb0, hbp0, y0⟩ := unhide HPT 0 (by rw [List.length_map]; exact hi0)
      subst hpb0
      rw [List.getElem_map] at y0
      have HK0 := hide (fun wx A => unhide HK 0 hi0 wx A)
      generalize loc nd.kids[0].toNat = gk0 at y0 HK0
      generalize kid ts 0 = k0 at hlen hlen2 htsz HK0 ⊢
      have hi1 : 1 < nd.kids.length := by omega
      obtain ⟨bp1, hpb1, hbp1, y1⟩ := unhide HPT 1 (by rw [List.length_map]; exact hi1)
      obtain rfl : bp = bp1 := by simpa using hpb1
      clear hpb1
      rw [List.getElem_map] at y1
      have HK1 := hide (fun wx A => unhide HK 1 hi1 wx A)
      generalize loc nd.kids[1].toNat = gk1 at y1 HK1
      generalize kid ts 1 = k1 at hlen hlen2 htsz HK1 ⊢
      have hkk := hk
      rw [hk] at c0
      generalize nd.t = nt at c2 htl hlen hlen2 htsz ⊢
      have HE : Hid (acc ++ flatB [⟨#[40]⟩] ++ k0.data.toList ++ flatB [⟨#[32]⟩, nt, ⟨#[32]⟩] ++ k1.data.toList ++ flatB [⟨#[41]⟩] = acc ++ (⟨#[40]⟩ ++ k0 ++ ⟨#[32]⟩ ++ nt ++ ⟨#[32]⟩ ++ k1 ++ ⟨#[41]⟩ : ByteArray).data.toList) := hide (by simp [flatB])
      first | simp only [ByteArray.size_append] at htsz | skip
      generalize hTT : (⟨#[40]⟩ ++ k0 ++ ⟨#[32]⟩ ++ nt ++ ⟨#[32]⟩ ++ k1 ++ ⟨#[41]⟩ : ByteArray) = TT at HE hlen2 ⊢
      clear hTT hlen HK HPT hcount hk1 hk HP' hkl htsl hkk
      go_enter Tryd.func35, Tryd.ntmps35
      have hl0 : (acc).length ≤ 100000000000 := pre_len (X := flatB [⟨#[40]⟩] ++ k0.data.toList ++ flatB [⟨#[32]⟩, nt, ⟨#[32]⟩] ++ k1.data.toList ++ flatB [⟨#[41]⟩]) (by rw [← unhide HE] <;> first | rfl | simp only [List.append_assoc]) hlen2
      go_wp2_with fail
      refine (twPut1 B b _ ⟨#[40]⟩ w (unhide HT0) hl0 (by first | decide | omega) hBw).mono ?_
      rintro e w1 ⟨rfl, hT, hb⟩
      have HT1 := hide hT
      have HB1 := hide ((unhide HB0).trans hb)
      have hs1 : B ≤ w1.heap.size := Nat.le_trans hBw hb.size
      have c0_1 := cellB hb hgx c0
      have c2_1 := cellB hb hgx c2
      have c7_1 := cellB hb hgx c7
      have y0_1 := cellB hb hbp0 y0
      have y1_1 := cellB hb hbp1 y1
      clear c0 c2 c7 y0 y1
      clear hT hb HT0
      have hl1 : (acc ++ flatB [⟨#[40]⟩]).length ≤ 100000000000 := pre_len (X := k0.data.toList ++ flatB [⟨#[32]⟩, nt, ⟨#[32]⟩] ++ k1.data.toList ++ flatB [⟨#[41]⟩]) (by rw [← unhide HE] <;> first | rfl | simp only [List.append_assoc]) hlen2
      have hl1k : (acc ++ flatB [⟨#[40]⟩]).length + k0.size ≤ 100000000000 := by rw [← toL_len, ← List.length_append]; exact pre_len (X := flatB [⟨#[32]⟩, nt, ⟨#[32]⟩] ++ k1.data.toList ++ flatB [⟨#[41]⟩]) (by rw [← unhide HE] <;> simp only [List.append_assoc, List.append_nil]) hlen2
      go_wp2_with fail
      refine (unhide HK0 w1 _ (unhide HB1) (unhide HT1) hl1k hs1 (by omega)).mono ?_
      rintro e w2 ⟨rfl, hT, hb⟩
      have HT2 := hide hT
      have HB2 := hide ((unhide HB1).trans hb)
      have hs2 : B ≤ w2.heap.size := Nat.le_trans hs1 hb.size
      have c0_2 := cellB hb hgx c0_1
      have c2_2 := cellB hb hgx c2_1
      have c7_2 := cellB hb hgx c7_1
      have y0_2 := cellB hb hbp0 y0_1
      have y1_2 := cellB hb hbp1 y1_1
      clear c0_1 c2_1 c7_1 y0_1 y1_1
      clear hT hb HT1
      have hl2 : (acc ++ flatB [⟨#[40]⟩] ++ k0.data.toList).length ≤ 100000000000 := pre_len (X := flatB [⟨#[32]⟩, nt, ⟨#[32]⟩] ++ k1.data.toList ++ flatB [⟨#[41]⟩]) (by rw [← unhide HE] <;> first | rfl | simp only [List.append_assoc]) hlen2
      have HSG := signBetween_any gx 7 nt w2 c0_2 c2_2
      rw [if_neg (by decide), if_neg (by decide)] at HSG
      have HSH := hide HSG
      clear HSG
      go_wp2_with fail
      refine (unhide HSH).mono ?_
      rintro e w2 ⟨rfl, rfl⟩
      go_wp2_with fail
      refine (twPut3 B b _ ⟨#[32]⟩ nt ⟨#[32]⟩ w2 (unhide HT2) hl2 (by first | decide | omega) (by first | decide | omega) (by first | decide | omega) hs2).mono ?_
      rintro e w3 ⟨rfl, hT, hb⟩
      have HT3 := hide hT
      have HB3 := hide ((unhide HB2).trans hb)
      have hs3 : B ≤ w3.heap.size := Nat.le_trans hs2 hb.size
      have c0_3 := cellB hb hgx c0_2
      have c2_3 := cellB hb hgx c2_2
      have c7_3 := cellB hb hgx c7_2
      have y0_3 := cellB hb hbp0 y0_2
      have y1_3 := cellB hb hbp1 y1_2
      clear c0_2 c2_2 c7_2 y0_2 y1_2
      clear hT hb HT2
      have hl3 : (acc ++ flatB [⟨#[40]⟩] ++ k0.data.toList ++ flatB [⟨#[32]⟩, nt, ⟨#[32]⟩]).length ≤ 100000000000 := pre_len (X := k1.data.toList ++ flatB [⟨#[41]⟩]) (by rw [← unhide HE] <;> first | rfl | simp only [List.append_assoc]) hlen2
      have hl3k : (acc ++ flatB [⟨#[40]⟩] ++ k0.data.toList ++ flatB [⟨#[32]⟩, nt, ⟨#[32]⟩]).length + k1.size ≤ 100000000000 := by rw [← toL_len, ← List.length_append]; exact pre_len (X := flatB [⟨#[41]⟩]) (by rw [← unhide HE] <;> simp only [List.append_assoc, List.append_nil]) hlen2
      go_wp2_with fail
      refine (unhide HK1 w3 _ (unhide HB3) (unhide HT3) hl3k hs3 (by omega)).mono ?_
      rintro e w4 ⟨rfl, hT, hb⟩
      have HT4 := hide hT
      have HB4 := hide ((unhide HB3).trans hb)
      have hs4 : B ≤ w4.heap.size := Nat.le_trans hs3 hb.size
      have c0_4 := cellB hb hgx c0_3
      have c2_4 := cellB hb hgx c2_3
      have c7_4 := cellB hb hgx c7_3
      have y0_4 := cellB hb hbp0 y0_3
      have y1_4 := cellB hb hbp1 y1_3
      clear c0_3 c2_3 c7_3 y0_3 y1_3
      clear hT hb HT3
      have hl4 : (acc ++ flatB [⟨#[40]⟩] ++ k0.data.toList ++ flatB [⟨#[32]⟩, nt, ⟨#[32]⟩] ++ k1.data.toList).length ≤ 100000000000 := pre_len (X := flatB [⟨#[41]⟩]) (by rw [← unhide HE] <;> first | rfl | simp only [List.append_assoc]) hlen2
      go_wp2_with fail
      refine (twPut1 B b _ ⟨#[41]⟩ w4 (unhide HT4) hl4 (by first | decide | omega) hs4).mono ?_
      rintro e w5 ⟨rfl, hT, hb⟩
      have HT5 := hide hT
      have HB5 := hide ((unhide HB4).trans hb)
      have hs5 : B ≤ w5.heap.size := Nat.le_trans hs4 hb.size
      have c0_5 := cellB hb hgx c0_4
      have c2_5 := cellB hb hgx c2_4
      have c7_5 := cellB hb hgx c7_4
      have y0_5 := cellB hb hbp0 y0_4
      have y1_5 := cellB hb hbp1 y1_4
      clear c0_4 c2_4 c7_4 y0_4 y1_4
      clear hT hb HT4
      go_wp2
      first | go_end0 | (refine bodyPost_ret (results_none rfl _ _ _) rfl ?_)
      exact TwP.mk (unhide HT5) (unhide HE) (unhide HB5)
    · have HE0 : nodeT nd ts = ⟨#[40]⟩ ++ kid ts 0 ++ ⟨#[32, 38, 38, 32]⟩ ++ kid ts 1 ++ ⟨#[41]⟩ := by unfold nodeT; rw [hk]; rfl
      rw [HE0] at hlen hlen2 htsz ⊢
      clear HE0
      have hnk : ts.length = 2 := by simp [hk, countB] at hcount; omega
      have hi0 : 0 < nd.kids.length := by omega
      obtain ⟨bp, hpb0, hbp0, y0⟩ := unhide HPT 0 (by rw [List.length_map]; exact hi0)
      subst hpb0
      rw [List.getElem_map] at y0
      have HK0 := hide (fun wx A => unhide HK 0 hi0 wx A)
      generalize loc nd.kids[0].toNat = gk0 at y0 HK0
      generalize kid ts 0 = k0 at hlen hlen2 htsz HK0 ⊢
      have hi1 : 1 < nd.kids.length := by omega
      obtain ⟨bp1, hpb1, hbp1, y1⟩ := unhide HPT 1 (by rw [List.length_map]; exact hi1)
      obtain rfl : bp = bp1 := by simpa using hpb1
      clear hpb1
      rw [List.getElem_map] at y1
      have HK1 := hide (fun wx A => unhide HK 1 hi1 wx A)
      generalize loc nd.kids[1].toNat = gk1 at y1 HK1
      generalize kid ts 1 = k1 at hlen hlen2 htsz HK1 ⊢
      have hkk := hk
      rw [hk] at c0
      generalize nd.t = nt at c2 htl hlen hlen2 htsz ⊢
      have HE : Hid (acc ++ flatB [⟨#[40]⟩] ++ k0.data.toList ++ flatB [⟨#[32]⟩, ⟨#[38, 38]⟩, ⟨#[32]⟩] ++ k1.data.toList ++ flatB [⟨#[41]⟩] = acc ++ (⟨#[40]⟩ ++ k0 ++ ⟨#[32, 38, 38, 32]⟩ ++ k1 ++ ⟨#[41]⟩ : ByteArray).data.toList) := hide (by simp [flatB])
      first | simp only [ByteArray.size_append] at htsz | skip
      generalize hTT : (⟨#[40]⟩ ++ k0 ++ ⟨#[32, 38, 38, 32]⟩ ++ k1 ++ ⟨#[41]⟩ : ByteArray) = TT at HE hlen2 ⊢
      clear hTT hlen HK HPT hcount hk1 hk HP' hkl htsl hkk
      go_enter Tryd.func35, Tryd.ntmps35
      have hl0 : (acc).length ≤ 100000000000 := pre_len (X := flatB [⟨#[40]⟩] ++ k0.data.toList ++ flatB [⟨#[32]⟩, ⟨#[38, 38]⟩, ⟨#[32]⟩] ++ k1.data.toList ++ flatB [⟨#[41]⟩]) (by rw [← unhide HE] <;> first | rfl | simp only [List.append_assoc]) hlen2
      go_wp2_with fail
      refine (twPut1 B b _ ⟨#[40]⟩ w (unhide HT0) hl0 (by first | decide | omega) hBw).mono ?_
      rintro e w1 ⟨rfl, hT, hb⟩
      have HT1 := hide hT
      have HB1 := hide ((unhide HB0).trans hb)
      have hs1 : B ≤ w1.heap.size := Nat.le_trans hBw hb.size
      have c0_1 := cellB hb hgx c0
      have c2_1 := cellB hb hgx c2
      have c7_1 := cellB hb hgx c7
      have y0_1 := cellB hb hbp0 y0
      have y1_1 := cellB hb hbp1 y1
      clear c0 c2 c7 y0 y1
      clear hT hb HT0
      have hl1 : (acc ++ flatB [⟨#[40]⟩]).length ≤ 100000000000 := pre_len (X := k0.data.toList ++ flatB [⟨#[32]⟩, ⟨#[38, 38]⟩, ⟨#[32]⟩] ++ k1.data.toList ++ flatB [⟨#[41]⟩]) (by rw [← unhide HE] <;> first | rfl | simp only [List.append_assoc]) hlen2
      have hl1k : (acc ++ flatB [⟨#[40]⟩]).length + k0.size ≤ 100000000000 := by rw [← toL_len, ← List.length_append]; exact pre_len (X := flatB [⟨#[32]⟩, ⟨#[38, 38]⟩, ⟨#[32]⟩] ++ k1.data.toList ++ flatB [⟨#[41]⟩]) (by rw [← unhide HE] <;> simp only [List.append_assoc, List.append_nil]) hlen2
      go_wp2_with fail
      refine (unhide HK0 w1 _ (unhide HB1) (unhide HT1) hl1k hs1 (by omega)).mono ?_
      rintro e w2 ⟨rfl, hT, hb⟩
      have HT2 := hide hT
      have HB2 := hide ((unhide HB1).trans hb)
      have hs2 : B ≤ w2.heap.size := Nat.le_trans hs1 hb.size
      have c0_2 := cellB hb hgx c0_1
      have c2_2 := cellB hb hgx c2_1
      have c7_2 := cellB hb hgx c7_1
      have y0_2 := cellB hb hbp0 y0_1
      have y1_2 := cellB hb hbp1 y1_1
      clear c0_1 c2_1 c7_1 y0_1 y1_1
      clear hT hb HT1
      have hl2 : (acc ++ flatB [⟨#[40]⟩] ++ k0.data.toList).length ≤ 100000000000 := pre_len (X := flatB [⟨#[32]⟩, ⟨#[38, 38]⟩, ⟨#[32]⟩] ++ k1.data.toList ++ flatB [⟨#[41]⟩]) (by rw [← unhide HE] <;> first | rfl | simp only [List.append_assoc]) hlen2
      have HSG := signBetween_any gx 8 nt w2 c0_2 c2_2
      rw [if_neg (by decide), if_pos rfl] at HSG
      have HSH := hide HSG
      clear HSG
      go_wp2_with fail
      refine (unhide HSH).mono ?_
      rintro e w2 ⟨rfl, rfl⟩
      go_wp2_with fail
      refine (twPut3 B b _ ⟨#[32]⟩ ⟨#[38, 38]⟩ ⟨#[32]⟩ w2 (unhide HT2) hl2 (by first | decide | omega) (by first | decide | omega) (by first | decide | omega) hs2).mono ?_
      rintro e w3 ⟨rfl, hT, hb⟩
      have HT3 := hide hT
      have HB3 := hide ((unhide HB2).trans hb)
      have hs3 : B ≤ w3.heap.size := Nat.le_trans hs2 hb.size
      have c0_3 := cellB hb hgx c0_2
      have c2_3 := cellB hb hgx c2_2
      have c7_3 := cellB hb hgx c7_2
      have y0_3 := cellB hb hbp0 y0_2
      have y1_3 := cellB hb hbp1 y1_2
      clear c0_2 c2_2 c7_2 y0_2 y1_2
      clear hT hb HT2
      have hl3 : (acc ++ flatB [⟨#[40]⟩] ++ k0.data.toList ++ flatB [⟨#[32]⟩, ⟨#[38, 38]⟩, ⟨#[32]⟩]).length ≤ 100000000000 := pre_len (X := k1.data.toList ++ flatB [⟨#[41]⟩]) (by rw [← unhide HE] <;> first | rfl | simp only [List.append_assoc]) hlen2
      have hl3k : (acc ++ flatB [⟨#[40]⟩] ++ k0.data.toList ++ flatB [⟨#[32]⟩, ⟨#[38, 38]⟩, ⟨#[32]⟩]).length + k1.size ≤ 100000000000 := by rw [← toL_len, ← List.length_append]; exact pre_len (X := flatB [⟨#[41]⟩]) (by rw [← unhide HE] <;> simp only [List.append_assoc, List.append_nil]) hlen2
      go_wp2_with fail
      refine (unhide HK1 w3 _ (unhide HB3) (unhide HT3) hl3k hs3 (by omega)).mono ?_
      rintro e w4 ⟨rfl, hT, hb⟩
      have HT4 := hide hT
      have HB4 := hide ((unhide HB3).trans hb)
      have hs4 : B ≤ w4.heap.size := Nat.le_trans hs3 hb.size
      have c0_4 := cellB hb hgx c0_3
      have c2_4 := cellB hb hgx c2_3
      have c7_4 := cellB hb hgx c7_3
      have y0_4 := cellB hb hbp0 y0_3
      have y1_4 := cellB hb hbp1 y1_3
      clear c0_3 c2_3 c7_3 y0_3 y1_3
      clear hT hb HT3
      have hl4 : (acc ++ flatB [⟨#[40]⟩] ++ k0.data.toList ++ flatB [⟨#[32]⟩, ⟨#[38, 38]⟩, ⟨#[32]⟩] ++ k1.data.toList).length ≤ 100000000000 := pre_len (X := flatB [⟨#[41]⟩]) (by rw [← unhide HE] <;> first | rfl | simp only [List.append_assoc]) hlen2
      go_wp2_with fail
      refine (twPut1 B b _ ⟨#[41]⟩ w4 (unhide HT4) hl4 (by first | decide | omega) hs4).mono ?_
      rintro e w5 ⟨rfl, hT, hb⟩
      have HT5 := hide hT
      have HB5 := hide ((unhide HB4).trans hb)
      have hs5 : B ≤ w5.heap.size := Nat.le_trans hs4 hb.size
      have c0_5 := cellB hb hgx c0_4
      have c2_5 := cellB hb hgx c2_4
      have c7_5 := cellB hb hgx c7_4
      have y0_5 := cellB hb hbp0 y0_4
      have y1_5 := cellB hb hbp1 y1_4
      clear c0_4 c2_4 c7_4 y0_4 y1_4
      clear hT hb HT4
      go_wp2
      first | go_end0 | (refine bodyPost_ret (results_none rfl _ _ _) rfl ?_)
      exact TwP.mk (unhide HT5) (unhide HE) (unhide HB5)
    · have HE0 : nodeT nd ts = ⟨#[40]⟩ ++ kid ts 0 ++ ⟨#[32, 124, 124, 32]⟩ ++ kid ts 1 ++ ⟨#[41]⟩ := by unfold nodeT; rw [hk]; rfl
      rw [HE0] at hlen hlen2 htsz ⊢
      clear HE0
      have hnk : ts.length = 2 := by simp [hk, countB] at hcount; omega
      have hi0 : 0 < nd.kids.length := by omega
      obtain ⟨bp, hpb0, hbp0, y0⟩ := unhide HPT 0 (by rw [List.length_map]; exact hi0)
      subst hpb0
      rw [List.getElem_map] at y0
      have HK0 := hide (fun wx A => unhide HK 0 hi0 wx A)
      generalize loc nd.kids[0].toNat = gk0 at y0 HK0
      generalize kid ts 0 = k0 at hlen hlen2 htsz HK0 ⊢
      have hi1 : 1 < nd.kids.length := by omega
      obtain ⟨bp1, hpb1, hbp1, y1⟩ := unhide HPT 1 (by rw [List.length_map]; exact hi1)
      obtain rfl : bp = bp1 := by simpa using hpb1
      clear hpb1
      rw [List.getElem_map] at y1
      have HK1 := hide (fun wx A => unhide HK 1 hi1 wx A)
      generalize loc nd.kids[1].toNat = gk1 at y1 HK1
      generalize kid ts 1 = k1 at hlen hlen2 htsz HK1 ⊢
      have hkk := hk
      rw [hk] at c0
      generalize nd.t = nt at c2 htl hlen hlen2 htsz ⊢
      have HE : Hid (acc ++ flatB [⟨#[40]⟩] ++ k0.data.toList ++ flatB [⟨#[32]⟩, ⟨#[124, 124]⟩, ⟨#[32]⟩] ++ k1.data.toList ++ flatB [⟨#[41]⟩] = acc ++ (⟨#[40]⟩ ++ k0 ++ ⟨#[32, 124, 124, 32]⟩ ++ k1 ++ ⟨#[41]⟩ : ByteArray).data.toList) := hide (by simp [flatB])
      first | simp only [ByteArray.size_append] at htsz | skip
      generalize hTT : (⟨#[40]⟩ ++ k0 ++ ⟨#[32, 124, 124, 32]⟩ ++ k1 ++ ⟨#[41]⟩ : ByteArray) = TT at HE hlen2 ⊢
      clear hTT hlen HK HPT hcount hk1 hk HP' hkl htsl hkk
      go_enter Tryd.func35, Tryd.ntmps35
      have hl0 : (acc).length ≤ 100000000000 := pre_len (X := flatB [⟨#[40]⟩] ++ k0.data.toList ++ flatB [⟨#[32]⟩, ⟨#[124, 124]⟩, ⟨#[32]⟩] ++ k1.data.toList ++ flatB [⟨#[41]⟩]) (by rw [← unhide HE] <;> first | rfl | simp only [List.append_assoc]) hlen2
      go_wp2_with fail
      refine (twPut1 B b _ ⟨#[40]⟩ w (unhide HT0) hl0 (by first | decide | omega) hBw).mono ?_
      rintro e w1 ⟨rfl, hT, hb⟩
      have HT1 := hide hT
      have HB1 := hide ((unhide HB0).trans hb)
      have hs1 : B ≤ w1.heap.size := Nat.le_trans hBw hb.size
      have c0_1 := cellB hb hgx c0
      have c2_1 := cellB hb hgx c2
      have c7_1 := cellB hb hgx c7
      have y0_1 := cellB hb hbp0 y0
      have y1_1 := cellB hb hbp1 y1
      clear c0 c2 c7 y0 y1
      clear hT hb HT0
      have hl1 : (acc ++ flatB [⟨#[40]⟩]).length ≤ 100000000000 := pre_len (X := k0.data.toList ++ flatB [⟨#[32]⟩, ⟨#[124, 124]⟩, ⟨#[32]⟩] ++ k1.data.toList ++ flatB [⟨#[41]⟩]) (by rw [← unhide HE] <;> first | rfl | simp only [List.append_assoc]) hlen2
      have hl1k : (acc ++ flatB [⟨#[40]⟩]).length + k0.size ≤ 100000000000 := by rw [← toL_len, ← List.length_append]; exact pre_len (X := flatB [⟨#[32]⟩, ⟨#[124, 124]⟩, ⟨#[32]⟩] ++ k1.data.toList ++ flatB [⟨#[41]⟩]) (by rw [← unhide HE] <;> simp only [List.append_assoc, List.append_nil]) hlen2
      go_wp2_with fail
      refine (unhide HK0 w1 _ (unhide HB1) (unhide HT1) hl1k hs1 (by omega)).mono ?_
      rintro e w2 ⟨rfl, hT, hb⟩
      have HT2 := hide hT
      have HB2 := hide ((unhide HB1).trans hb)
      have hs2 : B ≤ w2.heap.size := Nat.le_trans hs1 hb.size
      have c0_2 := cellB hb hgx c0_1
      have c2_2 := cellB hb hgx c2_1
      have c7_2 := cellB hb hgx c7_1
      have y0_2 := cellB hb hbp0 y0_1
      have y1_2 := cellB hb hbp1 y1_1
      clear c0_1 c2_1 c7_1 y0_1 y1_1
      clear hT hb HT1
      have hl2 : (acc ++ flatB [⟨#[40]⟩] ++ k0.data.toList).length ≤ 100000000000 := pre_len (X := flatB [⟨#[32]⟩, ⟨#[124, 124]⟩, ⟨#[32]⟩] ++ k1.data.toList ++ flatB [⟨#[41]⟩]) (by rw [← unhide HE] <;> first | rfl | simp only [List.append_assoc]) hlen2
      have HSG := signBetween_any gx 9 nt w2 c0_2 c2_2
      rw [if_pos rfl] at HSG
      have HSH := hide HSG
      clear HSG
      go_wp2_with fail
      refine (unhide HSH).mono ?_
      rintro e w2 ⟨rfl, rfl⟩
      go_wp2_with fail
      refine (twPut3 B b _ ⟨#[32]⟩ ⟨#[124, 124]⟩ ⟨#[32]⟩ w2 (unhide HT2) hl2 (by first | decide | omega) (by first | decide | omega) (by first | decide | omega) hs2).mono ?_
      rintro e w3 ⟨rfl, hT, hb⟩
      have HT3 := hide hT
      have HB3 := hide ((unhide HB2).trans hb)
      have hs3 : B ≤ w3.heap.size := Nat.le_trans hs2 hb.size
      have c0_3 := cellB hb hgx c0_2
      have c2_3 := cellB hb hgx c2_2
      have c7_3 := cellB hb hgx c7_2
      have y0_3 := cellB hb hbp0 y0_2
      have y1_3 := cellB hb hbp1 y1_2
      clear c0_2 c2_2 c7_2 y0_2 y1_2
      clear hT hb HT2
      have hl3 : (acc ++ flatB [⟨#[40]⟩] ++ k0.data.toList ++ flatB [⟨#[32]⟩, ⟨#[124, 124]⟩, ⟨#[32]⟩]).length ≤ 100000000000 := pre_len (X := k1.data.toList ++ flatB [⟨#[41]⟩]) (by rw [← unhide HE] <;> first | rfl | simp only [List.append_assoc]) hlen2
      have hl3k : (acc ++ flatB [⟨#[40]⟩] ++ k0.data.toList ++ flatB [⟨#[32]⟩, ⟨#[124, 124]⟩, ⟨#[32]⟩]).length + k1.size ≤ 100000000000 := by rw [← toL_len, ← List.length_append]; exact pre_len (X := flatB [⟨#[41]⟩]) (by rw [← unhide HE] <;> simp only [List.append_assoc, List.append_nil]) hlen2
      go_wp2_with fail
      refine (unhide HK1 w3 _ (unhide HB3) (unhide HT3) hl3k hs3 (by omega)).mono ?_
      rintro e w4 ⟨rfl, hT, hb⟩
      have HT4 := hide hT
      have HB4 := hide ((unhide HB3).trans hb)
      have hs4 : B ≤ w4.heap.size := Nat.le_trans hs3 hb.size
      have c0_4 := cellB hb hgx c0_3
      have c2_4 := cellB hb hgx c2_3
      have c7_4 := cellB hb hgx c7_3
      have y0_4 := cellB hb hbp0 y0_3
      have y1_4 := cellB hb hbp1 y1_3
      clear c0_3 c2_3 c7_3 y0_3 y1_3
      clear hT hb HT3
      have hl4 : (acc ++ flatB [⟨#[40]⟩] ++ k0.data.toList ++ flatB [⟨#[32]⟩, ⟨#[124, 124]⟩, ⟨#[32]⟩] ++ k1.data.toList).length ≤ 100000000000 := pre_len (X := flatB [⟨#[41]⟩]) (by rw [← unhide HE] <;> first | rfl | simp only [List.append_assoc]) hlen2
      go_wp2_with fail
      refine (twPut1 B b _ ⟨#[41]⟩ w4 (unhide HT4) hl4 (by first | decide | omega) hs4).mono ?_
      rintro e w5 ⟨rfl, hT, hb⟩
      have HT5 := hide hT
      have HB5 := hide ((unhide HB4).trans hb)
      have hs5 : B ≤ w5.heap.size := Nat.le_trans hs4 hb.size
      have c0_5 := cellB hb hgx c0_4
      have c2_5 := cellB hb hgx c2_4
      have c7_5 := cellB hb hgx c7_4
      have y0_5 := cellB hb hbp0 y0_4
      have y1_5 := cellB hb hbp1 y1_4
      clear c0_4 c2_4 c7_4 y0_4 y1_4
      clear hT hb HT4
      go_wp2
      first | go_end0 | (refine bodyPost_ret (results_none rfl _ _ _) rfl ?_)
      exact TwP.mk (unhide HT5) (unhide HE) (unhide HB5)
    · have HE0 : nodeT nd ts = nd.t ++ ⟨#[40]⟩ ++ joinB ⟨#[44, 32]⟩ ts ++ ⟨#[41]⟩ := by unfold nodeT; rw [hk]; rfl
      rw [HE0] at hlen htsz ⊢
      have HC := hide (twCall_of ns loc B b gx cb pb nd ts acc w hgx (unhide HT0) hBw c2 c7 (unhide HPT) htsl hkl htl hlen htsz HK)
      clear HE0 HK HPT hcount htsl
      rw [hk] at c0
      generalize nd.t ++ ⟨#[40]⟩ ++ joinB ⟨#[44, 32]⟩ ts ++ ⟨#[41]⟩ = tt at HC hlen htsz ⊢
      clear hk
      go_enter Tryd.func35, Tryd.ntmps35
      go_wp2_with fail
      refine (unhide HC).mono ?_
      rintro e w1 ⟨rfl, hT, hb⟩
      have HF : Hid (TwP B b acc tt w (.returned (.tuple #[])) w1) := hide ⟨rfl, hT, hb⟩
      clear hT hb
      go_wp2
      first | go_end0 | (refine bodyPost_ret (results_none rfl _ _ _) rfl ?_)
      exact unhide HF

/-- the words ahead of a statement -/
def aheadB (k : Int) (t : ByteArray) : ByteArray := if k = 11 then ⟨#[108, 101, 116, 32]⟩ ++ t ++ ⟨#[32, 61, 32]⟩ else if k = 12 then t ++ ⟨#[32, 61, 32]⟩ else if k = 15 then ⟨#[114, 101, 116, 117, 114, 110, 32]⟩ else if k = 16 then ⟨#[116, 104, 114, 111, 119, 32]⟩ else if k = 13 then ⟨#[105, 102, 32]⟩ else if k = 14 then ⟨#[119, 104, 105, 108, 101, 32]⟩ else ⟨#[]⟩
set_option maxHeartbeats 1000000 in
set_option maxRecDepth 100000 in
theorem wordsAhead_any (g : Nat) (k : Int) (t : ByteArray) (w : World) (hk : k = 11 ∨ k = 12 ∨ k = 13 ∨ k = 14 ∨ k = 15 ∨ k = 16 ∨ k = 19) (ht : t.size ≤ 1048576) (c0 : w.cell? ⟨g, 0, none⟩ = some (.int .i64 k)) (c2 : w.cell? ⟨g, 2, none⟩ = some (.string t)) :
    Calls Tryd.prog 34 #[.pointer (some ⟨g, 0, none⟩)] w fun e w' => e = .returned (.string (aheadB k t)) ∧ w' = w := by
  have hz1 : (⟨#[108, 101, 116, 32]⟩ ++ t : ByteArray).size = 4 + t.size := by rw [ByteArray.size_append]; rfl
  rcases hk with rfl | rfl | rfl | rfl | rfl | rfl | rfl
  all_goals (
    go_enter Tryd.func34, Tryd.ntmps34
    go_wp2
    go_ret
    exact ⟨rfl, rfl⟩)

/-- texts with one blank behind each -/
def trailB : List ByteArray → List UInt8
  | [] => []
  | t :: r => t.data.toList ++ (32 :: trailB r)
theorem trailB_snoc : ∀ (l : List ByteArray) (t : ByteArray), trailB (l ++ [t]) = trailB l ++ t.data.toList ++ [32]
  | [], t => by simp [trailB]
  | a :: l, t => by
    show a.data.toList ++ (32 :: trailB (l ++ [t])) = a.data.toList ++ (32 :: trailB l) ++ t.data.toList ++ [32]
    rw [trailB_snoc l t]
    simp
theorem trailB_join : ∀ l : List ByteArray, l ≠ [] → trailB l = (joinB ⟨#[32]⟩ l).data.toList ++ [32]
  | [], h => absurd rfl h
  | [t], _ => by simp [trailB, joinB]
  | t :: u :: r, _ => by
    show t.data.toList ++ (32 :: trailB (u :: r)) = (t ++ (⟨#[32]⟩ ++ joinB ⟨#[32]⟩ (u :: r))).data.toList ++ [32]
    rw [trailB_join (u :: r) (by simp)]
    simp
theorem block_text (nd : TN) (ts : List ByteArray) (hk : nd.k = 18) (acc : List UInt8) : acc ++ flatB [⟨#[123, 32]⟩] ++ trailB ts ++ flatB [⟨#[125]⟩] = acc ++ (nodeT nd ts).data.toList := by
  unfold nodeT
  rw [hk]
  show _ = acc ++ (if ts.length = 0 then (⟨#[123, 32, 125]⟩ : ByteArray) else ⟨#[123, 32]⟩ ++ joinB ⟨#[32]⟩ ts ++ ⟨#[32, 125]⟩).data.toList
  by_cases h : ts.length = 0
  · rw [if_pos h]
    have := List.eq_nil_of_length_eq_zero h
    subst this
    simp [flatB, trailB]
  · rw [if_neg h, trailB_join ts (fun e => h (by rw [e]; rfl))]
    simp [flatB]

set_option maxHeartbeats 2000000 in
set_option maxRecDepth 100000 in
theorem twBlock_of (ns : List TN) (loc : Nat → Nat) (B b gx cb : Nat) (pb : Option Addr) (nd : TN) (ts : List ByteArray) (acc : List UInt8) (w : World) (hk : nd.k = 18) (hgx : gx < B) (hT : Tw B b acc w) (hBw : B ≤ w.heap.size)
    (c7 : w.cell? ⟨gx, 7, none⟩ = some (.slice pb nd.kids.length cb)) (hP : PtrsIn w (fun k => k < B) pb (nd.kids.map fun j => loc j.toNat)) (htl : ts.length = nd.kids.length) (hkl : nd.kids.length ≤ 1048576)
    (hlen : acc.length + (nodeT nd ts).size ≤ 100000000000) (htsz : (nodeT nd ts).size ≤ 10000000000)
    (HK : Hid (∀ i (hi : i < nd.kids.length) (wx : World) (A : List UInt8), Below B w wx → Tw B b A wx → A.length + (kid ts i).size ≤ 100000000000 → B ≤ wx.heap.size → (kid ts i).size ≤ 10000000000 → Calls Tryd.prog 19 #[.pointer (some ⟨b, 0, none⟩), .pointer (some ⟨loc nd.kids[i].toNat, 0, none⟩)] wx (TwP B b A (kid ts i) wx))) :
    Calls Tryd.prog 33 #[.pointer (some ⟨b, 0, none⟩), .pointer (some ⟨gx, 0, none⟩)] w (TwP B b acc (nodeT nd ts) w) := by
  have HT := hide hT
  have HP := hide hP
  have HE := hide (block_text nd ts hk acc)
  have hall : (trailB ts).length + 3 = (nodeT nd ts).size := by
    have := congrArg List.length (block_text nd ts hk [])
    simp only [List.nil_append, List.length_append, toL_len] at this
    have h1 : (flatB [(⟨#[123, 32]⟩ : ByteArray)]).length = 2 := rfl
    have h2 : (flatB [(⟨#[125]⟩ : ByteArray)]).length = 1 := rfl
    omega
  have hpart : Hid (∀ i, i < ts.length → (trailB (ts.take i)).length + (kid ts i).size + 1 ≤ (trailB ts).length ∧ trailB (ts.take (i + 1)) = trailB (ts.take i) ++ (kid ts i).data.toList ++ flatB [⟨#[32]⟩]) := hide (fun i hi => by
    have h1 : trailB (ts.take (i + 1)) = trailB (ts.take i) ++ (kid ts i).data.toList ++ [32] := by rw [List.take_succ_eq_append_getElem hi, trailB_snoc, kid_at hi]
    refine ⟨?_, by rw [h1]; simp [flatB]⟩
    have h3 : ∀ j i, j + i = ts.length → (trailB (ts.take i)).length ≤ (trailB ts).length := by
      intro j
      induction j with
      | zero => intro i hj; rw [List.take_of_length_le (by omega)]; exact Nat.le_refl _
      | succ j ih =>
        intro i hj
        have h4 := ih (i + 1) (by omega)
        have hlt : i < ts.length := by omega
        rw [List.take_succ_eq_append_getElem hlt, trailB_snoc, List.length_append, List.length_append] at h4
        omega
    have h5 := h3 (ts.length - (i + 1)) (i + 1) (by omega)
    rw [h1, List.length_append, List.length_append, toL_len] at h5
    simpa using h5)
  generalize hNT : nodeT nd ts = NT at HE hlen htsz hall ⊢
  clear hT hP hNT hk
  go_enter Tryd.func33, Tryd.ntmps33
  go_wp2_with fail
  refine (twPut1 B b acc ⟨#[123, 32]⟩ w (unhide HT) (by omega) (by decide) hBw).mono ?_
  rintro e w1 ⟨rfl, hT1, hb1⟩
  have HT1 := hide hT1
  have HB1 := hide hb1
  have hs1 : B ≤ w1.heap.size := Nat.le_trans hBw hb1.size
  have d7 := cellB hb1 hgx c7
  clear c7 hT1 hb1 HT
  go_wp2
  go_loopw [14] (fun i wx => ∃ m : Nat, m ≤ nd.kids.length ∧ i = .int .i64 m ∧ (trailB (ts.take m)).length ≤ (trailB ts).length ∧ Hid (Tw B b (acc ++ flatB [⟨#[123, 32]⟩] ++ trailB (ts.take m)) wx) ∧ Hid (Below B w wx)) (fun i _ => nd.kids.length - (intOf i).toNat)
  case atStart => exact ⟨0, by omega, rfl, by simp [trailB], hide (by simpa [trailB] using unhide HT1), hide (unhide HB1)⟩
  case round =>
    clear HT1 HB1 hs1 d7
    obtain ⟨m, hm, rfl, htr, hTm, hBm⟩ := hrel
    have hsm : B ≤ wr.heap.size := Nat.le_trans hBw (unhide hBm).size
    have hAl : (acc ++ flatB [⟨#[123, 32]⟩] ++ trailB (ts.take m)).length = acc.length + 2 + (trailB (ts.take m)).length := by rw [List.length_append, List.length_append]; rfl
    by_cases hlt : m < nd.kids.length
    · obtain ⟨bp, hpb, hbp, y9⟩ := unhide HP m (by rw [List.length_map]; exact hlt)
      subst hpb
      rw [List.getElem_map] at y9
      have y0 := cellB (unhide hBm) hbp y9
      have hmt : m < ts.length := by omega
      obtain ⟨hp1, hp2⟩ := unhide hpart m hmt
      have HQ := hide hp2
      have HK0 := hide (unhide HK m hlt wr _ (unhide hBm) (unhide hTm) (by omega) hsm (by omega))
      clear hp2 y9
      go_wp2_with fail
      refine (unhide HK0).mono ?_
      rintro e w2 ⟨rfl, hT2, hb2⟩
      have HT2 := hide hT2
      have HB2 := hide ((unhide hBm).trans hb2)
      have hs2 : B ≤ w2.heap.size := Nat.le_trans hsm hb2.size
      clear hT2 hb2 HK0 y0
      go_wp2_with fail
      refine (twPut1 B b _ ⟨#[32]⟩ w2 (unhide HT2) (by rw [List.length_append, toL_len]; omega) (by decide) hs2).mono ?_
      rintro e w3 ⟨rfl, hT3, hb3⟩
      have HT3 : Hid (Tw B b (acc ++ flatB [⟨#[123, 32]⟩] ++ trailB (ts.take (m + 1))) w3) := hide (by
        rw [unhide HQ]
        simpa only [List.append_assoc] using hT3)
      have HB3 := hide ((unhide HB2).trans hb3)
      have htr2 : (trailB (ts.take (m + 1))).length ≤ (trailB ts).length := by
        rw [unhide HQ, List.length_append, List.length_append, toL_len]
        have : (flatB [(⟨#[32]⟩ : ByteArray)]).length = 1 := rfl
        omega
      clear hT3 hb3 HT2
      go_wp2
      go_roundw
      case rel => exact ⟨m + 1, by omega, by go_num, htr2, hide (unhide HT3), hide (unhide HB3)⟩
      case measure => simp [intOf]; omega
    · have hTe : Hid (Tw B b (acc ++ flatB [⟨#[123, 32]⟩] ++ trailB ts) wr) := hide (by
        have := unhide hTm
        rw [List.take_of_length_le (by omega)] at this
        exact this)
      go_wp2_with fail
      refine (twPut1 B b _ ⟨#[125]⟩ wr (unhide hTe) (by
        rw [List.length_append, List.length_append]
        have : (flatB [(⟨#[123, 32]⟩ : ByteArray)]).length = 2 := rfl
        omega) (by decide) hsm).mono ?_
      rintro e w2 ⟨rfl, hT2, hb2⟩
      have HF := hide (TwP.mk hT2 (unhide HE) ((unhide hBm).trans hb2))
      clear hT2 hb2
      go_wp2
      go_end0
      exact unhide HF


theorem aheadB_size {k : Int} {t : ByteArray} (ht : t.size ≤ 1048576) : (aheadB k t).size ≤ 2000000 := by
  have a1 : (⟨#[108, 101, 116, 32]⟩ : ByteArray).size = 4 := rfl
  have a2 : (⟨#[32, 61, 32]⟩ : ByteArray).size = 3 := rfl
  have a3 : (⟨#[114, 101, 116, 117, 114, 110, 32]⟩ : ByteArray).size = 7 := rfl
  have a4 : (⟨#[116, 104, 114, 111, 119, 32]⟩ : ByteArray).size = 6 := rfl
  have a5 : (⟨#[105, 102, 32]⟩ : ByteArray).size = 3 := rfl
  have a6 : (⟨#[119, 104, 105, 108, 101, 32]⟩ : ByteArray).size = 6 := rfl
  have a7 : (⟨#[]⟩ : ByteArray).size = 0 := rfl
  unfold aheadB
  repeat' split
  all_goals first | omega | (simp only [ByteArray.size_append]; omega)
theorem takes_stat {top : Bool} {i : Nat} {kk : Int} (h : takesB 18 top i kk = true) : 11 ≤ kk := by
  unfold takesB at h
  rw [if_pos rfl] at h
  simp only [Bool.or_eq_true, Bool.and_eq_true, decide_eq_true_eq, beq_iff_eq] at h
  omega
theorem takes_block {k : Int} {top : Bool} {i : Nat} {kk : Int} (h : takesB k top i kk = true) (hk : (k = 17 ∨ k = 20) ∨ ((k = 13 ∨ k = 14) ∧ 0 < i)) : kk = 18 := by
  unfold takesB at h
  rw [if_neg (by omega)] at h
  split at h
  · simpa using h
  · rename_i hn
    rw [if_pos (by omega)] at h
    simpa using h
theorem takes_expr2 {k : Int} {top : Bool} {i : Nat} {kk : Int} (h : takesB k top i kk = true) (hk : k ≠ 18 ∧ k ≠ 17 ∧ k ≠ 20 ∧ ¬ ((k = 13 ∨ k = 14) ∧ 0 < i)) : kk ≤ 10 := by
  unfold takesB at h
  rw [if_neg (by omega), if_neg (by omega), if_neg (by omega)] at h
  simp only [Bool.and_eq_true, decide_eq_true_eq] at h
  omega
theorem twPut5 (B b : Nat) (l : List UInt8) (s t u v x : ByteArray) (w : World) (h : Tw B b l w) (hl : l.length ≤ 100000000000) (h1 : s.size ≤ 10000000000) (h2 : t.size ≤ 10000000000) (h3 : u.size ≤ 10000000000) (h4 : v.size ≤ 10000000000) (h5 : x.size ≤ 10000000000) (hBw : B ≤ w.heap.size) :
    Calls Tryd.prog 18 #[.pointer (some ⟨b, 0, none⟩), .slice (some ⟨w.heap.size, 0, none⟩) 5 5] (w.alloc (.cells #[.string s, .string t, .string u, .string v, .string x] 9)) fun e w' => e = .returned (.tuple #[]) ∧ Tw B b (l ++ flatB [s, t, u, v, x]) w' ∧ Below B w w' :=
  twPuts B b l [s, t, u, v, x] 5 w h hl (by simpa using ⟨h1, h2, h3, h4, h5⟩) (by simp) hBw rfl

set_option maxHeartbeats 16000000 in
set_option maxRecDepth 100000 in
theorem twStat_any (ns : List TN) (root : Int) (L : Lay) (loc : Nat → Nat) (l0 : List Nat) (B b : Nat) (wz : World) (hsm : Hid (Small ns)) (hF : Hid (∀ x ∈ ns, PrintT x)) (hG : Hid (∀ x, x < ns.length → GoodT ns root x))
    (HIT : Hid (∀ (n : Int) (wx : World), 0 ≤ n → n ≤ 2147483647 → Below B wz wx → Calls Tryd.prog 46 #[.int .i64 n] wx fun e w' => e = .returned (.string ⟨(Lib.itoa n).toArray⟩) ∧ Below wx.heap.size wx w'))
    (HFB : Hid (∀ (v : Bool) (wx : World), Calls Tryd.prog 49 #[.bool v] wx fun e w' => e = .returned (.string (if v = true then ⟨#[116, 114, 117, 101]⟩ else ⟨#[102, 97, 108, 115, 101]⟩)) ∧ w' = wx))
    (HJN : Hid (∀ (x : Nat) (nd : TN) (wx : World), ns[x]? = some nd → Below B wz wx → Calls Tryd.prog 36 #[.slice (L.pn x) nd.names.length (L.cn x), .string ⟨#[44, 32]⟩] wx fun e w' => e = .returned (.string (joinB ⟨#[44, 32]⟩ nd.names)) ∧ Below wx.heap.size wx w')) :
    ∀ (D d x : Nat) (l : List Nat) (t : ByteArray) (acc : List UInt8) (w : World), d ≤ D → Vis ns [(x : Int)] l d → (∀ y ∈ l, y ∈ l0) → TxtR ns [(x : Int)] [t] → acc.length + t.size ≤ 100000000000 → t.size ≤ 10000000000 → Tw B b acc w → Brs w B L ns loc l0 → Below B wz w → B ≤ w.heap.size →
    ((∀ nd, ns[x]? = some nd → nd.k = 18) → Calls Tryd.prog 33 #[.pointer (some ⟨b, 0, none⟩), .pointer (some ⟨loc x, 0, none⟩)] w (TwP B b acc t w)) ∧ ((∀ nd, ns[x]? = some nd → 11 ≤ nd.k) → Calls Tryd.prog 19 #[.pointer (some ⟨b, 0, none⟩), .pointer (some ⟨loc x, 0, none⟩)] w (TwP B b acc t w)) := by
  intro D
  induction D with
  | zero =>
    intro d x l t acc w hd hv
    obtain ⟨_, _, _, _, _, _, _, _, _, _, rfl⟩ := hv.inv
    omega
  | succ D ih =>
    intro d x l t acc w hd hv hl0 htx hlen htsz hT hBr hBz hBw
    obtain ⟨nd, l1, l2, d1, d2, h0, hx, v1, v2, rfl, rfl⟩ := hv.inv
    cases v2
    rw [Int.toNat_natCast] at hx hl0
    rw [List.append_nil] at hl0
    have hd' : d1 ≤ D := by omega
    obtain ⟨nd', ts, ts', _, hx', hts, hte, ett⟩ := htx.inv
    rw [Int.toNat_natCast, hx] at hx'
    obtain rfl := Option.some.inj hx'
    cases hte
    obtain rfl : t = nodeT nd ts := by simpa using ett
    clear ett
    have hxn : x < ns.length := (List.getElem?_eq_some_iff.1 hx).1
    obtain ⟨n', pb, cb, hx', hgx, c0, c1, c2, c3, c4, c5, c7, hP, _⟩ := hBr x (hl0 x (by simp))
    rw [hx] at hx'
    obtain rfl := Option.some.inj hx'
    have hmem := List.mem_of_getElem? hx
    have HP' := hide (unhide hF nd hmem)
    have hkl : nd.kids.length ≤ 1048576 := ((unhide hsm).2 nd hmem).2.2.1
    have htl : nd.t.size ≤ 1048576 := ((unhide hsm).2 nd hmem).1
    have htsl : ts.length = nd.kids.length := hts.len
    have HKA : Hid (∀ i (hi : i < nd.kids.length), ∃ (mk : TN) (top : Bool), takesB nd.k top i mk.k = true ∧ ∀ (wx : World) (A : List UInt8), Below B w wx → Tw B b A wx → A.length + (kid ts i).size ≤ 100000000000 → B ≤ wx.heap.size → (kid ts i).size ≤ 10000000000 →
        (mk.k ≤ 10 → Calls Tryd.prog 35 #[.pointer (some ⟨b, 0, none⟩), .pointer (some ⟨loc nd.kids[i].toNat, 0, none⟩)] wx (TwP B b A (kid ts i) wx)) ∧
        (mk.k = 18 → Calls Tryd.prog 33 #[.pointer (some ⟨b, 0, none⟩), .pointer (some ⟨loc nd.kids[i].toNat, 0, none⟩)] wx (TwP B b A (kid ts i) wx)) ∧
        (11 ≤ mk.k → Calls Tryd.prog 19 #[.pointer (some ⟨b, 0, none⟩), .pointer (some ⟨loc nd.kids[i].toNat, 0, none⟩)] wx (TwP B b A (kid ts i) wx))) := hide (fun i hi => by
      obtain ⟨lj, dj, vj, hlj, hdj, hj0, hll⟩ := v1.at (List.getElem?_eq_getElem hi)
      obtain ⟨ti, hti, hgi, _, _⟩ := hts.at hi
      have hkid : kid ts i = ti := by
        have hi' : i < ts.length := by omega
        rw [kid_at hi']
        rw [List.getElem?_eq_getElem hi'] at hgi
        exact Option.some.inj hgi
      obtain ⟨ng, hng, _, hgk⟩ := unhide hG x hxn
      rw [hx] at hng
      obtain rfl := Option.some.inj hng
      obtain ⟨mk, _, hmk, htk⟩ := hgk i nd.kids[i] (List.getElem?_eq_getElem hi)
      refine ⟨mk, _, htk, fun wx A hbx hTx hlx hBx hkx => ?_⟩
      rw [hkid] at hlx hkx ⊢
      have hj1 : ((nd.kids[i].toNat : Nat) : Int) = nd.kids[i] := Int.toNat_of_nonneg hj0
      have h1 := ih dj nd.kids[i].toNat lj ti A wx (by omega) (by rw [hj1]; exact vj) (fun y hy => hl0 y (by simp [hlj y hy])) (by rw [hj1]; exact hti) hlx hkx hTx (hBr.keep hbx) (hBz.trans hbx) hBx
      have hone : ∀ {Q : Int → Prop}, Q mk.k → ∀ m2, ns[nd.kids[i].toNat]? = some m2 → Q m2.k := fun {Q} h m2 hm2 => by
        rw [hmk] at hm2
        obtain rfl := Option.some.inj hm2
        exact h
      refine ⟨fun h => ?_, fun h => h1.1 (hone (Q := fun k => k = 18) h), fun h => h1.2 (hone (Q := fun k => 11 ≤ k) h)⟩
      exact twExpr_any ns root L loc l0 B b wz hsm hF hG HIT HFB dj dj nd.kids[i].toNat lj ti A wx (Nat.le_refl _) (by rw [hj1]; exact vj) (fun y hy => hl0 y (by simp [hlj y hy])) (by rw [hj1]; exact hti) (hone (Q := fun k => k ≤ 10) h) hlx hkx hTx (hBr.keep hbx) (hBz.trans hbx) hBx)
    have HBLK : Hid (nd.k = 18 → Calls Tryd.prog 33 #[.pointer (some ⟨b, 0, none⟩), .pointer (some ⟨loc x, 0, none⟩)] w (TwP B b acc (nodeT nd ts) w)) := hide (fun hk => twBlock_of ns loc B b (loc x) cb pb nd ts acc w hk hgx hT hBw c7 hP htsl hkl hlen htsz (hide (fun i hi wx A h1 h2 h3 h4 h5 => by
      obtain ⟨mk, top, htk, hc⟩ := unhide HKA i hi
      rw [hk] at htk
      exact (hc wx A h1 h2 h3 h4 h5).2.2 (takes_stat htk))))
    refine ⟨fun h => unhide HBLK (h nd hx), fun h11 => ?_⟩
    have h11 := h11 nd hx
    have HJX := hide (fun (wx : World) (h : Below B wz wx) => unhide HJN x nd wx hx h)
    have HT0 := hide hT
    have HB0 : Hid (Below B w w) := hide (Below.refl _ _)
    have HBz := hide hBz
    have HPT := hide hP
    have hcount := (unhide HP').count
    rw [← htsl] at hcount
    have hk2 := (unhide HP').kinds.2
    have hlen2 : acc.length + (nodeT nd ts).data.toList.length ≤ 100000000000 := by rw [toL_len]; exact hlen
    clear ih hv v1 hl0 htx hts hBr hBz hT hP c4 c5 hx hmem hd c1
    generalize loc x = gx at c0 c2 c3 c7 hgx HBLK
    generalize L.pn x = pn at c3 HJX
    generalize L.cn x = cn at c3 HJX
    have hcases : nd.k = 11 ∨ nd.k = 12 ∨ nd.k = 13 ∨ nd.k = 14 ∨ nd.k = 15 ∨ nd.k = 16 ∨ nd.k = 17 ∨ nd.k = 18 ∨ nd.k = 19 ∨ nd.k = 20 := by omega
    rcases hcases with hk | hk | hk | hk | hk | hk | hk | hk | hk | hk
    · have HE0 : nodeT nd ts = ⟨#[108, 101, 116, 32]⟩ ++ nd.t ++ ⟨#[32, 61, 32]⟩ ++ kid ts 0 ++ ⟨#[59]⟩ := by unfold nodeT; rw [hk]; rfl
      rw [HE0] at hlen hlen2 htsz ⊢
      clear HE0 HBLK
      have hnk : ts.length = 1 := by simp [hk, countB] at hcount; omega
      have hi0 : 0 < nd.kids.length := by omega
      obtain ⟨bp, hpb0, hbp0, y0⟩ := unhide HPT 0 (by rw [List.length_map]; exact hi0)
      subst hpb0
      rw [List.getElem_map] at y0
      have HK0 : Hid (∀ (wx : World) (A : List UInt8), Below B w wx → Tw B b A wx → A.length + (kid ts 0).size ≤ 100000000000 → B ≤ wx.heap.size → (kid ts 0).size ≤ 10000000000 → Calls Tryd.prog 35 #[.pointer (some ⟨b, 0, none⟩), .pointer (some ⟨loc nd.kids[0].toNat, 0, none⟩)] wx (TwP B b A (kid ts 0) wx)) := hide (fun wx A h1 h2 h3 h4 h5 => by
        obtain ⟨mk, top, htk, hc⟩ := unhide HKA 0 hi0
        exact (hc wx A h1 h2 h3 h4 h5).1 (takes_expr2 htk (by omega)))
      generalize loc nd.kids[0].toNat = gk0 at y0 HK0
      generalize kid ts 0 = k0 at hlen hlen2 htsz HK0 ⊢
      rw [hk] at c0
      have hah := aheadB_size (k := 11) htl
      generalize nd.t = nt at c2 htl hlen hlen2 htsz hah ⊢
      have HE : Hid (acc ++ flatB [aheadB 11 nt] ++ k0.data.toList ++ flatB [⟨#[59]⟩] = acc ++ (⟨#[108, 101, 116, 32]⟩ ++ nt ++ ⟨#[32, 61, 32]⟩ ++ k0 ++ ⟨#[59]⟩ : ByteArray).data.toList) := hide (by simp [flatB, aheadB])
      first | simp only [ByteArray.size_append] at htsz | skip
      generalize hTT : (⟨#[108, 101, 116, 32]⟩ ++ nt ++ ⟨#[32, 61, 32]⟩ ++ k0 ++ ⟨#[59]⟩ : ByteArray) = TT at HE hlen2 ⊢
      clear hTT hlen HKA HPT hcount hk2 hk HP' hkl htsl h11
      go_enter Tryd.func19, Tryd.ntmps19
      have hl0 : (acc).length ≤ 100000000000 := pre_len (X := flatB [aheadB 11 nt] ++ k0.data.toList ++ flatB [⟨#[59]⟩]) (by rw [← unhide HE] <;> first | rfl | simp only [List.append_assoc]) hlen2
      have HSG := wordsAhead_any gx 11 nt w (by omega) htl c0 c2
      have HSH := hide HSG
      clear HSG
      go_wp2_with fail
      refine (unhide HSH).mono ?_
      rintro e w ⟨rfl, rfl⟩
      go_wp2_with fail
      refine (twPut1 B b _ (aheadB 11 nt) w (unhide HT0) hl0 (by first | decide | omega) hBw).mono ?_
      rintro e w1 ⟨rfl, hT, hb⟩
      have HT1 := hide hT
      have HB1 := hide ((unhide HB0).trans hb)
      have hs1 : B ≤ w1.heap.size := Nat.le_trans hBw hb.size
      have c0_1 := cellB hb hgx c0
      have c2_1 := cellB hb hgx c2
      have c7_1 := cellB hb hgx c7
      have c3_1 := cellB hb hgx c3
      have y0_1 := cellB hb hbp0 y0
      clear c0 c2 c7 c3 y0
      clear hT hb HT0
      have hl1 : (acc ++ flatB [aheadB 11 nt]).length ≤ 100000000000 := pre_len (X := k0.data.toList ++ flatB [⟨#[59]⟩]) (by rw [← unhide HE] <;> first | rfl | simp only [List.append_assoc]) hlen2
      have hl1k : (acc ++ flatB [aheadB 11 nt]).length + k0.size ≤ 100000000000 := by rw [← toL_len, ← List.length_append]; exact pre_len (X := flatB [⟨#[59]⟩]) (by rw [← unhide HE] <;> simp only [List.append_assoc, List.append_nil]) hlen2
      go_wp2_with fail
      refine (unhide HK0 w1 _ (unhide HB1) (unhide HT1) hl1k hs1 (by omega)).mono ?_
      rintro e w2 ⟨rfl, hT, hb⟩
      have HT2 := hide hT
      have HB2 := hide ((unhide HB1).trans hb)
      have hs2 : B ≤ w2.heap.size := Nat.le_trans hs1 hb.size
      have c0_2 := cellB hb hgx c0_1
      have c2_2 := cellB hb hgx c2_1
      have c7_2 := cellB hb hgx c7_1
      have c3_2 := cellB hb hgx c3_1
      have y0_2 := cellB hb hbp0 y0_1
      clear c0_1 c2_1 c7_1 c3_1 y0_1
      clear hT hb HT1
      have hl2 : (acc ++ flatB [aheadB 11 nt] ++ k0.data.toList).length ≤ 100000000000 := pre_len (X := flatB [⟨#[59]⟩]) (by rw [← unhide HE] <;> first | rfl | simp only [List.append_assoc]) hlen2
      go_wp2_with fail
      refine (twPut1 B b _ ⟨#[59]⟩ w2 (unhide HT2) hl2 (by first | decide | omega) hs2).mono ?_
      rintro e w3 ⟨rfl, hT, hb⟩
      have HT3 := hide hT
      have HB3 := hide ((unhide HB2).trans hb)
      have hs3 : B ≤ w3.heap.size := Nat.le_trans hs2 hb.size
      have c0_3 := cellB hb hgx c0_2
      have c2_3 := cellB hb hgx c2_2
      have c7_3 := cellB hb hgx c7_2
      have c3_3 := cellB hb hgx c3_2
      have y0_3 := cellB hb hbp0 y0_2
      clear c0_2 c2_2 c7_2 c3_2 y0_2
      clear hT hb HT2
      go_wp2
      first | go_end0 | (refine bodyPost_ret (results_none rfl _ _ _) rfl ?_)
      exact TwP.mk (unhide HT3) (unhide HE) (unhide HB3)
    · have HE0 : nodeT nd ts = nd.t ++ ⟨#[32, 61, 32]⟩ ++ kid ts 0 ++ ⟨#[59]⟩ := by unfold nodeT; rw [hk]; rfl
      rw [HE0] at hlen hlen2 htsz ⊢
      clear HE0 HBLK
      have hnk : ts.length = 1 := by simp [hk, countB] at hcount; omega
      have hi0 : 0 < nd.kids.length := by omega
      obtain ⟨bp, hpb0, hbp0, y0⟩ := unhide HPT 0 (by rw [List.length_map]; exact hi0)
      subst hpb0
      rw [List.getElem_map] at y0
      have HK0 : Hid (∀ (wx : World) (A : List UInt8), Below B w wx → Tw B b A wx → A.length + (kid ts 0).size ≤ 100000000000 → B ≤ wx.heap.size → (kid ts 0).size ≤ 10000000000 → Calls Tryd.prog 35 #[.pointer (some ⟨b, 0, none⟩), .pointer (some ⟨loc nd.kids[0].toNat, 0, none⟩)] wx (TwP B b A (kid ts 0) wx)) := hide (fun wx A h1 h2 h3 h4 h5 => by
        obtain ⟨mk, top, htk, hc⟩ := unhide HKA 0 hi0
        exact (hc wx A h1 h2 h3 h4 h5).1 (takes_expr2 htk (by omega)))
      generalize loc nd.kids[0].toNat = gk0 at y0 HK0
      generalize kid ts 0 = k0 at hlen hlen2 htsz HK0 ⊢
      rw [hk] at c0
      have hah := aheadB_size (k := 12) htl
      generalize nd.t = nt at c2 htl hlen hlen2 htsz hah ⊢
      have HE : Hid (acc ++ flatB [aheadB 12 nt] ++ k0.data.toList ++ flatB [⟨#[59]⟩] = acc ++ (nt ++ ⟨#[32, 61, 32]⟩ ++ k0 ++ ⟨#[59]⟩ : ByteArray).data.toList) := hide (by simp [flatB, aheadB])
      first | simp only [ByteArray.size_append] at htsz | skip
      generalize hTT : (nt ++ ⟨#[32, 61, 32]⟩ ++ k0 ++ ⟨#[59]⟩ : ByteArray) = TT at HE hlen2 ⊢
      clear hTT hlen HKA HPT hcount hk2 hk HP' hkl htsl h11
      go_enter Tryd.func19, Tryd.ntmps19
      have hl0 : (acc).length ≤ 100000000000 := pre_len (X := flatB [aheadB 12 nt] ++ k0.data.toList ++ flatB [⟨#[59]⟩]) (by rw [← unhide HE] <;> first | rfl | simp only [List.append_assoc]) hlen2
      have HSG := wordsAhead_any gx 12 nt w (by omega) htl c0 c2
      have HSH := hide HSG
      clear HSG
      go_wp2_with fail
      refine (unhide HSH).mono ?_
      rintro e w ⟨rfl, rfl⟩
      go_wp2_with fail
      refine (twPut1 B b _ (aheadB 12 nt) w (unhide HT0) hl0 (by first | decide | omega) hBw).mono ?_
      rintro e w1 ⟨rfl, hT, hb⟩
      have HT1 := hide hT
      have HB1 := hide ((unhide HB0).trans hb)
      have hs1 : B ≤ w1.heap.size := Nat.le_trans hBw hb.size
      have c0_1 := cellB hb hgx c0
      have c2_1 := cellB hb hgx c2
      have c7_1 := cellB hb hgx c7
      have c3_1 := cellB hb hgx c3
      have y0_1 := cellB hb hbp0 y0
      clear c0 c2 c7 c3 y0
      clear hT hb HT0
      have hl1 : (acc ++ flatB [aheadB 12 nt]).length ≤ 100000000000 := pre_len (X := k0.data.toList ++ flatB [⟨#[59]⟩]) (by rw [← unhide HE] <;> first | rfl | simp only [List.append_assoc]) hlen2
      have hl1k : (acc ++ flatB [aheadB 12 nt]).length + k0.size ≤ 100000000000 := by rw [← toL_len, ← List.length_append]; exact pre_len (X := flatB [⟨#[59]⟩]) (by rw [← unhide HE] <;> simp only [List.append_assoc, List.append_nil]) hlen2
      go_wp2_with fail
      refine (unhide HK0 w1 _ (unhide HB1) (unhide HT1) hl1k hs1 (by omega)).mono ?_
      rintro e w2 ⟨rfl, hT, hb⟩
      have HT2 := hide hT
      have HB2 := hide ((unhide HB1).trans hb)
      have hs2 : B ≤ w2.heap.size := Nat.le_trans hs1 hb.size
      have c0_2 := cellB hb hgx c0_1
      have c2_2 := cellB hb hgx c2_1
      have c7_2 := cellB hb hgx c7_1
      have c3_2 := cellB hb hgx c3_1
      have y0_2 := cellB hb hbp0 y0_1
      clear c0_1 c2_1 c7_1 c3_1 y0_1
      clear hT hb HT1
      have hl2 : (acc ++ flatB [aheadB 12 nt] ++ k0.data.toList).length ≤ 100000000000 := pre_len (X := flatB [⟨#[59]⟩]) (by rw [← unhide HE] <;> first | rfl | simp only [List.append_assoc]) hlen2
      go_wp2_with fail
      refine (twPut1 B b _ ⟨#[59]⟩ w2 (unhide HT2) hl2 (by first | decide | omega) hs2).mono ?_
      rintro e w3 ⟨rfl, hT, hb⟩
      have HT3 := hide hT
      have HB3 := hide ((unhide HB2).trans hb)
      have hs3 : B ≤ w3.heap.size := Nat.le_trans hs2 hb.size
      have c0_3 := cellB hb hgx c0_2
      have c2_3 := cellB hb hgx c2_2
      have c7_3 := cellB hb hgx c7_2
      have c3_3 := cellB hb hgx c3_2
      have y0_3 := cellB hb hbp0 y0_2
      clear c0_2 c2_2 c7_2 c3_2 y0_2
      clear hT hb HT2
      go_wp2
      first | go_end0 | (refine bodyPost_ret (results_none rfl _ _ _) rfl ?_)
      exact TwP.mk (unhide HT3) (unhide HE) (unhide HB3)
    · by_cases h3 : ts.length = 3
      · have HE0 : nodeT nd ts = ⟨#[105, 102, 32, 40]⟩ ++ kid ts 0 ++ ⟨#[41, 32]⟩ ++ kid ts 1 ++ (⟨#[32, 101, 108, 115, 101, 32]⟩ ++ kid ts 2) := by unfold nodeT; rw [hk]; show (if ts.length = 3 then _ else _) = _; rw [if_pos h3]
        rw [HE0] at hlen hlen2 htsz ⊢
        clear HE0 HBLK
        have hnk : ts.length = 3 := h3
        have hi0 : 0 < nd.kids.length := by omega
        obtain ⟨bp, hpb0, hbp0, y0⟩ := unhide HPT 0 (by rw [List.length_map]; exact hi0)
        subst hpb0
        rw [List.getElem_map] at y0
        have HK0 : Hid (∀ (wx : World) (A : List UInt8), Below B w wx → Tw B b A wx → A.length + (kid ts 0).size ≤ 100000000000 → B ≤ wx.heap.size → (kid ts 0).size ≤ 10000000000 → Calls Tryd.prog 35 #[.pointer (some ⟨b, 0, none⟩), .pointer (some ⟨loc nd.kids[0].toNat, 0, none⟩)] wx (TwP B b A (kid ts 0) wx)) := hide (fun wx A h1 h2 h3 h4 h5 => by
          obtain ⟨mk, top, htk, hc⟩ := unhide HKA 0 hi0
          exact (hc wx A h1 h2 h3 h4 h5).1 (takes_expr2 htk (by omega)))
        generalize loc nd.kids[0].toNat = gk0 at y0 HK0
        generalize kid ts 0 = k0 at hlen hlen2 htsz HK0 ⊢
        have hi1 : 1 < nd.kids.length := by omega
        obtain ⟨bp1, hpb1, hbp1, y1⟩ := unhide HPT 1 (by rw [List.length_map]; exact hi1)
        obtain rfl : bp = bp1 := by simpa using hpb1
        clear hpb1
        rw [List.getElem_map] at y1
        have HK1 : Hid (∀ (wx : World) (A : List UInt8), Below B w wx → Tw B b A wx → A.length + (kid ts 1).size ≤ 100000000000 → B ≤ wx.heap.size → (kid ts 1).size ≤ 10000000000 → Calls Tryd.prog 33 #[.pointer (some ⟨b, 0, none⟩), .pointer (some ⟨loc nd.kids[1].toNat, 0, none⟩)] wx (TwP B b A (kid ts 1) wx)) := hide (fun wx A h1 h2 h3 h4 h5 => by
          obtain ⟨mk, top, htk, hc⟩ := unhide HKA 1 hi1
          exact (hc wx A h1 h2 h3 h4 h5).2.1 (takes_block htk (by omega)))
        generalize loc nd.kids[1].toNat = gk1 at y1 HK1
        generalize kid ts 1 = k1 at hlen hlen2 htsz HK1 ⊢
        have hi2 : 2 < nd.kids.length := by omega
        obtain ⟨bp2, hpb2, hbp2, y2⟩ := unhide HPT 2 (by rw [List.length_map]; exact hi2)
        obtain rfl : bp = bp2 := by simpa using hpb2
        clear hpb2
        rw [List.getElem_map] at y2
        have HK2 : Hid (∀ (wx : World) (A : List UInt8), Below B w wx → Tw B b A wx → A.length + (kid ts 2).size ≤ 100000000000 → B ≤ wx.heap.size → (kid ts 2).size ≤ 10000000000 → Calls Tryd.prog 33 #[.pointer (some ⟨b, 0, none⟩), .pointer (some ⟨loc nd.kids[2].toNat, 0, none⟩)] wx (TwP B b A (kid ts 2) wx)) := hide (fun wx A h1 h2 h3 h4 h5 => by
          obtain ⟨mk, top, htk, hc⟩ := unhide HKA 2 hi2
          exact (hc wx A h1 h2 h3 h4 h5).2.1 (takes_block htk (by omega)))
        generalize loc nd.kids[2].toNat = gk2 at y2 HK2
        generalize kid ts 2 = k2 at hlen hlen2 htsz HK2 ⊢
        have hgt : (2 : Int) < (nd.kids.length : Int) := by omega
        clear h3
        rw [hk] at c0
        have hah := aheadB_size (k := 13) htl
        generalize nd.t = nt at c2 htl hlen hlen2 htsz hah ⊢
        have HE : Hid (acc ++ flatB [aheadB 13 nt, ⟨#[40]⟩] ++ k0.data.toList ++ flatB [⟨#[41, 32]⟩] ++ k1.data.toList ++ flatB [⟨#[32, 101, 108, 115, 101, 32]⟩] ++ k2.data.toList = acc ++ (⟨#[105, 102, 32, 40]⟩ ++ k0 ++ ⟨#[41, 32]⟩ ++ k1 ++ (⟨#[32, 101, 108, 115, 101, 32]⟩ ++ k2) : ByteArray).data.toList) := hide (by simp [flatB, aheadB])
        first | simp only [ByteArray.size_append] at htsz | skip
        generalize hTT : (⟨#[105, 102, 32, 40]⟩ ++ k0 ++ ⟨#[41, 32]⟩ ++ k1 ++ (⟨#[32, 101, 108, 115, 101, 32]⟩ ++ k2) : ByteArray) = TT at HE hlen2 ⊢
        clear hTT hlen HKA HPT hcount hk2 hk HP' hkl htsl h11
        go_enter Tryd.func19, Tryd.ntmps19
        have hl0 : (acc).length ≤ 100000000000 := pre_len (X := flatB [aheadB 13 nt, ⟨#[40]⟩] ++ k0.data.toList ++ flatB [⟨#[41, 32]⟩] ++ k1.data.toList ++ flatB [⟨#[32, 101, 108, 115, 101, 32]⟩] ++ k2.data.toList) (by rw [← unhide HE] <;> first | rfl | simp only [List.append_assoc]) hlen2
        have HSG := wordsAhead_any gx 13 nt w (by omega) htl c0 c2
        have HSH := hide HSG
        clear HSG
        go_wp2_with fail
        refine (unhide HSH).mono ?_
        rintro e w ⟨rfl, rfl⟩
        go_wp2_with fail
        refine (twPut2 B b _ (aheadB 13 nt) ⟨#[40]⟩ w (unhide HT0) hl0 (by first | decide | omega) (by first | decide | omega) hBw).mono ?_
        rintro e w1 ⟨rfl, hT, hb⟩
        have HT1 := hide hT
        have HB1 := hide ((unhide HB0).trans hb)
        have hs1 : B ≤ w1.heap.size := Nat.le_trans hBw hb.size
        have c0_1 := cellB hb hgx c0
        have c2_1 := cellB hb hgx c2
        have c7_1 := cellB hb hgx c7
        have c3_1 := cellB hb hgx c3
        have y0_1 := cellB hb hbp0 y0
        have y1_1 := cellB hb hbp1 y1
        have y2_1 := cellB hb hbp2 y2
        clear c0 c2 c7 c3 y0 y1 y2
        clear hT hb HT0
        have hl1 : (acc ++ flatB [aheadB 13 nt, ⟨#[40]⟩]).length ≤ 100000000000 := pre_len (X := k0.data.toList ++ flatB [⟨#[41, 32]⟩] ++ k1.data.toList ++ flatB [⟨#[32, 101, 108, 115, 101, 32]⟩] ++ k2.data.toList) (by rw [← unhide HE] <;> first | rfl | simp only [List.append_assoc]) hlen2
        have hl1k : (acc ++ flatB [aheadB 13 nt, ⟨#[40]⟩]).length + k0.size ≤ 100000000000 := by rw [← toL_len, ← List.length_append]; exact pre_len (X := flatB [⟨#[41, 32]⟩] ++ k1.data.toList ++ flatB [⟨#[32, 101, 108, 115, 101, 32]⟩] ++ k2.data.toList) (by rw [← unhide HE] <;> simp only [List.append_assoc, List.append_nil]) hlen2
        go_wp2_with fail
        refine (unhide HK0 w1 _ (unhide HB1) (unhide HT1) hl1k hs1 (by omega)).mono ?_
        rintro e w2 ⟨rfl, hT, hb⟩
        have HT2 := hide hT
        have HB2 := hide ((unhide HB1).trans hb)
        have hs2 : B ≤ w2.heap.size := Nat.le_trans hs1 hb.size
        have c0_2 := cellB hb hgx c0_1
        have c2_2 := cellB hb hgx c2_1
        have c7_2 := cellB hb hgx c7_1
        have c3_2 := cellB hb hgx c3_1
        have y0_2 := cellB hb hbp0 y0_1
        have y1_2 := cellB hb hbp1 y1_1
        have y2_2 := cellB hb hbp2 y2_1
        clear c0_1 c2_1 c7_1 c3_1 y0_1 y1_1 y2_1
        clear hT hb HT1
        have hl2 : (acc ++ flatB [aheadB 13 nt, ⟨#[40]⟩] ++ k0.data.toList).length ≤ 100000000000 := pre_len (X := flatB [⟨#[41, 32]⟩] ++ k1.data.toList ++ flatB [⟨#[32, 101, 108, 115, 101, 32]⟩] ++ k2.data.toList) (by rw [← unhide HE] <;> first | rfl | simp only [List.append_assoc]) hlen2
        go_wp2_with fail
        refine (twPut1 B b _ ⟨#[41, 32]⟩ w2 (unhide HT2) hl2 (by first | decide | omega) hs2).mono ?_
        rintro e w3 ⟨rfl, hT, hb⟩
        have HT3 := hide hT
        have HB3 := hide ((unhide HB2).trans hb)
        have hs3 : B ≤ w3.heap.size := Nat.le_trans hs2 hb.size
        have c0_3 := cellB hb hgx c0_2
        have c2_3 := cellB hb hgx c2_2
        have c7_3 := cellB hb hgx c7_2
        have c3_3 := cellB hb hgx c3_2
        have y0_3 := cellB hb hbp0 y0_2
        have y1_3 := cellB hb hbp1 y1_2
        have y2_3 := cellB hb hbp2 y2_2
        clear c0_2 c2_2 c7_2 c3_2 y0_2 y1_2 y2_2
        clear hT hb HT2
        have hl3 : (acc ++ flatB [aheadB 13 nt, ⟨#[40]⟩] ++ k0.data.toList ++ flatB [⟨#[41, 32]⟩]).length ≤ 100000000000 := pre_len (X := k1.data.toList ++ flatB [⟨#[32, 101, 108, 115, 101, 32]⟩] ++ k2.data.toList) (by rw [← unhide HE] <;> first | rfl | simp only [List.append_assoc]) hlen2
        have hl3k : (acc ++ flatB [aheadB 13 nt, ⟨#[40]⟩] ++ k0.data.toList ++ flatB [⟨#[41, 32]⟩]).length + k1.size ≤ 100000000000 := by rw [← toL_len, ← List.length_append]; exact pre_len (X := flatB [⟨#[32, 101, 108, 115, 101, 32]⟩] ++ k2.data.toList) (by rw [← unhide HE] <;> simp only [List.append_assoc, List.append_nil]) hlen2
        go_wp2_with fail
        refine (unhide HK1 w3 _ (unhide HB3) (unhide HT3) hl3k hs3 (by omega)).mono ?_
        rintro e w4 ⟨rfl, hT, hb⟩
        have HT4 := hide hT
        have HB4 := hide ((unhide HB3).trans hb)
        have hs4 : B ≤ w4.heap.size := Nat.le_trans hs3 hb.size
        have c0_4 := cellB hb hgx c0_3
        have c2_4 := cellB hb hgx c2_3
        have c7_4 := cellB hb hgx c7_3
        have c3_4 := cellB hb hgx c3_3
        have y0_4 := cellB hb hbp0 y0_3
        have y1_4 := cellB hb hbp1 y1_3
        have y2_4 := cellB hb hbp2 y2_3
        clear c0_3 c2_3 c7_3 c3_3 y0_3 y1_3 y2_3
        clear hT hb HT3
        have hl4 : (acc ++ flatB [aheadB 13 nt, ⟨#[40]⟩] ++ k0.data.toList ++ flatB [⟨#[41, 32]⟩] ++ k1.data.toList).length ≤ 100000000000 := pre_len (X := flatB [⟨#[32, 101, 108, 115, 101, 32]⟩] ++ k2.data.toList) (by rw [← unhide HE] <;> first | rfl | simp only [List.append_assoc]) hlen2
        go_wp2_with fail
        refine (twPut1 B b _ ⟨#[32, 101, 108, 115, 101, 32]⟩ w4 (unhide HT4) hl4 (by first | decide | omega) hs4).mono ?_
        rintro e w5 ⟨rfl, hT, hb⟩
        have HT5 := hide hT
        have HB5 := hide ((unhide HB4).trans hb)
        have hs5 : B ≤ w5.heap.size := Nat.le_trans hs4 hb.size
        have c0_5 := cellB hb hgx c0_4
        have c2_5 := cellB hb hgx c2_4
        have c7_5 := cellB hb hgx c7_4
        have c3_5 := cellB hb hgx c3_4
        have y0_5 := cellB hb hbp0 y0_4
        have y1_5 := cellB hb hbp1 y1_4
        have y2_5 := cellB hb hbp2 y2_4
        clear c0_4 c2_4 c7_4 c3_4 y0_4 y1_4 y2_4
        clear hT hb HT4
        have hl5 : (acc ++ flatB [aheadB 13 nt, ⟨#[40]⟩] ++ k0.data.toList ++ flatB [⟨#[41, 32]⟩] ++ k1.data.toList ++ flatB [⟨#[32, 101, 108, 115, 101, 32]⟩]).length ≤ 100000000000 := pre_len (X := k2.data.toList) (by rw [← unhide HE] <;> first | rfl | simp only [List.append_assoc]) hlen2
        have hl5k : (acc ++ flatB [aheadB 13 nt, ⟨#[40]⟩] ++ k0.data.toList ++ flatB [⟨#[41, 32]⟩] ++ k1.data.toList ++ flatB [⟨#[32, 101, 108, 115, 101, 32]⟩]).length + k2.size ≤ 100000000000 := by rw [← toL_len, ← List.length_append]; exact pre_len (X := []) (by rw [← unhide HE] <;> simp only [List.append_assoc, List.append_nil]) hlen2
        go_wp2_with fail
        refine (unhide HK2 w5 _ (unhide HB5) (unhide HT5) hl5k hs5 (by omega)).mono ?_
        rintro e w6 ⟨rfl, hT, hb⟩
        have HT6 := hide hT
        have HB6 := hide ((unhide HB5).trans hb)
        have hs6 : B ≤ w6.heap.size := Nat.le_trans hs5 hb.size
        have c0_6 := cellB hb hgx c0_5
        have c2_6 := cellB hb hgx c2_5
        have c7_6 := cellB hb hgx c7_5
        have c3_6 := cellB hb hgx c3_5
        have y0_6 := cellB hb hbp0 y0_5
        have y1_6 := cellB hb hbp1 y1_5
        have y2_6 := cellB hb hbp2 y2_5
        clear c0_5 c2_5 c7_5 c3_5 y0_5 y1_5 y2_5
        clear hT hb HT5
        go_wp2
        first | go_end0 | (refine bodyPost_ret (results_none rfl _ _ _) rfl ?_)
        exact TwP.mk (unhide HT6) (unhide HE) (unhide HB6)
      · have HE0 : nodeT nd ts = ⟨#[105, 102, 32, 40]⟩ ++ kid ts 0 ++ ⟨#[41, 32]⟩ ++ kid ts 1 := by unfold nodeT; rw [hk]; show (if ts.length = 3 then _ else _) = _; rw [if_neg h3]
        rw [HE0] at hlen hlen2 htsz ⊢
        clear HE0 HBLK
        have hnk : ts.length = 2 := by simp [hk, countB] at hcount; omega
        have hi0 : 0 < nd.kids.length := by omega
        obtain ⟨bp, hpb0, hbp0, y0⟩ := unhide HPT 0 (by rw [List.length_map]; exact hi0)
        subst hpb0
        rw [List.getElem_map] at y0
        have HK0 : Hid (∀ (wx : World) (A : List UInt8), Below B w wx → Tw B b A wx → A.length + (kid ts 0).size ≤ 100000000000 → B ≤ wx.heap.size → (kid ts 0).size ≤ 10000000000 → Calls Tryd.prog 35 #[.pointer (some ⟨b, 0, none⟩), .pointer (some ⟨loc nd.kids[0].toNat, 0, none⟩)] wx (TwP B b A (kid ts 0) wx)) := hide (fun wx A h1 h2 h3 h4 h5 => by
          obtain ⟨mk, top, htk, hc⟩ := unhide HKA 0 hi0
          exact (hc wx A h1 h2 h3 h4 h5).1 (takes_expr2 htk (by omega)))
        generalize loc nd.kids[0].toNat = gk0 at y0 HK0
        generalize kid ts 0 = k0 at hlen hlen2 htsz HK0 ⊢
        have hi1 : 1 < nd.kids.length := by omega
        obtain ⟨bp1, hpb1, hbp1, y1⟩ := unhide HPT 1 (by rw [List.length_map]; exact hi1)
        obtain rfl : bp = bp1 := by simpa using hpb1
        clear hpb1
        rw [List.getElem_map] at y1
        have HK1 : Hid (∀ (wx : World) (A : List UInt8), Below B w wx → Tw B b A wx → A.length + (kid ts 1).size ≤ 100000000000 → B ≤ wx.heap.size → (kid ts 1).size ≤ 10000000000 → Calls Tryd.prog 33 #[.pointer (some ⟨b, 0, none⟩), .pointer (some ⟨loc nd.kids[1].toNat, 0, none⟩)] wx (TwP B b A (kid ts 1) wx)) := hide (fun wx A h1 h2 h3 h4 h5 => by
          obtain ⟨mk, top, htk, hc⟩ := unhide HKA 1 hi1
          exact (hc wx A h1 h2 h3 h4 h5).2.1 (takes_block htk (by omega)))
        generalize loc nd.kids[1].toNat = gk1 at y1 HK1
        generalize kid ts 1 = k1 at hlen hlen2 htsz HK1 ⊢
        have hkn : nd.kids.length = 2 := by omega
        rw [hkn] at c7
        clear hkn
        clear h3
        rw [hk] at c0
        have hah := aheadB_size (k := 13) htl
        generalize nd.t = nt at c2 htl hlen hlen2 htsz hah ⊢
        have HE : Hid (acc ++ flatB [aheadB 13 nt, ⟨#[40]⟩] ++ k0.data.toList ++ flatB [⟨#[41, 32]⟩] ++ k1.data.toList = acc ++ (⟨#[105, 102, 32, 40]⟩ ++ k0 ++ ⟨#[41, 32]⟩ ++ k1 : ByteArray).data.toList) := hide (by simp [flatB, aheadB])
        first | simp only [ByteArray.size_append] at htsz | skip
        generalize hTT : (⟨#[105, 102, 32, 40]⟩ ++ k0 ++ ⟨#[41, 32]⟩ ++ k1 : ByteArray) = TT at HE hlen2 ⊢
        clear hTT hlen HKA HPT hcount hk2 hk HP' hkl htsl h11
        go_enter Tryd.func19, Tryd.ntmps19
        have hl0 : (acc).length ≤ 100000000000 := pre_len (X := flatB [aheadB 13 nt, ⟨#[40]⟩] ++ k0.data.toList ++ flatB [⟨#[41, 32]⟩] ++ k1.data.toList) (by rw [← unhide HE] <;> first | rfl | simp only [List.append_assoc]) hlen2
        have HSG := wordsAhead_any gx 13 nt w (by omega) htl c0 c2
        have HSH := hide HSG
        clear HSG
        go_wp2_with fail
        refine (unhide HSH).mono ?_
        rintro e w ⟨rfl, rfl⟩
        go_wp2_with fail
        refine (twPut2 B b _ (aheadB 13 nt) ⟨#[40]⟩ w (unhide HT0) hl0 (by first | decide | omega) (by first | decide | omega) hBw).mono ?_
        rintro e w1 ⟨rfl, hT, hb⟩
        have HT1 := hide hT
        have HB1 := hide ((unhide HB0).trans hb)
        have hs1 : B ≤ w1.heap.size := Nat.le_trans hBw hb.size
        have c0_1 := cellB hb hgx c0
        have c2_1 := cellB hb hgx c2
        have c7_1 := cellB hb hgx c7
        have c3_1 := cellB hb hgx c3
        have y0_1 := cellB hb hbp0 y0
        have y1_1 := cellB hb hbp1 y1
        clear c0 c2 c7 c3 y0 y1
        clear hT hb HT0
        have hl1 : (acc ++ flatB [aheadB 13 nt, ⟨#[40]⟩]).length ≤ 100000000000 := pre_len (X := k0.data.toList ++ flatB [⟨#[41, 32]⟩] ++ k1.data.toList) (by rw [← unhide HE] <;> first | rfl | simp only [List.append_assoc]) hlen2
        have hl1k : (acc ++ flatB [aheadB 13 nt, ⟨#[40]⟩]).length + k0.size ≤ 100000000000 := by rw [← toL_len, ← List.length_append]; exact pre_len (X := flatB [⟨#[41, 32]⟩] ++ k1.data.toList) (by rw [← unhide HE] <;> simp only [List.append_assoc, List.append_nil]) hlen2
        go_wp2_with fail
        refine (unhide HK0 w1 _ (unhide HB1) (unhide HT1) hl1k hs1 (by omega)).mono ?_
        rintro e w2 ⟨rfl, hT, hb⟩
        have HT2 := hide hT
        have HB2 := hide ((unhide HB1).trans hb)
        have hs2 : B ≤ w2.heap.size := Nat.le_trans hs1 hb.size
        have c0_2 := cellB hb hgx c0_1
        have c2_2 := cellB hb hgx c2_1
        have c7_2 := cellB hb hgx c7_1
        have c3_2 := cellB hb hgx c3_1
        have y0_2 := cellB hb hbp0 y0_1
        have y1_2 := cellB hb hbp1 y1_1
        clear c0_1 c2_1 c7_1 c3_1 y0_1 y1_1
        clear hT hb HT1
        have hl2 : (acc ++ flatB [aheadB 13 nt, ⟨#[40]⟩] ++ k0.data.toList).length ≤ 100000000000 := pre_len (X := flatB [⟨#[41, 32]⟩] ++ k1.data.toList) (by rw [← unhide HE] <;> first | rfl | simp only [List.append_assoc]) hlen2
        go_wp2_with fail
        refine (twPut1 B b _ ⟨#[41, 32]⟩ w2 (unhide HT2) hl2 (by first | decide | omega) hs2).mono ?_
        rintro e w3 ⟨rfl, hT, hb⟩
        have HT3 := hide hT
        have HB3 := hide ((unhide HB2).trans hb)
        have hs3 : B ≤ w3.heap.size := Nat.le_trans hs2 hb.size
        have c0_3 := cellB hb hgx c0_2
        have c2_3 := cellB hb hgx c2_2
        have c7_3 := cellB hb hgx c7_2
        have c3_3 := cellB hb hgx c3_2
        have y0_3 := cellB hb hbp0 y0_2
        have y1_3 := cellB hb hbp1 y1_2
        clear c0_2 c2_2 c7_2 c3_2 y0_2 y1_2
        clear hT hb HT2
        have hl3 : (acc ++ flatB [aheadB 13 nt, ⟨#[40]⟩] ++ k0.data.toList ++ flatB [⟨#[41, 32]⟩]).length ≤ 100000000000 := pre_len (X := k1.data.toList) (by rw [← unhide HE] <;> first | rfl | simp only [List.append_assoc]) hlen2
        have hl3k : (acc ++ flatB [aheadB 13 nt, ⟨#[40]⟩] ++ k0.data.toList ++ flatB [⟨#[41, 32]⟩]).length + k1.size ≤ 100000000000 := by rw [← toL_len, ← List.length_append]; exact pre_len (X := []) (by rw [← unhide HE] <;> simp only [List.append_assoc, List.append_nil]) hlen2
        go_wp2_with fail
        refine (unhide HK1 w3 _ (unhide HB3) (unhide HT3) hl3k hs3 (by omega)).mono ?_
        rintro e w4 ⟨rfl, hT, hb⟩
        have HT4 := hide hT
        have HB4 := hide ((unhide HB3).trans hb)
        have hs4 : B ≤ w4.heap.size := Nat.le_trans hs3 hb.size
        have c0_4 := cellB hb hgx c0_3
        have c2_4 := cellB hb hgx c2_3
        have c7_4 := cellB hb hgx c7_3
        have c3_4 := cellB hb hgx c3_3
        have y0_4 := cellB hb hbp0 y0_3
        have y1_4 := cellB hb hbp1 y1_3
        clear c0_3 c2_3 c7_3 c3_3 y0_3 y1_3
        clear hT hb HT3
        go_wp2
        first | go_end0 | (refine bodyPost_ret (results_none rfl _ _ _) rfl ?_)
        exact TwP.mk (unhide HT4) (unhide HE) (unhide HB4)
    · have HE0 : nodeT nd ts = ⟨#[119, 104, 105, 108, 101, 32, 40]⟩ ++ kid ts 0 ++ ⟨#[41, 32]⟩ ++ kid ts 1 := by unfold nodeT; rw [hk]; rfl
      rw [HE0] at hlen hlen2 htsz ⊢
      clear HE0 HBLK
      have hnk : ts.length = 2 := by simp [hk, countB] at hcount; omega
      have hi0 : 0 < nd.kids.length := by omega
      obtain ⟨bp, hpb0, hbp0, y0⟩ := unhide HPT 0 (by rw [List.length_map]; exact hi0)
      subst hpb0
      rw [List.getElem_map] at y0
      have HK0 : Hid (∀ (wx : World) (A : List UInt8), Below B w wx → Tw B b A wx → A.length + (kid ts 0).size ≤ 100000000000 → B ≤ wx.heap.size → (kid ts 0).size ≤ 10000000000 → Calls Tryd.prog 35 #[.pointer (some ⟨b, 0, none⟩), .pointer (some ⟨loc nd.kids[0].toNat, 0, none⟩)] wx (TwP B b A (kid ts 0) wx)) := hide (fun wx A h1 h2 h3 h4 h5 => by
        obtain ⟨mk, top, htk, hc⟩ := unhide HKA 0 hi0
        exact (hc wx A h1 h2 h3 h4 h5).1 (takes_expr2 htk (by omega)))
      generalize loc nd.kids[0].toNat = gk0 at y0 HK0
      generalize kid ts 0 = k0 at hlen hlen2 htsz HK0 ⊢
      have hi1 : 1 < nd.kids.length := by omega
      obtain ⟨bp1, hpb1, hbp1, y1⟩ := unhide HPT 1 (by rw [List.length_map]; exact hi1)
      obtain rfl : bp = bp1 := by simpa using hpb1
      clear hpb1
      rw [List.getElem_map] at y1
      have HK1 : Hid (∀ (wx : World) (A : List UInt8), Below B w wx → Tw B b A wx → A.length + (kid ts 1).size ≤ 100000000000 → B ≤ wx.heap.size → (kid ts 1).size ≤ 10000000000 → Calls Tryd.prog 33 #[.pointer (some ⟨b, 0, none⟩), .pointer (some ⟨loc nd.kids[1].toNat, 0, none⟩)] wx (TwP B b A (kid ts 1) wx)) := hide (fun wx A h1 h2 h3 h4 h5 => by
        obtain ⟨mk, top, htk, hc⟩ := unhide HKA 1 hi1
        exact (hc wx A h1 h2 h3 h4 h5).2.1 (takes_block htk (by omega)))
      generalize loc nd.kids[1].toNat = gk1 at y1 HK1
      generalize kid ts 1 = k1 at hlen hlen2 htsz HK1 ⊢
      have hkn : nd.kids.length = 2 := by omega
      rw [hkn] at c7
      clear hkn
      rw [hk] at c0
      have hah := aheadB_size (k := 14) htl
      generalize nd.t = nt at c2 htl hlen hlen2 htsz hah ⊢
      have HE : Hid (acc ++ flatB [aheadB 14 nt, ⟨#[40]⟩] ++ k0.data.toList ++ flatB [⟨#[41, 32]⟩] ++ k1.data.toList = acc ++ (⟨#[119, 104, 105, 108, 101, 32, 40]⟩ ++ k0 ++ ⟨#[41, 32]⟩ ++ k1 : ByteArray).data.toList) := hide (by simp [flatB, aheadB])
      first | simp only [ByteArray.size_append] at htsz | skip
      generalize hTT : (⟨#[119, 104, 105, 108, 101, 32, 40]⟩ ++ k0 ++ ⟨#[41, 32]⟩ ++ k1 : ByteArray) = TT at HE hlen2 ⊢
      clear hTT hlen HKA HPT hcount hk2 hk HP' hkl htsl h11
      go_enter Tryd.func19, Tryd.ntmps19
      have hl0 : (acc).length ≤ 100000000000 := pre_len (X := flatB [aheadB 14 nt, ⟨#[40]⟩] ++ k0.data.toList ++ flatB [⟨#[41, 32]⟩] ++ k1.data.toList) (by rw [← unhide HE] <;> first | rfl | simp only [List.append_assoc]) hlen2
      have HSG := wordsAhead_any gx 14 nt w (by omega) htl c0 c2
      have HSH := hide HSG
      clear HSG
      go_wp2_with fail
      refine (unhide HSH).mono ?_
      rintro e w ⟨rfl, rfl⟩
      go_wp2_with fail
      refine (twPut2 B b _ (aheadB 14 nt) ⟨#[40]⟩ w (unhide HT0) hl0 (by first | decide | omega) (by first | decide | omega) hBw).mono ?_
      rintro e w1 ⟨rfl, hT, hb⟩
      have HT1 := hide hT
      have HB1 := hide ((unhide HB0).trans hb)
      have hs1 : B ≤ w1.heap.size := Nat.le_trans hBw hb.size
      have c0_1 := cellB hb hgx c0
      have c2_1 := cellB hb hgx c2
      have c7_1 := cellB hb hgx c7
      have c3_1 := cellB hb hgx c3
      have y0_1 := cellB hb hbp0 y0
      have y1_1 := cellB hb hbp1 y1
      clear c0 c2 c7 c3 y0 y1
      clear hT hb HT0
      have hl1 : (acc ++ flatB [aheadB 14 nt, ⟨#[40]⟩]).length ≤ 100000000000 := pre_len (X := k0.data.toList ++ flatB [⟨#[41, 32]⟩] ++ k1.data.toList) (by rw [← unhide HE] <;> first | rfl | simp only [List.append_assoc]) hlen2
      have hl1k : (acc ++ flatB [aheadB 14 nt, ⟨#[40]⟩]).length + k0.size ≤ 100000000000 := by rw [← toL_len, ← List.length_append]; exact pre_len (X := flatB [⟨#[41, 32]⟩] ++ k1.data.toList) (by rw [← unhide HE] <;> simp only [List.append_assoc, List.append_nil]) hlen2
      go_wp2_with fail
      refine (unhide HK0 w1 _ (unhide HB1) (unhide HT1) hl1k hs1 (by omega)).mono ?_
      rintro e w2 ⟨rfl, hT, hb⟩
      have HT2 := hide hT
      have HB2 := hide ((unhide HB1).trans hb)
      have hs2 : B ≤ w2.heap.size := Nat.le_trans hs1 hb.size
      have c0_2 := cellB hb hgx c0_1
      have c2_2 := cellB hb hgx c2_1
      have c7_2 := cellB hb hgx c7_1
      have c3_2 := cellB hb hgx c3_1
      have y0_2 := cellB hb hbp0 y0_1
      have y1_2 := cellB hb hbp1 y1_1
      clear c0_1 c2_1 c7_1 c3_1 y0_1 y1_1
      clear hT hb HT1
      have hl2 : (acc ++ flatB [aheadB 14 nt, ⟨#[40]⟩] ++ k0.data.toList).length ≤ 100000000000 := pre_len (X := flatB [⟨#[41, 32]⟩] ++ k1.data.toList) (by rw [← unhide HE] <;> first | rfl | simp only [List.append_assoc]) hlen2
      go_wp2_with fail
      refine (twPut1 B b _ ⟨#[41, 32]⟩ w2 (unhide HT2) hl2 (by first | decide | omega) hs2).mono ?_
      rintro e w3 ⟨rfl, hT, hb⟩
      have HT3 := hide hT
      have HB3 := hide ((unhide HB2).trans hb)
      have hs3 : B ≤ w3.heap.size := Nat.le_trans hs2 hb.size
      have c0_3 := cellB hb hgx c0_2
      have c2_3 := cellB hb hgx c2_2
      have c7_3 := cellB hb hgx c7_2
      have c3_3 := cellB hb hgx c3_2
      have y0_3 := cellB hb hbp0 y0_2
      have y1_3 := cellB hb hbp1 y1_2
      clear c0_2 c2_2 c7_2 c3_2 y0_2 y1_2
      clear hT hb HT2
      have hl3 : (acc ++ flatB [aheadB 14 nt, ⟨#[40]⟩] ++ k0.data.toList ++ flatB [⟨#[41, 32]⟩]).length ≤ 100000000000 := pre_len (X := k1.data.toList) (by rw [← unhide HE] <;> first | rfl | simp only [List.append_assoc]) hlen2
      have hl3k : (acc ++ flatB [aheadB 14 nt, ⟨#[40]⟩] ++ k0.data.toList ++ flatB [⟨#[41, 32]⟩]).length + k1.size ≤ 100000000000 := by rw [← toL_len, ← List.length_append]; exact pre_len (X := []) (by rw [← unhide HE] <;> simp only [List.append_assoc, List.append_nil]) hlen2
      go_wp2_with fail
      refine (unhide HK1 w3 _ (unhide HB3) (unhide HT3) hl3k hs3 (by omega)).mono ?_
      rintro e w4 ⟨rfl, hT, hb⟩
      have HT4 := hide hT
      have HB4 := hide ((unhide HB3).trans hb)
      have hs4 : B ≤ w4.heap.size := Nat.le_trans hs3 hb.size
      have c0_4 := cellB hb hgx c0_3
      have c2_4 := cellB hb hgx c2_3
      have c7_4 := cellB hb hgx c7_3
      have c3_4 := cellB hb hgx c3_3
      have y0_4 := cellB hb hbp0 y0_3
      have y1_4 := cellB hb hbp1 y1_3
      clear c0_3 c2_3 c7_3 c3_3 y0_3 y1_3
      clear hT hb HT3
      go_wp2
      first | go_end0 | (refine bodyPost_ret (results_none rfl _ _ _) rfl ?_)
      exact TwP.mk (unhide HT4) (unhide HE) (unhide HB4)
    · have HE0 : nodeT nd ts = ⟨#[114, 101, 116, 117, 114, 110, 32]⟩ ++ kid ts 0 ++ ⟨#[59]⟩ := by unfold nodeT; rw [hk]; rfl
      rw [HE0] at hlen hlen2 htsz ⊢
      clear HE0 HBLK
      have hnk : ts.length = 1 := by simp [hk, countB] at hcount; omega
      have hi0 : 0 < nd.kids.length := by omega
      obtain ⟨bp, hpb0, hbp0, y0⟩ := unhide HPT 0 (by rw [List.length_map]; exact hi0)
      subst hpb0
      rw [List.getElem_map] at y0
      have HK0 : Hid (∀ (wx : World) (A : List UInt8), Below B w wx → Tw B b A wx → A.length + (kid ts 0).size ≤ 100000000000 → B ≤ wx.heap.size → (kid ts 0).size ≤ 10000000000 → Calls Tryd.prog 35 #[.pointer (some ⟨b, 0, none⟩), .pointer (some ⟨loc nd.kids[0].toNat, 0, none⟩)] wx (TwP B b A (kid ts 0) wx)) := hide (fun wx A h1 h2 h3 h4 h5 => by
        obtain ⟨mk, top, htk, hc⟩ := unhide HKA 0 hi0
        exact (hc wx A h1 h2 h3 h4 h5).1 (takes_expr2 htk (by omega)))
      generalize loc nd.kids[0].toNat = gk0 at y0 HK0
      generalize kid ts 0 = k0 at hlen hlen2 htsz HK0 ⊢
      rw [hk] at c0
      have hah := aheadB_size (k := 15) htl
      generalize nd.t = nt at c2 htl hlen hlen2 htsz hah ⊢
      have HE : Hid (acc ++ flatB [aheadB 15 nt] ++ k0.data.toList ++ flatB [⟨#[59]⟩] = acc ++ (⟨#[114, 101, 116, 117, 114, 110, 32]⟩ ++ k0 ++ ⟨#[59]⟩ : ByteArray).data.toList) := hide (by simp [flatB, aheadB])
      first | simp only [ByteArray.size_append] at htsz | skip
      generalize hTT : (⟨#[114, 101, 116, 117, 114, 110, 32]⟩ ++ k0 ++ ⟨#[59]⟩ : ByteArray) = TT at HE hlen2 ⊢
      clear hTT hlen HKA HPT hcount hk2 hk HP' hkl htsl h11
      go_enter Tryd.func19, Tryd.ntmps19
      have hl0 : (acc).length ≤ 100000000000 := pre_len (X := flatB [aheadB 15 nt] ++ k0.data.toList ++ flatB [⟨#[59]⟩]) (by rw [← unhide HE] <;> first | rfl | simp only [List.append_assoc]) hlen2
      have HSG := wordsAhead_any gx 15 nt w (by omega) htl c0 c2
      have HSH := hide HSG
      clear HSG
      go_wp2_with fail
      refine (unhide HSH).mono ?_
      rintro e w ⟨rfl, rfl⟩
      go_wp2_with fail
      refine (twPut1 B b _ (aheadB 15 nt) w (unhide HT0) hl0 (by first | decide | omega) hBw).mono ?_
      rintro e w1 ⟨rfl, hT, hb⟩
      have HT1 := hide hT
      have HB1 := hide ((unhide HB0).trans hb)
      have hs1 : B ≤ w1.heap.size := Nat.le_trans hBw hb.size
      have c0_1 := cellB hb hgx c0
      have c2_1 := cellB hb hgx c2
      have c7_1 := cellB hb hgx c7
      have c3_1 := cellB hb hgx c3
      have y0_1 := cellB hb hbp0 y0
      clear c0 c2 c7 c3 y0
      clear hT hb HT0
      have hl1 : (acc ++ flatB [aheadB 15 nt]).length ≤ 100000000000 := pre_len (X := k0.data.toList ++ flatB [⟨#[59]⟩]) (by rw [← unhide HE] <;> first | rfl | simp only [List.append_assoc]) hlen2
      have hl1k : (acc ++ flatB [aheadB 15 nt]).length + k0.size ≤ 100000000000 := by rw [← toL_len, ← List.length_append]; exact pre_len (X := flatB [⟨#[59]⟩]) (by rw [← unhide HE] <;> simp only [List.append_assoc, List.append_nil]) hlen2
      go_wp2_with fail
      refine (unhide HK0 w1 _ (unhide HB1) (unhide HT1) hl1k hs1 (by omega)).mono ?_
      rintro e w2 ⟨rfl, hT, hb⟩
      have HT2 := hide hT
      have HB2 := hide ((unhide HB1).trans hb)
      have hs2 : B ≤ w2.heap.size := Nat.le_trans hs1 hb.size
      have c0_2 := cellB hb hgx c0_1
      have c2_2 := cellB hb hgx c2_1
      have c7_2 := cellB hb hgx c7_1
      have c3_2 := cellB hb hgx c3_1
      have y0_2 := cellB hb hbp0 y0_1
      clear c0_1 c2_1 c7_1 c3_1 y0_1
      clear hT hb HT1
      have hl2 : (acc ++ flatB [aheadB 15 nt] ++ k0.data.toList).length ≤ 100000000000 := pre_len (X := flatB [⟨#[59]⟩]) (by rw [← unhide HE] <;> first | rfl | simp only [List.append_assoc]) hlen2
      go_wp2_with fail
      refine (twPut1 B b _ ⟨#[59]⟩ w2 (unhide HT2) hl2 (by first | decide | omega) hs2).mono ?_
      rintro e w3 ⟨rfl, hT, hb⟩
      have HT3 := hide hT
      have HB3 := hide ((unhide HB2).trans hb)
      have hs3 : B ≤ w3.heap.size := Nat.le_trans hs2 hb.size
      have c0_3 := cellB hb hgx c0_2
      have c2_3 := cellB hb hgx c2_2
      have c7_3 := cellB hb hgx c7_2
      have c3_3 := cellB hb hgx c3_2
      have y0_3 := cellB hb hbp0 y0_2
      clear c0_2 c2_2 c7_2 c3_2 y0_2
      clear hT hb HT2
      go_wp2
      first | go_end0 | (refine bodyPost_ret (results_none rfl _ _ _) rfl ?_)
      exact TwP.mk (unhide HT3) (unhide HE) (unhide HB3)
    · have HE0 : nodeT nd ts = ⟨#[116, 104, 114, 111, 119, 32]⟩ ++ kid ts 0 ++ ⟨#[59]⟩ := by unfold nodeT; rw [hk]; rfl
      rw [HE0] at hlen hlen2 htsz ⊢
      clear HE0 HBLK
      have hnk : ts.length = 1 := by simp [hk, countB] at hcount; omega
      have hi0 : 0 < nd.kids.length := by omega
      obtain ⟨bp, hpb0, hbp0, y0⟩ := unhide HPT 0 (by rw [List.length_map]; exact hi0)
      subst hpb0
      rw [List.getElem_map] at y0
      have HK0 : Hid (∀ (wx : World) (A : List UInt8), Below B w wx → Tw B b A wx → A.length + (kid ts 0).size ≤ 100000000000 → B ≤ wx.heap.size → (kid ts 0).size ≤ 10000000000 → Calls Tryd.prog 35 #[.pointer (some ⟨b, 0, none⟩), .pointer (some ⟨loc nd.kids[0].toNat, 0, none⟩)] wx (TwP B b A (kid ts 0) wx)) := hide (fun wx A h1 h2 h3 h4 h5 => by
        obtain ⟨mk, top, htk, hc⟩ := unhide HKA 0 hi0
        exact (hc wx A h1 h2 h3 h4 h5).1 (takes_expr2 htk (by omega)))
      generalize loc nd.kids[0].toNat = gk0 at y0 HK0
      generalize kid ts 0 = k0 at hlen hlen2 htsz HK0 ⊢
      rw [hk] at c0
      have hah := aheadB_size (k := 16) htl
      generalize nd.t = nt at c2 htl hlen hlen2 htsz hah ⊢
      have HE : Hid (acc ++ flatB [aheadB 16 nt] ++ k0.data.toList ++ flatB [⟨#[59]⟩] = acc ++ (⟨#[116, 104, 114, 111, 119, 32]⟩ ++ k0 ++ ⟨#[59]⟩ : ByteArray).data.toList) := hide (by simp [flatB, aheadB])
      first | simp only [ByteArray.size_append] at htsz | skip
      generalize hTT : (⟨#[116, 104, 114, 111, 119, 32]⟩ ++ k0 ++ ⟨#[59]⟩ : ByteArray) = TT at HE hlen2 ⊢
      clear hTT hlen HKA HPT hcount hk2 hk HP' hkl htsl h11
      go_enter Tryd.func19, Tryd.ntmps19
      have hl0 : (acc).length ≤ 100000000000 := pre_len (X := flatB [aheadB 16 nt] ++ k0.data.toList ++ flatB [⟨#[59]⟩]) (by rw [← unhide HE] <;> first | rfl | simp only [List.append_assoc]) hlen2
      have HSG := wordsAhead_any gx 16 nt w (by omega) htl c0 c2
      have HSH := hide HSG
      clear HSG
      go_wp2_with fail
      refine (unhide HSH).mono ?_
      rintro e w ⟨rfl, rfl⟩
      go_wp2_with fail
      refine (twPut1 B b _ (aheadB 16 nt) w (unhide HT0) hl0 (by first | decide | omega) hBw).mono ?_
      rintro e w1 ⟨rfl, hT, hb⟩
      have HT1 := hide hT
      have HB1 := hide ((unhide HB0).trans hb)
      have hs1 : B ≤ w1.heap.size := Nat.le_trans hBw hb.size
      have c0_1 := cellB hb hgx c0
      have c2_1 := cellB hb hgx c2
      have c7_1 := cellB hb hgx c7
      have c3_1 := cellB hb hgx c3
      have y0_1 := cellB hb hbp0 y0
      clear c0 c2 c7 c3 y0
      clear hT hb HT0
      have hl1 : (acc ++ flatB [aheadB 16 nt]).length ≤ 100000000000 := pre_len (X := k0.data.toList ++ flatB [⟨#[59]⟩]) (by rw [← unhide HE] <;> first | rfl | simp only [List.append_assoc]) hlen2
      have hl1k : (acc ++ flatB [aheadB 16 nt]).length + k0.size ≤ 100000000000 := by rw [← toL_len, ← List.length_append]; exact pre_len (X := flatB [⟨#[59]⟩]) (by rw [← unhide HE] <;> simp only [List.append_assoc, List.append_nil]) hlen2
      go_wp2_with fail
      refine (unhide HK0 w1 _ (unhide HB1) (unhide HT1) hl1k hs1 (by omega)).mono ?_
      rintro e w2 ⟨rfl, hT, hb⟩
      have HT2 := hide hT
      have HB2 := hide ((unhide HB1).trans hb)
      have hs2 : B ≤ w2.heap.size := Nat.le_trans hs1 hb.size
      have c0_2 := cellB hb hgx c0_1
      have c2_2 := cellB hb hgx c2_1
      have c7_2 := cellB hb hgx c7_1
      have c3_2 := cellB hb hgx c3_1
      have y0_2 := cellB hb hbp0 y0_1
      clear c0_1 c2_1 c7_1 c3_1 y0_1
      clear hT hb HT1
      have hl2 : (acc ++ flatB [aheadB 16 nt] ++ k0.data.toList).length ≤ 100000000000 := pre_len (X := flatB [⟨#[59]⟩]) (by rw [← unhide HE] <;> first | rfl | simp only [List.append_assoc]) hlen2
      go_wp2_with fail
      refine (twPut1 B b _ ⟨#[59]⟩ w2 (unhide HT2) hl2 (by first | decide | omega) hs2).mono ?_
      rintro e w3 ⟨rfl, hT, hb⟩
      have HT3 := hide hT
      have HB3 := hide ((unhide HB2).trans hb)
      have hs3 : B ≤ w3.heap.size := Nat.le_trans hs2 hb.size
      have c0_3 := cellB hb hgx c0_2
      have c2_3 := cellB hb hgx c2_2
      have c7_3 := cellB hb hgx c7_2
      have c3_3 := cellB hb hgx c3_2
      have y0_3 := cellB hb hbp0 y0_2
      clear c0_2 c2_2 c7_2 c3_2 y0_2
      clear hT hb HT2
      go_wp2
      first | go_end0 | (refine bodyPost_ret (results_none rfl _ _ _) rfl ?_)
      exact TwP.mk (unhide HT3) (unhide HE) (unhide HB3)
    · have HE0 : nodeT nd ts = ⟨#[116, 114, 121, 32]⟩ ++ kid ts 0 ++ ⟨#[32, 99, 97, 116, 99, 104, 32, 40]⟩ ++ nd.t ++ ⟨#[41, 32]⟩ ++ kid ts 1 := by unfold nodeT; rw [hk]; rfl
      rw [HE0] at hlen hlen2 htsz ⊢
      clear HE0 HBLK
      have hnk : ts.length = 2 := by simp [hk, countB] at hcount; omega
      have hi0 : 0 < nd.kids.length := by omega
      obtain ⟨bp, hpb0, hbp0, y0⟩ := unhide HPT 0 (by rw [List.length_map]; exact hi0)
      subst hpb0
      rw [List.getElem_map] at y0
      have HK0 : Hid (∀ (wx : World) (A : List UInt8), Below B w wx → Tw B b A wx → A.length + (kid ts 0).size ≤ 100000000000 → B ≤ wx.heap.size → (kid ts 0).size ≤ 10000000000 → Calls Tryd.prog 33 #[.pointer (some ⟨b, 0, none⟩), .pointer (some ⟨loc nd.kids[0].toNat, 0, none⟩)] wx (TwP B b A (kid ts 0) wx)) := hide (fun wx A h1 h2 h3 h4 h5 => by
        obtain ⟨mk, top, htk, hc⟩ := unhide HKA 0 hi0
        exact (hc wx A h1 h2 h3 h4 h5).2.1 (takes_block htk (by omega)))
      generalize loc nd.kids[0].toNat = gk0 at y0 HK0
      generalize kid ts 0 = k0 at hlen hlen2 htsz HK0 ⊢
      have hi1 : 1 < nd.kids.length := by omega
      obtain ⟨bp1, hpb1, hbp1, y1⟩ := unhide HPT 1 (by rw [List.length_map]; exact hi1)
      obtain rfl : bp = bp1 := by simpa using hpb1
      clear hpb1
      rw [List.getElem_map] at y1
      have HK1 : Hid (∀ (wx : World) (A : List UInt8), Below B w wx → Tw B b A wx → A.length + (kid ts 1).size ≤ 100000000000 → B ≤ wx.heap.size → (kid ts 1).size ≤ 10000000000 → Calls Tryd.prog 33 #[.pointer (some ⟨b, 0, none⟩), .pointer (some ⟨loc nd.kids[1].toNat, 0, none⟩)] wx (TwP B b A (kid ts 1) wx)) := hide (fun wx A h1 h2 h3 h4 h5 => by
        obtain ⟨mk, top, htk, hc⟩ := unhide HKA 1 hi1
        exact (hc wx A h1 h2 h3 h4 h5).2.1 (takes_block htk (by omega)))
      generalize loc nd.kids[1].toNat = gk1 at y1 HK1
      generalize kid ts 1 = k1 at hlen hlen2 htsz HK1 ⊢
      rw [hk] at c0
      have hah := aheadB_size (k := 17) htl
      generalize nd.t = nt at c2 htl hlen hlen2 htsz hah ⊢
      have HE : Hid (acc ++ flatB [⟨#[116, 114, 121, 32]⟩] ++ k0.data.toList ++ flatB [⟨#[32, 99, 97, 116, 99, 104, 32, 40]⟩, nt, ⟨#[41, 32]⟩] ++ k1.data.toList = acc ++ (⟨#[116, 114, 121, 32]⟩ ++ k0 ++ ⟨#[32, 99, 97, 116, 99, 104, 32, 40]⟩ ++ nt ++ ⟨#[41, 32]⟩ ++ k1 : ByteArray).data.toList) := hide (by simp [flatB, aheadB])
      first | simp only [ByteArray.size_append] at htsz | skip
      generalize hTT : (⟨#[116, 114, 121, 32]⟩ ++ k0 ++ ⟨#[32, 99, 97, 116, 99, 104, 32, 40]⟩ ++ nt ++ ⟨#[41, 32]⟩ ++ k1 : ByteArray) = TT at HE hlen2 ⊢
      clear hTT hlen HKA HPT hcount hk2 hk HP' hkl htsl h11
      go_enter Tryd.func19, Tryd.ntmps19
      have hl0 : (acc).length ≤ 100000000000 := pre_len (X := flatB [⟨#[116, 114, 121, 32]⟩] ++ k0.data.toList ++ flatB [⟨#[32, 99, 97, 116, 99, 104, 32, 40]⟩, nt, ⟨#[41, 32]⟩] ++ k1.data.toList) (by rw [← unhide HE] <;> first | rfl | simp only [List.append_assoc]) hlen2
      go_wp2_with fail
      refine (twPut1 B b _ ⟨#[116, 114, 121, 32]⟩ w (unhide HT0) hl0 (by first | decide | omega) hBw).mono ?_
      rintro e w1 ⟨rfl, hT, hb⟩
      have HT1 := hide hT
      have HB1 := hide ((unhide HB0).trans hb)
      have hs1 : B ≤ w1.heap.size := Nat.le_trans hBw hb.size
      have c0_1 := cellB hb hgx c0
      have c2_1 := cellB hb hgx c2
      have c7_1 := cellB hb hgx c7
      have c3_1 := cellB hb hgx c3
      have y0_1 := cellB hb hbp0 y0
      have y1_1 := cellB hb hbp1 y1
      clear c0 c2 c7 c3 y0 y1
      clear hT hb HT0
      have hl1 : (acc ++ flatB [⟨#[116, 114, 121, 32]⟩]).length ≤ 100000000000 := pre_len (X := k0.data.toList ++ flatB [⟨#[32, 99, 97, 116, 99, 104, 32, 40]⟩, nt, ⟨#[41, 32]⟩] ++ k1.data.toList) (by rw [← unhide HE] <;> first | rfl | simp only [List.append_assoc]) hlen2
      have hl1k : (acc ++ flatB [⟨#[116, 114, 121, 32]⟩]).length + k0.size ≤ 100000000000 := by rw [← toL_len, ← List.length_append]; exact pre_len (X := flatB [⟨#[32, 99, 97, 116, 99, 104, 32, 40]⟩, nt, ⟨#[41, 32]⟩] ++ k1.data.toList) (by rw [← unhide HE] <;> simp only [List.append_assoc, List.append_nil]) hlen2
      go_wp2_with fail
      refine (unhide HK0 w1 _ (unhide HB1) (unhide HT1) hl1k hs1 (by omega)).mono ?_
      rintro e w2 ⟨rfl, hT, hb⟩
      have HT2 := hide hT
      have HB2 := hide ((unhide HB1).trans hb)
      have hs2 : B ≤ w2.heap.size := Nat.le_trans hs1 hb.size
      have c0_2 := cellB hb hgx c0_1
      have c2_2 := cellB hb hgx c2_1
      have c7_2 := cellB hb hgx c7_1
      have c3_2 := cellB hb hgx c3_1
      have y0_2 := cellB hb hbp0 y0_1
      have y1_2 := cellB hb hbp1 y1_1
      clear c0_1 c2_1 c7_1 c3_1 y0_1 y1_1
      clear hT hb HT1
      have hl2 : (acc ++ flatB [⟨#[116, 114, 121, 32]⟩] ++ k0.data.toList).length ≤ 100000000000 := pre_len (X := flatB [⟨#[32, 99, 97, 116, 99, 104, 32, 40]⟩, nt, ⟨#[41, 32]⟩] ++ k1.data.toList) (by rw [← unhide HE] <;> first | rfl | simp only [List.append_assoc]) hlen2
      go_wp2_with fail
      refine (twPut3 B b _ ⟨#[32, 99, 97, 116, 99, 104, 32, 40]⟩ nt ⟨#[41, 32]⟩ w2 (unhide HT2) hl2 (by first | decide | omega) (by first | decide | omega) (by first | decide | omega) hs2).mono ?_
      rintro e w3 ⟨rfl, hT, hb⟩
      have HT3 := hide hT
      have HB3 := hide ((unhide HB2).trans hb)
      have hs3 : B ≤ w3.heap.size := Nat.le_trans hs2 hb.size
      have c0_3 := cellB hb hgx c0_2
      have c2_3 := cellB hb hgx c2_2
      have c7_3 := cellB hb hgx c7_2
      have c3_3 := cellB hb hgx c3_2
      have y0_3 := cellB hb hbp0 y0_2
      have y1_3 := cellB hb hbp1 y1_2
      clear c0_2 c2_2 c7_2 c3_2 y0_2 y1_2
      clear hT hb HT2
      have hl3 : (acc ++ flatB [⟨#[116, 114, 121, 32]⟩] ++ k0.data.toList ++ flatB [⟨#[32, 99, 97, 116, 99, 104, 32, 40]⟩, nt, ⟨#[41, 32]⟩]).length ≤ 100000000000 := pre_len (X := k1.data.toList) (by rw [← unhide HE] <;> first | rfl | simp only [List.append_assoc]) hlen2
      have hl3k : (acc ++ flatB [⟨#[116, 114, 121, 32]⟩] ++ k0.data.toList ++ flatB [⟨#[32, 99, 97, 116, 99, 104, 32, 40]⟩, nt, ⟨#[41, 32]⟩]).length + k1.size ≤ 100000000000 := by rw [← toL_len, ← List.length_append]; exact pre_len (X := []) (by rw [← unhide HE] <;> simp only [List.append_assoc, List.append_nil]) hlen2
      go_wp2_with fail
      refine (unhide HK1 w3 _ (unhide HB3) (unhide HT3) hl3k hs3 (by omega)).mono ?_
      rintro e w4 ⟨rfl, hT, hb⟩
      have HT4 := hide hT
      have HB4 := hide ((unhide HB3).trans hb)
      have hs4 : B ≤ w4.heap.size := Nat.le_trans hs3 hb.size
      have c0_4 := cellB hb hgx c0_3
      have c2_4 := cellB hb hgx c2_3
      have c7_4 := cellB hb hgx c7_3
      have c3_4 := cellB hb hgx c3_3
      have y0_4 := cellB hb hbp0 y0_3
      have y1_4 := cellB hb hbp1 y1_3
      clear c0_3 c2_3 c7_3 c3_3 y0_3 y1_3
      clear hT hb HT3
      go_wp2
      first | go_end0 | (refine bodyPost_ret (results_none rfl _ _ _) rfl ?_)
      exact TwP.mk (unhide HT4) (unhide HE) (unhide HB4)
    · have HC := hide (unhide HBLK hk)
      rw [hk] at c0
      clear HKA HPT hcount htsl HBLK hk
      generalize nodeT nd ts = tt at HC hlen hlen2 htsz ⊢
      go_enter Tryd.func19, Tryd.ntmps19
      go_wp2_with fail
      refine (unhide HC).mono ?_
      rintro e w1 ⟨rfl, hT, hb⟩
      have HF : Hid (TwP B b acc tt w (.returned (.tuple #[])) w1) := hide ⟨rfl, hT, hb⟩
      clear hT hb
      go_wp2
      first | go_end0 | (refine bodyPost_ret (results_none rfl _ _ _) rfl ?_)
      exact unhide HF
    · have HE0 : nodeT nd ts = kid ts 0 ++ ⟨#[59]⟩ := by unfold nodeT; rw [hk]; rfl
      rw [HE0] at hlen hlen2 htsz ⊢
      clear HE0 HBLK
      have hnk : ts.length = 1 := by simp [hk, countB] at hcount; omega
      have hi0 : 0 < nd.kids.length := by omega
      obtain ⟨bp, hpb0, hbp0, y0⟩ := unhide HPT 0 (by rw [List.length_map]; exact hi0)
      subst hpb0
      rw [List.getElem_map] at y0
      have HK0 : Hid (∀ (wx : World) (A : List UInt8), Below B w wx → Tw B b A wx → A.length + (kid ts 0).size ≤ 100000000000 → B ≤ wx.heap.size → (kid ts 0).size ≤ 10000000000 → Calls Tryd.prog 35 #[.pointer (some ⟨b, 0, none⟩), .pointer (some ⟨loc nd.kids[0].toNat, 0, none⟩)] wx (TwP B b A (kid ts 0) wx)) := hide (fun wx A h1 h2 h3 h4 h5 => by
        obtain ⟨mk, top, htk, hc⟩ := unhide HKA 0 hi0
        exact (hc wx A h1 h2 h3 h4 h5).1 (takes_expr2 htk (by omega)))
      generalize loc nd.kids[0].toNat = gk0 at y0 HK0
      generalize kid ts 0 = k0 at hlen hlen2 htsz HK0 ⊢
      rw [hk] at c0
      have hah := aheadB_size (k := 19) htl
      generalize nd.t = nt at c2 htl hlen hlen2 htsz hah ⊢
      have HE : Hid (acc ++ flatB [aheadB 19 nt] ++ k0.data.toList ++ flatB [⟨#[59]⟩] = acc ++ (k0 ++ ⟨#[59]⟩ : ByteArray).data.toList) := hide (by simp [flatB, aheadB])
      first | simp only [ByteArray.size_append] at htsz | skip
      generalize hTT : (k0 ++ ⟨#[59]⟩ : ByteArray) = TT at HE hlen2 ⊢
      clear hTT hlen HKA HPT hcount hk2 hk HP' hkl htsl h11
      go_enter Tryd.func19, Tryd.ntmps19
      have hl0 : (acc).length ≤ 100000000000 := pre_len (X := flatB [aheadB 19 nt] ++ k0.data.toList ++ flatB [⟨#[59]⟩]) (by rw [← unhide HE] <;> first | rfl | simp only [List.append_assoc]) hlen2
      have HSG := wordsAhead_any gx 19 nt w (by omega) htl c0 c2
      have HSH := hide HSG
      clear HSG
      go_wp2_with fail
      refine (unhide HSH).mono ?_
      rintro e w ⟨rfl, rfl⟩
      go_wp2_with fail
      refine (twPut1 B b _ (aheadB 19 nt) w (unhide HT0) hl0 (by first | decide | omega) hBw).mono ?_
      rintro e w1 ⟨rfl, hT, hb⟩
      have HT1 := hide hT
      have HB1 := hide ((unhide HB0).trans hb)
      have hs1 : B ≤ w1.heap.size := Nat.le_trans hBw hb.size
      have c0_1 := cellB hb hgx c0
      have c2_1 := cellB hb hgx c2
      have c7_1 := cellB hb hgx c7
      have c3_1 := cellB hb hgx c3
      have y0_1 := cellB hb hbp0 y0
      clear c0 c2 c7 c3 y0
      clear hT hb HT0
      have hl1 : (acc ++ flatB [aheadB 19 nt]).length ≤ 100000000000 := pre_len (X := k0.data.toList ++ flatB [⟨#[59]⟩]) (by rw [← unhide HE] <;> first | rfl | simp only [List.append_assoc]) hlen2
      have hl1k : (acc ++ flatB [aheadB 19 nt]).length + k0.size ≤ 100000000000 := by rw [← toL_len, ← List.length_append]; exact pre_len (X := flatB [⟨#[59]⟩]) (by rw [← unhide HE] <;> simp only [List.append_assoc, List.append_nil]) hlen2
      go_wp2_with fail
      refine (unhide HK0 w1 _ (unhide HB1) (unhide HT1) hl1k hs1 (by omega)).mono ?_
      rintro e w2 ⟨rfl, hT, hb⟩
      have HT2 := hide hT
      have HB2 := hide ((unhide HB1).trans hb)
      have hs2 : B ≤ w2.heap.size := Nat.le_trans hs1 hb.size
      have c0_2 := cellB hb hgx c0_1
      have c2_2 := cellB hb hgx c2_1
      have c7_2 := cellB hb hgx c7_1
      have c3_2 := cellB hb hgx c3_1
      have y0_2 := cellB hb hbp0 y0_1
      clear c0_1 c2_1 c7_1 c3_1 y0_1
      clear hT hb HT1
      have hl2 : (acc ++ flatB [aheadB 19 nt] ++ k0.data.toList).length ≤ 100000000000 := pre_len (X := flatB [⟨#[59]⟩]) (by rw [← unhide HE] <;> first | rfl | simp only [List.append_assoc]) hlen2
      go_wp2_with fail
      refine (twPut1 B b _ ⟨#[59]⟩ w2 (unhide HT2) hl2 (by first | decide | omega) hs2).mono ?_
      rintro e w3 ⟨rfl, hT, hb⟩
      have HT3 := hide hT
      have HB3 := hide ((unhide HB2).trans hb)
      have hs3 : B ≤ w3.heap.size := Nat.le_trans hs2 hb.size
      have c0_3 := cellB hb hgx c0_2
      have c2_3 := cellB hb hgx c2_2
      have c7_3 := cellB hb hgx c7_2
      have c3_3 := cellB hb hgx c3_2
      have y0_3 := cellB hb hbp0 y0_2
      clear c0_2 c2_2 c7_2 c3_2 y0_2
      clear hT hb HT2
      go_wp2
      first | go_end0 | (refine bodyPost_ret (results_none rfl _ _ _) rfl ?_)
      exact TwP.mk (unhide HT3) (unhide HE) (unhide HB3)
    · have HE0 : nodeT nd ts = ⟨#[102, 117, 110, 99, 116, 105, 111, 110, 32]⟩ ++ nd.t ++ ⟨#[40]⟩ ++ joinB ⟨#[44, 32]⟩ nd.names ++ ⟨#[41, 32]⟩ ++ kid ts 0 := by unfold nodeT; rw [hk]; rfl
      rw [HE0] at hlen hlen2 htsz ⊢
      clear HE0 HBLK
      have hnk : ts.length = 1 := by simp [hk, countB] at hcount; omega
      have hi0 : 0 < nd.kids.length := by omega
      obtain ⟨bp, hpb0, hbp0, y0⟩ := unhide HPT 0 (by rw [List.length_map]; exact hi0)
      subst hpb0
      rw [List.getElem_map] at y0
      have HK0 : Hid (∀ (wx : World) (A : List UInt8), Below B w wx → Tw B b A wx → A.length + (kid ts 0).size ≤ 100000000000 → B ≤ wx.heap.size → (kid ts 0).size ≤ 10000000000 → Calls Tryd.prog 33 #[.pointer (some ⟨b, 0, none⟩), .pointer (some ⟨loc nd.kids[0].toNat, 0, none⟩)] wx (TwP B b A (kid ts 0) wx)) := hide (fun wx A h1 h2 h3 h4 h5 => by
        obtain ⟨mk, top, htk, hc⟩ := unhide HKA 0 hi0
        exact (hc wx A h1 h2 h3 h4 h5).2.1 (takes_block htk (by omega)))
      generalize loc nd.kids[0].toNat = gk0 at y0 HK0
      generalize kid ts 0 = k0 at hlen hlen2 htsz HK0 ⊢
      rw [hk] at c0
      have HJW := hide (unhide HJX w.drew (Below.drew (unhide HBz)))
      generalize joinB ⟨#[44, 32]⟩ nd.names = jj at hlen hlen2 htsz HJW ⊢
      generalize nd.names.length = nn at c3 HJW
      clear HJX
      generalize nd.t = nt at c2 htl hlen hlen2 htsz ⊢
      have HE : Hid (acc ++ flatB [⟨#[102, 117, 110, 99, 116, 105, 111, 110, 32]⟩, nt, ⟨#[40]⟩, jj, ⟨#[41, 32]⟩] ++ k0.data.toList = acc ++ (⟨#[102, 117, 110, 99, 116, 105, 111, 110, 32]⟩ ++ nt ++ ⟨#[40]⟩ ++ jj ++ ⟨#[41, 32]⟩ ++ k0).data.toList) := hide (by simp [flatB])
      simp only [ByteArray.size_append] at htsz
      generalize hTT : ⟨#[102, 117, 110, 99, 116, 105, 111, 110, 32]⟩ ++ nt ++ ⟨#[40]⟩ ++ jj ++ ⟨#[41, 32]⟩ ++ k0 = TT at HE hlen2 ⊢
      clear hTT hlen HKA HPT hcount hk2 hk HP' hkl htsl h11
      have hl0 : acc.length ≤ 100000000000 := by omega
      have hl1k : (acc ++ flatB [⟨#[102, 117, 110, 99, 116, 105, 111, 110, 32]⟩, nt, ⟨#[40]⟩, jj, ⟨#[41, 32]⟩]).length + k0.size ≤ 100000000000 := by rw [← toL_len, ← List.length_append]; exact pre_len (X := []) (by rw [← unhide HE] <;> simp only [List.append_assoc, List.append_nil]) hlen2
      have hgw : gx < w.heap.size := by omega
      have hbpw : bp < w.heap.size := by omega
      have C2 : Hid (w.cell? ⟨gx, 2, none⟩ = some (.string nt)) := hide c2
      have C3 : Hid (w.cell? ⟨gx, 3, none⟩ = some (.slice pn nn cn)) := hide c3
      have C7 : Hid (w.cell? ⟨gx, 7, none⟩ = some (.slice (some ⟨bp, 0, none⟩) nd.kids.length cb)) := hide c7
      have Y0 : Hid (w.cell? ⟨bp, 0, none⟩ = some (.pointer (some ⟨gk0, 0, none⟩))) := hide y0
      go_enter Tryd.func19, Tryd.ntmps19
      go_wp2
      go_region_held3 (fun z => z.cell? ⟨gx, 2, none⟩ = some (.string nt) ∧ z.cell? ⟨gx, 3, none⟩ = some (.slice pn nn cn)) (first | go_keep | (go_split_ands; exact ⟨cellB hb (by omega) (by assumption), cellB hb (by omega) (by assumption)⟩)) ((first | (go_at_call 36; refine (unhide HJW).mono ?_; rintro e y ⟨rfl, hby⟩; have HBY := hide (nx_trans (nx_drew (Below.refl w.heap.size w)) hby); have z2 := cell_later (unhide HBY) (unhide C2); have z3 := cell_later (unhide HBY) (unhide C3); have hys := (unhide HBY).size; have hsy : B ≤ y.heap.size := (by omega); have hn1 : ¬ gx = y.heap.size := (by omega); clear hby) | (go_at_call 18; refine (twPut5 B b acc ⟨#[102, 117, 110, 99, 116, 105, 111, 110, 32]⟩ nt ⟨#[40]⟩ jj ⟨#[41, 32]⟩ y ((unhide HT0).later (unhide HBY)) hl0 (by decide) (by omega) (by decide) (by omega) (by decide) hsy).mono ?_; rintro e w1 ⟨rfl, hT, hb⟩; have hq2 := cellB hb hgx z2; have hq3 := cellB hb hgx z3)))
      all_goals (
        have HT1 := hide hT
        have HB1 := hide (Below.trans ((unhide HBY).mono hBw) hb)
        have hs1 : B ≤ w1.heap.size := Nat.le_trans hsy hb.size
        have c7_1 := cellB (unhide HB1) hgx (unhide C7)
        have y0_1 := cellB (unhide HB1) hbp0 (unhide Y0)
        clear hT hb
        go_wp2_with fail
        refine (unhide HK0 w1 _ (unhide HB1) (unhide HT1) hl1k hs1 (by omega)).mono ?_
        rintro e w2 ⟨rfl, hT, hb⟩
        have HF := hide (TwP.mk hT (unhide HE) ((unhide HB1).trans hb))
        clear hT hb
        go_wp2
        first | go_end0 | (refine bodyPost_ret (results_none rfl _ _ _) rfl ?_)
        exact unhide HF)

theorem Tw.fresh (w : World) : Tw w.heap.size w.heap.size [] (w.alloc (.cells #[.pointer none, .slice none 0 0] 54)) := by
  refine .inl ⟨Nat.le_refl _, .slice none 0 0, ?_, World.ownsRow_nil _ _ _ _, by simp [Value.ownBlock]⟩
  show (w.heap.push _)[w.heap.size]? = _
  simp

set_option maxHeartbeats 4000000 in
set_option maxRecDepth 100000 in
theorem implTreeText_any (ns : List TN) (root : Int) (L : Lay) (w : World) (hN : NodesAt w L ns) (hsm : Small ns) (htab : Hid (TabAt w 1 srcWords))
    (HIT : Hid (∀ (n : Int) (wx : World), 0 ≤ n → n ≤ 2147483647 → Below w.heap.size w wx → Calls Tryd.prog 46 #[.int .i64 n] wx fun e w' => e = .returned (.string ⟨(Lib.itoa n).toArray⟩) ∧ Below wx.heap.size wx w'))
    (HFB : Hid (∀ (v : Bool) (wx : World), Calls Tryd.prog 49 #[.bool v] wx fun e w' => e = .returned (.string (if v = true then ⟨#[116, 114, 117, 101]⟩ else ⟨#[102, 97, 108, 115, 101]⟩)) ∧ w' = wx))
    (HJN : Hid ((∀ x ∈ ns, PrintT x) → ∀ (x : Nat) (nd : TN) (wx : World), ns[x]? = some nd → Below w.heap.size w wx → Calls Tryd.prog 36 #[.slice (L.pn x) nd.names.length (L.cn x), .string ⟨#[44, 32]⟩] wx fun e w' => e = .returned (.string (joinB ⟨#[44, 32]⟩ nd.names)) ∧ Below wx.heap.size wx w')) :
    Calls Tryd.prog 8 #[.agg #[.slice L.p ns.length L.cap, .int .i64 root]] w fun e w' => ∃ t c, e = .returned (.tuple #[.string t, .int .i64 c]) ∧ TextRes ns root t c ∧ Below w.heap.size w w' := by
  have HN := hide hN
  have HS := hide hsm
  clear hN hsm
  go_enter Tryd.func8, Tryd.ntmps8
  go_wp2_with fail
  refine (rootOf_any ns root L _ ((unhide HN).later (nx_alloc _ _)) (unhide HS) (hide ((unhide htab).later (nx_alloc _ _)))).mono ?_
  rintro e w1 ⟨hb, hres⟩
  have hB := hide (nx_trans (nx_alloc _ _) hb)
  clear hb
  rcases hres with ⟨rfl, hno⟩ | ⟨G, B, loc, l, d, hT, hG, x, hxr, rfl⟩
  · have hD : Hid (TextRes ns root ⟨#[]⟩ 1) := hide (.inl ⟨hno, rfl, rfl⟩)
    clear hno
    go_wp2
    go_ret2
    exact ⟨_, 1, rfl, unhide hD, unhide hB⟩
  · subst hxr
    obtain ⟨hr0, hrl, hrn⟩ := hT.root
    rw [Int.toNat_natCast] at hrl hrn
    have hr : ns[(x : Int).toNat]? = some ns[x] := by rw [Int.toNat_natCast]; exact List.getElem?_eq_getElem hrn
    have hr' : ns[x]? = some ns[x] := List.getElem?_eq_getElem hrn
    have HPR := hide (hT.print (unhide HS))
    have HGD : Hid (∀ y, y < ns.length → GoodT ns (x : Int) y) := hide (fun y hy => hT.2.1.2.2.2 y (hT.2.2.2 y hy))
    obtain ⟨lx, dx, vx, hlx, hl200⟩ := hT.bit hrn
    obtain ⟨x0, l1, l2, d1', d2, _, hx0, v1, v2, rfl, rfl⟩ := vx.inv
    rw [Int.toNat_natCast, hr'] at hx0
    obtain rfl := Option.some.inj hx0
    have hl1 : l1.length + 1 ≤ 200 := by rw [List.length_cons, List.length_append] at hl200; omega
    obtain ⟨ts, hts⟩ := TxtR.ex v1
    have hD : Hid (TextRes ns (x : Int) (joinB ⟨#[32]⟩ ts) 0) := hide (.inr ⟨⟨l, d, hT⟩, rfl, ts, by rw [rootKids_of hr]; exact hts, rfl⟩)
    have hsum : sumB ts ≤ 5060000400 := by
      have := TxtR.size (fun x hx => (unhide HPR x hx).fits) v1 hts
      have : 25300002 * l1.length ≤ 25300002 * 200 := Nat.mul_le_mul_left _ (by omega)
      omega
    have hk18 : ns[x].k = 18 := by
      obtain ⟨r, hr2, hrk⟩ := hT.2.2.1
      rw [hr] at hr2
      obtain rfl := Option.some.inj hr2
      exact hrk
    obtain ⟨n', pb, cb, hx', hgx, c0, c1, c2, c3, c4, c5, c7, hP, _⟩ := hG.br x hrl
    rw [hr'] at hx'
    obtain rfl := Option.some.inj hx'
    have HBR : Hid (Brs w1 w1.heap.size L ns loc l) := hide hG.br
    have htsl : ts.length = ns[x].kids.length := hts.len
    have hkl : ns[x].kids.length ≤ 1048576 := ((unhide HS).2 ns[x] (List.getElem_mem hrn)).2.2.1
    have hsz : ∀ i, (joinB ⟨#[32]⟩ (ts.take i)).size ≤ 5060000400 := fun i => Nat.le_trans (joinB_size _ (by decide) _) (Nat.le_trans (sumB_take ts i) hsum)
    have hkz : ∀ i, (kid ts i).size ≤ 5060000400 := fun i => by have := sumB_kid ts i; omega
    have HSZ := hide hsz
    have HKZ := hide hkz
    have HK : Hid (∀ i (hi : i < ns[x].kids.length) (wx : World) (A : List UInt8), Below w1.heap.size w1 wx → Tw w1.heap.size w1.heap.size A wx → A.length ≤ 90000000000 → w1.heap.size ≤ wx.heap.size → Calls Tryd.prog 19 #[.pointer (some ⟨w1.heap.size, 0, none⟩), .pointer (some ⟨loc ns[x].kids[i].toNat, 0, none⟩)] wx (TwP w1.heap.size w1.heap.size A (kid ts i) wx)) := hide (fun i hi wx A hbx hTx hlA hwx => by
      obtain ⟨lj, dj, vj, hlj, hdj, hj0, hll⟩ := v1.at (List.getElem?_eq_getElem hi)
      obtain ⟨ti, hti, hgi, _, _⟩ := hts.at hi
      have hkid : kid ts i = ti := by
        have hi' : i < ts.length := by omega
        rw [kid_at hi']
        rw [List.getElem?_eq_getElem hi'] at hgi
        exact Option.some.inj hgi
      obtain ⟨ng, hng, _, hgk⟩ := unhide HGD x hrn
      rw [hr'] at hng
      obtain rfl := Option.some.inj hng
      obtain ⟨mk, _, hmk, htk⟩ := hgk i ns[x].kids[i] (List.getElem?_eq_getElem hi)
      rw [hk18] at htk
      have h11 := takes_stat htk
      have hj1 : ((ns[x].kids[i].toNat : Nat) : Int) = ns[x].kids[i] := Int.toNat_of_nonneg hj0
      have hz := unhide HKZ i
      rw [hkid] at hz ⊢
      exact (twStat_any ns (x : Int) L loc l w1.heap.size w1.heap.size w1 HS HPR HGD (hide (fun n wy h0 h1 hy => unhide HIT n wy h0 h1 (nx_trans (unhide hB) hy))) HFB (hide (fun y nd wy hy hb => unhide HJN (unhide HPR) y nd wy hy (nx_trans (unhide hB) hb))) dj dj ns[x].kids[i].toNat lj ti A wx (Nat.le_refl _) (by rw [hj1]; exact vj) (fun y hy => hlx y (by rw [List.mem_cons, List.mem_append]; exact .inr (.inl (hlj y hy)))) (by rw [hj1]; exact hti) (by omega) (by omega) hTx ((unhide HBR).keep hbx) hbx hwx).2 (fun m2 hm2 => by
        rw [hmk] at hm2
        obtain rfl := Option.some.inj hm2
        exact h11))
    have HPT := hide hP
    have HTF := hide (Tw.fresh w1)
    have hgw : ¬ loc x = w1.heap.size := by omega
    clear hT hG hr hr' hr0 hrl hlx vx v1 v2 hts hP c0 c1 c2 c3 c4 c5 hsz hkz HBR HGD HPR hl200 hk18 HJN HIT
    generalize ns[x].kids = ks at c7 HK HPT htsl hkl
    generalize loc x = gx at c7 hgx hgw
    have e7 : (w1.alloc (.cells #[.pointer none, .slice none 0 0] 54)).cell? ⟨gx, 7, none⟩ = some (.slice pb ks.length cb) := cell_later (nx_alloc _ _) c7
    go_wp2
    go_loopw [22] (fun i wx => ∃ m : Nat, m ≤ ks.length ∧ i = .int .i64 m ∧ Hid (Tw w1.heap.size w1.heap.size (joinB ⟨#[32]⟩ (ts.take m)).data.toList wx) ∧ Hid (Below w1.heap.size w1 wx)) (fun i _ => ks.length - (intOf i).toNat)
    case atStart => exact ⟨0, by omega, rfl, hide (by simpa [joinB] using unhide HTF), hide (nx_alloc _ _)⟩
    case round =>
      clear HTF e7 c7
      obtain ⟨m, hm, rfl, hTm, hBm⟩ := hrel
      have hsm : w1.heap.size ≤ wr.heap.size := (unhide hBm).size
      have hjl : (joinB ⟨#[32]⟩ (ts.take m)).data.toList.length ≤ 5060000400 := by rw [toL_len]; exact unhide HSZ m
      by_cases hlt : m < ks.length
      · obtain ⟨bp, hpb, hbp, y9⟩ := unhide HPT m (by rw [List.length_map]; exact hlt)
        subst hpb
        rw [List.getElem_map] at y9
        have y0 := cellB (unhide hBm) hbp y9
        have hmt : m < ts.length := by omega
        by_cases h0 : m = 0
        · have HQ : Hid ((joinB ⟨#[32]⟩ (ts.take m)).data.toList ++ (kid ts m).data.toList = (joinB ⟨#[32]⟩ (ts.take (m + 1))).data.toList) := hide (by
            subst h0
            rw [join_first hmt, kid_at hmt]
            simp [joinB])
          have HK0 := hide (unhide HK m hlt wr _ (unhide hBm) (unhide hTm) (by omega) hsm)
          have e0 : ¬ (0 : Int) < (m : Int) := by omega
          clear h0 y9
          generalize loc ks[m].toNat = gk at y0 HK0
          go_wp2_with fail
          refine (unhide HK0).mono ?_
          rintro e w2 ⟨rfl, hT2, hb2⟩
          have HT2 : Hid (Tw w1.heap.size w1.heap.size (joinB ⟨#[32]⟩ (ts.take (m + 1))).data.toList w2) := hide (by rw [← unhide HQ]; exact hT2)
          have HB2 := hide ((unhide hBm).trans hb2)
          clear hT2 hb2 HK0 y0
          go_wp2
          go_roundw
          case rel => exact ⟨m + 1, by omega, by go_num, hide (unhide HT2), hide (unhide HB2)⟩
          case measure => simp [intOf]; omega
        · have HQ : Hid ((joinB ⟨#[32]⟩ (ts.take m)).data.toList ++ flatB [⟨#[32]⟩] ++ (kid ts m).data.toList = (joinB ⟨#[32]⟩ (ts.take (m + 1))).data.toList) := hide (by
            rw [join_next hmt (by omega), kid_at hmt, toL_app, toL_app]
            simp [flatB])
          have e0 : (0 : Int) < (m : Int) := by omega
          have HKm := hide (fun wx A => unhide HK m hlt wx A)
          clear h0 y9
          generalize loc ks[m].toNat = gk at y0 HKm
          go_wp2_with fail
          refine (twPut1 w1.heap.size w1.heap.size _ ⟨#[32]⟩ wr (unhide hTm) (by omega) (by decide) hsm).mono ?_
          rintro e w2 ⟨rfl, hT2, hb2⟩
          have HT2 := hide hT2
          have HB2 := hide ((unhide hBm).trans hb2)
          have hs2 : w1.heap.size ≤ w2.heap.size := Nat.le_trans hsm hb2.size
          have HK0 := hide (unhide HKm w2 _ (unhide HB2) (unhide HT2) (by
            have hf2 : (flatB [(⟨#[32]⟩ : ByteArray)]).length = 1 := rfl
            rw [List.length_append, hf2]
            omega) hs2)
          clear hT2 hb2 HKm y0
          go_wp2_with fail
          refine (unhide HK0).mono ?_
          rintro e w3 ⟨rfl, hT3, hb3⟩
          have HT3 : Hid (Tw w1.heap.size w1.heap.size (joinB ⟨#[32]⟩ (ts.take (m + 1))).data.toList w3) := hide (by rw [← unhide HQ]; exact hT3)
          have HB3 := hide ((unhide HB2).trans hb3)
          clear hT3 hb3 HK0 HT2
          go_wp2
          go_roundw
          case rel => exact ⟨m + 1, by omega, by go_num, hide (unhide HT3), hide (unhide HB3)⟩
          case measure => simp [intOf]; omega
      · have HE : Hid (Tw w1.heap.size w1.heap.size (joinB ⟨#[32]⟩ ts).data.toList wr) := hide (by
          have := unhide hTm
          rw [List.take_of_length_le (by omega)] at this
          exact this)
        have HBA := hide (nx_trans (unhide hB) (unhide hBm))
        have HST : Hid (Calls Tryd.prog 20 #[.pointer (some ⟨w1.heap.size, 0, none⟩)] wr fun e w' => e = .returned (.string (joinB ⟨#[32]⟩ ts)) ∧ Below w1.heap.size wr w') := hide (by
          have := twString_any w1.heap.size w1.heap.size _ wr (unhide HE) hsm
          simpa using this)
        generalize joinB ⟨#[32]⟩ ts = jj at HST hD
        go_wp2_with fail
        refine (unhide HST).mono ?_
        rintro e w2 ⟨rfl, hb2⟩
        have HB2 := hide ((unhide hB).trans (((unhide hBm).trans hb2).mono (unhide hB).size))
        clear hb2
        go_wp2
        go_ret2
        exact ⟨_, 0, rfl, unhide hD, unhide HB2⟩

set_option maxHeartbeats 2000000 in
set_option maxRecDepth 100000 in
theorem lawTreeText_any (L : Lay) (ns : List TN) (root : Int) (w : World) (hN : NodesAt w L ns) (hw : Wide ns) (htab : Hid (TabAt w 1 srcWords))
    (HIT : Hid (∀ (n : Int) (wx : World), 0 ≤ n → n ≤ 2147483647 → Below w.heap.size w wx → Calls Tryd.prog 46 #[.int .i64 n] wx fun e w' => e = .returned (.string ⟨(Lib.itoa n).toArray⟩) ∧ Below wx.heap.size wx w'))
    (HFB : Hid (∀ (v : Bool) (wx : World), Calls Tryd.prog 49 #[.bool v] wx fun e w' => e = .returned (.string (if v = true then ⟨#[116, 114, 117, 101]⟩ else ⟨#[102, 97, 108, 115, 101]⟩)) ∧ w' = wx))
    (HJ0 : Hid (∀ (p : Option Addr) (zs : List ByteArray) (wx : World), (∃ g, p = some ⟨g, 0, none⟩ ∧ g < wx.heap.size) → StrsAt wx p zs → zs.length ≤ 1048576 → (∀ z ∈ zs, z.size ≤ 20) → Calls Tryd.prog 36 #[.slice p zs.length zs.length, .string ⟨#[44, 32]⟩] wx fun e w' => e = .returned (.string (joinB ⟨#[44, 32]⟩ zs)) ∧ Below wx.heap.size wx w')) :
    Calls Tryd.prog 3 #[.agg #[.slice L.p ns.length L.cap, .int .i64 root]] w fun e w' => e = .returned (.bool true) ∧ Below w.heap.size w w' := by
  have HN := hide hN
  have HW := hide hw
  clear hN hw
  go_enter Tryd.func3, Tryd.ntmps3
  go_wp2_with fail
  refine (szTree_any L ns L.cap root _ ((unhide HN).later (nx_alloc _ _)) (unhide HW)).mono ?_
  rintro e w1 ⟨r, rfl, hr, hb1⟩
  have hB1 := hide (nx_trans (nx_alloc _ _) hb1)
  rcases hr with hr | ⟨hr0, hs⟩
  · go_wp2
    go_ret
    exact ⟨rfl, unhide hB1⟩
  have HS := hide hs
  have c1 : ∀ o, w1.cell? ⟨w.heap.size, o, none⟩ = (w.alloc (.cells #[.slice L.p ns.length L.cap, .int .i64 root] 24)).cell? ⟨w.heap.size, o, none⟩ := fun o => hb1.cell (p := ⟨w.heap.size, o, none⟩) (by simp)
  have d0 : w1.cell? ⟨w.heap.size, 0, none⟩ = some (.slice L.p ns.length L.cap) := by rw [c1]; simp
  have d1 : w1.cell? ⟨w.heap.size, 1, none⟩ = some (.int .i64 root) := by rw [c1]; simp
  clear hs hb1 c1
  go_wp2_with fail
  refine (toTree_any L ns L.cap root w1 ((unhide HN).later (unhide hB1)) (unhide HS)).mono ?_
  rintro e w2 ⟨L2, rfl, hM2, hb2⟩
  have hB2 := hide (nx_trans (unhide hB1) hb2)
  have e0 := cell_later hb2 d0
  have e1 := cell_later hb2 d1
  have HM2 := hide hM2
  clear d0 d1 hb2 hM2
  go_wp2_with fail
  refine (specTreeText_any ns root L2 w2 (unhide HM2).nodes (unhide HS)).mono ?_
  rintro e w3 ⟨ra, ca, rfl, hra, hb3⟩
  have hB3 := hide (nx_trans (unhide hB2) hb3)
  have d0 := cell_later hb3 e0
  have d1 := cell_later hb3 e1
  have HRA := hide hra
  clear e0 e1 hb3 hra HM2
  go_wp2_with fail
  refine (toTree_any L ns L.cap root w3 ((unhide HN).later (unhide hB3)) (unhide HS)).mono ?_
  rintro e w4 ⟨L4, rfl, hM4, hb4⟩
  have hB4 := hide (nx_trans (unhide hB3) hb4)
  have e0 := cell_later hb4 d0
  have e1 := cell_later hb4 d1
  have HM4 := hide hM4
  clear d0 d1 hb4 hM4
  go_wp2_with fail
  refine (implTreeText_any ns root L4 _ ((unhide HM4).nodes.later (nx_alloc _ _)) (unhide HS) (hide ((unhide htab).later (nx_al (unhide hB4)))) (hide (fun n wx h0 h1 hb => unhide HIT n wx h0 h1 (nx_trans (nx_al (unhide hB4)) hb))) HFB (hide (fun hpr x nd wx hx hb => by
    have hxl : x < ns.length := (List.getElem?_eq_some_iff.1 hx).1
    obtain ⟨bn, off, hp, _, _, _, _, _, q5, _⟩ := ((unhide HM4).nodes.later (nx_alloc _ _)).later hb x hxl
    have hnd : ns[x] = nd := (List.getElem?_eq_some_iff.1 hx).2
    rw [hnd] at q5
    obtain ⟨g1, g2, hg1, _, hg3, _⟩ := (unhide HM4).parts x hxl
    have hfit := (hpr nd (List.mem_of_getElem? hx)).fits
    have hws := hb.size
    rw [(unhide HM4).caps x nd hx]
    exact unhide HJ0 _ nd.names wx ⟨g1, hg1, by simp at hws; omega⟩ q5 hfit.2.1 hfit.2.2.1))).mono ?_
  rintro e w5 ⟨rb, cb, rfl, hrb, hb5⟩
  obtain ⟨rfl, rfl⟩ := hrb.det (unhide HRA)
  have hB5 := hide (nx_trans (nx_al (unhide hB4)) hb5)
  have d0 := cell_later hb5 (cell_later (nx_alloc w4 (.cells #[.slice L4.p ns.length L4.cap, .int .i64 root] 30)) e0)
  have d1 := cell_later hb5 (cell_later (nx_alloc w4 (.cells #[.slice L4.p ns.length L4.cap, .int .i64 root] 30)) e1)
  have x0 : w5.cell? ⟨w4.heap.size, 0, none⟩ = some (.slice L4.p ns.length L4.cap) := cell_later hb5 (by simp)
  have x1 : w5.cell? ⟨w4.heap.size, 1, none⟩ = some (.int .i64 root) := cell_later hb5 (by simp)
  have HM5 := hide (((unhide HM4).nodes.later (nx_alloc _ _)).later hb5)
  clear e0 e1 hb5 hrb HM4 HRA
  have HX0 := hide (show w5.drew.cell? ⟨w4.heap.size, 0, none⟩ = some (.slice L4.p ns.length L4.cap) from x0)
  have HX1 := hide (show w5.drew.cell? ⟨w4.heap.size, 1, none⟩ = some (.int .i64 root) from x1)
  have HM6 := hide ((unhide HM5).later (Below.refl _ _).drew)
  have HN6 := hide ((unhide HN).later (unhide hB5).drew)
  have q1 := ba_self rb
  have q2 : (cb != cb) = false := by simp
  have q3 := bl_self rb
  have q4 : (cb == cb) = true := by simp
  go_wp2
  go_region_with (first | (go_at_call 7; refine (toTree_any L ns L.cap root w5.drew (unhide HN6) (unhide HS)).mono ?_; rintro e y ⟨L6, rfl, hM6, hby⟩; have y0 := cell_later hby (unhide HX0); have y1 := cell_later hby (unhide HX1); have HMY := hide hM6; have HBY := hide hby; clear hM6 hby) | (go_at_call 9; refine (eqTree_same L4 L6 ns L4.cap L6.cap root y ((unhide HM6).later (unhide HBY)) (unhide HMY).nodes (unhide HS)).mono ?_; rintro e z ⟨rfl, hbz⟩))
  all_goals go_wp2
  all_goals go_ret
  all_goals exact ⟨rfl, nx_trans (nx_trans (nx_drew (unhide hB5)) (unhide HBY)) hbz⟩

end Go.Proofs.YtoehpjignngjlaaDoor
