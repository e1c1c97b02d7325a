/- Requests written; paths split: code and specification; their laws. -/
import Derived.Test.YthfoabcmgiiadaaGreatDoorWireMem
import Derived.Test.YthfoabcmgiiadaaGreatDoorShelf
import Derived.Deep.RegionWith
namespace Go.Proofs.YthfoabcmgiiadaaGreatDoor
open Go.RowKit Go.Shelf
set_option linter.unusedVariables false

theorem builderW : Builder.Extra Tryz.prog Tryz.lays156_ren := {
  sizeBuilder := by kernel_rfl
  liesBuilder := by kernel_rfl
  t5 := Tryz.underlying5
  a5 := Tryz.isAgg5
  z5 := Tryz.sizeOf5
  v5 := Tryz.zeroValue5
  infoByte := by kernel_rfl
  cellsByte := by kernel_rfl
  sizeByte := by kernel_rfl
  neB5 := by decide }

def closeLn : ByteArray := ⟨#[67, 111, 110, 110, 101, 99, 116, 105, 111, 110, 58, 32, 99, 108, 111, 115, 101]⟩
/-- the lines of a head, each ended, and the empty one -/
def headT (c : Bool) (a b : ByteArray) : ByteArray := if c = true then a ++ crlfS ++ b ++ crlfS ++ closeLn ++ crlfS ++ crlfS else a ++ crlfS ++ b ++ crlfS ++ crlfS
theorem join2 (a b : ByteArray) : (⟨(Lib.join ([a, b].map (·.data.toList)) [13, 10]).toArray⟩ : ByteArray) = a ++ crlfS ++ b := by
  apply ByteArray.ext
  simp [Lib.join, crlfS]
theorem join3 (a b c : ByteArray) : (⟨(Lib.join ([a, b, c].map (·.data.toList)) [13, 10]).toArray⟩ : ByteArray) = a ++ crlfS ++ b ++ crlfS ++ c := by
  apply ByteArray.ext
  simp [Lib.join, crlfS]

set_option maxHeartbeats 1000000 in
theorem headText_any (c : Bool) (a b : ByteArray) (base g cap : Nat) (w : World) (hT : Txt w base (.slice (some ⟨g, 0, none⟩) 2 cap) [a, b]) (hbase : base ≤ w.heap.size) (hg : base ≤ g) (ha : a.size ≤ 1000000) (hb : b.size ≤ 1000000) :
    Calls Tryz.prog 96 #[.bool c, .slice (some ⟨g, 0, none⟩) 2 cap] w fun e w' => e = .returned (.string (headT c a b)) ∧ Below base w w' := by
  have HT := hide hT
  clear hT
  have h1 : a.data.size ≤ 1000000 := ha
  have h2 : b.data.size ≤ 1000000 := hb
  cases c
  · obtain ⟨g', cap', e, hg', hgl, hcap⟩ := (unhide HT).opened (by simp)
    obtain ⟨rfl, rfl⟩ : g' = g ∧ cap' = cap := by simp at e; exact ⟨e.1.symm, e.2.symm⟩
    have hj := Any.strings_Join Tryz.lays156 builderW g' 0 cap' [a, b] ⟨#[13, 10]⟩ w (fun j x hx => by
      obtain ⟨hjl, rfl⟩ := List.getElem?_eq_some_iff.1 hx
      rw [Nat.zero_add]
      exact (unhide HT).get j hjl) hgl (by simp) hcap (by simp [Lib.join]; omega)
    rw [join2] at hj
    have HJ := hide hj
    clear hj e h1 h2
    go_enter Tryz.func96, Tryz.ntmps96
    go_wp2_with fail
    refine (unhide HJ).mono ?_
    rintro e w1 ⟨rfl, hb1⟩
    have hz : (a ++ crlfS ++ b : ByteArray).size ≤ 2000002 := by simp [ByteArray.size_append]; have : crlfS.size = 2 := rfl; omega
    generalize hgn : a ++ crlfS ++ b = J at hz
    have HG := hide hgn
    clear hgn
    go_wp2
    go_ret
    refine ⟨?_, hb1.mono hbase⟩
    unfold headT
    rw [if_neg (by simp), unhide HG]
    rfl
  · go_enter Tryz.func96, Tryz.ntmps96
    go_wp2_with (at_builtin; refine wp_appTxt _ rfl _ _ rfl base w.heap.size _ [a, b] closeLn rfl ((unhide HT).alloc _) rfl (by simp [closeLn]) ?c5 ?c3 ?c6)
    case c5 => simp; omega
    case c3 => simp
    case c6 =>
      intro v2 w2 hT2 hb2
      obtain ⟨g2, cap2, rfl, hg2, hgl2, hcap2⟩ := hT2.opened (by simp)
      have hbw : Below base w w2 := (((Below.refl _ _).alloc hbase _).trans hb2)
      have hw2 : base ≤ w2.heap.size := Nat.le_trans hbase hbw.size
      have hj := Any.strings_Join Tryz.lays156 builderW g2 0 cap2 [a, b, closeLn] ⟨#[13, 10]⟩ w2 (fun j x hx => by
        obtain ⟨hjl, rfl⟩ := List.getElem?_eq_some_iff.1 hx
        rw [Nat.zero_add]
        exact hT2.get j hjl) hgl2 (by simp) hcap2 (by simp [Lib.join, closeLn]; omega)
      rw [join3] at hj
      have HJ := hide hj
      clear hj hT2 hb2 h1 h2
      go_wp2_with fail
      refine (unhide HJ).mono ?_
      rintro e w3 ⟨rfl, hb3⟩
      have hz : (a ++ crlfS ++ b ++ crlfS ++ closeLn : ByteArray).size ≤ 2000100 := by simp [ByteArray.size_append]; have : crlfS.size = 2 := rfl; have : closeLn.size = 17 := rfl; omega
      generalize hgn : a ++ crlfS ++ b ++ crlfS ++ closeLn = J at hz
      have HG := hide hgn
      clear hgn
      go_wp2
      go_ret
      refine ⟨?_, hbw.trans (hb3.mono hw2)⟩
      unfold headT
      rw [if_pos rfl, unhide HG]
      rfl

def getW : ByteArray := ⟨#[71, 69, 84, 32]⟩
def hostLn : ByteArray := ⟨#[72, 111, 115, 116, 58, 32, 101, 100, 103, 101]⟩
def reqT (c : Bool) (p : ByteArray) : ByteArray := headT c (getW ++ p ++ blankS ++ httpS) hostLn
def reqTR (p : ByteArray) (c : Bool) : ByteArray × Int := if wpathB p = true then (reqT c p, 0) else (⟨#[]⟩, 1)

set_option maxHeartbeats 1000000 in
theorem l08Text_any (p : ByteArray) (c : Bool) (w : World) (hp : p.size ≤ 1000) :
    Calls Tryz.prog 24 #[.agg #[.string p, .bool c]] w fun e w' => e = .returned (.string (reqT c p)) ∧ Below w.heap.size w w' := by
  have hA : Hid (∀ c, reqT c p = (if c = true then ⟨#[71, 69, 84, 32]⟩ ++ p ++ ⟨#[32, 72, 84, 84, 80, 47, 49, 46, 49, 13, 10, 72, 111, 115, 116, 58, 32, 101, 100, 103, 101, 13, 10]⟩ ++ ⟨#[67, 111, 110, 110, 101, 99, 116, 105, 111, 110, 58, 32, 99, 108, 111, 115, 101, 13, 10]⟩ ++ ⟨#[13, 10]⟩ else ⟨#[71, 69, 84, 32]⟩ ++ p ++ ⟨#[32, 72, 84, 84, 80, 47, 49, 46, 49, 13, 10, 72, 111, 115, 116, 58, 32, 101, 100, 103, 101, 13, 10]⟩ ++ ⟨#[13, 10]⟩)) := hide fun c => by
    apply ByteArray.ext
    cases c <;> simp [reqT, headT, getW, blankS, httpS, hostLn, crlfS, closeLn]
  cases c
  all_goals
    go_enter Tryz.func24, Tryz.ntmps24
    go_wp2
    go_ret
    exact ⟨by rw [unhide hA]; rfl, qx_alloc _ _⟩

set_option maxHeartbeats 1000000 in
theorem specRequestText_any (p : ByteArray) (c : Bool) (w : World) (hp : p.size ≤ maxLen) :
    Calls Tryz.prog 7 #[.agg #[.string p, .bool c]] w fun e w' => e = .returned (.tuple #[.string (reqTR p c).1, .int .i64 (reqTR p c).2]) ∧ Below w.heap.size w w' := by
  cases hv : wpathB p
  · have HR := hide (show reqTR p c = (⟨#[]⟩, 1) by unfold reqTR; rw [hv]; rfl)
    go_enter Tryz.func7, Tryz.ntmps7
    go_wp2_with fail
    refine (l08Path_any p _ hp).mono ?_
    rintro e w1 ⟨rfl, rfl⟩
    go_wp2
    go_ret2
    exact ⟨by rw [unhide HR]; rfl, qx_alloc _ _⟩
  · have HR := hide (show reqTR p c = (reqT c p, 0) by unfold reqTR; rw [hv]; rfl)
    have h40 := (wpathB_is hv).2
    go_enter Tryz.func7, Tryz.ntmps7
    go_wp2_with fail
    refine (l08Path_any p _ hp).mono ?_
    rintro e w1 ⟨rfl, rfl⟩
    go_wp2_with fail
    refine (l08Text_any p c _ (by omega)).mono ?_
    rintro e w1 ⟨rfl, hb1⟩
    go_wp2
    go_ret2
    exact ⟨by rw [unhide HR]; rfl, qx_trans (qx_alloc _ _) hb1⟩


/-- the first part of a path, and what is left -/
def splitPR (s : ByteArray) : ByteArray × ByteArray × Int :=
  if 65536 < s.size then (⟨#[]⟩, ⟨#[]⟩, 2) else if wpathB s = true then (cutA (s.extract 1 s.size) slashS, slashS ++ cutB (s.extract 1 s.size) slashS, 0) else (⟨#[]⟩, ⟨#[]⟩, 3)

theorem slash_cut (s : ByteArray) (h0 : 1 ≤ s.size) (k : Nat) (h : Lib.indexB (s.extract 1 s.size) slashS = (k : Int)) : k + 1 ≤ s.size ∧ 1 + k ≤ s.size ∧ cutA (s.extract 1 s.size) slashS = s.extract 1 (1 + k) ∧ slashS ++ cutB (s.extract 1 s.size) slashS = s.extract (1 + k) s.size := by
  have hz : (s.extract 1 s.size).size = s.size - 1 := by rw [ByteArray.size_extract]; omega
  have hroom : k + 1 ≤ s.size - 1 := by
    rcases Lib.indexB_cases (s.extract 1 s.size) slashS with h' | ⟨i, h', hr⟩
    · rw [h'] at h; omega
    · rw [h'] at h
      have : slashS.size = 1 := rfl
      omega
  obtain ⟨ha, hb, _⟩ := cut_hit h
  have hocc : Lib.occAt (s.extract 1 s.size).data.toList slashS.data.toList k = true := by
    rcases Lib.index_spec (s.extract 1 s.size).data.toList slashS.data.toList with ⟨h1, _⟩ | ⟨i, h1, _, h3, _⟩
    · have : Lib.indexB (s.extract 1 s.size) slashS = -1 := h1
      omega
    · have : Lib.indexB (s.extract 1 s.size) slashS = (i : Int) := h1
      obtain rfl : i = k := by omega
      exact h3
  have hq := (occ_eq (s.extract 1 s.size) slashS k (by rw [hz]; exact hroom)).2 hocc
  refine ⟨by omega, by omega, ?_, ?_⟩
  · rw [ha, ByteArray.extract_extract]
    congr 1
    omega
  · rw [hb]
    conv => lhs; lhs; rw [← hq]
    apply qa_list
    have eS : (s.extract 1 s.size).data.toList = s.data.toList.drop 1 := by rw [Lib.extract_from]
    have e1 : slashS.size = 1 := rfl
    rw [ByteArray.data_append, Array.toList_append, Lib.extract_from (s.extract 1 s.size), Lib.extract_eq (s.extract 1 s.size), eS, e1, Lib.extract_from s]
    simp only [List.drop_drop]
    rw [show k + 1 - k = 1 by omega, show 1 + (k + 1) = 1 + k + 1 by omega, ← List.drop_drop (i := 1) (j := 1 + k)]
    exact List.take_append_drop 1 _

theorem splitPR_hit {s : ByteArray} (h0 : ¬ 65536 < s.size) (hv : wpathB s = true) (k : Nat) (h : Lib.indexB (s.extract 1 s.size) slashS = (k : Int)) : splitPR s = (s.extract 1 (1 + k), s.extract (1 + k) s.size, 0) := by
  obtain ⟨_, _, h3, h4⟩ := slash_cut s (wpathB_is hv).1 k h
  unfold splitPR
  rw [if_neg h0, if_pos hv, h3, h4]
theorem splitPR_miss {s : ByteArray} (h0 : ¬ 65536 < s.size) (hv : wpathB s = true) (h : Lib.indexB (s.extract 1 s.size) slashS = -1) : splitPR s = (s.extract 1 s.size, slashS, 0) := by
  obtain ⟨h3, h4, _⟩ := cut_miss h
  unfold splitPR
  rw [if_neg h0, if_pos hv, h3, h4]
  rfl
theorem splitPR_bad {s : ByteArray} (h0 : ¬ 65536 < s.size) (hv : wpathB s = false) : splitPR s = (⟨#[]⟩, ⟨#[]⟩, 3) := by
  unfold splitPR
  rw [if_neg h0, hv]
  rfl
theorem splitPR_long {s : ByteArray} (h0 : 65536 < s.size) : splitPR s = (⟨#[]⟩, ⟨#[]⟩, 2) := if_pos h0



theorem strClone_any (s : ByteArray) (w : World) (hs : s.size ≤ 1000000) :
    Calls Tryz.prog 44 #[.string s] w fun e w' => e = .returned (.string s) ∧ Below w.heap.size w w' := by
  have HC := hide fun w => Any.stringslite_Clone Tryz.laysM316 s w (by omega)
  go_enter Tryz.func44, Tryz.ntmps44
  go_wp2_with fail
  refine (unhide HC _).mono ?_
  rintro e w1 ⟨rfl, hb1⟩
  go_wp2
  go_ret
  exact ⟨rfl, hb1⟩

theorem strCut_any (s sep : ByteArray) (w : World) (hs : s.size ≤ 1000000) (hm : MaxL w) :
    Calls Tryz.prog 88 #[.string s, .string sep] w fun e w' => e = .returned (.tuple #[.string (cutA s sep), .string (cutB s sep), .bool (cutF s sep)]) ∧ Below w.heap.size w w' := by
  obtain ⟨m, hm⟩ := hm
  refine (Any.strings_Cut Tryz.lays145 s sep m w (by omega) hm).mono ?_
  rintro e w1 ⟨rfl, n, rfl⟩
  exact ⟨rfl, qx_drewN (Below.refl _ _)⟩





end Go.Proofs.YthfoabcmgiiadaaGreatDoor
