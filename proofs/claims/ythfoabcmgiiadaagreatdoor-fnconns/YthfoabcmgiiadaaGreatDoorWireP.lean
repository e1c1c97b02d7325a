/- Requests that are drawn: read back, cut, and their line: by reckoning. -/
import Derived.Test.YthfoabcmgiiadaaGreatDoorWireW3
import Derived.Test.YthfoabcmgiiadaaGreatDoorWireL3
namespace Go.Proofs.YthfoabcmgiiadaaGreatDoor
set_option linter.unusedVariables false

def wirePaths : List (List UInt8) := [[47, 111, 110, 101], [47, 111, 110, 101, 47, 97], [47, 116, 119, 111, 47, 120, 47, 121], [47, 116, 119, 111], [47, 98, 97, 100, 47, 120], [47, 110, 111, 110, 101], [47], [47, 115, 112, 105, 110], [47, 111, 110, 101, 47]]
def wireP (j : Nat) : ByteArray := ⟨(wirePaths.getD j []).toArray⟩
def hostS : ByteArray := ⟨#[72, 79, 83, 84]⟩
def edgeS : ByteArray := ⟨#[101, 100, 103, 101]⟩
def restS : ByteArray := ⟨#[114, 101, 115, 116]⟩
/-- what holds of every request that is drawn -/
def wireGood (p : ByteArray) (c : Bool) : Bool :=
  wpathB p && decide ((reqT c p).size ≤ 120) && decide (4 ≤ (reqT c p).size) && decide (Lib.indexB (reqT c p ++ restS) crlf2S + 4 = (reqT c p).size) &&
  decide ((reqR (reqT c p ++ restS)).p = p) && decide ((reqR (reqT c p ++ restS)).c = c) && decide ((reqR (reqT c p ++ restS)).n = (reqT c p).size) && decide ((reqR (reqT c p ++ restS)).e = 0) &&
  decide ((hdrR (reqT c p) hostS).1 = edgeS) && decide ((hdrR (reqT c p) hostS).2 = 0)
theorem wire_y : ((List.range 9).all fun j => wireGood (wireP j) true) = true := by kernel_rfl
theorem wire_n : ((List.range 9).all fun j => wireGood (wireP j) false) = true := by kernel_rfl
/-- cut anywhere ahead of its end, more is waited for -/
theorem cut_more {t r : ByteArray} (hz : t.size ≤ 120) (hi : Lib.indexB (t ++ r) crlf2S + 4 = t.size) {k : Nat} (hk : k < t.size) : reqR (t.extract 0 k) = RR.bad 18 := by
  have hzk : (t.extract 0 k).size = k := by rw [ByteArray.size_extract]; omega
  refine reqR_more (by omega) ?_ (by omega)
  refine Lib.index_none fun j hj => ?_
  cases ho : Lib.occAt (t.extract 0 k).data.toList crlf2S.data.toList j with
  | false => rfl
  | true =>
    have hc4 : crlf2S.data.toList.length = 4 := rfl
    have hroom : j + 4 ≤ k := by
      rcases Lib.occAt_room ho with h | h
      · rw [hc4, ← Lib.size_eq, hzk] at h; exact h
      · exact absurd h (by decide)
    have hocc : Lib.occAt (t ++ r).data.toList crlf2S.data.toList j = true := by
      unfold Lib.occAt at ho ⊢
      rw [List.isPrefixOf_iff_prefix] at ho ⊢
      refine ho.trans ?_
      rw [Lib.extract_upto]
      show List.drop j (List.take k t.data.toList) <+: List.drop j (t ++ r).data.toList
      rw [ByteArray.data_append, Array.toList_append, List.drop_take]
      rw [List.drop_append_of_le_length (by rw [dataLen]; omega)]
      exact (List.take_prefix _ _).trans (List.prefix_append _ _)
    rcases Lib.index_spec (t ++ r).data.toList crlf2S.data.toList with ⟨h1, h2⟩ | ⟨i, h1, _, _, h4⟩
    · have : Lib.indexB (t ++ r) crlf2S = -1 := h1
      omega
    · have : Lib.indexB (t ++ r) crlf2S = (i : Int) := h1
      have := h4 j (by omega)
      rw [this] at hocc
      cases hocc
structure WireFacts (p : ByteArray) (c : Bool) : Prop where
  path : wpathB p = true
  small : (reqT c p).size ≤ 120
  big : 4 ≤ (reqT c p).size
  back : reqR (reqT c p ++ restS) = ⟨p, c, (reqT c p).size, 0⟩
  more : ∀ k, k < (reqT c p).size → reqR ((reqT c p).extract 0 k) = RR.bad 18
  host : hdrR (reqT c p) hostS = (edgeS, 0)
theorem wire_facts (j : Nat) (hj : j < 9) (c : Bool) : WireFacts (wireP j) c := by
  have h : wireGood (wireP j) c = true := by
    cases c
    · exact List.all_eq_true.1 wire_n j (List.mem_range.2 hj)
    · exact List.all_eq_true.1 wire_y j (List.mem_range.2 hj)
  unfold wireGood at h
  simp only [Bool.and_eq_true, decide_eq_true_iff] at h
  obtain ⟨⟨⟨⟨⟨⟨⟨⟨⟨h1, h2⟩, h3⟩, h4⟩, h5⟩, h6⟩, h7⟩, h8⟩, h9⟩, h10⟩ := h
  refine ⟨h1, h2, h3, ?_, fun k hk => cut_more h2 h4 hk, Prod.ext h9 h10⟩
  cases hr : reqR (reqT c (wireP j) ++ restS) with
  | mk a b d e =>
    rw [hr] at h5 h6 h7 h8
    simp only at h5 h6 h7 h8
    rw [h5, h6, h7, h8]

end Go.Proofs.YthfoabcmgiiadaaGreatDoor
