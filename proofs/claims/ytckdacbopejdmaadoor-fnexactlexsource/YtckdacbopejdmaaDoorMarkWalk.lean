/- Lists of tokens that are marked, and still hold their marks. -/
import Derived.Test.YtckdacbopejdmaaDoorLexWalk4
namespace Go.Proofs.YtckdacbopejdmaaDoor
open Go.RowKit Go.Joins
set_option linter.unusedVariables false

theorem ret_s {a b : ByteArray} (h : a = b) : Ending.returned (.string a) = .returned (.string b) := by rw [h]
/-- the text of mark k -/
def mkT (k : Nat) : ByteArray := ⟨(109 :: Lib.decDigits k).toArray⟩
/-- so far: what is left, and the digits made -/
def MarkAt (k n : Nat) (o : ByteArray) : Prop := (n = 0 → o.data.toList = Lib.decDigits k) ∧ (0 < n → Lib.decDigits n ++ o.data.toList = Lib.decDigits k) ∧ o.size ≤ 10
theorem mark_next {k n : Nat} {o : ByteArray} (hk : k ≤ 2000) (h : MarkAt k n o) (h0 : 0 < n) : MarkAt k (n / 10) (⟨#[UInt8.ofNat (48 + n % 10)]⟩ ++ o) := by
  have h1 := h.2.1 h0
  have hl : (Lib.decDigits k).length ≤ 4 := dec_len 3 k (by omega)
  have e : (⟨#[UInt8.ofNat (48 + n % 10)]⟩ ++ o : ByteArray).data.toList = UInt8.ofNat (48 + n % 10) :: o.data.toList := by simp
  have hsz : (⟨#[UInt8.ofNat (48 + n % 10)]⟩ ++ o : ByteArray).size = 1 + o.size := by rw [ByteArray.size_append]; rfl
  have ho := size_list o
  have hlen := congrArg List.length h1
  rw [List.length_append, ho] at hlen
  by_cases h10 : n < 10
  · have hd : Lib.decDigits n = [UInt8.ofNat (48 + n % 10)] := by rw [dec_small h10, Nat.mod_eq_of_lt h10]
    refine ⟨fun _ => ?_, fun h => by omega, by omega⟩
    rw [e, ← h1, hd]; rfl
  · have hd := dec_great h10
    refine ⟨fun h => by omega, fun _ => ?_, ?_⟩
    · rw [e, ← h1, hd, List.append_assoc]; rfl
    · have : (Lib.decDigits n).length = (Lib.decDigits (n / 10)).length + 1 := by rw [hd]; simp
      omega
theorem mark_done {k : Nat} {o : ByteArray} (h : MarkAt k 0 o) : (⟨#[109]⟩ ++ o : ByteArray) = mkT k := by
  have := h.1 rfl
  unfold mkT
  rw [← this]
  apply ByteArray.ext
  simp

set_option maxHeartbeats 2000000 in
set_option maxRecDepth 100000 in
theorem markText_any (z : Int) (w : World) (h0 : 1 ≤ z) (h1 : z ≤ 2000) :
    Calls Tryd.prog 60 #[.int .i64 z] w fun e w' => e = .returned (.string (mkT z.toNat)) ∧ Below w.heap.size w w' := by
  have hz : ¬ z ≤ 0 := by omega
  have hk : Hid (z.toNat ≤ 2000) := hide (by omega)
  have hst : Hid (MarkAt z.toNat z.toNat ⟨#[]⟩) := hide ⟨fun h => by omega, fun _ => by simp, by decide⟩
  go_enter Tryd.func60, Tryd.ntmps60
  go_wp2
  go_loopw [0, 3] (fun m o wx => ∃ (n : Nat) (t : ByteArray), n ≤ 2000 ∧ m = .int .i64 (n : Int) ∧ o = .string t ∧ Hid (MarkAt z.toNat n t) ∧ Below w.heap.size w wx) (fun m _ _ => (intOf m).toNat)
  case atStart => exact ⟨z.toNat, ⟨#[]⟩, by omega, by rw [Int.toNat_of_nonneg (by omega)], rfl, hide (unhide hst), Below.refl _ _⟩
  case round =>
    clear hst hz
    obtain ⟨n, t, hn, rfl, rfl, hin, hnx⟩ := hrel
    have hts : t.size ≤ 10 := (unhide hin).2.2
    by_cases hp : 0 < n
    · have hp' : (0 : Int) < (n : Int) := by omega
      have hd := hide (mark_next (unhide hk) (unhide hin) hp)
      obtain ⟨r, hr⟩ : ∃ r, r = n % 10 := ⟨_, rfl⟩
      obtain ⟨q, hq⟩ : ∃ q, q = n / 10 := ⟨_, rfl⟩
      rw [← hr, ← hq] at hd
      have hr9 : r ≤ 9 := by omega
      have hqn : q < n := by omega
      have hrm : (n : Int).tmod 10 = (r : Int) := by rw [Int.tmod_eq_emod_of_nonneg (by omega)]; omega
      have hqd : (n : Int).tdiv 10 = (q : Int) := by rw [Int.tdiv_eq_ediv_of_nonneg (by omega)]; omega
      have hw2 : IntKind.u8.wrap (48 + (r : Int)) = 48 + (r : Int) := by unfold IntKind.wrap; simp [IntKind.bits, IntKind.signed]; omega
      have hcv : ∀ u : World, (convert 22 9 (.slice (some ⟨u.heap.size, 0, none⟩) 1 1)).run Tryd.prog (u.alloc (.cells #[.int .u8 (48 + (r : Int))] 5)) = .ok (.string ⟨#[UInt8.ofNat (48 + r)]⟩) (u.alloc (.cells #[.int .u8 (48 + (r : Int))] 5)) := fun u => by
        rw [conv_new u (48 + (r : Int)) (by omega) (by omega), show (48 + (r : Int)).toNat = 48 + r by omega]
      have hzz : (⟨#[UInt8.ofNat (48 + r)]⟩ : ByteArray).size = 1 := rfl
      generalize (⟨#[UInt8.ofNat (48 + r)]⟩ : ByteArray) = D at hd hcv hzz
      clear hr hq
      go_wp2
      go_roundw
      case rel => exact ⟨q, _, by omega, rfl, rfl, hide (unhide hd), nx_al hnx⟩
      case measure => simp [intOf]; omega
    · have hp' : ¬ (0 : Int) < (n : Int) := by omega
      obtain rfl : n = 0 := by omega
      have hd := hide (mark_done (unhide hin))
      have hzz : (⟨#[109]⟩ : ByteArray).size = 1 := rfl
      go_wp2
      go_ret
      exact ⟨ret_s (unhide hd), hnx⟩

/-- mark i of a list -/
def markV (i : Nat) : V3 := ⟨1 + 3 * (i : Int), 1 + 3 * (i : Int) + 1, mkT (1 + 3 * (i : Int) + 1 + 1).toNat⟩
def markL (n : Nat) : List V3 := (List.range n).map markV
theorem markL_len (n : Nat) : (markL n).length = n := by simp [markL]
theorem markL_get (n i : Nat) (h : i < (markL n).length) : (markL n)[i] = markV i := by simp [markL]

theorem tokCells_set : ∀ (vs : List V3) (i j : Nat) (h : i < vs.length) (hj : j < 3) (u : Value) (c : V3), cells3 c = (cells3 vs[i]).set j u → (tokCells vs).set (i * 3 + j) u = tokCells (vs.set i c) := by
  intro vs
  induction vs with
  | nil => intro i j h; simp at h
  | cons v vs ih =>
    intro i j h hj u c hc
    have e : ∀ v : V3, ∀ vs, tokCells (v :: vs) = cells3 v ++ tokCells vs := fun v vs => by simp [tokCells]
    have hl : (cells3 v).length = 3 := rfl
    cases i with
    | zero =>
      rw [e, List.set_cons_zero, e, hc, List.set_append_left _ _ (by omega)]
      simp
    | succ i =>
      rw [e, List.set_cons_succ, e, List.set_append_right _ _ (by omega), show (i + 1) * 3 + j - (cells3 v).length = i * 3 + j by omega, ih i j (by simpa using h) hj u c (by simpa using hc)]
theorem take_set (vs : List V3) (cur : Array Value) (i j : Nat) (u : Value) (c : V3) (hi : i < vs.length) (hj : j < 3) (hc : cells3 c = (cells3 vs[i]).set j u) (h4 : cur.toList.take (vs.length * 3) = tokCells vs) : (cur.toList.set (i * 3 + j) u).take (vs.length * 3) = tokCells (vs.set i c) := by
  rw [← tokCells_set vs i j hi hj u c hc, ← h4, List.take_set]
theorem TokBuf.store {w : World} {base g n cap : Nat} {vs : List V3} (h : TokBuf w base (.slice (some ⟨g, 0, none⟩) n cap) vs) (i j : Nat) (hi : i < vs.length) (hj : j < 3) (u : Value) (c : V3) (hc : cells3 c = (cells3 vs[i]).set j u) :
    TokBuf (w.setCell ⟨g, i * 3 + j, none⟩ u) base (.slice (some ⟨g, 0, none⟩) n cap) (vs.set i c) := by
  refine ⟨by rw [tokCells_len, List.length_set], ?_⟩
  rcases h.2 with ⟨h, _⟩ | ⟨g', cap', cur, e, hg, hgg, h1, h2, h3, h4⟩
  · cases h
  · injection e with e1 e2 e3
    injection e1 with e1
    injection e1 with e1 _ _
    subst e1 e3
    refine .inr ⟨g, cap, _, by rw [e2, List.length_set], hg, block_setCell hgg u, by rw [List.length_set]; exact h1, h2, by rw [Array.size_setIfInBounds]; exact h3, ?_⟩
    rw [List.length_set, Array.toList_setIfInBounds]
    exact take_set vs cur i j u c hi hj hc h4
theorem TokBuf.opened {w : World} {base n cap : Nat} {a : Option Addr} {vs : List V3} (h : TokBuf w base (.slice a n cap) vs) (h0 : 0 < vs.length) : ∃ g, a = some ⟨g, 0, none⟩ ∧ base ≤ g ∧ g < w.heap.size ∧ ∀ i (hi : i < vs.length), w.cell? ⟨g, i * 3, none⟩ = some (.int .i64 vs[i].k) ∧ w.cell? ⟨g, i * 3 + 1, none⟩ = some (.int .i64 vs[i].n) ∧ w.cell? ⟨g, i * 3 + 2, none⟩ = some (.string vs[i].t) := by
  obtain ⟨a', cap', e, hat⟩ := h.toks
  have hlt := h.own_lt
  rcases h.2 with ⟨h, _⟩ | ⟨g', cp, cur, e', hb, _⟩
  · omega
  · injection e' with e1 _ _
    injection e with e2 _ _
    subst e1
    subst e2
    refine ⟨g', rfl, hb, hlt g' rfl, fun i hi => ?_⟩
    obtain ⟨b, off, ea, q0, q1, q2⟩ := hat i hi
    injection ea with ea
    injection ea with ea1 ea2 _
    subst ea1 ea2
    rw [Nat.zero_add] at q0 q1 q2
    exact ⟨q0, q1, q2⟩
theorem TokBuf.free {w : World} {base g n cap : Nat} {vs : List V3} (h : TokBuf w base (.slice (some ⟨g, 0, none⟩) n cap) vs) (i : Nat) : w.frozen? ⟨g, i, none⟩ = false := by
  rcases h.2 with ⟨h, _⟩ | ⟨g', cap', cur, e, hg, hgg, _⟩
  · cases h
  · injection e with e1 _ _
    injection e1 with e1
    injection e1 with e1 _ _
    subst e1
    exact unfrozen_of_block hgg i
/-- the first k are marked -/
def mixL (vs : List V3) (k : Nat) : List V3 := markL k ++ vs.drop k
theorem mixL_len (vs : List V3) (k : Nat) (h : k ≤ vs.length) : (mixL vs k).length = vs.length := by
  unfold mixL; rw [List.length_append, markL_len, List.length_drop]; omega
theorem mixL_zero (vs : List V3) : mixL vs 0 = vs := by simp [mixL, markL]
theorem mixL_all (vs : List V3) (k : Nat) (h : vs.length ≤ k) (hk : k ≤ vs.length) : mixL vs k = markL vs.length := by
  obtain rfl : k = vs.length := by omega
  simp [mixL]
theorem mixL_set (vs : List V3) (k : Nat) (h : k < vs.length) : (mixL vs k).set k (markV k) = mixL vs (k + 1) := by
  unfold mixL
  rw [List.set_append_right _ _ (by rw [markL_len]; omega), markL_len, Nat.sub_self, List.drop_eq_getElem_cons h, List.set_cons_zero]
  simp [markL, List.range_succ]

set_option maxHeartbeats 4000000 in
set_option maxRecDepth 100000 in
theorem markTokenS_any (base : Nat) (v : Value) (vs : List V3) (w : World) (hown : TokBuf w base v vs) (hbase : base ≤ w.heap.size) (h300 : vs.length ≤ 300) :
    Calls Tryd.prog 26 #[v, .int .i64 1] w fun e w' => e = .returned (.int .i64 (1 + 3 * (vs.length : Int))) ∧ TokBuf w' base v (markL vs.length) ∧ Below base w w' := by
  obtain ⟨a, cap, rfl⟩ := hown.slice
  have HO := hide hown
  clear hown
  go_enter Tryd.func26, Tryd.ntmps26
  go_wp2
  go_loopw [1, 5] (fun m i wx => ∃ k : Nat, k ≤ vs.length ∧ i = .int .i64 k ∧ m = .int .i64 (1 + 3 * (k : Int)) ∧ TokBuf wx base (.slice a vs.length cap) (mixL vs k) ∧ Below base w wx) (fun _ i _ => vs.length - (intOf i).toNat)
  case atStart => exact ⟨0, by omega, rfl, by simp, by rw [mixL_zero]; exact unhide HO, Below.refl _ _⟩
  case round =>
    clear HO
    obtain ⟨k, hk, rfl, rfl, hown, hnx⟩ := hrel
    by_cases hlt : k < vs.length
    · have hml := mixL_len vs k hk
      obtain ⟨g, rfl, hgb, hgl, hat⟩ := hown.opened (by omega)
      obtain ⟨q0, q1, q2⟩ := hat k (by omega)
      have hwl : base ≤ wr.heap.size := by have := hnx.size; omega
      have f0 := hown.free (k * 3)
      have s1 := hown.store k 0 (by omega) (by omega) (.int .i64 (1 + 3 * (k : Int))) ⟨1 + 3 * (k : Int), (mixL vs k)[k].n, (mixL vs k)[k].t⟩ rfl
      have s2 := s1.store k 1 (by rw [List.length_set]; omega) (by omega) (.int .i64 (1 + 3 * (k : Int) + 1)) ⟨1 + 3 * (k : Int), 1 + 3 * (k : Int) + 1, (mixL vs k)[k].t⟩ (by rw [List.getElem_set_self]; rfl)
      have hnx2 : Below base w ((wr.setCell ⟨g, k * 3, none⟩ (.int .i64 (1 + 3 * (k : Int)))).setCell ⟨g, k * 3 + 1, none⟩ (.int .i64 (1 + 3 * (k : Int) + 1))) := (hnx.setCell hgb _).setCell hgb _
      rw [List.set_set, Nat.add_zero] at s2
      have f1 := s2.free
      have f0' : ∀ i, wr.frozen? ⟨g, i, none⟩ = false := hown.free
      have HS2 := hide s2
      have HN2 := hide hnx2
      have HV : Hid (⟨1 + 3 * (k : Int), 1 + 3 * (k : Int) + 1, mkT (1 + 3 * (k : Int) + 1 + 1).toNat⟩ = markV k) := rfl
      have HM := hide (mixL_set vs k hlt)
      have hml2 := mixL_len vs k hk
      clear s1 s2 hat hown hnx2 f0
      generalize (mixL vs k)[k].k = vk at q0
      generalize hvn : (mixL vs k)[k].n = vn at q1
      clear hvn
      have HK : Hid (∀ w1 : World, TokBuf w1 base (.slice (some ⟨g, 0, none⟩) vs.length cap) ((mixL vs k).set k ⟨1 + 3 * (k : Int), 1 + 3 * (k : Int) + 1, (mixL vs k)[k].t⟩) → (∃ u, w1.cell? ⟨g, k * 3 + 2, none⟩ = some u) ∧ w1.frozen? ⟨g, k * 3 + 2, none⟩ = false ∧ TokBuf (w1.setCell ⟨g, k * 3 + 2, none⟩ (.string (mkT (1 + 3 * (k : Int) + 1 + 1).toNat))) base (.slice (some ⟨g, 0, none⟩) vs.length cap) (mixL vs (k + 1))) := hide (fun w1 hb => by
        refine ⟨?_, hb.free _, ?_⟩
        · obtain ⟨g', e, _, _, hat⟩ := hb.opened (by rw [List.length_set]; omega)
          injection e with e
          injection e with e _ _
          subst e
          exact ⟨_, (hat k (by rw [List.length_set]; omega)).2.2⟩
        · have := hb.store k 2 (by rw [List.length_set]; omega) (by omega) (.string (mkT (1 + 3 * (k : Int) + 1 + 1).toNat)) (markV k) (by rw [List.getElem_set_self]; rfl)
          rw [List.set_set, unhide HM] at this
          exact this)
      go_wp2_with fail
      refine (markText_any _ _ (by omega) (by omega)).mono ?_
      rintro e w1 ⟨rfl, hb1⟩
      have hb1' := hb1
      obtain ⟨⟨u, c2⟩, fz, hfin⟩ := unhide HK w1 ((unhide HS2).below hb1 (fun j hj => by
        have : g = j := by simpa [Value.ownBlock] using hj
        subst this
        simp; omega))
      have hnx3 := hide ((unhide HN2).trans (hb1.mono (by simp; omega)))
      have HF := hide hfin
      clear hfin hb1 hb1'
      go_wp2
      go_roundw
      case rel => exact ⟨k + 1, by omega, by go_num, int_eq (by omega), unhide HF, (unhide hnx3).setCell hgb _⟩
      case measure => simp [intOf]; omega
    · have hd := hide (mixL_all vs k (by omega) hk)
      rw [unhide hd] at hown
      obtain rfl : k = vs.length := by omega
      have HO := hide hown
      clear hown
      go_wp2
      go_ret
      exact ⟨rfl, unhide HO, hnx⟩

end Go.Proofs.YtckdacbopejdmaaDoor
