/- The code's reading of a request, whole; its law. -/
import Derived.Test.YthfoabcmgiiadaaGreatDoorWireW7
namespace Go.Proofs.YthfoabcmgiiadaaGreatDoor
open Go.RowKit Go.Shelf Go.Joins
set_option linter.unusedVariables false

/-- what the lines of a head are told as -/
def HeadPost (s : ByteArray) (w : World) (e : Ending) (w' : World) : Prop :=
  Below w.heap.size w w' ∧ ((∃ c : Int, c ≠ 0 ∧ reqR s = RR.bad c ∧ e = .returned (.tuple #[.slice none 0 0, .int .i64 0, .int .i64 c])) ∨
    (∃ (k : Nat) (v : Value), s.size ≤ 65536 ∧ Lib.indexB s crlf2S = k ∧ k ≤ 116 ∧ e = .returned (.tuple #[v, .int .i64 ((k + 4 : Nat) : Int), .int .i64 0]) ∧ Txt w' w.heap.size v (linesOf s)))

set_option maxHeartbeats 2000000 in
set_option maxRecDepth 100000 in
theorem headLines_any (s : ByteArray) (w : World) (hs : s.size ≤ maxLen) (hm : MaxL w) :
    Calls Tryz.prog 81 #[.string s] w (HeadPost s w) := by
  have HM := hide hm
  clear hm
  by_cases h0 : 65536 < s.size
  · have HR := hide (reqR_long h0)
    go_enter Tryz.func81, Tryz.ntmps81
    go_wp2
    go_ret3
    exact ⟨Below.refl _ _, .inl ⟨2, by omega, unhide HR, rfl⟩⟩
  have HC := hide fun w => strCut_any s crlf2S w (by omega)
  rcases Lib.indexB_cases s crlf2S with h | ⟨k, h, hr⟩
  · obtain ⟨e1, e2, e3⟩ := cut_miss h
    rw [e1, e2, e3] at HC
    by_cases h1 : 120 < s.size
    · have HR := hide (reqR_over (by omega) h h1)
      clear h e1 e2 e3
      go_enter Tryz.func81, Tryz.ntmps81
      go_wp2_with fail
      refine (unhide HC _ (unhide HM)).mono ?_
      rintro e w1 ⟨rfl, hb1⟩
      go_wp2
      go_ret3
      exact ⟨hb1, .inl ⟨2, by omega, unhide HR, rfl⟩⟩
    · have HR := hide (reqR_more (by omega) h (by omega))
      clear h e1 e2 e3
      go_enter Tryz.func81, Tryz.ntmps81
      go_wp2_with fail
      refine (unhide HC _ (unhide HM)).mono ?_
      rintro e w1 ⟨rfl, hb1⟩
      go_wp2
      go_ret3
      exact ⟨hb1, .inl ⟨18, by omega, unhide HR, rfl⟩⟩
  · obtain ⟨e1, e2, e3⟩ := cut_hit h
    have hk4 : crlf2S.size = 4 := rfl
    rw [hk4] at hr
    have hz : (cutA s crlf2S).size = k := by rw [e1, ByteArray.size_extract]; omega
    have HS := hide fun w => strSplit_any (cutA s crlf2S) crlfS w (by omega) (by decide)
    have eL : pieces crlfS (cutA s crlf2S) = linesOf s := rfl
    rw [eL] at HS
    rw [e3] at HC
    clear e1 e2 e3 eL
    by_cases h1 : 116 < k
    · have HR := hide (reqR_far (by omega) h h1)
      generalize cutA s crlf2S = A at HC HS hz
      generalize cutB s crlf2S = B at HC
      subst hz
      clear h
      go_enter Tryz.func81, Tryz.ntmps81
      go_wp2_with fail
      refine (unhide HC _ (unhide HM)).mono ?_
      rintro e w1 ⟨rfl, hb1⟩
      go_wp2
      go_ret3
      exact ⟨hb1, .inl ⟨2, by omega, unhide HR, rfl⟩⟩
    · have HK := hide h
      generalize cutA s crlf2S = A at HC HS hz
      generalize cutB s crlf2S = B at HC
      subst hz
      clear h
      go_enter Tryz.func81, Tryz.ntmps81
      go_wp2_with fail
      refine (unhide HC _ (unhide HM)).mono ?_
      rintro e w1 ⟨rfl, hb1⟩
      go_wp2_with fail
      refine (unhide HS _ ((unhide HM).later hb1)).mono ?_
      rintro e w2 ⟨v, rfl, hT, hb2⟩
      have HT2 := hide hT
      clear hT
      go_wp2
      go_ret3
      refine ⟨qx_trans hb1 hb2, .inr ⟨A.size, v, by omega, unhide HK, by omega, rfl, ?_⟩⟩
      have := unhide HT2
      exact ⟨this.1, by
        rcases this.2 with h | ⟨g, cap, cur, e, hg, r⟩
        · exact .inl h
        · exact .inr ⟨g, cap, cur, e, Nat.le_trans hb1.size hg, r⟩⟩

/-- what a head is read as -/
def ReadPost (s : ByteArray) (w : World) (e : Ending) (w' : World) : Prop :=
  Below w.heap.size w w' ∧ ∃ v, e = .returned (.tuple #[.agg #[.string (reqR s).p, .bool (reqR s).c], v, .int .i64 (reqR s).n, .int .i64 (reqR s).e]) ∧ ((reqR s).e = 0 → Hds w' w.heap.size v ((linesOf s).tail.map hvOf))

theorem rest_at {w : World} {base : Nat} {v : Value} {l : ByteArray} {r : List ByteArray} (h : Txt w base v (l :: r)) : ∃ g cap, v = .slice (some ⟨g, 0, none⟩) (r.length + 1) cap ∧ w.cell? ⟨g, 0, none⟩ = some (.string l) ∧ r.length + 1 ≤ cap ∧ g < w.heap.size ∧ ∀ i (hi : i < r.length), w.cell? ⟨g, 1 + i, none⟩ = some (.string r[i]) := by
  obtain ⟨g, cap, e, h1, h2, h3⟩ := h.opened (by simp)
  subst e
  refine ⟨g, cap, by simp, h.get 0 (by simp), by simpa using h3, h2, fun i hi => ?_⟩
  have := h.get (i + 1) (by simp; omega)
  rw [Nat.add_comm 1 i]
  simpa using this

theorem Hds.low {w : World} {base base' : Nat} {v : Value} {hs : List HV} (h : Hds w base v hs) (hb : base' ≤ base) : Hds w base' v hs := by
  refine ⟨h.1, ?_⟩
  rcases h.2 with h | ⟨g, cap, cur, e, hg, r⟩
  · exact .inl h
  · exact .inr ⟨g, cap, cur, e, Nat.le_trans hb hg, r⟩
theorem Hds.set {w : World} {base b o : Nat} {v x : Value} {hs : List HV} (h : Hds w base v hs) (hb : b < base) : Hds (w.setCell ⟨b, o, none⟩ x) base v hs := by
  refine ⟨h.1, ?_⟩
  rcases h.2 with h | ⟨g, cap, cur, e, hg, hgg, r⟩
  · exact .inl h
  · refine .inr ⟨g, cap, cur, e, hg, ?_, r⟩
    have : g ≠ b := by omega
    rw [← hgg]
    exact Below.heap_setCell _ _ _ _ (by simpa using this)
theorem any_hv (r : List ByteArray) : (r.map hvOf).any hvShut = r.any hShut := by
  rw [List.any_map]; rfl

theorem lines_small {s : ByteArray} {k : Nat} (hs : s.size ≤ 65536) (h : Lib.indexB s crlf2S = k) (h1 : k ≤ 116) : (∀ u ∈ linesOf s, u.size ≤ 1000) ∧ (linesOf s).length ≤ 1000 := by
  have hz : (s.extract 0 k).size ≤ k := by rw [ByteArray.size_extract]; omega
  rw [linesOf_is h]
  refine ⟨fun u hu => ?_, ?_⟩
  · have := pieces_small crlfS (by decide) _ (s.extract 0 k) (Nat.le_refl _) u hu
    omega
  · have := pieces_many crlfS (by decide) _ (s.extract 0 k) (Nat.le_refl _)
    omega
theorem hv_small {r : List ByteArray} (h : ∀ u ∈ r, u.size ≤ 1000) : ∀ x ∈ r.map hvOf, x.n.size ≤ 1000 ∧ x.v.size ≤ 1000 := fun x hx => by
  obtain ⟨u, hu, rfl⟩ := List.mem_map.1 hx
  have := h u hu
  have h1 := cut_sizes u colonS
  have h2 := trim_size (cutB u colonS)
  exact ⟨by show (cutA u colonS).size ≤ 1000; omega, by show (trimS' (cutB u colonS)).size ≤ 1000; omega⟩
theorem readHeaders_len (r : List ByteArray) (a : Option Addr) (n cap : Nat) (w : World) (hn : n = r.length) (hr : TxtsAt w a r) (hsm : ∀ u ∈ r, u.size ≤ 1000) (hl : r.length ≤ 1000) (hm : MaxL w) :
    Calls Tryz.prog 83 #[.slice a n cap] w fun e w' => Below w.heap.size w w' ∧ ((HdsOk r = false ∧ e = .returned (.tuple #[.slice none 0 0, .int .i64 3])) ∨ (HdsOk r = true ∧ ∃ v, e = .returned (.tuple #[v, .int .i64 0]) ∧ Hds w' w.heap.size v (r.map hvOf))) := by
  subst hn
  exact readHeaders_any r a cap w hr hsm hl hm
theorem bad_parts (c : Int) : (RR.bad c).p = ⟨#[]⟩ ∧ (RR.bad c).c = false ∧ (RR.bad c).n = 0 ∧ (RR.bad c).e = c := ⟨rfl, rfl, rfl, rfl⟩

end Go.Proofs.YthfoabcmgiiadaaGreatDoor
