/- Blanks left out, lines and words: code and specification. -/
import Derived.Test.YthfoabcmgiiadaaGreatDoorWireW4
namespace Go.Proofs.YthfoabcmgiiadaaGreatDoor
open Go.RowKit Go.Shelf
set_option linter.unusedVariables false

set_option maxHeartbeats 2000000 in
theorem l08Bare_any (s : ByteArray) (w : World) (hs : s.size ≤ 1000000) :
    Calls Tryz.prog 78 #[.string s] w fun e w' => e = .returned (.string (trimS' s)) ∧ w' = w := by
  go_enter Tryz.func78, Tryz.ntmps78
  go_wp2
  go_loop [0] (fun t => ∃ u : ByteArray, u.size ≤ 1000000 ∧ t = .string u ∧ Hid (trimS' u = trimS' s)) (fun t => Lib.strSize t)
  case atStart => exact ⟨s, hs, rfl, hide rfl⟩
  case round =>
    obtain ⟨u, hu, rfl, hin⟩ := hrel
    by_cases h0 : 0 < u.size ∧ ∃ h : 0 < u.size, (u[0].toNat : Int) = 32
    · obtain ⟨h0, _, hb⟩ := h0
      have hb' : u[0] = 32 := UInt8.toNat_inj.1 (by simpa using (show u[0].toNat = 32 by omega))
      have HS := hide ((trim_s_left u h0 hb').trans (unhide hin))
      have q : ((u[0].toNat : Int) == 32) = true := by simp [hb]
      have h0' : (0 : Int) < (u.size : Int) := by omega
      have h1' : (1 : Int) ≤ (u.size : Int) := by omega
      have hz : (u.extract 1 u.size).size = u.size - 1 := by rw [ByteArray.size_extract]; omega
      clear hb hb'
      go_wp2
      go_round
      case rel => exact ⟨_, by rw [hz]; omega, rfl, HS⟩
      case measure => simp [Lib.strSize_string, hz]; omega
    · have hhead : Hid (∀ h : 0 < u.size, u[0] ≠ 32) := hide fun h e => h0 ⟨h, h, by rw [e]; rfl⟩
      by_cases hz0 : 0 < u.size
      · have hz0' : (0 : Int) < (u.size : Int) := by omega
        have q : ((u[0].toNat : Int) == 32) = false := by
          rw [beq_eq_false_iff_ne]
          exact fun e => h0 ⟨hz0, hz0, e⟩
        clear h0
        go_wp2
        clear q
        go_loop [0] (fun t => ∃ u : ByteArray, u.size ≤ 1000000 ∧ t = .string u ∧ Hid (trimS' u = trimS' s) ∧ Hid (∀ h : 0 < u.size, u[0] ≠ 32)) (fun t => Lib.strSize t)
        case atStart => exact ⟨u, hu, rfl, hin, hhead⟩
        case round =>
          clear hin hhead
          obtain ⟨v, hu, rfl, hin, hhead⟩ := hrel
          by_cases h0 : 0 < v.size
          · have h0' : (0 : Int) < (v.size : Int) := by omega
            have e1 : IntKind.i64.wrap ((v.size : Int) - 1) = ((v.size - 1 : Nat) : Int) := by rw [IntKind.wrap_i64]; omega
            obtain ⟨n, hn⟩ : ∃ n, v.size - 1 = n := ⟨_, rfl⟩
            rw [hn] at e1
            have hnl : n < v.size := by omega
            have i1 : (n : Int) < (v.size : Int) := by omega
            have i2 : (n : Int) ≤ (v.size : Int) := by omega
            have HR := hide (trim_s_right v h0)
            have HT := hide (trim_s_stay v (unhide hhead))
            have HX := hide (show ∀ h : 0 < (v.extract 0 (v.size - 1)).size, (v.extract 0 (v.size - 1))[0] ≠ 32 from fun h => by
              rw [ByteArray.getElem_extract]
              exact unhide hhead (by rw [ByteArray.size_extract] at h; omega))
            have hz : (v.extract 0 (v.size - 1)).size = v.size - 1 := by rw [ByteArray.size_extract]; omega
            simp only [hn] at HR HX hz
            have HT2 : Hid (v[n] ≠ 32 → trimS' v = v) := hide fun e => unhide HT fun _ => by simp only [hn]; exact e
            clear HT
            by_cases hb : (v[n].toNat : Int) = 32
            · have hb' : v[n] = 32 := UInt8.toNat_inj.1 (by simpa using (show v[n].toNat = 32 by omega))
              have HS := hide ((unhide HR hb').trans (unhide hin))
              have q : ((v[n].toNat : Int) == 32) = true := by simp [hb]
              clear hb hb' HR HT2
              go_wp2
              go_round
              case rel => exact ⟨_, by rw [hz]; omega, rfl, HS, HX⟩
              case measure => simp [Lib.strSize_string, hz]; omega
            · have HS := hide (unhide HT2 (fun e => hb (by rw [e]; rfl)))
              have q : ((v[n].toNat : Int) == 32) = false := by simp [hb]
              clear hb HR HT2 HX
              go_wp2
              go_ret
              exact ⟨by rw [← unhide hin, unhide HS]; rfl, rfl⟩
          · have hz : v = ⟨#[]⟩ := qa_list (List.eq_nil_of_length_eq_zero (by rw [dataLen]; omega))
            have HS := hide (show trimS' v = v by rw [hz]; rfl)
            clear hz
            go_wp2
            go_ret
            exact ⟨by rw [← unhide hin, unhide HS]; rfl, rfl⟩
      · have hz : u = ⟨#[]⟩ := qa_list (List.eq_nil_of_length_eq_zero (by rw [dataLen]; omega))
        have HS := hide (show trimS' u = u by rw [hz]; rfl)
        clear hz h0
        go_wp2
        go_loop [0] (fun t => t = .string u) (fun t => Lib.strSize t)
        case atStart => rfl
        case round =>
          subst hrel
          go_wp2
          go_ret
          exact ⟨by rw [← unhide hin, unhide HS]; rfl, rfl⟩

theorem strSplit_any (s sep : ByteArray) (w : World) (hs : s.size ≤ 1000000) (h1 : 1 ≤ sep.size) (hm : MaxL w) :
    Calls Tryz.prog 89 #[.string s, .string sep] w fun e w' => ∃ v, e = .returned v ∧ Txt w' w.heap.size v (pieces sep s) ∧ Below w.heap.size w w' := by
  obtain ⟨m, hm⟩ := hm
  refine (Any.strings_Split Tryz.lays146 (by kernel_rfl) s sep m w (by omega) hm h1).mono ?_
  rintro e w1 ⟨rfl, rfl⟩
  refine ⟨_, rfl, ?_, qx_alloc _ _⟩
  have hl := Lib.splitB_all sep h1 0 _ s rfl
  have := Txt.lit w w.heap.size (pieces sep s) (Nat.le_refl _) (by
    have := pieces_many sep h1 _ s (Nat.le_refl _)
    unfold maxLen; omega)
  unfold pieces at *
  rw [hl] at this
  exact this
theorem strTrim_any (s : ByteArray) (w : World) (hs : s.size ≤ 1000000) :
    Calls Tryz.prog 92 #[.string s, .string ⟨#[32]⟩] w fun e w' => e = .returned (.string (trimS' s)) ∧ Below w.heap.size w w' := by
  refine (Any.strings_Trim_one Tryz.lays160 s 32 (by decide) w (by omega)).mono ?_
  rintro e w1 ⟨rfl, h⟩
  rcases h with rfl | rfl
  · exact ⟨rfl, Below.refl _ _⟩
  · exact ⟨rfl, qx_drew (Below.refl _ _)⟩

theorem Txt.lit0 (w : World) (base : Nat) (h : base ≤ w.heap.size) : Txt (w.alloc (.cells #[] 9)) base (.slice (some ⟨w.heap.size, 0, none⟩) 0 0) [] := Txt.lit w base [] h (by decide)

set_option maxHeartbeats 2000000 in
set_option maxRecDepth 100000 in
theorem l08Lines_any (s : ByteArray) (w : World) (hs : s.size ≤ 1000000) :
    Calls Tryz.prog 75 #[.string s] w fun e w' => ∃ v, e = .returned v ∧ Txt w' w.heap.size v (pieces crlfS s) ∧ Below w.heap.size w w' := by
  have hlit := hide (Txt.lit0 w w.heap.size (Nat.le_refl _))
  go_enter Tryz.func75, Tryz.ntmps75
  go_wp2
  go_loopw [0, 3] (fun t m wx => ∃ (u : ByteArray) (acc : List ByteArray), u.size ≤ 1000000 ∧ t = .string u ∧ acc.length ≤ 1000000 ∧ Hid (PiecesTo crlfS s acc u) ∧ Txt wx w.heap.size m acc ∧ Below w.heap.size w wx) (fun t _ _ => Lib.strSize t)
  case atStart => exact ⟨s, [], hs, rfl, by simp, hide (PiecesTo.zero _ _), unhide hlit, qx_alloc _ _⟩
  case round =>
    clear hlit
    obtain ⟨u, acc, hu, rfl, hal, hin, hown, hnx⟩ := hrel
    have hwr : w.heap.size ≤ wr.heap.size := hnx.size
    have HF := hide fun w => l08Find_any u crlfS w hu (by decide) (by decide)
    rcases Lib.indexB_cases u crlfS with h | ⟨i, h, hr⟩
    · rw [h] at HF
      have hd := hide ((unhide hin).miss h)
      clear h
      go_wp2_with fail
      refine (unhide HF _).mono ?_
      rintro e wr ⟨rfl, rfl⟩
      go_wp2_with (at_builtin; refine wp_appTxt _ rfl _ _ rfl w.heap.size wr.heap.size _ acc u rfl (hown.alloc _) rfl (by simp) ?c5 ?c3 ?c6)
      case c5 => first | omega | (simp; omega)
      case c3 => omega
      case c6 =>
        intro v2 w2 hown2 hb2
        have hnx2 : Below w.heap.size w w2 := (hnx.alloc hwr _).trans hb2
        rw [unhide hd] at hown2
        have HO2 := hide hown2
        clear hown2 hb2 hown
        go_wp2
        go_ret
        exact ⟨_, rfl, unhide HO2, hnx2⟩
    · rw [h] at HF
      have hd := hide ((unhide hin).hit (by decide) h hr)
      have hz2 : crlfS.size = 2 := rfl
      rw [hz2] at hd hr
      have hacc : (acc ++ [u.extract 0 i]).length ≤ 1000000 := by have := (unhide hd).2; omega
      have hz : (u.extract (i + 2) u.size).size = u.size - (i + 2) := by rw [ByteArray.size_extract]; omega
      have e1 : IntKind.i64.wrap ((i : Int) + 2) = ((i + 2 : Nat) : Int) := by rw [IntKind.wrap_i64]; omega
      have i0 : (i : Int) ≤ (u.size : Int) := by omega
      clear h
      obtain ⟨j, hj⟩ : ∃ j, i + 2 = j := ⟨_, rfl⟩
      rw [hj] at hd hr e1 hz
      have i1 : (j : Int) ≤ (u.size : Int) := by omega
      have hjp : 0 < j := by omega
      clear hj
      go_wp2_with fail
      refine (unhide HF _).mono ?_
      rintro e wr ⟨rfl, rfl⟩
      go_wp2_with (at_builtin; refine wp_appTxt _ rfl _ _ rfl w.heap.size wr.heap.size _ acc (u.extract 0 i) rfl (hown.alloc _) rfl (by simp) ?c5 ?c3 ?c6)
      case c5 => first | omega | (simp; omega)
      case c3 => omega
      case c6 =>
        intro v2 w2 hown2 hb2
        have hnx2 : Below w.heap.size w w2 := (hnx.alloc hwr _).trans hb2
        have HO2 := hide hown2
        clear hown2 hb2 hown
        go_wp2
        go_roundw
        case rel => exact ⟨_, _, by rw [hz]; omega, rfl, hacc, hd, unhide HO2, hnx2⟩
        case measure => simp [Lib.strSize_string, hz]; omega

/-- so far: from where, up to where, and what is cut off -/
def CutTo (s : ByteArray) (c : UInt8) (f i : Nat) (acc : List ByteArray) : Prop := PiecesTo ⟨#[c]⟩ s acc (s.extract f s.size) ∧ f ≤ i ∧ i ≤ s.size ∧ ∀ j (h : j < s.size), f ≤ j → j < i → s[j] ≠ c
theorem CutTo.zero (s : ByteArray) (c : UInt8) : CutTo s c 0 0 [] := by
  refine ⟨?_, Nat.le_refl _, Nat.zero_le _, fun j _ _ h => absurd h (Nat.not_lt_zero _)⟩
  rw [ByteArray.extract_zero_size]
  exact PiecesTo.zero _ _
theorem CutTo.no {s : ByteArray} {c : UInt8} {f i : Nat} {acc : List ByteArray} (h : CutTo s c f i acc) (hi : i < s.size) (hc : s[i] ≠ c) : CutTo s c f (i + 1) acc := by
  refine ⟨h.1, by have := h.2.1; omega, hi, fun j hj hf hji => ?_⟩
  by_cases e : j = i
  · subst e; exact hc
  · exact h.2.2.2 j hj hf (by omega)
theorem CutTo.yes {s : ByteArray} {c : UInt8} {f i : Nat} {acc : List ByteArray} (h : CutTo s c f i acc) (hi : i < s.size) (hc : s[i] = c) : CutTo s c (i + 1) (i + 1) (acc ++ [s.extract f i]) := by
  have hx := byte_first h.2.1 hi hc h.2.2.2
  have hz1 : (⟨#[c]⟩ : ByteArray).size = 1 := rfl
  have hfi := h.2.1
  have hp := PiecesTo.hit (sep := ⟨#[c]⟩) (by rw [hz1]; exact Nat.le_refl 1) h.1 hx (by rw [ByteArray.size_extract, hz1]; omega)
  refine ⟨?_, Nat.le_refl _, hi, fun j _ h1 h2 => absurd h1 (by omega)⟩
  rw [hz1, ByteArray.extract_extract, ByteArray.extract_extract, ByteArray.size_extract] at hp
  have e1 : s.extract (f + 0) (min (f + (i - f)) s.size) = s.extract f i := by congr 1 <;> omega
  have e2 : s.extract (f + (i - f + 1)) (min (f + (min s.size s.size - f)) s.size) = s.extract (i + 1) s.size := by congr 1 <;> omega
  rw [e1, e2] at hp
  exact hp
theorem CutTo.done {s : ByteArray} {c : UInt8} {f i : Nat} {acc : List ByteArray} (h : CutTo s c f i acc) (hi : s.size ≤ i) : acc ++ [s.extract f s.size] = pieces ⟨#[c]⟩ s :=
  h.1.miss (byte_none fun j hj hf => h.2.2.2 j hj hf (by omega))

theorem CutTo.len {s : ByteArray} {c : UInt8} {f i : Nat} {acc : List ByteArray} (h : CutTo s c f i acc) : acc.length ≤ s.size := by have := h.1.2; omega

set_option maxHeartbeats 2000000 in
set_option maxRecDepth 100000 in
theorem l00Cut_any (s : ByteArray) (c : UInt8) (w : World) (hs : s.size ≤ 1000000) :
    Calls Tryz.prog 76 #[.string s, .int .u8 (c.toNat : Int)] w fun e w' => ∃ v, e = .returned v ∧ Txt w' w.heap.size v (pieces ⟨#[c]⟩ s) ∧ Below w.heap.size w w' := by
  have hlit := hide (Txt.lit0 w w.heap.size (Nat.le_refl _))
  go_enter Tryz.func76, Tryz.ntmps76
  go_wp2
  go_loopw [5, 6, 7] (fun m fv i wx => ∃ (k f : Nat) (acc : List ByteArray), k ≤ s.size ∧ f ≤ k ∧ i = .int .i64 k ∧ fv = .int .i64 f ∧ acc.length ≤ 1000000 ∧ Hid (CutTo s c f k acc) ∧ Txt wx w.heap.size m acc ∧ Below w.heap.size w wx) (fun _ _ i _ => s.size - (intOf i).toNat)
  case atStart => exact ⟨0, 0, [], by omega, by omega, rfl, rfl, by simp, hide (CutTo.zero _ _), unhide hlit, qx_alloc _ _⟩
  case round =>
    clear hlit
    obtain ⟨k, f, acc, hk, hfk, rfl, rfl, hal, hin, hown, hnx⟩ := hrel
    have hwr : w.heap.size ≤ wr.heap.size := hnx.size
    have hf0 : (0 : Int) ≤ (f : Int) := by omega
    have hfk' : (f : Int) ≤ (k : Int) := by omega
    have hks : (k : Int) ≤ (s.size : Int) := by omega
    have hfs : (f : Int) ≤ (s.size : Int) := by omega
    by_cases hlt : k < s.size
    · have i1 : (k : Int) < (s.size : Int) := by omega
      by_cases hc : s[k] = c
      · have hd := hide ((unhide hin).yes hlt hc)
        have hl := (unhide hd).len
        have q : ((s[k].toNat : Int) == (c.toNat : Int)) = true := by rw [hc]; simp
        clear hc
        go_wp2_with (at_builtin; refine wp_appTxt _ rfl _ _ rfl w.heap.size wr.heap.size _ acc (s.extract f k) rfl (hown.alloc _) rfl (by simp) ?c5 ?c3 ?c6)
        case c5 => first | omega | (simp; omega)
        case c3 => omega
        case c6 =>
          intro v2 w2 hown2 hb2
          have hnx2 : Below w.heap.size w w2 := (hnx.alloc hwr _).trans hb2
          have HO2 := hide hown2
          clear hown2 hb2 hown
          go_wp2
          go_roundw
          case rel => exact ⟨k + 1, k + 1, _, by omega, by omega, by go_num, by go_num, by omega, hd, unhide HO2, hnx2⟩
          case measure => simp [intOf]; omega
      · have hd := hide ((unhide hin).no hlt hc)
        have q : ((s[k].toNat : Int) == (c.toNat : Int)) = false := by
          rw [beq_eq_false_iff_ne]
          exact fun e => hc (UInt8.toNat_inj.1 (by omega))
        clear hc
        have HO := hide hown
        clear hown
        go_wp2
        go_roundw
        case rel => exact ⟨k + 1, f, acc, by omega, by omega, by go_num, rfl, hal, hd, unhide HO, hnx⟩
        case measure => simp [intOf]; omega
    · have hd := hide ((unhide hin).done (by omega))
      go_wp2_with (at_builtin; refine wp_appTxt _ rfl _ _ rfl w.heap.size wr.heap.size _ acc (s.extract f s.size) rfl (hown.alloc _) rfl (by simp) ?c5 ?c3 ?c6)
      case c5 => first | omega | (simp; omega)
      case c3 => omega
      case c6 =>
        intro v2 w2 hown2 hb2
        have hnx2 : Below w.heap.size w w2 := (hnx.alloc hwr _).trans hb2
        rw [unhide hd] at hown2
        have HO2 := hide hown2
        clear hown2 hb2 hown
        go_wp2
        go_ret
        exact ⟨_, rfl, unhide HO2, hnx2⟩

end Go.Proofs.YthfoabcmgiiadaaGreatDoor
