/- The law on values read back from how they are written. -/
import Derived.Test.YtckdacbopejdmaaDoorStrWalk
import Derived.Test.YtckdacbopejdmaaDoorValueOf2
import Derived.Test.YtckdacbopejdmaaDoorRowOf
namespace Go.Proofs.YtckdacbopejdmaaDoor
open Go.RowKit
set_option linter.unusedVariables false

theorem args1 {w : World} {b : Nat} {k n : Int} {t : ByteArray} (h0 : w.cell? ⟨b, 0, none⟩ = some (.int .i64 k)) (h1 : w.cell? ⟨b, 1, none⟩ = some (.int .i64 n)) (h2 : w.cell? ⟨b, 2, none⟩ = some (.string t)) : ArgsAt w b [⟨k, n, t⟩] := fun i hi => by
  obtain rfl : i = 0 := by simp at hi; omega
  exact ⟨h0, h1, h2⟩
theorem VT_is (k n : Int) (t T : ByteArray) (w : World) (hv : vokB k n t = true) (hs : t.size ≤ 60) (hT : PowTab w) (h : Hid (vtextB k n t = T)) :
    Calls Tryd.prog 10 #[.agg #[.int .i64 k, .int .i64 n, .string t]] w fun e w' => e = .returned (.tuple #[.string T, .int .i64 0]) ∧ Below w.heap.size w w' := by
  have := ValueText_any k n t w (by unfold maxLen; omega) hT
  rw [show vtP k n t = (vtextB k n t, 0) from if_pos hv, unhide h] at this
  exact this
theorem sVT_is (k n : Int) (t T : ByteArray) (w : World) (hv : vokB k n t = true) (hs : t.size ≤ 60) (h : Hid (vtextB k n t = T)) :
    Calls Tryd.prog 11 #[.agg #[.int .i64 k, .int .i64 n, .string t]] w fun e w' => e = .returned (.tuple #[.string T, .int .i64 0]) ∧ Below w.heap.size w w' := by
  have := specValueText_any k n t w (by unfold maxLen; omega)
  rw [show vtP k n t = (vtextB k n t, 0) from if_pos hv, unhide h] at this
  exact this
theorem KW_is (k n : Int) (t K : ByteArray) (w : World) (hv : vokB k n t = true) (hs : t.size ≤ 60) (h : Hid (kindW k = K)) :
    Calls Tryd.prog 12 #[.agg #[.int .i64 k, .int .i64 n, .string t]] w fun e w' => e = .returned (.tuple #[.string K, .int .i64 0]) ∧ Below w.heap.size w w' := by
  have := KindWord_any k n t w (by unfold maxLen; omega)
  rw [hv, if_pos rfl, unhide h] at this
  exact this
theorem sKW_is (k n : Int) (t K : ByteArray) (w : World) (hv : vokB k n t = true) (hs : t.size ≤ 60) (h : Hid (kindW k = K)) :
    Calls Tryd.prog 13 #[.agg #[.int .i64 k, .int .i64 n, .string t]] w fun e w' => e = .returned (.tuple #[.string K, .int .i64 0]) ∧ Below w.heap.size w w' := by
  have := specKindWord_any k n t w (by unfold maxLen; omega)
  rw [hv, if_pos rfl, unhide h] at this
  exact this
theorem RV_is (s : ByteArray) (k n : Int) (t : ByteArray) (w : World) (hs : s.size ≤ 65536) (h : Hid (readR s = ⟨k, n, t, 0⟩)) :
    Calls Tryd.prog 15 #[.string s] w fun e w' => e = .returned (.tuple #[.agg #[.int .i64 k, .int .i64 n, .string t], .int .i64 0]) ∧ Below w.heap.size w w' := by
  have := ReadValue_any s w (by unfold maxLen; omega)
  rw [unhide h] at this
  exact this
theorem QT_is (s : ByteArray) (q : List UInt8) (c : Int) (w : World) (hs : s.size ≤ 60) (h : Hid (quoteR s = (q, c))) :
    Calls Tryd.prog 14 #[.string s] w fun e w' => e = .returned (.tuple #[.string ⟨q.toArray⟩, .int .i64 c]) ∧ Below w.heap.size w w' := by
  have := QuoteText_any s w (by unfold maxLen; omega)
  rw [unhide h] at this
  exact this
theorem str_is (k n : Int) (t T : ByteArray) (b cap : Nat) (w : World) (hv : vokB k n t = true) (hs : t.size ≤ 60) (hA : ArgsAt w b [⟨k, n, t⟩]) (hT : PowTab w) (h : Hid (vtextB k n t = T)) :
    Calls Tryd.prog 16 #[.string ⟨#[115, 116, 114]⟩, .slice (some ⟨b, 0, none⟩) 1 cap] w fun e w' => e = .returned (.tuple #[.agg #[.int .i64 3, .int .i64 0, .string T], .int .i64 0]) ∧ Below w.heap.size w w' := by
  have := Builtin_str k n t b cap w hv hs hA hT
  rw [unhide h] at this
  exact this
theorem cut_is (w : World) : Calls Tryd.prog 17 #[.string ⟨#[99, 117, 116]⟩] w fun e w' => e = .returned (.tuple #[.int .i64 3, .int .i64 0]) ∧ w' = w :=
  BuiltinCount_cut _ w (by decide) (by rw [ByteArray.toList_eq])
theorem isrow_len {k : IntKind} {w : World} {a : Option Addr} {len cap : Nat} {zs : List Int} (h : IsRow k w a len cap zs) : len ≤ 9223372036854775807 := by
  rcases h with ⟨_, rfl, _⟩ | ⟨x, _, h1, h2, _⟩
  · omega
  · unfold maxLen at h2; omega
/-- the value's block still holds it -/
structure Held3 (w : World) (b : Nat) (k n : Int) (t : ByteArray) : Prop where
  c0 : w.cell? ⟨b, 0, none⟩ = some (.int .i64 k)
  c1 : w.cell? ⟨b, 1, none⟩ = some (.int .i64 n)
  c2 : w.cell? ⟨b, 2, none⟩ = some (.string t)
theorem Held3.later {w w' : World} {b : Nat} {k n : Int} {t : ByteArray} (h : Held3 w b k n t) (hb : Below w.heap.size w w') : Held3 w' b k n t := ⟨cell_later hb h.c0, cell_later hb h.c1, cell_later hb h.c2⟩
theorem Held3.lt {w : World} {b : Nat} {k n : Int} {t : ByteArray} (h : Held3 w b k n t) : b < w.heap.size := World.block_lt_of_cell? _ _ h.c0

set_option maxHeartbeats 4000000 in
set_option maxRecDepth 100000 in
theorem lawWords_any (a0 : Option Addr) (len0 cap0 : Nat) (z0 : List Int) (a1 : Option Addr) (len1 cap1 : Nat) (z1 : List Int) (w : World) (h0 : IsRow .u8 w a0 len0 cap0 z0) (h1 : IsRow .u8 w a1 len1 cap1 z1) (hT : PowTab w) :
    Calls Tryd.prog 3 #[.slice a0 len0 cap0, .slice a1 len1 cap1] w fun e w' => e = .returned (.bool true) ∧ Below w.heap.size w w' := by
  have hl0 := isrow_len h0
  have hl1 := isrow_len h1
  have HR := hide h0
  have HT := hide hT
  clear h0 h1 hT
  by_cases g0 : 1048576 < len0
  · go_enter Tryd.func3, Tryd.ntmps3
    go_wp2
    go_ret
    exact ⟨rfl, Below.refl _ _⟩
  by_cases g1 : 1048576 < len1
  · go_enter Tryd.func3, Tryd.ntmps3
    go_wp2
    go_ret
    exact ⟨rfl, Below.refl _ _⟩
  go_enter Tryd.func3, Tryd.ntmps3
  go_wp2_with fail
  refine (ValueOf_any a0 len0 cap0 _ (by omega) (byteRow_of (unhide HR))).mono ?_
  rintro e w1 ⟨kk, nn, t, rfl, hv, hs, hb1⟩
  obtain ⟨T, hV⟩ : ∃ T, vtextB kk nn t = T := ⟨_, rfl⟩
  obtain ⟨K, hK⟩ : ∃ K, kindW kk = K := ⟨_, rfl⟩
  have hTs : Hid (T.size ≤ 60) := by rw [← hV]; exact hide (vtext_size kk nn t hv hs)
  have hread : Hid (kk ≠ 3 → readR T = ⟨kk, nn, t, 0⟩) := by rw [← hV]; exact hide (read_back kk nn t hv)
  have htx : Hid (kk = 3 → nn = 0) := hide (fun h => by subst h; simp [vokB] at hv; exact hv.1)
  have HV := hide hV
  have HK := hide hK
  have H1 := hide (show Held3 (w1.alloc (.cells #[.int .i64 kk, .int .i64 nn, .string t] 24)) w1.heap.size kk nn t from ⟨by simp, by simp, by simp⟩)
  have hB1 := hide (nx_al (o := .cells #[.int .i64 kk, .int .i64 nn, .string t] 24) hb1)
  clear hV hK hb1 HR
  obtain ⟨c0, c1, c2⟩ := unhide H1
  have hl := (unhide H1).lt
  go_wp2_with fail
  refine (VT_is kk nn t T _ hv hs ((unhide HT).later (unhide hB1) (Nat.le_refl _)) HV).mono ?_
  rintro e w2 ⟨rfl, hb2⟩
  have H2 := hide ((unhide H1).later hb2)
  have hB2 := hide (nx_trans (unhide hB1) hb2)
  clear c0 c1 c2 hb2 hl
  obtain ⟨c0, c1, c2⟩ := unhide H2
  have hl := (unhide H2).lt
  go_wp2_with fail
  refine (sVT_is kk nn t T _ hv hs HV).mono ?_
  rintro e w3 ⟨rfl, hb3⟩
  have H3 := hide ((unhide H2).later hb3)
  have hB3 := hide (nx_trans (unhide hB2) hb3)
  clear c0 c1 c2 hb3 hl
  obtain ⟨c0, c1, c2⟩ := unhide H3
  have hl := (unhide H3).lt
  go_wp2_with fail
  refine (KW_is kk nn t K _ hv hs HK).mono ?_
  rintro e w4 ⟨rfl, hb4⟩
  have H4 := hide ((unhide H3).later hb4)
  have hB4 := hide (nx_trans (unhide hB3) hb4)
  clear c0 c1 c2 hb4 hl
  obtain ⟨c0, c1, c2⟩ := unhide H4
  have hl := (unhide H4).lt
  go_wp2_with fail
  refine (sKW_is kk nn t K _ hv hs HK).mono ?_
  rintro e w5 ⟨rfl, hb5⟩
  have H5 := hide ((unhide H4).later hb5)
  have hB5 := hide (nx_trans (unhide hB4) hb5)
  clear c0 c1 c2 hb5 hl
  by_cases hk : kk = 3
  · have e3 : (kk == 3) = true := by rw [hk]; rfl
    obtain rfl := unhide htx hk
    cases hp : plainB t.data.toList
    · have hq : Hid (quoteR t = ([], 4)) := hide (by unfold quoteR; rw [if_neg (by omega), if_neg (by rw [hp]; simp)])
      clear hp hk
      obtain ⟨c0, c1, c2⟩ := unhide H5
      have hl := (unhide H5).lt
      go_wp2_with fail
      refine (QT_is t [] 4 _ hs hq).mono ?_
      rintro e w6 ⟨rfl, hb6⟩
      have H6 := hide ((unhide H5).later hb6)
      have hB6 := hide (nx_trans (unhide hB5) hb6)
      clear c0 c1 c2 hb6 hl
      go_wp2
      go_ret
      exact ⟨rfl, unhide hB6⟩
    · have hq : Hid (quoteR t = (quoteL t.data.toList, 0)) := hide (by unfold quoteR; rw [if_neg (by omega), if_pos hp])
      have hrq : Hid (readR ⟨(quoteL t.data.toList).toArray⟩ = ⟨kk, 0, t, 0⟩) := hide (by rw [hk]; exact read_quoted t hp)
      have hqz : Hid ((⟨(quoteL t.data.toList).toArray⟩ : ByteArray).size ≤ 65536) := hide (by
        have := quoteL_len' t.data.toList
        rw [size_list] at this
        show (quoteL t.data.toList).toArray.size ≤ 65536
        simp; omega)
      clear hp hk
      generalize quoteL t.data.toList = q at hq hrq hqz
      have hv' := hv
      obtain ⟨c0, c1, c2⟩ := unhide H5
      have hl := (unhide H5).lt
      go_wp2_with fail
      refine (QT_is t q 0 _ hs hq).mono ?_
      rintro e w6 ⟨rfl, hb6⟩
      have H6 := hide ((unhide H5).later hb6)
      have hB6 := hide (nx_trans (unhide hB5) hb6)
      clear c0 c1 c2 hb6 hl
      obtain ⟨c0, c1, c2⟩ := unhide H6
      have hl := (unhide H6).lt
      go_wp2_with fail
      refine (RV_is ⟨q.toArray⟩ kk 0 t _ (unhide hqz) hrq).mono ?_
      rintro e w7 ⟨rfl, hb7⟩
      have H7 := hide ((unhide H6).later hb7)
      have hB7 := hide (nx_trans (unhide hB6) hb7)
      clear c0 c1 c2 hb7 hl
      have G := hide (show Held3 (w7.alloc (.cells #[.int .i64 kk, .int .i64 0, .string t] 24)) w7.heap.size kk 0 t from ⟨by simp, by simp, by simp⟩)
      have H7a := hide ((unhide H7).later (nx_alloc w7 (.cells #[.int .i64 kk, .int .i64 0, .string t] 24)))
      have hlt7 := (unhide H7).lt
      obtain ⟨c0, c1, c2⟩ := unhide H7a
      go_wp2_with fail
      refine (str_is kk 0 t T _ _ _ hv hs (args1 (by simp) (by simp) (by simp)) ((unhide HT).later (nx_al (nx_al (unhide hB7))) (Nat.le_refl _)) HV).mono ?_
      rintro e w8 ⟨rfl, hb8⟩
      have H8 := hide (((unhide H7a).later (nx_alloc _ _)).later hb8)
      have G8 := hide (((unhide G).later (nx_alloc _ _)).later hb8)
      have hB8 := hide (nx_trans (nx_al (nx_al (unhide hB7))) hb8)
      clear c0 c1 c2 hb8
      go_wp2_with fail
      refine (cut_is _).mono ?_
      rintro e wz ⟨rfl, rfl⟩
      obtain ⟨c0, c1, c2⟩ := (unhide H8).later (nx_alloc w8 (.cells #[.int .i64 3, .int .i64 0, .string T] 24))
      obtain ⟨d0, d1, d2⟩ := (unhide G8).later (nx_alloc w8 (.cells #[.int .i64 3, .int .i64 0, .string T] 24))
      go_wp2
      go_ret
      exact ⟨rfl, nx_al (unhide hB8)⟩
  · have e3 : (kk == 3) = false := beq_eq_false_iff_ne.2 hk
    have hrd := hide (unhide hread hk)
    clear hk
    obtain ⟨c0, c1, c2⟩ := unhide H5
    have hl := (unhide H5).lt
    go_wp2_with fail
    refine (RV_is T kk nn t _ (by have := unhide hTs; omega) hrd).mono ?_
    rintro e w6 ⟨rfl, hb6⟩
    have H6 := hide ((unhide H5).later hb6)
    have hB6 := hide (nx_trans (unhide hB5) hb6)
    clear c0 c1 c2 hb6 hl
    have G := hide (show Held3 (w6.alloc (.cells #[.int .i64 kk, .int .i64 nn, .string t] 24)) w6.heap.size kk nn t from ⟨by simp, by simp, by simp⟩)
    have H6a := hide ((unhide H6).later (nx_alloc w6 (.cells #[.int .i64 kk, .int .i64 nn, .string t] 24)))
    have hlt6 := (unhide H6).lt
    obtain ⟨c0, c1, c2⟩ := unhide H6a
    go_wp2_with fail
    refine (str_is kk nn t T _ _ _ hv hs (args1 (by simp) (by simp) (by simp)) ((unhide HT).later (nx_al (nx_al (unhide hB6))) (Nat.le_refl _)) HV).mono ?_
    rintro e w7 ⟨rfl, hb7⟩
    have H7 := hide (((unhide H6a).later (nx_alloc _ _)).later hb7)
    have G7 := hide (((unhide G).later (nx_alloc _ _)).later hb7)
    have hB7 := hide (nx_trans (nx_al (nx_al (unhide hB6))) hb7)
    clear c0 c1 c2 hb7
    go_wp2_with fail
    refine (cut_is _).mono ?_
    rintro e wz ⟨rfl, rfl⟩
    obtain ⟨c0, c1, c2⟩ := (unhide H7).later (nx_alloc w7 (.cells #[.int .i64 3, .int .i64 0, .string T] 24))
    obtain ⟨d0, d1, d2⟩ := (unhide G7).later (nx_alloc w7 (.cells #[.int .i64 3, .int .i64 0, .string T] 24))
    go_wp2
    go_ret
    exact ⟨rfl, nx_al (unhide hB7)⟩

end Go.Proofs.YtckdacbopejdmaaDoor
