/- 'impl.Builtin' and 'spec.Builtin': what is common to all names. -/
import Derived.Test.YtpncohkbdaoceaaDoorBuiltin4
import Derived.Test.YtpncohkbdaoceaaDoorTexts1
namespace Go.Proofs.YtpncohkbdaoceaaDoor
open Go.RowKit
set_option linter.unusedVariables false

theorem l01Count_len (s : ByteArray) (w : World) (h : s.toList = [108, 101, 110]) :
    Calls Tryd.prog 43 #[.string s] w fun e w' => e = .returned (.int .i64 1) ∧ w' = w := by
  go_enter Tryd.func43, Tryd.ntmps43
  go_wp2
  go_ret
  exact ⟨rfl, rfl⟩

theorem l01Count_str (s : ByteArray) (w : World) (h : s.toList = [115, 116, 114]) :
    Calls Tryd.prog 43 #[.string s] w fun e w' => e = .returned (.int .i64 1) ∧ w' = w := by
  go_enter Tryd.func43, Tryd.ntmps43
  go_wp2
  go_ret
  exact ⟨rfl, rfl⟩

theorem l01Count_abs (s : ByteArray) (w : World) (h : s.toList = [97, 98, 115]) :
    Calls Tryd.prog 43 #[.string s] w fun e w' => e = .returned (.int .i64 1) ∧ w' = w := by
  go_enter Tryd.func43, Tryd.ntmps43
  go_wp2
  go_ret
  exact ⟨rfl, rfl⟩

theorem l01Count_at (s : ByteArray) (w : World) (h : s.toList = [97, 116]) :
    Calls Tryd.prog 43 #[.string s] w fun e w' => e = .returned (.int .i64 2) ∧ w' = w := by
  go_enter Tryd.func43, Tryd.ntmps43
  go_wp2
  go_ret
  exact ⟨rfl, rfl⟩

theorem l01Count_max (s : ByteArray) (w : World) (h : s.toList = [109, 97, 120]) :
    Calls Tryd.prog 43 #[.string s] w fun e w' => e = .returned (.int .i64 2) ∧ w' = w := by
  go_enter Tryd.func43, Tryd.ntmps43
  go_wp2
  go_ret
  exact ⟨rfl, rfl⟩

theorem l01Count_min (s : ByteArray) (w : World) (h : s.toList = [109, 105, 110]) :
    Calls Tryd.prog 43 #[.string s] w fun e w' => e = .returned (.int .i64 2) ∧ w' = w := by
  go_enter Tryd.func43, Tryd.ntmps43
  go_wp2
  go_ret
  exact ⟨rfl, rfl⟩

theorem l01Count_cut (s : ByteArray) (w : World) (h : s.toList = [99, 117, 116]) :
    Calls Tryd.prog 43 #[.string s] w fun e w' => e = .returned (.int .i64 3) ∧ w' = w := by
  go_enter Tryd.func43, Tryd.ntmps43
  go_wp2
  go_ret
  exact ⟨rfl, rfl⟩

theorem l01Count_none (s : ByteArray) (w : World) (h0 : (s.toList == [108, 101, 110]) = false) (h1 : (s.toList == [115, 116, 114]) = false) (h2 : (s.toList == [97, 98, 115]) = false) (h3 : (s.toList == [97, 116]) = false) (h4 : (s.toList == [109, 97, 120]) = false) (h5 : (s.toList == [109, 105, 110]) = false) (h6 : (s.toList == [99, 117, 116]) = false) :
    Calls Tryd.prog 43 #[.string s] w fun e w' => e = .returned (.int .i64 (-1)) ∧ w' = w := by
  go_enter Tryd.func43, Tryd.ntmps43
  go_wp2
  go_ret
  exact ⟨rfl, rfl⟩

theorem Builtin_long1 (nm : ByteArray) (vs : List V3) (b cap : Nat) (w : World) (hl : vs.length ≤ 1048576) (h : 65536 < nm.size) :
    Calls Tryd.prog 11 #[.string nm, .slice (some ⟨b, 0, none⟩) vs.length cap] w fun e w' => e = .returned (.tuple #[.agg #[.int .i64 0, .int .i64 0, .string ⟨#[]⟩], .int .i64 2]) ∧ Below w.heap.size w w' := by
  go_enter Tryd.func11, Tryd.ntmps11
  go_wp2
  exact bodyPost_ret (v := (.tuple #[.agg #[.int .i64 0, .int .i64 0, .string ⟨#[]⟩], .int .i64 2])) (by simp [results, Tryd.results11, go_sem]) rfl ⟨rfl, (by repeat (first | exact Below.refl _ _ | refine nx_al ?_ | refine nx_set ?_ (by first | omega | (simp <;> omega)) | refine nx_drew ?_ | refine nx_trans ?_ (by assumption)))⟩

theorem Builtin_long2 (nm : ByteArray) (vs : List V3) (b cap : Nat) (w : World) (hl : vs.length ≤ 1048576) (hn : nm.size ≤ 65536) (h : 4096 < vs.length) :
    Calls Tryd.prog 11 #[.string nm, .slice (some ⟨b, 0, none⟩) vs.length cap] w fun e w' => e = .returned (.tuple #[.agg #[.int .i64 0, .int .i64 0, .string ⟨#[]⟩], .int .i64 2]) ∧ Below w.heap.size w w' := by
  go_enter Tryd.func11, Tryd.ntmps11
  go_wp2
  exact bodyPost_ret (v := (.tuple #[.agg #[.int .i64 0, .int .i64 0, .string ⟨#[]⟩], .int .i64 2])) (by simp [results, Tryd.results11, go_sem]) rfl ⟨rfl, (by repeat (first | exact Below.refl _ _ | refine nx_al ?_ | refine nx_set ?_ (by first | omega | (simp <;> omega)) | refine nx_drew ?_ | refine nx_trans ?_ (by assumption)))⟩

set_option maxHeartbeats 2000000 in
theorem Builtin_bad (nm : ByteArray) (vs : List V3) (b cap : Nat) (w : World) (hn : nm.size ≤ 65536) (hl : vs.length ≤ 4096) (hargs : ArgsAt w b vs) (hsz : ∀ v ∈ vs, v.t.size ≤ maxLen) (hbad : ¬ ∀ i (h : i < vs.length), vokB vs[i].k vs[i].n vs[i].t = true) :
    Calls Tryd.prog 11 #[.string nm, .slice (some ⟨b, 0, none⟩) vs.length cap] w fun e w' => e = .returned (.tuple #[.agg #[.int .i64 0, .int .i64 0, .string ⟨#[]⟩], .int .i64 1]) ∧ Below w.heap.size w w' := by
  have HA := hide hargs
  have HS := hide hsz
  have HB := hide hbad
  clear hargs hsz hbad
  go_enter Tryd.func11, Tryd.ntmps11
  go_wp2
  go_loopw [21] (fun i wx => ∃ k : Nat, k ≤ vs.length ∧ i = .int .i64 k ∧ Hid (∀ i (h : i < vs.length), i < k → vokB vs[i].k vs[i].n vs[i].t = true) ∧ Below (w.heap.size + 1) (w.alloc Z24) wx) (fun i _ => vs.length - (intOf i).toNat)
  case atStart => exact ⟨0, by omega, rfl, hide (fun i _ h => absurd h (by omega)), Below.refl _ _⟩
  case round =>
    obtain ⟨k, hk, rfl, HK, hnx⟩ := hrel
    by_cases hlt : k < vs.length
    · obtain ⟨q0, q1, q2⟩ := args_z24 (unhide HA) hnx k hlt
      have hsz := unhide HS vs[k] (List.getElem_mem hlt)
      have HV := hide (show vokB vs[k].k vs[k].n vs[k].t = true → ∀ i (h : i < vs.length), i < k + 1 → vokB vs[i].k vs[i].n vs[i].t = true from fun hv i h hi => by
        by_cases e : i = k
        · subst e; exact hv
        · exact unhide HK i h (by omega))
      generalize vs[k].k = vk at q0 HV
      generalize vs[k].n = vn at q1 HV
      generalize vs[k].t = vt at q2 HV hsz
      cases hv : vokB vk vn vt
      · go_wp2_with fail
        refine (ValueOK_any vk vn vt _ hsz).mono ?_
        rintro e w1 ⟨rfl, hb1⟩
        rw [hv]
        obtain ⟨hc, hf, hz⟩ := z24_cells (z24_trans (z24_trans hnx (nx_alloc _ _)) hb1)
        go_wp2
        exact bodyPost_ret (v := (.tuple #[.agg #[.int .i64 0, .int .i64 0, .string ⟨#[]⟩], .int .i64 1])) (by simp [results, Tryd.results11, go_sem, hc]) rfl ⟨rfl, nx_set (nx_set (nx_set (z24_out (z24_trans (z24_trans hnx (nx_alloc _ _)) hb1)) (Nat.le_refl _)) (Nat.le_refl _)) (Nat.le_refl _)⟩
      · have HK1 := hide (unhide HV hv)
        clear HK HV
        go_wp2_with fail
        refine (ValueOK_any vk vn vt _ hsz).mono ?_
        rintro e w1 ⟨rfl, hb1⟩
        rw [hv]
        go_wp2
        go_roundw
        case rel => exact ⟨k + 1, by omega, by go_num, HK1, z24_trans (z24_trans hnx (nx_alloc _ _)) hb1⟩
        case measure => simp [intOf]; omega
    · exact absurd (fun i h => unhide HK i h (by omega)) (unhide HB)

set_option maxHeartbeats 2000000 in
theorem Builtin_none (nm : ByteArray) (vs : List V3) (b cap : Nat) (w : World) (hn : nm.size ≤ 65536) (hl : vs.length ≤ 4096) (hargs : ArgsAt w b vs) (hok : ∀ v ∈ vs, okV v) (hcnt : Hid (∀ w, Calls Tryd.prog 31 #[.string nm] w fun e w' => e = .returned (.tuple #[.int .i64 0, .int .i64 5]) ∧ w' = w)) :
    Calls Tryd.prog 11 #[.string nm, .slice (some ⟨b, 0, none⟩) vs.length cap] w fun e w' => e = .returned (.tuple #[.agg #[.int .i64 0, .int .i64 0, .string ⟨#[]⟩], .int .i64 5]) ∧ Below w.heap.size w w' := by
  have HA := hide hargs
  have HK := hide hok
  clear hargs hok
  go_enter Tryd.func11, Tryd.ntmps11
  go_wp2
  go_loopw [21] (fun i wx => ∃ k : Nat, k ≤ vs.length ∧ i = .int .i64 k ∧ Below (w.heap.size + 1) (w.alloc Z24) wx) (fun i _ => vs.length - (intOf i).toNat)
  case atStart => exact ⟨0, by omega, rfl, Below.refl _ _⟩
  case round =>
    obtain ⟨k, hk, rfl, hnx⟩ := hrel
    by_cases hlt : k < vs.length
    · obtain ⟨q0, q1, q2⟩ := args_z24 (unhide HA) hnx k hlt
      obtain ⟨hv, hsz⟩ := unhide HK vs[k] (List.getElem_mem hlt)
      generalize vs[k].k = vk at q0 hv
      generalize vs[k].n = vn at q1 hv
      generalize vs[k].t = vt at q2 hv hsz
      go_wp2_with fail
      refine (ValueOK_any vk vn vt _ hsz).mono ?_
      rintro e w1 ⟨rfl, hb1⟩
      go_wp2
      go_roundw
      case rel => exact ⟨k + 1, by omega, by go_num, z24_trans (z24_trans hnx (nx_alloc _ _)) hb1⟩
      case measure => simp [intOf]; omega
    · obtain ⟨hc, hf, hz⟩ := z24_cells hnx
      go_wp2_with fail
      refine (unhide hcnt _).mono ?_
      rintro e wr ⟨rfl, rfl⟩
      go_wp2
      exact bodyPost_ret (v := (.tuple #[.agg #[.int .i64 0, .int .i64 0, .string ⟨#[]⟩], .int .i64 5])) (by simp [results, Tryd.results11, go_sem, hc]) rfl ⟨rfl, nx_set (nx_set (nx_set (z24_out hnx) (Nat.le_refl _)) (Nat.le_refl _)) (Nat.le_refl _)⟩

set_option maxHeartbeats 2000000 in
theorem Builtin_runT (nm : ByteArray) (vs : List V3) (b cap : Nat) (c : Int) (tk : ByteArray) (r : Res) (w : World) (hn : nm.size ≤ 65536) (hl : vs.length ≤ 4096) (hargs : ArgsAt w b vs) (hok : ∀ v ∈ vs, okV v)
    (hcnt : Hid (∀ w, Calls Tryd.prog 31 #[.string nm] w fun e w' => e = .returned (.tuple #[.int .i64 c, .int .i64 0]) ∧ w' = w)) (hlen : (((vs.length : Int)) != c) = false)
    (htk : Hid (∀ w, Calls Tryd.prog 33 #[.string nm] w fun e w' => e = .returned (.string tk) ∧ w' = w))
    (hfit : Hid (∀ w, ArgsAt w b vs → Calls Tryd.prog 32 #[.string tk, .slice (some ⟨b, 0, none⟩) vs.length cap] w fun e w' => e = .returned (.bool true) ∧ Below w.heap.size w w'))
    (hT : PowTab w)
    (hcall : Hid (∀ w, ArgsAt w b vs → PowTab w → Calls Tryd.prog 34 #[.string nm, .slice (some ⟨b, 0, none⟩) vs.length cap] w fun e w' => e = .returned (.tuple #[.agg #[.int .i64 r.k, .int .i64 r.n, .string r.t], .int .i64 r.c]) ∧ Below w.heap.size w w')) :
    Calls Tryd.prog 11 #[.string nm, .slice (some ⟨b, 0, none⟩) vs.length cap] w fun e w' => e = .returned (.tuple #[.agg #[.int .i64 r.k, .int .i64 r.n, .string r.t], .int .i64 r.c]) ∧ Below w.heap.size w w' := by
  have HA := hide hargs
  have HK := hide hok
  have HT := hide hT
  clear hargs hok hT
  go_enter Tryd.func11, Tryd.ntmps11
  go_wp2
  go_loopw [21] (fun i wx => ∃ k : Nat, k ≤ vs.length ∧ i = .int .i64 k ∧ Below (w.heap.size + 1) (w.alloc Z24) wx) (fun i _ => vs.length - (intOf i).toNat)
  case atStart => exact ⟨0, by omega, rfl, Below.refl _ _⟩
  case round =>
    obtain ⟨k, hk, rfl, hnx⟩ := hrel
    by_cases hlt : k < vs.length
    · obtain ⟨q0, q1, q2⟩ := args_z24 (unhide HA) hnx k hlt
      obtain ⟨hv, hsz⟩ := unhide HK vs[k] (List.getElem_mem hlt)
      generalize vs[k].k = vk at q0 hv
      generalize vs[k].n = vn at q1 hv
      generalize vs[k].t = vt at q2 hv hsz
      go_wp2_with fail
      refine (ValueOK_any vk vn vt _ hsz).mono ?_
      rintro e w1 ⟨rfl, hb1⟩
      go_wp2
      go_roundw
      case rel => exact ⟨k + 1, by omega, by go_num, z24_trans (z24_trans hnx (nx_alloc _ _)) hb1⟩
      case measure => simp [intOf]; omega
    · obtain ⟨hc, hf, hz⟩ := z24_cells hnx
      clear hc hf
      go_wp2_with fail
      refine (unhide hcnt _).mono ?_
      rintro e wr ⟨rfl, rfl⟩
      go_wp2_with fail
      refine (unhide htk _).mono ?_
      rintro e wr ⟨rfl, rfl⟩
      go_wp2_with fail
      refine (unhide hfit _ (args_z24 (unhide HA) hnx)).mono ?_
      rintro e w1 ⟨rfl, hb1⟩
      have hnx1 := z24_trans hnx hb1
      go_wp2_with fail
      refine (unhide hcall _ (args_z24 (unhide HA) hnx1) ((unhide HT).later (z24_out hnx1) (Nat.le_refl _))).mono ?_
      rintro e w2 ⟨rfl, hb2⟩
      have hnx2 := z24_trans hnx1 hb2
      obtain ⟨hc, hf, hz⟩ := z24_cells hnx2
      go_wp2
      exact bodyPost_ret (v := (.tuple #[.agg #[.int .i64 r.k, .int .i64 r.n, .string r.t], .int .i64 r.c])) (by simp [results, Tryd.results11, go_sem, hc]) rfl ⟨rfl, nx_set (nx_set (nx_set (z24_out hnx2) (Nat.le_refl _)) (Nat.le_refl _)) (Nat.le_refl _)⟩

theorem specBuiltin_long1 (nm : ByteArray) (vs : List V3) (b cap : Nat) (w : World) (hl : vs.length ≤ 1048576) (h : 65536 < nm.size) :
    Calls Tryd.prog 24 #[.string nm, .slice (some ⟨b, 0, none⟩) vs.length cap] w fun e w' => e = .returned (.tuple #[.agg #[.int .i64 0, .int .i64 0, .string ⟨#[]⟩], .int .i64 2]) ∧ Below w.heap.size w w' := by
  go_enter Tryd.func24, Tryd.ntmps24
  go_wp2
  exact bodyPost_ret (v := (.tuple #[.agg #[.int .i64 0, .int .i64 0, .string ⟨#[]⟩], .int .i64 2])) (by simp [results, Tryd.results24, go_sem]) rfl ⟨rfl, (by repeat (first | exact Below.refl _ _ | refine nx_al ?_ | refine nx_set ?_ (by first | omega | (simp <;> omega)) | refine nx_drew ?_ | refine nx_trans ?_ (by assumption)))⟩

theorem specBuiltin_long2 (nm : ByteArray) (vs : List V3) (b cap : Nat) (w : World) (hl : vs.length ≤ 1048576) (hn : nm.size ≤ 65536) (h : 4096 < vs.length) :
    Calls Tryd.prog 24 #[.string nm, .slice (some ⟨b, 0, none⟩) vs.length cap] w fun e w' => e = .returned (.tuple #[.agg #[.int .i64 0, .int .i64 0, .string ⟨#[]⟩], .int .i64 2]) ∧ Below w.heap.size w w' := by
  go_enter Tryd.func24, Tryd.ntmps24
  go_wp2
  exact bodyPost_ret (v := (.tuple #[.agg #[.int .i64 0, .int .i64 0, .string ⟨#[]⟩], .int .i64 2])) (by simp [results, Tryd.results24, go_sem]) rfl ⟨rfl, (by repeat (first | exact Below.refl _ _ | refine nx_al ?_ | refine nx_set ?_ (by first | omega | (simp <;> omega)) | refine nx_drew ?_ | refine nx_trans ?_ (by assumption)))⟩

set_option maxHeartbeats 2000000 in
theorem specBuiltin_bad (nm : ByteArray) (vs : List V3) (b cap : Nat) (w : World) (hn : nm.size ≤ 65536) (hl : vs.length ≤ 4096) (hargs : ArgsAt w b vs) (hsz : ∀ v ∈ vs, v.t.size ≤ maxLen) (hbad : ¬ ∀ i (h : i < vs.length), vokB vs[i].k vs[i].n vs[i].t = true) :
    Calls Tryd.prog 24 #[.string nm, .slice (some ⟨b, 0, none⟩) vs.length cap] w fun e w' => e = .returned (.tuple #[.agg #[.int .i64 0, .int .i64 0, .string ⟨#[]⟩], .int .i64 1]) ∧ Below w.heap.size w w' := by
  have HA := hide hargs
  have HS := hide hsz
  have HB := hide hbad
  clear hargs hsz hbad
  go_enter Tryd.func24, Tryd.ntmps24
  go_wp2
  go_loopw [6] (fun i wx => ∃ k : Nat, k ≤ vs.length ∧ i = .int .i64 k ∧ Hid (∀ i (h : i < vs.length), i < k → vokB vs[i].k vs[i].n vs[i].t = true) ∧ Below (w.heap.size + 1) (w.alloc Z24) wx) (fun i _ => vs.length - (intOf i).toNat)
  case atStart => exact ⟨0, by omega, rfl, hide (fun i _ h => absurd h (by omega)), Below.refl _ _⟩
  case round =>
    obtain ⟨k, hk, rfl, HK, hnx⟩ := hrel
    by_cases hlt : k < vs.length
    · obtain ⟨q0, q1, q2⟩ := args_z24 (unhide HA) hnx k hlt
      have hsz := unhide HS vs[k] (List.getElem_mem hlt)
      have HV := hide (show vokB vs[k].k vs[k].n vs[k].t = true → ∀ i (h : i < vs.length), i < k + 1 → vokB vs[i].k vs[i].n vs[i].t = true from fun hv i h hi => by
        by_cases e : i = k
        · subst e; exact hv
        · exact unhide HK i h (by omega))
      generalize vs[k].k = vk at q0 HV
      generalize vs[k].n = vn at q1 HV
      generalize vs[k].t = vt at q2 HV hsz
      cases hv : vokB vk vn vt
      · go_wp2_with fail
        refine (specValueOK_any vk vn vt _ hsz).mono ?_
        rintro e w1 ⟨rfl, hb1⟩
        rw [hv]
        obtain ⟨hc, hf, hz⟩ := z24_cells (z24_trans hnx hb1)
        go_wp2
        exact bodyPost_ret (v := (.tuple #[.agg #[.int .i64 0, .int .i64 0, .string ⟨#[]⟩], .int .i64 1])) (by simp [results, Tryd.results24, go_sem, hc]) rfl ⟨rfl, nx_set (nx_set (nx_set (z24_out (z24_trans hnx hb1)) (Nat.le_refl _)) (Nat.le_refl _)) (Nat.le_refl _)⟩
      · have HK1 := hide (unhide HV hv)
        clear HK HV
        go_wp2_with fail
        refine (specValueOK_any vk vn vt _ hsz).mono ?_
        rintro e w1 ⟨rfl, hb1⟩
        rw [hv]
        go_wp2
        go_roundw
        case rel => exact ⟨k + 1, by omega, by go_num, HK1, z24_trans hnx hb1⟩
        case measure => simp [intOf]; omega
    · exact absurd (fun i h => unhide HK i h (by omega)) (unhide HB)

set_option maxHeartbeats 2000000 in
theorem specBuiltin_none (nm : ByteArray) (vs : List V3) (b cap : Nat) (w : World) (hn : nm.size ≤ 65536) (hl : vs.length ≤ 4096) (hargs : ArgsAt w b vs) (hok : ∀ v ∈ vs, okV v) (hcnt : Hid (∀ w, Calls Tryd.prog 43 #[.string nm] w fun e w' => e = .returned (.int .i64 (-1)) ∧ w' = w)) :
    Calls Tryd.prog 24 #[.string nm, .slice (some ⟨b, 0, none⟩) vs.length cap] w fun e w' => e = .returned (.tuple #[.agg #[.int .i64 0, .int .i64 0, .string ⟨#[]⟩], .int .i64 5]) ∧ Below w.heap.size w w' := by
  have HA := hide hargs
  have HK := hide hok
  clear hargs hok
  go_enter Tryd.func24, Tryd.ntmps24
  go_wp2
  go_loopw [6] (fun i wx => ∃ k : Nat, k ≤ vs.length ∧ i = .int .i64 k ∧ Below (w.heap.size + 1) (w.alloc Z24) wx) (fun i _ => vs.length - (intOf i).toNat)
  case atStart => exact ⟨0, by omega, rfl, Below.refl _ _⟩
  case round =>
    obtain ⟨k, hk, rfl, hnx⟩ := hrel
    by_cases hlt : k < vs.length
    · obtain ⟨q0, q1, q2⟩ := args_z24 (unhide HA) hnx k hlt
      obtain ⟨hv, hsz⟩ := unhide HK vs[k] (List.getElem_mem hlt)
      generalize vs[k].k = vk at q0 hv
      generalize vs[k].n = vn at q1 hv
      generalize vs[k].t = vt at q2 hv hsz
      go_wp2_with fail
      refine (specValueOK_any vk vn vt _ hsz).mono ?_
      rintro e w1 ⟨rfl, hb1⟩
      go_wp2
      go_roundw
      case rel => exact ⟨k + 1, by omega, by go_num, z24_trans hnx hb1⟩
      case measure => simp [intOf]; omega
    · obtain ⟨hc, hf, hz⟩ := z24_cells hnx
      go_wp2_with fail
      refine (unhide hcnt _).mono ?_
      rintro e wr ⟨rfl, rfl⟩
      go_wp2
      exact bodyPost_ret (v := (.tuple #[.agg #[.int .i64 0, .int .i64 0, .string ⟨#[]⟩], .int .i64 5])) (by simp [results, Tryd.results24, go_sem, hc]) rfl ⟨rfl, nx_set (nx_set (nx_set (z24_out hnx) (Nat.le_refl _)) (Nat.le_refl _)) (Nat.le_refl _)⟩

set_option maxHeartbeats 2000000 in
theorem specBuiltin_count (nm : ByteArray) (vs : List V3) (b cap : Nat) (c : Int) (w : World) (hn : nm.size ≤ 65536) (hl : vs.length ≤ 4096) (hargs : ArgsAt w b vs) (hok : ∀ v ∈ vs, okV v) (hcnt : Hid (∀ w, Calls Tryd.prog 43 #[.string nm] w fun e w' => e = .returned (.int .i64 c) ∧ w' = w)) (hc0 : 0 ≤ c) (hlen : (((vs.length : Int)) != c) = true) :
    Calls Tryd.prog 24 #[.string nm, .slice (some ⟨b, 0, none⟩) vs.length cap] w fun e w' => e = .returned (.tuple #[.agg #[.int .i64 0, .int .i64 0, .string ⟨#[]⟩], .int .i64 14]) ∧ Below w.heap.size w w' := by
  have HA := hide hargs
  have HK := hide hok
  clear hargs hok
  go_enter Tryd.func24, Tryd.ntmps24
  go_wp2
  go_loopw [6] (fun i wx => ∃ k : Nat, k ≤ vs.length ∧ i = .int .i64 k ∧ Below (w.heap.size + 1) (w.alloc Z24) wx) (fun i _ => vs.length - (intOf i).toNat)
  case atStart => exact ⟨0, by omega, rfl, Below.refl _ _⟩
  case round =>
    obtain ⟨k, hk, rfl, hnx⟩ := hrel
    by_cases hlt : k < vs.length
    · obtain ⟨q0, q1, q2⟩ := args_z24 (unhide HA) hnx k hlt
      obtain ⟨hv, hsz⟩ := unhide HK vs[k] (List.getElem_mem hlt)
      generalize vs[k].k = vk at q0 hv
      generalize vs[k].n = vn at q1 hv
      generalize vs[k].t = vt at q2 hv hsz
      go_wp2_with fail
      refine (specValueOK_any vk vn vt _ hsz).mono ?_
      rintro e w1 ⟨rfl, hb1⟩
      go_wp2
      go_roundw
      case rel => exact ⟨k + 1, by omega, by go_num, z24_trans hnx hb1⟩
      case measure => simp [intOf]; omega
    · obtain ⟨hc, hf, hz⟩ := z24_cells hnx
      go_wp2_with fail
      refine (unhide hcnt _).mono ?_
      rintro e wr ⟨rfl, rfl⟩
      go_wp2
      exact bodyPost_ret (v := (.tuple #[.agg #[.int .i64 0, .int .i64 0, .string ⟨#[]⟩], .int .i64 14])) (by simp [results, Tryd.results24, go_sem, hc]) rfl ⟨rfl, nx_set (nx_set (nx_set (z24_out hnx) (Nat.le_refl _)) (Nat.le_refl _)) (Nat.le_refl _)⟩

set_option maxHeartbeats 2000000 in
theorem specBuiltin_run (nm : ByteArray) (vs : List V3) (b cap : Nat) (c : Int) (r : Res) (w : World) (hn : nm.size ≤ 65536) (hl : vs.length ≤ 4096) (hargs : ArgsAt w b vs) (hok : ∀ v ∈ vs, okV v) (hcnt : Hid (∀ w, Calls Tryd.prog 43 #[.string nm] w fun e w' => e = .returned (.int .i64 c) ∧ w' = w)) (hc0 : 0 ≤ c) (hlen : (((vs.length : Int)) != c) = false)
    (hcall : Hid (∀ w, ArgsAt w b vs → Calls Tryd.prog 44 #[.string nm, .slice (some ⟨b, 0, none⟩) vs.length cap] w fun e w' => e = .returned (.tuple #[.agg #[.int .i64 r.k, .int .i64 r.n, .string r.t], .int .i64 r.c]) ∧ Below w.heap.size w w')) :
    Calls Tryd.prog 24 #[.string nm, .slice (some ⟨b, 0, none⟩) vs.length cap] w fun e w' => e = .returned (.tuple #[.agg #[.int .i64 r.k, .int .i64 r.n, .string r.t], .int .i64 r.c]) ∧ Below w.heap.size w w' := by
  have HA := hide hargs
  have HK := hide hok
  clear hargs hok
  go_enter Tryd.func24, Tryd.ntmps24
  go_wp2
  go_loopw [6] (fun i wx => ∃ k : Nat, k ≤ vs.length ∧ i = .int .i64 k ∧ Below (w.heap.size + 1) (w.alloc Z24) wx) (fun i _ => vs.length - (intOf i).toNat)
  case atStart => exact ⟨0, by omega, rfl, Below.refl _ _⟩
  case round =>
    obtain ⟨k, hk, rfl, hnx⟩ := hrel
    by_cases hlt : k < vs.length
    · obtain ⟨q0, q1, q2⟩ := args_z24 (unhide HA) hnx k hlt
      obtain ⟨hv, hsz⟩ := unhide HK vs[k] (List.getElem_mem hlt)
      generalize vs[k].k = vk at q0 hv
      generalize vs[k].n = vn at q1 hv
      generalize vs[k].t = vt at q2 hv hsz
      go_wp2_with fail
      refine (specValueOK_any vk vn vt _ hsz).mono ?_
      rintro e w1 ⟨rfl, hb1⟩
      go_wp2
      go_roundw
      case rel => exact ⟨k + 1, by omega, by go_num, z24_trans hnx hb1⟩
      case measure => simp [intOf]; omega
    · go_wp2_with fail
      refine (unhide hcnt _).mono ?_
      rintro e wr ⟨rfl, rfl⟩
      go_wp2_with fail
      refine (unhide hcall _ (args_z24 (unhide HA) hnx)).mono ?_
      rintro e w2 ⟨rfl, hb2⟩
      have hnx2 := z24_trans hnx hb2
      obtain ⟨hc, hf, hz⟩ := z24_cells hnx2
      go_wp2
      exact bodyPost_ret (v := (.tuple #[.agg #[.int .i64 r.k, .int .i64 r.n, .string r.t], .int .i64 r.c])) (by simp [results, Tryd.results24, go_sem, hc]) rfl ⟨rfl, nx_set (nx_set (nx_set (z24_out hnx2) (Nat.le_refl _)) (Nat.le_refl _)) (Nat.le_refl _)⟩

end Go.Proofs.YtpncohkbdaoceaaDoor
