/- What is right of a node by itself, the specification's side: 'l03Node' answers 'partsB'. -/
import Derived.Test.YtbipgmikgokfpaaDoorSNodeWalk1
import Derived.Test.YtbipgmikgokfpaaDoorSNodeWalk0
namespace Go.Proofs.YtbipgmikgokfpaaDoor
open Go.RowKit Go.Joins
set_option linter.unusedVariables false

theorem identB_eq (s : ByteArray) : identB s = (nameB s && decide (s.size ≤ 20) && !wordB s.data.toList) := by
  unfold identB
  rw [tokB_1, nameL_eta, size_list, Bool.and_comm (decide _)]

set_option maxHeartbeats 1000000 in
theorem l03Name_any (s : ByteArray) (w : World) (hs : s.size ≤ maxLen) :
    Calls Tryd.prog 150 #[.string s] w fun e w' => e = .returned (.bool (identB s)) ∧ Below w.heap.size w w' := by
  rw [identB_eq]
  obtain ⟨nb, hnb⟩ : ∃ nb, nameB s = nb := ⟨_, rfl⟩
  have HN := hide hnb
  rw [hnb]
  clear hnb
  by_cases h20 : s.size ≤ 20
  · have e20 : (s.size : Int) ≤ 20 := by omega
    rw [show decide (s.size ≤ 20) = true from decide_eq_true h20]
    cases nb
    · go_enter Tryd.func150, Tryd.ntmps150
      go_wp2_with fail
      refine (specNameOK_any s _ hs).mono ?_
      rintro e w' ⟨rfl, rfl⟩
      rw [unhide HN]
      go_wp2
      go_ret
      exact ⟨rfl, Below.refl _ _⟩
    · go_enter Tryd.func150, Tryd.ntmps150
      go_wp2_with fail
      refine (specNameOK_any s _ hs).mono ?_
      rintro e w' ⟨rfl, rfl⟩
      rw [unhide HN]
      go_wp2_with fail
      refine (specWordOK_any s _ hs).mono ?_
      rintro e w1 ⟨rfl, hb⟩
      go_wp2
      go_ret
      exact ⟨by simp, hb⟩
  · have e20 : ¬ (s.size : Int) ≤ 20 := by omega
    rw [show decide (s.size ≤ 20) = false from decide_eq_false h20]
    cases nb
    all_goals
      go_enter Tryd.func150, Tryd.ntmps150
      go_wp2_with fail
      refine (specNameOK_any s _ hs).mono ?_
      rintro e w' ⟨rfl, rfl⟩
      rw [unhide HN]
      go_wp2
      go_ret
      exact ⟨rfl, Below.refl _ _⟩

set_option maxHeartbeats 2000000 in
set_option maxRecDepth 100000 in
theorem l03Node_named5 (t : ByteArray) (pn : Option Addr) (names : List ByteArray) (cn : Nat) (pk : Option Addr) (kl ck : Nat) (w : World) (hn : names.length = 0) (hs : t.size ≤ maxLen) (hr : StrsAt w pn names) (hl : names.length ≤ 1048576) (hsz : ∀ s ∈ names, s.size ≤ 1048576) :
    Calls Tryd.prog 119 #[.agg #[.int .i64 5, .int .i64 0, .string t, .slice pn names.length cn, .slice pk kl ck]] w fun e w' => e = .returned (.bool (names.all identB && identB t)) ∧ Below w.heap.size w w' := by
  have HR := hide hr
  have HS := hide hsz
  clear hr hsz
  have e3 : ¬ (0 : Int) < (names.length : Int) := by omega
  clear hn
  go_enter Tryd.func119, Tryd.ntmps119
  go_wp2
  go_loopw [4] (fun i wx => ∃ m : Nat, m ≤ names.length ∧ i = .int .i64 m ∧ Hid (IdUp names m) ∧ Hid (Below (w.heap.size + 1) (w.alloc (.cells #[.int .i64 5, .int .i64 0, .string t, .slice pn names.length cn, .slice pk kl ck] 36)) wx)) (fun i _ => names.length - (intOf i).toNat)
  case atStart => exact ⟨0, by omega, rfl, hide (fun j _ h => absurd h (by omega)), hide (Below.refl _ _)⟩
  case round =>
    obtain ⟨m, hm, rfl, hup, hB⟩ := hrel
    have hw1 : w.heap.size + 1 ≤ wr.heap.size := by have := (unhide hB).size; simpa using this
    have hcl : ∀ o, wr.cell? ⟨w.heap.size, o, none⟩ = (w.alloc (.cells #[.int .i64 5, .int .i64 0, .string t, .slice pn names.length cn, .slice pk kl ck] 36)).cell? ⟨w.heap.size, o, none⟩ := fun o => (unhide hB).cell (p := ⟨w.heap.size, o, none⟩) (by simp)
    have c2 : wr.cell? ⟨w.heap.size, 2, none⟩ = some (.string t) := by rw [hcl]; simp
    have c3 : wr.cell? ⟨w.heap.size, 3, none⟩ = some (.slice pn names.length cn) := by rw [hcl]; simp
    clear hcl
    have hN : Hid (Below w.heap.size w wr) := hide ((nx_alloc w _).trans ((unhide hB).mono (by omega)))
    by_cases hlt : m < names.length
    · exfalso; omega
    · obtain rfl : m = names.length := by omega
      have hd := hide ((unhide hup).all)
      go_wp2_with fail
      refine (l03Name_any t _ hs).mono ?_
      rintro e w1 ⟨rfl, hb1⟩
      have hN1 := hide (nx_trans (unhide hN) hb1)
      clear hb1
      go_wp2
      go_ret
      exact ⟨by rw [unhide hd]; rfl, unhide hN1⟩

set_option maxHeartbeats 2000000 in
set_option maxRecDepth 100000 in
theorem l03Node_named10 (t : ByteArray) (pn : Option Addr) (names : List ByteArray) (cn : Nat) (pk : Option Addr) (kl ck : Nat) (w : World) (hn : names.length = 0) (hs : t.size ≤ maxLen) (hr : StrsAt w pn names) (hl : names.length ≤ 1048576) (hsz : ∀ s ∈ names, s.size ≤ 1048576) :
    Calls Tryd.prog 119 #[.agg #[.int .i64 10, .int .i64 0, .string t, .slice pn names.length cn, .slice pk kl ck]] w fun e w' => e = .returned (.bool (names.all identB && identB t)) ∧ Below w.heap.size w w' := by
  have HR := hide hr
  have HS := hide hsz
  clear hr hsz
  have e3 : ¬ (0 : Int) < (names.length : Int) := by omega
  clear hn
  go_enter Tryd.func119, Tryd.ntmps119
  go_wp2
  go_loopw [4] (fun i wx => ∃ m : Nat, m ≤ names.length ∧ i = .int .i64 m ∧ Hid (IdUp names m) ∧ Hid (Below (w.heap.size + 1) (w.alloc (.cells #[.int .i64 10, .int .i64 0, .string t, .slice pn names.length cn, .slice pk kl ck] 36)) wx)) (fun i _ => names.length - (intOf i).toNat)
  case atStart => exact ⟨0, by omega, rfl, hide (fun j _ h => absurd h (by omega)), hide (Below.refl _ _)⟩
  case round =>
    obtain ⟨m, hm, rfl, hup, hB⟩ := hrel
    have hw1 : w.heap.size + 1 ≤ wr.heap.size := by have := (unhide hB).size; simpa using this
    have hcl : ∀ o, wr.cell? ⟨w.heap.size, o, none⟩ = (w.alloc (.cells #[.int .i64 10, .int .i64 0, .string t, .slice pn names.length cn, .slice pk kl ck] 36)).cell? ⟨w.heap.size, o, none⟩ := fun o => (unhide hB).cell (p := ⟨w.heap.size, o, none⟩) (by simp)
    have c2 : wr.cell? ⟨w.heap.size, 2, none⟩ = some (.string t) := by rw [hcl]; simp
    have c3 : wr.cell? ⟨w.heap.size, 3, none⟩ = some (.slice pn names.length cn) := by rw [hcl]; simp
    clear hcl
    have hN : Hid (Below w.heap.size w wr) := hide ((nx_alloc w _).trans ((unhide hB).mono (by omega)))
    by_cases hlt : m < names.length
    · exfalso; omega
    · obtain rfl : m = names.length := by omega
      have hd := hide ((unhide hup).all)
      go_wp2_with fail
      refine (l03Name_any t _ hs).mono ?_
      rintro e w1 ⟨rfl, hb1⟩
      have hN1 := hide (nx_trans (unhide hN) hb1)
      clear hb1
      go_wp2
      go_ret
      exact ⟨by rw [unhide hd]; rfl, unhide hN1⟩

set_option maxHeartbeats 2000000 in
set_option maxRecDepth 100000 in
theorem l03Node_named11 (t : ByteArray) (pn : Option Addr) (names : List ByteArray) (cn : Nat) (pk : Option Addr) (kl ck : Nat) (w : World) (hn : names.length = 0) (hs : t.size ≤ maxLen) (hr : StrsAt w pn names) (hl : names.length ≤ 1048576) (hsz : ∀ s ∈ names, s.size ≤ 1048576) :
    Calls Tryd.prog 119 #[.agg #[.int .i64 11, .int .i64 0, .string t, .slice pn names.length cn, .slice pk kl ck]] w fun e w' => e = .returned (.bool (names.all identB && identB t)) ∧ Below w.heap.size w w' := by
  have HR := hide hr
  have HS := hide hsz
  clear hr hsz
  have e3 : ¬ (0 : Int) < (names.length : Int) := by omega
  clear hn
  go_enter Tryd.func119, Tryd.ntmps119
  go_wp2
  go_loopw [4] (fun i wx => ∃ m : Nat, m ≤ names.length ∧ i = .int .i64 m ∧ Hid (IdUp names m) ∧ Hid (Below (w.heap.size + 1) (w.alloc (.cells #[.int .i64 11, .int .i64 0, .string t, .slice pn names.length cn, .slice pk kl ck] 36)) wx)) (fun i _ => names.length - (intOf i).toNat)
  case atStart => exact ⟨0, by omega, rfl, hide (fun j _ h => absurd h (by omega)), hide (Below.refl _ _)⟩
  case round =>
    obtain ⟨m, hm, rfl, hup, hB⟩ := hrel
    have hw1 : w.heap.size + 1 ≤ wr.heap.size := by have := (unhide hB).size; simpa using this
    have hcl : ∀ o, wr.cell? ⟨w.heap.size, o, none⟩ = (w.alloc (.cells #[.int .i64 11, .int .i64 0, .string t, .slice pn names.length cn, .slice pk kl ck] 36)).cell? ⟨w.heap.size, o, none⟩ := fun o => (unhide hB).cell (p := ⟨w.heap.size, o, none⟩) (by simp)
    have c2 : wr.cell? ⟨w.heap.size, 2, none⟩ = some (.string t) := by rw [hcl]; simp
    have c3 : wr.cell? ⟨w.heap.size, 3, none⟩ = some (.slice pn names.length cn) := by rw [hcl]; simp
    clear hcl
    have hN : Hid (Below w.heap.size w wr) := hide ((nx_alloc w _).trans ((unhide hB).mono (by omega)))
    by_cases hlt : m < names.length
    · exfalso; omega
    · obtain rfl : m = names.length := by omega
      have hd := hide ((unhide hup).all)
      go_wp2_with fail
      refine (l03Name_any t _ hs).mono ?_
      rintro e w1 ⟨rfl, hb1⟩
      have hN1 := hide (nx_trans (unhide hN) hb1)
      clear hb1
      go_wp2
      go_ret
      exact ⟨by rw [unhide hd]; rfl, unhide hN1⟩

set_option maxHeartbeats 2000000 in
set_option maxRecDepth 100000 in
theorem l03Node_named12 (t : ByteArray) (pn : Option Addr) (names : List ByteArray) (cn : Nat) (pk : Option Addr) (kl ck : Nat) (w : World) (hn : names.length = 0) (hs : t.size ≤ maxLen) (hr : StrsAt w pn names) (hl : names.length ≤ 1048576) (hsz : ∀ s ∈ names, s.size ≤ 1048576) :
    Calls Tryd.prog 119 #[.agg #[.int .i64 12, .int .i64 0, .string t, .slice pn names.length cn, .slice pk kl ck]] w fun e w' => e = .returned (.bool (names.all identB && identB t)) ∧ Below w.heap.size w w' := by
  have HR := hide hr
  have HS := hide hsz
  clear hr hsz
  have e3 : ¬ (0 : Int) < (names.length : Int) := by omega
  clear hn
  go_enter Tryd.func119, Tryd.ntmps119
  go_wp2
  go_loopw [4] (fun i wx => ∃ m : Nat, m ≤ names.length ∧ i = .int .i64 m ∧ Hid (IdUp names m) ∧ Hid (Below (w.heap.size + 1) (w.alloc (.cells #[.int .i64 12, .int .i64 0, .string t, .slice pn names.length cn, .slice pk kl ck] 36)) wx)) (fun i _ => names.length - (intOf i).toNat)
  case atStart => exact ⟨0, by omega, rfl, hide (fun j _ h => absurd h (by omega)), hide (Below.refl _ _)⟩
  case round =>
    obtain ⟨m, hm, rfl, hup, hB⟩ := hrel
    have hw1 : w.heap.size + 1 ≤ wr.heap.size := by have := (unhide hB).size; simpa using this
    have hcl : ∀ o, wr.cell? ⟨w.heap.size, o, none⟩ = (w.alloc (.cells #[.int .i64 12, .int .i64 0, .string t, .slice pn names.length cn, .slice pk kl ck] 36)).cell? ⟨w.heap.size, o, none⟩ := fun o => (unhide hB).cell (p := ⟨w.heap.size, o, none⟩) (by simp)
    have c2 : wr.cell? ⟨w.heap.size, 2, none⟩ = some (.string t) := by rw [hcl]; simp
    have c3 : wr.cell? ⟨w.heap.size, 3, none⟩ = some (.slice pn names.length cn) := by rw [hcl]; simp
    clear hcl
    have hN : Hid (Below w.heap.size w wr) := hide ((nx_alloc w _).trans ((unhide hB).mono (by omega)))
    by_cases hlt : m < names.length
    · exfalso; omega
    · obtain rfl : m = names.length := by omega
      have hd := hide ((unhide hup).all)
      go_wp2_with fail
      refine (l03Name_any t _ hs).mono ?_
      rintro e w1 ⟨rfl, hb1⟩
      have hN1 := hide (nx_trans (unhide hN) hb1)
      clear hb1
      go_wp2
      go_ret
      exact ⟨by rw [unhide hd]; rfl, unhide hN1⟩

set_option maxHeartbeats 2000000 in
set_option maxRecDepth 100000 in
theorem l03Node_named17 (t : ByteArray) (pn : Option Addr) (names : List ByteArray) (cn : Nat) (pk : Option Addr) (kl ck : Nat) (w : World) (hn : names.length = 0) (hs : t.size ≤ maxLen) (hr : StrsAt w pn names) (hl : names.length ≤ 1048576) (hsz : ∀ s ∈ names, s.size ≤ 1048576) :
    Calls Tryd.prog 119 #[.agg #[.int .i64 17, .int .i64 0, .string t, .slice pn names.length cn, .slice pk kl ck]] w fun e w' => e = .returned (.bool (names.all identB && identB t)) ∧ Below w.heap.size w w' := by
  have HR := hide hr
  have HS := hide hsz
  clear hr hsz
  have e3 : ¬ (0 : Int) < (names.length : Int) := by omega
  clear hn
  go_enter Tryd.func119, Tryd.ntmps119
  go_wp2
  go_loopw [4] (fun i wx => ∃ m : Nat, m ≤ names.length ∧ i = .int .i64 m ∧ Hid (IdUp names m) ∧ Hid (Below (w.heap.size + 1) (w.alloc (.cells #[.int .i64 17, .int .i64 0, .string t, .slice pn names.length cn, .slice pk kl ck] 36)) wx)) (fun i _ => names.length - (intOf i).toNat)
  case atStart => exact ⟨0, by omega, rfl, hide (fun j _ h => absurd h (by omega)), hide (Below.refl _ _)⟩
  case round =>
    obtain ⟨m, hm, rfl, hup, hB⟩ := hrel
    have hw1 : w.heap.size + 1 ≤ wr.heap.size := by have := (unhide hB).size; simpa using this
    have hcl : ∀ o, wr.cell? ⟨w.heap.size, o, none⟩ = (w.alloc (.cells #[.int .i64 17, .int .i64 0, .string t, .slice pn names.length cn, .slice pk kl ck] 36)).cell? ⟨w.heap.size, o, none⟩ := fun o => (unhide hB).cell (p := ⟨w.heap.size, o, none⟩) (by simp)
    have c2 : wr.cell? ⟨w.heap.size, 2, none⟩ = some (.string t) := by rw [hcl]; simp
    have c3 : wr.cell? ⟨w.heap.size, 3, none⟩ = some (.slice pn names.length cn) := by rw [hcl]; simp
    clear hcl
    have hN : Hid (Below w.heap.size w wr) := hide ((nx_alloc w _).trans ((unhide hB).mono (by omega)))
    by_cases hlt : m < names.length
    · exfalso; omega
    · obtain rfl : m = names.length := by omega
      have hd := hide ((unhide hup).all)
      go_wp2_with fail
      refine (l03Name_any t _ hs).mono ?_
      rintro e w1 ⟨rfl, hb1⟩
      have hN1 := hide (nx_trans (unhide hN) hb1)
      clear hb1
      go_wp2
      go_ret
      exact ⟨by rw [unhide hd]; rfl, unhide hN1⟩

set_option maxHeartbeats 2000000 in
set_option maxRecDepth 100000 in
theorem l03Node_named20 (t : ByteArray) (pn : Option Addr) (names : List ByteArray) (cn : Nat) (pk : Option Addr) (kl ck : Nat) (w : World) (hs : t.size ≤ maxLen) (hr : StrsAt w pn names) (hl : names.length ≤ 1048576) (hsz : ∀ s ∈ names, s.size ≤ 1048576) :
    Calls Tryd.prog 119 #[.agg #[.int .i64 20, .int .i64 0, .string t, .slice pn names.length cn, .slice pk kl ck]] w fun e w' => e = .returned (.bool (names.all identB && identB t)) ∧ Below w.heap.size w w' := by
  have HR := hide hr
  have HS := hide hsz
  clear hr hsz
  go_enter Tryd.func119, Tryd.ntmps119
  go_wp2
  go_loopw [4] (fun i wx => ∃ m : Nat, m ≤ names.length ∧ i = .int .i64 m ∧ Hid (IdUp names m) ∧ Hid (Below (w.heap.size + 1) (w.alloc (.cells #[.int .i64 20, .int .i64 0, .string t, .slice pn names.length cn, .slice pk kl ck] 36)) wx)) (fun i _ => names.length - (intOf i).toNat)
  case atStart => exact ⟨0, by omega, rfl, hide (fun j _ h => absurd h (by omega)), hide (Below.refl _ _)⟩
  case round =>
    obtain ⟨m, hm, rfl, hup, hB⟩ := hrel
    have hw1 : w.heap.size + 1 ≤ wr.heap.size := by have := (unhide hB).size; simpa using this
    have hcl : ∀ o, wr.cell? ⟨w.heap.size, o, none⟩ = (w.alloc (.cells #[.int .i64 20, .int .i64 0, .string t, .slice pn names.length cn, .slice pk kl ck] 36)).cell? ⟨w.heap.size, o, none⟩ := fun o => (unhide hB).cell (p := ⟨w.heap.size, o, none⟩) (by simp)
    have c2 : wr.cell? ⟨w.heap.size, 2, none⟩ = some (.string t) := by rw [hcl]; simp
    have c3 : wr.cell? ⟨w.heap.size, 3, none⟩ = some (.slice pn names.length cn) := by rw [hcl]; simp
    clear hcl
    have hN : Hid (Below w.heap.size w wr) := hide ((nx_alloc w _).trans ((unhide hB).mono (by omega)))
    by_cases hlt : m < names.length
    · obtain ⟨b, off, hp, q0⟩ := (unhide HR).later (unhide hN) m hlt
      have hz := unhide HS names[m] (List.getElem_mem hlt)
      have hn := hide (fun h => (unhide hup).next hlt h)
      have hno := hide (fun h => all_not hlt h)
      generalize names[m] = s at q0 hz hn hno
      obtain ⟨bb, hbb⟩ : ∃ bb, identB s = bb := ⟨_, rfl⟩
      rw [hbb] at hn hno
      rw [hp] at c3
      clear hp
      go_wp2_with fail
      refine (l03Name_any s _ (by unfold maxLen; omega)).mono ?_
      rintro e w1 ⟨rfl, hb1⟩
      rw [hbb]
      have hB1 := hide ((unhide hB).trans (hb1.mono hw1))
      have hN1 := hide (nx_trans (unhide hN) hb1)
      clear hbb hb1
      cases bb
      · have hd := hide (unhide hno rfl)
        go_wp2
        go_ret
        exact ⟨by rw [unhide hd]; rfl, unhide hN1⟩
      · have hd := hide (unhide hn rfl)
        go_wp2
        go_roundw
        case rel => exact ⟨m + 1, by omega, by go_num, hide (unhide hd), hide (unhide hB1)⟩
        case measure => simp [intOf]; omega
    · obtain rfl : m = names.length := by omega
      have hd := hide ((unhide hup).all)
      go_wp2_with fail
      refine (l03Name_any t _ hs).mono ?_
      rintro e w1 ⟨rfl, hb1⟩
      have hN1 := hide (nx_trans (unhide hN) hb1)
      clear hb1
      go_wp2
      go_ret
      exact ⟨by rw [unhide hd]; rfl, unhide hN1⟩

end Go.Proofs.YtbipgmikgokfpaaDoor
