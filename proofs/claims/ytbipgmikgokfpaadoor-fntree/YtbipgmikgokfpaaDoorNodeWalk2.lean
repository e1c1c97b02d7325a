/- What is right of a branch by itself, the code's side: 'partsOK'. -/
import Derived.Test.YtbipgmikgokfpaaDoorTreeMem
namespace Go.Proofs.YtbipgmikgokfpaaDoor
open Go.RowKit Go.Joins
set_option linter.unusedVariables false

theorem isNoIdent_any (s : ByteArray) (w : World) (hs : s.size ≤ maxLen) (ht : Hid (TabAt w 0 srcWords)) :
    Calls Tryd.prog 156 #[.string s] w fun e w' => e = .returned (.bool (!identB s)) ∧ w' = w := by
  go_enter Tryd.func156, Tryd.ntmps156
  go_wp2_with fail
  refine (identOK_any s w hs ht).mono ?_
  rintro e w' ⟨rfl, rfl⟩
  go_wp2
  go_ret
  exact ⟨rfl, rfl⟩

/-- the first k are names -/
def IdUp (ss : List ByteArray) (k : Nat) : Prop := ∀ j (h : j < ss.length), j < k → identB ss[j] = true
theorem IdUp.next {ss : List ByteArray} {k : Nat} (h : IdUp ss k) (hk : k < ss.length) (hs : identB ss[k] = true) : IdUp ss (k + 1) := fun j hj hjk => by
  by_cases e : j = k
  · subst e; exact hs
  · exact h j hj (by omega)
theorem IdUp.all {ss : List ByteArray} (h : IdUp ss ss.length) : ss.all identB = true := by
  rw [List.all_eq_true]
  intro s hs
  obtain ⟨i, hi, rfl⟩ := List.getElem_of_mem hs
  exact h i hi hi
theorem all_not {ss : List ByteArray} {k : Nat} (hk : k < ss.length) (hs : identB ss[k] = false) : ss.all identB = false := by
  cases h : ss.all identB
  · rfl
  · rw [List.all_eq_true] at h
    rw [h _ (List.getElem_mem hk)] at hs
    cases hs

set_option maxHeartbeats 1000000 in
theorem IndexFunc_any (p : Option Addr) (ss : List ByteArray) (cap : Nat) (w : World) (hrow : StrsAt w p ss) (hlen : ss.length ≤ 1048576) (hsz : ∀ s ∈ ss, s.size ≤ 1048576) (ht : Hid (TabAt w 0 srcWords)) :
    Calls Tryd.prog 173 #[.slice p ss.length cap, .func (.func 156) #[] #[]] w fun e w' => ∃ r : Int, e = .returned (.int .i64 r) ∧ (ss.all identB = true ∧ r < 0 ∨ ss.all identB = false ∧ 0 ≤ r) ∧ w' = w := by
  have HR := hide hrow
  have HS := hide hsz
  clear hrow hsz
  go_enter Tryd.func173, Tryd.ntmps173
  go_wp2
  go_loopw [8] (fun i wx => ∃ k : Nat, k ≤ ss.length ∧ i = .int .i64 k ∧ Hid (IdUp ss k) ∧ wx = w) (fun i _ => ss.length - (intOf i).toNat)
  case atStart => exact ⟨0, by omega, rfl, hide (fun j _ h => absurd h (by omega)), rfl⟩
  case round =>
    obtain ⟨k, hk, rfl, hup, hw⟩ := hrel
    subst hw
    by_cases hlt : k < ss.length
    · obtain ⟨b, off, rfl, q0⟩ := (unhide HR) k hlt
      have hz := unhide HS ss[k] (List.getElem_mem hlt)
      have hn := hide (fun h => (unhide hup).next hlt h)
      have hno := hide (fun h => all_not hlt h)
      generalize ss[k] = s at q0 hz hn hno
      obtain ⟨bb, hbb⟩ : ∃ bb, identB s = bb := ⟨_, rfl⟩
      rw [hbb] at hn hno
      go_wp2_with fail
      refine (isNoIdent_any s _ (by unfold maxLen; omega) ht).mono ?_
      rintro e w' ⟨rfl, rfl⟩
      rw [hbb]
      clear hbb
      cases bb
      · have hd := hide (unhide hno rfl)
        go_wp2
        go_ret
        exact ⟨k, rfl, .inr ⟨unhide hd, by omega⟩, rfl⟩
      · have hd := hide (unhide hn rfl)
        go_wp2
        go_roundw
        case rel => exact ⟨k + 1, by omega, by go_num, hide (unhide hd), trivial⟩
        case measure => simp [intOf]; omega
    · obtain rfl : k = ss.length := by omega
      have hd := hide ((unhide hup).all)
      go_wp2
      go_ret
      exact ⟨-1, rfl, .inl ⟨unhide hd, by omega⟩, rfl⟩

theorem ContainsFunc_any (p : Option Addr) (ss : List ByteArray) (cap : Nat) (w : World) (hrow : StrsAt w p ss) (hlen : ss.length ≤ 1048576) (hsz : ∀ s ∈ ss, s.size ≤ 1048576) (ht : Hid (TabAt w 0 srcWords)) :
    Calls Tryd.prog 155 #[.slice p ss.length cap, .func (.func 156) #[] #[]] w fun e w' => e = .returned (.bool (!(ss.all identB))) ∧ w' = w := by
  have HR := hide hrow
  have HS := hide hsz
  clear hrow hsz
  go_enter Tryd.func155, Tryd.ntmps155
  go_wp2_with fail
  refine (IndexFunc_any p ss cap _ (unhide HR) hlen (unhide HS) ht).mono ?_
  rintro e w' ⟨r, rfl, hr, rfl⟩
  rcases hr with ⟨ha, hr⟩ | ⟨ha, hr⟩
  · have HA := hide ha
    have hd : decide (0 ≤ r) = false := decide_eq_false (by omega)
    clear ha
    go_wp2
    go_ret
    exact ⟨by rw [unhide HA]; rfl, rfl⟩
  · have HA := hide ha
    clear ha
    go_wp2
    go_ret
    exact ⟨by rw [unhide HA]; rfl, rfl⟩

theorem isSignAhead_any (s : ByteArray) (w : World) : Calls Tryd.prog 152 #[.string s] w fun e w' => e = .returned (.bool ((s.data.toList == [33]) || (s.data.toList == [45]))) ∧ w' = w := by
  rw [← ByteArray.toList_eq]
  by_cases h : s.toList = [33]
  · rw [show ((s.toList == [33]) || (s.toList == [45])) = true by simp [h]]
    go_enter Tryd.func152, Tryd.ntmps152
    go_wp2
    go_ret
    exact ⟨rfl, rfl⟩
  have f : (s.toList == [33]) = false := beq_eq_false_iff_ne.2 h
  by_cases h2 : s.toList = [45]
  · rw [show ((s.toList == [33]) || (s.toList == [45])) = true by simp [h2]]
    go_enter Tryd.func152, Tryd.ntmps152
    go_wp2
    go_ret
    exact ⟨rfl, rfl⟩
  have f2 : (s.toList == [45]) = false := beq_eq_false_iff_ne.2 h2
  rw [f, f2]
  go_enter Tryd.func152, Tryd.ntmps152
  go_wp2
  go_ret
  exact ⟨rfl, rfl⟩

/-- how close a sign between two operands binds -/
def closeL (l : List UInt8) : Int :=
  if l = [124, 124] then 1 else if l = [38, 38] then 2 else if l = [60] then 3 else if l = [61, 61] then 3 else if l = [43] then 4 else if l = [45] then 4 else if l = [42] then 5 else if l = [47] then 5 else if l = [37] then 5 else 0
theorem close_op (l : List UInt8) : decide (2 < closeL l) = opB l := by
  unfold closeL opB
  by_cases h1 : l = [124, 124]
  · subst h1; rfl
  by_cases h2 : l = [38, 38]
  · subst h2; rfl
  by_cases h3 : l = [60]
  · subst h3; rfl
  by_cases h4 : l = [61, 61]
  · subst h4; rfl
  by_cases h5 : l = [43]
  · subst h5; rfl
  by_cases h6 : l = [45]
  · subst h6; rfl
  by_cases h7 : l = [42]
  · subst h7; rfl
  by_cases h8 : l = [47]
  · subst h8; rfl
  by_cases h9 : l = [37]
  · subst h9; rfl
  simp [h1, h2, h3, h4, h5, h6, h7, h8, h9]

set_option maxHeartbeats 1000000 in
theorem closenessOf_any (s : ByteArray) (w : World) : Calls Tryd.prog 170 #[.string s] w fun e w' => e = .returned (.int .i64 (closeL s.data.toList)) ∧ w' = w := by
  rw [← ByteArray.toList_eq]
  by_cases h0 : s.toList = [124, 124]
  · rw [show closeL s.toList = 1 by rw [h0]; rfl]
    go_enter Tryd.func170, Tryd.ntmps170
    go_wp2
    go_ret
    exact ⟨rfl, rfl⟩
  have f0 : (s.toList == [124, 124]) = false := beq_eq_false_iff_ne.2 h0
  by_cases h1 : s.toList = [38, 38]
  · rw [show closeL s.toList = 2 by rw [h1]; rfl]
    go_enter Tryd.func170, Tryd.ntmps170
    go_wp2
    go_ret
    exact ⟨rfl, rfl⟩
  have f1 : (s.toList == [38, 38]) = false := beq_eq_false_iff_ne.2 h1
  by_cases h2 : s.toList = [60]
  · rw [show closeL s.toList = 3 by rw [h2]; rfl]
    go_enter Tryd.func170, Tryd.ntmps170
    go_wp2
    go_ret
    exact ⟨rfl, rfl⟩
  have f2 : (s.toList == [60]) = false := beq_eq_false_iff_ne.2 h2
  by_cases h3 : s.toList = [61, 61]
  · rw [show closeL s.toList = 3 by rw [h3]; rfl]
    go_enter Tryd.func170, Tryd.ntmps170
    go_wp2
    go_ret
    exact ⟨rfl, rfl⟩
  have f3 : (s.toList == [61, 61]) = false := beq_eq_false_iff_ne.2 h3
  by_cases h4 : s.toList = [43]
  · rw [show closeL s.toList = 4 by rw [h4]; rfl]
    go_enter Tryd.func170, Tryd.ntmps170
    go_wp2
    go_ret
    exact ⟨rfl, rfl⟩
  have f4 : (s.toList == [43]) = false := beq_eq_false_iff_ne.2 h4
  by_cases h5 : s.toList = [45]
  · rw [show closeL s.toList = 4 by rw [h5]; rfl]
    go_enter Tryd.func170, Tryd.ntmps170
    go_wp2
    go_ret
    exact ⟨rfl, rfl⟩
  have f5 : (s.toList == [45]) = false := beq_eq_false_iff_ne.2 h5
  by_cases h6 : s.toList = [42]
  · rw [show closeL s.toList = 5 by rw [h6]; rfl]
    go_enter Tryd.func170, Tryd.ntmps170
    go_wp2
    go_ret
    exact ⟨rfl, rfl⟩
  have f6 : (s.toList == [42]) = false := beq_eq_false_iff_ne.2 h6
  by_cases h7 : s.toList = [47]
  · rw [show closeL s.toList = 5 by rw [h7]; rfl]
    go_enter Tryd.func170, Tryd.ntmps170
    go_wp2
    go_ret
    exact ⟨rfl, rfl⟩
  have f7 : (s.toList == [47]) = false := beq_eq_false_iff_ne.2 h7
  by_cases h8 : s.toList = [37]
  · rw [show closeL s.toList = 5 by rw [h8]; rfl]
    go_enter Tryd.func170, Tryd.ntmps170
    go_wp2
    go_ret
    exact ⟨rfl, rfl⟩
  have f8 : (s.toList == [37]) = false := beq_eq_false_iff_ne.2 h8
  rw [show closeL s.toList = 0 by simp [closeL, h0, h1, h2, h3, h4, h5, h6, h7, h8]]
  go_enter Tryd.func170, Tryd.ntmps170
  go_wp2
  go_ret
  exact ⟨rfl, rfl⟩

end Go.Proofs.YtbipgmikgokfpaaDoor
