/- Of which kinds a node's kids are, the specification's side: 'l03Kids'. -/
import Derived.Test.YtbipgmikgokfpaaDoorIntBuf
import Derived.Test.YtbipgmikgokfpaaDoorUnary2
namespace Go.Proofs.YtbipgmikgokfpaaDoor
open Go.RowKit Go.Joins
set_option linter.unusedVariables false

def sortL (k : Int) (c : Nat) : List Int :=
  if k = 6 ∨ k = 11 ∨ k = 12 ∨ k = 15 ∨ k = 16 ∨ k = 19 then [1]
  else if k = 7 ∨ k = 8 ∨ k = 9 then [1, 1]
  else if k = 13 then (if c = 3 then [1, 2, 2] else [1, 2])
  else if k = 14 then [1, 2]
  else if k = 17 then [2, 2]
  else if k = 20 then [2]
  else if k = 10 then List.replicate c 1
  else if k = 18 then List.replicate c 3
  else []
theorem sortL_none {k : Int} {c : Nat} (h : ¬ (6 ≤ k ∧ k ≤ 20)) : sortL k c = [] := by
  unfold sortL
  rw [if_neg (by omega), if_neg (by omega), if_neg (by omega), if_neg (by omega), if_neg (by omega), if_neg (by omega), if_neg (by omega), if_neg (by omega)]
theorem kinds15 {k : Int} (h1 : 6 ≤ k) (h2 : k ≤ 20) : k = 6 ∨ k = 7 ∨ k = 8 ∨ k = 9 ∨ k = 10 ∨ k = 11 ∨ k = 12 ∨ k = 13 ∨ k = 14 ∨ k = 15 ∨ k = 16 ∨ k = 17 ∨ k = 18 ∨ k = 19 ∨ k = 20 := by omega
theorem sortL_len (k : Int) (c : Nat) : (sortL k c).length = sortsN k c := by
  by_cases h : 6 ≤ k ∧ k ≤ 20
  · rcases kinds15 h.1 h.2 with rfl | rfl | rfl | rfl | rfl | rfl | rfl | rfl | rfl | rfl | rfl | rfl | rfl | rfl | rfl
    all_goals first | rfl | (simp [sortL, sortsN]) | skip
    by_cases h3 : c = 3 <;> simp [h3]
  · rw [sortL_none h]
    unfold sortsN
    rw [if_neg (by omega), if_neg (by omega), if_neg (by omega), if_neg (by omega)]; rfl
theorem two_get (a b : Int) (i : Nat) (h : i < 2) : [a, b][i]? = some (if i = 0 then a else b) := by
  match i, h with
  | 0, _ => rfl
  | 1, _ => rfl
theorem one_get (a : Int) (i : Nat) (h : i < 1) : [a][i]? = some a := by
  match i, h with
  | 0, _ => rfl
theorem sortL_get (k : Int) (c i : Nat) (h : i < (sortL k c).length) : (sortL k c)[i]? = some (sortAt k false i) := by
  by_cases hk : 6 ≤ k ∧ k ≤ 20
  · rcases kinds15 hk.1 hk.2 with rfl | rfl | rfl | rfl | rfl | rfl | rfl | rfl | rfl | rfl | rfl | rfl | rfl | rfl | rfl
    · exact one_get 1 i h
    · exact (two_get 1 1 i h).trans (by rw [ite_self]; rfl)
    · exact (two_get 1 1 i h).trans (by rw [ite_self]; rfl)
    · exact (two_get 1 1 i h).trans (by rw [ite_self]; rfl)
    · have h' : i < c := by simpa [sortL] using h
      simp [sortL, sortAt, h']
    · exact one_get 1 i h
    · exact one_get 1 i h
    · by_cases h3 : c = 3
      · subst h3
        have h' : i < 3 := h
        show [1, 2, 2][i]? = some (sortAt 13 false i)
        clear h
        match i, h' with
        | 0, _ => rfl
        | 1, _ => rfl
        | 2, _ => rfl
      · have e : sortL 13 c = [1, 2] := by simp [sortL, h3]
        rw [e] at h ⊢
        refine (two_get 1 2 i h).trans ?_
        by_cases h0 : i = 0
        · subst h0; rfl
        · obtain rfl : i = 1 := by simp at h; omega
          rfl
    · refine (two_get 1 2 i h).trans ?_
      have h' : i < 2 := h
      by_cases h0 : i = 0
      · subst h0; rfl
      · obtain rfl : i = 1 := by omega
        rfl
    · exact one_get 1 i h
    · exact one_get 1 i h
    · exact (two_get 2 2 i h).trans (by rw [ite_self]; rfl)
    · have h' : i < c := by simpa [sortL] using h
      simp [sortL, sortAt, h']
    · exact one_get 1 i h
    · exact one_get 2 i h
  · rw [sortL_none hk] at h
    simp at h

theorem wrap_false : wrap64 (1 + wrap64 (2 * bitI false)) = 1 := by unfold bitI wrap64; simp
theorem wrap_true : wrap64 (1 + wrap64 (2 * bitI true)) = 3 := by unfold bitI wrap64; simp
/-- what a call that tells them leaves -/
def KidsPost (k : Int) (c : Nat) (w : World) (e : Ending) (w' : World) : Prop := ∃ v, e = .returned v ∧ IntBuf w' w.heap.size v (sortL k c) ∧ Below w.heap.size w w'
theorem kidsLit {k : Int} {c : Nat} {w : World} {o : Obj} (zs : List Int) (n : Nat) (cs : Array Value) (h : sortL k c = zs) (hn : n = zs.length) (hc : cs = (zs.map (Value.int .i64)).toArray) (hl : zs.length ≤ maxLen) : IntBuf ((w.alloc o).alloc (.cells cs 3)) w.heap.size (.slice (some ⟨w.heap.size + 1, 0, none⟩) n n) (sortL k c) := by
  subst hn hc
  rw [h]
  have := IntBuf.lit (w.alloc o) w.heap.size zs (by simp) hl
  simpa using this

set_option maxHeartbeats 4000000 in
set_option maxRecDepth 100000 in
theorem l03Kids_lit (k n : Int) (t : ByteArray) (pn : Option Addr) (nl cn : Nat) (pk : Option Addr) (c ck : Nat) (w : World) (hk : k = 6 ∨ k = 7 ∨ k = 8 ∨ k = 9 ∨ k = 11 ∨ k = 12 ∨ k = 14 ∨ k = 15 ∨ k = 16 ∨ k = 17 ∨ k = 19 ∨ k = 20) :
    Calls Tryd.prog 118 #[.agg #[.int .i64 k, .int .i64 n, .string t, .slice pn nl cn, .slice pk c ck]] w (KidsPost k c w) := by
  rcases hk with rfl | rfl | rfl | rfl | rfl | rfl | rfl | rfl | rfl | rfl | rfl | rfl
  all_goals
    go_enter Tryd.func118, Tryd.ntmps118
    go_wp2
    go_ret
    first
      | exact ⟨_, rfl, kidsLit [1] _ _ rfl rfl rfl (by decide), nx_al (nx_alloc _ _)⟩
      | exact ⟨_, rfl, kidsLit [1, 1] _ _ rfl rfl rfl (by decide), nx_al (nx_alloc _ _)⟩
      | exact ⟨_, rfl, kidsLit [1, 2] _ _ rfl rfl rfl (by decide), nx_al (nx_alloc _ _)⟩
      | exact ⟨_, rfl, kidsLit [2, 2] _ _ rfl rfl rfl (by decide), nx_al (nx_alloc _ _)⟩
      | exact ⟨_, rfl, kidsLit [2] _ _ rfl rfl rfl (by decide), nx_al (nx_alloc _ _)⟩

set_option maxHeartbeats 1000000 in
set_option maxRecDepth 100000 in
theorem l03Kids_if (n : Int) (t : ByteArray) (pn : Option Addr) (nl cn : Nat) (pk : Option Addr) (c ck : Nat) (w : World) :
    Calls Tryd.prog 118 #[.agg #[.int .i64 13, .int .i64 n, .string t, .slice pn nl cn, .slice pk c ck]] w (KidsPost 13 c w) := by
  by_cases h : c = 3
  · subst h
    go_enter Tryd.func118, Tryd.ntmps118
    go_wp2
    go_ret
    exact ⟨_, rfl, kidsLit [1, 2, 2] _ _ rfl rfl rfl (by decide), nx_al (nx_alloc _ _)⟩
  · have e : ((c : Int) == 3) = false := beq_eq_false_iff_ne.2 (by omega)
    have hs : Hid (sortL 13 c = [1, 2]) := hide (by simp [sortL, h])
    clear h
    go_enter Tryd.func118, Tryd.ntmps118
    go_wp2
    go_ret
    exact ⟨_, rfl, kidsLit [1, 2] _ _ (unhide hs) rfl rfl (by decide), nx_al (nx_alloc _ _)⟩

set_option maxHeartbeats 1000000 in
set_option maxRecDepth 100000 in
theorem l03Kids_none (k n : Int) (t : ByteArray) (pn : Option Addr) (nl cn : Nat) (pk : Option Addr) (c ck : Nat) (w : World) (hk : ¬ (6 ≤ k ∧ k ≤ 20)) :
    Calls Tryd.prog 118 #[.agg #[.int .i64 k, .int .i64 n, .string t, .slice pn nl cn, .slice pk c ck]] w (KidsPost k c w) := by
  have hs : Hid (sortL k c = []) := hide (sortL_none hk)
  have hne : ∀ n : Int, 6 ≤ n → n ≤ 20 → (k == n) = false := fun n h1 h2 => beq_eq_false_iff_ne.2 (by omega)
  have n6 := hne 6 (by omega) (by omega)
  have n7 := hne 7 (by omega) (by omega)
  have n8 := hne 8 (by omega) (by omega)
  have n9 := hne 9 (by omega) (by omega)
  have n10 := hne 10 (by omega) (by omega)
  have n11 := hne 11 (by omega) (by omega)
  have n12 := hne 12 (by omega) (by omega)
  have n13 := hne 13 (by omega) (by omega)
  have n14 := hne 14 (by omega) (by omega)
  have n15 := hne 15 (by omega) (by omega)
  have n16 := hne 16 (by omega) (by omega)
  have n17 := hne 17 (by omega) (by omega)
  have n18 := hne 18 (by omega) (by omega)
  have n19 := hne 19 (by omega) (by omega)
  have n20 := hne 20 (by omega) (by omega)
  clear hne hk
  go_enter Tryd.func118, Tryd.ntmps118
  go_wp2
  go_ret
  exact ⟨_, rfl, kidsLit [] _ _ (unhide hs) rfl rfl (by decide), nx_al (nx_alloc _ _)⟩

set_option maxHeartbeats 2000000 in
set_option maxRecDepth 100000 in
theorem l03Kids_10 (n : Int) (t : ByteArray) (pn : Option Addr) (nl cn : Nat) (pk : Option Addr) (c ck : Nat) (w : World) (hc : c ≤ 1048576) :
    Calls Tryd.prog 118 #[.agg #[.int .i64 10, .int .i64 n, .string t, .slice pn nl cn, .slice pk c ck]] w (KidsPost 10 c w) := by
  have hs : Hid (sortL 10 c = List.replicate c 1) := hide (by simp [sortL])
  go_enter Tryd.func118, Tryd.ntmps118
  go_wp2
  go_loopw [3, 4] (fun v i wx => ∃ m : Nat, m ≤ c ∧ i = .int .i64 m ∧ Hid (IntBuf wx (w.heap.size + 1) v (List.replicate m 1)) ∧ Hid (Below (w.heap.size + 1) (w.alloc (.cells #[.int .i64 10, .int .i64 n, .string t, .slice pn nl cn, .slice pk c ck] 36)) wx)) (fun _ i _ => c - (intOf i).toNat)
  case atStart => exact ⟨0, by omega, rfl, hide (by simpa using IntBuf.lit (w.alloc _) (w.heap.size + 1) [] (by simp) (by decide)), hide ((Below.refl _ _).alloc (by simp) _)⟩
  case round =>
    obtain ⟨m, hm, rfl, hI, hB⟩ := hrel
    have hw1 : w.heap.size + 1 ≤ wr.heap.size := by have := (unhide hB).size; simpa using this
    have hcl : ∀ o, wr.cell? ⟨w.heap.size, o, none⟩ = (w.alloc (.cells #[.int .i64 10, .int .i64 n, .string t, .slice pn nl cn, .slice pk c ck] 36)).cell? ⟨w.heap.size, o, none⟩ := fun o => (unhide hB).cell (p := ⟨w.heap.size, o, none⟩) (by simp)
    have c0 : wr.cell? ⟨w.heap.size, 0, none⟩ = some (.int .i64 10) := by rw [hcl]; simp
    have c4 : wr.cell? ⟨w.heap.size, 4, none⟩ = some (.slice pk c ck) := by rw [hcl]; simp
    clear hcl
    by_cases hlt : m < c
    · go_wp2_with fail
      refine (l01Bit_any false _).mono ?_
      rintro e wr ⟨rfl, rfl⟩
      go_wp2_with (at_builtin; refine wp_appI _ rfl _ _ rfl (w.heap.size + 1) wr.heap.size _ (List.replicate m 1) 1 rfl ((unhide hI).alloc _) rfl (by simp [wrap_false]) ?c5 ?c3 ?c6)
      case c5 => simp; omega
      case c3 => simp; omega
      case c6 =>
        intro v' w' hI' hb'
        rw [show List.replicate m (1 : Int) ++ [1] = List.replicate (m + 1) 1 by rw [List.replicate_succ']] at hI'
        have HI := hide hI'
        have HB := hide (((unhide hB).alloc hw1 _).trans hb')
        clear hI' hb'
        go_wp2
        go_roundw
        case rel => exact ⟨m + 1, by omega, by go_num, hide (unhide HI), hide (unhide HB)⟩
        case measure => simp [intOf]; omega
    · obtain rfl : m = c := by omega
      have HD : Hid (KidsPost 10 m w (.returned u3) wr) := hide ⟨u3, rfl, by rw [unhide hs]; exact ownsRow_le (unhide hI) (by omega), (nx_alloc w _).trans ((unhide hB).mono (by omega))⟩
      go_wp2
      go_ret
      exact unhide HD

set_option maxHeartbeats 2000000 in
set_option maxRecDepth 100000 in
theorem l03Kids_18 (n : Int) (t : ByteArray) (pn : Option Addr) (nl cn : Nat) (pk : Option Addr) (c ck : Nat) (w : World) (hc : c ≤ 1048576) :
    Calls Tryd.prog 118 #[.agg #[.int .i64 18, .int .i64 n, .string t, .slice pn nl cn, .slice pk c ck]] w (KidsPost 18 c w) := by
  have hs : Hid (sortL 18 c = List.replicate c 3) := hide (by simp [sortL])
  go_enter Tryd.func118, Tryd.ntmps118
  go_wp2
  go_loopw [3, 4] (fun v i wx => ∃ m : Nat, m ≤ c ∧ i = .int .i64 m ∧ Hid (IntBuf wx (w.heap.size + 1) v (List.replicate m 3)) ∧ Hid (Below (w.heap.size + 1) (w.alloc (.cells #[.int .i64 18, .int .i64 n, .string t, .slice pn nl cn, .slice pk c ck] 36)) wx)) (fun _ i _ => c - (intOf i).toNat)
  case atStart => exact ⟨0, by omega, rfl, hide (by simpa using IntBuf.lit (w.alloc _) (w.heap.size + 1) [] (by simp) (by decide)), hide ((Below.refl _ _).alloc (by simp) _)⟩
  case round =>
    obtain ⟨m, hm, rfl, hI, hB⟩ := hrel
    have hw1 : w.heap.size + 1 ≤ wr.heap.size := by have := (unhide hB).size; simpa using this
    have hcl : ∀ o, wr.cell? ⟨w.heap.size, o, none⟩ = (w.alloc (.cells #[.int .i64 18, .int .i64 n, .string t, .slice pn nl cn, .slice pk c ck] 36)).cell? ⟨w.heap.size, o, none⟩ := fun o => (unhide hB).cell (p := ⟨w.heap.size, o, none⟩) (by simp)
    have c0 : wr.cell? ⟨w.heap.size, 0, none⟩ = some (.int .i64 18) := by rw [hcl]; simp
    have c4 : wr.cell? ⟨w.heap.size, 4, none⟩ = some (.slice pk c ck) := by rw [hcl]; simp
    clear hcl
    by_cases hlt : m < c
    · go_wp2_with fail
      refine (l01Bit_any true _).mono ?_
      rintro e wr ⟨rfl, rfl⟩
      go_wp2_with (at_builtin; refine wp_appI _ rfl _ _ rfl (w.heap.size + 1) wr.heap.size _ (List.replicate m 3) 3 rfl ((unhide hI).alloc _) rfl (by simp [wrap_true]) ?c5 ?c3 ?c6)
      case c5 => simp; omega
      case c3 => simp; omega
      case c6 =>
        intro v' w' hI' hb'
        rw [show List.replicate m (3 : Int) ++ [3] = List.replicate (m + 1) 3 by rw [List.replicate_succ']] at hI'
        have HI := hide hI'
        have HB := hide (((unhide hB).alloc hw1 _).trans hb')
        clear hI' hb'
        go_wp2
        go_roundw
        case rel => exact ⟨m + 1, by omega, by go_num, hide (unhide HI), hide (unhide HB)⟩
        case measure => simp [intOf]; omega
    · obtain rfl : m = c := by omega
      have HD : Hid (KidsPost 18 m w (.returned u3) wr) := hide ⟨u3, rfl, by rw [unhide hs]; exact ownsRow_le (unhide hI) (by omega), (nx_alloc w _).trans ((unhide hB).mono (by omega))⟩
      go_wp2
      go_ret
      exact unhide HD

theorem l03Kids_any (k n : Int) (t : ByteArray) (pn : Option Addr) (nl cn : Nat) (pk : Option Addr) (c ck : Nat) (w : World) (hc : c ≤ 1048576) :
    Calls Tryd.prog 118 #[.agg #[.int .i64 k, .int .i64 n, .string t, .slice pn nl cn, .slice pk c ck]] w (KidsPost k c w) := by
  by_cases hk : 6 ≤ k ∧ k ≤ 20
  · by_cases h10 : k = 10
    · subst h10; exact l03Kids_10 n t pn nl cn pk c ck w hc
    by_cases h18 : k = 18
    · subst h18; exact l03Kids_18 n t pn nl cn pk c ck w hc
    by_cases h13 : k = 13
    · subst h13; exact l03Kids_if n t pn nl cn pk c ck w
    exact l03Kids_lit k n t pn nl cn pk c ck w (by omega)
  · exact l03Kids_none k n t pn nl cn pk c ck w hk

end Go.Proofs.YtbipgmikgokfpaaDoor
