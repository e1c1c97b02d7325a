/- The words of codes: code and specification answer alike; the table of words is what its initialiser lays. -/
import Derived.Test.YtpncohkbdaoceaaDoorRows
import Derived.WalkKit
import Derived.WalkSpells
import Derived.WalkLawsBesides
import Derived.Laws.Rows
namespace Go.Proofs.YtpncohkbdaoceaaDoor
open Go.RowKit

/-- a fact kept from the walk's rewriting -/
theorem hide {p : Prop} (h : p) : Hid p := h
theorem unhide {p : Prop} (h : Hid p) : p := h
theorem nx_trans {a b c : World} (h : Below a.heap.size a b) (k : Below b.heap.size b c) : Below a.heap.size a c := h.trans (k.mono h.size)
theorem nx_alloc (w : World) (o : Obj) : Below w.heap.size w (w.alloc o) := (Below.refl _ _).alloc (Nat.le_refl _) _
theorem ret_int {k : IntKind} {a b : Int} (h : a = b) : Ending.returned (.int k a) = .returned (.int k b) := by rw [h]

def words : List (List UInt8) := [[111, 107], [98, 97, 100], [108, 111, 110, 103], [102, 111, 114, 109], [114, 97, 110, 103, 101], [110, 111, 110, 101], [109, 97, 110, 121], [102, 117, 108, 108], [116, 121, 112, 101], [100, 101, 101, 112], [115, 105, 122, 101], [110, 97, 109, 101], [116, 119, 105, 99, 101], [112, 108, 97, 99, 101], [99, 111, 117, 110, 116], [102, 117, 101, 108], [108, 97, 116, 101], [109, 101, 116, 104, 111, 100], [109, 111, 114, 101], [115, 104, 117, 116]]
def wordS (k : Nat) : ByteArray := ⟨(words.getD k []).toArray⟩
def wordCells : Array Value := (words.map fun l => Value.string ⟨l.toArray⟩).toArray
/-- the table lies in its variable's block -/
def TabW (w : World) : Prop := ∃ t fr, w.heap[0]? = some (.cells wordCells t fr)
theorem TabW.cell {w : World} (h : TabW w) (k : Nat) (hk : k < 20) : w.cell? ⟨0, k, none⟩ = some (.string (wordS k)) := by
  obtain ⟨t, fr, h⟩ := h
  have e : wordCells[k]? = some (.string (wordS k)) := by
    obtain rfl | rfl | rfl | rfl | rfl | rfl | rfl | rfl | rfl | rfl | rfl | rfl | rfl | rfl | rfl | rfl | rfl | rfl | rfl | rfl : k = 0 ∨ k = 1 ∨ k = 2 ∨ k = 3 ∨ k = 4 ∨ k = 5 ∨ k = 6 ∨ k = 7 ∨ k = 8 ∨ k = 9 ∨ k = 10 ∨ k = 11 ∨ k = 12 ∨ k = 13 ∨ k = 14 ∨ k = 15 ∨ k = 16 ∨ k = 17 ∨ k = 18 ∨ k = 19 := by omega
    all_goals rfl
  simp [World.cell?, h, e]
theorem TabW.later {w w' : World} (h : TabW w) (h0 : 0 < w.heap.size) (hb : Below w.heap.size w w') : TabW w' := by
  obtain ⟨t, fr, h⟩ := h
  exact ⟨t, fr, (hb.block 0 h0).trans h⟩
theorem TabW.pos {w : World} (h : TabW w) : 0 < w.heap.size := by
  obtain ⟨t, fr, h⟩ := h
  exact (Array.getElem?_eq_some_iff.1 h).1

theorem CodeWord_out (c : Int) (w : World) (h : c < 0 ∨ 20 ≤ c) :
    Calls Tryd.prog 16 #[.int .i64 c] w fun e w' => e = .returned (.string ⟨#[]⟩) ∧ w' = w := by
  rcases h with h | h
  all_goals
    go_enter Tryd.func16, Tryd.ntmps16
    go_wp2
    go_ret
    exact ⟨rfl, rfl⟩

theorem CodeWord_in (k : Nat) (w : World) (hk : k < 20) (ht : Hid (TabW w)) :
    Calls Tryd.prog 16 #[.int .i64 k] w fun e w' => e = .returned (.string (wordS k)) ∧ w' = w := by
  have hc := (unhide ht).cell k hk
  have h0 : ¬ (k : Int) < 0 := by omega
  have h1 : ¬ (20 : Int) ≤ (k : Int) := by omega
  go_enter Tryd.func16, Tryd.ntmps16
  go_wp2
  go_ret
  exact ⟨rfl, rfl⟩

theorem specCodeWord_out (c : Int) (w : World) (h : c < 0 ∨ 20 ≤ c) :
    Calls Tryd.prog 15 #[.int .i64 c] w fun e w' => e = .returned (.string ⟨#[]⟩) ∧ Below w.heap.size w w' := by
  rcases h with h | h
  all_goals
    go_enter Tryd.func15, Tryd.ntmps15
    go_wp2
    go_ret
    exact ⟨rfl, nx_alloc _ _⟩

theorem specCodeWord_0 (w : World) :
    Calls Tryd.prog 15 #[.int .i64 0] w fun e w' => e = .returned (.string ⟨#[111, 107]⟩) ∧ Below w.heap.size w w' := by
  go_enter Tryd.func15, Tryd.ntmps15
  go_wp2
  go_ret
  exact ⟨rfl, nx_alloc _ _⟩

theorem specCodeWord_1 (w : World) :
    Calls Tryd.prog 15 #[.int .i64 1] w fun e w' => e = .returned (.string ⟨#[98, 97, 100]⟩) ∧ Below w.heap.size w w' := by
  go_enter Tryd.func15, Tryd.ntmps15
  go_wp2
  go_ret
  exact ⟨rfl, nx_alloc _ _⟩

theorem specCodeWord_2 (w : World) :
    Calls Tryd.prog 15 #[.int .i64 2] w fun e w' => e = .returned (.string ⟨#[108, 111, 110, 103]⟩) ∧ Below w.heap.size w w' := by
  go_enter Tryd.func15, Tryd.ntmps15
  go_wp2
  go_ret
  exact ⟨rfl, nx_alloc _ _⟩

theorem specCodeWord_3 (w : World) :
    Calls Tryd.prog 15 #[.int .i64 3] w fun e w' => e = .returned (.string ⟨#[102, 111, 114, 109]⟩) ∧ Below w.heap.size w w' := by
  go_enter Tryd.func15, Tryd.ntmps15
  go_wp2
  go_ret
  exact ⟨rfl, nx_alloc _ _⟩

theorem specCodeWord_4 (w : World) :
    Calls Tryd.prog 15 #[.int .i64 4] w fun e w' => e = .returned (.string ⟨#[114, 97, 110, 103, 101]⟩) ∧ Below w.heap.size w w' := by
  go_enter Tryd.func15, Tryd.ntmps15
  go_wp2
  go_ret
  exact ⟨rfl, nx_alloc _ _⟩

theorem specCodeWord_5 (w : World) :
    Calls Tryd.prog 15 #[.int .i64 5] w fun e w' => e = .returned (.string ⟨#[110, 111, 110, 101]⟩) ∧ Below w.heap.size w w' := by
  go_enter Tryd.func15, Tryd.ntmps15
  go_wp2
  go_ret
  exact ⟨rfl, nx_alloc _ _⟩

theorem specCodeWord_6 (w : World) :
    Calls Tryd.prog 15 #[.int .i64 6] w fun e w' => e = .returned (.string ⟨#[109, 97, 110, 121]⟩) ∧ Below w.heap.size w w' := by
  go_enter Tryd.func15, Tryd.ntmps15
  go_wp2
  go_ret
  exact ⟨rfl, nx_alloc _ _⟩

theorem specCodeWord_7 (w : World) :
    Calls Tryd.prog 15 #[.int .i64 7] w fun e w' => e = .returned (.string ⟨#[102, 117, 108, 108]⟩) ∧ Below w.heap.size w w' := by
  go_enter Tryd.func15, Tryd.ntmps15
  go_wp2
  go_ret
  exact ⟨rfl, nx_alloc _ _⟩

theorem specCodeWord_8 (w : World) :
    Calls Tryd.prog 15 #[.int .i64 8] w fun e w' => e = .returned (.string ⟨#[116, 121, 112, 101]⟩) ∧ Below w.heap.size w w' := by
  go_enter Tryd.func15, Tryd.ntmps15
  go_wp2
  go_ret
  exact ⟨rfl, nx_alloc _ _⟩

theorem specCodeWord_9 (w : World) :
    Calls Tryd.prog 15 #[.int .i64 9] w fun e w' => e = .returned (.string ⟨#[100, 101, 101, 112]⟩) ∧ Below w.heap.size w w' := by
  go_enter Tryd.func15, Tryd.ntmps15
  go_wp2
  go_ret
  exact ⟨rfl, nx_alloc _ _⟩

theorem specCodeWord_10 (w : World) :
    Calls Tryd.prog 15 #[.int .i64 10] w fun e w' => e = .returned (.string ⟨#[115, 105, 122, 101]⟩) ∧ Below w.heap.size w w' := by
  go_enter Tryd.func15, Tryd.ntmps15
  go_wp2
  go_ret
  exact ⟨rfl, nx_alloc _ _⟩

theorem specCodeWord_11 (w : World) :
    Calls Tryd.prog 15 #[.int .i64 11] w fun e w' => e = .returned (.string ⟨#[110, 97, 109, 101]⟩) ∧ Below w.heap.size w w' := by
  go_enter Tryd.func15, Tryd.ntmps15
  go_wp2
  go_ret
  exact ⟨rfl, nx_alloc _ _⟩

theorem specCodeWord_12 (w : World) :
    Calls Tryd.prog 15 #[.int .i64 12] w fun e w' => e = .returned (.string ⟨#[116, 119, 105, 99, 101]⟩) ∧ Below w.heap.size w w' := by
  go_enter Tryd.func15, Tryd.ntmps15
  go_wp2
  go_ret
  exact ⟨rfl, nx_alloc _ _⟩

theorem specCodeWord_13 (w : World) :
    Calls Tryd.prog 15 #[.int .i64 13] w fun e w' => e = .returned (.string ⟨#[112, 108, 97, 99, 101]⟩) ∧ Below w.heap.size w w' := by
  go_enter Tryd.func15, Tryd.ntmps15
  go_wp2
  go_ret
  exact ⟨rfl, nx_alloc _ _⟩

theorem specCodeWord_14 (w : World) :
    Calls Tryd.prog 15 #[.int .i64 14] w fun e w' => e = .returned (.string ⟨#[99, 111, 117, 110, 116]⟩) ∧ Below w.heap.size w w' := by
  go_enter Tryd.func15, Tryd.ntmps15
  go_wp2
  go_ret
  exact ⟨rfl, nx_alloc _ _⟩

theorem specCodeWord_15 (w : World) :
    Calls Tryd.prog 15 #[.int .i64 15] w fun e w' => e = .returned (.string ⟨#[102, 117, 101, 108]⟩) ∧ Below w.heap.size w w' := by
  go_enter Tryd.func15, Tryd.ntmps15
  go_wp2
  go_ret
  exact ⟨rfl, nx_alloc _ _⟩

theorem specCodeWord_16 (w : World) :
    Calls Tryd.prog 15 #[.int .i64 16] w fun e w' => e = .returned (.string ⟨#[108, 97, 116, 101]⟩) ∧ Below w.heap.size w w' := by
  go_enter Tryd.func15, Tryd.ntmps15
  go_wp2
  go_ret
  exact ⟨rfl, nx_alloc _ _⟩

theorem specCodeWord_17 (w : World) :
    Calls Tryd.prog 15 #[.int .i64 17] w fun e w' => e = .returned (.string ⟨#[109, 101, 116, 104, 111, 100]⟩) ∧ Below w.heap.size w w' := by
  go_enter Tryd.func15, Tryd.ntmps15
  go_wp2
  go_ret
  exact ⟨rfl, nx_alloc _ _⟩

theorem specCodeWord_18 (w : World) :
    Calls Tryd.prog 15 #[.int .i64 18] w fun e w' => e = .returned (.string ⟨#[109, 111, 114, 101]⟩) ∧ Below w.heap.size w w' := by
  go_enter Tryd.func15, Tryd.ntmps15
  go_wp2
  go_ret
  exact ⟨rfl, nx_alloc _ _⟩

theorem specCodeWord_19 (w : World) :
    Calls Tryd.prog 15 #[.int .i64 19] w fun e w' => e = .returned (.string ⟨#[115, 104, 117, 116]⟩) ∧ Below w.heap.size w w' := by
  go_enter Tryd.func15, Tryd.ntmps15
  go_wp2
  go_ret
  exact ⟨rfl, nx_alloc _ _⟩

theorem specCodeWord_in (k : Nat) (w : World) (hk : k < 20) :
    Calls Tryd.prog 15 #[.int .i64 k] w fun e w' => e = .returned (.string (wordS k)) ∧ Below w.heap.size w w' := by
  obtain rfl | rfl | rfl | rfl | rfl | rfl | rfl | rfl | rfl | rfl | rfl | rfl | rfl | rfl | rfl | rfl | rfl | rfl | rfl | rfl : k = 0 ∨ k = 1 ∨ k = 2 ∨ k = 3 ∨ k = 4 ∨ k = 5 ∨ k = 6 ∨ k = 7 ∨ k = 8 ∨ k = 9 ∨ k = 10 ∨ k = 11 ∨ k = 12 ∨ k = 13 ∨ k = 14 ∨ k = 15 ∨ k = 16 ∨ k = 17 ∨ k = 18 ∨ k = 19 := by omega
  · exact specCodeWord_0 w
  · exact specCodeWord_1 w
  · exact specCodeWord_2 w
  · exact specCodeWord_3 w
  · exact specCodeWord_4 w
  · exact specCodeWord_5 w
  · exact specCodeWord_6 w
  · exact specCodeWord_7 w
  · exact specCodeWord_8 w
  · exact specCodeWord_9 w
  · exact specCodeWord_10 w
  · exact specCodeWord_11 w
  · exact specCodeWord_12 w
  · exact specCodeWord_13 w
  · exact specCodeWord_14 w
  · exact specCodeWord_15 w
  · exact specCodeWord_16 w
  · exact specCodeWord_17 w
  · exact specCodeWord_18 w
  · exact specCodeWord_19 w

/-- the code of a word, or -1 -/
def codeI (s : ByteArray) : Int := match (List.range 20).find? (fun k => (wordS k).toList == s.toList) with
  | some k => k
  | none => -1

theorem find_pre (p : Nat → Bool) (k n : Nat) (hk : k < n) (hp : p k = true) (hno : ∀ j, j < k → p j = false) : (List.range n).find? p = some k := by
  rw [List.find?_eq_some_iff_getElem]
  refine ⟨hp, k, by simpa using hk, by simp, fun j hj => ?_⟩
  simp [hno j hj]
theorem find_none (p : Nat → Bool) (n : Nat) (hno : ∀ j, j < n → p j = false) : (List.range n).find? p = none := by
  rw [List.find?_eq_none]
  intro x hx
  simp [hno x (by simpa using hx)]
theorem codeI_some (s : ByteArray) (k : Nat) (hk : k < 20) (hp : ((wordS k).toList == s.toList) = true) (hno : ∀ j, j < k → ((wordS j).toList == s.toList) = false) : codeI s = k := by
  unfold codeI
  rw [find_pre _ k 20 hk hp hno]
theorem codeI_none (s : ByteArray) (hno : ∀ j, j < 20 → ((wordS j).toList == s.toList) = false) : codeI s = -1 := by
  unfold codeI
  rw [find_none _ 20 hno]

set_option maxHeartbeats 400000 in
theorem specCodeOf_any (s : ByteArray) (w : World) :
    Calls Tryd.prog 17 #[.string s] w fun e w' => e = .returned (.int .i64 (codeI s)) ∧ Below w.heap.size w w' := by
  go_enter Tryd.func17, Tryd.ntmps17
  go_wp2
  go_loopw [3] (fun i wx => ∃ k : Nat, k ≤ 20 ∧ i = .int .i64 k ∧ (∀ j, j < k → ((wordS j).toList == s.toList) = false) ∧ Below w.heap.size w wx) (fun i _ => 20 - (intOf i).toNat)
  case atStart => exact ⟨0, by omega, rfl, fun j hj => by omega, Below.refl _ _⟩
  case round =>
    obtain ⟨k, hk, rfl, hno, hb⟩ := hrel
    have HN := hide hno
    clear hno
    by_cases hlt : k < 20
    · have hle : (k : Int) ≤ 19 := by omega
      cases he : ((wordS k).toList == s.toList)
      · go_wp2_with (go_at_call 15; refine (specCodeWord_in k _ hlt).mono ?_; rintro e w1 ⟨rfl, hb1⟩)
        go_roundw
        case rel => exact ⟨k + 1, by omega, by go_num, fun j hj => by
          by_cases e : j = k
          · subst e; exact he
          · exact unhide HN j (by omega), nx_trans hb hb1⟩
        case measure => simp [intOf]; omega
      · go_wp2_with (go_at_call 15; refine (specCodeWord_in k _ hlt).mono ?_; rintro e w1 ⟨rfl, hb1⟩)
        go_ret
        exact ⟨ret_int (codeI_some s k hlt he (unhide HN)).symm, nx_trans hb hb1⟩
    · have hle : ¬ (k : Int) ≤ 19 := by omega
      go_wp2
      go_ret
      exact ⟨ret_int (codeI_none s fun j hj => unhide HN j (by omega)).symm, hb⟩

theorem index_word (k : Nat) (hk : k < 20) (w : World) : (Instr.index 62 (.agg wordCells) (.int .i64 (k : Int))).run Tryd.prog w = .ok (.string (wordS k)) w := by
  obtain rfl | rfl | rfl | rfl | rfl | rfl | rfl | rfl | rfl | rfl | rfl | rfl | rfl | rfl | rfl | rfl | rfl | rfl | rfl | rfl : k = 0 ∨ k = 1 ∨ k = 2 ∨ k = 3 ∨ k = 4 ∨ k = 5 ∨ k = 6 ∨ k = 7 ∨ k = 8 ∨ k = 9 ∨ k = 10 ∨ k = 11 ∨ k = 12 ∨ k = 13 ∨ k = 14 ∨ k = 15 ∨ k = 16 ∨ k = 17 ∨ k = 18 ∨ k = 19 := by omega
  all_goals kernel_rfl

set_option maxHeartbeats 400000 in
theorem CodeOf_any (s : ByteArray) (w : World) (ht : Hid (TabW w)) :
    Calls Tryd.prog 18 #[.string s] w fun e w' => e = .returned (.int .i64 (codeI s)) ∧ w' = w := by
  obtain ⟨tt, fr, hg⟩ := unhide ht
  have HG := hide hg
  clear hg
  go_enter Tryd.func18, Tryd.ntmps18
  go_wp2_with (refine wpList_load_row rfl 62 _ rfl 0 rfl tt wordCells fr _ (unhide HG) Tryd.underlying62 rfl (by kernel_rfl) ?_)
  go_loop [6] (fun i => ∃ k : Nat, k ≤ 20 ∧ i = .int .i64 k ∧ (∀ j, j < k → ((wordS j).toList == s.toList) = false)) (fun i => 20 - (intOf i).toNat)
  case atStart => exact ⟨0, by omega, rfl, fun j hj => by omega⟩
  case round =>
    obtain ⟨k, hk, rfl, hno⟩ := hrel
    have HN := hide hno
    clear hno
    by_cases hlt : k < 20
    · have hle : (k : Int) < 20 := by omega
      have hix := index_word k hlt
      cases he : ((wordS k).toList == s.toList)
      · go_wp2
        go_round
        case rel => exact ⟨k + 1, by omega, by go_num, fun j hj => by
          by_cases e : j = k
          · subst e; exact he
          · exact unhide HN j (by omega)⟩
        case measure => simp [intOf]; omega
      · go_wp2
        go_ret
        exact ⟨ret_int (codeI_some s k hlt he (unhide HN)).symm, rfl⟩
    · have hle : ¬ (k : Int) < 20 := by omega
      go_wp2
      go_ret
      exact ⟨ret_int (codeI_none s fun j hj => unhide HN j (by omega)).symm, rfl⟩

theorem lawCodeWord_any (c : Int) (w : World) (_hc : (Lit.int .i64 c).wf = true) (ht : TabW w) :
    Calls Tryd.prog 6 #[.int .i64 c] w fun e w' => e = .returned (.bool true) ∧ Below w.heap.size w w' := by
  have h0 := ht.pos
  have HT := hide ht
  clear ht
  by_cases h : c < 0 ∨ 20 ≤ c
  · go_enter Tryd.func6, Tryd.ntmps6
    go_wp2_with fail
    refine (specCodeWord_out c _ h).mono ?_
    rintro e w1 ⟨rfl, hb1⟩
    go_wp2_with fail
    refine (CodeWord_out c _ h).mono ?_
    rintro e w2 ⟨rfl, rfl⟩
    go_wp2
    go_ret
    exact ⟨rfl, hb1⟩
  · obtain ⟨k, rfl⟩ := Int.eq_ofNat_of_zero_le (show 0 ≤ c by omega)
    have hk : k < 20 := by omega
    clear h
    go_enter Tryd.func6, Tryd.ntmps6
    go_wp2_with fail
    refine (specCodeWord_in k _ hk).mono ?_
    rintro e w1 ⟨rfl, hb1⟩
    have HT1 := hide ((unhide HT).later h0 hb1)
    go_wp2_with fail
    refine (CodeWord_in k _ hk HT1).mono ?_
    rintro e w2 ⟨rfl, rfl⟩
    go_wp2
    go_ret
    exact ⟨rfl, hb1⟩

theorem lawCodeOf_any (s : ByteArray) (w : World) (hs : s.size ≤ maxLen) (ht : TabW w) :
    Calls Tryd.prog 7 #[.string s] w fun e w' => e = .returned (.bool true) ∧ Below w.heap.size w w' := by
  unfold maxLen at hs
  have h0 := ht.pos
  have HT := hide ht
  clear ht
  by_cases h : 1048576 < s.size
  · go_enter Tryd.func7, Tryd.ntmps7
    go_wp2
    go_ret
    exact ⟨rfl, Below.refl _ _⟩
  · go_enter Tryd.func7, Tryd.ntmps7
    go_wp2_with fail
    refine (specCodeOf_any s _).mono ?_
    rintro e w1 ⟨rfl, hb1⟩
    have HT1 := hide ((unhide HT).later h0 hb1)
    go_wp2_with fail
    refine (CodeOf_any s _ HT1).mono ?_
    rintro e w2 ⟨rfl, rfl⟩
    go_wp2
    go_ret
    exact ⟨rfl, hb1⟩

end Go.Proofs.YtpncohkbdaoceaaDoor
