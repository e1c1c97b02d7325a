/- Words of sources: code and specification both answer 'wordB'. -/
import Derived.Test.YtbipgmikgokfpaaDoorLexL
import Derived.Laws.Rows
namespace Go.Proofs.YtbipgmikgokfpaaDoor
open Go.RowKit
set_option linter.unusedVariables false

/-- text k of a table -/
def txtS (ws : List (List UInt8)) (k : Nat) : ByteArray := ⟨(ws.getD k []).toArray⟩
theorem txtS_toList (ws : List (List UInt8)) (k : Nat) : (txtS ws k).toList = ws.getD k [] := by unfold txtS; rw [ByteArray.toList_eq]
theorem any_yes (ws : List (List UInt8)) (s : ByteArray) (k : Nat) (hk : k < ws.length) (h : ((txtS ws k).toList == s.toList) = true) : ws.any (· == s.data.toList) = true := by
  rw [txtS_toList, ByteArray.toList_eq] at h
  rw [List.any_eq_true]
  exact ⟨ws.getD k [], by rw [List.getD_eq_getElem?_getD, List.getElem?_eq_getElem hk]; simp, h⟩
theorem any_no (ws : List (List UInt8)) (s : ByteArray) (h : ∀ j, j < ws.length → ((txtS ws j).toList == s.toList) = false) : ws.any (· == s.data.toList) = false := by
  rw [List.any_eq_false]
  intro x hx
  obtain ⟨j, hj, rfl⟩ := List.mem_iff_getElem.1 hx
  have := h j hj
  rw [txtS_toList, ByteArray.toList_eq, List.getD_eq_getElem?_getD, List.getElem?_eq_getElem hj] at this
  simpa using this
theorem none_succ {ws : List (List UInt8)} {s : ByteArray} {k : Nat} (h : ∀ j, j < k → ((txtS ws j).toList == s.toList) = false) (hk : ((txtS ws k).toList == s.toList) = false) : ∀ j, j < k + 1 → ((txtS ws j).toList == s.toList) = false := fun j hj => by
  by_cases e : j = k
  · subst e; exact hk
  · exact h j (by omega)
def strCells (ws : List (List UInt8)) : Array Value := (ws.map fun l => Value.string ⟨l.toArray⟩).toArray
theorem strCells_get (ws : List (List UInt8)) (k : Nat) (hk : k < ws.length) : (strCells ws)[k]? = some (.string (txtS ws k)) := by
  simp [strCells, txtS, hk]

theorem l02Words_any (w : World) :
    Calls Tryd.prog 176 #[] w fun e w' => e = .returned (.slice (some ⟨w.heap.size, 0, none⟩) 12 12) ∧ (∀ k, k < 12 → w'.cell? ⟨w.heap.size, k, none⟩ = some (.string (txtS srcWords k))) ∧ w.heap.size < w'.heap.size ∧ Below w.heap.size w w' := by
  have hc : ∀ k, k < 12 → (w.alloc (.cells (strCells srcWords) 9)).cell? ⟨w.heap.size, k, none⟩ = some (.string (txtS srcWords k)) := fun k hk => by
    rw [← strCells_get srcWords k hk]; simp
  have HC := hide hc
  clear hc
  go_enter Tryd.func176, Tryd.ntmps176
  go_wp2
  go_ret
  exact ⟨rfl, unhide HC, by simp, (Below.refl _ _).alloc (Nat.le_refl _) _⟩

set_option maxHeartbeats 400000 in
theorem specWordOK_any (s : ByteArray) (w : World) (hs : s.size ≤ maxLen) :
    Calls Tryd.prog 164 #[.string s] w fun e w' => e = .returned (.bool (wordB s.data.toList)) ∧ Below w.heap.size w w' := by
  unfold maxLen at hs
  by_cases ho : 65536 < s.size
  · have hb : Hid (wordB s.data.toList = false) := by
      cases hw : wordB s.data.toList
      · rfl
      · have := wordB_len hw; rw [size_list] at this; omega
    go_enter Tryd.func164, Tryd.ntmps164
    go_wp2
    go_ret
    exact ⟨ret_bool (unhide hb).symm, Below.refl _ _⟩
  go_enter Tryd.func164, Tryd.ntmps164
  go_wp2_with fail
  refine (l02Words_any w).mono ?_
  rintro e w1 ⟨rfl, hc, hz, hb1⟩
  have HC := hide hc
  clear hc
  go_wp2
  go_loop [4] (fun i => ∃ k : Nat, k ≤ 12 ∧ i = .int .i64 k ∧ (∀ j, j < k → ((txtS srcWords j).toList == s.toList) = false)) (fun i => 12 - (intOf i).toNat)
  case atStart => exact ⟨0, by omega, rfl, fun j hj => by omega⟩
  case round =>
    obtain ⟨k, hk, rfl, hno⟩ := hrel
    have HN := hide hno
    clear hno
    by_cases hlt : k < 12
    · have hlt' : (k : Int) < 12 := by omega
      have hcell := unhide HC k hlt
      cases he : ((txtS srcWords k).toList == s.toList)
      · go_wp2
        go_round
        case rel => exact ⟨k + 1, by omega, by go_num, none_succ (unhide HN) he⟩
        case measure => simp [intOf]; omega
      · go_wp2
        go_ret
        exact ⟨ret_bool (any_yes srcWords s k hlt he).symm, hb1⟩
    · have hlt' : ¬ (k : Int) < 12 := by omega
      go_wp2
      go_ret
      exact ⟨ret_bool (any_no srcWords s (fun j hj => unhide HN j (by have : srcWords.length = 12 := rfl; omega))).symm, hb1⟩

/-- a table of texts lies in its variable's block -/
def TabAt (w : World) (g : Nat) (ws : List (List UInt8)) : Prop := ∃ t fr, w.heap[g]? = some (.cells (strCells ws) t fr)
theorem TabAt.later {w w' : World} {g : Nat} {ws : List (List UInt8)} (h : TabAt w g ws) (hb : Below w.heap.size w w') : TabAt w' g ws := by
  obtain ⟨t, fr, h⟩ := h
  exact ⟨t, fr, (hb.block g (Array.getElem?_eq_some_iff.1 h).1).trans h⟩
theorem TabAt.lt {w : World} {g : Nat} {ws : List (List UInt8)} (h : TabAt w g ws) : g < w.heap.size := by
  obtain ⟨t, fr, h⟩ := h
  exact (Array.getElem?_eq_some_iff.1 h).1
theorem TabAt.below {w w' : World} {g base : Nat} {ws : List (List UInt8)} (h : TabAt w g ws) (hb : Below base w w') (hg : g < base) : TabAt w' g ws := by
  obtain ⟨t, fr, h⟩ := h
  exact ⟨t, fr, (hb.block g hg).trans h⟩

theorem index_words (k : Nat) (hk : k < 12) (w : World) : (Instr.index 184 (.agg (strCells srcWords)) (.int .i64 (k : Int))).run Tryd.prog w = .ok (.string (txtS srcWords k)) w := by
  obtain rfl | rfl | rfl | rfl | rfl | rfl | rfl | rfl | rfl | rfl | rfl | rfl : k = 0 ∨ k = 1 ∨ k = 2 ∨ k = 3 ∨ k = 4 ∨ k = 5 ∨ k = 6 ∨ k = 7 ∨ k = 8 ∨ k = 9 ∨ k = 10 ∨ k = 11 := by omega
  all_goals kernel_rfl

set_option maxHeartbeats 400000 in
theorem WordOK_any (s : ByteArray) (w : World) (ht : Hid (TabAt w 0 srcWords)) :
    Calls Tryd.prog 172 #[.string s] w fun e w' => e = .returned (.bool (wordB s.data.toList)) ∧ w' = w := by
  obtain ⟨tt, fr, hg⟩ := unhide ht
  have HG := hide hg
  clear hg
  go_enter Tryd.func172, Tryd.ntmps172
  go_wp2_with (refine wpList_load_row rfl 184 _ rfl 0 rfl tt (strCells srcWords) fr _ (unhide HG) Tryd.underlying184 rfl (by kernel_rfl) ?_)
  go_loop [6] (fun i => ∃ k : Nat, k ≤ 12 ∧ i = .int .i64 k ∧ (∀ j, j < k → ((txtS srcWords j).toList == s.toList) = false)) (fun i => 12 - (intOf i).toNat)
  case atStart => exact ⟨0, by omega, rfl, fun j hj => by omega⟩
  case round =>
    obtain ⟨k, hk, rfl, hno⟩ := hrel
    have HN := hide hno
    clear hno
    by_cases hlt : k < 12
    · have hle : (k : Int) < 12 := by omega
      have hix := index_words k hlt
      cases he : ((txtS srcWords k).toList == s.toList)
      · go_wp2
        go_round
        case rel => exact ⟨k + 1, by omega, by go_num, none_succ (unhide HN) he⟩
        case measure => simp [intOf]; omega
      · go_wp2
        go_ret
        exact ⟨ret_bool (any_yes srcWords s k hlt he).symm, rfl⟩
    · have hle : ¬ (k : Int) < 12 := by omega
      go_wp2
      go_ret
      exact ⟨ret_bool (any_no srcWords s (fun j hj => unhide HN j (by have : srcWords.length = 12 := rfl; omega))).symm, rfl⟩

end Go.Proofs.YtbipgmikgokfpaaDoor
