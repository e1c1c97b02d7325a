/- What is no request: its reply; a request is numbered. -/
import Derived.Test.YthfoabcmgiiadaaGreatDoorConnC4
import Derived.Test.YthfoabcmgiiadaaGreatDoorWireX3
namespace Go.Proofs.YthfoabcmgiiadaaGreatDoor
open Go.RowKit Go.Joins
set_option linter.unusedVariables false

def wordsK : List (List UInt8) := [[111, 107], [98, 97, 100], [108, 111, 110, 103], [102, 111, 114, 109], [114, 97, 110, 103, 101], [110, 111, 110, 101], [109, 97, 110, 121], [102, 117, 108, 108], [116, 121, 112, 101], [100, 101, 101, 112], [115, 105, 122, 101], [110, 97, 109, 101], [116, 119, 105, 99, 101], [112, 108, 97, 99, 101], [99, 111, 117, 110, 116], [102, 117, 101, 108], [108, 97, 116, 101], [109, 101, 116, 104, 111, 100], [109, 111, 114, 101], [115, 104, 117, 116]]
def wordK (k : Nat) : ByteArray := ⟨(wordsK.getD k []).toArray⟩
def wordCellsK : Array Value := (wordsK.map fun l => Value.string ⟨l.toArray⟩).toArray
/-- the table of codes' words lies in its variable's block -/
def TabK (w : World) : Prop := ∃ t fr, w.heap[0]? = some (.cells wordCellsK t fr)
theorem TabK.cell {w : World} (h : TabK w) (k : Nat) (hk : k = 2 ∨ k = 3 ∨ k = 17) : w.cell? ⟨0, k, none⟩ = some (.string (wordK k)) := by
  obtain ⟨t, fr, h⟩ := h
  have e : wordCellsK[k]? = some (.string (wordK k)) := by
    obtain rfl | rfl | rfl := hk
    all_goals rfl
  simp [World.cell?, h, e]
theorem TabK.later {w w' : World} (h : TabK w) (hb : Below w.heap.size w w') : TabK w' := by
  obtain ⟨t, fr, h⟩ := h
  exact ⟨t, fr, (hb.block _ (Array.getElem?_eq_some_iff.1 h).1).trans h⟩
theorem TabK.below {w w' : World} {B : Nat} (h : TabK w) (hb : Below B w w') (hB : w.heap.size ≤ B) : TabK w' := h.later (hb.mono hB)

theorem CodeWord_k (k : Nat) (w : World) (hk : k = 2 ∨ k = 3 ∨ k = 17) (ht : Hid (TabK w)) :
    Calls Tryz.prog 86 #[.int .i64 k] w fun e w' => e = .returned (.string (wordK k)) ∧ w' = w := by
  have hc := (unhide ht).cell k hk
  have h0 : ¬ (k : Int) < 0 := by omega
  have h1 : ¬ (20 : Int) ≤ (k : Int) := by omega
  have h2 : (k : Int) < 20 := by omega
  generalize wordK k = W at *
  clear hk
  go_enter Tryz.func86, Tryz.ntmps86
  go_wp2
  go_ret
  exact ⟨rfl, rfl⟩

/-- the reply to what is no request -/
def faultT (k : Nat) : ByteArray := (replyR (faultC k) (wordK k) true).1

set_option maxHeartbeats 1000000 in
theorem faultReply_k (k : Nat) (w : World) (hk : k = 2 ∨ k = 3 ∨ k = 17) (ht : TabK w) (hp : PowTabW w) :
    Calls Tryz.prog 71 #[.int .i64 k] w fun e w' => e = .returned (.string (faultT k)) ∧ Below w.heap.size w w' := by
  have HC := hide (CodeWord_k k w hk (hide ht))
  have HR := hide (ReplyText_any (faultC k) (wordK k) true w (by obtain rfl | rfl | rfl := hk <;> decide) hp)
  have hfe : faultT k = (replyR (faultC k) (wordK k) true).1 := rfl
  have HF := hide hfe
  clear hfe ht hp
  generalize (replyR (faultC k) (wordK k) true).1 = T at *
  generalize (replyR (faultC k) (wordK k) true).2 = U at *
  generalize wordK k = W at *
  obtain rfl | rfl | rfl := hk
  all_goals
    go_enter Tryz.func71, Tryz.ntmps71
    go_wp2_with fail
    refine (unhide HC).mono ?_
    rintro e w' ⟨rfl, rfl⟩
    go_wp2_with fail
    refine (unhide HR).mono ?_
    rintro e w1 ⟨rfl, hb1⟩
    go_wp2
    go_ret
    exact ⟨kret_s (unhide HF).symm, hb1⟩

/-- what numbering leaves: the line with a slot more, all other blocks as they were -/
def NumP (base b : Nat) (c : CN) (v : Value) (x : SL) (w w' : World) : Prop := ∃ v', LnAt w' base b { c with s := c.s ++ [x], n := c.n + 1 } v' ∧ Below base w w' ∧ ∀ k, k < w.heap.size → k ≠ b → v.ownBlock ≠ some k → w'.heap[k]? = w.heap[k]?

set_option maxHeartbeats 4000000 in
set_option maxRecDepth 100000 in
theorem number_ok {w : World} {base b : Nat} {c : CN} {v : Value} (h : LnAt w base b c v) (hl : c.s.length ≤ 1000) (hn0 : 0 ≤ c.n) (hn : c.n ≤ 100000) :
    Calls Tryz.prog 48 #[.pointer (some ⟨b, 0, none⟩), .int .i64 0] w fun e w' => e = .returned (.int .i64 c.n) ∧ NumP base b c v ⟨c.n, false, ⟨#[]⟩⟩ w w' := by
  obtain ⟨c0, c1, c2, c3, c4⟩ := h.cells
  have hbl := h.lt
  have hbb := h.hb
  have HL := hide h
  clear h c0 c1 c2 c3
  obtain ⟨o, e, i, s, n⟩ := c
  dsimp only at *
  have HX := hide (qx_drew (qx_alloc w (.cells #[.int .i64 n, .bool false, .string ⟨#[]⟩] 66)))
  have HJ := hide (join_any ⟨n, false, ⟨#[]⟩⟩ ((unhide HL).later (unhide HX)) hl)
  dsimp only at HJ
  have hw1 : IntKind.i64.wrap (n + 1) = n + 1 := by unfold IntKind.wrap; simp [IntKind.bits, IntKind.signed]; omega
  have hbs : base ≤ w.heap.size := by omega
  have x0 := hide (show (w.alloc (.cells #[.int .i64 n, .bool false, .string ⟨#[]⟩] 66)).drew.heap[w.heap.size]? = some (.cells #[.int .i64 n, .bool false, .string ⟨#[]⟩] 66 (0, 0)) by
    show (w.heap.push _)[w.heap.size]? = _
    rw [Array.getElem?_push, if_pos rfl])
  clear hl
  go_enter Tryz.func48, Tryz.ntmps48
  go_wp2
  go_region_with (go_at_call 45; refine (unhide HJ).mono ?_; rintro ex y ⟨rfl, v', hl1, hby, hk1⟩)
  have hxk := hk1 w.heap.size (by simp) (by omega) (fun e => by have := (unhide HL).row.own_lt _ e; omega)
  have z0 := (cell_of_block (hxk.trans (unhide x0)) 0).trans rfl
  have HLy := hide (hl1.setN (n + 1))
  obtain ⟨_, _, _, _, y4⟩ := hl1.cells
  have g4 := hl1.free 4
  have hyl := hl1.lt
  have HBy := hide ((((unhide HX).mono hbs).trans hby).setCell (p := ⟨b, 4, none⟩) hbb (.int .i64 (n + 1)))
  have hne : b ≠ w.heap.size := by omega
  have hne' : w.heap.size ≠ b := by omega
  dsimp only at y4 HLy
  have HKK := hide (fun j (hj : j < w.heap.size) (hjb : j ≠ b) (hjv : v.ownBlock ≠ some j) => (Below.heap_setCell y ⟨b, 4, none⟩ (.int .i64 (n + 1)) j (by exact hjb)).trans ((hk1 j (by simp; omega) hjb hjv).trans ((unhide HX).block j hj)))
  clear hk1 hxk hl1 hby HJ HX x0 c4
  go_wp2
  go_ret
  exact ⟨rfl, v', unhide HLy, unhide HBy, unhide HKK⟩

set_option maxHeartbeats 4000000 in
set_option maxRecDepth 100000 in
theorem number_fault {w : World} {base b : Nat} {c : CN} {v : Value} (k : Nat) (hk : k = 2 ∨ k = 3 ∨ k = 17) (ht : TabK w) (hp : PowTabW w) (h : LnAt w base b c v) (hl : c.s.length ≤ 1000) (hn0 : 0 ≤ c.n) (hn : c.n ≤ 100000) :
    Calls Tryz.prog 48 #[.pointer (some ⟨b, 0, none⟩), .int .i64 k] w fun e w' => e = .returned (.int .i64 c.n) ∧ NumP base b c v ⟨c.n, true, faultT k⟩ w w' := by
  obtain ⟨c0, c1, c2, c3, c4⟩ := h.cells
  have hbl := h.lt
  have hbb := h.hb
  have HL := hide h
  clear h c0 c1 c2 c3
  obtain ⟨o, e, i, s, n⟩ := c
  dsimp only at *
  have hA := qx_alloc w (.cells #[.int .i64 n, .bool false, .string ⟨#[]⟩] 66)
  have HA := hide hA
  have HFR := hide (faultReply_k k _ hk (ht.later hA) (hp.later hA (Nat.le_refl _)))
  have hk0 : (k : Int) ≠ 0 := by omega
  have hk1 : ((k : Int) == 0) = false := by simp; omega
  have hk2 : ((k : Int) != 0) = true := by simp; omega
  have hk3 : k ≠ 0 := by omega
  generalize faultT k = T at *
  have hw1 : IntKind.i64.wrap (n + 1) = n + 1 := by unfold IntKind.wrap; simp [IntKind.bits, IntKind.signed]; omega
  have hbs : base ≤ w.heap.size := by omega
  clear ht hp hA
  go_enter Tryz.func48, Tryz.ntmps48
  go_wp2_with fail
  refine (unhide HFR).mono ?_
  rintro ex w1 ⟨rfl, hb1⟩
  have hz1 : w.heap.size < w1.heap.size := by have := hb1.size; simp at this; omega
  have x0 := hide (show w1.heap[w.heap.size]? = some (.cells #[.int .i64 n, .bool false, .string ⟨#[]⟩] 66 (0, 0)) by
    rw [hb1.block _ (by simp)]
    show (w.heap.push _)[w.heap.size]? = _
    rw [Array.getElem?_push, if_pos rfl])
  have X2 := hide (show ((w1.setCell ⟨w.heap.size, 1, none⟩ (.bool true)).setCell ⟨w.heap.size, 2, none⟩ (.string T)).drew.heap[w.heap.size]? = some (.cells #[.int .i64 n, .bool true, .string T] 66 (0, 0)) by
    have := block_setCell (i := 2) (block_setCell (i := 1) (unhide x0) (.bool true)) (.string T)
    exact this)
  have p0 := (cell_of_block (unhide x0) 0).trans rfl
  have p1 := (cell_of_block (unhide x0) 1).trans rfl
  have p2 := (cell_of_block (unhide x0) 2).trans rfl
  have f1 := unfrozen_of_block (unhide x0) 1
  have f2 := unfrozen_of_block (unhide x0) 2
  have hL1 := ((unhide HL).later (unhide HA)).later hb1
  have hov := hide (fun j hj => show j < w.heap.size from (unhide HL).row.own_lt j hj)
  have hL2 := (hL1.other (k := w.heap.size) (o := 1) (u := .bool true) (by omega) (fun j hj => by have := unhide hov j hj; omega)).other (k := w.heap.size) (o := 2) (u := .string T) (by omega) (fun j hj => by have := unhide hov j hj; omega)
  have HJ := hide (join_any ⟨n, true, T⟩ (hL2.later (qx_drew (Below.refl _ _))) hl)
  dsimp only at HJ
  have HX := hide (((((unhide HA).mono hbs).trans (hb1.mono (by simp; omega))).setCell (p := ⟨w.heap.size, 1, none⟩) hbs (.bool true)).setCell (p := ⟨w.heap.size, 2, none⟩) hbs (.string T))
  have HX2 := hide (((qx_trans (unhide HA) hb1).setCell (p := ⟨w.heap.size, 1, none⟩) (Nat.le_refl _) (.bool true)).setCell (p := ⟨w.heap.size, 2, none⟩) (Nat.le_refl _) (.string T))
  clear hL1 hL2 hb1 hl x0 HFR
  go_wp2
  go_region_with (go_at_call 45; refine (unhide HJ).mono ?_; rintro ex y ⟨rfl, v', hl1, hby, hkk⟩)
  have hxk := hkk w.heap.size (by simp; omega) (by omega) (fun e => by have := unhide hov _ e; omega)
  have z0 := (cell_of_block (hxk.trans (unhide X2)) 0).trans rfl
  have HLy := hide (hl1.setN (n + 1))
  obtain ⟨_, _, _, _, y4⟩ := hl1.cells
  have g4 := hl1.free 4
  have hyl := hl1.lt
  have HBy := hide ((((unhide HX).trans (Below.refl base _).drew).trans hby).setCell (p := ⟨b, 4, none⟩) hbb (.int .i64 (n + 1)))
  have hne : b ≠ w.heap.size := by omega
  have hne' : w.heap.size ≠ b := by omega
  dsimp only at y4 HLy
  have HKK := hide (fun j (hj : j < w.heap.size) (hjb : j ≠ b) (hjv : v.ownBlock ≠ some j) => (Below.heap_setCell y ⟨b, 4, none⟩ (.int .i64 (n + 1)) j (by exact hjb)).trans ((hkk j (by simp; omega) hjb hjv).trans ((unhide HX2).block j hj)))
  clear hkk hxk hl1 hby HJ HX X2 c4 p0 p1 p2 f1 f2
  go_wp2
  go_ret
  exact ⟨rfl, v', unhide HLy, unhide HBy, unhide HKK⟩

end Go.Proofs.YthfoabcmgiiadaaGreatDoor
