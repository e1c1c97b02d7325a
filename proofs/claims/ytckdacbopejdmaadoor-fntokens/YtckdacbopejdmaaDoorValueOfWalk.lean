/- Drawn values: 'spec.ValueOf' answers some right value. -/
import Derived.Test.YtckdacbopejdmaaDoorSrcWalk
import Derived.Test.YtckdacbopejdmaaDoorUnary2
import Derived.Test.YtckdacbopejdmaaDoorBinary1
import Derived.Laws.IdiomStrings
namespace Go.Proofs.YtckdacbopejdmaaDoor
open Go.RowKit
set_option linter.unusedVariables false

theorem src_later {w w' : World} {g : Nat} {a : Option Addr} {len cap : Nat} {n seed : Int} (h : SrcAt w g a len cap n seed) (hb : Below w.heap.size w w') : SrcAt w' g a len cap n seed := by
  have hl := World.block_lt_of_cell? _ _ h.c0
  exact ⟨cell_later hb h.c0, cell_later hb h.c1, cell_later hb h.c2, (hb.frozen (p := ⟨g, 1, none⟩) hl).trans h.z1, (hb.frozen (p := ⟨g, 2, none⟩) hl).trans h.z2, h.s0, h.s1, h.a0, h.a1⟩
theorem row_only {g : Nat} {w w' : World} {a : Option Addr} {len : Nat} (h : ByteRow w a len) (ho : OnlyAt g w w') (hg : 0 < len → ∀ x, a = some x → ¬ x.block = g) : ByteRow w' a len := fun i hi => by
  obtain ⟨b, off, c, rfl, h2, h3⟩ := h i hi
  exact ⟨b, off, c, rfl, (only_cell ho (hg (by omega) _ rfl)).trans h2, h3⟩

/-- a right value is answered; what lies below g is as it was -/
def RightV (g : Nat) (w : World) (e : Ending) (w' : World) : Prop :=
  ∃ (k n : Int) (t : ByteArray), e = .returned (.agg #[.int .i64 k, .int .i64 n, .string t]) ∧ vokB k n t = true ∧ t.size ≤ 60 ∧ Below g w w'
theorem vok_zero : vokB 0 0 ⟨#[]⟩ = true := by simp [vokB, ByteArray.toList_eq]
theorem vok_bit (b : Bool) : vokB 2 (bitI b) ⟨#[]⟩ = true := by cases b <;> simp [vokB, bitI, ByteArray.toList_eq]
theorem vok_num {n : Int} (h1 : -2147483648 ≤ n) (h2 : n ≤ 2147483647) : vokB 1 n ⟨#[]⟩ = true := by simp [vokB, h1, h2, ByteArray.toList_eq]
theorem bel_trans {B : Nat} {a b c : World} (h : Below B a b) (k : Below b.heap.size b c) (hB : B ≤ a.heap.size) : Below B a c := h.trans (k.mono (Nat.le_trans hB h.size))
theorem only_bel {g B : Nat} {a b c : World} (h : Below B a b) (k : OnlyAt g b c) (hB : B ≤ g) : Below B a c := h.trans (only_below k hB)

theorem set3 {B k : Nat} {a b : World} {u v x : Value} (h : Below B a b) (hB : B ≤ k) : Below B a (((b.setCell ⟨k, 0, none⟩ u).setCell ⟨k, 1, none⟩ v).setCell ⟨k, 2, none⟩ x) := ((h.setCell hB u).setCell hB v).setCell hB x
theorem int_agg (n : Int) (w : World) :
    Calls Tryd.prog 68 #[.int .i64 n] w fun e w' => e = .returned (.agg #[.int .i64 1, .int .i64 n, .string ⟨#[]⟩]) ∧ Below w.heap.size w w' := l01Int_any n w

def zs40 : ByteArray := ⟨(List.replicate 40 (0 : UInt8)).toArray⟩
def cells40 : Array Value := Array.replicate 40 (.int .u8 0)
def strs6 (j : Nat) : ByteArray := if j = 0 then ⟨#[]⟩ else if j = 1 then ⟨#[97]⟩ else if j = 2 then ⟨#[97, 98]⟩ else if j = 3 then ⟨#[116, 101, 120, 116]⟩ else if j = 4 then ⟨#[98]⟩ else zs40
theorem strs6_size (j : Nat) : (strs6 j).size ≤ 60 := by
  unfold strs6
  repeat' split
  all_goals decide
theorem vok_str (j : Nat) : vokB 3 0 (strs6 j) = true := by simp [vokB, strs6_size j]
theorem make40 (w : World) : (Instr.makeSlice 22 (.int .i64 40) (.int .i64 40)).run Tryd.prog w = .ok (.slice (some ⟨w.heap.size, 0, none⟩) 40 40) (w.alloc (.cells cells40 5)) := by kernel_rfl
theorem conv40 (w : World) : (convert 22 9 (.slice (some ⟨w.heap.size, 0, none⟩) 40 40)).run Tryd.prog (w.alloc (.cells cells40 5)) = .ok (.string zs40) (w.alloc (.cells cells40 5)) := by
  have h := run_convert_bytes_back (P := Tryd.prog) (w.alloc (.cells cells40 5)) 22 9 5 ⟨w.heap.size, 0, none⟩ 40 (List.replicate 40 (0 : UInt8)) Tryd.underlying22 Tryd.underlying5 Tryd.underlying9 (fun j hj => by
    have hj' : j < 40 := by simpa using hj
    have e : (⟨w.heap.size, 0, none⟩ : Addr).add j = ⟨w.heap.size, j, none⟩ := by
      unfold Addr.add
      split <;> simp_all
    rw [e, World.cell?_alloc_at _ _ _ _ rfl]
    have e2 : (List.replicate 40 (0 : UInt8))[j] = 0 := List.getElem_replicate _
    rw [e2]
    simp [cells40, hj'])
  exact h

set_option maxHeartbeats 2000000 in
theorem value_any (g : Nat) (a : Option Addr) (len cap : Nat) (n seed : Int) (w : World) (h : SrcAt w g a len cap n seed) (hn : n + 2 ≤ 1000000000) (hlen : len ≤ 1048577) (hrow : ByteRow w a len) (hg : 0 < len → ∀ x, a = some x → ¬ x.block = g) :
    Calls Tryd.prog 36 #[.pointer (some ⟨g, 0, none⟩)] w fun e w' => RightV g w e w' := by
  have hgl := World.block_lt_of_cell? _ _ h.c0
  have HN := hide (fun (o : Obj) => next_any g a len cap n seed 9 (w.alloc o) (src_later h (nx_alloc _ _)) (by omega) hlen (hrow.later (nx_alloc _ _)) hg (by omega) (by omega))
  have HR := hide hrow
  have HG := hide hg
  clear h hrow hg
  go_enter Tryd.func36, Tryd.ntmps36
  go_wp2_with fail
  refine (unhide HN _).mono ?_
  rintro e w1 ⟨r, s1, rfl, ra, rb, hs, ho⟩
  have hz0 : ∀ o, w1.cell? ⟨w.heap.size, o, none⟩ = (w.alloc (.cells #[.int .i64 0, .int .i64 0, .string ⟨#[]⟩] 24)).cell? ⟨w.heap.size, o, none⟩ := fun o => only_cell ho (by omega)
  have hf0 : ∀ o, w1.frozen? ⟨w.heap.size, o, none⟩ = false := fun o => by rw [only_frozen ho (by omega)]; simp
  have hsz1 : w1.heap.size = w.heap.size + 1 := by rw [ho.size]; simp
  have hbl : Below g w w1 := only_bel ((Below.refl _ _).alloc (Nat.le_of_lt hgl) _) ho (Nat.le_refl _)
  have HRow := hide (row_only ((unhide HR).later (nx_alloc _ _)) ho (unhide HG))
  have HS := hide hs
  have HB := hide hbl
  have HZ := hide hsz1
  clear hs ho HN HR hbl hsz1
  have hr : r = 0 ∨ r = 1 ∨ r = 2 ∨ r = 3 ∨ r = 4 ∨ (5 ≤ r ∧ r ≤ 8) := by omega
  rcases hr with rfl | rfl | rfl | rfl | rfl | hr
  · go_wp2
    exact bodyPost_ret (v := .agg #[.int .i64 0, .int .i64 0, .string ⟨#[]⟩]) (by simp [results, Tryd.results36, go_sem, hz0]) rfl ⟨0, 0, ⟨#[]⟩, rfl, vok_zero, by decide, set3 (unhide HB) (Nat.le_of_lt hgl)⟩
  · have HC := hide (chance_any g a len cap (n + 1) s1 2 w1 (unhide HS) (by omega) hlen (unhide HRow) (unhide HG) (by omega) (by omega))
    go_wp2_with fail
    refine (unhide HC).mono ?_
    rintro e w2 ⟨b, s2, rfl, hs2, ho2⟩
    have hz2 : ∀ o, w2.cell? ⟨w.heap.size, o, none⟩ = (w.alloc (.cells #[.int .i64 0, .int .i64 0, .string ⟨#[]⟩] 24)).cell? ⟨w.heap.size, o, none⟩ := fun o => (only_cell ho2 (by omega)).trans (hz0 o)
    have hf2 : ∀ o, w2.frozen? ⟨w.heap.size, o, none⟩ = false := fun o => (only_frozen ho2 (by omega)).trans (hf0 o)
    have hlt2 : w.heap.size < w2.heap.size := by rw [ho2.size]; have := unhide HZ; omega
    have HB2 := hide (only_bel (unhide HB) ho2 (Nat.le_refl _))
    clear hs2 ho2 hz0 hf0 HC
    go_wp2_with fail
    refine (l01Bool_any b _).mono ?_
    rintro e w3 ⟨rfl, hb3⟩
    have hz3 : ∀ o, w3.cell? ⟨w.heap.size, o, none⟩ = (w.alloc (.cells #[.int .i64 0, .int .i64 0, .string ⟨#[]⟩] 24)).cell? ⟨w.heap.size, o, none⟩ := fun o => (hb3.cell (p := ⟨w.heap.size, o, none⟩) hlt2).trans (hz2 o)
    have hf3 : ∀ o, w3.frozen? ⟨w.heap.size, o, none⟩ = false := fun o => (hb3.frozen (p := ⟨w.heap.size, o, none⟩) hlt2).trans (hf2 o)
    have HB3 := hide (bel_trans (unhide HB2) hb3 (Nat.le_of_lt hgl))
    clear hb3 hz2 hf2
    go_wp2
    exact bodyPost_ret (v := .agg #[.int .i64 2, .int .i64 (bitI b), .string ⟨#[]⟩]) (by simp [results, Tryd.results36, go_sem, hz3]) rfl ⟨2, bitI b, ⟨#[]⟩, rfl, vok_bit b, by decide, set3 (unhide HB3) (Nat.le_of_lt hgl)⟩
  · have hmk := make40 w1
    have hcv := conv40 w1
    have HC := hide (fun (o1 o2 : Obj) (hts : ∀ j, j < 6 → ((w1.alloc o1).alloc o2).cell? ⟨w1.heap.size + 1, j, none⟩ = some (.string (strs6 j))) => pick_any g a len cap (n + 1) s1 (w1.heap.size + 1) 6 6 strs6 ((w1.alloc o1).alloc o2) (src_later (unhide HS) (nx_trans (nx_alloc _ _) (nx_alloc _ _))) (by omega) hlen ((unhide HRow).later (nx_trans (nx_alloc _ _) (nx_alloc _ _))) (unhide HG) (by have := unhide HZ; omega) (by omega) (by omega) hts)
    go_wp2_with fail
    refine (unhide HC _ _ (fun j hj => by
      obtain rfl | rfl | rfl | rfl | rfl | rfl : j = 0 ∨ j = 1 ∨ j = 2 ∨ j = 3 ∨ j = 4 ∨ j = 5 := by omega
      all_goals simp [strs6])).mono ?_
    rintro e w2 ⟨j, s2, hj, rfl, hs2, ho2⟩
    have hz2 : ∀ o, w2.cell? ⟨w.heap.size, o, none⟩ = (w.alloc (.cells #[.int .i64 0, .int .i64 0, .string ⟨#[]⟩] 24)).cell? ⟨w.heap.size, o, none⟩ := fun o => (only_cell ho2 (by omega)).trans ((Below.cell (p := ⟨w.heap.size, o, none⟩) (nx_trans (nx_alloc w1 _) (nx_alloc _ _)) (by have := unhide HZ; show w.heap.size < w1.heap.size; omega)).trans (hz0 o))
    have hf2 : ∀ o, w2.frozen? ⟨w.heap.size, o, none⟩ = false := fun o => (only_frozen ho2 (by omega)).trans ((Below.frozen (p := ⟨w.heap.size, o, none⟩) (nx_trans (nx_alloc w1 _) (nx_alloc _ _)) (by have := unhide HZ; show w.heap.size < w1.heap.size; omega)).trans (hf0 o))
    have hlt2 : w.heap.size < w2.heap.size := by rw [ho2.size]; have := unhide HZ; simp; omega
    have HB2 := hide (only_bel (bel_trans (unhide HB) (nx_trans (nx_alloc w1 _) (nx_alloc _ _)) (Nat.le_of_lt hgl)) ho2 (Nat.le_refl _))
    clear hs2 ho2 hz0 hf0 HC hmk hcv
    generalize hT : strs6 j = tj
    have hv : vokB 3 0 tj = true := hT ▸ vok_str j
    have hsz : tj.size ≤ 60 := hT ▸ strs6_size j
    have HV := hide hv
    clear hT hv
    go_wp2_with fail
    refine (l01Text_any _ _).mono ?_
    rintro e w3 ⟨rfl, hb3⟩
    have hz3 : ∀ o, w3.cell? ⟨w.heap.size, o, none⟩ = (w.alloc (.cells #[.int .i64 0, .int .i64 0, .string ⟨#[]⟩] 24)).cell? ⟨w.heap.size, o, none⟩ := fun o => (hb3.cell (p := ⟨w.heap.size, o, none⟩) hlt2).trans (hz2 o)
    have hf3 : ∀ o, w3.frozen? ⟨w.heap.size, o, none⟩ = false := fun o => (hb3.frozen (p := ⟨w.heap.size, o, none⟩) hlt2).trans (hf2 o)
    have HB3 := hide (bel_trans (unhide HB2) hb3 (Nat.le_of_lt hgl))
    clear hb3 hz2 hf2
    go_wp2
    exact bodyPost_ret (v := .agg #[.int .i64 3, .int .i64 0, .string tj]) (by simp [results, Tryd.results36, go_sem, hz3]) rfl ⟨3, 0, tj, rfl, unhide HV, hsz, set3 (unhide HB3) (Nat.le_of_lt hgl)⟩
  · have hmk := make40 w1
    have hcv := conv40 w1
    have HC := hide (fun (o1 o2 : Obj) (hts : ∀ j, j < 6 → ((w1.alloc o1).alloc o2).cell? ⟨w1.heap.size + 1, j, none⟩ = some (.string (strs6 j))) => pick_any g a len cap (n + 1) s1 (w1.heap.size + 1) 6 6 strs6 ((w1.alloc o1).alloc o2) (src_later (unhide HS) (nx_trans (nx_alloc _ _) (nx_alloc _ _))) (by omega) hlen ((unhide HRow).later (nx_trans (nx_alloc _ _) (nx_alloc _ _))) (unhide HG) (by have := unhide HZ; omega) (by omega) (by omega) hts)
    go_wp2_with fail
    refine (unhide HC _ _ (fun j hj => by
      obtain rfl | rfl | rfl | rfl | rfl | rfl : j = 0 ∨ j = 1 ∨ j = 2 ∨ j = 3 ∨ j = 4 ∨ j = 5 := by omega
      all_goals simp [strs6])).mono ?_
    rintro e w2 ⟨j, s2, hj, rfl, hs2, ho2⟩
    have hz2 : ∀ o, w2.cell? ⟨w.heap.size, o, none⟩ = (w.alloc (.cells #[.int .i64 0, .int .i64 0, .string ⟨#[]⟩] 24)).cell? ⟨w.heap.size, o, none⟩ := fun o => (only_cell ho2 (by omega)).trans ((Below.cell (p := ⟨w.heap.size, o, none⟩) (nx_trans (nx_alloc w1 _) (nx_alloc _ _)) (by have := unhide HZ; show w.heap.size < w1.heap.size; omega)).trans (hz0 o))
    have hf2 : ∀ o, w2.frozen? ⟨w.heap.size, o, none⟩ = false := fun o => (only_frozen ho2 (by omega)).trans ((Below.frozen (p := ⟨w.heap.size, o, none⟩) (nx_trans (nx_alloc w1 _) (nx_alloc _ _)) (by have := unhide HZ; show w.heap.size < w1.heap.size; omega)).trans (hf0 o))
    have hlt2 : w.heap.size < w2.heap.size := by rw [ho2.size]; have := unhide HZ; simp; omega
    have HB2 := hide (only_bel (bel_trans (unhide HB) (nx_trans (nx_alloc w1 _) (nx_alloc _ _)) (Nat.le_of_lt hgl)) ho2 (Nat.le_refl _))
    clear hs2 ho2 hz0 hf0 HC hmk hcv
    generalize hT : strs6 j = tj
    have hv : vokB 3 0 tj = true := hT ▸ vok_str j
    have hsz : tj.size ≤ 60 := hT ▸ strs6_size j
    have HV := hide hv
    clear hT hv
    go_wp2_with fail
    refine (l01Text_any _ _).mono ?_
    rintro e w3 ⟨rfl, hb3⟩
    have hz3 : ∀ o, w3.cell? ⟨w.heap.size, o, none⟩ = (w.alloc (.cells #[.int .i64 0, .int .i64 0, .string ⟨#[]⟩] 24)).cell? ⟨w.heap.size, o, none⟩ := fun o => (hb3.cell (p := ⟨w.heap.size, o, none⟩) hlt2).trans (hz2 o)
    have hf3 : ∀ o, w3.frozen? ⟨w.heap.size, o, none⟩ = false := fun o => (hb3.frozen (p := ⟨w.heap.size, o, none⟩) hlt2).trans (hf2 o)
    have HB3 := hide (bel_trans (unhide HB2) hb3 (Nat.le_of_lt hgl))
    clear hb3 hz2 hf2
    go_wp2
    exact bodyPost_ret (v := .agg #[.int .i64 3, .int .i64 0, .string tj]) (by simp [results, Tryd.results36, go_sem, hz3]) rfl ⟨3, 0, tj, rfl, unhide HV, hsz, set3 (unhide HB3) (Nat.le_of_lt hgl)⟩
  · have HC := hide (fun (o : Obj) => next_any g a len cap (n + 1) s1 3 (w1.alloc o) (src_later (unhide HS) (nx_alloc _ _)) (by omega) hlen ((unhide HRow).later (nx_alloc _ _)) (unhide HG) (by omega) (by omega))
    go_wp2_with fail
    refine (unhide HC _).mono ?_
    rintro e w2 ⟨r2, s2, rfl, r2a, r2b, hs2, ho2⟩
    have hcell : ∀ j, w2.cell? ⟨w1.heap.size, j, none⟩ = (w1.alloc (.cells #[.int .i64 2147483647, .int .i64 (-2147483648), .int .i64 (-1)] 3)).cell? ⟨w1.heap.size, j, none⟩ := fun j => only_cell ho2 (by have := unhide HZ; omega)
    have q0 := hcell 0
    have q1 := hcell 1
    have q2 := hcell 2
    simp at q0 q1 q2
    have hz2 : ∀ o, w2.cell? ⟨w.heap.size, o, none⟩ = (w.alloc (.cells #[.int .i64 0, .int .i64 0, .string ⟨#[]⟩] 24)).cell? ⟨w.heap.size, o, none⟩ := fun o => (only_cell ho2 (by omega)).trans ((Below.cell (p := ⟨w.heap.size, o, none⟩) (nx_alloc _ _) (by have := unhide HZ; show w.heap.size < w1.heap.size; omega)).trans (hz0 o))
    have hf2 : ∀ o, w2.frozen? ⟨w.heap.size, o, none⟩ = false := fun o => (only_frozen ho2 (by omega)).trans ((Below.frozen (p := ⟨w.heap.size, o, none⟩) (nx_alloc _ _) (by have := unhide HZ; show w.heap.size < w1.heap.size; omega)).trans (hf0 o))
    have hlt2 : w.heap.size < w2.heap.size := by rw [ho2.size]; have := unhide HZ; simp; omega
    have HB2 := hide (only_bel ((unhide HB).alloc (by have := unhide HZ; omega) _) ho2 (Nat.le_refl _))
    clear hs2 ho2 hz0 hf0 HC hcell
    have hr2 : r2 = 0 ∨ r2 = 1 ∨ r2 = 2 := by omega
    rcases hr2 with rfl | rfl | rfl
    · go_wp2_with fail
      refine (int_agg _ _).mono ?_
      rintro e w3 ⟨rfl, hb3⟩
      have hz3 : ∀ o, w3.cell? ⟨w.heap.size, o, none⟩ = (w.alloc (.cells #[.int .i64 0, .int .i64 0, .string ⟨#[]⟩] 24)).cell? ⟨w.heap.size, o, none⟩ := fun o => (hb3.cell (p := ⟨w.heap.size, o, none⟩) hlt2).trans (hz2 o)
      have hf3 : ∀ o, w3.frozen? ⟨w.heap.size, o, none⟩ = false := fun o => (hb3.frozen (p := ⟨w.heap.size, o, none⟩) hlt2).trans (hf2 o)
      have HB3 := hide (bel_trans (unhide HB2) hb3 (Nat.le_of_lt hgl))
      clear hb3 hz2 hf2
      go_wp2
      exact bodyPost_ret (v := .agg #[.int .i64 1, .int .i64 (2147483647), .string ⟨#[]⟩]) (by simp [results, Tryd.results36, go_sem, hz3]) rfl ⟨1, 2147483647, ⟨#[]⟩, rfl, vok_num (by omega) (by omega), by decide, set3 (unhide HB3) (Nat.le_of_lt hgl)⟩
    · go_wp2_with fail
      refine (int_agg _ _).mono ?_
      rintro e w3 ⟨rfl, hb3⟩
      have hz3 : ∀ o, w3.cell? ⟨w.heap.size, o, none⟩ = (w.alloc (.cells #[.int .i64 0, .int .i64 0, .string ⟨#[]⟩] 24)).cell? ⟨w.heap.size, o, none⟩ := fun o => (hb3.cell (p := ⟨w.heap.size, o, none⟩) hlt2).trans (hz2 o)
      have hf3 : ∀ o, w3.frozen? ⟨w.heap.size, o, none⟩ = false := fun o => (hb3.frozen (p := ⟨w.heap.size, o, none⟩) hlt2).trans (hf2 o)
      have HB3 := hide (bel_trans (unhide HB2) hb3 (Nat.le_of_lt hgl))
      clear hb3 hz2 hf2
      go_wp2
      exact bodyPost_ret (v := .agg #[.int .i64 1, .int .i64 (-2147483648), .string ⟨#[]⟩]) (by simp [results, Tryd.results36, go_sem, hz3]) rfl ⟨1, -2147483648, ⟨#[]⟩, rfl, vok_num (by omega) (by omega), by decide, set3 (unhide HB3) (Nat.le_of_lt hgl)⟩
    · go_wp2_with fail
      refine (int_agg _ _).mono ?_
      rintro e w3 ⟨rfl, hb3⟩
      have hz3 : ∀ o, w3.cell? ⟨w.heap.size, o, none⟩ = (w.alloc (.cells #[.int .i64 0, .int .i64 0, .string ⟨#[]⟩] 24)).cell? ⟨w.heap.size, o, none⟩ := fun o => (hb3.cell (p := ⟨w.heap.size, o, none⟩) hlt2).trans (hz2 o)
      have hf3 : ∀ o, w3.frozen? ⟨w.heap.size, o, none⟩ = false := fun o => (hb3.frozen (p := ⟨w.heap.size, o, none⟩) hlt2).trans (hf2 o)
      have HB3 := hide (bel_trans (unhide HB2) hb3 (Nat.le_of_lt hgl))
      clear hb3 hz2 hf2
      go_wp2
      exact bodyPost_ret (v := .agg #[.int .i64 1, .int .i64 (-1), .string ⟨#[]⟩]) (by simp [results, Tryd.results36, go_sem, hz3]) rfl ⟨1, -1, ⟨#[]⟩, rfl, vok_num (by omega) (by omega), by decide, set3 (unhide HB3) (Nat.le_of_lt hgl)⟩
  · have e0 : (r == 0) = false := beq_eq_false_iff_ne.2 (by omega)
    have e1 : (r == 1) = false := beq_eq_false_iff_ne.2 (by omega)
    have e2 : (r == 2) = false := beq_eq_false_iff_ne.2 (by omega)
    have e3 : (r == 3) = false := beq_eq_false_iff_ne.2 (by omega)
    have e4 : (r == 4) = false := beq_eq_false_iff_ne.2 (by omega)
    have HC := hide (next_any g a len cap (n + 1) s1 20 w1 (unhide HS) (by omega) hlen (unhide HRow) (unhide HG) (by omega) (by omega))
    go_wp2_with fail
    refine (unhide HC).mono ?_
    rintro e w2 ⟨r2, s2, rfl, r2a, r2b, hs2, ho2⟩
    have hz2 : ∀ o, w2.cell? ⟨w.heap.size, o, none⟩ = (w.alloc (.cells #[.int .i64 0, .int .i64 0, .string ⟨#[]⟩] 24)).cell? ⟨w.heap.size, o, none⟩ := fun o => (only_cell ho2 (by omega)).trans (hz0 o)
    have hf2 : ∀ o, w2.frozen? ⟨w.heap.size, o, none⟩ = false := fun o => (only_frozen ho2 (by omega)).trans (hf0 o)
    have hlt2 : w.heap.size < w2.heap.size := by rw [ho2.size]; have := unhide HZ; omega
    have HB2 := hide (only_bel (unhide HB) ho2 (Nat.le_refl _))
    clear hs2 ho2 hz0 hf0 HC
    go_wp2_with fail
    refine (int_agg _ _).mono ?_
    rintro e w3 ⟨rfl, hb3⟩
    have hz3 : ∀ o, w3.cell? ⟨w.heap.size, o, none⟩ = (w.alloc (.cells #[.int .i64 0, .int .i64 0, .string ⟨#[]⟩] 24)).cell? ⟨w.heap.size, o, none⟩ := fun o => (hb3.cell (p := ⟨w.heap.size, o, none⟩) hlt2).trans (hz2 o)
    have hf3 : ∀ o, w3.frozen? ⟨w.heap.size, o, none⟩ = false := fun o => (hb3.frozen (p := ⟨w.heap.size, o, none⟩) hlt2).trans (hf2 o)
    have HB3 := hide (bel_trans (unhide HB2) hb3 (Nat.le_of_lt hgl))
    clear hb3 hz2 hf2
    go_wp2
    exact bodyPost_ret (v := .agg #[.int .i64 1, .int .i64 (r2 - 8), .string ⟨#[]⟩]) (by simp [results, Tryd.results36, go_sem, hz3]) rfl ⟨1, r2 - 8, ⟨#[]⟩, rfl, vok_num (by omega) (by omega), by decide, set3 (unhide HB3) (Nat.le_of_lt hgl)⟩

end Go.Proofs.YtckdacbopejdmaaDoor
