/- Drawn sources: expressions. Whatever is drawn, a text comes out, and only the source of choices is written. -/
import Derived.Test.YtckdacbopejdmaaDoorValueOf2
import Derived.Test.YtckdacbopejdmaaDoorDigits
namespace Go.Proofs.YtckdacbopejdmaaDoor
open Go.RowKit
set_option linter.unusedVariables false

/-- all but block g, and what is new, is as it was -/
structure Keeps (g : Nat) (w w' : World) : Prop where
  os : w'.os = w.os
  tape : w'.tape = w.tape
  output : w'.output = w.output
  size : w.heap.size ≤ w'.heap.size
  block : ∀ k, k < w.heap.size → k ≠ g → w'.heap[k]? = w.heap[k]?
theorem Keeps.refl (g : Nat) (w : World) : Keeps g w w := ⟨rfl, rfl, rfl, Nat.le_refl _, fun _ _ _ => rfl⟩
theorem Keeps.trans {g : Nat} {a b c : World} (h : Keeps g a b) (k : Keeps g b c) : Keeps g a c :=
  ⟨k.os.trans h.os, k.tape.trans h.tape, k.output.trans h.output, Nat.le_trans h.size k.size, fun i hi hg => (k.block i (Nat.lt_of_lt_of_le hi h.size) hg).trans (h.block i hi hg)⟩
theorem Keeps.of_only {g : Nat} {w w' : World} (h : OnlyAt g w w') : Keeps g w w' := ⟨h.os, h.tape, h.output, by rw [h.size]; exact Nat.le_refl _, fun k _ hk => h.block k hk⟩
theorem Keeps.of_below {g : Nat} {w w' : World} (h : Below w.heap.size w w') : Keeps g w w' := ⟨h.os, h.tape, h.output, h.size, fun k hk _ => h.block k hk⟩
theorem Keeps.below {g B : Nat} {w w' : World} (h : Keeps g w w') (hB : B ≤ g) (hg : g < w.heap.size) : Below B w w' := ⟨h.os, h.tape, h.output, h.size, fun k hk => h.block k (by omega) (by omega)⟩
theorem Keeps.cell {g : Nat} {w w' : World} (h : Keeps g w w') {b o : Nat} {v : Value} (hc : w.cell? ⟨b, o, none⟩ = some v) (hb : b ≠ g) : w'.cell? ⟨b, o, none⟩ = some v :=
  (World.cell?_of_block (w := w) (h.block b (World.block_lt_of_cell? _ _ hc) hb)).trans hc
/-- a source of choices in block g, at most N taken -/
structure St (g : Nat) (a : Option Addr) (len cap : Nat) (N : Int) (w : World) : Prop where
  src : ∃ n seed, SrcAt w g a len cap n seed ∧ n ≤ N
  row : ByteRow w a len
  apart : 0 < len → ∀ x, a = some x → ¬ x.block = g
  few : len ≤ 1048577
theorem St.mono {g : Nat} {a : Option Addr} {len cap : Nat} {N M : Int} {w : World} (h : St g a len cap N w) (hm : N ≤ M) : St g a len cap M w := by
  obtain ⟨n, s, h1, h2⟩ := h.src
  exact ⟨⟨n, s, h1, by omega⟩, h.row, h.apart, h.few⟩
theorem St.lt {g : Nat} {a : Option Addr} {len cap : Nat} {N : Int} {w : World} (h : St g a len cap N w) : g < w.heap.size := by
  obtain ⟨n, s, h1, h2⟩ := h.src
  exact World.block_lt_of_cell? _ _ h1.c0
theorem St.later {g : Nat} {a : Option Addr} {len cap : Nat} {N : Int} {w w' : World} (h : St g a len cap N w) (hb : Below w.heap.size w w') : St g a len cap N w' := by
  obtain ⟨n, s, h1, h2⟩ := h.src
  exact ⟨⟨n, s, src_later h1 hb, h2⟩, h.row.later hb, h.apart, h.few⟩
theorem St.alloc {g : Nat} {a : Option Addr} {len cap : Nat} {N : Int} {w : World} (h : St g a len cap N w) (o : Obj) : St g a len cap N (w.alloc o) := h.later (nx_alloc w o)
/-- three names in block q -/
def nm3 (j : Nat) : ByteArray := if j = 0 then ⟨#[120]⟩ else if j = 1 then ⟨#[121]⟩ else ⟨#[112, 97, 116, 104]⟩
def Nm (g : Nat) (w : World) (q : Nat) : Prop := q ≠ g ∧ ∀ j, j < 3 → w.cell? ⟨q, j, none⟩ = some (.string (nm3 j))
theorem Nm.keep {g q : Nat} {w w' : World} (h : Nm g w q) (k : Keeps g w w') : Nm g w' q := ⟨h.1, fun j hj => k.cell (h.2 j hj) h.1⟩
theorem Nm.alloc {g q : Nat} {w : World} (h : Nm g w q) (o : Obj) : Nm g (w.alloc o) q := h.keep (.of_below (nx_alloc w o))

variable {g : Nat} {a : Option Addr} {len cap : Nat}

theorem next_st (N m : Int) (w : World) (h : St g a len cap N w) (hN : N ≤ 900000000) (hm1 : 1 < m) (hm2 : m ≤ 256) :
    Calls Tryd.prog 63 #[.pointer (some ⟨g, 0, none⟩), .int .i64 m] w fun e w' => ∃ r : Int, e = .returned (.int .i64 r) ∧ 0 ≤ r ∧ r < m ∧ St g a len cap (N + 1) w' ∧ Keeps g w w' := by
  obtain ⟨n, seed, h1, h2⟩ := h.src
  refine (next_any g a len cap n seed m w h1 (by omega) h.few h.row h.apart hm1 hm2).mono ?_
  rintro e w' ⟨r, s', rfl, r0, r1, hs, ho⟩
  exact ⟨r, rfl, r0, r1, ⟨⟨n + 1, s', hs, by omega⟩, row_only h.row ho h.apart, h.apart, h.few⟩, .of_only ho⟩
theorem chance_st (N m : Int) (w : World) (h : St g a len cap N w) (hN : N ≤ 900000000) (hm1 : 1 < m) (hm2 : m ≤ 256) :
    Calls Tryd.prog 65 #[.pointer (some ⟨g, 0, none⟩), .int .i64 m] w fun e w' => ∃ b : Bool, e = .returned (.bool b) ∧ St g a len cap (N + 1) w' ∧ Keeps g w w' := by
  obtain ⟨n, seed, h1, h2⟩ := h.src
  refine (chance_any g a len cap n seed m w h1 (by omega) h.few h.row h.apart hm1 hm2).mono ?_
  rintro e w' ⟨b, s', rfl, hs, ho⟩
  exact ⟨b, rfl, ⟨⟨n + 1, s', hs, by omega⟩, row_only h.row ho h.apart, h.apart, h.few⟩, .of_only ho⟩
def strAt (cs : Array Value) (j : Nat) : ByteArray := match cs[j]? with
  | some (.string s) => s
  | _ => ⟨#[]⟩
theorem pick_st (N : Int) (L M : Nat) (cs : Array Value) (w : World) (h : St g a len cap N w) (hN : N ≤ 900000000) (hL1 : 1 < L) (hL2 : L ≤ 256) (hc : cs.size = L) (hcs : ∀ j, j < L → ∃ s, cs[j]? = some (.string s) ∧ s.size ≤ M) :
    Calls Tryd.prog 67 #[.pointer (some ⟨g, 0, none⟩), .slice (some ⟨w.heap.size, 0, none⟩) L L] (w.alloc (.cells cs 9)) fun e w' => ∃ s : ByteArray, e = .returned (.string s) ∧ s.size ≤ M ∧ St g a len cap (N + 1) w' ∧ Keeps g w w' := by
  have h' := h.alloc (.cells cs 9)
  have hlt := h.lt
  obtain ⟨n, seed, h1, h2⟩ := h'.src
  refine (pick_any g a len cap n seed w.heap.size L L (strAt cs) _ h1 (by omega) h'.few h'.row h'.apart (by omega) hL1 hL2 (fun j hj => by
    obtain ⟨s, hs, _⟩ := hcs j hj
    have : (w.alloc (.cells cs 9)).cell? ⟨w.heap.size, j, none⟩ = cs[j]? := by simp
    rw [this, hs]
    unfold strAt
    rw [hs])).mono ?_
  rintro e w' ⟨j, s', hj, rfl, hs, ho⟩
  refine ⟨_, rfl, ?_, ⟨⟨n + 1, s', hs, by omega⟩, row_only h'.row ho h'.apart, h.apart, h.few⟩, (Keeps.of_below (nx_alloc w _)).trans (.of_only ho)⟩
  obtain ⟨s, hs, hm⟩ := hcs j hj
  unfold strAt
  rw [hs]
  exact hm
/-- a list of texts written out -/
def okStrs (M : Nat) : List Value → Bool
  | [] => true
  | .string s :: r => decide (s.size ≤ M) && okStrs M r
  | _ :: _ => false
theorem okStrs_get {M : Nat} : ∀ {l : List Value}, okStrs M l = true → ∀ j, j < l.length → ∃ s, l[j]? = some (.string s) ∧ s.size ≤ M
  | [], _, j, hj => by simp at hj
  | v :: r, h, j, hj => by
    match v, h with
    | .string s, h =>
      simp only [okStrs, Bool.and_eq_true, decide_eq_true_iff] at h
      cases j with
      | zero => exact ⟨s, rfl, h.1⟩
      | succ j =>
        obtain ⟨s', h1, h2⟩ := okStrs_get h.2 j (by simpa using hj)
        exact ⟨s', by simpa using h1, h2⟩
theorem pick_lit (N : Int) (L M : Nat) (cs : Array Value) (w : World) (h : St g a len cap N w) (hN : N ≤ 900000000) (hL1 : 1 < L) (hL2 : L ≤ 256) (hc : cs.size = L) (hok : okStrs M cs.toList = true) :
    Calls Tryd.prog 67 #[.pointer (some ⟨g, 0, none⟩), .slice (some ⟨w.heap.size, 0, none⟩) L L] (w.alloc (.cells cs 9)) fun e w' => ∃ s : ByteArray, e = .returned (.string s) ∧ s.size ≤ M ∧ St g a len cap (N + 1) w' ∧ Keeps g w w' :=
  pick_st N L M cs w h hN hL1 hL2 hc (fun j hj => by
    obtain ⟨s, h1, h2⟩ := okStrs_get hok j (by simpa [hc] using hj)
    exact ⟨s, by simpa using h1, h2⟩)
theorem pick_names (N : Int) (q : Nat) (w : World) (h : St g a len cap N w) (hN : N ≤ 900000000) (hq : Nm g w q) :
    Calls Tryd.prog 67 #[.pointer (some ⟨g, 0, none⟩), .slice (some ⟨q, 0, none⟩) 3 3] w fun e w' => ∃ s : ByteArray, e = .returned (.string s) ∧ s.size ≤ 4 ∧ St g a len cap (N + 1) w' ∧ Keeps g w w' := by
  obtain ⟨n, seed, h1, h2⟩ := h.src
  refine (pick_any g a len cap n seed q 3 3 nm3 w h1 (by omega) h.few h.row h.apart hq.1 (by omega) (by omega) hq.2).mono ?_
  rintro e w' ⟨j, s', hj, rfl, hs, ho⟩
  refine ⟨_, rfl, ?_, ⟨⟨n + 1, s', hs, by omega⟩, row_only h.row ho h.apart, h.apart, h.few⟩, .of_only ho⟩
  obtain rfl | rfl | rfl : j = 0 ∨ j = 1 ∨ j = 2 := by omega
  all_goals decide
theorem digits_st (N r : Int) (w : World) (h : St g a len cap N w) (h0 : 0 ≤ r) (h1 : r ≤ 9) :
    Calls Tryd.prog 73 #[.int .i64 r] w fun e w' => ∃ s : ByteArray, e = .returned (.string s) ∧ s.size ≤ 11 ∧ St g a len cap N w' ∧ Keeps g w w' := by
  refine (l00Digits_any r w (by omega) (by omega)).mono ?_
  rintro e w' ⟨rfl, hb⟩
  refine ⟨_, rfl, ?_, h.later hb, .of_below hb⟩
  show (Lib.itoa r).toArray.size ≤ 11
  unfold Lib.itoa
  rw [if_neg (by omega)]
  have : (Lib.decDigits r.toNat).length ≤ 10 := dec_len 9 _ (by omega)
  simp; omega

set_option maxHeartbeats 1000000 in
theorem op_st (N : Int) (w : World) (h : St g a len cap N w) (hN : N ≤ 900000000) :
    Calls Tryd.prog 106 #[.pointer (some ⟨g, 0, none⟩)] w fun e w' => ∃ s : ByteArray, e = .returned (.string s) ∧ s.size ≤ 2 ∧ St g a len cap (N + 1) w' ∧ Keeps g w w' := by
  have H := hide h
  clear h
  go_enter Tryd.func106, Tryd.ntmps106
  go_wp2_with fail
  refine (pick_lit N 7 2 _ _ (unhide H) hN (by omega) (by omega) rfl rfl).mono ?_
  rintro e w1 ⟨s, rfl, hs, hst, hk⟩
  have S := hide hst
  have K := hide hk
  clear hst hk
  go_wp2
  go_ret
  exact ⟨s, rfl, hs, unhide S, unhide K⟩

/-- what drawing an expression of a depth comes to -/
def ExprC (g : Nat) (a : Option Addr) (len cap : Nat) (d : Int) (B : Nat) (D : Int) : Prop := ∀ (N : Int) (q : Nat) (w : World), N + D ≤ 800000000 → St g a len cap N w → Nm g w q →
    Calls Tryd.prog 98 #[.pointer (some ⟨g, 0, none⟩), .slice (some ⟨q, 0, none⟩) 3 3, .int .i64 d] w fun e w' => ∃ s : ByteArray, e = .returned (.string s) ∧ s.size ≤ B ∧ St g a len cap (N + D) w' ∧ Keeps g w w'
theorem sz (l : Array UInt8) : (⟨l⟩ : ByteArray).size = l.size := rfl

set_option maxHeartbeats 4000000 in
theorem expr_zero : ExprC g a len cap 0 11 2 := by
  intro N q w hN hst0 hnm
  have S0 := hide hst0
  have M0 := hide hnm
  have K0 := hide (Keeps.refl g w)
  clear hst0 hnm
  go_enter Tryd.func98, Tryd.ntmps98
  go_wp2_with fail
  refine (next_st _ 6 _ (unhide S0) (by omega) (by omega) (by omega)).mono ?_
  rintro e w1 ⟨r, rfl, r0, r1, hst, hk⟩
  have S1 := hide hst
  have K1 := hide ((unhide K0).trans hk)
  have M1 := hide ((unhide M0).keep hk)
  clear hst hk
  obtain rfl | rfl | rfl | hr : r = 0 ∨ r = 1 ∨ r = 2 ∨ 3 ≤ r := by omega
  · go_wp2_with fail
    refine (pick_lit _ 6 6 _ _ (unhide S1) (by omega) (by omega) (by omega) rfl rfl).mono ?_
    rintro e w2 ⟨s, rfl, hs, hst, hk⟩
    have S2 := hide hst
    have K2 := hide ((unhide K1).trans hk)
    have M2 := hide ((unhide M1).keep hk)
    clear hst hk
    go_wp2
    go_ret
    exact ⟨_, rfl, (by first | omega | (simp only [ByteArray.size_append]; omega) | (simp only [ByteArray.size_append, sz]; simp; omega)), (unhide S2).mono (by omega), unhide K2⟩
  · go_wp2_with fail
    refine (next_st _ 9 _ (unhide S1) (by omega) (by omega) (by omega)).mono ?_
    rintro e w2 ⟨z, rfl, z0, z1, hst, hk⟩
    have S2 := hide hst
    have K2 := hide ((unhide K1).trans hk)
    have M2 := hide ((unhide M1).keep hk)
    clear hst hk
    go_wp2_with fail
    refine (digits_st _ _ _ (unhide S2) z0 (by omega)).mono ?_
    rintro e w3 ⟨s, rfl, hs, hst, hk⟩
    have S3 := hide hst
    have K3 := hide ((unhide K2).trans hk)
    have M3 := hide ((unhide M2).keep hk)
    clear hst hk
    go_wp2
    go_ret
    exact ⟨_, rfl, (by first | omega | (simp only [ByteArray.size_append]; omega) | (simp only [ByteArray.size_append, sz]; simp; omega)), (unhide S3).mono (by omega), unhide K3⟩
  · go_wp2_with fail
    refine (next_st _ 9 _ (unhide S1) (by omega) (by omega) (by omega)).mono ?_
    rintro e w2 ⟨z, rfl, z0, z1, hst, hk⟩
    have S2 := hide hst
    have K2 := hide ((unhide K1).trans hk)
    have M2 := hide ((unhide M1).keep hk)
    clear hst hk
    go_wp2_with fail
    refine (digits_st _ _ _ (unhide S2) z0 (by omega)).mono ?_
    rintro e w3 ⟨s, rfl, hs, hst, hk⟩
    have S3 := hide hst
    have K3 := hide ((unhide K2).trans hk)
    have M3 := hide ((unhide M2).keep hk)
    clear hst hk
    go_wp2
    go_ret
    exact ⟨_, rfl, (by first | omega | (simp only [ByteArray.size_append]; omega) | (simp only [ByteArray.size_append, sz]; simp; omega)), (unhide S3).mono (by omega), unhide K3⟩
  · have q0 : (r == 0) = false := beq_eq_false_iff_ne.2 (by omega)
    have q1 : (r == 1) = false := beq_eq_false_iff_ne.2 (by omega)
    have q2 : (r == 2) = false := beq_eq_false_iff_ne.2 (by omega)
    go_wp2_with fail
    refine (pick_names _ q _ (unhide S1) (by omega) (unhide M1)).mono ?_
    rintro e w2 ⟨s, rfl, hs, hst, hk⟩
    have S2 := hide hst
    have K2 := hide ((unhide K1).trans hk)
    have M2 := hide ((unhide M1).keep hk)
    clear hst hk
    go_wp2
    go_ret
    exact ⟨_, rfl, (by first | omega | (simp only [ByteArray.size_append]; omega) | (simp only [ByteArray.size_append, sz]; simp; omega)), (unhide S2).mono (by omega), unhide K2⟩

set_option maxHeartbeats 8000000 in
theorem expr_succ (d : Int) (B : Nat) (D : Int) (hd0 : 1 ≤ d) (hd1 : d ≤ 100) (hB : 11 ≤ B) (hB1 : B ≤ 1000) (hD : 2 ≤ D) (hD1 : D ≤ 1000) (HE : ExprC g a len cap (d - 1) B D) : ExprC g a len cap d (2 * B + 7) (2 * D + 3) := by
  intro N q w hN hst0 hnm
  have S0 := hide hst0
  have M0 := hide hnm
  have K0 := hide (Keeps.refl g w)
  have HX := hide HE
  have hz : (d == 0) = false := beq_eq_false_iff_ne.2 (by omega)
  clear hst0 hnm HE
  go_enter Tryd.func98, Tryd.ntmps98
  go_wp2_with fail
  refine (chance_st _ 3 _ (unhide S0) (by omega) (by omega) (by omega)).mono ?_
  rintro e w1 ⟨b, rfl, hst, hk⟩
  have S1 := hide hst
  have K1 := hide ((unhide K0).trans hk)
  have M1 := hide ((unhide M0).keep hk)
  clear hst hk
  cases b
  · go_wp2_with fail
    refine (unhide HX _ q _ (by omega) (unhide S1) (unhide M1)).mono ?_
    rintro e w2 ⟨ea, rfl, hea, hst, hk⟩
    have S2 := hide hst
    have K2 := hide ((unhide K1).trans hk)
    have M2 := hide ((unhide M1).keep hk)
    clear hst hk
    go_wp2_with fail
    refine (unhide HX _ q _ (by omega) (unhide S2) (unhide M2)).mono ?_
    rintro e w3 ⟨eb, rfl, heb, hst, hk⟩
    have S3 := hide hst
    have K3 := hide ((unhide K2).trans hk)
    have M3 := hide ((unhide M2).keep hk)
    clear hst hk
    go_wp2_with fail
    refine (next_st _ 9 _ (unhide S3) (by omega) (by omega) (by omega)).mono ?_
    rintro e w4 ⟨r, rfl, r0, r1, hst, hk⟩
    have S4 := hide hst
    have K4 := hide ((unhide K3).trans hk)
    have M4 := hide ((unhide M3).keep hk)
    clear hst hk
    obtain rfl | rfl | rfl | rfl | rfl | rfl | hr : r = 0 ∨ r = 1 ∨ r = 2 ∨ r = 3 ∨ r = 4 ∨ r = 5 ∨ 6 ≤ r := by omega
    · go_wp2
      go_ret
      exact ⟨_, rfl, (by first | omega | (simp only [ByteArray.size_append]; omega) | (simp only [ByteArray.size_append, sz]; simp; omega)), (unhide S4).mono (by omega), unhide K4⟩
    · go_wp2_with fail
      refine (pick_lit _ 2 1 _ _ (unhide S4) (by omega) (by omega) (by omega) rfl rfl).mono ?_
      rintro e w5 ⟨s, rfl, hs, hst, hk⟩
      have S5 := hide hst
      have K5 := hide ((unhide K4).trans hk)
      have M5 := hide ((unhide M4).keep hk)
      clear hst hk
      go_wp2
      go_ret
      exact ⟨_, rfl, (by first | omega | (simp only [ByteArray.size_append]; omega) | (simp only [ByteArray.size_append, sz]; simp; omega)), (unhide S5).mono (by omega), unhide K5⟩
    · go_wp2_with fail
      refine (pick_lit _ 2 4 _ _ (unhide S4) (by omega) (by omega) (by omega) rfl rfl).mono ?_
      rintro e w5 ⟨s, rfl, hs, hst, hk⟩
      have S5 := hide hst
      have K5 := hide ((unhide K4).trans hk)
      have M5 := hide ((unhide M4).keep hk)
      clear hst hk
      go_wp2
      go_ret
      exact ⟨_, rfl, (by first | omega | (simp only [ByteArray.size_append]; omega) | (simp only [ByteArray.size_append, sz]; simp; omega)), (unhide S5).mono (by omega), unhide K5⟩
    · go_wp2_with fail
      refine (pick_lit _ 3 3 _ _ (unhide S4) (by omega) (by omega) (by omega) rfl rfl).mono ?_
      rintro e w5 ⟨s, rfl, hs, hst, hk⟩
      have S5 := hide hst
      have K5 := hide ((unhide K4).trans hk)
      have M5 := hide ((unhide M4).keep hk)
      clear hst hk
      go_wp2
      go_ret
      exact ⟨_, rfl, (by first | omega | (simp only [ByteArray.size_append]; omega) | (simp only [ByteArray.size_append, sz]; simp; omega)), (unhide S5).mono (by omega), unhide K5⟩
    · go_wp2_with fail
      refine (pick_lit _ 3 3 _ _ (unhide S4) (by omega) (by omega) (by omega) rfl rfl).mono ?_
      rintro e w5 ⟨s, rfl, hs, hst, hk⟩
      have S5 := hide hst
      have K5 := hide ((unhide K4).trans hk)
      have M5 := hide ((unhide M4).keep hk)
      clear hst hk
      go_wp2
      go_ret
      exact ⟨_, rfl, (by first | omega | (simp only [ByteArray.size_append]; omega) | (simp only [ByteArray.size_append, sz]; simp; omega)), (unhide S5).mono (by omega), unhide K5⟩
    · go_wp2
      go_ret
      exact ⟨_, rfl, (by first | omega | (simp only [ByteArray.size_append]; omega) | (simp only [ByteArray.size_append, sz]; simp; omega)), (unhide S4).mono (by omega), unhide K4⟩
    · have q0 : (r == 0) = false := beq_eq_false_iff_ne.2 (by omega)
      have q1 : (r == 1) = false := beq_eq_false_iff_ne.2 (by omega)
      have q2 : (r == 2) = false := beq_eq_false_iff_ne.2 (by omega)
      have q3 : (r == 3) = false := beq_eq_false_iff_ne.2 (by omega)
      have q4 : (r == 4) = false := beq_eq_false_iff_ne.2 (by omega)
      have q5 : (r == 5) = false := beq_eq_false_iff_ne.2 (by omega)
      go_wp2_with fail
      refine (op_st _ _ (unhide S4) (by omega)).mono ?_
      rintro e w5 ⟨s, rfl, hs, hst, hk⟩
      have S5 := hide hst
      have K5 := hide ((unhide K4).trans hk)
      have M5 := hide ((unhide M4).keep hk)
      clear hst hk
      go_wp2
      go_ret
      exact ⟨_, rfl, (by first | omega | (simp only [ByteArray.size_append]; omega) | (simp only [ByteArray.size_append, sz]; simp; omega)), (unhide S5).mono (by omega), unhide K5⟩
  · go_wp2_with fail
    refine (next_st _ 6 _ (unhide S1) (by omega) (by omega) (by omega)).mono ?_
    rintro e w2 ⟨r, rfl, r0, r1, hst, hk⟩
    have S2 := hide hst
    have K2 := hide ((unhide K1).trans hk)
    have M2 := hide ((unhide M1).keep hk)
    clear hst hk
    obtain rfl | rfl | rfl | hr : r = 0 ∨ r = 1 ∨ r = 2 ∨ 3 ≤ r := by omega
    · go_wp2_with fail
      refine (pick_lit _ 6 6 _ _ (unhide S2) (by omega) (by omega) (by omega) rfl rfl).mono ?_
      rintro e w3 ⟨s, rfl, hs, hst, hk⟩
      have S3 := hide hst
      have K3 := hide ((unhide K2).trans hk)
      have M3 := hide ((unhide M2).keep hk)
      clear hst hk
      go_wp2
      go_ret
      exact ⟨_, rfl, (by first | omega | (simp only [ByteArray.size_append]; omega) | (simp only [ByteArray.size_append, sz]; simp; omega)), (unhide S3).mono (by omega), unhide K3⟩
    · go_wp2_with fail
      refine (next_st _ 9 _ (unhide S2) (by omega) (by omega) (by omega)).mono ?_
      rintro e w3 ⟨z, rfl, z0, z1, hst, hk⟩
      have S3 := hide hst
      have K3 := hide ((unhide K2).trans hk)
      have M3 := hide ((unhide M2).keep hk)
      clear hst hk
      go_wp2_with fail
      refine (digits_st _ _ _ (unhide S3) z0 (by omega)).mono ?_
      rintro e w4 ⟨s, rfl, hs, hst, hk⟩
      have S4 := hide hst
      have K4 := hide ((unhide K3).trans hk)
      have M4 := hide ((unhide M3).keep hk)
      clear hst hk
      go_wp2
      go_ret
      exact ⟨_, rfl, (by first | omega | (simp only [ByteArray.size_append]; omega) | (simp only [ByteArray.size_append, sz]; simp; omega)), (unhide S4).mono (by omega), unhide K4⟩
    · go_wp2_with fail
      refine (next_st _ 9 _ (unhide S2) (by omega) (by omega) (by omega)).mono ?_
      rintro e w3 ⟨z, rfl, z0, z1, hst, hk⟩
      have S3 := hide hst
      have K3 := hide ((unhide K2).trans hk)
      have M3 := hide ((unhide M2).keep hk)
      clear hst hk
      go_wp2_with fail
      refine (digits_st _ _ _ (unhide S3) z0 (by omega)).mono ?_
      rintro e w4 ⟨s, rfl, hs, hst, hk⟩
      have S4 := hide hst
      have K4 := hide ((unhide K3).trans hk)
      have M4 := hide ((unhide M3).keep hk)
      clear hst hk
      go_wp2
      go_ret
      exact ⟨_, rfl, (by first | omega | (simp only [ByteArray.size_append]; omega) | (simp only [ByteArray.size_append, sz]; simp; omega)), (unhide S4).mono (by omega), unhide K4⟩
    · have q0 : (r == 0) = false := beq_eq_false_iff_ne.2 (by omega)
      have q1 : (r == 1) = false := beq_eq_false_iff_ne.2 (by omega)
      have q2 : (r == 2) = false := beq_eq_false_iff_ne.2 (by omega)
      go_wp2_with fail
      refine (pick_names _ q _ (unhide S2) (by omega) (unhide M2)).mono ?_
      rintro e w3 ⟨s, rfl, hs, hst, hk⟩
      have S3 := hide hst
      have K3 := hide ((unhide K2).trans hk)
      have M3 := hide ((unhide M2).keep hk)
      clear hst hk
      go_wp2
      go_ret
      exact ⟨_, rfl, (by first | omega | (simp only [ByteArray.size_append]; omega) | (simp only [ByteArray.size_append, sz]; simp; omega)), (unhide S3).mono (by omega), unhide K3⟩

theorem expr_two : ExprC g a len cap 2 65 17 := expr_succ 2 29 7 (by omega) (by omega) (by omega) (by omega) (by omega) (by omega) (expr_succ 1 11 2 (by omega) (by omega) (by omega) (by omega) (by omega) (by omega) expr_zero)

end Go.Proofs.YtckdacbopejdmaaDoor
