/- What SentTo answers, as a function; the specification's SentTo. -/
import Derived.Test.YtcihmcgiokcibaaSentMem
namespace Go.Proofs.Ytcihmcgiokcibaa
open Go.RowKit Go.Joins
set_option linter.unusedVariables false

def catS (c : Int) (vs : List SV) : ByteArray := vs.foldl (fun o v => if v.c = c then o ++ v.t else o) ⟨#[]⟩
def bigS (v : SV) : Bool := decide (4000 < v.t.size)
theorem catS_snoc (c : Int) (l : List SV) (v : SV) : catS c (l ++ [v]) = if v.c = c then catS c l ++ v.t else catS c l := by simp [catS]
theorem catS_yes {c : Int} {vs : List SV} {k : Nat} (h : k < vs.length) (e : vs[k].c = c) : catS c (vs.take (k + 1)) = catS c (vs.take k) ++ vs[k].t := by
  rw [List.take_succ_eq_append_getElem h, catS_snoc, if_pos e]
theorem catS_no {c : Int} {vs : List SV} {k : Nat} (h : k < vs.length) (e : ¬ vs[k].c = c) : catS c (vs.take (k + 1)) = catS c (vs.take k) := by
  rw [List.take_succ_eq_append_getElem h, catS_snoc, if_neg e]
theorem size_appS (a b : ByteArray) : (a ++ b).size = a.size + b.size := by simp [ByteArray.size_append]
theorem any_takeS {vs : List SV} {k : Nat} (h : k < vs.length) (h0 : (vs.take k).any bigS = false) (h1 : ¬ 4000 < vs[k].t.size) : (vs.take (k + 1)).any bigS = false := by
  rw [List.take_succ_eq_append_getElem h, List.any_append, h0]
  simp [bigS]
  omega
theorem catS_size {c : Int} {vs : List SV} (k : Nat) (hb : (vs.take k).any bigS = false) (hk : k ≤ vs.length) : (catS c (vs.take k)).size ≤ 4000 * k := by
  induction k with
  | zero => simp [catS, ByteArray.size]
  | succ k ih =>
    have hlt : k < vs.length := by omega
    have h0 := hb
    rw [List.take_succ_eq_append_getElem hlt, List.any_append] at h0
    simp [bigS] at h0
    obtain ⟨h1, h2⟩ := h0
    have ih' := ih (by
      rw [List.any_eq_false]
      intro x hx
      have := h1 x hx
      simp [bigS]; omega) (by omega)
    by_cases e : vs[k].c = c
    · rw [catS_yes hlt e, size_appS]; omega
    · rw [catS_no hlt e]; omega
/-- what SentTo answers -/
def sentR (vs : List SV) (c : Int) : ByteArray × Int := if 4096 < vs.length then (⟨#[]⟩, 2) else if 500 < vs.length ∨ vs.any bigS = true then (⟨#[]⟩, 1) else (catS c vs, 0)
theorem sentR_long {vs : List SV} {c : Int} (h : 4096 < vs.length) : sentR vs c = (⟨#[]⟩, 2) := if_pos h
theorem sentR_many {vs : List SV} {c : Int} (h : ¬ 4096 < vs.length) (h1 : 500 < vs.length) : sentR vs c = (⟨#[]⟩, 1) := by unfold sentR; rw [if_neg h, if_pos (.inl h1)]
theorem sentR_any {vs : List SV} {c : Int} (h : ¬ 4096 < vs.length) (h1 : vs.any bigS = true) : sentR vs c = (⟨#[]⟩, 1) := by unfold sentR; rw [if_neg h, if_pos (.inr h1)]
theorem sentR_big {vs : List SV} {c : Int} {k : Nat} (h : ¬ 4096 < vs.length) (hk : k < vs.length) (h1 : 4000 < vs[k].t.size) : sentR vs c = (⟨#[]⟩, 1) :=
  sentR_any h (List.any_eq_true.2 ⟨vs[k], List.getElem_mem hk, by simp [bigS]; exact h1⟩)
theorem sentR_ok {vs : List SV} {c : Int} {k : Nat} (h : ¬ 500 < vs.length) (hk : vs.length ≤ k) (h1 : (vs.take k).any bigS = false) : sentR vs c = (catS c (vs.take k), 0) := by
  rw [List.take_of_length_le hk] at h1 ⊢
  unfold sentR
  rw [if_neg (by omega), if_neg]
  rintro (h2 | h2)
  · exact h h2
  · rw [h1] at h2; cases h2
theorem ret_sent {t : ByteArray} {n : Int} {r : ByteArray × Int} (h : r = (t, n)) : Ending.returned (.tuple #[.string t, .int .i64 n]) = .returned (.tuple #[.string r.1, .int .i64 r.2]) := by rw [h]

theorem specSentTo_long (p : Option Addr) (vs : List SV) (cap : Nat) (c : Int) (w : World) (h : 4096 < vs.length) (hm : vs.length ≤ 1048576) :
    Calls Try.prog 5 #[.slice p vs.length cap, .int .i64 c] w fun e w' => e = .returned (.tuple #[.string ⟨#[]⟩, .int .i64 2]) ∧ w' = w := by
  go_enter Try.func5, Try.ntmps5
  go_wp2
  go_ret2
  exact ⟨rfl, rfl⟩
set_option maxHeartbeats 2000000 in
theorem specSentTo_any (p : Option Addr) (vs : List SV) (cap : Nat) (c : Int) (w : World) (hrow : SentsAt w p vs) (hm : vs.length ≤ 1048576) :
    Calls Try.prog 5 #[.slice p vs.length cap, .int .i64 c] w fun e w' => e = .returned (.tuple #[.string (sentR vs c).1, .int .i64 (sentR vs c).2]) ∧ Below w.heap.size w w' := by
  by_cases hl : 4096 < vs.length
  · refine (specSentTo_long p vs cap c w hl hm).mono ?_
    rintro e w' ⟨rfl, rfl⟩
    exact ⟨ret_sent (sentR_long hl), Below.refl _ _⟩
  have HR := hide hrow
  clear hrow
  obtain ⟨r, hr⟩ : ∃ r, r = sentR vs c := ⟨_, rfl⟩
  rw [← hr]
  have HH := hide hr
  clear hr
  go_enter Try.func5, Try.ntmps5
  go_wp2
  go_loopw [6, 7] (fun o i wx => ∃ k : Nat, k ≤ vs.length ∧ i = .int .i64 k ∧ o = .string (catS c (vs.take k)) ∧ Hid ((vs.take k).any bigS = false) ∧ (0 < k → ¬ 500 < vs.length) ∧ wx = w) (fun _ i _ => vs.length - (intOf i).toNat)
  case atStart => exact ⟨0, by omega, rfl, rfl, hide rfl, fun h => absurd h (by omega), rfl⟩
  case round =>
    obtain ⟨k, hk, rfl, rfl, HB, h500, rfl⟩ := hrel
    by_cases hlt : k < vs.length
    · obtain ⟨b, off, rfl, _, q0, q1, q2⟩ := unhide HR k hlt
      have HY := hide (fun e => catS_yes (c := c) hlt e)
      have HN := hide (fun e => catS_no (c := c) hlt e)
      have HT := hide (fun h => any_takeS hlt (unhide HB) h)
      have HG := hide (fun h => sentR_big (c := c) hl hlt h)
      have hsz := catS_size (c := c) k (unhide HB) hk
      generalize vs[k].c = vc at q0 HY HN
      generalize vs[k].t = vt at q1 HY HT HG
      generalize vs[k].s = vb at q2
      generalize catS c (vs.take k) = o at HY HN hsz
      by_cases h4 : 4000 < vt.size
      · go_wp2
        go_ret2
        exact ⟨ret_sent ((unhide HH).trans (unhide HG h4)), Below.refl _ _⟩
      by_cases h5 : 500 < vs.length
      · go_wp2
        go_ret2
        exact ⟨ret_sent ((unhide HH).trans (sentR_many hl h5)), Below.refl _ _⟩
      by_cases hc : vc = c
      · go_wp2
        go_roundw
        case rel => exact ⟨k + 1, by omega, by go_num, by rw [unhide HY hc], hide (unhide HT h4), fun _ => h5, trivial⟩
        case measure => simp [intOf]; omega
      · go_wp2
        go_roundw
        case rel => exact ⟨k + 1, by omega, by go_num, by rw [unhide HN hc], hide (unhide HT h4), fun _ => h5, trivial⟩
        case measure => simp [intOf]; omega
    · have h5 : ¬ 500 < vs.length := by
        intro h5
        exact h500 (by omega) h5
      have hz := sentR_ok (c := c) (vs := vs) (k := k) h5 (by omega) (unhide HB)
      generalize catS c (vs.take k) = o at hz
      go_wp2
      go_ret2
      exact ⟨ret_sent ((unhide HH).trans hz), Below.refl _ _⟩

end Go.Proofs.Ytcihmcgiokcibaa
