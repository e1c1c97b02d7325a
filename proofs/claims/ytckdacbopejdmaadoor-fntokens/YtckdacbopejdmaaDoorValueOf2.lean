/- 'spec.ValueOf' as a whole: some right value. -/
import Derived.Test.YtckdacbopejdmaaDoorValueOfWalk
namespace Go.Proofs.YtckdacbopejdmaaDoor
open Go.RowKit
set_option linter.unusedVariables false

def Zv : Obj := .cells #[.int .i64 0, .int .i64 0, .string ⟨#[]⟩] 24
theorem zv_cells {w wx : World} (h : Below (w.heap.size + 1) (w.alloc Zv) wx) : (∀ b o, b < w.heap.size + 1 → wx.cell? ⟨b, o, none⟩ = (w.alloc (.cells #[.int .i64 0, .int .i64 0, .string ⟨#[]⟩] 24)).cell? ⟨b, o, none⟩) ∧ (∀ b o, b < w.heap.size + 1 → wx.frozen? ⟨b, o, none⟩ = (w.alloc (.cells #[.int .i64 0, .int .i64 0, .string ⟨#[]⟩] 24)).frozen? ⟨b, o, none⟩) ∧ w.heap.size < wx.heap.size := by
  obtain ⟨h1, h2⟩ := bcell (W := w.alloc Zv) (by simpa using h)
  refine ⟨fun b o hb => h1 b o (by simpa using hb), fun b o hb => h2 b o (by simpa using hb), ?_⟩
  have := h.size
  simp at this
  omega
theorem zv_out {w a : World} (h : Below (w.heap.size + 1) (w.alloc Zv) a) : Below w.heap.size w a := nx_trans (nx_alloc w Zv) (by simpa using h)

set_option maxHeartbeats 1000000 in
theorem source_any (a : Option Addr) (len cap : Nat) (w : World) (hlen : len ≤ 1048577) :
    Calls Tryd.prog 35 #[.slice a len cap] w fun e w' => e = .returned (.pointer (some ⟨w.heap.size, 0, none⟩)) ∧ Below w.heap.size w w' ∧ w.heap.size < w'.heap.size ∧ SrcAt w' w.heap.size a len cap 0 ((len : Int) % 1000) := by
  go_enter Tryd.func35, Tryd.ntmps35
  go_wp2
  go_ret
  exact ⟨rfl, nx_alloc _ _, by simp, by simp, by simp, by simp, by simp, by simp, by omega, by omega, by omega, by omega⟩

theorem row_block {w : World} {a : Option Addr} {len : Nat} (h : ByteRow w a len) (h0 : 0 < len) : ∀ x, a = some x → ¬ x.block = w.heap.size := fun x hx => by
  obtain ⟨b, off, c, h1, h2, _⟩ := h 0 h0
  rw [h1] at hx
  cases hx
  have := World.block_lt_of_cell? _ _ h2
  exact Nat.ne_of_lt this

set_option maxHeartbeats 1000000 in
theorem ValueOf_any (a : Option Addr) (len cap : Nat) (w : World) (hlen : len ≤ 1048577) (hrow : ByteRow w a len) :
    Calls Tryd.prog 9 #[.slice a len cap] w fun e w' => ∃ (k n : Int) (t : ByteArray), e = .returned (.agg #[.int .i64 k, .int .i64 n, .string t]) ∧ vokB k n t = true ∧ t.size ≤ 60 ∧ Below w.heap.size w w' := by
  have HR := hide hrow
  clear hrow
  go_enter Tryd.func9, Tryd.ntmps9
  go_wp2_with fail
  refine (source_any a len cap _ (by omega)).mono ?_
  rintro e w1 ⟨rfl, hb1, hz1, hs1⟩
  have hsz : (w.alloc (.cells #[.int .i64 0, .int .i64 0, .string ⟨#[]⟩] 24)).heap.size = w.heap.size + 1 := by simp
  have hg : 0 < len → ∀ x, a = some x → ¬ x.block = w.heap.size + 1 := fun hc => by
    have := row_block ((unhide HR).later (nx_alloc w (.cells #[.int .i64 0, .int .i64 0, .string ⟨#[]⟩] 24))) hc
    rwa [hsz] at this
  rw [hsz] at hb1 hs1 hz1
  have HV := hide (value_any (w.heap.size + 1) a len cap 0 _ w1 hs1 (by omega) hlen ((unhide HR).later (zv_out hb1)) hg)
  have H1 := hide hb1
  clear hs1 HR hg hsz hb1
  go_wp2_with fail
  refine (unhide HV).mono ?_
  rintro e w2 ⟨k, n, t, rfl, hv, ht, hb2⟩
  have h12 := (unhide H1).trans hb2
  obtain ⟨hc, hf, hz⟩ := zv_cells h12
  have HB := hide (zv_out h12)
  clear hb2 hz1 HV h12
  go_wp2
  exact bodyPost_ret (v := .agg #[.int .i64 k, .int .i64 n, .string t]) (by simp [results, Tryd.results9, go_sem, hc]) rfl ⟨k, n, t, rfl, hv, ht, set3 (unhide HB) (Nat.le_refl _)⟩

end Go.Proofs.YtckdacbopejdmaaDoor
