/- The law on outcomes that are alike, call by call. -/
import Derived.Test.YtdnjplfkdconaaaSameW
import Derived.Deep.CutRange
namespace Go.Proofs.Ytdnjplfkdconaaa
open Go.RowKit
set_option linter.unusedVariables false

set_option maxHeartbeats 2000000 in
theorem lawSameOutcome_any (st k n : Int) (t : ByteArray) (sp : Int) (L : FLay) (fs : List MF) (cap : Nat) (ms mk mn mu : Int) (mt : ByteArray) (w : World) (ht : t.size ≤ maxLen) (hrow : FramesAt w L fs) (hw : WideFs fs) (hmt : mt.size ≤ maxLen) :
    Calls Try.prog 3 #[.agg #[.int .i64 st, .int .i64 k, .int .i64 n, .string t, .int .i64 sp], .agg #[.slice L.p fs.length cap, .int .i64 ms, .int .i64 mk, .int .i64 mn, .string mt, .int .i64 mu]] w fun e w' => e = .returned (.bool true) ∧ Below w.heap.size w w' := by
  have HR := hide hrow
  have HW := hide hw
  clear hrow hw
  have hS := fun p l c w => specSame_any st k n t sp p l c ms mk mn mt mu w
  have hI := fun p l c w => implSame_any st k n t sp p l c ms mk mn mt mu w
  generalize sameP st k n t ms mk mn mt = g at hS hI
  have HS := hide hS
  have HI := hide hI
  clear hS hI
  go_enter Try.func3, Try.ntmps3
  go_wp2_with fail
  refine (szOutcome_any st k n t sp _ ht).mono ?_
  rintro e w1 ⟨r, rfl, hr, hb1⟩
  obtain ⟨hc1, hf1⟩ := bcell hb1
  have hz1 : w.heap.size + 1 < w1.heap.size := by have := hb1.size; simp at this; omega
  have hC1 : w1.cell? ⟨w.heap.size, 0, none⟩ = some (.int .i64 st) ∧ w1.cell? ⟨w.heap.size, 1, none⟩ = some (.int .i64 k) ∧ w1.cell? ⟨w.heap.size, 2, none⟩ = some (.int .i64 n) ∧ w1.cell? ⟨w.heap.size, 3, none⟩ = some (.string t) ∧ w1.cell? ⟨w.heap.size, 4, none⟩ = some (.int .i64 sp) ∧ w1.cell? ⟨w.heap.size + 1, 0, none⟩ = some (.slice L.p fs.length cap) ∧ w1.cell? ⟨w.heap.size + 1, 1, none⟩ = some (.int .i64 ms) ∧ w1.cell? ⟨w.heap.size + 1, 2, none⟩ = some (.int .i64 mk) ∧ w1.cell? ⟨w.heap.size + 1, 3, none⟩ = some (.int .i64 mn) ∧ w1.cell? ⟨w.heap.size + 1, 4, none⟩ = some (.string mt) ∧ w1.cell? ⟨w.heap.size + 1, 5, none⟩ = some (.int .i64 mu) := by refine ⟨?_, ?_, ?_, ?_, ?_, ?_, ?_, ?_, ?_, ?_, ?_⟩ <;> (rw [hc1 _ _ (by simp <;> omega)]; simp)
  have HC : Hid (∀ x : World, Below w1.heap.size w1 x → x.cell? ⟨w.heap.size, 0, none⟩ = some (.int .i64 st) ∧ x.cell? ⟨w.heap.size, 1, none⟩ = some (.int .i64 k) ∧ x.cell? ⟨w.heap.size, 2, none⟩ = some (.int .i64 n) ∧ x.cell? ⟨w.heap.size, 3, none⟩ = some (.string t) ∧ x.cell? ⟨w.heap.size, 4, none⟩ = some (.int .i64 sp) ∧ x.cell? ⟨w.heap.size + 1, 0, none⟩ = some (.slice L.p fs.length cap) ∧ x.cell? ⟨w.heap.size + 1, 1, none⟩ = some (.int .i64 ms) ∧ x.cell? ⟨w.heap.size + 1, 2, none⟩ = some (.int .i64 mk) ∧ x.cell? ⟨w.heap.size + 1, 3, none⟩ = some (.int .i64 mn) ∧ x.cell? ⟨w.heap.size + 1, 4, none⟩ = some (.string mt) ∧ x.cell? ⟨w.heap.size + 1, 5, none⟩ = some (.int .i64 mu)) := hide (fun x hx => ⟨cell_later hx hC1.1, cell_later hx hC1.2.1, cell_later hx hC1.2.2.1, cell_later hx hC1.2.2.2.1, cell_later hx hC1.2.2.2.2.1, cell_later hx hC1.2.2.2.2.2.1, cell_later hx hC1.2.2.2.2.2.2.1, cell_later hx hC1.2.2.2.2.2.2.2.1, cell_later hx hC1.2.2.2.2.2.2.2.2.1, cell_later hx hC1.2.2.2.2.2.2.2.2.2.1, cell_later hx hC1.2.2.2.2.2.2.2.2.2.2⟩)
  have hB1 := hide (nx_trans (nx_al (nx_alloc _ _)) hb1)
  clear hb1 hc1 hf1
  rcases hr with hr | ⟨hr0, hr1⟩
  · go_wp2
    go_ret
    exact ⟨rfl, unhide hB1⟩
  obtain ⟨c0, c1, c2, c3, c4, c5, c6, c7, c8, c9, c10⟩ := hC1
  go_wp2_with fail
  refine (szMachineL_any L fs cap ms ⟨mk, mn, mt⟩ mu r w1 ((unhide HR).later (unhide hB1)) (unhide HW) hmt hr0 hr1).mono ?_
  rintro e w2 ⟨q, rfl, hq, hb2⟩
  have hB2 := hide (nx_trans (unhide hB1) hb2)
  have hA2 := hide hb2
  have hz2 : w.heap.size + 1 < w2.heap.size := by have := hb2.size; omega
  clear hb2 c0 c1 c2 c3 c4 c5 c6 c7 c8 c9 c10
  rcases hq with hq | ⟨hq0, hs, hts⟩
  · go_wp2
    go_ret
    exact ⟨rfl, unhide hB2⟩
  have HSm := hide hs
  clear hs
  obtain ⟨c0, c1, c2, c3, c4, c5, c6, c7, c8, c9, c10⟩ := unhide HC _ (unhide hA2)
  go_wp2
  have HN2 := hide ((unhide HR).later (unhide hB2).drew)
  have HD2 := hide (nx_drew (unhide hA2))
  go_cut [6] from 19 to 23 (fun s6 wx => s6 = .bool g ∧ Hid (Below w1.heap.size w1 wx))
  case first =>
    go_region_with (first | (go_at_call 7; refine (toOutcome_any st k n t sp _).mono ?_; rintro e u ⟨rfl, hbu⟩; first | (have hbu := nx_trans (unhide HD2) hbu; have HU := hide hbu; obtain ⟨u0, u1, u2, u3, u4, u5, u6, u7, u8, u9, u10⟩ := unhide HC _ hbu) | (have hbu := nx_trans (unhide HY) hbu; have HV := hide hbu)) | (go_at_call 8; first | (refine (toMachine_any L fs cap ms mk mn mt mu w2.drew (unhide HN2) (unhide HSm)).mono ?_; rintro e y ⟨Ly, rfl, hM, hby⟩; have hby := nx_trans (unhide HD2) hby; have HY := hide hby; obtain ⟨y0, y1, y2, y3, y4, y5, y6, y7, y8, y9, y10⟩ := unhide HC _ hby) | (refine (toMachine_any L fs cap ms mk mn mt mu u ((unhide HR).later (nx_trans (unhide hB1) (unhide HU))) (unhide HSm)).mono ?_; rintro e y ⟨Ly, rfl, hM, hby⟩; have hby := nx_trans (unhide HU) hby; have HV := hide hby)) | (go_at_call 6; refine (unhide HS _ _ _ _).mono ?_; rintro e z ⟨rfl, hbz⟩; have hbz := nx_trans (unhide HV) hbz; have HZ := hide hbz))
    all_goals (go_wp2_with fail; go_meet)
    all_goals exact ⟨rfl, HZ⟩
  case rest =>
  obtain ⟨rfl, hA3⟩ := hcut
  clear c0 c1 c2 c3 c4 c5 c6 c7 c8 c9 c10 HN2 HD2
  obtain ⟨c0, c1, c2, c3, c4, c5, c6, c7, c8, c9, c10⟩ := unhide HC _ (unhide hA3)
  have hB3 := hide (nx_trans (unhide hB1) (unhide hA3))
  go_wp2_with fail
  refine (toMachine_any L fs cap ms mk mn mt mu wc ((unhide HR).later (unhide hB3)) (unhide HSm)).mono ?_
  rintro e w4 ⟨L4, rfl, hM4, hb4⟩
  have hA4 := hide (nx_al (o := (.cells #[.slice L4.p fs.length fs.length, .int .i64 ms, .int .i64 mk, .int .i64 mn, .string mt, .int .i64 mu] 38)) (nx_trans (unhide hA3) hb4))
  have hX4 : (w4.alloc (.cells #[.slice L4.p fs.length fs.length, .int .i64 ms, .int .i64 mk, .int .i64 mn, .string mt, .int .i64 mu] 38)).cell? ⟨w4.heap.size, 0, none⟩ = some (.slice L4.p fs.length fs.length) ∧ (w4.alloc (.cells #[.slice L4.p fs.length fs.length, .int .i64 ms, .int .i64 mk, .int .i64 mn, .string mt, .int .i64 mu] 38)).cell? ⟨w4.heap.size, 1, none⟩ = some (.int .i64 ms) ∧ (w4.alloc (.cells #[.slice L4.p fs.length fs.length, .int .i64 ms, .int .i64 mk, .int .i64 mn, .string mt, .int .i64 mu] 38)).cell? ⟨w4.heap.size, 2, none⟩ = some (.int .i64 mk) ∧ (w4.alloc (.cells #[.slice L4.p fs.length fs.length, .int .i64 ms, .int .i64 mk, .int .i64 mn, .string mt, .int .i64 mu] 38)).cell? ⟨w4.heap.size, 3, none⟩ = some (.int .i64 mn) ∧ (w4.alloc (.cells #[.slice L4.p fs.length fs.length, .int .i64 ms, .int .i64 mk, .int .i64 mn, .string mt, .int .i64 mu] 38)).cell? ⟨w4.heap.size, 4, none⟩ = some (.string mt) ∧ (w4.alloc (.cells #[.slice L4.p fs.length fs.length, .int .i64 ms, .int .i64 mk, .int .i64 mn, .string mt, .int .i64 mu] 38)).cell? ⟨w4.heap.size, 5, none⟩ = some (.int .i64 mu) := by simp
  have HM4 := hide (hM4.later (nx_alloc w4 (.cells #[.slice L4.p fs.length fs.length, .int .i64 ms, .int .i64 mk, .int .i64 mn, .string mt, .int .i64 mu] 38)))
  have HX : Hid (∀ x : World, Below (w4.alloc (.cells #[.slice L4.p fs.length fs.length, .int .i64 ms, .int .i64 mk, .int .i64 mn, .string mt, .int .i64 mu] 38)).heap.size (w4.alloc (.cells #[.slice L4.p fs.length fs.length, .int .i64 ms, .int .i64 mk, .int .i64 mn, .string mt, .int .i64 mu] 38)) x → x.cell? ⟨w4.heap.size, 0, none⟩ = some (.slice L4.p fs.length fs.length) ∧ x.cell? ⟨w4.heap.size, 1, none⟩ = some (.int .i64 ms) ∧ x.cell? ⟨w4.heap.size, 2, none⟩ = some (.int .i64 mk) ∧ x.cell? ⟨w4.heap.size, 3, none⟩ = some (.int .i64 mn) ∧ x.cell? ⟨w4.heap.size, 4, none⟩ = some (.string mt) ∧ x.cell? ⟨w4.heap.size, 5, none⟩ = some (.int .i64 mu)) := hide (fun x hx => ⟨cell_later hx hX4.1, cell_later hx hX4.2.1, cell_later hx hX4.2.2.1, cell_later hx hX4.2.2.2.1, cell_later hx hX4.2.2.2.2.1, cell_later hx hX4.2.2.2.2.2⟩)
  obtain ⟨a0, a1, a2, a3, a4, a5, a6, a7, a8, a9, a10⟩ := unhide HC _ (unhide hA4)
  obtain ⟨x0, x1, x2, x3, x4, x5⟩ := hX4
  clear hb4 hM4 c0 c1 c2 c3 c4 c5 c6 c7 c8 c9 c10
  go_wp2
  generalize (w4.alloc (.cells #[.slice L4.p fs.length fs.length, .int .i64 ms, .int .i64 mk, .int .i64 mn, .string mt, .int .i64 mu] 38)) = w5 at *
  generalize w4.heap.size = b7 at *
  have HD5 := hide (nx_drew (unhide hA4))
  have HE5 := hide ((Below.refl w5.heap.size w5).drew)
  go_cut [8] from 26 to 29 (fun s8 wx => s8 = .bool g ∧ Hid (Below w5.heap.size w5 wx))
  case first =>
    go_region_with (first | (go_at_call 7; refine (toOutcome_any st k n t sp _).mono ?_; rintro e u ⟨rfl, hbu⟩; have hbu := nx_trans (unhide HE5) hbu; have HU := hide hbu; obtain ⟨y0, y1, y2, y3, y4, y5⟩ := unhide HX _ hbu) | (go_at_call 9; refine (unhide HI _ _ _ _).mono ?_; rintro e z ⟨rfl, hbz⟩; have hbz := nx_trans (unhide HU) hbz; have HZ := hide hbz))
    all_goals (go_wp2_with fail; go_meet)
    all_goals exact ⟨rfl, HZ⟩
  case rest =>
  rename World => w6
  obtain ⟨rfl, hE6⟩ := hcut
  have hA6 := hide (nx_trans (unhide hA4) (unhide hE6))
  have HM6 := hide ((unhide HM4).later (unhide hE6))
  clear a0 a1 a2 a3 a4 a5 a6 a7 a8 a9 a10 x0 x1 x2 x3 x4 x5 HD5 HE5
  obtain ⟨a0, a1, a2, a3, a4, a5, a6, a7, a8, a9, a10⟩ := unhide HC _ (unhide hA6)
  obtain ⟨x0, x1, x2, x3, x4, x5⟩ := unhide HX _ (unhide hE6)
  have HN6 := hide ((unhide HR).later (nx_trans (unhide hB1) (nx_drew (unhide hA6))))
  have HMD := hide ((unhide HM6).later (Below.refl _ _).drew)
  have HED := hide (nx_drew (unhide hE6))
  have HBD := hide (nx_trans (unhide hB1) (nx_drew (unhide hA6)))
  go_wp2
  go_region_with (first | (go_at_call 8; refine (toMachine_any L fs cap ms mk mn mt mu w6.drew (unhide HN6) (unhide HSm)).mono ?_; rintro e y ⟨L6, rfl, hM6, hby⟩; obtain ⟨y0, y1, y2, y3, y4, y5⟩ := unhide HX _ (nx_trans (unhide HED) hby); have HMY := hide hM6; have HBY := hide hby; clear hM6 hby) | (go_at_call 10; refine (eqMachine_same L4 L6 fs fs.length fs.length ms mk mn mt mu y ((unhide HMD).later (unhide HBY)) (unhide HMY) (unhide HSm)).mono ?_; rintro e z ⟨rfl, hbz⟩))
  all_goals go_wp2
  all_goals go_ret
  all_goals exact ⟨rfl, nx_trans (nx_trans (unhide HBD) (unhide HBY)) hbz⟩

end Go.Proofs.Ytdnjplfkdconaaa
