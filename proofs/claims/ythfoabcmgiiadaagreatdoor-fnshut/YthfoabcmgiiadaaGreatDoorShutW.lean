/- What is no request ends its connection: the law's walk. -/
import Derived.Test.YthfoabcmgiiadaaGreatDoorShutP
import Derived.Test.YthfoabcmgiiadaaGreatDoorConnC7
import Derived.Test.YthfoabcmgiiadaaGreatDoorConnC9
import Derived.Test.YthfoabcmgiiadaaGreatDoorConnC10
import Derived.Test.YthfoabcmgiiadaaGreatDoorOpenW
import Derived.Test.YthfoabcmgiiadaaGreatDoorAtWalk
import Derived.Test.YthfoabcmgiiadaaGreatDoorWireX4
import Derived.Laws.BytesArg
namespace Go.Proofs.YthfoabcmgiiadaaGreatDoor
open Go.RowKit Go.Joins
set_option linter.unusedVariables false

def zObj : Obj := .cells (madeCells #[.int .u8 0] 121) 5
set_option maxRecDepth 100000 in
theorem mk121 (w : World) : (Instr.makeSlice 22 (.int .i64 121) (.int .i64 121)).run Tryz.prog w = .ok (.slice (some ⟨w.heap.size, 0, none⟩) 121 121) (w.alloc zObj) := by
  have h := run_make (P := Tryz.prog) w 22 5 _ (.int .u8 0) Tryz.underlying22 rfl rfl .i64 .i64 121 121 (by omega) (Int.le_refl _) (by decide) (by omega)
  exact h
theorem cv121 (w : World) (g : Nat) (h : w.heap[g]? = some zObj) : (convert 22 9 (.slice (some ⟨g, 0, none⟩) 121 121)).run Tryz.prog w = .ok (.string (junkS 3)) w := by
  have := run_convert_bytes_arg (P := Tryz.prog) w 22 5 Tryz.underlying22 Tryz.underlying5 g 0 121 121 (List.replicate 121 0) (by simp) (fun i hi => by
    rw [cell_of_block h, Nat.zero_add]
    have e : (List.replicate 121 (0 : Int)).getD i 0 = 0 := by rw [List.getD_eq_getElem?_getD, List.getElem?_replicate]; split <;> rfl
    rw [e]
    simp [madeCells, hi, Nat.mod_one]) 9 Tryz.underlying9
  rw [this]
  congr 1

/-- the four texts -/
def jObj : Obj := .cells #[.string (junkS 0), .string (junkS 1), .string (junkS 2), .string (junkS 3)] 9
theorem jcell (w : World) (g j : Nat) (h : w.heap[g]? = some jObj) (hj : j < 4) : w.cell? ⟨g, j, none⟩ = some (.string (junkS j)) := by
  rw [cell_of_block h]
  obtain rfl | rfl | rfl | rfl : j = 0 ∨ j = 1 ∨ j = 2 ∨ j = 3 := by omega
  all_goals rfl
theorem heap_new (w : World) (o : Obj) : (w.alloc o).heap[w.heap.size]? = some o := by show (w.heap.push _)[w.heap.size]? = _; simp
theorem heap_new2 (w : World) (o p : Obj) : ((w.alloc o).alloc p).heap[w.heap.size + 1]? = some p := by
  show ((w.heap.push _).push _)[w.heap.size + 1]? = _
  rw [Array.getElem?_push, if_pos (by simp)]

/-- the law's connections, one behind the other -/
def shC1 (T J : ByteArray) : CN := ⟨true, false, T ++ J, [], 0⟩
def shC2 (J : ByteArray) : CN := ⟨true, false, J, [⟨0, false, ⟨#[]⟩⟩], 1⟩
def shC3 (F : ByteArray) : CN := ⟨true, true, ⟨#[]⟩, [⟨0, false, ⟨#[]⟩⟩, ⟨1, true, F⟩], 2⟩
def replyW : ByteArray := ⟨#[114, 101, 112, 108, 121]⟩
def moreW : ByteArray := ⟨#[109, 111, 114, 101]⟩
def shC5 (F : ByteArray) : CN := ⟨true, true, ⟨#[]⟩, [⟨0, true, replyW⟩, ⟨1, true, F⟩], 2⟩
def shC6 : CN := ⟨false, false, ⟨#[]⟩, [], 2⟩
theorem emp_app (t : ByteArray) : (⟨#[]⟩ : ByteArray) ++ t = t := by apply ByteArray.ext; simp
theorem emp_size : (⟨#[]⟩ : ByteArray).size = 0 := rfl
theorem shC0_ok : connB CN.start = true := by decide
theorem connB_mk {c : CN} (ho : c.o = true) (hn : connN c) (hs : slotsTo c.n c.s c.s.length) (he : c.e = true → c.i.size = 0) : connB c = true := by
  rw [connB_open hn ho (Nat.le_refl _) hs]
  cases h : c.e
  · rfl
  · simp [he h]
theorem shC1_ok {T J : ByteArray} (h : T.size + J.size ≤ 400) : connB (shC1 T J) = true :=
  connB_mk rfl ⟨(by decide : (0 : Int) ≤ 0), (by decide : (0 : Int) ≤ 100000), by show (T ++ J).size ≤ 400; rw [ByteArray.size_append]; exact h, (by decide : 0 ≤ 6)⟩ (fun i hi => absurd hi (by simp [shC1])) (fun h => by cases h)
theorem shC2_ok {J : ByteArray} (h : J.size ≤ 400) : connB (shC2 J) = true := by
  refine connB_mk rfl ⟨(by decide : (0 : Int) ≤ 1), (by decide : (1 : Int) ≤ 100000), h, (by decide : 1 ≤ 6)⟩ (fun i hi h2 => ?_) (fun h => by cases h)
  obtain rfl : i = 0 := by simp [shC2] at hi; omega
  exact ⟨(by decide : (0 : Int) ≤ 0), (by decide : (0 : Int) ≤ 1 - 1), fun h => absurd h (by omega), (by decide : (⟨#[]⟩ : ByteArray).size ≤ 300), (by decide : false = !decide ((⟨#[]⟩ : ByteArray).size = 0))⟩
theorem shC3_ok {F : ByteArray} (h1 : 1 ≤ F.size) (h2 : F.size ≤ 300) : connB (shC3 F) = true := by
  refine connB_mk rfl ⟨(by decide : (0 : Int) ≤ 2), (by decide : (2 : Int) ≤ 100000), (by decide : (⟨#[]⟩ : ByteArray).size ≤ 400), (by decide : 2 ≤ 6)⟩ (fun i hi hl => ?_) (fun h => rfl)
  obtain rfl | rfl : i = 0 ∨ i = 1 := by simp [shC3] at hi; omega
  · exact ⟨(by decide : (0 : Int) ≤ 0), (by decide : (0 : Int) ≤ 2 - 1), fun h => absurd h (by omega), (by decide : (⟨#[]⟩ : ByteArray).size ≤ 300), (by decide : false = !decide ((⟨#[]⟩ : ByteArray).size = 0))⟩
  · refine ⟨by simp [shC3], by simp [shC3], fun h => by simp [shC3], h2, ?_⟩
    have : F.size ≠ 0 := by omega
    simp [shC3, this]
theorem shC5_ok {F : ByteArray} (h1 : 1 ≤ F.size) (h2 : F.size ≤ 300) : connB (shC5 F) = true := by
  refine connB_mk rfl ⟨(by decide : (0 : Int) ≤ 2), (by decide : (2 : Int) ≤ 100000), (by decide : (⟨#[]⟩ : ByteArray).size ≤ 400), (by decide : 2 ≤ 6)⟩ (fun i hi hl => ?_) (fun h => rfl)
  obtain rfl | rfl : i = 0 ∨ i = 1 := by simp [shC5] at hi; omega
  · exact ⟨by simp [shC5], by simp [shC5], fun h => absurd h (by omega), by show replyW.size ≤ 300; decide, by show true = !decide (replyW.size = 0); decide⟩
  · refine ⟨by simp [shC5], by simp [shC5], fun h => by simp [shC5], h2, ?_⟩
    have : F.size ≠ 0 := by omega
    simp [shC5, this]

theorem sh1 {T J : ByteArray} (hs : T.size + J.size ≤ 400) (u : World) (v : Value) (hv : RowSl u v []) : Calls Tryz.prog 8 #[cnV CN.start v, .string (T ++ J)] u fun e w' => AnsC (shC1 T J, 0) u e w' := by
  have hz : (T ++ J).size ≤ 400 := by rw [ByteArray.size_append]; exact hs
  have := ConnTake_ok CN.start v (T ++ J) u hv shC0_ok (by omega) ⟨rfl, rfl⟩ (by show ¬ 400 < 0 + (T ++ J).size; omega)
  rw [show ({ CN.start with i := CN.start.i ++ (T ++ J) } : CN) = shC1 T J by unfold shC1; rw [← emp_app (T ++ J)]; rfl] at this
  exact this
theorem sh2 {T J : ByteArray} {R : ByteArray} (hs : T.size + J.size ≤ 400) (hR : reqR (T ++ J) = ⟨R, false, (T.size : Int), 0⟩) (hc : (T ++ J).extract T.size (T ++ J).size = J) (u : World) (v : Value) (hv : RowSl u v []) (hm : MaxL u) : Calls Tryz.prog 9 #[cnV (shC1 T J) v] u fun e w' => AnsN ⟨shC2 J, R, false, 0, 0⟩ u e w' := by
  have := ConnNext_ok (shC1 T J) v u hv (shC1_ok hs) hm ⟨rfl, rfl⟩ (by simp [shC1]) (by simp [shC1]) R T.size (by show T.size ≤ (T ++ J).size; rw [ByteArray.size_append]; omega) hR
  rw [show (shC1 T J).i = T ++ J from rfl, hc] at this
  exact this.mono fun _ _ h => h.weak
theorem sh3 {J : ByteArray} {k : Nat} (hk : k = 2 ∨ k = 3 ∨ k = 17) (hs : J.size ≤ 400) (hR : reqR J = RR.bad k) (u : World) (v : Value) (hv : RowSl u v (shC2 J).s) (hm : MaxL u) (ht : TabK u) (hp : PowTabW u) : Calls Tryz.prog 9 #[cnV (shC2 J) v] u fun e w' => AnsN ⟨shC3 (faultT k), ⟨#[]⟩, false, 1, k⟩ u e w' :=
  (ConnNext_fault (shC2 J) v u hv (shC2_ok hs) hm ⟨rfl, rfl⟩ (by simp [shC2]) (by simp [shC2]) k hk ht hp hR).mono fun _ _ h => h.weak
theorem sh4 {F : ByteArray} (h1 : 1 ≤ F.size) (h2 : F.size ≤ 300) (u : World) (v : Value) (hv : RowSl u v (shC3 F).s) : Calls Tryz.prog 8 #[cnV (shC3 F) v, .string moreW] u fun e w' => AnsC (shC3 F, 19) u e w' :=
  ConnTake_shut (shC3 F) v moreW u hv (shC3_ok h1 h2) (by decide) (by simp [shC3])
theorem sh5 {F : ByteArray} (h1 : 1 ≤ F.size) (h2 : F.size ≤ 300) (u : World) (v : Value) (hv : RowSl u v (shC3 F).s) : Calls Tryz.prog 9 #[cnV (shC3 F) v] u fun e w' => AnsN ⟨shC3 F, ⟨#[]⟩, false, 0, 19⟩ u e w' :=
  (ConnNext_shut (shC3 F) v u hv (shC3_ok h1 h2) (by simp [shC3])).mono fun _ _ h => h.weak
theorem sh6 {F : ByteArray} (h1 : 1 ≤ F.size) (h2 : F.size ≤ 300) (u : World) (v : Value) (hv : RowSl u v (shC3 F).s) : Calls Tryz.prog 15 #[cnV (shC3 F) v] u fun e w' => AnsF ⟨shC3 F, ⟨#[]⟩, false, 0⟩ u e w' := by
  have g : goL (shC3 F).s = 0 := rfl
  have := ConnFlush_wait (shC3 F) v u hv (shC3_ok h1 h2) rfl (by rw [g]; simp [shC3])
  rw [g] at this
  exact this
theorem sh7 {F : ByteArray} (h1 : 1 ≤ F.size) (h2 : F.size ≤ 300) (u : World) (v : Value) (hv : RowSl u v (shC3 F).s) : Calls Tryz.prog 14 #[cnV (shC3 F) v, .int .i64 0, .string replyW] u fun e w' => AnsC (shC5 F, 0) u e w' :=
  ConnReady_ok (shC3 F) v 0 replyW u hv (shC3_ok h1 h2) (by decide) 0 ⟨0, false, ⟨#[]⟩⟩ rfl rfl (fun y hy => absurd hy (by simp)) rfl
theorem sh8 {F : ByteArray} (h1 : 1 ≤ F.size) (h2 : F.size ≤ 300) (u : World) (v : Value) (hv : RowSl u v (shC5 F).s) : Calls Tryz.prog 15 #[cnV (shC5 F) v] u fun e w' => AnsF ⟨shC6, replyW ++ F, true, 0⟩ u e w' := by
  have g : goL (shC5 F).s = 2 := rfl
  have := ConnFlush_close (shC5 F) v u hv (shC5_ok h1 h2) rfl (by rw [g]; rfl)
  rw [g] at this
  have e : textL ((shC5 F).s.take 2) = replyW ++ F := by
    show ((⟨#[]⟩ : ByteArray) ++ replyW) ++ F = _
    rw [emp_app]
  rw [e] at this
  exact this

set_option maxHeartbeats 8000000 in
set_option maxRecDepth 100000 in
theorem shut_walk (a0 a1 : Option Addr) (len0 cap0 len1 cap1 : Nat) (z1 : List Int) (w : World) (h1 : IsRow .u8 w a1 len1 cap1 z1) (hl0 : len0 ≤ 1048576) (hl1 : len1 ≤ 1048576) (hT : PowTabW w) (hK : TabK w) (hm : MaxL w) :
    Calls Tryz.prog 5 #[.slice a0 len0 cap0, .slice a1 len1 cap1] w fun e w' => e = .returned (.bool true) ∧ Below w.heap.size w w' := by
  have HR1 := hide h1
  have HT := hide hT
  have HK := hide hK
  have HM := hide hm
  have q0 : ¬ (1048576 : Int) < (len0 : Int) := by omega
  have q1 : ¬ (1048576 : Int) < (len1 : Int) := by omega
  have HAt := hide (fun (u : World) (hu : Below w.heap.size w u) => at_any a1 len1 cap1 z1 0 4 u (IsRow.later h1 hu) hl1 (.inl rfl) (by omega) (by omega))
  clear h1 hT hK hm hl0 hl1
  go_enter Tryz.func5, Tryz.ntmps5
  go_wp2
  have hmk := mk121
  have hcv : ∀ u : World, (convert 22 9 (.slice (some ⟨u.heap.size, 0, none⟩) 121 121)).run Tryz.prog (u.alloc zObj) = .ok (.string (junkS 3)) (u.alloc zObj) := fun u => cv121 _ _ (heap_new u zObj)
  have hcv2 : ∀ u : World, (convert 22 9 (.slice (some ⟨u.heap.size, 0, none⟩) 121 121)).run Tryz.prog (u.drew.alloc zObj) = .ok (.string (junkS 3)) (u.drew.alloc zObj) := fun u => cv121 _ _ (heap_new u.drew zObj)
  have hcv3 : ∀ u : World, (convert 22 9 (.slice (some ⟨u.heap.size, 0, none⟩) 121 121)).run Tryz.prog (u.alloc zObj).drew = .ok (.string (junkS 3)) (u.alloc zObj).drew := fun u => cv121 _ _ (heap_new u zObj)
  have HCV := hide cv121
  have HJ1 : Hid (∀ (j : Nat), j < 4 → ∀ u : World, (u.alloc (.cells #[.string ⟨#[106, 117, 110, 107, 13, 10, 13, 10]⟩, .string ⟨#[80, 79, 83, 84, 32, 47, 32, 72, 84, 84, 80, 47, 49, 46, 49, 13, 10, 13, 10]⟩, .string ⟨#[71, 69, 84, 32, 47, 32, 72, 84, 84, 80, 47, 49, 46, 49, 13, 10, 110, 111, 32, 99, 111, 108, 111, 110, 13, 10, 13, 10]⟩, .string (junkS 3)] 9)).cell? ⟨u.heap.size, j, none⟩ = some (.string (junkS j))) := hide (fun j hj u => jcell _ _ j (heap_new u jObj) hj)
  have HJ2 : Hid (∀ (j : Nat), j < 4 → ∀ u : World, ((u.alloc zObj).alloc (.cells #[.string ⟨#[106, 117, 110, 107, 13, 10, 13, 10]⟩, .string ⟨#[80, 79, 83, 84, 32, 47, 32, 72, 84, 84, 80, 47, 49, 46, 49, 13, 10, 13, 10]⟩, .string ⟨#[71, 69, 84, 32, 47, 32, 72, 84, 84, 80, 47, 49, 46, 49, 13, 10, 110, 111, 32, 99, 111, 108, 111, 110, 13, 10, 13, 10]⟩, .string (junkS 3)] 9)).cell? ⟨u.heap.size + 1, j, none⟩ = some (.string (junkS j))) := hide (fun j hj u => jcell _ _ j (heap_new2 u zObj jObj) hj)
  have HJ3 : Hid (∀ (j : Nat), j < 4 → ∀ y : World, Below ((w.drew.alloc zObj).alloc (.cells #[.string ⟨#[106, 117, 110, 107, 13, 10, 13, 10]⟩, .string ⟨#[80, 79, 83, 84, 32, 47, 32, 72, 84, 84, 80, 47, 49, 46, 49, 13, 10, 13, 10]⟩, .string ⟨#[71, 69, 84, 32, 47, 32, 72, 84, 84, 80, 47, 49, 46, 49, 13, 10, 110, 111, 32, 99, 111, 108, 111, 110, 13, 10, 13, 10]⟩, .string (junkS 3)] 9)).heap.size ((w.drew.alloc zObj).alloc (.cells #[.string ⟨#[106, 117, 110, 107, 13, 10, 13, 10]⟩, .string ⟨#[80, 79, 83, 84, 32, 47, 32, 72, 84, 84, 80, 47, 49, 46, 49, 13, 10, 13, 10]⟩, .string ⟨#[71, 69, 84, 32, 47, 32, 72, 84, 84, 80, 47, 49, 46, 49, 13, 10, 110, 111, 32, 99, 111, 108, 111, 110, 13, 10, 13, 10]⟩, .string (junkS 3)] 9)) y → y.cell? ⟨w.heap.size + 1, j, none⟩ = some (.string (junkS j))) := hide (fun j hj y hby => cell_later hby (jcell _ _ j (heap_new2 w.drew zObj jObj) hj))
  generalize hZ : zObj = Z at *
  go_cut [5] from 42 to 48 (fun s5 wx => ∃ j : Nat, j < 4 ∧ s5 = .string (junkS j) ∧ Hid (Below w.heap.size w wx))
  case first =>
    go_region_with (first
      | (go_at_call 13; refine (unhide HAt _ (qx_drew (Below.refl _ _))).mono ?_; rintro ex y ⟨r, rfl, hr0, hr1, hby⟩; obtain ⟨j, rfl⟩ := Int.eq_ofNat_of_zero_le hr0; have hj4 : j < 4 := Int.ofNat_lt.1 hr1; have hj1 := unhide HJ1 j hj4; have hj2 := unhide HJ2 j hj4)
      | (go_at_call 13; refine (unhide HAt _ (qx_al (qx_drew (Below.refl _ _)))).mono ?_; rintro ex y ⟨r, rfl, hr0, hr1, hby⟩; obtain ⟨j, rfl⟩ := Int.eq_ofNat_of_zero_le hr0; have hj4 : j < 4 := Int.ofNat_lt.1 hr1; have hj1 := unhide HJ1 j hj4; have hj2 := unhide HJ2 j hj4; have hcy := unhide HCV y w.heap.size ((hby.block _ (by simp)).trans (heap_new _ _)))
      | (go_at_call 13; refine (unhide HAt _ (qx_al (qx_al (qx_drew (Below.refl _ _))))).mono ?_; rintro ex y ⟨r, rfl, hr0, hr1, hby⟩; obtain ⟨j, rfl⟩ := Int.eq_ofNat_of_zero_le hr0; have hj4 : j < 4 := Int.ofNat_lt.1 hr1; have hj1 := unhide HJ3 j hj4 y hby))
    all_goals (go_wp2_with fail; go_meet)
    all_goals exact ⟨j, hj4, rfl, hide (by repeat (first | exact Below.refl _ _ | refine qx_al ?_ | refine qx_drew ?_ | refine qx_trans ?_ (by assumption)))⟩
  case rest =>
  obtain ⟨j, hj, rfl, hb0⟩ := hcut
  have hF := shut_facts j hj
  have hkE := junkE_in j
  have H1 := hide (fun u v hv => sh1 hF.small u v hv)
  have H2 := hide (fun u v hv hm => sh2 hF.small hF.read hF.cut u v hv hm)
  have H3 := hide (fun u v hv hm ht hp => sh3 hkE (by have := hF.small; omega) hF.bad u v hv hm ht hp)
  have H4 := hide (fun u v hv => sh4 hF.f1 hF.f2 u v hv)
  have H5 := hide (fun u v hv => sh5 hF.f1 hF.f2 u v hv)
  have H6 := hide (fun u v hv => sh6 hF.f1 hF.f2 u v hv)
  have H7 := hide (fun u v hv => sh7 hF.f1 hF.f2 u v hv)
  have H8 := hide (fun u v hv => sh8 hF.f1 hF.f2 u v hv)
  have hF1 := hF.f1
  have hF2 := hF.f2
  have hTJ := hF.small
  have HRT := hide (fun u => specRequestText_any oneS false u (by decide))
  rw [show reqTR oneS false = (reqOne, 0) by unfold reqTR; rw [if_pos (by kernel_rfl)]; rfl] at HRT
  have hk0 : (junkE j : Int) ≠ 0 ∧ (junkE j : Int) ≠ 18 ∧ (junkE j : Int) ≠ 19 ∧ (junkE j : Int) ≠ 7 := by omega
  clear hF hkE hj hmk hcv hcv2 hcv3 HCV HJ1 HJ2 HJ3 hZ HAt HR1
  generalize faultT (junkE j) = F at *
  generalize junkE j = k at *
  generalize junkS j = J at *
  generalize reqOne = T at *
  obtain ⟨k1, k2, k3, k4⟩ := hk0
  have m1 : k ≠ 0 := by omega
  have m2 : k ≠ 18 := by omega
  have m3 : k ≠ 19 := by omega
  have m4 : k ≠ 7 := by omega
  have n1 : ((k : Int) == 0) = false := by simpa using k1
  have n2 : ((k : Int) == 18) = false := by simpa using k2
  have n3 : ((k : Int) == 19) = false := by simpa using k3
  have n4 : ((k : Int) == 7) = false := by simpa using k4
  have o1 : (k == 0) = false := by simpa using m1
  have o2 : (k == 18) = false := by simpa using m2
  have o3 : (k == 19) = false := by simpa using m3
  have o4 : (k == 7) = false := by simpa using m4
  go_wp2_with fail
  refine (unhide HRT _).mono ?_
  rintro ex w1 ⟨rfl, hb1⟩
  have HB1 := hide (qx_trans (unhide hb0) hb1)
  clear hb1
  dsimp only
  go_wp2_with fail
  refine (implOpen_any _).mono ?_
  rintro ex w2 ⟨rfl, hb2⟩
  have HB2 := hide (qx_trans (unhide HB1) hb2)
  clear hb2
  dsimp only [cnV, CN.start]
  go_wp2_with fail
  refine (unhide H1 _ (.slice none 0 0) (RowSl.none _)).mono ?_
  rintro ex w3 ⟨v3, rfl, hr3, hb3⟩
  obtain ⟨p3, c3, rfl, _⟩ := hr3.slice
  have HR3 := hide (hr3.later (qx_alloc w3 (.cells #[.bool true, .bool false, .string (T ++ J), .slice p3 0 c3, .int .i64 0] 25)))
  have HB3 := hide (qx_al (o := .cells #[.bool true, .bool false, .string (T ++ J), .slice p3 0 c3, .int .i64 0] 25) (qx_trans (unhide HB2) hb3))
  clear hr3 hb3
  dsimp only [cnV, shC1, List.length_nil] at HR3 ⊢
  go_wp2_with fail
  refine (unhide H2 _ (.slice p3 0 c3) (unhide HR3) ((unhide HM).later (unhide HB3))).mono ?_
  rintro ex w4 ⟨v4, rfl, hr4, hb4⟩
  obtain ⟨p4, c4, rfl, _⟩ := hr4.slice
  dsimp only [shC2, List.length_cons, List.length_nil, Nat.reduceAdd, Nat.zero_add] at hr4
  have HR4 := hide ((hr4.later (qx_alloc w4 (.cells #[.bool true, .bool false, .string J, .slice p4 1 c4, .int .i64 1] 25))).later (qx_alloc _ (.cells #[.string oneS, .bool false] 31)))
  have HB4 := hide (qx_al (o := (.cells #[.string oneS, .bool false] 31)) (qx_al (o := (.cells #[.bool true, .bool false, .string J, .slice p4 1 c4, .int .i64 1] 25)) (qx_trans (unhide HB3) hb4)))
  clear hr4 hb4 HR3
  dsimp only [cnV, shC2, List.length_cons, List.length_nil, Nat.reduceAdd, Nat.zero_add]
  go_wp2_with fail
  refine (unhide H3 _ (.slice p4 1 c4) (unhide HR4) ((unhide HM).later (unhide HB4)) ((unhide HK).later (unhide HB4)) ((unhide HT).later (unhide HB4) (Nat.le_refl _))).mono ?_
  rintro ex w5 ⟨v5, rfl, hr5, hb5⟩
  obtain ⟨p5, c5, rfl, _⟩ := hr5.slice
  dsimp only [shC3, List.length_cons, List.length_nil, Nat.reduceAdd, Nat.zero_add] at hr5
  have HR5 := hide ((hr5.later (qx_alloc w5 (.cells #[.bool true, .bool true, .string ⟨#[]⟩, .slice p5 2 c5, .int .i64 2] 25))).later (qx_alloc _ (.cells #[.string ⟨#[]⟩, .bool false] 31)))
  have HB5 := hide (qx_al (o := (.cells #[.string ⟨#[]⟩, .bool false] 31)) (qx_al (o := (.cells #[.bool true, .bool true, .string ⟨#[]⟩, .slice p5 2 c5, .int .i64 2] 25)) (qx_trans (unhide HB4) hb5)))
  have HC5 := hide ((ConnIn.new w5 (shC3 F) (.slice p5 2 c5) 25 w5.heap.size rfl).later (qx_alloc _ (.cells #[.string ⟨#[]⟩, .bool false] 31)))
  clear hr5 hb5 HR4
  dsimp only [cnV, shC3, List.length_cons, List.length_nil, Nat.reduceAdd, Nat.zero_add]
  go_wp2_with fail
  refine (unhide H4 _ (.slice p5 2 c5) (unhide HR5)).mono ?_
  rintro ex w6 ⟨v6, rfl, hr6, hb6⟩
  obtain ⟨p6, c6, rfl, _⟩ := hr6.slice
  have HR6 := hide (((unhide HR5).later hb6).later (qx_alloc w6 (.cells #[.bool true, .bool true, .string ⟨#[]⟩, .slice p6 2 c6, .int .i64 2] 25)))
  have HB6 := hide (qx_al (o := (.cells #[.bool true, .bool true, .string ⟨#[]⟩, .slice p6 2 c6, .int .i64 2] 25)) (qx_trans (unhide HB5) hb6))
  have HC6 := hide (((unhide HC5).later hb6).later (qx_alloc w6 (.cells #[.bool true, .bool true, .string ⟨#[]⟩, .slice p6 2 c6, .int .i64 2] 25)))
  clear hr6 hb6 HR5 HC5
  obtain ⟨hl6, d0, d1, d2, d3, d4⟩ := unhide HC6
  dsimp only [cnV, shC3, List.length_cons, List.length_nil, Nat.reduceAdd, Nat.zero_add] at d0 d1 d2 d3 d4 ⊢
  clear hl6
  go_wp2_with fail
  refine (unhide H5 _ (.slice p5 2 c5) (unhide HR6)).mono ?_
  rintro ex w7 ⟨v7, rfl, hr7, hb7⟩
  obtain ⟨p7, c7, rfl, _⟩ := hr7.slice
  have HR7 := hide ((((unhide HR6).later hb7).later (qx_alloc w7 (.cells #[.bool true, .bool true, .string ⟨#[]⟩, .slice p7 2 c7, .int .i64 2] 25))).later (qx_alloc _ (.cells #[.string ⟨#[]⟩, .bool false] 31)))
  have HB7 := hide (qx_al (o := (.cells #[.string ⟨#[]⟩, .bool false] 31)) (qx_al (o := (.cells #[.bool true, .bool true, .string ⟨#[]⟩, .slice p7 2 c7, .int .i64 2] 25)) (qx_trans (unhide HB6) hb7)))
  have HC7 := hide ((((unhide HC6).later hb7).later (qx_alloc w7 (.cells #[.bool true, .bool true, .string ⟨#[]⟩, .slice p7 2 c7, .int .i64 2] 25))).later (qx_alloc _ (.cells #[.string ⟨#[]⟩, .bool false] 31)))
  clear hr7 hb7 HR6 HC6 d0 d1 d2 d3 d4
  obtain ⟨hl7, d0, d1, d2, d3, d4⟩ := unhide HC7
  dsimp only [cnV, shC3, shC5, shC6, List.length_cons, List.length_nil, Nat.reduceAdd, Nat.zero_add] at d0 d1 d2 d3 d4 ⊢
  clear hl7
  go_wp2_with fail
  refine (unhide H6 _ (.slice p5 2 c5) (unhide HR7)).mono ?_
  rintro ex w8 ⟨v8, rfl, hr8, hb8⟩
  obtain ⟨p8, c8, rfl, _⟩ := hr8.slice
  dsimp only [shC3, List.length_cons, List.length_nil, Nat.reduceAdd, Nat.zero_add] at hr8
  have HR8 := hide (hr8.later (qx_alloc w8 (.cells #[.bool true, .bool true, .string ⟨#[]⟩, .slice p8 2 c8, .int .i64 2] 25)))
  have HB8 := hide (qx_al (o := (.cells #[.bool true, .bool true, .string ⟨#[]⟩, .slice p8 2 c8, .int .i64 2] 25)) (qx_trans (unhide HB7) hb8))
  clear hr8 hb8 HR7 HC7 d0 d1 d2 d3 d4
  dsimp only [cnV, shC3, List.length_cons, List.length_nil, Nat.reduceAdd, Nat.zero_add]
  go_wp2_with fail
  refine (unhide H7 _ (.slice p8 2 c8) (unhide HR8)).mono ?_
  rintro ex w9 ⟨v9, rfl, hr9, hb9⟩
  obtain ⟨p9, c9, rfl, _⟩ := hr9.slice
  dsimp only [shC5, List.length_cons, List.length_nil, Nat.reduceAdd, Nat.zero_add] at hr9
  have HR9 := hide (hr9.later (qx_alloc w9 (.cells #[.bool true, .bool true, .string ⟨#[]⟩, .slice p9 2 c9, .int .i64 2] 25)))
  have HB9 := hide (qx_al (o := (.cells #[.bool true, .bool true, .string ⟨#[]⟩, .slice p9 2 c9, .int .i64 2] 25)) (qx_trans (unhide HB8) hb9))
  clear hr9 hb9 HR8
  dsimp only [cnV, shC5, List.length_cons, List.length_nil, Nat.reduceAdd, Nat.zero_add]
  go_wp2_with fail
  refine (unhide H8 _ (.slice p9 2 c9) (unhide HR9)).mono ?_
  rintro ex wa ⟨va, rfl, hra, hba⟩
  obtain ⟨pa, ca, rfl, _⟩ := hra.slice
  have HBa := hide (qx_al (o := (.cells #[.bool false, .bool false, .string ⟨#[]⟩, .slice pa 0 ca, .int .i64 2] 25)) (qx_trans (unhide HB9) hba))
  clear hra hba HR9
  dsimp only [cnV, shC6, List.length_cons, List.length_nil, Nat.reduceAdd, Nat.zero_add] at HBa ⊢
  have hlen : (5 : Int) < ((replyW ++ F).size : Int) := by rw [ByteArray.size_append]; show (5 : Int) < ((5 + F.size : Nat) : Int); omega
  have hlen2 : (5 : Int) ≤ ((replyW ++ F).size : Int) := by omega
  have hlen3 : 5 ≤ (replyW ++ F).size := by omega
  have hcut5 : (replyW ++ F).extract 0 5 = ⟨#[114, 101, 112, 108, 121]⟩ := by
    show (replyW ++ F).extract 0 replyW.size = replyW
    rw [ByteArray.extract_append_eq_left rfl]
  generalize replyW ++ F = O at *
  go_wp2
  go_ret
  exact ⟨rfl, unhide HBa⟩

set_option maxHeartbeats 2000000 in
set_option maxRecDepth 100000 in
theorem lawShut_any (a0 : Option Addr) (len0 cap0 : Nat) (z0 : List Int) (a1 : Option Addr) (len1 cap1 : Nat) (z1 : List Int) (w : World) (h0 : IsRow .u8 w a0 len0 cap0 z0) (h1 : IsRow .u8 w a1 len1 cap1 z1) (hT : PowTabW w ∧ TabK w) (hm : MaxL w) :
    Calls Tryz.prog 5 #[.slice a0 len0 cap0, .slice a1 len1 cap1] w fun e w' => e = .returned (.bool true) ∧ Below w.heap.size w w' := by
  by_cases hl0 : len0 ≤ 1048576
  · by_cases hl1 : len1 ≤ 1048576
    · exact shut_walk a0 a1 len0 cap0 len1 cap1 z1 w h1 hl0 hl1 hT.1 hT.2 hm
    · have q0 : ¬ (1048576 : Int) < (len0 : Int) := by omega
      have q1 : (1048576 : Int) < (len1 : Int) := by omega
      clear h0 h1 hT hm hl0 hl1
      go_enter Tryz.func5, Tryz.ntmps5
      go_wp2
      go_ret
      exact ⟨rfl, Below.refl _ _⟩
  · have q0 : (1048576 : Int) < (len0 : Int) := by omega
    clear h0 h1 hT hm hl0
    go_enter Tryz.func5, Tryz.ntmps5
    go_wp2
    go_ret
    exact ⟨rfl, Below.refl _ _⟩

end Go.Proofs.YthfoabcmgiiadaaGreatDoor
