/- A bundle. -/
import Derived.Test.YtbipgmikgokfpaaDoorG07
import Derived.Test.YtbipgmikgokfpaaDoorG03
import Derived.Test.YtbipgmikgokfpaaDoorG10

/- PFirst -/
namespace Go.Proofs.YtbipgmikgokfpaaDoor
open Go.RowKit Go.Joins
set_option linter.unusedVariables false
attribute [local irreducible] run advP upP comP needP nameP putP downP failP isP tkP nextP setP
theorem next_size {ts : List V3} (h : TS ts) {s : PS} : (nextP ts s).t.size ≤ 1048576 := by
  by_cases hl : s.at' < ts.length
  · rw [nextP_in hl]; exact (h.each _ (List.getElem_mem hl)).2.2
  · rw [nextP_out hl]; show (0 : Nat) ≤ 1048576; omega
theorem tk_of {ts : List V3} {s : PS} {t : List UInt8} (h : s.code = 0) : tkP ts s t = isP ts s t := by unfold tkP; rw [h]; rfl

set_option maxHeartbeats 4000000 in
set_option maxRecDepth 100000 in
theorem pfirst_bad {ts : List V3} (hTS : Hid (TS ts)) (n : Nat) {g : Nat} {lp : Option Addr} {lc : PX} {v : Value} {s : PS} {w : World} (h : PAt w g lp lc ts v s) (hf : Few s) (hd : s.dp ≤ 20) (hn : needN ts .first s ≤ n + 1) (hc : ¬ s.code = 0) :
    PZ 196 g lp lc ts v w (run ts (n + 1) .first s) := by
  unfold PZ
  rw [run]
  rw [if_pos hc, retP]
  have hat := h.hat
  have HP := hide h
  have HK := hide (PK.refl g v w)
  have HF0 := hide hf
  have HD0 := hide hd
  have HL0 := hide (PLe.refl s)
  clear h hf hd
  go_enter Tryd.func196, Tryd.ntmps196
  obtain ⟨c0, c1, c2, c3, c4, c5⟩ := (unhide HP).cells
  have hg := (unhide HP).lt
  have e0 : (s.code != 0) = true := by simp [hc]
  go_wp2
  go_ret
  exact ⟨rfl, _, unhide HP, unhide HK⟩

set_option maxHeartbeats 4000000 in
set_option maxRecDepth 100000 in
theorem pfirst_int {ts : List V3} (hTS : Hid (TS ts)) (n : Nat) {g : Nat} {lp : Option Addr} {lc : PX} {v : Value} {s : PS} {w : World} (h : PAt w g lp lc ts v s) (hf : Few s) (hd : s.dp ≤ 20) (hn : needN ts .first s ≤ n + 1) (hc : s.code = 0) (hk3 : (nextP ts s).k = 3) :
    PZ 196 g lp lc ts v w (run ts (n + 1) .first s) := by
  unfold PZ
  rw [run]
  rw [if_neg (fun h => h hc), if_pos hk3, oneP]
  have hat := h.hat
  have HP := hide h
  have HK := hide (PK.refl g v w)
  have HF0 := hide hf
  have HD0 := hide hd
  have HL0 := hide (PLe.refl s)
  clear h hf hd
  have HX := hide (fun v w (hp : PAt w g lp lc ts v s) => pnext (unhide hTS) hp)
  unfold tokA at HX
  have hsz : (nextP ts s).t.size ≤ 1048576 := next_size (unhide hTS)
  have hlt := next_lt (ts := ts) (s := s) (by rw [hk3]; decide)
  generalize nextP ts s = x at HX hsz hk3 ⊢
  obtain ⟨xk, xn, xt⟩ := x
  simp only at hsz hk3
  go_enter Tryd.func196, Tryd.ntmps196
  obtain ⟨c0, c1, c2, c3, c4, c5⟩ := (unhide HP).cells
  have hg := (unhide HP).lt
  rw [hc] at c4
  have HC := hide (unhide HX _ _ (unhide HP))
  clear HX
  go_wp2_with fail
  refine (unhide HC).mono ?_
  rintro e wx ⟨rfl, hb⟩
  have HPx := hide ((unhide HP).later hb)
  have HKx := hide ((unhide HK).then_below hb)
  clear HC hb HK HP c0 c1 c2 c3 c4 c5 hg
  have hg := (unhide HPx).lt
  have hgx : wx.heap.size ≠ g := by omega
  have hvo : v.ownBlock ≠ some wx.heap.size := fun e => by have := (unhide HPx).own _ e; omega
  subst hk3
  obtain ⟨c0, c1, c2, c3, c4, c5⟩ := (unhide HPx).cells
  have z1 := (unhide HPx).free 1
  have hf3 := (unhide hTS).few
  have HP := hide (((unhide HPx).adv hlt).alloc (.cells #[.int .i64 3, .int .i64 xn, .string xt] 169))
  have HK := hide (((unhide HKx).set (o := 1) (x := .int .i64 ((s.at' : Int) + 1))).alloc (.cells #[.int .i64 3, .int .i64 xn, .string xt] 169))
  clear HPx HKx c0 c2 c3 c4 c5
  have HC := hide (l00Number_any xt ((wx.setCell ⟨g, 1, none⟩ (.int .i64 ((s.at' : Int) + 1))).alloc (.cells #[.int .i64 3, .int .i64 xn, .string xt] 169)) (by unfold maxLen; omega))
  go_wp2_with fail
  refine (unhide HC).mono ?_
  rintro e wz ⟨rfl, rfl⟩
  clear HC
  have HC := hide (pput0 (unhide hTS) (unhide HP) (by repeat (first | exact unhide HF0 | apply Few.put | refine Few.same ?_ (need_ns _ _ _) | refine Few.same ?_ (com_ns _ _ _) | refine Few.same ?_ (name_ns _ _) | refine Few.same ?_ (adv_ns _) | refine Few.same ?_ (up_ns _) | refine Few.same ?_ (down_ns _ _))) 1 (numP xt.data.toList).1 em)
  clear HP
  go_wp2_with fail
  refine (unhide HC).mono ?_
  rintro e w1 ⟨rfl, vp, hp, hk⟩
  have HP := hide hp
  have HK2 := hide ((unhide HK).trans hk)
  clear HC hp hk HK
  have HK := HK2
  clear HK2
  go_wp2
  go_ret
  exact ⟨rfl, _, unhide HP, unhide HK⟩

set_option maxHeartbeats 4000000 in
set_option maxRecDepth 100000 in
theorem pfirst_text {ts : List V3} (hTS : Hid (TS ts)) (n : Nat) {g : Nat} {lp : Option Addr} {lc : PX} {v : Value} {s : PS} {w : World} (h : PAt w g lp lc ts v s) (hf : Few s) (hd : s.dp ≤ 20) (hn : needN ts .first s ≤ n + 1) (hc : s.code = 0) (hk4 : (nextP ts s).k = 4) :
    PZ 196 g lp lc ts v w (run ts (n + 1) .first s) := by
  unfold PZ
  rw [run]
  rw [if_neg (fun h => h hc), if_neg (fun h => by rw [hk4] at h; exact absurd h (by decide)), if_pos hk4, oneP]
  have hat := h.hat
  have HP := hide h
  have HK := hide (PK.refl g v w)
  have HF0 := hide hf
  have HD0 := hide hd
  have HL0 := hide (PLe.refl s)
  clear h hf hd
  have HX := hide (fun v w (hp : PAt w g lp lc ts v s) => pnext (unhide hTS) hp)
  unfold tokA at HX
  have hsz : (nextP ts s).t.size ≤ 1048576 := next_size (unhide hTS)
  have hlt := next_lt (ts := ts) (s := s) (by rw [hk4]; decide)
  generalize nextP ts s = x at HX hsz hk4 ⊢
  obtain ⟨xk, xn, xt⟩ := x
  simp only at hsz hk4
  go_enter Tryd.func196, Tryd.ntmps196
  obtain ⟨c0, c1, c2, c3, c4, c5⟩ := (unhide HP).cells
  have hg := (unhide HP).lt
  rw [hc] at c4
  have HC := hide (unhide HX _ _ (unhide HP))
  clear HX
  go_wp2_with fail
  refine (unhide HC).mono ?_
  rintro e wx ⟨rfl, hb⟩
  have HPx := hide ((unhide HP).later hb)
  have HKx := hide ((unhide HK).then_below hb)
  clear HC hb HK HP c0 c1 c2 c3 c4 c5 hg
  have hg := (unhide HPx).lt
  have hgx : wx.heap.size ≠ g := by omega
  have hvo : v.ownBlock ≠ some wx.heap.size := fun e => by have := (unhide HPx).own _ e; omega
  subst hk4
  obtain ⟨c0, c1, c2, c3, c4, c5⟩ := (unhide HPx).cells
  have z1 := (unhide HPx).free 1
  have hf3 := (unhide hTS).few
  have HP := hide (((unhide HPx).adv hlt).alloc (.cells #[.int .i64 4, .int .i64 xn, .string xt] 169))
  have HK := hide (((unhide HKx).set (o := 1) (x := .int .i64 ((s.at' : Int) + 1))).alloc (.cells #[.int .i64 4, .int .i64 xn, .string xt] 169))
  clear HPx HKx c0 c2 c3 c4 c5
  have HC := hide (pput0 (unhide hTS) (unhide HP) (by repeat (first | exact unhide HF0 | apply Few.put | refine Few.same ?_ (need_ns _ _ _) | refine Few.same ?_ (com_ns _ _ _) | refine Few.same ?_ (name_ns _ _) | refine Few.same ?_ (adv_ns _) | refine Few.same ?_ (up_ns _) | refine Few.same ?_ (down_ns _ _))) 2 0 xt)
  clear HP
  go_wp2_with fail
  refine (unhide HC).mono ?_
  rintro e w1 ⟨rfl, vp, hp, hk⟩
  have HP := hide hp
  have HK2 := hide ((unhide HK).trans hk)
  clear HC hp hk HK
  have HK := HK2
  clear HK2
  go_wp2
  go_ret
  exact ⟨rfl, _, unhide HP, unhide HK⟩

set_option maxHeartbeats 4000000 in
set_option maxRecDepth 100000 in
theorem pfirst_true {ts : List V3} (hTS : Hid (TS ts)) (n : Nat) {g : Nat} {lp : Option Addr} {lc : PX} {v : Value} {s : PS} {w : World} (h : PAt w g lp lc ts v s) (hf : Few s) (hd : s.dp ≤ 20) (hn : needN ts .first s ≤ n + 1) (hc : s.code = 0) (hk3 : ¬ (nextP ts s).k = 3) (hk4 : ¬ (nextP ts s).k = 4) (hy : isP ts s [116, 114, 117, 101] = true) :
    PZ 196 g lp lc ts v w (run ts (n + 1) .first s) := by
  unfold PZ
  rw [run]
  rw [if_neg (fun h => h hc), if_neg hk3, if_neg hk4, if_pos hy, oneP]
  have hat := h.hat
  have HP := hide h
  have HK := hide (PK.refl g v w)
  have HF0 := hide hf
  have HD0 := hide hd
  have HL0 := hide (PLe.refl s)
  clear h hf hd
  have HX := hide (fun v w (hp : PAt w g lp lc ts v s) => pnext (unhide hTS) hp)
  unfold tokA at HX
  have hsz : (nextP ts s).t.size ≤ 1048576 := next_size (unhide hTS)
  generalize nextP ts s = x at HX hsz hk3 hk4 ⊢
  obtain ⟨xk, xn, xt⟩ := x
  simp only at hsz hk3 hk4
  go_enter Tryd.func196, Tryd.ntmps196
  obtain ⟨c0, c1, c2, c3, c4, c5⟩ := (unhide HP).cells
  have hg := (unhide HP).lt
  rw [hc] at c4
  have HC := hide (unhide HX _ _ (unhide HP))
  clear HX
  go_wp2_with fail
  refine (unhide HC).mono ?_
  rintro e wx ⟨rfl, hb⟩
  have HPx := hide ((unhide HP).later hb)
  have HKx := hide ((unhide HK).then_below hb)
  clear HC hb HK HP c0 c1 c2 c3 c4 c5 hg
  have hg := (unhide HPx).lt
  have hgx : wx.heap.size ≠ g := by omega
  have hvo : v.ownBlock ≠ some wx.heap.size := fun e => by have := (unhide HPx).own _ e; omega
  have e3 : (xk == 3) = false := beq_eq_false_iff_ne.2 hk3
  have e4 : (xk == 4) = false := beq_eq_false_iff_ne.2 hk4
  have HP := hide ((unhide HPx).alloc (.cells #[.int .i64 xk, .int .i64 xn, .string xt] 169))
  have HK := hide ((unhide HKx).alloc (.cells #[.int .i64 xk, .int .i64 xn, .string xt] 169))
  have hb0 : (wx.alloc (.cells #[.int .i64 xk, .int .i64 xn, .string xt] 169)).cell? ⟨wx.heap.size, 0, none⟩ = some (.int .i64 xk) := by simp
  have hb2 : (wx.alloc (.cells #[.int .i64 xk, .int .i64 xn, .string xt] 169)).cell? ⟨wx.heap.size, 2, none⟩ = some (.string xt) := by simp
  clear HPx HKx
  have HC := hide (ptake (unhide hTS) (unhide HP) (⟨#[116, 114, 117, 101]⟩ : ByteArray))
  unfold takeS at HC
  rw [show (⟨#[116, 114, 117, 101]⟩ : ByteArray).data.toList = [116, 114, 117, 101] from rfl, tk_of hc, hy, if_pos rfl] at HC
  clear HP
  go_wp2_with fail
  refine (unhide HC).mono ?_
  rintro e w1 ⟨rfl, hp, hk⟩
  have hb0n := hk.cell hb0 hgx hvo
  have hb2n := hk.cell hb2 hgx hvo
  clear hb0 hb2
  have hb0 := hb0n
  have hb2 := hb2n
  clear hb0n hb2n
  have HP := hide hp
  have HK2 := hide ((unhide HK).trans hk)
  clear HC hp hk HK
  have HK := HK2
  clear HK2
  have HC := hide (pput0 (unhide hTS) (unhide HP) (by repeat (first | exact unhide HF0 | apply Few.put | refine Few.same ?_ (need_ns _ _ _) | refine Few.same ?_ (com_ns _ _ _) | refine Few.same ?_ (name_ns _ _) | refine Few.same ?_ (adv_ns _) | refine Few.same ?_ (up_ns _) | refine Few.same ?_ (down_ns _ _))) 3 1 em)
  clear HP
  go_wp2_with fail
  refine (unhide HC).mono ?_
  rintro e w2 ⟨rfl, vp, hp, hk⟩
  have HP := hide hp
  have HK2 := hide ((unhide HK).trans hk)
  clear HC hp hk HK
  have HK := HK2
  clear HK2
  go_wp2
  go_ret
  exact ⟨rfl, _, unhide HP, unhide HK⟩

set_option maxHeartbeats 4000000 in
set_option maxRecDepth 100000 in
theorem pfirst_false {ts : List V3} (hTS : Hid (TS ts)) (n : Nat) {g : Nat} {lp : Option Addr} {lc : PX} {v : Value} {s : PS} {w : World} (h : PAt w g lp lc ts v s) (hf : Few s) (hd : s.dp ≤ 20) (hn : needN ts .first s ≤ n + 1) (hc : s.code = 0) (hk3 : ¬ (nextP ts s).k = 3) (hk4 : ¬ (nextP ts s).k = 4) (h0 : isP ts s [116, 114, 117, 101] = false) (hy : isP ts s [102, 97, 108, 115, 101] = true) :
    PZ 196 g lp lc ts v w (run ts (n + 1) .first s) := by
  unfold PZ
  rw [run]
  rw [if_neg (fun h => h hc), if_neg hk3, if_neg hk4, if_neg (nt h0), if_pos hy, oneP]
  have hat := h.hat
  have HP := hide h
  have HK := hide (PK.refl g v w)
  have HF0 := hide hf
  have HD0 := hide hd
  have HL0 := hide (PLe.refl s)
  clear h hf hd
  have HX := hide (fun v w (hp : PAt w g lp lc ts v s) => pnext (unhide hTS) hp)
  unfold tokA at HX
  have hsz : (nextP ts s).t.size ≤ 1048576 := next_size (unhide hTS)
  generalize nextP ts s = x at HX hsz hk3 hk4 ⊢
  obtain ⟨xk, xn, xt⟩ := x
  simp only at hsz hk3 hk4
  go_enter Tryd.func196, Tryd.ntmps196
  obtain ⟨c0, c1, c2, c3, c4, c5⟩ := (unhide HP).cells
  have hg := (unhide HP).lt
  rw [hc] at c4
  have HC := hide (unhide HX _ _ (unhide HP))
  clear HX
  go_wp2_with fail
  refine (unhide HC).mono ?_
  rintro e wx ⟨rfl, hb⟩
  have HPx := hide ((unhide HP).later hb)
  have HKx := hide ((unhide HK).then_below hb)
  clear HC hb HK HP c0 c1 c2 c3 c4 c5 hg
  have hg := (unhide HPx).lt
  have hgx : wx.heap.size ≠ g := by omega
  have hvo : v.ownBlock ≠ some wx.heap.size := fun e => by have := (unhide HPx).own _ e; omega
  have e3 : (xk == 3) = false := beq_eq_false_iff_ne.2 hk3
  have e4 : (xk == 4) = false := beq_eq_false_iff_ne.2 hk4
  have HP := hide ((unhide HPx).alloc (.cells #[.int .i64 xk, .int .i64 xn, .string xt] 169))
  have HK := hide ((unhide HKx).alloc (.cells #[.int .i64 xk, .int .i64 xn, .string xt] 169))
  have hb0 : (wx.alloc (.cells #[.int .i64 xk, .int .i64 xn, .string xt] 169)).cell? ⟨wx.heap.size, 0, none⟩ = some (.int .i64 xk) := by simp
  have hb2 : (wx.alloc (.cells #[.int .i64 xk, .int .i64 xn, .string xt] 169)).cell? ⟨wx.heap.size, 2, none⟩ = some (.string xt) := by simp
  clear HPx HKx
  have HC := hide (ptake (unhide hTS) (unhide HP) (⟨#[116, 114, 117, 101]⟩ : ByteArray))
  unfold takeS at HC
  rw [show (⟨#[116, 114, 117, 101]⟩ : ByteArray).data.toList = [116, 114, 117, 101] from rfl, tk_of hc, h0, if_neg (by simp)] at HC
  clear HP
  go_wp2_with fail
  refine (unhide HC).mono ?_
  rintro e w1 ⟨rfl, hp, hk⟩
  have hb0n := hk.cell hb0 hgx hvo
  have hb2n := hk.cell hb2 hgx hvo
  clear hb0 hb2
  have hb0 := hb0n
  have hb2 := hb2n
  clear hb0n hb2n
  have HP := hide hp
  have HK2 := hide ((unhide HK).trans hk)
  clear HC hp hk HK
  have HK := HK2
  clear HK2
  have HC := hide (ptake (unhide hTS) (unhide HP) (⟨#[102, 97, 108, 115, 101]⟩ : ByteArray))
  unfold takeS at HC
  rw [show (⟨#[102, 97, 108, 115, 101]⟩ : ByteArray).data.toList = [102, 97, 108, 115, 101] from rfl, tk_of hc, hy, if_pos rfl] at HC
  clear HP
  go_wp2_with fail
  refine (unhide HC).mono ?_
  rintro e w2 ⟨rfl, hp, hk⟩
  have hb0n := hk.cell hb0 hgx hvo
  have hb2n := hk.cell hb2 hgx hvo
  clear hb0 hb2
  have hb0 := hb0n
  have hb2 := hb2n
  clear hb0n hb2n
  have HP := hide hp
  have HK2 := hide ((unhide HK).trans hk)
  clear HC hp hk HK
  have HK := HK2
  clear HK2
  have HC := hide (pput0 (unhide hTS) (unhide HP) (by repeat (first | exact unhide HF0 | apply Few.put | refine Few.same ?_ (need_ns _ _ _) | refine Few.same ?_ (com_ns _ _ _) | refine Few.same ?_ (name_ns _ _) | refine Few.same ?_ (adv_ns _) | refine Few.same ?_ (up_ns _) | refine Few.same ?_ (down_ns _ _))) 3 0 em)
  clear HP
  go_wp2_with fail
  refine (unhide HC).mono ?_
  rintro e w3 ⟨rfl, vp, hp, hk⟩
  have HP := hide hp
  have HK2 := hide ((unhide HK).trans hk)
  clear HC hp hk HK
  have HK := HK2
  clear HK2
  go_wp2
  go_ret
  exact ⟨rfl, _, unhide HP, unhide HK⟩

set_option maxHeartbeats 4000000 in
set_option maxRecDepth 100000 in
theorem pfirst_null {ts : List V3} (hTS : Hid (TS ts)) (n : Nat) {g : Nat} {lp : Option Addr} {lc : PX} {v : Value} {s : PS} {w : World} (h : PAt w g lp lc ts v s) (hf : Few s) (hd : s.dp ≤ 20) (hn : needN ts .first s ≤ n + 1) (hc : s.code = 0) (hk3 : ¬ (nextP ts s).k = 3) (hk4 : ¬ (nextP ts s).k = 4) (h0 : isP ts s [116, 114, 117, 101] = false) (h1 : isP ts s [102, 97, 108, 115, 101] = false) (hy : isP ts s [110, 117, 108, 108] = true) :
    PZ 196 g lp lc ts v w (run ts (n + 1) .first s) := by
  unfold PZ
  rw [run]
  rw [if_neg (fun h => h hc), if_neg hk3, if_neg hk4, if_neg (nt h0), if_neg (nt h1), if_pos hy, oneP]
  have hat := h.hat
  have HP := hide h
  have HK := hide (PK.refl g v w)
  have HF0 := hide hf
  have HD0 := hide hd
  have HL0 := hide (PLe.refl s)
  clear h hf hd
  have HX := hide (fun v w (hp : PAt w g lp lc ts v s) => pnext (unhide hTS) hp)
  unfold tokA at HX
  have hsz : (nextP ts s).t.size ≤ 1048576 := next_size (unhide hTS)
  generalize nextP ts s = x at HX hsz hk3 hk4 ⊢
  obtain ⟨xk, xn, xt⟩ := x
  simp only at hsz hk3 hk4
  go_enter Tryd.func196, Tryd.ntmps196
  obtain ⟨c0, c1, c2, c3, c4, c5⟩ := (unhide HP).cells
  have hg := (unhide HP).lt
  rw [hc] at c4
  have HC := hide (unhide HX _ _ (unhide HP))
  clear HX
  go_wp2_with fail
  refine (unhide HC).mono ?_
  rintro e wx ⟨rfl, hb⟩
  have HPx := hide ((unhide HP).later hb)
  have HKx := hide ((unhide HK).then_below hb)
  clear HC hb HK HP c0 c1 c2 c3 c4 c5 hg
  have hg := (unhide HPx).lt
  have hgx : wx.heap.size ≠ g := by omega
  have hvo : v.ownBlock ≠ some wx.heap.size := fun e => by have := (unhide HPx).own _ e; omega
  have e3 : (xk == 3) = false := beq_eq_false_iff_ne.2 hk3
  have e4 : (xk == 4) = false := beq_eq_false_iff_ne.2 hk4
  have HP := hide ((unhide HPx).alloc (.cells #[.int .i64 xk, .int .i64 xn, .string xt] 169))
  have HK := hide ((unhide HKx).alloc (.cells #[.int .i64 xk, .int .i64 xn, .string xt] 169))
  have hb0 : (wx.alloc (.cells #[.int .i64 xk, .int .i64 xn, .string xt] 169)).cell? ⟨wx.heap.size, 0, none⟩ = some (.int .i64 xk) := by simp
  have hb2 : (wx.alloc (.cells #[.int .i64 xk, .int .i64 xn, .string xt] 169)).cell? ⟨wx.heap.size, 2, none⟩ = some (.string xt) := by simp
  clear HPx HKx
  have HC := hide (ptake (unhide hTS) (unhide HP) (⟨#[116, 114, 117, 101]⟩ : ByteArray))
  unfold takeS at HC
  rw [show (⟨#[116, 114, 117, 101]⟩ : ByteArray).data.toList = [116, 114, 117, 101] from rfl, tk_of hc, h0, if_neg (by simp)] at HC
  clear HP
  go_wp2_with fail
  refine (unhide HC).mono ?_
  rintro e w1 ⟨rfl, hp, hk⟩
  have hb0n := hk.cell hb0 hgx hvo
  have hb2n := hk.cell hb2 hgx hvo
  clear hb0 hb2
  have hb0 := hb0n
  have hb2 := hb2n
  clear hb0n hb2n
  have HP := hide hp
  have HK2 := hide ((unhide HK).trans hk)
  clear HC hp hk HK
  have HK := HK2
  clear HK2
  have HC := hide (ptake (unhide hTS) (unhide HP) (⟨#[102, 97, 108, 115, 101]⟩ : ByteArray))
  unfold takeS at HC
  rw [show (⟨#[102, 97, 108, 115, 101]⟩ : ByteArray).data.toList = [102, 97, 108, 115, 101] from rfl, tk_of hc, h1, if_neg (by simp)] at HC
  clear HP
  go_wp2_with fail
  refine (unhide HC).mono ?_
  rintro e w2 ⟨rfl, hp, hk⟩
  have hb0n := hk.cell hb0 hgx hvo
  have hb2n := hk.cell hb2 hgx hvo
  clear hb0 hb2
  have hb0 := hb0n
  have hb2 := hb2n
  clear hb0n hb2n
  have HP := hide hp
  have HK2 := hide ((unhide HK).trans hk)
  clear HC hp hk HK
  have HK := HK2
  clear HK2
  have HC := hide (ptake (unhide hTS) (unhide HP) (⟨#[110, 117, 108, 108]⟩ : ByteArray))
  unfold takeS at HC
  rw [show (⟨#[110, 117, 108, 108]⟩ : ByteArray).data.toList = [110, 117, 108, 108] from rfl, tk_of hc, hy, if_pos rfl] at HC
  clear HP
  go_wp2_with fail
  refine (unhide HC).mono ?_
  rintro e w3 ⟨rfl, hp, hk⟩
  have hb0n := hk.cell hb0 hgx hvo
  have hb2n := hk.cell hb2 hgx hvo
  clear hb0 hb2
  have hb0 := hb0n
  have hb2 := hb2n
  clear hb0n hb2n
  have HP := hide hp
  have HK2 := hide ((unhide HK).trans hk)
  clear HC hp hk HK
  have HK := HK2
  clear HK2
  have HC := hide (pput0 (unhide hTS) (unhide HP) (by repeat (first | exact unhide HF0 | apply Few.put | refine Few.same ?_ (need_ns _ _ _) | refine Few.same ?_ (com_ns _ _ _) | refine Few.same ?_ (name_ns _ _) | refine Few.same ?_ (adv_ns _) | refine Few.same ?_ (up_ns _) | refine Few.same ?_ (down_ns _ _))) 4 0 em)
  clear HP
  go_wp2_with fail
  refine (unhide HC).mono ?_
  rintro e w4 ⟨rfl, vp, hp, hk⟩
  have HP := hide hp
  have HK2 := hide ((unhide HK).trans hk)
  clear HC hp hk HK
  have HK := HK2
  clear HK2
  go_wp2
  go_ret
  exact ⟨rfl, _, unhide HP, unhide HK⟩

set_option maxHeartbeats 4000000 in
set_option maxRecDepth 100000 in
theorem pfirst_paren {ts : List V3} (hTS : Hid (TS ts)) (n : Nat) (ihE : Hid (∀ k, k ≤ n → PQ ts k .expr 168)) {g : Nat} {lp : Option Addr} {lc : PX} {v : Value} {s : PS} {w : World} (h : PAt w g lp lc ts v s) (hf : Few s) (hd : s.dp ≤ 20) (hn : needN ts .first s ≤ n + 1) (hc : s.code = 0) (hk3 : ¬ (nextP ts s).k = 3) (hk4 : ¬ (nextP ts s).k = 4) (h0 : isP ts s [116, 114, 117, 101] = false) (h1 : isP ts s [102, 97, 108, 115, 101] = false) (h2 : isP ts s [110, 117, 108, 108] = false) (hy : isP ts s [40] = true) :
    PZ 196 g lp lc ts v w (run ts (n + 1) .first s) := by
  unfold PZ
  rw [run]
  rw [if_neg (fun h => h hc), if_neg hk3, if_neg hk4, if_neg (nt h0), if_neg (nt h1), if_neg (nt h2), if_pos hy, retP]
  have hat := h.hat
  have HP := hide h
  have HK := hide (PK.refl g v w)
  have HF0 := hide hf
  have HD0 := hide hd
  have HL0 := hide (PLe.refl s)
  clear h hf hd
  have HX := hide (fun v w (hp : PAt w g lp lc ts v s) => pnext (unhide hTS) hp)
  unfold tokA at HX
  have hsz : (nextP ts s).t.size ≤ 1048576 := next_size (unhide hTS)
  have HC1 := hide (fun v w (hp : PAt w g lp lc ts v (advP s)) => unhide ihE n (by omega) g lp lc v (advP s) w hp ((unhide HF0).same (adv_ns _)) (by rw [adv_dp]; exact unhide HD0) (need_on hn hat (PLe.refl s).adv (PLt.adv (PLe.refl s)) hc))
  generalize run ts n .expr (advP s) = o1 at HC1 ⊢
  generalize nextP ts s = x at HX hsz hk3 hk4 ⊢
  obtain ⟨xk, xn, xt⟩ := x
  simp only at hsz hk3 hk4
  go_enter Tryd.func196, Tryd.ntmps196
  obtain ⟨c0, c1, c2, c3, c4, c5⟩ := (unhide HP).cells
  have hg := (unhide HP).lt
  rw [hc] at c4
  have HC := hide (unhide HX _ _ (unhide HP))
  clear HX
  go_wp2_with fail
  refine (unhide HC).mono ?_
  rintro e wx ⟨rfl, hb⟩
  have HPx := hide ((unhide HP).later hb)
  have HKx := hide ((unhide HK).then_below hb)
  clear HC hb HK HP c0 c1 c2 c3 c4 c5 hg
  have hg := (unhide HPx).lt
  have hgx : wx.heap.size ≠ g := by omega
  have hvo : v.ownBlock ≠ some wx.heap.size := fun e => by have := (unhide HPx).own _ e; omega
  have e3 : (xk == 3) = false := beq_eq_false_iff_ne.2 hk3
  have e4 : (xk == 4) = false := beq_eq_false_iff_ne.2 hk4
  have HP := hide ((unhide HPx).alloc (.cells #[.int .i64 xk, .int .i64 xn, .string xt] 169))
  have HK := hide ((unhide HKx).alloc (.cells #[.int .i64 xk, .int .i64 xn, .string xt] 169))
  have hb0 : (wx.alloc (.cells #[.int .i64 xk, .int .i64 xn, .string xt] 169)).cell? ⟨wx.heap.size, 0, none⟩ = some (.int .i64 xk) := by simp
  have hb2 : (wx.alloc (.cells #[.int .i64 xk, .int .i64 xn, .string xt] 169)).cell? ⟨wx.heap.size, 2, none⟩ = some (.string xt) := by simp
  clear HPx HKx
  have HC := hide (ptake (unhide hTS) (unhide HP) (⟨#[116, 114, 117, 101]⟩ : ByteArray))
  unfold takeS at HC
  rw [show (⟨#[116, 114, 117, 101]⟩ : ByteArray).data.toList = [116, 114, 117, 101] from rfl, tk_of hc, h0, if_neg (by simp)] at HC
  clear HP
  go_wp2_with fail
  refine (unhide HC).mono ?_
  rintro e w1 ⟨rfl, hp, hk⟩
  have hb0n := hk.cell hb0 hgx hvo
  have hb2n := hk.cell hb2 hgx hvo
  clear hb0 hb2
  have hb0 := hb0n
  have hb2 := hb2n
  clear hb0n hb2n
  have HP := hide hp
  have HK2 := hide ((unhide HK).trans hk)
  clear HC hp hk HK
  have HK := HK2
  clear HK2
  have HC := hide (ptake (unhide hTS) (unhide HP) (⟨#[102, 97, 108, 115, 101]⟩ : ByteArray))
  unfold takeS at HC
  rw [show (⟨#[102, 97, 108, 115, 101]⟩ : ByteArray).data.toList = [102, 97, 108, 115, 101] from rfl, tk_of hc, h1, if_neg (by simp)] at HC
  clear HP
  go_wp2_with fail
  refine (unhide HC).mono ?_
  rintro e w2 ⟨rfl, hp, hk⟩
  have hb0n := hk.cell hb0 hgx hvo
  have hb2n := hk.cell hb2 hgx hvo
  clear hb0 hb2
  have hb0 := hb0n
  have hb2 := hb2n
  clear hb0n hb2n
  have HP := hide hp
  have HK2 := hide ((unhide HK).trans hk)
  clear HC hp hk HK
  have HK := HK2
  clear HK2
  have HC := hide (ptake (unhide hTS) (unhide HP) (⟨#[110, 117, 108, 108]⟩ : ByteArray))
  unfold takeS at HC
  rw [show (⟨#[110, 117, 108, 108]⟩ : ByteArray).data.toList = [110, 117, 108, 108] from rfl, tk_of hc, h2, if_neg (by simp)] at HC
  clear HP
  go_wp2_with fail
  refine (unhide HC).mono ?_
  rintro e w3 ⟨rfl, hp, hk⟩
  have hb0n := hk.cell hb0 hgx hvo
  have hb2n := hk.cell hb2 hgx hvo
  clear hb0 hb2
  have hb0 := hb0n
  have hb2 := hb2n
  clear hb0n hb2n
  have HP := hide hp
  have HK2 := hide ((unhide HK).trans hk)
  clear HC hp hk HK
  have HK := HK2
  clear HK2
  have HC := hide (ptake (unhide hTS) (unhide HP) (⟨#[40]⟩ : ByteArray))
  unfold takeS at HC
  rw [show (⟨#[40]⟩ : ByteArray).data.toList = [40] from rfl, tk_of hc, hy, if_pos rfl] at HC
  clear HP
  go_wp2_with fail
  refine (unhide HC).mono ?_
  rintro e w4 ⟨rfl, hp, hk⟩
  have hb0n := hk.cell hb0 hgx hvo
  have hb2n := hk.cell hb2 hgx hvo
  clear hb0 hb2
  have hb0 := hb0n
  have hb2 := hb2n
  clear hb0n hb2n
  have HP := hide hp
  have HK2 := hide ((unhide HK).trans hk)
  clear HC hp hk HK
  have HK := HK2
  clear HK2
  have HC := hide (unhide HC1 _ _ (unhide HP))
  clear HP HC1
  go_wp2_with fail
  refine (unhide HC).mono ?_
  rintro e w9 ⟨rfl, v9, hp, hk⟩
  have HP := hide hp
  have HK2 := hide ((unhide HK).trans hk)
  clear HC hp hk HK
  have HK := HK2
  clear HK2
  have HC := hide (pneed (unhide hTS) (unhide HP) (⟨#[41]⟩ : ByteArray))
  rw [show (⟨#[41]⟩ : ByteArray).data.toList = [41] from rfl] at HC
  clear HP
  go_wp2_with fail
  refine (unhide HC).mono ?_
  rintro e w10 ⟨rfl, hp, hk⟩
  have HP := hide hp
  have HK2 := hide ((unhide HK).trans hk)
  clear HC hp hk HK
  have HK := HK2
  clear HK2
  go_wp2
  go_ret
  exact ⟨rfl, _, unhide HP, unhide HK⟩

set_option maxHeartbeats 4000000 in
set_option maxRecDepth 100000 in
theorem pfirst_name {ts : List V3} (hTS : Hid (TS ts)) (n : Nat) {g : Nat} {lp : Option Addr} {lc : PX} {v : Value} {s : PS} {w : World} (h : PAt w g lp lc ts v s) (hf : Few s) (hd : s.dp ≤ 20) (hn : needN ts .first s ≤ n + 1) (hc : s.code = 0) (hk1 : (nextP ts s).k = 1) (h0 : isP ts s [116, 114, 117, 101] = false) (h1 : isP ts s [102, 97, 108, 115, 101] = false) (h2 : isP ts s [110, 117, 108, 108] = false) (h3 : isP ts s [40] = false) (hy : tkP ts (advP s) [40] = false) :
    PZ 196 g lp lc ts v w (run ts (n + 1) .first s) := by
  unfold PZ
  rw [run]
  rw [if_neg (fun h => h hc), if_neg (fun h => by rw [hk1] at h; exact absurd h (by decide)), if_neg (fun h => by rw [hk1] at h; exact absurd h (by decide)), if_neg (nt h0), if_neg (nt h1), if_neg (nt h2), if_neg (nt h3), if_pos hk1, if_neg (nt hy), oneP]
  have hat := h.hat
  have HP := hide h
  have HK := hide (PK.refl g v w)
  have HF0 := hide hf
  have HD0 := hide hd
  have HL0 := hide (PLe.refl s)
  clear h hf hd
  have HX := hide (fun v w (hp : PAt w g lp lc ts v s) => pnext (unhide hTS) hp)
  unfold tokA at HX
  have hsz : (nextP ts s).t.size ≤ 1048576 := next_size (unhide hTS)
  have hlt := next_lt (ts := ts) (s := s) (by rw [hk1]; decide)
  generalize nextP ts s = x at HX hsz hk1 ⊢
  obtain ⟨xk, xn, xt⟩ := x
  simp only at hsz hk1
  go_enter Tryd.func196, Tryd.ntmps196
  obtain ⟨c0, c1, c2, c3, c4, c5⟩ := (unhide HP).cells
  have hg := (unhide HP).lt
  rw [hc] at c4
  have HC := hide (unhide HX _ _ (unhide HP))
  clear HX
  go_wp2_with fail
  refine (unhide HC).mono ?_
  rintro e wx ⟨rfl, hb⟩
  have HPx := hide ((unhide HP).later hb)
  have HKx := hide ((unhide HK).then_below hb)
  clear HC hb HK HP c0 c1 c2 c3 c4 c5 hg
  have hg := (unhide HPx).lt
  have hgx : wx.heap.size ≠ g := by omega
  have hvo : v.ownBlock ≠ some wx.heap.size := fun e => by have := (unhide HPx).own _ e; omega
  subst hk1
  have HP := hide ((unhide HPx).alloc (.cells #[.int .i64 1, .int .i64 xn, .string xt] 169))
  have HK := hide ((unhide HKx).alloc (.cells #[.int .i64 1, .int .i64 xn, .string xt] 169))
  have hb0 : (wx.alloc (.cells #[.int .i64 1, .int .i64 xn, .string xt] 169)).cell? ⟨wx.heap.size, 0, none⟩ = some (.int .i64 1) := by simp
  have hb2 : (wx.alloc (.cells #[.int .i64 1, .int .i64 xn, .string xt] 169)).cell? ⟨wx.heap.size, 2, none⟩ = some (.string xt) := by simp
  clear HPx HKx
  have HC := hide (ptake (unhide hTS) (unhide HP) (⟨#[116, 114, 117, 101]⟩ : ByteArray))
  unfold takeS at HC
  rw [show (⟨#[116, 114, 117, 101]⟩ : ByteArray).data.toList = [116, 114, 117, 101] from rfl, tk_of hc, h0, if_neg (by simp)] at HC
  clear HP
  go_wp2_with fail
  refine (unhide HC).mono ?_
  rintro e w1 ⟨rfl, hp, hk⟩
  have hb0n := hk.cell hb0 hgx hvo
  have hb2n := hk.cell hb2 hgx hvo
  clear hb0 hb2
  have hb0 := hb0n
  have hb2 := hb2n
  clear hb0n hb2n
  have HP := hide hp
  have HK2 := hide ((unhide HK).trans hk)
  clear HC hp hk HK
  have HK := HK2
  clear HK2
  have HC := hide (ptake (unhide hTS) (unhide HP) (⟨#[102, 97, 108, 115, 101]⟩ : ByteArray))
  unfold takeS at HC
  rw [show (⟨#[102, 97, 108, 115, 101]⟩ : ByteArray).data.toList = [102, 97, 108, 115, 101] from rfl, tk_of hc, h1, if_neg (by simp)] at HC
  clear HP
  go_wp2_with fail
  refine (unhide HC).mono ?_
  rintro e w2 ⟨rfl, hp, hk⟩
  have hb0n := hk.cell hb0 hgx hvo
  have hb2n := hk.cell hb2 hgx hvo
  clear hb0 hb2
  have hb0 := hb0n
  have hb2 := hb2n
  clear hb0n hb2n
  have HP := hide hp
  have HK2 := hide ((unhide HK).trans hk)
  clear HC hp hk HK
  have HK := HK2
  clear HK2
  have HC := hide (ptake (unhide hTS) (unhide HP) (⟨#[110, 117, 108, 108]⟩ : ByteArray))
  unfold takeS at HC
  rw [show (⟨#[110, 117, 108, 108]⟩ : ByteArray).data.toList = [110, 117, 108, 108] from rfl, tk_of hc, h2, if_neg (by simp)] at HC
  clear HP
  go_wp2_with fail
  refine (unhide HC).mono ?_
  rintro e w3 ⟨rfl, hp, hk⟩
  have hb0n := hk.cell hb0 hgx hvo
  have hb2n := hk.cell hb2 hgx hvo
  clear hb0 hb2
  have hb0 := hb0n
  have hb2 := hb2n
  clear hb0n hb2n
  have HP := hide hp
  have HK2 := hide ((unhide HK).trans hk)
  clear HC hp hk HK
  have HK := HK2
  clear HK2
  have HC := hide (ptake (unhide hTS) (unhide HP) (⟨#[40]⟩ : ByteArray))
  unfold takeS at HC
  rw [show (⟨#[40]⟩ : ByteArray).data.toList = [40] from rfl, tk_of hc, h3, if_neg (by simp)] at HC
  clear HP
  go_wp2_with fail
  refine (unhide HC).mono ?_
  rintro e w4 ⟨rfl, hp, hk⟩
  have hb0n := hk.cell hb0 hgx hvo
  have hb2n := hk.cell hb2 hgx hvo
  clear hb0 hb2
  have hb0 := hb0n
  have hb2 := hb2n
  clear hb0n hb2n
  have HP := hide hp
  have HK2 := hide ((unhide HK).trans hk)
  clear HC hp hk HK
  have HK := HK2
  clear HK2
  obtain ⟨c0, c1, c2, c3, c4, c5⟩ := (unhide HP).cells
  have z1 := (unhide HP).free 1
  have hf3 := (unhide hTS).few
  have hg := (unhide HP).lt
  have HP2 := hide ((unhide HP).adv hlt)
  have HK2 := hide ((unhide HK).set (o := 1) (x := .int .i64 ((s.at' : Int) + 1)))
  clear HP HK
  have HK := HK2
  have HP := HP2
  clear HK2 HP2 c0 c2 c3 c4 c5
  have hb0n : (w4.setCell ⟨g, 1, none⟩ (.int .i64 ((s.at' : Int) + 1))).cell? ⟨wx.heap.size, 0, none⟩ = some (.int .i64 1) := by rw [World.cell?_setCell_other _ _ _ _ (by simp)]; exact hb0
  have hb2n : (w4.setCell ⟨g, 1, none⟩ (.int .i64 ((s.at' : Int) + 1))).cell? ⟨wx.heap.size, 2, none⟩ = some (.string xt) := by rw [World.cell?_setCell_other _ _ _ _ (by simp)]; exact hb2
  have HC := hide (ptake (unhide hTS) (unhide HP) (⟨#[40]⟩ : ByteArray))
  unfold takeS at HC
  rw [show (⟨#[40]⟩ : ByteArray).data.toList = [40] from rfl, hy, if_neg (by simp)] at HC
  clear HP
  go_wp2_with fail
  refine (unhide HC).mono ?_
  rintro e w5 ⟨rfl, hp, hk⟩
  have hb2m := hk.cell hb2n hgx hvo
  have HP := hide hp
  have HK2 := hide ((unhide HK).trans hk)
  clear HC hp hk HK hb0 hb2 hb0n hb2n
  have HK := HK2
  clear HK2
  have HC := hide (pput0 (unhide hTS) (unhide HP) (by repeat (first | exact unhide HF0 | apply Few.put | refine Few.same ?_ (need_ns _ _ _) | refine Few.same ?_ (com_ns _ _ _) | refine Few.same ?_ (name_ns _ _) | refine Few.same ?_ (adv_ns _) | refine Few.same ?_ (up_ns _) | refine Few.same ?_ (down_ns _ _))) 5 0 xt)
  clear HP
  go_wp2_with fail
  refine (unhide HC).mono ?_
  rintro e w6 ⟨rfl, vp, hp, hk⟩
  have HP := hide hp
  have HK2 := hide ((unhide HK).trans hk)
  clear HC hp hk HK
  have HK := HK2
  clear HK2
  go_wp2
  go_ret
  exact ⟨rfl, _, unhide HP, unhide HK⟩

set_option maxHeartbeats 4000000 in
set_option maxRecDepth 100000 in
theorem pfirst_none {ts : List V3} (hTS : Hid (TS ts)) (n : Nat) {g : Nat} {lp : Option Addr} {lc : PX} {v : Value} {s : PS} {w : World} (h : PAt w g lp lc ts v s) (hf : Few s) (hd : s.dp ≤ 20) (hn : needN ts .first s ≤ n + 1) (hc : s.code = 0) (hk3 : ¬ (nextP ts s).k = 3) (hk4 : ¬ (nextP ts s).k = 4) (h0 : isP ts s [116, 114, 117, 101] = false) (h1 : isP ts s [102, 97, 108, 115, 101] = false) (h2 : isP ts s [110, 117, 108, 108] = false) (h3 : isP ts s [40] = false) (hk1 : ¬ (nextP ts s).k = 1) :
    PZ 196 g lp lc ts v w (run ts (n + 1) .first s) := by
  unfold PZ
  rw [run]
  rw [if_neg (fun h => h hc), if_neg hk3, if_neg hk4, if_neg (nt h0), if_neg (nt h1), if_neg (nt h2), if_neg (nt h3), if_neg hk1, retP]
  have hat := h.hat
  have HP := hide h
  have HK := hide (PK.refl g v w)
  have HF0 := hide hf
  have HD0 := hide hd
  have HL0 := hide (PLe.refl s)
  clear h hf hd
  have HX := hide (fun v w (hp : PAt w g lp lc ts v s) => pnext (unhide hTS) hp)
  unfold tokA at HX
  have hsz : (nextP ts s).t.size ≤ 1048576 := next_size (unhide hTS)
  have HFS := hide (fun w (hp : PAt w g lp lc ts v s) => pfail (unhide hTS) hp 3)
  generalize nextP ts s = x at HX hsz hk3 hk4 hk1 ⊢
  obtain ⟨xk, xn, xt⟩ := x
  simp only at hsz hk3 hk4 hk1
  go_enter Tryd.func196, Tryd.ntmps196
  obtain ⟨c0, c1, c2, c3, c4, c5⟩ := (unhide HP).cells
  have hg := (unhide HP).lt
  rw [hc] at c4
  have HC := hide (unhide HX _ _ (unhide HP))
  clear HX
  go_wp2_with fail
  refine (unhide HC).mono ?_
  rintro e wx ⟨rfl, hb⟩
  have HPx := hide ((unhide HP).later hb)
  have HKx := hide ((unhide HK).then_below hb)
  clear HC hb HK HP c0 c1 c2 c3 c4 c5 hg
  have hg := (unhide HPx).lt
  have hgx : wx.heap.size ≠ g := by omega
  have hvo : v.ownBlock ≠ some wx.heap.size := fun e => by have := (unhide HPx).own _ e; omega
  have e3 : (xk == 3) = false := beq_eq_false_iff_ne.2 hk3
  have e4 : (xk == 4) = false := beq_eq_false_iff_ne.2 hk4
  have e1 : (xk == 1) = false := beq_eq_false_iff_ne.2 hk1
  have HP := hide ((unhide HPx).alloc (.cells #[.int .i64 xk, .int .i64 xn, .string xt] 169))
  have HK := hide ((unhide HKx).alloc (.cells #[.int .i64 xk, .int .i64 xn, .string xt] 169))
  have hb0 : (wx.alloc (.cells #[.int .i64 xk, .int .i64 xn, .string xt] 169)).cell? ⟨wx.heap.size, 0, none⟩ = some (.int .i64 xk) := by simp
  have hb2 : (wx.alloc (.cells #[.int .i64 xk, .int .i64 xn, .string xt] 169)).cell? ⟨wx.heap.size, 2, none⟩ = some (.string xt) := by simp
  clear HPx HKx
  have HC := hide (ptake (unhide hTS) (unhide HP) (⟨#[116, 114, 117, 101]⟩ : ByteArray))
  unfold takeS at HC
  rw [show (⟨#[116, 114, 117, 101]⟩ : ByteArray).data.toList = [116, 114, 117, 101] from rfl, tk_of hc, h0, if_neg (by simp)] at HC
  clear HP
  go_wp2_with fail
  refine (unhide HC).mono ?_
  rintro e w1 ⟨rfl, hp, hk⟩
  have hb0n := hk.cell hb0 hgx hvo
  have hb2n := hk.cell hb2 hgx hvo
  clear hb0 hb2
  have hb0 := hb0n
  have hb2 := hb2n
  clear hb0n hb2n
  have HP := hide hp
  have HK2 := hide ((unhide HK).trans hk)
  clear HC hp hk HK
  have HK := HK2
  clear HK2
  have HC := hide (ptake (unhide hTS) (unhide HP) (⟨#[102, 97, 108, 115, 101]⟩ : ByteArray))
  unfold takeS at HC
  rw [show (⟨#[102, 97, 108, 115, 101]⟩ : ByteArray).data.toList = [102, 97, 108, 115, 101] from rfl, tk_of hc, h1, if_neg (by simp)] at HC
  clear HP
  go_wp2_with fail
  refine (unhide HC).mono ?_
  rintro e w2 ⟨rfl, hp, hk⟩
  have hb0n := hk.cell hb0 hgx hvo
  have hb2n := hk.cell hb2 hgx hvo
  clear hb0 hb2
  have hb0 := hb0n
  have hb2 := hb2n
  clear hb0n hb2n
  have HP := hide hp
  have HK2 := hide ((unhide HK).trans hk)
  clear HC hp hk HK
  have HK := HK2
  clear HK2
  have HC := hide (ptake (unhide hTS) (unhide HP) (⟨#[110, 117, 108, 108]⟩ : ByteArray))
  unfold takeS at HC
  rw [show (⟨#[110, 117, 108, 108]⟩ : ByteArray).data.toList = [110, 117, 108, 108] from rfl, tk_of hc, h2, if_neg (by simp)] at HC
  clear HP
  go_wp2_with fail
  refine (unhide HC).mono ?_
  rintro e w3 ⟨rfl, hp, hk⟩
  have hb0n := hk.cell hb0 hgx hvo
  have hb2n := hk.cell hb2 hgx hvo
  clear hb0 hb2
  have hb0 := hb0n
  have hb2 := hb2n
  clear hb0n hb2n
  have HP := hide hp
  have HK2 := hide ((unhide HK).trans hk)
  clear HC hp hk HK
  have HK := HK2
  clear HK2
  have HC := hide (ptake (unhide hTS) (unhide HP) (⟨#[40]⟩ : ByteArray))
  unfold takeS at HC
  rw [show (⟨#[40]⟩ : ByteArray).data.toList = [40] from rfl, tk_of hc, h3, if_neg (by simp)] at HC
  clear HP
  go_wp2_with fail
  refine (unhide HC).mono ?_
  rintro e w4 ⟨rfl, hp, hk⟩
  have hb0n := hk.cell hb0 hgx hvo
  have hb2n := hk.cell hb2 hgx hvo
  clear hb0 hb2
  have hb0 := hb0n
  have hb2 := hb2n
  clear hb0n hb2n
  have HP := hide hp
  have HK2 := hide ((unhide HK).trans hk)
  clear HC hp hk HK
  have HK := HK2
  clear HK2
  have HC := hide (unhide HFS _ (unhide HP))
  clear HP HFS
  go_wp2_with fail
  refine (unhide HC).mono ?_
  rintro e w9 ⟨rfl, hp, hk⟩
  have HP := hide hp
  have HK2 := hide ((unhide HK).trans hk)
  clear HC hp hk HK
  have HK := HK2
  clear HK2
  go_wp2
  go_ret
  exact ⟨rfl, _, unhide HP, unhide HK⟩

end Go.Proofs.YtbipgmikgokfpaaDoor

/- PWalk4 -/
namespace Go.Proofs.YtbipgmikgokfpaaDoor
open Go.RowKit Go.Joins
set_option linter.unusedVariables false

theorem wp_appIAt (w : World) {ops : Array Oper} {rest : List Oper} {o : Oper} {a : Act} {Q : Exit → Act → World → Prop} (hgd : o.guard = none) (s x : Operand)
    (ho : o.op = .call { callee := .builtin .append, args := #[s, x], argTypes := #[30, 30] }) (base g : Nat) (v : Value) (zs : List Int) (c : Int) (hs : a.eval s = v)
    (hown : IntBuf w base v zs) (hx : a.eval x = .slice (some ⟨g, 0, none⟩) 1 1) (hc0 : w.cell? ⟨g, 0, none⟩ = some (.int .i64 c)) (hbase : base ≤ w.heap.size) (hl : zs.length ≤ 1000000000)
    (h : ∀ v' w', IntBuf w' base v' (zs ++ [c]) → GrowB v v' w w' → wpList Tryd.prog ops Q rest (a.put o.dst v') w') : wpList Tryd.prog ops Q (o :: rest) a w := by
  obtain ⟨i0, hi, hz0, hz1, hz2⟩ := info_parts infoInt
  have hnews : ∀ j u, [Value.int .i64 c][j]? = some u → w.cell? ((⟨g, 0, none⟩ : Addr).add j) = some u := by
    intro j u' hj
    match j, hj with
    | 0, hj => simp at hj; subst hj; simpa [Addr.add] using hc0
    | j + 1, hj => simp at hj
  have h1 : ∀ u ∈ [Value.int .i64 c], u.oneCell' = true := by
    intro u' hu'
    simp at hu'
    subst hu'
    rfl
  obtain ⟨v', w', hr, h2, h3, h4⟩ := run_append_own (P := Tryd.prog) w base 30 o.type 3 i0 (.int .i64 0) 1 8 Tryd.underlying30 hi hz0 hz1 hz2 rfl (by decide) v zs.length (zs.map (Value.int .i64)) hown ⟨g, 0, none⟩ 1 1 [.int .i64 c] rfl hnews h1 (by unfold maxLen; omega) (by omega) hbase
  have hwh := append_where (P := Tryd.prog) w base 30 o.type 3 i0 (.int .i64 0) 1 8 Tryd.underlying30 hi hz0 hz1 hz2 v zs.length (zs.map (Value.int .i64)) hown ⟨g, 0, none⟩ 1 1 (by omega) [.int .i64 c] rfl hnews h1 (by unfold maxLen; omega) (by omega) v' w' hr
  refine wpList_plain hgd fun _ hK => ?_
  unfold Oper.wp execOp
  simp only [ho, resolve, invoke, builtin, Sem.run_bind, Sem.run_pure, Result.andThen_ok, List.map_toArray, List.map_cons, List.map_nil, hs, hx, hr]
  rw [show zs.map (Value.int .i64) ++ [.int .i64 c] = (zs ++ [c]).map (Value.int .i64) by simp, show zs.length + 1 = (zs ++ [c]).length by simp] at h2
  refine hK _ _ (h v' w' h2 ⟨h3, fun j hj => ?_⟩)
  rcases hwh with e | e
  · exact .inl (e ▸ hj)
  · rw [e] at hj
    exact .inr (by have := Option.some.inj hj; omega)

/-- a row of one's own beside the parser -/
theorem PAt.fence {w : World} {g : Nat} {lp : Option Addr} {lc : PX} {ts : List V3} {v : Value} {s : PS} (h : PAt w g lp lc ts v s) (o : Obj) (n c : Nat) : PAt (w.alloc o) g lp (lc.on (.slice (some ⟨w.heap.size, 0, none⟩) n c)) ts v s := by
  have hg := h.lt
  refine h.move rfl rfl (by simp) (fun b hb _ => Below.heap_alloc _ _ _ hb) (fun b hb he => ?_) (fun j hj => ?_)
  · rcases he with he | he
    · exact he
    · have : w.heap.size = b := Option.some.inj he
      omega
  · rcases hj with hj | hj
    · have := h.ex j hj; exact ⟨this.1, by simp; omega⟩
    · have : w.heap.size = j := Option.some.inj hj
      exact ⟨by omega, by simp; omega⟩
/-- .. has grown -/
theorem PAt.app {w w' : World} {g : Nat} {lp : Option Addr} {lc : PX} {ts : List V3} {v kv kv' : Value} {s : PS} (h : PAt w g lp (lc.on kv) ts v s) (hg : GrowB kv kv' w w') (hk' : ∀ j, kv'.ownBlock = some j → g < j ∧ j < w'.heap.size) : PAt w' g lp (lc.on kv') ts v s := by
  have hgl := h.lt
  refine h.move rfl rfl hg.grown.size (fun b hb he => hg.block hb (fun j hj e => he (.inr (by rw [← e]; exact hj)))) (fun b hb he => ?_) (fun j hj => ?_)
  · rcases he with he | he
    · exact .inl he
    · rcases hg.lies b he with e | e
      · exact .inr e
      · omega
  · rcases hj with hj | hj
    · have h1 := h.ex j (.inl hj); have h2 := hg.grown.size; exact ⟨h1.1, by omega⟩
    · exact hk' j hj
/-- .. is the parser's own again -/
theorem PAt.drop {w : World} {g : Nat} {lp : Option Addr} {lc : PX} {ts : List V3} {v kv : Value} {s : PS} (h : PAt w g lp (lc.on kv) ts v s) : PAt w g lp lc ts v s := by
  exact h.move rfl rfl (Nat.le_refl _) (fun _ _ _ => rfl) (fun b _ he => .inl he) (fun j hj => h.ex j (.inl hj))
/-- a row of numbers stays where the parser goes on -/
theorem IntBuf.byPK {w w' : World} {g : Nat} {lp : Option Addr} {lc : PX} {ts : List V3} {v v' kv : Value} {s : PS} {zs : List Int} (h : IntBuf w (g + 1) kv zs) (hp : PAt w g lp (lc.on kv) ts v s) (hk : PK g v v' w w') : IntBuf w' (g + 1) kv zs := ownsRow_same h fun j hj => by
  have := h.own_lt j hj
  exact hk.block j this.2 (by omega) (fun e => hp.off j e (.inr hj))
theorem StrBuf.byPK {w w' : World} {g : Nat} {lp : Option Addr} {lc : PX} {ts : List V3} {v v' kv : Value} {s : PS} {zs : List ByteArray} (h : StrBuf w (g + 1) kv zs) (hp : PAt w g lp (lc.on kv) ts v s) (hk : PK g v v' w w') : StrBuf w' (g + 1) kv zs := ownsRow_same h fun j hj => by
  have := h.own_lt j hj
  exact hk.block j this.2 (by omega) (fun e => hp.off j e (.inr hj))
theorem IntBuf.gt {w : World} {g : Nat} {kv : Value} {zs : List Int} (h : IntBuf w (g + 1) kv zs) : ∀ j, kv.ownBlock = some j → g < j := fun j hj => (h.own_lt j hj).1
theorem StrBuf.gt {w : World} {g : Nat} {kv : Value} {zs : List ByteArray} (h : StrBuf w (g + 1) kv zs) : ∀ j, kv.ownBlock = some j → g < j := fun j hj => (h.own_lt j hj).1
/-- how the whole stays: but the parser's, its row's, and what was new since -/
theorem PK.row {g : Nat} {v v' kv kv' : Value} {w0 w w' : World} (h : PK g v v' w0 w) (hg : GrowB kv kv' w w') (hn : ∀ j, kv.ownBlock = some j → w0.heap.size ≤ j) : PK g v v' w0 w' :=
  ⟨hg.grown.os.trans h.os, hg.grown.tape.trans h.tape, hg.grown.output.trans h.output, Nat.le_trans h.size hg.grown.size, fun k hk h1 h2 => (hg.block (by have := h.size; omega) (fun j hj e => by have := hn j hj; omega)).trans (h.block k hk h1 h2), h.own⟩

end Go.Proofs.YtbipgmikgokfpaaDoor

/- PBlock -/
namespace Go.Proofs.YtbipgmikgokfpaaDoor
open Go.RowKit Go.Joins
set_option linter.unusedVariables false

/-- no more kids than tokens were taken -/
def KL (ks : List Int) (s : PS) : Prop := ks.length ≤ s.at' + 1 ∧ (s.code = 0 → ks.length ≤ s.at')
theorem KL.nil (s : PS) : KL [] s := ⟨by simp, fun _ => by simp⟩
theorem KL.step {ks : List Int} {r : Int} {s s' : PS} (h : KL ks s) (hc : s.code = 0) (hle : PLe s s') (hlt : PLt s s') : KL (ks ++ [r]) s' := by
  have h1 := h.2 hc
  have h2 := hle.at'
  refine ⟨by simp; omega, fun e => ?_⟩
  have := hlt e
  simp; omega

set_option maxHeartbeats 4000000 in
set_option maxRecDepth 100000 in
theorem pblock_step {ts : List V3} (hTS : Hid (TS ts)) (n : Nat) (ih : Hid (∀ k, k ≤ n → PQ ts k .stmt 108)) : PQ ts (n + 1) .block 140 := by
  intro g lp lc v s w h hf hd hn
  have hat := h.hat
  have HC := hide (pneed (unhide hTS) h ⟨#[123]⟩)
  rw [show (⟨#[123]⟩ : ByteArray).data.toList = [123] from rfl] at HC
  rw [run, oneP]
  have HF1 : Hid (Few (needP ts [123] s)) := hide (hf.same (need_ns _ _ _))
  have HD1 : Hid ((needP ts [123] s).dp ≤ 20) := hide (by rw [need_dp]; exact hd)
  have HN1 : Hid (needN ts (.blockL []) (needP ts [123] s) ≤ n) := hide (need_run (f' := .blockL []) hn hat (PLe.refl s).need (fun _ c => .inr (PLt.need (PLe.refl s) c)) (fun _ => (show (1 : Nat) < 2 by decide)))
  generalize needP ts [123] s = s1 at HC HF1 HD1 HN1 ⊢
  generalize ho : run ts n (.blockL []) s1 = o
  have HO := hide ho
  have hf3 := (unhide hTS).few
  clear h hf hn ho
  go_enter Tryd.func140, Tryd.ntmps140
  go_wp2_with fail
  refine (unhide HC).mono ?_
  rintro e w1 ⟨rfl, hp1, hk1⟩
  have hg1 := hp1.lt
  have HP1 := hide (hp1.fence (.cells #[] 3) 0 0)
  have HK1 := hide (hk1.alloc (.cells #[] 3))
  have HI1 : Hid (IntBuf (w1.alloc (.cells #[] 3)) (g + 1) (.slice (some ⟨w1.heap.size, 0, none⟩) 0 0) []) := hide (by simpa using IntBuf.lit w1 (g + 1) [] (by omega) (by decide))
  have hsz1 : w.heap.size ≤ w1.heap.size := hk1.size
  clear HC hp1 hk1
  go_wp2
  go_loopg [3] n (fun gn kv wx => ∃ (ks : List Int) (s' : PS) (v' : Value), gn ≤ n ∧ Hid (needN ts (.blockL ks) s' ≤ gn) ∧ Hid (IntBuf wx (g + 1) kv ks) ∧ Hid (PAt wx g lp (lc.on kv) ts v' s') ∧ Hid (PK g v v' w wx) ∧ Hid (Few s') ∧ Hid (s'.dp ≤ 20) ∧ Hid (KL ks s') ∧ Hid (∀ j, kv.ownBlock = some j → w.heap.size ≤ j) ∧ Hid (run ts gn (.blockL ks) s' = o))
  case atStart => exact ⟨[], s1, v, Nat.le_refl _, HN1, HI1, HP1, HK1, HF1, HD1, hide (KL.nil _), hide (fun j hj => by have : w1.heap.size = j := Option.some.inj hj; omega), HO⟩
  case round =>
    obtain ⟨ks, s', v', hgn, HN, HI, HP, HK, HF, HD, HKL, HW, HRn⟩ := hrel
    obtain ⟨k, hk⟩ := need_pos (unhide HN)
    obtain ⟨ka, kc, hkv⟩ := (unhide HI).slice
    subst hkv
    have HR2 := unhide HRn
    rw [hk, run] at HR2
    have hat' := (unhide HP).hat
    have hlen : ks.length ≤ 301 := by have := (unhide HKL).1; omega
    have c4 := (unhide HP).cells.2.2.2.2.1
    have HT := hide (ptake (unhide hTS) (unhide HP) ⟨#[125]⟩)
    unfold takeS at HT
    rw [show (⟨#[125]⟩ : ByteArray).data.toList = [125] from rfl] at HT
    have HEND := hide (fun (s2 : PS) (v2 : Value) (w2 : World) (hp2 : PAt w2 g lp (lc.on (.slice ka ks.length kc)) ts v2 s2) (hf2 : Few s2) (hi2 : IntBuf w2 (g + 1) (.slice ka ks.length kc) ks) => pput (unhide hTS) hp2.drop hf2 ⟨18, 0, em, [], ks⟩ (.slice none 0 0) (.slice ka ks.length kc) 0 (g + 1) (StrBuf.nil _ _) hi2 (by simp) (by simp; omega))
    clear HP1 HK1 HF1 HD1 HN1 HI1 HO HRn
    by_cases hc : s'.code = 0
    · rw [if_pos hc] at HR2
      rw [hc] at c4
      cases hi : isP ts s' [125] with
      | true =>
        have ht : tkP ts s' [125] = true := by unfold tkP; rw [hc, hi]; rfl
        rw [ht, if_pos rfl] at HT
        rw [if_pos hi] at HR2
        have HF2 := hide ((unhide HF).same (adv_ns s'))
        clear ht hi hc hk
        subst HR2
        go_wp2_with fail
        refine (unhide HT).mono ?_
        rintro e w2 ⟨rfl, hp2, hk2⟩
        have HC2 := hide (unhide HEND _ _ w2 hp2 (unhide HF2) ((unhide HI).byPK (unhide HP) hk2))
        have HK2 := hide ((unhide HK).trans hk2)
        clear HT hp2 hk2 HP HK HI HEND c4
        go_wp2_with fail
        refine (unhide HC2).mono ?_
        rintro e w3 ⟨rfl, v3, hp3, hk3⟩
        have HP3 := hide hp3
        have HK3 := hide ((unhide HK2).trans hk3)
        clear HC2 hp3 hk3 HK2
        go_wp2
        go_ret
        exact ⟨rfl, _, unhide HP3, unhide HK3⟩
      | false =>
        have ht : tkP ts s' [125] = false := by unfold tkP; rw [hi]; simp
        rw [ht, if_neg (by simp)] at HT
        rw [if_neg (nt hi)] at HR2
        have HN2 := hide (need_run (f := .blockL ks) (f' := .stmt) (hk ▸ unhide HN) hat' (PLe.refl s') (fun _ _ => .inl (show (15 : Nat) < 16 by decide)) (fun c => absurd hc c))
        have HN3 := hide (need_on (f' := .blockL (ks ++ [(run ts k .stmt s').r])) (hk ▸ unhide HN) hat' (run_le ts k .stmt s' s' (PLe.refl s')) (run_lt ts k .stmt s' s' rfl (PLe.refl s')) hc)
        have HC2 := hide (fun w2 hp2 => unhide ih k (by omega) g lp (lc.on (.slice ka ks.length kc)) v' s' w2 hp2 (unhide HF) (unhide HD) (unhide HN2))
        have HF2 := hide ((unhide HF).run (ts := ts) (n := k) (f := .stmt))
        have HD2 : Hid ((run ts k .stmt s').s.dp ≤ 20) := hide (by rw [run_dp]; exact unhide HD)
        have HL2 := hide ((unhide HKL).step (r := (run ts k .stmt s').r) hc (run_le ts k .stmt s' s' (PLe.refl s')) (run_lt ts k .stmt s' s' rfl (PLe.refl s')))
        generalize run ts k .stmt s' = o2 at HC2 HF2 HD2 HN3 HL2 HR2
        have HR3 := hide HR2
        clear HN2 HN HR2 ht hi hc hat' HF HD HKL HEND
        go_wp2_with fail
        refine (unhide HT).mono ?_
        rintro e w2 ⟨rfl, hp2, hk2⟩
        have HC3 := hide (unhide HC2 w2 hp2)
        have HP2 := hide hp2
        have HI2 := hide ((unhide HI).byPK (unhide HP) hk2)
        have HK2 := hide ((unhide HK).trans hk2)
        clear HT hp2 hk2 HK HC2 HP HI c4
        go_wp2_with fail
        refine (unhide HC3).mono ?_
        rintro e w3 ⟨rfl, v3, hp3, hk3⟩
        have HI3 := hide (((unhide HI2).byPK (unhide HP2) hk3).alloc (.cells #[.int .i64 o2.r] 3))
        have HP3 := hide (hp3.alloc (.cells #[.int .i64 o2.r] 3))
        have HK3 := hide (((unhide HK2).trans hk3).alloc (.cells #[.int .i64 o2.r] 3))
        have hg3 := hp3.lt
        clear HC3 HK2 hp3 hk3 HI2 HP2
        go_wp2_with (at_builtin; refine wp_appIAt _ rfl _ _ rfl (g + 1) w3.heap.size _ ks o2.r rfl (unhide HI3) rfl (by simp) (by simp; omega) (by omega) ?c0)
        case c0 =>
          intro kv4 w4 hI4 hG4
          have HP4 := hide ((unhide HP3).app hG4 (fun j hj => hI4.own_lt j hj))
          have HK4 := hide ((unhide HK3).row hG4 (unhide HW))
          have HW4 : Hid (∀ j, kv4.ownBlock = some j → w.heap.size ≤ j) := hide (fun j hj => by
            rcases hG4.lies j hj with e | e
            · exact unhide HW j e
            · have := (unhide HK3).size; omega)
          have HI4 := hide hI4
          clear hI4 hG4 HP3 HK3 HI3
          go_wp2
          go_roundg k
          case rel => exact ⟨ks ++ [o2.r], o2.s, v3, by omega, HN3, HI4, HP4, HK4, HF2, HD2, HL2, HW4, HR3⟩
          case measure => omega
    · have e0 : (s'.code == 0) = false := beq_eq_false_iff_ne.2 hc
      rw [if_neg hc] at HR2
      have HC2 := hide (unhide HEND _ _ wr (unhide HP) (unhide HF) (unhide HI))
      clear hc hk HT HEND HP HI
      subst HR2
      go_wp2_with fail
      refine (unhide HC2).mono ?_
      rintro e w3 ⟨rfl, v3, hp3, hk3⟩
      have HP3 := hide hp3
      have HK3 := hide ((unhide HK).trans hk3)
      clear HC2 hp3 hk3 HK
      go_wp2
      go_ret
      exact ⟨rfl, _, unhide HP3, unhide HK3⟩

end Go.Proofs.YtbipgmikgokfpaaDoor

/- PCall -/
namespace Go.Proofs.YtbipgmikgokfpaaDoor
open Go.RowKit Go.Joins
set_option linter.unusedVariables false
attribute [local irreducible] run advP upP comP needP nameP putP downP failP isP tkP nextP setP

set_option maxHeartbeats 4000000 in
set_option maxRecDepth 100000 in
theorem pfirst_call {ts : List V3} (hTS : Hid (TS ts)) (n : Nat) (ihE : Hid (∀ k, k ≤ n → PQ ts k .expr 168)) {g : Nat} {lp : Option Addr} {lc : PX} {v : Value} {s : PS} {w : World} (h : PAt w g lp lc ts v s) (hf : Few s) (hd : s.dp ≤ 20) (hn : needN ts .first s ≤ n + 1) (hc : s.code = 0) (hk1 : (nextP ts s).k = 1) (h0 : isP ts s [116, 114, 117, 101] = false) (h1 : isP ts s [102, 97, 108, 115, 101] = false) (h2 : isP ts s [110, 117, 108, 108] = false) (h3 : isP ts s [40] = false) (hy : tkP ts (advP s) [40] = true) :
    PZ 196 g lp lc ts v w (run ts (n + 1) .first s) := by
  unfold PZ
  rw [run]
  rw [if_neg (fun h => h hc), if_neg (fun h => by rw [hk1] at h; exact absurd h (by decide)), if_neg (fun h => by rw [hk1] at h; exact absurd h (by decide)), if_neg (nt h0), if_neg (nt h1), if_neg (nt h2), if_neg (nt h3), if_pos hk1, if_pos hy, oneP]
  have hat := h.hat
  have HP := hide h
  have HK := hide (PK.refl g v w)
  have HF0 := hide hf
  have HD0 := hide hd
  have HL0 := hide (PLe.refl s)
  clear h hf hd
  have HX := hide (fun v w (hp : PAt w g lp lc ts v s) => pnext (unhide hTS) hp)
  unfold tokA at HX
  have hsz : (nextP ts s).t.size ≤ 1048576 := next_size (unhide hTS)
  have hlt := next_lt (ts := ts) (s := s) (by rw [hk1]; decide)
  have HF1 : Hid (Few (advP (advP s))) := hide (((unhide HF0).same (adv_ns _)).same (adv_ns _))
  have HD1 : Hid ((advP (advP s)).dp ≤ 20) := hide (by rw [adv_dp, adv_dp]; exact unhide HD0)
  have HN1 : Hid (needN ts (.args []) (advP (advP s)) ≤ n) := hide (need_on (f' := .args []) hn hat (PLe.refl s).adv.adv (PLt.adv (PLe.refl s).adv) hc)
  generalize ho : run ts n (.args []) (advP (advP s)) = o at ⊢
  have HO := hide ho
  clear ho
  generalize nextP ts s = x at HX hsz hk1 ⊢
  obtain ⟨xk, xn, xt⟩ := x
  simp only at hsz hk1
  go_enter Tryd.func196, Tryd.ntmps196
  obtain ⟨c0, c1, c2, c3, c4, c5⟩ := (unhide HP).cells
  have hg := (unhide HP).lt
  rw [hc] at c4
  have HC := hide (unhide HX _ _ (unhide HP))
  clear HX
  go_wp2_with fail
  refine (unhide HC).mono ?_
  rintro e wx ⟨rfl, hb⟩
  have HPx := hide ((unhide HP).later hb)
  have HKx := hide ((unhide HK).then_below hb)
  clear HC hb HK HP c0 c1 c2 c3 c4 c5 hg
  have hg := (unhide HPx).lt
  have hgx : wx.heap.size ≠ g := by omega
  have hvo : v.ownBlock ≠ some wx.heap.size := fun e => by have := (unhide HPx).own _ e; omega
  subst hk1
  have HP := hide ((unhide HPx).fence (.cells #[.int .i64 1, .int .i64 xn, .string xt] 169) 0 0)
  have HK := hide ((unhide HKx).alloc (.cells #[.int .i64 1, .int .i64 xn, .string xt] 169))
  have hb0 : (wx.alloc (.cells #[.int .i64 1, .int .i64 xn, .string xt] 169)).cell? ⟨wx.heap.size, 0, none⟩ = some (.int .i64 1) := by simp
  have hb2 : (wx.alloc (.cells #[.int .i64 1, .int .i64 xn, .string xt] 169)).cell? ⟨wx.heap.size, 2, none⟩ = some (.string xt) := by simp
  have hwx : Hid (w.heap.size ≤ wx.heap.size) := hide (unhide HKx).size
  clear HPx HKx
  generalize hlb : lc.on (.slice (some ⟨wx.heap.size, 0, none⟩) 0 0) = lb at HP
  have HLB := hide hlb
  clear hlb
  have HC := hide (ptake (unhide hTS) (unhide HP) (⟨#[116, 114, 117, 101]⟩ : ByteArray))
  unfold takeS at HC
  rw [show (⟨#[116, 114, 117, 101]⟩ : ByteArray).data.toList = [116, 114, 117, 101] from rfl, tk_of hc, h0, if_neg (by simp)] at HC
  clear HP
  go_wp2_with fail
  refine (unhide HC).mono ?_
  rintro e w1 ⟨rfl, hp, hk⟩
  have hb0n := hk.cell hb0 hgx hvo
  have hb2n := hk.cell hb2 hgx hvo
  clear hb0 hb2
  have hb0 := hb0n
  have hb2 := hb2n
  clear hb0n hb2n
  have HP := hide hp
  have HK2 := hide ((unhide HK).trans hk)
  clear HC hp hk HK
  have HK := HK2
  clear HK2
  have HC := hide (ptake (unhide hTS) (unhide HP) (⟨#[102, 97, 108, 115, 101]⟩ : ByteArray))
  unfold takeS at HC
  rw [show (⟨#[102, 97, 108, 115, 101]⟩ : ByteArray).data.toList = [102, 97, 108, 115, 101] from rfl, tk_of hc, h1, if_neg (by simp)] at HC
  clear HP
  go_wp2_with fail
  refine (unhide HC).mono ?_
  rintro e w2 ⟨rfl, hp, hk⟩
  have hb0n := hk.cell hb0 hgx hvo
  have hb2n := hk.cell hb2 hgx hvo
  clear hb0 hb2
  have hb0 := hb0n
  have hb2 := hb2n
  clear hb0n hb2n
  have HP := hide hp
  have HK2 := hide ((unhide HK).trans hk)
  clear HC hp hk HK
  have HK := HK2
  clear HK2
  have HC := hide (ptake (unhide hTS) (unhide HP) (⟨#[110, 117, 108, 108]⟩ : ByteArray))
  unfold takeS at HC
  rw [show (⟨#[110, 117, 108, 108]⟩ : ByteArray).data.toList = [110, 117, 108, 108] from rfl, tk_of hc, h2, if_neg (by simp)] at HC
  clear HP
  go_wp2_with fail
  refine (unhide HC).mono ?_
  rintro e w3 ⟨rfl, hp, hk⟩
  have hb0n := hk.cell hb0 hgx hvo
  have hb2n := hk.cell hb2 hgx hvo
  clear hb0 hb2
  have hb0 := hb0n
  have hb2 := hb2n
  clear hb0n hb2n
  have HP := hide hp
  have HK2 := hide ((unhide HK).trans hk)
  clear HC hp hk HK
  have HK := HK2
  clear HK2
  have HC := hide (ptake (unhide hTS) (unhide HP) (⟨#[40]⟩ : ByteArray))
  unfold takeS at HC
  rw [show (⟨#[40]⟩ : ByteArray).data.toList = [40] from rfl, tk_of hc, h3, if_neg (by simp)] at HC
  clear HP
  go_wp2_with fail
  refine (unhide HC).mono ?_
  rintro e w4 ⟨rfl, hp, hk⟩
  have hb0n := hk.cell hb0 hgx hvo
  have hb2n := hk.cell hb2 hgx hvo
  clear hb0 hb2
  have hb0 := hb0n
  have hb2 := hb2n
  clear hb0n hb2n
  have HP := hide hp
  have HK2 := hide ((unhide HK).trans hk)
  clear HC hp hk HK
  have HK := HK2
  clear HK2
  obtain ⟨c0, c1, c2, c3, c4, c5⟩ := (unhide HP).cells
  have z1 := (unhide HP).free 1
  have hf3 := (unhide hTS).few
  have hg := (unhide HP).lt
  have HP2 := hide ((unhide HP).adv hlt)
  have HK2 := hide ((unhide HK).set (o := 1) (x := .int .i64 ((s.at' : Int) + 1)))
  clear HP HK
  have HK := HK2
  have HP := HP2
  clear HK2 HP2 c0 c2 c3 c4 c5
  have hb0n : (w4.setCell ⟨g, 1, none⟩ (.int .i64 ((s.at' : Int) + 1))).cell? ⟨wx.heap.size, 0, none⟩ = some (.int .i64 1) := by rw [World.cell?_setCell_other _ _ _ _ (by simp)]; exact hb0
  have hb2n : (w4.setCell ⟨g, 1, none⟩ (.int .i64 ((s.at' : Int) + 1))).cell? ⟨wx.heap.size, 2, none⟩ = some (.string xt) := by rw [World.cell?_setCell_other _ _ _ _ (by simp)]; exact hb2
  have HC := hide (ptake (unhide hTS) (unhide HP) (⟨#[40]⟩ : ByteArray))
  unfold takeS at HC
  rw [show (⟨#[40]⟩ : ByteArray).data.toList = [40] from rfl, hy, if_pos rfl] at HC
  clear HP
  go_wp2_with fail
  refine (unhide HC).mono ?_
  rintro e wt ⟨rfl, hp1, hk1⟩
  have hb2m := hk1.cell hb2n hgx hvo
  have hg1 := hp1.lt
  have hxt : wx.heap.size < wt.heap.size := World.block_lt_of_cell? _ _ hb2m
  have HP1 := hide (hp1.fence (.cells #[] 3) 0 0)
  have hk1t := (unhide HK).trans hk1
  have HK1 := hide (hk1t.alloc (.cells #[] 3))
  have HI1 : Hid (IntBuf (wt.alloc (.cells #[] 3)) (g + 1) (.slice (some ⟨wt.heap.size, 0, none⟩) 0 0) []) := hide (by simpa using IntBuf.lit wt (g + 1) [] (by omega) (by decide))
  have hsz1 : w.heap.size ≤ wt.heap.size := hk1t.size
  have HB1 : Hid ((wt.alloc (.cells #[] 3)).cell? ⟨wx.heap.size, 2, none⟩ = some (.string xt)) := hide (cell_later (nx_alloc _ _) hb2m)
  clear HC hp1 hk1 hk1t HK hb0 hb2 hb0n hb2n hb2m c1 z1
  have hf3 := (unhide hTS).few
  generalize advP (advP s) = s1 at HP1 HF1 HD1 HN1 HO
  go_wp2
  go_loopg [7] n (fun gn kv wl => ∃ (ks : List Int) (s' : PS) (v' : Value), gn ≤ n ∧ Hid (needN ts (.args ks) s' ≤ gn) ∧ Hid (IntBuf wl (g + 1) kv ks) ∧ Hid (PAt wl g lp (lb.on kv) ts v' s') ∧ Hid (PK g v v' w wl) ∧ Hid (Few s') ∧ Hid (s'.dp ≤ 20) ∧ Hid (KL ks s') ∧ Hid (∀ j, kv.ownBlock = some j → w.heap.size ≤ j ∧ wx.heap.size < j) ∧ Hid (wl.cell? ⟨wx.heap.size, 2, none⟩ = some (.string xt)) ∧ Hid (run ts gn (.args ks) s' = o))
  case atStart => exact ⟨[], s1, v, Nat.le_refl _, HN1, HI1, HP1, HK1, HF1, HD1, hide (KL.nil _), hide (fun j hj => by have : wt.heap.size = j := Option.some.inj hj; omega), HB1, HO⟩
  case round =>
    obtain ⟨ks, s', v', hgn, HN, HI, HP, HK, HF, HD, HKL, HW, HB, HRn⟩ := hrel
    obtain ⟨k, hk⟩ := need_pos (unhide HN)
    obtain ⟨ka, kc, hkv⟩ := (unhide HI).slice
    subst hkv
    have HR2 := unhide HRn
    rw [hk, run] at HR2
    have hat' := (unhide HP).hat
    have hlen : ks.length ≤ 301 := by have := (unhide HKL).1; omega
    have c4 := (unhide HP).cells.2.2.2.2.1
    have HXE : Hid (∀ s2 v2 w2, PAt w2 g lp (lb.on (.slice ka ks.length kc)) ts v2 s2 → v2.ownBlock ≠ some wx.heap.size) := hide (fun s2 v2 w2 hp2 e => hp2.off _ e (.inl (by rw [← unhide HLB]; exact .inr rfl)))
    have HT := hide (ptake (unhide hTS) (unhide HP) (⟨#[41]⟩ : ByteArray))
    unfold takeS at HT
    rw [show (⟨#[41]⟩ : ByteArray).data.toList = [41] from rfl] at HT
    have HEND := hide (fun (s2 : PS) (v2 : Value) (w2 : World) (hp2 : PAt w2 g lp (lb.on (.slice ka ks.length kc)) ts v2 s2) (hf2 : Few s2) (hi2 : IntBuf w2 (g + 1) (.slice ka ks.length kc) ks) => pput (unhide hTS) (PAt.drop (kv := .slice (some ⟨wx.heap.size, 0, none⟩) 0 0) (lc := lc) (by rw [unhide HLB]; exact hp2.drop)) hf2 ⟨10, 0, xt, [], ks⟩ (.slice none 0 0) (.slice ka ks.length kc) 0 (g + 1) (StrBuf.nil _ _) hi2 (by simp) (by simp; omega))
    clear HP1 HK1 HF1 HD1 HN1 HI1 HO HRn HB1 HLB
    by_cases hc9 : s'.code = 0
    · rw [if_pos hc9] at HR2
      rw [hc9] at c4
      cases hi9 : isP ts s' [41] with
      | true =>
        have ht : tkP ts s' [41] = true := by unfold tkP; rw [hc9, hi9]; rfl
        rw [ht, if_pos rfl] at HT
        rw [if_pos hi9] at HR2
        have HF2 := hide ((unhide HF).same (adv_ns s'))
        clear ht hi9 hc9 hk
        subst HR2
        go_wp2_with fail
        refine (unhide HT).mono ?_
        rintro e w2 ⟨rfl, hp2, hk2⟩
        have HC2 := hide (unhide HEND _ _ w2 hp2 (unhide HF2) ((unhide HI).byPK (unhide HP) hk2))
        have HK2 := hide ((unhide HK).trans hk2)
        have hbt := hk2.cell (unhide HB) hgx (unhide HXE _ _ _ (unhide HP))
        clear HT hp2 hk2 HP HK HI HEND c4 HB
        go_wp2_with fail
        refine (unhide HC2).mono ?_
        rintro e w3 ⟨rfl, v3, hp3, hk3⟩
        have HP3 := hide hp3
        have HK3 := hide ((unhide HK2).trans hk3)
        clear HC2 hp3 hk3 HK2
        go_wp2
        go_ret
        exact ⟨rfl, _, unhide HP3, unhide HK3⟩
      | false =>
        have ht : tkP ts s' [41] = false := by unfold tkP; rw [hi9]; simp
        rw [ht, if_neg (by simp)] at HT
        rw [if_neg (nt hi9)] at HR2
        have HLE : Hid (PLe s' (comP ts ks.length s')) := hide (PLe.refl s').com
        have HN2 := hide (need_run (f := .args ks) (f' := .expr) (hk ▸ unhide HN) hat' (unhide HLE) (fun _ _ => .inl (show (12 : Nat) < 13 by decide)) (fun c => absurd hc9 c))
        have HN3 := hide (need_on (f' := .args (ks ++ [(run ts k .expr (comP ts ks.length s')).r])) (hk ▸ unhide HN) hat' (run_le ts k .expr s' (comP ts ks.length s') (unhide HLE)) (run_lt ts k .expr s' (comP ts ks.length s') rfl (unhide HLE)) hc9)
        have HC2 := hide (fun w2 hp2 => unhide ihE k (by omega) g lp (lb.on (.slice ka ks.length kc)) v' (comP ts ks.length s') w2 hp2 ((unhide HF).same (com_ns _ _ _)) (by rw [com_dp]; exact unhide HD) (unhide HN2))
        have HF2 := hide (((unhide HF).same (com_ns ts ks.length s')).run (ts := ts) (n := k) (f := .expr))
        have HD2 : Hid ((run ts k .expr (comP ts ks.length s')).s.dp ≤ 20) := hide (by rw [run_dp, com_dp]; exact unhide HD)
        have HL2 := hide ((unhide HKL).step (r := (run ts k .expr (comP ts ks.length s')).r) hc9 (run_le ts k .expr s' (comP ts ks.length s') (unhide HLE)) (run_lt ts k .expr s' (comP ts ks.length s') rfl (unhide HLE)))
        generalize run ts k .expr (comP ts ks.length s') = o2 at HC2 HF2 HD2 HN3 HL2 HR2
        have HR3 := hide HR2
        clear HN2 HN HR2 ht hi9 hc9 hat' HF HD HKL HEND HLE
        by_cases hz : 0 < ks.length
        · have hzi : (0 : Int) < (ks.length : Int) := by omega
          rw [show comP ts ks.length s' = needP ts [44] s' by unfold comP; rw [if_pos hz]] at HC2
          go_wp2_with fail
          refine (unhide HT).mono ?_
          rintro e w2 ⟨rfl, hp2, hk2⟩
          have HI2 := hide ((unhide HI).byPK (unhide HP) hk2)
          have HK2 := hide ((unhide HK).trans hk2)
          have HBt := hide (hk2.cell (unhide HB) hgx (unhide HXE _ _ _ (unhide HP)))
          have HCN := hide (pneed (unhide hTS) hp2 (⟨#[44]⟩ : ByteArray))
          rw [show (⟨#[44]⟩ : ByteArray).data.toList = [44] from rfl] at HCN
          have HP2 := hide hp2
          clear HT hp2 hk2 HK HP HI c4 HB
          go_wp2_with fail
          refine (unhide HCN).mono ?_
          rintro e w8 ⟨rfl, hp8, hk8⟩
          have HC3 := hide (unhide HC2 w8 hp8)
          have HP8 := hide hp8
          have HI8 := hide ((unhide HI2).byPK (unhide HP2) hk8)
          have HK8 := hide ((unhide HK2).trans hk8)
          have HB8 := hide (hk8.cell (unhide HBt) hgx (unhide HXE _ _ _ (unhide HP2)))
          clear HCN hp8 hk8 HK2 HC2 HP2 HI2 HBt
          go_wp2_with fail
          refine (unhide HC3).mono ?_
          rintro e w3 ⟨rfl, v3, hp3, hk3⟩
          have HI3 := hide (((unhide HI8).byPK (unhide HP8) hk3).alloc (.cells #[.int .i64 o2.r] 3))
          have HP3 := hide (hp3.alloc (.cells #[.int .i64 o2.r] 3))
          have HK3 := hide (((unhide HK8).trans hk3).alloc (.cells #[.int .i64 o2.r] 3))
          have HB3 := hide (cell_later (nx_alloc w3 (.cells #[.int .i64 o2.r] 3)) (hk3.cell (unhide HB8) hgx (unhide HXE _ _ _ (unhide HP8))))
          have hg3 := hp3.lt
          clear HC3 HK8 hp3 hk3 HI8 HP8 HB8
          go_wp2_with (at_builtin; refine wp_appIAt _ rfl _ _ rfl (g + 1) w3.heap.size _ ks o2.r rfl (unhide HI3) rfl (by simp) (by simp; omega) (by omega) ?c0)
          case c0 =>
            intro kv4 w4 hI4 hG4
            have HP4 := hide ((unhide HP3).app hG4 (fun j hj => hI4.own_lt j hj))
            have HK4 := hide ((unhide HK3).row hG4 (fun j hj => (unhide HW j hj).1))
            have HB4 := hide (hG4.cell (unhide HB3) (fun j hj e => by have := (unhide HW j hj).2; omega))
            have HW4 : Hid (∀ j, kv4.ownBlock = some j → w.heap.size ≤ j ∧ wx.heap.size < j) := hide (fun j hj => by
              rcases hG4.lies j hj with e | e
              · exact unhide HW j e
              · have h1 := (unhide HK3).size; have h2 : wx.heap.size < (w3.alloc (.cells #[.int .i64 o2.r] 3)).heap.size := World.block_lt_of_cell? _ _ (unhide HB3); exact ⟨by omega, by omega⟩)
            have HI4 := hide hI4
            clear hI4 hG4 HP3 HK3 HI3 HB3
            go_wp2
            go_roundg k
            case rel => exact ⟨ks ++ [o2.r], o2.s, v3, by omega, HN3, HI4, HP4, HK4, HF2, HD2, HL2, HW4, HB4, HR3⟩
            case measure => omega
        · have hzi : ¬ (0 : Int) < (ks.length : Int) := by omega
          rw [show comP ts ks.length s' = s' by unfold comP; rw [if_neg hz]] at HC2
          go_wp2_with fail
          refine (unhide HT).mono ?_
          rintro e w2 ⟨rfl, hp2, hk2⟩
          have HI2 := hide ((unhide HI).byPK (unhide HP) hk2)
          have HK2 := hide ((unhide HK).trans hk2)
          have HBt := hide (hk2.cell (unhide HB) hgx (unhide HXE _ _ _ (unhide HP)))
          have HC3 := hide (unhide HC2 w2 hp2)
          have HP2 := hide hp2
          clear HT hp2 hk2 HK HP HI c4 HB HC2
          go_wp2_with fail
          refine (unhide HC3).mono ?_
          rintro e w3 ⟨rfl, v3, hp3, hk3⟩
          have HI3 := hide (((unhide HI2).byPK (unhide HP2) hk3).alloc (.cells #[.int .i64 o2.r] 3))
          have HP3 := hide (hp3.alloc (.cells #[.int .i64 o2.r] 3))
          have HK3 := hide (((unhide HK2).trans hk3).alloc (.cells #[.int .i64 o2.r] 3))
          have HB3 := hide (cell_later (nx_alloc w3 (.cells #[.int .i64 o2.r] 3)) (hk3.cell (unhide HBt) hgx (unhide HXE _ _ _ (unhide HP2))))
          have hg3 := hp3.lt
          clear HC3 HK2 hp3 hk3 HI2 HP2 HBt
          go_wp2_with (at_builtin; refine wp_appIAt _ rfl _ _ rfl (g + 1) w3.heap.size _ ks o2.r rfl (unhide HI3) rfl (by simp) (by simp; omega) (by omega) ?c0)
          case c0 =>
            intro kv4 w4 hI4 hG4
            have HP4 := hide ((unhide HP3).app hG4 (fun j hj => hI4.own_lt j hj))
            have HK4 := hide ((unhide HK3).row hG4 (fun j hj => (unhide HW j hj).1))
            have HB4 := hide (hG4.cell (unhide HB3) (fun j hj e => by have := (unhide HW j hj).2; omega))
            have HW4 : Hid (∀ j, kv4.ownBlock = some j → w.heap.size ≤ j ∧ wx.heap.size < j) := hide (fun j hj => by
              rcases hG4.lies j hj with e | e
              · exact unhide HW j e
              · have h1 := (unhide HK3).size; have h2 : wx.heap.size < (w3.alloc (.cells #[.int .i64 o2.r] 3)).heap.size := World.block_lt_of_cell? _ _ (unhide HB3); exact ⟨by omega, by omega⟩)
            have HI4 := hide hI4
            clear hI4 hG4 HP3 HK3 HI3 HB3
            go_wp2
            go_roundg k
            case rel => exact ⟨ks ++ [o2.r], o2.s, v3, by omega, HN3, HI4, HP4, HK4, HF2, HD2, HL2, HW4, HB4, HR3⟩
            case measure => omega
    · have e0 : (s'.code == 0) = false := beq_eq_false_iff_ne.2 hc9
      rw [if_neg hc9] at HR2
      have HC2 := hide (unhide HEND _ _ wr (unhide HP) (unhide HF) (unhide HI))
      have hbt := unhide HB
      clear hc9 hk HT HEND HP HI HB
      subst HR2
      go_wp2_with fail
      refine (unhide HC2).mono ?_
      rintro e w3 ⟨rfl, v3, hp3, hk3⟩
      have HP3 := hide hp3
      have HK3 := hide ((unhide HK).trans hk3)
      clear HC2 hp3 hk3 HK
      go_wp2
      go_ret
      exact ⟨rfl, _, unhide HP3, unhide HK3⟩

end Go.Proofs.YtbipgmikgokfpaaDoor

/- PFunc -/
namespace Go.Proofs.YtbipgmikgokfpaaDoor
open Go.RowKit Go.Joins
set_option linter.unusedVariables false
attribute [local irreducible] run advP upP comP needP nameP putP downP failP isP tkP nextP setP

def KN (m : Nat) (s : PS) : Prop := m ≤ s.at' + 1 ∧ (s.code = 0 → m ≤ s.at')
theorem KN.step {m : Nat} {s s' : PS} (h : KN m s) (hc : s.code = 0) (hle : PLe s s') (hlt : PLt s s') : KN (m + 1) s' := by
  have h1 := h.2 hc
  have h2 := hle.at'
  exact ⟨by omega, fun e => by have := hlt e; omega⟩
theorem KN.same {m : Nat} {s s' : PS} (h : KN m s) (hle : PLe s s') : KN m s' := by
  have h2 := hle.at'
  exact ⟨by have := h.1; omega, fun e => by have := h.2 (hle.code e); omega⟩

set_option maxHeartbeats 4000000 in
set_option maxRecDepth 100000 in
theorem pfunc_step {ts : List V3} (hTS : Hid (TS ts)) (n : Nat) (ihB : Hid (∀ k, k ≤ n → PQ ts k .block 140)) : PQ ts (n + 1) .func 107 := by
  intro g lp lc v s w h hf hd hn
  have hat := h.hat
  rw [run, oneP]
  have HC := hide (pname (unhide hTS) h)
  have HC1 := hide (fun w1 (hp : PAt w1 g lp lc ts v (nameP ts s).2) => pneed (unhide hTS) hp (⟨#[40]⟩ : ByteArray))
  rw [show (⟨#[40]⟩ : ByteArray).data.toList = [40] from rfl] at HC1
  have HF1 : Hid (Few (needP ts [40] (nameP ts s).2)) := hide ((hf.same (name_ns _ _)).same (need_ns _ _ _))
  have HD1 : Hid ((needP ts [40] (nameP ts s).2).dp ≤ 20) := hide (by rw [need_dp, name_dp]; exact hd)
  have HLE1 : Hid (PLe s (needP ts [40] (nameP ts s).2)) := hide (PLe.refl s).name.need
  have HLT1 : Hid (PLt s (needP ts [40] (nameP ts s).2)) := hide (PLt.need (PLe.refl s).name)
  have HN1 : Hid (needN ts (.funcL []) (needP ts [40] (nameP ts s).2) ≤ n) := hide (need_run (f' := .funcL []) hn hat (unhide HLE1) (fun _ c => .inr (unhide HLT1 c)) (fun _ => (show (1 : Nat) < 3 by decide)))
  generalize hs1 : needP ts [40] (nameP ts s).2 = s1 at HC1 HF1 HD1 HN1 HLE1 HLT1 ⊢
  generalize hs0 : (nameP ts s).2 = s0 at HC HC1
  generalize (nameP ts s).1 = xn at HC ⊢
  have HLEo := hide (run_le ts n (.funcL []) s s1 (unhide HLE1))
  have HLTo := hide ((unhide HLT1).loop (ts := ts) (n := n) (f := .funcL []))
  have HFo := hide ((unhide HF1).run (ts := ts) (n := n) (f := .funcL []))
  have HDo : Hid ((run ts n (.funcL []) s1).s.dp ≤ 20) := hide (by rw [run_dp]; exact unhide HD1)
  generalize ho : run ts n (.funcL []) s1 = o at HLEo HLTo HFo HDo ⊢
  have HO := hide ho
  have HB := hide (fun (lc2 : PX) v2 w2 (hp2 : PAt w2 g lp lc2 ts v2 o.s) => unhide ihB n (Nat.le_refl _) g lp lc2 v2 o.s w2 hp2 (unhide HFo) (unhide HDo) (need_run hn hat (unhide HLEo) (fun _ c => .inr (unhide HLTo c)) (fun _ => (show (2 : Nat) < 3 by decide))))
  have HFb := hide ((unhide HFo).run (ts := ts) (n := n) (f := .block))
  generalize run ts n .block o.s = ob at HB HFb ⊢
  have hf3 := (unhide hTS).few
  clear h hf hn ho hs1 hs0 HLE1 HLT1 HLEo HLTo HFo HDo
  go_enter Tryd.func107, Tryd.ntmps107
  go_wp2_with fail
  refine (unhide HC).mono ?_
  rintro e w0 ⟨rfl, hp0, hk0⟩
  have HCC := hide (unhide HC1 w0 hp0)
  have HK0 := hide hk0
  clear HC HC1 hp0 hk0
  go_wp2_with fail
  refine (unhide HCC).mono ?_
  rintro e w1 ⟨rfl, hp1, hk1⟩
  have hg1 := hp1.lt
  have hk1t := (unhide HK0).trans hk1
  have HP1 := hide (hp1.fence (.cells #[] 9) 0 0)
  have HK1 := hide (hk1t.alloc (.cells #[] 9))
  have HI1 : Hid (StrBuf (w1.alloc (.cells #[] 9)) (g + 1) (.slice (some ⟨w1.heap.size, 0, none⟩) 0 0) []) := hide (by simpa using StrBuf.lit w1 (g + 1) [] (by omega) (by decide))
  have hsz1 : w.heap.size ≤ w1.heap.size := hk1t.size
  clear HCC hp1 hk1 hk1t HK0
  go_wp2
  go_loopg [4] n (fun gn kv wl => ∃ (nm : List ByteArray) (s' : PS) (v' : Value), gn ≤ n ∧ Hid (needN ts (.funcL nm) s' ≤ gn) ∧ Hid (StrBuf wl (g + 1) kv nm) ∧ Hid (PAt wl g lp (lc.on kv) ts v' s') ∧ Hid (PK g v v' w wl) ∧ Hid (Few s') ∧ Hid (s'.dp ≤ 20) ∧ Hid (KN nm.length s') ∧ Hid (∀ j, kv.ownBlock = some j → w.heap.size ≤ j) ∧ Hid (run ts gn (.funcL nm) s' = o))
  case atStart => exact ⟨[], s1, v, Nat.le_refl _, HN1, HI1, HP1, HK1, HF1, HD1, hide ⟨by simp, fun _ => by simp⟩, hide (fun j hj => by have : w1.heap.size = j := Option.some.inj hj; omega), HO⟩
  case round =>
    obtain ⟨nm, s', v', hgn, HN, HI, HP, HK, HF, HD, HKL, HW, HRn⟩ := hrel
    obtain ⟨k, hk⟩ := need_pos (unhide HN)
    obtain ⟨ka, kc, hkv⟩ := (unhide HI).slice
    subst hkv
    have HR2 := unhide HRn
    rw [hk, run] at HR2
    have hat' := (unhide HP).hat
    have hlen : nm.length ≤ 301 := by have := (unhide HKL).1; omega
    have c4 := (unhide HP).cells.2.2.2.2.1
    have HT := hide (ptake (unhide hTS) (unhide HP) (⟨#[41]⟩ : ByteArray))
    unfold takeS at HT
    rw [show (⟨#[41]⟩ : ByteArray).data.toList = [41] from rfl] at HT
    clear HP1 HK1 HF1 HD1 HN1 HI1 HO HRn
    by_cases hc : s'.code = 0
    · rw [if_pos hc] at HR2
      rw [hc] at c4
      cases hi : isP ts s' [41] with
      | true =>
        have ht : tkP ts s' [41] = true := by unfold tkP; rw [hc, hi]; rfl
        rw [ht, if_pos rfl] at HT
        rw [if_pos hi] at HR2
        clear ht hi hc hk
        subst HR2
        go_wp2_with fail
        refine (unhide HT).mono ?_
        rintro e w2 ⟨rfl, hp2, hk2⟩
        have HC2 := hide (unhide HB _ _ w2 hp2)
        have HP2 := hide hp2
        have HI2 := hide ((unhide HI).byPK (unhide HP) hk2)
        have HK2 := hide ((unhide HK).trans hk2)
        clear HT hp2 hk2 HP HK HI c4
        go_wp2_with fail
        refine (unhide HC2).mono ?_
        rintro e w5 ⟨rfl, v5, hp5, hk5⟩
        have hlit : IntBuf (w5.alloc (.cells #[.int .i64 ob.r] 3)) w5.heap.size (.slice (some ⟨w5.heap.size, 0, none⟩) 1 1) [ob.r] := by simpa using IntBuf.lit w5 w5.heap.size [ob.r] (Nat.le_refl _) (by simp [maxLen])
        have HC6 := hide (pput (unhide hTS) ((hp5.drop).alloc (.cells #[.int .i64 ob.r] 3)) (unhide HFb) ⟨20, 0, xn, nm, [ob.r]⟩ (.slice ka nm.length kc) (.slice (some ⟨w5.heap.size, 0, none⟩) 1 1) (g + 1) w5.heap.size (((unhide HI2).byPK (unhide HP2) hk5).alloc _) hlit (by simp; omega) (by simp))
        have HK5 := hide (((unhide HK2).trans hk5).alloc (.cells #[.int .i64 ob.r] 3))
        clear HC2 hp5 hk5 HI2 HP2 HK2 hlit
        go_wp2_with fail
        refine (unhide HC6).mono ?_
        rintro e w3 ⟨rfl, v3, hp3, hk3⟩
        have HP3 := hide hp3
        have HK3 := hide ((unhide HK5).trans hk3)
        clear HC6 hp3 hk3 HK5
        go_wp2
        go_ret
        exact ⟨rfl, _, unhide HP3, unhide HK3⟩
      | false =>
        have ht : tkP ts s' [41] = false := by unfold tkP; rw [hi]; simp
        rw [ht, if_neg (by simp)] at HT
        rw [if_neg (nt hi)] at HR2
        by_cases hz : 0 < nm.length
        · have hzi : (0 : Int) < (nm.length : Int) := by omega
          rw [show comP ts nm.length s' = needP ts [44] s' by unfold comP; rw [if_pos hz]] at HR2
          have HCN := hide (fun v2 w2 (hp2 : PAt w2 g lp (lc.on (.slice ka nm.length kc)) ts v2 s') => pneed (unhide hTS) hp2 (⟨#[44]⟩ : ByteArray))
          rw [show (⟨#[44]⟩ : ByteArray).data.toList = [44] from rfl] at HCN
          by_cases hc2 : (needP ts [44] s').code = 0
          · rw [if_pos hc2] at HR2
            have HF3 : Hid (Few (nameP ts (needP ts [44] s')).2) := hide (((unhide HF).same (need_ns _ _ _)).same (name_ns _ _))
            have HD3 : Hid ((nameP ts (needP ts [44] s')).2.dp ≤ 20) := hide (by rw [name_dp, need_dp]; exact unhide HD)
            have HN3 : Hid (needN ts (.funcL (nm ++ [(nameP ts (needP ts [44] s')).1])) (nameP ts (needP ts [44] s')).2 ≤ k) := hide (need_on (f' := .funcL _) (hk ▸ unhide HN) hat' (PLe.refl s').need.name (PLt.name (PLe.refl s').need) hc)
            have HL3 : Hid (KN (nm ++ [(nameP ts (needP ts [44] s')).1]).length (nameP ts (needP ts [44] s')).2) := hide (by rw [List.length_append]; exact (unhide HKL).step hc (PLe.refl s').need.name (PLt.name (PLe.refl s').need))
            have HR3 := hide HR2
            have HSQ : Hid (∀ w2 (hp2 : PAt w2 g lp (lc.on (.slice ka nm.length kc)) ts v' (needP ts [44] s')), Calls Tryd.prog 138 #[.pointer (some ⟨g, 0, none⟩)] w2 fun e w' => e = .returned (.string (nameP ts (needP ts [44] s')).1) ∧ PAt w' g lp (lc.on (.slice ka nm.length kc)) ts v' (nameP ts (needP ts [44] s')).2 ∧ PK g v' v' w2 w') := hide (fun w2 hp2 => pname (unhide hTS) hp2)
            generalize (nameP ts (needP ts [44] s')).1 = xm at HN3 HL3 HR3 HSQ
            generalize (nameP ts (needP ts [44] s')).2 = s3 at HN3 HL3 HR3 HF3 HD3 HSQ
            clear HN HR2 ht hi hc hat' HF HD HKL hz
            go_wp2_with fail
            refine (unhide HT).mono ?_
            rintro e w2 ⟨rfl, hp2, hk2⟩
            have HI2 := hide ((unhide HI).byPK (unhide HP) hk2)
            have HK2 := hide ((unhide HK).trans hk2)
            have HP2 := hide hp2
            have HCN2 := hide (unhide HCN _ _ hp2)
            clear HT hp2 hk2 HK HP HI c4 HCN
            go_wp2_with fail
            refine (unhide HCN2).mono ?_
            rintro e w8 ⟨rfl, hp8, hk8⟩
            have c8 := hp8.cells.2.2.2.2.1
            rw [hc2] at c8
            have HPc := hide hp8
            have HIc := hide ((unhide HI2).byPK (unhide HP2) hk8)
            have HKc := hide ((unhide HK2).trans hk8)
            have HCM := hide (unhide HSQ w8 hp8)
            clear HCN2 hp8 hk8 HK2 HP2 HI2 HSQ
            go_wp2_with fail
            refine (unhide HCM).mono ?_
            rintro e w3 ⟨rfl, hp3, hk3⟩
            have HI3 := hide (((unhide HIc).byPK (unhide HPc) hk3).alloc (.cells #[.string xm] 9))
            have HP3 := hide (hp3.alloc (.cells #[.string xm] 9))
            have HK3 := hide (((unhide HKc).trans hk3).alloc (.cells #[.string xm] 9))
            have hg3 := hp3.lt
            clear HCM HKc hp3 hk3 HIc HPc
            go_wp2_with (at_builtin; refine wp_appStrAt _ rfl _ _ rfl (g + 1) w3.heap.size _ nm xm rfl (unhide HI3) rfl (by simp) (by simp; omega) (by omega) ?c0)
            case c0 =>
              intro kv4 w4 hI4 hG4
              have HP4 := hide ((unhide HP3).app hG4 (fun j hj => hI4.own_lt j hj))
              have HK4 := hide ((unhide HK3).row hG4 (unhide HW))
              have HW4 : Hid (∀ j, kv4.ownBlock = some j → w.heap.size ≤ j) := hide (fun j hj => by
                rcases hG4.lies j hj with e | e
                · exact unhide HW j e
                · have h1 := (unhide HK3).size; omega)
              have HI4 := hide hI4
              clear hI4 hG4 HP3 HK3 HI3
              go_wp2
              go_roundg k
              case rel => exact ⟨nm ++ [xm], s3, v', by omega, HN3, HI4, HP4, HK4, HF3, HD3, HL3, HW4, HR3⟩
              case measure => omega
          · rw [if_neg hc2] at HR2
            have HN3 : Hid (needN ts (.funcL nm) (needP ts [44] s') ≤ k) := hide (need_run (f := .funcL nm) (f' := .funcL nm) (hk ▸ unhide HN) hat' (PLe.refl s').need (fun _ c => absurd c hc2) (fun c => absurd hc c))
            have HF3 : Hid (Few (needP ts [44] s')) := hide ((unhide HF).same (need_ns _ _ _))
            have HD3 : Hid ((needP ts [44] s').dp ≤ 20) := hide (by rw [need_dp]; exact unhide HD)
            have HL3 : Hid (KN nm.length (needP ts [44] s')) := hide ((unhide HKL).same (PLe.refl s').need)
            have HR3 := hide HR2
            have e8 : ((needP ts [44] s').code == 0) = false := beq_eq_false_iff_ne.2 hc2
            clear HN HR2 ht hi hc hat' HF HD HKL hz
            go_wp2_with fail
            refine (unhide HT).mono ?_
            rintro e w2 ⟨rfl, hp2, hk2⟩
            have HI2 := hide ((unhide HI).byPK (unhide HP) hk2)
            have HK2 := hide ((unhide HK).trans hk2)
            have HP2 := hide hp2
            have HCN2 := hide (unhide HCN _ _ hp2)
            clear HT hp2 hk2 HK HP HI c4 HCN
            go_wp2_with fail
            refine (unhide HCN2).mono ?_
            rintro e w8 ⟨rfl, hp8, hk8⟩
            have c8 := hp8.cells.2.2.2.2.1
            have HP8 := hide hp8
            have HI8 := hide ((unhide HI2).byPK (unhide HP2) hk8)
            have HK8 := hide ((unhide HK2).trans hk8)
            clear HCN2 hp8 hk8 HK2 HP2 HI2
            go_wp2
            go_roundg k
            case rel => exact ⟨nm, _, v', by omega, HN3, HI8, HP8, HK8, HF3, HD3, HL3, HW, HR3⟩
            case measure => omega
        · have hzi : ¬ (0 : Int) < (nm.length : Int) := by omega
          rw [show comP ts nm.length s' = s' by unfold comP; rw [if_neg hz], if_pos hc] at HR2
          have HF3 : Hid (Few (nameP ts s').2) := hide ((unhide HF).same (name_ns _ _))
          have HD3 : Hid ((nameP ts s').2.dp ≤ 20) := hide (by rw [name_dp]; exact unhide HD)
          have HN3 : Hid (needN ts (.funcL (nm ++ [(nameP ts s').1])) (nameP ts s').2 ≤ k) := hide (need_on (f' := .funcL _) (hk ▸ unhide HN) hat' (PLe.refl s').name (PLt.name (PLe.refl s')) hc)
          have HL3 : Hid (KN (nm ++ [(nameP ts s').1]).length (nameP ts s').2) := hide (by rw [List.length_append]; exact (unhide HKL).step hc (PLe.refl s').name (PLt.name (PLe.refl s')))
          have HR3 := hide HR2
          have HSQ : Hid (∀ w2 (hp2 : PAt w2 g lp (lc.on (.slice ka nm.length kc)) ts v' s'), Calls Tryd.prog 138 #[.pointer (some ⟨g, 0, none⟩)] w2 fun e w' => e = .returned (.string (nameP ts s').1) ∧ PAt w' g lp (lc.on (.slice ka nm.length kc)) ts v' (nameP ts s').2 ∧ PK g v' v' w2 w') := hide (fun w2 hp2 => pname (unhide hTS) hp2)
          generalize (nameP ts s').1 = xm at HN3 HL3 HR3 HSQ
          generalize (nameP ts s').2 = s3 at HN3 HL3 HR3 HF3 HD3 HSQ
          clear HN HR2 ht hi hat' HF HD HKL hz
          go_wp2_with fail
          refine (unhide HT).mono ?_
          rintro e w2 ⟨rfl, hp2, hk2⟩
          have c8 := hp2.cells.2.2.2.2.1
          rw [hc] at c8
          have HPc := hide hp2
          have HIc := hide ((unhide HI).byPK (unhide HP) hk2)
          have HKc := hide ((unhide HK).trans hk2)
          have HCM := hide (unhide HSQ w2 hp2)
          clear HT hp2 hk2 HK HP HI c4 HSQ
          go_wp2_with fail
          refine (unhide HCM).mono ?_
          rintro e w3 ⟨rfl, hp3, hk3⟩
          have HI3 := hide (((unhide HIc).byPK (unhide HPc) hk3).alloc (.cells #[.string xm] 9))
          have HP3 := hide (hp3.alloc (.cells #[.string xm] 9))
          have HK3 := hide (((unhide HKc).trans hk3).alloc (.cells #[.string xm] 9))
          have hg3 := hp3.lt
          clear HCM HKc hp3 hk3 HIc HPc
          go_wp2_with (at_builtin; refine wp_appStrAt _ rfl _ _ rfl (g + 1) w3.heap.size _ nm xm rfl (unhide HI3) rfl (by simp) (by simp; omega) (by omega) ?c0)
          case c0 =>
            intro kv4 w4 hI4 hG4
            have HP4 := hide ((unhide HP3).app hG4 (fun j hj => hI4.own_lt j hj))
            have HK4 := hide ((unhide HK3).row hG4 (unhide HW))
            have HW4 : Hid (∀ j, kv4.ownBlock = some j → w.heap.size ≤ j) := hide (fun j hj => by
              rcases hG4.lies j hj with e | e
              · exact unhide HW j e
              · have h1 := (unhide HK3).size; omega)
            have HI4 := hide hI4
            clear hI4 hG4 HP3 HK3 HI3
            go_wp2
            go_roundg k
            case rel => exact ⟨nm ++ [xm], s3, v', by omega, HN3, HI4, HP4, HK4, HF3, HD3, HL3, HW4, HR3⟩
            case measure => omega
    · have e0 : (s'.code == 0) = false := beq_eq_false_iff_ne.2 hc
      rw [if_neg hc] at HR2
      subst HR2
      have HC2 := hide (unhide HB _ _ wr (unhide HP))
      have HP2 := HP
      have HI2 := HI
      have HK2 := HK
      clear hc hk HT HP HI HK
      go_wp2_with fail
      refine (unhide HC2).mono ?_
      rintro e w5 ⟨rfl, v5, hp5, hk5⟩
      have hlit : IntBuf (w5.alloc (.cells #[.int .i64 ob.r] 3)) w5.heap.size (.slice (some ⟨w5.heap.size, 0, none⟩) 1 1) [ob.r] := by simpa using IntBuf.lit w5 w5.heap.size [ob.r] (Nat.le_refl _) (by simp [maxLen])
      have HC6 := hide (pput (unhide hTS) ((hp5.drop).alloc (.cells #[.int .i64 ob.r] 3)) (unhide HFb) ⟨20, 0, xn, nm, [ob.r]⟩ (.slice ka nm.length kc) (.slice (some ⟨w5.heap.size, 0, none⟩) 1 1) (g + 1) w5.heap.size (((unhide HI2).byPK (unhide HP2) hk5).alloc _) hlit (by simp; omega) (by simp))
      have HK5 := hide (((unhide HK2).trans hk5).alloc (.cells #[.int .i64 ob.r] 3))
      clear HC2 hp5 hk5 HI2 HP2 HK2 hlit
      go_wp2_with fail
      refine (unhide HC6).mono ?_
      rintro e w3 ⟨rfl, v3, hp3, hk3⟩
      have HP3 := hide hp3
      have HK3 := hide ((unhide HK5).trans hk3)
      clear HC6 hp3 hk3 HK5
      go_wp2
      go_ret
      exact ⟨rfl, _, unhide HP3, unhide HK3⟩

end Go.Proofs.YtbipgmikgokfpaaDoor
