/- A bundle. -/
import Derived.Test.YtbipgmikgokfpaaDoorG07
import Derived.BigQuiet
import Derived.Deep.QuietTactic
import Derived.WalkSmall
import Derived.Test.YtbipgmikgokfpaaDoorG02
import Derived.Test.YtbipgmikgokfpaaDoorDigits
import Derived.ArgAppend
import Derived.Lib.ConvBytes
import Derived.Laws.BytesArg
import Derived.Test.YtbipgmikgokfpaaDoorGrowWalk3
import Derived.Test.YtbipgmikgokfpaaDoorSWalk3
import Derived.Test.YtbipgmikgokfpaaDoorG01

/- PInner2 -/
namespace Go.Proofs.YtbipgmikgokfpaaDoor
open Go.RowKit Go.Joins
set_option linter.unusedVariables false
attribute [local irreducible] run advP upP comP needP nameP putP downP failP isP tkP nextP setP

set_option maxHeartbeats 4000000 in
set_option maxRecDepth 100000 in
theorem pinner_do1 {ts : List V3} (hTS : Hid (TS ts)) (n : Nat) (ihE : Hid (∀ k, k ≤ n → PQ ts k .expr 168)) {g : Nat} {lp : Option Addr} {lc : PX} {v : Value} {s : PS} {w : World} (h : PAt w g lp lc ts v s) (hf : Few s) (hd : s.dp ≤ 20) (hn : needN ts .inner s ≤ n + 1) (h0 : tkP ts s [108, 101, 116] = false) (h1 : tkP ts s [105, 102] = false) (h2 : tkP ts s [119, 104, 105, 108, 101] = false) (h3 : tkP ts s [114, 101, 116, 117, 114, 110] = false) (h4 : tkP ts s [116, 104, 114, 111, 119] = false) (h5 : tkP ts s [116, 114, 121] = false) (h6 : isP ts s [123] = false) (hc : s.code = 0) (hset : ¬ setP ts s = true) (hxk : ¬ (nextP ts s).k = 1) :
    PZ 142 g lp lc ts v w (run ts (n + 1) .inner s) := by
  unfold PZ
  rw [run]
  rw [if_neg (nt h0), if_neg (nt h1), if_neg (nt h2), if_neg (nt h3), if_neg (nt h4), if_neg (nt h5), if_neg (nt h6), if_neg (fun h => h hc), if_neg hset, oneP]
  have hat := h.hat
  have HP := hide h
  have HK := hide (PK.refl g v w)
  have HF0 := hide hf
  have HD0 := hide hd
  have HL0 := hide (PLe.refl s)
  clear h hf hd
  have HX := hide (fun v w (hp : PAt w g lp lc ts v s) => pnext (unhide hTS) hp)
  unfold tokA at HX
  
  have HC1 := hide (fun v w (hp : PAt w g lp lc ts v s) => unhide ihE n (by omega) g lp lc v s w hp (by repeat (first | exact unhide HF0 | apply Few.put | refine Few.same ?_ (need_ns _ _ _) | refine Few.same ?_ (com_ns _ _ _) | refine Few.same ?_ (name_ns _ _) | refine Few.same ?_ (adv_ns _) | refine Few.same ?_ (up_ns _) | refine Few.same ?_ (down_ns _ _))) (by (repeat (first | rewrite [need_dp] | rewrite [com_dp] | rewrite [name_dp] | rewrite [adv_dp] | rewrite [put_dp])); exact unhide HD0) (need_run hn hat (PLe.refl s) (fun _ _ => .inl (by decide)) (fun c => absurd hc c)))
  have HF1 := hide (Few.run (ts := ts) (n := n) (f := .expr) (s := s) (by repeat (first | exact unhide HF0 | apply Few.put | refine Few.same ?_ (need_ns _ _ _) | refine Few.same ?_ (com_ns _ _ _) | refine Few.same ?_ (name_ns _ _) | refine Few.same ?_ (adv_ns _) | refine Few.same ?_ (up_ns _) | refine Few.same ?_ (down_ns _ _))))
  generalize run ts n .expr s = o1 at HC1 HF1 ⊢
  generalize nextP ts s = x at HX hxk ⊢
  obtain ⟨xk, xn, xt⟩ := x
  simp only at hxk
  go_enter Tryd.func142, Tryd.ntmps142
  have HC := hide (ptake (unhide hTS) (unhide HP) (⟨#[108, 101, 116]⟩ : ByteArray))
  unfold takeS at HC
  rw [show (⟨#[108, 101, 116]⟩ : ByteArray).data.toList = [108, 101, 116] from rfl, h0, if_neg (by simp)] at HC
  clear HP
  go_wp2_with fail
  refine (unhide HC).mono ?_
  rintro e w1 ⟨rfl, hp, hk⟩
  have HP := hide hp
  have HK2 := hide ((unhide HK).trans hk)
  clear HC hp hk HK
  have HK := HK2
  clear HK2
  have HC := hide (ptake (unhide hTS) (unhide HP) (⟨#[105, 102]⟩ : ByteArray))
  unfold takeS at HC
  rw [show (⟨#[105, 102]⟩ : ByteArray).data.toList = [105, 102] from rfl, h1, if_neg (by simp)] at HC
  clear HP
  go_wp2_with fail
  refine (unhide HC).mono ?_
  rintro e w2 ⟨rfl, hp, hk⟩
  have HP := hide hp
  have HK2 := hide ((unhide HK).trans hk)
  clear HC hp hk HK
  have HK := HK2
  clear HK2
  have HC := hide (ptake (unhide hTS) (unhide HP) (⟨#[119, 104, 105, 108, 101]⟩ : ByteArray))
  unfold takeS at HC
  rw [show (⟨#[119, 104, 105, 108, 101]⟩ : ByteArray).data.toList = [119, 104, 105, 108, 101] from rfl, h2, if_neg (by simp)] at HC
  clear HP
  go_wp2_with fail
  refine (unhide HC).mono ?_
  rintro e w3 ⟨rfl, hp, hk⟩
  have HP := hide hp
  have HK2 := hide ((unhide HK).trans hk)
  clear HC hp hk HK
  have HK := HK2
  clear HK2
  have HC := hide (ptake (unhide hTS) (unhide HP) (⟨#[114, 101, 116, 117, 114, 110]⟩ : ByteArray))
  unfold takeS at HC
  rw [show (⟨#[114, 101, 116, 117, 114, 110]⟩ : ByteArray).data.toList = [114, 101, 116, 117, 114, 110] from rfl, h3, if_neg (by simp)] at HC
  clear HP
  go_wp2_with fail
  refine (unhide HC).mono ?_
  rintro e w4 ⟨rfl, hp, hk⟩
  have HP := hide hp
  have HK2 := hide ((unhide HK).trans hk)
  clear HC hp hk HK
  have HK := HK2
  clear HK2
  have HC := hide (ptake (unhide hTS) (unhide HP) (⟨#[116, 104, 114, 111, 119]⟩ : ByteArray))
  unfold takeS at HC
  rw [show (⟨#[116, 104, 114, 111, 119]⟩ : ByteArray).data.toList = [116, 104, 114, 111, 119] from rfl, h4, if_neg (by simp)] at HC
  clear HP
  go_wp2_with fail
  refine (unhide HC).mono ?_
  rintro e w5 ⟨rfl, hp, hk⟩
  have HP := hide hp
  have HK2 := hide ((unhide HK).trans hk)
  clear HC hp hk HK
  have HK := HK2
  clear HK2
  have HC := hide (ptake (unhide hTS) (unhide HP) (⟨#[116, 114, 121]⟩ : ByteArray))
  unfold takeS at HC
  rw [show (⟨#[116, 114, 121]⟩ : ByteArray).data.toList = [116, 114, 121] from rfl, h5, if_neg (by simp)] at HC
  clear HP
  go_wp2_with fail
  refine (unhide HC).mono ?_
  rintro e w6 ⟨rfl, hp, hk⟩
  have HP := hide hp
  have HK2 := hide ((unhide HK).trans hk)
  clear HC hp hk HK
  have HK := HK2
  clear HK2
  have HC := hide (pis (unhide hTS) (unhide HP) (⟨#[123]⟩ : ByteArray))
  rw [show (⟨#[123]⟩ : ByteArray).data.toList = [123] from rfl, h6] at HC
  go_wp2_with fail
  refine (unhide HC).mono ?_
  rintro e w7 ⟨rfl, hb⟩
  have HP2 := hide ((unhide HP).later hb)
  have HK2 := hide ((unhide HK).then_below hb)
  clear HC hb HK HP
  have HK := HK2
  have HP := HP2
  clear HK2 HP2
  obtain ⟨c0, c1, c2, c3, c4, c5⟩ := (unhide HP).cells
  have hg := (unhide HP).lt
  rw [hc] at c4
  have HC := hide (unhide HX _ _ (unhide HP))
  clear HX
  go_wp2_with fail
  refine (unhide HC).mono ?_
  rintro e wx ⟨rfl, hb⟩
  have HPx := hide ((unhide HP).later hb)
  have HKx := hide ((unhide HK).then_below hb)
  clear HC hb HK HP c0 c1 c2 c3 c4 c5 hg
  obtain ⟨c0, c1, c2, c3, c4, c5⟩ := (unhide HPx).cells
  have hg := (unhide HPx).lt
  have hf3 := (unhide hTS).few
  have e1 : (xk == 1) = false := beq_eq_false_iff_ne.2 hxk
  go_wp2_with fail
  go_quiet (fail)
  go_wp2_with fail
  refine (unhide HC1 _ _ ((unhide HPx).later (below_drewN (nx_alloc _ _) _))).mono ?_
  rintro e w8 ⟨rfl, v8, hp, hk⟩
  have HP := hide hp
  have HK := hide (((unhide HKx).then_below (below_drewN (nx_alloc _ _) _)).trans hk)
  clear hp hk HPx HKx HC1 c0 c1 c2 c3 c4 c5
  have HC := hide (pneed (unhide hTS) (unhide HP) (⟨#[59]⟩ : ByteArray))
  rw [show (⟨#[59]⟩ : ByteArray).data.toList = [59] from rfl] at HC
  clear HP
  go_wp2_with fail
  refine (unhide HC).mono ?_
  rintro e w8 ⟨rfl, hp, hk⟩
  have HP := hide hp
  have HK2 := hide ((unhide HK).trans hk)
  clear HC hp hk HK
  have HK := HK2
  clear HK2
  have HC := hide (pput1 (unhide hTS) (unhide HP) (by repeat (first | exact unhide HF1 | apply Few.put | refine Few.same ?_ (need_ns _ _ _) | refine Few.same ?_ (com_ns _ _ _) | refine Few.same ?_ (name_ns _ _) | refine Few.same ?_ (adv_ns _) | refine Few.same ?_ (up_ns _) | refine Few.same ?_ (down_ns _ _))) 19 em o1.r)
  clear HP
  go_wp2_with fail
  refine (unhide HC).mono ?_
  rintro e w9 ⟨rfl, vp, hp, hk⟩
  have HP := hide hp
  have HK2 := hide ((unhide HK).trans hk)
  clear HC hp hk HK
  have HK := HK2
  clear HK2
  go_wp2
  go_ret
  exact ⟨rfl, _, unhide HP, unhide HK⟩

set_option maxHeartbeats 4000000 in
set_option maxRecDepth 100000 in
theorem pinner_do2 {ts : List V3} (hTS : Hid (TS ts)) (n : Nat) (ihE : Hid (∀ k, k ≤ n → PQ ts k .expr 168)) {g : Nat} {lp : Option Addr} {lc : PX} {v : Value} {s : PS} {w : World} (h : PAt w g lp lc ts v s) (hf : Few s) (hd : s.dp ≤ 20) (hn : needN ts .inner s ≤ n + 1) (h0 : tkP ts s [108, 101, 116] = false) (h1 : tkP ts s [105, 102] = false) (h2 : tkP ts s [119, 104, 105, 108, 101] = false) (h3 : tkP ts s [114, 101, 116, 117, 114, 110] = false) (h4 : tkP ts s [116, 104, 114, 111, 119] = false) (h5 : tkP ts s [116, 114, 121] = false) (h6 : isP ts s [123] = false) (hc : s.code = 0) (hset : ¬ setP ts s = true) (hxk : (nextP ts s).k = 1) (hr : ¬ s.at' + 1 < ts.length) :
    PZ 142 g lp lc ts v w (run ts (n + 1) .inner s) := by
  unfold PZ
  rw [run]
  rw [if_neg (nt h0), if_neg (nt h1), if_neg (nt h2), if_neg (nt h3), if_neg (nt h4), if_neg (nt h5), if_neg (nt h6), if_neg (fun h => h hc), if_neg hset, oneP]
  have hat := h.hat
  have HP := hide h
  have HK := hide (PK.refl g v w)
  have HF0 := hide hf
  have HD0 := hide hd
  have HL0 := hide (PLe.refl s)
  clear h hf hd
  have HX := hide (fun v w (hp : PAt w g lp lc ts v s) => pnext (unhide hTS) hp)
  unfold tokA at HX
  
  have HC1 := hide (fun v w (hp : PAt w g lp lc ts v s) => unhide ihE n (by omega) g lp lc v s w hp (by repeat (first | exact unhide HF0 | apply Few.put | refine Few.same ?_ (need_ns _ _ _) | refine Few.same ?_ (com_ns _ _ _) | refine Few.same ?_ (name_ns _ _) | refine Few.same ?_ (adv_ns _) | refine Few.same ?_ (up_ns _) | refine Few.same ?_ (down_ns _ _))) (by (repeat (first | rewrite [need_dp] | rewrite [com_dp] | rewrite [name_dp] | rewrite [adv_dp] | rewrite [put_dp])); exact unhide HD0) (need_run hn hat (PLe.refl s) (fun _ _ => .inl (by decide)) (fun c => absurd hc c)))
  have HF1 := hide (Few.run (ts := ts) (n := n) (f := .expr) (s := s) (by repeat (first | exact unhide HF0 | apply Few.put | refine Few.same ?_ (need_ns _ _ _) | refine Few.same ?_ (com_ns _ _ _) | refine Few.same ?_ (name_ns _ _) | refine Few.same ?_ (adv_ns _) | refine Few.same ?_ (up_ns _) | refine Few.same ?_ (down_ns _ _))))
  generalize run ts n .expr s = o1 at HC1 HF1 ⊢
  generalize nextP ts s = x at HX hxk ⊢
  obtain ⟨xk, xn, xt⟩ := x
  simp only at hxk
  go_enter Tryd.func142, Tryd.ntmps142
  have HC := hide (ptake (unhide hTS) (unhide HP) (⟨#[108, 101, 116]⟩ : ByteArray))
  unfold takeS at HC
  rw [show (⟨#[108, 101, 116]⟩ : ByteArray).data.toList = [108, 101, 116] from rfl, h0, if_neg (by simp)] at HC
  clear HP
  go_wp2_with fail
  refine (unhide HC).mono ?_
  rintro e w1 ⟨rfl, hp, hk⟩
  have HP := hide hp
  have HK2 := hide ((unhide HK).trans hk)
  clear HC hp hk HK
  have HK := HK2
  clear HK2
  have HC := hide (ptake (unhide hTS) (unhide HP) (⟨#[105, 102]⟩ : ByteArray))
  unfold takeS at HC
  rw [show (⟨#[105, 102]⟩ : ByteArray).data.toList = [105, 102] from rfl, h1, if_neg (by simp)] at HC
  clear HP
  go_wp2_with fail
  refine (unhide HC).mono ?_
  rintro e w2 ⟨rfl, hp, hk⟩
  have HP := hide hp
  have HK2 := hide ((unhide HK).trans hk)
  clear HC hp hk HK
  have HK := HK2
  clear HK2
  have HC := hide (ptake (unhide hTS) (unhide HP) (⟨#[119, 104, 105, 108, 101]⟩ : ByteArray))
  unfold takeS at HC
  rw [show (⟨#[119, 104, 105, 108, 101]⟩ : ByteArray).data.toList = [119, 104, 105, 108, 101] from rfl, h2, if_neg (by simp)] at HC
  clear HP
  go_wp2_with fail
  refine (unhide HC).mono ?_
  rintro e w3 ⟨rfl, hp, hk⟩
  have HP := hide hp
  have HK2 := hide ((unhide HK).trans hk)
  clear HC hp hk HK
  have HK := HK2
  clear HK2
  have HC := hide (ptake (unhide hTS) (unhide HP) (⟨#[114, 101, 116, 117, 114, 110]⟩ : ByteArray))
  unfold takeS at HC
  rw [show (⟨#[114, 101, 116, 117, 114, 110]⟩ : ByteArray).data.toList = [114, 101, 116, 117, 114, 110] from rfl, h3, if_neg (by simp)] at HC
  clear HP
  go_wp2_with fail
  refine (unhide HC).mono ?_
  rintro e w4 ⟨rfl, hp, hk⟩
  have HP := hide hp
  have HK2 := hide ((unhide HK).trans hk)
  clear HC hp hk HK
  have HK := HK2
  clear HK2
  have HC := hide (ptake (unhide hTS) (unhide HP) (⟨#[116, 104, 114, 111, 119]⟩ : ByteArray))
  unfold takeS at HC
  rw [show (⟨#[116, 104, 114, 111, 119]⟩ : ByteArray).data.toList = [116, 104, 114, 111, 119] from rfl, h4, if_neg (by simp)] at HC
  clear HP
  go_wp2_with fail
  refine (unhide HC).mono ?_
  rintro e w5 ⟨rfl, hp, hk⟩
  have HP := hide hp
  have HK2 := hide ((unhide HK).trans hk)
  clear HC hp hk HK
  have HK := HK2
  clear HK2
  have HC := hide (ptake (unhide hTS) (unhide HP) (⟨#[116, 114, 121]⟩ : ByteArray))
  unfold takeS at HC
  rw [show (⟨#[116, 114, 121]⟩ : ByteArray).data.toList = [116, 114, 121] from rfl, h5, if_neg (by simp)] at HC
  clear HP
  go_wp2_with fail
  refine (unhide HC).mono ?_
  rintro e w6 ⟨rfl, hp, hk⟩
  have HP := hide hp
  have HK2 := hide ((unhide HK).trans hk)
  clear HC hp hk HK
  have HK := HK2
  clear HK2
  have HC := hide (pis (unhide hTS) (unhide HP) (⟨#[123]⟩ : ByteArray))
  rw [show (⟨#[123]⟩ : ByteArray).data.toList = [123] from rfl, h6] at HC
  go_wp2_with fail
  refine (unhide HC).mono ?_
  rintro e w7 ⟨rfl, hb⟩
  have HP2 := hide ((unhide HP).later hb)
  have HK2 := hide ((unhide HK).then_below hb)
  clear HC hb HK HP
  have HK := HK2
  have HP := HP2
  clear HK2 HP2
  obtain ⟨c0, c1, c2, c3, c4, c5⟩ := (unhide HP).cells
  have hg := (unhide HP).lt
  rw [hc] at c4
  have HC := hide (unhide HX _ _ (unhide HP))
  clear HX
  go_wp2_with fail
  refine (unhide HC).mono ?_
  rintro e wx ⟨rfl, hb⟩
  have HPx := hide ((unhide HP).later hb)
  have HKx := hide ((unhide HK).then_below hb)
  clear HC hb HK HP c0 c1 c2 c3 c4 c5 hg
  obtain ⟨c0, c1, c2, c3, c4, c5⟩ := (unhide HPx).cells
  have hg := (unhide HPx).lt
  have hf3 := (unhide hTS).few
  subst hxk
  have hri : ¬ (s.at' : Int) + 1 < (ts.length : Int) := by omega
  have hrd : decide ((s.at' : Int) + 1 < (ts.length : Int)) = false := decide_eq_false hri
  go_wp2_with fail
  go_quiet (fail)
  go_wp2_with fail
  refine (unhide HC1 _ _ ((unhide HPx).later (below_drewN (nx_alloc _ _) _))).mono ?_
  rintro e w8 ⟨rfl, v8, hp, hk⟩
  have HP := hide hp
  have HK := hide (((unhide HKx).then_below (below_drewN (nx_alloc _ _) _)).trans hk)
  clear hp hk HPx HKx HC1 c0 c1 c2 c3 c4 c5
  have HC := hide (pneed (unhide hTS) (unhide HP) (⟨#[59]⟩ : ByteArray))
  rw [show (⟨#[59]⟩ : ByteArray).data.toList = [59] from rfl] at HC
  clear HP
  go_wp2_with fail
  refine (unhide HC).mono ?_
  rintro e w8 ⟨rfl, hp, hk⟩
  have HP := hide hp
  have HK2 := hide ((unhide HK).trans hk)
  clear HC hp hk HK
  have HK := HK2
  clear HK2
  have HC := hide (pput1 (unhide hTS) (unhide HP) (by repeat (first | exact unhide HF1 | apply Few.put | refine Few.same ?_ (need_ns _ _ _) | refine Few.same ?_ (com_ns _ _ _) | refine Few.same ?_ (name_ns _ _) | refine Few.same ?_ (adv_ns _) | refine Few.same ?_ (up_ns _) | refine Few.same ?_ (down_ns _ _))) 19 em o1.r)
  clear HP
  go_wp2_with fail
  refine (unhide HC).mono ?_
  rintro e w9 ⟨rfl, vp, hp, hk⟩
  have HP := hide hp
  have HK2 := hide ((unhide HK).trans hk)
  clear HC hp hk HK
  have HK := HK2
  clear HK2
  go_wp2
  go_ret
  exact ⟨rfl, _, unhide HP, unhide HK⟩

end Go.Proofs.YtbipgmikgokfpaaDoor

/- PStmt -/
namespace Go.Proofs.YtbipgmikgokfpaaDoor
open Go.RowKit Go.Joins
set_option linter.unusedVariables false
attribute [local irreducible] run advP upP comP needP nameP putP downP failP isP tkP nextP setP

set_option maxHeartbeats 4000000 in
set_option maxRecDepth 100000 in
theorem pstmt_ok {ts : List V3} (hTS : Hid (TS ts)) (n : Nat) (ihI : Hid (∀ k, k ≤ n → PQ ts k .inner 142)) {g : Nat} {lp : Option Addr} {lc : PX} {v : Value} {s : PS} {w : World} (h : PAt w g lp lc ts v s) (hf : Few s) (hd : s.dp ≤ 20) (hn : needN ts .stmt s ≤ n + 1) (hy : (downP ts s).code = 0) :
    PZ 108 g lp lc ts v w (run ts (n + 1) .stmt s) := by
  unfold PZ
  rw [run]
  rw [if_pos hy, retP]
  have hat := h.hat
  have HP := hide h
  have HK := hide (PK.refl g v w)
  have HF0 := hide hf
  have HD0 := hide hd
  have HL0 := hide (PLe.refl s)
  clear h hf hd
  have hc := (PLe.refl s).down.c0 hy
  have hdk := down_ok hy
  have HC1 := hide (fun v w (hp : PAt w g lp lc ts v (downP ts s)) => unhide ihI n (by omega) g lp lc v (downP ts s) w hp ((unhide HF0).same (down_ns _ _)) (by rw [down_dp]; exact hdk) (need_run hn hat (PLe.refl s).down (fun _ _ => .inl (by decide)) (fun c => absurd hc c)))
  have HDq : Hid ((run ts n .inner (downP ts s)).s.dp = s.dp + 1) := hide (by rw [run_dp, down_dp])
  generalize run ts n .inner (downP ts s) = o1 at HC1 HDq ⊢
  go_enter Tryd.func108, Tryd.ntmps108
  have HC := hide (pdown (unhide hTS) (unhide HP) (by (repeat (first | rewrite [need_dp] | rewrite [com_dp] | rewrite [name_dp] | rewrite [adv_dp] | rewrite [put_dp])); exact unhide HD0))
  rw [show ((downP ts s).code == 0) = true from (by rw [hy]; rfl)] at HC
  clear HP
  go_wp2_with fail
  refine (unhide HC).mono ?_
  rintro e w1 ⟨rfl, hp, hk⟩
  have HP := hide hp
  have HK2 := hide ((unhide HK).trans hk)
  clear HC hp hk HK
  have HK := HK2
  clear HK2
  have HC := hide (unhide HC1 _ _ (unhide HP))
  clear HP HC1
  go_wp2_with fail
  refine (unhide HC).mono ?_
  rintro e w9 ⟨rfl, v9, hp, hk⟩
  have HP := hide hp
  have HK2 := hide ((unhide HK).trans hk)
  clear HC hp hk HK
  have HK := HK2
  clear HK2
  have c3 := (unhide HP).cells.2.2.2.1
  have z3 := (unhide HP).free 3
  have hg := (unhide HP).lt
  have hdq : o1.s.dp = s.dp + 1 := unhide HDq
  rw [hdq] at c3
  have hdl := unhide HD0
  have HP2 := hide ((unhide HP).up1 hdq)
  have HK2 := hide ((unhide HK).set (o := 3) (x := .int .i64 (s.dp : Int)))
  clear HP HK hdq
  have HK := HK2
  have HP := HP2
  clear HK2 HP2
  go_wp2
  go_ret
  exact ⟨rfl, _, unhide HP, unhide HK⟩

set_option maxHeartbeats 4000000 in
set_option maxRecDepth 100000 in
theorem pstmt_bad {ts : List V3} (hTS : Hid (TS ts)) (n : Nat) {g : Nat} {lp : Option Addr} {lc : PX} {v : Value} {s : PS} {w : World} (h : PAt w g lp lc ts v s) (hf : Few s) (hd : s.dp ≤ 20) (hn : needN ts .stmt s ≤ n + 1) (hy : ¬ (downP ts s).code = 0) :
    PZ 108 g lp lc ts v w (run ts (n + 1) .stmt s) := by
  unfold PZ
  rw [run]
  rw [if_neg hy, retP]
  have hat := h.hat
  have HP := hide h
  have HK := hide (PK.refl g v w)
  have HF0 := hide hf
  have HD0 := hide hd
  have HL0 := hide (PLe.refl s)
  clear h hf hd
  go_enter Tryd.func108, Tryd.ntmps108
  have HC := hide (pdown (unhide hTS) (unhide HP) (by (repeat (first | rewrite [need_dp] | rewrite [com_dp] | rewrite [name_dp] | rewrite [adv_dp] | rewrite [put_dp])); exact unhide HD0))
  rw [show ((downP ts s).code == 0) = false from (beq_eq_false_iff_ne.2 hy)] at HC
  clear HP
  go_wp2_with fail
  refine (unhide HC).mono ?_
  rintro e w1 ⟨rfl, hp, hk⟩
  have HP := hide hp
  have HK2 := hide ((unhide HK).trans hk)
  clear HC hp hk HK
  have HK := HK2
  clear HK2
  have c3 := (unhide HP).cells.2.2.2.1
  have z3 := (unhide HP).free 3
  have hg := (unhide HP).lt
  have hdq : (downP ts s).dp = s.dp + 1 := (by rw [down_dp])
  rw [hdq] at c3
  have hdl := unhide HD0
  have HP2 := hide ((unhide HP).up1 hdq)
  have HK2 := hide ((unhide HK).set (o := 3) (x := .int .i64 (s.dp : Int)))
  clear HP HK hdq
  have HK := HK2
  have HP := HP2
  clear HK2 HP2
  go_wp2
  go_ret
  exact ⟨rfl, _, unhide HP, unhide HK⟩

theorem pstmt_step {ts : List V3} (hTS : Hid (TS ts)) (n : Nat) (ihI : Hid (∀ k, k ≤ n → PQ ts k .inner 142)) : PQ ts (n + 1) .stmt 108 := by
  intro g lp lc v s w h hf hd hn
  by_cases hy : (downP ts s).code = 0
  · exact pstmt_ok hTS n ihI h hf hd hn hy
  · exact pstmt_bad hTS n h hf hd hn hy

end Go.Proofs.YtbipgmikgokfpaaDoor

/- PSign -/
namespace Go.Proofs.YtbipgmikgokfpaaDoor
open Go.RowKit Go.Joins
set_option linter.unusedVariables false
attribute [local irreducible] run advP upP comP needP nameP putP downP failP isP tkP nextP setP

set_option maxHeartbeats 4000000 in
set_option maxRecDepth 100000 in
theorem psign_1 {ts : List V3} (hTS : Hid (TS ts)) (n : Nat) (ihG : Hid (∀ k, k ≤ n → PQ ts k .sign 195)) {g : Nat} {lp : Option Addr} {lc : PX} {v : Value} {s : PS} {w : World} (h : PAt w g lp lc ts v s) (hf : Few s) (hd : s.dp ≤ 20) (hn : needN ts .sign s ≤ n + 1) (hc : s.code = 0) (hi : isP ts s [33] = true) (hy : (downP ts (advP s)).code = 0) :
    PZ 195 g lp lc ts v w (run ts (n + 1) .sign s) := by
  unfold PZ
  rw [run]
  rw [if_pos ⟨hc, .inl hi⟩, if_pos hy, oneP]
  have hat := h.hat
  have HP := hide h
  have HK := hide (PK.refl g v w)
  have HF0 := hide hf
  have HD0 := hide hd
  have HL0 := hide (PLe.refl s)
  clear h hf hd
  have hlt := is_lt hi
  have HX := hide (fun v w (hp : PAt w g lp lc ts v s) => pnext (unhide hTS) hp)
  unfold tokA at HX
  have hdk := down_ok hy
  have HC1 := hide (fun v w (hp : PAt w g lp lc ts v (downP ts (advP s))) => unhide ihG n (by omega) g lp lc v (downP ts (advP s)) w hp (((unhide HF0).same (adv_ns _)).same (down_ns _ _)) (by rw [down_dp]; exact hdk) (need_on hn hat (PLe.refl s).adv.down ((PLt.adv (PLe.refl s)).le (PLe.refl _).down) hc))
  have HDq : Hid ((run ts n .sign (downP ts (advP s))).s.dp = s.dp + 1) := hide (by rw [run_dp, down_dp, adv_dp])
  have HF1 := hide (Few.run (ts := ts) (n := n) (f := .sign) (((unhide HF0).same (adv_ns s)).same (down_ns ts _)))
  generalize run ts n .sign (downP ts (advP s)) = o1 at HC1 HDq HF1 ⊢
  generalize nextP ts s = x at HX ⊢
  go_enter Tryd.func195, Tryd.ntmps195
  obtain ⟨c0, c1, c2, c3, c4, c5⟩ := (unhide HP).cells
  have hg := (unhide HP).lt
  rw [hc] at c4
  have HC := hide (pis (unhide hTS) (unhide HP) (⟨#[33]⟩ : ByteArray))
  rw [show (⟨#[33]⟩ : ByteArray).data.toList = [33] from rfl, hi] at HC
  go_wp2_with fail
  refine (unhide HC).mono ?_
  rintro e w1 ⟨rfl, hb⟩
  have HP2 := hide ((unhide HP).later hb)
  have HK2 := hide ((unhide HK).then_below hb)
  clear HC hb HK HP
  have HK := HK2
  have HP := HP2
  clear HK2 HP2
  have HC := hide (unhide HX _ _ (unhide HP))
  clear HX c0 c1 c2 c3 c4 c5 hg
  go_wp2_with fail
  refine (unhide HC).mono ?_
  rintro e wx ⟨rfl, hb⟩
  have hfd := fieldTok2 x.k x.n x.t wx
  have HP2 := hide ((unhide HP).later hb)
  have HK2 := hide ((unhide HK).then_below hb)
  clear HC hb HK HP
  have HK := HK2
  have HP := HP2
  clear HK2 HP2
  obtain ⟨c0, c1, c2, c3, c4, c5⟩ := (unhide HP).cells
  have z1 := (unhide HP).free 1
  have hf3 := (unhide hTS).few
  have hg := (unhide HP).lt
  have HP2 := hide ((unhide HP).adv hlt)
  have HK2 := hide ((unhide HK).set (o := 1) (x := .int .i64 ((s.at' : Int) + 1)))
  clear HP HK
  have HK := HK2
  have HP := HP2
  clear HK2 HP2 c0 c2 c3 c4 c5
  have HD1 := HD0
  have HC := hide (pdown (unhide hTS) (unhide HP) (by (repeat (first | rewrite [need_dp] | rewrite [com_dp] | rewrite [name_dp] | rewrite [adv_dp] | rewrite [put_dp])); exact unhide HD1))
  rw [show ((downP ts (advP s)).code == 0) = true from (by rw [hy]; rfl)] at HC
  clear HP
  go_wp2_with fail
  refine (unhide HC).mono ?_
  rintro e w2 ⟨rfl, hp, hk⟩
  have HP := hide hp
  have HK2 := hide ((unhide HK).trans hk)
  clear HC hp hk HK
  have HK := HK2
  clear HK2
  clear c1 z1 hf3 hg hfd
  have HC := hide (unhide HC1 _ _ (unhide HP))
  clear HP HC1
  go_wp2_with fail
  refine (unhide HC).mono ?_
  rintro e w9 ⟨rfl, v9, hp, hk⟩
  have HP := hide hp
  have HK2 := hide ((unhide HK).trans hk)
  clear HC hp hk HK
  have HK := HK2
  clear HK2
  have c3 := (unhide HP).cells.2.2.2.1
  have z3 := (unhide HP).free 3
  have hg := (unhide HP).lt
  have hdq : o1.s.dp = s.dp + 1 := unhide HDq
  rw [hdq] at c3
  have hdl := unhide HD0
  have HP2 := hide ((unhide HP).up1 hdq)
  have HK2 := hide ((unhide HK).set (o := 3) (x := .int .i64 (s.dp : Int)))
  clear HP HK hdq
  have HK := HK2
  have HP := HP2
  clear HK2 HP2
  have HC := hide (pput1 (unhide hTS) (unhide HP) (by repeat (first | exact unhide HF1 | apply Few.put | refine Few.same ?_ (need_ns _ _ _) | refine Few.same ?_ (com_ns _ _ _) | refine Few.same ?_ (name_ns _ _) | refine Few.same ?_ (adv_ns _) | refine Few.same ?_ (up_ns _) | refine Few.same ?_ (down_ns _ _))) 6 x.t o1.r)
  rw [World.size_setCell] at HC
  clear HP
  go_wp2_with fail
  refine (unhide HC).mono ?_
  rintro e w3 ⟨rfl, vp, hp, hk⟩
  have HP := hide hp
  have HK2 := hide ((unhide HK).trans hk)
  clear HC hp hk HK
  have HK := HK2
  clear HK2
  go_wp2
  go_ret
  exact ⟨rfl, _, unhide HP, unhide HK⟩

set_option maxHeartbeats 4000000 in
set_option maxRecDepth 100000 in
theorem psign_2 {ts : List V3} (hTS : Hid (TS ts)) (n : Nat) {g : Nat} {lp : Option Addr} {lc : PX} {v : Value} {s : PS} {w : World} (h : PAt w g lp lc ts v s) (hf : Few s) (hd : s.dp ≤ 20) (hn : needN ts .sign s ≤ n + 1) (hc : s.code = 0) (hi : isP ts s [33] = true) (hy : ¬ (downP ts (advP s)).code = 0) :
    PZ 195 g lp lc ts v w (run ts (n + 1) .sign s) := by
  unfold PZ
  rw [run]
  rw [if_pos ⟨hc, .inl hi⟩, if_neg hy, retP]
  have hat := h.hat
  have HP := hide h
  have HK := hide (PK.refl g v w)
  have HF0 := hide hf
  have HD0 := hide hd
  have HL0 := hide (PLe.refl s)
  clear h hf hd
  have hlt := is_lt hi
  have HX := hide (fun v w (hp : PAt w g lp lc ts v s) => pnext (unhide hTS) hp)
  unfold tokA at HX
  generalize nextP ts s = x at HX ⊢
  go_enter Tryd.func195, Tryd.ntmps195
  obtain ⟨c0, c1, c2, c3, c4, c5⟩ := (unhide HP).cells
  have hg := (unhide HP).lt
  rw [hc] at c4
  have HC := hide (pis (unhide hTS) (unhide HP) (⟨#[33]⟩ : ByteArray))
  rw [show (⟨#[33]⟩ : ByteArray).data.toList = [33] from rfl, hi] at HC
  go_wp2_with fail
  refine (unhide HC).mono ?_
  rintro e w1 ⟨rfl, hb⟩
  have HP2 := hide ((unhide HP).later hb)
  have HK2 := hide ((unhide HK).then_below hb)
  clear HC hb HK HP
  have HK := HK2
  have HP := HP2
  clear HK2 HP2
  have HC := hide (unhide HX _ _ (unhide HP))
  clear HX c0 c1 c2 c3 c4 c5 hg
  go_wp2_with fail
  refine (unhide HC).mono ?_
  rintro e wx ⟨rfl, hb⟩
  have hfd := fieldTok2 x.k x.n x.t wx
  have HP2 := hide ((unhide HP).later hb)
  have HK2 := hide ((unhide HK).then_below hb)
  clear HC hb HK HP
  have HK := HK2
  have HP := HP2
  clear HK2 HP2
  obtain ⟨c0, c1, c2, c3, c4, c5⟩ := (unhide HP).cells
  have z1 := (unhide HP).free 1
  have hf3 := (unhide hTS).few
  have hg := (unhide HP).lt
  have HP2 := hide ((unhide HP).adv hlt)
  have HK2 := hide ((unhide HK).set (o := 1) (x := .int .i64 ((s.at' : Int) + 1)))
  clear HP HK
  have HK := HK2
  have HP := HP2
  clear HK2 HP2 c0 c2 c3 c4 c5
  have HD1 := HD0
  have HC := hide (pdown (unhide hTS) (unhide HP) (by (repeat (first | rewrite [need_dp] | rewrite [com_dp] | rewrite [name_dp] | rewrite [adv_dp] | rewrite [put_dp])); exact unhide HD1))
  rw [show ((downP ts (advP s)).code == 0) = false from (beq_eq_false_iff_ne.2 hy)] at HC
  clear HP
  go_wp2_with fail
  refine (unhide HC).mono ?_
  rintro e w2 ⟨rfl, hp, hk⟩
  have HP := hide hp
  have HK2 := hide ((unhide HK).trans hk)
  clear HC hp hk HK
  have HK := HK2
  clear HK2
  clear c1 z1 hf3 hg hfd
  have c3 := (unhide HP).cells.2.2.2.1
  have z3 := (unhide HP).free 3
  have hg := (unhide HP).lt
  have hdq : (downP ts (advP s)).dp = s.dp + 1 := (by rw [down_dp, adv_dp])
  rw [hdq] at c3
  have hdl := unhide HD0
  have HP2 := hide ((unhide HP).up1 hdq)
  have HK2 := hide ((unhide HK).set (o := 3) (x := .int .i64 (s.dp : Int)))
  clear HP HK hdq
  have HK := HK2
  have HP := HP2
  clear HK2 HP2
  go_wp2
  go_ret
  exact ⟨rfl, _, unhide HP, unhide HK⟩

set_option maxHeartbeats 4000000 in
set_option maxRecDepth 100000 in
theorem psign_3 {ts : List V3} (hTS : Hid (TS ts)) (n : Nat) (ihG : Hid (∀ k, k ≤ n → PQ ts k .sign 195)) {g : Nat} {lp : Option Addr} {lc : PX} {v : Value} {s : PS} {w : World} (h : PAt w g lp lc ts v s) (hf : Few s) (hd : s.dp ≤ 20) (hn : needN ts .sign s ≤ n + 1) (hc : s.code = 0) (hi0 : isP ts s [33] = false) (hi : isP ts s [45] = true) (hy : (downP ts (advP s)).code = 0) :
    PZ 195 g lp lc ts v w (run ts (n + 1) .sign s) := by
  unfold PZ
  rw [run]
  rw [if_pos ⟨hc, .inr hi⟩, if_pos hy, oneP]
  have hat := h.hat
  have HP := hide h
  have HK := hide (PK.refl g v w)
  have HF0 := hide hf
  have HD0 := hide hd
  have HL0 := hide (PLe.refl s)
  clear h hf hd
  have hlt := is_lt hi
  have HX := hide (fun v w (hp : PAt w g lp lc ts v s) => pnext (unhide hTS) hp)
  unfold tokA at HX
  have hdk := down_ok hy
  have HC1 := hide (fun v w (hp : PAt w g lp lc ts v (downP ts (advP s))) => unhide ihG n (by omega) g lp lc v (downP ts (advP s)) w hp (((unhide HF0).same (adv_ns _)).same (down_ns _ _)) (by rw [down_dp]; exact hdk) (need_on hn hat (PLe.refl s).adv.down ((PLt.adv (PLe.refl s)).le (PLe.refl _).down) hc))
  have HDq : Hid ((run ts n .sign (downP ts (advP s))).s.dp = s.dp + 1) := hide (by rw [run_dp, down_dp, adv_dp])
  have HF1 := hide (Few.run (ts := ts) (n := n) (f := .sign) (((unhide HF0).same (adv_ns s)).same (down_ns ts _)))
  generalize run ts n .sign (downP ts (advP s)) = o1 at HC1 HDq HF1 ⊢
  generalize nextP ts s = x at HX ⊢
  go_enter Tryd.func195, Tryd.ntmps195
  obtain ⟨c0, c1, c2, c3, c4, c5⟩ := (unhide HP).cells
  have hg := (unhide HP).lt
  rw [hc] at c4
  have HC := hide (pis (unhide hTS) (unhide HP) (⟨#[33]⟩ : ByteArray))
  rw [show (⟨#[33]⟩ : ByteArray).data.toList = [33] from rfl, hi0] at HC
  go_wp2_with fail
  refine (unhide HC).mono ?_
  rintro e w1 ⟨rfl, hb⟩
  have HP2 := hide ((unhide HP).later hb)
  have HK2 := hide ((unhide HK).then_below hb)
  clear HC hb HK HP
  have HK := HK2
  have HP := HP2
  clear HK2 HP2
  have HC := hide (pis (unhide hTS) (unhide HP) (⟨#[45]⟩ : ByteArray))
  rw [show (⟨#[45]⟩ : ByteArray).data.toList = [45] from rfl, hi] at HC
  go_wp2_with fail
  refine (unhide HC).mono ?_
  rintro e w2 ⟨rfl, hb⟩
  have HP2 := hide ((unhide HP).later hb)
  have HK2 := hide ((unhide HK).then_below hb)
  clear HC hb HK HP
  have HK := HK2
  have HP := HP2
  clear HK2 HP2
  have HC := hide (unhide HX _ _ (unhide HP))
  clear HX c0 c1 c2 c3 c4 c5 hg
  go_wp2_with fail
  refine (unhide HC).mono ?_
  rintro e wx ⟨rfl, hb⟩
  have hfd := fieldTok2 x.k x.n x.t wx
  have HP2 := hide ((unhide HP).later hb)
  have HK2 := hide ((unhide HK).then_below hb)
  clear HC hb HK HP
  have HK := HK2
  have HP := HP2
  clear HK2 HP2
  obtain ⟨c0, c1, c2, c3, c4, c5⟩ := (unhide HP).cells
  have z1 := (unhide HP).free 1
  have hf3 := (unhide hTS).few
  have hg := (unhide HP).lt
  have HP2 := hide ((unhide HP).adv hlt)
  have HK2 := hide ((unhide HK).set (o := 1) (x := .int .i64 ((s.at' : Int) + 1)))
  clear HP HK
  have HK := HK2
  have HP := HP2
  clear HK2 HP2 c0 c2 c3 c4 c5
  have HD1 := HD0
  have HC := hide (pdown (unhide hTS) (unhide HP) (by (repeat (first | rewrite [need_dp] | rewrite [com_dp] | rewrite [name_dp] | rewrite [adv_dp] | rewrite [put_dp])); exact unhide HD1))
  rw [show ((downP ts (advP s)).code == 0) = true from (by rw [hy]; rfl)] at HC
  clear HP
  go_wp2_with fail
  refine (unhide HC).mono ?_
  rintro e w3 ⟨rfl, hp, hk⟩
  have HP := hide hp
  have HK2 := hide ((unhide HK).trans hk)
  clear HC hp hk HK
  have HK := HK2
  clear HK2
  clear c1 z1 hf3 hg hfd
  have HC := hide (unhide HC1 _ _ (unhide HP))
  clear HP HC1
  go_wp2_with fail
  refine (unhide HC).mono ?_
  rintro e w9 ⟨rfl, v9, hp, hk⟩
  have HP := hide hp
  have HK2 := hide ((unhide HK).trans hk)
  clear HC hp hk HK
  have HK := HK2
  clear HK2
  have c3 := (unhide HP).cells.2.2.2.1
  have z3 := (unhide HP).free 3
  have hg := (unhide HP).lt
  have hdq : o1.s.dp = s.dp + 1 := unhide HDq
  rw [hdq] at c3
  have hdl := unhide HD0
  have HP2 := hide ((unhide HP).up1 hdq)
  have HK2 := hide ((unhide HK).set (o := 3) (x := .int .i64 (s.dp : Int)))
  clear HP HK hdq
  have HK := HK2
  have HP := HP2
  clear HK2 HP2
  have HC := hide (pput1 (unhide hTS) (unhide HP) (by repeat (first | exact unhide HF1 | apply Few.put | refine Few.same ?_ (need_ns _ _ _) | refine Few.same ?_ (com_ns _ _ _) | refine Few.same ?_ (name_ns _ _) | refine Few.same ?_ (adv_ns _) | refine Few.same ?_ (up_ns _) | refine Few.same ?_ (down_ns _ _))) 6 x.t o1.r)
  rw [World.size_setCell] at HC
  clear HP
  go_wp2_with fail
  refine (unhide HC).mono ?_
  rintro e w4 ⟨rfl, vp, hp, hk⟩
  have HP := hide hp
  have HK2 := hide ((unhide HK).trans hk)
  clear HC hp hk HK
  have HK := HK2
  clear HK2
  go_wp2
  go_ret
  exact ⟨rfl, _, unhide HP, unhide HK⟩

set_option maxHeartbeats 4000000 in
set_option maxRecDepth 100000 in
theorem psign_4 {ts : List V3} (hTS : Hid (TS ts)) (n : Nat) {g : Nat} {lp : Option Addr} {lc : PX} {v : Value} {s : PS} {w : World} (h : PAt w g lp lc ts v s) (hf : Few s) (hd : s.dp ≤ 20) (hn : needN ts .sign s ≤ n + 1) (hc : s.code = 0) (hi0 : isP ts s [33] = false) (hi : isP ts s [45] = true) (hy : ¬ (downP ts (advP s)).code = 0) :
    PZ 195 g lp lc ts v w (run ts (n + 1) .sign s) := by
  unfold PZ
  rw [run]
  rw [if_pos ⟨hc, .inr hi⟩, if_neg hy, retP]
  have hat := h.hat
  have HP := hide h
  have HK := hide (PK.refl g v w)
  have HF0 := hide hf
  have HD0 := hide hd
  have HL0 := hide (PLe.refl s)
  clear h hf hd
  have hlt := is_lt hi
  have HX := hide (fun v w (hp : PAt w g lp lc ts v s) => pnext (unhide hTS) hp)
  unfold tokA at HX
  generalize nextP ts s = x at HX ⊢
  go_enter Tryd.func195, Tryd.ntmps195
  obtain ⟨c0, c1, c2, c3, c4, c5⟩ := (unhide HP).cells
  have hg := (unhide HP).lt
  rw [hc] at c4
  have HC := hide (pis (unhide hTS) (unhide HP) (⟨#[33]⟩ : ByteArray))
  rw [show (⟨#[33]⟩ : ByteArray).data.toList = [33] from rfl, hi0] at HC
  go_wp2_with fail
  refine (unhide HC).mono ?_
  rintro e w1 ⟨rfl, hb⟩
  have HP2 := hide ((unhide HP).later hb)
  have HK2 := hide ((unhide HK).then_below hb)
  clear HC hb HK HP
  have HK := HK2
  have HP := HP2
  clear HK2 HP2
  have HC := hide (pis (unhide hTS) (unhide HP) (⟨#[45]⟩ : ByteArray))
  rw [show (⟨#[45]⟩ : ByteArray).data.toList = [45] from rfl, hi] at HC
  go_wp2_with fail
  refine (unhide HC).mono ?_
  rintro e w2 ⟨rfl, hb⟩
  have HP2 := hide ((unhide HP).later hb)
  have HK2 := hide ((unhide HK).then_below hb)
  clear HC hb HK HP
  have HK := HK2
  have HP := HP2
  clear HK2 HP2
  have HC := hide (unhide HX _ _ (unhide HP))
  clear HX c0 c1 c2 c3 c4 c5 hg
  go_wp2_with fail
  refine (unhide HC).mono ?_
  rintro e wx ⟨rfl, hb⟩
  have hfd := fieldTok2 x.k x.n x.t wx
  have HP2 := hide ((unhide HP).later hb)
  have HK2 := hide ((unhide HK).then_below hb)
  clear HC hb HK HP
  have HK := HK2
  have HP := HP2
  clear HK2 HP2
  obtain ⟨c0, c1, c2, c3, c4, c5⟩ := (unhide HP).cells
  have z1 := (unhide HP).free 1
  have hf3 := (unhide hTS).few
  have hg := (unhide HP).lt
  have HP2 := hide ((unhide HP).adv hlt)
  have HK2 := hide ((unhide HK).set (o := 1) (x := .int .i64 ((s.at' : Int) + 1)))
  clear HP HK
  have HK := HK2
  have HP := HP2
  clear HK2 HP2 c0 c2 c3 c4 c5
  have HD1 := HD0
  have HC := hide (pdown (unhide hTS) (unhide HP) (by (repeat (first | rewrite [need_dp] | rewrite [com_dp] | rewrite [name_dp] | rewrite [adv_dp] | rewrite [put_dp])); exact unhide HD1))
  rw [show ((downP ts (advP s)).code == 0) = false from (beq_eq_false_iff_ne.2 hy)] at HC
  clear HP
  go_wp2_with fail
  refine (unhide HC).mono ?_
  rintro e w3 ⟨rfl, hp, hk⟩
  have HP := hide hp
  have HK2 := hide ((unhide HK).trans hk)
  clear HC hp hk HK
  have HK := HK2
  clear HK2
  clear c1 z1 hf3 hg hfd
  have c3 := (unhide HP).cells.2.2.2.1
  have z3 := (unhide HP).free 3
  have hg := (unhide HP).lt
  have hdq : (downP ts (advP s)).dp = s.dp + 1 := (by rw [down_dp, adv_dp])
  rw [hdq] at c3
  have hdl := unhide HD0
  have HP2 := hide ((unhide HP).up1 hdq)
  have HK2 := hide ((unhide HK).set (o := 3) (x := .int .i64 (s.dp : Int)))
  clear HP HK hdq
  have HK := HK2
  have HP := HP2
  clear HK2 HP2
  go_wp2
  go_ret
  exact ⟨rfl, _, unhide HP, unhide HK⟩

theorem no2 {c : Prop} {x y : Bool} (hx : x = false) (hy : y = false) : ¬ (c ∧ (x = true ∨ y = true)) := by
  rintro ⟨_, h | h⟩
  · rw [hx] at h; cases h
  · rw [hy] at h; cases h

set_option maxHeartbeats 4000000 in
set_option maxRecDepth 100000 in
theorem psign_5 {ts : List V3} (hTS : Hid (TS ts)) (n : Nat) (ihF : Hid (∀ k, k ≤ n → PQ ts k .first 196)) {g : Nat} {lp : Option Addr} {lc : PX} {v : Value} {s : PS} {w : World} (h : PAt w g lp lc ts v s) (hf : Few s) (hd : s.dp ≤ 20) (hn : needN ts .sign s ≤ n + 1) (hc : s.code = 0) (hi0 : isP ts s [33] = false) (hi1 : isP ts s [45] = false) :
    PZ 195 g lp lc ts v w (run ts (n + 1) .sign s) := by
  unfold PZ
  rw [run]
  rw [if_neg (no2 hi0 hi1)]
  have hat := h.hat
  have HP := hide h
  have HK := hide (PK.refl g v w)
  have HF0 := hide hf
  have HD0 := hide hd
  have HL0 := hide (PLe.refl s)
  clear h hf hd
  have HC1 := hide (fun v w (hp : PAt w g lp lc ts v s) => unhide ihF n (by omega) g lp lc v s w hp (by repeat (first | exact unhide HF0 | apply Few.put | refine Few.same ?_ (need_ns _ _ _) | refine Few.same ?_ (com_ns _ _ _) | refine Few.same ?_ (name_ns _ _) | refine Few.same ?_ (adv_ns _) | refine Few.same ?_ (up_ns _) | refine Few.same ?_ (down_ns _ _))) (by (repeat (first | rewrite [need_dp] | rewrite [com_dp] | rewrite [name_dp] | rewrite [adv_dp] | rewrite [put_dp])); exact unhide HD0) (need_run hn hat (PLe.refl s) (fun _ _ => .inl (by decide)) (fun _ => by decide)))
  have HL1 := hide (run_le ts n .first s s (by repeat (first | exact unhide HL0 | apply PLe.need | apply PLe.com | apply PLe.name | apply PLe.adv | apply PLe.put | apply PLe.up | apply PLe.down)))
  have HT1 := hide (run_lt ts n .first s s rfl (by repeat (first | exact unhide HL0 | apply PLe.need | apply PLe.com | apply PLe.name | apply PLe.adv | apply PLe.put | apply PLe.up | apply PLe.down)))
  have HF1 := hide (Few.run (ts := ts) (n := n) (f := .first) (s := s) (by repeat (first | exact unhide HF0 | apply Few.put | refine Few.same ?_ (need_ns _ _ _) | refine Few.same ?_ (com_ns _ _ _) | refine Few.same ?_ (name_ns _ _) | refine Few.same ?_ (adv_ns _) | refine Few.same ?_ (up_ns _) | refine Few.same ?_ (down_ns _ _))))
  have HD1 : Hid ((run ts n .first s).s.dp ≤ 20) := hide (by rw [run_dp]; exact (by (repeat (first | rewrite [need_dp] | rewrite [com_dp] | rewrite [name_dp] | rewrite [adv_dp] | rewrite [put_dp])); exact unhide HD0))
  generalize run ts n .first s = o1 at HC1 HL1 HT1 HF1 HD1  ⊢
  go_enter Tryd.func195, Tryd.ntmps195
  obtain ⟨c0, c1, c2, c3, c4, c5⟩ := (unhide HP).cells
  have hg := (unhide HP).lt
  rw [hc] at c4
  have HC := hide (pis (unhide hTS) (unhide HP) (⟨#[33]⟩ : ByteArray))
  rw [show (⟨#[33]⟩ : ByteArray).data.toList = [33] from rfl, hi0] at HC
  go_wp2_with fail
  refine (unhide HC).mono ?_
  rintro e w1 ⟨rfl, hb⟩
  have HP2 := hide ((unhide HP).later hb)
  have HK2 := hide ((unhide HK).then_below hb)
  clear HC hb HK HP
  have HK := HK2
  have HP := HP2
  clear HK2 HP2
  have HC := hide (pis (unhide hTS) (unhide HP) (⟨#[45]⟩ : ByteArray))
  rw [show (⟨#[45]⟩ : ByteArray).data.toList = [45] from rfl, hi1] at HC
  go_wp2_with fail
  refine (unhide HC).mono ?_
  rintro e w2 ⟨rfl, hb⟩
  have HP2 := hide ((unhide HP).later hb)
  have HK2 := hide ((unhide HK).then_below hb)
  clear HC hb HK HP
  have HK := HK2
  have HP := HP2
  clear HK2 HP2
  have HC := hide (unhide HC1 _ _ (unhide HP))
  clear HP HC1
  go_wp2_with fail
  refine (unhide HC).mono ?_
  rintro e w3 ⟨rfl, v1, hp, hk⟩
  have HP := hide hp
  have HK2 := hide ((unhide HK).trans hk)
  clear HC hp hk HK
  have HK := HK2
  clear HK2
  clear c0 c1 c2 c3 c4 c5
  go_wp2
  go_ret
  exact ⟨rfl, _, unhide HP, unhide HK⟩

set_option maxHeartbeats 4000000 in
set_option maxRecDepth 100000 in
theorem psign_6 {ts : List V3} (hTS : Hid (TS ts)) (n : Nat) (ihF : Hid (∀ k, k ≤ n → PQ ts k .first 196)) {g : Nat} {lp : Option Addr} {lc : PX} {v : Value} {s : PS} {w : World} (h : PAt w g lp lc ts v s) (hf : Few s) (hd : s.dp ≤ 20) (hn : needN ts .sign s ≤ n + 1) (hc : ¬ s.code = 0) :
    PZ 195 g lp lc ts v w (run ts (n + 1) .sign s) := by
  unfold PZ
  rw [run]
  rw [if_neg (fun h => hc h.1)]
  have hat := h.hat
  have HP := hide h
  have HK := hide (PK.refl g v w)
  have HF0 := hide hf
  have HD0 := hide hd
  have HL0 := hide (PLe.refl s)
  clear h hf hd
  have HC1 := hide (fun v w (hp : PAt w g lp lc ts v s) => unhide ihF n (by omega) g lp lc v s w hp (by repeat (first | exact unhide HF0 | apply Few.put | refine Few.same ?_ (need_ns _ _ _) | refine Few.same ?_ (com_ns _ _ _) | refine Few.same ?_ (name_ns _ _) | refine Few.same ?_ (adv_ns _) | refine Few.same ?_ (up_ns _) | refine Few.same ?_ (down_ns _ _))) (by (repeat (first | rewrite [need_dp] | rewrite [com_dp] | rewrite [name_dp] | rewrite [adv_dp] | rewrite [put_dp])); exact unhide HD0) (need_run hn hat (PLe.refl s) (fun _ _ => .inl (by decide)) (fun _ => by decide)))
  have HL1 := hide (run_le ts n .first s s (by repeat (first | exact unhide HL0 | apply PLe.need | apply PLe.com | apply PLe.name | apply PLe.adv | apply PLe.put | apply PLe.up | apply PLe.down)))
  have HT1 := hide (run_lt ts n .first s s rfl (by repeat (first | exact unhide HL0 | apply PLe.need | apply PLe.com | apply PLe.name | apply PLe.adv | apply PLe.put | apply PLe.up | apply PLe.down)))
  have HF1 := hide (Few.run (ts := ts) (n := n) (f := .first) (s := s) (by repeat (first | exact unhide HF0 | apply Few.put | refine Few.same ?_ (need_ns _ _ _) | refine Few.same ?_ (com_ns _ _ _) | refine Few.same ?_ (name_ns _ _) | refine Few.same ?_ (adv_ns _) | refine Few.same ?_ (up_ns _) | refine Few.same ?_ (down_ns _ _))))
  have HD1 : Hid ((run ts n .first s).s.dp ≤ 20) := hide (by rw [run_dp]; exact (by (repeat (first | rewrite [need_dp] | rewrite [com_dp] | rewrite [name_dp] | rewrite [adv_dp] | rewrite [put_dp])); exact unhide HD0))
  generalize run ts n .first s = o1 at HC1 HL1 HT1 HF1 HD1  ⊢
  go_enter Tryd.func195, Tryd.ntmps195
  obtain ⟨c0, c1, c2, c3, c4, c5⟩ := (unhide HP).cells
  have hg := (unhide HP).lt
  have e0 : (s.code == 0) = false := beq_eq_false_iff_ne.2 hc
  have HC := hide (unhide HC1 _ _ (unhide HP))
  clear HP HC1
  go_wp2_with fail
  refine (unhide HC).mono ?_
  rintro e w1 ⟨rfl, v1, hp, hk⟩
  have HP := hide hp
  have HK2 := hide ((unhide HK).trans hk)
  clear HC hp hk HK
  have HK := HK2
  clear HK2
  clear c0 c1 c2 c3 c4 c5
  go_wp2
  go_ret
  exact ⟨rfl, _, unhide HP, unhide HK⟩

theorem psign_step {ts : List V3} (hTS : Hid (TS ts)) (n : Nat) (ihG : Hid (∀ k, k ≤ n → PQ ts k .sign 195)) (ihF : Hid (∀ k, k ≤ n → PQ ts k .first 196)) : PQ ts (n + 1) .sign 195 := by
  intro g lp lc v s w h hf hd hn
  by_cases hc : s.code = 0
  · cases h1 : isP ts s [33] with
    | true =>
      by_cases hy : (downP ts (advP s)).code = 0
      · exact psign_1 hTS n ihG h hf hd hn hc h1 hy
      · exact psign_2 hTS n h hf hd hn hc h1 hy
    | false =>
      cases h2 : isP ts s [45] with
      | true =>
        by_cases hy : (downP ts (advP s)).code = 0
        · exact psign_3 hTS n ihG h hf hd hn hc h1 h2 hy
        · exact psign_4 hTS n h hf hd hn hc h1 h2 hy
      | false => exact psign_5 hTS n ihF h hf hd hn hc h1 h2
  · exact psign_6 hTS n ihF h hf hd hn hc

end Go.Proofs.YtbipgmikgokfpaaDoor

/- PExpr -/
namespace Go.Proofs.YtbipgmikgokfpaaDoor
open Go.RowKit Go.Joins
set_option linter.unusedVariables false

set_option maxHeartbeats 1000000 in
set_option maxRecDepth 100000 in
theorem pexpr_bad {ts : List V3} (hTS : Hid (TS ts)) (n : Nat) {g : Nat} {lp : Option Addr} {lc : PX} {v : Value} {s : PS} {w : World} (h : PAt w g lp lc ts v s) (hd : s.dp ≤ 20) (hy : ¬ (downP ts s).code = 0) :
    PZ 168 g lp lc ts v w (run ts (n + 1) .expr s) := by
  unfold PZ
  rw [run, if_neg hy, retP]
  have HC := hide (pdown (unhide hTS) h hd)
  rw [show ((downP ts s).code == 0) = false from (beq_eq_false_iff_ne.2 hy)] at HC
  clear h
  go_enter Tryd.func168, Tryd.ntmps168
  go_wp2_with fail
  refine (unhide HC).mono ?_
  rintro e w1 ⟨rfl, hp, hk⟩
  have c3 := hp.cells.2.2.2.1
  have z3 := hp.free 3
  have hg := hp.lt
  have hdq : (downP ts s).dp = s.dp + 1 := by rw [down_dp]
  rw [hdq] at c3
  have HP2 := hide (hp.up1 hdq)
  have HK2 := hide (hk.set (o := 3) (x := .int .i64 (s.dp : Int)))
  clear HC hp hk hdq
  go_wp2
  go_ret
  exact ⟨rfl, _, unhide HP2, unhide HK2⟩

set_option maxHeartbeats 4000000 in
set_option maxRecDepth 100000 in
theorem pexpr_ok {ts : List V3} (hTS : Hid (TS ts)) (n : Nat) (ih : Hid (∀ k, k ≤ n → PQ ts k .and 177)) {g : Nat} {lp : Option Addr} {lc : PX} {v : Value} {s : PS} {w : World} (h : PAt w g lp lc ts v s) (hf : Few s) (hd : s.dp ≤ 20) (hn : needN ts .expr s ≤ n + 1) (hy : (downP ts s).code = 0) :
    PZ 168 g lp lc ts v w (run ts (n + 1) .expr s) := by
  unfold PZ
  rw [run, if_pos hy, retP]
  have hat := h.hat
  have hdk := down_ok hy
  have hc := (PLe.refl s).down.c0 hy
  have HC0 := hide (pdown (unhide hTS) h hd)
  rw [show ((downP ts s).code == 0) = true from (by rw [hy]; rfl)] at HC0
  have HC := hide (fun w1 (hp : PAt w1 g lp lc ts v (downP ts s)) => unhide ih n (Nat.le_refl _) g lp lc v (downP ts s) w1 hp (hf.same (down_ns _ _)) (by rw [down_dp]; exact hdk) (need_run hn hat (PLe.refl s).down (fun _ _ => .inl (by decide)) (fun c => absurd hc c)))
  have HF1 := hide (Few.run (ts := ts) (n := n) (f := .and) (hf.same (down_ns ts s)))
  have HD1 : Hid ((run ts n .and (downP ts s)).s.dp = s.dp + 1) := hide (by rw [run_dp, down_dp])
  have HN1 := hide (fun a => need_run (f' := .exprL a) hn hat (run_le ts n .and s (downP ts s) (PLe.refl s).down) (fun _ _ => .inl (by show lev (.exprL 0) < lev .expr; decide)) (fun c => absurd hc c))
  generalize run ts n .and (downP ts s) = o at HC HF1 HD1 HN1 ⊢
  generalize hoF : run ts n (.exprL o.r) o.s = oF
  have HOF := hide hoF
  clear h hf hn hy hoF
  go_enter Tryd.func168, Tryd.ntmps168
  go_wp2_with fail
  refine (unhide HC0).mono ?_
  rintro e w0 ⟨rfl, hp0, hk0⟩
  have HCC := hide (unhide HC w0 hp0)
  have HK0 := hide hk0
  clear HC0 HC hp0 hk0
  go_wp2_with fail
  refine (unhide HCC).mono ?_
  rintro e w1 ⟨rfl, v1, hp1, hk1⟩
  have HP1 := hide hp1
  have HK1 := hide ((unhide HK0).trans hk1)
  clear HCC hp1 hk1 HK0
  go_wp2
  go_loopg [3] n (fun gn a wx => ∃ (a' : Int) (s' : PS) (v' : Value), a = .int .i64 a' ∧ gn ≤ n ∧ Hid (needN ts (.exprL a') s' ≤ gn) ∧ Hid (PAt wx g lp lc ts v' s') ∧ Hid (PK g v v' w wx) ∧ Hid (Few s') ∧ Hid (s'.dp = s.dp + 1) ∧ Hid (run ts gn (.exprL a') s' = oF))
  case atStart => exact ⟨o.r, o.s, v1, rfl, Nat.le_refl _, hide (unhide HN1 _), HP1, HK1, HF1, HD1, HOF⟩
  case round =>
    obtain ⟨a', s', v', rfl, hgn, HN, HP, HK, HF, HD, HRn⟩ := hrel
    obtain ⟨k, hk⟩ := need_pos (unhide HN)
    have HR2 := unhide HRn
    rw [hk, run] at HR2
    have hat' := (unhide HP).hat
    have HT := hide (ptake (unhide hTS) (unhide HP) ⟨#[124, 124]⟩)
    unfold takeS at HT
    rw [show (⟨#[124, 124]⟩ : ByteArray).data.toList = [124, 124] from rfl] at HT
    clear HP1 HK1 HF1 HD1 HN1 HRn HOF
    cases ht : tkP ts s' [124, 124] with
    | true =>
      rw [ht, if_pos rfl] at HT
      rw [if_pos ht] at HR2
      obtain ⟨hc0, hi0⟩ := tk_code ht
      have HN2 := hide (need_on (f' := .and) (hk ▸ unhide HN) hat' (PLe.refl s').adv (PLt.adv (PLe.refl s')) hc0)
      have HN3 := hide (fun b => need_on (f' := .exprL b) (hk ▸ unhide HN) hat' (run_le ts k .and s' (advP s') (PLe.refl s').adv).put (PLt.put (ts := ts) (x := ⟨9, 0, em, [], [a', (run ts k .and (advP s')).r]⟩) (run_lt ts k .and s' (advP s') rfl (PLe.refl s').adv)) hc0)
      have HC2 := hide (fun w2 hp2 => unhide ih k (by omega) g lp lc v' (advP s') w2 hp2 ((unhide HF).same (adv_ns _)) (by rw [adv_dp, unhide HD]; exact hdk) (unhide HN2))
      have HF2 := hide (((unhide HF).same (adv_ns _)).run (ts := ts) (n := k) (f := .and))
      have HD2 : Hid ((run ts k .and (advP s')).s.dp = s.dp + 1) := hide (by rw [run_dp, adv_dp]; exact unhide HD)
      generalize run ts k .and (advP s') = o2 at HC2 HF2 HD2 HN3 HR2
      have HR3 := hide HR2
      clear HN2 HN HP HR2 ht hi0 hc0 hat' HF HD
      go_wp2_with fail
      refine (unhide HT).mono ?_
      rintro e w2 ⟨rfl, hp2, hk2⟩
      have HC3 := hide (unhide HC2 w2 hp2)
      have HK2 := hide ((unhide HK).trans hk2)
      clear HT hp2 hk2 HK HC2
      go_wp2_with fail
      refine (unhide HC3).mono ?_
      rintro e w3 ⟨rfl, v3, hp3, hk3⟩
      have HC4 := hide (pput2 (unhide hTS) hp3 (unhide HF2) 9 em a' o2.r)
      have HK3 := hide ((unhide HK2).trans hk3)
      clear HC3 HK2 hp3 hk3
      go_wp2_with fail
      refine (unhide HC4).mono ?_
      rintro e w4 ⟨rfl, v4, hp4, hk4⟩
      have HP4 := hide hp4
      have HK4 := hide ((unhide HK3).trans hk4)
      clear HC4 HK3 hp4 hk4
      go_wp2
      go_roundg k
      case rel => exact ⟨_, _, v4, rfl, by omega, hide (unhide HN3 _), HP4, HK4, hide ((unhide HF2).put), hide (by rw [put_dp]; exact unhide HD2), HR3⟩
      case measure => omega
    | false =>
      rw [ht, if_neg (by simp)] at HT
      rw [if_neg (by rw [ht]; simp)] at HR2
      subst HR2
      clear ht hk
      go_wp2_with fail
      refine (unhide HT).mono ?_
      rintro e w2 ⟨rfl, hp2, hk2⟩
      have c3 := hp2.cells.2.2.2.1
      have z3 := hp2.free 3
      have hg := hp2.lt
      rw [unhide HD] at c3
      have HP2 := hide (hp2.up1 (unhide HD))
      have HK2 := hide (((unhide HK).trans hk2).set (o := 3) (x := .int .i64 (s.dp : Int)))
      clear HT hp2 hk2 HP HK HD
      go_wp2
      go_ret
      exact ⟨rfl, _, unhide HP2, unhide HK2⟩
theorem pexpr_step {ts : List V3} (hTS : Hid (TS ts)) (n : Nat) (ih : Hid (∀ k, k ≤ n → PQ ts k .and 177)) : PQ ts (n + 1) .expr 168 := by
  intro g lp lc v s w h hf hd hn
  by_cases hy : (downP ts s).code = 0
  · exact pexpr_ok hTS n ih h hf hd hn hy
  · exact pexpr_bad hTS n h hd hy

end Go.Proofs.YtbipgmikgokfpaaDoor

/- PAnd -/
namespace Go.Proofs.YtbipgmikgokfpaaDoor
open Go.RowKit Go.Joins
set_option linter.unusedVariables false

set_option maxHeartbeats 4000000 in
set_option maxRecDepth 100000 in
theorem pand_step {ts : List V3} (hTS : Hid (TS ts)) (n : Nat) (ih : Hid (∀ k, k ≤ n → PQ ts k .order 185)) : PQ ts (n + 1) .and 177 := by
  intro g lp lc v s w h hf hd hn
  have hat := h.hat
  have HC := hide (unhide ih n (Nat.le_refl _) g lp lc v s w h hf hd (need_run hn hat (PLe.refl s) (fun _ _ => .inl (by decide)) (fun _ => by decide)))
  have HR : run ts (n + 1) .and s = run ts n (.andL (run ts n .order s).r) (run ts n .order s).s := by rw [run]
  rw [HR]
  have HF1 := hide (hf.run (ts := ts) (n := n) (f := .order))
  have HD1 := hide (run_dp ts n .order s)
  have HN1 := hide (fun a => need_run (f' := .andL a) hn hat (run_le ts n .order s s (PLe.refl s)) (fun _ _ => .inl (show (9 : Nat) < 10 by decide)) (fun _ => (show (1 : Nat) < 6 by decide)))
  generalize run ts n .order s = o at HC HF1 HD1 HN1 ⊢
  clear h hf hn HR
  go_enter Tryd.func177, Tryd.ntmps177
  go_wp2_with fail
  refine (unhide HC).mono ?_
  rintro e w1 ⟨rfl, v1, hp1, hk1⟩
  have HP1 := hide hp1
  have HK1 := hide hk1
  clear HC hp1 hk1
  go_wp2
  go_loopg [3] n (fun gn a wx => ∃ (a' : Int) (s' : PS) (v' : Value), a = .int .i64 a' ∧ gn ≤ n ∧ Hid (needN ts (.andL a') s' ≤ gn) ∧ Hid (PAt wx g lp lc ts v' s') ∧ Hid (PK g v v' w wx) ∧ Hid (Few s') ∧ Hid (s'.dp ≤ 20) ∧ Hid (run ts gn (.andL a') s' = run ts n (.andL o.r) o.s))
  case atStart => exact ⟨o.r, o.s, v1, rfl, Nat.le_refl _, hide (unhide HN1 _), HP1, HK1, HF1, hide (by rw [unhide HD1]; exact hd), hide rfl⟩
  case round =>
    obtain ⟨a', s', v', rfl, hgn, HN, HP, HK, HF, HD, HRn⟩ := hrel
    obtain ⟨k, hk⟩ := need_pos (unhide HN)
    have HR2 := unhide HRn
    rw [hk, run] at HR2
    have hat' := (unhide HP).hat
    have HT := hide (ptake (unhide hTS) (unhide HP) ⟨#[38, 38]⟩)
    unfold takeS at HT
    rw [show (⟨#[38, 38]⟩ : ByteArray).data.toList = [38, 38] from rfl] at HT
    clear HP1 HK1 HF1 HD1 HN1 HRn
    cases ht : tkP ts s' [38, 38] with
    | true =>
      rw [ht, if_pos rfl] at HT
      rw [if_pos ht] at HR2
      obtain ⟨hc0, hi0⟩ := tk_code ht
      have HN2 := hide (need_on (f' := .order) (hk ▸ unhide HN) hat' (PLe.refl s').adv (PLt.adv (PLe.refl s')) hc0)
      have HN3 := hide (fun b => need_on (f' := .andL b) (hk ▸ unhide HN) hat' (run_le ts k .order s' (advP s') (PLe.refl s').adv).put (PLt.put (ts := ts) (x := ⟨8, 0, em, [], [a', (run ts k .order (advP s')).r]⟩) (run_lt ts k .order s' (advP s') rfl (PLe.refl s').adv)) hc0)
      have HC2 := hide (fun w2 hp2 => unhide ih k (by omega) g lp lc v' (advP s') w2 hp2 ((unhide HF).same (adv_ns _)) (by rw [adv_dp]; exact unhide HD) (unhide HN2))
      have HF2 := hide (((unhide HF).same (adv_ns _)).run (ts := ts) (n := k) (f := .order))
      have HD2 : Hid ((run ts k .order (advP s')).s.dp ≤ 20) := hide (by rw [run_dp, adv_dp]; exact unhide HD)
      generalize run ts k .order (advP s') = o2 at HC2 HF2 HD2 HN3 HR2
      have HR3 := hide HR2
      clear HN2 HN HP HR2 ht hi0 hc0 hat' HF HD
      go_wp2_with fail
      refine (unhide HT).mono ?_
      rintro e w2 ⟨rfl, hp2, hk2⟩
      have HC3 := hide (unhide HC2 w2 hp2)
      have HK2 := hide ((unhide HK).trans hk2)
      clear HT hp2 hk2 HK HC2
      go_wp2_with fail
      refine (unhide HC3).mono ?_
      rintro e w3 ⟨rfl, v3, hp3, hk3⟩
      have HC4 := hide (pput2 (unhide hTS) hp3 (unhide HF2) 8 em a' o2.r)
      have HK3 := hide ((unhide HK2).trans hk3)
      clear HC3 HK2 hp3 hk3
      go_wp2_with fail
      refine (unhide HC4).mono ?_
      rintro e w4 ⟨rfl, v4, hp4, hk4⟩
      have HP4 := hide hp4
      have HK4 := hide ((unhide HK3).trans hk4)
      clear HC4 HK3 hp4 hk4
      go_wp2
      go_roundg k
      case rel => exact ⟨_, _, v4, rfl, by omega, hide (unhide HN3 _), HP4, HK4, hide ((unhide HF2).put), hide (by rw [put_dp]; exact unhide HD2), HR3⟩
      case measure => omega
    | false =>
      rw [ht, if_neg (by simp)] at HT
      rw [if_neg (by rw [ht]; simp)] at HR2
      have HR3 := hide HR2.symm
      clear HR2 ht hk
      go_wp2_with fail
      refine (unhide HT).mono ?_
      rintro e w2 ⟨rfl, hp2, hk2⟩
      have HP2 := hide hp2
      have HK2 := hide ((unhide HK).trans hk2)
      clear HT hp2 hk2 HP HK
      go_wp2
      go_ret
      rw [unhide HR3]
      exact ⟨rfl, v', unhide HP2, unhide HK2⟩

end Go.Proofs.YtbipgmikgokfpaaDoor

/- AnyWalk1 -/
namespace Go.Proofs.YtbipgmikgokfpaaDoor
open Go.RowKit
set_option linter.unusedVariables false

/-- all but block g, and what is new, is as it was -/
structure Keeps (g : Nat) (w w' : World) : Prop where
  os : w'.os = w.os
  tape : w'.tape = w.tape
  output : w'.output = w.output
  size : w.heap.size ≤ w'.heap.size
  block : ∀ k, k < w.heap.size → k ≠ g → w'.heap[k]? = w.heap[k]?
theorem Keeps.refl (g : Nat) (w : World) : Keeps g w w := ⟨rfl, rfl, rfl, Nat.le_refl _, fun _ _ _ => rfl⟩
theorem Keeps.trans {g : Nat} {a b c : World} (h : Keeps g a b) (k : Keeps g b c) : Keeps g a c :=
  ⟨k.os.trans h.os, k.tape.trans h.tape, k.output.trans h.output, Nat.le_trans h.size k.size, fun i hi hg => (k.block i (Nat.lt_of_lt_of_le hi h.size) hg).trans (h.block i hi hg)⟩
theorem Keeps.of_only {g : Nat} {w w' : World} (h : OnlyAt g w w') : Keeps g w w' := ⟨h.os, h.tape, h.output, by rw [h.size]; exact Nat.le_refl _, fun k _ hk => h.block k hk⟩
theorem Keeps.of_below {g : Nat} {w w' : World} (h : Below w.heap.size w w') : Keeps g w w' := ⟨h.os, h.tape, h.output, h.size, fun k hk _ => h.block k hk⟩
theorem Keeps.below {g B : Nat} {w w' : World} (h : Keeps g w w') (hB : B ≤ g) (hg : g < w.heap.size) : Below B w w' := ⟨h.os, h.tape, h.output, h.size, fun k hk => h.block k (by omega) (by omega)⟩
theorem Keeps.cell {g : Nat} {w w' : World} (h : Keeps g w w') {b o : Nat} {v : Value} (hc : w.cell? ⟨b, o, none⟩ = some v) (hb : b ≠ g) : w'.cell? ⟨b, o, none⟩ = some v :=
  (World.cell?_of_block (w := w) (h.block b (World.block_lt_of_cell? _ _ hc) hb)).trans hc
/-- a source of choices in block g, at most N taken -/
structure St (g : Nat) (a : Option Addr) (len cap : Nat) (N : Int) (w : World) : Prop where
  src : ∃ n seed, SrcAt w g a len cap n seed ∧ n ≤ N
  row : ByteRow w a len
  apart : 0 < len → ∀ x, a = some x → ¬ x.block = g
  few : len ≤ 1048577
theorem St.mono {g : Nat} {a : Option Addr} {len cap : Nat} {N M : Int} {w : World} (h : St g a len cap N w) (hm : N ≤ M) : St g a len cap M w := by
  obtain ⟨n, s, h1, h2⟩ := h.src
  exact ⟨⟨n, s, h1, by omega⟩, h.row, h.apart, h.few⟩
theorem St.lt {g : Nat} {a : Option Addr} {len cap : Nat} {N : Int} {w : World} (h : St g a len cap N w) : g < w.heap.size := by
  obtain ⟨n, s, h1, h2⟩ := h.src
  exact World.block_lt_of_cell? _ _ h1.c0
theorem St.later {g : Nat} {a : Option Addr} {len cap : Nat} {N : Int} {w w' : World} (h : St g a len cap N w) (hb : Below w.heap.size w w') : St g a len cap N w' := by
  obtain ⟨n, s, h1, h2⟩ := h.src
  exact ⟨⟨n, s, src_later h1 hb, h2⟩, h.row.later hb, h.apart, h.few⟩
theorem St.alloc {g : Nat} {a : Option Addr} {len cap : Nat} {N : Int} {w : World} (h : St g a len cap N w) (o : Obj) : St g a len cap N (w.alloc o) := h.later (nx_alloc w o)
/-- three names in block q -/
def nm3 (j : Nat) : ByteArray := if j = 0 then ⟨#[120]⟩ else if j = 1 then ⟨#[121]⟩ else ⟨#[112, 97, 116, 104]⟩
def Nm (g : Nat) (w : World) (q : Nat) : Prop := q ≠ g ∧ ∀ j, j < 3 → w.cell? ⟨q, j, none⟩ = some (.string (nm3 j))
theorem Nm.keep {g q : Nat} {w w' : World} (h : Nm g w q) (k : Keeps g w w') : Nm g w' q := ⟨h.1, fun j hj => k.cell (h.2 j hj) h.1⟩
theorem Nm.alloc {g q : Nat} {w : World} (h : Nm g w q) (o : Obj) : Nm g (w.alloc o) q := h.keep (.of_below (nx_alloc w o))

variable {g : Nat} {a : Option Addr} {len cap : Nat}

theorem next_st (N m : Int) (w : World) (h : St g a len cap N w) (hN : N ≤ 900000000) (hm1 : 1 < m) (hm2 : m ≤ 256) :
    Calls Tryd.prog 111 #[.pointer (some ⟨g, 0, none⟩), .int .i64 m] w fun e w' => ∃ r : Int, e = .returned (.int .i64 r) ∧ 0 ≤ r ∧ r < m ∧ St g a len cap (N + 1) w' ∧ Keeps g w w' := by
  obtain ⟨n, seed, h1, h2⟩ := h.src
  refine (next_any g a len cap n seed m w h1 (by omega) h.few h.row h.apart hm1 hm2).mono ?_
  rintro e w' ⟨r, s', rfl, r0, r1, hs, ho⟩
  exact ⟨r, rfl, r0, r1, ⟨⟨n + 1, s', hs, by omega⟩, row_only h.row ho h.apart, h.apart, h.few⟩, .of_only ho⟩
theorem chance_st (N m : Int) (w : World) (h : St g a len cap N w) (hN : N ≤ 900000000) (hm1 : 1 < m) (hm2 : m ≤ 256) :
    Calls Tryd.prog 146 #[.pointer (some ⟨g, 0, none⟩), .int .i64 m] w fun e w' => ∃ b : Bool, e = .returned (.bool b) ∧ St g a len cap (N + 1) w' ∧ Keeps g w w' := by
  obtain ⟨n, seed, h1, h2⟩ := h.src
  refine (chance_any g a len cap n seed m w h1 (by omega) h.few h.row h.apart hm1 hm2).mono ?_
  rintro e w' ⟨b, s', rfl, hs, ho⟩
  exact ⟨b, rfl, ⟨⟨n + 1, s', hs, by omega⟩, row_only h.row ho h.apart, h.apart, h.few⟩, .of_only ho⟩
def strAt (cs : Array Value) (j : Nat) : ByteArray := match cs[j]? with
  | some (.string s) => s
  | _ => ⟨#[]⟩
theorem pick_st (N : Int) (L M : Nat) (cs : Array Value) (w : World) (h : St g a len cap N w) (hN : N ≤ 900000000) (hL1 : 1 < L) (hL2 : L ≤ 256) (hc : cs.size = L) (hcs : ∀ j, j < L → ∃ s, cs[j]? = some (.string s) ∧ s.size ≤ M) :
    Calls Tryd.prog 110 #[.pointer (some ⟨g, 0, none⟩), .slice (some ⟨w.heap.size, 0, none⟩) L L] (w.alloc (.cells cs 9)) fun e w' => ∃ s : ByteArray, e = .returned (.string s) ∧ s.size ≤ M ∧ St g a len cap (N + 1) w' ∧ Keeps g w w' := by
  have h' := h.alloc (.cells cs 9)
  have hlt := h.lt
  obtain ⟨n, seed, h1, h2⟩ := h'.src
  refine (pick_any g a len cap n seed w.heap.size L L (strAt cs) _ h1 (by omega) h'.few h'.row h'.apart (by omega) hL1 hL2 (fun j hj => by
    obtain ⟨s, hs, _⟩ := hcs j hj
    have : (w.alloc (.cells cs 9)).cell? ⟨w.heap.size, j, none⟩ = cs[j]? := by simp
    rw [this, hs]
    unfold strAt
    rw [hs])).mono ?_
  rintro e w' ⟨j, s', hj, rfl, hs, ho⟩
  refine ⟨_, rfl, ?_, ⟨⟨n + 1, s', hs, by omega⟩, row_only h'.row ho h'.apart, h.apart, h.few⟩, (Keeps.of_below (nx_alloc w _)).trans (.of_only ho)⟩
  obtain ⟨s, hs, hm⟩ := hcs j hj
  unfold strAt
  rw [hs]
  exact hm
/-- a list of texts written out -/
def okStrs (M : Nat) : List Value → Bool
  | [] => true
  | .string s :: r => decide (s.size ≤ M) && okStrs M r
  | _ :: _ => false
theorem okStrs_get {M : Nat} : ∀ {l : List Value}, okStrs M l = true → ∀ j, j < l.length → ∃ s, l[j]? = some (.string s) ∧ s.size ≤ M
  | [], _, j, hj => by simp at hj
  | v :: r, h, j, hj => by
    match v, h with
    | .string s, h =>
      simp only [okStrs, Bool.and_eq_true, decide_eq_true_iff] at h
      cases j with
      | zero => exact ⟨s, rfl, h.1⟩
      | succ j =>
        obtain ⟨s', h1, h2⟩ := okStrs_get h.2 j (by simpa using hj)
        exact ⟨s', by simpa using h1, h2⟩
theorem pick_lit (N : Int) (L M : Nat) (cs : Array Value) (w : World) (h : St g a len cap N w) (hN : N ≤ 900000000) (hL1 : 1 < L) (hL2 : L ≤ 256) (hc : cs.size = L) (hok : okStrs M cs.toList = true) :
    Calls Tryd.prog 110 #[.pointer (some ⟨g, 0, none⟩), .slice (some ⟨w.heap.size, 0, none⟩) L L] (w.alloc (.cells cs 9)) fun e w' => ∃ s : ByteArray, e = .returned (.string s) ∧ s.size ≤ M ∧ St g a len cap (N + 1) w' ∧ Keeps g w w' :=
  pick_st N L M cs w h hN hL1 hL2 hc (fun j hj => by
    obtain ⟨s, h1, h2⟩ := okStrs_get hok j (by simpa [hc] using hj)
    exact ⟨s, by simpa using h1, h2⟩)
theorem pick_names (N : Int) (q : Nat) (w : World) (h : St g a len cap N w) (hN : N ≤ 900000000) (hq : Nm g w q) :
    Calls Tryd.prog 110 #[.pointer (some ⟨g, 0, none⟩), .slice (some ⟨q, 0, none⟩) 3 3] w fun e w' => ∃ s : ByteArray, e = .returned (.string s) ∧ s.size ≤ 4 ∧ St g a len cap (N + 1) w' ∧ Keeps g w w' := by
  obtain ⟨n, seed, h1, h2⟩ := h.src
  refine (pick_any g a len cap n seed q 3 3 nm3 w h1 (by omega) h.few h.row h.apart hq.1 (by omega) (by omega) hq.2).mono ?_
  rintro e w' ⟨j, s', hj, rfl, hs, ho⟩
  refine ⟨_, rfl, ?_, ⟨⟨n + 1, s', hs, by omega⟩, row_only h.row ho h.apart, h.apart, h.few⟩, .of_only ho⟩
  obtain rfl | rfl | rfl : j = 0 ∨ j = 1 ∨ j = 2 := by omega
  all_goals decide
theorem digits_st (N r : Int) (w : World) (h : St g a len cap N w) (h0 : 0 ≤ r) (h1 : r ≤ 9) :
    Calls Tryd.prog 94 #[.int .i64 r] w fun e w' => ∃ s : ByteArray, e = .returned (.string s) ∧ s.size ≤ 11 ∧ St g a len cap N w' ∧ Keeps g w w' := by
  refine (l00Digits_any r w (by omega) (by omega)).mono ?_
  rintro e w' ⟨rfl, hb⟩
  refine ⟨_, rfl, ?_, h.later hb, .of_below hb⟩
  show (Lib.itoa r).toArray.size ≤ 11
  unfold Lib.itoa
  rw [if_neg (by omega)]
  have : (Lib.decDigits r.toNat).length ≤ 10 := dec_len 9 _ (by omega)
  simp; omega

set_option maxHeartbeats 1000000 in
theorem op_st (N : Int) (w : World) (h : St g a len cap N w) (hN : N ≤ 900000000) :
    Calls Tryd.prog 147 #[.pointer (some ⟨g, 0, none⟩)] w fun e w' => ∃ s : ByteArray, e = .returned (.string s) ∧ s.size ≤ 2 ∧ St g a len cap (N + 1) w' ∧ Keeps g w w' := by
  have H := hide h
  clear h
  go_enter Tryd.func147, Tryd.ntmps147
  go_wp2_with fail
  refine (pick_lit N 7 2 _ _ (unhide H) hN (by omega) (by omega) rfl rfl).mono ?_
  rintro e w1 ⟨s, rfl, hs, hst, hk⟩
  have S := hide hst
  have K := hide hk
  clear hst hk
  go_wp2
  go_ret
  exact ⟨s, rfl, hs, unhide S, unhide K⟩

/-- what drawing an expression of a depth comes to -/
def ExprC (g : Nat) (a : Option Addr) (len cap : Nat) (d : Int) (B : Nat) (D : Int) : Prop := ∀ (N : Int) (q : Nat) (w : World), N + D ≤ 800000000 → St g a len cap N w → Nm g w q →
    Calls Tryd.prog 113 #[.pointer (some ⟨g, 0, none⟩), .slice (some ⟨q, 0, none⟩) 3 3, .int .i64 d] w fun e w' => ∃ s : ByteArray, e = .returned (.string s) ∧ s.size ≤ B ∧ St g a len cap (N + D) w' ∧ Keeps g w w'
theorem sz (l : Array UInt8) : (⟨l⟩ : ByteArray).size = l.size := rfl

set_option maxHeartbeats 4000000 in
theorem expr_zero : ExprC g a len cap 0 11 2 := by
  intro N q w hN hst0 hnm
  have S0 := hide hst0
  have M0 := hide hnm
  have K0 := hide (Keeps.refl g w)
  clear hst0 hnm
  go_enter Tryd.func113, Tryd.ntmps113
  go_wp2_with fail
  refine (next_st _ 6 _ (unhide S0) (by omega) (by omega) (by omega)).mono ?_
  rintro e w1 ⟨r, rfl, r0, r1, hst, hk⟩
  have S1 := hide hst
  have K1 := hide ((unhide K0).trans hk)
  have M1 := hide ((unhide M0).keep hk)
  clear hst hk
  obtain rfl | rfl | rfl | hr : r = 0 ∨ r = 1 ∨ r = 2 ∨ 3 ≤ r := by omega
  · go_wp2_with fail
    refine (pick_lit _ 6 6 _ _ (unhide S1) (by omega) (by omega) (by omega) rfl rfl).mono ?_
    rintro e w2 ⟨s, rfl, hs, hst, hk⟩
    have S2 := hide hst
    have K2 := hide ((unhide K1).trans hk)
    have M2 := hide ((unhide M1).keep hk)
    clear hst hk
    go_wp2
    go_ret
    exact ⟨_, rfl, (by first | omega | (simp only [ByteArray.size_append]; omega) | (simp only [ByteArray.size_append, sz]; simp; omega)), (unhide S2).mono (by omega), unhide K2⟩
  · go_wp2_with fail
    refine (next_st _ 9 _ (unhide S1) (by omega) (by omega) (by omega)).mono ?_
    rintro e w2 ⟨z, rfl, z0, z1, hst, hk⟩
    have S2 := hide hst
    have K2 := hide ((unhide K1).trans hk)
    have M2 := hide ((unhide M1).keep hk)
    clear hst hk
    go_wp2_with fail
    refine (digits_st _ _ _ (unhide S2) z0 (by omega)).mono ?_
    rintro e w3 ⟨s, rfl, hs, hst, hk⟩
    have S3 := hide hst
    have K3 := hide ((unhide K2).trans hk)
    have M3 := hide ((unhide M2).keep hk)
    clear hst hk
    go_wp2
    go_ret
    exact ⟨_, rfl, (by first | omega | (simp only [ByteArray.size_append]; omega) | (simp only [ByteArray.size_append, sz]; simp; omega)), (unhide S3).mono (by omega), unhide K3⟩
  · go_wp2_with fail
    refine (next_st _ 9 _ (unhide S1) (by omega) (by omega) (by omega)).mono ?_
    rintro e w2 ⟨z, rfl, z0, z1, hst, hk⟩
    have S2 := hide hst
    have K2 := hide ((unhide K1).trans hk)
    have M2 := hide ((unhide M1).keep hk)
    clear hst hk
    go_wp2_with fail
    refine (digits_st _ _ _ (unhide S2) z0 (by omega)).mono ?_
    rintro e w3 ⟨s, rfl, hs, hst, hk⟩
    have S3 := hide hst
    have K3 := hide ((unhide K2).trans hk)
    have M3 := hide ((unhide M2).keep hk)
    clear hst hk
    go_wp2
    go_ret
    exact ⟨_, rfl, (by first | omega | (simp only [ByteArray.size_append]; omega) | (simp only [ByteArray.size_append, sz]; simp; omega)), (unhide S3).mono (by omega), unhide K3⟩
  · have q0 : (r == 0) = false := beq_eq_false_iff_ne.2 (by omega)
    have q1 : (r == 1) = false := beq_eq_false_iff_ne.2 (by omega)
    have q2 : (r == 2) = false := beq_eq_false_iff_ne.2 (by omega)
    go_wp2_with fail
    refine (pick_names _ q _ (unhide S1) (by omega) (unhide M1)).mono ?_
    rintro e w2 ⟨s, rfl, hs, hst, hk⟩
    have S2 := hide hst
    have K2 := hide ((unhide K1).trans hk)
    have M2 := hide ((unhide M1).keep hk)
    clear hst hk
    go_wp2
    go_ret
    exact ⟨_, rfl, (by first | omega | (simp only [ByteArray.size_append]; omega) | (simp only [ByteArray.size_append, sz]; simp; omega)), (unhide S2).mono (by omega), unhide K2⟩

set_option maxHeartbeats 8000000 in
theorem expr_succ (d : Int) (B : Nat) (D : Int) (hd0 : 1 ≤ d) (hd1 : d ≤ 100) (hB : 11 ≤ B) (hB1 : B ≤ 1000) (hD : 2 ≤ D) (hD1 : D ≤ 1000) (HE : ExprC g a len cap (d - 1) B D) : ExprC g a len cap d (2 * B + 7) (2 * D + 3) := by
  intro N q w hN hst0 hnm
  have S0 := hide hst0
  have M0 := hide hnm
  have K0 := hide (Keeps.refl g w)
  have HX := hide HE
  have hz : (d == 0) = false := beq_eq_false_iff_ne.2 (by omega)
  clear hst0 hnm HE
  go_enter Tryd.func113, Tryd.ntmps113
  go_wp2_with fail
  refine (chance_st _ 3 _ (unhide S0) (by omega) (by omega) (by omega)).mono ?_
  rintro e w1 ⟨b, rfl, hst, hk⟩
  have S1 := hide hst
  have K1 := hide ((unhide K0).trans hk)
  have M1 := hide ((unhide M0).keep hk)
  clear hst hk
  cases b
  · go_wp2_with fail
    refine (unhide HX _ q _ (by omega) (unhide S1) (unhide M1)).mono ?_
    rintro e w2 ⟨ea, rfl, hea, hst, hk⟩
    have S2 := hide hst
    have K2 := hide ((unhide K1).trans hk)
    have M2 := hide ((unhide M1).keep hk)
    clear hst hk
    go_wp2_with fail
    refine (unhide HX _ q _ (by omega) (unhide S2) (unhide M2)).mono ?_
    rintro e w3 ⟨eb, rfl, heb, hst, hk⟩
    have S3 := hide hst
    have K3 := hide ((unhide K2).trans hk)
    have M3 := hide ((unhide M2).keep hk)
    clear hst hk
    go_wp2_with fail
    refine (next_st _ 9 _ (unhide S3) (by omega) (by omega) (by omega)).mono ?_
    rintro e w4 ⟨r, rfl, r0, r1, hst, hk⟩
    have S4 := hide hst
    have K4 := hide ((unhide K3).trans hk)
    have M4 := hide ((unhide M3).keep hk)
    clear hst hk
    obtain rfl | rfl | rfl | rfl | rfl | rfl | hr : r = 0 ∨ r = 1 ∨ r = 2 ∨ r = 3 ∨ r = 4 ∨ r = 5 ∨ 6 ≤ r := by omega
    · go_wp2
      go_ret
      exact ⟨_, rfl, (by first | omega | (simp only [ByteArray.size_append]; omega) | (simp only [ByteArray.size_append, sz]; simp; omega)), (unhide S4).mono (by omega), unhide K4⟩
    · go_wp2_with fail
      refine (pick_lit _ 2 1 _ _ (unhide S4) (by omega) (by omega) (by omega) rfl rfl).mono ?_
      rintro e w5 ⟨s, rfl, hs, hst, hk⟩
      have S5 := hide hst
      have K5 := hide ((unhide K4).trans hk)
      have M5 := hide ((unhide M4).keep hk)
      clear hst hk
      go_wp2
      go_ret
      exact ⟨_, rfl, (by first | omega | (simp only [ByteArray.size_append]; omega) | (simp only [ByteArray.size_append, sz]; simp; omega)), (unhide S5).mono (by omega), unhide K5⟩
    · go_wp2_with fail
      refine (pick_lit _ 2 4 _ _ (unhide S4) (by omega) (by omega) (by omega) rfl rfl).mono ?_
      rintro e w5 ⟨s, rfl, hs, hst, hk⟩
      have S5 := hide hst
      have K5 := hide ((unhide K4).trans hk)
      have M5 := hide ((unhide M4).keep hk)
      clear hst hk
      go_wp2
      go_ret
      exact ⟨_, rfl, (by first | omega | (simp only [ByteArray.size_append]; omega) | (simp only [ByteArray.size_append, sz]; simp; omega)), (unhide S5).mono (by omega), unhide K5⟩
    · go_wp2_with fail
      refine (pick_lit _ 3 3 _ _ (unhide S4) (by omega) (by omega) (by omega) rfl rfl).mono ?_
      rintro e w5 ⟨s, rfl, hs, hst, hk⟩
      have S5 := hide hst
      have K5 := hide ((unhide K4).trans hk)
      have M5 := hide ((unhide M4).keep hk)
      clear hst hk
      go_wp2
      go_ret
      exact ⟨_, rfl, (by first | omega | (simp only [ByteArray.size_append]; omega) | (simp only [ByteArray.size_append, sz]; simp; omega)), (unhide S5).mono (by omega), unhide K5⟩
    · go_wp2_with fail
      refine (pick_lit _ 3 3 _ _ (unhide S4) (by omega) (by omega) (by omega) rfl rfl).mono ?_
      rintro e w5 ⟨s, rfl, hs, hst, hk⟩
      have S5 := hide hst
      have K5 := hide ((unhide K4).trans hk)
      have M5 := hide ((unhide M4).keep hk)
      clear hst hk
      go_wp2
      go_ret
      exact ⟨_, rfl, (by first | omega | (simp only [ByteArray.size_append]; omega) | (simp only [ByteArray.size_append, sz]; simp; omega)), (unhide S5).mono (by omega), unhide K5⟩
    · go_wp2
      go_ret
      exact ⟨_, rfl, (by first | omega | (simp only [ByteArray.size_append]; omega) | (simp only [ByteArray.size_append, sz]; simp; omega)), (unhide S4).mono (by omega), unhide K4⟩
    · have q0 : (r == 0) = false := beq_eq_false_iff_ne.2 (by omega)
      have q1 : (r == 1) = false := beq_eq_false_iff_ne.2 (by omega)
      have q2 : (r == 2) = false := beq_eq_false_iff_ne.2 (by omega)
      have q3 : (r == 3) = false := beq_eq_false_iff_ne.2 (by omega)
      have q4 : (r == 4) = false := beq_eq_false_iff_ne.2 (by omega)
      have q5 : (r == 5) = false := beq_eq_false_iff_ne.2 (by omega)
      go_wp2_with fail
      refine (op_st _ _ (unhide S4) (by omega)).mono ?_
      rintro e w5 ⟨s, rfl, hs, hst, hk⟩
      have S5 := hide hst
      have K5 := hide ((unhide K4).trans hk)
      have M5 := hide ((unhide M4).keep hk)
      clear hst hk
      go_wp2
      go_ret
      exact ⟨_, rfl, (by first | omega | (simp only [ByteArray.size_append]; omega) | (simp only [ByteArray.size_append, sz]; simp; omega)), (unhide S5).mono (by omega), unhide K5⟩
  · go_wp2_with fail
    refine (next_st _ 6 _ (unhide S1) (by omega) (by omega) (by omega)).mono ?_
    rintro e w2 ⟨r, rfl, r0, r1, hst, hk⟩
    have S2 := hide hst
    have K2 := hide ((unhide K1).trans hk)
    have M2 := hide ((unhide M1).keep hk)
    clear hst hk
    obtain rfl | rfl | rfl | hr : r = 0 ∨ r = 1 ∨ r = 2 ∨ 3 ≤ r := by omega
    · go_wp2_with fail
      refine (pick_lit _ 6 6 _ _ (unhide S2) (by omega) (by omega) (by omega) rfl rfl).mono ?_
      rintro e w3 ⟨s, rfl, hs, hst, hk⟩
      have S3 := hide hst
      have K3 := hide ((unhide K2).trans hk)
      have M3 := hide ((unhide M2).keep hk)
      clear hst hk
      go_wp2
      go_ret
      exact ⟨_, rfl, (by first | omega | (simp only [ByteArray.size_append]; omega) | (simp only [ByteArray.size_append, sz]; simp; omega)), (unhide S3).mono (by omega), unhide K3⟩
    · go_wp2_with fail
      refine (next_st _ 9 _ (unhide S2) (by omega) (by omega) (by omega)).mono ?_
      rintro e w3 ⟨z, rfl, z0, z1, hst, hk⟩
      have S3 := hide hst
      have K3 := hide ((unhide K2).trans hk)
      have M3 := hide ((unhide M2).keep hk)
      clear hst hk
      go_wp2_with fail
      refine (digits_st _ _ _ (unhide S3) z0 (by omega)).mono ?_
      rintro e w4 ⟨s, rfl, hs, hst, hk⟩
      have S4 := hide hst
      have K4 := hide ((unhide K3).trans hk)
      have M4 := hide ((unhide M3).keep hk)
      clear hst hk
      go_wp2
      go_ret
      exact ⟨_, rfl, (by first | omega | (simp only [ByteArray.size_append]; omega) | (simp only [ByteArray.size_append, sz]; simp; omega)), (unhide S4).mono (by omega), unhide K4⟩
    · go_wp2_with fail
      refine (next_st _ 9 _ (unhide S2) (by omega) (by omega) (by omega)).mono ?_
      rintro e w3 ⟨z, rfl, z0, z1, hst, hk⟩
      have S3 := hide hst
      have K3 := hide ((unhide K2).trans hk)
      have M3 := hide ((unhide M2).keep hk)
      clear hst hk
      go_wp2_with fail
      refine (digits_st _ _ _ (unhide S3) z0 (by omega)).mono ?_
      rintro e w4 ⟨s, rfl, hs, hst, hk⟩
      have S4 := hide hst
      have K4 := hide ((unhide K3).trans hk)
      have M4 := hide ((unhide M3).keep hk)
      clear hst hk
      go_wp2
      go_ret
      exact ⟨_, rfl, (by first | omega | (simp only [ByteArray.size_append]; omega) | (simp only [ByteArray.size_append, sz]; simp; omega)), (unhide S4).mono (by omega), unhide K4⟩
    · have q0 : (r == 0) = false := beq_eq_false_iff_ne.2 (by omega)
      have q1 : (r == 1) = false := beq_eq_false_iff_ne.2 (by omega)
      have q2 : (r == 2) = false := beq_eq_false_iff_ne.2 (by omega)
      go_wp2_with fail
      refine (pick_names _ q _ (unhide S2) (by omega) (unhide M2)).mono ?_
      rintro e w3 ⟨s, rfl, hs, hst, hk⟩
      have S3 := hide hst
      have K3 := hide ((unhide K2).trans hk)
      have M3 := hide ((unhide M2).keep hk)
      clear hst hk
      go_wp2
      go_ret
      exact ⟨_, rfl, (by first | omega | (simp only [ByteArray.size_append]; omega) | (simp only [ByteArray.size_append, sz]; simp; omega)), (unhide S3).mono (by omega), unhide K3⟩

theorem expr_two : ExprC g a len cap 2 65 17 := expr_succ 2 29 7 (by omega) (by omega) (by omega) (by omega) (by omega) (by omega) (expr_succ 1 11 2 (by omega) (by omega) (by omega) (by omega) (by omega) (by omega) expr_zero)

end Go.Proofs.YtbipgmikgokfpaaDoor

/- AnyWalk2 -/
namespace Go.Proofs.YtbipgmikgokfpaaDoor
open Go.RowKit
set_option linter.unusedVariables false

variable {g : Nat} {a : Option Addr} {len cap : Nat}

def StateC (g : Nat) (a : Option Addr) (len cap : Nat) (d : Int) (B : Nat) (D : Int) : Prop := ∀ (N : Int) (q : Nat) (w : World), N + D ≤ 800000000 → St g a len cap N w → Nm g w q →
    Calls Tryd.prog 112 #[.pointer (some ⟨g, 0, none⟩), .slice (some ⟨q, 0, none⟩) 3 3, .int .i64 d] w fun e w' => ∃ s : ByteArray, e = .returned (.string s) ∧ s.size ≤ B ∧ St g a len cap (N + D) w' ∧ Keeps g w w'
def BlockC (g : Nat) (a : Option Addr) (len cap : Nat) (d : Int) (B : Nat) (D : Int) : Prop := ∀ (N : Int) (q : Nat) (w : World), N + D ≤ 800000000 → St g a len cap N w → Nm g w q →
    Calls Tryd.prog 145 #[.pointer (some ⟨g, 0, none⟩), .slice (some ⟨q, 0, none⟩) 3 3, .int .i64 d] w fun e w' => ∃ s : ByteArray, e = .returned (.string s) ∧ s.size ≤ B ∧ St g a len cap (N + D) w' ∧ Keeps g w w'

set_option maxHeartbeats 4000000 in
theorem state_zero : StateC g a len cap 0 70 18 := by
  intro N q w hN hst0 hnm
  have S0 := hide hst0
  have M0 := hide hnm
  have K0 := hide (Keeps.refl g w)
  clear hst0 hnm
  go_enter Tryd.func112, Tryd.ntmps112
  go_wp2_with fail
  refine (expr_two _ q _ (by omega) (unhide S0) (unhide M0)).mono ?_
  rintro e w1 ⟨ea, rfl, hea, hst, hk⟩
  have S1 := hide hst
  have K1 := hide ((unhide K0).trans hk)
  have M1 := hide ((unhide M0).keep hk)
  clear hst hk
  go_wp2_with fail
  refine (pick_st _ 3 70 _ _ (unhide S1) (by omega) (by omega) (by omega) rfl (fun j hj => by
    obtain rfl | rfl | rfl : j = 0 ∨ j = 1 ∨ j = 2 := by omega
    · exact ⟨_, rfl, by simp only [ByteArray.size_append, sz]; simp; omega⟩
    · exact ⟨_, rfl, by simp only [ByteArray.size_append, sz]; simp; omega⟩
    · exact ⟨_, rfl, by decide⟩)).mono ?_
  rintro e w2 ⟨s, rfl, hs, hst, hk⟩
  have S2 := hide hst
  have K2 := hide ((unhide K1).trans hk)
  have M2 := hide ((unhide M1).keep hk)
  clear hst hk
  go_wp2
  go_ret
  exact ⟨_, rfl, (by first | omega | (simp only [ByteArray.size_append]; omega) | (simp only [ByteArray.size_append, sz]; simp; omega)), (unhide S2).mono (by omega), unhide K2⟩

set_option maxHeartbeats 8000000 in
theorem state_succ (d : Int) (B : Nat) (D : Int) (hd0 : 1 ≤ d) (hd1 : d ≤ 100) (hB1 : B ≤ 100000) (hD : 0 ≤ D) (hD1 : D ≤ 100000) (HE : BlockC g a len cap (d - 1) B D) : StateC g a len cap d (2 * B + 165) (2 * D + 19) := by
  intro N q w hN hst0 hnm
  have S0 := hide hst0
  have M0 := hide hnm
  have K0 := hide (Keeps.refl g w)
  have HX := hide HE
  have hz : (d == 0) = false := beq_eq_false_iff_ne.2 (by omega)
  clear hst0 hnm HE
  go_enter Tryd.func112, Tryd.ntmps112
  go_wp2_with fail
  refine (expr_two _ q _ (by omega) (unhide S0) (unhide M0)).mono ?_
  rintro e w1 ⟨ea, rfl, hea, hst, hk⟩
  have S1 := hide hst
  have K1 := hide ((unhide K0).trans hk)
  have M1 := hide ((unhide M0).keep hk)
  clear hst hk
  go_wp2_with fail
  refine (unhide HX _ q _ (by omega) (unhide S1) (unhide M1)).mono ?_
  rintro e w2 ⟨eb, rfl, heb, hst, hk⟩
  have S2 := hide hst
  have K2 := hide ((unhide K1).trans hk)
  have M2 := hide ((unhide M1).keep hk)
  clear hst hk
  go_wp2_with fail
  refine (next_st _ 10 _ (unhide S2) (by omega) (by omega) (by omega)).mono ?_
  rintro e w3 ⟨r, rfl, r0, r1, hst, hk⟩
  have S3 := hide hst
  have K3 := hide ((unhide K2).trans hk)
  have M3 := hide ((unhide M2).keep hk)
  clear hst hk
  obtain rfl | rfl | rfl | rfl | rfl | rfl | rfl | rfl | rfl | hr : r = 0 ∨ r = 1 ∨ r = 2 ∨ r = 3 ∨ r = 4 ∨ r = 5 ∨ r = 6 ∨ r = 7 ∨ r = 8 ∨ 9 ≤ r := by omega
  · go_wp2
    go_ret
    exact ⟨_, rfl, (by first | omega | (simp only [ByteArray.size_append]; omega) | (simp only [ByteArray.size_append, sz]; simp; omega)), (unhide S3).mono (by omega), unhide K3⟩
  · go_wp2
    go_ret
    exact ⟨_, rfl, (by first | omega | (simp only [ByteArray.size_append]; omega) | (simp only [ByteArray.size_append, sz]; simp; omega)), (unhide S3).mono (by omega), unhide K3⟩
  · go_wp2_with fail
    refine (unhide HX _ q _ (by omega) (unhide S3) (unhide M3)).mono ?_
    rintro e w4 ⟨ec, rfl, hec, hst, hk⟩
    have S4 := hide hst
    have K4 := hide ((unhide K3).trans hk)
    have M4 := hide ((unhide M3).keep hk)
    clear hst hk
    go_wp2
    go_ret
    exact ⟨_, rfl, (by first | omega | (simp only [ByteArray.size_append]; omega) | (simp only [ByteArray.size_append, sz]; simp; omega)), (unhide S4).mono (by omega), unhide K4⟩
  · go_wp2
    go_ret
    exact ⟨_, rfl, (by first | omega | (simp only [ByteArray.size_append]; omega) | (simp only [ByteArray.size_append, sz]; simp; omega)), (unhide S3).mono (by omega), unhide K3⟩
  · go_wp2_with fail
    refine (next_st _ 5 _ (unhide S3) (by omega) (by omega) (by omega)).mono ?_
    rintro e w4 ⟨z, rfl, z0, z1, hst, hk⟩
    have S4 := hide hst
    have K4 := hide ((unhide K3).trans hk)
    have M4 := hide ((unhide M3).keep hk)
    clear hst hk
    go_wp2_with fail
    refine (digits_st _ _ _ (unhide S4) (by omega) (by omega)).mono ?_
    rintro e w5 ⟨s, rfl, hs, hst, hk⟩
    have S5 := hide hst
    have K5 := hide ((unhide K4).trans hk)
    have M5 := hide ((unhide M4).keep hk)
    clear hst hk
    go_wp2
    go_ret
    exact ⟨_, rfl, (by first | omega | (simp only [ByteArray.size_append]; omega) | (simp only [ByteArray.size_append, sz]; simp; omega)), (unhide S5).mono (by omega), unhide K5⟩
  · go_wp2
    go_ret
    exact ⟨_, rfl, (by first | omega | (simp only [ByteArray.size_append]; omega) | (simp only [ByteArray.size_append, sz]; simp; omega)), (unhide S3).mono (by omega), unhide K3⟩
  · go_wp2
    go_ret
    exact ⟨_, rfl, (by first | omega | (simp only [ByteArray.size_append]; omega) | (simp only [ByteArray.size_append, sz]; simp; omega)), (unhide S3).mono (by omega), unhide K3⟩
  · go_wp2
    go_ret
    exact ⟨_, rfl, (by first | omega | (simp only [ByteArray.size_append]; omega) | (simp only [ByteArray.size_append, sz]; simp; omega)), (unhide S3).mono (by omega), unhide K3⟩
  · go_wp2
    go_ret
    exact ⟨_, rfl, (by first | omega | (simp only [ByteArray.size_append]; omega) | (simp only [ByteArray.size_append, sz]; simp; omega)), (unhide S3).mono (by omega), unhide K3⟩
  · have q0 : (r == 0) = false := beq_eq_false_iff_ne.2 (by omega)
    have q1 : (r == 1) = false := beq_eq_false_iff_ne.2 (by omega)
    have q2 : (r == 2) = false := beq_eq_false_iff_ne.2 (by omega)
    have q3 : (r == 3) = false := beq_eq_false_iff_ne.2 (by omega)
    have q4 : (r == 4) = false := beq_eq_false_iff_ne.2 (by omega)
    have q5 : (r == 5) = false := beq_eq_false_iff_ne.2 (by omega)
    have q6 : (r == 6) = false := beq_eq_false_iff_ne.2 (by omega)
    have q7 : (r == 7) = false := beq_eq_false_iff_ne.2 (by omega)
    have q8 : (r == 8) = false := beq_eq_false_iff_ne.2 (by omega)
    go_wp2
    go_ret
    exact ⟨_, rfl, (by first | omega | (simp only [ByteArray.size_append]; omega) | (simp only [ByteArray.size_append, sz]; simp; omega)), (unhide S3).mono (by omega), unhide K3⟩

/-- so far in a block: k statements are still to come -/
def BlkAt (g : Nat) (a : Option Addr) (len cap : Nat) (B : Nat) (D N : Int) (k z : Nat) (w : World) : Prop :=
  (k = 2 ∧ z ≤ 2 ∧ St g a len cap (N + 1) w) ∨ (k = 1 ∧ z ≤ 3 + B ∧ St g a len cap (N + 1 + D) w) ∨ (k = 0 ∧ z ≤ 4 + 2 * B ∧ St g a len cap (N + 1 + 2 * D) w)

set_option maxHeartbeats 4000000 in
theorem block_any (d : Int) (B : Nat) (D : Int) (hB1 : B ≤ 100000) (hD : 0 ≤ D) (hD1 : D ≤ 100000) (HE : StateC g a len cap d B D) : BlockC g a len cap d (2 * B + 5) (2 * D + 1) := by
  intro N q w hN hst0 hnm
  have S0 := hide hst0
  have M0 := hide hnm
  have K0 := hide (Keeps.refl g w)
  have HX := hide HE
  clear hst0 hnm HE
  go_enter Tryd.func145, Tryd.ntmps145
  go_wp2_with fail
  refine (next_st _ 3 _ (unhide S0) (by omega) (by omega) (by omega)).mono ?_
  rintro e w1 ⟨r, rfl, r0, r1, hst, hk⟩
  have S1 := hide hst
  have K1 := hide ((unhide K0).trans hk)
  have M1 := hide ((unhide M0).keep hk)
  clear hst hk
  obtain ⟨k0, rfl⟩ := Int.eq_ofNat_of_zero_le r0
  have hat0 : Hid (BlkAt g a len cap B D N k0 2 w1) := hide (by
    obtain rfl | rfl | rfl : k0 = 0 ∨ k0 = 1 ∨ k0 = 2 := by omega
    · exact .inr (.inr ⟨rfl, by omega, (unhide S1).mono (by omega)⟩)
    · exact .inr (.inl ⟨rfl, by omega, (unhide S1).mono (by omega)⟩)
    · exact .inl ⟨rfl, by omega, unhide S1⟩)
  have hk0 : k0 ≤ 2 := by omega
  go_wp2
  go_loopw [7, 8] (fun m i wx => ∃ (k : Nat) (s : ByteArray), k ≤ 2 ∧ i = .int .i64 k ∧ m = .string s ∧ Hid (BlkAt g a len cap B D N k s.size wx) ∧ Keeps g w wx) (fun _ i _ => (intOf i).toNat)
  case atStart => exact ⟨k0, _, hk0, rfl, rfl, hide (unhide hat0), unhide K1⟩
  case round =>
    clear hat0 hk0 r1
    obtain ⟨k, s, hk, rfl, rfl, hin, hkp⟩ := hrel
    have M3 := hide ((unhide M0).keep hkp)
    have K3 := hide hkp
    clear hkp
    rcases unhide hin with ⟨rfl, hz, hs⟩ | ⟨rfl, hz, hs⟩ | ⟨rfl, hz, hs⟩
    · have S3 := hide hs
      clear hs hin
      go_wp2_with fail
      refine (unhide HX _ q _ (by omega) (unhide S3) (unhide M3)).mono ?_
      rintro e w4 ⟨ea, rfl, hea, hst, hk⟩
      have S4 := hide hst
      have K4 := hide ((unhide K3).trans hk)
      have M4 := hide ((unhide M3).keep hk)
      clear hst hk
      go_wp2
      go_roundw
      case rel => exact ⟨1, _, by omega, rfl, rfl, hide (.inr (.inl ⟨rfl, by simp only [ByteArray.size_append, sz]; simp; omega, unhide S4⟩)), unhide K4⟩
      case measure => simp [intOf]
    · have S3 := hide hs
      clear hs hin
      go_wp2_with fail
      refine (unhide HX _ q _ (by omega) (unhide S3) (unhide M3)).mono ?_
      rintro e w4 ⟨ea, rfl, hea, hst, hk⟩
      have S4 := hide hst
      have K4 := hide ((unhide K3).trans hk)
      have M4 := hide ((unhide M3).keep hk)
      clear hst hk
      go_wp2
      go_roundw
      case rel => exact ⟨0, _, by omega, rfl, rfl, hide (.inr (.inr ⟨rfl, by simp only [ByteArray.size_append, sz]; simp; omega, (unhide S4).mono (by omega)⟩)), unhide K4⟩
      case measure => simp [intOf]
    · have S3 := hide hs
      clear hs hin
      go_wp2
      go_ret
      exact ⟨_, rfl, by simp only [ByteArray.size_append, sz]; simp; omega, (unhide S3).mono (by omega), unhide K3⟩

theorem state_two : StateC g a len cap 2 1995 393 :=
  state_succ 2 915 187 (by omega) (by omega) (by omega) (by omega) (by omega) (block_any 1 455 93 (by omega) (by omega) (by omega) (state_succ 1 145 37 (by omega) (by omega) (by omega) (by omega) (by omega) (block_any 0 70 18 (by omega) (by omega) (by omega) state_zero)))

end Go.Proofs.YtbipgmikgokfpaaDoor

/- AnyWalk3 -/
namespace Go.Proofs.YtbipgmikgokfpaaDoor
open Go.RowKit
set_option linter.unusedVariables false

variable {g : Nat} {a : Option Addr} {len cap : Nat}

/-- so far in a program: k statements are still to come -/
def PrgAt (g : Nat) (a : Option Addr) (len cap : Nat) (N : Int) (k z : Nat) (w : World) : Prop :=
  (k = 3 ∧ z ≤ 300 ∧ St g a len cap (N + 2) w) ∨ (k = 2 ∧ z ≤ 2300 ∧ St g a len cap (N + 402) w) ∨ (k = 1 ∧ z ≤ 4300 ∧ St g a len cap (N + 802) w) ∨ (k = 0 ∧ z ≤ 6300 ∧ St g a len cap (N + 1202) w)

set_option maxHeartbeats 8000000 in
set_option maxRecDepth 100000 in
theorem program_st (N : Int) (w : World) (hst0 : St g a len cap N w) (hN : N ≤ 700000000) :
    Calls Tryd.prog 87 #[.pointer (some ⟨g, 0, none⟩)] w fun e w' => ∃ s : ByteArray, e = .returned (.string s) ∧ s.size ≤ 7000 ∧ St g a len cap (N + 1300) w' ∧ Keeps g w w' := by
  have S0 := hide hst0
  have hg0 := hide hst0.lt
  clear hst0
  go_enter Tryd.func87, Tryd.ntmps87
  go_wp2_with fail
  refine (pick_lit N 5 60 _ _ (unhide S0) (by omega) (by omega) (by omega) rfl rfl).mono ?_
  rintro e w1 ⟨s0, rfl, hs0, hst, hk⟩
  have S1 := hide (hst.alloc (.cells #[.string ⟨#[120]⟩, .string ⟨#[121]⟩, .string ⟨#[112, 97, 116, 104]⟩] 9))
  have K1 := hide (hk.trans (.of_below (nx_alloc w1 (.cells #[.string ⟨#[120]⟩, .string ⟨#[121]⟩, .string ⟨#[112, 97, 116, 104]⟩] 9))))
  have M1 : Hid (Nm g (w1.alloc (.cells #[.string ⟨#[120]⟩, .string ⟨#[121]⟩, .string ⟨#[112, 97, 116, 104]⟩] 9)) w1.heap.size) := hide ⟨by have := hst.lt; omega, fun j hj => by
    obtain rfl | rfl | rfl : j = 0 ∨ j = 1 ∨ j = 2 := by omega
    all_goals simp [nm3]⟩
  clear hst hk
  go_wp2_with fail
  refine (next_st _ 4 _ (unhide S1) (by omega) (by omega) (by omega)).mono ?_
  rintro e w2 ⟨r, rfl, r0, r1, hst, hk⟩
  have S2 := hide hst
  have K2 := hide ((unhide K1).trans hk)
  have M2 := hide ((unhide M1).keep hk)
  clear hst hk
  obtain ⟨k0, rfl⟩ := Int.eq_ofNat_of_zero_le r0
  have hat0 : Hid (∀ z, z ≤ 300 → PrgAt g a len cap N k0 z w2) := hide (fun z hz => by
    obtain rfl | rfl | rfl | rfl : k0 = 0 ∨ k0 = 1 ∨ k0 = 2 ∨ k0 = 3 := by omega
    · exact .inr (.inr (.inr ⟨rfl, by omega, (unhide S2).mono (by omega)⟩))
    · exact .inr (.inr (.inl ⟨rfl, by omega, (unhide S2).mono (by omega)⟩))
    · exact .inr (.inl ⟨rfl, by omega, (unhide S2).mono (by omega)⟩)
    · exact .inl ⟨rfl, by omega, (unhide S2).mono (by omega)⟩)
  have hk0 : k0 ≤ 3 := by omega
  go_wp2
  go_loopw [3, 5] (fun m i wx => ∃ (k : Nat) (s : ByteArray), k ≤ 3 ∧ i = .int .i64 k ∧ m = .string s ∧ Hid (PrgAt g a len cap N k s.size wx) ∧ Keeps g w wx ∧ Hid (Nm g wx w1.heap.size)) (fun _ i _ => (intOf i).toNat)
  case atStart => exact ⟨k0, _, hk0, rfl, rfl, hide (unhide hat0 _ (by simp only [ByteArray.size_append, sz]; simp; omega)), unhide K2, M2⟩
  case round =>
    clear hat0 hk0 r1
    obtain ⟨k, s, hk, rfl, rfl, hin, hkp, M3⟩ := hrel
    have K3 := hide hkp
    clear hkp
    rcases unhide hin with ⟨rfl, hz, hs⟩ | ⟨rfl, hz, hs⟩ | ⟨rfl, hz, hs⟩ | ⟨rfl, hz, hs⟩
    · have S3 := hide hs
      clear hs hin
      go_wp2_with fail
      refine (state_two _ _ _ (by omega) (unhide S3) (unhide M3)).mono ?_
      rintro e w4 ⟨ea, rfl, hea, hst, hk⟩
      have S4 := hide hst
      have K4 := hide ((unhide K3).trans hk)
      have M4 := hide ((unhide M3).keep hk)
      clear hst hk
      go_wp2
      go_roundw
      case rel => exact ⟨2, _, by omega, rfl, rfl, hide (.inr (.inl ⟨rfl, by simp only [ByteArray.size_append, sz]; simp; omega, (unhide S4).mono (by omega)⟩)), unhide K4, M4⟩
      case measure => simp [intOf]
    · have S3 := hide hs
      clear hs hin
      go_wp2_with fail
      refine (state_two _ _ _ (by omega) (unhide S3) (unhide M3)).mono ?_
      rintro e w4 ⟨ea, rfl, hea, hst, hk⟩
      have S4 := hide hst
      have K4 := hide ((unhide K3).trans hk)
      have M4 := hide ((unhide M3).keep hk)
      clear hst hk
      go_wp2
      go_roundw
      case rel => exact ⟨1, _, by omega, rfl, rfl, hide (.inr (.inr (.inl ⟨rfl, by simp only [ByteArray.size_append, sz]; simp; omega, (unhide S4).mono (by omega)⟩))), unhide K4, M4⟩
      case measure => simp [intOf]
    · have S3 := hide hs
      clear hs hin
      go_wp2_with fail
      refine (state_two _ _ _ (by omega) (unhide S3) (unhide M3)).mono ?_
      rintro e w4 ⟨ea, rfl, hea, hst, hk⟩
      have S4 := hide hst
      have K4 := hide ((unhide K3).trans hk)
      have M4 := hide ((unhide M3).keep hk)
      clear hst hk
      go_wp2
      go_roundw
      case rel => exact ⟨0, _, by omega, rfl, rfl, hide (.inr (.inr (.inr ⟨rfl, by simp only [ByteArray.size_append, sz]; simp; omega, (unhide S4).mono (by omega)⟩))), unhide K4, M4⟩
      case measure => simp [intOf]
    · have S3 := hide hs
      clear hs hin
      go_wp2_with fail
      refine (expr_two _ _ _ (by omega) (unhide S3) (unhide M3)).mono ?_
      rintro e w4 ⟨ea, rfl, hea, hst, hk⟩
      have S4 := hide hst
      have K4 := hide ((unhide K3).trans hk)
      have M4 := hide ((unhide M3).keep hk)
      clear hst hk
      go_wp2
      go_ret
      exact ⟨_, rfl, by simp only [ByteArray.size_append, sz]; simp; omega, (unhide S4).mono (by omega), unhide K4⟩

theorem St.drew {N : Int} {w : World} (h : St g a len cap N w) : St g a len cap N w.drew := by
  obtain ⟨n, s, h1, h2⟩ := h.src
  exact ⟨⟨n, s, src_drew h1, h2⟩, h.row, h.apart, h.few⟩
theorem byte_st (N : Int) (w : World) (h : St g a len cap N w) (hN : N ≤ 900000000) :
    Calls Tryd.prog 144 #[.pointer (some ⟨g, 0, none⟩)] w fun e w' => ∃ r : Int, e = .returned (.int .i64 r) ∧ 0 ≤ r ∧ r < 256 ∧ St g a len cap (N + 1) w' ∧ Keeps g w w' := by
  obtain ⟨n, seed, h1, h2⟩ := h.src
  refine (byte_any g a len cap n seed w h1 (by omega) h.few h.row h.apart).mono ?_
  rintro e w' ⟨r, s', rfl, r0, r1, hs, ho⟩
  exact ⟨r, rfl, r0, r1, ⟨⟨n + 1, s', hs, by omega⟩, row_only h.row ho h.apart, h.apart, h.few⟩, .of_only ho⟩

set_option maxHeartbeats 1000000 in
theorem next_big (N m : Int) (w : World) (h : St g a len cap N w) (hN : N ≤ 800000000) (hm1 : 256 < m) (hm2 : m ≤ 1000000) :
    Calls Tryd.prog 111 #[.pointer (some ⟨g, 0, none⟩), .int .i64 m] w fun e w' => ∃ r : Int, e = .returned (.int .i64 r) ∧ 0 ≤ r ∧ r < m ∧ St g a len cap (N + 3) w' ∧ Keeps g w w' := by
  have S0 := hide h
  clear h
  go_enter Tryd.func111, Tryd.ntmps111
  go_wp2_with fail
  refine (byte_st N _ (unhide S0) (by omega)).mono ?_
  rintro e w1 ⟨x, rfl, x0, x1, hst, hk⟩
  have S1 := hide hst
  have K1 := hide hk
  clear hst hk
  go_wp2_with fail
  refine (byte_st _ _ (unhide S1) (by omega)).mono ?_
  rintro e w2 ⟨y, rfl, y0, y1, hst, hk⟩
  have S2 := hide hst
  have K2 := hide ((unhide K1).trans hk)
  clear hst hk
  go_wp2_with fail
  refine (byte_st _ _ (unhide S2) (by omega)).mono ?_
  rintro e w3 ⟨z, rfl, z0, z1, hst, hk⟩
  have S3 := hide hst
  have K3 := hide ((unhide K2).trans hk)
  clear hst hk
  go_wp2
  go_ret
  exact ⟨_, rfl, Int.emod_nonneg _ (by omega), Int.emod_lt_of_pos _ (by omega), (unhide S3).mono (by omega), unhide K3⟩

theorem next_one (N : Int) (w : World) (h : St g a len cap N w) :
    Calls Tryd.prog 111 #[.pointer (some ⟨g, 0, none⟩), .int .i64 1] w fun e w' => ∃ r : Int, e = .returned (.int .i64 r) ∧ 0 ≤ r ∧ r < 1 ∧ St g a len cap N w' ∧ Keeps g w w' := by
  have S0 := hide h
  clear h
  go_enter Tryd.func111, Tryd.ntmps111
  go_wp2
  go_ret
  exact ⟨0, rfl, by omega, by omega, unhide S0, Keeps.refl _ _⟩

theorem nextg_st (N m : Int) (w : World) (h : St g a len cap N w) (hN : N ≤ 800000000) (hm1 : 1 ≤ m) (hm2 : m ≤ 1000000) :
    Calls Tryd.prog 111 #[.pointer (some ⟨g, 0, none⟩), .int .i64 m] w fun e w' => ∃ r : Int, e = .returned (.int .i64 r) ∧ 0 ≤ r ∧ r < m ∧ St g a len cap (N + 3) w' ∧ Keeps g w w' := by
  by_cases h1 : m = 1
  · subst h1
    exact (next_one N w h).mono fun e w' ⟨r, e1, e2, e3, e4, e5⟩ => ⟨r, e1, e2, e3, e4.mono (by omega), e5⟩
  by_cases h2 : m ≤ 256
  · exact (next_st N m w h (by omega) (by omega) h2).mono fun e w' ⟨r, e1, e2, e3, e4, e5⟩ => ⟨r, e1, e2, e3, e4.mono (by omega), e5⟩
  · exact next_big N m w h hN (by omega) hm2

/-- bytes in block b -/
def IsB (w : World) (b n : Nat) : Prop := ∀ j, j < n → ∃ c : Int, w.cell? ⟨b, j, none⟩ = some (.int .u8 c)
theorem IsB.keep {w w' : World} {b n : Nat} (h : IsB w b n) (k : Keeps g w w') (hb : b ≠ g) : IsB w' b n := fun j hj => by
  obtain ⟨c, hc⟩ := h j hj
  exact ⟨c, k.cell hc hb⟩
theorem IsB.less {w : World} {b n m : Nat} (h : IsB w b n) (hm : m ≤ n) : IsB w b m := fun j hj => h j (by omega)
theorem IsB.set {w : World} {b n k : Nat} {x : Int} (h : IsB w b n) : IsB (w.setCell ⟨b, k, none⟩ (.int .u8 x)) b n := fun j hj => by
  obtain ⟨c, hc⟩ := h j hj
  by_cases e : j = k
  · subst e
    exact ⟨x, World.cell?_setCell_same' _ _ _ (by rw [hc]; rfl)⟩
  · exact ⟨c, by rw [World.cell?_setCell_other _ _ _ _ (by simp)]; exact hc⟩
theorem IsB.conv {w : World} {b n cp : Nat} (h : IsB w b n) : ∃ s : ByteArray, s.size = n ∧ (convert 22 9 (.slice (some ⟨b, 0, none⟩) n cp)).run Tryd.prog w = .ok (.string s) w := by
  have hx : ∃ xs : List Int, xs.length = n ∧ ∀ i, i < n → w.cell? ⟨b, 0 + i, none⟩ = some (.int .u8 (xs.getD i 0)) := by
    induction n with
    | zero => exact ⟨[], rfl, fun i hi => by omega⟩
    | succ n ih =>
      obtain ⟨xs, h1, h2⟩ := ih (h.less (by omega))
      obtain ⟨c, hc⟩ := h n (by omega)
      refine ⟨xs ++ [c], by simp [h1], fun i hi => ?_⟩
      by_cases e : i = n
      · subst e
        rw [Nat.zero_add, hc]
        simp [← h1]
      · rw [h2 i (by omega)]
        have : i < xs.length := by omega
        simp [List.getD_eq_getElem?_getD, List.getElem?_append_left this]
  obtain ⟨xs, h1, h2⟩ := hx
  refine ⟨strOfNums xs, ?_, run_convert_bytes_arg w 22 5 Tryd.underlying22 Tryd.underlying5 b 0 n cp xs h1 h2 9 Tryd.underlying9⟩
  rw [← h1]
  exact strOfNums_size xs

end Go.Proofs.YtbipgmikgokfpaaDoor

/- CountWalk -/
namespace Go.Proofs.YtbipgmikgokfpaaDoor
open Go.RowKit Go.Joins
set_option linter.unusedVariables false

def cntT (ns : List TN) (k : Int) : Nat := (ns.filter fun x => x.k == k).length
theorem cnt_next (ns : List TN) (k : Int) (m : Nat) (h : m < ns.length) : cntT (ns.take (m + 1)) k = cntT (ns.take m) k + (if ns[m].k == k then 1 else 0) := by
  unfold cntT
  rw [List.take_succ_eq_append_getElem h, List.filter_append, List.length_append]
  by_cases hk : (ns[m].k == k) = true
  · rw [if_pos hk, List.filter_cons_of_pos (p := fun x : TN => x.k == k) hk]; rfl
  · rw [if_neg hk, List.filter_cons_of_neg (p := fun x : TN => x.k == k) hk]; rfl
theorem cnt_le (ns : List TN) (k : Int) : cntT ns k ≤ ns.length := List.length_filter_le _ _
/-- what a call that counts answers -/
def CountRes (ns : List TN) (root k r c : Int) : Prop := (¬ TreeOkP ns root ∧ r = 0 ∧ c = 1) ∨ (TreeOkP ns root ∧ ¬ (1 ≤ k ∧ k ≤ 20) ∧ r = 0 ∧ c = 4) ∨ (TreeOkP ns root ∧ (1 ≤ k ∧ k ≤ 20) ∧ r = (cntT ns k : Int) ∧ c = 0)
theorem CountRes.det {ns : List TN} {root k r c r' c' : Int} (h : CountRes ns root k r c) (h' : CountRes ns root k r' c') : r = r' ∧ c = c' := by
  rcases h with ⟨a, rfl, rfl⟩ | ⟨a, b, rfl, rfl⟩ | ⟨a, b, rfl, rfl⟩ <;> rcases h' with ⟨a', rfl, rfl⟩ | ⟨a', b', rfl, rfl⟩ | ⟨a', b', rfl, rfl⟩
  all_goals first | exact ⟨rfl, rfl⟩ | exact absurd a a' | exact absurd a' a | exact absurd b b' | exact absurd b' b

set_option maxHeartbeats 1000000 in
set_option maxRecDepth 100000 in
theorem implCountKind_any (ns : List TN) (root k : Int) (L : Lay) (w : World) (hN : NodesAt w L ns) (hsm : Small ns) (htab : Hid (TabAt w 0 srcWords)) :
    Calls Tryd.prog 22 #[.agg #[.slice L.p ns.length L.cap, .int .i64 root], .int .i64 k] w fun e w' => ∃ r c : Int, e = .returned (.tuple #[.int .i64 r, .int .i64 c]) ∧ CountRes ns root k r c ∧ Below w.heap.size w w' := by
  have HN := hide hN
  have HS := hide hsm
  have hl := hsm.1
  clear hN hsm
  go_enter Tryd.func22, Tryd.ntmps22
  go_wp2_with fail
  refine (implTreeOK_any ns root L _ ((unhide HN).later (nx_alloc _ _)) (unhide HS) (hide ((unhide htab).later (nx_alloc _ _)))).mono ?_
  rintro e w1 ⟨b, rfl, hb, hb1⟩
  have hB := hide (nx_trans (nx_alloc _ _) hb1)
  have c1 : ∀ o, w1.cell? ⟨w.heap.size, o, none⟩ = (w.alloc (.cells #[.slice L.p ns.length L.cap, .int .i64 root] 25)).cell? ⟨w.heap.size, o, none⟩ := fun o => hb1.cell (p := ⟨w.heap.size, o, none⟩) (by simp)
  have d0 : w1.cell? ⟨w.heap.size, 0, none⟩ = some (.slice L.p ns.length L.cap) := by rw [c1]; simp
  clear hb1 c1
  cases b
  · have hD : Hid (CountRes ns root k 0 1) := hide (.inl ⟨fun h => (by have := hb.2 h; cases this), rfl, rfl⟩)
    clear hb
    go_wp2
    go_ret2
    exact ⟨0, 1, rfl, unhide hD, unhide hB⟩
  have HOK := hide (hb.1 rfl)
  clear hb
  by_cases h1 : k < 1
  · have hD : Hid (CountRes ns root k 0 4) := hide (.inr (.inl ⟨unhide HOK, by omega, rfl, rfl⟩))
    go_wp2
    go_ret2
    exact ⟨0, 4, rfl, unhide hD, unhide hB⟩
  by_cases h2 : 20 < k
  · have hD : Hid (CountRes ns root k 0 4) := hide (.inr (.inl ⟨unhide HOK, by omega, rfl, rfl⟩))
    go_wp2
    go_ret2
    exact ⟨0, 4, rfl, unhide hD, unhide hB⟩
  have e1 : decide (k < 1) = false := decide_eq_false h1
  have e2 : decide (20 < k) = false := decide_eq_false h2
  have hD : Hid (∀ r : Int, r = (cntT ns k : Int) → CountRes ns root k r 0) := hide (fun r hr => .inr (.inr ⟨unhide HOK, by omega, hr, rfl⟩))
  clear h1 h2
  go_wp2
  go_loopw [6, 21] (fun s i wx => ∃ m cc : Nat, m ≤ ns.length ∧ i = .int .i64 m ∧ s = .int .i64 (cc : Int) ∧ cc ≤ m ∧ Hid (cc = cntT (ns.take m) k) ∧ Hid (Below w.heap.size w wx)) (fun _ i _ => ns.length - (intOf i).toNat)
  case atStart => exact ⟨0, 0, by omega, rfl, rfl, by omega, hide (by simp [cntT]), hB⟩
  case round =>
    obtain ⟨m, cc, hm, rfl, rfl, hcm, hcc, hBx⟩ := hrel
    by_cases hlt : m < ns.length
    · obtain ⟨b, off, hp, q0, q1, q2, q3, q4, q5, q6⟩ := (unhide HN).later (unhide hBx) m hlt
      have hcn := cnt_next ns k m hlt
      rw [← unhide hcc] at hcn
      have HCN := hide hcn
      clear q5 q6 hcn
      rw [hp]
      generalize ns[m] = x at q0 q1 q2 q3 q4 HCN
      by_cases hk : x.k = k
      · have e3 : (x.k == k) = true := by simp [hk]
        have hd : Hid (cc + 1 = cntT (ns.take (m + 1)) k) := hide (by rw [unhide HCN, e3]; rfl)
        clear hk
        go_wp2
        go_roundw
        case rel => exact ⟨m + 1, cc + 1, by omega, by go_num, by go_num, by omega, hide (unhide hd), hide (nx_al (unhide hBx))⟩
        case measure => simp [intOf]; omega
      · have e3 : (x.k == k) = false := beq_eq_false_iff_ne.2 hk
        have hd : Hid (cc = cntT (ns.take (m + 1)) k) := hide (by rw [unhide HCN, e3]; rfl)
        clear hk
        go_wp2
        go_roundw
        case rel => exact ⟨m + 1, cc, by omega, by go_num, rfl, by omega, hide (unhide hd), hide (nx_al (unhide hBx))⟩
        case measure => simp [intOf]; omega
    · have hd := hide (unhide hD (cc : Int) (by rw [unhide hcc, show m = ns.length by omega, List.take_length]))
      go_wp2
      go_ret2
      exact ⟨_, 0, rfl, unhide hd, unhide hBx⟩

set_option maxHeartbeats 1000000 in
set_option maxRecDepth 100000 in
theorem specCountKind_any (ns : List TN) (root k : Int) (L : Lay) (w : World) (hN : NodesAt w L ns) (hsm : Small ns) :
    Calls Tryd.prog 31 #[.agg #[.slice L.p ns.length L.cap, .int .i64 root], .int .i64 k] w fun e w' => ∃ r c : Int, e = .returned (.tuple #[.int .i64 r, .int .i64 c]) ∧ CountRes ns root k r c ∧ Below w.heap.size w w' := by
  have HN := hide hN
  have HS := hide hsm
  have hl := hsm.1
  clear hN hsm
  go_enter Tryd.func31, Tryd.ntmps31
  go_wp2_with fail
  refine (specTreeOK_any ns root L _ ((unhide HN).later (nx_alloc _ _)) (unhide HS)).mono ?_
  rintro e w1 ⟨b, rfl, hb, hb1⟩
  have hB := hide (nx_trans (nx_alloc _ _) hb1)
  have c1 : ∀ o, w1.cell? ⟨w.heap.size, o, none⟩ = (w.alloc (.cells #[.slice L.p ns.length L.cap, .int .i64 root] 25)).cell? ⟨w.heap.size, o, none⟩ := fun o => hb1.cell (p := ⟨w.heap.size, o, none⟩) (by simp)
  have d0 : w1.cell? ⟨w.heap.size, 0, none⟩ = some (.slice L.p ns.length L.cap) := by rw [c1]; simp
  clear hb1 c1
  cases b
  · have hD : Hid (CountRes ns root k 0 1) := hide (.inl ⟨fun h => (by have := hb.2 h; cases this), rfl, rfl⟩)
    clear hb
    go_wp2
    go_ret2
    exact ⟨0, 1, rfl, unhide hD, unhide hB⟩
  have HOK := hide (hb.1 rfl)
  clear hb
  by_cases h1 : 1 ≤ k ∧ k ≤ 20
  · have hD : Hid (∀ r : Int, r = (cntT ns k : Int) → CountRes ns root k r 0) := hide (fun r hr => .inr (.inr ⟨unhide HOK, h1, hr, rfl⟩))
    go_wp2_with fail
    refine (l01In_is k 1 20 true _ (by simp; omega)).mono ?_
    rintro e w1 ⟨rfl, rfl⟩
    clear h1
    go_wp2
    go_loopw [6, 7] (fun s i wx => ∃ m cc : Nat, m ≤ ns.length ∧ i = .int .i64 m ∧ s = .int .i64 (cc : Int) ∧ cc ≤ m ∧ Hid (cc = cntT (ns.take m) k) ∧ Hid (wx = w1)) (fun _ i _ => ns.length - (intOf i).toNat)
    case atStart => exact ⟨0, 0, by omega, rfl, rfl, by omega, hide (by simp [cntT]), hide rfl⟩
    case round =>
      obtain ⟨m, cc, hm, rfl, rfl, hcm, hcc, hw1⟩ := hrel
      obtain rfl := unhide hw1
      by_cases hlt : m < ns.length
      · obtain ⟨b, off, hp, q0, q1, q2, q3, q4, q5, q6⟩ := (unhide HN).later (unhide hB) m hlt
        have hcn := cnt_next ns k m hlt
        rw [← unhide hcc] at hcn
        have HCN := hide hcn
        clear q5 q6 hcn q1 q2 q3 q4
        rw [hp] at d0
        clear hp
        generalize ns[m] = x at q0 HCN
        by_cases hk : x.k = k
        · have e3 : (x.k == k) = true := by simp [hk]
          have hd : Hid (cc + 1 = cntT (ns.take (m + 1)) k) := hide (by rw [unhide HCN, e3]; rfl)
          clear hk
          go_wp2_with fail
          refine (l01Bit_any true _).mono ?_
          rintro e w9 ⟨rfl, rfl⟩
          rw [show bitI true = 1 from rfl]
          go_wp2
          go_roundw
          case rel => exact ⟨m + 1, cc + 1, by omega, by go_num, by go_num, by omega, hide (unhide hd), hide trivial⟩
          case measure => simp [intOf]; omega
        · have e3 : (x.k == k) = false := beq_eq_false_iff_ne.2 hk
          have hd : Hid (cc = cntT (ns.take (m + 1)) k) := hide (by rw [unhide HCN, e3]; rfl)
          clear hk
          go_wp2_with fail
          refine (l01Bit_any false _).mono ?_
          rintro e w9 ⟨rfl, rfl⟩
          rw [show bitI false = 0 from rfl]
          go_wp2
          go_roundw
          case rel => exact ⟨m + 1, cc, by omega, by go_num, by go_num, by omega, hide (unhide hd), hide trivial⟩
          case measure => simp [intOf]; omega
      · have hd := hide (unhide hD (cc : Int) (by rw [unhide hcc, show m = ns.length by omega, List.take_length]))
        go_wp2
        go_ret2
        exact ⟨_, 0, rfl, unhide hd, unhide hB⟩
  · have hD : Hid (CountRes ns root k 0 4) := hide (.inr (.inl ⟨unhide HOK, h1, rfl, rfl⟩))
    go_wp2_with fail
    refine (l01In_is k 1 20 false _ (by simp; omega)).mono ?_
    rintro e w1 ⟨rfl, rfl⟩
    clear h1
    go_wp2
    go_ret2
    exact ⟨0, 4, rfl, unhide hD, unhide hB⟩

end Go.Proofs.YtbipgmikgokfpaaDoor

/- TreeFacts -/
namespace Go.Proofs.YtbipgmikgokfpaaDoor
set_option linter.unusedVariables false

theorem cover_le : ∀ (n : Nat) (l : List Nat), (∀ i, i < n → i ∈ l) → n ≤ l.length
  | 0, l, _ => Nat.zero_le _
  | n + 1, l, h => by
    have hm := h n (by omega)
    have := cover_le n (l.erase n) (fun i hi => (List.mem_erase_of_ne (by omega)).2 (h i (by omega)))
    rw [List.length_erase_of_mem hm] at this
    have : 0 < l.length := List.length_pos_of_mem hm
    omega
theorem TreeP.all {ns : List TN} {root : Int} {l : List Nat} {d : Nat} (h : TreeP ns root l d) : l.length = ns.length := by
  have h1 := nodup_le ns.length l h.2.1.2.1 h.2.1.1.lt
  have h2 := cover_le ns.length l h.2.2.2
  omega
theorem TreeP.det {ns : List TN} {root : Int} {l l' : List Nat} {d d' : Nat} (h : TreeP ns root l d) (h' : TreeP ns root l' d') : l = l' ∧ d = d' := h.2.1.1.det h'.2.1.1
/-- a way's ends, and how long it is -/
theorem PathIs.ends {ns : List TN} {root : Int} {a : Nat} {zs : List Int} {l : List Nat} {d : Nat} (h : PathIs ns root a zs) (hT : TreeP ns root l d) (hr : 0 ≤ root) : 0 < zs.length ∧ zs[0]? = some root ∧ zs[zs.length - 1]? = some (a : Int) ∧ zs.length ≤ d := by
  obtain ⟨l', d', ps, hT', hu, rfl⟩ := h
  obtain ⟨rfl, rfl⟩ := hT.det hT'
  obtain ⟨qs, hq⟩ := hu.head
  have hl := hu.last
  have hpos : 0 < ps.length := by rw [hq]; simp
  have hlen : ((ps.map fun x : Nat => (x : Int)).reverse).length = ps.length := by simp
  refine ⟨by omega, ?_, ?_, ?_⟩
  · rw [List.getElem?_reverse (by simpa using hpos), List.length_map, List.getElem?_map]
    rw [List.getLast?_eq_getElem?] at hl
    rw [show ps.length - 1 - 0 = ps.length - 1 by omega, hl]
    simp; omega
  · rw [hlen, List.getElem?_reverse (by simp; omega), List.length_map, List.getElem?_map, show ps.length - 1 - (ps.length - 1) = 0 by omega, hq]
    rfl
  · rw [hlen]
    obtain ⟨j, hj, ps', hu', hle⟩ := hT.2.1.1.up a (hu.mem a (by rw [hq]; simp))
    rw [List.mem_singleton] at hj
    subst hj
    rw [Up.det hT hu hu']; exact hle
/-- the last but one of a way is the parent -/
theorem PathIs.parent {ns : List TN} {root : Int} {a x : Nat} {zs : List Int} (h : PathIs ns root a zs) (hr : (a : Int) ≠ root) (h0 : 0 ≤ root) (hp : Par ns x a) : 1 < zs.length ∧ zs[zs.length - 2]? = some (x : Int) := by
  obtain ⟨l, d, ps, hT, hu, rfl⟩ := h
  cases hu with
  | here hl => exact absurd (by omega) hr
  | step x' y qs hx hy hp' hu' =>
    have := hT.uniq hp hp'
    subst this
    obtain ⟨rs, hq⟩ := hu'.head
    subst hq
    refine ⟨by simp, ?_⟩
    have hlen : (((a :: x :: rs).map fun x : Nat => (x : Int)).reverse).length = rs.length + 2 := by simp
    rw [hlen, List.getElem?_reverse (by simp; omega), List.length_map, List.getElem?_map]
    simp
/-- how many nodes are of the first i kinds -/
def cntUp (ns : List TN) : Nat → Nat
  | 0 => 0
  | i + 1 => cntUp ns i + cntT ns ((i + 1 : Nat) : Int)
theorem cntUp_is (ns : List TN) (i : Nat) : cntUp ns i = (ns.filter fun x => decide (1 ≤ x.k) && decide (x.k ≤ (i : Int))).length := by
  induction i with
  | zero =>
    show 0 = _
    rw [List.filter_eq_nil_iff.2 (fun x _ => by simp; omega)]; rfl
  | succ i ih =>
    rw [cntUp, ih, cntT]
    clear ih
    induction ns with
    | nil => rfl
    | cons x ns ih =>
      by_cases h1 : x.k = ((i + 1 : Nat) : Int)
      · rw [List.filter_cons_of_neg (by simp; omega), List.filter_cons_of_pos (by simpa using h1), List.filter_cons_of_pos (by simp; omega)]
        simp only [List.length_cons]; omega
      · by_cases h2 : 1 ≤ x.k ∧ x.k ≤ (i : Int)
        · rw [List.filter_cons_of_pos (by simp; omega), List.filter_cons_of_neg (by simpa using h1), List.filter_cons_of_pos (by simp; omega)]
          simp only [List.length_cons]; omega
        · rw [List.filter_cons_of_neg (by simp; omega), List.filter_cons_of_neg (by simpa using h1), List.filter_cons_of_neg (by simp; omega)]
          exact ih
theorem cntUp_le (ns : List TN) (i : Nat) : cntUp ns i ≤ ns.length := by rw [cntUp_is]; exact List.length_filter_le _ _
theorem TreeP.kinds {ns : List TN} {root : Int} {l : List Nat} {d : Nat} (h : TreeP ns root l d) : cntUp ns 20 = ns.length := by
  rw [cntUp_is, List.filter_eq_self.2]
  intro x hx
  obtain ⟨i, hi, rfl⟩ := List.getElem_of_mem hx
  obtain ⟨n, hn1, hn2, _⟩ := h.2.1.2.2.2 i (h.2.2.2 i hi)
  rw [List.getElem?_eq_getElem hi] at hn1
  obtain rfl := Option.some.inj hn1
  have hp : partsB ns[i] = true := by unfold nodeB at hn2; rw [Bool.and_eq_true] at hn2; exact hn2.2
  have := parts_kind hp
  simp; omega

end Go.Proofs.YtbipgmikgokfpaaDoor
