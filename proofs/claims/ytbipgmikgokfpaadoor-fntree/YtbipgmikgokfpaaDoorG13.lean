/- A bundle. -/
import Derived.Test.YtbipgmikgokfpaaDoorG07
import Derived.BigQuiet
import Derived.Deep.QuietTactic
import Derived.WalkSmall

/- PInner3 -/
namespace Go.Proofs.YtbipgmikgokfpaaDoor
open Go.RowKit Go.Joins
set_option linter.unusedVariables false
attribute [local irreducible] run advP upP comP needP nameP putP downP failP isP tkP nextP setP

set_option maxHeartbeats 4000000 in
set_option maxRecDepth 100000 in
theorem pinner_do3 {ts : List V3} (hTS : Hid (TS ts)) (n : Nat) (ihE : Hid (∀ k, k ≤ n → PQ ts k .expr 168)) {g : Nat} {lp : Option Addr} {lc : PX} {v : Value} {s : PS} {w : World} (h : PAt w g lp lc ts v s) (hf : Few s) (hd : s.dp ≤ 20) (hn : needN ts .inner s ≤ n + 1) (h0 : tkP ts s [108, 101, 116] = false) (h1 : tkP ts s [105, 102] = false) (h2 : tkP ts s [119, 104, 105, 108, 101] = false) (h3 : tkP ts s [114, 101, 116, 117, 114, 110] = false) (h4 : tkP ts s [116, 104, 114, 111, 119] = false) (h5 : tkP ts s [116, 114, 121] = false) (h6 : isP ts s [123] = false) (hc : s.code = 0) (hset : ¬ setP ts s = true) (hxk : (nextP ts s).k = 1) (hr : s.at' + 1 < ts.length) (hyt : ¬ ts[s.at' + 1].t = ⟨#[61]⟩) (hyk : True) :
    PZ 142 g lp lc ts v w (run ts (n + 1) .inner s) := by
  unfold PZ
  rw [run]
  rw [if_neg (nt h0), if_neg (nt h1), if_neg (nt h2), if_neg (nt h3), if_neg (nt h4), if_neg (nt h5), if_neg (nt h6), if_neg (fun h => h hc), if_neg hset, oneP]
  have hat := h.hat
  have HP := hide h
  have HK := hide (PK.refl g v w)
  have HF0 := hide hf
  have HD0 := hide hd
  have HL0 := hide (PLe.refl s)
  clear h hf hd
  have HX := hide (fun v w (hp : PAt w g lp lc ts v s) => pnext (unhide hTS) hp)
  unfold tokA at HX
  
  have HC1 := hide (fun v w (hp : PAt w g lp lc ts v s) => unhide ihE n (by omega) g lp lc v s w hp (by repeat (first | exact unhide HF0 | apply Few.put | refine Few.same ?_ (need_ns _ _ _) | refine Few.same ?_ (com_ns _ _ _) | refine Few.same ?_ (name_ns _ _) | refine Few.same ?_ (adv_ns _) | refine Few.same ?_ (up_ns _) | refine Few.same ?_ (down_ns _ _))) (by (repeat (first | rewrite [need_dp] | rewrite [com_dp] | rewrite [name_dp] | rewrite [adv_dp] | rewrite [put_dp])); exact unhide HD0) (need_run hn hat (PLe.refl s) (fun _ _ => .inl (by decide)) (fun c => absurd hc c)))
  have HF1 := hide (Few.run (ts := ts) (n := n) (f := .expr) (s := s) (by repeat (first | exact unhide HF0 | apply Few.put | refine Few.same ?_ (need_ns _ _ _) | refine Few.same ?_ (com_ns _ _ _) | refine Few.same ?_ (name_ns _ _) | refine Few.same ?_ (adv_ns _) | refine Few.same ?_ (up_ns _) | refine Few.same ?_ (down_ns _ _))))
  generalize run ts n .expr s = o1 at HC1 HF1 ⊢
  generalize nextP ts s = x at HX hxk ⊢
  obtain ⟨xk, xn, xt⟩ := x
  simp only at hxk
  go_enter Tryd.func142, Tryd.ntmps142
  have HC := hide (ptake (unhide hTS) (unhide HP) (⟨#[108, 101, 116]⟩ : ByteArray))
  unfold takeS at HC
  rw [show (⟨#[108, 101, 116]⟩ : ByteArray).data.toList = [108, 101, 116] from rfl, h0, if_neg (by simp)] at HC
  clear HP
  go_wp2_with fail
  refine (unhide HC).mono ?_
  rintro e w1 ⟨rfl, hp, hk⟩
  have HP := hide hp
  have HK2 := hide ((unhide HK).trans hk)
  clear HC hp hk HK
  have HK := HK2
  clear HK2
  have HC := hide (ptake (unhide hTS) (unhide HP) (⟨#[105, 102]⟩ : ByteArray))
  unfold takeS at HC
  rw [show (⟨#[105, 102]⟩ : ByteArray).data.toList = [105, 102] from rfl, h1, if_neg (by simp)] at HC
  clear HP
  go_wp2_with fail
  refine (unhide HC).mono ?_
  rintro e w2 ⟨rfl, hp, hk⟩
  have HP := hide hp
  have HK2 := hide ((unhide HK).trans hk)
  clear HC hp hk HK
  have HK := HK2
  clear HK2
  have HC := hide (ptake (unhide hTS) (unhide HP) (⟨#[119, 104, 105, 108, 101]⟩ : ByteArray))
  unfold takeS at HC
  rw [show (⟨#[119, 104, 105, 108, 101]⟩ : ByteArray).data.toList = [119, 104, 105, 108, 101] from rfl, h2, if_neg (by simp)] at HC
  clear HP
  go_wp2_with fail
  refine (unhide HC).mono ?_
  rintro e w3 ⟨rfl, hp, hk⟩
  have HP := hide hp
  have HK2 := hide ((unhide HK).trans hk)
  clear HC hp hk HK
  have HK := HK2
  clear HK2
  have HC := hide (ptake (unhide hTS) (unhide HP) (⟨#[114, 101, 116, 117, 114, 110]⟩ : ByteArray))
  unfold takeS at HC
  rw [show (⟨#[114, 101, 116, 117, 114, 110]⟩ : ByteArray).data.toList = [114, 101, 116, 117, 114, 110] from rfl, h3, if_neg (by simp)] at HC
  clear HP
  go_wp2_with fail
  refine (unhide HC).mono ?_
  rintro e w4 ⟨rfl, hp, hk⟩
  have HP := hide hp
  have HK2 := hide ((unhide HK).trans hk)
  clear HC hp hk HK
  have HK := HK2
  clear HK2
  have HC := hide (ptake (unhide hTS) (unhide HP) (⟨#[116, 104, 114, 111, 119]⟩ : ByteArray))
  unfold takeS at HC
  rw [show (⟨#[116, 104, 114, 111, 119]⟩ : ByteArray).data.toList = [116, 104, 114, 111, 119] from rfl, h4, if_neg (by simp)] at HC
  clear HP
  go_wp2_with fail
  refine (unhide HC).mono ?_
  rintro e w5 ⟨rfl, hp, hk⟩
  have HP := hide hp
  have HK2 := hide ((unhide HK).trans hk)
  clear HC hp hk HK
  have HK := HK2
  clear HK2
  have HC := hide (ptake (unhide hTS) (unhide HP) (⟨#[116, 114, 121]⟩ : ByteArray))
  unfold takeS at HC
  rw [show (⟨#[116, 114, 121]⟩ : ByteArray).data.toList = [116, 114, 121] from rfl, h5, if_neg (by simp)] at HC
  clear HP
  go_wp2_with fail
  refine (unhide HC).mono ?_
  rintro e w6 ⟨rfl, hp, hk⟩
  have HP := hide hp
  have HK2 := hide ((unhide HK).trans hk)
  clear HC hp hk HK
  have HK := HK2
  clear HK2
  have HC := hide (pis (unhide hTS) (unhide HP) (⟨#[123]⟩ : ByteArray))
  rw [show (⟨#[123]⟩ : ByteArray).data.toList = [123] from rfl, h6] at HC
  go_wp2_with fail
  refine (unhide HC).mono ?_
  rintro e w7 ⟨rfl, hb⟩
  have HP2 := hide ((unhide HP).later hb)
  have HK2 := hide ((unhide HK).then_below hb)
  clear HC hb HK HP
  have HK := HK2
  have HP := HP2
  clear HK2 HP2
  obtain ⟨c0, c1, c2, c3, c4, c5⟩ := (unhide HP).cells
  have hg := (unhide HP).lt
  rw [hc] at c4
  have HC := hide (unhide HX _ _ (unhide HP))
  clear HX
  go_wp2_with fail
  refine (unhide HC).mono ?_
  rintro e wx ⟨rfl, hb⟩
  have HPx := hide ((unhide HP).later hb)
  have HKx := hide ((unhide HK).then_below hb)
  clear HC hb HK HP c0 c1 c2 c3 c4 c5 hg
  obtain ⟨c0, c1, c2, c3, c4, c5⟩ := (unhide HPx).cells
  have hg := (unhide HPx).lt
  have hf3 := (unhide hTS).few
  subst hxk
  obtain ⟨tb, toff, tp, t0, t1, t2⟩ := (unhide HPx).toks (s.at' + 1) hr
  have htb : tb < g := Nat.lt_of_lt_of_le ((unhide HPx).tb _ tp) (unhide HPx).bg
  rw [tp] at c0
  clear tp
  have htw : tb < wx.heap.size := by omega
  have hri : (s.at' : Int) + 1 < (ts.length : Int) := by omega
  have hri0 : (0 : Int) ≤ (s.at' : Int) + 1 := by omega
  have htn : ((s.at' : Int) + 1).toNat = s.at' + 1 := by omega
  generalize ts[s.at' + 1].k = yk at t0 hyk
  generalize ts[s.at' + 1].t = yt at t2 hyt
  have e1 := ba_ne hyt
  have e2 := bl_ne hyt
  have e3 := lit_ne (l := [61]) hyt
  go_wp2_with fail
  go_quiet (fail)
  go_wp2_with fail
  refine (unhide HC1 _ _ ((unhide HPx).later (below_drewN (nx_alloc _ _) _))).mono ?_
  rintro e w8 ⟨rfl, v8, hp, hk⟩
  have HP := hide hp
  have HK := hide (((unhide HKx).then_below (below_drewN (nx_alloc _ _) _)).trans hk)
  clear hp hk HPx HKx HC1 c0 c1 c2 c3 c4 c5
  have HC := hide (pneed (unhide hTS) (unhide HP) (⟨#[59]⟩ : ByteArray))
  rw [show (⟨#[59]⟩ : ByteArray).data.toList = [59] from rfl] at HC
  clear HP
  go_wp2_with fail
  refine (unhide HC).mono ?_
  rintro e w8 ⟨rfl, hp, hk⟩
  have HP := hide hp
  have HK2 := hide ((unhide HK).trans hk)
  clear HC hp hk HK
  have HK := HK2
  clear HK2
  have HC := hide (pput1 (unhide hTS) (unhide HP) (by repeat (first | exact unhide HF1 | apply Few.put | refine Few.same ?_ (need_ns _ _ _) | refine Few.same ?_ (com_ns _ _ _) | refine Few.same ?_ (name_ns _ _) | refine Few.same ?_ (adv_ns _) | refine Few.same ?_ (up_ns _) | refine Few.same ?_ (down_ns _ _))) 19 em o1.r)
  clear HP
  go_wp2_with fail
  refine (unhide HC).mono ?_
  rintro e w9 ⟨rfl, vp, hp, hk⟩
  have HP := hide hp
  have HK2 := hide ((unhide HK).trans hk)
  clear HC hp hk HK
  have HK := HK2
  clear HK2
  go_wp2
  go_ret
  exact ⟨rfl, _, unhide HP, unhide HK⟩

set_option maxHeartbeats 4000000 in
set_option maxRecDepth 100000 in
theorem pinner_do4 {ts : List V3} (hTS : Hid (TS ts)) (n : Nat) (ihE : Hid (∀ k, k ≤ n → PQ ts k .expr 168)) {g : Nat} {lp : Option Addr} {lc : PX} {v : Value} {s : PS} {w : World} (h : PAt w g lp lc ts v s) (hf : Few s) (hd : s.dp ≤ 20) (hn : needN ts .inner s ≤ n + 1) (h0 : tkP ts s [108, 101, 116] = false) (h1 : tkP ts s [105, 102] = false) (h2 : tkP ts s [119, 104, 105, 108, 101] = false) (h3 : tkP ts s [114, 101, 116, 117, 114, 110] = false) (h4 : tkP ts s [116, 104, 114, 111, 119] = false) (h5 : tkP ts s [116, 114, 121] = false) (h6 : isP ts s [123] = false) (hc : s.code = 0) (hset : ¬ setP ts s = true) (hxk : (nextP ts s).k = 1) (hr : s.at' + 1 < ts.length) (hyt : ts[s.at' + 1].t = ⟨#[61]⟩) (hyk : ¬ ts[s.at' + 1].k = 5) :
    PZ 142 g lp lc ts v w (run ts (n + 1) .inner s) := by
  unfold PZ
  rw [run]
  rw [if_neg (nt h0), if_neg (nt h1), if_neg (nt h2), if_neg (nt h3), if_neg (nt h4), if_neg (nt h5), if_neg (nt h6), if_neg (fun h => h hc), if_neg hset, oneP]
  have hat := h.hat
  have HP := hide h
  have HK := hide (PK.refl g v w)
  have HF0 := hide hf
  have HD0 := hide hd
  have HL0 := hide (PLe.refl s)
  clear h hf hd
  have HX := hide (fun v w (hp : PAt w g lp lc ts v s) => pnext (unhide hTS) hp)
  unfold tokA at HX
  
  have HC1 := hide (fun v w (hp : PAt w g lp lc ts v s) => unhide ihE n (by omega) g lp lc v s w hp (by repeat (first | exact unhide HF0 | apply Few.put | refine Few.same ?_ (need_ns _ _ _) | refine Few.same ?_ (com_ns _ _ _) | refine Few.same ?_ (name_ns _ _) | refine Few.same ?_ (adv_ns _) | refine Few.same ?_ (up_ns _) | refine Few.same ?_ (down_ns _ _))) (by (repeat (first | rewrite [need_dp] | rewrite [com_dp] | rewrite [name_dp] | rewrite [adv_dp] | rewrite [put_dp])); exact unhide HD0) (need_run hn hat (PLe.refl s) (fun _ _ => .inl (by decide)) (fun c => absurd hc c)))
  have HF1 := hide (Few.run (ts := ts) (n := n) (f := .expr) (s := s) (by repeat (first | exact unhide HF0 | apply Few.put | refine Few.same ?_ (need_ns _ _ _) | refine Few.same ?_ (com_ns _ _ _) | refine Few.same ?_ (name_ns _ _) | refine Few.same ?_ (adv_ns _) | refine Few.same ?_ (up_ns _) | refine Few.same ?_ (down_ns _ _))))
  generalize run ts n .expr s = o1 at HC1 HF1 ⊢
  generalize nextP ts s = x at HX hxk ⊢
  obtain ⟨xk, xn, xt⟩ := x
  simp only at hxk
  go_enter Tryd.func142, Tryd.ntmps142
  have HC := hide (ptake (unhide hTS) (unhide HP) (⟨#[108, 101, 116]⟩ : ByteArray))
  unfold takeS at HC
  rw [show (⟨#[108, 101, 116]⟩ : ByteArray).data.toList = [108, 101, 116] from rfl, h0, if_neg (by simp)] at HC
  clear HP
  go_wp2_with fail
  refine (unhide HC).mono ?_
  rintro e w1 ⟨rfl, hp, hk⟩
  have HP := hide hp
  have HK2 := hide ((unhide HK).trans hk)
  clear HC hp hk HK
  have HK := HK2
  clear HK2
  have HC := hide (ptake (unhide hTS) (unhide HP) (⟨#[105, 102]⟩ : ByteArray))
  unfold takeS at HC
  rw [show (⟨#[105, 102]⟩ : ByteArray).data.toList = [105, 102] from rfl, h1, if_neg (by simp)] at HC
  clear HP
  go_wp2_with fail
  refine (unhide HC).mono ?_
  rintro e w2 ⟨rfl, hp, hk⟩
  have HP := hide hp
  have HK2 := hide ((unhide HK).trans hk)
  clear HC hp hk HK
  have HK := HK2
  clear HK2
  have HC := hide (ptake (unhide hTS) (unhide HP) (⟨#[119, 104, 105, 108, 101]⟩ : ByteArray))
  unfold takeS at HC
  rw [show (⟨#[119, 104, 105, 108, 101]⟩ : ByteArray).data.toList = [119, 104, 105, 108, 101] from rfl, h2, if_neg (by simp)] at HC
  clear HP
  go_wp2_with fail
  refine (unhide HC).mono ?_
  rintro e w3 ⟨rfl, hp, hk⟩
  have HP := hide hp
  have HK2 := hide ((unhide HK).trans hk)
  clear HC hp hk HK
  have HK := HK2
  clear HK2
  have HC := hide (ptake (unhide hTS) (unhide HP) (⟨#[114, 101, 116, 117, 114, 110]⟩ : ByteArray))
  unfold takeS at HC
  rw [show (⟨#[114, 101, 116, 117, 114, 110]⟩ : ByteArray).data.toList = [114, 101, 116, 117, 114, 110] from rfl, h3, if_neg (by simp)] at HC
  clear HP
  go_wp2_with fail
  refine (unhide HC).mono ?_
  rintro e w4 ⟨rfl, hp, hk⟩
  have HP := hide hp
  have HK2 := hide ((unhide HK).trans hk)
  clear HC hp hk HK
  have HK := HK2
  clear HK2
  have HC := hide (ptake (unhide hTS) (unhide HP) (⟨#[116, 104, 114, 111, 119]⟩ : ByteArray))
  unfold takeS at HC
  rw [show (⟨#[116, 104, 114, 111, 119]⟩ : ByteArray).data.toList = [116, 104, 114, 111, 119] from rfl, h4, if_neg (by simp)] at HC
  clear HP
  go_wp2_with fail
  refine (unhide HC).mono ?_
  rintro e w5 ⟨rfl, hp, hk⟩
  have HP := hide hp
  have HK2 := hide ((unhide HK).trans hk)
  clear HC hp hk HK
  have HK := HK2
  clear HK2
  have HC := hide (ptake (unhide hTS) (unhide HP) (⟨#[116, 114, 121]⟩ : ByteArray))
  unfold takeS at HC
  rw [show (⟨#[116, 114, 121]⟩ : ByteArray).data.toList = [116, 114, 121] from rfl, h5, if_neg (by simp)] at HC
  clear HP
  go_wp2_with fail
  refine (unhide HC).mono ?_
  rintro e w6 ⟨rfl, hp, hk⟩
  have HP := hide hp
  have HK2 := hide ((unhide HK).trans hk)
  clear HC hp hk HK
  have HK := HK2
  clear HK2
  have HC := hide (pis (unhide hTS) (unhide HP) (⟨#[123]⟩ : ByteArray))
  rw [show (⟨#[123]⟩ : ByteArray).data.toList = [123] from rfl, h6] at HC
  go_wp2_with fail
  refine (unhide HC).mono ?_
  rintro e w7 ⟨rfl, hb⟩
  have HP2 := hide ((unhide HP).later hb)
  have HK2 := hide ((unhide HK).then_below hb)
  clear HC hb HK HP
  have HK := HK2
  have HP := HP2
  clear HK2 HP2
  obtain ⟨c0, c1, c2, c3, c4, c5⟩ := (unhide HP).cells
  have hg := (unhide HP).lt
  rw [hc] at c4
  have HC := hide (unhide HX _ _ (unhide HP))
  clear HX
  go_wp2_with fail
  refine (unhide HC).mono ?_
  rintro e wx ⟨rfl, hb⟩
  have HPx := hide ((unhide HP).later hb)
  have HKx := hide ((unhide HK).then_below hb)
  clear HC hb HK HP c0 c1 c2 c3 c4 c5 hg
  obtain ⟨c0, c1, c2, c3, c4, c5⟩ := (unhide HPx).cells
  have hg := (unhide HPx).lt
  have hf3 := (unhide hTS).few
  subst hxk
  obtain ⟨tb, toff, tp, t0, t1, t2⟩ := (unhide HPx).toks (s.at' + 1) hr
  have htb : tb < g := Nat.lt_of_lt_of_le ((unhide HPx).tb _ tp) (unhide HPx).bg
  rw [tp] at c0
  clear tp
  have htw : tb < wx.heap.size := by omega
  have hri : (s.at' : Int) + 1 < (ts.length : Int) := by omega
  have hri0 : (0 : Int) ≤ (s.at' : Int) + 1 := by omega
  have htn : ((s.at' : Int) + 1).toNat = s.at' + 1 := by omega
  generalize ts[s.at' + 1].k = yk at t0 hyk
  generalize ts[s.at' + 1].t = yt at t2 hyt
  subst hyt
  have e1 : (yk == 5) = false := beq_eq_false_iff_ne.2 hyk
  go_wp2_with fail
  go_quiet (fail)
  go_wp2_with fail
  refine (unhide HC1 _ _ ((unhide HPx).later (below_drewN (nx_alloc _ _) _))).mono ?_
  rintro e w8 ⟨rfl, v8, hp, hk⟩
  have HP := hide hp
  have HK := hide (((unhide HKx).then_below (below_drewN (nx_alloc _ _) _)).trans hk)
  clear hp hk HPx HKx HC1 c0 c1 c2 c3 c4 c5
  have HC := hide (pneed (unhide hTS) (unhide HP) (⟨#[59]⟩ : ByteArray))
  rw [show (⟨#[59]⟩ : ByteArray).data.toList = [59] from rfl] at HC
  clear HP
  go_wp2_with fail
  refine (unhide HC).mono ?_
  rintro e w8 ⟨rfl, hp, hk⟩
  have HP := hide hp
  have HK2 := hide ((unhide HK).trans hk)
  clear HC hp hk HK
  have HK := HK2
  clear HK2
  have HC := hide (pput1 (unhide hTS) (unhide HP) (by repeat (first | exact unhide HF1 | apply Few.put | refine Few.same ?_ (need_ns _ _ _) | refine Few.same ?_ (com_ns _ _ _) | refine Few.same ?_ (name_ns _ _) | refine Few.same ?_ (adv_ns _) | refine Few.same ?_ (up_ns _) | refine Few.same ?_ (down_ns _ _))) 19 em o1.r)
  clear HP
  go_wp2_with fail
  refine (unhide HC).mono ?_
  rintro e w9 ⟨rfl, vp, hp, hk⟩
  have HP := hide hp
  have HK2 := hide ((unhide HK).trans hk)
  clear HC hp hk HK
  have HK := HK2
  clear HK2
  go_wp2
  go_ret
  exact ⟨rfl, _, unhide HP, unhide HK⟩

end Go.Proofs.YtbipgmikgokfpaaDoor

/- PInner4 -/
namespace Go.Proofs.YtbipgmikgokfpaaDoor
open Go.RowKit Go.Joins
set_option linter.unusedVariables false
attribute [local irreducible] run advP upP comP needP nameP putP downP failP isP tkP nextP setP

set_option maxHeartbeats 4000000 in
set_option maxRecDepth 100000 in
theorem pinner_set {ts : List V3} (hTS : Hid (TS ts)) (n : Nat) (ihE : Hid (∀ k, k ≤ n → PQ ts k .expr 168)) {g : Nat} {lp : Option Addr} {lc : PX} {v : Value} {s : PS} {w : World} (h : PAt w g lp lc ts v s) (hf : Few s) (hd : s.dp ≤ 20) (hn : needN ts .inner s ≤ n + 1) (h0 : tkP ts s [108, 101, 116] = false) (h1 : tkP ts s [105, 102] = false) (h2 : tkP ts s [119, 104, 105, 108, 101] = false) (h3 : tkP ts s [114, 101, 116, 117, 114, 110] = false) (h4 : tkP ts s [116, 104, 114, 111, 119] = false) (h5 : tkP ts s [116, 114, 121] = false) (h6 : isP ts s [123] = false) (hc : s.code = 0) (hset : setP ts s = true) (hxk : (nextP ts s).k = 1) (hr : s.at' + 1 < ts.length) (hyt : ts[s.at' + 1].t = ⟨#[61]⟩) (hyk : ts[s.at' + 1].k = 5) :
    PZ 142 g lp lc ts v w (run ts (n + 1) .inner s) := by
  unfold PZ
  rw [run]
  rw [if_neg (nt h0), if_neg (nt h1), if_neg (nt h2), if_neg (nt h3), if_neg (nt h4), if_neg (nt h5), if_neg (nt h6), if_neg (fun h => h hc), if_pos hset, oneP]
  have hat := h.hat
  have HP := hide h
  have HK := hide (PK.refl g v w)
  have HF0 := hide hf
  have HD0 := hide hd
  have HL0 := hide (PLe.refl s)
  clear h hf hd
  have HX := hide (fun v w (hp : PAt w g lp lc ts v s) => pnext (unhide hTS) hp)
  unfold tokA at HX
  
  have hlt2 : s.at' + 1 < ts.length := hr
  have HC1 := hide (fun v w (hp : PAt w g lp lc ts v (advP (advP s))) => unhide ihE n (by omega) g lp lc v (advP (advP s)) w hp (by repeat (first | exact unhide HF0 | apply Few.put | refine Few.same ?_ (need_ns _ _ _) | refine Few.same ?_ (com_ns _ _ _) | refine Few.same ?_ (name_ns _ _) | refine Few.same ?_ (adv_ns _) | refine Few.same ?_ (up_ns _) | refine Few.same ?_ (down_ns _ _))) (by (repeat (first | rewrite [need_dp] | rewrite [com_dp] | rewrite [name_dp] | rewrite [adv_dp] | rewrite [put_dp])); exact unhide HD0) (need_on hn hat (by repeat (first | exact unhide HL0 | apply PLe.need | apply PLe.com | apply PLe.name | apply PLe.adv | apply PLe.put | apply PLe.up | apply PLe.down)) (by first | exact PLt.need (by repeat (first | exact unhide HL0 | apply PLe.need | apply PLe.com | apply PLe.name | apply PLe.adv | apply PLe.put | apply PLe.up | apply PLe.down)) | exact PLt.name (by repeat (first | exact unhide HL0 | apply PLe.need | apply PLe.com | apply PLe.name | apply PLe.adv | apply PLe.put | apply PLe.up | apply PLe.down)) | exact PLt.adv (by repeat (first | exact unhide HL0 | apply PLe.need | apply PLe.com | apply PLe.name | apply PLe.adv | apply PLe.put | apply PLe.up | apply PLe.down))) hc))
  have HF1 := hide (Few.run (ts := ts) (n := n) (f := .expr) (s := (advP (advP s))) (by repeat (first | exact unhide HF0 | apply Few.put | refine Few.same ?_ (need_ns _ _ _) | refine Few.same ?_ (com_ns _ _ _) | refine Few.same ?_ (name_ns _ _) | refine Few.same ?_ (adv_ns _) | refine Few.same ?_ (up_ns _) | refine Few.same ?_ (down_ns _ _))))
  generalize run ts n .expr (advP (advP s)) = o1 at HC1 HF1 ⊢
  generalize nextP ts s = x at HX hxk ⊢
  obtain ⟨xk, xn, xt⟩ := x
  simp only at hxk
  go_enter Tryd.func142, Tryd.ntmps142
  have HC := hide (ptake (unhide hTS) (unhide HP) (⟨#[108, 101, 116]⟩ : ByteArray))
  unfold takeS at HC
  rw [show (⟨#[108, 101, 116]⟩ : ByteArray).data.toList = [108, 101, 116] from rfl, h0, if_neg (by simp)] at HC
  clear HP
  go_wp2_with fail
  refine (unhide HC).mono ?_
  rintro e w1 ⟨rfl, hp, hk⟩
  have HP := hide hp
  have HK2 := hide ((unhide HK).trans hk)
  clear HC hp hk HK
  have HK := HK2
  clear HK2
  have HC := hide (ptake (unhide hTS) (unhide HP) (⟨#[105, 102]⟩ : ByteArray))
  unfold takeS at HC
  rw [show (⟨#[105, 102]⟩ : ByteArray).data.toList = [105, 102] from rfl, h1, if_neg (by simp)] at HC
  clear HP
  go_wp2_with fail
  refine (unhide HC).mono ?_
  rintro e w2 ⟨rfl, hp, hk⟩
  have HP := hide hp
  have HK2 := hide ((unhide HK).trans hk)
  clear HC hp hk HK
  have HK := HK2
  clear HK2
  have HC := hide (ptake (unhide hTS) (unhide HP) (⟨#[119, 104, 105, 108, 101]⟩ : ByteArray))
  unfold takeS at HC
  rw [show (⟨#[119, 104, 105, 108, 101]⟩ : ByteArray).data.toList = [119, 104, 105, 108, 101] from rfl, h2, if_neg (by simp)] at HC
  clear HP
  go_wp2_with fail
  refine (unhide HC).mono ?_
  rintro e w3 ⟨rfl, hp, hk⟩
  have HP := hide hp
  have HK2 := hide ((unhide HK).trans hk)
  clear HC hp hk HK
  have HK := HK2
  clear HK2
  have HC := hide (ptake (unhide hTS) (unhide HP) (⟨#[114, 101, 116, 117, 114, 110]⟩ : ByteArray))
  unfold takeS at HC
  rw [show (⟨#[114, 101, 116, 117, 114, 110]⟩ : ByteArray).data.toList = [114, 101, 116, 117, 114, 110] from rfl, h3, if_neg (by simp)] at HC
  clear HP
  go_wp2_with fail
  refine (unhide HC).mono ?_
  rintro e w4 ⟨rfl, hp, hk⟩
  have HP := hide hp
  have HK2 := hide ((unhide HK).trans hk)
  clear HC hp hk HK
  have HK := HK2
  clear HK2
  have HC := hide (ptake (unhide hTS) (unhide HP) (⟨#[116, 104, 114, 111, 119]⟩ : ByteArray))
  unfold takeS at HC
  rw [show (⟨#[116, 104, 114, 111, 119]⟩ : ByteArray).data.toList = [116, 104, 114, 111, 119] from rfl, h4, if_neg (by simp)] at HC
  clear HP
  go_wp2_with fail
  refine (unhide HC).mono ?_
  rintro e w5 ⟨rfl, hp, hk⟩
  have HP := hide hp
  have HK2 := hide ((unhide HK).trans hk)
  clear HC hp hk HK
  have HK := HK2
  clear HK2
  have HC := hide (ptake (unhide hTS) (unhide HP) (⟨#[116, 114, 121]⟩ : ByteArray))
  unfold takeS at HC
  rw [show (⟨#[116, 114, 121]⟩ : ByteArray).data.toList = [116, 114, 121] from rfl, h5, if_neg (by simp)] at HC
  clear HP
  go_wp2_with fail
  refine (unhide HC).mono ?_
  rintro e w6 ⟨rfl, hp, hk⟩
  have HP := hide hp
  have HK2 := hide ((unhide HK).trans hk)
  clear HC hp hk HK
  have HK := HK2
  clear HK2
  have HC := hide (pis (unhide hTS) (unhide HP) (⟨#[123]⟩ : ByteArray))
  rw [show (⟨#[123]⟩ : ByteArray).data.toList = [123] from rfl, h6] at HC
  go_wp2_with fail
  refine (unhide HC).mono ?_
  rintro e w7 ⟨rfl, hb⟩
  have HP2 := hide ((unhide HP).later hb)
  have HK2 := hide ((unhide HK).then_below hb)
  clear HC hb HK HP
  have HK := HK2
  have HP := HP2
  clear HK2 HP2
  obtain ⟨c0, c1, c2, c3, c4, c5⟩ := (unhide HP).cells
  have hg := (unhide HP).lt
  rw [hc] at c4
  have HC := hide (unhide HX _ _ (unhide HP))
  clear HX
  go_wp2_with fail
  refine (unhide HC).mono ?_
  rintro e wx ⟨rfl, hb⟩
  have HPx := hide ((unhide HP).later hb)
  have HKx := hide ((unhide HK).then_below hb)
  clear HC hb HK HP c0 c1 c2 c3 c4 c5 hg
  obtain ⟨c0, c1, c2, c3, c4, c5⟩ := (unhide HPx).cells
  have hg := (unhide HPx).lt
  have hf3 := (unhide hTS).few
  subst hxk
  obtain ⟨tb, toff, tp, t0, t1, t2⟩ := (unhide HPx).toks (s.at' + 1) hr
  have htb : tb < g := Nat.lt_of_lt_of_le ((unhide HPx).tb _ tp) (unhide HPx).bg
  rw [tp] at c0
  clear tp
  have htw : tb < wx.heap.size := by omega
  have hri : (s.at' : Int) + 1 < (ts.length : Int) := by omega
  have hri0 : (0 : Int) ≤ (s.at' : Int) + 1 := by omega
  have htn : ((s.at' : Int) + 1).toNat = s.at' + 1 := by omega
  generalize ts[s.at' + 1].k = yk at t0 hyk
  generalize ts[s.at' + 1].t = yt at t2 hyt
  subst hyt
  subst hyk
  go_wp2_with fail
  go_quiet (fail)
  have z1 := (unhide HPx).free 1
  have hown := (unhide HPx).own
  go_wp2_with fail
  refine (unhide HC1 _ _ (((unhide HPx).later (below_drewN (nx_alloc wx (.cells #[.int .i64 1, .int .i64 xn, .string xt] 169)) nq)).adv2 hlt2)).mono ?_
  rintro e wy ⟨rfl, v8, hp, hk⟩
  have HP := hide hp
  have HK := hide ((((unhide HKx).then_below (below_drewN (nx_alloc wx (.cells #[.int .i64 1, .int .i64 xn, .string xt] 169)) nq)).set (o := 1)).trans hk)
  have hbx : wy.cell? ⟨wx.heap.size, 2, none⟩ = some (.string xt) := hk.cell (by rw [World.cell?_setCell_other _ _ _ _ (by simp)]; simp) (by omega) (fun e => by have := hown _ e; omega)
  have hvo : v8.ownBlock ≠ some wx.heap.size := fun e => by
    rcases hk.own _ e with e | e
    · have := hown _ e; omega
    · simp at e; omega
  clear hown c0 c1 c2 c3 c4 c5 z1 t0 t1 t2
  clear hp hk HPx HKx HC1
  have hgx : wx.heap.size ≠ g := by omega
  have HC := hide (pneed (unhide hTS) (unhide HP) (⟨#[59]⟩ : ByteArray))
  rw [show (⟨#[59]⟩ : ByteArray).data.toList = [59] from rfl] at HC
  clear HP
  go_wp2_with fail
  refine (unhide HC).mono ?_
  rintro e w8 ⟨rfl, hp, hk⟩
  have hby := hk.cell hbx hgx hvo
  clear hbx
  have HP := hide hp
  have HK2 := hide ((unhide HK).trans hk)
  clear HC hp hk HK
  have HK := HK2
  clear HK2
  have HC := hide (pput1 (unhide hTS) (unhide HP) (by repeat (first | exact unhide HF1 | apply Few.put | refine Few.same ?_ (need_ns _ _ _) | refine Few.same ?_ (com_ns _ _ _) | refine Few.same ?_ (name_ns _ _) | refine Few.same ?_ (adv_ns _) | refine Few.same ?_ (up_ns _) | refine Few.same ?_ (down_ns _ _))) 12 xt o1.r)
  clear HP
  go_wp2_with fail
  refine (unhide HC).mono ?_
  rintro e w9 ⟨rfl, vp, hp, hk⟩
  have HP := hide hp
  have HK2 := hide ((unhide HK).trans hk)
  clear HC hp hk HK
  have HK := HK2
  clear HK2
  go_wp2
  go_ret
  exact ⟨rfl, _, unhide HP, unhide HK⟩

end Go.Proofs.YtbipgmikgokfpaaDoor

/- POrder -/
namespace Go.Proofs.YtbipgmikgokfpaaDoor
open Go.RowKit Go.Joins
set_option linter.unusedVariables false

set_option maxHeartbeats 4000000 in
set_option maxRecDepth 100000 in
theorem porder_step {ts : List V3} (hTS : Hid (TS ts)) (n : Nat) (ih : Hid (∀ k, k ≤ n → PQ ts k .sum 191)) : PQ ts (n + 1) .order 185 := by
  intro g lp lc v s w h hf hd hn
  have hat := h.hat
  have HC := hide (unhide ih n (Nat.le_refl _) g lp lc v s w h hf hd (need_run hn hat (PLe.refl s) (fun _ _ => .inl (by decide)) (fun _ => by decide)))
  have HR : run ts (n + 1) .order s = run ts n (.orderL (run ts n .sum s).r) (run ts n .sum s).s := by rw [run]
  rw [HR]
  have HF1 := hide (hf.run (ts := ts) (n := n) (f := .sum))
  have HD1 := hide (run_dp ts n .sum s)
  have HN1 := hide (fun a => need_run (f' := .orderL a) hn hat (run_le ts n .sum s s (PLe.refl s)) (fun _ _ => .inl (by show lev (.orderL 0) < lev .order; decide)) (fun _ => (by show lev0 (.orderL 0) < lev0 .order; decide)))
  generalize run ts n .sum s = o at HC HF1 HD1 HN1 ⊢
  clear h hf hn HR
  go_enter Tryd.func185, Tryd.ntmps185
  go_wp2_with fail
  refine (unhide HC).mono ?_
  rintro e w1 ⟨rfl, v1, hp1, hk1⟩
  have HP1 := hide hp1
  have HK1 := hide hk1
  clear HC hp1 hk1
  go_wp2
  go_loopg [3] n (fun gn a wx => ∃ (a' : Int) (s' : PS) (v' : Value), a = .int .i64 a' ∧ gn ≤ n ∧ Hid (needN ts (.orderL a') s' ≤ gn) ∧ Hid (PAt wx g lp lc ts v' s') ∧ Hid (PK g v v' w wx) ∧ Hid (Few s') ∧ Hid (s'.dp ≤ 20) ∧ Hid (run ts gn (.orderL a') s' = run ts n (.orderL o.r) o.s))
  case atStart => exact ⟨o.r, o.s, v1, rfl, Nat.le_refl _, hide (unhide HN1 _), HP1, HK1, HF1, hide (by rw [unhide HD1]; exact hd), hide rfl⟩
  case round =>
    obtain ⟨a', s', v', rfl, hgn, HN, HP, HK, HF, HD, HRn⟩ := hrel
    obtain ⟨k, hk⟩ := need_pos (unhide HN)
    have HR2 := unhide HRn
    rw [hk, run] at HR2
    have hat' := (unhide HP).hat
    have c4 := (unhide HP).cells.2.2.2.2.1
    have HI := hide (fun t w2 (hp2 : PAt w2 g lp lc ts v' s') => pis (unhide hTS) hp2 t)
    clear HP1 HK1 HF1 HD1 HN1 HRn
    by_cases hc : s'.code = 0
    · rw [hc] at c4
      cases hi : isP ts s' [60] with
      | true =>
        have HI1 := hide (unhide HI ⟨#[60]⟩ wr (unhide HP))
        rw [show (⟨#[60]⟩ : ByteArray).data.toList = [60] from rfl, hi] at HI1
        rw [if_pos ⟨hc, .inl hi⟩] at HR2
        have hlt := is_lt hi
        have HN2 := hide (need_on (f' := .sum) (hk ▸ unhide HN) hat' (PLe.refl s').adv (PLt.adv (PLe.refl s')) hc)
        have HN3 := hide (fun b => need_on (f' := .orderL b) (hk ▸ unhide HN) hat' (run_le ts k .sum s' (advP s') (PLe.refl s').adv).put (PLt.put (ts := ts) (x := ⟨7, 0, (nextP ts s').t, [], [a', (run ts k .sum (advP s')).r]⟩) (run_lt ts k .sum s' (advP s') rfl (PLe.refl s').adv)) hc)
        have HC2 := hide (fun w2 hp2 => unhide ih k (by omega) g lp lc v' (advP s') w2 hp2 ((unhide HF).same (adv_ns _)) (by rw [adv_dp]; exact unhide HD) (unhide HN2))
        have HF2 := hide (((unhide HF).same (adv_ns _)).run (ts := ts) (n := k) (f := .sum))
        have HD2 : Hid ((run ts k .sum (advP s')).s.dp ≤ 20) := hide (by rw [run_dp, adv_dp]; exact unhide HD)
        have HX := hide (fun w2 (hp2 : PAt w2 g lp lc ts v' s') => pnext (unhide hTS) hp2)
        unfold tokA at HX
        generalize run ts k .sum (advP s') = o2 at HC2 HF2 HD2 HN3 HR2
        generalize nextP ts s' = x at HX HN3 HR2
        have HR3 := hide HR2
        clear HN2 HN HR2 hi HF HD
        clear HI
        go_wp2_with fail
        refine (unhide HI1).mono ?_
        rintro e w2 ⟨rfl, hb2⟩
        have HP2 := hide ((unhide HP).later hb2)
        have HK2 := hide ((unhide HK).then_below hb2)
        clear HI1 hb2 HP HK
        have HX2 := hide (unhide HX w2 (unhide HP2))
        clear HX
        go_wp2_with fail
        refine (unhide HX2).mono ?_
        rintro e w5 ⟨rfl, hb5⟩
        have hfd := fieldTok2 x.k x.n x.t w5
        have hp5 := (unhide HP2).later hb5
        obtain ⟨c0, c1, c2, c3, c4, c5⟩ := hp5.cells
        have z1 := hp5.free 1
        have hf3 := (unhide hTS).few
        have hg5 := hp5.lt
        have HC3 := hide (unhide HC2 _ (hp5.adv hlt))
        have HK5 := hide (((unhide HK2).then_below hb5).set (o := 1) (x := .int .i64 ((s'.at' : Int) + 1)))
        clear hb5 hp5 HC2 HX2 HP2 HK2 c0 c2 c3 c4 c5
        go_wp2_with fail
        refine (unhide HC3).mono ?_
        rintro e w3 ⟨rfl, v3, hp3, hk3⟩
        have HC4 := hide (pput2 (unhide hTS) hp3 (unhide HF2) 7 x.t a' o2.r)
        have HK3 := hide ((unhide HK5).trans hk3)
        clear HC3 HK5 hp3 hk3 c1 z1 hfd
        go_wp2_with fail
        refine (unhide HC4).mono ?_
        rintro e w4 ⟨rfl, v4, hp4, hk4⟩
        have HP4 := hide hp4
        have HK4 := hide ((unhide HK3).trans hk4)
        clear HC4 HK3 hp4 hk4
        go_wp2
        go_roundg k
        case rel => exact ⟨_, _, v4, rfl, by omega, hide (unhide HN3 _), HP4, HK4, hide ((unhide HF2).put), hide (by rw [put_dp]; exact unhide HD2), HR3⟩
        case measure => omega
      | false =>
        have hi0 := hi
        clear hi
        have HI1 := hide (unhide HI ⟨#[60]⟩ wr (unhide HP))
        rw [show (⟨#[60]⟩ : ByteArray).data.toList = [60] from rfl, hi0] at HI1
        go_wp2_with fail
        refine (unhide HI1).mono ?_
        rintro e w2 ⟨rfl, hb2⟩
        have HP2 := hide ((unhide HP).later hb2)
        have HK2 := hide ((unhide HK).then_below hb2)
        clear HI1 hb2 HP HK
        cases hi : isP ts s' [61, 61] with
        | true =>
          have HI1 := hide (unhide HI ⟨#[61, 61]⟩ w2 (unhide HP2))
          rw [show (⟨#[61, 61]⟩ : ByteArray).data.toList = [61, 61] from rfl, hi] at HI1
          rw [if_pos ⟨hc, .inr (hi)⟩] at HR2
          have hlt := is_lt hi
          have HN2 := hide (need_on (f' := .sum) (hk ▸ unhide HN) hat' (PLe.refl s').adv (PLt.adv (PLe.refl s')) hc)
          have HN3 := hide (fun b => need_on (f' := .orderL b) (hk ▸ unhide HN) hat' (run_le ts k .sum s' (advP s') (PLe.refl s').adv).put (PLt.put (ts := ts) (x := ⟨7, 0, (nextP ts s').t, [], [a', (run ts k .sum (advP s')).r]⟩) (run_lt ts k .sum s' (advP s') rfl (PLe.refl s').adv)) hc)
          have HC2 := hide (fun w2 hp2 => unhide ih k (by omega) g lp lc v' (advP s') w2 hp2 ((unhide HF).same (adv_ns _)) (by rw [adv_dp]; exact unhide HD) (unhide HN2))
          have HF2 := hide (((unhide HF).same (adv_ns _)).run (ts := ts) (n := k) (f := .sum))
          have HD2 : Hid ((run ts k .sum (advP s')).s.dp ≤ 20) := hide (by rw [run_dp, adv_dp]; exact unhide HD)
          have HX := hide (fun w2 (hp2 : PAt w2 g lp lc ts v' s') => pnext (unhide hTS) hp2)
          unfold tokA at HX
          generalize run ts k .sum (advP s') = o2 at HC2 HF2 HD2 HN3 HR2
          generalize nextP ts s' = x at HX HN3 HR2
          have HR3 := hide HR2
          clear HN2 HN HR2 hi HF HD
          clear HI
          go_wp2_with fail
          refine (unhide HI1).mono ?_
          rintro e w6 ⟨rfl, hb2⟩
          have HP6 := hide ((unhide HP2).later hb2)
          have HK6 := hide ((unhide HK2).then_below hb2)
          clear HI1 hb2 HP2 HK2
          have HX2 := hide (unhide HX w6 (unhide HP6))
          clear HX
          go_wp2_with fail
          refine (unhide HX2).mono ?_
          rintro e w5 ⟨rfl, hb5⟩
          have hfd := fieldTok2 x.k x.n x.t w5
          have hp5 := (unhide HP6).later hb5
          obtain ⟨c0, c1, c2, c3, c4, c5⟩ := hp5.cells
          have z1 := hp5.free 1
          have hf3 := (unhide hTS).few
          have hg5 := hp5.lt
          have HC3 := hide (unhide HC2 _ (hp5.adv hlt))
          have HK5 := hide (((unhide HK6).then_below hb5).set (o := 1) (x := .int .i64 ((s'.at' : Int) + 1)))
          clear hb5 hp5 HC2 HX2 HP6 HK6 c0 c2 c3 c4 c5
          go_wp2_with fail
          refine (unhide HC3).mono ?_
          rintro e w3 ⟨rfl, v3, hp3, hk3⟩
          have HC4 := hide (pput2 (unhide hTS) hp3 (unhide HF2) 7 x.t a' o2.r)
          have HK3 := hide ((unhide HK5).trans hk3)
          clear HC3 HK5 hp3 hk3 c1 z1 hfd
          go_wp2_with fail
          refine (unhide HC4).mono ?_
          rintro e w4 ⟨rfl, v4, hp4, hk4⟩
          have HP4 := hide hp4
          have HK4 := hide ((unhide HK3).trans hk4)
          clear HC4 HK3 hp4 hk4
          go_wp2
          go_roundg k
          case rel => exact ⟨_, _, v4, rfl, by omega, hide (unhide HN3 _), HP4, HK4, hide ((unhide HF2).put), hide (by rw [put_dp]; exact unhide HD2), HR3⟩
          case measure => omega
        | false =>
          have hi1 := hi
          clear hi
          have HI1 := hide (unhide HI ⟨#[61, 61]⟩ w2 (unhide HP2))
          rw [show (⟨#[61, 61]⟩ : ByteArray).data.toList = [61, 61] from rfl, hi1] at HI1
          go_wp2_with fail
          refine (unhide HI1).mono ?_
          rintro e w6 ⟨rfl, hb2⟩
          have HPn := hide ((unhide HP2).later hb2)
          have HKn := hide ((unhide HK2).then_below hb2)
          clear HI1 hb2 HP2 HK2
          have hno : ¬ (s'.code = 0 ∧ (isP ts s' [60] = true ∨ isP ts s' [61, 61] = true)) := by
            rintro ⟨_, h⟩
            rcases h with h | h
            · rw [hi0] at h; cases h
            · rw [hi1] at h; cases h
          rw [if_neg hno] at HR2
          have HR3 := hide HR2.symm
          clear HR2 hno hi0 hi1 hk hc
          go_wp2
          go_ret
          rw [unhide HR3]
          exact ⟨rfl, v', unhide HPn, unhide HKn⟩
    · have e0 : (s'.code == 0) = false := beq_eq_false_iff_ne.2 hc
      rw [if_neg (fun h => hc h.1)] at HR2
      have HR3 := hide HR2.symm
      clear HR2 hk hc
      go_wp2
      go_ret
      rw [unhide HR3]
      exact ⟨rfl, v', unhide HP, unhide HK⟩

end Go.Proofs.YtbipgmikgokfpaaDoor

/- PSum -/
namespace Go.Proofs.YtbipgmikgokfpaaDoor
open Go.RowKit Go.Joins
set_option linter.unusedVariables false

set_option maxHeartbeats 4000000 in
set_option maxRecDepth 100000 in
theorem psum_step {ts : List V3} (hTS : Hid (TS ts)) (n : Nat) (ih : Hid (∀ k, k ≤ n → PQ ts k .prod 194)) : PQ ts (n + 1) .sum 191 := by
  intro g lp lc v s w h hf hd hn
  have hat := h.hat
  have HC := hide (unhide ih n (Nat.le_refl _) g lp lc v s w h hf hd (need_run hn hat (PLe.refl s) (fun _ _ => .inl (by decide)) (fun _ => by decide)))
  have HR : run ts (n + 1) .sum s = run ts n (.sumL (run ts n .prod s).r) (run ts n .prod s).s := by rw [run]
  rw [HR]
  have HF1 := hide (hf.run (ts := ts) (n := n) (f := .prod))
  have HD1 := hide (run_dp ts n .prod s)
  have HN1 := hide (fun a => need_run (f' := .sumL a) hn hat (run_le ts n .prod s s (PLe.refl s)) (fun _ _ => .inl (by show lev (.sumL 0) < lev .sum; decide)) (fun _ => (by show lev0 (.sumL 0) < lev0 .sum; decide)))
  generalize run ts n .prod s = o at HC HF1 HD1 HN1 ⊢
  clear h hf hn HR
  go_enter Tryd.func191, Tryd.ntmps191
  go_wp2_with fail
  refine (unhide HC).mono ?_
  rintro e w1 ⟨rfl, v1, hp1, hk1⟩
  have HP1 := hide hp1
  have HK1 := hide hk1
  clear HC hp1 hk1
  go_wp2
  go_loopg [3] n (fun gn a wx => ∃ (a' : Int) (s' : PS) (v' : Value), a = .int .i64 a' ∧ gn ≤ n ∧ Hid (needN ts (.sumL a') s' ≤ gn) ∧ Hid (PAt wx g lp lc ts v' s') ∧ Hid (PK g v v' w wx) ∧ Hid (Few s') ∧ Hid (s'.dp ≤ 20) ∧ Hid (run ts gn (.sumL a') s' = run ts n (.sumL o.r) o.s))
  case atStart => exact ⟨o.r, o.s, v1, rfl, Nat.le_refl _, hide (unhide HN1 _), HP1, HK1, HF1, hide (by rw [unhide HD1]; exact hd), hide rfl⟩
  case round =>
    obtain ⟨a', s', v', rfl, hgn, HN, HP, HK, HF, HD, HRn⟩ := hrel
    obtain ⟨k, hk⟩ := need_pos (unhide HN)
    have HR2 := unhide HRn
    rw [hk, run] at HR2
    have hat' := (unhide HP).hat
    have c4 := (unhide HP).cells.2.2.2.2.1
    have HI := hide (fun t w2 (hp2 : PAt w2 g lp lc ts v' s') => pis (unhide hTS) hp2 t)
    clear HP1 HK1 HF1 HD1 HN1 HRn
    by_cases hc : s'.code = 0
    · rw [hc] at c4
      cases hi : isP ts s' [43] with
      | true =>
        have HI1 := hide (unhide HI ⟨#[43]⟩ wr (unhide HP))
        rw [show (⟨#[43]⟩ : ByteArray).data.toList = [43] from rfl, hi] at HI1
        rw [if_pos ⟨hc, .inl hi⟩] at HR2
        have hlt := is_lt hi
        have HN2 := hide (need_on (f' := .prod) (hk ▸ unhide HN) hat' (PLe.refl s').adv (PLt.adv (PLe.refl s')) hc)
        have HN3 := hide (fun b => need_on (f' := .sumL b) (hk ▸ unhide HN) hat' (run_le ts k .prod s' (advP s') (PLe.refl s').adv).put (PLt.put (ts := ts) (x := ⟨7, 0, (nextP ts s').t, [], [a', (run ts k .prod (advP s')).r]⟩) (run_lt ts k .prod s' (advP s') rfl (PLe.refl s').adv)) hc)
        have HC2 := hide (fun w2 hp2 => unhide ih k (by omega) g lp lc v' (advP s') w2 hp2 ((unhide HF).same (adv_ns _)) (by rw [adv_dp]; exact unhide HD) (unhide HN2))
        have HF2 := hide (((unhide HF).same (adv_ns _)).run (ts := ts) (n := k) (f := .prod))
        have HD2 : Hid ((run ts k .prod (advP s')).s.dp ≤ 20) := hide (by rw [run_dp, adv_dp]; exact unhide HD)
        have HX := hide (fun w2 (hp2 : PAt w2 g lp lc ts v' s') => pnext (unhide hTS) hp2)
        unfold tokA at HX
        generalize run ts k .prod (advP s') = o2 at HC2 HF2 HD2 HN3 HR2
        generalize nextP ts s' = x at HX HN3 HR2
        have HR3 := hide HR2
        clear HN2 HN HR2 hi HF HD
        clear HI
        go_wp2_with fail
        refine (unhide HI1).mono ?_
        rintro e w2 ⟨rfl, hb2⟩
        have HP2 := hide ((unhide HP).later hb2)
        have HK2 := hide ((unhide HK).then_below hb2)
        clear HI1 hb2 HP HK
        have HX2 := hide (unhide HX w2 (unhide HP2))
        clear HX
        go_wp2_with fail
        refine (unhide HX2).mono ?_
        rintro e w5 ⟨rfl, hb5⟩
        have hfd := fieldTok2 x.k x.n x.t w5
        have hp5 := (unhide HP2).later hb5
        obtain ⟨c0, c1, c2, c3, c4, c5⟩ := hp5.cells
        have z1 := hp5.free 1
        have hf3 := (unhide hTS).few
        have hg5 := hp5.lt
        have HC3 := hide (unhide HC2 _ (hp5.adv hlt))
        have HK5 := hide (((unhide HK2).then_below hb5).set (o := 1) (x := .int .i64 ((s'.at' : Int) + 1)))
        clear hb5 hp5 HC2 HX2 HP2 HK2 c0 c2 c3 c4 c5
        go_wp2_with fail
        refine (unhide HC3).mono ?_
        rintro e w3 ⟨rfl, v3, hp3, hk3⟩
        have HC4 := hide (pput2 (unhide hTS) hp3 (unhide HF2) 7 x.t a' o2.r)
        have HK3 := hide ((unhide HK5).trans hk3)
        clear HC3 HK5 hp3 hk3 c1 z1 hfd
        go_wp2_with fail
        refine (unhide HC4).mono ?_
        rintro e w4 ⟨rfl, v4, hp4, hk4⟩
        have HP4 := hide hp4
        have HK4 := hide ((unhide HK3).trans hk4)
        clear HC4 HK3 hp4 hk4
        go_wp2
        go_roundg k
        case rel => exact ⟨_, _, v4, rfl, by omega, hide (unhide HN3 _), HP4, HK4, hide ((unhide HF2).put), hide (by rw [put_dp]; exact unhide HD2), HR3⟩
        case measure => omega
      | false =>
        have hi0 := hi
        clear hi
        have HI1 := hide (unhide HI ⟨#[43]⟩ wr (unhide HP))
        rw [show (⟨#[43]⟩ : ByteArray).data.toList = [43] from rfl, hi0] at HI1
        go_wp2_with fail
        refine (unhide HI1).mono ?_
        rintro e w2 ⟨rfl, hb2⟩
        have HP2 := hide ((unhide HP).later hb2)
        have HK2 := hide ((unhide HK).then_below hb2)
        clear HI1 hb2 HP HK
        cases hi : isP ts s' [45] with
        | true =>
          have HI1 := hide (unhide HI ⟨#[45]⟩ w2 (unhide HP2))
          rw [show (⟨#[45]⟩ : ByteArray).data.toList = [45] from rfl, hi] at HI1
          rw [if_pos ⟨hc, .inr (hi)⟩] at HR2
          have hlt := is_lt hi
          have HN2 := hide (need_on (f' := .prod) (hk ▸ unhide HN) hat' (PLe.refl s').adv (PLt.adv (PLe.refl s')) hc)
          have HN3 := hide (fun b => need_on (f' := .sumL b) (hk ▸ unhide HN) hat' (run_le ts k .prod s' (advP s') (PLe.refl s').adv).put (PLt.put (ts := ts) (x := ⟨7, 0, (nextP ts s').t, [], [a', (run ts k .prod (advP s')).r]⟩) (run_lt ts k .prod s' (advP s') rfl (PLe.refl s').adv)) hc)
          have HC2 := hide (fun w2 hp2 => unhide ih k (by omega) g lp lc v' (advP s') w2 hp2 ((unhide HF).same (adv_ns _)) (by rw [adv_dp]; exact unhide HD) (unhide HN2))
          have HF2 := hide (((unhide HF).same (adv_ns _)).run (ts := ts) (n := k) (f := .prod))
          have HD2 : Hid ((run ts k .prod (advP s')).s.dp ≤ 20) := hide (by rw [run_dp, adv_dp]; exact unhide HD)
          have HX := hide (fun w2 (hp2 : PAt w2 g lp lc ts v' s') => pnext (unhide hTS) hp2)
          unfold tokA at HX
          generalize run ts k .prod (advP s') = o2 at HC2 HF2 HD2 HN3 HR2
          generalize nextP ts s' = x at HX HN3 HR2
          have HR3 := hide HR2
          clear HN2 HN HR2 hi HF HD
          clear HI
          go_wp2_with fail
          refine (unhide HI1).mono ?_
          rintro e w6 ⟨rfl, hb2⟩
          have HP6 := hide ((unhide HP2).later hb2)
          have HK6 := hide ((unhide HK2).then_below hb2)
          clear HI1 hb2 HP2 HK2
          have HX2 := hide (unhide HX w6 (unhide HP6))
          clear HX
          go_wp2_with fail
          refine (unhide HX2).mono ?_
          rintro e w5 ⟨rfl, hb5⟩
          have hfd := fieldTok2 x.k x.n x.t w5
          have hp5 := (unhide HP6).later hb5
          obtain ⟨c0, c1, c2, c3, c4, c5⟩ := hp5.cells
          have z1 := hp5.free 1
          have hf3 := (unhide hTS).few
          have hg5 := hp5.lt
          have HC3 := hide (unhide HC2 _ (hp5.adv hlt))
          have HK5 := hide (((unhide HK6).then_below hb5).set (o := 1) (x := .int .i64 ((s'.at' : Int) + 1)))
          clear hb5 hp5 HC2 HX2 HP6 HK6 c0 c2 c3 c4 c5
          go_wp2_with fail
          refine (unhide HC3).mono ?_
          rintro e w3 ⟨rfl, v3, hp3, hk3⟩
          have HC4 := hide (pput2 (unhide hTS) hp3 (unhide HF2) 7 x.t a' o2.r)
          have HK3 := hide ((unhide HK5).trans hk3)
          clear HC3 HK5 hp3 hk3 c1 z1 hfd
          go_wp2_with fail
          refine (unhide HC4).mono ?_
          rintro e w4 ⟨rfl, v4, hp4, hk4⟩
          have HP4 := hide hp4
          have HK4 := hide ((unhide HK3).trans hk4)
          clear HC4 HK3 hp4 hk4
          go_wp2
          go_roundg k
          case rel => exact ⟨_, _, v4, rfl, by omega, hide (unhide HN3 _), HP4, HK4, hide ((unhide HF2).put), hide (by rw [put_dp]; exact unhide HD2), HR3⟩
          case measure => omega
        | false =>
          have hi1 := hi
          clear hi
          have HI1 := hide (unhide HI ⟨#[45]⟩ w2 (unhide HP2))
          rw [show (⟨#[45]⟩ : ByteArray).data.toList = [45] from rfl, hi1] at HI1
          go_wp2_with fail
          refine (unhide HI1).mono ?_
          rintro e w6 ⟨rfl, hb2⟩
          have HPn := hide ((unhide HP2).later hb2)
          have HKn := hide ((unhide HK2).then_below hb2)
          clear HI1 hb2 HP2 HK2
          have hno : ¬ (s'.code = 0 ∧ (isP ts s' [43] = true ∨ isP ts s' [45] = true)) := by
            rintro ⟨_, h⟩
            rcases h with h | h
            · rw [hi0] at h; cases h
            · rw [hi1] at h; cases h
          rw [if_neg hno] at HR2
          have HR3 := hide HR2.symm
          clear HR2 hno hi0 hi1 hk hc
          go_wp2
          go_ret
          rw [unhide HR3]
          exact ⟨rfl, v', unhide HPn, unhide HKn⟩
    · have e0 : (s'.code == 0) = false := beq_eq_false_iff_ne.2 hc
      rw [if_neg (fun h => hc h.1)] at HR2
      have HR3 := hide HR2.symm
      clear HR2 hk hc
      go_wp2
      go_ret
      rw [unhide HR3]
      exact ⟨rfl, v', unhide HP, unhide HK⟩

end Go.Proofs.YtbipgmikgokfpaaDoor
