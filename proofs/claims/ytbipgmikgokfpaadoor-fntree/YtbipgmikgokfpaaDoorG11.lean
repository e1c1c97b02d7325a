/- A bundle. -/
import Derived.Test.YtbipgmikgokfpaaDoorG07
import Derived.Test.YtbipgmikgokfpaaDoorG06

/- PInner -/
namespace Go.Proofs.YtbipgmikgokfpaaDoor
open Go.RowKit Go.Joins
set_option linter.unusedVariables false
attribute [local irreducible] run advP upP comP needP nameP putP downP failP isP tkP nextP setP

set_option maxHeartbeats 4000000 in
set_option maxRecDepth 100000 in
theorem pinner_let {ts : List V3} (hTS : Hid (TS ts)) (n : Nat) (ihE : Hid (∀ k, k ≤ n → PQ ts k .expr 168)) {g : Nat} {lp : Option Addr} {lc : PX} {v : Value} {s : PS} {w : World} (h : PAt w g lp lc ts v s) (hf : Few s) (hd : s.dp ≤ 20) (hn : needN ts .inner s ≤ n + 1) (hy : tkP ts s [108, 101, 116] = true) :
    PZ 142 g lp lc ts v w (run ts (n + 1) .inner s) := by
  unfold PZ
  rw [run]
  rw [if_pos hy, oneP]
  have hat := h.hat
  have HP := hide h
  have HK := hide (PK.refl g v w)
  have HF0 := hide hf
  have HD0 := hide hd
  have HL0 := hide (PLe.refl s)
  clear h hf hd
  have hc := (tk_code hy).1
  have HC1 := hide (fun v w (hp : PAt w g lp lc ts v (needP ts [61] (nameP ts (advP s)).2)) => unhide ihE n (by omega) g lp lc v (needP ts [61] (nameP ts (advP s)).2) w hp (by repeat (first | exact unhide HF0 | apply Few.put | refine Few.same ?_ (need_ns _ _ _) | refine Few.same ?_ (com_ns _ _ _) | refine Few.same ?_ (name_ns _ _) | refine Few.same ?_ (adv_ns _) | refine Few.same ?_ (up_ns _) | refine Few.same ?_ (down_ns _ _))) (by (repeat (first | rewrite [need_dp] | rewrite [com_dp] | rewrite [name_dp] | rewrite [adv_dp] | rewrite [put_dp])); exact unhide HD0) (need_on hn hat (by repeat (first | exact unhide HL0 | apply PLe.need | apply PLe.com | apply PLe.name | apply PLe.adv | apply PLe.put | apply PLe.up | apply PLe.down)) (by first | exact PLt.need (by repeat (first | exact unhide HL0 | apply PLe.need | apply PLe.com | apply PLe.name | apply PLe.adv | apply PLe.put | apply PLe.up | apply PLe.down)) | exact PLt.name (by repeat (first | exact unhide HL0 | apply PLe.need | apply PLe.com | apply PLe.name | apply PLe.adv | apply PLe.put | apply PLe.up | apply PLe.down)) | exact PLt.adv (by repeat (first | exact unhide HL0 | apply PLe.need | apply PLe.com | apply PLe.name | apply PLe.adv | apply PLe.put | apply PLe.up | apply PLe.down))) hc))
  have HL1 := hide (run_le ts n .expr s (needP ts [61] (nameP ts (advP s)).2) (by repeat (first | exact unhide HL0 | apply PLe.need | apply PLe.com | apply PLe.name | apply PLe.adv | apply PLe.put | apply PLe.up | apply PLe.down)))
  have HT1 := hide (run_lt ts n .expr s (needP ts [61] (nameP ts (advP s)).2) rfl (by repeat (first | exact unhide HL0 | apply PLe.need | apply PLe.com | apply PLe.name | apply PLe.adv | apply PLe.put | apply PLe.up | apply PLe.down)))
  have HF1 := hide (Few.run (ts := ts) (n := n) (f := .expr) (s := (needP ts [61] (nameP ts (advP s)).2)) (by repeat (first | exact unhide HF0 | apply Few.put | refine Few.same ?_ (need_ns _ _ _) | refine Few.same ?_ (com_ns _ _ _) | refine Few.same ?_ (name_ns _ _) | refine Few.same ?_ (adv_ns _) | refine Few.same ?_ (up_ns _) | refine Few.same ?_ (down_ns _ _))))
  have HD1 : Hid ((run ts n .expr (needP ts [61] (nameP ts (advP s)).2)).s.dp ≤ 20) := hide (by rw [run_dp]; exact (by (repeat (first | rewrite [need_dp] | rewrite [com_dp] | rewrite [name_dp] | rewrite [adv_dp] | rewrite [put_dp])); exact unhide HD0))
  generalize run ts n .expr (needP ts [61] (nameP ts (advP s)).2) = o1 at HC1 HL1 HT1 HF1 HD1  ⊢
  go_enter Tryd.func142, Tryd.ntmps142
  have HC := hide (ptake (unhide hTS) (unhide HP) (⟨#[108, 101, 116]⟩ : ByteArray))
  unfold takeS at HC
  rw [show (⟨#[108, 101, 116]⟩ : ByteArray).data.toList = [108, 101, 116] from rfl, hy, if_pos rfl] at HC
  clear HP
  go_wp2_with fail
  refine (unhide HC).mono ?_
  rintro e w1 ⟨rfl, hp, hk⟩
  have HP := hide hp
  have HK2 := hide ((unhide HK).trans hk)
  clear HC hp hk HK
  have HK := HK2
  clear HK2
  have HC := hide (pname (unhide hTS) (unhide HP))
  clear HP
  go_wp2_with fail
  refine (unhide HC).mono ?_
  rintro e w2 ⟨rfl, hp, hk⟩
  have HP := hide hp
  have HK2 := hide ((unhide HK).trans hk)
  clear HC hp hk HK
  have HK := HK2
  clear HK2
  have HC := hide (pneed (unhide hTS) (unhide HP) (⟨#[61]⟩ : ByteArray))
  rw [show (⟨#[61]⟩ : ByteArray).data.toList = [61] from rfl] at HC
  clear HP
  go_wp2_with fail
  refine (unhide HC).mono ?_
  rintro e w3 ⟨rfl, hp, hk⟩
  have HP := hide hp
  have HK2 := hide ((unhide HK).trans hk)
  clear HC hp hk HK
  have HK := HK2
  clear HK2
  have HC := hide (unhide HC1 _ _ (unhide HP))
  clear HP HC1
  go_wp2_with fail
  refine (unhide HC).mono ?_
  rintro e w4 ⟨rfl, v1, hp, hk⟩
  have HP := hide hp
  have HK2 := hide ((unhide HK).trans hk)
  clear HC hp hk HK
  have HK := HK2
  clear HK2
  have HC := hide (pneed (unhide hTS) (unhide HP) (⟨#[59]⟩ : ByteArray))
  rw [show (⟨#[59]⟩ : ByteArray).data.toList = [59] from rfl] at HC
  clear HP
  go_wp2_with fail
  refine (unhide HC).mono ?_
  rintro e w5 ⟨rfl, hp, hk⟩
  have HP := hide hp
  have HK2 := hide ((unhide HK).trans hk)
  clear HC hp hk HK
  have HK := HK2
  clear HK2
  have HC := hide (pput1 (unhide hTS) (unhide HP) (by repeat (first | exact unhide HF1 | apply Few.put | refine Few.same ?_ (need_ns _ _ _) | refine Few.same ?_ (com_ns _ _ _) | refine Few.same ?_ (name_ns _ _) | refine Few.same ?_ (adv_ns _) | refine Few.same ?_ (up_ns _) | refine Few.same ?_ (down_ns _ _))) 11 (nameP ts (advP s)).1 o1.r)
  clear HP
  go_wp2_with fail
  refine (unhide HC).mono ?_
  rintro e w6 ⟨rfl, vp, hp, hk⟩
  have HP := hide hp
  have HK2 := hide ((unhide HK).trans hk)
  clear HC hp hk HK
  have HK := HK2
  clear HK2
  go_wp2
  go_ret
  exact ⟨rfl, _, unhide HP, unhide HK⟩

set_option maxHeartbeats 4000000 in
set_option maxRecDepth 100000 in
theorem pinner_if3 {ts : List V3} (hTS : Hid (TS ts)) (n : Nat) (ihE : Hid (∀ k, k ≤ n → PQ ts k .expr 168)) (ihB : Hid (∀ k, k ≤ n → PQ ts k .block 140)) {g : Nat} {lp : Option Addr} {lc : PX} {v : Value} {s : PS} {w : World} (h : PAt w g lp lc ts v s) (hf : Few s) (hd : s.dp ≤ 20) (hn : needN ts .inner s ≤ n + 1) (h0 : tkP ts s [108, 101, 116] = false) (hy : tkP ts s [105, 102] = true) (he : tkP ts (run ts n .block (needP ts [41] (run ts n .expr (needP ts [40] (advP s))).s)).s [101, 108, 115, 101] = true) :
    PZ 142 g lp lc ts v w (run ts (n + 1) .inner s) := by
  unfold PZ
  rw [run]
  rw [if_neg (nt h0), if_pos hy, if_pos he, oneP]
  have hat := h.hat
  have HP := hide h
  have HK := hide (PK.refl g v w)
  have HF0 := hide hf
  have HD0 := hide hd
  have HL0 := hide (PLe.refl s)
  clear h hf hd
  have hc := (tk_code hy).1
  have HC1 := hide (fun v w (hp : PAt w g lp lc ts v (needP ts [40] (advP s))) => unhide ihE n (by omega) g lp lc v (needP ts [40] (advP s)) w hp (by repeat (first | exact unhide HF0 | apply Few.put | refine Few.same ?_ (need_ns _ _ _) | refine Few.same ?_ (com_ns _ _ _) | refine Few.same ?_ (name_ns _ _) | refine Few.same ?_ (adv_ns _) | refine Few.same ?_ (up_ns _) | refine Few.same ?_ (down_ns _ _))) (by (repeat (first | rewrite [need_dp] | rewrite [com_dp] | rewrite [name_dp] | rewrite [adv_dp] | rewrite [put_dp])); exact unhide HD0) (need_on hn hat (by repeat (first | exact unhide HL0 | apply PLe.need | apply PLe.com | apply PLe.name | apply PLe.adv | apply PLe.put | apply PLe.up | apply PLe.down)) (by first | exact PLt.need (by repeat (first | exact unhide HL0 | apply PLe.need | apply PLe.com | apply PLe.name | apply PLe.adv | apply PLe.put | apply PLe.up | apply PLe.down)) | exact PLt.name (by repeat (first | exact unhide HL0 | apply PLe.need | apply PLe.com | apply PLe.name | apply PLe.adv | apply PLe.put | apply PLe.up | apply PLe.down)) | exact PLt.adv (by repeat (first | exact unhide HL0 | apply PLe.need | apply PLe.com | apply PLe.name | apply PLe.adv | apply PLe.put | apply PLe.up | apply PLe.down))) hc))
  have HL1 := hide (run_le ts n .expr s (needP ts [40] (advP s)) (by repeat (first | exact unhide HL0 | apply PLe.need | apply PLe.com | apply PLe.name | apply PLe.adv | apply PLe.put | apply PLe.up | apply PLe.down)))
  have HT1 := hide (run_lt ts n .expr s (needP ts [40] (advP s)) rfl (by repeat (first | exact unhide HL0 | apply PLe.need | apply PLe.com | apply PLe.name | apply PLe.adv | apply PLe.put | apply PLe.up | apply PLe.down)))
  have HF1 := hide (Few.run (ts := ts) (n := n) (f := .expr) (s := (needP ts [40] (advP s))) (by repeat (first | exact unhide HF0 | apply Few.put | refine Few.same ?_ (need_ns _ _ _) | refine Few.same ?_ (com_ns _ _ _) | refine Few.same ?_ (name_ns _ _) | refine Few.same ?_ (adv_ns _) | refine Few.same ?_ (up_ns _) | refine Few.same ?_ (down_ns _ _))))
  have HD1 : Hid ((run ts n .expr (needP ts [40] (advP s))).s.dp ≤ 20) := hide (by rw [run_dp]; exact (by (repeat (first | rewrite [need_dp] | rewrite [com_dp] | rewrite [name_dp] | rewrite [adv_dp] | rewrite [put_dp])); exact unhide HD0))
  generalize run ts n .expr (needP ts [40] (advP s)) = o1 at HC1 HL1 HT1 HF1 HD1 he ⊢
  have HC2 := hide (fun v w (hp : PAt w g lp lc ts v (needP ts [41] o1.s)) => unhide ihB n (by omega) g lp lc v (needP ts [41] o1.s) w hp (by repeat (first | exact unhide HF1 | apply Few.put | refine Few.same ?_ (need_ns _ _ _) | refine Few.same ?_ (com_ns _ _ _) | refine Few.same ?_ (name_ns _ _) | refine Few.same ?_ (adv_ns _) | refine Few.same ?_ (up_ns _) | refine Few.same ?_ (down_ns _ _))) (by (repeat (first | rewrite [need_dp] | rewrite [com_dp] | rewrite [name_dp] | rewrite [adv_dp] | rewrite [put_dp])); exact unhide HD1) (need_on hn hat (by repeat (first | exact unhide HL1 | apply PLe.need | apply PLe.com | apply PLe.name | apply PLe.adv | apply PLe.put | apply PLe.up | apply PLe.down)) ((unhide HT1).le (by repeat (first | exact PLe.refl _ | apply PLe.need | apply PLe.com | apply PLe.name | apply PLe.adv | apply PLe.put | apply PLe.up | apply PLe.down))) hc))
  have HL2 := hide (run_le ts n .block s (needP ts [41] o1.s) (by repeat (first | exact unhide HL1 | apply PLe.need | apply PLe.com | apply PLe.name | apply PLe.adv | apply PLe.put | apply PLe.up | apply PLe.down)))
  have HT2 := hide (run_lt ts n .block s (needP ts [41] o1.s) rfl (by repeat (first | exact unhide HL1 | apply PLe.need | apply PLe.com | apply PLe.name | apply PLe.adv | apply PLe.put | apply PLe.up | apply PLe.down)))
  have HF2 := hide (Few.run (ts := ts) (n := n) (f := .block) (s := (needP ts [41] o1.s)) (by repeat (first | exact unhide HF1 | apply Few.put | refine Few.same ?_ (need_ns _ _ _) | refine Few.same ?_ (com_ns _ _ _) | refine Few.same ?_ (name_ns _ _) | refine Few.same ?_ (adv_ns _) | refine Few.same ?_ (up_ns _) | refine Few.same ?_ (down_ns _ _))))
  have HD2 : Hid ((run ts n .block (needP ts [41] o1.s)).s.dp ≤ 20) := hide (by rw [run_dp]; exact (by (repeat (first | rewrite [need_dp] | rewrite [com_dp] | rewrite [name_dp] | rewrite [adv_dp] | rewrite [put_dp])); exact unhide HD1))
  generalize run ts n .block (needP ts [41] o1.s) = o2 at HC2 HL2 HT2 HF2 HD2 he ⊢
  have HC3 := hide (fun v w (hp : PAt w g lp lc ts v (advP o2.s)) => unhide ihB n (by omega) g lp lc v (advP o2.s) w hp (by repeat (first | exact unhide HF2 | apply Few.put | refine Few.same ?_ (need_ns _ _ _) | refine Few.same ?_ (com_ns _ _ _) | refine Few.same ?_ (name_ns _ _) | refine Few.same ?_ (adv_ns _) | refine Few.same ?_ (up_ns _) | refine Few.same ?_ (down_ns _ _))) (by (repeat (first | rewrite [need_dp] | rewrite [com_dp] | rewrite [name_dp] | rewrite [adv_dp] | rewrite [put_dp])); exact unhide HD2) (need_on hn hat (by repeat (first | exact unhide HL2 | apply PLe.need | apply PLe.com | apply PLe.name | apply PLe.adv | apply PLe.put | apply PLe.up | apply PLe.down)) ((unhide HT2).le (by repeat (first | exact PLe.refl _ | apply PLe.need | apply PLe.com | apply PLe.name | apply PLe.adv | apply PLe.put | apply PLe.up | apply PLe.down))) hc))
  have HL3 := hide (run_le ts n .block s (advP o2.s) (by repeat (first | exact unhide HL2 | apply PLe.need | apply PLe.com | apply PLe.name | apply PLe.adv | apply PLe.put | apply PLe.up | apply PLe.down)))
  have HT3 := hide (run_lt ts n .block s (advP o2.s) rfl (by repeat (first | exact unhide HL2 | apply PLe.need | apply PLe.com | apply PLe.name | apply PLe.adv | apply PLe.put | apply PLe.up | apply PLe.down)))
  have HF3 := hide (Few.run (ts := ts) (n := n) (f := .block) (s := (advP o2.s)) (by repeat (first | exact unhide HF2 | apply Few.put | refine Few.same ?_ (need_ns _ _ _) | refine Few.same ?_ (com_ns _ _ _) | refine Few.same ?_ (name_ns _ _) | refine Few.same ?_ (adv_ns _) | refine Few.same ?_ (up_ns _) | refine Few.same ?_ (down_ns _ _))))
  have HD3 : Hid ((run ts n .block (advP o2.s)).s.dp ≤ 20) := hide (by rw [run_dp]; exact (by (repeat (first | rewrite [need_dp] | rewrite [com_dp] | rewrite [name_dp] | rewrite [adv_dp] | rewrite [put_dp])); exact unhide HD2))
  generalize run ts n .block (advP o2.s) = o3 at HC3 HL3 HT3 HF3 HD3 he ⊢
  go_enter Tryd.func142, Tryd.ntmps142
  have HC := hide (ptake (unhide hTS) (unhide HP) (⟨#[108, 101, 116]⟩ : ByteArray))
  unfold takeS at HC
  rw [show (⟨#[108, 101, 116]⟩ : ByteArray).data.toList = [108, 101, 116] from rfl, h0, if_neg (by simp)] at HC
  clear HP
  go_wp2_with fail
  refine (unhide HC).mono ?_
  rintro e w1 ⟨rfl, hp, hk⟩
  have HP := hide hp
  have HK2 := hide ((unhide HK).trans hk)
  clear HC hp hk HK
  have HK := HK2
  clear HK2
  have HC := hide (ptake (unhide hTS) (unhide HP) (⟨#[105, 102]⟩ : ByteArray))
  unfold takeS at HC
  rw [show (⟨#[105, 102]⟩ : ByteArray).data.toList = [105, 102] from rfl, hy, if_pos rfl] at HC
  clear HP
  go_wp2_with fail
  refine (unhide HC).mono ?_
  rintro e w2 ⟨rfl, hp, hk⟩
  have HP := hide hp
  have HK2 := hide ((unhide HK).trans hk)
  clear HC hp hk HK
  have HK := HK2
  clear HK2
  have HC := hide (pneed (unhide hTS) (unhide HP) (⟨#[40]⟩ : ByteArray))
  rw [show (⟨#[40]⟩ : ByteArray).data.toList = [40] from rfl] at HC
  clear HP
  go_wp2_with fail
  refine (unhide HC).mono ?_
  rintro e w3 ⟨rfl, hp, hk⟩
  have HP := hide hp
  have HK2 := hide ((unhide HK).trans hk)
  clear HC hp hk HK
  have HK := HK2
  clear HK2
  have HC := hide (unhide HC1 _ _ (unhide HP))
  clear HP HC1
  go_wp2_with fail
  refine (unhide HC).mono ?_
  rintro e w4 ⟨rfl, v1, hp, hk⟩
  have HP := hide hp
  have HK2 := hide ((unhide HK).trans hk)
  clear HC hp hk HK
  have HK := HK2
  clear HK2
  have HC := hide (pneed (unhide hTS) (unhide HP) (⟨#[41]⟩ : ByteArray))
  rw [show (⟨#[41]⟩ : ByteArray).data.toList = [41] from rfl] at HC
  clear HP
  go_wp2_with fail
  refine (unhide HC).mono ?_
  rintro e w5 ⟨rfl, hp, hk⟩
  have HP := hide hp
  have HK2 := hide ((unhide HK).trans hk)
  clear HC hp hk HK
  have HK := HK2
  clear HK2
  have HC := hide (unhide HC2 _ _ (unhide HP))
  clear HP HC2
  go_wp2_with fail
  refine (unhide HC).mono ?_
  rintro e w6 ⟨rfl, v2, hp, hk⟩
  have HP := hide hp
  have HK2 := hide ((unhide HK).trans hk)
  clear HC hp hk HK
  have HK := HK2
  clear HK2
  have HC := hide (ptake (unhide hTS) (unhide HP) (⟨#[101, 108, 115, 101]⟩ : ByteArray))
  unfold takeS at HC
  rw [show (⟨#[101, 108, 115, 101]⟩ : ByteArray).data.toList = [101, 108, 115, 101] from rfl, he, if_pos rfl] at HC
  clear HP
  go_wp2_with fail
  refine (unhide HC).mono ?_
  rintro e w7 ⟨rfl, hp, hk⟩
  have HP := hide hp
  have HK2 := hide ((unhide HK).trans hk)
  clear HC hp hk HK
  have HK := HK2
  clear HK2
  have HC := hide (unhide HC3 _ _ (unhide HP))
  clear HP HC3
  go_wp2_with fail
  refine (unhide HC).mono ?_
  rintro e w8 ⟨rfl, v3, hp, hk⟩
  have HP := hide hp
  have HK2 := hide ((unhide HK).trans hk)
  clear HC hp hk HK
  have HK := HK2
  clear HK2
  have HC := hide (pput3 (unhide hTS) (unhide HP) (by repeat (first | exact unhide HF3 | apply Few.put | refine Few.same ?_ (need_ns _ _ _) | refine Few.same ?_ (com_ns _ _ _) | refine Few.same ?_ (name_ns _ _) | refine Few.same ?_ (adv_ns _) | refine Few.same ?_ (up_ns _) | refine Few.same ?_ (down_ns _ _))) 13 em o1.r o2.r o3.r)
  clear HP
  go_wp2_with fail
  refine (unhide HC).mono ?_
  rintro e w9 ⟨rfl, vp, hp, hk⟩
  have HP := hide hp
  have HK2 := hide ((unhide HK).trans hk)
  clear HC hp hk HK
  have HK := HK2
  clear HK2
  go_wp2
  go_ret
  exact ⟨rfl, _, unhide HP, unhide HK⟩

set_option maxHeartbeats 4000000 in
set_option maxRecDepth 100000 in
theorem pinner_if2 {ts : List V3} (hTS : Hid (TS ts)) (n : Nat) (ihE : Hid (∀ k, k ≤ n → PQ ts k .expr 168)) (ihB : Hid (∀ k, k ≤ n → PQ ts k .block 140)) {g : Nat} {lp : Option Addr} {lc : PX} {v : Value} {s : PS} {w : World} (h : PAt w g lp lc ts v s) (hf : Few s) (hd : s.dp ≤ 20) (hn : needN ts .inner s ≤ n + 1) (h0 : tkP ts s [108, 101, 116] = false) (hy : tkP ts s [105, 102] = true) (he : tkP ts (run ts n .block (needP ts [41] (run ts n .expr (needP ts [40] (advP s))).s)).s [101, 108, 115, 101] = false) :
    PZ 142 g lp lc ts v w (run ts (n + 1) .inner s) := by
  unfold PZ
  rw [run]
  rw [if_neg (nt h0), if_pos hy, if_neg (nt he), oneP]
  have hat := h.hat
  have HP := hide h
  have HK := hide (PK.refl g v w)
  have HF0 := hide hf
  have HD0 := hide hd
  have HL0 := hide (PLe.refl s)
  clear h hf hd
  have hc := (tk_code hy).1
  have HC1 := hide (fun v w (hp : PAt w g lp lc ts v (needP ts [40] (advP s))) => unhide ihE n (by omega) g lp lc v (needP ts [40] (advP s)) w hp (by repeat (first | exact unhide HF0 | apply Few.put | refine Few.same ?_ (need_ns _ _ _) | refine Few.same ?_ (com_ns _ _ _) | refine Few.same ?_ (name_ns _ _) | refine Few.same ?_ (adv_ns _) | refine Few.same ?_ (up_ns _) | refine Few.same ?_ (down_ns _ _))) (by (repeat (first | rewrite [need_dp] | rewrite [com_dp] | rewrite [name_dp] | rewrite [adv_dp] | rewrite [put_dp])); exact unhide HD0) (need_on hn hat (by repeat (first | exact unhide HL0 | apply PLe.need | apply PLe.com | apply PLe.name | apply PLe.adv | apply PLe.put | apply PLe.up | apply PLe.down)) (by first | exact PLt.need (by repeat (first | exact unhide HL0 | apply PLe.need | apply PLe.com | apply PLe.name | apply PLe.adv | apply PLe.put | apply PLe.up | apply PLe.down)) | exact PLt.name (by repeat (first | exact unhide HL0 | apply PLe.need | apply PLe.com | apply PLe.name | apply PLe.adv | apply PLe.put | apply PLe.up | apply PLe.down)) | exact PLt.adv (by repeat (first | exact unhide HL0 | apply PLe.need | apply PLe.com | apply PLe.name | apply PLe.adv | apply PLe.put | apply PLe.up | apply PLe.down))) hc))
  have HL1 := hide (run_le ts n .expr s (needP ts [40] (advP s)) (by repeat (first | exact unhide HL0 | apply PLe.need | apply PLe.com | apply PLe.name | apply PLe.adv | apply PLe.put | apply PLe.up | apply PLe.down)))
  have HT1 := hide (run_lt ts n .expr s (needP ts [40] (advP s)) rfl (by repeat (first | exact unhide HL0 | apply PLe.need | apply PLe.com | apply PLe.name | apply PLe.adv | apply PLe.put | apply PLe.up | apply PLe.down)))
  have HF1 := hide (Few.run (ts := ts) (n := n) (f := .expr) (s := (needP ts [40] (advP s))) (by repeat (first | exact unhide HF0 | apply Few.put | refine Few.same ?_ (need_ns _ _ _) | refine Few.same ?_ (com_ns _ _ _) | refine Few.same ?_ (name_ns _ _) | refine Few.same ?_ (adv_ns _) | refine Few.same ?_ (up_ns _) | refine Few.same ?_ (down_ns _ _))))
  have HD1 : Hid ((run ts n .expr (needP ts [40] (advP s))).s.dp ≤ 20) := hide (by rw [run_dp]; exact (by (repeat (first | rewrite [need_dp] | rewrite [com_dp] | rewrite [name_dp] | rewrite [adv_dp] | rewrite [put_dp])); exact unhide HD0))
  generalize run ts n .expr (needP ts [40] (advP s)) = o1 at HC1 HL1 HT1 HF1 HD1 he ⊢
  have HC2 := hide (fun v w (hp : PAt w g lp lc ts v (needP ts [41] o1.s)) => unhide ihB n (by omega) g lp lc v (needP ts [41] o1.s) w hp (by repeat (first | exact unhide HF1 | apply Few.put | refine Few.same ?_ (need_ns _ _ _) | refine Few.same ?_ (com_ns _ _ _) | refine Few.same ?_ (name_ns _ _) | refine Few.same ?_ (adv_ns _) | refine Few.same ?_ (up_ns _) | refine Few.same ?_ (down_ns _ _))) (by (repeat (first | rewrite [need_dp] | rewrite [com_dp] | rewrite [name_dp] | rewrite [adv_dp] | rewrite [put_dp])); exact unhide HD1) (need_on hn hat (by repeat (first | exact unhide HL1 | apply PLe.need | apply PLe.com | apply PLe.name | apply PLe.adv | apply PLe.put | apply PLe.up | apply PLe.down)) ((unhide HT1).le (by repeat (first | exact PLe.refl _ | apply PLe.need | apply PLe.com | apply PLe.name | apply PLe.adv | apply PLe.put | apply PLe.up | apply PLe.down))) hc))
  have HL2 := hide (run_le ts n .block s (needP ts [41] o1.s) (by repeat (first | exact unhide HL1 | apply PLe.need | apply PLe.com | apply PLe.name | apply PLe.adv | apply PLe.put | apply PLe.up | apply PLe.down)))
  have HT2 := hide (run_lt ts n .block s (needP ts [41] o1.s) rfl (by repeat (first | exact unhide HL1 | apply PLe.need | apply PLe.com | apply PLe.name | apply PLe.adv | apply PLe.put | apply PLe.up | apply PLe.down)))
  have HF2 := hide (Few.run (ts := ts) (n := n) (f := .block) (s := (needP ts [41] o1.s)) (by repeat (first | exact unhide HF1 | apply Few.put | refine Few.same ?_ (need_ns _ _ _) | refine Few.same ?_ (com_ns _ _ _) | refine Few.same ?_ (name_ns _ _) | refine Few.same ?_ (adv_ns _) | refine Few.same ?_ (up_ns _) | refine Few.same ?_ (down_ns _ _))))
  have HD2 : Hid ((run ts n .block (needP ts [41] o1.s)).s.dp ≤ 20) := hide (by rw [run_dp]; exact (by (repeat (first | rewrite [need_dp] | rewrite [com_dp] | rewrite [name_dp] | rewrite [adv_dp] | rewrite [put_dp])); exact unhide HD1))
  generalize run ts n .block (needP ts [41] o1.s) = o2 at HC2 HL2 HT2 HF2 HD2 he ⊢
  go_enter Tryd.func142, Tryd.ntmps142
  have HC := hide (ptake (unhide hTS) (unhide HP) (⟨#[108, 101, 116]⟩ : ByteArray))
  unfold takeS at HC
  rw [show (⟨#[108, 101, 116]⟩ : ByteArray).data.toList = [108, 101, 116] from rfl, h0, if_neg (by simp)] at HC
  clear HP
  go_wp2_with fail
  refine (unhide HC).mono ?_
  rintro e w1 ⟨rfl, hp, hk⟩
  have HP := hide hp
  have HK2 := hide ((unhide HK).trans hk)
  clear HC hp hk HK
  have HK := HK2
  clear HK2
  have HC := hide (ptake (unhide hTS) (unhide HP) (⟨#[105, 102]⟩ : ByteArray))
  unfold takeS at HC
  rw [show (⟨#[105, 102]⟩ : ByteArray).data.toList = [105, 102] from rfl, hy, if_pos rfl] at HC
  clear HP
  go_wp2_with fail
  refine (unhide HC).mono ?_
  rintro e w2 ⟨rfl, hp, hk⟩
  have HP := hide hp
  have HK2 := hide ((unhide HK).trans hk)
  clear HC hp hk HK
  have HK := HK2
  clear HK2
  have HC := hide (pneed (unhide hTS) (unhide HP) (⟨#[40]⟩ : ByteArray))
  rw [show (⟨#[40]⟩ : ByteArray).data.toList = [40] from rfl] at HC
  clear HP
  go_wp2_with fail
  refine (unhide HC).mono ?_
  rintro e w3 ⟨rfl, hp, hk⟩
  have HP := hide hp
  have HK2 := hide ((unhide HK).trans hk)
  clear HC hp hk HK
  have HK := HK2
  clear HK2
  have HC := hide (unhide HC1 _ _ (unhide HP))
  clear HP HC1
  go_wp2_with fail
  refine (unhide HC).mono ?_
  rintro e w4 ⟨rfl, v1, hp, hk⟩
  have HP := hide hp
  have HK2 := hide ((unhide HK).trans hk)
  clear HC hp hk HK
  have HK := HK2
  clear HK2
  have HC := hide (pneed (unhide hTS) (unhide HP) (⟨#[41]⟩ : ByteArray))
  rw [show (⟨#[41]⟩ : ByteArray).data.toList = [41] from rfl] at HC
  clear HP
  go_wp2_with fail
  refine (unhide HC).mono ?_
  rintro e w5 ⟨rfl, hp, hk⟩
  have HP := hide hp
  have HK2 := hide ((unhide HK).trans hk)
  clear HC hp hk HK
  have HK := HK2
  clear HK2
  have HC := hide (unhide HC2 _ _ (unhide HP))
  clear HP HC2
  go_wp2_with fail
  refine (unhide HC).mono ?_
  rintro e w6 ⟨rfl, v2, hp, hk⟩
  have HP := hide hp
  have HK2 := hide ((unhide HK).trans hk)
  clear HC hp hk HK
  have HK := HK2
  clear HK2
  have HC := hide (ptake (unhide hTS) (unhide HP) (⟨#[101, 108, 115, 101]⟩ : ByteArray))
  unfold takeS at HC
  rw [show (⟨#[101, 108, 115, 101]⟩ : ByteArray).data.toList = [101, 108, 115, 101] from rfl, he, if_neg (by simp)] at HC
  clear HP
  go_wp2_with fail
  refine (unhide HC).mono ?_
  rintro e w7 ⟨rfl, hp, hk⟩
  have HP := hide hp
  have HK2 := hide ((unhide HK).trans hk)
  clear HC hp hk HK
  have HK := HK2
  clear HK2
  have HC := hide (pput2 (unhide hTS) (unhide HP) (by repeat (first | exact unhide HF2 | apply Few.put | refine Few.same ?_ (need_ns _ _ _) | refine Few.same ?_ (com_ns _ _ _) | refine Few.same ?_ (name_ns _ _) | refine Few.same ?_ (adv_ns _) | refine Few.same ?_ (up_ns _) | refine Few.same ?_ (down_ns _ _))) 13 em o1.r o2.r)
  clear HP
  go_wp2_with fail
  refine (unhide HC).mono ?_
  rintro e w8 ⟨rfl, vp, hp, hk⟩
  have HP := hide hp
  have HK2 := hide ((unhide HK).trans hk)
  clear HC hp hk HK
  have HK := HK2
  clear HK2
  go_wp2
  go_ret
  exact ⟨rfl, _, unhide HP, unhide HK⟩

set_option maxHeartbeats 4000000 in
set_option maxRecDepth 100000 in
theorem pinner_while {ts : List V3} (hTS : Hid (TS ts)) (n : Nat) (ihE : Hid (∀ k, k ≤ n → PQ ts k .expr 168)) (ihB : Hid (∀ k, k ≤ n → PQ ts k .block 140)) {g : Nat} {lp : Option Addr} {lc : PX} {v : Value} {s : PS} {w : World} (h : PAt w g lp lc ts v s) (hf : Few s) (hd : s.dp ≤ 20) (hn : needN ts .inner s ≤ n + 1) (h0 : tkP ts s [108, 101, 116] = false) (h1 : tkP ts s [105, 102] = false) (hy : tkP ts s [119, 104, 105, 108, 101] = true) :
    PZ 142 g lp lc ts v w (run ts (n + 1) .inner s) := by
  unfold PZ
  rw [run]
  rw [if_neg (nt h0), if_neg (nt h1), if_pos hy, oneP]
  have hat := h.hat
  have HP := hide h
  have HK := hide (PK.refl g v w)
  have HF0 := hide hf
  have HD0 := hide hd
  have HL0 := hide (PLe.refl s)
  clear h hf hd
  have hc := (tk_code hy).1
  have HC1 := hide (fun v w (hp : PAt w g lp lc ts v (needP ts [40] (advP s))) => unhide ihE n (by omega) g lp lc v (needP ts [40] (advP s)) w hp (by repeat (first | exact unhide HF0 | apply Few.put | refine Few.same ?_ (need_ns _ _ _) | refine Few.same ?_ (com_ns _ _ _) | refine Few.same ?_ (name_ns _ _) | refine Few.same ?_ (adv_ns _) | refine Few.same ?_ (up_ns _) | refine Few.same ?_ (down_ns _ _))) (by (repeat (first | rewrite [need_dp] | rewrite [com_dp] | rewrite [name_dp] | rewrite [adv_dp] | rewrite [put_dp])); exact unhide HD0) (need_on hn hat (by repeat (first | exact unhide HL0 | apply PLe.need | apply PLe.com | apply PLe.name | apply PLe.adv | apply PLe.put | apply PLe.up | apply PLe.down)) (by first | exact PLt.need (by repeat (first | exact unhide HL0 | apply PLe.need | apply PLe.com | apply PLe.name | apply PLe.adv | apply PLe.put | apply PLe.up | apply PLe.down)) | exact PLt.name (by repeat (first | exact unhide HL0 | apply PLe.need | apply PLe.com | apply PLe.name | apply PLe.adv | apply PLe.put | apply PLe.up | apply PLe.down)) | exact PLt.adv (by repeat (first | exact unhide HL0 | apply PLe.need | apply PLe.com | apply PLe.name | apply PLe.adv | apply PLe.put | apply PLe.up | apply PLe.down))) hc))
  have HL1 := hide (run_le ts n .expr s (needP ts [40] (advP s)) (by repeat (first | exact unhide HL0 | apply PLe.need | apply PLe.com | apply PLe.name | apply PLe.adv | apply PLe.put | apply PLe.up | apply PLe.down)))
  have HT1 := hide (run_lt ts n .expr s (needP ts [40] (advP s)) rfl (by repeat (first | exact unhide HL0 | apply PLe.need | apply PLe.com | apply PLe.name | apply PLe.adv | apply PLe.put | apply PLe.up | apply PLe.down)))
  have HF1 := hide (Few.run (ts := ts) (n := n) (f := .expr) (s := (needP ts [40] (advP s))) (by repeat (first | exact unhide HF0 | apply Few.put | refine Few.same ?_ (need_ns _ _ _) | refine Few.same ?_ (com_ns _ _ _) | refine Few.same ?_ (name_ns _ _) | refine Few.same ?_ (adv_ns _) | refine Few.same ?_ (up_ns _) | refine Few.same ?_ (down_ns _ _))))
  have HD1 : Hid ((run ts n .expr (needP ts [40] (advP s))).s.dp ≤ 20) := hide (by rw [run_dp]; exact (by (repeat (first | rewrite [need_dp] | rewrite [com_dp] | rewrite [name_dp] | rewrite [adv_dp] | rewrite [put_dp])); exact unhide HD0))
  generalize run ts n .expr (needP ts [40] (advP s)) = o1 at HC1 HL1 HT1 HF1 HD1  ⊢
  have HC2 := hide (fun v w (hp : PAt w g lp lc ts v (needP ts [41] o1.s)) => unhide ihB n (by omega) g lp lc v (needP ts [41] o1.s) w hp (by repeat (first | exact unhide HF1 | apply Few.put | refine Few.same ?_ (need_ns _ _ _) | refine Few.same ?_ (com_ns _ _ _) | refine Few.same ?_ (name_ns _ _) | refine Few.same ?_ (adv_ns _) | refine Few.same ?_ (up_ns _) | refine Few.same ?_ (down_ns _ _))) (by (repeat (first | rewrite [need_dp] | rewrite [com_dp] | rewrite [name_dp] | rewrite [adv_dp] | rewrite [put_dp])); exact unhide HD1) (need_on hn hat (by repeat (first | exact unhide HL1 | apply PLe.need | apply PLe.com | apply PLe.name | apply PLe.adv | apply PLe.put | apply PLe.up | apply PLe.down)) ((unhide HT1).le (by repeat (first | exact PLe.refl _ | apply PLe.need | apply PLe.com | apply PLe.name | apply PLe.adv | apply PLe.put | apply PLe.up | apply PLe.down))) hc))
  have HL2 := hide (run_le ts n .block s (needP ts [41] o1.s) (by repeat (first | exact unhide HL1 | apply PLe.need | apply PLe.com | apply PLe.name | apply PLe.adv | apply PLe.put | apply PLe.up | apply PLe.down)))
  have HT2 := hide (run_lt ts n .block s (needP ts [41] o1.s) rfl (by repeat (first | exact unhide HL1 | apply PLe.need | apply PLe.com | apply PLe.name | apply PLe.adv | apply PLe.put | apply PLe.up | apply PLe.down)))
  have HF2 := hide (Few.run (ts := ts) (n := n) (f := .block) (s := (needP ts [41] o1.s)) (by repeat (first | exact unhide HF1 | apply Few.put | refine Few.same ?_ (need_ns _ _ _) | refine Few.same ?_ (com_ns _ _ _) | refine Few.same ?_ (name_ns _ _) | refine Few.same ?_ (adv_ns _) | refine Few.same ?_ (up_ns _) | refine Few.same ?_ (down_ns _ _))))
  have HD2 : Hid ((run ts n .block (needP ts [41] o1.s)).s.dp ≤ 20) := hide (by rw [run_dp]; exact (by (repeat (first | rewrite [need_dp] | rewrite [com_dp] | rewrite [name_dp] | rewrite [adv_dp] | rewrite [put_dp])); exact unhide HD1))
  generalize run ts n .block (needP ts [41] o1.s) = o2 at HC2 HL2 HT2 HF2 HD2  ⊢
  go_enter Tryd.func142, Tryd.ntmps142
  have HC := hide (ptake (unhide hTS) (unhide HP) (⟨#[108, 101, 116]⟩ : ByteArray))
  unfold takeS at HC
  rw [show (⟨#[108, 101, 116]⟩ : ByteArray).data.toList = [108, 101, 116] from rfl, h0, if_neg (by simp)] at HC
  clear HP
  go_wp2_with fail
  refine (unhide HC).mono ?_
  rintro e w1 ⟨rfl, hp, hk⟩
  have HP := hide hp
  have HK2 := hide ((unhide HK).trans hk)
  clear HC hp hk HK
  have HK := HK2
  clear HK2
  have HC := hide (ptake (unhide hTS) (unhide HP) (⟨#[105, 102]⟩ : ByteArray))
  unfold takeS at HC
  rw [show (⟨#[105, 102]⟩ : ByteArray).data.toList = [105, 102] from rfl, h1, if_neg (by simp)] at HC
  clear HP
  go_wp2_with fail
  refine (unhide HC).mono ?_
  rintro e w2 ⟨rfl, hp, hk⟩
  have HP := hide hp
  have HK2 := hide ((unhide HK).trans hk)
  clear HC hp hk HK
  have HK := HK2
  clear HK2
  have HC := hide (ptake (unhide hTS) (unhide HP) (⟨#[119, 104, 105, 108, 101]⟩ : ByteArray))
  unfold takeS at HC
  rw [show (⟨#[119, 104, 105, 108, 101]⟩ : ByteArray).data.toList = [119, 104, 105, 108, 101] from rfl, hy, if_pos rfl] at HC
  clear HP
  go_wp2_with fail
  refine (unhide HC).mono ?_
  rintro e w3 ⟨rfl, hp, hk⟩
  have HP := hide hp
  have HK2 := hide ((unhide HK).trans hk)
  clear HC hp hk HK
  have HK := HK2
  clear HK2
  have HC := hide (pneed (unhide hTS) (unhide HP) (⟨#[40]⟩ : ByteArray))
  rw [show (⟨#[40]⟩ : ByteArray).data.toList = [40] from rfl] at HC
  clear HP
  go_wp2_with fail
  refine (unhide HC).mono ?_
  rintro e w4 ⟨rfl, hp, hk⟩
  have HP := hide hp
  have HK2 := hide ((unhide HK).trans hk)
  clear HC hp hk HK
  have HK := HK2
  clear HK2
  have HC := hide (unhide HC1 _ _ (unhide HP))
  clear HP HC1
  go_wp2_with fail
  refine (unhide HC).mono ?_
  rintro e w5 ⟨rfl, v1, hp, hk⟩
  have HP := hide hp
  have HK2 := hide ((unhide HK).trans hk)
  clear HC hp hk HK
  have HK := HK2
  clear HK2
  have HC := hide (pneed (unhide hTS) (unhide HP) (⟨#[41]⟩ : ByteArray))
  rw [show (⟨#[41]⟩ : ByteArray).data.toList = [41] from rfl] at HC
  clear HP
  go_wp2_with fail
  refine (unhide HC).mono ?_
  rintro e w6 ⟨rfl, hp, hk⟩
  have HP := hide hp
  have HK2 := hide ((unhide HK).trans hk)
  clear HC hp hk HK
  have HK := HK2
  clear HK2
  have HC := hide (unhide HC2 _ _ (unhide HP))
  clear HP HC2
  go_wp2_with fail
  refine (unhide HC).mono ?_
  rintro e w7 ⟨rfl, v2, hp, hk⟩
  have HP := hide hp
  have HK2 := hide ((unhide HK).trans hk)
  clear HC hp hk HK
  have HK := HK2
  clear HK2
  have HC := hide (pput2 (unhide hTS) (unhide HP) (by repeat (first | exact unhide HF2 | apply Few.put | refine Few.same ?_ (need_ns _ _ _) | refine Few.same ?_ (com_ns _ _ _) | refine Few.same ?_ (name_ns _ _) | refine Few.same ?_ (adv_ns _) | refine Few.same ?_ (up_ns _) | refine Few.same ?_ (down_ns _ _))) 14 em o1.r o2.r)
  clear HP
  go_wp2_with fail
  refine (unhide HC).mono ?_
  rintro e w8 ⟨rfl, vp, hp, hk⟩
  have HP := hide hp
  have HK2 := hide ((unhide HK).trans hk)
  clear HC hp hk HK
  have HK := HK2
  clear HK2
  go_wp2
  go_ret
  exact ⟨rfl, _, unhide HP, unhide HK⟩

set_option maxHeartbeats 4000000 in
set_option maxRecDepth 100000 in
theorem pinner_return {ts : List V3} (hTS : Hid (TS ts)) (n : Nat) (ihE : Hid (∀ k, k ≤ n → PQ ts k .expr 168)) {g : Nat} {lp : Option Addr} {lc : PX} {v : Value} {s : PS} {w : World} (h : PAt w g lp lc ts v s) (hf : Few s) (hd : s.dp ≤ 20) (hn : needN ts .inner s ≤ n + 1) (h0 : tkP ts s [108, 101, 116] = false) (h1 : tkP ts s [105, 102] = false) (h2 : tkP ts s [119, 104, 105, 108, 101] = false) (hy : tkP ts s [114, 101, 116, 117, 114, 110] = true) :
    PZ 142 g lp lc ts v w (run ts (n + 1) .inner s) := by
  unfold PZ
  rw [run]
  rw [if_neg (nt h0), if_neg (nt h1), if_neg (nt h2), if_pos hy, oneP]
  have hat := h.hat
  have HP := hide h
  have HK := hide (PK.refl g v w)
  have HF0 := hide hf
  have HD0 := hide hd
  have HL0 := hide (PLe.refl s)
  clear h hf hd
  have hc := (tk_code hy).1
  have HC1 := hide (fun v w (hp : PAt w g lp lc ts v (advP s)) => unhide ihE n (by omega) g lp lc v (advP s) w hp (by repeat (first | exact unhide HF0 | apply Few.put | refine Few.same ?_ (need_ns _ _ _) | refine Few.same ?_ (com_ns _ _ _) | refine Few.same ?_ (name_ns _ _) | refine Few.same ?_ (adv_ns _) | refine Few.same ?_ (up_ns _) | refine Few.same ?_ (down_ns _ _))) (by (repeat (first | rewrite [need_dp] | rewrite [com_dp] | rewrite [name_dp] | rewrite [adv_dp] | rewrite [put_dp])); exact unhide HD0) (need_on hn hat (by repeat (first | exact unhide HL0 | apply PLe.need | apply PLe.com | apply PLe.name | apply PLe.adv | apply PLe.put | apply PLe.up | apply PLe.down)) (by first | exact PLt.need (by repeat (first | exact unhide HL0 | apply PLe.need | apply PLe.com | apply PLe.name | apply PLe.adv | apply PLe.put | apply PLe.up | apply PLe.down)) | exact PLt.name (by repeat (first | exact unhide HL0 | apply PLe.need | apply PLe.com | apply PLe.name | apply PLe.adv | apply PLe.put | apply PLe.up | apply PLe.down)) | exact PLt.adv (by repeat (first | exact unhide HL0 | apply PLe.need | apply PLe.com | apply PLe.name | apply PLe.adv | apply PLe.put | apply PLe.up | apply PLe.down))) hc))
  have HL1 := hide (run_le ts n .expr s (advP s) (by repeat (first | exact unhide HL0 | apply PLe.need | apply PLe.com | apply PLe.name | apply PLe.adv | apply PLe.put | apply PLe.up | apply PLe.down)))
  have HT1 := hide (run_lt ts n .expr s (advP s) rfl (by repeat (first | exact unhide HL0 | apply PLe.need | apply PLe.com | apply PLe.name | apply PLe.adv | apply PLe.put | apply PLe.up | apply PLe.down)))
  have HF1 := hide (Few.run (ts := ts) (n := n) (f := .expr) (s := (advP s)) (by repeat (first | exact unhide HF0 | apply Few.put | refine Few.same ?_ (need_ns _ _ _) | refine Few.same ?_ (com_ns _ _ _) | refine Few.same ?_ (name_ns _ _) | refine Few.same ?_ (adv_ns _) | refine Few.same ?_ (up_ns _) | refine Few.same ?_ (down_ns _ _))))
  have HD1 : Hid ((run ts n .expr (advP s)).s.dp ≤ 20) := hide (by rw [run_dp]; exact (by (repeat (first | rewrite [need_dp] | rewrite [com_dp] | rewrite [name_dp] | rewrite [adv_dp] | rewrite [put_dp])); exact unhide HD0))
  generalize run ts n .expr (advP s) = o1 at HC1 HL1 HT1 HF1 HD1  ⊢
  go_enter Tryd.func142, Tryd.ntmps142
  have HC := hide (ptake (unhide hTS) (unhide HP) (⟨#[108, 101, 116]⟩ : ByteArray))
  unfold takeS at HC
  rw [show (⟨#[108, 101, 116]⟩ : ByteArray).data.toList = [108, 101, 116] from rfl, h0, if_neg (by simp)] at HC
  clear HP
  go_wp2_with fail
  refine (unhide HC).mono ?_
  rintro e w1 ⟨rfl, hp, hk⟩
  have HP := hide hp
  have HK2 := hide ((unhide HK).trans hk)
  clear HC hp hk HK
  have HK := HK2
  clear HK2
  have HC := hide (ptake (unhide hTS) (unhide HP) (⟨#[105, 102]⟩ : ByteArray))
  unfold takeS at HC
  rw [show (⟨#[105, 102]⟩ : ByteArray).data.toList = [105, 102] from rfl, h1, if_neg (by simp)] at HC
  clear HP
  go_wp2_with fail
  refine (unhide HC).mono ?_
  rintro e w2 ⟨rfl, hp, hk⟩
  have HP := hide hp
  have HK2 := hide ((unhide HK).trans hk)
  clear HC hp hk HK
  have HK := HK2
  clear HK2
  have HC := hide (ptake (unhide hTS) (unhide HP) (⟨#[119, 104, 105, 108, 101]⟩ : ByteArray))
  unfold takeS at HC
  rw [show (⟨#[119, 104, 105, 108, 101]⟩ : ByteArray).data.toList = [119, 104, 105, 108, 101] from rfl, h2, if_neg (by simp)] at HC
  clear HP
  go_wp2_with fail
  refine (unhide HC).mono ?_
  rintro e w3 ⟨rfl, hp, hk⟩
  have HP := hide hp
  have HK2 := hide ((unhide HK).trans hk)
  clear HC hp hk HK
  have HK := HK2
  clear HK2
  have HC := hide (ptake (unhide hTS) (unhide HP) (⟨#[114, 101, 116, 117, 114, 110]⟩ : ByteArray))
  unfold takeS at HC
  rw [show (⟨#[114, 101, 116, 117, 114, 110]⟩ : ByteArray).data.toList = [114, 101, 116, 117, 114, 110] from rfl, hy, if_pos rfl] at HC
  clear HP
  go_wp2_with fail
  refine (unhide HC).mono ?_
  rintro e w4 ⟨rfl, hp, hk⟩
  have HP := hide hp
  have HK2 := hide ((unhide HK).trans hk)
  clear HC hp hk HK
  have HK := HK2
  clear HK2
  have HC := hide (unhide HC1 _ _ (unhide HP))
  clear HP HC1
  go_wp2_with fail
  refine (unhide HC).mono ?_
  rintro e w5 ⟨rfl, v1, hp, hk⟩
  have HP := hide hp
  have HK2 := hide ((unhide HK).trans hk)
  clear HC hp hk HK
  have HK := HK2
  clear HK2
  have HC := hide (pneed (unhide hTS) (unhide HP) (⟨#[59]⟩ : ByteArray))
  rw [show (⟨#[59]⟩ : ByteArray).data.toList = [59] from rfl] at HC
  clear HP
  go_wp2_with fail
  refine (unhide HC).mono ?_
  rintro e w6 ⟨rfl, hp, hk⟩
  have HP := hide hp
  have HK2 := hide ((unhide HK).trans hk)
  clear HC hp hk HK
  have HK := HK2
  clear HK2
  have HC := hide (pput1 (unhide hTS) (unhide HP) (by repeat (first | exact unhide HF1 | apply Few.put | refine Few.same ?_ (need_ns _ _ _) | refine Few.same ?_ (com_ns _ _ _) | refine Few.same ?_ (name_ns _ _) | refine Few.same ?_ (adv_ns _) | refine Few.same ?_ (up_ns _) | refine Few.same ?_ (down_ns _ _))) 15 em o1.r)
  clear HP
  go_wp2_with fail
  refine (unhide HC).mono ?_
  rintro e w7 ⟨rfl, vp, hp, hk⟩
  have HP := hide hp
  have HK2 := hide ((unhide HK).trans hk)
  clear HC hp hk HK
  have HK := HK2
  clear HK2
  go_wp2
  go_ret
  exact ⟨rfl, _, unhide HP, unhide HK⟩

set_option maxHeartbeats 4000000 in
set_option maxRecDepth 100000 in
theorem pinner_throw {ts : List V3} (hTS : Hid (TS ts)) (n : Nat) (ihE : Hid (∀ k, k ≤ n → PQ ts k .expr 168)) {g : Nat} {lp : Option Addr} {lc : PX} {v : Value} {s : PS} {w : World} (h : PAt w g lp lc ts v s) (hf : Few s) (hd : s.dp ≤ 20) (hn : needN ts .inner s ≤ n + 1) (h0 : tkP ts s [108, 101, 116] = false) (h1 : tkP ts s [105, 102] = false) (h2 : tkP ts s [119, 104, 105, 108, 101] = false) (h3 : tkP ts s [114, 101, 116, 117, 114, 110] = false) (hy : tkP ts s [116, 104, 114, 111, 119] = true) :
    PZ 142 g lp lc ts v w (run ts (n + 1) .inner s) := by
  unfold PZ
  rw [run]
  rw [if_neg (nt h0), if_neg (nt h1), if_neg (nt h2), if_neg (nt h3), if_pos hy, oneP]
  have hat := h.hat
  have HP := hide h
  have HK := hide (PK.refl g v w)
  have HF0 := hide hf
  have HD0 := hide hd
  have HL0 := hide (PLe.refl s)
  clear h hf hd
  have hc := (tk_code hy).1
  have HC1 := hide (fun v w (hp : PAt w g lp lc ts v (advP s)) => unhide ihE n (by omega) g lp lc v (advP s) w hp (by repeat (first | exact unhide HF0 | apply Few.put | refine Few.same ?_ (need_ns _ _ _) | refine Few.same ?_ (com_ns _ _ _) | refine Few.same ?_ (name_ns _ _) | refine Few.same ?_ (adv_ns _) | refine Few.same ?_ (up_ns _) | refine Few.same ?_ (down_ns _ _))) (by (repeat (first | rewrite [need_dp] | rewrite [com_dp] | rewrite [name_dp] | rewrite [adv_dp] | rewrite [put_dp])); exact unhide HD0) (need_on hn hat (by repeat (first | exact unhide HL0 | apply PLe.need | apply PLe.com | apply PLe.name | apply PLe.adv | apply PLe.put | apply PLe.up | apply PLe.down)) (by first | exact PLt.need (by repeat (first | exact unhide HL0 | apply PLe.need | apply PLe.com | apply PLe.name | apply PLe.adv | apply PLe.put | apply PLe.up | apply PLe.down)) | exact PLt.name (by repeat (first | exact unhide HL0 | apply PLe.need | apply PLe.com | apply PLe.name | apply PLe.adv | apply PLe.put | apply PLe.up | apply PLe.down)) | exact PLt.adv (by repeat (first | exact unhide HL0 | apply PLe.need | apply PLe.com | apply PLe.name | apply PLe.adv | apply PLe.put | apply PLe.up | apply PLe.down))) hc))
  have HL1 := hide (run_le ts n .expr s (advP s) (by repeat (first | exact unhide HL0 | apply PLe.need | apply PLe.com | apply PLe.name | apply PLe.adv | apply PLe.put | apply PLe.up | apply PLe.down)))
  have HT1 := hide (run_lt ts n .expr s (advP s) rfl (by repeat (first | exact unhide HL0 | apply PLe.need | apply PLe.com | apply PLe.name | apply PLe.adv | apply PLe.put | apply PLe.up | apply PLe.down)))
  have HF1 := hide (Few.run (ts := ts) (n := n) (f := .expr) (s := (advP s)) (by repeat (first | exact unhide HF0 | apply Few.put | refine Few.same ?_ (need_ns _ _ _) | refine Few.same ?_ (com_ns _ _ _) | refine Few.same ?_ (name_ns _ _) | refine Few.same ?_ (adv_ns _) | refine Few.same ?_ (up_ns _) | refine Few.same ?_ (down_ns _ _))))
  have HD1 : Hid ((run ts n .expr (advP s)).s.dp ≤ 20) := hide (by rw [run_dp]; exact (by (repeat (first | rewrite [need_dp] | rewrite [com_dp] | rewrite [name_dp] | rewrite [adv_dp] | rewrite [put_dp])); exact unhide HD0))
  generalize run ts n .expr (advP s) = o1 at HC1 HL1 HT1 HF1 HD1  ⊢
  go_enter Tryd.func142, Tryd.ntmps142
  have HC := hide (ptake (unhide hTS) (unhide HP) (⟨#[108, 101, 116]⟩ : ByteArray))
  unfold takeS at HC
  rw [show (⟨#[108, 101, 116]⟩ : ByteArray).data.toList = [108, 101, 116] from rfl, h0, if_neg (by simp)] at HC
  clear HP
  go_wp2_with fail
  refine (unhide HC).mono ?_
  rintro e w1 ⟨rfl, hp, hk⟩
  have HP := hide hp
  have HK2 := hide ((unhide HK).trans hk)
  clear HC hp hk HK
  have HK := HK2
  clear HK2
  have HC := hide (ptake (unhide hTS) (unhide HP) (⟨#[105, 102]⟩ : ByteArray))
  unfold takeS at HC
  rw [show (⟨#[105, 102]⟩ : ByteArray).data.toList = [105, 102] from rfl, h1, if_neg (by simp)] at HC
  clear HP
  go_wp2_with fail
  refine (unhide HC).mono ?_
  rintro e w2 ⟨rfl, hp, hk⟩
  have HP := hide hp
  have HK2 := hide ((unhide HK).trans hk)
  clear HC hp hk HK
  have HK := HK2
  clear HK2
  have HC := hide (ptake (unhide hTS) (unhide HP) (⟨#[119, 104, 105, 108, 101]⟩ : ByteArray))
  unfold takeS at HC
  rw [show (⟨#[119, 104, 105, 108, 101]⟩ : ByteArray).data.toList = [119, 104, 105, 108, 101] from rfl, h2, if_neg (by simp)] at HC
  clear HP
  go_wp2_with fail
  refine (unhide HC).mono ?_
  rintro e w3 ⟨rfl, hp, hk⟩
  have HP := hide hp
  have HK2 := hide ((unhide HK).trans hk)
  clear HC hp hk HK
  have HK := HK2
  clear HK2
  have HC := hide (ptake (unhide hTS) (unhide HP) (⟨#[114, 101, 116, 117, 114, 110]⟩ : ByteArray))
  unfold takeS at HC
  rw [show (⟨#[114, 101, 116, 117, 114, 110]⟩ : ByteArray).data.toList = [114, 101, 116, 117, 114, 110] from rfl, h3, if_neg (by simp)] at HC
  clear HP
  go_wp2_with fail
  refine (unhide HC).mono ?_
  rintro e w4 ⟨rfl, hp, hk⟩
  have HP := hide hp
  have HK2 := hide ((unhide HK).trans hk)
  clear HC hp hk HK
  have HK := HK2
  clear HK2
  have HC := hide (ptake (unhide hTS) (unhide HP) (⟨#[116, 104, 114, 111, 119]⟩ : ByteArray))
  unfold takeS at HC
  rw [show (⟨#[116, 104, 114, 111, 119]⟩ : ByteArray).data.toList = [116, 104, 114, 111, 119] from rfl, hy, if_pos rfl] at HC
  clear HP
  go_wp2_with fail
  refine (unhide HC).mono ?_
  rintro e w5 ⟨rfl, hp, hk⟩
  have HP := hide hp
  have HK2 := hide ((unhide HK).trans hk)
  clear HC hp hk HK
  have HK := HK2
  clear HK2
  have HC := hide (unhide HC1 _ _ (unhide HP))
  clear HP HC1
  go_wp2_with fail
  refine (unhide HC).mono ?_
  rintro e w6 ⟨rfl, v1, hp, hk⟩
  have HP := hide hp
  have HK2 := hide ((unhide HK).trans hk)
  clear HC hp hk HK
  have HK := HK2
  clear HK2
  have HC := hide (pneed (unhide hTS) (unhide HP) (⟨#[59]⟩ : ByteArray))
  rw [show (⟨#[59]⟩ : ByteArray).data.toList = [59] from rfl] at HC
  clear HP
  go_wp2_with fail
  refine (unhide HC).mono ?_
  rintro e w7 ⟨rfl, hp, hk⟩
  have HP := hide hp
  have HK2 := hide ((unhide HK).trans hk)
  clear HC hp hk HK
  have HK := HK2
  clear HK2
  have HC := hide (pput1 (unhide hTS) (unhide HP) (by repeat (first | exact unhide HF1 | apply Few.put | refine Few.same ?_ (need_ns _ _ _) | refine Few.same ?_ (com_ns _ _ _) | refine Few.same ?_ (name_ns _ _) | refine Few.same ?_ (adv_ns _) | refine Few.same ?_ (up_ns _) | refine Few.same ?_ (down_ns _ _))) 16 em o1.r)
  clear HP
  go_wp2_with fail
  refine (unhide HC).mono ?_
  rintro e w8 ⟨rfl, vp, hp, hk⟩
  have HP := hide hp
  have HK2 := hide ((unhide HK).trans hk)
  clear HC hp hk HK
  have HK := HK2
  clear HK2
  go_wp2
  go_ret
  exact ⟨rfl, _, unhide HP, unhide HK⟩

set_option maxHeartbeats 4000000 in
set_option maxRecDepth 100000 in
theorem pinner_try1 {ts : List V3} (hTS : Hid (TS ts)) (n : Nat) (ihB : Hid (∀ k, k ≤ n → PQ ts k .block 140)) {g : Nat} {lp : Option Addr} {lc : PX} {v : Value} {s : PS} {w : World} (h : PAt w g lp lc ts v s) (hf : Few s) (hd : s.dp ≤ 20) (hn : needN ts .inner s ≤ n + 1) (h0 : tkP ts s [108, 101, 116] = false) (h1 : tkP ts s [105, 102] = false) (h2 : tkP ts s [119, 104, 105, 108, 101] = false) (h3 : tkP ts s [114, 101, 116, 117, 114, 110] = false) (h4 : tkP ts s [116, 104, 114, 111, 119] = false) (hy : tkP ts s [116, 114, 121] = true) (he : (needP ts [40] (needP ts [99, 97, 116, 99, 104] (run ts n .block (advP s)).s)).code = 0) :
    PZ 142 g lp lc ts v w (run ts (n + 1) .inner s) := by
  unfold PZ
  rw [run]
  rw [if_neg (nt h0), if_neg (nt h1), if_neg (nt h2), if_neg (nt h3), if_neg (nt h4), if_pos hy, if_pos he, oneP]
  have hat := h.hat
  have HP := hide h
  have HK := hide (PK.refl g v w)
  have HF0 := hide hf
  have HD0 := hide hd
  have HL0 := hide (PLe.refl s)
  clear h hf hd
  have hc := (tk_code hy).1
  have HC1 := hide (fun v w (hp : PAt w g lp lc ts v (advP s)) => unhide ihB n (by omega) g lp lc v (advP s) w hp (by repeat (first | exact unhide HF0 | apply Few.put | refine Few.same ?_ (need_ns _ _ _) | refine Few.same ?_ (com_ns _ _ _) | refine Few.same ?_ (name_ns _ _) | refine Few.same ?_ (adv_ns _) | refine Few.same ?_ (up_ns _) | refine Few.same ?_ (down_ns _ _))) (by (repeat (first | rewrite [need_dp] | rewrite [com_dp] | rewrite [name_dp] | rewrite [adv_dp] | rewrite [put_dp])); exact unhide HD0) (need_on hn hat (by repeat (first | exact unhide HL0 | apply PLe.need | apply PLe.com | apply PLe.name | apply PLe.adv | apply PLe.put | apply PLe.up | apply PLe.down)) (by first | exact PLt.need (by repeat (first | exact unhide HL0 | apply PLe.need | apply PLe.com | apply PLe.name | apply PLe.adv | apply PLe.put | apply PLe.up | apply PLe.down)) | exact PLt.name (by repeat (first | exact unhide HL0 | apply PLe.need | apply PLe.com | apply PLe.name | apply PLe.adv | apply PLe.put | apply PLe.up | apply PLe.down)) | exact PLt.adv (by repeat (first | exact unhide HL0 | apply PLe.need | apply PLe.com | apply PLe.name | apply PLe.adv | apply PLe.put | apply PLe.up | apply PLe.down))) hc))
  have HL1 := hide (run_le ts n .block s (advP s) (by repeat (first | exact unhide HL0 | apply PLe.need | apply PLe.com | apply PLe.name | apply PLe.adv | apply PLe.put | apply PLe.up | apply PLe.down)))
  have HT1 := hide (run_lt ts n .block s (advP s) rfl (by repeat (first | exact unhide HL0 | apply PLe.need | apply PLe.com | apply PLe.name | apply PLe.adv | apply PLe.put | apply PLe.up | apply PLe.down)))
  have HF1 := hide (Few.run (ts := ts) (n := n) (f := .block) (s := (advP s)) (by repeat (first | exact unhide HF0 | apply Few.put | refine Few.same ?_ (need_ns _ _ _) | refine Few.same ?_ (com_ns _ _ _) | refine Few.same ?_ (name_ns _ _) | refine Few.same ?_ (adv_ns _) | refine Few.same ?_ (up_ns _) | refine Few.same ?_ (down_ns _ _))))
  have HD1 : Hid ((run ts n .block (advP s)).s.dp ≤ 20) := hide (by rw [run_dp]; exact (by (repeat (first | rewrite [need_dp] | rewrite [com_dp] | rewrite [name_dp] | rewrite [adv_dp] | rewrite [put_dp])); exact unhide HD0))
  generalize run ts n .block (advP s) = o1 at HC1 HL1 HT1 HF1 HD1 he ⊢
  have HC2 := hide (fun v w (hp : PAt w g lp lc ts v (needP ts [41] (nameP ts (needP ts [40] (needP ts [99, 97, 116, 99, 104] o1.s))).2)) => unhide ihB n (by omega) g lp lc v (needP ts [41] (nameP ts (needP ts [40] (needP ts [99, 97, 116, 99, 104] o1.s))).2) w hp (by repeat (first | exact unhide HF1 | apply Few.put | refine Few.same ?_ (need_ns _ _ _) | refine Few.same ?_ (com_ns _ _ _) | refine Few.same ?_ (name_ns _ _) | refine Few.same ?_ (adv_ns _) | refine Few.same ?_ (up_ns _) | refine Few.same ?_ (down_ns _ _))) (by (repeat (first | rewrite [need_dp] | rewrite [com_dp] | rewrite [name_dp] | rewrite [adv_dp] | rewrite [put_dp])); exact unhide HD1) (need_on hn hat (by repeat (first | exact unhide HL1 | apply PLe.need | apply PLe.com | apply PLe.name | apply PLe.adv | apply PLe.put | apply PLe.up | apply PLe.down)) ((unhide HT1).le (by repeat (first | exact PLe.refl _ | apply PLe.need | apply PLe.com | apply PLe.name | apply PLe.adv | apply PLe.put | apply PLe.up | apply PLe.down))) hc))
  have HL2 := hide (run_le ts n .block s (needP ts [41] (nameP ts (needP ts [40] (needP ts [99, 97, 116, 99, 104] o1.s))).2) (by repeat (first | exact unhide HL1 | apply PLe.need | apply PLe.com | apply PLe.name | apply PLe.adv | apply PLe.put | apply PLe.up | apply PLe.down)))
  have HT2 := hide (run_lt ts n .block s (needP ts [41] (nameP ts (needP ts [40] (needP ts [99, 97, 116, 99, 104] o1.s))).2) rfl (by repeat (first | exact unhide HL1 | apply PLe.need | apply PLe.com | apply PLe.name | apply PLe.adv | apply PLe.put | apply PLe.up | apply PLe.down)))
  have HF2 := hide (Few.run (ts := ts) (n := n) (f := .block) (s := (needP ts [41] (nameP ts (needP ts [40] (needP ts [99, 97, 116, 99, 104] o1.s))).2)) (by repeat (first | exact unhide HF1 | apply Few.put | refine Few.same ?_ (need_ns _ _ _) | refine Few.same ?_ (com_ns _ _ _) | refine Few.same ?_ (name_ns _ _) | refine Few.same ?_ (adv_ns _) | refine Few.same ?_ (up_ns _) | refine Few.same ?_ (down_ns _ _))))
  have HD2 : Hid ((run ts n .block (needP ts [41] (nameP ts (needP ts [40] (needP ts [99, 97, 116, 99, 104] o1.s))).2)).s.dp ≤ 20) := hide (by rw [run_dp]; exact (by (repeat (first | rewrite [need_dp] | rewrite [com_dp] | rewrite [name_dp] | rewrite [adv_dp] | rewrite [put_dp])); exact unhide HD1))
  generalize run ts n .block (needP ts [41] (nameP ts (needP ts [40] (needP ts [99, 97, 116, 99, 104] o1.s))).2) = o2 at HC2 HL2 HT2 HF2 HD2 he ⊢
  go_enter Tryd.func142, Tryd.ntmps142
  have HC := hide (ptake (unhide hTS) (unhide HP) (⟨#[108, 101, 116]⟩ : ByteArray))
  unfold takeS at HC
  rw [show (⟨#[108, 101, 116]⟩ : ByteArray).data.toList = [108, 101, 116] from rfl, h0, if_neg (by simp)] at HC
  clear HP
  go_wp2_with fail
  refine (unhide HC).mono ?_
  rintro e w1 ⟨rfl, hp, hk⟩
  have HP := hide hp
  have HK2 := hide ((unhide HK).trans hk)
  clear HC hp hk HK
  have HK := HK2
  clear HK2
  have HC := hide (ptake (unhide hTS) (unhide HP) (⟨#[105, 102]⟩ : ByteArray))
  unfold takeS at HC
  rw [show (⟨#[105, 102]⟩ : ByteArray).data.toList = [105, 102] from rfl, h1, if_neg (by simp)] at HC
  clear HP
  go_wp2_with fail
  refine (unhide HC).mono ?_
  rintro e w2 ⟨rfl, hp, hk⟩
  have HP := hide hp
  have HK2 := hide ((unhide HK).trans hk)
  clear HC hp hk HK
  have HK := HK2
  clear HK2
  have HC := hide (ptake (unhide hTS) (unhide HP) (⟨#[119, 104, 105, 108, 101]⟩ : ByteArray))
  unfold takeS at HC
  rw [show (⟨#[119, 104, 105, 108, 101]⟩ : ByteArray).data.toList = [119, 104, 105, 108, 101] from rfl, h2, if_neg (by simp)] at HC
  clear HP
  go_wp2_with fail
  refine (unhide HC).mono ?_
  rintro e w3 ⟨rfl, hp, hk⟩
  have HP := hide hp
  have HK2 := hide ((unhide HK).trans hk)
  clear HC hp hk HK
  have HK := HK2
  clear HK2
  have HC := hide (ptake (unhide hTS) (unhide HP) (⟨#[114, 101, 116, 117, 114, 110]⟩ : ByteArray))
  unfold takeS at HC
  rw [show (⟨#[114, 101, 116, 117, 114, 110]⟩ : ByteArray).data.toList = [114, 101, 116, 117, 114, 110] from rfl, h3, if_neg (by simp)] at HC
  clear HP
  go_wp2_with fail
  refine (unhide HC).mono ?_
  rintro e w4 ⟨rfl, hp, hk⟩
  have HP := hide hp
  have HK2 := hide ((unhide HK).trans hk)
  clear HC hp hk HK
  have HK := HK2
  clear HK2
  have HC := hide (ptake (unhide hTS) (unhide HP) (⟨#[116, 104, 114, 111, 119]⟩ : ByteArray))
  unfold takeS at HC
  rw [show (⟨#[116, 104, 114, 111, 119]⟩ : ByteArray).data.toList = [116, 104, 114, 111, 119] from rfl, h4, if_neg (by simp)] at HC
  clear HP
  go_wp2_with fail
  refine (unhide HC).mono ?_
  rintro e w5 ⟨rfl, hp, hk⟩
  have HP := hide hp
  have HK2 := hide ((unhide HK).trans hk)
  clear HC hp hk HK
  have HK := HK2
  clear HK2
  have HC := hide (ptake (unhide hTS) (unhide HP) (⟨#[116, 114, 121]⟩ : ByteArray))
  unfold takeS at HC
  rw [show (⟨#[116, 114, 121]⟩ : ByteArray).data.toList = [116, 114, 121] from rfl, hy, if_pos rfl] at HC
  clear HP
  go_wp2_with fail
  refine (unhide HC).mono ?_
  rintro e w6 ⟨rfl, hp, hk⟩
  have HP := hide hp
  have HK2 := hide ((unhide HK).trans hk)
  clear HC hp hk HK
  have HK := HK2
  clear HK2
  have HC := hide (unhide HC1 _ _ (unhide HP))
  clear HP HC1
  go_wp2_with fail
  refine (unhide HC).mono ?_
  rintro e w7 ⟨rfl, v1, hp, hk⟩
  have HP := hide hp
  have HK2 := hide ((unhide HK).trans hk)
  clear HC hp hk HK
  have HK := HK2
  clear HK2
  have HC := hide (pneed (unhide hTS) (unhide HP) (⟨#[99, 97, 116, 99, 104]⟩ : ByteArray))
  rw [show (⟨#[99, 97, 116, 99, 104]⟩ : ByteArray).data.toList = [99, 97, 116, 99, 104] from rfl] at HC
  clear HP
  go_wp2_with fail
  refine (unhide HC).mono ?_
  rintro e w8 ⟨rfl, hp, hk⟩
  have HP := hide hp
  have HK2 := hide ((unhide HK).trans hk)
  clear HC hp hk HK
  have HK := HK2
  clear HK2
  have HC := hide (pneed (unhide hTS) (unhide HP) (⟨#[40]⟩ : ByteArray))
  rw [show (⟨#[40]⟩ : ByteArray).data.toList = [40] from rfl] at HC
  clear HP
  go_wp2_with fail
  refine (unhide HC).mono ?_
  rintro e w9 ⟨rfl, hp, hk⟩
  have HP := hide hp
  have HK2 := hide ((unhide HK).trans hk)
  clear HC hp hk HK
  have HK := HK2
  clear HK2
  obtain ⟨c0, c1, c2, c3, c4, c5⟩ := (unhide HP).cells
  have hg := (unhide HP).lt
  rw [he] at c4
  have HC := hide (pname (unhide hTS) (unhide HP))
  clear HP
  go_wp2_with fail
  refine (unhide HC).mono ?_
  rintro e w10 ⟨rfl, hp, hk⟩
  have HP := hide hp
  have HK2 := hide ((unhide HK).trans hk)
  clear HC hp hk HK
  have HK := HK2
  clear HK2
  clear c0 c1 c2 c3 c4 c5
  have HC := hide (pneed (unhide hTS) (unhide HP) (⟨#[41]⟩ : ByteArray))
  rw [show (⟨#[41]⟩ : ByteArray).data.toList = [41] from rfl] at HC
  clear HP
  go_wp2_with fail
  refine (unhide HC).mono ?_
  rintro e w11 ⟨rfl, hp, hk⟩
  have HP := hide hp
  have HK2 := hide ((unhide HK).trans hk)
  clear HC hp hk HK
  have HK := HK2
  clear HK2
  have HC := hide (unhide HC2 _ _ (unhide HP))
  clear HP HC2
  go_wp2_with fail
  refine (unhide HC).mono ?_
  rintro e w12 ⟨rfl, v2, hp, hk⟩
  have HP := hide hp
  have HK2 := hide ((unhide HK).trans hk)
  clear HC hp hk HK
  have HK := HK2
  clear HK2
  have HC := hide (pput2 (unhide hTS) (unhide HP) (by repeat (first | exact unhide HF2 | apply Few.put | refine Few.same ?_ (need_ns _ _ _) | refine Few.same ?_ (com_ns _ _ _) | refine Few.same ?_ (name_ns _ _) | refine Few.same ?_ (adv_ns _) | refine Few.same ?_ (up_ns _) | refine Few.same ?_ (down_ns _ _))) 17 (nameP ts (needP ts [40] (needP ts [99, 97, 116, 99, 104] o1.s))).1 o1.r o2.r)
  clear HP
  go_wp2_with fail
  refine (unhide HC).mono ?_
  rintro e w13 ⟨rfl, vp, hp, hk⟩
  have HP := hide hp
  have HK2 := hide ((unhide HK).trans hk)
  clear HC hp hk HK
  have HK := HK2
  clear HK2
  go_wp2
  go_ret
  exact ⟨rfl, _, unhide HP, unhide HK⟩

set_option maxHeartbeats 4000000 in
set_option maxRecDepth 100000 in
theorem pinner_try0 {ts : List V3} (hTS : Hid (TS ts)) (n : Nat) (ihB : Hid (∀ k, k ≤ n → PQ ts k .block 140)) {g : Nat} {lp : Option Addr} {lc : PX} {v : Value} {s : PS} {w : World} (h : PAt w g lp lc ts v s) (hf : Few s) (hd : s.dp ≤ 20) (hn : needN ts .inner s ≤ n + 1) (h0 : tkP ts s [108, 101, 116] = false) (h1 : tkP ts s [105, 102] = false) (h2 : tkP ts s [119, 104, 105, 108, 101] = false) (h3 : tkP ts s [114, 101, 116, 117, 114, 110] = false) (h4 : tkP ts s [116, 104, 114, 111, 119] = false) (hy : tkP ts s [116, 114, 121] = true) (he : ¬ (needP ts [40] (needP ts [99, 97, 116, 99, 104] (run ts n .block (advP s)).s)).code = 0) :
    PZ 142 g lp lc ts v w (run ts (n + 1) .inner s) := by
  unfold PZ
  rw [run]
  rw [if_neg (nt h0), if_neg (nt h1), if_neg (nt h2), if_neg (nt h3), if_neg (nt h4), if_pos hy, if_neg he, oneP]
  have hat := h.hat
  have HP := hide h
  have HK := hide (PK.refl g v w)
  have HF0 := hide hf
  have HD0 := hide hd
  have HL0 := hide (PLe.refl s)
  clear h hf hd
  have hc := (tk_code hy).1
  have HC1 := hide (fun v w (hp : PAt w g lp lc ts v (advP s)) => unhide ihB n (by omega) g lp lc v (advP s) w hp (by repeat (first | exact unhide HF0 | apply Few.put | refine Few.same ?_ (need_ns _ _ _) | refine Few.same ?_ (com_ns _ _ _) | refine Few.same ?_ (name_ns _ _) | refine Few.same ?_ (adv_ns _) | refine Few.same ?_ (up_ns _) | refine Few.same ?_ (down_ns _ _))) (by (repeat (first | rewrite [need_dp] | rewrite [com_dp] | rewrite [name_dp] | rewrite [adv_dp] | rewrite [put_dp])); exact unhide HD0) (need_on hn hat (by repeat (first | exact unhide HL0 | apply PLe.need | apply PLe.com | apply PLe.name | apply PLe.adv | apply PLe.put | apply PLe.up | apply PLe.down)) (by first | exact PLt.need (by repeat (first | exact unhide HL0 | apply PLe.need | apply PLe.com | apply PLe.name | apply PLe.adv | apply PLe.put | apply PLe.up | apply PLe.down)) | exact PLt.name (by repeat (first | exact unhide HL0 | apply PLe.need | apply PLe.com | apply PLe.name | apply PLe.adv | apply PLe.put | apply PLe.up | apply PLe.down)) | exact PLt.adv (by repeat (first | exact unhide HL0 | apply PLe.need | apply PLe.com | apply PLe.name | apply PLe.adv | apply PLe.put | apply PLe.up | apply PLe.down))) hc))
  have HL1 := hide (run_le ts n .block s (advP s) (by repeat (first | exact unhide HL0 | apply PLe.need | apply PLe.com | apply PLe.name | apply PLe.adv | apply PLe.put | apply PLe.up | apply PLe.down)))
  have HT1 := hide (run_lt ts n .block s (advP s) rfl (by repeat (first | exact unhide HL0 | apply PLe.need | apply PLe.com | apply PLe.name | apply PLe.adv | apply PLe.put | apply PLe.up | apply PLe.down)))
  have HF1 := hide (Few.run (ts := ts) (n := n) (f := .block) (s := (advP s)) (by repeat (first | exact unhide HF0 | apply Few.put | refine Few.same ?_ (need_ns _ _ _) | refine Few.same ?_ (com_ns _ _ _) | refine Few.same ?_ (name_ns _ _) | refine Few.same ?_ (adv_ns _) | refine Few.same ?_ (up_ns _) | refine Few.same ?_ (down_ns _ _))))
  have HD1 : Hid ((run ts n .block (advP s)).s.dp ≤ 20) := hide (by rw [run_dp]; exact (by (repeat (first | rewrite [need_dp] | rewrite [com_dp] | rewrite [name_dp] | rewrite [adv_dp] | rewrite [put_dp])); exact unhide HD0))
  generalize run ts n .block (advP s) = o1 at HC1 HL1 HT1 HF1 HD1 he ⊢
  have HC2 := hide (fun v w (hp : PAt w g lp lc ts v (needP ts [41] (needP ts [40] (needP ts [99, 97, 116, 99, 104] o1.s)))) => unhide ihB n (by omega) g lp lc v (needP ts [41] (needP ts [40] (needP ts [99, 97, 116, 99, 104] o1.s))) w hp (by repeat (first | exact unhide HF1 | apply Few.put | refine Few.same ?_ (need_ns _ _ _) | refine Few.same ?_ (com_ns _ _ _) | refine Few.same ?_ (name_ns _ _) | refine Few.same ?_ (adv_ns _) | refine Few.same ?_ (up_ns _) | refine Few.same ?_ (down_ns _ _))) (by (repeat (first | rewrite [need_dp] | rewrite [com_dp] | rewrite [name_dp] | rewrite [adv_dp] | rewrite [put_dp])); exact unhide HD1) (need_on hn hat (by repeat (first | exact unhide HL1 | apply PLe.need | apply PLe.com | apply PLe.name | apply PLe.adv | apply PLe.put | apply PLe.up | apply PLe.down)) ((unhide HT1).le (by repeat (first | exact PLe.refl _ | apply PLe.need | apply PLe.com | apply PLe.name | apply PLe.adv | apply PLe.put | apply PLe.up | apply PLe.down))) hc))
  have HL2 := hide (run_le ts n .block s (needP ts [41] (needP ts [40] (needP ts [99, 97, 116, 99, 104] o1.s))) (by repeat (first | exact unhide HL1 | apply PLe.need | apply PLe.com | apply PLe.name | apply PLe.adv | apply PLe.put | apply PLe.up | apply PLe.down)))
  have HT2 := hide (run_lt ts n .block s (needP ts [41] (needP ts [40] (needP ts [99, 97, 116, 99, 104] o1.s))) rfl (by repeat (first | exact unhide HL1 | apply PLe.need | apply PLe.com | apply PLe.name | apply PLe.adv | apply PLe.put | apply PLe.up | apply PLe.down)))
  have HF2 := hide (Few.run (ts := ts) (n := n) (f := .block) (s := (needP ts [41] (needP ts [40] (needP ts [99, 97, 116, 99, 104] o1.s)))) (by repeat (first | exact unhide HF1 | apply Few.put | refine Few.same ?_ (need_ns _ _ _) | refine Few.same ?_ (com_ns _ _ _) | refine Few.same ?_ (name_ns _ _) | refine Few.same ?_ (adv_ns _) | refine Few.same ?_ (up_ns _) | refine Few.same ?_ (down_ns _ _))))
  have HD2 : Hid ((run ts n .block (needP ts [41] (needP ts [40] (needP ts [99, 97, 116, 99, 104] o1.s)))).s.dp ≤ 20) := hide (by rw [run_dp]; exact (by (repeat (first | rewrite [need_dp] | rewrite [com_dp] | rewrite [name_dp] | rewrite [adv_dp] | rewrite [put_dp])); exact unhide HD1))
  generalize run ts n .block (needP ts [41] (needP ts [40] (needP ts [99, 97, 116, 99, 104] o1.s))) = o2 at HC2 HL2 HT2 HF2 HD2 he ⊢
  go_enter Tryd.func142, Tryd.ntmps142
  have HC := hide (ptake (unhide hTS) (unhide HP) (⟨#[108, 101, 116]⟩ : ByteArray))
  unfold takeS at HC
  rw [show (⟨#[108, 101, 116]⟩ : ByteArray).data.toList = [108, 101, 116] from rfl, h0, if_neg (by simp)] at HC
  clear HP
  go_wp2_with fail
  refine (unhide HC).mono ?_
  rintro e w1 ⟨rfl, hp, hk⟩
  have HP := hide hp
  have HK2 := hide ((unhide HK).trans hk)
  clear HC hp hk HK
  have HK := HK2
  clear HK2
  have HC := hide (ptake (unhide hTS) (unhide HP) (⟨#[105, 102]⟩ : ByteArray))
  unfold takeS at HC
  rw [show (⟨#[105, 102]⟩ : ByteArray).data.toList = [105, 102] from rfl, h1, if_neg (by simp)] at HC
  clear HP
  go_wp2_with fail
  refine (unhide HC).mono ?_
  rintro e w2 ⟨rfl, hp, hk⟩
  have HP := hide hp
  have HK2 := hide ((unhide HK).trans hk)
  clear HC hp hk HK
  have HK := HK2
  clear HK2
  have HC := hide (ptake (unhide hTS) (unhide HP) (⟨#[119, 104, 105, 108, 101]⟩ : ByteArray))
  unfold takeS at HC
  rw [show (⟨#[119, 104, 105, 108, 101]⟩ : ByteArray).data.toList = [119, 104, 105, 108, 101] from rfl, h2, if_neg (by simp)] at HC
  clear HP
  go_wp2_with fail
  refine (unhide HC).mono ?_
  rintro e w3 ⟨rfl, hp, hk⟩
  have HP := hide hp
  have HK2 := hide ((unhide HK).trans hk)
  clear HC hp hk HK
  have HK := HK2
  clear HK2
  have HC := hide (ptake (unhide hTS) (unhide HP) (⟨#[114, 101, 116, 117, 114, 110]⟩ : ByteArray))
  unfold takeS at HC
  rw [show (⟨#[114, 101, 116, 117, 114, 110]⟩ : ByteArray).data.toList = [114, 101, 116, 117, 114, 110] from rfl, h3, if_neg (by simp)] at HC
  clear HP
  go_wp2_with fail
  refine (unhide HC).mono ?_
  rintro e w4 ⟨rfl, hp, hk⟩
  have HP := hide hp
  have HK2 := hide ((unhide HK).trans hk)
  clear HC hp hk HK
  have HK := HK2
  clear HK2
  have HC := hide (ptake (unhide hTS) (unhide HP) (⟨#[116, 104, 114, 111, 119]⟩ : ByteArray))
  unfold takeS at HC
  rw [show (⟨#[116, 104, 114, 111, 119]⟩ : ByteArray).data.toList = [116, 104, 114, 111, 119] from rfl, h4, if_neg (by simp)] at HC
  clear HP
  go_wp2_with fail
  refine (unhide HC).mono ?_
  rintro e w5 ⟨rfl, hp, hk⟩
  have HP := hide hp
  have HK2 := hide ((unhide HK).trans hk)
  clear HC hp hk HK
  have HK := HK2
  clear HK2
  have HC := hide (ptake (unhide hTS) (unhide HP) (⟨#[116, 114, 121]⟩ : ByteArray))
  unfold takeS at HC
  rw [show (⟨#[116, 114, 121]⟩ : ByteArray).data.toList = [116, 114, 121] from rfl, hy, if_pos rfl] at HC
  clear HP
  go_wp2_with fail
  refine (unhide HC).mono ?_
  rintro e w6 ⟨rfl, hp, hk⟩
  have HP := hide hp
  have HK2 := hide ((unhide HK).trans hk)
  clear HC hp hk HK
  have HK := HK2
  clear HK2
  have HC := hide (unhide HC1 _ _ (unhide HP))
  clear HP HC1
  go_wp2_with fail
  refine (unhide HC).mono ?_
  rintro e w7 ⟨rfl, v1, hp, hk⟩
  have HP := hide hp
  have HK2 := hide ((unhide HK).trans hk)
  clear HC hp hk HK
  have HK := HK2
  clear HK2
  have HC := hide (pneed (unhide hTS) (unhide HP) (⟨#[99, 97, 116, 99, 104]⟩ : ByteArray))
  rw [show (⟨#[99, 97, 116, 99, 104]⟩ : ByteArray).data.toList = [99, 97, 116, 99, 104] from rfl] at HC
  clear HP
  go_wp2_with fail
  refine (unhide HC).mono ?_
  rintro e w8 ⟨rfl, hp, hk⟩
  have HP := hide hp
  have HK2 := hide ((unhide HK).trans hk)
  clear HC hp hk HK
  have HK := HK2
  clear HK2
  have HC := hide (pneed (unhide hTS) (unhide HP) (⟨#[40]⟩ : ByteArray))
  rw [show (⟨#[40]⟩ : ByteArray).data.toList = [40] from rfl] at HC
  clear HP
  go_wp2_with fail
  refine (unhide HC).mono ?_
  rintro e w9 ⟨rfl, hp, hk⟩
  have HP := hide hp
  have HK2 := hide ((unhide HK).trans hk)
  clear HC hp hk HK
  have HK := HK2
  clear HK2
  obtain ⟨c0, c1, c2, c3, c4, c5⟩ := (unhide HP).cells
  have hg := (unhide HP).lt
  have e0 : ((needP ts [40] (needP ts [99, 97, 116, 99, 104] o1.s)).code == 0) = false := beq_eq_false_iff_ne.2 he
  have HC := hide (pneed (unhide hTS) (unhide HP) (⟨#[41]⟩ : ByteArray))
  rw [show (⟨#[41]⟩ : ByteArray).data.toList = [41] from rfl] at HC
  clear HP
  go_wp2_with fail
  refine (unhide HC).mono ?_
  rintro e w10 ⟨rfl, hp, hk⟩
  have HP := hide hp
  have HK2 := hide ((unhide HK).trans hk)
  clear HC hp hk HK
  have HK := HK2
  clear HK2
  clear c0 c1 c2 c3 c4 c5 e0
  have HC := hide (unhide HC2 _ _ (unhide HP))
  clear HP HC2
  go_wp2_with fail
  refine (unhide HC).mono ?_
  rintro e w11 ⟨rfl, v2, hp, hk⟩
  have HP := hide hp
  have HK2 := hide ((unhide HK).trans hk)
  clear HC hp hk HK
  have HK := HK2
  clear HK2
  have HC := hide (pput2 (unhide hTS) (unhide HP) (by repeat (first | exact unhide HF2 | apply Few.put | refine Few.same ?_ (need_ns _ _ _) | refine Few.same ?_ (com_ns _ _ _) | refine Few.same ?_ (name_ns _ _) | refine Few.same ?_ (adv_ns _) | refine Few.same ?_ (up_ns _) | refine Few.same ?_ (down_ns _ _))) 17 em o1.r o2.r)
  clear HP
  go_wp2_with fail
  refine (unhide HC).mono ?_
  rintro e w12 ⟨rfl, vp, hp, hk⟩
  have HP := hide hp
  have HK2 := hide ((unhide HK).trans hk)
  clear HC hp hk HK
  have HK := HK2
  clear HK2
  go_wp2
  go_ret
  exact ⟨rfl, _, unhide HP, unhide HK⟩

set_option maxHeartbeats 4000000 in
set_option maxRecDepth 100000 in
theorem pinner_block {ts : List V3} (hTS : Hid (TS ts)) (n : Nat) (ihB : Hid (∀ k, k ≤ n → PQ ts k .block 140)) {g : Nat} {lp : Option Addr} {lc : PX} {v : Value} {s : PS} {w : World} (h : PAt w g lp lc ts v s) (hf : Few s) (hd : s.dp ≤ 20) (hn : needN ts .inner s ≤ n + 1) (h0 : tkP ts s [108, 101, 116] = false) (h1 : tkP ts s [105, 102] = false) (h2 : tkP ts s [119, 104, 105, 108, 101] = false) (h3 : tkP ts s [114, 101, 116, 117, 114, 110] = false) (h4 : tkP ts s [116, 104, 114, 111, 119] = false) (h5 : tkP ts s [116, 114, 121] = false) (hy : isP ts s [123] = true) :
    PZ 142 g lp lc ts v w (run ts (n + 1) .inner s) := by
  unfold PZ
  rw [run]
  rw [if_neg (nt h0), if_neg (nt h1), if_neg (nt h2), if_neg (nt h3), if_neg (nt h4), if_neg (nt h5), if_pos hy]
  have hat := h.hat
  have HP := hide h
  have HK := hide (PK.refl g v w)
  have HF0 := hide hf
  have HD0 := hide hd
  have HL0 := hide (PLe.refl s)
  clear h hf hd
  have HC1 := hide (fun v w (hp : PAt w g lp lc ts v s) => unhide ihB n (by omega) g lp lc v s w hp (by repeat (first | exact unhide HF0 | apply Few.put | refine Few.same ?_ (need_ns _ _ _) | refine Few.same ?_ (com_ns _ _ _) | refine Few.same ?_ (name_ns _ _) | refine Few.same ?_ (adv_ns _) | refine Few.same ?_ (up_ns _) | refine Few.same ?_ (down_ns _ _))) (by (repeat (first | rewrite [need_dp] | rewrite [com_dp] | rewrite [name_dp] | rewrite [adv_dp] | rewrite [put_dp])); exact unhide HD0) (need_run hn hat (PLe.refl s) (fun _ _ => .inl (by decide)) (fun _ => by decide)))
  have HL1 := hide (run_le ts n .block s s (by repeat (first | exact unhide HL0 | apply PLe.need | apply PLe.com | apply PLe.name | apply PLe.adv | apply PLe.put | apply PLe.up | apply PLe.down)))
  have HT1 := hide (run_lt ts n .block s s rfl (by repeat (first | exact unhide HL0 | apply PLe.need | apply PLe.com | apply PLe.name | apply PLe.adv | apply PLe.put | apply PLe.up | apply PLe.down)))
  have HF1 := hide (Few.run (ts := ts) (n := n) (f := .block) (s := s) (by repeat (first | exact unhide HF0 | apply Few.put | refine Few.same ?_ (need_ns _ _ _) | refine Few.same ?_ (com_ns _ _ _) | refine Few.same ?_ (name_ns _ _) | refine Few.same ?_ (adv_ns _) | refine Few.same ?_ (up_ns _) | refine Few.same ?_ (down_ns _ _))))
  have HD1 : Hid ((run ts n .block s).s.dp ≤ 20) := hide (by rw [run_dp]; exact (by (repeat (first | rewrite [need_dp] | rewrite [com_dp] | rewrite [name_dp] | rewrite [adv_dp] | rewrite [put_dp])); exact unhide HD0))
  generalize run ts n .block s = o1 at HC1 HL1 HT1 HF1 HD1  ⊢
  go_enter Tryd.func142, Tryd.ntmps142
  have HC := hide (ptake (unhide hTS) (unhide HP) (⟨#[108, 101, 116]⟩ : ByteArray))
  unfold takeS at HC
  rw [show (⟨#[108, 101, 116]⟩ : ByteArray).data.toList = [108, 101, 116] from rfl, h0, if_neg (by simp)] at HC
  clear HP
  go_wp2_with fail
  refine (unhide HC).mono ?_
  rintro e w1 ⟨rfl, hp, hk⟩
  have HP := hide hp
  have HK2 := hide ((unhide HK).trans hk)
  clear HC hp hk HK
  have HK := HK2
  clear HK2
  have HC := hide (ptake (unhide hTS) (unhide HP) (⟨#[105, 102]⟩ : ByteArray))
  unfold takeS at HC
  rw [show (⟨#[105, 102]⟩ : ByteArray).data.toList = [105, 102] from rfl, h1, if_neg (by simp)] at HC
  clear HP
  go_wp2_with fail
  refine (unhide HC).mono ?_
  rintro e w2 ⟨rfl, hp, hk⟩
  have HP := hide hp
  have HK2 := hide ((unhide HK).trans hk)
  clear HC hp hk HK
  have HK := HK2
  clear HK2
  have HC := hide (ptake (unhide hTS) (unhide HP) (⟨#[119, 104, 105, 108, 101]⟩ : ByteArray))
  unfold takeS at HC
  rw [show (⟨#[119, 104, 105, 108, 101]⟩ : ByteArray).data.toList = [119, 104, 105, 108, 101] from rfl, h2, if_neg (by simp)] at HC
  clear HP
  go_wp2_with fail
  refine (unhide HC).mono ?_
  rintro e w3 ⟨rfl, hp, hk⟩
  have HP := hide hp
  have HK2 := hide ((unhide HK).trans hk)
  clear HC hp hk HK
  have HK := HK2
  clear HK2
  have HC := hide (ptake (unhide hTS) (unhide HP) (⟨#[114, 101, 116, 117, 114, 110]⟩ : ByteArray))
  unfold takeS at HC
  rw [show (⟨#[114, 101, 116, 117, 114, 110]⟩ : ByteArray).data.toList = [114, 101, 116, 117, 114, 110] from rfl, h3, if_neg (by simp)] at HC
  clear HP
  go_wp2_with fail
  refine (unhide HC).mono ?_
  rintro e w4 ⟨rfl, hp, hk⟩
  have HP := hide hp
  have HK2 := hide ((unhide HK).trans hk)
  clear HC hp hk HK
  have HK := HK2
  clear HK2
  have HC := hide (ptake (unhide hTS) (unhide HP) (⟨#[116, 104, 114, 111, 119]⟩ : ByteArray))
  unfold takeS at HC
  rw [show (⟨#[116, 104, 114, 111, 119]⟩ : ByteArray).data.toList = [116, 104, 114, 111, 119] from rfl, h4, if_neg (by simp)] at HC
  clear HP
  go_wp2_with fail
  refine (unhide HC).mono ?_
  rintro e w5 ⟨rfl, hp, hk⟩
  have HP := hide hp
  have HK2 := hide ((unhide HK).trans hk)
  clear HC hp hk HK
  have HK := HK2
  clear HK2
  have HC := hide (ptake (unhide hTS) (unhide HP) (⟨#[116, 114, 121]⟩ : ByteArray))
  unfold takeS at HC
  rw [show (⟨#[116, 114, 121]⟩ : ByteArray).data.toList = [116, 114, 121] from rfl, h5, if_neg (by simp)] at HC
  clear HP
  go_wp2_with fail
  refine (unhide HC).mono ?_
  rintro e w6 ⟨rfl, hp, hk⟩
  have HP := hide hp
  have HK2 := hide ((unhide HK).trans hk)
  clear HC hp hk HK
  have HK := HK2
  clear HK2
  have HC := hide (pis (unhide hTS) (unhide HP) (⟨#[123]⟩ : ByteArray))
  rw [show (⟨#[123]⟩ : ByteArray).data.toList = [123] from rfl, hy] at HC
  go_wp2_with fail
  refine (unhide HC).mono ?_
  rintro e w7 ⟨rfl, hb⟩
  have HP2 := hide ((unhide HP).later hb)
  have HK2 := hide ((unhide HK).then_below hb)
  clear HC hb HK HP
  have HK := HK2
  have HP := HP2
  clear HK2 HP2
  have HC := hide (unhide HC1 _ _ (unhide HP))
  clear HP HC1
  go_wp2_with fail
  refine (unhide HC).mono ?_
  rintro e w8 ⟨rfl, v1, hp, hk⟩
  have HP := hide hp
  have HK2 := hide ((unhide HK).trans hk)
  clear HC hp hk HK
  have HK := HK2
  clear HK2
  go_wp2
  go_ret
  exact ⟨rfl, _, unhide HP, unhide HK⟩

set_option maxHeartbeats 4000000 in
set_option maxRecDepth 100000 in
theorem pinner_bad {ts : List V3} (hTS : Hid (TS ts)) (n : Nat) {g : Nat} {lp : Option Addr} {lc : PX} {v : Value} {s : PS} {w : World} (h : PAt w g lp lc ts v s) (hf : Few s) (hd : s.dp ≤ 20) (hn : needN ts .inner s ≤ n + 1) (h0 : tkP ts s [108, 101, 116] = false) (h1 : tkP ts s [105, 102] = false) (h2 : tkP ts s [119, 104, 105, 108, 101] = false) (h3 : tkP ts s [114, 101, 116, 117, 114, 110] = false) (h4 : tkP ts s [116, 104, 114, 111, 119] = false) (h5 : tkP ts s [116, 114, 121] = false) (h6 : isP ts s [123] = false) (hy : ¬ s.code = 0) :
    PZ 142 g lp lc ts v w (run ts (n + 1) .inner s) := by
  unfold PZ
  rw [run]
  rw [if_neg (nt h0), if_neg (nt h1), if_neg (nt h2), if_neg (nt h3), if_neg (nt h4), if_neg (nt h5), if_neg (nt h6), if_pos hy, retP]
  have hat := h.hat
  have HP := hide h
  have HK := hide (PK.refl g v w)
  have HF0 := hide hf
  have HD0 := hide hd
  have HL0 := hide (PLe.refl s)
  clear h hf hd
  go_enter Tryd.func142, Tryd.ntmps142
  have HC := hide (ptake (unhide hTS) (unhide HP) (⟨#[108, 101, 116]⟩ : ByteArray))
  unfold takeS at HC
  rw [show (⟨#[108, 101, 116]⟩ : ByteArray).data.toList = [108, 101, 116] from rfl, h0, if_neg (by simp)] at HC
  clear HP
  go_wp2_with fail
  refine (unhide HC).mono ?_
  rintro e w1 ⟨rfl, hp, hk⟩
  have HP := hide hp
  have HK2 := hide ((unhide HK).trans hk)
  clear HC hp hk HK
  have HK := HK2
  clear HK2
  have HC := hide (ptake (unhide hTS) (unhide HP) (⟨#[105, 102]⟩ : ByteArray))
  unfold takeS at HC
  rw [show (⟨#[105, 102]⟩ : ByteArray).data.toList = [105, 102] from rfl, h1, if_neg (by simp)] at HC
  clear HP
  go_wp2_with fail
  refine (unhide HC).mono ?_
  rintro e w2 ⟨rfl, hp, hk⟩
  have HP := hide hp
  have HK2 := hide ((unhide HK).trans hk)
  clear HC hp hk HK
  have HK := HK2
  clear HK2
  have HC := hide (ptake (unhide hTS) (unhide HP) (⟨#[119, 104, 105, 108, 101]⟩ : ByteArray))
  unfold takeS at HC
  rw [show (⟨#[119, 104, 105, 108, 101]⟩ : ByteArray).data.toList = [119, 104, 105, 108, 101] from rfl, h2, if_neg (by simp)] at HC
  clear HP
  go_wp2_with fail
  refine (unhide HC).mono ?_
  rintro e w3 ⟨rfl, hp, hk⟩
  have HP := hide hp
  have HK2 := hide ((unhide HK).trans hk)
  clear HC hp hk HK
  have HK := HK2
  clear HK2
  have HC := hide (ptake (unhide hTS) (unhide HP) (⟨#[114, 101, 116, 117, 114, 110]⟩ : ByteArray))
  unfold takeS at HC
  rw [show (⟨#[114, 101, 116, 117, 114, 110]⟩ : ByteArray).data.toList = [114, 101, 116, 117, 114, 110] from rfl, h3, if_neg (by simp)] at HC
  clear HP
  go_wp2_with fail
  refine (unhide HC).mono ?_
  rintro e w4 ⟨rfl, hp, hk⟩
  have HP := hide hp
  have HK2 := hide ((unhide HK).trans hk)
  clear HC hp hk HK
  have HK := HK2
  clear HK2
  have HC := hide (ptake (unhide hTS) (unhide HP) (⟨#[116, 104, 114, 111, 119]⟩ : ByteArray))
  unfold takeS at HC
  rw [show (⟨#[116, 104, 114, 111, 119]⟩ : ByteArray).data.toList = [116, 104, 114, 111, 119] from rfl, h4, if_neg (by simp)] at HC
  clear HP
  go_wp2_with fail
  refine (unhide HC).mono ?_
  rintro e w5 ⟨rfl, hp, hk⟩
  have HP := hide hp
  have HK2 := hide ((unhide HK).trans hk)
  clear HC hp hk HK
  have HK := HK2
  clear HK2
  have HC := hide (ptake (unhide hTS) (unhide HP) (⟨#[116, 114, 121]⟩ : ByteArray))
  unfold takeS at HC
  rw [show (⟨#[116, 114, 121]⟩ : ByteArray).data.toList = [116, 114, 121] from rfl, h5, if_neg (by simp)] at HC
  clear HP
  go_wp2_with fail
  refine (unhide HC).mono ?_
  rintro e w6 ⟨rfl, hp, hk⟩
  have HP := hide hp
  have HK2 := hide ((unhide HK).trans hk)
  clear HC hp hk HK
  have HK := HK2
  clear HK2
  have HC := hide (pis (unhide hTS) (unhide HP) (⟨#[123]⟩ : ByteArray))
  rw [show (⟨#[123]⟩ : ByteArray).data.toList = [123] from rfl, h6] at HC
  go_wp2_with fail
  refine (unhide HC).mono ?_
  rintro e w7 ⟨rfl, hb⟩
  have HP2 := hide ((unhide HP).later hb)
  have HK2 := hide ((unhide HK).then_below hb)
  clear HC hb HK HP
  have HK := HK2
  have HP := HP2
  clear HK2 HP2
  obtain ⟨c0, c1, c2, c3, c4, c5⟩ := (unhide HP).cells
  have hg := (unhide HP).lt
  have e0 : (s.code != 0) = true := by simp [hy]
  go_wp2
  go_ret
  exact ⟨rfl, _, unhide HP, unhide HK⟩

end Go.Proofs.YtbipgmikgokfpaaDoor

/- PProd -/
namespace Go.Proofs.YtbipgmikgokfpaaDoor
open Go.RowKit Go.Joins
set_option linter.unusedVariables false

set_option maxHeartbeats 4000000 in
set_option maxRecDepth 100000 in
theorem pprod_step {ts : List V3} (hTS : Hid (TS ts)) (n : Nat) (ih : Hid (∀ k, k ≤ n → PQ ts k .sign 195)) : PQ ts (n + 1) .prod 194 := by
  intro g lp lc v s w h hf hd hn
  have hat := h.hat
  have HC := hide (unhide ih n (Nat.le_refl _) g lp lc v s w h hf hd (need_run hn hat (PLe.refl s) (fun _ _ => .inl (by decide)) (fun _ => by decide)))
  have HR : run ts (n + 1) .prod s = run ts n (.prodL (run ts n .sign s).r) (run ts n .sign s).s := by rw [run]
  rw [HR]
  have HF1 := hide (hf.run (ts := ts) (n := n) (f := .sign))
  have HD1 := hide (run_dp ts n .sign s)
  have HN1 := hide (fun a => need_run (f' := .prodL a) hn hat (run_le ts n .sign s s (PLe.refl s)) (fun _ _ => .inl (by show lev (.prodL 0) < lev .prod; decide)) (fun _ => (by show lev0 (.prodL 0) < lev0 .prod; decide)))
  generalize run ts n .sign s = o at HC HF1 HD1 HN1 ⊢
  clear h hf hn HR
  go_enter Tryd.func194, Tryd.ntmps194
  go_wp2_with fail
  refine (unhide HC).mono ?_
  rintro e w1 ⟨rfl, v1, hp1, hk1⟩
  have HP1 := hide hp1
  have HK1 := hide hk1
  clear HC hp1 hk1
  go_wp2
  go_loopg [3] n (fun gn a wx => ∃ (a' : Int) (s' : PS) (v' : Value), a = .int .i64 a' ∧ gn ≤ n ∧ Hid (needN ts (.prodL a') s' ≤ gn) ∧ Hid (PAt wx g lp lc ts v' s') ∧ Hid (PK g v v' w wx) ∧ Hid (Few s') ∧ Hid (s'.dp ≤ 20) ∧ Hid (run ts gn (.prodL a') s' = run ts n (.prodL o.r) o.s))
  case atStart => exact ⟨o.r, o.s, v1, rfl, Nat.le_refl _, hide (unhide HN1 _), HP1, HK1, HF1, hide (by rw [unhide HD1]; exact hd), hide rfl⟩
  case round =>
    obtain ⟨a', s', v', rfl, hgn, HN, HP, HK, HF, HD, HRn⟩ := hrel
    obtain ⟨k, hk⟩ := need_pos (unhide HN)
    have HR2 := unhide HRn
    rw [hk, run] at HR2
    have hat' := (unhide HP).hat
    have c4 := (unhide HP).cells.2.2.2.2.1
    have HI := hide (fun t w2 (hp2 : PAt w2 g lp lc ts v' s') => pis (unhide hTS) hp2 t)
    clear HP1 HK1 HF1 HD1 HN1 HRn
    by_cases hc : s'.code = 0
    · rw [hc] at c4
      cases hi : isP ts s' [42] with
      | true =>
        have HI1 := hide (unhide HI ⟨#[42]⟩ wr (unhide HP))
        rw [show (⟨#[42]⟩ : ByteArray).data.toList = [42] from rfl, hi] at HI1
        rw [if_pos ⟨hc, .inl hi⟩] at HR2
        have hlt := is_lt hi
        have HN2 := hide (need_on (f' := .sign) (hk ▸ unhide HN) hat' (PLe.refl s').adv (PLt.adv (PLe.refl s')) hc)
        have HN3 := hide (fun b => need_on (f' := .prodL b) (hk ▸ unhide HN) hat' (run_le ts k .sign s' (advP s') (PLe.refl s').adv).put (PLt.put (ts := ts) (x := ⟨7, 0, (nextP ts s').t, [], [a', (run ts k .sign (advP s')).r]⟩) (run_lt ts k .sign s' (advP s') rfl (PLe.refl s').adv)) hc)
        have HC2 := hide (fun w2 hp2 => unhide ih k (by omega) g lp lc v' (advP s') w2 hp2 ((unhide HF).same (adv_ns _)) (by rw [adv_dp]; exact unhide HD) (unhide HN2))
        have HF2 := hide (((unhide HF).same (adv_ns _)).run (ts := ts) (n := k) (f := .sign))
        have HD2 : Hid ((run ts k .sign (advP s')).s.dp ≤ 20) := hide (by rw [run_dp, adv_dp]; exact unhide HD)
        have HX := hide (fun w2 (hp2 : PAt w2 g lp lc ts v' s') => pnext (unhide hTS) hp2)
        unfold tokA at HX
        generalize run ts k .sign (advP s') = o2 at HC2 HF2 HD2 HN3 HR2
        generalize nextP ts s' = x at HX HN3 HR2
        have HR3 := hide HR2
        clear HN2 HN HR2 hi HF HD
        clear HI
        go_wp2_with fail
        refine (unhide HI1).mono ?_
        rintro e w2 ⟨rfl, hb2⟩
        have HP2 := hide ((unhide HP).later hb2)
        have HK2 := hide ((unhide HK).then_below hb2)
        clear HI1 hb2 HP HK
        have HX2 := hide (unhide HX w2 (unhide HP2))
        clear HX
        go_wp2_with fail
        refine (unhide HX2).mono ?_
        rintro e w5 ⟨rfl, hb5⟩
        have hfd := fieldTok2 x.k x.n x.t w5
        have hp5 := (unhide HP2).later hb5
        obtain ⟨c0, c1, c2, c3, c4, c5⟩ := hp5.cells
        have z1 := hp5.free 1
        have hf3 := (unhide hTS).few
        have hg5 := hp5.lt
        have HC3 := hide (unhide HC2 _ (hp5.adv hlt))
        have HK5 := hide (((unhide HK2).then_below hb5).set (o := 1) (x := .int .i64 ((s'.at' : Int) + 1)))
        clear hb5 hp5 HC2 HX2 HP2 HK2 c0 c2 c3 c4 c5
        go_wp2_with fail
        refine (unhide HC3).mono ?_
        rintro e w3 ⟨rfl, v3, hp3, hk3⟩
        have HC4 := hide (pput2 (unhide hTS) hp3 (unhide HF2) 7 x.t a' o2.r)
        have HK3 := hide ((unhide HK5).trans hk3)
        clear HC3 HK5 hp3 hk3 c1 z1 hfd
        go_wp2_with fail
        refine (unhide HC4).mono ?_
        rintro e w4 ⟨rfl, v4, hp4, hk4⟩
        have HP4 := hide hp4
        have HK4 := hide ((unhide HK3).trans hk4)
        clear HC4 HK3 hp4 hk4
        go_wp2
        go_roundg k
        case rel => exact ⟨_, _, v4, rfl, by omega, hide (unhide HN3 _), HP4, HK4, hide ((unhide HF2).put), hide (by rw [put_dp]; exact unhide HD2), HR3⟩
        case measure => omega
      | false =>
        have hi0 := hi
        clear hi
        have HI1 := hide (unhide HI ⟨#[42]⟩ wr (unhide HP))
        rw [show (⟨#[42]⟩ : ByteArray).data.toList = [42] from rfl, hi0] at HI1
        go_wp2_with fail
        refine (unhide HI1).mono ?_
        rintro e w2 ⟨rfl, hb2⟩
        have HP2 := hide ((unhide HP).later hb2)
        have HK2 := hide ((unhide HK).then_below hb2)
        clear HI1 hb2 HP HK
        cases hi : isP ts s' [47] with
        | true =>
          have HI1 := hide (unhide HI ⟨#[47]⟩ w2 (unhide HP2))
          rw [show (⟨#[47]⟩ : ByteArray).data.toList = [47] from rfl, hi] at HI1
          rw [if_pos ⟨hc, .inr (.inl hi)⟩] at HR2
          have hlt := is_lt hi
          have HN2 := hide (need_on (f' := .sign) (hk ▸ unhide HN) hat' (PLe.refl s').adv (PLt.adv (PLe.refl s')) hc)
          have HN3 := hide (fun b => need_on (f' := .prodL b) (hk ▸ unhide HN) hat' (run_le ts k .sign s' (advP s') (PLe.refl s').adv).put (PLt.put (ts := ts) (x := ⟨7, 0, (nextP ts s').t, [], [a', (run ts k .sign (advP s')).r]⟩) (run_lt ts k .sign s' (advP s') rfl (PLe.refl s').adv)) hc)
          have HC2 := hide (fun w2 hp2 => unhide ih k (by omega) g lp lc v' (advP s') w2 hp2 ((unhide HF).same (adv_ns _)) (by rw [adv_dp]; exact unhide HD) (unhide HN2))
          have HF2 := hide (((unhide HF).same (adv_ns _)).run (ts := ts) (n := k) (f := .sign))
          have HD2 : Hid ((run ts k .sign (advP s')).s.dp ≤ 20) := hide (by rw [run_dp, adv_dp]; exact unhide HD)
          have HX := hide (fun w2 (hp2 : PAt w2 g lp lc ts v' s') => pnext (unhide hTS) hp2)
          unfold tokA at HX
          generalize run ts k .sign (advP s') = o2 at HC2 HF2 HD2 HN3 HR2
          generalize nextP ts s' = x at HX HN3 HR2
          have HR3 := hide HR2
          clear HN2 HN HR2 hi HF HD
          clear HI
          go_wp2_with fail
          refine (unhide HI1).mono ?_
          rintro e w6 ⟨rfl, hb2⟩
          have HP6 := hide ((unhide HP2).later hb2)
          have HK6 := hide ((unhide HK2).then_below hb2)
          clear HI1 hb2 HP2 HK2
          have HX2 := hide (unhide HX w6 (unhide HP6))
          clear HX
          go_wp2_with fail
          refine (unhide HX2).mono ?_
          rintro e w5 ⟨rfl, hb5⟩
          have hfd := fieldTok2 x.k x.n x.t w5
          have hp5 := (unhide HP6).later hb5
          obtain ⟨c0, c1, c2, c3, c4, c5⟩ := hp5.cells
          have z1 := hp5.free 1
          have hf3 := (unhide hTS).few
          have hg5 := hp5.lt
          have HC3 := hide (unhide HC2 _ (hp5.adv hlt))
          have HK5 := hide (((unhide HK6).then_below hb5).set (o := 1) (x := .int .i64 ((s'.at' : Int) + 1)))
          clear hb5 hp5 HC2 HX2 HP6 HK6 c0 c2 c3 c4 c5
          go_wp2_with fail
          refine (unhide HC3).mono ?_
          rintro e w3 ⟨rfl, v3, hp3, hk3⟩
          have HC4 := hide (pput2 (unhide hTS) hp3 (unhide HF2) 7 x.t a' o2.r)
          have HK3 := hide ((unhide HK5).trans hk3)
          clear HC3 HK5 hp3 hk3 c1 z1 hfd
          go_wp2_with fail
          refine (unhide HC4).mono ?_
          rintro e w4 ⟨rfl, v4, hp4, hk4⟩
          have HP4 := hide hp4
          have HK4 := hide ((unhide HK3).trans hk4)
          clear HC4 HK3 hp4 hk4
          go_wp2
          go_roundg k
          case rel => exact ⟨_, _, v4, rfl, by omega, hide (unhide HN3 _), HP4, HK4, hide ((unhide HF2).put), hide (by rw [put_dp]; exact unhide HD2), HR3⟩
          case measure => omega
        | false =>
          have hi1 := hi
          clear hi
          have HI1 := hide (unhide HI ⟨#[47]⟩ w2 (unhide HP2))
          rw [show (⟨#[47]⟩ : ByteArray).data.toList = [47] from rfl, hi1] at HI1
          go_wp2_with fail
          refine (unhide HI1).mono ?_
          rintro e w6 ⟨rfl, hb2⟩
          have HPn := hide ((unhide HP2).later hb2)
          have HKn := hide ((unhide HK2).then_below hb2)
          clear HI1 hb2 HP2 HK2
          cases hi : isP ts s' [37] with
          | true =>
            have HI1 := hide (unhide HI ⟨#[37]⟩ w6 (unhide HPn))
            rw [show (⟨#[37]⟩ : ByteArray).data.toList = [37] from rfl, hi] at HI1
            rw [if_pos ⟨hc, .inr (.inr (hi))⟩] at HR2
            have hlt := is_lt hi
            have HN2 := hide (need_on (f' := .sign) (hk ▸ unhide HN) hat' (PLe.refl s').adv (PLt.adv (PLe.refl s')) hc)
            have HN3 := hide (fun b => need_on (f' := .prodL b) (hk ▸ unhide HN) hat' (run_le ts k .sign s' (advP s') (PLe.refl s').adv).put (PLt.put (ts := ts) (x := ⟨7, 0, (nextP ts s').t, [], [a', (run ts k .sign (advP s')).r]⟩) (run_lt ts k .sign s' (advP s') rfl (PLe.refl s').adv)) hc)
            have HC2 := hide (fun w6 hp2 => unhide ih k (by omega) g lp lc v' (advP s') w6 hp2 ((unhide HF).same (adv_ns _)) (by rw [adv_dp]; exact unhide HD) (unhide HN2))
            have HF2 := hide (((unhide HF).same (adv_ns _)).run (ts := ts) (n := k) (f := .sign))
            have HD2 : Hid ((run ts k .sign (advP s')).s.dp ≤ 20) := hide (by rw [run_dp, adv_dp]; exact unhide HD)
            have HX := hide (fun w6 (hp2 : PAt w6 g lp lc ts v' s') => pnext (unhide hTS) hp2)
            unfold tokA at HX
            generalize run ts k .sign (advP s') = o2 at HC2 HF2 HD2 HN3 HR2
            generalize nextP ts s' = x at HX HN3 HR2
            have HR3 := hide HR2
            clear HN2 HN HR2 hi HF HD
            clear HI
            go_wp2_with fail
            refine (unhide HI1).mono ?_
            rintro e w7 ⟨rfl, hb2⟩
            have HP6 := hide ((unhide HPn).later hb2)
            have HK6 := hide ((unhide HKn).then_below hb2)
            clear HI1 hb2 HPn HKn
            have HX2 := hide (unhide HX w7 (unhide HP6))
            clear HX
            go_wp2_with fail
            refine (unhide HX2).mono ?_
            rintro e w5 ⟨rfl, hb5⟩
            have hfd := fieldTok2 x.k x.n x.t w5
            have hp5 := (unhide HP6).later hb5
            obtain ⟨c0, c1, c2, c3, c4, c5⟩ := hp5.cells
            have z1 := hp5.free 1
            have hf3 := (unhide hTS).few
            have hg5 := hp5.lt
            have HC3 := hide (unhide HC2 _ (hp5.adv hlt))
            have HK5 := hide (((unhide HK6).then_below hb5).set (o := 1) (x := .int .i64 ((s'.at' : Int) + 1)))
            clear hb5 hp5 HC2 HX2 HP6 HK6 c0 c2 c3 c4 c5
            go_wp2_with fail
            refine (unhide HC3).mono ?_
            rintro e w3 ⟨rfl, v3, hp3, hk3⟩
            have HC4 := hide (pput2 (unhide hTS) hp3 (unhide HF2) 7 x.t a' o2.r)
            have HK3 := hide ((unhide HK5).trans hk3)
            clear HC3 HK5 hp3 hk3 c1 z1 hfd
            go_wp2_with fail
            refine (unhide HC4).mono ?_
            rintro e w4 ⟨rfl, v4, hp4, hk4⟩
            have HP4 := hide hp4
            have HK4 := hide ((unhide HK3).trans hk4)
            clear HC4 HK3 hp4 hk4
            go_wp2
            go_roundg k
            case rel => exact ⟨_, _, v4, rfl, by omega, hide (unhide HN3 _), HP4, HK4, hide ((unhide HF2).put), hide (by rw [put_dp]; exact unhide HD2), HR3⟩
            case measure => omega
          | false =>
            have hi2 := hi
            clear hi
            have HI1 := hide (unhide HI ⟨#[37]⟩ w6 (unhide HPn))
            rw [show (⟨#[37]⟩ : ByteArray).data.toList = [37] from rfl, hi2] at HI1
            go_wp2_with fail
            refine (unhide HI1).mono ?_
            rintro e w7 ⟨rfl, hb2⟩
            have HPm := hide ((unhide HPn).later hb2)
            have HKm := hide ((unhide HKn).then_below hb2)
            clear HI1 hb2 HPn HKn
            have hno : ¬ (s'.code = 0 ∧ (isP ts s' [42] = true ∨ isP ts s' [47] = true ∨ isP ts s' [37] = true)) := by
              rintro ⟨_, h⟩
              rcases h with h | h | h
              · rw [hi0] at h; cases h
              · rw [hi1] at h; cases h
              · rw [hi2] at h; cases h
            rw [if_neg hno] at HR2
            have HR3 := hide HR2.symm
            clear HR2 hno hi0 hi1 hi2 hk hc
            go_wp2
            go_ret
            rw [unhide HR3]
            exact ⟨rfl, v', unhide HPm, unhide HKm⟩
    · have e0 : (s'.code == 0) = false := beq_eq_false_iff_ne.2 hc
      rw [if_neg (fun h => hc h.1)] at HR2
      have HR3 := hide HR2.symm
      clear HR2 hk hc
      go_wp2
      go_ret
      rw [unhide HR3]
      exact ⟨rfl, v', unhide HP, unhide HK⟩

end Go.Proofs.YtbipgmikgokfpaaDoor

/- LexWalk4 -/
namespace Go.Proofs.YtbipgmikgokfpaaDoor
open Go.RowKit Go.Joins
set_option linter.unusedVariables false

theorem l02Next_is (s : ByteArray) (p : Nat) (w : World) (hs : s.size ≤ 65536) (hp : p < s.size) (x : Option (Int × List UInt8 × Nat)) (h : Hid (nextT (s.data.toList.drop p) = x)) :
    Calls Tryd.prog 136 #[.string s, .int .i64 (p : Int)] w fun e w' => e = .returned (nextV p x) ∧ Below w.heap.size w w' := by
  have := l02Next_any s p w hs hp
  rw [unhide h] at this
  exact this
theorem nextV_yes (p : Nat) (k : Int) (t : List UInt8) (n : Nat) : nextV p (some (k, t, n)) = .tuple #[.agg #[.int .i64 k, .int .i64 (p : Int), .string ⟨t.toArray⟩], .int .i64 ((p + n : Nat) : Int), .bool true] := rfl
theorem nextV_no (p : Nat) : nextV p none = .tuple #[.agg #[.int .i64 0, .int .i64 0, .string ⟨#[]⟩], .int .i64 (p : Int), .bool false] := rfl
theorem lexAt_blank {l : List UInt8} {p : Nat} {acc : List V3} (h : LexAt l p acc) (hp : p < l.length) (hb : blankC l[p] = true) : LexAt l (p + 1) acc := ⟨fun x hx => h.1 _ (lex_skip hp hb acc x hx), h.2⟩
theorem next_pos {s : ByteArray} {p : Nat} {k : Int} {t : List UInt8} {n : Nat} (hlt : p < s.size) (h : nextT (s.data.toList.drop p) = some (k, t, n)) : 0 < n ∧ p + n ≤ s.size := by
  obtain ⟨c, r, hcr⟩ : ∃ c r, s.data.toList.drop p = c :: r := ⟨_, _, drop_at s p hlt⟩
  have hl : (c :: r).length = s.size - p := by rw [← hcr, List.length_drop, size_list]
  rw [hcr] at h
  have := (nextT_ok c r k t n h).2
  omega

/-- what reading a source of any length leaves -/
def LexTP (s : ByteArray) (w : World) (e : Ending) (w' : World) : Prop :=
  ∃ (v : Value) (vs : List V3) (p : Nat) (c : Int), e = .returned (.tuple #[v, .int .i64 (p : Int), .int .i64 c]) ∧ LexTo s.data.toList 0 [] (vs, p, c) ∧ TokBuf w' w.heap.size v vs ∧ Below w.heap.size w w'
theorem LexTP.mk {s : ByteArray} {w w' : World} (v : Value) (vs : List V3) (p : Nat) (c : Int) (h1 : LexTo s.data.toList 0 [] (vs, p, c)) (h2 : TokBuf w' w.heap.size v vs) (h3 : Below w.heap.size w w') : LexTP s w (.returned (.tuple #[v, .int .i64 (p : Int), .int .i64 c])) w' := ⟨v, vs, p, c, rfl, h1, h2, h3⟩

set_option maxHeartbeats 8000000 in
set_option maxRecDepth 100000 in
theorem l02Lex_wide (s : ByteArray) (w : World) (hs : s.size ≤ 65536) : Calls Tryd.prog 105 #[.string s] w (LexTP s w) := by
  have hlit := hide (TokBuf.lit0 w w.heap.size (Nat.le_refl _))
  go_enter Tryd.func105, Tryd.ntmps105
  go_wp2
  go_loopw [5, 6] (fun m i wx => ∃ (p : Nat) (acc : List V3), p ≤ s.size ∧ i = .int .i64 p ∧ Hid (LexAt s.data.toList p acc) ∧ TokBuf wx w.heap.size m acc ∧ Below w.heap.size w wx) (fun _ i _ => s.size - (intOf i).toNat)
  case atStart => exact ⟨0, [], by omega, rfl, hide (lexAt_zero _), unhide hlit, nx_alloc _ _⟩
  case round =>
    clear hlit
    obtain ⟨p, acc, hp, rfl, hin, hown, hnx⟩ := hrel
    have hwr : w.heap.size ≤ wr.heap.size := hnx.size
    have hal : acc.length ≤ 300 := (unhide hin).2
    obtain ⟨ma, mcap, rfl⟩ := hown.slice
    have hlit2 := hide (TokBuf.lit0 wr w.heap.size hwr)
    by_cases hlt : p < s.size
    · have hlt' : (p : Int) < (s.size : Int) := by omega
      have hpl : Hid (p < s.data.toList.length) := hide (by rw [size_list]; exact hlt)
      have hbe := hide (blankC_eq s[p])
      have hblank := hide (fun (hb : blankC s[p] = true) => lexAt_blank (unhide hin) (unhide hpl) hb)
      by_cases hB : blankC s[p] = true
      · have hd := hide (unhide hblank hB)
        have hbb : (((s[p].toNat : Int) == 32) || ((s[p].toNat : Int) == 9) || ((s[p].toNat : Int) == 10)) = true := by rw [← unhide hbe]; exact hB
        clear hblank hB
        cases b1 : ((s[p].toNat : Int) == 32)
        · cases b2 : ((s[p].toNat : Int) == 9)
          · have b3 : ((s[p].toNat : Int) == 10) = true := by rw [b1, b2] at hbb; exact hbb
            have c1 : ¬ (s[p].toNat : Int) = 32 := by simpa using b1
            have c2 : ¬ (s[p].toNat : Int) = 9 := by simpa using b2
            have hbc : (((s[p].toNat : Int) == 32) = true ∨ ((s[p].toNat : Int) == 9) = true) ∨ ((s[p].toNat : Int) == 10) = true := .inr b3
            have hbd : ¬ ((((s[p].toNat : Int) == 32) = false ∧ ((s[p].toNat : Int) == 9) = false) ∧ ((s[p].toNat : Int) == 10) = false) := by rintro ⟨_, h⟩; rw [b3] at h; cases h
            have c3 : (s[p].toNat : Int) = 10 := by simpa using b3
            have HO := hide hown
            clear hown
            go_wp2
            go_roundw
            case rel => exact ⟨p + 1, acc, by omega, by go_num, hide (unhide hd), unhide HO, hnx⟩
            case measure => simp [intOf]; omega
          · clear hbb
            have c1 : ¬ (s[p].toNat : Int) = 32 := by simpa using b1
            have c2 : (s[p].toNat : Int) = 9 := by simpa using b2
            have HO := hide hown
            clear hown
            go_wp2
            go_roundw
            case rel => exact ⟨p + 1, acc, by omega, by go_num, hide (unhide hd), unhide HO, hnx⟩
            case measure => simp [intOf]; omega
        · clear hbb
          have c1 : (s[p].toNat : Int) = 32 := by simpa using b1
          have HO := hide hown
          clear hown
          go_wp2
          go_roundw
          case rel => exact ⟨p + 1, acc, by omega, by go_num, hide (unhide hd), unhide HO, hnx⟩
          case measure => simp [intOf]; omega
      have hB' : blankC s[p] = false := by simpa using hB
      have hb : Hid (blankC s[p] = false) := hide hB'
      have hbb : (((s[p].toNat : Int) == 32) || ((s[p].toNat : Int) == 9) || ((s[p].toNat : Int) == 10)) = false := by rw [← unhide hbe]; exact hB'
      have b1 : ((s[p].toNat : Int) == 32) = false := by cases h : ((s[p].toNat : Int) == 32) <;> simp [h] at hbb ⊢
      have b2 : ((s[p].toNat : Int) == 9) = false := by cases h : ((s[p].toNat : Int) == 9) <;> simp [h] at hbb ⊢
      have b3 : ((s[p].toNat : Int) == 10) = false := by cases h : ((s[p].toNat : Int) == 10) <;> simp [h] at hbb ⊢
      have c1 : ¬ (s[p].toNat : Int) = 32 := by simpa using b1
      have c2 : ¬ (s[p].toNat : Int) = 9 := by simpa using b2
      have c3 : ¬ (s[p].toNat : Int) = 10 := by simpa using b3
      have hbd : (((s[p].toNat : Int) == 32) = false ∧ ((s[p].toNat : Int) == 9) = false) ∧ ((s[p].toNat : Int) == 10) = false := ⟨⟨b1, b2⟩, b3⟩
      have hbg : ¬ (((s[p].toNat : Int) = 32 ∨ (s[p].toNat : Int) = 9) ∨ (s[p].toNat : Int) = 10) := by rintro ((h | h) | h) <;> contradiction
      have hbh : ¬ ((((s[p].toNat : Int) == 32) = true ∨ ((s[p].toNat : Int) == 9) = true) ∨ ((s[p].toNat : Int) == 10) = true) := by rw [b1, b2, b3]; simp
      clear hblank hB hB'
      by_cases h300 : acc.length = 300
      · have e3 : ((acc.length : Int) == 300) = true := by rw [h300]; rfl
        have hd := hide (lexAt_many (unhide hin) (unhide hpl) (unhide hb) h300)
        clear h300
        go_wp2
        go_ret3
        exact LexTP.mk _ [] p 6 (unhide hd) (unhide hlit2) (nx_al hnx)
      have e3 : ((acc.length : Int) == 300) = false := beq_eq_false_iff_ne.2 (by omega)
      have hform := hide (fun h => lexAt_form (unhide hin) (unhide hpl) (unhide hb) h300 h)
      have htok := hide (fun k t n h => lexAt_tok (k := k) (t := t) (n := n) (unhide hin) (unhide hpl) (unhide hb) h300 h)
      clear h300
      cases hx : nextT (s.data.toList.drop p) with
      | none =>
        have hd := hide (unhide hform hx)
        have HX := hide hx
        clear hx hform htok hlit2
        go_wp2_with fail
        refine (l02Next_is s p _ hs hlt none HX).mono ?_
        rintro e w1 ⟨rfl, hb1⟩
        rw [nextV_no]
        have hnx1 := hide (nx_trans hnx hb1)
        clear hb1
        go_wp2
        go_ret3
        exact LexTP.mk _ [] p 3 (unhide hd) (by have h9 := TokBuf.lit0 (w1.alloc (.cells #[.int .i64 0, .int .i64 0, .string ⟨#[]⟩] 169)) w.heap.size (by have := (unhide hnx1).size; simp; omega); simpa using h9) (nx_al (nx_al (unhide hnx1)))
      | some y =>
        obtain ⟨k, t, n⟩ := y
        have hd := hide (unhide htok k t n hx)
        obtain ⟨hn0, hns⟩ := next_pos hlt hx
        have HX := hide hx
        clear hx hform htok hlit2
        go_wp2_with fail
        refine (l02Next_is s p _ hs hlt (some (k, t, n)) HX).mono ?_
        rintro e w1 ⟨rfl, hb1⟩
        rw [nextV_yes]
        have hnx1 := hide (nx_trans hnx hb1)
        have hown1 := hide (hown.later hb1)
        clear hb1 hown
        go_wp2_with (at_builtin; refine wp_appK _ rfl _ _ rfl w.heap.size (w1.heap.size + 1) _ acc (tokV k p t) rfl (TokBuf.alloc (TokBuf.alloc (unhide hown1) _) _) rfl ?c0 ?c1 ?c2 ?c5 ?c3 ?c6)
        case c0 => exact (cell_new (by simp)).1
        case c1 => exact (cell_new (by simp)).2.1
        case c2 => exact (cell_new (by simp)).2.2
        case c5 => have := (unhide hnx1).size; first | omega | (simp; omega)
        case c3 => omega
        case c6 =>
          intro v3 w3 hown3 hb3
          have hnx3 : Below w.heap.size w w3 := (((unhide hnx1).alloc (unhide hnx1).size _).alloc (by have := (unhide hnx1).size; simp; omega) _).trans hb3
          have HO3 := hide hown3
          have hN3 := hide hnx3
          clear hown3 hb3 hnx3
          go_wp2
          go_roundw
          case rel => exact ⟨p + n, acc ++ [tokV k p t], hns, rfl, hide (unhide hd), unhide HO3, unhide hN3⟩
          case measure => simp [intOf]; omega
    · have hlt' : ¬ (p : Int) < (s.size : Int) := by omega
      have hd := hide (lexAt_done (unhide hin) (by rw [size_list]; omega))
      have HO := hide hown
      clear hown hlit2
      go_wp2
      go_ret3
      exact LexTP.mk _ acc 0 0 (unhide hd) (unhide HO) hnx

theorem l02Lex_any (s : ByteArray) (w : World) (h6 : s.size ≤ 600) : Calls Tryd.prog 105 #[.string s] w (LexPost s w) :=
  (l02Lex_wide s w (by omega)).mono fun e w' ⟨v, vs, p, c, h0, h1, h2, h3⟩ => ⟨v, vs, p, c, h0, .inr (.inr ⟨h6, h1⟩), h2, h3⟩

end Go.Proofs.YtbipgmikgokfpaaDoor
