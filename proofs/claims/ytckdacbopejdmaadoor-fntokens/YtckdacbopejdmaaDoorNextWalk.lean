/- The next token, the specification's side: 'spec.l02Next' at a place answers 'nextT' of what stands there. -/
import Derived.Test.YtckdacbopejdmaaDoorBufWalk
import Derived.Test.YtckdacbopejdmaaDoorWordWalk
namespace Go.Proofs.YtckdacbopejdmaaDoor
open Go.RowKit
set_option linter.unusedVariables false

def nextV (p : Nat) : Option (Int × List UInt8 × Nat) → Value
  | some (k, t, n) => .tuple #[.agg #[.int .i64 k, .int .i64 (p : Int), .string ⟨t.toArray⟩], .int .i64 ((p + n : Nat) : Int), .bool true]
  | none => .tuple #[.agg #[.int .i64 0, .int .i64 0, .string ⟨#[]⟩], .int .i64 (p : Int), .bool false]

theorem takeW_stop (q : UInt8 → Bool) : ∀ (l : List UInt8) (n : Nat), (∀ x ∈ l.take n, q x = true) → (∀ c, l[n]? = some c → q c = false) → l.takeWhile q = l.take n := by
  intro l
  induction l with
  | nil => intro n _ _; simp
  | cons a l ih =>
    intro n h1 h2
    cases n with
    | zero => have := h2 a rfl; simp [this]
    | succ n =>
      rw [List.takeWhile_cons, if_pos (h1 a (by simp)), List.take_succ_cons, ih n (fun x hx => h1 x (by simp [hx])) (fun c hc => h2 c (by simpa using hc))]
theorem extract_list (s : ByteArray) (p k : Nat) : (s.extract p k).data.toList = (s.data.toList.drop p).take (k - p) := by
  rw [ByteArray.data_extract, Array.toList_extract, List.extract_eq_take_drop]
theorem get_list (s : ByteArray) (j : Nat) : s.data.toList[j]? = if h : j < s.size then some s[j] else none := by
  split
  · rename_i h
    rw [List.getElem?_eq_getElem (by rw [size_list]; exact h)]; rfl
  · rename_i h
    exact List.getElem?_eq_none (by rw [size_list]; omega)
/-- all bytes behind p and below k are such -/
def RunTo (q : UInt8 → Bool) (s : ByteArray) (p k : Nat) : Prop := ∀ j (h : j < s.size), p < j → j < k → q s[j] = true
theorem RunTo.succ {q : UInt8 → Bool} {s : ByteArray} {p k : Nat} (h : RunTo q s p k) (hk : k < s.size) (hq : q s[k] = true) : RunTo q s p (k + 1) := by
  intro j hj h1 h2
  by_cases e : j = k
  · subst e; exact hq
  · exact h j hj h1 (by omega)
theorem run_stop {q : UInt8 → Bool} {s : ByteArray} {p k : Nat} (hp : p < s.size) (hk1 : p + 1 ≤ k) (hk : k ≤ s.size) (h : RunTo q s p k) (hs : ∀ hlt : k < s.size, q s[k] = false) :
    s.data.toList.drop p = s[p] :: s.data.toList.drop (p + 1) ∧ s[p] :: (s.data.toList.drop (p + 1)).takeWhile q = (s.extract p k).data.toList ∧ (s.extract p k).data.toList.length = k - p := by
  refine ⟨drop_at s p hp, ?_, ?_⟩
  · rw [takeW_stop q _ (k - (p + 1)), extract_list, drop_at s p hp, show k - p = (k - (p + 1)) + 1 by omega, List.take_succ_cons]
    · intro x hx
      obtain ⟨j, hj, rfl⟩ := List.mem_iff_getElem.1 hx
      simp only [List.length_take, List.length_drop, size_list] at hj
      simp only [List.getElem_take, List.getElem_drop]
      exact h (p + 1 + j) (by omega) (by omega) (by omega)
    · intro c hc
      rw [List.getElem?_drop, show p + 1 + (k - (p + 1)) = k by omega, get_list] at hc
      split at hc
      · rename_i hlt
        have e := Option.some.inj hc
        rw [← e]; exact hs hlt
      · cases hc
  · rw [extract_list, List.length_take, List.length_drop, size_list]; omega

def Z70 : Obj := .cells #[.int .i64 0, .int .i64 0, .string ⟨#[]⟩] 44
theorem z70_cells {w wx : World} (h : Below (w.heap.size + 1) (w.alloc (.cells #[.int .i64 0, .int .i64 0, .string ⟨#[]⟩] 44)) wx) : (∀ b o, b < w.heap.size + 1 → wx.cell? ⟨b, o, none⟩ = (w.alloc (.cells #[.int .i64 0, .int .i64 0, .string ⟨#[]⟩] 44)).cell? ⟨b, o, none⟩) ∧ (∀ b o, b < w.heap.size + 1 → wx.frozen? ⟨b, o, none⟩ = (w.alloc (.cells #[.int .i64 0, .int .i64 0, .string ⟨#[]⟩] 44)).frozen? ⟨b, o, none⟩) := by
  obtain ⟨h1, h2⟩ := bcell (W := w.alloc (.cells #[.int .i64 0, .int .i64 0, .string ⟨#[]⟩] 44)) (by simpa using h)
  exact ⟨fun b o hb => h1 b o (by simpa using hb), fun b o hb => h2 b o (by simpa using hb)⟩

theorem l00Number_is (s : ByteArray) (w : World) (n : Int) (b : Bool) (hs : s.size ≤ maxLen) (h : numP s.data.toList = (n, b)) :
    Calls Tryd.prog 89 #[.string s] w fun e w' => e = .returned (.tuple #[.int .i64 n, .bool b]) ∧ w' = w := by
  have := l00Number_any s w hs
  rw [h] at this
  exact this
theorem ext_size (s : ByteArray) (p k : Nat) (hs : s.size ≤ 65536) : (s.extract p k).size ≤ maxLen := by
  rw [ByteArray.size_extract]; unfold maxLen; omega
theorem nextV_none {p : Nat} {x : Option (Int × List UInt8 × Nat)} (h : x = none) : nextV p none = nextV p x := by rw [h]
theorem nextV_some {p k : Nat} {kd : Int} {s : ByteArray} {x : Option (Int × List UInt8 × Nat)} (h : x = some (kd, (s.extract p k).data.toList, k - p)) (hk : p ≤ k) :
    Value.tuple #[.agg #[.int .i64 kd, .int .i64 (p : Int), .string (s.extract p k)], .int .i64 (k : Int), .bool true] = nextV p x := by
  rw [h]
  show _ = Value.tuple #[.agg #[.int .i64 kd, .int .i64 (p : Int), .string (s.extract p k)], .int .i64 ((p + (k - p) : Nat) : Int), .bool true]
  rw [show p + (k - p) = k by omega]

set_option maxHeartbeats 4000000 in
set_option maxRecDepth 100000 in
theorem l02Next_letter (s : ByteArray) (p : Nat) (w : World) (hs : s.size ≤ 65536) (hp : p < s.size) (h0 : letB (s[p].toNat : Int) = true) :
    Calls Tryd.prog 87 #[.string s, .int .i64 (p : Int)] w fun e w' => e = .returned (nextV p (nextT (s.data.toList.drop p))) ∧ Below w.heap.size w w' := by
  have hp0 : ¬ (p : Int) < 0 := by omega
  have hp1 : (p : Int) < (s.size : Int) := by omega
  go_enter Tryd.func87, Tryd.ntmps87
  go_wp2_with (first | (go_at_call 101; refine (l00Letter_any _ _).mono ?_; rintro e wr ⟨rfl, rfl⟩) | (go_at_call 102; refine (l00Digit_any _ _).mono ?_; rintro e wr ⟨rfl, rfl⟩))
  go_loop [8] (fun i => ∃ k : Nat, p + 1 ≤ k ∧ k ≤ s.size ∧ i = .int .i64 k ∧ Hid (RunTo nmb s p k)) (fun i => s.size - (intOf i).toNat)
  case atStart => exact ⟨p + 1, by omega, by omega, by go_num, hide (fun j _ h1 h2 => by omega)⟩
  case round =>
    obtain ⟨k, hk1, hk, rfl, hto⟩ := hrel
    by_cases hlt : k < s.size
    · have hk0 : ¬ (k : Int) < 0 := by omega
      have hlt' : (k : Int) < (s.size : Int) := by omega
      cases hL : letB (s[k].toNat : Int)
      · cases hD : digB (s[k].toNat : Int)
        · have hq : nmb s[k] = false := by simp [nmb, hL, hD]
          have hst := hide (run_stop hp hk1 hk (unhide hto) (fun _ => hq))
          clear hto
          have hx := hide (ext_size s p k hs)
          by_cases h20 : 20 < k - p
          · have hd := hide (show nextT (s.data.toList.drop p) = none by
              obtain ⟨e1, e2, e3⟩ := unhide hst
              rw [e1, nextT_let _ _ h0, e2, e3, if_neg (by omega)])
            have h20' : 20 < (k : Int) - (p : Int) := by omega
            clear hst
            go_wp2_with (first | (go_at_call 101; refine (l00Letter_any _ _).mono ?_; rintro e wr ⟨rfl, rfl⟩) | (go_at_call 102; refine (l00Digit_any _ _).mono ?_; rintro e wr ⟨rfl, rfl⟩))
            exact bodyPost_ret (v := nextV p none) (by simp [results, Tryd.results87, go_sem, nextV]) rfl ⟨congrArg Ending.returned (nextV_none (unhide hd)), (by repeat (first | exact Below.refl _ _ | refine nx_al ?_ | refine nx_set ?_ (by first | omega | (simp <;> omega)) | refine nx_drew ?_ | refine nx_trans ?_ (unhide (by assumption))))⟩
          · have hd := hide (show nextT (s.data.toList.drop p) = some (if wordB (s.extract p k).data.toList = true then 2 else 1, (s.extract p k).data.toList, k - p) by
              obtain ⟨e1, e2, e3⟩ := unhide hst
              rw [e1, nextT_let _ _ h0, e2, e3, if_pos (by omega)])
            have h20' : ¬ 20 < (k : Int) - (p : Int) := by omega
            have hkp : (p : Int) ≤ (k : Int) := by omega
            have hks : (k : Int) ≤ (s.size : Int) := by omega
            clear hst
            go_wp2_with (first | (go_at_call 101; refine (l00Letter_any _ _).mono ?_; rintro e wr ⟨rfl, rfl⟩) | (go_at_call 102; refine (l00Digit_any _ _).mono ?_; rintro e wr ⟨rfl, rfl⟩))
            refine (specWordOK_any (s.extract p k) _ (unhide hx)).mono ?_
            rintro e w1 ⟨rfl, hb1⟩
            obtain ⟨hc, hf⟩ := z70_cells (w := w) (wx := w1) (by simpa using hb1)
            have hz : w.heap.size < w1.heap.size := by have := hb1.size; simp at this; omega
            have hb1' := hide hb1
            clear hb1
            cases hW : wordB (s.extract p k).data.toList
            · rw [hW] at hd
              go_wp2
              exact bodyPost_ret (v := Value.tuple #[.agg #[.int .i64 1, .int .i64 (p : Int), .string (s.extract p k)], .int .i64 (k : Int), .bool true]) (by simp [results, Tryd.results87, go_sem, hc]) rfl ⟨congrArg Ending.returned (nextV_some (by rw [unhide hd]; rfl) (by omega)), (by repeat (first | exact Below.refl _ _ | refine nx_al ?_ | refine nx_set ?_ (by first | omega | (simp <;> omega)) | refine nx_drew ?_ | refine nx_trans ?_ (unhide (by assumption))))⟩
            · rw [hW] at hd
              go_wp2
              exact bodyPost_ret (v := Value.tuple #[.agg #[.int .i64 2, .int .i64 (p : Int), .string (s.extract p k)], .int .i64 (k : Int), .bool true]) (by simp [results, Tryd.results87, go_sem, hc]) rfl ⟨congrArg Ending.returned (nextV_some (by rw [unhide hd]; rfl) (by omega)), (by repeat (first | exact Below.refl _ _ | refine nx_al ?_ | refine nx_set ?_ (by first | omega | (simp <;> omega)) | refine nx_drew ?_ | refine nx_trans ?_ (unhide (by assumption))))⟩
        · have hsuc := hide ((unhide hto).succ hlt (by simp [nmb, hD]))
          go_wp2_with (first | (go_at_call 101; refine (l00Letter_any _ _).mono ?_; rintro e wr ⟨rfl, rfl⟩) | (go_at_call 102; refine (l00Digit_any _ _).mono ?_; rintro e wr ⟨rfl, rfl⟩))
          go_round
          case rel => exact ⟨k + 1, by omega, by omega, by go_num, unhide hsuc⟩
          case measure => simp [intOf]; omega
      · have hsuc := hide ((unhide hto).succ hlt (by simp [nmb, hL]))
        go_wp2_with (first | (go_at_call 101; refine (l00Letter_any _ _).mono ?_; rintro e wr ⟨rfl, rfl⟩) | (go_at_call 102; refine (l00Digit_any _ _).mono ?_; rintro e wr ⟨rfl, rfl⟩))
        go_round
        case rel => exact ⟨k + 1, by omega, by omega, by go_num, unhide hsuc⟩
        case measure => simp [intOf]; omega
    · have hlt' : ¬ (k : Int) < (s.size : Int) := by omega
      have hst := hide (run_stop hp hk1 hk (unhide hto) (fun h => absurd h hlt))
      clear hto
      have hx := hide (ext_size s p k hs)
      by_cases h20 : 20 < k - p
      · have hd := hide (show nextT (s.data.toList.drop p) = none by
          obtain ⟨e1, e2, e3⟩ := unhide hst
          rw [e1, nextT_let _ _ h0, e2, e3, if_neg (by omega)])
        have h20' : 20 < (k : Int) - (p : Int) := by omega
        clear hst
        go_wp2_with (first | (go_at_call 101; refine (l00Letter_any _ _).mono ?_; rintro e wr ⟨rfl, rfl⟩) | (go_at_call 102; refine (l00Digit_any _ _).mono ?_; rintro e wr ⟨rfl, rfl⟩))
        exact bodyPost_ret (v := nextV p none) (by simp [results, Tryd.results87, go_sem, nextV]) rfl ⟨congrArg Ending.returned (nextV_none (unhide hd)), (by repeat (first | exact Below.refl _ _ | refine nx_al ?_ | refine nx_set ?_ (by first | omega | (simp <;> omega)) | refine nx_drew ?_ | refine nx_trans ?_ (unhide (by assumption))))⟩
      · have hd := hide (show nextT (s.data.toList.drop p) = some (if wordB (s.extract p k).data.toList = true then 2 else 1, (s.extract p k).data.toList, k - p) by
          obtain ⟨e1, e2, e3⟩ := unhide hst
          rw [e1, nextT_let _ _ h0, e2, e3, if_pos (by omega)])
        have h20' : ¬ 20 < (k : Int) - (p : Int) := by omega
        have hkp : (p : Int) ≤ (k : Int) := by omega
        have hks : (k : Int) ≤ (s.size : Int) := by omega
        clear hst
        go_wp2_with (first | (go_at_call 101; refine (l00Letter_any _ _).mono ?_; rintro e wr ⟨rfl, rfl⟩) | (go_at_call 102; refine (l00Digit_any _ _).mono ?_; rintro e wr ⟨rfl, rfl⟩))
        refine (specWordOK_any (s.extract p k) _ (unhide hx)).mono ?_
        rintro e w1 ⟨rfl, hb1⟩
        obtain ⟨hc, hf⟩ := z70_cells (w := w) (wx := w1) (by simpa using hb1)
        have hz : w.heap.size < w1.heap.size := by have := hb1.size; simp at this; omega
        have hb1' := hide hb1
        clear hb1
        cases hW : wordB (s.extract p k).data.toList
        · rw [hW] at hd
          go_wp2
          exact bodyPost_ret (v := Value.tuple #[.agg #[.int .i64 1, .int .i64 (p : Int), .string (s.extract p k)], .int .i64 (k : Int), .bool true]) (by simp [results, Tryd.results87, go_sem, hc]) rfl ⟨congrArg Ending.returned (nextV_some (by rw [unhide hd]; rfl) (by omega)), (by repeat (first | exact Below.refl _ _ | refine nx_al ?_ | refine nx_set ?_ (by first | omega | (simp <;> omega)) | refine nx_drew ?_ | refine nx_trans ?_ (unhide (by assumption))))⟩
        · rw [hW] at hd
          go_wp2
          exact bodyPost_ret (v := Value.tuple #[.agg #[.int .i64 2, .int .i64 (p : Int), .string (s.extract p k)], .int .i64 (k : Int), .bool true]) (by simp [results, Tryd.results87, go_sem, hc]) rfl ⟨congrArg Ending.returned (nextV_some (by rw [unhide hd]; rfl) (by omega)), (by repeat (first | exact Below.refl _ _ | refine nx_al ?_ | refine nx_set ?_ (by first | omega | (simp <;> omega)) | refine nx_drew ?_ | refine nx_trans ?_ (unhide (by assumption))))⟩

set_option maxHeartbeats 4000000 in
set_option maxRecDepth 100000 in
theorem l02Next_digit (s : ByteArray) (p : Nat) (w : World) (hs : s.size ≤ 65536) (hp : p < s.size) (hl0 : letB (s[p].toNat : Int) = false) (h0 : digB (s[p].toNat : Int) = true) :
    Calls Tryd.prog 87 #[.string s, .int .i64 (p : Int)] w fun e w' => e = .returned (nextV p (nextT (s.data.toList.drop p))) ∧ Below w.heap.size w w' := by
  have hp0 : ¬ (p : Int) < 0 := by omega
  have hp1 : (p : Int) < (s.size : Int) := by omega
  go_enter Tryd.func87, Tryd.ntmps87
  go_wp2_with (first | (go_at_call 101; refine (l00Letter_any _ _).mono ?_; rintro e wr ⟨rfl, rfl⟩) | (go_at_call 102; refine (l00Digit_any _ _).mono ?_; rintro e wr ⟨rfl, rfl⟩))
  go_loop [8] (fun i => ∃ k : Nat, p + 1 ≤ k ∧ k ≤ s.size ∧ i = .int .i64 k ∧ Hid (RunTo dgt s p k)) (fun i => s.size - (intOf i).toNat)
  case atStart => exact ⟨p + 1, by omega, by omega, by go_num, hide (fun j _ h1 h2 => by omega)⟩
  case round =>
    obtain ⟨k, hk1, hk, rfl, hto⟩ := hrel
    by_cases hlt : k < s.size
    · have hk0 : ¬ (k : Int) < 0 := by omega
      have hlt' : (k : Int) < (s.size : Int) := by omega
      cases hD : digB (s[k].toNat : Int)
      · have hq : dgt s[k] = false := hD
        have hst := hide (run_stop hp hk1 hk (unhide hto) (fun _ => hq))
        clear hto
        have hx := hide (ext_size s p k hs)
        have hnum := hide (show numP (s.extract p k).data.toList = digP (s.extract p k).data.toList by
          obtain ⟨e1, e2, e3⟩ := unhide hst
          rw [← e2]
          exact if_neg (by simp; intro e; rw [e] at h0; exact absurd h0 (by decide)))
        have hkp : (p : Int) ≤ (k : Int) := by omega
        have hks : (k : Int) ≤ (s.size : Int) := by omega
        obtain ⟨n, b, hnb⟩ : ∃ n b, digP (s.extract p k).data.toList = (n, b) := ⟨_, _, rfl⟩
        have hnum2 := hide ((unhide hnum).trans hnb)
        have HNB := hide hnb
        clear hnb hnum
        by_cases hok : b = true ∧ n ≤ 2147483647
        · have hd := hide (show nextT (s.data.toList.drop p) = some (3, (s.extract p k).data.toList, k - p) by
            obtain ⟨e1, e2, e3⟩ := unhide hst
            rw [e1, nextT_dig _ _ hl0 h0, e2, e3, unhide HNB, if_pos hok])
          obtain ⟨rfl, hok2⟩ := hok
          clear hst HNB
          go_wp2_with (first | (go_at_call 101; refine (l00Letter_any _ _).mono ?_; rintro e wr ⟨rfl, rfl⟩) | (go_at_call 102; refine (l00Digit_any _ _).mono ?_; rintro e wr ⟨rfl, rfl⟩))
          refine (l00Number_is (s.extract p k) _ n true (unhide hx) (unhide hnum2)).mono ?_
          rintro e wr ⟨rfl, rfl⟩
          go_wp2
          exact bodyPost_ret (v := Value.tuple #[.agg #[.int .i64 3, .int .i64 (p : Int), .string (s.extract p k)], .int .i64 (k : Int), .bool true]) (by simp [results, Tryd.results87, go_sem]) rfl ⟨congrArg Ending.returned (nextV_some (by rw [unhide hd]) (by omega)), (by repeat (first | exact Below.refl _ _ | refine nx_al ?_ | refine nx_set ?_ (by first | omega | (simp <;> omega)) | refine nx_drew ?_ | refine nx_trans ?_ (unhide (by assumption))))⟩
        · have hd := hide (show nextT (s.data.toList.drop p) = none by
            obtain ⟨e1, e2, e3⟩ := unhide hst
            rw [e1, nextT_dig _ _ hl0 h0, e2, e3, unhide HNB, if_neg hok])
          clear hst HNB
          cases b
          · clear hok
            go_wp2_with (first | (go_at_call 101; refine (l00Letter_any _ _).mono ?_; rintro e wr ⟨rfl, rfl⟩) | (go_at_call 102; refine (l00Digit_any _ _).mono ?_; rintro e wr ⟨rfl, rfl⟩))
            refine (l00Number_is (s.extract p k) _ n false (unhide hx) (unhide hnum2)).mono ?_
            rintro e wr ⟨rfl, rfl⟩
            go_wp2
            exact bodyPost_ret (v := nextV p none) (by simp [results, Tryd.results87, go_sem, nextV]) rfl ⟨congrArg Ending.returned (nextV_none (unhide hd)), (by repeat (first | exact Below.refl _ _ | refine nx_al ?_ | refine nx_set ?_ (by first | omega | (simp <;> omega)) | refine nx_drew ?_ | refine nx_trans ?_ (unhide (by assumption))))⟩
          · have hok2 : 2147483647 < n := by
              simp at hok
              omega
            clear hok
            go_wp2_with (first | (go_at_call 101; refine (l00Letter_any _ _).mono ?_; rintro e wr ⟨rfl, rfl⟩) | (go_at_call 102; refine (l00Digit_any _ _).mono ?_; rintro e wr ⟨rfl, rfl⟩))
            refine (l00Number_is (s.extract p k) _ n true (unhide hx) (unhide hnum2)).mono ?_
            rintro e wr ⟨rfl, rfl⟩
            go_wp2
            exact bodyPost_ret (v := nextV p none) (by simp [results, Tryd.results87, go_sem, nextV]) rfl ⟨congrArg Ending.returned (nextV_none (unhide hd)), (by repeat (first | exact Below.refl _ _ | refine nx_al ?_ | refine nx_set ?_ (by first | omega | (simp <;> omega)) | refine nx_drew ?_ | refine nx_trans ?_ (unhide (by assumption))))⟩
      · have hsuc := hide ((unhide hto).succ hlt hD)
        go_wp2_with (first | (go_at_call 101; refine (l00Letter_any _ _).mono ?_; rintro e wr ⟨rfl, rfl⟩) | (go_at_call 102; refine (l00Digit_any _ _).mono ?_; rintro e wr ⟨rfl, rfl⟩))
        go_round
        case rel => exact ⟨k + 1, by omega, by omega, by go_num, unhide hsuc⟩
        case measure => simp [intOf]; omega
    · have hlt' : ¬ (k : Int) < (s.size : Int) := by omega
      have hst := hide (run_stop hp hk1 hk (unhide hto) (fun h => absurd h hlt))
      clear hto
      have hx := hide (ext_size s p k hs)
      have hnum := hide (show numP (s.extract p k).data.toList = digP (s.extract p k).data.toList by
        obtain ⟨e1, e2, e3⟩ := unhide hst
        rw [← e2]
        exact if_neg (by simp; intro e; rw [e] at h0; exact absurd h0 (by decide)))
      have hkp : (p : Int) ≤ (k : Int) := by omega
      have hks : (k : Int) ≤ (s.size : Int) := by omega
      obtain ⟨n, b, hnb⟩ : ∃ n b, digP (s.extract p k).data.toList = (n, b) := ⟨_, _, rfl⟩
      have hnum2 := hide ((unhide hnum).trans hnb)
      have HNB := hide hnb
      clear hnb hnum
      by_cases hok : b = true ∧ n ≤ 2147483647
      · have hd := hide (show nextT (s.data.toList.drop p) = some (3, (s.extract p k).data.toList, k - p) by
          obtain ⟨e1, e2, e3⟩ := unhide hst
          rw [e1, nextT_dig _ _ hl0 h0, e2, e3, unhide HNB, if_pos hok])
        obtain ⟨rfl, hok2⟩ := hok
        clear hst HNB
        go_wp2_with (first | (go_at_call 101; refine (l00Letter_any _ _).mono ?_; rintro e wr ⟨rfl, rfl⟩) | (go_at_call 102; refine (l00Digit_any _ _).mono ?_; rintro e wr ⟨rfl, rfl⟩))
        refine (l00Number_is (s.extract p k) _ n true (unhide hx) (unhide hnum2)).mono ?_
        rintro e wr ⟨rfl, rfl⟩
        go_wp2
        exact bodyPost_ret (v := Value.tuple #[.agg #[.int .i64 3, .int .i64 (p : Int), .string (s.extract p k)], .int .i64 (k : Int), .bool true]) (by simp [results, Tryd.results87, go_sem]) rfl ⟨congrArg Ending.returned (nextV_some (by rw [unhide hd]) (by omega)), (by repeat (first | exact Below.refl _ _ | refine nx_al ?_ | refine nx_set ?_ (by first | omega | (simp <;> omega)) | refine nx_drew ?_ | refine nx_trans ?_ (unhide (by assumption))))⟩
      · have hd := hide (show nextT (s.data.toList.drop p) = none by
          obtain ⟨e1, e2, e3⟩ := unhide hst
          rw [e1, nextT_dig _ _ hl0 h0, e2, e3, unhide HNB, if_neg hok])
        clear hst HNB
        cases b
        · clear hok
          go_wp2_with (first | (go_at_call 101; refine (l00Letter_any _ _).mono ?_; rintro e wr ⟨rfl, rfl⟩) | (go_at_call 102; refine (l00Digit_any _ _).mono ?_; rintro e wr ⟨rfl, rfl⟩))
          refine (l00Number_is (s.extract p k) _ n false (unhide hx) (unhide hnum2)).mono ?_
          rintro e wr ⟨rfl, rfl⟩
          go_wp2
          exact bodyPost_ret (v := nextV p none) (by simp [results, Tryd.results87, go_sem, nextV]) rfl ⟨congrArg Ending.returned (nextV_none (unhide hd)), (by repeat (first | exact Below.refl _ _ | refine nx_al ?_ | refine nx_set ?_ (by first | omega | (simp <;> omega)) | refine nx_drew ?_ | refine nx_trans ?_ (unhide (by assumption))))⟩
        · have hok2 : 2147483647 < n := by
            simp at hok
            omega
          clear hok
          go_wp2_with (first | (go_at_call 101; refine (l00Letter_any _ _).mono ?_; rintro e wr ⟨rfl, rfl⟩) | (go_at_call 102; refine (l00Digit_any _ _).mono ?_; rintro e wr ⟨rfl, rfl⟩))
          refine (l00Number_is (s.extract p k) _ n true (unhide hx) (unhide hnum2)).mono ?_
          rintro e wr ⟨rfl, rfl⟩
          go_wp2
          exact bodyPost_ret (v := nextV p none) (by simp [results, Tryd.results87, go_sem, nextV]) rfl ⟨congrArg Ending.returned (nextV_none (unhide hd)), (by repeat (first | exact Below.refl _ _ | refine nx_al ?_ | refine nx_set ?_ (by first | omega | (simp <;> omega)) | refine nx_drew ?_ | refine nx_trans ?_ (unhide (by assumption))))⟩

end Go.Proofs.YtckdacbopejdmaaDoor
