/- A bundle. -/
import Derived.Test.YtbipgmikgokfpaaDoorBufWalk
import Derived.Test.YtbipgmikgokfpaaDoorWordWalk
import Derived.Test.YtbipgmikgokfpaaDoorTreeLaw1

/- NextWalk -/
namespace Go.Proofs.YtbipgmikgokfpaaDoor
open Go.RowKit
set_option linter.unusedVariables false

def nextV (p : Nat) : Option (Int × List UInt8 × Nat) → Value
  | some (k, t, n) => .tuple #[.agg #[.int .i64 k, .int .i64 (p : Int), .string ⟨t.toArray⟩], .int .i64 ((p + n : Nat) : Int), .bool true]
  | none => .tuple #[.agg #[.int .i64 0, .int .i64 0, .string ⟨#[]⟩], .int .i64 (p : Int), .bool false]

theorem takeW_stop (q : UInt8 → Bool) : ∀ (l : List UInt8) (n : Nat), (∀ x ∈ l.take n, q x = true) → (∀ c, l[n]? = some c → q c = false) → l.takeWhile q = l.take n := by
  intro l
  induction l with
  | nil => intro n _ _; simp
  | cons a l ih =>
    intro n h1 h2
    cases n with
    | zero => have := h2 a rfl; simp [this]
    | succ n =>
      rw [List.takeWhile_cons, if_pos (h1 a (by simp)), List.take_succ_cons, ih n (fun x hx => h1 x (by simp [hx])) (fun c hc => h2 c (by simpa using hc))]
theorem extract_list (s : ByteArray) (p k : Nat) : (s.extract p k).data.toList = (s.data.toList.drop p).take (k - p) := by
  rw [ByteArray.data_extract, Array.toList_extract, List.extract_eq_take_drop]
theorem get_list (s : ByteArray) (j : Nat) : s.data.toList[j]? = if h : j < s.size then some s[j] else none := by
  split
  · rename_i h
    rw [List.getElem?_eq_getElem (by rw [size_list]; exact h)]; rfl
  · rename_i h
    exact List.getElem?_eq_none (by rw [size_list]; omega)
/-- all bytes behind p and below k are such -/
def RunTo (q : UInt8 → Bool) (s : ByteArray) (p k : Nat) : Prop := ∀ j (h : j < s.size), p < j → j < k → q s[j] = true
theorem RunTo.succ {q : UInt8 → Bool} {s : ByteArray} {p k : Nat} (h : RunTo q s p k) (hk : k < s.size) (hq : q s[k] = true) : RunTo q s p (k + 1) := by
  intro j hj h1 h2
  by_cases e : j = k
  · subst e; exact hq
  · exact h j hj h1 (by omega)
theorem run_stop {q : UInt8 → Bool} {s : ByteArray} {p k : Nat} (hp : p < s.size) (hk1 : p + 1 ≤ k) (hk : k ≤ s.size) (h : RunTo q s p k) (hs : ∀ hlt : k < s.size, q s[k] = false) :
    s.data.toList.drop p = s[p] :: s.data.toList.drop (p + 1) ∧ s[p] :: (s.data.toList.drop (p + 1)).takeWhile q = (s.extract p k).data.toList ∧ (s.extract p k).data.toList.length = k - p := by
  refine ⟨drop_at s p hp, ?_, ?_⟩
  · rw [takeW_stop q _ (k - (p + 1)), extract_list, drop_at s p hp, show k - p = (k - (p + 1)) + 1 by omega, List.take_succ_cons]
    · intro x hx
      obtain ⟨j, hj, rfl⟩ := List.mem_iff_getElem.1 hx
      simp only [List.length_take, List.length_drop, size_list] at hj
      simp only [List.getElem_take, List.getElem_drop]
      exact h (p + 1 + j) (by omega) (by omega) (by omega)
    · intro c hc
      rw [List.getElem?_drop, show p + 1 + (k - (p + 1)) = k by omega, get_list] at hc
      split at hc
      · rename_i hlt
        have e := Option.some.inj hc
        rw [← e]; exact hs hlt
      · cases hc
  · rw [extract_list, List.length_take, List.length_drop, size_list]; omega

def Z70 : Obj := .cells #[.int .i64 0, .int .i64 0, .string ⟨#[]⟩] 169
theorem z70_cells {w wx : World} (h : Below (w.heap.size + 1) (w.alloc (.cells #[.int .i64 0, .int .i64 0, .string ⟨#[]⟩] 169)) wx) : (∀ b o, b < w.heap.size + 1 → wx.cell? ⟨b, o, none⟩ = (w.alloc (.cells #[.int .i64 0, .int .i64 0, .string ⟨#[]⟩] 169)).cell? ⟨b, o, none⟩) ∧ (∀ b o, b < w.heap.size + 1 → wx.frozen? ⟨b, o, none⟩ = (w.alloc (.cells #[.int .i64 0, .int .i64 0, .string ⟨#[]⟩] 169)).frozen? ⟨b, o, none⟩) := by
  obtain ⟨h1, h2⟩ := bcell (W := w.alloc (.cells #[.int .i64 0, .int .i64 0, .string ⟨#[]⟩] 169)) (by simpa using h)
  exact ⟨fun b o hb => h1 b o (by simpa using hb), fun b o hb => h2 b o (by simpa using hb)⟩

theorem l00Number_is (s : ByteArray) (w : World) (n : Int) (b : Bool) (hs : s.size ≤ maxLen) (h : numP s.data.toList = (n, b)) :
    Calls Tryd.prog 165 #[.string s] w fun e w' => e = .returned (.tuple #[.int .i64 n, .bool b]) ∧ w' = w := by
  have := l00Number_any s w hs
  rw [h] at this
  exact this
theorem ext_size (s : ByteArray) (p k : Nat) (hs : s.size ≤ 65536) : (s.extract p k).size ≤ maxLen := by
  rw [ByteArray.size_extract]; unfold maxLen; omega
theorem nextV_none {p : Nat} {x : Option (Int × List UInt8 × Nat)} (h : x = none) : nextV p none = nextV p x := by rw [h]
theorem nextV_some {p k : Nat} {kd : Int} {s : ByteArray} {x : Option (Int × List UInt8 × Nat)} (h : x = some (kd, (s.extract p k).data.toList, k - p)) (hk : p ≤ k) :
    Value.tuple #[.agg #[.int .i64 kd, .int .i64 (p : Int), .string (s.extract p k)], .int .i64 (k : Int), .bool true] = nextV p x := by
  rw [h]
  show _ = Value.tuple #[.agg #[.int .i64 kd, .int .i64 (p : Int), .string (s.extract p k)], .int .i64 ((p + (k - p) : Nat) : Int), .bool true]
  rw [show p + (k - p) = k by omega]

set_option maxHeartbeats 4000000 in
set_option maxRecDepth 100000 in
theorem l02Next_letter (s : ByteArray) (p : Nat) (w : World) (hs : s.size ≤ 65536) (hp : p < s.size) (h0 : letB (s[p].toNat : Int) = true) :
    Calls Tryd.prog 136 #[.string s, .int .i64 (p : Int)] w fun e w' => e = .returned (nextV p (nextT (s.data.toList.drop p))) ∧ Below w.heap.size w w' := by
  have hp0 : ¬ (p : Int) < 0 := by omega
  have hp1 : (p : Int) < (s.size : Int) := by omega
  go_enter Tryd.func136, Tryd.ntmps136
  go_wp2_with (first | (go_at_call 162; refine (l00Letter_any _ _).mono ?_; rintro e wr ⟨rfl, rfl⟩) | (go_at_call 163; refine (l00Digit_any _ _).mono ?_; rintro e wr ⟨rfl, rfl⟩))
  go_loop [8] (fun i => ∃ k : Nat, p + 1 ≤ k ∧ k ≤ s.size ∧ i = .int .i64 k ∧ Hid (RunTo nmb s p k)) (fun i => s.size - (intOf i).toNat)
  case atStart => exact ⟨p + 1, by omega, by omega, by go_num, hide (fun j _ h1 h2 => by omega)⟩
  case round =>
    obtain ⟨k, hk1, hk, rfl, hto⟩ := hrel
    by_cases hlt : k < s.size
    · have hk0 : ¬ (k : Int) < 0 := by omega
      have hlt' : (k : Int) < (s.size : Int) := by omega
      cases hL : letB (s[k].toNat : Int)
      · cases hD : digB (s[k].toNat : Int)
        · have hq : nmb s[k] = false := by simp [nmb, hL, hD]
          have hst := hide (run_stop hp hk1 hk (unhide hto) (fun _ => hq))
          clear hto
          have hx := hide (ext_size s p k hs)
          by_cases h20 : 20 < k - p
          · have hd := hide (show nextT (s.data.toList.drop p) = none by
              obtain ⟨e1, e2, e3⟩ := unhide hst
              rw [e1, nextT_let _ _ h0, e2, e3, if_neg (by omega)])
            have h20' : 20 < (k : Int) - (p : Int) := by omega
            clear hst
            go_wp2_with (first | (go_at_call 162; refine (l00Letter_any _ _).mono ?_; rintro e wr ⟨rfl, rfl⟩) | (go_at_call 163; refine (l00Digit_any _ _).mono ?_; rintro e wr ⟨rfl, rfl⟩))
            exact bodyPost_ret (v := nextV p none) (by simp [results, Tryd.results136, go_sem, nextV]) rfl ⟨congrArg Ending.returned (nextV_none (unhide hd)), (by repeat (first | exact Below.refl _ _ | refine nx_al ?_ | refine nx_set ?_ (by first | omega | (simp <;> omega)) | refine nx_drew ?_ | refine nx_trans ?_ (unhide (by assumption))))⟩
          · have hd := hide (show nextT (s.data.toList.drop p) = some (if wordB (s.extract p k).data.toList = true then 2 else 1, (s.extract p k).data.toList, k - p) by
              obtain ⟨e1, e2, e3⟩ := unhide hst
              rw [e1, nextT_let _ _ h0, e2, e3, if_pos (by omega)])
            have h20' : ¬ 20 < (k : Int) - (p : Int) := by omega
            have hkp : (p : Int) ≤ (k : Int) := by omega
            have hks : (k : Int) ≤ (s.size : Int) := by omega
            clear hst
            go_wp2_with (first | (go_at_call 162; refine (l00Letter_any _ _).mono ?_; rintro e wr ⟨rfl, rfl⟩) | (go_at_call 163; refine (l00Digit_any _ _).mono ?_; rintro e wr ⟨rfl, rfl⟩))
            refine (specWordOK_any (s.extract p k) _ (unhide hx)).mono ?_
            rintro e w1 ⟨rfl, hb1⟩
            obtain ⟨hc, hf⟩ := z70_cells (w := w) (wx := w1) (by simpa using hb1)
            have hz : w.heap.size < w1.heap.size := by have := hb1.size; simp at this; omega
            have hb1' := hide hb1
            clear hb1
            cases hW : wordB (s.extract p k).data.toList
            · rw [hW] at hd
              go_wp2
              exact bodyPost_ret (v := Value.tuple #[.agg #[.int .i64 1, .int .i64 (p : Int), .string (s.extract p k)], .int .i64 (k : Int), .bool true]) (by simp [results, Tryd.results136, go_sem, hc]) rfl ⟨congrArg Ending.returned (nextV_some (by rw [unhide hd]; rfl) (by omega)), (by repeat (first | exact Below.refl _ _ | refine nx_al ?_ | refine nx_set ?_ (by first | omega | (simp <;> omega)) | refine nx_drew ?_ | refine nx_trans ?_ (unhide (by assumption))))⟩
            · rw [hW] at hd
              go_wp2
              exact bodyPost_ret (v := Value.tuple #[.agg #[.int .i64 2, .int .i64 (p : Int), .string (s.extract p k)], .int .i64 (k : Int), .bool true]) (by simp [results, Tryd.results136, go_sem, hc]) rfl ⟨congrArg Ending.returned (nextV_some (by rw [unhide hd]; rfl) (by omega)), (by repeat (first | exact Below.refl _ _ | refine nx_al ?_ | refine nx_set ?_ (by first | omega | (simp <;> omega)) | refine nx_drew ?_ | refine nx_trans ?_ (unhide (by assumption))))⟩
        · have hsuc := hide ((unhide hto).succ hlt (by simp [nmb, hD]))
          go_wp2_with (first | (go_at_call 162; refine (l00Letter_any _ _).mono ?_; rintro e wr ⟨rfl, rfl⟩) | (go_at_call 163; refine (l00Digit_any _ _).mono ?_; rintro e wr ⟨rfl, rfl⟩))
          go_round
          case rel => exact ⟨k + 1, by omega, by omega, by go_num, unhide hsuc⟩
          case measure => simp [intOf]; omega
      · have hsuc := hide ((unhide hto).succ hlt (by simp [nmb, hL]))
        go_wp2_with (first | (go_at_call 162; refine (l00Letter_any _ _).mono ?_; rintro e wr ⟨rfl, rfl⟩) | (go_at_call 163; refine (l00Digit_any _ _).mono ?_; rintro e wr ⟨rfl, rfl⟩))
        go_round
        case rel => exact ⟨k + 1, by omega, by omega, by go_num, unhide hsuc⟩
        case measure => simp [intOf]; omega
    · have hlt' : ¬ (k : Int) < (s.size : Int) := by omega
      have hst := hide (run_stop hp hk1 hk (unhide hto) (fun h => absurd h hlt))
      clear hto
      have hx := hide (ext_size s p k hs)
      by_cases h20 : 20 < k - p
      · have hd := hide (show nextT (s.data.toList.drop p) = none by
          obtain ⟨e1, e2, e3⟩ := unhide hst
          rw [e1, nextT_let _ _ h0, e2, e3, if_neg (by omega)])
        have h20' : 20 < (k : Int) - (p : Int) := by omega
        clear hst
        go_wp2_with (first | (go_at_call 162; refine (l00Letter_any _ _).mono ?_; rintro e wr ⟨rfl, rfl⟩) | (go_at_call 163; refine (l00Digit_any _ _).mono ?_; rintro e wr ⟨rfl, rfl⟩))
        exact bodyPost_ret (v := nextV p none) (by simp [results, Tryd.results136, go_sem, nextV]) rfl ⟨congrArg Ending.returned (nextV_none (unhide hd)), (by repeat (first | exact Below.refl _ _ | refine nx_al ?_ | refine nx_set ?_ (by first | omega | (simp <;> omega)) | refine nx_drew ?_ | refine nx_trans ?_ (unhide (by assumption))))⟩
      · have hd := hide (show nextT (s.data.toList.drop p) = some (if wordB (s.extract p k).data.toList = true then 2 else 1, (s.extract p k).data.toList, k - p) by
          obtain ⟨e1, e2, e3⟩ := unhide hst
          rw [e1, nextT_let _ _ h0, e2, e3, if_pos (by omega)])
        have h20' : ¬ 20 < (k : Int) - (p : Int) := by omega
        have hkp : (p : Int) ≤ (k : Int) := by omega
        have hks : (k : Int) ≤ (s.size : Int) := by omega
        clear hst
        go_wp2_with (first | (go_at_call 162; refine (l00Letter_any _ _).mono ?_; rintro e wr ⟨rfl, rfl⟩) | (go_at_call 163; refine (l00Digit_any _ _).mono ?_; rintro e wr ⟨rfl, rfl⟩))
        refine (specWordOK_any (s.extract p k) _ (unhide hx)).mono ?_
        rintro e w1 ⟨rfl, hb1⟩
        obtain ⟨hc, hf⟩ := z70_cells (w := w) (wx := w1) (by simpa using hb1)
        have hz : w.heap.size < w1.heap.size := by have := hb1.size; simp at this; omega
        have hb1' := hide hb1
        clear hb1
        cases hW : wordB (s.extract p k).data.toList
        · rw [hW] at hd
          go_wp2
          exact bodyPost_ret (v := Value.tuple #[.agg #[.int .i64 1, .int .i64 (p : Int), .string (s.extract p k)], .int .i64 (k : Int), .bool true]) (by simp [results, Tryd.results136, go_sem, hc]) rfl ⟨congrArg Ending.returned (nextV_some (by rw [unhide hd]; rfl) (by omega)), (by repeat (first | exact Below.refl _ _ | refine nx_al ?_ | refine nx_set ?_ (by first | omega | (simp <;> omega)) | refine nx_drew ?_ | refine nx_trans ?_ (unhide (by assumption))))⟩
        · rw [hW] at hd
          go_wp2
          exact bodyPost_ret (v := Value.tuple #[.agg #[.int .i64 2, .int .i64 (p : Int), .string (s.extract p k)], .int .i64 (k : Int), .bool true]) (by simp [results, Tryd.results136, go_sem, hc]) rfl ⟨congrArg Ending.returned (nextV_some (by rw [unhide hd]; rfl) (by omega)), (by repeat (first | exact Below.refl _ _ | refine nx_al ?_ | refine nx_set ?_ (by first | omega | (simp <;> omega)) | refine nx_drew ?_ | refine nx_trans ?_ (unhide (by assumption))))⟩

set_option maxHeartbeats 4000000 in
set_option maxRecDepth 100000 in
theorem l02Next_digit (s : ByteArray) (p : Nat) (w : World) (hs : s.size ≤ 65536) (hp : p < s.size) (hl0 : letB (s[p].toNat : Int) = false) (h0 : digB (s[p].toNat : Int) = true) :
    Calls Tryd.prog 136 #[.string s, .int .i64 (p : Int)] w fun e w' => e = .returned (nextV p (nextT (s.data.toList.drop p))) ∧ Below w.heap.size w w' := by
  have hp0 : ¬ (p : Int) < 0 := by omega
  have hp1 : (p : Int) < (s.size : Int) := by omega
  go_enter Tryd.func136, Tryd.ntmps136
  go_wp2_with (first | (go_at_call 162; refine (l00Letter_any _ _).mono ?_; rintro e wr ⟨rfl, rfl⟩) | (go_at_call 163; refine (l00Digit_any _ _).mono ?_; rintro e wr ⟨rfl, rfl⟩))
  go_loop [8] (fun i => ∃ k : Nat, p + 1 ≤ k ∧ k ≤ s.size ∧ i = .int .i64 k ∧ Hid (RunTo dgt s p k)) (fun i => s.size - (intOf i).toNat)
  case atStart => exact ⟨p + 1, by omega, by omega, by go_num, hide (fun j _ h1 h2 => by omega)⟩
  case round =>
    obtain ⟨k, hk1, hk, rfl, hto⟩ := hrel
    by_cases hlt : k < s.size
    · have hk0 : ¬ (k : Int) < 0 := by omega
      have hlt' : (k : Int) < (s.size : Int) := by omega
      cases hD : digB (s[k].toNat : Int)
      · have hq : dgt s[k] = false := hD
        have hst := hide (run_stop hp hk1 hk (unhide hto) (fun _ => hq))
        clear hto
        have hx := hide (ext_size s p k hs)
        have hnum := hide (show numP (s.extract p k).data.toList = digP (s.extract p k).data.toList by
          obtain ⟨e1, e2, e3⟩ := unhide hst
          rw [← e2]
          exact if_neg (by simp; intro e; rw [e] at h0; exact absurd h0 (by decide)))
        have hkp : (p : Int) ≤ (k : Int) := by omega
        have hks : (k : Int) ≤ (s.size : Int) := by omega
        obtain ⟨n, b, hnb⟩ : ∃ n b, digP (s.extract p k).data.toList = (n, b) := ⟨_, _, rfl⟩
        have hnum2 := hide ((unhide hnum).trans hnb)
        have HNB := hide hnb
        clear hnb hnum
        by_cases hok : b = true ∧ n ≤ 2147483647
        · have hd := hide (show nextT (s.data.toList.drop p) = some (3, (s.extract p k).data.toList, k - p) by
            obtain ⟨e1, e2, e3⟩ := unhide hst
            rw [e1, nextT_dig _ _ hl0 h0, e2, e3, unhide HNB, if_pos hok])
          obtain ⟨rfl, hok2⟩ := hok
          clear hst HNB
          go_wp2_with (first | (go_at_call 162; refine (l00Letter_any _ _).mono ?_; rintro e wr ⟨rfl, rfl⟩) | (go_at_call 163; refine (l00Digit_any _ _).mono ?_; rintro e wr ⟨rfl, rfl⟩))
          refine (l00Number_is (s.extract p k) _ n true (unhide hx) (unhide hnum2)).mono ?_
          rintro e wr ⟨rfl, rfl⟩
          go_wp2
          exact bodyPost_ret (v := Value.tuple #[.agg #[.int .i64 3, .int .i64 (p : Int), .string (s.extract p k)], .int .i64 (k : Int), .bool true]) (by simp [results, Tryd.results136, go_sem]) rfl ⟨congrArg Ending.returned (nextV_some (by rw [unhide hd]) (by omega)), (by repeat (first | exact Below.refl _ _ | refine nx_al ?_ | refine nx_set ?_ (by first | omega | (simp <;> omega)) | refine nx_drew ?_ | refine nx_trans ?_ (unhide (by assumption))))⟩
        · have hd := hide (show nextT (s.data.toList.drop p) = none by
            obtain ⟨e1, e2, e3⟩ := unhide hst
            rw [e1, nextT_dig _ _ hl0 h0, e2, e3, unhide HNB, if_neg hok])
          clear hst HNB
          cases b
          · clear hok
            go_wp2_with (first | (go_at_call 162; refine (l00Letter_any _ _).mono ?_; rintro e wr ⟨rfl, rfl⟩) | (go_at_call 163; refine (l00Digit_any _ _).mono ?_; rintro e wr ⟨rfl, rfl⟩))
            refine (l00Number_is (s.extract p k) _ n false (unhide hx) (unhide hnum2)).mono ?_
            rintro e wr ⟨rfl, rfl⟩
            go_wp2
            exact bodyPost_ret (v := nextV p none) (by simp [results, Tryd.results136, go_sem, nextV]) rfl ⟨congrArg Ending.returned (nextV_none (unhide hd)), (by repeat (first | exact Below.refl _ _ | refine nx_al ?_ | refine nx_set ?_ (by first | omega | (simp <;> omega)) | refine nx_drew ?_ | refine nx_trans ?_ (unhide (by assumption))))⟩
          · have hok2 : 2147483647 < n := by
              simp at hok
              omega
            clear hok
            go_wp2_with (first | (go_at_call 162; refine (l00Letter_any _ _).mono ?_; rintro e wr ⟨rfl, rfl⟩) | (go_at_call 163; refine (l00Digit_any _ _).mono ?_; rintro e wr ⟨rfl, rfl⟩))
            refine (l00Number_is (s.extract p k) _ n true (unhide hx) (unhide hnum2)).mono ?_
            rintro e wr ⟨rfl, rfl⟩
            go_wp2
            exact bodyPost_ret (v := nextV p none) (by simp [results, Tryd.results136, go_sem, nextV]) rfl ⟨congrArg Ending.returned (nextV_none (unhide hd)), (by repeat (first | exact Below.refl _ _ | refine nx_al ?_ | refine nx_set ?_ (by first | omega | (simp <;> omega)) | refine nx_drew ?_ | refine nx_trans ?_ (unhide (by assumption))))⟩
      · have hsuc := hide ((unhide hto).succ hlt hD)
        go_wp2_with (first | (go_at_call 162; refine (l00Letter_any _ _).mono ?_; rintro e wr ⟨rfl, rfl⟩) | (go_at_call 163; refine (l00Digit_any _ _).mono ?_; rintro e wr ⟨rfl, rfl⟩))
        go_round
        case rel => exact ⟨k + 1, by omega, by omega, by go_num, unhide hsuc⟩
        case measure => simp [intOf]; omega
    · have hlt' : ¬ (k : Int) < (s.size : Int) := by omega
      have hst := hide (run_stop hp hk1 hk (unhide hto) (fun h => absurd h hlt))
      clear hto
      have hx := hide (ext_size s p k hs)
      have hnum := hide (show numP (s.extract p k).data.toList = digP (s.extract p k).data.toList by
        obtain ⟨e1, e2, e3⟩ := unhide hst
        rw [← e2]
        exact if_neg (by simp; intro e; rw [e] at h0; exact absurd h0 (by decide)))
      have hkp : (p : Int) ≤ (k : Int) := by omega
      have hks : (k : Int) ≤ (s.size : Int) := by omega
      obtain ⟨n, b, hnb⟩ : ∃ n b, digP (s.extract p k).data.toList = (n, b) := ⟨_, _, rfl⟩
      have hnum2 := hide ((unhide hnum).trans hnb)
      have HNB := hide hnb
      clear hnb hnum
      by_cases hok : b = true ∧ n ≤ 2147483647
      · have hd := hide (show nextT (s.data.toList.drop p) = some (3, (s.extract p k).data.toList, k - p) by
          obtain ⟨e1, e2, e3⟩ := unhide hst
          rw [e1, nextT_dig _ _ hl0 h0, e2, e3, unhide HNB, if_pos hok])
        obtain ⟨rfl, hok2⟩ := hok
        clear hst HNB
        go_wp2_with (first | (go_at_call 162; refine (l00Letter_any _ _).mono ?_; rintro e wr ⟨rfl, rfl⟩) | (go_at_call 163; refine (l00Digit_any _ _).mono ?_; rintro e wr ⟨rfl, rfl⟩))
        refine (l00Number_is (s.extract p k) _ n true (unhide hx) (unhide hnum2)).mono ?_
        rintro e wr ⟨rfl, rfl⟩
        go_wp2
        exact bodyPost_ret (v := Value.tuple #[.agg #[.int .i64 3, .int .i64 (p : Int), .string (s.extract p k)], .int .i64 (k : Int), .bool true]) (by simp [results, Tryd.results136, go_sem]) rfl ⟨congrArg Ending.returned (nextV_some (by rw [unhide hd]) (by omega)), (by repeat (first | exact Below.refl _ _ | refine nx_al ?_ | refine nx_set ?_ (by first | omega | (simp <;> omega)) | refine nx_drew ?_ | refine nx_trans ?_ (unhide (by assumption))))⟩
      · have hd := hide (show nextT (s.data.toList.drop p) = none by
          obtain ⟨e1, e2, e3⟩ := unhide hst
          rw [e1, nextT_dig _ _ hl0 h0, e2, e3, unhide HNB, if_neg hok])
        clear hst HNB
        cases b
        · clear hok
          go_wp2_with (first | (go_at_call 162; refine (l00Letter_any _ _).mono ?_; rintro e wr ⟨rfl, rfl⟩) | (go_at_call 163; refine (l00Digit_any _ _).mono ?_; rintro e wr ⟨rfl, rfl⟩))
          refine (l00Number_is (s.extract p k) _ n false (unhide hx) (unhide hnum2)).mono ?_
          rintro e wr ⟨rfl, rfl⟩
          go_wp2
          exact bodyPost_ret (v := nextV p none) (by simp [results, Tryd.results136, go_sem, nextV]) rfl ⟨congrArg Ending.returned (nextV_none (unhide hd)), (by repeat (first | exact Below.refl _ _ | refine nx_al ?_ | refine nx_set ?_ (by first | omega | (simp <;> omega)) | refine nx_drew ?_ | refine nx_trans ?_ (unhide (by assumption))))⟩
        · have hok2 : 2147483647 < n := by
            simp at hok
            omega
          clear hok
          go_wp2_with (first | (go_at_call 162; refine (l00Letter_any _ _).mono ?_; rintro e wr ⟨rfl, rfl⟩) | (go_at_call 163; refine (l00Digit_any _ _).mono ?_; rintro e wr ⟨rfl, rfl⟩))
          refine (l00Number_is (s.extract p k) _ n true (unhide hx) (unhide hnum2)).mono ?_
          rintro e wr ⟨rfl, rfl⟩
          go_wp2
          exact bodyPost_ret (v := nextV p none) (by simp [results, Tryd.results136, go_sem, nextV]) rfl ⟨congrArg Ending.returned (nextV_none (unhide hd)), (by repeat (first | exact Below.refl _ _ | refine nx_al ?_ | refine nx_set ?_ (by first | omega | (simp <;> omega)) | refine nx_drew ?_ | refine nx_trans ?_ (unhide (by assumption))))⟩

end Go.Proofs.YtbipgmikgokfpaaDoor

/- TreeLaw3 -/
namespace Go.Proofs.YtbipgmikgokfpaaDoor
open Go.RowKit Go.Joins
set_option linter.unusedVariables false

theorem StrsG.set {w : World} {g b o : Nat} {v : Value} {ss : List ByteArray} (h : StrsG w g ss) (hb : g ≠ b) : StrsG (w.setCell ⟨b, o, none⟩ v) g ss := h.same (Below.heap_setCell w ⟨b, o, none⟩ v g hb)
theorem IntsG.set {w : World} {g b o : Nat} {v : Value} {zs : List Int} (h : IntsG w g zs) (hb : g ≠ b) : IntsG (w.setCell ⟨b, o, none⟩ v) g zs := h.same (Below.heap_setCell w ⟨b, o, none⟩ v g hb)

set_option maxHeartbeats 1000000 in
theorem toNode_any (k n : Int) (t : ByteArray) (pn : Option Addr) (names : List ByteArray) (cn : Nat) (pk : Option Addr) (kids : List Int) (ck : Nat) (w : World) (hn : StrsAt w pn names) (hk : IntsAt w pk kids) (hnl : names.length ≤ 1048576) (hkl : kids.length ≤ 1048576) :
    Calls Tryd.prog 90 #[.agg #[.int .i64 k, .int .i64 n, .string t, .slice pn names.length cn, .slice pk kids.length ck]] w fun e w' => ∃ g1 g2, e = .returned (.agg #[.int .i64 k, .int .i64 n, .string t, .slice (some ⟨g1, 0, none⟩) names.length names.length, .slice (some ⟨g2, 0, none⟩) kids.length kids.length]) ∧ w.heap.size ≤ g1 ∧ g1 < w'.heap.size ∧ w.heap.size ≤ g2 ∧ g2 < w'.heap.size ∧ StrsG w' g1 names ∧ IntsG w' g2 kids ∧ Below w.heap.size w w' := by
  have HN := hide hn
  have HK := hide hk
  clear hn hk
  go_enter Tryd.func90, Tryd.ntmps90
  go_wp2_with fail
  refine (toStringS_any pn names cn _ ((unhide HN).later ?b0) hnl).mono ?_
  case b0 => exact nx_al (nx_al (nx_alloc _ _))
  rintro e w1 ⟨rfl, hs1, hl1, hb1⟩
  have hB1 := hide (nx_trans (nx_al (nx_al (nx_alloc _ _))) hb1)
  obtain ⟨hc1, hf1⟩ := bcell hb1
  have hz : w.heap.size + 3 ≤ w1.heap.size := by have := hb1.size; simp at this; omega
  have hz0 : w.heap.size < w1.heap.size := by omega
  have hz1 : w.heap.size + 1 < w1.heap.size := by omega
  have hz2 : w.heap.size + 1 + 1 < w1.heap.size := by omega
  have hz3 : w.heap.size + 2 < w1.heap.size := by omega
  have HS1 := hide hs1
  clear hs1 hb1
  go_wp2_with fail
  refine (toIntS_any pk kids ck _ ((unhide HK).later ?b1) hkl).mono ?_
  case b1 => exact nx_set (unhide hB1) (by first | omega | (simp; omega))
  rintro e w2 ⟨rfl, hs2, hl2, hb2⟩
  have hB2 := hide (nx_trans (nx_set (unhide hB1) (by first | omega | (simp; omega))) hb2)
  obtain ⟨hc2, hf2⟩ := bcell hb2
  have hsz2 : w1.heap.size < w2.heap.size := by simpa using hl2
  have hT1 := hide ((unhide HS1).set (b := w.heap.size + 2) (o := 3) (v := .slice (some ⟨w.heap.size + 3, 0, none⟩) names.length names.length) (by simp))
  have hT2 := hide ((unhide hT1).later hb2)
  have HS2 := hide hs2
  clear hs2 hb2
  go_wp2
  refine bodyPost_ret (v := .agg #[.int .i64 k, .int .i64 n, .string t, .slice (some ⟨w.heap.size + 1 + 1 + 1, 0, none⟩) names.length names.length, .slice (some ⟨w1.heap.size, 0, none⟩) kids.length kids.length]) (by simp [results, Tryd.results90, go_sem, *]) rfl ⟨w.heap.size + 1 + 1 + 1, w1.heap.size, rfl, by omega, ?_, by omega, ?_, ?_, ?_, ?_⟩
  · simp; omega
  · simp; omega
  · repeat refine StrsG.set ?_ (by omega)
    simpa using unhide hT2
  · repeat refine IntsG.set ?_ (by omega)
    simpa using unhide HS2
  · repeat refine nx_set ?_ (by omega)
    exact unhide hB2

/-- nodes in a row of their own, filled up to k: names and kids in rows behind it -/
def FillN (w : World) (g : Nat) (ns : List TN) (k : Nat) : Prop := ∃ cs : Array Value, w.heap[g]? = some (.cells cs 36 (0, 0)) ∧ cs.size = ns.length * 5 ∧ ∀ i (h : i < ns.length), i < k → ∃ g1 g2, g < g1 ∧ g1 < w.heap.size ∧ g < g2 ∧ g2 < w.heap.size ∧ cs[i * 5]? = some (.int .i64 ns[i].k) ∧ cs[i * 5 + 1]? = some (.int .i64 ns[i].n) ∧ cs[i * 5 + 2]? = some (.string ns[i].t) ∧ cs[i * 5 + 3]? = some (.slice (some ⟨g1, 0, none⟩) ns[i].names.length ns[i].names.length) ∧ cs[i * 5 + 4]? = some (.slice (some ⟨g2, 0, none⟩) ns[i].kids.length ns[i].kids.length) ∧ StrsG w g1 ns[i].names ∧ IntsG w g2 ns[i].kids
theorem FillN.later {w w' : World} {g : Nat} {ns : List TN} {k : Nat} (h : FillN w g ns k) (hb : Below w.heap.size w w') (hg : g < w.heap.size) : FillN w' g ns k := by
  obtain ⟨cs, h1, h2, h3⟩ := h
  refine ⟨cs, by rw [hb.block g hg]; exact h1, h2, fun i hi hik => ?_⟩
  obtain ⟨g1, g2, a1, a2, b1, b2, c0, c1, c2, c3, c4, d1, d2⟩ := h3 i hi hik
  have := hb.size
  exact ⟨g1, g2, a1, by omega, b1, by omega, c0, c1, c2, c3, c4, d1.later hb, d2.later hb⟩
theorem FillN.cells {w : World} {g : Nat} {ns : List TN} {k : Nat} (h : FillN w g ns k) (i : Nat) (hi : i < ns.length * 5) : ∃ v, w.cell? ⟨g, i, none⟩ = some v := by
  obtain ⟨cs, h1, h2, h3⟩ := h
  refine ⟨cs[i]'(by omega), ?_⟩
  rw [cell_of_block h1 i, Array.getElem?_eq_getElem (by omega)]
theorem FillN.free {w : World} {g : Nat} {ns : List TN} {k : Nat} (h : FillN w g ns k) (i : Nat) : w.frozen? ⟨g, i, none⟩ = false := by
  obtain ⟨cs, h1, h2, h3⟩ := h
  exact unfrozen_of_block h1 i
theorem FillN.zero (w : World) (z : Array Value) (ns : List TN) : FillN (w.alloc (.cells (madeCells z (ns.length * 5)) 36)) w.heap.size ns 0 := ⟨madeCells z (ns.length * 5), by show (w.heap.push _)[w.heap.size]? = _; simp, size_madeCells _ _, fun i _ h => absurd h (by omega)⟩
theorem FillN.set {w : World} {g g1 g2 : Nat} {ns : List TN} {k : Nat} (h : FillN w g ns k) (hk : k < ns.length) (a1 : g < g1) (a2 : g1 < w.heap.size) (b1 : g < g2) (b2 : g2 < w.heap.size) (d1 : StrsG w g1 ns[k].names) (d2 : IntsG w g2 ns[k].kids) :
    FillN (((((w.setCell ⟨g, k * 5, none⟩ (.int .i64 ns[k].k)).setCell ⟨g, k * 5 + 1, none⟩ (.int .i64 ns[k].n)).setCell ⟨g, k * 5 + 2, none⟩ (.string ns[k].t)).setCell ⟨g, k * 5 + 3, none⟩ (.slice (some ⟨g1, 0, none⟩) ns[k].names.length ns[k].names.length)).setCell ⟨g, k * 5 + 4, none⟩ (.slice (some ⟨g2, 0, none⟩) ns[k].kids.length ns[k].kids.length)) g ns (k + 1) := by
  obtain ⟨cs, h1, h2, h3⟩ := h
  refine ⟨_, block_setCell (block_setCell (block_setCell (block_setCell (block_setCell h1 _) _) _) _) _, by simp [h2], fun i hi hik => ?_⟩
  by_cases e : i = k
  · subst e
    refine ⟨g1, g2, a1, by simpa using a2, b1, by simpa using b2, ?_, ?_, ?_, ?_, ?_, ?_, ?_⟩
    case refine_6 =>
      repeat refine StrsG.set ?_ (by omega)
      exact d1
    case refine_7 =>
      repeat refine IntsG.set ?_ (by omega)
      exact d2
    all_goals simp [Array.getElem?_setIfInBounds, h2]
    all_goals omega
  · obtain ⟨q1, q2, e1, e2, f1, f2, c0, c1, c2, c3, c4, x1, x2⟩ := h3 i hi (by omega)
    refine ⟨q1, q2, e1, by simpa using e2, f1, by simpa using f2, ?_, ?_, ?_, ?_, ?_, ?_, ?_⟩
    case refine_6 =>
      repeat refine StrsG.set ?_ (by omega)
      exact x1
    case refine_7 =>
      repeat refine IntsG.set ?_ (by omega)
      exact x2
    all_goals rw [Array.getElem?_setIfInBounds_ne (by omega), Array.getElem?_setIfInBounds_ne (by omega), Array.getElem?_setIfInBounds_ne (by omega), Array.getElem?_setIfInBounds_ne (by omega), Array.getElem?_setIfInBounds_ne (by omega)]
    all_goals assumption
theorem FillN.poke {w : World} {g b o : Nat} {v : Value} {ns : List TN} {k : Nat} (h : FillN w g ns k) (hb : b < g) : FillN (w.setCell ⟨b, o, none⟩ v) g ns k := by
  obtain ⟨cs, h1, h2, h3⟩ := h
  refine ⟨cs, by rw [Below.heap_setCell w ⟨b, o, none⟩ v g (by show g ≠ b; omega)]; exact h1, h2, fun i hi hik => ?_⟩
  obtain ⟨g1, g2, a1, a2, b1, b2, c0, c1, c2, c3, c4, d1, d2⟩ := h3 i hi hik
  exact ⟨g1, g2, a1, by simpa using a2, b1, by simpa using b2, c0, c1, c2, c3, c4, d1.set (by omega), d2.set (by omega)⟩
/-- a tree that was made: all that it has lies from B on, below E -/
structure Made (w : World) (L : Lay) (ns : List TN) (B E : Nat) : Prop where
  row : ∃ g, L.p = some ⟨g, 0, none⟩ ∧ B ≤ g ∧ g < E
  nodes : NodesAt w L ns
  parts : ∀ i, i < ns.length → ∃ g1 g2, L.pn i = some ⟨g1, 0, none⟩ ∧ B ≤ g1 ∧ g1 < E ∧ L.pk i = some ⟨g2, 0, none⟩ ∧ B ≤ g2 ∧ g2 < E
  caps : ∀ i x, ns[i]? = some x → L.cn i = x.names.length
theorem FillN.made {w : World} {g B : Nat} {ns : List TN} (h : FillN w g ns ns.length) (hB : B ≤ g) (hE : g < w.heap.size) : ∃ L : Lay, L.p = some ⟨g, 0, none⟩ ∧ L.cap = ns.length ∧ Made w L ns B w.heap.size := by
  obtain ⟨cs, h1, h2, h3⟩ := h
  have each : ∀ i, i < ns.length → ∃ q : Nat × Nat, g < q.1 ∧ q.1 < w.heap.size ∧ g < q.2 ∧ q.2 < w.heap.size ∧ ∃ x, ns[i]? = some x ∧ cs[i * 5]? = some (.int .i64 x.k) ∧ cs[i * 5 + 1]? = some (.int .i64 x.n) ∧ cs[i * 5 + 2]? = some (.string x.t) ∧ cs[i * 5 + 3]? = some (.slice (some ⟨q.1, 0, none⟩) x.names.length x.names.length) ∧ cs[i * 5 + 4]? = some (.slice (some ⟨q.2, 0, none⟩) x.kids.length x.kids.length) ∧ StrsG w q.1 x.names ∧ IntsG w q.2 x.kids := by
    intro i hi
    obtain ⟨g1, g2, a1, a2, b1, b2, r⟩ := h3 i hi hi
    exact ⟨(g1, g2), a1, a2, b1, b2, ns[i], List.getElem?_eq_getElem hi, r⟩
  obtain ⟨q, hq⟩ := @Deep.choose_lt (Nat × Nat) ⟨(0, 0)⟩ _ _ each
  refine ⟨⟨some ⟨g, 0, none⟩, ns.length, fun i => some ⟨(q i).1, 0, none⟩, fun i => (ns[i]?.map (·.names.length)).getD 0, fun i => some ⟨(q i).2, 0, none⟩, fun i => (ns[i]?.map (·.kids.length)).getD 0⟩, rfl, rfl, ⟨g, rfl, hB, hE⟩, fun i hi => ?_, fun i hi => ?_, fun i x hx => by simp [hx]⟩
  · obtain ⟨a1, a2, b1, b2, x, hx, c0, c1, c2, c3, c4, d1, d2⟩ := hq i hi
    rw [List.getElem?_eq_getElem hi] at hx
    obtain rfl := Option.some.inj hx
    refine ⟨g, 0, rfl, ?_, ?_, ?_, ?_, ?_, d1.at, d2.at⟩
    · rw [Nat.zero_add, cell_of_block h1]; exact c0
    · rw [Nat.zero_add, cell_of_block h1]; exact c1
    · rw [Nat.zero_add, cell_of_block h1]; exact c2
    · rw [Nat.zero_add, cell_of_block h1, c3]; simp [hi]
    · rw [Nat.zero_add, cell_of_block h1, c4]; simp [hi]
  · obtain ⟨a1, a2, b1, b2, _⟩ := hq i hi
    exact ⟨_, _, rfl, by omega, a2, rfl, by omega, b2⟩

set_option maxHeartbeats 1000000 in
theorem toNodeS_any (L : Lay) (ns : List TN) (cap : Nat) (w : World) (hrow : NodesAt w L ns) (hs : Small ns) :
    Calls Tryd.prog 61 #[.slice L.p ns.length cap] w fun e w' => e = .returned (.slice (some ⟨w.heap.size, 0, none⟩) ns.length ns.length) ∧ FillN w' w.heap.size ns ns.length ∧ w.heap.size < w'.heap.size ∧ Below w.heap.size w w' := by
  have HR := hide hrow
  have HS := hide hs.2
  have hlen := hs.1
  have hmk := madeN ns.length w hlen
  have HF0 := hide (FillN.zero w #[.int .i64 0, .int .i64 0, .string ⟨#[]⟩, .slice none 0 0, .slice none 0 0] ns)
  clear hrow hs
  go_enter Tryd.func61, Tryd.ntmps61
  go_wp2
  go_loopw [4] (fun i wx => ∃ k : Nat, k ≤ ns.length ∧ i = .int .i64 k ∧ Hid (FillN wx w.heap.size ns k) ∧ w.heap.size < wx.heap.size ∧ Below w.heap.size w wx) (fun i _ => ns.length - (intOf i).toNat)
  case atStart => exact ⟨0, by omega, rfl, HF0, by simp, nx_alloc _ _⟩
  case round =>
    obtain ⟨k, hk, rfl, hF, hgl, hnx⟩ := hrel
    by_cases hlt : k < ns.length
    · obtain ⟨b, off, hp, q0, q1, q2, q3, q4, q5, q6⟩ := (unhide HR).later hnx k hlt
      obtain ⟨z0, z1, z2, z3⟩ := unhide HS ns[k] (List.getElem_mem hlt)
      have HSet := hide fun (x : World) (g1 g2 : Nat) (hx : FillN x w.heap.size ns k) (a1 : w.heap.size < g1) (a2 : g1 < x.heap.size) (b1 : w.heap.size < g2) (b2 : g2 < x.heap.size) (d1 : StrsG x g1 ns[k].names) (d2 : IntsG x g2 ns[k].kids) => hx.set hlt a1 a2 b1 b2 d1 d2
      have HQ := hide q5
      have HQ2 := hide q6
      clear q5 q6 z3
      rw [hp]
      generalize ns[k] = x at q0 q1 q2 q3 q4 z1 z2 HSet HQ HQ2
      generalize L.pn k = pn at q3 HQ
      generalize L.cn k = cn at q3
      generalize L.pk k = pk at q4 HQ2
      generalize L.ck k = ck at q4
      obtain ⟨xk, xn, xt, xs, xj⟩ := x
      dsimp only at q0 q1 q2 q3 q4 z1 z2 HSet HQ HQ2
      go_wp2_with fail
      refine (toNode_any xk xn xt pn xs cn pk xj ck _ (unhide HQ) (unhide HQ2) z1 z2).mono ?_
      rintro e w1 ⟨g1, g2, rfl, a1, a2, b1, b2, d1, d2, hb1⟩
      have hF1 := (unhide hF).later hb1 hgl
      have hg1 : w.heap.size < w1.heap.size := by have := hb1.size; omega
      have hS := hide (unhide HSet w1 g1 g2 hF1 (by omega) a2 (by omega) b2 d1 d2)
      obtain ⟨u0, c0⟩ := hF1.cells (k * 5) (by omega)
      obtain ⟨u1, c1⟩ := hF1.cells (k * 5 + 1) (by omega)
      obtain ⟨u2, c2⟩ := hF1.cells (k * 5 + 2) (by omega)
      obtain ⟨u3, c3⟩ := hF1.cells (k * 5 + 3) (by omega)
      obtain ⟨u4, c4⟩ := hF1.cells (k * 5 + 4) (by omega)
      have f0 := hF1.free (k * 5)
      have f1 := hF1.free (k * 5 + 1)
      have f2 := hF1.free (k * 5 + 2)
      have f3 := hF1.free (k * 5 + 3)
      have f4 := hF1.free (k * 5 + 4)
      have hN := hide (nx_trans hnx hb1)
      clear hF1 hF d1 d2 hb1
      go_wp2
      go_roundw
      case rel => exact ⟨k + 1, by omega, by go_num, hide (unhide hS), by simp; omega, nx_set (nx_set (nx_set (nx_set (nx_set (unhide hN) (Nat.le_refl _)) (Nat.le_refl _)) (Nat.le_refl _)) (Nat.le_refl _)) (Nat.le_refl _)⟩
      case measure => simp [intOf]; omega
    · obtain rfl : k = ns.length := by omega
      go_wp2
      go_ret
      exact ⟨rfl, unhide hF, hgl, hnx⟩

set_option maxHeartbeats 1000000 in
theorem toTree_any (L : Lay) (ns : List TN) (cap : Nat) (root : Int) (w : World) (hrow : NodesAt w L ns) (hs : Small ns) :
    Calls Tryd.prog 25 #[.agg #[.slice L.p ns.length cap, .int .i64 root]] w fun e w' => ∃ L' : Lay, e = .returned (.agg #[.slice L'.p ns.length L'.cap, .int .i64 root]) ∧ Made w' L' ns w.heap.size w'.heap.size ∧ Below w.heap.size w w' := by
  have HR := hide hrow
  have HS := hide hs
  clear hrow hs
  go_enter Tryd.func25, Tryd.ntmps25
  go_wp2_with fail
  refine (toNodeS_any L ns cap _ ((unhide HR).later (nx_al (nx_al (nx_alloc _ _)))) (unhide HS)).mono ?_
  rintro e w1 ⟨rfl, hF, hl, hb1⟩
  have hB1 := hide (nx_trans (nx_al (nx_al (nx_alloc _ _))) hb1)
  obtain ⟨hc1, hf1⟩ := bcell hb1
  have hz : w.heap.size + 3 < w1.heap.size := by simp at hl; omega
  have hz0 : w.heap.size < w1.heap.size := by omega
  have hz1 : w.heap.size + 1 < w1.heap.size := by omega
  have hz2 : w.heap.size + 1 + 1 < w1.heap.size := by omega
  have HF := hide hF
  clear hF hb1
  have HF' : Hid (FillN w1 (w.heap.size + 1 + 1 + 1) ns ns.length) := hide (by simpa using unhide HF)
  go_wp2
  have hM := FillN.made (B := w.heap.size) (FillN.poke (o := 1) (v := .int .i64 root) (FillN.poke (o := 0) (v := .slice (some ⟨w.heap.size + 1 + 1 + 1, 0, none⟩) ns.length ns.length) (FillN.poke (o := 1) (v := .int .i64 root) (FillN.poke (o := 0) (v := .slice (some ⟨w.heap.size + 1 + 1 + 1, 0, none⟩) ns.length ns.length) (unhide HF') (b := w.heap.size + 1 + 1) (by omega)) (b := w.heap.size + 1 + 1) (by omega)) (b := w.heap.size + 1) (by omega)) (b := w.heap.size + 1) (by omega)) (by omega) (by simp; omega)
  obtain ⟨L', hp', hc', hM⟩ := hM
  refine bodyPost_ret (v := .agg #[.slice (some ⟨w.heap.size + 1 + 1 + 1, 0, none⟩) ns.length ns.length, .int .i64 root]) (by simp [results, Tryd.results25, go_sem, *]) rfl ⟨L', by rw [hp', hc'], hM, ?_⟩
  repeat refine nx_set ?_ (by omega)
  exact unhide hB1

theorem Made.later {w w' : World} {L : Lay} {ns : List TN} {B E : Nat} (h : Made w L ns B E) (hb : Below w.heap.size w w') : Made w' L ns B E := ⟨h.row, h.nodes.later hb, h.parts, h.caps⟩

set_option maxHeartbeats 1000000 in
theorem eqStringS_same (p q : Option Addr) (ss : List ByteArray) (c d : Nat) (w : World) (ha : StrsAt w p ss) (hb : StrsAt w q ss) (hlen : ss.length ≤ 1048576) :
    Calls Tryd.prog 41 #[.slice p ss.length c, .slice q ss.length d] w fun e w' => e = .returned (.bool true) ∧ Below w.heap.size w w' := by
  have HA := hide ha
  have HB := hide hb
  clear ha hb
  go_enter Tryd.func41, Tryd.ntmps41
  go_wp2
  go_loopw [5] (fun i wx => ∃ k : Nat, k ≤ ss.length ∧ i = .int .i64 k ∧ Below w.heap.size w wx) (fun i _ => ss.length - (intOf i).toNat)
  case atStart => exact ⟨0, by omega, rfl, Below.refl _ _⟩
  case round =>
    obtain ⟨k, hk, rfl, hnx⟩ := hrel
    by_cases hlt : k < ss.length
    · obtain ⟨b, off, rfl, q0⟩ := (unhide HA).later hnx k hlt
      obtain ⟨b', off', rfl, r0⟩ := (unhide HB).later hnx k hlt
      generalize ss[k] = s at q0 r0
      go_wp2
      go_region
      all_goals go_wp2
      all_goals (go_roundw; (case rel => exact ⟨k + 1, by omega, by go_num, (by repeat (first | exact Below.refl _ _ | assumption | refine nx_al ?_ | refine nx_drew ?_))⟩); (case measure => simp [intOf]; omega))
    · go_wp2
      go_ret
      exact ⟨rfl, hnx⟩

set_option maxHeartbeats 1000000 in
theorem eqIntS_same (p q : Option Addr) (zs : List Int) (c d : Nat) (w : World) (ha : IntsAt w p zs) (hb : IntsAt w q zs) (hlen : zs.length ≤ 1048576) :
    Calls Tryd.prog 35 #[.slice p zs.length c, .slice q zs.length d] w fun e w' => e = .returned (.bool true) ∧ Below w.heap.size w w' := by
  have HA := hide ha
  have HB := hide hb
  clear ha hb
  go_enter Tryd.func35, Tryd.ntmps35
  go_wp2
  go_loopw [5] (fun i wx => ∃ k : Nat, k ≤ zs.length ∧ i = .int .i64 k ∧ Below w.heap.size w wx) (fun i _ => zs.length - (intOf i).toNat)
  case atStart => exact ⟨0, by omega, rfl, Below.refl _ _⟩
  case round =>
    obtain ⟨k, hk, rfl, hnx⟩ := hrel
    by_cases hlt : k < zs.length
    · obtain ⟨b, off, rfl, q0⟩ := (unhide HA).later hnx k hlt
      obtain ⟨b', off', rfl, r0⟩ := (unhide HB).later hnx k hlt
      generalize zs[k] = s at q0 r0
      go_wp2
      go_region
      all_goals go_wp2
      all_goals (go_roundw; (case rel => exact ⟨k + 1, by omega, by go_num, (by repeat (first | exact Below.refl _ _ | assumption | refine nx_al ?_ | refine nx_drew ?_))⟩); (case measure => simp [intOf]; omega))
    · go_wp2
      go_ret
      exact ⟨rfl, hnx⟩

theorem StrsAt.heap {w w' : World} {p : Option Addr} {ss : List ByteArray} (h : StrsAt w p ss) (hh : w'.heap = w.heap) : StrsAt w' p ss := fun i hi => by
  obtain ⟨b, off, rfl, h0⟩ := h i hi
  exact ⟨b, off, rfl, by rw [World.cell?_of_block (w := w) (by rw [hh])]; exact h0⟩
theorem IntsAt.heap {w w' : World} {p : Option Addr} {zs : List Int} (h : IntsAt w p zs) (hh : w'.heap = w.heap) : IntsAt w' p zs := fun i hi => by
  obtain ⟨b, off, rfl, h0⟩ := h i hi
  exact ⟨b, off, rfl, by rw [World.cell?_of_block (w := w) (by rw [hh])]; exact h0⟩

set_option maxHeartbeats 1000000 in
theorem eqNode_same (k n : Int) (t : ByteArray) (pn : Option Addr) (names : List ByteArray) (cn : Nat) (pk : Option Addr) (kids : List Int) (ck : Nat) (qn : Option Addr) (dn : Nat) (qk : Option Addr) (dk : Nat) (w : World) (hn : StrsAt w pn names) (hk : IntsAt w pk kids) (hn' : StrsAt w qn names) (hk' : IntsAt w qk kids) (hnl : names.length ≤ 1048576) (hkl : kids.length ≤ 1048576) :
    Calls Tryd.prog 93 #[.agg #[.int .i64 k, .int .i64 n, .string t, .slice pn names.length cn, .slice pk kids.length ck], .agg #[.int .i64 k, .int .i64 n, .string t, .slice qn names.length dn, .slice qk kids.length dk]] w fun e w' => e = .returned (.bool true) ∧ Below w.heap.size w w' := by
  have HN := hide hn
  have HK := hide hk
  have HN' := hide hn'
  have HK' := hide hk'
  clear hn hk hn' hk'
  go_enter Tryd.func93, Tryd.ntmps93
  go_wp2_with fail
  refine (eqStringS_same pn qn names cn dn _ ((unhide HN).later (nx_al (nx_alloc _ _))) ((unhide HN').later (nx_al (nx_alloc _ _))) hnl).mono ?_
  rintro e w1 ⟨rfl, hb1⟩
  have hB1 := hide (nx_trans (nx_al (nx_alloc _ _)) hb1)
  obtain ⟨hc1, hf1⟩ := bcell hb1
  have hz1 : w.heap.size + 1 < w1.heap.size := by have := hb1.size; simp at this; omega
  have hz0 : w.heap.size < w1.heap.size := by omega
  clear hb1
  go_wp2_with fail
  refine (eqIntS_same pk qk kids ck dk _ ((unhide HK).later (unhide hB1)) ((unhide HK').later (unhide hB1)) hkl).mono ?_
  rintro e w2 ⟨rfl, hb2⟩
  have hB2 := hide (nx_trans (unhide hB1) hb2)
  clear hb2 hc1 hf1
  go_wp2
  go_ret
  exact ⟨rfl, unhide hB2⟩

set_option maxHeartbeats 1000000 in
theorem eqNodeS_same (L L' : Lay) (ns : List TN) (c d : Nat) (w : World) (ha : NodesAt w L ns) (hb : NodesAt w L' ns) (hs : Small ns) :
    Calls Tryd.prog 63 #[.slice L.p ns.length c, .slice L'.p ns.length d] w fun e w' => e = .returned (.bool true) ∧ Below w.heap.size w w' := by
  have HA := hide ha
  have HB := hide hb
  have HS := hide hs.2
  have hlen := hs.1
  clear ha hb hs
  go_enter Tryd.func63, Tryd.ntmps63
  go_wp2
  go_loopw [5] (fun i wx => ∃ k : Nat, k ≤ ns.length ∧ i = .int .i64 k ∧ Below w.heap.size w wx) (fun i _ => ns.length - (intOf i).toNat)
  case atStart => exact ⟨0, by omega, rfl, Below.refl _ _⟩
  case round =>
    obtain ⟨k, hk, rfl, hnx⟩ := hrel
    by_cases hlt : k < ns.length
    · obtain ⟨b, off, hp, q0, q1, q2, q3, q4, q5, q6⟩ := (unhide HA).later hnx k hlt
      obtain ⟨b', off', hp', r0, r1, r2, r3, r4, r5, r6⟩ := (unhide HB).later hnx k hlt
      obtain ⟨z0, z1, z2, z3⟩ := unhide HS ns[k] (List.getElem_mem hlt)
      clear z0 z3
      rw [hp, hp']
      generalize ns[k] = x at q0 q1 q2 q3 q4 q5 q6 r0 r1 r2 r3 r4 r5 r6 z1 z2
      generalize L.pn k = pn at q3 q5
      generalize L.cn k = cn at q3
      generalize L.pk k = pk at q4 q6
      generalize L.ck k = ck at q4
      generalize L'.pn k = pn' at r3 r5
      generalize L'.cn k = cn' at r3
      generalize L'.pk k = pk' at r4 r6
      generalize L'.ck k = ck' at r4
      obtain ⟨xk, xn, xt, xs, xj⟩ := x
      dsimp only at q0 q1 q2 q3 q4 q5 q6 r0 r1 r2 r3 r4 r5 r6 z1 z2
      have H5 := hide fun (x : World) (hx : x.heap = wr.heap) => q5.heap hx
      have H6 := hide fun (x : World) (hx : x.heap = wr.heap) => q6.heap hx
      have J5 := hide fun (x : World) (hx : x.heap = wr.heap) => r5.heap hx
      have J6 := hide fun (x : World) (hx : x.heap = wr.heap) => r6.heap hx
      clear q5 q6 r5 r6
      go_wp2
      go_region_with (go_at_call 93; refine (eqNode_same xk xn xt pn xs cn pk xj ck pn' cn' pk' ck' wr.drew (unhide H5 wr.drew rfl) (unhide H6 wr.drew rfl) (unhide J5 wr.drew rfl) (unhide J6 wr.drew rfl) z1 z2).mono ?_; rintro e y ⟨rfl, hbx⟩)
      all_goals go_wp2
      all_goals (go_roundw; (case rel => exact ⟨k + 1, by omega, by go_num, (by repeat (first | assumption | refine nx_al ?_ | refine nx_drew ?_ | refine nx_trans ?_ (by assumption)))⟩); (case measure => simp [intOf]; omega))
    · go_wp2
      go_ret
      exact ⟨rfl, hnx⟩

theorem eqTree_same (L L' : Lay) (ns : List TN) (c d : Nat) (root : Int) (w : World) (ha : NodesAt w L ns) (hb : NodesAt w L' ns) (hs : Small ns) :
    Calls Tryd.prog 27 #[.agg #[.slice L.p ns.length c, .int .i64 root], .agg #[.slice L'.p ns.length d, .int .i64 root]] w fun e w' => e = .returned (.bool true) ∧ Below w.heap.size w w' := by
  have HA := hide ha
  have HB := hide hb
  have HS := hide hs
  clear ha hb hs
  go_enter Tryd.func27, Tryd.ntmps27
  go_wp2_with fail
  refine (eqNodeS_same L L' ns c d _ ((unhide HA).later (nx_al (nx_alloc _ _))) ((unhide HB).later (nx_al (nx_alloc _ _))) (unhide HS)).mono ?_
  rintro e w1 ⟨rfl, hb1⟩
  have hB1 := hide (nx_trans (nx_al (nx_alloc _ _)) hb1)
  obtain ⟨hc1, hf1⟩ := bcell hb1
  clear hb1
  go_wp2
  go_ret
  exact ⟨rfl, unhide hB1⟩

end Go.Proofs.YtbipgmikgokfpaaDoor
