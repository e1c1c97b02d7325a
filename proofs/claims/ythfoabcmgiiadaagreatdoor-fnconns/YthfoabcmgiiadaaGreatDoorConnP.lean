/- What the calls of chapter 11 answer, each as one function of the connection; right connections stay right; the program's calls answer so. -/
import Derived.Test.YthfoabcmgiiadaaGreatDoorConnC7
import Derived.Test.YthfoabcmgiiadaaGreatDoorConnC9
import Derived.Test.YthfoabcmgiiadaaGreatDoorConnC10
import Derived.Test.YthfoabcmgiiadaaGreatDoorOpenW
namespace Go.Proofs.YthfoabcmgiiadaaGreatDoor
open Go.RowKit Go.Joins
set_option linter.unusedVariables false

theorem fstC_in (l : ByteArray) : fstC l = 0 ∨ fstC l = 17 ∨ fstC l = 3 := by
  unfold fstC
  split
  · split
    · exact .inl rfl
    · exact .inr (.inl rfl)
  · exact .inr (.inr rfl)
theorem reqR_cases (s : ByteArray) : reqR s = RR.bad 18 ∨ (∃ k : Nat, (k = 2 ∨ k = 3 ∨ k = 17) ∧ reqR s = RR.bad (k : Int)) ∨ ∃ (P : ByteArray) (x : Bool) (m : Nat), m ≤ s.size ∧ reqR s = ⟨P, x, (m : Int), 0⟩ := by
  by_cases h0 : 65536 < s.size
  · exact .inr (.inl ⟨2, .inl rfl, reqR_long h0⟩)
  · rcases Lib.indexB_cases s crlf2S with h | ⟨k, h, hr⟩
    · by_cases h1 : 120 < s.size
      · exact .inr (.inl ⟨2, .inl rfl, reqR_over (by omega) h h1⟩)
      · exact .inl (reqR_more (by omega) h (by omega))
    · by_cases h1 : 116 < k
      · exact .inr (.inl ⟨2, .inl rfl, reqR_far (by omega) h h1⟩)
      · obtain ⟨l, r, hl⟩ := linesOf_cons s
        rcases fstC_in l with hc | hc | hc
        · cases ho : HdsOk r
          · exact .inr (.inl ⟨3, .inr (.inl rfl), reqR_line (by omega) h (by omega) hl hc ho⟩)
          · have hk4 : crlf2S.size = 4 := rfl
            exact .inr (.inr ⟨_, _, k + 4, by omega, reqR_ok (by omega) h (by omega) hl hc ho⟩)
        · exact .inr (.inl ⟨17, .inr (.inr rfl), reqR_first (by omega) h (by omega) hl hc (by decide)⟩)
        · exact .inr (.inl ⟨3, .inr (.inl rfl), reqR_first (by omega) h (by omega) hl hc (by decide)⟩)

/-- what the next request's call answers -/
def nextC (c : CN) : NX :=
  if c.o = true ∧ c.e = false then
    (if 6 ≤ c.s.length ∨ 100000 ≤ c.n then ⟨c, ⟨#[]⟩, false, 0, 7⟩
     else if (reqR c.i).e = 18 then ⟨c, ⟨#[]⟩, false, 0, 18⟩
     else if (reqR c.i).e = 0 then
       (if (reqR c.i).c = true then ⟨⟨true, true, ⟨#[]⟩, c.s ++ [⟨c.n, false, ⟨#[]⟩⟩], c.n + 1⟩, (reqR c.i).p, true, c.n, 0⟩
        else ⟨⟨true, false, c.i.extract (reqR c.i).n.toNat c.i.size, c.s ++ [⟨c.n, false, ⟨#[]⟩⟩], c.n + 1⟩, (reqR c.i).p, false, c.n, 0⟩)
     else ⟨⟨true, true, ⟨#[]⟩, c.s ++ [⟨c.n, true, faultT (reqR c.i).e.toNat⟩], c.n + 1⟩, ⟨#[]⟩, false, c.n, (reqR c.i).e⟩)
  else ⟨c, ⟨#[]⟩, false, 0, 19⟩
theorem nextC_shut {c : CN} (h : ¬ (c.o = true ∧ c.e = false)) : nextC c = ⟨c, ⟨#[]⟩, false, 0, 19⟩ := if_neg h
theorem nextC_full {c : CN} (h : c.o = true ∧ c.e = false) (hf : 6 ≤ c.s.length ∨ 100000 ≤ c.n) : nextC c = ⟨c, ⟨#[]⟩, false, 0, 7⟩ := by unfold nextC; rw [if_pos h, if_pos hf]
theorem nextC_more {c : CN} (h : c.o = true ∧ c.e = false) (hf : ¬ (6 ≤ c.s.length ∨ 100000 ≤ c.n)) (hR : reqR c.i = RR.bad 18) : nextC c = ⟨c, ⟨#[]⟩, false, 0, 18⟩ := by
  unfold nextC; rw [if_pos h, if_neg hf, if_pos (by rw [hR]; rfl)]
theorem nextC_close {c : CN} (h : c.o = true ∧ c.e = false) (hf : ¬ (6 ≤ c.s.length ∨ 100000 ≤ c.n)) {P : ByteArray} {m : Nat} (hR : reqR c.i = ⟨P, true, (m : Int), 0⟩) : nextC c = ⟨⟨true, true, ⟨#[]⟩, c.s ++ [⟨c.n, false, ⟨#[]⟩⟩], c.n + 1⟩, P, true, c.n, 0⟩ := by
  unfold nextC; rw [if_pos h, if_neg hf, hR, if_neg (show ¬ (0 : Int) = 18 by decide), if_pos rfl, if_pos rfl]
theorem nextC_ok {c : CN} (h : c.o = true ∧ c.e = false) (hf : ¬ (6 ≤ c.s.length ∨ 100000 ≤ c.n)) {P : ByteArray} {m : Nat} (hR : reqR c.i = ⟨P, false, (m : Int), 0⟩) : nextC c = ⟨⟨true, false, c.i.extract m c.i.size, c.s ++ [⟨c.n, false, ⟨#[]⟩⟩], c.n + 1⟩, P, false, c.n, 0⟩ := by
  unfold nextC; rw [if_pos h, if_neg hf, hR, if_neg (show ¬ (0 : Int) = 18 by decide), if_pos rfl, if_neg (show ¬ false = true by decide)]; rfl
theorem nextC_fault {c : CN} (h : c.o = true ∧ c.e = false) (hf : ¬ (6 ≤ c.s.length ∨ 100000 ≤ c.n)) {k : Nat} (hk : k = 2 ∨ k = 3 ∨ k = 17) (hR : reqR c.i = RR.bad (k : Int)) : nextC c = ⟨⟨true, true, ⟨#[]⟩, c.s ++ [⟨c.n, true, faultT k⟩], c.n + 1⟩, ⟨#[]⟩, false, c.n, (k : Int)⟩ := by
  unfold nextC
  have e : (RR.bad (k : Int)).e = (k : Int) := rfl
  rw [if_pos h, if_neg hf, hR, e, if_neg (by omega), if_neg (by omega)]; rfl

/-- right connections, apart -/
structure ConnR (c : CN) : Prop where
  n : connN c
  s : c.o = true → slotsTo c.n c.s c.s.length
  e : c.e = true → c.o = true ∧ c.i.size = 0
  z : c.o = false → c.e = false ∧ c.i = ⟨#[]⟩ ∧ c.s = []
theorem ConnR.of {c : CN} (h : connB c = true) : ConnR c := ⟨connB_few h, fun ho => connB_slots h ho, fun he => connB_end h he, fun ho => connB_not h ho⟩
theorem ConnR.mk' {c : CN} (h : ConnR c) : connB c = true := by
  cases ho : c.o
  · obtain ⟨h1, h2, h3⟩ := h.z ho
    rw [connB_shut h.n ho, h1, h2, h3]; rfl
  · rw [connB_open h.n ho (Nat.le_refl _) (h.s ho)]
    cases he : c.e
    · rfl
    · simp [(h.e he).2]
theorem slotsTo_get {n : Int} {s : List SL} (h : slotsTo n s s.length) (i : Nat) (hi : i < s.length) : slotOk n s i := h i hi
theorem slotsTo_app {n : Int} {s : List SL} {r : Bool} {t : ByteArray} (h : slotsTo n s s.length) (h0 : 0 ≤ n) (ht : t.size ≤ 300) (hr : r = !decide (t.size = 0)) : slotsTo (n + 1) (s ++ [(⟨n, r, t⟩ : SL)]) (s ++ [(⟨n, r, t⟩ : SL)]).length := by
  intro i hi hl
  rw [List.length_append, List.length_singleton] at hi
  by_cases hlt : i < s.length
  · have e : (s ++ [(⟨n, r, t⟩ : SL)])[i] = s[i] := List.getElem_append_left hlt
    obtain ⟨g0, g1, g2, g3, g4⟩ := h i hlt hlt
    refine ⟨by rw [e]; exact g0, by rw [e]; omega, fun hp => ?_, by rw [e]; exact g3, by rw [e]; exact g4⟩
    have e' : (s ++ [(⟨n, r, t⟩ : SL)])[i - 1]'(by omega) = s[i - 1] := List.getElem_append_left (by omega)
    rw [e, e']; exact g2 hp
  · obtain rfl : i = s.length := by omega
    have e : (s ++ [(⟨n, r, t⟩ : SL)])[s.length] = ⟨n, r, t⟩ := by simp
    refine ⟨by rw [e]; exact h0, by rw [e]; show n ≤ n + 1 - 1; omega, fun hp => ?_, by rw [e]; exact ht, by rw [e]; exact hr⟩
    have e' : (s ++ [(⟨n, r, t⟩ : SL)])[s.length - 1]'(by rw [List.length_append]; omega) = s[s.length - 1] := List.getElem_append_left (by omega)
    rw [e, e']
    obtain ⟨_, g1, _⟩ := h (s.length - 1) (by omega) (by omega)
    show s[s.length - 1].q < n
    omega
theorem slotsTo_drop {n : Int} {s : List SL} (h : slotsTo n s s.length) (k : Nat) : slotsTo n (s.drop k) (s.drop k).length := by
  intro i hi hl
  rw [List.length_drop] at hi
  have e : (s.drop k)[i] = s[k + i] := List.getElem_drop
  obtain ⟨g0, g1, g2, g3, g4⟩ := h (k + i) (by omega) (by omega)
  refine ⟨by rw [e]; exact g0, by rw [e]; exact g1, fun hp => ?_, by rw [e]; exact g3, by rw [e]; exact g4⟩
  have e' : (s.drop k)[i - 1]'(by rw [List.length_drop]; omega) = s[k + i - 1] := by rw [List.getElem_drop]; congr 1; omega
  rw [e, e']; exact g2 (by omega)
theorem slotsTo_set {n : Int} {s : List SL} (h : slotsTo n s s.length) (j : Nat) (hj : j < s.length) (t : ByteArray) (h1 : 1 ≤ t.size) (h3 : t.size ≤ 300) : slotsTo n (s.set j ⟨s[j].q, true, t⟩) (s.set j ⟨s[j].q, true, t⟩).length := by
  have hq : ∀ i (hi : i < s.length), ((s.set j ⟨s[j].q, true, t⟩)[i]'(by rw [List.length_set]; exact hi)).q = s[i].q := fun i hi => by
    rw [List.getElem_set]
    split
    · rename_i e; subst e; rfl
    · rfl
  intro i hi hl
  rw [List.length_set] at hi
  obtain ⟨g0, g1, g2, g3, g4⟩ := h i hi hi
  refine ⟨by rw [hq i hi]; exact g0, by rw [hq i hi]; exact g1, fun hp => by rw [hq i hi, hq (i - 1) (by omega)]; exact g2 hp, ?_, ?_⟩
  · rw [List.getElem_set]
    split
    · exact h3
    · exact g3
  · rw [List.getElem_set]
    split
    · show true = !decide (t.size = 0)
      have : ¬ t.size = 0 := by omega
      simp [this]
    · exact g4

theorem takeC_right {c : CN} (t : ByteArray) (hr : connB c = true) (ht : t.size ≤ 65536) : connB (takeC c t).1 = true := by
  by_cases h : c.o = true ∧ c.e = false
  · by_cases hf : 400 < c.i.size + t.size
    · rw [takeC_full hr ht h hf]; exact hr
    · rw [takeC_ok hr ht h hf]
      have R := ConnR.of hr
      exact ConnR.mk' ⟨⟨R.n.1, R.n.2.1, by show (c.i ++ t).size ≤ 400; rw [ByteArray.size_append]; omega, R.n.2.2.2⟩, R.s, fun he => by rw [show c.e = true from he] at h; exact absurd h.2 (by decide), fun ho => by rw [show c.o = false from ho] at h; exact absurd h.1 (by decide)⟩
  · rw [takeC_shut hr ht h]; exact hr
theorem emptyB : (⟨#[]⟩ : ByteArray).size = 0 := rfl
theorem fault_sizes (k : Nat) (hk : k = 2 ∨ k = 3 ∨ k = 17) : 1 ≤ (faultT k).size ∧ (faultT k).size ≤ 300 := by
  have h : ([2, 3, 17].all fun k => decide (1 ≤ (faultT k).size) && decide ((faultT k).size ≤ 300)) = true := by kernel_rfl
  have := List.all_eq_true.1 h k (by obtain rfl | rfl | rfl := hk <;> simp)
  simpa using this
theorem nextC_right {c : CN} (hr : connB c = true) : connB (nextC c).c = true := by
  have R := ConnR.of hr
  by_cases h : c.o = true ∧ c.e = false
  · by_cases hf : 6 ≤ c.s.length ∨ 100000 ≤ c.n
    · rw [nextC_full h hf]; exact hr
    · have hn : ∀ (e : Bool) (i : ByteArray) (r : Bool) (t : ByteArray), i.size ≤ 400 → (e = true → i.size = 0) → t.size ≤ 300 → r = !decide (t.size = 0) → connB ⟨true, e, i, c.s ++ [⟨c.n, r, t⟩], c.n + 1⟩ = true := fun e i r t hi he ht hrr =>
        ConnR.mk' ⟨⟨by show 0 ≤ c.n + 1; have := R.n.1; omega, by show c.n + 1 ≤ 100000; omega, hi, by show (c.s ++ [(⟨c.n, r, t⟩ : SL)]).length ≤ 6; rw [List.length_append, List.length_singleton]; omega⟩, fun _ => slotsTo_app (R.s h.1) R.n.1 ht hrr, fun h => ⟨rfl, he h⟩, fun h => by cases h⟩
      rcases reqR_cases c.i with hR | ⟨k, hk, hR⟩ | ⟨P, x, m, hm, hR⟩
      · rw [nextC_more h hf hR]; exact hr
      · rw [nextC_fault h hf hk hR]
        obtain ⟨f1, f2⟩ := fault_sizes k hk
        exact hn _ _ _ _ (by rw [emptyB]; omega) (fun _ => emptyB) f2 (by have : ¬ (faultT k).size = 0 := by omega
                                                                          simp [this])
      · have h4 := R.n.2.2.1
        cases x
        · rw [nextC_ok h hf hR]
          exact hn _ _ _ _ (by rw [ByteArray.size_extract]; omega) (fun h => by cases h) (by rw [emptyB]; omega) (by decide)
        · rw [nextC_close h hf hR]
          exact hn _ _ _ _ (by rw [emptyB]; omega) (fun _ => emptyB) (by rw [emptyB]; omega) (by decide)
  · rw [nextC_shut h]; exact hr
theorem find_first : ∀ (s : List SL) (seq : Int), (∀ x ∈ s, x.q ≠ seq) ∨ ∃ (j : Nat) (hj : j < s.length), s[j].q = seq ∧ ∀ i (hi : i < j), (s[i]'(by omega)).q ≠ seq := by
  intro s seq
  induction s with
  | nil => exact .inl fun x hx => by cases hx
  | cons y s ih =>
    by_cases hy : y.q = seq
    · exact .inr ⟨0, by simp, hy, fun i hi => absurd hi (by omega)⟩
    · rcases ih with h | ⟨j, hj, hq, hb⟩
      · refine .inl fun x hx => ?_
        rcases List.mem_cons.1 hx with rfl | hx
        · exact hy
        · exact h x hx
      · refine .inr ⟨j + 1, by simpa using hj, hq, fun i hi => ?_⟩
        cases i with
        | zero => exact hy
        | succ i => exact hb i (by omega)
theorem readyC_is {c : CN} {seq : Int} {t : ByteArray} (hr : connB c = true) (ht : 1 ≤ t.size ∧ t.size ≤ 300) : readyC c seq t = ({ c with s := (readyL c.s seq t).1 }, (readyL c.s seq t).2) := by
  unfold readyC; rw [if_neg (by omega), if_pos hr, if_pos ht]
theorem readyC_right {c : CN} {seq : Int} {t : ByteArray} (hr : connB c = true) (ht : 1 ≤ t.size ∧ t.size ≤ 300) : connB (readyC c seq t).1 = true := by
  rw [readyC_is hr ht]
  have R := ConnR.of hr
  rcases find_first c.s seq with h | ⟨j, hj, hq, hb⟩
  · rw [readyL_none _ _ _ h]; exact hr
  · rw [readyL_at _ _ _ j hj hq hb]
    split
    · exact hr
    · have ho : c.o = true := by
        cases ho : c.o
        · have := (R.z ho).2.2
          rw [this] at hj; cases hj
        · rfl
      subst hq
      refine ConnR.mk' ⟨⟨R.n.1, R.n.2.1, R.n.2.2.1, by show (c.s.set j _).length ≤ 6; rw [List.length_set]; exact R.n.2.2.2⟩, fun _ => slotsTo_set (R.s ho) j hj t ht.1 ht.2, R.e, fun hf => ?_⟩
      rw [show c.o = false from hf] at ho; cases ho
theorem flushC_right {c : CN} (hr : connB c = true) : connB (flushC c).c = true := by
  have R := ConnR.of hr
  unfold flushC
  rw [if_pos hr]
  split
  · exact ConnR.mk' ⟨⟨R.n.1, R.n.2.1, by show (⟨#[]⟩ : ByteArray).size ≤ 400; rw [emptyB]; omega, Nat.zero_le _⟩, (fun h => by cases h), (fun h => by cases h), fun _ => ⟨rfl, rfl, rfl⟩⟩
  · refine ConnR.mk' ⟨⟨R.n.1, R.n.2.1, R.n.2.2.1, by show (c.s.drop _).length ≤ 6; rw [List.length_drop]; have := R.n.2.2.2; omega⟩, fun ho => slotsTo_drop (R.s ho) _, R.e, fun ho => ?_⟩
    obtain ⟨h1, h2, h3⟩ := R.z ho
    exact ⟨h1, h2, by show c.s.drop _ = []; rw [h3]; simp⟩

/-! The program's calls. -/
theorem ConnTake_gen (c : CN) (v : Value) (t : ByteArray) (w : World) (hv : RowSl w v c.s) (hr : connB c = true) (ht : t.size ≤ 65536) :
    Calls Tryz.prog 8 #[cnV c v, .string t] w fun e w' => AnsC (takeC c t) w e w' := by
  by_cases h : c.o = true ∧ c.e = false
  · by_cases hf : 400 < c.i.size + t.size
    · rw [takeC_full hr ht h hf]; exact ConnTake_full c v t w hv hr ht h hf
    · rw [takeC_ok hr ht h hf]; exact ConnTake_ok c v t w hv hr ht h hf
  · rw [takeC_shut hr ht h]; exact ConnTake_shut c v t w hv hr ht h
theorem ConnNext_gen (c : CN) (v : Value) (w : World) (hv : RowSl w v c.s) (hr : connB c = true) (hm : MaxL w) (ht : TabK w) (hp : PowTabW w) :
    Calls Tryz.prog 9 #[cnV c v] w fun e w' => AnsNo (nextC c) w e w' := by
  by_cases h : c.o = true ∧ c.e = false
  · by_cases hf : 6 ≤ c.s.length ∨ 100000 ≤ c.n
    · rw [nextC_full h hf]
      by_cases h6 : 6 ≤ c.s.length
      · exact ConnNext_full6 c v w hv hr h h6
      · exact ConnNext_fullN c v w hv hr h h6 (by omega)
    · rcases reqR_cases c.i with hR | ⟨k, hk, hR⟩ | ⟨P, x, m, hm', hR⟩
      · rw [nextC_more h hf hR]; exact ConnNext_more c v w hv hr hm h (by omega) (by omega) hR
      · rw [nextC_fault h hf hk hR]; exact ConnNext_fault c v w hv hr hm h (by omega) (by omega) k hk ht hp hR
      · cases x
        · rw [nextC_ok h hf hR]; exact ConnNext_ok c v w hv hr hm h (by omega) (by omega) P m hm' hR
        · rw [nextC_close h hf hR]; exact ConnNext_close c v w hv hr hm h (by omega) (by omega) P m hm' hR
  · rw [nextC_shut h]; exact ConnNext_shut c v w hv hr h
theorem ConnReady_gen (c : CN) (v : Value) (seq : Int) (t : ByteArray) (w : World) (hv : RowSl w v c.s) (hr : connB c = true) (ht : 1 ≤ t.size ∧ t.size ≤ 300) :
    Calls Tryz.prog 14 #[cnV c v, .int .i64 seq, .string t] w fun e w' => AnsC (readyC c seq t) w e w' := by
  rw [readyC_is hr ht]
  rcases find_first c.s seq with h | ⟨j, hj, hq, hb⟩
  · rw [readyL_none _ _ _ h]; exact ConnReady_none c v seq t w hv hr ht h
  · rw [readyL_at _ _ _ j hj hq hb]
    have hfst : ∀ y ∈ c.s.take j, y.q ≠ seq := fun y hy => by
      obtain ⟨i, hi, rfl⟩ := List.getElem_of_mem hy
      rw [List.getElem_take]
      exact hb i (by rw [List.length_take] at hi; omega)
    have hx : c.s[j]? = some c.s[j] := List.getElem?_eq_getElem hj
    cases hrd : c.s[j].r
    · rw [if_neg (by decide)]
      exact ConnReady_ok c v seq t w hv hr ht j _ hx hq hfst hrd
    · rw [if_pos rfl]
      exact ConnReady_twice c v seq t w hv hr ht j _ hx hq hfst hrd
theorem ConnFlush_gen (c : CN) (v : Value) (w : World) (hv : RowSl w v c.s) (hr : connB c = true) :
    Calls Tryz.prog 15 #[cnV c v] w fun e w' => AnsF (flushC c) w e w' := by
  unfold flushC
  rw [if_pos hr]
  have hle := goL_le c.s
  cases he : c.e
  · rw [if_neg (fun h => by cases h.2.1)]
    have := ConnFlush_open c v w hv hr he
    rw [he] at this
    exact this
  · have ho := (connB_end hr he).1
    by_cases hw : goL c.s = c.s.length
    · rw [if_pos ⟨ho, rfl, by rw [List.length_drop, hw]; omega⟩]
      exact ConnFlush_close c v w hv hr he hw
    · rw [if_neg (fun h => by have := h.2.2; rw [List.length_drop] at this; omega)]
      have := ConnFlush_wait c v w hv hr he hw
      rw [he] at this
      exact this

end Go.Proofs.YthfoabcmgiiadaaGreatDoor
