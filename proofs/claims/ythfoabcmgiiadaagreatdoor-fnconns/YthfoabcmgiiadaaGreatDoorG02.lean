/- A bundle. -/
import Derived.Test.YthfoabcmgiiadaaGreatDoorG01

/- ConnS3 -/
namespace Go.Proofs.YthfoabcmgiiadaaGreatDoor
open Go.RowKit Go.Joins
set_option linter.unusedVariables false

/-- a row that is some slice's, whose capacity is no less than its length -/
def RowC (w : World) (v : Value) (s : List SL) : Prop := RowSl w v s ∧ ∀ a n k, v = .slice a n k → n ≤ k
theorem RowC.later {w w' : World} {v : Value} {s : List SL} (h : RowC w v s) (hb : Below w.heap.size w w') : RowC w' v s := ⟨h.1.later hb, h.2⟩
theorem SlBuf.rowC {w : World} {base : Nat} {v : Value} {s : List SL} (h : SlBuf w base v s) : RowC w v s := by
  refine ⟨h.row, fun a n k e => ?_⟩
  rcases h.2 with ⟨rfl, h0⟩ | ⟨g, cap, cur, e2, hg, hgg, h1, h2, _⟩
  · injection e with _ e2 e3; omega
  · rw [e2] at e; injection e with _ e3 e4; omega
/-- what the specification's calls answer -/
def AnsD (r : CN × Int) (w : World) (e : Ending) (w' : World) : Prop := ∃ v', e = .returned (.tuple #[cnV r.1 v', .int .i64 r.2]) ∧ RowC w' v' r.1.s ∧ Below w.heap.size w w'
theorem fiveB (w : World) (o : Obj) (c : CN) (v : Value) : Below w.heap.size w (fiveC ((w.alloc o).alloc (.cells #[.bool false, .bool false, .string ⟨#[]⟩, .slice none 0 0, .int .i64 0] 25)) (w.heap.size + 1) c v) := fiveC.below (qx_al (qx_alloc _ _)) (Nat.le_succ _)

set_option maxHeartbeats 2000000 in
set_option maxRecDepth 100000 in
theorem specTake_any (c : CN) (v : Value) (t : ByteArray) (w : World) (hv : RowC w v c.s) (hr : connB c = true) (ht : t.size ≤ 65536) :
    Calls Tryz.prog 62 #[cnV c v, .string t] w fun e w' => AnsD (takeC c t) w e w' := by
  have h2 := (connB_few hr).2.2.1
  have HV := hide hv
  by_cases h : c.o = true ∧ c.e = false
  · by_cases hf : 400 < c.i.size + t.size
    · rw [takeC_full hr ht h hf]
      obtain ⟨p, cap, rfl, _⟩ := hv.1.slice
      obtain ⟨o, e, i, s, n⟩ := c
      dsimp only [cnV] at *
      obtain ⟨rfl, rfl⟩ := h
      clear hv hr
      generalize s.length = l at *
      have hf' : (400 : Int) < (i.size : Int) + (t.size : Int) := by omega
      go_enter Tryz.func62, Tryz.ntmps62
      go_wp2
      refine bodyPost_ret (v := .tuple #[cnV ⟨true, false, i, s, n⟩ (.slice p l cap), .int .i64 7]) (by simp [results, Tryz.results62, go_sem, cnV]) rfl ⟨_, rfl, (unhide HV).later ?_, ?_⟩
      all_goals repeat (first | exact Below.refl _ _ | refine qx_al ?_ | refine qx_set ?_ (by first | exact Nat.le_refl _ | omega | (simp <;> omega)))
    · rw [takeC_ok hr ht h hf]
      obtain ⟨p, cap, rfl, _⟩ := hv.1.slice
      obtain ⟨o, e, i, s, n⟩ := c
      dsimp only [cnV] at *
      obtain ⟨rfl, rfl⟩ := h
      clear hv hr
      generalize s.length = l at *
      have hf' : ¬ (400 : Int) < (i.size : Int) + (t.size : Int) := by omega
      go_enter Tryz.func62, Tryz.ntmps62
      go_wp2
      refine bodyPost_ret (v := .tuple #[cnV ⟨true, false, i ++ t, s, n⟩ (.slice p l cap), .int .i64 0]) (by simp [results, Tryz.results62, go_sem, cnV]) rfl ⟨_, rfl, (unhide HV).later ?_, ?_⟩
      all_goals repeat (first | exact Below.refl _ _ | refine qx_al ?_ | refine qx_set ?_ (by first | exact Nat.le_refl _ | omega | (simp <;> omega)))
  · rw [takeC_shut hr ht h]
    obtain ⟨p, cap, rfl, _⟩ := hv.1.slice
    obtain ⟨o, e, i, s, n⟩ := c
    dsimp only [cnV] at *
    clear hv hr
    generalize s.length = l at *
    cases o
    · have HZ := hide (ZeroC.new2 w (.cells #[.bool false, .bool e, .string i, .slice p l cap, .int .i64 n] 25))
      clear h
      go_enter Tryz.func62, Tryz.ntmps62
      go_wp2
      refine bodyPost_ret (v := .tuple #[cnV ⟨false, e, i, s, n⟩ (.slice p l cap), .int .i64 19]) (by simp [results, Tryz.results62, go_sem, cnV]) rfl ⟨_, rfl, (unhide HV).later ?_, ?_⟩
      all_goals repeat (first | exact Below.refl _ _ | refine qx_al ?_ | refine qx_set ?_ (by first | exact Nat.le_refl _ | omega | (simp <;> omega)))
    · obtain rfl : e = true := by cases e <;> simp_all
      clear h
      go_enter Tryz.func62, Tryz.ntmps62
      go_wp2
      refine bodyPost_ret (v := .tuple #[cnV ⟨true, true, i, s, n⟩ (.slice p l cap), .int .i64 19]) (by simp [results, Tryz.results62, go_sem, cnV]) rfl ⟨_, rfl, (unhide HV).later ?_, ?_⟩
      all_goals repeat (first | exact Below.refl _ _ | refine qx_al ?_ | refine qx_set ?_ (by first | exact Nat.le_refl _ | omega | (simp <;> omega)))

end Go.Proofs.YthfoabcmgiiadaaGreatDoor

/- ConnS4 -/
namespace Go.Proofs.YthfoabcmgiiadaaGreatDoor
open Go.RowKit Go.Joins
set_option linter.unusedVariables false

/-- what the flush leaves ahead of its own copy -/
def flushS (c : CN) : FL :=
  if c.o = true ∧ c.e = true ∧ (c.s.drop (goL c.s)).length = 0 then ⟨⟨false, false, ⟨#[]⟩, [], c.n⟩, textL (c.s.take (goL c.s)), true, 0⟩ else ⟨{ c with s := c.s.drop (goL c.s) }, textL (c.s.take (goL c.s)), false, 0⟩
theorem flushS_is {c : CN} (h : connB c = true) : flushC c = flushS c := by unfold flushC flushS; rw [if_pos h]
def AnsG (r : FL) (w : World) (e : Ending) (w' : World) : Prop := ∃ v', e = .returned (.tuple #[cnV r.c v', .string r.t, .bool r.x]) ∧ RowC w' v' r.c.s ∧ Below w.heap.size w w'

set_option maxRecDepth 100000 in
theorem ZeroC.load_al {w : World} {g : Nat} (h : ZeroC w g) (c : CN) (v : Value) (ob : Obj) : (loadVar 25 ⟨g, 0, none⟩).run Tryz.prog ((fiveC w g c v).alloc ob) = .ok (cnV c v) ((fiveC w g c v).alloc ob) := by
  refine run_loadVar_row (P := Tryz.prog) _ g 25 25 _ (0, 0) _ ?_ Tryz.underlying25 rfl rfl
  have := h.five c v
  have hl := (Array.getElem?_eq_some_iff.1 this).1
  show ((fiveC w g c v).heap.push _)[g]? = _
  rw [Array.getElem?_push, if_neg (by omega)]
  exact this
theorem slots_read {w : World} {p : Option Addr} {s : List SL} {l : Nat} (hll : s.length = l) (hat : SlotsAt w p s) (hz : ∀ x ∈ s, x.t.size ≤ 300) (k : Nat) (hk : k < l) :
    ∃ (b off : Nat) (r : Bool) (t : ByteArray), p = some ⟨b, off, none⟩ ∧ w.cell? ⟨b, off + k * 3 + 1, none⟩ = some (.bool r) ∧ w.cell? ⟨b, off + k * 3 + 2, none⟩ = some (.string t) ∧ t.size ≤ 300 ∧ textL (s.take (k + 1)) = textL (s.take k) ++ t ∧ (r = true → k ≤ goL s → k + 1 ≤ goL s) ∧ (r = false → k ≤ goL s → goL s = k) := by
  subst hll
  obtain ⟨b, off, rfl, q0, q1, q2⟩ := hat k hk
  refine ⟨b, off, _, _, rfl, q1, q2, hz _ (List.getElem_mem hk), ?_, fun hr h => (goL_step s k hk h).1 hr, fun hr h => (goL_step s k hk h).2 hr⟩
  rw [List.take_add_one, List.getElem?_eq_getElem hk]
  exact textL_snoc _ _
theorem rowSl_cut {w : World} {p : Option Addr} {cap l : Nat} {s : List SL} (hll : s.length = l) (h : RowSl w (.slice p l cap) s) (b off k : Nat) (hp : p = some ⟨b, off, none⟩) (hk : k ≤ l) (v : Value) (hv : k < l → ∃ c', v = .slice (some ⟨b, off + k * 3, none⟩) (l - k) c') (hv0 : k = l → ∃ q c', v = .slice q 0 c' ∧ (q = none → c' = 0) ∧ (∀ a, q = some a → a.spot = none)) : RowSl w v (s.drop k) := by
  subst hll
  rcases h with ⟨h1, rfl⟩ | ⟨b', off', cap', h1, hat⟩
  · injection h1 with h1 _ _
    rw [hp] at h1; cases h1
  · injection h1 with h1 h2 h3
    rw [hp] at h1
    injection h1 with h1
    injection h1 with h1 h4
    subst h1 h4
    by_cases hlt : k < s.length
    · obtain ⟨c', rfl⟩ := hv hlt
      refine .inr ⟨b, off + k * 3, c', by rw [List.length_drop], fun i hi => ?_⟩
      rw [List.length_drop] at hi
      have e : (s.drop k)[i] = s[k + i] := List.getElem_drop
      have := hat (k + i) (by omega)
      rw [e, show off + k * 3 + i * 3 = off + (k + i) * 3 by omega]
      exact this
    · obtain ⟨q, c', rfl, hq, hsp⟩ := hv0 (by omega)
      have hd : s.drop k = [] := List.drop_eq_nil_of_le (by omega)
      rw [hd]
      cases q with
      | none => exact .inl ⟨by rw [hq rfl], rfl⟩
      | some a =>
        obtain ⟨ab, ao, asp⟩ := a
        have := hsp _ rfl
        dsimp only at this
        subst this
        exact .inr ⟨ab, ao, c', rfl, fun i hi => absurd hi (by simp)⟩

set_option maxHeartbeats 500000 in
set_option maxRecDepth 100000 in
theorem specFlush_some (c : CN) (b off cap : Nat) (w : World) (hv : RowC w (.slice (some ⟨b, off, none⟩) c.s.length cap) c.s) (hr : connB c = true) :
    Calls Tryz.prog 36 #[cnV c (.slice (some ⟨b, off, none⟩) c.s.length cap)] w fun e w' => AnsG (flushS c) w e w' := by
  have h3 := (connB_few hr).2.2.2
  have HV := hide hv.1
  have hcap := hv.2 _ _ _ rfl
  have hgl := goL_le c.s
  obtain ⟨p, cap', he, hat⟩ := hv.1.slice
  injection he with he _ he2
  subst he he2
  have HF := hide (fun wx (hnx : Below w.heap.size w wx) k hk => slots_read rfl (hat.later hnx) (connB_texts hr) k hk)
  obtain ⟨o, e, i, s, n⟩ := c
  dsimp only [cnV] at *
  clear hv hr hat
  have h0t : textL (s.take 0) = ⟨#[]⟩ := rfl
  generalize hsl : s.length = l at *
  have HSL := hide hsl
  have HG := hide hgl
  clear hsl hgl
  have hT : ∀ k, k ≤ l → (textL (s.take k)).size ≤ 300 * k := by
    intro k
    induction k with
    | zero => intro _; rw [h0t]; simp [emptyB]
    | succ k ih =>
      intro hk
      obtain ⟨b, off, r, t, _, _, _, ht, he, _⟩ := unhide HF w (Below.refl _ _) k (by omega)
      rw [he, ByteArray.size_append]
      have := ih (by omega)
      omega
  have HT := hide hT
  have HA : Hid (∀ k, goL s = k → flushS ⟨o, e, i, s, n⟩ = if o = true ∧ e = true ∧ l - k = 0 then ⟨⟨false, false, ⟨#[]⟩, [], n⟩, textL (s.take k), true, 0⟩ else ⟨⟨o, e, i, s.drop k, n⟩, textL (s.take k), false, 0⟩) := hide (fun k hk => by
    subst hk
    unfold flushS
    dsimp only
    rw [List.length_drop, unhide HSL])
  clear hT
  go_enter Tryz.func36, Tryz.ntmps36
  go_wp2
  go_loop [5, 6] (fun t i => ∃ k : Nat, k ≤ l ∧ i = .int .i64 k ∧ Hid (k ≤ goL s) ∧ t = .string (textL (s.take k))) (fun _ i => l - (intOf i).toNat)
  case atStart => exact ⟨0, by omega, rfl, hide (Nat.zero_le _), rfl⟩
  case round =>
    obtain ⟨k, hk, rfl, hkg, rfl⟩ := hrel
    by_cases hlt : k < l
    · obtain ⟨b', off', vr, vt, he, q1, q2, g1, g2, g3, g4⟩ := unhide HF ((w.alloc (.cells #[.bool o, .bool e, .string i, .slice (some ⟨b, off, none⟩) l cap, .int .i64 n] 25)).alloc (.cells #[.bool false, .bool false, .string ⟨#[]⟩, .slice none 0 0, .int .i64 0] 25)) (qx_al (qx_alloc _ _)) k hlt
      injection he with he
      injection he with he he2
      subst he he2
      have hlt' : (k : Int) < (l : Int) := by omega
      cases vr
      · have hgk := hide (g4 rfl (unhide hkg))
        have hts := unhide HT k hk
        have hta := unhide HA k (unhide hgk)
        generalize textL (s.take k) = T at *
        have HTA := hide hta
        clear hta HA
        clear g2 g3 g4 HF
        have hkc : k ≤ cap := by omega
        go_wp2_with (at_builtin; refine wp_appSls _ rfl _ _ rfl (w.heap.size + 2) (.slice (some ⟨w.heap.size + 2, 0, none⟩) 0 0) _ [] (s.drop k) rfl ?c1 rfl ?c2 ?c3 ?c4 ?c5)
        case c1 => exact SlBuf.litN _ _ _ (by simp) (Nat.le_refl _)
        case c2 => exact rowSl_cut (unhide HSL) ((unhide HV).later (qx_al (qx_al (qx_alloc _ _)))) b off k rfl hk _ (fun _ => ⟨_, rfl⟩) (fun h => absurd h (by omega))
        case c4 => have := unhide HSL; simp; omega
        case c5 =>
          intro v' w1 hown hb1
          have HB := hide ((qx_al (qx_al (qx_alloc w _))).trans (hb1.mono (by omega)))
          have hbk : w1.heap[w.heap.size]? = some (.cells #[.bool o, .bool e, .string i, .slice (some ⟨b, off, none⟩) l cap, .int .i64 n] 25 (0, 0)) := by
            rw [hb1.block _ (by simp)]
            show (((w.heap.push _).push _).push _)[w.heap.size]? = _
            rw [Array.getElem?_push, if_neg (by simp; omega), Array.getElem?_push, if_neg (by simp), Array.getElem?_push, if_pos rfl]
          have hzc : ZeroC w1 (w.heap.size + 1) := by
            unfold ZeroC
            rw [hb1.block _ (by simp)]
            show (((w.heap.push _).push _).push _)[w.heap.size + 1]? = _
            rw [Array.getElem?_push, if_neg (by simp), Array.getElem?_push, if_pos (by simp)]
          have HZ := hide hzc
          have r0 := (cell_of_block hbk 0).trans rfl
          have r1 := (cell_of_block hbk 1).trans rfl
          have r2 := (cell_of_block hbk 2).trans rfl
          have r3 := (cell_of_block hbk 3).trans rfl
          have r4 := (cell_of_block hbk 4).trans rfl
          have f3 := unfrozen_of_block hbk 3
          obtain ⟨a0, a1, a2, a3, a4⟩ := hzc.cells
          obtain ⟨z0, z1, z2, z3, z4⟩ := hzc.free
          obtain ⟨p1, k1, rfl⟩ := hown.slice
          have hm : (s.drop k).length = l - k := by rw [List.length_drop, unhide HSL]
          generalize hmm : (s.drop k).length = m at *
          have HM := hide hm
          have hne : ∀ b, b < w.heap.size + 2 → ∀ j, (Value.slice p1 m k1).ownBlock = some j → j ≠ b := fun b hb j hj => by have := (World.ownsRow.lt hown j hj).1; omega
          have HN := hide hne
          have HR := hide hown
          have hw1 : w.heap.size + 2 < w1.heap.size := by have := hb1.size; simp at this; omega
          have hw2 : w.heap.size + 1 < w1.heap.size := by omega
          have hw3 : w.heap.size < w1.heap.size := by omega
          clear hown hb1 hbk hzc hne hmm hm
          cases o with
          | false =>
            have HA9 := hide ((unhide HTA).trans (if_neg (fun h => by cases h.1)))
            have HZ9 := hide ((unhide HZ).set (k := w.heap.size) (o := 3) (u := .slice p1 m k1) (by omega))
            clear HZ
            go_wp2
            refine bodyPost_ret (v := .tuple #[cnV ⟨false, e, i, s.drop k, n⟩ (.slice p1 m k1), .string T, .bool false]) ?_ rfl ?_
            · have hld := (unhide HZ9).load ⟨false, e, i, s.drop k, n⟩ (.slice p1 m k1)
              simp only [fiveC] at hld
              simp [results, Tryz.results36, asAddr, Result.andThen, hld]
            · rw [unhide HA9]
              refine ⟨(.slice p1 m k1), rfl, ?_, ?_⟩
              · have h1 := (unhide HR).apart (b := w.heap.size) (o := 3) (u := .slice p1 m k1) (unhide HN _ (by omega))
                have hn1 := unhide HN (w.heap.size + 1) (by omega)
                exact SlBuf.rowC (((((h1.apart hn1).apart hn1).apart hn1).apart hn1).apart hn1)
              · exact fiveC.below (c := ⟨false, e, i, s.drop k, n⟩) (v := (.slice p1 m k1)) (qx_set (unhide HB) (Nat.le_refl _)) (Nat.le_succ _)
          | true =>
            cases e with
            | false =>
              have HA9 := hide ((unhide HTA).trans (if_neg (fun h => by cases h.2.1)))
              have HZ9 := hide ((unhide HZ).set (k := w.heap.size) (o := 3) (u := .slice p1 m k1) (by omega))
              clear HZ
              go_wp2
              refine bodyPost_ret (v := .tuple #[cnV ⟨true, false, i, s.drop k, n⟩ (.slice p1 m k1), .string T, .bool false]) ?_ rfl ?_
              · have hld := (unhide HZ9).load ⟨true, false, i, s.drop k, n⟩ (.slice p1 m k1)
                simp only [fiveC] at hld
                simp [results, Tryz.results36, asAddr, Result.andThen, hld]
              · rw [unhide HA9]
                refine ⟨(.slice p1 m k1), rfl, ?_, ?_⟩
                · have h1 := (unhide HR).apart (b := w.heap.size) (o := 3) (u := .slice p1 m k1) (unhide HN _ (by omega))
                  have hn1 := unhide HN (w.heap.size + 1) (by omega)
                  exact SlBuf.rowC (((((h1.apart hn1).apart hn1).apart hn1).apart hn1).apart hn1)
                · exact fiveC.below (c := ⟨true, false, i, s.drop k, n⟩) (v := (.slice p1 m k1)) (qx_set (unhide HB) (Nat.le_refl _)) (Nat.le_succ _)
            | true =>
              have hm0 : ¬ (m : Int) = 0 := by have := unhide HM; omega
              have hm1 : ((m : Int) == 0) = false := by simp; omega
              have hm2 : decide ((m : Int) = 0) = false := by simp; omega
              have HA9 := hide ((unhide HTA).trans (if_neg (fun h => by have := h.2.2; omega)))
              have HZ9 := hide ((unhide HZ).set (k := w.heap.size) (o := 3) (u := .slice p1 m k1) (by omega))
              clear HZ
              go_wp2
              refine bodyPost_ret (v := .tuple #[cnV ⟨true, true, i, s.drop k, n⟩ (.slice p1 m k1), .string T, .bool false]) ?_ rfl ?_
              · have hld := (unhide HZ9).load ⟨true, true, i, s.drop k, n⟩ (.slice p1 m k1)
                simp only [fiveC] at hld
                simp [results, Tryz.results36, asAddr, Result.andThen, hld]
              · rw [unhide HA9]
                refine ⟨(.slice p1 m k1), rfl, ?_, ?_⟩
                · have h1 := (unhide HR).apart (b := w.heap.size) (o := 3) (u := .slice p1 m k1) (unhide HN _ (by omega))
                  have hn1 := unhide HN (w.heap.size + 1) (by omega)
                  exact SlBuf.rowC (((((h1.apart hn1).apart hn1).apart hn1).apart hn1).apart hn1)
                · exact fiveC.below (c := ⟨true, true, i, s.drop k, n⟩) (v := (.slice p1 m k1)) (qx_set (unhide HB) (Nat.le_refl _)) (Nat.le_succ _)
      · have HS := hide g2
        have HK := hide (g3 rfl (unhide hkg))
        have hts := unhide HT k hk
        generalize textL (s.take k) = T at *
        clear g2 g3 g4
        go_wp2
        go_round
        case rel => exact ⟨k + 1, by omega, by go_num, hide (unhide HK), by rw [unhide HS]⟩
        case measure => simp [intOf]; omega
    · have hkl : k = l := by omega
      have hgk : Hid (goL s = k) := hide (by have := unhide HG; have := unhide hkg; omega)
      have hts := unhide HT k hk
      have hlt' : ¬ (k : Int) < (l : Int) := by omega
      have hta := unhide HA k (unhide hgk)
      generalize textL (s.take k) = T at *
      have HTA := hide hta
      clear hta HA
      clear HF
      have hkl' : k = l := hkl
      obtain ⟨f, hX⟩ : ∃ f, (if cap = l then (some ⟨b, off, none⟩ : Option Addr) else some ⟨b, off + l * 3, none⟩) = some ⟨b, f, none⟩ := by
        split
        · exact ⟨_, rfl⟩
        · exact ⟨_, rfl⟩
      subst hkl
      have hkc : k ≤ cap := by omega
      go_wp2_with (at_builtin; refine wp_appSls _ rfl _ _ rfl (w.heap.size + 2) (.slice (some ⟨w.heap.size + 2, 0, none⟩) 0 0) _ [] (s.drop k) rfl ?d1 rfl ?d2 ?d3 ?d4 ?d5)
      case d1 => exact SlBuf.litN _ _ _ (by simp) (Nat.le_refl _)
      case d2 => exact rowSl_cut (unhide HSL) ((unhide HV).later (qx_al (qx_al (qx_alloc _ _)))) b off k rfl hk _ (fun h => absurd h (by omega)) (fun _ => ⟨_, _, rfl, (fun h => by cases h), fun a h => by cases h; rfl⟩)
      case d4 => have := unhide HSL; simp; omega
      case d5 =>
        intro v' w1 hown hb1
        have HB := hide ((qx_al (qx_al (qx_alloc w _))).trans (hb1.mono (by omega)))
        have hbk : w1.heap[w.heap.size]? = some (.cells #[.bool o, .bool e, .string i, .slice (some ⟨b, off, none⟩) k cap, .int .i64 n] 25 (0, 0)) := by
          rw [hb1.block _ (by simp)]
          show (((w.heap.push _).push _).push _)[w.heap.size]? = _
          rw [Array.getElem?_push, if_neg (by simp; omega), Array.getElem?_push, if_neg (by simp), Array.getElem?_push, if_pos rfl]
        have hzc : ZeroC w1 (w.heap.size + 1) := by
          unfold ZeroC
          rw [hb1.block _ (by simp)]
          show (((w.heap.push _).push _).push _)[w.heap.size + 1]? = _
          rw [Array.getElem?_push, if_neg (by simp), Array.getElem?_push, if_pos (by simp)]
        have HZ := hide hzc
        have r0 := (cell_of_block hbk 0).trans rfl
        have r1 := (cell_of_block hbk 1).trans rfl
        have r2 := (cell_of_block hbk 2).trans rfl
        have r3 := (cell_of_block hbk 3).trans rfl
        have r4 := (cell_of_block hbk 4).trans rfl
        have f3 := unfrozen_of_block hbk 3
        obtain ⟨a0, a1, a2, a3, a4⟩ := hzc.cells
        obtain ⟨z0, z1, z2, z3, z4⟩ := hzc.free
        obtain ⟨p1, k1, rfl⟩ := hown.slice
        have hm : (s.drop k).length = k - k := by rw [List.length_drop, unhide HSL]
        generalize hmm : (s.drop k).length = m at *
        have HM := hide hm
        have hne : ∀ b, b < w.heap.size + 2 → ∀ j, (Value.slice p1 m k1).ownBlock = some j → j ≠ b := fun b hb j hj => by have := (World.ownsRow.lt hown j hj).1; omega
        have HN := hide hne
        have HR := hide hown
        have hw1 : w.heap.size + 2 < w1.heap.size := by have := hb1.size; simp at this; omega
        have hw2 : w.heap.size + 1 < w1.heap.size := by omega
        have hw3 : w.heap.size < w1.heap.size := by omega
        clear hown hb1 hbk hzc hne hmm hm
        cases o with
        | false =>
          have HA9 := hide ((unhide HTA).trans (if_neg (fun h => by cases h.1)))
          have HZ9 := hide ((unhide HZ).set (k := w.heap.size) (o := 3) (u := .slice p1 m k1) (by omega))
          clear HZ
          go_wp2
          refine bodyPost_ret (v := .tuple #[cnV ⟨false, e, i, s.drop k, n⟩ (.slice p1 m k1), .string T, .bool false]) ?_ rfl ?_
          · have hld := (unhide HZ9).load ⟨false, e, i, s.drop k, n⟩ (.slice p1 m k1)
            simp only [fiveC] at hld
            simp [results, Tryz.results36, asAddr, Result.andThen, hld]
          · rw [unhide HA9]
            refine ⟨(.slice p1 m k1), rfl, ?_, ?_⟩
            · have h1 := (unhide HR).apart (b := w.heap.size) (o := 3) (u := .slice p1 m k1) (unhide HN _ (by omega))
              have hn1 := unhide HN (w.heap.size + 1) (by omega)
              exact SlBuf.rowC (((((h1.apart hn1).apart hn1).apart hn1).apart hn1).apart hn1)
            · exact fiveC.below (c := ⟨false, e, i, s.drop k, n⟩) (v := (.slice p1 m k1)) (qx_set (unhide HB) (Nat.le_refl _)) (Nat.le_succ _)
        | true =>
          cases e with
          | false =>
            have HA9 := hide ((unhide HTA).trans (if_neg (fun h => by cases h.2.1)))
            have HZ9 := hide ((unhide HZ).set (k := w.heap.size) (o := 3) (u := .slice p1 m k1) (by omega))
            clear HZ
            go_wp2
            refine bodyPost_ret (v := .tuple #[cnV ⟨true, false, i, s.drop k, n⟩ (.slice p1 m k1), .string T, .bool false]) ?_ rfl ?_
            · have hld := (unhide HZ9).load ⟨true, false, i, s.drop k, n⟩ (.slice p1 m k1)
              simp only [fiveC] at hld
              simp [results, Tryz.results36, asAddr, Result.andThen, hld]
            · rw [unhide HA9]
              refine ⟨(.slice p1 m k1), rfl, ?_, ?_⟩
              · have h1 := (unhide HR).apart (b := w.heap.size) (o := 3) (u := .slice p1 m k1) (unhide HN _ (by omega))
                have hn1 := unhide HN (w.heap.size + 1) (by omega)
                exact SlBuf.rowC (((((h1.apart hn1).apart hn1).apart hn1).apart hn1).apart hn1)
              · exact fiveC.below (c := ⟨true, false, i, s.drop k, n⟩) (v := (.slice p1 m k1)) (qx_set (unhide HB) (Nat.le_refl _)) (Nat.le_succ _)
          | true =>
            have hm0 : m = 0 := by have := unhide HM; omega
            subst hm0
            have HA9 := hide ((unhide HTA).trans (if_pos ⟨rfl, rfl, by omega⟩))
            have HZ9 := hide ((unhide HZ).set (k := w.heap.size) (o := 3) (u := .slice p1 0 k1) (by omega))
            clear HZ
            go_wp2
            refine bodyPost_ret (v := .tuple #[cnV ⟨false, false, ⟨#[]⟩, [], n⟩ (.slice (some ⟨w1.heap.size, 0, none⟩) 0 0), .string T, .bool true]) ?_ rfl ?_
            · have hld := (unhide HZ9).load_al ⟨false, false, ⟨#[]⟩, [], n⟩ (.slice (some ⟨w1.heap.size, 0, none⟩) 0 0) (.cells #[] 66)
              simp only [fiveC] at hld
              simp [results, Tryz.results36, asAddr, Result.andThen, hld]
            · rw [unhide HA9]
              refine ⟨(.slice (some ⟨w1.heap.size, 0, none⟩) 0 0), rfl, ⟨.inr ⟨_, _, _, rfl, fun i hi => absurd hi (by simp)⟩, fun a n k e => by injection e with _ e1 e2; omega⟩, ?_⟩
              exact qx_al (o := .cells #[] 66) (fiveC.below (c := ⟨false, false, ⟨#[]⟩, [], n⟩) (v := (.slice (some ⟨w1.heap.size, 0, none⟩) 0 0)) (qx_set (unhide HB) (Nat.le_refl _)) (Nat.le_succ _))

end Go.Proofs.YthfoabcmgiiadaaGreatDoor
