/- Tokens with blanks between, the code's side: 'impl.JoinTokens' answers 'joinR'. -/
import Derived.Test.YtckdacbopejdmaaDoorTokList
import Derived.Test.YtckdacbopejdmaaDoorLexM
namespace Go.Proofs.YtckdacbopejdmaaDoor
open Go.RowKit
set_option linter.unusedVariables false

/-- texts with a blank between -/
def joinT : List (List UInt8) → List UInt8
  | [] => []
  | [t] => t
  | t :: u :: r => t ++ 32 :: joinT (u :: r)
def tokX (v : V3) : List UInt8 := tokT v.k v.t.data.toList
def okX (v : V3) : Bool := tokB v.k v.t.data.toList
theorem joinL_T : ∀ vs : List V3, joinL vs = joinT (vs.map tokX)
  | [] => rfl
  | [v] => rfl
  | v :: u :: r => by
    show tokT v.k v.t.data.toList ++ 32 :: joinL (u :: r) = _
    rw [joinL_T (u :: r)]; rfl
theorem joinT_snoc : ∀ (l : List (List UInt8)) (t : List UInt8), joinT (l ++ [t]) = if l = [] then t else joinT l ++ (32 :: t)
  | [], t => rfl
  | [a], t => rfl
  | a :: b :: r, t => by
    rw [if_neg (by simp)]
    show a ++ 32 :: joinT ((b :: r) ++ [t]) = _
    rw [joinT_snoc (b :: r) t, if_neg (by simp)]
    show _ = (a ++ 32 :: joinT (b :: r)) ++ (32 :: t)
    simp
/-- tokens with blanks between, and a code -/
def joinR (vs : List V3) : List UInt8 × Int := if 4096 < vs.length then ([], 2) else if 300 < vs.length then ([], 6) else if vs.all okX = true then (joinT (vs.map tokX), 0) else ([], 1)

/-- the first k are right, and joined -/
def JoinAt (vs : List V3) (k : Nat) (acc : List UInt8) : Prop := (vs.take k).all okX = true ∧ acc = joinT ((vs.take k).map tokX) ∧ acc.length ≤ 123 * k
theorem joinAt_zero (vs : List V3) : JoinAt vs 0 [] := ⟨by simp, by simp [joinT], by simp⟩
theorem take_snocV (vs : List V3) (k : Nat) (h : k < vs.length) : vs.take (k + 1) = vs.take k ++ [vs[k]] := List.take_succ_eq_append_getElem h
theorem joinAt_first {vs : List V3} {acc : List UInt8} (h : JoinAt vs 0 acc) (hk : 0 < vs.length) (hv : okX vs[0] = true) : JoinAt vs 1 (acc ++ tokX vs[0]) := by
  have ha : acc = [] := by rw [h.2.1]; rfl
  subst ha
  have hl := tokT_len hv
  refine ⟨?_, ?_, ?_⟩
  · rw [take_snocV vs 0 hk]; simp [hv]
  · rw [take_snocV vs 0 hk]; simp [joinT]
  · unfold tokX; simp; omega
theorem joinAt_next {vs : List V3} {k : Nat} {acc : List UInt8} (h : JoinAt vs k acc) (h0 : 0 < k) (hk : k < vs.length) (hv : okX vs[k] = true) : JoinAt vs (k + 1) (acc ++ 32 :: tokX vs[k]) := by
  have hl := tokT_len hv
  refine ⟨?_, ?_, ?_⟩
  · rw [take_snocV vs k hk, List.all_append, h.1]; simp [hv]
  · rw [take_snocV vs k hk, List.map_append, List.map_singleton, joinT_snoc, if_neg, ← h.2.1]
    intro e
    have := congrArg List.length e
    rw [List.length_map, List.length_take, List.length_nil] at this
    omega
  · have := h.2.2
    have e : (tokX vs[k]).length ≤ 122 := hl
    simp; omega
theorem joinR_long {vs : List V3} (h : 4096 < vs.length) : joinR vs = ([], 2) := if_pos h
theorem joinR_many {vs : List V3} (h : ¬ 4096 < vs.length) (h1 : 300 < vs.length) : joinR vs = ([], 6) := by unfold joinR; rw [if_neg h, if_pos h1]
theorem joinR_bad {vs : List V3} {k : Nat} (h1 : vs.length ≤ 300) (hk : k < vs.length) (hv : okX vs[k] = false) : joinR vs = ([], 1) := by
  unfold joinR
  rw [if_neg (by omega), if_neg (by omega), if_neg]
  intro h
  rw [List.all_eq_true] at h
  rw [h _ (List.getElem_mem hk)] at hv
  cases hv
theorem joinR_ok {vs : List V3} {k : Nat} {acc : List UInt8} (h1 : vs.length ≤ 300) (hk : vs.length ≤ k) (h : JoinAt vs k acc) : joinR vs = (acc, 0) := by
  have h2 := h.1
  have h3 := h.2.1
  rw [List.take_of_length_le hk] at h2 h3
  unfold joinR
  rw [if_neg (by omega), if_neg (by omega), if_pos h2, h3]

/-- one byte is put behind; what lies from B on stays -/
theorem wp_app2 (w : World) {ops : Array Oper} {rest : List Oper} {o : Oper} {a : Act} {Q : Exit → Act → World → Prop} (hgd : o.guard = none) (s x : Operand)
    (ho : o.op = .call { callee := .builtin .append, args := #[s, x], argTypes := #[22, 22] }) (base g B : Nat) (v : Value) (t : List UInt8) (c : UInt8) (hs : a.eval s = v)
    (hown : Buf w base v t) (hB : ∀ j, v.ownBlock = some j → j < B) (hx : a.eval x = .slice (some ⟨g, 0, none⟩) 1 1) (hc : w.cell? ⟨g, 0, none⟩ = some (.int .u8 (c.toNat : Int))) (hbase : base ≤ w.heap.size) (hl : t.length ≤ 1000000000)
    (h : ∀ v' w', Buf w' base v' (t ++ [c]) → Below base w w' → (∀ b o, B ≤ b → b < w.heap.size → w'.cell? ⟨b, o, none⟩ = w.cell? ⟨b, o, none⟩) → wpList Tryd.prog ops Q rest (a.put o.dst v') w') : wpList Tryd.prog ops Q (o :: rest) a w := by
  obtain ⟨i0, hi, hz0, hz1, hz2⟩ := info_parts infoByte
  refine wpList_append_own _ hgd s x 22 ho base 5 i0 (.int .u8 0) 1 1 Tryd.underlying22 hi hz0 hz1 hz2 rfl (by decide) _ _ _ hs hown ⟨g, 0, none⟩ 1 1 [Value.int .u8 (c.toNat : Int)] hx rfl ?_ ?_ (by unfold maxLen; omega) (by omega) hbase ?_
  · intro j u' hj
    match j, hj with
    | 0, hj => simp at hj; subst hj; simpa [Addr.add] using hc
  · intro u' hu'; simp at hu'; subst hu'; rfl
  · intro v' w' hown' hgrow _
    rw [cells_snoc, show t.length + 1 = (t ++ [c]).length by simp] at hown'
    refine h v' w' hown' ((Below.refl _ _).grown hgrow hbase (fun j hj => (World.ownsRow.lt hown j hj).1)) (fun b o hb hb2 => ?_)
    refine World.cell?_of_block (hgrow.block b hb2 ?_)
    intro e
    have := hB b e.symm
    omega
theorem Buf.own_lt {w : World} {base : Nat} {v : Value} {t : List UInt8} (h : Buf w base v t) : ∀ j, v.ownBlock = some j → j < w.heap.size := fun j hj => (World.ownsRow.lt h j hj).2

theorem tokenOK_v (k a : Int) (s : ByteArray) (b : Bool) (w : World) (hs : s.size ≤ maxLen) (ht : Hid (Tabs w)) (hb : Hid (tokB k s.data.toList = b)) :
    Calls Tryd.prog 54 #[.agg #[.int .i64 k, .int .i64 a, .string s]] w fun e w' => e = .returned (.bool b) ∧ Below w.heap.size w w' := tokenOK_is k a s b w hs ht hb

theorem JoinTokens_long (p : Option Addr) (vs : List V3) (cap : Nat) (w : World) (h : 4096 < vs.length) (hm : vs.length ≤ 9223372036854775807) :
    Calls Tryd.prog 22 #[.slice p vs.length cap] w fun e w' => e = .returned (.tuple #[.string ⟨#[]⟩, .int .i64 2]) ∧ w' = w := by
  go_enter Tryd.func22, Tryd.ntmps22
  go_wp2
  go_ret2
  exact ⟨rfl, rfl⟩

theorem JoinTokens_many (p : Option Addr) (vs : List V3) (cap : Nat) (w : World) (h0 : ¬ 4096 < vs.length) (h : 300 < vs.length) :
    Calls Tryd.prog 22 #[.slice p vs.length cap] w fun e w' => e = .returned (.tuple #[.string ⟨#[]⟩, .int .i64 6]) ∧ w' = w := by
  go_enter Tryd.func22, Tryd.ntmps22
  go_wp2
  go_ret2
  exact ⟨rfl, rfl⟩

theorem ret_join {t : List UInt8} {n : Int} {r : List UInt8 × Int} (h : r = (t, n)) : Ending.returned (.tuple #[.string ⟨t.toArray⟩, .int .i64 n]) = .returned (.tuple #[.string ⟨r.1.toArray⟩, .int .i64 r.2]) := by rw [h]

set_option maxHeartbeats 8000000 in
set_option maxRecDepth 100000 in
theorem JoinTokens_loop (p : Option Addr) (vs : List V3) (cap : Nat) (w : World) (hrow : ToksAt w p vs) (h300 : vs.length ≤ 300) (hsz : ∀ v ∈ vs, v.t.size ≤ maxLen) (ht : Hid (Tabs w)) :
    Calls Tryd.prog 22 #[.slice p vs.length cap] w fun e w' => e = .returned (.tuple #[.string ⟨(joinR vs).1.toArray⟩, .int .i64 (joinR vs).2]) ∧ Below w.heap.size w w' := by
  have HR := hide hrow
  have HS := hide hsz
  clear hrow hsz
  obtain ⟨r, hr⟩ : ∃ r, r = joinR vs := ⟨_, rfl⟩
  rw [← hr]
  have HJ := hide hr
  clear hr
  have h4 : ¬ 4096 < vs.length := by omega
  have h3 : ¬ 300 < vs.length := by omega
  go_enter Tryd.func22, Tryd.ntmps22
  go_wp2
  go_loopw [4, 15] (fun m i wx => ∃ (k : Nat) (acc : List UInt8), k ≤ vs.length ∧ i = .int .i64 k ∧ Hid (JoinAt vs k acc) ∧ Buf wx w.heap.size m acc ∧ Below w.heap.size w wx) (fun _ i _ => vs.length - (intOf i).toNat)
  case atStart => exact ⟨0, [], by omega, rfl, hide (joinAt_zero vs), Buf.nil _ _, Below.refl _ _⟩
  case round =>
    obtain ⟨k, acc, hk, rfl, hin, hown, hnx⟩ := hrel
    have hal : acc.length ≤ 123 * k := (unhide hin).2.2
    have hwr : w.heap.size ≤ wr.heap.size := hnx.size
    have hlt2 := hown.own_lt
    have HL := hide hlt2
    clear hlt2
    by_cases hlt : k < vs.length
    · obtain ⟨b, off, rfl, q0, q1, q2⟩ := (unhide HR).later hnx k hlt
      have hvs := unhide HS vs[k] (List.getElem_mem hlt)
      have hT1 : ∀ o, Hid (Tabs (wr.alloc o)) := fun o => hide (((unhide ht).later hnx).later (nx_alloc _ o))
      have hbad := hide (fun h => joinR_bad (k := k) h300 hlt h)
      have hfirst := hide (fun (h0 : k = 0) (hv : okX vs[k] = true) => show JoinAt vs (k + 1) (acc ++ tokX vs[k]) by
        subst h0; exact joinAt_first (unhide hin) hlt hv)
      have hnext := hide (fun (h0 : 0 < k) (hv : okX vs[k] = true) => joinAt_next (unhide hin) h0 hlt hv)
      have hX : Hid (tokX vs[k] = tokT vs[k].k vs[k].t.data.toList) := rfl
      obtain ⟨ok, hok⟩ : ∃ ok, okX vs[k] = ok := ⟨_, rfl⟩
      have HOK := hide (show tokB vs[k].k vs[k].t.data.toList = ok from hok)
      rw [hok] at hbad hfirst hnext
      generalize tokX vs[k] = xt at hfirst hnext hX
      clear hok
      generalize vs[k].k = vk at q0 HOK hX
      generalize vs[k].n = vn at q1
      generalize vs[k].t = vt at q2 HOK hvs hX
      cases ok
      · have hd := hide (unhide hbad rfl)
        clear hbad hnext hfirst
        go_wp2_with fail
        refine (tokenOK_v vk vn vt false _ hvs (hT1 _) HOK).mono ?_
        rintro e w1 ⟨rfl, hb1⟩
        go_wp2
        go_ret2
        exact ⟨ret_join ((unhide HJ).trans (unhide hd)), nx_trans (nx_al hnx) hb1⟩
      · have hvl : vt.size ≤ 60 := by have := tokB_len (unhide HOK); rw [size_list] at this; exact this
        by_cases h0 : k = 0
        · have hd := hide (unhide hfirst h0 rfl)
          have e0 : ¬ (0 : Int) < (k : Int) := by omega
          clear h0 hbad hnext hfirst
          go_wp2_with fail
          refine (tokenOK_v vk vn vt true _ hvs (hT1 _) HOK).mono ?_
          rintro e w1 ⟨rfl, hb1⟩
          have hown1 := hide ((hown.alloc _).later hb1)
          have hnx1 : Below w.heap.size w w1 := nx_trans (nx_al hnx) hb1
          obtain ⟨hc1, hf1⟩ := bcell hb1
          have hz1 : wr.heap.size < w1.heap.size := by have := hb1.size; simp at this; omega
          go_wp2_with fail
          refine (appendToken_any w.heap.size acc _ vk vn vt w1 hnx1.size (unhide hown1) (by omega) (by omega)).mono ?_
          rintro e w2 ⟨v2, rfl, hown2, hb2⟩
          rw [← unhide hX] at hown2
          have HO2 := hide hown2
          clear hc1 hf1 hown2 hown
          go_wp2
          go_roundw
          case rel => exact ⟨k + 1, acc ++ xt, by omega, by go_num, hide (unhide hd), unhide HO2, hnx1.trans hb2⟩
          case measure => simp [intOf]; omega
        · have hd := hide (unhide hnext (by omega) rfl)
          have e0 : (0 : Int) < (k : Int) := by omega
          clear h0 hbad hnext hfirst
          go_wp2_with fail
          refine (tokenOK_v vk vn vt true _ hvs (hT1 _) HOK).mono ?_
          rintro e w1 ⟨rfl, hb1⟩
          have hown1 := hide ((hown.alloc _).later hb1)
          have hnx1 : Below w.heap.size w w1 := nx_trans (nx_al hnx) hb1
          obtain ⟨hc1, hf1⟩ := bcell hb1
          have hz1 : wr.heap.size < w1.heap.size := by have := hb1.size; simp at this; omega
          go_wp2_with (at_builtin; refine wp_app2 _ rfl _ _ rfl w.heap.size w1.heap.size wr.heap.size _ acc 32 rfl ((unhide hown1).alloc _) (unhide HL) rfl (by simp) ?c5 ?c3 ?c6)
          case c5 => have := hnx1.size; first | omega | (simp; omega)
          case c3 => omega
          case c6 =>
            intro v2 w2 hown2 hb2 hkeep
            have hnx2 : Below w.heap.size w w2 := (hnx1.alloc hnx1.size _).trans hb2
            have hk2 : ∀ o, w2.cell? ⟨wr.heap.size, o, none⟩ = w1.cell? ⟨wr.heap.size, o, none⟩ := fun o => by
              rw [hkeep wr.heap.size o (Nat.le_refl _) (by first | omega | (simp; omega))]
              exact (nx_alloc w1 _).cell (p := ⟨wr.heap.size, o, none⟩) hz1
            have HO2 := hide hown2
            clear hown2 hb2 hown hkeep hown1
            go_wp2_with fail
            refine (appendToken_any w.heap.size (acc ++ [32]) _ vk vn vt w2 hnx2.size (unhide HO2) (by omega) (by simp; omega)).mono ?_
            rintro e w3 ⟨v3, rfl, hown3, hb3⟩
            rw [← unhide hX, List.append_assoc] at hown3
            have HO3 := hide hown3
            clear hc1 hf1 hown3 hk2
            go_wp2
            go_roundw
            case rel => exact ⟨k + 1, acc ++ ([32] ++ xt), by omega, by go_num, hide (unhide hd), unhide HO3, hnx2.trans hb3⟩
            case measure => simp [intOf]; omega
    · have hd := hide (joinR_ok h300 (by omega) (unhide hin))
      have hcv := hown.conv
      go_wp2
      go_ret2
      exact ⟨ret_join ((unhide HJ).trans (unhide hd)), hnx⟩

theorem JoinTokens_any (p : Option Addr) (vs : List V3) (cap : Nat) (w : World) (hrow : ToksAt w p vs) (hlen : vs.length ≤ 1048576) (hsz : ∀ v ∈ vs, v.t.size ≤ maxLen) (ht : Hid (Tabs w)) :
    Calls Tryd.prog 22 #[.slice p vs.length cap] w fun e w' => e = .returned (.tuple #[.string ⟨(joinR vs).1.toArray⟩, .int .i64 (joinR vs).2]) ∧ Below w.heap.size w w' := by
  by_cases h4 : 4096 < vs.length
  · rw [joinR_long h4]
    exact (JoinTokens_long p vs cap w h4 (by omega)).mono fun e w' h => ⟨h.1, h.2 ▸ Below.refl _ _⟩
  by_cases h3 : 300 < vs.length
  · rw [joinR_many h4 h3]
    exact (JoinTokens_many p vs cap w h4 h3).mono fun e w' h => ⟨h.1, h.2 ▸ Below.refl _ _⟩
  exact JoinTokens_loop p vs cap w hrow (by omega) hsz ht

end Go.Proofs.YtckdacbopejdmaaDoor
