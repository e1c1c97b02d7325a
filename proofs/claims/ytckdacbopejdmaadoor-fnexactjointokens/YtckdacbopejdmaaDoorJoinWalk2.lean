/- Tokens with blanks between, the specification's side; the law. -/
import Derived.Test.YtckdacbopejdmaaDoorJoinWalk
namespace Go.Proofs.YtckdacbopejdmaaDoor
open Go.RowKit
set_option linter.unusedVariables false

theorem infoStr : (Tryd.prog.info? 9).map (fun i => (i.zero, i.size, i.bytes)) = some (some (.string ⟨#[]⟩), 1, 16) := by kernel_rfl
/-- a list of texts of one's own -/
def SBuf (w : World) (base : Nat) (v : Value) (ts : List (List UInt8)) : Prop := w.ownsRow base 9 1 v ts.length (ts.map fun t => Value.string ⟨t.toArray⟩)
theorem SBuf.alloc {w : World} {base : Nat} {v : Value} {ts : List (List UInt8)} (h : SBuf w base v ts) (o : Obj) : SBuf (w.alloc o) base v ts := World.ownsRow.alloc h o
theorem SBuf.lit0 (w : World) (base : Nat) (h : base ≤ w.heap.size) : SBuf (w.alloc (.cells #[] 9)) base (.slice (some ⟨w.heap.size, 0, none⟩) 0 0) [] := by
  have := World.ownsRow_lit (base := base) (e := 9) (size := 1) w #[] 0 h (by decide) (by simp)
  simpa [SBuf] using this
theorem SBuf.later {w w' : World} {base : Nat} {v : Value} {ts : List (List UInt8)} (h : SBuf w base v ts) (hb : Below w.heap.size w w') : SBuf w' base v ts := by
  refine ⟨h.1, ?_⟩
  rcases h.2 with h | ⟨g, cap, cur, e, hg, hgg, r⟩
  · exact .inl h
  · exact .inr ⟨g, cap, cur, e, hg, by rw [hb.block g (Array.getElem?_eq_some_iff.1 hgg).1]; exact hgg, r⟩
theorem SBuf.slice {w : World} {base : Nat} {v : Value} {ts : List (List UInt8)} (h : SBuf w base v ts) : ∃ a cap, v = .slice a ts.length cap := own_slice h
theorem SBuf.cells {w : World} {base : Nat} {v : Value} {ts : List (List UInt8)} (h : SBuf w base v ts) : ∃ a cap, v = .slice a ts.length cap ∧ ∀ i (hi : i < ts.length), ∃ g, a = some ⟨g, 0, none⟩ ∧ w.cell? ⟨g, i, none⟩ = some (.string ⟨ts[i].toArray⟩) := by
  rcases h.2 with ⟨rfl, h0⟩ | ⟨g, cap, cur, rfl, hg⟩
  · exact ⟨none, 0, by rw [h0], fun i hi => by omega⟩
  · refine ⟨some ⟨g, 0, none⟩, cap, rfl, fun i hi => ⟨g, rfl, ?_⟩⟩
    have := World.ownsRow.cells h (g := g) rfl i (.string ⟨ts[i].toArray⟩) (by simp [hi])
    by_cases e : i = 0
    · subst e; simpa [Addr.add] using this
    · simpa [Addr.add, e] using this

theorem wp_appT (w : World) {ops : Array Oper} {rest : List Oper} {o : Oper} {a : Act} {Q : Exit → Act → World → Prop} (hgd : o.guard = none) (s x : Operand)
    (ho : o.op = .call { callee := .builtin .append, args := #[s, x], argTypes := #[61, 61] }) (base g : Nat) (v : Value) (ts : List (List UInt8)) (c : List UInt8) (hs : a.eval s = v)
    (hown : SBuf w base v ts) (hx : a.eval x = .slice (some ⟨g, 0, none⟩) 1 1) (hc : w.cell? ⟨g, 0, none⟩ = some (.string ⟨c.toArray⟩)) (hbase : base ≤ w.heap.size) (hl : ts.length ≤ 1000000000)
    (h : ∀ v' w', SBuf w' base v' (ts ++ [c]) → Below base w w' → wpList Tryd.prog ops Q rest (a.put o.dst v') w') : wpList Tryd.prog ops Q (o :: rest) a w := by
  obtain ⟨i0, hi, hz0, hz1, hz2⟩ := info_parts infoStr
  refine wpList_append_own _ hgd s x 61 ho base 9 i0 (.string ⟨#[]⟩) 1 16 Tryd.underlying61 hi hz0 hz1 hz2 rfl (by decide) _ _ _ hs hown ⟨g, 0, none⟩ 1 1 [Value.string ⟨c.toArray⟩] hx rfl ?_ ?_ (by unfold maxLen; omega) (by omega) hbase ?_
  · intro j u' hj
    match j, hj with
    | 0, hj => simp at hj; subst hj; simpa [Addr.add] using hc
  · intro u' hu'; simp at hu'; subst hu'; rfl
  · intro v' w' hown' hgrow _
    refine h v' w' ?_ ((Below.refl _ _).grown hgrow hbase (fun j hj => (World.ownsRow.lt hown j hj).1))
    unfold SBuf
    rw [List.map_append, show (ts ++ [c]).length = ts.length + 1 by simp]
    exact hown'

theorem ret_str {a b : ByteArray} (h : a = b) : Ending.returned (.string a) = .returned (.string b) := by rw [h]
theorem str_add (a b : List UInt8) : (⟨a.toArray⟩ : ByteArray) ++ ⟨b.toArray⟩ = ⟨(a ++ b).toArray⟩ := by
  apply ByteArray.ext
  simp

/-- the first k texts are joined -/
def PutAt (ts : List (List UInt8)) (k : Nat) (o : ByteArray) : Prop := o = ⟨(joinT (ts.take k)).toArray⟩ ∧ o.size ≤ 123 * k
theorem size_mk (l : List UInt8) : (⟨l.toArray⟩ : ByteArray).size = l.length := by simp [ByteArray.size]
theorem put_first {ts : List (List UInt8)} {o : ByteArray} (h : PutAt ts 0 o) (hk : 0 < ts.length) (hl : ts[0].length ≤ 122) : PutAt ts 1 (o ++ ⟨ts[0].toArray⟩) := by
  have e : ts.take (0 + 1) = ts.take 0 ++ [ts[0]] := List.take_succ_eq_append_getElem hk
  refine ⟨?_, ?_⟩
  · rw [h.1, str_add]
    show _ = (⟨(joinT (ts.take (0 + 1))).toArray⟩ : ByteArray)
    rw [e]; simp [joinT]
  · rw [ByteArray.size_append, size_mk ts[0]]; have := h.2; omega
theorem put_next {ts : List (List UInt8)} {k : Nat} {o : ByteArray} (h : PutAt ts k o) (h0 : 0 < k) (hk : k < ts.length) (hl : ts[k].length ≤ 122) : PutAt ts (k + 1) (o ++ ⟨#[32]⟩ ++ ⟨ts[k].toArray⟩) := by
  have e : ts.take (k + 1) = ts.take k ++ [ts[k]] := List.take_succ_eq_append_getElem hk
  refine ⟨?_, ?_⟩
  · rw [h.1, e, joinT_snoc, if_neg]
    · rw [show (⟨#[32]⟩ : ByteArray) = ⟨[32].toArray⟩ from rfl, str_add, str_add]; simp
    · intro e2
      have := congrArg List.length e2
      rw [List.length_take, List.length_nil] at this
      omega
  · rw [ByteArray.size_append, ByteArray.size_append, size_mk ts[k]]; have := h.2; have : (⟨#[32]⟩ : ByteArray).size = 1 := rfl; omega
theorem put_done {ts : List (List UInt8)} {k : Nat} {o : ByteArray} (h : PutAt ts k o) (hk : ts.length ≤ k) : o = ⟨(joinT ts).toArray⟩ := by
  rw [h.1, List.take_of_length_le hk]

set_option maxHeartbeats 4000000 in
theorem l00Join_any (base : Nat) (v : Value) (ts : List (List UInt8)) (w : World) (hown : SBuf w base v ts) (h300 : ts.length ≤ 300) (hl : ∀ t ∈ ts, t.length ≤ 122) :
    Calls Tryd.prog 62 #[v, .string ⟨#[32]⟩] w fun e w' => e = .returned (.string ⟨(joinT ts).toArray⟩) ∧ w' = w := by
  obtain ⟨a, cap, rfl, hcell⟩ := hown.cells
  have HC := hide hcell
  have HL := hide hl
  clear hcell hown hl
  go_enter Tryd.func62, Tryd.ntmps62
  go_wp2
  go_loop [5, 6] (fun m i => ∃ (k : Nat) (o : ByteArray), k ≤ ts.length ∧ i = .int .i64 k ∧ m = .string o ∧ Hid (PutAt ts k o)) (fun _ i => ts.length - (intOf i).toNat)
  case atStart => exact ⟨0, ⟨#[]⟩, by omega, rfl, rfl, hide ⟨rfl, Nat.le_of_eq rfl⟩⟩
  case round =>
    obtain ⟨k, o, hk, rfl, rfl, hin⟩ := hrel
    have hos : o.size ≤ 123 * k := (unhide hin).2
    by_cases hlt : k < ts.length
    · obtain ⟨g, rfl, q0⟩ := unhide HC k hlt
      have htl := unhide HL ts[k] (List.getElem_mem hlt)
      have hz := size_mk ts[k]
      have hf := hide (fun h0 : k = 0 => show PutAt ts (k + 1) (o ++ ⟨ts[k].toArray⟩) by subst h0; exact put_first (unhide hin) hlt htl)
      have hn := hide (fun h0 : 0 < k => put_next (unhide hin) h0 hlt htl)
      generalize (⟨ts[k].toArray⟩ : ByteArray) = tk at q0 hf hn hz
      by_cases h0 : k = 0
      · have hd := hide (unhide hf h0)
        have e0 : ¬ (0 : Int) < (k : Int) := by omega
        clear h0
        go_wp2
        go_round
        case rel => exact ⟨k + 1, _, by omega, by go_num, rfl, unhide hd⟩
        case measure => simp [intOf]; omega
      · have hd := hide (unhide hn (by omega))
        have e0 : (0 : Int) < (k : Int) := by omega
        have h32 : (o ++ ⟨#[32]⟩ : ByteArray).size = o.size + 1 := by rw [ByteArray.size_append]; rfl
        clear h0
        go_wp2
        go_round
        case rel => exact ⟨k + 1, _, by omega, by go_num, rfl, unhide hd⟩
        case measure => simp [intOf]; omega
    · have hd := hide (put_done (unhide hin) (by omega))
      go_wp2
      go_ret
      exact ⟨ret_str (unhide hd), rfl⟩

theorem specJoinTokens_long (p : Option Addr) (vs : List V3) (cap : Nat) (w : World) (h : 4096 < vs.length) (hm : vs.length ≤ 9223372036854775807) :
    Calls Tryd.prog 33 #[.slice p vs.length cap] w fun e w' => e = .returned (.tuple #[.string ⟨#[]⟩, .int .i64 2]) ∧ w' = w := by
  go_enter Tryd.func33, Tryd.ntmps33
  go_wp2
  go_ret2
  exact ⟨rfl, rfl⟩

theorem specJoinTokens_many (p : Option Addr) (vs : List V3) (cap : Nat) (w : World) (h0 : ¬ 4096 < vs.length) (h : 300 < vs.length) :
    Calls Tryd.prog 33 #[.slice p vs.length cap] w fun e w' => e = .returned (.tuple #[.string ⟨#[]⟩, .int .i64 6]) ∧ w' = w := by
  go_enter Tryd.func33, Tryd.ntmps33
  go_wp2
  go_ret2
  exact ⟨rfl, rfl⟩

/-- the first k are right, and written -/
def WrittenAt (vs : List V3) (k : Nat) (ts : List (List UInt8)) : Prop := (vs.take k).all okX = true ∧ ts = (vs.take k).map tokX
theorem written_next {vs : List V3} {k : Nat} {ts : List (List UInt8)} (h : WrittenAt vs k ts) (hk : k < vs.length) (hv : okX vs[k] = true) : WrittenAt vs (k + 1) (ts ++ [tokX vs[k]]) := by
  refine ⟨?_, ?_⟩
  · rw [take_snocV vs k hk, List.all_append, h.1]; simp [hv]
  · rw [take_snocV vs k hk, List.map_append, h.2]; rfl
theorem written_len {vs : List V3} {k : Nat} {ts : List (List UInt8)} (h : WrittenAt vs k ts) : ts.length ≤ k ∧ ∀ t ∈ ts, t.length ≤ 122 := by
  refine ⟨by rw [h.2, List.length_map, List.length_take]; omega, fun t ht => ?_⟩
  rw [h.2] at ht
  obtain ⟨v, hv, rfl⟩ := List.mem_map.1 ht
  exact tokT_len (List.all_eq_true.1 h.1 v hv)
theorem written_done {vs : List V3} {k : Nat} {ts : List (List UInt8)} (h1 : vs.length ≤ 300) (hk : vs.length ≤ k) (h : WrittenAt vs k ts) : joinR vs = (joinT ts, 0) := by
  have h2 := h.1
  have h3 := h.2
  rw [List.take_of_length_le hk] at h2 h3
  unfold joinR
  rw [if_neg (by omega), if_neg (by omega), if_pos h2, h3]

set_option maxHeartbeats 8000000 in
set_option maxRecDepth 100000 in
theorem specJoinTokens_loop (p : Option Addr) (vs : List V3) (cap : Nat) (w : World) (hrow : ToksAt w p vs) (h300 : vs.length ≤ 300) (hsz : ∀ v ∈ vs, v.t.size ≤ maxLen) :
    Calls Tryd.prog 33 #[.slice p vs.length cap] w fun e w' => e = .returned (.tuple #[.string ⟨(joinR vs).1.toArray⟩, .int .i64 (joinR vs).2]) ∧ Below w.heap.size w w' := by
  have HR := hide hrow
  have HS := hide hsz
  clear hrow hsz
  obtain ⟨r, hr⟩ : ∃ r, r = joinR vs := ⟨_, rfl⟩
  rw [← hr]
  have HJ := hide hr
  clear hr
  have h4 : ¬ 4096 < vs.length := by omega
  have h3 : ¬ 300 < vs.length := by omega
  have hlit := hide (SBuf.lit0 w w.heap.size (Nat.le_refl _))
  go_enter Tryd.func33, Tryd.ntmps33
  go_wp2
  go_loopw [4, 5] (fun m i wx => ∃ (k : Nat) (ts : List (List UInt8)), k ≤ vs.length ∧ i = .int .i64 k ∧ Hid (WrittenAt vs k ts) ∧ SBuf wx w.heap.size m ts ∧ Below w.heap.size w wx) (fun _ i _ => vs.length - (intOf i).toNat)
  case atStart => exact ⟨0, [], by omega, rfl, hide ⟨by simp, by simp⟩, unhide hlit, nx_alloc _ _⟩
  case round =>
    clear hlit
    obtain ⟨k, ts, hk, rfl, hin, hown, hnx⟩ := hrel
    have hal : ts.length ≤ k := (written_len (unhide hin)).1
    have hwr : w.heap.size ≤ wr.heap.size := hnx.size
    by_cases hlt : k < vs.length
    · obtain ⟨b, off, rfl, q0, q1, q2⟩ := (unhide HR).later hnx k hlt
      have hvs := unhide HS vs[k] (List.getElem_mem hlt)
      have hcl := hide (fun (w1 : World) (hb : Below wr.heap.size wr w1) => (unhide HR).later (nx_trans hnx hb) k hlt)
      have hbad := hide (fun h => joinR_bad (k := k) h300 hlt h)
      have hnext := hide (fun (hv : okX vs[k] = true) => written_next (unhide hin) hlt hv)
      have hX : Hid (tokX vs[k] = tokT vs[k].k vs[k].t.data.toList) := rfl
      obtain ⟨ok, hok⟩ : ∃ ok, okX vs[k] = ok := ⟨_, rfl⟩
      have HOK := hide (show tokB vs[k].k vs[k].t.data.toList = ok from hok)
      rw [hok] at hbad hnext
      generalize tokX vs[k] = xt at hnext hX
      clear hok
      generalize vs[k].k = vk at q0 HOK hX hcl
      generalize vs[k].n = vn at q1 hcl
      generalize vs[k].t = vt at q2 HOK hvs hX hcl
      cases ok
      · have hd := hide (unhide hbad rfl)
        clear hbad hnext
        go_wp2_with fail
        refine (l02Token_is vk vn vt false _ hvs HOK).mono ?_
        rintro e w1 ⟨rfl, hb1⟩
        go_wp2
        go_ret2
        exact ⟨ret_join ((unhide HJ).trans (unhide hd)), nx_trans hnx hb1⟩
      · have hvl : vt.size ≤ 60 := by have := tokB_len (unhide HOK); rw [size_list] at this; exact this
        have hd := hide (unhide hnext rfl)
        clear hbad hnext
        go_wp2_with fail
        refine (l02Token_is vk vn vt true _ hvs HOK).mono ?_
        rintro e w1 ⟨rfl, hb1⟩
        have hown1 := hide (hown.later hb1)
        have hnx1 : Below w.heap.size w w1 := nx_trans hnx hb1
        obtain ⟨b', off', ebo, r0, r1, r2⟩ := unhide hcl w1 hb1
        simp only [Option.some.injEq, Addr.mk.injEq, and_true] at ebo
        obtain ⟨rfl, rfl⟩ := ebo
        clear q0 q1 q2
        go_wp2_with fail
        refine (l02TokenText_any vk vn vt w1 (by omega)).mono ?_
        rintro e w2 ⟨rfl, hb2⟩
        rw [← unhide hX]
        have hown2 := hide ((unhide hown1).later hb2)
        have hnx2 : Below w.heap.size w w2 := nx_trans hnx1 hb2
        clear r0 r1 r2
        go_wp2_with (at_builtin; refine wp_appT _ rfl _ _ rfl w.heap.size w2.heap.size _ ts xt rfl ((unhide hown2).alloc _) rfl (by simp) ?c5 ?c3 ?c6)
        case c5 => have := hnx2.size; first | omega | (simp; omega)
        case c3 => omega
        case c6 =>
          intro v3 w3 hown3 hb3
          have hnx3 : Below w.heap.size w w3 := (hnx2.alloc hnx2.size _).trans hb3
          have HO3 := hide hown3
          clear hown3 hb3 hown
          go_wp2
          go_roundw
          case rel => exact ⟨k + 1, ts ++ [xt], by omega, by go_num, hide (unhide hd), unhide HO3, hnx3⟩
          case measure => simp [intOf]; omega
    · have hd := hide (written_done h300 (by omega) (unhide hin))
      have hwl := hide (written_len (unhide hin)).2
      go_wp2_with fail
      refine (l00Join_any w.heap.size _ ts _ hown (by omega) (unhide hwl)).mono ?_
      rintro e w1 ⟨rfl, rfl⟩
      go_wp2
      go_ret2
      exact ⟨ret_join ((unhide HJ).trans (unhide hd)), hnx⟩

theorem specJoinTokens_any (p : Option Addr) (vs : List V3) (cap : Nat) (w : World) (hrow : ToksAt w p vs) (hlen : vs.length ≤ 1048576) (hsz : ∀ v ∈ vs, v.t.size ≤ maxLen) :
    Calls Tryd.prog 33 #[.slice p vs.length cap] w fun e w' => e = .returned (.tuple #[.string ⟨(joinR vs).1.toArray⟩, .int .i64 (joinR vs).2]) ∧ Below w.heap.size w w' := by
  by_cases h4 : 4096 < vs.length
  · rw [joinR_long h4]
    exact (specJoinTokens_long p vs cap w h4 (by omega)).mono fun e w' h => ⟨h.1, h.2 ▸ Below.refl _ _⟩
  by_cases h3 : 300 < vs.length
  · rw [joinR_many h4 h3]
    exact (specJoinTokens_many p vs cap w h4 h3).mono fun e w' h => ⟨h.1, h.2 ▸ Below.refl _ _⟩
  exact specJoinTokens_loop p vs cap w hrow (by omega) hsz

set_option maxHeartbeats 2000000 in
theorem lawJoinTokens_any (p : Option Addr) (vs : List V3) (cap : Nat) (w : World) (hrow : ToksAt w p vs) (hlen : vs.length ≤ maxLen) (hsz : ∀ v ∈ vs, v.t.size ≤ maxLen) (hT : Tabs w) :
    Calls Tryd.prog 8 #[.slice p vs.length cap] w fun e w' => e = .returned (.bool true) ∧ Below w.heap.size w w' := by
  unfold maxLen at hlen
  have HT := hide hT
  have HR := hide hrow
  have HS := hide hsz
  clear hT hrow hsz
  go_enter Tryd.func8, Tryd.ntmps8
  go_wp2_with fail
  refine (szTokenS_any p vs cap _ (unhide HR) (by omega) (unhide HS)).mono ?_
  rintro e w1 ⟨r, rfl, hr, hb1⟩
  rcases hr with hr | ⟨hr, hl⟩
  · go_wp2
    go_ret
    exact ⟨rfl, hb1⟩
  · have hr' : ¬ r < 0 := by omega
    clear hr
    go_wp2_with fail
    refine (toTokenS_any p vs cap _ ((unhide HR).later hb1) hl).mono ?_
    rintro e w2 ⟨rfl, ha2, hb2⟩
    have HA2 := hide ha2
    have hB2 := hide (nx_trans hb1 hb2)
    clear ha2 hb2 hb1
    go_wp2_with fail
    refine (specJoinTokens_any _ vs _ _ (unhide HA2).toks hl (unhide HS)).mono ?_
    rintro e w3 ⟨rfl, hb3⟩
    have hB3 := hide (nx_trans (unhide hB2) hb3)
    clear hb3
    go_wp2_with fail
    refine (toTokenS_any p vs cap _ ((unhide HR).later (unhide hB3)) hl).mono ?_
    rintro e w4 ⟨rfl, ha4, hb4⟩
    have HA4 := hide ha4
    have hB4 := hide (nx_trans (unhide hB3) hb4)
    clear ha4 hb4
    go_wp2_with fail
    refine (JoinTokens_any _ vs _ _ (unhide HA4).toks hl (unhide HS) (hide ((unhide HT).later (unhide hB4)))).mono ?_
    rintro e w5 ⟨rfl, hb5⟩
    have HA5 := hide ((unhide HA4).later hb5)
    have hB5 := hide (nx_trans (unhide hB4) hb5)
    clear hb5
    go_wp2_with fail
    refine (toTokenS_any p vs cap _ ((unhide HR).later (unhide hB5)) hl).mono ?_
    rintro e w6 ⟨rfl, ha6, hb6⟩
    have HA6 := hide ha6
    have HA5' := hide ((unhide HA5).later hb6)
    have hB6 := hide (nx_trans (unhide hB5) hb6)
    clear ha6 hb6
    go_wp2_with fail
    refine (eqTokenS_same _ _ vs _ _ _ hl (unhide HA5').toks (unhide HA6).toks).mono ?_
    rintro e w7 ⟨rfl, hb7⟩
    go_wp2
    go_ret
    exact ⟨rfl, nx_trans (unhide hB6) hb7⟩

end Go.Proofs.YtckdacbopejdmaaDoor
