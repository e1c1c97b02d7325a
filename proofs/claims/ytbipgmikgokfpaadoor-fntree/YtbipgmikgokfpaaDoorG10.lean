/- A bundle. -/
import Derived.Test.YtbipgmikgokfpaaDoorG09
import Derived.Maps.AppendAt
import Derived.Test.YtbipgmikgokfpaaDoorG01

/- CallWalk1 -/
namespace Go.Proofs.YtbipgmikgokfpaaDoor
open Go.RowKit Go.Joins
set_option linter.unusedVariables false

/-- all that was there stays but v's row; v' lies there, or in a new block -/
structure GrowB (v v' : Value) (w w' : World) : Prop where
  grown : w.grownBy w' v.ownBlock
  lies : ∀ j, v'.ownBlock = some j → v.ownBlock = some j ∨ w.heap.size ≤ j
theorem GrowB.refl (v : Value) (w : World) : GrowB v v w w := ⟨⟨rfl, rfl, rfl, Nat.le_refl _, fun _ _ _ => rfl⟩, fun j h => .inl h⟩
theorem GrowB.trans {u v x : Value} {a b c : World} (h : GrowB u v a b) (k : GrowB v x b c) : GrowB u x a c := by
  have hs := h.grown.size
  refine ⟨⟨k.grown.os.trans h.grown.os, k.grown.tape.trans h.grown.tape, k.grown.output.trans h.grown.output, Nat.le_trans hs k.grown.size, fun i hi hne => ?_⟩, fun j hj => ?_⟩
  · rw [k.grown.block i (by omega) (fun e => ?_), h.grown.block i hi hne]
    rcases h.lies i e.symm with e' | e'
    · exact hne e'.symm
    · omega
  · rcases k.lies j hj with e | e
    · exact h.lies j e
    · exact .inr (by omega)
theorem GrowB.of_below {v : Value} {w w' : World} (h : Below w.heap.size w w') : GrowB v v w w' := ⟨⟨h.os, h.tape, h.output, h.size, fun k hk _ => h.block k hk⟩, fun j h => .inl h⟩
theorem GrowB.then_below {u v : Value} {a b c : World} (h : GrowB u v a b) (k : Below b.heap.size b c) : GrowB u v a c := h.trans (.of_below k)
theorem GrowB.cell {v v' x : Value} {w w' : World} {b o : Nat} (h : GrowB v v' w w') (hc : w.cell? ⟨b, o, none⟩ = some x) (hne : ∀ j, v.ownBlock = some j → j ≠ b) : w'.cell? ⟨b, o, none⟩ = some x :=
  h.grown.cell (a := ⟨b, o, none⟩) hc (fun e => hne b e.symm rfl)
theorem GrowB.block {v v' : Value} {w w' : World} {b : Nat} (h : GrowB v v' w w') (hb : b < w.heap.size) (hne : ∀ j, v.ownBlock = some j → j ≠ b) : w'.heap[b]? = w.heap[b]? := h.grown.block b hb (fun e => hne b e.symm rfl)
theorem GrowB.below {v v' : Value} {w w' : World} {base : Nat} (h : GrowB v v' w w') (hb : base ≤ w.heap.size) (hne : ∀ j, v.ownBlock = some j → base ≤ j) : Below base w w' := ⟨h.grown.os, h.grown.tape, h.grown.output, h.grown.size, fun k hk => h.block (by omega) (fun j hj e => by have := hne j hj; omega)⟩

theorem wp_appStrAt (w : World) {ops : Array Oper} {rest : List Oper} {o : Oper} {a : Act} {Q : Exit → Act → World → Prop} (hgd : o.guard = none) (s x : Operand)
    (ho : o.op = .call { callee := .builtin .append, args := #[s, x], argTypes := #[34, 34] }) (base g : Nat) (v : Value) (zs : List ByteArray) (c : ByteArray) (hs : a.eval s = v)
    (hown : StrBuf w base v zs) (hx : a.eval x = .slice (some ⟨g, 0, none⟩) 1 1) (hc0 : w.cell? ⟨g, 0, none⟩ = some (.string c)) (hbase : base ≤ w.heap.size) (hl : zs.length ≤ 1000000000)
    (h : ∀ v' w', StrBuf w' base v' (zs ++ [c]) → GrowB v v' w w' → wpList Tryd.prog ops Q rest (a.put o.dst v') w') : wpList Tryd.prog ops Q (o :: rest) a w := by
  obtain ⟨i0, hi, hz0, hz1, hz2⟩ := info_parts infoSt
  refine wpList_append_own_at _ hgd s x 34 ho base 9 i0 (.string ⟨#[]⟩) 1 16 Tryd.underlying34 hi hz0 hz1 hz2 rfl (by decide) _ _ _ hs hown ⟨g, 0, none⟩ 1 1 [.string c] hx rfl ?_ ?_ (by unfold maxLen; omega) (by omega) hbase ?_
  · intro j u' hj
    match j, hj with
    | 0, hj => simp at hj; subst hj; simpa [Addr.add] using hc0
    | j + 1, hj => simp at hj
  · intro u' hu'
    simp at hu'
    subst hu'
    rfl
  · intro v' w' hown' hgrow _ hat
    rw [show zs.map Value.string ++ [.string c] = (zs ++ [c]).map Value.string by simp, show zs.length + 1 = (zs ++ [c]).length by simp] at hown'
    refine h v' w' hown' ⟨hgrow, fun j hj => ?_⟩
    rcases hat with e | e
    · exact .inl (e ▸ hj)
    · rw [hj] at e
      exact .inr (by injection e with e; omega)

set_option maxHeartbeats 1000000 in
set_option maxRecDepth 100000 in
theorem IndexS_any (p : Option Addr) (zs : List ByteArray) (cap : Nat) (s : ByteArray) (w : World) (hz : StrsAt w p zs) (hl : zs.length ≤ 1048576) :
    Calls Tryd.prog 135 #[.slice p zs.length cap, .string s] w fun e w' => ∃ r : Int, e = .returned (.int .i64 r) ∧ (s ∉ zs ∧ r < 0 ∨ s ∈ zs ∧ 0 ≤ r) ∧ w' = w := by
  have HZ := hide hz
  clear hz
  go_enter Tryd.func135, Tryd.ntmps135
  go_wp2
  go_loopw [8] (fun i wx => ∃ k : Nat, k ≤ zs.length ∧ i = .int .i64 k ∧ Hid (s ∉ zs.take k) ∧ wx = w) (fun i _ => zs.length - (intOf i).toNat)
  case atStart => exact ⟨0, by omega, rfl, hide (by simp), rfl⟩
  case round =>
    obtain ⟨k, hk, rfl, hup, hw⟩ := hrel
    subst hw
    by_cases hlt : k < zs.length
    · obtain ⟨b, off, rfl, q0⟩ := unhide HZ k hlt
      have HM := hide (List.getElem_mem hlt)
      have HT := hide (List.take_succ_eq_append_getElem hlt)
      generalize zs[k] = u at q0 HM HT
      by_cases hu : s = u
      · have hd : Hid (s ∈ zs) := hide (hu ▸ unhide HM)
        subst hu
        have e1 := ba_self s
        have e2 := bl_self s
        clear HM HT
        go_wp2
        go_ret
        exact ⟨k, rfl, .inr ⟨unhide hd, by omega⟩, rfl⟩
      · have hd : Hid (s ∉ zs.take (k + 1)) := hide (by
          rw [unhide HT]
          intro h
          rcases List.mem_append.1 h with h | h
          · exact unhide hup h
          · exact hu (List.mem_singleton.1 h))
        have e1 := ba_ne hu
        have e2 := bl_ne hu
        clear hu HM HT
        go_wp2
        go_roundw
        case rel => exact ⟨k + 1, by omega, by go_num, hide (unhide hd), trivial⟩
        case measure => simp [intOf]; omega
    · obtain rfl : k = zs.length := by omega
      rw [List.take_length] at hup
      go_wp2
      go_ret
      exact ⟨-1, rfl, .inl ⟨unhide hup, by omega⟩, rfl⟩

set_option maxRecDepth 100000 in
theorem ContainsS_yes (p : Option Addr) (zs : List ByteArray) (cap : Nat) (s : ByteArray) (w : World) (hz : StrsAt w p zs) (hl : zs.length ≤ 1048576) (hm : s ∈ zs) :
    Calls Tryd.prog 104 #[.slice p zs.length cap, .string s] w fun e w' => e = .returned (.bool true) ∧ w' = w := by
  have HZ := hide hz
  have HM := hide hm
  clear hz hm
  go_enter Tryd.func104, Tryd.ntmps104
  go_wp2_with fail
  refine (IndexS_any p zs cap s _ (unhide HZ) hl).mono ?_
  rintro e w' ⟨r, rfl, hr, rfl⟩
  have hr0 : 0 ≤ r := by
    rcases hr with ⟨ha, hr⟩ | ⟨ha, hr⟩
    · exact absurd (unhide HM) ha
    · exact hr
  clear hr
  go_wp2
  go_ret
  exact ⟨rfl, rfl⟩
set_option maxRecDepth 100000 in
theorem ContainsS_no (p : Option Addr) (zs : List ByteArray) (cap : Nat) (s : ByteArray) (w : World) (hz : StrsAt w p zs) (hl : zs.length ≤ 1048576) (hm : s ∉ zs) :
    Calls Tryd.prog 104 #[.slice p zs.length cap, .string s] w fun e w' => e = .returned (.bool false) ∧ w' = w := by
  have HZ := hide hz
  have HM := hide hm
  clear hz hm
  go_enter Tryd.func104, Tryd.ntmps104
  go_wp2_with fail
  refine (IndexS_any p zs cap s _ (unhide HZ) hl).mono ?_
  rintro e w' ⟨r, rfl, hr, rfl⟩
  have hr0 : ¬ 0 ≤ r := by
    rcases hr with ⟨ha, hr⟩ | ⟨ha, hr⟩
    · omega
    · exact absurd ha (unhide HM)
  have hd : decide (0 ≤ r) = false := decide_eq_false hr0
  clear hr
  go_wp2
  go_ret
  exact ⟨rfl, rfl⟩

def ptrB : Value → Nat
  | .pointer (some a) => a.block
  | _ => 0
set_option maxHeartbeats 1000000 in
set_option maxRecDepth 100000 in
theorem outmost_any (ns : List TN) (root : Int) (L : Lay) (G B : Nat) (loc : Nat → Nat) (l : List Nat) (d x : Nat) (w : World) (hT : TreeP ns root l d) (hG : Grown w G B L ns root loc l) (hx : x < ns.length) :
    Calls Tryd.prog 81 #[.pointer (some ⟨loc x, 0, none⟩)] w fun e w' => e = .returned (.pointer (some ⟨loc root.toNat, 0, none⟩)) ∧ w' = w := by
  have HT := hide hT
  have HG := hide hG
  clear hT hG
  go_enter Tryd.func81, Tryd.ntmps81
  go_wp2
  go_loopw [0] (fun v wx => ∃ y : Nat, y < ns.length ∧ v = .pointer (some ⟨loc y, 0, none⟩) ∧ wx = w) (fun v _ => ptrB v)
  case atStart => exact ⟨x, hx, rfl, rfl⟩
  case round =>
    obtain ⟨y, hy, rfl, hw⟩ := hrel
    subst hw
    by_cases hr : (y : Int) = root
    · have c6 := (unhide HG).top
      have hyr : y = root.toNat := by omega
      subst hyr
      clear hr
      generalize hgr : loc root.toNat = gr at c6
      go_wp2
      go_ret
      exact ⟨by rw [hgr]; rfl, rfl⟩
    · obtain ⟨p, hpl, hp⟩ := (unhide HT).over (a := y) hy hr
      have hpn : p < ns.length := (unhide HT).2.1.1.lt p hpl
      obtain ⟨n2, _, _, hn2, _, _, _, _, _, _, _, _, _, hkid⟩ := (unhide HG).br p hpl
      obtain ⟨n', hn', j, hj, _, hjx⟩ := hp
      rw [hn2] at hn'
      obtain rfl := Option.some.inj hn'
      obtain ⟨_, hlt, c6⟩ := hkid j hj
      rw [hjx] at c6 hlt
      clear hkid hn2 hj hjx hpl hr
      generalize loc y = gy at c6 hlt
      generalize hgp : loc p = gp at c6 hlt
      go_wp2
      go_roundw
      case rel => exact ⟨p, hpn, by rw [hgp], trivial⟩
      case measure => simp [ptrB]; omega

/-- what the calls of a tree's part are gathered by: branches and the map lie below base -/
structure Gath (w : World) (base : Nat) (L : Lay) (ns : List TN) (loc : Nat → Nat) (l0 : List Nat) (b n : Nat) (f : ByteArray → Option Int) : Prop where
  br : ∀ y ∈ l0, BrIn w (fun k => k < base) L ns loc y
  map : MapIs w b n f
  blt : b < base
  fit : base ≤ w.heap.size
theorem Gath.grow {w w' : World} {base : Nat} {L : Lay} {ns : List TN} {loc : Nat → Nat} {l0 : List Nat} {b n : Nat} {f : ByteArray → Option Int} {v v' : Value} (h : Gath w base L ns loc l0 b n f) (hg : GrowB v v' w w') (hv : ∀ j, v.ownBlock = some j → base ≤ j) : Gath w' base L ns loc l0 b n f := by
  have hb := hg.below h.fit hv
  exact ⟨fun y hy => (h.br y hy).keep (fun k hk => hb.block k hk) (fun k hk => hk), h.map.same (hb.block b h.blt), h.blt, Nat.le_trans h.fit hb.size⟩
theorem Gath.later {w w' : World} {base : Nat} {L : Lay} {ns : List TN} {loc : Nat → Nat} {l0 : List Nat} {b n : Nat} {f : ByteArray → Option Int} (h : Gath w base L ns loc l0 b n f) (hb : Below w.heap.size w w') : Gath w' base L ns loc l0 b n f := by
  have hf := h.fit
  exact ⟨fun y hy => (h.br y hy).keep (fun k hk => hb.block k (by omega)) (fun k hk => hk), h.map.later hb, h.blt, Nat.le_trans h.fit hb.size⟩

set_option maxHeartbeats 4000000 in
set_option maxRecDepth 100000 in
theorem addCalls_any (ns : List TN) (L : Lay) (loc : Nat → Nat) (l0 : List Nat) (base b n nf cf : Nat) (pf : Option Addr) (f : ByteArray → Option Int) (hsm : Hid (Small ns)) : ∀ (D d x : Nat) (l : List Nat) (acc : List ByteArray) (v : Value) (w : World), d ≤ D → Vis ns [(x : Int)] l d → (∀ y ∈ l, y ∈ l0) → acc.length + l.length ≤ 1000 →
    StrBuf w base v acc → Gath w base L ns loc l0 b n f →
    Calls Tryd.prog 82 #[.agg #[.slice pf nf cf, .map (some b)], v, .pointer (some ⟨loc x, 0, none⟩)] w fun e w' => ∃ v' acc', e = .returned v' ∧ NodeC ns (fun s => (f s).isSome = true) (x : Int) acc acc' ∧ StrBuf w' base v' acc' ∧ GrowB v v' w w' := by
  intro D
  induction D with
  | zero =>
    intro d x l acc v w hd hv
    obtain ⟨_, _, _, _, _, _, _, _, _, _, rfl⟩ := hv.inv
    omega
  | succ D ih =>
    intro d x l acc v w hd hv hl0 hlen hS hG
    obtain ⟨nd, l1, l2, d1, d2, h0, hx, v1, v2, rfl, rfl⟩ := hv.inv
    cases v2
    rw [Int.toNat_natCast] at hx hl0
    rw [List.append_nil] at hl0 hlen
    have hd' : d1 ≤ D := by omega
    have hl1 : acc.length + l1.length + 1 ≤ 1000 := by rw [List.length_cons] at hlen; omega
    obtain ⟨n', pb, cb, hx', hgx, c0, c1, c2, c3, c4, c5, c7, hP, _⟩ := hG.br x (hl0 x (by simp))
    rw [hx] at hx'
    obtain rfl := Option.some.inj hx'
    obtain ⟨pa, cap, rfl⟩ := hS.slice
    have IH := hide ih
    have HP := hide hP
    have HV := hide v1
    have HX := hide hx
    have HL0 : Hid (∀ y ∈ l1, y ∈ l0) := hide (fun y hy => hl0 y (by simp [hy]))
    have hkl : nd.kids.length ≤ 1048576 := ((unhide hsm).2 nd (List.mem_of_getElem? hx)).2.2.1
    have htl : nd.t.size ≤ 1048576 := ((unhide hsm).2 nd (List.mem_of_getElem? hx)).1
    have HS := hide hS
    have HG := hide hG
    have hfit := hG.fit
    have hgw : loc x < w.heap.size := by omega
    have HOV : Hid (∀ j, (Value.slice pa acc.length cap).ownBlock = some j → base ≤ j ∧ j < w.heap.size) := hide hS.own_lt
    have HR : Hid (∀ a1 a2, CallsR ns (fun s => (f s).isSome = true) nd.kids acc a1 → addC (fun s => (f s).isSome = true) nd a1 a2 → NodeC ns (fun s => (f s).isSome = true) (x : Int) acc a2) := hide (fun a1 a2 h1 h2 => ⟨nd, a1, by omega, by rw [Int.toNat_natCast]; exact hx, h1, h2⟩)
    clear ih hP v1 hl0 hv hS hG hx c1 c3 c4 c5 hlen hd
    generalize loc x = gx at c0 c2 c7 hgx hgw
    go_enter Tryd.func82, Tryd.ntmps82
    go_wp2
    go_loopw [1, 14] (fun s i wx => ∃ (m : Nat) (am : List ByteArray) (lm : List Nat) (dm : Nat), m ≤ nd.kids.length ∧ i = .int .i64 m ∧ am.length ≤ acc.length + lm.length ∧ lm.length ≤ l1.length ∧ Hid (Vis ns (nd.kids.take m) lm dm) ∧ Hid (CallsR ns (fun s => (f s).isSome = true) (nd.kids.take m) acc am) ∧ Hid (StrBuf wx base s am) ∧ Hid (GrowB (.slice pa acc.length cap) s (w.alloc (.cells #[.slice pf nf cf, .map (some b)] 96)) wx)) (fun _ i _ => nd.kids.length - (intOf i).toNat)
    case atStart => exact ⟨0, acc, [], 0, by omega, rfl, by simp, by simp, hide (by simpa using Vis.nil), hide (by simpa using CallsR.nil _), hide ((unhide HS).alloc _), hide (GrowB.refl _ _)⟩
    case round =>
      obtain ⟨m, am, lm, dm, hm, rfl, ham, hlm, hvm, hcr, hSx, hGx⟩ := hrel
      have HOW : Hid (∀ k, k ≤ w.heap.size → k < base ∨ k = w.heap.size → ∀ j, (Value.slice pa acc.length cap).ownBlock = some j → j ≠ k) := hide (fun k hk hor j hj e => by
        have := unhide HOV j hj
        omega)
      have hsz : w.heap.size + 1 ≤ wr.heap.size := by have := (unhide hGx).grown.size; simpa using this
      have t0 : wr.cell? ⟨w.heap.size, 0, none⟩ = some (.slice pf nf cf) := (unhide hGx).cell (by simp) (unhide HOW _ (Nat.le_refl _) (.inr rfl))
      have t1 : wr.cell? ⟨w.heap.size, 1, none⟩ = some (.map (some b)) := (unhide hGx).cell (by simp) (unhide HOW _ (Nat.le_refl _) (.inr rfl))
      have g0 : wr.cell? ⟨gx, 0, none⟩ = some (.int .i64 nd.k) := (unhide hGx).cell (cell_later (nx_alloc _ _) c0) (unhide HOW _ (by omega) (.inl hgx))
      have g2 : wr.cell? ⟨gx, 2, none⟩ = some (.string nd.t) := (unhide hGx).cell (cell_later (nx_alloc _ _) c2) (unhide HOW _ (by omega) (.inl hgx))
      have HGw := hide (((unhide HG).later (nx_alloc w (.cells #[.slice pf nf cf, .map (some b)] 96))).grow (unhide hGx) (fun j hj => (unhide HOV j hj).1))
      obtain ⟨ps, cs, rfl⟩ := (unhide hSx).slice
      by_cases hlt : m < nd.kids.length
      · obtain ⟨bp, hpb, hbp, y9⟩ := unhide HP m (by rw [List.length_map]; exact hlt)
        subst hpb
        rw [List.getElem_map] at y9
        have y0 : wr.cell? ⟨bp, m, none⟩ = some (.pointer (some ⟨loc nd.kids[m].toNat, 0, none⟩)) := (unhide hGx).cell (cell_later (nx_alloc _ _) y9) (unhide HOW _ (by omega) (.inl hbp))
        clear y9
        have hj : Hid (nd.kids[m]? = some nd.kids[m]) := hide (List.getElem?_eq_getElem hlt)
        obtain ⟨lj, dj, vj, hlj, hdj, hj0, hll⟩ := (unhide HV).at (unhide hj)
        have hjx : nd.kids[m] = ((nd.kids[m].toNat : Nat) : Int) := (Int.toNat_of_nonneg hj0).symm
        have hnv := hide ((unhide hvm).take_succ (unhide hj) vj)
        have hle2 : (lm ++ lj).length ≤ l1.length := (unhide HV).take_len (m + 1) (unhide hnv)
        have hap : (lm ++ lj).length = lm.length + lj.length := List.length_append
        have hjl : nd.kids[m].toNat ∈ l0 := unhide HL0 _ (hlj _ (by
          obtain ⟨_, _, _, _, _, _, _, _, _, e, _⟩ := vj.inv
          rw [e]; simp))
        obtain ⟨y, _, _, hy, hgj, k0, _⟩ := (unhide HGw).br _ hjl
        by_cases h20 : y.k = 20
        · have HCR := hide ((unhide hcr).snoc_yes hlt hj0 hy h20)
          rw [h20] at k0
          clear vj hlj hjx hjl hj hcr
          generalize loc nd.kids[m].toNat = gj at y0 k0
          go_wp2
          go_roundw
          case rel => exact ⟨m + 1, am, lm ++ lj, _, by omega, by go_num, by omega, hle2, hide (unhide hnv), hide (unhide HCR), hide (unhide hSx), hide (unhide hGx)⟩
          case measure => simp [intOf]; omega
        · have HSN : Hid (∀ a2, NodeC ns (fun s => (f s).isSome = true) nd.kids[m] am a2 → CallsR ns (fun s => (f s).isSome = true) (nd.kids.take (m + 1)) acc a2) := hide (fun a2 h => (unhide hcr).snoc_no hlt hj0 hy h20 h)
          have HLN : Hid (∀ a2, NodeC ns (fun s => (f s).isSome = true) nd.kids[m] am a2 → a2.length ≤ am.length + lj.length) := hide (fun a2 h => by
            obtain ⟨a3, h3, _, hu⟩ := NodeC.ex (fun s => (f s).isSome = true) vj am
            rw [h.det h3]; exact hu)
          have HC := hide (unhide IH dj nd.kids[m].toNat lj am (.slice ps am.length cs) wr (by omega) (by rw [← hjx]; exact vj) (fun y hy => unhide HL0 y (hlj y hy)) (by omega) (unhide hSx) (unhide HGw))
          rw [← hjx] at HC
          have e20 : (y.k != 20) = true := by simp [h20]
          clear vj hlj hjx hjl hj hcr
          generalize loc nd.kids[m].toNat = gj at y0 k0 HC
          go_wp2_with fail
          refine (unhide HC).mono ?_
          rintro e w2 ⟨v2, a2, rfl, hN2, hS2, hG2⟩
          have HCR := hide (unhide HSN a2 hN2)
          have hl2 := unhide HLN a2 hN2
          have HS2 := hide hS2
          have HG2 := hide ((unhide hGx).trans hG2)
          clear hN2 hS2 hG2 HC HSN HLN
          go_wp2
          go_roundw
          case rel => exact ⟨m + 1, a2, lm ++ lj, _, by omega, by go_num, by omega, hle2, hide (unhide hnv), hide (unhide HCR), hide (unhide HS2), hide (unhide HG2)⟩
          case measure => simp [intOf]; omega
      · have hmm : m = nd.kids.length := by omega
        have HCR : Hid (CallsR ns (fun s => (f s).isSome = true) nd.kids acc am) := hide (by
          have := unhide hcr
          rw [hmm, List.take_length] at this
          exact this)
        have HFIN : Hid (∀ v' a2 w', addC (fun s => (f s).isSome = true) nd am a2 → StrBuf w' base v' a2 → GrowB (.slice ps am.length cs) v' wr w' → ∃ v'' acc', Ending.returned v' = .returned v'' ∧ NodeC ns (fun s => (f s).isSome = true) (x : Int) acc acc' ∧ StrBuf w' base v'' acc' ∧ GrowB (.slice pa acc.length cap) v'' w w') := hide (fun v' a2 w' hA hS' hG' => ⟨v', a2, rfl, unhide HR am a2 (unhide HCR) hA, hS', (GrowB.of_below (nx_alloc _ _)).trans ((unhide hGx).trans hG')⟩)
        clear hcr HCR hvm HR
        have HMW := hide (unhide HGw).map
        have HFX : Hid (¬ (nd.k = 10 ∧ (f nd.t).isSome = true ∧ nd.t ∉ am) → addC (fun s => (f s).isSome = true) nd am am) := hide (fun h => .inr ⟨h, rfl⟩)
        have HFY : Hid ((nd.k = 10 ∧ (f nd.t).isSome = true ∧ nd.t ∉ am) → addC (fun s => (f s).isSome = true) nd am (am ++ [nd.t])) := hide (fun h => .inl ⟨h, rfl⟩)
        have haml : am.length ≤ 1000 := by omega
        by_cases h10 : nd.k = 10
        · have HC := hide (has_any (.slice pf nf cf) b n f nd.t wr.drew ((unhide HMW).later (Below.refl _ _).drew) (by unfold maxLen; omega))
          rw [h10] at g0
          have T0 := hide (show wr.drew.cell? ⟨w.heap.size, 0, none⟩ = some (.slice pf nf cf) from t0)
          have T1 := hide (show wr.drew.cell? ⟨w.heap.size, 1, none⟩ = some (.map (some b)) from t1)
          have G0 := hide (show wr.drew.cell? ⟨gx, 0, none⟩ = some (.int .i64 10) from g0)
          have G2 := hide (show wr.drew.cell? ⟨gx, 2, none⟩ = some (.string nd.t) from g2)
          by_cases hF : (f nd.t).isSome = true
          · rw [hF] at HC
            have HST : Hid (∀ y, Below wr.drew.heap.size wr.drew y → StrsAt y ps am) := hide (fun y hy => by
              obtain ⟨a', c', ea, hst⟩ := ((unhide hSx).later (nx_trans (nx_drew (Below.refl wr.heap.size wr)) hy)).strs
              injection ea with ea _ _
              subst ea
              exact hst)
            by_cases hmem : nd.t ∈ am
            · have HD := hide (unhide HFX (fun h => h.2.2 hmem))
              have HCC := hide (fun y hy => ContainsS_yes ps am cs nd.t y (unhide HST y hy) (by omega) hmem)
              clear hF HFX HFY h10 hmem
              generalize nd.t = nt at HC HCC G2 g2 htl
              go_wp2
              go_region_held3 (fun z => z.cell? ⟨w.heap.size, 0, none⟩ = some (.slice pf nf cf) ∧ z.cell? ⟨w.heap.size, 1, none⟩ = some (.map (some b)) ∧ z.cell? ⟨gx, 0, none⟩ = some (.int .i64 10) ∧ z.cell? ⟨gx, 2, none⟩ = some (.string nt)) (go_keep) ((first | (go_at_call 84; refine (unhide HC).mono ?_; rintro e y ⟨rfl, hby⟩; have z0 := cell_later hby (unhide T0); have z1 := cell_later hby (unhide T1); have z2 := cell_later hby (unhide G0); have z3 := cell_later hby (unhide G2); have HBY := hide hby; clear hby) | (go_at_call 104; refine (unhide HCC y (unhide HBY)).mono ?_; rintro e y ⟨rfl, rfl⟩)))
              all_goals (
                have HE := hide (unhide HFIN _ am y (unhide HD) ((unhide hSx).later (nx_trans (nx_drew (Below.refl wr.heap.size wr)) (unhide HBY))) (GrowB.of_below (nx_trans (nx_drew (Below.refl wr.heap.size wr)) (unhide HBY))))
                go_wp2
                go_ret
                exact unhide HE)
            · have HD := hide (unhide HFY ⟨h10, hF, hmem⟩)
              have HCC := hide (fun y hy => ContainsS_no ps am cs nd.t y (unhide HST y hy) (by omega) hmem)
              clear hF HFX HFY h10 hmem
              generalize nd.t = nt at HC HCC G2 g2 htl HD
              go_wp2
              go_region_held3 (fun z => z.cell? ⟨w.heap.size, 0, none⟩ = some (.slice pf nf cf) ∧ z.cell? ⟨w.heap.size, 1, none⟩ = some (.map (some b)) ∧ z.cell? ⟨gx, 0, none⟩ = some (.int .i64 10) ∧ z.cell? ⟨gx, 2, none⟩ = some (.string nt)) (go_keep) ((first | (go_at_call 84; refine (unhide HC).mono ?_; rintro e y ⟨rfl, hby⟩; have z0 := cell_later hby (unhide T0); have z1 := cell_later hby (unhide T1); have z2 := cell_later hby (unhide G0); have z3 := cell_later hby (unhide G2); have HBY := hide hby; clear hby) | (go_at_call 104; refine (unhide HCC y (unhide HBY)).mono ?_; rintro e y ⟨rfl, rfl⟩)))
              have HS0 := hide ((unhide hSx).later (nx_trans (nx_drew (Below.refl wr.heap.size wr)) (unhide HBY)))
              have HG0 : Hid (GrowB (.slice ps am.length cs) (.slice ps am.length cs) wr y) := hide (GrowB.of_below (nx_trans (nx_drew (Below.refl wr.heap.size wr)) (unhide HBY)))
              have hyb : base ≤ y.heap.size := by
                have h1 : wr.heap.size ≤ y.heap.size := (unhide HG0).grown.size
                omega
              go_wp2_with (at_builtin; refine wp_appStrAt _ rfl _ _ rfl base y.heap.size _ am nt rfl ((unhide HS0).alloc _) rfl (by simp) ?c1 ?c2 ?c3)
              case c1 => simp; omega
              case c2 => omega
              case c3 =>
                intro v3 w3 hS3 hG3
                have HE := hide (unhide HFIN v3 _ w3 (unhide HD) hS3 ((unhide HG0).trans ((GrowB.of_below (nx_alloc _ _)).trans hG3)))
                clear hS3 hG3
                go_wp2
                go_ret
                exact unhide HE
          · have HD := hide (unhide HFX (fun h => hF h.2.1))
            have hF' : (f nd.t).isSome = false := by cases h : (f nd.t).isSome <;> simp_all
            rw [hF'] at HC
            clear hF hF' HFX HFY h10
            generalize nd.t = nt at HC G2 g2 htl
            go_wp2
            first | go_region_with ((go_at_call 84; refine (unhide HC).mono ?_; rintro e y ⟨rfl, hby⟩; have z0 := cell_later hby (unhide T0); have z1 := cell_later hby (unhide T1); have z2 := cell_later hby (unhide G0); have z3 := cell_later hby (unhide G2); have HBY := hide hby; clear hby)) | fail
            all_goals (
              have HE := hide (unhide HFIN _ am y (unhide HD) ((unhide hSx).later (nx_trans (nx_drew (Below.refl wr.heap.size wr)) (unhide HBY))) (GrowB.of_below (nx_trans (nx_drew (Below.refl wr.heap.size wr)) (unhide HBY))))
              go_wp2
              go_ret
              exact unhide HE)
        · have e10 : (nd.k == 10) = false := beq_eq_false_iff_ne.2 h10
          have HD := hide (unhide HFX (fun h => h10 h.1))
          clear h10 HFX HFY
          go_wp2
          go_region
          have HE := hide (unhide HFIN _ am wr.drew (unhide HD) ((unhide hSx).later (nx_drew (Below.refl wr.heap.size wr))) (GrowB.of_below (nx_drew (Below.refl wr.heap.size wr))))
          go_wp2
          go_ret
          exact unhide HE

end Go.Proofs.YtbipgmikgokfpaaDoor
