/- What a function, or the outmost block, begins with: code and specification. -/
import Derived.Test.YtbipgmikgokfpaaDoorGrowWalk3
import Derived.Test.YtbipgmikgokfpaaDoorStrBuf
import Derived.Laws.AppendOwnNone
import Derived.Deep.RegionHeld3
import Derived.Deep.AppendLies
namespace Go.Proofs.YtbipgmikgokfpaaDoor
open Go.RowKit Go.Joins
set_option linter.unusedVariables false

theorem TreeP.over {ns : List TN} {root : Int} {l : List Nat} {d a : Nat} (h : TreeP ns root l d) (ha : a < ns.length) (hr : (a : Int) ≠ root) : ∃ x ∈ l, Par ns x a := by
  obtain ⟨j, hj, ps, hu, _⟩ := h.2.1.1.up a (h.2.2.2 a ha)
  rw [List.mem_singleton] at hj
  subst hj
  cases hu with
  | here _ => exact absurd (Int.toNat_of_nonneg h.root.1) hr
  | step x _ ps hx _ hp _ => exact ⟨x, hx, hp⟩
theorem StrBuf.low {w : World} {base base' : Nat} {v : Value} {zs : List ByteArray} (h : StrBuf w base v zs) (hb : base' ≤ base) : StrBuf w base' v zs := ownsRow_le h hb
/-- texts put behind texts -/
theorem wp_appStrs (w : World) {ops : Array Oper} {rest : List Oper} {o : Oper} {a : Act} {Q : Exit → Act → World → Prop} (hgd : o.guard = none) (s x : Operand)
    (ho : o.op = .call { callee := .builtin .append, args := #[s, x], argTypes := #[34, 34] }) (base g off m c : Nat) (v : Value) (zs ys : List ByteArray) (hs : a.eval s = v)
    (hown : StrBuf w base v zs) (hx : a.eval x = .slice (some ⟨g, off, none⟩) m c) (hm : m = ys.length) (hc0 : ∀ i (h : i < ys.length), w.cell? ⟨g, off + i, none⟩ = some (.string ys[i])) (hbase : base ≤ w.heap.size) (hl : zs.length + ys.length ≤ 1000000000)
    (h : ∀ v' w', StrBuf w' base v' (zs ++ ys) → Below base w w' → wpList Tryd.prog ops Q rest (a.put o.dst v') w') : wpList Tryd.prog ops Q (o :: rest) a w := by
  subst hm
  obtain ⟨i0, hi, hz0, hz1, hz2⟩ := info_parts infoSt
  refine wpList_append_own _ hgd s x 34 ho base 9 i0 (.string ⟨#[]⟩) 1 16 Tryd.underlying34 hi hz0 hz1 hz2 rfl (by decide) _ _ _ hs hown ⟨g, off, none⟩ ys.length c (ys.map Value.string) hx (by simp) ?_ ?_ (by unfold maxLen; omega) (by omega) hbase ?_
  · intro j u' hj
    rw [List.getElem?_map] at hj
    obtain ⟨z, hz, rfl⟩ := Option.map_eq_some_iff.1 hj
    obtain ⟨hjl, rfl⟩ := List.getElem?_eq_some_iff.1 hz
    have := hc0 j hjl
    rw [Addr.add_lit]
    exact this
  · intro u' hu'
    obtain ⟨z, _, rfl⟩ := List.mem_map.1 hu'
    rfl
  · intro v' w' hown' hgrow _
    rw [← List.map_append, show zs.length + ys.length = (zs ++ ys).length by simp] at hown'
    exact h v' w' hown' ((Below.refl _ _).grown hgrow hbase (fun j hj => (World.ownsRow.lt hown j hj).1))
/-- .. out of a row of one's own -/
theorem wp_appBuf (w : World) {ops : Array Oper} {rest : List Oper} {o : Oper} {a : Act} {Q : Exit → Act → World → Prop} (hgd : o.guard = none) (s x : Operand)
    (ho : o.op = .call { callee := .builtin .append, args := #[s, x], argTypes := #[34, 34] }) (base base2 : Nat) (v v2 : Value) (zs ys : List ByteArray) (hs : a.eval s = v)
    (hown : StrBuf w base v zs) (hx : a.eval x = v2) (hsrc : StrBuf w base2 v2 ys) (hbase : base ≤ w.heap.size) (hl : zs.length + ys.length ≤ 1000000000)
    (h : ∀ v' w', StrBuf w' base v' (zs ++ ys) → Below base w w' → wpList Tryd.prog ops Q rest (a.put o.dst v') w') : wpList Tryd.prog ops Q (o :: rest) a w := by
  have hs2 := hsrc
  rcases hsrc.2 with ⟨h1, h0⟩ | ⟨g, cap, cur, e, hg, hgg, r⟩
  · subst h1
    have hy : ys = [] := List.length_eq_zero_iff.1 h0
    subst hy
    obtain ⟨i0, hi, hz0, hz1, hz2⟩ := info_parts infoSt
    refine wpList_append_own_none hgd s x 34 ho base 9 i0 1 Tryd.underlying34 hi v _ _ hs hown hx ?_
    exact h v w (by rw [List.append_nil]; exact hown) (Below.refl _ _)
  · subst e
    refine wp_appStrs w hgd s x ho base g 0 ys.length cap v zs ys hs hown hx rfl (fun i hi => ?_) hbase hl h
    rw [Nat.zero_add]
    exact hs2.get i hi

def pathB : ByteArray := ⟨#[112, 97, 116, 104]⟩
/-- k is a function, or the outmost block -/
def UnitAt (ns : List TN) (root k : Int) : Prop := ∃ n, 0 ≤ k ∧ ns[k.toNat]? = some n ∧ (n.k = 20 ∨ k = root)
def UnitPost (ns : List TN) (root : Int) (L : Lay) (k : Int) (w : World) (e : Ending) (w' : World) : Prop :=
  Below w.heap.size w w' ∧ ((e = .returned (.tuple #[.pointer none, .int .i64 1]) ∧ ¬ TreeOkP ns root) ∨ (e = .returned (.tuple #[.pointer none, .int .i64 13]) ∧ TreeOkP ns root ∧ ¬ UnitAt ns root k) ∨
    ∃ (G B : Nat) (loc : Nat → Nat) (l : List Nat) (d x : Nat) (n : TN), TreeP ns root l d ∧ Grown w' G B L ns root loc l ∧ k = (x : Int) ∧ ns[x]? = some n ∧ (n.k = 20 ∨ k = root) ∧ e = .returned (.tuple #[.pointer (some ⟨loc x, 0, none⟩), .int .i64 0]))

set_option maxHeartbeats 1000000 in
set_option maxRecDepth 100000 in
theorem unitOf_any (ns : List TN) (root k : Int) (L : Lay) (w : World) (hN : NodesAt w L ns) (hsm : Small ns) (htab : Hid (TabAt w 0 srcWords)) :
    Calls Tryd.prog 78 #[.agg #[.slice L.p ns.length L.cap, .int .i64 root], .int .i64 k] w (UnitPost ns root L k w) := by
  have HN := hide hN
  have HS := hide hsm
  clear hN hsm
  by_cases hk : 0 ≤ k ∧ k < ns.length
  · obtain ⟨a, rfl⟩ : ∃ a : Nat, k = (a : Int) := ⟨k.toNat, by omega⟩
    go_enter Tryd.func78, Tryd.ntmps78
    go_wp2_with fail
    refine (branchOf_in ns root a L _ ((unhide HN).later (nx_alloc _ _)) (unhide HS) (hide ((unhide htab).later (nx_alloc _ _))) (by omega)).mono ?_
    rintro e w1 ⟨hb, hres⟩
    have hB := hide (nx_trans (nx_alloc _ _) hb)
    clear hb
    rcases hres with ⟨rfl, hno⟩ | ⟨G, B, loc, l, d, hT, hG, x, rfl, rfl⟩
    · have hD := hide hno
      clear hno
      go_wp2
      go_ret2
      exact ⟨unhide hB, .inl ⟨rfl, unhide hD⟩⟩
    · have hx : x < ns.length := by omega
      obtain ⟨n, pb, cb, hn, _, c0, _⟩ := hG.br x (hT.2.2.2 x hx)
      by_cases h20 : n.k = 20
      · have hD : Hid (UnitPost ns root L (x : Int) w (.returned (.tuple #[.pointer (some ⟨loc x, 0, none⟩), .int .i64 0])) w1) := hide ⟨unhide hB, .inr (.inr ⟨G, B, loc, l, d, x, n, hT, hG, rfl, hn, .inl h20, rfl⟩)⟩
        rw [h20] at c0
        clear hT hG h20 hn
        generalize loc x = gx at c0 hD
        go_wp2
        go_ret2
        exact unhide hD
      have e20 : (n.k != 20) = true := by simp [h20]
      by_cases hr : (x : Int) = root
      · have c6 := hG.top
        rw [← hr, Int.toNat_natCast] at c6
        have hD : Hid (UnitPost ns root L (x : Int) w (.returned (.tuple #[.pointer (some ⟨loc x, 0, none⟩), .int .i64 0])) w1) := hide ⟨unhide hB, .inr (.inr ⟨G, B, loc, l, d, x, n, hT, hG, rfl, hn, .inr hr, rfl⟩)⟩
        clear hT hG hr h20 hn
        generalize loc x = gx at c0 c6 hD
        go_wp2
        go_ret2
        exact unhide hD
      · obtain ⟨p, hpl, hp⟩ := hT.over (a := x) hx hr
        have hD : Hid (UnitPost ns root L (x : Int) w (.returned (.tuple #[.pointer none, .int .i64 13])) w1) := hide ⟨unhide hB, .inr (.inl ⟨rfl, ⟨l, d, hT⟩, fun ⟨n', _, hn', h'⟩ => by
          rw [Int.toNat_natCast, hn] at hn'
          obtain rfl := Option.some.inj hn'
          rcases h' with h' | h'
          · exact h20 h'
          · exact hr h'⟩)⟩
        obtain ⟨n2, _, _, hn2, _, _, _, _, _, _, _, _, _, hkid⟩ := hG.br p hpl
        obtain ⟨n', hn', j, hj, _, hjx⟩ := hp
        rw [hn2] at hn'
        obtain rfl := Option.some.inj hn'
        have c6 := (hkid j hj).2.2
        rw [hjx] at c6
        clear hT hG hr hkid hn hj hjx hpl hn2 h20
        generalize loc x = gx at c0 c6
        generalize loc p = gp at c6
        go_wp2
        go_ret2
        exact unhide hD
  · have HK : Hid (¬ UnitAt ns root k) := hide (fun ⟨n, h0, hn, _⟩ => hk (by
      have := (List.getElem?_eq_some_iff.1 hn).1
      omega))
    go_enter Tryd.func78, Tryd.ntmps78
    go_wp2_with fail
    refine (branchOf_out ns root k L _ ((unhide HN).later (nx_alloc _ _)) (unhide HS) (hide ((unhide htab).later (nx_alloc _ _))) hk).mono ?_
    rintro e w1 ⟨hb, hres⟩
    have hB := hide (nx_trans (nx_alloc _ _) hb)
    clear hb hk
    rcases hres with ⟨rfl, hno⟩ | ⟨rfl, hok⟩
    · have hD := hide hno
      clear hno
      go_wp2
      go_ret2
      exact ⟨unhide hB, .inl ⟨rfl, unhide hD⟩⟩
    · have hD := hide hok
      clear hok
      go_wp2
      go_ret2
      exact ⟨unhide hB, .inr (.inl ⟨rfl, unhide hD, unhide HK⟩)⟩

/-- what is answered -/
def ScopeAtRes (ns : List TN) (root k : Int) (zs : List ByteArray) (c : Int) : Prop := (¬ TreeOkP ns root ∧ zs = [] ∧ c = 1) ∨ (TreeOkP ns root ∧ ¬ UnitAt ns root k ∧ zs = [] ∧ c = 13) ∨ (TreeOkP ns root ∧ (∃ n, 0 ≤ k ∧ ns[k.toNat]? = some n ∧ (n.k = 20 ∨ k = root) ∧ zs = (if n.k = 20 then n.names else [pathB]) ∧ zs.length ≤ 1048576) ∧ c = 0)
theorem ScopeAtRes.det {ns : List TN} {root k : Int} {zs zs' : List ByteArray} {c c' : Int} (h : ScopeAtRes ns root k zs c) (h' : ScopeAtRes ns root k zs' c') : zs = zs' ∧ c = c' := by
  rcases h with ⟨h1, rfl, rfl⟩ | ⟨h1, h2, rfl, rfl⟩ | ⟨h1, ⟨n, a1, a2, a3, a4, a5⟩, rfl⟩ <;> rcases h' with ⟨g1, rfl, rfl⟩ | ⟨g1, g2, rfl, rfl⟩ | ⟨g1, ⟨n', b1, b2, b3, b4, b5⟩, rfl⟩
  all_goals first | exact ⟨rfl, rfl⟩ | exact absurd h1 g1 | exact absurd g1 h1 | exact absurd ⟨_, a1, a2, a3⟩ g2 | exact absurd ⟨_, b1, b2, b3⟩ h2 | skip
  rw [a2] at b2
  obtain rfl := Option.some.inj b2
  exact ⟨a4.trans b4.symm, rfl⟩
theorem ScopeAtRes.len {ns : List TN} {root k : Int} {zs : List ByteArray} {c : Int} (h : ScopeAtRes ns root k zs c) : zs.length ≤ 1048576 := by
  rcases h with ⟨h1, rfl, rfl⟩ | ⟨h1, h2, rfl, rfl⟩ | ⟨h1, ⟨n, a1, a2, a3, a4, a5⟩, rfl⟩
  · simp
  · simp
  · exact a5
/-- rows of names that lie somewhere -/
def NamesIn (L : Lay) (n : Nat) : Prop := ∀ i, i < n → ∃ g o, L.pn i = some ⟨g, o, none⟩
theorem MadR.namesIn {w : World} {L : Lay} {ns : List TN} {B E : Nat} (h : MadR w L ns B E) : NamesIn L ns.length := fun i hi => by
  obtain ⟨g1, _, e, _⟩ := h.parts i hi
  exact ⟨g1, 0, e⟩

set_option maxRecDepth 100000 in
theorem namesAhead_fun (gx g off c : Nat) (ys : List ByteArray) (w : World) (c0 : w.cell? ⟨gx, 0, none⟩ = some (.int .i64 20)) (c3 : w.cell? ⟨gx, 3, none⟩ = some (.slice (some ⟨g, off, none⟩) ys.length c)) (hy : ∀ i (h : i < ys.length), w.cell? ⟨g, off + i, none⟩ = some (.string ys[i])) (hl : ys.length ≤ 1048576) :
    Calls Tryd.prog 79 #[.pointer (some ⟨gx, 0, none⟩)] w fun e w' => ∃ v, e = .returned v ∧ StrBuf w' w.heap.size v ys ∧ Below w.heap.size w w' := by
  have HY := hide hy
  clear hy
  go_enter Tryd.func79, Tryd.ntmps79
  go_wp2_with (at_builtin; refine wp_appStrs _ rfl _ _ rfl w.heap.size g off ys.length c _ [] ys rfl (StrBuf.nil _ _) rfl rfl (unhide HY) (Nat.le_refl _) (by simp; omega) ?_)
  intro v' w' hS hb
  have HS := hide hS
  clear hS
  go_wp2
  go_ret
  exact ⟨v', rfl, unhide HS, hb⟩
set_option maxRecDepth 100000 in
theorem namesAhead_top (gx : Nat) (k : Int) (w : World) (c0 : w.cell? ⟨gx, 0, none⟩ = some (.int .i64 k)) (hk : (k == 20) = false) :
    Calls Tryd.prog 79 #[.pointer (some ⟨gx, 0, none⟩)] w fun e w' => ∃ v, e = .returned v ∧ StrBuf w' w.heap.size v [pathB] ∧ Below w.heap.size w w' := by
  have HS := hide (StrBuf.lit w w.heap.size [pathB] (Nat.le_refl _) (by decide))
  go_enter Tryd.func79, Tryd.ntmps79
  go_wp2
  go_ret
  exact ⟨_, rfl, by simpa [pathB] using unhide HS, nx_alloc _ _⟩

set_option maxHeartbeats 1000000 in
set_option maxRecDepth 100000 in
theorem implScopeAt_any (ns : List TN) (root k : Int) (L : Lay) (w : World) (hN : NodesAt w L ns) (hsm : Small ns) (hni : NamesIn L ns.length) (htab : Hid (TabAt w 0 srcWords)) :
    Calls Tryd.prog 45 #[.agg #[.slice L.p ns.length L.cap, .int .i64 root], .int .i64 k] w fun e w' => ∃ v zs c, e = .returned (.tuple #[v, .int .i64 c]) ∧ ScopeAtRes ns root k zs c ∧ StrBuf w' w.heap.size v zs ∧ Below w.heap.size w w' := by
  have HN := hide hN
  have HS := hide hsm
  have HI := hide hni
  clear hN hsm hni
  go_enter Tryd.func45, Tryd.ntmps45
  go_wp2_with fail
  refine (unitOf_any ns root k L _ ((unhide HN).later (nx_alloc _ _)) (unhide HS) (hide ((unhide htab).later (nx_alloc _ _)))).mono ?_
  rintro e w1 ⟨hb, hres⟩
  have hB := hide (nx_trans (nx_alloc _ _) hb)
  have hw1 : w.heap.size < w1.heap.size := by have := hb.size; simp at this; omega
  clear hb
  rcases hres with ⟨rfl, hno⟩ | ⟨rfl, hok, hun⟩ | ⟨G, B, loc, l, d, x, n, hT, hG, rfl, hn, hor, rfl⟩
  · have hD : Hid (ScopeAtRes ns root k [] 1) := hide (.inl ⟨hno, rfl, rfl⟩)
    clear hno
    go_wp2
    go_ret2
    exact ⟨_, [], 1, rfl, unhide hD, StrBuf.nil _ _, unhide hB⟩
  · have hD : Hid (ScopeAtRes ns root k [] 13) := hide (.inr (.inl ⟨hok, hun, rfl, rfl⟩))
    clear hok hun
    go_wp2
    go_ret2
    exact ⟨_, [], 13, rfl, unhide hD, StrBuf.nil _ _, unhide hB⟩
  · have hxn := (List.getElem?_eq_some_iff.1 hn).1
    have hxe := (List.getElem?_eq_some_iff.1 hn).2
    obtain ⟨n', pb, cb, hn', _, c0, _, _, c3, _⟩ := hG.br x (hT.2.2.2 x hxn)
    rw [hn] at hn'
    obtain rfl := Option.some.inj hn'
    have hnl : n.names.length ≤ 1048576 := ((unhide HS).2 n (List.mem_of_getElem? hn)).2.1
    by_cases h20 : n.k = 20
    · have hD : Hid (ScopeAtRes ns root (x : Int) n.names 0) := hide (.inr (.inr ⟨⟨l, d, hT⟩, ⟨n, by omega, by rw [Int.toNat_natCast]; exact hn, hor, by rw [if_pos h20], hnl⟩, rfl⟩))
      obtain ⟨g, o, hpn⟩ := unhide HI x hxn
      have hstr := ((unhide HN).later (unhide hB) x hxn).choose_spec.choose_spec.2.2.2.2.2.2.1
      rw [hxe, hpn] at hstr
      rw [hpn] at c3
      rw [h20] at c0
      have HST : Hid (∀ i (h : i < n.names.length), w1.cell? ⟨g, o + i, none⟩ = some (.string n.names[i])) := hide (fun i hi => by
        obtain ⟨b, off, e, hc⟩ := hstr i hi
        injection e with e
        injection e with e1 e2 _
        subst e1 e2
        exact hc)
      clear hT hG hstr hn hxe h20 hor
      generalize loc x = gx at c0 c3
      go_wp2_with fail
      refine (namesAhead_fun gx g o (L.cn x) n.names w1 c0 c3 (unhide HST) hnl).mono ?_
      rintro e w2 ⟨v, rfl, hS, hb2⟩
      have HS2 : Hid (StrBuf w2 w.heap.size v n.names) := hide (ownsRow_le hS (by omega))
      have hB2 := hide (nx_trans (unhide hB) hb2)
      clear hS hb2
      go_wp2
      go_ret2
      exact ⟨v, _, 0, rfl, unhide hD, unhide HS2, unhide hB2⟩
    · have hD : Hid (ScopeAtRes ns root (x : Int) [pathB] 0) := hide (.inr (.inr ⟨⟨l, d, hT⟩, ⟨n, by omega, by rw [Int.toNat_natCast]; exact hn, hor, by rw [if_neg h20], by simp⟩, rfl⟩))
      have e20 : (n.k == 20) = false := beq_eq_false_iff_ne.2 h20
      clear hT hG hn hxe hor
      generalize loc x = gx at c0 c3
      go_wp2_with fail
      refine (namesAhead_top gx n.k w1 c0 e20).mono ?_
      rintro e w2 ⟨v, rfl, hS, hb2⟩
      have HS2 : Hid (StrBuf w2 w.heap.size v [pathB]) := hide (ownsRow_le hS (by omega))
      have hB2 := hide (nx_trans (unhide hB) hb2)
      clear hS hb2
      go_wp2
      go_ret2
      exact ⟨v, _, 0, rfl, unhide hD, unhide HS2, unhide hB2⟩

theorem cellB {base b o : Nat} {w w' : World} {v : Value} (hb : Below base w w') (hl : b < base) (h : w.cell? ⟨b, o, none⟩ = some v) : w'.cell? ⟨b, o, none⟩ = some v := by
  rw [hb.cell (p := ⟨b, o, none⟩) hl]; exact h
theorem step_appStr (w : World) {ops : Array Oper} {o : Oper} {a : Act} {K : Act → World → Prop} {Q : Exit → Act → World → Prop} {E : Prop} (hgd : o.guard = none) (s x : Operand)
    (ho : o.op = .call { callee := .builtin .append, args := #[s, x], argTypes := #[34, 34] }) (base g : Nat) (v : Value) (zs : List ByteArray) (c : ByteArray) (hs : a.eval s = v)
    (hown : StrBuf w base v zs) (hx : a.eval x = .slice (some ⟨g, 0, none⟩) 1 1) (hc0 : w.cell? ⟨g, 0, none⟩ = some (.string c)) (hbase : base ≤ w.heap.size) (hl : zs.length ≤ 1000000000)
    (h : ∀ v' w', StrBuf w' base v' (zs ++ [c]) → Below base w w' → K (a.put o.dst v') w') : if Region.wanted o (yielded ops a.tmps) = true then Oper.wp Tryd.prog o a w K Q else E := by
  have hw : Region.wanted o (yielded ops a.tmps) = true := by simp [Region.wanted, hgd]
  rw [if_pos hw]
  obtain ⟨i0, hi, hz0, hz1, hz2⟩ := info_parts infoSt
  refine wp_append_own w s x 34 ho base 9 i0 (.string ⟨#[]⟩) 1 16 Tryd.underlying34 hi hz0 hz1 hz2 rfl (by decide) _ _ _ hs hown ⟨g, 0, none⟩ 1 1 [.string c] hx rfl ?_ ?_ (by unfold maxLen; omega) (by omega) hbase ?_
  · intro j u' hj
    match j, hj with
    | 0, hj => simp at hj; subst hj; simpa [Addr.add] using hc0
    | j + 1, hj => simp at hj
  · intro u' hu'
    simp at hu'
    subst hu'
    rfl
  · intro v' w' hown' hgrow _
    rw [show zs.map Value.string ++ [.string c] = (zs ++ [c]).map Value.string by simp, show zs.length + 1 = (zs ++ [c]).length by simp] at hown'
    exact h v' w' hown' ((Below.refl _ _).grown hgrow hbase (fun j hj => (World.ownsRow.lt hown j hj).1))
theorem step_appBuf (w : World) {ops : Array Oper} {o : Oper} {a : Act} {K : Act → World → Prop} {Q : Exit → Act → World → Prop} {E : Prop} (hgd : o.guard = none) (s x : Operand)
    (ho : o.op = .call { callee := .builtin .append, args := #[s, x], argTypes := #[34, 34] }) (base base2 : Nat) (v v2 : Value) (zs ys : List ByteArray) (hs : a.eval s = v)
    (hown : StrBuf w base v zs) (hx : a.eval x = v2) (hsrc : StrBuf w base2 v2 ys) (hbase : base ≤ w.heap.size) (hl : zs.length + ys.length ≤ 1000000000)
    (h : ∀ v' w', StrBuf w' base v' (zs ++ ys) → Below base w w' → K (a.put o.dst v') w') : if Region.wanted o (yielded ops a.tmps) = true then Oper.wp Tryd.prog o a w K Q else E := by
  have hw : Region.wanted o (yielded ops a.tmps) = true := by simp [Region.wanted, hgd]
  rw [if_pos hw]
  obtain ⟨i0, hi, hz0, hz1, hz2⟩ := info_parts infoSt
  have hs2 := hsrc
  rcases hsrc.2 with ⟨h1, h0⟩ | ⟨g, cap, cur, e, hg, hgg, r⟩
  · subst h1
    have hy : ys = [] := List.length_eq_zero_iff.1 h0
    subst hy
    have hrun := run_append_owned_none (P := Tryd.prog) (w := w) base 34 o.type 9 i0 1 Tryd.underlying34 hi v _ _ hown
    unfold Oper.wp
    simp [execOp, ho, resolve, invoke, builtin, hs, hx, hrun, Result.andThen]
    exact h v w (by rw [List.append_nil]; exact hown) (Below.refl _ _)
  · subst e
    refine wp_append_own w s x 34 ho base 9 i0 (.string ⟨#[]⟩) 1 16 Tryd.underlying34 hi hz0 hz1 hz2 rfl (by decide) _ _ _ hs hown ⟨g, 0, none⟩ ys.length cap (ys.map Value.string) hx (by simp) ?_ ?_ (by unfold maxLen; omega) (by omega) hbase ?_
    · intro j u' hj
      rw [List.getElem?_map] at hj
      obtain ⟨z, hz, rfl⟩ := Option.map_eq_some_iff.1 hj
      obtain ⟨hjl, rfl⟩ := List.getElem?_eq_some_iff.1 hz
      have := hs2.get j hjl
      rw [Addr.add_lit]
      simpa using this
    · intro u' hu'
      obtain ⟨z, _, rfl⟩ := List.mem_map.1 hu'
      rfl
    · intro v' w' hown' hgrow _
      rw [← List.map_append, show zs.length + ys.length = (zs ++ ys).length by simp] at hown'
      exact h v' w' hown' ((Below.refl _ _).grown hgrow hbase (fun j hj => (World.ownsRow.lt hown j hj).1))
theorem step_appStrG (w : World) {ops : Array Oper} {o : Oper} {a : Act} {K : Act → World → Prop} {Q : Exit → Act → World → Prop} {E : Prop} (hgd : o.guard = none) (s x : Operand)
    (ho : o.op = .call { callee := .builtin .append, args := #[s, x], argTypes := #[34, 34] }) (base g : Nat) (v : Value) (zs : List ByteArray) (c : ByteArray) (hs : a.eval s = v)
    (hown : StrBuf w base v zs) (hx : a.eval x = .slice (some ⟨g, 0, none⟩) 1 1) (hc0 : w.cell? ⟨g, 0, none⟩ = some (.string c)) (hbase : base ≤ w.heap.size) (hl : zs.length ≤ 1000000000)
    (h : ∀ v' w', StrBuf w' base v' (zs ++ [c]) → Below base w w' → w.grownBy w' v.ownBlock → K (a.put o.dst v') w') : if Region.wanted o (yielded ops a.tmps) = true then Oper.wp Tryd.prog o a w K Q else E := by
  have hw : Region.wanted o (yielded ops a.tmps) = true := by simp [Region.wanted, hgd]
  rw [if_pos hw]
  obtain ⟨i0, hi, hz0, hz1, hz2⟩ := info_parts infoSt
  refine wp_append_own w s x 34 ho base 9 i0 (.string ⟨#[]⟩) 1 16 Tryd.underlying34 hi hz0 hz1 hz2 rfl (by decide) _ _ _ hs hown ⟨g, 0, none⟩ 1 1 [.string c] hx rfl ?_ ?_ (by unfold maxLen; omega) (by omega) hbase ?_
  · intro j u' hj
    match j, hj with
    | 0, hj => simp at hj; subst hj; simpa [Addr.add] using hc0
    | j + 1, hj => simp at hj
  · intro u' hu'
    simp at hu'
    subst hu'
    rfl
  · intro v' w' hown' hgrow _
    rw [show zs.map Value.string ++ [.string c] = (zs ++ [c]).map Value.string by simp, show zs.length + 1 = (zs ++ [c]).length by simp] at hown'
    exact h v' w' hown' ((Below.refl _ _).grown hgrow hbase (fun j hj => (World.ownsRow.lt hown j hj).1)) hgrow
theorem step_appBufG (w : World) {ops : Array Oper} {o : Oper} {a : Act} {K : Act → World → Prop} {Q : Exit → Act → World → Prop} {E : Prop} (hgd : o.guard = none) (s x : Operand)
    (ho : o.op = .call { callee := .builtin .append, args := #[s, x], argTypes := #[34, 34] }) (base base2 : Nat) (v v2 : Value) (zs ys : List ByteArray) (hs : a.eval s = v)
    (hown : StrBuf w base v zs) (hx : a.eval x = v2) (hsrc : StrBuf w base2 v2 ys) (hbase : base ≤ w.heap.size) (hl : zs.length + ys.length ≤ 1000000000)
    (h : ∀ v' w', StrBuf w' base v' (zs ++ ys) → Below base w w' → w.grownBy w' v.ownBlock → K (a.put o.dst v') w') : if Region.wanted o (yielded ops a.tmps) = true then Oper.wp Tryd.prog o a w K Q else E := by
  have hw : Region.wanted o (yielded ops a.tmps) = true := by simp [Region.wanted, hgd]
  rw [if_pos hw]
  obtain ⟨i0, hi, hz0, hz1, hz2⟩ := info_parts infoSt
  have hs2 := hsrc
  rcases hsrc.2 with ⟨h1, h0⟩ | ⟨g, cap, cur, e, hg, hgg, r⟩
  · subst h1
    have hy : ys = [] := List.length_eq_zero_iff.1 h0
    subst hy
    have hrun := run_append_owned_none (P := Tryd.prog) (w := w) base 34 o.type 9 i0 1 Tryd.underlying34 hi v _ _ hown
    unfold Oper.wp
    simp [execOp, ho, resolve, invoke, builtin, hs, hx, hrun, Result.andThen]
    exact h v w (by rw [List.append_nil]; exact hown) (Below.refl _ _) ⟨rfl, rfl, rfl, Nat.le_refl _, fun _ _ _ => rfl⟩
  · subst e
    refine wp_append_own w s x 34 ho base 9 i0 (.string ⟨#[]⟩) 1 16 Tryd.underlying34 hi hz0 hz1 hz2 rfl (by decide) _ _ _ hs hown ⟨g, 0, none⟩ ys.length cap (ys.map Value.string) hx (by simp) ?_ ?_ (by unfold maxLen; omega) (by omega) hbase ?_
    · intro j u' hj
      rw [List.getElem?_map] at hj
      obtain ⟨z, hz, rfl⟩ := Option.map_eq_some_iff.1 hj
      obtain ⟨hjl, rfl⟩ := List.getElem?_eq_some_iff.1 hz
      have := hs2.get j hjl
      rw [Addr.add_lit]
      simpa using this
    · intro u' hu'
      obtain ⟨z, _, rfl⟩ := List.mem_map.1 hu'
      rfl
    · intro v' w' hown' hgrow _
      rw [← List.map_append, show zs.length + ys.length = (zs ++ ys).length by simp] at hown'
      exact h v' w' hown' ((Below.refl _ _).grown hgrow hbase (fun j hj => (World.ownsRow.lt hown j hj).1)) hgrow

end Go.Proofs.YtbipgmikgokfpaaDoor
