/- The way from the outmost block to a node, the specification's side. -/
import Derived.Test.YtbipgmikgokfpaaDoorPathWalk
namespace Go.Proofs.YtbipgmikgokfpaaDoor
open Go.RowKit Go.Joins
set_option linter.unusedVariables false

/-- numbers put behind numbers -/
theorem wp_appII (w : World) {ops : Array Oper} {rest : List Oper} {o : Oper} {a : Act} {Q : Exit → Act → World → Prop} (hgd : o.guard = none) (s x : Operand)
    (ho : o.op = .call { callee := .builtin .append, args := #[s, x], argTypes := #[30, 30] }) (base g m c : Nat) (v : Value) (zs ys : List Int) (hs : a.eval s = v)
    (hown : IntBuf w base v zs) (hx : a.eval x = .slice (some ⟨g, 0, none⟩) m c) (hm : m = ys.length) (hc0 : ∀ i (h : i < ys.length), w.cell? ⟨g, i, none⟩ = some (.int .i64 ys[i])) (hbase : base ≤ w.heap.size) (hl : zs.length + ys.length ≤ 1000000000)
    (h : ∀ v' w', IntBuf w' base v' (zs ++ ys) → Below base w w' → wpList Tryd.prog ops Q rest (a.put o.dst v') w') : wpList Tryd.prog ops Q (o :: rest) a w := by
  subst hm
  obtain ⟨i0, hi, hz0, hz1, hz2⟩ := info_parts infoInt
  refine wpList_append_own _ hgd s x 30 ho base 3 i0 (.int .i64 0) 1 8 Tryd.underlying30 hi hz0 hz1 hz2 rfl (by decide) _ _ _ hs hown ⟨g, 0, none⟩ ys.length c (ys.map (Value.int .i64)) hx (by simp) ?_ ?_ (by unfold maxLen; omega) (by omega) hbase ?_
  · intro j u' hj
    rw [List.getElem?_map] at hj
    obtain ⟨z, hz, rfl⟩ := Option.map_eq_some_iff.1 hj
    obtain ⟨hjl, rfl⟩ := List.getElem?_eq_some_iff.1 hz
    have := hc0 j hjl
    rw [Addr.add_lit]
    simpa using this
  · intro u' hu'
    obtain ⟨z, _, rfl⟩ := List.mem_map.1 hu'
    rfl
  · intro v' w' hown' hgrow _
    rw [← List.map_append, show zs.length + ys.length = (zs ++ ys).length by simp] at hown'
    exact h v' w' hown' ((Below.refl _ _).grown hgrow hbase (fun j hj => (World.ownsRow.lt hown j hj).1))

/-- what is left of the way up behind y, and what is gathered -/
def UpAcc (ns : List TN) (l : List Nat) (r : Nat) (full acc : List Int) (y : Nat) : Prop := ∃ ps, Up ns l r y (y :: ps) ∧ full = (ps.map fun x : Nat => (x : Int)).reverse ++ acc

set_option maxHeartbeats 2000000 in
set_option maxRecDepth 100000 in
theorem specPathTo_any (ns : List TN) (root k : Int) (L : Lay) (w : World) (hN : NodesAt w L ns) (hsm : Small ns) :
    Calls Tryd.prog 34 #[.agg #[.slice L.p ns.length L.cap, .int .i64 root], .int .i64 k] w fun e w' => Below w.heap.size w w' ∧ ∃ v zs c, e = .returned (.tuple #[v, .int .i64 c]) ∧ IntBuf w' w.heap.size v zs ∧ ((¬ TreeOkP ns root ∧ zs = [] ∧ c = 1) ∨ (TreeOkP ns root ∧ ¬ (0 ≤ k ∧ k < ns.length) ∧ zs = [] ∧ c = 13) ∨ (TreeOkP ns root ∧ (0 ≤ k ∧ k < ns.length) ∧ PathIs ns root k.toNat zs ∧ c = 0)) := by
  have HN := hide hN
  have HS := hide hsm
  clear hN hsm
  go_enter Tryd.func34, Tryd.ntmps34
  go_wp2_with fail
  refine (l03Place_any ns root k L _ ((unhide HN).later (nx_alloc _ _)) (unhide HS)).mono ?_
  rintro e w1 ⟨c, rfl, hc, hb1⟩
  have hB := hide (nx_trans (nx_alloc _ _) hb1)
  have hw1 : w.heap.size < w1.heap.size := by have := hb1.size; simp at this; omega
  have c1 : ∀ o, w1.cell? ⟨w.heap.size, o, none⟩ = (w.alloc (.cells #[.slice L.p ns.length L.cap, .int .i64 root] 25)).cell? ⟨w.heap.size, o, none⟩ := fun o => hb1.cell (p := ⟨w.heap.size, o, none⟩) (by simp)
  have d0 : w1.cell? ⟨w.heap.size, 0, none⟩ = some (.slice L.p ns.length L.cap) := by rw [c1]; simp
  have d1 : w1.cell? ⟨w.heap.size, 1, none⟩ = some (.int .i64 root) := by rw [c1]; simp
  clear hb1 c1
  have HE : Hid (IntBuf (w1.alloc (.cells #[] 3)) w.heap.size (.slice (some ⟨w1.heap.size, 0, none⟩) 0 0) []) := hide (by simpa using IntBuf.lit w1 w.heap.size [] (by omega) (by decide))
  rcases hc with ⟨hno, rfl⟩ | ⟨hok, hk, rfl⟩ | ⟨hok, hk, rfl⟩
  · have hD := hide hno
    clear hno
    go_wp2
    go_ret2
    exact ⟨nx_al (unhide hB), _, [], 1, rfl, unhide HE, .inl ⟨unhide hD, rfl, rfl⟩⟩
  · have hD := hide (And.intro hok hk)
    clear hok hk
    go_wp2
    go_ret2
    exact ⟨nx_al (unhide hB), _, [], 13, rfl, unhide HE, .inr (.inl ⟨(unhide hD).1, (unhide hD).2, rfl, rfl⟩)⟩
  · obtain ⟨l, d, hT⟩ := hok
    obtain ⟨a, rfl⟩ : ∃ a : Nat, k = (a : Int) := ⟨k.toNat, by omega⟩
    obtain ⟨ps0, hu, hpl⟩ := hT.path (a := a) (by omega)
    obtain ⟨full, hfull⟩ : ∃ full, full = (ps0.map fun x : Nat => (x : Int)).reverse := ⟨_, rfl⟩
    have hfl : full.length ≤ 200 := by rw [hfull, List.length_reverse, List.length_map]; exact hpl
    have HPI : Hid (PathIs ns root a full) := hide ⟨l, d, ps0, hT, hu, hfull⟩
    obtain ⟨qs, hqs⟩ := hu.head
    have HUA : Hid (UpAcc ns l root.toNat full [(a : Int)] a) := hide ⟨qs, by rw [← hqs]; exact hu, by rw [hfull, hqs]; simp⟩
    have hf1 : 1 ≤ full.length := by rw [hfull, hqs]; simp
    have hro := hT.root.1
    have HT := hide hT
    have HIL : Hid (IntBuf (w1.alloc (.cells #[.int .i64 (a : Int)] 3)) w1.heap.size (.slice (some ⟨w1.heap.size, 0, none⟩) 1 1) [(a : Int)]) := hide (by simpa using IntBuf.lit w1 w1.heap.size [(a : Int)] (by omega) (by unfold maxLen; simp))
    have HK := hide hk
    clear hT hu hfull hpl hqs hk HE
    go_wp2
    go_loopw [1, 7] (fun s1 s7 wx => ∃ (y : Nat) (acc : List Int), s1 = .int .i64 (y : Int) ∧ Hid (UpAcc ns l root.toNat full acc y) ∧ 1 ≤ acc.length ∧ acc.length ≤ full.length ∧ Hid (IntBuf wx w1.heap.size s7 acc) ∧ Hid (Below w1.heap.size w1 wx)) (fun _ s7 _ => full.length - lenV s7)
    case atStart => exact ⟨a, [(a : Int)], rfl, HUA, by simp, by simpa using hf1, HIL, hide (nx_alloc _ _)⟩
    case round =>
      obtain ⟨y, acc, rfl, hUA, ha1, hal, hI, hBx⟩ := hrel
      obtain ⟨g, cap, rfl⟩ := ownsRow_form (unhide hI) (by omega)
      have hwx : w1.heap.size ≤ wr.heap.size := (unhide hBx).size
      have x0 : wr.cell? ⟨w.heap.size, 0, none⟩ = some (.slice L.p ns.length L.cap) := by rw [(unhide hBx).cell (p := ⟨w.heap.size, 0, none⟩) hw1]; exact d0
      have x1 : wr.cell? ⟨w.heap.size, 1, none⟩ = some (.int .i64 root) := by rw [(unhide hBx).cell (p := ⟨w.heap.size, 1, none⟩) hw1]; exact d1
      have hBw := hide (nx_trans (unhide hB) (unhide hBx))
      obtain ⟨ps, hu, hfull⟩ := unhide hUA
      by_cases hr : (y : Int) = root
      · have hps : ps = [] := by
          have hyr : y = root.toNat := by omega
          subst hyr
          cases hu with
          | here _ => rfl
          | step p _ _ _ _ hp _ => exact absurd hp (unhide HT).noPar
        have hacc : full = acc := by rw [hfull, hps]; simp
        have HF : Hid (IntBuf wr w.heap.size (.slice (some ⟨g, 0, none⟩) acc.length cap) full) := hide (by rw [hacc]; exact ownsRow_le (unhide hI) (by omega))
        have e1 : ((y : Int) == root) = true := by simp [hr]
        have e2 : ((y : Int) != root) = false := by simp [bne, e1]
        clear hu hfull hps hacc hr hUA
        go_wp2
        go_ret2
        exact ⟨unhide hBw, _, _, 0, rfl, unhide HF, .inr (.inr ⟨⟨l, d, unhide HT⟩, unhide HK, by rw [Int.toNat_natCast]; exact unhide HPI, rfl⟩)⟩
      · obtain ⟨p, ps', hpl, hpar, hu', hps'⟩ : ∃ p ps', p ∈ l ∧ Par ns p y ∧ Up ns l root.toNat p (p :: ps') ∧ ps = p :: ps' := by
          cases hu with
          | here _ => exact absurd (Int.toNat_of_nonneg hro) hr
          | step p _ _ hp _ hpar hu'' =>
            obtain ⟨qs, hqs⟩ := hu''.head
            rw [hqs] at hu''
            exact ⟨p, qs, hp, hpar, hu'', hqs⟩
        have HNX : Hid (UpAcc ns l root.toNat full ((p : Int) :: acc) p) := hide ⟨ps', hu', by rw [hfull, hps']; simp⟩
        have hlen : acc.length + 1 ≤ full.length := by rw [hfull, hps']; simp
        have e1 : ((y : Int) == root) = false := beq_eq_false_iff_ne.2 hr
        have e2 : ((y : Int) != root) = true := by simp [bne, e1]
        have HC := hide (l03Parent_any ns root y p L wr ((unhide HN).later (unhide hBw)) (unhide HS) hpar (fun z hz => (unhide HT).uniq hz hpar))
        clear hu hfull hps' hr hUA hpar hu' hpl
        go_wp2_with fail
        refine (unhide HC).mono ?_
        rintro e w2 ⟨rfl, hb2⟩
        have HB2 := hide ((unhide hBx).trans (hb2.mono hwx))
        have HI2 := hide ((unhide hI).later hb2)
        have hw2 : w1.heap.size ≤ w2.heap.size := (unhide HB2).size
        clear hb2 HC x0 x1
        have HLIT : Hid (IntBuf (w2.alloc (.cells #[.int .i64 (p : Int)] 3)) w1.heap.size (.slice (some ⟨w2.heap.size, 0, none⟩) 1 1) [(p : Int)]) := hide (by simpa using IntBuf.lit w2 w1.heap.size [(p : Int)] (by omega) (by unfold maxLen; simp))
        have HCL : Hid (∀ i (h : i < acc.length), (w2.alloc (.cells #[.int .i64 (p : Int)] 3)).cell? ⟨g, i, none⟩ = some (.int .i64 acc[i])) := hide (fun i h => ((unhide HI2).alloc _).get i h)
        go_wp2_with (at_builtin; refine wp_appII _ rfl _ _ rfl w1.heap.size g acc.length cap _ [(p : Int)] acc rfl (unhide HLIT) rfl rfl (unhide HCL) ?c5 ?c3 ?c6)
        case c5 => first | omega | (simp; omega)
        case c3 => simp; omega
        case c6 =>
          intro v' w3 hI3 hb3
          have hl3 : lenV v' = acc.length + 1 := by
            obtain ⟨pa', cap', rfl⟩ := hI3.slice
            simp [lenV]
          have HI3 := hide hI3
          have HB3 := hide (((unhide HB2).alloc hw2 _).trans hb3)
          clear hI3 hb3
          go_wp2
          go_roundw
          case rel => exact ⟨p, (p : Int) :: acc, rfl, hide (unhide HNX), by simp, by simpa using hlen, hide (unhide HI3), hide (unhide HB3)⟩
          case measure => simp [hl3, lenV_slice]; omega

end Go.Proofs.YtbipgmikgokfpaaDoor
