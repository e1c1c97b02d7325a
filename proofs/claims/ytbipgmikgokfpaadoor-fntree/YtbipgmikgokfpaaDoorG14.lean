/- A bundle. -/
import Derived.Test.YtbipgmikgokfpaaDoorG11
import Derived.Test.YtbipgmikgokfpaaDoorG08
import Derived.Test.YtbipgmikgokfpaaDoorG13
import Derived.Test.YtbipgmikgokfpaaDoorG12
import Derived.BigQuiet
import Derived.Deep.QuietTactic
import Derived.WalkSmall

/- PAll -/
namespace Go.Proofs.YtbipgmikgokfpaaDoor
open Go.RowKit Go.Joins
set_option linter.unusedVariables false

theorem pfirst_step {ts : List V3} (hTS : Hid (TS ts)) (n : Nat) (ihE : Hid (∀ k, k ≤ n → PQ ts k .expr 168)) : PQ ts (n + 1) .first 196 := by
  intro g lp lc v s w h hf hd hn
  by_cases hc : s.code = 0
  · by_cases hk3 : (nextP ts s).k = 3
    · exact pfirst_int hTS n h hf hd hn hc hk3
    by_cases hk4 : (nextP ts s).k = 4
    · exact pfirst_text hTS n h hf hd hn hc hk4
    cases h0 : isP ts s [116, 114, 117, 101] with
    | true => exact pfirst_true hTS n h hf hd hn hc hk3 hk4 h0
    | false =>
      cases h1 : isP ts s [102, 97, 108, 115, 101] with
      | true => exact pfirst_false hTS n h hf hd hn hc hk3 hk4 h0 h1
      | false =>
        cases h2 : isP ts s [110, 117, 108, 108] with
        | true => exact pfirst_null hTS n h hf hd hn hc hk3 hk4 h0 h1 h2
        | false =>
          cases h3 : isP ts s [40] with
          | true => exact pfirst_paren hTS n ihE h hf hd hn hc hk3 hk4 h0 h1 h2 h3
          | false =>
            by_cases hk1 : (nextP ts s).k = 1
            · cases hy : tkP ts (advP s) [40] with
              | true => exact pfirst_call hTS n ihE h hf hd hn hc hk1 h0 h1 h2 h3 hy
              | false => exact pfirst_name hTS n h hf hd hn hc hk1 h0 h1 h2 h3 hy
            · exact pfirst_none hTS n h hf hd hn hc hk3 hk4 h0 h1 h2 h3 hk1
  · exact pfirst_bad hTS n h hf hd hn hc

theorem set_yes {ts : List V3} {s : PS} (h1 : (nextP ts s).k = 1) (hr : s.at' + 1 < ts.length) (ht : ts[s.at' + 1].t = ⟨#[61]⟩) (hk : ts[s.at' + 1].k = 5) : setP ts s = true := by
  unfold setP
  rw [h1, dif_pos hr, ht, hk]; rfl
theorem pinner_step {ts : List V3} (hTS : Hid (TS ts)) (n : Nat) (ihE : Hid (∀ k, k ≤ n → PQ ts k .expr 168)) (ihB : Hid (∀ k, k ≤ n → PQ ts k .block 140)) : PQ ts (n + 1) .inner 142 := by
  intro g lp lc v s w h hf hd hn
  cases h0 : tkP ts s [108, 101, 116] with
  | true => exact pinner_let hTS n ihE h hf hd hn h0
  | false =>
  cases h1 : tkP ts s [105, 102] with
  | true =>
    cases he : tkP ts (run ts n .block (needP ts [41] (run ts n .expr (needP ts [40] (advP s))).s)).s [101, 108, 115, 101] with
    | true => exact pinner_if3 hTS n ihE ihB h hf hd hn h0 h1 he
    | false => exact pinner_if2 hTS n ihE ihB h hf hd hn h0 h1 he
  | false =>
  cases h2 : tkP ts s [119, 104, 105, 108, 101] with
  | true => exact pinner_while hTS n ihE ihB h hf hd hn h0 h1 h2
  | false =>
  cases h3 : tkP ts s [114, 101, 116, 117, 114, 110] with
  | true => exact pinner_return hTS n ihE h hf hd hn h0 h1 h2 h3
  | false =>
  cases h4 : tkP ts s [116, 104, 114, 111, 119] with
  | true => exact pinner_throw hTS n ihE h hf hd hn h0 h1 h2 h3 h4
  | false =>
  cases h5 : tkP ts s [116, 114, 121] with
  | true =>
    by_cases he : (needP ts [40] (needP ts [99, 97, 116, 99, 104] (run ts n .block (advP s)).s)).code = 0
    · exact pinner_try1 hTS n ihB h hf hd hn h0 h1 h2 h3 h4 h5 he
    · exact pinner_try0 hTS n ihB h hf hd hn h0 h1 h2 h3 h4 h5 he
  | false =>
  cases h6 : isP ts s [123] with
  | true => exact pinner_block hTS n ihB h hf hd hn h0 h1 h2 h3 h4 h5 h6
  | false =>
  by_cases hc : s.code = 0
  · by_cases hs : setP ts s = true
    · have hs2 := hs
      unfold setP at hs2
      rw [Bool.and_eq_true] at hs2
      obtain ⟨ha, hb⟩ := hs2
      have hk1 : (nextP ts s).k = 1 := by simpa using ha
      by_cases hr : s.at' + 1 < ts.length
      · rw [dif_pos hr, Bool.and_eq_true] at hb
        have hyk : ts[s.at' + 1].k = 5 := by simpa using hb.2
        have hyt : ts[s.at' + 1].t = ⟨#[61]⟩ := ba_list (eq_of_beq hb.1)
        exact pinner_set hTS n ihE h hf hd hn h0 h1 h2 h3 h4 h5 h6 hc hs hk1 hr hyt hyk
      · rw [dif_neg hr] at hb; cases hb
    · by_cases hk1 : (nextP ts s).k = 1
      · by_cases hr : s.at' + 1 < ts.length
        · by_cases hyt : ts[s.at' + 1].t = ⟨#[61]⟩
          · by_cases hyk : ts[s.at' + 1].k = 5
            · exact absurd (set_yes hk1 hr hyt hyk) hs
            · exact pinner_do4 hTS n ihE h hf hd hn h0 h1 h2 h3 h4 h5 h6 hc hs hk1 hr hyt hyk
          · exact pinner_do3 hTS n ihE h hf hd hn h0 h1 h2 h3 h4 h5 h6 hc hs hk1 hr hyt trivial
        · exact pinner_do2 hTS n ihE h hf hd hn h0 h1 h2 h3 h4 h5 h6 hc hs hk1 hr
      · exact pinner_do1 hTS n ihE h hf hd hn h0 h1 h2 h3 h4 h5 h6 hc hs hk1
  · exact pinner_bad hTS n h hf hd hn h0 h1 h2 h3 h4 h5 h6 hc

structure PAll (ts : List V3) (n : Nat) : Prop where
  expr : PQ ts n .expr 168
  and : PQ ts n .and 177
  order : PQ ts n .order 185
  sum : PQ ts n .sum 191
  prod : PQ ts n .prod 194
  sign : PQ ts n .sign 195
  first : PQ ts n .first 196
  block : PQ ts n .block 140
  stmt : PQ ts n .stmt 108
  inner : PQ ts n .inner 142
  func : PQ ts n .func 107
theorem PQ.zero {ts : List V3} {f : PF} {no : Nat} : PQ ts 0 f no := by
  intro g lp lc v s w h hf hd hn
  obtain ⟨k, hk⟩ := need_pos hn
  omega
theorem pall {ts : List V3} (hTS : TS ts) : ∀ (n k : Nat), k ≤ n → PAll ts k
  | 0, k, hk => by
    obtain rfl : k = 0 := by omega
    exact ⟨.zero, .zero, .zero, .zero, .zero, .zero, .zero, .zero, .zero, .zero, .zero⟩
  | n + 1, k, hk => by
    have ih := pall hTS n
    by_cases hkn : k ≤ n
    · exact ih k hkn
    obtain rfl : k = n + 1 := by omega
    have T := hide hTS
    exact ⟨pexpr_step T n (hide fun j hj => (ih j hj).and), pand_step T n (hide fun j hj => (ih j hj).order), porder_step T n (hide fun j hj => (ih j hj).sum), psum_step T n (hide fun j hj => (ih j hj).prod), pprod_step T n (hide fun j hj => (ih j hj).sign), psign_step T n (hide fun j hj => (ih j hj).sign) (hide fun j hj => (ih j hj).first), pfirst_step T n (hide fun j hj => (ih j hj).expr), pblock_step T n (hide fun j hj => (ih j hj).stmt), pstmt_step T n (hide fun j hj => (ih j hj).inner), pinner_step T n (hide fun j hj => (ih j hj).expr) (hide fun j hj => (ih j hj).block), pfunc_step T n (hide fun j hj => (ih j hj).block)⟩

end Go.Proofs.YtbipgmikgokfpaaDoor

/- PParse -/
namespace Go.Proofs.YtbipgmikgokfpaaDoor
open Go.RowKit Go.Joins
set_option linter.unusedVariables false
attribute [local irreducible] run advP upP comP needP nameP putP downP failP isP tkP nextP setP

theorem tok_len {k : Int} {l : List UInt8} (h : tokB k l = true) : l.length ≤ 100 := by
  unfold tokB at h
  split at h
  · simp at h; omega
  split at h
  · unfold wordB at h
    obtain ⟨x, hx, he⟩ := List.any_eq_true.1 h
    have : ∀ x ∈ srcWords, x.length ≤ 100 := by decide
    have h2 := this x hx
    rw [eq_of_beq he] at h2; exact h2
  split at h
  · have h2 : (digP l).2 = true := by rw [Bool.and_eq_true] at h; exact h.1
    have := (digP_parts h2).2.1
    omega
  split at h
  · unfold plainB at h
    simp at h; omega
  split at h
  · unfold signB at h
    obtain ⟨x, hx, he⟩ := List.any_eq_true.1 h
    have : ∀ x ∈ srcSigns, x.length ≤ 100 := by decide
    have h2 := this x hx
    rw [eq_of_beq he] at h2; exact h2
  · cases h
theorem TS.of_lexed {ts : List V3} {p : Nat} (h : Lexed ts p) (hp : p ≤ 1000000) : TS ts := ⟨h.few, fun v hv => by
  obtain ⟨h1, h2, h3⟩ := h.each v hv
  have h4 := tok_len h1
  rw [size_list] at h4
  exact ⟨h2, by omega, by omega⟩⟩
/-- steps enough for the whole of a source -/
def pN (ts : List V3) : Nat := 17 + 30 * (ts.length + 1)
def sliceA : Value → Option Addr
  | .slice a _ _ => a
  | _ => none
def sliceC : Value → Nat
  | .slice _ _ c => c
  | _ => 0
/-- where the nodes of a row lie -/
def layOf (a : Option Addr) (cap : Nat) (cs : List NC) : Lay := ⟨a, cap, fun i => match cs[i]? with | some c => sliceA c.un | none => none, fun i => match cs[i]? with | some c => sliceC c.un | none => 0, fun i => match cs[i]? with | some c => sliceA c.uk | none => none, fun i => match cs[i]? with | some c => sliceC c.uk | none => 0⟩
theorem NRow.nodes_at {w : World} {g : Nat} {lc : PX} {v : Value} {ns : List TN} {cs : List NC} {a : Option Addr} {cap : Nat} (h : NRow w g lc v ns cs) (hv : v = .slice a ns.length cap) : NodesAt w (layOf a cap cs) ns := by
  have hl := h.len
  intro i hi
  have hic : i < cs.length := by omega
  have hx : ns[i] = cs[i].x := by simp [← h.map]
  obtain ⟨hn, hk⟩ := h.each cs[i] (List.getElem_mem hic)
  obtain ⟨na, nc, en, hn⟩ := hn
  obtain ⟨ka, kc, ek, hk⟩ := hk
  have gi : cs[i]? = some cs[i] := List.getElem?_eq_getElem hic
  obtain ⟨g0, g1, g2, g3, g4⟩ := nodeCells_get cs i hic
  rcases h.row.2 with ⟨_, h0⟩ | ⟨b, cp, cur, e, _⟩
  · omega
  · rw [hv] at e
    injection e with e1 e2 e3
    have hcl : ∀ j u, j < 5 → (nodeCells cs)[i * 5 + j]? = some u → w.cell? ⟨b, i * 5 + j, none⟩ = some u := fun j u hj hu => by
      have hrow := h.row
      rw [hv, e1, ← hl] at hrow
      have := World.ownsRow.cellAt (size := 5) (n := cs.length) hrow (i * 5 + j) (by omega)
      rw [this]; exact hu
    refine ⟨b, 0, e1, ?_, ?_, ?_, ?_, ?_, ?_, ?_⟩
    · rw [Nat.zero_add, hx]; exact hcl 0 _ (by omega) g0
    · rw [Nat.zero_add, hx]; exact hcl 1 _ (by omega) g1
    · rw [Nat.zero_add, hx]; exact hcl 2 _ (by omega) g2
    · rw [Nat.zero_add, hx]
      have := hcl 3 _ (by omega) g3
      rw [this]; simp only [layOf, gi, en, sliceA, sliceC]
    · rw [Nat.zero_add, hx]
      have := hcl 4 _ (by omega) g4
      rw [this]; simp only [layOf, gi, ek, sliceA, sliceC]
    · rw [hx]
      intro j hj
      simp only [layOf, gi, en, sliceA]
      obtain ⟨bb, off, ha, _, _, _, _, hc⟩ := hn j hj
      exact ⟨bb, off, ha, hc⟩
    · rw [hx]
      intro j hj
      simp only [layOf, gi, ek, sliceA]
      obtain ⟨bb, off, ha, _, _, _, _, hc⟩ := hk j hj
      exact ⟨bb, off, ha, hc⟩
theorem NRow.apart {w w' : World} {g : Nat} {lc : PX} {v : Value} {ns : List TN} {cs : List NC} (h : NRow w g lc v ns cs) (hb : ∀ b, lc.b ≤ b → b < w.heap.size → w'.heap[b]? = w.heap[b]?) (hs : w.heap.size ≤ w'.heap.size) (hg : lc.b ≤ g) : NRow w' g lc v ns cs := by
  refine ⟨h.map, ownsRow_same h.row fun j hj => hb j (h.own j hj).1.1 (h.own j hj).2, h.ng, fun c hc => ⟨?_, ?_⟩, h.off, h.few⟩
  · obtain ⟨a, cap, e, hh⟩ := (h.each c hc).1
    refine ⟨a, cap, e, fun i hi => ?_⟩
    obtain ⟨b, off, ha, h1, h2, he, h3, h4⟩ := hh i hi
    exact ⟨b, off, ha, h1, by omega, he, h3, by rw [World.cell?_of_block (hb b (by omega) h2)]; exact h4⟩
  · obtain ⟨a, cap, e, hh⟩ := (h.each c hc).2
    refine ⟨a, cap, e, fun i hi => ?_⟩
    obtain ⟨b, off, ha, h1, h2, he, h3, h4⟩ := hh i hi
    exact ⟨b, off, ha, h1, by omega, he, h3, by rw [World.cell?_of_block (hb b (by omega) h2)]; exact h4⟩
/-- what reading a source into a tree leaves -/
def ParsePost (t : ByteArray) (w : World) (e : Ending) (w' : World) : Prop := Below w.heap.size w w' ∧ ∃ (ts : List V3) (p : Nat) (c : Int), LexTo t.data.toList 0 [] (ts, p, c) ∧
  ((c ≠ 0 ∧ e = .returned (.tuple #[.agg #[.slice none 0 0, .int .i64 0], .int .i64 (p : Int), .int .i64 c])) ∨
   (c = 0 ∧ (endPO ts (pN ts)).2.code ≠ 0 ∧ e = .returned (.tuple #[.agg #[.slice none 0 0, .int .i64 0], .int .i64 (endPO ts (pN ts)).2.place, .int .i64 (endPO ts (pN ts)).2.code])) ∨
   (c = 0 ∧ (endPO ts (pN ts)).2.code = 0 ∧ ∃ L : Lay, (∀ w'' : World, (∀ b, w.heap.size ≤ b → b < w'.heap.size → w''.heap[b]? = w'.heap[b]?) → w'.heap.size ≤ w''.heap.size → NodesAt w'' L (endPO ts (pN ts)).2.ns) ∧ (∀ x ∈ (endPO ts (pN ts)).2.ns, x.names.length ≤ 1000000) ∧ e = .returned (.tuple #[.agg #[.slice L.p (endPO ts (pN ts)).2.ns.length L.cap, .int .i64 (endPO ts (pN ts)).1], .int .i64 0, .int .i64 0])))
/-- the result's own cells -/
def ResT (w : World) (r : Nat) : Prop := w.heap[r]? = some (.cells #[.slice none 0 0, .int .i64 0] 25 (0, 0))
theorem ResT.cells {w : World} {r : Nat} (h : ResT w r) : w.cell? ⟨r, 0, none⟩ = some (.slice none 0 0) ∧ w.cell? ⟨r, 1, none⟩ = some (.int .i64 0) := by
  refine ⟨?_, ?_⟩ <;> (rw [cell_of_block h]; rfl)
theorem ResT.free {w : World} {r : Nat} (h : ResT w r) (i : Nat) : w.frozen? ⟨r, i, none⟩ = false := unfrozen_of_block h i
theorem ResT.same {w w' : World} {r : Nat} (h : ResT w r) (hb : w'.heap[r]? = w.heap[r]?) : ResT w' r := hb.trans h
theorem ResT.lt {w : World} {r : Nat} (h : ResT w r) : r < w.heap.size := (Array.getElem?_eq_some_iff.1 h).1
theorem below_less {B C : Nat} {a b : World} (h : Below B a b) (hc : C ≤ B) : Below C a b := ⟨h.os, h.tape, h.output, h.size, fun k hk => h.block k (by omega)⟩

end Go.Proofs.YtbipgmikgokfpaaDoor

/- PParse2 -/
namespace Go.Proofs.YtbipgmikgokfpaaDoor
open Go.RowKit Go.Joins
set_option linter.unusedVariables false
attribute [local irreducible] run advP upP comP needP nameP putP downP failP isP tkP nextP setP

set_option maxHeartbeats 4000000 in
set_option maxRecDepth 100000 in
theorem l03Parse_any (t : ByteArray) (w : World) (hs : t.size ≤ 65536) : Calls Tryd.prog 86 #[.string t] w (ParsePost t w) := by
  have HL := hide (l02Lex_wide t (w.alloc (.cells #[.slice none 0 0, .int .i64 0] 25)) hs)
  have HR0 : Hid (ResT (w.alloc (.cells #[.slice none 0 0, .int .i64 0] 25)) w.heap.size) := hide (heap_alloc_new w _)
  have HB0 := hide (nx_alloc w (.cells #[.slice none 0 0, .int .i64 0] 25))
  go_enter Tryd.func86, Tryd.ntmps86
  go_wp2_with fail
  refine (unhide HL).mono ?_
  rintro e w1 ⟨lv, ts, p, c, rfl, hlex, htok, hb1⟩
  clear HL
  have HB1 := hide (nx_trans (unhide HB0) hb1)
  have hR1 : ResT w1 w.heap.size := (unhide HR0).same (hb1.block _ (unhide HR0).lt)
  have HR1 := hide hR1
  have HLX := hide hlex
  have hw1 : w.heap.size < w1.heap.size := hR1.lt
  obtain ⟨lp, lcap, hlv, htk⟩ := htok.toks
  have hlt : ∀ a, lp = some a → a.block < w1.heap.size := fun a ha => htok.own_lt _ (by rw [hlv, ha]; rfl)
  subst hlv
  by_cases hc : c = 0
  · subst hc
    have hgood := (LexTo.good hlex (Nat.zero_le _) (Lexed.zero 0))
    have hL : Lexed ts t.data.toList.length := by
      rcases hgood with h | h
      · exact h.2.2
      · exact absurd rfl h.1
    have HTS : Hid (TS ts) := hide (TS.of_lexed hL (by rw [size_list]; omega))
    have hf3 := (unhide HTS).few
    -- the parser as it begins
    have hrow0 : (w1.alloc (.cells #[] 36)).ownsRow w1.heap.size 36 5 (.slice (some ⟨w1.heap.size, 0, none⟩) 0 0) 0 [] := by
      have := World.ownsRow_lit (base := w1.heap.size) (e := 36) (size := 5) w1 #[] 0 (Nat.le_refl _) (by decide) (by simp)
      simpa using this
    have hPA : PAt ((w1.alloc (.cells #[] 36)).alloc (.cells #[.slice lp ts.length lcap, .int .i64 0, .slice (some ⟨w1.heap.size, 0, none⟩) 0 0, .int .i64 0, .int .i64 0, .int .i64 0] 149)) (w1.heap.size + 1) lp ⟨lcap, fun _ => False, w1.heap.size⟩ ts (.slice (some ⟨w1.heap.size, 0, none⟩) 0 0) ⟨0, [], 0, 0, 0⟩ := by
      refine ⟨?_, htk.later (nx_al (nx_alloc _ _)), hlt, by show w1.heap.size ≤ w1.heap.size + 1; omega, ⟨[], rfl, ownsRow_same hrow0 fun j hj => Below.heap_alloc _ _ _ (by have : w1.heap.size = j := Option.some.inj hj; simp; omega), fun j hj => (by have : w1.heap.size = j := Option.some.inj hj; omega), fun c hc => (by cases hc), fun j hj h => h, fun c hc => (by cases hc)⟩, fun j hj => hj.elim, Nat.zero_le _⟩
      have := heap_alloc_new (w1.alloc (.cells #[] 36)) (.cells #[.slice lp ts.length lcap, .int .i64 0, .slice (some ⟨w1.heap.size, 0, none⟩) 0 0, .int .i64 0, .int .i64 0, .int .i64 0] 149)
      simpa using this
    have hs2 : ((w1.alloc (.cells #[] 36)).alloc (.cells #[.slice lp ts.length lcap, .int .i64 0, .slice (some ⟨w1.heap.size, 0, none⟩) 0 0, .int .i64 0, .int .i64 0, .int .i64 0] 149)).heap.size = w1.heap.size + 2 := by simp
    have HP1 := hide (hPA.fence (.cells #[] 3) 0 0)
    have HI1 : Hid (IntBuf (((w1.alloc (.cells #[] 36)).alloc (.cells #[.slice lp ts.length lcap, .int .i64 0, .slice (some ⟨w1.heap.size, 0, none⟩) 0 0, .int .i64 0, .int .i64 0, .int .i64 0] 149)).alloc (.cells #[] 3)) (w1.heap.size + 1 + 1) (.slice (some ⟨w1.heap.size + 2, 0, none⟩) 0 0) []) := hide (by
      have := IntBuf.lit ((w1.alloc (.cells #[] 36)).alloc (.cells #[.slice lp ts.length lcap, .int .i64 0, .slice (some ⟨w1.heap.size, 0, none⟩) 0 0, .int .i64 0, .int .i64 0, .int .i64 0] 149)) (w1.heap.size + 1 + 1) [] (by simp) (by decide)
      simpa using this)
    rw [hs2] at HP1
    have HB2 := hide (nx_al (o := .cells #[.slice lp ts.length lcap, .int .i64 0, .slice (some ⟨w1.heap.size, 0, none⟩) 0 0, .int .i64 0, .int .i64 0, .int .i64 0] 149) (nx_al (o := .cells #[] 36) (unhide HB1)))
    have HRT : Hid (ResT ((w1.alloc (.cells #[] 36)).alloc (.cells #[.slice lp ts.length lcap, .int .i64 0, .slice (some ⟨w1.heap.size, 0, none⟩) 0 0, .int .i64 0, .int .i64 0, .int .i64 0] 149)) w.heap.size) := hide (hR1.same ((nx_al (nx_alloc w1 (.cells #[] 36))).block _ hw1))
    have hs2' : Hid (((w1.alloc (.cells #[] 36)).alloc (.cells #[.slice lp ts.length lcap, .int .i64 0, .slice (some ⟨w1.heap.size, 0, none⟩) 0 0, .int .i64 0, .int .i64 0, .int .i64 0] 149)).heap.size = w1.heap.size + 2) := hide (by simp)
    generalize hlc : (⟨lcap, fun _ => False, w1.heap.size⟩ : PX) = lc at HP1
    have HLC : Hid (w1.heap.size = lc.b) := hide (by rw [← hlc])
    generalize ho : run ts (pN ts) (.topL []) ⟨0, [], 0, 0, 0⟩ = o
    have HE : Hid (endPO ts (pN ts) = putP ts ⟨18, 0, em, [], o.ks⟩ o.s) := hide (by unfold endPO; rw [ho])
    have HO := hide ho
    clear hPA hs2 hrow0 htk hlt htok hb1 hgood hL hR1 HR1 HB1 HR0 HB0 hlex hlc ho
    go_wp2
    generalize ((w1.alloc (.cells #[] 36)).alloc (.cells #[.slice lp ts.length lcap, .int .i64 0, .slice (some ⟨w1.heap.size, 0, none⟩) 0 0, .int .i64 0, .int .i64 0, .int .i64 0] 149)) = w2 at HP1 HI1 HB2 HRT hs2' ⊢
    have hsR : Hid (w.heap.size < w2.heap.size ∧ w.heap.size ≠ w1.heap.size + 1 ∧ (Value.slice (some ⟨w1.heap.size, 0, none⟩) 0 0).ownBlock ≠ some w.heap.size) := hide ⟨(unhide HRT).lt, by omega, fun e => by have : w1.heap.size = w.heap.size := Option.some.inj e; omega⟩
    have HBK : Hid (∀ v' w', PK (w1.heap.size + 1) (.slice (some ⟨w1.heap.size, 0, none⟩) 0 0) v' w2 w' → Below w1.heap.size w2 w') := hide (fun v' w' h => h.below (by omega) (by rw [unhide hs2']; omega) (fun j hj => by have : w1.heap.size = j := Option.some.inj hj; omega))
    go_loopg [9] (pN ts) (fun gn kv wx => ∃ (ks : List Int) (s' : PS) (v' : Value), gn ≤ pN ts ∧ Hid (needN ts (.topL ks) s' ≤ gn) ∧ Hid (IntBuf wx (w1.heap.size + 1 + 1) kv ks) ∧ Hid (PAt wx (w1.heap.size + 1) lp (lc.on kv) ts v' s') ∧ Hid (PK (w1.heap.size + 1) (.slice (some ⟨w1.heap.size, 0, none⟩) 0 0) v' w2 wx) ∧ Hid (Few s') ∧ Hid (s'.dp ≤ 20) ∧ Hid (KL ks s') ∧ Hid (∀ j, kv.ownBlock = some j → w2.heap.size ≤ j) ∧ Hid (run ts gn (.topL ks) s' = o))
    case atStart => exact ⟨[], ⟨0, [], 0, 0, 0⟩, _, Nat.le_refl _, hide (by unfold needN pN; simp [lev]), HI1, HP1, hide ((PK.refl _ _ _).alloc _), hide (by show (0 : Nat) ≤ 200; omega), hide (by show (0 : Nat) ≤ 20; omega), hide (KL.nil _), hide (fun j hj => by have : w1.heap.size + 2 = j := Option.some.inj hj; rw [unhide hs2']; omega), HO⟩
    case round =>
      obtain ⟨ks, s', v', hgn, HN, HI, HP, HK, HF, HD, HKL, HW, HRn⟩ := hrel
      obtain ⟨k, hk⟩ := need_pos (unhide HN)
      obtain ⟨ka, kc, hkv⟩ := (unhide HI).slice
      subst hkv
      have HR2 := unhide HRn
      rw [hk, run] at HR2
      have hat' := (unhide HP).hat
      have hlen : ks.length ≤ 301 := by have := (unhide HKL).1; omega
      obtain ⟨c0, c1, _, _, c4, _⟩ := (unhide HP).cells
      have hgw := (unhide HP).lt
      have HT := hide (fun w4 (hp4 : PAt w4 (w1.heap.size + 1) lp (lc.on (.slice ka ks.length kc)) ts v' s') => ptake (unhide HTS) hp4 (⟨#[102, 117, 110, 99, 116, 105, 111, 110]⟩ : ByteArray))
      unfold takeS at HT
      rw [show (⟨#[102, 117, 110, 99, 116, 105, 111, 110]⟩ : ByteArray).data.toList = [102, 117, 110, 99, 116, 105, 111, 110] from rfl] at HT
      have HEND := hide (fun (s2 : PS) (v2 : Value) (w4 : World) (hp2 : PAt w4 (w1.heap.size + 1) lp (lc.on (.slice ka ks.length kc)) ts v2 s2) (hf2 : Few s2) (hi2 : IntBuf w4 (w1.heap.size + 1 + 1) (.slice ka ks.length kc) ks) => pput (unhide HTS) hp2.drop hf2 ⟨18, 0, em, [], ks⟩ (.slice none 0 0) (.slice ka ks.length kc) 0 (w1.heap.size + 1 + 1) (StrBuf.nil _ _) hi2 (by simp) (by simp; omega))
      clear HP1 HI1 HO HRn
      by_cases hc : s'.code = 0
      · rw [hc] at c4
        by_cases hl : s'.at' < ts.length
        · have hli : (s'.at' : Int) < (ts.length : Int) := by omega
          rw [if_pos ⟨hc, hl⟩] at HR2
          cases hi : isP ts s' [102, 117, 110, 99, 116, 105, 111, 110] with
          | true =>
            rw [if_pos hi] at HR2
            have ht : tkP ts s' [102, 117, 110, 99, 116, 105, 111, 110] = true := by unfold tkP; rw [hc, hi]; rfl
            rw [ht, if_pos rfl] at HT
            clear hi ht hl
            have HN2 : Hid (needN ts .func (advP s') ≤ k) := hide (need_on (f' := .func) (hk ▸ unhide HN) hat' (PLe.refl s').adv (PLt.adv (PLe.refl s')) hc)
            have HN3 : Hid (needN ts (.topL (ks ++ [(run ts k .func (advP s')).r])) (run ts k .func (advP s')).s ≤ k) := hide (need_on (f' := .topL _) (hk ▸ unhide HN) hat' (run_le ts k .func s' (advP s') (PLe.refl s').adv) (run_lt ts k .func s' (advP s') rfl (PLe.refl s').adv) hc)
            have HF2 := hide (Few.run (ts := ts) (n := k) (f := .func) (s := (advP s')) ((unhide HF).same (adv_ns s')))
            have HD2 : Hid ((run ts k .func (advP s')).s.dp ≤ 20) := hide (by rw [run_dp]; exact (by rw [adv_dp]; exact unhide HD))
            have HL2 := hide ((unhide HKL).step (r := (run ts k .func (advP s')).r) hc (run_le ts k .func s' (advP s') (PLe.refl s').adv) (run_lt ts k .func s' (advP s') rfl (PLe.refl s').adv))
            have HC2 := hide (fun w2 hp2 => (pall (unhide HTS) k k (Nat.le_refl _)).func (w1.heap.size + 1) lp (lc.on (.slice ka ks.length kc)) v' (advP s') w2 hp2 ((unhide HF).same (adv_ns s')) (by rw [adv_dp]; exact unhide HD) (unhide HN2))
            generalize run ts k .func (advP s') = o2 at HC2 HF2 HD2 HN3 HL2 HR2
            have HR3 := hide HR2
            clear HN2 HN HR2 hc hat' HF HD HKL HEND HE
            go_wp2_with fail
            go_quiet (fail)
            have HT2 := hide (unhide HT _ ((unhide HP).later (below_drewN (Below.refl _ _) nq)))
            have HP1 := hide ((unhide HP).later (below_drewN (Below.refl _ _) nq))
            have HI1 := hide ((unhide HI).later (below_drewN (Below.refl _ _) nq))
            have HK1 := hide ((unhide HK).then_below (below_drewN (Below.refl _ _) nq))
            clear HT HP HI HK c0 c1 c4
            go_wp2_with fail
            refine (unhide HT2).mono ?_
            rintro e w4 ⟨rfl, hp4, hk4⟩
            have HC3 := hide (unhide HC2 w4 hp4)
            have HP4 := hide hp4
            have HI4 := hide ((unhide HI1).byPK (unhide HP1) hk4)
            have HK4 := hide ((unhide HK1).trans hk4)
            clear HT2 hp4 hk4 HC2 HP1 HI1 HK1
            go_wp2_with fail
            refine (unhide HC3).mono ?_
            rintro e w5 ⟨rfl, v5, hp5, hk5⟩
            have HI5 := hide (((unhide HI4).byPK (unhide HP4) hk5).alloc (.cells #[.int .i64 o2.r] 3))
            have HP5 := hide (hp5.alloc (.cells #[.int .i64 o2.r] 3))
            have HK5 := hide (((unhide HK4).trans hk5).alloc (.cells #[.int .i64 o2.r] 3))
            have hg5 := hp5.lt
            clear HC3 HK4 hp5 hk5 HI4 HP4
            go_wp2_with (at_builtin; refine wp_appIAt _ rfl _ _ rfl (w1.heap.size + 1 + 1) w5.heap.size _ ks o2.r rfl (unhide HI5) rfl (by simp) (by simp; omega) (by omega) ?c0)
            case c0 =>
              intro kv6 w6 hI6 hG6
              have HP6 := hide ((unhide HP5).app hG6 (fun j hj => hI6.own_lt j hj))
              have HK6 := hide ((unhide HK5).row hG6 (unhide HW))
              have HW6 : Hid (∀ j, kv6.ownBlock = some j → w2.heap.size ≤ j) := hide (fun j hj => by
                rcases hG6.lies j hj with e | e
                · exact unhide HW j e
                · have := (unhide HK5).size; omega)
              have HI6 := hide hI6
              clear hI6 hG6 HP5 HK5 HI5
              go_wp2
              go_roundg k
              case rel => exact ⟨ks ++ [o2.r], o2.s, v5, by omega, HN3, HI6, HP6, HK6, HF2, HD2, HL2, HW6, HR3⟩
              case measure => omega
          | false =>
            rw [if_neg (nt hi)] at HR2
            have ht : tkP ts s' [102, 117, 110, 99, 116, 105, 111, 110] = false := by unfold tkP; rw [hi]; simp
            rw [ht, if_neg (by simp)] at HT
            clear hi ht hl
            have HN2 : Hid (needN ts .stmt s' ≤ k) := hide (need_run (f := .topL ks) (f' := .stmt) (hk ▸ unhide HN) hat' (PLe.refl s') (fun _ _ => .inl (show (15 : Nat) < 17 by decide)) (fun c => absurd hc c))
            have HN3 : Hid (needN ts (.topL (ks ++ [(run ts k .stmt s').r])) (run ts k .stmt s').s ≤ k) := hide (need_on (f' := .topL _) (hk ▸ unhide HN) hat' (run_le ts k .stmt s' s' (PLe.refl s')) (run_lt ts k .stmt s' s' rfl (PLe.refl s')) hc)
            have HF2 := hide (Few.run (ts := ts) (n := k) (f := .stmt) (s := s') (unhide HF))
            have HD2 : Hid ((run ts k .stmt s').s.dp ≤ 20) := hide (by rw [run_dp]; exact (unhide HD))
            have HL2 := hide ((unhide HKL).step (r := (run ts k .stmt s').r) hc (run_le ts k .stmt s' s' (PLe.refl s')) (run_lt ts k .stmt s' s' rfl (PLe.refl s')))
            have HC2 := hide (fun w2 hp2 => (pall (unhide HTS) k k (Nat.le_refl _)).stmt (w1.heap.size + 1) lp (lc.on (.slice ka ks.length kc)) v' s' w2 hp2 (unhide HF) (unhide HD) (unhide HN2))
            generalize run ts k .stmt s' = o2 at HC2 HF2 HD2 HN3 HL2 HR2
            have HR3 := hide HR2
            clear HN2 HN HR2 hc hat' HF HD HKL HEND HE
            go_wp2_with fail
            go_quiet (fail)
            have HT2 := hide (unhide HT _ ((unhide HP).later (below_drewN (Below.refl _ _) nq)))
            have HP1 := hide ((unhide HP).later (below_drewN (Below.refl _ _) nq))
            have HI1 := hide ((unhide HI).later (below_drewN (Below.refl _ _) nq))
            have HK1 := hide ((unhide HK).then_below (below_drewN (Below.refl _ _) nq))
            clear HT HP HI HK c0 c1 c4
            go_wp2_with fail
            refine (unhide HT2).mono ?_
            rintro e w4 ⟨rfl, hp4, hk4⟩
            have HC3 := hide (unhide HC2 w4 hp4)
            have HP4 := hide hp4
            have HI4 := hide ((unhide HI1).byPK (unhide HP1) hk4)
            have HK4 := hide ((unhide HK1).trans hk4)
            clear HT2 hp4 hk4 HC2 HP1 HI1 HK1
            go_wp2_with fail
            refine (unhide HC3).mono ?_
            rintro e w5 ⟨rfl, v5, hp5, hk5⟩
            have HI5 := hide (((unhide HI4).byPK (unhide HP4) hk5).alloc (.cells #[.int .i64 o2.r] 3))
            have HP5 := hide (hp5.alloc (.cells #[.int .i64 o2.r] 3))
            have HK5 := hide (((unhide HK4).trans hk5).alloc (.cells #[.int .i64 o2.r] 3))
            have hg5 := hp5.lt
            clear HC3 HK4 hp5 hk5 HI4 HP4
            go_wp2_with (at_builtin; refine wp_appIAt _ rfl _ _ rfl (w1.heap.size + 1 + 1) w5.heap.size _ ks o2.r rfl (unhide HI5) rfl (by simp) (by simp; omega) (by omega) ?c0)
            case c0 =>
              intro kv6 w6 hI6 hG6
              have HP6 := hide ((unhide HP5).app hG6 (fun j hj => hI6.own_lt j hj))
              have HK6 := hide ((unhide HK5).row hG6 (unhide HW))
              have HW6 : Hid (∀ j, kv6.ownBlock = some j → w2.heap.size ≤ j) := hide (fun j hj => by
                rcases hG6.lies j hj with e | e
                · exact unhide HW j e
                · have := (unhide HK5).size; omega)
              have HI6 := hide hI6
              clear hI6 hG6 HP5 HK5 HI5
              go_wp2
              go_roundg k
              case rel => exact ⟨ks ++ [o2.r], o2.s, v5, by omega, HN3, HI6, HP6, HK6, HF2, HD2, HL2, HW6, HR3⟩
              case measure => omega
        · have hli : ¬ (s'.at' : Int) < (ts.length : Int) := by omega
          have hld : decide ((s'.at' : Int) < (ts.length : Int)) = false := decide_eq_false hli
          rw [if_neg (fun h => hl h.2)] at HR2
          subst HR2
          clear hk hl HT hc
          go_wp2_with fail
          go_quiet (fail)
          go_wp2_with fail
          refine (unhide HEND _ _ _ ((unhide HP).later (below_drewN (Below.refl _ _) nq)) (unhide HF) ((unhide HI).later (below_drewN (Below.refl _ _) nq))).mono ?_
          rintro e w5 ⟨rfl, v5, hp5, hk5⟩
          have hkt := (unhide HK).trans ((PK.of_below (below_drewN (Below.refl _ _) nq)).trans hk5)
          have hR5 := (unhide HRT).same (hkt.block _ (unhide hsR).1 (unhide hsR).2.1 (unhide hsR).2.2)
          have HB5 := hide ((unhide HB2).trans (below_less (unhide HBK _ _ hkt) (by omega)))
          generalize putP ts ⟨18, 0, em, [], ks⟩ s' = q at hp5 HE
          obtain ⟨y0, y1⟩ := hR5.cells
          have f0 := hR5.free 0
          have f1 := hR5.free 1
          obtain ⟨a5, k5, hv5⟩ := hp5.slice
          subst hv5
          obtain ⟨x0, x1, x2, x3, x4, x5⟩ := hp5.cells
          have hg5 := hp5.lt
          have hR5l := hR5.lt
          have HP5 := hide hp5
          clear hp5 hk5 hkt hR5 HEND HP HK HI HF c0 c1 c4
          by_cases hq : q.2.code = 0
          · rw [hq] at x4
            have HQ := hide hq
            have HFIN : Hid (∀ w6, (∀ b, w1.heap.size ≤ b → b < w5.heap.size → w6.heap[b]? = w5.heap[b]?) → w5.heap.size ≤ w6.heap.size → Below w.heap.size w w6 → ParsePost t w (.returned (.tuple #[.agg #[.slice a5 q.2.ns.length k5, .int .i64 q.1], .int .i64 0, .int .i64 0])) w6) := hide (fun w6 h1 h2 h3 => by
              obtain ⟨cs, hr⟩ := (unhide HP5).row
              have hL3 : ∀ x ∈ q.2.ns, x.names.length ≤ 1000000 := fun x hx => by
                rw [← hr.map] at hx
                obtain ⟨c, hc, rfl⟩ := List.mem_map.1 hx
                exact hr.few c hc
              refine ⟨h3, ts, p, 0, unhide HLX, .inr (.inr ⟨rfl, ?_, layOf a5 k5 cs, ?_, ?_, ?_⟩)⟩
              · rw [unhide HE]; exact unhide HQ
              · rw [unhide HE]; exact fun w7 g1 g2 => (hr.apart (w' := w7) (fun b hb hb5 => by rw [← unhide HLC] at hb; rw [g1 b (by omega) (by omega)]; exact h1 b hb hb5) (by omega) (unhide HP5).bg).nodes_at rfl
              · rw [unhide HE]; exact hL3
              · rw [unhide HE]; rfl)
            clear HQ hq HP5 HE
            go_wp2
            refine bodyPost_ret (v := .tuple #[.agg #[.slice a5 q.2.ns.length k5, .int .i64 q.1], .int .i64 0, .int .i64 0]) (by simp [results, Tryd.results86, go_sem, *]) rfl (unhide HFIN _ (fun b hb _ => ?_) ?_ ?_)
            · rw [Below.heap_setCell _ _ _ _ (by show b ≠ w.heap.size; omega), Below.heap_setCell _ _ _ _ (by show b ≠ w.heap.size; omega)]
            · simp
            · exact nx_set (nx_set (unhide HB5) (Nat.le_refl _)) (Nat.le_refl _)
          · have e9 : (q.2.code != 0) = true := by simp [hq]
            have HFIN : Hid (∀ w6, Below w.heap.size w w6 → ParsePost t w (.returned (.tuple #[.agg #[.slice none 0 0, .int .i64 0], .int .i64 q.2.place, .int .i64 q.2.code])) w6) := hide (fun w6 h3 => ⟨h3, ts, p, 0, unhide HLX, .inr (.inl ⟨rfl, by rw [unhide HE]; exact hq, by rw [unhide HE]⟩)⟩)
            clear hq HP5 HE
            go_wp2
            go_region
            all_goals go_wp2
            all_goals exact bodyPost_ret (v := .tuple #[.agg #[.slice none 0 0, .int .i64 0], .int .i64 q.2.place, .int .i64 q.2.code]) (by simp [results, Tryd.results86, go_sem, *]) rfl (unhide HFIN _ (by repeat (first | exact unhide HB5 | refine nx_drew ?_ | refine nx_set ?_ (Nat.le_refl _))))
      · have e0 : (s'.code == 0) = false := beq_eq_false_iff_ne.2 hc
        rw [if_neg (fun h => hc h.1)] at HR2
        subst HR2
        clear hk HT hc
        go_wp2_with fail
        go_quiet (fail)
        go_wp2_with fail
        refine (unhide HEND _ _ _ ((unhide HP).later (below_drewN (Below.refl _ _) nq)) (unhide HF) ((unhide HI).later (below_drewN (Below.refl _ _) nq))).mono ?_
        rintro e w5 ⟨rfl, v5, hp5, hk5⟩
        have hkt := (unhide HK).trans ((PK.of_below (below_drewN (Below.refl _ _) nq)).trans hk5)
        have hR5 := (unhide HRT).same (hkt.block _ (unhide hsR).1 (unhide hsR).2.1 (unhide hsR).2.2)
        have HB5 := hide ((unhide HB2).trans (below_less (unhide HBK _ _ hkt) (by omega)))
        generalize putP ts ⟨18, 0, em, [], ks⟩ s' = q at hp5 HE
        obtain ⟨y0, y1⟩ := hR5.cells
        have f0 := hR5.free 0
        have f1 := hR5.free 1
        obtain ⟨a5, k5, hv5⟩ := hp5.slice
        subst hv5
        obtain ⟨x0, x1, x2, x3, x4, x5⟩ := hp5.cells
        have hg5 := hp5.lt
        have hR5l := hR5.lt
        have HP5 := hide hp5
        clear hp5 hk5 hkt hR5 HEND HP HK HI HF c0 c1 c4
        by_cases hq : q.2.code = 0
        · rw [hq] at x4
          have HQ := hide hq
          have HFIN : Hid (∀ w6, (∀ b, w1.heap.size ≤ b → b < w5.heap.size → w6.heap[b]? = w5.heap[b]?) → w5.heap.size ≤ w6.heap.size → Below w.heap.size w w6 → ParsePost t w (.returned (.tuple #[.agg #[.slice a5 q.2.ns.length k5, .int .i64 q.1], .int .i64 0, .int .i64 0])) w6) := hide (fun w6 h1 h2 h3 => by
            obtain ⟨cs, hr⟩ := (unhide HP5).row
            have hL3 : ∀ x ∈ q.2.ns, x.names.length ≤ 1000000 := fun x hx => by
              rw [← hr.map] at hx
              obtain ⟨c, hc, rfl⟩ := List.mem_map.1 hx
              exact hr.few c hc
            refine ⟨h3, ts, p, 0, unhide HLX, .inr (.inr ⟨rfl, ?_, layOf a5 k5 cs, ?_, ?_, ?_⟩)⟩
            · rw [unhide HE]; exact unhide HQ
            · rw [unhide HE]; exact fun w7 g1 g2 => (hr.apart (w' := w7) (fun b hb hb5 => by rw [← unhide HLC] at hb; rw [g1 b (by omega) (by omega)]; exact h1 b hb hb5) (by omega) (unhide HP5).bg).nodes_at rfl
            · rw [unhide HE]; exact hL3
            · rw [unhide HE]; rfl)
          clear HQ hq HP5 HE
          go_wp2
          refine bodyPost_ret (v := .tuple #[.agg #[.slice a5 q.2.ns.length k5, .int .i64 q.1], .int .i64 0, .int .i64 0]) (by simp [results, Tryd.results86, go_sem, *]) rfl (unhide HFIN _ (fun b hb _ => ?_) ?_ ?_)
          · rw [Below.heap_setCell _ _ _ _ (by show b ≠ w.heap.size; omega), Below.heap_setCell _ _ _ _ (by show b ≠ w.heap.size; omega)]
          · simp
          · exact nx_set (nx_set (unhide HB5) (Nat.le_refl _)) (Nat.le_refl _)
        · have e9 : (q.2.code != 0) = true := by simp [hq]
          have HFIN : Hid (∀ w6, Below w.heap.size w w6 → ParsePost t w (.returned (.tuple #[.agg #[.slice none 0 0, .int .i64 0], .int .i64 q.2.place, .int .i64 q.2.code])) w6) := hide (fun w6 h3 => ⟨h3, ts, p, 0, unhide HLX, .inr (.inl ⟨rfl, by rw [unhide HE]; exact hq, by rw [unhide HE]⟩)⟩)
          clear hq HP5 HE
          go_wp2
          go_region
          all_goals go_wp2
          all_goals exact bodyPost_ret (v := .tuple #[.agg #[.slice none 0 0, .int .i64 0], .int .i64 q.2.place, .int .i64 q.2.code]) (by simp [results, Tryd.results86, go_sem, *]) rfl (unhide HFIN _ (by repeat (first | exact unhide HB5 | refine nx_drew ?_ | refine nx_set ?_ (Nat.le_refl _))))
  · have e0 : (c != 0) = true := by simp [hc]
    obtain ⟨y0, y1⟩ := hR1.cells
    have f0 := hR1.free 0
    have f1 := hR1.free 1
    have HC := hide hc
    clear htk hlt hR1 htok hb1 hlex hc
    go_wp2
    refine bodyPost_ret (v := .tuple #[.agg #[.slice none 0 0, .int .i64 0], .int .i64 (p : Int), .int .i64 c]) (by simp [results, Tryd.results86, go_sem, *]) rfl ⟨nx_set (nx_set (unhide HB1) (Nat.le_refl _)) (Nat.le_refl _), ts, p, c, unhide HLX, .inl ⟨unhide HC, rfl⟩⟩

end Go.Proofs.YtbipgmikgokfpaaDoor

/- PTree -/
namespace Go.Proofs.YtbipgmikgokfpaaDoor
open Go.RowKit Go.Joins
set_option linter.unusedVariables false

theorem Vis.len_ge {ns : List TN} {ks : List Int} {l : List Nat} {d : Nat} (h : Vis ns ks l d) : ks.length ≤ l.length := by
  induction h with
  | nil => simp
  | cons j x ks l1 l2 d1 d2 h0 hx h1 h2 i1 i2 => simp; omega
theorem ident_size {t : ByteArray} (h : identB t = true) : t.size ≤ 100 := by
  have := tok_len h
  rw [size_list] at this; exact this
theorem parts_small {x : TN} (h : partsB x = true) : x.t.size ≤ 100 ∧ ∀ s ∈ x.names, s.size ≤ 100 := by
  have hop : ∀ l : List UInt8, opB l = true → l.length ≤ 100 := fun l h => by
    unfold opB at h
    simp at h
    rcases h with (((((h | h) | h) | h) | h) | h) | h <;> rw [h] <;> decide
  have nn : x.names.length = 0 → ∀ s ∈ x.names, s.size ≤ 100 := fun h0 s hs => by
    rw [List.length_eq_zero_iff.1 h0] at hs; cases hs
  unfold partsB at h
  split at h
  · simp only [Bool.and_eq_true, decide_eq_true_eq] at h; exact ⟨by omega, nn h.2⟩
  split at h
  · simp only [Bool.and_eq_true, decide_eq_true_eq] at h; exact ⟨by omega, nn h.2⟩
  split at h
  · cases h
  rename_i hz
  have hn : x.k ≠ 20 → x.names.length = 0 := fun h20 => by
    by_cases h0 : x.names.length = 0
    · exact h0
    · exact absurd (.inr ⟨h20, by omega⟩) hz
  split at h
  · refine ⟨?_, nn (hn (by omega))⟩
    unfold plainB at h
    simp at h
    have := h.1
    have e := size_list x.t
    simp at e
    omega
  split at h
  · refine ⟨?_, nn (hn (by omega))⟩
    have e := size_list x.t
    rw [Bool.or_eq_true] at h
    rcases h with h | h <;> (rw [eq_of_beq h] at e; simp at e; omega)
  split at h
  · refine ⟨?_, nn (hn (by omega))⟩
    have := hop _ h
    rw [size_list] at this; exact this
  split at h
  · rw [Bool.and_eq_true] at h
    exact ⟨ident_size h.2, fun s hs => ident_size (List.all_eq_true.1 h.1 s hs)⟩
  · rename_i hnm
    simp only [Bool.and_eq_true, decide_eq_true_eq] at h
    have h20 : x.k ≠ 20 := by omega
    exact ⟨by omega, nn (hn h20)⟩
theorem small_of {ns : List TN} {root : Int} (h : TreeOkP ns root) (hn : ∀ x ∈ ns, x.names.length ≤ 1000000) : Small ns := by
  obtain ⟨l, d, h1, h2, h3, h4⟩ := h
  refine ⟨by omega, fun x hx => ?_⟩
  obtain ⟨i, hi, rfl⟩ := List.getElem_of_mem hx
  obtain ⟨n, hn1, hn2, _⟩ := h2.2.2.2 i (h4 i hi)
  rw [List.getElem?_eq_getElem hi] at hn1
  obtain rfl := Option.some.inj hn1
  have hp : partsB ns[i] = true := by unfold nodeB at hn2; rw [Bool.and_eq_true] at hn2; exact hn2.2
  obtain ⟨p1, p2⟩ := parts_small hp
  obtain ⟨l', d', hv, _, _, hl'⟩ := h2.1.sub i (h4 i hi)
  obtain ⟨y, l1, l2, d1, d2, _, hy, v1, v2, e1, _⟩ := hv.inv
  rw [Int.toNat_natCast, List.getElem?_eq_getElem hi] at hy
  obtain rfl := Option.some.inj hy
  have hk := v1.len_ge
  have hll := nodup_le ns.length l h2.2.1 (h2.1.lt)
  have : l'.length = 1 + (l1.length + l2.length) := by rw [e1]; simp; omega
  exact ⟨by omega, by have := hn _ hx; omega, by omega, fun s hs => by have := p2 s hs; omega⟩
def src1 : List UInt8 := [114, 101, 116, 117, 114, 110, 32, 49, 59]
def toks1 : List V3 := [tokV 2 0 [114, 101, 116, 117, 114, 110], tokV 3 7 [49], tokV 5 8 [59]]
theorem lex1 : LexTo src1 0 [] (toks1, 0, 0) :=
  .tok 0 [] 114 _ 2 [114, 101, 116, 117, 114, 110] 6 _ rfl (by decide) (by decide) (by kernel_rfl) (.blank 6 _ 32 _ _ rfl (by decide) (.tok 7 _ 49 _ 3 [49] 1 _ rfl (by decide) (by decide) (by kernel_rfl) (.tok 8 _ 59 _ 5 [59] 1 _ rfl (by decide) (by decide) (by kernel_rfl) (.done 9 _ (by decide)))))
theorem parse1 : (endPO toks1 (pN toks1)).2.code = 0 := by kernel_rfl

/-- what a drawn tree is -/
def DrawnT (g : Nat) (w : World) (e : Ending) (w' : World) : Prop := ∃ (ns : List TN) (root : Int) (L : Lay), e = .returned (.agg #[.slice L.p ns.length L.cap, .int .i64 root]) ∧ (∀ w'' : World, (∀ b, g < b → b < w'.heap.size → w''.heap[b]? = w'.heap[b]?) → w'.heap.size ≤ w''.heap.size → NodesAt w'' L ns) ∧ TreeOkP ns root ∧ Small ns ∧ Below g w w'
def DrawnF (w : World) (e : Ending) (w' : World) : Prop := ∃ (ns : List TN) (root : Int) (L : Lay), e = .returned (.agg #[.slice L.p ns.length L.cap, .int .i64 root]) ∧ NodesAt w' L ns ∧ TreeOkP ns root ∧ Small ns ∧ Below w.heap.size w w'
theorem DrawnT.of {s : ByteArray} {w0 w1 w2 : World} {e : Ending} {x : Value} {p c : Int} (h : ParsePost s w1 e w2) (he : e = .returned (.tuple #[x, .int .i64 p, .int .i64 c])) (hc : c = 0) : ∃ (ns : List TN) (root : Int) (L : Lay), x = .agg #[.slice L.p ns.length L.cap, .int .i64 root] ∧ (∀ w'' : World, (∀ b, w1.heap.size ≤ b → b < w2.heap.size → w''.heap[b]? = w2.heap[b]?) → w2.heap.size ≤ w''.heap.size → NodesAt w'' L ns) ∧ TreeOkP ns root ∧ Small ns ∧ p = 0 := by
  obtain ⟨_, ts, p', c', hl, h⟩ := h
  have hg := LexTo.good hl (Nat.zero_le _) (Lexed.zero 0)
  rcases h with ⟨h1, h2⟩ | ⟨h1, h2, h3⟩ | ⟨h1, h2, L, h3, h4, h5⟩
  · rw [h2] at he
    simp at he
    exact absurd (he.2.2.trans hc) h1
  · rw [h3] at he
    simp at he
    exact absurd (he.2.2.trans hc) h2
  · rw [h5] at he
    simp at he
    have hts : ∀ v ∈ ts, tokB v.k v.t.data.toList = true := by
      rcases hg with h | h
      · exact fun v hv => (h.2.2.each v hv).1
      · exact absurd h1 h.1
    have ht := parse_tree hts (pN ts) h2
    exact ⟨_, _, L, he.1.symm, h3, ht, small_of ht h4, he.2.1.symm⟩
theorem l03Parse_tup (t : ByteArray) (w : World) (hs : t.size ≤ 65536) : Calls Tryd.prog 86 #[.string t] w fun e w' => ∃ (a : Option Addr) (n cp : Nat) (r p c : Int), e = .returned (.tuple #[.agg #[.slice a n cp, .int .i64 r], .int .i64 p, .int .i64 c]) ∧ ParsePost t w e w' :=
  (l03Parse_any t w hs).mono fun e w' h => by
    have h0 := h
    obtain ⟨_, ts, p', c', hl, h⟩ := h
    rcases h with ⟨h1, h2⟩ | ⟨h1, h2, h3⟩ | ⟨h1, h2, L, h3, h4, h5⟩
    · exact ⟨_, _, _, _, _, _, h2, h0⟩
    · exact ⟨_, _, _, _, _, _, h3, h0⟩
    · exact ⟨_, _, _, _, _, _, h5, h0⟩
theorem parse_ret1 {w : World} {e : Ending} {w' : World} {x : Value} {p c : Int} (h : ParsePost ⟨#[114, 101, 116, 117, 114, 110, 32, 49, 59]⟩ w e w') (he : e = .returned (.tuple #[x, .int .i64 p, .int .i64 c])) : c = 0 := by
  obtain ⟨_, ts, p', c', hl, h⟩ := h
  have hd := LexTo.det hl lex1
  injection hd with e1 e2
  injection e2 with e2 e3
  subst e1
  subst e3
  rcases h with ⟨h1, h2⟩ | ⟨h1, h2, h3⟩ | ⟨h1, h2, L, h3, h4, h5⟩
  · exact absurd rfl h1
  · exact absurd parse1 h2
  · rw [h5] at he
    simp at he
    exact he.2.2.symm

end Go.Proofs.YtbipgmikgokfpaaDoor

/- PTree2 -/
namespace Go.Proofs.YtbipgmikgokfpaaDoor
open Go.RowKit Go.Joins
set_option linter.unusedVariables false

set_option maxHeartbeats 4000000 in
set_option maxRecDepth 100000 in
theorem tree_st {g : Nat} {a : Option Addr} {len cap : Nat} (N : Int) (w : World) (hst0 : St g a len cap N w) (hN : N ≤ 700000000) :
    Calls Tryd.prog 53 #[.pointer (some ⟨g, 0, none⟩)] w fun e w' => DrawnT g w e w' := by
  have hg := hst0.lt
  have HPR := hide (program_st N (w.alloc (.cells #[.slice none 0 0, .int .i64 0] 25)) (hst0.alloc _) hN)
  have HR0 : Hid (ResT (w.alloc (.cells #[.slice none 0 0, .int .i64 0] 25)) w.heap.size) := hide (heap_alloc_new w _)
  have HB0 := hide (nx_alloc w (.cells #[.slice none 0 0, .int .i64 0] 25))
  clear hst0
  go_enter Tryd.func53, Tryd.ntmps53
  go_wp2_with fail
  refine (unhide HPR).mono ?_
  rintro e w1 ⟨s, rfl, hs, _, hk1⟩
  have hR1 : ResT w1 w.heap.size := (unhide HR0).same (hk1.block _ (unhide HR0).lt (by omega))
  have HB1 := hide ((below_less (unhide HB0) (by omega)).trans (hk1.below (Nat.le_refl g) (by simp; omega)))
  have hw1 := hR1.lt
  have HL := hide (l03Parse_tup s w1 (by omega))
  clear HPR hk1 HB0 HR0
  go_wp2_with fail
  refine (unhide HL).mono ?_
  rintro e w2 ⟨pa, pn, pc, r, p, c, rfl, hpost⟩
  have hb2 := hpost.1
  have hR2 : ResT w2 w.heap.size := hR1.same (hb2.block _ hw1)
  have HB2 := hide ((unhide HB1).trans (below_less hb2 (by omega)))
  have hw2 := hR2.lt
  have HPO := hide hpost
  clear HL hpost HB1 hb2
  by_cases hc : c = 0
  · obtain ⟨ns, root, L, hx, hN2, hT, hS, hp0⟩ := DrawnT.of (w0 := w) (unhide HPO) rfl hc
    injection hx with hx
    simp at hx
    obtain ⟨⟨rfl, rfl, rfl⟩, rfl⟩ := hx
    subst hc
    obtain ⟨y0, y1⟩ := hR2.cells
    have f0 := hR2.free 0
    have f1 := hR2.free 1
    have HFIN : Hid (∀ w6, (∀ b, w1.heap.size ≤ b → b < w2.heap.size → w6.heap[b]? = w2.heap[b]?) → w2.heap.size ≤ w6.heap.size → Below g w w6 → DrawnT g w (.returned (.agg #[.slice L.p ns.length L.cap, .int .i64 r])) w6) := hide (fun w6 h1 h2 h3 => ⟨ns, r, L, rfl, fun w7 k1 k2 => hN2 w7 (fun b hb hb2 => (k1 b (by omega) (by omega)).trans (h1 b hb hb2)) (by omega), hT, hS, h3⟩)
    clear HPO hN2 hT hS hp0 hR1 hR2
    go_wp2
    refine bodyPost_ret (v := .agg #[.slice L.p ns.length L.cap, .int .i64 r]) (by simp [results, Tryd.results53, go_sem, *]) rfl (unhide HFIN _ (fun b hb hb2 => ?_) ?_ ?_)
    · rw [Below.heap_alloc _ _ _ (by simp; omega), Below.heap_setCell _ _ _ _ (by show b ≠ w.heap.size; omega), Below.heap_setCell _ _ _ _ (by show b ≠ w.heap.size; omega)]
    · simp
    · exact (((unhide HB2).setCell (p := ⟨w.heap.size, 0, none⟩) (by show g ≤ w.heap.size; omega) _).setCell (p := ⟨w.heap.size, 1, none⟩) (by show g ≤ w.heap.size; omega) _).alloc (by simp; omega) _
  · have e9 : (c != 0) = true := by simp [hc]
    have HL := hide (l03Parse_tup ⟨#[114, 101, 116, 117, 114, 110, 32, 49, 59]⟩ (w2.alloc (.cells #[.slice pa pn pc, .int .i64 r] 25)) (by decide))
    have HB3 := hide ((unhide HB2).alloc (by omega) (.cells #[.slice pa pn pc, .int .i64 r] 25))
    have hR3 : ResT (w2.alloc (.cells #[.slice pa pn pc, .int .i64 r] 25)) w.heap.size := hR2.same (Below.heap_alloc _ _ _ hw2)
    have hX3 : (w2.alloc (.cells #[.slice pa pn pc, .int .i64 r] 25)).heap[w2.heap.size]? = some (.cells #[.slice pa pn pc, .int .i64 r] 25 (0, 0)) := heap_alloc_new w2 _
    have hsz3 : (w2.alloc (.cells #[.slice pa pn pc, .int .i64 r] 25)).heap.size = w2.heap.size + 1 := by simp
    clear HPO hc hR1 hR2 HB2
    go_wp2_with fail
    refine (unhide HL).mono ?_
    rintro e w4 ⟨qa, qn, qc, r4, p4, c4, rfl, hpost⟩
    have hc4 := parse_ret1 hpost rfl
    obtain ⟨ns, root, L, hx, hN2, hT, hS, hp0⟩ := DrawnT.of (w0 := w) hpost rfl hc4
    injection hx with hx
    simp at hx
    obtain ⟨⟨rfl, rfl, rfl⟩, rfl⟩ := hx
    have hb4 := hpost.1
    have hR4 : ResT w4 w.heap.size := hR3.same (hb4.block _ (by omega))
    have hX4 : w4.heap[w2.heap.size]? = some (.cells #[.slice pa pn pc, .int .i64 r] 25 (0, 0)) := (hb4.block _ (by omega)).trans hX3
    have HB4 := hide ((unhide HB3).trans (below_less hb4 (by omega)))
    have hw4 : w2.heap.size < w4.heap.size := (Array.getElem?_eq_some_iff.1 hX4).1
    obtain ⟨y0, y1⟩ := hR4.cells
    have f0 := hR4.free 0
    have f1 := hR4.free 1
    have x0 : w4.cell? ⟨w2.heap.size, 0, none⟩ = some (.slice pa pn pc) := by rw [cell_of_block hX4]; rfl
    have x1 : w4.cell? ⟨w2.heap.size, 1, none⟩ = some (.int .i64 r) := by rw [cell_of_block hX4]; rfl
    have g0 := unfrozen_of_block hX4 0
    have g1 := unfrozen_of_block hX4 1
    have hne : ¬ w2.heap.size = w.heap.size := by omega
    have hne' : ¬ w.heap.size = w2.heap.size := by omega
    rw [hsz3] at hN2
    have HFIN : Hid (∀ w6, (∀ b, w2.heap.size + 1 ≤ b → b < w4.heap.size → w6.heap[b]? = w4.heap[b]?) → w4.heap.size ≤ w6.heap.size → Below g w w6 → DrawnT g w (.returned (.agg #[.slice L.p ns.length L.cap, .int .i64 r4])) w6) := hide (fun w6 h1 h2 h3 => ⟨ns, r4, L, rfl, fun w7 k1 k2 => hN2 w7 (fun b hb hb2 => (k1 b (by omega) (by omega)).trans (h1 b hb hb2)) (by omega), hT, hS, h3⟩)
    clear HL hpost hN2 hT hS hp0 hb4 hR3 hR4 hX3 hX4 HB3 hsz3 hc4
    go_wp2
    refine bodyPost_ret (v := .agg #[.slice L.p ns.length L.cap, .int .i64 r4]) (by simp [results, Tryd.results53, go_sem, *]) rfl (unhide HFIN _ (fun b hb hb2 => ?_) ?_ ?_)
    · rw [Below.heap_setCell _ _ _ _ (by show b ≠ w.heap.size; omega), Below.heap_setCell _ _ _ _ (by show b ≠ w.heap.size; omega), Below.heap_setCell _ _ _ _ (by show b ≠ w2.heap.size; omega), Below.heap_setCell _ _ _ _ (by show b ≠ w2.heap.size; omega)]
    · simp
    · exact ((((unhide HB4).setCell (p := ⟨w2.heap.size, 0, none⟩) (by show g ≤ w2.heap.size; omega) _).setCell (p := ⟨w2.heap.size, 1, none⟩) (by show g ≤ w2.heap.size; omega) _).setCell (p := ⟨w.heap.size, 0, none⟩) (by show g ≤ w.heap.size; omega) _).setCell (p := ⟨w.heap.size, 1, none⟩) (by show g ≤ w.heap.size; omega) _

set_option maxHeartbeats 1000000 in
theorem TreeDrawn_any (a : Option Addr) (len cap : Nat) (w : World) (hlen : len ≤ 1048577) (hrow : ByteRow w a len) :
    Calls Tryd.prog 16 #[.slice a len cap] w fun e w' => DrawnF w e w' := by
  have HR := hide hrow
  clear hrow
  go_enter Tryd.func16, Tryd.ntmps16
  go_wp2_with fail
  refine (source_any a len cap _ hlen).mono ?_
  rintro e w1 ⟨rfl, hb1, hlt, hsrc⟩
  simp at hb1 hlt hsrc
  have B1 := hide hb1
  have S1 := hide (show St (w.heap.size + 1) a len cap 0 w1 from ⟨⟨0, _, hsrc, by omega⟩, ((unhide HR).later (nx_alloc w (.cells #[.slice none 0 0, .int .i64 0] 25))).later (by simpa using hb1), fun h0 x hx e => by
    have := row_block (unhide HR) h0 x hx
    obtain ⟨b, off, c, h1, h2, _⟩ := unhide HR 0 h0
    rw [h1] at hx
    have h3 := World.block_lt_of_cell? _ _ h2
    injection hx with hx
    subst hx
    simp at e h3
    omega, hlen⟩)
  have hR1 : ResT w1 w.heap.size := ResT.same (heap_alloc_new w _) (hb1.block _ (by omega))
  have hw : (w.alloc (.cells #[.slice none 0 0, .int .i64 0] 25)).heap.size = w.heap.size + 1 := by simp
  have HT := hide (tree_st 0 w1 (unhide S1) (by omega))
  rw [hw]
  clear hsrc hb1 S1 hw
  go_wp2_with fail
  refine (unhide HT).mono ?_
  rintro e w2 ⟨ns, root, L, rfl, hN2, hT, hS, hb2⟩
  have hR2 : ResT w2 w.heap.size := hR1.same (hb2.block _ (by omega))
  have hw2 := hR2.lt
  obtain ⟨y0, y1⟩ := hR2.cells
  have f0 := hR2.free 0
  have f1 := hR2.free 1
  have HB2 := hide (((nx_alloc w (.cells #[.slice none 0 0, .int .i64 0] 25)).trans (below_less (unhide B1) (by omega))).trans (below_less hb2 (show w.heap.size ≤ w.heap.size + 1 by omega)))
  have HFIN : Hid (∀ w6, (∀ b, w.heap.size + 1 < b → b < w2.heap.size → w6.heap[b]? = w2.heap[b]?) → w2.heap.size ≤ w6.heap.size → Below w.heap.size w w6 → DrawnF w (.returned (.agg #[.slice L.p ns.length L.cap, .int .i64 root])) w6) := hide (fun w6 h1 h2 h3 => ⟨ns, root, L, rfl, hN2 w6 h1 h2, hT, hS, h3⟩)
  clear HT hN2 hT hS hb2 hR1 hR2 B1
  go_wp2
  refine bodyPost_ret (v := .agg #[.slice L.p ns.length L.cap, .int .i64 root]) (by simp [results, Tryd.results16, go_sem, *]) rfl (unhide HFIN _ (fun b hb hb2 => ?_) ?_ ?_)
  · rw [Below.heap_setCell _ _ _ _ (by show b ≠ w.heap.size; omega), Below.heap_setCell _ _ _ _ (by show b ≠ w.heap.size; omega)]
  · simp
  · exact nx_set (nx_set (unhide HB2) (Nat.le_refl _)) (Nat.le_refl _)

end Go.Proofs.YtbipgmikgokfpaaDoor
