/- What the specification prints of a node and of a tree. -/
import Derived.Test.YtoehpjignngjlaaDoorTextL
import Derived.Test.YtoehpjignngjlaaDoorScopeWalk
import Derived.Test.YtoehpjignngjlaaDoorDepthWalk
import Derived.Deep.QuietTactic
import Derived.BigQuiet
namespace Go.Proofs.YtoehpjignngjlaaDoor
open Go.RowKit Go.Joins
set_option linter.unusedVariables false

theorem nx_drewM {B : Nat} {a b : World} {n : Nat} (h : Below B a b) : Below B a (b.drewN n) := ⟨h.os, h.tape, h.output, h.size, h.block⟩
theorem ba_nil_append (a : ByteArray) : (⟨#[]⟩ : ByteArray) ++ a = a := by
  apply ByteArray.ext
  simp
theorem sumB_take : ∀ (l : List ByteArray) (k : Nat), sumB (l.take k) ≤ sumB l
  | [], k => by simp
  | a :: l, 0 => by simp [sumB]
  | a :: l, k + 1 => by
    have := sumB_take l k
    show a.size + 2 + sumB (l.take k) ≤ a.size + 2 + sumB l
    omega
theorem sumB_at {l : List ByteArray} {k : Nat} (h : k < l.length) : l[k].size ≤ sumB l := by
  have h1 := sumB_kid l k
  have h2 : kid l k = l[k] := by simp [kid, h]
  rw [h2] at h1
  omega
theorem kid_at {l : List ByteArray} {k : Nat} (h : k < l.length) : kid l k = l[k] := by simp [kid, h]
theorem join_first {sep : ByteArray} {l : List ByteArray} (h : 0 < l.length) : joinB sep (l.take 1) = l[0] := by
  cases l with
  | nil => simp at h
  | cons a l => simp [joinB]
theorem join_next {sep : ByteArray} {l : List ByteArray} {k : Nat} (h : k < l.length) (h0 : 0 < k) : joinB sep (l.take (k + 1)) = joinB sep (l.take k) ++ sep ++ l[k] := by
  rw [List.take_succ_eq_append_getElem h]
  exact joinB_snoc sep _ _ (fun e => by
    have := congrArg List.length e
    rw [List.length_take, List.length_nil] at this
    omega)

set_option maxHeartbeats 4000000 in
set_option maxRecDepth 100000 in
theorem l00JoinB_any (p : Option Addr) (cap : Nat) (zs : List ByteArray) (sep : ByteArray) (w : World) (hz : StrsAt w p zs) (hl : zs.length ≤ 1048576) (hs : sumB zs ≤ 1000000000000) (hsep : sep.size ≤ 2) :
    Calls Tryd.prog 15 #[.slice p zs.length cap, .string sep] w fun e w' => e = .returned (.string (joinB sep zs)) ∧ w' = w := by
  have HZ := hide hz
  clear hz
  go_enter Tryd.func15, Tryd.ntmps15
  go_wp2
  go_loopw [5, 6] (fun m i wx => ∃ (k : Nat) (o : ByteArray), k ≤ zs.length ∧ i = .int .i64 k ∧ m = .string o ∧ o.size ≤ 1000000000000 ∧ Hid (o = joinB sep (zs.take k)) ∧ wx = w) (fun _ i _ => zs.length - (intOf i).toNat)
  case atStart => exact ⟨0, ⟨#[]⟩, by omega, rfl, rfl, by decide, hide rfl, rfl⟩
  case round =>
    obtain ⟨k, o, hk, rfl, rfl, hos, hin, hw⟩ := hrel
    subst hw
    by_cases hlt : k < zs.length
    · obtain ⟨b, off, rfl, q0⟩ := unhide HZ k hlt
      have htl : zs[k].size ≤ 1000000000000 := Nat.le_trans (sumB_at hlt) hs
      have HSZ : Hid ((joinB sep (zs.take (k + 1))).size ≤ 1000000000000) := hide (Nat.le_trans (joinB_size sep hsep _) (Nat.le_trans (sumB_take zs (k + 1)) hs))
      by_cases h0 : k = 0
      · have hd : Hid (o ++ zs[k] = joinB sep (zs.take (k + 1))) := hide (by
          rw [unhide hin]
          subst h0
          rw [join_first hlt]
          exact ba_nil_append _)
        have hds : Hid ((o ++ zs[k]).size ≤ 1000000000000) := hide (by rw [unhide hd]; exact unhide HSZ)
        have e0 : ¬ (0 : Int) < (k : Int) := by omega
        generalize zs[k] = tk at q0 htl hd hds
        clear h0
        go_wp2
        go_roundw
        case rel => exact ⟨k + 1, _, by omega, by go_num, rfl, unhide hds, hide (unhide hd), trivial⟩
        case measure => simp [intOf]; omega
      · have hd : Hid (o ++ sep ++ zs[k] = joinB sep (zs.take (k + 1))) := hide (by rw [unhide hin, join_next hlt (by omega)])
        have hds : Hid ((o ++ sep ++ zs[k]).size ≤ 1000000000000) := hide (by rw [unhide hd]; exact unhide HSZ)
        have e0 : (0 : Int) < (k : Int) := by omega
        have h32 : (o ++ sep : ByteArray).size = o.size + sep.size := ByteArray.size_append
        generalize zs[k] = tk at q0 htl hd hds
        clear h0
        go_wp2
        go_roundw
        case rel => exact ⟨k + 1, _, by omega, by go_num, rfl, unhide hds, hide (unhide hd), trivial⟩
        case measure => simp [intOf]; omega
    · have hd : Hid (o = joinB sep zs) := hide (by rw [unhide hin, List.take_of_length_le (by omega)])
      go_wp2
      go_ret
      exact ⟨by rw [unhide hd]; rfl, rfl⟩

set_option maxHeartbeats 1000000 in
theorem valueText_yes (t : ByteArray) (w : World) :
    Calls Tryd.prog 28 #[.agg #[.int .i64 2, .int .i64 1, .string t]] w fun e w' => e = .returned (.string ⟨#[116, 114, 117, 101]⟩) ∧ Below w.heap.size w w' := by
  go_enter Tryd.func28, Tryd.ntmps28
  go_wp2
  go_ret
  exact ⟨rfl, nx_alloc _ _⟩
set_option maxHeartbeats 1000000 in
theorem valueText_no (t : ByteArray) (w : World) :
    Calls Tryd.prog 28 #[.agg #[.int .i64 2, .int .i64 0, .string t]] w fun e w' => e = .returned (.string ⟨#[102, 97, 108, 115, 101]⟩) ∧ Below w.heap.size w w' := by
  go_enter Tryd.func28, Tryd.ntmps28
  go_wp2
  go_ret
  exact ⟨rfl, nx_alloc _ _⟩
/-- what is asked of a node that is printed -/
structure PrintT (x : TN) : Prop where
  fits : FitsT x
  right : nodeB x = true
theorem PrintT.text {x : TN} (h : PrintT x) (hk : x.k = 2) : x.t.size ≤ 65536 := by
  have h1 := h.right
  unfold nodeB at h1
  rw [Bool.and_eq_true] at h1
  have h2 := h1.2
  unfold partsB at h2
  rw [if_neg (by omega), if_neg (by omega)] at h2
  split at h2
  · cases h2
  · first | rw [if_pos hk] at h2 | skip
    unfold plainB at h2
    rw [Bool.and_eq_true] at h2
    have h3 := of_decide_eq_true h2.1
    have h4 : x.t.data.toList.length = x.t.size := Array.length_toList
    omega
theorem PrintT.int {x : TN} (h : PrintT x) (hk : x.k = 1) : 0 ≤ x.n ∧ x.n ≤ 2147483647 := h.fits.2.2.2 hk
theorem PrintT.bool {x : TN} (h : PrintT x) (hk : x.k = 3) : x.n = 0 ∨ x.n = 1 := by
  have h1 := h.right
  unfold nodeB at h1
  rw [Bool.and_eq_true] at h1
  have h2 := h1.2
  unfold partsB at h2
  rw [if_neg (by omega), if_pos hk] at h2
  simp only [Bool.and_eq_true, decide_eq_true_eq] at h2
  omega
theorem PrintT.count {x : TN} (h : PrintT x) : countB x.k x.kids.length = true := by
  have h1 := h.right
  unfold nodeB at h1
  rw [Bool.and_eq_true] at h1
  exact h1.1
theorem PrintT.kinds {x : TN} (h : PrintT x) : 1 ≤ x.k ∧ x.k ≤ 20 := by
  have h1 := h.right
  unfold nodeB at h1
  rw [Bool.and_eq_true] at h1
  exact parts_kind h1.2


set_option maxHeartbeats 16000000 in
set_option maxRecDepth 100000 in
theorem l03Text_any (ns : List TN) (root : Int) (L : Lay) (hsm : Hid (Small ns)) (hF : Hid (∀ x ∈ ns, PrintT x)) : ∀ (D d a : Nat) (l : List Nat) (w : World), d ≤ D → Vis ns [(a : Int)] l d → l.length ≤ 200 → NodesAt w L ns →
    Calls Tryd.prog 14 #[.agg #[.slice L.p ns.length L.cap, .int .i64 root], .int .i64 (a : Int)] w fun e w' => ∃ t, e = .returned (.string t) ∧ TxtR ns [(a : Int)] [t] ∧ Below w.heap.size w w' := by
  intro D
  induction D with
  | zero =>
    intro d a l w hd hv
    obtain ⟨_, _, _, _, _, _, _, _, _, _, rfl⟩ := hv.inv
    omega
  | succ D ih =>
    intro d a l w hd hv hlen hN
    obtain ⟨nd, l1, l2, d1, d2, h0, hx, v1, v2, rfl, rfl⟩ := hv.inv
    cases v2
    rw [Int.toNat_natCast] at hx
    rw [List.append_nil] at hlen
    have hd' : d1 ≤ D := by omega
    have hl1 : l1.length + 1 ≤ 200 := by rw [List.length_cons] at hlen; omega
    obtain ⟨ha, hxe⟩ := List.getElem?_eq_some_iff.1 hx
    obtain ⟨bn, off, hp, q0, q1, q2, q3, q4, q5, q6⟩ := hN a ha
    rw [hxe] at q0 q1 q2 q3 q4 q5 q6
    have IH := hide ih
    have HV := hide v1
    have hnl := (unhide hsm).1
    have hkl : nd.kids.length ≤ 1048576 := ((unhide hsm).2 nd (List.mem_of_getElem? hx)).2.2.1
    have HP := hide (unhide hF nd (List.mem_of_getElem? hx))
    have HSIZE : Hid (∀ ts, TxtR ns nd.kids ts → sumB ts ≤ 5060000400) := hide (fun ts h => by
      have := TxtR.size (fun x hx => (unhide hF x hx).fits) v1 h
      have : 25300002 * l1.length ≤ 25300002 * 200 := Nat.mul_le_mul_left _ (by omega)
      omega)
    have htl : nd.t.size ≤ 1048576 := (unhide HP).fits.1
    have HN := hide hN
    have HQ5 := hide q5
    have HQ6 := hide q6
    have HR : Hid (∀ ts, TxtR ns nd.kids ts → TxtR ns [(a : Int)] [nodeT nd ts]) := hide (fun ts h => .cons _ nd [] ts [] (by omega) (by rw [Int.toNat_natCast]; exact hx) h .nil)
    rw [hp]
    rw [hp] at IH
    have hbl : bn < w.heap.size := World.block_lt_of_cell? _ _ q0
    clear ih v1 hv hN hx hlen hd q5 q6 hxe
    generalize L.pn a = pn at q3 HQ5
    generalize L.cn a = cn at q3
    generalize L.pk a = pk at q4 HQ6
    generalize L.ck a = ck at q4
    have T0 : Hid (((w.alloc (.cells #[.slice (some ⟨bn, off, none⟩) ns.length L.cap, .int .i64 root] 30)).alloc (.cells #[.int .i64 nd.k, .int .i64 nd.n, .string nd.t, .slice pn nd.names.length cn, .slice pk nd.kids.length ck] 42)).cell? ⟨w.heap.size, 0, none⟩ = some (.slice (some ⟨bn, off, none⟩) ns.length L.cap)) := hide (cell_later (nx_alloc _ _) (by simp))
    have T1 : Hid (((w.alloc (.cells #[.slice (some ⟨bn, off, none⟩) ns.length L.cap, .int .i64 root] 30)).alloc (.cells #[.int .i64 nd.k, .int .i64 nd.n, .string nd.t, .slice pn nd.names.length cn, .slice pk nd.kids.length ck] 42)).cell? ⟨w.heap.size, 1, none⟩ = some (.int .i64 root)) := hide (cell_later (nx_alloc _ _) (by simp))
    have N0 : Hid (((w.alloc (.cells #[.slice (some ⟨bn, off, none⟩) ns.length L.cap, .int .i64 root] 30)).alloc (.cells #[.int .i64 nd.k, .int .i64 nd.n, .string nd.t, .slice pn nd.names.length cn, .slice pk nd.kids.length ck] 42)).cell? ⟨w.heap.size + 1, 0, none⟩ = some (.int .i64 nd.k)) := hide (by simp)
    have N1 : Hid (((w.alloc (.cells #[.slice (some ⟨bn, off, none⟩) ns.length L.cap, .int .i64 root] 30)).alloc (.cells #[.int .i64 nd.k, .int .i64 nd.n, .string nd.t, .slice pn nd.names.length cn, .slice pk nd.kids.length ck] 42)).cell? ⟨w.heap.size + 1, 1, none⟩ = some (.int .i64 nd.n)) := hide (by simp)
    have N2 : Hid (((w.alloc (.cells #[.slice (some ⟨bn, off, none⟩) ns.length L.cap, .int .i64 root] 30)).alloc (.cells #[.int .i64 nd.k, .int .i64 nd.n, .string nd.t, .slice pn nd.names.length cn, .slice pk nd.kids.length ck] 42)).cell? ⟨w.heap.size + 1, 2, none⟩ = some (.string nd.t)) := hide (by simp)
    have N3 : Hid (((w.alloc (.cells #[.slice (some ⟨bn, off, none⟩) ns.length L.cap, .int .i64 root] 30)).alloc (.cells #[.int .i64 nd.k, .int .i64 nd.n, .string nd.t, .slice pn nd.names.length cn, .slice pk nd.kids.length ck] 42)).cell? ⟨w.heap.size + 1, 3, none⟩ = some (.slice pn nd.names.length cn)) := hide (by simp)
    have N4 : Hid (((w.alloc (.cells #[.slice (some ⟨bn, off, none⟩) ns.length L.cap, .int .i64 root] 30)).alloc (.cells #[.int .i64 nd.k, .int .i64 nd.n, .string nd.t, .slice pn nd.names.length cn, .slice pk nd.kids.length ck] 42)).cell? ⟨w.heap.size + 1, 4, none⟩ = some (.slice pk nd.kids.length ck)) := hide (by simp)
    have HB0 : Hid (Below w.heap.size w ((w.alloc (.cells #[.slice (some ⟨bn, off, none⟩) ns.length L.cap, .int .i64 root] 30)).alloc (.cells #[.int .i64 nd.k, .int .i64 nd.n, .string nd.t, .slice pn nd.names.length cn, .slice pk nd.kids.length ck] 42))) := hide (nx_al (nx_alloc _ _))
    have hs0 : Hid (((w.alloc (.cells #[.slice (some ⟨bn, off, none⟩) ns.length L.cap, .int .i64 root] 30)).alloc (.cells #[.int .i64 nd.k, .int .i64 nd.n, .string nd.t, .slice pn nd.names.length cn, .slice pk nd.kids.length ck] 42)).heap.size = w.heap.size + 1 + 1) := hide (by simp)
    go_enter Tryd.func14, Tryd.ntmps14
    go_wp2
    generalize ((w.alloc (.cells #[.slice (some ⟨bn, off, none⟩) ns.length L.cap, .int .i64 root] 30)).alloc (.cells #[.int .i64 nd.k, .int .i64 nd.n, .string nd.t, .slice pn nd.names.length cn, .slice pk nd.kids.length ck] 42)) = w0 at T0 T1 N0 N1 N2 N3 N4 HB0 hs0 ⊢
    have HL0 : Hid (StrBuf (w0.alloc (.cells #[] 9)) w0.heap.size (.slice (some ⟨w0.heap.size, 0, none⟩) 0 0) []) := hide (by simpa using StrBuf.lit w0 w0.heap.size [] (Nat.le_refl _) (by decide))
    have hs0' := unhide hs0
    have hw02 : w.heap.size + 1 + 1 ≤ w0.heap.size := by omega
    first | rw [← hs0'] | skip
    clear hs0'
    go_loopw [6, 7] (fun s i wx => ∃ (m : Nat) (ts : List ByteArray), m ≤ nd.kids.length ∧ i = .int .i64 m ∧ ts.length = m ∧ Hid (TxtR ns (nd.kids.take m) ts) ∧ Hid (StrBuf wx w0.heap.size s ts) ∧ Hid (Below w0.heap.size w0 wx)) (fun _ i _ => nd.kids.length - (intOf i).toNat)
    case atStart => exact ⟨0, [], by omega, rfl, rfl, hide (by simpa using TxtR.nil), hide (unhide HL0), hide (nx_alloc _ _)⟩
    case round =>
      clear HL0
      obtain ⟨m, ts, hm, rfl, htm, htx, hSx, hBx⟩ := hrel
      obtain ⟨ps, cs, rfl⟩ := (unhide hSx).slice
      have hsz : w0.heap.size ≤ wr.heap.size := (unhide hBx).size
      have hsz2 : w.heap.size + 1 + 1 ≤ wr.heap.size := by omega
      have t0 := cell_later (unhide hBx) (unhide T0)
      have t1 := cell_later (unhide hBx) (unhide T1)
      have n0 := cell_later (unhide hBx) (unhide N0)
      have n1 := cell_later (unhide hBx) (unhide N1)
      have n2 := cell_later (unhide hBx) (unhide N2)
      have n3 := cell_later (unhide hBx) (unhide N3)
      have n4 := cell_later (unhide hBx) (unhide N4)
      have hBw : Hid (Below w.heap.size w wr) := hide (nx_trans (unhide HB0) (unhide hBx))
      by_cases hlt : m < nd.kids.length
      · obtain ⟨bk, ok, hpk, y1⟩ := unhide HQ6 m hlt
        subst hpk
        have hbk : bk < w.heap.size := World.block_lt_of_cell? _ _ y1
        have y0 := cell_later (unhide hBw) y1
        clear y1
        have hj : Hid (nd.kids[m]? = some nd.kids[m]) := hide (List.getElem?_eq_getElem hlt)
        obtain ⟨lj, dj, vj, hlj, hdj, hj0, hll⟩ := (unhide HV).at (unhide hj)
        have hjx : nd.kids[m] = ((nd.kids[m].toNat : Nat) : Int) := (Int.toNat_of_nonneg hj0).symm
        have HTK : Hid (∀ t, TxtR ns [nd.kids[m]] [t] → TxtR ns (nd.kids.take (m + 1)) (ts ++ [t])) := hide (fun t h => by rw [List.take_succ_eq_append_getElem hlt]; exact (unhide htx).append h)
        have HC := hide (fun wx (hb : Below wr.heap.size wr wx) => unhide IH dj nd.kids[m].toNat lj wx (by omega) (by rw [← hjx]; exact vj) (by omega) ((unhide HN).later (nx_trans (unhide hBw) hb)))
        generalize hkj : nd.kids[m].toNat = c at HC hjx
        rw [hjx] at y0 HTK
        have hm0 : (0 : Int) ≤ (m : Int) := Int.natCast_nonneg _
        have hm1 : (m : Int) < (nd.kids.length : Int) := by omega
        have C0 : Hid (wr.cell? ⟨w.heap.size, 0, none⟩ = some (.slice (some ⟨bn, off, none⟩) ns.length L.cap)) := hide t0
        have C1 : Hid (wr.cell? ⟨w.heap.size, 1, none⟩ = some (.int .i64 root)) := hide t1
        have C4 : Hid (wr.cell? ⟨w.heap.size + 1, 4, none⟩ = some (.slice (some ⟨bk, ok, none⟩) nd.kids.length ck)) := hide n4
        have CY : Hid (wr.cell? ⟨bk, ok + m, none⟩ = some (.int .i64 (c : Int))) := hide y0
        have hts : ts.length ≤ 1048576 := by omega
        have HTM := hide htm
        clear vj hlj hjx hj htx hkj hj0 hdj hll n0 n1 n2 n3 HQ5 HQ6 IH HV HR HSIZE htm
        go_wp2
        go_region_held3 (fun z => z.cell? ⟨w.heap.size, 0, none⟩ = some (.slice (some ⟨bn, off, none⟩) ns.length L.cap) ∧ z.cell? ⟨w.heap.size, 1, none⟩ = some (.int .i64 root) ∧ z.cell? ⟨w.heap.size + 1, 4, none⟩ = some (.slice (some ⟨bk, ok, none⟩) nd.kids.length ck) ∧ z.cell? ⟨bk, ok + m, none⟩ = some (.int .i64 (c : Int))) (first | go_keep | (go_split_ands; exact ⟨cellB hb3 (by omega) (by assumption), cellB hb3 (by omega) (by assumption), cellB hb3 (by omega) (by assumption), cellB hb3 (by omega) (by assumption)⟩)) ((first | (go_at_call 14; refine (unhide HC wr.drew (nx_drew (Below.refl wr.heap.size wr))).mono ?_; rintro e y ⟨tj, rfl, htj, hby⟩; have HBY := hide (nx_trans (nx_drew (Below.refl wr.heap.size wr)) hby); have z0 := cell_later (unhide HBY) (unhide C0); have z1 := cell_later (unhide HBY) (unhide C1); have z2 := cell_later (unhide HBY) (unhide C4); have z3 := cell_later (unhide HBY) (unhide CY); have HTJ := hide htj; have hys := (unhide HBY).size; have hn1 : ¬ w.heap.size = y.heap.size := (by omega); have hn2 : ¬ w.heap.size + 1 = y.heap.size := (by omega); have hn3 : ¬ bk = y.heap.size := (by omega); clear hby htj) | (refine step_appStr _ (by rfl) _ _ (by rfl) w0.heap.size y.heap.size _ ts tj (by rfl) (((unhide hSx).later (unhide HBY)).alloc _) (by rfl) (by simp) (by simp; omega) (by omega) ?_; intro v3 w3 hS3 hb3)))
        have HT3 := hide (unhide HTK tj (unhide HTJ))
        have HS3 := hide hS3
        have HB3 : Hid (Below w0.heap.size w0 w3) := hide (((nx_trans (unhide hBx) (unhide HBY)).alloc (by omega) _).trans hb3)
        clear hS3 hb3
        go_wp2
        go_roundw
        case rel => exact ⟨m + 1, ts ++ [tj], by omega, by go_num, by rw [List.length_append, unhide HTM]; rfl, hide (unhide HT3), hide (unhide HS3), hide (unhide HB3)⟩
        case measure => simp [intOf]; omega
      · have hmm : m = nd.kids.length := by omega
        have HTX : Hid (TxtR ns nd.kids ts) := hide (by
          have := unhide htx
          rw [hmm, List.take_length] at this
          exact this)
        have hsu := unhide HSIZE ts (unhide HTX)
        have HRES := hide (unhide HR ts (unhide HTX))
        have hcount := (unhide HP).count
        rw [← hmm, ← htm] at hcount
        obtain ⟨hk1, hk2⟩ := (unhide HP).kinds
        obtain ⟨a8, c8, e8, hst⟩ := (unhide hSx).strs
        injection e8 with e8 _ ec8
        subst e8 ec8
        have HST := hide hst
        have hks := sumB_kids ts
        have hlen3 : ts.length ≤ 1048576 := by omega
        have HJ := hide (fun (sep : ByteArray) (hs : sep.size ≤ 2) (wx : World) (hb : Below wr.heap.size wr wx) => l00JoinB_any ps cs ts sep wx ((unhide HST).later hb) hlen3 (by omega) hs)
        have HJN := hide (fun (sep : ByteArray) (hs : sep.size ≤ 2) (wx : World) (hb : Below wr.heap.size wr wx) => l00JoinB_any pn cn nd.names sep wx ((unhide HQ5).later (nx_trans (unhide hBw) hb)) (unhide HP).fits.2.1 (by have := sumB_names nd.names (unhide HP).fits.2.2.1; have := (unhide HP).fits.2.1; omega) hs)
        have hjs : Hid (∀ sep : ByteArray, sep.size ≤ 2 → (joinB sep ts).size ≤ 5060000400) := hide (fun sep h => Nat.le_trans (joinB_size sep h ts) hsu)
        have hjn : Hid (∀ sep : ByteArray, sep.size ≤ 2 → (joinB sep nd.names).size ≤ 5060000400) := hide (fun sep h => Nat.le_trans (joinB_size sep h _) (by have := sumB_names nd.names (unhide HP).fits.2.2.1; have := (unhide HP).fits.2.1; omega))
        clear htm hmm hst htx hSx HSIZE HR IH HV HQ5 HQ6 HN T0 T1 N0 N1 N2 N3 N4 t0 t1 hm
        have hcases : nd.k = 1 ∨ nd.k = 2 ∨ nd.k = 3 ∨ nd.k = 4 ∨ nd.k = 5 ∨ nd.k = 6 ∨ nd.k = 7 ∨ nd.k = 8 ∨ nd.k = 9 ∨ nd.k = 10 ∨ nd.k = 11 ∨ nd.k = 12 ∨ nd.k = 13 ∨ nd.k = 14 ∨ nd.k = 15 ∨ nd.k = 16 ∨ nd.k = 17 ∨ nd.k = 18 ∨ nd.k = 19 ∨ nd.k = 20 := by omega
        have HCASE : Hid (nd.k = nd.k) := hide rfl
        rcases hcases with hk | hk | hk | hk | hk | hk | hk | hk | hk | hk | hk | hk | hk | hk | hk | hk | hk | hk | hk | hk
        · have HE : Hid (nodeT nd ts = ⟨(Lib.itoa nd.n).toArray⟩) := hide (by unfold nodeT; rw [hk]; rfl)
          rw [unhide HE] at HRES
          have HCL := hide (l00Digits_any nd.n wr (by have := (unhide HP).int hk; omega) ((unhide HP).int hk).2)
          rw [hk] at n0
          clear HE hcount hk1 hk2 hk HST hks HCASE HTX
          go_wp2_with fail
          refine (unhide HCL).mono ?_
          rintro e y ⟨rfl, hby⟩
          have HBY := hide hby
          clear hby
          go_wp2
          go_ret
          exact ⟨_, rfl, unhide HRES, (by first | exact unhide hBw | exact nx_drew (unhide hBw) | exact nx_drewM (unhide hBw) | exact nx_trans (unhide hBw) (unhide HBY) | exact nx_trans (nx_drew (unhide hBw)) (unhide HBY) | exact nx_trans (unhide hBw) (nx_trans (unhide HBY) (unhide HBZ)))⟩
        · have HE : Hid (nodeT nd ts = qB nd.t) := hide (by unfold nodeT; rw [hk]; rfl)
          rw [unhide HE] at HRES
          have HCL := hide (l02Quote_any nd.t wr ((unhide HP).text hk))
          rw [hk] at n0
          clear HE hcount hk1 hk2 hk HST hks HCASE HTX
          go_wp2_with fail
          refine (unhide HCL).mono ?_
          rintro e y ⟨rfl, hby⟩
          have HBY := hide hby
          clear hby
          go_wp2
          go_ret
          exact ⟨_, rfl, unhide HRES, (by first | exact unhide hBw | exact nx_drew (unhide hBw) | exact nx_drewM (unhide hBw) | exact nx_trans (unhide hBw) (unhide HBY) | exact nx_trans (nx_drew (unhide hBw)) (unhide HBY) | exact nx_trans (unhide hBw) (nx_trans (unhide HBY) (unhide HBZ)))⟩
        · rcases (unhide HP).bool hk with hn | hn
          · have HE : Hid (nodeT nd ts = ⟨#[102, 97, 108, 115, 101]⟩) := hide (by unfold nodeT; rw [hk, hn]; rfl)
            rw [unhide HE] at HRES
            rw [hk] at n0
            rw [hn] at n1
            clear HE hcount hk1 hk2 hk HST hks HCASE HTX hn HP
            go_wp2_with fail
            refine (l01Bool_any _ wr).mono ?_
            rintro e y ⟨rfl, hby⟩
            have HBY := hide hby
            clear hby
            go_wp2_with fail
            refine (valueText_no _ y).mono ?_
            rintro e y2 ⟨rfl, hby⟩
            have HBZ := hide hby
            clear hby
            go_wp2
            go_ret
            exact ⟨_, rfl, unhide HRES, (by first | exact unhide hBw | exact nx_drew (unhide hBw) | exact nx_drewM (unhide hBw) | exact nx_trans (unhide hBw) (unhide HBY) | exact nx_trans (nx_drew (unhide hBw)) (unhide HBY) | exact nx_trans (unhide hBw) (nx_trans (unhide HBY) (unhide HBZ)))⟩
          · have HE : Hid (nodeT nd ts = ⟨#[116, 114, 117, 101]⟩) := hide (by unfold nodeT; rw [hk, hn]; rfl)
            rw [unhide HE] at HRES
            rw [hk] at n0
            rw [hn] at n1
            clear HE hcount hk1 hk2 hk HST hks HCASE HTX hn HP
            go_wp2_with fail
            refine (l01Bool_any _ wr).mono ?_
            rintro e y ⟨rfl, hby⟩
            have HBY := hide hby
            clear hby
            go_wp2_with fail
            refine (valueText_yes _ y).mono ?_
            rintro e y2 ⟨rfl, hby⟩
            have HBZ := hide hby
            clear hby
            go_wp2
            go_ret
            exact ⟨_, rfl, unhide HRES, (by first | exact unhide hBw | exact nx_drew (unhide hBw) | exact nx_drewM (unhide hBw) | exact nx_trans (unhide hBw) (unhide HBY) | exact nx_trans (nx_drew (unhide hBw)) (unhide HBY) | exact nx_trans (unhide hBw) (nx_trans (unhide HBY) (unhide HBZ)))⟩
        · have HE : Hid (nodeT nd ts = ⟨#[110, 117, 108, 108]⟩) := hide (by unfold nodeT; rw [hk]; rfl)
          rw [unhide HE] at HRES
          rw [hk] at n0
          clear HE hcount hk1 hk2 hk HST hks HCASE HTX
          go_wp2
          go_ret
          exact ⟨_, rfl, unhide HRES, (by first | exact unhide hBw | exact nx_drew (unhide hBw) | exact nx_drewM (unhide hBw) | exact nx_trans (unhide hBw) (unhide HBY) | exact nx_trans (nx_drew (unhide hBw)) (unhide HBY) | exact nx_trans (unhide hBw) (nx_trans (unhide HBY) (unhide HBZ)))⟩
        · have HE : Hid (nodeT nd ts = nd.t) := hide (by unfold nodeT; rw [hk]; rfl)
          rw [unhide HE] at HRES
          rw [hk] at n0
          clear HE hcount hk1 hk2 hk HST hks HCASE HTX
          go_wp2
          go_ret
          exact ⟨_, rfl, unhide HRES, (by first | exact unhide hBw | exact nx_drew (unhide hBw) | exact nx_drewM (unhide hBw) | exact nx_trans (unhide hBw) (unhide HBY) | exact nx_trans (nx_drew (unhide hBw)) (unhide HBY) | exact nx_trans (unhide hBw) (nx_trans (unhide HBY) (unhide HBZ)))⟩
        · have HE : Hid (nodeT nd ts = ⟨#[40]⟩ ++ nd.t ++ kid ts 0 ++ ⟨#[41]⟩) := hide (by unfold nodeT; rw [hk]; rfl)
          rw [unhide HE] at HRES
          have hnk : ts.length = 1 := by simp [hk, countB] at hcount; omega
          have hi0 : 0 < ts.length := by omega
          obtain ⟨b8, o8, e9, u0⟩ := unhide HST 0 hi0
          subst e9
          rw [← kid_at hi0] at u0
          rw [Nat.add_zero] at u0
          have hz0 : (kid ts 0).size ≤ 5060000400 := by omega
          generalize kid ts 0 = k0 at HRES u0 hz0 hks
          rw [hk] at n0
          generalize nd.t = nt at HRES n2 htl
          clear HE hcount hk1 hk2 hk HP HST hks HCASE HTX
          have hp2 : (⟨#[40]⟩ ++ nt).size ≤ 1000000000000 := by have : (⟨#[40]⟩ : ByteArray).size = 1 := rfl; simp only [ByteArray.size_append]; omega
          have hp3 : (⟨#[40]⟩ ++ nt ++ k0).size ≤ 1000000000000 := by have : (⟨#[40]⟩ : ByteArray).size = 1 := rfl; simp only [ByteArray.size_append]; omega
          have hp4 : (⟨#[40]⟩ ++ nt ++ k0 ++ ⟨#[41]⟩).size ≤ 1000000000000 := by have : (⟨#[40]⟩ : ByteArray).size = 1 := rfl; have : (⟨#[41]⟩ : ByteArray).size = 1 := rfl; simp only [ByteArray.size_append]; omega
          go_wp2
          go_region
          all_goals (go_wp2; go_ret; exact ⟨_, rfl, unhide HRES, (by first | exact unhide hBw | exact nx_drew (unhide hBw) | exact nx_drewM (unhide hBw) | exact nx_trans (unhide hBw) (unhide HBY) | exact nx_trans (nx_drew (unhide hBw)) (unhide HBY) | exact nx_trans (unhide hBw) (nx_trans (unhide HBY) (unhide HBZ)))⟩)
        · have HE : Hid (nodeT nd ts = ⟨#[40]⟩ ++ kid ts 0 ++ ⟨#[32]⟩ ++ nd.t ++ ⟨#[32]⟩ ++ kid ts 1 ++ ⟨#[41]⟩) := hide (by unfold nodeT; rw [hk]; rfl)
          rw [unhide HE] at HRES
          have hnk : ts.length = 2 := by simp [hk, countB] at hcount; omega
          have hi0 : 0 < ts.length := by omega
          have hi1 : 1 < ts.length := by omega
          obtain ⟨b8, o8, e9, u0⟩ := unhide HST 0 hi0
          subst e9
          obtain ⟨b81, o81, e91, u1⟩ := unhide HST 1 hi1
          obtain ⟨rfl, rfl⟩ := (by simpa using e91 : b8 = b81 ∧ o8 = o81)
          clear e91
          rw [← kid_at hi0] at u0
          rw [← kid_at hi1] at u1
          rw [Nat.add_zero] at u0
          have hz0 : (kid ts 0).size ≤ 5060000400 := by omega
          generalize kid ts 0 = k0 at HRES u0 hz0 hks
          have hz1 : (kid ts 1).size ≤ 5060000400 := by omega
          generalize kid ts 1 = k1 at HRES u1 hz1 hks
          rw [hk] at n0
          generalize nd.t = nt at HRES n2 htl
          clear HE hcount hk1 hk2 hk HP HST hks HCASE HTX
          have hp2 : (⟨#[40]⟩ ++ k0).size ≤ 1000000000000 := by have : (⟨#[40]⟩ : ByteArray).size = 1 := rfl; simp only [ByteArray.size_append]; omega
          have hp3 : (⟨#[40]⟩ ++ k0 ++ ⟨#[32]⟩).size ≤ 1000000000000 := by have : (⟨#[32]⟩ : ByteArray).size = 1 := rfl; have : (⟨#[40]⟩ : ByteArray).size = 1 := rfl; simp only [ByteArray.size_append]; omega
          have hp4 : (⟨#[40]⟩ ++ k0 ++ ⟨#[32]⟩ ++ nt).size ≤ 1000000000000 := by have : (⟨#[32]⟩ : ByteArray).size = 1 := rfl; have : (⟨#[40]⟩ : ByteArray).size = 1 := rfl; simp only [ByteArray.size_append]; omega
          have hp5 : (⟨#[40]⟩ ++ k0 ++ ⟨#[32]⟩ ++ nt ++ ⟨#[32]⟩).size ≤ 1000000000000 := by have : (⟨#[32]⟩ : ByteArray).size = 1 := rfl; have : (⟨#[40]⟩ : ByteArray).size = 1 := rfl; simp only [ByteArray.size_append]; omega
          have hp6 : (⟨#[40]⟩ ++ k0 ++ ⟨#[32]⟩ ++ nt ++ ⟨#[32]⟩ ++ k1).size ≤ 1000000000000 := by have : (⟨#[32]⟩ : ByteArray).size = 1 := rfl; have : (⟨#[40]⟩ : ByteArray).size = 1 := rfl; simp only [ByteArray.size_append]; omega
          have hp7 : (⟨#[40]⟩ ++ k0 ++ ⟨#[32]⟩ ++ nt ++ ⟨#[32]⟩ ++ k1 ++ ⟨#[41]⟩).size ≤ 1000000000000 := by have : (⟨#[32]⟩ : ByteArray).size = 1 := rfl; have : (⟨#[40]⟩ : ByteArray).size = 1 := rfl; have : (⟨#[41]⟩ : ByteArray).size = 1 := rfl; simp only [ByteArray.size_append]; omega
          go_wp2
          go_region
          all_goals (go_wp2; go_ret; exact ⟨_, rfl, unhide HRES, (by first | exact unhide hBw | exact nx_drew (unhide hBw) | exact nx_drewM (unhide hBw) | exact nx_trans (unhide hBw) (unhide HBY) | exact nx_trans (nx_drew (unhide hBw)) (unhide HBY) | exact nx_trans (unhide hBw) (nx_trans (unhide HBY) (unhide HBZ)))⟩)
        · have HE : Hid (nodeT nd ts = ⟨#[40]⟩ ++ kid ts 0 ++ ⟨#[32, 38, 38, 32]⟩ ++ kid ts 1 ++ ⟨#[41]⟩) := hide (by unfold nodeT; rw [hk]; rfl)
          rw [unhide HE] at HRES
          have hnk : ts.length = 2 := by simp [hk, countB] at hcount; omega
          have hi0 : 0 < ts.length := by omega
          have hi1 : 1 < ts.length := by omega
          obtain ⟨b8, o8, e9, u0⟩ := unhide HST 0 hi0
          subst e9
          obtain ⟨b81, o81, e91, u1⟩ := unhide HST 1 hi1
          obtain ⟨rfl, rfl⟩ := (by simpa using e91 : b8 = b81 ∧ o8 = o81)
          clear e91
          rw [← kid_at hi0] at u0
          rw [← kid_at hi1] at u1
          rw [Nat.add_zero] at u0
          have hz0 : (kid ts 0).size ≤ 5060000400 := by omega
          generalize kid ts 0 = k0 at HRES u0 hz0 hks
          have hz1 : (kid ts 1).size ≤ 5060000400 := by omega
          generalize kid ts 1 = k1 at HRES u1 hz1 hks
          rw [hk] at n0
          generalize nd.t = nt at HRES n2 htl
          clear HE hcount hk1 hk2 hk HP HST hks HCASE HTX
          have hp2 : (⟨#[40]⟩ ++ k0).size ≤ 1000000000000 := by have : (⟨#[40]⟩ : ByteArray).size = 1 := rfl; simp only [ByteArray.size_append]; omega
          have hp3 : (⟨#[40]⟩ ++ k0 ++ ⟨#[32, 38, 38, 32]⟩).size ≤ 1000000000000 := by have : (⟨#[32, 38, 38, 32]⟩ : ByteArray).size = 4 := rfl; have : (⟨#[40]⟩ : ByteArray).size = 1 := rfl; simp only [ByteArray.size_append]; omega
          have hp4 : (⟨#[40]⟩ ++ k0 ++ ⟨#[32, 38, 38, 32]⟩ ++ k1).size ≤ 1000000000000 := by have : (⟨#[32, 38, 38, 32]⟩ : ByteArray).size = 4 := rfl; have : (⟨#[40]⟩ : ByteArray).size = 1 := rfl; simp only [ByteArray.size_append]; omega
          have hp5 : (⟨#[40]⟩ ++ k0 ++ ⟨#[32, 38, 38, 32]⟩ ++ k1 ++ ⟨#[41]⟩).size ≤ 1000000000000 := by have : (⟨#[32, 38, 38, 32]⟩ : ByteArray).size = 4 := rfl; have : (⟨#[40]⟩ : ByteArray).size = 1 := rfl; have : (⟨#[41]⟩ : ByteArray).size = 1 := rfl; simp only [ByteArray.size_append]; omega
          go_wp2
          go_region
          all_goals (go_wp2; go_ret; exact ⟨_, rfl, unhide HRES, (by first | exact unhide hBw | exact nx_drew (unhide hBw) | exact nx_drewM (unhide hBw) | exact nx_trans (unhide hBw) (unhide HBY) | exact nx_trans (nx_drew (unhide hBw)) (unhide HBY) | exact nx_trans (unhide hBw) (nx_trans (unhide HBY) (unhide HBZ)))⟩)
        · have HE : Hid (nodeT nd ts = ⟨#[40]⟩ ++ kid ts 0 ++ ⟨#[32, 124, 124, 32]⟩ ++ kid ts 1 ++ ⟨#[41]⟩) := hide (by unfold nodeT; rw [hk]; rfl)
          rw [unhide HE] at HRES
          have hnk : ts.length = 2 := by simp [hk, countB] at hcount; omega
          have hi0 : 0 < ts.length := by omega
          have hi1 : 1 < ts.length := by omega
          obtain ⟨b8, o8, e9, u0⟩ := unhide HST 0 hi0
          subst e9
          obtain ⟨b81, o81, e91, u1⟩ := unhide HST 1 hi1
          obtain ⟨rfl, rfl⟩ := (by simpa using e91 : b8 = b81 ∧ o8 = o81)
          clear e91
          rw [← kid_at hi0] at u0
          rw [← kid_at hi1] at u1
          rw [Nat.add_zero] at u0
          have hz0 : (kid ts 0).size ≤ 5060000400 := by omega
          generalize kid ts 0 = k0 at HRES u0 hz0 hks
          have hz1 : (kid ts 1).size ≤ 5060000400 := by omega
          generalize kid ts 1 = k1 at HRES u1 hz1 hks
          rw [hk] at n0
          generalize nd.t = nt at HRES n2 htl
          clear HE hcount hk1 hk2 hk HP HST hks HCASE HTX
          have hp2 : (⟨#[40]⟩ ++ k0).size ≤ 1000000000000 := by have : (⟨#[40]⟩ : ByteArray).size = 1 := rfl; simp only [ByteArray.size_append]; omega
          have hp3 : (⟨#[40]⟩ ++ k0 ++ ⟨#[32, 124, 124, 32]⟩).size ≤ 1000000000000 := by have : (⟨#[32, 124, 124, 32]⟩ : ByteArray).size = 4 := rfl; have : (⟨#[40]⟩ : ByteArray).size = 1 := rfl; simp only [ByteArray.size_append]; omega
          have hp4 : (⟨#[40]⟩ ++ k0 ++ ⟨#[32, 124, 124, 32]⟩ ++ k1).size ≤ 1000000000000 := by have : (⟨#[32, 124, 124, 32]⟩ : ByteArray).size = 4 := rfl; have : (⟨#[40]⟩ : ByteArray).size = 1 := rfl; simp only [ByteArray.size_append]; omega
          have hp5 : (⟨#[40]⟩ ++ k0 ++ ⟨#[32, 124, 124, 32]⟩ ++ k1 ++ ⟨#[41]⟩).size ≤ 1000000000000 := by have : (⟨#[32, 124, 124, 32]⟩ : ByteArray).size = 4 := rfl; have : (⟨#[40]⟩ : ByteArray).size = 1 := rfl; have : (⟨#[41]⟩ : ByteArray).size = 1 := rfl; simp only [ByteArray.size_append]; omega
          go_wp2
          go_region
          all_goals (go_wp2; go_ret; exact ⟨_, rfl, unhide HRES, (by first | exact unhide hBw | exact nx_drew (unhide hBw) | exact nx_drewM (unhide hBw) | exact nx_trans (unhide hBw) (unhide HBY) | exact nx_trans (nx_drew (unhide hBw)) (unhide HBY) | exact nx_trans (unhide hBw) (nx_trans (unhide HBY) (unhide HBZ)))⟩)
        · have HE : Hid (nodeT nd ts = nd.t ++ ⟨#[40]⟩ ++ joinB ⟨#[44, 32]⟩ ts ++ ⟨#[41]⟩) := hide (by unfold nodeT; rw [hk]; rfl)
          rw [unhide HE] at HRES
          skip
          have HCJ := hide (fun wx hb => unhide HJ ⟨#[44, 32]⟩ (by decide) wx hb)
          have hzj := unhide hjs ⟨#[44, 32]⟩ (by decide)
          generalize joinB ⟨#[44, 32]⟩ ts = jj at HRES HCJ hzj
          rw [hk] at n0
          generalize nd.t = nt at HRES n2 htl
          clear HE hcount hk1 hk2 hk HP HST hks HCASE HTX
          have hp2 : (nt ++ ⟨#[40]⟩).size ≤ 1000000000000 := by have : (⟨#[40]⟩ : ByteArray).size = 1 := rfl; simp only [ByteArray.size_append]; omega
          have hp3 : (nt ++ ⟨#[40]⟩ ++ jj).size ≤ 1000000000000 := by have : (⟨#[40]⟩ : ByteArray).size = 1 := rfl; simp only [ByteArray.size_append]; omega
          have hp4 : (nt ++ ⟨#[40]⟩ ++ jj ++ ⟨#[41]⟩).size ≤ 1000000000000 := by have : (⟨#[40]⟩ : ByteArray).size = 1 := rfl; have : (⟨#[41]⟩ : ByteArray).size = 1 := rfl; simp only [ByteArray.size_append]; omega
          go_wp2
          go_quiet ((go_at_call 15; exact Calls.quiet_of_same (unhide HCJ _ (nx_drewM (Below.refl _ _)))))
          all_goals (go_wp2; go_ret; exact ⟨_, rfl, unhide HRES, (by first | exact unhide hBw | exact nx_drew (unhide hBw) | exact nx_drewM (unhide hBw) | exact nx_trans (unhide hBw) (unhide HBY) | exact nx_trans (nx_drew (unhide hBw)) (unhide HBY) | exact nx_trans (unhide hBw) (nx_trans (unhide HBY) (unhide HBZ)))⟩)
        · have HE : Hid (nodeT nd ts = ⟨#[108, 101, 116, 32]⟩ ++ nd.t ++ ⟨#[32, 61, 32]⟩ ++ kid ts 0 ++ ⟨#[59]⟩) := hide (by unfold nodeT; rw [hk]; rfl)
          rw [unhide HE] at HRES
          have hnk : ts.length = 1 := by simp [hk, countB] at hcount; omega
          have hi0 : 0 < ts.length := by omega
          obtain ⟨b8, o8, e9, u0⟩ := unhide HST 0 hi0
          subst e9
          rw [← kid_at hi0] at u0
          rw [Nat.add_zero] at u0
          have hz0 : (kid ts 0).size ≤ 5060000400 := by omega
          generalize kid ts 0 = k0 at HRES u0 hz0 hks
          rw [hk] at n0
          generalize nd.t = nt at HRES n2 htl
          clear HE hcount hk1 hk2 hk HP HST hks HCASE HTX
          have hp2 : (⟨#[108, 101, 116, 32]⟩ ++ nt).size ≤ 1000000000000 := by have : (⟨#[108, 101, 116, 32]⟩ : ByteArray).size = 4 := rfl; simp only [ByteArray.size_append]; omega
          have hp3 : (⟨#[108, 101, 116, 32]⟩ ++ nt ++ ⟨#[32, 61, 32]⟩).size ≤ 1000000000000 := by have : (⟨#[108, 101, 116, 32]⟩ : ByteArray).size = 4 := rfl; have : (⟨#[32, 61, 32]⟩ : ByteArray).size = 3 := rfl; simp only [ByteArray.size_append]; omega
          have hp4 : (⟨#[108, 101, 116, 32]⟩ ++ nt ++ ⟨#[32, 61, 32]⟩ ++ k0).size ≤ 1000000000000 := by have : (⟨#[108, 101, 116, 32]⟩ : ByteArray).size = 4 := rfl; have : (⟨#[32, 61, 32]⟩ : ByteArray).size = 3 := rfl; simp only [ByteArray.size_append]; omega
          have hp5 : (⟨#[108, 101, 116, 32]⟩ ++ nt ++ ⟨#[32, 61, 32]⟩ ++ k0 ++ ⟨#[59]⟩).size ≤ 1000000000000 := by have : (⟨#[108, 101, 116, 32]⟩ : ByteArray).size = 4 := rfl; have : (⟨#[32, 61, 32]⟩ : ByteArray).size = 3 := rfl; have : (⟨#[59]⟩ : ByteArray).size = 1 := rfl; simp only [ByteArray.size_append]; omega
          go_wp2
          go_region
          all_goals (go_wp2; go_ret; exact ⟨_, rfl, unhide HRES, (by first | exact unhide hBw | exact nx_drew (unhide hBw) | exact nx_drewM (unhide hBw) | exact nx_trans (unhide hBw) (unhide HBY) | exact nx_trans (nx_drew (unhide hBw)) (unhide HBY) | exact nx_trans (unhide hBw) (nx_trans (unhide HBY) (unhide HBZ)))⟩)
        · have HE : Hid (nodeT nd ts = nd.t ++ ⟨#[32, 61, 32]⟩ ++ kid ts 0 ++ ⟨#[59]⟩) := hide (by unfold nodeT; rw [hk]; rfl)
          rw [unhide HE] at HRES
          have hnk : ts.length = 1 := by simp [hk, countB] at hcount; omega
          have hi0 : 0 < ts.length := by omega
          obtain ⟨b8, o8, e9, u0⟩ := unhide HST 0 hi0
          subst e9
          rw [← kid_at hi0] at u0
          rw [Nat.add_zero] at u0
          have hz0 : (kid ts 0).size ≤ 5060000400 := by omega
          generalize kid ts 0 = k0 at HRES u0 hz0 hks
          rw [hk] at n0
          generalize nd.t = nt at HRES n2 htl
          clear HE hcount hk1 hk2 hk HP HST hks HCASE HTX
          have hp2 : (nt ++ ⟨#[32, 61, 32]⟩).size ≤ 1000000000000 := by have : (⟨#[32, 61, 32]⟩ : ByteArray).size = 3 := rfl; simp only [ByteArray.size_append]; omega
          have hp3 : (nt ++ ⟨#[32, 61, 32]⟩ ++ k0).size ≤ 1000000000000 := by have : (⟨#[32, 61, 32]⟩ : ByteArray).size = 3 := rfl; simp only [ByteArray.size_append]; omega
          have hp4 : (nt ++ ⟨#[32, 61, 32]⟩ ++ k0 ++ ⟨#[59]⟩).size ≤ 1000000000000 := by have : (⟨#[32, 61, 32]⟩ : ByteArray).size = 3 := rfl; have : (⟨#[59]⟩ : ByteArray).size = 1 := rfl; simp only [ByteArray.size_append]; omega
          go_wp2
          go_region
          all_goals (go_wp2; go_ret; exact ⟨_, rfl, unhide HRES, (by first | exact unhide hBw | exact nx_drew (unhide hBw) | exact nx_drewM (unhide hBw) | exact nx_trans (unhide hBw) (unhide HBY) | exact nx_trans (nx_drew (unhide hBw)) (unhide HBY) | exact nx_trans (unhide hBw) (nx_trans (unhide HBY) (unhide HBZ)))⟩)
        · by_cases h3 : ts.length = 3
          · have HE : Hid (nodeT nd ts = ⟨#[105, 102, 32, 40]⟩ ++ kid ts 0 ++ ⟨#[41, 32]⟩ ++ kid ts 1 ++ (⟨#[32, 101, 108, 115, 101, 32]⟩ ++ kid ts 2)) := hide (by unfold nodeT; rw [hk]; show (if ts.length = 3 then _ else _) = _; rw [if_pos h3])
            rw [unhide HE] at HRES
            have hnk : ts.length = 3 := h3
            have hi0 : 0 < ts.length := by omega
            have hi1 : 1 < ts.length := by omega
            have hi2 : 2 < ts.length := by omega
            obtain ⟨b8, o8, e9, u0⟩ := unhide HST 0 hi0
            subst e9
            obtain ⟨b81, o81, e91, u1⟩ := unhide HST 1 hi1
            obtain ⟨rfl, rfl⟩ := (by simpa using e91 : b8 = b81 ∧ o8 = o81)
            clear e91
            obtain ⟨b82, o82, e92, u2⟩ := unhide HST 2 hi2
            obtain ⟨rfl, rfl⟩ := (by simpa using e92 : b8 = b82 ∧ o8 = o82)
            clear e92
            rw [← kid_at hi0] at u0
            rw [← kid_at hi1] at u1
            rw [← kid_at hi2] at u2
            rw [Nat.add_zero] at u0
            have hz0 : (kid ts 0).size ≤ 5060000400 := by omega
            generalize kid ts 0 = k0 at HRES u0 hz0 hks
            have hz1 : (kid ts 1).size ≤ 5060000400 := by omega
            generalize kid ts 1 = k1 at HRES u1 hz1 hks
            have hz2 : (kid ts 2).size ≤ 5060000400 := by omega
            generalize kid ts 2 = k2 at HRES u2 hz2 hks
            rw [hk] at n0
            generalize nd.t = nt at HRES n2 htl
            clear HE hcount hk1 hk2 hk HP HST hks HCASE HTX
            have hp2 : (⟨#[105, 102, 32, 40]⟩ ++ k0).size ≤ 1000000000000 := by have : (⟨#[105, 102, 32, 40]⟩ : ByteArray).size = 4 := rfl; simp only [ByteArray.size_append]; omega
            have hp3 : (⟨#[105, 102, 32, 40]⟩ ++ k0 ++ ⟨#[41, 32]⟩).size ≤ 1000000000000 := by have : (⟨#[105, 102, 32, 40]⟩ : ByteArray).size = 4 := rfl; have : (⟨#[41, 32]⟩ : ByteArray).size = 2 := rfl; simp only [ByteArray.size_append]; omega
            have hp4 : (⟨#[105, 102, 32, 40]⟩ ++ k0 ++ ⟨#[41, 32]⟩ ++ k1).size ≤ 1000000000000 := by have : (⟨#[105, 102, 32, 40]⟩ : ByteArray).size = 4 := rfl; have : (⟨#[41, 32]⟩ : ByteArray).size = 2 := rfl; simp only [ByteArray.size_append]; omega
            have hpe : (⟨#[32, 101, 108, 115, 101, 32]⟩ ++ k2).size ≤ 1000000000000 := by have : (⟨#[32, 101, 108, 115, 101, 32]⟩ : ByteArray).size = 6 := rfl; simp only [ByteArray.size_append]; omega
            go_wp2
            go_region
            all_goals (go_wp2; go_ret; exact ⟨_, rfl, unhide HRES, (by first | exact unhide hBw | exact nx_drew (unhide hBw) | exact nx_drewM (unhide hBw) | exact nx_trans (unhide hBw) (unhide HBY) | exact nx_trans (nx_drew (unhide hBw)) (unhide HBY) | exact nx_trans (unhide hBw) (nx_trans (unhide HBY) (unhide HBZ)))⟩)
          · have HE : Hid (nodeT nd ts = ⟨#[105, 102, 32, 40]⟩ ++ kid ts 0 ++ ⟨#[41, 32]⟩ ++ kid ts 1) := hide (by unfold nodeT; rw [hk]; show (if ts.length = 3 then _ else _) = _; rw [if_neg h3])
            rw [unhide HE] at HRES
            have hnk : ts.length = 2 := by simp [hk, countB] at hcount; omega
            have hi0 : 0 < ts.length := by omega
            have hi1 : 1 < ts.length := by omega
            obtain ⟨b8, o8, e9, u0⟩ := unhide HST 0 hi0
            subst e9
            obtain ⟨b81, o81, e91, u1⟩ := unhide HST 1 hi1
            obtain ⟨rfl, rfl⟩ := (by simpa using e91 : b8 = b81 ∧ o8 = o81)
            clear e91
            rw [← kid_at hi0] at u0
            rw [← kid_at hi1] at u1
            rw [Nat.add_zero] at u0
            have hz0 : (kid ts 0).size ≤ 5060000400 := by omega
            generalize kid ts 0 = k0 at HRES u0 hz0 hks
            have hz1 : (kid ts 1).size ≤ 5060000400 := by omega
            generalize kid ts 1 = k1 at HRES u1 hz1 hks
            rw [hk] at n0
            generalize nd.t = nt at HRES n2 htl
            clear HE hcount hk1 hk2 hk HP HST hks HCASE HTX
            have hp2 : (⟨#[105, 102, 32, 40]⟩ ++ k0).size ≤ 1000000000000 := by have : (⟨#[105, 102, 32, 40]⟩ : ByteArray).size = 4 := rfl; simp only [ByteArray.size_append]; omega
            have hp3 : (⟨#[105, 102, 32, 40]⟩ ++ k0 ++ ⟨#[41, 32]⟩).size ≤ 1000000000000 := by have : (⟨#[105, 102, 32, 40]⟩ : ByteArray).size = 4 := rfl; have : (⟨#[41, 32]⟩ : ByteArray).size = 2 := rfl; simp only [ByteArray.size_append]; omega
            have hp4 : (⟨#[105, 102, 32, 40]⟩ ++ k0 ++ ⟨#[41, 32]⟩ ++ k1).size ≤ 1000000000000 := by have : (⟨#[105, 102, 32, 40]⟩ : ByteArray).size = 4 := rfl; have : (⟨#[41, 32]⟩ : ByteArray).size = 2 := rfl; simp only [ByteArray.size_append]; omega
            go_wp2
            go_region
            all_goals (go_wp2; go_ret; exact ⟨_, rfl, unhide HRES, (by first | exact unhide hBw | exact nx_drew (unhide hBw) | exact nx_drewM (unhide hBw) | exact nx_trans (unhide hBw) (unhide HBY) | exact nx_trans (nx_drew (unhide hBw)) (unhide HBY) | exact nx_trans (unhide hBw) (nx_trans (unhide HBY) (unhide HBZ)))⟩)
        · have HE : Hid (nodeT nd ts = ⟨#[119, 104, 105, 108, 101, 32, 40]⟩ ++ kid ts 0 ++ ⟨#[41, 32]⟩ ++ kid ts 1) := hide (by unfold nodeT; rw [hk]; rfl)
          rw [unhide HE] at HRES
          have hnk : ts.length = 2 := by simp [hk, countB] at hcount; omega
          have hi0 : 0 < ts.length := by omega
          have hi1 : 1 < ts.length := by omega
          obtain ⟨b8, o8, e9, u0⟩ := unhide HST 0 hi0
          subst e9
          obtain ⟨b81, o81, e91, u1⟩ := unhide HST 1 hi1
          obtain ⟨rfl, rfl⟩ := (by simpa using e91 : b8 = b81 ∧ o8 = o81)
          clear e91
          rw [← kid_at hi0] at u0
          rw [← kid_at hi1] at u1
          rw [Nat.add_zero] at u0
          have hz0 : (kid ts 0).size ≤ 5060000400 := by omega
          generalize kid ts 0 = k0 at HRES u0 hz0 hks
          have hz1 : (kid ts 1).size ≤ 5060000400 := by omega
          generalize kid ts 1 = k1 at HRES u1 hz1 hks
          rw [hk] at n0
          generalize nd.t = nt at HRES n2 htl
          clear HE hcount hk1 hk2 hk HP HST hks HCASE HTX
          have hp2 : (⟨#[119, 104, 105, 108, 101, 32, 40]⟩ ++ k0).size ≤ 1000000000000 := by have : (⟨#[119, 104, 105, 108, 101, 32, 40]⟩ : ByteArray).size = 7 := rfl; simp only [ByteArray.size_append]; omega
          have hp3 : (⟨#[119, 104, 105, 108, 101, 32, 40]⟩ ++ k0 ++ ⟨#[41, 32]⟩).size ≤ 1000000000000 := by have : (⟨#[119, 104, 105, 108, 101, 32, 40]⟩ : ByteArray).size = 7 := rfl; have : (⟨#[41, 32]⟩ : ByteArray).size = 2 := rfl; simp only [ByteArray.size_append]; omega
          have hp4 : (⟨#[119, 104, 105, 108, 101, 32, 40]⟩ ++ k0 ++ ⟨#[41, 32]⟩ ++ k1).size ≤ 1000000000000 := by have : (⟨#[119, 104, 105, 108, 101, 32, 40]⟩ : ByteArray).size = 7 := rfl; have : (⟨#[41, 32]⟩ : ByteArray).size = 2 := rfl; simp only [ByteArray.size_append]; omega
          go_wp2
          go_region
          all_goals (go_wp2; go_ret; exact ⟨_, rfl, unhide HRES, (by first | exact unhide hBw | exact nx_drew (unhide hBw) | exact nx_drewM (unhide hBw) | exact nx_trans (unhide hBw) (unhide HBY) | exact nx_trans (nx_drew (unhide hBw)) (unhide HBY) | exact nx_trans (unhide hBw) (nx_trans (unhide HBY) (unhide HBZ)))⟩)
        · have HE : Hid (nodeT nd ts = ⟨#[114, 101, 116, 117, 114, 110, 32]⟩ ++ kid ts 0 ++ ⟨#[59]⟩) := hide (by unfold nodeT; rw [hk]; rfl)
          rw [unhide HE] at HRES
          have hnk : ts.length = 1 := by simp [hk, countB] at hcount; omega
          have hi0 : 0 < ts.length := by omega
          obtain ⟨b8, o8, e9, u0⟩ := unhide HST 0 hi0
          subst e9
          rw [← kid_at hi0] at u0
          rw [Nat.add_zero] at u0
          have hz0 : (kid ts 0).size ≤ 5060000400 := by omega
          generalize kid ts 0 = k0 at HRES u0 hz0 hks
          rw [hk] at n0
          generalize nd.t = nt at HRES n2 htl
          clear HE hcount hk1 hk2 hk HP HST hks HCASE HTX
          have hp2 : (⟨#[114, 101, 116, 117, 114, 110, 32]⟩ ++ k0).size ≤ 1000000000000 := by have : (⟨#[114, 101, 116, 117, 114, 110, 32]⟩ : ByteArray).size = 7 := rfl; simp only [ByteArray.size_append]; omega
          have hp3 : (⟨#[114, 101, 116, 117, 114, 110, 32]⟩ ++ k0 ++ ⟨#[59]⟩).size ≤ 1000000000000 := by have : (⟨#[114, 101, 116, 117, 114, 110, 32]⟩ : ByteArray).size = 7 := rfl; have : (⟨#[59]⟩ : ByteArray).size = 1 := rfl; simp only [ByteArray.size_append]; omega
          go_wp2
          go_ret
          exact ⟨_, rfl, unhide HRES, (by first | exact unhide hBw | exact nx_drew (unhide hBw) | exact nx_drewM (unhide hBw) | exact nx_trans (unhide hBw) (unhide HBY) | exact nx_trans (nx_drew (unhide hBw)) (unhide HBY) | exact nx_trans (unhide hBw) (nx_trans (unhide HBY) (unhide HBZ)))⟩
        · have HE : Hid (nodeT nd ts = ⟨#[116, 104, 114, 111, 119, 32]⟩ ++ kid ts 0 ++ ⟨#[59]⟩) := hide (by unfold nodeT; rw [hk]; rfl)
          rw [unhide HE] at HRES
          have hnk : ts.length = 1 := by simp [hk, countB] at hcount; omega
          have hi0 : 0 < ts.length := by omega
          obtain ⟨b8, o8, e9, u0⟩ := unhide HST 0 hi0
          subst e9
          rw [← kid_at hi0] at u0
          rw [Nat.add_zero] at u0
          have hz0 : (kid ts 0).size ≤ 5060000400 := by omega
          generalize kid ts 0 = k0 at HRES u0 hz0 hks
          rw [hk] at n0
          generalize nd.t = nt at HRES n2 htl
          clear HE hcount hk1 hk2 hk HP HST hks HCASE HTX
          have hp2 : (⟨#[116, 104, 114, 111, 119, 32]⟩ ++ k0).size ≤ 1000000000000 := by have : (⟨#[116, 104, 114, 111, 119, 32]⟩ : ByteArray).size = 6 := rfl; simp only [ByteArray.size_append]; omega
          have hp3 : (⟨#[116, 104, 114, 111, 119, 32]⟩ ++ k0 ++ ⟨#[59]⟩).size ≤ 1000000000000 := by have : (⟨#[116, 104, 114, 111, 119, 32]⟩ : ByteArray).size = 6 := rfl; have : (⟨#[59]⟩ : ByteArray).size = 1 := rfl; simp only [ByteArray.size_append]; omega
          go_wp2
          go_ret
          exact ⟨_, rfl, unhide HRES, (by first | exact unhide hBw | exact nx_drew (unhide hBw) | exact nx_drewM (unhide hBw) | exact nx_trans (unhide hBw) (unhide HBY) | exact nx_trans (nx_drew (unhide hBw)) (unhide HBY) | exact nx_trans (unhide hBw) (nx_trans (unhide HBY) (unhide HBZ)))⟩
        · have HE : Hid (nodeT nd ts = ⟨#[116, 114, 121, 32]⟩ ++ kid ts 0 ++ ⟨#[32, 99, 97, 116, 99, 104, 32, 40]⟩ ++ nd.t ++ ⟨#[41, 32]⟩ ++ kid ts 1) := hide (by unfold nodeT; rw [hk]; rfl)
          rw [unhide HE] at HRES
          have hnk : ts.length = 2 := by simp [hk, countB] at hcount; omega
          have hi0 : 0 < ts.length := by omega
          have hi1 : 1 < ts.length := by omega
          obtain ⟨b8, o8, e9, u0⟩ := unhide HST 0 hi0
          subst e9
          obtain ⟨b81, o81, e91, u1⟩ := unhide HST 1 hi1
          obtain ⟨rfl, rfl⟩ := (by simpa using e91 : b8 = b81 ∧ o8 = o81)
          clear e91
          rw [← kid_at hi0] at u0
          rw [← kid_at hi1] at u1
          rw [Nat.add_zero] at u0
          have hz0 : (kid ts 0).size ≤ 5060000400 := by omega
          generalize kid ts 0 = k0 at HRES u0 hz0 hks
          have hz1 : (kid ts 1).size ≤ 5060000400 := by omega
          generalize kid ts 1 = k1 at HRES u1 hz1 hks
          rw [hk] at n0
          generalize nd.t = nt at HRES n2 htl
          clear HE hcount hk1 hk2 hk HP HST hks HCASE HTX
          have hp2 : (⟨#[116, 114, 121, 32]⟩ ++ k0).size ≤ 1000000000000 := by have : (⟨#[116, 114, 121, 32]⟩ : ByteArray).size = 4 := rfl; simp only [ByteArray.size_append]; omega
          have hp3 : (⟨#[116, 114, 121, 32]⟩ ++ k0 ++ ⟨#[32, 99, 97, 116, 99, 104, 32, 40]⟩).size ≤ 1000000000000 := by have : (⟨#[116, 114, 121, 32]⟩ : ByteArray).size = 4 := rfl; have : (⟨#[32, 99, 97, 116, 99, 104, 32, 40]⟩ : ByteArray).size = 8 := rfl; simp only [ByteArray.size_append]; omega
          have hp4 : (⟨#[116, 114, 121, 32]⟩ ++ k0 ++ ⟨#[32, 99, 97, 116, 99, 104, 32, 40]⟩ ++ nt).size ≤ 1000000000000 := by have : (⟨#[116, 114, 121, 32]⟩ : ByteArray).size = 4 := rfl; have : (⟨#[32, 99, 97, 116, 99, 104, 32, 40]⟩ : ByteArray).size = 8 := rfl; simp only [ByteArray.size_append]; omega
          have hp5 : (⟨#[116, 114, 121, 32]⟩ ++ k0 ++ ⟨#[32, 99, 97, 116, 99, 104, 32, 40]⟩ ++ nt ++ ⟨#[41, 32]⟩).size ≤ 1000000000000 := by have : (⟨#[116, 114, 121, 32]⟩ : ByteArray).size = 4 := rfl; have : (⟨#[32, 99, 97, 116, 99, 104, 32, 40]⟩ : ByteArray).size = 8 := rfl; have : (⟨#[41, 32]⟩ : ByteArray).size = 2 := rfl; simp only [ByteArray.size_append]; omega
          have hp6 : (⟨#[116, 114, 121, 32]⟩ ++ k0 ++ ⟨#[32, 99, 97, 116, 99, 104, 32, 40]⟩ ++ nt ++ ⟨#[41, 32]⟩ ++ k1).size ≤ 1000000000000 := by have : (⟨#[116, 114, 121, 32]⟩ : ByteArray).size = 4 := rfl; have : (⟨#[32, 99, 97, 116, 99, 104, 32, 40]⟩ : ByteArray).size = 8 := rfl; have : (⟨#[41, 32]⟩ : ByteArray).size = 2 := rfl; simp only [ByteArray.size_append]; omega
          go_wp2
          go_region
          all_goals (go_wp2; go_ret; exact ⟨_, rfl, unhide HRES, (by first | exact unhide hBw | exact nx_drew (unhide hBw) | exact nx_drewM (unhide hBw) | exact nx_trans (unhide hBw) (unhide HBY) | exact nx_trans (nx_drew (unhide hBw)) (unhide HBY) | exact nx_trans (unhide hBw) (nx_trans (unhide HBY) (unhide HBZ)))⟩)
        · by_cases h3 : ts.length = 0
          · have HE : Hid (nodeT nd ts = ⟨#[123, 32, 125]⟩) := hide (by unfold nodeT; rw [hk]; show (if ts.length = 0 then _ else _) = _; rw [if_pos h3])
            rw [unhide HE] at HRES
            rw [hk] at n0
            clear HE hcount hk1 hk2 hk HP HST hks HCASE HTX
            go_wp2
            go_ret
            exact ⟨_, rfl, unhide HRES, (by first | exact unhide hBw | exact nx_drew (unhide hBw) | exact nx_drewM (unhide hBw) | exact nx_trans (unhide hBw) (unhide HBY) | exact nx_trans (nx_drew (unhide hBw)) (unhide HBY) | exact nx_trans (unhide hBw) (nx_trans (unhide HBY) (unhide HBZ)))⟩
          · have HE : Hid (nodeT nd ts = ⟨#[123, 32]⟩ ++ joinB ⟨#[32]⟩ ts ++ ⟨#[32, 125]⟩) := hide (by unfold nodeT; rw [hk]; show (if ts.length = 0 then _ else _) = _; rw [if_neg h3])
            rw [unhide HE] at HRES
            skip
            have HCJ := hide (fun wx hb => unhide HJ ⟨#[32]⟩ (by decide) wx hb)
            have hzj := unhide hjs ⟨#[32]⟩ (by decide)
            generalize joinB ⟨#[32]⟩ ts = jj at HRES HCJ hzj
            rw [hk] at n0
            generalize nd.t = nt at HRES n2 htl
            clear HE hcount hk1 hk2 hk HP HST hks HCASE HTX
            have hp2 : (⟨#[123, 32]⟩ ++ jj).size ≤ 1000000000000 := by have : (⟨#[123, 32]⟩ : ByteArray).size = 2 := rfl; simp only [ByteArray.size_append]; omega
            have hp3 : (⟨#[123, 32]⟩ ++ jj ++ ⟨#[32, 125]⟩).size ≤ 1000000000000 := by have : (⟨#[123, 32]⟩ : ByteArray).size = 2 := rfl; have : (⟨#[32, 125]⟩ : ByteArray).size = 2 := rfl; simp only [ByteArray.size_append]; omega
            clear HJ HJN hjs hjn
            generalize ts.length = nl at HCJ h3 hlen3 ⊢
            have e3 : ¬ ((nl : Int) = 0) := by omega
            have e4 : ((nl : Int) == 0) = false := beq_eq_false_iff_ne.2 e3
            clear h3
            go_wp2_with fail
            refine (unhide HCJ wr (Below.refl _ _)).mono ?_
            rintro e y ⟨rfl, rfl⟩
            go_wp2
            go_ret
            exact ⟨_, rfl, unhide HRES, (by first | exact unhide hBw | exact nx_drew (unhide hBw) | exact nx_drewM (unhide hBw) | exact nx_trans (unhide hBw) (unhide HBY) | exact nx_trans (nx_drew (unhide hBw)) (unhide HBY) | exact nx_trans (unhide hBw) (nx_trans (unhide HBY) (unhide HBZ)))⟩
        · have HE : Hid (nodeT nd ts = kid ts 0 ++ ⟨#[59]⟩) := hide (by unfold nodeT; rw [hk]; rfl)
          rw [unhide HE] at HRES
          have hnk : ts.length = 1 := by simp [hk, countB] at hcount; omega
          have hi0 : 0 < ts.length := by omega
          obtain ⟨b8, o8, e9, u0⟩ := unhide HST 0 hi0
          subst e9
          rw [← kid_at hi0] at u0
          rw [Nat.add_zero] at u0
          have hz0 : (kid ts 0).size ≤ 5060000400 := by omega
          generalize kid ts 0 = k0 at HRES u0 hz0 hks
          rw [hk] at n0
          generalize nd.t = nt at HRES n2 htl
          clear HE hcount hk1 hk2 hk HP HST hks HCASE HTX
          have hp2 : (k0 ++ ⟨#[59]⟩).size ≤ 1000000000000 := by have : (⟨#[59]⟩ : ByteArray).size = 1 := rfl; simp only [ByteArray.size_append]; omega
          go_wp2
          go_ret
          exact ⟨_, rfl, unhide HRES, (by first | exact unhide hBw | exact nx_drew (unhide hBw) | exact nx_drewM (unhide hBw) | exact nx_trans (unhide hBw) (unhide HBY) | exact nx_trans (nx_drew (unhide hBw)) (unhide HBY) | exact nx_trans (unhide hBw) (nx_trans (unhide HBY) (unhide HBZ)))⟩
        · have HE : Hid (nodeT nd ts = ⟨#[102, 117, 110, 99, 116, 105, 111, 110, 32]⟩ ++ nd.t ++ ⟨#[40]⟩ ++ joinB ⟨#[44, 32]⟩ nd.names ++ ⟨#[41, 32]⟩ ++ kid ts 0) := hide (by unfold nodeT; rw [hk]; rfl)
          rw [unhide HE] at HRES
          have hnk : ts.length = 1 := by simp [hk, countB] at hcount; omega
          have hi0 : 0 < ts.length := by omega
          obtain ⟨b8, o8, e9, u0⟩ := unhide HST 0 hi0
          subst e9
          rw [← kid_at hi0] at u0
          rw [Nat.add_zero] at u0
          have hz0 : (kid ts 0).size ≤ 5060000400 := by omega
          generalize kid ts 0 = k0 at HRES u0 hz0 hks
          have HCJ := hide (fun wx hb => unhide HJN ⟨#[44, 32]⟩ (by decide) wx hb)
          have hzj := unhide hjn ⟨#[44, 32]⟩ (by decide)
          generalize joinB ⟨#[44, 32]⟩ nd.names = jj at HRES HCJ hzj
          rw [hk] at n0
          generalize nd.t = nt at HRES n2 htl
          clear HE hcount hk1 hk2 hk HP HST hks HCASE HTX
          have hp2 : (⟨#[102, 117, 110, 99, 116, 105, 111, 110, 32]⟩ ++ nt).size ≤ 1000000000000 := by have : (⟨#[102, 117, 110, 99, 116, 105, 111, 110, 32]⟩ : ByteArray).size = 9 := rfl; simp only [ByteArray.size_append]; omega
          have hp3 : (⟨#[102, 117, 110, 99, 116, 105, 111, 110, 32]⟩ ++ nt ++ ⟨#[40]⟩).size ≤ 1000000000000 := by have : (⟨#[102, 117, 110, 99, 116, 105, 111, 110, 32]⟩ : ByteArray).size = 9 := rfl; have : (⟨#[40]⟩ : ByteArray).size = 1 := rfl; simp only [ByteArray.size_append]; omega
          have hp4 : (⟨#[102, 117, 110, 99, 116, 105, 111, 110, 32]⟩ ++ nt ++ ⟨#[40]⟩ ++ jj).size ≤ 1000000000000 := by have : (⟨#[102, 117, 110, 99, 116, 105, 111, 110, 32]⟩ : ByteArray).size = 9 := rfl; have : (⟨#[40]⟩ : ByteArray).size = 1 := rfl; simp only [ByteArray.size_append]; omega
          have hp5 : (⟨#[102, 117, 110, 99, 116, 105, 111, 110, 32]⟩ ++ nt ++ ⟨#[40]⟩ ++ jj ++ ⟨#[41, 32]⟩).size ≤ 1000000000000 := by have : (⟨#[102, 117, 110, 99, 116, 105, 111, 110, 32]⟩ : ByteArray).size = 9 := rfl; have : (⟨#[40]⟩ : ByteArray).size = 1 := rfl; have : (⟨#[41, 32]⟩ : ByteArray).size = 2 := rfl; simp only [ByteArray.size_append]; omega
          have hp6 : (⟨#[102, 117, 110, 99, 116, 105, 111, 110, 32]⟩ ++ nt ++ ⟨#[40]⟩ ++ jj ++ ⟨#[41, 32]⟩ ++ k0).size ≤ 1000000000000 := by have : (⟨#[102, 117, 110, 99, 116, 105, 111, 110, 32]⟩ : ByteArray).size = 9 := rfl; have : (⟨#[40]⟩ : ByteArray).size = 1 := rfl; have : (⟨#[41, 32]⟩ : ByteArray).size = 2 := rfl; simp only [ByteArray.size_append]; omega
          go_wp2
          go_quiet ((go_at_call 15; exact Calls.quiet_of_same (unhide HCJ _ (nx_drewM (Below.refl _ _)))))
          all_goals (go_wp2; go_ret; exact ⟨_, rfl, unhide HRES, (by first | exact unhide hBw | exact nx_drew (unhide hBw) | exact nx_drewM (unhide hBw) | exact nx_trans (unhide hBw) (unhide HBY) | exact nx_trans (nx_drew (unhide hBw)) (unhide HBY) | exact nx_trans (unhide hBw) (nx_trans (unhide HBY) (unhide HBZ)))⟩)

/-- what a tree is printed as, with its code -/
def TextRes (ns : List TN) (root : Int) (t : ByteArray) (c : Int) : Prop := (¬ TreeOkP ns root ∧ t = ⟨#[]⟩ ∧ c = 1) ∨ (TreeOkP ns root ∧ c = 0 ∧ ∃ ts, TxtR ns (rootKids ns root) ts ∧ t = joinB ⟨#[32]⟩ ts)
theorem TextRes.det {ns : List TN} {root : Int} {t t' : ByteArray} {c c' : Int} (h : TextRes ns root t c) (h' : TextRes ns root t' c') : t = t' ∧ c = c' := by
  rcases h with ⟨h1, rfl, rfl⟩ | ⟨h1, rfl, ts, h2, rfl⟩ <;> rcases h' with ⟨g1, rfl, rfl⟩ | ⟨g1, rfl, ts', g2, rfl⟩
  · exact ⟨rfl, rfl⟩
  · exact absurd g1 h1
  · exact absurd h1 g1
  · exact ⟨by rw [h2.det g2], rfl⟩
theorem ident_len {t : ByteArray} (h : identB t = true) : t.size ≤ 20 := by
  unfold identB tokB at h
  rw [if_pos rfl] at h
  simp only [Bool.and_eq_true, decide_eq_true_eq] at h
  have h4 : t.data.toList.length = t.size := Array.length_toList
  omega
/-- a node that is right and not too long is printed -/
theorem print_of {x : TN} (hs : SmallN x) (h : nodeB x = true) : PrintT x := by
  have h0 := h
  unfold nodeB at h
  rw [Bool.and_eq_true] at h
  have hp := h.2
  refine ⟨⟨hs.1, hs.2.1, ?_, ?_⟩, h0⟩
  · intro s hsn
    have hnl : 0 < x.names.length := List.length_pos_of_mem hsn
    unfold partsB at hp
    split at hp
    · simp only [Bool.and_eq_true, decide_eq_true_eq] at hp; omega
    split at hp
    · simp only [Bool.and_eq_true, decide_eq_true_eq] at hp; omega
    split at hp
    · cases hp
    · rename_i hn
      have h20 : x.k = 20 := by
        rcases Decidable.em (x.k = 20) with h | h
        · exact h
        · exact absurd (.inr ⟨h, hnl⟩) hn
      rw [if_neg (by omega), if_neg (by omega), if_neg (by omega), if_pos (by rw [h20]; rfl), Bool.and_eq_true] at hp
      exact ident_len (List.all_eq_true.1 hp.1 s hsn)
  · intro h1
    unfold partsB at hp
    rw [if_pos h1] at hp
    simp only [Bool.and_eq_true, decide_eq_true_eq] at hp
    omega
theorem TreeP.bit {ns : List TN} {root : Int} {l : List Nat} {d a : Nat} (hT : TreeP ns root l d) (ha : a < ns.length) : ∃ lx dx, Vis ns [(a : Int)] lx dx ∧ (∀ y ∈ lx, y ∈ l) ∧ lx.length ≤ 200 := by
  obtain ⟨lx, dx, vx, hlx, _, hll⟩ := hT.2.1.1.sub a (hT.2.2.2 a ha)
  have h2 := nodup_le ns.length l hT.2.1.2.1 hT.2.1.1.lt
  have := hT.1
  exact ⟨lx, dx, vx, hlx, by omega⟩
theorem TreeP.print {ns : List TN} {root : Int} {l : List Nat} {d : Nat} (hT : TreeP ns root l d) (hs : Small ns) : ∀ x ∈ ns, PrintT x := fun x hx => by
  obtain ⟨i, hi, rfl⟩ := List.getElem_of_mem hx
  obtain ⟨n, hn, hb, _⟩ := hT.2.1.2.2.2 i (hT.2.2.2 i hi)
  rw [List.getElem?_eq_getElem hi] at hn
  obtain rfl := Option.some.inj hn
  exact print_of (hs.2 _ (List.getElem_mem hi)) hb

set_option maxHeartbeats 4000000 in
set_option maxRecDepth 100000 in
theorem specTreeText_any (ns : List TN) (root : Int) (L : Lay) (w : World) (hN : NodesAt w L ns) (hsm : Small ns) :
    Calls Tryd.prog 6 #[.agg #[.slice L.p ns.length L.cap, .int .i64 root]] w fun e w' => ∃ t c, e = .returned (.tuple #[.string t, .int .i64 c]) ∧ TextRes ns root t c ∧ Below w.heap.size w w' := by
  have HN := hide hN
  have HS := hide hsm
  have hl := hsm.1
  clear hN hsm
  go_enter Tryd.func6, Tryd.ntmps6
  go_wp2_with fail
  refine (specTreeOK_any ns root L _ ((unhide HN).later (nx_alloc _ _)) (unhide HS)).mono ?_
  rintro e w1 ⟨b, rfl, hb, hb1⟩
  have hB := hide (nx_trans (nx_alloc _ _) hb1)
  have hw1 : w.heap.size < w1.heap.size := by have := hb1.size; simp at this; omega
  have c1 : ∀ o, w1.cell? ⟨w.heap.size, o, none⟩ = (w.alloc (.cells #[.slice L.p ns.length L.cap, .int .i64 root] 30)).cell? ⟨w.heap.size, o, none⟩ := fun o => hb1.cell (p := ⟨w.heap.size, o, none⟩) (by simp)
  have d0 : w1.cell? ⟨w.heap.size, 0, none⟩ = some (.slice L.p ns.length L.cap) := by rw [c1]; simp
  have d1 : w1.cell? ⟨w.heap.size, 1, none⟩ = some (.int .i64 root) := by rw [c1]; simp
  clear hb1 c1
  have HE1 : Hid (StrBuf (w1.alloc (.cells #[] 9)) w1.heap.size (.slice (some ⟨w1.heap.size, 0, none⟩) 0 0) []) := hide (by simpa using StrBuf.lit w1 w1.heap.size [] (by omega) (by decide))
  cases b
  · have hD : Hid (TextRes ns root ⟨#[]⟩ 1) := hide (.inl ⟨fun h => (by have := hb.2 h; cases this), rfl, rfl⟩)
    clear hb
    go_wp2
    go_ret2
    exact ⟨_, 1, rfl, unhide hD, unhide hB⟩
  obtain ⟨l, d, hT⟩ := hb.1 rfl
  obtain ⟨hr0, hrl, hrn⟩ := hT.root
  obtain ⟨a, rfl⟩ : ∃ a : Nat, root = (a : Int) := ⟨root.toNat, by omega⟩
  rw [Int.toNat_natCast] at hrl hrn
  have hr : ns[(a : Int).toNat]? = some ns[a] := by rw [Int.toNat_natCast]; exact List.getElem?_eq_getElem hrn
  have hkl : ns[a].kids.length ≤ 1048576 := ((unhide HS).2 ns[a] (List.getElem_mem hrn)).2.2.1
  have hD : Hid (∀ ts, TxtR ns ns[a].kids ts → TextRes ns (a : Int) (joinB ⟨#[32]⟩ ts) 0) := hide (fun ts h => .inr ⟨⟨l, d, hT⟩, rfl, ts, by rw [rootKids_of hr]; exact h, rfl⟩)
  have HPR := hide (hT.print (unhide HS))
  obtain ⟨lx, dx, vx, hlx, hl200⟩ := hT.bit hrn
  obtain ⟨x0, l1, l2, d1', d2, _, hx0, v1, v2, rfl, rfl⟩ := vx.inv
  rw [Int.toNat_natCast, List.getElem?_eq_getElem hrn] at hx0
  obtain rfl := Option.some.inj hx0
  have hl1 : l1.length + 1 ≤ 200 := by rw [List.length_cons, List.length_append] at hl200; omega
  have HV := hide v1
  have HSIZE : Hid (∀ ts, TxtR ns ns[a].kids ts → sumB ts ≤ 5060000400) := hide (fun ts h => by
    have := TxtR.size (fun x hx => (unhide HPR x hx).fits) (unhide HV) h
    have : 25300002 * l1.length ≤ 25300002 * 200 := Nat.mul_le_mul_left _ (by omega)
    omega)
  obtain ⟨bn, off, hp, q0, q1, q2, q3, q4, q5, q6⟩ := (unhide HN).later (unhide hB) a hrn
  have HQ6 := hide q6
  have HNx := hide ((unhide HN).later (unhide hB))
  have hbn : bn < w1.heap.size := World.block_lt_of_cell? _ _ q4
  have hbn' : ¬ bn = w1.heap.size := by omega
  have hwb : w.heap.size < w1.heap.size := hw1
  clear hT hr hr0 hrl hb q0 q1 q2 q3 q5 q6 v1 v2 vx hlx hl200
  generalize ns[a].kids = ks at q4 HQ6 hkl hD HV HSIZE
  have HC := hide (fun (m : Nat) (hm : m < ks.length) (wx : World) (hb : Below w1.heap.size w1 wx) => show ∃ c : Nat, ks[m] = (c : Int) ∧ Calls Tryd.prog 14 #[.agg #[.slice L.p ns.length L.cap, .int .i64 (a : Int)], .int .i64 (c : Int)] wx fun e w' => ∃ t, e = .returned (.string t) ∧ TxtR ns [(c : Int)] [t] ∧ Below wx.heap.size wx w' from by
    obtain ⟨lj, dj, vj, hlj, hdj, hj0, hll⟩ := (unhide HV).at (List.getElem?_eq_getElem hm)
    refine ⟨ks[m].toNat, (Int.toNat_of_nonneg hj0).symm, ?_⟩
    exact l03Text_any ns (a : Int) L HS HPR dj dj ks[m].toNat lj wx (Nat.le_refl _) (by rw [Int.toNat_of_nonneg hj0]; exact vj) (by omega) ((unhide HNx).later hb))
  rw [hp] at d0 HC
  generalize L.pk a = pk at q4 HQ6
  generalize L.ck a = ck at q4
  clear HV
  go_wp2
  go_loopw [4, 5] (fun s i wx => ∃ (m : Nat) (ts : List ByteArray), m ≤ ks.length ∧ i = .int .i64 m ∧ ts.length = m ∧ Hid (TxtR ns (ks.take m) ts) ∧ Hid (StrBuf wx w1.heap.size s ts) ∧ Hid (Below w1.heap.size w1 wx)) (fun _ i _ => ks.length - (intOf i).toNat)
  case atStart => exact ⟨0, [], by omega, rfl, rfl, hide (by simpa using TxtR.nil), hide (unhide HE1), hide (nx_alloc _ _)⟩
  case round =>
    clear HE1
    obtain ⟨m, ts, hm, rfl, htm, htx, hSx, hBx⟩ := hrel
    obtain ⟨ps, cs, rfl⟩ := (unhide hSx).slice
    have hsz : w1.heap.size ≤ wr.heap.size := (unhide hBx).size
    have d0' := cellB (unhide hBx) hwb d0
    have d1' := cellB (unhide hBx) hwb d1
    have q4' := cellB (unhide hBx) hbn q4
    by_cases hlt : m < ks.length
    · obtain ⟨bk, ok, hpk, y1⟩ := unhide HQ6 m hlt
      subst hpk
      have hbk : bk < w1.heap.size := World.block_lt_of_cell? _ _ y1
      have y0 := cellB (unhide hBx) hbk y1
      obtain ⟨c, hkc, hcc⟩ := unhide HC m hlt wr.drew (nx_drew (unhide hBx))
      have HCC := hide hcc
      have HTK : Hid (∀ t, TxtR ns [ks[m]] [t] → TxtR ns (ks.take (m + 1)) (ts ++ [t])) := hide (fun t h => by rw [List.take_succ_eq_append_getElem hlt]; exact (unhide htx).append h)
      rw [hkc] at y0 HTK
      have hm0 : (0 : Int) ≤ (m : Int) := Int.natCast_nonneg _
      have hm1 : (m : Int) < (ks.length : Int) := by omega
      have ha0 : (0 : Int) ≤ (a : Int) := Int.natCast_nonneg _
      have ha1 : (a : Int) < (ns.length : Int) := by omega
      have C0 : Hid (wr.cell? ⟨w.heap.size, 0, none⟩ = some (.slice (some ⟨bn, off, none⟩) ns.length L.cap)) := hide d0'
      have C1 : Hid (wr.cell? ⟨w.heap.size, 1, none⟩ = some (.int .i64 (a : Int))) := hide d1'
      have C4 : Hid (wr.cell? ⟨bn, off + a * 5 + 4, none⟩ = some (.slice (some ⟨bk, ok, none⟩) ks.length ck)) := hide q4'
      have CY : Hid (wr.cell? ⟨bk, ok + m, none⟩ = some (.int .i64 (c : Int))) := hide y0
      have hts : ts.length ≤ 1048576 := by omega
      have HTM := hide htm
      clear y1 hkc hcc htx htm HC HSIZE hD HQ6 d0 d1 q4
      go_wp2
      go_region_held3 (fun z => z.cell? ⟨w.heap.size, 0, none⟩ = some (.slice (some ⟨bn, off, none⟩) ns.length L.cap) ∧ z.cell? ⟨w.heap.size, 1, none⟩ = some (.int .i64 (a : Int)) ∧ z.cell? ⟨bn, off + a * 5 + 4, none⟩ = some (.slice (some ⟨bk, ok, none⟩) ks.length ck) ∧ z.cell? ⟨bk, ok + m, none⟩ = some (.int .i64 (c : Int))) (first | go_keep | (go_split_ands; exact ⟨cellB hb3 (by omega) (by assumption), cellB hb3 (by omega) (by assumption), cellB hb3 (by omega) (by assumption), cellB hb3 (by omega) (by assumption)⟩)) ((first | (go_at_call 14; refine (unhide HCC).mono ?_; rintro e y ⟨tj, rfl, htj, hby⟩; have HBY := hide (nx_trans (nx_drew (Below.refl wr.heap.size wr)) hby); have z0 := cell_later (unhide HBY) (unhide C0); have z1 := cell_later (unhide HBY) (unhide C1); have z2 := cell_later (unhide HBY) (unhide C4); have z3 := cell_later (unhide HBY) (unhide CY); have HTJ := hide htj; have hys := (unhide HBY).size; have hn1 : ¬ w.heap.size = y.heap.size := (by omega); have hn2 : ¬ bn = y.heap.size := (by omega); have hn3 : ¬ bk = y.heap.size := (by omega); clear hby htj) | (refine step_appStr _ (by rfl) _ _ (by rfl) w1.heap.size y.heap.size _ ts tj (by rfl) (((unhide hSx).later (unhide HBY)).alloc _) (by rfl) (by simp) (by simp; omega) (by omega) ?_; intro v3 w3 hS3 hb3)))
      have HT3 := hide (unhide HTK tj (unhide HTJ))
      have HS3 := hide hS3
      have HB3 : Hid (Below w1.heap.size w1 w3) := hide (((nx_trans (unhide hBx) (unhide HBY)).alloc (by omega) _).trans hb3)
      clear hS3 hb3
      go_wp2
      go_roundw
      case rel => exact ⟨m + 1, ts ++ [tj], by omega, by go_num, by rw [List.length_append, unhide HTM]; rfl, hide (unhide HT3), hide (unhide HS3), hide (unhide HB3)⟩
      case measure => simp [intOf]; omega
    · have hmm : m = ks.length := by omega
      have HTX : Hid (TxtR ns ks ts) := hide (by
        have := unhide htx
        rw [hmm, List.take_length] at this
        exact this)
      have hlen3 : ts.length ≤ 1048576 := by omega
      obtain ⟨a8, c8, e8, hst⟩ := (unhide hSx).strs
      injection e8 with e8 _ ec8
      subst e8 ec8
      have HJ := hide (l00JoinB_any ps cs ts ⟨#[32]⟩ wr hst hlen3 (by have := unhide HSIZE ts (unhide HTX); omega) (by decide))
      have HF := hide (unhide hD ts (unhide HTX))
      have HB3 := hide ((unhide hB).trans ((unhide hBx).mono (by omega)))
      clear hst hSx hD htx htm hmm HQ6 HC
      generalize joinB ⟨#[32]⟩ ts = jj at HF HJ
      go_wp2_with fail
      refine (unhide HJ).mono ?_
      rintro e wr ⟨rfl, rfl⟩
      go_wp2
      go_ret2
      exact ⟨_, 0, rfl, unhide HF, unhide HB3⟩

end Go.Proofs.YtoehpjignngjlaaDoor
