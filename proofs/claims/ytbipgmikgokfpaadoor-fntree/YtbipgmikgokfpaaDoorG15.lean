/- A bundle. -/
import Derived.Test.YtbipgmikgokfpaaDoorG14
import Derived.Test.YtbipgmikgokfpaaDoorG08
import Derived.Test.YtbipgmikgokfpaaDoorG02
import Derived.BigQuiet
import Derived.Deep.QuietTactic
import Derived.WalkSmall
import Derived.Deep.RegionHeld3

/- TreeW -/
namespace Go.Proofs.YtbipgmikgokfpaaDoor
open Go.RowKit Go.Joins
set_option linter.unusedVariables false

theorem Vis.deep_le {ns : List TN} {ks : List Int} {l : List Nat} {d : Nat} (h : Vis ns ks l d) : d ≤ l.length := by
  induction h with
  | nil => simp
  | cons j x ks l1 l2 d1 d2 h0 hx h1 h2 i1 i2 => simp; omega

set_option maxHeartbeats 2000000 in
set_option maxRecDepth 100000 in
theorem at_zero (a : Option Addr) (len cap : Nat) (n : Nat) (w : World) (hlen : len ≤ 1048576) (hrow : ByteRow w a len) (hn0 : 1 ≤ n) (hn1 : n ≤ 200) :
    Calls Tryd.prog 17 #[.slice a len cap, .int .i64 0, .int .i64 (n : Int)] w fun e w' => ∃ r : Nat, e = .returned (.int .i64 (r : Int)) ∧ r < n ∧ Below w.heap.size w w' := by
  by_cases h1 : n ≤ 1
  · have hi : (n : Int) ≤ 1 := by omega
    go_enter Tryd.func17, Tryd.ntmps17
    go_wp2
    go_ret
    exact ⟨0, rfl, by omega, Below.refl _ _⟩
  have hi : ¬ (n : Int) ≤ 1 := by omega
  have hne : ¬ (n : Int) = 0 := by omega
  by_cases hz : len = 0
  · subst hz
    go_enter Tryd.func17, Tryd.ntmps17
    go_wp2
    go_ret
    exact ⟨0, rfl, by omega, Below.refl _ _⟩
  have e0 : ((len : Int) == 0) = false := beq_eq_false_iff_ne.2 (by omega)
  have hle : ¬ (len : Int) = 0 := by omega
  obtain ⟨b, off, x, rfl, hx, hx0, hx1⟩ := hrow 0 (by omega)
  have hx' : w.cell? ⟨b, off, none⟩ = some (.int .u8 x) := by simpa using hx
  obtain ⟨m, hm1, hm2⟩ : ∃ m : Nat, (Int.tmod 1 (len : Int)) = (m : Int) ∧ m < len := by
    by_cases hl1 : len = 1
    · exact ⟨0, by rw [hl1]; rfl, by omega⟩
    · exact ⟨1, Int.tmod_eq_of_lt (by omega) (by omega), by omega⟩
  obtain ⟨b2, off2, y, hb2, hy, hy0, hy1⟩ := hrow m hm2
  obtain ⟨rfl, rfl⟩ := (by simpa using hb2 : b = b2 ∧ off = off2)
  have hmi : (m : Int) < (len : Int) := by omega
  have hli : (0 : Int) < (len : Int) := by omega
  have w1 : IntKind.i64.wrap x = x := by rw [IntKind.wrap_i64]; omega
  have w2 : IntKind.i64.wrap y = y := by rw [IntKind.wrap_i64]; omega
  have w3 : IntKind.i64.wrap (x * 31) = x * 31 := by rw [IntKind.wrap_i64]; omega
  have w4 : IntKind.i64.wrap (x * 31 + y) = x * 31 + y := by rw [IntKind.wrap_i64]; omega
  have hq : (0 : Int).tdiv (len : Int) = 0 := Int.zero_tdiv _
  have hq0 : (0 : Int).tmod (len : Int) = 0 := Int.zero_tmod _
  have hfin : ∃ r : Nat, (x * 31 + y).tmod (n : Int) = (r : Int) ∧ r < n := by
    refine ⟨((x * 31 + y).tmod (n : Int)).toNat, ?_, ?_⟩
    · have := Int.tmod_nonneg (a := x * 31 + y) (n : Int) (by omega)
      omega
    · have h1 := Int.tmod_nonneg (a := x * 31 + y) (n : Int) (by omega)
      have h2 := Int.tmod_lt_of_pos (x * 31 + y) (show (0 : Int) < (n : Int) by omega)
      omega
  clear hrow hb2 hx
  go_enter Tryd.func17, Tryd.ntmps17
  go_wp2_with fail
  go_quiet (fail)
  go_wp2
  obtain ⟨r, hr1, hr2⟩ := hfin
  go_ret
  exact ⟨r, by rw [← hr1]; simp [Int.tmod_eq_emod_of_nonneg (show 0 ≤ x * 31 + y by omega)], hr2, below_drewN (Below.refl _ _) _⟩

theorem vis_len {ns : List TN} {root : Int} {l lk : List Nat} {d dk k : Nat} (h : TreeP ns root l d) (hk : k < ns.length) (hv : Vis ns [(k : Int)] lk dk) : lk.length ≤ ns.length := by
  obtain ⟨l', d', hv', _, _, hl⟩ := h.2.1.1.sub k (h.2.2.2 k hk)
  rw [(hv.det hv').1]
  have := h.all
  omega
theorem depth_le {ns : List TN} {root : Int} {l : List Nat} {d : Nat} (h : TreeP ns root l d) : d ≤ 200 := by
  have h1 := h.2.1.1.deep_le
  have := h.all
  have := h.1
  omega

set_option maxHeartbeats 8000000 in
set_option maxRecDepth 100000 in
theorem lawTree_any (a0 : Option Addr) (len0 cap0 : Nat) (z0 : List Int) (a1 : Option Addr) (len1 cap1 : Nat) (z1 : List Int) (w : World) (h0 : IsRow .u8 w a0 len0 cap0 z0) (h1 : IsRow .u8 w a1 len1 cap1 z1) (htab0 : Hid (TabAt w 0 srcWords)) :
    Calls Tryd.prog 3 #[.slice a0 len0 cap0, .slice a1 len1 cap1] w fun e w' => e = .returned (.bool true) ∧ Below w.heap.size w w' := by
  have hl0 : len0 ≤ 9223372036854775807 := by
    rcases h0 with ⟨_, rfl, _⟩ | ⟨x, _, h1, h2, _⟩
    · omega
    · unfold maxLen at h2; omega
  have hl1 : len1 ≤ 9223372036854775807 := by
    rcases h1 with ⟨_, rfl, _⟩ | ⟨x, _, h1, h2, _⟩
    · omega
    · unfold maxLen at h2; omega
  have HR0 := hide h0
  have HR1 := hide h1
  clear h0 h1
  by_cases g0 : 1048576 < len0
  · go_enter Tryd.func3, Tryd.ntmps3
    go_wp2
    go_ret
    exact ⟨rfl, Below.refl _ _⟩
  by_cases g1 : 1048576 < len1
  · go_enter Tryd.func3, Tryd.ntmps3
    go_wp2
    go_ret
    exact ⟨rfl, Below.refl _ _⟩
  have HD := hide (TreeDrawn_any a0 len0 cap0 w (by omega) (byteRow_of (unhide HR0)))
  go_enter Tryd.func3, Tryd.ntmps3
  go_wp2_with fail
  refine (unhide HD).mono ?_
  rintro e w1 ⟨ns, root, L, rfl, hN1, hT, hS, hb1⟩
  clear HD
  obtain ⟨l, d, hTP⟩ := hT
  obtain ⟨hr0, hrl, hrn⟩ := hTP.root
  have hnl : ns.length ≤ 200 := hTP.1
  have HT := hide hTP
  have HS := hide hS
  have hwt : Hid (∃ wt : Nat, wt = w1.heap.size) := hide ⟨_, rfl⟩
  obtain ⟨wt, hwt⟩ := unhide hwt
  have HB1 := hide (nx_al (o := .cells #[.slice L.p ns.length L.cap, .int .i64 root] 25) hb1)
  have HN2 := hide (hN1.later (nx_alloc w1 (.cells #[.slice L.p ns.length L.cap, .int .i64 root] 25)))
  have t0 : Hid ((w1.alloc (.cells #[.slice L.p ns.length L.cap, .int .i64 root] 25)).cell? ⟨w1.heap.size, 0, none⟩ = some (.slice L.p ns.length L.cap)) := hide (by simp)
  have t1 : Hid ((w1.alloc (.cells #[.slice L.p ns.length L.cap, .int .i64 root] 25)).cell? ⟨w1.heap.size, 1, none⟩ = some (.int .i64 root)) := hide (by simp)
  have HA := hide (at_zero a1 len1 cap1 ns.length (w1.alloc (.cells #[.slice L.p ns.length L.cap, .int .i64 root] 25)) (by omega) ((byteRow_of (unhide HR1)).later (unhide HB1)) (by omega) hnl)
  clear hN1 hTP hS hb1 hwt HR0 HR1
  go_wp2_with fail
  refine (unhide HA).mono ?_
  rintro e w2 ⟨k, rfl, hk, hb2⟩
  have htab : Hid (TabAt w2 0 srcWords) := hide (((unhide htab0).later (unhide HB1)).later hb2)
  have HNx := hide ((unhide HN2).later hb2)
  have s0 := cell_later hb2 (unhide t0)
  have s1 := cell_later hb2 (unhide t1)
  have HBx := hide (nx_trans (unhide HB1) hb2)
  generalize w1.heap.size = wt at s0 s1 ⊢
  clear HA hb2 HN2 t0 t1 HB1 htab0
  have hki : (k : Int) < (ns.length : Int) := by omega
  have hk0 : (0 : Int) ≤ (k : Int) := Int.natCast_nonneg _
  obtain ⟨bn, off, hp, q0, q1, q2, q3, q4, q5, q6⟩ := unhide HNx k hk
  rw [hp] at s0 ⊢
  -- ParentOf
  have HC := hide (implParentOf_any ns root (k : Int) L w2 (unhide HNx) (unhide HS) htab)
  rw [hp] at HC
  go_wp2_with fail
  refine (unhide HC).mono ?_
  rintro e w3 ⟨pr, pc, rfl, hpar, hb3⟩
  have s30 := cell_later hb3 s0
  have s31 := cell_later hb3 s1
  have HPAR := hide hpar
  have HB3 := hide hb3
  have HC := hide (implSizeOf_any ns root (k : Int) L w3 ((unhide HNx).later hb3) (unhide HS) (hide ((unhide htab).later hb3)))
  rw [hp] at HC
  clear hpar hb3
  go_wp2_with fail
  refine (unhide HC).mono ?_
  rintro e w4 ⟨sr, sc, rfl, hsz, hb4⟩
  have s40 := cell_later hb4 s30
  have s41 := cell_later hb4 s31
  have HB4 := hide (nx_trans (unhide HB3) hb4)
  obtain ⟨lk, dk, hvk, hsr, hsc⟩ : ∃ lk dk, Vis ns [(k : Int)] lk dk ∧ sr = (lk.length : Int) ∧ sc = 0 := by
    rcases hsz with ⟨h, _⟩ | ⟨_, h, _⟩ | ⟨_, _, ⟨lk, dk, hv, h1⟩, h2⟩
    · exact absurd ⟨_, _, unhide HT⟩ h
    · exact absurd ⟨hk0, hki⟩ h
    · exact ⟨lk, dk, hv, h1, h2⟩
  subst hsr
  subst hsc
  have HVK := hide hvk
  have HC := hide (implPathTo_in ns root k L w4 ((unhide HNx).later (unhide HB4)) (unhide HS) (hide ((unhide htab).later (unhide HB4))) hk)
  rw [hp] at HC
  clear hsz hb4 hvk s30 s31 HB3
  go_wp2_with fail
  refine (unhide HC).mono ?_
  rintro e w5 ⟨hb5, hpath⟩
  obtain ⟨pv, zs, rfl, hpi, hib⟩ : ∃ v zs, e = .returned (.tuple #[v, .int .i64 0]) ∧ PathIs ns root k zs ∧ IntBuf w5 w4.heap.size v zs := by
    rcases hpath with ⟨_, h⟩ | h
    · exact absurd ⟨_, _, unhide HT⟩ h
    · exact h
  obtain ⟨hz1, hz2, hz3, hz4⟩ := hpi.ends (unhide HT) hr0
  have HPI := hide hpi
  have s50 := cell_later hb5 s40
  have s51 := cell_later hb5 s41
  have HB5 := hide (nx_trans (unhide HB4) hb5)
  have hzl : zs.length ≤ 200 := by have := (unhide HT).all; have := (unhide HT).2.1.1; have h5 := hz4; have := depth_le (unhide HT); omega
  obtain ⟨pb, pcap, hpv⟩ : ∃ pb pcap, pv = .slice (some ⟨pb, 0, none⟩) zs.length pcap := by
    rcases hib.2 with ⟨_, h⟩ | ⟨g, cap, cur, e, _⟩
    · omega
    · exact ⟨g, cap, e⟩
  subst hpv
  have HIB := hide hib
  have HC := hide (implTreeDepth_any ns root L w5 ((unhide HNx).later (unhide HB5)) (unhide HS) (hide ((unhide htab).later (unhide HB5))))
  rw [hp] at HC
  clear hpath hib hpi hb5 s40 s41 HB4
  go_wp2_with fail
  refine (unhide HC).mono ?_
  rintro e w6 ⟨dr, dc, rfl, hdp, hb6⟩
  have s60 := cell_later hb6 s50
  have s61 := cell_later hb6 s51
  have HB6 := hide (nx_trans (unhide HB5) hb6)
  have HIB6 := hide ((unhide HIB).later hb6)
  obtain ⟨hdr, hdc⟩ : dr = (d : Int) ∧ dc = 0 := by
    rcases hdp with ⟨h, _⟩ | ⟨l', d', hT', h1, h2⟩
    · exact absurd ⟨_, _, unhide HT⟩ h
    · obtain ⟨_, rfl⟩ := (unhide HT).det hT'
      exact ⟨h1, h2⟩
  subst hdr
  subst hdc
  have HC := hide (implSizeOf_any ns root root L w6 ((unhide HNx).later (unhide HB6)) (unhide HS) (hide ((unhide htab).later (unhide HB6))))
  rw [hp] at HC
  clear hdp hb6 s50 s51 HB5 HIB
  go_wp2_with fail
  refine (unhide HC).mono ?_
  rintro e w7 ⟨ar, ac, rfl, hall, hb7⟩
  have s70 := cell_later hb7 s60
  have s71 := cell_later hb7 s61
  have HB7 := hide (nx_trans (unhide HB6) hb7)
  have hib7 := (unhide HIB6).later hb7
  obtain ⟨har, hac⟩ : ar = (ns.length : Int) ∧ ac = 0 := by
    rcases hall with ⟨h, _⟩ | ⟨_, h, _⟩ | ⟨_, _, ⟨lk, dk, hv, h1⟩, h2⟩
    · exact absurd ⟨_, _, unhide HT⟩ h
    · exact absurd ⟨hr0, by omega⟩ h
    · have := (unhide HT).2.1.1.det hv
      rw [h1, ← this.1, (unhide HT).all]
      exact ⟨rfl, h2⟩
  subst har
  subst hac
  have p0 : w7.cell? ⟨pb, 0, none⟩ = some (.int .i64 root) := by
    have := hib7.get 0 hz1
    rw [List.getElem?_eq_getElem hz1] at hz2
    rw [Option.some.inj hz2] at this; exact this
  have pk : w7.cell? ⟨pb, zs.length - 1, none⟩ = some (.int .i64 (k : Int)) := by
    have := hib7.get (zs.length - 1) (by omega)
    rw [List.getElem?_eq_getElem (by omega)] at hz3
    rw [Option.some.inj hz3] at this; exact this
  have HIB7 := hide hib7
  clear hall hb7 s60 s61 HB6 HIB6 hib7 hz2 hz3 HC
  obtain ⟨z, hzz⟩ : ∃ z, zs.length - 1 = z := ⟨_, rfl⟩
  rw [hzz] at pk
  obtain ⟨zl, hzl2⟩ : ∃ zl, zs.length = zl := ⟨_, rfl⟩
  rw [hzl2] at hz4 hzl hzz hz1 ⊢
  have hzi : (0 : Int) < (zl : Int) := by omega
  have hzm : (z : Int) < (zl : Int) := by omega
  have hz0 : (0 : Int) ≤ (z : Int) := Int.natCast_nonneg _
  have hze : ((zl : Int) == 0) = false := beq_eq_false_iff_ne.2 (by omega)
  have hzw : IntKind.i64.wrap ((zl : Int) - 1) = (z : Int) := by rw [IntKind.wrap_i64]; omega
  have hzd : ¬ (d : Int) < (zl : Int) := by omega
  have HZZ := hide (And.intro hzz hzl2)
  clear hzz hzl2 hz1 hz4
  go_wp2_with fail
  go_quiet (fail)
  clear hze hzw pk p0 hzi hzm
  have hkl : ns[k].kids.length ≤ 1048576 := ((unhide HS).2 ns[k] (List.getElem_mem hk)).2.2.1
  obtain ⟨y0, lk1, lk2, dk1, dk2, _, hy, hv1, hv2, hlk, _⟩ := (unhide HVK).inv
  cases hv2
  rw [Int.toNat_natCast, List.getElem?_eq_getElem hk] at hy
  obtain rfl := Option.some.inj hy
  have HV1 := hide hv1
  have hlkl : lk.length = 1 + lk1.length := by rw [hlk]; simp; omega
  have hlkn : lk.length ≤ 200 := by have := vis_len (unhide HT) hk (unhide HVK); omega
  have HPK : Hid (∀ j ∈ ns[k].kids, ∃ c : Nat, j = (c : Int) ∧ c < ns.length ∧ Par ns k c) := hide (fun j hj => by
    obtain ⟨hj0, hjm⟩ := hv1.tops j hj
    exact ⟨j.toNat, by omega, hv1.lt _ hjm, ns[k], List.getElem?_eq_getElem hk, j, hj, hj0, rfl⟩)
  clear hlk hv1
  generalize hks : ns[k].kids = ks at q4 q6 hkl HV1 HPK
  have HQ6 := hide q6
  clear q0 q1 q2 q3 q5 q6 hks
  generalize L.pk k = pk at q4 HQ6
  generalize L.ck k = ck at q4
  have q74 := cell_later (unhide HB7) q4
  have W7 : Hid (Below w2.heap.size w2 (w7.drewN nq)) := hide (below_drewN (unhide HB7) nq)
  have r0 : Hid ((w7.drewN nq).cell? ⟨wt, 0, none⟩ = some (.slice (some ⟨bn, off, none⟩) ns.length L.cap)) := hide s70
  have r1 : Hid ((w7.drewN nq).cell? ⟨wt, 1, none⟩ = some (.int .i64 root)) := hide s71
  have r4 : Hid ((w7.drewN nq).cell? ⟨bn, off + k * 5 + 4, none⟩ = some (.slice pk ks.length ck)) := hide q74
  have HI7 : Hid (IntBuf (w7.drewN nq) w4.heap.size (.slice (some ⟨pb, 0, none⟩) zs.length pcap) zs) := hide ((unhide HIB7).later (below_drewN (Below.refl _ _) nq))
  clear q4 q74 s70 s71 HB7 HIB7
  generalize w7.drewN nq = w8 at W7 r0 r1 r4 HI7 ⊢
  go_wp2
  clear hzd
  go_loopw [17, 18] (fun sm i wx => ∃ (m : Nat) (lm : List Nat) (dm : Nat), m ≤ ks.length ∧ i = .int .i64 m ∧ sm = .int .i64 (1 + (lm.length : Int)) ∧ lm.length ≤ lk1.length ∧ Hid (Vis ns (ks.take m) lm dm) ∧ Hid (Below w8.heap.size w8 wx)) (fun _ i _ => ks.length - (intOf i).toNat)
  case atStart => exact ⟨0, [], 0, by omega, rfl, rfl, by simp, hide (by simpa using Vis.nil), hide (Below.refl _ _)⟩
  case round =>
    obtain ⟨m, lm, dm, hm, rfl, rfl, hlm, hvm, hBx⟩ := hrel
    have tr0 := cell_later (unhide hBx) (unhide r0)
    have tr1 := cell_later (unhide hBx) (unhide r1)
    have qr4 := cell_later (unhide hBx) (unhide r4)
    have HBr := hide (nx_trans (unhide W7) (unhide hBx))
    have hm0 : (0 : Int) ≤ (m : Int) := Int.natCast_nonneg _
    by_cases hlt : m < ks.length
    · have hmi : (m : Int) < (ks.length : Int) := by omega
      obtain ⟨bk, ok, hpk, y1⟩ := unhide HQ6 m hlt
      subst hpk
      obtain ⟨j, hjc, hjl, hjp⟩ := unhide HPK ks[m] (List.getElem_mem hlt)
      have hj : Hid (ks[m]? = some ks[m]) := hide (List.getElem?_eq_getElem hlt)
      obtain ⟨lj, dj, vj, hljl, hdj, hj0, hll⟩ := (unhide HV1).at (unhide hj)
      have hnv := hide ((unhide hvm).take_succ (unhide hj) vj)
      have hle2 : (lm ++ lj).length ≤ lk1.length := (unhide HV1).take_len (m + 1) (unhide hnv)
      have hap : (lm ++ lj).length = lm.length + lj.length := List.length_append
      have HVJ := hide vj
      have yr := cell_later (unhide HBr) y1
      rw [hjc] at yr
      rw [hjc] at HVJ
      have HJP := hide hjp
      clear vj hj hljl hdj hll y1 hjc hj0 hjp
      have hji : (j : Int) < (ns.length : Int) := by omega
      have F0 := hide (show wr.drew.cell? ⟨wt, 0, none⟩ = some (.slice (some ⟨bn, off, none⟩) ns.length L.cap) from tr0)
      have F1 := hide (show wr.drew.cell? ⟨wt, 1, none⟩ = some (.int .i64 root) from tr1)
      have F2 := hide (show wr.drew.cell? ⟨bn, off + k * 5 + 4, none⟩ = some (.slice (some ⟨bk, ok, none⟩) ks.length ck) from qr4)
      have F3 := hide (show wr.drew.cell? ⟨bk, ok + m, none⟩ = some (.int .i64 (j : Int)) from yr)
      have HCD := hide (implSizeOf_any ns root (j : Int) L wr.drew ((unhide HNx).later (nx_drew (unhide HBr))) (unhide HS) (hide ((unhide htab).later (nx_drew (unhide HBr)))))
      rw [hp] at HCD
      go_wp2
      go_region_held3 (fun z => z.cell? ⟨wt, 0, none⟩ = some (.slice (some ⟨bn, off, none⟩) ns.length L.cap) ∧ z.cell? ⟨wt, 1, none⟩ = some (.int .i64 root) ∧ z.cell? ⟨bn, off + k * 5 + 4, none⟩ = some (.slice (some ⟨bk, ok, none⟩) ks.length ck) ∧ z.cell? ⟨bk, ok + m, none⟩ = some (.int .i64 (j : Int))) (go_keep) ((go_at_call 19; refine (unhide HCD).mono ?_; rintro e we ⟨mr, mc, rfl, hsz, hby⟩; have ze0 := cell_later hby (unhide F0); have ze1 := cell_later hby (unhide F1); have ze2 := cell_later hby (unhide F2); have ze3 := cell_later hby (unhide F3); have RSZ := hide hsz; have HBY := hide hby; clear hby hsz))
      obtain ⟨hmr, hmc⟩ : mr = (lj.length : Int) ∧ mc = 0 := by
        rcases unhide RSZ with ⟨h, _⟩ | ⟨_, h, _⟩ | ⟨_, _, ⟨l2, d2, hv, h1⟩, h2⟩
        · exact absurd ⟨_, _, unhide HT⟩ h
        · exact absurd ⟨by omega, hji⟩ h
        · rw [h1, (hv.det (unhide HVJ)).1]; exact ⟨rfl, h2⟩
      subst hmr
      subst hmc
      have HBe : Hid (Below w2.heap.size w2 we) := hide (nx_trans (nx_drew (unhide HBr)) (unhide HBY))
      have HBx2 : Hid (Below w8.heap.size w8 we) := hide (nx_trans (nx_drew (unhide hBx)) (unhide HBY))
      clear HCD RSZ HBY F0 F1 F2 F3 tr0 tr1 qr4 yr hBx HBr
      have G0 := hide (show we.drew.cell? ⟨wt, 0, none⟩ = some (.slice (some ⟨bn, off, none⟩) ns.length L.cap) from ze0)
      have G1 := hide (show we.drew.cell? ⟨wt, 1, none⟩ = some (.int .i64 root) from ze1)
      have G2 := hide (show we.drew.cell? ⟨bn, off + k * 5 + 4, none⟩ = some (.slice (some ⟨bk, ok, none⟩) ks.length ck) from ze2)
      have G3 := hide (show we.drew.cell? ⟨bk, ok + m, none⟩ = some (.int .i64 (j : Int)) from ze3)
      have HCE := hide (implParentOf_any ns root (j : Int) L we.drew ((unhide HNx).later (nx_drew (unhide HBe))) (unhide HS) (hide ((unhide htab).later (nx_drew (unhide HBe)))))
      rw [hp] at HCE
      go_wp2
      go_region_held3 (fun z => z.cell? ⟨wt, 0, none⟩ = some (.slice (some ⟨bn, off, none⟩) ns.length L.cap) ∧ z.cell? ⟨wt, 1, none⟩ = some (.int .i64 root) ∧ z.cell? ⟨bn, off + k * 5 + 4, none⟩ = some (.slice (some ⟨bk, ok, none⟩) ks.length ck) ∧ z.cell? ⟨bk, ok + m, none⟩ = some (.int .i64 (j : Int))) (go_keep) ((go_at_call 18; refine (unhide HCE).mono ?_; rintro e wf ⟨qr, qc, rfl, hpa, hby⟩; have zf0 := cell_later hby (unhide G0); have zf1 := cell_later hby (unhide G1); have zf2 := cell_later hby (unhide G2); have zf3 := cell_later hby (unhide G3); have RPA := hide hpa; have HBZ := hide hby; clear hby hpa))
      obtain ⟨hqr, hqc⟩ : qr = (k : Int) ∧ qc = 0 := by
        rcases unhide RPA with ⟨h, _⟩ | ⟨_, h, _⟩ | ⟨_, _, h, _⟩ | ⟨_, _, _, ⟨x, hx, h1⟩, h2⟩
        · exact absurd ⟨_, _, unhide HT⟩ h
        · exact absurd ⟨by omega, hji⟩ h
        · exact absurd (by rw [← h, Int.toNat_natCast]; exact unhide HJP) (unhide HT).noPar
        · rw [Int.toNat_natCast] at hx
          rw [h1, (unhide HT).uniq (unhide HJP) hx]; exact ⟨rfl, h2⟩
      subst hqr
      subst hqc
      have HBf : Hid (Below w8.heap.size w8 wf) := hide (nx_trans (nx_drew (unhide HBx2)) (unhide HBZ))
      have hkk : ((k : Int) != (k : Int)) = false := by simp
      clear HCE RPA HBZ G0 G1 G2 G3 ze0 ze1 ze2 ze3 zf0 zf1 zf2 zf3 HBx2 HBe
      go_wp2
      go_roundw
      case rel => exact ⟨m + 1, lm ++ lj, _, by omega, by go_num, by rw [hap]; go_num, hle2, hide (unhide hnv), hide (unhide HBf)⟩
      case measure => simp [intOf]; omega
    · have hmi : ¬ (m : Int) < (ks.length : Int) := by omega
      have hlml : lm.length = lk1.length := by
        have hv := unhide hvm
        rw [List.take_of_length_le (by omega)] at hv
        rw [(hv.det (unhide HV1)).1]
      have hsum : (1 : Int) + (lm.length : Int) = (lk.length : Int) := by omega
      rw [hsum]
      have HI8 := hide ((unhide HI7).later (unhide hBx))
      have U0 := hide tr0
      have U1 := hide tr1
      clear hlml hsum hvm hlm hBx HI7 HQ6 HPK HV1 r0 r1 r4 W7
      go_wp2
      clear qr4 tr0 tr1 hmi hm hm0
      obtain ⟨wq, hwq⟩ : ∃ q, q = wr := ⟨_, rfl⟩
      subst hwq
      go_loopw [23, 24] (fun sm i wy => ∃ c : Nat, c ≤ 20 ∧ i = .int .i64 ((c : Int) + 1) ∧ sm = .int .i64 ((cntUp ns c : Nat) : Int) ∧ Hid (Below wq.heap.size wq wy)) (fun _ i _ => 21 - (intOf i).toNat)
      case atStart => exact ⟨0, by omega, by simp, by simp [cntUp], hide (Below.refl _ _)⟩
      case round =>
        obtain ⟨c, hc, rfl, rfl, hBy⟩ := hrel
        have v0 := cell_later (unhide hBy) (unhide U0)
        have v1 := cell_later (unhide hBy) (unhide U1)
        have HBv := hide (nx_trans (unhide HBr) (unhide hBy))
        have hcu := cntUp_le ns c
        by_cases hlt2 : c < 20
        · have hci : (c : Int) + 1 ≤ 20 := by omega
          have HCC := hide (implCountKind_any ns root ((c : Int) + 1) L wr ((unhide HNx).later (unhide HBv)) (unhide HS) (hide ((unhide htab).later (unhide HBv))))
          rw [hp] at HCC
          go_wp2_with fail
          refine (unhide HCC).mono ?_
          rintro e wg ⟨cr, cc, rfl, hcr, hbg⟩
          obtain ⟨h1, h2⟩ : cr = (cntT ns ((c : Int) + 1) : Int) ∧ cc = 0 := by
            rcases hcr with ⟨h, _⟩ | ⟨_, h, _⟩ | ⟨_, _, h1, h2⟩
            · exact absurd ⟨_, _, unhide HT⟩ h
            · exact absurd ⟨by omega, hci⟩ h
            · exact ⟨h1, h2⟩
          subst h1
          subst h2
          have hnx : cntUp ns (c + 1) = cntUp ns c + cntT ns ((c : Int) + 1) := rfl
          have hcu2 := cntUp_le ns (c + 1)
          have HBg := hide (nx_trans (unhide hBy) hbg)
          clear hcr hbg HCC
          generalize cntT ns ((c : Int) + 1) = ct at hnx ⊢
          go_wp2
          go_roundw
          case rel => exact ⟨c + 1, by omega, by go_num, by rw [hnx]; go_num, hide (unhide HBg)⟩
          case measure => simp [intOf]; omega
        · have hci : ¬ (c : Int) + 1 ≤ 20 := by omega
          have hcn : ((cntUp ns c : Nat) : Int) = (ns.length : Int) := by rw [show c = 20 by omega, (unhide HT).kinds]
          rw [hcn]
          have HI9 := hide ((unhide HI8).later (unhide hBy))
          have HBZ : Hid (Below w.heap.size w wr) := hide (nx_trans (unhide HBx) (unhide HBv))
          clear hcu hcn hBy
          by_cases hkr : (k : Int) = root
          · obtain ⟨h1, h2⟩ : pr = 0 ∧ pc = 5 := by
              rcases unhide HPAR with ⟨h, _⟩ | ⟨_, h, _⟩ | ⟨_, _, _, h1, h2⟩ | ⟨_, _, h, _⟩
              · exact absurd ⟨_, _, unhide HT⟩ h
              · exact absurd ⟨hk0, hki⟩ h
              · exact ⟨h1, h2⟩
              · exact absurd hkr h
            subst h1
            subst h2
            have e1 : ((k : Int) == root) = true := by simp [hkr]
            clear hkr
            go_wp2
            go_ret
            exact ⟨rfl, unhide HBZ⟩
          · obtain ⟨x, hx, h1, h2⟩ : ∃ x : Nat, Par ns x k ∧ pr = (x : Int) ∧ pc = 0 := by
              rcases unhide HPAR with ⟨h, _⟩ | ⟨_, h, _⟩ | ⟨_, _, h, _⟩ | ⟨_, _, _, ⟨x, hx, h1⟩, h2⟩
              · exact absurd ⟨_, _, unhide HT⟩ h
              · exact absurd ⟨hk0, hki⟩ h
              · exact absurd h hkr
              · exact ⟨x, by simpa using hx, h1, h2⟩
            subst h1
            subst h2
            obtain ⟨hy1, hy2⟩ := (unhide HPI).parent hkr hr0 hx
            have e1 : ((k : Int) == root) = false := beq_eq_false_iff_ne.2 hkr
            have px : wr.cell? ⟨pb, zs.length - 2, none⟩ = some (.int .i64 (x : Int)) := by
              have := (unhide HI9).get (zs.length - 2) (by omega)
              rw [List.getElem?_eq_getElem (by omega)] at hy2
              rw [Option.some.inj hy2] at this; exact this
            obtain ⟨_, hzl2⟩ := unhide HZZ
            rw [hzl2] at px hy1
            obtain ⟨y, hyy⟩ : ∃ y, zl - 2 = y := ⟨_, rfl⟩
            rw [hyy] at px
            have hyi : (1 : Int) < (zl : Int) := by omega
            have hym : (y : Int) < (zl : Int) := by omega
            have hy0 : (0 : Int) ≤ (y : Int) := Int.natCast_nonneg _
            have hyw : IntKind.i64.wrap ((zl : Int) - 2) = (y : Int) := by rw [IntKind.wrap_i64]; omega
            clear hkr hx hy2 hy1 hyy hzl2
            go_wp2
            go_ret
            exact ⟨rfl, unhide HBZ⟩

end Go.Proofs.YtbipgmikgokfpaaDoor
