/- The builtin 'str', the code's side; values read back from how they are written, in plain lists. -/
import Derived.Test.YtckdacbopejdmaaDoorVText1
import Derived.Test.YtckdacbopejdmaaDoorBuiltin2
import Derived.Test.YtckdacbopejdmaaDoorReadWalk
import Derived.Test.YtckdacbopejdmaaDoorQText
namespace Go.Proofs.YtckdacbopejdmaaDoor
open Go.RowKit
set_option linter.unusedVariables false

set_option maxHeartbeats 2000000 in
theorem Builtin_runS (nm : ByteArray) (vs : List V3) (b cap : Nat) (c : Int) (tk : ByteArray) (r : Res) (w : World) (hn : nm.size ≤ 65536) (hl : vs.length ≤ 4096) (hargs : ArgsAt w b vs) (hok : ∀ v ∈ vs, okV v)
    (hcnt : Hid (∀ w, Calls Tryd.prog 17 #[.string nm] w fun e w' => e = .returned (.tuple #[.int .i64 c, .int .i64 0]) ∧ w' = w)) (hlen : (((vs.length : Int)) != c) = false)
    (htk : Hid (∀ w, Calls Tryd.prog 49 #[.string nm] w fun e w' => e = .returned (.string tk) ∧ w' = w))
    (hfit : Hid (∀ w, ArgsAt w b vs → Calls Tryd.prog 48 #[.string tk, .slice (some ⟨b, 0, none⟩) vs.length cap] w fun e w' => e = .returned (.bool true) ∧ Below w.heap.size w w'))
    (hT : PowTab w)
    (hcall : Hid (∀ w, ArgsAt w b vs → PowTab w → Calls Tryd.prog 50 #[.string nm, .slice (some ⟨b, 0, none⟩) vs.length cap] w fun e w' => e = .returned (.tuple #[.agg #[.int .i64 r.k, .int .i64 r.n, .string r.t], .int .i64 r.c]) ∧ Below w.heap.size w w')) :
    Calls Tryd.prog 16 #[.string nm, .slice (some ⟨b, 0, none⟩) vs.length cap] w fun e w' => e = .returned (.tuple #[.agg #[.int .i64 r.k, .int .i64 r.n, .string r.t], .int .i64 r.c]) ∧ Below w.heap.size w w' := by
  have HA := hide hargs
  have HK := hide hok
  have HT := hide hT
  clear hargs hok hT
  go_enter Tryd.func16, Tryd.ntmps16
  go_wp2
  go_loopw [21] (fun i wx => ∃ k : Nat, k ≤ vs.length ∧ i = .int .i64 k ∧ Below (w.heap.size + 1) (w.alloc Z24) wx) (fun i _ => vs.length - (intOf i).toNat)
  case atStart => exact ⟨0, by omega, rfl, Below.refl _ _⟩
  case round =>
    obtain ⟨k, hk, rfl, hnx⟩ := hrel
    by_cases hlt : k < vs.length
    · obtain ⟨q0, q1, q2⟩ := args_z24 (unhide HA) hnx k hlt
      obtain ⟨hv, hsz⟩ := unhide HK vs[k] (List.getElem_mem hlt)
      generalize vs[k].k = vk at q0 hv
      generalize vs[k].n = vn at q1 hv
      generalize vs[k].t = vt at q2 hv hsz
      go_wp2_with fail
      refine (ValueOK_any vk vn vt _ hsz).mono ?_
      rintro e w1 ⟨rfl, hb1⟩
      go_wp2
      go_roundw
      case rel => exact ⟨k + 1, by omega, by go_num, z24_trans (z24_trans hnx (nx_alloc _ _)) hb1⟩
      case measure => simp [intOf]; omega
    · obtain ⟨hc, hf, hz⟩ := z24_cells hnx
      clear hc hf
      go_wp2_with fail
      refine (unhide hcnt _).mono ?_
      rintro e wr ⟨rfl, rfl⟩
      go_wp2_with fail
      refine (unhide htk _).mono ?_
      rintro e wr ⟨rfl, rfl⟩
      go_wp2_with fail
      refine (unhide hfit _ (args_z24 (unhide HA) hnx)).mono ?_
      rintro e w1 ⟨rfl, hb1⟩
      have hnx1 := z24_trans hnx hb1
      go_wp2_with fail
      refine (unhide hcall _ (args_z24 (unhide HA) hnx1) ((unhide HT).later (z24_out hnx1) (Nat.le_refl _))).mono ?_
      rintro e w2 ⟨rfl, hb2⟩
      have hnx2 := z24_trans hnx1 hb2
      obtain ⟨hc, hf, hz⟩ := z24_cells hnx2
      go_wp2
      exact bodyPost_ret (v := (.tuple #[.agg #[.int .i64 r.k, .int .i64 r.n, .string r.t], .int .i64 r.c])) (by simp [results, Tryd.results16, go_sem, hc]) rfl ⟨rfl, nx_set (nx_set (nx_set (z24_out hnx2) (Nat.le_refl _)) (Nat.le_refl _)) (Nat.le_refl _)⟩

set_option maxHeartbeats 1000000 in
theorem callBuiltin_strS (nm : ByteArray) (b cap : Nat) (ka na : Int) (ta : ByteArray) (hv : vokB ka na ta = true) (w : World) (hn : nm.toList = [115, 116, 114]) (q0 : w.cell? ⟨b, 0, none⟩ = some (.int .i64 ka)) (q1 : w.cell? ⟨b, 1, none⟩ = some (.int .i64 na)) (q2 : w.cell? ⟨b, 2, none⟩ = some (.string ta)) (hT : PowTab w) :
    Calls Tryd.prog 50 #[.string nm, .slice (some ⟨b, 0, none⟩) 1 cap] w fun e w' => e = .returned (.tuple #[.agg #[.int .i64 3, .int .i64 0, .string (vtextB ka na ta)], .int .i64 0]) ∧ Below w.heap.size w w' := by
  have HT := hide hT
  clear hT
  have p0 : ∀ o, (w.alloc o).cell? ⟨b, 0, none⟩ = some (.int .i64 ka) := fun o => cell_later (nx_alloc _ _) q0
  have p1 : ∀ o, (w.alloc o).cell? ⟨b, 1, none⟩ = some (.int .i64 na) := fun o => cell_later (nx_alloc _ _) q1
  have p2 : ∀ o, (w.alloc o).cell? ⟨b, 2, none⟩ = some (.string ta) := fun o => cell_later (nx_alloc _ _) q2
  have hE := ne_pair (World.block_lt_of_cell? _ _ q0)
  go_enter Tryd.func50, Tryd.ntmps50
  go_wp2_with fail
  refine (textOf_any ka na ta _ hv ((unhide HT).later (nx_alloc _ _) (Nat.le_refl _))).mono ?_
  rintro e w1 ⟨rfl, hb1⟩
  obtain ⟨hc1, hf1⟩ := bcell hb1
  have hz1 : w.heap.size < w1.heap.size := by have := hb1.size; first | omega | (simp at this; omega)
  go_wp2_with fail
  refine (textValue_agg _ _).mono ?_
  rintro e w2 ⟨rfl, hb2⟩
  obtain ⟨hc2, hf2⟩ := bcell hb2
  have hz2 : w.heap.size < w2.heap.size := by have := hb2.size; omega
  go_wp2
  exact bodyPost_ret (v := (.tuple #[.agg #[.int .i64 3, .int .i64 0, .string (vtextB ka na ta)], .int .i64 0])) (by simp [results, Tryd.results50, go_sem, hc1, hc2, hz1]) rfl ⟨rfl, (by repeat (first | exact Below.refl _ _ | refine nx_al ?_ | refine nx_set ?_ (by first | omega | (simp <;> omega)) | refine nx_drew ?_ | refine nx_trans ?_ (by assumption)))⟩

theorem fit_vS (k : Int) (c : Int) (hc : c = 118) : fitC c k := by subst hc; exact ⟨by omega, by omega⟩
theorem Builtin_str (k n : Int) (t : ByteArray) (b cap : Nat) (w : World) (hv : vokB k n t = true) (hs : t.size ≤ 60) (hA : ArgsAt w b [⟨k, n, t⟩]) (hT : PowTab w) :
    Calls Tryd.prog 16 #[.string ⟨#[115, 116, 114]⟩, .slice (some ⟨b, 0, none⟩) 1 cap] w fun e w' => e = .returned (.tuple #[.agg #[.int .i64 3, .int .i64 0, .string (vtextB k n t)], .int .i64 0]) ∧ Below w.heap.size w w' := by
  have hx : (⟨#[115, 116, 114]⟩ : ByteArray).toList = [115, 116, 114] := by rw [ByteArray.toList_eq]
  have hz : (⟨#[115, 116, 114]⟩ : ByteArray).size ≤ 65536 := by decide
  have hok : ∀ v ∈ [(⟨k, n, t⟩ : V3)], okV v := fun v hm => by
    simp at hm
    subst hm
    exact ⟨hv, by show t.size ≤ maxLen; unfold maxLen; omega⟩
  exact Builtin_runS ⟨#[115, 116, 114]⟩ [⟨k, n, t⟩] b cap 1 ⟨#[118]⟩ (textR (vtextB k n t)) w hz (by simp) hA hok
    (hide fun w => BuiltinCount_str _ w hz hx) (by simp) (hide fun w => takes_str _ w hx)
    (hide fun w hA => kindsFit_yes ⟨#[118]⟩ _ b cap w rfl (by simp) hA (fun i h h' => by
      obtain rfl : i = 0 := by simp at h; omega
      exact fit_vS _ _ rfl)) hT
    (hide fun w hA hT => callBuiltin_strS _ b cap k n t hv w hx (hA 0 (by simp)).1 (hA 0 (by simp)).2.1 (hA 0 (by simp)).2.2 hT)

theorem scanQ_esc_run' (t r : List UInt8) (h : t.all okC = true) : scanQ (t.flatMap escC ++ 39 :: r) = some (t, r) := by
  induction t with
  | nil => exact scanQ_end r
  | cons c t ih =>
    simp only [List.all_cons, Bool.and_eq_true] at h
    rw [List.flatMap_cons]
    unfold escC
    by_cases hc : c = 39 ∨ c = 92
    · rw [if_pos hc, List.append_assoc]
      show scanQ (92 :: c :: (t.flatMap escC ++ 39 :: r)) = _
      rw [scanQ_esc _ _ hc, ih h.2]; rfl
    · rw [if_neg hc, List.append_assoc]
      show scanQ (c :: (t.flatMap escC ++ 39 :: r)) = _
      rw [scanQ_plain _ _ (fun e => hc (.inl e)) (fun e => hc (.inr e)) h.1, ih h.2]; rfl
theorem quoteL_len' (l : List UInt8) : (quoteL l).length ≤ 2 * l.length + 2 := by
  have : ∀ l : List UInt8, (l.flatMap escC).length ≤ 2 * l.length := by
    intro l
    induction l with
    | nil => simp
    | cons c l ih =>
      rw [List.flatMap_cons, List.length_append]
      have : (escC c).length ≤ 2 := by unfold escC; split <;> simp
      rw [List.length_cons]; omega
  have := this l
  unfold quoteL
  simp only [List.length_cons, List.length_append, List.length_nil]; omega
theorem dec_ok : ∀ (m n : Nat), n ≤ m → (Lib.decDigits n ≠ [] ∧ (∀ c ∈ Lib.decDigits n, dgt c = true) ∧ (1 < (Lib.decDigits n).length → (Lib.decDigits n).head? ≠ some 48) ∧ valL (Lib.decDigits n) = (n : Int) ∧ (0 < n → (Lib.decDigits n).head? ≠ some 48)) := by
  have hdg : ∀ r, r < 10 → dgt (UInt8.ofNat (48 + r)) = true ∧ (UInt8.ofNat (48 + r)).toNat = 48 + r := fun r hr => by
    have e : (UInt8.ofNat (48 + r)).toNat = 48 + r := by rw [UInt8.toNat_ofNat']; omega
    refine ⟨?_, e⟩
    simp only [dgt, digB, e, Bool.and_eq_true, decide_eq_true_iff]
    omega
  intro m
  induction m with
  | zero =>
    intro n hn
    obtain rfl : n = 0 := by omega
    rw [dec_small (by omega)]
    refine ⟨by simp, fun c hc => ?_, fun h => by simp at h, by simp [valL], fun h => by omega⟩
    simp at hc; subst hc; decide
  | succ m ih =>
    intro n hn
    by_cases h : n < 10
    · rw [dec_small h]
      refine ⟨by simp, fun c hc => ?_, fun h => by simp at h, ?_, fun h0 he => ?_⟩
      · simp only [List.mem_singleton] at hc; subst hc; exact (hdg n h).1
      · simp only [valL, List.foldl_cons, List.foldl_nil, (hdg n h).2]; omega
      · simp only [List.head?_cons, Option.some.injEq] at he
        have := congrArg UInt8.toNat he
        rw [(hdg n h).2] at this
        have : (48 : UInt8).toNat = 48 := rfl
        omega
    · obtain ⟨i1, i2, i3, i4, i5⟩ := ih (n / 10) (by omega)
      have hh : (Lib.decDigits (n / 10)).head? ≠ some 48 := i5 (by omega)
      have hhead : (Lib.decDigits (n / 10) ++ [UInt8.ofNat (48 + n % 10)]).head? = (Lib.decDigits (n / 10)).head? := by
        cases hd : Lib.decDigits (n / 10) with
        | nil => exact absurd hd i1
        | cons c r => rfl
      rw [dec_great h]
      refine ⟨by simp, fun c hc => ?_, fun _ => by rw [hhead]; exact hh, ?_, fun _ => by rw [hhead]; exact hh⟩
      · rcases List.mem_append.1 hc with hc | hc
        · exact i2 c hc
        · simp only [List.mem_singleton] at hc; subst hc; exact (hdg (n % 10) (by omega)).1
      · rw [valL_snoc, i4, (hdg (n % 10) (by omega)).2]
        omega
theorem digP_dec (n : Nat) (h : n ≤ 2147483648) : digP (Lib.decDigits n) = ((n : Int), true) := by
  obtain ⟨h1, h2, h3, h4, _⟩ := dec_ok n n (Nat.le_refl _)
  have hl : (Lib.decDigits n).length ≤ 10 := dec_len 9 n (by omega)
  unfold digP
  rw [if_neg, h4]
  rintro (h | h | ⟨h, he⟩ | ⟨c, hc, he⟩)
  · exact h1 (List.eq_nil_of_length_eq_zero h)
  · omega
  · exact h3 h he
  · rw [h2 c hc] at he; cases he
theorem numP_itoa (n : Int) (h0 : -2147483648 ≤ n) (h1 : n ≤ 2147483647) : numP (Lib.itoa n) = (n, true) := by
  unfold Lib.itoa
  by_cases h : n < 0
  · rw [if_pos h]
    unfold numP
    rw [if_pos (show (45 :: Lib.decDigits n.natAbs).head? = some 45 from rfl)]
    show (-(digP (Lib.decDigits n.natAbs)).1, (digP (Lib.decDigits n.natAbs)).2 && (digP (Lib.decDigits n.natAbs)).1 != 0) = (n, true)
    rw [digP_dec n.natAbs (by omega)]
    have e : ((n.natAbs : Int) != 0) = true := by simp; omega
    dsimp only
    rw [e, show -((n.natAbs : Nat) : Int) = n by omega]; rfl
  · rw [if_neg h]
    unfold numP
    rw [if_neg]
    · rw [digP_dec n.toNat (by omega), show ((n.toNat : Nat) : Int) = n by omega]
    · obtain ⟨h1, h2, _, _, _⟩ := dec_ok n.toNat n.toNat (Nat.le_refl _)
      intro he
      cases hd : Lib.decDigits n.toNat with
      | nil => exact h1 hd
      | cons c r =>
        rw [hd] at he
        simp only [List.head?_cons, Option.some.injEq] at he
        have := h2 c (by rw [hd]; simp)
        rw [he] at this
        exact absurd this (by decide)
theorem numP_none (l : List UInt8) (c : UInt8) (r : List UInt8) (hl : l = c :: r) (h1 : c ≠ 45) (h2 : dgt c = false) : numP l = (0, false) := by
  subst hl
  unfold numP
  rw [if_neg (by simpa using h1)]
  unfold digP
  exact if_pos (.inr (.inr (.inr ⟨c, by simp, h2⟩)))
theorem bytes_of (t : ByteArray) (h : t.toList.isEmpty = true) : t = ⟨#[]⟩ := by
  rw [ByteArray.toList_eq, List.isEmpty_iff] at h
  apply ByteArray.ext
  simpa using h
theorem vtext_size (k n : Int) (t : ByteArray) (hv : vokB k n t = true) (hs : t.size ≤ 60) : (vtextB k n t).size ≤ 60 := by
  unfold vtextB
  split
  · rename_i h
    subst h
    have := vok_int hv
    show (Lib.itoa n).toArray.size ≤ 60
    unfold Lib.itoa
    split
    · have : (Lib.decDigits n.natAbs).length ≤ 10 := dec_len 9 _ (by omega)
      simp; omega
    · have : (Lib.decDigits n.toNat).length ≤ 10 := dec_len 9 _ (by omega)
      simp; omega
  · split
    · split <;> decide
    · split
      · exact hs
      · decide
theorem toList_mk (l : List UInt8) : (⟨l.toArray⟩ : ByteArray).toList = l := by rw [ByteArray.toList_eq]

/-- what is not a text is read back from its text -/
theorem read_back (k n : Int) (t : ByteArray) (hv : vokB k n t = true) (hk : k ≠ 3) : readR (vtextB k n t) = ⟨k, n, t, 0⟩ := by
  rcases vok_kind hv with rfl | rfl | rfl | rfl
  · have h1 : n = 0 ∧ t = ⟨#[]⟩ := by
      simp only [vokB, if_true, Bool.and_eq_true, decide_eq_true_iff] at hv
      exact ⟨hv.1, bytes_of t hv.2⟩
    obtain ⟨rfl, rfl⟩ := h1
    have e : vtextB 0 0 ⟨#[]⟩ = ⟨#[110, 117, 108, 108]⟩ := rfl
    rw [e]
    unfold readR
    rw [if_neg (by decide), if_pos (by rw [ByteArray.toList_eq])]
    rfl
  · have h1 := vok_int hv
    have h2 : t = ⟨#[]⟩ := by
      simp [vokB] at hv
      exact bytes_of t (by rw [List.isEmpty_iff]; exact hv.2)
    subst h2
    have e : vtextB 1 n ⟨#[]⟩ = ⟨(Lib.itoa n).toArray⟩ := rfl
    rw [e]
    have hnum := numP_itoa n h1.1 h1.2
    have hlt : (⟨(Lib.itoa n).toArray⟩ : ByteArray).data.toList = Lib.itoa n := by simp
    have hz : (⟨(Lib.itoa n).toArray⟩ : ByteArray).size ≤ 60 := vtext_size 1 n ⟨#[]⟩ hv (by decide)
    have hw : ∀ c r, dgt c = false → c ≠ 45 → Lib.itoa n ≠ c :: r := fun c r hd h45 he => by
      rw [numP_none _ c r he h45 hd] at hnum
      cases hnum
    unfold readR
    rw [if_neg (by omega), toList_mk, if_neg (hw 110 _ (by decide) (by decide)), if_neg (hw 116 _ (by decide) (by decide)), if_neg (hw 102 _ (by decide) (by decide)), hlt, hnum, if_pos rfl]
    unfold fitR
    rw [if_pos h1]; rfl
  · have h1 := vok_bits hv
    have h2 : t = ⟨#[]⟩ := by
      simp [vokB] at hv
      exact bytes_of t (by rw [List.isEmpty_iff]; exact hv.2)
    subst h2
    rcases h1 with rfl | rfl
    · have e : vtextB 2 0 ⟨#[]⟩ = ⟨#[102, 97, 108, 115, 101]⟩ := rfl
      rw [e]
      unfold readR
      rw [if_neg (by decide), if_neg (by rw [ByteArray.toList_eq]; decide), if_neg (by rw [ByteArray.toList_eq]; decide), if_pos (by rw [ByteArray.toList_eq])]
      rfl
    · have e : vtextB 2 1 ⟨#[]⟩ = ⟨#[116, 114, 117, 101]⟩ := rfl
      rw [e]
      unfold readR
      rw [if_neg (by decide), if_neg (by rw [ByteArray.toList_eq]; decide), if_pos (by rw [ByteArray.toList_eq])]
      rfl
  · exact absurd rfl hk
/-- a text is read back from between quotes -/
theorem read_quoted (t : ByteArray) (hp : plainB t.data.toList = true) : readR ⟨(quoteL t.data.toList).toArray⟩ = ⟨3, 0, t, 0⟩ := by
  have hl : (⟨(quoteL t.data.toList).toArray⟩ : ByteArray).data.toList = 39 :: (t.data.toList.flatMap escC ++ [39]) := by simp [quoteL]
  have h60 : t.data.toList.length ≤ 60 ∧ t.data.toList.all okC = true := by simpa [plainB] using hp
  have hq : quoteP (39 :: (t.data.toList.flatMap escC ++ [39])) = (t.data.toList, true) := by
    have hsc := scanQ_esc_run' t.data.toList [] h60.2
    unfold quoteP
    dsimp only
    rw [if_pos rfl, hsc]
    dsimp only
    rw [if_pos h60.1]
  have hn : numP (39 :: (t.data.toList.flatMap escC ++ [39])) = (0, false) := numP_none _ 39 _ rfl (by decide) (by decide)
  have hsz : (⟨(quoteL t.data.toList).toArray⟩ : ByteArray).size ≤ 65536 := by
    have := quoteL_len' t.data.toList
    show (quoteL t.data.toList).toArray.size ≤ 65536
    simp; omega
  unfold readR
  rw [if_neg (by omega), toList_mk, hl, hn, hq, if_neg (by simp [quoteL]), if_neg (by simp [quoteL]), if_neg (by simp [quoteL]), if_neg (by simp), if_pos rfl]
  rfl

end Go.Proofs.YtckdacbopejdmaaDoor
