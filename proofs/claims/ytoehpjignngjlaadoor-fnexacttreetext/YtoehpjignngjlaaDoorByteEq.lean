/- Texts that are alike. -/
import Derived.WalkKit
import Derived.Laws.Strings
import Derived.Test.YtoehpjignngjlaaDoorNodeL
namespace Go.Proofs.YtoehpjignngjlaaDoor
set_option linter.unusedVariables false

theorem ba_list {a b : ByteArray} (h : a.data.toList = b.data.toList) : a = b := by
  apply ByteArray.ext
  exact Array.toList_inj.1 h
theorem ba_self (a : ByteArray) : (a == a) = true := by
  cases a
  rename_i d
  show (d == d) = true
  simp
theorem ba_of {a b : ByteArray} (h : (a == b) = true) : a = b := by
  have : a.data == b.data := by cases a; cases b; exact h
  apply ByteArray.ext
  exact eq_of_beq this
theorem ba_ne {a b : ByteArray} (h : a ≠ b) : (a == b) = false := by
  cases hb : (a == b)
  · rfl
  · exact absurd (ba_of hb) h
theorem ba_nself (a : ByteArray) : (a != a) = false := by simp [bne, ba_self]
theorem ba_nne {a b : ByteArray} (h : a ≠ b) : (a != b) = true := by simp [bne, ba_ne h]
theorem bl_self (a : ByteArray) : (a.toList == a.toList) = true := by simp
theorem bl_ne {a b : ByteArray} (h : a ≠ b) : (a.toList == b.toList) = false := beq_eq_false_iff_ne.2 fun e => h (ba_list (by rw [← ByteArray.toList_eq, ← ByteArray.toList_eq, e]))
theorem bl_nself (a : ByteArray) : (a.toList != a.toList) = false := by simp [bne]
theorem bl_nne {a b : ByteArray} (h : a ≠ b) : (a.toList != b.toList) = true := by simp [bne, bl_ne h]
theorem bl_not {a b : ByteArray} (h : a ≠ b) : ¬ a.toList = b.toList := fun e => h (ba_list (by rw [← ByteArray.toList_eq, ← ByteArray.toList_eq, e]))

def kindAt (ns : List TN) (j : Int) : Int := ((ns[j.toNat]?).map (·.k)).getD 0
def textAt (ns : List TN) (j : Int) : ByteArray := ((ns[j.toNat]?).map (·.t)).getD ⟨#[]⟩
theorem kindAt_of {ns : List TN} {j : Int} {x : TN} (h : ns[j.toNat]? = some x) : kindAt ns j = x.k := by unfold kindAt; rw [h]; rfl
theorem textAt_of {ns : List TN} {j : Int} {x : TN} (h : ns[j.toNat]? = some x) : textAt ns j = x.t := by unfold textAt; rw [h]; rfl
/-- the functions among some kids -/
def fnsIn (ns : List TN) (ks : List Int) : List Int := ks.filter fun j => kindAt ns j == 20
theorem fnsIn_yes {ns : List TN} {ks : List Int} {m : Nat} (h : m < ks.length) (hk : kindAt ns ks[m] = 20) : fnsIn ns (ks.take (m + 1)) = fnsIn ns (ks.take m) ++ [ks[m]] := by
  unfold fnsIn
  rw [List.take_succ_eq_append_getElem h, List.filter_append, List.filter_cons_of_pos (by rw [hk]; rfl)]; rfl
theorem fnsIn_no {ns : List TN} {ks : List Int} {m : Nat} (h : m < ks.length) (hk : kindAt ns ks[m] ≠ 20) : fnsIn ns (ks.take (m + 1)) = fnsIn ns (ks.take m) := by
  unfold fnsIn
  rw [List.take_succ_eq_append_getElem h, List.filter_append, List.filter_cons_of_neg (by simpa using hk)]; simp
theorem fnsIn_len (ns : List TN) (ks : List Int) : (fnsIn ns ks).length ≤ ks.length := List.length_filter_le _ _
theorem fnsIn_mem {ns : List TN} {ks : List Int} {j : Int} : j ∈ fnsIn ns ks ↔ j ∈ ks ∧ kindAt ns j = 20 := by
  unfold fnsIn; rw [List.mem_filter]; simp
/-- the kids of the outmost block -/
def rootKids (ns : List TN) (root : Int) : List Int := ((ns[root.toNat]?).map (·.kids)).getD []
theorem rootKids_of {ns : List TN} {root : Int} {x : TN} (h : ns[root.toNat]? = some x) : rootKids ns root = x.kids := by unfold rootKids; rw [h]; rfl
def funsOf (ns : List TN) (root : Int) : List Int := fnsIn ns (rootKids ns root)
def namesF (ns : List TN) (root : Int) : List ByteArray := (funsOf ns root).map (textAt ns)
/-- where a name is first among some -/
def keysB (l : List ByteArray) : List (List UInt8) := l.map fun t => t.data.toList
theorem keysB_mem {l : List ByteArray} {s : ByteArray} : s.data.toList ∈ keysB l ↔ s ∈ l := by
  unfold keysB
  rw [List.mem_map]
  exact ⟨fun ⟨t, ht, e⟩ => ba_list e ▸ ht, fun h => ⟨s, h, rfl⟩⟩
def placeIn (l : List ByteArray) (s : ByteArray) : Option Int := if s.data.toList ∈ keysB l then some (((keysB l).idxOf s.data.toList : Nat) : Int) else none
theorem placeIn_nil : placeIn [] = fun _ => none := by funext s; simp [placeIn, keysB]
theorem placeIn_mem {l : List ByteArray} {s : ByteArray} (h : s ∈ l) : (placeIn l s).isSome = true := by
  unfold placeIn; rw [if_pos (keysB_mem.2 h)]; rfl
theorem placeIn_not {l : List ByteArray} {s : ByteArray} (h : s ∉ l) : (placeIn l s).isSome = false := by
  unfold placeIn; rw [if_neg (fun hm => h (keysB_mem.1 hm))]; rfl
theorem placeIn_new {l : List ByteArray} {s : ByteArray} (h : s ∉ l) : placeIn (l ++ [s]) = fun t => if t.data.toList = s.data.toList then some ((l.length : Nat) : Int) else placeIn l t := by
  funext t
  have e0 : keysB (l ++ [s]) = keysB l ++ [s.data.toList] := by simp [keysB]
  have el : (keysB l).length = l.length := by simp [keysB]
  unfold placeIn
  rw [e0]
  by_cases e : t.data.toList = s.data.toList
  · rw [if_pos e, if_pos (by simp [e]), e, List.idxOf_append, if_neg (fun hm => h (keysB_mem.1 hm))]
    simp [el]
  · rw [if_neg e]
    by_cases hm : t.data.toList ∈ keysB l
    · rw [if_pos (by simp [hm]), if_pos hm, List.idxOf_append, if_pos hm]
    · rw [if_neg (by simp [hm, e]), if_neg hm]
theorem placeIn_old {l : List ByteArray} {s : ByteArray} (h : s ∈ l) : placeIn (l ++ [s]) = placeIn l := by
  funext t
  have e0 : keysB (l ++ [s]) = keysB l ++ [s.data.toList] := by simp [keysB]
  have hs := keysB_mem.2 h
  unfold placeIn
  rw [e0]
  by_cases hm : t.data.toList ∈ keysB l
  · rw [if_pos (by simp [hm]), if_pos hm, List.idxOf_append, if_pos hm]
  · have : t.data.toList ≠ s.data.toList := fun e => hm (e ▸ hs)
    rw [if_neg (by simp [hm, this]), if_neg hm]
theorem placeIn_first {l r : List ByteArray} {s : ByteArray} (h : s ∉ l) : placeIn (l ++ s :: r) s = some ((l.length : Nat) : Int) := by
  have e0 : keysB (l ++ s :: r) = keysB l ++ s.data.toList :: keysB r := by simp [keysB]
  have el : (keysB l).length = l.length := by simp [keysB]
  unfold placeIn
  rw [e0, if_pos (by simp), List.idxOf_append, if_neg (fun hm => h (keysB_mem.1 hm))]
  simp [el]
/-- who has a name first -/
theorem placeIn_get {l : List ByteArray} {s : ByteArray} (h : s ∈ l) : ∃ i : Nat, placeIn l s = some (i : Int) ∧ ∃ hi : i < l.length, l[i] = s ∧ ∀ j (hj : j < l.length), l[j] = s → i ≤ j := by
  have hm := keysB_mem.2 h
  have hlt := List.idxOf_lt_length_of_mem hm
  have el : (keysB l).length = l.length := by simp [keysB]
  refine ⟨(keysB l).idxOf s.data.toList, by unfold placeIn; rw [if_pos hm], by omega, ?_, ?_⟩
  · have e := List.getElem_idxOf hlt
    have e2 : (keysB l)[(keysB l).idxOf s.data.toList] = (l[(keysB l).idxOf s.data.toList]'(by omega)).data.toList := List.getElem_map _
    rw [e2] at e
    exact ba_list e
  · intro j hj e
    have e2 : (keysB l)[j]'(by omega) = s.data.toList := (List.getElem_map _).trans (by rw [e])
    refine Nat.le_of_not_lt fun hlt2 => ?_
    have := List.not_of_lt_findIdx (p := (· == s.data.toList)) (xs := keysB l) hlt2
    rw [e2] at this
    simp at this

/-- what a node adds behind its kids: the function that it calls, if it is new -/
def addC (F : ByteArray → Prop) (x : TN) (acc acc' : List ByteArray) : Prop := ((x.k = 10 ∧ F x.t ∧ x.t ∉ acc) ∧ acc' = acc ++ [x.t]) ∨ (¬ (x.k = 10 ∧ F x.t ∧ x.t ∉ acc) ∧ acc' = acc)
theorem addC.det {F : ByteArray → Prop} {x : TN} {a b c : List ByteArray} (h : addC F x a b) (h' : addC F x a c) : b = c := by
  rcases h with ⟨h, rfl⟩ | ⟨h, rfl⟩ <;> rcases h' with ⟨h', rfl⟩ | ⟨h', rfl⟩
  · rfl
  · exact absurd h h'
  · exact absurd h' h
  · rfl
theorem addC.ex (F : ByteArray → Prop) (x : TN) (a : List ByteArray) : ∃ b, addC F x a b := by
  by_cases h : x.k = 10 ∧ F x.t ∧ x.t ∉ a
  · exact ⟨_, .inl ⟨h, rfl⟩⟩
  · exact ⟨_, .inr ⟨h, rfl⟩⟩
theorem addC.len {F : ByteArray → Prop} {x : TN} {a b : List ByteArray} (h : addC F x a b) : a.length ≤ b.length ∧ b.length ≤ a.length + 1 := by
  rcases h with ⟨h, rfl⟩ | ⟨h, rfl⟩ <;> simp
theorem addC.mem {F : ByteArray → Prop} {x : TN} {a b : List ByteArray} (h : addC F x a b) : ∀ s ∈ b, s ∈ a ∨ F s := by
  rcases h with ⟨h, rfl⟩ | ⟨h, rfl⟩
  · intro s hs
    rcases List.mem_append.1 hs with hs | hs
    · exact .inl hs
    · rw [List.mem_singleton] at hs; subst hs; exact .inr h.2.1
  · exact fun s hs => .inl hs
/-- the functions that are called from these nodes on (functions are passed over), behind those that are there -/
inductive CallsR (ns : List TN) (F : ByteArray → Prop) : List Int → List ByteArray → List ByteArray → Prop
  | nil (acc : List ByteArray) : CallsR ns F [] acc acc
  | skip (j : Int) (x : TN) (ks : List Int) (acc acc' : List ByteArray) : 0 ≤ j → ns[j.toNat]? = some x → x.k = 20 → CallsR ns F ks acc acc' → CallsR ns F (j :: ks) acc acc'
  | cons (j : Int) (x : TN) (ks : List Int) (acc a1 a2 acc' : List ByteArray) : 0 ≤ j → ns[j.toNat]? = some x → x.k ≠ 20 → CallsR ns F x.kids acc a1 → addC F x a1 a2 → CallsR ns F ks a2 acc' → CallsR ns F (j :: ks) acc acc'
theorem CallsR.det {ns : List TN} {F : ByteArray → Prop} {ks : List Int} {a b c : List ByteArray} (h : CallsR ns F ks a b) (h' : CallsR ns F ks a c) : b = c := by
  induction h generalizing c with
  | nil acc => cases h'; rfl
  | skip j x ks acc acc' h0 hx hk h ih =>
    cases h' with
    | skip _ _ _ _ _ _ _ _ g => exact ih g
    | cons _ x' _ _ _ _ _ _ hx' hk' =>
      rw [hx] at hx'
      obtain rfl := Option.some.inj hx'
      exact absurd hk hk'
  | cons j x ks acc a1 a2 acc' h0 hx hk h1 h2 h3 ih1 ih3 =>
    cases h' with
    | skip _ x' _ _ _ _ hx' hk' g =>
      rw [hx] at hx'
      obtain rfl := Option.some.inj hx'
      exact absurd hk' hk
    | cons _ x' _ _ b1 b2 _ _ hx' hk' g1 g2 g3 =>
      rw [hx] at hx'
      obtain rfl := Option.some.inj hx'
      obtain rfl := ih1 g1
      obtain rfl := h2.det g2
      exact ih3 g3
theorem CallsR.append {ns : List TN} {F : ByteArray → Prop} {us bs : List Int} {a b c : List ByteArray} (h : CallsR ns F us a b) (h' : CallsR ns F bs b c) : CallsR ns F (us ++ bs) a c := by
  induction h with
  | nil acc => exact h'
  | skip j x ks acc acc' h0 hx hk h ih => exact .skip j x _ _ _ h0 hx hk (ih h')
  | cons j x ks acc a1 a2 acc' h0 hx hk h1 h2 h3 ih1 ih3 => exact .cons j x _ _ a1 a2 _ h0 hx hk h1 h2 (ih3 h')
theorem CallsR.ex {ns : List TN} (F : ByteArray → Prop) {ks : List Int} {l : List Nat} {d : Nat} (h : Vis ns ks l d) : ∀ a, ∃ b, CallsR ns F ks a b ∧ a.length ≤ b.length ∧ b.length ≤ a.length + l.length := by
  induction h with
  | nil => exact fun a => ⟨a, .nil a, by omega, by omega⟩
  | cons j x ks l1 l2 d1 d2 h0 hx h1 h2 ih1 ih2 =>
    intro a
    by_cases hk : x.k = 20
    · obtain ⟨b, hb, hl, hu⟩ := ih2 a
      exact ⟨b, .skip j x ks a b h0 hx hk hb, hl, by simp; omega⟩
    · obtain ⟨b1, hb1, hl1, hu1⟩ := ih1 a
      obtain ⟨b2, hb2⟩ := addC.ex F x b1
      obtain ⟨b3, hb3, hl3, hu3⟩ := ih2 b2
      have := hb2.len
      exact ⟨b3, .cons j x ks a b1 b2 b3 h0 hx hk hb1 hb2 hb3, by omega, by simp; omega⟩
theorem CallsR.mem {ns : List TN} {F : ByteArray → Prop} {ks : List Int} {a b : List ByteArray} (h : CallsR ns F ks a b) : ∀ s ∈ b, s ∈ a ∨ F s := by
  induction h with
  | nil acc => exact fun s hs => .inl hs
  | skip j x ks acc acc' h0 hx hk h ih => exact ih
  | cons j x ks acc a1 a2 acc' h0 hx hk h1 h2 h3 ih1 ih3 =>
    intro s hs
    rcases ih3 s hs with hs | hs
    · rcases h2.mem s hs with hs | hs
      · exact ih1 s hs
      · exact .inr hs
    · exact .inr hs
/-- the functions that are called from a node on, itself with it -/
def NodeC (ns : List TN) (F : ByteArray → Prop) (j : Int) (acc acc' : List ByteArray) : Prop := ∃ x a1, 0 ≤ j ∧ ns[j.toNat]? = some x ∧ CallsR ns F x.kids acc a1 ∧ addC F x a1 acc'
theorem NodeC.det {ns : List TN} {F : ByteArray → Prop} {j : Int} {a b c : List ByteArray} (h : NodeC ns F j a b) (h' : NodeC ns F j a c) : b = c := by
  obtain ⟨x, a1, h0, hx, h1, h2⟩ := h
  obtain ⟨x', b1, _, hx', g1, g2⟩ := h'
  rw [hx] at hx'
  obtain rfl := Option.some.inj hx'
  obtain rfl := h1.det g1
  exact h2.det g2
theorem NodeC.ex {ns : List TN} (F : ByteArray → Prop) {j : Int} {l : List Nat} {d : Nat} (h : Vis ns [j] l d) (a : List ByteArray) : ∃ b, NodeC ns F j a b ∧ a.length ≤ b.length ∧ b.length ≤ a.length + l.length := by
  obtain ⟨x, l1, l2, d1, d2, h0, hx, v1, v2, rfl, rfl⟩ := h.inv
  obtain ⟨b1, hb1, hl1, hu1⟩ := CallsR.ex F v1 a
  obtain ⟨b2, hb2⟩ := addC.ex F x b1
  have := hb2.len
  exact ⟨b2, ⟨x, b1, h0, hx, hb1, hb2⟩, by omega, by simp; omega⟩
theorem NodeC.mem {ns : List TN} {F : ByteArray → Prop} {j : Int} {a b : List ByteArray} (h : NodeC ns F j a b) : ∀ s ∈ b, s ∈ a ∨ F s := by
  obtain ⟨x, a1, h0, hx, h1, h2⟩ := h
  intro s hs
  rcases h2.mem s hs with hs | hs
  · exact h1.mem s hs
  · exact .inr hs
/-- one kid more -/
theorem CallsR.snoc_no {ns : List TN} {F : ByteArray → Prop} {ks : List Int} {m : Nat} {a b c : List ByteArray} (h : CallsR ns F (ks.take m) a b) (hm : m < ks.length) {x : TN} (h0 : 0 ≤ ks[m]) (hx : ns[ks[m].toNat]? = some x) (hk : x.k ≠ 20) (hn : NodeC ns F ks[m] b c) : CallsR ns F (ks.take (m + 1)) a c := by
  rw [List.take_succ_eq_append_getElem hm]
  obtain ⟨x', a1, _, hx', g1, g2⟩ := hn
  rw [hx] at hx'
  obtain rfl := Option.some.inj hx'
  exact h.append (.cons _ x [] _ a1 c c h0 hx hk g1 g2 (.nil _))
theorem CallsR.snoc_yes {ns : List TN} {F : ByteArray → Prop} {ks : List Int} {m : Nat} {a b : List ByteArray} (h : CallsR ns F (ks.take m) a b) (hm : m < ks.length) {x : TN} (h0 : 0 ≤ ks[m]) (hx : ns[ks[m].toNat]? = some x) (hk : x.k = 20) : CallsR ns F (ks.take (m + 1)) a b := by
  rw [List.take_succ_eq_append_getElem hm]
  exact h.append (.skip _ x [] _ _ h0 hx hk (.nil _))

end Go.Proofs.YtoehpjignngjlaaDoor
