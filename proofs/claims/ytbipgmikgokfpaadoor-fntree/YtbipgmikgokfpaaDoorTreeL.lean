/- Trees in plain lists: nodes, and the ways over them from a node on ('Vis': which nodes are met, in which order, how deep). -/
import Derived.WalkKit
namespace Go.Proofs.YtbipgmikgokfpaaDoor
set_option linter.unusedVariables false

/-- a node of a tree -/
structure TN where
  k : Int
  n : Int
  t : ByteArray
  names : List ByteArray
  kids : List Int

/-- from these nodes on: the nodes met, in the order in which they are met, and how deep it goes -/
inductive Vis (ns : List TN) : List Int → List Nat → Nat → Prop
  | nil : Vis ns [] [] 0
  | cons (j : Int) (x : TN) (ks : List Int) (l1 l2 : List Nat) (d1 d2 : Nat) : 0 ≤ j → ns[j.toNat]? = some x → Vis ns x.kids l1 d1 → Vis ns ks l2 d2 → Vis ns (j :: ks) (j.toNat :: (l1 ++ l2)) (max (d1 + 1) d2)

theorem Vis.inv {ns : List TN} {j : Int} {ks : List Int} {l : List Nat} {d : Nat} (h : Vis ns (j :: ks) l d) : ∃ x l1 l2 d1 d2, 0 ≤ j ∧ ns[j.toNat]? = some x ∧ Vis ns x.kids l1 d1 ∧ Vis ns ks l2 d2 ∧ l = j.toNat :: (l1 ++ l2) ∧ d = max (d1 + 1) d2 := by
  cases h with
  | cons _ x _ l1 l2 d1 d2 h0 hx h1 h2 => exact ⟨x, l1, l2, d1, d2, h0, hx, h1, h2, rfl, rfl⟩
theorem Vis.det {ns : List TN} {ks : List Int} {l l' : List Nat} {d d' : Nat} (h : Vis ns ks l d) (h' : Vis ns ks l' d') : l = l' ∧ d = d' := by
  induction h generalizing l' d' with
  | nil => cases h'; exact ⟨rfl, rfl⟩
  | cons j x ks l1 l2 d1 d2 h0 hx h1 h2 ih1 ih2 =>
    obtain ⟨x', m1, m2, e1, e2, _, hx', v1, v2, rfl, rfl⟩ := h'.inv
    rw [hx] at hx'
    obtain rfl := Option.some.inj hx'
    obtain ⟨rfl, rfl⟩ := ih1 v1
    obtain ⟨rfl, rfl⟩ := ih2 v2
    exact ⟨rfl, rfl⟩
theorem Vis.lt {ns : List TN} {ks : List Int} {l : List Nat} {d : Nat} (h : Vis ns ks l d) : ∀ x ∈ l, x < ns.length := by
  induction h with
  | nil => intro x hx; simp at hx
  | cons j x ks l1 l2 d1 d2 h0 hx h1 h2 ih1 ih2 =>
    intro y hy
    simp at hy
    rcases hy with rfl | hy | hy
    · exact (List.getElem?_eq_some_iff.1 hx).1
    · exact ih1 y hy
    · exact ih2 y hy
theorem Vis.append {ns : List TN} {as bs : List Int} {l1 l2 : List Nat} {d1 d2 : Nat} (h1 : Vis ns as l1 d1) (h2 : Vis ns bs l2 d2) : Vis ns (as ++ bs) (l1 ++ l2) (max d1 d2) := by
  induction h1 with
  | nil => simpa using h2
  | cons j x ks m1 m2 e1 e2 h0 hx v1 v2 ih1 ih2 =>
    have := Vis.cons j x (ks ++ bs) m1 (m2 ++ l2) e1 (max e2 d2) h0 hx v1 ih2
    rw [← List.append_assoc, ← Nat.max_assoc] at this
    simpa using this
theorem Vis.split {ns : List TN} : ∀ {as bs : List Int} {l : List Nat} {d : Nat}, Vis ns (as ++ bs) l d → ∃ l1 l2 d1 d2, Vis ns as l1 d1 ∧ Vis ns bs l2 d2 ∧ l = l1 ++ l2 ∧ d = max d1 d2
  | [], bs, l, d, h => ⟨[], l, 0, d, .nil, h, rfl, by omega⟩
  | j :: as, bs, l, d, h => by
    obtain ⟨x, m1, m2, e1, e2, h0, hx, v1, v2, rfl, rfl⟩ := Vis.inv (by simpa using h)
    obtain ⟨l1, l2, d1, d2, w1, w2, rfl, rfl⟩ := Vis.split v2
    exact ⟨j.toNat :: (m1 ++ l1), l2, max (e1 + 1) d1, d2, .cons j x as m1 l1 e1 d1 h0 hx v1 w1, w2, by simp, by omega⟩

/-- what is met lies outside S, each once, and is right -/
def OkW (ns : List TN) (G : Nat → Prop) (ks : List Int) (S l : List Nat) (d : Nat) : Prop := Vis ns ks l d ∧ l.Nodup ∧ (∀ x ∈ l, x ∉ S) ∧ ∀ x ∈ l, G x
def OkF (ns : List TN) (G : Nat → Prop) (ks : List Int) (S : List Nat) : Prop := ∃ l d, OkW ns G ks S l d
theorem OkW.nil {ns : List TN} {G : Nat → Prop} {S : List Nat} : OkW ns G [] S [] 0 := ⟨.nil, by simp, by simp, by simp⟩
theorem OkW.append {ns : List TN} {G : Nat → Prop} {as bs : List Int} {S l1 l2 : List Nat} {d1 d2 : Nat} (h1 : OkW ns G as S l1 d1) (h2 : OkW ns G bs (S ++ l1) l2 d2) : OkW ns G (as ++ bs) S (l1 ++ l2) (max d1 d2) := by
  refine ⟨h1.1.append h2.1, ?_, ?_, ?_⟩
  · rw [List.nodup_append]
    refine ⟨h1.2.1, h2.2.1, fun a ha b hb e => ?_⟩
    subst e
    exact h2.2.2.1 a hb (by simp [ha])
  · intro x hx
    rcases List.mem_append.1 hx with hx | hx
    · exact h1.2.2.1 x hx
    · exact fun hs => h2.2.2.1 x hx (by simp [hs])
  · intro x hx
    rcases List.mem_append.1 hx with hx | hx
    · exact h1.2.2.2 x hx
    · exact h2.2.2.2 x hx
theorem OkW.split {ns : List TN} {G : Nat → Prop} {as bs : List Int} {S l : List Nat} {d : Nat} (h : OkW ns G (as ++ bs) S l d) : ∃ l1 l2 d1 d2, OkW ns G as S l1 d1 ∧ OkW ns G bs (S ++ l1) l2 d2 ∧ l = l1 ++ l2 ∧ d = max d1 d2 := by
  obtain ⟨hv, hn, hs, hg⟩ := h
  obtain ⟨l1, l2, d1, d2, v1, v2, rfl, rfl⟩ := hv.split
  rw [List.nodup_append] at hn
  refine ⟨l1, l2, d1, d2, ⟨v1, hn.1, fun x hx => hs x (by simp [hx]), fun x hx => hg x (by simp [hx])⟩, ⟨v2, hn.2.1, fun x hx he => ?_, fun x hx => hg x (by simp [hx])⟩, rfl, rfl⟩
  rcases List.mem_append.1 he with he | he
  · exact hs x (by simp [hx]) he
  · exact hn.2.2 x he x hx rfl
theorem OkW.one {ns : List TN} {G : Nat → Prop} {j : Int} {S l1 : List Nat} {d1 : Nat} {x : TN} (h0 : 0 ≤ j) (hx : ns[j.toNat]? = some x) (hS : j.toNat ∉ S) (hg : G j.toNat) (hk : OkW ns G x.kids (S ++ [j.toNat]) l1 d1) : OkW ns G [j] S (j.toNat :: l1) (d1 + 1) := by
  have hv := Vis.cons j x [] l1 [] d1 0 h0 hx hk.1 .nil
  rw [List.append_nil, Nat.max_eq_left (by omega)] at hv
  refine ⟨hv, ?_, ?_, ?_⟩
  · rw [List.nodup_cons]
    exact ⟨fun h => hk.2.2.1 _ h (by simp), hk.2.1⟩
  · intro y hy
    rcases List.mem_cons.1 hy with rfl | hy
    · exact hS
    · exact fun h => hk.2.2.1 y hy (by simp [h])
  · intro y hy
    rcases List.mem_cons.1 hy with rfl | hy
    · exact hg
    · exact hk.2.2.2 y hy
theorem OkW.one_inv {ns : List TN} {G : Nat → Prop} {j : Int} {S l : List Nat} {d : Nat} (h : OkW ns G [j] S l d) : ∃ x l1 d1, 0 ≤ j ∧ ns[j.toNat]? = some x ∧ j.toNat ∉ S ∧ G j.toNat ∧ OkW ns G x.kids (S ++ [j.toNat]) l1 d1 ∧ l = j.toNat :: l1 ∧ d = d1 + 1 := by
  obtain ⟨hv, hn, hs, hg⟩ := h
  obtain ⟨x, l1, l2, d1, d2, h0, hx, v1, v2, rfl, rfl⟩ := hv.inv
  cases v2
  rw [List.append_nil] at hn hs hg ⊢
  rw [List.nodup_cons] at hn
  refine ⟨x, l1, d1, h0, hx, hs _ (by simp), hg _ (by simp), ⟨v1, hn.2, fun y hy he => ?_, fun y hy => hg y (by simp [hy])⟩, rfl, by omega⟩
  rcases List.mem_append.1 he with he | he
  · exact hs y (by simp [hy]) he
  · rw [List.mem_singleton] at he
    subst he
    exact hn.1 hy
theorem OkW.det {ns : List TN} {G : Nat → Prop} {ks : List Int} {S S' l l' : List Nat} {d d' : Nat} (h : OkW ns G ks S l d) (h' : OkW ns G ks S' l' d') : l = l' ∧ d = d' := h.1.det h'.1
/-- the first i nodes are met, the next one cannot be -/
theorem okF_fail {ns : List TN} {G : Nat → Prop} {ks : List Int} {S l : List Nat} {d i : Nat} {j : Int} (h : OkW ns G (ks.take i) S l d) (hj : ks[i]? = some j) (hf : ¬ OkF ns G [j] (S ++ l)) : ¬ OkF ns G ks S := by
  rintro ⟨m, e, hm⟩
  obtain ⟨hi, hij⟩ := List.getElem?_eq_some_iff.1 hj
  have e1 : ks = ks.take i ++ ([j] ++ ks.drop (i + 1)) := by
    rw [← hij]
    simp
  rw [e1] at hm
  obtain ⟨l1, l2, d1, d2, o1, o2, rfl, rfl⟩ := hm.split
  obtain ⟨rfl, rfl⟩ := o1.det h
  obtain ⟨m1, m2, c1, c2, p1, p2, _, _⟩ := o2.split
  exact hf ⟨_, _, p1⟩
theorem okW_take {ns : List TN} {G : Nat → Prop} {ks : List Int} {S l l2 : List Nat} {d d2 i : Nat} {j : Int} (h : OkW ns G (ks.take i) S l d) (hj : ks[i]? = some j) (h2 : OkW ns G [j] (S ++ l) l2 d2) : OkW ns G (ks.take (i + 1)) S (l ++ l2) (max d d2) := by
  obtain ⟨hi, hij⟩ := List.getElem?_eq_some_iff.1 hj
  rw [List.take_succ_eq_append_getElem hi, hij]
  exact h.append h2

/-- different numbers below n are at most n -/
theorem nodup_le : ∀ (n : Nat) (S : List Nat), S.Nodup → (∀ x ∈ S, x < n) → S.length ≤ n
  | 0, [], _, _ => by simp
  | 0, a :: S, _, h => absurd (h a (by simp)) (by omega)
  | n + 1, S, hn, h => by
    by_cases hm : n ∈ S
    · have h1 := nodup_le n (S.erase n) (hn.erase n) (fun x hx => by
        have := (hn.mem_erase_iff).1 hx
        have := h x this.2
        omega)
      rw [List.length_erase_of_mem hm] at h1
      omega
    · have := nodup_le n S hn (fun x hx => by
        have := h x hx
        have : x ≠ n := fun e => hm (e ▸ hx)
        omega)
      omega
/-- what is seen so far -/
structure Seen (n : Nat) (S : List Nat) : Prop where
  nodup : S.Nodup
  lt : ∀ x ∈ S, x < n
theorem Seen.nil (n : Nat) : Seen n [] := ⟨by simp, by simp⟩
theorem Seen.le {n : Nat} {S : List Nat} (h : Seen n S) : S.length ≤ n := nodup_le n S h.nodup h.lt
theorem Seen.snoc {n : Nat} {S : List Nat} {a : Nat} (h : Seen n S) (ha : a < n) (hs : a ∉ S) : Seen n (S ++ [a]) := by
  refine ⟨?_, fun x hx => ?_⟩
  · rw [List.nodup_append]
    exact ⟨h.nodup, by simp, fun x hx y hy e => by rw [List.mem_singleton] at hy; subst hy; subst e; exact hs hx⟩
  · rcases List.mem_append.1 hx with hx | hx
    · exact h.lt x hx
    · rw [List.mem_singleton] at hx; omega
theorem Seen.more {ns : List TN} {G : Nat → Prop} {ks : List Int} {S l : List Nat} {d : Nat} (h : Seen ns.length S) (ho : OkW ns G ks S l d) : Seen ns.length (S ++ l) := by
  refine ⟨?_, fun x hx => ?_⟩
  · rw [List.nodup_append]
    exact ⟨h.nodup, ho.2.1, fun x hx y hy e => by subst e; exact ho.2.2.1 x hy hx⟩
  · rcases List.mem_append.1 hx with hx | hx
    · exact h.lt x hx
    · exact ho.1.lt x hx
theorem Seen.full {n : Nat} {S : List Nat} (h : Seen n S) (hl : n ≤ S.length) (a : Nat) (ha : a < n) : a ∈ S := by
  refine Classical.byContradiction fun hc => ?_
  have := (h.snoc ha hc).le
  simp at this
  omega

/-- y stands among the kids of x -/
def Par (ns : List TN) (x y : Nat) : Prop := ∃ n, ns[x]? = some n ∧ ∃ j ∈ n.kids, 0 ≤ j ∧ j.toNat = y
theorem Vis.tops {ns : List TN} {ks : List Int} {l : List Nat} {d : Nat} (h : Vis ns ks l d) : ∀ j ∈ ks, 0 ≤ j ∧ j.toNat ∈ l := by
  induction h with
  | nil => intro j hj; simp at hj
  | cons j x ks l1 l2 d1 d2 h0 hx h1 h2 ih1 ih2 =>
    intro i hi
    rcases List.mem_cons.1 hi with rfl | hi
    · exact ⟨h0, by simp⟩
    · obtain ⟨a, b⟩ := ih2 i hi
      exact ⟨a, by simp [b]⟩
theorem Vis.kid {ns : List TN} {ks : List Int} {l : List Nat} {d : Nat} (h : Vis ns ks l d) : ∀ x ∈ l, ∀ n, ns[x]? = some n → ∀ j ∈ n.kids, 0 ≤ j ∧ j.toNat ∈ l := by
  induction h with
  | nil => intro x hx; simp at hx
  | cons j x ks l1 l2 d1 d2 h0 hx h1 h2 ih1 ih2 =>
    intro y hy n hn i hi
    rcases List.mem_cons.1 hy with rfl | hy
    · rw [hx] at hn
      obtain rfl := Option.some.inj hn
      obtain ⟨a, b⟩ := h1.tops i hi
      exact ⟨a, by simp [b]⟩
    · rcases List.mem_append.1 hy with hy | hy
      · obtain ⟨a, b⟩ := ih1 y hy n hn i hi
        exact ⟨a, by simp [b]⟩
      · obtain ⟨a, b⟩ := ih2 y hy n hn i hi
        exact ⟨a, by simp [b]⟩
theorem Vis.par_mem {ns : List TN} {ks : List Int} {l : List Nat} {d : Nat} (h : Vis ns ks l d) {x y : Nat} (hx : x ∈ l) (hp : Par ns x y) : y ∈ l := by
  obtain ⟨n, hn, j, hj, h0, rfl⟩ := hp
  exact (h.kid x hx n hn j hj).2
/-- from one that is met on: a part of what is met -/
theorem Vis.sub {ns : List TN} {ks : List Int} {l : List Nat} {d : Nat} (h : Vis ns ks l d) : ∀ x ∈ l, ∃ l' d', Vis ns [(x : Int)] l' d' ∧ (∀ y ∈ l', y ∈ l) ∧ d' ≤ d ∧ l'.length ≤ l.length := by
  induction h with
  | nil => intro x hx; simp at hx
  | cons j x ks l1 l2 d1 d2 h0 hx h1 h2 ih1 ih2 =>
    intro y hy
    rcases List.mem_cons.1 hy with rfl | hy
    · refine ⟨j.toNat :: (l1 ++ []), max (d1 + 1) 0, ?_, fun y hy => ?_, by omega, by simp⟩
      · have := Vis.cons (ns := ns) j x [] l1 [] d1 0 h0 hx h1 .nil
        rw [Int.toNat_of_nonneg h0]
        exact this
      · simp at hy ⊢
        rcases hy with hy | hy
        · exact .inl hy
        · exact .inr (.inl hy)
    · rcases List.mem_append.1 hy with hy | hy
      · obtain ⟨l', d', a, b, c, e⟩ := ih1 y hy
        exact ⟨l', d', a, fun z hz => by simp [b z hz], by omega, by simp; omega⟩
      · obtain ⟨l', d', a, b, c, e⟩ := ih2 y hy
        exact ⟨l', d', a, fun z hz => by simp [b z hz], by omega, by simp; omega⟩
/-- where each is met once: what one begins with is nobody's kid, and each kid has one parent -/
theorem Vis.uniq {ns : List TN} {ks : List Int} {l : List Nat} {d : Nat} (h : Vis ns ks l d) (hn : l.Nodup) : (∀ x ∈ l, ∀ j ∈ ks, ¬ Par ns x j.toNat) ∧ ∀ x ∈ l, ∀ x' ∈ l, ∀ y, Par ns x y → Par ns x' y → x = x' := by
  induction h with
  | nil => exact ⟨fun x hx => by simp at hx, fun x hx => by simp at hx⟩
  | cons j x ks l1 l2 d1 d2 h0 hx h1 h2 ih1 ih2 =>
    rw [List.nodup_cons, List.nodup_append] at hn
    obtain ⟨hj, hn1, hn2, hd⟩ := hn
    obtain ⟨a1, b1⟩ := ih1 hn1
    obtain ⟨a2, b2⟩ := ih2 hn2
    have hj1 : j.toNat ∉ l1 := fun h => hj (by simp [h])
    have hj2 : j.toNat ∉ l2 := fun h => hj (by simp [h])
    have top : ∀ y, Par ns j.toNat y → y ∈ l1 ∧ ∃ i ∈ x.kids, i.toNat = y := by
      rintro y ⟨n, hn, i, hi, hi0, rfl⟩
      rw [hx] at hn
      obtain rfl := Option.some.inj hn
      exact ⟨(h1.tops i hi).2, i, hi, rfl⟩
    constructor
    · intro y hy i hi hp
      have hil : i.toNat = j.toNat ∨ i.toNat ∈ l2 := by
        rcases List.mem_cons.1 hi with rfl | hi
        · exact .inl rfl
        · exact .inr (h2.tops i hi).2
      rcases List.mem_cons.1 hy with rfl | hy
      · have := (top _ hp).1
        rcases hil with e | e
        · rw [e] at this; exact hj1 this
        · exact hd _ this _ e rfl
      · rcases List.mem_append.1 hy with hy | hy
        · have := h1.par_mem hy hp
          rcases hil with e | e
          · rw [e] at this; exact hj1 this
          · exact hd _ this _ e rfl
        · have := h2.par_mem hy hp
          rcases List.mem_cons.1 hi with rfl | hi
          · exact hj2 this
          · exact a2 y hy i hi hp
    · intro y hy y' hy' z hp hp'
      rcases List.mem_cons.1 hy with rfl | hy
      · rcases List.mem_cons.1 hy' with rfl | hy'
        · rfl
        · obtain ⟨t1, i, hi, rfl⟩ := top z hp
          rcases List.mem_append.1 hy' with hy' | hy'
          · exact absurd hp' (a1 y' hy' i hi)
          · exact absurd rfl (hd _ t1 _ (h2.par_mem hy' hp'))
      · rcases List.mem_cons.1 hy' with rfl | hy'
        · obtain ⟨t1, i, hi, rfl⟩ := top z hp'
          rcases List.mem_append.1 hy with hy | hy
          · exact absurd hp (a1 y hy i hi)
          · exact absurd rfl (hd _ t1 _ (h2.par_mem hy hp))
        · rcases List.mem_append.1 hy with hy | hy <;> rcases List.mem_append.1 hy' with hy' | hy'
          · exact b1 y hy y' hy' z hp hp'
          · exact absurd rfl (hd _ (h1.par_mem hy hp) _ (h2.par_mem hy' hp'))
          · exact absurd rfl (hd _ (h1.par_mem hy' hp') _ (h2.par_mem hy hp))
          · exact b2 y hy y' hy' z hp hp'
/-- the way up from y to r, all of it among l -/
inductive Up (ns : List TN) (l : List Nat) (r : Nat) : Nat → List Nat → Prop
  | here : r ∈ l → Up ns l r r [r]
  | step (x y : Nat) (ps : List Nat) : x ∈ l → y ∈ l → Par ns x y → Up ns l r x ps → Up ns l r y (y :: ps)
theorem Up.more {ns : List TN} {l : List Nat} {r r' y : Nat} {ps : List Nat} (h : Up ns l r y ps) (hr : r' ∈ l) (hp : Par ns r' r) : Up ns l r' y (ps ++ [r']) := by
  induction h with
  | here hl => exact .step r' r [r'] hr hl hp (.here hr)
  | step x y ps hx hy hp' h ih => exact .step x y (ps ++ [r']) hx hy hp' ih
theorem Up.wide {ns : List TN} {l l' : List Nat} {r y : Nat} {ps : List Nat} (h : Up ns l r y ps) (hl : ∀ x ∈ l, x ∈ l') : Up ns l' r y ps := by
  induction h with
  | here h => exact .here (hl _ h)
  | step x y ps hx hy hp h ih => exact .step x y ps (hl _ hx) (hl _ hy) hp ih
theorem Vis.up {ns : List TN} {ks : List Int} {l : List Nat} {d : Nat} (h : Vis ns ks l d) : ∀ y ∈ l, ∃ j ∈ ks, ∃ ps, Up ns l j.toNat y ps ∧ ps.length ≤ d := by
  induction h with
  | nil => intro y hy; simp at hy
  | cons j x ks l1 l2 d1 d2 h0 hx h1 h2 ih1 ih2 =>
    intro y hy
    rcases List.mem_cons.1 hy with rfl | hy
    · exact ⟨j, by simp, [j.toNat], .here (by simp), by simp; omega⟩
    · rcases List.mem_append.1 hy with hy | hy
      · obtain ⟨i, hi, ps, hu, hl⟩ := ih1 y hy
        exact ⟨j, by simp, ps ++ [j.toNat], (hu.wide (fun z hz => by simp [hz])).more (by simp) ⟨x, hx, i, hi, (h1.tops i hi).1, rfl⟩, by simp; omega⟩
      · obtain ⟨i, hi, ps, hu, hl⟩ := ih2 y hy
        exact ⟨i, by simp [hi], ps, hu.wide (fun z hz => by simp [hz]), by omega⟩
theorem Up.head {ns : List TN} {l : List Nat} {r y : Nat} {ps : List Nat} (h : Up ns l r y ps) : ∃ qs, ps = y :: qs := by
  cases h with
  | here => exact ⟨[], rfl⟩
  | step x _ ps => exact ⟨ps, rfl⟩
theorem Up.mem {ns : List TN} {l : List Nat} {r y : Nat} {ps : List Nat} (h : Up ns l r y ps) : ∀ z ∈ ps, z ∈ l := by
  induction h with
  | here h => intro z hz; simp at hz; subst hz; exact h
  | step x y ps hx hy hp h ih =>
    intro z hz
    rcases List.mem_cons.1 hz with rfl | hz
    · exact hy
    · exact ih z hz
theorem Up.last {ns : List TN} {l : List Nat} {r y : Nat} {ps : List Nat} (h : Up ns l r y ps) : ps.getLast? = some r := by
  induction h with
  | here => rfl
  | step x y ps hx hy hp h ih =>
    obtain ⟨qs, rfl⟩ := h.head
    rw [List.getLast?_cons_cons]; exact ih

end Go.Proofs.YtbipgmikgokfpaaDoor
