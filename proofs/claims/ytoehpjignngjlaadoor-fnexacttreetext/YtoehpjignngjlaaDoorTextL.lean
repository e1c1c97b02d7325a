/- What a tree is printed as, in plain lists. -/
import Derived.Test.YtoehpjignngjlaaDoorNodeL
import Derived.Lib.ItoaNum
import Derived.Test.YtoehpjignngjlaaDoorStrBuf
import Derived.Lib.Builder
import Derived.Lib.AppendStr
import Derived.Lib.UnsafeStr
import Derived.Lib.Strings
import Derived.Laws.Externs
namespace Go.Proofs.YtoehpjignngjlaaDoor
set_option linter.unusedVariables false

/-- texts with one between each two -/
def joinB (sep : ByteArray) : List ByteArray → ByteArray
  | [] => ⟨#[]⟩
  | [t] => t
  | t :: u :: r => t ++ (sep ++ joinB sep (u :: r))
theorem joinB_snoc (sep : ByteArray) : ∀ (l : List ByteArray) (t : ByteArray), l ≠ [] → joinB sep (l ++ [t]) = joinB sep l ++ sep ++ t
  | [], t, h => absurd rfl h
  | [u], t, _ => by simp [joinB, ByteArray.append_assoc]
  | u :: v :: r, t, _ => by
    have ih := joinB_snoc sep (v :: r) t (by simp)
    show u ++ (sep ++ joinB sep (v :: r ++ [t])) = u ++ (sep ++ joinB sep (v :: r)) ++ sep ++ t
    rw [ih]
    simp only [ByteArray.append_assoc]
def sumB : List ByteArray → Nat
  | [] => 0
  | t :: r => t.size + 2 + sumB r
theorem sumB_append : ∀ (l r : List ByteArray), sumB (l ++ r) = sumB l + sumB r
  | [], r => by simp [sumB]
  | t :: l, r => by
    show t.size + 2 + sumB (l ++ r) = t.size + 2 + sumB l + sumB r
    rw [sumB_append l r]; omega
theorem joinB_size (sep : ByteArray) (hs : sep.size ≤ 2) : ∀ l : List ByteArray, (joinB sep l).size ≤ sumB l
  | [] => by show (0 : Nat) ≤ _; omega
  | [t] => by show t.size ≤ t.size + 2 + 0; omega
  | t :: u :: r => by
    have ih := joinB_size sep hs (u :: r)
    show (t ++ (sep ++ joinB sep (u :: r))).size ≤ t.size + 2 + sumB (u :: r)
    rw [ByteArray.size_append, ByteArray.size_append]; omega
def kid (l : List ByteArray) (i : Nat) : ByteArray := l.getD i ⟨#[]⟩
def qB (t : ByteArray) : ByteArray := ⟨(quoteL t.data.toList).toArray⟩
/-- what a node is printed as, its kids being printed so -/
def nodeT (x : TN) (l : List ByteArray) : ByteArray :=
  if x.k = 1 then ⟨(Lib.itoa x.n).toArray⟩
  else if x.k = 2 then qB x.t
  else if x.k = 3 then (if x.n = 1 then ⟨#[116, 114, 117, 101]⟩ else ⟨#[102, 97, 108, 115, 101]⟩)
  else if x.k = 4 then ⟨#[110, 117, 108, 108]⟩
  else if x.k = 5 then x.t
  else if x.k = 6 then ⟨#[40]⟩ ++ x.t ++ kid l 0 ++ ⟨#[41]⟩
  else if x.k = 7 then ⟨#[40]⟩ ++ kid l 0 ++ ⟨#[32]⟩ ++ x.t ++ ⟨#[32]⟩ ++ kid l 1 ++ ⟨#[41]⟩
  else if x.k = 8 then ⟨#[40]⟩ ++ kid l 0 ++ ⟨#[32, 38, 38, 32]⟩ ++ kid l 1 ++ ⟨#[41]⟩
  else if x.k = 9 then ⟨#[40]⟩ ++ kid l 0 ++ ⟨#[32, 124, 124, 32]⟩ ++ kid l 1 ++ ⟨#[41]⟩
  else if x.k = 10 then x.t ++ ⟨#[40]⟩ ++ joinB ⟨#[44, 32]⟩ l ++ ⟨#[41]⟩
  else if x.k = 11 then ⟨#[108, 101, 116, 32]⟩ ++ x.t ++ ⟨#[32, 61, 32]⟩ ++ kid l 0 ++ ⟨#[59]⟩
  else if x.k = 12 then x.t ++ ⟨#[32, 61, 32]⟩ ++ kid l 0 ++ ⟨#[59]⟩
  else if x.k = 13 then (if l.length = 3 then ⟨#[105, 102, 32, 40]⟩ ++ kid l 0 ++ ⟨#[41, 32]⟩ ++ kid l 1 ++ (⟨#[32, 101, 108, 115, 101, 32]⟩ ++ kid l 2) else ⟨#[105, 102, 32, 40]⟩ ++ kid l 0 ++ ⟨#[41, 32]⟩ ++ kid l 1)
  else if x.k = 14 then ⟨#[119, 104, 105, 108, 101, 32, 40]⟩ ++ kid l 0 ++ ⟨#[41, 32]⟩ ++ kid l 1
  else if x.k = 15 then ⟨#[114, 101, 116, 117, 114, 110, 32]⟩ ++ kid l 0 ++ ⟨#[59]⟩
  else if x.k = 16 then ⟨#[116, 104, 114, 111, 119, 32]⟩ ++ kid l 0 ++ ⟨#[59]⟩
  else if x.k = 17 then ⟨#[116, 114, 121, 32]⟩ ++ kid l 0 ++ ⟨#[32, 99, 97, 116, 99, 104, 32, 40]⟩ ++ x.t ++ ⟨#[41, 32]⟩ ++ kid l 1
  else if x.k = 19 then kid l 0 ++ ⟨#[59]⟩
  else if x.k = 20 then ⟨#[102, 117, 110, 99, 116, 105, 111, 110, 32]⟩ ++ x.t ++ ⟨#[40]⟩ ++ joinB ⟨#[44, 32]⟩ x.names ++ ⟨#[41, 32]⟩ ++ kid l 0
  else if l.length = 0 then ⟨#[123, 32, 125]⟩
  else ⟨#[123, 32]⟩ ++ joinB ⟨#[32]⟩ l ++ ⟨#[32, 125]⟩
/-- what some nodes are printed as -/
inductive TxtR (ns : List TN) : List Int → List ByteArray → Prop
  | nil : TxtR ns [] []
  | cons (j : Int) (x : TN) (ks : List Int) (l ts : List ByteArray) : 0 ≤ j → ns[j.toNat]? = some x → TxtR ns x.kids l → TxtR ns ks ts → TxtR ns (j :: ks) (nodeT x l :: ts)
theorem TxtR.inv {ns : List TN} {j : Int} {ks : List Int} {ts : List ByteArray} (h : TxtR ns (j :: ks) ts) : ∃ x l ts', 0 ≤ j ∧ ns[j.toNat]? = some x ∧ TxtR ns x.kids l ∧ TxtR ns ks ts' ∧ ts = nodeT x l :: ts' := by
  cases h with
  | cons _ x _ l ts' h0 hx h1 h2 => exact ⟨x, l, ts', h0, hx, h1, h2, rfl⟩
theorem TxtR.det {ns : List TN} {ks : List Int} {a b : List ByteArray} (h : TxtR ns ks a) (h' : TxtR ns ks b) : a = b := by
  induction h generalizing b with
  | nil => cases h'; rfl
  | cons j x ks l ts h0 hx h1 h2 ih1 ih2 =>
    obtain ⟨x', l', ts', _, hx', g1, g2, rfl⟩ := h'.inv
    rw [hx] at hx'
    obtain rfl := Option.some.inj hx'
    obtain rfl := ih1 g1
    rw [ih2 g2]
theorem TxtR.len {ns : List TN} {ks : List Int} {a : List ByteArray} (h : TxtR ns ks a) : a.length = ks.length := by
  induction h with
  | nil => rfl
  | cons j x ks l ts h0 hx h1 h2 ih1 ih2 => simp [ih2]
theorem TxtR.append {ns : List TN} {us bs : List Int} {l r : List ByteArray} (h : TxtR ns us l) (h' : TxtR ns bs r) : TxtR ns (us ++ bs) (l ++ r) := by
  induction h with
  | nil => exact h'
  | cons j x ks l ts h0 hx h1 h2 ih1 ih2 => exact .cons j x _ l _ h0 hx h1 ih2
theorem TxtR.split {ns : List TN} : ∀ {us bs : List Int} {l : List ByteArray}, TxtR ns (us ++ bs) l → ∃ l1 l2, TxtR ns us l1 ∧ TxtR ns bs l2 ∧ l = l1 ++ l2
  | [], bs, l, h => ⟨[], l, .nil, h, rfl⟩
  | j :: us, bs, l, h => by
    obtain ⟨x, l0, ts', h0, hx, h1, h2, rfl⟩ := TxtR.inv (by simpa using h)
    obtain ⟨a, b, ha, hb, rfl⟩ := TxtR.split h2
    exact ⟨nodeT x l0 :: a, b, .cons j x us l0 a h0 hx h1 ha, hb, rfl⟩
theorem TxtR.at {ns : List TN} {ks : List Int} {l : List ByteArray} {m : Nat} (h : TxtR ns ks l) (hm : m < ks.length) : ∃ t, TxtR ns [ks[m]] [t] ∧ l[m]? = some t ∧ TxtR ns (ks.take m) (l.take m) ∧ l.take (m + 1) = l.take m ++ [t] := by
  have e1 : ks = ks.take m ++ ([ks[m]] ++ ks.drop (m + 1)) := by simp
  rw [e1] at h
  obtain ⟨a, b, ha, hb, rfl⟩ := h.split
  obtain ⟨c, d, hc, hd, rfl⟩ := hb.split
  have la : a.length = m := by rw [ha.len, List.length_take]; omega
  obtain ⟨x, l0, ts', h0, hx, h1, h2, rfl⟩ := hc.inv
  cases h2
  refine ⟨_, hc, ?_, ?_, ?_⟩
  · rw [List.getElem?_append_right (by omega), la]; simp
  · rw [List.take_left' la]; exact ha
  · rw [List.take_left' la, List.take_append, la, List.take_of_length_le (by omega)]
    simp
/-- sizes: a node's own part -/
def FitsT (x : TN) : Prop := x.t.size ≤ 1048576 ∧ x.names.length ≤ 1048576 ∧ (∀ s ∈ x.names, s.size ≤ 20) ∧ (x.k = 1 → 0 ≤ x.n ∧ x.n ≤ 2147483647)
theorem esc_len : ∀ l : List UInt8, (l.flatMap escC).length ≤ 2 * l.length
  | [] => by simp
  | c :: l => by
    have := esc_len l
    have h1 : (escC c).length ≤ 2 := by unfold escC; split <;> simp
    rw [List.flatMap_cons, List.length_append, List.length_cons]; omega
theorem qB_size (t : ByteArray) : (qB t).size ≤ 2 * t.size + 2 := by
  have h1 := esc_len t.data.toList
  have h2 : t.data.toList.length = t.size := Array.length_toList
  show (quoteL t.data.toList).toArray.size ≤ _
  unfold quoteL
  rw [List.size_toArray, List.length_cons, List.length_append, List.length_cons, List.length_nil]; omega
theorem sumB_names : ∀ l : List ByteArray, (∀ s ∈ l, s.size ≤ 20) → sumB l ≤ 22 * l.length
  | [], _ => by simp [sumB]
  | t :: l, h => by
    have := sumB_names l (fun s hs => h s (by simp [hs]))
    have h1 := h t (by simp)
    show t.size + 2 + sumB l ≤ _
    rw [List.length_cons]; omega
theorem sumB_kid : ∀ (l : List ByteArray) (i : Nat), (kid l i).size + 2 ≤ sumB l ∨ (kid l i).size = 0
  | [], i => .inr (by simp [kid]; rfl)
  | t :: l, 0 => .inl (by show t.size + 2 ≤ t.size + 2 + sumB l; omega)
  | t :: l, i + 1 => by
    have := sumB_kid l i
    rcases this with h | h
    · exact .inl (by show (kid l i).size + 2 ≤ t.size + 2 + sumB l; omega)
    · exact .inr h
theorem sumB_kids : ∀ (l : List ByteArray), (kid l 0).size + (kid l 1).size + (kid l 2).size ≤ sumB l
  | [] => by simp [kid, sumB]; rfl
  | [a] => by show a.size + 0 + 0 ≤ a.size + 2 + 0; omega
  | [a, b] => by show a.size + b.size + 0 ≤ a.size + 2 + (b.size + 2 + 0); omega
  | a :: b :: c :: r => by show a.size + b.size + c.size ≤ a.size + 2 + (b.size + 2 + (c.size + 2 + sumB r)); omega
theorem sz (a b : ByteArray) : (a ++ b).size = a.size + b.size := ByteArray.size_append
theorem nodeT_size {x : TN} (h : FitsT x) (l : List ByteArray) : (nodeT x l).size ≤ 25300000 + sumB l := by
  obtain ⟨h1, h2, h3, h4⟩ := h
  have hq := qB_size x.t
  have hj := joinB_size ⟨#[44, 32]⟩ (by decide) l
  have hj2 := joinB_size ⟨#[32]⟩ (by decide) l
  have hn := joinB_size ⟨#[44, 32]⟩ (by decide) x.names
  have hnn := sumB_names x.names h3
  have hk := sumB_kids l
  have c0 : (⟨#[102, 117, 110, 99, 116, 105, 111, 110, 32]⟩ : ByteArray).size = 9 := rfl
  have c1 : (⟨#[102, 97, 108, 115, 101]⟩ : ByteArray).size = 5 := rfl
  have c2 : (⟨#[105, 102, 32, 40]⟩ : ByteArray).size = 4 := rfl
  have c3 : (⟨#[108, 101, 116, 32]⟩ : ByteArray).size = 4 := rfl
  have c4 : (⟨#[110, 117, 108, 108]⟩ : ByteArray).size = 4 := rfl
  have c5 : (⟨#[114, 101, 116, 117, 114, 110, 32]⟩ : ByteArray).size = 7 := rfl
  have c6 : (⟨#[116, 104, 114, 111, 119, 32]⟩ : ByteArray).size = 6 := rfl
  have c7 : (⟨#[116, 114, 117, 101]⟩ : ByteArray).size = 4 := rfl
  have c8 : (⟨#[116, 114, 121, 32]⟩ : ByteArray).size = 4 := rfl
  have c9 : (⟨#[119, 104, 105, 108, 101, 32, 40]⟩ : ByteArray).size = 7 := rfl
  have c10 : (⟨#[123, 32]⟩ : ByteArray).size = 2 := rfl
  have c11 : (⟨#[123, 32, 125]⟩ : ByteArray).size = 3 := rfl
  have c12 : (⟨#[32]⟩ : ByteArray).size = 1 := rfl
  have c13 : (⟨#[32, 101, 108, 115, 101, 32]⟩ : ByteArray).size = 6 := rfl
  have c14 : (⟨#[32, 124, 124, 32]⟩ : ByteArray).size = 4 := rfl
  have c15 : (⟨#[32, 125]⟩ : ByteArray).size = 2 := rfl
  have c16 : (⟨#[32, 38, 38, 32]⟩ : ByteArray).size = 4 := rfl
  have c17 : (⟨#[32, 61, 32]⟩ : ByteArray).size = 3 := rfl
  have c18 : (⟨#[32, 99, 97, 116, 99, 104, 32, 40]⟩ : ByteArray).size = 8 := rfl
  have c19 : (⟨#[40]⟩ : ByteArray).size = 1 := rfl
  have c20 : (⟨#[41]⟩ : ByteArray).size = 1 := rfl
  have c21 : (⟨#[41, 32]⟩ : ByteArray).size = 2 := rfl
  have c22 : (⟨#[44, 32]⟩ : ByteArray).size = 2 := rfl
  have c23 : (⟨#[59]⟩ : ByteArray).size = 1 := rfl
  have z1 : ∀ a : Array UInt8, (⟨a⟩ : ByteArray).size = a.size := fun a => rfl
  unfold nodeT
  by_cases h : x.k = 1
  · rw [if_pos h]
    have := h4 h
    rw [z1, List.size_toArray]
    have hi : Lib.itoa x.n = Lib.decDigits x.n.toNat := by unfold Lib.itoa; rw [if_neg (by omega)]
    rw [hi, Lib.decDigits_length]
    have hd : Lib.nDigits x.n.toNat ≤ 10 := by
      have e := Lib.decDigits_length x.n.toNat
      rw [← e]
      have dl : ∀ (k n : Nat), n < 10 ^ (k + 1) → (Lib.decDigits n).length ≤ k + 1 := by
        intro k
        induction k with
        | zero => intro n hn; rw [Lib.decDigits, dif_pos (by omega)]; simp
        | succ k ih =>
          intro n hn
          rw [Lib.decDigits]
          split
          · simp
          · rw [List.length_append]
            have := ih (n / 10) (by rw [Nat.pow_succ] at hn; exact Nat.div_lt_of_lt_mul (by omega))
            simp; omega
      exact dl 9 _ (by omega)
    omega
  rw [if_neg h]
  by_cases k2 : x.k = 2
  · rw [if_pos k2]; omega
  rw [if_neg k2]
  by_cases k3 : x.k = 3
  · rw [if_pos k3]
    split
    · first | omega | (simp only [sz]; omega)
    · first | omega | (simp only [sz]; omega)
  rw [if_neg k3]
  by_cases k4 : x.k = 4
  · rw [if_pos k4]; first | omega | (simp only [sz]; omega)
  rw [if_neg k4]
  by_cases k5 : x.k = 5
  · rw [if_pos k5]; omega
  rw [if_neg k5]
  by_cases k6 : x.k = 6
  · rw [if_pos k6]; first | omega | (simp only [sz]; omega)
  rw [if_neg k6]
  by_cases k7 : x.k = 7
  · rw [if_pos k7]; first | omega | (simp only [sz]; omega)
  rw [if_neg k7]
  by_cases k8 : x.k = 8
  · rw [if_pos k8]; first | omega | (simp only [sz]; omega)
  rw [if_neg k8]
  by_cases k9 : x.k = 9
  · rw [if_pos k9]; first | omega | (simp only [sz]; omega)
  rw [if_neg k9]
  by_cases k10 : x.k = 10
  · rw [if_pos k10]; first | omega | (simp only [sz]; omega)
  rw [if_neg k10]
  by_cases k11 : x.k = 11
  · rw [if_pos k11]; first | omega | (simp only [sz]; omega)
  rw [if_neg k11]
  by_cases k12 : x.k = 12
  · rw [if_pos k12]; first | omega | (simp only [sz]; omega)
  rw [if_neg k12]
  by_cases k13 : x.k = 13
  · rw [if_pos k13]
    split
    · first | omega | (simp only [sz]; omega)
    · first | omega | (simp only [sz]; omega)
  rw [if_neg k13]
  by_cases k14 : x.k = 14
  · rw [if_pos k14]; first | omega | (simp only [sz]; omega)
  rw [if_neg k14]
  by_cases k15 : x.k = 15
  · rw [if_pos k15]; first | omega | (simp only [sz]; omega)
  rw [if_neg k15]
  by_cases k16 : x.k = 16
  · rw [if_pos k16]; first | omega | (simp only [sz]; omega)
  rw [if_neg k16]
  by_cases k17 : x.k = 17
  · rw [if_pos k17]; first | omega | (simp only [sz]; omega)
  rw [if_neg k17]
  by_cases k19 : x.k = 19
  · rw [if_pos k19]; first | omega | (simp only [sz]; omega)
  rw [if_neg k19]
  by_cases k20 : x.k = 20
  · rw [if_pos k20]; first | omega | (simp only [sz]; omega)
  rw [if_neg k20]
  split
  · first | omega | (simp only [sz]; omega)
  · first | omega | (simp only [sz]; omega)
/-- sizes of all that is met -/
theorem TxtR.size {ns : List TN} (hf : ∀ x ∈ ns, FitsT x) {ks : List Int} {l : List Nat} {d : Nat} {ts : List ByteArray} (hv : Vis ns ks l d) (h : TxtR ns ks ts) : sumB ts ≤ 25300002 * l.length := by
  induction hv generalizing ts with
  | nil => cases h; simp [sumB]
  | cons j x ks l1 l2 d1 d2 h0 hx h1 h2 ih1 ih2 =>
    obtain ⟨x', tk, ts', _, hx', g1, g2, rfl⟩ := h.inv
    rw [hx] at hx'
    obtain rfl := Option.some.inj hx'
    have a := ih1 g1
    have b := ih2 g2
    have c := nodeT_size (hf x (List.mem_of_getElem? hx)) tk
    show (nodeT x tk).size + 2 + sumB ts' ≤ _
    rw [List.length_cons, List.length_append]; omega
theorem TxtR.ex {ns : List TN} {ks : List Int} {l : List Nat} {d : Nat} (hv : Vis ns ks l d) : ∃ ts, TxtR ns ks ts := by
  induction hv with
  | nil => exact ⟨[], .nil⟩
  | cons j x ks l1 l2 d1 d2 h0 hx h1 h2 ih1 ih2 =>
    obtain ⟨a, ha⟩ := ih1
    obtain ⟨b, hb⟩ := ih2
    exact ⟨nodeT x a :: b, .cons j x ks a b h0 hx ha hb⟩
open Go.RowKit Go.Joins

/-- the writer: its two cells lie in block b, its bytes from B on -/
def Tw (B b : Nat) (l : List UInt8) (w : World) : Prop := Lib.IsBuilder 54 5 B b (Lib.byteCells l) w
theorem Tw.later {B b : Nat} {l : List UInt8} {w0 w : World} (h0 : Tw B b l w0) (hb0 : Below w0.heap.size w0 w) : Tw B b l w := by
  have hc : ∀ v, w0.ownsRow B 5 1 v (Lib.byteCells l).length (Lib.byteCells l) → w.ownsRow B 5 1 v (Lib.byteCells l).length (Lib.byteCells l) := fun v ho => by
    rw [Lib.byteCells_length] at ho ⊢
    exact Buf.later (t := l) ho hb0
  rcases h0 with ⟨hB, v0, hk, ho, hne⟩ | ⟨hB, v0, hk, ho, hne⟩
  · refine .inl ⟨hB, v0, ?_, hc v0 ho, hne⟩
    rw [hb0.block b (Array.getElem?_eq_some_iff.1 hk).1]; exact hk
  · refine .inr ⟨hB, v0, ?_, hc v0 ho, hne⟩
    rw [hb0.block b (Array.getElem?_eq_some_iff.1 hk).1]; exact hk
theorem Tw.lt {B b : Nat} {l : List UInt8} {w : World} (h : Tw B b l w) : B ≤ b ∧ b < w.heap.size := by
  rcases h with ⟨hB, _, hk, _⟩ | ⟨hB, _, hk, _⟩ <;> exact ⟨hB, (Array.getElem?_eq_some_iff.1 hk).1⟩
/-- rows of texts stay -/
def TxtStay (w w' : World) : Prop := ∀ (k : Nat) (cs : Array Value), w.heap[k]? = some (Obj.cells cs 9 (0, 0)) → w'.heap[k]? = some (Obj.cells cs 9 (0, 0))
theorem TxtStay.refl (w : World) : TxtStay w w := fun _ _ h => h
theorem TxtStay.trans {a b c : World} (h : TxtStay a b) (k : TxtStay b c) : TxtStay a c := fun i cs hi => k i cs (h i cs hi)

set_option maxHeartbeats 1000000 in
set_option maxRecDepth 100000 in
theorem twCheck_used (b : Nat) (w : World) (h0 : w.cell? ⟨b, 0, none⟩ = some (.pointer (some ⟨b, 0, none⟩))) :
    Calls Tryd.prog 45 #[.pointer (some ⟨b, 0, none⟩)] w fun e w' => e = .returned (.tuple #[]) ∧ w' = w := by
  obtain ⟨j, hj, _⟩ := Option.map_eq_some_iff.1 (show (Tryd.prog.info? 52).map (·.size) = some 2 by kernel_rfl)
  go_enter Tryd.func45, Tryd.ntmps45
  go_wp2
  rw [Lib.run_neq_ptr_same w _ Tryd.underlying49 hj]
  go_wp2
  go_end0
  exact ⟨rfl, rfl⟩

set_option maxHeartbeats 1000000 in
set_option maxRecDepth 100000 in
theorem twCheck_fresh (b : Nat) (w : World) (h0 : w.cell? ⟨b, 0, none⟩ = some (.pointer none)) (hsh : w.shape? b = some (54, 2)) (hfz : w.frozen? ⟨b, 0, none⟩ = false) :
    Calls Tryd.prog 45 #[.pointer (some ⟨b, 0, none⟩)] w fun e w' => e = .returned (.tuple #[]) ∧ w' = w.setCell ⟨b, 0, none⟩ (.pointer (some ⟨b, 0, none⟩)) := by
  obtain ⟨j, hj, hjs⟩ := Option.map_eq_some_iff.1 (show (Tryd.prog.info? 52).map (·.size) = some 2 by kernel_rfl)
  go_enter Tryd.func45, Tryd.ntmps45
  go_wp2
  rw [Lib.run_to_unsafe w ⟨b, 0, none⟩ Tryd.underlying49 Tryd.underlying111 hj (by rw [hjs]; decide) hsh (Nat.zero_lt_succ 1)]
  simp only [Result.andThen]
  rw [Oper.upon_value]
  go_wp2
  rw [run_callFunc_extern Tryd.func64 (by kernel_rfl) (by kernel_rfl) (by kernel_rfl) (e := Extern.AbiNoEscape.same) (by kernel_rfl)]
  rw [Lib.run_noEscape]
  simp only [Result.andThen]
  rw [Oper.upon_value]
  go_wp2
  rw [Lib.run_from_unsafe w ⟨b, 0, none⟩ Tryd.underlying111 Tryd.underlying49 hj hsh (by kernel_rfl)]
  simp only [Result.andThen]
  rw [Oper.upon_value]
  go_wp2
  go_end0
  exact ⟨rfl, rfl⟩

theorem twCheck_any (B b : Nat) (bs : List Value) (w : World) (h : Lib.IsBuilder 54 5 B b bs w) :
    Calls Tryd.prog 45 #[.pointer (some ⟨b, 0, none⟩)] w fun e w' => e = .returned (.tuple #[]) ∧ Lib.BuilderAt 54 5 B b (.pointer (some ⟨b, 0, none⟩)) bs w' ∧ Below B w w' ∧ w.heap.size ≤ w'.heap.size ∧ ∀ k, k ≠ b → w'.heap[k]? = w.heap[k]? := by
  rcases h with h | h
  · refine (twCheck_fresh b w h.cell0 h.shape h.frozen0).mono ?_
    rintro e w' ⟨rfl, rfl⟩
    refine ⟨rfl, h.used _, (Below.refl B w).setCell (p := ⟨b, 0, none⟩) h.1 _, by simp [World.setCell], fun k hk => ?_⟩
    exact Below.heap_setCell _ _ _ _ (fun e => hk e)
  · refine (twCheck_used b w h.cell0).mono ?_
    rintro e w' ⟨rfl, rfl⟩
    exact ⟨rfl, h, Below.refl B _, Nat.le_refl _, fun _ _ => rfl⟩

set_option maxHeartbeats 2000000 in
set_option maxRecDepth 100000 in
theorem twWriteString_any (B b : Nat) (l : List UInt8) (s : ByteArray) (w : World) (h : Tw B b l w) (hlen : l.length + s.size ≤ 140737488355328) (hBw : B ≤ w.heap.size) :
    Calls Tryd.prog 32 #[.pointer (some ⟨b, 0, none⟩), .string s] w fun e w' => e = .returned (.tuple #[.int .i64 s.size, .nilIface]) ∧ Tw B b (l ++ s.data.toList) w' ∧ Below B w w' ∧ TxtStay w w' := by
  obtain ⟨i0, hi, hz0, hz1, hz2⟩ := info_parts infoByte
  go_enter Tryd.func32, Tryd.ntmps32
  go_wp2_with fail
  refine (twCheck_any B b _ w h).mono ?_
  rintro e w1 ⟨rfl, h1, hb1, _, hst1⟩
  obtain ⟨hB, v, hbk, hown, hne⟩ := h1
  have c0 : w1.cell? ⟨b, 0, none⟩ = some (.pointer (some ⟨b, 0, none⟩)) := by rw [Lib.cell_of_heap hbk]; rfl
  have c1 : w1.cell? ⟨b, 1, none⟩ = some v := by rw [Lib.cell_of_heap hbk]; rfl
  have hll : (Lib.byteCells l).length = l.length := Lib.byteCells_length l
  go_wp2_with (at_builtin; refine Lib.wpList_append_own_string _ rfl _ _ 50 9 rfl B 5 i0 Tryd.underlying50 Tryd.underlying9 hi hz0 hz1 hz2 _ _ _ rfl hown s rfl ?c3 ?c4 ?c5 ?_)
  case c3 => unfold maxLen; omega
  case c4 => omega
  case c5 => have := hb1.size; omega
  intro v' w2 hown' hgrow _
  have hlt : b < w1.heap.size := by
    rcases Nat.lt_or_ge b w1.heap.size with h' | h'
    · exact h'
    · simp [Array.getElem?_eq_none h'] at hbk
  have hb2 : w2.heap[b]? = some (.cells #[.pointer (some ⟨b, 0, none⟩), v] 54 (0, 0)) := by
    rw [hgrow.block b hlt (fun e => hne e.symm)]
    exact hbk
  have d0 : w2.cell? ⟨b, 0, none⟩ = some (.pointer (some ⟨b, 0, none⟩)) := by rw [Lib.cell_of_heap hb2]; rfl
  have d1 : w2.cell? ⟨b, 1, none⟩ = some v := by rw [Lib.cell_of_heap hb2]; rfl
  have f1 : w2.frozen? ⟨b, 1, none⟩ = false := Lib.frozen_of_heap hb2 1
  obtain ⟨ao, n', cap, rfl⟩ : ∃ ao n' cap, v' = .slice ao n' cap := by
    rcases hown'.2 with ⟨hv, _⟩ | ⟨g, cap, cur, hv, _⟩
    · exact ⟨_, _, _, hv⟩
    · exact ⟨_, _, _, hv⟩
  have HF : Hid (Tw B b (l ++ s.data.toList) (w2.setCell ⟨b, 1, none⟩ (.slice ao n' cap))) := hide (.inr (Lib.BuilderAt.put (T := 54) (e := 5) hB hb2 (bs' := Lib.byteCells (l ++ s.data.toList)) (by
    have : Lib.byteCells (l ++ s.data.toList) = Lib.byteCells l ++ Lib.strCells s := by simp [Lib.byteCells, Lib.strCells]
    rw [this, List.length_append, hll, Lib.strCells_length]
    exact hown') (by decide)))
  have HB : Hid (Below B w (w2.setCell ⟨b, 1, none⟩ (.slice ao n' cap))) := hide ((hb1.grown hgrow (by have := hb1.size; omega) (fun k hk => (hown.lt k hk).1)).setCell (p := ⟨b, 1, none⟩) hB _)
  have HT : Hid (TxtStay w (w2.setCell ⟨b, 1, none⟩ (.slice ao n' cap))) := hide (fun k cs hk => by
    have hkb : k ≠ b := fun e => by
      subst e
      rcases h with ⟨_, v0, h0, _⟩ | ⟨_, v0, h0, _⟩ <;> (rw [hk] at h0; simp at h0)
    have hk1 : w1.heap[k]? = some (Obj.cells cs 9 (0, 0)) := by rw [hst1 k hkb]; exact hk
    have hkl : k < w1.heap.size := (Array.getElem?_eq_some_iff.1 hk1).1
    rw [Below.heap_setCell, hgrow.block k hkl]
    · exact hk1
    · exact fun e => Lib.ownBlock_ne hown hk1 (by decide) e.symm
    · exact fun e => hkb e)
  clear hown hown' hgrow hst1 hb1 h
  go_wp2
  go_ret2
  exact ⟨rfl, unhide HF, unhide HB, unhide HT⟩

set_option maxHeartbeats 2000000 in
set_option maxRecDepth 100000 in
theorem twWrite_any (B b g cap : Nat) (l t : List UInt8) (w0 w : World) (h0 : Tw B b l w0) (hb0 : Below w0.heap.size w0 w) (hown0 : Buf w w0.heap.size (.slice (some ⟨g, 0, none⟩) t.length cap) t) (hlen : l.length + t.length ≤ 140737488355328) (hBw : B ≤ w0.heap.size) :
    Calls Tryd.prog 47 #[.pointer (some ⟨b, 0, none⟩), .slice (some ⟨g, 0, none⟩) t.length cap] w fun e w' => e = .returned (.tuple #[.int .i64 t.length, .nilIface]) ∧ Tw B b (l ++ t) w' ∧ Below B w0 w' := by
  obtain ⟨i0, hi, hz0, hz1, hz2⟩ := info_parts infoByte
  have hgl : w0.heap.size ≤ g ∧ g < w.heap.size := hown0.lt g rfl
  have hws := hb0.size
  have h : Tw B b l w := h0.later hb0
  have hbl : b < w0.heap.size := by
    rcases h0 with ⟨_, _, hk, _⟩ | ⟨_, _, hk, _⟩ <;> exact (Array.getElem?_eq_some_iff.1 hk).1
  have hbuf : ∀ v, w.heap[b]? = some (Obj.cells #[.pointer (some ⟨b, 0, none⟩), v] 54 (0, 0)) ∨ w.heap[b]? = some (Obj.cells #[.pointer none, v] 54 (0, 0)) → v.ownBlock ≠ some g := fun v hv e => by
    rcases h0 with ⟨_, v0, hk, ho, _⟩ | ⟨_, v0, hk, ho, _⟩ <;>
    · rw [hb0.block b hbl, hk] at hv
      have hvv : v0 = v := by simpa using hv
      have := (ho.lt g (by rw [hvv]; exact e)).2
      omega
  go_enter Tryd.func47, Tryd.ntmps47
  go_wp2_with fail
  refine (twCheck_any B b _ w h).mono ?_
  rintro e w1 ⟨rfl, h1, hb1, hs1, hst1⟩
  obtain ⟨hB, v, hbk, hown, hne⟩ := h1
  have c0 : w1.cell? ⟨b, 0, none⟩ = some (.pointer (some ⟨b, 0, none⟩)) := by rw [Lib.cell_of_heap hbk]; rfl
  have c1 : w1.cell? ⟨b, 1, none⟩ = some v := by rw [Lib.cell_of_heap hbk]; rfl
  have hll : (Lib.byteCells l).length = l.length := Lib.byteCells_length l
  have htl : (Lib.byteCells t).length = t.length := Lib.byteCells_length t
  have HCE : Hid (∀ j u, (Lib.byteCells t)[j]? = some u → w1.cell? ((⟨g, 0, none⟩ : Addr).add j) = some u) := hide (fun j u hj => by
    have h3 := World.ownsRow.cells (g := g) hown0 rfl j u hj
    have h4 : w1.heap[g]? = w.heap[g]? := hst1 g (by omega)
    have e : ∀ o, w1.cell? ⟨g, o, none⟩ = w.cell? ⟨g, o, none⟩ := fun o => by simp [World.cell?, h4]
    have h5 : (⟨g, 0, none⟩ : Addr).add j = ⟨g, j, none⟩ := by
      simp [Addr.add]
      intro h
      exact h.symm
    rw [h5] at h3 ⊢
    exact (e j).trans h3)
  go_wp2_with (at_builtin; refine wpList_append_own _ rfl _ _ 50 rfl B 5 i0 (.int .u8 0) 1 1 Tryd.underlying50 hi hz0 hz1 hz2 rfl (by decide) _ _ _ rfl hown ⟨g, 0, none⟩ t.length cap (Lib.byteCells t) rfl ?d1 ?d2 ?d3 ?d4 ?d5 ?d6 ?_)
  case d1 => first | rfl | simp [htl]
  case d2 => intro j u hj; simpa using unhide HCE j u hj
  case d3 =>
    intro u hu
    simp [Lib.byteCells] at hu
    obtain ⟨x, _, rfl⟩ := hu
    rfl
  case d4 => unfold maxLen; omega
  case d5 => omega
  case d6 => omega
  intro v' w2 hown' hgrow _
  have hlt : b < w1.heap.size := (Array.getElem?_eq_some_iff.1 hbk).1
  have hb2 : w2.heap[b]? = some (.cells #[.pointer (some ⟨b, 0, none⟩), v] 54 (0, 0)) := by
    rw [hgrow.block b hlt (fun e => hne e.symm)]
    exact hbk
  have d0 : w2.cell? ⟨b, 0, none⟩ = some (.pointer (some ⟨b, 0, none⟩)) := by rw [Lib.cell_of_heap hb2]; rfl
  have d1 : w2.cell? ⟨b, 1, none⟩ = some v := by rw [Lib.cell_of_heap hb2]; rfl
  have f1 : w2.frozen? ⟨b, 1, none⟩ = false := Lib.frozen_of_heap hb2 1
  obtain ⟨ao, n', cap', rfl⟩ : ∃ ao n' cap, v' = .slice ao n' cap := by
    rcases hown'.2 with ⟨hv, _⟩ | ⟨g, cap, cur, hv, _⟩
    · exact ⟨_, _, _, hv⟩
    · exact ⟨_, _, _, hv⟩
  have HF : Hid (Tw B b (l ++ t) (w2.setCell ⟨b, 1, none⟩ (.slice ao n' cap'))) := hide (.inr (Lib.BuilderAt.put (T := 54) (e := 5) hB hb2 (bs' := Lib.byteCells (l ++ t)) (by
    have : Lib.byteCells (l ++ t) = Lib.byteCells l ++ Lib.byteCells t := by simp [Lib.byteCells]
    rw [this, List.length_append, hll, htl]
    first | exact hown' | simpa [hll, htl] using hown') (by decide)))
  have HB : Hid (Below B w0 (w2.setCell ⟨b, 1, none⟩ (.slice ao n' cap'))) := hide ((((hb0.mono hBw).trans hb1).grown hgrow (by omega) (fun k hk => (hown.lt k hk).1)).setCell (p := ⟨b, 1, none⟩) hB _)
  clear hown hown' hgrow hst1 hb1 h h0 hown0 hbuf
  go_wp2
  go_ret2
  exact ⟨rfl, unhide HF, unhide HB⟩

set_option maxHeartbeats 1000000 in
set_option maxRecDepth 100000 in
theorem twString_some (B b : Nat) (l : List UInt8) (w : World) (h : Tw B b l w) (h0 : l ≠ []) :
    Calls Tryd.prog 20 #[.pointer (some ⟨b, 0, none⟩)] w fun e w' => e = .returned (.string ⟨l.toArray⟩) ∧ Below B w w' := by
  obtain ⟨p, hB, v, hbk, hown, hne⟩ : ∃ p, Lib.BuilderAt 54 5 B b p (Lib.byteCells l) w := by
    rcases h with h | h
    · exact ⟨_, h⟩
    · exact ⟨_, h⟩
  have hl0 : l.length ≠ 0 := by simpa using h0
  rw [Lib.byteCells_length] at hown
  obtain ⟨g, cap, cur, rfl, hbg, hg, hnc, hcm, hcs, htake⟩ : ∃ g cap cur, v = .slice (some ⟨g, 0, none⟩) l.length cap ∧ B ≤ g ∧ w.heap[g]? = some (.cells cur 5 (0, 0)) ∧ l.length ≤ cap ∧ cap ≤ maxLen ∧ cur.size = cap * 1 ∧ cur.toList.take (l.length * 1) = Lib.byteCells l := by
    rcases hown.2 with ⟨_, hz⟩ | ⟨g, cap, cur, hv, r⟩
    · exact absurd hz hl0
    · exact ⟨g, cap, cur, hv, r⟩
  have c1 : w.drew.cell? ⟨b, 1, none⟩ = some (.slice (some ⟨g, 0, none⟩) l.length cap) := by
    have : w.drew.heap[b]? = some (.cells #[p, .slice (some ⟨g, 0, none⟩) l.length cap] 54 (0, 0)) := hbk
    rw [Lib.cell_of_heap this]; rfl
  have hSD : (Builtin.unsafeSliceData_ #[50] 85 #[.slice (some ⟨g, 0, none⟩) l.length cap]).run Tryd.prog w.drew = .ok (.pointer (some ⟨g, 0, none⟩)) w.drew :=
    Lib.run_unsafeSliceData_row _ _ _ _ _ _ (by omega)
  have hUS : (Builtin.unsafeString_ #[85, 3] 9 #[.pointer (some ⟨g, 0, none⟩), .int .i64 l.length]).run Tryd.prog w.drew = .ok (.string ⟨l.toArray⟩) (w.drew.freeze ⟨g, 0, none⟩ l.length) := by
    refine Lib.run_unsafeString_row w.drew 85 3 9 5 Tryd.underlying85 (by kernel_rfl) g cur.size (by have hg' : w.drew.heap[g]? = some (.cells cur 5 (0, 0)) := hg; simp [World.shape?, hg']) l h0 (by omega) (by unfold maxLen at hcm; omega) ?_
    intro j x hx
    have := hown.cells (g := g) rfl j (.int .u8 x.toNat) (by simp [Lib.byteCells, hx])
    exact this
  go_enter Tryd.func20, Tryd.ntmps20
  go_wp2
  go_region
  all_goals (go_wp2; go_ret; exact ⟨rfl, Lib.below_freeze (Below.drew (Below.refl B w)) (p := ⟨g, 0, none⟩) hbg _⟩)

theorem unsafeString_no (W : World) (q : Option Addr) : (Builtin.unsafeString_ #[85, 3] 9 #[.pointer q, .int .i64 0]).run Tryd.prog W = .ok (.string .empty) W :=
  Lib.run_unsafeString_none W _ _ _ q

set_option maxHeartbeats 2000000 in
set_option maxRecDepth 100000 in
theorem twString_nil (B b : Nat) (p : Value) (w : World) (hbk : w.heap[b]? = some (.cells #[p, .slice none 0 0] 54 (0, 0))) :
    Calls Tryd.prog 20 #[.pointer (some ⟨b, 0, none⟩)] w fun e w' => e = .returned (.string ⟨#[]⟩) ∧ Below B w w' := by
  have hUS := unsafeString_no
  have c1 : w.drew.cell? ⟨b, 1, none⟩ = some (.slice none 0 0) := by
    have : w.drew.heap[b]? = some (.cells #[p, .slice none 0 0] 54 (0, 0)) := hbk
    rw [Lib.cell_of_heap this]; rfl
  have hSD : (Builtin.unsafeSliceData_ #[50] 85 #[.slice none 0 0]).run Tryd.prog w.drew = .ok (.pointer none) w.drew := rfl
  go_enter Tryd.func20, Tryd.ntmps20
  go_wp2
  go_region
  all_goals (go_wp2; go_ret; exact ⟨rfl, Below.drew (Below.refl B w)⟩)

set_option maxHeartbeats 2000000 in
set_option maxRecDepth 100000 in
theorem twString_noroom (B b g : Nat) (p : Value) (cur : Array Value) (w : World) (hBw : B ≤ w.heap.size) (hbk : w.heap[b]? = some (.cells #[p, .slice (some ⟨g, 0, none⟩) 0 0] 54 (0, 0))) (hg : w.heap[g]? = some (.cells cur 5 (0, 0))) :
    Calls Tryd.prog 20 #[.pointer (some ⟨b, 0, none⟩)] w fun e w' => e = .returned (.string ⟨#[]⟩) ∧ Below B w w' := by
  have hUS := unsafeString_no
  have hlt : b < w.heap.size := (Array.getElem?_eq_some_iff.1 hbk).1
  have c1 : w.drew.cell? ⟨b, 1, none⟩ = some (.slice (some ⟨g, 0, none⟩) 0 0) := by
    have : w.drew.heap[b]? = some (.cells #[p, .slice (some ⟨g, 0, none⟩) 0 0] 54 (0, 0)) := hbk
    rw [Lib.cell_of_heap this]; rfl
  have hSD : (Builtin.unsafeSliceData_ #[50] 85 #[.slice (some ⟨g, 0, none⟩) 0 0]).run Tryd.prog w.drew = .ok (.pointer (some ⟨w.drew.heap.size, 0, none⟩)) (w.drew.alloc (.view ⟨g, 0, none⟩ 5)) :=
    Lib.run_unsafeSliceData_zero w.drew _ _ 5 Tryd.underlying85 ⟨g, 0, none⟩ 0 (5, cur.size) (by have hg' : w.drew.heap[g]? = some (.cells cur 5 (0, 0)) := hg; simp [World.shape?, hg'])
  have c2 : (w.drew.alloc (.view ⟨g, 0, none⟩ 5)).cell? ⟨b, 1, none⟩ = some (.slice (some ⟨g, 0, none⟩) 0 0) := by
    have : (w.drew.alloc (.view ⟨g, 0, none⟩ 5)).heap[b]? = _ := (Lib.alloc_old w.drew _ b hlt).trans hbk
    rw [Lib.cell_of_heap this]; rfl
  have c3 : (w.alloc (.view ⟨g, 0, none⟩ 5)).drew.cell? ⟨b, 1, none⟩ = some (.slice (some ⟨g, 0, none⟩) 0 0) := c2
  have c0 : w.cell? ⟨b, 1, none⟩ = some (.slice (some ⟨g, 0, none⟩) 0 0) := c1
  go_enter Tryd.func20, Tryd.ntmps20
  go_wp2
  go_region
  all_goals (go_wp2; go_ret; exact ⟨rfl, (Below.drew (Below.refl B w)).alloc hBw _⟩)

set_option maxHeartbeats 2000000 in
set_option maxRecDepth 100000 in
theorem twString_room (B b g cap : Nat) (p : Value) (w : World) (hc0 : cap ≠ 0) (hbk : w.heap[b]? = some (.cells #[p, .slice (some ⟨g, 0, none⟩) 0 cap] 54 (0, 0))) :
    Calls Tryd.prog 20 #[.pointer (some ⟨b, 0, none⟩)] w fun e w' => e = .returned (.string ⟨#[]⟩) ∧ Below B w w' := by
  have hUS := unsafeString_no
  have c1 : w.drew.cell? ⟨b, 1, none⟩ = some (.slice (some ⟨g, 0, none⟩) 0 cap) := by
    have : w.drew.heap[b]? = some (.cells #[p, .slice (some ⟨g, 0, none⟩) 0 cap] 54 (0, 0)) := hbk
    rw [Lib.cell_of_heap this]; rfl
  have hSD : (Builtin.unsafeSliceData_ #[50] 85 #[.slice (some ⟨g, 0, none⟩) 0 cap]).run Tryd.prog w.drew = .ok (.pointer (some ⟨g, 0, none⟩)) w.drew :=
    Lib.run_unsafeSliceData_row _ _ _ _ _ _ hc0
  clear hc0
  go_enter Tryd.func20, Tryd.ntmps20
  go_wp2
  go_region
  all_goals (go_wp2; go_ret; exact ⟨rfl, Below.drew (Below.refl B w)⟩)

theorem twString_any (B b : Nat) (l : List UInt8) (w : World) (h : Tw B b l w) (hBw : B ≤ w.heap.size) :
    Calls Tryd.prog 20 #[.pointer (some ⟨b, 0, none⟩)] w fun e w' => e = .returned (.string ⟨l.toArray⟩) ∧ Below B w w' := by
  cases l with
  | cons x r => exact twString_some B b (x :: r) w h (by simp)
  | nil =>
    obtain ⟨p, hB, v, hbk, hown, hne⟩ : ∃ p, Lib.BuilderAt 54 5 B b p [] w := by
      rcases h with h | h
      · exact ⟨_, h⟩
      · exact ⟨_, h⟩
    rcases hown.2 with ⟨rfl, _⟩ | ⟨g, cap, cur, rfl, hbg, hg, _, _, _, _⟩
    · exact twString_nil B b p w hbk
    · by_cases hc0 : cap = 0
      · subst hc0
        exact twString_noroom B b g p cur w hBw hbk hg
      · exact twString_room B b g cap p w hc0 hbk

/-- some texts, one behind the other -/
def flatB (zs : List ByteArray) : List UInt8 := zs.flatMap (fun z => z.data.toList)
theorem flatB_snoc (zs : List ByteArray) (z : ByteArray) : flatB (zs ++ [z]) = flatB zs ++ z.data.toList := by simp [flatB]
set_option maxHeartbeats 2000000 in
set_option maxRecDepth 100000 in
theorem twPut_any (B b g n : Nat) (l : List UInt8) (zs : List ByteArray) (w : World) (h : Tw B b l w) (hg : w.heap[g]? = some (Obj.cells (zs.map Value.string).toArray 9 (0, 0))) (hn : n = zs.length) (hl : l.length ≤ 100000000000) (hz : ∀ z ∈ zs, z.size ≤ 10000000000) (hzl : zs.length ≤ 5) (hBw : B ≤ w.heap.size) :
    Calls Tryd.prog 18 #[.pointer (some ⟨b, 0, none⟩), .slice (some ⟨g, 0, none⟩) n n] w fun e w' => e = .returned (.tuple #[]) ∧ Tw B b (l ++ flatB zs) w' ∧ Below B w w' := by
  have HT := hide h
  have HZ := hide hz
  have HG := hide hg
  subst hn
  clear h hz hg
  go_enter Tryd.func18, Tryd.ntmps18
  go_wp2
  go_loopw [8] (fun i wx => ∃ k : Nat, k ≤ zs.length ∧ i = .int .i64 k ∧ Hid (Tw B b (l ++ flatB (zs.take k)) wx) ∧ (l ++ flatB (zs.take k)).length ≤ 100000000000 + 10000000000 * k ∧ Hid (TxtStay w wx) ∧ Hid (Below B w wx)) (fun i _ => zs.length - (intOf i).toNat)
  case atStart => exact ⟨0, by omega, rfl, hide (by simpa [flatB] using unhide HT), by simpa [flatB] using hl, hide (TxtStay.refl _), hide (Below.refl _ _)⟩
  case round =>
    obtain ⟨k, hk, rfl, hT, hlk, hS, hB⟩ := hrel
    by_cases hlt : k < zs.length
    · have hgx := unhide hS g _ (unhide HG)
      have q0 : wr.cell? ⟨g, k, none⟩ = some (.string zs[k]) := by rw [Lib.cell_of_heap hgx]; simp [hlt]
      have hzk := unhide HZ zs[k] (List.getElem_mem hlt)
      have hbw : B ≤ wr.heap.size := Nat.le_trans hBw (unhide hB).size
      have HC := hide (twWriteString_any B b (l ++ flatB (zs.take k)) zs[k] wr (unhide hT) (by omega) hbw)
      have HE : Hid (l ++ flatB (zs.take k) ++ zs[k].data.toList = l ++ flatB (zs.take (k + 1))) := hide (by rw [List.take_succ_eq_append_getElem hlt, flatB_snoc, List.append_assoc])
      have hsz : zs[k].data.toList.length = zs[k].size := Array.length_toList
      have HL : Hid ((l ++ flatB (zs.take k) ++ zs[k].data.toList).length ≤ 100000000000 + 10000000000 * (k + 1)) := hide (by rw [List.length_append, hsz]; omega)
      rw [unhide HE] at HC HL
      clear HE hgx hsz
      generalize zs[k] = z at q0 hzk HC
      go_wp2_with fail
      refine (unhide HC).mono ?_
      rintro e w1 ⟨rfl, hT1, hb1, hs1⟩
      have HT1 := hide hT1
      have HS1 := hide ((unhide hS).trans hs1)
      have HB1 := hide ((unhide hB).trans hb1)
      clear hT1 hb1 hs1 HC
      go_wp2
      go_roundw
      case rel => exact ⟨k + 1, by omega, by go_num, hide (unhide HT1), unhide HL, hide (unhide HS1), hide (unhide HB1)⟩
      case measure => simp [intOf]; omega
    · have HF : Hid (Tw B b (l ++ flatB zs) wr) := hide (by
        have := unhide hT
        rw [List.take_of_length_le (by omega)] at this
        exact this)
      go_wp2
      go_end0
      exact ⟨rfl, unhide HF, unhide hB⟩

end Go.Proofs.YtoehpjignngjlaaDoor
