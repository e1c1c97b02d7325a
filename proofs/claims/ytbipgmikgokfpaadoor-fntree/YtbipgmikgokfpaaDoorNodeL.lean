/- What is right of a node by itself, and of which kind its kids are: code and specification both come to 'nodeB' and 'takesB'. -/
import Derived.Test.YtbipgmikgokfpaaDoorTreeL
import Derived.Test.YtbipgmikgokfpaaDoorLexL
namespace Go.Proofs.YtbipgmikgokfpaaDoor
set_option linter.unusedVariables false

def identB (t : ByteArray) : Bool := tokB 1 t.data.toList
def opB (l : List UInt8) : Bool := l == [60] || l == [61, 61] || l == [43] || l == [45] || l == [42] || l == [47] || l == [37]
/-- as many kids as a kind has -/
def countB (k : Int) (c : Nat) : Bool :=
  if k = 1 ∨ k = 2 ∨ k = 3 ∨ k = 4 ∨ k = 5 then c == 0
  else if k = 6 ∨ k = 11 ∨ k = 12 ∨ k = 15 ∨ k = 16 ∨ k = 19 ∨ k = 20 then c == 1
  else if k = 7 ∨ k = 8 ∨ k = 9 ∨ k = 14 ∨ k = 17 then c == 2
  else if k = 13 then c == 2 || c == 3
  else k == 10 || k == 18
def namedB (k : Int) : Bool := k == 5 || k == 10 || k == 11 || k == 12 || k == 17 || k == 20
/-- all but the kids -/
def partsB (x : TN) : Bool :=
  if x.k = 1 then decide (0 ≤ x.n) && decide (x.n ≤ 2147483647) && decide (x.t.size = 0) && decide (x.names.length = 0)
  else if x.k = 3 then decide (0 ≤ x.n) && decide (x.n ≤ 1) && decide (x.t.size = 0) && decide (x.names.length = 0)
  else if x.n ≠ 0 ∨ (x.k ≠ 20 ∧ 0 < x.names.length) then false
  else if x.k = 2 then plainB x.t.data.toList
  else if x.k = 6 then (x.t.data.toList == [33]) || (x.t.data.toList == [45])
  else if x.k = 7 then opB x.t.data.toList
  else if namedB x.k = true then x.names.all identB && identB x.t
  else decide (x.t.size = 0) && decide (4 ≤ x.k) && decide (x.k ≤ 19)
def nodeB (x : TN) : Bool := countB x.k x.kids.length && partsB x
/-- a kid of kind kk may stand at place i below a node of kind k (the outmost one: top) -/
def takesB (k : Int) (top : Bool) (i : Nat) (kk : Int) : Bool :=
  if k = 18 then (decide (11 ≤ kk) && decide (kk ≤ 19)) || (kk == 20 && top)
  else if k = 17 ∨ k = 20 then kk == 18
  else if (k = 13 ∨ k = 14) ∧ 0 < i then kk == 18
  else decide (1 ≤ kk) && decide (kk ≤ 10)
/-- a node is right, and its kids are of such kinds -/
def GoodT (ns : List TN) (root : Int) (x : Nat) : Prop := ∃ n, ns[x]? = some n ∧ nodeB n = true ∧ ∀ i j, n.kids[i]? = some j → ∃ m, 0 ≤ j ∧ ns[j.toNat]? = some m ∧ takesB n.k (decide ((x : Int) = root)) i m.k = true
/-- a tree is right: so many nodes, each met once from its Root, a block -/
def TreeP (ns : List TN) (root : Int) (l : List Nat) (d : Nat) : Prop := ns.length ≤ 200 ∧ OkW ns (GoodT ns root) [root] [] l d ∧ (∃ r, ns[root.toNat]? = some r ∧ r.k = 18) ∧ ∀ i, i < ns.length → i ∈ l
def TreeOkP (ns : List TN) (root : Int) : Prop := ∃ l d, TreeP ns root l d

/-- kinds of kids, as the specification has them -/
def sortAt (k : Int) (top : Bool) (i : Nat) : Int :=
  if k = 18 then (if top = true then 4 else 3)
  else if k = 17 ∨ k = 20 then 2
  else if (k = 13 ∨ k = 14) ∧ 0 < i then 2
  else 1
def rightB (s kk : Int) : Bool :=
  (s == 1 && (decide (1 ≤ kk) && decide (kk ≤ 10))) || (s == 2 && kk == 18) || (s == 3 && (decide (11 ≤ kk) && decide (kk ≤ 19))) || (s == 4 && ((decide (11 ≤ kk) && decide (kk ≤ 19)) || kk == 20))
theorem right_takes (k : Int) (top : Bool) (i : Nat) (kk : Int) : rightB (sortAt k top i) kk = takesB k top i kk := by
  unfold sortAt takesB
  by_cases h : k = 18
  · rw [if_pos h, if_pos h]
    cases top <;> simp [rightB]
  rw [if_neg h, if_neg h]
  by_cases h1 : k = 17 ∨ k = 20
  · rw [if_pos h1, if_pos h1]; simp [rightB]
  rw [if_neg h1, if_neg h1]
  by_cases h2 : (k = 13 ∨ k = 14) ∧ 0 < i
  · rw [if_pos h2, if_pos h2]; simp [rightB]
  rw [if_neg h2, if_neg h2]
  simp [rightB]
/-- how many kinds of kids the specification has for a node -/
def sortsN (k : Int) (c : Nat) : Nat :=
  if k = 6 ∨ k = 11 ∨ k = 12 ∨ k = 15 ∨ k = 16 ∨ k = 19 ∨ k = 20 then 1
  else if k = 7 ∨ k = 8 ∨ k = 9 ∨ k = 14 ∨ k = 17 then 2
  else if k = 13 then (if c = 3 then 3 else 2)
  else if k = 10 ∨ k = 18 then c
  else 0
theorem parts_kind {x : TN} (h : partsB x = true) : 1 ≤ x.k ∧ x.k ≤ 20 := by
  unfold partsB at h
  by_cases h1 : x.k = 1
  · omega
  rw [if_neg h1] at h
  by_cases h3 : x.k = 3
  · omega
  rw [if_neg h3] at h
  split at h
  · cases h
  by_cases h2 : x.k = 2
  · omega
  rw [if_neg h2] at h
  by_cases h6 : x.k = 6
  · omega
  rw [if_neg h6] at h
  by_cases h7 : x.k = 7
  · omega
  rw [if_neg h7] at h
  split at h
  · rename_i hn
    simp [namedB] at hn
    omega
  · simp at h
    omega
theorem count_sorts {k : Int} {c : Nat} (h1 : 1 ≤ k) (h2 : k ≤ 20) : (sortsN k c == c) = countB k c := by
  have hk : k = 1 ∨ k = 2 ∨ k = 3 ∨ k = 4 ∨ k = 5 ∨ k = 6 ∨ k = 7 ∨ k = 8 ∨ k = 9 ∨ k = 10 ∨ k = 11 ∨ k = 12 ∨ k = 13 ∨ k = 14 ∨ k = 15 ∨ k = 16 ∨ k = 17 ∨ k = 18 ∨ k = 19 ∨ k = 20 := by omega
  have e0 : ((0 : Nat) == c) = (c == 0) := by rw [Bool.beq_comm]
  have e1 : ((1 : Nat) == c) = (c == 1) := by rw [Bool.beq_comm]
  have e2 : ((2 : Nat) == c) = (c == 2) := by rw [Bool.beq_comm]
  rcases hk with rfl | rfl | rfl | rfl | rfl | rfl | rfl | rfl | rfl | rfl | rfl | rfl | rfl | rfl | rfl | rfl | rfl | rfl | rfl | rfl
  all_goals first | exact e0 | exact e1 | exact e2 | skip
  · simp [sortsN, countB]
  · unfold sortsN countB
    by_cases h3 : c = 3
    · subst h3; rfl
    · have h4 : (c == 3) = false := beq_eq_false_iff_ne.2 h3
      rw [h4, Bool.or_false]
      simp [h3]; exact e2
  · simp [sortsN, countB]
theorem nodeB_spec (x : TN) : (partsB x && (sortsN x.k x.kids.length == x.kids.length)) = nodeB x := by
  unfold nodeB
  cases h : partsB x
  · simp
  · obtain ⟨h1, h2⟩ := parts_kind h
    rw [count_sorts h1 h2]; simp

end Go.Proofs.YtbipgmikgokfpaaDoor
