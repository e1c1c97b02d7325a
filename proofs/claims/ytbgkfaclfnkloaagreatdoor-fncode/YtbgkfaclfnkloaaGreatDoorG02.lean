import Derived.WalkKit
namespace Go.Proofs.YtbgkfaclfnkloaaGreatDoor
set_option linter.all false
set_option maxHeartbeats 4000000
set_option maxRecDepth 100000
section
def okC(c:UInt8):Bool:=decide (32≤c.toNat)&&decide (c.toNat≤126)
def xT:List UInt8→Option (List UInt8×List UInt8)
 | []=>none
 | [c]=>if c=39 then some ([],[]) else none
 | c::d::r=>
  if c=39 then some ([],d::r)
  else if c=92 then (if d=39∨d=92 then (xT r).map (fun p=>(d::p.1,p.2)) else none)
  else if okC c=true then (xT (d::r)).map (fun p=>(c::p.1,p.2)) else none
theorem qEa(r:List UInt8):xT (39::r)=some ([],r):=by cases r <;> simp[xT]
theorem qF2(c:UInt8)(r:List UInt8)(h1:c≠39)(h2:c≠92)(h3:okC c=true):xT (c::r)=(xT r).map (fun p=>(c::p.1,p.2)):=by
 cases r with
 | nil=>simp[xT,h1]
 | cons d r=>simp[xT,h1,h2,h3]
theorem qMd(c:UInt8)(r:List UInt8)(h1:c≠39)(h2:c≠92)(h3:okC c=false):xT (c::r)=none:=by
 cases r with
 | nil=>simp[xT,h1]
 | cons d r=>simp[xT,h1,h2,h3]
theorem qLB(d:UInt8)(r:List UInt8)(h:d=39∨d=92):xT (92::d::r)=(xT r).map (fun p=>(d::p.1,p.2)):=by simp[xT,h]
theorem qFj(d:UInt8)(r:List UInt8)(h:¬(d=39∨d=92)):xT (92::d::r)=none:=by simp[xT,h]
theorem qJp:xT [92]=none:=by simp[xT]
structure TN where
 k:Int
 n:Int
 t:ByteArray
 names:List ByteArray
 kids:List Int
inductive Vis (ns:List TN):List Int→List Nat→Nat→Prop
 | nil:Vis ns [] [] 0
 | cons (j:Int) (x:TN) (ks:List Int) (l1 l2:List Nat) (d1 d2:Nat):0≤j→ns[j.toNat]? = some x→Vis ns x.kids l1 d1→Vis ns ks l2 d2→Vis ns (j::ks) (j.toNat::(l1++l2)) (max (d1+1) d2)
theorem Vis.inv{ns:List TN}{j:Int}{ks:List Int}{l:List Nat}{d:Nat}(h:Vis ns (j::ks) l d):∃ x l1 l2 d1 d2,0≤j∧ns[j.toNat]? = some x∧Vis ns x.kids l1 d1∧Vis ns ks l2 d2∧l=j.toNat::(l1++l2)∧d=max (d1+1) d2:=by
 cases h with
 | cons _ x _ l1 l2 d1 d2 h0 hx h1 h2=>exact⟨x,l1,l2,d1,d2,h0,hx,h1,h2,rfl,rfl⟩
theorem Vis.lt{ns:List TN}{ks:List Int}{l:List Nat}{d:Nat}(h:Vis ns ks l d):∀ x∈l,x<ns.length:=by
 induction h with
 | nil=>intro x hx;simp at hx
 | cons j x ks l1 l2 d1 d2 h0 hx h1 h2 ih1 ih2=>
  intro y hy
  simp at hy
  rcases hy with rfl | hy | hy
  ·exact(List.getElem?_eq_some_iff.1 hx).1
  ·exact ih1 y hy
  ·exact ih2 y hy
def OkW(ns:List TN)(G:Nat→Prop)(ks:List Int)(S l:List Nat)(d:Nat):Prop:=Vis ns ks l d∧l.Nodup∧(∀ x∈l,x∉S)∧∀ x∈l,G x
theorem OkW.one_inv{ns:List TN}{G:Nat→Prop}{j:Int}{S l:List Nat}{d:Nat}(h:OkW ns G [j] S l d):∃ x l1 d1,0≤j∧ns[j.toNat]? = some x∧j.toNat∉S∧G j.toNat∧OkW ns G x.kids (S++[j.toNat]) l1 d1∧l=j.toNat::l1∧d=d1+1:=by
 obtain⟨hv,hn,hs,hg⟩:=h
 obtain⟨x,l1,l2,d1,d2,h0,hx,v1,v2,rfl,rfl⟩:=hv.inv
 cases v2
 rw[List.append_nil]at hn hs hg ⊢
 rw[List.nodup_cons]at hn
 refine⟨x,l1,d1,h0,hx,hs _ (by simp),hg _ (by simp),⟨v1,hn.2,fun y hy he=>?_,fun y hy=>hg y (by simp[hy])⟩,rfl,by omega⟩
 rcases List.mem_append.1 he with he | he
 ·exact hs y (by simp[hy]) he
 ·rw[List.mem_singleton]at he
  subst he
  exact hn.1 hy
theorem qB7:∀ (n:Nat) (S:List Nat),S.Nodup→(∀ x∈S,x<n)→S.length≤n
 | 0,[],_,_=>by simp
 | 0,a::S,_,h=>absurd (h a (by simp)) (by omega)
 | n+1,S,hn,h=>by
  by_cases hm:n∈S
  ·have h1:=qB7 n (S.erase n) (hn.erase n) (fun x hx=>by
    have:=(hn.mem_erase_iff).1 hx
    have:=h x this.2
    omega)
   rw[List.length_erase_of_mem hm]at h1
   omega
  ·have:=qB7 n S hn (fun x hx=>by
    have:=h x hx
    have:x≠n:=fun e=>hm (e▸hx)
    omega)
   omega
theorem Vis.tops{ns:List TN}{ks:List Int}{l:List Nat}{d:Nat}(h:Vis ns ks l d):∀ j∈ks,0≤j∧j.toNat∈l:=by
 induction h with
 | nil=>intro j hj;simp at hj
 | cons j x ks l1 l2 d1 d2 h0 hx h1 h2 ih1 ih2=>
  intro i hi
  rcases List.mem_cons.1 hi with rfl | hi
  ·exact⟨h0,by simp⟩
  ·obtain⟨a,b⟩:=ih2 i hi
   exact⟨a,by simp[b]⟩
theorem Vis.kid{ns:List TN}{ks:List Int}{l:List Nat}{d:Nat}(h:Vis ns ks l d):∀ x∈l,∀ n,ns[x]? = some n→∀ j∈n.kids,0≤j∧j.toNat∈l:=by
 induction h with
 | nil=>intro x hx;simp at hx
 | cons j x ks l1 l2 d1 d2 h0 hx h1 h2 ih1 ih2=>
  intro y hy n hn i hi
  rcases List.mem_cons.1 hy with rfl | hy
  ·rw[hx]at hn
   obtain rfl:=Option.some.inj hn
   obtain⟨a,b⟩:=h1.tops i hi
   exact⟨a,by simp[b]⟩
  ·rcases List.mem_append.1 hy with hy | hy
   ·obtain⟨a,b⟩:=ih1 y hy n hn i hi
    exact⟨a,by simp[b]⟩
   ·obtain⟨a,b⟩:=ih2 y hy n hn i hi
    exact⟨a,by simp[b]⟩
theorem Vis.sub{ns:List TN}{ks:List Int}{l:List Nat}{d:Nat}(h:Vis ns ks l d):∀ x∈l,∃ l' d',Vis ns [(x:Int)] l' d'∧(∀ y∈l',y∈l)∧d'≤d∧l'.length≤l.length:=by
 induction h with
 | nil=>intro x hx;simp at hx
 | cons j x ks l1 l2 d1 d2 h0 hx h1 h2 ih1 ih2=>
  intro y hy
  rcases List.mem_cons.1 hy with rfl | hy
  ·refine⟨j.toNat::(l1++[]),max (d1+1) 0,?_,fun y hy=>?_,by omega,by simp⟩
   ·have:=Vis.cons (ns:=ns) j x [] l1 [] d1 0 h0 hx h1 .nil
    rw[Int.toNat_of_nonneg h0]
    exact this
   ·simp at hy ⊢
    rcases hy with hy | hy
    ·exact .inl hy
    ·exact .inr (.inl hy)
  ·rcases List.mem_append.1 hy with hy | hy
   ·obtain⟨l',d',a,b,c,e⟩:=ih1 y hy
    exact⟨l',d',a,fun z hz=>by simp[b z hz],by omega,by simp;omega⟩
   ·obtain⟨l',d',a,b,c,e⟩:=ih2 y hy
    exact⟨l',d',a,fun z hz=>by simp[b z hz],by omega,by simp;omega⟩
end
end Go.Proofs.YtbgkfaclfnkloaaGreatDoor
