import Derived.Test.YtbgkfaclfnkloaaGreatDoorG23
import Derived.Lib.SlicesCompact
namespace Go.Proofs.YtbgkfaclfnkloaaGreatDoor
set_option linter.all false
set_option maxHeartbeats 4000000
set_option maxRecDepth 100000
open Go.Lib
theorem eZ(d:Array Int)(hs:∀ i j,i≤j→j<d.size→d[i]!≤d[j]!):∀ m,m≤d.size→qIU (compactUpTo d m)∧∀ x,x∈compactUpTo d m↔∃ j,j<m∧d[j]! = x
 | 0,_=>⟨by simp[compactUpTo,qIU],fun x=>by simp[compactUpTo]⟩
 | m+1,hm=>by
  obtain⟨h1,h2⟩:=eZ d hs m (by omega)
  rw[compactUpTo_succ]
  by_cases hk:keeps d m=true
  ·rw[if_pos hk]
   refine⟨?_,fun x=>?_⟩
   ·unfold qIU at h1 ⊢
    rw[List.pairwise_append]
    refine⟨h1,by simp,fun a ha b hb=>?_⟩
    rw[List.mem_singleton]at hb
    subst hb
    obtain⟨j,hj,rfl⟩:=(h2 a).1 ha
    have e1:=hs j (m-1) (by omega) (by omega)
    have e2:=hs (m-1) m (by omega) (by omega)
    have e3:d[m-1]!≠d[m]!:=by
     unfold keeps at hk
     simp at hk
     omega
    omega
   ·rw[List.mem_append,h2,List.mem_singleton]
    constructor
    ·rintro(⟨j,hj,e⟩ | e)
     ·exact⟨j,by omega,e⟩
     ·exact⟨m,by omega,e.symm⟩
    ·rintro⟨j,hj,e⟩
     by_cases hjm:j=m
     ·subst hjm;exact .inr e.symm
     ·exact .inl ⟨j,by omega,e⟩
  ·rw[if_neg hk,List.append_nil]
   refine⟨h1,fun x=>?_⟩
   rw[h2]
   constructor
   ·rintro⟨j,hj,e⟩
    exact⟨j,by omega,e⟩
   ·rintro⟨j,hj,e⟩
    by_cases hjm:j=m
    ·subst hjm
     unfold keeps at hk
     simp at hk
     exact⟨j-1,by omega,by rw[←e];omega⟩
    ·exact⟨j,by omega,e⟩
theorem qGV(zs:List Int):qIU (compact (zs.mergeSort fun x y=>decide (x≤y)))∧∀ x,x∈compact (zs.mergeSort fun x y=>decide (x≤y))↔x∈zs:=by
 have hp:=List.pairwise_mergeSort (le:=fun x y:Int=>decide (x≤y)) (fun a b c h1 h2=>by simp at *;omega) (fun a b=>by simp;omega) zs
 have qVM:∀ x,x∈zs.mergeSort (fun x y=>decide (x≤y))↔x∈zs:=fun x=>(List.mergeSort_perm zs _).mem_iff
 generalize zs.mergeSort (fun x y=>decide (x≤y))=l at hp qVM
 have hs:∀ i j,i≤j→j<l.toArray.size→l.toArray[i]!≤l.toArray[j]!:=fun i j hij hj=>by
  simp at hj
  rcases Nat.eq_or_lt_of_le hij with rfl | jF
  ·exact Int.le_refl _
  ·have:=List.pairwise_iff_getElem.1 hp i j (by omega) hj jF
   simp at this
   rw[getElem!_pos l.toArray i (by simp;omega),getElem!_pos l.toArray j (by simp;omega)]
   simpa using this
 obtain⟨h1,h2⟩:=eZ l.toArray hs l.length (by simp)
 refine⟨h1,fun x=>?_⟩
 rw[←qVM]
 refine(h2 x).trans ⟨?_,fun h=>?_⟩
 ·rintro⟨j,hj,rfl⟩
  rw[getElem!_pos l.toArray j (by simpa using hj)]
  simp
 ·obtain⟨j,hj,rfl⟩:=List.getElem_of_mem h
  exact⟨j,hj,by rw[getElem!_pos l.toArray j (by simpa using hj)];simp⟩
theorem qIh(code:List IR)(n:Nat)(hn:∀ i∈code,xL i.op=true→0≤i.n∧i.n<(n:Int)) :
  compact (((code.filter fun i=>xL i.op).map IR.n).mergeSort fun x y=>decide (x≤y))=(dB code n).map Int.ofNat:=by
 obtain⟨h1,h2⟩:=qGV ((code.filter fun i=>xL i.op).map IR.n)
 refine qHj h1 ?_ (fun x=>(h2 x).trans ?_)
 ·unfold qIU dB
  rw[List.pairwise_map]
  refine List.Pairwise.filter _ ?_
  refine List.pairwise_lt_range.imp ?_
  intro a b h
  exact Int.ofNat_lt.2 h
 ·simp only[List.mem_map,List.mem_filter,dB,List.mem_range]
  constructor
  ·rintro⟨i,⟨hi,hj⟩,rfl⟩
   obtain⟨a,b⟩:=hn i hi hj
   refine⟨i.n.toNat,⟨by omega,?_⟩,by simp;omega⟩
   unfold qDr
   rw[List.any_eq_true]
   exact⟨i,hi,by rw[hj];simp;omega⟩
  ·rintro⟨a,⟨ha,ht⟩,rfl⟩
   unfold qDr at ht
   rw[List.any_eq_true]at ht
   obtain⟨i,hi,e⟩:=ht
   simp at e
   exact⟨i,⟨hi,e.2⟩,e.1⟩
end Go.Proofs.YtbgkfaclfnkloaaGreatDoor
