import Derived.Test.YtbgkfaclfnkloaaGreatDoorG03
import Derived.OwnWalk
import Derived.Lib.BufferRead
namespace Go.Proofs.YtbgkfaclfnkloaaGreatDoor
set_option linter.all false
set_option maxHeartbeats 4000000
set_option maxRecDepth 100000
open Go.RowKit
theorem qF5:(Tryz.prog.info? 5).map (fun i=>(i.zero,i.size,i.bytes))=some (some (.int .u8 0),1,1):=by kernel_rfl
theorem vB{w:World}{base:Nat}{v:Value}{n:Nat}{xs:List Value}{e size:Nat}(h:w.ownsRow base e size v n xs):∃ a cap,v=.slice a n cap:=by
 rcases h.2 with ⟨rfl,rfl⟩ | ⟨g,cap,cur,rfl,_⟩
 ·exact⟨none,0,rfl⟩
 ·exact⟨_,_,rfl⟩
theorem qNu{w:World}{base:Nat}{v:Value}(t:List UInt8)(h:w.ownsRow base 5 1 v t.length (Lib.byteCells t)):(convert 22 9 v).run Tryz.prog w=.ok (.string ⟨t.toArray⟩) w:=by
 rcases h.2 with ⟨rfl,h0⟩ | ⟨g,cap,cur,rfl,_⟩
 ·have:t=[]:=List.eq_nil_of_length_eq_zero h0
  subst this
  exact Lib.run_convert_nil_bytes w 22 9 5 0 Tryz.underlying22 Tryz.underlying5 Tryz.underlying9
 ·exact run_convert_bytes_back (P:=Tryz.prog) w 22 9 5 ⟨g,0,none⟩ cap t Tryz.underlying22 Tryz.underlying5 Tryz.underlying9 (fun j hj=>h.cells (g:=g) rfl j _ (by simp[Lib.byteCells,hj]))
theorem qJe(t:List UInt8)(c:UInt8):Lib.byteCells t++[Value.int .u8 (c.toNat:Int)]=Lib.byteCells (t++[c]):=by simp[Lib.byteCells]
theorem kD(u:ByteArray)(k:Nat)(h:k<u.size):u.data.toList.drop k=u[k]::u.data.toList.drop (k+1):=by
 rw[List.drop_eq_getElem_cons (by rw[jI];exact h)];rfl
theorem qCT(u:ByteArray)(k:Nat)(h:u.size≤k):u.data.toList.drop k=[]:=List.drop_of_length_le (by rw[jI];exact h)
theorem xE{c d:UInt8}(h:(c.toNat:Int)=(d.toNat:Int)):c=d:=UInt8.toNat_inj.1 (by omega)
theorem wQ{c d:UInt8}(h:¬(c.toNat:Int)=(d.toNat:Int)):c≠d:=fun e=>h (by rw[e])
theorem qG6{c:UInt8}(h0:32≤(c.toNat:Int))(h1:(c.toNat:Int)≤126):okC c=true:=by simp[okC];omega
theorem qEj{c:UInt8}(h:(c.toNat:Int)<32∨126<(c.toNat:Int)):okC c=false:=by simp[okC];omega
def hbB(c:Int):Bool:=decide (c=39)||decide (c=92)
theorem qNE{c:UInt8}(h:hbB (c.toNat:Int)=true):c=39∨c=92:=by
 simp[hbB]at h
 exact h.imp (fun h=>xE (d:=39) h) (fun h=>xE (d:=92) h)
theorem qMa{c:UInt8}(h:hbB (c.toNat:Int)=false):¬(c=39∨c=92):=by
 rintro(rfl | rfl)
 ·exact absurd h (by decide)
 ·exact absurd h (by decide)
theorem cT(c:Int)(w:World) :
  Calls Tryz.prog 106 #[.int .u8 c] w fun e w'=>e=.returned (.bool (hbB c))∧w'=w:=by
 go_enter Tryz.func106,Tryz.ntmps106
 go_wp2
 all_goals
  go_ret
  refine⟨jL ?_,rfl⟩
  rw[Bool.eq_iff_iff]
  simp[hbB] <;> omega
def qBD(s:ByteArray)(k:Nat):Prop:=∀ i (h:i<s.size),i<k→okC s[i]=true
theorem qJr(s:ByteArray)(k:Nat)(hk:k<s.size)(h:qBD s k)(hp:okC s[k]=true):qBD s (k+1):=by
 intro i hi hik
 by_cases e:i=k
 ·subst e;exact hp
 ·exact h i hi (by omega)
theorem qK1(s:ByteArray)(h60:s.size≤60)(k:Nat)(hk:s.size≤k)(h:qBD s k):kB s.data.toList=true:=by
 simp only[kB,Bool.and_eq_true,decide_eq_true_iff,List.all_eq_true]
 refine⟨by rw[jI];exact h60,fun x hx=>?_⟩
 obtain⟨i,hi,rfl⟩:=List.mem_iff_getElem.1 hx
 rw[jI]at hi
 exact h i hi (by omega)
theorem qLL(s:ByteArray)(k:Nat)(hk:k<s.size)(h:okC s[k]=false):s.data.toList.all okC=false:=by
 rw[List.all_eq_false]
 exact⟨s[k],by simp[ByteArray.getElem_eq_getElem_data],by simp[h]⟩
theorem qNj(s:ByteArray)(k:Nat)(hk:k<s.size)(h:okC s[k]=false):kB s.data.toList=false:=by
 simp only[kB,qLL s k hk h,Bool.and_false]
theorem qJa(s:ByteArray)(h:60<s.size):kB s.data.toList=false:=by
 simp only[kB,jI,Bool.and_eq_false_iff,decide_eq_false_iff_not]
 exact .inl (by omega)
theorem qEP(s:ByteArray)(w:World)(hs:s.size≤maxLen) :
  Calls Tryz.prog 29 #[.string s] w fun e w'=>e=.returned (.bool (kB s.data.toList))∧w'=w:=by
 unfold maxLen at hs
 by_cases h60:60<s.size
 ·have hb:=qC (qJa s h60)
  go_enter Tryz.func29,Tryz.ntmps29
  go_wp2
  go_ret
  exact⟨jL (qA hb).symm,rfl⟩
 go_enter Tryz.func29,Tryz.ntmps29
 go_wp2
 go_loop [9] (fun i=>∃ k:Nat,k≤s.size∧i=.int .i64 k∧qBD s k) (fun i=>s.size-(intOf i).toNat)
 case atStart=>exact⟨0,by omega,rfl,fun i _ hi=>by omega⟩
 case round=>
  obtain⟨k,hk,rfl,eB⟩:=hrel
  by_cases jF:k<s.size
  ·have kH:=qC (qJr s k jF eB)
   have tZ:=qC (qNj s k jF)
   clear eB
   by_cases q32:(s[k].toNat:Int)<32∨126<(s[k].toNat:Int)
   ·have hd:=qC (qA tZ (qEj q32))
    rcases q32 with q32 | q32
    all_goals
     go_wp2
     go_ret
     exact⟨jL (qA hd).symm,rfl⟩
   have q1:32≤(s[k].toNat:Int):=by omega
   have q2:(s[k].toNat:Int)≤126:=by omega
   have hd:=qC (qA kH (qG6 q1 q2))
   clear q32
   go_wp2
   go_round
   case rel=>exact⟨k+1,by omega,by go_num,qA hd⟩
   case measure=>simp[intOf];omega
  ·have hy:=qC (qK1 s (by omega) k (by omega) eB)
   clear eB
   go_wp2
   go_ret
   exact⟨jL (qA hy).symm,rfl⟩
end Go.Proofs.YtbgkfaclfnkloaaGreatDoor
