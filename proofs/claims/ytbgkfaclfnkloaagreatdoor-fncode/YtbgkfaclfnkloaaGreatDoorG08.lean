import Derived.Test.YtbgkfaclfnkloaaGreatDoorG07
import Derived.ArgAppend
import Derived.Lib.ConvBytes
import Derived.Laws.BytesArg
namespace Go.Proofs.YtbgkfaclfnkloaaGreatDoor
set_option linter.all false
set_option maxHeartbeats 4000000
set_option maxRecDepth 100000
open Go.RowKit
variable {g:Nat} {a:Option Addr} {len cap:Nat}
def qQ5(g:Nat)(a:Option Addr)(len cap:Nat)(N:Int)(k z:Nat)(w:World):Prop:=
 (k=3∧z≤300∧St g a len cap (N+2) w)∨(k=2∧z≤2300∧St g a len cap (N+402) w)∨(k=1∧z≤4300∧St g a len cap (N+802) w)∨(k=0∧z≤6300∧St g a len cap (N+1202) w)
theorem qId(N:Int)(w:World)(sQ:St g a len cap N w)(hN:N≤700000000) :
  Calls Tryz.prog 37 #[.pointer (some ⟨g,0,none⟩)] w fun e w'=>∃ s:ByteArray,e=.returned (.string s)∧s.size≤7000∧St g a len cap (N+1300) w'∧kR g w w':=by
 have S0:=qC sQ
 have hg0:=qC sQ.lt
 clear sQ
 go_enter Tryz.func37,Tryz.ntmps37
 go_wp2_with fail
 refine(tQ N 5 60 _ _ (qA S0) (by omega) (by omega) (by omega) rfl rfl).mono ?_
 rintro e w1 ⟨s0,rfl,hs0,zX,hk⟩
 have S1:=qC (zX.alloc (.cells #[.string ⟨#[120]⟩,.string ⟨#[121]⟩,.string ⟨#[112,97,116,104]⟩] 9))
 have K1:=qC (hk.trans (.of_below (qD w1 (.cells #[.string ⟨#[120]⟩,.string ⟨#[121]⟩,.string ⟨#[112,97,116,104]⟩] 9))))
 have M1:Hid (Nm g (w1.alloc (.cells #[.string ⟨#[120]⟩,.string ⟨#[121]⟩,.string ⟨#[112,97,116,104]⟩] 9)) w1.heap.size):=qC ⟨by have:=zX.lt;omega,fun j hj=>by
  obtain rfl | rfl | rfl:j=0∨j=1∨j=2:=by omega
  all_goals simp[nm3]⟩
 clear zX hk
 go_wp2_with fail
 refine(dJ _ 4 _ (qA S1) (by omega) (by omega) (by omega)).mono ?_
 rintro e w2 ⟨r,rfl,r0,r1,zX,hk⟩
 have S2:=qC zX
 have K2:=qC ((qA K1).trans hk)
 have M2:=qC ((qA M1).keep hk)
 clear zX hk
 obtain⟨k0,rfl⟩:=Int.eq_ofNat_of_zero_le r0
 have qO1:Hid (∀ z,z≤300→qQ5 g a len cap N k0 z w2):=qC (fun z hz=>by
  obtain rfl | rfl | rfl | rfl:k0=0∨k0=1∨k0=2∨k0=3:=by omega
  ·exact .inr (.inr (.inr ⟨rfl,by omega,(qA S2).mono (by omega)⟩))
  ·exact .inr (.inr (.inl ⟨rfl,by omega,(qA S2).mono (by omega)⟩))
  ·exact .inr (.inl ⟨rfl,by omega,(qA S2).mono (by omega)⟩)
  ·exact .inl ⟨rfl,by omega,(qA S2).mono (by omega)⟩)
 have fH:k0≤3:=by omega
 go_wp2
 go_loopw[3,5] (fun m i wx=>∃ (k:Nat) (s:ByteArray),k≤3∧i=.int .i64 k∧m=.string s∧Hid (qQ5 g a len cap N k s.size wx)∧kR g w wx∧Hid (Nm g wx w1.heap.size)) (fun _ i _=>(intOf i).toNat)
 case atStart=>exact⟨k0,_,fH,rfl,rfl,qC (qA qO1 _ (by simp only[ByteArray.size_append,sz];simp;omega)),qA K2,M2⟩
 case round=>
  clear qO1 fH r1
  obtain⟨k,s,hk,rfl,rfl,gG,hkp,M3⟩:=hrel
  have K3:=qC hkp
  clear hkp
  rcases qA gG with ⟨rfl,hz,hs⟩ | ⟨rfl,hz,hs⟩ | ⟨rfl,hz,hs⟩ | ⟨rfl,hz,hs⟩
  ·have S3:=qC hs
   clear hs gG
   go_wp2_with fail
   refine(oQ _ _ _ (by omega) (qA S3) (qA M3)).mono ?_
   rintro e w4 ⟨ea,rfl,hea,zX,hk⟩
   have S4:=qC zX
   have K4:=qC ((qA K3).trans hk)
   have M4:=qC ((qA M3).keep hk)
   clear zX hk
   go_wp2
   go_roundw
   case rel=>exact⟨2,_,by omega,rfl,rfl,qC (.inr (.inl ⟨rfl,by simp only[ByteArray.size_append,sz];simp;omega,(qA S4).mono (by omega)⟩)),qA K4,M4⟩
   case measure=>simp[intOf]
  ·have S3:=qC hs
   clear hs gG
   go_wp2_with fail
   refine(oQ _ _ _ (by omega) (qA S3) (qA M3)).mono ?_
   rintro e w4 ⟨ea,rfl,hea,zX,hk⟩
   have S4:=qC zX
   have K4:=qC ((qA K3).trans hk)
   have M4:=qC ((qA M3).keep hk)
   clear zX hk
   go_wp2
   go_roundw
   case rel=>exact⟨1,_,by omega,rfl,rfl,qC (.inr (.inr (.inl ⟨rfl,by simp only[ByteArray.size_append,sz];simp;omega,(qA S4).mono (by omega)⟩))),qA K4,M4⟩
   case measure=>simp[intOf]
  ·have S3:=qC hs
   clear hs gG
   go_wp2_with fail
   refine(oQ _ _ _ (by omega) (qA S3) (qA M3)).mono ?_
   rintro e w4 ⟨ea,rfl,hea,zX,hk⟩
   have S4:=qC zX
   have K4:=qC ((qA K3).trans hk)
   have M4:=qC ((qA M3).keep hk)
   clear zX hk
   go_wp2
   go_roundw
   case rel=>exact⟨0,_,by omega,rfl,rfl,qC (.inr (.inr (.inr ⟨rfl,by simp only[ByteArray.size_append,sz];simp;omega,(qA S4).mono (by omega)⟩))),qA K4,M4⟩
   case measure=>simp[intOf]
  ·have S3:=qC hs
   clear hs gG
   go_wp2_with fail
   refine(qBN _ _ _ (by omega) (qA S3) (qA M3)).mono ?_
   rintro e w4 ⟨ea,rfl,hea,zX,hk⟩
   have S4:=qC zX
   have K4:=qC ((qA K3).trans hk)
   have M4:=qC ((qA M3).keep hk)
   clear zX hk
   go_wp2
   go_ret
   exact⟨_,rfl,by simp only[ByteArray.size_append,sz];simp;omega,(qA S4).mono (by omega),qA K4⟩
end Go.Proofs.YtbgkfaclfnkloaaGreatDoor
