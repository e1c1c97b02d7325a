import Derived.Test.YtbgkfaclfnkloaaGreatDoorG10
import Derived.Test.YtbgkfaclfnkloaaGreatDoorG13
namespace Go.Proofs.YtbgkfaclfnkloaaGreatDoor
set_option linter.all false
set_option maxHeartbeats 4000000
set_option maxRecDepth 100000
section
open Go.RowKit
def zV(p:Nat):Option (Int×List UInt8×Nat)→Value
 | some (k,t,n)=>.tuple #[.agg #[.int .i64 k,.int .i64 (p:Int),.string ⟨t.toArray⟩],.int .i64 ((p+n:Nat):Int),.bool true]
 | none=>.tuple #[.agg #[.int .i64 0,.int .i64 0,.string ⟨#[]⟩],.int .i64 (p:Int),.bool false]
theorem qIF(q:UInt8→Bool):∀ (l:List UInt8) (n:Nat),(∀ x∈l.take n,q x=true)→(∀ c,l[n]? = some c→q c=false)→l.takeWhile q=l.take n:=by
 intro l
 induction l with
 | nil=>intro n _ _;simp
 | cons a l ih=>
  intro n h1 h2
  cases n with
  | zero=>have:=h2 a rfl;simp[this]
  | succ n=>
   rw[List.takeWhile_cons,if_pos (h1 a (by simp)),List.take_succ_cons,ih n (fun x hx=>h1 x (by simp[hx])) (fun c hc=>h2 c (by simpa using hc))]
theorem fO(s:ByteArray)(p k:Nat):(s.extract p k).data.toList=(s.data.toList.drop p).take (k-p):=by
 rw[ByteArray.data_extract,Array.toList_extract,List.extract_eq_take_drop]
theorem qMR(s:ByteArray)(j:Nat):s.data.toList[j]? = if h:j<s.size then some s[j] else none:=by
 split
 ·rename_i h
  rw[List.getElem?_eq_getElem (by rw[jI];exact h)];rfl
 ·rename_i h
  exact List.getElem?_eq_none (by rw[jI];omega)
def qEf(q:UInt8→Bool)(s:ByteArray)(p k:Nat):Prop:=∀ j (h:j<s.size),p<j→j<k→q s[j]=true
theorem qEf.succ{q:UInt8→Bool}{s:ByteArray}{p k:Nat}(h:qEf q s p k)(hk:k<s.size)(hq:q s[k]=true):qEf q s p (k+1):=by
 intro j hj h1 h2
 by_cases e:j=k
 ·subst e;exact hq
 ·exact h j hj h1 (by omega)
theorem eQ{q:UInt8→Bool}{s:ByteArray}{p k:Nat}(hp:p<s.size)(kQ:p+1≤k)(hk:k≤s.size)(h:qEf q s p k)(hs:∀ jF:k<s.size,q s[k]=false) :
  s.data.toList.drop p=s[p]::s.data.toList.drop (p+1)∧s[p]::(s.data.toList.drop (p+1)).takeWhile q=(s.extract p k).data.toList∧(s.extract p k).data.toList.length=k-p:=by
 refine⟨kD s p hp,?_,?_⟩
 ·rw[qIF q _ (k-(p+1)),fO,kD s p hp,show k-p=(k-(p+1))+1 by omega,List.take_succ_cons]
  ·intro x hx
   obtain⟨j,hj,rfl⟩:=List.mem_iff_getElem.1 hx
   simp only[List.length_take,List.length_drop,jI]at hj
   simp only[List.getElem_take,List.getElem_drop]
   exact h (p+1+j) (by omega) (by omega) (by omega)
  ·intro c hc
   rw[List.getElem?_drop,show p+1+(k-(p+1))=k by omega,qMR]at hc
   split at hc
   ·rename_i jF
    have e:=Option.some.inj hc
    rw[←e];exact hs jF
   ·cases hc
 ·rw[fO,List.length_take,List.length_drop,jI];omega
def Z70:Obj:=.cells #[.int .i64 0,.int .i64 0,.string ⟨#[]⟩] 150
theorem p7{w wx:World}(h:Below (w.heap.size+1) (w.alloc (.cells #[.int .i64 0,.int .i64 0,.string ⟨#[]⟩] 150)) wx):(∀ b o,b<w.heap.size+1→wx.cell? ⟨b,o,none⟩=(w.alloc (.cells #[.int .i64 0,.int .i64 0,.string ⟨#[]⟩] 150)).cell? ⟨b,o,none⟩)∧(∀ b o,b<w.heap.size+1→wx.frozen? ⟨b,o,none⟩=(w.alloc (.cells #[.int .i64 0,.int .i64 0,.string ⟨#[]⟩] 150)).frozen? ⟨b,o,none⟩):=by
 obtain⟨h1,h2⟩:=yU (W:=w.alloc (.cells #[.int .i64 0,.int .i64 0,.string ⟨#[]⟩] 150)) (by simpa using h)
 exact⟨fun b o hb=>h1 b o (by simpa using hb),fun b o hb=>h2 b o (by simpa using hb)⟩
theorem wM(s:ByteArray)(w:World)(n:Int)(b:Bool)(hs:s.size≤maxLen)(h:cE s.data.toList=(n,b)) :
  Calls Tryz.prog 136 #[.string s] w fun e w'=>e=.returned (.tuple #[.int .i64 n,.bool b])∧w'=w:=by
 have:=aF s w hs
 rw[h]at this
 exact this
theorem iL(s:ByteArray)(p k:Nat)(hs:s.size≤65536):(s.extract p k).size≤maxLen:=by
 rw[ByteArray.size_extract];unfold maxLen;omega
theorem yS{p:Nat}{x:Option (Int×List UInt8×Nat)}(h:x=none):zV p none=zV p x:=by rw[h]
theorem gY{p k:Nat}{kd:Int}{s:ByteArray}{x:Option (Int×List UInt8×Nat)}(h:x=some (kd,(s.extract p k).data.toList,k-p))(hk:p≤k) :
  Value.tuple #[.agg #[.int .i64 kd,.int .i64 (p:Int),.string (s.extract p k)],.int .i64 (k:Int),.bool true]=zV p x:=by
 rw[h]
 show _=Value.tuple #[.agg #[.int .i64 kd,.int .i64 (p:Int),.string (s.extract p k)],.int .i64 ((p+(k-p):Nat):Int),.bool true]
 rw[show p+(k-p)=k by omega]
theorem qCP(s:ByteArray)(p:Nat)(w:World)(hs:s.size≤65536)(hp:p<s.size)(h0:mU (s[p].toNat:Int)=true) :
  Calls Tryz.prog 108 #[.string s,.int .i64 (p:Int)] w fun e w'=>e=.returned (zV p (zS (s.data.toList.drop p)))∧Below w.heap.size w w':=by
 have hp0:¬(p:Int)<0:=by omega
 have bK:(p:Int)<(s.size:Int):=by omega
 go_enter Tryz.func108,Tryz.ntmps108
 go_wp2_with (first | (go_at_call 127;refine(qW _ _).mono ?_;rintro e wr ⟨rfl,rfl⟩) | (go_at_call 128;refine(jB _ _).mono ?_;rintro e wr ⟨rfl,rfl⟩))
 go_loop [8] (fun i=>∃ k:Nat,p+1≤k∧k≤s.size∧i=.int .i64 k∧Hid (qEf nmb s p k)) (fun i=>s.size-(intOf i).toNat)
 case atStart=>exact⟨p+1,by omega,by omega,by go_num,qC (fun j _ h1 h2=>by omega)⟩
 case round=>
  obtain⟨k,kQ,hk,rfl,eB⟩:=hrel
  by_cases jF:k<s.size
  ·have fH:¬(k:Int)<0:=by omega
   have qJL:(k:Int)<(s.size:Int):=by omega
   cases hL:mU (s[k].toNat:Int)
   ·cases hD:xM (s[k].toNat:Int)
    ·have hq:nmb s[k]=false:=by simp[nmb,hL,hD]
     have zX:=qC (eQ hp kQ hk (qA eB) (fun _=>hq))
     clear eB
     have hx:=qC (iL s p k hs)
     by_cases yE:20<k-p
     ·have hd:=qC (show zS (s.data.toList.drop p)=none by
       obtain⟨e1,e2,e3⟩:=qA zX
       rw[e1,cU _ _ h0,e2,e3,if_neg (by omega)])
      have qTg:20<(k:Int)-(p:Int):=by omega
      clear zX
      go_wp2_with (first | (go_at_call 127;refine(qW _ _).mono ?_;rintro e wr ⟨rfl,rfl⟩) | (go_at_call 128;refine(jB _ _).mono ?_;rintro e wr ⟨rfl,rfl⟩))
      exact bodyPost_ret (v:=zV p none) (by simp[results,Tryz.results108,go_sem,zV]) rfl ⟨congrArg Ending.returned (yS (qA hd)),(by repeat (first | exact Below.refl _ _ | refine qG ?_ | refine jE ?_ (by first | omega | (simp <;> omega)) | refine qF ?_ | refine qE ?_ (qA (by assumption))))⟩
     ·have hd:=qC (show zS (s.data.toList.drop p)=some (if pF (s.extract p k).data.toList=true then 2 else 1,(s.extract p k).data.toList,k-p) by
       obtain⟨e1,e2,e3⟩:=qA zX
       rw[e1,cU _ _ h0,e2,e3,if_pos (by omega)])
      have qTg:¬20<(k:Int)-(p:Int):=by omega
      have hkp:(p:Int)≤(k:Int):=by omega
      have oG:(k:Int)≤(s.size:Int):=by omega
      clear zX
      go_wp2_with (first | (go_at_call 127;refine(qW _ _).mono ?_;rintro e wr ⟨rfl,rfl⟩) | (go_at_call 128;refine(jB _ _).mono ?_;rintro e wr ⟨rfl,rfl⟩))
      refine(sB (s.extract p k) _ (qA hx)).mono ?_
      rintro e w1 ⟨rfl,jD⟩
      obtain⟨hc,hf⟩:=p7 (w:=w) (wx:=w1) (by simpa using jD)
      have hz:w.heap.size<w1.heap.size:=by have:=jD.size;simp at this;omega
      have qQP:=qC jD
      clear jD
      cases hW:pF (s.extract p k).data.toList
      ·rw[hW]at hd
       go_wp2
       exact bodyPost_ret (v:=Value.tuple #[.agg #[.int .i64 1,.int .i64 (p:Int),.string (s.extract p k)],.int .i64 (k:Int),.bool true]) (by simp[results,Tryz.results108,go_sem,hc]) rfl ⟨congrArg Ending.returned (gY (by rw[qA hd];rfl) (by omega)),(by repeat (first | exact Below.refl _ _ | refine qG ?_ | refine jE ?_ (by first | omega | (simp <;> omega)) | refine qF ?_ | refine qE ?_ (qA (by assumption))))⟩
      ·rw[hW]at hd
       go_wp2
       exact bodyPost_ret (v:=Value.tuple #[.agg #[.int .i64 2,.int .i64 (p:Int),.string (s.extract p k)],.int .i64 (k:Int),.bool true]) (by simp[results,Tryz.results108,go_sem,hc]) rfl ⟨congrArg Ending.returned (gY (by rw[qA hd];rfl) (by omega)),(by repeat (first | exact Below.refl _ _ | refine qG ?_ | refine jE ?_ (by first | omega | (simp <;> omega)) | refine qF ?_ | refine qE ?_ (qA (by assumption))))⟩
    ·have kH:=qC ((qA eB).succ jF (by simp[nmb,hD]))
     go_wp2_with (first | (go_at_call 127;refine(qW _ _).mono ?_;rintro e wr ⟨rfl,rfl⟩) | (go_at_call 128;refine(jB _ _).mono ?_;rintro e wr ⟨rfl,rfl⟩))
     go_round
     case rel=>exact⟨k+1,by omega,by omega,by go_num,qA kH⟩
     case measure=>simp[intOf];omega
   ·have kH:=qC ((qA eB).succ jF (by simp[nmb,hL]))
    go_wp2_with (first | (go_at_call 127;refine(qW _ _).mono ?_;rintro e wr ⟨rfl,rfl⟩) | (go_at_call 128;refine(jB _ _).mono ?_;rintro e wr ⟨rfl,rfl⟩))
    go_round
    case rel=>exact⟨k+1,by omega,by omega,by go_num,qA kH⟩
    case measure=>simp[intOf];omega
  ·have qJL:¬(k:Int)<(s.size:Int):=by omega
   have zX:=qC (eQ hp kQ hk (qA eB) (fun h=>absurd h jF))
   clear eB
   have hx:=qC (iL s p k hs)
   by_cases yE:20<k-p
   ·have hd:=qC (show zS (s.data.toList.drop p)=none by
     obtain⟨e1,e2,e3⟩:=qA zX
     rw[e1,cU _ _ h0,e2,e3,if_neg (by omega)])
    have qTg:20<(k:Int)-(p:Int):=by omega
    clear zX
    go_wp2_with (first | (go_at_call 127;refine(qW _ _).mono ?_;rintro e wr ⟨rfl,rfl⟩) | (go_at_call 128;refine(jB _ _).mono ?_;rintro e wr ⟨rfl,rfl⟩))
    exact bodyPost_ret (v:=zV p none) (by simp[results,Tryz.results108,go_sem,zV]) rfl ⟨congrArg Ending.returned (yS (qA hd)),(by repeat (first | exact Below.refl _ _ | refine qG ?_ | refine jE ?_ (by first | omega | (simp <;> omega)) | refine qF ?_ | refine qE ?_ (qA (by assumption))))⟩
   ·have hd:=qC (show zS (s.data.toList.drop p)=some (if pF (s.extract p k).data.toList=true then 2 else 1,(s.extract p k).data.toList,k-p) by
     obtain⟨e1,e2,e3⟩:=qA zX
     rw[e1,cU _ _ h0,e2,e3,if_pos (by omega)])
    have qTg:¬20<(k:Int)-(p:Int):=by omega
    have hkp:(p:Int)≤(k:Int):=by omega
    have oG:(k:Int)≤(s.size:Int):=by omega
    clear zX
    go_wp2_with (first | (go_at_call 127;refine(qW _ _).mono ?_;rintro e wr ⟨rfl,rfl⟩) | (go_at_call 128;refine(jB _ _).mono ?_;rintro e wr ⟨rfl,rfl⟩))
    refine(sB (s.extract p k) _ (qA hx)).mono ?_
    rintro e w1 ⟨rfl,jD⟩
    obtain⟨hc,hf⟩:=p7 (w:=w) (wx:=w1) (by simpa using jD)
    have hz:w.heap.size<w1.heap.size:=by have:=jD.size;simp at this;omega
    have qQP:=qC jD
    clear jD
    cases hW:pF (s.extract p k).data.toList
    ·rw[hW]at hd
     go_wp2
     exact bodyPost_ret (v:=Value.tuple #[.agg #[.int .i64 1,.int .i64 (p:Int),.string (s.extract p k)],.int .i64 (k:Int),.bool true]) (by simp[results,Tryz.results108,go_sem,hc]) rfl ⟨congrArg Ending.returned (gY (by rw[qA hd];rfl) (by omega)),(by repeat (first | exact Below.refl _ _ | refine qG ?_ | refine jE ?_ (by first | omega | (simp <;> omega)) | refine qF ?_ | refine qE ?_ (qA (by assumption))))⟩
    ·rw[hW]at hd
     go_wp2
     exact bodyPost_ret (v:=Value.tuple #[.agg #[.int .i64 2,.int .i64 (p:Int),.string (s.extract p k)],.int .i64 (k:Int),.bool true]) (by simp[results,Tryz.results108,go_sem,hc]) rfl ⟨congrArg Ending.returned (gY (by rw[qA hd];rfl) (by omega)),(by repeat (first | exact Below.refl _ _ | refine qG ?_ | refine jE ?_ (by first | omega | (simp <;> omega)) | refine qF ?_ | refine qE ?_ (qA (by assumption))))⟩
theorem qDo(s:ByteArray)(p:Nat)(w:World)(hs:s.size≤65536)(hp:p<s.size)(hl0:mU (s[p].toNat:Int)=false)(h0:xM (s[p].toNat:Int)=true) :
  Calls Tryz.prog 108 #[.string s,.int .i64 (p:Int)] w fun e w'=>e=.returned (zV p (zS (s.data.toList.drop p)))∧Below w.heap.size w w':=by
 have hp0:¬(p:Int)<0:=by omega
 have bK:(p:Int)<(s.size:Int):=by omega
 go_enter Tryz.func108,Tryz.ntmps108
 go_wp2_with (first | (go_at_call 127;refine(qW _ _).mono ?_;rintro e wr ⟨rfl,rfl⟩) | (go_at_call 128;refine(jB _ _).mono ?_;rintro e wr ⟨rfl,rfl⟩))
 go_loop [8] (fun i=>∃ k:Nat,p+1≤k∧k≤s.size∧i=.int .i64 k∧Hid (qEf hY s p k)) (fun i=>s.size-(intOf i).toNat)
 case atStart=>exact⟨p+1,by omega,by omega,by go_num,qC (fun j _ h1 h2=>by omega)⟩
 case round=>
  obtain⟨k,kQ,hk,rfl,eB⟩:=hrel
  by_cases jF:k<s.size
  ·have fH:¬(k:Int)<0:=by omega
   have qJL:(k:Int)<(s.size:Int):=by omega
   cases hD:xM (s[k].toNat:Int)
   ·have hq:hY s[k]=false:=hD
    have zX:=qC (eQ hp kQ hk (qA eB) (fun _=>hq))
    clear eB
    have hx:=qC (iL s p k hs)
    have iZ:=qC (show cE (s.extract p k).data.toList=mD (s.extract p k).data.toList by
     obtain⟨e1,e2,e3⟩:=qA zX
     rw[←e2]
     exact if_neg (by simp;intro e;rw[e]at h0;exact absurd h0 (by decide)))
    have hkp:(p:Int)≤(k:Int):=by omega
    have oG:(k:Int)≤(s.size:Int):=by omega
    obtain⟨n,b,pI⟩:∃ n b,mD (s.extract p k).data.toList=(n,b):=⟨_,_,rfl⟩
    have qC6:=qC ((qA iZ).trans pI)
    have cJ:=qC pI
    clear pI iZ
    by_cases sS:b=true∧n≤2147483647
    ·have hd:=qC (show zS (s.data.toList.drop p)=some (3,(s.extract p k).data.toList,k-p) by
      obtain⟨e1,e2,e3⟩:=qA zX
      rw[e1,bB _ _ hl0 h0,e2,e3,qA cJ,if_pos sS])
     obtain⟨rfl,qTd⟩:=sS
     clear zX cJ
     go_wp2_with (first | (go_at_call 127;refine(qW _ _).mono ?_;rintro e wr ⟨rfl,rfl⟩) | (go_at_call 128;refine(jB _ _).mono ?_;rintro e wr ⟨rfl,rfl⟩))
     refine(wM (s.extract p k) _ n true (qA hx) (qA qC6)).mono ?_
     rintro e wr ⟨rfl,rfl⟩
     go_wp2
     exact bodyPost_ret (v:=Value.tuple #[.agg #[.int .i64 3,.int .i64 (p:Int),.string (s.extract p k)],.int .i64 (k:Int),.bool true]) (by simp[results,Tryz.results108,go_sem]) rfl ⟨congrArg Ending.returned (gY (by rw[qA hd]) (by omega)),(by repeat (first | exact Below.refl _ _ | refine qG ?_ | refine jE ?_ (by first | omega | (simp <;> omega)) | refine qF ?_ | refine qE ?_ (qA (by assumption))))⟩
    ·have hd:=qC (show zS (s.data.toList.drop p)=none by
      obtain⟨e1,e2,e3⟩:=qA zX
      rw[e1,bB _ _ hl0 h0,e2,e3,qA cJ,if_neg sS])
     clear zX cJ
     cases b
     ·clear sS
      go_wp2_with (first | (go_at_call 127;refine(qW _ _).mono ?_;rintro e wr ⟨rfl,rfl⟩) | (go_at_call 128;refine(jB _ _).mono ?_;rintro e wr ⟨rfl,rfl⟩))
      refine(wM (s.extract p k) _ n false (qA hx) (qA qC6)).mono ?_
      rintro e wr ⟨rfl,rfl⟩
      go_wp2
      exact bodyPost_ret (v:=zV p none) (by simp[results,Tryz.results108,go_sem,zV]) rfl ⟨congrArg Ending.returned (yS (qA hd)),(by repeat (first | exact Below.refl _ _ | refine qG ?_ | refine jE ?_ (by first | omega | (simp <;> omega)) | refine qF ?_ | refine qE ?_ (qA (by assumption))))⟩
     ·have qTd:2147483647<n:=by
       simp at sS
       omega
      clear sS
      go_wp2_with (first | (go_at_call 127;refine(qW _ _).mono ?_;rintro e wr ⟨rfl,rfl⟩) | (go_at_call 128;refine(jB _ _).mono ?_;rintro e wr ⟨rfl,rfl⟩))
      refine(wM (s.extract p k) _ n true (qA hx) (qA qC6)).mono ?_
      rintro e wr ⟨rfl,rfl⟩
      go_wp2
      exact bodyPost_ret (v:=zV p none) (by simp[results,Tryz.results108,go_sem,zV]) rfl ⟨congrArg Ending.returned (yS (qA hd)),(by repeat (first | exact Below.refl _ _ | refine qG ?_ | refine jE ?_ (by first | omega | (simp <;> omega)) | refine qF ?_ | refine qE ?_ (qA (by assumption))))⟩
   ·have kH:=qC ((qA eB).succ jF hD)
    go_wp2_with (first | (go_at_call 127;refine(qW _ _).mono ?_;rintro e wr ⟨rfl,rfl⟩) | (go_at_call 128;refine(jB _ _).mono ?_;rintro e wr ⟨rfl,rfl⟩))
    go_round
    case rel=>exact⟨k+1,by omega,by omega,by go_num,qA kH⟩
    case measure=>simp[intOf];omega
  ·have qJL:¬(k:Int)<(s.size:Int):=by omega
   have zX:=qC (eQ hp kQ hk (qA eB) (fun h=>absurd h jF))
   clear eB
   have hx:=qC (iL s p k hs)
   have iZ:=qC (show cE (s.extract p k).data.toList=mD (s.extract p k).data.toList by
    obtain⟨e1,e2,e3⟩:=qA zX
    rw[←e2]
    exact if_neg (by simp;intro e;rw[e]at h0;exact absurd h0 (by decide)))
   have hkp:(p:Int)≤(k:Int):=by omega
   have oG:(k:Int)≤(s.size:Int):=by omega
   obtain⟨n,b,pI⟩:∃ n b,mD (s.extract p k).data.toList=(n,b):=⟨_,_,rfl⟩
   have qC6:=qC ((qA iZ).trans pI)
   have cJ:=qC pI
   clear pI iZ
   by_cases sS:b=true∧n≤2147483647
   ·have hd:=qC (show zS (s.data.toList.drop p)=some (3,(s.extract p k).data.toList,k-p) by
     obtain⟨e1,e2,e3⟩:=qA zX
     rw[e1,bB _ _ hl0 h0,e2,e3,qA cJ,if_pos sS])
    obtain⟨rfl,qTd⟩:=sS
    clear zX cJ
    go_wp2_with (first | (go_at_call 127;refine(qW _ _).mono ?_;rintro e wr ⟨rfl,rfl⟩) | (go_at_call 128;refine(jB _ _).mono ?_;rintro e wr ⟨rfl,rfl⟩))
    refine(wM (s.extract p k) _ n true (qA hx) (qA qC6)).mono ?_
    rintro e wr ⟨rfl,rfl⟩
    go_wp2
    exact bodyPost_ret (v:=Value.tuple #[.agg #[.int .i64 3,.int .i64 (p:Int),.string (s.extract p k)],.int .i64 (k:Int),.bool true]) (by simp[results,Tryz.results108,go_sem]) rfl ⟨congrArg Ending.returned (gY (by rw[qA hd]) (by omega)),(by repeat (first | exact Below.refl _ _ | refine qG ?_ | refine jE ?_ (by first | omega | (simp <;> omega)) | refine qF ?_ | refine qE ?_ (qA (by assumption))))⟩
   ·have hd:=qC (show zS (s.data.toList.drop p)=none by
     obtain⟨e1,e2,e3⟩:=qA zX
     rw[e1,bB _ _ hl0 h0,e2,e3,qA cJ,if_neg sS])
    clear zX cJ
    cases b
    ·clear sS
     go_wp2_with (first | (go_at_call 127;refine(qW _ _).mono ?_;rintro e wr ⟨rfl,rfl⟩) | (go_at_call 128;refine(jB _ _).mono ?_;rintro e wr ⟨rfl,rfl⟩))
     refine(wM (s.extract p k) _ n false (qA hx) (qA qC6)).mono ?_
     rintro e wr ⟨rfl,rfl⟩
     go_wp2
     exact bodyPost_ret (v:=zV p none) (by simp[results,Tryz.results108,go_sem,zV]) rfl ⟨congrArg Ending.returned (yS (qA hd)),(by repeat (first | exact Below.refl _ _ | refine qG ?_ | refine jE ?_ (by first | omega | (simp <;> omega)) | refine qF ?_ | refine qE ?_ (qA (by assumption))))⟩
    ·have qTd:2147483647<n:=by
      simp at sS
      omega
     clear sS
     go_wp2_with (first | (go_at_call 127;refine(qW _ _).mono ?_;rintro e wr ⟨rfl,rfl⟩) | (go_at_call 128;refine(jB _ _).mono ?_;rintro e wr ⟨rfl,rfl⟩))
     refine(wM (s.extract p k) _ n true (qA hx) (qA qC6)).mono ?_
     rintro e wr ⟨rfl,rfl⟩
     go_wp2
     exact bodyPost_ret (v:=zV p none) (by simp[results,Tryz.results108,go_sem,zV]) rfl ⟨congrArg Ending.returned (yS (qA hd)),(by repeat (first | exact Below.refl _ _ | refine qG ?_ | refine jE ?_ (by first | omega | (simp <;> omega)) | refine qF ?_ | refine qE ?_ (qA (by assumption))))⟩
def QAt(s:ByteArray)(p k:Nat)(t:List UInt8):Prop:=xT (s.data.toList.drop (p+1))=(xT (s.data.toList.drop k)).map (fun x=>(t++x.1,x.2))
theorem qE5{s:ByteArray}{p k:Nat}{t:List UInt8}(hp:p<s.size)(h0:s[p]=39)(h:QAt s p k t)(hn:xT (s.data.toList.drop k)=none):zS (s.data.toList.drop p)=none:=by
 rw[kD s p hp,h0,sU,h,hn];rfl
theorem qR2{s:ByteArray}{p k:Nat}{t:List UInt8}(hp:p<s.size)(h0:s[p]=39)(h:QAt s p k t)(hk:k<s.size)(hq:s[k]=39)(ht:60<t.length):zS (s.data.toList.drop p)=none:=by
 rw[kD s p hp,h0,sU,h,kD s k hk,hq,qEa]
 simp
 omega
theorem qSf{s:ByteArray}{p k:Nat}{t:List UInt8}(hp:p<s.size)(h0:s[p]=39)(h:QAt s p k t)(kI:p<k)(hk:k<s.size)(hq:s[k]=39)(ht:t.length≤60):zS (s.data.toList.drop p)=some (4,t,k+1-p):=by
 have hl:(39::s.data.toList.drop (p+1)).length=s.size-p:=by
  rw[←h0,←kD s p hp,List.length_drop,jI]
 rw[kD s p hp,h0,sU,h,kD s k hk,hq,qEa]
 simp only[Option.map_some,List.append_nil]
 rw[if_pos ht,hl,List.length_drop,jI]
 congr 3
 omega
theorem qQk{s:ByteArray}{p k:Nat}{t:List UInt8}(h:QAt s p k t)(hk:k<s.size)(h1:s[k]≠39)(h2:s[k]≠92)(h3:okC s[k]=true):QAt s p (k+1) (t++[s[k]]):=by
 unfold QAt at *
 rw[h,kD s k hk,qF2 _ _ h1 h2 h3,Option.map_map]
 congr 1
 funext p
 simp
theorem qTV{s:ByteArray}{p k:Nat}{t:List UInt8}(h:QAt s p k t)(hk:k<s.size)(kQ:k+1<s.size)(h2:s[k]=92)(h3:s[k+1]=39∨s[k+1]=92):QAt s p (k+2) (t++[s[k+1]]):=by
 unfold QAt at *
 rw[h,kD s k hk,kD s (k+1) kQ,h2,qLB _ _ h3,Option.map_map]
 congr 1
 funext p
 simp
theorem qIS{p k:Nat}{t:List UInt8}{x:Option (Int×List UInt8×Nat)}(h:x=some (4,t,k+1-p))(hk:p<k) :
  Value.tuple #[.agg #[.int .i64 4,.int .i64 (p:Int),.string ⟨t.toArray⟩],.int .i64 ((k:Int)+1),.bool true]=zV p x:=by
 rw[h]
 show _=Value.tuple #[.agg #[.int .i64 4,.int .i64 (p:Int),.string ⟨t.toArray⟩],.int .i64 ((p+(k+1-p):Nat):Int),.bool true]
 rw[show p+(k+1-p)=k+1 by omega]
 rfl
theorem qDq(s:ByteArray)(p:Nat)(w:World)(hs:s.size≤65536)(hp:p<s.size)(h0:((s[p].toNat:Int) == 39)=true) :
  Calls Tryz.prog 108 #[.string s,.int .i64 (p:Int)] w fun e w'=>e=.returned (zV p (zS (s.data.toList.drop p)))∧Below w.heap.size w w':=by
 have b39:=qC (xE (c:=s[p]) (d:=39) (by simpa using h0))
 have hp0:¬(p:Int)<0:=by omega
 have bK:(p:Int)<(s.size:Int):=by omega
 have qZE:mU (s[p].toNat:Int)=false:=by rw[show(s[p].toNat:Int)=39 by simpa using h0];decide
 have qYR:xM (s[p].toNat:Int)=false:=by rw[show(s[p].toNat:Int)=39 by simpa using h0];decide
 obtain⟨r,hr⟩:∃ r,r=zS (s.data.toList.drop p):=⟨_,rfl⟩
 rw[←hr]
 have HR:=qC hr
 clear hr
 have iW:=qC (Buf.lit0 (w.alloc Z70) (w.heap.size+1) (by simp))
 go_enter Tryz.func108,Tryz.ntmps108
 go_wp2_with (first | (go_at_call 127;refine(qW _ _).mono ?_;rintro e wr ⟨rfl,rfl⟩) | (go_at_call 128;refine(jB _ _).mono ?_;rintro e wr ⟨rfl,rfl⟩))
 go_loopw[8,12] (fun i m wx=>∃ (k:Nat) (t:List UInt8),p+1≤k∧k≤s.size∧i=.int .i64 k∧t.length<k∧Hid (QAt s p k t)∧Buf wx (w.heap.size+1) m t∧Below (w.heap.size+1) (w.alloc Z70) wx) (fun i _ _=>s.size-(intOf i).toNat)
 case atStart=>exact⟨p+1,[],by omega,by omega,by go_num,by simp,qC (by unfold QAt;simp),(by have:=qA iW;simpa[Z70]using this),(Below.refl _ _).alloc (by simp) _⟩
 case round=>
  clear h0 qZE qYR iW
  obtain⟨k,t,kQ,hk,rfl,ht,gG,zE,uL⟩:=hrel
  obtain⟨ma,qZi,rfl⟩:=zE.slice
  by_cases jF:k<s.size
  ·have qZA:(k:Int)<(s.size:Int):=by omega
   by_cases q39:(s[k].toNat:Int)=39
   ·have e39:((s[k].toNat:Int) != 39)=false:=by rw[q39];rfl
    have c39:=qC (xE (d:=39) q39)
    have eks:((k:Int) == (s.size:Int))=false:=beq_eq_false_iff_ne.2 (by omega)
    clear q39
    by_cases q60:60<t.length
    ·have hd:=qC ((qA HR).trans (qR2 hp (qA b39) (qA gG) jF (qA c39) q60))
     obtain⟨hc,hf⟩:=p7 (w:=w) (wx:=wr) (by simpa[Z70]using uL)
     have hz:w.heap.size<wr.heap.size:=by have:=uL.size;simp at this;omega
     have qOV:Hid (Below (w.alloc (.cells #[.int .i64 0,.int .i64 0,.string ⟨#[]⟩] 150)).heap.size (w.alloc (.cells #[.int .i64 0,.int .i64 0,.string ⟨#[]⟩] 150)) wr):=qC (by simpa[Z70]using uL)
     clear uL
     clear zE
     go_wp2
     exact bodyPost_ret (v:=zV p none) (by simp[results,Tryz.results108,go_sem,zV,hc]) rfl ⟨congrArg Ending.returned (yS (qA hd)),(by repeat (first | exact Below.refl _ _ | refine qG ?_ | refine jE ?_ (by first | omega | (simp <;> omega)) | refine qF ?_ | refine qE ?_ (qA (by assumption))))⟩
    ·have hd:=qC ((qA HR).trans (qSf hp (qA b39) (qA gG) (by omega) jF (qA c39) (by omega)))
     have hcv:=zE.conv
     obtain⟨hc,hf⟩:=p7 (w:=w) (wx:=wr) (by simpa[Z70]using uL)
     have hz:w.heap.size<wr.heap.size:=by have:=uL.size;simp at this;omega
     have qOV:Hid (Below (w.alloc (.cells #[.int .i64 0,.int .i64 0,.string ⟨#[]⟩] 150)).heap.size (w.alloc (.cells #[.int .i64 0,.int .i64 0,.string ⟨#[]⟩] 150)) wr):=qC (by simpa[Z70]using uL)
     clear uL
     go_wp2
     exact bodyPost_ret (v:=Value.tuple #[.agg #[.int .i64 4,.int .i64 (p:Int),.string ⟨t.toArray⟩],.int .i64 ((k:Int)+1),.bool true]) (by simp[results,Tryz.results108,go_sem,hc]) rfl ⟨congrArg Ending.returned (qIS (qA hd) (by omega)),(by repeat (first | exact Below.refl _ _ | refine qG ?_ | refine jE ?_ (by first | omega | (simp <;> omega)) | refine qF ?_ | refine qE ?_ (qA (by assumption))))⟩
   have e39:((s[k].toNat:Int) != 39)=true:=by rw[bne_iff_ne];exact q39
   by_cases q92:(s[k].toNat:Int)=92
   ·have e92:((s[k].toNat:Int) == 92)=true:=by rw[q92];rfl
    have b92:=qC (xE (d:=92) q92)
    by_cases qSW:k+1=s.size
    ·have ee:(((k:Int)+1) == (s.size:Int))=true:=by simp;omega
     have hd:=qC ((qA HR).trans (qE5 hp (qA b39) (qA gG) (by rw[kD s k jF,qA b92,qCT s (k+1) (by omega)];exact qJp)))
     obtain⟨hc,hf⟩:=p7 (w:=w) (wx:=wr) (by simpa[Z70]using uL)
     have hz:w.heap.size<wr.heap.size:=by have:=uL.size;simp at this;omega
     have qOV:Hid (Below (w.alloc (.cells #[.int .i64 0,.int .i64 0,.string ⟨#[]⟩] 150)).heap.size (w.alloc (.cells #[.int .i64 0,.int .i64 0,.string ⟨#[]⟩] 150)) wr):=qC (by simpa[Z70]using uL)
     clear uL
     clear q92 q39 qSW zE
     go_wp2
     exact bodyPost_ret (v:=zV p none) (by simp[results,Tryz.results108,go_sem,zV,hc]) rfl ⟨congrArg Ending.returned (yS (qA hd)),(by repeat (first | exact Below.refl _ _ | refine qG ?_ | refine jE ?_ (by first | omega | (simp <;> omega)) | refine qF ?_ | refine qE ?_ (qA (by assumption))))⟩
    have qUO:k+1<s.size:=by omega
    have jBr:(k:Int)+1<(s.size:Int):=by omega
    have ee:(((k:Int)+1) == (s.size:Int))=false:=beq_eq_false_iff_ne.2 (by omega)
    by_cases qd:(s[k+1].toNat:Int)=39∨(s[k+1].toNat:Int)=92
    ·have qAr:=qC (qTV (qA gG) jF qUO (qA b92) (qd.imp (fun h=>xE (d:=39) h) (fun h=>xE (d:=92) h)))
     clear q92 q39 qSW
     rcases qd with qd | qd
     ·have f1:((s[k+1].toNat:Int) != 39)=false:=by rw[qd];rfl
      have g1:32≤(s[k+1].toNat:Int):=by omega
      have g2:(s[k+1].toNat:Int)≤126:=by omega
      clear qd
      go_wp2_with fail
      refine(qP _ _ _ true _ (by simp;omega)).mono ?_
      rintro e wr ⟨rfl,rfl⟩
      go_wp2_with (at_builtin;refine gJ _ rfl _ _ rfl (w.heap.size+1) wr.heap.size _ t s[k+1] rfl (zE.alloc _) rfl (by simp) ?c5 ?c3 ?c6)
      case c5=>have:=uL.size;simp at this;simp;omega
      case c3=>omega
      case c6=>
       intro v' w1 kO jD
       have nS:Below (w.heap.size+1) (w.alloc Z70) w1:=(uL.alloc (by have:=uL.size;simp at this;omega) _).trans jD
       have HO:=qC kO
       clear kO jD zE
       go_wp2
       go_roundw
       case rel=>exact⟨k+2,t++[s[k+1]],by omega,by omega,by go_num,by simp;omega,qC (qA qAr),qA HO,nS⟩
       case measure=>simp[intOf];omega
     ·have f1:((s[k+1].toNat:Int) != 39)=true:=by rw[qd];rfl
      have f2:((s[k+1].toNat:Int) != 92)=false:=by rw[qd];rfl
      have g1:32≤(s[k+1].toNat:Int):=by omega
      have g2:(s[k+1].toNat:Int)≤126:=by omega
      clear qd
      go_wp2_with fail
      refine(qP _ _ _ true _ (by simp;omega)).mono ?_
      rintro e wr ⟨rfl,rfl⟩
      go_wp2_with (at_builtin;refine gJ _ rfl _ _ rfl (w.heap.size+1) wr.heap.size _ t s[k+1] rfl (zE.alloc _) rfl (by simp) ?c5 ?c3 ?c6)
      case c5=>have:=uL.size;simp at this;simp;omega
      case c3=>omega
      case c6=>
       intro v' w1 kO jD
       have nS:Below (w.heap.size+1) (w.alloc Z70) w1:=(uL.alloc (by have:=uL.size;simp at this;omega) _).trans jD
       have HO:=qC kO
       clear kO jD zE
       go_wp2
       go_roundw
       case rel=>exact⟨k+2,t++[s[k+1]],by omega,by omega,by go_num,by simp;omega,qC (qA qAr),qA HO,nS⟩
       case measure=>simp[intOf];omega
    ·have f1:((s[k+1].toNat:Int) != 39)=true:=by rw[bne_iff_ne];exact fun h=>qd (.inl h)
     have f2:((s[k+1].toNat:Int) != 92)=true:=by rw[bne_iff_ne];exact fun h=>qd (.inr h)
     have hd:=qC ((qA HR).trans (qE5 hp (qA b39) (qA gG) (by rw[kD s k jF,qA b92,kD s (k+1) qUO];exact qFj _ _ (fun h=>qd (h.imp (fun e=>by rw[e];rfl) (fun e=>by rw[e];rfl))))))
     obtain⟨hc,hf⟩:=p7 (w:=w) (wx:=wr) (by simpa[Z70]using uL)
     have hz:w.heap.size<wr.heap.size:=by have:=uL.size;simp at this;omega
     have qOV:Hid (Below (w.alloc (.cells #[.int .i64 0,.int .i64 0,.string ⟨#[]⟩] 150)).heap.size (w.alloc (.cells #[.int .i64 0,.int .i64 0,.string ⟨#[]⟩] 150)) wr):=qC (by simpa[Z70]using uL)
     clear uL
     clear qd q92 q39 qSW zE
     go_wp2
     exact bodyPost_ret (v:=zV p none) (by simp[results,Tryz.results108,go_sem,zV,hc]) rfl ⟨congrArg Ending.returned (yS (qA hd)),(by repeat (first | exact Below.refl _ _ | refine qG ?_ | refine jE ?_ (by first | omega | (simp <;> omega)) | refine qF ?_ | refine qE ?_ (qA (by assumption))))⟩
   ·have e92:((s[k].toNat:Int) == 92)=false:=beq_eq_false_iff_ne.2 q92
    by_cases q32:(s[k].toNat:Int)<32∨126<(s[k].toNat:Int)
    ·have hd:=qC ((qA HR).trans (qE5 hp (qA b39) (qA gG) (by rw[kD s k jF];exact qMd _ _ (wQ (d:=39) q39) (wQ (d:=92) q92) (qEj q32))))
     have qb:(s[k].toNat:Int)≤255:=by have:=s[k].toNat_lt;omega
     clear q92 q39
     rcases q32 with q32 | q32
     all_goals
      go_wp2_with fail
      refine(qP _ _ _ false _ (by simp;omega)).mono ?_
      rintro e wr ⟨rfl,rfl⟩
      obtain⟨hc,hf⟩:=p7 (w:=w) (wx:=wr) (by simpa[Z70]using uL)
      have hz:w.heap.size<wr.heap.size:=by have:=uL.size;simp at this;omega
      have qOV:Hid (Below (w.alloc (.cells #[.int .i64 0,.int .i64 0,.string ⟨#[]⟩] 150)).heap.size (w.alloc (.cells #[.int .i64 0,.int .i64 0,.string ⟨#[]⟩] 150)) wr):=qC (by simpa[Z70]using uL)
      clear uL
      clear q32 qb zE
      go_wp2
      exact bodyPost_ret (v:=zV p none) (by simp[results,Tryz.results108,go_sem,zV,hc]) rfl ⟨congrArg Ending.returned (yS (qA hd)),(by repeat (first | exact Below.refl _ _ | refine qG ?_ | refine jE ?_ (by first | omega | (simp <;> omega)) | refine qF ?_ | refine qE ?_ (qA (by assumption))))⟩
    have g1:32≤(s[k].toNat:Int):=by omega
    have g2:(s[k].toNat:Int)≤126:=by omega
    have qAr:=qC (qQk (qA gG) jF (wQ (d:=39) q39) (wQ (d:=92) q92) (qG6 g1 g2))
    clear q32 q92 q39
    go_wp2_with fail
    refine(qP _ _ _ true _ (by simp;omega)).mono ?_
    rintro e wr ⟨rfl,rfl⟩
    go_wp2_with (at_builtin;refine gJ _ rfl _ _ rfl (w.heap.size+1) wr.heap.size _ t s[k] rfl (zE.alloc _) rfl (by simp) ?c5 ?c3 ?c6)
    case c5=>have:=uL.size;simp at this;simp;omega
    case c3=>omega
    case c6=>
     intro v' w1 kO jD
     have nS:Below (w.heap.size+1) (w.alloc Z70) w1:=(uL.alloc (by have:=uL.size;simp at this;omega) _).trans jD
     have HO:=qC kO
     clear kO jD zE
     go_wp2
     go_roundw
     case rel=>exact⟨k+1,t++[s[k]],by omega,by omega,by go_num,by simp;omega,qC (qA qAr),qA HO,nS⟩
     case measure=>simp[intOf];omega
  ·have qZA:¬(k:Int)<(s.size:Int):=by omega
   have eks:((k:Int) == (s.size:Int))=true:=by simp;omega
   have hd:=qC ((qA HR).trans (qE5 hp (qA b39) (qA gG) (by rw[qCT s k (by omega)];rfl)))
   obtain⟨hc,hf⟩:=p7 (w:=w) (wx:=wr) (by simpa[Z70]using uL)
   have hz:w.heap.size<wr.heap.size:=by have:=uL.size;simp at this;omega
   have qOV:Hid (Below (w.alloc (.cells #[.int .i64 0,.int .i64 0,.string ⟨#[]⟩] 150)).heap.size (w.alloc (.cells #[.int .i64 0,.int .i64 0,.string ⟨#[]⟩] 150)) wr):=qC (by simpa[Z70]using uL)
   clear uL
   clear zE
   go_wp2
   exact bodyPost_ret (v:=zV p none) (by simp[results,Tryz.results108,go_sem,zV,hc]) rfl ⟨congrArg Ending.returned (yS (qA hd)),(by repeat (first | exact Below.refl _ _ | refine qG ?_ | refine jE ?_ (by first | omega | (simp <;> omega)) | refine qF ?_ | refine qE ?_ (qA (by assumption))))⟩
def nP:List UInt8:=[43,45,42,47,37,60,61,33,38,124,40,41,123,125,44,59]
def sP(c:Int):Bool:=nP.any fun x=>(x.toNat:Int) == c
theorem qQn(c:Int)(h:∀ j,j<16→(((nP.getD j 0).toNat:Int) == c)=false):sP c=false:=by
 unfold sP
 rw[List.any_eq_false]
 intro x hx
 obtain⟨j,hj,rfl⟩:=List.mem_iff_getElem.1 hx
 have:=h j hj
 rw[List.getD_eq_getElem?_getD,List.getElem?_eq_getElem hj]at this
 simpa using this
theorem qNl(c:Int)(j:Nat)(hj:j<16)(h:(((nP.getD j 0).toNat:Int) == c)=true):sP c=true:=by
 unfold sP
 rw[List.any_eq_true]
 exact⟨nP.getD j 0,by rw[List.getD_eq_getElem?_getD,List.getElem?_eq_getElem (show j<nP.length from hj)];simp,h⟩
theorem qKR(k:Nat)(hk:k<16)(w:World):(Instr.index 9 (.string ⟨#[43,45,42,47,37,60,61,33,38,124,40,41,123,125,44,59]⟩) (.int .i64 (k:Int))).run Tryz.prog w=.ok (.int .u8 ((nP.getD k 0).toNat:Int)) w:=by
 obtain rfl | rfl | rfl | rfl | rfl | rfl | rfl | rfl | rfl | rfl | rfl | rfl | rfl | rfl | rfl | rfl:k=0∨k=1∨k=2∨k=3∨k=4∨k=5∨k=6∨k=7∨k=8∨k=9∨k=10∨k=11∨k=12∨k=13∨k=14∨k=15:=by omega
 all_goals kernel_rfl
theorem vN(c:Int)(w:World) :
  Calls Tryz.prog 137 #[.int .u8 c] w fun e w'=>e=.returned (.bool (sP c))∧w'=w:=by
 go_enter Tryz.func137,Tryz.ntmps137
 go_wp2
 go_loop [3] (fun i=>∃ k:Nat,k≤16∧i=.int .i64 k∧(∀ j,j<k→(((nP.getD j 0).toNat:Int) == c)=false)) (fun i=>16-(intOf i).toNat)
 case atStart=>exact⟨0,by omega,rfl,fun j hj=>by omega⟩
 case round=>
  obtain⟨k,hk,rfl,tZ⟩:=hrel
  have HN:=qC tZ
  clear tZ
  by_cases jF:k<16
  ·have hle:(k:Int)<16:=by omega
   have hix:=qKR k jF
   have hy:=qC (qNl c k jF)
   have hsu:Hid ((((nP.getD k 0).toNat:Int) == c)=false→∀ j,j<k+1→(((nP.getD j 0).toNat:Int) == c)=false):=fun h j hj=>by
    by_cases e:j=k
    ·subst e;exact h
    ·exact qA HN j (by omega)
   generalize ((nP.getD k 0).toNat:Int)=d at hix hy hsu
   cases he:(d == c)
   ·go_wp2
    go_round
    case rel=>exact⟨k+1,by omega,by go_num,qA hsu he⟩
    case measure=>simp[intOf];omega
   ·go_wp2
    go_ret
    exact⟨jL (qA hy he).symm,rfl⟩
  ·have hle:¬(k:Int)<16:=by omega
   go_wp2
   go_ret
   exact⟨jL (qQn c (fun j hj=>qA HN j (by omega))).symm,rfl⟩
theorem qMS{c:UInt8}(h:sP (c.toNat:Int)=true):c∈nP:=by
 unfold sP at h
 rw[List.any_eq_true]at h
 obtain⟨x,hx,e⟩:=h
 have:x=c:=xE (by simpa using e)
 rw[←this];exact hx
theorem qPE{c:UInt8}(h:sP (c.toNat:Int)=false):c∉nP:=fun hc=>by
 unfold sP at h
 rw[List.any_eq_false]at h
 have:=h c hc
 simp at this
theorem qI2{c:UInt8}(h:c∈nP)(h1:c≠38)(h2:c≠124):c∈gX:=by
 simp only[nP,List.mem_cons,List.not_mem_nil,or_false]at h
 simp only[gX,List.mem_cons,List.not_mem_nil,or_false]
 rcases h with h | h | h | h | h | h | h | h | h | h | h | h | h | h | h | h <;> subst h <;> simp at h1 h2 ⊢
theorem qP9{c:UInt8}(h:c∉nP):c∉gX∧c≠61∧c≠38∧c≠124:=by
 simp only[nP,List.mem_cons,List.not_mem_nil,or_false,not_or]at h
 simp only[gX,List.mem_cons,List.not_mem_nil,or_false,not_or]
 obtain⟨h0,h1,h2,h3,h4,h5,h6,h7,h8,h9,wS,sT,sN,oH,oJ,nR⟩:=h
 exact⟨⟨h0,h1,h2,h3,h4,h5,h6,h7,wS,sT,sN,oH,oJ,nR⟩,h6,h8,h9⟩
structure qPo(s:ByteArray)(p:Nat):Prop where
 lt:p<s.size
 l:mU (s[p].toNat:Int)=false
 d:xM (s[p].toNat:Int)=false
 q:s[p]≠39
theorem qFc{s:ByteArray}{p:Nat}(h:qPo s p)(hk:p+1<s.size)(hc:(s[p]'h.lt=61∧s[p+1]=61)∨(s[p]'h.lt=38∧s[p+1]=38)∨(s[p]'h.lt=124∧s[p+1]=124)):zS (s.data.toList.drop p)=some (5,(s.extract p (p+2)).data.toList,p+2-p):=by
 rw[fO,kD s p h.lt,kD s (p+1) hk,bZ _ _ h.l h.d h.q]
 have e:dG (s[p]'h.lt::s[p+1]::s.data.toList.drop (p+1+1))=some 2:=by
  simp only[dG];exact if_pos hc
 rw[e,show p+2-p=2 by omega]
theorem qLV{c:UInt8}{r:List UInt8}(hc:c∈gX)(hr:∀ d r',r=d::r'→¬((c=61∧d=61)∨(c=38∧d=38)∨(c=124∧d=124))):dG (c::r)=some 1:=by
 cases r with
 | nil=>simp only[dG];exact if_pos hc
 | cons d r=>simp only[dG];rw[if_neg (hr d r rfl),if_pos hc]
theorem qI0{c:UInt8}{r:List UInt8}(hc:c∉gX)(hr:∀ d r',r=d::r'→¬((c=61∧d=61)∨(c=38∧d=38)∨(c=124∧d=124))):dG (c::r)=none:=by
 cases r with
 | nil=>simp only[dG];exact if_neg hc
 | cons d r=>simp only[dG];rw[if_neg (hr d r rfl),if_neg hc]
def qB0(s:ByteArray)(p:Nat)(h:p<s.size):Prop:=∀ hk:p+1<s.size,¬((s[p]=61∧s[p+1]=61)∨(s[p]=38∧s[p+1]=38)∨(s[p]=124∧s[p+1]=124))
theorem qB0.list{s:ByteArray}{p:Nat}{h:p<s.size}(hn:qB0 s p h):∀ d r',s.data.toList.drop (p+1)=d::r'→¬((s[p]=61∧d=61)∨(s[p]=38∧d=38)∨(s[p]=124∧d=124)):=by
 intro d r' e
 by_cases hk:p+1<s.size
 ·rw[kD s (p+1) hk]at e
  injection e with e1 e2
  rw[←e1]
  exact hn hk
 ·rw[qCT s (p+1) (by omega)]at e;cases e
theorem qFp{s:ByteArray}{p:Nat}(h:qPo s p)(hn:qB0 s p h.lt)(hc:s[p]'h.lt∈gX):zS (s.data.toList.drop p)=some (5,(s.extract p (p+1)).data.toList,p+1-p):=by
 rw[fO,kD s p h.lt,bZ _ _ h.l h.d h.q,qLV hc hn.list,show p+1-p=1 by omega]
theorem lJ{s:ByteArray}{p:Nat}(h:qPo s p)(hn:qB0 s p h.lt)(hc:s[p]'h.lt∉gX):zS (s.data.toList.drop p)=none:=by
 rw[kD s p h.lt,bZ _ _ h.l h.d h.q,qI0 hc hn.list]
theorem oK{p:Nat}{s:ByteArray}{x:Option (Int×List UInt8×Nat)}(h:x=some (5,(s.extract p (p+2)).data.toList,p+2-p)) :
  Value.tuple #[.agg #[.int .i64 5,.int .i64 (p:Int),.string (s.extract p (p+2))],.int .i64 ((p:Int)+1+1),.bool true]=zV p x:=by
 rw[←gY (k:=p+2) (s:=s) (kd:=5) h (by omega)]
 rw[show((p:Int)+1+1)=((p+2:Nat):Int) by omega]
theorem l7{p:Nat}{s:ByteArray}{x:Option (Int×List UInt8×Nat)}(h:x=some (5,(s.extract p (p+1)).data.toList,p+1-p)) :
  Value.tuple #[.agg #[.int .i64 5,.int .i64 (p:Int),.string (s.extract p (p+1))],.int .i64 ((p:Int)+1),.bool true]=zV p x:=by
 rw[←gY (k:=p+1) (s:=s) (kd:=5) h (by omega)]
 rfl
theorem qDm(s:ByteArray)(p:Nat)(w:World)(hs:s.size≤65536)(hp:p<s.size)(hl:mU (s[p].toNat:Int)=false)(hd:xM (s[p].toNat:Int)=false)(hq:((s[p].toNat:Int) == 39)=false)(hg:sP (s[p].toNat:Int)=false)(hN:Hid (zS (s.data.toList.drop p)=none)) :
  Calls Tryz.prog 108 #[.string s,.int .i64 (p:Int)] w fun e w'=>e=.returned (zV p (zS (s.data.toList.drop p)))∧Below w.heap.size w w':=by
 have hp0:¬(p:Int)<0:=by omega
 have bK:(p:Int)<(s.size:Int):=by omega
 go_enter Tryz.func108,Tryz.ntmps108
 go_wp2_with (first | (go_at_call 127;refine(qW _ _).mono ?_;rintro e wr ⟨rfl,rfl⟩) | (go_at_call 128;refine(jB _ _).mono ?_;rintro e wr ⟨rfl,rfl⟩) | (go_at_call 137;refine(vN _ _).mono ?_;rintro e wr ⟨rfl,rfl⟩))
 exact bodyPost_ret (v:=zV p none) (by simp[results,Tryz.results108,go_sem,zV]) rfl ⟨congrArg Ending.returned (yS (qA hN)),(by repeat (first | exact Below.refl _ _ | refine qG ?_ | refine jE ?_ (by first | omega | (simp <;> omega)) | refine qF ?_ | refine qE ?_ (qA (by assumption))))⟩
theorem qCe(s:ByteArray)(p:Nat)(w:World)(hs:s.size≤65536)(hp:p<s.size)(hl:mU (s[p].toNat:Int)=false)(hd:xM (s[p].toNat:Int)=false)(hq:((s[p].toNat:Int) == 39)=false)(hg:sP (s[p].toNat:Int)=true)(h61:((s[p].toNat:Int) == 61)=true)(h38:((s[p].toNat:Int) == 38)=false)(fT:((s[p].toNat:Int) == 124)=false)(hk:p+1<s.size)(hf:((s[p+1].toNat:Int) == 61)=true)(hN:Hid (zS (s.data.toList.drop p)=some (5,(s.extract p (p+2)).data.toList,p+2-p))) :
  Calls Tryz.prog 108 #[.string s,.int .i64 (p:Int)] w fun e w'=>e=.returned (zV p (zS (s.data.toList.drop p)))∧Below w.heap.size w w':=by
 have hp0:¬(p:Int)<0:=by omega
 have bK:(p:Int)<(s.size:Int):=by omega
 have fH:¬(p:Int)+1<0:=by omega
 have kQ:(p:Int)+1<(s.size:Int):=by omega
 have yN:(p:Int)+2≤(s.size:Int):=by omega
 go_enter Tryz.func108,Tryz.ntmps108
 go_wp2_with (first | (go_at_call 127;refine(qW _ _).mono ?_;rintro e wr ⟨rfl,rfl⟩) | (go_at_call 128;refine(jB _ _).mono ?_;rintro e wr ⟨rfl,rfl⟩) | (go_at_call 137;refine(vN _ _).mono ?_;rintro e wr ⟨rfl,rfl⟩))
 exact bodyPost_ret (v:=Value.tuple #[.agg #[.int .i64 5,.int .i64 (p:Int),.string (s.extract p (p+2))],.int .i64 ((p:Int)+1+1),.bool true]) (by simp[results,Tryz.results108,go_sem]) rfl ⟨congrArg Ending.returned (oK (qA hN)),(by repeat (first | exact Below.refl _ _ | refine qG ?_ | refine jE ?_ (by first | omega | (simp <;> omega)) | refine qF ?_ | refine qE ?_ (qA (by assumption))))⟩
theorem qFt(s:ByteArray)(p:Nat)(w:World)(hs:s.size≤65536)(hp:p<s.size)(hl:mU (s[p].toNat:Int)=false)(hd:xM (s[p].toNat:Int)=false)(hq:((s[p].toNat:Int) == 39)=false)(hg:sP (s[p].toNat:Int)=true)(h61:((s[p].toNat:Int) == 61)=true)(h38:((s[p].toNat:Int) == 38)=false)(fT:((s[p].toNat:Int) == 124)=false)(hk:p+1<s.size)(hf:((s[p+1].toNat:Int) == 61)=false)(hN:Hid (zS (s.data.toList.drop p)=some (5,(s.extract p (p+1)).data.toList,p+1-p))) :
  Calls Tryz.prog 108 #[.string s,.int .i64 (p:Int)] w fun e w'=>e=.returned (zV p (zS (s.data.toList.drop p)))∧Below w.heap.size w w':=by
 have hp0:¬(p:Int)<0:=by omega
 have bK:(p:Int)<(s.size:Int):=by omega
 have fH:¬(p:Int)+1<0:=by omega
 have kQ:(p:Int)+1<(s.size:Int):=by omega
 go_enter Tryz.func108,Tryz.ntmps108
 go_wp2_with (first | (go_at_call 127;refine(qW _ _).mono ?_;rintro e wr ⟨rfl,rfl⟩) | (go_at_call 128;refine(jB _ _).mono ?_;rintro e wr ⟨rfl,rfl⟩) | (go_at_call 137;refine(vN _ _).mono ?_;rintro e wr ⟨rfl,rfl⟩))
 exact bodyPost_ret (v:=Value.tuple #[.agg #[.int .i64 5,.int .i64 (p:Int),.string (s.extract p (p+1))],.int .i64 ((p:Int)+1),.bool true]) (by simp[results,Tryz.results108,go_sem]) rfl ⟨congrArg Ending.returned (l7 (qA hN)),(by repeat (first | exact Below.refl _ _ | refine qG ?_ | refine jE ?_ (by first | omega | (simp <;> omega)) | refine qF ?_ | refine qE ?_ (qA (by assumption))))⟩
theorem qDE(s:ByteArray)(p:Nat)(w:World)(hs:s.size≤65536)(hp:p<s.size)(hl:mU (s[p].toNat:Int)=false)(hd:xM (s[p].toNat:Int)=false)(hq:((s[p].toNat:Int) == 39)=false)(hg:sP (s[p].toNat:Int)=true)(h61:((s[p].toNat:Int) == 61)=true)(h38:((s[p].toNat:Int) == 38)=false)(fT:((s[p].toNat:Int) == 124)=false)(hk:¬p+1<s.size)(hN:Hid (zS (s.data.toList.drop p)=some (5,(s.extract p (p+1)).data.toList,p+1-p))) :
  Calls Tryz.prog 108 #[.string s,.int .i64 (p:Int)] w fun e w'=>e=.returned (zV p (zS (s.data.toList.drop p)))∧Below w.heap.size w w':=by
 have hp0:¬(p:Int)<0:=by omega
 have bK:(p:Int)<(s.size:Int):=by omega
 have kQ:¬(p:Int)+1<(s.size:Int):=by omega
 go_enter Tryz.func108,Tryz.ntmps108
 go_wp2_with (first | (go_at_call 127;refine(qW _ _).mono ?_;rintro e wr ⟨rfl,rfl⟩) | (go_at_call 128;refine(jB _ _).mono ?_;rintro e wr ⟨rfl,rfl⟩) | (go_at_call 137;refine(vN _ _).mono ?_;rintro e wr ⟨rfl,rfl⟩))
 exact bodyPost_ret (v:=Value.tuple #[.agg #[.int .i64 5,.int .i64 (p:Int),.string (s.extract p (p+1))],.int .i64 ((p:Int)+1),.bool true]) (by simp[results,Tryz.results108,go_sem]) rfl ⟨congrArg Ending.returned (l7 (qA hN)),(by repeat (first | exact Below.refl _ _ | refine qG ?_ | refine jE ?_ (by first | omega | (simp <;> omega)) | refine qF ?_ | refine qE ?_ (qA (by assumption))))⟩
theorem qCb(s:ByteArray)(p:Nat)(w:World)(hs:s.size≤65536)(hp:p<s.size)(hl:mU (s[p].toNat:Int)=false)(hd:xM (s[p].toNat:Int)=false)(hq:((s[p].toNat:Int) == 39)=false)(hg:sP (s[p].toNat:Int)=true)(h61:((s[p].toNat:Int) == 61)=false)(h38:((s[p].toNat:Int) == 38)=true)(fT:((s[p].toNat:Int) == 124)=false)(hk:p+1<s.size)(hf:((s[p+1].toNat:Int) == 38)=true)(hN:Hid (zS (s.data.toList.drop p)=some (5,(s.extract p (p+2)).data.toList,p+2-p))) :
  Calls Tryz.prog 108 #[.string s,.int .i64 (p:Int)] w fun e w'=>e=.returned (zV p (zS (s.data.toList.drop p)))∧Below w.heap.size w w':=by
 have hp0:¬(p:Int)<0:=by omega
 have bK:(p:Int)<(s.size:Int):=by omega
 have fH:¬(p:Int)+1<0:=by omega
 have kQ:(p:Int)+1<(s.size:Int):=by omega
 have yN:(p:Int)+2≤(s.size:Int):=by omega
 go_enter Tryz.func108,Tryz.ntmps108
 go_wp2_with (first | (go_at_call 127;refine(qW _ _).mono ?_;rintro e wr ⟨rfl,rfl⟩) | (go_at_call 128;refine(jB _ _).mono ?_;rintro e wr ⟨rfl,rfl⟩) | (go_at_call 137;refine(vN _ _).mono ?_;rintro e wr ⟨rfl,rfl⟩))
 exact bodyPost_ret (v:=Value.tuple #[.agg #[.int .i64 5,.int .i64 (p:Int),.string (s.extract p (p+2))],.int .i64 ((p:Int)+1+1),.bool true]) (by simp[results,Tryz.results108,go_sem]) rfl ⟨congrArg Ending.returned (oK (qA hN)),(by repeat (first | exact Below.refl _ _ | refine qG ?_ | refine jE ?_ (by first | omega | (simp <;> omega)) | refine qF ?_ | refine qE ?_ (qA (by assumption))))⟩
theorem qEJ(s:ByteArray)(p:Nat)(w:World)(hs:s.size≤65536)(hp:p<s.size)(hl:mU (s[p].toNat:Int)=false)(hd:xM (s[p].toNat:Int)=false)(hq:((s[p].toNat:Int) == 39)=false)(hg:sP (s[p].toNat:Int)=true)(h61:((s[p].toNat:Int) == 61)=false)(h38:((s[p].toNat:Int) == 38)=true)(fT:((s[p].toNat:Int) == 124)=false)(hk:p+1<s.size)(hf:((s[p+1].toNat:Int) == 38)=false)(hN:Hid (zS (s.data.toList.drop p)=none)) :
  Calls Tryz.prog 108 #[.string s,.int .i64 (p:Int)] w fun e w'=>e=.returned (zV p (zS (s.data.toList.drop p)))∧Below w.heap.size w w':=by
 have hp0:¬(p:Int)<0:=by omega
 have bK:(p:Int)<(s.size:Int):=by omega
 have fH:¬(p:Int)+1<0:=by omega
 have kQ:(p:Int)+1<(s.size:Int):=by omega
 go_enter Tryz.func108,Tryz.ntmps108
 go_wp2_with (first | (go_at_call 127;refine(qW _ _).mono ?_;rintro e wr ⟨rfl,rfl⟩) | (go_at_call 128;refine(jB _ _).mono ?_;rintro e wr ⟨rfl,rfl⟩) | (go_at_call 137;refine(vN _ _).mono ?_;rintro e wr ⟨rfl,rfl⟩))
 exact bodyPost_ret (v:=zV p none) (by simp[results,Tryz.results108,go_sem,zV]) rfl ⟨congrArg Ending.returned (yS (qA hN)),(by repeat (first | exact Below.refl _ _ | refine qG ?_ | refine jE ?_ (by first | omega | (simp <;> omega)) | refine qF ?_ | refine qE ?_ (qA (by assumption))))⟩
theorem qDS(s:ByteArray)(p:Nat)(w:World)(hs:s.size≤65536)(hp:p<s.size)(hl:mU (s[p].toNat:Int)=false)(hd:xM (s[p].toNat:Int)=false)(hq:((s[p].toNat:Int) == 39)=false)(hg:sP (s[p].toNat:Int)=true)(h61:((s[p].toNat:Int) == 61)=false)(h38:((s[p].toNat:Int) == 38)=true)(fT:((s[p].toNat:Int) == 124)=false)(hk:¬p+1<s.size)(hN:Hid (zS (s.data.toList.drop p)=none)) :
  Calls Tryz.prog 108 #[.string s,.int .i64 (p:Int)] w fun e w'=>e=.returned (zV p (zS (s.data.toList.drop p)))∧Below w.heap.size w w':=by
 have hp0:¬(p:Int)<0:=by omega
 have bK:(p:Int)<(s.size:Int):=by omega
 have kQ:¬(p:Int)+1<(s.size:Int):=by omega
 go_enter Tryz.func108,Tryz.ntmps108
 go_wp2_with (first | (go_at_call 127;refine(qW _ _).mono ?_;rintro e wr ⟨rfl,rfl⟩) | (go_at_call 128;refine(jB _ _).mono ?_;rintro e wr ⟨rfl,rfl⟩) | (go_at_call 137;refine(vN _ _).mono ?_;rintro e wr ⟨rfl,rfl⟩))
 exact bodyPost_ret (v:=zV p none) (by simp[results,Tryz.results108,go_sem,zV]) rfl ⟨congrArg Ending.returned (yS (qA hN)),(by repeat (first | exact Below.refl _ _ | refine qG ?_ | refine jE ?_ (by first | omega | (simp <;> omega)) | refine qF ?_ | refine qE ?_ (qA (by assumption))))⟩
theorem qA6(s:ByteArray)(p:Nat)(w:World)(hs:s.size≤65536)(hp:p<s.size)(hl:mU (s[p].toNat:Int)=false)(hd:xM (s[p].toNat:Int)=false)(hq:((s[p].toNat:Int) == 39)=false)(hg:sP (s[p].toNat:Int)=true)(h61:((s[p].toNat:Int) == 61)=false)(h38:((s[p].toNat:Int) == 38)=false)(fT:((s[p].toNat:Int) == 124)=true)(hk:p+1<s.size)(hf:((s[p+1].toNat:Int) == 124)=true)(hN:Hid (zS (s.data.toList.drop p)=some (5,(s.extract p (p+2)).data.toList,p+2-p))) :
  Calls Tryz.prog 108 #[.string s,.int .i64 (p:Int)] w fun e w'=>e=.returned (zV p (zS (s.data.toList.drop p)))∧Below w.heap.size w w':=by
 have hp0:¬(p:Int)<0:=by omega
 have bK:(p:Int)<(s.size:Int):=by omega
 have fH:¬(p:Int)+1<0:=by omega
 have kQ:(p:Int)+1<(s.size:Int):=by omega
 have yN:(p:Int)+2≤(s.size:Int):=by omega
 go_enter Tryz.func108,Tryz.ntmps108
 go_wp2_with (first | (go_at_call 127;refine(qW _ _).mono ?_;rintro e wr ⟨rfl,rfl⟩) | (go_at_call 128;refine(jB _ _).mono ?_;rintro e wr ⟨rfl,rfl⟩) | (go_at_call 137;refine(vN _ _).mono ?_;rintro e wr ⟨rfl,rfl⟩))
 exact bodyPost_ret (v:=Value.tuple #[.agg #[.int .i64 5,.int .i64 (p:Int),.string (s.extract p (p+2))],.int .i64 ((p:Int)+1+1),.bool true]) (by simp[results,Tryz.results108,go_sem]) rfl ⟨congrArg Ending.returned (oK (qA hN)),(by repeat (first | exact Below.refl _ _ | refine qG ?_ | refine jE ?_ (by first | omega | (simp <;> omega)) | refine qF ?_ | refine qE ?_ (qA (by assumption))))⟩
theorem qDA(s:ByteArray)(p:Nat)(w:World)(hs:s.size≤65536)(hp:p<s.size)(hl:mU (s[p].toNat:Int)=false)(hd:xM (s[p].toNat:Int)=false)(hq:((s[p].toNat:Int) == 39)=false)(hg:sP (s[p].toNat:Int)=true)(h61:((s[p].toNat:Int) == 61)=false)(h38:((s[p].toNat:Int) == 38)=false)(fT:((s[p].toNat:Int) == 124)=true)(hk:p+1<s.size)(hf:((s[p+1].toNat:Int) == 124)=false)(hN:Hid (zS (s.data.toList.drop p)=none)) :
  Calls Tryz.prog 108 #[.string s,.int .i64 (p:Int)] w fun e w'=>e=.returned (zV p (zS (s.data.toList.drop p)))∧Below w.heap.size w w':=by
 have hp0:¬(p:Int)<0:=by omega
 have bK:(p:Int)<(s.size:Int):=by omega
 have fH:¬(p:Int)+1<0:=by omega
 have kQ:(p:Int)+1<(s.size:Int):=by omega
 go_enter Tryz.func108,Tryz.ntmps108
 go_wp2_with (first | (go_at_call 127;refine(qW _ _).mono ?_;rintro e wr ⟨rfl,rfl⟩) | (go_at_call 128;refine(jB _ _).mono ?_;rintro e wr ⟨rfl,rfl⟩) | (go_at_call 137;refine(vN _ _).mono ?_;rintro e wr ⟨rfl,rfl⟩))
 exact bodyPost_ret (v:=zV p none) (by simp[results,Tryz.results108,go_sem,zV]) rfl ⟨congrArg Ending.returned (yS (qA hN)),(by repeat (first | exact Below.refl _ _ | refine qG ?_ | refine jE ?_ (by first | omega | (simp <;> omega)) | refine qF ?_ | refine qE ?_ (qA (by assumption))))⟩
theorem qCD(s:ByteArray)(p:Nat)(w:World)(hs:s.size≤65536)(hp:p<s.size)(hl:mU (s[p].toNat:Int)=false)(hd:xM (s[p].toNat:Int)=false)(hq:((s[p].toNat:Int) == 39)=false)(hg:sP (s[p].toNat:Int)=true)(h61:((s[p].toNat:Int) == 61)=false)(h38:((s[p].toNat:Int) == 38)=false)(fT:((s[p].toNat:Int) == 124)=true)(hk:¬p+1<s.size)(hN:Hid (zS (s.data.toList.drop p)=none)) :
  Calls Tryz.prog 108 #[.string s,.int .i64 (p:Int)] w fun e w'=>e=.returned (zV p (zS (s.data.toList.drop p)))∧Below w.heap.size w w':=by
 have hp0:¬(p:Int)<0:=by omega
 have bK:(p:Int)<(s.size:Int):=by omega
 have kQ:¬(p:Int)+1<(s.size:Int):=by omega
 go_enter Tryz.func108,Tryz.ntmps108
 go_wp2_with (first | (go_at_call 127;refine(qW _ _).mono ?_;rintro e wr ⟨rfl,rfl⟩) | (go_at_call 128;refine(jB _ _).mono ?_;rintro e wr ⟨rfl,rfl⟩) | (go_at_call 137;refine(vN _ _).mono ?_;rintro e wr ⟨rfl,rfl⟩))
 exact bodyPost_ret (v:=zV p none) (by simp[results,Tryz.results108,go_sem,zV]) rfl ⟨congrArg Ending.returned (yS (qA hN)),(by repeat (first | exact Below.refl _ _ | refine qG ?_ | refine jE ?_ (by first | omega | (simp <;> omega)) | refine qF ?_ | refine qE ?_ (qA (by assumption))))⟩
theorem qIq(s:ByteArray)(p:Nat)(w:World)(hs:s.size≤65536)(hp:p<s.size)(hl:mU (s[p].toNat:Int)=false)(hd:xM (s[p].toNat:Int)=false)(hq:((s[p].toNat:Int) == 39)=false)(hg:sP (s[p].toNat:Int)=true)(h61:((s[p].toNat:Int) == 61)=false)(h38:((s[p].toNat:Int) == 38)=false)(fT:((s[p].toNat:Int) == 124)=false)(hk:p+1<s.size)(hN:Hid (zS (s.data.toList.drop p)=some (5,(s.extract p (p+1)).data.toList,p+1-p))) :
  Calls Tryz.prog 108 #[.string s,.int .i64 (p:Int)] w fun e w'=>e=.returned (zV p (zS (s.data.toList.drop p)))∧Below w.heap.size w w':=by
 have hp0:¬(p:Int)<0:=by omega
 have bK:(p:Int)<(s.size:Int):=by omega
 have fH:¬(p:Int)+1<0:=by omega
 have kQ:(p:Int)+1<(s.size:Int):=by omega
 go_enter Tryz.func108,Tryz.ntmps108
 go_wp2_with (first | (go_at_call 127;refine(qW _ _).mono ?_;rintro e wr ⟨rfl,rfl⟩) | (go_at_call 128;refine(jB _ _).mono ?_;rintro e wr ⟨rfl,rfl⟩) | (go_at_call 137;refine(vN _ _).mono ?_;rintro e wr ⟨rfl,rfl⟩))
 exact bodyPost_ret (v:=Value.tuple #[.agg #[.int .i64 5,.int .i64 (p:Int),.string (s.extract p (p+1))],.int .i64 ((p:Int)+1),.bool true]) (by simp[results,Tryz.results108,go_sem]) rfl ⟨congrArg Ending.returned (l7 (qA hN)),(by repeat (first | exact Below.refl _ _ | refine qG ?_ | refine jE ?_ (by first | omega | (simp <;> omega)) | refine qF ?_ | refine qE ?_ (qA (by assumption))))⟩
theorem qGb(s:ByteArray)(p:Nat)(w:World)(hs:s.size≤65536)(hp:p<s.size)(hl:mU (s[p].toNat:Int)=false)(hd:xM (s[p].toNat:Int)=false)(hq:((s[p].toNat:Int) == 39)=false)(hg:sP (s[p].toNat:Int)=true)(h61:((s[p].toNat:Int) == 61)=false)(h38:((s[p].toNat:Int) == 38)=false)(fT:((s[p].toNat:Int) == 124)=false)(hk:¬p+1<s.size)(hN:Hid (zS (s.data.toList.drop p)=some (5,(s.extract p (p+1)).data.toList,p+1-p))) :
  Calls Tryz.prog 108 #[.string s,.int .i64 (p:Int)] w fun e w'=>e=.returned (zV p (zS (s.data.toList.drop p)))∧Below w.heap.size w w':=by
 have hp0:¬(p:Int)<0:=by omega
 have bK:(p:Int)<(s.size:Int):=by omega
 have kQ:¬(p:Int)+1<(s.size:Int):=by omega
 go_enter Tryz.func108,Tryz.ntmps108
 go_wp2_with (first | (go_at_call 127;refine(qW _ _).mono ?_;rintro e wr ⟨rfl,rfl⟩) | (go_at_call 128;refine(jB _ _).mono ?_;rintro e wr ⟨rfl,rfl⟩) | (go_at_call 137;refine(vN _ _).mono ?_;rintro e wr ⟨rfl,rfl⟩))
 exact bodyPost_ret (v:=Value.tuple #[.agg #[.int .i64 5,.int .i64 (p:Int),.string (s.extract p (p+1))],.int .i64 ((p:Int)+1),.bool true]) (by simp[results,Tryz.results108,go_sem]) rfl ⟨congrArg Ending.returned (l7 (qA hN)),(by repeat (first | exact Below.refl _ _ | refine qG ?_ | refine jE ?_ (by first | omega | (simp <;> omega)) | refine qF ?_ | refine qE ?_ (qA (by assumption))))⟩
theorem qHf(s:ByteArray)(p:Nat)(w:World)(hs:s.size≤65536)(hp:p<s.size) :
  Calls Tryz.prog 108 #[.string s,.int .i64 (p:Int)] w fun e w'=>e=.returned (zV p (zS (s.data.toList.drop p)))∧Below w.heap.size w w':=by
 cases hl:mU (s[p].toNat:Int)
 case true=>exact qCP s p w hs hp hl
 cases hd:xM (s[p].toNat:Int)
 case true=>exact qDo s p w hs hp hl hd
 by_cases h39:(s[p].toNat:Int)=39
 ·exact qDq s p w hs hp (by rw[h39];rfl)
 have hq:((s[p].toNat:Int) == 39)=false:=beq_eq_false_iff_ne.2 h39
 have hB:qPo s p:=⟨hp,hl,hd,wQ (d:=39) h39⟩
 cases hg:sP (s[p].toNat:Int)
 ·have h:=qP9 (qPE hg)
  exact qDm s p w hs hp hl hd hq hg (lJ hB (fun _ h'=>by rcases h' with h' | h' | h' <;> simp_all) h.1)
 have hm:=qMS hg
 by_cases h61:(s[p].toNat:Int)=61
 ·have b:=xE (d:=61) h61
  by_cases hk:p+1<s.size
  ·by_cases hf:(s[p+1].toNat:Int)=61
   ·exact qCe s p w hs hp hl hd hq hg (by rw[h61];rfl) (by rw[h61];rfl) (by rw[h61];rfl) hk (by rw[hf];rfl) (qFc hB hk (.inl ⟨b,xE (d:=61) hf⟩))
   ·have hf':=wQ (d:=61) hf
    exact qFt s p w hs hp hl hd hq hg (by rw[h61];rfl) (by rw[h61];rfl) (by rw[h61];rfl) hk (beq_eq_false_iff_ne.2 hf) (qFp hB (fun _ h'=>by rw[b]at h';rcases h' with h' | h' | h' <;> first | exact hf' h'.2 | exact absurd h'.1 (by decide)) (by rw[b];decide))
  ·exact qDE s p w hs hp hl hd hq hg (by rw[h61];rfl) (by rw[h61];rfl) (by rw[h61];rfl) hk (qFp hB (fun h'=>absurd h' hk) (by rw[b];decide))
 have e61:((s[p].toNat:Int) == 61)=false:=beq_eq_false_iff_ne.2 h61
 by_cases h38:(s[p].toNat:Int)=38
 ·have b:=xE (d:=38) h38
  by_cases hk:p+1<s.size
  ·by_cases hf:(s[p+1].toNat:Int)=38
   ·exact qCb s p w hs hp hl hd hq hg (by rw[h38];rfl) (by rw[h38];rfl) (by rw[h38];rfl) hk (by rw[hf];rfl) (qFc hB hk (.inr (.inl ⟨b,xE (d:=38) hf⟩)))
   ·have hf':=wQ (d:=38) hf
    exact qEJ s p w hs hp hl hd hq hg (by rw[h38];rfl) (by rw[h38];rfl) (by rw[h38];rfl) hk (beq_eq_false_iff_ne.2 hf) (lJ hB (fun _ h'=>by rw[b]at h';rcases h' with h' | h' | h' <;> first | exact hf' h'.2 | exact absurd h'.1 (by decide)) (by rw[b];decide))
  ·exact qDS s p w hs hp hl hd hq hg (by rw[h38];rfl) (by rw[h38];rfl) (by rw[h38];rfl) hk (lJ hB (fun h'=>absurd h' hk) (by rw[b];decide))
 have e38:((s[p].toNat:Int) == 38)=false:=beq_eq_false_iff_ne.2 h38
 by_cases fT:(s[p].toNat:Int)=124
 ·have b:=xE (d:=124) fT
  by_cases hk:p+1<s.size
  ·by_cases hf:(s[p+1].toNat:Int)=124
   ·exact qA6 s p w hs hp hl hd hq hg (by rw[fT];rfl) (by rw[fT];rfl) (by rw[fT];rfl) hk (by rw[hf];rfl) (qFc hB hk (.inr (.inr ⟨b,xE (d:=124) hf⟩)))
   ·have hf':=wQ (d:=124) hf
    exact qDA s p w hs hp hl hd hq hg (by rw[fT];rfl) (by rw[fT];rfl) (by rw[fT];rfl) hk (beq_eq_false_iff_ne.2 hf) (lJ hB (fun _ h'=>by rw[b]at h';rcases h' with h' | h' | h' <;> first | exact hf' h'.2 | exact absurd h'.1 (by decide)) (by rw[b];decide))
  ·exact qCD s p w hs hp hl hd hq hg (by rw[fT];rfl) (by rw[fT];rfl) (by rw[fT];rfl) hk (lJ hB (fun h'=>absurd h' hk) (by rw[b];decide))
 have qVR:((s[p].toNat:Int) == 124)=false:=beq_eq_false_iff_ne.2 fT
 have tZ:qB0 s p hp:=fun _ h'=>by
  rcases h' with h' | h' | h'
  ·exact wQ (d:=61) h61 h'.1
  ·exact wQ (d:=38) h38 h'.1
  ·exact wQ (d:=124) fT h'.1
 have h1:=qFp hB tZ (qI2 hm (wQ (d:=38) h38) (wQ (d:=124) fT))
 by_cases hk:p+1<s.size
 ·exact qIq s p w hs hp hl hd hq hg e61 e38 qVR hk h1
 ·exact qGb s p w hs hp hl hd hq hg e61 e38 qVR hk h1
end
end Go.Proofs.YtbgkfaclfnkloaaGreatDoor
