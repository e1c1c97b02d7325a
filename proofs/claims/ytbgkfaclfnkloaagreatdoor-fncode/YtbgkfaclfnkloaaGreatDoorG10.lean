import Derived.Test.YtbgkfaclfnkloaaGreatDoorG09
import Derived.Laws.OwnMore
import Derived.Lib.AppendStr
namespace Go.Proofs.YtbgkfaclfnkloaaGreatDoor
set_option linter.all false
set_option maxHeartbeats 4000000
set_option maxRecDepth 100000
section
open Go.RowKit
def Buf(w:World)(base:Nat)(v:Value)(t:List UInt8):Prop:=w.ownsRow base 5 1 v t.length (Lib.byteCells t)
theorem Buf.nil(w:World)(base:Nat):Buf w base (.slice none 0 0) []:=World.ownsRow_nil _ _ _ _
theorem Buf.alloc{w:World}{base:Nat}{v:Value}{t:List UInt8}(h:Buf w base v t)(o:Obj):Buf (w.alloc o) base v t:=World.ownsRow.alloc h o
theorem Buf.slice{w:World}{base:Nat}{v:Value}{t:List UInt8}(h:Buf w base v t):∃ a cap,v=.slice a t.length cap:=vB h
theorem Buf.conv{w:World}{base:Nat}{v:Value}{t:List UInt8}(h:Buf w base v t):(convert 22 9 v).run Tryz.prog w=.ok (.string ⟨t.toArray⟩) w:=qNu t h
theorem Buf.lit(w:World)(base:Nat)(c:UInt8)(h:base≤w.heap.size):Buf (w.alloc (.cells #[.int .u8 (c.toNat:Int)] 5)) base (.slice (some ⟨w.heap.size,0,none⟩) 1 1) [c]:=by
 have:=World.ownsRow_lit (base:=base) (e:=5) (size:=1) w #[.int .u8 (c.toNat:Int)] 1 h (by decide) (by simp)
 simpa[Buf,Lib.byteCells]using this
theorem Buf.lit0(w:World)(base:Nat)(h:base≤w.heap.size):Buf (w.alloc (.cells #[] 5)) base (.slice (some ⟨w.heap.size,0,none⟩) 0 0) []:=by
 have:=World.ownsRow_lit (base:=base) (e:=5) (size:=1) w #[] 0 h (by decide) (by simp)
 simpa[Buf,Lib.byteCells]using this
theorem gJ(w:World){ops:Array Oper}{rest:List Oper}{o:Oper}{a:Act}{Q:Exit→Act→World→Prop}(gM:o.guard=none)(s x:Operand)
  (ho:o.op=.call { callee:=.builtin .append,args:=#[s,x],argTypes:=#[22,22] }) (base g:Nat) (v:Value) (t:List UInt8) (c:UInt8) (hs:a.eval s=v)
  (zE:Buf w base v t) (hx:a.eval x=.slice (some ⟨g,0,none⟩) 1 1) (hc:w.cell? ⟨g,0,none⟩=some (.int .u8 (c.toNat:Int))) (uA:base≤w.heap.size) (hl:t.length≤1000000000)
  (h:∀ v' w',Buf w' base v' (t++[c])→Below base w w'→wpList Tryz.prog ops Q rest (a.put o.dst v') w'):wpList Tryz.prog ops Q (o::rest) a w:=by
 obtain⟨i0,hi,wW,wJ,gB⟩:=info_parts qF5
 refine wpList_append_own _ gM s x 22 ho base 5 i0 (.int .u8 0) 1 1 Tryz.underlying22 hi wW wJ gB rfl (by decide) _ _ _ hs zE ⟨g,0,none⟩ 1 1 [Value.int .u8 (c.toNat:Int)] hx rfl ?_ ?_ (by unfold maxLen;omega) (by omega) uA ?_
 ·intro j u' hj
  match j,hj with
  | 0,hj=>simp at hj;subst hj;simpa[Addr.add]using hc
 ·intro u' r5;simp at r5;subst r5;rfl
 ·intro v' w' kO wY _
  rw[qJe,show t.length+1=(t++[c]).length by simp]at kO
  exact h v' w' kO ((Below.refl _ _).grown wY uA (fun j hj=>(World.ownsRow.lt zE j hj).1))
theorem qMN{c:UInt8}(h:c=39∨c=92):qJw c=[92,c]:=if_pos h
theorem qPC{c:UInt8}(h:¬(c=39∨c=92)):qJw c=[c]:=if_neg h
def qAB(pre:List UInt8)(s:ByteArray)(k:Nat)(acc:List UInt8):Prop:=acc=pre++39::(s.data.toList.take k).flatMap qJw∧acc.length≤pre.length+1+2*k
theorem qGE(pre:List UInt8)(s:ByteArray):qAB pre s 0 (pre++[39]):=⟨by simp,by simp⟩
theorem qKn{pre:List UInt8}{s:ByteArray}{k:Nat}{acc:List UInt8}(h:qAB pre s k acc)(hk:k<s.size)(hc:s[k]=39∨s[k]=92):qAB pre s (k+1) (acc++[92,s[k]]):=
 ⟨by rw[mY s k hk,h.1];simp[qMN hc],by have:=h.2;simp;omega⟩
theorem qKr{pre:List UInt8}{s:ByteArray}{k:Nat}{acc:List UInt8}(h:qAB pre s k acc)(hk:k<s.size)(hc:¬(s[k]=39∨s[k]=92)):qAB pre s (k+1) (acc++[s[k]]):=
 ⟨by rw[mY s k hk,h.1];simp[qPC hc],by have:=h.2;simp;omega⟩
theorem qKc{pre:List UInt8}{s:ByteArray}{k:Nat}{acc:List UInt8}(h:qAB pre s k acc)(hk:s.size≤k):acc++[39]=pre++bV s.data.toList:=by
 rw[h.1,List.take_of_length_le (by rw[jI];exact hk)];simp[bV]
theorem oV(base:Nat)(pre:List UInt8)(v:Value)(s:ByteArray)(w:World)(uA:base≤w.heap.size)(qRf:Buf w base v pre)(hs:s.size≤65536)(lS:pre.length≤1000000) :
  Calls Tryz.prog 79 #[v,.string s] w fun e w'=>∃ v',e=.returned v'∧Buf w' base v' (pre++bV s.data.toList)∧Below base w w':=by
 go_enter Tryz.func79,Tryz.ntmps79
 go_wp2_with (at_builtin;refine gJ _ rfl _ _ rfl base w.heap.size _ pre 39 rfl (qRf.alloc _) rfl (by simp) ?c5 ?c3 ?c6)
 case c5=>simp;omega
 case c3=>omega
 case c6=>
  intro v1 w1 qKz jD
  have nS:Below base w w1:=((Below.refl base w).alloc uA _).trans jD
  have HO1:=qC qKz
  clear qKz jD qRf
  go_wp2
  go_loopw[0,11] (fun m i wx=>∃ (k:Nat) (acc:List UInt8),k≤s.size∧i=.int .i64 k∧Hid (qAB pre s k acc)∧Buf wx base m acc∧Below base w wx) (fun _ i _=>s.size-(intOf i).toNat)
  case atStart=>exact⟨0,pre++[39],by omega,rfl,qC (qGE pre s),qA HO1,nS⟩
  case round=>
   clear HO1 nS
   obtain⟨k,acc,hk,rfl,gG,zE,uL⟩:=hrel
   have hal:acc.length≤1000000+1+2*k:=by have:=(qA gG).2;omega
   have hwr:base≤wr.heap.size:=by have:=uL.size;omega
   by_cases jF:k<s.size
   ·cases hB:hbB (s[k].toNat:Int)
    ·have qAr:=qC (qKr (qA gG) jF (qMa hB))
     go_wp2_with (first | (go_at_call 106;refine(cT _ _).mono ?_;rintro e wr ⟨rfl,rfl⟩) | (at_builtin;refine gJ _ rfl _ _ rfl base wr.heap.size _ acc s[k] rfl (zE.alloc _) rfl (by simp) ?c5 ?c3 ?c6))
     case c5=>simp;omega
     case c3=>omega
     case c6=>
      intro v2 w2 wD qY
      have sR:Below base w w2:=(uL.alloc hwr _).trans qY
      have HO2:=qC wD
      clear wD qY zE
      go_wp2
      go_roundw
      case rel=>exact⟨k+1,acc++[s[k]],by omega,by go_num,qC (qA qAr),qA HO2,sR⟩
      case measure=>simp[intOf];omega
    ·have qAr:=qC (qKn (qA gG) jF (qNE hB))
     go_wp2_with (first | (go_at_call 106;refine(cT _ _).mono ?_;rintro e wr ⟨rfl,rfl⟩) | (at_builtin;refine gJ _ rfl _ _ rfl base wr.heap.size _ acc 92 rfl (zE.alloc _) rfl (by simp) ?c5 ?c3 ?c6))
     case c5=>simp;omega
     case c3=>omega
     case c6=>
      intro v2 w2 wD qY
      have sR:Below base w w2:=(uL.alloc hwr _).trans qY
      have hw2:base≤w2.heap.size:=by have:=sR.size;omega
      have HO2:=qC wD
      clear wD qY zE
      go_wp2_with (at_builtin;refine gJ _ rfl _ _ rfl base w2.heap.size _ (acc++[92]) s[k] rfl ((qA HO2).alloc _) rfl (by simp) ?c5 ?c3 ?c6)
      case c5=>simp;omega
      case c3=>simp;omega
      case c6=>
       intro v3 w3 lQ uN
       have qHG:Below base w w3:=(sR.alloc hw2 _).trans uN
       have HO3:=qC lQ
       clear lQ uN
       go_wp2
       go_roundw
       case rel=>exact⟨k+1,acc++[92,s[k]],by omega,by go_num,qC (qA qAr),qA HO3,qHG⟩
       case measure=>simp[intOf];omega
   ·have hd:=qC (qKc (qA gG) (by omega))
    go_wp2_with (at_builtin;refine gJ _ rfl _ _ rfl base wr.heap.size _ acc 39 rfl (zE.alloc _) rfl (by simp) ?c5 ?c3 ?c6)
    case c5=>simp;omega
    case c3=>omega
    case c6=>
     intro v2 w2 wD qY
     have sR:Below base w w2:=(uL.alloc hwr _).trans qY
     rw[qA hd]at wD
     have HO2:=qC wD
     clear wD qY zE
     go_wp2
     go_ret
     exact⟨_,rfl,qA HO2,sR⟩
theorem qE2(s:ByteArray)(w:World)(hs:s.size≤65536) :
  Calls Tryz.prog 33 #[.string s] w fun e w'=>e=.returned (.string ⟨(bV s.data.toList).toArray⟩)∧Below w.heap.size w w':=by
 have iW:=qC (Buf.lit w w.heap.size 39 (Nat.le_refl _))
 go_enter Tryz.func33,Tryz.ntmps33
 go_wp2
 go_loopw[3,4] (fun m i wx=>∃ (k:Nat) (acc:List UInt8),k≤s.size∧i=.int .i64 k∧Hid (qAB [] s k acc)∧Buf wx w.heap.size m acc∧Below w.heap.size w wx) (fun _ i _=>s.size-(intOf i).toNat)
 case atStart=>exact⟨0,[39],by omega,rfl,qC (qGE [] s),qA iW,qD _ _⟩
 case round=>
  clear iW
  obtain⟨k,acc,hk,rfl,gG,zE,uL⟩:=hrel
  have hal:acc.length≤1+2*k:=by have:=(qA gG).2;simp at this;omega
  have hwr:w.heap.size≤wr.heap.size:=uL.size
  by_cases jF:k<s.size
  ·by_cases q:(s[k].toNat:Int)=39∨(s[k].toNat:Int)=92
   ·have qAr:=qC (qKn (qA gG) jF (q.imp (fun h=>xE (d:=39) h) (fun h=>xE (d:=92) h)))
    obtain⟨b1,jD⟩:∃ b,((s[k].toNat:Int) == 39)=b:=⟨_,rfl⟩
    have qY:b1=false→((s[k].toNat:Int) == 92)=true:=fun h=>by
     subst h
     rcases q with q | q
     ·rw[q]at jD;exact absurd jD (by decide)
     ·rw[q];rfl
    have uF:=qC qY
    clear q qY
    cases b1
    ·have qY:=qA uF rfl
     go_wp2_with (at_builtin;refine gJ _ rfl _ _ rfl w.heap.size wr.heap.size _ acc 92 rfl (zE.alloc _) rfl (by simp) ?c5 ?c3 ?c6)
     case c5=>first | omega | (simp;omega)
     case c3=>omega
     case c6=>
      intro v2 w2 wD qY
      have sR:Below w.heap.size w w2:=(uL.alloc hwr _).trans qY
      have hw2:w.heap.size≤w2.heap.size:=sR.size
      have HO2:=qC wD
      clear wD qY zE
      go_wp2_with (at_builtin;refine gJ _ rfl _ _ rfl w.heap.size w2.heap.size _ (acc++[92]) s[k] rfl ((qA HO2).alloc _) rfl (by simp) ?c5 ?c3 ?c6)
      case c5=>first | omega | (simp;omega)
      case c3=>simp;omega
      case c6=>
       intro v3 w3 lQ uN
       have qHG:Below w.heap.size w w3:=(sR.alloc hw2 _).trans uN
       have HO3:=qC lQ
       clear lQ uN
       go_wp2
       go_roundw
       case rel=>exact⟨k+1,acc++[92,s[k]],by omega,by go_num,qC (qA qAr),qA HO3,qHG⟩
       case measure=>simp[intOf];omega
    ·go_wp2_with (at_builtin;refine gJ _ rfl _ _ rfl w.heap.size wr.heap.size _ acc 92 rfl (zE.alloc _) rfl (by simp) ?c5 ?c3 ?c6)
     case c5=>first | omega | (simp;omega)
     case c3=>omega
     case c6=>
      intro v2 w2 wD qY
      have sR:Below w.heap.size w w2:=(uL.alloc hwr _).trans qY
      have hw2:w.heap.size≤w2.heap.size:=sR.size
      have HO2:=qC wD
      clear wD qY zE
      go_wp2_with (at_builtin;refine gJ _ rfl _ _ rfl w.heap.size w2.heap.size _ (acc++[92]) s[k] rfl ((qA HO2).alloc _) rfl (by simp) ?c5 ?c3 ?c6)
      case c5=>first | omega | (simp;omega)
      case c3=>simp;omega
      case c6=>
       intro v3 w3 lQ uN
       have qHG:Below w.heap.size w w3:=(sR.alloc hw2 _).trans uN
       have HO3:=qC lQ
       clear lQ uN
       go_wp2
       go_roundw
       case rel=>exact⟨k+1,acc++[92,s[k]],by omega,by go_num,qC (qA qAr),qA HO3,qHG⟩
       case measure=>simp[intOf];omega
   ·have qAr:=qC (qKr (qA gG) jF (fun h=>q (h.imp (fun e=>by rw[e];rfl) (fun e=>by rw[e];rfl))))
    have b1:((s[k].toNat:Int) == 39)=false:=beq_eq_false_iff_ne.2 (fun h=>q (.inl h))
    have b2:((s[k].toNat:Int) == 92)=false:=beq_eq_false_iff_ne.2 (fun h=>q (.inr h))
    clear q
    go_wp2_with (at_builtin;refine gJ _ rfl _ _ rfl w.heap.size wr.heap.size _ acc s[k] rfl (zE.alloc _) rfl (by simp) ?c5 ?c3 ?c6)
    case c5=>first | omega | (simp;omega)
    case c3=>omega
    case c6=>
     intro v2 w2 wD qY
     have sR:Below w.heap.size w w2:=(uL.alloc hwr _).trans qY
     have HO2:=qC wD
     clear wD qY zE
     go_wp2
     go_roundw
     case rel=>exact⟨k+1,acc++[s[k]],by omega,by go_num,qC (qA qAr),qA HO2,sR⟩
     case measure=>simp[intOf];omega
  ·have hd:=qC (qKc (qA gG) (by omega))
   go_wp2_with (at_builtin;refine gJ _ rfl _ _ rfl w.heap.size wr.heap.size _ acc 39 rfl (zE.alloc _) rfl (by simp) ?c5 ?c3 ?c6)
   case c5=>first | omega | (simp;omega)
   case c3=>omega
   case c6=>
    intro v2 w2 wD qY
    have sR:Below w.heap.size w w2:=(uL.alloc hwr _).trans qY
    rw[qA hd]at wD
    have hcv:=wD.conv
    have HO2:=qC wD
    clear wD qY zE
    go_wp2
    go_ret
    exact⟨rfl,sR⟩
end
end Go.Proofs.YtbgkfaclfnkloaaGreatDoor
