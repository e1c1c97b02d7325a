import Derived.Test.YtbgkfaclfnkloaaGreatDoorG14
import Derived.Test.YtbgkfaclfnkloaaGreatDoorG25
import Derived.Laws.MakeOwn
import Derived.Lib.SmallJoins
namespace Go.Proofs.YtbgkfaclfnkloaaGreatDoor
set_option linter.all false
set_option maxHeartbeats 4000000
set_option maxRecDepth 100000
section
open Go.RowKit
theorem qLv(c:UInt8):pP c=(((c.toNat:Int) == 32)||((c.toNat:Int) == 9)||((c.toNat:Int) == 10)):=by
 have h:∀ d:UInt8,(c == d)=((c.toNat:Int) == (d.toNat:Int)):=fun d=>by
  rw[Bool.eq_iff_iff]
  simp only[beq_iff_eq]
  exact⟨fun h=>by rw[h],fun h=>xE h⟩
 unfold pP
 rw[h 32,h 9,h 10]
 rfl
theorem qNT{l:List UInt8}{p:Nat}(h:p<l.length)(hb:pP l[p]=true)(acc:List V3)(x:List V3×Nat×Int)(hx:xS l (p+1) acc x):xS l p acc x:=
 .blank p acc l[p] (l.drop (p+1)) x (List.drop_eq_getElem_cons h) hb hx
end
section
open Go.RowKit Go.Joins
def qBI(w:World)(p:Option Addr)(vs:List V3):Prop:=∀ i (h:i<vs.length),∃ b off,p=some ⟨b,off,none⟩∧w.cell? ⟨b,off+i*3,none⟩=some (.int .i64 vs[i].k)∧w.cell? ⟨b,off+i*3+1,none⟩=some (.int .i64 vs[i].n)∧w.cell? ⟨b,off+i*3+2,none⟩=some (.string vs[i].t)
theorem qBI.later{w w':World}{p:Option Addr}{vs:List V3}(h:qBI w p vs)(hb:Below w.heap.size w w'):qBI w' p vs:=fun i hi=>by
 obtain⟨b,off,rfl,h0,h1,h2⟩:=h i hi
 exact⟨b,off,rfl,cell_later hb h0,cell_later hb h1,cell_later hb h2⟩
theorem qPp:(Tryz.prog.info? 150).map (fun i=>(i.zero,i.size,i.bytes))=some (some (.agg #[.int .i64 0,.int .i64 0,.string ⟨#[]⟩]),3,32):=by kernel_rfl
def tC(v:V3):List Value:=[.int .i64 v.k,.int .i64 v.n,.string v.t]
def gS(vs:List V3):List Value:=vs.flatMap tC
theorem qDx(vs:List V3)(v:V3):gS (vs++[v])=gS vs++tC v:=by simp[gS]
theorem bQ:∀ (vs:List V3) (i:Nat) (h:i<vs.length),(gS vs)[i*3]? = some (.int .i64 vs[i].k)∧(gS vs)[i*3+1]? = some (.int .i64 vs[i].n)∧(gS vs)[i*3+2]? = some (.string vs[i].t):=by
 intro vs
 induction vs with
 | nil=>intro i h;simp at h
 | cons v vs ih=>
  intro i h
  have e:gS (v::vs)=tC v++gS vs:=by simp[gS]
  cases i with
  | zero=>rw[e];exact⟨rfl,rfl,rfl⟩
  | succ i=>
   have h':i<vs.length:=by simpa using h
   have:=ih i h'
   have hl:(tC v).length=3:=rfl
   refine⟨?_,?_,?_⟩
   ·rw[e,List.getElem?_append_right (by omega),show(i+1)*3-(tC v).length=i*3 by omega];exact this.1
   ·rw[e,List.getElem?_append_right (by omega),show(i+1)*3+1-(tC v).length=i*3+1 by omega];exact this.2.1
   ·rw[e,List.getElem?_append_right (by omega),show(i+1)*3+2-(tC v).length=i*3+2 by omega];exact this.2.2
def vO(w:World)(base:Nat)(v:Value)(vs:List V3):Prop:=w.ownsRow base 150 3 v vs.length (gS vs)
theorem vO.alloc{w:World}{base:Nat}{v:Value}{vs:List V3}(h:vO w base v vs)(o:Obj):vO (w.alloc o) base v vs:=World.ownsRow.alloc h o
theorem vO.lit0(w:World)(base:Nat)(h:base≤w.heap.size):vO (w.alloc (.cells #[] 150)) base (.slice (some ⟨w.heap.size,0,none⟩) 0 0) []:=by
 have:=World.ownsRow_lit (base:=base) (e:=150) (size:=3) w #[] 0 h (by decide) (by simp)
 simpa[vO,gS]using this
theorem vO.slice{w:World}{base:Nat}{v:Value}{vs:List V3}(h:vO w base v vs):∃ a cap,v=.slice a vs.length cap:=vB h
theorem vO.own_lt{w:World}{base:Nat}{v:Value}{vs:List V3}(h:vO w base v vs):∀ j,v.ownBlock=some j→j<w.heap.size:=fun j hj=>(World.ownsRow.lt h j hj).2
theorem vO.below{w w':World}{base B:Nat}{v:Value}{vs:List V3}(h:vO w base v vs)(hb:Below B w w')(hB:∀ j,v.ownBlock=some j→j<B):vO w' base v vs:=by
 refine⟨h.1,?_⟩
 rcases h.2 with h | ⟨g,cap,cur,e,hg,hgg,r⟩
 ·exact .inl h
 ·refine .inr ⟨g,cap,cur,e,hg,?_,r⟩
  rw[hb.block g (hB g (by rw[e];rfl))];exact hgg
theorem vO.later{w w':World}{base:Nat}{v:Value}{vs:List V3}(h:vO w base v vs)(hb:Below w.heap.size w w'):vO w' base v vs:=h.below hb h.own_lt
theorem vO.toks{w:World}{base:Nat}{v:Value}{vs:List V3}(h:vO w base v vs):∃ a cap,v=.slice a vs.length cap∧qBI w a vs:=by
 rcases h.2 with ⟨rfl,h0⟩ | ⟨g,cap,cur,rfl,hg⟩
 ·exact⟨none,0,by rw[h0],fun i hi=>by omega⟩
 ·refine⟨some ⟨g,0,none⟩,cap,rfl,fun i hi=>⟨g,0,rfl,?_,?_,?_⟩⟩
  ·have:=World.ownsRow.cellAt h (i*3) (by omega)
   rw[(bQ vs i hi).1]at this
   simpa using this
  ·have:=World.ownsRow.cellAt h (i*3+1) (by omega)
   rw[(bQ vs i hi).2.1]at this
   simpa using this
  ·have:=World.ownsRow.cellAt h (i*3+2) (by omega)
   rw[(bQ vs i hi).2.2]at this
   simpa using this
theorem qPU(w:World){ops:Array Oper}{rest:List Oper}{o:Oper}{a:Act}{Q:Exit→Act→World→Prop}(gM:o.guard=none)(s x:Operand)
  (ho:o.op=.call { callee:=.builtin .append,args:=#[s,x],argTypes:=#[119,119] }) (base g:Nat) (v:Value) (vs:List V3) (c:V3) (hs:a.eval s=v)
  (zE:vO w base v vs) (hx:a.eval x=.slice (some ⟨g,0,none⟩) 1 1) (cM:w.cell? ⟨g,0,none⟩=some (.int .i64 c.k)) (xZ:w.cell? ⟨g,1,none⟩=some (.int .i64 c.n)) (wZ:w.cell? ⟨g,2,none⟩=some (.string c.t)) (uA:base≤w.heap.size) (hl:vs.length≤1000000)
  (h:∀ v' w',vO w' base v' (vs++[c])→Below base w w'→wpList Tryz.prog ops Q rest (a.put o.dst v') w'):wpList Tryz.prog ops Q (o::rest) a w:=by
 obtain⟨i0,hi,wW,wJ,gB⟩:=info_parts qPp
 refine wpList_append_own _ gM s x 119 ho base 150 i0 (.agg #[.int .i64 0,.int .i64 0,.string ⟨#[]⟩]) 3 32 Tryz.underlying119 hi wW wJ gB rfl (by decide) _ _ _ hs zE ⟨g,0,none⟩ 1 1 (tC c) hx rfl ?_ ?_ (by unfold maxLen;omega) (by omega) uA ?_
 ·intro j u' hj
  match j,hj with
  | 0,hj=>simp[tC]at hj;subst hj;simpa[Addr.add]using cM
  | 1,hj=>simp[tC]at hj;subst hj;simpa[Addr.add]using xZ
  | 2,hj=>simp[tC]at hj;subst hj;simpa[Addr.add]using wZ
  | j+3,hj=>simp[tC]at hj
 ·intro u' r5
  simp[tC]at r5
  rcases r5 with rfl | rfl | rfl <;> rfl
 ·intro v' w' kO wY _
  rw[←qDx,show vs.length+1=(vs++[c]).length by simp]at kO
  exact h v' w' kO ((Below.refl _ _).grown wY uA (fun j hj=>(World.ownsRow.lt zE j hj).1))
def iP(l:List UInt8)(p:Nat)(acc:List V3):Prop:=(∀ x,xS l p acc x→xS l 0 [] x)∧acc.length≤300
theorem qIW{l:List UInt8}{p:Nat}{acc:List V3}(h:iP l p acc)(hp:p<l.length)(hb:pP l[p]=false)(hn:acc.length=300):xS l 0 [] ([],p,6):=
 h.1 _ (.many p acc l[p] _ (List.drop_eq_getElem_cons hp) hb hn)
theorem qIB{l:List UInt8}{p:Nat}{acc:List V3}(h:iP l p acc)(hp:p<l.length)(hb:pP l[p]=false)(hn:acc.length≠300)(ht:zS (l.drop p)=none):xS l 0 [] ([],p,3):=by
 rw[List.drop_eq_getElem_cons hp]at ht
 exact h.1 _ (.form p acc l[p] _ (List.drop_eq_getElem_cons hp) hb hn ht)
theorem qLP{l:List UInt8}{p:Nat}{acc:List V3}{k:Int}{t:List UInt8}{n:Nat}(h:iP l p acc)(hp:p<l.length)(hb:pP l[p]=false)(hn:acc.length≠300)(ht:zS (l.drop p)=some (k,t,n)):iP l (p+n) (acc++[pS k p t]):=by
 rw[List.drop_eq_getElem_cons hp]at ht
 exact⟨fun x hx=>h.1 _ (.tok p acc l[p] _ k t n x (List.drop_eq_getElem_cons hp) hb hn ht hx),by have:=h.2;simp;omega⟩
theorem qJs{l:List UInt8}{p:Nat}{acc:List V3}(h:iP l p acc)(hp:l.length≤p):xS l 0 [] (acc,0,0):=h.1 _ (.done p acc hp)
theorem qIX(l:List UInt8):iP l 0 []:=⟨fun _ h=>h,by simp⟩
theorem qCB{u:World}{g:Nat}{a b c:Value}{t:TypeId}(hg:g=u.heap.size):(u.alloc (.cells #[a,b,c] t)).cell? ⟨g,0,none⟩=some a∧(u.alloc (.cells #[a,b,c] t)).cell? ⟨g,1,none⟩=some b∧(u.alloc (.cells #[a,b,c] t)).cell? ⟨g,2,none⟩=some c:=by
 subst hg
 exact⟨by simp,by simp,by simp⟩
theorem qBZ(s:ByteArray)(p:Nat)(w:World)(hs:s.size≤65536)(hp:p<s.size)(x:Option (Int×List UInt8×Nat))(h:Hid (zS (s.data.toList.drop p)=x)) :
  Calls Tryz.prog 108 #[.string s,.int .i64 (p:Int)] w fun e w'=>e=.returned (zV p x)∧Below w.heap.size w w':=by
 have:=qHf s p w hs hp
 rw[qA h]at this
 exact this
theorem qMe(p:Nat)(k:Int)(t:List UInt8)(n:Nat):zV p (some (k,t,n))=.tuple #[.agg #[.int .i64 k,.int .i64 (p:Int),.string ⟨t.toArray⟩],.int .i64 ((p+n:Nat):Int),.bool true]:=rfl
theorem qMO(p:Nat):zV p none=.tuple #[.agg #[.int .i64 0,.int .i64 0,.string ⟨#[]⟩],.int .i64 (p:Int),.bool false]:=rfl
theorem qGG{l:List UInt8}{p:Nat}{acc:List V3}(h:iP l p acc)(hp:p<l.length)(hb:pP l[p]=true):iP l (p+1) acc:=⟨fun x hx=>h.1 _ (qNT hp hb acc x hx),h.2⟩
theorem qNh{s:ByteArray}{p:Nat}{k:Int}{t:List UInt8}{n:Nat}(jF:p<s.size)(h:zS (s.data.toList.drop p)=some (k,t,n)):0<n∧p+n≤s.size:=by
 obtain⟨c,r,hcr⟩:∃ c r,s.data.toList.drop p=c::r:=⟨_,_,kD s p jF⟩
 have hl:(c::r).length=s.size-p:=by rw[←hcr,List.length_drop,jI]
 rw[hcr]at h
 have:=(qGh c r k t n h).2
 omega
def qD8(s:ByteArray)(w:World)(e:Ending)(w':World):Prop:=
 ∃ (v:Value) (vs:List V3) (p:Nat) (c:Int),e=.returned (.tuple #[v,.int .i64 (p:Int),.int .i64 c])∧xS s.data.toList 0 [] (vs,p,c)∧vO w' w.heap.size v vs∧Below w.heap.size w w'
theorem qD8.mk{s:ByteArray}{w w':World}(v:Value)(vs:List V3)(p:Nat)(c:Int)(h1:xS s.data.toList 0 [] (vs,p,c))(h2:vO w' w.heap.size v vs)(h3:Below w.heap.size w w'):qD8 s w (.returned (.tuple #[v,.int .i64 (p:Int),.int .i64 c])) w':=⟨v,vs,p,c,rfl,h1,h2,h3⟩
theorem qF0(s:ByteArray)(w:World)(hs:s.size≤65536):Calls Tryz.prog 81 #[.string s] w (qD8 s w):=by
 have iW:=qC (vO.lit0 w w.heap.size (Nat.le_refl _))
 go_enter Tryz.func81,Tryz.ntmps81
 go_wp2
 go_loopw[5,6] (fun m i wx=>∃ (p:Nat) (acc:List V3),p≤s.size∧i=.int .i64 p∧Hid (iP s.data.toList p acc)∧vO wx w.heap.size m acc∧Below w.heap.size w wx) (fun _ i _=>s.size-(intOf i).toNat)
 case atStart=>exact⟨0,[],by omega,rfl,qC (qIX _),qA iW,qD _ _⟩
 case round=>
  clear iW
  obtain⟨p,acc,hp,rfl,gG,zE,uL⟩:=hrel
  have hwr:w.heap.size≤wr.heap.size:=uL.size
  have hal:acc.length≤300:=(qA gG).2
  obtain⟨ma,qZi,rfl⟩:=zE.slice
  have qKA:=qC (vO.lit0 wr w.heap.size hwr)
  by_cases jF:p<s.size
  ·have qJL:(p:Int)<(s.size:Int):=by omega
   have hpl:Hid (p<s.data.toList.length):=qC (by rw[jI];exact jF)
   have hbe:=qC (qLv s[p])
   have qJz:=qC (fun (hb:pP s[p]=true)=>qGG (qA gG) (qA hpl) hb)
   by_cases hB:pP s[p]=true
   ·have hd:=qC (qA qJz hB)
    have hbb:(((s[p].toNat:Int) == 32)||((s[p].toNat:Int) == 9)||((s[p].toNat:Int) == 10))=true:=by rw[←qA hbe];exact hB
    clear qJz hB
    cases b1:((s[p].toNat:Int) == 32)
    ·cases b2:((s[p].toNat:Int) == 9)
     ·have b3:((s[p].toNat:Int) == 10)=true:=by rw[b1,b2]at hbb;exact hbb
      have c1:¬(s[p].toNat:Int)=32:=by simpa using b1
      have c2:¬(s[p].toNat:Int)=9:=by simpa using b2
      have hbc:(((s[p].toNat:Int) == 32)=true∨((s[p].toNat:Int) == 9)=true)∨((s[p].toNat:Int) == 10)=true:=.inr b3
      have hbd:¬((((s[p].toNat:Int) == 32)=false∧((s[p].toNat:Int) == 9)=false)∧((s[p].toNat:Int) == 10)=false):=by rintro⟨_,h⟩;rw[b3]at h;cases h
      have c3:(s[p].toNat:Int)=10:=by simpa using b3
      have HO:=qC zE
      clear zE
      go_wp2
      go_roundw
      case rel=>exact⟨p+1,acc,by omega,by go_num,qC (qA hd),qA HO,uL⟩
      case measure=>simp[intOf];omega
     ·clear hbb
      have c1:¬(s[p].toNat:Int)=32:=by simpa using b1
      have c2:(s[p].toNat:Int)=9:=by simpa using b2
      have HO:=qC zE
      clear zE
      go_wp2
      go_roundw
      case rel=>exact⟨p+1,acc,by omega,by go_num,qC (qA hd),qA HO,uL⟩
      case measure=>simp[intOf];omega
    ·clear hbb
     have c1:(s[p].toNat:Int)=32:=by simpa using b1
     have HO:=qC zE
     clear zE
     go_wp2
     go_roundw
     case rel=>exact⟨p+1,acc,by omega,by go_num,qC (qA hd),qA HO,uL⟩
     case measure=>simp[intOf];omega
   have hB':pP s[p]=false:=by simpa using hB
   have hb:Hid (pP s[p]=false):=qC hB'
   have hbb:(((s[p].toNat:Int) == 32)||((s[p].toNat:Int) == 9)||((s[p].toNat:Int) == 10))=false:=by rw[←qA hbe];exact hB'
   have b1:((s[p].toNat:Int) == 32)=false:=by cases h:((s[p].toNat:Int) == 32) <;> simp[h]at hbb ⊢
   have b2:((s[p].toNat:Int) == 9)=false:=by cases h:((s[p].toNat:Int) == 9) <;> simp[h]at hbb ⊢
   have b3:((s[p].toNat:Int) == 10)=false:=by cases h:((s[p].toNat:Int) == 10) <;> simp[h]at hbb ⊢
   have c1:¬(s[p].toNat:Int)=32:=by simpa using b1
   have c2:¬(s[p].toNat:Int)=9:=by simpa using b2
   have c3:¬(s[p].toNat:Int)=10:=by simpa using b3
   have hbd:(((s[p].toNat:Int) == 32)=false∧((s[p].toNat:Int) == 9)=false)∧((s[p].toNat:Int) == 10)=false:=⟨⟨b1,b2⟩,b3⟩
   have hbg:¬(((s[p].toNat:Int)=32∨(s[p].toNat:Int)=9)∨(s[p].toNat:Int)=10):=by rintro((h | h) | h) <;> contradiction
   have hbh:¬((((s[p].toNat:Int) == 32)=true∨((s[p].toNat:Int) == 9)=true)∨((s[p].toNat:Int) == 10)=true):=by rw[b1,b2,b3];simp
   clear qJz hB hB'
   by_cases qMk:acc.length=300
   ·have e3:((acc.length:Int) == 300)=true:=by rw[qMk];rfl
    have hd:=qC (qIW (qA gG) (qA hpl) (qA hb) qMk)
    clear qMk
    go_wp2
    go_ret3
    exact qD8.mk _ [] p 6 (qA hd) (qA qKA) (qG uL)
   have e3:((acc.length:Int) == 300)=false:=beq_eq_false_iff_ne.2 (by omega)
   have qOE:=qC (fun h=>qIB (qA gG) (qA hpl) (qA hb) qMk h)
   have qHM:=qC (fun k t n h=>qLP (k:=k) (t:=t) (n:=n) (qA gG) (qA hpl) (qA hb) qMk h)
   clear qMk
   cases hx:zS (s.data.toList.drop p) with
   | none=>
    have hd:=qC (qA qOE hx)
    have HX:=qC hx
    clear hx qOE qHM qKA
    go_wp2_with fail
    refine(qBZ s p _ hs jF none HX).mono ?_
    rintro e w1 ⟨rfl,jD⟩
    rw[qMO]
    have nS:=qC (qE uL jD)
    clear jD
    go_wp2
    go_ret3
    exact qD8.mk _ [] p 3 (qA hd) (by have h9:=vO.lit0 (w1.alloc (.cells #[.int .i64 0,.int .i64 0,.string ⟨#[]⟩] 150)) w.heap.size (by have:=(qA nS).size;simp;omega);simpa using h9) (qG (qG (qA nS)))
   | some y=>
    obtain⟨k,t,n⟩:=y
    have hd:=qC (qA qHM k t n hx)
    obtain⟨uJ,fJ⟩:=qNh jF hx
    have HX:=qC hx
    clear hx qOE qHM qKA
    go_wp2_with fail
    refine(qBZ s p _ hs jF (some (k,t,n)) HX).mono ?_
    rintro e w1 ⟨rfl,jD⟩
    rw[qMe]
    have nS:=qC (qE uL jD)
    have qKz:=qC (zE.later jD)
    clear jD zE
    go_wp2_with (at_builtin;refine qPU _ rfl _ _ rfl w.heap.size (w1.heap.size+1) _ acc (pS k p t) rfl (vO.alloc (vO.alloc (qA qKz) _) _) rfl ?c0 ?c1 ?c2 ?c5 ?c3 ?c6)
    case c0=>exact(qCB (by simp)).1
    case c1=>exact(qCB (by simp)).2.1
    case c2=>exact(qCB (by simp)).2.2
    case c5=>have:=(qA nS).size;first | omega | (simp;omega)
    case c3=>omega
    case c6=>
     intro v3 w3 lQ uN
     have qHG:Below w.heap.size w w3:=(((qA nS).alloc (qA nS).size _).alloc (by have:=(qA nS).size;simp;omega) _).trans uN
     have HO3:=qC lQ
     have hN3:=qC qHG
     clear lQ uN qHG
     go_wp2
     go_roundw
     case rel=>exact⟨p+n,acc++[pS k p t],fJ,rfl,qC (qA hd),qA HO3,qA hN3⟩
     case measure=>simp[intOf];omega
  ·have qJL:¬(p:Int)<(s.size:Int):=by omega
   have hd:=qC (qJs (qA gG) (by rw[jI];omega))
   have HO:=qC zE
   clear zE qKA
   go_wp2
   go_ret3
   exact qD8.mk _ acc 0 0 (qA hd) (qA HO) uL
end
end Go.Proofs.YtbgkfaclfnkloaaGreatDoor
