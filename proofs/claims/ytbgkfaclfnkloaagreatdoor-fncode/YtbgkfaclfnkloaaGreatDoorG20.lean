import Derived.Test.YtbgkfaclfnkloaaGreatDoorG18
import Derived.Test.YtbgkfaclfnkloaaGreatDoorG19
import Derived.Laws.AppendOwnNone
import Derived.Deep.AppendLies
namespace Go.Proofs.YtbgkfaclfnkloaaGreatDoor
set_option linter.all false
set_option maxHeartbeats 4000000
set_option maxRecDepth 100000
section
open Go.RowKit Go.Joins
theorem qCy(w:World){ops:Array Oper}{rest:List Oper}{o:Oper}{a:Act}{Q:Exit→Act→World→Prop}(gM:o.guard=none)(s x:Operand)
  (ho:o.op=.call { callee:=.builtin .append,args:=#[s,x],argTypes:=#[70,70] }) (base g off m c:Nat) (v:Value) (zs ys:List ByteArray) (hs:a.eval s=v)
  (zE:jY w base v zs) (hx:a.eval x=.slice (some ⟨g,off,none⟩) m c) (hm:m=ys.length) (cM:∀ i (h:i<ys.length),w.cell? ⟨g,off+i,none⟩=some (.string ys[i])) (uA:base≤w.heap.size) (hl:zs.length+ys.length≤1000000000)
  (h:∀ v' w',jY w' base v' (zs++ys)→Below base w w'→wpList Tryz.prog ops Q rest (a.put o.dst v') w'):wpList Tryz.prog ops Q (o::rest) a w:=by
 subst hm
 obtain⟨i0,hi,wW,wJ,gB⟩:=info_parts qEW
 refine wpList_append_own _ gM s x 70 ho base 9 i0 (.string ⟨#[]⟩) 1 16 Tryz.underlying70 hi wW wJ gB rfl (by decide) _ _ _ hs zE ⟨g,off,none⟩ ys.length c (ys.map Value.string) hx (by simp) ?_ ?_ (by unfold maxLen;omega) (by omega) uA ?_
 ·intro j u' hj
  rw[List.getElem?_map]at hj
  obtain⟨z,hz,rfl⟩:=Option.map_eq_some_iff.1 hj
  obtain⟨iS,rfl⟩:=List.getElem?_eq_some_iff.1 hz
  have:=cM j iS
  rw[Addr.add_lit]
  exact this
 ·intro u' r5
  obtain⟨z,_,rfl⟩:=List.mem_map.1 r5
  rfl
 ·intro v' w' kO wY _
  rw[←List.map_append,show zs.length+ys.length=(zs++ys).length by simp]at kO
  exact h v' w' kO ((Below.refl _ _).grown wY uA (fun j hj=>(World.ownsRow.lt zE j hj).1))
theorem qK7(w:World){ops:Array Oper}{rest:List Oper}{o:Oper}{a:Act}{Q:Exit→Act→World→Prop}(gM:o.guard=none)(s x:Operand)
  (ho:o.op=.call { callee:=.builtin .append,args:=#[s,x],argTypes:=#[70,70] }) (base qOS:Nat) (v v2:Value) (zs ys:List ByteArray) (hs:a.eval s=v)
  (zE:jY w base v zs) (hx:a.eval x=v2) (qFy:jY w qOS v2 ys) (uA:base≤w.heap.size) (hl:zs.length+ys.length≤1000000000)
  (h:∀ v' w',jY w' base v' (zs++ys)→Below base w w'→wpList Tryz.prog ops Q rest (a.put o.dst v') w'):wpList Tryz.prog ops Q (o::rest) a w:=by
 have hs2:=qFy
 rcases qFy.2 with ⟨h1,h0⟩ | ⟨g,cap,cur,e,hg,hgg,r⟩
 ·subst h1
  have hy:ys=[]:=List.length_eq_zero_iff.1 h0
  subst hy
  obtain⟨i0,hi,wW,wJ,gB⟩:=info_parts qEW
  refine wpList_append_own_none gM s x 70 ho base 9 i0 1 Tryz.underlying70 hi v _ _ hs zE hx ?_
  exact h v w (by rw[List.append_nil];exact zE) (Below.refl _ _)
 ·subst e
  refine qCy w gM s x ho base g 0 ys.length cap v zs ys hs zE hx rfl (fun i hi=>?_) uA hl h
  rw[Nat.zero_add]
  exact hs2.get i hi
theorem qNW{base b o:Nat}{w w':World}{v:Value}(hb:Below base w w')(hl:b<base)(h:w.cell? ⟨b,o,none⟩=some v):w'.cell? ⟨b,o,none⟩=some v:=by
 rw[hb.cell (p:=⟨b,o,none⟩) hl];exact h
def mS(w:World)(X:Nat)(t0 t1 v:Value)(st mo fc fn:Int):Prop:=w.heap[X]? = some (.cells #[t0,t1,v,.int .i64 st,.int .i64 mo,.int .i64 fc,.int .i64 fn] 158 (0,0))
theorem mS.same{w w':World}{X:Nat}{t0 t1 v:Value}{st mo fc fn:Int}(h:mS w X t0 t1 v st mo fc fn)(hb:w'.heap[X]? = w.heap[X]?):mS w' X t0 t1 v st mo fc fn:=by unfold mS;rw[hb];exact h
theorem mS.lt{w:World}{X:Nat}{t0 t1 v:Value}{st mo fc fn:Int}(h:mS w X t0 t1 v st mo fc fn):X<w.heap.size:=(Array.getElem?_eq_some_iff.1 h).1
theorem mS.later{w w':World}{X:Nat}{t0 t1 v:Value}{st mo fc fn:Int}(h:mS w X t0 t1 v st mo fc fn)(hb:Below w.heap.size w w'):mS w' X t0 t1 v st mo fc fn:=h.same (hb.block X h.lt)
theorem mS.cells{w:World}{X:Nat}{t0 t1 v:Value}{st mo fc fn:Int}(h:mS w X t0 t1 v st mo fc fn):w.cell? ⟨X,0,none⟩=some t0∧w.cell? ⟨X,1,none⟩=some t1∧w.cell? ⟨X,2,none⟩=some v∧w.cell? ⟨X,3,none⟩=some (.int .i64 st)∧w.cell? ⟨X,4,none⟩=some (.int .i64 mo)∧w.cell? ⟨X,5,none⟩=some (.int .i64 fc)∧w.cell? ⟨X,6,none⟩=some (.int .i64 fn):=
 ⟨(cell_of_block h 0).trans rfl,(cell_of_block h 1).trans rfl,(cell_of_block h 2).trans rfl,(cell_of_block h 3).trans rfl,(cell_of_block h 4).trans rfl,(cell_of_block h 5).trans rfl,(cell_of_block h 6).trans rfl⟩
theorem mS.free{w:World}{X:Nat}{t0 t1 v:Value}{st mo fc fn:Int}(h:mS w X t0 t1 v st mo fc fn)(i:Nat):w.frozen? ⟨X,i,none⟩=false:=unfrozen_of_block h i
theorem mS.set2{w:World}{X:Nat}{t0 t1 v:Value}{st mo fc fn:Int}(h:mS w X t0 t1 v st mo fc fn)(u:Value):mS (w.setCell ⟨X,2,none⟩ u) X t0 t1 u st mo fc fn:=(block_setCell h u).trans rfl
theorem mS.set4{w:World}{X:Nat}{t0 t1 v:Value}{st mo fc fn:Int}(h:mS w X t0 t1 v st mo fc fn)(u:Int):mS (w.setCell ⟨X,4,none⟩ (.int .i64 u)) X t0 t1 v st u fc fn:=(block_setCell h _).trans rfl
theorem mS.set5{w:World}{X:Nat}{t0 t1 v:Value}{st mo fc fn:Int}(h:mS w X t0 t1 v st mo fc fn)(u:Int):mS (w.setCell ⟨X,5,none⟩ (.int .i64 u)) X t0 t1 v st mo u fn:=(block_setCell h _).trans rfl
theorem mS.set6{w:World}{X:Nat}{t0 t1 v:Value}{st mo fc fn:Int}(h:mS w X t0 t1 v st mo fc fn)(u:Int):mS (w.setCell ⟨X,6,none⟩ (.int .i64 u)) X t0 t1 v st mo fc u:=(block_setCell h _).trans rfl
theorem qQ6{α:Type}(h:Array α)(a b c:α):(((h.push a).push b).push c)[h.size+1+1]? = some c:=by
 have e:((h.push a).push b).size=h.size+1+1:=by simp
 rw[←e,Array.getElem?_push_size]
theorem lC(s:ByteArray)(l:List UInt8)(h:s.toList=l):xF s=qCH l:=by unfold xF;rw[←h,ByteArray.toList_eq]
theorem tD(s:ByteArray)(w:World) :
  Calls Tryz.prog 76 #[.string s] w fun e w'=>e=.returned (.int .i64 (xF s))∧w'=w:=by
 by_cases h0:s.toList=[108,101,110]
 ·rw[lC s _ h0]
  go_enter Tryz.func76,Tryz.ntmps76
  go_wp2
  go_ret
  exact⟨rfl,rfl⟩
 by_cases h1:s.toList=[115,116,114]
 ·rw[lC s _ h1]
  go_enter Tryz.func76,Tryz.ntmps76
  go_wp2
  go_ret
  exact⟨rfl,rfl⟩
 by_cases h2:s.toList=[97,98,115]
 ·rw[lC s _ h2]
  go_enter Tryz.func76,Tryz.ntmps76
  go_wp2
  go_ret
  exact⟨rfl,rfl⟩
 by_cases h3:s.toList=[97,116]
 ·rw[lC s _ h3]
  go_enter Tryz.func76,Tryz.ntmps76
  go_wp2
  go_ret
  exact⟨rfl,rfl⟩
 by_cases h4:s.toList=[109,97,120]
 ·rw[lC s _ h4]
  go_enter Tryz.func76,Tryz.ntmps76
  go_wp2
  go_ret
  exact⟨rfl,rfl⟩
 by_cases h5:s.toList=[109,105,110]
 ·rw[lC s _ h5]
  go_enter Tryz.func76,Tryz.ntmps76
  go_wp2
  go_ret
  exact⟨rfl,rfl⟩
 by_cases h6:s.toList=[99,117,116]
 ·rw[lC s _ h6]
  go_enter Tryz.func76,Tryz.ntmps76
  go_wp2
  go_ret
  exact⟨rfl,rfl⟩
 have hc:xF s=-1:=by
  rw[lC s _ rfl]
  unfold qCH
  rw[if_neg (by simp[h0,h1,h2]),if_neg (by simp[h3,h4,h5]),if_neg h6]
 rw[hc]
 have e0:(s.toList == [108,101,110])=false:=beq_eq_false_iff_ne.2 h0
 have e1:(s.toList == [115,116,114])=false:=beq_eq_false_iff_ne.2 h1
 have e2:(s.toList == [97,98,115])=false:=beq_eq_false_iff_ne.2 h2
 have e3:(s.toList == [97,116])=false:=beq_eq_false_iff_ne.2 h3
 have e4:(s.toList == [109,97,120])=false:=beq_eq_false_iff_ne.2 h4
 have e5:(s.toList == [109,105,110])=false:=beq_eq_false_iff_ne.2 h5
 have e6:(s.toList == [99,117,116])=false:=beq_eq_false_iff_ne.2 h6
 go_enter Tryz.func76,Tryz.ntmps76
 go_wp2
 go_ret
 exact⟨rfl,rfl⟩
def tR(c k:Int)(f:Int×Int):Int×Int:=if f.1=0 then (c,k) else f
theorem qBL(c k:Int)(x:SC):yD c k x = { x with fc:=(tR c k (x.fc,x.fn)).1,fn:=(tR c k (x.fc,x.fn)).2 }:=by
 unfold yD tR
 by_cases h:x.fc=0
 ·rw[if_pos h,if_pos h]
 ·rw[if_neg h,if_neg h]
theorem gQ(X:Nat)(t0 t1 v:Value)(st mo fc fn c n:Int)(w:World)(h:mS w X t0 t1 v st mo fc fn) :
  Calls Tryz.prog 161 #[.pointer (some ⟨X,0,none⟩),.int .i64 c,.int .i64 n] w fun e w'=>e=.returned (.tuple #[])∧mS w' X t0 t1 v st mo (tR c n (fc,fn)).1 (tR c n (fc,fn)).2∧zJ X w w'∧w'.heap.size=w.heap.size:=by
 obtain⟨_,_,_,_,_,c5,c6⟩:=h.cells
 have f:=h.free
 have H:=qC h
 clear h
 unfold tR
 by_cases h0:fc=0
 ·subst h0
  rw[if_pos rfl]
  have hD:Hid (mS ((w.setCell ⟨X,5,none⟩ (.int .i64 c)).setCell ⟨X,6,none⟩ (.int .i64 n)) X t0 t1 v st mo c n):=qC (((qA H).set5 c).set6 n)
  go_enter Tryz.func161,Tryz.ntmps161
  go_wp2
  go_end0
  exact⟨rfl,qA hD,((zJ.refl _ _).set_it).set_it,by simp⟩
 ·rw[if_neg h0]
  have e0:(fc == 0)=false:=beq_eq_false_iff_ne.2 h0
  go_enter Tryz.func161,Tryz.ntmps161
  go_wp2
  go_end0
  exact⟨rfl,qA H,zJ.refl _ _,rfl⟩
structure NmK(w:World)(X b c:Nat)(nm:List ByteArray):Prop where
 cap:nm.length≤c
 ne:b≠X
 lt:b<w.heap.size
 at':∀ i (h:i<nm.length),w.cell? ⟨b,i,none⟩=some (.string nm[i])
theorem NmK.keep{w w':World}{X b c:Nat}{nm:List ByteArray}(h:NmK w X b c nm)(hk:zJ X w w'):NmK w' X b c nm:=⟨h.cap,h.ne,Nat.lt_of_lt_of_le h.lt hk.size,fun i hi=>by rw[hk.cell h.lt h.ne];exact h.at' i hi⟩
theorem NmK.take{w:World}{X b c:Nat}{nm:List ByteArray}(h:NmK w X b c nm)(n:Nat)(hn:n≤nm.length):NmK w X b c (nm.take n):=⟨by rw[List.length_take];have:=h.cap;omega,h.ne,h.lt,fun i hi=>by
 rw[List.length_take]at hi
 rw[List.getElem_take];exact h.at' i (by omega)⟩
structure wP(w:World)(X:Nat)(t0 t1:Value)(b c:Nat)(x:SC):Prop where
 blk:mS w X t0 t1 (.slice (some ⟨b,0,none⟩) x.nm.length c) (x.st:Int) (x.mo:Int) x.fc x.fn
 nms:NmK w X b c x.nm
 st:x.st≤x.nm.length
theorem wP.lt{w:World}{X:Nat}{t0 t1:Value}{b c:Nat}{x:SC}(h:wP w X t0 t1 b c x):X<w.heap.size:=h.blk.lt
theorem wP.later{w w':World}{X:Nat}{t0 t1:Value}{b c:Nat}{x:SC}(h:wP w X t0 t1 b c x)(hb:Below w.heap.size w w'):wP w' X t0 t1 b c x:=⟨h.blk.later hb,h.nms.keep (zJ.of_below hb),h.st⟩
theorem wP.fail{w w':World}{X:Nat}{t0 t1:Value}{b c:Nat}{x:SC}(h:wP w X t0 t1 b c x){cd k:Int}(hs:mS w' X t0 t1 (.slice (some ⟨b,0,none⟩) x.nm.length c) (x.st:Int) (x.mo:Int) (tR cd k (x.fc,x.fn)).1 (tR cd k (x.fc,x.fn)).2)(hk:zJ X w w'):wP w' X t0 t1 b c (yD cd k x):=by
 rw[qBL]
 exact⟨hs,h.nms.keep hk,h.st⟩
theorem qI5(nm:List ByteArray)(t:ByteArray)(i:Nat)(h:i<nm.length):aG nm t (i+1)=if nm[i]=t then (i:Int) else aG nm t i:=by
 have e:(nm[i]?.map (·.data.toList)=some t.data.toList)↔nm[i]=t:=by
  rw[List.getElem?_eq_getElem h]
  simp only[Option.map_some,Option.some.injEq]
  exact⟨fun e=>ByteArray.ext (Array.toList_inj.1 e),fun e=>by rw[e]⟩
 show(if nm[i]?.map (·.data.toList)=some t.data.toList then (i:Int) else aG nm t i)=_
 by_cases hh:nm[i]=t
 ·rw[if_pos (e.2 hh),if_pos hh]
 ·rw[if_neg (fun h=>hh (e.1 h)),if_neg hh]
theorem tP(X:Nat)(t0 t1:Value)(b c:Nat)(x:SC)(t:ByteArray)(w:World)(h:wP w X t0 t1 b c x)(hl:x.nm.length≤1048576) :
  Calls Tryz.prog 145 #[.pointer (some ⟨X,0,none⟩),.string t] w fun e w'=>e=.returned (.int .i64 (vA x.nm t))∧w'=w:=by
 obtain⟨_,_,c2,_⟩:=h.blk.cells
 have HN:=qC h.nms
 have HF:Hid (vA x.nm t=aG x.nm t x.nm.length):=qC rfl
 generalize vA x.nm t=r at HF ⊢
 have cB:=h.nms.ne
 generalize x.nm=nm at *
 clear h
 go_enter Tryz.func145,Tryz.ntmps145
 go_wp2
 go_loopw[5] (fun i wx=>∃ (k:Nat) (z:Int),z+1=(k:Int)∧k≤nm.length∧i=.int .i64 z∧Hid (aG nm t k=r)∧wx=w) (fun i _=>(intOf i+1).toNat)
 case atStart=>exact⟨nm.length,(nm.length:Int)-1,by omega,Nat.le_refl _,by go_num,qC (qA HF).symm,rfl⟩
 case round=>
  obtain⟨k,z,hz,hk,rfl,hF,rfl⟩:=hrel
  cases k with
  | zero=>
   obtain rfl:z=-1:=by omega
   have hr:r=-1:=(qA hF).symm
   subst hr
   go_wp2
   go_ret
   exact⟨rfl,rfl⟩
  | succ k=>
   obtain rfl:z=(k:Int):=by omega
   have q0:=(qA HN).at' k (by omega)
   have hF':=qA hF
   rw[qI5 nm t k (by omega)]at hF'
   generalize nm[k]=u at q0 hF'
   by_cases hu:u=t
   ·subst hu
    have e1:=tH u
    have e2:=tI u
    rw[if_pos rfl]at hF'
    subst hF'
    clear hF
    go_wp2
    go_ret
    exact⟨rfl,rfl⟩
   ·have e1:=qAM hu
    have e2:=qAL hu
    rw[if_neg hu]at hF'
    have HF':=qC hF'
    clear hF hF' hu
    go_wp2
    go_roundw
    case rel=>exact⟨k,(k:Int)-1,by omega,by omega,by go_num,qC (qA HF'),trivial⟩
    case measure=>simp[intOf]
def twU(nm:List ByteArray)(t:ByteArray)(st k:Nat)(node:Int)(f:Int×Int):Int×Int:=if kT (nm.take k) t st=true then tR 12 node f else f
theorem qHh(c d k m:Int)(f:Int×Int)(hc:c≠0):tR d m (tR c k f)=tR c k f:=by
 unfold tR
 by_cases h:f.1=0
 ·rw[if_pos h,if_neg hc]
 ·rw[if_neg h,if_neg h]
theorem qG4(nm:List ByteArray)(t:ByteArray)(st k:Nat)(hs:st≤k)(hk:k<nm.length):kT (nm.take (k+1)) t st=(kT (nm.take k) t st||nm[k].data.toList == t.data.toList):=by
 unfold kT
 rw[List.take_succ_eq_append_getElem hk,List.drop_append_of_le_length (by rw[List.length_take];omega),List.any_append]
 simp
theorem qLU(nm:List ByteArray)(t:ByteArray)(st:Nat)(node:Int)(f:Int×Int):twU nm t st st node f=f:=by
 unfold twU kT
 rw[List.drop_eq_nil_of_le (by rw[List.length_take];omega)]
 rfl
theorem qPs(nm:List ByteArray)(t:ByteArray)(st k:Nat)(node:Int)(f:Int×Int)(hs:st≤k)(hk:k<nm.length)(h:nm[k]=t):twU nm t st (k+1) node f=tR 12 node (twU nm t st k node f):=by
 unfold twU
 rw[qG4 nm t st k hs hk,h]
 simp only[beq_self_eq_true,Bool.or_true,if_true]
 split
 ·rw[qHh _ _ _ _ _ (by decide)]
 ·rfl
theorem qRP(nm:List ByteArray)(t:ByteArray)(st k:Nat)(node:Int)(f:Int×Int)(hs:st≤k)(hk:k<nm.length)(h:nm[k]≠t):twU nm t st (k+1) node f=twU nm t st k node f:=by
 unfold twU
 have e:(nm[k].data.toList == t.data.toList)=false:=beq_eq_false_iff_ne.2 fun e=>h (ByteArray.ext (Array.toList_inj.1 e))
 rw[qG4 nm t st k hs hk,e,Bool.or_false]
theorem qPT(t:ByteArray)(node:Int)(x:SC):fB t node x = { x with fc:=(twU x.nm t x.st x.nm.length node (x.fc,x.fn)).1,fn:=(twU x.nm t x.st x.nm.length node (x.fc,x.fn)).2 }:=by
 unfold fB twU
 rw[List.take_length]
 by_cases h:kT x.nm t x.st=true
 ·rw[if_pos h,if_pos h,qBL]
 ·rw[if_neg h,if_neg h]
theorem qK9{w:World}{base X:Nat}{v:Value}{zs:List ByteArray}(h:jY w base v zs)(hz:zs≠[])(hX:X<base):∃ b c,v=.slice (some ⟨b,0,none⟩) zs.length c∧NmK w X b c zs∧base≤b:=by
 rcases h.2 with ⟨rfl,h0⟩ | ⟨g,cap,cur,rfl,hg,hgg,hn,r⟩
 ·exact absurd (List.length_eq_zero_iff.1 h0) hz
 ·have:=h.own_lt g rfl
  refine⟨g,cap,rfl,⟨hn,by omega,this.2,fun i hi=>?_⟩,this.1⟩
  have:=World.ownsRow.cellAt h i (by omega)
  rw[this]
  simp[hi]
def qNK(X:Nat)(t0 t1:Value)(x:SC)(w w':World):Prop:=∃ b c,wP w' X t0 t1 b c x∧zJ X w w'∧w.heap.size≤b
def qOi(X:Nat)(t0 t1:Value)(x:SC)(w w':World):Prop:=∃ b c,wP w' X t0 t1 b c x∧zJ X w w'
theorem oZ(X:Nat)(t0 t1:Value)(b c:Nat)(x:SC)(node:Int)(s:ByteArray)(w:World)(h:wP w X t0 t1 b c x)(hl:x.nm.length≤1048576)(hss:s.size≤maxLen) :
  Calls Tryz.prog 141 #[.pointer (some ⟨X,0,none⟩),.string s,.int .i64 node] w fun e w'=>e=.returned (.tuple #[])∧qNK X t0 t1 (qQ s node x) w w':=by
 have zX:=h.st
 have mP:=h.lt
 have cB:=h.nms.ne
 obtain⟨_,_,c2,c3,_⟩:=h.blk.cells
 obtain⟨nm,st,mo,fc,fn⟩:=x
 dsimp only at zX hl c2 c3
 have H:=qC h.blk
 have HN:=qC h.nms
 dsimp only at H HN
 have HE:Hid (fB s node ⟨nm,st,mo,fc,fn⟩=⟨nm,st,mo,(twU nm s st nm.length node (fc,fn)).1,(twU nm s st nm.length node (fc,fn)).2⟩):=qC (qPT s node ⟨nm,st,mo,fc,fn⟩)
 have HB:Hid (∀ f:Int×Int,twU nm s st nm.length node (fc,fn)=f→qQ s node ⟨nm,st,mo,fc,fn⟩=iF node ⟨nm++[s],st,max mo (nm.length+1),f.1,f.2⟩):=qC (fun f hf=>by unfold qQ;rw[qA HE,hf];rfl)
 clear h HE
 go_enter Tryz.func141,Tryz.ntmps141
 go_wp2
 go_loopw[6] (fun i wx=>∃ (k:Nat) (f:Int×Int),st≤k∧k≤nm.length∧i=.int .i64 k∧Hid (twU nm s st k node (fc,fn)=f)∧Hid (mS wx X t0 t1 (.slice (some ⟨b,0,none⟩) nm.length c) (st:Int) (mo:Int) f.1 f.2)∧Hid (zJ X w wx)∧Hid (wx.heap.size=w.heap.size)) (fun i _=>nm.length-(intOf i).toNat)
 case atStart=>exact⟨st,(fc,fn),Nat.le_refl _,zX,rfl,qC (qLU nm s st node (fc,fn)),H,qC (zJ.refl _ _),qC rfl⟩
 case round=>
  clear H c2 c3
  obtain⟨k,f,hsk,hk,rfl,hT,H,hK,fU⟩:=hrel
  obtain⟨f1,f2⟩:=f
  dsimp only at H
  obtain⟨_,_,c2,c3,c4,c5,c6⟩:=(qA H).cells
  have HNx:=qC ((qA HN).keep (qA hK))
  have hXr:X<wr.heap.size:=(qA H).lt
  by_cases jF:k<nm.length
  ·have q0:=(qA HNx).at' k jF
   have HY:=qC (fun h=>(qPs nm s st k node (fc,fn) hsk jF h).trans (by rw[qA hT]))
   have HNo:=qC (fun h=>(qRP nm s st k node (fc,fn) hsk jF h).trans (qA hT))
   generalize nm[k]=u at q0 HY HNo
   by_cases hu:u=s
   ·subst hu
    have e1:=tH u
    have e2:=tI u
    have HT':=qC (qA HY rfl)
    clear HY HNo hT
    go_wp2_with fail
    refine(gQ X t0 t1 _ (st:Int) (mo:Int) f1 f2 12 node wr (qA H)).mono ?_
    rintro e w1 ⟨rfl,hA,tO,qVn⟩
    have hs1:Hid (w1.heap.size=w.heap.size):=qC (qVn.trans (qA fU))
    have HA:=qC hA
    have yV:=qC ((qA hK).trans tO)
    clear hA tO qVn
    go_wp2
    go_roundw
    case rel=>exact⟨k+1,tR 12 node (f1,f2),by omega,by omega,by go_num,qC (qA HT'),qC (qA HA),qC (qA yV),qC (qA hs1)⟩
    case measure=>simp[intOf];omega
   ·have e1:=qAM hu
    have e2:=qAL hu
    have HT':=qC (qA HNo hu)
    clear hu HY HNo hT
    go_wp2
    go_roundw
    case rel=>exact⟨k+1,(f1,f2),by omega,by omega,by go_num,qC (qA HT'),qC (qA H),qC (qA hK),qC (qA fU)⟩
    case measure=>simp[intOf];omega
  ·obtain rfl:k=nm.length:=by omega
   have HB':=qC (qA HB (f1,f2) (qA hT))
   clear hT HB
   have HE:Hid (jY (wr.alloc (.cells #[] 9)) wr.heap.size (.slice (some ⟨wr.heap.size,0,none⟩) 0 0) []):=qC (by simpa using jY.lit wr wr.heap.size [] (Nat.le_refl _) (by decide))
   have HNa:=qC (fun i hi=>cell_later (qD wr (.cells #[] 9)) ((qA HNx).at' i hi))
   go_wp2_with (at_builtin;refine qCy _ rfl _ _ rfl wr.heap.size b 0 nm.length c _ [] nm rfl (qA HE) rfl rfl (fun i hi=>by rw[Nat.zero_add];exact qA HNa i hi) ?c1 ?c2 ?c3)
   case c2=>first | omega | (simp;omega)
   case c3=>
    intro v1 w1 dF jD
    have HS1:=qC dF
    have y8:=qC (((Below.refl wr.heap.size wr).alloc (Nat.le_refl _) _).trans jD)
    clear dF jD
    have hw1:wr.heap.size≤w1.heap.size:=(qA y8).size
    go_wp2_with (at_builtin;refine qEh _ rfl _ _ rfl wr.heap.size w1.heap.size _ nm s rfl ((qA HS1).alloc _) rfl (by simp) ?d1 ?d2 ?d3)
    case d1=>simp;omega
    case d2=>omega
    case d3=>
     intro v2 w2 vJ qY
     have uF:=qC (((qA y8).alloc hw1 _).trans qY)
     have hw2:wr.heap.size≤w2.heap.size:=(qA uF).size
     obtain⟨b2,qJB,hv2,hN2,qU6⟩:=qK9 (X:=X) vJ (by simp) (by omega)
     have HBL:Hid (w.heap.size≤b2):=qC (by rw[←qA fU];exact qU6)
     clear qU6
     subst hv2
     have xP:=qC ((qA H).same ((qA uF).block X (by have:=(qA H).lt;omega)))
     obtain⟨_,_,d2,d3,d4,d5,d6⟩:=(qA xP).cells
     have ff2:=(qA xP).free
     have hlen:(nm++[s]).length=nm.length+1:=by simp
     have HL:Hid ((nm++[s]).length=nm.length+1):=qC hlen
     rw[hlen]at vJ ⊢
     have qX7:nm.length+1≤1048577:=by omega
     have gO:=qC hN2
     have jEt:X<w2.heap.size:=by omega
     have uM:Hid (zJ X w w2):=qC ((qA hK).then_below (qA uF))
     clear vJ qY c2 c3 c4 c5 c6 hlen hN2
     have FIN:Hid (∀ (mo':Nat) (w3:World) (g:Int×Int),mS w3 X t0 t1 (.slice (some ⟨b2,0,none⟩) (nm.length+1) qJB) (st:Int) (mo':Int) g.1 g.2→zJ X ((w2.setCell ⟨X,2,none⟩ (.slice (some ⟨b2,0,none⟩) (nm.length+1) qJB)).setCell ⟨X,4,none⟩ (.int .i64 (mo':Int))).drew w3→qNK X t0 t1 ⟨nm++[s],st,mo',g.1,g.2⟩ w w3):=qC (fun mo' w3 g hA kG=>by
      have gC:zJ X w2 w3:=(((zJ.refl X w2).set_it.set_it).drew).trans kG
      refine⟨b2,qJB,⟨by rw[←qA HL]at hA;exact hA,(qA gO).keep gC,by show st≤(nm++[s]).length;rw[qA HL];omega⟩,(qA uM).trans gC,qA HBL⟩)
     have HS4:Hid (∀ mo':Nat,mS ((w2.setCell ⟨X,2,none⟩ (.slice (some ⟨b2,0,none⟩) (nm.length+1) qJB)).setCell ⟨X,4,none⟩ (.int .i64 (mo':Int))).drew X t0 t1 (.slice (some ⟨b2,0,none⟩) (nm.length+1) qJB) (st:Int) (mo':Int) f1 f2):=qC (fun mo'=>((qA xP).set2 _).set4 _)
     have HFU:Hid (∀ mo':Nat,max mo (nm.length+1)=mo'→qQ s node ⟨nm,st,mo,fc,fn⟩=if 20<nm.length+1 then ⟨nm++[s],st,mo',(tR 7 node (f1,f2)).1,(tR 7 node (f1,f2)).2⟩ else ⟨nm++[s],st,mo',f1,f2⟩):=qC (fun mo' hm=>by
      rw[qA HB',hm]
      unfold iF
      dsimp only
      rw[qA HL,qBL])
     clear HB'
     generalize hnl:nm.length+1=nl at HS4 FIN HFU d2 qX7 ⊢
     go_upto_region 6 with fail
     by_cases bF:mo<nl
     ·have qZh:(mo:Int)<(nl:Int):=by omega
      go_region
      have HA4:=qC (qA HS4 nl)
      have T4:=qC (qA FIN nl)
      have HU:=qC (qA HFU nl (by omega))
      generalize ((w2.setCell ⟨X,2,none⟩ (.slice (some ⟨b2,0,none⟩) nl qJB)).setCell ⟨X,4,none⟩ (.int .i64 (nl:Int))).drew=w4 at HA4 T4 ⊢
      obtain⟨_,_,x2,x3,x4,x5,x6⟩:=(qA HA4).cells
      clear d2 d3 d4 d5 d6 ff2 FIN HS4 HFU
      by_cases yE:20<nl
      ·rw[if_pos yE]at HU
       go_wp2_with fail
       refine(gQ X t0 t1 _ (st:Int) (nl:Int) f1 f2 7 node w4 (qA HA4)).mono ?_
       rintro e w5 ⟨rfl,hA,nU,hs5⟩
       have HF:=qC (qA T4 w5 _ hA nU)
       clear hA nU hs5
       go_wp2
       go_end0
       rw[qA HU]
       exact⟨rfl,qA HF⟩
      ·rw[if_neg yE]at HU
       have HF:=qC (qA T4 w4 (f1,f2) (qA HA4) (zJ.refl _ _))
       go_wp2
       go_end0
       rw[qA HU]
       exact⟨rfl,qA HF⟩
     ·have qZh:¬(mo:Int)<(nl:Int):=by omega
      go_region
      have HA4:=qC (qA HS4 mo)
      have T4:=qC (qA FIN mo)
      have HU:=qC (qA HFU mo (by omega))
      generalize ((w2.setCell ⟨X,2,none⟩ (.slice (some ⟨b2,0,none⟩) nl qJB)).setCell ⟨X,4,none⟩ (.int .i64 (mo:Int))).drew=w4 at HA4 T4 ⊢
      obtain⟨_,_,x2,x3,x4,x5,x6⟩:=(qA HA4).cells
      clear d2 d3 d4 d5 d6 ff2 FIN HS4 HFU
      by_cases yE:20<nl
      ·rw[if_pos yE]at HU
       go_wp2_with fail
       refine(gQ X t0 t1 _ (st:Int) (mo:Int) f1 f2 7 node w4 (qA HA4)).mono ?_
       rintro e w5 ⟨rfl,hA,nU,hs5⟩
       have HF:=qC (qA T4 w5 _ hA nU)
       clear hA nU hs5
       go_wp2
       go_end0
       rw[qA HU]
       exact⟨rfl,qA HF⟩
      ·rw[if_neg yE]at HU
       have HF:=qC (qA T4 w4 (f1,f2) (qA HA4) (zJ.refl _ _))
       go_wp2
       go_end0
       rw[qA HU]
       exact⟨rfl,qA HF⟩
theorem nD(X:Nat)(t0 t1:Value)(b c:Nat)(x:SC)(node:Int)(s:ByteArray)(w:World)(h:wP w X t0 t1 b c x)(hl:x.nm.length≤1048576)(hss:s.size≤maxLen) :
  Calls Tryz.prog 141 #[.pointer (some ⟨X,0,none⟩),.string s,.int .i64 node] w fun e w'=>e=.returned (.tuple #[])∧qOi X t0 t1 (qQ s node x) w w':=by
 refine(oZ X t0 t1 b c x node s w h hl hss).mono ?_
 rintro e w' ⟨rfl,b',c',h1,h2,_⟩
 exact⟨rfl,b',c',h1,h2⟩
end
end Go.Proofs.YtbgkfaclfnkloaaGreatDoor
