import Derived.Test.YtbgkfaclfnkloaaGreatDoorG21
import Derived.ArgAppend
import Derived.Test.YtbgkfaclfnkloaaGreatDoorG23
namespace Go.Proofs.YtbgkfaclfnkloaaGreatDoor
set_option linter.all false
set_option maxHeartbeats 4000000
set_option maxRecDepth 100000
section
open Go.RowKit Go.Joins
def tU(w:World)(base:Nat)(v:Value)(zs:List Int):Prop:=∃ (g off cap:Nat) (cs:Array Value),v=.slice (some ⟨g,off,none⟩) zs.length cap∧base≤g∧w.heap[g]? = some (.cells cs 3 (0,0))∧zs.length≤cap∧off+cap≤cs.size∧∀ i (h:i<zs.length),cs[off+i]? = some (.int .i64 zs[i])
theorem tU.same{w w':World}{base:Nat}{v:Value}{zs:List Int}(h:tU w base v zs)(hb:∀ j,v.ownBlock=some j→w'.heap[j]? = w.heap[j]?):tU w' base v zs:=by
 obtain⟨g,off,cap,cs,rfl,h1,h2,r⟩:=h
 exact⟨g,off,cap,cs,rfl,h1,by rw[hb g rfl];exact h2,r⟩
theorem tU.own_lt{w:World}{base:Nat}{v:Value}{zs:List Int}(h:tU w base v zs):∀ j,v.ownBlock=some j→base≤j∧j<w.heap.size:=fun j hj=>by
 obtain⟨g,off,cap,cs,rfl,h1,h2,r⟩:=h
 obtain rfl:g=j:=by injection hj
 exact⟨h1,(Array.getElem?_eq_some_iff.1 h2).1⟩
theorem tU.later{w w':World}{base:Nat}{v:Value}{zs:List Int}(h:tU w base v zs)(hb:Below w.heap.size w w'):tU w' base v zs:=h.same fun j hj=>hb.block j (h.own_lt j hj).2
theorem tU.tail{w:World}{base g off n cap:Nat}{z:Int}{zs:List Int}(h:tU w base (.slice (some ⟨g,off,none⟩) n cap) (z::zs)):n=zs.length+1∧zs.length+1≤cap∧w.cell? ⟨g,off,none⟩=some (.int .i64 z)∧tU w base (.slice (some ⟨g,off+1,none⟩) zs.length (cap-1)) zs:=by
 obtain⟨g',qC4,qOJ,cs,e,h1,h2,h3,h4,h5⟩:=h
 injection e with e1 e2 e3
 injection e1 with e1
 injection e1 with e4 e5 _
 subst e4 e5 e3
 rw[List.length_cons]at h3 e2
 refine⟨e2,by omega,?_,g,off+1,cap-1,cs,rfl,h1,h2,by omega,by omega,fun i hi=>?_⟩
 ·rw[cell_of_block h2]
  have:=h5 0 (by simp)
  simpa using this
 ·have:=h5 (i+1) (by simp;omega)
  rw[show off+1+i=off+(i+1) by omega]
  simpa using this
theorem tU.lone{w:World}{base g off n:Nat}{z:Int}{zs:List Int}(h:tU w base (.slice (some ⟨g,off,none⟩) n 1) (z::zs)):zs=[]∧tU w base (.slice (some ⟨g,off,none⟩) zs.length 0) zs:=by
 obtain⟨g',qC4,qOJ,cs,e,h1,h2,h3,h4,h5⟩:=h
 injection e with e1 e2 e3
 injection e1 with e1
 injection e1 with e4 e5 _
 subst e4 e5 e3
 have hz:zs=[]:=List.eq_nil_of_length_eq_zero (by rw[List.length_cons]at h3;omega)
 subst hz
 exact⟨rfl,g,off,0,cs,rfl,h1,h2,by simp,by omega,fun i hi=>by simp at hi⟩
def qNr(g9 o9 c9 n:Nat)(v:Value):Prop:=(¬c9=1∧v=.slice (some ⟨g9,o9+1,none⟩) n (c9-1))∨(c9=1∧v=.slice (some ⟨g9,o9,none⟩) n 0)
theorem tU.rest{w:World}{base g off n cap:Nat}{z:Int}{zs:List Int}(h:tU w base (.slice (some ⟨g,off,none⟩) n cap) (z::zs)){v:Value}(hv:qNr g off cap zs.length v):tU w base v zs∧v.ownBlock=some g:=by
 rcases hv with ⟨_,rfl⟩ | ⟨hc,rfl⟩
 ·exact⟨h.tail.2.2.2,rfl⟩
 ·subst hc
  exact⟨h.lone.2,rfl⟩
theorem qHk(w:World){ops:Array Oper}{rest:List Oper}{o:Oper}{a:Act}{Q:Exit→Act→World→Prop}(gM:o.guard=none)(s x:Operand)
  (ho:o.op=.call { callee:=.builtin .append,args:=#[s,x],argTypes:=#[28,28] }) (base gx:Nat) (v:Value) (zs:List Int) (c:Int) (hs:a.eval s=v)
  (zE:tU w base v zs) (hx:a.eval x=.slice (some ⟨gx,0,none⟩) 1 1) (cM:w.cell? ⟨gx,0,none⟩=some (.int .i64 c)) (uA:base≤w.heap.size) (hl:zs.length≤1000000000)
  (h:∀ v' w',tU w' base v' (zs++[c])→sZ v v' w w'→wpList Tryz.prog ops Q rest (a.put o.dst v') w'):wpList Tryz.prog ops Q (o::rest) a w:=by
 obtain⟨i0,hi,wW,wJ,gB⟩:=info_parts l6
 obtain⟨g,off,cap,cs,rfl,h1,h2,h3,h4,h5⟩:=zE
 have hg:=(Array.getElem?_eq_some_iff.1 h2).1
 refine wpList_append_arg _ gM s x 28 ho 3 i0 (.int .i64 0) 1 8 Tryz.underlying28 hi wW wJ gB rfl (by decide) g off zs.length cap (zs.map (Value.int .i64)) hs (by simp) ?_ ⟨gx,0,none⟩ 1 1 [.int .i64 c] hx rfl ?_ ?_ ?_ (by unfold maxLen;omega) (by omega) ?_ ?_
 ·intro j u' hj
  rw[List.getElem?_map]at hj
  obtain⟨z,hz,rfl⟩:=Option.map_eq_some_iff.1 hj
  obtain⟨iS,rfl⟩:=List.getElem?_eq_some_iff.1 hz
  rw[cell_of_block h2]
  exact h5 j iS
 ·intro j u' hj
  match j,hj with
  | 0,hj=>simp at hj;subst hj;simpa[Addr.add]using cM
  | j+1,hj=>simp at hj
 ·intro u' r5
  simp at r5
  subst r5
  rfl
 ·intro qHP j hj
  have hj0:j=0:=by simpa using hj
  subst hj0
  rw[show off+zs.length*1+0=off+zs.length by omega]
  refine⟨?_,unfrozen_of_block h2 _⟩
  rw[cell_of_block h2,Array.getElem?_eq_getElem (by omega)]
  rfl
 ·intro qHP
  have e:w.setCells g (off+zs.length*1) [.int .i64 c]=w.setCell ⟨g,off+zs.length,none⟩ (.int .i64 c):=by simp[World.setCells]
  rw[e]
  refine h _ _ ⟨g,off,cap,cs.setIfInBounds (off+zs.length) (.int .i64 c),by simp,h1,block_setCell h2 _,by simpa using qHP,by simpa using h4,fun i hi'=>?_⟩ ⟨⟨rfl,rfl,rfl,by simp,fun k hk cB=>Below.heap_setCell w ⟨g,off+zs.length,none⟩ _ k (fun e=>cB (by rw[e];rfl))⟩,fun j hj=>.inl hj⟩
  by_cases e:i<zs.length
  ·rw[Array.getElem?_setIfInBounds_ne (by omega),h5 i e,List.getElem_append_left e]
  ·have e2:i=zs.length:=by simp at hi';omega
   subst e2
   rw[Array.getElem?_setIfInBounds_self_of_lt (by omega)]
   simp
 ·intro qZ7 v' w' kO wY
  rcases kO.2 with ⟨_,h0⟩ | ⟨g',qOJ,cur,e,hg',hgg,hnc,hcm,hcs,cL⟩
  ·omega
  ·subst e
   have hw:=wY.size
   refine h _ _ ⟨g',0,qOJ,cur,by simp,by omega,hgg,by simpa using hnc,by omega,fun i hi'=>?_⟩ ⟨⟨wY.os,wY.tape,wY.output,wY.size,fun k hk cB=>wY.block k hk (by simp)⟩,fun j hj=>.inr ?_⟩
   ·have hc:=World.ownsRow.cellAt kO i (by simp at hi';omega)
    rw[cell_of_block hgg]at hc
    rw[Nat.zero_add,hc,←List.map_singleton,←List.map_append,List.getElem?_map,List.getElem?_eq_getElem hi']
    rfl
   ·obtain rfl:g'=j:=by injection hj
    exact hg'
theorem qFY(i:IR)(w:World)(h1:1≤i.op)(eE:i.op≤16)(hm:i.op=10→0≤i.m)(hn:i.op=11→0≤i.n) :
  Calls Tryz.prog 44 #[irV i] w fun e w'=>e=.returned (.tuple #[.int .i64 (mM i:Int),.int .i64 (sD i:Int)])∧Below w.heap.size w w':=by
 have hop:i.op=1∨i.op=2∨i.op=3∨i.op=4∨i.op=5∨i.op=6∨i.op=7∨i.op=8∨i.op=9∨i.op=10∨i.op=11∨i.op=12∨i.op=13∨i.op=14∨i.op=15∨i.op=16:=by omega
 obtain⟨op,n,m,t,vk,vn,vt⟩:=i
 dsimp only at *
 rcases hop with rfl | rfl | rfl | rfl | rfl | rfl | rfl | rfl | rfl | rfl | rfl | rfl | rfl | rfl | rfl | rfl
 all_goals
  try (have xC:=hm rfl)
  try (have hn':=hn rfl)
  clear hm hn
  go_enter Tryz.func44,Tryz.ntmps44
  go_wp2
  go_ret2
  exact⟨by simp[mM,sD];try omega,qD _ _⟩
def kK(w:World)(g n:Nat)(f:Nat→Int):Prop:=∃ A:Array Value,w.heap[g]? = some (.cells A 3 (0,0))∧A.size=n∧∀ i,i<n→A[i]? = some (.int .i64 (f i))
theorem kK.cell{w:World}{g n:Nat}{f:Nat→Int}(h:kK w g n f){i:Nat}(hi:i<n):w.cell? ⟨g,i,none⟩=some (.int .i64 (f i)):=by
 obtain⟨A,h1,h2,h3⟩:=h
 rw[cell_of_block h1]
 exact h3 i hi
theorem kK.free{w:World}{g n:Nat}{f:Nat→Int}(h:kK w g n f)(i:Nat):w.frozen? ⟨g,i,none⟩=false:=by
 obtain⟨A,h1,h2,h3⟩:=h
 exact unfrozen_of_block h1 i
theorem kK.same{w w':World}{g n:Nat}{f:Nat→Int}(h:kK w g n f)(e:w'.heap[g]? = w.heap[g]?):kK w' g n f:=by
 obtain⟨A,h1,h2,h3⟩:=h
 exact⟨A,e.trans h1,h2,h3⟩
theorem kK.lt{w:World}{g n:Nat}{f:Nat→Int}(h:kK w g n f):g<w.heap.size:=by
 obtain⟨A,h1,h2,h3⟩:=h
 exact(Array.getElem?_eq_some_iff.1 h1).1
theorem kK.set{w:World}{g n:Nat}{f f':Nat→Int}(h:kK w g n f){i:Nat}{v:Int}(hi:i<n)(hv:f' i=v)(hf:∀ j,j<n→j≠i→f' j=f j):kK (w.setCell ⟨g,i,none⟩ (.int .i64 v)) g n f':=by
 obtain⟨A,h1,h2,h3⟩:=h
 refine⟨A.setIfInBounds i (.int .i64 v),block_setCell h1 _,by simpa using h2,fun j hj=>?_⟩
 by_cases e:j=i
 ·subst e
  rw[Array.getElem?_setIfInBounds_self_of_lt (by omega),hv]
 ·rw[Array.getElem?_setIfInBounds_ne (fun e'=>e e'.symm),h3 j hj,hf j hj e]
structure dX(a b c:Nat)(w w':World):Prop where
 os:w'.os=w.os
 tape:w'.tape=w.tape
 output:w'.output=w.output
 size:w'.heap.size=w.heap.size
 block:∀ k,k≠a→k≠b→k≠c→w'.heap[k]? = w.heap[k]?
theorem dX.refl(a b c:Nat)(w:World):dX a b c w w:=⟨rfl,rfl,rfl,rfl,fun _ _ _ _=>rfl⟩
theorem dX.set{a b c:Nat}{w w':World}(h:dX a b c w w'){g o:Nat}(v:Value)(hg:g=a∨g=b∨g=c):dX a b c w (w'.setCell ⟨g,o,none⟩ v):=
 ⟨h.os,h.tape,h.output,by simp[h.size],fun k h1 h2 h3=>(Below.heap_setCell w' ⟨g,o,none⟩ v k (fun e=>by have e':k=g:=e;rcases hg with rfl | rfl | rfl <;> contradiction)).trans (h.block k h1 h2 h3)⟩
theorem dX.below{a b c B:Nat}{w w':World}(h:dX a b c w w')(ha:B≤a)(hb:B≤b)(hc:B≤c):Below B w w':=
 ⟨h.os,h.tape,h.output,by rw[h.size];exact Nat.le_refl _,fun k hk=>h.block k (by omega) (by omega) (by omega)⟩
theorem dX.cell{a b c:Nat}{w w':World}(h:dX a b c w w'){g o:Nat}(h1:g≠a)(h2:g≠b)(h3:g≠c):w'.cell? ⟨g,o,none⟩=w.cell? ⟨g,o,none⟩:=World.cell?_of_block (h.block g h1 h2 h3)
def hiN(c:List LI)(vs:List Bool)(k:Nat):Int:=if vs[k]? = some true then ((c[k]?.map LI.h).getD 0:Nat) else -1
def trN(c:List LI)(vs:List Bool)(k:Nat):Int:=if vs[k]? = some true then ((c[k]?.map LI.t).getD 0:Nat) else 0
structure vF(w:World)(X hb tb:Nat)(f:FR)(pc:Option Addr)(cc:Nat)(c:List LI)(vs:List Bool)(mo:Nat):Prop where
 box:w.heap[X]? = some (.cells #[.string f.name,.int .i64 (f.params:Int),.int .i64 (f.slots:Int),.slice pc f.code.length cc,.slice (some ⟨hb,0,none⟩) f.code.length f.code.length,.slice (some ⟨tb,0,none⟩) f.code.length f.code.length,.bool true,.int .i64 (mo:Int)] 63 (0,0))
 hi:kK w hb f.code.length (hiN c vs)
 tr:kK w tb f.code.length (trN c vs)
 n1:X≠hb
 n2:X≠tb
 n3:hb≠tb
theorem vF.cell{w:World}{X hb tb:Nat}{f:FR}{pc:Option Addr}{cc:Nat}{c:List LI}{vs:List Bool}{mo:Nat}(h:vF w X hb tb f pc cc c vs mo):w.cell? ⟨X,3,none⟩=some (.slice pc f.code.length cc)∧w.cell? ⟨X,4,none⟩=some (.slice (some ⟨hb,0,none⟩) f.code.length f.code.length)∧w.cell? ⟨X,5,none⟩=some (.slice (some ⟨tb,0,none⟩) f.code.length f.code.length)∧w.cell? ⟨X,6,none⟩=some (.bool true)∧w.cell? ⟨X,7,none⟩=some (.int .i64 (mo:Int)):=
 ⟨(cell_of_block h.box 3).trans rfl,(cell_of_block h.box 4).trans rfl,(cell_of_block h.box 5).trans rfl,(cell_of_block h.box 6).trans rfl,(cell_of_block h.box 7).trans rfl⟩
theorem vF.free{w:World}{X hb tb:Nat}{f:FR}{pc:Option Addr}{cc:Nat}{c:List LI}{vs:List Bool}{mo:Nat}(h:vF w X hb tb f pc cc c vs mo)(o:Nat):w.frozen? ⟨X,o,none⟩=false:=unfrozen_of_block h.box o
theorem vF.same{w w':World}{X hb tb:Nat}{f:FR}{pc:Option Addr}{cc:Nat}{c:List LI}{vs:List Bool}{mo:Nat}(h:vF w X hb tb f pc cc c vs mo)(e:∀ k,k=X∨k=hb∨k=tb→w'.heap[k]? = w.heap[k]?):vF w' X hb tb f pc cc c vs mo:=
 ⟨(e X (.inl rfl)).trans h.box,h.hi.same (e hb (.inr (.inl rfl))),h.tr.same (e tb (.inr (.inr rfl))),h.n1,h.n2,h.n3⟩
theorem vF.later{w w':World}{X hb tb:Nat}{f:FR}{pc:Option Addr}{cc:Nat}{c:List LI}{vs:List Bool}{mo:Nat}(h:vF w X hb tb f pc cc c vs mo)(e:Below w.heap.size w w'):vF w' X hb tb f pc cc c vs mo:=
 h.same fun k hk=>e.block k (by rcases hk with rfl | rfl | rfl;exact(Array.getElem?_eq_some_iff.1 h.box).1;exact h.hi.lt;exact h.tr.lt)
theorem vF.setMo{w:World}{X hb tb:Nat}{f:FR}{pc:Option Addr}{cc:Nat}{c:List LI}{vs:List Bool}{mo:Nat}(h:vF w X hb tb f pc cc c vs mo)(m:Nat):vF (w.setCell ⟨X,7,none⟩ (.int .i64 (m:Int))) X hb tb f pc cc c vs m:=by
 have e:∀ k,k≠X→(w.setCell ⟨X,7,none⟩ (.int .i64 (m:Int))).heap[k]? = w.heap[k]?:=fun k hk=>Below.heap_setCell w ⟨X,7,none⟩ _ k hk
 refine⟨?_,h.hi.same (e hb h.n1.symm),h.tr.same (e tb h.n2.symm),h.n1,h.n2,h.n3⟩
 have:=block_setCell (i:=7) h.box (.int .i64 (m:Int))
 exact this
theorem vF.visit{w:World}{X hb tb:Nat}{f:FR}{pc:Option Addr}{cc:Nat}{c:List LI}{vs:List Bool}{mo:Nat}(h:vF w X hb tb f pc cc c vs mo){q:Nat}{x:LI}(hx:c[q]? = some x)(hq:q<f.code.length)(hv:vs.length=f.code.length) :
  vF ((w.setCell ⟨hb,q,none⟩ (.int .i64 (x.h:Int))).setCell ⟨tb,q,none⟩ (.int .i64 (x.t:Int))) X hb tb f pc cc c (vs.set q true) mo:=by
 have e1:∀ k,k≠hb→(w.setCell ⟨hb,q,none⟩ (.int .i64 (x.h:Int))).heap[k]? = w.heap[k]?:=fun k hk=>Below.heap_setCell w ⟨hb,q,none⟩ _ k hk
 have e2:∀ k,k≠tb→((w.setCell ⟨hb,q,none⟩ (.int .i64 (x.h:Int))).setCell ⟨tb,q,none⟩ (.int .i64 (x.t:Int))).heap[k]? = (w.setCell ⟨hb,q,none⟩ (.int .i64 (x.h:Int))).heap[k]?:=fun k hk=>Below.heap_setCell _ ⟨tb,q,none⟩ _ k hk
 have hs:∀ j,(vs.set q true)[j]? = some true↔j=q∨vs[j]? = some true:=fun j=>uR (by omega)
 refine⟨((e2 X h.n2).trans (e1 X h.n1)).trans h.box,?_,?_,h.n1,h.n2,h.n3⟩
 ·refine kK.same (h.hi.set hq ?_ fun j hj cB=>?_) (e2 hb h.n3)
  ·unfold hiN
   rw[if_pos ((hs q).2 (.inl rfl)),hx]
   rfl
  ·unfold hiN
   by_cases hj':vs[j]? = some true
   ·rw[if_pos hj',if_pos ((hs j).2 (.inr hj'))]
   ·rw[if_neg hj',if_neg (fun e=>by rcases(hs j).1 e with e | e;exact cB e;exact hj' e)]
 ·refine(h.tr.same (e1 tb h.n3.symm)).set hq ?_ fun j hj cB=>?_
  ·unfold trN
   rw[if_pos ((hs q).2 (.inl rfl)),hx]
   rfl
  ·unfold trN
   by_cases hj':vs[j]? = some true
   ·rw[if_pos hj',if_pos ((hs j).2 (.inr hj'))]
   ·rw[if_neg hj',if_neg (fun e=>by rcases(hs j).1 e with e | e;exact cB e;exact hj' e)]
theorem qKm{c:List LI}{vs:List Bool}{q:Nat}{x:LI}(hx:c[q]? = some x)(h:vs[q]? = some true):hiN c vs q=(x.h:Int):=by unfold hiN;rw[if_pos h,hx];rfl
theorem wN{c:List LI}{vs:List Bool}{q:Nat}{x:LI}(hx:c[q]? = some x)(h:vs[q]? = some true):trN c vs q=(x.t:Int):=by unfold trN;rw[if_pos h,hx];rfl
theorem qRW{c:List LI}{vs:List Bool}{q:Nat}(h:¬vs[q]? = some true):hiN c vs q=-1:=by unfold hiN;rw[if_neg h]
theorem qCr{vs:List Bool}{q:Nat}(h:vs[q]? = some true):vs.set q true=vs:=by
 obtain⟨h1,h2⟩:=List.getElem?_eq_some_iff.1 h
 rw[←h2]
 simp
theorem qPW(a b:Nat):(if (a:Int)<(b:Int) then (b:Int) else (a:Int))=((max a b:Nat):Int):=by split <;> omega
theorem qAd(X hb tb:Nat)(f:FR)(pc:Option Addr)(cc:Nat)(c:List LI)(vs:List Bool)(mo q:Nat)(x:LI)(w:World)(hF:vF w X hb tb f pc cc c vs mo)(hx:c[q]? = some x)(hc:c.length=f.code.length)(hv:vs.length=f.code.length)(dO:x.h≤200)(yE:x.t≤20)(yI:f.code.length≤400) :
  Calls Tryz.prog 43 #[.pointer (some ⟨X,0,none⟩),.int .i64 (q:Int),.int .i64 (x.h:Int),.int .i64 (x.t:Int)] w fun e w'=>e=.returned (.bool (!(vs[q]? == some true)))∧vF w' X hb tb f pc cc c (vs.set q true) (max mo x.h)∧dX X hb tb w w':=by
 have hq:q<f.code.length:=by rw[←hc];exact(List.getElem?_eq_some_iff.1 hx).1
 obtain⟨c3,c4,c5,c6,c7⟩:=hF.cell
 have f7:=hF.free 7
 have hh:=hF.hi.cell hq
 have ht:=hF.tr.cell hq
 have fh:=hF.hi.free q
 have ft:=hF.tr.free q
 have n1:=hF.n1
 have n2:=hF.n2
 have n3:=hF.n3
 have n1':=n1.symm
 have n2':=n2.symm
 have n3':=n3.symm
 have hmx:=qPW mo x.h
 have hl:0<f.code.length:=by omega
 have gG:(decide ((0:Int)≤(q:Int))&&decide ((q:Int)≤(f.code.length:Int)-1))=true:=by simp;omega
 have qKw:=qC (fun (e:vs[q]? = some true)=>(show vF (w.setCell ⟨X,7,none⟩ (.int .i64 ((max mo x.h:Nat):Int))) X hb tb f pc cc c (vs.set q true) (max mo x.h) by rw[qCr e];exact hF.setMo _))
 have qOA:=qC ((hF.setMo (max mo x.h)).visit hx hq hv)
 clear hmx
 obtain⟨mx,hmx⟩:∃ mx,max mo x.h=mx:=⟨_,rfl⟩
 rw[hmx]at qKw qOA ⊢
 have qHF:(mo<x.h∧mx=x.h)∨(¬mo<x.h∧mx=mo):=by omega
 clear hmx
 by_cases qAq:vs[q]? = some true
 ·have e1:=qKm hx qAq
  have e2:=wN hx qAq
  have e3:=beq_iff_eq.2 qAq
  have hG:=qC (qA qKw qAq)
  rw[e1]at hh
  rw[e2]at ht
  rw[e3]
  generalize f.code.length=n at *
  generalize x.h=xh at *
  generalize x.t=xt at *
  clear hF hx hc hv qAq e1 e2 e3 qKw qOA
  rcases qHF with ⟨jF,rfl⟩ | ⟨jF,rfl⟩
  all_goals
   go_enter Tryz.func43,Tryz.ntmps43
   go_wp2_with fail
   refine(qP _ _ _ _ _ gG).mono ?_
   rintro e w' ⟨rfl,rfl⟩
   go_wp2
   go_ret
   exact⟨rfl,qA hG,(dX.refl _ _ _ _).set _ (.inl rfl)⟩
 ·have e1:=qRW (c:=c) qAq
  have e3:(vs[q]? == some true)=false:=beq_eq_false_iff_ne.2 qAq
  rw[e1]at hh
  rw[e3]
  generalize f.code.length=n at *
  generalize x.h=xh at *
  generalize x.t=xt at *
  generalize trN c vs q=tq at ht
  clear hF hx hc hv qAq e1 e3 qKw
  rcases qHF with ⟨jF,rfl⟩ | ⟨jF,rfl⟩
  all_goals
   go_enter Tryz.func43,Tryz.ntmps43
   go_wp2_with fail
   refine(qP _ _ _ _ _ gG).mono ?_
   rintro e w' ⟨rfl,rfl⟩
   go_wp2
   go_ret
   exact⟨rfl,qA qOA,(((dX.refl _ _ _ _).set _ (.inl rfl)).set _ (.inr (.inl rfl))).set _ (.inr (.inr rfl))⟩
def hs0(c:List LI)(vs:List Bool)(k:Nat):Int:=if vs[k]? = some true then ((c[k]?.map LI.h).getD 0:Nat) else 0
theorem dL{c:List LI}{vs:List Bool}{q:Nat}{x:LI}(hx:c[q]? = some x)(h:vs[q]? = some true):hs0 c vs q=(x.h:Int):=by unfold hs0;rw[if_pos h,hx];rfl
theorem qSh{c:List LI}{vs:List Bool}{q:Nat}(h:¬vs[q]? = some true):hs0 c vs q=0:=by unfold hs0;rw[if_neg h]
theorem qR5{c:List LI}{vs:List Bool}{q:Nat}(h:¬vs[q]? = some true):trN c vs q=0:=by unfold trN;rw[if_neg h]
theorem qLz{vs:List Bool}{q j:Nat}(h:j≠q):(vs.set q true)[j]? = vs[j]?:=by rw[List.getElem?_set];rw[if_neg (fun e=>h e.symm)]
def uT(w:World)(sb:Nat)(c:List LI)(vs:List Bool):Prop:=∃ A:Array Value,w.heap[sb]? = some (.cells A 59 (0,0))∧A.size=vs.length*3∧∀ i (h:i<vs.length),A[i*3]? = some (.bool vs[i])∧A[i*3+1]? = some (.int .i64 (hs0 c vs i))∧A[i*3+2]? = some (.int .i64 (trN c vs i))
theorem uT.cell{w:World}{sb:Nat}{c:List LI}{vs:List Bool}(h:uT w sb c vs){i:Nat}(hi:i<vs.length):w.cell? ⟨sb,i*3,none⟩=some (.bool vs[i])∧w.cell? ⟨sb,i*3+1,none⟩=some (.int .i64 (hs0 c vs i))∧w.cell? ⟨sb,i*3+2,none⟩=some (.int .i64 (trN c vs i)):=by
 obtain⟨A,h1,h2,h3⟩:=h
 obtain⟨a,b,d⟩:=h3 i hi
 exact⟨(cell_of_block h1 _).trans a,(cell_of_block h1 _).trans b,(cell_of_block h1 _).trans d⟩
theorem uT.free{w:World}{sb:Nat}{c:List LI}{vs:List Bool}(h:uT w sb c vs)(i:Nat):w.frozen? ⟨sb,i,none⟩=false:=by
 obtain⟨A,h1,_⟩:=h
 exact unfrozen_of_block h1 i
theorem uT.same{w w':World}{sb:Nat}{c:List LI}{vs:List Bool}(h:uT w sb c vs)(e:w'.heap[sb]? = w.heap[sb]?):uT w' sb c vs:=by
 obtain⟨A,h1,h2⟩:=h
 exact⟨A,by rw[e];exact h1,h2⟩
theorem uT.lt{w:World}{sb:Nat}{c:List LI}{vs:List Bool}(h:uT w sb c vs):sb<w.heap.size:=by
 obtain⟨A,h1,_⟩:=h
 exact(Array.getElem?_eq_some_iff.1 h1).1
theorem uT.set{w:World}{sb:Nat}{c:List LI}{vs:List Bool}(h:uT w sb c vs){q:Nat}{x:LI}(hq:q<vs.length)(hx:c[q]? = some x) :
  uT (((w.setCell ⟨sb,q*3,none⟩ (.bool true)).setCell ⟨sb,q*3+1,none⟩ (.int .i64 (x.h:Int))).setCell ⟨sb,q*3+2,none⟩ (.int .i64 (x.t:Int))) sb c (vs.set q true):=by
 obtain⟨A,h1,h2,h3⟩:=h
 refine⟨_,block_setCell (block_setCell (block_setCell h1 _) _) _,by simp[h2],fun i hi=>?_⟩
 rw[List.length_set]at hi
 have hqt:(vs.set q true)[q]? = some true:=by rw[List.getElem?_set_self hq]
 by_cases e:i=q
 ·subst e
  rw[dL hx hqt,wN hx hqt]
  refine⟨?_,?_,?_⟩
  all_goals simp[Array.getElem?_setIfInBounds,h2]
  all_goals omega
 ·obtain⟨c0,c1,c2⟩:=h3 i hi
  have e1:(vs.set q true)[i]? = vs[i]?:=qLz e
  have e2:hs0 c (vs.set q true) i=hs0 c vs i:=by unfold hs0;rw[e1]
  have e3:trN c (vs.set q true) i=trN c vs i:=by unfold trN;rw[e1]
  have e4:(vs.set q true)[i]'(by rw[List.length_set];exact hi)=vs[i]:=by
   have:=e1
   rw[List.getElem?_eq_getElem (by rw[List.length_set];exact hi),List.getElem?_eq_getElem hi]at this
   exact Option.some.inj this
  rw[e2,e3,e4]
  refine⟨?_,?_,?_⟩
  ·rw[Array.getElem?_setIfInBounds_ne (by omega),Array.getElem?_setIfInBounds_ne (by omega),Array.getElem?_setIfInBounds_ne (by omega),c0]
  ·rw[Array.getElem?_setIfInBounds_ne (by omega),Array.getElem?_setIfInBounds_ne (by omega),Array.getElem?_setIfInBounds_ne (by omega),c1]
  ·rw[Array.getElem?_setIfInBounds_ne (by omega),Array.getElem?_setIfInBounds_ne (by omega),Array.getElem?_setIfInBounds_ne (by omega),c2]
theorem qR.pop{w:World}{base g n cap:Nat}{zs:List Int}{z:Int}(h:qR w base (.slice (some ⟨g,0,none⟩) n cap) (zs++[z])):qR w base (.slice (some ⟨g,0,none⟩) zs.length cap) zs∧n=zs.length+1∧w.cell? ⟨g,zs.length,none⟩=some (.int .i64 z)∧zs.length+1≤cap:=by
 have uJ:n=zs.length+1:=by
  obtain⟨a,c,e⟩:=h.slice
  simp at e
  exact e.2.1
 subst uJ
 have h':w.ownsRow base 3 1 (.slice (some ⟨g,0,none⟩) (zs.length+1) cap) (zs.length+1) ((zs++[z]).map (Value.int .i64)):=by
  have:=h
  unfold qR at this
  rwa [List.length_append]at this
 have hc:=World.ownsRow.cellAt h' zs.length (by omega)
 rcases h'.2 with ⟨e,_⟩ | ⟨g',qOJ,cur,e,hg,hgg,hn,hm,hs,ht⟩
 ·cases e
 ·simp at e
  obtain⟨rfl,rfl⟩:=e
  refine⟨⟨by simp,.inr ⟨g,cap,cur,rfl,hg,hgg,by omega,hm,hs,?_⟩⟩,rfl,?_,hn⟩
  ·have:=congrArg (List.take zs.length) ht
   rw[List.take_take,List.map_append,List.take_append_of_le_length (by simp),List.take_of_length_le (l:=zs.map (Value.int .i64)) (by simp),Nat.min_eq_left (by omega)]at this
   rw[Nat.mul_one]
   exact this
  ·simpa using hc
structure zQ(w:World)(B X sb:Nat)(pc:Option Addr)(n cc:Nat)(c:List LI)(vs:List Bool)(av:Value)(td:List Nat):Prop where
 box:w.heap[X]? = some (.cells #[.slice pc n cc,.slice (some ⟨sb,0,none⟩) n n,av,.bool false] 56 (0,0))
 st:uT w sb c vs
 ah:qR w B av (td.map Int.ofNat)
 ne:X≠sb
 nx:∀ j,av.ownBlock=some j→j≠X∧j≠sb
 bx:B≤X
 bs:B≤sb
theorem zQ.later{w w':World}{B X sb:Nat}{pc:Option Addr}{n cc:Nat}{c:List LI}{vs:List Bool}{av:Value}{td:List Nat}(h:zQ w B X sb pc n cc c vs av td)(hb:Below w.heap.size w w'):zQ w' B X sb pc n cc c vs av td:=
 ⟨by rw[hb.block X (Array.getElem?_eq_some_iff.1 h.box).1];exact h.box,h.st.same (hb.block sb h.st.lt),h.ah.later hb,h.ne,h.nx,h.bx,h.bs⟩
theorem zQ.cells{w:World}{B X sb:Nat}{pc:Option Addr}{n cc:Nat}{c:List LI}{vs:List Bool}{av:Value}{td:List Nat}(h:zQ w B X sb pc n cc c vs av td):w.cell? ⟨X,0,none⟩=some (.slice pc n cc)∧w.cell? ⟨X,1,none⟩=some (.slice (some ⟨sb,0,none⟩) n n)∧w.cell? ⟨X,2,none⟩=some av∧w.cell? ⟨X,3,none⟩=some (.bool false):=
 ⟨(cell_of_block h.box 0).trans rfl,(cell_of_block h.box 1).trans rfl,(cell_of_block h.box 2).trans rfl,(cell_of_block h.box 3).trans rfl⟩
theorem zQ.free{w:World}{B X sb:Nat}{pc:Option Addr}{n cc:Nat}{c:List LI}{vs:List Bool}{av:Value}{td:List Nat}(h:zQ w B X sb pc n cc c vs av td)(o:Nat):w.frozen? ⟨X,o,none⟩=false:=unfrozen_of_block h.box o
theorem vY.low{w w':World}{B:Nat}{p:Option Addr}{code:List IR}(h:vY w p code)(hb:Below B w w')(hB:∀ b off,p=some ⟨b,off,none⟩→b<B):vY w' p code:=fun i hi=>by
 obtain⟨b,off,rfl,h0,h1,h2,h3,h4,h5,h6⟩:=h i hi
 have hl:=hB b off rfl
 exact⟨b,off,rfl,by rw[hb.cell (p:=⟨b,_,none⟩) hl];exact h0,by rw[hb.cell (p:=⟨b,_,none⟩) hl];exact h1,by rw[hb.cell (p:=⟨b,_,none⟩) hl];exact h2,by rw[hb.cell (p:=⟨b,_,none⟩) hl];exact h3,by rw[hb.cell (p:=⟨b,_,none⟩) hl];exact h4,by rw[hb.cell (p:=⟨b,_,none⟩) hl];exact h5,by rw[hb.cell (p:=⟨b,_,none⟩) hl];exact h6⟩
end
end Go.Proofs.YtbgkfaclfnkloaaGreatDoor
