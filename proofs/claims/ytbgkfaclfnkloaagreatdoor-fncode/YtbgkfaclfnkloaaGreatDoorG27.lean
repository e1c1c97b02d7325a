import Derived.Test.YtbgkfaclfnkloaaGreatDoorG26
import Derived.Test.YtbgkfaclfnkloaaGreatDoorG19
import Derived.Test.YtbgkfaclfnkloaaGreatDoorG18
namespace Go.Proofs.YtbgkfaclfnkloaaGreatDoor
set_option linter.all false
set_option maxHeartbeats 4000000
set_option maxRecDepth 100000
open Go.RowKit Go.Joins
structure PK(g:Nat)(v v':Value)(w w':World):Prop where
 os:w'.os=w.os
 tape:w'.tape=w.tape
 output:w'.output=w.output
 size:w.heap.size≤w'.heap.size
 block:∀ k,k<w.heap.size→k≠g→v.ownBlock≠some k→w'.heap[k]? = w.heap[k]?
 own:∀ j,v'.ownBlock=some j→v.ownBlock=some j∨w.heap.size≤j
theorem PK.refl(g:Nat)(v:Value)(w:World):PK g v v w w:=⟨rfl,rfl,rfl,Nat.le_refl _,fun _ _ _ _=>rfl,fun _ h=>.inl h⟩
theorem PK.trans{g:Nat}{u v x:Value}{a b c:World}(h:PK g u v a b)(k:PK g v x b c):PK g u x a c:=
 ⟨k.os.trans h.os,k.tape.trans h.tape,k.output.trans h.output,Nat.le_trans h.size k.size,fun i hi hg hu=>(k.block i (by have:=h.size;omega) hg (fun e=>by
  rcases h.own i e with e | e
  ·exact hu e
  ·omega)).trans (h.block i hi hg hu),fun j hj=>by
  rcases k.own j hj with e | e
  ·exact h.own j e
  ·exact .inr (Nat.le_trans h.size e)⟩
theorem PK.of_below{g:Nat}{v:Value}{w w':World}(h:Below w.heap.size w w'):PK g v v w w':=⟨h.os,h.tape,h.output,h.size,fun k hk _ _=>h.block k hk,fun _ h=>.inl h⟩
theorem PK.then_below{g:Nat}{u v:Value}{a b c:World}(h:PK g u v a b)(k:Below b.heap.size b c):PK g u v a c:=h.trans (.of_below k)
theorem PK.alloc{g:Nat}{u v:Value}{a b:World}(h:PK g u v a b)(o:Obj):PK g u v a (b.alloc o):=h.then_below (qD _ _)
theorem PK.set{g o:Nat}{u v:Value}{a b:World}{x:Value}(h:PK g u v a b):PK g u v a (b.setCell ⟨g,o,none⟩ x):=
 ⟨h.os,h.tape,h.output,by have:=h.size;simpa using this,fun k hk hg hu=>by rw[Below.heap_setCell b ⟨g,o,none⟩ x k hg];exact h.block k hk hg hu,h.own⟩
theorem PK.cell{g:Nat}{v v' x:Value}{w w':World}{b o:Nat}(h:PK g v v' w w')(hc:w.cell? ⟨b,o,none⟩=some x)(hg:b≠g)(hv:v.ownBlock≠some b):w'.cell? ⟨b,o,none⟩=some x:=by
 rw[World.cell?_of_block (h.block b (World.block_lt_of_cell? _ _ hc) hg hv)];exact hc
theorem PK.below{g B:Nat}{v v':Value}{w w':World}(h:PK g v v' w w')(hB:B≤g)(hw:g<w.heap.size)(hv:∀ j,v.ownBlock=some j→B≤j):Below B w w':=
 ⟨h.os,h.tape,h.output,h.size,fun k hk=>h.block k (by omega) (by omega) (fun e=>by have:=hv k e;omega)⟩
structure PX where
 c:Nat
 E:Nat→Prop
 b:Nat
def PX.on(lc:PX)(kv:Value):PX:=⟨lc.c,fun j=>lc.E j∨kv.ownBlock=some j,lc.b⟩
def qAy(w:World)(g:Nat)(E:Nat→Prop)(v u:Value)(zs:List Int):Prop:=∃ a cap,u=.slice a zs.length cap∧∀ i (h:i<zs.length),∃ b off,a=some ⟨b,off,none⟩∧g<b∧b<w.heap.size∧¬E b∧v.ownBlock≠some b∧w.cell? ⟨b,off+i,none⟩=some (.int .i64 zs[i])
def lA(w:World)(g:Nat)(E:Nat→Prop)(v u:Value)(zs:List ByteArray):Prop:=∃ a cap,u=.slice a zs.length cap∧∀ i (h:i<zs.length),∃ b off,a=some ⟨b,off,none⟩∧g<b∧b<w.heap.size∧¬E b∧v.ownBlock≠some b∧w.cell? ⟨b,off+i,none⟩=some (.string zs[i])
theorem qAy.keep{w w':World}{g:Nat}{E:Nat→Prop}{v v' u:Value}{zs:List Int}(h:qAy w g E v u zs)(hk:PK g v v' w w'):qAy w' g E v' u zs:=by
 obtain⟨a,cap,e,hc⟩:=h
 refine⟨a,cap,e,fun i hi=>?_⟩
 obtain⟨b,off,ha,h1,h2,he,h3,h4⟩:=hc i hi
 refine⟨b,off,ha,h1,Nat.lt_of_lt_of_le h2 hk.size,he,fun e=>?_,hk.cell h4 (by omega) h3⟩
 rcases hk.own b e with e | e
 ·exact h3 e
 ·omega
theorem lA.keep{w w':World}{g:Nat}{E:Nat→Prop}{v v' u:Value}{zs:List ByteArray}(h:lA w g E v u zs)(hk:PK g v v' w w'):lA w' g E v' u zs:=by
 obtain⟨a,cap,e,hc⟩:=h
 refine⟨a,cap,e,fun i hi=>?_⟩
 obtain⟨b,off,ha,h1,h2,he,h3,h4⟩:=hc i hi
 refine⟨b,off,ha,h1,Nat.lt_of_lt_of_le h2 hk.size,he,fun e=>?_,hk.cell h4 (by omega) h3⟩
 rcases hk.own b e with e | e
 ·exact h3 e
 ·omega
theorem qR.kidsK{w:World}{base g:Nat}{E:Nat→Prop}{v u:Value}{zs:List Int}(h:qR w base u zs)(hg:g<base)(hd:∀ j,u.ownBlock=some j→v.ownBlock≠some j)(hE:∀ j,u.ownBlock=some j→¬E j):qAy w g E v u zs:=by
 rcases h.2 with ⟨rfl,h0⟩ | ⟨b,cap,cur,rfl,hb⟩
 ·exact⟨none,0,by rw[h0],fun i hi=>by omega⟩
 ·refine⟨some ⟨b,0,none⟩,cap,rfl,fun i hi=>⟨b,0,rfl,by have:=(h.own_lt b rfl).1;omega,(h.own_lt b rfl).2,hE b rfl,hd b rfl,?_⟩⟩
  have:=World.ownsRow.cellAt h i (by omega)
  rw[Nat.zero_add,this]
  simp[hi]
theorem jY.namesK{w:World}{base g:Nat}{E:Nat→Prop}{v u:Value}{zs:List ByteArray}(h:jY w base u zs)(hg:g<base)(hd:∀ j,u.ownBlock=some j→v.ownBlock≠some j)(hE:∀ j,u.ownBlock=some j→¬E j):lA w g E v u zs:=by
 rcases h.2 with ⟨rfl,h0⟩ | ⟨b,cap,cur,rfl,hb⟩
 ·exact⟨none,0,by rw[h0],fun i hi=>by omega⟩
 ·refine⟨some ⟨b,0,none⟩,cap,rfl,fun i hi=>⟨b,0,rfl,by have:=(h.own_lt b rfl).1;omega,(h.own_lt b rfl).2,hE b rfl,hd b rfl,?_⟩⟩
  have:=World.ownsRow.cellAt h i (by omega)
  rw[Nat.zero_add,this]
  simp[hi]
structure NC where
 x:TN
 un:Value
 uk:Value
def mC(c:NC):List Value:=[.int .i64 c.x.k,.int .i64 c.x.n,.string c.x.t,c.un,c.uk]
def vZ(cs:List NC):List Value:=cs.flatMap mC
theorem qCJ(cs:List NC)(c:NC):vZ (cs++[c])=vZ cs++mC c:=by simp[vZ]
theorem qDI:∀ (cs:List NC) (i:Nat) (h:i<cs.length),(vZ cs)[i*5]? = some (.int .i64 cs[i].x.k)∧(vZ cs)[i*5+1]? = some (.int .i64 cs[i].x.n)∧(vZ cs)[i*5+2]? = some (.string cs[i].x.t)∧(vZ cs)[i*5+3]? = some cs[i].un∧(vZ cs)[i*5+4]? = some cs[i].uk:=by
 intro cs
 induction cs with
 | nil=>intro i h;simp at h
 | cons v cs ih=>
  intro i h
  have e:vZ (v::cs)=mC v++vZ cs:=by simp[vZ]
  cases i with
  | zero=>rw[e];exact⟨rfl,rfl,rfl,rfl,rfl⟩
  | succ i=>
   have h':i<cs.length:=by simpa using h
   have:=ih i h'
   have hl:(mC v).length=5:=rfl
   refine⟨?_,?_,?_,?_,?_⟩
   ·rw[e,List.getElem?_append_right (by omega),show(i+1)*5-(mC v).length=i*5 by omega];exact this.1
   ·rw[e,List.getElem?_append_right (by omega),show(i+1)*5+1-(mC v).length=i*5+1 by omega];exact this.2.1
   ·rw[e,List.getElem?_append_right (by omega),show(i+1)*5+2-(mC v).length=i*5+2 by omega];exact this.2.2.1
   ·rw[e,List.getElem?_append_right (by omega),show(i+1)*5+3-(mC v).length=i*5+3 by omega];exact this.2.2.2.1
   ·rw[e,List.getElem?_append_right (by omega),show(i+1)*5+4-(mC v).length=i*5+4 by omega];exact this.2.2.2.2
theorem jJ{w w':World}{base:Nat}{e:TypeId}{sz:Nat}{v:Value}{n:Nat}{xs:List Value}(h:w.ownsRow base e sz v n xs)(hk:∀ j,v.ownBlock=some j→w'.heap[j]? = w.heap[j]?):w'.ownsRow base e sz v n xs:=by
 refine⟨h.1,?_⟩
 rcases h.2 with h | ⟨g,cap,cur,e,hg,hgg,r⟩
 ·exact .inl h
 ·refine .inr ⟨g,cap,cur,e,hg,?_,r⟩
  rw[hk g (by rw[e];rfl)];exact hgg
structure cF(w:World)(g:Nat)(lc:PX)(v:Value)(ns:List TN)(cs:List NC):Prop where
 map:cs.map NC.x=ns
 row:w.ownsRow lc.b 128 5 v cs.length (vZ cs)
 ng:∀ j,v.ownBlock=some j→j≠g
 each:∀ c∈cs,lA w g lc.E v c.un c.x.names∧qAy w g lc.E v c.uk c.x.kids
 off:∀ j,v.ownBlock=some j→¬lc.E j
 few:∀ c∈cs,c.x.names.length≤1000000
theorem cF.len{w:World}{g:Nat}{lc:PX}{v:Value}{ns:List TN}{cs:List NC}(h:cF w g lc v ns cs):cs.length=ns.length:=by rw[←h.map];simp
theorem cF.slice{w:World}{g:Nat}{lc:PX}{v:Value}{ns:List TN}{cs:List NC}(h:cF w g lc v ns cs):∃ a cap,v=.slice a ns.length cap:=by
 rw[←h.len];exact vB h.row
theorem cF.own{w:World}{g:Nat}{lc:PX}{v:Value}{ns:List TN}{cs:List NC}(h:cF w g lc v ns cs):∀ j,v.ownBlock=some j→(lc.b≤j∧j≠g)∧j<w.heap.size:=fun j hj=>⟨⟨(World.ownsRow.lt h.row j hj).1,h.ng j hj⟩,(World.ownsRow.lt h.row j hj).2⟩
theorem cF.keep{w w':World}{g:Nat}{lc:PX}{v:Value}{ns:List TN}{cs:List NC}(h:cF w g lc v ns cs)(hk:PK g v v w w')(hb:∀ j,v.ownBlock=some j→w'.heap[j]? = w.heap[j]?):cF w' g lc v ns cs:=
 ⟨h.map,jJ h.row hb,h.ng,fun c hc=>⟨(h.each c hc).1.keep hk,(h.each c hc).2.keep hk⟩,h.off,h.few⟩
theorem cF.later{w w':World}{g:Nat}{lc:PX}{v:Value}{ns:List TN}{cs:List NC}(h:cF w g lc v ns cs)(hb:Below w.heap.size w w'):cF w' g lc v ns cs:=h.keep (.of_below hb) fun j hj=>hb.block j (h.own j hj).2
structure zD(w:World)(g:Nat)(lp:Option Addr)(lc:PX)(ts:List V3)(v:Value)(s:PS):Prop where
 blk:w.heap[g]? = some (.cells #[.slice lp ts.length lc.c,.int .i64 (s.at':Int),v,.int .i64 (s.dp:Int),.int .i64 s.code,.int .i64 s.place] 124 (0,0))
 toks:qBI w lp ts
 tb:∀ a,lp=some a→a.block<lc.b
 bg:lc.b≤g
 row:∃ cs,cF w g lc v s.ns cs
 ex:∀ j,lc.E j→g<j∧j<w.heap.size
 hat:s.at'≤ts.length
theorem zD.lt{w:World}{g:Nat}{lp:Option Addr}{lc:PX}{ts:List V3}{v:Value}{s:PS}(h:zD w g lp lc ts v s):g<w.heap.size:=(Array.getElem?_eq_some_iff.1 h.blk).1
theorem zD.cells{w:World}{g:Nat}{lp:Option Addr}{lc:PX}{ts:List V3}{v:Value}{s:PS}(h:zD w g lp lc ts v s):w.cell? ⟨g,0,none⟩=some (.slice lp ts.length lc.c)∧w.cell? ⟨g,1,none⟩=some (.int .i64 (s.at':Int))∧w.cell? ⟨g,2,none⟩=some v∧w.cell? ⟨g,3,none⟩=some (.int .i64 (s.dp:Int))∧w.cell? ⟨g,4,none⟩=some (.int .i64 s.code)∧w.cell? ⟨g,5,none⟩=some (.int .i64 s.place):=by
 refine⟨?_,?_,?_,?_,?_,?_⟩ <;> (rw[cell_of_block h.blk];rfl)
theorem zD.free{w:World}{g:Nat}{lp:Option Addr}{lc:PX}{ts:List V3}{v:Value}{s:PS}(h:zD w g lp lc ts v s)(i:Nat):w.frozen? ⟨g,i,none⟩=false:=unfrozen_of_block h.blk i
theorem zD.later{w w':World}{g:Nat}{lp:Option Addr}{lc:PX}{ts:List V3}{v:Value}{s:PS}(h:zD w g lp lc ts v s)(hb:Below w.heap.size w w'):zD w' g lp lc ts v s:=by
 obtain⟨cs,hr⟩:=h.row
 exact⟨(hb.block g h.lt).trans h.blk,h.toks.later hb,h.tb,h.bg,⟨cs,hr.later hb⟩,fun j hj=>⟨(h.ex j hj).1,Nat.lt_of_lt_of_le (h.ex j hj).2 hb.size⟩,h.hat⟩
theorem zD.alloc{w:World}{g:Nat}{lp:Option Addr}{lc:PX}{ts:List V3}{v:Value}{s:PS}(h:zD w g lp lc ts v s)(o:Obj):zD (w.alloc o) g lp lc ts v s:=h.later (qD _ _)
theorem zD.own{w:World}{g:Nat}{lp:Option Addr}{lc:PX}{ts:List V3}{v:Value}{s:PS}(h:zD w g lp lc ts v s):∀ j,v.ownBlock=some j→(lc.b≤j∧j≠g)∧j<w.heap.size:=by
 obtain⟨cs,hr⟩:=h.row
 exact hr.own
theorem zD.slice{w:World}{g:Nat}{lp:Option Addr}{lc:PX}{ts:List V3}{v:Value}{s:PS}(h:zD w g lp lc ts v s):∃ a cap,v=.slice a s.ns.length cap:=by
 obtain⟨cs,hr⟩:=h.row
 exact hr.slice
theorem zD.poke{w:World}{g o:Nat}{lp:Option Addr}{lc:PX}{ts:List V3}{v x:Value}{s s':PS}(h:zD w g lp lc ts v s)(hb:(w.setCell ⟨g,o,none⟩ x).heap[g]? = some (.cells #[.slice lp ts.length lc.c,.int .i64 (s'.at':Int),v,.int .i64 (s'.dp:Int),.int .i64 s'.code,.int .i64 s'.place] 124 (0,0)))(hn:s'.ns=s.ns)(ha:s'.at'≤ts.length):zD (w.setCell ⟨g,o,none⟩ x) g lp lc ts v s':=by
 obtain⟨cs,hr⟩:=h.row
 have hk:PK g v v w (w.setCell ⟨g,o,none⟩ x):=(PK.refl g v w).set
 refine⟨hb,fun i hi=>?_,h.tb,h.bg,⟨cs,by rw[hn];exact hr.keep hk fun j hj=>Below.heap_setCell w ⟨g,o,none⟩ x j (by show j≠g;have:=hr.own j hj;omega)⟩,fun j hj=>⟨(h.ex j hj).1,Nat.lt_of_lt_of_le (h.ex j hj).2 hk.size⟩,ha⟩
 obtain⟨b,off,rfl,h0,h1,h2⟩:=h.toks i hi
 have hbg:b<g:=Nat.lt_of_lt_of_le (h.tb _ rfl) h.bg
 have e:∀ o',(w.setCell ⟨g,o,none⟩ x).cell? ⟨b,o',none⟩=w.cell? ⟨b,o',none⟩:=fun o'=>World.cell?_of_block (Below.heap_setCell w ⟨g,o,none⟩ x b (by show b≠g;omega))
 exact⟨b,off,rfl,by rw[e];exact h0,by rw[e];exact h1,by rw[e];exact h2⟩
theorem zD.setAt{w:World}{g:Nat}{lp:Option Addr}{lc:PX}{ts:List V3}{v:Value}{s:PS}(h:zD w g lp lc ts v s)(n:Nat)(hn:n≤ts.length):zD (w.setCell ⟨g,1,none⟩ (.int .i64 (n:Int))) g lp lc ts v { s with at':=n }:=h.poke (by have:=block_setCell (i:=1) h.blk (.int .i64 (n:Int));exact this) rfl hn
theorem zD.setDp{w:World}{g:Nat}{lp:Option Addr}{lc:PX}{ts:List V3}{v:Value}{s:PS}(h:zD w g lp lc ts v s)(n:Nat):zD (w.setCell ⟨g,3,none⟩ (.int .i64 (n:Int))) g lp lc ts v { s with dp:=n }:=h.poke (by have:=block_setCell (i:=3) h.blk (.int .i64 (n:Int));exact this) rfl h.hat
theorem zD.setCode{w:World}{g:Nat}{lp:Option Addr}{lc:PX}{ts:List V3}{v:Value}{s:PS}(h:zD w g lp lc ts v s)(c:Int):zD (w.setCell ⟨g,4,none⟩ (.int .i64 c)) g lp lc ts v { s with code:=c }:=h.poke (by have:=block_setCell (i:=4) h.blk (.int .i64 c);exact this) rfl h.hat
theorem zD.setPlace{w:World}{g:Nat}{lp:Option Addr}{lc:PX}{ts:List V3}{v:Value}{s:PS}(h:zD w g lp lc ts v s)(c:Int):zD (w.setCell ⟨g,5,none⟩ (.int .i64 c)) g lp lc ts v { s with place:=c }:=h.poke (by have:=block_setCell (i:=5) h.blk (.int .i64 c);exact this) rfl h.hat
theorem zD.off{w:World}{g:Nat}{lp:Option Addr}{lc:PX}{ts:List V3}{v:Value}{s:PS}(h:zD w g lp lc ts v s):∀ j,v.ownBlock=some j→¬lc.E j:=by
 obtain⟨cs,hr⟩:=h.row
 exact hr.off
theorem zD.move{w w':World}{g:Nat}{lp:Option Addr}{lc lc':PX}{ts:List V3}{v:Value}{s:PS}(h:zD w g lp lc ts v s)(hc:lc'.c=lc.c)(hbb:lc'.b=lc.b)(hs:w.heap.size≤w'.heap.size)(hk:∀ b,b<w.heap.size→¬lc.E b→w'.heap[b]? = w.heap[b]?)(hE:∀ b,b<w.heap.size→lc'.E b→lc.E b)(hx:∀ j,lc'.E j→g<j∧j<w'.heap.size):zD w' g lp lc' ts v s:=by
 obtain⟨cs,hr⟩:=h.row
 have hgl:=h.lt
 have hg:¬lc.E g:=fun e=>by have:=h.ex g e;omega
 have hl:∀ b,b<g→¬lc.E b:=fun b hb e=>by have:=h.ex b e;omega
 refine⟨by rw[hk g hgl hg,hc];exact h.blk,fun i hi=>?_,by rw[hbb];exact h.tb,by rw[hbb];exact h.bg,⟨cs,hr.map,by rw[hbb];exact jJ hr.row fun j hj=>hk j (hr.own j hj).2 (hr.off j hj),hr.ng,fun c hc=>⟨?_,?_⟩,fun j hj he=>hr.off j hj (hE j (hr.own j hj).2 he),hr.few⟩,hx,h.hat⟩
 ·obtain⟨b,off,rfl,h0,h1,h2⟩:=h.toks i hi
  have hbg:b<g:=Nat.lt_of_lt_of_le (h.tb _ rfl) h.bg
  have e:∀ o',w'.cell? ⟨b,o',none⟩=w.cell? ⟨b,o',none⟩:=fun o'=>World.cell?_of_block (hk b (by omega) (hl b hbg))
  exact⟨b,off,rfl,by rw[e];exact h0,by rw[e];exact h1,by rw[e];exact h2⟩
 ·obtain⟨a,cap,e,hh⟩:=(hr.each c hc).1
  refine⟨a,cap,e,fun i hi=>?_⟩
  obtain⟨b,off,ha,h1,h2,he,h3,h4⟩:=hh i hi
  exact⟨b,off,ha,h1,by omega,fun x=>he (hE b h2 x),h3,by rw[World.cell?_of_block (hk b h2 he)];exact h4⟩
 ·obtain⟨a,cap,e,hh⟩:=(hr.each c hc).2
  refine⟨a,cap,e,fun i hi=>?_⟩
  obtain⟨b,off,ha,h1,h2,he,h3,h4⟩:=hh i hi
  exact⟨b,off,ha,h1,by omega,fun x=>he (hE b h2 x),h3,by rw[World.cell?_of_block (hk b h2 he)];exact h4⟩
structure TS(ts:List V3):Prop where
 few:ts.length≤300
 each:∀ v∈ts,0≤v.n∧v.n≤1000000∧v.t.size≤1048576
end Go.Proofs.YtbgkfaclfnkloaaGreatDoor
