import Derived.Test.YtbgkfaclfnkloaaGreatDoorG33
import Derived.Test.YtbgkfaclfnkloaaGreatDoorG32
namespace Go.Proofs.YtbgkfaclfnkloaaGreatDoor
set_option linter.all false
set_option maxHeartbeats 4000000
set_option maxRecDepth 100000
section
open Go.RowKit Go.Joins
theorem qEb(td:List Nat)(q:Nat):(td++[q]).map Int.ofNat=td.map Int.ofNat++[(q:Int)]:=by simp
theorem qNw(B X sb:Nat)(pc:Option Addr)(n cc:Nat)(c:List LI)(vs:List Bool)(av:Value)(td:List Nat)(q:Nat)(x:LI)(w:World)(hW:zQ w B X sb pc n cc c vs av td)(hx:c[q]? = some x)(hv:vs.length=n)(hq:q<n)(hn:n≤400)(dO:x.h≤200)(yE:x.t≤20)(gG:vs[q]? = some true) :
  Calls Tryz.prog 41 #[.pointer (some ⟨X,0,none⟩),.int .i64 (q:Int),.agg #[.bool true,.int .i64 (x.h:Int),.int .i64 (x.t:Int)]] w fun e w'=>e=.returned (.tuple #[])∧Below w.heap.size w w':=by
 obtain⟨k0,k1,k2,k3⟩:=hW.cells
 have hqv:q<vs.length:=by omega
 obtain⟨s0,s1,s2⟩:=hW.st.cell hqv
 rw[dL hx gG]at s1
 rw[wN hx gG]at s2
 have hvq:vs[q]=true:=by rw[List.getElem?_eq_getElem hqv]at gG;exact Option.some.inj gG
 rw[hvq]at s0
 have mP:X<w.heap.size:=World.block_lt_of_cell? _ _ k0
 have hsl:sb<w.heap.size:=World.block_lt_of_cell? _ _ s0
 have hqn:((q:Int) == (n:Int))=false:=by simp;omega
 have hqi:(q:Int)<(n:Int):=by omega
 have hh:¬(200:Int)<(x.h:Int):=by omega
 have ht:¬(20:Int)<(x.t:Int):=by omega
 clear hW hx hv gG hvq dO yE hqv
 generalize x.h=H at *
 generalize x.t=T at *
 go_enter Tryz.func41,Tryz.ntmps41
 go_wp2
 go_region
 all_goals go_wp2
 all_goals go_end0
 all_goals exact⟨rfl,(by repeat (first | exact Below.refl _ _ | refine qG ?_ | refine qF ?_))⟩
theorem qIx(w:World){ops:Array Oper}{rest:List Oper}{o:Oper}{a:Act}{Q:Exit→Act→World→Prop}(gM:o.guard=none)(s x:Operand)
  (ho:o.op=.call { callee:=.builtin .append,args:=#[s,x],argTypes:=#[28,28] }) (base g:Nat) (v:Value) (zs:List Int) (c:Int) (hs:a.eval s=v)
  (zE:qR w base v zs) (hx:a.eval x=.slice (some ⟨g,0,none⟩) 1 1) (cM:w.cell? ⟨g,0,none⟩=some (.int .i64 c)) (uA:base≤w.heap.size) (hl:zs.length≤1000000000)
  (h:∀ v' w',qR w' base v' (zs++[c])→sZ v v' w w'→wpList Tryz.prog ops Q rest (a.put o.dst v') w'):wpList Tryz.prog ops Q (o::rest) a w:=by
 obtain⟨i0,hi,wW,wJ,gB⟩:=info_parts l6
 refine wpList_append_own_at _ gM s x 28 ho base 3 i0 (.int .i64 0) 1 8 Tryz.underlying28 hi wW wJ gB rfl (by decide) _ _ _ hs zE ⟨g,0,none⟩ 1 1 [.int .i64 c] hx rfl ?_ ?_ (by unfold maxLen;omega) (by omega) uA ?_
 ·intro j u' hj
  match j,hj with
  | 0,hj=>simp at hj;subst hj;simpa[Addr.add]using cM
  | j+1,hj=>simp at hj
 ·intro u' r5
  simp at r5
  subst r5
  rfl
 ·intro v' w' kO wY _ hat
  rw[show zs.map (Value.int .i64)++[.int .i64 c]=(zs++[c]).map (Value.int .i64) by simp,show zs.length+1=(zs++[c]).length by simp]at kO
  refine h v' w' kO ⟨wY,fun j hj=>?_⟩
  rcases hat with e | e
  ·exact .inl (e▸hj)
  ·rw[hj]at e
   exact .inr (by injection e with e;omega)
theorem qR.other{w:World}{base b o:Nat}{v x:Value}{zs:List Int}(h:qR w base v zs)(hb:∀ j,v.ownBlock=some j→j≠b):qR (w.setCell ⟨b,o,none⟩ x) base v zs:=by
 refine⟨h.1,?_⟩
 rcases h.2 with h | ⟨g,cap,cur,e,hg,hgg,r⟩
 ·exact .inl h
 ·refine .inr ⟨g,cap,cur,e,hg,?_,r⟩
  rw[Below.heap_setCell _ _ _ _ (by simpa using hb g (by rw[e];rfl))];exact hgg
theorem zQ.visit{w:World}{B X sb:Nat}{pc:Option Addr}{n cc:Nat}{c:List LI}{vs:List Bool}{av:Value}{td:List Nat}(h:zQ w B X sb pc n cc c vs av td){q:Nat}{x:LI}(hq:q<vs.length)(hx:c[q]? = some x) :
  zQ (((w.setCell ⟨sb,q*3,none⟩ (.bool true)).setCell ⟨sb,q*3+1,none⟩ (.int .i64 (x.h:Int))).setCell ⟨sb,q*3+2,none⟩ (.int .i64 (x.t:Int))) B X sb pc n cc c (vs.set q true) av td:=by
 refine⟨?_,h.st.set hq hx,((h.ah.other fun j hj=>(h.nx j hj).2).other fun j hj=>(h.nx j hj).2).other fun j hj=>(h.nx j hj).2,h.ne,h.nx,h.bx,h.bs⟩
 rw[Below.heap_setCell _ _ _ _ (by simpa using h.ne),Below.heap_setCell _ _ _ _ (by simpa using h.ne),Below.heap_setCell _ _ _ _ (by simpa using h.ne)]
 exact h.box
theorem zQ.put{w w':World}{B X sb:Nat}{pc:Option Addr}{n cc:Nat}{c:List LI}{vs:List Bool}{av cI:Value}{td td':List Nat}(h:zQ w B X sb pc n cc c vs av td)(hg:sZ av cI w w')(hI:qR w' B cI (td'.map Int.ofNat)) :
  zQ (w'.setCell ⟨X,2,none⟩ cI) B X sb pc n cc c vs cI td':=by
 have mP:X<w.heap.size:=(Array.getElem?_eq_some_iff.1 h.box).1
 have hbx:w'.heap[X]? = w.heap[X]?:=hg.block mP fun j hj=>(h.nx j hj).1
 have hbs:w'.heap[sb]? = w.heap[sb]?:=hg.block h.st.lt fun j hj=>(h.nx j hj).2
 have uL:∀ j,cI.ownBlock=some j→j≠X∧j≠sb:=fun j hj=>by
  rcases hg.lies j hj with e | e
  ·exact h.nx j e
  ·have:=h.st.lt
   omega
 refine⟨?_,(h.st.same hbs).same (Below.heap_setCell _ _ _ _ (by simpa using h.ne.symm)),hI.other fun j hj=>(uL j hj).1,h.ne,uL,h.bx,h.bs⟩
 exact block_setCell (by rw[hbx];exact h.box) _
def qBJ(X sb:Nat)(av:Value)(w w':World):Prop:=∀ g,g<w.heap.size→g≠X→g≠sb→(∀ j,av.ownBlock=some j→j≠g)→w'.heap[g]? = w.heap[g]?
theorem qBJ.of_below{X sb:Nat}{av:Value}{w w':World}(h:Below w.heap.size w w'):qBJ X sb av w w':=fun g hg _ _ _=>h.block g hg
theorem qBJ.cell{X sb:Nat}{av v:Value}{w w':World}{b o:Nat}(h:qBJ X sb av w w')(hc:w.cell? ⟨b,o,none⟩=some v)(h1:b≠X)(h2:b≠sb)(h3:∀ j,av.ownBlock=some j→j≠b):w'.cell? ⟨b,o,none⟩=some v:=by
 rw[World.cell?_of_block (w:=w) (h b (World.block_lt_of_cell? _ _ hc) h1 h2 h3)];exact hc
theorem dM(U:World)(o:Obj){g:Nat}(h:g<U.heap.size):(U.alloc o).heap[g]? = U.heap[g]?:=(qD U o).block g h
theorem qG5(B X sb:Nat)(pc:Option Addr)(n cc:Nat)(c:List LI)(vs:List Bool)(av:Value)(td:List Nat)(q:Nat)(x:LI)(w:World)(hW:zQ w B X sb pc n cc c vs av td)(hx:c[q]? = some x)(hv:vs.length=n)(hq:q<n)(hn:n≤400)(htd:td.length≤1000)(dO:x.h≤200)(yE:x.t≤20)(gG:vs[q]? = some false) :
  Calls Tryz.prog 41 #[.pointer (some ⟨X,0,none⟩),.int .i64 (q:Int),.agg #[.bool true,.int .i64 (x.h:Int),.int .i64 (x.t:Int)]] w fun e w'=>e=.returned (.tuple #[])∧Below B w w'∧qBJ X sb av w w'∧∃ cI,zQ w' B X sb pc n cc c (vs.set q true) cI (td++[q]):=by
 obtain⟨k0,k1,k2,k3⟩:=hW.cells
 have hqv:q<vs.length:=by omega
 obtain⟨s0,s1,s2⟩:=hW.st.cell hqv
 have hvq:vs[q]=false:=by rw[List.getElem?_eq_getElem hqv]at gG;exact Option.some.inj gG
 rw[hvq]at s0
 have z0:=hW.st.free (q*3)
 have z1:=hW.st.free (q*3+1)
 have z2:=hW.st.free (q*3+2)
 have y2:=hW.free 2
 have mP:X<w.heap.size:=World.block_lt_of_cell? _ _ k0
 have hsl:sb<w.heap.size:=World.block_lt_of_cell? _ _ s0
 have hBX:=hW.bx
 have hBs:=hW.bs
 have hXs:=hW.ne
 have hqn:((q:Int) == (n:Int))=false:=by simp;omega
 have hqi:(q:Int)<(n:Int):=by omega
 have hh:¬(200:Int)<(x.h:Int):=by omega
 have ht:¬(20:Int)<(x.t:Int):=by omega
 have HV:=qC (hW.visit hqv hx)
 have hB1:=qC (show Below B w (((w.setCell ⟨sb,q*3,none⟩ (.bool true)).setCell ⟨sb,q*3+1,none⟩ (.int .i64 (x.h:Int))).setCell ⟨sb,q*3+2,none⟩ (.int .i64 (x.t:Int))) from(((Below.refl _ _).setCell hBs _).setCell hBs _).setCell hBs _)
 clear hW hx hv gG hvq dO yE hqv
 generalize x.h=H at *
 generalize x.t=T at *
 obtain⟨U,hU⟩:∃ U,(((w.setCell ⟨sb,q*3,none⟩ (.bool true)).setCell ⟨sb,q*3+1,none⟩ (.int .i64 (H:Int))).setCell ⟨sb,q*3+2,none⟩ (.int .i64 (T:Int)))=U:=⟨_,rfl⟩
 have hUz:U.heap.size=w.heap.size:=by rw[←hU];simp
 rw[hU]at HV hB1
 have uB:=qC (show ∀ g,g<w.heap.size→g≠sb→U.heap[g]? = w.heap[g]? from fun g _ hg=>by rw[←hU,Below.heap_setCell _ _ _ _ (by simpa using hg),Below.heap_setCell _ _ _ _ (by simpa using hg),Below.heap_setCell _ _ _ _ (by simpa using hg)])
 have HU:=qC hU
 clear hU
 go_enter Tryz.func41,Tryz.ntmps41
 go_wp2
 go_region
 rw[qA HU]
 have hWV:=(qA HV).later (qF (qD U (.cells #[.bool true,.int .i64 (H:Int),.int .i64 (T:Int)] 59)))
 have hBV:Below B w (U.alloc (.cells #[.bool true,.int .i64 (H:Int),.int .i64 (T:Int)] 59)).drew:=((qA hB1).alloc (by omega) _).drew
 have hVz:w.heap.size≤(U.alloc (.cells #[.bool true,.int .i64 (H:Int),.int .i64 (T:Int)] 59)).drew.heap.size:=hBV.size
 have hKV:Hid (∀ g,g<w.heap.size→g≠sb→(U.alloc (.cells #[.bool true,.int .i64 (H:Int),.int .i64 (T:Int)] 59)).drew.heap[g]? = w.heap[g]?):=qC fun g hg h=>by
  show(U.alloc _).heap[g]? = _
  rw[dM U _ (by omega)]
  exact qA uB g hg h
 generalize (U.alloc (.cells #[.bool true,.int .i64 (H:Int),.int .i64 (T:Int)] 59)).drew=V at hWV hBV hVz hKV ⊢
 clear k0 k1 k2 k3 s0 s1 s2 z0 z1 z2 y2 HU HV hB1
 obtain⟨k0,k1,k2,k3⟩:=hWV.cells
 have y2:=hWV.free 2
 have HWV:=qC hWV
 have HBV:=qC hBV
 have hXV:X<V.heap.size:=by omega
 clear hWV hBV
 go_wp2_with (at_builtin;refine qIx _ rfl _ _ rfl B V.heap.size _ (td.map Int.ofNat) (q:Int) rfl ((qA HWV).ah.alloc _) rfl (by simp) ?c5 ?c3 ?c6)
 case c5=>simp;omega
 case c3=>simp;omega
 case c6=>
  intro v2 w2 hI hg2
  have hg:=hg2
  obtain⟨a2,c2,e2⟩:=hI.slice
  generalize (td.map Int.ofNat++[(q:Int)]).length=l2 at e2
  subst e2
  have hWA:=(qA HWV).later (qD V (.cells #[.int .i64 (q:Int)] 3))
  have cB:∀ j,av.ownBlock=some j→j≠X:=fun j hj=>((qA HWV).nx j hj).1
  have zE:∀ j,av.ownBlock=some j→B≤j:=fun j hj=>((qA HWV).ah.own_lt j hj).1
  have u2:=hg.cell (cell_later (qD V (.cells #[.int .i64 (q:Int)] 3)) k2) cB
  have uf:w2.frozen? ⟨X,2,none⟩=false:=by
   rw[World.frozen?_of_block (w:=V.alloc (.cells #[.int .i64 (q:Int)] 3)) (hg.block (by simp;omega) cB)]
   exact hWA.free 2
  have hP:=qC (hWA.put (td':=td++[q]) hg (by rw[qEb];exact hI))
  have hKX:Hid (∀ x,qBJ X sb av w (w2.setCell ⟨X,2,none⟩ x)):=qC fun x g hg h1 h2 h3=>by
   rw[Below.heap_setCell _ _ _ _ (by simpa using h1),hg2.block (by simp;omega) h3,dM V _ (by omega)]
   exact qA hKV g hg h2
  have yX:=qC (((qA HBV).alloc (by omega) (.cells #[.int .i64 (q:Int)] 3)).trans (hg.below (by simp;omega) zE))
  clear hI hg hg2 hWA cB zE k0 k1 k2 k3 y2
  go_wp2
  go_end0
  exact⟨rfl,(qA yX).setCell hBX _,qA hKX _,_,qA hP⟩
def dN(vs:List Bool)(td:List Nat):Nat:=2*iB vs+td.length
theorem mA(B X sb:Nat)(pc:Option Addr)(n cc:Nat)(S:Nat)(Q:List Nat)(c:List LI)(vs:List Bool)(av:Value)(td ds:List Nat)(k q h t:Nat)(x:LI)(w:World)(hG:uS S Q c)(hc:c.length=n)(hn:n≤400)(hW:zQ w B X sb pc n cc c vs av td)(hS:gE c vs td k ds)(hx:c[k]? = some x)(hy:(q,h,t)∈yR x.i k x.h x.t)(hm:dN vs td≤1000) :
  Calls Tryz.prog 41 #[.pointer (some ⟨X,0,none⟩),.int .i64 (q:Int),.agg #[.bool true,.int .i64 (h:Int),.int .i64 (t:Int)]] w fun e w'=>e=.returned (.tuple #[])∧Below B w w'∧qBJ X sb av w w'∧∃ xQ cI td',zQ w' B X sb pc n cc c xQ cI td'∧gE c xQ td' k (q::ds)∧dN xQ td'≤dN vs td:=by
 obtain⟨kH,x',hx',rfl,rfl⟩:=eO hG hx hy
 have hq:q<c.length:=qNi hG kH
 have hv:vs.length=n:=by rw[hS.len,hc]
 obtain⟨_,_,dO,yE,_⟩:=hG.ok q x' hx'
 have rV:B≤w.heap.size:=Nat.le_trans hW.bx (Nat.le_of_lt (Array.getElem?_eq_some_iff.1 hW.box).1)
 have hqv:q<vs.length:=by omega
 cases hb:vs[q]
 ·have gG:vs[q]? = some false:=by rw[List.getElem?_eq_getElem hqv,hb]
  refine(qG5 B X sb pc n cc c vs av td q x' w hW hx' hv (by omega) hn (by unfold dN at hm;omega) dO yE gG).mono ?_
  rintro e w' ⟨rfl,jD,kQ,cI,hW'⟩
  refine⟨rfl,jD,kQ,_,cI,_,hW',hS.new kH hqv,?_⟩
  have:=eR gG
  unfold dN
  rw[List.length_append]
  simp
  omega
 ·have gG:vs[q]? = some true:=by rw[List.getElem?_eq_getElem hqv,hb]
  refine(qNw B X sb pc n cc c vs av td q x' w hW hx' hv (by omega) hn dO yE gG).mono ?_
  rintro e w' ⟨rfl,jD⟩
  exact⟨rfl,jD.mono rV,.of_below jD,vs,av,td,hW.later jD,hS.old gG,Nat.le_refl _⟩
structure xN(w:World)(bi bs:Nat)(i:IR)(h t:Nat):Prop where
 i0:w.cell? ⟨bi,0,none⟩=some (.int .i64 i.op)
 i1:w.cell? ⟨bi,1,none⟩=some (.int .i64 i.n)
 i2:w.cell? ⟨bi,2,none⟩=some (.int .i64 i.m)
 i3:w.cell? ⟨bi,3,none⟩=some (.string i.t)
 i4:w.cell? ⟨bi,4,none⟩=some (.int .i64 i.vk)
 i5:w.cell? ⟨bi,5,none⟩=some (.int .i64 i.vn)
 i6:w.cell? ⟨bi,6,none⟩=some (.string i.vt)
 s0:w.cell? ⟨bs,0,none⟩=some (.bool true)
 s1:w.cell? ⟨bs,1,none⟩=some (.int .i64 (h:Int))
 s2:w.cell? ⟨bs,2,none⟩=some (.int .i64 (t:Int))
theorem xN.later{w w':World}{bi bs:Nat}{i:IR}{h t:Nat}(H:xN w bi bs i h t)(hb:Below w.heap.size w w'):xN w' bi bs i h t:=
 ⟨cell_later hb H.i0,cell_later hb H.i1,cell_later hb H.i2,cell_later hb H.i3,cell_later hb H.i4,cell_later hb H.i5,cell_later hb H.i6,cell_later hb H.s0,cell_later hb H.s1,cell_later hb H.s2⟩
def cG(B X sb:Nat)(pc:Option Addr)(n cc:Nat)(c:List LI)(vs:List Bool)(td:List Nat)(w:World)(e:Ending)(w':World):Prop:=
 e=.returned (.tuple #[])∧Below B w w'∧∃ xQ cI td',zQ w' B X sb pc n cc c xQ cI td'∧nN c xQ td'∧dN xQ td'≤dN vs td
theorem qIY(B X sb:Nat)(b off:Nat)(n cc:Nat)(S:Nat)(Q:List Nat)(c:List LI)(vs:List Bool)(av:Value)(td:List Nat)(k h t:Nat)(i:IR)(w:World)(hG:uS S Q c)(hc:c.length=n)(hn:n≤400)(hW:zQ w B X sb (some ⟨b,off,none⟩) n cc c vs av td)(hS:gE c vs td k [])(hx:c[k]? = some ⟨i,h,t⟩)(hm:dN vs td≤1000)
  (ho:i.op=1∨i.op=2∨i.op=3∨i.op=4∨i.op=5∨i.op=10∨i.op=11∨i.op=16)
  (c0:w.cell? ⟨b,off+k*7,none⟩=some (.int .i64 i.op)) (c1:w.cell? ⟨b,off+k*7+1,none⟩=some (.int .i64 i.n)) (c2:w.cell? ⟨b,off+k*7+2,none⟩=some (.int .i64 i.m)) (c3:w.cell? ⟨b,off+k*7+3,none⟩=some (.string i.t)) (c4:w.cell? ⟨b,off+k*7+4,none⟩=some (.int .i64 i.vk)) (c5:w.cell? ⟨b,off+k*7+5,none⟩=some (.int .i64 i.vn)) (c6:w.cell? ⟨b,off+k*7+6,none⟩=some (.string i.vt)) :
  Calls Tryz.prog 42 #[.pointer (some ⟨X,0,none⟩),.int .i64 (k:Int)] w (cG B X sb (some ⟨b,off,none⟩) n cc c vs td w):=by
 obtain⟨cL,_,dO,yE,hI,_⟩:=hG.ok k _ hx
 dsimp only at cL dO yE hI
 have wC:k<n:=by rw[←hc];exact(List.getElem?_eq_some_iff.1 hx).1
 have sJ:k<vs.length:=by rw[hS.len,hc];exact wC
 obtain⟨k0,k1,k2,k3⟩:=hW.cells
 obtain⟨s0,s1,s2⟩:=hW.st.cell sJ
 have nV:vs[k]=true:=by have:=hS.k';rw[List.getElem?_eq_getElem sJ]at this;exact Option.some.inj this
 rw[nV]at s0
 rw[dL hx hS.k']at s1
 rw[wN hx hS.k']at s2
 dsimp only at s1 s2
 have mP:X<w.heap.size:=World.block_lt_of_cell? _ _ k0
 have hsl:sb<w.heap.size:=World.block_lt_of_cell? _ _ s0
 have nT:b<w.heap.size:=World.block_lt_of_cell? _ _ c0
 have rV:B≤w.heap.size:=Nat.le_trans hW.bx (Nat.le_of_lt mP)
 have aX:(k:Int)<(n:Int):=by omega
 have kH:yR i k h t=[(k+1,h-mM i+sD i,t)]:=by
  unfold yR
  rcases ho with e | e | e | e | e | e | e | e <;> rw[e] <;> simp
 have HE:=qC fun w=>uD i w (s7 hI).1 (s7 hI).2 (fun e=>qNV hI e) (fun e=>qNQ hI e)
 have hmk:sD i≤1:=by unfold sD;split <;> omega
 have HC:=qC fun (W:World) (hW:zQ W B X sb (some ⟨b,off,none⟩) n cc c vs av td)=>mA B X sb (some ⟨b,off,none⟩) n cc S Q c vs av td [] k (k+1) (h-mM i+sD i) t ⟨i,h,t⟩ W hG hc hn hW hS hx (by rw[kH];simp) hm
 have HW:=qC hW
 have HSL:Hid (∀ xQ td',gE c xQ td' k [k+1]→nN c xQ td'):=qC fun xQ td' hs=>hs.left fun q hq=>by
  rw[pO hx,kH]at hq
  simpa using hq
 have hJ:xL i.op=false:=by unfold xL;rcases ho with e | e | e | e | e | e | e | e <;> rw[e] <;> rfl
 have aZ:=qC fun w=>uI i.op w (s7 hI).1 (s7 hI).2
 rw[hJ]at aZ
 obtain⟨op,rI,iM,zO,zM,zP,zL⟩:=i
 dsimp only at *
 have e1:IntKind.i64.wrap ((sD ⟨op,rI,iM,zO,zM,zP,zL⟩:Int)-(mM ⟨op,rI,iM,zO,zM,zP,zL⟩:Int))=(sD ⟨op,rI,iM,zO,zM,zP,zL⟩:Int)-(mM ⟨op,rI,iM,zO,zM,zP,zL⟩:Int):=by rw[IntKind.wrap_i64];omega
 have e2:IntKind.i64.wrap ((h:Int)+((sD ⟨op,rI,iM,zO,zM,zP,zL⟩:Int)-(mM ⟨op,rI,iM,zO,zM,zP,zL⟩:Int)))=((h-mM ⟨op,rI,iM,zO,zM,zP,zL⟩+sD ⟨op,rI,iM,zO,zM,zP,zL⟩:Nat):Int):=by rw[IntKind.wrap_i64];omega
 have jF:¬(h:Int)<(mM ⟨op,rI,iM,zO,zM,zP,zL⟩:Int):=by omega
 have e3:IntKind.i64.wrap ((k:Int)+1)=((k+1:Nat):Int):=by rw[IntKind.wrap_i64];omega
 clear hW hG hS hx hI hJ kH cL nV sJ hmk
 generalize h-mM ⟨op,rI,iM,zO,zM,zP,zL⟩+sD ⟨op,rI,iM,zO,zM,zP,zL⟩=H2 at *
 generalize mM ⟨op,rI,iM,zO,zM,zP,zL⟩=TK at *
 generalize sD ⟨op,rI,iM,zO,zM,zP,zL⟩=MK at *
 go_enter Tryz.func42,Tryz.ntmps42
 have o6:(op == 6)=false:=by simp;omega
 have o8:(op == 8)=false:=by simp;omega
 have o9:(op == 9)=false:=by simp;omega
 have o12:(op == 12)=false:=by simp;omega
 have o13:(op == 13)=false:=by simp;omega
 have o14:(op == 14)=false:=by simp;omega
 have o15:(op == 15)=false:=by simp;omega
 have o6':(op != 6)=true:=by simp;omega
 clear ho
 go_wp2
 go_region
 ·have yH:xN ((w.alloc (.cells #[.int .i64 op,.int .i64 rI,.int .i64 iM,.string zO,.int .i64 zM,.int .i64 zP,.string zL] 41)).alloc (.cells #[.bool true,.int .i64 (h:Int),.int .i64 (t:Int)] 59)).drew (w.heap.size) (w.heap.size+1) ⟨op,rI,iM,zO,zM,zP,zL⟩ h t:=by constructor <;> simp
  have gN:Below w.heap.size w ((w.alloc (.cells #[.int .i64 op,.int .i64 rI,.int .i64 iM,.string zO,.int .i64 zM,.int .i64 zP,.string zL] 41)).alloc (.cells #[.bool true,.int .i64 (h:Int),.int .i64 (t:Int)] 59)).drew:=qF (qG (qD _ _))
  have wW:w.heap.size+1<((w.alloc (.cells #[.int .i64 op,.int .i64 rI,.int .i64 iM,.string zO,.int .i64 zM,.int .i64 zP,.string zL] 41)).alloc (.cells #[.bool true,.int .i64 (h:Int),.int .i64 (t:Int)] 59)).drew.heap.size:=by simp
  generalize ((w.alloc (.cells #[.int .i64 op,.int .i64 rI,.int .i64 iM,.string zO,.int .i64 zM,.int .i64 zP,.string zL] 41)).alloc (.cells #[.bool true,.int .i64 (h:Int),.int .i64 (t:Int)] 59)).drew=W0 at yH gN wW ⊢
  have dR:=qC yH
  have dP:=qC gN
  obtain⟨i0,i1,i2,i3,i4,i5,i6,j0,j1,j2⟩:=yH
  dsimp only at i0 i1 i2 i3 i4 i5 i6
  clear gN c0 c1 c2 c3 c4 c5 c6 k0 k1 k2 k3 s0 s1 s2
  go_wp2_with fail
  refine(qA HE _).mono ?_
  rintro e w1 ⟨rfl,jD⟩
  clear i0 i1 i2 i3 i4 i5 i6 j0 j1 j2
  have wE:=qC ((qA dR).later jD)
  obtain⟨i0,i1,i2,i3,i4,i5,i6,j0,j1,j2⟩:=qA wE
  dsimp only at i0 i1 i2 i3 i4 i5 i6
  have y8:=qC (qE (qA dP) jD)
  have yF:=qC ((qA HW).later (qA y8))
  have wJ:w.heap.size+1<w1.heap.size:=by have:=jD.size;omega
  have a0:∀ o1 o2,((w1.alloc o1).alloc o2).cell? ⟨w.heap.size,0,none⟩=some (.int .i64 op):=fun o1 o2=>cell_later (qG (qD _ _)) i0
  have a1:∀ o1 o2,((w1.alloc o1).alloc o2).cell? ⟨w.heap.size,1,none⟩=some (.int .i64 rI):=fun o1 o2=>cell_later (qG (qD _ _)) i1
  have d0:∀ o1 o2,((w1.alloc o1).alloc o2).cell? ⟨w.heap.size+1,0,none⟩=some (.bool true):=fun o1 o2=>cell_later (qG (qD _ _)) j0
  have d1:∀ o1 o2,((w1.alloc o1).alloc o2).cell? ⟨w.heap.size+1,1,none⟩=some (.int .i64 (h:Int)):=fun o1 o2=>cell_later (qG (qD _ _)) j1
  have d2:∀ o1 o2,((w1.alloc o1).alloc o2).cell? ⟨w.heap.size+1,2,none⟩=some (.int .i64 (t:Int)):=fun o1 o2=>cell_later (qG (qD _ _)) j2
  clear jD dR
  go_wp2_with fail
  refine(qA aZ _).mono ?_
  rintro e w' ⟨rfl,rfl⟩
  go_wp2_with fail
  refine(qA HC _ ((qA yF).later (qG (qD _ _)))).mono ?_
  rintro e w2 ⟨rfl,qY,_,xQ,cI,td',s9,vJ,aK⟩
  have tN:=qC s9
  have mO:=qC (qA HSL _ _ vJ)
  have uF:=qC ((((qA y8).mono rV).trans ((qG (qD w1 _)).mono (by omega))).trans qY)
  clear s9 vJ qY
  go_wp2
  go_end0
  exact⟨rfl,qA uF,xQ,cI,td',qA tN,qA mO,aK⟩
 ·have yH:xN ((w.alloc (.cells #[.bool true,.int .i64 (h:Int),.int .i64 (t:Int)] 59)).alloc (.cells #[.int .i64 op,.int .i64 rI,.int .i64 iM,.string zO,.int .i64 zM,.int .i64 zP,.string zL] 41)).drew (w.heap.size+1) (w.heap.size) ⟨op,rI,iM,zO,zM,zP,zL⟩ h t:=by constructor <;> simp
  have gN:Below w.heap.size w ((w.alloc (.cells #[.bool true,.int .i64 (h:Int),.int .i64 (t:Int)] 59)).alloc (.cells #[.int .i64 op,.int .i64 rI,.int .i64 iM,.string zO,.int .i64 zM,.int .i64 zP,.string zL] 41)).drew:=qF (qG (qD _ _))
  have wW:w.heap.size+1<((w.alloc (.cells #[.bool true,.int .i64 (h:Int),.int .i64 (t:Int)] 59)).alloc (.cells #[.int .i64 op,.int .i64 rI,.int .i64 iM,.string zO,.int .i64 zM,.int .i64 zP,.string zL] 41)).drew.heap.size:=by simp
  generalize ((w.alloc (.cells #[.bool true,.int .i64 (h:Int),.int .i64 (t:Int)] 59)).alloc (.cells #[.int .i64 op,.int .i64 rI,.int .i64 iM,.string zO,.int .i64 zM,.int .i64 zP,.string zL] 41)).drew=W0 at yH gN wW ⊢
  have dR:=qC yH
  have dP:=qC gN
  obtain⟨i0,i1,i2,i3,i4,i5,i6,j0,j1,j2⟩:=yH
  dsimp only at i0 i1 i2 i3 i4 i5 i6
  clear gN c0 c1 c2 c3 c4 c5 c6 k0 k1 k2 k3 s0 s1 s2
  go_wp2_with fail
  refine(qA HE _).mono ?_
  rintro e w1 ⟨rfl,jD⟩
  clear i0 i1 i2 i3 i4 i5 i6 j0 j1 j2
  have wE:=qC ((qA dR).later jD)
  obtain⟨i0,i1,i2,i3,i4,i5,i6,j0,j1,j2⟩:=qA wE
  dsimp only at i0 i1 i2 i3 i4 i5 i6
  have y8:=qC (qE (qA dP) jD)
  have yF:=qC ((qA HW).later (qA y8))
  have wJ:w.heap.size+1<w1.heap.size:=by have:=jD.size;omega
  have a0:∀ o1 o2,((w1.alloc o1).alloc o2).cell? ⟨w.heap.size+1,0,none⟩=some (.int .i64 op):=fun o1 o2=>cell_later (qG (qD _ _)) i0
  have a1:∀ o1 o2,((w1.alloc o1).alloc o2).cell? ⟨w.heap.size+1,1,none⟩=some (.int .i64 rI):=fun o1 o2=>cell_later (qG (qD _ _)) i1
  have d0:∀ o1 o2,((w1.alloc o1).alloc o2).cell? ⟨w.heap.size,0,none⟩=some (.bool true):=fun o1 o2=>cell_later (qG (qD _ _)) j0
  have d1:∀ o1 o2,((w1.alloc o1).alloc o2).cell? ⟨w.heap.size,1,none⟩=some (.int .i64 (h:Int)):=fun o1 o2=>cell_later (qG (qD _ _)) j1
  have d2:∀ o1 o2,((w1.alloc o1).alloc o2).cell? ⟨w.heap.size,2,none⟩=some (.int .i64 (t:Int)):=fun o1 o2=>cell_later (qG (qD _ _)) j2
  clear jD dR
  go_wp2_with fail
  refine(qA aZ _).mono ?_
  rintro e w' ⟨rfl,rfl⟩
  go_wp2_with fail
  refine(qA HC _ ((qA yF).later (qG (qD _ _)))).mono ?_
  rintro e w2 ⟨rfl,qY,_,xQ,cI,td',s9,vJ,aK⟩
  have tN:=qC s9
  have mO:=qC (qA HSL _ _ vJ)
  have uF:=qC ((((qA y8).mono rV).trans ((qG (qD w1 _)).mono (by omega))).trans qY)
  clear s9 vJ qY
  go_wp2
  go_end0
  exact⟨rfl,qA uF,xQ,cI,td',qA tN,qA mO,aK⟩
theorem qNg(B X sb:Nat)(b off:Nat)(n cc:Nat)(S:Nat)(Q:List Nat)(c:List LI)(vs:List Bool)(av:Value)(td:List Nat)(k h t qn:Nat)(iM:Int)(zO:ByteArray)(zM zP:Int)(zL:ByteArray)(w:World)(hG:uS S Q c)(hc:c.length=n)(hn:n≤400)(hW:zQ w B X sb (some ⟨b,off,none⟩) n cc c vs av td)(hS:gE c vs td k [])(hx:c[k]? = some ⟨⟨12,(qn:Int),iM,zO,zM,zP,zL⟩,h,t⟩)(hm:dN vs td≤1000)
  (c0:w.cell? ⟨b,off+k*7,none⟩=some (.int .i64 12)) (c1:w.cell? ⟨b,off+k*7+1,none⟩=some (.int .i64 (qn:Int))) (c2:w.cell? ⟨b,off+k*7+2,none⟩=some (.int .i64 iM)) (c3:w.cell? ⟨b,off+k*7+3,none⟩=some (.string zO)) (c4:w.cell? ⟨b,off+k*7+4,none⟩=some (.int .i64 zM)) (c5:w.cell? ⟨b,off+k*7+5,none⟩=some (.int .i64 zP)) (c6:w.cell? ⟨b,off+k*7+6,none⟩=some (.string zL)) :
  Calls Tryz.prog 42 #[.pointer (some ⟨X,0,none⟩),.int .i64 (k:Int)] w (cG B X sb (some ⟨b,off,none⟩) n cc c vs td w):=by
 obtain⟨cL,hdn,dO,yE,hI,_⟩:=hG.ok k _ hx
 dsimp only at cL hdn dO yE hI
 have wC:k<n:=by rw[←hc];exact(List.getElem?_eq_some_iff.1 hx).1
 have sJ:k<vs.length:=by rw[hS.len,hc];exact wC
 obtain⟨k0,k1,k2,k3⟩:=hW.cells
 obtain⟨s0,s1,s2⟩:=hW.st.cell sJ
 have nV:vs[k]=true:=by have:=hS.k';rw[List.getElem?_eq_getElem sJ]at this;exact Option.some.inj this
 rw[nV]at s0
 rw[dL hx hS.k']at s1
 rw[wN hx hS.k']at s2
 dsimp only at s1 s2
 have mP:X<w.heap.size:=World.block_lt_of_cell? _ _ k0
 have hsl:sb<w.heap.size:=World.block_lt_of_cell? _ _ s0
 have nT:b<w.heap.size:=World.block_lt_of_cell? _ _ c0
 have rV:B≤w.heap.size:=Nat.le_trans hW.bx (Nat.le_of_lt mP)
 have aX:(k:Int)<(n:Int):=by omega
 have bG:=qC (show ∀ j,av.ownBlock=some j→j<w.heap.size from fun j hj=>(hW.ah.own_lt j hj).2)
 have htv:mM ⟨12,(qn:Int),iM,zO,zM,zP,zL⟩=1:=rfl
 have hmv:sD ⟨12,(qn:Int),iM,zO,zM,zP,zL⟩=0:=rfl
 rw[htv]at cL
 have kH:yR ⟨12,(qn:Int),iM,zO,zM,zP,zL⟩ k h t=[]:=by simp[yR]
 have HE:=qC fun w=>uD ⟨12,(qn:Int),iM,zO,zM,zP,zL⟩ w (by simp) (by simp) (by simp) (by simp)
 rw[htv,hmv]at HE
 have HW:=qC hW
 have HSL:Hid (∀ xQ td',gE c xQ td' k []→nN c xQ td'):=qC fun xQ td' hs=>hs.left fun q hq=>by
  rw[pO hx,kH]at hq
  simp at hq
 have aZ:=qC fun w=>uI 12 w (by omega) (by omega)
 rw[show xL 12=false from rfl]at aZ
 obtain⟨H2,hH2⟩:∃ H2,h-1=H2:=⟨_,rfl⟩
 have e1:IntKind.i64.wrap ((0:Int)-(1:Int))=(0:Int)-(1:Int):=by rw[IntKind.wrap_i64];omega
 have e2:IntKind.i64.wrap ((h:Int)+((0:Int)-(1:Int)))=((H2:Nat):Int):=by rw[IntKind.wrap_i64];omega
 have e6:(h:Int) + -1=(H2:Int):=by omega
 have e7:(h:Int)-1=(H2:Int):=by omega
 clear hH2
 have jF:¬(h:Int)<(1:Int):=by omega
 have e3:IntKind.i64.wrap ((k:Int)+1)=((k+1:Nat):Int):=by rw[IntKind.wrap_i64];omega
 have HSP:=qC hS
 clear hW hG hS hx hI kH nV sJ
 go_enter Tryz.func42,Tryz.ntmps42
 go_wp2
 go_region
 ·have yH:xN ((w.alloc (.cells #[.int .i64 12,.int .i64 (qn:Int),.int .i64 iM,.string zO,.int .i64 zM,.int .i64 zP,.string zL] 41)).alloc (.cells #[.bool true,.int .i64 (h:Int),.int .i64 (t:Int)] 59)).drew (w.heap.size) (w.heap.size+1) ⟨12,(qn:Int),iM,zO,zM,zP,zL⟩ h t:=by constructor <;> simp
  have gN:Below w.heap.size w ((w.alloc (.cells #[.int .i64 12,.int .i64 (qn:Int),.int .i64 iM,.string zO,.int .i64 zM,.int .i64 zP,.string zL] 41)).alloc (.cells #[.bool true,.int .i64 (h:Int),.int .i64 (t:Int)] 59)).drew:=qF (qG (qD _ _))
  have wW:w.heap.size+1<((w.alloc (.cells #[.int .i64 12,.int .i64 (qn:Int),.int .i64 iM,.string zO,.int .i64 zM,.int .i64 zP,.string zL] 41)).alloc (.cells #[.bool true,.int .i64 (h:Int),.int .i64 (t:Int)] 59)).drew.heap.size:=by simp
  generalize ((w.alloc (.cells #[.int .i64 12,.int .i64 (qn:Int),.int .i64 iM,.string zO,.int .i64 zM,.int .i64 zP,.string zL] 41)).alloc (.cells #[.bool true,.int .i64 (h:Int),.int .i64 (t:Int)] 59)).drew=W0 at yH gN wW ⊢
  have dR:=qC yH
  have dP:=qC gN
  obtain⟨i0,i1,i2,i3,i4,i5,i6,j0,j1,j2⟩:=yH
  dsimp only at i0 i1 i2 i3 i4 i5 i6
  clear gN c0 c1 c2 c3 c4 c5 c6 k0 k1 k2 k3 s0 s1 s2
  go_wp2_with fail
  refine(qA HE _).mono ?_
  rintro e w1 ⟨rfl,jD⟩
  clear i0 i1 i2 i3 i4 i5 i6 j0 j1 j2
  have wE:=qC ((qA dR).later jD)
  obtain⟨i0,i1,i2,i3,i4,i5,i6,j0,j1,j2⟩:=qA wE
  dsimp only at i0 i1 i2 i3 i4 i5 i6
  have y8:=qC (qE (qA dP) jD)
  have yF:=qC ((qA HW).later (qA y8))
  have wJ:w.heap.size+1<w1.heap.size:=by have:=jD.size;omega
  have a0:∀ o1 o2,((w1.alloc o1).alloc o2).cell? ⟨w.heap.size,0,none⟩=some (.int .i64 12):=fun o1 o2=>cell_later (qG (qD _ _)) i0
  have a1:∀ o1 o2,((w1.alloc o1).alloc o2).cell? ⟨w.heap.size,1,none⟩=some (.int .i64 (qn:Int)):=fun o1 o2=>cell_later (qG (qD _ _)) i1
  have d0:∀ o1 o2,((w1.alloc o1).alloc o2).cell? ⟨w.heap.size+1,0,none⟩=some (.bool true):=fun o1 o2=>cell_later (qG (qD _ _)) j0
  have d1:∀ o1 o2,((w1.alloc o1).alloc o2).cell? ⟨w.heap.size+1,1,none⟩=some (.int .i64 (h:Int)):=fun o1 o2=>cell_later (qG (qD _ _)) j1
  have d2:∀ o1 o2,((w1.alloc o1).alloc o2).cell? ⟨w.heap.size+1,2,none⟩=some (.int .i64 (t:Int)):=fun o1 o2=>cell_later (qG (qD _ _)) j2
  clear jD dR
  go_wp2
  exact bodyPost_ret (results_none rfl _ _ _) rfl ⟨rfl,((qA y8).mono rV).trans ((qG (qD w1 _)).mono (by omega)),vs,av,td,(qA yF).later (qG (qD _ _)),qA HSL vs td (qA HSP),Nat.le_refl _⟩
 ·have yH:xN ((w.alloc (.cells #[.bool true,.int .i64 (h:Int),.int .i64 (t:Int)] 59)).alloc (.cells #[.int .i64 12,.int .i64 (qn:Int),.int .i64 iM,.string zO,.int .i64 zM,.int .i64 zP,.string zL] 41)).drew (w.heap.size+1) (w.heap.size) ⟨12,(qn:Int),iM,zO,zM,zP,zL⟩ h t:=by constructor <;> simp
  have gN:Below w.heap.size w ((w.alloc (.cells #[.bool true,.int .i64 (h:Int),.int .i64 (t:Int)] 59)).alloc (.cells #[.int .i64 12,.int .i64 (qn:Int),.int .i64 iM,.string zO,.int .i64 zM,.int .i64 zP,.string zL] 41)).drew:=qF (qG (qD _ _))
  have wW:w.heap.size+1<((w.alloc (.cells #[.bool true,.int .i64 (h:Int),.int .i64 (t:Int)] 59)).alloc (.cells #[.int .i64 12,.int .i64 (qn:Int),.int .i64 iM,.string zO,.int .i64 zM,.int .i64 zP,.string zL] 41)).drew.heap.size:=by simp
  generalize ((w.alloc (.cells #[.bool true,.int .i64 (h:Int),.int .i64 (t:Int)] 59)).alloc (.cells #[.int .i64 12,.int .i64 (qn:Int),.int .i64 iM,.string zO,.int .i64 zM,.int .i64 zP,.string zL] 41)).drew=W0 at yH gN wW ⊢
  have dR:=qC yH
  have dP:=qC gN
  obtain⟨i0,i1,i2,i3,i4,i5,i6,j0,j1,j2⟩:=yH
  dsimp only at i0 i1 i2 i3 i4 i5 i6
  clear gN c0 c1 c2 c3 c4 c5 c6 k0 k1 k2 k3 s0 s1 s2
  go_wp2_with fail
  refine(qA HE _).mono ?_
  rintro e w1 ⟨rfl,jD⟩
  clear i0 i1 i2 i3 i4 i5 i6 j0 j1 j2
  have wE:=qC ((qA dR).later jD)
  obtain⟨i0,i1,i2,i3,i4,i5,i6,j0,j1,j2⟩:=qA wE
  dsimp only at i0 i1 i2 i3 i4 i5 i6
  have y8:=qC (qE (qA dP) jD)
  have yF:=qC ((qA HW).later (qA y8))
  have wJ:w.heap.size+1<w1.heap.size:=by have:=jD.size;omega
  have a0:∀ o1 o2,((w1.alloc o1).alloc o2).cell? ⟨w.heap.size+1,0,none⟩=some (.int .i64 12):=fun o1 o2=>cell_later (qG (qD _ _)) i0
  have a1:∀ o1 o2,((w1.alloc o1).alloc o2).cell? ⟨w.heap.size+1,1,none⟩=some (.int .i64 (qn:Int)):=fun o1 o2=>cell_later (qG (qD _ _)) i1
  have d0:∀ o1 o2,((w1.alloc o1).alloc o2).cell? ⟨w.heap.size,0,none⟩=some (.bool true):=fun o1 o2=>cell_later (qG (qD _ _)) j0
  have d1:∀ o1 o2,((w1.alloc o1).alloc o2).cell? ⟨w.heap.size,1,none⟩=some (.int .i64 (h:Int)):=fun o1 o2=>cell_later (qG (qD _ _)) j1
  have d2:∀ o1 o2,((w1.alloc o1).alloc o2).cell? ⟨w.heap.size,2,none⟩=some (.int .i64 (t:Int)):=fun o1 o2=>cell_later (qG (qD _ _)) j2
  clear jD dR
  go_wp2
  exact bodyPost_ret (results_none rfl _ _ _) rfl ⟨rfl,((qA y8).mono rV).trans ((qG (qD w1 _)).mono (by omega)),vs,av,td,(qA yF).later (qG (qD _ _)),qA HSL vs td (qA HSP),Nat.le_refl _⟩
theorem qM8(B X sb:Nat)(b off:Nat)(n cc:Nat)(S:Nat)(Q:List Nat)(c:List LI)(vs:List Bool)(av:Value)(td:List Nat)(k h t qn:Nat)(iM:Int)(zO:ByteArray)(zM zP:Int)(zL:ByteArray)(w:World)(hG:uS S Q c)(hc:c.length=n)(hn:n≤400)(hW:zQ w B X sb (some ⟨b,off,none⟩) n cc c vs av td)(hS:gE c vs td k [])(hx:c[k]? = some ⟨⟨13,(qn:Int),iM,zO,zM,zP,zL⟩,h,t⟩)(hm:dN vs td≤1000)
  (c0:w.cell? ⟨b,off+k*7,none⟩=some (.int .i64 13)) (c1:w.cell? ⟨b,off+k*7+1,none⟩=some (.int .i64 (qn:Int))) (c2:w.cell? ⟨b,off+k*7+2,none⟩=some (.int .i64 iM)) (c3:w.cell? ⟨b,off+k*7+3,none⟩=some (.string zO)) (c4:w.cell? ⟨b,off+k*7+4,none⟩=some (.int .i64 zM)) (c5:w.cell? ⟨b,off+k*7+5,none⟩=some (.int .i64 zP)) (c6:w.cell? ⟨b,off+k*7+6,none⟩=some (.string zL)) :
  Calls Tryz.prog 42 #[.pointer (some ⟨X,0,none⟩),.int .i64 (k:Int)] w (cG B X sb (some ⟨b,off,none⟩) n cc c vs td w):=by
 obtain⟨cL,hdn,dO,yE,hI,_⟩:=hG.ok k _ hx
 dsimp only at cL hdn dO yE hI
 have wC:k<n:=by rw[←hc];exact(List.getElem?_eq_some_iff.1 hx).1
 have sJ:k<vs.length:=by rw[hS.len,hc];exact wC
 obtain⟨k0,k1,k2,k3⟩:=hW.cells
 obtain⟨s0,s1,s2⟩:=hW.st.cell sJ
 have nV:vs[k]=true:=by have:=hS.k';rw[List.getElem?_eq_getElem sJ]at this;exact Option.some.inj this
 rw[nV]at s0
 rw[dL hx hS.k']at s1
 rw[wN hx hS.k']at s2
 dsimp only at s1 s2
 have mP:X<w.heap.size:=World.block_lt_of_cell? _ _ k0
 have hsl:sb<w.heap.size:=World.block_lt_of_cell? _ _ s0
 have nT:b<w.heap.size:=World.block_lt_of_cell? _ _ c0
 have rV:B≤w.heap.size:=Nat.le_trans hW.bx (Nat.le_of_lt mP)
 have aX:(k:Int)<(n:Int):=by omega
 have bG:=qC (show ∀ j,av.ownBlock=some j→j<w.heap.size from fun j hj=>(hW.ah.own_lt j hj).2)
 have htv:mM ⟨13,(qn:Int),iM,zO,zM,zP,zL⟩=1:=rfl
 have hmv:sD ⟨13,(qn:Int),iM,zO,zM,zP,zL⟩=0:=rfl
 rw[htv]at cL
 have kH:yR ⟨13,(qn:Int),iM,zO,zM,zP,zL⟩ k h t=[]:=by simp[yR]
 have HE:=qC fun w=>uD ⟨13,(qn:Int),iM,zO,zM,zP,zL⟩ w (by simp) (by simp) (by simp) (by simp)
 rw[htv,hmv]at HE
 have HW:=qC hW
 have HSL:Hid (∀ xQ td',gE c xQ td' k []→nN c xQ td'):=qC fun xQ td' hs=>hs.left fun q hq=>by
  rw[pO hx,kH]at hq
  simp at hq
 have aZ:=qC fun w=>uI 13 w (by omega) (by omega)
 rw[show xL 13=false from rfl]at aZ
 obtain⟨H2,hH2⟩:∃ H2,h-1=H2:=⟨_,rfl⟩
 have e1:IntKind.i64.wrap ((0:Int)-(1:Int))=(0:Int)-(1:Int):=by rw[IntKind.wrap_i64];omega
 have e2:IntKind.i64.wrap ((h:Int)+((0:Int)-(1:Int)))=((H2:Nat):Int):=by rw[IntKind.wrap_i64];omega
 have e6:(h:Int) + -1=(H2:Int):=by omega
 have e7:(h:Int)-1=(H2:Int):=by omega
 clear hH2
 have jF:¬(h:Int)<(1:Int):=by omega
 have e3:IntKind.i64.wrap ((k:Int)+1)=((k+1:Nat):Int):=by rw[IntKind.wrap_i64];omega
 have HSP:=qC hS
 clear hW hG hS hx hI kH nV sJ
 go_enter Tryz.func42,Tryz.ntmps42
 go_wp2
 go_region
 ·have yH:xN ((w.alloc (.cells #[.int .i64 13,.int .i64 (qn:Int),.int .i64 iM,.string zO,.int .i64 zM,.int .i64 zP,.string zL] 41)).alloc (.cells #[.bool true,.int .i64 (h:Int),.int .i64 (t:Int)] 59)).drew (w.heap.size) (w.heap.size+1) ⟨13,(qn:Int),iM,zO,zM,zP,zL⟩ h t:=by constructor <;> simp
  have gN:Below w.heap.size w ((w.alloc (.cells #[.int .i64 13,.int .i64 (qn:Int),.int .i64 iM,.string zO,.int .i64 zM,.int .i64 zP,.string zL] 41)).alloc (.cells #[.bool true,.int .i64 (h:Int),.int .i64 (t:Int)] 59)).drew:=qF (qG (qD _ _))
  have wW:w.heap.size+1<((w.alloc (.cells #[.int .i64 13,.int .i64 (qn:Int),.int .i64 iM,.string zO,.int .i64 zM,.int .i64 zP,.string zL] 41)).alloc (.cells #[.bool true,.int .i64 (h:Int),.int .i64 (t:Int)] 59)).drew.heap.size:=by simp
  generalize ((w.alloc (.cells #[.int .i64 13,.int .i64 (qn:Int),.int .i64 iM,.string zO,.int .i64 zM,.int .i64 zP,.string zL] 41)).alloc (.cells #[.bool true,.int .i64 (h:Int),.int .i64 (t:Int)] 59)).drew=W0 at yH gN wW ⊢
  have dR:=qC yH
  have dP:=qC gN
  obtain⟨i0,i1,i2,i3,i4,i5,i6,j0,j1,j2⟩:=yH
  dsimp only at i0 i1 i2 i3 i4 i5 i6
  clear gN c0 c1 c2 c3 c4 c5 c6 k0 k1 k2 k3 s0 s1 s2
  go_wp2_with fail
  refine(qA HE _).mono ?_
  rintro e w1 ⟨rfl,jD⟩
  clear i0 i1 i2 i3 i4 i5 i6 j0 j1 j2
  have wE:=qC ((qA dR).later jD)
  obtain⟨i0,i1,i2,i3,i4,i5,i6,j0,j1,j2⟩:=qA wE
  dsimp only at i0 i1 i2 i3 i4 i5 i6
  have y8:=qC (qE (qA dP) jD)
  have yF:=qC ((qA HW).later (qA y8))
  have wJ:w.heap.size+1<w1.heap.size:=by have:=jD.size;omega
  have a0:∀ o1 o2,((w1.alloc o1).alloc o2).cell? ⟨w.heap.size,0,none⟩=some (.int .i64 13):=fun o1 o2=>cell_later (qG (qD _ _)) i0
  have a1:∀ o1 o2,((w1.alloc o1).alloc o2).cell? ⟨w.heap.size,1,none⟩=some (.int .i64 (qn:Int)):=fun o1 o2=>cell_later (qG (qD _ _)) i1
  have d0:∀ o1 o2,((w1.alloc o1).alloc o2).cell? ⟨w.heap.size+1,0,none⟩=some (.bool true):=fun o1 o2=>cell_later (qG (qD _ _)) j0
  have d1:∀ o1 o2,((w1.alloc o1).alloc o2).cell? ⟨w.heap.size+1,1,none⟩=some (.int .i64 (h:Int)):=fun o1 o2=>cell_later (qG (qD _ _)) j1
  have d2:∀ o1 o2,((w1.alloc o1).alloc o2).cell? ⟨w.heap.size+1,2,none⟩=some (.int .i64 (t:Int)):=fun o1 o2=>cell_later (qG (qD _ _)) j2
  clear jD dR
  go_wp2
  exact bodyPost_ret (results_none rfl _ _ _) rfl ⟨rfl,((qA y8).mono rV).trans ((qG (qD w1 _)).mono (by omega)),vs,av,td,(qA yF).later (qG (qD _ _)),qA HSL vs td (qA HSP),Nat.le_refl _⟩
 ·have yH:xN ((w.alloc (.cells #[.bool true,.int .i64 (h:Int),.int .i64 (t:Int)] 59)).alloc (.cells #[.int .i64 13,.int .i64 (qn:Int),.int .i64 iM,.string zO,.int .i64 zM,.int .i64 zP,.string zL] 41)).drew (w.heap.size+1) (w.heap.size) ⟨13,(qn:Int),iM,zO,zM,zP,zL⟩ h t:=by constructor <;> simp
  have gN:Below w.heap.size w ((w.alloc (.cells #[.bool true,.int .i64 (h:Int),.int .i64 (t:Int)] 59)).alloc (.cells #[.int .i64 13,.int .i64 (qn:Int),.int .i64 iM,.string zO,.int .i64 zM,.int .i64 zP,.string zL] 41)).drew:=qF (qG (qD _ _))
  have wW:w.heap.size+1<((w.alloc (.cells #[.bool true,.int .i64 (h:Int),.int .i64 (t:Int)] 59)).alloc (.cells #[.int .i64 13,.int .i64 (qn:Int),.int .i64 iM,.string zO,.int .i64 zM,.int .i64 zP,.string zL] 41)).drew.heap.size:=by simp
  generalize ((w.alloc (.cells #[.bool true,.int .i64 (h:Int),.int .i64 (t:Int)] 59)).alloc (.cells #[.int .i64 13,.int .i64 (qn:Int),.int .i64 iM,.string zO,.int .i64 zM,.int .i64 zP,.string zL] 41)).drew=W0 at yH gN wW ⊢
  have dR:=qC yH
  have dP:=qC gN
  obtain⟨i0,i1,i2,i3,i4,i5,i6,j0,j1,j2⟩:=yH
  dsimp only at i0 i1 i2 i3 i4 i5 i6
  clear gN c0 c1 c2 c3 c4 c5 c6 k0 k1 k2 k3 s0 s1 s2
  go_wp2_with fail
  refine(qA HE _).mono ?_
  rintro e w1 ⟨rfl,jD⟩
  clear i0 i1 i2 i3 i4 i5 i6 j0 j1 j2
  have wE:=qC ((qA dR).later jD)
  obtain⟨i0,i1,i2,i3,i4,i5,i6,j0,j1,j2⟩:=qA wE
  dsimp only at i0 i1 i2 i3 i4 i5 i6
  have y8:=qC (qE (qA dP) jD)
  have yF:=qC ((qA HW).later (qA y8))
  have wJ:w.heap.size+1<w1.heap.size:=by have:=jD.size;omega
  have a0:∀ o1 o2,((w1.alloc o1).alloc o2).cell? ⟨w.heap.size+1,0,none⟩=some (.int .i64 13):=fun o1 o2=>cell_later (qG (qD _ _)) i0
  have a1:∀ o1 o2,((w1.alloc o1).alloc o2).cell? ⟨w.heap.size+1,1,none⟩=some (.int .i64 (qn:Int)):=fun o1 o2=>cell_later (qG (qD _ _)) i1
  have d0:∀ o1 o2,((w1.alloc o1).alloc o2).cell? ⟨w.heap.size,0,none⟩=some (.bool true):=fun o1 o2=>cell_later (qG (qD _ _)) j0
  have d1:∀ o1 o2,((w1.alloc o1).alloc o2).cell? ⟨w.heap.size,1,none⟩=some (.int .i64 (h:Int)):=fun o1 o2=>cell_later (qG (qD _ _)) j1
  have d2:∀ o1 o2,((w1.alloc o1).alloc o2).cell? ⟨w.heap.size,2,none⟩=some (.int .i64 (t:Int)):=fun o1 o2=>cell_later (qG (qD _ _)) j2
  clear jD dR
  go_wp2
  exact bodyPost_ret (results_none rfl _ _ _) rfl ⟨rfl,((qA y8).mono rV).trans ((qG (qD w1 _)).mono (by omega)),vs,av,td,(qA yF).later (qG (qD _ _)),qA HSL vs td (qA HSP),Nat.le_refl _⟩
theorem qQa(B X sb:Nat)(b off:Nat)(n cc:Nat)(S:Nat)(Q:List Nat)(c:List LI)(vs:List Bool)(av:Value)(td:List Nat)(k h t qn:Nat)(iM:Int)(zO:ByteArray)(zM zP:Int)(zL:ByteArray)(w:World)(hG:uS S Q c)(hc:c.length=n)(hn:n≤400)(hW:zQ w B X sb (some ⟨b,off,none⟩) n cc c vs av td)(hS:gE c vs td k [])(hx:c[k]? = some ⟨⟨6,(qn:Int),iM,zO,zM,zP,zL⟩,h,t⟩)(hm:dN vs td≤1000)
  (c0:w.cell? ⟨b,off+k*7,none⟩=some (.int .i64 6)) (c1:w.cell? ⟨b,off+k*7+1,none⟩=some (.int .i64 (qn:Int))) (c2:w.cell? ⟨b,off+k*7+2,none⟩=some (.int .i64 iM)) (c3:w.cell? ⟨b,off+k*7+3,none⟩=some (.string zO)) (c4:w.cell? ⟨b,off+k*7+4,none⟩=some (.int .i64 zM)) (c5:w.cell? ⟨b,off+k*7+5,none⟩=some (.int .i64 zP)) (c6:w.cell? ⟨b,off+k*7+6,none⟩=some (.string zL)) :
  Calls Tryz.prog 42 #[.pointer (some ⟨X,0,none⟩),.int .i64 (k:Int)] w (cG B X sb (some ⟨b,off,none⟩) n cc c vs td w):=by
 obtain⟨cL,hdn,dO,yE,hI,_⟩:=hG.ok k _ hx
 dsimp only at cL hdn dO yE hI
 have wC:k<n:=by rw[←hc];exact(List.getElem?_eq_some_iff.1 hx).1
 have sJ:k<vs.length:=by rw[hS.len,hc];exact wC
 obtain⟨k0,k1,k2,k3⟩:=hW.cells
 obtain⟨s0,s1,s2⟩:=hW.st.cell sJ
 have nV:vs[k]=true:=by have:=hS.k';rw[List.getElem?_eq_getElem sJ]at this;exact Option.some.inj this
 rw[nV]at s0
 rw[dL hx hS.k']at s1
 rw[wN hx hS.k']at s2
 dsimp only at s1 s2
 have mP:X<w.heap.size:=World.block_lt_of_cell? _ _ k0
 have hsl:sb<w.heap.size:=World.block_lt_of_cell? _ _ s0
 have nT:b<w.heap.size:=World.block_lt_of_cell? _ _ c0
 have rV:B≤w.heap.size:=Nat.le_trans hW.bx (Nat.le_of_lt mP)
 have aX:(k:Int)<(n:Int):=by omega
 have bG:=qC (show ∀ j,av.ownBlock=some j→j<w.heap.size from fun j hj=>(hW.ah.own_lt j hj).2)
 have htv:mM ⟨6,(qn:Int),iM,zO,zM,zP,zL⟩=0:=rfl
 have hmv:sD ⟨6,(qn:Int),iM,zO,zM,zP,zL⟩=0:=rfl
 rw[htv]at cL
 have kH:yR ⟨6,(qn:Int),iM,zO,zM,zP,zL⟩ k h t=[(qn,h,t)]:=by simp[yR]
 have HE:=qC fun w=>uD ⟨6,(qn:Int),iM,zO,zM,zP,zL⟩ w (by simp) (by simp) (by simp) (by simp)
 rw[htv,hmv]at HE
 have HC:=qC fun (W:World) (hW:zQ W B X sb (some ⟨b,off,none⟩) n cc c vs av td)=>mA B X sb (some ⟨b,off,none⟩) n cc S Q c vs av td [] k qn h t ⟨⟨6,(qn:Int),iM,zO,zM,zP,zL⟩,h,t⟩ W hG hc hn hW hS hx (by rw[kH];simp) hm
 have HW:=qC hW
 have HSL:Hid (∀ xQ td',gE c xQ td' k [qn]→nN c xQ td'):=qC fun xQ td' hs=>hs.left fun q hq=>by
  rw[pO hx,kH]at hq
  simp at hq ⊢
  omega
 have aZ:=qC fun w=>uI 6 w (by omega) (by omega)
 rw[show xL 6=true from rfl]at aZ
 have e1:IntKind.i64.wrap ((0:Int)-(0:Int))=(0:Int)-(0:Int):=by rw[IntKind.wrap_i64];omega
 have e2:IntKind.i64.wrap ((h:Int)+((0:Int)-(0:Int)))=((h:Nat):Int):=by rw[IntKind.wrap_i64];omega
 have jF:¬(h:Int)<(0:Int):=by omega
 have e3:IntKind.i64.wrap ((k:Int)+1)=((k+1:Nat):Int):=by rw[IntKind.wrap_i64];omega
 clear hW hG hS hx hI kH nV sJ
 go_enter Tryz.func42,Tryz.ntmps42
 go_wp2
 go_region
 ·have yH:xN ((w.alloc (.cells #[.int .i64 6,.int .i64 (qn:Int),.int .i64 iM,.string zO,.int .i64 zM,.int .i64 zP,.string zL] 41)).alloc (.cells #[.bool true,.int .i64 (h:Int),.int .i64 (t:Int)] 59)).drew (w.heap.size) (w.heap.size+1) ⟨6,(qn:Int),iM,zO,zM,zP,zL⟩ h t:=by constructor <;> simp
  have gN:Below w.heap.size w ((w.alloc (.cells #[.int .i64 6,.int .i64 (qn:Int),.int .i64 iM,.string zO,.int .i64 zM,.int .i64 zP,.string zL] 41)).alloc (.cells #[.bool true,.int .i64 (h:Int),.int .i64 (t:Int)] 59)).drew:=qF (qG (qD _ _))
  have wW:w.heap.size+1<((w.alloc (.cells #[.int .i64 6,.int .i64 (qn:Int),.int .i64 iM,.string zO,.int .i64 zM,.int .i64 zP,.string zL] 41)).alloc (.cells #[.bool true,.int .i64 (h:Int),.int .i64 (t:Int)] 59)).drew.heap.size:=by simp
  generalize ((w.alloc (.cells #[.int .i64 6,.int .i64 (qn:Int),.int .i64 iM,.string zO,.int .i64 zM,.int .i64 zP,.string zL] 41)).alloc (.cells #[.bool true,.int .i64 (h:Int),.int .i64 (t:Int)] 59)).drew=W0 at yH gN wW ⊢
  have dR:=qC yH
  have dP:=qC gN
  obtain⟨i0,i1,i2,i3,i4,i5,i6,j0,j1,j2⟩:=yH
  dsimp only at i0 i1 i2 i3 i4 i5 i6
  clear gN c0 c1 c2 c3 c4 c5 c6 k0 k1 k2 k3 s0 s1 s2
  go_wp2_with fail
  refine(qA HE _).mono ?_
  rintro e w1 ⟨rfl,jD⟩
  clear i0 i1 i2 i3 i4 i5 i6 j0 j1 j2
  have wE:=qC ((qA dR).later jD)
  obtain⟨i0,i1,i2,i3,i4,i5,i6,j0,j1,j2⟩:=qA wE
  dsimp only at i0 i1 i2 i3 i4 i5 i6
  have y8:=qC (qE (qA dP) jD)
  have yF:=qC ((qA HW).later (qA y8))
  have wJ:w.heap.size+1<w1.heap.size:=by have:=jD.size;omega
  have a0:∀ o1 o2,((w1.alloc o1).alloc o2).cell? ⟨w.heap.size,0,none⟩=some (.int .i64 6):=fun o1 o2=>cell_later (qG (qD _ _)) i0
  have a1:∀ o1 o2,((w1.alloc o1).alloc o2).cell? ⟨w.heap.size,1,none⟩=some (.int .i64 (qn:Int)):=fun o1 o2=>cell_later (qG (qD _ _)) i1
  have d0:∀ o1 o2,((w1.alloc o1).alloc o2).cell? ⟨w.heap.size+1,0,none⟩=some (.bool true):=fun o1 o2=>cell_later (qG (qD _ _)) j0
  have d1:∀ o1 o2,((w1.alloc o1).alloc o2).cell? ⟨w.heap.size+1,1,none⟩=some (.int .i64 (h:Int)):=fun o1 o2=>cell_later (qG (qD _ _)) j1
  have d2:∀ o1 o2,((w1.alloc o1).alloc o2).cell? ⟨w.heap.size+1,2,none⟩=some (.int .i64 (t:Int)):=fun o1 o2=>cell_later (qG (qD _ _)) j2
  clear jD dR
  go_wp2_with fail
  refine(qA aZ _).mono ?_
  rintro e w' ⟨rfl,rfl⟩
  go_wp2_with fail
  refine(qA HC _ ((qA yF).later (qG (qD _ _)))).mono ?_
  rintro e w2 ⟨rfl,qY,yN,xQ,cI,td',s9,vJ,aK⟩
  have f0:w2.cell? ⟨w.heap.size,0,none⟩=some (.int .i64 6):=yN.cell (a0 _ _) (by omega) (by omega) (fun j hj=>by have:=qA bG j hj;omega)
  clear yN
  have tN:=qC s9
  have mO:=qC (qA HSL _ _ vJ)
  have uF:=qC ((((qA y8).mono rV).trans ((qG (qD w1 _)).mono (by omega))).trans qY)
  clear s9 vJ qY
  go_wp2
  go_end0
  exact⟨rfl,qA uF,xQ,cI,td',qA tN,qA mO,aK⟩
 ·have yH:xN ((w.alloc (.cells #[.bool true,.int .i64 (h:Int),.int .i64 (t:Int)] 59)).alloc (.cells #[.int .i64 6,.int .i64 (qn:Int),.int .i64 iM,.string zO,.int .i64 zM,.int .i64 zP,.string zL] 41)).drew (w.heap.size+1) (w.heap.size) ⟨6,(qn:Int),iM,zO,zM,zP,zL⟩ h t:=by constructor <;> simp
  have gN:Below w.heap.size w ((w.alloc (.cells #[.bool true,.int .i64 (h:Int),.int .i64 (t:Int)] 59)).alloc (.cells #[.int .i64 6,.int .i64 (qn:Int),.int .i64 iM,.string zO,.int .i64 zM,.int .i64 zP,.string zL] 41)).drew:=qF (qG (qD _ _))
  have wW:w.heap.size+1<((w.alloc (.cells #[.bool true,.int .i64 (h:Int),.int .i64 (t:Int)] 59)).alloc (.cells #[.int .i64 6,.int .i64 (qn:Int),.int .i64 iM,.string zO,.int .i64 zM,.int .i64 zP,.string zL] 41)).drew.heap.size:=by simp
  generalize ((w.alloc (.cells #[.bool true,.int .i64 (h:Int),.int .i64 (t:Int)] 59)).alloc (.cells #[.int .i64 6,.int .i64 (qn:Int),.int .i64 iM,.string zO,.int .i64 zM,.int .i64 zP,.string zL] 41)).drew=W0 at yH gN wW ⊢
  have dR:=qC yH
  have dP:=qC gN
  obtain⟨i0,i1,i2,i3,i4,i5,i6,j0,j1,j2⟩:=yH
  dsimp only at i0 i1 i2 i3 i4 i5 i6
  clear gN c0 c1 c2 c3 c4 c5 c6 k0 k1 k2 k3 s0 s1 s2
  go_wp2_with fail
  refine(qA HE _).mono ?_
  rintro e w1 ⟨rfl,jD⟩
  clear i0 i1 i2 i3 i4 i5 i6 j0 j1 j2
  have wE:=qC ((qA dR).later jD)
  obtain⟨i0,i1,i2,i3,i4,i5,i6,j0,j1,j2⟩:=qA wE
  dsimp only at i0 i1 i2 i3 i4 i5 i6
  have y8:=qC (qE (qA dP) jD)
  have yF:=qC ((qA HW).later (qA y8))
  have wJ:w.heap.size+1<w1.heap.size:=by have:=jD.size;omega
  have a0:∀ o1 o2,((w1.alloc o1).alloc o2).cell? ⟨w.heap.size+1,0,none⟩=some (.int .i64 6):=fun o1 o2=>cell_later (qG (qD _ _)) i0
  have a1:∀ o1 o2,((w1.alloc o1).alloc o2).cell? ⟨w.heap.size+1,1,none⟩=some (.int .i64 (qn:Int)):=fun o1 o2=>cell_later (qG (qD _ _)) i1
  have d0:∀ o1 o2,((w1.alloc o1).alloc o2).cell? ⟨w.heap.size,0,none⟩=some (.bool true):=fun o1 o2=>cell_later (qG (qD _ _)) j0
  have d1:∀ o1 o2,((w1.alloc o1).alloc o2).cell? ⟨w.heap.size,1,none⟩=some (.int .i64 (h:Int)):=fun o1 o2=>cell_later (qG (qD _ _)) j1
  have d2:∀ o1 o2,((w1.alloc o1).alloc o2).cell? ⟨w.heap.size,2,none⟩=some (.int .i64 (t:Int)):=fun o1 o2=>cell_later (qG (qD _ _)) j2
  clear jD dR
  go_wp2_with fail
  refine(qA aZ _).mono ?_
  rintro e w' ⟨rfl,rfl⟩
  go_wp2_with fail
  refine(qA HC _ ((qA yF).later (qG (qD _ _)))).mono ?_
  rintro e w2 ⟨rfl,qY,yN,xQ,cI,td',s9,vJ,aK⟩
  have f0:w2.cell? ⟨w.heap.size+1,0,none⟩=some (.int .i64 6):=yN.cell (a0 _ _) (by omega) (by omega) (fun j hj=>by have:=qA bG j hj;omega)
  clear yN
  have tN:=qC s9
  have mO:=qC (qA HSL _ _ vJ)
  have uF:=qC ((((qA y8).mono rV).trans ((qG (qD w1 _)).mono (by omega))).trans qY)
  clear s9 vJ qY
  go_wp2
  go_end0
  exact⟨rfl,qA uF,xQ,cI,td',qA tN,qA mO,aK⟩
theorem qQi(B X sb:Nat)(b off:Nat)(n cc:Nat)(S:Nat)(Q:List Nat)(c:List LI)(vs:List Bool)(av:Value)(td:List Nat)(k h t qn:Nat)(iM:Int)(zO:ByteArray)(zM zP:Int)(zL:ByteArray)(w:World)(hG:uS S Q c)(hc:c.length=n)(hn:n≤400)(hW:zQ w B X sb (some ⟨b,off,none⟩) n cc c vs av td)(hS:gE c vs td k [])(hx:c[k]? = some ⟨⟨7,(qn:Int),iM,zO,zM,zP,zL⟩,h,t⟩)(hm:dN vs td≤1000)
  (c0:w.cell? ⟨b,off+k*7,none⟩=some (.int .i64 7)) (c1:w.cell? ⟨b,off+k*7+1,none⟩=some (.int .i64 (qn:Int))) (c2:w.cell? ⟨b,off+k*7+2,none⟩=some (.int .i64 iM)) (c3:w.cell? ⟨b,off+k*7+3,none⟩=some (.string zO)) (c4:w.cell? ⟨b,off+k*7+4,none⟩=some (.int .i64 zM)) (c5:w.cell? ⟨b,off+k*7+5,none⟩=some (.int .i64 zP)) (c6:w.cell? ⟨b,off+k*7+6,none⟩=some (.string zL)) :
  Calls Tryz.prog 42 #[.pointer (some ⟨X,0,none⟩),.int .i64 (k:Int)] w (cG B X sb (some ⟨b,off,none⟩) n cc c vs td w):=by
 obtain⟨cL,hdn,dO,yE,hI,_⟩:=hG.ok k _ hx
 dsimp only at cL hdn dO yE hI
 have wC:k<n:=by rw[←hc];exact(List.getElem?_eq_some_iff.1 hx).1
 have sJ:k<vs.length:=by rw[hS.len,hc];exact wC
 obtain⟨k0,k1,k2,k3⟩:=hW.cells
 obtain⟨s0,s1,s2⟩:=hW.st.cell sJ
 have nV:vs[k]=true:=by have:=hS.k';rw[List.getElem?_eq_getElem sJ]at this;exact Option.some.inj this
 rw[nV]at s0
 rw[dL hx hS.k']at s1
 rw[wN hx hS.k']at s2
 dsimp only at s1 s2
 have mP:X<w.heap.size:=World.block_lt_of_cell? _ _ k0
 have hsl:sb<w.heap.size:=World.block_lt_of_cell? _ _ s0
 have nT:b<w.heap.size:=World.block_lt_of_cell? _ _ c0
 have rV:B≤w.heap.size:=Nat.le_trans hW.bx (Nat.le_of_lt mP)
 have aX:(k:Int)<(n:Int):=by omega
 have bG:=qC (show ∀ j,av.ownBlock=some j→j<w.heap.size from fun j hj=>(hW.ah.own_lt j hj).2)
 have htv:mM ⟨7,(qn:Int),iM,zO,zM,zP,zL⟩=1:=rfl
 have hmv:sD ⟨7,(qn:Int),iM,zO,zM,zP,zL⟩=0:=rfl
 rw[htv]at cL
 have kH:yR ⟨7,(qn:Int),iM,zO,zM,zP,zL⟩ k h t=[((k+1),(h-1),t),(qn,(h-1),t)]:=by simp[yR]
 have HE:=qC fun w=>uD ⟨7,(qn:Int),iM,zO,zM,zP,zL⟩ w (by simp) (by simp) (by simp) (by simp)
 rw[htv,hmv]at HE
 have HC:=qC fun (W:World) (hW:zQ W B X sb (some ⟨b,off,none⟩) n cc c vs av td)=>mA B X sb (some ⟨b,off,none⟩) n cc S Q c vs av td [] k qn (h-1) t ⟨⟨7,(qn:Int),iM,zO,zM,zP,zL⟩,h,t⟩ W hG hc hn hW hS hx (by rw[kH];simp) hm
 have yJ:=qC fun (W:World) (vs1:List Bool) (av1:Value) (td1:List Nat) (hW:zQ W B X sb (some ⟨b,off,none⟩) n cc c vs1 av1 td1) (dF:gE c vs1 td1 k [qn]) (kM:dN vs1 td1≤1000)=>mA B X sb (some ⟨b,off,none⟩) n cc S Q c vs1 av1 td1 [qn] k (k+1) (h-1) t ⟨⟨7,(qn:Int),iM,zO,zM,zP,zL⟩,h,t⟩ W hG hc hn hW dF hx (by rw[kH];simp) kM
 have HW:=qC hW
 have HSL:Hid (∀ xQ td',gE c xQ td' k [(k+1),qn]→nN c xQ td'):=qC fun xQ td' hs=>hs.left fun q hq=>by
  rw[pO hx,kH]at hq
  simp at hq ⊢
  omega
 have aZ:=qC fun w=>uI 7 w (by omega) (by omega)
 rw[show xL 7=true from rfl]at aZ
 obtain⟨H2,hH2⟩:∃ H2,h-1=H2:=⟨_,rfl⟩
 rw[hH2]at HC yJ
 have e1:IntKind.i64.wrap ((0:Int)-(1:Int))=(0:Int)-(1:Int):=by rw[IntKind.wrap_i64];omega
 have e2:IntKind.i64.wrap ((h:Int)+((0:Int)-(1:Int)))=((H2:Nat):Int):=by rw[IntKind.wrap_i64];omega
 have e6:(h:Int) + -1=(H2:Int):=by omega
 have e7:(h:Int)-1=(H2:Int):=by omega
 clear hH2
 have jF:¬(h:Int)<(1:Int):=by omega
 have e3:IntKind.i64.wrap ((k:Int)+1)=((k+1:Nat):Int):=by rw[IntKind.wrap_i64];omega
 clear hW hG hS hx hI kH nV sJ
 go_enter Tryz.func42,Tryz.ntmps42
 go_wp2
 go_region
 ·have yH:xN ((w.alloc (.cells #[.int .i64 7,.int .i64 (qn:Int),.int .i64 iM,.string zO,.int .i64 zM,.int .i64 zP,.string zL] 41)).alloc (.cells #[.bool true,.int .i64 (h:Int),.int .i64 (t:Int)] 59)).drew (w.heap.size) (w.heap.size+1) ⟨7,(qn:Int),iM,zO,zM,zP,zL⟩ h t:=by constructor <;> simp
  have gN:Below w.heap.size w ((w.alloc (.cells #[.int .i64 7,.int .i64 (qn:Int),.int .i64 iM,.string zO,.int .i64 zM,.int .i64 zP,.string zL] 41)).alloc (.cells #[.bool true,.int .i64 (h:Int),.int .i64 (t:Int)] 59)).drew:=qF (qG (qD _ _))
  have wW:w.heap.size+1<((w.alloc (.cells #[.int .i64 7,.int .i64 (qn:Int),.int .i64 iM,.string zO,.int .i64 zM,.int .i64 zP,.string zL] 41)).alloc (.cells #[.bool true,.int .i64 (h:Int),.int .i64 (t:Int)] 59)).drew.heap.size:=by simp
  generalize ((w.alloc (.cells #[.int .i64 7,.int .i64 (qn:Int),.int .i64 iM,.string zO,.int .i64 zM,.int .i64 zP,.string zL] 41)).alloc (.cells #[.bool true,.int .i64 (h:Int),.int .i64 (t:Int)] 59)).drew=W0 at yH gN wW ⊢
  have dR:=qC yH
  have dP:=qC gN
  obtain⟨i0,i1,i2,i3,i4,i5,i6,j0,j1,j2⟩:=yH
  dsimp only at i0 i1 i2 i3 i4 i5 i6
  clear gN c0 c1 c2 c3 c4 c5 c6 k0 k1 k2 k3 s0 s1 s2
  go_wp2_with fail
  refine(qA HE _).mono ?_
  rintro e w1 ⟨rfl,jD⟩
  clear i0 i1 i2 i3 i4 i5 i6 j0 j1 j2
  have wE:=qC ((qA dR).later jD)
  obtain⟨i0,i1,i2,i3,i4,i5,i6,j0,j1,j2⟩:=qA wE
  dsimp only at i0 i1 i2 i3 i4 i5 i6
  have y8:=qC (qE (qA dP) jD)
  have yF:=qC ((qA HW).later (qA y8))
  have wJ:w.heap.size+1<w1.heap.size:=by have:=jD.size;omega
  have a0:∀ o1 o2,((w1.alloc o1).alloc o2).cell? ⟨w.heap.size,0,none⟩=some (.int .i64 7):=fun o1 o2=>cell_later (qG (qD _ _)) i0
  have a1:∀ o1 o2,((w1.alloc o1).alloc o2).cell? ⟨w.heap.size,1,none⟩=some (.int .i64 (qn:Int)):=fun o1 o2=>cell_later (qG (qD _ _)) i1
  have d0:∀ o1 o2,((w1.alloc o1).alloc o2).cell? ⟨w.heap.size+1,0,none⟩=some (.bool true):=fun o1 o2=>cell_later (qG (qD _ _)) j0
  have d1:∀ o1 o2,((w1.alloc o1).alloc o2).cell? ⟨w.heap.size+1,1,none⟩=some (.int .i64 (h:Int)):=fun o1 o2=>cell_later (qG (qD _ _)) j1
  have d2:∀ o1 o2,((w1.alloc o1).alloc o2).cell? ⟨w.heap.size+1,2,none⟩=some (.int .i64 (t:Int)):=fun o1 o2=>cell_later (qG (qD _ _)) j2
  clear jD dR
  go_wp2_with fail
  refine(qA aZ _).mono ?_
  rintro e w' ⟨rfl,rfl⟩
  go_wp2_with fail
  refine(qA HC _ ((qA yF).later (qG (qD _ _)))).mono ?_
  rintro e w2 ⟨rfl,qY,yN,xQ,cI,td',s9,vJ,aK⟩
  have tN:=qC s9
  have mO:=qC vJ
  have hX1:X<w.heap.size:=mP
  have f0:w2.cell? ⟨w.heap.size,0,none⟩=some (.int .i64 7):=yN.cell (a0 _ _) (by omega) (by omega) (fun j hj=>by have:=qA bG j hj;omega)
  have n0:w2.cell? ⟨w1.heap.size,0,none⟩=some (.bool true):=yN.cell (by simp) (by omega) (by omega) (fun j hj=>by have:=qA bG j hj;omega)
  have n1:w2.cell? ⟨w1.heap.size,1,none⟩=some (.int .i64 (H2:Int)):=yN.cell (by simp) (by omega) (by omega) (fun j hj=>by have:=qA bG j hj;omega)
  have n2:w2.cell? ⟨w1.heap.size,2,none⟩=some (.int .i64 (t:Int)):=yN.cell (by simp) (by omega) (by omega) (fun j hj=>by have:=qA bG j hj;omega)
  have uF:=qC ((((qA y8).mono rV).trans ((qG (qD w1 _)).mono (by omega))).trans qY)
  clear s9 vJ qY yN a0 a1 d0 d1 d2 i0 i1 i2 i3 i4 i5 i6 j0 j1 j2
  go_wp2_with fail
  refine(qA yJ _ xQ cI td' (qA tN) (qA mO) (by omega)).mono ?_
  rintro e w3 ⟨rfl,uN,_,vs2,av2,td2,hW3,nG,hm3⟩
  have HW3:=qC hW3
  have HS3:=qC (qA HSL _ _ nG)
  have uO:=qC ((qA uF).trans uN)
  clear hW3 nG uN
  go_wp2
  go_end0
  exact⟨rfl,qA uO,vs2,av2,td2,qA HW3,qA HS3,by omega⟩
 ·have yH:xN ((w.alloc (.cells #[.bool true,.int .i64 (h:Int),.int .i64 (t:Int)] 59)).alloc (.cells #[.int .i64 7,.int .i64 (qn:Int),.int .i64 iM,.string zO,.int .i64 zM,.int .i64 zP,.string zL] 41)).drew (w.heap.size+1) (w.heap.size) ⟨7,(qn:Int),iM,zO,zM,zP,zL⟩ h t:=by constructor <;> simp
  have gN:Below w.heap.size w ((w.alloc (.cells #[.bool true,.int .i64 (h:Int),.int .i64 (t:Int)] 59)).alloc (.cells #[.int .i64 7,.int .i64 (qn:Int),.int .i64 iM,.string zO,.int .i64 zM,.int .i64 zP,.string zL] 41)).drew:=qF (qG (qD _ _))
  have wW:w.heap.size+1<((w.alloc (.cells #[.bool true,.int .i64 (h:Int),.int .i64 (t:Int)] 59)).alloc (.cells #[.int .i64 7,.int .i64 (qn:Int),.int .i64 iM,.string zO,.int .i64 zM,.int .i64 zP,.string zL] 41)).drew.heap.size:=by simp
  generalize ((w.alloc (.cells #[.bool true,.int .i64 (h:Int),.int .i64 (t:Int)] 59)).alloc (.cells #[.int .i64 7,.int .i64 (qn:Int),.int .i64 iM,.string zO,.int .i64 zM,.int .i64 zP,.string zL] 41)).drew=W0 at yH gN wW ⊢
  have dR:=qC yH
  have dP:=qC gN
  obtain⟨i0,i1,i2,i3,i4,i5,i6,j0,j1,j2⟩:=yH
  dsimp only at i0 i1 i2 i3 i4 i5 i6
  clear gN c0 c1 c2 c3 c4 c5 c6 k0 k1 k2 k3 s0 s1 s2
  go_wp2_with fail
  refine(qA HE _).mono ?_
  rintro e w1 ⟨rfl,jD⟩
  clear i0 i1 i2 i3 i4 i5 i6 j0 j1 j2
  have wE:=qC ((qA dR).later jD)
  obtain⟨i0,i1,i2,i3,i4,i5,i6,j0,j1,j2⟩:=qA wE
  dsimp only at i0 i1 i2 i3 i4 i5 i6
  have y8:=qC (qE (qA dP) jD)
  have yF:=qC ((qA HW).later (qA y8))
  have wJ:w.heap.size+1<w1.heap.size:=by have:=jD.size;omega
  have a0:∀ o1 o2,((w1.alloc o1).alloc o2).cell? ⟨w.heap.size+1,0,none⟩=some (.int .i64 7):=fun o1 o2=>cell_later (qG (qD _ _)) i0
  have a1:∀ o1 o2,((w1.alloc o1).alloc o2).cell? ⟨w.heap.size+1,1,none⟩=some (.int .i64 (qn:Int)):=fun o1 o2=>cell_later (qG (qD _ _)) i1
  have d0:∀ o1 o2,((w1.alloc o1).alloc o2).cell? ⟨w.heap.size,0,none⟩=some (.bool true):=fun o1 o2=>cell_later (qG (qD _ _)) j0
  have d1:∀ o1 o2,((w1.alloc o1).alloc o2).cell? ⟨w.heap.size,1,none⟩=some (.int .i64 (h:Int)):=fun o1 o2=>cell_later (qG (qD _ _)) j1
  have d2:∀ o1 o2,((w1.alloc o1).alloc o2).cell? ⟨w.heap.size,2,none⟩=some (.int .i64 (t:Int)):=fun o1 o2=>cell_later (qG (qD _ _)) j2
  clear jD dR
  go_wp2_with fail
  refine(qA aZ _).mono ?_
  rintro e w' ⟨rfl,rfl⟩
  go_wp2_with fail
  refine(qA HC _ ((qA yF).later (qG (qD _ _)))).mono ?_
  rintro e w2 ⟨rfl,qY,yN,xQ,cI,td',s9,vJ,aK⟩
  have tN:=qC s9
  have mO:=qC vJ
  have hX1:X<w.heap.size:=mP
  have f0:w2.cell? ⟨w.heap.size+1,0,none⟩=some (.int .i64 7):=yN.cell (a0 _ _) (by omega) (by omega) (fun j hj=>by have:=qA bG j hj;omega)
  have n0:w2.cell? ⟨w1.heap.size,0,none⟩=some (.bool true):=yN.cell (by simp) (by omega) (by omega) (fun j hj=>by have:=qA bG j hj;omega)
  have n1:w2.cell? ⟨w1.heap.size,1,none⟩=some (.int .i64 (H2:Int)):=yN.cell (by simp) (by omega) (by omega) (fun j hj=>by have:=qA bG j hj;omega)
  have n2:w2.cell? ⟨w1.heap.size,2,none⟩=some (.int .i64 (t:Int)):=yN.cell (by simp) (by omega) (by omega) (fun j hj=>by have:=qA bG j hj;omega)
  have uF:=qC ((((qA y8).mono rV).trans ((qG (qD w1 _)).mono (by omega))).trans qY)
  clear s9 vJ qY yN a0 a1 d0 d1 d2 i0 i1 i2 i3 i4 i5 i6 j0 j1 j2
  go_wp2_with fail
  refine(qA yJ _ xQ cI td' (qA tN) (qA mO) (by omega)).mono ?_
  rintro e w3 ⟨rfl,uN,_,vs2,av2,td2,hW3,nG,hm3⟩
  have HW3:=qC hW3
  have HS3:=qC (qA HSL _ _ nG)
  have uO:=qC ((qA uF).trans uN)
  clear hW3 nG uN
  go_wp2
  go_end0
  exact⟨rfl,qA uO,vs2,av2,td2,qA HW3,qA HS3,by omega⟩
theorem qPA(B X sb:Nat)(b off:Nat)(n cc:Nat)(S:Nat)(Q:List Nat)(c:List LI)(vs:List Bool)(av:Value)(td:List Nat)(k h t qn:Nat)(iM:Int)(zO:ByteArray)(zM zP:Int)(zL:ByteArray)(w:World)(hG:uS S Q c)(hc:c.length=n)(hn:n≤400)(hW:zQ w B X sb (some ⟨b,off,none⟩) n cc c vs av td)(hS:gE c vs td k [])(hx:c[k]? = some ⟨⟨8,(qn:Int),iM,zO,zM,zP,zL⟩,h,t⟩)(hm:dN vs td≤1000)
  (c0:w.cell? ⟨b,off+k*7,none⟩=some (.int .i64 8)) (c1:w.cell? ⟨b,off+k*7+1,none⟩=some (.int .i64 (qn:Int))) (c2:w.cell? ⟨b,off+k*7+2,none⟩=some (.int .i64 iM)) (c3:w.cell? ⟨b,off+k*7+3,none⟩=some (.string zO)) (c4:w.cell? ⟨b,off+k*7+4,none⟩=some (.int .i64 zM)) (c5:w.cell? ⟨b,off+k*7+5,none⟩=some (.int .i64 zP)) (c6:w.cell? ⟨b,off+k*7+6,none⟩=some (.string zL)) :
  Calls Tryz.prog 42 #[.pointer (some ⟨X,0,none⟩),.int .i64 (k:Int)] w (cG B X sb (some ⟨b,off,none⟩) n cc c vs td w):=by
 obtain⟨cL,hdn,dO,yE,hI,_⟩:=hG.ok k _ hx
 dsimp only at cL hdn dO yE hI
 have wC:k<n:=by rw[←hc];exact(List.getElem?_eq_some_iff.1 hx).1
 have sJ:k<vs.length:=by rw[hS.len,hc];exact wC
 obtain⟨k0,k1,k2,k3⟩:=hW.cells
 obtain⟨s0,s1,s2⟩:=hW.st.cell sJ
 have nV:vs[k]=true:=by have:=hS.k';rw[List.getElem?_eq_getElem sJ]at this;exact Option.some.inj this
 rw[nV]at s0
 rw[dL hx hS.k']at s1
 rw[wN hx hS.k']at s2
 dsimp only at s1 s2
 have mP:X<w.heap.size:=World.block_lt_of_cell? _ _ k0
 have hsl:sb<w.heap.size:=World.block_lt_of_cell? _ _ s0
 have nT:b<w.heap.size:=World.block_lt_of_cell? _ _ c0
 have rV:B≤w.heap.size:=Nat.le_trans hW.bx (Nat.le_of_lt mP)
 have aX:(k:Int)<(n:Int):=by omega
 have bG:=qC (show ∀ j,av.ownBlock=some j→j<w.heap.size from fun j hj=>(hW.ah.own_lt j hj).2)
 have htv:mM ⟨8,(qn:Int),iM,zO,zM,zP,zL⟩=1:=rfl
 have hmv:sD ⟨8,(qn:Int),iM,zO,zM,zP,zL⟩=0:=rfl
 rw[htv]at cL
 have kH:yR ⟨8,(qn:Int),iM,zO,zM,zP,zL⟩ k h t=[((k+1),(h-1),t),(qn,h,t)]:=by simp[yR]
 have HE:=qC fun w=>uD ⟨8,(qn:Int),iM,zO,zM,zP,zL⟩ w (by simp) (by simp) (by simp) (by simp)
 rw[htv,hmv]at HE
 have HC:=qC fun (W:World) (hW:zQ W B X sb (some ⟨b,off,none⟩) n cc c vs av td)=>mA B X sb (some ⟨b,off,none⟩) n cc S Q c vs av td [] k qn h t ⟨⟨8,(qn:Int),iM,zO,zM,zP,zL⟩,h,t⟩ W hG hc hn hW hS hx (by rw[kH];simp) hm
 have yJ:=qC fun (W:World) (vs1:List Bool) (av1:Value) (td1:List Nat) (hW:zQ W B X sb (some ⟨b,off,none⟩) n cc c vs1 av1 td1) (dF:gE c vs1 td1 k [qn]) (kM:dN vs1 td1≤1000)=>mA B X sb (some ⟨b,off,none⟩) n cc S Q c vs1 av1 td1 [qn] k (k+1) (h-1) t ⟨⟨8,(qn:Int),iM,zO,zM,zP,zL⟩,h,t⟩ W hG hc hn hW dF hx (by rw[kH];simp) kM
 have HW:=qC hW
 have HSL:Hid (∀ xQ td',gE c xQ td' k [(k+1),qn]→nN c xQ td'):=qC fun xQ td' hs=>hs.left fun q hq=>by
  rw[pO hx,kH]at hq
  simp at hq ⊢
  omega
 have aZ:=qC fun w=>uI 8 w (by omega) (by omega)
 rw[show xL 8=true from rfl]at aZ
 obtain⟨H2,hH2⟩:∃ H2,h-1=H2:=⟨_,rfl⟩
 rw[hH2]at yJ
 have e1:IntKind.i64.wrap ((0:Int)-(1:Int))=(0:Int)-(1:Int):=by rw[IntKind.wrap_i64];omega
 have e2:IntKind.i64.wrap ((h:Int)+((0:Int)-(1:Int)))=((H2:Nat):Int):=by rw[IntKind.wrap_i64];omega
 have e6:(h:Int) + -1=(H2:Int):=by omega
 have e7:(h:Int)-1=(H2:Int):=by omega
 clear hH2
 have jF:¬(h:Int)<(1:Int):=by omega
 have e3:IntKind.i64.wrap ((k:Int)+1)=((k+1:Nat):Int):=by rw[IntKind.wrap_i64];omega
 clear hW hG hS hx hI kH nV sJ
 go_enter Tryz.func42,Tryz.ntmps42
 go_wp2
 go_region
 ·have yH:xN ((w.alloc (.cells #[.int .i64 8,.int .i64 (qn:Int),.int .i64 iM,.string zO,.int .i64 zM,.int .i64 zP,.string zL] 41)).alloc (.cells #[.bool true,.int .i64 (h:Int),.int .i64 (t:Int)] 59)).drew (w.heap.size) (w.heap.size+1) ⟨8,(qn:Int),iM,zO,zM,zP,zL⟩ h t:=by constructor <;> simp
  have gN:Below w.heap.size w ((w.alloc (.cells #[.int .i64 8,.int .i64 (qn:Int),.int .i64 iM,.string zO,.int .i64 zM,.int .i64 zP,.string zL] 41)).alloc (.cells #[.bool true,.int .i64 (h:Int),.int .i64 (t:Int)] 59)).drew:=qF (qG (qD _ _))
  have wW:w.heap.size+1<((w.alloc (.cells #[.int .i64 8,.int .i64 (qn:Int),.int .i64 iM,.string zO,.int .i64 zM,.int .i64 zP,.string zL] 41)).alloc (.cells #[.bool true,.int .i64 (h:Int),.int .i64 (t:Int)] 59)).drew.heap.size:=by simp
  generalize ((w.alloc (.cells #[.int .i64 8,.int .i64 (qn:Int),.int .i64 iM,.string zO,.int .i64 zM,.int .i64 zP,.string zL] 41)).alloc (.cells #[.bool true,.int .i64 (h:Int),.int .i64 (t:Int)] 59)).drew=W0 at yH gN wW ⊢
  have dR:=qC yH
  have dP:=qC gN
  obtain⟨i0,i1,i2,i3,i4,i5,i6,j0,j1,j2⟩:=yH
  dsimp only at i0 i1 i2 i3 i4 i5 i6
  clear gN c0 c1 c2 c3 c4 c5 c6 k0 k1 k2 k3 s0 s1 s2
  go_wp2_with fail
  refine(qA HE _).mono ?_
  rintro e w1 ⟨rfl,jD⟩
  clear i0 i1 i2 i3 i4 i5 i6 j0 j1 j2
  have wE:=qC ((qA dR).later jD)
  obtain⟨i0,i1,i2,i3,i4,i5,i6,j0,j1,j2⟩:=qA wE
  dsimp only at i0 i1 i2 i3 i4 i5 i6
  have y8:=qC (qE (qA dP) jD)
  have yF:=qC ((qA HW).later (qA y8))
  have wJ:w.heap.size+1<w1.heap.size:=by have:=jD.size;omega
  have a0:∀ o1 o2,((w1.alloc o1).alloc o2).cell? ⟨w.heap.size,0,none⟩=some (.int .i64 8):=fun o1 o2=>cell_later (qG (qD _ _)) i0
  have a1:∀ o1 o2,((w1.alloc o1).alloc o2).cell? ⟨w.heap.size,1,none⟩=some (.int .i64 (qn:Int)):=fun o1 o2=>cell_later (qG (qD _ _)) i1
  have d0:∀ o1 o2,((w1.alloc o1).alloc o2).cell? ⟨w.heap.size+1,0,none⟩=some (.bool true):=fun o1 o2=>cell_later (qG (qD _ _)) j0
  have d1:∀ o1 o2,((w1.alloc o1).alloc o2).cell? ⟨w.heap.size+1,1,none⟩=some (.int .i64 (h:Int)):=fun o1 o2=>cell_later (qG (qD _ _)) j1
  have d2:∀ o1 o2,((w1.alloc o1).alloc o2).cell? ⟨w.heap.size+1,2,none⟩=some (.int .i64 (t:Int)):=fun o1 o2=>cell_later (qG (qD _ _)) j2
  clear jD dR
  go_wp2_with fail
  refine(qA aZ _).mono ?_
  rintro e w' ⟨rfl,rfl⟩
  go_wp2_with fail
  refine(qA HC _ ((qA yF).later (qG (qD _ _)))).mono ?_
  rintro e w2 ⟨rfl,qY,yN,xQ,cI,td',s9,vJ,aK⟩
  have tN:=qC s9
  have mO:=qC vJ
  have hX1:X<w.heap.size:=mP
  have f0:w2.cell? ⟨w.heap.size,0,none⟩=some (.int .i64 8):=yN.cell (a0 _ _) (by omega) (by omega) (fun j hj=>by have:=qA bG j hj;omega)
  have n0:w2.cell? ⟨w1.heap.size,0,none⟩=some (.bool true):=yN.cell (by simp) (by omega) (by omega) (fun j hj=>by have:=qA bG j hj;omega)
  have n1:w2.cell? ⟨w1.heap.size,1,none⟩=some (.int .i64 (H2:Int)):=yN.cell (by simp) (by omega) (by omega) (fun j hj=>by have:=qA bG j hj;omega)
  have n2:w2.cell? ⟨w1.heap.size,2,none⟩=some (.int .i64 (t:Int)):=yN.cell (by simp) (by omega) (by omega) (fun j hj=>by have:=qA bG j hj;omega)
  have uF:=qC ((((qA y8).mono rV).trans ((qG (qD w1 _)).mono (by omega))).trans qY)
  clear s9 vJ qY yN a0 a1 d0 d1 d2 i0 i1 i2 i3 i4 i5 i6 j0 j1 j2
  go_wp2_with fail
  refine(qA yJ _ xQ cI td' (qA tN) (qA mO) (by omega)).mono ?_
  rintro e w3 ⟨rfl,uN,_,vs2,av2,td2,hW3,nG,hm3⟩
  have HW3:=qC hW3
  have HS3:=qC (qA HSL _ _ nG)
  have uO:=qC ((qA uF).trans uN)
  clear hW3 nG uN
  go_wp2
  go_end0
  exact⟨rfl,qA uO,vs2,av2,td2,qA HW3,qA HS3,by omega⟩
 ·have yH:xN ((w.alloc (.cells #[.bool true,.int .i64 (h:Int),.int .i64 (t:Int)] 59)).alloc (.cells #[.int .i64 8,.int .i64 (qn:Int),.int .i64 iM,.string zO,.int .i64 zM,.int .i64 zP,.string zL] 41)).drew (w.heap.size+1) (w.heap.size) ⟨8,(qn:Int),iM,zO,zM,zP,zL⟩ h t:=by constructor <;> simp
  have gN:Below w.heap.size w ((w.alloc (.cells #[.bool true,.int .i64 (h:Int),.int .i64 (t:Int)] 59)).alloc (.cells #[.int .i64 8,.int .i64 (qn:Int),.int .i64 iM,.string zO,.int .i64 zM,.int .i64 zP,.string zL] 41)).drew:=qF (qG (qD _ _))
  have wW:w.heap.size+1<((w.alloc (.cells #[.bool true,.int .i64 (h:Int),.int .i64 (t:Int)] 59)).alloc (.cells #[.int .i64 8,.int .i64 (qn:Int),.int .i64 iM,.string zO,.int .i64 zM,.int .i64 zP,.string zL] 41)).drew.heap.size:=by simp
  generalize ((w.alloc (.cells #[.bool true,.int .i64 (h:Int),.int .i64 (t:Int)] 59)).alloc (.cells #[.int .i64 8,.int .i64 (qn:Int),.int .i64 iM,.string zO,.int .i64 zM,.int .i64 zP,.string zL] 41)).drew=W0 at yH gN wW ⊢
  have dR:=qC yH
  have dP:=qC gN
  obtain⟨i0,i1,i2,i3,i4,i5,i6,j0,j1,j2⟩:=yH
  dsimp only at i0 i1 i2 i3 i4 i5 i6
  clear gN c0 c1 c2 c3 c4 c5 c6 k0 k1 k2 k3 s0 s1 s2
  go_wp2_with fail
  refine(qA HE _).mono ?_
  rintro e w1 ⟨rfl,jD⟩
  clear i0 i1 i2 i3 i4 i5 i6 j0 j1 j2
  have wE:=qC ((qA dR).later jD)
  obtain⟨i0,i1,i2,i3,i4,i5,i6,j0,j1,j2⟩:=qA wE
  dsimp only at i0 i1 i2 i3 i4 i5 i6
  have y8:=qC (qE (qA dP) jD)
  have yF:=qC ((qA HW).later (qA y8))
  have wJ:w.heap.size+1<w1.heap.size:=by have:=jD.size;omega
  have a0:∀ o1 o2,((w1.alloc o1).alloc o2).cell? ⟨w.heap.size+1,0,none⟩=some (.int .i64 8):=fun o1 o2=>cell_later (qG (qD _ _)) i0
  have a1:∀ o1 o2,((w1.alloc o1).alloc o2).cell? ⟨w.heap.size+1,1,none⟩=some (.int .i64 (qn:Int)):=fun o1 o2=>cell_later (qG (qD _ _)) i1
  have d0:∀ o1 o2,((w1.alloc o1).alloc o2).cell? ⟨w.heap.size,0,none⟩=some (.bool true):=fun o1 o2=>cell_later (qG (qD _ _)) j0
  have d1:∀ o1 o2,((w1.alloc o1).alloc o2).cell? ⟨w.heap.size,1,none⟩=some (.int .i64 (h:Int)):=fun o1 o2=>cell_later (qG (qD _ _)) j1
  have d2:∀ o1 o2,((w1.alloc o1).alloc o2).cell? ⟨w.heap.size,2,none⟩=some (.int .i64 (t:Int)):=fun o1 o2=>cell_later (qG (qD _ _)) j2
  clear jD dR
  go_wp2_with fail
  refine(qA aZ _).mono ?_
  rintro e w' ⟨rfl,rfl⟩
  go_wp2_with fail
  refine(qA HC _ ((qA yF).later (qG (qD _ _)))).mono ?_
  rintro e w2 ⟨rfl,qY,yN,xQ,cI,td',s9,vJ,aK⟩
  have tN:=qC s9
  have mO:=qC vJ
  have hX1:X<w.heap.size:=mP
  have f0:w2.cell? ⟨w.heap.size+1,0,none⟩=some (.int .i64 8):=yN.cell (a0 _ _) (by omega) (by omega) (fun j hj=>by have:=qA bG j hj;omega)
  have n0:w2.cell? ⟨w1.heap.size,0,none⟩=some (.bool true):=yN.cell (by simp) (by omega) (by omega) (fun j hj=>by have:=qA bG j hj;omega)
  have n1:w2.cell? ⟨w1.heap.size,1,none⟩=some (.int .i64 (H2:Int)):=yN.cell (by simp) (by omega) (by omega) (fun j hj=>by have:=qA bG j hj;omega)
  have n2:w2.cell? ⟨w1.heap.size,2,none⟩=some (.int .i64 (t:Int)):=yN.cell (by simp) (by omega) (by omega) (fun j hj=>by have:=qA bG j hj;omega)
  have uF:=qC ((((qA y8).mono rV).trans ((qG (qD w1 _)).mono (by omega))).trans qY)
  clear s9 vJ qY yN a0 a1 d0 d1 d2 i0 i1 i2 i3 i4 i5 i6 j0 j1 j2
  go_wp2_with fail
  refine(qA yJ _ xQ cI td' (qA tN) (qA mO) (by omega)).mono ?_
  rintro e w3 ⟨rfl,uN,_,vs2,av2,td2,hW3,nG,hm3⟩
  have HW3:=qC hW3
  have HS3:=qC (qA HSL _ _ nG)
  have uO:=qC ((qA uF).trans uN)
  clear hW3 nG uN
  go_wp2
  go_end0
  exact⟨rfl,qA uO,vs2,av2,td2,qA HW3,qA HS3,by omega⟩
theorem qP2(B X sb:Nat)(b off:Nat)(n cc:Nat)(S:Nat)(Q:List Nat)(c:List LI)(vs:List Bool)(av:Value)(td:List Nat)(k h t qn:Nat)(iM:Int)(zO:ByteArray)(zM zP:Int)(zL:ByteArray)(w:World)(hG:uS S Q c)(hc:c.length=n)(hn:n≤400)(hW:zQ w B X sb (some ⟨b,off,none⟩) n cc c vs av td)(hS:gE c vs td k [])(hx:c[k]? = some ⟨⟨9,(qn:Int),iM,zO,zM,zP,zL⟩,h,t⟩)(hm:dN vs td≤1000)
  (c0:w.cell? ⟨b,off+k*7,none⟩=some (.int .i64 9)) (c1:w.cell? ⟨b,off+k*7+1,none⟩=some (.int .i64 (qn:Int))) (c2:w.cell? ⟨b,off+k*7+2,none⟩=some (.int .i64 iM)) (c3:w.cell? ⟨b,off+k*7+3,none⟩=some (.string zO)) (c4:w.cell? ⟨b,off+k*7+4,none⟩=some (.int .i64 zM)) (c5:w.cell? ⟨b,off+k*7+5,none⟩=some (.int .i64 zP)) (c6:w.cell? ⟨b,off+k*7+6,none⟩=some (.string zL)) :
  Calls Tryz.prog 42 #[.pointer (some ⟨X,0,none⟩),.int .i64 (k:Int)] w (cG B X sb (some ⟨b,off,none⟩) n cc c vs td w):=by
 obtain⟨cL,hdn,dO,yE,hI,_⟩:=hG.ok k _ hx
 dsimp only at cL hdn dO yE hI
 have wC:k<n:=by rw[←hc];exact(List.getElem?_eq_some_iff.1 hx).1
 have sJ:k<vs.length:=by rw[hS.len,hc];exact wC
 obtain⟨k0,k1,k2,k3⟩:=hW.cells
 obtain⟨s0,s1,s2⟩:=hW.st.cell sJ
 have nV:vs[k]=true:=by have:=hS.k';rw[List.getElem?_eq_getElem sJ]at this;exact Option.some.inj this
 rw[nV]at s0
 rw[dL hx hS.k']at s1
 rw[wN hx hS.k']at s2
 dsimp only at s1 s2
 have mP:X<w.heap.size:=World.block_lt_of_cell? _ _ k0
 have hsl:sb<w.heap.size:=World.block_lt_of_cell? _ _ s0
 have nT:b<w.heap.size:=World.block_lt_of_cell? _ _ c0
 have rV:B≤w.heap.size:=Nat.le_trans hW.bx (Nat.le_of_lt mP)
 have aX:(k:Int)<(n:Int):=by omega
 have bG:=qC (show ∀ j,av.ownBlock=some j→j<w.heap.size from fun j hj=>(hW.ah.own_lt j hj).2)
 have htv:mM ⟨9,(qn:Int),iM,zO,zM,zP,zL⟩=1:=rfl
 have hmv:sD ⟨9,(qn:Int),iM,zO,zM,zP,zL⟩=0:=rfl
 rw[htv]at cL
 have kH:yR ⟨9,(qn:Int),iM,zO,zM,zP,zL⟩ k h t=[((k+1),(h-1),t),(qn,h,t)]:=by simp[yR]
 have HE:=qC fun w=>uD ⟨9,(qn:Int),iM,zO,zM,zP,zL⟩ w (by simp) (by simp) (by simp) (by simp)
 rw[htv,hmv]at HE
 have HC:=qC fun (W:World) (hW:zQ W B X sb (some ⟨b,off,none⟩) n cc c vs av td)=>mA B X sb (some ⟨b,off,none⟩) n cc S Q c vs av td [] k qn h t ⟨⟨9,(qn:Int),iM,zO,zM,zP,zL⟩,h,t⟩ W hG hc hn hW hS hx (by rw[kH];simp) hm
 have yJ:=qC fun (W:World) (vs1:List Bool) (av1:Value) (td1:List Nat) (hW:zQ W B X sb (some ⟨b,off,none⟩) n cc c vs1 av1 td1) (dF:gE c vs1 td1 k [qn]) (kM:dN vs1 td1≤1000)=>mA B X sb (some ⟨b,off,none⟩) n cc S Q c vs1 av1 td1 [qn] k (k+1) (h-1) t ⟨⟨9,(qn:Int),iM,zO,zM,zP,zL⟩,h,t⟩ W hG hc hn hW dF hx (by rw[kH];simp) kM
 have HW:=qC hW
 have HSL:Hid (∀ xQ td',gE c xQ td' k [(k+1),qn]→nN c xQ td'):=qC fun xQ td' hs=>hs.left fun q hq=>by
  rw[pO hx,kH]at hq
  simp at hq ⊢
  omega
 have aZ:=qC fun w=>uI 9 w (by omega) (by omega)
 rw[show xL 9=true from rfl]at aZ
 obtain⟨H2,hH2⟩:∃ H2,h-1=H2:=⟨_,rfl⟩
 rw[hH2]at yJ
 have e1:IntKind.i64.wrap ((0:Int)-(1:Int))=(0:Int)-(1:Int):=by rw[IntKind.wrap_i64];omega
 have e2:IntKind.i64.wrap ((h:Int)+((0:Int)-(1:Int)))=((H2:Nat):Int):=by rw[IntKind.wrap_i64];omega
 have e6:(h:Int) + -1=(H2:Int):=by omega
 have e7:(h:Int)-1=(H2:Int):=by omega
 clear hH2
 have jF:¬(h:Int)<(1:Int):=by omega
 have e3:IntKind.i64.wrap ((k:Int)+1)=((k+1:Nat):Int):=by rw[IntKind.wrap_i64];omega
 clear hW hG hS hx hI kH nV sJ
 go_enter Tryz.func42,Tryz.ntmps42
 go_wp2
 go_region
 ·have yH:xN ((w.alloc (.cells #[.int .i64 9,.int .i64 (qn:Int),.int .i64 iM,.string zO,.int .i64 zM,.int .i64 zP,.string zL] 41)).alloc (.cells #[.bool true,.int .i64 (h:Int),.int .i64 (t:Int)] 59)).drew (w.heap.size) (w.heap.size+1) ⟨9,(qn:Int),iM,zO,zM,zP,zL⟩ h t:=by constructor <;> simp
  have gN:Below w.heap.size w ((w.alloc (.cells #[.int .i64 9,.int .i64 (qn:Int),.int .i64 iM,.string zO,.int .i64 zM,.int .i64 zP,.string zL] 41)).alloc (.cells #[.bool true,.int .i64 (h:Int),.int .i64 (t:Int)] 59)).drew:=qF (qG (qD _ _))
  have wW:w.heap.size+1<((w.alloc (.cells #[.int .i64 9,.int .i64 (qn:Int),.int .i64 iM,.string zO,.int .i64 zM,.int .i64 zP,.string zL] 41)).alloc (.cells #[.bool true,.int .i64 (h:Int),.int .i64 (t:Int)] 59)).drew.heap.size:=by simp
  generalize ((w.alloc (.cells #[.int .i64 9,.int .i64 (qn:Int),.int .i64 iM,.string zO,.int .i64 zM,.int .i64 zP,.string zL] 41)).alloc (.cells #[.bool true,.int .i64 (h:Int),.int .i64 (t:Int)] 59)).drew=W0 at yH gN wW ⊢
  have dR:=qC yH
  have dP:=qC gN
  obtain⟨i0,i1,i2,i3,i4,i5,i6,j0,j1,j2⟩:=yH
  dsimp only at i0 i1 i2 i3 i4 i5 i6
  clear gN c0 c1 c2 c3 c4 c5 c6 k0 k1 k2 k3 s0 s1 s2
  go_wp2_with fail
  refine(qA HE _).mono ?_
  rintro e w1 ⟨rfl,jD⟩
  clear i0 i1 i2 i3 i4 i5 i6 j0 j1 j2
  have wE:=qC ((qA dR).later jD)
  obtain⟨i0,i1,i2,i3,i4,i5,i6,j0,j1,j2⟩:=qA wE
  dsimp only at i0 i1 i2 i3 i4 i5 i6
  have y8:=qC (qE (qA dP) jD)
  have yF:=qC ((qA HW).later (qA y8))
  have wJ:w.heap.size+1<w1.heap.size:=by have:=jD.size;omega
  have a0:∀ o1 o2,((w1.alloc o1).alloc o2).cell? ⟨w.heap.size,0,none⟩=some (.int .i64 9):=fun o1 o2=>cell_later (qG (qD _ _)) i0
  have a1:∀ o1 o2,((w1.alloc o1).alloc o2).cell? ⟨w.heap.size,1,none⟩=some (.int .i64 (qn:Int)):=fun o1 o2=>cell_later (qG (qD _ _)) i1
  have d0:∀ o1 o2,((w1.alloc o1).alloc o2).cell? ⟨w.heap.size+1,0,none⟩=some (.bool true):=fun o1 o2=>cell_later (qG (qD _ _)) j0
  have d1:∀ o1 o2,((w1.alloc o1).alloc o2).cell? ⟨w.heap.size+1,1,none⟩=some (.int .i64 (h:Int)):=fun o1 o2=>cell_later (qG (qD _ _)) j1
  have d2:∀ o1 o2,((w1.alloc o1).alloc o2).cell? ⟨w.heap.size+1,2,none⟩=some (.int .i64 (t:Int)):=fun o1 o2=>cell_later (qG (qD _ _)) j2
  clear jD dR
  go_wp2_with fail
  refine(qA aZ _).mono ?_
  rintro e w' ⟨rfl,rfl⟩
  go_wp2_with fail
  refine(qA HC _ ((qA yF).later (qG (qD _ _)))).mono ?_
  rintro e w2 ⟨rfl,qY,yN,xQ,cI,td',s9,vJ,aK⟩
  have tN:=qC s9
  have mO:=qC vJ
  have hX1:X<w.heap.size:=mP
  have f0:w2.cell? ⟨w.heap.size,0,none⟩=some (.int .i64 9):=yN.cell (a0 _ _) (by omega) (by omega) (fun j hj=>by have:=qA bG j hj;omega)
  have n0:w2.cell? ⟨w1.heap.size,0,none⟩=some (.bool true):=yN.cell (by simp) (by omega) (by omega) (fun j hj=>by have:=qA bG j hj;omega)
  have n1:w2.cell? ⟨w1.heap.size,1,none⟩=some (.int .i64 (H2:Int)):=yN.cell (by simp) (by omega) (by omega) (fun j hj=>by have:=qA bG j hj;omega)
  have n2:w2.cell? ⟨w1.heap.size,2,none⟩=some (.int .i64 (t:Int)):=yN.cell (by simp) (by omega) (by omega) (fun j hj=>by have:=qA bG j hj;omega)
  have uF:=qC ((((qA y8).mono rV).trans ((qG (qD w1 _)).mono (by omega))).trans qY)
  clear s9 vJ qY yN a0 a1 d0 d1 d2 i0 i1 i2 i3 i4 i5 i6 j0 j1 j2
  go_wp2_with fail
  refine(qA yJ _ xQ cI td' (qA tN) (qA mO) (by omega)).mono ?_
  rintro e w3 ⟨rfl,uN,_,vs2,av2,td2,hW3,nG,hm3⟩
  have HW3:=qC hW3
  have HS3:=qC (qA HSL _ _ nG)
  have uO:=qC ((qA uF).trans uN)
  clear hW3 nG uN
  go_wp2
  go_end0
  exact⟨rfl,qA uO,vs2,av2,td2,qA HW3,qA HS3,by omega⟩
 ·have yH:xN ((w.alloc (.cells #[.bool true,.int .i64 (h:Int),.int .i64 (t:Int)] 59)).alloc (.cells #[.int .i64 9,.int .i64 (qn:Int),.int .i64 iM,.string zO,.int .i64 zM,.int .i64 zP,.string zL] 41)).drew (w.heap.size+1) (w.heap.size) ⟨9,(qn:Int),iM,zO,zM,zP,zL⟩ h t:=by constructor <;> simp
  have gN:Below w.heap.size w ((w.alloc (.cells #[.bool true,.int .i64 (h:Int),.int .i64 (t:Int)] 59)).alloc (.cells #[.int .i64 9,.int .i64 (qn:Int),.int .i64 iM,.string zO,.int .i64 zM,.int .i64 zP,.string zL] 41)).drew:=qF (qG (qD _ _))
  have wW:w.heap.size+1<((w.alloc (.cells #[.bool true,.int .i64 (h:Int),.int .i64 (t:Int)] 59)).alloc (.cells #[.int .i64 9,.int .i64 (qn:Int),.int .i64 iM,.string zO,.int .i64 zM,.int .i64 zP,.string zL] 41)).drew.heap.size:=by simp
  generalize ((w.alloc (.cells #[.bool true,.int .i64 (h:Int),.int .i64 (t:Int)] 59)).alloc (.cells #[.int .i64 9,.int .i64 (qn:Int),.int .i64 iM,.string zO,.int .i64 zM,.int .i64 zP,.string zL] 41)).drew=W0 at yH gN wW ⊢
  have dR:=qC yH
  have dP:=qC gN
  obtain⟨i0,i1,i2,i3,i4,i5,i6,j0,j1,j2⟩:=yH
  dsimp only at i0 i1 i2 i3 i4 i5 i6
  clear gN c0 c1 c2 c3 c4 c5 c6 k0 k1 k2 k3 s0 s1 s2
  go_wp2_with fail
  refine(qA HE _).mono ?_
  rintro e w1 ⟨rfl,jD⟩
  clear i0 i1 i2 i3 i4 i5 i6 j0 j1 j2
  have wE:=qC ((qA dR).later jD)
  obtain⟨i0,i1,i2,i3,i4,i5,i6,j0,j1,j2⟩:=qA wE
  dsimp only at i0 i1 i2 i3 i4 i5 i6
  have y8:=qC (qE (qA dP) jD)
  have yF:=qC ((qA HW).later (qA y8))
  have wJ:w.heap.size+1<w1.heap.size:=by have:=jD.size;omega
  have a0:∀ o1 o2,((w1.alloc o1).alloc o2).cell? ⟨w.heap.size+1,0,none⟩=some (.int .i64 9):=fun o1 o2=>cell_later (qG (qD _ _)) i0
  have a1:∀ o1 o2,((w1.alloc o1).alloc o2).cell? ⟨w.heap.size+1,1,none⟩=some (.int .i64 (qn:Int)):=fun o1 o2=>cell_later (qG (qD _ _)) i1
  have d0:∀ o1 o2,((w1.alloc o1).alloc o2).cell? ⟨w.heap.size,0,none⟩=some (.bool true):=fun o1 o2=>cell_later (qG (qD _ _)) j0
  have d1:∀ o1 o2,((w1.alloc o1).alloc o2).cell? ⟨w.heap.size,1,none⟩=some (.int .i64 (h:Int)):=fun o1 o2=>cell_later (qG (qD _ _)) j1
  have d2:∀ o1 o2,((w1.alloc o1).alloc o2).cell? ⟨w.heap.size,2,none⟩=some (.int .i64 (t:Int)):=fun o1 o2=>cell_later (qG (qD _ _)) j2
  clear jD dR
  go_wp2_with fail
  refine(qA aZ _).mono ?_
  rintro e w' ⟨rfl,rfl⟩
  go_wp2_with fail
  refine(qA HC _ ((qA yF).later (qG (qD _ _)))).mono ?_
  rintro e w2 ⟨rfl,qY,yN,xQ,cI,td',s9,vJ,aK⟩
  have tN:=qC s9
  have mO:=qC vJ
  have hX1:X<w.heap.size:=mP
  have f0:w2.cell? ⟨w.heap.size+1,0,none⟩=some (.int .i64 9):=yN.cell (a0 _ _) (by omega) (by omega) (fun j hj=>by have:=qA bG j hj;omega)
  have n0:w2.cell? ⟨w1.heap.size,0,none⟩=some (.bool true):=yN.cell (by simp) (by omega) (by omega) (fun j hj=>by have:=qA bG j hj;omega)
  have n1:w2.cell? ⟨w1.heap.size,1,none⟩=some (.int .i64 (H2:Int)):=yN.cell (by simp) (by omega) (by omega) (fun j hj=>by have:=qA bG j hj;omega)
  have n2:w2.cell? ⟨w1.heap.size,2,none⟩=some (.int .i64 (t:Int)):=yN.cell (by simp) (by omega) (by omega) (fun j hj=>by have:=qA bG j hj;omega)
  have uF:=qC ((((qA y8).mono rV).trans ((qG (qD w1 _)).mono (by omega))).trans qY)
  clear s9 vJ qY yN a0 a1 d0 d1 d2 i0 i1 i2 i3 i4 i5 i6 j0 j1 j2
  go_wp2_with fail
  refine(qA yJ _ xQ cI td' (qA tN) (qA mO) (by omega)).mono ?_
  rintro e w3 ⟨rfl,uN,_,vs2,av2,td2,hW3,nG,hm3⟩
  have HW3:=qC hW3
  have HS3:=qC (qA HSL _ _ nG)
  have uO:=qC ((qA uF).trans uN)
  clear hW3 nG uN
  go_wp2
  go_end0
  exact⟨rfl,qA uO,vs2,av2,td2,qA HW3,qA HS3,by omega⟩
theorem qNH(B X sb:Nat)(b off:Nat)(n cc:Nat)(S:Nat)(Q:List Nat)(c:List LI)(vs:List Bool)(av:Value)(td:List Nat)(k h t qn:Nat)(iM:Int)(zO:ByteArray)(zM zP:Int)(zL:ByteArray)(w:World)(hG:uS S Q c)(hc:c.length=n)(hn:n≤400)(hW:zQ w B X sb (some ⟨b,off,none⟩) n cc c vs av td)(hS:gE c vs td k [])(hx:c[k]? = some ⟨⟨14,(qn:Int),iM,zO,zM,zP,zL⟩,h,t⟩)(hm:dN vs td≤1000)
  (c0:w.cell? ⟨b,off+k*7,none⟩=some (.int .i64 14)) (c1:w.cell? ⟨b,off+k*7+1,none⟩=some (.int .i64 (qn:Int))) (c2:w.cell? ⟨b,off+k*7+2,none⟩=some (.int .i64 iM)) (c3:w.cell? ⟨b,off+k*7+3,none⟩=some (.string zO)) (c4:w.cell? ⟨b,off+k*7+4,none⟩=some (.int .i64 zM)) (c5:w.cell? ⟨b,off+k*7+5,none⟩=some (.int .i64 zP)) (c6:w.cell? ⟨b,off+k*7+6,none⟩=some (.string zL)) :
  Calls Tryz.prog 42 #[.pointer (some ⟨X,0,none⟩),.int .i64 (k:Int)] w (cG B X sb (some ⟨b,off,none⟩) n cc c vs td w):=by
 obtain⟨cL,hdn,dO,yE,hI,_⟩:=hG.ok k _ hx
 dsimp only at cL hdn dO yE hI
 have wC:k<n:=by rw[←hc];exact(List.getElem?_eq_some_iff.1 hx).1
 have sJ:k<vs.length:=by rw[hS.len,hc];exact wC
 obtain⟨k0,k1,k2,k3⟩:=hW.cells
 obtain⟨s0,s1,s2⟩:=hW.st.cell sJ
 have nV:vs[k]=true:=by have:=hS.k';rw[List.getElem?_eq_getElem sJ]at this;exact Option.some.inj this
 rw[nV]at s0
 rw[dL hx hS.k']at s1
 rw[wN hx hS.k']at s2
 dsimp only at s1 s2
 have mP:X<w.heap.size:=World.block_lt_of_cell? _ _ k0
 have hsl:sb<w.heap.size:=World.block_lt_of_cell? _ _ s0
 have nT:b<w.heap.size:=World.block_lt_of_cell? _ _ c0
 have rV:B≤w.heap.size:=Nat.le_trans hW.bx (Nat.le_of_lt mP)
 have aX:(k:Int)<(n:Int):=by omega
 have bG:=qC (show ∀ j,av.ownBlock=some j→j<w.heap.size from fun j hj=>(hW.ah.own_lt j hj).2)
 have htv:mM ⟨14,(qn:Int),iM,zO,zM,zP,zL⟩=0:=rfl
 have hmv:sD ⟨14,(qn:Int),iM,zO,zM,zP,zL⟩=0:=rfl
 rw[htv]at cL
 have kH:yR ⟨14,(qn:Int),iM,zO,zM,zP,zL⟩ k h t=[((k+1),h,(t+1)),(qn,(h+1),t)]:=by simp[yR]
 have HE:=qC fun w=>uD ⟨14,(qn:Int),iM,zO,zM,zP,zL⟩ w (by simp) (by simp) (by simp) (by simp)
 rw[htv,hmv]at HE
 have HC:=qC fun (W:World) (hW:zQ W B X sb (some ⟨b,off,none⟩) n cc c vs av td)=>mA B X sb (some ⟨b,off,none⟩) n cc S Q c vs av td [] k qn (h+1) t ⟨⟨14,(qn:Int),iM,zO,zM,zP,zL⟩,h,t⟩ W hG hc hn hW hS hx (by rw[kH];simp) hm
 have yJ:=qC fun (W:World) (vs1:List Bool) (av1:Value) (td1:List Nat) (hW:zQ W B X sb (some ⟨b,off,none⟩) n cc c vs1 av1 td1) (dF:gE c vs1 td1 k [qn]) (kM:dN vs1 td1≤1000)=>mA B X sb (some ⟨b,off,none⟩) n cc S Q c vs1 av1 td1 [qn] k (k+1) h (t+1) ⟨⟨14,(qn:Int),iM,zO,zM,zP,zL⟩,h,t⟩ W hG hc hn hW dF hx (by rw[kH];simp) kM
 have HW:=qC hW
 have HSL:Hid (∀ xQ td',gE c xQ td' k [(k+1),qn]→nN c xQ td'):=qC fun xQ td' hs=>hs.left fun q hq=>by
  rw[pO hx,kH]at hq
  simp at hq ⊢
  omega
 have aZ:=qC fun w=>uI 14 w (by omega) (by omega)
 rw[show xL 14=true from rfl]at aZ
 have e1:IntKind.i64.wrap ((0:Int)-(0:Int))=(0:Int)-(0:Int):=by rw[IntKind.wrap_i64];omega
 have e2:IntKind.i64.wrap ((h:Int)+((0:Int)-(0:Int)))=((h:Nat):Int):=by rw[IntKind.wrap_i64];omega
 have jF:¬(h:Int)<(0:Int):=by omega
 have e3:IntKind.i64.wrap ((k:Int)+1)=((k+1:Nat):Int):=by rw[IntKind.wrap_i64];omega
 have e4:IntKind.i64.wrap ((h:Int)+1)=((h+1:Nat):Int):=by rw[IntKind.wrap_i64];omega
 have e5:IntKind.i64.wrap ((t:Int)+1)=((t+1:Nat):Int):=by rw[IntKind.wrap_i64];omega
 clear hW hG hS hx hI kH nV sJ
 go_enter Tryz.func42,Tryz.ntmps42
 go_wp2
 go_region
 ·have yH:xN ((w.alloc (.cells #[.int .i64 14,.int .i64 (qn:Int),.int .i64 iM,.string zO,.int .i64 zM,.int .i64 zP,.string zL] 41)).alloc (.cells #[.bool true,.int .i64 (h:Int),.int .i64 (t:Int)] 59)).drew (w.heap.size) (w.heap.size+1) ⟨14,(qn:Int),iM,zO,zM,zP,zL⟩ h t:=by constructor <;> simp
  have gN:Below w.heap.size w ((w.alloc (.cells #[.int .i64 14,.int .i64 (qn:Int),.int .i64 iM,.string zO,.int .i64 zM,.int .i64 zP,.string zL] 41)).alloc (.cells #[.bool true,.int .i64 (h:Int),.int .i64 (t:Int)] 59)).drew:=qF (qG (qD _ _))
  have wW:w.heap.size+1<((w.alloc (.cells #[.int .i64 14,.int .i64 (qn:Int),.int .i64 iM,.string zO,.int .i64 zM,.int .i64 zP,.string zL] 41)).alloc (.cells #[.bool true,.int .i64 (h:Int),.int .i64 (t:Int)] 59)).drew.heap.size:=by simp
  generalize ((w.alloc (.cells #[.int .i64 14,.int .i64 (qn:Int),.int .i64 iM,.string zO,.int .i64 zM,.int .i64 zP,.string zL] 41)).alloc (.cells #[.bool true,.int .i64 (h:Int),.int .i64 (t:Int)] 59)).drew=W0 at yH gN wW ⊢
  have dR:=qC yH
  have dP:=qC gN
  obtain⟨i0,i1,i2,i3,i4,i5,i6,j0,j1,j2⟩:=yH
  dsimp only at i0 i1 i2 i3 i4 i5 i6
  clear gN c0 c1 c2 c3 c4 c5 c6 k0 k1 k2 k3 s0 s1 s2
  go_wp2_with fail
  refine(qA HE _).mono ?_
  rintro e w1 ⟨rfl,jD⟩
  clear i0 i1 i2 i3 i4 i5 i6 j0 j1 j2
  have wE:=qC ((qA dR).later jD)
  obtain⟨i0,i1,i2,i3,i4,i5,i6,j0,j1,j2⟩:=qA wE
  dsimp only at i0 i1 i2 i3 i4 i5 i6
  have y8:=qC (qE (qA dP) jD)
  have yF:=qC ((qA HW).later (qA y8))
  have wJ:w.heap.size+1<w1.heap.size:=by have:=jD.size;omega
  have a0:∀ o1 o2,((w1.alloc o1).alloc o2).cell? ⟨w.heap.size,0,none⟩=some (.int .i64 14):=fun o1 o2=>cell_later (qG (qD _ _)) i0
  have a1:∀ o1 o2,((w1.alloc o1).alloc o2).cell? ⟨w.heap.size,1,none⟩=some (.int .i64 (qn:Int)):=fun o1 o2=>cell_later (qG (qD _ _)) i1
  have d0:∀ o1 o2,((w1.alloc o1).alloc o2).cell? ⟨w.heap.size+1,0,none⟩=some (.bool true):=fun o1 o2=>cell_later (qG (qD _ _)) j0
  have d1:∀ o1 o2,((w1.alloc o1).alloc o2).cell? ⟨w.heap.size+1,1,none⟩=some (.int .i64 (h:Int)):=fun o1 o2=>cell_later (qG (qD _ _)) j1
  have d2:∀ o1 o2,((w1.alloc o1).alloc o2).cell? ⟨w.heap.size+1,2,none⟩=some (.int .i64 (t:Int)):=fun o1 o2=>cell_later (qG (qD _ _)) j2
  clear jD dR
  go_wp2_with fail
  refine(qA aZ _).mono ?_
  rintro e w' ⟨rfl,rfl⟩
  go_wp2_with fail
  refine(qA HC _ ((qA yF).later (qG (qD _ _)))).mono ?_
  rintro e w2 ⟨rfl,qY,yN,xQ,cI,td',s9,vJ,aK⟩
  have tN:=qC s9
  have mO:=qC vJ
  have hX1:X<w.heap.size:=mP
  have f0:w2.cell? ⟨w.heap.size,0,none⟩=some (.int .i64 14):=yN.cell (a0 _ _) (by omega) (by omega) (fun j hj=>by have:=qA bG j hj;omega)
  have n0:w2.cell? ⟨w1.heap.size,0,none⟩=some (.bool true):=yN.cell (by simp) (by omega) (by omega) (fun j hj=>by have:=qA bG j hj;omega)
  have n1:w2.cell? ⟨w1.heap.size,1,none⟩=some (.int .i64 (h:Int)):=yN.cell (by simp) (by omega) (by omega) (fun j hj=>by have:=qA bG j hj;omega)
  have n2:w2.cell? ⟨w1.heap.size,2,none⟩=some (.int .i64 ((t+1):Int)):=yN.cell (by simp) (by omega) (by omega) (fun j hj=>by have:=qA bG j hj;omega)
  have uF:=qC ((((qA y8).mono rV).trans ((qG (qD w1 _)).mono (by omega))).trans qY)
  clear s9 vJ qY yN a0 a1 d0 d1 d2 i0 i1 i2 i3 i4 i5 i6 j0 j1 j2
  go_wp2_with fail
  refine(qA yJ _ xQ cI td' (qA tN) (qA mO) (by omega)).mono ?_
  rintro e w3 ⟨rfl,uN,_,vs2,av2,td2,hW3,nG,hm3⟩
  have HW3:=qC hW3
  have HS3:=qC (qA HSL _ _ nG)
  have uO:=qC ((qA uF).trans uN)
  clear hW3 nG uN
  go_wp2
  go_end0
  exact⟨rfl,qA uO,vs2,av2,td2,qA HW3,qA HS3,by omega⟩
 ·have yH:xN ((w.alloc (.cells #[.bool true,.int .i64 (h:Int),.int .i64 (t:Int)] 59)).alloc (.cells #[.int .i64 14,.int .i64 (qn:Int),.int .i64 iM,.string zO,.int .i64 zM,.int .i64 zP,.string zL] 41)).drew (w.heap.size+1) (w.heap.size) ⟨14,(qn:Int),iM,zO,zM,zP,zL⟩ h t:=by constructor <;> simp
  have gN:Below w.heap.size w ((w.alloc (.cells #[.bool true,.int .i64 (h:Int),.int .i64 (t:Int)] 59)).alloc (.cells #[.int .i64 14,.int .i64 (qn:Int),.int .i64 iM,.string zO,.int .i64 zM,.int .i64 zP,.string zL] 41)).drew:=qF (qG (qD _ _))
  have wW:w.heap.size+1<((w.alloc (.cells #[.bool true,.int .i64 (h:Int),.int .i64 (t:Int)] 59)).alloc (.cells #[.int .i64 14,.int .i64 (qn:Int),.int .i64 iM,.string zO,.int .i64 zM,.int .i64 zP,.string zL] 41)).drew.heap.size:=by simp
  generalize ((w.alloc (.cells #[.bool true,.int .i64 (h:Int),.int .i64 (t:Int)] 59)).alloc (.cells #[.int .i64 14,.int .i64 (qn:Int),.int .i64 iM,.string zO,.int .i64 zM,.int .i64 zP,.string zL] 41)).drew=W0 at yH gN wW ⊢
  have dR:=qC yH
  have dP:=qC gN
  obtain⟨i0,i1,i2,i3,i4,i5,i6,j0,j1,j2⟩:=yH
  dsimp only at i0 i1 i2 i3 i4 i5 i6
  clear gN c0 c1 c2 c3 c4 c5 c6 k0 k1 k2 k3 s0 s1 s2
  go_wp2_with fail
  refine(qA HE _).mono ?_
  rintro e w1 ⟨rfl,jD⟩
  clear i0 i1 i2 i3 i4 i5 i6 j0 j1 j2
  have wE:=qC ((qA dR).later jD)
  obtain⟨i0,i1,i2,i3,i4,i5,i6,j0,j1,j2⟩:=qA wE
  dsimp only at i0 i1 i2 i3 i4 i5 i6
  have y8:=qC (qE (qA dP) jD)
  have yF:=qC ((qA HW).later (qA y8))
  have wJ:w.heap.size+1<w1.heap.size:=by have:=jD.size;omega
  have a0:∀ o1 o2,((w1.alloc o1).alloc o2).cell? ⟨w.heap.size+1,0,none⟩=some (.int .i64 14):=fun o1 o2=>cell_later (qG (qD _ _)) i0
  have a1:∀ o1 o2,((w1.alloc o1).alloc o2).cell? ⟨w.heap.size+1,1,none⟩=some (.int .i64 (qn:Int)):=fun o1 o2=>cell_later (qG (qD _ _)) i1
  have d0:∀ o1 o2,((w1.alloc o1).alloc o2).cell? ⟨w.heap.size,0,none⟩=some (.bool true):=fun o1 o2=>cell_later (qG (qD _ _)) j0
  have d1:∀ o1 o2,((w1.alloc o1).alloc o2).cell? ⟨w.heap.size,1,none⟩=some (.int .i64 (h:Int)):=fun o1 o2=>cell_later (qG (qD _ _)) j1
  have d2:∀ o1 o2,((w1.alloc o1).alloc o2).cell? ⟨w.heap.size,2,none⟩=some (.int .i64 (t:Int)):=fun o1 o2=>cell_later (qG (qD _ _)) j2
  clear jD dR
  go_wp2_with fail
  refine(qA aZ _).mono ?_
  rintro e w' ⟨rfl,rfl⟩
  go_wp2_with fail
  refine(qA HC _ ((qA yF).later (qG (qD _ _)))).mono ?_
  rintro e w2 ⟨rfl,qY,yN,xQ,cI,td',s9,vJ,aK⟩
  have tN:=qC s9
  have mO:=qC vJ
  have hX1:X<w.heap.size:=mP
  have f0:w2.cell? ⟨w.heap.size+1,0,none⟩=some (.int .i64 14):=yN.cell (a0 _ _) (by omega) (by omega) (fun j hj=>by have:=qA bG j hj;omega)
  have n0:w2.cell? ⟨w1.heap.size,0,none⟩=some (.bool true):=yN.cell (by simp) (by omega) (by omega) (fun j hj=>by have:=qA bG j hj;omega)
  have n1:w2.cell? ⟨w1.heap.size,1,none⟩=some (.int .i64 (h:Int)):=yN.cell (by simp) (by omega) (by omega) (fun j hj=>by have:=qA bG j hj;omega)
  have n2:w2.cell? ⟨w1.heap.size,2,none⟩=some (.int .i64 ((t+1):Int)):=yN.cell (by simp) (by omega) (by omega) (fun j hj=>by have:=qA bG j hj;omega)
  have uF:=qC ((((qA y8).mono rV).trans ((qG (qD w1 _)).mono (by omega))).trans qY)
  clear s9 vJ qY yN a0 a1 d0 d1 d2 i0 i1 i2 i3 i4 i5 i6 j0 j1 j2
  go_wp2_with fail
  refine(qA yJ _ xQ cI td' (qA tN) (qA mO) (by omega)).mono ?_
  rintro e w3 ⟨rfl,uN,_,vs2,av2,td2,hW3,nG,hm3⟩
  have HW3:=qC hW3
  have HS3:=qC (qA HSL _ _ nG)
  have uO:=qC ((qA uF).trans uN)
  clear hW3 nG uN
  go_wp2
  go_end0
  exact⟨rfl,qA uO,vs2,av2,td2,qA HW3,qA HS3,by omega⟩
theorem qMT(B X sb:Nat)(b off:Nat)(n cc:Nat)(S:Nat)(Q:List Nat)(c:List LI)(vs:List Bool)(av:Value)(td:List Nat)(k h t qn:Nat)(iM:Int)(zO:ByteArray)(zM zP:Int)(zL:ByteArray)(w:World)(hG:uS S Q c)(hc:c.length=n)(hn:n≤400)(hW:zQ w B X sb (some ⟨b,off,none⟩) n cc c vs av td)(hS:gE c vs td k [])(hx:c[k]? = some ⟨⟨15,(qn:Int),iM,zO,zM,zP,zL⟩,h,t⟩)(hm:dN vs td≤1000)
  (c0:w.cell? ⟨b,off+k*7,none⟩=some (.int .i64 15)) (c1:w.cell? ⟨b,off+k*7+1,none⟩=some (.int .i64 (qn:Int))) (c2:w.cell? ⟨b,off+k*7+2,none⟩=some (.int .i64 iM)) (c3:w.cell? ⟨b,off+k*7+3,none⟩=some (.string zO)) (c4:w.cell? ⟨b,off+k*7+4,none⟩=some (.int .i64 zM)) (c5:w.cell? ⟨b,off+k*7+5,none⟩=some (.int .i64 zP)) (c6:w.cell? ⟨b,off+k*7+6,none⟩=some (.string zL)) :
  Calls Tryz.prog 42 #[.pointer (some ⟨X,0,none⟩),.int .i64 (k:Int)] w (cG B X sb (some ⟨b,off,none⟩) n cc c vs td w):=by
 obtain⟨cL,hdn,dO,yE,hI,_⟩:=hG.ok k _ hx
 dsimp only at cL hdn dO yE hI
 have wC:k<n:=by rw[←hc];exact(List.getElem?_eq_some_iff.1 hx).1
 have sJ:k<vs.length:=by rw[hS.len,hc];exact wC
 obtain⟨k0,k1,k2,k3⟩:=hW.cells
 obtain⟨s0,s1,s2⟩:=hW.st.cell sJ
 have nV:vs[k]=true:=by have:=hS.k';rw[List.getElem?_eq_getElem sJ]at this;exact Option.some.inj this
 rw[nV]at s0
 rw[dL hx hS.k']at s1
 rw[wN hx hS.k']at s2
 dsimp only at s1 s2
 have mP:X<w.heap.size:=World.block_lt_of_cell? _ _ k0
 have hsl:sb<w.heap.size:=World.block_lt_of_cell? _ _ s0
 have nT:b<w.heap.size:=World.block_lt_of_cell? _ _ c0
 have rV:B≤w.heap.size:=Nat.le_trans hW.bx (Nat.le_of_lt mP)
 have aX:(k:Int)<(n:Int):=by omega
 have bG:=qC (show ∀ j,av.ownBlock=some j→j<w.heap.size from fun j hj=>(hW.ah.own_lt j hj).2)
 have htv:mM ⟨15,(qn:Int),iM,zO,zM,zP,zL⟩=0:=rfl
 have hmv:sD ⟨15,(qn:Int),iM,zO,zM,zP,zL⟩=0:=rfl
 rw[htv]at cL
 have kH:yR ⟨15,(qn:Int),iM,zO,zM,zP,zL⟩ k h t=[((k+1),h,(t-1))]:=by simp[yR]
 have HE:=qC fun w=>uD ⟨15,(qn:Int),iM,zO,zM,zP,zL⟩ w (by simp) (by simp) (by simp) (by simp)
 rw[htv,hmv]at HE
 have HC:=qC fun (W:World) (hW:zQ W B X sb (some ⟨b,off,none⟩) n cc c vs av td)=>mA B X sb (some ⟨b,off,none⟩) n cc S Q c vs av td [] k (k+1) h (t-1) ⟨⟨15,(qn:Int),iM,zO,zM,zP,zL⟩,h,t⟩ W hG hc hn hW hS hx (by rw[kH];simp) hm
 have HW:=qC hW
 have HSL:Hid (∀ xQ td',gE c xQ td' k [(k+1)]→nN c xQ td'):=qC fun xQ td' hs=>hs.left fun q hq=>by
  rw[pO hx,kH]at hq
  simp at hq ⊢
  omega
 have aZ:=qC fun w=>uI 15 w (by omega) (by omega)
 rw[show xL 15=false from rfl]at aZ
 have e1:IntKind.i64.wrap ((0:Int)-(0:Int))=(0:Int)-(0:Int):=by rw[IntKind.wrap_i64];omega
 have e2:IntKind.i64.wrap ((h:Int)+((0:Int)-(0:Int)))=((h:Nat):Int):=by rw[IntKind.wrap_i64];omega
 have jF:¬(h:Int)<(0:Int):=by omega
 have e3:IntKind.i64.wrap ((k:Int)+1)=((k+1:Nat):Int):=by rw[IntKind.wrap_i64];omega
 have h1t:1≤t:=hdn rfl
 have e5:IntKind.i64.wrap ((t:Int)-1)=((t-1:Nat):Int):=by rw[IntKind.wrap_i64];omega
 have t0:((t:Int) == 0)=false:=by simp;omega
 clear hW hG hS hx hI kH nV sJ
 go_enter Tryz.func42,Tryz.ntmps42
 go_wp2
 go_region
 ·have yH:xN ((w.alloc (.cells #[.int .i64 15,.int .i64 (qn:Int),.int .i64 iM,.string zO,.int .i64 zM,.int .i64 zP,.string zL] 41)).alloc (.cells #[.bool true,.int .i64 (h:Int),.int .i64 (t:Int)] 59)).drew (w.heap.size) (w.heap.size+1) ⟨15,(qn:Int),iM,zO,zM,zP,zL⟩ h t:=by constructor <;> simp
  have gN:Below w.heap.size w ((w.alloc (.cells #[.int .i64 15,.int .i64 (qn:Int),.int .i64 iM,.string zO,.int .i64 zM,.int .i64 zP,.string zL] 41)).alloc (.cells #[.bool true,.int .i64 (h:Int),.int .i64 (t:Int)] 59)).drew:=qF (qG (qD _ _))
  have wW:w.heap.size+1<((w.alloc (.cells #[.int .i64 15,.int .i64 (qn:Int),.int .i64 iM,.string zO,.int .i64 zM,.int .i64 zP,.string zL] 41)).alloc (.cells #[.bool true,.int .i64 (h:Int),.int .i64 (t:Int)] 59)).drew.heap.size:=by simp
  generalize ((w.alloc (.cells #[.int .i64 15,.int .i64 (qn:Int),.int .i64 iM,.string zO,.int .i64 zM,.int .i64 zP,.string zL] 41)).alloc (.cells #[.bool true,.int .i64 (h:Int),.int .i64 (t:Int)] 59)).drew=W0 at yH gN wW ⊢
  have dR:=qC yH
  have dP:=qC gN
  obtain⟨i0,i1,i2,i3,i4,i5,i6,j0,j1,j2⟩:=yH
  dsimp only at i0 i1 i2 i3 i4 i5 i6
  clear gN c0 c1 c2 c3 c4 c5 c6 k0 k1 k2 k3 s0 s1 s2
  go_wp2_with fail
  refine(qA HE _).mono ?_
  rintro e w1 ⟨rfl,jD⟩
  clear i0 i1 i2 i3 i4 i5 i6 j0 j1 j2
  have wE:=qC ((qA dR).later jD)
  obtain⟨i0,i1,i2,i3,i4,i5,i6,j0,j1,j2⟩:=qA wE
  dsimp only at i0 i1 i2 i3 i4 i5 i6
  have y8:=qC (qE (qA dP) jD)
  have yF:=qC ((qA HW).later (qA y8))
  have wJ:w.heap.size+1<w1.heap.size:=by have:=jD.size;omega
  have a0:∀ o1 o2,((w1.alloc o1).alloc o2).cell? ⟨w.heap.size,0,none⟩=some (.int .i64 15):=fun o1 o2=>cell_later (qG (qD _ _)) i0
  have a1:∀ o1 o2,((w1.alloc o1).alloc o2).cell? ⟨w.heap.size,1,none⟩=some (.int .i64 (qn:Int)):=fun o1 o2=>cell_later (qG (qD _ _)) i1
  have d0:∀ o1 o2,((w1.alloc o1).alloc o2).cell? ⟨w.heap.size+1,0,none⟩=some (.bool true):=fun o1 o2=>cell_later (qG (qD _ _)) j0
  have d1:∀ o1 o2,((w1.alloc o1).alloc o2).cell? ⟨w.heap.size+1,1,none⟩=some (.int .i64 (h:Int)):=fun o1 o2=>cell_later (qG (qD _ _)) j1
  have d2:∀ o1 o2,((w1.alloc o1).alloc o2).cell? ⟨w.heap.size+1,2,none⟩=some (.int .i64 (t:Int)):=fun o1 o2=>cell_later (qG (qD _ _)) j2
  clear jD dR
  go_wp2_with fail
  refine(qA aZ _).mono ?_
  rintro e w' ⟨rfl,rfl⟩
  go_wp2_with fail
  refine(qA HC _ ((qA yF).later (qG (qD _ _)))).mono ?_
  rintro e w2 ⟨rfl,qY,_,xQ,cI,td',s9,vJ,aK⟩
  have tN:=qC s9
  have mO:=qC (qA HSL _ _ vJ)
  have uF:=qC ((((qA y8).mono rV).trans ((qG (qD w1 _)).mono (by omega))).trans qY)
  clear s9 vJ qY
  go_wp2
  go_end0
  exact⟨rfl,qA uF,xQ,cI,td',qA tN,qA mO,aK⟩
 ·have yH:xN ((w.alloc (.cells #[.bool true,.int .i64 (h:Int),.int .i64 (t:Int)] 59)).alloc (.cells #[.int .i64 15,.int .i64 (qn:Int),.int .i64 iM,.string zO,.int .i64 zM,.int .i64 zP,.string zL] 41)).drew (w.heap.size+1) (w.heap.size) ⟨15,(qn:Int),iM,zO,zM,zP,zL⟩ h t:=by constructor <;> simp
  have gN:Below w.heap.size w ((w.alloc (.cells #[.bool true,.int .i64 (h:Int),.int .i64 (t:Int)] 59)).alloc (.cells #[.int .i64 15,.int .i64 (qn:Int),.int .i64 iM,.string zO,.int .i64 zM,.int .i64 zP,.string zL] 41)).drew:=qF (qG (qD _ _))
  have wW:w.heap.size+1<((w.alloc (.cells #[.bool true,.int .i64 (h:Int),.int .i64 (t:Int)] 59)).alloc (.cells #[.int .i64 15,.int .i64 (qn:Int),.int .i64 iM,.string zO,.int .i64 zM,.int .i64 zP,.string zL] 41)).drew.heap.size:=by simp
  generalize ((w.alloc (.cells #[.bool true,.int .i64 (h:Int),.int .i64 (t:Int)] 59)).alloc (.cells #[.int .i64 15,.int .i64 (qn:Int),.int .i64 iM,.string zO,.int .i64 zM,.int .i64 zP,.string zL] 41)).drew=W0 at yH gN wW ⊢
  have dR:=qC yH
  have dP:=qC gN
  obtain⟨i0,i1,i2,i3,i4,i5,i6,j0,j1,j2⟩:=yH
  dsimp only at i0 i1 i2 i3 i4 i5 i6
  clear gN c0 c1 c2 c3 c4 c5 c6 k0 k1 k2 k3 s0 s1 s2
  go_wp2_with fail
  refine(qA HE _).mono ?_
  rintro e w1 ⟨rfl,jD⟩
  clear i0 i1 i2 i3 i4 i5 i6 j0 j1 j2
  have wE:=qC ((qA dR).later jD)
  obtain⟨i0,i1,i2,i3,i4,i5,i6,j0,j1,j2⟩:=qA wE
  dsimp only at i0 i1 i2 i3 i4 i5 i6
  have y8:=qC (qE (qA dP) jD)
  have yF:=qC ((qA HW).later (qA y8))
  have wJ:w.heap.size+1<w1.heap.size:=by have:=jD.size;omega
  have a0:∀ o1 o2,((w1.alloc o1).alloc o2).cell? ⟨w.heap.size+1,0,none⟩=some (.int .i64 15):=fun o1 o2=>cell_later (qG (qD _ _)) i0
  have a1:∀ o1 o2,((w1.alloc o1).alloc o2).cell? ⟨w.heap.size+1,1,none⟩=some (.int .i64 (qn:Int)):=fun o1 o2=>cell_later (qG (qD _ _)) i1
  have d0:∀ o1 o2,((w1.alloc o1).alloc o2).cell? ⟨w.heap.size,0,none⟩=some (.bool true):=fun o1 o2=>cell_later (qG (qD _ _)) j0
  have d1:∀ o1 o2,((w1.alloc o1).alloc o2).cell? ⟨w.heap.size,1,none⟩=some (.int .i64 (h:Int)):=fun o1 o2=>cell_later (qG (qD _ _)) j1
  have d2:∀ o1 o2,((w1.alloc o1).alloc o2).cell? ⟨w.heap.size,2,none⟩=some (.int .i64 (t:Int)):=fun o1 o2=>cell_later (qG (qD _ _)) j2
  clear jD dR
  go_wp2_with fail
  refine(qA aZ _).mono ?_
  rintro e w' ⟨rfl,rfl⟩
  go_wp2_with fail
  refine(qA HC _ ((qA yF).later (qG (qD _ _)))).mono ?_
  rintro e w2 ⟨rfl,qY,_,xQ,cI,td',s9,vJ,aK⟩
  have tN:=qC s9
  have mO:=qC (qA HSL _ _ vJ)
  have uF:=qC ((((qA y8).mono rV).trans ((qG (qD w1 _)).mono (by omega))).trans qY)
  clear s9 vJ qY
  go_wp2
  go_end0
  exact⟨rfl,qA uF,xQ,cI,td',qA tN,qA mO,aK⟩
end
end Go.Proofs.YtbgkfaclfnkloaaGreatDoor
