import Derived.Test.YtbgkfaclfnkloaaGreatDoorG28
import Derived.Test.YtbgkfaclfnkloaaGreatDoorG20
import Derived.Deep.RegionLaw
namespace Go.Proofs.YtbgkfaclfnkloaaGreatDoor
set_option linter.all false
set_option maxHeartbeats 4000000
set_option maxRecDepth 100000
section
open Go.RowKit Go.Joins
theorem qOc:(Tryz.prog.info? 128).map (fun i=>(i.zero,i.size,i.bytes))=some (some (.agg #[.int .i64 0,.int .i64 0,.string ⟨#[]⟩,.slice none 0 0,.slice none 0 0]),5,80):=by kernel_rfl
theorem qIa(w:World){ops:Array Oper}{rest:List Oper}{o:Oper}{a:Act}{Q:Exit→Act→World→Prop}(gM:o.guard=none)(s x:Operand)
  (ho:o.op=.call { callee:=.builtin .append,args:=#[s,x],argTypes:=#[28,28] }) (base qOS:Nat) (v v2:Value) (zs ys:List Int) (hs:a.eval s=v)
  (zE:qR w base v zs) (hx:a.eval x=v2) (qFy:qR w qOS v2 ys) (uA:base≤w.heap.size) (hl:zs.length+ys.length≤1000000000)
  (h:∀ v' w',qR w' base v' (zs++ys)→Below base w w'→wpList Tryz.prog ops Q rest (a.put o.dst v') w'):wpList Tryz.prog ops Q (o::rest) a w:=by
 have hs2:=qFy
 rcases qFy.2 with ⟨h1,h0⟩ | ⟨g,cap,cur,e,hg,hgg,r⟩
 ·subst h1
  have hy:ys=[]:=List.length_eq_zero_iff.1 h0
  subst hy
  obtain⟨i0,hi,wW,wJ,gB⟩:=info_parts l6
  refine wpList_append_own_none gM s x 28 ho base 3 i0 1 Tryz.underlying28 hi v _ _ hs zE hx ?_
  exact h v w (by rw[List.append_nil];exact zE) (Below.refl _ _)
 ·subst e
  exact qM0 w gM s x ho base g ys.length cap v zs ys hs zE hx rfl (fun i hi=>hs2.get i hi) uA hl h
theorem qAy.one{w:World}{g:Nat}{E:Nat→Prop}{v u:Value}{zs:List Int}(h:qAy w g E v u zs):u.oneCell'=true:=by
 obtain⟨a,cap,rfl,_⟩:=h;rfl
theorem lA.one{w:World}{g:Nat}{E:Nat→Prop}{v u:Value}{zs:List ByteArray}(h:lA w g E v u zs):u.oneCell'=true:=by
 obtain⟨a,cap,rfl,_⟩:=h;rfl
theorem qK4(w:World){ops:Array Oper}{o:Oper}{a:Act}{K:Act→World→Prop}{Q:Exit→Act→World→Prop}{E:Prop}(gM:o.guard=none)(s x:Operand)
  (ho:o.op=.call { callee:=.builtin .append,args:=#[s,x],argTypes:=#[92,92] }) (g q:Nat) (lc:PX) (v:Value) (ns:List TN) (cs:List NC) (c:NC) (hs:a.eval s=v)
  (kF:cF w g lc v ns cs) (hx:a.eval x=.slice (some ⟨q,0,none⟩) 1 1) (cM:w.cell? ⟨q,0,none⟩=some (.int .i64 c.x.k)) (xZ:w.cell? ⟨q,1,none⟩=some (.int .i64 c.x.n)) (wZ:w.cell? ⟨q,2,none⟩=some (.string c.x.t)) (hc3:w.cell? ⟨q,3,none⟩=some c.un) (hc4:w.cell? ⟨q,4,none⟩=some c.uk) (hg:g<w.heap.size) (hl:ns.length≤1000) (hnk:lA w g lc.E v c.un c.x.names) (a8:qAy w g lc.E v c.uk c.x.kids) (hEx:∀ j,lc.E j→j<w.heap.size) (hbg:lc.b≤g) (hnf:c.x.names.length≤1000000)
  (h:∀ v' w',cF w' g lc v' (ns++[c.x]) (cs++[c])→PK g v v' w w'→w'.heap[g]? = w.heap[g]?→K (a.put o.dst v') w'):if Region.wanted o (yielded ops a.tmps)=true then Oper.wp Tryz.prog o a w K Q else E:=by
 have hw:Region.wanted o (yielded ops a.tmps)=true:=by simp[Region.wanted,gM]
 rw[if_pos hw]
 have hlen:=kF.len
 obtain⟨i0,hi,wW,wJ,gB⟩:=info_parts qOc
 have sL:∀ j u,(mC c)[j]? = some u→w.cell? ((⟨q,0,none⟩:Addr).add j)=some u:=by
  intro j u' hj
  match j,hj with
  | 0,hj=>simp[mC]at hj;subst hj;simpa[Addr.add]using cM
  | 1,hj=>simp[mC]at hj;subst hj;simpa[Addr.add]using xZ
  | 2,hj=>simp[mC]at hj;subst hj;simpa[Addr.add]using wZ
  | 3,hj=>simp[mC]at hj;subst hj;simpa[Addr.add]using hc3
  | 4,hj=>simp[mC]at hj;subst hj;simpa[Addr.add]using hc4
  | j+5,hj=>simp[mC]at hj
 have h1:∀ u∈mC c,u.oneCell'=true:=by
  intro u' r5
  simp[mC]at r5
  rcases r5 with rfl | rfl | rfl | rfl | rfl
  ·rfl
  ·rfl
  ·rfl
  ·exact hnk.one
  ·exact a8.one
 obtain⟨v',w',hr,h2,h3,h4⟩:=run_append_own (P:=Tryz.prog) w lc.b 92 o.type 128 i0 _ 5 80 Tryz.underlying92 hi wW wJ gB rfl (by decide) v cs.length (vZ cs) kF.row ⟨q,0,none⟩ 1 1 (mC c) rfl sL h1 (by unfold maxLen;omega) (by omega) (by omega)
 have hwh:=fN (P:=Tryz.prog) w lc.b 92 o.type 128 i0 _ 5 80 Tryz.underlying92 hi wW wJ gB v cs.length (vZ cs) kF.row ⟨q,0,none⟩ 1 1 (by omega) (mC c) rfl sL h1 (by unfold maxLen;omega) (by omega) v' w' hr
 have hb:=(Below.refl _ _).grown h3 (show lc.b≤w.heap.size by omega) (fun j hj=>(World.ownsRow.lt kF.row j hj).1)
 have hk:PK g v v' w w':=⟨hb.os,hb.tape,hb.output,hb.size,fun k hk _ hv=>h3.block k hk (fun e=>hv e.symm),fun j hj=>by
  rcases hwh with e | e
  ·exact .inl (e▸hj)
  ·rw[e]at hj
   exact .inr (by have:=Option.some.inj hj;omega)⟩
 have pU:PK g v v' w w':=hk
 unfold Oper.wp execOp
 simp only[ho,resolve,invoke,builtin,Sem.run_bind,Sem.run_pure,Result.andThen_ok,List.map_toArray,List.map_cons,List.map_nil,hs,hx,hr]
 rw[←qCJ,show cs.length+1=(cs++[c]).length by simp]at h2
 refine h v' w' ⟨by simp[kF.map],h2,fun j hj=>?_,fun d hd=>?_,fun j hj he=>?_,fun d hd=>?_⟩ hk (h3.block g hg (fun e=>kF.ng g e.symm rfl))
 ·rcases hk.own j hj with e | e
  ·exact kF.ng j e
  ·omega
 rotate_left
 ·rcases hk.own j hj with e | e
  ·exact kF.off j e he
  ·have:=hEx j he;omega
 ·rcases List.mem_append.1 hd with hd | hd
  ·exact kF.few d hd
  ·rw[List.mem_singleton.1 hd];exact hnf
 rcases List.mem_append.1 hd with hd | hd
 ·exact⟨(kF.each d hd).1.keep hk,(kF.each d hd).2.keep hk⟩
 ·rw[List.mem_singleton.1 hd]
  exact⟨hnk.keep hk,a8.keep hk⟩
def rE(w:World)(q:Nat)(x:TN)(un uk:Value):Prop:=w.heap[q]? = some (.cells #[.int .i64 x.k,.int .i64 x.n,.string x.t,un,uk] 128 (0,0))
theorem rE.cells{w:World}{q:Nat}{x:TN}{un uk:Value}(h:rE w q x un uk):w.cell? ⟨q,0,none⟩=some (.int .i64 x.k)∧w.cell? ⟨q,1,none⟩=some (.int .i64 x.n)∧w.cell? ⟨q,2,none⟩=some (.string x.t)∧w.cell? ⟨q,3,none⟩=some un∧w.cell? ⟨q,4,none⟩=some uk:=by
 refine⟨?_,?_,?_,?_,?_⟩ <;> (rw[cell_of_block h];rfl)
theorem rE.free{w:World}{q:Nat}{x:TN}{un uk:Value}(h:rE w q x un uk)(i:Nat):w.frozen? ⟨q,i,none⟩=false:=unfrozen_of_block h i
theorem rE.same{w w':World}{q:Nat}{x:TN}{un uk:Value}(h:rE w q x un uk)(hb:w'.heap[q]? = w.heap[q]?):rE w' q x un uk:=hb.trans h
theorem rE.set3{w:World}{q:Nat}{x:TN}{un uk:Value}(h:rE w q x un uk)(u:Value):rE (w.setCell ⟨q,3,none⟩ u) q x u uk:=by
 have:=block_setCell (i:=3) h u
 exact this
theorem rE.set4{w:World}{q:Nat}{x:TN}{un uk:Value}(h:rE w q x un uk)(u:Value):rE (w.setCell ⟨q,4,none⟩ u) q x un u:=by
 have:=block_setCell (i:=4) h u
 exact this
theorem zD.grow{w w':World}{g:Nat}{lp:Option Addr}{lc:PX}{ts:List V3}{v v':Value}{s:PS}{x:TN}{cs:List NC}(h:zD w g lp lc ts v s)(hr:cF w' g lc v' (s.ns++[x]) cs)(hk:PK g v v' w w')(hg:w'.heap[g]? = w.heap[g]?):zD (w'.setCell ⟨g,2,none⟩ v') g lp lc ts v' { s with ns:=s.ns++[x] }:=by
 have hb:=block_setCell (i:=2) (hg.trans h.blk) v'
 have yN:PK g v v' w (w'.setCell ⟨g,2,none⟩ v'):=hk.set
 refine⟨hb,fun i hi=>?_,h.tb,h.bg,⟨cs,hr.keep (PK.refl g v' w').set fun j hj=>Below.heap_setCell w' ⟨g,2,none⟩ v' j (by show j≠g;have:=hr.own j hj;omega)⟩,fun j hj=>⟨(h.ex j hj).1,Nat.lt_of_lt_of_le (h.ex j hj).2 yN.size⟩,h.hat⟩
 obtain⟨b,off,rfl,h0,h1,h2⟩:=h.toks i hi
 have hbb:=h.tb _ rfl
 have hbg:b<g:=Nat.lt_of_lt_of_le hbb h.bg
 have hv:v.ownBlock≠some b:=fun e=>by have:=(h.own b e).1.1;exact absurd hbb (Nat.not_lt.2 this)
 exact⟨b,off,rfl,yN.cell h0 (by omega) hv,yN.cell h1 (by omega) hv,yN.cell h2 (by omega) hv⟩
theorem qT8{w w':World}{g:Nat}(h:w'.heap[g]? = w.heap[g]?)(o:Nat):w'.cell? ⟨g,o,none⟩=w.cell? ⟨g,o,none⟩:=World.cell?_of_block (w:=w) (a:=⟨g,o,none⟩) h
theorem qPz{w w':World}{g:Nat}(h:w'.heap[g]? = w.heap[g]?)(o:Nat):w'.frozen? ⟨g,o,none⟩=w.frozen? ⟨g,o,none⟩:=World.frozen?_of_block (w:=w) (a:=⟨g,o,none⟩) h
def PP(g:Nat)(lp:Option Addr)(lc:PX)(ts:List V3)(v:Value)(w:World)(s':PS)(w':World):Prop:=∃ v',zD w' g lp lc ts v' s'∧PK g v v' w w'
theorem qIg{g:Nat}{lp:Option Addr}{lc:PX}{ts:List V3}{v:Value}{s:PS}{w:World}(qS:TS ts)(h:zD w g lp lc ts v s)(hf:qM s)(x:TN)(un uk:Value)(b1 b2:Nat)(hn:jY w b1 un x.names)(hk:qR w b2 uk x.kids)(hl1:x.names.length≤1000000)(hl2:x.kids.length≤1000000) :
  Calls Tryz.prog 85 #[.pointer (some ⟨g,0,none⟩),.agg #[.int .i64 x.k,.int .i64 x.n,.string x.t,un,uk]] w fun e w'=>e=.returned (.int .i64 (jZ ts x s).1)∧PP g lp lc ts v w (jZ ts x s).2 w':=by
 have hg:=h.lt
 have hf':s.ns.length≤200:=hf
 obtain⟨va,vc,hv⟩:=h.slice
 obtain⟨na,nc,hna⟩:=hn.slice
 obtain⟨ka,kc,hka⟩:=hk.slice
 subst hna
 subst hka
 have H0:=qC (h.alloc (.cells #[.int .i64 x.k,.int .i64 x.n,.string x.t,.slice na x.names.length nc,.slice ka x.kids.length kc] 128))
 have dP:=qC (qD w (.cells #[.int .i64 x.k,.int .i64 x.n,.string x.t,.slice na x.names.length nc,.slice ka x.kids.length kc] 128))
 have xI:Hid (rE (w.alloc (.cells #[.int .i64 x.k,.int .i64 x.n,.string x.t,.slice na x.names.length nc,.slice ka x.kids.length kc] 128)) w.heap.size x (.slice na x.names.length nc) (.slice ka x.kids.length kc)):=qC (heap_alloc_new w _)
 have hs0:(w.alloc (.cells #[.int .i64 x.k,.int .i64 x.n,.string x.t,.slice na x.names.length nc,.slice ka x.kids.length kc] 128)).heap.size=w.heap.size+1:=by simp
 unfold jZ
 by_cases h2:s.ns.length=200
 ·rw[if_pos h2]
  have HF:=qC (qHi qS (qA H0) 6)
  have c2:=(qA H0).cells.2.2.1
  rw[hv]at c2
  have e2:((s.ns.length:Int) == 200)=true:=by rw[h2];rfl
  clear h qS hf hn hk hf' hv H0 xI h2
  go_enter Tryz.func85,Tryz.ntmps85
  go_wp2_with fail
  refine(qA HF).mono ?_
  rintro e w2 ⟨rfl,hp,yN⟩
  have H2:=qC hp
  have qH:=qC ((PK.of_below (qA dP)).trans yN)
  clear HF dP hp yN
  go_wp2
  go_ret
  exact⟨rfl,v,qA H2,qA qH⟩
 ·rw[if_neg h2]
  have e2:((s.ns.length:Int) == 200)=false:=beq_eq_false_iff_ne.2 (by omega)
  have c2:=(qA H0).cells.2.2.1
  have d3:=(qA xI).cells.2.2.2.1
  have HP:=qC h
  have HN0:=qC hn
  have qVu:=qC hk
  have HV:=qC hv
  rw[hv]at c2
  clear h qS hf hn hk h2 hv
  have cH:Hid (jY ((w.alloc (.cells #[.int .i64 x.k,.int .i64 x.n,.string x.t,.slice na x.names.length nc,.slice ka x.kids.length kc] 128)).alloc (.cells #[] 9)) (w.heap.size+1) (.slice (some ⟨w.heap.size+1,0,none⟩) 0 0) []):=qC (by simpa using jY.lit (w.alloc (.cells #[.int .i64 x.k,.int .i64 x.n,.string x.t,.slice na x.names.length nc,.slice ka x.kids.length kc] 128)) (w.heap.size+1) [] (by simp) (by decide))
  have wK:=qC ((qA HN0).later (qG (o:=.cells #[] 9) (qA dP)))
  have uF:=qC (qG (o:=.cells #[] 9) (qA dP))
  have u7:Hid (rE ((w.alloc (.cells #[.int .i64 x.k,.int .i64 x.n,.string x.t,.slice na x.names.length nc,.slice ka x.kids.length kc] 128)).alloc (.cells #[] 9)) w.heap.size x (.slice na x.names.length nc) (.slice ka x.kids.length kc)):=qC ((qA xI).same ((qD _ _).block _ (by simp)))
  go_enter Tryz.func85,Tryz.ntmps85
  go_wp2_with (at_builtin;refine qK7 _ rfl _ _ rfl (w.heap.size+1) b1 _ (.slice na x.names.length nc) [] x.names rfl (qA cH) rfl (qA wK) (by simp) (by simp;omega) ?c0)
  case c0=>
   intro v3 w3 nG uN
   obtain⟨a3,k3,hv3⟩:=nG.slice
   subst hv3
   have uO:Hid (Below w.heap.size w w3):=qC ((qA uF).trans ⟨uN.os,uN.tape,uN.output,uN.size,fun k hk=>uN.block k (by omega)⟩)
   have hX3:rE w3 w.heap.size x (.slice na x.names.length nc) (.slice ka x.kids.length kc):=(qA u7).same (uN.block _ (by omega))
   have hz3:=uN.size
   simp at hz3
   have hq3:w.heap.size<w3.heap.size:=by omega
   have hg3:g<w3.heap.size:=by omega
   obtain⟨y0,y1,y2,y3,y4⟩:=hX3.cells
   have z3:=hX3.free 3
   have wH:=qC (hX3.set3 (.slice a3 x.names.length k3))
   have pV:Hid (Below w.heap.size w (w3.setCell ⟨w.heap.size,3,none⟩ (.slice a3 x.names.length k3))):=qC (jE (qA uO) (Nat.le_refl _))
   have rY:Hid (qR ((w3.setCell ⟨w.heap.size,3,none⟩ (.slice a3 x.names.length k3)).alloc (.cells #[] 3)) w3.heap.size (.slice (some ⟨w3.heap.size,0,none⟩) 0 0) []):=qC (by simpa using qR.lit (w3.setCell ⟨w.heap.size,3,none⟩ (.slice a3 x.names.length k3)) w3.heap.size [] (by simp) (by decide))
   have lO:=qC (qG (o:=.cells #[] 3) (qA pV))
   have tV:=qC ((qA qVu).later (qA lO))
   have wX:Hid (rE ((w3.setCell ⟨w.heap.size,3,none⟩ (.slice a3 x.names.length k3)).alloc (.cells #[] 3)) w.heap.size x (.slice a3 x.names.length k3) (.slice ka x.kids.length kc)):=qC ((qA wH).same ((qD _ _).block _ (by simp;omega)))
   have HS3:=qC nG
   clear hX3 nG uN hz3 cH wK uF u7 xI c2 d3 hs0 uO wH pV
   go_wp2_with (at_builtin;refine qIa _ rfl _ _ rfl w3.heap.size b2 _ (.slice ka x.kids.length kc) [] x.kids rfl (qA rY) rfl (qA tV) (by simp) (by simp;omega) ?c1)
   case c1=>
    intro v6 w6 hI6 hb6
    obtain⟨a6,k6,hv6⟩:=hI6.slice
    subst hv6
    have hX6:rE w6 w.heap.size x (.slice a3 x.names.length k3) (.slice ka x.kids.length kc):=(qA wX).same (hb6.block _ (by omega))
    have HB6:Hid (Below w.heap.size w w6):=qC ((qA lO).trans ⟨hb6.os,hb6.tape,hb6.output,hb6.size,fun k hk=>hb6.block k (by omega)⟩)
    have hz6:=hb6.size
    simp at hz6
    have hq6:w.heap.size<w6.heap.size:=by omega
    have hS6:jY w6 (w.heap.size+1) (.slice a3 x.names.length k3) x.names:=jJ (qA HS3) fun j hj=>by
     have hj':=(qA HS3).own_lt j hj
     rw[hb6.block j (by omega),Below.heap_alloc _ _ _ (by simp;omega),Below.heap_setCell _ _ _ _ (by show j≠w.heap.size;omega)]
    obtain⟨u0,u1,u2,u3,u4⟩:=hX6.cells
    have z4:=hX6.free 4
    have HX7:=qC (hX6.set4 (.slice a6 x.kids.length k6))
    have HB7:Hid (Below w.heap.size w (w6.setCell ⟨w.heap.size,4,none⟩ (.slice a6 x.kids.length k6))):=qC (jE (qA HB6) (Nat.le_refl _))
    have hP7:zD (w6.setCell ⟨w.heap.size,4,none⟩ (.slice a6 x.kids.length k6)) g lp lc ts v s:=(qA HP).later (qA HB7)
    have hS7:jY (w6.setCell ⟨w.heap.size,4,none⟩ (.slice a6 x.kids.length k6)) (w.heap.size+1) (.slice a3 x.names.length k3) x.names:=jJ hS6 fun j hj=>by
     have hj':=hS6.own_lt j hj
     rw[Below.heap_setCell _ _ _ _ (by show j≠w.heap.size;omega)]
    have hI7:qR (w6.setCell ⟨w.heap.size,4,none⟩ (.slice a6 x.kids.length k6)) w3.heap.size (.slice a6 x.kids.length k6) x.kids:=jJ hI6 fun j hj=>by
     have hj':=hI6.own_lt j hj
     rw[Below.heap_setCell _ _ _ _ (by show j≠w.heap.size;omega)]
    have zE:=(qA HP).own
    have qSp:=(qA HP).ex
    have HNK:=qC (hS7.namesK (g:=g) (E:=lc.E) (v:=v) (by omega) (fun j hj e=>by have h1:=hS7.own_lt j hj;have h2:=zE j e;omega) (fun j hj e=>by have h1:=hS7.own_lt j hj;have h2:=qSp j e;omega))
    have HKK:=qC (hI7.kidsK (g:=g) (E:=lc.E) (v:=v) (by omega) (fun j hj e=>by have h1:=hI7.own_lt j hj;have h2:=zE j e;omega) (fun j hj e=>by have h1:=hI7.own_lt j hj;have h2:=qSp j e;omega))
    have hg7:g<w6.heap.size:=by omega
    clear hX6 hS6 hI6 hb6 hz6 rY lO tV wX HS3 HB6 hS7 hI7 zE qSp y0 y1 y2 y3 y4 z3 qVu HN0 H0 dP
    go_wp2
    generalize hw7:w6.setCell ⟨w.heap.size,4,none⟩ (.slice a6 x.kids.length k6)=w7 at HX7 HB7 hP7 HNK HKK ⊢
    have hs7:w7.heap.size=w6.heap.size:=by rw[←hw7];simp
    have hg8:g<w7.heap.size:=by omega
    have hq8:w.heap.size<w7.heap.size:=by omega
    obtain⟨cs,hr⟩:=hP7.row
    obtain⟨q0,q1,q2,q3,q4⟩:=(qA HX7).cells
    have c2:=hP7.cells.2.2.1
    have gB:=hP7.free 2
    rw[qA HV]at c2
    have hb8:=qF (qG (o:=(.cells #[.int .i64 x.k,.int .i64 x.n,.string x.t,.slice a3 x.names.length k3,.slice a6 x.kids.length k6] 128)) (Below.refl w7.heap.size w7))
    have RL:=qC (hr.later hb8)
    have RN:=qC ((qA HNK).keep (PK.of_below hb8))
    have RK:=qC ((qA HKK).keep (PK.of_below hb8))
    have HP8:=qC (hP7.later hb8)
    have HB8:=qC (hb8)
    have hX9:rE (w7.alloc (.cells #[.int .i64 x.k,.int .i64 x.n,.string x.t,.slice a3 x.names.length k3,.slice a6 x.kids.length k6] 128)).drew w7.heap.size x (.slice a3 x.names.length k3) (.slice a6 x.kids.length k6):=heap_alloc_new w7 _
    obtain⟨n0,n1,n2,n3,n4⟩:=hX9.cells
    have hg9:g<(w7.alloc (.cells #[.int .i64 x.k,.int .i64 x.n,.string x.t,.slice a3 x.names.length k3,.slice a6 x.kids.length k6] 128)).drew.heap.size:=Nat.lt_of_lt_of_le hg8 hb8.size
    clear hs7 hX9 hw7 hP7 HNK HKK HX7 hr hb8 u0 u1 u2 u3 u4 z4
    go_region_law (refine qK4 _ (by rfl) _ _ (by rfl) g w7.heap.size lc v s.ns cs ⟨x,(.slice a3 x.names.length k3),(.slice a6 x.kids.length k6)⟩ (by rw[qA HV];rfl) (qA RL) (by rfl) n0 n1 n2 n3 n4 hg9 (by omega) (qA RN) (qA RK) (fun j hj=>((qA HP8).ex j hj).2) (qA HP8).bg hl1 ?_;intro v9 w9 hR9 hk9 hb9;obtain⟨a9,k9,hv9⟩:=hR9.slice;subst hv9;have y2:=(qT8 hb9 2).trans (qA HP8).cells.2.2.1;have zz2:=(qPz hb9 2).trans ((qA HP8).free 2))
    all_goals
     have HF:=qC ((qA HP8).grow hR9 hk9 hb9)
     have HG:=qC ((((PK.of_below (g:=g) (v:=v) (qA HB7)).then_below (qA HB8)).trans hk9).set (o:=2) (x:=.slice a9 (s.ns++[x]).length k9))
     clear hR9 hk9 hb9
     rw[List.length_append,List.length_singleton]at HF HG
    all_goals go_wp2
    all_goals
     go_ret
     exact⟨rfl,_,qA HF,qA HG⟩
def lev:PF→Nat
 | .first=>1 | .sign=>2 | .prodL _=>3 | .prod=>4 | .sumL _=>5 | .sum=>6 | .orderL _=>7 | .order=>8 | .andL _=>9 | .and=>10 | .exprL _=>11 | .expr=>12
 | .args _=>13 | .block=>13 | .blockL _=>16 | .inner=>14 | .stmt=>15 | .func=>14 | .funcL _=>1 | .topL _=>17
def eG:PF→Nat
 | .first=>1 | .sign=>2 | .prodL _=>1 | .prod=>3 | .sumL _=>1 | .sum=>4 | .orderL _=>1 | .order=>5 | .andL _=>1 | .and=>6 | .exprL _=>1 | .expr=>1
 | .args _=>1 | .block=>2 | .blockL _=>1 | .inner=>3 | .stmt=>1 | .func=>3 | .funcL _=>1 | .topL _=>1
def zH(ts:List V3)(f:PF)(s:PS):Nat:=if s.code=0 then lev f+30*(ts.length+1-s.at') else eG f
theorem qJi(f:PF):1≤lev f∧lev f≤17∧1≤eG f∧eG f≤6:=by cases f <;> simp[lev,eG]
theorem pG{ts:List V3}{f:PF}{s:PS}{n:Nat}(h:zH ts f s≤n):∃ k,n=k+1:=by
 have:=qJi f
 unfold zH at h
 split at h
 ·exact⟨n-1,by omega⟩
 ·exact⟨n-1,by omega⟩
theorem qPS{ts:List V3}{f f':PF}{s s':PS}(hat:s.at'≤ts.length)(hle:qI s s')(h0:s.code=0→s'.code=0→lev f'<lev f∨s.at'<s'.at')(h1:¬s.code=0→eG f'<eG f):zH ts f' s'<zH ts f s:=by
 have a1:=qJi f
 have a2:=qJi f'
 have a3:=hle.at'
 unfold zH
 by_cases c:s.code=0
 ·rw[if_pos c]
  by_cases c':s'.code=0
  ·rw[if_pos c']
   rcases h0 c c' with h | h
   ·omega
   ·omega
  ·rw[if_neg c'];omega
 ·rw[if_neg c,if_neg (fun e=>c (hle.code e))]
  exact h1 c
theorem zZ{ts:List V3}{f f':PF}{s s':PS}{n:Nat}(hn:zH ts f s≤n+1)(hat:s.at'≤ts.length)(hle:qI s s')(h0:s.code=0→s'.code=0→lev f'<lev f∨s.at'<s'.at')(h1:¬s.code=0→eG f'<eG f):zH ts f' s'≤n:=by
 have:=qPS (f:=f) (f':=f') hat hle h0 h1
 omega
theorem j3{ts:List V3}{f f':PF}{s s':PS}{n:Nat}(hn:zH ts f s≤n+1)(hat:s.at'≤ts.length)(hle:qI s s')(jF:uP s s')(hc:s.code=0):zH ts f' s'≤n:=zZ hn hat hle (fun _ c=>.inr (jF c)) (fun c=>absurd hc c)
theorem tJ{ts:List V3}{s:PS}{t:List UInt8}(h:yL ts s t=true):s.code=0∧kA ts s t=true:=by
 unfold yL at h
 simp at h
 exact h
def PQ(ts:List V3)(n:Nat)(f:PF)(no:Nat):Prop:=∀ (g:Nat) (lp:Option Addr) (lc:PX) (v:Value) (s:PS) (w:World),zD w g lp lc ts v s→qM s→s.dp≤20→zH ts f s≤n→Calls Tryz.prog no #[.pointer (some ⟨g,0,none⟩)] w fun e w'=>e=.returned (.int .i64 (run ts n f s).r)∧PP g lp lc ts v w (run ts n f s).s w'
def PZ(no g:Nat)(lp:Option Addr)(lc:PX)(ts:List V3)(v:Value)(w:World)(o:PO):Prop:=Calls Tryz.prog no #[.pointer (some ⟨g,0,none⟩)] w fun e w'=>e=.returned (.int .i64 o.r)∧PP g lp lc ts v w o.s w'
theorem nt{b:Bool}(h:b=false):¬b=true:=by rw[h];simp
theorem zD.up{w:World}{g:Nat}{lp:Option Addr}{lc:PX}{ts:List V3}{v:Value}{s:PS}(h:zD w g lp lc ts v s):zD (w.setCell ⟨g,3,none⟩ (.int .i64 ((s.dp-1:Nat):Int))) g lp lc ts v (iG s):=by
 rw[qUe]
 exact h.setDp (s.dp-1)
theorem zD.adv2{w:World}{g:Nat}{lp:Option Addr}{lc:PX}{ts:List V3}{v:Value}{s:PS}(h:zD w g lp lc ts v s)(hn:s.at'+1<ts.length):zD (w.setCell ⟨g,1,none⟩ (.int .i64 ((s.at':Int)+2))) g lp lc ts v (qK (qK s)):=by
 have:=h.setAt (s.at'+1+1) hn
 rw[qII,qII]
 rw[show((s.at'+1+1:Nat):Int)=(s.at':Int)+2 by omega]at this
 exact this
theorem zD.up1{w:World}{g d:Nat}{lp:Option Addr}{lc:PX}{ts:List V3}{v:Value}{s:PS}(h:zD w g lp lc ts v s)(e:s.dp=d+1):zD (w.setCell ⟨g,3,none⟩ (.int .i64 (d:Int))) g lp lc ts v (iG s):=by
 have:=h.up
 rw[e,Nat.add_sub_cancel]at this
 exact this
theorem qBt{ts:List V3}{s:PS}(h:(jS ts s).code=0):s.dp+1≤20:=by
 unfold jS at h
 by_cases h2:20<s.dp+1
 ·rw[if_pos h2]at h
  exact absurd h (pX (by decide))
 ·omega
theorem qRT{t:ByteArray}{l:List UInt8}(h:¬t=⟨l.toArray⟩):(t.toList == l)=false:=beq_eq_false_iff_ne.2 fun e=>h (by
 rw[ByteArray.toList_eq]at e
 cases t;simp at e;rw[←e])
theorem qEr{g:Nat}{lp:Option Addr}{lc:PX}{ts:List V3}{v:Value}{s:PS}{w:World}(qS:TS ts)(h:zD w g lp lc ts v s)(hf:qM s)(k n:Int)(t:ByteArray) :
  Calls Tryz.prog 85 #[.pointer (some ⟨g,0,none⟩),.agg #[.int .i64 k,.int .i64 n,.string t,.slice none 0 0,.slice none 0 0]] w fun e w'=>e=.returned (.int .i64 (jZ ts ⟨k,n,t,[],[]⟩ s).1)∧PP g lp lc ts v w (jZ ts ⟨k,n,t,[],[]⟩ s).2 w':=
 qIg qS h hf ⟨k,n,t,[],[]⟩ (.slice none 0 0) (.slice none 0 0) 0 0 (jY.nil _ _) (qR.nil _ _) (by simp) (by simp)
theorem PP.from{g:Nat}{lp:Option Addr}{lc:PX}{ts:List V3}{v:Value}{w w1 w':World}{s':PS}(h:PP g lp lc ts v w1 s' w')(hb:Below w.heap.size w w1):PP g lp lc ts v w s' w':=by
 obtain⟨v',h1,h2⟩:=h
 exact⟨v',h1,(PK.of_below hb).trans h2⟩
theorem qM7{g:Nat}{lp:Option Addr}{lc:PX}{ts:List V3}{v:Value}{s:PS}{w:World}(qS:TS ts)(h:zD w g lp lc ts v s)(hf:qM s)(k:Int)(t:ByteArray)(zs:List Int)(hl:zs.length≤1000) :
  Calls Tryz.prog 85 #[.pointer (some ⟨g,0,none⟩),.agg #[.int .i64 k,.int .i64 0,.string t,.slice none 0 0,.slice (some ⟨w.heap.size,0,none⟩) zs.length zs.length]] (w.alloc (.cells (zs.map (Value.int .i64)).toArray 3)) fun e w'=>e=.returned (.int .i64 (jZ ts ⟨k,0,t,[],zs⟩ s).1)∧PP g lp lc ts v w (jZ ts ⟨k,0,t,[],zs⟩ s).2 w':=
 (qIg qS (h.alloc _) hf ⟨k,0,t,[],zs⟩ (.slice none 0 0) (.slice (some ⟨w.heap.size,0,none⟩) zs.length zs.length) 0 w.heap.size (jY.nil _ _) (qR.lit w w.heap.size zs (Nat.le_refl _) (by unfold maxLen;omega)) (by simp) (by simp;omega)).mono fun e w' ⟨h1,h2⟩=>⟨h1,h2.from (qD _ _)⟩
theorem aB{g:Nat}{lp:Option Addr}{lc:PX}{ts:List V3}{v:Value}{s:PS}{w:World}(qS:TS ts)(h:zD w g lp lc ts v s)(hf:qM s)(k:Int)(t:ByteArray)(a:Int) :
  Calls Tryz.prog 85 #[.pointer (some ⟨g,0,none⟩),.agg #[.int .i64 k,.int .i64 0,.string t,.slice none 0 0,.slice (some ⟨w.heap.size,0,none⟩) 1 1]] (w.alloc (.cells #[.int .i64 a] 3)) fun e w'=>e=.returned (.int .i64 (jZ ts ⟨k,0,t,[],[a]⟩ s).1)∧PP g lp lc ts v w (jZ ts ⟨k,0,t,[],[a]⟩ s).2 w':=qM7 qS h hf k t [a] (by simp)
theorem cQ{g:Nat}{lp:Option Addr}{lc:PX}{ts:List V3}{v:Value}{s:PS}{w:World}(qS:TS ts)(h:zD w g lp lc ts v s)(hf:qM s)(k:Int)(t:ByteArray)(a b:Int) :
  Calls Tryz.prog 85 #[.pointer (some ⟨g,0,none⟩),.agg #[.int .i64 k,.int .i64 0,.string t,.slice none 0 0,.slice (some ⟨w.heap.size,0,none⟩) 2 2]] (w.alloc (.cells #[.int .i64 a,.int .i64 b] 3)) fun e w'=>e=.returned (.int .i64 (jZ ts ⟨k,0,t,[],[a,b]⟩ s).1)∧PP g lp lc ts v w (jZ ts ⟨k,0,t,[],[a,b]⟩ s).2 w':=qM7 qS h hf k t [a,b] (by simp)
theorem qT3{g:Nat}{lp:Option Addr}{lc:PX}{ts:List V3}{v:Value}{s:PS}{w:World}(qS:TS ts)(h:zD w g lp lc ts v s)(hf:qM s)(k:Int)(t:ByteArray)(a b c:Int) :
  Calls Tryz.prog 85 #[.pointer (some ⟨g,0,none⟩),.agg #[.int .i64 k,.int .i64 0,.string t,.slice none 0 0,.slice (some ⟨w.heap.size,0,none⟩) 3 3]] (w.alloc (.cells #[.int .i64 a,.int .i64 b,.int .i64 c] 3)) fun e w'=>e=.returned (.int .i64 (jZ ts ⟨k,0,t,[],[a,b,c]⟩ s).1)∧PP g lp lc ts v w (jZ ts ⟨k,0,t,[],[a,b,c]⟩ s).2 w':=qM7 qS h hf k t [a,b,c] (by simp)
theorem qM.run{ts:List V3}{n:Nat}{f:PF}{s:PS}(h:qM s):qM (YtbgkfaclfnkloaaGreatDoor.run ts n f s).s:=qEI ts n f s h
theorem qL8{ts:List V3}(qS:Hid (TS ts))(n:Nat)(ih:Hid (∀ k,k≤n→PQ ts k .order 166)):PQ ts (n+1) .and 160:=by
 intro g lp lc v s w h hf hd hn
 have hat:=h.hat
 have HC:=qC (qA ih n (Nat.le_refl _) g lp lc v s w h hf hd (zZ hn hat (qI.refl s) (fun _ _=>.inl (by decide)) (fun _=>by decide)))
 have HR:run ts (n+1) .and s=run ts n (.andL (run ts n .order s).r) (run ts n .order s).s:=by rw[run]
 rw[HR]
 have kN:=qC (hf.run (ts:=ts) (n:=n) (f:=.order))
 have gP:=qC (zC ts n .order s)
 have wK:=qC (fun a=>zZ (f':=.andL a) hn hat (j5 ts n .order s s (qI.refl s)) (fun _ _=>.inl (show(9:Nat)<10 by decide)) (fun _=>(show(1:Nat)<6 by decide)))
 generalize run ts n .order s=o at HC kN gP wK ⊢
 clear h hf hn HR
 go_enter Tryz.func160,Tryz.ntmps160
 go_wp2_with fail
 refine(qA HC).mono ?_
 rintro e w1 ⟨rfl,v1,bK,kQ⟩
 have r6:=qC bK
 have yV:=qC kQ
 clear HC bK kQ
 go_wp2
 go_loopg [3] n (fun gn a wx=>∃ (a':Int) (s':PS) (v':Value),a=.int .i64 a'∧gn≤n∧Hid (zH ts (.andL a') s'≤gn)∧Hid (zD wx g lp lc ts v' s')∧Hid (PK g v v' w wx)∧Hid (qM s')∧Hid (s'.dp≤20)∧Hid (run ts gn (.andL a') s'=run ts n (.andL o.r) o.s))
 case atStart=>exact⟨o.r,o.s,v1,rfl,Nat.le_refl _,qC (qA wK _),r6,yV,kN,qC (by rw[qA gP];exact hd),qC rfl⟩
 case round=>
  obtain⟨a',s',v',rfl,hgn,HN,HP,HK,HF,HD,HRn⟩:=hrel
  obtain⟨k,hk⟩:=pG (qA HN)
  have yY:=qA HRn
  rw[hk,run]at yY
  have uY:=(qA HP).hat
  have HT:=qC (jC (qA qS) (qA HP) ⟨#[38,38]⟩)
  unfold jA at HT
  rw[show(⟨#[38,38]⟩:ByteArray).data.toList=[38,38] from rfl]at HT
  clear r6 yV kN gP wK HRn
  cases ht:yL ts s' [38,38]with
  | true=>
   rw[ht,if_pos rfl]at HT
   rw[if_pos ht]at yY
   obtain⟨cM,hi0⟩:=tJ ht
   have gO:=qC (j3 (f':=.order) (hk▸qA HN) uY (qI.refl s').adv (uP.adv (qI.refl s')) cM)
   have wI:=qC (fun b=>j3 (f':=.andL b) (hk▸qA HN) uY (j5 ts k .order s' (qK s') (qI.refl s').adv).put (uP.put (ts:=ts) (x:=⟨8,0,em,[],[a',(run ts k .order (qK s')).r]⟩) (yM ts k .order s' (qK s') rfl (qI.refl s').adv)) cM)
   have yJ:=qC (fun w2 vM=>qA ih k (by omega) g lp lc v' (qK s') w2 vM ((qA HF).same (qN _)) (by rw[qZ];exact qA HD) (qA gO))
   have mZ:=qC (((qA HF).same (qN _)).run (ts:=ts) (n:=k) (f:=.order))
   have fF:Hid ((run ts k .order (qK s')).s.dp≤20):=qC (by rw[zC,qZ];exact qA HD)
   generalize run ts k .order (qK s')=o2 at yJ mZ fF wI yY
   have fI:=qC yY
   clear gO HN HP yY ht hi0 cM uY HF HD
   go_wp2_with fail
   refine(qA HT).mono ?_
   rintro e w2 ⟨rfl,vM,yN⟩
   have tL:=qC (qA yJ w2 vM)
   have qH:=qC ((qA HK).trans yN)
   clear HT vM yN HK yJ
   go_wp2_with fail
   refine(qA tL).mono ?_
   rintro e w3 ⟨rfl,v3,pC,kG⟩
   have rR:=qC (cQ (qA qS) pC (qA mZ) 8 em a' o2.r)
   have yK:=qC ((qA qH).trans kG)
   clear tL qH pC kG
   go_wp2_with fail
   refine(qA rR).mono ?_
   rintro e w4 ⟨rfl,v4,rQ,gC⟩
   have n7:=qC rQ
   have fG:=qC ((qA yK).trans gC)
   clear rR yK rQ gC
   go_wp2
   go_roundg k
   case rel=>exact⟨_,_,v4,rfl,by omega,qC (qA wI _),n7,fG,qC ((qA mZ).put),qC (by rw[j4];exact qA fF),fI⟩
   case measure=>omega
  | false=>
   rw[ht,if_neg (by simp)]at HT
   rw[if_neg (by rw[ht];simp)]at yY
   have fI:=qC yY.symm
   clear yY ht hk
   go_wp2_with fail
   refine(qA HT).mono ?_
   rintro e w2 ⟨rfl,vM,yN⟩
   have z8:=qC vM
   have qH:=qC ((qA HK).trans yN)
   clear HT vM yN HP HK
   go_wp2
   go_ret
   rw[qA fI]
   exact⟨rfl,v',qA z8,qA qH⟩
end
section
open Go.RowKit Go.Joins
attribute [local irreducible] run qK iG xK qJ jN jZ jS u9 kA yL qU sF
theorem wO{ts:List V3}(h:TS ts){s:PS}:(qU ts s).t.size≤1048576:=by
 by_cases hl:s.at'<ts.length
 ·rw[qG3 hl];exact(h.each _ (List.getElem_mem hl)).2.2
 ·rw[qAh hl];show(0:Nat)≤1048576;omega
theorem wU{ts:List V3}{s:PS}{t:List UInt8}(h:s.code=0):yL ts s t=kA ts s t:=by unfold yL;rw[h];rfl
theorem qIO{ts:List V3}(qS:Hid (TS ts))(n:Nat){g:Nat}{lp:Option Addr}{lc:PX}{v:Value}{s:PS}{w:World}(h:zD w g lp lc ts v s)(hf:qM s)(hd:s.dp≤20)(hn:zH ts .first s≤n+1)(hc:¬s.code=0) :
  PZ 170 g lp lc ts v w (run ts (n+1) .first s):=by
 unfold PZ
 rw[run]
 rw[if_pos hc,mG]
 have hat:=h.hat
 have HP:=qC h
 have HK:=qC (PK.refl g v w)
 have mV:=qC hf
 have gH:=qC hd
 have uW:=qC (qI.refl s)
 clear h hf hd
 go_enter Tryz.func170,Tryz.ntmps170
 obtain⟨c0,c1,c2,c3,c4,c5⟩:=(qA HP).cells
 have hg:=(qA HP).lt
 have e0:(s.code != 0)=true:=by simp[hc]
 go_wp2
 go_ret
 exact⟨rfl,_,qA HP,qA HK⟩
theorem qIZ{ts:List V3}(qS:Hid (TS ts))(n:Nat){g:Nat}{lp:Option Addr}{lc:PX}{v:Value}{s:PS}{w:World}(h:zD w g lp lc ts v s)(hf:qM s)(hd:s.dp≤20)(hn:zH ts .first s≤n+1)(hc:s.code=0)(kG:(qU ts s).k=3) :
  PZ 170 g lp lc ts v w (run ts (n+1) .first s):=by
 unfold PZ
 rw[run]
 rw[if_neg (fun h=>h hc),if_pos kG,yB]
 have hat:=h.hat
 have HP:=qC h
 have HK:=qC (PK.refl g v w)
 have mV:=qC hf
 have gH:=qC hd
 have uW:=qC (qI.refl s)
 clear h hf hd
 have HX:=qC (fun v w (hp:zD w g lp lc ts v s)=>xR (qA qS) hp)
 unfold mT at HX
 have fU:(qU ts s).t.size≤1048576:=wO (qA qS)
 have jF:=l0 (ts:=ts) (s:=s) (by rw[kG];decide)
 generalize qU ts s=x at HX fU kG ⊢
 obtain⟨xk,xn,xt⟩:=x
 simp only at fU kG
 go_enter Tryz.func170,Tryz.ntmps170
 obtain⟨c0,c1,c2,c3,c4,c5⟩:=(qA HP).cells
 have hg:=(qA HP).lt
 rw[hc]at c4
 have HC:=qC (qA HX _ _ (qA HP))
 clear HX
 go_wp2_with fail
 refine(qA HC).mono ?_
 rintro e wx ⟨rfl,hb⟩
 have x8:=qC ((qA HP).later hb)
 have cK:=qC ((qA HK).then_below hb)
 clear HC hb HK HP c0 c1 c2 c3 c4 c5 hg
 have hg:=(qA x8).lt
 have p9:wx.heap.size≠g:=by omega
 have dY:v.ownBlock≠some wx.heap.size:=fun e=>by have:=(qA x8).own _ e;omega
 subst kG
 obtain⟨c0,c1,c2,c3,c4,c5⟩:=(qA x8).cells
 have z1:=(qA x8).free 1
 have hf3:=(qA qS).few
 have HP:=qC (((qA x8).adv jF).alloc (.cells #[.int .i64 3,.int .i64 xn,.string xt] 150))
 have HK:=qC (((qA cK).set (o:=1) (x:=.int .i64 ((s.at':Int)+1))).alloc (.cells #[.int .i64 3,.int .i64 xn,.string xt] 150))
 clear x8 cK c0 c2 c3 c4 c5
 have HC:=qC (aF xt ((wx.setCell ⟨g,1,none⟩ (.int .i64 ((s.at':Int)+1))).alloc (.cells #[.int .i64 3,.int .i64 xn,.string xt] 150)) (by unfold maxLen;omega))
 go_wp2_with fail
 refine(qA HC).mono ?_
 rintro e wz ⟨rfl,rfl⟩
 clear HC
 have HC:=qC (qEr (qA qS) (qA HP) (by repeat (first | exact qA mV | apply qM.put | refine qM.same ?_ (qO _ _ _) | refine qM.same ?_ (jH _ _ _) | refine qM.same ?_ (qV _ _) | refine qM.same ?_ (qN _) | refine qM.same ?_ (j8 _) | refine qM.same ?_ (qT _ _))) 1 (cE xt.data.toList).1 em)
 clear HP
 go_wp2_with fail
 refine(qA HC).mono ?_
 rintro e w1 ⟨rfl,vp,hp,hk⟩
 have HP:=qC hp
 have qH:=qC ((qA HK).trans hk)
 clear HC hp hk HK
 have HK:=qH
 clear qH
 go_wp2
 go_ret
 exact⟨rfl,_,qA HP,qA HK⟩
theorem qHm{ts:List V3}(qS:Hid (TS ts))(n:Nat){g:Nat}{lp:Option Addr}{lc:PX}{v:Value}{s:PS}{w:World}(h:zD w g lp lc ts v s)(hf:qM s)(hd:s.dp≤20)(hn:zH ts .first s≤n+1)(hc:s.code=0)(gC:(qU ts s).k=4) :
  PZ 170 g lp lc ts v w (run ts (n+1) .first s):=by
 unfold PZ
 rw[run]
 rw[if_neg (fun h=>h hc),if_neg (fun h=>by rw[gC]at h;exact absurd h (by decide)),if_pos gC,yB]
 have hat:=h.hat
 have HP:=qC h
 have HK:=qC (PK.refl g v w)
 have mV:=qC hf
 have gH:=qC hd
 have uW:=qC (qI.refl s)
 clear h hf hd
 have HX:=qC (fun v w (hp:zD w g lp lc ts v s)=>xR (qA qS) hp)
 unfold mT at HX
 have fU:(qU ts s).t.size≤1048576:=wO (qA qS)
 have jF:=l0 (ts:=ts) (s:=s) (by rw[gC];decide)
 generalize qU ts s=x at HX fU gC ⊢
 obtain⟨xk,xn,xt⟩:=x
 simp only at fU gC
 go_enter Tryz.func170,Tryz.ntmps170
 obtain⟨c0,c1,c2,c3,c4,c5⟩:=(qA HP).cells
 have hg:=(qA HP).lt
 rw[hc]at c4
 have HC:=qC (qA HX _ _ (qA HP))
 clear HX
 go_wp2_with fail
 refine(qA HC).mono ?_
 rintro e wx ⟨rfl,hb⟩
 have x8:=qC ((qA HP).later hb)
 have cK:=qC ((qA HK).then_below hb)
 clear HC hb HK HP c0 c1 c2 c3 c4 c5 hg
 have hg:=(qA x8).lt
 have p9:wx.heap.size≠g:=by omega
 have dY:v.ownBlock≠some wx.heap.size:=fun e=>by have:=(qA x8).own _ e;omega
 subst gC
 obtain⟨c0,c1,c2,c3,c4,c5⟩:=(qA x8).cells
 have z1:=(qA x8).free 1
 have hf3:=(qA qS).few
 have HP:=qC (((qA x8).adv jF).alloc (.cells #[.int .i64 4,.int .i64 xn,.string xt] 150))
 have HK:=qC (((qA cK).set (o:=1) (x:=.int .i64 ((s.at':Int)+1))).alloc (.cells #[.int .i64 4,.int .i64 xn,.string xt] 150))
 clear x8 cK c0 c2 c3 c4 c5
 have HC:=qC (qEr (qA qS) (qA HP) (by repeat (first | exact qA mV | apply qM.put | refine qM.same ?_ (qO _ _ _) | refine qM.same ?_ (jH _ _ _) | refine qM.same ?_ (qV _ _) | refine qM.same ?_ (qN _) | refine qM.same ?_ (j8 _) | refine qM.same ?_ (qT _ _))) 2 0 xt)
 clear HP
 go_wp2_with fail
 refine(qA HC).mono ?_
 rintro e w1 ⟨rfl,vp,hp,hk⟩
 have HP:=qC hp
 have qH:=qC ((qA HK).trans hk)
 clear HC hp hk HK
 have HK:=qH
 clear qH
 go_wp2
 go_ret
 exact⟨rfl,_,qA HP,qA HK⟩
theorem qGc{ts:List V3}(qS:Hid (TS ts))(n:Nat){g:Nat}{lp:Option Addr}{lc:PX}{v:Value}{s:PS}{w:World}(h:zD w g lp lc ts v s)(hf:qM s)(hd:s.dp≤20)(hn:zH ts .first s≤n+1)(hc:s.code=0)(kG:¬(qU ts s).k=3)(gC:¬(qU ts s).k=4)(hy:kA ts s [116,114,117,101]=true) :
  PZ 170 g lp lc ts v w (run ts (n+1) .first s):=by
 unfold PZ
 rw[run]
 rw[if_neg (fun h=>h hc),if_neg kG,if_neg gC,if_pos hy,yB]
 have hat:=h.hat
 have HP:=qC h
 have HK:=qC (PK.refl g v w)
 have mV:=qC hf
 have gH:=qC hd
 have uW:=qC (qI.refl s)
 clear h hf hd
 have HX:=qC (fun v w (hp:zD w g lp lc ts v s)=>xR (qA qS) hp)
 unfold mT at HX
 have fU:(qU ts s).t.size≤1048576:=wO (qA qS)
 generalize qU ts s=x at HX fU kG gC ⊢
 obtain⟨xk,xn,xt⟩:=x
 simp only at fU kG gC
 go_enter Tryz.func170,Tryz.ntmps170
 obtain⟨c0,c1,c2,c3,c4,c5⟩:=(qA HP).cells
 have hg:=(qA HP).lt
 rw[hc]at c4
 have HC:=qC (qA HX _ _ (qA HP))
 clear HX
 go_wp2_with fail
 refine(qA HC).mono ?_
 rintro e wx ⟨rfl,hb⟩
 have x8:=qC ((qA HP).later hb)
 have cK:=qC ((qA HK).then_below hb)
 clear HC hb HK HP c0 c1 c2 c3 c4 c5 hg
 have hg:=(qA x8).lt
 have p9:wx.heap.size≠g:=by omega
 have dY:v.ownBlock≠some wx.heap.size:=fun e=>by have:=(qA x8).own _ e;omega
 have e3:(xk == 3)=false:=beq_eq_false_iff_ne.2 kG
 have e4:(xk == 4)=false:=beq_eq_false_iff_ne.2 gC
 have HP:=qC ((qA x8).alloc (.cells #[.int .i64 xk,.int .i64 xn,.string xt] 150))
 have HK:=qC ((qA cK).alloc (.cells #[.int .i64 xk,.int .i64 xn,.string xt] 150))
 have uQ:(wx.alloc (.cells #[.int .i64 xk,.int .i64 xn,.string xt] 150)).cell? ⟨wx.heap.size,0,none⟩=some (.int .i64 xk):=by simp
 have qY:(wx.alloc (.cells #[.int .i64 xk,.int .i64 xn,.string xt] 150)).cell? ⟨wx.heap.size,2,none⟩=some (.string xt):=by simp
 clear x8 cK
 have HC:=qC (jC (qA qS) (qA HP) (⟨#[116,114,117,101]⟩:ByteArray))
 unfold jA at HC
 rw[show(⟨#[116,114,117,101]⟩:ByteArray).data.toList=[116,114,117,101] from rfl,wU hc,hy,if_pos rfl]at HC
 clear HP
 go_wp2_with fail
 refine(qA HC).mono ?_
 rintro e w1 ⟨rfl,hp,hk⟩
 have yO:=hk.cell uQ p9 dY
 have yG:=hk.cell qY p9 dY
 clear uQ qY
 have uQ:=yO
 have qY:=yG
 clear yO yG
 have HP:=qC hp
 have qH:=qC ((qA HK).trans hk)
 clear HC hp hk HK
 have HK:=qH
 clear qH
 have HC:=qC (qEr (qA qS) (qA HP) (by repeat (first | exact qA mV | apply qM.put | refine qM.same ?_ (qO _ _ _) | refine qM.same ?_ (jH _ _ _) | refine qM.same ?_ (qV _ _) | refine qM.same ?_ (qN _) | refine qM.same ?_ (j8 _) | refine qM.same ?_ (qT _ _))) 3 1 em)
 clear HP
 go_wp2_with fail
 refine(qA HC).mono ?_
 rintro e w2 ⟨rfl,vp,hp,hk⟩
 have HP:=qC hp
 have qH:=qC ((qA HK).trans hk)
 clear HC hp hk HK
 have HK:=qH
 clear qH
 go_wp2
 go_ret
 exact⟨rfl,_,qA HP,qA HK⟩
theorem qFu{ts:List V3}(qS:Hid (TS ts))(n:Nat){g:Nat}{lp:Option Addr}{lc:PX}{v:Value}{s:PS}{w:World}(h:zD w g lp lc ts v s)(hf:qM s)(hd:s.dp≤20)(hn:zH ts .first s≤n+1)(hc:s.code=0)(kG:¬(qU ts s).k=3)(gC:¬(qU ts s).k=4)(h0:kA ts s [116,114,117,101]=false)(hy:kA ts s [102,97,108,115,101]=true) :
  PZ 170 g lp lc ts v w (run ts (n+1) .first s):=by
 unfold PZ
 rw[run]
 rw[if_neg (fun h=>h hc),if_neg kG,if_neg gC,if_neg (nt h0),if_pos hy,yB]
 have hat:=h.hat
 have HP:=qC h
 have HK:=qC (PK.refl g v w)
 have mV:=qC hf
 have gH:=qC hd
 have uW:=qC (qI.refl s)
 clear h hf hd
 have HX:=qC (fun v w (hp:zD w g lp lc ts v s)=>xR (qA qS) hp)
 unfold mT at HX
 have fU:(qU ts s).t.size≤1048576:=wO (qA qS)
 generalize qU ts s=x at HX fU kG gC ⊢
 obtain⟨xk,xn,xt⟩:=x
 simp only at fU kG gC
 go_enter Tryz.func170,Tryz.ntmps170
 obtain⟨c0,c1,c2,c3,c4,c5⟩:=(qA HP).cells
 have hg:=(qA HP).lt
 rw[hc]at c4
 have HC:=qC (qA HX _ _ (qA HP))
 clear HX
 go_wp2_with fail
 refine(qA HC).mono ?_
 rintro e wx ⟨rfl,hb⟩
 have x8:=qC ((qA HP).later hb)
 have cK:=qC ((qA HK).then_below hb)
 clear HC hb HK HP c0 c1 c2 c3 c4 c5 hg
 have hg:=(qA x8).lt
 have p9:wx.heap.size≠g:=by omega
 have dY:v.ownBlock≠some wx.heap.size:=fun e=>by have:=(qA x8).own _ e;omega
 have e3:(xk == 3)=false:=beq_eq_false_iff_ne.2 kG
 have e4:(xk == 4)=false:=beq_eq_false_iff_ne.2 gC
 have HP:=qC ((qA x8).alloc (.cells #[.int .i64 xk,.int .i64 xn,.string xt] 150))
 have HK:=qC ((qA cK).alloc (.cells #[.int .i64 xk,.int .i64 xn,.string xt] 150))
 have uQ:(wx.alloc (.cells #[.int .i64 xk,.int .i64 xn,.string xt] 150)).cell? ⟨wx.heap.size,0,none⟩=some (.int .i64 xk):=by simp
 have qY:(wx.alloc (.cells #[.int .i64 xk,.int .i64 xn,.string xt] 150)).cell? ⟨wx.heap.size,2,none⟩=some (.string xt):=by simp
 clear x8 cK
 have HC:=qC (jC (qA qS) (qA HP) (⟨#[116,114,117,101]⟩:ByteArray))
 unfold jA at HC
 rw[show(⟨#[116,114,117,101]⟩:ByteArray).data.toList=[116,114,117,101] from rfl,wU hc,h0,if_neg (by simp)]at HC
 clear HP
 go_wp2_with fail
 refine(qA HC).mono ?_
 rintro e w1 ⟨rfl,hp,hk⟩
 have yO:=hk.cell uQ p9 dY
 have yG:=hk.cell qY p9 dY
 clear uQ qY
 have uQ:=yO
 have qY:=yG
 clear yO yG
 have HP:=qC hp
 have qH:=qC ((qA HK).trans hk)
 clear HC hp hk HK
 have HK:=qH
 clear qH
 have HC:=qC (jC (qA qS) (qA HP) (⟨#[102,97,108,115,101]⟩:ByteArray))
 unfold jA at HC
 rw[show(⟨#[102,97,108,115,101]⟩:ByteArray).data.toList=[102,97,108,115,101] from rfl,wU hc,hy,if_pos rfl]at HC
 clear HP
 go_wp2_with fail
 refine(qA HC).mono ?_
 rintro e w2 ⟨rfl,hp,hk⟩
 have yO:=hk.cell uQ p9 dY
 have yG:=hk.cell qY p9 dY
 clear uQ qY
 have uQ:=yO
 have qY:=yG
 clear yO yG
 have HP:=qC hp
 have qH:=qC ((qA HK).trans hk)
 clear HC hp hk HK
 have HK:=qH
 clear qH
 have HC:=qC (qEr (qA qS) (qA HP) (by repeat (first | exact qA mV | apply qM.put | refine qM.same ?_ (qO _ _ _) | refine qM.same ?_ (jH _ _ _) | refine qM.same ?_ (qV _ _) | refine qM.same ?_ (qN _) | refine qM.same ?_ (j8 _) | refine qM.same ?_ (qT _ _))) 3 0 em)
 clear HP
 go_wp2_with fail
 refine(qA HC).mono ?_
 rintro e w3 ⟨rfl,vp,hp,hk⟩
 have HP:=qC hp
 have qH:=qC ((qA HK).trans hk)
 clear HC hp hk HK
 have HK:=qH
 clear qH
 go_wp2
 go_ret
 exact⟨rfl,_,qA HP,qA HK⟩
theorem qGB{ts:List V3}(qS:Hid (TS ts))(n:Nat){g:Nat}{lp:Option Addr}{lc:PX}{v:Value}{s:PS}{w:World}(h:zD w g lp lc ts v s)(hf:qM s)(hd:s.dp≤20)(hn:zH ts .first s≤n+1)(hc:s.code=0)(kG:¬(qU ts s).k=3)(gC:¬(qU ts s).k=4)(h0:kA ts s [116,114,117,101]=false)(h1:kA ts s [102,97,108,115,101]=false)(hy:kA ts s [110,117,108,108]=true) :
  PZ 170 g lp lc ts v w (run ts (n+1) .first s):=by
 unfold PZ
 rw[run]
 rw[if_neg (fun h=>h hc),if_neg kG,if_neg gC,if_neg (nt h0),if_neg (nt h1),if_pos hy,yB]
 have hat:=h.hat
 have HP:=qC h
 have HK:=qC (PK.refl g v w)
 have mV:=qC hf
 have gH:=qC hd
 have uW:=qC (qI.refl s)
 clear h hf hd
 have HX:=qC (fun v w (hp:zD w g lp lc ts v s)=>xR (qA qS) hp)
 unfold mT at HX
 have fU:(qU ts s).t.size≤1048576:=wO (qA qS)
 generalize qU ts s=x at HX fU kG gC ⊢
 obtain⟨xk,xn,xt⟩:=x
 simp only at fU kG gC
 go_enter Tryz.func170,Tryz.ntmps170
 obtain⟨c0,c1,c2,c3,c4,c5⟩:=(qA HP).cells
 have hg:=(qA HP).lt
 rw[hc]at c4
 have HC:=qC (qA HX _ _ (qA HP))
 clear HX
 go_wp2_with fail
 refine(qA HC).mono ?_
 rintro e wx ⟨rfl,hb⟩
 have x8:=qC ((qA HP).later hb)
 have cK:=qC ((qA HK).then_below hb)
 clear HC hb HK HP c0 c1 c2 c3 c4 c5 hg
 have hg:=(qA x8).lt
 have p9:wx.heap.size≠g:=by omega
 have dY:v.ownBlock≠some wx.heap.size:=fun e=>by have:=(qA x8).own _ e;omega
 have e3:(xk == 3)=false:=beq_eq_false_iff_ne.2 kG
 have e4:(xk == 4)=false:=beq_eq_false_iff_ne.2 gC
 have HP:=qC ((qA x8).alloc (.cells #[.int .i64 xk,.int .i64 xn,.string xt] 150))
 have HK:=qC ((qA cK).alloc (.cells #[.int .i64 xk,.int .i64 xn,.string xt] 150))
 have uQ:(wx.alloc (.cells #[.int .i64 xk,.int .i64 xn,.string xt] 150)).cell? ⟨wx.heap.size,0,none⟩=some (.int .i64 xk):=by simp
 have qY:(wx.alloc (.cells #[.int .i64 xk,.int .i64 xn,.string xt] 150)).cell? ⟨wx.heap.size,2,none⟩=some (.string xt):=by simp
 clear x8 cK
 have HC:=qC (jC (qA qS) (qA HP) (⟨#[116,114,117,101]⟩:ByteArray))
 unfold jA at HC
 rw[show(⟨#[116,114,117,101]⟩:ByteArray).data.toList=[116,114,117,101] from rfl,wU hc,h0,if_neg (by simp)]at HC
 clear HP
 go_wp2_with fail
 refine(qA HC).mono ?_
 rintro e w1 ⟨rfl,hp,hk⟩
 have yO:=hk.cell uQ p9 dY
 have yG:=hk.cell qY p9 dY
 clear uQ qY
 have uQ:=yO
 have qY:=yG
 clear yO yG
 have HP:=qC hp
 have qH:=qC ((qA HK).trans hk)
 clear HC hp hk HK
 have HK:=qH
 clear qH
 have HC:=qC (jC (qA qS) (qA HP) (⟨#[102,97,108,115,101]⟩:ByteArray))
 unfold jA at HC
 rw[show(⟨#[102,97,108,115,101]⟩:ByteArray).data.toList=[102,97,108,115,101] from rfl,wU hc,h1,if_neg (by simp)]at HC
 clear HP
 go_wp2_with fail
 refine(qA HC).mono ?_
 rintro e w2 ⟨rfl,hp,hk⟩
 have yO:=hk.cell uQ p9 dY
 have yG:=hk.cell qY p9 dY
 clear uQ qY
 have uQ:=yO
 have qY:=yG
 clear yO yG
 have HP:=qC hp
 have qH:=qC ((qA HK).trans hk)
 clear HC hp hk HK
 have HK:=qH
 clear qH
 have HC:=qC (jC (qA qS) (qA HP) (⟨#[110,117,108,108]⟩:ByteArray))
 unfold jA at HC
 rw[show(⟨#[110,117,108,108]⟩:ByteArray).data.toList=[110,117,108,108] from rfl,wU hc,hy,if_pos rfl]at HC
 clear HP
 go_wp2_with fail
 refine(qA HC).mono ?_
 rintro e w3 ⟨rfl,hp,hk⟩
 have yO:=hk.cell uQ p9 dY
 have yG:=hk.cell qY p9 dY
 clear uQ qY
 have uQ:=yO
 have qY:=yG
 clear yO yG
 have HP:=qC hp
 have qH:=qC ((qA HK).trans hk)
 clear HC hp hk HK
 have HK:=qH
 clear qH
 have HC:=qC (qEr (qA qS) (qA HP) (by repeat (first | exact qA mV | apply qM.put | refine qM.same ?_ (qO _ _ _) | refine qM.same ?_ (jH _ _ _) | refine qM.same ?_ (qV _ _) | refine qM.same ?_ (qN _) | refine qM.same ?_ (j8 _) | refine qM.same ?_ (qT _ _))) 4 0 em)
 clear HP
 go_wp2_with fail
 refine(qA HC).mono ?_
 rintro e w4 ⟨rfl,vp,hp,hk⟩
 have HP:=qC hp
 have qH:=qC ((qA HK).trans hk)
 clear HC hp hk HK
 have HK:=qH
 clear qH
 go_wp2
 go_ret
 exact⟨rfl,_,qA HP,qA HK⟩
theorem qFb{ts:List V3}(qS:Hid (TS ts))(n:Nat)(bO:Hid (∀ k,k≤n→PQ ts k .expr 139)){g:Nat}{lp:Option Addr}{lc:PX}{v:Value}{s:PS}{w:World}(h:zD w g lp lc ts v s)(hf:qM s)(hd:s.dp≤20)(hn:zH ts .first s≤n+1)(hc:s.code=0)(kG:¬(qU ts s).k=3)(gC:¬(qU ts s).k=4)(h0:kA ts s [116,114,117,101]=false)(h1:kA ts s [102,97,108,115,101]=false)(h2:kA ts s [110,117,108,108]=false)(hy:kA ts s [40]=true) :
  PZ 170 g lp lc ts v w (run ts (n+1) .first s):=by
 unfold PZ
 rw[run]
 rw[if_neg (fun h=>h hc),if_neg kG,if_neg gC,if_neg (nt h0),if_neg (nt h1),if_neg (nt h2),if_pos hy,mG]
 have hat:=h.hat
 have HP:=qC h
 have HK:=qC (PK.refl g v w)
 have mV:=qC hf
 have gH:=qC hd
 have uW:=qC (qI.refl s)
 clear h hf hd
 have HX:=qC (fun v w (hp:zD w g lp lc ts v s)=>xR (qA qS) hp)
 unfold mT at HX
 have fU:(qU ts s).t.size≤1048576:=wO (qA qS)
 have yW:=qC (fun v w (hp:zD w g lp lc ts v (qK s))=>qA bO n (by omega) g lp lc v (qK s) w hp ((qA mV).same (qN _)) (by rw[qZ];exact qA gH) (j3 hn hat (qI.refl s).adv (uP.adv (qI.refl s)) hc))
 generalize run ts n .expr (qK s)=o1 at yW ⊢
 generalize qU ts s=x at HX fU kG gC ⊢
 obtain⟨xk,xn,xt⟩:=x
 simp only at fU kG gC
 go_enter Tryz.func170,Tryz.ntmps170
 obtain⟨c0,c1,c2,c3,c4,c5⟩:=(qA HP).cells
 have hg:=(qA HP).lt
 rw[hc]at c4
 have HC:=qC (qA HX _ _ (qA HP))
 clear HX
 go_wp2_with fail
 refine(qA HC).mono ?_
 rintro e wx ⟨rfl,hb⟩
 have x8:=qC ((qA HP).later hb)
 have cK:=qC ((qA HK).then_below hb)
 clear HC hb HK HP c0 c1 c2 c3 c4 c5 hg
 have hg:=(qA x8).lt
 have p9:wx.heap.size≠g:=by omega
 have dY:v.ownBlock≠some wx.heap.size:=fun e=>by have:=(qA x8).own _ e;omega
 have e3:(xk == 3)=false:=beq_eq_false_iff_ne.2 kG
 have e4:(xk == 4)=false:=beq_eq_false_iff_ne.2 gC
 have HP:=qC ((qA x8).alloc (.cells #[.int .i64 xk,.int .i64 xn,.string xt] 150))
 have HK:=qC ((qA cK).alloc (.cells #[.int .i64 xk,.int .i64 xn,.string xt] 150))
 have uQ:(wx.alloc (.cells #[.int .i64 xk,.int .i64 xn,.string xt] 150)).cell? ⟨wx.heap.size,0,none⟩=some (.int .i64 xk):=by simp
 have qY:(wx.alloc (.cells #[.int .i64 xk,.int .i64 xn,.string xt] 150)).cell? ⟨wx.heap.size,2,none⟩=some (.string xt):=by simp
 clear x8 cK
 have HC:=qC (jC (qA qS) (qA HP) (⟨#[116,114,117,101]⟩:ByteArray))
 unfold jA at HC
 rw[show(⟨#[116,114,117,101]⟩:ByteArray).data.toList=[116,114,117,101] from rfl,wU hc,h0,if_neg (by simp)]at HC
 clear HP
 go_wp2_with fail
 refine(qA HC).mono ?_
 rintro e w1 ⟨rfl,hp,hk⟩
 have yO:=hk.cell uQ p9 dY
 have yG:=hk.cell qY p9 dY
 clear uQ qY
 have uQ:=yO
 have qY:=yG
 clear yO yG
 have HP:=qC hp
 have qH:=qC ((qA HK).trans hk)
 clear HC hp hk HK
 have HK:=qH
 clear qH
 have HC:=qC (jC (qA qS) (qA HP) (⟨#[102,97,108,115,101]⟩:ByteArray))
 unfold jA at HC
 rw[show(⟨#[102,97,108,115,101]⟩:ByteArray).data.toList=[102,97,108,115,101] from rfl,wU hc,h1,if_neg (by simp)]at HC
 clear HP
 go_wp2_with fail
 refine(qA HC).mono ?_
 rintro e w2 ⟨rfl,hp,hk⟩
 have yO:=hk.cell uQ p9 dY
 have yG:=hk.cell qY p9 dY
 clear uQ qY
 have uQ:=yO
 have qY:=yG
 clear yO yG
 have HP:=qC hp
 have qH:=qC ((qA HK).trans hk)
 clear HC hp hk HK
 have HK:=qH
 clear qH
 have HC:=qC (jC (qA qS) (qA HP) (⟨#[110,117,108,108]⟩:ByteArray))
 unfold jA at HC
 rw[show(⟨#[110,117,108,108]⟩:ByteArray).data.toList=[110,117,108,108] from rfl,wU hc,h2,if_neg (by simp)]at HC
 clear HP
 go_wp2_with fail
 refine(qA HC).mono ?_
 rintro e w3 ⟨rfl,hp,hk⟩
 have yO:=hk.cell uQ p9 dY
 have yG:=hk.cell qY p9 dY
 clear uQ qY
 have uQ:=yO
 have qY:=yG
 clear yO yG
 have HP:=qC hp
 have qH:=qC ((qA HK).trans hk)
 clear HC hp hk HK
 have HK:=qH
 clear qH
 have HC:=qC (jC (qA qS) (qA HP) (⟨#[40]⟩:ByteArray))
 unfold jA at HC
 rw[show(⟨#[40]⟩:ByteArray).data.toList=[40] from rfl,wU hc,hy,if_pos rfl]at HC
 clear HP
 go_wp2_with fail
 refine(qA HC).mono ?_
 rintro e w4 ⟨rfl,hp,hk⟩
 have yO:=hk.cell uQ p9 dY
 have yG:=hk.cell qY p9 dY
 clear uQ qY
 have uQ:=yO
 have qY:=yG
 clear yO yG
 have HP:=qC hp
 have qH:=qC ((qA HK).trans hk)
 clear HC hp hk HK
 have HK:=qH
 clear qH
 have HC:=qC (qA yW _ _ (qA HP))
 clear HP yW
 go_wp2_with fail
 refine(qA HC).mono ?_
 rintro e w9 ⟨rfl,v9,hp,hk⟩
 have HP:=qC hp
 have qH:=qC ((qA HK).trans hk)
 clear HC hp hk HK
 have HK:=qH
 clear qH
 have HC:=qC (mE (qA qS) (qA HP) (⟨#[41]⟩:ByteArray))
 rw[show(⟨#[41]⟩:ByteArray).data.toList=[41] from rfl]at HC
 clear HP
 go_wp2_with fail
 refine(qA HC).mono ?_
 rintro e w10 ⟨rfl,hp,hk⟩
 have HP:=qC hp
 have qH:=qC ((qA HK).trans hk)
 clear HC hp hk HK
 have HK:=qH
 clear qH
 go_wp2
 go_ret
 exact⟨rfl,_,qA HP,qA HK⟩
theorem qGM{ts:List V3}(qS:Hid (TS ts))(n:Nat){g:Nat}{lp:Option Addr}{lc:PX}{v:Value}{s:PS}{w:World}(h:zD w g lp lc ts v s)(hf:qM s)(hd:s.dp≤20)(hn:zH ts .first s≤n+1)(hc:s.code=0)(kQ:(qU ts s).k=1)(h0:kA ts s [116,114,117,101]=false)(h1:kA ts s [102,97,108,115,101]=false)(h2:kA ts s [110,117,108,108]=false)(h3:kA ts s [40]=false)(hy:yL ts (qK s) [40]=false) :
  PZ 170 g lp lc ts v w (run ts (n+1) .first s):=by
 unfold PZ
 rw[run]
 rw[if_neg (fun h=>h hc),if_neg (fun h=>by rw[kQ]at h;exact absurd h (by decide)),if_neg (fun h=>by rw[kQ]at h;exact absurd h (by decide)),if_neg (nt h0),if_neg (nt h1),if_neg (nt h2),if_neg (nt h3),if_pos kQ,if_neg (nt hy),yB]
 have hat:=h.hat
 have HP:=qC h
 have HK:=qC (PK.refl g v w)
 have mV:=qC hf
 have gH:=qC hd
 have uW:=qC (qI.refl s)
 clear h hf hd
 have HX:=qC (fun v w (hp:zD w g lp lc ts v s)=>xR (qA qS) hp)
 unfold mT at HX
 have fU:(qU ts s).t.size≤1048576:=wO (qA qS)
 have jF:=l0 (ts:=ts) (s:=s) (by rw[kQ];decide)
 generalize qU ts s=x at HX fU kQ ⊢
 obtain⟨xk,xn,xt⟩:=x
 simp only at fU kQ
 go_enter Tryz.func170,Tryz.ntmps170
 obtain⟨c0,c1,c2,c3,c4,c5⟩:=(qA HP).cells
 have hg:=(qA HP).lt
 rw[hc]at c4
 have HC:=qC (qA HX _ _ (qA HP))
 clear HX
 go_wp2_with fail
 refine(qA HC).mono ?_
 rintro e wx ⟨rfl,hb⟩
 have x8:=qC ((qA HP).later hb)
 have cK:=qC ((qA HK).then_below hb)
 clear HC hb HK HP c0 c1 c2 c3 c4 c5 hg
 have hg:=(qA x8).lt
 have p9:wx.heap.size≠g:=by omega
 have dY:v.ownBlock≠some wx.heap.size:=fun e=>by have:=(qA x8).own _ e;omega
 subst kQ
 have HP:=qC ((qA x8).alloc (.cells #[.int .i64 1,.int .i64 xn,.string xt] 150))
 have HK:=qC ((qA cK).alloc (.cells #[.int .i64 1,.int .i64 xn,.string xt] 150))
 have uQ:(wx.alloc (.cells #[.int .i64 1,.int .i64 xn,.string xt] 150)).cell? ⟨wx.heap.size,0,none⟩=some (.int .i64 1):=by simp
 have qY:(wx.alloc (.cells #[.int .i64 1,.int .i64 xn,.string xt] 150)).cell? ⟨wx.heap.size,2,none⟩=some (.string xt):=by simp
 clear x8 cK
 have HC:=qC (jC (qA qS) (qA HP) (⟨#[116,114,117,101]⟩:ByteArray))
 unfold jA at HC
 rw[show(⟨#[116,114,117,101]⟩:ByteArray).data.toList=[116,114,117,101] from rfl,wU hc,h0,if_neg (by simp)]at HC
 clear HP
 go_wp2_with fail
 refine(qA HC).mono ?_
 rintro e w1 ⟨rfl,hp,hk⟩
 have yO:=hk.cell uQ p9 dY
 have yG:=hk.cell qY p9 dY
 clear uQ qY
 have uQ:=yO
 have qY:=yG
 clear yO yG
 have HP:=qC hp
 have qH:=qC ((qA HK).trans hk)
 clear HC hp hk HK
 have HK:=qH
 clear qH
 have HC:=qC (jC (qA qS) (qA HP) (⟨#[102,97,108,115,101]⟩:ByteArray))
 unfold jA at HC
 rw[show(⟨#[102,97,108,115,101]⟩:ByteArray).data.toList=[102,97,108,115,101] from rfl,wU hc,h1,if_neg (by simp)]at HC
 clear HP
 go_wp2_with fail
 refine(qA HC).mono ?_
 rintro e w2 ⟨rfl,hp,hk⟩
 have yO:=hk.cell uQ p9 dY
 have yG:=hk.cell qY p9 dY
 clear uQ qY
 have uQ:=yO
 have qY:=yG
 clear yO yG
 have HP:=qC hp
 have qH:=qC ((qA HK).trans hk)
 clear HC hp hk HK
 have HK:=qH
 clear qH
 have HC:=qC (jC (qA qS) (qA HP) (⟨#[110,117,108,108]⟩:ByteArray))
 unfold jA at HC
 rw[show(⟨#[110,117,108,108]⟩:ByteArray).data.toList=[110,117,108,108] from rfl,wU hc,h2,if_neg (by simp)]at HC
 clear HP
 go_wp2_with fail
 refine(qA HC).mono ?_
 rintro e w3 ⟨rfl,hp,hk⟩
 have yO:=hk.cell uQ p9 dY
 have yG:=hk.cell qY p9 dY
 clear uQ qY
 have uQ:=yO
 have qY:=yG
 clear yO yG
 have HP:=qC hp
 have qH:=qC ((qA HK).trans hk)
 clear HC hp hk HK
 have HK:=qH
 clear qH
 have HC:=qC (jC (qA qS) (qA HP) (⟨#[40]⟩:ByteArray))
 unfold jA at HC
 rw[show(⟨#[40]⟩:ByteArray).data.toList=[40] from rfl,wU hc,h3,if_neg (by simp)]at HC
 clear HP
 go_wp2_with fail
 refine(qA HC).mono ?_
 rintro e w4 ⟨rfl,hp,hk⟩
 have yO:=hk.cell uQ p9 dY
 have yG:=hk.cell qY p9 dY
 clear uQ qY
 have uQ:=yO
 have qY:=yG
 clear yO yG
 have HP:=qC hp
 have qH:=qC ((qA HK).trans hk)
 clear HC hp hk HK
 have HK:=qH
 clear qH
 obtain⟨c0,c1,c2,c3,c4,c5⟩:=(qA HP).cells
 have z1:=(qA HP).free 1
 have hf3:=(qA qS).few
 have hg:=(qA HP).lt
 have z8:=qC ((qA HP).adv jF)
 have qH:=qC ((qA HK).set (o:=1) (x:=.int .i64 ((s.at':Int)+1)))
 clear HP HK
 have HK:=qH
 have HP:=z8
 clear qH z8 c0 c2 c3 c4 c5
 have yO:(w4.setCell ⟨g,1,none⟩ (.int .i64 ((s.at':Int)+1))).cell? ⟨wx.heap.size,0,none⟩=some (.int .i64 1):=by rw[World.cell?_setCell_other _ _ _ _ (by simp)];exact uQ
 have yG:(w4.setCell ⟨g,1,none⟩ (.int .i64 ((s.at':Int)+1))).cell? ⟨wx.heap.size,2,none⟩=some (.string xt):=by rw[World.cell?_setCell_other _ _ _ _ (by simp)];exact qY
 have HC:=qC (jC (qA qS) (qA HP) (⟨#[40]⟩:ByteArray))
 unfold jA at HC
 rw[show(⟨#[40]⟩:ByteArray).data.toList=[40] from rfl,hy,if_neg (by simp)]at HC
 clear HP
 go_wp2_with fail
 refine(qA HC).mono ?_
 rintro e w5 ⟨rfl,hp,hk⟩
 have qQD:=hk.cell yG p9 dY
 have HP:=qC hp
 have qH:=qC ((qA HK).trans hk)
 clear HC hp hk HK uQ qY yO yG
 have HK:=qH
 clear qH
 have HC:=qC (qEr (qA qS) (qA HP) (by repeat (first | exact qA mV | apply qM.put | refine qM.same ?_ (qO _ _ _) | refine qM.same ?_ (jH _ _ _) | refine qM.same ?_ (qV _ _) | refine qM.same ?_ (qN _) | refine qM.same ?_ (j8 _) | refine qM.same ?_ (qT _ _))) 5 0 xt)
 clear HP
 go_wp2_with fail
 refine(qA HC).mono ?_
 rintro e w6 ⟨rfl,vp,hp,hk⟩
 have HP:=qC hp
 have qH:=qC ((qA HK).trans hk)
 clear HC hp hk HK
 have HK:=qH
 clear qH
 go_wp2
 go_ret
 exact⟨rfl,_,qA HP,qA HK⟩
theorem qF4{ts:List V3}(qS:Hid (TS ts))(n:Nat){g:Nat}{lp:Option Addr}{lc:PX}{v:Value}{s:PS}{w:World}(h:zD w g lp lc ts v s)(hf:qM s)(hd:s.dp≤20)(hn:zH ts .first s≤n+1)(hc:s.code=0)(kG:¬(qU ts s).k=3)(gC:¬(qU ts s).k=4)(h0:kA ts s [116,114,117,101]=false)(h1:kA ts s [102,97,108,115,101]=false)(h2:kA ts s [110,117,108,108]=false)(h3:kA ts s [40]=false)(kQ:¬(qU ts s).k=1) :
  PZ 170 g lp lc ts v w (run ts (n+1) .first s):=by
 unfold PZ
 rw[run]
 rw[if_neg (fun h=>h hc),if_neg kG,if_neg gC,if_neg (nt h0),if_neg (nt h1),if_neg (nt h2),if_neg (nt h3),if_neg kQ,mG]
 have hat:=h.hat
 have HP:=qC h
 have HK:=qC (PK.refl g v w)
 have mV:=qC hf
 have gH:=qC hd
 have uW:=qC (qI.refl s)
 clear h hf hd
 have HX:=qC (fun v w (hp:zD w g lp lc ts v s)=>xR (qA qS) hp)
 unfold mT at HX
 have fU:(qU ts s).t.size≤1048576:=wO (qA qS)
 have HFS:=qC (fun w (hp:zD w g lp lc ts v s)=>qHi (qA qS) hp 3)
 generalize qU ts s=x at HX fU kG gC kQ ⊢
 obtain⟨xk,xn,xt⟩:=x
 simp only at fU kG gC kQ
 go_enter Tryz.func170,Tryz.ntmps170
 obtain⟨c0,c1,c2,c3,c4,c5⟩:=(qA HP).cells
 have hg:=(qA HP).lt
 rw[hc]at c4
 have HC:=qC (qA HX _ _ (qA HP))
 clear HX
 go_wp2_with fail
 refine(qA HC).mono ?_
 rintro e wx ⟨rfl,hb⟩
 have x8:=qC ((qA HP).later hb)
 have cK:=qC ((qA HK).then_below hb)
 clear HC hb HK HP c0 c1 c2 c3 c4 c5 hg
 have hg:=(qA x8).lt
 have p9:wx.heap.size≠g:=by omega
 have dY:v.ownBlock≠some wx.heap.size:=fun e=>by have:=(qA x8).own _ e;omega
 have e3:(xk == 3)=false:=beq_eq_false_iff_ne.2 kG
 have e4:(xk == 4)=false:=beq_eq_false_iff_ne.2 gC
 have e1:(xk == 1)=false:=beq_eq_false_iff_ne.2 kQ
 have HP:=qC ((qA x8).alloc (.cells #[.int .i64 xk,.int .i64 xn,.string xt] 150))
 have HK:=qC ((qA cK).alloc (.cells #[.int .i64 xk,.int .i64 xn,.string xt] 150))
 have uQ:(wx.alloc (.cells #[.int .i64 xk,.int .i64 xn,.string xt] 150)).cell? ⟨wx.heap.size,0,none⟩=some (.int .i64 xk):=by simp
 have qY:(wx.alloc (.cells #[.int .i64 xk,.int .i64 xn,.string xt] 150)).cell? ⟨wx.heap.size,2,none⟩=some (.string xt):=by simp
 clear x8 cK
 have HC:=qC (jC (qA qS) (qA HP) (⟨#[116,114,117,101]⟩:ByteArray))
 unfold jA at HC
 rw[show(⟨#[116,114,117,101]⟩:ByteArray).data.toList=[116,114,117,101] from rfl,wU hc,h0,if_neg (by simp)]at HC
 clear HP
 go_wp2_with fail
 refine(qA HC).mono ?_
 rintro e w1 ⟨rfl,hp,hk⟩
 have yO:=hk.cell uQ p9 dY
 have yG:=hk.cell qY p9 dY
 clear uQ qY
 have uQ:=yO
 have qY:=yG
 clear yO yG
 have HP:=qC hp
 have qH:=qC ((qA HK).trans hk)
 clear HC hp hk HK
 have HK:=qH
 clear qH
 have HC:=qC (jC (qA qS) (qA HP) (⟨#[102,97,108,115,101]⟩:ByteArray))
 unfold jA at HC
 rw[show(⟨#[102,97,108,115,101]⟩:ByteArray).data.toList=[102,97,108,115,101] from rfl,wU hc,h1,if_neg (by simp)]at HC
 clear HP
 go_wp2_with fail
 refine(qA HC).mono ?_
 rintro e w2 ⟨rfl,hp,hk⟩
 have yO:=hk.cell uQ p9 dY
 have yG:=hk.cell qY p9 dY
 clear uQ qY
 have uQ:=yO
 have qY:=yG
 clear yO yG
 have HP:=qC hp
 have qH:=qC ((qA HK).trans hk)
 clear HC hp hk HK
 have HK:=qH
 clear qH
 have HC:=qC (jC (qA qS) (qA HP) (⟨#[110,117,108,108]⟩:ByteArray))
 unfold jA at HC
 rw[show(⟨#[110,117,108,108]⟩:ByteArray).data.toList=[110,117,108,108] from rfl,wU hc,h2,if_neg (by simp)]at HC
 clear HP
 go_wp2_with fail
 refine(qA HC).mono ?_
 rintro e w3 ⟨rfl,hp,hk⟩
 have yO:=hk.cell uQ p9 dY
 have yG:=hk.cell qY p9 dY
 clear uQ qY
 have uQ:=yO
 have qY:=yG
 clear yO yG
 have HP:=qC hp
 have qH:=qC ((qA HK).trans hk)
 clear HC hp hk HK
 have HK:=qH
 clear qH
 have HC:=qC (jC (qA qS) (qA HP) (⟨#[40]⟩:ByteArray))
 unfold jA at HC
 rw[show(⟨#[40]⟩:ByteArray).data.toList=[40] from rfl,wU hc,h3,if_neg (by simp)]at HC
 clear HP
 go_wp2_with fail
 refine(qA HC).mono ?_
 rintro e w4 ⟨rfl,hp,hk⟩
 have yO:=hk.cell uQ p9 dY
 have yG:=hk.cell qY p9 dY
 clear uQ qY
 have uQ:=yO
 have qY:=yG
 clear yO yG
 have HP:=qC hp
 have qH:=qC ((qA HK).trans hk)
 clear HC hp hk HK
 have HK:=qH
 clear qH
 have HC:=qC (qA HFS _ (qA HP))
 clear HP HFS
 go_wp2_with fail
 refine(qA HC).mono ?_
 rintro e w9 ⟨rfl,hp,hk⟩
 have HP:=qC hp
 have qH:=qC ((qA HK).trans hk)
 clear HC hp hk HK
 have HK:=qH
 clear qH
 go_wp2
 go_ret
 exact⟨rfl,_,qA HP,qA HK⟩
end
section
open Go.RowKit Go.Joins
theorem qLR{ts:List V3}(qS:Hid (TS ts))(n:Nat){g:Nat}{lp:Option Addr}{lc:PX}{v:Value}{s:PS}{w:World}(h:zD w g lp lc ts v s)(hd:s.dp≤20)(hy:¬(jS ts s).code=0) :
  PZ 139 g lp lc ts v w (run ts (n+1) .expr s):=by
 unfold PZ
 rw[run,if_neg hy,mG]
 have HC:=qC (qAP (qA qS) h hd)
 rw[show((jS ts s).code == 0)=false from(beq_eq_false_iff_ne.2 hy)]at HC
 clear h
 go_enter Tryz.func139,Tryz.ntmps139
 go_wp2_with fail
 refine(qA HC).mono ?_
 rintro e w1 ⟨rfl,hp,hk⟩
 have c3:=hp.cells.2.2.2.1
 have z3:=hp.free 3
 have hg:=hp.lt
 have qB:(jS ts s).dp=s.dp+1:=by rw[xW]
 rw[qB]at c3
 have z8:=qC (hp.up1 qB)
 have qH:=qC (hk.set (o:=3) (x:=.int .i64 (s.dp:Int)))
 clear HC hp hk qB
 go_wp2
 go_ret
 exact⟨rfl,_,qA z8,qA qH⟩
theorem qMU{ts:List V3}(qS:Hid (TS ts))(n:Nat)(ih:Hid (∀ k,k≤n→PQ ts k .and 160)){g:Nat}{lp:Option Addr}{lc:PX}{v:Value}{s:PS}{w:World}(h:zD w g lp lc ts v s)(hf:qM s)(hd:s.dp≤20)(hn:zH ts .expr s≤n+1)(hy:(jS ts s).code=0) :
  PZ 139 g lp lc ts v w (run ts (n+1) .expr s):=by
 unfold PZ
 rw[run,if_pos hy,mG]
 have hat:=h.hat
 have hdk:=qBt hy
 have hc:=(qI.refl s).down.c0 hy
 have dT:=qC (qAP (qA qS) h hd)
 rw[show((jS ts s).code == 0)=true from(by rw[hy];rfl)]at dT
 have HC:=qC (fun w1 (hp:zD w1 g lp lc ts v (jS ts s))=>qA ih n (Nat.le_refl _) g lp lc v (jS ts s) w1 hp (hf.same (qT _ _)) (by rw[xW];exact hdk) (zZ hn hat (qI.refl s).down (fun _ _=>.inl (by decide)) (fun c=>absurd hc c)))
 have kN:=qC (qM.run (ts:=ts) (n:=n) (f:=.and) (hf.same (qT ts s)))
 have gP:Hid ((run ts n .and (jS ts s)).s.dp=s.dp+1):=qC (by rw[zC,xW])
 have wK:=qC (fun a=>zZ (f':=.exprL a) hn hat (j5 ts n .and s (jS ts s) (qI.refl s).down) (fun _ _=>.inl (by show lev (.exprL 0)<lev .expr;decide)) (fun c=>absurd hc c))
 generalize run ts n .and (jS ts s)=o at HC kN gP wK ⊢
 generalize hoF:run ts n (.exprL o.r) o.s=oF
 have HOF:=qC hoF
 clear h hf hn hy hoF
 go_enter Tryz.func139,Tryz.ntmps139
 go_wp2_with fail
 refine(qA dT).mono ?_
 rintro e w0 ⟨rfl,hp0,fH⟩
 have HCC:=qC (qA HC w0 hp0)
 have HK0:=qC fH
 clear dT HC hp0 fH
 go_wp2_with fail
 refine(qA HCC).mono ?_
 rintro e w1 ⟨rfl,v1,bK,kQ⟩
 have r6:=qC bK
 have yV:=qC ((qA HK0).trans kQ)
 clear HCC bK kQ HK0
 go_wp2
 go_loopg [3] n (fun gn a wx=>∃ (a':Int) (s':PS) (v':Value),a=.int .i64 a'∧gn≤n∧Hid (zH ts (.exprL a') s'≤gn)∧Hid (zD wx g lp lc ts v' s')∧Hid (PK g v v' w wx)∧Hid (qM s')∧Hid (s'.dp=s.dp+1)∧Hid (run ts gn (.exprL a') s'=oF))
 case atStart=>exact⟨o.r,o.s,v1,rfl,Nat.le_refl _,qC (qA wK _),r6,yV,kN,gP,HOF⟩
 case round=>
  obtain⟨a',s',v',rfl,hgn,HN,HP,HK,HF,HD,HRn⟩:=hrel
  obtain⟨k,hk⟩:=pG (qA HN)
  have yY:=qA HRn
  rw[hk,run]at yY
  have uY:=(qA HP).hat
  have HT:=qC (jC (qA qS) (qA HP) ⟨#[124,124]⟩)
  unfold jA at HT
  rw[show(⟨#[124,124]⟩:ByteArray).data.toList=[124,124] from rfl]at HT
  clear r6 yV kN gP wK HRn HOF
  cases ht:yL ts s' [124,124]with
  | true=>
   rw[ht,if_pos rfl]at HT
   rw[if_pos ht]at yY
   obtain⟨cM,hi0⟩:=tJ ht
   have gO:=qC (j3 (f':=.and) (hk▸qA HN) uY (qI.refl s').adv (uP.adv (qI.refl s')) cM)
   have wI:=qC (fun b=>j3 (f':=.exprL b) (hk▸qA HN) uY (j5 ts k .and s' (qK s') (qI.refl s').adv).put (uP.put (ts:=ts) (x:=⟨9,0,em,[],[a',(run ts k .and (qK s')).r]⟩) (yM ts k .and s' (qK s') rfl (qI.refl s').adv)) cM)
   have yJ:=qC (fun w2 vM=>qA ih k (by omega) g lp lc v' (qK s') w2 vM ((qA HF).same (qN _)) (by rw[qZ,qA HD];exact hdk) (qA gO))
   have mZ:=qC (((qA HF).same (qN _)).run (ts:=ts) (n:=k) (f:=.and))
   have fF:Hid ((run ts k .and (qK s')).s.dp=s.dp+1):=qC (by rw[zC,qZ];exact qA HD)
   generalize run ts k .and (qK s')=o2 at yJ mZ fF wI yY
   have fI:=qC yY
   clear gO HN HP yY ht hi0 cM uY HF HD
   go_wp2_with fail
   refine(qA HT).mono ?_
   rintro e w2 ⟨rfl,vM,yN⟩
   have tL:=qC (qA yJ w2 vM)
   have qH:=qC ((qA HK).trans yN)
   clear HT vM yN HK yJ
   go_wp2_with fail
   refine(qA tL).mono ?_
   rintro e w3 ⟨rfl,v3,pC,kG⟩
   have rR:=qC (cQ (qA qS) pC (qA mZ) 9 em a' o2.r)
   have yK:=qC ((qA qH).trans kG)
   clear tL qH pC kG
   go_wp2_with fail
   refine(qA rR).mono ?_
   rintro e w4 ⟨rfl,v4,rQ,gC⟩
   have n7:=qC rQ
   have fG:=qC ((qA yK).trans gC)
   clear rR yK rQ gC
   go_wp2
   go_roundg k
   case rel=>exact⟨_,_,v4,rfl,by omega,qC (qA wI _),n7,fG,qC ((qA mZ).put),qC (by rw[j4];exact qA fF),fI⟩
   case measure=>omega
  | false=>
   rw[ht,if_neg (by simp)]at HT
   rw[if_neg (by rw[ht];simp)]at yY
   subst yY
   clear ht hk
   go_wp2_with fail
   refine(qA HT).mono ?_
   rintro e w2 ⟨rfl,vM,yN⟩
   have c3:=vM.cells.2.2.2.1
   have z3:=vM.free 3
   have hg:=vM.lt
   rw[qA HD]at c3
   have z8:=qC (vM.up1 (qA HD))
   have qH:=qC (((qA HK).trans yN).set (o:=3) (x:=.int .i64 (s.dp:Int)))
   clear HT vM yN HP HK HD
   go_wp2
   go_ret
   exact⟨rfl,_,qA z8,qA qH⟩
theorem qIP{ts:List V3}(qS:Hid (TS ts))(n:Nat)(ih:Hid (∀ k,k≤n→PQ ts k .and 160)):PQ ts (n+1) .expr 139:=by
 intro g lp lc v s w h hf hd hn
 by_cases hy:(jS ts s).code=0
 ·exact qMU qS n ih h hf hd hn hy
 ·exact qLR qS n h hd hy
end
section
open Go.RowKit Go.Joins
attribute [local irreducible] run qK iG xK qJ jN jZ jS u9 kA yL qU sF
theorem qI3{ts:List V3}(qS:Hid (TS ts))(n:Nat)(bO:Hid (∀ k,k≤n→PQ ts k .expr 139)){g:Nat}{lp:Option Addr}{lc:PX}{v:Value}{s:PS}{w:World}(h:zD w g lp lc ts v s)(hf:qM s)(hd:s.dp≤20)(hn:zH ts .inner s≤n+1)(hy:yL ts s [108,101,116]=true) :
  PZ 114 g lp lc ts v w (run ts (n+1) .inner s):=by
 unfold PZ
 rw[run]
 rw[if_pos hy,yB]
 have hat:=h.hat
 have HP:=qC h
 have HK:=qC (PK.refl g v w)
 have mV:=qC hf
 have gH:=qC hd
 have uW:=qC (qI.refl s)
 clear h hf hd
 have hc:=(tJ hy).1
 have yW:=qC (fun v w (hp:zD w g lp lc ts v (qJ ts [61] (jN ts (qK s)).2))=>qA bO n (by omega) g lp lc v (qJ ts [61] (jN ts (qK s)).2) w hp (by repeat (first | exact qA mV | apply qM.put | refine qM.same ?_ (qO _ _ _) | refine qM.same ?_ (jH _ _ _) | refine qM.same ?_ (qV _ _) | refine qM.same ?_ (qN _) | refine qM.same ?_ (j8 _) | refine qM.same ?_ (qT _ _))) (by (repeat (first | rewrite[q9] | rewrite[zG] | rewrite[jO] | rewrite[qZ] | rewrite[j4]));exact qA gH) (j3 hn hat (by repeat (first | exact qA uW | apply qI.need | apply qI.com | apply qI.name | apply qI.adv | apply qI.put | apply qI.up | apply qI.down)) (by first | exact uP.need (by repeat (first | exact qA uW | apply qI.need | apply qI.com | apply qI.name | apply qI.adv | apply qI.put | apply qI.up | apply qI.down)) | exact uP.name (by repeat (first | exact qA uW | apply qI.need | apply qI.com | apply qI.name | apply qI.adv | apply qI.put | apply qI.up | apply qI.down)) | exact uP.adv (by repeat (first | exact qA uW | apply qI.need | apply qI.com | apply qI.name | apply qI.adv | apply qI.put | apply qI.up | apply qI.down))) hc))
 have cH:=qC (j5 ts n .expr s (qJ ts [61] (jN ts (qK s)).2) (by repeat (first | exact qA uW | apply qI.need | apply qI.com | apply qI.name | apply qI.adv | apply qI.put | apply qI.up | apply qI.down)))
 have HT1:=qC (yM ts n .expr s (qJ ts [61] (jN ts (qK s)).2) rfl (by repeat (first | exact qA uW | apply qI.need | apply qI.com | apply qI.name | apply qI.adv | apply qI.put | apply qI.up | apply qI.down)))
 have kN:=qC (qM.run (ts:=ts) (n:=n) (f:=.expr) (s:=(qJ ts [61] (jN ts (qK s)).2)) (by repeat (first | exact qA mV | apply qM.put | refine qM.same ?_ (qO _ _ _) | refine qM.same ?_ (jH _ _ _) | refine qM.same ?_ (qV _ _) | refine qM.same ?_ (qN _) | refine qM.same ?_ (j8 _) | refine qM.same ?_ (qT _ _))))
 have gP:Hid ((run ts n .expr (qJ ts [61] (jN ts (qK s)).2)).s.dp≤20):=qC (by rw[zC];exact(by (repeat (first | rewrite[q9] | rewrite[zG] | rewrite[jO] | rewrite[qZ] | rewrite[j4]));exact qA gH))
 generalize run ts n .expr (qJ ts [61] (jN ts (qK s)).2)=o1 at yW cH HT1 kN gP  ⊢
 go_enter Tryz.func114,Tryz.ntmps114
 have HC:=qC (jC (qA qS) (qA HP) (⟨#[108,101,116]⟩:ByteArray))
 unfold jA at HC
 rw[show(⟨#[108,101,116]⟩:ByteArray).data.toList=[108,101,116] from rfl,hy,if_pos rfl]at HC
 clear HP
 go_wp2_with fail
 refine(qA HC).mono ?_
 rintro e w1 ⟨rfl,hp,hk⟩
 have HP:=qC hp
 have qH:=qC ((qA HK).trans hk)
 clear HC hp hk HK
 have HK:=qH
 clear qH
 have HC:=qC (qGz (qA qS) (qA HP))
 clear HP
 go_wp2_with fail
 refine(qA HC).mono ?_
 rintro e w2 ⟨rfl,hp,hk⟩
 have HP:=qC hp
 have qH:=qC ((qA HK).trans hk)
 clear HC hp hk HK
 have HK:=qH
 clear qH
 have HC:=qC (mE (qA qS) (qA HP) (⟨#[61]⟩:ByteArray))
 rw[show(⟨#[61]⟩:ByteArray).data.toList=[61] from rfl]at HC
 clear HP
 go_wp2_with fail
 refine(qA HC).mono ?_
 rintro e w3 ⟨rfl,hp,hk⟩
 have HP:=qC hp
 have qH:=qC ((qA HK).trans hk)
 clear HC hp hk HK
 have HK:=qH
 clear qH
 have HC:=qC (qA yW _ _ (qA HP))
 clear HP yW
 go_wp2_with fail
 refine(qA HC).mono ?_
 rintro e w4 ⟨rfl,v1,hp,hk⟩
 have HP:=qC hp
 have qH:=qC ((qA HK).trans hk)
 clear HC hp hk HK
 have HK:=qH
 clear qH
 have HC:=qC (mE (qA qS) (qA HP) (⟨#[59]⟩:ByteArray))
 rw[show(⟨#[59]⟩:ByteArray).data.toList=[59] from rfl]at HC
 clear HP
 go_wp2_with fail
 refine(qA HC).mono ?_
 rintro e w5 ⟨rfl,hp,hk⟩
 have HP:=qC hp
 have qH:=qC ((qA HK).trans hk)
 clear HC hp hk HK
 have HK:=qH
 clear qH
 have HC:=qC (aB (qA qS) (qA HP) (by repeat (first | exact qA kN | apply qM.put | refine qM.same ?_ (qO _ _ _) | refine qM.same ?_ (jH _ _ _) | refine qM.same ?_ (qV _ _) | refine qM.same ?_ (qN _) | refine qM.same ?_ (j8 _) | refine qM.same ?_ (qT _ _))) 11 (jN ts (qK s)).1 o1.r)
 clear HP
 go_wp2_with fail
 refine(qA HC).mono ?_
 rintro e w6 ⟨rfl,vp,hp,hk⟩
 have HP:=qC hp
 have qH:=qC ((qA HK).trans hk)
 clear HC hp hk HK
 have HK:=qH
 clear qH
 go_wp2
 go_ret
 exact⟨rfl,_,qA HP,qA HK⟩
theorem qH8{ts:List V3}(qS:Hid (TS ts))(n:Nat)(bO:Hid (∀ k,k≤n→PQ ts k .expr 139))(ihB:Hid (∀ k,k≤n→PQ ts k .block 112)){g:Nat}{lp:Option Addr}{lc:PX}{v:Value}{s:PS}{w:World}(h:zD w g lp lc ts v s)(hf:qM s)(hd:s.dp≤20)(hn:zH ts .inner s≤n+1)(h0:yL ts s [108,101,116]=false)(hy:yL ts s [105,102]=true)(he:yL ts (run ts n .block (qJ ts [41] (run ts n .expr (qJ ts [40] (qK s))).s)).s [101,108,115,101]=true) :
  PZ 114 g lp lc ts v w (run ts (n+1) .inner s):=by
 unfold PZ
 rw[run]
 rw[if_neg (nt h0),if_pos hy,if_pos he,yB]
 have hat:=h.hat
 have HP:=qC h
 have HK:=qC (PK.refl g v w)
 have mV:=qC hf
 have gH:=qC hd
 have uW:=qC (qI.refl s)
 clear h hf hd
 have hc:=(tJ hy).1
 have yW:=qC (fun v w (hp:zD w g lp lc ts v (qJ ts [40] (qK s)))=>qA bO n (by omega) g lp lc v (qJ ts [40] (qK s)) w hp (by repeat (first | exact qA mV | apply qM.put | refine qM.same ?_ (qO _ _ _) | refine qM.same ?_ (jH _ _ _) | refine qM.same ?_ (qV _ _) | refine qM.same ?_ (qN _) | refine qM.same ?_ (j8 _) | refine qM.same ?_ (qT _ _))) (by (repeat (first | rewrite[q9] | rewrite[zG] | rewrite[jO] | rewrite[qZ] | rewrite[j4]));exact qA gH) (j3 hn hat (by repeat (first | exact qA uW | apply qI.need | apply qI.com | apply qI.name | apply qI.adv | apply qI.put | apply qI.up | apply qI.down)) (by first | exact uP.need (by repeat (first | exact qA uW | apply qI.need | apply qI.com | apply qI.name | apply qI.adv | apply qI.put | apply qI.up | apply qI.down)) | exact uP.name (by repeat (first | exact qA uW | apply qI.need | apply qI.com | apply qI.name | apply qI.adv | apply qI.put | apply qI.up | apply qI.down)) | exact uP.adv (by repeat (first | exact qA uW | apply qI.need | apply qI.com | apply qI.name | apply qI.adv | apply qI.put | apply qI.up | apply qI.down))) hc))
 have cH:=qC (j5 ts n .expr s (qJ ts [40] (qK s)) (by repeat (first | exact qA uW | apply qI.need | apply qI.com | apply qI.name | apply qI.adv | apply qI.put | apply qI.up | apply qI.down)))
 have HT1:=qC (yM ts n .expr s (qJ ts [40] (qK s)) rfl (by repeat (first | exact qA uW | apply qI.need | apply qI.com | apply qI.name | apply qI.adv | apply qI.put | apply qI.up | apply qI.down)))
 have kN:=qC (qM.run (ts:=ts) (n:=n) (f:=.expr) (s:=(qJ ts [40] (qK s))) (by repeat (first | exact qA mV | apply qM.put | refine qM.same ?_ (qO _ _ _) | refine qM.same ?_ (jH _ _ _) | refine qM.same ?_ (qV _ _) | refine qM.same ?_ (qN _) | refine qM.same ?_ (j8 _) | refine qM.same ?_ (qT _ _))))
 have gP:Hid ((run ts n .expr (qJ ts [40] (qK s))).s.dp≤20):=qC (by rw[zC];exact(by (repeat (first | rewrite[q9] | rewrite[zG] | rewrite[jO] | rewrite[qZ] | rewrite[j4]));exact qA gH))
 generalize run ts n .expr (qJ ts [40] (qK s))=o1 at yW cH HT1 kN gP he ⊢
 have yJ:=qC (fun v w (hp:zD w g lp lc ts v (qJ ts [41] o1.s))=>qA ihB n (by omega) g lp lc v (qJ ts [41] o1.s) w hp (by repeat (first | exact qA kN | apply qM.put | refine qM.same ?_ (qO _ _ _) | refine qM.same ?_ (jH _ _ _) | refine qM.same ?_ (qV _ _) | refine qM.same ?_ (qN _) | refine qM.same ?_ (j8 _) | refine qM.same ?_ (qT _ _))) (by (repeat (first | rewrite[q9] | rewrite[zG] | rewrite[jO] | rewrite[qZ] | rewrite[j4]));exact qA gP) (j3 hn hat (by repeat (first | exact qA cH | apply qI.need | apply qI.com | apply qI.name | apply qI.adv | apply qI.put | apply qI.up | apply qI.down)) ((qA HT1).le (by repeat (first | exact qI.refl _ | apply qI.need | apply qI.com | apply qI.name | apply qI.adv | apply qI.put | apply qI.up | apply qI.down))) hc))
 have rY:=qC (j5 ts n .block s (qJ ts [41] o1.s) (by repeat (first | exact qA cH | apply qI.need | apply qI.com | apply qI.name | apply qI.adv | apply qI.put | apply qI.up | apply qI.down)))
 have HT2:=qC (yM ts n .block s (qJ ts [41] o1.s) rfl (by repeat (first | exact qA cH | apply qI.need | apply qI.com | apply qI.name | apply qI.adv | apply qI.put | apply qI.up | apply qI.down)))
 have mZ:=qC (qM.run (ts:=ts) (n:=n) (f:=.block) (s:=(qJ ts [41] o1.s)) (by repeat (first | exact qA kN | apply qM.put | refine qM.same ?_ (qO _ _ _) | refine qM.same ?_ (jH _ _ _) | refine qM.same ?_ (qV _ _) | refine qM.same ?_ (qN _) | refine qM.same ?_ (j8 _) | refine qM.same ?_ (qT _ _))))
 have fF:Hid ((run ts n .block (qJ ts [41] o1.s)).s.dp≤20):=qC (by rw[zC];exact(by (repeat (first | rewrite[q9] | rewrite[zG] | rewrite[jO] | rewrite[qZ] | rewrite[j4]));exact qA gP))
 generalize run ts n .block (qJ ts [41] o1.s)=o2 at yJ rY HT2 mZ fF he ⊢
 have tL:=qC (fun v w (hp:zD w g lp lc ts v (qK o2.s))=>qA ihB n (by omega) g lp lc v (qK o2.s) w hp (by repeat (first | exact qA mZ | apply qM.put | refine qM.same ?_ (qO _ _ _) | refine qM.same ?_ (jH _ _ _) | refine qM.same ?_ (qV _ _) | refine qM.same ?_ (qN _) | refine qM.same ?_ (j8 _) | refine qM.same ?_ (qT _ _))) (by (repeat (first | rewrite[q9] | rewrite[zG] | rewrite[jO] | rewrite[qZ] | rewrite[j4]));exact qA fF) (j3 hn hat (by repeat (first | exact qA rY | apply qI.need | apply qI.com | apply qI.name | apply qI.adv | apply qI.put | apply qI.up | apply qI.down)) ((qA HT2).le (by repeat (first | exact qI.refl _ | apply qI.need | apply qI.com | apply qI.name | apply qI.adv | apply qI.put | apply qI.up | apply qI.down))) hc))
 have HL3:=qC (j5 ts n .block s (qK o2.s) (by repeat (first | exact qA rY | apply qI.need | apply qI.com | apply qI.name | apply qI.adv | apply qI.put | apply qI.up | apply qI.down)))
 have HT3:=qC (yM ts n .block s (qK o2.s) rfl (by repeat (first | exact qA rY | apply qI.need | apply qI.com | apply qI.name | apply qI.adv | apply qI.put | apply qI.up | apply qI.down)))
 have HF3:=qC (qM.run (ts:=ts) (n:=n) (f:=.block) (s:=(qK o2.s)) (by repeat (first | exact qA mZ | apply qM.put | refine qM.same ?_ (qO _ _ _) | refine qM.same ?_ (jH _ _ _) | refine qM.same ?_ (qV _ _) | refine qM.same ?_ (qN _) | refine qM.same ?_ (j8 _) | refine qM.same ?_ (qT _ _))))
 have HD3:Hid ((run ts n .block (qK o2.s)).s.dp≤20):=qC (by rw[zC];exact(by (repeat (first | rewrite[q9] | rewrite[zG] | rewrite[jO] | rewrite[qZ] | rewrite[j4]));exact qA fF))
 generalize run ts n .block (qK o2.s)=o3 at tL HL3 HT3 HF3 HD3 he ⊢
 go_enter Tryz.func114,Tryz.ntmps114
 have HC:=qC (jC (qA qS) (qA HP) (⟨#[108,101,116]⟩:ByteArray))
 unfold jA at HC
 rw[show(⟨#[108,101,116]⟩:ByteArray).data.toList=[108,101,116] from rfl,h0,if_neg (by simp)]at HC
 clear HP
 go_wp2_with fail
 refine(qA HC).mono ?_
 rintro e w1 ⟨rfl,hp,hk⟩
 have HP:=qC hp
 have qH:=qC ((qA HK).trans hk)
 clear HC hp hk HK
 have HK:=qH
 clear qH
 have HC:=qC (jC (qA qS) (qA HP) (⟨#[105,102]⟩:ByteArray))
 unfold jA at HC
 rw[show(⟨#[105,102]⟩:ByteArray).data.toList=[105,102] from rfl,hy,if_pos rfl]at HC
 clear HP
 go_wp2_with fail
 refine(qA HC).mono ?_
 rintro e w2 ⟨rfl,hp,hk⟩
 have HP:=qC hp
 have qH:=qC ((qA HK).trans hk)
 clear HC hp hk HK
 have HK:=qH
 clear qH
 have HC:=qC (mE (qA qS) (qA HP) (⟨#[40]⟩:ByteArray))
 rw[show(⟨#[40]⟩:ByteArray).data.toList=[40] from rfl]at HC
 clear HP
 go_wp2_with fail
 refine(qA HC).mono ?_
 rintro e w3 ⟨rfl,hp,hk⟩
 have HP:=qC hp
 have qH:=qC ((qA HK).trans hk)
 clear HC hp hk HK
 have HK:=qH
 clear qH
 have HC:=qC (qA yW _ _ (qA HP))
 clear HP yW
 go_wp2_with fail
 refine(qA HC).mono ?_
 rintro e w4 ⟨rfl,v1,hp,hk⟩
 have HP:=qC hp
 have qH:=qC ((qA HK).trans hk)
 clear HC hp hk HK
 have HK:=qH
 clear qH
 have HC:=qC (mE (qA qS) (qA HP) (⟨#[41]⟩:ByteArray))
 rw[show(⟨#[41]⟩:ByteArray).data.toList=[41] from rfl]at HC
 clear HP
 go_wp2_with fail
 refine(qA HC).mono ?_
 rintro e w5 ⟨rfl,hp,hk⟩
 have HP:=qC hp
 have qH:=qC ((qA HK).trans hk)
 clear HC hp hk HK
 have HK:=qH
 clear qH
 have HC:=qC (qA yJ _ _ (qA HP))
 clear HP yJ
 go_wp2_with fail
 refine(qA HC).mono ?_
 rintro e w6 ⟨rfl,v2,hp,hk⟩
 have HP:=qC hp
 have qH:=qC ((qA HK).trans hk)
 clear HC hp hk HK
 have HK:=qH
 clear qH
 have HC:=qC (jC (qA qS) (qA HP) (⟨#[101,108,115,101]⟩:ByteArray))
 unfold jA at HC
 rw[show(⟨#[101,108,115,101]⟩:ByteArray).data.toList=[101,108,115,101] from rfl,he,if_pos rfl]at HC
 clear HP
 go_wp2_with fail
 refine(qA HC).mono ?_
 rintro e w7 ⟨rfl,hp,hk⟩
 have HP:=qC hp
 have qH:=qC ((qA HK).trans hk)
 clear HC hp hk HK
 have HK:=qH
 clear qH
 have HC:=qC (qA tL _ _ (qA HP))
 clear HP tL
 go_wp2_with fail
 refine(qA HC).mono ?_
 rintro e w8 ⟨rfl,v3,hp,hk⟩
 have HP:=qC hp
 have qH:=qC ((qA HK).trans hk)
 clear HC hp hk HK
 have HK:=qH
 clear qH
 have HC:=qC (qT3 (qA qS) (qA HP) (by repeat (first | exact qA HF3 | apply qM.put | refine qM.same ?_ (qO _ _ _) | refine qM.same ?_ (jH _ _ _) | refine qM.same ?_ (qV _ _) | refine qM.same ?_ (qN _) | refine qM.same ?_ (j8 _) | refine qM.same ?_ (qT _ _))) 13 em o1.r o2.r o3.r)
 clear HP
 go_wp2_with fail
 refine(qA HC).mono ?_
 rintro e w9 ⟨rfl,vp,hp,hk⟩
 have HP:=qC hp
 have qH:=qC ((qA HK).trans hk)
 clear HC hp hk HK
 have HK:=qH
 clear qH
 go_wp2
 go_ret
 exact⟨rfl,_,qA HP,qA HK⟩
theorem qIT{ts:List V3}(qS:Hid (TS ts))(n:Nat)(bO:Hid (∀ k,k≤n→PQ ts k .expr 139))(ihB:Hid (∀ k,k≤n→PQ ts k .block 112)){g:Nat}{lp:Option Addr}{lc:PX}{v:Value}{s:PS}{w:World}(h:zD w g lp lc ts v s)(hf:qM s)(hd:s.dp≤20)(hn:zH ts .inner s≤n+1)(h0:yL ts s [108,101,116]=false)(hy:yL ts s [105,102]=true)(he:yL ts (run ts n .block (qJ ts [41] (run ts n .expr (qJ ts [40] (qK s))).s)).s [101,108,115,101]=false) :
  PZ 114 g lp lc ts v w (run ts (n+1) .inner s):=by
 unfold PZ
 rw[run]
 rw[if_neg (nt h0),if_pos hy,if_neg (nt he),yB]
 have hat:=h.hat
 have HP:=qC h
 have HK:=qC (PK.refl g v w)
 have mV:=qC hf
 have gH:=qC hd
 have uW:=qC (qI.refl s)
 clear h hf hd
 have hc:=(tJ hy).1
 have yW:=qC (fun v w (hp:zD w g lp lc ts v (qJ ts [40] (qK s)))=>qA bO n (by omega) g lp lc v (qJ ts [40] (qK s)) w hp (by repeat (first | exact qA mV | apply qM.put | refine qM.same ?_ (qO _ _ _) | refine qM.same ?_ (jH _ _ _) | refine qM.same ?_ (qV _ _) | refine qM.same ?_ (qN _) | refine qM.same ?_ (j8 _) | refine qM.same ?_ (qT _ _))) (by (repeat (first | rewrite[q9] | rewrite[zG] | rewrite[jO] | rewrite[qZ] | rewrite[j4]));exact qA gH) (j3 hn hat (by repeat (first | exact qA uW | apply qI.need | apply qI.com | apply qI.name | apply qI.adv | apply qI.put | apply qI.up | apply qI.down)) (by first | exact uP.need (by repeat (first | exact qA uW | apply qI.need | apply qI.com | apply qI.name | apply qI.adv | apply qI.put | apply qI.up | apply qI.down)) | exact uP.name (by repeat (first | exact qA uW | apply qI.need | apply qI.com | apply qI.name | apply qI.adv | apply qI.put | apply qI.up | apply qI.down)) | exact uP.adv (by repeat (first | exact qA uW | apply qI.need | apply qI.com | apply qI.name | apply qI.adv | apply qI.put | apply qI.up | apply qI.down))) hc))
 have cH:=qC (j5 ts n .expr s (qJ ts [40] (qK s)) (by repeat (first | exact qA uW | apply qI.need | apply qI.com | apply qI.name | apply qI.adv | apply qI.put | apply qI.up | apply qI.down)))
 have HT1:=qC (yM ts n .expr s (qJ ts [40] (qK s)) rfl (by repeat (first | exact qA uW | apply qI.need | apply qI.com | apply qI.name | apply qI.adv | apply qI.put | apply qI.up | apply qI.down)))
 have kN:=qC (qM.run (ts:=ts) (n:=n) (f:=.expr) (s:=(qJ ts [40] (qK s))) (by repeat (first | exact qA mV | apply qM.put | refine qM.same ?_ (qO _ _ _) | refine qM.same ?_ (jH _ _ _) | refine qM.same ?_ (qV _ _) | refine qM.same ?_ (qN _) | refine qM.same ?_ (j8 _) | refine qM.same ?_ (qT _ _))))
 have gP:Hid ((run ts n .expr (qJ ts [40] (qK s))).s.dp≤20):=qC (by rw[zC];exact(by (repeat (first | rewrite[q9] | rewrite[zG] | rewrite[jO] | rewrite[qZ] | rewrite[j4]));exact qA gH))
 generalize run ts n .expr (qJ ts [40] (qK s))=o1 at yW cH HT1 kN gP he ⊢
 have yJ:=qC (fun v w (hp:zD w g lp lc ts v (qJ ts [41] o1.s))=>qA ihB n (by omega) g lp lc v (qJ ts [41] o1.s) w hp (by repeat (first | exact qA kN | apply qM.put | refine qM.same ?_ (qO _ _ _) | refine qM.same ?_ (jH _ _ _) | refine qM.same ?_ (qV _ _) | refine qM.same ?_ (qN _) | refine qM.same ?_ (j8 _) | refine qM.same ?_ (qT _ _))) (by (repeat (first | rewrite[q9] | rewrite[zG] | rewrite[jO] | rewrite[qZ] | rewrite[j4]));exact qA gP) (j3 hn hat (by repeat (first | exact qA cH | apply qI.need | apply qI.com | apply qI.name | apply qI.adv | apply qI.put | apply qI.up | apply qI.down)) ((qA HT1).le (by repeat (first | exact qI.refl _ | apply qI.need | apply qI.com | apply qI.name | apply qI.adv | apply qI.put | apply qI.up | apply qI.down))) hc))
 have rY:=qC (j5 ts n .block s (qJ ts [41] o1.s) (by repeat (first | exact qA cH | apply qI.need | apply qI.com | apply qI.name | apply qI.adv | apply qI.put | apply qI.up | apply qI.down)))
 have HT2:=qC (yM ts n .block s (qJ ts [41] o1.s) rfl (by repeat (first | exact qA cH | apply qI.need | apply qI.com | apply qI.name | apply qI.adv | apply qI.put | apply qI.up | apply qI.down)))
 have mZ:=qC (qM.run (ts:=ts) (n:=n) (f:=.block) (s:=(qJ ts [41] o1.s)) (by repeat (first | exact qA kN | apply qM.put | refine qM.same ?_ (qO _ _ _) | refine qM.same ?_ (jH _ _ _) | refine qM.same ?_ (qV _ _) | refine qM.same ?_ (qN _) | refine qM.same ?_ (j8 _) | refine qM.same ?_ (qT _ _))))
 have fF:Hid ((run ts n .block (qJ ts [41] o1.s)).s.dp≤20):=qC (by rw[zC];exact(by (repeat (first | rewrite[q9] | rewrite[zG] | rewrite[jO] | rewrite[qZ] | rewrite[j4]));exact qA gP))
 generalize run ts n .block (qJ ts [41] o1.s)=o2 at yJ rY HT2 mZ fF he ⊢
 go_enter Tryz.func114,Tryz.ntmps114
 have HC:=qC (jC (qA qS) (qA HP) (⟨#[108,101,116]⟩:ByteArray))
 unfold jA at HC
 rw[show(⟨#[108,101,116]⟩:ByteArray).data.toList=[108,101,116] from rfl,h0,if_neg (by simp)]at HC
 clear HP
 go_wp2_with fail
 refine(qA HC).mono ?_
 rintro e w1 ⟨rfl,hp,hk⟩
 have HP:=qC hp
 have qH:=qC ((qA HK).trans hk)
 clear HC hp hk HK
 have HK:=qH
 clear qH
 have HC:=qC (jC (qA qS) (qA HP) (⟨#[105,102]⟩:ByteArray))
 unfold jA at HC
 rw[show(⟨#[105,102]⟩:ByteArray).data.toList=[105,102] from rfl,hy,if_pos rfl]at HC
 clear HP
 go_wp2_with fail
 refine(qA HC).mono ?_
 rintro e w2 ⟨rfl,hp,hk⟩
 have HP:=qC hp
 have qH:=qC ((qA HK).trans hk)
 clear HC hp hk HK
 have HK:=qH
 clear qH
 have HC:=qC (mE (qA qS) (qA HP) (⟨#[40]⟩:ByteArray))
 rw[show(⟨#[40]⟩:ByteArray).data.toList=[40] from rfl]at HC
 clear HP
 go_wp2_with fail
 refine(qA HC).mono ?_
 rintro e w3 ⟨rfl,hp,hk⟩
 have HP:=qC hp
 have qH:=qC ((qA HK).trans hk)
 clear HC hp hk HK
 have HK:=qH
 clear qH
 have HC:=qC (qA yW _ _ (qA HP))
 clear HP yW
 go_wp2_with fail
 refine(qA HC).mono ?_
 rintro e w4 ⟨rfl,v1,hp,hk⟩
 have HP:=qC hp
 have qH:=qC ((qA HK).trans hk)
 clear HC hp hk HK
 have HK:=qH
 clear qH
 have HC:=qC (mE (qA qS) (qA HP) (⟨#[41]⟩:ByteArray))
 rw[show(⟨#[41]⟩:ByteArray).data.toList=[41] from rfl]at HC
 clear HP
 go_wp2_with fail
 refine(qA HC).mono ?_
 rintro e w5 ⟨rfl,hp,hk⟩
 have HP:=qC hp
 have qH:=qC ((qA HK).trans hk)
 clear HC hp hk HK
 have HK:=qH
 clear qH
 have HC:=qC (qA yJ _ _ (qA HP))
 clear HP yJ
 go_wp2_with fail
 refine(qA HC).mono ?_
 rintro e w6 ⟨rfl,v2,hp,hk⟩
 have HP:=qC hp
 have qH:=qC ((qA HK).trans hk)
 clear HC hp hk HK
 have HK:=qH
 clear qH
 have HC:=qC (jC (qA qS) (qA HP) (⟨#[101,108,115,101]⟩:ByteArray))
 unfold jA at HC
 rw[show(⟨#[101,108,115,101]⟩:ByteArray).data.toList=[101,108,115,101] from rfl,he,if_neg (by simp)]at HC
 clear HP
 go_wp2_with fail
 refine(qA HC).mono ?_
 rintro e w7 ⟨rfl,hp,hk⟩
 have HP:=qC hp
 have qH:=qC ((qA HK).trans hk)
 clear HC hp hk HK
 have HK:=qH
 clear qH
 have HC:=qC (cQ (qA qS) (qA HP) (by repeat (first | exact qA mZ | apply qM.put | refine qM.same ?_ (qO _ _ _) | refine qM.same ?_ (jH _ _ _) | refine qM.same ?_ (qV _ _) | refine qM.same ?_ (qN _) | refine qM.same ?_ (j8 _) | refine qM.same ?_ (qT _ _))) 13 em o1.r o2.r)
 clear HP
 go_wp2_with fail
 refine(qA HC).mono ?_
 rintro e w8 ⟨rfl,vp,hp,hk⟩
 have HP:=qC hp
 have qH:=qC ((qA HK).trans hk)
 clear HC hp hk HK
 have HK:=qH
 clear qH
 go_wp2
 go_ret
 exact⟨rfl,_,qA HP,qA HK⟩
theorem qER{ts:List V3}(qS:Hid (TS ts))(n:Nat)(bO:Hid (∀ k,k≤n→PQ ts k .expr 139))(ihB:Hid (∀ k,k≤n→PQ ts k .block 112)){g:Nat}{lp:Option Addr}{lc:PX}{v:Value}{s:PS}{w:World}(h:zD w g lp lc ts v s)(hf:qM s)(hd:s.dp≤20)(hn:zH ts .inner s≤n+1)(h0:yL ts s [108,101,116]=false)(h1:yL ts s [105,102]=false)(hy:yL ts s [119,104,105,108,101]=true) :
  PZ 114 g lp lc ts v w (run ts (n+1) .inner s):=by
 unfold PZ
 rw[run]
 rw[if_neg (nt h0),if_neg (nt h1),if_pos hy,yB]
 have hat:=h.hat
 have HP:=qC h
 have HK:=qC (PK.refl g v w)
 have mV:=qC hf
 have gH:=qC hd
 have uW:=qC (qI.refl s)
 clear h hf hd
 have hc:=(tJ hy).1
 have yW:=qC (fun v w (hp:zD w g lp lc ts v (qJ ts [40] (qK s)))=>qA bO n (by omega) g lp lc v (qJ ts [40] (qK s)) w hp (by repeat (first | exact qA mV | apply qM.put | refine qM.same ?_ (qO _ _ _) | refine qM.same ?_ (jH _ _ _) | refine qM.same ?_ (qV _ _) | refine qM.same ?_ (qN _) | refine qM.same ?_ (j8 _) | refine qM.same ?_ (qT _ _))) (by (repeat (first | rewrite[q9] | rewrite[zG] | rewrite[jO] | rewrite[qZ] | rewrite[j4]));exact qA gH) (j3 hn hat (by repeat (first | exact qA uW | apply qI.need | apply qI.com | apply qI.name | apply qI.adv | apply qI.put | apply qI.up | apply qI.down)) (by first | exact uP.need (by repeat (first | exact qA uW | apply qI.need | apply qI.com | apply qI.name | apply qI.adv | apply qI.put | apply qI.up | apply qI.down)) | exact uP.name (by repeat (first | exact qA uW | apply qI.need | apply qI.com | apply qI.name | apply qI.adv | apply qI.put | apply qI.up | apply qI.down)) | exact uP.adv (by repeat (first | exact qA uW | apply qI.need | apply qI.com | apply qI.name | apply qI.adv | apply qI.put | apply qI.up | apply qI.down))) hc))
 have cH:=qC (j5 ts n .expr s (qJ ts [40] (qK s)) (by repeat (first | exact qA uW | apply qI.need | apply qI.com | apply qI.name | apply qI.adv | apply qI.put | apply qI.up | apply qI.down)))
 have HT1:=qC (yM ts n .expr s (qJ ts [40] (qK s)) rfl (by repeat (first | exact qA uW | apply qI.need | apply qI.com | apply qI.name | apply qI.adv | apply qI.put | apply qI.up | apply qI.down)))
 have kN:=qC (qM.run (ts:=ts) (n:=n) (f:=.expr) (s:=(qJ ts [40] (qK s))) (by repeat (first | exact qA mV | apply qM.put | refine qM.same ?_ (qO _ _ _) | refine qM.same ?_ (jH _ _ _) | refine qM.same ?_ (qV _ _) | refine qM.same ?_ (qN _) | refine qM.same ?_ (j8 _) | refine qM.same ?_ (qT _ _))))
 have gP:Hid ((run ts n .expr (qJ ts [40] (qK s))).s.dp≤20):=qC (by rw[zC];exact(by (repeat (first | rewrite[q9] | rewrite[zG] | rewrite[jO] | rewrite[qZ] | rewrite[j4]));exact qA gH))
 generalize run ts n .expr (qJ ts [40] (qK s))=o1 at yW cH HT1 kN gP  ⊢
 have yJ:=qC (fun v w (hp:zD w g lp lc ts v (qJ ts [41] o1.s))=>qA ihB n (by omega) g lp lc v (qJ ts [41] o1.s) w hp (by repeat (first | exact qA kN | apply qM.put | refine qM.same ?_ (qO _ _ _) | refine qM.same ?_ (jH _ _ _) | refine qM.same ?_ (qV _ _) | refine qM.same ?_ (qN _) | refine qM.same ?_ (j8 _) | refine qM.same ?_ (qT _ _))) (by (repeat (first | rewrite[q9] | rewrite[zG] | rewrite[jO] | rewrite[qZ] | rewrite[j4]));exact qA gP) (j3 hn hat (by repeat (first | exact qA cH | apply qI.need | apply qI.com | apply qI.name | apply qI.adv | apply qI.put | apply qI.up | apply qI.down)) ((qA HT1).le (by repeat (first | exact qI.refl _ | apply qI.need | apply qI.com | apply qI.name | apply qI.adv | apply qI.put | apply qI.up | apply qI.down))) hc))
 have rY:=qC (j5 ts n .block s (qJ ts [41] o1.s) (by repeat (first | exact qA cH | apply qI.need | apply qI.com | apply qI.name | apply qI.adv | apply qI.put | apply qI.up | apply qI.down)))
 have HT2:=qC (yM ts n .block s (qJ ts [41] o1.s) rfl (by repeat (first | exact qA cH | apply qI.need | apply qI.com | apply qI.name | apply qI.adv | apply qI.put | apply qI.up | apply qI.down)))
 have mZ:=qC (qM.run (ts:=ts) (n:=n) (f:=.block) (s:=(qJ ts [41] o1.s)) (by repeat (first | exact qA kN | apply qM.put | refine qM.same ?_ (qO _ _ _) | refine qM.same ?_ (jH _ _ _) | refine qM.same ?_ (qV _ _) | refine qM.same ?_ (qN _) | refine qM.same ?_ (j8 _) | refine qM.same ?_ (qT _ _))))
 have fF:Hid ((run ts n .block (qJ ts [41] o1.s)).s.dp≤20):=qC (by rw[zC];exact(by (repeat (first | rewrite[q9] | rewrite[zG] | rewrite[jO] | rewrite[qZ] | rewrite[j4]));exact qA gP))
 generalize run ts n .block (qJ ts [41] o1.s)=o2 at yJ rY HT2 mZ fF  ⊢
 go_enter Tryz.func114,Tryz.ntmps114
 have HC:=qC (jC (qA qS) (qA HP) (⟨#[108,101,116]⟩:ByteArray))
 unfold jA at HC
 rw[show(⟨#[108,101,116]⟩:ByteArray).data.toList=[108,101,116] from rfl,h0,if_neg (by simp)]at HC
 clear HP
 go_wp2_with fail
 refine(qA HC).mono ?_
 rintro e w1 ⟨rfl,hp,hk⟩
 have HP:=qC hp
 have qH:=qC ((qA HK).trans hk)
 clear HC hp hk HK
 have HK:=qH
 clear qH
 have HC:=qC (jC (qA qS) (qA HP) (⟨#[105,102]⟩:ByteArray))
 unfold jA at HC
 rw[show(⟨#[105,102]⟩:ByteArray).data.toList=[105,102] from rfl,h1,if_neg (by simp)]at HC
 clear HP
 go_wp2_with fail
 refine(qA HC).mono ?_
 rintro e w2 ⟨rfl,hp,hk⟩
 have HP:=qC hp
 have qH:=qC ((qA HK).trans hk)
 clear HC hp hk HK
 have HK:=qH
 clear qH
 have HC:=qC (jC (qA qS) (qA HP) (⟨#[119,104,105,108,101]⟩:ByteArray))
 unfold jA at HC
 rw[show(⟨#[119,104,105,108,101]⟩:ByteArray).data.toList=[119,104,105,108,101] from rfl,hy,if_pos rfl]at HC
 clear HP
 go_wp2_with fail
 refine(qA HC).mono ?_
 rintro e w3 ⟨rfl,hp,hk⟩
 have HP:=qC hp
 have qH:=qC ((qA HK).trans hk)
 clear HC hp hk HK
 have HK:=qH
 clear qH
 have HC:=qC (mE (qA qS) (qA HP) (⟨#[40]⟩:ByteArray))
 rw[show(⟨#[40]⟩:ByteArray).data.toList=[40] from rfl]at HC
 clear HP
 go_wp2_with fail
 refine(qA HC).mono ?_
 rintro e w4 ⟨rfl,hp,hk⟩
 have HP:=qC hp
 have qH:=qC ((qA HK).trans hk)
 clear HC hp hk HK
 have HK:=qH
 clear qH
 have HC:=qC (qA yW _ _ (qA HP))
 clear HP yW
 go_wp2_with fail
 refine(qA HC).mono ?_
 rintro e w5 ⟨rfl,v1,hp,hk⟩
 have HP:=qC hp
 have qH:=qC ((qA HK).trans hk)
 clear HC hp hk HK
 have HK:=qH
 clear qH
 have HC:=qC (mE (qA qS) (qA HP) (⟨#[41]⟩:ByteArray))
 rw[show(⟨#[41]⟩:ByteArray).data.toList=[41] from rfl]at HC
 clear HP
 go_wp2_with fail
 refine(qA HC).mono ?_
 rintro e w6 ⟨rfl,hp,hk⟩
 have HP:=qC hp
 have qH:=qC ((qA HK).trans hk)
 clear HC hp hk HK
 have HK:=qH
 clear qH
 have HC:=qC (qA yJ _ _ (qA HP))
 clear HP yJ
 go_wp2_with fail
 refine(qA HC).mono ?_
 rintro e w7 ⟨rfl,v2,hp,hk⟩
 have HP:=qC hp
 have qH:=qC ((qA HK).trans hk)
 clear HC hp hk HK
 have HK:=qH
 clear qH
 have HC:=qC (cQ (qA qS) (qA HP) (by repeat (first | exact qA mZ | apply qM.put | refine qM.same ?_ (qO _ _ _) | refine qM.same ?_ (jH _ _ _) | refine qM.same ?_ (qV _ _) | refine qM.same ?_ (qN _) | refine qM.same ?_ (j8 _) | refine qM.same ?_ (qT _ _))) 14 em o1.r o2.r)
 clear HP
 go_wp2_with fail
 refine(qA HC).mono ?_
 rintro e w8 ⟨rfl,vp,hp,hk⟩
 have HP:=qC hp
 have qH:=qC ((qA HK).trans hk)
 clear HC hp hk HK
 have HK:=qH
 clear qH
 go_wp2
 go_ret
 exact⟨rfl,_,qA HP,qA HK⟩
theorem qDJ{ts:List V3}(qS:Hid (TS ts))(n:Nat)(bO:Hid (∀ k,k≤n→PQ ts k .expr 139)){g:Nat}{lp:Option Addr}{lc:PX}{v:Value}{s:PS}{w:World}(h:zD w g lp lc ts v s)(hf:qM s)(hd:s.dp≤20)(hn:zH ts .inner s≤n+1)(h0:yL ts s [108,101,116]=false)(h1:yL ts s [105,102]=false)(h2:yL ts s [119,104,105,108,101]=false)(hy:yL ts s [114,101,116,117,114,110]=true) :
  PZ 114 g lp lc ts v w (run ts (n+1) .inner s):=by
 unfold PZ
 rw[run]
 rw[if_neg (nt h0),if_neg (nt h1),if_neg (nt h2),if_pos hy,yB]
 have hat:=h.hat
 have HP:=qC h
 have HK:=qC (PK.refl g v w)
 have mV:=qC hf
 have gH:=qC hd
 have uW:=qC (qI.refl s)
 clear h hf hd
 have hc:=(tJ hy).1
 have yW:=qC (fun v w (hp:zD w g lp lc ts v (qK s))=>qA bO n (by omega) g lp lc v (qK s) w hp (by repeat (first | exact qA mV | apply qM.put | refine qM.same ?_ (qO _ _ _) | refine qM.same ?_ (jH _ _ _) | refine qM.same ?_ (qV _ _) | refine qM.same ?_ (qN _) | refine qM.same ?_ (j8 _) | refine qM.same ?_ (qT _ _))) (by (repeat (first | rewrite[q9] | rewrite[zG] | rewrite[jO] | rewrite[qZ] | rewrite[j4]));exact qA gH) (j3 hn hat (by repeat (first | exact qA uW | apply qI.need | apply qI.com | apply qI.name | apply qI.adv | apply qI.put | apply qI.up | apply qI.down)) (by first | exact uP.need (by repeat (first | exact qA uW | apply qI.need | apply qI.com | apply qI.name | apply qI.adv | apply qI.put | apply qI.up | apply qI.down)) | exact uP.name (by repeat (first | exact qA uW | apply qI.need | apply qI.com | apply qI.name | apply qI.adv | apply qI.put | apply qI.up | apply qI.down)) | exact uP.adv (by repeat (first | exact qA uW | apply qI.need | apply qI.com | apply qI.name | apply qI.adv | apply qI.put | apply qI.up | apply qI.down))) hc))
 have cH:=qC (j5 ts n .expr s (qK s) (by repeat (first | exact qA uW | apply qI.need | apply qI.com | apply qI.name | apply qI.adv | apply qI.put | apply qI.up | apply qI.down)))
 have HT1:=qC (yM ts n .expr s (qK s) rfl (by repeat (first | exact qA uW | apply qI.need | apply qI.com | apply qI.name | apply qI.adv | apply qI.put | apply qI.up | apply qI.down)))
 have kN:=qC (qM.run (ts:=ts) (n:=n) (f:=.expr) (s:=(qK s)) (by repeat (first | exact qA mV | apply qM.put | refine qM.same ?_ (qO _ _ _) | refine qM.same ?_ (jH _ _ _) | refine qM.same ?_ (qV _ _) | refine qM.same ?_ (qN _) | refine qM.same ?_ (j8 _) | refine qM.same ?_ (qT _ _))))
 have gP:Hid ((run ts n .expr (qK s)).s.dp≤20):=qC (by rw[zC];exact(by (repeat (first | rewrite[q9] | rewrite[zG] | rewrite[jO] | rewrite[qZ] | rewrite[j4]));exact qA gH))
 generalize run ts n .expr (qK s)=o1 at yW cH HT1 kN gP  ⊢
 go_enter Tryz.func114,Tryz.ntmps114
 have HC:=qC (jC (qA qS) (qA HP) (⟨#[108,101,116]⟩:ByteArray))
 unfold jA at HC
 rw[show(⟨#[108,101,116]⟩:ByteArray).data.toList=[108,101,116] from rfl,h0,if_neg (by simp)]at HC
 clear HP
 go_wp2_with fail
 refine(qA HC).mono ?_
 rintro e w1 ⟨rfl,hp,hk⟩
 have HP:=qC hp
 have qH:=qC ((qA HK).trans hk)
 clear HC hp hk HK
 have HK:=qH
 clear qH
 have HC:=qC (jC (qA qS) (qA HP) (⟨#[105,102]⟩:ByteArray))
 unfold jA at HC
 rw[show(⟨#[105,102]⟩:ByteArray).data.toList=[105,102] from rfl,h1,if_neg (by simp)]at HC
 clear HP
 go_wp2_with fail
 refine(qA HC).mono ?_
 rintro e w2 ⟨rfl,hp,hk⟩
 have HP:=qC hp
 have qH:=qC ((qA HK).trans hk)
 clear HC hp hk HK
 have HK:=qH
 clear qH
 have HC:=qC (jC (qA qS) (qA HP) (⟨#[119,104,105,108,101]⟩:ByteArray))
 unfold jA at HC
 rw[show(⟨#[119,104,105,108,101]⟩:ByteArray).data.toList=[119,104,105,108,101] from rfl,h2,if_neg (by simp)]at HC
 clear HP
 go_wp2_with fail
 refine(qA HC).mono ?_
 rintro e w3 ⟨rfl,hp,hk⟩
 have HP:=qC hp
 have qH:=qC ((qA HK).trans hk)
 clear HC hp hk HK
 have HK:=qH
 clear qH
 have HC:=qC (jC (qA qS) (qA HP) (⟨#[114,101,116,117,114,110]⟩:ByteArray))
 unfold jA at HC
 rw[show(⟨#[114,101,116,117,114,110]⟩:ByteArray).data.toList=[114,101,116,117,114,110] from rfl,hy,if_pos rfl]at HC
 clear HP
 go_wp2_with fail
 refine(qA HC).mono ?_
 rintro e w4 ⟨rfl,hp,hk⟩
 have HP:=qC hp
 have qH:=qC ((qA HK).trans hk)
 clear HC hp hk HK
 have HK:=qH
 clear qH
 have HC:=qC (qA yW _ _ (qA HP))
 clear HP yW
 go_wp2_with fail
 refine(qA HC).mono ?_
 rintro e w5 ⟨rfl,v1,hp,hk⟩
 have HP:=qC hp
 have qH:=qC ((qA HK).trans hk)
 clear HC hp hk HK
 have HK:=qH
 clear qH
 have HC:=qC (mE (qA qS) (qA HP) (⟨#[59]⟩:ByteArray))
 rw[show(⟨#[59]⟩:ByteArray).data.toList=[59] from rfl]at HC
 clear HP
 go_wp2_with fail
 refine(qA HC).mono ?_
 rintro e w6 ⟨rfl,hp,hk⟩
 have HP:=qC hp
 have qH:=qC ((qA HK).trans hk)
 clear HC hp hk HK
 have HK:=qH
 clear qH
 have HC:=qC (aB (qA qS) (qA HP) (by repeat (first | exact qA kN | apply qM.put | refine qM.same ?_ (qO _ _ _) | refine qM.same ?_ (jH _ _ _) | refine qM.same ?_ (qV _ _) | refine qM.same ?_ (qN _) | refine qM.same ?_ (j8 _) | refine qM.same ?_ (qT _ _))) 15 em o1.r)
 clear HP
 go_wp2_with fail
 refine(qA HC).mono ?_
 rintro e w7 ⟨rfl,vp,hp,hk⟩
 have HP:=qC hp
 have qH:=qC ((qA HK).trans hk)
 clear HC hp hk HK
 have HK:=qH
 clear qH
 go_wp2
 go_ret
 exact⟨rfl,_,qA HP,qA HK⟩
theorem qFn{ts:List V3}(qS:Hid (TS ts))(n:Nat)(bO:Hid (∀ k,k≤n→PQ ts k .expr 139)){g:Nat}{lp:Option Addr}{lc:PX}{v:Value}{s:PS}{w:World}(h:zD w g lp lc ts v s)(hf:qM s)(hd:s.dp≤20)(hn:zH ts .inner s≤n+1)(h0:yL ts s [108,101,116]=false)(h1:yL ts s [105,102]=false)(h2:yL ts s [119,104,105,108,101]=false)(h3:yL ts s [114,101,116,117,114,110]=false)(hy:yL ts s [116,104,114,111,119]=true) :
  PZ 114 g lp lc ts v w (run ts (n+1) .inner s):=by
 unfold PZ
 rw[run]
 rw[if_neg (nt h0),if_neg (nt h1),if_neg (nt h2),if_neg (nt h3),if_pos hy,yB]
 have hat:=h.hat
 have HP:=qC h
 have HK:=qC (PK.refl g v w)
 have mV:=qC hf
 have gH:=qC hd
 have uW:=qC (qI.refl s)
 clear h hf hd
 have hc:=(tJ hy).1
 have yW:=qC (fun v w (hp:zD w g lp lc ts v (qK s))=>qA bO n (by omega) g lp lc v (qK s) w hp (by repeat (first | exact qA mV | apply qM.put | refine qM.same ?_ (qO _ _ _) | refine qM.same ?_ (jH _ _ _) | refine qM.same ?_ (qV _ _) | refine qM.same ?_ (qN _) | refine qM.same ?_ (j8 _) | refine qM.same ?_ (qT _ _))) (by (repeat (first | rewrite[q9] | rewrite[zG] | rewrite[jO] | rewrite[qZ] | rewrite[j4]));exact qA gH) (j3 hn hat (by repeat (first | exact qA uW | apply qI.need | apply qI.com | apply qI.name | apply qI.adv | apply qI.put | apply qI.up | apply qI.down)) (by first | exact uP.need (by repeat (first | exact qA uW | apply qI.need | apply qI.com | apply qI.name | apply qI.adv | apply qI.put | apply qI.up | apply qI.down)) | exact uP.name (by repeat (first | exact qA uW | apply qI.need | apply qI.com | apply qI.name | apply qI.adv | apply qI.put | apply qI.up | apply qI.down)) | exact uP.adv (by repeat (first | exact qA uW | apply qI.need | apply qI.com | apply qI.name | apply qI.adv | apply qI.put | apply qI.up | apply qI.down))) hc))
 have cH:=qC (j5 ts n .expr s (qK s) (by repeat (first | exact qA uW | apply qI.need | apply qI.com | apply qI.name | apply qI.adv | apply qI.put | apply qI.up | apply qI.down)))
 have HT1:=qC (yM ts n .expr s (qK s) rfl (by repeat (first | exact qA uW | apply qI.need | apply qI.com | apply qI.name | apply qI.adv | apply qI.put | apply qI.up | apply qI.down)))
 have kN:=qC (qM.run (ts:=ts) (n:=n) (f:=.expr) (s:=(qK s)) (by repeat (first | exact qA mV | apply qM.put | refine qM.same ?_ (qO _ _ _) | refine qM.same ?_ (jH _ _ _) | refine qM.same ?_ (qV _ _) | refine qM.same ?_ (qN _) | refine qM.same ?_ (j8 _) | refine qM.same ?_ (qT _ _))))
 have gP:Hid ((run ts n .expr (qK s)).s.dp≤20):=qC (by rw[zC];exact(by (repeat (first | rewrite[q9] | rewrite[zG] | rewrite[jO] | rewrite[qZ] | rewrite[j4]));exact qA gH))
 generalize run ts n .expr (qK s)=o1 at yW cH HT1 kN gP  ⊢
 go_enter Tryz.func114,Tryz.ntmps114
 have HC:=qC (jC (qA qS) (qA HP) (⟨#[108,101,116]⟩:ByteArray))
 unfold jA at HC
 rw[show(⟨#[108,101,116]⟩:ByteArray).data.toList=[108,101,116] from rfl,h0,if_neg (by simp)]at HC
 clear HP
 go_wp2_with fail
 refine(qA HC).mono ?_
 rintro e w1 ⟨rfl,hp,hk⟩
 have HP:=qC hp
 have qH:=qC ((qA HK).trans hk)
 clear HC hp hk HK
 have HK:=qH
 clear qH
 have HC:=qC (jC (qA qS) (qA HP) (⟨#[105,102]⟩:ByteArray))
 unfold jA at HC
 rw[show(⟨#[105,102]⟩:ByteArray).data.toList=[105,102] from rfl,h1,if_neg (by simp)]at HC
 clear HP
 go_wp2_with fail
 refine(qA HC).mono ?_
 rintro e w2 ⟨rfl,hp,hk⟩
 have HP:=qC hp
 have qH:=qC ((qA HK).trans hk)
 clear HC hp hk HK
 have HK:=qH
 clear qH
 have HC:=qC (jC (qA qS) (qA HP) (⟨#[119,104,105,108,101]⟩:ByteArray))
 unfold jA at HC
 rw[show(⟨#[119,104,105,108,101]⟩:ByteArray).data.toList=[119,104,105,108,101] from rfl,h2,if_neg (by simp)]at HC
 clear HP
 go_wp2_with fail
 refine(qA HC).mono ?_
 rintro e w3 ⟨rfl,hp,hk⟩
 have HP:=qC hp
 have qH:=qC ((qA HK).trans hk)
 clear HC hp hk HK
 have HK:=qH
 clear qH
 have HC:=qC (jC (qA qS) (qA HP) (⟨#[114,101,116,117,114,110]⟩:ByteArray))
 unfold jA at HC
 rw[show(⟨#[114,101,116,117,114,110]⟩:ByteArray).data.toList=[114,101,116,117,114,110] from rfl,h3,if_neg (by simp)]at HC
 clear HP
 go_wp2_with fail
 refine(qA HC).mono ?_
 rintro e w4 ⟨rfl,hp,hk⟩
 have HP:=qC hp
 have qH:=qC ((qA HK).trans hk)
 clear HC hp hk HK
 have HK:=qH
 clear qH
 have HC:=qC (jC (qA qS) (qA HP) (⟨#[116,104,114,111,119]⟩:ByteArray))
 unfold jA at HC
 rw[show(⟨#[116,104,114,111,119]⟩:ByteArray).data.toList=[116,104,114,111,119] from rfl,hy,if_pos rfl]at HC
 clear HP
 go_wp2_with fail
 refine(qA HC).mono ?_
 rintro e w5 ⟨rfl,hp,hk⟩
 have HP:=qC hp
 have qH:=qC ((qA HK).trans hk)
 clear HC hp hk HK
 have HK:=qH
 clear qH
 have HC:=qC (qA yW _ _ (qA HP))
 clear HP yW
 go_wp2_with fail
 refine(qA HC).mono ?_
 rintro e w6 ⟨rfl,v1,hp,hk⟩
 have HP:=qC hp
 have qH:=qC ((qA HK).trans hk)
 clear HC hp hk HK
 have HK:=qH
 clear qH
 have HC:=qC (mE (qA qS) (qA HP) (⟨#[59]⟩:ByteArray))
 rw[show(⟨#[59]⟩:ByteArray).data.toList=[59] from rfl]at HC
 clear HP
 go_wp2_with fail
 refine(qA HC).mono ?_
 rintro e w7 ⟨rfl,hp,hk⟩
 have HP:=qC hp
 have qH:=qC ((qA HK).trans hk)
 clear HC hp hk HK
 have HK:=qH
 clear qH
 have HC:=qC (aB (qA qS) (qA HP) (by repeat (first | exact qA kN | apply qM.put | refine qM.same ?_ (qO _ _ _) | refine qM.same ?_ (jH _ _ _) | refine qM.same ?_ (qV _ _) | refine qM.same ?_ (qN _) | refine qM.same ?_ (j8 _) | refine qM.same ?_ (qT _ _))) 16 em o1.r)
 clear HP
 go_wp2_with fail
 refine(qA HC).mono ?_
 rintro e w8 ⟨rfl,vp,hp,hk⟩
 have HP:=qC hp
 have qH:=qC ((qA HK).trans hk)
 clear HC hp hk HK
 have HK:=qH
 clear qH
 go_wp2
 go_ret
 exact⟨rfl,_,qA HP,qA HK⟩
theorem qGZ{ts:List V3}(qS:Hid (TS ts))(n:Nat)(ihB:Hid (∀ k,k≤n→PQ ts k .block 112)){g:Nat}{lp:Option Addr}{lc:PX}{v:Value}{s:PS}{w:World}(h:zD w g lp lc ts v s)(hf:qM s)(hd:s.dp≤20)(hn:zH ts .inner s≤n+1)(h0:yL ts s [108,101,116]=false)(h1:yL ts s [105,102]=false)(h2:yL ts s [119,104,105,108,101]=false)(h3:yL ts s [114,101,116,117,114,110]=false)(h4:yL ts s [116,104,114,111,119]=false)(hy:yL ts s [116,114,121]=true)(he:(qJ ts [40] (qJ ts [99,97,116,99,104] (run ts n .block (qK s)).s)).code=0) :
  PZ 114 g lp lc ts v w (run ts (n+1) .inner s):=by
 unfold PZ
 rw[run]
 rw[if_neg (nt h0),if_neg (nt h1),if_neg (nt h2),if_neg (nt h3),if_neg (nt h4),if_pos hy,if_pos he,yB]
 have hat:=h.hat
 have HP:=qC h
 have HK:=qC (PK.refl g v w)
 have mV:=qC hf
 have gH:=qC hd
 have uW:=qC (qI.refl s)
 clear h hf hd
 have hc:=(tJ hy).1
 have yW:=qC (fun v w (hp:zD w g lp lc ts v (qK s))=>qA ihB n (by omega) g lp lc v (qK s) w hp (by repeat (first | exact qA mV | apply qM.put | refine qM.same ?_ (qO _ _ _) | refine qM.same ?_ (jH _ _ _) | refine qM.same ?_ (qV _ _) | refine qM.same ?_ (qN _) | refine qM.same ?_ (j8 _) | refine qM.same ?_ (qT _ _))) (by (repeat (first | rewrite[q9] | rewrite[zG] | rewrite[jO] | rewrite[qZ] | rewrite[j4]));exact qA gH) (j3 hn hat (by repeat (first | exact qA uW | apply qI.need | apply qI.com | apply qI.name | apply qI.adv | apply qI.put | apply qI.up | apply qI.down)) (by first | exact uP.need (by repeat (first | exact qA uW | apply qI.need | apply qI.com | apply qI.name | apply qI.adv | apply qI.put | apply qI.up | apply qI.down)) | exact uP.name (by repeat (first | exact qA uW | apply qI.need | apply qI.com | apply qI.name | apply qI.adv | apply qI.put | apply qI.up | apply qI.down)) | exact uP.adv (by repeat (first | exact qA uW | apply qI.need | apply qI.com | apply qI.name | apply qI.adv | apply qI.put | apply qI.up | apply qI.down))) hc))
 have cH:=qC (j5 ts n .block s (qK s) (by repeat (first | exact qA uW | apply qI.need | apply qI.com | apply qI.name | apply qI.adv | apply qI.put | apply qI.up | apply qI.down)))
 have HT1:=qC (yM ts n .block s (qK s) rfl (by repeat (first | exact qA uW | apply qI.need | apply qI.com | apply qI.name | apply qI.adv | apply qI.put | apply qI.up | apply qI.down)))
 have kN:=qC (qM.run (ts:=ts) (n:=n) (f:=.block) (s:=(qK s)) (by repeat (first | exact qA mV | apply qM.put | refine qM.same ?_ (qO _ _ _) | refine qM.same ?_ (jH _ _ _) | refine qM.same ?_ (qV _ _) | refine qM.same ?_ (qN _) | refine qM.same ?_ (j8 _) | refine qM.same ?_ (qT _ _))))
 have gP:Hid ((run ts n .block (qK s)).s.dp≤20):=qC (by rw[zC];exact(by (repeat (first | rewrite[q9] | rewrite[zG] | rewrite[jO] | rewrite[qZ] | rewrite[j4]));exact qA gH))
 generalize run ts n .block (qK s)=o1 at yW cH HT1 kN gP he ⊢
 have yJ:=qC (fun v w (hp:zD w g lp lc ts v (qJ ts [41] (jN ts (qJ ts [40] (qJ ts [99,97,116,99,104] o1.s))).2))=>qA ihB n (by omega) g lp lc v (qJ ts [41] (jN ts (qJ ts [40] (qJ ts [99,97,116,99,104] o1.s))).2) w hp (by repeat (first | exact qA kN | apply qM.put | refine qM.same ?_ (qO _ _ _) | refine qM.same ?_ (jH _ _ _) | refine qM.same ?_ (qV _ _) | refine qM.same ?_ (qN _) | refine qM.same ?_ (j8 _) | refine qM.same ?_ (qT _ _))) (by (repeat (first | rewrite[q9] | rewrite[zG] | rewrite[jO] | rewrite[qZ] | rewrite[j4]));exact qA gP) (j3 hn hat (by repeat (first | exact qA cH | apply qI.need | apply qI.com | apply qI.name | apply qI.adv | apply qI.put | apply qI.up | apply qI.down)) ((qA HT1).le (by repeat (first | exact qI.refl _ | apply qI.need | apply qI.com | apply qI.name | apply qI.adv | apply qI.put | apply qI.up | apply qI.down))) hc))
 have rY:=qC (j5 ts n .block s (qJ ts [41] (jN ts (qJ ts [40] (qJ ts [99,97,116,99,104] o1.s))).2) (by repeat (first | exact qA cH | apply qI.need | apply qI.com | apply qI.name | apply qI.adv | apply qI.put | apply qI.up | apply qI.down)))
 have HT2:=qC (yM ts n .block s (qJ ts [41] (jN ts (qJ ts [40] (qJ ts [99,97,116,99,104] o1.s))).2) rfl (by repeat (first | exact qA cH | apply qI.need | apply qI.com | apply qI.name | apply qI.adv | apply qI.put | apply qI.up | apply qI.down)))
 have mZ:=qC (qM.run (ts:=ts) (n:=n) (f:=.block) (s:=(qJ ts [41] (jN ts (qJ ts [40] (qJ ts [99,97,116,99,104] o1.s))).2)) (by repeat (first | exact qA kN | apply qM.put | refine qM.same ?_ (qO _ _ _) | refine qM.same ?_ (jH _ _ _) | refine qM.same ?_ (qV _ _) | refine qM.same ?_ (qN _) | refine qM.same ?_ (j8 _) | refine qM.same ?_ (qT _ _))))
 have fF:Hid ((run ts n .block (qJ ts [41] (jN ts (qJ ts [40] (qJ ts [99,97,116,99,104] o1.s))).2)).s.dp≤20):=qC (by rw[zC];exact(by (repeat (first | rewrite[q9] | rewrite[zG] | rewrite[jO] | rewrite[qZ] | rewrite[j4]));exact qA gP))
 generalize run ts n .block (qJ ts [41] (jN ts (qJ ts [40] (qJ ts [99,97,116,99,104] o1.s))).2)=o2 at yJ rY HT2 mZ fF he ⊢
 go_enter Tryz.func114,Tryz.ntmps114
 have HC:=qC (jC (qA qS) (qA HP) (⟨#[108,101,116]⟩:ByteArray))
 unfold jA at HC
 rw[show(⟨#[108,101,116]⟩:ByteArray).data.toList=[108,101,116] from rfl,h0,if_neg (by simp)]at HC
 clear HP
 go_wp2_with fail
 refine(qA HC).mono ?_
 rintro e w1 ⟨rfl,hp,hk⟩
 have HP:=qC hp
 have qH:=qC ((qA HK).trans hk)
 clear HC hp hk HK
 have HK:=qH
 clear qH
 have HC:=qC (jC (qA qS) (qA HP) (⟨#[105,102]⟩:ByteArray))
 unfold jA at HC
 rw[show(⟨#[105,102]⟩:ByteArray).data.toList=[105,102] from rfl,h1,if_neg (by simp)]at HC
 clear HP
 go_wp2_with fail
 refine(qA HC).mono ?_
 rintro e w2 ⟨rfl,hp,hk⟩
 have HP:=qC hp
 have qH:=qC ((qA HK).trans hk)
 clear HC hp hk HK
 have HK:=qH
 clear qH
 have HC:=qC (jC (qA qS) (qA HP) (⟨#[119,104,105,108,101]⟩:ByteArray))
 unfold jA at HC
 rw[show(⟨#[119,104,105,108,101]⟩:ByteArray).data.toList=[119,104,105,108,101] from rfl,h2,if_neg (by simp)]at HC
 clear HP
 go_wp2_with fail
 refine(qA HC).mono ?_
 rintro e w3 ⟨rfl,hp,hk⟩
 have HP:=qC hp
 have qH:=qC ((qA HK).trans hk)
 clear HC hp hk HK
 have HK:=qH
 clear qH
 have HC:=qC (jC (qA qS) (qA HP) (⟨#[114,101,116,117,114,110]⟩:ByteArray))
 unfold jA at HC
 rw[show(⟨#[114,101,116,117,114,110]⟩:ByteArray).data.toList=[114,101,116,117,114,110] from rfl,h3,if_neg (by simp)]at HC
 clear HP
 go_wp2_with fail
 refine(qA HC).mono ?_
 rintro e w4 ⟨rfl,hp,hk⟩
 have HP:=qC hp
 have qH:=qC ((qA HK).trans hk)
 clear HC hp hk HK
 have HK:=qH
 clear qH
 have HC:=qC (jC (qA qS) (qA HP) (⟨#[116,104,114,111,119]⟩:ByteArray))
 unfold jA at HC
 rw[show(⟨#[116,104,114,111,119]⟩:ByteArray).data.toList=[116,104,114,111,119] from rfl,h4,if_neg (by simp)]at HC
 clear HP
 go_wp2_with fail
 refine(qA HC).mono ?_
 rintro e w5 ⟨rfl,hp,hk⟩
 have HP:=qC hp
 have qH:=qC ((qA HK).trans hk)
 clear HC hp hk HK
 have HK:=qH
 clear qH
 have HC:=qC (jC (qA qS) (qA HP) (⟨#[116,114,121]⟩:ByteArray))
 unfold jA at HC
 rw[show(⟨#[116,114,121]⟩:ByteArray).data.toList=[116,114,121] from rfl,hy,if_pos rfl]at HC
 clear HP
 go_wp2_with fail
 refine(qA HC).mono ?_
 rintro e w6 ⟨rfl,hp,hk⟩
 have HP:=qC hp
 have qH:=qC ((qA HK).trans hk)
 clear HC hp hk HK
 have HK:=qH
 clear qH
 have HC:=qC (qA yW _ _ (qA HP))
 clear HP yW
 go_wp2_with fail
 refine(qA HC).mono ?_
 rintro e w7 ⟨rfl,v1,hp,hk⟩
 have HP:=qC hp
 have qH:=qC ((qA HK).trans hk)
 clear HC hp hk HK
 have HK:=qH
 clear qH
 have HC:=qC (mE (qA qS) (qA HP) (⟨#[99,97,116,99,104]⟩:ByteArray))
 rw[show(⟨#[99,97,116,99,104]⟩:ByteArray).data.toList=[99,97,116,99,104] from rfl]at HC
 clear HP
 go_wp2_with fail
 refine(qA HC).mono ?_
 rintro e w8 ⟨rfl,hp,hk⟩
 have HP:=qC hp
 have qH:=qC ((qA HK).trans hk)
 clear HC hp hk HK
 have HK:=qH
 clear qH
 have HC:=qC (mE (qA qS) (qA HP) (⟨#[40]⟩:ByteArray))
 rw[show(⟨#[40]⟩:ByteArray).data.toList=[40] from rfl]at HC
 clear HP
 go_wp2_with fail
 refine(qA HC).mono ?_
 rintro e w9 ⟨rfl,hp,hk⟩
 have HP:=qC hp
 have qH:=qC ((qA HK).trans hk)
 clear HC hp hk HK
 have HK:=qH
 clear qH
 obtain⟨c0,c1,c2,c3,c4,c5⟩:=(qA HP).cells
 have hg:=(qA HP).lt
 rw[he]at c4
 have HC:=qC (qGz (qA qS) (qA HP))
 clear HP
 go_wp2_with fail
 refine(qA HC).mono ?_
 rintro e w10 ⟨rfl,hp,hk⟩
 have HP:=qC hp
 have qH:=qC ((qA HK).trans hk)
 clear HC hp hk HK
 have HK:=qH
 clear qH
 clear c0 c1 c2 c3 c4 c5
 have HC:=qC (mE (qA qS) (qA HP) (⟨#[41]⟩:ByteArray))
 rw[show(⟨#[41]⟩:ByteArray).data.toList=[41] from rfl]at HC
 clear HP
 go_wp2_with fail
 refine(qA HC).mono ?_
 rintro e w11 ⟨rfl,hp,hk⟩
 have HP:=qC hp
 have qH:=qC ((qA HK).trans hk)
 clear HC hp hk HK
 have HK:=qH
 clear qH
 have HC:=qC (qA yJ _ _ (qA HP))
 clear HP yJ
 go_wp2_with fail
 refine(qA HC).mono ?_
 rintro e w12 ⟨rfl,v2,hp,hk⟩
 have HP:=qC hp
 have qH:=qC ((qA HK).trans hk)
 clear HC hp hk HK
 have HK:=qH
 clear qH
 have HC:=qC (cQ (qA qS) (qA HP) (by repeat (first | exact qA mZ | apply qM.put | refine qM.same ?_ (qO _ _ _) | refine qM.same ?_ (jH _ _ _) | refine qM.same ?_ (qV _ _) | refine qM.same ?_ (qN _) | refine qM.same ?_ (j8 _) | refine qM.same ?_ (qT _ _))) 17 (jN ts (qJ ts [40] (qJ ts [99,97,116,99,104] o1.s))).1 o1.r o2.r)
 clear HP
 go_wp2_with fail
 refine(qA HC).mono ?_
 rintro e w13 ⟨rfl,vp,hp,hk⟩
 have HP:=qC hp
 have qH:=qC ((qA HK).trans hk)
 clear HC hp hk HK
 have HK:=qH
 clear qH
 go_wp2
 go_ret
 exact⟨rfl,_,qA HP,qA HK⟩
theorem qFV{ts:List V3}(qS:Hid (TS ts))(n:Nat)(ihB:Hid (∀ k,k≤n→PQ ts k .block 112)){g:Nat}{lp:Option Addr}{lc:PX}{v:Value}{s:PS}{w:World}(h:zD w g lp lc ts v s)(hf:qM s)(hd:s.dp≤20)(hn:zH ts .inner s≤n+1)(h0:yL ts s [108,101,116]=false)(h1:yL ts s [105,102]=false)(h2:yL ts s [119,104,105,108,101]=false)(h3:yL ts s [114,101,116,117,114,110]=false)(h4:yL ts s [116,104,114,111,119]=false)(hy:yL ts s [116,114,121]=true)(he:¬(qJ ts [40] (qJ ts [99,97,116,99,104] (run ts n .block (qK s)).s)).code=0) :
  PZ 114 g lp lc ts v w (run ts (n+1) .inner s):=by
 unfold PZ
 rw[run]
 rw[if_neg (nt h0),if_neg (nt h1),if_neg (nt h2),if_neg (nt h3),if_neg (nt h4),if_pos hy,if_neg he,yB]
 have hat:=h.hat
 have HP:=qC h
 have HK:=qC (PK.refl g v w)
 have mV:=qC hf
 have gH:=qC hd
 have uW:=qC (qI.refl s)
 clear h hf hd
 have hc:=(tJ hy).1
 have yW:=qC (fun v w (hp:zD w g lp lc ts v (qK s))=>qA ihB n (by omega) g lp lc v (qK s) w hp (by repeat (first | exact qA mV | apply qM.put | refine qM.same ?_ (qO _ _ _) | refine qM.same ?_ (jH _ _ _) | refine qM.same ?_ (qV _ _) | refine qM.same ?_ (qN _) | refine qM.same ?_ (j8 _) | refine qM.same ?_ (qT _ _))) (by (repeat (first | rewrite[q9] | rewrite[zG] | rewrite[jO] | rewrite[qZ] | rewrite[j4]));exact qA gH) (j3 hn hat (by repeat (first | exact qA uW | apply qI.need | apply qI.com | apply qI.name | apply qI.adv | apply qI.put | apply qI.up | apply qI.down)) (by first | exact uP.need (by repeat (first | exact qA uW | apply qI.need | apply qI.com | apply qI.name | apply qI.adv | apply qI.put | apply qI.up | apply qI.down)) | exact uP.name (by repeat (first | exact qA uW | apply qI.need | apply qI.com | apply qI.name | apply qI.adv | apply qI.put | apply qI.up | apply qI.down)) | exact uP.adv (by repeat (first | exact qA uW | apply qI.need | apply qI.com | apply qI.name | apply qI.adv | apply qI.put | apply qI.up | apply qI.down))) hc))
 have cH:=qC (j5 ts n .block s (qK s) (by repeat (first | exact qA uW | apply qI.need | apply qI.com | apply qI.name | apply qI.adv | apply qI.put | apply qI.up | apply qI.down)))
 have HT1:=qC (yM ts n .block s (qK s) rfl (by repeat (first | exact qA uW | apply qI.need | apply qI.com | apply qI.name | apply qI.adv | apply qI.put | apply qI.up | apply qI.down)))
 have kN:=qC (qM.run (ts:=ts) (n:=n) (f:=.block) (s:=(qK s)) (by repeat (first | exact qA mV | apply qM.put | refine qM.same ?_ (qO _ _ _) | refine qM.same ?_ (jH _ _ _) | refine qM.same ?_ (qV _ _) | refine qM.same ?_ (qN _) | refine qM.same ?_ (j8 _) | refine qM.same ?_ (qT _ _))))
 have gP:Hid ((run ts n .block (qK s)).s.dp≤20):=qC (by rw[zC];exact(by (repeat (first | rewrite[q9] | rewrite[zG] | rewrite[jO] | rewrite[qZ] | rewrite[j4]));exact qA gH))
 generalize run ts n .block (qK s)=o1 at yW cH HT1 kN gP he ⊢
 have yJ:=qC (fun v w (hp:zD w g lp lc ts v (qJ ts [41] (qJ ts [40] (qJ ts [99,97,116,99,104] o1.s))))=>qA ihB n (by omega) g lp lc v (qJ ts [41] (qJ ts [40] (qJ ts [99,97,116,99,104] o1.s))) w hp (by repeat (first | exact qA kN | apply qM.put | refine qM.same ?_ (qO _ _ _) | refine qM.same ?_ (jH _ _ _) | refine qM.same ?_ (qV _ _) | refine qM.same ?_ (qN _) | refine qM.same ?_ (j8 _) | refine qM.same ?_ (qT _ _))) (by (repeat (first | rewrite[q9] | rewrite[zG] | rewrite[jO] | rewrite[qZ] | rewrite[j4]));exact qA gP) (j3 hn hat (by repeat (first | exact qA cH | apply qI.need | apply qI.com | apply qI.name | apply qI.adv | apply qI.put | apply qI.up | apply qI.down)) ((qA HT1).le (by repeat (first | exact qI.refl _ | apply qI.need | apply qI.com | apply qI.name | apply qI.adv | apply qI.put | apply qI.up | apply qI.down))) hc))
 have rY:=qC (j5 ts n .block s (qJ ts [41] (qJ ts [40] (qJ ts [99,97,116,99,104] o1.s))) (by repeat (first | exact qA cH | apply qI.need | apply qI.com | apply qI.name | apply qI.adv | apply qI.put | apply qI.up | apply qI.down)))
 have HT2:=qC (yM ts n .block s (qJ ts [41] (qJ ts [40] (qJ ts [99,97,116,99,104] o1.s))) rfl (by repeat (first | exact qA cH | apply qI.need | apply qI.com | apply qI.name | apply qI.adv | apply qI.put | apply qI.up | apply qI.down)))
 have mZ:=qC (qM.run (ts:=ts) (n:=n) (f:=.block) (s:=(qJ ts [41] (qJ ts [40] (qJ ts [99,97,116,99,104] o1.s)))) (by repeat (first | exact qA kN | apply qM.put | refine qM.same ?_ (qO _ _ _) | refine qM.same ?_ (jH _ _ _) | refine qM.same ?_ (qV _ _) | refine qM.same ?_ (qN _) | refine qM.same ?_ (j8 _) | refine qM.same ?_ (qT _ _))))
 have fF:Hid ((run ts n .block (qJ ts [41] (qJ ts [40] (qJ ts [99,97,116,99,104] o1.s)))).s.dp≤20):=qC (by rw[zC];exact(by (repeat (first | rewrite[q9] | rewrite[zG] | rewrite[jO] | rewrite[qZ] | rewrite[j4]));exact qA gP))
 generalize run ts n .block (qJ ts [41] (qJ ts [40] (qJ ts [99,97,116,99,104] o1.s)))=o2 at yJ rY HT2 mZ fF he ⊢
 go_enter Tryz.func114,Tryz.ntmps114
 have HC:=qC (jC (qA qS) (qA HP) (⟨#[108,101,116]⟩:ByteArray))
 unfold jA at HC
 rw[show(⟨#[108,101,116]⟩:ByteArray).data.toList=[108,101,116] from rfl,h0,if_neg (by simp)]at HC
 clear HP
 go_wp2_with fail
 refine(qA HC).mono ?_
 rintro e w1 ⟨rfl,hp,hk⟩
 have HP:=qC hp
 have qH:=qC ((qA HK).trans hk)
 clear HC hp hk HK
 have HK:=qH
 clear qH
 have HC:=qC (jC (qA qS) (qA HP) (⟨#[105,102]⟩:ByteArray))
 unfold jA at HC
 rw[show(⟨#[105,102]⟩:ByteArray).data.toList=[105,102] from rfl,h1,if_neg (by simp)]at HC
 clear HP
 go_wp2_with fail
 refine(qA HC).mono ?_
 rintro e w2 ⟨rfl,hp,hk⟩
 have HP:=qC hp
 have qH:=qC ((qA HK).trans hk)
 clear HC hp hk HK
 have HK:=qH
 clear qH
 have HC:=qC (jC (qA qS) (qA HP) (⟨#[119,104,105,108,101]⟩:ByteArray))
 unfold jA at HC
 rw[show(⟨#[119,104,105,108,101]⟩:ByteArray).data.toList=[119,104,105,108,101] from rfl,h2,if_neg (by simp)]at HC
 clear HP
 go_wp2_with fail
 refine(qA HC).mono ?_
 rintro e w3 ⟨rfl,hp,hk⟩
 have HP:=qC hp
 have qH:=qC ((qA HK).trans hk)
 clear HC hp hk HK
 have HK:=qH
 clear qH
 have HC:=qC (jC (qA qS) (qA HP) (⟨#[114,101,116,117,114,110]⟩:ByteArray))
 unfold jA at HC
 rw[show(⟨#[114,101,116,117,114,110]⟩:ByteArray).data.toList=[114,101,116,117,114,110] from rfl,h3,if_neg (by simp)]at HC
 clear HP
 go_wp2_with fail
 refine(qA HC).mono ?_
 rintro e w4 ⟨rfl,hp,hk⟩
 have HP:=qC hp
 have qH:=qC ((qA HK).trans hk)
 clear HC hp hk HK
 have HK:=qH
 clear qH
 have HC:=qC (jC (qA qS) (qA HP) (⟨#[116,104,114,111,119]⟩:ByteArray))
 unfold jA at HC
 rw[show(⟨#[116,104,114,111,119]⟩:ByteArray).data.toList=[116,104,114,111,119] from rfl,h4,if_neg (by simp)]at HC
 clear HP
 go_wp2_with fail
 refine(qA HC).mono ?_
 rintro e w5 ⟨rfl,hp,hk⟩
 have HP:=qC hp
 have qH:=qC ((qA HK).trans hk)
 clear HC hp hk HK
 have HK:=qH
 clear qH
 have HC:=qC (jC (qA qS) (qA HP) (⟨#[116,114,121]⟩:ByteArray))
 unfold jA at HC
 rw[show(⟨#[116,114,121]⟩:ByteArray).data.toList=[116,114,121] from rfl,hy,if_pos rfl]at HC
 clear HP
 go_wp2_with fail
 refine(qA HC).mono ?_
 rintro e w6 ⟨rfl,hp,hk⟩
 have HP:=qC hp
 have qH:=qC ((qA HK).trans hk)
 clear HC hp hk HK
 have HK:=qH
 clear qH
 have HC:=qC (qA yW _ _ (qA HP))
 clear HP yW
 go_wp2_with fail
 refine(qA HC).mono ?_
 rintro e w7 ⟨rfl,v1,hp,hk⟩
 have HP:=qC hp
 have qH:=qC ((qA HK).trans hk)
 clear HC hp hk HK
 have HK:=qH
 clear qH
 have HC:=qC (mE (qA qS) (qA HP) (⟨#[99,97,116,99,104]⟩:ByteArray))
 rw[show(⟨#[99,97,116,99,104]⟩:ByteArray).data.toList=[99,97,116,99,104] from rfl]at HC
 clear HP
 go_wp2_with fail
 refine(qA HC).mono ?_
 rintro e w8 ⟨rfl,hp,hk⟩
 have HP:=qC hp
 have qH:=qC ((qA HK).trans hk)
 clear HC hp hk HK
 have HK:=qH
 clear qH
 have HC:=qC (mE (qA qS) (qA HP) (⟨#[40]⟩:ByteArray))
 rw[show(⟨#[40]⟩:ByteArray).data.toList=[40] from rfl]at HC
 clear HP
 go_wp2_with fail
 refine(qA HC).mono ?_
 rintro e w9 ⟨rfl,hp,hk⟩
 have HP:=qC hp
 have qH:=qC ((qA HK).trans hk)
 clear HC hp hk HK
 have HK:=qH
 clear qH
 obtain⟨c0,c1,c2,c3,c4,c5⟩:=(qA HP).cells
 have hg:=(qA HP).lt
 have e0:((qJ ts [40] (qJ ts [99,97,116,99,104] o1.s)).code == 0)=false:=beq_eq_false_iff_ne.2 he
 have HC:=qC (mE (qA qS) (qA HP) (⟨#[41]⟩:ByteArray))
 rw[show(⟨#[41]⟩:ByteArray).data.toList=[41] from rfl]at HC
 clear HP
 go_wp2_with fail
 refine(qA HC).mono ?_
 rintro e w10 ⟨rfl,hp,hk⟩
 have HP:=qC hp
 have qH:=qC ((qA HK).trans hk)
 clear HC hp hk HK
 have HK:=qH
 clear qH
 clear c0 c1 c2 c3 c4 c5 e0
 have HC:=qC (qA yJ _ _ (qA HP))
 clear HP yJ
 go_wp2_with fail
 refine(qA HC).mono ?_
 rintro e w11 ⟨rfl,v2,hp,hk⟩
 have HP:=qC hp
 have qH:=qC ((qA HK).trans hk)
 clear HC hp hk HK
 have HK:=qH
 clear qH
 have HC:=qC (cQ (qA qS) (qA HP) (by repeat (first | exact qA mZ | apply qM.put | refine qM.same ?_ (qO _ _ _) | refine qM.same ?_ (jH _ _ _) | refine qM.same ?_ (qV _ _) | refine qM.same ?_ (qN _) | refine qM.same ?_ (j8 _) | refine qM.same ?_ (qT _ _))) 17 em o1.r o2.r)
 clear HP
 go_wp2_with fail
 refine(qA HC).mono ?_
 rintro e w12 ⟨rfl,vp,hp,hk⟩
 have HP:=qC hp
 have qH:=qC ((qA HK).trans hk)
 clear HC hp hk HK
 have HK:=qH
 clear qH
 go_wp2
 go_ret
 exact⟨rfl,_,qA HP,qA HK⟩
theorem qE3{ts:List V3}(qS:Hid (TS ts))(n:Nat)(ihB:Hid (∀ k,k≤n→PQ ts k .block 112)){g:Nat}{lp:Option Addr}{lc:PX}{v:Value}{s:PS}{w:World}(h:zD w g lp lc ts v s)(hf:qM s)(hd:s.dp≤20)(hn:zH ts .inner s≤n+1)(h0:yL ts s [108,101,116]=false)(h1:yL ts s [105,102]=false)(h2:yL ts s [119,104,105,108,101]=false)(h3:yL ts s [114,101,116,117,114,110]=false)(h4:yL ts s [116,104,114,111,119]=false)(h5:yL ts s [116,114,121]=false)(hy:kA ts s [123]=true) :
  PZ 114 g lp lc ts v w (run ts (n+1) .inner s):=by
 unfold PZ
 rw[run]
 rw[if_neg (nt h0),if_neg (nt h1),if_neg (nt h2),if_neg (nt h3),if_neg (nt h4),if_neg (nt h5),if_pos hy]
 have hat:=h.hat
 have HP:=qC h
 have HK:=qC (PK.refl g v w)
 have mV:=qC hf
 have gH:=qC hd
 have uW:=qC (qI.refl s)
 clear h hf hd
 have yW:=qC (fun v w (hp:zD w g lp lc ts v s)=>qA ihB n (by omega) g lp lc v s w hp (by repeat (first | exact qA mV | apply qM.put | refine qM.same ?_ (qO _ _ _) | refine qM.same ?_ (jH _ _ _) | refine qM.same ?_ (qV _ _) | refine qM.same ?_ (qN _) | refine qM.same ?_ (j8 _) | refine qM.same ?_ (qT _ _))) (by (repeat (first | rewrite[q9] | rewrite[zG] | rewrite[jO] | rewrite[qZ] | rewrite[j4]));exact qA gH) (zZ hn hat (qI.refl s) (fun _ _=>.inl (by decide)) (fun _=>by decide)))
 have cH:=qC (j5 ts n .block s s (by repeat (first | exact qA uW | apply qI.need | apply qI.com | apply qI.name | apply qI.adv | apply qI.put | apply qI.up | apply qI.down)))
 have HT1:=qC (yM ts n .block s s rfl (by repeat (first | exact qA uW | apply qI.need | apply qI.com | apply qI.name | apply qI.adv | apply qI.put | apply qI.up | apply qI.down)))
 have kN:=qC (qM.run (ts:=ts) (n:=n) (f:=.block) (s:=s) (by repeat (first | exact qA mV | apply qM.put | refine qM.same ?_ (qO _ _ _) | refine qM.same ?_ (jH _ _ _) | refine qM.same ?_ (qV _ _) | refine qM.same ?_ (qN _) | refine qM.same ?_ (j8 _) | refine qM.same ?_ (qT _ _))))
 have gP:Hid ((run ts n .block s).s.dp≤20):=qC (by rw[zC];exact(by (repeat (first | rewrite[q9] | rewrite[zG] | rewrite[jO] | rewrite[qZ] | rewrite[j4]));exact qA gH))
 generalize run ts n .block s=o1 at yW cH HT1 kN gP  ⊢
 go_enter Tryz.func114,Tryz.ntmps114
 have HC:=qC (jC (qA qS) (qA HP) (⟨#[108,101,116]⟩:ByteArray))
 unfold jA at HC
 rw[show(⟨#[108,101,116]⟩:ByteArray).data.toList=[108,101,116] from rfl,h0,if_neg (by simp)]at HC
 clear HP
 go_wp2_with fail
 refine(qA HC).mono ?_
 rintro e w1 ⟨rfl,hp,hk⟩
 have HP:=qC hp
 have qH:=qC ((qA HK).trans hk)
 clear HC hp hk HK
 have HK:=qH
 clear qH
 have HC:=qC (jC (qA qS) (qA HP) (⟨#[105,102]⟩:ByteArray))
 unfold jA at HC
 rw[show(⟨#[105,102]⟩:ByteArray).data.toList=[105,102] from rfl,h1,if_neg (by simp)]at HC
 clear HP
 go_wp2_with fail
 refine(qA HC).mono ?_
 rintro e w2 ⟨rfl,hp,hk⟩
 have HP:=qC hp
 have qH:=qC ((qA HK).trans hk)
 clear HC hp hk HK
 have HK:=qH
 clear qH
 have HC:=qC (jC (qA qS) (qA HP) (⟨#[119,104,105,108,101]⟩:ByteArray))
 unfold jA at HC
 rw[show(⟨#[119,104,105,108,101]⟩:ByteArray).data.toList=[119,104,105,108,101] from rfl,h2,if_neg (by simp)]at HC
 clear HP
 go_wp2_with fail
 refine(qA HC).mono ?_
 rintro e w3 ⟨rfl,hp,hk⟩
 have HP:=qC hp
 have qH:=qC ((qA HK).trans hk)
 clear HC hp hk HK
 have HK:=qH
 clear qH
 have HC:=qC (jC (qA qS) (qA HP) (⟨#[114,101,116,117,114,110]⟩:ByteArray))
 unfold jA at HC
 rw[show(⟨#[114,101,116,117,114,110]⟩:ByteArray).data.toList=[114,101,116,117,114,110] from rfl,h3,if_neg (by simp)]at HC
 clear HP
 go_wp2_with fail
 refine(qA HC).mono ?_
 rintro e w4 ⟨rfl,hp,hk⟩
 have HP:=qC hp
 have qH:=qC ((qA HK).trans hk)
 clear HC hp hk HK
 have HK:=qH
 clear qH
 have HC:=qC (jC (qA qS) (qA HP) (⟨#[116,104,114,111,119]⟩:ByteArray))
 unfold jA at HC
 rw[show(⟨#[116,104,114,111,119]⟩:ByteArray).data.toList=[116,104,114,111,119] from rfl,h4,if_neg (by simp)]at HC
 clear HP
 go_wp2_with fail
 refine(qA HC).mono ?_
 rintro e w5 ⟨rfl,hp,hk⟩
 have HP:=qC hp
 have qH:=qC ((qA HK).trans hk)
 clear HC hp hk HK
 have HK:=qH
 clear qH
 have HC:=qC (jC (qA qS) (qA HP) (⟨#[116,114,121]⟩:ByteArray))
 unfold jA at HC
 rw[show(⟨#[116,114,121]⟩:ByteArray).data.toList=[116,114,121] from rfl,h5,if_neg (by simp)]at HC
 clear HP
 go_wp2_with fail
 refine(qA HC).mono ?_
 rintro e w6 ⟨rfl,hp,hk⟩
 have HP:=qC hp
 have qH:=qC ((qA HK).trans hk)
 clear HC hp hk HK
 have HK:=qH
 clear qH
 have HC:=qC (pis (qA qS) (qA HP) (⟨#[123]⟩:ByteArray))
 rw[show(⟨#[123]⟩:ByteArray).data.toList=[123] from rfl,hy]at HC
 go_wp2_with fail
 refine(qA HC).mono ?_
 rintro e w7 ⟨rfl,hb⟩
 have z8:=qC ((qA HP).later hb)
 have qH:=qC ((qA HK).then_below hb)
 clear HC hb HK HP
 have HK:=qH
 have HP:=z8
 clear qH z8
 have HC:=qC (qA yW _ _ (qA HP))
 clear HP yW
 go_wp2_with fail
 refine(qA HC).mono ?_
 rintro e w8 ⟨rfl,v1,hp,hk⟩
 have HP:=qC hp
 have qH:=qC ((qA HK).trans hk)
 clear HC hp hk HK
 have HK:=qH
 clear qH
 go_wp2
 go_ret
 exact⟨rfl,_,qA HP,qA HK⟩
theorem qIQ{ts:List V3}(qS:Hid (TS ts))(n:Nat){g:Nat}{lp:Option Addr}{lc:PX}{v:Value}{s:PS}{w:World}(h:zD w g lp lc ts v s)(hf:qM s)(hd:s.dp≤20)(hn:zH ts .inner s≤n+1)(h0:yL ts s [108,101,116]=false)(h1:yL ts s [105,102]=false)(h2:yL ts s [119,104,105,108,101]=false)(h3:yL ts s [114,101,116,117,114,110]=false)(h4:yL ts s [116,104,114,111,119]=false)(h5:yL ts s [116,114,121]=false)(h6:kA ts s [123]=false)(hy:¬s.code=0) :
  PZ 114 g lp lc ts v w (run ts (n+1) .inner s):=by
 unfold PZ
 rw[run]
 rw[if_neg (nt h0),if_neg (nt h1),if_neg (nt h2),if_neg (nt h3),if_neg (nt h4),if_neg (nt h5),if_neg (nt h6),if_pos hy,mG]
 have hat:=h.hat
 have HP:=qC h
 have HK:=qC (PK.refl g v w)
 have mV:=qC hf
 have gH:=qC hd
 have uW:=qC (qI.refl s)
 clear h hf hd
 go_enter Tryz.func114,Tryz.ntmps114
 have HC:=qC (jC (qA qS) (qA HP) (⟨#[108,101,116]⟩:ByteArray))
 unfold jA at HC
 rw[show(⟨#[108,101,116]⟩:ByteArray).data.toList=[108,101,116] from rfl,h0,if_neg (by simp)]at HC
 clear HP
 go_wp2_with fail
 refine(qA HC).mono ?_
 rintro e w1 ⟨rfl,hp,hk⟩
 have HP:=qC hp
 have qH:=qC ((qA HK).trans hk)
 clear HC hp hk HK
 have HK:=qH
 clear qH
 have HC:=qC (jC (qA qS) (qA HP) (⟨#[105,102]⟩:ByteArray))
 unfold jA at HC
 rw[show(⟨#[105,102]⟩:ByteArray).data.toList=[105,102] from rfl,h1,if_neg (by simp)]at HC
 clear HP
 go_wp2_with fail
 refine(qA HC).mono ?_
 rintro e w2 ⟨rfl,hp,hk⟩
 have HP:=qC hp
 have qH:=qC ((qA HK).trans hk)
 clear HC hp hk HK
 have HK:=qH
 clear qH
 have HC:=qC (jC (qA qS) (qA HP) (⟨#[119,104,105,108,101]⟩:ByteArray))
 unfold jA at HC
 rw[show(⟨#[119,104,105,108,101]⟩:ByteArray).data.toList=[119,104,105,108,101] from rfl,h2,if_neg (by simp)]at HC
 clear HP
 go_wp2_with fail
 refine(qA HC).mono ?_
 rintro e w3 ⟨rfl,hp,hk⟩
 have HP:=qC hp
 have qH:=qC ((qA HK).trans hk)
 clear HC hp hk HK
 have HK:=qH
 clear qH
 have HC:=qC (jC (qA qS) (qA HP) (⟨#[114,101,116,117,114,110]⟩:ByteArray))
 unfold jA at HC
 rw[show(⟨#[114,101,116,117,114,110]⟩:ByteArray).data.toList=[114,101,116,117,114,110] from rfl,h3,if_neg (by simp)]at HC
 clear HP
 go_wp2_with fail
 refine(qA HC).mono ?_
 rintro e w4 ⟨rfl,hp,hk⟩
 have HP:=qC hp
 have qH:=qC ((qA HK).trans hk)
 clear HC hp hk HK
 have HK:=qH
 clear qH
 have HC:=qC (jC (qA qS) (qA HP) (⟨#[116,104,114,111,119]⟩:ByteArray))
 unfold jA at HC
 rw[show(⟨#[116,104,114,111,119]⟩:ByteArray).data.toList=[116,104,114,111,119] from rfl,h4,if_neg (by simp)]at HC
 clear HP
 go_wp2_with fail
 refine(qA HC).mono ?_
 rintro e w5 ⟨rfl,hp,hk⟩
 have HP:=qC hp
 have qH:=qC ((qA HK).trans hk)
 clear HC hp hk HK
 have HK:=qH
 clear qH
 have HC:=qC (jC (qA qS) (qA HP) (⟨#[116,114,121]⟩:ByteArray))
 unfold jA at HC
 rw[show(⟨#[116,114,121]⟩:ByteArray).data.toList=[116,114,121] from rfl,h5,if_neg (by simp)]at HC
 clear HP
 go_wp2_with fail
 refine(qA HC).mono ?_
 rintro e w6 ⟨rfl,hp,hk⟩
 have HP:=qC hp
 have qH:=qC ((qA HK).trans hk)
 clear HC hp hk HK
 have HK:=qH
 clear qH
 have HC:=qC (pis (qA qS) (qA HP) (⟨#[123]⟩:ByteArray))
 rw[show(⟨#[123]⟩:ByteArray).data.toList=[123] from rfl,h6]at HC
 go_wp2_with fail
 refine(qA HC).mono ?_
 rintro e w7 ⟨rfl,hb⟩
 have z8:=qC ((qA HP).later hb)
 have qH:=qC ((qA HK).then_below hb)
 clear HC hb HK HP
 have HK:=qH
 have HP:=z8
 clear qH z8
 obtain⟨c0,c1,c2,c3,c4,c5⟩:=(qA HP).cells
 have hg:=(qA HP).lt
 have e0:(s.code != 0)=true:=by simp[hy]
 go_wp2
 go_ret
 exact⟨rfl,_,qA HP,qA HK⟩
end
section
open Go.RowKit Go.Joins
theorem qHt{ts:List V3}(qS:Hid (TS ts))(n:Nat)(ih:Hid (∀ k,k≤n→PQ ts k .sum 167)):PQ ts (n+1) .order 166:=by
 intro g lp lc v s w h hf hd hn
 have hat:=h.hat
 have HC:=qC (qA ih n (Nat.le_refl _) g lp lc v s w h hf hd (zZ hn hat (qI.refl s) (fun _ _=>.inl (by decide)) (fun _=>by decide)))
 have HR:run ts (n+1) .order s=run ts n (.orderL (run ts n .sum s).r) (run ts n .sum s).s:=by rw[run]
 rw[HR]
 have kN:=qC (hf.run (ts:=ts) (n:=n) (f:=.sum))
 have gP:=qC (zC ts n .sum s)
 have wK:=qC (fun a=>zZ (f':=.orderL a) hn hat (j5 ts n .sum s s (qI.refl s)) (fun _ _=>.inl (by show lev (.orderL 0)<lev .order;decide)) (fun _=>(by show eG (.orderL 0)<eG .order;decide)))
 generalize run ts n .sum s=o at HC kN gP wK ⊢
 clear h hf hn HR
 go_enter Tryz.func166,Tryz.ntmps166
 go_wp2_with fail
 refine(qA HC).mono ?_
 rintro e w1 ⟨rfl,v1,bK,kQ⟩
 have r6:=qC bK
 have yV:=qC kQ
 clear HC bK kQ
 go_wp2
 go_loopg [3] n (fun gn a wx=>∃ (a':Int) (s':PS) (v':Value),a=.int .i64 a'∧gn≤n∧Hid (zH ts (.orderL a') s'≤gn)∧Hid (zD wx g lp lc ts v' s')∧Hid (PK g v v' w wx)∧Hid (qM s')∧Hid (s'.dp≤20)∧Hid (run ts gn (.orderL a') s'=run ts n (.orderL o.r) o.s))
 case atStart=>exact⟨o.r,o.s,v1,rfl,Nat.le_refl _,qC (qA wK _),r6,yV,kN,qC (by rw[qA gP];exact hd),qC rfl⟩
 case round=>
  obtain⟨a',s',v',rfl,hgn,HN,HP,HK,HF,HD,HRn⟩:=hrel
  obtain⟨k,hk⟩:=pG (qA HN)
  have yY:=qA HRn
  rw[hk,run]at yY
  have uY:=(qA HP).hat
  have c4:=(qA HP).cells.2.2.2.2.1
  have HI:=qC (fun t w2 (vM:zD w2 g lp lc ts v' s')=>pis (qA qS) vM t)
  clear r6 yV kN gP wK HRn
  by_cases hc:s'.code=0
  ·rw[hc]at c4
   cases hi:kA ts s' [60]with
   | true=>
    have xJ:=qC (qA HI ⟨#[60]⟩ wr (qA HP))
    rw[show(⟨#[60]⟩:ByteArray).data.toList=[60] from rfl,hi]at xJ
    rw[if_pos ⟨hc,.inl hi⟩]at yY
    have jF:=rN hi
    have gO:=qC (j3 (f':=.sum) (hk▸qA HN) uY (qI.refl s').adv (uP.adv (qI.refl s')) hc)
    have wI:=qC (fun b=>j3 (f':=.orderL b) (hk▸qA HN) uY (j5 ts k .sum s' (qK s') (qI.refl s').adv).put (uP.put (ts:=ts) (x:=⟨7,0,(qU ts s').t,[],[a',(run ts k .sum (qK s')).r]⟩) (yM ts k .sum s' (qK s') rfl (qI.refl s').adv)) hc)
    have yJ:=qC (fun w2 vM=>qA ih k (by omega) g lp lc v' (qK s') w2 vM ((qA HF).same (qN _)) (by rw[qZ];exact qA HD) (qA gO))
    have mZ:=qC (((qA HF).same (qN _)).run (ts:=ts) (n:=k) (f:=.sum))
    have fF:Hid ((run ts k .sum (qK s')).s.dp≤20):=qC (by rw[zC,qZ];exact qA HD)
    have HX:=qC (fun w2 (vM:zD w2 g lp lc ts v' s')=>xR (qA qS) vM)
    unfold mT at HX
    generalize run ts k .sum (qK s')=o2 at yJ mZ fF wI yY
    generalize qU ts s'=x at HX wI yY
    have fI:=qC yY
    clear gO HN yY hi HF HD
    clear HI
    go_wp2_with fail
    refine(qA xJ).mono ?_
    rintro e w2 ⟨rfl,qY⟩
    have z8:=qC ((qA HP).later qY)
    have qH:=qC ((qA HK).then_below qY)
    clear xJ qY HP HK
    have u7:=qC (qA HX w2 (qA z8))
    clear HX
    go_wp2_with fail
    refine(qA u7).mono ?_
    rintro e w5 ⟨rfl,gL⟩
    have hfd:=x9 x.k x.n x.t w5
    have wT:=(qA z8).later gL
    obtain⟨c0,c1,c2,c3,c4,c5⟩:=wT.cells
    have z1:=wT.free 1
    have hf3:=(qA qS).few
    have hg5:=wT.lt
    have tL:=qC (qA yJ _ (wT.adv jF))
    have tV:=qC (((qA qH).then_below gL).set (o:=1) (x:=.int .i64 ((s'.at':Int)+1)))
    clear gL wT yJ u7 z8 qH c0 c2 c3 c4 c5
    go_wp2_with fail
    refine(qA tL).mono ?_
    rintro e w3 ⟨rfl,v3,pC,kG⟩
    have rR:=qC (cQ (qA qS) pC (qA mZ) 7 x.t a' o2.r)
    have yK:=qC ((qA tV).trans kG)
    clear tL tV pC kG c1 z1 hfd
    go_wp2_with fail
    refine(qA rR).mono ?_
    rintro e w4 ⟨rfl,v4,rQ,gC⟩
    have n7:=qC rQ
    have fG:=qC ((qA yK).trans gC)
    clear rR yK rQ gC
    go_wp2
    go_roundg k
    case rel=>exact⟨_,_,v4,rfl,by omega,qC (qA wI _),n7,fG,qC ((qA mZ).put),qC (by rw[j4];exact qA fF),fI⟩
    case measure=>omega
   | false=>
    have hi0:=hi
    clear hi
    have xJ:=qC (qA HI ⟨#[60]⟩ wr (qA HP))
    rw[show(⟨#[60]⟩:ByteArray).data.toList=[60] from rfl,hi0]at xJ
    go_wp2_with fail
    refine(qA xJ).mono ?_
    rintro e w2 ⟨rfl,qY⟩
    have z8:=qC ((qA HP).later qY)
    have qH:=qC ((qA HK).then_below qY)
    clear xJ qY HP HK
    cases hi:kA ts s' [61,61]with
    | true=>
     have xJ:=qC (qA HI ⟨#[61,61]⟩ w2 (qA z8))
     rw[show(⟨#[61,61]⟩:ByteArray).data.toList=[61,61] from rfl,hi]at xJ
     rw[if_pos ⟨hc,.inr (hi)⟩]at yY
     have jF:=rN hi
     have gO:=qC (j3 (f':=.sum) (hk▸qA HN) uY (qI.refl s').adv (uP.adv (qI.refl s')) hc)
     have wI:=qC (fun b=>j3 (f':=.orderL b) (hk▸qA HN) uY (j5 ts k .sum s' (qK s') (qI.refl s').adv).put (uP.put (ts:=ts) (x:=⟨7,0,(qU ts s').t,[],[a',(run ts k .sum (qK s')).r]⟩) (yM ts k .sum s' (qK s') rfl (qI.refl s').adv)) hc)
     have yJ:=qC (fun w2 vM=>qA ih k (by omega) g lp lc v' (qK s') w2 vM ((qA HF).same (qN _)) (by rw[qZ];exact qA HD) (qA gO))
     have mZ:=qC (((qA HF).same (qN _)).run (ts:=ts) (n:=k) (f:=.sum))
     have fF:Hid ((run ts k .sum (qK s')).s.dp≤20):=qC (by rw[zC,qZ];exact qA HD)
     have HX:=qC (fun w2 (vM:zD w2 g lp lc ts v' s')=>xR (qA qS) vM)
     unfold mT at HX
     generalize run ts k .sum (qK s')=o2 at yJ mZ fF wI yY
     generalize qU ts s'=x at HX wI yY
     have fI:=qC yY
     clear gO HN yY hi HF HD
     clear HI
     go_wp2_with fail
     refine(qA xJ).mono ?_
     rintro e w6 ⟨rfl,qY⟩
     have HP6:=qC ((qA z8).later qY)
     have HK6:=qC ((qA qH).then_below qY)
     clear xJ qY z8 qH
     have u7:=qC (qA HX w6 (qA HP6))
     clear HX
     go_wp2_with fail
     refine(qA u7).mono ?_
     rintro e w5 ⟨rfl,gL⟩
     have hfd:=x9 x.k x.n x.t w5
     have wT:=(qA HP6).later gL
     obtain⟨c0,c1,c2,c3,c4,c5⟩:=wT.cells
     have z1:=wT.free 1
     have hf3:=(qA qS).few
     have hg5:=wT.lt
     have tL:=qC (qA yJ _ (wT.adv jF))
     have tV:=qC (((qA HK6).then_below gL).set (o:=1) (x:=.int .i64 ((s'.at':Int)+1)))
     clear gL wT yJ u7 HP6 HK6 c0 c2 c3 c4 c5
     go_wp2_with fail
     refine(qA tL).mono ?_
     rintro e w3 ⟨rfl,v3,pC,kG⟩
     have rR:=qC (cQ (qA qS) pC (qA mZ) 7 x.t a' o2.r)
     have yK:=qC ((qA tV).trans kG)
     clear tL tV pC kG c1 z1 hfd
     go_wp2_with fail
     refine(qA rR).mono ?_
     rintro e w4 ⟨rfl,v4,rQ,gC⟩
     have n7:=qC rQ
     have fG:=qC ((qA yK).trans gC)
     clear rR yK rQ gC
     go_wp2
     go_roundg k
     case rel=>exact⟨_,_,v4,rfl,by omega,qC (qA wI _),n7,fG,qC ((qA mZ).put),qC (by rw[j4];exact qA fF),fI⟩
     case measure=>omega
    | false=>
     have hi1:=hi
     clear hi
     have xJ:=qC (qA HI ⟨#[61,61]⟩ w2 (qA z8))
     rw[show(⟨#[61,61]⟩:ByteArray).data.toList=[61,61] from rfl,hi1]at xJ
     go_wp2_with fail
     refine(qA xJ).mono ?_
     rintro e w6 ⟨rfl,qY⟩
     have HPn:=qC ((qA z8).later qY)
     have HKn:=qC ((qA qH).then_below qY)
     clear xJ qY z8 qH
     have tZ:¬(s'.code=0∧(kA ts s' [60]=true∨kA ts s' [61,61]=true)):=by
      rintro⟨_,h⟩
      rcases h with h | h
      ·rw[hi0]at h;cases h
      ·rw[hi1]at h;cases h
     rw[if_neg tZ]at yY
     have fI:=qC yY.symm
     clear yY tZ hi0 hi1 hk hc
     go_wp2
     go_ret
     rw[qA fI]
     exact⟨rfl,v',qA HPn,qA HKn⟩
  ·have e0:(s'.code == 0)=false:=beq_eq_false_iff_ne.2 hc
   rw[if_neg (fun h=>hc h.1)]at yY
   have fI:=qC yY.symm
   clear yY hk hc
   go_wp2
   go_ret
   rw[qA fI]
   exact⟨rfl,v',qA HP,qA HK⟩
theorem qIK{ts:List V3}(qS:Hid (TS ts))(n:Nat)(ih:Hid (∀ k,k≤n→PQ ts k .sign 169)):PQ ts (n+1) .prod 168:=by
 intro g lp lc v s w h hf hd hn
 have hat:=h.hat
 have HC:=qC (qA ih n (Nat.le_refl _) g lp lc v s w h hf hd (zZ hn hat (qI.refl s) (fun _ _=>.inl (by decide)) (fun _=>by decide)))
 have HR:run ts (n+1) .prod s=run ts n (.prodL (run ts n .sign s).r) (run ts n .sign s).s:=by rw[run]
 rw[HR]
 have kN:=qC (hf.run (ts:=ts) (n:=n) (f:=.sign))
 have gP:=qC (zC ts n .sign s)
 have wK:=qC (fun a=>zZ (f':=.prodL a) hn hat (j5 ts n .sign s s (qI.refl s)) (fun _ _=>.inl (by show lev (.prodL 0)<lev .prod;decide)) (fun _=>(by show eG (.prodL 0)<eG .prod;decide)))
 generalize run ts n .sign s=o at HC kN gP wK ⊢
 clear h hf hn HR
 go_enter Tryz.func168,Tryz.ntmps168
 go_wp2_with fail
 refine(qA HC).mono ?_
 rintro e w1 ⟨rfl,v1,bK,kQ⟩
 have r6:=qC bK
 have yV:=qC kQ
 clear HC bK kQ
 go_wp2
 go_loopg [3] n (fun gn a wx=>∃ (a':Int) (s':PS) (v':Value),a=.int .i64 a'∧gn≤n∧Hid (zH ts (.prodL a') s'≤gn)∧Hid (zD wx g lp lc ts v' s')∧Hid (PK g v v' w wx)∧Hid (qM s')∧Hid (s'.dp≤20)∧Hid (run ts gn (.prodL a') s'=run ts n (.prodL o.r) o.s))
 case atStart=>exact⟨o.r,o.s,v1,rfl,Nat.le_refl _,qC (qA wK _),r6,yV,kN,qC (by rw[qA gP];exact hd),qC rfl⟩
 case round=>
  obtain⟨a',s',v',rfl,hgn,HN,HP,HK,HF,HD,HRn⟩:=hrel
  obtain⟨k,hk⟩:=pG (qA HN)
  have yY:=qA HRn
  rw[hk,run]at yY
  have uY:=(qA HP).hat
  have c4:=(qA HP).cells.2.2.2.2.1
  have HI:=qC (fun t w2 (vM:zD w2 g lp lc ts v' s')=>pis (qA qS) vM t)
  clear r6 yV kN gP wK HRn
  by_cases hc:s'.code=0
  ·rw[hc]at c4
   cases hi:kA ts s' [42]with
   | true=>
    have xJ:=qC (qA HI ⟨#[42]⟩ wr (qA HP))
    rw[show(⟨#[42]⟩:ByteArray).data.toList=[42] from rfl,hi]at xJ
    rw[if_pos ⟨hc,.inl hi⟩]at yY
    have jF:=rN hi
    have gO:=qC (j3 (f':=.sign) (hk▸qA HN) uY (qI.refl s').adv (uP.adv (qI.refl s')) hc)
    have wI:=qC (fun b=>j3 (f':=.prodL b) (hk▸qA HN) uY (j5 ts k .sign s' (qK s') (qI.refl s').adv).put (uP.put (ts:=ts) (x:=⟨7,0,(qU ts s').t,[],[a',(run ts k .sign (qK s')).r]⟩) (yM ts k .sign s' (qK s') rfl (qI.refl s').adv)) hc)
    have yJ:=qC (fun w2 vM=>qA ih k (by omega) g lp lc v' (qK s') w2 vM ((qA HF).same (qN _)) (by rw[qZ];exact qA HD) (qA gO))
    have mZ:=qC (((qA HF).same (qN _)).run (ts:=ts) (n:=k) (f:=.sign))
    have fF:Hid ((run ts k .sign (qK s')).s.dp≤20):=qC (by rw[zC,qZ];exact qA HD)
    have HX:=qC (fun w2 (vM:zD w2 g lp lc ts v' s')=>xR (qA qS) vM)
    unfold mT at HX
    generalize run ts k .sign (qK s')=o2 at yJ mZ fF wI yY
    generalize qU ts s'=x at HX wI yY
    have fI:=qC yY
    clear gO HN yY hi HF HD
    clear HI
    go_wp2_with fail
    refine(qA xJ).mono ?_
    rintro e w2 ⟨rfl,qY⟩
    have z8:=qC ((qA HP).later qY)
    have qH:=qC ((qA HK).then_below qY)
    clear xJ qY HP HK
    have u7:=qC (qA HX w2 (qA z8))
    clear HX
    go_wp2_with fail
    refine(qA u7).mono ?_
    rintro e w5 ⟨rfl,gL⟩
    have hfd:=x9 x.k x.n x.t w5
    have wT:=(qA z8).later gL
    obtain⟨c0,c1,c2,c3,c4,c5⟩:=wT.cells
    have z1:=wT.free 1
    have hf3:=(qA qS).few
    have hg5:=wT.lt
    have tL:=qC (qA yJ _ (wT.adv jF))
    have tV:=qC (((qA qH).then_below gL).set (o:=1) (x:=.int .i64 ((s'.at':Int)+1)))
    clear gL wT yJ u7 z8 qH c0 c2 c3 c4 c5
    go_wp2_with fail
    refine(qA tL).mono ?_
    rintro e w3 ⟨rfl,v3,pC,kG⟩
    have rR:=qC (cQ (qA qS) pC (qA mZ) 7 x.t a' o2.r)
    have yK:=qC ((qA tV).trans kG)
    clear tL tV pC kG c1 z1 hfd
    go_wp2_with fail
    refine(qA rR).mono ?_
    rintro e w4 ⟨rfl,v4,rQ,gC⟩
    have n7:=qC rQ
    have fG:=qC ((qA yK).trans gC)
    clear rR yK rQ gC
    go_wp2
    go_roundg k
    case rel=>exact⟨_,_,v4,rfl,by omega,qC (qA wI _),n7,fG,qC ((qA mZ).put),qC (by rw[j4];exact qA fF),fI⟩
    case measure=>omega
   | false=>
    have hi0:=hi
    clear hi
    have xJ:=qC (qA HI ⟨#[42]⟩ wr (qA HP))
    rw[show(⟨#[42]⟩:ByteArray).data.toList=[42] from rfl,hi0]at xJ
    go_wp2_with fail
    refine(qA xJ).mono ?_
    rintro e w2 ⟨rfl,qY⟩
    have z8:=qC ((qA HP).later qY)
    have qH:=qC ((qA HK).then_below qY)
    clear xJ qY HP HK
    cases hi:kA ts s' [47]with
    | true=>
     have xJ:=qC (qA HI ⟨#[47]⟩ w2 (qA z8))
     rw[show(⟨#[47]⟩:ByteArray).data.toList=[47] from rfl,hi]at xJ
     rw[if_pos ⟨hc,.inr (.inl hi)⟩]at yY
     have jF:=rN hi
     have gO:=qC (j3 (f':=.sign) (hk▸qA HN) uY (qI.refl s').adv (uP.adv (qI.refl s')) hc)
     have wI:=qC (fun b=>j3 (f':=.prodL b) (hk▸qA HN) uY (j5 ts k .sign s' (qK s') (qI.refl s').adv).put (uP.put (ts:=ts) (x:=⟨7,0,(qU ts s').t,[],[a',(run ts k .sign (qK s')).r]⟩) (yM ts k .sign s' (qK s') rfl (qI.refl s').adv)) hc)
     have yJ:=qC (fun w2 vM=>qA ih k (by omega) g lp lc v' (qK s') w2 vM ((qA HF).same (qN _)) (by rw[qZ];exact qA HD) (qA gO))
     have mZ:=qC (((qA HF).same (qN _)).run (ts:=ts) (n:=k) (f:=.sign))
     have fF:Hid ((run ts k .sign (qK s')).s.dp≤20):=qC (by rw[zC,qZ];exact qA HD)
     have HX:=qC (fun w2 (vM:zD w2 g lp lc ts v' s')=>xR (qA qS) vM)
     unfold mT at HX
     generalize run ts k .sign (qK s')=o2 at yJ mZ fF wI yY
     generalize qU ts s'=x at HX wI yY
     have fI:=qC yY
     clear gO HN yY hi HF HD
     clear HI
     go_wp2_with fail
     refine(qA xJ).mono ?_
     rintro e w6 ⟨rfl,qY⟩
     have HP6:=qC ((qA z8).later qY)
     have HK6:=qC ((qA qH).then_below qY)
     clear xJ qY z8 qH
     have u7:=qC (qA HX w6 (qA HP6))
     clear HX
     go_wp2_with fail
     refine(qA u7).mono ?_
     rintro e w5 ⟨rfl,gL⟩
     have hfd:=x9 x.k x.n x.t w5
     have wT:=(qA HP6).later gL
     obtain⟨c0,c1,c2,c3,c4,c5⟩:=wT.cells
     have z1:=wT.free 1
     have hf3:=(qA qS).few
     have hg5:=wT.lt
     have tL:=qC (qA yJ _ (wT.adv jF))
     have tV:=qC (((qA HK6).then_below gL).set (o:=1) (x:=.int .i64 ((s'.at':Int)+1)))
     clear gL wT yJ u7 HP6 HK6 c0 c2 c3 c4 c5
     go_wp2_with fail
     refine(qA tL).mono ?_
     rintro e w3 ⟨rfl,v3,pC,kG⟩
     have rR:=qC (cQ (qA qS) pC (qA mZ) 7 x.t a' o2.r)
     have yK:=qC ((qA tV).trans kG)
     clear tL tV pC kG c1 z1 hfd
     go_wp2_with fail
     refine(qA rR).mono ?_
     rintro e w4 ⟨rfl,v4,rQ,gC⟩
     have n7:=qC rQ
     have fG:=qC ((qA yK).trans gC)
     clear rR yK rQ gC
     go_wp2
     go_roundg k
     case rel=>exact⟨_,_,v4,rfl,by omega,qC (qA wI _),n7,fG,qC ((qA mZ).put),qC (by rw[j4];exact qA fF),fI⟩
     case measure=>omega
    | false=>
     have hi1:=hi
     clear hi
     have xJ:=qC (qA HI ⟨#[47]⟩ w2 (qA z8))
     rw[show(⟨#[47]⟩:ByteArray).data.toList=[47] from rfl,hi1]at xJ
     go_wp2_with fail
     refine(qA xJ).mono ?_
     rintro e w6 ⟨rfl,qY⟩
     have HPn:=qC ((qA z8).later qY)
     have HKn:=qC ((qA qH).then_below qY)
     clear xJ qY z8 qH
     cases hi:kA ts s' [37]with
     | true=>
      have xJ:=qC (qA HI ⟨#[37]⟩ w6 (qA HPn))
      rw[show(⟨#[37]⟩:ByteArray).data.toList=[37] from rfl,hi]at xJ
      rw[if_pos ⟨hc,.inr (.inr (hi))⟩]at yY
      have jF:=rN hi
      have gO:=qC (j3 (f':=.sign) (hk▸qA HN) uY (qI.refl s').adv (uP.adv (qI.refl s')) hc)
      have wI:=qC (fun b=>j3 (f':=.prodL b) (hk▸qA HN) uY (j5 ts k .sign s' (qK s') (qI.refl s').adv).put (uP.put (ts:=ts) (x:=⟨7,0,(qU ts s').t,[],[a',(run ts k .sign (qK s')).r]⟩) (yM ts k .sign s' (qK s') rfl (qI.refl s').adv)) hc)
      have yJ:=qC (fun w6 vM=>qA ih k (by omega) g lp lc v' (qK s') w6 vM ((qA HF).same (qN _)) (by rw[qZ];exact qA HD) (qA gO))
      have mZ:=qC (((qA HF).same (qN _)).run (ts:=ts) (n:=k) (f:=.sign))
      have fF:Hid ((run ts k .sign (qK s')).s.dp≤20):=qC (by rw[zC,qZ];exact qA HD)
      have HX:=qC (fun w6 (vM:zD w6 g lp lc ts v' s')=>xR (qA qS) vM)
      unfold mT at HX
      generalize run ts k .sign (qK s')=o2 at yJ mZ fF wI yY
      generalize qU ts s'=x at HX wI yY
      have fI:=qC yY
      clear gO HN yY hi HF HD
      clear HI
      go_wp2_with fail
      refine(qA xJ).mono ?_
      rintro e w7 ⟨rfl,qY⟩
      have HP6:=qC ((qA HPn).later qY)
      have HK6:=qC ((qA HKn).then_below qY)
      clear xJ qY HPn HKn
      have u7:=qC (qA HX w7 (qA HP6))
      clear HX
      go_wp2_with fail
      refine(qA u7).mono ?_
      rintro e w5 ⟨rfl,gL⟩
      have hfd:=x9 x.k x.n x.t w5
      have wT:=(qA HP6).later gL
      obtain⟨c0,c1,c2,c3,c4,c5⟩:=wT.cells
      have z1:=wT.free 1
      have hf3:=(qA qS).few
      have hg5:=wT.lt
      have tL:=qC (qA yJ _ (wT.adv jF))
      have tV:=qC (((qA HK6).then_below gL).set (o:=1) (x:=.int .i64 ((s'.at':Int)+1)))
      clear gL wT yJ u7 HP6 HK6 c0 c2 c3 c4 c5
      go_wp2_with fail
      refine(qA tL).mono ?_
      rintro e w3 ⟨rfl,v3,pC,kG⟩
      have rR:=qC (cQ (qA qS) pC (qA mZ) 7 x.t a' o2.r)
      have yK:=qC ((qA tV).trans kG)
      clear tL tV pC kG c1 z1 hfd
      go_wp2_with fail
      refine(qA rR).mono ?_
      rintro e w4 ⟨rfl,v4,rQ,gC⟩
      have n7:=qC rQ
      have fG:=qC ((qA yK).trans gC)
      clear rR yK rQ gC
      go_wp2
      go_roundg k
      case rel=>exact⟨_,_,v4,rfl,by omega,qC (qA wI _),n7,fG,qC ((qA mZ).put),qC (by rw[j4];exact qA fF),fI⟩
      case measure=>omega
     | false=>
      have hi2:=hi
      clear hi
      have xJ:=qC (qA HI ⟨#[37]⟩ w6 (qA HPn))
      rw[show(⟨#[37]⟩:ByteArray).data.toList=[37] from rfl,hi2]at xJ
      go_wp2_with fail
      refine(qA xJ).mono ?_
      rintro e w7 ⟨rfl,qY⟩
      have HPm:=qC ((qA HPn).later qY)
      have HKm:=qC ((qA HKn).then_below qY)
      clear xJ qY HPn HKn
      have tZ:¬(s'.code=0∧(kA ts s' [42]=true∨kA ts s' [47]=true∨kA ts s' [37]=true)):=by
       rintro⟨_,h⟩
       rcases h with h | h | h
       ·rw[hi0]at h;cases h
       ·rw[hi1]at h;cases h
       ·rw[hi2]at h;cases h
      rw[if_neg tZ]at yY
      have fI:=qC yY.symm
      clear yY tZ hi0 hi1 hi2 hk hc
      go_wp2
      go_ret
      rw[qA fI]
      exact⟨rfl,v',qA HPm,qA HKm⟩
  ·have e0:(s'.code == 0)=false:=beq_eq_false_iff_ne.2 hc
   rw[if_neg (fun h=>hc h.1)]at yY
   have fI:=qC yY.symm
   clear yY hk hc
   go_wp2
   go_ret
   rw[qA fI]
   exact⟨rfl,v',qA HP,qA HK⟩
end
section
open Go.RowKit Go.Joins
attribute [local irreducible] run qK iG xK qJ jN jZ jS u9 kA yL qU sF
theorem qQm{ts:List V3}(qS:Hid (TS ts))(n:Nat)(ihG:Hid (∀ k,k≤n→PQ ts k .sign 169)){g:Nat}{lp:Option Addr}{lc:PX}{v:Value}{s:PS}{w:World}(h:zD w g lp lc ts v s)(hf:qM s)(hd:s.dp≤20)(hn:zH ts .sign s≤n+1)(hc:s.code=0)(hi:kA ts s [33]=true)(hy:(jS ts (qK s)).code=0) :
  PZ 169 g lp lc ts v w (run ts (n+1) .sign s):=by
 unfold PZ
 rw[run]
 rw[if_pos ⟨hc,.inl hi⟩,if_pos hy,yB]
 have hat:=h.hat
 have HP:=qC h
 have HK:=qC (PK.refl g v w)
 have mV:=qC hf
 have gH:=qC hd
 have uW:=qC (qI.refl s)
 clear h hf hd
 have jF:=rN hi
 have HX:=qC (fun v w (hp:zD w g lp lc ts v s)=>xR (qA qS) hp)
 unfold mT at HX
 have hdk:=qBt hy
 have yW:=qC (fun v w (hp:zD w g lp lc ts v (jS ts (qK s)))=>qA ihG n (by omega) g lp lc v (jS ts (qK s)) w hp (((qA mV).same (qN _)).same (qT _ _)) (by rw[xW];exact hdk) (j3 hn hat (qI.refl s).adv.down ((uP.adv (qI.refl s)).le (qI.refl _).down) hc))
 have HDq:Hid ((run ts n .sign (jS ts (qK s))).s.dp=s.dp+1):=qC (by rw[zC,xW,qZ])
 have kN:=qC (qM.run (ts:=ts) (n:=n) (f:=.sign) (((qA mV).same (qN s)).same (qT ts _)))
 generalize run ts n .sign (jS ts (qK s))=o1 at yW HDq kN ⊢
 generalize qU ts s=x at HX ⊢
 go_enter Tryz.func169,Tryz.ntmps169
 obtain⟨c0,c1,c2,c3,c4,c5⟩:=(qA HP).cells
 have hg:=(qA HP).lt
 rw[hc]at c4
 have HC:=qC (pis (qA qS) (qA HP) (⟨#[33]⟩:ByteArray))
 rw[show(⟨#[33]⟩:ByteArray).data.toList=[33] from rfl,hi]at HC
 go_wp2_with fail
 refine(qA HC).mono ?_
 rintro e w1 ⟨rfl,hb⟩
 have z8:=qC ((qA HP).later hb)
 have qH:=qC ((qA HK).then_below hb)
 clear HC hb HK HP
 have HK:=qH
 have HP:=z8
 clear qH z8
 have HC:=qC (qA HX _ _ (qA HP))
 clear HX c0 c1 c2 c3 c4 c5 hg
 go_wp2_with fail
 refine(qA HC).mono ?_
 rintro e wx ⟨rfl,hb⟩
 have hfd:=x9 x.k x.n x.t wx
 have z8:=qC ((qA HP).later hb)
 have qH:=qC ((qA HK).then_below hb)
 clear HC hb HK HP
 have HK:=qH
 have HP:=z8
 clear qH z8
 obtain⟨c0,c1,c2,c3,c4,c5⟩:=(qA HP).cells
 have z1:=(qA HP).free 1
 have hf3:=(qA qS).few
 have hg:=(qA HP).lt
 have z8:=qC ((qA HP).adv jF)
 have qH:=qC ((qA HK).set (o:=1) (x:=.int .i64 ((s.at':Int)+1)))
 clear HP HK
 have HK:=qH
 have HP:=z8
 clear qH z8 c0 c2 c3 c4 c5
 have gP:=gH
 have HC:=qC (qAP (qA qS) (qA HP) (by (repeat (first | rewrite[q9] | rewrite[zG] | rewrite[jO] | rewrite[qZ] | rewrite[j4]));exact qA gP))
 rw[show((jS ts (qK s)).code == 0)=true from(by rw[hy];rfl)]at HC
 clear HP
 go_wp2_with fail
 refine(qA HC).mono ?_
 rintro e w2 ⟨rfl,hp,hk⟩
 have HP:=qC hp
 have qH:=qC ((qA HK).trans hk)
 clear HC hp hk HK
 have HK:=qH
 clear qH
 clear c1 z1 hf3 hg hfd
 have HC:=qC (qA yW _ _ (qA HP))
 clear HP yW
 go_wp2_with fail
 refine(qA HC).mono ?_
 rintro e w9 ⟨rfl,v9,hp,hk⟩
 have HP:=qC hp
 have qH:=qC ((qA HK).trans hk)
 clear HC hp hk HK
 have HK:=qH
 clear qH
 have c3:=(qA HP).cells.2.2.2.1
 have z3:=(qA HP).free 3
 have hg:=(qA HP).lt
 have qB:o1.s.dp=s.dp+1:=qA HDq
 rw[qB]at c3
 have hdl:=qA gH
 have z8:=qC ((qA HP).up1 qB)
 have qH:=qC ((qA HK).set (o:=3) (x:=.int .i64 (s.dp:Int)))
 clear HP HK qB
 have HK:=qH
 have HP:=z8
 clear qH z8
 have HC:=qC (aB (qA qS) (qA HP) (by repeat (first | exact qA kN | apply qM.put | refine qM.same ?_ (qO _ _ _) | refine qM.same ?_ (jH _ _ _) | refine qM.same ?_ (qV _ _) | refine qM.same ?_ (qN _) | refine qM.same ?_ (j8 _) | refine qM.same ?_ (qT _ _))) 6 x.t o1.r)
 rw[World.size_setCell]at HC
 clear HP
 go_wp2_with fail
 refine(qA HC).mono ?_
 rintro e w3 ⟨rfl,vp,hp,hk⟩
 have HP:=qC hp
 have qH:=qC ((qA HK).trans hk)
 clear HC hp hk HK
 have HK:=qH
 clear qH
 go_wp2
 go_ret
 exact⟨rfl,_,qA HP,qA HK⟩
theorem qPq{ts:List V3}(qS:Hid (TS ts))(n:Nat){g:Nat}{lp:Option Addr}{lc:PX}{v:Value}{s:PS}{w:World}(h:zD w g lp lc ts v s)(hf:qM s)(hd:s.dp≤20)(hn:zH ts .sign s≤n+1)(hc:s.code=0)(hi:kA ts s [33]=true)(hy:¬(jS ts (qK s)).code=0) :
  PZ 169 g lp lc ts v w (run ts (n+1) .sign s):=by
 unfold PZ
 rw[run]
 rw[if_pos ⟨hc,.inl hi⟩,if_neg hy,mG]
 have hat:=h.hat
 have HP:=qC h
 have HK:=qC (PK.refl g v w)
 have mV:=qC hf
 have gH:=qC hd
 have uW:=qC (qI.refl s)
 clear h hf hd
 have jF:=rN hi
 have HX:=qC (fun v w (hp:zD w g lp lc ts v s)=>xR (qA qS) hp)
 unfold mT at HX
 generalize qU ts s=x at HX ⊢
 go_enter Tryz.func169,Tryz.ntmps169
 obtain⟨c0,c1,c2,c3,c4,c5⟩:=(qA HP).cells
 have hg:=(qA HP).lt
 rw[hc]at c4
 have HC:=qC (pis (qA qS) (qA HP) (⟨#[33]⟩:ByteArray))
 rw[show(⟨#[33]⟩:ByteArray).data.toList=[33] from rfl,hi]at HC
 go_wp2_with fail
 refine(qA HC).mono ?_
 rintro e w1 ⟨rfl,hb⟩
 have z8:=qC ((qA HP).later hb)
 have qH:=qC ((qA HK).then_below hb)
 clear HC hb HK HP
 have HK:=qH
 have HP:=z8
 clear qH z8
 have HC:=qC (qA HX _ _ (qA HP))
 clear HX c0 c1 c2 c3 c4 c5 hg
 go_wp2_with fail
 refine(qA HC).mono ?_
 rintro e wx ⟨rfl,hb⟩
 have hfd:=x9 x.k x.n x.t wx
 have z8:=qC ((qA HP).later hb)
 have qH:=qC ((qA HK).then_below hb)
 clear HC hb HK HP
 have HK:=qH
 have HP:=z8
 clear qH z8
 obtain⟨c0,c1,c2,c3,c4,c5⟩:=(qA HP).cells
 have z1:=(qA HP).free 1
 have hf3:=(qA qS).few
 have hg:=(qA HP).lt
 have z8:=qC ((qA HP).adv jF)
 have qH:=qC ((qA HK).set (o:=1) (x:=.int .i64 ((s.at':Int)+1)))
 clear HP HK
 have HK:=qH
 have HP:=z8
 clear qH z8 c0 c2 c3 c4 c5
 have gP:=gH
 have HC:=qC (qAP (qA qS) (qA HP) (by (repeat (first | rewrite[q9] | rewrite[zG] | rewrite[jO] | rewrite[qZ] | rewrite[j4]));exact qA gP))
 rw[show((jS ts (qK s)).code == 0)=false from(beq_eq_false_iff_ne.2 hy)]at HC
 clear HP
 go_wp2_with fail
 refine(qA HC).mono ?_
 rintro e w2 ⟨rfl,hp,hk⟩
 have HP:=qC hp
 have qH:=qC ((qA HK).trans hk)
 clear HC hp hk HK
 have HK:=qH
 clear qH
 clear c1 z1 hf3 hg hfd
 have c3:=(qA HP).cells.2.2.2.1
 have z3:=(qA HP).free 3
 have hg:=(qA HP).lt
 have qB:(jS ts (qK s)).dp=s.dp+1:=(by rw[xW,qZ])
 rw[qB]at c3
 have hdl:=qA gH
 have z8:=qC ((qA HP).up1 qB)
 have qH:=qC ((qA HK).set (o:=3) (x:=.int .i64 (s.dp:Int)))
 clear HP HK qB
 have HK:=qH
 have HP:=z8
 clear qH z8
 go_wp2
 go_ret
 exact⟨rfl,_,qA HP,qA HK⟩
theorem qPO{ts:List V3}(qS:Hid (TS ts))(n:Nat)(ihG:Hid (∀ k,k≤n→PQ ts k .sign 169)){g:Nat}{lp:Option Addr}{lc:PX}{v:Value}{s:PS}{w:World}(h:zD w g lp lc ts v s)(hf:qM s)(hd:s.dp≤20)(hn:zH ts .sign s≤n+1)(hc:s.code=0)(hi0:kA ts s [33]=false)(hi:kA ts s [45]=true)(hy:(jS ts (qK s)).code=0) :
  PZ 169 g lp lc ts v w (run ts (n+1) .sign s):=by
 unfold PZ
 rw[run]
 rw[if_pos ⟨hc,.inr hi⟩,if_pos hy,yB]
 have hat:=h.hat
 have HP:=qC h
 have HK:=qC (PK.refl g v w)
 have mV:=qC hf
 have gH:=qC hd
 have uW:=qC (qI.refl s)
 clear h hf hd
 have jF:=rN hi
 have HX:=qC (fun v w (hp:zD w g lp lc ts v s)=>xR (qA qS) hp)
 unfold mT at HX
 have hdk:=qBt hy
 have yW:=qC (fun v w (hp:zD w g lp lc ts v (jS ts (qK s)))=>qA ihG n (by omega) g lp lc v (jS ts (qK s)) w hp (((qA mV).same (qN _)).same (qT _ _)) (by rw[xW];exact hdk) (j3 hn hat (qI.refl s).adv.down ((uP.adv (qI.refl s)).le (qI.refl _).down) hc))
 have HDq:Hid ((run ts n .sign (jS ts (qK s))).s.dp=s.dp+1):=qC (by rw[zC,xW,qZ])
 have kN:=qC (qM.run (ts:=ts) (n:=n) (f:=.sign) (((qA mV).same (qN s)).same (qT ts _)))
 generalize run ts n .sign (jS ts (qK s))=o1 at yW HDq kN ⊢
 generalize qU ts s=x at HX ⊢
 go_enter Tryz.func169,Tryz.ntmps169
 obtain⟨c0,c1,c2,c3,c4,c5⟩:=(qA HP).cells
 have hg:=(qA HP).lt
 rw[hc]at c4
 have HC:=qC (pis (qA qS) (qA HP) (⟨#[33]⟩:ByteArray))
 rw[show(⟨#[33]⟩:ByteArray).data.toList=[33] from rfl,hi0]at HC
 go_wp2_with fail
 refine(qA HC).mono ?_
 rintro e w1 ⟨rfl,hb⟩
 have z8:=qC ((qA HP).later hb)
 have qH:=qC ((qA HK).then_below hb)
 clear HC hb HK HP
 have HK:=qH
 have HP:=z8
 clear qH z8
 have HC:=qC (pis (qA qS) (qA HP) (⟨#[45]⟩:ByteArray))
 rw[show(⟨#[45]⟩:ByteArray).data.toList=[45] from rfl,hi]at HC
 go_wp2_with fail
 refine(qA HC).mono ?_
 rintro e w2 ⟨rfl,hb⟩
 have z8:=qC ((qA HP).later hb)
 have qH:=qC ((qA HK).then_below hb)
 clear HC hb HK HP
 have HK:=qH
 have HP:=z8
 clear qH z8
 have HC:=qC (qA HX _ _ (qA HP))
 clear HX c0 c1 c2 c3 c4 c5 hg
 go_wp2_with fail
 refine(qA HC).mono ?_
 rintro e wx ⟨rfl,hb⟩
 have hfd:=x9 x.k x.n x.t wx
 have z8:=qC ((qA HP).later hb)
 have qH:=qC ((qA HK).then_below hb)
 clear HC hb HK HP
 have HK:=qH
 have HP:=z8
 clear qH z8
 obtain⟨c0,c1,c2,c3,c4,c5⟩:=(qA HP).cells
 have z1:=(qA HP).free 1
 have hf3:=(qA qS).few
 have hg:=(qA HP).lt
 have z8:=qC ((qA HP).adv jF)
 have qH:=qC ((qA HK).set (o:=1) (x:=.int .i64 ((s.at':Int)+1)))
 clear HP HK
 have HK:=qH
 have HP:=z8
 clear qH z8 c0 c2 c3 c4 c5
 have gP:=gH
 have HC:=qC (qAP (qA qS) (qA HP) (by (repeat (first | rewrite[q9] | rewrite[zG] | rewrite[jO] | rewrite[qZ] | rewrite[j4]));exact qA gP))
 rw[show((jS ts (qK s)).code == 0)=true from(by rw[hy];rfl)]at HC
 clear HP
 go_wp2_with fail
 refine(qA HC).mono ?_
 rintro e w3 ⟨rfl,hp,hk⟩
 have HP:=qC hp
 have qH:=qC ((qA HK).trans hk)
 clear HC hp hk HK
 have HK:=qH
 clear qH
 clear c1 z1 hf3 hg hfd
 have HC:=qC (qA yW _ _ (qA HP))
 clear HP yW
 go_wp2_with fail
 refine(qA HC).mono ?_
 rintro e w9 ⟨rfl,v9,hp,hk⟩
 have HP:=qC hp
 have qH:=qC ((qA HK).trans hk)
 clear HC hp hk HK
 have HK:=qH
 clear qH
 have c3:=(qA HP).cells.2.2.2.1
 have z3:=(qA HP).free 3
 have hg:=(qA HP).lt
 have qB:o1.s.dp=s.dp+1:=qA HDq
 rw[qB]at c3
 have hdl:=qA gH
 have z8:=qC ((qA HP).up1 qB)
 have qH:=qC ((qA HK).set (o:=3) (x:=.int .i64 (s.dp:Int)))
 clear HP HK qB
 have HK:=qH
 have HP:=z8
 clear qH z8
 have HC:=qC (aB (qA qS) (qA HP) (by repeat (first | exact qA kN | apply qM.put | refine qM.same ?_ (qO _ _ _) | refine qM.same ?_ (jH _ _ _) | refine qM.same ?_ (qV _ _) | refine qM.same ?_ (qN _) | refine qM.same ?_ (j8 _) | refine qM.same ?_ (qT _ _))) 6 x.t o1.r)
 rw[World.size_setCell]at HC
 clear HP
 go_wp2_with fail
 refine(qA HC).mono ?_
 rintro e w4 ⟨rfl,vp,hp,hk⟩
 have HP:=qC hp
 have qH:=qC ((qA HK).trans hk)
 clear HC hp hk HK
 have HK:=qH
 clear qH
 go_wp2
 go_ret
 exact⟨rfl,_,qA HP,qA HK⟩
theorem qP8{ts:List V3}(qS:Hid (TS ts))(n:Nat){g:Nat}{lp:Option Addr}{lc:PX}{v:Value}{s:PS}{w:World}(h:zD w g lp lc ts v s)(hf:qM s)(hd:s.dp≤20)(hn:zH ts .sign s≤n+1)(hc:s.code=0)(hi0:kA ts s [33]=false)(hi:kA ts s [45]=true)(hy:¬(jS ts (qK s)).code=0) :
  PZ 169 g lp lc ts v w (run ts (n+1) .sign s):=by
 unfold PZ
 rw[run]
 rw[if_pos ⟨hc,.inr hi⟩,if_neg hy,mG]
 have hat:=h.hat
 have HP:=qC h
 have HK:=qC (PK.refl g v w)
 have mV:=qC hf
 have gH:=qC hd
 have uW:=qC (qI.refl s)
 clear h hf hd
 have jF:=rN hi
 have HX:=qC (fun v w (hp:zD w g lp lc ts v s)=>xR (qA qS) hp)
 unfold mT at HX
 generalize qU ts s=x at HX ⊢
 go_enter Tryz.func169,Tryz.ntmps169
 obtain⟨c0,c1,c2,c3,c4,c5⟩:=(qA HP).cells
 have hg:=(qA HP).lt
 rw[hc]at c4
 have HC:=qC (pis (qA qS) (qA HP) (⟨#[33]⟩:ByteArray))
 rw[show(⟨#[33]⟩:ByteArray).data.toList=[33] from rfl,hi0]at HC
 go_wp2_with fail
 refine(qA HC).mono ?_
 rintro e w1 ⟨rfl,hb⟩
 have z8:=qC ((qA HP).later hb)
 have qH:=qC ((qA HK).then_below hb)
 clear HC hb HK HP
 have HK:=qH
 have HP:=z8
 clear qH z8
 have HC:=qC (pis (qA qS) (qA HP) (⟨#[45]⟩:ByteArray))
 rw[show(⟨#[45]⟩:ByteArray).data.toList=[45] from rfl,hi]at HC
 go_wp2_with fail
 refine(qA HC).mono ?_
 rintro e w2 ⟨rfl,hb⟩
 have z8:=qC ((qA HP).later hb)
 have qH:=qC ((qA HK).then_below hb)
 clear HC hb HK HP
 have HK:=qH
 have HP:=z8
 clear qH z8
 have HC:=qC (qA HX _ _ (qA HP))
 clear HX c0 c1 c2 c3 c4 c5 hg
 go_wp2_with fail
 refine(qA HC).mono ?_
 rintro e wx ⟨rfl,hb⟩
 have hfd:=x9 x.k x.n x.t wx
 have z8:=qC ((qA HP).later hb)
 have qH:=qC ((qA HK).then_below hb)
 clear HC hb HK HP
 have HK:=qH
 have HP:=z8
 clear qH z8
 obtain⟨c0,c1,c2,c3,c4,c5⟩:=(qA HP).cells
 have z1:=(qA HP).free 1
 have hf3:=(qA qS).few
 have hg:=(qA HP).lt
 have z8:=qC ((qA HP).adv jF)
 have qH:=qC ((qA HK).set (o:=1) (x:=.int .i64 ((s.at':Int)+1)))
 clear HP HK
 have HK:=qH
 have HP:=z8
 clear qH z8 c0 c2 c3 c4 c5
 have gP:=gH
 have HC:=qC (qAP (qA qS) (qA HP) (by (repeat (first | rewrite[q9] | rewrite[zG] | rewrite[jO] | rewrite[qZ] | rewrite[j4]));exact qA gP))
 rw[show((jS ts (qK s)).code == 0)=false from(beq_eq_false_iff_ne.2 hy)]at HC
 clear HP
 go_wp2_with fail
 refine(qA HC).mono ?_
 rintro e w3 ⟨rfl,hp,hk⟩
 have HP:=qC hp
 have qH:=qC ((qA HK).trans hk)
 clear HC hp hk HK
 have HK:=qH
 clear qH
 clear c1 z1 hf3 hg hfd
 have c3:=(qA HP).cells.2.2.2.1
 have z3:=(qA HP).free 3
 have hg:=(qA HP).lt
 have qB:(jS ts (qK s)).dp=s.dp+1:=(by rw[xW,qZ])
 rw[qB]at c3
 have hdl:=qA gH
 have z8:=qC ((qA HP).up1 qB)
 have qH:=qC ((qA HK).set (o:=3) (x:=.int .i64 (s.dp:Int)))
 clear HP HK qB
 have HK:=qH
 have HP:=z8
 clear qH z8
 go_wp2
 go_ret
 exact⟨rfl,_,qA HP,qA HK⟩
theorem no2{c:Prop}{x y:Bool}(hx:x=false)(hy:y=false):¬(c∧(x=true∨y=true)):=by
 rintro⟨_,h | h⟩
 ·rw[hx]at h;cases h
 ·rw[hy]at h;cases h
theorem qP1{ts:List V3}(qS:Hid (TS ts))(n:Nat)(ihF:Hid (∀ k,k≤n→PQ ts k .first 170)){g:Nat}{lp:Option Addr}{lc:PX}{v:Value}{s:PS}{w:World}(h:zD w g lp lc ts v s)(hf:qM s)(hd:s.dp≤20)(hn:zH ts .sign s≤n+1)(hc:s.code=0)(hi0:kA ts s [33]=false)(hi1:kA ts s [45]=false) :
  PZ 169 g lp lc ts v w (run ts (n+1) .sign s):=by
 unfold PZ
 rw[run]
 rw[if_neg (no2 hi0 hi1)]
 have hat:=h.hat
 have HP:=qC h
 have HK:=qC (PK.refl g v w)
 have mV:=qC hf
 have gH:=qC hd
 have uW:=qC (qI.refl s)
 clear h hf hd
 have yW:=qC (fun v w (hp:zD w g lp lc ts v s)=>qA ihF n (by omega) g lp lc v s w hp (by repeat (first | exact qA mV | apply qM.put | refine qM.same ?_ (qO _ _ _) | refine qM.same ?_ (jH _ _ _) | refine qM.same ?_ (qV _ _) | refine qM.same ?_ (qN _) | refine qM.same ?_ (j8 _) | refine qM.same ?_ (qT _ _))) (by (repeat (first | rewrite[q9] | rewrite[zG] | rewrite[jO] | rewrite[qZ] | rewrite[j4]));exact qA gH) (zZ hn hat (qI.refl s) (fun _ _=>.inl (by decide)) (fun _=>by decide)))
 have cH:=qC (j5 ts n .first s s (by repeat (first | exact qA uW | apply qI.need | apply qI.com | apply qI.name | apply qI.adv | apply qI.put | apply qI.up | apply qI.down)))
 have HT1:=qC (yM ts n .first s s rfl (by repeat (first | exact qA uW | apply qI.need | apply qI.com | apply qI.name | apply qI.adv | apply qI.put | apply qI.up | apply qI.down)))
 have kN:=qC (qM.run (ts:=ts) (n:=n) (f:=.first) (s:=s) (by repeat (first | exact qA mV | apply qM.put | refine qM.same ?_ (qO _ _ _) | refine qM.same ?_ (jH _ _ _) | refine qM.same ?_ (qV _ _) | refine qM.same ?_ (qN _) | refine qM.same ?_ (j8 _) | refine qM.same ?_ (qT _ _))))
 have gP:Hid ((run ts n .first s).s.dp≤20):=qC (by rw[zC];exact(by (repeat (first | rewrite[q9] | rewrite[zG] | rewrite[jO] | rewrite[qZ] | rewrite[j4]));exact qA gH))
 generalize run ts n .first s=o1 at yW cH HT1 kN gP  ⊢
 go_enter Tryz.func169,Tryz.ntmps169
 obtain⟨c0,c1,c2,c3,c4,c5⟩:=(qA HP).cells
 have hg:=(qA HP).lt
 rw[hc]at c4
 have HC:=qC (pis (qA qS) (qA HP) (⟨#[33]⟩:ByteArray))
 rw[show(⟨#[33]⟩:ByteArray).data.toList=[33] from rfl,hi0]at HC
 go_wp2_with fail
 refine(qA HC).mono ?_
 rintro e w1 ⟨rfl,hb⟩
 have z8:=qC ((qA HP).later hb)
 have qH:=qC ((qA HK).then_below hb)
 clear HC hb HK HP
 have HK:=qH
 have HP:=z8
 clear qH z8
 have HC:=qC (pis (qA qS) (qA HP) (⟨#[45]⟩:ByteArray))
 rw[show(⟨#[45]⟩:ByteArray).data.toList=[45] from rfl,hi1]at HC
 go_wp2_with fail
 refine(qA HC).mono ?_
 rintro e w2 ⟨rfl,hb⟩
 have z8:=qC ((qA HP).later hb)
 have qH:=qC ((qA HK).then_below hb)
 clear HC hb HK HP
 have HK:=qH
 have HP:=z8
 clear qH z8
 have HC:=qC (qA yW _ _ (qA HP))
 clear HP yW
 go_wp2_with fail
 refine(qA HC).mono ?_
 rintro e w3 ⟨rfl,v1,hp,hk⟩
 have HP:=qC hp
 have qH:=qC ((qA HK).trans hk)
 clear HC hp hk HK
 have HK:=qH
 clear qH
 clear c0 c1 c2 c3 c4 c5
 go_wp2
 go_ret
 exact⟨rfl,_,qA HP,qA HK⟩
theorem qPF{ts:List V3}(qS:Hid (TS ts))(n:Nat)(ihF:Hid (∀ k,k≤n→PQ ts k .first 170)){g:Nat}{lp:Option Addr}{lc:PX}{v:Value}{s:PS}{w:World}(h:zD w g lp lc ts v s)(hf:qM s)(hd:s.dp≤20)(hn:zH ts .sign s≤n+1)(hc:¬s.code=0) :
  PZ 169 g lp lc ts v w (run ts (n+1) .sign s):=by
 unfold PZ
 rw[run]
 rw[if_neg (fun h=>hc h.1)]
 have hat:=h.hat
 have HP:=qC h
 have HK:=qC (PK.refl g v w)
 have mV:=qC hf
 have gH:=qC hd
 have uW:=qC (qI.refl s)
 clear h hf hd
 have yW:=qC (fun v w (hp:zD w g lp lc ts v s)=>qA ihF n (by omega) g lp lc v s w hp (by repeat (first | exact qA mV | apply qM.put | refine qM.same ?_ (qO _ _ _) | refine qM.same ?_ (jH _ _ _) | refine qM.same ?_ (qV _ _) | refine qM.same ?_ (qN _) | refine qM.same ?_ (j8 _) | refine qM.same ?_ (qT _ _))) (by (repeat (first | rewrite[q9] | rewrite[zG] | rewrite[jO] | rewrite[qZ] | rewrite[j4]));exact qA gH) (zZ hn hat (qI.refl s) (fun _ _=>.inl (by decide)) (fun _=>by decide)))
 have cH:=qC (j5 ts n .first s s (by repeat (first | exact qA uW | apply qI.need | apply qI.com | apply qI.name | apply qI.adv | apply qI.put | apply qI.up | apply qI.down)))
 have HT1:=qC (yM ts n .first s s rfl (by repeat (first | exact qA uW | apply qI.need | apply qI.com | apply qI.name | apply qI.adv | apply qI.put | apply qI.up | apply qI.down)))
 have kN:=qC (qM.run (ts:=ts) (n:=n) (f:=.first) (s:=s) (by repeat (first | exact qA mV | apply qM.put | refine qM.same ?_ (qO _ _ _) | refine qM.same ?_ (jH _ _ _) | refine qM.same ?_ (qV _ _) | refine qM.same ?_ (qN _) | refine qM.same ?_ (j8 _) | refine qM.same ?_ (qT _ _))))
 have gP:Hid ((run ts n .first s).s.dp≤20):=qC (by rw[zC];exact(by (repeat (first | rewrite[q9] | rewrite[zG] | rewrite[jO] | rewrite[qZ] | rewrite[j4]));exact qA gH))
 generalize run ts n .first s=o1 at yW cH HT1 kN gP  ⊢
 go_enter Tryz.func169,Tryz.ntmps169
 obtain⟨c0,c1,c2,c3,c4,c5⟩:=(qA HP).cells
 have hg:=(qA HP).lt
 have e0:(s.code == 0)=false:=beq_eq_false_iff_ne.2 hc
 have HC:=qC (qA yW _ _ (qA HP))
 clear HP yW
 go_wp2_with fail
 refine(qA HC).mono ?_
 rintro e w1 ⟨rfl,v1,hp,hk⟩
 have HP:=qC hp
 have qH:=qC ((qA HK).trans hk)
 clear HC hp hk HK
 have HK:=qH
 clear qH
 clear c0 c1 c2 c3 c4 c5
 go_wp2
 go_ret
 exact⟨rfl,_,qA HP,qA HK⟩
theorem qIJ{ts:List V3}(qS:Hid (TS ts))(n:Nat)(ihG:Hid (∀ k,k≤n→PQ ts k .sign 169))(ihF:Hid (∀ k,k≤n→PQ ts k .first 170)):PQ ts (n+1) .sign 169:=by
 intro g lp lc v s w h hf hd hn
 by_cases hc:s.code=0
 ·cases h1:kA ts s [33]with
  | true=>
   by_cases hy:(jS ts (qK s)).code=0
   ·exact qQm qS n ihG h hf hd hn hc h1 hy
   ·exact qPq qS n h hf hd hn hc h1 hy
  | false=>
   cases h2:kA ts s [45]with
   | true=>
    by_cases hy:(jS ts (qK s)).code=0
    ·exact qPO qS n ihG h hf hd hn hc h1 h2 hy
    ·exact qP8 qS n h hf hd hn hc h1 h2 hy
   | false=>exact qP1 qS n ihF h hf hd hn hc h1 h2
 ·exact qPF qS n ihF h hf hd hn hc
end
section
open Go.RowKit Go.Joins
attribute [local irreducible] run qK iG xK qJ jN jZ jS u9 kA yL qU sF
theorem qN2{ts:List V3}(qS:Hid (TS ts))(n:Nat)(ihI:Hid (∀ k,k≤n→PQ ts k .inner 114)){g:Nat}{lp:Option Addr}{lc:PX}{v:Value}{s:PS}{w:World}(h:zD w g lp lc ts v s)(hf:qM s)(hd:s.dp≤20)(hn:zH ts .stmt s≤n+1)(hy:(jS ts s).code=0) :
  PZ 84 g lp lc ts v w (run ts (n+1) .stmt s):=by
 unfold PZ
 rw[run]
 rw[if_pos hy,mG]
 have hat:=h.hat
 have HP:=qC h
 have HK:=qC (PK.refl g v w)
 have mV:=qC hf
 have gH:=qC hd
 have uW:=qC (qI.refl s)
 clear h hf hd
 have hc:=(qI.refl s).down.c0 hy
 have hdk:=qBt hy
 have yW:=qC (fun v w (hp:zD w g lp lc ts v (jS ts s))=>qA ihI n (by omega) g lp lc v (jS ts s) w hp ((qA mV).same (qT _ _)) (by rw[xW];exact hdk) (zZ hn hat (qI.refl s).down (fun _ _=>.inl (by decide)) (fun c=>absurd hc c)))
 have HDq:Hid ((run ts n .inner (jS ts s)).s.dp=s.dp+1):=qC (by rw[zC,xW])
 generalize run ts n .inner (jS ts s)=o1 at yW HDq ⊢
 go_enter Tryz.func84,Tryz.ntmps84
 have HC:=qC (qAP (qA qS) (qA HP) (by (repeat (first | rewrite[q9] | rewrite[zG] | rewrite[jO] | rewrite[qZ] | rewrite[j4]));exact qA gH))
 rw[show((jS ts s).code == 0)=true from(by rw[hy];rfl)]at HC
 clear HP
 go_wp2_with fail
 refine(qA HC).mono ?_
 rintro e w1 ⟨rfl,hp,hk⟩
 have HP:=qC hp
 have qH:=qC ((qA HK).trans hk)
 clear HC hp hk HK
 have HK:=qH
 clear qH
 have HC:=qC (qA yW _ _ (qA HP))
 clear HP yW
 go_wp2_with fail
 refine(qA HC).mono ?_
 rintro e w9 ⟨rfl,v9,hp,hk⟩
 have HP:=qC hp
 have qH:=qC ((qA HK).trans hk)
 clear HC hp hk HK
 have HK:=qH
 clear qH
 have c3:=(qA HP).cells.2.2.2.1
 have z3:=(qA HP).free 3
 have hg:=(qA HP).lt
 have qB:o1.s.dp=s.dp+1:=qA HDq
 rw[qB]at c3
 have hdl:=qA gH
 have z8:=qC ((qA HP).up1 qB)
 have qH:=qC ((qA HK).set (o:=3) (x:=.int .i64 (s.dp:Int)))
 clear HP HK qB
 have HK:=qH
 have HP:=z8
 clear qH z8
 go_wp2
 go_ret
 exact⟨rfl,_,qA HP,qA HK⟩
theorem qLi{ts:List V3}(qS:Hid (TS ts))(n:Nat){g:Nat}{lp:Option Addr}{lc:PX}{v:Value}{s:PS}{w:World}(h:zD w g lp lc ts v s)(hf:qM s)(hd:s.dp≤20)(hn:zH ts .stmt s≤n+1)(hy:¬(jS ts s).code=0) :
  PZ 84 g lp lc ts v w (run ts (n+1) .stmt s):=by
 unfold PZ
 rw[run]
 rw[if_neg hy,mG]
 have hat:=h.hat
 have HP:=qC h
 have HK:=qC (PK.refl g v w)
 have mV:=qC hf
 have gH:=qC hd
 have uW:=qC (qI.refl s)
 clear h hf hd
 go_enter Tryz.func84,Tryz.ntmps84
 have HC:=qC (qAP (qA qS) (qA HP) (by (repeat (first | rewrite[q9] | rewrite[zG] | rewrite[jO] | rewrite[qZ] | rewrite[j4]));exact qA gH))
 rw[show((jS ts s).code == 0)=false from(beq_eq_false_iff_ne.2 hy)]at HC
 clear HP
 go_wp2_with fail
 refine(qA HC).mono ?_
 rintro e w1 ⟨rfl,hp,hk⟩
 have HP:=qC hp
 have qH:=qC ((qA HK).trans hk)
 clear HC hp hk HK
 have HK:=qH
 clear qH
 have c3:=(qA HP).cells.2.2.2.1
 have z3:=(qA HP).free 3
 have hg:=(qA HP).lt
 have qB:(jS ts s).dp=s.dp+1:=(by rw[xW])
 rw[qB]at c3
 have hdl:=qA gH
 have z8:=qC ((qA HP).up1 qB)
 have qH:=qC ((qA HK).set (o:=3) (x:=.int .i64 (s.dp:Int)))
 clear HP HK qB
 have HK:=qH
 have HP:=z8
 clear qH z8
 go_wp2
 go_ret
 exact⟨rfl,_,qA HP,qA HK⟩
theorem qIR{ts:List V3}(qS:Hid (TS ts))(n:Nat)(ihI:Hid (∀ k,k≤n→PQ ts k .inner 114)):PQ ts (n+1) .stmt 84:=by
 intro g lp lc v s w h hf hd hn
 by_cases hy:(jS ts s).code=0
 ·exact qN2 qS n ihI h hf hd hn hy
 ·exact qLi qS n h hf hd hn hy
end
section
open Go.RowKit Go.Joins
theorem qLX{ts:List V3}(qS:Hid (TS ts))(n:Nat)(ih:Hid (∀ k,k≤n→PQ ts k .prod 168)):PQ ts (n+1) .sum 167:=by
 intro g lp lc v s w h hf hd hn
 have hat:=h.hat
 have HC:=qC (qA ih n (Nat.le_refl _) g lp lc v s w h hf hd (zZ hn hat (qI.refl s) (fun _ _=>.inl (by decide)) (fun _=>by decide)))
 have HR:run ts (n+1) .sum s=run ts n (.sumL (run ts n .prod s).r) (run ts n .prod s).s:=by rw[run]
 rw[HR]
 have kN:=qC (hf.run (ts:=ts) (n:=n) (f:=.prod))
 have gP:=qC (zC ts n .prod s)
 have wK:=qC (fun a=>zZ (f':=.sumL a) hn hat (j5 ts n .prod s s (qI.refl s)) (fun _ _=>.inl (by show lev (.sumL 0)<lev .sum;decide)) (fun _=>(by show eG (.sumL 0)<eG .sum;decide)))
 generalize run ts n .prod s=o at HC kN gP wK ⊢
 clear h hf hn HR
 go_enter Tryz.func167,Tryz.ntmps167
 go_wp2_with fail
 refine(qA HC).mono ?_
 rintro e w1 ⟨rfl,v1,bK,kQ⟩
 have r6:=qC bK
 have yV:=qC kQ
 clear HC bK kQ
 go_wp2
 go_loopg [3] n (fun gn a wx=>∃ (a':Int) (s':PS) (v':Value),a=.int .i64 a'∧gn≤n∧Hid (zH ts (.sumL a') s'≤gn)∧Hid (zD wx g lp lc ts v' s')∧Hid (PK g v v' w wx)∧Hid (qM s')∧Hid (s'.dp≤20)∧Hid (run ts gn (.sumL a') s'=run ts n (.sumL o.r) o.s))
 case atStart=>exact⟨o.r,o.s,v1,rfl,Nat.le_refl _,qC (qA wK _),r6,yV,kN,qC (by rw[qA gP];exact hd),qC rfl⟩
 case round=>
  obtain⟨a',s',v',rfl,hgn,HN,HP,HK,HF,HD,HRn⟩:=hrel
  obtain⟨k,hk⟩:=pG (qA HN)
  have yY:=qA HRn
  rw[hk,run]at yY
  have uY:=(qA HP).hat
  have c4:=(qA HP).cells.2.2.2.2.1
  have HI:=qC (fun t w2 (vM:zD w2 g lp lc ts v' s')=>pis (qA qS) vM t)
  clear r6 yV kN gP wK HRn
  by_cases hc:s'.code=0
  ·rw[hc]at c4
   cases hi:kA ts s' [43]with
   | true=>
    have xJ:=qC (qA HI ⟨#[43]⟩ wr (qA HP))
    rw[show(⟨#[43]⟩:ByteArray).data.toList=[43] from rfl,hi]at xJ
    rw[if_pos ⟨hc,.inl hi⟩]at yY
    have jF:=rN hi
    have gO:=qC (j3 (f':=.prod) (hk▸qA HN) uY (qI.refl s').adv (uP.adv (qI.refl s')) hc)
    have wI:=qC (fun b=>j3 (f':=.sumL b) (hk▸qA HN) uY (j5 ts k .prod s' (qK s') (qI.refl s').adv).put (uP.put (ts:=ts) (x:=⟨7,0,(qU ts s').t,[],[a',(run ts k .prod (qK s')).r]⟩) (yM ts k .prod s' (qK s') rfl (qI.refl s').adv)) hc)
    have yJ:=qC (fun w2 vM=>qA ih k (by omega) g lp lc v' (qK s') w2 vM ((qA HF).same (qN _)) (by rw[qZ];exact qA HD) (qA gO))
    have mZ:=qC (((qA HF).same (qN _)).run (ts:=ts) (n:=k) (f:=.prod))
    have fF:Hid ((run ts k .prod (qK s')).s.dp≤20):=qC (by rw[zC,qZ];exact qA HD)
    have HX:=qC (fun w2 (vM:zD w2 g lp lc ts v' s')=>xR (qA qS) vM)
    unfold mT at HX
    generalize run ts k .prod (qK s')=o2 at yJ mZ fF wI yY
    generalize qU ts s'=x at HX wI yY
    have fI:=qC yY
    clear gO HN yY hi HF HD
    clear HI
    go_wp2_with fail
    refine(qA xJ).mono ?_
    rintro e w2 ⟨rfl,qY⟩
    have z8:=qC ((qA HP).later qY)
    have qH:=qC ((qA HK).then_below qY)
    clear xJ qY HP HK
    have u7:=qC (qA HX w2 (qA z8))
    clear HX
    go_wp2_with fail
    refine(qA u7).mono ?_
    rintro e w5 ⟨rfl,gL⟩
    have hfd:=x9 x.k x.n x.t w5
    have wT:=(qA z8).later gL
    obtain⟨c0,c1,c2,c3,c4,c5⟩:=wT.cells
    have z1:=wT.free 1
    have hf3:=(qA qS).few
    have hg5:=wT.lt
    have tL:=qC (qA yJ _ (wT.adv jF))
    have tV:=qC (((qA qH).then_below gL).set (o:=1) (x:=.int .i64 ((s'.at':Int)+1)))
    clear gL wT yJ u7 z8 qH c0 c2 c3 c4 c5
    go_wp2_with fail
    refine(qA tL).mono ?_
    rintro e w3 ⟨rfl,v3,pC,kG⟩
    have rR:=qC (cQ (qA qS) pC (qA mZ) 7 x.t a' o2.r)
    have yK:=qC ((qA tV).trans kG)
    clear tL tV pC kG c1 z1 hfd
    go_wp2_with fail
    refine(qA rR).mono ?_
    rintro e w4 ⟨rfl,v4,rQ,gC⟩
    have n7:=qC rQ
    have fG:=qC ((qA yK).trans gC)
    clear rR yK rQ gC
    go_wp2
    go_roundg k
    case rel=>exact⟨_,_,v4,rfl,by omega,qC (qA wI _),n7,fG,qC ((qA mZ).put),qC (by rw[j4];exact qA fF),fI⟩
    case measure=>omega
   | false=>
    have hi0:=hi
    clear hi
    have xJ:=qC (qA HI ⟨#[43]⟩ wr (qA HP))
    rw[show(⟨#[43]⟩:ByteArray).data.toList=[43] from rfl,hi0]at xJ
    go_wp2_with fail
    refine(qA xJ).mono ?_
    rintro e w2 ⟨rfl,qY⟩
    have z8:=qC ((qA HP).later qY)
    have qH:=qC ((qA HK).then_below qY)
    clear xJ qY HP HK
    cases hi:kA ts s' [45]with
    | true=>
     have xJ:=qC (qA HI ⟨#[45]⟩ w2 (qA z8))
     rw[show(⟨#[45]⟩:ByteArray).data.toList=[45] from rfl,hi]at xJ
     rw[if_pos ⟨hc,.inr (hi)⟩]at yY
     have jF:=rN hi
     have gO:=qC (j3 (f':=.prod) (hk▸qA HN) uY (qI.refl s').adv (uP.adv (qI.refl s')) hc)
     have wI:=qC (fun b=>j3 (f':=.sumL b) (hk▸qA HN) uY (j5 ts k .prod s' (qK s') (qI.refl s').adv).put (uP.put (ts:=ts) (x:=⟨7,0,(qU ts s').t,[],[a',(run ts k .prod (qK s')).r]⟩) (yM ts k .prod s' (qK s') rfl (qI.refl s').adv)) hc)
     have yJ:=qC (fun w2 vM=>qA ih k (by omega) g lp lc v' (qK s') w2 vM ((qA HF).same (qN _)) (by rw[qZ];exact qA HD) (qA gO))
     have mZ:=qC (((qA HF).same (qN _)).run (ts:=ts) (n:=k) (f:=.prod))
     have fF:Hid ((run ts k .prod (qK s')).s.dp≤20):=qC (by rw[zC,qZ];exact qA HD)
     have HX:=qC (fun w2 (vM:zD w2 g lp lc ts v' s')=>xR (qA qS) vM)
     unfold mT at HX
     generalize run ts k .prod (qK s')=o2 at yJ mZ fF wI yY
     generalize qU ts s'=x at HX wI yY
     have fI:=qC yY
     clear gO HN yY hi HF HD
     clear HI
     go_wp2_with fail
     refine(qA xJ).mono ?_
     rintro e w6 ⟨rfl,qY⟩
     have HP6:=qC ((qA z8).later qY)
     have HK6:=qC ((qA qH).then_below qY)
     clear xJ qY z8 qH
     have u7:=qC (qA HX w6 (qA HP6))
     clear HX
     go_wp2_with fail
     refine(qA u7).mono ?_
     rintro e w5 ⟨rfl,gL⟩
     have hfd:=x9 x.k x.n x.t w5
     have wT:=(qA HP6).later gL
     obtain⟨c0,c1,c2,c3,c4,c5⟩:=wT.cells
     have z1:=wT.free 1
     have hf3:=(qA qS).few
     have hg5:=wT.lt
     have tL:=qC (qA yJ _ (wT.adv jF))
     have tV:=qC (((qA HK6).then_below gL).set (o:=1) (x:=.int .i64 ((s'.at':Int)+1)))
     clear gL wT yJ u7 HP6 HK6 c0 c2 c3 c4 c5
     go_wp2_with fail
     refine(qA tL).mono ?_
     rintro e w3 ⟨rfl,v3,pC,kG⟩
     have rR:=qC (cQ (qA qS) pC (qA mZ) 7 x.t a' o2.r)
     have yK:=qC ((qA tV).trans kG)
     clear tL tV pC kG c1 z1 hfd
     go_wp2_with fail
     refine(qA rR).mono ?_
     rintro e w4 ⟨rfl,v4,rQ,gC⟩
     have n7:=qC rQ
     have fG:=qC ((qA yK).trans gC)
     clear rR yK rQ gC
     go_wp2
     go_roundg k
     case rel=>exact⟨_,_,v4,rfl,by omega,qC (qA wI _),n7,fG,qC ((qA mZ).put),qC (by rw[j4];exact qA fF),fI⟩
     case measure=>omega
    | false=>
     have hi1:=hi
     clear hi
     have xJ:=qC (qA HI ⟨#[45]⟩ w2 (qA z8))
     rw[show(⟨#[45]⟩:ByteArray).data.toList=[45] from rfl,hi1]at xJ
     go_wp2_with fail
     refine(qA xJ).mono ?_
     rintro e w6 ⟨rfl,qY⟩
     have HPn:=qC ((qA z8).later qY)
     have HKn:=qC ((qA qH).then_below qY)
     clear xJ qY z8 qH
     have tZ:¬(s'.code=0∧(kA ts s' [43]=true∨kA ts s' [45]=true)):=by
      rintro⟨_,h⟩
      rcases h with h | h
      ·rw[hi0]at h;cases h
      ·rw[hi1]at h;cases h
     rw[if_neg tZ]at yY
     have fI:=qC yY.symm
     clear yY tZ hi0 hi1 hk hc
     go_wp2
     go_ret
     rw[qA fI]
     exact⟨rfl,v',qA HPn,qA HKn⟩
  ·have e0:(s'.code == 0)=false:=beq_eq_false_iff_ne.2 hc
   rw[if_neg (fun h=>hc h.1)]at yY
   have fI:=qC yY.symm
   clear yY hk hc
   go_wp2
   go_ret
   rw[qA fI]
   exact⟨rfl,v',qA HP,qA HK⟩
end
end Go.Proofs.YtbgkfaclfnkloaaGreatDoor
