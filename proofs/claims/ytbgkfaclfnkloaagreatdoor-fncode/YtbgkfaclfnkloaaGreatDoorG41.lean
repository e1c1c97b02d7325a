import Derived.Test.YtbgkfaclfnkloaaGreatDoorG39
import Derived.Test.YtbgkfaclfnkloaaGreatDoorG40
namespace Go.Proofs.YtbgkfaclfnkloaaGreatDoor
set_option linter.all false
set_option maxHeartbeats 4000000
set_option maxRecDepth 100000
section
open Go.RowKit Go.Joins
theorem qGe{ts:List V3}(qS:Hid (TS ts))(n:Nat)(bO:Hid (∀ k,k≤n→PQ ts k .expr 139)):PQ ts (n+1) .first 170:=by
 intro g lp lc v s w h hf hd hn
 by_cases hc:s.code=0
 ·by_cases kG:(qU ts s).k=3
  ·exact qIZ qS n h hf hd hn hc kG
  by_cases gC:(qU ts s).k=4
  ·exact qHm qS n h hf hd hn hc gC
  cases h0:kA ts s [116,114,117,101]with
  | true=>exact qGc qS n h hf hd hn hc kG gC h0
  | false=>
   cases h1:kA ts s [102,97,108,115,101]with
   | true=>exact qFu qS n h hf hd hn hc kG gC h0 h1
   | false=>
    cases h2:kA ts s [110,117,108,108]with
    | true=>exact qGB qS n h hf hd hn hc kG gC h0 h1 h2
    | false=>
     cases h3:kA ts s [40]with
     | true=>exact qFb qS n bO h hf hd hn hc kG gC h0 h1 h2 h3
     | false=>
      by_cases kQ:(qU ts s).k=1
      ·cases hy:yL ts (qK s) [40]with
       | true=>exact qHl qS n bO h hf hd hn hc kQ h0 h1 h2 h3 hy
       | false=>exact qGM qS n h hf hd hn hc kQ h0 h1 h2 h3 hy
      ·exact qF4 qS n h hf hd hn hc kG gC h0 h1 h2 h3 kQ
 ·exact qIO qS n h hf hd hn hc
theorem qPI{ts:List V3}{s:PS}(h1:(qU ts s).k=1)(hr:s.at'+1<ts.length)(ht:ts[s.at'+1].t=⟨#[61]⟩)(hk:ts[s.at'+1].k=5):sF ts s=true:=by
 unfold sF
 rw[h1,dif_pos hr,ht,hk];rfl
theorem qHd{ts:List V3}(qS:Hid (TS ts))(n:Nat)(bO:Hid (∀ k,k≤n→PQ ts k .expr 139))(ihB:Hid (∀ k,k≤n→PQ ts k .block 112)):PQ ts (n+1) .inner 114:=by
 intro g lp lc v s w h hf hd hn
 cases h0:yL ts s [108,101,116]with
 | true=>exact qI3 qS n bO h hf hd hn h0
 | false=>
 cases h1:yL ts s [105,102]with
 | true=>
  cases he:yL ts (run ts n .block (qJ ts [41] (run ts n .expr (qJ ts [40] (qK s))).s)).s [101,108,115,101]with
  | true=>exact qH8 qS n bO ihB h hf hd hn h0 h1 he
  | false=>exact qIT qS n bO ihB h hf hd hn h0 h1 he
 | false=>
 cases h2:yL ts s [119,104,105,108,101]with
 | true=>exact qER qS n bO ihB h hf hd hn h0 h1 h2
 | false=>
 cases h3:yL ts s [114,101,116,117,114,110]with
 | true=>exact qDJ qS n bO h hf hd hn h0 h1 h2 h3
 | false=>
 cases h4:yL ts s [116,104,114,111,119]with
 | true=>exact qFn qS n bO h hf hd hn h0 h1 h2 h3 h4
 | false=>
 cases h5:yL ts s [116,114,121]with
 | true=>
  by_cases he:(qJ ts [40] (qJ ts [99,97,116,99,104] (run ts n .block (qK s)).s)).code=0
  ·exact qGZ qS n ihB h hf hd hn h0 h1 h2 h3 h4 h5 he
  ·exact qFV qS n ihB h hf hd hn h0 h1 h2 h3 h4 h5 he
 | false=>
 cases h6:kA ts s [123]with
 | true=>exact qE3 qS n ihB h hf hd hn h0 h1 h2 h3 h4 h5 h6
 | false=>
 by_cases hc:s.code=0
 ·by_cases hs:sF ts s=true
  ·have hs2:=hs
   unfold sF at hs2
   rw[Bool.and_eq_true]at hs2
   obtain⟨ha,hb⟩:=hs2
   have kQ:(qU ts s).k=1:=by simpa using ha
   by_cases hr:s.at'+1<ts.length
   ·rw[dif_pos hr,Bool.and_eq_true]at hb
    have hyk:ts[s.at'+1].k=5:=by simpa using hb.2
    have hyt:ts[s.at'+1].t=⟨#[61]⟩:=qE4 (eq_of_beq hb.1)
    exact qID qS n bO h hf hd hn h0 h1 h2 h3 h4 h5 h6 hc hs kQ hr hyt hyk
   ·rw[dif_neg hr]at hb;cases hb
  ·by_cases kQ:(qU ts s).k=1
   ·by_cases hr:s.at'+1<ts.length
    ·by_cases hyt:ts[s.at'+1].t=⟨#[61]⟩
     ·by_cases hyk:ts[s.at'+1].k=5
      ·exact absurd (qPI kQ hr hyt hyk) hs
      ·exact qIL qS n bO h hf hd hn h0 h1 h2 h3 h4 h5 h6 hc hs kQ hr hyt hyk
     ·exact qIn qS n bO h hf hd hn h0 h1 h2 h3 h4 h5 h6 hc hs kQ hr hyt trivial
    ·exact qI7 qS n bO h hf hd hn h0 h1 h2 h3 h4 h5 h6 hc hs kQ hr
   ·exact qJl qS n bO h hf hd hn h0 h1 h2 h3 h4 h5 h6 hc hs kQ
 ·exact qIQ qS n h hf hd hn h0 h1 h2 h3 h4 h5 h6 hc
structure qXD(ts:List V3)(n:Nat):Prop where
 expr:PQ ts n .expr 139
 and:PQ ts n .and 160
 order:PQ ts n .order 166
 sum:PQ ts n .sum 167
 prod:PQ ts n .prod 168
 sign:PQ ts n .sign 169
 first:PQ ts n .first 170
 block:PQ ts n .block 112
 stmt:PQ ts n .stmt 84
 inner:PQ ts n .inner 114
 func:PQ ts n .func 83
theorem PQ.zero{ts:List V3}{f:PF}{no:Nat}:PQ ts 0 f no:=by
 intro g lp lc v s w h hf hd hn
 obtain⟨k,hk⟩:=pG hn
 omega
theorem qRN{ts:List V3}(qS:TS ts):∀ (n k:Nat),k≤n→qXD ts k
 | 0,k,hk=>by
  obtain rfl:k=0:=by omega
  exact⟨.zero,.zero,.zero,.zero,.zero,.zero,.zero,.zero,.zero,.zero,.zero⟩
 | n+1,k,hk=>by
  have ih:=qRN qS n
  by_cases pU:k≤n
  ·exact ih k pU
  obtain rfl:k=n+1:=by omega
  have T:=qC qS
  exact⟨qIP T n (qC fun j hj=>(ih j hj).and),qL8 T n (qC fun j hj=>(ih j hj).order),qHt T n (qC fun j hj=>(ih j hj).sum),qLX T n (qC fun j hj=>(ih j hj).prod),qIK T n (qC fun j hj=>(ih j hj).sign),qIJ T n (qC fun j hj=>(ih j hj).sign) (qC fun j hj=>(ih j hj).first),qGe T n (qC fun j hj=>(ih j hj).expr),qF3 T n (qC fun j hj=>(ih j hj).stmt),qIR T n (qC fun j hj=>(ih j hj).inner),qHd T n (qC fun j hj=>(ih j hj).expr) (qC fun j hj=>(ih j hj).block),qJm T n (qC fun j hj=>(ih j hj).block)⟩
end
section
open Go.RowKit Go.Joins
attribute [local irreducible] run qK iG xK qJ jN jZ jS u9 kA yL qU sF
theorem qJ1{k:Int}{l:List UInt8}(h:wL k l=true):l.length≤100:=by
 unfold wL at h
 split at h
 ·simp at h;omega
 split at h
 ·unfold pF at h
  obtain⟨x,hx,he⟩:=List.any_eq_true.1 h
  have:∀ x∈jX,x.length≤100:=by decide
  have h2:=this x hx
  rw[eq_of_beq he]at h2;exact h2
 split at h
 ·have h2:(mD l).2=true:=by rw[Bool.and_eq_true]at h;exact h.1
  have:=(qCz h2).2.1
  omega
 split at h
 ·unfold kB at h
  simp at h;omega
 split at h
 ·unfold qD2 at h
  obtain⟨x,hx,he⟩:=List.any_eq_true.1 h
  have:∀ x∈qBO,x.length≤100:=by decide
  have h2:=this x hx
  rw[eq_of_beq he]at h2;exact h2
 ·cases h
theorem TS.of_lexed{ts:List V3}{p:Nat}(h:sX ts p)(hp:p≤1000000):TS ts:=⟨h.few,fun v hv=>by
 obtain⟨h1,h2,h3⟩:=h.each v hv
 have h4:=qJ1 h1
 rw[jI]at h4
 exact⟨h2,by omega,by omega⟩⟩
def pN(ts:List V3):Nat:=17+30*(ts.length+1)
def qAa:Value→Option Addr
 | .slice a _ _=>a
 | _=>none
def qFs:Value→Nat
 | .slice _ _ c=>c
 | _=>0
def qB3(a:Option Addr)(cap:Nat)(cs:List NC):rO:=⟨a,cap,fun i=>match cs[i]? with | some c=>qAa c.un | none=>none,fun i=>match cs[i]? with | some c=>qFs c.un | none=>0,fun i=>match cs[i]? with | some c=>qAa c.uk | none=>none,fun i=>match cs[i]? with | some c=>qFs c.uk | none=>0⟩
theorem cF.nodes_at{w:World}{g:Nat}{lc:PX}{v:Value}{ns:List TN}{cs:List NC}{a:Option Addr}{cap:Nat}(h:cF w g lc v ns cs)(hv:v=.slice a ns.length cap):uV w (qB3 a cap cs) ns:=by
 have hl:=h.len
 intro i hi
 have hic:i<cs.length:=by omega
 have hx:ns[i]=cs[i].x:=by simp[←h.map]
 obtain⟨hn,hk⟩:=h.each cs[i] (List.getElem_mem hic)
 obtain⟨na,nc,en,hn⟩:=hn
 obtain⟨ka,kc,ek,hk⟩:=hk
 have gi:cs[i]? = some cs[i]:=List.getElem?_eq_getElem hic
 obtain⟨g0,g1,g2,g3,g4⟩:=qDI cs i hic
 rcases h.row.2 with ⟨_,h0⟩ | ⟨b,cp,cur,e,_⟩
 ·omega
 ·rw[hv]at e
  injection e with e1 e2 e3
  have dZ:∀ j u,j<5→(vZ cs)[i*5+j]? = some u→w.cell? ⟨b,i*5+j,none⟩=some u:=fun j u hj hu=>by
   have kF:=h.row
   rw[hv,e1,←hl]at kF
   have:=World.ownsRow.cellAt (size:=5) (n:=cs.length) kF (i*5+j) (by omega)
   rw[this];exact hu
  refine⟨b,0,e1,?_,?_,?_,?_,?_,?_,?_⟩
  ·rw[Nat.zero_add,hx];exact dZ 0 _ (by omega) g0
  ·rw[Nat.zero_add,hx];exact dZ 1 _ (by omega) g1
  ·rw[Nat.zero_add,hx];exact dZ 2 _ (by omega) g2
  ·rw[Nat.zero_add,hx]
   have:=dZ 3 _ (by omega) g3
   rw[this];simp only[qB3,gi,en,qAa,qFs]
  ·rw[Nat.zero_add,hx]
   have:=dZ 4 _ (by omega) g4
   rw[this];simp only[qB3,gi,ek,qAa,qFs]
  ·rw[hx]
   intro j hj
   simp only[qB3,gi,en,qAa]
   obtain⟨bb,off,ha,_,_,_,_,hc⟩:=hn j hj
   exact⟨bb,off,ha,hc⟩
  ·rw[hx]
   intro j hj
   simp only[qB3,gi,ek,qAa]
   obtain⟨bb,off,ha,_,_,_,_,hc⟩:=hk j hj
   exact⟨bb,off,ha,hc⟩
theorem cF.apart{w w':World}{g:Nat}{lc:PX}{v:Value}{ns:List TN}{cs:List NC}(h:cF w g lc v ns cs)(hb:∀ b,lc.b≤b→b<w.heap.size→w'.heap[b]? = w.heap[b]?)(hs:w.heap.size≤w'.heap.size)(hg:lc.b≤g):cF w' g lc v ns cs:=by
 refine⟨h.map,jJ h.row fun j hj=>hb j (h.own j hj).1.1 (h.own j hj).2,h.ng,fun c hc=>⟨?_,?_⟩,h.off,h.few⟩
 ·obtain⟨a,cap,e,hh⟩:=(h.each c hc).1
  refine⟨a,cap,e,fun i hi=>?_⟩
  obtain⟨b,off,ha,h1,h2,he,h3,h4⟩:=hh i hi
  exact⟨b,off,ha,h1,by omega,he,h3,by rw[World.cell?_of_block (hb b (by omega) h2)];exact h4⟩
 ·obtain⟨a,cap,e,hh⟩:=(h.each c hc).2
  refine⟨a,cap,e,fun i hi=>?_⟩
  obtain⟨b,off,ha,h1,h2,he,h3,h4⟩:=hh i hi
  exact⟨b,off,ha,h1,by omega,he,h3,by rw[World.cell?_of_block (hb b (by omega) h2)];exact h4⟩
def p5(t:ByteArray)(w:World)(e:Ending)(w':World):Prop:=Below w.heap.size w w'∧∃ (ts:List V3) (p:Nat) (c:Int),xS t.data.toList 0 [] (ts,p,c)∧
 ((c≠0∧e=.returned (.tuple #[.agg #[.slice none 0 0,.int .i64 0],.int .i64 (p:Int),.int .i64 c]))∨
  (c=0∧(vU ts (pN ts)).2.code≠0∧e=.returned (.tuple #[.agg #[.slice none 0 0,.int .i64 0],.int .i64 (vU ts (pN ts)).2.place,.int .i64 (vU ts (pN ts)).2.code]))∨
  (c=0∧(vU ts (pN ts)).2.code=0∧∃ L:rO,(∀ w'':World,(∀ b,w.heap.size≤b→b<w'.heap.size→w''.heap[b]? = w'.heap[b]?)→w'.heap.size≤w''.heap.size→uV w'' L (vU ts (pN ts)).2.ns)∧(∀ x∈(vU ts (pN ts)).2.ns,x.names.length≤1000000)∧e=.returned (.tuple #[.agg #[.slice L.p (vU ts (pN ts)).2.ns.length L.cap,.int .i64 (vU ts (pN ts)).1],.int .i64 0,.int .i64 0])))
def qBb(w:World)(r:Nat):Prop:=w.heap[r]? = some (.cells #[.slice none 0 0,.int .i64 0] 94 (0,0))
theorem qBb.cells{w:World}{r:Nat}(h:qBb w r):w.cell? ⟨r,0,none⟩=some (.slice none 0 0)∧w.cell? ⟨r,1,none⟩=some (.int .i64 0):=by
 refine⟨?_,?_⟩ <;> (rw[cell_of_block h];rfl)
theorem qBb.free{w:World}{r:Nat}(h:qBb w r)(i:Nat):w.frozen? ⟨r,i,none⟩=false:=unfrozen_of_block h i
theorem qBb.same{w w':World}{r:Nat}(h:qBb w r)(hb:w'.heap[r]? = w.heap[r]?):qBb w' r:=hb.trans h
theorem qBb.lt{w:World}{r:Nat}(h:qBb w r):r<w.heap.size:=(Array.getElem?_eq_some_iff.1 h).1
theorem gV{B C:Nat}{a b:World}(h:Below B a b)(hc:C≤B):Below C a b:=⟨h.os,h.tape,h.output,h.size,fun k hk=>h.block k (by omega)⟩
end
section
open Go.RowKit Go.Joins
attribute [local irreducible] run qK iG xK qJ jN jZ jS u9 kA yL qU sF
theorem qFg(t:ByteArray)(w:World)(hs:t.size≤65536):Calls Tryz.prog 53 #[.string t] w (p5 t w):=by
 have HL:=qC (qF0 t (w.alloc (.cells #[.slice none 0 0,.int .i64 0] 94)) hs)
 have HR0:Hid (qBb (w.alloc (.cells #[.slice none 0 0,.int .i64 0] 94)) w.heap.size):=qC (heap_alloc_new w _)
 have dP:=qC (qD w (.cells #[.slice none 0 0,.int .i64 0] 94))
 go_enter Tryz.func53,Tryz.ntmps53
 go_wp2_with fail
 refine(qA HL).mono ?_
 rintro e w1 ⟨lv,ts,p,c,rfl,qQ0,qHM,jD⟩
 clear HL
 have y8:=qC (qE (qA dP) jD)
 have hR1:qBb w1 w.heap.size:=(qA HR0).same (jD.block _ (qA HR0).lt)
 have HR1:=qC hR1
 have HLX:=qC qQ0
 have hw1:w.heap.size<w1.heap.size:=hR1.lt
 obtain⟨lp,qDa,hlv,cL⟩:=qHM.toks
 have jF:∀ a,lp=some a→a.block<w1.heap.size:=fun a ha=>qHM.own_lt _ (by rw[hlv,ha];rfl)
 subst hlv
 by_cases hc:c=0
 ·subst hc
  have qEC:=(xS.good qQ0 (Nat.zero_le _) (sX.zero 0))
  have hL:sX ts t.data.toList.length:=by
   rcases qEC with h | h
   ·exact h.2.2
   ·exact absurd rfl h.1
  have HTS:Hid (TS ts):=qC (TS.of_lexed hL (by rw[jI];omega))
  have hf3:=(qA HTS).few
  have qRM:(w1.alloc (.cells #[] 128)).ownsRow w1.heap.size 128 5 (.slice (some ⟨w1.heap.size,0,none⟩) 0 0) 0 []:=by
   have:=World.ownsRow_lit (base:=w1.heap.size) (e:=128) (size:=5) w1 #[] 0 (Nat.le_refl _) (by decide) (by simp)
   simpa using this
  have hPA:zD ((w1.alloc (.cells #[] 128)).alloc (.cells #[.slice lp ts.length qDa,.int .i64 0,.slice (some ⟨w1.heap.size,0,none⟩) 0 0,.int .i64 0,.int .i64 0,.int .i64 0] 124)) (w1.heap.size+1) lp ⟨qDa,fun _=>False,w1.heap.size⟩ ts (.slice (some ⟨w1.heap.size,0,none⟩) 0 0) ⟨0,[],0,0,0⟩:=by
   refine⟨?_,cL.later (qG (qD _ _)),jF,by show w1.heap.size≤w1.heap.size+1;omega,⟨[],rfl,jJ qRM fun j hj=>Below.heap_alloc _ _ _ (by have:w1.heap.size=j:=Option.some.inj hj;simp;omega),fun j hj=>(by have:w1.heap.size=j:=Option.some.inj hj;omega),fun c hc=>(by cases hc),fun j hj h=>h,fun c hc=>(by cases hc)⟩,fun j hj=>hj.elim,Nat.zero_le _⟩
   have:=heap_alloc_new (w1.alloc (.cells #[] 128)) (.cells #[.slice lp ts.length qDa,.int .i64 0,.slice (some ⟨w1.heap.size,0,none⟩) 0 0,.int .i64 0,.int .i64 0,.int .i64 0] 124)
   simpa using this
  have hs2:((w1.alloc (.cells #[] 128)).alloc (.cells #[.slice lp ts.length qDa,.int .i64 0,.slice (some ⟨w1.heap.size,0,none⟩) 0 0,.int .i64 0,.int .i64 0,.int .i64 0] 124)).heap.size=w1.heap.size+2:=by simp
  have r6:=qC (hPA.fence (.cells #[] 3) 0 0)
  have xJ:Hid (qR (((w1.alloc (.cells #[] 128)).alloc (.cells #[.slice lp ts.length qDa,.int .i64 0,.slice (some ⟨w1.heap.size,0,none⟩) 0 0,.int .i64 0,.int .i64 0,.int .i64 0] 124)).alloc (.cells #[] 3)) (w1.heap.size+1+1) (.slice (some ⟨w1.heap.size+2,0,none⟩) 0 0) []):=qC (by
   have:=qR.lit ((w1.alloc (.cells #[] 128)).alloc (.cells #[.slice lp ts.length qDa,.int .i64 0,.slice (some ⟨w1.heap.size,0,none⟩) 0 0,.int .i64 0,.int .i64 0,.int .i64 0] 124)) (w1.heap.size+1+1) [] (by simp) (by decide)
   simpa using this)
  rw[hs2]at r6
  have uF:=qC (qG (o:=.cells #[.slice lp ts.length qDa,.int .i64 0,.slice (some ⟨w1.heap.size,0,none⟩) 0 0,.int .i64 0,.int .i64 0,.int .i64 0] 124) (qG (o:=.cells #[] 128) (qA y8)))
  have HRT:Hid (qBb ((w1.alloc (.cells #[] 128)).alloc (.cells #[.slice lp ts.length qDa,.int .i64 0,.slice (some ⟨w1.heap.size,0,none⟩) 0 0,.int .i64 0,.int .i64 0,.int .i64 0] 124)) w.heap.size):=qC (hR1.same ((qG (qD w1 (.cells #[] 128))).block _ hw1))
  have qSL:Hid (((w1.alloc (.cells #[] 128)).alloc (.cells #[.slice lp ts.length qDa,.int .i64 0,.slice (some ⟨w1.heap.size,0,none⟩) 0 0,.int .i64 0,.int .i64 0,.int .i64 0] 124)).heap.size=w1.heap.size+2):=qC (by simp)
  generalize hlc:(⟨qDa,fun _=>False,w1.heap.size⟩:PX)=lc at r6
  have HLC:Hid (w1.heap.size=lc.b):=qC (by rw[←hlc])
  generalize ho:run ts (pN ts) (.topL []) ⟨0,[],0,0,0⟩=o
  have HE:Hid (vU ts (pN ts)=jZ ts ⟨18,0,em,[],o.ks⟩ o.s):=qC (by unfold vU;rw[ho])
  have HO:=qC ho
  clear hPA hs2 qRM cL jF qHM jD qEC hL hR1 HR1 y8 HR0 dP qQ0 hlc ho
  go_wp2
  generalize ((w1.alloc (.cells #[] 128)).alloc (.cells #[.slice lp ts.length qDa,.int .i64 0,.slice (some ⟨w1.heap.size,0,none⟩) 0 0,.int .i64 0,.int .i64 0,.int .i64 0] 124))=w2 at r6 xJ uF HRT qSL ⊢
  have hsR:Hid (w.heap.size<w2.heap.size∧w.heap.size≠w1.heap.size+1∧(Value.slice (some ⟨w1.heap.size,0,none⟩) 0 0).ownBlock≠some w.heap.size):=qC ⟨(qA HRT).lt,by omega,fun e=>by have:w1.heap.size=w.heap.size:=Option.some.inj e;omega⟩
  have HBK:Hid (∀ v' w',PK (w1.heap.size+1) (.slice (some ⟨w1.heap.size,0,none⟩) 0 0) v' w2 w'→Below w1.heap.size w2 w'):=qC (fun v' w' h=>h.below (by omega) (by rw[qA qSL];omega) (fun j hj=>by have:w1.heap.size=j:=Option.some.inj hj;omega))
  go_loopg [9] (pN ts) (fun gn kv wx=>∃ (ks:List Int) (s':PS) (v':Value),gn≤pN ts∧Hid (zH ts (.topL ks) s'≤gn)∧Hid (qR wx (w1.heap.size+1+1) kv ks)∧Hid (zD wx (w1.heap.size+1) lp (lc.on kv) ts v' s')∧Hid (PK (w1.heap.size+1) (.slice (some ⟨w1.heap.size,0,none⟩) 0 0) v' w2 wx)∧Hid (qM s')∧Hid (s'.dp≤20)∧Hid (KL ks s')∧Hid (∀ j,kv.ownBlock=some j→w2.heap.size≤j)∧Hid (run ts gn (.topL ks) s'=o))
  case atStart=>exact⟨[],⟨0,[],0,0,0⟩,_,Nat.le_refl _,qC (by unfold zH pN;simp[lev]),xJ,r6,qC ((PK.refl _ _ _).alloc _),qC (by show(0:Nat)≤200;omega),qC (by show(0:Nat)≤20;omega),qC (KL.nil _),qC (fun j hj=>by have:w1.heap.size+2=j:=Option.some.inj hj;rw[qA qSL];omega),HO⟩
  case round=>
   obtain⟨ks,s',v',hgn,HN,HI,HP,HK,HF,HD,HKL,HW,HRn⟩:=hrel
   obtain⟨k,hk⟩:=pG (qA HN)
   obtain⟨ka,kc,sJ⟩:=(qA HI).slice
   subst sJ
   have yY:=qA HRn
   rw[hk,run]at yY
   have uY:=(qA HP).hat
   have hlen:ks.length≤301:=by have:=(qA HKL).1;omega
   obtain⟨c0,c1,_,_,c4,_⟩:=(qA HP).cells
   have hgw:=(qA HP).lt
   have HT:=qC (fun w4 (rQ:zD w4 (w1.heap.size+1) lp (lc.on (.slice ka ks.length kc)) ts v' s')=>jC (qA HTS) rQ (⟨#[102,117,110,99,116,105,111,110]⟩:ByteArray))
   unfold jA at HT
   rw[show(⟨#[102,117,110,99,116,105,111,110]⟩:ByteArray).data.toList=[102,117,110,99,116,105,111,110] from rfl]at HT
   have fD:=qC (fun (s2:PS) (v2:Value) (w4:World) (vM:zD w4 (w1.heap.size+1) lp (lc.on (.slice ka ks.length kc)) ts v2 s2) (nI:qM s2) (hi2:qR w4 (w1.heap.size+1+1) (.slice ka ks.length kc) ks)=>qIg (qA HTS) vM.drop nI ⟨18,0,em,[],ks⟩ (.slice none 0 0) (.slice ka ks.length kc) 0 (w1.heap.size+1+1) (jY.nil _ _) hi2 (by simp) (by simp;omega))
   clear r6 xJ HO HRn
   by_cases hc:s'.code=0
   ·rw[hc]at c4
    by_cases hl:s'.at'<ts.length
    ·have hli:(s'.at':Int)<(ts.length:Int):=by omega
     rw[if_pos ⟨hc,hl⟩]at yY
     cases hi:kA ts s' [102,117,110,99,116,105,111,110]with
     | true=>
      rw[if_pos hi]at yY
      have ht:yL ts s' [102,117,110,99,116,105,111,110]=true:=by unfold yL;rw[hc,hi];rfl
      rw[ht,if_pos rfl]at HT
      clear hi ht hl
      have gO:Hid (zH ts .func (qK s')≤k):=qC (j3 (f':=.func) (hk▸qA HN) uY (qI.refl s').adv (uP.adv (qI.refl s')) hc)
      have wI:Hid (zH ts (.topL (ks++[(run ts k .func (qK s')).r])) (run ts k .func (qK s')).s≤k):=qC (j3 (f':=.topL _) (hk▸qA HN) uY (j5 ts k .func s' (qK s') (qI.refl s').adv) (yM ts k .func s' (qK s') rfl (qI.refl s').adv) hc)
      have mZ:=qC (qM.run (ts:=ts) (n:=k) (f:=.func) (s:=(qK s')) ((qA HF).same (qN s')))
      have fF:Hid ((run ts k .func (qK s')).s.dp≤20):=qC (by rw[zC];exact(by rw[qZ];exact qA HD))
      have rY:=qC ((qA HKL).step (r:=(run ts k .func (qK s')).r) hc (j5 ts k .func s' (qK s') (qI.refl s').adv) (yM ts k .func s' (qK s') rfl (qI.refl s').adv))
      have yJ:=qC (fun w2 vM=>(qRN (qA HTS) k k (Nat.le_refl _)).func (w1.heap.size+1) lp (lc.on (.slice ka ks.length kc)) v' (qK s') w2 vM ((qA HF).same (qN s')) (by rw[qZ];exact qA HD) (qA gO))
      generalize run ts k .func (qK s')=o2 at yJ mZ fF wI rY yY
      have fI:=qC yY
      clear gO HN yY hc uY HF HD HKL fD HE
      go_wp2_with fail
      go_quiet (fail)
      have HT2:=qC (qA HT _ ((qA HP).later (below_drewN (Below.refl _ _) nq)))
      have r6:=qC ((qA HP).later (below_drewN (Below.refl _ _) nq))
      have xJ:=qC ((qA HI).later (below_drewN (Below.refl _ _) nq))
      have yV:=qC ((qA HK).then_below (below_drewN (Below.refl _ _) nq))
      clear HT HP HI HK c0 c1 c4
      go_wp2_with fail
      refine(qA HT2).mono ?_
      rintro e w4 ⟨rfl,rQ,gC⟩
      have tL:=qC (qA yJ w4 rQ)
      have n7:=qC rQ
      have HI4:=qC ((qA xJ).byPK (qA r6) gC)
      have fG:=qC ((qA yV).trans gC)
      clear HT2 rQ gC yJ r6 xJ yV
      go_wp2_with fail
      refine(qA tL).mono ?_
      rintro e w5 ⟨rfl,v5,wT,hk5⟩
      have HI5:=qC (((qA HI4).byPK (qA n7) hk5).alloc (.cells #[.int .i64 o2.r] 3))
      have HP5:=qC (wT.alloc (.cells #[.int .i64 o2.r] 3))
      have tV:=qC (((qA fG).trans hk5).alloc (.cells #[.int .i64 o2.r] 3))
      have hg5:=wT.lt
      clear tL fG wT hk5 HI4 n7
      go_wp2_with (at_builtin;refine bE _ rfl _ _ rfl (w1.heap.size+1+1) w5.heap.size _ ks o2.r rfl (qA HI5) rfl (by simp) (by simp;omega) (by omega) ?c0)
      case c0=>
       intro kv6 w6 hI6 hG6
       have HP6:=qC ((qA HP5).app hG6 (fun j hj=>hI6.own_lt j hj))
       have HK6:=qC ((qA tV).row hG6 (qA HW))
       have HW6:Hid (∀ j,kv6.ownBlock=some j→w2.heap.size≤j):=qC (fun j hj=>by
        rcases hG6.lies j hj with e | e
        ·exact qA HW j e
        ·have:=(qA tV).size;omega)
       have HI6:=qC hI6
       clear hI6 hG6 HP5 tV HI5
       go_wp2
       go_roundg k
       case rel=>exact⟨ks++[o2.r],o2.s,v5,by omega,wI,HI6,HP6,HK6,mZ,fF,rY,HW6,fI⟩
       case measure=>omega
     | false=>
      rw[if_neg (nt hi)]at yY
      have ht:yL ts s' [102,117,110,99,116,105,111,110]=false:=by unfold yL;rw[hi];simp
      rw[ht,if_neg (by simp)]at HT
      clear hi ht hl
      have gO:Hid (zH ts .stmt s'≤k):=qC (zZ (f:=.topL ks) (f':=.stmt) (hk▸qA HN) uY (qI.refl s') (fun _ _=>.inl (show(15:Nat)<17 by decide)) (fun c=>absurd hc c))
      have wI:Hid (zH ts (.topL (ks++[(run ts k .stmt s').r])) (run ts k .stmt s').s≤k):=qC (j3 (f':=.topL _) (hk▸qA HN) uY (j5 ts k .stmt s' s' (qI.refl s')) (yM ts k .stmt s' s' rfl (qI.refl s')) hc)
      have mZ:=qC (qM.run (ts:=ts) (n:=k) (f:=.stmt) (s:=s') (qA HF))
      have fF:Hid ((run ts k .stmt s').s.dp≤20):=qC (by rw[zC];exact(qA HD))
      have rY:=qC ((qA HKL).step (r:=(run ts k .stmt s').r) hc (j5 ts k .stmt s' s' (qI.refl s')) (yM ts k .stmt s' s' rfl (qI.refl s')))
      have yJ:=qC (fun w2 vM=>(qRN (qA HTS) k k (Nat.le_refl _)).stmt (w1.heap.size+1) lp (lc.on (.slice ka ks.length kc)) v' s' w2 vM (qA HF) (qA HD) (qA gO))
      generalize run ts k .stmt s'=o2 at yJ mZ fF wI rY yY
      have fI:=qC yY
      clear gO HN yY hc uY HF HD HKL fD HE
      go_wp2_with fail
      go_quiet (fail)
      have HT2:=qC (qA HT _ ((qA HP).later (below_drewN (Below.refl _ _) nq)))
      have r6:=qC ((qA HP).later (below_drewN (Below.refl _ _) nq))
      have xJ:=qC ((qA HI).later (below_drewN (Below.refl _ _) nq))
      have yV:=qC ((qA HK).then_below (below_drewN (Below.refl _ _) nq))
      clear HT HP HI HK c0 c1 c4
      go_wp2_with fail
      refine(qA HT2).mono ?_
      rintro e w4 ⟨rfl,rQ,gC⟩
      have tL:=qC (qA yJ w4 rQ)
      have n7:=qC rQ
      have HI4:=qC ((qA xJ).byPK (qA r6) gC)
      have fG:=qC ((qA yV).trans gC)
      clear HT2 rQ gC yJ r6 xJ yV
      go_wp2_with fail
      refine(qA tL).mono ?_
      rintro e w5 ⟨rfl,v5,wT,hk5⟩
      have HI5:=qC (((qA HI4).byPK (qA n7) hk5).alloc (.cells #[.int .i64 o2.r] 3))
      have HP5:=qC (wT.alloc (.cells #[.int .i64 o2.r] 3))
      have tV:=qC (((qA fG).trans hk5).alloc (.cells #[.int .i64 o2.r] 3))
      have hg5:=wT.lt
      clear tL fG wT hk5 HI4 n7
      go_wp2_with (at_builtin;refine bE _ rfl _ _ rfl (w1.heap.size+1+1) w5.heap.size _ ks o2.r rfl (qA HI5) rfl (by simp) (by simp;omega) (by omega) ?c0)
      case c0=>
       intro kv6 w6 hI6 hG6
       have HP6:=qC ((qA HP5).app hG6 (fun j hj=>hI6.own_lt j hj))
       have HK6:=qC ((qA tV).row hG6 (qA HW))
       have HW6:Hid (∀ j,kv6.ownBlock=some j→w2.heap.size≤j):=qC (fun j hj=>by
        rcases hG6.lies j hj with e | e
        ·exact qA HW j e
        ·have:=(qA tV).size;omega)
       have HI6:=qC hI6
       clear hI6 hG6 HP5 tV HI5
       go_wp2
       go_roundg k
       case rel=>exact⟨ks++[o2.r],o2.s,v5,by omega,wI,HI6,HP6,HK6,mZ,fF,rY,HW6,fI⟩
       case measure=>omega
    ·have hli:¬(s'.at':Int)<(ts.length:Int):=by omega
     have hld:decide ((s'.at':Int)<(ts.length:Int))=false:=decide_eq_false hli
     rw[if_neg (fun h=>hl h.2)]at yY
     subst yY
     clear hk hl HT hc
     go_wp2_with fail
     go_quiet (fail)
     go_wp2_with fail
     refine(qA fD _ _ _ ((qA HP).later (below_drewN (Below.refl _ _) nq)) (qA HF) ((qA HI).later (below_drewN (Below.refl _ _) nq))).mono ?_
     rintro e w5 ⟨rfl,v5,wT,hk5⟩
     have hkt:=(qA HK).trans ((PK.of_below (below_drewN (Below.refl _ _) nq)).trans hk5)
     have hR5:=(qA HRT).same (hkt.block _ (qA hsR).1 (qA hsR).2.1 (qA hsR).2.2)
     have lO:=qC ((qA uF).trans (gV (qA HBK _ _ hkt) (by omega)))
     generalize jZ ts ⟨18,0,em,[],ks⟩ s'=q at wT HE
     obtain⟨y0,y1⟩:=hR5.cells
     have f0:=hR5.free 0
     have f1:=hR5.free 1
     obtain⟨a5,k5,hv5⟩:=wT.slice
     subst hv5
     obtain⟨x0,x1,x2,x3,x4,x5⟩:=wT.cells
     have hg5:=wT.lt
     have qX5:=hR5.lt
     have HP5:=qC wT
     clear wT hk5 hkt hR5 fD HP HK HI HF c0 c1 c4
     by_cases hq:q.2.code=0
     ·rw[hq]at x4
      have HQ:=qC hq
      have qJY:Hid (∀ w6,(∀ b,w1.heap.size≤b→b<w5.heap.size→w6.heap[b]? = w5.heap[b]?)→w5.heap.size≤w6.heap.size→Below w.heap.size w w6→p5 t w (.returned (.tuple #[.agg #[.slice a5 q.2.ns.length k5,.int .i64 q.1],.int .i64 0,.int .i64 0])) w6):=qC (fun w6 h1 h2 h3=>by
       obtain⟨cs,hr⟩:=(qA HP5).row
       have hL3:∀ x∈q.2.ns,x.names.length≤1000000:=fun x hx=>by
        rw[←hr.map]at hx
        obtain⟨c,hc,rfl⟩:=List.mem_map.1 hx
        exact hr.few c hc
       refine⟨h3,ts,p,0,qA HLX,.inr (.inr ⟨rfl,?_,qB3 a5 k5 cs,?_,?_,?_⟩)⟩
       ·rw[qA HE];exact qA HQ
       ·rw[qA HE];exact fun w7 g1 g2=>(hr.apart (w':=w7) (fun b hb gL=>by rw[←qA HLC]at hb;rw[g1 b (by omega) (by omega)];exact h1 b hb gL) (by omega) (qA HP5).bg).nodes_at rfl
       ·rw[qA HE];exact hL3
       ·rw[qA HE];rfl)
      clear HQ hq HP5 HE
      go_wp2
      refine bodyPost_ret (v:=.tuple #[.agg #[.slice a5 q.2.ns.length k5,.int .i64 q.1],.int .i64 0,.int .i64 0]) (by simp[results,Tryz.results53,go_sem, *]) rfl (qA qJY _ (fun b hb _=>?_) ?_ ?_)
      ·rw[Below.heap_setCell _ _ _ _ (by show b≠w.heap.size;omega),Below.heap_setCell _ _ _ _ (by show b≠w.heap.size;omega)]
      ·simp
      ·exact jE (jE (qA lO) (Nat.le_refl _)) (Nat.le_refl _)
     ·have e9:(q.2.code != 0)=true:=by simp[hq]
      have qJY:Hid (∀ w6,Below w.heap.size w w6→p5 t w (.returned (.tuple #[.agg #[.slice none 0 0,.int .i64 0],.int .i64 q.2.place,.int .i64 q.2.code])) w6):=qC (fun w6 h3=>⟨h3,ts,p,0,qA HLX,.inr (.inl ⟨rfl,by rw[qA HE];exact hq,by rw[qA HE]⟩)⟩)
      clear hq HP5 HE
      go_wp2
      go_region
      all_goals go_wp2
      all_goals exact bodyPost_ret (v:=.tuple #[.agg #[.slice none 0 0,.int .i64 0],.int .i64 q.2.place,.int .i64 q.2.code]) (by simp[results,Tryz.results53,go_sem, *]) rfl (qA qJY _ (by repeat (first | exact qA lO | refine qF ?_ | refine jE ?_ (Nat.le_refl _))))
   ·have e0:(s'.code == 0)=false:=beq_eq_false_iff_ne.2 hc
    rw[if_neg (fun h=>hc h.1)]at yY
    subst yY
    clear hk HT hc
    go_wp2_with fail
    go_quiet (fail)
    go_wp2_with fail
    refine(qA fD _ _ _ ((qA HP).later (below_drewN (Below.refl _ _) nq)) (qA HF) ((qA HI).later (below_drewN (Below.refl _ _) nq))).mono ?_
    rintro e w5 ⟨rfl,v5,wT,hk5⟩
    have hkt:=(qA HK).trans ((PK.of_below (below_drewN (Below.refl _ _) nq)).trans hk5)
    have hR5:=(qA HRT).same (hkt.block _ (qA hsR).1 (qA hsR).2.1 (qA hsR).2.2)
    have lO:=qC ((qA uF).trans (gV (qA HBK _ _ hkt) (by omega)))
    generalize jZ ts ⟨18,0,em,[],ks⟩ s'=q at wT HE
    obtain⟨y0,y1⟩:=hR5.cells
    have f0:=hR5.free 0
    have f1:=hR5.free 1
    obtain⟨a5,k5,hv5⟩:=wT.slice
    subst hv5
    obtain⟨x0,x1,x2,x3,x4,x5⟩:=wT.cells
    have hg5:=wT.lt
    have qX5:=hR5.lt
    have HP5:=qC wT
    clear wT hk5 hkt hR5 fD HP HK HI HF c0 c1 c4
    by_cases hq:q.2.code=0
    ·rw[hq]at x4
     have HQ:=qC hq
     have qJY:Hid (∀ w6,(∀ b,w1.heap.size≤b→b<w5.heap.size→w6.heap[b]? = w5.heap[b]?)→w5.heap.size≤w6.heap.size→Below w.heap.size w w6→p5 t w (.returned (.tuple #[.agg #[.slice a5 q.2.ns.length k5,.int .i64 q.1],.int .i64 0,.int .i64 0])) w6):=qC (fun w6 h1 h2 h3=>by
      obtain⟨cs,hr⟩:=(qA HP5).row
      have hL3:∀ x∈q.2.ns,x.names.length≤1000000:=fun x hx=>by
       rw[←hr.map]at hx
       obtain⟨c,hc,rfl⟩:=List.mem_map.1 hx
       exact hr.few c hc
      refine⟨h3,ts,p,0,qA HLX,.inr (.inr ⟨rfl,?_,qB3 a5 k5 cs,?_,?_,?_⟩)⟩
      ·rw[qA HE];exact qA HQ
      ·rw[qA HE];exact fun w7 g1 g2=>(hr.apart (w':=w7) (fun b hb gL=>by rw[←qA HLC]at hb;rw[g1 b (by omega) (by omega)];exact h1 b hb gL) (by omega) (qA HP5).bg).nodes_at rfl
      ·rw[qA HE];exact hL3
      ·rw[qA HE];rfl)
     clear HQ hq HP5 HE
     go_wp2
     refine bodyPost_ret (v:=.tuple #[.agg #[.slice a5 q.2.ns.length k5,.int .i64 q.1],.int .i64 0,.int .i64 0]) (by simp[results,Tryz.results53,go_sem, *]) rfl (qA qJY _ (fun b hb _=>?_) ?_ ?_)
     ·rw[Below.heap_setCell _ _ _ _ (by show b≠w.heap.size;omega),Below.heap_setCell _ _ _ _ (by show b≠w.heap.size;omega)]
     ·simp
     ·exact jE (jE (qA lO) (Nat.le_refl _)) (Nat.le_refl _)
    ·have e9:(q.2.code != 0)=true:=by simp[hq]
     have qJY:Hid (∀ w6,Below w.heap.size w w6→p5 t w (.returned (.tuple #[.agg #[.slice none 0 0,.int .i64 0],.int .i64 q.2.place,.int .i64 q.2.code])) w6):=qC (fun w6 h3=>⟨h3,ts,p,0,qA HLX,.inr (.inl ⟨rfl,by rw[qA HE];exact hq,by rw[qA HE]⟩)⟩)
     clear hq HP5 HE
     go_wp2
     go_region
     all_goals go_wp2
     all_goals exact bodyPost_ret (v:=.tuple #[.agg #[.slice none 0 0,.int .i64 0],.int .i64 q.2.place,.int .i64 q.2.code]) (by simp[results,Tryz.results53,go_sem, *]) rfl (qA qJY _ (by repeat (first | exact qA lO | refine qF ?_ | refine jE ?_ (Nat.le_refl _))))
 ·have e0:(c != 0)=true:=by simp[hc]
  obtain⟨y0,y1⟩:=hR1.cells
  have f0:=hR1.free 0
  have f1:=hR1.free 1
  have HC:=qC hc
  clear cL jF hR1 qHM jD qQ0 hc
  go_wp2
  refine bodyPost_ret (v:=.tuple #[.agg #[.slice none 0 0,.int .i64 0],.int .i64 (p:Int),.int .i64 c]) (by simp[results,Tryz.results53,go_sem, *]) rfl ⟨jE (jE (qA y8) (Nat.le_refl _)) (Nat.le_refl _),ts,p,c,qA HLX,.inl ⟨qA HC,rfl⟩⟩
end
end Go.Proofs.YtbgkfaclfnkloaaGreatDoor
