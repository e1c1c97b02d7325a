import Derived.Test.YtbgkfaclfnkloaaGreatDoorG41
import Derived.Test.YtbgkfaclfnkloaaGreatDoorG08
import Derived.Test.YtbgkfaclfnkloaaGreatDoorG31
import Derived.Test.YtbgkfaclfnkloaaGreatDoorG33
namespace Go.Proofs.YtbgkfaclfnkloaaGreatDoor
set_option linter.all false
set_option maxHeartbeats 4000000
set_option maxRecDepth 100000
section
open Go.RowKit Go.Joins
theorem Vis.len_ge{ns:List TN}{ks:List Int}{l:List Nat}{d:Nat}(h:Vis ns ks l d):ks.length≤l.length:=by
 induction h with
 | nil=>simp
 | cons j x ks l1 l2 d1 d2 h0 hx h1 h2 i1 i2=>simp;omega
theorem rB{t:ByteArray}(h:vE t=true):t.size≤100:=by
 have:=qJ1 h
 rw[jI]at this;exact this
theorem qHg{x:TN}(h:tB x=true):x.t.size≤100∧∀ s∈x.names,s.size≤100:=by
 have hop:∀ l:List UInt8,opB l=true→l.length≤100:=fun l h=>by
  unfold opB at h
  simp at h
  rcases h with (((((h | h) | h) | h) | h) | h) | h <;> rw[h] <;> decide
 have nn:x.names.length=0→∀ s∈x.names,s.size≤100:=fun h0 s hs=>by
  rw[List.length_eq_zero_iff.1 h0]at hs;cases hs
 unfold tB at h
 split at h
 ·simp only[Bool.and_eq_true,decide_eq_true_eq]at h;exact⟨by omega,nn h.2⟩
 split at h
 ·simp only[Bool.and_eq_true,decide_eq_true_eq]at h;exact⟨by omega,nn h.2⟩
 split at h
 ·cases h
 rename_i hz
 have hn:x.k≠20→x.names.length=0:=fun yE=>by
  by_cases h0:x.names.length=0
  ·exact h0
  ·exact absurd (.inr ⟨yE,by omega⟩) hz
 split at h
 ·refine⟨?_,nn (hn (by omega))⟩
  unfold kB at h
  simp at h
  have:=h.1
  have e:=jI x.t
  simp at e
  omega
 split at h
 ·refine⟨?_,nn (hn (by omega))⟩
  have e:=jI x.t
  rw[Bool.or_eq_true]at h
  rcases h with h | h <;> (rw[eq_of_beq h]at e;simp at e;omega)
 split at h
 ·refine⟨?_,nn (hn (by omega))⟩
  have:=hop _ h
  rw[jI]at this;exact this
 split at h
 ·rw[Bool.and_eq_true]at h
  exact⟨rB h.2,fun s hs=>rB (List.all_eq_true.1 h.1 s hs)⟩
 ·rename_i oA
  simp only[Bool.and_eq_true,decide_eq_true_eq]at h
  have yE:x.k≠20:=by omega
  exact⟨by omega,nn (hn yE)⟩
theorem qND{ns:List TN}{root:Int}(h:gI ns root)(hn:∀ x∈ns,x.names.length≤1000000):sW ns:=by
 obtain⟨l,d,h1,h2,h3,h4⟩:=h
 refine⟨by omega,fun x hx=>?_⟩
 obtain⟨i,hi,rfl⟩:=List.getElem_of_mem hx
 obtain⟨n,uX,hn2,_⟩:=h2.2.2.2 i (h4 i hi)
 rw[List.getElem?_eq_getElem hi]at uX
 obtain rfl:=Option.some.inj uX
 have hp:tB ns[i]=true:=by unfold yQ at hn2;rw[Bool.and_eq_true]at hn2;exact hn2.2
 obtain⟨p1,p2⟩:=qHg hp
 obtain⟨l',d',hv,_,_,hl'⟩:=h2.1.sub i (h4 i hi)
 obtain⟨y,l1,l2,d1,d2,_,hy,v1,v2,e1,_⟩:=hv.inv
 rw[Int.toNat_natCast,List.getElem?_eq_getElem hi]at hy
 obtain rfl:=Option.some.inj hy
 have hk:=v1.len_ge
 have hll:=qB7 ns.length l h2.2.1 (h2.1.lt)
 have:l'.length=1+(l1.length+l2.length):=by rw[e1];simp;omega
 exact⟨by omega,by have:=hn _ hx;omega,by omega,fun s hs=>by have:=p2 s hs;omega⟩
theorem qFe(t:ByteArray)(w:World)(hs:t.size≤65536):Calls Tryz.prog 53 #[.string t] w fun e w'=>∃ (a:Option Addr) (n cp:Nat) (r p c:Int),e=.returned (.tuple #[.agg #[.slice a n cp,.int .i64 r],.int .i64 p,.int .i64 c])∧p5 t w e w':=
 (qFg t w hs).mono fun e w' h=>by
  have h0:=h
  obtain⟨_,ts,p',c',hl,h⟩:=h
  rcases h with ⟨h1,h2⟩ | ⟨h1,h2,h3⟩ | ⟨h1,h2,L,h3,h4,h5⟩
  ·exact⟨_,_,_,_,_,_,h2,h0⟩
  ·exact⟨_,_,_,_,_,_,h3,h0⟩
  ·exact⟨_,_,_,_,_,_,h5,h0⟩
structure aQ(ns:List TN)(r:Nat)(m:TN):Prop where
 hm:ns[r]? = some m
 seg:y7 ns m.kids 0 r
 lt:r<ns.length
 k:m.k=18
 t:m.t=em
 kids:∀ j∈m.kids,toB (kd ns j)=true
 tr:Tr ns m.kids 20
 few:ns.length≤200
theorem qHn{ts:List V3}(fE:∀ v∈ts,wL v.k v.t.data.toList=true)(n:Nat)(h0:(vU ts n).2.code=0):∃ (r:Nat) (m:TN),(vU ts n).1=(r:Int)∧aQ (vU ts n).2.ns r m:=by
 unfold vU at h0 ⊢
 have c1:=kV h0
 have hA:sO toB 0 _ _:=qFi fE n (.topL []) _ c1 0 (sO.nil (s:=⟨0,[],0,0,0⟩))
 have hTr:Tr _ _ _:=qRQ fE n (.topL []) ⟨0,[],0,0,0⟩ c1 (.nil _)
 have hf:qM (run ts n (.topL []) ⟨0,[],0,0,0⟩).s:=qEI ts n _ _ (by show(0:Nat)≤200;omega)
 generalize run ts n (.topL []) ⟨0,[],0,0,0⟩=o at *
 have nI:qM (jZ ts ⟨18,0,em,[],o.ks⟩ o.s).2:=hf.put
 unfold qM at nI
 have hl:¬o.s.ns.length=200:=fun e=>by
  rw[jZ,if_pos e]at h0
  exact absurd h0 (pX (by decide))
 rw[jZ,if_neg hl]at nI ⊢
 have hp:o.s.ns <+: o.s.ns++[(⟨18,0,em,[],o.ks⟩:TN)]:=List.prefix_append _ _
 refine⟨o.s.ns.length,⟨18,0,em,[],o.ks⟩,rfl,by simp,hA.1.mono hp,by simp,rfl,rfl,fun j hj=>?_,hTr.mono hp,nI⟩
 have h2:=hA.1.kd hp j hj
 have h3:=hA.2 j hj
 rw[←h2]at h3
 exact h3
theorem aQ.treeS{ns:List TN}{r:Nat}{m:TN}(h:aQ ns r m)(hn:∀ x∈ns,x.names.length≤1000000):qAE ns (r:Int):=
 ⟨⟨r,m,rfl,h.hm,h.seg,h.lt,h.k,h.t,h.kids⟩,fun x hx=>by have:=hn x hx;omega,h.few⟩
theorem aQ.good{ns:List TN}{r:Nat}{m:TN}(h:aQ ns r m)(hc:(gW ns (r:Int)).1=0):dW (rJ ns (r:Int)):=qKZ h.hm h.seg h.kids h.tr h.t h.few hc
def qR7(w:World)(e:Ending)(w':World):Prop:=∃ l,dW l∧(∀ f∈l,f.code.length≤400)∧qQ4 l w e w'
theorem qEQ(ns:List TN)(r:Nat)(m:TN)(L:rO)(w:World)(hN:uV w L ns)(tY:sW ns)(sS:gI ns (r:Int))(hP:aQ ns r m)(hn:∀ x∈ns,x.names.length≤1000000) :
  Calls Tryz.prog 54 #[.agg #[.slice L.p ns.length L.cap,.int .i64 (r:Int)]] w fun e w'=>qR7 w e w'∨(qBP w e w'∧((gW ns (r:Int)).1≠0∨¬ ∀ f∈rJ ns (r:Int),f.code.length≤400)):=by
 by_cases hc:(gW ns (r:Int)).1=0
 ·refine(qBi ns r L w hN tY sS (hP.treeS hn) hc).mono fun e w' h=>?_
  by_cases h4:∀ f∈rJ ns (r:Int),f.code.length≤400
  ·rcases h with ⟨h1,h2⟩ | h
   ·exact .inl ⟨_,hP.good hc,h1,h2⟩
   ·exact absurd h4 h.1
  ·rcases h with ⟨h1,h2⟩ | h
   ·exact absurd h1 h4
   ·exact .inr ⟨h.2,.inr h4⟩
 ·exact(qB9 ns r L w hN tY sS (hP.treeS hn) hc).mono fun e w' h=>.inr ⟨h,.inl hc⟩
def qUb(ts:List V3)(c:Int):Prop:=c≠0∨(vU ts (pN ts)).2.code≠0∨(gW (vU ts (pN ts)).2.ns (vU ts (pN ts)).1).1≠0∨¬ ∀ f∈rJ (vU ts (pN ts)).2.ns (vU ts (pN ts)).1,f.code.length≤400
def qJ4(t:ByteArray):Prop:=∃ ts p c,xS t.data.toList 0 [] (ts,p,c)∧qUb ts c
theorem qNy{t:ByteArray}{w w':World}{a:Option Addr}{n cp:Nat}{r p:Int}(h:p5 t w (.returned (.tuple #[.agg #[.slice a n cp,.int .i64 r],.int .i64 p,.int .i64 0])) w'):∃ (ts:List V3) (p':Nat) (L:rO) (r':Nat) (m:TN),xS t.data.toList 0 [] (ts,p',0)∧a=L.p∧n=(vU ts (pN ts)).2.ns.length∧cp=L.cap∧r=(r':Int)∧(vU ts (pN ts)).1=(r':Int)∧uV w' L (vU ts (pN ts)).2.ns∧(∀ x∈(vU ts (pN ts)).2.ns,x.names.length≤1000000)∧aQ (vU ts (pN ts)).2.ns r' m∧gI (vU ts (pN ts)).2.ns (r':Int)∧sW (vU ts (pN ts)).2.ns:=by
 obtain⟨_,ts,p',c',hl,h⟩:=h
 have hg:=xS.good hl (Nat.zero_le _) (sX.zero 0)
 rcases h with ⟨h1,h2⟩ | ⟨h1,h2,h3⟩ | ⟨h1,h2,L,h3,h4,h5⟩
 ·simp at h2
  exact absurd h2.2.2.symm h1
 ·simp at h3
  exact absurd h3.2.2.symm h2
 ·simp at h5
  obtain⟨⟨⟨e1,e2,e3⟩,e4⟩,e5⟩:=h5
  have fE:∀ v∈ts,wL v.k v.t.data.toList=true:=by
   rcases hg with h | h
   ·exact fun v hv=>(h.2.2.each v hv).1
   ·exact absurd h1 h.1
  have ht:=qIz fE (pN ts) h2
  obtain⟨r',m,er,hP⟩:=qHn fE (pN ts) h2
  subst h1
  have tY:=qND ht h4
  rw[er]at ht
  exact⟨ts,p',L,r',m,hl,e1,e2,e3,e4.trans er,er,h3 w' (fun _ _ _=>rfl) (Nat.le_refl _),h4,hP,ht,tY⟩
theorem qN5{t:ByteArray}{w w':World}{x:Value}{p c:Int}(h:p5 t w (.returned (.tuple #[x,.int .i64 p,.int .i64 c])) w')(hc:c≠0):qJ4 t:=by
 obtain⟨_,ts,p',c',hl,h⟩:=h
 refine⟨ts,p',c',hl,?_⟩
 rcases h with ⟨h1,h2⟩ | ⟨h1,h2,h3⟩ | ⟨h1,h2,L,h3,h4,h5⟩
 ·exact .inl h1
 ·exact .inr (.inl h2)
 ·simp at h5
  exact absurd h5.2.2 hc
theorem cC.out{w:World}{B b:Nat}{v:Value}{l:List (FR×Value)}(h:cC w B v l)(hb:b<B)(u:Value):cC (w.setCell ⟨b,0,none⟩ u) b v l:=
 ⟨mJ (jJ h.row fun j hj=>Below.heap_setCell w ⟨b,0,none⟩ _ j (fun e=>by have:=(World.ownsRow.lt h.row j hj).1;have e':j=b:=e;omega)) (by omega),fun p hp=>mJ (jJ (h.code p hp) fun j hj=>Below.heap_setCell w ⟨b,0,none⟩ _ j (fun e=>by have:=(World.ownsRow.lt (h.code p hp) j hj).1;have e':j=b:=e;omega)) (by omega),h.off⟩
theorem n9(t:ByteArray)(w:World)(hs:t.size≤65536) :
  Calls Tryz.prog 36 #[.string t] w fun e w'=>qR7 w e w'∨(qBP w e w'∧qJ4 t):=by
 have HPR:=qC (qFe t (w.alloc (.cells #[.slice none 0 0] 25)) hs)
 go_enter Tryz.func36,Tryz.ntmps36
 go_wp2_with fail
 refine(qA HPR).mono ?_
 rintro e w2 ⟨pa,pn,pc,r,p,c,rfl,qOY⟩
 have qY:=qOY.1
 have hR2:w2.heap[w.heap.size]? = some (.cells #[.slice none 0 0] 25 (0,0)):=(qY.block _ (by simp)).trans (heap_alloc_new w _)
 have hw2:w.heap.size<w2.heap.size:=(Array.getElem?_eq_some_iff.1 hR2).1
 have r0:w2.cell? ⟨w.heap.size,0,none⟩=some (.slice none 0 0):=(cell_of_block hR2 0).trans rfl
 have rf:=unfrozen_of_block hR2 0
 have yY:=qC hR2
 have uF:=qC (qE (qD w (.cells #[.slice none 0 0] 25)) qY)
 have HPO:=qC qOY
 clear HPR qOY qY hR2
 by_cases hc:c=0
 ·subst hc
  obtain⟨ts,p',L,r',m,hlx,e1,e2,e3,e4,e5,hN,oA,hP,sS,tY⟩:=qNy (qA HPO)
  subst e1 e2 e3 e4
  have HCM:Hid (∀ w1,Below w2.heap.size w2 w1→Calls Tryz.prog 54 #[.agg #[.slice L.p (vU ts (pN ts)).2.ns.length L.cap,.int .i64 (r':Int)]] w1 fun e w'=>qR7 w1 e w'∨(qBP w1 e w'∧qJ4 t)):=qC (fun w1 h1=>(qEQ _ r' m L w1 (hN.later h1) tY sS hP oA).mono fun e w' h=>by
   rcases h with h | ⟨h,h'⟩
   ·exact .inl h
   ·refine .inr ⟨h,ts,p',0,hlx,?_⟩
    unfold qUb
    rw[e5]
    exact .inr (.inr h'))
  generalize (vU ts (pN ts)).2.ns.length=nn at HCM ⊢
  clear hN oA hP sS tY hlx e5 HPO
  go_wp2_with fail
  refine(qA HCM _ (qD _ _)).mono ?_
  rintro e w4 h4
  rcases h4 with ⟨l,hgp,yI,v,ps,rfl,hps,rP,uU⟩ | ⟨⟨c4,hc4,rfl,uU⟩,tZ⟩
  ·have rH:Below w2.heap.size w2 w4:=qE (qD _ _) uU
   have y0:=cell_later rH r0
   have hR4:=(rH.block _ hw2).trans (qA yY)
   have yf:=unfrozen_of_block hR4 0
   have pV:=qC (qE (qA uF) rH)
   obtain⟨va,vc,hv⟩:=vB rP.row
   subst hv
   have HFS:=qC (rP.out (b:=w.heap.size) (by simp;omega) (.slice va ps.length vc))
   have HX:=qC (And.intro hgp (And.intro yI hps))
   clear rP uU rH hR4 hgp yI hps r0 rf
   go_wp2
   exact bodyPost_ret (v:=.tuple #[.agg #[.slice va ps.length vc],.int .i64 0]) (by simp[results,Tryz.results36,go_sem, *]) rfl (.inl ⟨l,(qA HX).1,(qA HX).2.1,_,ps,rfl,(qA HX).2.2,qA HFS,(qA pV).setCell (p:=⟨w.heap.size,0,none⟩) (Nat.le_refl _) _⟩)
  ·have rH:Below w2.heap.size w2 w4:=qE (qD _ _) uU
   have y0:=cell_later rH r0
   have hR4:=(rH.block _ hw2).trans (qA yY)
   have yf:=unfrozen_of_block hR4 0
   have pV:=qC (qE (qA uF) rH)
   have HX:=qC tZ
   clear uU rH hR4 tZ r0 rf
   go_wp2
   exact bodyPost_ret (v:=.tuple #[.agg #[.slice none 0 0],.int .i64 c4]) (by simp[results,Tryz.results36,go_sem, *]) rfl (.inr ⟨⟨c4,hc4,rfl,(qA pV).setCell (p:=⟨w.heap.size,0,none⟩) (Nat.le_refl _) _⟩,qA HX⟩)
 ·have HX:=qC (qN5 (qA HPO) hc)
  have jD:(c == 0)=false:=beq_eq_false_iff_ne.2 hc
  have qY:(c != 0)=true:=by simp[bne,jD]
  clear HPO
  go_wp2
  exact bodyPost_ret (v:=.tuple #[.agg #[.slice none 0 0],.int .i64 c]) (by simp[results,Tryz.results36,go_sem, *]) rfl (.inr ⟨⟨c,hc,rfl,qG ((qA uF).setCell (p:=⟨w.heap.size,0,none⟩) (Nat.le_refl _) _)⟩,qA HX⟩)
def qSd:List UInt8:=[108,101,116,32,120,32,61,32,49,59,32,119,104,105,108,101,32,40,120,32,60,32,53,41,32,123,32,120,32,61,32,120,32,43,32,49,59,32,125,32,114,101,116,117,114,110,32,120,59]
def lK:List V3:=[pS 2 0 [108,101,116],pS 1 4 [120],pS 5 6 [61],pS 3 8 [49],pS 5 9 [59],pS 2 11 [119,104,105,108,101],pS 5 17 [40],pS 1 18 [120],pS 5 20 [60],pS 3 22 [53],pS 5 23 [41],pS 5 25 [123],pS 1 27 [120],pS 5 29 [61],pS 1 31 [120],pS 5 33 [43],pS 3 35 [49],pS 5 36 [59],pS 5 38 [125],pS 2 40 [114,101,116,117,114,110],pS 1 47 [120],pS 5 48 [59]]
theorem qXp:xS qSd 0 [] (lK,0,0):=
 .tok 0 [] 108 _ 2 [108,101,116] 3 _ rfl (by decide) (by decide) (by kernel_rfl) (.blank 3 _ 32 _ _ rfl (by decide) (.tok 4 _ 120 _ 1 [120] 1 _ rfl (by decide) (by decide) (by kernel_rfl) (.blank 5 _ 32 _ _ rfl (by decide) (.tok 6 _ 61 _ 5 [61] 1 _ rfl (by decide) (by decide) (by kernel_rfl) (.blank 7 _ 32 _ _ rfl (by decide) (.tok 8 _ 49 _ 3 [49] 1 _ rfl (by decide) (by decide) (by kernel_rfl) (.tok 9 _ 59 _ 5 [59] 1 _ rfl (by decide) (by decide) (by kernel_rfl) (.blank 10 _ 32 _ _ rfl (by decide) (.tok 11 _ 119 _ 2 [119,104,105,108,101] 5 _ rfl (by decide) (by decide) (by kernel_rfl) (.blank 16 _ 32 _ _ rfl (by decide) (.tok 17 _ 40 _ 5 [40] 1 _ rfl (by decide) (by decide) (by kernel_rfl) (.tok 18 _ 120 _ 1 [120] 1 _ rfl (by decide) (by decide) (by kernel_rfl) (.blank 19 _ 32 _ _ rfl (by decide) (.tok 20 _ 60 _ 5 [60] 1 _ rfl (by decide) (by decide) (by kernel_rfl) (.blank 21 _ 32 _ _ rfl (by decide) (.tok 22 _ 53 _ 3 [53] 1 _ rfl (by decide) (by decide) (by kernel_rfl) (.tok 23 _ 41 _ 5 [41] 1 _ rfl (by decide) (by decide) (by kernel_rfl) (.blank 24 _ 32 _ _ rfl (by decide) (.tok 25 _ 123 _ 5 [123] 1 _ rfl (by decide) (by decide) (by kernel_rfl) (.blank 26 _ 32 _ _ rfl (by decide) (.tok 27 _ 120 _ 1 [120] 1 _ rfl (by decide) (by decide) (by kernel_rfl) (.blank 28 _ 32 _ _ rfl (by decide) (.tok 29 _ 61 _ 5 [61] 1 _ rfl (by decide) (by decide) (by kernel_rfl) (.blank 30 _ 32 _ _ rfl (by decide) (.tok 31 _ 120 _ 1 [120] 1 _ rfl (by decide) (by decide) (by kernel_rfl) (.blank 32 _ 32 _ _ rfl (by decide) (.tok 33 _ 43 _ 5 [43] 1 _ rfl (by decide) (by decide) (by kernel_rfl) (.blank 34 _ 32 _ _ rfl (by decide) (.tok 35 _ 49 _ 3 [49] 1 _ rfl (by decide) (by decide) (by kernel_rfl) (.tok 36 _ 59 _ 5 [59] 1 _ rfl (by decide) (by decide) (by kernel_rfl) (.blank 37 _ 32 _ _ rfl (by decide) (.tok 38 _ 125 _ 5 [125] 1 _ rfl (by decide) (by decide) (by kernel_rfl) (.blank 39 _ 32 _ _ rfl (by decide) (.tok 40 _ 114 _ 2 [114,101,116,117,114,110] 6 _ rfl (by decide) (by decide) (by kernel_rfl) (.blank 46 _ 32 _ _ rfl (by decide) (.tok 47 _ 120 _ 1 [120] 1 _ rfl (by decide) (by decide) (by kernel_rfl) (.tok 48 _ 59 _ 5 [59] 1 _ rfl (by decide) (by decide) (by kernel_rfl) (.done 49 _ (by decide)))))))))))))))))))))))))))))))))))))))
theorem qR9:(vU lK (pN lK)).2.code=0:=by kernel_rfl
theorem qR4:(gW (vU lK (pN lK)).2.ns (vU lK (pN lK)).1).1=0:=by kernel_rfl
theorem qSi:((rJ (vU lK (pN lK)).2.ns (vU lK (pN lK)).1).all fun f=>decide (f.code.length≤400))=true:=by kernel_rfl
theorem qPP:¬qJ4 ⟨qSd.toArray⟩:=by
 rintro⟨ts,p,c,hl,hb⟩
 have hd:=xS.det hl qXp
 injection hd with e1 e2
 injection e2 with e2 e3
 subst e1 e3
 rcases hb with h | h | h | h
 ·exact h rfl
 ·exact h qR9
 ·exact h qR4
 ·exact h fun f hf=>by simpa using List.all_eq_true.1 qSi f hf
theorem cC.poke{w:World}{B b:Nat}{v:Value}{l:List (FR×Value)}(h:cC w B v l)(hb:b<B)(u:Value):cC (w.setCell ⟨b,0,none⟩ u) B v l:=
 ⟨jJ h.row fun j hj=>Below.heap_setCell w ⟨b,0,none⟩ _ j (fun e=>by have:=(World.ownsRow.lt h.row j hj).1;have e':j=b:=e;omega),fun p hp=>jJ (h.code p hp) fun j hj=>Below.heap_setCell w ⟨b,0,none⟩ _ j (fun e=>by have:=(World.ownsRow.lt (h.code p hp) j hj).1;have e':j=b:=e;omega),h.off⟩
theorem cC.low{w:World}{B B':Nat}{v:Value}{l:List (FR×Value)}(h:cC w B v l)(hb:B'≤B):cC w B' v l:=⟨mJ h.row hb,fun p hp=>mJ (h.code p hp) hb,h.off⟩
def qSg(g:Nat)(w:World)(e:Ending)(w':World):Prop:=∃ (l:List FR) (v:Value) (ps:List (FR×Value)),e=.returned (.agg #[v])∧dW l∧(∀ f∈l,f.code.length≤400)∧ps.map Prod.fst=l∧cC w' w.heap.size v ps∧Below g w w'
def qDn(w:World)(r:Nat):Prop:=w.heap[r]? = some (.cells #[.slice none 0 0] 25 (0,0))
theorem qHs{g:Nat}{a:Option Addr}{len cap:Nat}(N:Int)(w:World)(sQ:St g a len cap N w)(hN:N≤700000000) :
  Calls Tryz.prog 16 #[.pointer (some ⟨g,0,none⟩)] w fun e w'=>qSg g w e w':=by
 have hg:=sQ.lt
 have HPR:=qC (qId N (w.alloc (.cells #[.slice none 0 0] 25)) (sQ.alloc _) hN)
 have HR0:Hid (qDn (w.alloc (.cells #[.slice none 0 0] 25)) w.heap.size):=qC (heap_alloc_new w _)
 have dP:=qC (qD w (.cells #[.slice none 0 0] 25))
 clear sQ
 go_enter Tryz.func16,Tryz.ntmps16
 go_wp2_with fail
 refine(qA HPR).mono ?_
 rintro e w1 ⟨s,rfl,hs,_,kQ⟩
 have hR1:qDn w1 w.heap.size:=(kQ.block _ (Array.getElem?_eq_some_iff.1 (qA HR0)).1 (by omega)).trans (qA HR0)
 have y8:=qC ((gV (qA dP) (by omega)).trans (kQ.below (Nat.le_refl g) (by simp;omega)))
 have hw1:w.heap.size<w1.heap.size:=(Array.getElem?_eq_some_iff.1 hR1).1
 have HL:=qC (n9 s w1 (by omega))
 clear HPR kQ dP HR0
 go_wp2_with fail
 refine(qA HL).mono ?_
 rintro e w2 h2
 rcases h2 with ⟨l,hgp,yI,v,ps,rfl,hps,rP,qY⟩ | ⟨⟨c2,wZ,rfl,qY⟩,_⟩
 ·obtain⟨va,vc,hv⟩:=vB rP.row
  subst hv
  have hR2:qDn w2 w.heap.size:=(qY.block _ hw1).trans hR1
  have hw2:w.heap.size<w2.heap.size:=(Array.getElem?_eq_some_iff.1 hR2).1
  have r0:w2.cell? ⟨w.heap.size,0,none⟩=some (.slice none 0 0):=(cell_of_block hR2 0).trans rfl
  have rf:=unfrozen_of_block hR2 0
  have uF:=qC ((qA y8).trans (gV qY (by omega)))
  have HFS:=qC (rP.poke (b:=w.heap.size) hw1 (.slice va ps.length vc))
  have HX:=qC (And.intro hgp (And.intro yI hps))
  clear hgp yI hps rP qY HL hR2 hR1 y8
  go_wp2
  refine bodyPost_ret (v:=.agg #[.slice va ps.length vc]) (by simp[results,Tryz.results16,go_sem, *]) rfl ⟨l,_,ps,rfl,(qA HX).1,(qA HX).2.1,(qA HX).2.2,?_,?_⟩
  ·exact((qA HFS).later (qD _ _)).low (by omega)
  ·exact((qA uF).setCell (p:=⟨w.heap.size,0,none⟩) (by show g≤w.heap.size;omega) _).alloc (by simp;omega) _
 ·have e9:(c2 != 0)=true:=by simp[wZ]
  have hR2:qDn w2 w.heap.size:=(qY.block _ hw1).trans hR1
  have hw2:w.heap.size<w2.heap.size:=(Array.getElem?_eq_some_iff.1 hR2).1
  have uO:=qC (((qA y8).trans (gV qY (by omega))).alloc (by omega) (.cells #[.slice none 0 0] 25))
  have hR3:qDn (w2.alloc (.cells #[.slice none 0 0] 25)) w.heap.size:=(Below.heap_alloc _ _ _ hw2).trans hR2
  have hX3:qDn (w2.alloc (.cells #[.slice none 0 0] 25)) w2.heap.size:=heap_alloc_new w2 _
  have HL3:=qC (n9 ⟨qSd.toArray⟩ (w2.alloc (.cells #[.slice none 0 0] 25)) (by decide))
  clear HL qY hR2 hR1 y8 wZ
  go_wp2_with fail
  refine(qA HL3).mono ?_
  rintro e w4 h4
  rcases h4 with ⟨l,hgp,yI,v,ps,rfl,hps,rP,uU⟩ | ⟨_,tZ⟩
  ·obtain⟨va,vc,hv⟩:=vB rP.row
   subst hv
   have hs3:(w2.alloc (.cells #[.slice none 0 0] 25)).heap.size=w2.heap.size+1:=by simp
   rw[hs3]at rP
   have hR4:qDn w4 w.heap.size:=(uU.block _ (by omega)).trans hR3
   have hX4:qDn w4 w2.heap.size:=(uU.block _ (by omega)).trans hX3
   have r0:w4.cell? ⟨w.heap.size,0,none⟩=some (.slice none 0 0):=(cell_of_block hR4 0).trans rfl
   have rf:=unfrozen_of_block hR4 0
   have x0:w4.cell? ⟨w2.heap.size,0,none⟩=some (.slice none 0 0):=(cell_of_block hX4 0).trans rfl
   have xf:=unfrozen_of_block hX4 0
   have cB:¬w2.heap.size=w.heap.size:=by omega
   have jCr:¬w.heap.size=w2.heap.size:=by omega
   have pV:=qC ((qA uO).trans (gV uU (by omega)))
   have HFS:=qC ((rP.poke (b:=w2.heap.size) (by omega) (.slice va ps.length vc)).poke (b:=w.heap.size) (by omega) (.slice va ps.length vc))
   have HX:=qC (And.intro hgp (And.intro yI hps))
   clear hgp yI hps rP uU HL3 hR3 hX3 hR4 hX4 uO hs3
   go_wp2
   refine bodyPost_ret (v:=.agg #[.slice va ps.length vc]) (by simp[results,Tryz.results16,go_sem, *]) rfl ⟨l,_,ps,rfl,(qA HX).1,(qA HX).2.1,(qA HX).2.2,?_,?_⟩
   ·exact(qA HFS).low (by omega)
   ·exact((qA pV).setCell (p:=⟨w2.heap.size,0,none⟩) (by show g≤w2.heap.size;omega) _).setCell (p:=⟨w.heap.size,0,none⟩) (by show g≤w.heap.size;omega) _
  ·exact absurd tZ qPP
theorem qEZ{α:Type}(f:α→List Value)(s:Nat)(hf:∀ x,(f x).length=s):∀ (l:List α) (i o:Nat) (h:i<l.length),o<s→(l.flatMap f)[i*s+o]? = (f l[i])[o]?
 | [],i,o,h,_=>absurd h (by simp)
 | c::l,0,o,h,ho=>by
  rw[List.flatMap_cons,List.getElem?_append_left (by rw[hf];omega)]
  simp
 | c::l,i+1,o,h,ho=>by
  have ih:=qEZ f s hf l i o (by simpa using h) ho
  have e:(i+1)*s+o-s=i*s+o:=by rw[Nat.add_mul];omega
  rw[List.flatMap_cons,List.getElem?_append_right (by rw[hf,Nat.add_mul];omega),hf,e]
  exact ih
theorem qQs{w:World}{B:Nat}{v:Value}{code:List IR}(h:w.ownsRow B 41 7 v code.length (j7 code)):∃ p c,v=.slice p code.length c∧vY w p code:=by
 obtain⟨p,c,rfl⟩:=vB h
 refine⟨p,c,rfl,fun i hi=>?_⟩
 rcases h.2 with ⟨_,h0⟩ | ⟨g,cap,cur,e,hg,rest⟩
 ·omega
 ·injection e with e1 e2 e3
  subst e1
  have hc:∀ o,o<7→w.cell? ⟨g,i*7+o,none⟩=(uE code[i])[o]?:=fun o ho=>by
   rw[World.ownsRow.cellAt h (i*7+o) (by omega)]
   exact qEZ uE 7 (fun _=>rfl) code i o hi ho
  refine⟨g,0,rfl,?_⟩
  rw[Nat.zero_add]
  exact⟨hc 0 (by omega),hc 1 (by omega),hc 2 (by omega),hc 3 (by omega),hc 4 (by omega),hc 5 (by omega),hc 6 (by omega)⟩
theorem cC.read{w:World}{B:Nat}{v:Value}{ps:List (FR×Value)}(h:cC w B v ps):∃ (L:sA) (cap:Nat),v=.slice L.p (ps.map Prod.fst).length cap∧zW w L (ps.map Prod.fst):=by
 obtain⟨p,c,hv⟩:=vB h.row
 subst hv
 have hex:∀ i,∃ pc cc,∀ (hi:i<ps.length),ps[i].2=.slice pc ps[i].1.code.length cc∧vY w pc ps[i].1.code:=fun i=>by
  by_cases hi:i<ps.length
  ·obtain⟨pc,cc,e,hc⟩:=qQs (h.code ps[i] (List.getElem_mem hi))
   exact⟨pc,cc,fun _=>⟨e,hc⟩⟩
  ·exact⟨none,0,fun hi'=>absurd hi' hi⟩
 refine⟨⟨p,fun i=>(hex i).choose,fun i=>(hex i).choose_spec.choose⟩,c,by rw[List.length_map],fun i hi=>?_⟩
 rw[List.length_map]at hi
 obtain⟨e,hcd⟩:=(hex i).choose_spec.choose_spec hi
 rcases h.row.2 with ⟨_,h0⟩ | ⟨g,cap,cur,e',hg,rest⟩
 ·omega
 ·injection e' with e1 e2 e3
  subst e1
  have kF:=h.row
  have hc:∀ o,o<4→w.cell? ⟨g,i*4+o,none⟩=(gZ ps[i])[o]?:=fun o ho=>by
   rw[World.ownsRow.cellAt kF (i*4+o) (by omega)]
   exact qEZ gZ 4 (fun _=>rfl) ps i o hi ho
  refine⟨g,0,rfl,?_⟩
  rw[Nat.zero_add]
  have em:(ps.map Prod.fst)[i]=ps[i].1:=by simp
  rw[em]
  refine⟨hc 0 (by omega),hc 1 (by omega),hc 2 (by omega),?_,hcd⟩
  rw[hc 3 (by omega)]
  show some ps[i].2=_
  rw[e]
def qSc(w:World)(e:Ending)(w':World):Prop:=∃ (l:List FR) (L:sA) (cap:Nat),e=.returned (.agg #[.slice L.p l.length cap])∧dW l∧(∀ f∈l,f.code.length≤400)∧zW w' L l∧Below w.heap.size w w'
theorem qAc(a:Option Addr)(len cap:Nat)(w:World)(hlen:len≤1048577)(kF:mH w a len) :
  Calls Tryz.prog 4 #[.slice a len cap] w fun e w'=>qSc w e w':=by
 have HR:=qC kF
 clear kF
 go_enter Tryz.func4,Tryz.ntmps4
 go_wp2_with fail
 refine(qIu a len cap _ hlen).mono ?_
 rintro e w1 ⟨rfl,jD,jF,qFy⟩
 simp at jD jF qFy
 have B1:=qC jD
 have S1:=qC (show St (w.heap.size+1) a len cap 0 w1 from⟨⟨0,_,qFy,by omega⟩,((qA HR).later (qD w (.cells #[.slice none 0 0] 25))).later (by simpa using jD),fun h0 x hx e=>by
  have:=qLI (qA HR) h0 x hx
  obtain⟨b,off,c,h1,h2,_⟩:=qA HR 0 h0
  rw[h1]at hx
  have h3:=World.block_lt_of_cell? _ _ h2
  injection hx with hx
  subst hx
  simp at e h3
  omega,hlen⟩)
 have hR1:qDn w1 w.heap.size:=(jD.block _ (by omega)).trans (heap_alloc_new w _)
 have hw:(w.alloc (.cells #[.slice none 0 0] 25)).heap.size=w.heap.size+1:=by simp
 have hw1:w.heap.size+1≤w1.heap.size:=by have:=(Array.getElem?_eq_some_iff.1 hR1).1;omega
 have HT:=qC (qHs 0 w1 (qA S1) (by omega))
 rw[hw]
 clear qFy jD S1 hw
 go_wp2_with fail
 refine(qA HT).mono ?_
 rintro e w2 ⟨l,v,ps,rfl,hgp,yI,hps,rP,qY⟩
 have hR2:qDn w2 w.heap.size:=(qY.block _ (by omega)).trans hR1
 have hw2:w.heap.size<w2.heap.size:=(Array.getElem?_eq_some_iff.1 hR2).1
 have y0:w2.cell? ⟨w.heap.size,0,none⟩=some (.slice none 0 0):=(cell_of_block hR2 0).trans rfl
 have f0:=unfrozen_of_block hR2 0
 have uF:=qC (((qD w (.cells #[.slice none 0 0] 25)).trans (gV (qA B1) (by omega))).trans (gV qY (show w.heap.size≤w.heap.size+1 by omega)))
 obtain⟨L,c,hv,_⟩:=rP.read
 obtain⟨L',c',hv',hf'⟩:=(rP.poke (b:=w.heap.size) (by omega) v).read
 subst hv
 rw[hps]at hv' hf'
 rw[hps]
 have HFS:=qC hf'
 have HX:=qC (And.intro hgp yI)
 have HV:=qC hv'
 clear HT hgp yI hps rP qY hR1 hR2 B1 hf' hv'
 go_wp2
 refine bodyPost_ret (v:=.agg #[.slice L.p l.length c]) (by simp[results,Tryz.results4,go_sem, *]) rfl ⟨l,L',c',by rw[qA HV],(qA HX).1,(qA HX).2,qA HFS,jE (qA uF) (Nat.le_refl _)⟩
theorem qGC(pv:Value)(f:FR)(pc:Option Addr)(cc:Nat)(op n:Int)(w:World)(ho:op=2∨op=3)(h0:0≤n)(h1:n<(f.slots:Int))(hs:f.slots≤20)(hV:∀ w,Calls Tryz.prog 31 #[.agg #[.int .i64 0,.int .i64 0,.string ⟨#[]⟩]] w fun e w'=>e=.returned (.bool true)∧Below w.heap.size w w') :
  Calls Tryz.prog 46 #[.agg #[pv],oB f pc cc,irV (iN op n)] w fun e w'=>e=.returned (.bool true)∧Below w.heap.size w w':=by
 obtain⟨zF,yZ,mQ,qL⟩:=f
 dsimp only at h1 hs
 have gG:(decide ((0:Int)≤n)&&decide (n≤(mQ:Int)-1))=true:=by simp;omega
 have HV:=qC hV
 clear hV
 unfold iN e0
 rcases ho with rfl | rfl
 all_goals
  go_enter Tryz.func46,Tryz.ntmps46
  go_wp2_with fail
  refine(qA HV _).mono ?_
  rintro e w1 ⟨rfl,jD⟩
  obtain⟨xZ,hf1⟩:=yU jD
  have wJ:w.heap.size<w1.heap.size:=by have:=jD.size;simp at this;omega
  have gB:w.heap.size+1<w1.heap.size:=by have:=jD.size;simp at this;omega
  have hz3:w.heap.size+1+1<w1.heap.size:=by have:=jD.size;simp at this;omega
  have hB1:=qC (qE (qG (qG (qD _ _))) jD)
  clear jD
  go_wp2_with fail
  refine(qP _ _ _ _ _ gG).mono ?_
  rintro e w' ⟨rfl,rfl⟩
  go_wp2
  go_ret
  exact⟨rfl,qA hB1⟩
theorem qGS(pv:Value)(f:FR)(pc:Option Addr)(cc:Nat)(op n:Int)(ho:op=6∨op=7∨op=8∨op=9∨op=14)(h0:0≤n)(h1:n<(f.code.length:Int))(hs:f.code.length≤400)(hV:∀ w,Calls Tryz.prog 31 #[.agg #[.int .i64 0,.int .i64 0,.string ⟨#[]⟩]] w fun e w'=>e=.returned (.bool true)∧Below w.heap.size w w')(w:World) :
  Calls Tryz.prog 46 #[.agg #[pv],oB f pc cc,irV (iN op n)] w fun e w'=>e=.returned (.bool true)∧Below w.heap.size w w':=by
 obtain⟨zF,yZ,mQ,qL⟩:=f
 dsimp only at h1 hs
 have gG:(decide ((0:Int)≤n)&&decide (n≤(qL.length:Int)-1))=true:=by simp;omega
 have HV:=qC hV
 clear hV
 unfold iN e0
 rcases ho with rfl | rfl | rfl | rfl | rfl
 all_goals
  go_enter Tryz.func46,Tryz.ntmps46
  go_wp2_with fail
  refine(qA HV _).mono ?_
  rintro e w1 ⟨rfl,jD⟩
  obtain⟨xZ,hf1⟩:=yU jD
  have wJ:w.heap.size<w1.heap.size:=by have:=jD.size;simp at this;omega
  have gB:w.heap.size+1<w1.heap.size:=by have:=jD.size;simp at this;omega
  have hz3:w.heap.size+1+1<w1.heap.size:=by have:=jD.size;simp at this;omega
  have hB1:=qC (qE (qG (qG (qD _ _))) jD)
  clear jD
  go_wp2_with fail
  refine(qP _ _ _ _ _ gG).mono ?_
  rintro e w' ⟨rfl,rfl⟩
  go_wp2
  go_ret
  exact⟨rfl,qA hB1⟩
theorem qGL(pv:Value)(f:FR)(pc:Option Addr)(cc:Nat)(op:Int)(ho:op=12∨op=13∨op=15∨op=16)(hV:∀ w,Calls Tryz.prog 31 #[.agg #[.int .i64 0,.int .i64 0,.string ⟨#[]⟩]] w fun e w'=>e=.returned (.bool true)∧Below w.heap.size w w')(w:World) :
  Calls Tryz.prog 46 #[.agg #[pv],oB f pc cc,irV (iN op 0)] w fun e w'=>e=.returned (.bool true)∧Below w.heap.size w w':=by
 obtain⟨zF,yZ,mQ,qL⟩:=f
 have gG:(decide ((1:Int)≤op)&&decide (op≤16))=true:=by simp;omega
 have HV:=qC hV
 clear hV
 unfold iN e0
 rcases ho with rfl | rfl | rfl | rfl
 all_goals
  go_enter Tryz.func46,Tryz.ntmps46
  go_wp2_with fail
  refine(qA HV _).mono ?_
  rintro e w1 ⟨rfl,jD⟩
  obtain⟨xZ,hf1⟩:=yU jD
  have wJ:w.heap.size<w1.heap.size:=by have:=jD.size;simp at this;omega
  have gB:w.heap.size+1<w1.heap.size:=by have:=jD.size;simp at this;omega
  have hz3:w.heap.size+1+1<w1.heap.size:=by have:=jD.size;simp at this;omega
  have hB1:=qC (qE (qG (qG (qD _ _))) jD)
  clear jD
  go_wp2_with fail
  refine(qP _ _ _ _ _ gG).mono ?_
  rintro e w' ⟨rfl,rfl⟩
  go_wp2
  go_ret
  exact⟨rfl,qA hB1⟩
theorem qHb(pv:Value)(f:FR)(pc:Option Addr)(cc:Nat)(vk vn:Int)(vt:ByteArray)(hV:∀ w,Calls Tryz.prog 31 #[.agg #[.int .i64 vk,.int .i64 vn,.string vt]] w fun e w'=>e=.returned (.bool true)∧Below w.heap.size w w')(w:World) :
  Calls Tryz.prog 46 #[.agg #[pv],oB f pc cc,irV (iV vk vn vt)] w fun e w'=>e=.returned (.bool true)∧Below w.heap.size w w':=by
 obtain⟨zF,yZ,mQ,qL⟩:=f
 have gG:(decide ((1:Int)≤1)&&decide ((1:Int)≤16))=true:=by decide
 have HV:=qC hV
 clear hV
 unfold iV e0
 go_enter Tryz.func46,Tryz.ntmps46
 go_wp2_with fail
 refine(qA HV _).mono ?_
 rintro e w1 ⟨rfl,jD⟩
 obtain⟨xZ,hf1⟩:=yU jD
 have wJ:w.heap.size<w1.heap.size:=by have:=jD.size;simp at this;omega
 have gB:w.heap.size+1<w1.heap.size:=by have:=jD.size;simp at this;omega
 have hz3:w.heap.size+1+1<w1.heap.size:=by have:=jD.size;simp at this;omega
 have hB1:=qC (qE (qG (qG (qD _ _))) jD)
 clear jD
 go_wp2_with fail
 refine(qP _ _ _ _ _ gG).mono ?_
 rintro e w' ⟨rfl,rfl⟩
 go_wp2
 go_ret
 exact⟨rfl,qA hB1⟩
theorem qEY(pv:Value)(f:FR)(pc:Option Addr)(cc:Nat)(t:ByteArray)(ht:t.toList=[33]∨t.toList=[45])(hV:∀ w,Calls Tryz.prog 31 #[.agg #[.int .i64 0,.int .i64 0,.string ⟨#[]⟩]] w fun e w'=>e=.returned (.bool true)∧Below w.heap.size w w')(w:World) :
  Calls Tryz.prog 46 #[.agg #[pv],oB f pc cc,irV (iT 4 t)] w fun e w'=>e=.returned (.bool true)∧Below w.heap.size w w':=by
 obtain⟨zF,yZ,mQ,qL⟩:=f
 have HV:=qC hV
 clear hV
 unfold iT e0
 rcases ht with ht | ht
 all_goals
  go_enter Tryz.func46,Tryz.ntmps46
  go_wp2_with fail
  refine(qA HV _).mono ?_
  rintro e w1 ⟨rfl,jD⟩
  obtain⟨xZ,hf1⟩:=yU jD
  have wJ:w.heap.size<w1.heap.size:=by have:=jD.size;simp at this;omega
  have gB:w.heap.size+1<w1.heap.size:=by have:=jD.size;simp at this;omega
  have hz3:w.heap.size+1+1<w1.heap.size:=by have:=jD.size;simp at this;omega
  have hB1:=qC (qE (qG (qG (qD _ _))) jD)
  clear jD
  go_wp2
  go_ret
  exact⟨rfl,qA hB1⟩
theorem qDv(pv:Value)(f:FR)(pc:Option Addr)(cc:Nat)(t:ByteArray)(ht:qJ5 t.toList)(hV:∀ w,Calls Tryz.prog 31 #[.agg #[.int .i64 0,.int .i64 0,.string ⟨#[]⟩]] w fun e w'=>e=.returned (.bool true)∧Below w.heap.size w w')(w:World) :
  Calls Tryz.prog 46 #[.agg #[pv],oB f pc cc,irV (iT 5 t)] w fun e w'=>e=.returned (.bool true)∧Below w.heap.size w w':=by
 obtain⟨zF,yZ,mQ,qL⟩:=f
 have HV:=qC hV
 have HT:=qC ht
 clear hV ht
 unfold iT e0
 go_enter Tryz.func46,Tryz.ntmps46
 go_wp2_with fail
 refine(qA HV _).mono ?_
 rintro e w1 ⟨rfl,jD⟩
 obtain⟨xZ,hf1⟩:=yU jD
 have wJ:w.heap.size<w1.heap.size:=by have:=jD.size;simp at this;omega
 have gB:w.heap.size+1<w1.heap.size:=by have:=jD.size;simp at this;omega
 have hz3:w.heap.size+1+1<w1.heap.size:=by have:=jD.size;simp at this;omega
 have hB1:=qC (qE (qG (qG (qD _ _))) jD)
 clear jD
 go_wp2_with fail
 refine(qLb t _ (qA HT)).mono ?_
 rintro e w' ⟨rfl,rfl⟩
 go_wp2
 go_ret
 exact⟨rfl,qA hB1⟩
theorem qCm(pv:Value)(f:FR)(pc:Option Addr)(cc:Nat)(n:Int)(t:ByteArray)(h0:0≤n)(hC:∀ w,Calls Tryz.prog 76 #[.string t] w fun e w'=>e=.returned (.int .i64 n)∧w'=w)(hV:∀ w,Calls Tryz.prog 31 #[.agg #[.int .i64 0,.int .i64 0,.string ⟨#[]⟩]] w fun e w'=>e=.returned (.bool true)∧Below w.heap.size w w')(w:World) :
  Calls Tryz.prog 46 #[.agg #[pv],oB f pc cc,irV ⟨11,n,0,t,0,0,e0⟩] w fun e w'=>e=.returned (.bool true)∧Below w.heap.size w w':=by
 obtain⟨zF,yZ,mQ,qL⟩:=f
 have HV:=qC hV
 have HC:=qC hC
 have hd:decide ((0:Int)≤n)=true:=decide_eq_true h0
 clear hV hC
 unfold e0
 go_enter Tryz.func46,Tryz.ntmps46
 go_wp2_with fail
 refine(qA HV _).mono ?_
 rintro e w1 ⟨rfl,jD⟩
 obtain⟨xZ,hf1⟩:=yU jD
 have wJ:w.heap.size<w1.heap.size:=by have:=jD.size;simp at this;omega
 have gB:w.heap.size+1<w1.heap.size:=by have:=jD.size;simp at this;omega
 have hz3:w.heap.size+1+1<w1.heap.size:=by have:=jD.size;simp at this;omega
 have hB1:=qC (qE (qG (qG (qD _ _))) jD)
 clear jD
 go_wp2
 go_quiet ((go_at_call 76;refine Calls.quiet_of_same (qA HC _)))
 go_wp2
 go_ret
 exact⟨rfl,below_drewN (qA hB1) _⟩
theorem qGO(L:sA)(fs:List FR)(cap:Nat)(f:FR)(pc:Option Addr)(cc kk q:Nat)(w:World)(hF:zW w L fs)(h1:1≤kk)(hk:kk<fs.length)(hl:fs.length≤9)(hq:fs[kk].params=q)(hV:∀ w,Calls Tryz.prog 31 #[.agg #[.int .i64 0,.int .i64 0,.string ⟨#[]⟩]] w fun e w'=>e=.returned (.bool true)∧Below w.heap.size w w') :
  Calls Tryz.prog 46 #[.agg #[.slice L.p fs.length cap],oB f pc cc,irV ⟨10,(kk:Int),(q:Int),e0,0,0,e0⟩] w fun e w'=>e=.returned (.bool true)∧Below w.heap.size w w':=by
 obtain⟨zF,yZ,mQ,qL⟩:=f
 obtain⟨fb,qFF,hp,-,g1,-⟩:=hF kk hk
 rw[hq]at g1
 rw[hp]
 have HV:=qC hV
 have gG:(decide ((1:Int)≤(kk:Int))&&decide ((kk:Int)≤(fs.length:Int)-1))=true:=by simp;omega
 have aX:(kk:Int)<(fs.length:Int):=by omega
 have hwr:IntKind.i64.wrap ((fs.length:Int)-1)=(fs.length:Int)-1:=qKh _ (by omega) (by omega)
 clear hV hF hq hp
 generalize fs.length=fl at hk hl gG aX hwr ⊢
 unfold e0
 go_enter Tryz.func46,Tryz.ntmps46
 go_wp2_with fail
 refine(qA HV _).mono ?_
 rintro e w1 ⟨rfl,jD⟩
 obtain⟨xZ,hf1⟩:=yU jD
 have wJ:w.heap.size<w1.heap.size:=by have:=jD.size;simp at this;omega
 have gB:w.heap.size+1<w1.heap.size:=by have:=jD.size;simp at this;omega
 have hz3:w.heap.size+1+1<w1.heap.size:=by have:=jD.size;simp at this;omega
 have hB1:=qC (qE (qG (qG (qD _ _))) jD)
 clear jD
 have g2:=cell_later (qA hB1) g1
 have gb:=World.block_lt_of_cell? _ _ g1
 go_wp2
 go_quiet ((go_at_call 22;refine Calls.quiet_of_same (qP _ _ _ true _ gG)))
 go_wp2
 go_ret
 exact⟨rfl,below_drewN (qA hB1) _⟩
theorem qOq(s:ByteArray)(w:World)(h:s.toList=[108,101,110]) :
  Calls Tryz.prog 76 #[.string s] w fun e w'=>e=.returned (.int .i64 1)∧w'=w:=by
 go_enter Tryz.func76,Tryz.ntmps76
 go_wp2
 go_ret
 exact⟨rfl,rfl⟩
theorem qN4(s:ByteArray)(w:World)(h:s.toList=[115,116,114]) :
  Calls Tryz.prog 76 #[.string s] w fun e w'=>e=.returned (.int .i64 1)∧w'=w:=by
 go_enter Tryz.func76,Tryz.ntmps76
 go_wp2
 go_ret
 exact⟨rfl,rfl⟩
theorem qNa(s:ByteArray)(w:World)(h:s.toList=[97,98,115]) :
  Calls Tryz.prog 76 #[.string s] w fun e w'=>e=.returned (.int .i64 1)∧w'=w:=by
 go_enter Tryz.func76,Tryz.ntmps76
 go_wp2
 go_ret
 exact⟨rfl,rfl⟩
theorem qQo(s:ByteArray)(w:World)(h:s.toList=[97,116]) :
  Calls Tryz.prog 76 #[.string s] w fun e w'=>e=.returned (.int .i64 2)∧w'=w:=by
 go_enter Tryz.func76,Tryz.ntmps76
 go_wp2
 go_ret
 exact⟨rfl,rfl⟩
theorem qM6(s:ByteArray)(w:World)(h:s.toList=[109,97,120]) :
  Calls Tryz.prog 76 #[.string s] w fun e w'=>e=.returned (.int .i64 2)∧w'=w:=by
 go_enter Tryz.func76,Tryz.ntmps76
 go_wp2
 go_ret
 exact⟨rfl,rfl⟩
theorem qNC(s:ByteArray)(w:World)(h:s.toList=[109,105,110]) :
  Calls Tryz.prog 76 #[.string s] w fun e w'=>e=.returned (.int .i64 2)∧w'=w:=by
 go_enter Tryz.func76,Tryz.ntmps76
 go_wp2
 go_ret
 exact⟨rfl,rfl⟩
theorem qNI(s:ByteArray)(w:World)(h:s.toList=[99,117,116]) :
  Calls Tryz.prog 76 #[.string s] w fun e w'=>e=.returned (.int .i64 3)∧w'=w:=by
 go_enter Tryz.func76,Tryz.ntmps76
 go_wp2
 go_ret
 exact⟨rfl,rfl⟩
theorem qXo(l:List UInt8):qJ5 l↔opB l=true:=by
 unfold qJ5 qTW opB
 simp
 grind
theorem aT(w:World):Calls Tryz.prog 31 #[.agg #[.int .i64 0,.int .i64 0,.string ⟨#[]⟩]] w fun e w'=>e=.returned (.bool true)∧Below w.heap.size w w':=by
 have:=jP 0 0 ⟨#[]⟩ w (by decide)
 rw[show vC 0 0 ⟨#[]⟩=true by simp[vC,ByteArray.toList_eq]]at this
 exact this
theorem qN0(t:ByteArray)(n:Int)(h0:0≤n)(h:xF t=n)(w:World):Calls Tryz.prog 76 #[.string t] w fun e w'=>e=.returned (.int .i64 n)∧w'=w:=by
 unfold xF qCH at h
 rw[←ByteArray.toList_eq]at h
 split at h
 ·rename_i hh
  subst h
  rcases hh with hh | hh | hh
  ·exact qOq t w hh
  ·exact qN4 t w hh
  ·exact qNa t w hh
 split at h
 ·rename_i hh
  subst h
  rcases hh with hh | hh | hh
  ·exact qQo t w hh
  ·exact qM6 t w hh
  ·exact qNC t w hh
 split at h
 ·rename_i hh
  subst h
  exact qNI t w hh
 ·omega
theorem qBV(L:sA)(fs:List FR)(cap:Nat)(f:FR)(pc:Option Addr)(cc:Nat)(i:IR)(Q:List Nat)(w:World)(hF:zW w L fs)(hl:fs.length≤9)(hQ:Q=fs.tail.map FR.params)(hs:f.slots≤20)(yI:f.code.length≤400)(hi:fP f.slots Q i)(hj:xL i.op=true→i.n<(f.code.length:Int)) :
  Calls Tryz.prog 46 #[.agg #[.slice L.p fs.length cap],oB f pc cc,irV i] w fun e w'=>e=.returned (.bool true)∧Below w.heap.size w w':=by
 rcases hi with ⟨h1,h2,h3,h4,h5⟩ | ⟨h1,h2,h3,h4⟩ | ⟨h1,h2,h3⟩ | ⟨h1,h2,h3⟩ | ⟨h1,h2,h3⟩ | ⟨h1,h2,j,q,h3,h4,h5⟩ | ⟨h1,h2,h3,h4⟩ | ⟨h1,h2⟩
 ·obtain⟨op,n,m,t,vk,vn,vt⟩:=i
  dsimp only at h1 h2 h3 h4 h5
  subst h1 h2 h3 h4
  have hv:vC vk vn vt=true∧vt.size≤maxLen:=by
   rcases h5 with ⟨rfl,rfl,rfl⟩ | ⟨rfl,a,b,rfl⟩ | ⟨rfl,a,rfl⟩ | ⟨rfl,rfl,a⟩
   ·exact⟨by simp[vC,e0,ByteArray.toList_eq],by decide⟩
   ·exact⟨by simp[vC,e0,ByteArray.toList_eq];omega,by decide⟩
   ·exact⟨by simp[vC,e0,ByteArray.toList_eq];omega,by decide⟩
   ·unfold kB at a
    simp only[Bool.and_eq_true,decide_eq_true_eq]at a
    have hz:vt.size≤60:=by simpa using a.1
    exact⟨by simp[vC,hz],by unfold maxLen;omega⟩
  exact qHb _ f pc cc vk vn vt (fun w=>by have:=jP vk vn vt w hv.2;rw[hv.1]at this;exact this) w
 ·rw[h2]
  exact qGC _ f pc cc i.op i.n w h1 h3 h4 hs aT
 ·rw[h2]
  exact qEY _ f pc cc i.t (by rw[ByteArray.toList_eq];exact h3) aT w
 ·rw[h2]
  exact qDv _ f pc cc i.t (by rw[ByteArray.toList_eq];exact(qXo _).2 h3) aT w
 ·rw[h2]
  exact qGS _ f pc cc i.op i.n h1 h3 (hj (by unfold xL;rcases h1 with e | e | e | e | e <;> rw[e] <;> rfl)) yI aT w
 ·rw[h2,h3,h5,show(1:Int)+(j:Int)=((j+1:Nat):Int) by omega]
  rw[hQ,List.getElem?_map]at h4
  obtain⟨g,hg,hgq⟩:=Option.map_eq_some_iff.1 h4
  rw[List.getElem?_tail]at hg
  obtain⟨jF,hge⟩:=List.getElem?_eq_some_iff.1 hg
  exact qGO L fs cap f pc cc (j+1) q w hF (by omega) jF hl (by rw[hge];exact hgq) aT
 ·rw[h2]
  exact qCm _ f pc cc i.n i.t h3 (qN0 i.t i.n h3 h4) aT w
 ·rw[h2]
  exact qGL _ f pc cc i.op h1 aT w
end
end Go.Proofs.YtbgkfaclfnkloaaGreatDoor
