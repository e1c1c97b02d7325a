import Derived.Test.YtbgkfaclfnkloaaGreatDoorG27
import Derived.WalkMore
import Derived.BigQuiet
namespace Go.Proofs.YtbgkfaclfnkloaaGreatDoor
set_option linter.all false
set_option maxHeartbeats 4000000
set_option maxRecDepth 100000
open Go.RowKit Go.Joins
theorem qOl(k n:Int)(t:ByteArray)(w:World):(Instr.field 150 (.agg #[.int .i64 k,.int .i64 n,.string t]) 1).run Tryz.prog w=.ok (.int .i64 n) w:=by kernel_rfl
theorem x9(k n:Int)(t:ByteArray)(w:World):(Instr.field 150 (.agg #[.int .i64 k,.int .i64 n,.string t]) 2).run Tryz.prog w=.ok (.string t) w:=by kernel_rfl
def mT(x:V3):Value:=.agg #[.int .i64 x.k,.int .i64 x.n,.string x.t]
theorem qG3{ts:List V3}{s:PS}(h:s.at'<ts.length):qU ts s=ts[s.at']:=by unfold qU;exact dif_pos h
theorem qAh{ts:List V3}{s:PS}(h:¬s.at'<ts.length):qU ts s=⟨0,qLw ts,em⟩:=by unfold qU;exact dif_neg h
theorem qLj{ts:List V3}(h:0<ts.length):qLw ts=ts[ts.length-1].n+1:=by
 unfold qLw
 rw[List.getLast?_eq_getElem?,List.getElem?_eq_getElem (by omega)]
theorem qKS{ts:List V3}(h:¬0<ts.length):qLw ts=0:=by
 cases ts with
 | nil=>rfl
 | cons=>simp at h
theorem l0{ts:List V3}{s:PS}(h:(qU ts s).k≠0):s.at'<ts.length:=Classical.byContradiction fun hn=>by
 rw[qAh hn]at h
 exact h rfl
theorem rN{ts:List V3}{s:PS}{t:List UInt8}(h:kA ts s t=true):s.at'<ts.length:=l0 (fun e=>by
 unfold kA isV at h
 rw[e]at h
 simp at h)
theorem qOd{g:Nat}{lp:Option Addr}{lc:PX}{ts:List V3}{v:Value}{s:PS}{w:World}(qS:TS ts)(h:zD w g lp lc ts v s)(jF:s.at'<ts.length) :
  Calls Tryz.prog 138 #[.pointer (some ⟨g,0,none⟩)] w fun e w'=>e=.returned (mT ts[s.at'])∧Below w.heap.size w w':=by
 obtain⟨c0,c1,c2,c3,c4,c5⟩:=h.cells
 have hg:=h.lt
 obtain⟨b,off,rfl,t0,t1,t2⟩:=h.toks s.at' jF
 have hb:b<g:=Nat.lt_of_lt_of_le (h.tb _ rfl) h.bg
 have hbw:b<w.heap.size:=by omega
 have hf:=qS.few
 have hl1:(s.at':Int)<(ts.length:Int):=by omega
 have hl0:(0:Int)≤(s.at':Int):=Int.natCast_nonneg _
 clear h c2 c3 c4 c5 qS
 generalize ts[s.at']=x at t0 t1 t2 ⊢
 go_enter Tryz.func138,Tryz.ntmps138
 go_wp2
 go_region
 all_goals go_wp2
 go_region
 all_goals go_wp2
 all_goals exact bodyPost_ret (v:=mT x) (by simp[results,Tryz.results138,go_sem,mT]) rfl ⟨rfl,(by repeat (first | exact Below.refl _ _ | refine qG ?_ | refine qF ?_ | refine jE ?_ (Nat.le_refl _)))⟩
theorem qL2{g:Nat}{lp:Option Addr}{lc:PX}{ts:List V3}{v:Value}{s:PS}{w:World}(qS:TS ts)(h:zD w g lp lc ts v s)(jF:¬s.at'<ts.length) :
  Calls Tryz.prog 138 #[.pointer (some ⟨g,0,none⟩)] w fun e w'=>e=.returned (mT ⟨0,qLw ts,em⟩)∧Below w.heap.size w w':=by
 obtain⟨c0,c1,c2,c3,c4,c5⟩:=h.cells
 have hg:=h.lt
 have hf:=qS.few
 have hl1:¬(s.at':Int)<(ts.length:Int):=by omega
 by_cases hz:0<ts.length
 ·obtain⟨b,off,rfl,t0,t1,t2⟩:=h.toks (ts.length-1) (by omega)
  have hb:b<g:=Nat.lt_of_lt_of_le (h.tb _ rfl) h.bg
  have hbw:b<w.heap.size:=by omega
  have hn:=qS.each _ (List.getElem_mem (show ts.length-1<ts.length by omega))
  rw[qLj hz]
  have hz':(0:Int)<(ts.length:Int):=by omega
  obtain⟨m,hm⟩:∃ m,ts.length=m+1:=⟨ts.length-1,by omega⟩
  generalize ts[ts.length-1]=x at t0 t1 t2 hn ⊢
  rw[hm,Nat.add_sub_cancel]at t0 t1 t2
  rw[hm]at c0 hl1 hz' hf
  have hw1:IntKind.i64.wrap (((m+1:Nat):Int)-1)=(m:Int):=by rw[IntKind.wrap_i64];omega
  have hw2:IntKind.i64.wrap (x.n+1)=x.n+1:=by rw[IntKind.wrap_i64];omega
  have kM:(m:Int)<((m+1:Nat):Int):=by omega
  have xG:(0:Int)≤(m:Int):=Int.natCast_nonneg _
  clear h c2 c3 c4 c5 qS jF hz hm
  go_enter Tryz.func138,Tryz.ntmps138
  go_wp2
  go_region
  all_goals go_wp2
  go_region
  all_goals go_wp2
  all_goals exact bodyPost_ret (v:=mT ⟨0,x.n+1,em⟩) (by simp[results,Tryz.results138,go_sem,mT,em]) rfl ⟨rfl,(by repeat (first | exact Below.refl _ _ | refine qG ?_ | refine qF ?_ | refine jE ?_ (Nat.le_refl _)))⟩
 ·rw[qKS hz]
  have hz':¬(0:Int)<(ts.length:Int):=by omega
  clear h c2 c3 c4 c5 qS jF hz
  go_enter Tryz.func138,Tryz.ntmps138
  go_wp2
  go_region
  all_goals go_wp2
  all_goals exact bodyPost_ret (v:=mT ⟨0,0,em⟩) (by simp[results,Tryz.results138,go_sem,mT,em]) rfl ⟨rfl,(by repeat (first | exact Below.refl _ _ | refine qG ?_ | refine qF ?_ | refine jE ?_ (Nat.le_refl _)))⟩
theorem xR{g:Nat}{lp:Option Addr}{lc:PX}{ts:List V3}{v:Value}{s:PS}{w:World}(qS:TS ts)(h:zD w g lp lc ts v s) :
  Calls Tryz.prog 138 #[.pointer (some ⟨g,0,none⟩)] w fun e w'=>e=.returned (mT (qU ts s))∧Below w.heap.size w w':=by
 by_cases jF:s.at'<ts.length
 ·rw[qG3 jF];exact qOd qS h jF
 ·rw[qAh jF];exact qL2 qS h jF
theorem qKt{x:V3}{t:ByteArray}(hk:x.k=2∨x.k=5)(ht:x.t=t):isV x t.data.toList=true:=by
 unfold isV;rw[ht]
 rcases hk with h | h <;> rw[h] <;> simp
theorem qN9{x:V3}{l:List UInt8}(h2:¬x.k=2)(h5:¬x.k=5):isV x l=false:=by
 unfold isV;simp[h2,h5]
theorem qGs{x:V3}{t:ByteArray}(ht:¬x.t=t):isV x t.data.toList=false:=by
 unfold isV
 have:(x.t.data.toList == t.data.toList)=false:=beq_eq_false_iff_ne.2 fun e=>ht (by cases hx:x.t;cases t;rw[hx]at e;simp at e;rw[e])
 rw[this];simp
theorem pis{g:Nat}{lp:Option Addr}{lc:PX}{ts:List V3}{v:Value}{s:PS}{w:World}(qS:TS ts)(h:zD w g lp lc ts v s)(t:ByteArray) :
  Calls Tryz.prog 109 #[.pointer (some ⟨g,0,none⟩),.string t] w fun e w'=>e=.returned (.bool (kA ts s t.data.toList))∧Below w.heap.size w w':=by
 have HN:=qC (xR qS h)
 unfold kA
 clear h qS
 generalize qU ts s=x at HN ⊢
 obtain⟨xk,xn,xt⟩:=x
 unfold mT at HN
 by_cases h2:xk=2
 ·subst h2
  by_cases ht:xt=t
  ·subst ht
   rw[qKt (.inl rfl) rfl]
   have e1:=tH xt
   have e2:=tI xt
   go_enter Tryz.func109,Tryz.ntmps109
   go_wp2_with fail
   refine(qA HN).mono ?_
   rintro e w1 ⟨rfl,hb⟩
   clear HN
   go_wp2
   go_ret
   exact⟨rfl,qG hb⟩
  ·rw[qGs ht]
   have e1:=qAM ht
   have e2:=qAL ht
   go_enter Tryz.func109,Tryz.ntmps109
   go_wp2_with fail
   refine(qA HN).mono ?_
   rintro e w1 ⟨rfl,hb⟩
   clear HN
   go_wp2
   go_ret
   exact⟨rfl,qG hb⟩
 by_cases h5:xk=5
 ·subst h5
  by_cases ht:xt=t
  ·subst ht
   rw[qKt (.inr rfl) rfl]
   have e1:=tH xt
   have e2:=tI xt
   go_enter Tryz.func109,Tryz.ntmps109
   go_wp2_with fail
   refine(qA HN).mono ?_
   rintro e w1 ⟨rfl,hb⟩
   clear HN
   go_wp2
   go_ret
   exact⟨rfl,qG hb⟩
  ·rw[qGs ht]
   have e1:=qAM ht
   have e2:=qAL ht
   go_enter Tryz.func109,Tryz.ntmps109
   go_wp2_with fail
   refine(qA HN).mono ?_
   rintro e w1 ⟨rfl,hb⟩
   clear HN
   go_wp2
   go_ret
   exact⟨rfl,qG hb⟩
 ·rw[qN9 h2 h5]
  have e1:(xk == 2)=false:=beq_eq_false_iff_ne.2 h2
  have e2:(xk == 5)=false:=beq_eq_false_iff_ne.2 h5
  go_enter Tryz.func109,Tryz.ntmps109
  go_wp2_with fail
  refine(qA HN).mono ?_
  rintro e w1 ⟨rfl,hb⟩
  clear HN
  go_wp2
  go_ret
  exact⟨rfl,qG hb⟩
theorem qII(s:PS):qK s = { s with at':=s.at'+1 }:=rfl
theorem qUe(s:PS):iG s = { s with dp:=s.dp-1 }:=rfl
theorem zD.adv{w:World}{g:Nat}{lp:Option Addr}{lc:PX}{ts:List V3}{v:Value}{s:PS}(h:zD w g lp lc ts v s)(hn:s.at'<ts.length):zD (w.setCell ⟨g,1,none⟩ (.int .i64 ((s.at':Int)+1))) g lp lc ts v (qK s):=by
 have:=h.setAt (s.at'+1) hn
 rw[qII]
 simpa using this
def jA(ts:List V3)(s:PS)(t:List UInt8):PS:=if yL ts s t=true then qK s else s
theorem jC{g:Nat}{lp:Option Addr}{lc:PX}{ts:List V3}{v:Value}{s:PS}{w:World}(qS:TS ts)(h:zD w g lp lc ts v s)(t:ByteArray) :
  Calls Tryz.prog 82 #[.pointer (some ⟨g,0,none⟩),.string t] w fun e w'=>e=.returned (.bool (yL ts s t.data.toList))∧zD w' g lp lc ts v (jA ts s t.data.toList)∧PK g v v w w':=by
 have HI:=qC (pis qS h t)
 have H:=qC h
 obtain⟨c0,c1,c2,c3,c4,c5⟩:=h.cells
 have hg:=h.lt
 have hf:=qS.few
 have hat:=h.hat
 unfold jA
 by_cases hc:s.code=0
 ·have e0:(s.code == 0)=true:=by rw[hc];rfl
  cases hi:kA ts s t.data.toList with
  | true=>
   have ht:yL ts s t.data.toList=true:=by unfold yL;rw[e0,hi];rfl
   have jF:=rN hi
   rw[if_pos ht,ht]
   rw[hi]at HI
   rw[hc]at c4
   clear h qS e0 hi ht c0 c2 c3 c5
   go_enter Tryz.func82,Tryz.ntmps82
   go_wp2_with fail
   refine(qA HI).mono ?_
   rintro e w1 ⟨rfl,hb⟩
   have H1:=qC ((qA H).later hb)
   have d1:=cell_later hb c1
   have z1:=(qA H1).free 1
   have HB:=qC hb
   clear HI H hb c1 c4
   go_wp2
   go_ret
   exact⟨rfl,(qA H1).adv jF,(PK.of_below (qA HB)).set⟩
  | false=>
   have ht:yL ts s t.data.toList=false:=by unfold yL;rw[hi];simp
   rw[if_neg (by rw[ht];simp),ht]
   rw[hi]at HI
   rw[hc]at c4
   clear h qS e0 hi ht c0 c2 c3 c5
   go_enter Tryz.func82,Tryz.ntmps82
   go_wp2_with fail
   refine(qA HI).mono ?_
   rintro e w1 ⟨rfl,hb⟩
   have H1:=qC ((qA H).later hb)
   have HB:=qC hb
   clear HI H hb c1 c4
   go_wp2
   go_ret
   exact⟨rfl,qA H1,PK.of_below (qA HB)⟩
 ·have e0:(s.code == 0)=false:=beq_eq_false_iff_ne.2 hc
  have ht:yL ts s t.data.toList=false:=by unfold yL;rw[e0];rfl
  rw[if_neg (by rw[ht];simp),ht]
  clear h qS ht c0 c2 c3 c5 HI
  go_enter Tryz.func82,Tryz.ntmps82
  go_wp2
  go_ret
  exact⟨rfl,qA H,PK.refl _ _ _⟩
theorem qHi{g:Nat}{lp:Option Addr}{lc:PX}{ts:List V3}{v:Value}{s:PS}{w:World}(qS:TS ts)(h:zD w g lp lc ts v s)(c:Int) :
  Calls Tryz.prog 115 #[.pointer (some ⟨g,0,none⟩),.int .i64 c] w fun e w'=>e=.returned (.tuple #[])∧zD w' g lp lc ts v (u9 ts c s)∧PK g v v w w':=by
 obtain⟨c0,c1,c2,c3,c4,c5⟩:=h.cells
 have hg:=h.lt
 have z4:=h.free 4
 have H:=qC h
 unfold u9
 by_cases hc:s.code=0
 ·rw[if_pos hc]
  rw[hc]at c4
  have hn:qU ts { s with code:=c }=qU ts s:=by unfold qU;rfl
  have HN:=qC (xR qS (h.setCode c))
  rw[hn]at HN
  have H4:=qC (h.setCode c)
  have HK:=qC ((PK.refl g v w).set (o:=4) (x:=.int .i64 c))
  clear h qS c0 c1 c2 c3 c5 hn
  generalize hx:qU ts s=x at HN ⊢
  unfold mT at HN
  clear hx
  go_enter Tryz.func115,Tryz.ntmps115
  go_wp2_with fail
  refine(qA HN).mono ?_
  rintro e w1 ⟨rfl,hb⟩
  have H5:=qC ((qA H4).later hb)
  have yV:=qC ((qA HK).then_below hb)
  have d5:=(qA H5).cells.2.2.2.2.2
  have z5:=(qA H5).free 5
  have hfd:=qOl x.k x.n x.t w1
  clear HN H4 HK hb c4 z4 H
  go_wp2
  go_end0
  exact⟨rfl,(qA H5).setPlace x.n,(qA yV).set⟩
 ·rw[if_neg hc]
  have e0:(s.code == 0)=false:=beq_eq_false_iff_ne.2 hc
  clear h qS c0 c1 c2 c3 c5 hc
  go_enter Tryz.func115,Tryz.ntmps115
  go_wp2
  go_end0
  exact⟨rfl,qA H,PK.refl _ _ _⟩
theorem mE{g:Nat}{lp:Option Addr}{lc:PX}{ts:List V3}{v:Value}{s:PS}{w:World}(qS:TS ts)(h:zD w g lp lc ts v s)(t:ByteArray) :
  Calls Tryz.prog 111 #[.pointer (some ⟨g,0,none⟩),.string t] w fun e w'=>e=.returned (.tuple #[])∧zD w' g lp lc ts v (qJ ts t.data.toList s)∧PK g v v w w':=by
 have HT:=qC (jC qS h t)
 obtain⟨c0,c1,c2,c3,c4,c5⟩:=h.cells
 have hg:=h.lt
 have H:=qC h
 unfold qJ
 by_cases hc:s.code=0
 ·rw[if_pos hc]
  have e0:(s.code == 0)=true:=by rw[hc];rfl
  cases hi:kA ts s t.data.toList with
  | true=>
   rw[if_pos rfl]
   have ht:yL ts s t.data.toList=true:=by unfold yL;rw[e0,hi];rfl
   unfold jA at HT
   rw[if_pos ht,ht]at HT
   rw[hc]at c4
   clear h qS e0 hi ht c0 c1 c2 c3 c5
   go_enter Tryz.func111,Tryz.ntmps111
   go_wp2_with fail
   refine(qA HT).mono ?_
   rintro e w1 ⟨rfl,hb,hk⟩
   have H1:=qC hb
   have HK:=qC hk
   clear HT hb hk c4
   go_wp2
   go_end0
   exact⟨rfl,qA H1,qA HK⟩
  | false=>
   rw[if_neg (by simp)]
   have ht:yL ts s t.data.toList=false:=by unfold yL;rw[hi];simp
   unfold jA at HT
   rw[if_neg (by rw[ht];simp),ht]at HT
   rw[hc]at c4
   have HF:=qC (fun w' (h':zD w' g lp lc ts v s)=>qHi qS h' 3)
   clear h qS e0 hi ht c0 c1 c2 c3 c5
   go_enter Tryz.func111,Tryz.ntmps111
   go_wp2_with fail
   refine(qA HT).mono ?_
   rintro e w1 ⟨rfl,hb,hk⟩
   have kN:=qC (qA HF w1 hb)
   have HK:=qC hk
   clear HT HF hb hk c4
   go_wp2_with fail
   refine(qA kN).mono ?_
   rintro e w2 ⟨rfl,hb,hk⟩
   have H2:=qC hb
   have qH:=qC ((qA HK).trans hk)
   clear kN HK hb hk
   go_wp2
   go_end0
   exact⟨rfl,qA H2,qA qH⟩
 ·rw[if_neg hc]
  have e0:(s.code == 0)=false:=beq_eq_false_iff_ne.2 hc
  clear h qS c0 c1 c2 c3 c5 hc HT
  go_enter Tryz.func111,Tryz.ntmps111
  go_wp2
  go_end0
  exact⟨rfl,qA H,PK.refl _ _ _⟩
theorem qGz{g:Nat}{lp:Option Addr}{lc:PX}{ts:List V3}{v:Value}{s:PS}{w:World}(qS:TS ts)(h:zD w g lp lc ts v s) :
  Calls Tryz.prog 110 #[.pointer (some ⟨g,0,none⟩)] w fun e w'=>e=.returned (.string (jN ts s).1)∧zD w' g lp lc ts v (jN ts s).2∧PK g v v w w':=by
 have HN:=qC (xR qS h)
 have hg:=h.lt
 have H:=qC h
 have hf:=qS.few
 have hat:=h.hat
 by_cases hk:(qU ts s).k=1
 ·have jF:=l0 (ts:=ts) (s:=s) (by rw[hk];decide)
  unfold jN
  rw[if_pos hk]
  generalize qU ts s=x at HN hk ⊢
  obtain⟨xk,xn,xt⟩:=x
  simp only at hk
  subst hk
  unfold mT at HN
  clear h qS
  go_enter Tryz.func110,Tryz.ntmps110
  go_wp2_with fail
  refine(qA HN).mono ?_
  rintro e w1 ⟨rfl,hb⟩
  have H1:=qC ((qA H).later hb)
  have HB:=qC hb
  have d1:=cell_later hb (qA H).cells.2.1
  have hg1:g<w1.heap.size:=Nat.lt_of_lt_of_le hg hb.size
  have z1:=((qA H).later hb).free 1
  clear HN hb H
  go_wp2
  go_ret
  exact⟨rfl,((qA H1).adv jF).alloc _,((PK.of_below (qA HB)).set).alloc _⟩
 ·unfold jN
  rw[if_neg hk]
  have HF:=qC (fun w' (h':zD w' g lp lc ts v s)=>qHi qS h' 3)
  generalize qU ts s=x at HN hk
  obtain⟨xk,xn,xt⟩:=x
  simp only at hk
  have e1:(xk != 1)=true:=by simp[hk]
  unfold mT at HN
  clear h qS hk
  go_enter Tryz.func110,Tryz.ntmps110
  go_wp2_with fail
  refine(qA HN).mono ?_
  rintro e w1 ⟨rfl,hb⟩
  have kN:=qC (qA HF (w1.alloc (.cells #[.int .i64 xk,.int .i64 xn,.string xt] 150)) (((qA H).later hb).alloc _))
  have HB:=qC (qG (o:=.cells #[.int .i64 xk,.int .i64 xn,.string xt] 150) hb)
  clear HN HF hb H
  go_wp2_with fail
  refine(qA kN).mono ?_
  rintro e w2 ⟨rfl,hb,hk⟩
  have H2:=qC hb
  have qH:=qC ((PK.of_below (qA HB)).trans hk)
  clear kN HB hb hk
  go_wp2
  go_ret
  exact⟨rfl,qA H2,qA qH⟩
theorem qAP{g:Nat}{lp:Option Addr}{lc:PX}{ts:List V3}{v:Value}{s:PS}{w:World}(qS:TS ts)(h:zD w g lp lc ts v s)(hd:s.dp≤20) :
  Calls Tryz.prog 113 #[.pointer (some ⟨g,0,none⟩)] w fun e w'=>e=.returned (.bool ((jS ts s).code == 0))∧zD w' g lp lc ts v (jS ts s)∧PK g v v w w':=by
 obtain⟨c0,c1,c2,c3,c4,c5⟩:=h.cells
 have hg:=h.lt
 have z3:=h.free 3
 have H3:Hid (zD (w.setCell ⟨g,3,none⟩ (.int .i64 ((s.dp:Int)+1))) g lp lc ts v { s with dp:=s.dp+1 }):=qC (by have:=h.setDp (s.dp+1);simpa using this)
 have HK:=qC ((PK.refl g v w).set (o:=3) (x:=.int .i64 ((s.dp:Int)+1)))
 have hw:IntKind.i64.wrap ((s.dp:Int)+1)=(s.dp:Int)+1:=by rw[IntKind.wrap_i64];omega
 unfold jS
 by_cases yE:20<s.dp+1
 ·rw[if_pos yE]
  have hi:(20:Int)<(s.dp:Int)+1:=by omega
  have HF:=qC (qHi qS (qA H3) 9)
  clear h qS c0 c1 c2 c5 yE H3
  generalize u9 ts 9 { s with dp:=s.dp+1 }=s2 at HF ⊢
  go_enter Tryz.func113,Tryz.ntmps113
  go_wp2_with fail
  refine(qA HF).mono ?_
  rintro e w2 ⟨rfl,hb,hk⟩
  have H2:=qC hb
  have qH:=qC ((qA HK).trans hk)
  have d4:=hb.cells.2.2.2.2.1
  clear HF HK hb hk c3 c4
  go_wp2
  go_ret
  exact⟨rfl,qA H2,qA qH⟩
 ·rw[if_neg yE]
  have hi:¬(20:Int)<(s.dp:Int)+1:=by omega
  clear h qS c0 c1 c2 c5 yE
  go_enter Tryz.func113,Tryz.ntmps113
  go_wp2
  go_ret
  exact⟨rfl,qA H3,qA HK⟩
end Go.Proofs.YtbgkfaclfnkloaaGreatDoor
