import Derived.Test.YtbgkfaclfnkloaaGreatDoorG50
import Derived.Test.YtbgkfaclfnkloaaGreatDoorG45
import Derived.Test.YtbgkfaclfnkloaaGreatDoorG46
import Derived.Test.YtbgkfaclfnkloaaGreatDoorG49
namespace Go.Proofs.YtbgkfaclfnkloaaGreatDoor
set_option linter.all false
set_option maxHeartbeats 4000000
set_option maxRecDepth 100000
section
open Go.RowKit Go.Joins
structure qSb(zs:List Int)(n:Nat):Prop where
 len:zs.length≤n
 lo:∀ i (h:i<zs.length),0≤zs[i]
 hi:∀ i (h:i<zs.length),zs[i]<(n:Int)
 up:∀ i j (h:i<zs.length) (h':j<zs.length),i<j→zs[i]<zs[j]
theorem qQl(code:List IR)(n:Nat):qSb ((dB code n).map Int.ofNat) n:=by
 have hp:(dB code n).Pairwise (· < ·):=List.Pairwise.filter _ List.pairwise_lt_range
 have hm:∀ x∈dB code n,x<n:=fun x hx=>by
  unfold dB at hx
  exact List.mem_range.1 (List.mem_filter.1 hx).1
 refine⟨?_,fun i h=>?_,fun i h=>?_,fun i j h h' hij=>?_⟩
 ·rw[List.length_map]
  unfold dB
  have:=List.length_filter_le (qDr code) (List.range n)
  simpa using this
 ·simp
 ·have h2:i<(dB code n).length:=by simpa using h
  have:=hm _ (List.getElem_mem h2)
  simp
  omega
 ·have h2:j<(dB code n).length:=by simpa using h'
  have:=List.pairwise_iff_getElem.1 hp i j (by simpa using h) h2 hij
  simp
  omega
structure FnK(l:List FR)(k:Nat)(c:List LI):Prop where
 hk:k<l.length
 code:c.map LI.i=l[k].code
 good:uS l[k].slots (l.tail.map FR.params) c
 pos:0<l[k].code.length
theorem qSj{l:List FR}(hG:dW l){k:Nat}(hk:k<l.length):∃ c,FnK l k c:=by
 obtain⟨c,h1,h2⟩:=(hG.all l[k] (List.getElem_mem hk)).code
 exact⟨c,hk,h1,h2,by rw[←h1,List.length_map];exact h2.ne⟩
theorem qP6{l:List FR}{k:Nat}{c:List LI}(hG:dW l)(yI:∀ f∈l,f.code.length≤400)(h:FnK l k c)(i:Nat)(hi:i<(l[k]'h.hk).code.length) :
  mK ((l[k]'h.hk).code[i]).op ((l[k]'h.hk).code[i]).n ((l[k]'h.hk).code[i]).m ((l[k]'h.hk).code[i]).t ((l[k]'h.hk).code[i]).vk ((l[k]'h.hk).code[i]).vn ((l[k]'h.hk).code[i]).vt:=by
 have dZ:c.length=(l[k]'h.hk).code.length:=by rw[←h.code,List.length_map]
 have hic:i<c.length:=by omega
 have qOZ:=List.getElem?_eq_getElem hic
 have he:c[i].i=(l[k]'h.hk).code[i]:=by
  have:(c.map LI.i)[i]'(by simpa using hic)=(l[k]'h.hk).code[i]:=by simp only[h.code]
  simpa using this
 obtain⟨_,_,_,_,hR,_⟩:=h.good.ok i _ qOZ
 have h4:=yI _ (List.getElem_mem h.hk)
 obtain⟨f,r,rfl,hn,hp,kE,hlen⟩:=hG.f0
 have hS:=(hG.all _ (List.getElem_mem h.hk)).sl
 rw[he]at hR
 refine qRZ hR hS (by simpa using hlen) (fun q hq=>?_) (fun hj=>?_)
 ·obtain⟨g,hg,rfl⟩:=List.mem_map.1 hq
  exact(kE g hg).2
 ·have:=qEL h.good qOZ (by rw[he];exact hj)
  rw[he]at this
  omega
structure qEs(W0:World)(L:sA)(l:List FR)(cap k:Nat)(zs:List Int)(cn hn:Nat):Prop where
 tg:∀ W,Below W0.heap.size W0 W→Calls Tryz.prog 6 #[.agg #[.slice L.p l.length cap],.int .i64 (k:Int)] W fun e w'=>∃ v,e=.returned (.tuple #[v,.int .i64 0])∧qR w' W.heap.size v zs∧Below W.heap.size W w'
 stg:∀ W,Below W0.heap.size W0 W→Calls Tryz.prog 7 #[.agg #[.slice L.p l.length cap],.int .i64 (k:Int)] W fun e w'=>∃ v,e=.returned (.tuple #[v,.int .i64 0])∧qR w' W.heap.size v zs∧Below W.heap.size W w'
 re:∀ W,Below W0.heap.size W0 W→Calls Tryz.prog 8 #[.agg #[.slice L.p l.length cap],.int .i64 (k:Int)] W fun e w'=>e=.returned (.tuple #[.int .i64 (cn:Int),.int .i64 0])∧Below W.heap.size W w'
 sre:∀ W,Below W0.heap.size W0 W→Calls Tryz.prog 9 #[.agg #[.slice L.p l.length cap],.int .i64 (k:Int)] W fun e w'=>e=.returned (.tuple #[.int .i64 (cn:Int),.int .i64 0])∧Below W.heap.size W w'
 st:∀ W,Below W0.heap.size W0 W→Calls Tryz.prog 10 #[.agg #[.slice L.p l.length cap],.int .i64 (k:Int)] W fun e w'=>e=.returned (.tuple #[.int .i64 (hn:Int),.int .i64 0])∧Below W.heap.size W w'
 sst:∀ W,Below W0.heap.size W0 W→Calls Tryz.prog 11 #[.agg #[.slice L.p l.length cap],.int .i64 (k:Int)] W fun e w'=>e=.returned (.tuple #[.int .i64 (hn:Int),.int .i64 0])∧Below W.heap.size W w'
theorem qPw{S:Nat}{Q:List Nat}{c:List LI}(h:uS S Q c):∃ cn hn:Nat,1≤cn∧cn≤c.length∧1≤hn∧(∀ vs,nN c vs []→aN vs=cn)∧∀ m,qBc c m→m=hn:=by
 by_cases h1:∃ vs,nN c vs []
 ·obtain⟨vs,hv⟩:=h1
  by_cases h2:∃ m,qBc c m
  ·obtain⟨m,hm⟩:=h2
   exact⟨aN vs,m,qGk hv.z,by have:=qBy vs;rw[hv.len]at this;exact this,qKg h hm,fun xQ hv'=>by rw[hv'.unique hv],fun m' xC=>xC.unique hm⟩
  ·exact⟨aN vs,1,qGk hv.z,by have:=qBy vs;rw[hv.len]at this;exact this,by omega,fun xQ hv'=>by rw[hv'.unique hv],fun m' xC=>absurd ⟨m',xC⟩ h2⟩
 ·by_cases h2:∃ m,qBc c m
  ·obtain⟨m,hm⟩:=h2
   exact⟨1,m,by omega,h.ne,qKg h hm,fun xQ hv'=>absurd ⟨xQ,hv'⟩ h1,fun m' xC=>xC.unique hm⟩
  ·exact⟨1,1,by omega,h.ne,by omega,fun xQ hv'=>absurd ⟨xQ,hv'⟩ h1,fun m' xC=>absurd ⟨m',xC⟩ h2⟩
theorem qE1{W0:World}{L:sA}{l:List FR}{k:Nat}{c:List LI}(cap:Nat)(hF:zW W0 L l)(hG:dW l)(yI:∀ f∈l,f.code.length≤400)(ht:yT W0 1 jX)(h:FnK l k c) :
  ∃ (zs:List Int) (cn hn:Nat),qSb zs (l[k]'h.hk).code.length∧1≤cn∧cn≤(l[k]'h.hk).code.length∧1≤hn∧qEs W0 L l cap k zs cn hn:=by
 obtain⟨cn,hn,a1,a2,a3,a4,a5⟩:=qPw h.good
 have dZ:c.length=(l[k]'h.hk).code.length:=by rw[←h.code,List.length_map]
 refine⟨_,cn,hn,qQl (l[k]'h.hk).code (l[k]'h.hk).code.length,a1,by omega,a3,⟨fun W hW=>qDK L l cap k c W (hF.later hW) hG yI (qC (ht.later hW)) h.hk h.code h.good,fun W hW=>iH L l cap k W (hF.later hW) hG yI h.hk,fun W hW=>?_,fun W hW=>?_,fun W hW=>?_,fun W hW=>?_⟩⟩
 ·refine(qGr L l cap k c W (hF.later hW) hG yI (qC (ht.later hW)) h.hk h.code h.good).mono ?_
  rintro e w' ⟨vs,rfl,hv,hb⟩
  rw[a4 vs hv]
  exact⟨rfl,hb⟩
 ·refine(qA4 L l cap k c W (hF.later hW) hG yI h.hk h.code h.good).mono ?_
  rintro e w' ⟨vs,rfl,hv,hb⟩
  rw[a4 vs hv]
  exact⟨rfl,hb⟩
 ·refine(qDj L l cap k c W (hF.later hW) hG yI (qC (ht.later hW)) h.hk h.code h.good).mono ?_
  rintro e w' ⟨m,rfl,hm,hb⟩
  rw[a5 m hm]
  exact⟨rfl,hb⟩
 ·refine(iE L l cap k c W (hF.later hW) hG yI h.hk h.code h.good).mono ?_
  rintro e w' ⟨m,rfl,hm,hb⟩
  rw[a5 m hm]
  exact⟨rfl,hb⟩
theorem qRd(a0:Option Addr)(qOT qTc:Nat)(z0:List Int)(a1:Option Addr)(qJO qQS:Nat)(z1:List Int)(w:World)(h0:qNX .u8 w a0 qOT qTc z0)(h1:qNX .u8 w a1 qJO qQS z1)(hP:zR w)(qUl:Hid (yT w 1 jX))(hop:Hid (yT w 0 j6)) :
  Calls Tryz.prog 3 #[.slice a0 qOT qTc,.slice a1 qJO qQS] w fun e w'=>e=.returned (.bool true)∧Below w.heap.size w w':=by
 have hl0:qOT≤9223372036854775807:=by
  rcases h0 with ⟨_,rfl,_⟩ | ⟨x,_,h1,h2,_⟩
  ·omega
  ·unfold maxLen at h2;omega
 have hl1:qJO≤9223372036854775807:=by
  rcases h1 with ⟨_,rfl,_⟩ | ⟨x,_,h1,h2,_⟩
  ·omega
  ·unfold maxLen at h2;omega
 have HR0:=qC h0
 have HR1:=qC (qCW h1)
 have HP:=qC hP
 clear h0 h1 hP
 by_cases g0:1048576<qOT
 ·go_enter Tryz.func3,Tryz.ntmps3
  go_wp2
  go_ret
  exact⟨rfl,Below.refl _ _⟩
 by_cases g1:1048576<qJO
 ·go_enter Tryz.func3,Tryz.ntmps3
  go_wp2
  go_ret
  exact⟨rfl,Below.refl _ _⟩
 have HD:=qC (qAc a0 qOT qTc w (by omega) (qCW (qA HR0)))
 have qV5:qJO≤1048576:=by omega
 go_enter Tryz.func3,Tryz.ntmps3
 go_wp2_with fail
 refine(qA HD).mono ?_
 rintro e w1 ⟨l,L,cap,rfl,hG,yI,hF,jD⟩
 clear HD HR0
 have y8:=qC (qG (o:=.cells #[.slice L.p l.length cap] 25) jD)
 have hl9:1≤l.length∧l.length≤9:=by
  obtain⟨f,r,rfl,_,_,_,hr⟩:=hG.f0
  simp;omega
 obtain⟨ll,hll⟩:∃ ll:Nat,ll=l.length:=⟨_,rfl⟩
 have hF2:=hF.later (qD w1 (.cells #[.slice L.p l.length cap] 25))
 have mZ:=qC hF2
 have HG:=qC hG
 have H4:=qC yI
 have dT:=qC (show(w1.alloc (.cells #[.slice L.p l.length cap] 25)).cell? ⟨w1.heap.size,0,none⟩=some (.slice L.p l.length cap) by simp)
 have HA0:=qC (fun (W:World) (hW:Below w.heap.size w W)=>qXv a1 qJO qQS l.length W qV5 ((qA HR1).later hW) hl9.1 (by omega))
 clear hF hF2 jD hG yI hll ll
 have jEm:1≤l.length:=hl9.1
 have jCV:l.length≤9:=hl9.2
 clear hl9
 go_wp2_with fail
 generalize hW0:w1.alloc (.cells #[.slice L.p l.length cap] 25)=W0 at y8 mZ dT ⊢
 have wW:w1.heap.size<W0.heap.size:=by rw[←hW0];simp
 clear hW0
 refine(qA HA0 _ (qA y8)).mono ?_
 rintro e w2 ⟨k,rfl,hk,hb⟩
 have uF:=qC hb
 clear hb HA0
 obtain⟨c,hKc⟩:=qSj (qA HG) hk
 obtain⟨zs,cn,hn,hT,qXZ,qSB,hhn,hCC⟩:∃ (zs:List Int) (cn hn:Nat),qSb zs (l[k]'hk).code.length∧1≤cn∧cn≤(l[k]'hk).code.length∧1≤hn∧qEs W0 L l cap k zs cn hn:=qE1 cap (qA mZ) (qA HG) (qA H4) ((qA qUl).later (qA y8)) hKc
 have HCC:=qC hCC
 have HT:=qC hT
 have hcp:0<(l[k]'hk).code.length:=hKc.pos
 have h4:=qA H4 _ (List.getElem_mem hk)
 have dR:Hid (∀ (i:Nat) (hi:i<(l[k]'hk).code.length),mK ((l[k]'hk).code[i]).op ((l[k]'hk).code[i]).n ((l[k]'hk).code[i]).m ((l[k]'hk).code[i]).t ((l[k]'hk).code[i]).vk ((l[k]'hk).code[i]).vn ((l[k]'hk).code[i]).vt):=qC (fun i hi=>qP6 (qA HG) (qA H4) hKc i hi)
 obtain⟨b,off,hLp,f0,f1,f2,f3,fC⟩:=qA mZ k hk
 clear f0 f1 f2
 clear hCC hT hKc HG H4 mZ
 generalize l[k]=f at qSB hcp h4 HT dR f3 fC
 obtain⟨zF,yZ,mQ,qL⟩:=f
 dsimp only at qSB hcp h4 HT dR f3 fC
 generalize L.pc k=pc at f3 fC
 generalize L.cc k=cc at f3
 have HF3:=qC f3
 have HFC:=qC fC
 have HLP:=qC hLp
 clear f3 fC hLp
 have hzl:zs.length≤400:=by have:=(qA HT).len;omega
 have aX:(k:Int)<(l.length:Int):=by omega
 have c2:=cell_later (qA uF) (qA dT)
 go_wp2_with fail
 refine((qA HCC).tg _ (qA uF)).mono ?_
 rintro e w3 ⟨v,rfl,hI,hb⟩
 have uO:=qC (qE (qA uF) hb)
 obtain⟨pa,ca,rfl,hIa⟩:=hI.ints
 have HIa:=qC hIa
 clear hI hIa
 clear hb c2
 have c3:=cell_later (qA uO) (qA dT)
 go_wp2_with fail
 refine((qA HCC).stg _ (qA uO)).mono ?_
 rintro e w4 ⟨v,rfl,hI,hb⟩
 have pV:=qC (qE (qA uO) hb)
 obtain⟨pb,cb,rfl,hIb⟩:=hI.ints
 have HIb:=qC hIb
 have qUv:=qC ((qA HIa).later hb)
 clear hI hIb HIa
 clear hb c3
 have c4:=cell_later (qA pV) (qA dT)
 go_wp2_with fail
 refine((qA HCC).re _ (qA pV)).mono ?_
 rintro e w5 ⟨rfl,hb⟩
 have lO:=qC (qE (qA pV) hb)
 have qV7:=qC ((qA qUv).later hb)
 have qV4:=qC ((qA HIb).later hb)
 clear qUv HIb
 clear hb c4
 have c5:=cell_later (qA lO) (qA dT)
 go_wp2_with fail
 refine((qA HCC).sre _ (qA lO)).mono ?_
 rintro e w6 ⟨rfl,hb⟩
 have HB6:=qC (qE (qA lO) hb)
 have qWj:=qC ((qA qV7).later hb)
 have qVH:=qC ((qA qV4).later hb)
 clear qV7 qV4
 clear hb c5
 have c6:=cell_later (qA HB6) (qA dT)
 go_wp2_with fail
 refine((qA HCC).st _ (qA HB6)).mono ?_
 rintro e w7 ⟨rfl,hb⟩
 have HB7:=qC (qE (qA HB6) hb)
 have qUE:=qC ((qA qWj).later hb)
 have qUr:=qC ((qA qVH).later hb)
 clear qWj qVH
 clear hb c6
 have c7:=cell_later (qA HB7) (qA dT)
 go_wp2_with fail
 refine((qA HCC).sst _ (qA HB7)).mono ?_
 rintro e w8 ⟨rfl,hb⟩
 have HB8:=qC (qE (qA HB7) hb)
 have qUX:=qC ((qA qUE).later hb)
 have qVp:=qC ((qA qUr).later hb)
 clear qUE qUr
 clear hb c7
 have hC1:=qA dT
 rw[qA HLP]at hC1
 have yW:=qC hC1
 have c8:=cell_later (qA HB8) (qA dT)
 have f8:=cell_later (qA HB8) (qA HF3)
 rw[qA HLP]at c8
 clear hC1 dT HCC
 have vG:=qC (fun (W:World) (hW:Below w.heap.size w W)=>qXn a1 qJO qQS qL.length W qV5 ((qA HR1).later hW) hcp h4)
 go_wp2_with fail
 refine(qA vG _ (qE (qA y8) (qA HB8))).mono ?_
 rintro e w9 ⟨i,rfl,hi,hb⟩
 have HB9:=qC (qE (qA HB8) hb)
 have qVv:=qC ((qA qUX).later hb)
 have qUC:=qC ((qA qVp).later hb)
 clear hb c8 f8 qUX qVp vG
 have hii:(i:Int)<(qL.length:Int):=by omega
 have hIB:=qA dR i hi
 have HQC:=qC (fun (W:World) (hW:Below W0.heap.size W0 W)=>(qA HFC).later hW i hi)
 obtain⟨b2,iX,hpc,_⟩:=qA HFC i hi
 have HXI:=qC (fun (W:World) (h1:zR W) (h2:yT W 0 j6)=>qHu _ _ _ _ _ _ _ W hIB h1 h2)
 have HXS:=qC (fun (W:World)=>qA8 _ _ _ _ _ _ _ W hIB)
 clear hIB
 have HQ2:Hid (∀ W,Below W0.heap.size W0 W→W.cell? ⟨b2,iX+i*7,none⟩=some (.int .i64 qL[i].op)∧W.cell? ⟨b2,iX+i*7+1,none⟩=some (.int .i64 qL[i].n)∧W.cell? ⟨b2,iX+i*7+2,none⟩=some (.int .i64 qL[i].m)∧W.cell? ⟨b2,iX+i*7+3,none⟩=some (.string qL[i].t)∧W.cell? ⟨b2,iX+i*7+4,none⟩=some (.int .i64 qL[i].vk)∧W.cell? ⟨b2,iX+i*7+5,none⟩=some (.int .i64 qL[i].vn)∧W.cell? ⟨b2,iX+i*7+6,none⟩=some (.string qL[i].vt)):=qC fun W hW=>by
  obtain⟨b3,qZr,pC,q⟩:=qA HQC W hW
  rw[hpc]at pC
  obtain⟨rfl,rfl⟩:b2=b3∧iX=qZr:=by simpa using pC
  exact q
 generalize qL[i]=ir at HXI HXS HQ2
 obtain⟨iop,rI,iM,zO,zM,zP,zL⟩:=ir
 dsimp only at HXI HXS HQ2
 generalize j9 iop rI iM zO zM zP zL=txt at HXI HXS
 subst hpc
 clear HQC dR
 have c9:=cell_later (qA HB9) (qA yW)
 have f9:=cell_later (qA HB9) (qA HF3)
 obtain⟨q0,q1,q2,q3,q4,q5,q6⟩:=qA HQ2 _ (qA HB9)
 go_wp2_with fail
 refine(qA HXI _ ((qA HP).later (qE (qA y8) (qA HB9)) (Nat.le_refl _)) ((qA hop).later (qE (qA y8) (qA HB9)))).mono ?_
 rintro e w10 ⟨rfl,hb⟩
 have qQF:=qC (qE (qA HB9) hb)
 have qRm:=qC ((qA qVv).later hb)
 have qRJ:=qC ((qA qUC).later hb)
 clear hb c9 f9 q0 q1 q2 q3 q4 q5 q6 qVv qUC HXI
 have c10:=cell_later (qA qQF) (qA yW)
 have f10:=cell_later (qA qQF) (qA HF3)
 obtain⟨q0,q1,q2,q3,q4,q5,q6⟩:=qA HQ2 _ (qA qQF)
 go_wp2_with fail
 refine(qA HXS _).mono ?_
 rintro e w11 ⟨rfl,hb⟩
 have qSD:=qC (qE (qA qQF) hb)
 have qKx:=qC ((qA qRm).later hb)
 have qOO:=qC ((qA qRJ).later hb)
 clear hb c10 f10 q0 q1 q2 q3 q4 q5 q6 qRm qRJ HXS HQ2
 have qYz:¬(cn:Int)<1:=by omega
 have qYT:¬(qL.length:Int)<(cn:Int):=by omega
 have qZB:¬(hn:Int)<1:=by omega
 go_upto_region 14 with fail
 have c11:=cell_later (qA qSD) (qA yW)
 have f11:=cell_later (qA qSD) (qA HF3)
 go_cut [164] from 25 (fun s wx=>s=.bool false∧Hid (Below w11.heap.size w11 wx))
 case first=>
  go_wp2_with fail
  refine(qE7 pa pb ca cb zs _ (qA qKx) (qA qOO) (by omega)).mono ?_
  rintro e w12 ⟨rfl,hb⟩
  have qOW:=qC hb
  have c12:=cell_later hb c11
  have f12:=cell_later hb f11
  clear hb c11 f11 qKx qOO
  go_wp2
  go_meet
  case rel=>exact⟨by rw[decide_eq_false (show ¬(cn:Int)<1 by omega),decide_eq_false (show ¬qL.length<cn by omega),decide_eq_false (show ¬(hn:Int)<1 by omega)];rfl,qOW⟩
 case rest=>
 obtain⟨rfl,uQ⟩:=hcut
 have hb:=qA uQ
 have qOW:=qC (qE (qA qSD) hb)
 have qRj:=qC ((qA qKx).later hb)
 clear hb uQ qKx qOO c11 f11 qXZ qSB qYz qYT hhn qZB
 have c12:=cell_later (qA qOW) (qA yW)
 have f12:=cell_later (qA qOW) (qA HF3)
 go_wp2
 go_loopw[24] (fun x wx=>∃ j:Nat,j≤zs.length∧x=.int .i64 j∧Below wc.heap.size wc wx) (fun x _=>zs.length-(intOf x).toNat)
 case atStart=>exact⟨0,by omega,rfl,Below.refl _ _⟩
 case round=>
  obtain⟨j,hj,rfl,uL⟩:=hrel
  by_cases jF:j<zs.length
  ·have hji:(j:Int)<(zs.length:Int):=by omega
   have cx:=cell_later uL c12
   have fx:=cell_later uL f12
   obtain⟨b4,qYn,hpa,z0'⟩:=(qA qRj).later uL j jF
   have hlo:=(qA HT).lo j jF
   have hhi:=(qA HT).hi j jF
   have qVg:¬zs[j]<0:=by omega
   have qWd:¬(qL.length:Int)≤zs[j]:=by omega
   by_cases hj0:j=0
   ·have HJ:=qC hj0
    subst hpa
    clear hj0 c12 f12
    generalize zs[j]=zj at z0' hlo hhi qVg qWd
    go_wp2_with fail
    have jD:decide (zj<0)=false:=decide_eq_false (by omega)
    have qY:decide ((qL.length:Int)≤zj)=false:=decide_eq_false (by omega)
    have uN:decide ((0:Int)<(j:Int))=false:=decide_eq_false (by have:=qA HJ;omega)
    have uU:decide (0<j)=false:=decide_eq_false (by have:=qA HJ;omega)
    go_quiet (fail)
    clear jD qY uN uU
    go_wp2
    go_roundw
    case rel=>exact⟨j+1,by omega,by go_num,below_drewN uL _⟩
    case measure=>simp[intOf];omega
   ·obtain⟨b5,qZp,qS8,z5⟩:=(qA qRj).later uL (j-1) (by omega)
    rw[hpa]at qS8
    obtain⟨rfl,rfl⟩:b4=b5∧qYn=qZp:=by simpa using qS8
    have hup:=(qA HT).up (j-1) j (by omega) jF (by omega)
    have hjp:(0:Int)<(j:Int):=by omega
    have jEb:0<j:=by omega
    obtain⟨jm,hjm⟩:∃ jm:Nat,jm=j-1:=⟨_,rfl⟩
    have hwj:IntKind.i64.wrap ((j:Int)-1)=(jm:Int):=by rw[IntKind.wrap_i64];omega
    have jCw:IntKind.i64.wrap ((j:Int) + -1)=(jm:Int):=by rw[IntKind.wrap_i64];omega
    have jEw:(jm:Int)<(zs.length:Int):=by omega
    have qUT:¬zs[j]≤zs[j-1]:=by omega
    subst hpa
    clear hup qS8 c12 f12
    generalize hzm:zs[j-1]=zm at z5 qUT
    rw[←hjm]at z5
    generalize zs[j]=zj at z0' hlo hhi qVg qWd qUT
    clear hzm hjm hj0
    go_wp2_with fail
    have jD:decide (zj<0)=false:=decide_eq_false (by omega)
    have qY:decide ((qL.length:Int)≤zj)=false:=decide_eq_false (by omega)
    have uN:decide ((0:Int)<(j:Int))=true:=decide_eq_true (by omega)
    have uU:decide (0<j)=true:=decide_eq_true (by omega)
    have gL:decide (zj≤zm)=false:=decide_eq_false (by omega)
    go_quiet (fail)
    clear jD qY uN uU gL
    go_wp2
    go_roundw
    case rel=>exact⟨j+1,by omega,by go_num,below_drewN uL _⟩
    case measure=>simp[intOf];omega
  ·have hji:¬(j:Int)<(zs.length:Int):=by omega
   go_wp2
   go_ret
   exact⟨rfl,qE (qE (qA y8) (qA qOW)) uL⟩
end
end Go.Proofs.YtbgkfaclfnkloaaGreatDoor
