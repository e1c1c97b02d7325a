import Derived.Test.YtbgkfaclfnkloaaGreatDoorG42
import Derived.Test.YtbgkfaclfnkloaaGreatDoorG38
import Derived.Test.YtbgkfaclfnkloaaGreatDoorG37
namespace Go.Proofs.YtbgkfaclfnkloaaGreatDoor
set_option linter.all false
set_option maxHeartbeats 4000000
set_option maxRecDepth 100000
section
open Go.RowKit Go.Joins
theorem qEL{S:Nat}{Q:List Nat}{c:List LI}(hc:uS S Q c){k:Nat}{x:LI}(hx:c[k]? = some x)(hj:xL x.i.op=true):x.i.n<(c.length:Int):=by
 have h0:=cR (hc.ok k x hx).2.2.2.2.1 (by unfold xL at hj;simp at hj;omega)
 have hm:∃ h t,(x.i.n.toNat,h,t)∈yR x.i k x.h x.t:=by
  unfold xL at hj
  simp at hj
  rcases hj with (((e | e) | e) | e) | e
  ·exact⟨x.h,x.t,by unfold yR;rw[e];simp⟩
  ·exact⟨x.h-1,x.t,by unfold yR;rw[e];simp⟩
  ·exact⟨x.h,x.t,by unfold yR;rw[e];simp⟩
  ·exact⟨x.h,x.t,by unfold yR;rw[e];simp⟩
  ·exact⟨x.h+1,x.t,by unfold yR;rw[e];simp⟩
 obtain⟨h,t,hm⟩:=hm
 obtain⟨x',hx',_⟩:=(hc.ok k x hx).2.2.2.2.2 _ hm
 have:=(List.getElem?_eq_some_iff.1 hx').1
 omega
def qDs(w:World)(b:Nat)(L:sA)(fs:List FR)(cap:Nat):Prop:=w.cell? ⟨b,0,none⟩=some (.slice L.p fs.length cap)∧b<w.heap.size
theorem qDs.later{w w':World}{b:Nat}{L:sA}{fs:List FR}{cap:Nat}(h:qDs w b L fs cap)(hb:Below w.heap.size w w'):qDs w' b L fs cap:=⟨cell_later hb h.1,Nat.lt_of_lt_of_le h.2 hb.size⟩
def eM(w:World)(b:Nat)(f:FR)(pc:Option Addr)(cc:Nat):Prop:=w.cell? ⟨b,0,none⟩=some (.string f.name)∧w.cell? ⟨b,1,none⟩=some (.int .i64 (f.params:Int))∧w.cell? ⟨b,2,none⟩=some (.int .i64 (f.slots:Int))∧w.cell? ⟨b,3,none⟩=some (.slice pc f.code.length cc)∧b<w.heap.size
theorem eM.later{w w':World}{b:Nat}{f:FR}{pc:Option Addr}{cc:Nat}(h:eM w b f pc cc)(hb:Below w.heap.size w w'):eM w' b f pc cc:=⟨cell_later hb h.1,cell_later hb h.2.1,cell_later hb h.2.2.1,cell_later hb h.2.2.2.1,Nat.lt_of_lt_of_le h.2.2.2.2 hb.size⟩
theorem eM.new(w:World)(n:Nat)(f:FR)(pc:Option Addr)(cc:Nat)(t:TypeId)(hn:w.heap.size=n):eM (w.alloc (.cells #[.string f.name,.int .i64 (f.params:Int),.int .i64 (f.slots:Int),.slice pc f.code.length cc] t)) n f pc cc:=by
 subst hn
 exact⟨by simp,by simp,by simp,by simp,by simp⟩
theorem sV(L:sA)(fs:List FR)(cap:Nat)(w:World)(hF:zW w L fs)(hG:dW fs)(yI:∀ f∈fs,f.code.length≤400) :
  Calls Tryz.prog 26 #[.agg #[.slice L.p fs.length cap]] w fun e w'=>e=.returned (.bool true)∧Below w.heap.size w w':=by
 obtain⟨f0,fr,rP,uJ,hp0,hfr,hr8⟩:=hG.f0
 have hl9:fs.length≤9:=by rw[rP];simp;omega
 have hl1:1≤fs.length:=by rw[rP];simp
 obtain⟨Q,hQ⟩:∃ Q,Q=fs.tail.map FR.params:=⟨_,rfl⟩
 have HGA:=qC fun k (hk:k<fs.length)=>hG.all fs[k] (List.getElem_mem hk)
 rw[←hQ]at HGA
 have H4:=qC fun k (hk:k<fs.length)=>yI fs[k] (List.getElem_mem hk)
 have gH:=qC (show ∀ hk:0<fs.length,fs[0].name=e0∧fs[0].params=1 from fun hk=>by subst rP;exact⟨uJ,hp0⟩)
 have HDk:=qC (show ∀ k (hk:k<fs.length),0<k→vE fs[k].name=true∧fs[k].params≤4 from fun k hk h0=>by
  subst rP
  obtain⟨k,rfl⟩:∃ k',k=k'+1:=⟨k-1,by omega⟩
  exact hfr _ (List.getElem_mem (by simpa using hk)))
 have HF:=qC hF
 clear hF hG yI rP uJ hp0 hfr hr8
 have qZT:=qC (show qDs (w.alloc (.cells #[.slice L.p fs.length cap] 25)) w.heap.size L fs cap from⟨by simp,by simp⟩)
 go_enter Tryz.func26,Tryz.ntmps26
 go_wp2_with fail
 refine(qP _ _ _ true _ (by simp;omega)).mono ?_
 rintro e w' ⟨rfl,rfl⟩
 go_wp2
 go_loopw[3] (fun i wx=>∃ k:Nat,k≤fs.length∧i=.int .i64 k∧Below (w.alloc (.cells #[.slice L.p fs.length cap] 25)).heap.size (w.alloc (.cells #[.slice L.p fs.length cap] 25)) wx) (fun i _=>fs.length-(intOf i).toNat)
 case atStart=>exact⟨0,by omega,rfl,Below.refl _ _⟩
 case round=>
  obtain⟨k,hk,rfl,uL⟩:=hrel
  obtain⟨wo,hwo⟩:∃ wo,wo=wr:=⟨_,rfl⟩
  subst hwo
  have qQy:Below w.heap.size w wo:=qE (qD _ _) uL
  have hBP:=qC ((qA qZT).later uL)
  have hpw:=(qA hBP).1
  by_cases jF:k<fs.length
  ·obtain⟨fb,qFF,hp,g0,g1,g2,g3,qS2⟩:=(qA HF).later qQy k jF
   have hCA:=qC qS2
   have hGF:=qA HGA k jF
   have h4:=qA H4 k jF
   have hD0:=qC fun (h0:k=0)=>show fs[k].name=e0∧fs[k].params=1 from by subst h0;exact qA gH jF
   have hDk:=qC (qA HDk k jF)
   have aX:(k:Int)<(fs.length:Int):=by omega
   have hOut:Hid (∀ w5,Below wo.heap.size wo w5→Below (w.alloc (.cells #[.slice L.p fs.length cap] 25)).heap.size (w.alloc (.cells #[.slice L.p fs.length cap] 25)) w5):=qC fun w5 h5=>qE uL h5
   generalize fs[k]=f at g0 g1 g2 g3 hCA hGF h4 hD0 hDk qS2
   obtain⟨zF,yZ,mQ,qL⟩:=f
   dsimp only at g0 g1 g2 g3 h4
   obtain⟨hsl,hpa,cc,hcc,nY⟩:=hGF
   dsimp only at hsl hpa hcc nY
   have qDc:0<qL.length:=by rw[←hcc,List.length_map];exact nY.ne
   have HIR:=qC (show ∀ j (h:j<qL.length),fP mQ Q qL[j] from fun j h=>by
    have hl:j<cc.length:=by rw[←hcc,List.length_map]at h;exact h
    have:=(nY.ok j cc[j] (List.getElem?_eq_getElem hl)).2.2.2.2.1
    subst hcc
    simpa using this)
   have HJ:=qC (show ∀ j (h:j<qL.length),xL qL[j].op=true→qL[j].n<(qL.length:Int) from fun j h hj=>by
    have hl:j<cc.length:=by rw[←hcc,List.length_map]at h;exact h
    subst hcc
    have:=qEL nY (List.getElem?_eq_getElem hl) (by simpa using hj)
    simpa using this)
   have hpz:(yZ:Int)≤(mQ:Int):=by omega
   rw[hp]at hpw
   have HPp:=qC hp
   clear qS2 hp
   have hq0:=g0
   have hq1:=g1
   have hq2:=g2
   clear hq0 hq1 hq2
   have hq0:True:=trivial
   have hq1:True:=trivial
   have hq2:True:=trivial
   by_cases h0:k=0
   ·obtain⟨hn,hpp⟩:=qA hD0 h0
    dsimp only at hn hpp
    have fH:¬(0:Int)<(k:Int):=by omega
    have hke:((k:Int) == 0)=true:=by simp[h0]
    subst hn hpp
    clear h0
    unfold e0 at *
    go_wp2_with fail
    refine(qP 1 0 4 true _ (by decide)).mono ?_
    rintro e w2 ⟨rfl,hw2⟩
    have qY:Below (wo.alloc (.cells #[.string ⟨#[]⟩,.int .i64 ((1:Nat):Int),.int .i64 (mQ:Int),.slice (L.pc k) qL.length (L.cc k)] 35)).heap.size (wo.alloc (.cells #[.string ⟨#[]⟩,.int .i64 ((1:Nat):Int),.int .i64 (mQ:Int),.slice (L.pc k) qL.length (L.cc k)] 35)) w2:=by rw[hw2];exact Below.refl _ _
    obtain⟨r0,r1,r2,r3,r4⟩:=(eM.new wo wo.heap.size ⟨⟨#[]⟩,1,mQ,qL⟩ (L.pc k) (L.cc k) 35 rfl).later qY
    dsimp only at r0 r1 r2 r3
    clear hw2
    go_wp2_with fail
    refine(qP _ _ _ true _ (by simp;omega)).mono ?_
    rintro e w2 ⟨rfl,rfl⟩
    go_wp2_with fail
    refine(qP _ _ _ true _ (by simp;omega)).mono ?_
    rintro e w2 ⟨rfl,rfl⟩
    have HWX:Hid (∀ wx,Below w2.heap.size w2 wx→qDs wx w.heap.size L fs cap∧eM wx wo.heap.size ⟨⟨#[]⟩,1,mQ,qL⟩ (L.pc k) (L.cc k)∧zW wx L fs∧vY wx (L.pc k) qL∧Below w.heap.size w wx):=qC fun wx hx=>by
     have jD:=qE (qE (qD wo _) qY) hx
     have uQ:=qE qQy jD
     exact⟨(qA hBP).later jD,((eM.new wo wo.heap.size ⟨⟨#[]⟩,1,mQ,qL⟩ (L.pc k) (L.cc k) 35 rfl).later qY).later hx,(qA HF).later uQ,(qA hCA).later jD,uQ⟩
    obtain⟨-,⟨-,-,-,hq3,-⟩,-,-,-⟩:=qA HWX w2 (Below.refl _ _)
    have qSH:=qC (qE (qD wo _) qY)
    clear qY uL hq0 hq1 hq2
    go_wp2
    clear hq3
    go_loopw[5] (fun i wx=>∃ j:Nat,j≤qL.length∧i=.int .i64 j∧Below w2.heap.size w2 wx) (fun i _=>qL.length-(intOf i).toNat)
    case atStart=>exact⟨0,by omega,rfl,Below.refl _ _⟩
    case round=>
     obtain⟨j,hj,rfl,sR⟩:=hrel
     obtain⟨⟨p0,p1⟩,⟨f0,f1,f2,f3,f4⟩,hfa,rU,hbt⟩:=qA HWX wr sR
     rw[qA HPp]at p0
     by_cases qBn:j<qL.length
     ·obtain⟨cb,qDX,hpc,c0,c1,c2,c3,c4,c5,c6⟩:=rU j qBn
      have qC1:=qC fun (W:World) (hW:zW W L fs)=>qBV L fs cap ⟨⟨#[]⟩,1,mQ,qL⟩ (L.pc k) (L.cc k) qL[j] Q W hW hl9 hQ (by dsimp only;omega) (by dsimp only;omega) (qA HIR j qBn) (qA HJ j qBn)
      have iS:(j:Int)<(qL.length:Int):=by omega
      have HFa:=qC hfa
      have HFb:=qC (hfa.later (qF (Below.refl _ _)))
      rw[qA HPp,hpc]at qC1
      rw[hpc]at f3
      clear hpc
      generalize qL[j]=ir at c0 c1 c2 c3 c4 c5 c6 qC1
      obtain⟨iop,rI,iM,zO,zM,zP,zL⟩:=ir
      dsimp only at c0 c1 c2 c3 c4 c5 c6
      clear hfa rU
      go_wp2
      go_still_tail 7,(by kernel_rfl)
      go_wp2_with (go_at_call 46;(first | refine(qA qC1 wr (qA HFa)).mono ?_ | refine(qA qC1 wr.drew (qA HFb)).mono ?_);rintro e y ⟨rfl,jR⟩)
      all_goals go_wp2
      all_goals (go_roundw;(case rel=>exact⟨j+1,by omega,by go_num,(by repeat (first | exact Below.refl _ _ | assumption | refine qG ?_ | refine qF ?_ | refine qE ?_ (by assumption)))⟩);(case measure=>simp[intOf];omega))
     ·have HO:=qC fun (W:World) (hW:vY W (L.pc k) qL)=>s6 ⟨⟨#[]⟩,1,mQ,qL⟩ (L.pc k) (L.cc k) mQ Q cc W hcc nY hW h4
      have HCa:=qC rU
      clear hfa rU
      go_wp2_with fail
      refine(qA HO wr (qA HCa)).mono ?_
      rintro e w5 ⟨X,hb,tb,vs,mo,rfl,hFl,_,_,gL⟩
      obtain⟨-,-,-,x6,-⟩:=hFl.cell
      clear hFl
      go_wp2
      go_roundw
      case rel=>exact⟨k+1,by omega,by go_num,(qA hOut w5 (qE (qE (qA qSH) sR) gL))⟩
      case measure=>simp[intOf];omega
   ·obtain⟨hid,rQ⟩:=qA hDk (by omega)
    dsimp only at hid rQ
    have hz:=rB hid
    have HN:=qC fun w=>qGd zF w (by unfold maxLen;omega)
    rw[hid]at HN
    have fH:(0:Int)<(k:Int):=by omega
    have hke:((k:Int) == 0)=false:=by simp;omega
    go_wp2_with fail
    refine(qA HN _).mono ?_
    rintro e w2 ⟨rfl,qY⟩
    obtain⟨r0,r1,r2,r3,r4⟩:=(eM.new wo wo.heap.size ⟨zF,yZ,mQ,qL⟩ (L.pc k) (L.cc k) 35 rfl).later qY
    dsimp only at r0 r1 r2 r3
    go_wp2_with fail
    refine(qP _ _ _ true _ (by simp;omega)).mono ?_
    rintro e w2 ⟨rfl,rfl⟩
    go_wp2_with fail
    refine(qP _ _ _ true _ (by simp;omega)).mono ?_
    rintro e w2 ⟨rfl,rfl⟩
    go_wp2_with fail
    refine(qP _ _ _ true _ (by simp;omega)).mono ?_
    rintro e w2 ⟨rfl,rfl⟩
    have HWX:Hid (∀ wx,Below w2.heap.size w2 wx→qDs wx w.heap.size L fs cap∧eM wx wo.heap.size ⟨zF,yZ,mQ,qL⟩ (L.pc k) (L.cc k)∧zW wx L fs∧vY wx (L.pc k) qL∧Below w.heap.size w wx):=qC fun wx hx=>by
     have jD:=qE (qE (qD wo _) qY) hx
     have uQ:=qE qQy jD
     exact⟨(qA hBP).later jD,((eM.new wo wo.heap.size ⟨zF,yZ,mQ,qL⟩ (L.pc k) (L.cc k) 35 rfl).later qY).later hx,(qA HF).later uQ,(qA hCA).later jD,uQ⟩
    obtain⟨-,⟨-,-,-,hq3,-⟩,-,-,-⟩:=qA HWX w2 (Below.refl _ _)
    have qSH:=qC (qE (qD wo _) qY)
    clear qY uL hq0 hq1 hq2
    go_wp2
    clear hq3
    go_loopw[5] (fun i wx=>∃ j:Nat,j≤qL.length∧i=.int .i64 j∧Below w2.heap.size w2 wx) (fun i _=>qL.length-(intOf i).toNat)
    case atStart=>exact⟨0,by omega,rfl,Below.refl _ _⟩
    case round=>
     obtain⟨j,hj,rfl,sR⟩:=hrel
     obtain⟨⟨p0,p1⟩,⟨f0,f1,f2,f3,f4⟩,hfa,rU,hbt⟩:=qA HWX wr sR
     rw[qA HPp]at p0
     by_cases qBn:j<qL.length
     ·obtain⟨cb,qDX,hpc,c0,c1,c2,c3,c4,c5,c6⟩:=rU j qBn
      have qC1:=qC fun (W:World) (hW:zW W L fs)=>qBV L fs cap ⟨zF,yZ,mQ,qL⟩ (L.pc k) (L.cc k) qL[j] Q W hW hl9 hQ (by dsimp only;omega) (by dsimp only;omega) (qA HIR j qBn) (qA HJ j qBn)
      have iS:(j:Int)<(qL.length:Int):=by omega
      have HFa:=qC hfa
      have HFb:=qC (hfa.later (qF (Below.refl _ _)))
      rw[qA HPp,hpc]at qC1
      rw[hpc]at f3
      clear hpc
      generalize qL[j]=ir at c0 c1 c2 c3 c4 c5 c6 qC1
      obtain⟨iop,rI,iM,zO,zM,zP,zL⟩:=ir
      dsimp only at c0 c1 c2 c3 c4 c5 c6
      clear hfa rU
      go_wp2
      go_still_tail 7,(by kernel_rfl)
      go_wp2_with (go_at_call 46;(first | refine(qA qC1 wr (qA HFa)).mono ?_ | refine(qA qC1 wr.drew (qA HFb)).mono ?_);rintro e y ⟨rfl,jR⟩)
      all_goals go_wp2
      all_goals (go_roundw;(case rel=>exact⟨j+1,by omega,by go_num,(by repeat (first | exact Below.refl _ _ | assumption | refine qG ?_ | refine qF ?_ | refine qE ?_ (by assumption)))⟩);(case measure=>simp[intOf];omega))
     ·have HO:=qC fun (W:World) (hW:vY W (L.pc k) qL)=>s6 ⟨zF,yZ,mQ,qL⟩ (L.pc k) (L.cc k) mQ Q cc W hcc nY hW h4
      have HCa:=qC rU
      clear hfa rU
      go_wp2_with fail
      refine(qA HO wr (qA HCa)).mono ?_
      rintro e w5 ⟨X,hb,tb,vs,mo,rfl,hFl,_,_,gL⟩
      obtain⟨-,-,-,x6,-⟩:=hFl.cell
      clear hFl
      go_wp2
      go_roundw
      case rel=>exact⟨k+1,by omega,by go_num,(qA hOut w5 (qE (qE (qA qSH) sR) gL))⟩
      case measure=>simp[intOf];omega
  ·have aX:¬(k:Int)<(fs.length:Int):=by omega
   go_wp2
   go_ret
   exact⟨rfl,qQy⟩
theorem qPY(t:ByteArray)(n:Int)(h0:0≤n)(h:xF t=n):(qF7 t.toList).1=n∧(qF7 t.toList).2=0:=by
 unfold xF qCH at h
 rw[←ByteArray.toList_eq]at h
 unfold qF7
 split at h
 ·rename_i hh
  subst h
  rcases hh with hh | hh | hh <;> rw[hh] <;> decide
 split at h
 ·rename_i hh
  subst h
  rcases hh with hh | hh | hh <;> rw[hh] <;> decide
 split at h
 ·rename_i hh
  subst h
  rw[hh];decide
 ·omega
theorem qLd(L:sA)(fs:List FR)(cap:Nat)(f:FR)(pc:Option Addr)(cc:Nat)(i:IR)(Q:List Nat)(w:World)(hF:zW w L fs)(hl:fs.length≤9)(hQ:Q=fs.tail.map FR.params)(hi:fP f.slots Q i)(hj:xL i.op=true→i.n<(f.code.length:Int)) :
  Calls Tryz.prog 93 #[.agg #[.slice L.p fs.length cap],oB f pc cc,irV i] w fun e w'=>e=.returned (.bool true)∧Below w.heap.size w w':=by
 rcases hi with ⟨h1,h2,h3,h4,h5⟩ | ⟨h1,h2,h3,h4⟩ | ⟨h1,h2,h3⟩ | ⟨h1,h2,h3⟩ | ⟨h1,h2,h3⟩ | ⟨h1,h2,j,q,h3,h4,h5⟩ | ⟨h1,h2,h3,h4⟩ | ⟨h1,h2⟩
 ·obtain⟨op,n,m,t,vk,vn,vt⟩:=i
  dsimp only at h1 h2 h3 h4 h5
  subst h1 h2 h3 h4
  have hv:vC vk vn vt=true∧vt.size≤maxLen:=by
   rcases h5 with ⟨rfl,rfl,rfl⟩ | ⟨rfl,a,b,rfl⟩ | ⟨rfl,a,rfl⟩ | ⟨rfl,rfl,a⟩
   ·exact⟨by simp[vC,e0,ByteArray.toList_eq],by decide⟩
   ·exact⟨by simp[vC,e0,ByteArray.toList_eq];omega,by decide⟩
   ·exact⟨by simp[vC,e0,ByteArray.toList_eq];omega,by decide⟩
   ·unfold kB at a
    simp only[Bool.and_eq_true,decide_eq_true_eq]at a
    have hz:vt.size≤60:=by simpa using a.1
    exact⟨by simp[vC,hz],by unfold maxLen;omega⟩
  exact qIv _ f pc cc vk vn vt w hv.1 hv.2
 ·rw[h2]
  exact qJk _ f pc cc i.op i.n w h1 h3 h4
 ·rw[h2]
  exact qGH _ f pc cc i.t w h3
 ·rw[h2]
  exact qFf _ f pc cc i.t w h3
 ·rw[h2]
  exact qJd _ f pc cc i.op i.n w h1 h3 (hj (by unfold xL;rcases h1 with e | e | e | e | e <;> rw[e] <;> rfl))
 ·rw[h2,h3,h5,show(1:Int)+(j:Int)=((j+1:Nat):Int) by omega]
  rw[hQ,List.getElem?_map]at h4
  obtain⟨g,hg,hgq⟩:=Option.map_eq_some_iff.1 h4
  rw[List.getElem?_tail]at hg
  obtain⟨jF,hge⟩:=List.getElem?_eq_some_iff.1 hg
  exact qJu L fs cap f pc cc (j+1) q w hF jF hl (by rw[hge];exact hgq)
 ·rw[h2]
  exact qDQ _ f pc cc i.n i.t w (qPY i.t i.n h3 h4)
 ·rw[h2]
  exact qJb _ f pc cc i.op w h1
theorem qP0(a b c d:Value)(w:World):(Instr.field 56 (.agg #[a,b,c,d]) 3).run Tryz.prog w=.ok d w:=by rfl
theorem qKq(a b c d:Value)(w:World):(Instr.field 56 (.agg #[a,b,c,d]) 1).run Tryz.prog w=.ok b w:=by rfl
theorem qIH(L:sA)(fs:List FR)(cap:Nat)(f:FR)(pc:Option Addr)(cc:Nat)(Q:List Nat)(c:List LI)(w:World)(hF:zW w L fs)(hl:fs.length≤9)(hQ:Q=fs.tail.map FR.params)(kL:c.map LI.i=f.code)(nY:uS f.slots Q c)(hC:vY w pc f.code)(h4:f.code.length≤400) :
  Calls Tryz.prog 60 #[.agg #[.slice L.p fs.length cap],oB f pc cc] w fun e w'=>e=.returned (.bool true)∧Below w.heap.size w w':=by
 have dZ:c.length=f.code.length:=by rw[←kL,List.length_map]
 have qDc:0<f.code.length:=by rw[←dZ];exact nY.ne
 have HIR:=qC (show ∀ j (h:j<f.code.length),fP f.slots Q f.code[j] from fun j h=>by
  have hl:j<c.length:=by rw[dZ];exact h
  have:=(nY.ok j c[j] (List.getElem?_eq_getElem hl)).2.2.2.2.1
  have he:f.code[j]=c[j].i:=by simp[←kL]
  rw[he];exact this)
 have HJ:=qC (show ∀ j (h:j<f.code.length),xL f.code[j].op=true→f.code[j].n<(f.code.length:Int) from fun j h hj=>by
  have hl:j<c.length:=by rw[dZ];exact h
  have he:f.code[j]=c[j].i:=by simp[←kL]
  rw[he]at hj ⊢
  have:=qEL nY (List.getElem?_eq_getElem hl) hj
  omega)
 have HWC:=qC fun (W:World) (hW:vY W pc f.code)=>bR pc f.code.length cc f.slots Q c f.code W nY kL dZ h4 hW
 have qC1:=qC fun (W:World) (hW:zW W L fs) (j:Nat) (h:j<f.code.length)=>qLd L fs cap f pc cc f.code[j] Q W hW hl hQ (qA HIR j h) (qA HJ j h)
 have HF:=qC hF
 have HC:=qC hC
 clear hF hC nY HIR HJ kL dZ
 obtain⟨zF,yZ,mQ,qL⟩:=f
 dsimp only at *
 have HWX:Hid (∀ wx,Below (w.heap.size+1+1) ((w.alloc (.cells #[.slice L.p fs.length cap] 25)).alloc (.cells #[.string zF,.int .i64 (yZ:Int),.int .i64 (mQ:Int),.slice pc qL.length cc] 35)) wx→qDs wx w.heap.size L fs cap∧eM wx (w.heap.size+1) ⟨zF,yZ,mQ,qL⟩ pc cc∧zW wx L fs∧vY wx pc qL∧Below w.heap.size w wx):=qC fun wx hx=>by
  have hx':Below ((w.alloc (.cells #[.slice L.p fs.length cap] 25)).alloc (.cells #[.string zF,.int .i64 (yZ:Int),.int .i64 (mQ:Int),.slice pc qL.length cc] 35)).heap.size ((w.alloc (.cells #[.slice L.p fs.length cap] 25)).alloc (.cells #[.string zF,.int .i64 (yZ:Int),.int .i64 (mQ:Int),.slice pc qL.length cc] 35)) wx:=by simpa using hx
  have uQ:=qE (qG (qD w _)) hx'
  have hp:qDs (w.alloc (.cells #[.slice L.p fs.length cap] 25)) w.heap.size L fs cap:=⟨by simp,by simp⟩
  exact⟨(hp.later (qD _ _)).later hx',(eM.new _ (w.heap.size+1) ⟨zF,yZ,mQ,qL⟩ pc cc 35 (by simp)).later hx',(qA HF).later uQ,(qA HC).later uQ,uQ⟩
 go_enter Tryz.func60,Tryz.ntmps60
 go_wp2
 go_loopw[20] (fun i wx=>∃ j:Nat,j≤qL.length∧i=.int .i64 j∧Below (w.heap.size+1+1) ((w.alloc (.cells #[.slice L.p fs.length cap] 25)).alloc (.cells #[.string zF,.int .i64 (yZ:Int),.int .i64 (mQ:Int),.slice pc qL.length cc] 35)) wx) (fun i _=>qL.length-(intOf i).toNat)
 case atStart=>exact⟨0,by omega,rfl,Below.refl _ _⟩
 case round=>
  obtain⟨j,hj,rfl,uL⟩:=hrel
  obtain⟨⟨p0,p1⟩,⟨f0,f1,f2,f3,f4⟩,hfa,rU,hbt⟩:=qA HWX wr uL
  dsimp only at f0 f1 f2 f3
  by_cases jF:j<qL.length
  ·obtain⟨cb,qDX,hpc,c0,c1,c2,c3,c4,c5,c6⟩:=rU j jF
   have iS:(j:Int)<(qL.length:Int):=by omega
   have HIj:=qC fun (W:World) (hW:zW W L fs)=>qA qC1 W hW j jF
   have HFa:=qC fun (W:World) (hW:Below wr.heap.size wr W)=>hfa.later hW
   rw[hpc]at f3 HIj
   generalize qL[j]=ir at c0 c1 c2 c3 c4 c5 c6 HIj
   obtain⟨iop,rI,iM,zO,zM,zP,zL⟩:=ir
   dsimp only at c0 c1 c2 c3 c4 c5 c6
   have fU:w.heap.size+1<wr.heap.size:=f4
   have HPC:=qC hpc
   rw[hpc]
   clear hfa rU hpc
   go_wp2_with fail
   refine(qA HIj _ (qA HFa _ (qD _ _))).mono ?_
   rintro e w5 ⟨rfl,gL⟩
   have hb6:Below wr.heap.size wr w5:=qE (qD _ _) gL
   clear gL
   go_wp2
   go_roundw
   case rel=>exact⟨j+1,by omega,by go_num,by rw[←qA HPC];exact uL.trans (hb6.mono (by omega))⟩
   case measure=>simp[intOf];omega
  ·have HCa:=qC rU
   have iS:¬(j:Int)<(qL.length:Int):=by omega
   clear hfa rU
   go_wp2_with fail
   refine(qA HWC wr (qA HCa)).mono ?_
   rintro e w5 ⟨sb,vs,av,rfl,_,_,gL⟩
   have hfd:=qP0 (.slice pc qL.length cc) (.slice (some ⟨sb,0,none⟩) qL.length qL.length) av (.bool false) w5
   go_wp2
   go_ret
   exact⟨rfl,qE hbt gL⟩
theorem qDz(L:sA)(fs:List FR)(cap:Nat)(w:World)(hF:zW w L fs)(hG:dW fs)(yI:∀ f∈fs,f.code.length≤400)(ht:Hid (yT w 1 jX)) :
  Calls Tryz.prog 38 #[.agg #[.slice L.p fs.length cap]] w fun e w'=>e=.returned (.bool true)∧Below w.heap.size w w':=by
 obtain⟨f0,fr,rP,uJ,hp0,hfr,hr8⟩:=hG.f0
 have hl9:fs.length≤9:=by rw[rP];simp;omega
 have hl1:1≤fs.length:=by rw[rP];simp
 obtain⟨Q,hQ⟩:∃ Q,Q=fs.tail.map FR.params:=⟨_,rfl⟩
 have HGA:=qC fun k (hk:k<fs.length)=>hG.all fs[k] (List.getElem_mem hk)
 rw[←hQ]at HGA
 have H4:=qC fun k (hk:k<fs.length)=>yI fs[k] (List.getElem_mem hk)
 have HHD:=qC (show ∀ k (hk:k<fs.length) (W:World) (pc:Option Addr) (cc:Nat),Hid (yT W 1 jX)→Calls Tryz.prog 59 #[oB fs[k] pc cc,.bool ((k:Int) == 0)] W fun e w'=>e=.returned (.bool true)∧Below W.heap.size W w' from fun k hk W pc cc hT=>by
  have hg:=hG.all fs[k] (List.getElem_mem hk)
  by_cases h0:k=0
  ·subst h0
   subst rP
   exact qIc _ pc cc W uJ hp0 hg.sl hg.pa
  ·rw[show((k:Int) == 0)=false by simp;omega]
   have hm:vE fs[k].name=true∧fs[k].params≤4:=by
    subst rP
    obtain⟨k,rfl⟩:∃ k',k=k'+1:=⟨k-1,by omega⟩
    exact hfr _ (List.getElem_mem (by simpa using hk))
   exact qIr _ pc cc W hm.1 (by have:=rB hm.1;unfold maxLen;omega) hm.2 hg.sl hg.pa hT)
 have HF:=qC hF
 clear hF hG yI rP uJ hp0 hfr hr8
 have HWX:Hid (∀ wx,Below (w.heap.size+1) (w.alloc (.cells #[.slice L.p fs.length cap] 25)) wx→qDs wx w.heap.size L fs cap∧zW wx L fs∧Hid (yT wx 1 jX)∧Below w.heap.size w wx):=qC fun wx hx=>by
  have hx':Below (w.alloc (.cells #[.slice L.p fs.length cap] 25)).heap.size (w.alloc (.cells #[.slice L.p fs.length cap] 25)) wx:=by simpa using hx
  have uQ:=qE (qD w _) hx'
  have hp:qDs (w.alloc (.cells #[.slice L.p fs.length cap] 25)) w.heap.size L fs cap:=⟨by simp,by simp⟩
  exact⟨hp.later hx',(qA HF).later uQ,qC ((qA ht).later uQ),uQ⟩
 go_enter Tryz.func38,Tryz.ntmps38
 go_wp2
 go_loopw[20] (fun i wx=>∃ k:Nat,k≤fs.length∧i=.int .i64 k∧Below (w.heap.size+1) (w.alloc (.cells #[.slice L.p fs.length cap] 25)) wx) (fun i _=>fs.length-(intOf i).toNat)
 case atStart=>exact⟨0,by omega,rfl,Below.refl _ _⟩
 case round=>
  obtain⟨k,hk,rfl,uL⟩:=hrel
  obtain⟨⟨p0,p1⟩,hfa,htx,hbt⟩:=qA HWX wr uL
  by_cases jF:k<fs.length
  ·obtain⟨fb,qFF,hp,g0,g1,g2,g3,rU⟩:=hfa k jF
   have aX:(k:Int)<(fs.length:Int):=by omega
   have HHk:=qC fun (W:World) (hT:Hid (yT W 1 jX))=>qA HHD k jF W (L.pc k) (L.cc k) hT
   have HTx:=qC fun (W:World) (hW:Below wr.heap.size wr W)=>show Hid (yT W 1 jX) from qC ((qA htx).later hW)
   generalize fs[k]=f at g0 g1 g2 g3 HHk rU
   obtain⟨zF,yZ,mQ,qL⟩:=f
   dsimp only at g0 g1 g2 g3
   have HPP:=qC hp
   rw[hp]at p0 ⊢
   clear hfa rU htx hp
   go_wp2_with fail
   refine(qA HHk _ (qA HTx _ (qD _ _))).mono ?_
   rintro e w5 ⟨rfl,gL⟩
   have hb6:Below wr.heap.size wr w5:=qE (qD _ _) gL
   clear gL
   go_wp2
   go_roundw
   case rel=>exact⟨k+1,by omega,by go_num,by rw[←qA HPP];exact uL.trans (hb6.mono (by omega))⟩
   case measure=>simp[intOf];omega
  ·have aX:¬(k:Int)<(fs.length:Int):=by omega
   obtain⟨wo,hwo⟩:∃ wo,wo=wr:=⟨_,rfl⟩
   subst hwo
   clear hfa htx HHD
   go_wp2
   clear p0
   go_loopw[34] (fun i wx=>∃ k:Nat,k≤fs.length∧i=.int .i64 k∧Below (w.heap.size+1) (w.alloc (.cells #[.slice L.p fs.length cap] 25)) wx) (fun i _=>fs.length-(intOf i).toNat)
   case atStart=>exact⟨0,by omega,rfl,uL⟩
   case round=>
    clear uL hbt p1
    obtain⟨k2,yN,rfl,uL⟩:=hrel
    obtain⟨⟨p0,p1⟩,hfa,htx,hbt⟩:=qA HWX wr uL
    by_cases jF:k2<fs.length
    ·obtain⟨fb,qFF,hp,g0,g1,g2,g3,rU⟩:=hfa k2 jF
     have qXV:(k2:Int)<(fs.length:Int):=by omega
     obtain⟨hsl,hpa,c,hcc,nY⟩:=qA HGA k2 jF
     have h4:=qA H4 k2 jF
     have HHk:=qC fun (W:World) (hW:Below wr.heap.size wr W)=>qIH L fs cap fs[k2] (L.pc k2) (L.cc k2) Q c W (hfa.later hW) hl9 hQ hcc nY (rU.later hW) h4
     clear hsl hpa hcc nY h4
     generalize fs[k2]=f at g0 g1 g2 g3 HHk rU
     obtain⟨zF,yZ,mQ,qL⟩:=f
     dsimp only at g0 g1 g2 g3
     have HPP:=qC hp
     rw[hp]at p0 HHk ⊢
     clear hfa rU htx hp
     go_wp2_with fail
     refine(qA HHk _ (qD _ _)).mono ?_
     rintro e w5 ⟨rfl,gL⟩
     have hb6:Below wr.heap.size wr w5:=qE (qD _ _) gL
     clear gL
     go_wp2
     go_roundw
     case rel=>exact⟨k2+1,by omega,by go_num,by rw[←qA HPP];exact uL.trans (hb6.mono (by omega))⟩
     case measure=>simp[intOf];omega
    ·have qXV:¬(k2:Int)<(fs.length:Int):=by omega
     go_wp2
     go_ret
     exact⟨rfl,hbt⟩
theorem eU(L:sA)(fs:List FR)(cap k:Nat)(w:World)(hF:zW w L fs)(hG:dW fs)(yI:∀ f∈fs,f.code.length≤400)(hk:k<fs.length) :
  Calls Tryz.prog 21 #[.agg #[.slice L.p fs.length cap],.int .i64 (k:Int)] w fun e w'=>e=.returned (.int .i64 0)∧Below w.heap.size w w':=by
 have hl9:fs.length≤9:=by obtain⟨f0,fr,rP,_,_,_,hr8⟩:=hG.f0;rw[rP];simp;omega
 have HP:=qC fun (W:World) (hW:zW W L fs)=>sV L fs cap W hW hG yI
 have HF:=qC (hF.later (qD w (.cells #[.slice L.p fs.length cap] 25)))
 have gG:(decide ((0:Int)≤(k:Int))&&decide ((k:Int)≤(fs.length:Int)-1))=true:=by simp;omega
 clear hF hG yI
 generalize fs.length=fl at *
 go_enter Tryz.func21,Tryz.ntmps21
 go_wp2_with fail
 refine(qA HP _ (qA HF)).mono ?_
 rintro e w1 ⟨rfl,jD⟩
 obtain⟨xZ,hf1⟩:=yU jD
 have wJ:w.heap.size<w1.heap.size:=by have:=jD.size;simp at this;omega
 go_wp2_with fail
 refine(qP _ _ _ _ _ gG).mono ?_
 rintro e w' ⟨rfl,rfl⟩
 go_wp2
 go_ret
 exact⟨rfl,qE (qD _ _) jD⟩
theorem iE(L:sA)(fs:List FR)(cap k:Nat)(c:List LI)(w:World)(hF:zW w L fs)(hG:dW fs)(yI:∀ f∈fs,f.code.length≤400)(hk:k<fs.length)(kL:c.map LI.i=fs[k].code)(nY:uS fs[k].slots (fs.tail.map FR.params) c) :
  Calls Tryz.prog 11 #[.agg #[.slice L.p fs.length cap],.int .i64 (k:Int)] w fun e w'=>∃ m:Nat,e=.returned (.tuple #[.int .i64 (m:Int),.int .i64 0])∧qBc c m∧Below w.heap.size w w':=by
 have hl9:fs.length≤9:=by obtain⟨f0,fr,rP,_,_,_,hr8⟩:=hG.f0;rw[rP];simp;omega
 have HP:=qC fun (W:World) (hW:zW W L fs)=>sV L fs cap W hW hG yI
 have HF:=qC (hF.later (qD w (.cells #[.slice L.p fs.length cap] 25)))
 have gG:(decide ((0:Int)≤(k:Int))&&decide ((k:Int)≤(fs.length:Int)-1))=true:=by simp;omega
 have aX:(k:Int)<(fs.length:Int):=by omega
 have h4:=yI fs[k] (List.getElem_mem hk)
 have HO:=qC fun (W:World) (hW:vY W (L.pc k) fs[k].code)=>s6 fs[k] (L.pc k) (L.cc k) fs[k].slots (fs.tail.map FR.params) c W kL nY hW h4
 clear hF hG yI kL nY
 go_enter Tryz.func11,Tryz.ntmps11
 go_wp2_with fail
 refine(qA HP _ (qA HF)).mono ?_
 rintro e w1 ⟨rfl,jD⟩
 obtain⟨xZ,hf1⟩:=yU jD
 have wJ:w.heap.size<w1.heap.size:=by have:=jD.size;simp at this;omega
 obtain⟨fb,qFF,hp,g0,g1,g2,g3,rU⟩:=(qA HF).later jD k hk
 have HC:=qC rU
 rw[hp]
 generalize fs[k]=f at g0 g1 g2 g3 HC HO h4 rU
 clear rU
 generalize fs.length=fl at *
 go_wp2_with fail
 refine(qP _ _ _ _ _ gG).mono ?_
 rintro e w' ⟨rfl,rfl⟩
 go_wp2_with fail
 refine(qA HO _ (qA HC)).mono ?_
 rintro e w2 ⟨X,hb,tb,vs,mo,rfl,hFl,_,hM,qY⟩
 obtain⟨-,-,-,-,x7⟩:=hFl.cell
 clear hFl
 have HMx:=qC hM
 clear hM
 go_wp2
 go_ret2
 exact⟨mo,rfl,qA HMx,qE (qE (qD _ _) jD) qY⟩
theorem qD6{vs:List Bool}{j:Nat}(h:j<vs.length):aN (vs.take (j+1))=aN (vs.take j)+(if vs[j]=true then 1 else 0):=by
 unfold aN
 rw[List.take_succ_eq_append_getElem h,List.filter_append,List.length_append]
 cases vs[j] <;> simp
theorem qOa{c:List LI}{vs:List Bool}{j:Nat}(h:j<vs.length):decide (0≤hiN c vs j)=vs[j]:=by
 unfold hiN
 rw[List.getElem?_eq_getElem h]
 cases vs[j]
 ·simp
 ·simp
theorem qA4(L:sA)(fs:List FR)(cap k:Nat)(c:List LI)(w:World)(hF:zW w L fs)(hG:dW fs)(yI:∀ f∈fs,f.code.length≤400)(hk:k<fs.length)(kL:c.map LI.i=fs[k].code)(nY:uS fs[k].slots (fs.tail.map FR.params) c) :
  Calls Tryz.prog 9 #[.agg #[.slice L.p fs.length cap],.int .i64 (k:Int)] w fun e w'=>∃ vs:List Bool,e=.returned (.tuple #[.int .i64 (aN vs:Int),.int .i64 0])∧nN c vs []∧Below w.heap.size w w':=by
 have hl9:fs.length≤9:=by obtain⟨f0,fr,rP,_,_,_,hr8⟩:=hG.f0;rw[rP];simp;omega
 have HP:=qC fun (W:World) (hW:zW W L fs)=>eU L fs cap k W hW hG yI hk
 have HF:=qC (hF.later (qD w (.cells #[.slice L.p fs.length cap] 25)))
 have aX:(k:Int)<(fs.length:Int):=by omega
 have h4:=yI fs[k] (List.getElem_mem hk)
 have dZ:c.length=fs[k].code.length:=by rw[←kL,List.length_map]
 have HO:=qC fun (W:World) (hW:vY W (L.pc k) fs[k].code)=>s6 fs[k] (L.pc k) (L.cc k) fs[k].slots (fs.tail.map FR.params) c W kL nY hW h4
 clear hF hG yI kL nY
 go_enter Tryz.func9,Tryz.ntmps9
 go_wp2_with fail
 refine(qA HP _ (qA HF)).mono ?_
 rintro e w1 ⟨rfl,jD⟩
 obtain⟨xZ,hf1⟩:=yU jD
 have wJ:w.heap.size<w1.heap.size:=by have:=jD.size;simp at this;omega
 obtain⟨fb,qFF,hp,g0,g1,g2,g3,rU⟩:=(qA HF).later jD k hk
 have HC:=qC rU
 rw[hp]
 generalize fs[k]=f at g0 g1 g2 g3 HC HO h4 rU dZ
 clear rU
 generalize fs.length=fl at *
 go_wp2_with fail
 refine(qA HO _ (qA HC)).mono ?_
 rintro e w2 ⟨X,hb,tb,vs,mo,rfl,hFl,hS,_,qY⟩
 obtain⟨-,x4,-,-,-⟩:=hFl.cell
 have HN:=qC hFl.hi
 have hvl:vs.length=f.code.length:=by rw[←dZ];exact hS.len
 have HS:=qC hS
 have qYB:=qC (qE (qE (qD w (.cells #[.slice L.p fl cap] 25)) jD) qY)
 clear hFl hS xZ hf1 jD qY g0 g1 g2 g3
 generalize f.code.length=nl at *
 go_wp2
 go_loopw[8,9] (fun n i wx=>∃ j:Nat,j≤nl∧i=.int .i64 j∧n=.int .i64 (aN (vs.take j):Int)∧wx=w2) (fun _ i _=>nl-(intOf i).toNat)
 case atStart=>exact⟨0,by omega,rfl,rfl,rfl⟩
 case round=>
  obtain⟨j,hj,rfl,rfl,rfl⟩:=hrel
  by_cases jF:j<nl
  ·have qHO:=(qA HN).cell jF
   have qMq:=qOa (c:=c) (vs:=vs) (j:=j) (by omega)
   have iR:=qD6 (vs:=vs) (j:=j) (by omega)
   have hle:=qBy (vs.take j)
   have hlen:(vs.take j).length≤400:=by rw[List.length_take];omega
   have hji:(j:Int)<(nl:Int):=by omega
   generalize hiN c vs j=hv at qHO qMq
   generalize vs[j]'(by omega)=bv at qMq iR
   generalize aN (vs.take j)=C0 at iR hle
   have HB:=qC fun w=>bT bv w
   have b0:qJn false=0:=rfl
   have b1:qJn true=1:=rfl
   have hC0:C0≤400:=by omega
   have fV:=qC iR
   clear iR hle hlen
   cases bv
   ·rw[b0]at HB
    have hh:¬(0:Int)≤hv:=by simpa using qMq
    clear qMq
    go_wp2_with fail
    refine(qA HB _).mono ?_
    rintro e w' ⟨rfl,rfl⟩
    go_wp2
    go_roundw
    case rel=>exact⟨j+1,by omega,by go_num,by have:=qA fV;simp at this;rw[this],trivial⟩
    case measure=>simp[intOf];omega
   ·rw[b1]at HB
    have hh:(0:Int)≤hv:=by simpa using qMq
    clear qMq
    go_wp2_with fail
    refine(qA HB _).mono ?_
    rintro e w' ⟨rfl,rfl⟩
    go_wp2
    go_roundw
    case rel=>exact⟨j+1,by omega,by go_num,by have:=qA fV;simp at this;rw[this];go_num,trivial⟩
    case measure=>simp[intOf];omega
  ·have eB:vs.take j=vs:=List.take_of_length_le (by omega)
   have hji:¬(j:Int)<(nl:Int):=by omega
   have HTO:=qC eB
   clear eB
   go_wp2
   go_ret2
   exact⟨vs,by rw[qA HTO];rfl,qA HS,qA qYB⟩
end
end Go.Proofs.YtbgkfaclfnkloaaGreatDoor
