import Derived.Test.YtbgkfaclfnkloaaGreatDoorG23
import Derived.Test.YtbgkfaclfnkloaaGreatDoorG22
import Derived.BigQuiet
import Derived.Deep.QuietTactic
namespace Go.Proofs.YtbgkfaclfnkloaaGreatDoor
set_option linter.all false
set_option maxHeartbeats 4000000
set_option maxRecDepth 100000
section
open Go.RowKit Go.Joins
structure NX(ns:List TN)(root:Int)(L:rO)(w0:World)(X:Nat):Prop where
 nodes:uV w0 L ns
 small:sW ns
 ok:gI ns root
 low:w0.heap.size≤X
def zA(ns:List TN)(root:Int)(L:rO)(X:Nat)(n k:Nat)(x:SC)(w:World):Prop:=
 Calls Tryz.prog 140 #[.pointer (some ⟨X,0,none⟩),.int .i64 (k:Int)] w fun e w'=>e=.returned (.tuple #[])∧qOi X (.slice L.p ns.length L.cap) (.int .i64 root) (sn ns root n k x) w w'
def pQ(ns:List TN)(root:Int)(L:rO)(w0:World)(X n:Nat):Prop:=∀ (k lo:Nat) (x:SC) (b c:Nat) (w:World),k<n→y7 ns [(k:Int)] lo (k+1)→x.nm.length+(k+1-lo)≤1040000→wP w X (.slice L.p ns.length L.cap) (.int .i64 root) b c x→Below w0.heap.size w0 w→zA ns root L X n k x w
structure uC(w:World)(g:Nat)(m:TN)(pn:Option Addr)(cn:Nat)(pk:Option Addr)(ck:Nat):Prop where
 blk:w.heap[g]? = some (.cells #[.int .i64 m.k,.int .i64 m.n,.string m.t,.slice pn m.names.length cn,.slice pk m.kids.length ck] 128 (0,0))
theorem uC.keep{w w':World}{g X:Nat}{m:TN}{pn:Option Addr}{cn:Nat}{pk:Option Addr}{ck:Nat}(h:uC w g m pn cn pk ck)(hk:zJ X w w')(hg:g≠X):uC w' g m pn cn pk ck:=⟨by rw[hk.block g (Array.getElem?_eq_some_iff.1 h.blk).1 hg];exact h.blk⟩
theorem uC.cells{w:World}{g:Nat}{m:TN}{pn:Option Addr}{cn:Nat}{pk:Option Addr}{ck:Nat}(h:uC w g m pn cn pk ck):w.cell? ⟨g,0,none⟩=some (.int .i64 m.k)∧w.cell? ⟨g,2,none⟩=some (.string m.t)∧w.cell? ⟨g,4,none⟩=some (.slice pk m.kids.length ck):=⟨(cell_of_block h.blk 0).trans rfl,(cell_of_block h.blk 2).trans rfl,(cell_of_block h.blk 4).trans rfl⟩
theorem zJ.low{X:Nat}{w0 w w':World}(h:Below w0.heap.size w0 w)(hk:zJ X w w')(hX:w0.heap.size≤X):Below w0.heap.size w0 w':=h.trans (hk.below hX h.size)
def jM(ns:List TN)(root:Int)(n k:Nat)(kids:List Int)(xs:SC)(j lo:Nat)(x:SC):Prop:=y7 ns (kids.drop j) lo k∧x.nm.length+(k-lo)≤1040000∧x=(kids.take j).foldl (fun x j=>sn ns root n j x) xs
theorem jM.step{ns:List TN}{root:Int}{n k:Nat}{kids:List Int}{xs:SC}{j lo:Nat}{x:SC}(h:jM ns root n k kids xs j lo x)(hj:j<kids.length)(hn:k≤n) :
  ∃ qX:Nat,kids[j]=(qX:Int)∧qX<n∧y7 ns [(qX:Int)] lo (qX+1)∧x.nm.length+(qX+1-lo)≤1040000∧jM ns root n k kids xs (j+1) (qX+1) (sn ns root n qX x):=by
 obtain⟨h1,h2,h3⟩:=h
 rw[List.drop_eq_getElem_cons hj]at h1
 obtain⟨qX,m,e,hm,hg,s1,s2,s3,s4,s5⟩:=h1.head
 refine⟨qX,e,by omega,by rw[←e];exact s2,by omega,s3,?_,?_⟩
 ·have:=qIj ns root n qX lo x (by omega) (by rw[←e];exact s2)
  omega
 ·rw[qLr _ _ _ hj,←h3,e]
theorem jM.zero{ns:List TN}{root:Int}{n k lo:Nat}{kids:List Int}{xs:SC}(h:y7 ns kids lo k)(hb:xs.nm.length+(k-lo)≤1040000):jM ns root n k kids xs 0 lo xs:=⟨h,hb,rfl⟩
theorem jM.done{ns:List TN}{root:Int}{n k lo:Nat}{kids:List Int}{xs x:SC}(h:jM ns root n k kids xs kids.length lo x):x=kids.foldl (fun x j=>sn ns root n j x) xs:=by have:=h.2.2;rwa [List.take_length]at this
theorem jM.len{ns:List TN}{root:Int}{n k lo j:Nat}{kids:List Int}{xs x:SC}(h:jM ns root n k kids xs j lo x):x.nm.length≤1040000:=by have:=h.2.1;omega
theorem mS.set3{w:World}{X:Nat}{t0 t1 v:Value}{st mo fc fn:Int}(h:mS w X t0 t1 v st mo fc fn)(u:Int):mS (w.setCell ⟨X,3,none⟩ (.int .i64 u)) X t0 t1 v u mo fc fn:=(block_setCell h _).trans rfl
theorem wP.open{w:World}{X:Nat}{t0 t1:Value}{b c:Nat}{x:SC}(h:wP w X t0 t1 b c x):wP (w.setCell ⟨X,3,none⟩ (.int .i64 (x.nm.length:Int))) X t0 t1 b c (jG x):=⟨h.blk.set3 _,h.nms.keep ((zJ.refl _ _).set_it),Nat.le_refl _⟩
theorem wP.shut{w:World}{X:Nat}{t0 t1:Value}{b c:Nat}{x x0:SC}(h:wP w X t0 t1 b c x)(hp:x0.nm <+: x.nm)(hs:x0.st≤x0.nm.length):wP ((w.setCell ⟨X,3,none⟩ (.int .i64 (x0.st:Int))).setCell ⟨X,2,none⟩ (.slice (some ⟨b,0,none⟩) x0.nm.length c)) X t0 t1 b c (k4 x0 x):=by
 have hl:=hp.length_le
 have e:x.nm.take x0.nm.length=x0.nm:=by
  obtain⟨r,hr⟩:=hp
  rw[←hr,List.take_left']
  rfl
 have hn:=(h.nms.take x0.nm.length hl).keep (((zJ.refl X w).set_it (o:=3) (v:=.int .i64 (x0.st:Int))).set_it (o:=2) (v:=.slice (some ⟨b,0,none⟩) x0.nm.length c))
 rw[e]at hn
 rw[fZ hp]
 exact⟨(h.blk.set3 _).set2 _,hn,hs⟩
theorem qFl(ns:List TN)(t:ByteArray):∀ ks:List Int,(t.data.toList∉pE ((jU ns ks).map (jV ns))∧fnL ns t ks=-1)∨∃ i,∃ hi:i<(jU ns ks).length,(pE ((jU ns ks).map (jV ns))).idxOf t.data.toList=i∧fnL ns t ks=(jU ns ks)[i]
 | []=>.inl ⟨by simp[jU,pE],rfl⟩
 | j::r=>by
  by_cases hj:jT ns j=20
  ·have ef:jU ns (j::r)=j::jU ns r:=by unfold jU;rw[List.filter_cons,if_pos (by simp[hj])]
   by_cases ht:(jV ns j).data.toList=t.data.toList
   ·refine .inr ⟨0,by rw[ef];simp,?_,?_⟩
    ·rw[ef,List.map_cons]
     show List.idxOf t.data.toList ((jV ns j).data.toList::_)=0
     rw[ht,List.idxOf_cons_self]
    ·show(if jT ns j=20∧(jV ns j).data.toList=t.data.toList then j else fnL ns t r)=_
     rw[if_pos ⟨hj,ht⟩]
     simp[ef]
   ·have e2:fnL ns t (j::r)=fnL ns t r:=by
     show(if jT ns j=20∧(jV ns j).data.toList=t.data.toList then j else fnL ns t r)=_
     rw[if_neg (fun h=>ht h.2)]
    rcases qFl ns t r with ⟨h1,h2⟩ | ⟨i,hi,h1,h2⟩
    ·refine .inl ⟨?_,by rw[e2];exact h2⟩
     rw[ef,List.map_cons]
     show t.data.toList∉(jV ns j).data.toList::pE ((jU ns r).map (jV ns))
     intro h
     rcases List.mem_cons.1 h with h | h
     ·exact ht h.symm
     ·exact h1 h
    ·refine .inr ⟨i+1,by rw[ef];simp;omega,?_,?_⟩
     ·rw[ef,List.map_cons]
      show List.idxOf t.data.toList ((jV ns j).data.toList::pE ((jU ns r).map (jV ns)))=i+1
      rw[List.idxOf_cons,beq_eq_false_iff_ne.2 ht,cond_false,h1]
     ·rw[e2,h2]
      simp[ef]
  ·have ef:jU ns (j::r)=jU ns r:=by unfold jU;rw[List.filter_cons,if_neg (by simp[hj])]
   have e2:fnL ns t (j::r)=fnL ns t r:=by
    show(if jT ns j=20∧(jV ns j).data.toList=t.data.toList then j else fnL ns t r)=_
    rw[if_neg (fun h=>hj h.1)]
   rw[e2]
   have:=qFl ns t r
   rw[←ef]at this
   exact this
theorem tA{ns:List TN}{root:Int}{t:ByteArray}{r:Int}(h:bW ns root t r):r=bL ns root t:=by
 have hk:=qFl ns t (vW ns root)
 rcases h with ⟨h1,rfl⟩ | ⟨i,hi,h1,rfl⟩
 ·rcases hk with ⟨_,h2⟩ | ⟨i,hi,h2,h3⟩
  ·exact h2.symm
  ·exfalso
   apply h1
   have jF:(pE (rD ns root)).idxOf t.data.toList<(pE (rD ns root)).length:=by
    show(pE ((jU ns (vW ns root)).map (jV ns))).idxOf t.data.toList<_
    rw[h2]
    simpa[pE,rD,dK]using hi
   have hm:=List.idxOf_lt_length_iff.1 jF
   obtain⟨u,hu,e⟩:=List.mem_map.1 hm
   rwa [show t=u from ByteArray.ext (Array.toList_inj.1 e.symm)]
 ·unfold qBA at h1
  split at h1
  ·rename_i hm
   have e:=Option.some.inj h1
   rcases hk with ⟨h2,_⟩ | ⟨i',hi',h2,h3⟩
   ·exact absurd hm h2
   ·have:i'=i:=by
     have:(((pE (rD ns root)).idxOf t.data.toList:Nat):Int)=(i:Int):=e
     have h4:(pE (rD ns root)).idxOf t.data.toList=i':=h2
     omega
    subst this
    exact h3.symm
  ·cases h1
theorem kU{ns:List TN}{root:Int}{L:rO}{w0:World}{X k:Nat}{m:TN}{x:SC}{b c:Nat}{w:World}(mN:NX ns root L w0 X)(hm:ns[k]? = some m)(hA:wP w X (.slice L.p ns.length L.cap) (.int .i64 root) b c x)(hW:Below w0.heap.size w0 w) :
  ∃ (pn:Option Addr) (cn:Nat) (pk:Option Addr) (ck nb jK:Nat),k<ns.length∧ns.length≤1048576∧m.t.size≤1048576∧m.kids.length≤1048576∧w0.heap.size≤X∧X<w.heap.size∧w.heap.size≠X
   ∧w.cell? ⟨X,0,none⟩=some (.slice (some ⟨nb,jK,none⟩) ns.length L.cap)∧w.cell? ⟨X,1,none⟩=some (.int .i64 root)
   ∧L.p=some ⟨nb,jK,none⟩∧w.cell? ⟨nb,jK+k*5,none⟩=some (.int .i64 m.k)∧w.cell? ⟨nb,jK+k*5+1,none⟩=some (.int .i64 m.n)∧w.cell? ⟨nb,jK+k*5+2,none⟩=some (.string m.t)∧w.cell? ⟨nb,jK+k*5+3,none⟩=some (.slice pn m.names.length cn)∧w.cell? ⟨nb,jK+k*5+4,none⟩=some (.slice pk m.kids.length ck)
   ∧Hid (∀ wx,Below w0.heap.size w0 wx→vD wx pk m.kids)
   ∧Hid (uC (w.alloc (.cells #[.int .i64 m.k,.int .i64 m.n,.string m.t,.slice pn m.names.length cn,.slice pk m.kids.length ck] 128)) w.heap.size m pn cn pk ck)∧Hid (wP (w.alloc (.cells #[.int .i64 m.k,.int .i64 m.n,.string m.t,.slice pn m.names.length cn,.slice pk m.kids.length ck] 128)) X (.slice L.p ns.length L.cap) (.int .i64 root) b c x)∧Hid (zJ X w (w.alloc (.cells #[.int .i64 m.k,.int .i64 m.n,.string m.t,.slice pn m.names.length cn,.slice pk m.kids.length ck] 128)))∧Hid (Below w0.heap.size w0 (w.alloc (.cells #[.int .i64 m.k,.int .i64 m.n,.string m.t,.slice pn m.names.length cn,.slice pk m.kids.length ck] 128)))∧(w.alloc (.cells #[.int .i64 m.k,.int .i64 m.n,.string m.t,.slice pn m.names.length cn,.slice pk m.kids.length ck] 128)).heap.size=w.heap.size+1:=by
 obtain⟨wC,eD⟩:=List.getElem?_eq_some_iff.1 hm
 have mP:=hA.lt
 have u6:=mN.low
 obtain⟨c0,c1,c2,c3,c4,c5,c6⟩:=hA.blk.cells
 obtain⟨nb,jK,hp,q0,q1,q2,q3,q4,q5,q6⟩:=(mN.nodes.later hW) k wC
 rw[eD]at q0 q1 q2 q3 q4 q5 q6
 rw[hp]at c0
 refine⟨_,_,_,_,nb,jK,wC,mN.small.1,(mN.small.2 m (List.mem_of_getElem? hm)).1,(mN.small.2 m (List.mem_of_getElem? hm)).2.2.1,u6,mP,by omega,c0,c1,hp,q0,q1,q2,q3,q4,qC (fun wx h=>?_),qC ⟨heap_alloc_new w _⟩,qC (hA.later (qD w _)),qC (zJ.of_below (qD _ _)),qC ((zJ.of_below (qD _ _)).low hW u6),by simp⟩
 obtain⟨_,_,_,_,_,_,_,_,_,q⟩:=(mN.nodes.later h) k wC
 rw[eD]at q
 exact q
theorem qG7{ns:List TN}{root:Int}{L:rO}{w0:World}{X n k lo:Nat}{m:TN}{x:SC}{b c:Nat}{w:World}(mN:NX ns root L w0 X)(vL:pQ ns root L w0 X n)(hk:k≤n)(hm:ns[k]? = some m)(hS:y7 ns m.kids lo k)(hb:x.nm.length+(k+1-lo)≤1040000)(hA:wP w X (.slice L.p ns.length L.cap) (.int .i64 root) b c x)(hW:Below w0.heap.size w0 w)(h5:m.k≠5)(sN:m.k≠12)(wS:m.k≠10)(yE:m.k≠20)(bH:m.k≠18)(bI:m.k≠17)(sT:m.k≠11)(hR:sn ns root (n+1) (k:Int) x=m.kids.foldl (fun x j=>sn ns root n j x) x):zA ns root L X (n+1) k x w:=by
 unfold zA
 rw[hR]
 obtain⟨pn,cn,pk,ck,nb,jK,wC,fJ,rZ,zN,u6,mP,tW,c0,c1,hp,q0,q1,q2,q3,q4,HI,xO,vG,yV,yF,nW⟩:=kU mN hm hA hW
 obtain⟨-,-,c2,c3,c4,c5,c6⟩:=hA.blk.cells
 have hlen:x.nm.length≤1040000:=by omega
 have xH:=qC vL
 have fV:=qC mN
 have HS:=qC hS
 have HA:=qC hA
 have HW:=qC hW
 have HP:=qC hp
 have pU:=hm
 clear vL hS mN hR
 have e5:(m.k == 5)=false:=beq_eq_false_iff_ne.2 h5
 have e12:(m.k == 12)=false:=beq_eq_false_iff_ne.2 sN
 have e10:(m.k == 10)=false:=beq_eq_false_iff_ne.2 wS
 have e20:(m.k == 20)=false:=beq_eq_false_iff_ne.2 yE
 have e18:(m.k == 18)=false:=beq_eq_false_iff_ne.2 bH
 have e17:(m.k == 17)=false:=beq_eq_false_iff_ne.2 bI
 have e11:(m.k == 11)=false:=beq_eq_false_iff_ne.2 sT
 have dV:Hid (x.nm.length+(k-lo)≤1040000):=qC (by omega)
 go_enter Tryz.func140,Tryz.ntmps140
 go_wp2
 go_loopw[12] (fun i wx=>∃ (j mL:Nat) (x':SC) (b' c':Nat),j≤m.kids.length∧i=.int .i64 j∧Hid (wP wx X (.slice L.p ns.length L.cap) (.int .i64 root) b' c' x')∧Hid (zJ X w wx)∧Hid (uC wx w.heap.size m pn cn pk ck)∧Hid (jM ns root n k m.kids (x) j mL x')) (fun i _=>m.kids.length-(intOf i).toNat)
 case atStart=>exact⟨0,lo,x,b,c,by omega,rfl,vG,yV,xO,qC (jM.zero (qA HS) (qA dV))⟩
 case round=>
  obtain⟨j,mL,x',b',c',hj,rfl,vK,uM,uZ,uB⟩:=hrel
  have nT:w.heap.size<wr.heap.size:=(Array.getElem?_eq_some_iff.1 (qA uZ).blk).1
  have hXr:=(qA vK).lt
  obtain⟨z0,z2,z4⟩:=(qA uZ).cells
  have dE:=qC ((qA uM).low (qA HW) u6)
  by_cases jF:j<m.kids.length
  ·obtain⟨qX,pW,bF,s1,s2,s3⟩:=(qA uB).step jF hk
   obtain⟨kb,zY,kI,y0⟩:=(qA HI wr (qA dE)) j jF
   rw[pW]at y0
   rw[kI]at z4
   clear kI
   have HC:=qC (qA xH qX mL x' b' c' wr bF s1 s2 (qA vK) (qA dE))
   unfold zA at HC
   have yK:=qC s3
   clear pW s1 s2 s3
   go_wp2_with fail
   refine(qA HC).mono ?_
   rintro e w2 ⟨rfl,b2,wG,vJ,yA⟩
   have mO:=qC vJ
   have qH:=qC ((qA uM).trans yA)
   have uF:=qC ((qA uZ).keep yA tW)
   clear vJ yA HC
   go_wp2
   go_roundw
   case rel=>exact⟨j+1,qX+1,_,b2,wG,by omega,by go_num,mO,qH,uF,qC (qA yK)⟩
   case measure=>simp[intOf];omega
  ·obtain rfl:j=m.kids.length:=by omega
   have dD:=(qA uB).done
   have hxl:=(qA uB).len
   rw[dD]at vK
   clear dD uB
   go_wp2
   go_end0
   exact⟨rfl,b',c',qA vK,qA uM⟩
theorem qLS{ns:List TN}{root:Int}{L:rO}{w0:World}{X n k lo:Nat}{m:TN}{x:SC}{b c:Nat}{w:World}(mN:NX ns root L w0 X)(vL:pQ ns root L w0 X n)(hk:k≤n)(hm:ns[k]? = some m)(hS:y7 ns m.kids lo k)(hb:x.nm.length+(k+1-lo)≤1040000)(hA:wP w X (.slice L.p ns.length L.cap) (.int .i64 root) b c x)(hW:Below w0.heap.size w0 w)(sT:m.k=11)(hR:sn ns root (n+1) (k:Int) x=qQ m.t (k:Int) (m.kids.foldl (fun x j=>sn ns root n j x) x)):zA ns root L X (n+1) k x w:=by
 unfold zA
 rw[hR]
 obtain⟨pn,cn,pk,ck,nb,jK,wC,fJ,rZ,zN,u6,mP,tW,c0,c1,hp,q0,q1,q2,q3,q4,HI,xO,vG,yV,yF,nW⟩:=kU mN hm hA hW
 obtain⟨-,-,c2,c3,c4,c5,c6⟩:=hA.blk.cells
 have hlen:x.nm.length≤1040000:=by omega
 have xH:=qC vL
 have fV:=qC mN
 have HS:=qC hS
 have HA:=qC hA
 have HW:=qC hW
 have HP:=qC hp
 have pU:=hm
 clear vL hS mN hR
 have e11:(m.k == 11)=true:=by rw[sT];rfl
 have e5:(m.k == 5)=false:=by rw[sT];rfl
 have e12:(m.k == 12)=false:=by rw[sT];rfl
 have e10:(m.k == 10)=false:=by rw[sT];rfl
 have e20:(m.k == 20)=false:=by rw[sT];rfl
 have e18:(m.k == 18)=false:=by rw[sT];rfl
 have e17:(m.k == 17)=false:=by rw[sT];rfl
 clear sT
 have dV:Hid (x.nm.length+(k-lo)≤1040000):=qC (by omega)
 go_enter Tryz.func140,Tryz.ntmps140
 go_wp2
 go_loopw[12] (fun i wx=>∃ (j mL:Nat) (x':SC) (b' c':Nat),j≤m.kids.length∧i=.int .i64 j∧Hid (wP wx X (.slice L.p ns.length L.cap) (.int .i64 root) b' c' x')∧Hid (zJ X w wx)∧Hid (uC wx w.heap.size m pn cn pk ck)∧Hid (jM ns root n k m.kids (x) j mL x')) (fun i _=>m.kids.length-(intOf i).toNat)
 case atStart=>exact⟨0,lo,x,b,c,by omega,rfl,vG,yV,xO,qC (jM.zero (qA HS) (qA dV))⟩
 case round=>
  obtain⟨j,mL,x',b',c',hj,rfl,vK,uM,uZ,uB⟩:=hrel
  have nT:w.heap.size<wr.heap.size:=(Array.getElem?_eq_some_iff.1 (qA uZ).blk).1
  have hXr:=(qA vK).lt
  obtain⟨z0,z2,z4⟩:=(qA uZ).cells
  have dE:=qC ((qA uM).low (qA HW) u6)
  by_cases jF:j<m.kids.length
  ·obtain⟨qX,pW,bF,s1,s2,s3⟩:=(qA uB).step jF hk
   obtain⟨kb,zY,kI,y0⟩:=(qA HI wr (qA dE)) j jF
   rw[pW]at y0
   rw[kI]at z4
   clear kI
   have HC:=qC (qA xH qX mL x' b' c' wr bF s1 s2 (qA vK) (qA dE))
   unfold zA at HC
   have yK:=qC s3
   clear pW s1 s2 s3
   go_wp2_with fail
   refine(qA HC).mono ?_
   rintro e w2 ⟨rfl,b2,wG,vJ,yA⟩
   have mO:=qC vJ
   have qH:=qC ((qA uM).trans yA)
   have uF:=qC ((qA uZ).keep yA tW)
   clear vJ yA HC
   go_wp2
   go_roundw
   case rel=>exact⟨j+1,qX+1,_,b2,wG,by omega,by go_num,mO,qH,uF,qC (qA yK)⟩
   case measure=>simp[intOf];omega
  ·obtain rfl:j=m.kids.length:=by omega
   have dD:=(qA uB).done
   have hxl:=(qA uB).len
   have HC:=qC (nD X (.slice L.p ns.length L.cap) (.int .i64 root) b' c' x' (k:Int) m.t wr (qA vK) (by omega) (by unfold maxLen;omega))
   rw[dD]at HC
   clear dD uB
   go_wp2_with fail
   refine(qA HC).mono ?_
   rintro e w2 ⟨rfl,b2,wG,vJ,yA⟩
   have mO:=qC vJ
   have qH:=qC ((qA uM).trans yA)
   clear vJ yA HC
   go_wp2
   go_end0
   exact⟨rfl,b2,wG,qA mO,qA qH⟩
theorem qCK{ns:List TN}{root:Int}{L:rO}{w0:World}{X n k lo:Nat}{m:TN}{x:SC}{b c:Nat}{w:World}(mN:NX ns root L w0 X)(vL:pQ ns root L w0 X n)(hk:k≤n)(hm:ns[k]? = some m)(hS:y7 ns m.kids lo k)(hb:x.nm.length+(k+1-lo)≤1040000)(hA:wP w X (.slice L.p ns.length L.cap) (.int .i64 root) b c x)(hW:Below w0.heap.size w0 w)(h5:m.k=5)(hf:0≤vA x.nm m.t)(hR:sn ns root (n+1) (k:Int) x=m.kids.foldl (fun x j=>sn ns root n j x) (x)):zA ns root L X (n+1) k x w:=by
 unfold zA
 rw[hR]
 obtain⟨pn,cn,pk,ck,nb,jK,wC,fJ,rZ,zN,u6,mP,tW,c0,c1,hp,q0,q1,q2,q3,q4,HI,xO,vG,yV,yF,nW⟩:=kU mN hm hA hW
 obtain⟨-,-,c2,c3,c4,c5,c6⟩:=hA.blk.cells
 have hlen:x.nm.length≤1040000:=by omega
 have xH:=qC vL
 have fV:=qC mN
 have HS:=qC hS
 have HA:=qC hA
 have HW:=qC hW
 have HP:=qC hp
 have pU:=hm
 clear vL hS mN hR
 have e5:(m.k == 5)=true:=by rw[h5];rfl
 have e11:(m.k == 11)=false:=by rw[h5];rfl
 clear h5
 have HFI:=qC (tP X (.slice L.p ns.length L.cap) (.int .i64 root) b c x m.t _ (qA vG) (by omega))
 generalize vA x.nm m.t=r at hf HFI
 have hf':¬r<0:=by omega
 have dV:Hid ((x).nm.length+(k-lo)≤1040000):=qC (by omega)
 go_enter Tryz.func140,Tryz.ntmps140
 go_wp2_with fail
 refine(qA HFI).mono ?_
 rintro e w' ⟨rfl,rfl⟩
 clear HFI
 go_wp2
 go_loopw[12] (fun i wx=>∃ (j mL:Nat) (x':SC) (b' c':Nat),j≤m.kids.length∧i=.int .i64 j∧Hid (wP wx X (.slice L.p ns.length L.cap) (.int .i64 root) b' c' x')∧Hid (zJ X w wx)∧Hid (uC wx w.heap.size m pn cn pk ck)∧Hid (jM ns root n k m.kids (x) j mL x')) (fun i _=>m.kids.length-(intOf i).toNat)
 case atStart=>exact⟨0,lo,x,b,c,by omega,rfl,vG,yV,xO,qC (jM.zero (qA HS) (qA dV))⟩
 case round=>
  obtain⟨j,mL,x',b',c',hj,rfl,vK,uM,uZ,uB⟩:=hrel
  have nT:w.heap.size<wr.heap.size:=(Array.getElem?_eq_some_iff.1 (qA uZ).blk).1
  have hXr:=(qA vK).lt
  obtain⟨z0,z2,z4⟩:=(qA uZ).cells
  have dE:=qC ((qA uM).low (qA HW) u6)
  by_cases jF:j<m.kids.length
  ·obtain⟨qX,pW,bF,s1,s2,s3⟩:=(qA uB).step jF hk
   obtain⟨kb,zY,kI,y0⟩:=(qA HI wr (qA dE)) j jF
   rw[pW]at y0
   rw[kI]at z4
   clear kI
   have HC:=qC (qA xH qX mL x' b' c' wr bF s1 s2 (qA vK) (qA dE))
   unfold zA at HC
   have yK:=qC s3
   clear pW s1 s2 s3
   go_wp2_with fail
   refine(qA HC).mono ?_
   rintro e w2 ⟨rfl,b2,wG,vJ,yA⟩
   have mO:=qC vJ
   have qH:=qC ((qA uM).trans yA)
   have uF:=qC ((qA uZ).keep yA tW)
   clear vJ yA HC
   go_wp2
   go_roundw
   case rel=>exact⟨j+1,qX+1,_,b2,wG,by omega,by go_num,mO,qH,uF,qC (qA yK)⟩
   case measure=>simp[intOf];omega
  ·obtain rfl:j=m.kids.length:=by omega
   have dD:=(qA uB).done
   have hxl:=(qA uB).len
   rw[dD]at vK
   clear dD uB
   go_wp2
   go_end0
   exact⟨rfl,b',c',qA vK,qA uM⟩
theorem qDO{ns:List TN}{root:Int}{L:rO}{w0:World}{X n k lo:Nat}{m:TN}{x:SC}{b c:Nat}{w:World}(mN:NX ns root L w0 X)(vL:pQ ns root L w0 X n)(hk:k≤n)(hm:ns[k]? = some m)(hS:y7 ns m.kids lo k)(hb:x.nm.length+(k+1-lo)≤1040000)(hA:wP w X (.slice L.p ns.length L.cap) (.int .i64 root) b c x)(hW:Below w0.heap.size w0 w)(h5:m.k=5)(hf:vA x.nm m.t<0)(hR:sn ns root (n+1) (k:Int) x=m.kids.foldl (fun x j=>sn ns root n j x) (yD 11 (k:Int) x)):zA ns root L X (n+1) k x w:=by
 unfold zA
 rw[hR]
 obtain⟨pn,cn,pk,ck,nb,jK,wC,fJ,rZ,zN,u6,mP,tW,c0,c1,hp,q0,q1,q2,q3,q4,HI,xO,vG,yV,yF,nW⟩:=kU mN hm hA hW
 obtain⟨-,-,c2,c3,c4,c5,c6⟩:=hA.blk.cells
 have hlen:x.nm.length≤1040000:=by omega
 have xH:=qC vL
 have fV:=qC mN
 have HS:=qC hS
 have HA:=qC hA
 have HW:=qC hW
 have HP:=qC hp
 have pU:=hm
 clear vL hS mN hR
 have e5:(m.k == 5)=true:=by rw[h5];rfl
 have e11:(m.k == 11)=false:=by rw[h5];rfl
 clear h5
 have HFI:=qC (tP X (.slice L.p ns.length L.cap) (.int .i64 root) b c x m.t _ (qA vG) (by omega))
 generalize vA x.nm m.t=r at hf HFI
 have dV:Hid ((yD 11 (k:Int) x).nm.length+(k-lo)≤1040000):=qC (by rw[dI];omega)
 go_enter Tryz.func140,Tryz.ntmps140
 go_wp2_with fail
 refine(qA HFI).mono ?_
 rintro e w' ⟨rfl,rfl⟩
 clear HFI
 go_wp2_with fail
 refine(gQ X (.slice L.p ns.length L.cap) (.int .i64 root) _ (x.st:Int) (x.mo:Int) x.fc x.fn 11 (k:Int) _ (qA vG).blk).mono ?_
 rintro e w1 ⟨rfl,dF,tO,wJ⟩
 have xP:=qC ((qA vG).fail dF tO)
 have qH:=qC ((qA yV).trans tO)
 have vR:=qC ((qA xO).keep tO tW)
 have jD:w.heap.size<w1.heap.size:=by omega
 obtain⟨y0,y2,y4⟩:=(qA vR).cells
 clear dF tO vG xO
 go_wp2
 go_loopw[12] (fun i wx=>∃ (j mL:Nat) (x':SC) (b' c':Nat),j≤m.kids.length∧i=.int .i64 j∧Hid (wP wx X (.slice L.p ns.length L.cap) (.int .i64 root) b' c' x')∧Hid (zJ X w wx)∧Hid (uC wx w.heap.size m pn cn pk ck)∧Hid (jM ns root n k m.kids (yD 11 (k:Int) x) j mL x')) (fun i _=>m.kids.length-(intOf i).toNat)
 case atStart=>exact⟨0,lo,yD 11 (k:Int) x,b,c,by omega,rfl,xP,qH,vR,qC (jM.zero (qA HS) (qA dV))⟩
 case round=>
  obtain⟨j,mL,x',b',c',hj,rfl,vK,uM,uZ,uB⟩:=hrel
  have nT:w.heap.size<wr.heap.size:=(Array.getElem?_eq_some_iff.1 (qA uZ).blk).1
  have hXr:=(qA vK).lt
  obtain⟨z0,z2,z4⟩:=(qA uZ).cells
  have dE:=qC ((qA uM).low (qA HW) u6)
  by_cases jF:j<m.kids.length
  ·obtain⟨qX,pW,bF,s1,s2,s3⟩:=(qA uB).step jF hk
   obtain⟨kb,zY,kI,y0⟩:=(qA HI wr (qA dE)) j jF
   rw[pW]at y0
   rw[kI]at z4
   clear kI
   have HC:=qC (qA xH qX mL x' b' c' wr bF s1 s2 (qA vK) (qA dE))
   unfold zA at HC
   have yK:=qC s3
   clear pW s1 s2 s3
   go_wp2_with fail
   refine(qA HC).mono ?_
   rintro e w2 ⟨rfl,b2,wG,vJ,yA⟩
   have mO:=qC vJ
   have qH:=qC ((qA uM).trans yA)
   have uF:=qC ((qA uZ).keep yA tW)
   clear vJ yA HC
   go_wp2
   go_roundw
   case rel=>exact⟨j+1,qX+1,_,b2,wG,by omega,by go_num,mO,qH,uF,qC (qA yK)⟩
   case measure=>simp[intOf];omega
  ·obtain rfl:j=m.kids.length:=by omega
   have dD:=(qA uB).done
   have hxl:=(qA uB).len
   rw[dD]at vK
   clear dD uB
   go_wp2
   go_end0
   exact⟨rfl,b',c',qA vK,qA uM⟩
theorem qDy{ns:List TN}{root:Int}{L:rO}{w0:World}{X n k lo:Nat}{m:TN}{x:SC}{b c:Nat}{w:World}(mN:NX ns root L w0 X)(vL:pQ ns root L w0 X n)(hk:k≤n)(hm:ns[k]? = some m)(hS:y7 ns m.kids lo k)(hb:x.nm.length+(k+1-lo)≤1040000)(hA:wP w X (.slice L.p ns.length L.cap) (.int .i64 root) b c x)(hW:Below w0.heap.size w0 w)(sN:m.k=12)(hf:0≤vA x.nm m.t)(hR:sn ns root (n+1) (k:Int) x=m.kids.foldl (fun x j=>sn ns root n j x) (x)):zA ns root L X (n+1) k x w:=by
 unfold zA
 rw[hR]
 obtain⟨pn,cn,pk,ck,nb,jK,wC,fJ,rZ,zN,u6,mP,tW,c0,c1,hp,q0,q1,q2,q3,q4,HI,xO,vG,yV,yF,nW⟩:=kU mN hm hA hW
 obtain⟨-,-,c2,c3,c4,c5,c6⟩:=hA.blk.cells
 have hlen:x.nm.length≤1040000:=by omega
 have xH:=qC vL
 have fV:=qC mN
 have HS:=qC hS
 have HA:=qC hA
 have HW:=qC hW
 have HP:=qC hp
 have pU:=hm
 clear vL hS mN hR
 have e12:(m.k == 12)=true:=by rw[sN];rfl
 have e5:(m.k == 5)=false:=by rw[sN];rfl
 have e11:(m.k == 11)=false:=by rw[sN];rfl
 clear sN
 have HFI:=qC (tP X (.slice L.p ns.length L.cap) (.int .i64 root) b c x m.t _ (qA vG) (by omega))
 generalize vA x.nm m.t=r at hf HFI
 have hf':¬r<0:=by omega
 have dV:Hid ((x).nm.length+(k-lo)≤1040000):=qC (by omega)
 go_enter Tryz.func140,Tryz.ntmps140
 go_wp2_with fail
 refine(qA HFI).mono ?_
 rintro e w' ⟨rfl,rfl⟩
 clear HFI
 go_wp2
 go_loopw[12] (fun i wx=>∃ (j mL:Nat) (x':SC) (b' c':Nat),j≤m.kids.length∧i=.int .i64 j∧Hid (wP wx X (.slice L.p ns.length L.cap) (.int .i64 root) b' c' x')∧Hid (zJ X w wx)∧Hid (uC wx w.heap.size m pn cn pk ck)∧Hid (jM ns root n k m.kids (x) j mL x')) (fun i _=>m.kids.length-(intOf i).toNat)
 case atStart=>exact⟨0,lo,x,b,c,by omega,rfl,vG,yV,xO,qC (jM.zero (qA HS) (qA dV))⟩
 case round=>
  obtain⟨j,mL,x',b',c',hj,rfl,vK,uM,uZ,uB⟩:=hrel
  have nT:w.heap.size<wr.heap.size:=(Array.getElem?_eq_some_iff.1 (qA uZ).blk).1
  have hXr:=(qA vK).lt
  obtain⟨z0,z2,z4⟩:=(qA uZ).cells
  have dE:=qC ((qA uM).low (qA HW) u6)
  by_cases jF:j<m.kids.length
  ·obtain⟨qX,pW,bF,s1,s2,s3⟩:=(qA uB).step jF hk
   obtain⟨kb,zY,kI,y0⟩:=(qA HI wr (qA dE)) j jF
   rw[pW]at y0
   rw[kI]at z4
   clear kI
   have HC:=qC (qA xH qX mL x' b' c' wr bF s1 s2 (qA vK) (qA dE))
   unfold zA at HC
   have yK:=qC s3
   clear pW s1 s2 s3
   go_wp2_with fail
   refine(qA HC).mono ?_
   rintro e w2 ⟨rfl,b2,wG,vJ,yA⟩
   have mO:=qC vJ
   have qH:=qC ((qA uM).trans yA)
   have uF:=qC ((qA uZ).keep yA tW)
   clear vJ yA HC
   go_wp2
   go_roundw
   case rel=>exact⟨j+1,qX+1,_,b2,wG,by omega,by go_num,mO,qH,uF,qC (qA yK)⟩
   case measure=>simp[intOf];omega
  ·obtain rfl:j=m.kids.length:=by omega
   have dD:=(qA uB).done
   have hxl:=(qA uB).len
   rw[dD]at vK
   clear dD uB
   go_wp2
   go_end0
   exact⟨rfl,b',c',qA vK,qA uM⟩
theorem qES{ns:List TN}{root:Int}{L:rO}{w0:World}{X n k lo:Nat}{m:TN}{x:SC}{b c:Nat}{w:World}(mN:NX ns root L w0 X)(vL:pQ ns root L w0 X n)(hk:k≤n)(hm:ns[k]? = some m)(hS:y7 ns m.kids lo k)(hb:x.nm.length+(k+1-lo)≤1040000)(hA:wP w X (.slice L.p ns.length L.cap) (.int .i64 root) b c x)(hW:Below w0.heap.size w0 w)(sN:m.k=12)(hf:vA x.nm m.t<0)(hR:sn ns root (n+1) (k:Int) x=m.kids.foldl (fun x j=>sn ns root n j x) (yD 11 (k:Int) x)):zA ns root L X (n+1) k x w:=by
 unfold zA
 rw[hR]
 obtain⟨pn,cn,pk,ck,nb,jK,wC,fJ,rZ,zN,u6,mP,tW,c0,c1,hp,q0,q1,q2,q3,q4,HI,xO,vG,yV,yF,nW⟩:=kU mN hm hA hW
 obtain⟨-,-,c2,c3,c4,c5,c6⟩:=hA.blk.cells
 have hlen:x.nm.length≤1040000:=by omega
 have xH:=qC vL
 have fV:=qC mN
 have HS:=qC hS
 have HA:=qC hA
 have HW:=qC hW
 have HP:=qC hp
 have pU:=hm
 clear vL hS mN hR
 have e12:(m.k == 12)=true:=by rw[sN];rfl
 have e5:(m.k == 5)=false:=by rw[sN];rfl
 have e11:(m.k == 11)=false:=by rw[sN];rfl
 clear sN
 have HFI:=qC (tP X (.slice L.p ns.length L.cap) (.int .i64 root) b c x m.t _ (qA vG) (by omega))
 generalize vA x.nm m.t=r at hf HFI
 have dV:Hid ((yD 11 (k:Int) x).nm.length+(k-lo)≤1040000):=qC (by rw[dI];omega)
 go_enter Tryz.func140,Tryz.ntmps140
 go_wp2_with fail
 refine(qA HFI).mono ?_
 rintro e w' ⟨rfl,rfl⟩
 clear HFI
 go_wp2_with fail
 refine(gQ X (.slice L.p ns.length L.cap) (.int .i64 root) _ (x.st:Int) (x.mo:Int) x.fc x.fn 11 (k:Int) _ (qA vG).blk).mono ?_
 rintro e w1 ⟨rfl,dF,tO,wJ⟩
 have xP:=qC ((qA vG).fail dF tO)
 have qH:=qC ((qA yV).trans tO)
 have vR:=qC ((qA xO).keep tO tW)
 have jD:w.heap.size<w1.heap.size:=by omega
 obtain⟨y0,y2,y4⟩:=(qA vR).cells
 clear dF tO vG xO
 go_wp2
 go_loopw[12] (fun i wx=>∃ (j mL:Nat) (x':SC) (b' c':Nat),j≤m.kids.length∧i=.int .i64 j∧Hid (wP wx X (.slice L.p ns.length L.cap) (.int .i64 root) b' c' x')∧Hid (zJ X w wx)∧Hid (uC wx w.heap.size m pn cn pk ck)∧Hid (jM ns root n k m.kids (yD 11 (k:Int) x) j mL x')) (fun i _=>m.kids.length-(intOf i).toNat)
 case atStart=>exact⟨0,lo,yD 11 (k:Int) x,b,c,by omega,rfl,xP,qH,vR,qC (jM.zero (qA HS) (qA dV))⟩
 case round=>
  obtain⟨j,mL,x',b',c',hj,rfl,vK,uM,uZ,uB⟩:=hrel
  have nT:w.heap.size<wr.heap.size:=(Array.getElem?_eq_some_iff.1 (qA uZ).blk).1
  have hXr:=(qA vK).lt
  obtain⟨z0,z2,z4⟩:=(qA uZ).cells
  have dE:=qC ((qA uM).low (qA HW) u6)
  by_cases jF:j<m.kids.length
  ·obtain⟨qX,pW,bF,s1,s2,s3⟩:=(qA uB).step jF hk
   obtain⟨kb,zY,kI,y0⟩:=(qA HI wr (qA dE)) j jF
   rw[pW]at y0
   rw[kI]at z4
   clear kI
   have HC:=qC (qA xH qX mL x' b' c' wr bF s1 s2 (qA vK) (qA dE))
   unfold zA at HC
   have yK:=qC s3
   clear pW s1 s2 s3
   go_wp2_with fail
   refine(qA HC).mono ?_
   rintro e w2 ⟨rfl,b2,wG,vJ,yA⟩
   have mO:=qC vJ
   have qH:=qC ((qA uM).trans yA)
   have uF:=qC ((qA uZ).keep yA tW)
   clear vJ yA HC
   go_wp2
   go_roundw
   case rel=>exact⟨j+1,qX+1,_,b2,wG,by omega,by go_num,mO,qH,uF,qC (qA yK)⟩
   case measure=>simp[intOf];omega
  ·obtain rfl:j=m.kids.length:=by omega
   have dD:=(qA uB).done
   have hxl:=(qA uB).len
   rw[dD]at vK
   clear dD uB
   go_wp2
   go_end0
   exact⟨rfl,b',c',qA vK,qA uM⟩
theorem qOf{ns:List TN}{root:Int}{L:rO}{w0:World}{X n k lo:Nat}{m:TN}{x:SC}{b c:Nat}{w:World}(mN:NX ns root L w0 X)(vL:pQ ns root L w0 X n)(hk:k≤n)(hm:ns[k]? = some m)(hS:y7 ns m.kids lo k)(hb:x.nm.length+(k+1-lo)≤1040000)(hA:wP w X (.slice L.p ns.length L.cap) (.int .i64 root) b c x)(hW:Below w0.heap.size w0 w)(yE:m.k=20)(hR:sn ns root (n+1) (k:Int) x=x):zA ns root L X (n+1) k x w:=by
 unfold zA
 rw[hR]
 obtain⟨pn,cn,pk,ck,nb,jK,wC,fJ,rZ,zN,u6,mP,tW,c0,c1,hp,q0,q1,q2,q3,q4,HI,xO,vG,yV,yF,nW⟩:=kU mN hm hA hW
 obtain⟨-,-,c2,c3,c4,c5,c6⟩:=hA.blk.cells
 have hlen:x.nm.length≤1040000:=by omega
 have xH:=qC vL
 have fV:=qC mN
 have HS:=qC hS
 have HA:=qC hA
 have HW:=qC hW
 have HP:=qC hp
 have pU:=hm
 clear vL hS mN hR
 have e20:(m.k == 20)=true:=by rw[yE];rfl
 have e5:(m.k == 5)=false:=by rw[yE];rfl
 have e12:(m.k == 12)=false:=by rw[yE];rfl
 have e10:(m.k == 10)=false:=by rw[yE];rfl
 clear yE
 go_enter Tryz.func140,Tryz.ntmps140
 go_wp2
 exact bodyPost_ret (results_none rfl _ _ _) rfl ⟨rfl,b,c,qA vG,qA yV⟩
theorem qGn{ns:List TN}{root:Int}{L:rO}{w0:World}{X n k lo:Nat}{m:TN}{x:SC}{b c:Nat}{w:World}(mN:NX ns root L w0 X)(vL:pQ ns root L w0 X n)(hk:k≤n)(hm:ns[k]? = some m)(hS:y7 ns m.kids lo k)(hb:x.nm.length+(k+1-lo)≤1040000)(hA:wP w X (.slice L.p ns.length L.cap) (.int .i64 root) b c x)(hW:Below w0.heap.size w0 w)(bH:m.k=18)(hR:sn ns root (n+1) (k:Int) x=k4 x (m.kids.foldl (fun x j=>sn ns root n j x) (jG x))):zA ns root L X (n+1) k x w:=by
 unfold zA
 rw[hR]
 obtain⟨pn,cn,pk,ck,nb,jK,wC,fJ,rZ,zN,u6,mP,tW,c0,c1,hp,q0,q1,q2,q3,q4,HI,xO,vG,yV,yF,nW⟩:=kU mN hm hA hW
 obtain⟨-,-,c2,c3,c4,c5,c6⟩:=hA.blk.cells
 have hlen:x.nm.length≤1040000:=by omega
 have xH:=qC vL
 have fV:=qC mN
 have HS:=qC hS
 have HA:=qC hA
 have HW:=qC hW
 have HP:=qC hp
 have pU:=hm
 clear vL hS mN hR
 have e18:(m.k == 18)=true:=by rw[bH];rfl
 have e5:(m.k == 5)=false:=by rw[bH];rfl
 have e12:(m.k == 12)=false:=by rw[bH];rfl
 have e10:(m.k == 10)=false:=by rw[bH];rfl
 have e20:(m.k == 20)=false:=by rw[bH];rfl
 clear bH
 have zX:=hA.st
 have dV:Hid ((jG x).nm.length+(k-lo)≤1040000):=qC (by show x.nm.length+(k-lo)≤1040000;omega)
 have ff:=(qA vG).blk.free
 have xP:=qC ((qA HA).open.later (qD _ (.cells #[.int .i64 m.k,.int .i64 m.n,.string m.t,.slice pn m.names.length cn,.slice pk m.kids.length ck] 128)))
 have qH:=qC (((zJ.refl X w).set_it (o:=3) (v:=.int .i64 (x.nm.length:Int))).alloc (.cells #[.int .i64 m.k,.int .i64 m.n,.string m.t,.slice pn m.names.length cn,.slice pk m.kids.length ck] 128))
 have vR:Hid (uC ((w.setCell ⟨X,3,none⟩ (.int .i64 (x.nm.length:Int))).alloc (.cells #[.int .i64 m.k,.int .i64 m.n,.string m.t,.slice pn m.names.length cn,.slice pk m.kids.length ck] 128)) w.heap.size m pn cn pk ck):=qC ⟨by
  have:=heap_alloc_new (w.setCell ⟨X,3,none⟩ (.int .i64 (x.nm.length:Int))) (.cells #[.int .i64 m.k,.int .i64 m.n,.string m.t,.slice pn m.names.length cn,.slice pk m.kids.length ck] 128)
  rw[World.size_setCell]at this
  exact this⟩
 go_enter Tryz.func140,Tryz.ntmps140
 go_wp2
 go_loopw[9] (fun i wx=>∃ (j mL:Nat) (x':SC) (b' c':Nat),j≤m.kids.length∧i=.int .i64 j∧Hid (wP wx X (.slice L.p ns.length L.cap) (.int .i64 root) b' c' x')∧Hid (zJ X w wx)∧Hid (uC wx w.heap.size m pn cn pk ck)∧Hid (jM ns root n k m.kids (jG x) j mL x')) (fun i _=>m.kids.length-(intOf i).toNat)
 case atStart=>exact⟨0,lo,jG x,b,c,by omega,rfl,xP,qH,vR,qC (jM.zero (qA HS) (qA dV))⟩
 case round=>
  obtain⟨j,mL,x',b',c',hj,rfl,vK,uM,uZ,uB⟩:=hrel
  have nT:w.heap.size<wr.heap.size:=(Array.getElem?_eq_some_iff.1 (qA uZ).blk).1
  have hXr:=(qA vK).lt
  obtain⟨z0,z2,z4⟩:=(qA uZ).cells
  have dE:=qC ((qA uM).low (qA HW) u6)
  by_cases jF:j<m.kids.length
  ·obtain⟨qX,pW,bF,s1,s2,s3⟩:=(qA uB).step jF hk
   obtain⟨kb,zY,kI,y0⟩:=(qA HI wr (qA dE)) j jF
   rw[pW]at y0
   rw[kI]at z4
   clear kI
   have HC:=qC (qA xH qX mL x' b' c' wr bF s1 s2 (qA vK) (qA dE))
   unfold zA at HC
   have yK:=qC s3
   clear pW s1 s2 s3
   go_wp2_with fail
   refine(qA HC).mono ?_
   rintro e w2 ⟨rfl,b2,wG,vJ,yA⟩
   have mO:=qC vJ
   have qH:=qC ((qA uM).trans yA)
   have uF:=qC ((qA uZ).keep yA tW)
   clear vJ yA HC
   go_wp2
   go_roundw
   case rel=>exact⟨j+1,qX+1,_,b2,wG,by omega,by go_num,mO,qH,uF,qC (qA yK)⟩
   case measure=>simp[intOf];omega
  ·obtain rfl:j=m.kids.length:=by omega
   have dD:=(qA uB).done
   have lS:(jG x).nm <+: x'.nm:=by rw[dD];exact(pZ (fun x j=>eP ns root n j x) m.kids (jG x)).2
   have hle:x.nm.length≤x'.nm.length:=lS.length_le
   have qQV:x.nm.length≤c':=Nat.le_trans hle (qA vK).nms.cap
   obtain⟨g0,g1,g2,g3,g4,g5,g6⟩:=(qA vK).blk.cells
   have gf:=(qA vK).blk.free
   have HF:=qC ((qA vK).shut (x0:=x) lS zX)
   rw[dD]at HF
   have HKF:=qC (((qA uM).set_it (o:=3) (v:=.int .i64 (x.st:Int))).set_it (o:=2) (v:=.slice (some ⟨b',0,none⟩) x.nm.length c'))
   generalize x'.nm.length=nx at g2 hle
   clear dD uB lS
   go_wp2
   exact bodyPost_ret (results_none rfl _ _ _) rfl ⟨rfl,b',c',qA HF,qA HKF⟩
theorem qLl{ns:List TN}{root:Int}{L:rO}{w0:World}{X n k lo:Nat}{m:TN}{x:SC}{b c:Nat}{w:World}(mN:NX ns root L w0 X)(vL:pQ ns root L w0 X n)(hk:k≤n)(hm:ns[k]? = some m)(hS:y7 ns m.kids lo k)(hb:x.nm.length+(k+1-lo)≤1040000)(hA:wP w X (.slice L.p ns.length L.cap) (.int .i64 root) b c x)(hW:Below w0.heap.size w0 w)(bI:m.k=17)(ma mb:Nat)(xV:m.kids=[(ma:Int),(mb:Int)])(hR:sn ns root (n+1) (k:Int) x=k4 (sn ns root n ma x) (sn ns root n mb (qQ m.t k (jG (sn ns root n ma x))))):zA ns root L X (n+1) k x w:=by
 unfold zA
 rw[hR]
 obtain⟨pn,cn,pk,ck,nb,jK,wC,fJ,rZ,zN,u6,mP,tW,c0,c1,hp,q0,q1,q2,q3,q4,HI,xO,vG,yV,yF,nW⟩:=kU mN hm hA hW
 obtain⟨-,-,c2,c3,c4,c5,c6⟩:=hA.blk.cells
 have hlen:x.nm.length≤1040000:=by omega
 have xH:=qC vL
 have fV:=qC mN
 have HS:=qC hS
 have HA:=qC hA
 have HW:=qC hW
 have HP:=qC hp
 have pU:=hm
 clear vL hS mN hR
 have e17:(m.k == 17)=true:=by rw[bI];rfl
 have e5:(m.k == 5)=false:=by rw[bI];rfl
 have e12:(m.k == 12)=false:=by rw[bI];rfl
 have e10:(m.k == 10)=false:=by rw[bI];rfl
 have e20:(m.k == 20)=false:=by rw[bI];rfl
 have e18:(m.k == 18)=false:=by rw[bI];rfl
 clear bI
 have hl2:m.kids.length=2:=by rw[xV];rfl
 have h0l:(0:Int)<(m.kids.length:Int):=by omega
 have h1l:(1:Int)<(m.kids.length:Int):=by omega
 have k0:m.kids[0]'(by omega)=(ma:Int):=by simp[xV]
 have k1:m.kids[1]'(by omega)=(mb:Int):=by simp[xV]
 have dA:=qA HS
 rw[xV]at dA
 obtain⟨ma',xa,ea,_,_,_,sa,sr,la,ha⟩:=dA.head
 obtain rfl:ma'=ma:=by omega
 obtain⟨mb',xb,eb,_,_,_,sb,_,lb,hbb⟩:=sr.head
 obtain rfl:mb'=mb:=by omega
 have la1:=qIj ns root n ma' lo x (by omega) sa
 have dT:=qC (qA xH ma' lo x b c _ (by omega) sa (by omega) (qA vG) (qA yF))
 unfold zA at dT
 have HSB:=qC sb
 obtain⟨kb,zY,kI,y0⟩:=(qA HI w (qA HW)) 0 (by omega)
 rw[k0,Nat.add_zero]at y0
 have qMm:kb<w.heap.size:=World.block_lt_of_cell? _ _ y0
 have xJ:Hid (∀ wx,Below w0.heap.size w0 wx→wx.cell? ⟨kb,zY+1,none⟩=some (.int .i64 (mb':Int))):=qC (fun wx h=>by
  obtain⟨lP,kP,uH,y1⟩:=(qA HI wx h) 1 (by omega)
  rw[kI]at uH
  obtain⟨rfl,rfl⟩:kb=lP∧zY=kP:=by simpa using uH
  rw[k1]at y1
  exact y1)
 subst kI
 have jDa:=hA.st
 generalize sn ns root n (ma':Int) x=x1 at la1 dT ⊢
 have qY:=xA.bring m.t (k:Int) (jG x1)
 have nT:(qQ m.t (k:Int) (jG x1)).nm.length=x1.nm.length+1:=by rw[vI];simp[jG]
 have yW:=qC (fun (b1 xB:Nat) (w1:World) (h:wP w1 X (.slice L.p ns.length L.cap) (.int .i64 root) b1 xB (jG x1))=>nD X (.slice L.p ns.length L.cap) (.int .i64 root) b1 xB (jG x1) (k:Int) m.t w1 h (by show x1.nm.length≤1048576;omega) (by unfold maxLen;omega))
 generalize qQ m.t (k:Int) (jG x1)=x2 at qY nT yW ⊢
 have yJ:=qC (fun (b2 wG:Nat) (w2:World) (h:wP w2 X (.slice L.p ns.length L.cap) (.int .i64 root) b2 wG x2) (hw:Below w0.heap.size w0 w2)=>qA xH mb' (ma'+1) x2 b2 wG w2 (by omega) sb (by omega) h hw)
 unfold zA at yJ
 have lS:x1.nm <+: (sn ns root n (mb':Int) x2).nm:=qY.2.trans (eP ns root n mb' x2).2
 generalize sn ns root n (mb':Int) x2=x3 at yJ lS ⊢
 have hle:x1.nm.length≤x3.nm.length:=lS.length_le
 have qJX:=qC lS
 clear dA sr sa sb k0 k1 xV ea eb HI HS hl2 qY HSB lS
 go_enter Tryz.func140,Tryz.ntmps140
 go_wp2_with fail
 refine(qA dT).mono ?_
 rintro e w1 ⟨rfl,b1,xB,dF,tO⟩
 have jD4:Hid (Below w0.heap.size w0 w1):=qC (tO.low (qA yF) u6)
 have qH:=qC ((qA yV).trans tO)
 have vR:=qC ((qA xO).keep tO tW)
 have hw1:w.heap.size<w1.heap.size:=(Array.getElem?_eq_some_iff.1 (qA vR).blk).1
 have hX1:=dF.lt
 have qZI:x1.st≤x1.nm.length:=dF.st
 have HA3:=qC dF.open
 have yK:=qC ((qA qH).set_it (o:=3) (v:=.int .i64 (x1.nm.length:Int)))
 have bJ:=qC ((qA vR).keep ((zJ.refl X w1).set_it (o:=3) (v:=.int .i64 (x1.nm.length:Int))) tW)
 obtain⟨g0,g1,g2,g3,g4,g5,g6⟩:=dF.blk.cells
 have gf:=dF.blk.free
 obtain⟨z0,z2,z4⟩:=(qA vR).cells
 have qUp:=qC (qA yW _ _ _ (qA HA3))
 have HW3:=qC ((qA yK).low (qA HW) u6)
 clear dF tO dT vG yV xO yF HA3 yW
 go_wp2_with fail
 refine(qA qUp).mono ?_
 rintro e w2 ⟨rfl,b2,wG,vJ,yA⟩
 have fG:=qC ((qA yK).trans yA)
 have qU7:=qC ((qA bJ).keep yA tW)
 have HW4:=qC (yA.low (qA HW3) u6)
 have hw2:w.heap.size<w2.heap.size:=(Array.getElem?_eq_some_iff.1 (qA qU7).blk).1
 have hX2:=vJ.lt
 obtain⟨z0,z2,z4⟩:=(qA qU7).cells
 have y1:=qA xJ w2 (qA HW4)
 have qVV:=qC (qA yJ _ _ _ vJ (qA HW4))
 clear vJ yA qUp yK bJ g0 g1 g2 g3 g4 g5 g6 gf y0 yJ
 go_wp2_with fail
 refine(qA qVV).mono ?_
 rintro e w3 ⟨rfl,b3,aJ,nG,mF⟩
 have tV:=qC ((qA fG).trans mF)
 have hX3:=nG.lt
 have qQV:x1.nm.length≤aJ:=Nat.le_trans hle nG.nms.cap
 obtain⟨g0,g1,g2,g3,g4,g5,g6⟩:=nG.blk.cells
 have gf:=nG.blk.free
 have HF:=qC (nG.shut (x0:=x1) (qA qJX) qZI)
 have HKF:=qC (((qA tV).set_it (o:=3) (v:=.int .i64 (x1.st:Int))).set_it (o:=2) (v:=.slice (some ⟨b3,0,none⟩) x1.nm.length aJ))
 generalize x3.nm.length=nx at g2 hle
 clear nG mF qVV y1
 go_wp2
 exact bodyPost_ret (results_none rfl _ _ _) rfl ⟨rfl,b3,aJ,qA HF,qA HKF⟩
theorem qEK{ns:List TN}{root:Int}{L:rO}{w0:World}{X n k lo:Nat}{m:TN}{x:SC}{b c:Nat}{w:World}(mN:NX ns root L w0 X)(vL:pQ ns root L w0 X n)(hk:k≤n)(hm:ns[k]? = some m)(hS:y7 ns m.kids lo k)(hb:x.nm.length+(k+1-lo)≤1040000)(hA:wP w X (.slice L.p ns.length L.cap) (.int .i64 root) b c x)(hW:Below w0.heap.size w0 w)(wS:m.k=10)(hfn:∃ f:Nat,bL ns root m.t=(f:Int)∧f<ns.length)(uG:((zK ns (bL ns root m.t)).length:Int)=(m.kids.length:Int))(hR:sn ns root (n+1) (k:Int) x=m.kids.foldl (fun x j=>sn ns root n j x) (x)):zA ns root L X (n+1) k x w:=by
 unfold zA
 rw[hR]
 obtain⟨pn,cn,pk,ck,nb,jK,wC,fJ,rZ,zN,u6,mP,tW,c0,c1,hp,q0,q1,q2,q3,q4,HI,xO,vG,yV,yF,nW⟩:=kU mN hm hA hW
 obtain⟨-,-,c2,c3,c4,c5,c6⟩:=hA.blk.cells
 have hlen:x.nm.length≤1040000:=by omega
 have xH:=qC vL
 have fV:=qC mN
 have HS:=qC hS
 have HA:=qC hA
 have HW:=qC hW
 have HP:=qC hp
 have pU:=hm
 clear vL hS mN hR
 have e10:(m.k == 10)=true:=by rw[wS];rfl
 have e5:(m.k == 5)=false:=by rw[wS];rfl
 have e12:(m.k == 12)=false:=by rw[wS];rfl
 have e11:(m.k == 11)=false:=by rw[wS];rfl
 clear wS
 have dT:Hid (∀ wx,Below w0.heap.size w0 wx→Calls Tryz.prog 162 #[.agg #[.slice (some ⟨nb,jK,none⟩) ns.length L.cap,.int .i64 root],.string m.t] wx fun e w'=>e=.returned (.int .i64 (bL ns root m.t))∧Below wx.heap.size wx w'):=qC (fun wx h=>by
  have hc:=gR ns root m.t L wx ((qA fV).nodes.later h) (qA fV).small (qA fV).ok
  rw[qA HP]at hc
  refine hc.mono ?_
  rintro e w' ⟨r,rfl,hF,fR⟩
  rw[tA hF]
  exact⟨rfl,fR⟩)
 have dV:Hid ((x).nm.length+(k-lo)≤1040000):=qC (by omega)
 have nH:=qC (fun w=>tD m.t w)
 obtain⟨f,hfE,hfl⟩:=hfn
 have HNR:Hid (∀ wx,Below w0.heap.size w0 wx→∃ pf cf,wx.cell? ⟨nb,jK+f*5+3,none⟩=some (.slice pf (zK ns (f:Int)).length cf)):=qC (fun wx h=>by
  obtain⟨b',qC4,hp',_,_,_,u3,_⟩:=((qA fV).nodes.later h) f hfl
  rw[qA HP]at hp'
  obtain⟨rfl,rfl⟩:nb=b'∧jK=qC4:=by simpa using hp'
  have e3:zK ns (f:Int)=ns[f].names:=by unfold zK;rw[Int.toNat_natCast,List.getElem?_eq_getElem hfl];rfl
  rw[e3]
  exact⟨L.pn f,L.cn f,u3⟩)
 have hnl:(zK ns (f:Int)).length≤1048576:=by
  rw[show(zK ns (f:Int))=ns[f].names by unfold zK;rw[Int.toNat_natCast,List.getElem?_eq_getElem hfl];rfl]
  exact((qA fV).small.2 ns[f] (List.getElem_mem hfl)).2.1
 rw[hfE]at dT uG
 generalize xF m.t=cz at nH
 generalize (zK ns (f:Int)).length=nl at HNR hnl uG
 clear hfE
 have ecn:((nl:Int) != (m.kids.length:Int))=false:=by simpa using uG
 clear uG
 have HWD:Hid (Below w0.heap.size w0 (w.alloc (.cells #[.int .i64 m.k,.int .i64 m.n,.string m.t,.slice pn m.names.length cn,.slice pk m.kids.length ck] 128)).drew):=qC ⟨(qA yF).os,(qA yF).tape,(qA yF).output,(qA yF).size,(qA yF).block⟩
 have yW:=qC (qA dT _ (qA HWD))
 clear dT
 go_enter Tryz.func140,Tryz.ntmps140
 go_wp2_with fail
 refine(qA nH _).mono ?_
 rintro e w' ⟨rfl,rfl⟩
 clear nH
 go_upto_region 8 with fail
 go_region_with (go_at_call 162;refine(qA yW).mono ?_;rintro e y ⟨rfl,jR⟩)
 ·have xU:Below (w.alloc (.cells #[.int .i64 m.k,.int .i64 m.n,.string m.t,.slice pn m.names.length cn,.slice pk m.kids.length ck] 128)).heap.size (w.alloc (.cells #[.int .i64 m.k,.int .i64 m.n,.string m.t,.slice pn m.names.length cn,.slice pk m.kids.length ck] 128)) y:=(qF (Below.refl _ _)).trans jR
  have xP:=qC ((qA vG).later xU)
  have qH:=qC ((qA yV).then_below xU)
  have vR:=qC ((qA xO).keep (zJ.of_below (B:=X) xU) tW)
  have tN:=qC ((zJ.of_below (B:=X) xU).low (qA yF) u6)
  have hyl:w.heap.size<y.heap.size:=(Array.getElem?_eq_some_iff.1 (qA vR).blk).1
  have hyX:=(qA xP).lt
  obtain⟨z0,z2,z4⟩:=(qA vR).cells
  obtain⟨g0,g1,g2,g3,g4,g5,g6⟩:=(qA xP).blk.cells
  rw[qA HP]at g0
  clear xU jR yW vG yV xO yF HWD c0 c1 c2 c3 c4 c5 c6 q0 q1 q2 q3 q4
  obtain⟨pf,cf,v3⟩:=qA HNR y (qA tN)
  clear HNR
  go_wp2
  go_loopw[12] (fun i wx=>∃ (j mL:Nat) (x':SC) (b' c':Nat),j≤m.kids.length∧i=.int .i64 j∧Hid (wP wx X (.slice L.p ns.length L.cap) (.int .i64 root) b' c' x')∧Hid (zJ X w wx)∧Hid (uC wx w.heap.size m pn cn pk ck)∧Hid (jM ns root n k m.kids (x) j mL x')) (fun i _=>m.kids.length-(intOf i).toNat)
  case atStart=>exact⟨0,lo,x,b,c,by omega,rfl,xP,qH,vR,qC (jM.zero (qA HS) (qA dV))⟩
  case round=>
   obtain⟨j,mL,x',b',c',hj,rfl,vK,uM,uZ,uB⟩:=hrel
   have nT:w.heap.size<wr.heap.size:=(Array.getElem?_eq_some_iff.1 (qA uZ).blk).1
   have hXr:=(qA vK).lt
   obtain⟨z0,z2,z4⟩:=(qA uZ).cells
   have dE:=qC ((qA uM).low (qA HW) u6)
   by_cases jF:j<m.kids.length
   ·obtain⟨qX,pW,bF,s1,s2,s3⟩:=(qA uB).step jF hk
    obtain⟨kb,zY,kI,y0⟩:=(qA HI wr (qA dE)) j jF
    rw[pW]at y0
    rw[kI]at z4
    clear kI
    have HC:=qC (qA xH qX mL x' b' c' wr bF s1 s2 (qA vK) (qA dE))
    unfold zA at HC
    have yK:=qC s3
    clear pW s1 s2 s3
    go_wp2_with fail
    refine(qA HC).mono ?_
    rintro e w2 ⟨rfl,b2,wG,vJ,yA⟩
    have mO:=qC vJ
    have qH:=qC ((qA uM).trans yA)
    have uF:=qC ((qA uZ).keep yA tW)
    clear vJ yA HC
    go_wp2
    go_roundw
    case rel=>exact⟨j+1,qX+1,_,b2,wG,by omega,by go_num,mO,qH,uF,qC (qA yK)⟩
    case measure=>simp[intOf];omega
   ·obtain rfl:j=m.kids.length:=by omega
    have dD:=(qA uB).done
    have hxl:=(qA uB).len
    rw[dD]at vK
    clear dD uB
    go_wp2
    go_end0
    exact⟨rfl,b',c',qA vK,qA uM⟩
 ·have xU:Below (w.alloc (.cells #[.int .i64 m.k,.int .i64 m.n,.string m.t,.slice pn m.names.length cn,.slice pk m.kids.length ck] 128)).heap.size (w.alloc (.cells #[.int .i64 m.k,.int .i64 m.n,.string m.t,.slice pn m.names.length cn,.slice pk m.kids.length ck] 128)) y:=(qF (Below.refl _ _)).trans jR
  have xP:=qC ((qA vG).later xU)
  have qH:=qC ((qA yV).then_below xU)
  have vR:=qC ((qA xO).keep (zJ.of_below (B:=X) xU) tW)
  have tN:=qC ((zJ.of_below (B:=X) xU).low (qA yF) u6)
  have hyl:w.heap.size<y.heap.size:=(Array.getElem?_eq_some_iff.1 (qA vR).blk).1
  have hyX:=(qA xP).lt
  obtain⟨z0,z2,z4⟩:=(qA vR).cells
  obtain⟨g0,g1,g2,g3,g4,g5,g6⟩:=(qA xP).blk.cells
  rw[qA HP]at g0
  clear xU jR yW vG yV xO yF HWD c0 c1 c2 c3 c4 c5 c6 q0 q1 q2 q3 q4
  obtain⟨pf,cf,v3⟩:=qA HNR y (qA tN)
  clear HNR
  go_wp2
  go_loopw[12] (fun i wx=>∃ (j mL:Nat) (x':SC) (b' c':Nat),j≤m.kids.length∧i=.int .i64 j∧Hid (wP wx X (.slice L.p ns.length L.cap) (.int .i64 root) b' c' x')∧Hid (zJ X w wx)∧Hid (uC wx w.heap.size m pn cn pk ck)∧Hid (jM ns root n k m.kids (x) j mL x')) (fun i _=>m.kids.length-(intOf i).toNat)
  case atStart=>exact⟨0,lo,x,b,c,by omega,rfl,xP,qH,vR,qC (jM.zero (qA HS) (qA dV))⟩
  case round=>
   obtain⟨j,mL,x',b',c',hj,rfl,vK,uM,uZ,uB⟩:=hrel
   have nT:w.heap.size<wr.heap.size:=(Array.getElem?_eq_some_iff.1 (qA uZ).blk).1
   have hXr:=(qA vK).lt
   obtain⟨z0,z2,z4⟩:=(qA uZ).cells
   have dE:=qC ((qA uM).low (qA HW) u6)
   by_cases jF:j<m.kids.length
   ·obtain⟨qX,pW,bF,s1,s2,s3⟩:=(qA uB).step jF hk
    obtain⟨kb,zY,kI,y0⟩:=(qA HI wr (qA dE)) j jF
    rw[pW]at y0
    rw[kI]at z4
    clear kI
    have HC:=qC (qA xH qX mL x' b' c' wr bF s1 s2 (qA vK) (qA dE))
    unfold zA at HC
    have yK:=qC s3
    clear pW s1 s2 s3
    go_wp2_with fail
    refine(qA HC).mono ?_
    rintro e w2 ⟨rfl,b2,wG,vJ,yA⟩
    have mO:=qC vJ
    have qH:=qC ((qA uM).trans yA)
    have uF:=qC ((qA uZ).keep yA tW)
    clear vJ yA HC
    go_wp2
    go_roundw
    case rel=>exact⟨j+1,qX+1,_,b2,wG,by omega,by go_num,mO,qH,uF,qC (qA yK)⟩
    case measure=>simp[intOf];omega
   ·obtain rfl:j=m.kids.length:=by omega
    have dD:=(qA uB).done
    have hxl:=(qA uB).len
    rw[dD]at vK
    clear dD uB
    go_wp2
    go_end0
    exact⟨rfl,b',c',qA vK,qA uM⟩
theorem qA5{ns:List TN}{root:Int}{L:rO}{w0:World}{X n k lo:Nat}{m:TN}{x:SC}{b c:Nat}{w:World}(mN:NX ns root L w0 X)(vL:pQ ns root L w0 X n)(hk:k≤n)(hm:ns[k]? = some m)(hS:y7 ns m.kids lo k)(hb:x.nm.length+(k+1-lo)≤1040000)(hA:wP w X (.slice L.p ns.length L.cap) (.int .i64 root) b c x)(hW:Below w0.heap.size w0 w)(wS:m.k=10)(hfn:∃ f:Nat,bL ns root m.t=(f:Int)∧f<ns.length)(uG:((zK ns (bL ns root m.t)).length:Int)≠(m.kids.length:Int))(hR:sn ns root (n+1) (k:Int) x=m.kids.foldl (fun x j=>sn ns root n j x) (yD 14 (k:Int) x)):zA ns root L X (n+1) k x w:=by
 unfold zA
 rw[hR]
 obtain⟨pn,cn,pk,ck,nb,jK,wC,fJ,rZ,zN,u6,mP,tW,c0,c1,hp,q0,q1,q2,q3,q4,HI,xO,vG,yV,yF,nW⟩:=kU mN hm hA hW
 obtain⟨-,-,c2,c3,c4,c5,c6⟩:=hA.blk.cells
 have hlen:x.nm.length≤1040000:=by omega
 have xH:=qC vL
 have fV:=qC mN
 have HS:=qC hS
 have HA:=qC hA
 have HW:=qC hW
 have HP:=qC hp
 have pU:=hm
 clear vL hS mN hR
 have e10:(m.k == 10)=true:=by rw[wS];rfl
 have e5:(m.k == 5)=false:=by rw[wS];rfl
 have e12:(m.k == 12)=false:=by rw[wS];rfl
 have e11:(m.k == 11)=false:=by rw[wS];rfl
 clear wS
 have dT:Hid (∀ wx,Below w0.heap.size w0 wx→Calls Tryz.prog 162 #[.agg #[.slice (some ⟨nb,jK,none⟩) ns.length L.cap,.int .i64 root],.string m.t] wx fun e w'=>e=.returned (.int .i64 (bL ns root m.t))∧Below wx.heap.size wx w'):=qC (fun wx h=>by
  have hc:=gR ns root m.t L wx ((qA fV).nodes.later h) (qA fV).small (qA fV).ok
  rw[qA HP]at hc
  refine hc.mono ?_
  rintro e w' ⟨r,rfl,hF,fR⟩
  rw[tA hF]
  exact⟨rfl,fR⟩)
 have dV:Hid ((yD 14 (k:Int) x).nm.length+(k-lo)≤1040000):=qC (by rw[dI];omega)
 have nH:=qC (fun w=>tD m.t w)
 obtain⟨f,hfE,hfl⟩:=hfn
 have HNR:Hid (∀ wx,Below w0.heap.size w0 wx→∃ pf cf,wx.cell? ⟨nb,jK+f*5+3,none⟩=some (.slice pf (zK ns (f:Int)).length cf)):=qC (fun wx h=>by
  obtain⟨b',qC4,hp',_,_,_,u3,_⟩:=((qA fV).nodes.later h) f hfl
  rw[qA HP]at hp'
  obtain⟨rfl,rfl⟩:nb=b'∧jK=qC4:=by simpa using hp'
  have e3:zK ns (f:Int)=ns[f].names:=by unfold zK;rw[Int.toNat_natCast,List.getElem?_eq_getElem hfl];rfl
  rw[e3]
  exact⟨L.pn f,L.cn f,u3⟩)
 have hnl:(zK ns (f:Int)).length≤1048576:=by
  rw[show(zK ns (f:Int))=ns[f].names by unfold zK;rw[Int.toNat_natCast,List.getElem?_eq_getElem hfl];rfl]
  exact((qA fV).small.2 ns[f] (List.getElem_mem hfl)).2.1
 rw[hfE]at dT uG
 generalize xF m.t=cz at nH
 generalize (zK ns (f:Int)).length=nl at HNR hnl uG
 clear hfE
 have ecn:((nl:Int) != (m.kids.length:Int))=true:=by simpa using uG
 clear uG
 have HWD:Hid (Below w0.heap.size w0 (w.alloc (.cells #[.int .i64 m.k,.int .i64 m.n,.string m.t,.slice pn m.names.length cn,.slice pk m.kids.length ck] 128)).drew):=qC ⟨(qA yF).os,(qA yF).tape,(qA yF).output,(qA yF).size,(qA yF).block⟩
 have yW:=qC (qA dT _ (qA HWD))
 clear dT
 go_enter Tryz.func140,Tryz.ntmps140
 go_wp2_with fail
 refine(qA nH _).mono ?_
 rintro e w' ⟨rfl,rfl⟩
 clear nH
 go_upto_region 8 with fail
 go_region_with (go_at_call 162;refine(qA yW).mono ?_;rintro e y ⟨rfl,jR⟩)
 ·have xU:Below (w.alloc (.cells #[.int .i64 m.k,.int .i64 m.n,.string m.t,.slice pn m.names.length cn,.slice pk m.kids.length ck] 128)).heap.size (w.alloc (.cells #[.int .i64 m.k,.int .i64 m.n,.string m.t,.slice pn m.names.length cn,.slice pk m.kids.length ck] 128)) y:=(qF (Below.refl _ _)).trans jR
  have xP:=qC ((qA vG).later xU)
  have qH:=qC ((qA yV).then_below xU)
  have vR:=qC ((qA xO).keep (zJ.of_below (B:=X) xU) tW)
  have tN:=qC ((zJ.of_below (B:=X) xU).low (qA yF) u6)
  have hyl:w.heap.size<y.heap.size:=(Array.getElem?_eq_some_iff.1 (qA vR).blk).1
  have hyX:=(qA xP).lt
  obtain⟨z0,z2,z4⟩:=(qA vR).cells
  obtain⟨g0,g1,g2,g3,g4,g5,g6⟩:=(qA xP).blk.cells
  rw[qA HP]at g0
  clear xU jR yW vG yV xO yF HWD c0 c1 c2 c3 c4 c5 c6 q0 q1 q2 q3 q4
  obtain⟨pf,cf,v3⟩:=qA HNR y (qA tN)
  clear HNR
  go_wp2_with fail
  refine(gQ X (.slice L.p ns.length L.cap) (.int .i64 root) _ (x.st:Int) (x.mo:Int) x.fc x.fn 14 (k:Int) y (qA xP).blk).mono ?_
  rintro e w1 ⟨rfl,dF,tO,wJ⟩
  have HA3:=qC ((qA xP).fail dF tO)
  have yK:=qC ((qA qH).trans tO)
  have bJ:=qC ((qA vR).keep tO tW)
  have jD:w.heap.size<w1.heap.size:=by omega
  obtain⟨z0,z2,z4⟩:=(qA bJ).cells
  clear dF tO xP vR qH
  go_wp2
  go_loopw[12] (fun i wx=>∃ (j mL:Nat) (x':SC) (b' c':Nat),j≤m.kids.length∧i=.int .i64 j∧Hid (wP wx X (.slice L.p ns.length L.cap) (.int .i64 root) b' c' x')∧Hid (zJ X w wx)∧Hid (uC wx w.heap.size m pn cn pk ck)∧Hid (jM ns root n k m.kids (yD 14 (k:Int) x) j mL x')) (fun i _=>m.kids.length-(intOf i).toNat)
  case atStart=>exact⟨0,lo,yD 14 (k:Int) x,b,c,by omega,rfl,HA3,yK,bJ,qC (jM.zero (qA HS) (qA dV))⟩
  case round=>
   obtain⟨j,mL,x',b',c',hj,rfl,vK,uM,uZ,uB⟩:=hrel
   have nT:w.heap.size<wr.heap.size:=(Array.getElem?_eq_some_iff.1 (qA uZ).blk).1
   have hXr:=(qA vK).lt
   obtain⟨z0,z2,z4⟩:=(qA uZ).cells
   have dE:=qC ((qA uM).low (qA HW) u6)
   by_cases jF:j<m.kids.length
   ·obtain⟨qX,pW,bF,s1,s2,s3⟩:=(qA uB).step jF hk
    obtain⟨kb,zY,kI,y0⟩:=(qA HI wr (qA dE)) j jF
    rw[pW]at y0
    rw[kI]at z4
    clear kI
    have HC:=qC (qA xH qX mL x' b' c' wr bF s1 s2 (qA vK) (qA dE))
    unfold zA at HC
    have yK:=qC s3
    clear pW s1 s2 s3
    go_wp2_with fail
    refine(qA HC).mono ?_
    rintro e w2 ⟨rfl,b2,wG,vJ,yA⟩
    have mO:=qC vJ
    have qH:=qC ((qA uM).trans yA)
    have uF:=qC ((qA uZ).keep yA tW)
    clear vJ yA HC
    go_wp2
    go_roundw
    case rel=>exact⟨j+1,qX+1,_,b2,wG,by omega,by go_num,mO,qH,uF,qC (qA yK)⟩
    case measure=>simp[intOf];omega
   ·obtain rfl:j=m.kids.length:=by omega
    have dD:=(qA uB).done
    have hxl:=(qA uB).len
    rw[dD]at vK
    clear dD uB
    go_wp2
    go_end0
    exact⟨rfl,b',c',qA vK,qA uM⟩
 ·have xU:Below (w.alloc (.cells #[.int .i64 m.k,.int .i64 m.n,.string m.t,.slice pn m.names.length cn,.slice pk m.kids.length ck] 128)).heap.size (w.alloc (.cells #[.int .i64 m.k,.int .i64 m.n,.string m.t,.slice pn m.names.length cn,.slice pk m.kids.length ck] 128)) y:=(qF (Below.refl _ _)).trans jR
  have xP:=qC ((qA vG).later xU)
  have qH:=qC ((qA yV).then_below xU)
  have vR:=qC ((qA xO).keep (zJ.of_below (B:=X) xU) tW)
  have tN:=qC ((zJ.of_below (B:=X) xU).low (qA yF) u6)
  have hyl:w.heap.size<y.heap.size:=(Array.getElem?_eq_some_iff.1 (qA vR).blk).1
  have hyX:=(qA xP).lt
  obtain⟨z0,z2,z4⟩:=(qA vR).cells
  obtain⟨g0,g1,g2,g3,g4,g5,g6⟩:=(qA xP).blk.cells
  rw[qA HP]at g0
  clear xU jR yW vG yV xO yF HWD c0 c1 c2 c3 c4 c5 c6 q0 q1 q2 q3 q4
  obtain⟨pf,cf,v3⟩:=qA HNR y (qA tN)
  clear HNR
  go_wp2_with fail
  refine(gQ X (.slice L.p ns.length L.cap) (.int .i64 root) _ (x.st:Int) (x.mo:Int) x.fc x.fn 14 (k:Int) y (qA xP).blk).mono ?_
  rintro e w1 ⟨rfl,dF,tO,wJ⟩
  have HA3:=qC ((qA xP).fail dF tO)
  have yK:=qC ((qA qH).trans tO)
  have bJ:=qC ((qA vR).keep tO tW)
  have jD:w.heap.size<w1.heap.size:=by omega
  obtain⟨z0,z2,z4⟩:=(qA bJ).cells
  clear dF tO xP vR qH
  go_wp2
  go_loopw[12] (fun i wx=>∃ (j mL:Nat) (x':SC) (b' c':Nat),j≤m.kids.length∧i=.int .i64 j∧Hid (wP wx X (.slice L.p ns.length L.cap) (.int .i64 root) b' c' x')∧Hid (zJ X w wx)∧Hid (uC wx w.heap.size m pn cn pk ck)∧Hid (jM ns root n k m.kids (yD 14 (k:Int) x) j mL x')) (fun i _=>m.kids.length-(intOf i).toNat)
  case atStart=>exact⟨0,lo,yD 14 (k:Int) x,b,c,by omega,rfl,HA3,yK,bJ,qC (jM.zero (qA HS) (qA dV))⟩
  case round=>
   obtain⟨j,mL,x',b',c',hj,rfl,vK,uM,uZ,uB⟩:=hrel
   have nT:w.heap.size<wr.heap.size:=(Array.getElem?_eq_some_iff.1 (qA uZ).blk).1
   have hXr:=(qA vK).lt
   obtain⟨z0,z2,z4⟩:=(qA uZ).cells
   have dE:=qC ((qA uM).low (qA HW) u6)
   by_cases jF:j<m.kids.length
   ·obtain⟨qX,pW,bF,s1,s2,s3⟩:=(qA uB).step jF hk
    obtain⟨kb,zY,kI,y0⟩:=(qA HI wr (qA dE)) j jF
    rw[pW]at y0
    rw[kI]at z4
    clear kI
    have HC:=qC (qA xH qX mL x' b' c' wr bF s1 s2 (qA vK) (qA dE))
    unfold zA at HC
    have yK:=qC s3
    clear pW s1 s2 s3
    go_wp2_with fail
    refine(qA HC).mono ?_
    rintro e w2 ⟨rfl,b2,wG,vJ,yA⟩
    have mO:=qC vJ
    have qH:=qC ((qA uM).trans yA)
    have uF:=qC ((qA uZ).keep yA tW)
    clear vJ yA HC
    go_wp2
    go_roundw
    case rel=>exact⟨j+1,qX+1,_,b2,wG,by omega,by go_num,mO,qH,uF,qC (qA yK)⟩
    case measure=>simp[intOf];omega
   ·obtain rfl:j=m.kids.length:=by omega
    have dD:=(qA uB).done
    have hxl:=(qA uB).len
    rw[dD]at vK
    clear dD uB
    go_wp2
    go_end0
    exact⟨rfl,b',c',qA vK,qA uM⟩
theorem qA7{ns:List TN}{root:Int}{L:rO}{w0:World}{X n k lo:Nat}{m:TN}{x:SC}{b c:Nat}{w:World}(mN:NX ns root L w0 X)(vL:pQ ns root L w0 X n)(hk:k≤n)(hm:ns[k]? = some m)(hS:y7 ns m.kids lo k)(hb:x.nm.length+(k+1-lo)≤1040000)(hA:wP w X (.slice L.p ns.length L.cap) (.int .i64 root) b c x)(hW:Below w0.heap.size w0 w)(wS:m.k=10)(hfn:bL ns root m.t<0)(uG:xF m.t<0)(hR:sn ns root (n+1) (k:Int) x=m.kids.foldl (fun x j=>sn ns root n j x) (yD 11 (k:Int) x)):zA ns root L X (n+1) k x w:=by
 unfold zA
 rw[hR]
 obtain⟨pn,cn,pk,ck,nb,jK,wC,fJ,rZ,zN,u6,mP,tW,c0,c1,hp,q0,q1,q2,q3,q4,HI,xO,vG,yV,yF,nW⟩:=kU mN hm hA hW
 obtain⟨-,-,c2,c3,c4,c5,c6⟩:=hA.blk.cells
 have hlen:x.nm.length≤1040000:=by omega
 have xH:=qC vL
 have fV:=qC mN
 have HS:=qC hS
 have HA:=qC hA
 have HW:=qC hW
 have HP:=qC hp
 have pU:=hm
 clear vL hS mN hR
 have e10:(m.k == 10)=true:=by rw[wS];rfl
 have e5:(m.k == 5)=false:=by rw[wS];rfl
 have e12:(m.k == 12)=false:=by rw[wS];rfl
 have e11:(m.k == 11)=false:=by rw[wS];rfl
 clear wS
 have dT:Hid (∀ wx,Below w0.heap.size w0 wx→Calls Tryz.prog 162 #[.agg #[.slice (some ⟨nb,jK,none⟩) ns.length L.cap,.int .i64 root],.string m.t] wx fun e w'=>e=.returned (.int .i64 (bL ns root m.t))∧Below wx.heap.size wx w'):=qC (fun wx h=>by
  have hc:=gR ns root m.t L wx ((qA fV).nodes.later h) (qA fV).small (qA fV).ok
  rw[qA HP]at hc
  refine hc.mono ?_
  rintro e w' ⟨r,rfl,hF,fR⟩
  rw[tA hF]
  exact⟨rfl,fR⟩)
 have dV:Hid ((yD 11 (k:Int) x).nm.length+(k-lo)≤1040000):=qC (by rw[dI];omega)
 have nH:=qC (fun w=>tD m.t w)
 have qO0:¬(0:Int)≤bL ns root m.t:=by omega
 generalize bL ns root m.t=fz at dT hfn qO0
 have hcb : -1≤xF m.t∧xF m.t≤3:=by unfold xF qCH;repeat' split <;> omega
 generalize xF m.t=cz at nH uG hcb
 have ecl:cz<0:=uG
 clear uG
 have HWD:Hid (Below w0.heap.size w0 (w.alloc (.cells #[.int .i64 m.k,.int .i64 m.n,.string m.t,.slice pn m.names.length cn,.slice pk m.kids.length ck] 128)).drew):=qC ⟨(qA yF).os,(qA yF).tape,(qA yF).output,(qA yF).size,(qA yF).block⟩
 have yW:=qC (qA dT _ (qA HWD))
 clear dT
 go_enter Tryz.func140,Tryz.ntmps140
 go_wp2_with fail
 refine(qA nH _).mono ?_
 rintro e w' ⟨rfl,rfl⟩
 clear nH
 go_upto_region 8 with fail
 go_region_with (go_at_call 162;refine(qA yW).mono ?_;rintro e y ⟨rfl,jR⟩)
 ·have xU:Below (w.alloc (.cells #[.int .i64 m.k,.int .i64 m.n,.string m.t,.slice pn m.names.length cn,.slice pk m.kids.length ck] 128)).heap.size (w.alloc (.cells #[.int .i64 m.k,.int .i64 m.n,.string m.t,.slice pn m.names.length cn,.slice pk m.kids.length ck] 128)) y:=(qF (Below.refl _ _)).trans jR
  have xP:=qC ((qA vG).later xU)
  have qH:=qC ((qA yV).then_below xU)
  have vR:=qC ((qA xO).keep (zJ.of_below (B:=X) xU) tW)
  have tN:=qC ((zJ.of_below (B:=X) xU).low (qA yF) u6)
  have hyl:w.heap.size<y.heap.size:=(Array.getElem?_eq_some_iff.1 (qA vR).blk).1
  have hyX:=(qA xP).lt
  obtain⟨z0,z2,z4⟩:=(qA vR).cells
  obtain⟨g0,g1,g2,g3,g4,g5,g6⟩:=(qA xP).blk.cells
  rw[qA HP]at g0
  clear xU jR yW vG yV xO yF HWD c0 c1 c2 c3 c4 c5 c6 q0 q1 q2 q3 q4
  go_wp2_with fail
  refine(gQ X (.slice L.p ns.length L.cap) (.int .i64 root) _ (x.st:Int) (x.mo:Int) x.fc x.fn 11 (k:Int) y (qA xP).blk).mono ?_
  rintro e w1 ⟨rfl,dF,tO,wJ⟩
  have HA3:=qC ((qA xP).fail dF tO)
  have yK:=qC ((qA qH).trans tO)
  have bJ:=qC ((qA vR).keep tO tW)
  have jD:w.heap.size<w1.heap.size:=by omega
  obtain⟨z0,z2,z4⟩:=(qA bJ).cells
  clear dF tO xP vR qH
  go_wp2
  go_loopw[12] (fun i wx=>∃ (j mL:Nat) (x':SC) (b' c':Nat),j≤m.kids.length∧i=.int .i64 j∧Hid (wP wx X (.slice L.p ns.length L.cap) (.int .i64 root) b' c' x')∧Hid (zJ X w wx)∧Hid (uC wx w.heap.size m pn cn pk ck)∧Hid (jM ns root n k m.kids (yD 11 (k:Int) x) j mL x')) (fun i _=>m.kids.length-(intOf i).toNat)
  case atStart=>exact⟨0,lo,yD 11 (k:Int) x,b,c,by omega,rfl,HA3,yK,bJ,qC (jM.zero (qA HS) (qA dV))⟩
  case round=>
   obtain⟨j,mL,x',b',c',hj,rfl,vK,uM,uZ,uB⟩:=hrel
   have nT:w.heap.size<wr.heap.size:=(Array.getElem?_eq_some_iff.1 (qA uZ).blk).1
   have hXr:=(qA vK).lt
   obtain⟨z0,z2,z4⟩:=(qA uZ).cells
   have dE:=qC ((qA uM).low (qA HW) u6)
   by_cases jF:j<m.kids.length
   ·obtain⟨qX,pW,bF,s1,s2,s3⟩:=(qA uB).step jF hk
    obtain⟨kb,zY,kI,y0⟩:=(qA HI wr (qA dE)) j jF
    rw[pW]at y0
    rw[kI]at z4
    clear kI
    have HC:=qC (qA xH qX mL x' b' c' wr bF s1 s2 (qA vK) (qA dE))
    unfold zA at HC
    have yK:=qC s3
    clear pW s1 s2 s3
    go_wp2_with fail
    refine(qA HC).mono ?_
    rintro e w2 ⟨rfl,b2,wG,vJ,yA⟩
    have mO:=qC vJ
    have qH:=qC ((qA uM).trans yA)
    have uF:=qC ((qA uZ).keep yA tW)
    clear vJ yA HC
    go_wp2
    go_roundw
    case rel=>exact⟨j+1,qX+1,_,b2,wG,by omega,by go_num,mO,qH,uF,qC (qA yK)⟩
    case measure=>simp[intOf];omega
   ·obtain rfl:j=m.kids.length:=by omega
    have dD:=(qA uB).done
    have hxl:=(qA uB).len
    rw[dD]at vK
    clear dD uB
    go_wp2
    go_end0
    exact⟨rfl,b',c',qA vK,qA uM⟩
 ·have xU:Below (w.alloc (.cells #[.int .i64 m.k,.int .i64 m.n,.string m.t,.slice pn m.names.length cn,.slice pk m.kids.length ck] 128)).heap.size (w.alloc (.cells #[.int .i64 m.k,.int .i64 m.n,.string m.t,.slice pn m.names.length cn,.slice pk m.kids.length ck] 128)) y:=(qF (Below.refl _ _)).trans jR
  have xP:=qC ((qA vG).later xU)
  have qH:=qC ((qA yV).then_below xU)
  have vR:=qC ((qA xO).keep (zJ.of_below (B:=X) xU) tW)
  have tN:=qC ((zJ.of_below (B:=X) xU).low (qA yF) u6)
  have hyl:w.heap.size<y.heap.size:=(Array.getElem?_eq_some_iff.1 (qA vR).blk).1
  have hyX:=(qA xP).lt
  obtain⟨z0,z2,z4⟩:=(qA vR).cells
  obtain⟨g0,g1,g2,g3,g4,g5,g6⟩:=(qA xP).blk.cells
  rw[qA HP]at g0
  clear xU jR yW vG yV xO yF HWD c0 c1 c2 c3 c4 c5 c6 q0 q1 q2 q3 q4
  go_wp2_with fail
  refine(gQ X (.slice L.p ns.length L.cap) (.int .i64 root) _ (x.st:Int) (x.mo:Int) x.fc x.fn 11 (k:Int) y (qA xP).blk).mono ?_
  rintro e w1 ⟨rfl,dF,tO,wJ⟩
  have HA3:=qC ((qA xP).fail dF tO)
  have yK:=qC ((qA qH).trans tO)
  have bJ:=qC ((qA vR).keep tO tW)
  have jD:w.heap.size<w1.heap.size:=by omega
  obtain⟨z0,z2,z4⟩:=(qA bJ).cells
  clear dF tO xP vR qH
  go_wp2
  go_loopw[12] (fun i wx=>∃ (j mL:Nat) (x':SC) (b' c':Nat),j≤m.kids.length∧i=.int .i64 j∧Hid (wP wx X (.slice L.p ns.length L.cap) (.int .i64 root) b' c' x')∧Hid (zJ X w wx)∧Hid (uC wx w.heap.size m pn cn pk ck)∧Hid (jM ns root n k m.kids (yD 11 (k:Int) x) j mL x')) (fun i _=>m.kids.length-(intOf i).toNat)
  case atStart=>exact⟨0,lo,yD 11 (k:Int) x,b,c,by omega,rfl,HA3,yK,bJ,qC (jM.zero (qA HS) (qA dV))⟩
  case round=>
   obtain⟨j,mL,x',b',c',hj,rfl,vK,uM,uZ,uB⟩:=hrel
   have nT:w.heap.size<wr.heap.size:=(Array.getElem?_eq_some_iff.1 (qA uZ).blk).1
   have hXr:=(qA vK).lt
   obtain⟨z0,z2,z4⟩:=(qA uZ).cells
   have dE:=qC ((qA uM).low (qA HW) u6)
   by_cases jF:j<m.kids.length
   ·obtain⟨qX,pW,bF,s1,s2,s3⟩:=(qA uB).step jF hk
    obtain⟨kb,zY,kI,y0⟩:=(qA HI wr (qA dE)) j jF
    rw[pW]at y0
    rw[kI]at z4
    clear kI
    have HC:=qC (qA xH qX mL x' b' c' wr bF s1 s2 (qA vK) (qA dE))
    unfold zA at HC
    have yK:=qC s3
    clear pW s1 s2 s3
    go_wp2_with fail
    refine(qA HC).mono ?_
    rintro e w2 ⟨rfl,b2,wG,vJ,yA⟩
    have mO:=qC vJ
    have qH:=qC ((qA uM).trans yA)
    have uF:=qC ((qA uZ).keep yA tW)
    clear vJ yA HC
    go_wp2
    go_roundw
    case rel=>exact⟨j+1,qX+1,_,b2,wG,by omega,by go_num,mO,qH,uF,qC (qA yK)⟩
    case measure=>simp[intOf];omega
   ·obtain rfl:j=m.kids.length:=by omega
    have dD:=(qA uB).done
    have hxl:=(qA uB).len
    rw[dD]at vK
    clear dD uB
    go_wp2
    go_end0
    exact⟨rfl,b',c',qA vK,qA uM⟩
theorem qBh{ns:List TN}{root:Int}{L:rO}{w0:World}{X n k lo:Nat}{m:TN}{x:SC}{b c:Nat}{w:World}(mN:NX ns root L w0 X)(vL:pQ ns root L w0 X n)(hk:k≤n)(hm:ns[k]? = some m)(hS:y7 ns m.kids lo k)(hb:x.nm.length+(k+1-lo)≤1040000)(hA:wP w X (.slice L.p ns.length L.cap) (.int .i64 root) b c x)(hW:Below w0.heap.size w0 w)(wS:m.k=10)(hfn:bL ns root m.t<0)(uG:¬xF m.t<0∧xF m.t≠(m.kids.length:Int))(hR:sn ns root (n+1) (k:Int) x=m.kids.foldl (fun x j=>sn ns root n j x) (yD 14 (k:Int) x)):zA ns root L X (n+1) k x w:=by
 unfold zA
 rw[hR]
 obtain⟨pn,cn,pk,ck,nb,jK,wC,fJ,rZ,zN,u6,mP,tW,c0,c1,hp,q0,q1,q2,q3,q4,HI,xO,vG,yV,yF,nW⟩:=kU mN hm hA hW
 obtain⟨-,-,c2,c3,c4,c5,c6⟩:=hA.blk.cells
 have hlen:x.nm.length≤1040000:=by omega
 have xH:=qC vL
 have fV:=qC mN
 have HS:=qC hS
 have HA:=qC hA
 have HW:=qC hW
 have HP:=qC hp
 have pU:=hm
 clear vL hS mN hR
 have e10:(m.k == 10)=true:=by rw[wS];rfl
 have e5:(m.k == 5)=false:=by rw[wS];rfl
 have e12:(m.k == 12)=false:=by rw[wS];rfl
 have e11:(m.k == 11)=false:=by rw[wS];rfl
 clear wS
 have dT:Hid (∀ wx,Below w0.heap.size w0 wx→Calls Tryz.prog 162 #[.agg #[.slice (some ⟨nb,jK,none⟩) ns.length L.cap,.int .i64 root],.string m.t] wx fun e w'=>e=.returned (.int .i64 (bL ns root m.t))∧Below wx.heap.size wx w'):=qC (fun wx h=>by
  have hc:=gR ns root m.t L wx ((qA fV).nodes.later h) (qA fV).small (qA fV).ok
  rw[qA HP]at hc
  refine hc.mono ?_
  rintro e w' ⟨r,rfl,hF,fR⟩
  rw[tA hF]
  exact⟨rfl,fR⟩)
 have dV:Hid ((yD 14 (k:Int) x).nm.length+(k-lo)≤1040000):=qC (by rw[dI];omega)
 have nH:=qC (fun w=>tD m.t w)
 have qO0:¬(0:Int)≤bL ns root m.t:=by omega
 generalize bL ns root m.t=fz at dT hfn qO0
 have hcb : -1≤xF m.t∧xF m.t≤3:=by unfold xF qCH;repeat' split <;> omega
 generalize xF m.t=cz at nH uG hcb
 have ecl:¬cz<0:=uG.1
 have ecn:(cz != (m.kids.length:Int))=true:=by simpa using uG.2
 clear uG
 have HWD:Hid (Below w0.heap.size w0 (w.alloc (.cells #[.int .i64 m.k,.int .i64 m.n,.string m.t,.slice pn m.names.length cn,.slice pk m.kids.length ck] 128)).drew):=qC ⟨(qA yF).os,(qA yF).tape,(qA yF).output,(qA yF).size,(qA yF).block⟩
 have yW:=qC (qA dT _ (qA HWD))
 clear dT
 go_enter Tryz.func140,Tryz.ntmps140
 go_wp2_with fail
 refine(qA nH _).mono ?_
 rintro e w' ⟨rfl,rfl⟩
 clear nH
 go_upto_region 8 with fail
 go_region_with (go_at_call 162;refine(qA yW).mono ?_;rintro e y ⟨rfl,jR⟩)
 ·have xU:Below (w.alloc (.cells #[.int .i64 m.k,.int .i64 m.n,.string m.t,.slice pn m.names.length cn,.slice pk m.kids.length ck] 128)).heap.size (w.alloc (.cells #[.int .i64 m.k,.int .i64 m.n,.string m.t,.slice pn m.names.length cn,.slice pk m.kids.length ck] 128)) y:=(qF (Below.refl _ _)).trans jR
  have xP:=qC ((qA vG).later xU)
  have qH:=qC ((qA yV).then_below xU)
  have vR:=qC ((qA xO).keep (zJ.of_below (B:=X) xU) tW)
  have tN:=qC ((zJ.of_below (B:=X) xU).low (qA yF) u6)
  have hyl:w.heap.size<y.heap.size:=(Array.getElem?_eq_some_iff.1 (qA vR).blk).1
  have hyX:=(qA xP).lt
  obtain⟨z0,z2,z4⟩:=(qA vR).cells
  obtain⟨g0,g1,g2,g3,g4,g5,g6⟩:=(qA xP).blk.cells
  rw[qA HP]at g0
  clear xU jR yW vG yV xO yF HWD c0 c1 c2 c3 c4 c5 c6 q0 q1 q2 q3 q4
  go_wp2_with fail
  refine(gQ X (.slice L.p ns.length L.cap) (.int .i64 root) _ (x.st:Int) (x.mo:Int) x.fc x.fn 14 (k:Int) y (qA xP).blk).mono ?_
  rintro e w1 ⟨rfl,dF,tO,wJ⟩
  have HA3:=qC ((qA xP).fail dF tO)
  have yK:=qC ((qA qH).trans tO)
  have bJ:=qC ((qA vR).keep tO tW)
  have jD:w.heap.size<w1.heap.size:=by omega
  obtain⟨z0,z2,z4⟩:=(qA bJ).cells
  clear dF tO xP vR qH
  go_wp2
  go_loopw[12] (fun i wx=>∃ (j mL:Nat) (x':SC) (b' c':Nat),j≤m.kids.length∧i=.int .i64 j∧Hid (wP wx X (.slice L.p ns.length L.cap) (.int .i64 root) b' c' x')∧Hid (zJ X w wx)∧Hid (uC wx w.heap.size m pn cn pk ck)∧Hid (jM ns root n k m.kids (yD 14 (k:Int) x) j mL x')) (fun i _=>m.kids.length-(intOf i).toNat)
  case atStart=>exact⟨0,lo,yD 14 (k:Int) x,b,c,by omega,rfl,HA3,yK,bJ,qC (jM.zero (qA HS) (qA dV))⟩
  case round=>
   obtain⟨j,mL,x',b',c',hj,rfl,vK,uM,uZ,uB⟩:=hrel
   have nT:w.heap.size<wr.heap.size:=(Array.getElem?_eq_some_iff.1 (qA uZ).blk).1
   have hXr:=(qA vK).lt
   obtain⟨z0,z2,z4⟩:=(qA uZ).cells
   have dE:=qC ((qA uM).low (qA HW) u6)
   by_cases jF:j<m.kids.length
   ·obtain⟨qX,pW,bF,s1,s2,s3⟩:=(qA uB).step jF hk
    obtain⟨kb,zY,kI,y0⟩:=(qA HI wr (qA dE)) j jF
    rw[pW]at y0
    rw[kI]at z4
    clear kI
    have HC:=qC (qA xH qX mL x' b' c' wr bF s1 s2 (qA vK) (qA dE))
    unfold zA at HC
    have yK:=qC s3
    clear pW s1 s2 s3
    go_wp2_with fail
    refine(qA HC).mono ?_
    rintro e w2 ⟨rfl,b2,wG,vJ,yA⟩
    have mO:=qC vJ
    have qH:=qC ((qA uM).trans yA)
    have uF:=qC ((qA uZ).keep yA tW)
    clear vJ yA HC
    go_wp2
    go_roundw
    case rel=>exact⟨j+1,qX+1,_,b2,wG,by omega,by go_num,mO,qH,uF,qC (qA yK)⟩
    case measure=>simp[intOf];omega
   ·obtain rfl:j=m.kids.length:=by omega
    have dD:=(qA uB).done
    have hxl:=(qA uB).len
    rw[dD]at vK
    clear dD uB
    go_wp2
    go_end0
    exact⟨rfl,b',c',qA vK,qA uM⟩
 ·have xU:Below (w.alloc (.cells #[.int .i64 m.k,.int .i64 m.n,.string m.t,.slice pn m.names.length cn,.slice pk m.kids.length ck] 128)).heap.size (w.alloc (.cells #[.int .i64 m.k,.int .i64 m.n,.string m.t,.slice pn m.names.length cn,.slice pk m.kids.length ck] 128)) y:=(qF (Below.refl _ _)).trans jR
  have xP:=qC ((qA vG).later xU)
  have qH:=qC ((qA yV).then_below xU)
  have vR:=qC ((qA xO).keep (zJ.of_below (B:=X) xU) tW)
  have tN:=qC ((zJ.of_below (B:=X) xU).low (qA yF) u6)
  have hyl:w.heap.size<y.heap.size:=(Array.getElem?_eq_some_iff.1 (qA vR).blk).1
  have hyX:=(qA xP).lt
  obtain⟨z0,z2,z4⟩:=(qA vR).cells
  obtain⟨g0,g1,g2,g3,g4,g5,g6⟩:=(qA xP).blk.cells
  rw[qA HP]at g0
  clear xU jR yW vG yV xO yF HWD c0 c1 c2 c3 c4 c5 c6 q0 q1 q2 q3 q4
  go_wp2_with fail
  refine(gQ X (.slice L.p ns.length L.cap) (.int .i64 root) _ (x.st:Int) (x.mo:Int) x.fc x.fn 14 (k:Int) y (qA xP).blk).mono ?_
  rintro e w1 ⟨rfl,dF,tO,wJ⟩
  have HA3:=qC ((qA xP).fail dF tO)
  have yK:=qC ((qA qH).trans tO)
  have bJ:=qC ((qA vR).keep tO tW)
  have jD:w.heap.size<w1.heap.size:=by omega
  obtain⟨z0,z2,z4⟩:=(qA bJ).cells
  clear dF tO xP vR qH
  go_wp2
  go_loopw[12] (fun i wx=>∃ (j mL:Nat) (x':SC) (b' c':Nat),j≤m.kids.length∧i=.int .i64 j∧Hid (wP wx X (.slice L.p ns.length L.cap) (.int .i64 root) b' c' x')∧Hid (zJ X w wx)∧Hid (uC wx w.heap.size m pn cn pk ck)∧Hid (jM ns root n k m.kids (yD 14 (k:Int) x) j mL x')) (fun i _=>m.kids.length-(intOf i).toNat)
  case atStart=>exact⟨0,lo,yD 14 (k:Int) x,b,c,by omega,rfl,HA3,yK,bJ,qC (jM.zero (qA HS) (qA dV))⟩
  case round=>
   obtain⟨j,mL,x',b',c',hj,rfl,vK,uM,uZ,uB⟩:=hrel
   have nT:w.heap.size<wr.heap.size:=(Array.getElem?_eq_some_iff.1 (qA uZ).blk).1
   have hXr:=(qA vK).lt
   obtain⟨z0,z2,z4⟩:=(qA uZ).cells
   have dE:=qC ((qA uM).low (qA HW) u6)
   by_cases jF:j<m.kids.length
   ·obtain⟨qX,pW,bF,s1,s2,s3⟩:=(qA uB).step jF hk
    obtain⟨kb,zY,kI,y0⟩:=(qA HI wr (qA dE)) j jF
    rw[pW]at y0
    rw[kI]at z4
    clear kI
    have HC:=qC (qA xH qX mL x' b' c' wr bF s1 s2 (qA vK) (qA dE))
    unfold zA at HC
    have yK:=qC s3
    clear pW s1 s2 s3
    go_wp2_with fail
    refine(qA HC).mono ?_
    rintro e w2 ⟨rfl,b2,wG,vJ,yA⟩
    have mO:=qC vJ
    have qH:=qC ((qA uM).trans yA)
    have uF:=qC ((qA uZ).keep yA tW)
    clear vJ yA HC
    go_wp2
    go_roundw
    case rel=>exact⟨j+1,qX+1,_,b2,wG,by omega,by go_num,mO,qH,uF,qC (qA yK)⟩
    case measure=>simp[intOf];omega
   ·obtain rfl:j=m.kids.length:=by omega
    have dD:=(qA uB).done
    have hxl:=(qA uB).len
    rw[dD]at vK
    clear dD uB
    go_wp2
    go_end0
    exact⟨rfl,b',c',qA vK,qA uM⟩
theorem qEH{ns:List TN}{root:Int}{L:rO}{w0:World}{X n k lo:Nat}{m:TN}{x:SC}{b c:Nat}{w:World}(mN:NX ns root L w0 X)(vL:pQ ns root L w0 X n)(hk:k≤n)(hm:ns[k]? = some m)(hS:y7 ns m.kids lo k)(hb:x.nm.length+(k+1-lo)≤1040000)(hA:wP w X (.slice L.p ns.length L.cap) (.int .i64 root) b c x)(hW:Below w0.heap.size w0 w)(wS:m.k=10)(hfn:bL ns root m.t<0)(uG:xF m.t=(m.kids.length:Int))(hR:sn ns root (n+1) (k:Int) x=m.kids.foldl (fun x j=>sn ns root n j x) (x)):zA ns root L X (n+1) k x w:=by
 unfold zA
 rw[hR]
 obtain⟨pn,cn,pk,ck,nb,jK,wC,fJ,rZ,zN,u6,mP,tW,c0,c1,hp,q0,q1,q2,q3,q4,HI,xO,vG,yV,yF,nW⟩:=kU mN hm hA hW
 obtain⟨-,-,c2,c3,c4,c5,c6⟩:=hA.blk.cells
 have hlen:x.nm.length≤1040000:=by omega
 have xH:=qC vL
 have fV:=qC mN
 have HS:=qC hS
 have HA:=qC hA
 have HW:=qC hW
 have HP:=qC hp
 have pU:=hm
 clear vL hS mN hR
 have e10:(m.k == 10)=true:=by rw[wS];rfl
 have e5:(m.k == 5)=false:=by rw[wS];rfl
 have e12:(m.k == 12)=false:=by rw[wS];rfl
 have e11:(m.k == 11)=false:=by rw[wS];rfl
 clear wS
 have dT:Hid (∀ wx,Below w0.heap.size w0 wx→Calls Tryz.prog 162 #[.agg #[.slice (some ⟨nb,jK,none⟩) ns.length L.cap,.int .i64 root],.string m.t] wx fun e w'=>e=.returned (.int .i64 (bL ns root m.t))∧Below wx.heap.size wx w'):=qC (fun wx h=>by
  have hc:=gR ns root m.t L wx ((qA fV).nodes.later h) (qA fV).small (qA fV).ok
  rw[qA HP]at hc
  refine hc.mono ?_
  rintro e w' ⟨r,rfl,hF,fR⟩
  rw[tA hF]
  exact⟨rfl,fR⟩)
 have dV:Hid ((x).nm.length+(k-lo)≤1040000):=qC (by omega)
 have nH:=qC (fun w=>tD m.t w)
 have qO0:¬(0:Int)≤bL ns root m.t:=by omega
 generalize bL ns root m.t=fz at dT hfn qO0
 have hcb : -1≤xF m.t∧xF m.t≤3:=by unfold xF qCH;repeat' split <;> omega
 generalize xF m.t=cz at nH uG hcb
 have ecl:¬cz<0:=by omega
 have ecn:(cz != (m.kids.length:Int))=false:=by simpa using uG
 clear uG
 have HWD:Hid (Below w0.heap.size w0 (w.alloc (.cells #[.int .i64 m.k,.int .i64 m.n,.string m.t,.slice pn m.names.length cn,.slice pk m.kids.length ck] 128)).drew):=qC ⟨(qA yF).os,(qA yF).tape,(qA yF).output,(qA yF).size,(qA yF).block⟩
 have yW:=qC (qA dT _ (qA HWD))
 clear dT
 go_enter Tryz.func140,Tryz.ntmps140
 go_wp2_with fail
 refine(qA nH _).mono ?_
 rintro e w' ⟨rfl,rfl⟩
 clear nH
 go_upto_region 8 with fail
 go_region_with (go_at_call 162;refine(qA yW).mono ?_;rintro e y ⟨rfl,jR⟩)
 ·have xU:Below (w.alloc (.cells #[.int .i64 m.k,.int .i64 m.n,.string m.t,.slice pn m.names.length cn,.slice pk m.kids.length ck] 128)).heap.size (w.alloc (.cells #[.int .i64 m.k,.int .i64 m.n,.string m.t,.slice pn m.names.length cn,.slice pk m.kids.length ck] 128)) y:=(qF (Below.refl _ _)).trans jR
  have xP:=qC ((qA vG).later xU)
  have qH:=qC ((qA yV).then_below xU)
  have vR:=qC ((qA xO).keep (zJ.of_below (B:=X) xU) tW)
  have tN:=qC ((zJ.of_below (B:=X) xU).low (qA yF) u6)
  have hyl:w.heap.size<y.heap.size:=(Array.getElem?_eq_some_iff.1 (qA vR).blk).1
  have hyX:=(qA xP).lt
  obtain⟨z0,z2,z4⟩:=(qA vR).cells
  obtain⟨g0,g1,g2,g3,g4,g5,g6⟩:=(qA xP).blk.cells
  rw[qA HP]at g0
  clear xU jR yW vG yV xO yF HWD c0 c1 c2 c3 c4 c5 c6 q0 q1 q2 q3 q4
  go_wp2
  go_loopw[12] (fun i wx=>∃ (j mL:Nat) (x':SC) (b' c':Nat),j≤m.kids.length∧i=.int .i64 j∧Hid (wP wx X (.slice L.p ns.length L.cap) (.int .i64 root) b' c' x')∧Hid (zJ X w wx)∧Hid (uC wx w.heap.size m pn cn pk ck)∧Hid (jM ns root n k m.kids (x) j mL x')) (fun i _=>m.kids.length-(intOf i).toNat)
  case atStart=>exact⟨0,lo,x,b,c,by omega,rfl,xP,qH,vR,qC (jM.zero (qA HS) (qA dV))⟩
  case round=>
   obtain⟨j,mL,x',b',c',hj,rfl,vK,uM,uZ,uB⟩:=hrel
   have nT:w.heap.size<wr.heap.size:=(Array.getElem?_eq_some_iff.1 (qA uZ).blk).1
   have hXr:=(qA vK).lt
   obtain⟨z0,z2,z4⟩:=(qA uZ).cells
   have dE:=qC ((qA uM).low (qA HW) u6)
   by_cases jF:j<m.kids.length
   ·obtain⟨qX,pW,bF,s1,s2,s3⟩:=(qA uB).step jF hk
    obtain⟨kb,zY,kI,y0⟩:=(qA HI wr (qA dE)) j jF
    rw[pW]at y0
    rw[kI]at z4
    clear kI
    have HC:=qC (qA xH qX mL x' b' c' wr bF s1 s2 (qA vK) (qA dE))
    unfold zA at HC
    have yK:=qC s3
    clear pW s1 s2 s3
    go_wp2_with fail
    refine(qA HC).mono ?_
    rintro e w2 ⟨rfl,b2,wG,vJ,yA⟩
    have mO:=qC vJ
    have qH:=qC ((qA uM).trans yA)
    have uF:=qC ((qA uZ).keep yA tW)
    clear vJ yA HC
    go_wp2
    go_roundw
    case rel=>exact⟨j+1,qX+1,_,b2,wG,by omega,by go_num,mO,qH,uF,qC (qA yK)⟩
    case measure=>simp[intOf];omega
   ·obtain rfl:j=m.kids.length:=by omega
    have dD:=(qA uB).done
    have hxl:=(qA uB).len
    rw[dD]at vK
    clear dD uB
    go_wp2
    go_end0
    exact⟨rfl,b',c',qA vK,qA uM⟩
 ·have xU:Below (w.alloc (.cells #[.int .i64 m.k,.int .i64 m.n,.string m.t,.slice pn m.names.length cn,.slice pk m.kids.length ck] 128)).heap.size (w.alloc (.cells #[.int .i64 m.k,.int .i64 m.n,.string m.t,.slice pn m.names.length cn,.slice pk m.kids.length ck] 128)) y:=(qF (Below.refl _ _)).trans jR
  have xP:=qC ((qA vG).later xU)
  have qH:=qC ((qA yV).then_below xU)
  have vR:=qC ((qA xO).keep (zJ.of_below (B:=X) xU) tW)
  have tN:=qC ((zJ.of_below (B:=X) xU).low (qA yF) u6)
  have hyl:w.heap.size<y.heap.size:=(Array.getElem?_eq_some_iff.1 (qA vR).blk).1
  have hyX:=(qA xP).lt
  obtain⟨z0,z2,z4⟩:=(qA vR).cells
  obtain⟨g0,g1,g2,g3,g4,g5,g6⟩:=(qA xP).blk.cells
  rw[qA HP]at g0
  clear xU jR yW vG yV xO yF HWD c0 c1 c2 c3 c4 c5 c6 q0 q1 q2 q3 q4
  go_wp2
  go_loopw[12] (fun i wx=>∃ (j mL:Nat) (x':SC) (b' c':Nat),j≤m.kids.length∧i=.int .i64 j∧Hid (wP wx X (.slice L.p ns.length L.cap) (.int .i64 root) b' c' x')∧Hid (zJ X w wx)∧Hid (uC wx w.heap.size m pn cn pk ck)∧Hid (jM ns root n k m.kids (x) j mL x')) (fun i _=>m.kids.length-(intOf i).toNat)
  case atStart=>exact⟨0,lo,x,b,c,by omega,rfl,xP,qH,vR,qC (jM.zero (qA HS) (qA dV))⟩
  case round=>
   obtain⟨j,mL,x',b',c',hj,rfl,vK,uM,uZ,uB⟩:=hrel
   have nT:w.heap.size<wr.heap.size:=(Array.getElem?_eq_some_iff.1 (qA uZ).blk).1
   have hXr:=(qA vK).lt
   obtain⟨z0,z2,z4⟩:=(qA uZ).cells
   have dE:=qC ((qA uM).low (qA HW) u6)
   by_cases jF:j<m.kids.length
   ·obtain⟨qX,pW,bF,s1,s2,s3⟩:=(qA uB).step jF hk
    obtain⟨kb,zY,kI,y0⟩:=(qA HI wr (qA dE)) j jF
    rw[pW]at y0
    rw[kI]at z4
    clear kI
    have HC:=qC (qA xH qX mL x' b' c' wr bF s1 s2 (qA vK) (qA dE))
    unfold zA at HC
    have yK:=qC s3
    clear pW s1 s2 s3
    go_wp2_with fail
    refine(qA HC).mono ?_
    rintro e w2 ⟨rfl,b2,wG,vJ,yA⟩
    have mO:=qC vJ
    have qH:=qC ((qA uM).trans yA)
    have uF:=qC ((qA uZ).keep yA tW)
    clear vJ yA HC
    go_wp2
    go_roundw
    case rel=>exact⟨j+1,qX+1,_,b2,wG,by omega,by go_num,mO,qH,uF,qC (qA yK)⟩
    case measure=>simp[intOf];omega
   ·obtain rfl:j=m.kids.length:=by omega
    have dD:=(qA uB).done
    have hxl:=(qA uB).len
    rw[dD]at vK
    clear dD uB
    go_wp2
    go_end0
    exact⟨rfl,b',c',qA vK,qA uM⟩
theorem qM3(ns:List TN)(t:ByteArray):∀ ks:List Int,0≤fnL ns t ks→fnL ns t ks∈ks∧jT ns (fnL ns t ks)=20
 | [],h=>absurd h (by show ¬(0:Int)≤-1;decide)
 | j::r,h=>by
  by_cases hj:jT ns j=20∧(jV ns j).data.toList=t.data.toList
  ·have e:fnL ns t (j::r)=j:=by show(if jT ns j=20∧(jV ns j).data.toList=t.data.toList then j else fnL ns t r)=_;rw[if_pos hj]
   rw[e]
   exact⟨by simp,hj.1⟩
  ·have e:fnL ns t (j::r)=fnL ns t r:=by show(if jT ns j=20∧(jV ns j).data.toList=t.data.toList then j else fnL ns t r)=_;rw[if_neg hj]
   rw[e]at h ⊢
   have:=qM3 ns t r h
   exact⟨List.mem_cons_of_mem _ this.1,this.2⟩
theorem qKk{ns:List TN}{root:Int}{t:ByteArray}(h:0≤bL ns root t):∃ f:Nat,bL ns root t=(f:Int)∧f<ns.length:=by
 have hk:=(qM3 ns t (vW ns root) h).2
 refine⟨(bL ns root t).toNat,by omega,?_⟩
 unfold jT at hk
 cases hx:ns[(fnL ns t (vW ns root)).toNat]? with
 | none=>rw[hx]at hk;exact absurd hk (by decide)
 | some m=>exact(List.getElem?_eq_some_iff.1 hx).1
theorem cZ{ns:List TN}{m:TN}{lo k:Nat}(hc:m.kids.length=2)(hs:y7 ns m.kids lo k):∃ ma mb:Nat,m.kids=[(ma:Int),(mb:Int)]:=by
 match hk:m.kids,hc with
 | [a,b],_=>
  rw[hk]at hs
  obtain⟨ma,_,rfl,_,_,_,_,h2,_,_⟩:=hs.head
  obtain⟨mb,_,rfl,_⟩:=h2.head
  exact⟨ma,mb,rfl⟩
theorem qTU{ns:List TN}{root:Int}{n:Nat}{k:Int}{x:SC}{m:TN}(hm:ns[k.toNat]? = some m):sn ns root (n+1) k x =
   (if m.k=5∨m.k=12 then m.kids.foldl (fun x j=>sn ns root n j x) (if vA x.nm m.t<0 then yD 11 k x else x)
   else if m.k=10 then m.kids.foldl (fun x j=>sn ns root n j x) (bA ns root m.t m.kids.length k x)
   else if m.k=20 then x
   else if m.k=18 then k4 x (m.kids.foldl (fun x j=>sn ns root n j x) (jG x))
   else if m.k=17 then
    (match m.kids with
    | [a,b]=>k4 (sn ns root n a x) (sn ns root n b (qQ m.t k (jG (sn ns root n a x))))
    | _=>x)
   else if m.k=11 then qQ m.t k (m.kids.foldl (fun x j=>sn ns root n j x) x)
   else m.kids.foldl (fun x j=>sn ns root n j x) x):=by
 show(match ns[k.toNat]? with | none=>x | some m=>_)=_
 rewrite[hm]
 rfl
theorem qAl{ns:List TN}{root:Int}{L:rO}{w0:World}{X:Nat}(mN:NX ns root L w0 X):∀ n,pQ ns root L w0 X n
 | 0=>fun k lo x b c w hk=>absurd hk (Nat.not_lt_zero _)
 | n+1=>fun k lo x b c w hk hs hb hA hW=>by
  have ih:=qAl mN n
  obtain⟨qX,m,e,hm,hg,h1,_,_,hlo,_⟩:=hs.head
  obtain rfl:qX=k:=by omega
  have pU:qX≤n:=by omega
  have hR:=qTU (root:=root) (n:=n) (k:=(qX:Int)) (x:=x) (by rw[Int.toNat_natCast];exact hm)
  by_cases h5:m.k=5
  ·rw[if_pos (.inl h5)]at hR
   by_cases hf:vA x.nm m.t<0
   ·rw[if_pos hf]at hR
    exact qDO mN ih pU hm h1 hb hA hW h5 hf hR
   ·rw[if_neg hf]at hR
    exact qCK mN ih pU hm h1 hb hA hW h5 (by omega) hR
  by_cases sN:m.k=12
  ·rw[if_pos (.inr sN)]at hR
   by_cases hf:vA x.nm m.t<0
   ·rw[if_pos hf]at hR
    exact qES mN ih pU hm h1 hb hA hW sN hf hR
   ·rw[if_neg hf]at hR
    exact qDy mN ih pU hm h1 hb hA hW sN (by omega) hR
  rw[if_neg (by rintro(h | h) <;> contradiction)]at hR
  by_cases wS:m.k=10
  ·rw[if_pos wS]at hR
   unfold bA qB4 at hR
   by_cases hf:0≤bL ns root m.t
   ·rw[if_pos hf,if_neg (by omega)]at hR
    by_cases hc:((zK ns (bL ns root m.t)).length:Int)=(m.kids.length:Int)
    ·rw[if_neg (by simpa using hc)]at hR
     exact qEK mN ih pU hm h1 hb hA hW wS (qKk hf) hc hR
    ·rw[if_pos hc]at hR
     exact qA5 mN ih pU hm h1 hb hA hW wS (qKk hf) hc hR
   ·rw[if_neg hf]at hR
    by_cases hz:xF m.t<0
    ·rw[if_pos hz]at hR
     exact qA7 mN ih pU hm h1 hb hA hW wS (by omega) hz hR
    ·rw[if_neg hz]at hR
     by_cases hc:xF m.t=(m.kids.length:Int)
     ·rw[if_neg (by simpa using hc)]at hR
      exact qEH mN ih pU hm h1 hb hA hW wS (by omega) hc hR
     ·rw[if_pos hc]at hR
      exact qBh mN ih pU hm h1 hb hA hW wS (by omega) ⟨hz,hc⟩ hR
  rw[if_neg wS]at hR
  by_cases yE:m.k=20
  ·rw[if_pos yE]at hR
   exact qOf mN ih pU hm h1 hb hA hW yE hR
  rw[if_neg yE]at hR
  by_cases bH:m.k=18
  ·rw[if_pos bH]at hR
   exact qGn mN ih pU hm h1 hb hA hW bH hR
  rw[if_neg bH]at hR
  by_cases bI:m.k=17
  ·rw[if_pos bI]at hR
   have wZ:m.kids.length=2:=by
    have:=hg.1
    unfold yQ at this
    rw[Bool.and_eq_true]at this
    have h2:=this.1
    rw[bI]at h2
    simpa[mB]using h2
   obtain⟨ma,mb,yN⟩:=cZ wZ h1
   rw[yN]at hR
   exact qLl mN ih pU hm h1 hb hA hW bI ma mb yN hR
  rw[if_neg bI]at hR
  by_cases sT:m.k=11
  ·rw[if_pos sT]at hR
   exact qLS mN ih pU hm h1 hb hA hW sT hR
  rw[if_neg sT]at hR
  exact qG7 mN ih pU hm h1 hb hA hW h5 sN wS yE bH bI sT hR
structure qAE(ns:List TN)(root:Int):Prop where
 seg:∃ (r:Nat) (m:TN),root=(r:Int)∧ns[r]? = some m∧y7 ns m.kids 0 r∧r<ns.length∧m.k=18∧m.t=em∧∀ j∈m.kids,toB (kd ns j)=true
 names:∀ x∈ns,x.names.length≤1039000
 few:ns.length≤200
def qLh(ns:List TN)(root:Int)(L:rO)(x:SC)(w:World)(e:Ending)(w':World):Prop:=∃ X b c,e=.returned (.pointer (some ⟨X,0,none⟩))∧wP w' X (.slice L.p ns.length L.cap) (.int .i64 root) b c x∧w.heap.size≤X∧Below w.heap.size w w'
theorem qIo(k:Int)(nm:List ByteArray)(i:Nat)(h:i<nm.length)(x:SC):(nm.take (i+1)).foldl (fun x t=>qQ t k x) x=qQ nm[i] k ((nm.take i).foldl (fun x t=>qQ t k x) x):=by
 rw[List.take_succ_eq_append_getElem h,List.foldl_append]
 rfl
theorem nB(k:Int):∀ (nm:List ByteArray) (x:SC),(nm.foldl (fun x t=>qQ t k x) x).nm.length=x.nm.length+nm.length
 | [],x=>rfl
 | t::r,x=>by
  show(r.foldl (fun x t=>qQ t k x) (qQ t k x)).nm.length=_
  rw[nB k r,vI,List.length_append,List.length_singleton,List.length_cons]
  omega
theorem lD(ns:List TN)(root:Int)(L:rO)(w:World) :
  Calls Tryz.prog 117 #[.agg #[.slice L.p ns.length L.cap,.int .i64 root],.int .i64 root] w (qLh ns root L (qQ sH root ⟨[],0,0,0,0⟩) w):=by
 have e1:(root == root)=true:=by simp
 have HA0:Hid (wP (((w.alloc (.cells #[.slice L.p ns.length L.cap,.int .i64 root] 94)).alloc (.cells #[] 9)).alloc (.cells #[.slice L.p ns.length L.cap,.int .i64 root,.slice (some ⟨w.heap.size+1,0,none⟩) 0 0,.int .i64 0,.int .i64 0,.int .i64 0,.int .i64 0] 158)) (w.heap.size+1+1) (.slice L.p ns.length L.cap) (.int .i64 root) (w.heap.size+1) 0 ⟨[],0,0,0,0⟩):=qC ⟨by exact qQ6 _ _ _ _,⟨Nat.le_refl _,by omega,by simp,fun i hi=>absurd hi (by simp)⟩,Nat.le_refl _⟩
 have dP:Hid (Below w.heap.size w (((w.alloc (.cells #[.slice L.p ns.length L.cap,.int .i64 root] 94)).alloc (.cells #[] 9)).alloc (.cells #[.slice L.p ns.length L.cap,.int .i64 root,.slice (some ⟨w.heap.size+1,0,none⟩) 0 0,.int .i64 0,.int .i64 0,.int .i64 0,.int .i64 0] 158))):=qC (qG (qG (qD _ _)))
 have HC:=qC (nD _ _ _ _ _ _ root sH _ (qA HA0) (by simp) (by decide))
 have hp:sH=⟨#[112,97,116,104]⟩:=rfl
 rw[hp]at HC ⊢
 generalize qQ ⟨#[112,97,116,104]⟩ root ⟨[],0,0,0,0⟩=x1 at HC ⊢
 clear hp
 go_enter Tryz.func117,Tryz.ntmps117
 go_wp2_with fail
 refine(qA HC).mono ?_
 rintro e w4 ⟨rfl,b4,c4,hS4,hK4⟩
 have HS4:=qC hS4
 have pV:Hid (Below w.heap.size w w4):=qC ((qA dP).trans (hK4.below (by omega) (by simp;omega)))
 clear hS4 hK4 HC
 go_wp2
 go_ret
 exact⟨_,b4,c4,rfl,qA HS4,by omega,qA pV⟩
theorem r8(ns:List TN)(root:Int)(a:Nat)(n:TN)(L:rO)(w:World)(hN:uV w L ns)(tY:sW ns)(hn:ns[a]? = some n)(hr:(a:Int)≠root) :
  Calls Tryz.prog 117 #[.agg #[.slice L.p ns.length L.cap,.int .i64 root],.int .i64 (a:Int)] w (qLh ns root L (n.names.foldl (fun x t=>qQ t (a:Int) x) ⟨[],0,0,0,0⟩) w):=by
 obtain⟨ha,dD⟩:=List.getElem?_eq_some_iff.1 hn
 have hnl:n.names.length≤1048576:=(tY.2 n (List.mem_of_getElem? hn)).2.1
 have HZ:=qC ((tY.2 n (List.mem_of_getElem? hn)).2.2.2)
 have hal:=tY.1
 have HN:=qC hN
 have HXE:=qC dD
 have e1:((a:Int) == root)=false:=beq_eq_false_iff_ne.2 hr
 have HA0:Hid (wP (((w.alloc (.cells #[.slice L.p ns.length L.cap,.int .i64 root] 94)).alloc (.cells #[] 9)).alloc (.cells #[.slice L.p ns.length L.cap,.int .i64 root,.slice (some ⟨w.heap.size+1,0,none⟩) 0 0,.int .i64 0,.int .i64 0,.int .i64 0,.int .i64 0] 158)) (w.heap.size+1+1) (.slice L.p ns.length L.cap) (.int .i64 root) (w.heap.size+1) 0 ⟨[],0,0,0,0⟩):=qC ⟨by exact qQ6 _ _ _ _,⟨Nat.le_refl _,by omega,by simp,fun i hi=>absurd hi (by simp)⟩,Nat.le_refl _⟩
 have dP:Hid (Below w.heap.size w (((w.alloc (.cells #[.slice L.p ns.length L.cap,.int .i64 root] 94)).alloc (.cells #[] 9)).alloc (.cells #[.slice L.p ns.length L.cap,.int .i64 root,.slice (some ⟨w.heap.size+1,0,none⟩) 0 0,.int .i64 0,.int .i64 0,.int .i64 0,.int .i64 0] 158))):=qC (qG (qG (qD _ _)))
 have HT0:Hid ((((w.alloc (.cells #[.slice L.p ns.length L.cap,.int .i64 root] 94)).alloc (.cells #[] 9)).alloc (.cells #[.slice L.p ns.length L.cap,.int .i64 root,.slice (some ⟨w.heap.size+1,0,none⟩) 0 0,.int .i64 0,.int .i64 0,.int .i64 0,.int .i64 0] 158)).cell? ⟨w.heap.size,0,none⟩=some (.slice L.p ns.length L.cap)):=qC (cell_later (qD _ _) (cell_later (qD _ _) (by simp)))
 clear hN tY hn hr dD
 go_enter Tryz.func117,Tryz.ntmps117
 go_wp2
 generalize (((w.alloc (.cells #[.slice L.p ns.length L.cap,.int .i64 root] 94)).alloc (.cells #[] 9)).alloc (.cells #[.slice L.p ns.length L.cap,.int .i64 root,.slice (some ⟨w.heap.size+1,0,none⟩) 0 0,.int .i64 0,.int .i64 0,.int .i64 0,.int .i64 0] 158))=w3 at HA0 dP HT0 ⊢
 go_loopw[6] (fun i wx=>∃ (k b c:Nat) (x:SC),k≤n.names.length∧i=.int .i64 k∧Hid (wP wx (w.heap.size+1+1) (.slice L.p ns.length L.cap) (.int .i64 root) b c x)∧Hid (x=(n.names.take k).foldl (fun x t=>qQ t (a:Int) x) ⟨[],0,0,0,0⟩)∧Hid (Below w.heap.size w wx)∧Hid (wx.cell? ⟨w.heap.size,0,none⟩=some (.slice L.p ns.length L.cap))) (fun i _=>n.names.length-(intOf i).toNat)
 case atStart=>exact⟨0,_,_,_,by omega,rfl,HA0,qC (by simp),dP,HT0⟩
 case round=>
  clear HA0 dP HT0
  obtain⟨k,b0,c0,x,hk,rfl,H,hX,hB,hT⟩:=hrel
  have t0:=qA hT
  obtain⟨b,off,hp,q0,q1,q2,q3,q4,q5,q6⟩:=(qA HN).later (qA hB) a ha
  rw[qA HXE]at q3 q5
  have hXr:w.heap.size+1+1<wr.heap.size:=(qA H).lt
  rw[hp]at t0
  clear q0 q1 q2 q4 q6
  by_cases jF:k<n.names.length
  ·obtain⟨bn,on,hpn,y0⟩:=q5 k jF
   rw[hpn]at q3
   have fU:=qA HZ n.names[k] (List.getElem_mem jF)
   have hxl:x.nm.length≤1048576:=by
    rw[qA hX,nB,List.length_take]
    show 0+_≤_
    omega
   have HC:=qC (nD _ _ _ _ _ _ (a:Int) n.names[k] wr (qA H) hxl (by unfold maxLen;omega))
   have u7:Hid (qQ n.names[k] (a:Int) x=(n.names.take (k+1)).foldl (fun x t=>qQ t (a:Int) x) ⟨[],0,0,0,0⟩):=qC (by rw[qIo _ _ _ jF,←qA hX])
   clear hpn q5 hp
   generalize n.names[k]=u at y0 HC fU u7
   generalize qQ u (a:Int) x=x2 at HC u7
   go_wp2_with fail
   refine(qA HC).mono ?_
   rintro e w4 ⟨rfl,b4,c4,hS4,hK4⟩
   have HS4:=qC hS4
   have pV:Hid (Below w.heap.size w w4):=qC ((qA hB).trans (hK4.below (by omega) (by omega)))
   have HT4:Hid (w4.cell? ⟨w.heap.size,0,none⟩=some (.slice L.p ns.length L.cap)):=qC (by rw[hK4.cell (by omega) (by omega)];exact qA hT)
   clear hS4 hK4 HC
   go_wp2
   go_roundw
   case rel=>exact⟨k+1,b4,c4,x2,by omega,by go_num,HS4,qC (qA u7),qC (qA pV),qC (qA HT4)⟩
   case measure=>simp[intOf];omega
  ·have hE:=hX
   rw[show k=n.names.length by omega,List.take_length]at hE
   have HH:=H
   rw[qA hE]at HH
   clear q5 hp
   go_wp2
   go_ret
   exact⟨_,b0,c0,rfl,qA HH,by omega,qA hB⟩
theorem rK{ns:List TN}{r:Nat}{lo:Nat}(h:y7 ns [(r:Int)] lo (r+1)):∃ m,ns[r]? = some m∧aD ns m∧y7 ns m.kids lo r:=by
 obtain⟨qX,m,e,hm,hg,h1,_⟩:=h.head
 obtain rfl:qX=r:=by omega
 exact⟨m,hm,hg,h1⟩
theorem bD{ns:List TN}{k:Nat}{m:TN}(h:ns[k]? = some m):gF ns (k:Int)=m.kids:=by unfold gF;rw[Int.toNat_natCast,h];rfl
theorem aM{ns:List TN}{k:Nat}{m:TN}(h:ns[k]? = some m):zK ns (k:Int)=m.names:=by unfold zK;rw[Int.toNat_natCast,h];rfl
theorem qG9(ns:List TN)(r:Nat)(L:rO)(w:World)(hN:uV w L ns)(tY:sW ns)(sS:gI ns (r:Int))(hT:qAE ns (r:Int)) :
  Calls Tryz.prog 116 #[.agg #[.slice L.p ns.length L.cap,.int .i64 (r:Int)],.int .i64 (r:Int)] w (qLh ns (r:Int) L (kJ ns (r:Int) (r:Int)) w):=by
 obtain⟨r',m,er,hm,hk,hrl,-⟩:=hT.seg
 obtain rfl:r=r':=by omega
 have hs:True:=trivial
 have hg:True:=trivial
 obtain⟨_,eD⟩:=List.getElem?_eq_some_iff.1 hm
 have fJ:=tY.1
 have zN:m.kids.length≤1048576:=(tY.2 m (List.mem_of_getElem? hm)).2.2.1
 have HR:Hid (kJ ns (r:Int) (r:Int)=m.kids.foldl (fun x j=>sn ns (r:Int) (ns.length+1) j x) (qQ sH (r:Int) ⟨[],0,0,0,0⟩)):=qC (by unfold kJ mI;rw[if_pos rfl,if_pos rfl,bD hm])
 have nT:(qQ sH (r:Int) ⟨[],0,0,0,0⟩).nm.length=1:=by rw[vI];rfl
 have HC:=qC (lD ns (r:Int) L (w.alloc (.cells #[.slice L.p ns.length L.cap,.int .i64 (r:Int)] 94)))
 generalize qQ sH (r:Int) ⟨[],0,0,0,0⟩=xs at HR nT HC
 rw[qA HR]
 have HI:Hid (∀ wx,Below w.heap.size w wx→∃ nb jK,L.p=some ⟨nb,jK,none⟩∧wx.cell? ⟨nb,jK+r*5+4,none⟩=some (.slice (L.pk r) m.kids.length (L.ck r))∧vD wx (L.pk r) m.kids):=qC (fun wx h=>by
  obtain⟨nb,jK,hp,_,_,_,_,q4,_,q6⟩:=(hN.later h) r hrl
  rw[eD]at q4 q6
  exact⟨nb,jK,hp,q4,q6⟩)
 have fV:Hid (∀ X,w.heap.size≤X→NX ns (r:Int) L w X):=qC (fun X h=>⟨hN,tY,sS,h⟩)
 have HK0:=qC (jM.zero (root:=(r:Int)) (n:=ns.length+1) (xs:=xs) hk (by have:=hT.few;omega))
 have e1:((r:Int) == (r:Int))=true:=by simp
 generalize L.pk r=pk at HI
 generalize L.ck r=ck at HI
 clear hN tY sS hT hs hm eD HR hk hg er
 go_enter Tryz.func116,Tryz.ntmps116
 go_wp2_with fail
 refine(qA HC).mono ?_
 rintro e w1 ⟨X,b1,c1,rfl,dF,hX1,jD⟩
 simp at hX1
 have mP:=dF.lt
 have tW:w.heap.size≠X:=by omega
 have x0:w1.cell? ⟨w.heap.size,0,none⟩=some (.slice L.p ns.length L.cap):=cell_later jD (by simp)
 have x1:w1.cell? ⟨w.heap.size,1,none⟩=some (.int .i64 (r:Int)):=cell_later jD (by simp)
 have y8:=qC (qE (qD w (.cells #[.slice L.p ns.length L.cap,.int .i64 (r:Int)] 94)) jD)
 have HS1:=qC dF
 have xH:=qC (qAl (qA fV X (by omega)) (ns.length+1))
 have hw1:w.heap.size<w1.heap.size:=World.block_lt_of_cell? _ _ x0
 have xI:=qC x0
 clear jD dF HC
 go_wp2
 clear x0 x1
 go_loopw[6] (fun i wx=>∃ (j mL:Nat) (x':SC) (b' c':Nat),j≤m.kids.length∧i=.int .i64 j∧Hid (wP wx X (.slice L.p ns.length L.cap) (.int .i64 (r:Int)) b' c' x')∧Hid (zJ X w1 wx)∧Hid (jM ns (r:Int) (ns.length+1) r m.kids xs j mL x')) (fun i _=>m.kids.length-(intOf i).toNat)
 case atStart=>exact⟨0,0,xs,b1,c1,by omega,rfl,HS1,qC (zJ.refl _ _),HK0⟩
 case round=>
  obtain⟨j,mL,x',b',c',hj,rfl,vK,uM,uB⟩:=hrel
  have hXr:=(qA vK).lt
  have x0:wr.cell? ⟨w.heap.size,0,none⟩=some (.slice L.p ns.length L.cap):=by rw[(qA uM).cell hw1 tW];exact qA xI
  have dE:=qC ((qA uM).low (qA y8) (by omega))
  obtain⟨nb,jK,hp,q4,q6⟩:=qA HI wr (qA dE)
  rw[hp]at x0
  have HQ:=qC q6
  have HHP:=qC hp
  clear q6 hp
  by_cases jF:j<m.kids.length
  ·obtain⟨qX,pW,bF,s1,s2,s3⟩:=(qA uB).step jF (by omega)
   obtain⟨kb,zY,kI,y0⟩:=(qA HQ) j jF
   rw[pW]at y0
   rw[kI]at q4
   clear kI
   have HC:=qC (qA xH qX mL x' b' c' wr bF s1 s2 (qA vK) (qA dE))
   unfold zA at HC
   have yK:=qC s3
   clear pW s1 s2 s3
   go_wp2_with fail
   refine(qA HC).mono ?_
   rintro e w2 ⟨rfl,b2,wG,vJ,yA⟩
   have mO:=qC vJ
   have qH:=qC ((qA uM).trans yA)
   clear vJ yA HC
   go_wp2
   go_roundw
   case rel=>exact⟨j+1,qX+1,_,b2,wG,by omega,by go_num,mO,qH,qC (qA yK)⟩
   case measure=>simp[intOf];omega
  ·obtain rfl:j=m.kids.length:=by omega
   have dD:=(qA uB).done
   rw[dD]at vK
   clear dD uB
   go_wp2
   go_ret
   exact⟨X,b',c',rfl,qA vK,by omega,qA dE⟩
theorem qGv(ns:List TN)(root:Int)(a lo:Nat)(m:TN)(L:rO)(w:World)(hN:uV w L ns)(tY:sW ns)(sS:gI ns root)(hT:qAE ns root)(hm:ns[a]? = some m)(hs:y7 ns [(a:Int)] lo (a+1))(yE:m.k=20)(hr:(a:Int)≠root) :
  Calls Tryz.prog 116 #[.agg #[.slice L.p ns.length L.cap,.int .i64 root],.int .i64 (a:Int)] w (qLh ns root L (kJ ns root (a:Int)) w):=by
 obtain⟨m',xC,hg,hk⟩:=rK hs
 obtain rfl:m=m':=Option.some.inj (hm.symm.trans xC)
 obtain⟨hal,eD⟩:=List.getElem?_eq_some_iff.1 hm
 have fJ:=tY.1
 have qOu:=hT.few
 have oA:=hT.names m (List.mem_of_getElem? hm)
 have xZ:m.kids.length=1:=by
  have:=hg.1
  unfold yQ at this
  rw[Bool.and_eq_true]at this
  have h2:=this.1
  rw[yE]at h2
  simpa[mB]using h2
 obtain⟨qX,kQ⟩:∃ qX:Nat,m.kids=[(qX:Int)]:=by
  match a8:m.kids,xZ with
  | [j],_=>
   rw[a8]at hk
   obtain⟨qX,_,rfl,_⟩:=hk.head
   exact⟨qX,rfl⟩
 have hsk:=hk
 rw[kQ]at hsk
 obtain⟨qS1,xb,eb,_,_,_,sb,_,lb,fR⟩:=hsk.head
 obtain rfl:qX=qS1:=by omega
 have hlen:(m.names.foldl (fun x t=>qQ t (a:Int) x) ⟨[],0,0,0,0⟩).nm.length=m.names.length:=by rw[nB];show 0+_=_;omega
 have HR:Hid (kJ ns root (a:Int)=sn ns root (ns.length+1) (qX:Int) (m.names.foldl (fun x t=>qQ t (a:Int) x) ⟨[],0,0,0,0⟩)):=qC (by unfold kJ mI;rw[if_neg hr,if_neg hr,bD hm,aM hm,kQ];rfl)
 have HC:=qC (r8 ns root a m L (w.alloc (.cells #[.slice L.p ns.length L.cap,.int .i64 root] 94)) (hN.later (qD _ _)) tY hm hr)
 generalize m.names.foldl (fun x t=>qQ t (a:Int) x) ⟨[],0,0,0,0⟩=xs at HR hlen HC
 rw[qA HR]
 have HI:Hid (∀ wx,Below w.heap.size w wx→∃ nb jK kb zY ck,L.p=some ⟨nb,jK,none⟩∧wx.cell? ⟨nb,jK+a*5+4,none⟩=some (.slice (some ⟨kb,zY,none⟩) 1 ck)∧wx.cell? ⟨kb,zY,none⟩=some (.int .i64 (qX:Int))):=qC (fun wx h=>by
  obtain⟨nb,jK,hp,_,_,_,_,q4,_,q6⟩:=(hN.later h) a hal
  rw[eD]at q4 q6
  obtain⟨kb,zY,kI,y0⟩:=q6 0 (by omega)
  have e0:m.kids[0]'(by omega)=(qX:Int):=by simp[kQ]
  rw[e0,Nat.add_zero]at y0
  rw[kI,xZ]at q4
  exact⟨nb,jK,kb,zY,_,hp,q4,y0⟩)
 have fV:Hid (∀ X,w.heap.size≤X→NX ns root L w X):=qC (fun X h=>⟨hN,tY,sS,h⟩)
 have HSB:=qC sb
 have e1:((a:Int) == root)=false:=beq_eq_false_iff_ne.2 hr
 have lT:Hid (∀ (X b c:Nat) (w2:World),w.heap.size≤X→wP w2 X (.slice L.p ns.length L.cap) (.int .i64 root) b c xs→Below w.heap.size w w2→zA ns root L X (ns.length+1) qX xs w2):=qC (fun X b c w2 hX hS hW=>qAl (qA fV X hX) (ns.length+1) qX lo xs b c w2 (by omega) sb (by omega) hS hW)
 unfold zA at lT
 clear hN tY sS hT hs hm eD HR hk hg kQ hsk eb sb xC yE hr
 generalize sn ns root (ns.length+1) (qX:Int) xs=x2 at lT ⊢
 go_enter Tryz.func116,Tryz.ntmps116
 go_wp2_with fail
 refine(qA HC).mono ?_
 rintro e w1 ⟨X,b1,c1,rfl,dF,hX1,jD⟩
 simp at hX1
 have mP:=dF.lt
 have x0:w1.cell? ⟨w.heap.size,0,none⟩=some (.slice L.p ns.length L.cap):=cell_later jD (by simp)
 have x1:w1.cell? ⟨w.heap.size,1,none⟩=some (.int .i64 root):=cell_later jD (by simp)
 have y8:=qC (qE (qD w (.cells #[.slice L.p ns.length L.cap,.int .i64 root] 94)) jD)
 have hw1:w.heap.size<w1.heap.size:=World.block_lt_of_cell? _ _ x0
 obtain⟨nb,jK,kb,zY,ck,hp,q4,y0⟩:=qA HI w1 (qA y8)
 have yJ:=qC (qA lT X b1 c1 w1 (by omega) dF (qA y8))
 rw[hp]at x0
 clear jD dF HC hp lT
 go_wp2_with fail
 refine(qA yJ).mono ?_
 rintro e w2 ⟨rfl,b2,wG,vJ,yA⟩
 have mO:=qC vJ
 have uF:=qC (yA.low (qA y8) (by omega))
 clear vJ yA yJ
 go_wp2
 go_ret
 exact⟨X,b2,wG,rfl,qA mO,by omega,qA uF⟩
theorem qHa{ns:List TN}{j:Int}{r:List Int}{nm:List ByteArray}(h:jT ns j≠20):kW ns (j::r) nm=kW ns r nm:=by
 show(if jT ns j≠20 then kW ns r nm else _)=_
 rw[if_pos h]
theorem qAC{ns:List TN}{j:Int}{r:List Int}{nm:List ByteArray}(h:jT ns j=20)(h2:kT nm (jV ns j) 0=true∨0≤xF (jV ns j)):kW ns (j::r) nm=(12,j):=by
 show(if jT ns j≠20 then kW ns r nm else if kT nm (jV ns j) 0=true∨0≤xF (jV ns j) then (12,j) else _)=_
 rw[if_neg (fun h'=>h' h),if_pos h2]
theorem qIA{ns:List TN}{j:Int}{r:List Int}{nm:List ByteArray}(h:jT ns j=20)(h2:¬(kT nm (jV ns j) 0=true∨0≤xF (jV ns j)))(h3:nm.length=8∨4<(zK ns j).length):kW ns (j::r) nm=(6,j):=by
 show(if jT ns j≠20 then kW ns r nm else if kT nm (jV ns j) 0=true∨0≤xF (jV ns j) then (12,j) else if nm.length=8∨4<(zK ns j).length then (6,j) else _)=_
 rw[if_neg (fun h'=>h' h),if_neg h2,if_pos h3]
theorem qIt{ns:List TN}{j:Int}{r:List Int}{nm:List ByteArray}(h:jT ns j=20)(h2:¬(kT nm (jV ns j) 0=true∨0≤xF (jV ns j)))(h3:¬(nm.length=8∨4<(zK ns j).length)):kW ns (j::r) nm=kW ns r (nm++[jV ns j]):=by
 show(if jT ns j≠20 then kW ns r nm else if kT nm (jV ns j) 0=true∨0≤xF (jV ns j) then (12,j) else if nm.length=8∨4<(zK ns j).length then (6,j) else kW ns r (nm++[jV ns j]))=_
 rw[if_neg (fun h'=>h' h),if_neg h2,if_neg h3]
theorem qPG{nm:List ByteArray}{t:ByteArray}{i:Nat}(h:i<nm.length)(e:nm[i]=t):kT nm t 0=true:=by
 unfold kT
 rw[List.drop_zero,List.any_eq_true]
 exact⟨nm[i],List.getElem_mem h,by rw[e];simp⟩
theorem qR8{nm:List ByteArray}{t:ByteArray}(h:∀ i (hi:i<nm.length),nm[i]≠t):kT nm t 0=false:=by
 unfold kT
 rw[List.drop_zero,List.any_eq_false]
 intro u hu
 obtain⟨i,hi,rfl⟩:=List.getElem_of_mem hu
 simp only[beq_iff_eq]
 exact fun e=>h i hi (ByteArray.ext (Array.toList_inj.1 e))
theorem qBx{ns:List TN}{k:Nat}{m:TN}(h:ns[k]? = some m):jT ns (k:Int)=m.k:=by unfold jT;rw[Int.toNat_natCast,h];rfl
theorem qPv{ns:List TN}{k:Nat}{m:TN}(h:ns[k]? = some m):jV ns (k:Int)=m.t:=by unfold jV;rw[Int.toNat_natCast,h];rfl
theorem qEM{ns:List TN}{root j:Int}{r:List Int}(h:jT ns j≠20):kS ns root (j::r)=kS ns root r:=by
 show(if jT ns j≠20 then kS ns root r else _)=_
 rw[if_pos h]
theorem qIf{ns:List TN}{root j:Int}{r:List Int}(h:jT ns j=20)(h2:(kJ ns root j).fc≠0):kS ns root (j::r)=((kJ ns root j).fc,(kJ ns root j).fn):=by
 show(if jT ns j≠20 then kS ns root r else if (kJ ns root j).fc≠0 then ((kJ ns root j).fc,(kJ ns root j).fn) else _)=_
 rw[if_neg (fun h'=>h' h),if_pos h2]
theorem qG2{ns:List TN}{root j:Int}{r:List Int}(h:jT ns j=20)(h2:(kJ ns root j).fc=0):kS ns root (j::r)=kS ns root r:=by
 show(if jT ns j≠20 then kS ns root r else if (kJ ns root j).fc≠0 then ((kJ ns root j).fc,(kJ ns root j).fn) else kS ns root r)=_
 rw[if_neg (fun h'=>h' h),if_neg (fun h'=>h' h2)]
def oY(f:Int×Int)(w:World)(e:Ending)(w':World):Prop:=e=.returned (.agg #[.int .i64 f.1,.int .i64 f.2])∧Below w.heap.size w w'
structure qXA(ns:List TN)(root:Int)(L:rO)(w:World)(kids:List Int)(pk:Option Addr):Prop where
 each:∀ i (h:i<kids.length),∃ (qX lo:Nat) (m:TN),kids[i]=(qX:Int)∧ns[qX]? = some m∧y7 ns [(qX:Int)] lo (qX+1)∧(qX:Int)≠root
 at':∀ wx,Below w.heap.size w wx→vD wx pk kids
theorem iK{ns:List TN}:∀ (ks:List Int) (lo hi:Nat),y7 ns ks lo hi→∀ i (h:i<ks.length),∃ (qX l:Nat) (m:TN),ks[i]=(qX:Int)∧ns[qX]? = some m∧y7 ns [(qX:Int)] l (qX+1)∧qX<hi
 | [],lo,hi,hs,i,h=>absurd h (by simp)
 | j::r,lo,hi,hs,i,h=>by
  obtain⟨qX,m,rfl,hm,hg,h1,h2,h3,h4,h5⟩:=hs.head
  cases i with
  | zero=>exact⟨qX,lo,m,rfl,hm,h2,by omega⟩
  | succ i=>exact iK r (qX+1) hi h3 i (by simpa using h)
theorem qB1(ns:List TN)(r:Nat)(L:rO)(w:World)(hN:uV w L ns)(tY:sW ns)(sS:gI ns (r:Int))(hT:qAE ns (r:Int)) :
  Calls Tryz.prog 86 #[.agg #[.slice L.p ns.length L.cap,.int .i64 (r:Int)]] w (oY (gW ns (r:Int)) w):=by
 obtain⟨r',mr,er,hm,hk,hrl,-⟩:=hT.seg
 obtain rfl:r=r':=by omega
 have hs:True:=trivial
 have hg:True:=trivial
 obtain⟨_,eD⟩:=List.getElem?_eq_some_iff.1 hm
 have fJ:=tY.1
 have wC:mr.kids.length≤1048576:=(tY.2 mr (List.mem_of_getElem? hm)).2.2.1
 have hrk:vW ns (r:Int)=mr.kids:=by unfold vW;rw[Int.toNat_natCast,hm];rfl
 obtain⟨nb,jK,hp,-,-,-,-,q4,-,-⟩:=hN r hrl
 rw[eD]at q4
 have iY:Hid (∀ wx,Below w.heap.size w wx→∀ (qX:Nat) (m:TN),ns[qX]? = some m→∃ pn cn pk ck,wx.cell? ⟨nb,jK+qX*5,none⟩=some (.int .i64 m.k)∧wx.cell? ⟨nb,jK+qX*5+1,none⟩=some (.int .i64 m.n)∧wx.cell? ⟨nb,jK+qX*5+2,none⟩=some (.string m.t)∧wx.cell? ⟨nb,jK+qX*5+3,none⟩=some (.slice pn m.names.length cn)∧wx.cell? ⟨nb,jK+qX*5+4,none⟩=some (.slice pk m.kids.length ck)):=qC (fun wx h qX m lR=>by
  obtain⟨hml,qX8⟩:=List.getElem?_eq_some_iff.1 lR
  obtain⟨b',qC4,hp',u0,u1,u2,u3,u4,_,_⟩:=(hN.later h) qX hml
  rw[hp]at hp'
  obtain⟨rfl,rfl⟩:nb=b'∧jK=qC4:=by simpa using hp'
  rw[qX8]at u0 u1 u2 u3 u4
  exact⟨_,_,_,_,u0,u1,u2,u3,u4⟩)
 have HKA:Hid (qXA ns (r:Int) L w mr.kids (L.pk r)):=qC ⟨fun i hi=>by
  obtain⟨qX,l,m,e,lR,dA,jF⟩:=iK mr.kids 0 r hk i hi
  exact⟨qX,l,m,e,lR,dA,by omega⟩,fun wx h=>by
  obtain⟨_,_,_,_,_,_,_,_,_,q6⟩:=(hN.later h) r hrl
  rw[eD]at q6
  exact q6⟩
 have HSM:=qC tY
 have HOT:=qC (fun wx (h:Below w.heap.size w wx)=>qG9 ns r L wx (hN.later h) tY sS hT)
 have HOF:=qC (fun wx (h:Below w.heap.size w wx) (a lo:Nat) (m:TN) (hma:ns[a]? = some m) (hsa:y7 ns [(a:Int)] lo (a+1)) (yE:m.k=20) (hr:(a:Int)≠(r:Int))=>qGv ns (r:Int) a lo m L wx (hN.later h) tY sS hT hma hsa yE hr)
 rw[hp]at HOT HOF ⊢
 have HCK:Hid (gW ns (r:Int)=if (kW ns mr.kids []).1≠0 then kW ns mr.kids [] else kS ns (r:Int) mr.kids):=qC (by unfold gW;rw[hrk])
 generalize hcf:gW ns (r:Int)=cf at HCK ⊢
 generalize L.pk r=pk at q4 HKA
 generalize L.ck r=ck at q4
 generalize L.cap=cap at HOT HOF ⊢
 have qVA:nb<w.heap.size:=World.block_lt_of_cell? _ _ q4
 generalize mr.kids=kids at *
 clear hN tY sS hT hs hm eD hg hk hrk hp er hcf
 have tN:Hid ((((w.alloc (.cells #[.slice (some ⟨nb,jK,none⟩) ns.length cap,.int .i64 (r:Int)] 94)).alloc (.cells #[.int .i64 0,.int .i64 0] 130)).alloc (.cells #[] 9)).heap[w.heap.size]? = some (.cells #[.slice (some ⟨nb,jK,none⟩) ns.length cap,.int .i64 (r:Int)] 94 (0,0))∧(((w.alloc (.cells #[.slice (some ⟨nb,jK,none⟩) ns.length cap,.int .i64 (r:Int)] 94)).alloc (.cells #[.int .i64 0,.int .i64 0] 130)).alloc (.cells #[] 9)).heap[w.heap.size+1]? = some (.cells #[.int .i64 0,.int .i64 0] 130 (0,0))∧Below w.heap.size w (((w.alloc (.cells #[.slice (some ⟨nb,jK,none⟩) ns.length cap,.int .i64 (r:Int)] 94)).alloc (.cells #[.int .i64 0,.int .i64 0] 130)).alloc (.cells #[] 9))∧(((w.alloc (.cells #[.slice (some ⟨nb,jK,none⟩) ns.length cap,.int .i64 (r:Int)] 94)).alloc (.cells #[.int .i64 0,.int .i64 0] 130)).alloc (.cells #[] 9)).heap.size=w.heap.size+1+1+1):=qC ⟨by
  have:=heap_alloc_new w (.cells #[.slice (some ⟨nb,jK,none⟩) ns.length cap,.int .i64 (r:Int)] 94)
  rw[Below.heap_alloc _ _ _ (by simp;omega),Below.heap_alloc _ _ _ (by simp)]
  exact this,by
  have:=heap_alloc_new (w.alloc (.cells #[.slice (some ⟨nb,jK,none⟩) ns.length cap,.int .i64 (r:Int)] 94)) (.cells #[.int .i64 0,.int .i64 0] 130)
  rw[Below.heap_alloc _ _ _ (by simp)]
  simpa using this,qG (qG (qD _ _)),by simp⟩
 have qVt:Hid (jY (((w.alloc (.cells #[.slice (some ⟨nb,jK,none⟩) ns.length cap,.int .i64 (r:Int)] 94)).alloc (.cells #[.int .i64 0,.int .i64 0] 130)).alloc (.cells #[] 9)) (w.heap.size+1+1) (.slice (some ⟨w.heap.size+1+1,0,none⟩) 0 0) []):=qC (by
  have:=jY.lit ((w.alloc (.cells #[.slice (some ⟨nb,jK,none⟩) ns.length cap,.int .i64 (r:Int)] 94)).alloc (.cells #[.int .i64 0,.int .i64 0] 130)) (w.heap.size+1+1) [] (by simp) (by decide)
  simpa using this)
 go_enter Tryz.func86,Tryz.ntmps86
 go_wp2
 generalize (((w.alloc (.cells #[.slice (some ⟨nb,jK,none⟩) ns.length cap,.int .i64 (r:Int)] 94)).alloc (.cells #[.int .i64 0,.int .i64 0] 130)).alloc (.cells #[] 9))=w2 at tN qVt ⊢
 have HTB:Hid (∀ wx,Below (w.heap.size+1+1) w2 wx→wx.heap[w.heap.size]? = some (.cells #[.slice (some ⟨nb,jK,none⟩) ns.length cap,.int .i64 (r:Int)] 94 (0,0))∧wx.heap[w.heap.size+1]? = some (.cells #[.int .i64 0,.int .i64 0] 130 (0,0))∧Below w.heap.size w wx∧w.heap.size+1+1<wx.heap.size):=qC (fun wx h=>by
  obtain⟨a1,a2,a3,a4⟩:=qA tN
  have:=h.size
  exact⟨(h.block _ (by omega)).trans a1,(h.block _ (by omega)).trans a2,a3.trans (h.mono (by omega)),by omega⟩)
 have HH0:Hid (kW ns (kids.drop 0) []=kW ns kids []):=qC rfl
 have fD:Hid (∀ (wx:World) (c j:Int),(c,j)=cf→Below w.heap.size w wx→oY cf w (.returned (.agg #[.int .i64 c,.int .i64 j])) wx):=qC (fun wx c j e h=>⟨by rw[←e],h⟩)
 generalize kW ns kids []=h0 at HH0 HCK
 clear q4
 go_loopw[4,5] (fun nv i wx=>∃ (k:Nat) (nm:List ByteArray),k≤kids.length∧i=.int .i64 k∧nm.length≤k∧Hid (jY wx (w.heap.size+1+1) nv nm)∧Hid (Below (w.heap.size+1+1) w2 wx)∧Hid (kW ns (kids.drop k) nm=h0)) (fun nv i _=>kids.length-(intOf i).toNat)
 case atStart=>exact⟨0,[],by omega,rfl,by simp,qVt,qC (Below.refl _ _),HH0⟩
 case round=>
  obtain⟨k,nm,hk,rfl,hnk,hSB,uZ,hH⟩:=hrel
  obtain⟨t1,t2,t3,t4⟩:=qA HTB wr (qA uZ)
  have x0:wr.cell? ⟨w.heap.size,0,none⟩=some (.slice (some ⟨nb,jK,none⟩) ns.length cap):=(cell_of_block t1 0).trans rfl
  have qQv:w.heap.size<wr.heap.size:=by omega
  have qQZ:w.heap.size+1<wr.heap.size:=by omega
  have T2:=qC t2
  have T3:=qC t3
  obtain⟨nva,qZj,hnv⟩:=(qA hSB).slice
  subst hnv
  by_cases jF:k<kids.length
  ·obtain⟨qX,lo,m,aX,lR,dA,cB⟩:=(qA HKA).each k jF
   obtain⟨kb,zY,kI,y0⟩:=(qA HKA).at' wr t3 k jF
   rw[aX]at y0
   obtain⟨pn,cn,pk',ck',u0,u1,u2,u3,u4⟩:=qA iY wr t3 qX m lR
   obtain⟨hml,-⟩:=List.getElem?_eq_some_iff.1 lR
   have rZ:m.t.size≤1048576:=((qA HSM).2 m (List.mem_of_getElem? lR)).1
   have bF:m.names.length≤1048576:=((qA HSM).2 m (List.mem_of_getElem? lR)).2.1
   have HD:Hid (kids.drop k=(qX:Int)::kids.drop (k+1)):=qC (by rw[List.drop_eq_getElem_cons jF,aX])
   subst kI
   have hkb:kb<wr.heap.size:=World.block_lt_of_cell? _ _ y0
   have pI:nb<wr.heap.size:=World.block_lt_of_cell? _ _ u0
   clear t1 t2 t3
   go_wp2
   go_region
   have HKI:=qC aX
   have uN:Below wr.heap.size wr (wr.alloc (.cells #[.int .i64 m.k,.int .i64 m.n,.string m.t,.slice pn m.names.length cn,.slice pk' m.kids.length ck'] 128)).drew:=qF (qD _ _)
   have wI:Hid ((wr.alloc (.cells #[.int .i64 m.k,.int .i64 m.n,.string m.t,.slice pn m.names.length cn,.slice pk' m.kids.length ck'] 128)).drew.heap[wr.heap.size]? = some (.cells #[.int .i64 m.k,.int .i64 m.n,.string m.t,.slice pn m.names.length cn,.slice pk' m.kids.length ck'] 128 (0,0))):=qC (heap_alloc_new wr _)
   have uO:Hid (Below (w.heap.size+1+1) w2 (wr.alloc (.cells #[.int .i64 m.k,.int .i64 m.n,.string m.t,.slice pn m.names.length cn,.slice pk' m.kids.length ck'] 128)).drew):=qC ((qA uZ).trans (uN.mono (by omega)))
   have HS3:Hid (jY (wr.alloc (.cells #[.int .i64 m.k,.int .i64 m.n,.string m.t,.slice pn m.names.length cn,.slice pk' m.kids.length ck'] 128)).drew (w.heap.size+1+1) (.slice nva nm.length qZj) nm):=qC ((qA hSB).later uN)
   have qSq:Hid (wr.heap.size<(wr.alloc (.cells #[.int .i64 m.k,.int .i64 m.n,.string m.t,.slice pn m.names.length cn,.slice pk' m.kids.length ck'] 128)).drew.heap.size):=qC (by show wr.heap.size<(wr.alloc (.cells #[.int .i64 m.k,.int .i64 m.n,.string m.t,.slice pn m.names.length cn,.slice pk' m.kids.length ck'] 128)).heap.size;simp)
   clear aX uN hSB uZ x0 u0 u1 u2 u3 u4 y0 T2 T3
   generalize (wr.alloc (.cells #[.int .i64 m.k,.int .i64 m.n,.string m.t,.slice pn m.names.length cn,.slice pk' m.kids.length ck'] 128)).drew=w3 at wI uO HS3 qSq ⊢
   have qX0:=qA qSq
   clear qSq
   generalize wr.heap.size=B3 at wI qX0 qQv qQZ t4 hkb pI ⊢
   have b0:w3.cell? ⟨B3,0,none⟩=some (.int .i64 m.k):=(cell_of_block (qA wI) 0).trans rfl
   by_cases yE:m.k=20
   ·have e20:(m.k != 20)=false:=by rw[yE];rfl
    have qJE:Hid (jT ns (qX:Int)=20):=qC ((qBx lR).trans yE)
    have HTX:Hid (jV ns (qX:Int)=m.t):=qC (qPv lR)
    have qUS:Hid (zK ns (qX:Int)=m.names):=qC (aM lR)
    clear yE
    go_wp2
    go_loopw[7] (fun i wx=>∃ j:Nat,j≤nm.length∧i=.int .i64 j∧Hid (Below w3.heap.size w3 wx)∧Hid (∀ i (h:i<nm.length),i<j→nm[i]≠m.t)) (fun i _=>nm.length-(intOf i).toNat)
    case atStart=>exact⟨0,by omega,rfl,qC (Below.refl _ _),qC (fun i _ h=>absurd h (by omega))⟩
    case round=>
     obtain⟨j,hj,rfl,hBj,tZ⟩:=hrel
     have hN4:wr.heap[B3]? = some (.cells #[.int .i64 m.k,.int .i64 m.n,.string m.t,.slice pn m.names.length cn,.slice pk' m.kids.length ck'] 128 (0,0)):=((qA hBj).block B3 (by omega)).trans (qA wI)
     have hS4:=(qA HS3).later (qA hBj)
     have pV:Hid (Below (w.heap.size+1+1) w2 wr):=qC ((qA uO).trans ((qA hBj).mono (by omega)))
     have z2:wr.cell? ⟨B3,2,none⟩=some (.string m.t):=(cell_of_block hN4 2).trans rfl
     have hBl:B3<wr.heap.size:=(Array.getElem?_eq_some_iff.1 hN4).1
     have HN4:=qC hN4
     have HS4:=qC hS4
     by_cases iS:j<nm.length
     ·obtain⟨a',qOJ,ea,hat⟩:=hS4.strs
      injection ea with ea1 _ ea2
      subst ea1 ea2
      obtain⟨sb,jC8,hsa,s0⟩:=hat j iS
      have jC9:sb<wr.heap.size:=World.block_lt_of_cell? _ _ s0
      have qQM:=qC (fun (h:nm[j]≠m.t) i (hi:i<nm.length) (hij:i<j+1)=>(if e:i=j then (by subst e;exact h) else qA tZ i hi (by omega):nm[i]≠m.t))
      have qAx:=qC (fun (h:nm[j]=m.t)=>qPG iS h)
      generalize nm[j]=u at s0 qQM qAx
      rw[hsa]
      clear hat hS4 hN4 hsa
      by_cases hu:u=m.t
      ·have HCF:Hid ((12,(qX:Int))=cf):=qC (by
        have h1:=qA hH
        rw[qA HD,qAC (qA qJE) (.inl (by rw[qA HTX];exact qA qAx hu))]at h1
        rw[qA HCK,←h1,if_pos (show(12:Int)≠0 by decide)])
       rw[hu]at s0
       have e1:=tH m.t
       have e2:=tI m.t
       clear hu qQM qAx
       go_wp2
       go_region
       have HBF:Hid (Below (w.heap.size+1+1) w2 wr.drew):=qC ((qA pV).trans ⟨rfl,rfl,rfl,Nat.le_refl _,fun _ _=>rfl⟩)
       generalize wr.drew=wF at HBF ⊢
       obtain⟨g2,g3⟩:wF.heap[w.heap.size+1]? = some (.cells #[.int .i64 0,.int .i64 0] 130 (0,0))∧Below w.heap.size w wF:=⟨(qA HTB wF (qA HBF)).2.1,(qA HTB wF (qA HBF)).2.2.1⟩
       have v0:wF.cell? ⟨w.heap.size+1,0,none⟩=some (.int .i64 0):=(cell_of_block g2 0).trans rfl
       have v1:wF.cell? ⟨w.heap.size+1,1,none⟩=some (.int .i64 0):=(cell_of_block g2 1).trans rfl
       have vf0:=unfrozen_of_block g2 0
       have vf1:=unfrozen_of_block g2 1
       have yk:wF.cell? ⟨kb,zY+k,none⟩=some (.int .i64 (qX:Int)):=by
        obtain⟨lP,kP,uH,y0'⟩:=(qA HKA).at' wF g3 k jF
        obtain⟨rfl,rfl⟩:kb=lP∧zY=kP:=by simpa using uH
        rw[qA HKI]at y0'
        exact y0'
       have hwF:w.heap.size+1<wF.heap.size:=(Array.getElem?_eq_some_iff.1 g2).1
       have HE:=qC (qA fD ((wF.setCell ⟨w.heap.size+1,0,none⟩ (.int .i64 12)).setCell ⟨w.heap.size+1,1,none⟩ (.int .i64 (qX:Int))) 12 (qX:Int) (qA HCF) (jE (jE g3 (by omega)) (by omega)))
       clear g2 g3
       go_wp2
       exact bodyPost_ret (v:=.agg #[.int .i64 12,.int .i64 (qX:Int)]) (by simp[results,Tryz.results86,go_sem, *]) rfl (qA HE)
      ·have e1:=qAM hu
       have e2:=qAL hu
       have qZQ:=qC (qA qQM hu)
       clear hu qQM qAx
       go_wp2
       go_region
       have HBD:Hid (Below w3.heap.size w3 wr.drew):=qC ((qA hBj).trans ⟨rfl,rfl,rfl,Nat.le_refl _,fun _ _=>rfl⟩)
       go_wp2
       go_roundw
       case rel=>exact⟨j+1,by omega,by go_num,HBD,qC (qA qZQ)⟩
       case measure=>simp[intOf];omega
     ·have HHF:Hid (kT nm m.t 0=false):=qC (qR8 fun i hi=>qA tZ i hi (by omega))
      have nH:=qC (tD m.t wr)
      have hcb : -1≤xF m.t∧xF m.t≤3:=by unfold xF qCH;repeat' split <;> omega
      have HCV:Hid (xF (jV ns (qX:Int))=xF m.t):=qC (by rw[qA HTX])
      clear hS4 hN4
      generalize xF m.t=cz at nH hcb HCV
      by_cases hcz:0≤cz
      ·have HCF:Hid ((12,(qX:Int))=cf):=qC (by
        have h1:=qA hH
        rw[qA HD,qAC (qA qJE) (.inr (by rw[qA HCV];exact hcz))]at h1
        rw[qA HCK,←h1,if_pos (show(12:Int)≠0 by decide)])
       go_wp2_with fail
       refine(qA nH).mono ?_
       rintro e wr ⟨rfl,rfl⟩
       have HBF:=pV
       obtain⟨g2,g3⟩:wr.heap[w.heap.size+1]? = some (.cells #[.int .i64 0,.int .i64 0] 130 (0,0))∧Below w.heap.size w wr:=⟨(qA HTB wr (qA HBF)).2.1,(qA HTB wr (qA HBF)).2.2.1⟩
       have v0:wr.cell? ⟨w.heap.size+1,0,none⟩=some (.int .i64 0):=(cell_of_block g2 0).trans rfl
       have v1:wr.cell? ⟨w.heap.size+1,1,none⟩=some (.int .i64 0):=(cell_of_block g2 1).trans rfl
       have vf0:=unfrozen_of_block g2 0
       have vf1:=unfrozen_of_block g2 1
       have yk:wr.cell? ⟨kb,zY+k,none⟩=some (.int .i64 (qX:Int)):=by
        obtain⟨lP,kP,uH,y0'⟩:=(qA HKA).at' wr g3 k jF
        obtain⟨rfl,rfl⟩:kb=lP∧zY=kP:=by simpa using uH
        rw[qA HKI]at y0'
        exact y0'
       have hwF:w.heap.size+1<wr.heap.size:=(Array.getElem?_eq_some_iff.1 g2).1
       have HE:=qC (qA fD ((wr.setCell ⟨w.heap.size+1,0,none⟩ (.int .i64 12)).setCell ⟨w.heap.size+1,1,none⟩ (.int .i64 (qX:Int))) 12 (qX:Int) (qA HCF) (jE (jE g3 (by omega)) (by omega)))
       clear g2 g3
       go_wp2
       exact bodyPost_ret (v:=.agg #[.int .i64 12,.int .i64 (qX:Int)]) (by simp[results,Tryz.results86,go_sem, *]) rfl (qA HE)
      ·have jDZ:¬cz ≥ 0:=hcz
       have HNT:Hid (¬(kT nm (jV ns (qX:Int)) 0=true∨0≤xF (jV ns (qX:Int)))):=qC (by
        rw[qA HCV,qA HTX,qA HHF]
        rintro(h | h)
        ·cases h
        ·exact hcz h)
       have z3:wr.cell? ⟨B3,3,none⟩=some (.slice pn m.names.length cn):=(cell_of_block (qA HN4) 3).trans rfl
       by_cases h8:nm.length=8∨4<m.names.length
       ·have HCF:Hid ((6,(qX:Int))=cf):=qC (by
         have h1:=qA hH
         rw[qA HD,qIA (qA qJE) (qA HNT) (by rw[qA qUS];exact h8)]at h1
         rw[qA HCK,←h1,if_pos (show(6:Int)≠0 by decide)])
        go_wp2_with fail
        refine(qA nH).mono ?_
        rintro e wr ⟨rfl,rfl⟩
        have HBF:=pV
        by_cases h8a:nm.length=8
        ·have e8:((nm.length:Int) == 8)=true:=by rw[h8a];rfl
         clear h8 h8a
         obtain⟨g2,g3⟩:wr.heap[w.heap.size+1]? = some (.cells #[.int .i64 0,.int .i64 0] 130 (0,0))∧Below w.heap.size w wr:=⟨(qA HTB wr (qA HBF)).2.1,(qA HTB wr (qA HBF)).2.2.1⟩
         have v0:wr.cell? ⟨w.heap.size+1,0,none⟩=some (.int .i64 0):=(cell_of_block g2 0).trans rfl
         have v1:wr.cell? ⟨w.heap.size+1,1,none⟩=some (.int .i64 0):=(cell_of_block g2 1).trans rfl
         have vf0:=unfrozen_of_block g2 0
         have vf1:=unfrozen_of_block g2 1
         have yk:wr.cell? ⟨kb,zY+k,none⟩=some (.int .i64 (qX:Int)):=by
          obtain⟨lP,kP,uH,y0'⟩:=(qA HKA).at' wr g3 k jF
          obtain⟨rfl,rfl⟩:kb=lP∧zY=kP:=by simpa using uH
          rw[qA HKI]at y0'
          exact y0'
         have hwF:w.heap.size+1<wr.heap.size:=(Array.getElem?_eq_some_iff.1 g2).1
         have HE:=qC (qA fD ((wr.setCell ⟨w.heap.size+1,0,none⟩ (.int .i64 6)).setCell ⟨w.heap.size+1,1,none⟩ (.int .i64 (qX:Int))) 6 (qX:Int) (qA HCF) (jE (jE g3 (by omega)) (by omega)))
         clear g2 g3
         go_wp2
         exact bodyPost_ret (v:=.agg #[.int .i64 6,.int .i64 (qX:Int)]) (by simp[results,Tryz.results86,go_sem, *]) rfl (qA HE)
        ·have e8:((nm.length:Int) == 8)=false:=beq_eq_false_iff_ne.2 (by omega)
         have h4:(4:Int)<(m.names.length:Int):=by omega
         clear h8 h8a
         obtain⟨g2,g3⟩:wr.heap[w.heap.size+1]? = some (.cells #[.int .i64 0,.int .i64 0] 130 (0,0))∧Below w.heap.size w wr:=⟨(qA HTB wr (qA HBF)).2.1,(qA HTB wr (qA HBF)).2.2.1⟩
         have v0:wr.cell? ⟨w.heap.size+1,0,none⟩=some (.int .i64 0):=(cell_of_block g2 0).trans rfl
         have v1:wr.cell? ⟨w.heap.size+1,1,none⟩=some (.int .i64 0):=(cell_of_block g2 1).trans rfl
         have vf0:=unfrozen_of_block g2 0
         have vf1:=unfrozen_of_block g2 1
         have yk:wr.cell? ⟨kb,zY+k,none⟩=some (.int .i64 (qX:Int)):=by
          obtain⟨lP,kP,uH,y0'⟩:=(qA HKA).at' wr g3 k jF
          obtain⟨rfl,rfl⟩:kb=lP∧zY=kP:=by simpa using uH
          rw[qA HKI]at y0'
          exact y0'
         have hwF:w.heap.size+1<wr.heap.size:=(Array.getElem?_eq_some_iff.1 g2).1
         have HE:=qC (qA fD ((wr.setCell ⟨w.heap.size+1,0,none⟩ (.int .i64 6)).setCell ⟨w.heap.size+1,1,none⟩ (.int .i64 (qX:Int))) 6 (qX:Int) (qA HCF) (jE (jE g3 (by omega)) (by omega)))
         clear g2 g3
         go_wp2
         exact bodyPost_ret (v:=.agg #[.int .i64 6,.int .i64 (qX:Int)]) (by simp[results,Tryz.results86,go_sem, *]) rfl (qA HE)
       ·have HH2:Hid (kW ns (kids.drop (k+1)) (nm++[m.t])=h0):=qC (by
         have h1:=qA hH
         rw[qA HD,qIt (qA qJE) (qA HNT) (by rw[qA qUS];exact h8),qA HTX]at h1
         exact h1)
        have e8:((nm.length:Int) == 8)=false:=beq_eq_false_iff_ne.2 (by omega)
        have h4:¬(4:Int)<(m.names.length:Int):=by omega
        clear h8
        go_wp2_with fail
        refine(qA nH).mono ?_
        rintro e wr ⟨rfl,rfl⟩
        go_wp2_with (at_builtin;refine qEh _ rfl _ _ rfl (w.heap.size+1+1) wr.heap.size _ nm m.t rfl ((qA HS4).alloc _) rfl (by simp) ?d1 ?d2 ?d3)
        case d1=>simp;omega
        case d2=>omega
        case d3=>
         intro v5 w5 hS5 gL
         have HS5:=qC hS5
         have lO:Hid (Below (w.heap.size+1+1) w2 w5):=qC (((qA pV).trans ((qD wr _).mono (by omega))).trans gL)
         clear hS5 gL
         go_wp2
         go_roundw
         case rel=>exact⟨k+1,nm++[m.t],by omega,by go_num,by simp;omega,HS5,lO,HH2⟩
         case measure=>simp[intOf];omega
   ·have e20:(m.k != 20)=true:=by simp[yE]
    have HH2:Hid (kW ns (kids.drop (k+1)) nm=h0):=qC (by
     have:=qA hH
     rw[qA HD,qHa (by rw[qBx lR];exact yE)]at this
     exact this)
    clear yE
    go_wp2
    go_roundw
    case rel=>exact⟨k+1,nm,by omega,by go_num,by omega,HS3,uO,HH2⟩
    case measure=>simp[intOf];omega
  ·obtain rfl:k=kids.length:=by omega
   have HBO:Hid (kS ns (r:Int) (kids.drop 0)=cf):=qC (by
    have h1:=qA hH
    rw[List.drop_length]at h1
    have h2:h0=(0,0):=h1.symm
    rw[qA HCK,h2,if_neg (by simp)]
    rfl)
   clear hH HCK hSB x0 t1 t2 T2 T3 t3 t4 qQv qQZ
   go_wp2
   go_loopw[8] (fun i wx=>∃ k:Nat,k≤kids.length∧i=.int .i64 k∧Hid (Below (w.heap.size+1+1) w2 wx)∧Hid (kS ns (r:Int) (kids.drop k)=cf)) (fun i _=>kids.length-(intOf i).toNat)
   case atStart=>exact⟨0,by omega,rfl,uZ,HBO⟩
   case round=>
    clear uZ HBO
    obtain⟨k,hk,rfl,uZ,hBO⟩:=hrel
    obtain⟨t1,t2,t3,t4⟩:=qA HTB wr (qA uZ)
    have x0:wr.cell? ⟨w.heap.size,0,none⟩=some (.slice (some ⟨nb,jK,none⟩) ns.length cap):=(cell_of_block t1 0).trans rfl
    have x1:wr.cell? ⟨w.heap.size,1,none⟩=some (.int .i64 (r:Int)):=(cell_of_block t1 1).trans rfl
    have qQv:w.heap.size<wr.heap.size:=by omega
    have qQZ:w.heap.size+1<wr.heap.size:=by omega
    have T3:=qC t3
    by_cases jF:k<kids.length
    ·obtain⟨qX,lo,m,aX,lR,dA,cB⟩:=(qA HKA).each k jF
     obtain⟨kb,zY,kI,y0⟩:=(qA HKA).at' wr t3 k jF
     rw[aX]at y0
     obtain⟨pn,cn,pk',ck',u0,u1,u2,u3,u4⟩:=qA iY wr t3 qX m lR
     obtain⟨hml,-⟩:=List.getElem?_eq_some_iff.1 lR
     have HD:Hid (kids.drop k=(qX:Int)::kids.drop (k+1)):=qC (by rw[List.drop_eq_getElem_cons jF,aX])
     subst kI
     have hkb:kb<wr.heap.size:=World.block_lt_of_cell? _ _ y0
     have pI:nb<wr.heap.size:=World.block_lt_of_cell? _ _ u0
     clear t1 t2 t3 u1 u2 u3 u4 aX
     go_wp2
     go_region
     have lO:Hid (Below (w.heap.size+1+1) w2 wr.drew):=qC ((qA uZ).trans ⟨rfl,rfl,rfl,Nat.le_refl _,fun _ _=>rfl⟩)
     have x0':wr.drew.cell? ⟨w.heap.size,0,none⟩=some (.slice (some ⟨nb,jK,none⟩) ns.length cap):=x0
     have x1':wr.drew.cell? ⟨w.heap.size,1,none⟩=some (.int .i64 (r:Int)):=x1
     have y0':wr.drew.cell? ⟨kb,zY+k,none⟩=some (.int .i64 (qX:Int)):=y0
     have T5:Hid (Below w.heap.size w wr.drew):=qC ((qA T3).trans ⟨rfl,rfl,rfl,Nat.le_refl _,fun _ _=>rfl⟩)
     have hz5:w.heap.size<wr.drew.heap.size:=qQv
     have hz6:w.heap.size+1<wr.drew.heap.size:=qQZ
     have qZd:kb<wr.drew.heap.size:=hkb
     clear x0 x1 y0 u0 T3 uZ
     generalize wr.drew=w5 at lO x0' x1' y0' T5 hz5 hz6 qZd ⊢
     by_cases yE:m.k=20
     ·have e20:(m.k == 20)=true:=by rw[yE];rfl
      have qJE:Hid (jT ns (qX:Int)=20):=qC ((qBx lR).trans yE)
      have HC:=qC (qA HOF w5.drew ((qA T5).trans ⟨rfl,rfl,rfl,Nat.le_refl _,fun _ _=>rfl⟩) qX lo m lR dA yE cB)
      have HBD:Hid (kS ns (r:Int) ((qX:Int)::kids.drop (k+1))=cf):=qC (by rw[←qA HD];exact qA hBO)
      have qQQ:Hid ((kJ ns (r:Int) (qX:Int)).fc≠0→((kJ ns (r:Int) (qX:Int)).fc,(kJ ns (r:Int) (qX:Int)).fn)=cf):=qC (fun h=>by
       have:=qA HBD
       rw[qIf (qA qJE) h]at this
       exact this)
      have qKG:Hid ((kJ ns (r:Int) (qX:Int)).fc=0→kS ns (r:Int) (kids.drop (k+1))=cf):=qC (fun h=>by
       have:=qA HBD
       rw[qG2 (qA qJE) h]at this
       exact this)
      generalize kJ ns (r:Int) (qX:Int)=xo at HC qQQ qKG
      clear yE HBD hBO
      go_wp2
      go_region_with (go_at_call 116;refine(qA HC).mono ?_;rintro e y ⟨X,bX,cX,rfl,hSX,hX,jR⟩)
      all_goals
       have qVr:Below w5.heap.size w5 y:=(qF (Below.refl _ _)).trans jR
       obtain⟨g0,g1,g2,g3,g4,g5,g6⟩:=hSX.blk.cells
       have hXy:=hSX.lt
       have HBF:Hid (Below (w.heap.size+1+1) w2 y):=qC ((qA lO).trans (qVr.mono (by have:=(qA HTB w5 (qA lO)).2.2.2;omega)))
       have hXw:w.heap.size+1≠X:=by
        have h1:w5.drew.heap.size≤X:=hX
        have h2:w5.drew.heap.size=w5.heap.size:=rfl
        omega
       clear hSX qVr jR HC x0' x1' y0'
       by_cases hf:xo.fc=0
       ·rw[hf]at g5
        have HG2:=qC (qA qKG hf)
        clear qQQ qKG hf
        go_wp2
        go_roundw
        case rel=>exact⟨k+1,by omega,by go_num,HBF,HG2⟩
        case measure=>simp[intOf];omega
       ·have hf':(xo.fc != 0)=true:=by simp[hf]
        have HCF:=qC (qA qQQ hf)
        clear qQQ qKG hf
        generalize xo.fc=fc at *
        generalize xo.fn=fn at *
        obtain⟨g2,g3⟩:y.heap[w.heap.size+1]? = some (.cells #[.int .i64 0,.int .i64 0] 130 (0,0))∧Below w.heap.size w y:=⟨(qA HTB y (qA HBF)).2.1,(qA HTB y (qA HBF)).2.2.1⟩
        have v0:y.cell? ⟨w.heap.size+1,0,none⟩=some (.int .i64 0):=(cell_of_block g2 0).trans rfl
        have v1:y.cell? ⟨w.heap.size+1,1,none⟩=some (.int .i64 0):=(cell_of_block g2 1).trans rfl
        have vf0:=unfrozen_of_block g2 0
        have vf1:=unfrozen_of_block g2 1
        have hwF:w.heap.size+1<y.heap.size:=(Array.getElem?_eq_some_iff.1 g2).1
        have HE:=qC (qA fD ((y.setCell ⟨w.heap.size+1,0,none⟩ (.int .i64 fc)).setCell ⟨w.heap.size+1,1,none⟩ (.int .i64 fn)) fc fn (qA HCF) (jE (jE g3 (by omega)) (by omega)))
        clear g2 g3
        go_wp2
        exact bodyPost_ret (v:=.agg #[.int .i64 fc,.int .i64 fn]) (by simp[results,Tryz.results86,go_sem, *]) rfl (qA HE)
     ·have e20:(m.k == 20)=false:=beq_eq_false_iff_ne.2 yE
      have HG2:Hid (kS ns (r:Int) (kids.drop (k+1))=cf):=qC (by
       have:=qA hBO
       rw[qA HD,qEM (by rw[qBx lR];exact yE)]at this
       exact this)
      clear yE
      go_wp2
      go_roundw
      case rel=>exact⟨k+1,by omega,by go_num,lO,HG2⟩
      case measure=>simp[intOf];omega
    ·obtain rfl:k=kids.length:=by omega
     have HCF:Hid (((kJ ns (r:Int) (r:Int)).fc,(kJ ns (r:Int) (r:Int)).fn)=cf):=qC (by
      have h1:=qA hBO
      rw[List.drop_length]at h1
      exact h1)
     have HC:=qC (qA HOT wr t3)
     generalize kJ ns (r:Int) (r:Int)=xo at HC HCF
     clear hBO t1 t2 t3
     go_wp2_with fail
     refine(qA HC).mono ?_
     rintro e y ⟨X,bX,cX,rfl,hSX,hX,jR⟩
     obtain⟨g0,g1,g2,g3,g4,g5,g6⟩:=hSX.blk.cells
     have hXy:=hSX.lt
     have HBF:Hid (Below (w.heap.size+1+1) w2 y):=qC ((qA uZ).trans (jR.mono (by omega)))
     have hXw:w.heap.size+1≠X:=by omega
     clear hSX jR HC
     generalize xo.fc=fc at *
     generalize xo.fn=fn at *
     obtain⟨g2,g3⟩:y.heap[w.heap.size+1]? = some (.cells #[.int .i64 0,.int .i64 0] 130 (0,0))∧Below w.heap.size w y:=⟨(qA HTB y (qA HBF)).2.1,(qA HTB y (qA HBF)).2.2.1⟩
     have v0:y.cell? ⟨w.heap.size+1,0,none⟩=some (.int .i64 0):=(cell_of_block g2 0).trans rfl
     have v1:y.cell? ⟨w.heap.size+1,1,none⟩=some (.int .i64 0):=(cell_of_block g2 1).trans rfl
     have vf0:=unfrozen_of_block g2 0
     have vf1:=unfrozen_of_block g2 1
     have hwF:w.heap.size+1<y.heap.size:=(Array.getElem?_eq_some_iff.1 g2).1
     have HE:=qC (qA fD ((y.setCell ⟨w.heap.size+1,0,none⟩ (.int .i64 fc)).setCell ⟨w.heap.size+1,1,none⟩ (.int .i64 fn)) fc fn (qA HCF) (jE (jE g3 (by omega)) (by omega)))
     clear g2 g3
     go_wp2
     exact bodyPost_ret (v:=.agg #[.int .i64 fc,.int .i64 fn]) (by simp[results,Tryz.results86,go_sem, *]) rfl (qA HE)
end
end Go.Proofs.YtbgkfaclfnkloaaGreatDoor
