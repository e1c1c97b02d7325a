import Derived.Test.YtbgkfaclfnkloaaGreatDoorG11
import Derived.Test.YtbgkfaclfnkloaaGreatDoorG04
import Derived.Lib.SmallJoins
namespace Go.Proofs.YtbgkfaclfnkloaaGreatDoor
set_option linter.all false
set_option maxHeartbeats 4000000
set_option maxRecDepth 100000
section
theorem dI(c k:Int)(x:SC):(yD c k x).nm=x.nm:=by unfold yD;split <;> rfl
theorem iC(c k:Int)(x:SC):(yD c k x).st=x.st:=by unfold yD;split <;> rfl
theorem qEe(t:ByteArray)(k:Int)(x:SC):(fB t k x).nm=x.nm:=by unfold fB;split <;> first | rfl | exact dI _ _ _
theorem qLc(t:ByteArray)(k:Int)(x:SC):(fB t k x).st=x.st:=by unfold fB;split <;> first | rfl | exact iC _ _ _
theorem qMX(k:Int)(x:SC):(iF k x).nm=x.nm:=by unfold iF;split <;> first | rfl | exact dI _ _ _
theorem qNv(k:Int)(x:SC):(iF k x).st=x.st:=by unfold iF;split <;> first | rfl | exact iC _ _ _
theorem vI(t:ByteArray)(k:Int)(x:SC):(qQ t k x).nm=x.nm++[t]:=by unfold qQ;rw[qMX];unfold qLt;dsimp only;rw[qEe]
theorem qLZ(t:ByteArray)(k:Int)(x:SC):(qQ t k x).st=x.st:=by unfold qQ;rw[qNv];unfold qLt;dsimp only;rw[qLc]
theorem qCg(ns:List TN)(root:Int)(t:ByteArray)(c:Nat)(k:Int)(x:SC):(bA ns root t c k x).nm=x.nm:=by
 unfold bA
 repeat' split
 all_goals first | rfl | exact dI _ _ _
theorem qNc(ns:List TN)(root:Int)(t:ByteArray)(c:Nat)(k:Int)(x:SC):(bA ns root t c k x).st=x.st:=by
 unfold bA
 repeat' split
 all_goals first | rfl | exact iC _ _ _
theorem qJ6(c k:Int)(x:SC)(p:Prop)[Decidable p]:(if p then yD c k x else x).nm=x.nm:=by split <;> first | rfl | exact dI _ _ _
theorem qPL(c k:Int)(x:SC)(p:Prop)[Decidable p]:(if p then yD c k x else x).st=x.st:=by split <;> first | rfl | exact iC _ _ _
def xA(x x':SC):Prop:=x'.st=x.st∧x.nm <+: x'.nm
theorem xA.refl(x:SC):xA x x:=⟨rfl,List.prefix_refl _⟩
theorem xA.trans{a b c:SC}(h:xA a b)(k:xA b c):xA a c:=⟨k.1.trans h.1,h.2.trans k.2⟩
theorem xA.same{a b:SC}(h1:b.nm=a.nm)(h2:b.st=a.st):xA a b:=⟨h2,by rw[h1];exact List.prefix_refl _⟩
theorem xA.bring(t:ByteArray)(k:Int)(x:SC):xA x (qQ t k x):=⟨qLZ _ _ _,by rw[vI];exact List.prefix_append _ _⟩
theorem pZ{f:SC→Int→SC}(hf:∀ x j,xA x (f x j)):∀ (ks:List Int) (x:SC),xA x (ks.foldl f x)
 | [],x=>xA.refl x
 | j::r,x=>(hf x j).trans (pZ hf r (f x j))
theorem fZ{x0 x:SC}(h:x0.nm <+: x.nm):k4 x0 x = { x with st:=x0.st,nm:=x0.nm }:=by
 unfold k4
 obtain⟨r,hr⟩:=h
 rw[←hr,List.take_left']
 rfl
theorem eP(ns:List TN)(root:Int):∀ (n:Nat) (k:Int) (x:SC),xA x (sn ns root n k x)
 | 0,k,x=>xA.refl x
 | n+1,k,x=>by
  have ih:=eP ns root n
  unfold sn
  split
  ·exact xA.refl x
  ·rename_i m hm
   split
   ·exact(xA.same (qJ6 _ _ _ _) (qPL _ _ _ _)).trans (pZ (fun x j=>ih j x) _ _)
   split
   ·exact(xA.same (qCg _ _ _ _ _ _) (qNc _ _ _ _ _ _)).trans (pZ (fun x j=>ih j x) _ _)
   split
   ·exact xA.refl x
   split
   ·have h:=pZ (fun x j=>ih j x) m.kids (jG x)
    rw[fZ (x0:=x) h.2]
    exact⟨rfl,List.prefix_refl _⟩
   split
   ·split
    ·rename_i a b hk
     have h1:=ih a x
     have h2:=(xA.bring m.t k (jG (sn ns root n a x))).trans (ih b _)
     rw[fZ (x0:=sn ns root n a x) h2.2]
     exact⟨h1.1,h1.2⟩
    ·exact xA.refl x
   split
   ·exact(pZ (fun x j=>ih j x) _ _).trans (xA.bring _ _ _)
   ·exact pZ (fun x j=>ih j x) _ _
theorem y7.head{ns:List TN}{j:Int}{ks:List Int}{lo hi:Nat}(h:y7 ns (j::ks) lo hi):∃ (qX:Nat) (x:TN),j=(qX:Int)∧ns[qX]? = some x∧aD ns x∧y7 ns x.kids lo qX∧y7 ns [j] lo (qX+1)∧y7 ns ks (qX+1) hi∧lo≤qX∧qX+1≤hi:=by
 cases h with
 | cons lo qX hi x ks hx hg h1 h2=>exact⟨qX,x,rfl,hx,hg,h1,.cons lo qX (qX+1) x [] hx hg h1 (.nil _),h2,h1.le,h2.le⟩
theorem qHz{ns:List TN}{root:Int}{n:Nat}(ih:∀ (k lo:Nat) (x:SC),k<n→y7 ns [(k:Int)] lo (k+1)→(sn ns root n k x).nm.length≤x.nm.length+(k+1-lo)):∀ (ks:List Int) (lo hi:Nat) (x:SC),y7 ns ks lo hi→hi≤n→(ks.foldl (fun x j=>sn ns root n j x) x).nm.length≤x.nm.length+(hi-lo)
 | [],lo,hi,x,h,hn=>Nat.le_add_right _ _
 | j::r,lo,hi,x,h,hn=>by
  obtain⟨qX,m,rfl,hm,hg,h1,h2,h3,h4,h5⟩:=h.head
  have a:=ih qX lo x (by omega) h2
  have b:=qHz ih r (qX+1) hi (sn ns root n qX x) h3 hn
  show(r.foldl (fun x j=>sn ns root n j x) (sn ns root n qX x)).nm.length≤_
  omega
theorem qIj(ns:List TN)(root:Int):∀ (n k lo:Nat) (x:SC),k<n→y7 ns [(k:Int)] lo (k+1)→(sn ns root n k x).nm.length≤x.nm.length+(k+1-lo)
 | 0,k,lo,x,hk,_=>absurd hk (Nat.not_lt_zero _)
 | n+1,k,lo,x,hk,hs=>by
  have ih:∀ (k lo:Nat) (x:SC),k<n→y7 ns [(k:Int)] lo (k+1)→(sn ns root n k x).nm.length≤x.nm.length+(k+1-lo):=fun k lo x=>qIj ns root n k lo x
  obtain⟨qX,m,e,hm,hg,h1,_,_,hlo,_⟩:=hs.head
  obtain rfl:qX=k:=by omega
  have hF:=fun x=>qHz ih m.kids lo qX x h1 (by omega)
  unfold sn
  rw[Int.toNat_natCast,hm]
  dsimp only
  split
  ·have:=hF (if vA x.nm m.t<0 then yD 11 (qX:Int) x else x)
   rw[qJ6]at this
   omega
  split
  ·have:=hF (bA ns root m.t m.kids.length (qX:Int) x)
   rw[qCg]at this
   omega
  split
  ·omega
  split
  ·rw[fZ (x0:=x) (pZ (fun x j=>eP ns root n j x) m.kids (jG x)).2]
   exact Nat.le_add_right _ _
  split
  ·split
   ·rename_i a b hk
    rw[fZ (x0:=sn ns root n a x) ((xA.bring m.t (qX:Int) (jG (sn ns root n a x))).trans (eP ns root n b _)).2]
    rw[hk]at h1
    obtain⟨ma,xa,rfl,_,_,_,h2,h3,h4,h5⟩:=h1.head
    have:=ih ma lo x (by omega) h2
    show(sn ns root n ma x).nm.length≤_
    omega
   ·omega
  split
  ·rw[vI,List.length_append,List.length_singleton]
   have:=hF x
   omega
  ·have:=hF x
   omega
theorem qLr(f:SC→Int→SC)(ks:List Int)(i:Nat)(h:i<ks.length)(x:SC):(ks.take (i+1)).foldl f x=f ((ks.take i).foldl f x) ks[i]:=by
 rw[List.take_succ_eq_append_getElem h,List.foldl_append]
 rfl
structure IR where
 op:Int
 n:Int
 m:Int
 t:ByteArray
 vk:Int
 vn:Int
 vt:ByteArray
def e0:ByteArray:=⟨#[]⟩
def iN(op n:Int):IR:=⟨op,n,0,e0,0,0,e0⟩
def iT(op:Int)(t:ByteArray):IR:=⟨op,0,0,t,0,0,e0⟩
def iV(k n:Int)(t:ByteArray):IR:=⟨1,0,0,e0,k,n,t⟩
structure CO where
 s:List IR
 x:SC
def ck(g:Int→SC→Nat→CO):List Int→SC→Nat→CO
 | [],x,_=>⟨[],x⟩
 | j::r,x,a=>⟨(g j x a).s++(ck g r (g j x a).x (a+(g j x a).s.length)).s,(ck g r (g j x a).x (a+(g j x a).s.length)).x⟩
def qBf(fs:List Int)(f:Int):Nat→List Nat
 | 0=>[]
 | i+1=>qBf fs f i++(if fs[i]? = some f then [i] else [])
def tT(ns:List TN)(root:Int)(fs:List Int)(t:ByteArray)(c:Nat):List IR:=
 if bL ns root t<0 then [⟨11,(c:Int),0,t,0,0,e0⟩] else (qBf fs (bL ns root t) fs.length).map fun (i:Nat)=>(⟨10,1+(i:Int),(c:Int),e0,0,0,e0⟩:IR)
def qA3(g:Int→SC→Nat→CO)(k:Int)(kids:List Int)(t:ByteArray)(x:SC)(a:Nat):CO:=
 ⟨iN 3 (vA (qQ t k (jG x)).nm t)::(ck g kids (jG (qQ t k (jG x))) (a+1)).s,k4 x (ck g kids (jG (qQ t k (jG x))) (a+1)).x⟩
def cg(ns:List TN)(root:Int)(fs:List Int):Nat→Int→SC→Nat→CO
 | 0,_,x,_=>⟨[],x⟩
 | n+1,k,x,a=>
  match ns[k.toNat]? with
  | none=>⟨[],x⟩
  | some m=>
   if m.k=1 then ⟨[iV 1 m.n e0],x⟩
   else if m.k=2 then ⟨[iV 3 0 m.t],x⟩
   else if m.k=3 then ⟨[iV 2 (if m.n=1 then 1 else 0) e0],x⟩
   else if m.k=4 then ⟨[iV 0 0 e0],x⟩
   else if m.k=5 then ⟨[iN 2 (vA x.nm m.t)],x⟩
   else if m.k=6 then ⟨(ck (cg ns root fs n) m.kids x a).s++[iT 4 m.t],(ck (cg ns root fs n) m.kids x a).x⟩
   else if m.k=7 then ⟨(ck (cg ns root fs n) m.kids x a).s++[iT 5 m.t],(ck (cg ns root fs n) m.kids x a).x⟩
   else if m.k=8∨m.k=9 then
    (match m.kids with
    | [p,q]=>⟨(cg ns root fs n p x a).s++iN m.k ((a+(cg ns root fs n p x a).s.length+1+(cg ns root fs n q (cg ns root fs n p x a).x (a+(cg ns root fs n p x a).s.length+1)).s.length:Nat):Int)::(cg ns root fs n q (cg ns root fs n p x a).x (a+(cg ns root fs n p x a).s.length+1)).s,(cg ns root fs n q (cg ns root fs n p x a).x (a+(cg ns root fs n p x a).s.length+1)).x⟩
    | _=>⟨[],x⟩)
   else if m.k=10 then ⟨(ck (cg ns root fs n) m.kids x a).s++tT ns root fs m.t m.kids.length,(ck (cg ns root fs n) m.kids x a).x⟩
   else if m.k=11 then ⟨(ck (cg ns root fs n) m.kids x a).s++[iN 3 (vA (qQ m.t k (ck (cg ns root fs n) m.kids x a).x).nm m.t)],qQ m.t k (ck (cg ns root fs n) m.kids x a).x⟩
   else if m.k=12 then ⟨(ck (cg ns root fs n) m.kids x a).s++[iN 3 (vA (ck (cg ns root fs n) m.kids x a).x.nm m.t)],(ck (cg ns root fs n) m.kids x a).x⟩
   else if m.k=15 then ⟨(ck (cg ns root fs n) m.kids x a).s++[iN 12 0],(ck (cg ns root fs n) m.kids x a).x⟩
   else if m.k=16 then ⟨(ck (cg ns root fs n) m.kids x a).s++[iN 13 0],(ck (cg ns root fs n) m.kids x a).x⟩
   else if m.k=19 then ⟨(ck (cg ns root fs n) m.kids x a).s++[iN 16 0],(ck (cg ns root fs n) m.kids x a).x⟩
   else if m.k=18 then ⟨(ck (cg ns root fs n) m.kids (jG x) a).s,k4 x (ck (cg ns root fs n) m.kids (jG x) a).x⟩
   else if m.k=13 then
    (match m.kids with
    | [c,p]=>
     (fun (o1:CO)=>(fun (o2:CO)=>(⟨o1.s++iN 7 ((a+o1.s.length+1+o2.s.length:Nat):Int)::o2.s,o2.x⟩:CO)) (cg ns root fs n p o1.x (a+o1.s.length+1))) (cg ns root fs n c x a)
    | [c,p,q]=>
     (fun (o1:CO)=>(fun (o2:CO)=>(fun (o3:CO)=>(⟨o1.s++iN 7 ((a+o1.s.length+1+o2.s.length+1:Nat):Int)::(o2.s++iN 6 ((a+o1.s.length+1+o2.s.length+1+o3.s.length:Nat):Int)::o3.s),o3.x⟩:CO)) (cg ns root fs n q o2.x (a+o1.s.length+1+o2.s.length+1))) (cg ns root fs n p o1.x (a+o1.s.length+1))) (cg ns root fs n c x a)
    | _=>⟨[],x⟩)
   else if m.k=14 then
    (match m.kids with
    | [c,p]=>
     (fun (o1:CO)=>(fun (o2:CO)=>(⟨o1.s++iN 7 ((a+o1.s.length+1+o2.s.length+1:Nat):Int)::(o2.s++[iN 6 (a:Int)]),o2.x⟩:CO)) (cg ns root fs n p o1.x (a+o1.s.length+1))) (cg ns root fs n c x a)
    | _=>⟨[],x⟩)
   else if m.k=17 then
    (match m.kids with
    | [p,q]=>
     (fun (o1:CO)=>(fun (o2:CO)=>(⟨iN 14 ((a+1+o1.s.length+2:Nat):Int)::(o1.s++iN 15 0::iN 6 ((a+1+o1.s.length+2+o2.s.length:Nat):Int)::o2.s),o2.x⟩:CO)) (qA3 (cg ns root fs n) q (gF ns q) m.t o1.x (a+1+o1.s.length+2))) (cg ns root fs n p x (a+1))
    | _=>⟨[],x⟩)
   else ⟨[],x⟩
structure FR where
 name:ByteArray
 params:Nat
 slots:Nat
 code:List IR
def qAF(ns:List TN)(root:Int)(fs:List Int)(k:Int):CO:=
 ck (cg ns root fs (ns.length+1)) (if k=root then (gF ns k).filter (fun j=>jT ns j != 20) else (gF ns k).take 1) (mI ns root k) 0
def vT(ns:List TN)(root:Int)(fs:List Int)(k:Int):FR:=⟨jV ns k,(mI ns root k).nm.length,(qAF ns root fs k).x.mo,(qAF ns root fs k).s++[iV 0 0 e0,iN 12 0]⟩
def rJ(ns:List TN)(root:Int):List FR:=vT ns root (dK ns root) root::(dK ns root).map (vT ns root (dK ns root))
theorem dH{ns:List TN}{root:Int}{fs:List Int}{n:Nat}{k:Int}{x:SC}{a:Nat}{m:TN}(hm:ns[k.toNat]? = some m):cg ns root fs (n+1) k x a =
   (if m.k=1 then ⟨[iV 1 m.n e0],x⟩
   else if m.k=2 then ⟨[iV 3 0 m.t],x⟩
   else if m.k=3 then ⟨[iV 2 (if m.n=1 then 1 else 0) e0],x⟩
   else if m.k=4 then ⟨[iV 0 0 e0],x⟩
   else if m.k=5 then ⟨[iN 2 (vA x.nm m.t)],x⟩
   else if m.k=6 then ⟨(ck (cg ns root fs n) m.kids x a).s++[iT 4 m.t],(ck (cg ns root fs n) m.kids x a).x⟩
   else if m.k=7 then ⟨(ck (cg ns root fs n) m.kids x a).s++[iT 5 m.t],(ck (cg ns root fs n) m.kids x a).x⟩
   else if m.k=8∨m.k=9 then
    (match m.kids with
    | [p,q]=>⟨(cg ns root fs n p x a).s++iN m.k ((a+(cg ns root fs n p x a).s.length+1+(cg ns root fs n q (cg ns root fs n p x a).x (a+(cg ns root fs n p x a).s.length+1)).s.length:Nat):Int)::(cg ns root fs n q (cg ns root fs n p x a).x (a+(cg ns root fs n p x a).s.length+1)).s,(cg ns root fs n q (cg ns root fs n p x a).x (a+(cg ns root fs n p x a).s.length+1)).x⟩
    | _=>⟨[],x⟩)
   else if m.k=10 then ⟨(ck (cg ns root fs n) m.kids x a).s++tT ns root fs m.t m.kids.length,(ck (cg ns root fs n) m.kids x a).x⟩
   else if m.k=11 then ⟨(ck (cg ns root fs n) m.kids x a).s++[iN 3 (vA (qQ m.t k (ck (cg ns root fs n) m.kids x a).x).nm m.t)],qQ m.t k (ck (cg ns root fs n) m.kids x a).x⟩
   else if m.k=12 then ⟨(ck (cg ns root fs n) m.kids x a).s++[iN 3 (vA (ck (cg ns root fs n) m.kids x a).x.nm m.t)],(ck (cg ns root fs n) m.kids x a).x⟩
   else if m.k=15 then ⟨(ck (cg ns root fs n) m.kids x a).s++[iN 12 0],(ck (cg ns root fs n) m.kids x a).x⟩
   else if m.k=16 then ⟨(ck (cg ns root fs n) m.kids x a).s++[iN 13 0],(ck (cg ns root fs n) m.kids x a).x⟩
   else if m.k=19 then ⟨(ck (cg ns root fs n) m.kids x a).s++[iN 16 0],(ck (cg ns root fs n) m.kids x a).x⟩
   else if m.k=18 then ⟨(ck (cg ns root fs n) m.kids (jG x) a).s,k4 x (ck (cg ns root fs n) m.kids (jG x) a).x⟩
   else if m.k=13 then
    (match m.kids with
    | [c,p]=>
     (fun (o1:CO)=>(fun (o2:CO)=>(⟨o1.s++iN 7 ((a+o1.s.length+1+o2.s.length:Nat):Int)::o2.s,o2.x⟩:CO)) (cg ns root fs n p o1.x (a+o1.s.length+1))) (cg ns root fs n c x a)
    | [c,p,q]=>
     (fun (o1:CO)=>(fun (o2:CO)=>(fun (o3:CO)=>(⟨o1.s++iN 7 ((a+o1.s.length+1+o2.s.length+1:Nat):Int)::(o2.s++iN 6 ((a+o1.s.length+1+o2.s.length+1+o3.s.length:Nat):Int)::o3.s),o3.x⟩:CO)) (cg ns root fs n q o2.x (a+o1.s.length+1+o2.s.length+1))) (cg ns root fs n p o1.x (a+o1.s.length+1))) (cg ns root fs n c x a)
    | _=>⟨[],x⟩)
   else if m.k=14 then
    (match m.kids with
    | [c,p]=>
     (fun (o1:CO)=>(fun (o2:CO)=>(⟨o1.s++iN 7 ((a+o1.s.length+1+o2.s.length+1:Nat):Int)::(o2.s++[iN 6 (a:Int)]),o2.x⟩:CO)) (cg ns root fs n p o1.x (a+o1.s.length+1))) (cg ns root fs n c x a)
    | _=>⟨[],x⟩)
   else if m.k=17 then
    (match m.kids with
    | [p,q]=>
     (fun (o1:CO)=>(fun (o2:CO)=>(⟨iN 14 ((a+1+o1.s.length+2:Nat):Int)::(o1.s++iN 15 0::iN 6 ((a+1+o1.s.length+2+o2.s.length:Nat):Int)::o2.s),o2.x⟩:CO)) (qA3 (cg ns root fs n) q (gF ns q) m.t o1.x (a+1+o1.s.length+2))) (cg ns root fs n p x (a+1))
    | _=>⟨[],x⟩)
   else ⟨[],x⟩:CO):=by
 show(match ns[k.toNat]? with | none=>(⟨[],x⟩:CO) | some m=>_)=_
 rewrite[hm]
 rfl
structure eF(ns:List TN)(n:Nat)(g:Int→SC→Nat→CO):Prop where
 grew:∀ (k:Int) (x:SC) (a:Nat),xA x (g k x a).x
 len:∀ (k lo:Nat) (x:SC) (a:Nat),k<n→y7 ns [(k:Int)] lo (k+1)→(g k x a).x.nm.length≤x.nm.length+(k+1-lo)
 ins:∀ (k lo:Nat) (x:SC) (a:Nat),k<n→y7 ns [(k:Int)] lo (k+1)→(g k x a).s.length≤204*(k+1-lo)
theorem gK{ns:List TN}{n:Nat}{g:Int→SC→Nat→CO}(hg:eF ns n g):∀ (ks:List Int) (x:SC) (a:Nat),xA x (ck g ks x a).x
 | [],x,a=>xA.refl x
 | j::r,x,a=>(hg.grew j x a).trans (gK hg r _ _)
theorem qIG{ns:List TN}{n:Nat}{g:Int→SC→Nat→CO}(hg:eF ns n g):∀ (ks:List Int) (lo hi:Nat) (x:SC) (a:Nat),y7 ns ks lo hi→hi≤n→(ck g ks x a).x.nm.length≤x.nm.length+(hi-lo)
 | [],lo,hi,x,a,h,hn=>Nat.le_add_right _ _
 | j::r,lo,hi,x,a,h,hn=>by
  obtain⟨qX,m,rfl,hm,_,h1,h2,h3,h4,h5⟩:=h.head
  have p:=hg.len qX lo x a (by omega) h2
  have q:=qIG hg r (qX+1) hi (g qX x a).x (a+(g qX x a).s.length) h3 hn
  show(ck g r (g qX x a).x (a+(g qX x a).s.length)).x.nm.length≤_
  omega
theorem oN{ns:List TN}{n:Nat}{g:Int→SC→Nat→CO}(hg:eF ns n g):∀ (ks:List Int) (lo hi:Nat) (x:SC) (a:Nat),y7 ns ks lo hi→hi≤n→(ck g ks x a).s.length≤204*(hi-lo)
 | [],lo,hi,x,a,h,hn=>Nat.zero_le _
 | j::r,lo,hi,x,a,h,hn=>by
  obtain⟨qX,m,rfl,hm,_,h1,h2,h3,h4,h5⟩:=h.head
  have p:=hg.ins qX lo x a (by omega) h2
  have q:=oN hg r (qX+1) hi (g qX x a).x (a+(g qX x a).s.length) h3 hn
  show((g qX x a).s++(ck g r (g qX x a).x (a+(g qX x a).s.length)).s).length≤_
  rw[List.length_append]
  omega
theorem qCv(fs:List Int)(f:Int):∀ i,(qBf fs f i).length≤i
 | 0=>Nat.le_refl _
 | i+1=>by
  have:=qCv fs f i
  show(qBf fs f i++_).length≤_
  rw[List.length_append]
  split
  ·simp;omega
  ·simp;omega
theorem qL5(ns:List TN)(root:Int)(fs:List Int)(t:ByteArray)(c:Nat)(h:fs.length≤200):(tT ns root fs t c).length≤200:=by
 unfold tT
 split
 ·simp
 ·rw[List.length_map]
  exact Nat.le_trans (qCv fs _ _) h
theorem qGi{ns:List TN}{root:Int}{fs:List Int}{n:Nat}{k:Int}{x:SC}{a:Nat}{m:TN}(hm:ns[k.toNat]? = some m)(h:m.k=1):cg ns root fs (n+1) k x a =
   (⟨[iV 1 m.n e0],x⟩:CO):=by
 (rw[dH hm,if_pos h]) <;> rfl
theorem qGF{ns:List TN}{root:Int}{fs:List Int}{n:Nat}{k:Int}{x:SC}{a:Nat}{m:TN}(hm:ns[k.toNat]? = some m)(h:m.k=2):cg ns root fs (n+1) k x a =
   (⟨[iV 3 0 m.t],x⟩:CO):=by
 (rw[dH hm,if_neg (by omega),if_pos h]) <;> rfl
theorem qGu{ns:List TN}{root:Int}{fs:List Int}{n:Nat}{k:Int}{x:SC}{a:Nat}{m:TN}(hm:ns[k.toNat]? = some m)(h:m.k=3):cg ns root fs (n+1) k x a =
   (⟨[iV 2 (if m.n=1 then 1 else 0) e0],x⟩:CO):=by
 (rw[dH hm,if_neg (by omega),if_neg (by omega),if_pos h]) <;> rfl
theorem qF6{ns:List TN}{root:Int}{fs:List Int}{n:Nat}{k:Int}{x:SC}{a:Nat}{m:TN}(hm:ns[k.toNat]? = some m)(h:m.k=4):cg ns root fs (n+1) k x a =
   (⟨[iV 0 0 e0],x⟩:CO):=by
 (rw[dH hm,if_neg (by omega),if_neg (by omega),if_neg (by omega),if_pos h]) <;> rfl
theorem qGQ{ns:List TN}{root:Int}{fs:List Int}{n:Nat}{k:Int}{x:SC}{a:Nat}{m:TN}(hm:ns[k.toNat]? = some m)(h:m.k=5):cg ns root fs (n+1) k x a =
   (⟨[iN 2 (vA x.nm m.t)],x⟩:CO):=by
 (rw[dH hm,if_neg (by omega),if_neg (by omega),if_neg (by omega),if_neg (by omega),if_pos h]) <;> rfl
theorem qGI{ns:List TN}{root:Int}{fs:List Int}{n:Nat}{k:Int}{x:SC}{a:Nat}{m:TN}(hm:ns[k.toNat]? = some m)(h:m.k=6):cg ns root fs (n+1) k x a =
   (⟨(ck (cg ns root fs n) m.kids x a).s++[iT 4 m.t],(ck (cg ns root fs n) m.kids x a).x⟩:CO):=by
 (rw[dH hm,if_neg (by omega),if_neg (by omega),if_neg (by omega),if_neg (by omega),if_neg (by omega),if_pos h]) <;> rfl
theorem qG8{ns:List TN}{root:Int}{fs:List Int}{n:Nat}{k:Int}{x:SC}{a:Nat}{m:TN}(hm:ns[k.toNat]? = some m)(h:m.k=7):cg ns root fs (n+1) k x a =
   (⟨(ck (cg ns root fs n) m.kids x a).s++[iT 5 m.t],(ck (cg ns root fs n) m.kids x a).x⟩:CO):=by
 (rw[dH hm,if_neg (by omega),if_neg (by omega),if_neg (by omega),if_neg (by omega),if_neg (by omega),if_neg (by omega),if_pos h]) <;> rfl
theorem nE{ns:List TN}{root:Int}{fs:List Int}{n:Nat}{k:Int}{x:SC}{a:Nat}{m:TN}(hm:ns[k.toNat]? = some m)(h:m.k=8∨m.k=9):cg ns root fs (n+1) k x a =
   ((match m.kids with
    | [p,q]=>⟨(cg ns root fs n p x a).s++iN m.k ((a+(cg ns root fs n p x a).s.length+1+(cg ns root fs n q (cg ns root fs n p x a).x (a+(cg ns root fs n p x a).s.length+1)).s.length:Nat):Int)::(cg ns root fs n q (cg ns root fs n p x a).x (a+(cg ns root fs n p x a).s.length+1)).s,(cg ns root fs n q (cg ns root fs n p x a).x (a+(cg ns root fs n p x a).s.length+1)).x⟩
    | _=>⟨[],x⟩):CO):=by
 (rw[dH hm,if_neg (by omega),if_neg (by omega),if_neg (by omega),if_neg (by omega),if_neg (by omega),if_neg (by omega),if_neg (by omega),if_pos h]) <;> rfl
theorem qCV{ns:List TN}{root:Int}{fs:List Int}{n:Nat}{k:Int}{x:SC}{a:Nat}{m:TN}(hm:ns[k.toNat]? = some m)(h:m.k=10):cg ns root fs (n+1) k x a =
   (⟨(ck (cg ns root fs n) m.kids x a).s++tT ns root fs m.t m.kids.length,(ck (cg ns root fs n) m.kids x a).x⟩:CO):=by
 (rw[dH hm,if_neg (by omega),if_neg (by omega),if_neg (by omega),if_neg (by omega),if_neg (by omega),if_neg (by omega),if_neg (by omega),if_neg (by omega),if_pos h]) <;> rfl
theorem qCA{ns:List TN}{root:Int}{fs:List Int}{n:Nat}{k:Int}{x:SC}{a:Nat}{m:TN}(hm:ns[k.toNat]? = some m)(h:m.k=11):cg ns root fs (n+1) k x a =
   (⟨(ck (cg ns root fs n) m.kids x a).s++[iN 3 (vA (qQ m.t k (ck (cg ns root fs n) m.kids x a).x).nm m.t)],qQ m.t k (ck (cg ns root fs n) m.kids x a).x⟩:CO):=by
 (rw[dH hm,if_neg (by omega),if_neg (by omega),if_neg (by omega),if_neg (by omega),if_neg (by omega),if_neg (by omega),if_neg (by omega),if_neg (by omega),if_neg (by omega),if_pos h]) <;> rfl
theorem qBQ{ns:List TN}{root:Int}{fs:List Int}{n:Nat}{k:Int}{x:SC}{a:Nat}{m:TN}(hm:ns[k.toNat]? = some m)(h:m.k=12):cg ns root fs (n+1) k x a =
   (⟨(ck (cg ns root fs n) m.kids x a).s++[iN 3 (vA (ck (cg ns root fs n) m.kids x a).x.nm m.t)],(ck (cg ns root fs n) m.kids x a).x⟩:CO):=by
 (rw[dH hm,if_neg (by omega),if_neg (by omega),if_neg (by omega),if_neg (by omega),if_neg (by omega),if_neg (by omega),if_neg (by omega),if_neg (by omega),if_neg (by omega),if_neg (by omega),if_pos h]) <;> rfl
theorem qCI{ns:List TN}{root:Int}{fs:List Int}{n:Nat}{k:Int}{x:SC}{a:Nat}{m:TN}(hm:ns[k.toNat]? = some m)(h:m.k=15):cg ns root fs (n+1) k x a =
   (⟨(ck (cg ns root fs n) m.kids x a).s++[iN 12 0],(ck (cg ns root fs n) m.kids x a).x⟩:CO):=by
 (rw[dH hm,if_neg (by omega),if_neg (by omega),if_neg (by omega),if_neg (by omega),if_neg (by omega),if_neg (by omega),if_neg (by omega),if_neg (by omega),if_neg (by omega),if_neg (by omega),if_neg (by omega),if_pos h]) <;> rfl
theorem qCa{ns:List TN}{root:Int}{fs:List Int}{n:Nat}{k:Int}{x:SC}{a:Nat}{m:TN}(hm:ns[k.toNat]? = some m)(h:m.k=16):cg ns root fs (n+1) k x a =
   (⟨(ck (cg ns root fs n) m.kids x a).s++[iN 13 0],(ck (cg ns root fs n) m.kids x a).x⟩:CO):=by
 (rw[dH hm,if_neg (by omega),if_neg (by omega),if_neg (by omega),if_neg (by omega),if_neg (by omega),if_neg (by omega),if_neg (by omega),if_neg (by omega),if_neg (by omega),if_neg (by omega),if_neg (by omega),if_neg (by omega),if_pos h]) <;> rfl
theorem qCM{ns:List TN}{root:Int}{fs:List Int}{n:Nat}{k:Int}{x:SC}{a:Nat}{m:TN}(hm:ns[k.toNat]? = some m)(h:m.k=19):cg ns root fs (n+1) k x a =
   (⟨(ck (cg ns root fs n) m.kids x a).s++[iN 16 0],(ck (cg ns root fs n) m.kids x a).x⟩:CO):=by
 (rw[dH hm,if_neg (by omega),if_neg (by omega),if_neg (by omega),if_neg (by omega),if_neg (by omega),if_neg (by omega),if_neg (by omega),if_neg (by omega),if_neg (by omega),if_neg (by omega),if_neg (by omega),if_neg (by omega),if_neg (by omega),if_pos h]) <;> rfl
theorem qCN{ns:List TN}{root:Int}{fs:List Int}{n:Nat}{k:Int}{x:SC}{a:Nat}{m:TN}(hm:ns[k.toNat]? = some m)(h:m.k=18):cg ns root fs (n+1) k x a =
   (⟨(ck (cg ns root fs n) m.kids (jG x) a).s,k4 x (ck (cg ns root fs n) m.kids (jG x) a).x⟩:CO):=by
 (rw[dH hm,if_neg (by omega),if_neg (by omega),if_neg (by omega),if_neg (by omega),if_neg (by omega),if_neg (by omega),if_neg (by omega),if_neg (by omega),if_neg (by omega),if_neg (by omega),if_neg (by omega),if_neg (by omega),if_neg (by omega),if_neg (by omega),if_pos h]) <;> rfl
theorem qCS{ns:List TN}{root:Int}{fs:List Int}{n:Nat}{k:Int}{x:SC}{a:Nat}{m:TN}(hm:ns[k.toNat]? = some m)(h:m.k=13):cg ns root fs (n+1) k x a =
   ((match m.kids with
    | [c,p]=>
     (fun (o1:CO)=>(fun (o2:CO)=>(⟨o1.s++iN 7 ((a+o1.s.length+1+o2.s.length:Nat):Int)::o2.s,o2.x⟩:CO)) (cg ns root fs n p o1.x (a+o1.s.length+1))) (cg ns root fs n c x a)
    | [c,p,q]=>
     (fun (o1:CO)=>(fun (o2:CO)=>(fun (o3:CO)=>(⟨o1.s++iN 7 ((a+o1.s.length+1+o2.s.length+1:Nat):Int)::(o2.s++iN 6 ((a+o1.s.length+1+o2.s.length+1+o3.s.length:Nat):Int)::o3.s),o3.x⟩:CO)) (cg ns root fs n q o2.x (a+o1.s.length+1+o2.s.length+1))) (cg ns root fs n p o1.x (a+o1.s.length+1))) (cg ns root fs n c x a)
    | _=>⟨[],x⟩):CO):=by
 (rw[dH hm,if_neg (by omega),if_neg (by omega),if_neg (by omega),if_neg (by omega),if_neg (by omega),if_neg (by omega),if_neg (by omega),if_neg (by omega),if_neg (by omega),if_neg (by omega),if_neg (by omega),if_neg (by omega),if_neg (by omega),if_neg (by omega),if_neg (by omega),if_pos h]) <;> rfl
theorem qCR{ns:List TN}{root:Int}{fs:List Int}{n:Nat}{k:Int}{x:SC}{a:Nat}{m:TN}(hm:ns[k.toNat]? = some m)(h:m.k=14):cg ns root fs (n+1) k x a =
   ((match m.kids with
    | [c,p]=>
     (fun (o1:CO)=>(fun (o2:CO)=>(⟨o1.s++iN 7 ((a+o1.s.length+1+o2.s.length+1:Nat):Int)::(o2.s++[iN 6 (a:Int)]),o2.x⟩:CO)) (cg ns root fs n p o1.x (a+o1.s.length+1))) (cg ns root fs n c x a)
    | _=>⟨[],x⟩):CO):=by
 (rw[dH hm,if_neg (by omega),if_neg (by omega),if_neg (by omega),if_neg (by omega),if_neg (by omega),if_neg (by omega),if_neg (by omega),if_neg (by omega),if_neg (by omega),if_neg (by omega),if_neg (by omega),if_neg (by omega),if_neg (by omega),if_neg (by omega),if_neg (by omega),if_neg (by omega),if_pos h]) <;> rfl
theorem qCk{ns:List TN}{root:Int}{fs:List Int}{n:Nat}{k:Int}{x:SC}{a:Nat}{m:TN}(hm:ns[k.toNat]? = some m)(h:m.k=17):cg ns root fs (n+1) k x a =
   ((match m.kids with
    | [p,q]=>
     (fun (o1:CO)=>(fun (o2:CO)=>(⟨iN 14 ((a+1+o1.s.length+2:Nat):Int)::(o1.s++iN 15 0::iN 6 ((a+1+o1.s.length+2+o2.s.length:Nat):Int)::o2.s),o2.x⟩:CO)) (qA3 (cg ns root fs n) q (gF ns q) m.t o1.x (a+1+o1.s.length+2))) (cg ns root fs n p x (a+1))
    | _=>⟨[],x⟩):CO):=by
 (rw[dH hm,if_neg (by omega),if_neg (by omega),if_neg (by omega),if_neg (by omega),if_neg (by omega),if_neg (by omega),if_neg (by omega),if_neg (by omega),if_neg (by omega),if_neg (by omega),if_neg (by omega),if_neg (by omega),if_neg (by omega),if_neg (by omega),if_neg (by omega),if_neg (by omega),if_neg (by omega),if_pos h]) <;> rfl
theorem eV{ns:List TN}{root:Int}{fs:List Int}{n:Nat}{k:Int}{x:SC}{a:Nat}{m:TN}(hm:ns[k.toNat]? = some m)(h:m.k≠1∧m.k≠2∧m.k≠3∧m.k≠4∧m.k≠5∧m.k≠6∧m.k≠7∧m.k≠8∧m.k≠9∧m.k≠10∧m.k≠11∧m.k≠12∧m.k≠15∧m.k≠16∧m.k≠19∧m.k≠18∧m.k≠13∧m.k≠14∧m.k≠17):cg ns root fs (n+1) k x a=⟨[],x⟩:=by
 rw[dH hm,if_neg (by omega),if_neg (by omega),if_neg (by omega),if_neg (by omega),if_neg (by omega),if_neg (by omega),if_neg (by omega),if_neg (by omega),if_neg (by omega),if_neg (by omega),if_neg (by omega),if_neg (by omega),if_neg (by omega),if_neg (by omega),if_neg (by omega),if_neg (by omega),if_neg (by omega),if_neg (by omega)]
theorem qD4{x y:SC}(h:x.nm <+: y.nm):xA x (k4 x y):=by rw[fZ h];exact⟨rfl,List.prefix_refl _⟩
theorem qKs{x y:SC}(h:x.nm <+: y.nm):(k4 x y).nm=x.nm:=by rw[fZ h]
theorem qGJ{ns:List TN}{n:Nat}{g:Int→SC→Nat→CO}(hg:eF ns n g)(k:Int)(kids:List Int)(t:ByteArray)(x:SC)(a:Nat):x.nm <+: (ck g kids (jG (qQ t k (jG x))) (a+1)).x.nm:=by
 have h1:=(xA.bring t k (jG x)).2
 have h2:=(gK hg kids (jG (qQ t k (jG x))) (a+1)).2
 exact List.IsPrefix.trans (l₂:=(qQ t k (jG x)).nm) h1 h2
theorem rA{ns:List TN}{p q:Int}{lo k:Nat}(h:y7 ns [p,q] lo k):∃ mp mq:Nat,p=(mp:Int)∧q=(mq:Int)∧y7 ns [(mp:Int)] lo (mp+1)∧y7 ns [(mq:Int)] (mp+1) (mq+1)∧lo≤mp∧mp+1≤mq∧mq+1=k:=by
 obtain⟨mp,_,rfl,_,_,_,h1,h2,h3,_⟩:=h.head
 obtain⟨mq,_,rfl,_,_,_,h4,h5,h6,_⟩:=h2.head
 refine⟨mp,mq,rfl,rfl,h1,h4,h3,h6,?_⟩
 cases h5
 rfl
theorem qNx{ns:List TN}{p q r:Int}{lo k:Nat}(h:y7 ns [p,q,r] lo k):∃ mp mq mr:Nat,p=(mp:Int)∧q=(mq:Int)∧r=(mr:Int)∧y7 ns [(mp:Int)] lo (mp+1)∧y7 ns [(mq:Int)] (mp+1) (mq+1)∧y7 ns [(mr:Int)] (mq+1) (mr+1)∧lo≤mp∧mp+1≤mq∧mq+1≤mr∧mr+1=k:=by
 obtain⟨mp,_,rfl,_,_,_,h1,h2,h3,_⟩:=h.head
 obtain⟨mq,mr,rfl,rfl,h4,h5,h6,h7,h8⟩:=rA h2
 exact⟨mp,mq,mr,rfl,rfl,rfl,h1,h4,h5,h3,h6,h7,h8⟩
theorem qMY{ns:List TN}{root:Int}{fs:List Int}{n:Nat}{k:Int}{x:SC}{a:Nat}{m:TN}(hg:eF ns n (cg ns root fs n))(hm:ns[k.toNat]? = some m):xA x (cg ns root fs (n+1) k x a).x:=by
 by_cases h1:m.k=1
 ·rw[qGi hm h1]
  exact xA.refl x
 by_cases h2:m.k=2
 ·rw[qGF hm h2]
  exact xA.refl x
 by_cases h3:m.k=3
 ·rw[qGu hm h3]
  exact xA.refl x
 by_cases h4:m.k=4
 ·rw[qF6 hm h4]
  exact xA.refl x
 by_cases h5:m.k=5
 ·rw[qGQ hm h5]
  exact xA.refl x
 by_cases h6:m.k=6
 ·rw[qGI hm h6]
  exact gK hg _ _ _
 by_cases h7:m.k=7
 ·rw[qG8 hm h7]
  exact gK hg _ _ _
 by_cases h8:m.k=8∨m.k=9
 ·rw[nE hm h8]
  split
  ·exact(hg.grew _ _ _).trans (hg.grew _ _ _)
  ·exact xA.refl x
 by_cases wS:m.k=10
 ·rw[qCV hm wS]
  exact gK hg _ _ _
 by_cases sT:m.k=11
 ·rw[qCA hm sT]
  exact(gK hg _ _ _).trans (xA.bring _ _ _)
 by_cases sN:m.k=12
 ·rw[qBQ hm sN]
  exact gK hg _ _ _
 by_cases nR:m.k=15
 ·rw[qCI hm nR]
  exact gK hg _ _ _
 by_cases eE:m.k=16
 ·rw[qCa hm eE]
  exact gK hg _ _ _
 by_cases oC:m.k=19
 ·rw[qCM hm oC]
  exact gK hg _ _ _
 by_cases bH:m.k=18
 ·rw[qCN hm bH]
  exact qD4 (gK hg _ (jG x) _).2
 by_cases oH:m.k=13
 ·rw[qCS hm oH]
  split
  ·exact(hg.grew _ _ _).trans (hg.grew _ _ _)
  ·exact((hg.grew _ _ _).trans (hg.grew _ _ _)).trans (hg.grew _ _ _)
  ·exact xA.refl x
 by_cases oJ:m.k=14
 ·rw[qCR hm oJ]
  split
  ·exact(hg.grew _ _ _).trans (hg.grew _ _ _)
  ·exact xA.refl x
 by_cases bI:m.k=17
 ·rw[qCk hm bI]
  split
  ·exact(hg.grew _ _ _).trans (qD4 (qGJ hg _ _ _ _ _))
  ·exact xA.refl x
 rw[eV hm (by omega)]
 exact xA.refl x
theorem qPQ{ns:List TN}{root:Int}{fs:List Int}{n:Nat}(hg:eF ns n (cg ns root fs n))(k:Int)(x:SC)(a:Nat):xA x (cg ns root fs (n+1) k x a).x:=by
 cases hm:ns[k.toNat]? with
 | none=>
  have:cg ns root fs (n+1) k x a=⟨[],x⟩:=by
   show(match ns[k.toNat]? with | none=>(⟨[],x⟩:CO) | some m=>_)=_
   rw[hm]
  rw[this];exact xA.refl x
 | some m=>exact qMY hg hm
theorem qRX{ns:List TN}{root:Int}{fs:List Int}{n:Nat}(hg:eF ns n (cg ns root fs n))(k lo:Nat)(x:SC)(a:Nat)(hk:k<n+1)(hs:y7 ns [(k:Int)] lo (k+1)):(cg ns root fs (n+1) k x a).x.nm.length≤x.nm.length+(k+1-lo):=by
 obtain⟨qX,m,e,hm,_,dA,_,_,hlo,_⟩:=hs.head
 obtain rfl:qX=k:=by omega
 have xC:ns[((qX:Nat):Int).toNat]? = some m:=by rw[Int.toNat_natCast];exact hm
 have hc:=fun y b=>qIG hg m.kids lo qX y b dA (by omega)
 by_cases h1:m.k=1
 ·rw[qGi xC h1]
  exact Nat.le_add_right _ _
 by_cases h2:m.k=2
 ·rw[qGF xC h2]
  exact Nat.le_add_right _ _
 by_cases h3:m.k=3
 ·rw[qGu xC h3]
  exact Nat.le_add_right _ _
 by_cases h4:m.k=4
 ·rw[qF6 xC h4]
  exact Nat.le_add_right _ _
 by_cases h5:m.k=5
 ·rw[qGQ xC h5]
  exact Nat.le_add_right _ _
 by_cases h6:m.k=6
 ·rw[qGI xC h6]
  have:=hc x a
  show(ck _ _ _ _).x.nm.length≤_
  omega
 by_cases h7:m.k=7
 ·rw[qG8 xC h7]
  have:=hc x a
  show(ck _ _ _ _).x.nm.length≤_
  omega
 by_cases h8:m.k=8∨m.k=9
 ·rw[nE xC h8]
  split
  ·rename_i p q a8
   rw[a8]at dA
   obtain⟨mp,mq,rfl,rfl,s1,s2,g1,g2,g3⟩:=rA dA
   have p1:=hg.len mp lo x a (by omega) s1
   have p2:=hg.len mq (mp+1) (cg ns root fs n mp x a).x (a+(cg ns root fs n mp x a).s.length+1) (by omega) s2
   show(cg ns root fs n mq _ _).x.nm.length≤_
   omega
  ·exact Nat.le_add_right _ _
 by_cases wS:m.k=10
 ·rw[qCV xC wS]
  have:=hc x a
  show(ck _ _ _ _).x.nm.length≤_
  omega
 by_cases sT:m.k=11
 ·rw[qCA xC sT]
  show(qQ _ _ _).nm.length≤_
  rw[vI,List.length_append,List.length_singleton]
  have:=hc x a
  omega
 by_cases sN:m.k=12
 ·rw[qBQ xC sN]
  have:=hc x a
  show(ck _ _ _ _).x.nm.length≤_
  omega
 by_cases nR:m.k=15
 ·rw[qCI xC nR]
  have:=hc x a
  show(ck _ _ _ _).x.nm.length≤_
  omega
 by_cases eE:m.k=16
 ·rw[qCa xC eE]
  have:=hc x a
  show(ck _ _ _ _).x.nm.length≤_
  omega
 by_cases oC:m.k=19
 ·rw[qCM xC oC]
  have:=hc x a
  show(ck _ _ _ _).x.nm.length≤_
  omega
 by_cases bH:m.k=18
 ·rw[qCN xC bH]
  show(k4 _ _).nm.length≤_
  rw[qKs (x:=x) (gK hg _ (jG x) _).2]
  omega
 by_cases oH:m.k=13
 ·rw[qCS xC oH]
  split
  ·rename_i p q a8
   rw[a8]at dA
   obtain⟨mp,mq,rfl,rfl,s1,s2,g1,g2,g3⟩:=rA dA
   have p1:=hg.len mp lo x a (by omega) s1
   have p2:=hg.len mq (mp+1) (cg ns root fs n mp x a).x (a+(cg ns root fs n mp x a).s.length+1) (by omega) s2
   show(cg ns root fs n mq _ _).x.nm.length≤_
   omega
  ·rename_i p q s a8
   rw[a8]at dA
   obtain⟨mp,mq,mr,rfl,rfl,rfl,s1,s2,s3,g1,g2,g3,g4⟩:=qNx dA
   have p1:=hg.len mp lo x a (by omega) s1
   have p2:=hg.len mq (mp+1) (cg ns root fs n mp x a).x (a+(cg ns root fs n mp x a).s.length+1) (by omega) s2
   have p3:=hg.len mr (mq+1) (cg ns root fs n mq (cg ns root fs n mp x a).x (a+(cg ns root fs n mp x a).s.length+1)).x (a+(cg ns root fs n mp x a).s.length+1+(cg ns root fs n mq (cg ns root fs n mp x a).x (a+(cg ns root fs n mp x a).s.length+1)).s.length+1) (by omega) s3
   show(cg ns root fs n mr _ _).x.nm.length≤_
   omega
  ·exact Nat.le_add_right _ _
 by_cases oJ:m.k=14
 ·rw[qCR xC oJ]
  split
  ·rename_i p q a8
   rw[a8]at dA
   obtain⟨mp,mq,rfl,rfl,s1,s2,g1,g2,g3⟩:=rA dA
   have p1:=hg.len mp lo x a (by omega) s1
   have p2:=hg.len mq (mp+1) (cg ns root fs n mp x a).x (a+(cg ns root fs n mp x a).s.length+1) (by omega) s2
   show(cg ns root fs n mq _ _).x.nm.length≤_
   omega
  ·exact Nat.le_add_right _ _
 by_cases bI:m.k=17
 ·rw[qCk xC bI]
  split
  ·rename_i p q a8
   rw[a8]at dA
   obtain⟨mp,mq,rfl,rfl,s1,s2,g1,g2,g3⟩:=rA dA
   have p3:=hg.len mp lo x (a+1) (by omega) s1
   show(k4 _ _).nm.length≤_
   rw[qKs (qGJ hg _ _ _ _ _)]
   omega
  ·exact Nat.le_add_right _ _
 rw[eV xC (by omega)]
 exact Nat.le_add_right _ _
theorem qR6{ns:List TN}{root:Int}{fs:List Int}{n:Nat}(hf:fs.length≤200)(hg:eF ns n (cg ns root fs n))(k lo:Nat)(x:SC)(a:Nat)(hk:k<n+1)(hs:y7 ns [(k:Int)] lo (k+1)):(cg ns root fs (n+1) k x a).s.length≤204*(k+1-lo):=by
 obtain⟨qX,m,e,hm,_,dA,_,_,hlo,_⟩:=hs.head
 obtain rfl:qX=k:=by omega
 have xC:ns[((qX:Nat):Int).toNat]? = some m:=by rw[Int.toNat_natCast];exact hm
 have hc:=fun y b=>oN hg m.kids lo qX y b dA (by omega)
 by_cases h1:m.k=1
 ·rw[qGi xC h1]
  show 1≤_
  omega
 by_cases h2:m.k=2
 ·rw[qGF xC h2]
  show 1≤_
  omega
 by_cases h3:m.k=3
 ·rw[qGu xC h3]
  show 1≤_
  omega
 by_cases h4:m.k=4
 ·rw[qF6 xC h4]
  show 1≤_
  omega
 by_cases h5:m.k=5
 ·rw[qGQ xC h5]
  show 1≤_
  omega
 by_cases h6:m.k=6
 ·rw[qGI xC h6]
  have:=hc x a
  show((ck _ _ _ _).s++[_]).length≤_
  rw[List.length_append,List.length_singleton]
  omega
 by_cases h7:m.k=7
 ·rw[qG8 xC h7]
  have:=hc x a
  show((ck _ _ _ _).s++[_]).length≤_
  rw[List.length_append,List.length_singleton]
  omega
 by_cases h8:m.k=8∨m.k=9
 ·rw[nE xC h8]
  split
  ·rename_i p q a8
   rw[a8]at dA
   obtain⟨mp,mq,rfl,rfl,s1,s2,g1,g2,g3⟩:=rA dA
   have p1:=hg.ins mp lo x a (by omega) s1
   have p2:=hg.ins mq (mp+1) (cg ns root fs n mp x a).x (a+(cg ns root fs n mp x a).s.length+1) (by omega) s2
   simp only[List.length_cons,List.length_append,List.length_nil]
   omega
  ·exact Nat.zero_le _
 by_cases wS:m.k=10
 ·rw[qCV xC wS]
  have:=hc x a
  have hci:=qL5 ns root fs m.t m.kids.length hf
  show((ck _ _ _ _).s++tT _ _ _ _ _).length≤_
  rw[List.length_append]
  omega
 by_cases sT:m.k=11
 ·rw[qCA xC sT]
  have:=hc x a
  show((ck _ _ _ _).s++[_]).length≤_
  rw[List.length_append,List.length_singleton]
  omega
 by_cases sN:m.k=12
 ·rw[qBQ xC sN]
  have:=hc x a
  show((ck _ _ _ _).s++[_]).length≤_
  rw[List.length_append,List.length_singleton]
  omega
 by_cases nR:m.k=15
 ·rw[qCI xC nR]
  have:=hc x a
  show((ck _ _ _ _).s++[_]).length≤_
  rw[List.length_append,List.length_singleton]
  omega
 by_cases eE:m.k=16
 ·rw[qCa xC eE]
  have:=hc x a
  show((ck _ _ _ _).s++[_]).length≤_
  rw[List.length_append,List.length_singleton]
  omega
 by_cases oC:m.k=19
 ·rw[qCM xC oC]
  have:=hc x a
  show((ck _ _ _ _).s++[_]).length≤_
  rw[List.length_append,List.length_singleton]
  omega
 by_cases bH:m.k=18
 ·rw[qCN xC bH]
  have:=hc (jG x) a
  show(ck _ _ _ _).s.length≤_
  omega
 by_cases oH:m.k=13
 ·rw[qCS xC oH]
  split
  ·rename_i p q a8
   rw[a8]at dA
   obtain⟨mp,mq,rfl,rfl,s1,s2,g1,g2,g3⟩:=rA dA
   have p1:=hg.ins mp lo x a (by omega) s1
   have p2:=hg.ins mq (mp+1) (cg ns root fs n mp x a).x (a+(cg ns root fs n mp x a).s.length+1) (by omega) s2
   simp only[List.length_cons,List.length_append,List.length_nil]
   omega
  ·rename_i p q s a8
   rw[a8]at dA
   obtain⟨mp,mq,mr,rfl,rfl,rfl,s1,s2,s3,g1,g2,g3,g4⟩:=qNx dA
   have p1:=hg.ins mp lo x a (by omega) s1
   have p2:=hg.ins mq (mp+1) (cg ns root fs n mp x a).x (a+(cg ns root fs n mp x a).s.length+1) (by omega) s2
   have p3:=hg.ins mr (mq+1) (cg ns root fs n mq (cg ns root fs n mp x a).x (a+(cg ns root fs n mp x a).s.length+1)).x (a+(cg ns root fs n mp x a).s.length+1+(cg ns root fs n mq (cg ns root fs n mp x a).x (a+(cg ns root fs n mp x a).s.length+1)).s.length+1) (by omega) s3
   simp only[List.length_cons,List.length_append]
   omega
  ·exact Nat.zero_le _
 by_cases oJ:m.k=14
 ·rw[qCR xC oJ]
  split
  ·rename_i p q a8
   rw[a8]at dA
   obtain⟨mp,mq,rfl,rfl,s1,s2,g1,g2,g3⟩:=rA dA
   have p1:=hg.ins mp lo x a (by omega) s1
   have p2:=hg.ins mq (mp+1) (cg ns root fs n mp x a).x (a+(cg ns root fs n mp x a).s.length+1) (by omega) s2
   simp only[List.length_cons,List.length_append,List.length_nil]
   omega
  ·exact Nat.zero_le _
 by_cases bI:m.k=17
 ·rw[qCk xC bI]
  split
  ·rename_i p q a8
   rw[a8]at dA
   obtain⟨mp,mq,rfl,rfl,s1,s2,g1,g2,g3⟩:=rA dA
   have p1:=hg.ins mp lo x (a+1) (by omega) s1
   obtain⟨m2,xq,eq2,hq,_,hqk,_,_,hql,_⟩:=s2.head
   obtain rfl:m2=mq:=by omega
   have p2:=oN hg (gF ns (m2:Int)) (mp+1) m2 (jG (qQ m.t (m2:Int) (jG (cg ns root fs n mp x (a+1)).x))) (a+1+(cg ns root fs n mp x (a+1)).s.length+2+1) (by rw[show gF ns (m2:Int)=xq.kids by unfold gF;rw[Int.toNat_natCast,hq];rfl];exact hqk) (by omega)
   simp only[qA3,List.length_cons,List.length_append]
   omega
  ·exact Nat.zero_le _
 rw[eV xC (by omega)]
 exact Nat.zero_le _
theorem xX{ns:List TN}{root:Int}{fs:List Int}(hf:fs.length≤200):∀ n,eF ns n (cg ns root fs n)
 | 0=>⟨fun k x a=>xA.refl x,fun k lo x a hk _=>absurd hk (Nat.not_lt_zero _),fun k lo x a hk _=>absurd hk (Nat.not_lt_zero _)⟩
 | n+1=>⟨fun k x a=>qPQ (xX hf n) k x a,fun k lo x a hk hs=>qRX (xX hf n) k lo x a hk hs,fun k lo x a hk hs=>qR6 hf (xX hf n) k lo x a hk hs⟩
structure LI where
 i:IR
 h:Nat
 t:Nat
def LI.lab(x:LI):Nat×Nat:=(x.h,x.t)
def mM(i:IR):Nat:=
 if i.op=10 then i.m.toNat else if i.op=11 then i.n.toNat else if i.op=5 then 2
 else if i.op=3∨i.op=4∨i.op=7∨i.op=8∨i.op=9∨i.op=12∨i.op=13∨i.op=16 then 1 else 0
def sD(i:IR):Nat:=if i.op=1∨i.op=2∨i.op=4∨i.op=5∨i.op=10∨i.op=11 then 1 else 0
def yR(i:IR)(p h t:Nat):List (Nat×Nat×Nat):=
 if i.op=12∨i.op=13 then []
 else if i.op=6 then [(i.n.toNat,h,t)]
 else if i.op=7 then [(p+1,h-1,t),(i.n.toNat,h-1,t)]
 else if i.op=8∨i.op=9 then [(p+1,h-1,t),(i.n.toNat,h,t)]
 else if i.op=14 then [(p+1,h,t+1),(i.n.toNat,h+1,t)]
 else if i.op=15 then [(p+1,h,t-1)]
 else [(p+1,h-mM i+sD i,t)]
def stL(c:List LI)(e:Nat×Nat):Nat×Nat:=match c with | []=>e | x::_=>x.lab
theorem tK(c d:List LI)(e:Nat×Nat):stL (c++d) e=stL c (stL d e):=by cases c <;> rfl
def Lk(c:List LI)(a:Nat)(e:Nat×Nat)(q:Nat)(l:Nat×Nat):Prop:=∃ p r,c=p++r∧q=a+p.length∧stL r e=l
theorem Lk.at{c p r:List LI}{a:Nat}{e l:Nat×Nat}(hc:c=p++r)(h:stL r e=l):Lk c a e (a+p.length) l:=⟨p,r,hc,rfl,h⟩
def OkI(c:List LI)(a:Nat)(e:Nat×Nat)(x:LI)(p:Nat):Prop:=mM x.i≤x.h∧(x.i.op=15→1≤x.t)∧∀ y∈yR x.i p x.h x.t,Lk c a e y.1 y.2
def kX(c:List LI)(a:Nat)(e:Nat×Nat)(s:List LI)(b:Nat):Prop:=∀ i x,s[i]? = some x→OkI c a e x (b+i)
theorem kX.nil{c:List LI}{a:Nat}{e:Nat×Nat}{b:Nat}:kX c a e [] b:=fun i x h=>by simp at h
theorem kX.cons{c:List LI}{a:Nat}{e:Nat×Nat}{x:LI}{s:List LI}{b:Nat}(h:OkI c a e x b)(k:kX c a e s (b+1)):kX c a e (x::s) b:=fun i y hy=>by
 match i with
 | 0=>rw[List.getElem?_cons_zero]at hy;injection hy with hy;subst hy;exact h
 | i+1=>rw[List.getElem?_cons_succ]at hy;have:=k i y hy;rw[show b+1+i=b+(i+1) by omega]at this;exact this
theorem kX.app{c:List LI}{a:Nat}{e:Nat×Nat}{s s':List LI}{b:Nat}(h:kX c a e s b)(k:kX c a e s' (b+s.length)):kX c a e (s++s') b:=fun i y hy=>by
 by_cases hi:i<s.length
 ·rw[List.getElem?_append_left hi]at hy;exact h i y hy
 ·rw[List.getElem?_append_right (by omega)]at hy
  have:=k (i-s.length) y hy
  rw[show b+s.length+(i-s.length)=b+i by omega]at this
  exact this
theorem kX.put{c l s r:List LI}{a b:Nat}{e e':Nat×Nat}(h:kX s b e' s b)(hc:c=l++(s++r))(hb:b=a+l.length)(hr:stL r e=e'):kX c a e s b:=fun i x hx=>by
 obtain⟨h1,h2,h3⟩:=h i x hx
 refine⟨h1,h2,fun y hy=>?_⟩
 obtain⟨p,r',hs,hq',hl⟩:=h3 y hy
 refine⟨l++p,r'++r,by rw[hc,hs];simp,by rw[List.length_append];omega,?_⟩
 rw[tK,hr,hl]
def fP(S:Nat)(Q:List Nat)(i:IR):Prop:=
 (i.op=1∧i.n=0∧i.m=0∧i.t=e0∧((i.vk=0∧i.vn=0∧i.vt=e0)∨(i.vk=1∧0≤i.vn∧i.vn≤2147483647∧i.vt=e0)∨(i.vk=2∧(i.vn=0∨i.vn=1)∧i.vt=e0)∨(i.vk=3∧i.vn=0∧kB i.vt.data.toList=true)))
 ∨((i.op=2∨i.op=3)∧i=iN i.op i.n∧0≤i.n∧i.n<(S:Int))
 ∨(i.op=4∧i=iT 4 i.t∧(i.t.data.toList=[33]∨i.t.data.toList=[45]))
 ∨(i.op=5∧i=iT 5 i.t∧opB i.t.data.toList=true)
 ∨((i.op=6∨i.op=7∨i.op=8∨i.op=9∨i.op=14)∧i=iN i.op i.n∧0≤i.n)
 ∨(i.op=10∧i=⟨10,i.n,i.m,e0,0,0,e0⟩∧∃ j q:Nat,i.n=1+(j:Int)∧Q[j]? = some q∧i.m=(q:Int))
 ∨(i.op=11∧i=⟨11,i.n,0,i.t,0,0,e0⟩∧0≤i.n∧xF i.t=i.n)
 ∨((i.op=12∨i.op=13∨i.op=15∨i.op=16)∧i=iN i.op 0)
theorem fP.mono{S S':Nat}{Q:List Nat}{i:IR}(h:fP S Q i)(hS:S≤S'):fP S' Q i:=by
 rcases h with h | h | h
 ·exact .inl h
 ·exact .inr (.inl ⟨h.1,h.2.1,h.2.2.1,by have:=h.2.2.2;omega⟩)
 ·exact .inr (.inr h)
structure Pc(S:Nat)(Q:List Nat)(c:List LI)(s:List IR)(a:Nat)(b e:Nat×Nat)(H T:Nat):Prop where
 eq:c.map LI.i=s
 ok:kX c a e c a
 st:stL c e=b
 bd:∀ x∈c,x.h≤H∧x.t≤T
 ins:∀ x∈c,fP S Q x.i
 nj:∀ x,c.head? = some x→x.i.op≠6
theorem Pc.len{S:Nat}{Q:List Nat}{c:List LI}{s:List IR}{a:Nat}{b e:Nat×Nat}{H T:Nat}(h:Pc S Q c s a b e H T):c.length=s.length:=by rw[←h.eq,List.length_map]
theorem Pc.mono{S:Nat}{Q:List Nat}{c:List LI}{s:List IR}{a:Nat}{b e:Nat×Nat}{H T S' H' T':Nat}(h:Pc S Q c s a b e H T)(hS:S≤S')(hH:H≤H')(hT:T≤T'):Pc S' Q c s a b e H' T':=
 ⟨h.eq,h.ok,h.st,fun x hx=>⟨Nat.le_trans (h.bd x hx).1 hH,Nat.le_trans (h.bd x hx).2 hT⟩,fun x hx=>(h.ins x hx).mono hS,h.nj⟩
theorem Pc.nil(S:Nat)(Q:List Nat)(a:Nat)(e:Nat×Nat)(H T:Nat):Pc S Q [] [] a e e H T:=
 ⟨rfl,kX.nil,rfl,fun x hx=>by simp at hx,fun x hx=>by simp at hx,fun x hx=>by simp at hx⟩
theorem qNt{c d:List LI}{P:LI→Prop}(hc:∀ x,c.head? = some x→P x)(hd:∀ x,d.head? = some x→P x):∀ x,(c++d).head? = some x→P x:=fun x hx=>by
 cases c with
 | nil=>exact hd x hx
 | cons y c=>exact hc x hx
theorem Pc.app{S:Nat}{Q:List Nat}{c d:List LI}{s r:List IR}{a:Nat}{b m e:Nat×Nat}{H T:Nat}(h:Pc S Q c s a b m H T)(k:Pc S Q d r (a+s.length) m e H T):Pc S Q (c++d) (s++r) a b e H T:=by
 have hl:=h.len
 refine⟨by rw[List.map_append,h.eq,k.eq],?_,by rw[tK,k.st,h.st],fun x hx=>?_,fun x hx=>?_,qNt h.nj k.nj⟩
 ·refine kX.app (kX.put (l:=[]) h.ok rfl (by simp) k.st) ?_
  rw[hl]
  exact kX.put (l:=c) (r:=[]) k.ok (by simp) (by rw[hl]) rfl
 ·rcases List.mem_append.1 hx with hx | hx
  ·exact h.bd x hx
  ·exact k.bd x hx
 ·rcases List.mem_append.1 hx with hx | hx
  ·exact h.ins x hx
  ·exact k.ins x hx
theorem Pc.one{S:Nat}{Q:List Nat}{i:IR}{a h t h' t':Nat}{H T:Nat}(hi:fP S Q i)(h6:i.op≠6)(cL:mM i≤h)(hd:i.op=15→1≤t)(hs:∀ p,yR i p h t=[(p+1,h',t')]∨yR i p h t=[])(hH:h≤H)(hT:t≤T):Pc S Q [⟨i,h,t⟩] [i] a (h,t) (h',t') H T:=by
 refine⟨rfl,kX.cons ⟨cL,hd,fun y hq=>?_⟩ kX.nil,rfl,fun x hx=>?_,fun x hx=>?_,fun x hx=>?_⟩
 ·have e:=hs a
  dsimp only at hq
  rcases e with e | e
  ·rw[e,List.mem_singleton]at hq
   subst hq
   exact Lk.at (p:=[⟨i,h,t⟩]) (r:=[]) rfl rfl
  ·rw[e]at hq
   simp at hq
 ·rw[List.mem_singleton]at hx;subst hx;exact⟨hH,hT⟩
 ·rw[List.mem_singleton]at hx;subst hx;exact hi
 ·simp at hx;subst hx;exact h6
theorem qGD{S:Nat}{Q:List Nat}{op n:Int}(h:op=6∨op=7∨op=8∨op=9∨op=14)(hn:0≤n):fP S Q (iN op n):=.inr (.inr (.inr (.inr (.inl ⟨h,rfl,hn⟩))))
theorem rT{c1 c2:List LI}{x:LI}{P:LI→Prop}(h1:∀ y∈c1,P y)(hx:P x)(h2:∀ y∈c2,P y):∀ y∈c1++x::c2,P y:=fun y hy=>by
 rcases List.mem_append.1 hy with hy | hy
 ·exact h1 y hy
 ·rcases List.mem_cons.1 hy with rfl | hy
  ·exact hx
  ·exact h2 y hy
theorem qBC{c r:List LI}{P:LI→Prop}(cB:c≠[])(hc:∀ x,c.head? = some x→P x):∀ x,(c++r).head? = some x→P x:=fun x hx=>by
 cases c with
 | nil=>exact absurd rfl cB
 | cons y c=>exact hc x hx
theorem eT{c:List LI}{a:Nat}{e:Nat×Nat}{l:List (Nat×Nat×Nat)}{y z:Nat×Nat×Nat}(hl:l=[y,z])(hy:Lk c a e y.1 y.2)(hz:Lk c a e z.1 z.2):∀ y∈l,Lk c a e y.1 y.2:=by
 subst hl
 intro w hw
 rcases List.mem_cons.1 hw with rfl | hw
 ·exact hy
 ·rw[List.mem_singleton]at hw;subst hw;exact hz
theorem qBz{c:List LI}{a:Nat}{e:Nat×Nat}{l:List (Nat×Nat×Nat)}{y:Nat×Nat×Nat}(hl:l=[y])(hy:Lk c a e y.1 y.2):∀ y∈l,Lk c a e y.1 y.2:=by
 subst hl
 intro w hw
 rw[List.mem_singleton]at hw;subst hw;exact hy
theorem Lk.next{c1 c2:List LI}{x:LI}{a:Nat}{e l:Nat×Nat}{q:Nat}(hq:q=a+c1.length+1)(h:stL c2 e=l):Lk (c1++x::c2) a e q l:=⟨c1++[x],c2,by simp,by rw[List.length_append];simp;omega,h⟩
theorem Lk.end{c:List LI}{a:Nat}{e:Nat×Nat}{q:Nat}(hq:q=a+c.length):Lk c a e q e:=⟨c,[],(List.append_nil _).symm,hq,rfl⟩
theorem Lk.begin{c:List LI}{a:Nat}{e l:Nat×Nat}(h:stL c e=l):Lk c a e a l:=⟨[],c,rfl,rfl,h⟩
theorem kX.last{c1 c2:List LI}{x:LI}{a b:Nat}{e:Nat×Nat}(h:kX c2 b e c2 b)(hb:b=a+c1.length+1):kX (c1++x::c2) a e c2 (a+c1.length+1):=by
 subst hb
 exact kX.put (l:=c1++[x]) (r:=[]) h (by simp) (by rw[List.length_append];simp;omega) rfl
theorem Pc.andOr{S:Nat}{Q:List Nat}{c1 c2:List LI}{s1 s2:List IR}{a h t H T z:Nat}{k:Int}(hk:k=8∨k=9)(h1:Pc S Q c1 s1 a (h,t) (h+1,t) H T)(h2:Pc S Q c2 s2 (a+s1.length+1) (h,t) (h+1,t) H T)(cB:c1≠[])(hH:h+1≤H)(hT:t≤T)(hz:z=a+s1.length+1+s2.length) :
  Pc S Q (c1++⟨iN k (z:Int),h+1,t⟩::c2) (s1++iN k (z:Int)::s2) a (h,t) (h+1,t) H T:=by
 have l1:=h1.len
 have l2:=h2.len
 refine⟨by rw[List.map_append,List.map_cons,h1.eq,h2.eq],?_,by rw[tK];exact h1.st,rT h1.bd ⟨hH,hT⟩ h2.bd,rT h1.ins (qGD (by omega) (by omega)) h2.ins,qBC cB h1.nj⟩
 refine kX.app (kX.put (l:=[]) h1.ok rfl (by simp) rfl) (kX.cons ⟨?_,?_,eT (y:=(a+c1.length+1,h,t)) (z:=(z,h+1,t)) ?_ (Lk.next rfl h2.st) (Lk.end (by rw[List.length_append,List.length_cons];omega))⟩ (kX.last h2.ok (by omega)))
 ·rcases hk with rfl | rfl <;> simp[mM,iN]
 ·rcases hk with rfl | rfl <;> simp[iN]
 ·rcases hk with rfl | rfl <;> simp[yR,iN]
theorem Pc.if2{S:Nat}{Q:List Nat}{c1 c2:List LI}{s1 s2:List IR}{a h t H T z:Nat}(h1:Pc S Q c1 s1 a (h,t) (h+1,t) H T)(h2:Pc S Q c2 s2 (a+s1.length+1) (h,t) (h,t) H T)(cB:c1≠[])(hH:h+1≤H)(hT:t≤T)(hz:z=a+s1.length+1+s2.length) :
  Pc S Q (c1++⟨iN 7 (z:Int),h+1,t⟩::c2) (s1++iN 7 (z:Int)::s2) a (h,t) (h,t) H T:=by
 have l1:=h1.len
 have l2:=h2.len
 refine⟨by rw[List.map_append,List.map_cons,h1.eq,h2.eq],?_,by rw[tK];exact h1.st,rT h1.bd ⟨hH,hT⟩ h2.bd,rT h1.ins (qGD (by omega) (by omega)) h2.ins,qBC cB h1.nj⟩
 exact kX.app (kX.put (l:=[]) h1.ok rfl (by simp) rfl) (kX.cons ⟨by simp[mM,iN],by simp[iN],eT (y:=(a+c1.length+1,h,t)) (z:=(z,h,t)) (by simp[yR,iN]) (Lk.next rfl h2.st) (Lk.end (by rw[List.length_append,List.length_cons];omega))⟩ (kX.last h2.ok (by omega)))
theorem Pc.if3{S:Nat}{Q:List Nat}{c1 c2 c3:List LI}{s1 s2 s3:List IR}{a h t H T y z:Nat}(h1:Pc S Q c1 s1 a (h,t) (h+1,t) H T)(h2:Pc S Q c2 s2 (a+s1.length+1) (h,t) (h,t) H T)(h3:Pc S Q c3 s3 (a+s1.length+1+s2.length+1) (h,t) (h,t) H T)(cB:c1≠[])(hH:h+1≤H)(hT:t≤T)(hy:y=a+s1.length+1+s2.length+1)(hz:z=a+s1.length+1+s2.length+1+s3.length) :
  Pc S Q (c1++⟨iN 7 (y:Int),h+1,t⟩::(c2++⟨iN 6 (z:Int),h,t⟩::c3)) (s1++iN 7 (y:Int)::(s2++iN 6 (z:Int)::s3)) a (h,t) (h,t) H T:=by
 have l1:=h1.len
 have l2:=h2.len
 have l3:=h3.len
 have e:c1++(⟨iN 7 (y:Int),h+1,t⟩:LI)::(c2++⟨iN 6 (z:Int),h,t⟩::c3)=(c1++⟨iN 7 (y:Int),h+1,t⟩::c2)++⟨iN 6 (z:Int),h,t⟩::c3:=by simp
 refine⟨by simp[h1.eq,h2.eq,h3.eq],?_,by rw[tK];exact h1.st,rT h1.bd ⟨hH,hT⟩ (rT h2.bd ⟨(show h≤H by omega),hT⟩ h3.bd),rT h1.ins (qGD (by omega) (by omega)) (rT h2.ins (qGD (by omega) (by omega)) h3.ins),qBC cB h1.nj⟩
 refine kX.app (kX.put (l:=[]) h1.ok rfl (by simp) rfl) (kX.cons ⟨by simp[mM,iN],by simp[iN],eT (y:=(a+c1.length+1,h,t)) (z:=(y,h,t)) (by simp[yR,iN]) (Lk.next rfl (by rw[tK];exact h2.st)) ?_⟩ (kX.app ?_ (kX.cons ⟨by simp[mM,iN],by simp[iN],qBz (y:=(z,h,t)) (by simp[yR,iN]) (Lk.end (by simp only[List.length_append,List.length_cons];omega))⟩ ?_)))
 ·rw[e]
  exact Lk.next (by simp only[List.length_append,List.length_cons];omega) h3.st
 ·exact kX.put (l:=c1++[⟨iN 7 (y:Int),h+1,t⟩]) (r:=⟨iN 6 (z:Int),h,t⟩::c3) (by rw[l1];exact h2.ok) (by simp) (by rw[List.length_append];simp;omega) rfl
 ·rw[e]
  have:=kX.last (c1:=c1++⟨iN 7 (y:Int),h+1,t⟩::c2) (x:=⟨iN 6 (z:Int),h,t⟩) (a:=a) h3.ok (by simp only[List.length_append,List.length_cons];omega)
  rw[show a+(c1++(⟨iN 7 (y:Int),h+1,t⟩:LI)::c2).length+1=a+c1.length+1+c2.length+1 by simp only[List.length_append,List.length_cons];omega]at this
  exact this
theorem Pc.while{S:Nat}{Q:List Nat}{c1 c2:List LI}{s1 s2:List IR}{a h t H T z:Nat}(h1:Pc S Q c1 s1 a (h,t) (h+1,t) H T)(h2:Pc S Q c2 s2 (a+s1.length+1) (h,t) (h,t) H T)(cB:c1≠[])(hH:h+1≤H)(hT:t≤T)(hz:z=a+s1.length+1+s2.length+1) :
  Pc S Q (c1++⟨iN 7 (z:Int),h+1,t⟩::(c2++[⟨iN 6 (a:Int),h,t⟩])) (s1++iN 7 (z:Int)::(s2++[iN 6 (a:Int)])) a (h,t) (h,t) H T:=by
 have l1:=h1.len
 have l2:=h2.len
 refine⟨by simp[h1.eq,h2.eq],?_,by rw[tK];exact h1.st,rT h1.bd ⟨hH,hT⟩ (rT h2.bd ⟨(show h≤H by omega),hT⟩ (fun y hy=>by simp at hy)),rT h1.ins (qGD (by omega) (by omega)) (rT h2.ins (qGD (by omega) (by omega)) (fun y hy=>by simp at hy)),qBC cB h1.nj⟩
 refine kX.app (kX.put (l:=[]) h1.ok rfl (by simp) rfl) (kX.cons ⟨by simp[mM,iN],by simp[iN],eT (y:=(a+c1.length+1,h,t)) (z:=(z,h,t)) (by simp[yR,iN]) (Lk.next rfl (by rw[tK];exact h2.st)) (Lk.end (by simp only[List.length_append,List.length_cons,List.length_nil];omega))⟩ (kX.app ?_ (kX.cons ⟨by simp[mM,iN],by simp[iN],qBz (y:=(a,h,t)) (by simp[yR,iN]) (Lk.begin (by rw[tK];exact h1.st))⟩ kX.nil)))
 exact kX.put (l:=c1++[⟨iN 7 (z:Int),h+1,t⟩]) (r:=[⟨iN 6 (a:Int),h,t⟩]) (by rw[l1];exact h2.ok) (by simp) (by rw[List.length_append];simp;omega) rfl
theorem Pc.try{S:Nat}{Q:List Nat}{c1 c2:List LI}{s1 s2:List IR}{a h t H T y z:Nat}(h1:Pc S Q c1 s1 (a+1) (h,t+1) (h,t+1) H T)(h2:Pc S Q c2 s2 (a+1+s1.length+2) (h+1,t) (h,t) H T)(hH:h+1≤H)(hT:t+1≤T)(hy:y=a+1+s1.length+2)(hz:z=a+1+s1.length+2+s2.length) :
  Pc S Q (⟨iN 14 (y:Int),h,t⟩::(c1++⟨iN 15 0,h,t+1⟩::⟨iN 6 (z:Int),h,t⟩::c2)) (iN 14 (y:Int)::(s1++iN 15 0::iN 6 (z:Int)::s2)) a (h,t) (h,t) H T:=by
 have l1:=h1.len
 have l2:=h2.len
 have hx:fP S Q (iN 15 0):=.inr (.inr (.inr (.inr (.inr (.inr (.inr ⟨.inr (.inr (.inl rfl)),rfl⟩))))))
 have e:(⟨iN 14 (y:Int),h,t⟩:LI)::(c1++⟨iN 15 0,h,t+1⟩::⟨iN 6 (z:Int),h,t⟩::c2)=(⟨iN 14 (y:Int),h,t⟩::(c1++[⟨iN 15 0,h,t+1⟩]))++⟨iN 6 (z:Int),h,t⟩::c2:=by simp
 have e':(⟨iN 14 (y:Int),h,t⟩:LI)::(c1++⟨iN 15 0,h,t+1⟩::⟨iN 6 (z:Int),h,t⟩::c2)=(⟨iN 14 (y:Int),h,t⟩::c1)++⟨iN 15 0,h,t+1⟩::(⟨iN 6 (z:Int),h,t⟩::c2):=by simp
 refine⟨by simp[h1.eq,h2.eq],?_,rfl,?_,?_,fun x hx=>by simp at hx;subst hx;simp[iN]⟩
 ·refine kX.cons ⟨by simp[mM,iN],by simp[iN],eT (y:=(a+1,h,t+1)) (z:=(y,h+1,t)) (by simp[yR,iN]) (Lk.next (c1:=[]) (by simp) (by rw[tK];exact h1.st)) ?_⟩ (kX.app (kX.put (l:=[⟨iN 14 (y:Int),h,t⟩]) (r:=⟨iN 15 0,h,t+1⟩::⟨iN 6 (z:Int),h,t⟩::c2) h1.ok (by simp) (by simp) rfl) (kX.cons ⟨by simp[mM,iN],by simp[iN],qBz (y:=(a+1+c1.length+1,h,t)) (by simp[yR,iN]) ?_⟩ (kX.cons ⟨by simp[mM,iN],by simp[iN],qBz (y:=(z,h,t)) (by simp[yR,iN]) (Lk.end (by simp only[List.length_append,List.length_cons];omega))⟩ ?_)))
  ·rw[e]
   exact Lk.next (by simp only[List.length_append,List.length_cons,List.length_nil];omega) h2.st
  ·rw[e']
   exact Lk.next (by simp only[List.length_cons];omega) rfl
  ·rw[e]
   have:=kX.last (c1:=(⟨iN 14 (y:Int),h,t⟩::(c1++[⟨iN 15 0,h,t+1⟩]))) (x:=⟨iN 6 (z:Int),h,t⟩) (a:=a) h2.ok (by simp only[List.length_append,List.length_cons,List.length_nil];omega)
   rw[show a+((⟨iN 14 (y:Int),h,t⟩:LI)::(c1++[⟨iN 15 0,h,t+1⟩])).length+1=a+1+c1.length+1+1 by simp only[List.length_append,List.length_cons,List.length_nil];omega]at this
   exact this
 ·exact rT (c1:=[]) (fun y hy=>by simp at hy) ⟨(show h≤H by omega),(show t≤T by omega)⟩ (rT h1.bd ⟨(show h≤H by omega),hT⟩ (rT (c1:=[]) (fun y hy=>by simp at hy) ⟨(show h≤H by omega),(show t≤T by omega)⟩ h2.bd))
 ·exact rT (c1:=[]) (fun y hy=>by simp at hy) (qGD (by omega) (by omega)) (rT h1.ins hx (rT (c1:=[]) (fun y hy=>by simp at hy) (qGD (by omega) (by omega)) h2.ins))
theorem qBU{c k:Int}{x:SC}(hc:c≠0):(yD c k x).fc≠0:=by
 unfold yD
 split
 ·exact hc
 ·assumption
theorem eJ{p:Prop}[Decidable p]{c k:Int}{x:SC}(hc:c≠0)(h:(if p then yD c k x else x).fc=0):x.fc=0∧¬p:=by
 split at h
 ·exact absurd h (qBU hc)
 ·exact⟨h,by assumption⟩
theorem qIl{t:ByteArray}{k:Int}{x:SC}(h:(fB t k x).fc=0):x.fc=0:=by
 unfold fB at h
 exact(eJ (by decide) h).1
theorem tF{t:ByteArray}{k:Int}{x:SC}(h:(qQ t k x).fc=0):x.fc=0∧x.nm.length+1≤20:=by
 unfold qQ iF at h
 obtain⟨h1,h2⟩:=eJ (by decide) h
 refine⟨qIl (t:=t) (k:=k) h1,?_⟩
 have:(qLt t (fB t k x)).nm=x.nm++[t]:=by unfold qLt;dsimp only;rw[qEe]
 rw[this,List.length_append]at h2
 simp at h2
 omega
theorem cY(t:ByteArray)(k:Int)(x:SC):(qQ t k x).mo=max x.mo (x.nm.length+1):=by
 unfold qQ iF qLt fB yD
 split <;> split <;> (try split) <;> simp_all
theorem qEl{ns:List TN}{root:Int}{t:ByteArray}{c:Nat}{k:Int}{x:SC}(h:(bA ns root t c k x).fc=0):x.fc=0∧0≤qB4 ns root t∧qB4 ns root t=(c:Int):=by
 unfold bA at h
 split at h
 ·exact absurd h (qBU (by decide))
 ·split at h
  ·exact absurd h (qBU (by decide))
  ·exact⟨h,by omega,by omega⟩
theorem eX{α:Type}{f:SC→α→SC}(hf:∀ x j,(f x j).fc=0→x.fc=0):∀ (ks:List α) (x:SC),(ks.foldl f x).fc=0→x.fc=0
 | [],x,h=>h
 | j::r,x,h=>hf x j (eX hf r (f x j) h)
theorem lM{ns:List TN}{root:Int}{n:Nat}{k:Int}{x:SC}{m:TN}(hm:ns[k.toNat]? = some m):sn ns root (n+1) k x =
   if m.k=5∨m.k=12 then m.kids.foldl (fun x j=>sn ns root n j x) (if vA x.nm m.t<0 then yD 11 k x else x)
   else if m.k=10 then m.kids.foldl (fun x j=>sn ns root n j x) (bA ns root m.t m.kids.length k x)
   else if m.k=20 then x
   else if m.k=18 then k4 x (m.kids.foldl (fun x j=>sn ns root n j x) (jG x))
   else if m.k=17 then
    (match m.kids with
    | [a,b]=>k4 (sn ns root n a x) (sn ns root n b (qQ m.t k (jG (sn ns root n a x))))
    | _=>x)
   else if m.k=11 then qQ m.t k (m.kids.foldl (fun x j=>sn ns root n j x) x)
   else m.kids.foldl (fun x j=>sn ns root n j x) x:=by
 show(match ns[k.toNat]? with | none=>x | some m=>_)=_
 rw[hm] <;> rfl
theorem qJ2{ns:List TN}{root:Int}{n:Nat}{k:Int}{x:SC}{m:TN}(hm:ns[k.toNat]? = some m)(h:m.k=5∨m.k=12):sn ns root (n+1) k x=m.kids.foldl (fun x j=>sn ns root n j x) (if vA x.nm m.t<0 then yD 11 k x else x):=by
 rw[lM hm,if_pos h]
theorem qNb{ns:List TN}{root:Int}{n:Nat}{k:Int}{x:SC}{m:TN}(hm:ns[k.toNat]? = some m)(h:m.k=10):sn ns root (n+1) k x=m.kids.foldl (fun x j=>sn ns root n j x) (bA ns root m.t m.kids.length k x):=by
 rw[lM hm,if_neg (by omega),if_pos h]
theorem qKp{ns:List TN}{root:Int}{n:Nat}{k:Int}{x:SC}{m:TN}(hm:ns[k.toNat]? = some m)(h:m.k=18):sn ns root (n+1) k x=k4 x (m.kids.foldl (fun x j=>sn ns root n j x) (jG x)):=by
 rw[lM hm,if_neg (by omega),if_neg (by omega),if_neg (by omega),if_pos h]
theorem qPJ{ns:List TN}{root:Int}{n:Nat}{k:Int}{x:SC}{m:TN}(hm:ns[k.toNat]? = some m)(h:m.k=11):sn ns root (n+1) k x=qQ m.t k (m.kids.foldl (fun x j=>sn ns root n j x) x):=by
 rw[lM hm,if_neg (by omega),if_neg (by omega),if_neg (by omega),if_neg (by omega),if_neg (by omega),if_pos h]
theorem qPK{ns:List TN}{root:Int}{n:Nat}{k:Int}{x:SC}{m:TN}{a b:Int}(hm:ns[k.toNat]? = some m)(h:m.k=17)(hk:m.kids=[a,b]):sn ns root (n+1) k x=k4 (sn ns root n a x) (sn ns root n b (qQ m.t k (jG (sn ns root n a x)))):=by
 rw[lM hm,if_neg (by omega),if_neg (by omega),if_neg (by omega),if_neg (by omega),if_pos h,hk]
theorem pD{ns:List TN}{root:Int}{n:Nat}{k:Int}{x:SC}{m:TN}(hm:ns[k.toNat]? = some m)(h:m.k≠5∧m.k≠12∧m.k≠10∧m.k≠20∧m.k≠18∧m.k≠17∧m.k≠11):sn ns root (n+1) k x=m.kids.foldl (fun x j=>sn ns root n j x) x:=by
 rw[lM hm,if_neg (by omega),if_neg (by omega),if_neg (by omega),if_neg (by omega),if_neg (by omega),if_neg (by omega)]
theorem tG(ns:List TN)(root:Int):∀ (n:Nat) (k:Int) (x:SC),(sn ns root n k x).fc=0→x.fc=0
 | 0,k,x,h=>h
 | n+1,k,x,h=>by
  have ih:=eX (f:=fun x j=>sn ns root n j x) (fun x j h=>tG ns root n j x h)
  match hm:ns[k.toNat]? with
  | none=>
   have e:sn ns root (n+1) k x=x:=by
    show(match ns[k.toNat]? with | none=>x | some m=>_)=_
    rw[hm]
   rw[e]at h
   exact h
  | some m=>
   rw[lM hm]at h
   split at h
   ·exact(eJ (by decide) (ih _ _ h)).1
   split at h
   ·exact(qEl (ih _ _ h)).1
   split at h
   ·exact h
   split at h
   ·exact ih m.kids (jG x) h
   split at h
   ·split at h
    ·exact tG ns root n _ _ (tF (tG ns root n _ _ h)).1
    ·exact h
   split at h
   ·exact ih _ _ (tF h).1
   ·exact ih _ _ h
theorem lX{ns:List TN}{root:Int}{n:Nat}(ks:List Int)(x:SC)(h:(ks.foldl (fun x j=>sn ns root n j x) x).fc=0):x.fc=0:=eX (f:=fun x j=>sn ns root n j x) (fun x j h=>tG ns root n j x h) ks x h
theorem qGW(nm:List ByteArray)(t:ByteArray):∀ i,aG nm t i<(i:Int)
 | 0=>by show(-1:Int)<_;omega
 | i+1=>by
  unfold aG
  split
  ·omega
  ·have:=qGW nm t i;omega
theorem qHy(nm:List ByteArray)(t:ByteArray):vA nm t<(nm.length:Int):=qGW nm t nm.length
theorem qCO(nm:List ByteArray)(t:ByteArray):vA (nm++[t]) t=(nm.length:Int):=by
 unfold vA
 rw[List.length_append,List.length_singleton,aG,if_pos (by simp)]
theorem qEg{fs:List Int}{f:Int}:∀ i,(∀ j,j<i→fs[j]?≠some f)→qBf fs f i=[]
 | 0,_=>rfl
 | i+1,h=>by rw[qBf,qEg i (fun j hj=>h j (by omega)),if_neg (h i (by omega))];rfl
theorem qGK{fs:List Int}{f:Int}(hn:fs.Nodup){q:Nat}(hq:fs[q]? = some f):∀ i,q<i→i≤fs.length→qBf fs f i=[q]
 | 0,h,_=>by omega
 | i+1,h,hl=>by
  obtain⟨hql,hqe⟩:=List.getElem?_eq_some_iff.1 hq
  by_cases hi:q=i
  ·subst hi
   rw[qBf,if_pos hq,qEg q (fun j hj hjs=>?_)]
   ·rfl
   ·obtain⟨iS,hje⟩:=List.getElem?_eq_some_iff.1 hjs
    exact absurd ((List.getElem_inj hn).1 (hje.trans hqe.symm)) (by omega)
  ·rw[qBf,qGK hn hq i (by omega) (by omega),if_neg]
   ·rfl
   ·intro hjs
    obtain⟨iS,hje⟩:=List.getElem?_eq_some_iff.1 hjs
    exact absurd ((List.getElem_inj hn).1 (hje.trans hqe.symm)) (by omega)
structure Fns(ns:List TN)(root:Int)(fs:List Int)(Q:List Nat):Prop where
 nd:fs.Nodup
 has:∀ t,0≤bL ns root t→bL ns root t∈fs
 q:Q=fs.map fun j=>(zK ns j).length
theorem qNS{ns:List TN}{root:Int}{fs:List Int}{Q:List Nat}(hF:Fns ns root fs Q){t:ByteArray}{c:Nat}(ha:qB4 ns root t=(c:Int))(S:Nat):∃ i:IR,tT ns root fs t c=[i]∧fP S Q i∧i.op≠6∧mM i=c∧i.op≠15∧∀ p h tt,c≤h→yR i p h tt=[(p+1,h-c+1,tt)]:=by
 unfold qB4 at ha
 unfold tT
 by_cases h:bL ns root t<0
 ·rw[if_neg (by omega)]at ha
  rw[if_pos h]
  refine⟨_,rfl,.inr (.inr (.inr (.inr (.inr (.inr (.inl ⟨rfl,rfl,(show(0:Int)≤(c:Int) by omega),ha⟩)))))),by simp,by simp[mM],by simp,fun p h tt hc=>?_⟩
  simp[yR,mM,sD]
 ·rw[if_pos (by omega)]at ha
  rw[if_neg h]
  have hm:=hF.has t (by omega)
  obtain⟨q,hq⟩:=List.getElem?_of_mem hm
  have hql:q<fs.length:=(List.getElem?_eq_some_iff.1 hq).1
  rw[qGK hF.nd hq fs.length hql (Nat.le_refl _)]
  refine⟨_,rfl,.inr (.inr (.inr (.inr (.inr (.inl ⟨rfl,rfl,q,c,rfl,?_,rfl⟩))))),by simp,by simp[mM],by simp,fun p h tt hc=>?_⟩
  ·rw[hF.q,List.getElem?_map,hq]
   simp
   omega
  ·simp[yR,mM,sD]
theorem aS{ns:List TN}:∀ (l:List Int) (lo hi:Nat),y7 ns l lo hi→l.length+lo≤hi
 | [],lo,hi,h=>by have:=h.le;simpa using this
 | j::ks,lo,hi,h=>by
  obtain⟨qX,x,_,_,_,_,_,h2,h3,_⟩:=h.head
  have:=aS ks _ _ h2
  rw[List.length_cons]
  omega
def EX(ns:List TN)(root:Int)(fs:List Int)(Q:List Nat)(n:Nat):Prop:=∀ (k lo:Nat) (x y:SC) (a h t n2:Nat),k<n→k<n2→y7 ns [(k:Int)] lo (k+1)→aU (kd ns (k:Int))=true→(sn ns root n2 k y).fc=0→x.nm=y.nm→x.nm.length≤x.mo→
 (cg ns root fs n k x a).x=x∧(sn ns root n2 k y).nm=y.nm∧∃ c,c≠[]∧Pc x.mo Q c (cg ns root fs n k x a).s a (h,t) (h+1,t) (h+(k+1-lo)) t
theorem EX.kids{ns:List TN}{root:Int}{fs:List Int}{Q:List Nat}{n:Nat}(H:EX ns root fs Q n):∀ (ks:List Int) (lo hi:Nat) (x y:SC) (a h t n2:Nat),hi≤n→hi≤n2→y7 ns ks lo hi→(∀ j∈ks,aU (kd ns j)=true)→(ks.foldl (fun x j=>sn ns root n2 j x) y).fc=0→x.nm=y.nm→x.nm.length≤x.mo→
  (ck (cg ns root fs n) ks x a).x=x∧(ks.foldl (fun x j=>sn ns root n2 j x) y).nm=y.nm∧∃ c,(ks≠[]→c≠[])∧Pc x.mo Q c (ck (cg ns root fs n) ks x a).s a (h,t) (h+ks.length,t) (h+(hi-lo)) t
 | [],lo,hi,x,y,a,h,t,n2,_,_,hs,_,_,_,_=>⟨rfl,rfl,[],fun h=>absurd rfl h,Pc.nil _ _ _ _ _ _⟩
 | j::r,lo,hi,x,y,a,h,t,n2,hn,hn2,hs,he,dQ,rS,nQ=>by
  obtain⟨qX,m,rfl,hm,hg,hk,h1,h2,h3,h4⟩:=hs.head
  have qAw:(sn ns root n2 (qX:Int) y).fc=0:=lX r _ dQ
  obtain⟨e1,e2,c,hc,p1⟩:=H qX lo x y a h t n2 (by omega) (by omega) h1 (he _ (List.mem_cons_self)) qAw rS nQ
  obtain⟨f1,f2,d,hd,p2⟩:=EX.kids H r (qX+1) hi x (sn ns root n2 (qX:Int) y) (a+(cg ns root fs n (qX:Int) x a).s.length) (h+1) t n2 hn hn2 h2 (fun j hj=>he j (List.mem_cons_of_mem _ hj)) dQ (rS.trans e2.symm) nQ
  have e3:ck (cg ns root fs n) ((qX:Int)::r) x a=⟨(cg ns root fs n (qX:Int) x a).s++(ck (cg ns root fs n) r x (a+(cg ns root fs n (qX:Int) x a).s.length)).s,(ck (cg ns root fs n) r x (a+(cg ns root fs n (qX:Int) x a).s.length)).x⟩:=by
   show(⟨(cg ns root fs n (qX:Int) x a).s++(ck (cg ns root fs n) r (cg ns root fs n (qX:Int) x a).x (a+(cg ns root fs n (qX:Int) x a).s.length)).s,(ck (cg ns root fs n) r (cg ns root fs n (qX:Int) x a).x (a+(cg ns root fs n (qX:Int) x a).s.length)).x⟩:CO)=_
   rw[e1]
  rw[e3]
  refine⟨f1,f2.trans e2,c++d,fun _ h=>hc (List.append_eq_nil_iff.1 h).1,?_⟩
  dsimp only
  rw[show h+((qX:Int)::r).length=h+1+r.length by rw[List.length_cons];omega]
  exact(p1.mono (Nat.le_refl _) (by omega) (Nat.le_refl _)).app (p2.mono (Nat.le_refl _) (by omega) (Nat.le_refl _))
theorem lZ{m:TN}(h:yQ m=true):mB m.k m.kids.length=true∧tB m=true:=by
 unfold yQ at h
 simpa using h
theorem qHe{ns:List TN}{m:TN}(hg:aD ns m)(hk:m.k≤12∨m.k=15∨m.k=16∨m.k=19):∀ j∈m.kids,aU (kd ns j)=true:=fun j hj=>by
 obtain⟨i,hi⟩:=List.getElem?_of_mem hj
 have:=hg.2 i j hi
 unfold kY at this
 rw[if_neg (by omega),if_neg (by omega),if_neg (by omega)]at this
 exact this
theorem fM{i:IR}{p h t:Nat}(h1:i.op≠12∧i.op≠13∧i.op≠6∧i.op≠7∧i.op≠8∧i.op≠9∧i.op≠14∧i.op≠15):yR i p h t=[(p+1,h-mM i+sD i,t)]:=by
 unfold yR
 rw[if_neg (by omega),if_neg (by omega),if_neg (by omega),if_neg (by omega),if_neg (by omega),if_neg (by omega)]
theorem qQ3{k:Int}(h:aU k=true):1≤k∧k≤10:=by
 unfold aU at h
 simpa using h
theorem EX.all{ns:List TN}{root:Int}{fs:List Int}{Q:List Nat}(hF:Fns ns root fs Q):∀ n,EX ns root fs Q n
 | 0=>fun k lo x y a h t n2 hk=>by omega
 | n+1=>fun k lo x y a h t n2 hk yN hs he dQ rS nQ=>by
  have H:=EX.all hF n
  obtain⟨qX,m,e,xC,hg,oG,_,_,_,_⟩:=hs.head
  obtain rfl:k=qX:=by omega
  have hlo:=oG.le
  have hm:ns[((k:Nat):Int).toNat]? = some m:=by rw[Int.toNat_natCast];exact xC
  rw[r7 hm]at he
  obtain⟨k1,k10⟩:=qQ3 he
  obtain⟨uG,rW⟩:=lZ hg.1
  obtain⟨n3,rfl⟩:∃ n3,n2=n3+1:=⟨n2-1,by omega⟩
  have zN:=qHe hg (by omega)
  have hlen:=aS _ _ _ oG
  have leaf:∀ i:IR,m.kids=[]→fP x.mo Q i→i.op=1∨i.op=2→Pc x.mo Q [⟨i,h,t⟩] [i] a (h,t) (h+1,t) (h+(k+1-lo)) t:=fun i fH hi ho=>
   Pc.one hi (by omega) (by unfold mM;rw[if_neg (by omega),if_neg (by omega),if_neg (by omega),if_neg (by omega)];omega) (by omega) (fun p=>.inl (by rw[fM (by omega)];unfold mM sD;rw[if_neg (by omega),if_neg (by omega),if_neg (by omega),if_neg (by omega),if_pos (by omega)];rfl)) (by omega) (Nat.le_refl _)
  have qC0:m.k≤5→m.kids=[]:=fun h5=>by
   unfold mB at uG
   rw[if_pos (by omega)]at uG
   exact List.length_eq_zero_iff.1 (by simpa using uG)
  unfold tB at rW
  by_cases h1:m.k=1
  ·have fH:=qC0 (by omega)
   rw[if_pos h1]at rW
   simp only[Bool.and_eq_true,decide_eq_true_eq]at rW
   rw[pD hm (by omega),fH,qGi hm h1]
   exact⟨rfl,rfl,_,by simp,leaf _ fH (.inl ⟨rfl,rfl,rfl,rfl,.inr (.inl ⟨rfl,rW.1.1.1,rW.1.1.2,rfl⟩)⟩) (.inl rfl)⟩
  rw[if_neg h1]at rW
  by_cases h3:m.k=3
  ·have fH:=qC0 (by omega)
   rw[pD hm (by omega),fH,qGu hm h3]
   exact⟨rfl,rfl,_,by simp,leaf _ fH (.inl ⟨rfl,rfl,rfl,rfl,.inr (.inr (.inl ⟨rfl,(show(if m.n=1 then (1:Int) else 0)=0∨(if m.n=1 then (1:Int) else 0)=1 by split <;> omega),rfl⟩))⟩) (.inl rfl)⟩
  rw[if_neg h3]at rW
  split at rW
  ·cases rW
  by_cases h2:m.k=2
  ·have fH:=qC0 (by omega)
   rw[if_pos h2]at rW
   rw[pD hm (by omega),fH,qGF hm h2]
   exact⟨rfl,rfl,_,by simp,leaf _ fH (.inl ⟨rfl,rfl,rfl,rfl,.inr (.inr (.inr ⟨rfl,rfl,rW⟩))⟩) (.inl rfl)⟩
  rw[if_neg h2]at rW
  by_cases h4:m.k=4
  ·have fH:=qC0 (by omega)
   rw[pD hm (by omega),fH,qF6 hm h4]
   exact⟨rfl,rfl,_,by simp,leaf _ fH (.inl ⟨rfl,rfl,rfl,rfl,.inl ⟨rfl,rfl,rfl⟩⟩) (.inl rfl)⟩
  by_cases h5:m.k=5
  ·have fH:=qC0 (by omega)
   rw[qJ2 hm (.inl h5),fH]at dQ ⊢
   obtain⟨_,hfi⟩:=eJ (by decide) dQ
   rw[if_neg hfi,qGQ hm h5]
   have hb:=qHy x.nm m.t
   rw[rS]at hb nQ ⊢
   exact⟨rfl,rfl,_,by simp,leaf _ fH (.inr (.inl ⟨.inl rfl,rfl,(show 0≤vA y.nm m.t by omega),(show vA y.nm m.t<(x.mo:Int) by omega)⟩)) (.inr rfl)⟩
  by_cases h6:m.k=6
  ·rw[if_pos h6]at rW
   have hl1:m.kids.length=1:=by unfold mB at uG;rw[if_neg (by omega),if_pos (by omega)]at uG;simpa using uG
   rw[pD hm (by omega)]at dQ ⊢
   rw[qGI hm h6]
   obtain⟨f1,f2,c,hc,p⟩:=EX.kids H m.kids lo k x y a h t n3 (by omega) (by omega) oG zN dQ rS nQ
   refine⟨f1,f2,_,?_,p.mono (Nat.le_refl _) (by omega) (Nat.le_refl _) |>.app (Pc.one (h:=h+m.kids.length) (h':=h+1) (t':=t) (.inr (.inr (.inl ⟨rfl,rfl,?_⟩))) (by simp[iT]) (by simp[mM,iT];omega) (by simp[iT]) (fun p=>.inl ?_) (by omega) (Nat.le_refl _))⟩
   ·simp
   ·simpa[iT]using rW
   ·rw[fM (by simp[iT])]
    simp[mM,sD,iT,hl1]
  rw[if_neg h6]at rW
  by_cases h7:m.k=7
  ·rw[if_pos h7]at rW
   have hl1:m.kids.length=2:=by unfold mB at uG;rw[if_neg (by omega),if_neg (by omega),if_pos (by omega)]at uG;simpa using uG
   rw[pD hm (by omega)]at dQ ⊢
   rw[qG8 hm h7]
   obtain⟨f1,f2,c,hc,p⟩:=EX.kids H m.kids lo k x y a h t n3 (by omega) (by omega) oG zN dQ rS nQ
   refine⟨f1,f2,_,?_,p.mono (Nat.le_refl _) (by omega) (Nat.le_refl _) |>.app (Pc.one (h:=h+m.kids.length) (h':=h+1) (t':=t) (.inr (.inr (.inr (.inl ⟨rfl,rfl,rW⟩)))) (by simp[iT]) (by simp[mM,iT];omega) (by simp[iT]) (fun p=>.inl ?_) (by omega) (Nat.le_refl _))⟩
   ·simp
   ·rw[fM (by simp[iT])]
    simp[mM,sD,iT,hl1]
  by_cases wS:m.k=10
  ·rw[qNb hm wS]at dQ ⊢
   obtain⟨_,a0,a1⟩:=qEl (lX _ _ dQ)
   obtain⟨i,ei,hi,hi6,hit,jDj,his⟩:=qNS hF a1 x.mo
   have oA:=qCg ns root m.t m.kids.length (k:Int) y
   obtain⟨f1,f2,c,hc,p⟩:=EX.kids H m.kids lo k x (bA ns root m.t m.kids.length (k:Int) y) a h t n3 (by omega) (by omega) oG zN dQ (rS.trans oA.symm) nQ
   rw[qCV hm wS,ei]
   refine⟨f1,f2.trans oA,_,?_,p.mono (Nat.le_refl _) (by omega) (Nat.le_refl _) |>.app (Pc.one (h:=h+m.kids.length) (h':=h+1) (t':=t) hi hi6 (by omega) (by omega) (fun p=>.inl ?_) (by omega) (Nat.le_refl _))⟩
   ·simp
   ·rw[his p _ t (by omega),show h+m.kids.length-m.kids.length+1=h+1 by omega]
  have h89:m.k=8∨m.k=9:=by omega
  have hl1:m.kids.length=2:=by unfold mB at uG;rw[if_neg (by omega),if_neg (by omega),if_pos (by omega)]at uG;simpa using uG
  rw[pD hm (by omega)]at dQ ⊢
  rw[nE hm h89]
  obtain⟨p,q,hpq⟩:∃ p q,m.kids=[p,q]:=by
   match hmk:m.kids,hl1 with
   | [p,q],_=>exact⟨p,q,rfl⟩
  rw[hpq]at dQ oG zN ⊢
  obtain⟨mp,mq,rfl,rfl,s1,s2,l1,l2,l3⟩:=rA oG
  have qAw:=tG _ _ _ _ _ (show(sn ns root n3 (mq:Int) (sn ns root n3 (mp:Int) y)).fc=0 from dQ)
  obtain⟨e1,e2,c1,xZ,p1⟩:=H mp lo x y a h t n3 (by omega) (by omega) s1 (zN _ (by simp)) qAw rS nQ
  obtain⟨g1,g2,c2,wZ,p2⟩:=H mq (mp+1) x (sn ns root n3 (mp:Int) y) (a+(cg ns root fs n (mp:Int) x a).s.length+1) h t n3 (by omega) (by omega) s2 (zN _ (by simp)) dQ (rS.trans e2.symm) nQ
  dsimp only
  rw[e1]
  refine⟨g1,g2.trans e2,_,?_,Pc.andOr h89 (p1.mono (Nat.le_refl _) (by omega) (Nat.le_refl _)) (p2.mono (Nat.le_refl _) (by omega) (Nat.le_refl _)) xZ (by omega) (Nat.le_refl _) rfl⟩
  simp
inductive Tr (ns:List TN):List Int→Nat→Prop
 | nil (b:Nat):Tr ns [] b
 | cons (j:Int) (ks:List Int) (b:Nat) (x:TN):ns[j.toNat]? = some x→Tr ns x.kids (if x.k=17 then b-1 else b)→(x.k=17→1≤b)→Tr ns ks b→Tr ns (j::ks) b
theorem Tr.head{ns:List TN}{j:Int}{ks:List Int}{b:Nat}(h:Tr ns (j::ks) b){x:TN}(hx:ns[j.toNat]? = some x):Tr ns x.kids (if x.k=17 then b-1 else b)∧(x.k=17→1≤b)∧Tr ns [j] b∧Tr ns ks b:=by
 cases h with
 | cons _ _ _ y hy h1 h2 h3=>
  rw[hx]at hy
  injection hy with hy
  subst hy
  exact⟨h1,h2,.cons j [] b x hx h1 h2 (.nil b),h3⟩
def SX(ns:List TN)(root:Int)(fs:List Int)(Q:List Nat)(n:Nat):Prop:=∀ (k lo:Nat) (x y:SC) (a h t b n2:Nat),k<n→k<n2→y7 ns [(k:Int)] lo (k+1)→stB (kd ns (k:Int))=true→Tr ns [(k:Int)] b→(sn ns root n2 k y).fc=0→x.nm=y.nm→x.nm.length≤x.mo→x.mo≤20→
 (cg ns root fs n k x a).x.nm=(sn ns root n2 k y).nm∧(cg ns root fs n k x a).x.nm.length≤(cg ns root fs n k x a).x.mo∧x.mo≤(cg ns root fs n k x a).x.mo∧(cg ns root fs n k x a).x.mo≤20∧∃ c,Pc (cg ns root fs n k x a).x.mo Q c (cg ns root fs n k x a).s a (h,t) (h,t) (h+(k+1-lo)) (t+b)
theorem SX.kids{ns:List TN}{root:Int}{fs:List Int}{Q:List Nat}{n:Nat}(H:SX ns root fs Q n):∀ (ks:List Int) (lo hi:Nat) (x y:SC) (a h t b n2:Nat),hi≤n→hi≤n2→y7 ns ks lo hi→(∀ j∈ks,stB (kd ns j)=true)→Tr ns ks b→(ks.foldl (fun x j=>sn ns root n2 j x) y).fc=0→x.nm=y.nm→x.nm.length≤x.mo→x.mo≤20→
  (ck (cg ns root fs n) ks x a).x.nm=(ks.foldl (fun x j=>sn ns root n2 j x) y).nm∧(ck (cg ns root fs n) ks x a).x.nm.length≤(ck (cg ns root fs n) ks x a).x.mo∧x.mo≤(ck (cg ns root fs n) ks x a).x.mo∧(ck (cg ns root fs n) ks x a).x.mo≤20∧∃ c,Pc (ck (cg ns root fs n) ks x a).x.mo Q c (ck (cg ns root fs n) ks x a).s a (h,t) (h,t) (h+(hi-lo)) (t+b)
 | [],lo,hi,x,y,a,h,t,b,n2,_,_,hs,_,_,_,rS,nQ,yE=>⟨rS,nQ,Nat.le_refl _,yE,[],Pc.nil _ _ _ _ _ _⟩
 | j::r,lo,hi,x,y,a,h,t,b,n2,hn,hn2,hs,he,htr,dQ,rS,nQ,yE=>by
  obtain⟨qX,m,rfl,hm,hg,hk,h1,h2,h3,h4⟩:=hs.head
  have qAw:(sn ns root n2 (qX:Int) y).fc=0:=lX r _ dQ
  obtain⟨_,_,tr1,tr2⟩:=htr.head (by rw[Int.toNat_natCast];exact hm)
  obtain⟨e1,e2,e3,e4,c,p1⟩:=H qX lo x y a h t b n2 (by omega) (by omega) h1 (he _ (List.mem_cons_self)) tr1 qAw rS nQ yE
  obtain⟨f1,f2,f3,f4,d,p2⟩:=SX.kids H r (qX+1) hi (cg ns root fs n (qX:Int) x a).x (sn ns root n2 (qX:Int) y) (a+(cg ns root fs n (qX:Int) x a).s.length) h t b n2 hn hn2 h2 (fun j hj=>he j (List.mem_cons_of_mem _ hj)) tr2 dQ e1 e2 e4
  refine⟨f1,f2,Nat.le_trans e3 f3,f4,c++d,?_⟩
  exact(p1.mono f3 (by omega) (Nat.le_refl _)).app (p2.mono (Nat.le_refl _) (by omega) (Nat.le_refl _))
theorem qT9{k:Int}(h:stB k=true):11≤k∧k≤19:=by
 unfold stB at h
 simpa using h
theorem qRc{ns:List TN}{m:TN}(hg:aD ns m)(hk:m.k=18):∀ j∈m.kids,stB (kd ns j)=true:=fun j hj=>by
 obtain⟨i,hi⟩:=List.getElem?_of_mem hj
 have:=hg.2 i j hi
 unfold kY at this
 rw[if_pos hk]at this
 simpa[stB]using this
theorem qCl{ns:List TN}{m:TN}(hg:aD ns m)(hk:m.k=13∨m.k=14){j:Int}(hj:m.kids[0]? = some j):aU (kd ns j)=true:=by
 have:=hg.2 0 j hj
 unfold kY at this
 rw[if_neg (by omega),if_neg (by omega),if_neg (by omega)]at this
 exact this
theorem nC{ns:List TN}{m:TN}(hg:aD ns m){i:Nat}(hk:((m.k=13∨m.k=14)∧0<i)∨m.k=17){j:Int}(hj:m.kids[i]? = some j):kd ns j=18:=by
 have:=hg.2 i j hj
 unfold kY at this
 by_cases bI:m.k=17
 ·rw[if_neg (by omega),if_pos (.inl bI)]at this
  simpa using this
 ·rw[if_neg (by omega),if_neg (by omega),if_pos (by omega)]at this
  simpa using this
theorem qEt:stB 18=true:=by decide
theorem Pc.take1{S:Nat}{Q:List Nat}{c:List LI}{s:List IR}{a h t H T:Nat}{i:IR}(p:Pc S Q c s a (h,t) (h+1,t) H T)(hi:fP S Q i)(ho:i.op=3∨i.op=12∨i.op=13∨i.op=16)(hH:h+1≤H)(hT:t≤T):∃ c',Pc S Q c' (s++[i]) a (h,t) (h,t) H T:=by
 refine⟨_,p.app (Pc.one (h:=h+1) (h':=h) (t':=t) hi (by omega) ?_ (by omega) (fun p=>?_) hH hT)⟩
 ·unfold mM
  rw[if_neg (by omega),if_neg (by omega),if_neg (by omega),if_pos (by omega)]
  omega
 ·by_cases sN:i.op=12∨i.op=13
  ·right
   unfold yR
   rw[if_pos sN]
  ·left
   rw[fM (by omega)]
   unfold mM sD
   rw[if_neg (by omega),if_neg (by omega),if_neg (by omega),if_pos (by omega),if_neg (by omega)]
   rfl
theorem qTY{S:Nat}{Q:List Nat}{op:Int}(h:op=12∨op=13∨op=15∨op=16):fP S Q (iN op 0):=.inr (.inr (.inr (.inr (.inr (.inr (.inr ⟨h,rfl⟩))))))
theorem qSa{S:Nat}{Q:List Nat}{n:Int}(h0:0≤n)(h1:n<(S:Int)):fP S Q (iN 3 n):=.inr (.inl ⟨.inr rfl,rfl,h0,h1⟩)
theorem SX.all{ns:List TN}{root:Int}{fs:List Int}{Q:List Nat}(hF:Fns ns root fs Q):∀ n,SX ns root fs Q n
 | 0=>fun k lo x y a h t b n2 hk=>by omega
 | n+1=>fun k lo x y a h t b n2 hk yN hs he htr dQ rS nQ yE=>by
  have H:=SX.all hF n
  have HE:=EX.all hF n
  obtain⟨qX,m,e,xC,hg,oG,_,_,_,_⟩:=hs.head
  obtain rfl:k=qX:=by omega
  have hlo:=oG.le
  have hm:ns[((k:Nat):Int).toNat]? = some m:=by rw[Int.toNat_natCast];exact xC
  rw[r7 hm]at he
  obtain⟨k1,k10⟩:=qT9 he
  obtain⟨uG,rW⟩:=lZ hg.1
  obtain⟨n3,rfl⟩:∃ n3,n2=n3+1:=⟨n2-1,by omega⟩
  have hlen:=aS _ _ _ oG
  obtain⟨trk,tr1,_,_⟩:=htr.head hm
  have one:m.k=11∨m.k=12∨m.k=15∨m.k=16∨m.k=19→m.kids.length=1:=fun h1=>by
   unfold mB at uG
   rw[if_neg (by omega),if_pos (by omega)]at uG
   simpa using uG
  by_cases sT:m.k=11
  ·have hl1:=one (by omega)
   rw[qPJ hm sT]at dQ ⊢
   obtain⟨g0,g1⟩:=tF dQ
   obtain⟨f1,f2,c,hc,p⟩:=EX.kids HE m.kids lo k x y a h t n3 (by omega) (by omega) oG (qHe hg (by omega)) g0 rS nQ
   rw[f2,←rS]at g1
   rw[qCA hm sT]
   dsimp only
   rw[f1,vI,cY,qCO,vI,f2,←rS]
   obtain⟨c',p'⟩:=Pc.take1 (i:=iN 3 (x.nm.length:Int)) (p.mono (S':=max x.mo (x.nm.length+1)) (H':=h+(k+1-lo)) (T':=t+b) (by omega) (by omega) (by omega) |> (fun q=>by rw[hl1]at q;exact q)) (qSa (by omega) (by omega)) (.inl rfl) (by omega) (by omega)
   exact⟨rfl,by rw[List.length_append,List.length_singleton];omega,by omega,by omega,c',p'⟩
  by_cases sN:m.k=12
  ·have hl1:=one (by omega)
   rw[qJ2 hm (.inr sN)]at dQ ⊢
   obtain⟨_,hfi⟩:=eJ (by decide) (lX _ _ dQ)
   rw[if_neg hfi]at dQ ⊢
   obtain⟨f1,f2,c,hc,p⟩:=EX.kids HE m.kids lo k x y a h t n3 (by omega) (by omega) oG (qHe hg (by omega)) dQ rS nQ
   rw[qBQ hm sN]
   dsimp only
   rw[f1,f2]
   have hb:=qHy x.nm m.t
   rw[rS]at hb
   obtain⟨c',p'⟩:=Pc.take1 (i:=iN 3 (vA x.nm m.t)) (p.mono (H':=h+(k+1-lo)) (T':=t+b) (Nat.le_refl _) (by omega) (by omega) |> (fun q=>by rw[hl1]at q;exact q)) (qSa (by rw[rS];omega) (by rw[rS]at nQ ⊢;omega)) (.inl rfl) (by omega) (by omega)
   exact⟨rS,nQ,Nat.le_refl _,yE,c',p'⟩
  have plain:(m.k=15∨m.k=16∨m.k=19)→∀ op:Int,op=12∨op=13∨op=16→(cg ns root fs (n+1) (k:Int) x a)=(⟨(ck (cg ns root fs n) m.kids x a).s++[iN op 0],(ck (cg ns root fs n) m.kids x a).x⟩:CO)→(cg ns root fs (n+1) k x a).x.nm=(sn ns root (n3+1) k y).nm∧(cg ns root fs (n+1) k x a).x.nm.length≤(cg ns root fs (n+1) k x a).x.mo∧x.mo≤(cg ns root fs (n+1) k x a).x.mo∧(cg ns root fs (n+1) k x a).x.mo≤20∧∃ c,Pc (cg ns root fs (n+1) k x a).x.mo Q c (cg ns root fs (n+1) k x a).s a (h,t) (h,t) (h+(k+1-lo)) (t+b):=fun a8 op hop heq=>by
   have hl1:=one (by omega)
   rw[pD hm (by omega)]at dQ ⊢
   obtain⟨f1,f2,c,hc,p⟩:=EX.kids HE m.kids lo k x y a h t n3 (by omega) (by omega) oG (qHe hg (by omega)) dQ rS nQ
   rw[heq]
   dsimp only
   rw[f1,f2]
   obtain⟨c',p'⟩:=Pc.take1 (i:=iN op 0) (p.mono (H':=h+(k+1-lo)) (T':=t+b) (Nat.le_refl _) (by omega) (by omega) |> (fun q=>by rw[hl1]at q;exact q)) (qTY (by omega)) (by show op=3∨op=12∨op=13∨op=16;omega) (by omega) (by omega)
   exact⟨rS,nQ,Nat.le_refl _,yE,c',p'⟩
  by_cases nR:m.k=15
  ·exact plain (by omega) 12 (by omega) (qCI hm nR)
  by_cases eE:m.k=16
  ·exact plain (by omega) 13 (by omega) (qCa hm eE)
  by_cases oC:m.k=19
  ·exact plain (by omega) 16 (by omega) (qCM hm oC)
  by_cases bH:m.k=18
  ·rw[qKp hm bH]at dQ ⊢
   rw[if_neg (by omega)]at trk
   obtain⟨f1,f2,f3,f4,c,p⟩:=SX.kids H m.kids lo k (jG x) (jG y) a h t b n3 (by omega) (by omega) oG (qRc hg bH) trk dQ rS nQ yE
   rw[qCN hm bH]
   dsimp only[k4]
   refine⟨by rw[f1,rS],Nat.le_trans (by rw[List.length_take];omega) f2,f3,f4,c,p.mono (Nat.le_refl _) (by omega) (Nat.le_refl _)⟩
  by_cases oH:m.k=13
  ·rw[if_neg (by omega)]at trk
   rw[pD hm (by omega)]at dQ ⊢
   rw[qCS hm oH]
   have hl:m.kids.length=2∨m.kids.length=3:=by
    unfold mB at uG
    rw[if_neg (by omega),if_neg (by omega),if_neg (by omega),if_pos oH]at uG
    simpa using uG
   rcases hl with hl | hl
   ·obtain⟨p,q,hpq⟩:∃ p q,m.kids=[p,q]:=by
     match hmk:m.kids,hl with
     | [p,q],_=>exact⟨p,q,rfl⟩
    have fH:=qCl hg (.inl oH) (j:=p) (by rw[hpq];rfl)
    have kQ:=nC hg (i:=1) (.inl ⟨.inl oH,by omega⟩) (j:=q) (by rw[hpq];rfl)
    rw[hpq]at dQ oG trk ⊢
    obtain⟨mp,mq,rfl,rfl,s1,s2,l1,l2,l3⟩:=rA oG
    obtain⟨_,xp,_,hxp,_⟩:=s1.head
    obtain⟨_,xq,_,hxq,_⟩:=s2.head
    have trp:=trk
    cases trp with | cons _ _ _ _ _ _ _ trq=>
    have qAw:=tG _ _ _ _ _ (show(sn ns root n3 (mq:Int) (sn ns root n3 (mp:Int) y)).fc=0 from dQ)
    obtain⟨e1,e2,c1,xZ,p1⟩:=HE mp lo x y a h t n3 (by omega) (by omega) s1 fH qAw rS nQ
    obtain⟨g1,g2,g3,g4,c2,p2⟩:=H mq (mp+1) x (sn ns root n3 (mp:Int) y) (a+(cg ns root fs n (mp:Int) x a).s.length+1) h t b n3 (by omega) (by omega) s2 (by rw[kQ];exact qEt) trq dQ (rS.trans e2.symm) nQ yE
    dsimp only
    rw[e1]
    exact⟨g1,g2,g3,g4,_,Pc.if2 (p1.mono g3 (by omega) (by omega)) (p2.mono (Nat.le_refl _) (by omega) (Nat.le_refl _)) xZ (by omega) (by omega) rfl⟩
   ·obtain⟨p,q,r,hpq⟩:∃ p q r,m.kids=[p,q,r]:=by
     match hmk:m.kids,hl with
     | [p,q,r],_=>exact⟨p,q,r,rfl⟩
    have fH:=qCl hg (.inl oH) (j:=p) (by rw[hpq];rfl)
    have kQ:=nC hg (i:=1) (.inl ⟨.inl oH,by omega⟩) (j:=q) (by rw[hpq];rfl)
    have yN:=nC hg (i:=2) (.inl ⟨.inl oH,by omega⟩) (j:=r) (by rw[hpq];rfl)
    rw[hpq]at dQ oG trk ⊢
    obtain⟨mp,mq,mr,rfl,rfl,rfl,s1,s2,s3,l1,l2,l3,l4⟩:=qNx oG
    obtain⟨dC,xq,eq',hxq,_⟩:=s2.head
    obtain rfl:mq=dC:=by omega
    have trp:=trk
    cases trp with | cons _ _ _ _ _ _ _ trq=>
    obtain⟨_,_,qYh,trr⟩:=trq.head (by rw[Int.toNat_natCast];exact hxq)
    have qQR:=tG _ _ _ _ _ (show(sn ns root n3 (mr:Int) (sn ns root n3 (mq:Int) (sn ns root n3 (mp:Int) y))).fc=0 from dQ)
    have qAw:=tG _ _ _ _ _ qQR
    obtain⟨e1,e2,c1,xZ,p1⟩:=HE mp lo x y a h t n3 (by omega) (by omega) s1 fH qAw rS nQ
    obtain⟨g1,g2,g3,g4,c2,p2⟩:=H mq (mp+1) x (sn ns root n3 (mp:Int) y) (a+(cg ns root fs n (mp:Int) x a).s.length+1) h t b n3 (by omega) (by omega) s2 (by rw[kQ];exact qEt) qYh qQR (rS.trans e2.symm) nQ yE
    obtain⟨d1,d2,d3,d4,c3,p3⟩:=H mr (mq+1) (cg ns root fs n (mq:Int) x (a+(cg ns root fs n (mp:Int) x a).s.length+1)).x (sn ns root n3 (mq:Int) (sn ns root n3 (mp:Int) y)) (a+(cg ns root fs n (mp:Int) x a).s.length+1+(cg ns root fs n (mq:Int) x (a+(cg ns root fs n (mp:Int) x a).s.length+1)).s.length+1) h t b n3 (by omega) (by omega) s3 (by rw[yN];exact qEt) trr dQ g1 g2 g4
    dsimp only
    rw[e1]
    exact⟨d1,d2,Nat.le_trans g3 d3,d4,_,Pc.if3 (p1.mono (Nat.le_trans g3 d3) (by omega) (by omega)) (p2.mono d3 (by omega) (Nat.le_refl _)) (p3.mono (Nat.le_refl _) (by omega) (Nat.le_refl _)) xZ (by omega) (by omega) rfl rfl⟩
  have two:m.kids.length=2:=by
   unfold mB at uG
   rw[if_neg (by omega),if_neg (by omega),if_pos (by omega)]at uG
   simpa using uG
  obtain⟨p,q,hpq⟩:∃ p q,m.kids=[p,q]:=by
   match hmk:m.kids,two with
   | [p,q],_=>exact⟨p,q,rfl⟩
  by_cases oJ:m.k=14
  ·rw[if_neg (by omega)]at trk
   rw[pD hm (by omega)]at dQ ⊢
   rw[qCR hm oJ]
   have fH:=qCl hg (.inr oJ) (j:=p) (by rw[hpq];rfl)
   have kQ:=nC hg (i:=1) (.inl ⟨.inr oJ,by omega⟩) (j:=q) (by rw[hpq];rfl)
   rw[hpq]at dQ oG trk ⊢
   obtain⟨mp,mq,rfl,rfl,s1,s2,l1,l2,l3⟩:=rA oG
   have trp:=trk
   cases trp with | cons _ _ _ _ _ _ _ trq=>
   have qAw:=tG _ _ _ _ _ (show(sn ns root n3 (mq:Int) (sn ns root n3 (mp:Int) y)).fc=0 from dQ)
   obtain⟨e1,e2,c1,xZ,p1⟩:=HE mp lo x y a h t n3 (by omega) (by omega) s1 fH qAw rS nQ
   obtain⟨g1,g2,g3,g4,c2,p2⟩:=H mq (mp+1) x (sn ns root n3 (mp:Int) y) (a+(cg ns root fs n (mp:Int) x a).s.length+1) h t b n3 (by omega) (by omega) s2 (by rw[kQ];exact qEt) trq dQ (rS.trans e2.symm) nQ yE
   dsimp only
   rw[e1]
   exact⟨g1,g2,g3,g4,_,Pc.while (p1.mono g3 (by omega) (by omega)) (p2.mono (Nat.le_refl _) (by omega) (Nat.le_refl _)) xZ (by omega) (by omega) rfl⟩
  have bI:m.k=17:=by omega
  have jD:=tr1 bI
  rw[if_pos bI]at trk
  rw[qPK hm bI hpq]at dQ ⊢
  rw[qCk hm bI]
  have fH:=nC hg (i:=0) (.inr bI) (j:=p) (by rw[hpq];rfl)
  have kQ:=nC hg (i:=1) (.inr bI) (j:=q) (by rw[hpq];rfl)
  rw[hpq]at oG trk ⊢
  obtain⟨mp,mq,rfl,rfl,s1,s2,l1,l2,l3⟩:=rA oG
  obtain⟨mR,xp,ep,hxp,_⟩:=s1.head
  obtain rfl:mp=mR:=by omega
  obtain⟨dC,xq,eq,qXI,hgq,qZS,_⟩:=s2.head
  obtain rfl:mq=dC:=by omega
  have hxq:ns[((mq:Nat):Int).toNat]? = some xq:=by rw[Int.toNat_natCast];exact qXI
  rw[r7 hxq]at kQ
  obtain⟨_,_,trp,trq⟩:=trk.head (by rw[Int.toNat_natCast];exact hxp)
  obtain⟨qU3,_⟩:=trq.head hxq
  rw[if_neg (by omega)]at qU3
  obtain⟨n4,rfl⟩:∃ n4,n3=n4+1:=⟨n3-1,by omega⟩
  have qTh:(sn ns root (n4+1) (mq:Int) (qQ m.t (k:Int) (jG (sn ns root (n4+1) (mp:Int) y)))).fc=0:=dQ
  have hbf:=tG _ _ _ _ _ qTh
  obtain⟨g0,g1⟩:=tF hbf
  rw[qKp hxq kQ]at qTh ⊢
  obtain⟨e1,e2,e3,e4,c1,p1⟩:=H mp lo x y (a+1) h (t+1) (b-1) (n4+1) (by omega) (by omega) s1 (by rw[fH];exact qEt) trp g0 rS nQ yE
  have hkq:gF ns ((mq:Nat):Int)=xq.kids:=by unfold gF;rw[hxq];rfl
  dsimp only[qA3]
  rw[hkq]
  generalize hO1:cg ns root fs n (mp:Int) x (a+1)=o1 at e1 e2 e3 e4 p1 ⊢
  have hg1:o1.x.nm.length+1≤20:=by rw[e1];exact g1
  have bn:(qQ m.t (mq:Int) (jG o1.x)).nm=o1.x.nm++[m.t]:=vI _ _ _
  have bm:(qQ m.t (mq:Int) (jG o1.x)).mo=max o1.x.mo (o1.x.nm.length+1):=cY _ _ _
  have bk:(qQ m.t (k:Int) (jG (sn ns root (n4+1) (mp:Int) y))).nm=(sn ns root (n4+1) (mp:Int) y).nm++[m.t]:=vI _ _ _
  obtain⟨d1,d2,d3,d4,c2,p2⟩:=SX.kids H xq.kids (mp+1) mq (jG (qQ m.t (mq:Int) (jG o1.x))) (jG (qQ m.t (k:Int) (jG (sn ns root (n4+1) (mp:Int) y)))) (a+1+o1.s.length+2+1) h t (b-1) n4 (by omega) (by omega) qZS (qRc hgq kQ) qU3 qTh (by show(qQ m.t (mq:Int) (jG o1.x)).nm=(qQ m.t (k:Int) (jG (sn ns root (n4+1) (mp:Int) y))).nm;rw[bn,bk,e1]) (by show(qQ m.t (mq:Int) (jG o1.x)).nm.length≤(qQ m.t (mq:Int) (jG o1.x)).mo;rw[bn,bm,List.length_append,List.length_singleton];omega) (by show(qQ m.t (mq:Int) (jG o1.x)).mo≤20;rw[bm];omega)
  generalize cA:ck (cg ns root fs n) xq.kids (jG (qQ m.t (mq:Int) (jG o1.x))) (a+1+o1.s.length+2+1)=o2 at d1 d2 d3 d4 p2 ⊢
  have d3':max o1.x.mo (o1.x.nm.length+1)≤o2.x.mo:=by rw[←bm];exact d3
  have pst:Pc o2.x.mo Q [⟨iN 3 (o1.x.nm.length:Int),h+1,t⟩] [iN 3 (o1.x.nm.length:Int)] (a+1+o1.s.length+2) (h+1,t) (h,t) (h+(k+1-lo)) (t+b):=
   Pc.one (qSa (by omega) (by omega)) (by simp[iN]) (by simp[mM,iN]) (by simp[iN]) (fun p=>.inl (by rw[fM (by simp[iN])];simp[mM,sD,iN])) (by omega) (by omega)
  rw[bn,qCO]
  refine⟨?_,?_,by simp only[k4];omega,by simp only[k4];exact d4,_,Pc.try (p1.mono (by simp only[k4];omega) (by omega) (by omega)) (pst.app (p2.mono (Nat.le_refl _) (by omega) (by omega))) (by omega) (by omega) rfl rfl⟩
  ·simp only[k4]
   rw[d1,e1]
   rw[bk,List.take_take]
   congr 1
   rw[List.length_append]
   omega
  ·simp only[k4]
   rw[List.length_take]
   omega
theorem Tr.mono{ns ns':List TN}(hp:ns <+: ns'){ks:List Int}{b:Nat}(h:Tr ns ks b):Tr ns' ks b:=by
 induction h with
 | nil b=>exact .nil b
 | cons j ks b x hx h1 h2 h3 i1 i3=>exact .cons j ks b x (qFq hp hx) i1 h2 i3
theorem Tr.le{ns:List TN}{ks:List Int}{b:Nat}(h:Tr ns ks b):∀ {b':Nat},b≤b'→Tr ns ks b':=by
 induction h with
 | nil b=>intro b' _;exact .nil b'
 | cons j ks b x hx h1 h2 h3 i1 i3=>
  intro b' hb
  refine .cons j ks b' x hx (i1 ?_) (fun e=>Nat.le_trans (h2 e) hb) (i3 hb)
  split <;> omega
theorem Tr.app{ns:List TN}{ks ls:List Int}{b:Nat}(h:Tr ns ks b)(k:Tr ns ls b):Tr ns (ks++ls) b:=by
 induction h with
 | nil b=>exact k
 | cons j ks b x hx h1 h2 h3 i1 i3=>exact .cons j _ b x hx h1 h2 (i3 k)
theorem Tr.same{s s':PS}{ks:List Int}{b:Nat}(h:Tr s.ns ks b)(e:s'.ns=s.ns):Tr s'.ns ks b:=by rw[e];exact h
theorem Tr.expr{ns:List TN}{ks:List Int}{lo hi:Nat}(h:y7 ns ks lo hi):(∀ j∈ks,aU (kd ns j)=true)→∀ b,Tr ns ks b:=by
 induction h with
 | nil lo=>intro _ b;exact .nil b
 | cons lo qX hi x ks hx hg h1 h2 i1 i2=>
  intro he b
  have hm:ns[((qX:Nat):Int).toNat]? = some x:=by rw[Int.toNat_natCast];exact hx
  have hk:=he _ (List.mem_cons_self)
  rw[r7 hm]at hk
  obtain⟨k1,k2⟩:=qQ3 hk
  exact .cons _ ks b x hm (by rw[if_neg (by omega)];exact i1 (qHe hg (by omega)) b) (fun e=>by omega) (i2 (fun j hj=>he j (List.mem_cons_of_mem _ hj)) b)
theorem xD.tr{lo:Nat}{r:Int}{s:PS}(h:xD aU lo r s)(b:Nat):Tr s.ns [r] b:=Tr.expr h.1 (fun j hj=>by rw[List.mem_singleton]at hj;subst hj;exact h.2) b
theorem Tr.put{ts:List V3}{x:TN}{s:PS}{b:Nat}(h0:(jZ ts x s).2.code=0)(h:Tr s.ns x.kids (if x.k=17 then b-1 else b))(h1:x.k=17→1≤b):Tr (jZ ts x s).2.ns [(jZ ts x s).1] b:=by
 have hl:¬s.ns.length=200:=fun e=>by
  rw[jZ,if_pos e]at h0
  exact absurd h0 (pX (by decide))
 rw[jZ,if_neg hl]
 exact .cons _ [] b x (by rw[Int.toNat_natCast];simp) (h.mono (List.prefix_append _ _)) h1 (.nil b)
def qR1(f:PF)(s:PS)(o:PO):Prop:=match f with
 | .block | .stmt | .func=>Tr o.s.ns [o.r] (20-s.dp)
 | .inner=>1≤s.dp→s.dp≤20→Tr o.s.ns [o.r] (21-s.dp)
 | .blockL ks | .topL ks=>Tr s.ns ks (20-s.dp)→Tr o.s.ns o.ks (20-s.dp)
 | _=>True
theorem qPV{ts:List V3}{s:PS}(h:(jS ts s).code=0):s.dp+1≤20:=by
 unfold jS at h
 split at h
 ·exact absurd h (pX (by decide))
 ·omega
theorem qRQ{ts:List V3}(fE:∀ v∈ts,wL v.k v.t.data.toList=true)(n:Nat):∀ (f:PF) (s:PS),(run ts n f s).s.code=0→qR1 f s (run ts n f s):=by
 induction n with
 | zero=>
  intro f s h0
  rw[cO]at h0
  by_cases h:s.code=0
  ·rw[if_pos h]at h0;exact absurd h0 (show ¬(99:Int)=0 by decide)
  ·rw[if_neg h]at h0;exact absurd h0 h
 | succ n ih=>
  have ex:∀ s b,(run ts n .expr s).s.code=0→Tr (run ts n .expr s).s.ns [(run ts n .expr s).r] b:=fun s b h=>xD.tr (qFi fE n .expr s h) b
  have bl:∀ s,(run ts n .block s).s.code=0→Tr (run ts n .block s).s.ns [(run ts n .block s).r] (20-s.dp):=fun s h=>ih .block s h
  intro f s h0
  cases f with
  | block=>
   unfold run at h0 ⊢
   simp only[yB]at h0
   have h1:Tr _ _ _:=ih (.blockL []) _ (kV h0) (.nil _)
   rw[q9]at h1
   exact Tr.put h0 h1 (fun e=>absurd e (show ¬(18:Int)=17 by decide))
  | blockL ks=>
   intro ha
   unfold run at h0 ⊢
   split at h0
   ·rename_i hd
    rw[if_pos hd]
    split at h0
    ·rename_i he
     rw[if_pos he]
     exact ha.same (qN s)
    ·rename_i he
     rw[if_neg he]
     have h1:Tr _ [_] _:=ih .stmt s (vQ h0)
     have h2:Tr _ _ _→Tr _ _ _:=ih _ _ h0
     rw[zC]at h2
     exact h2 ((ha.mono (fK n _ _)).app h1)
   ·rename_i hd
    rw[if_neg hd];exact ha
  | stmt=>
   unfold run at h0 ⊢
   split at h0
   ·rename_i hd
    rw[if_pos hd]
    simp only[mG,sY]at h0
    have hl:=qPV hd
    have h1:Tr _ _ _:=ih .inner _ h0 (by rw[xW];omega) (by rw[xW];omega)
    rw[xW,show 21-(s.dp+1)=20-s.dp by omega]at h1
    exact h1.same (j8 _)
   ·rename_i hd
    simp only[mG,sY]at h0
    exact absurd h0 hd
  | func=>
   unfold run at h0 ⊢
   simp only[yB]at h0
   have h1:=bl _ (kV h0)
   rw[zC,q9,jO]at h1
   exact Tr.put h0 h1 (fun e=>absurd e (show ¬(20:Int)=17 by decide))
  | topL ks=>
   intro ha
   unfold run at h0 ⊢
   split at h0
   ·rename_i hd
    rw[if_pos hd]
    split at h0
    ·rename_i he
     rw[if_pos he]
     have h1:Tr _ [_] _:=ih .func (qK s) (vQ h0)
     have h2:Tr _ _ _→Tr _ _ _:=ih _ _ h0
     rw[zC,qZ]at h2
     rw[qZ]at h1
     exact h2 ((ha.mono (j5 ts n _ s _ (qI.refl s).adv).ns).app h1)
    ·rename_i he
     rw[if_neg he]
     have h1:Tr _ [_] _:=ih .stmt s (vQ h0)
     have h2:Tr _ _ _→Tr _ _ _:=ih _ _ h0
     rw[zC]at h2
     exact h2 ((ha.mono (fK n _ _)).app h1)
   ·rename_i hd
    rw[if_neg hd];exact ha
  | inner=>
   intro d1 d20
   have one:∀ (k:Int) (t:ByteArray) (s1:PS),k≠17→(jZ ts ⟨k,0,t,[],[(run ts n .expr s1).r]⟩ (qJ ts [59] (run ts n .expr s1).s)).2.code=0→Tr (jZ ts ⟨k,0,t,[],[(run ts n .expr s1).r]⟩ (qJ ts [59] (run ts n .expr s1).s)).2.ns [(jZ ts ⟨k,0,t,[],[(run ts n .expr s1).r]⟩ (qJ ts [59] (run ts n .expr s1).s)).1] (21-s.dp):=fun k t s1 hk h=>by
    refine Tr.put h ?_ (fun e=>absurd e hk)
    exact(ex s1 _ (vS (kV h))).same (qO _ _ _)
   unfold run at h0 ⊢
   split at h0
   ·rename_i hd
    rw[if_pos hd]
    exact one _ _ _ (by decide) h0
   rename_i hd;rw[if_neg hd];clear hd
   split at h0
   ·rename_i hd
    rw[if_pos hd]
    split at h0
    ·rename_i he
     rw[if_pos he]
     simp only[yB]at h0 ⊢
     have c3:=kV h0
     have c2:=vQ c3
     rw[qGx]at c2
     have c1:=vS (vQ c2)
     have t3:=bl _ c3
     have t2:=bl _ c2
     have t1:=ex (qJ ts [40] (qK s)) (21-s.dp) c1
     rw[qZ,zC,q9,zC,q9,qZ]at t3
     rw[q9,zC,q9,qZ]at t2
     refine Tr.put h0 ?_ (fun e=>absurd e (show ¬(13:Int)=17 by decide))
     have p2:(run ts n .expr (qJ ts [40] (qK s))).s.ns <+: (run ts n .block (qJ ts [41] (run ts n .expr (qJ ts [40] (qK s))).s)).s.ns:=(j5 ts n .block _ _ (qI.refl _).need).ns
     have p3:=(j5 ts n .block _ _ (qI.refl (run ts n .block (qJ ts [41] (run ts n .expr (qJ ts [40] (qK s))).s)).s).adv).ns
     exact((t1.mono (p2.trans p3)).app ((t2.mono p3).le (by omega))).app (t3.le (by omega))
    ·rename_i he
     rw[if_neg he]
     simp only[yB]at h0 ⊢
     have c2:=kV h0
     have c1:=vS (vQ c2)
     have t2:=bl _ c2
     have t1:=ex (qJ ts [40] (qK s)) (21-s.dp) c1
     rw[q9,zC,q9,qZ]at t2
     refine Tr.put h0 ?_ (fun e=>absurd e (show ¬(13:Int)=17 by decide))
     have p2:(run ts n .expr (qJ ts [40] (qK s))).s.ns <+: (run ts n .block (qJ ts [41] (run ts n .expr (qJ ts [40] (qK s))).s)).s.ns:=(j5 ts n .block _ _ (qI.refl _).need).ns
     exact(t1.mono p2).app (t2.le (by omega))
   rename_i hd;rw[if_neg hd];clear hd
   split at h0
   ·rename_i hd
    rw[if_pos hd]
    simp only[yB]at h0 ⊢
    have c2:=kV h0
    have c1:=vS (vQ c2)
    have t2:=bl _ c2
    have t1:=ex (qJ ts [40] (qK s)) (21-s.dp) c1
    rw[q9,zC,q9,qZ]at t2
    refine Tr.put h0 ?_ (fun e=>absurd e (show ¬(14:Int)=17 by decide))
    have p2:(run ts n .expr (qJ ts [40] (qK s))).s.ns <+: (run ts n .block (qJ ts [41] (run ts n .expr (qJ ts [40] (qK s))).s)).s.ns:=(j5 ts n .block _ _ (qI.refl _).need).ns
    exact(t1.mono p2).app (t2.le (by omega))
   rename_i hd;rw[if_neg hd];clear hd
   split at h0
   ·rename_i hd
    rw[if_pos hd]
    exact one _ _ _ (by decide) h0
   rename_i hd;rw[if_neg hd];clear hd
   split at h0
   ·rename_i hd
    rw[if_pos hd]
    exact one _ _ _ (by decide) h0
   rename_i hd;rw[if_neg hd];clear hd
   split at h0
   ·rename_i hd
    rw[if_pos hd]
    split at h0
    ·rename_i he
     rw[if_pos he]
     simp only[yB]at h0 ⊢
     have c2:=kV h0
     have c1:=vS (vS he)
     have t2:=bl _ c2
     have t1:=bl _ c1
     rw[q9,jO,q9,q9,zC,qZ]at t2
     rw[qZ]at t1
     refine Tr.put h0 ?_ (fun e=>by omega)
     have p2:(run ts n .block (qK s)).s.ns <+: (run ts n .block (qJ ts [41] (jN ts (qJ ts [40] (qJ ts [99,97,116,99,104] (run ts n .block (qK s)).s))).2)).s.ns:=(j5 ts n .block _ _ ((((qI.refl _).need).need).name.need)).ns
     show Tr _ [_,_] (if (17:Int)=17 then 21-s.dp-1 else 21-s.dp)
     rw[if_pos rfl,show 21-s.dp-1=20-s.dp by omega]
     exact(t1.mono p2).app t2
    ·rename_i he
     rw[if_neg he]
     simp only[yB]at h0
     exact absurd (vS (vQ (kV h0))) he
   rename_i hd;rw[if_neg hd];clear hd
   split at h0
   ·rename_i hd
    rw[if_pos hd]
    exact(bl _ h0).le (by omega)
   rename_i hd;rw[if_neg hd];clear hd
   split at h0
   ·rename_i hd
    exact absurd h0 hd
   rename_i hd;rw[if_neg hd];clear hd
   split at h0
   ·rename_i hd
    rw[if_pos hd]
    exact one _ _ _ (by decide) h0
   rename_i hd;rw[if_neg hd];clear hd
   exact one _ _ _ (by decide) h0
  | _=>trivial
structure uS(S:Nat)(Q:List Nat)(c:List LI):Prop where
 ne:0<c.length
 st:∀ x,c[0]? = some x→x.h=0∧x.t=0∧x.i.op≠6
 ok:∀ p x,c[p]? = some x→mM x.i≤x.h∧(x.i.op=15→1≤x.t)∧x.h≤200∧x.t≤20∧fP S Q x.i∧∀ y∈yR x.i p x.h x.t,∃ x',c[y.1]? = some x'∧(x'.h,x'.t)=y.2
theorem qSe{i:IR}{p h t:Nat}(hk:mM i≤h):∀ y∈yR i p h t,y.2.1≤h+1:=by
 have hm:sD i≤1:=by unfold sD;split <;> omega
 unfold yR
 intro y hy
 (repeat' split at hy) <;> simp at hy
 ·subst hy;simp
 ·rcases hy with rfl | rfl <;> simp <;> omega
 ·rcases hy with rfl | rfl <;> simp <;> omega
 ·rcases hy with rfl | rfl <;> simp
 ·subst hy;simp
 ·subst hy;simp;omega
theorem Pc.fin{S:Nat}{Q:List Nat}{c:List LI}{s:List IR}{H T:Nat}(p:Pc S Q c s 0 (0,0) (0,0) H T)(hH:H≤200)(hT:T≤20):∃ c',c'.map LI.i=s++[iV 0 0 e0,iN 12 0]∧uS S Q c':=by
 have q1:Pc S Q [⟨iV 0 0 e0,0,0⟩] [iV 0 0 e0] (0+s.length) (0,0) (1,0) 200 20:=
  Pc.one (.inl ⟨rfl,rfl,rfl,rfl,.inl ⟨rfl,rfl,rfl⟩⟩) (by simp[iV]) (by simp[mM,iV]) (by simp[iV]) (fun p=>.inl (by rw[fM (by simp[iV])];simp[mM,sD,iV])) (by omega) (by omega)
 have q2:Pc S Q [⟨iN 12 0,1,0⟩] [iN 12 0] (0+s.length+1) (1,0) (1000,1000) 200 20:=
  Pc.one (qTY (.inl rfl)) (by simp[iN]) (by simp[mM,iN]) (by simp[iN]) (fun p=>.inr (by simp[yR,iN])) (by omega) (by omega)
 have q:=(p.mono (Nat.le_refl _) hH hT).app (q1.app q2)
 refine⟨_,q.eq,?_,?_,?_⟩
 ·rw[List.length_append];simp
 ·intro x hx
  have e:=q.st
  generalize c++([⟨iV 0 0 e0,0,0⟩]++[⟨iN 12 0,1,0⟩])=cc at hx e q
  cases cc with
  | nil=>simp at hx
  | cons y r=>
   simp at hx
   subst hx
   have e':(y.h,y.t)=((0:Nat),(0:Nat)):=e
   injection e' with e1 e2
   exact⟨e1,e2,q.nj y rfl⟩
 ·intro k x hx
  have hm:=List.mem_of_getElem? hx
  obtain⟨o1,o2,o3⟩:=q.ok k x hx
  refine⟨o1,o2,(q.bd x hm).1,(q.bd x hm).2,q.ins x hm,fun y hy=>?_⟩
  rw[Nat.zero_add]at o3
  obtain⟨l,r,hc,hq,hl⟩:=o3 y hy
  have hbd:=qSe o1 y hy
  have hh:=(q.bd x hm).1
  cases r with
  | nil=>
   have:y.2=(1000,1000):=hl.symm
   rw[this]at hbd
   dsimp only at hbd
   omega
  | cons z r=>
   refine⟨z,?_,hl⟩
   rw[hc,hq,Nat.zero_add]
   simp
theorem qT7{k:Int}(h:toB k=true):11≤k∧k≤20:=by
 unfold toB at h
 simpa using h
theorem SX.top{ns:List TN}{root:Int}{fs:List Int}{Q:List Nat}{n:Nat}(H:SX ns root fs Q n):∀ (ks:List Int) (lo hi:Nat) (x y:SC) (a h t b n2:Nat),hi≤n→hi≤n2→y7 ns ks lo hi→(∀ j∈ks,toB (kd ns j)=true)→Tr ns ks b→(ks.foldl (fun x j=>sn ns root n2 j x) y).fc=0→x.nm=y.nm→x.nm.length≤x.mo→x.mo≤20→
  (ck (cg ns root fs n) (ks.filter fun j=>jT ns j != 20) x a).x.nm=(ks.foldl (fun x j=>sn ns root n2 j x) y).nm∧(ck (cg ns root fs n) (ks.filter fun j=>jT ns j != 20) x a).x.nm.length≤(ck (cg ns root fs n) (ks.filter fun j=>jT ns j != 20) x a).x.mo∧x.mo≤(ck (cg ns root fs n) (ks.filter fun j=>jT ns j != 20) x a).x.mo∧(ck (cg ns root fs n) (ks.filter fun j=>jT ns j != 20) x a).x.mo≤20∧∃ c,Pc (ck (cg ns root fs n) (ks.filter fun j=>jT ns j != 20) x a).x.mo Q c (ck (cg ns root fs n) (ks.filter fun j=>jT ns j != 20) x a).s a (h,t) (h,t) (h+(hi-lo)) (t+b)
 | [],lo,hi,x,y,a,h,t,b,n2,_,_,hs,_,_,_,rS,nQ,yE=>⟨rS,nQ,Nat.le_refl _,yE,[],Pc.nil _ _ _ _ _ _⟩
 | j::r,lo,hi,x,y,a,h,t,b,n2,hn,hn2,hs,he,htr,dQ,rS,nQ,yE=>by
  obtain⟨qX,m,rfl,xC,hg,hk,h1,h2,h3,h4⟩:=hs.head
  have hm:ns[((qX:Nat):Int).toNat]? = some m:=by rw[Int.toNat_natCast];exact xC
  have qAw:(sn ns root n2 (qX:Int) y).fc=0:=lX r _ dQ
  obtain⟨_,_,tr1,tr2⟩:=htr.head hm
  have hkd:=he _ (List.mem_cons_self)
  by_cases qSI:m.k=20
  ·rw[List.filter_cons_of_neg (by rw[l9 hm,qSI];decide)]
   obtain⟨n3,rfl⟩:∃ n3,n2=n3+1:=⟨n2-1,by omega⟩
   have e:sn ns root (n3+1) (qX:Int) y=y:=by rw[lM hm,if_neg (by omega),if_neg (by omega),if_pos qSI]
   have qQR:(r.foldl (fun x j=>sn ns root (n3+1) j x) y).fc=0:=by have:=dQ;rw[List.foldl_cons,e]at this;exact this
   obtain⟨f1,f2,f3,f4,d,p2⟩:=SX.top H r (qX+1) hi x y a h t b (n3+1) hn hn2 h2 (fun j hj=>he j (List.mem_cons_of_mem _ hj)) tr2 qQR rS nQ yE
   rw[List.foldl_cons,e]
   exact⟨f1,f2,f3,f4,d,p2.mono (Nat.le_refl _) (by omega) (Nat.le_refl _)⟩
  ·rw[List.filter_cons_of_pos (by rw[l9 hm];simpa using qSI)]
   rw[r7 hm]at hkd
   have zX:stB (kd ns ((qX:Nat):Int))=true:=by
    rw[r7 hm]
    obtain⟨k1,k2⟩:=qT7 hkd
    unfold stB
    simp
    omega
   obtain⟨e1,e2,e3,e4,c,p1⟩:=H qX lo x y a h t b n2 (by omega) (by omega) h1 zX tr1 qAw rS nQ yE
   obtain⟨f1,f2,f3,f4,d,p2⟩:=SX.top H r (qX+1) hi (cg ns root fs n (qX:Int) x a).x (sn ns root n2 (qX:Int) y) (a+(cg ns root fs n (qX:Int) x a).s.length) h t b n2 hn hn2 h2 (fun j hj=>he j (List.mem_cons_of_mem _ hj)) tr2 dQ e1 e2 e4
   exact⟨f1,f2,Nat.le_trans e3 f3,f4,c++d,(p1.mono f3 (by omega) (Nat.le_refl _)).app (p2.mono (Nat.le_refl _) (by omega) (Nat.le_refl _))⟩
structure qJ3(Q:List Nat)(f:FR):Prop where
 sl:f.slots≤20
 pa:f.params≤f.slots
 code:∃ c,c.map LI.i=f.code∧uS f.slots Q c
theorem qNm{ns:List TN}{r:Nat}{m:TN}{fs:List Int}{Q:List Nat}(hF:Fns ns (r:Int) fs Q)(hm:ns[r]? = some m)(hs:y7 ns m.kids 0 r)(hk:∀ j∈m.kids,toB (kd ns j)=true)(htr:Tr ns m.kids 20)(hr:r<ns.length)(hl:ns.length≤200)(dQ:(kJ ns (r:Int) (r:Int)).fc=0):qJ3 Q (vT ns (r:Int) fs (r:Int))∧(vT ns (r:Int) fs (r:Int)).params=1:=by
 have hka:gF ns (r:Int)=m.kids:=by unfold gF;rw[Int.toNat_natCast,hm];rfl
 have hb:mI ns (r:Int) (r:Int)=qQ sH (r:Int) ⟨[],0,0,0,0⟩:=by unfold mI;rw[if_pos rfl]
 have uX:(mI ns (r:Int) (r:Int)).nm=[sH]:=by rw[hb,vI];rfl
 have kM:(mI ns (r:Int) (r:Int)).mo=1:=by rw[hb,cY];rfl
 unfold kJ at dQ
 rw[if_pos rfl,hka]at dQ
 obtain⟨f1,f2,f3,f4,c,p⟩:=SX.top (SX.all hF (ns.length+1)) m.kids 0 r (mI ns (r:Int) (r:Int)) (mI ns (r:Int) (r:Int)) 0 0 0 20 (ns.length+1) (by omega) (by omega) hs hk htr dQ rfl (by rw[uX,kM];decide) (by rw[kM];omega)
 have hu:qAF ns (r:Int) fs (r:Int)=ck (cg ns (r:Int) fs (ns.length+1)) (m.kids.filter fun j=>jT ns j != 20) (mI ns (r:Int) (r:Int)) 0:=by unfold qAF;rw[if_pos rfl,hka]
 obtain⟨c',e',g⟩:=p.fin (by omega) (by omega)
 refine⟨⟨?_,?_,c',?_,?_⟩,?_⟩
 ·unfold vT;dsimp only;rw[hu];exact f4
 ·unfold vT;dsimp only;rw[hu,uX];rw[kM]at f3;exact f3
 ·unfold vT;dsimp only;rw[hu];exact e'
 ·unfold vT;dsimp only;rw[hu];exact g
 ·unfold vT;dsimp only;rw[uX];rfl
theorem qBT{k:Int}:∀ (nm:List ByteArray) (x:SC),(nm.foldl (fun x t=>qQ t k x) x).fc=0→x.nm.length=x.mo→x.mo≤20→(nm.foldl (fun x t=>qQ t k x) x).nm=x.nm++nm∧(nm.foldl (fun x t=>qQ t k x) x).mo=x.nm.length+nm.length∧x.nm.length+nm.length≤20∧x.fc=0
 | [],x,h,h1,h2=>⟨(List.append_nil _).symm,by simp[h1],by simp;omega,h⟩
 | t::r,x,h,h1,h2=>by
  have hb:(qQ t k x).nm.length=(qQ t k x).mo:=by rw[vI,cY,List.length_append,List.length_singleton];omega
  have dQ:(qQ t k x).fc=0:=eX (fun x t h=>(tF h).1) r _ h
  obtain⟨g1,g2⟩:=tF dQ
  obtain⟨i1,i2,i3,i4⟩:=qBT r (qQ t k x) h hb (by rw[cY];omega)
  rw[List.foldl_cons]
  rw[vI]at i1 i2 i3
  refine⟨by rw[i1];simp,by rw[i2,List.length_append];simp;omega,by rw[List.length_append]at i3;simp at i3 ⊢;omega,g1⟩
theorem qOh{ns:List TN}{root:Int}{k lo:Nat}{m:TN}{fs:List Int}{Q:List Nat}(hF:Fns ns root fs Q)(xC:ns[k]? = some m)(hs:y7 ns [(k:Int)] lo (k+1))(yE:m.k=20)(hkr:(k:Int)≠root)(htr:Tr ns [(k:Int)] 20)(hr:k<ns.length)(hl:ns.length≤200)(dQ:(kJ ns root (k:Int)).fc=0):qJ3 Q (vT ns root fs (k:Int))∧(vT ns root fs (k:Int)).params=m.names.length:=by
 have hm:ns[((k:Nat):Int).toNat]? = some m:=by rw[Int.toNat_natCast];exact xC
 obtain⟨qX,m',e,aK,hg,oG,_⟩:=hs.head
 obtain rfl:k=qX:=by omega
 obtain rfl:m=m':=Option.some.inj (xC.symm.trans aK)
 have hka:gF ns (k:Int)=m.kids:=by unfold gF;rw[hm];rfl
 have hna:zK ns (k:Int)=m.names:=by unfold zK;rw[hm];rfl
 obtain⟨uG,_⟩:=lZ hg.1
 have xZ:m.kids.length=1:=by unfold mB at uG;rw[if_neg (by omega),if_pos (by omega)]at uG;simpa using uG
 have ht1:m.kids.take 1=m.kids:=List.take_of_length_le (by omega)
 have hkb:∀ j∈m.kids,stB (kd ns j)=true:=fun j hj=>by
  obtain⟨i,hi⟩:=List.getElem?_of_mem hj
  have:=hg.2 i j hi
  unfold kY at this
  rw[if_neg (by omega),if_pos (.inr yE)]at this
  rw[eq_of_beq this]
  exact qEt
 obtain⟨trk,_⟩:=htr.head hm
 rw[if_neg (by omega)]at trk
 unfold kJ at dQ
 rw[if_neg hkr,hka,ht1]at dQ
 have hbf:=lX _ _ dQ
 have hb:mI ns root (k:Int)=m.names.foldl (fun x t=>qQ t (k:Int) x) ⟨[],0,0,0,0⟩:=by unfold mI;rw[if_neg hkr,hna]
 obtain⟨b1,b2,b3,_⟩:=qBT m.names ⟨[],0,0,0,0⟩ (by rw[←hb];exact hbf) rfl (by simp)
 rw[←hb]at b1 b2
 simp at b1 b2 b3
 obtain⟨f1,f2,f3,f4,c,p⟩:=SX.kids (SX.all hF (ns.length+1)) m.kids lo k (mI ns root (k:Int)) (mI ns root (k:Int)) 0 0 0 20 (ns.length+1) (by omega) (by omega) oG hkb trk dQ rfl (by rw[b1,b2];exact Nat.le_refl _) (by rw[b2];exact b3)
 have hu:qAF ns root fs (k:Int)=ck (cg ns root fs (ns.length+1)) m.kids (mI ns root (k:Int)) 0:=by unfold qAF;rw[if_neg hkr,hka,ht1]
 obtain⟨c',e',g⟩:=p.fin (by omega) (by omega)
 refine⟨⟨?_,?_,c',?_,?_⟩,?_⟩
 ·unfold vT;dsimp only;rw[hu];exact f4
 ·unfold vT;dsimp only;rw[hu,b1];rw[b2]at f3;exact f3
 ·unfold vT;dsimp only;rw[hu];exact e'
 ·unfold vT;dsimp only;rw[hu];exact g
 ·unfold vT;dsimp only;rw[b1]
structure dW(l:List FR):Prop where
 f0:∃ f r,l=f::r∧f.name=e0∧f.params=1∧(∀ g∈r,vE g.name=true∧g.params≤4)∧r.length≤8
 all:∀ f∈l,qJ3 (l.tail.map FR.params) f
theorem qB2{ns:List TN}:∀ (ks:List Int) (nm:List ByteArray),(kW ns ks nm).1=0→nm.length≤8→nm.length+(jU ns ks).length≤8∧∀ j∈jU ns ks,(zK ns j).length≤4
 | [],nm,h,hn=>⟨by simpa[jU]using hn,fun j hj=>by simp[jU]at hj⟩
 | j::r,nm,h,hn=>by
  unfold kW at h
  by_cases hk:jT ns j=20
  ·rw[if_neg (by omega)]at h
   have e:jU ns (j::r)=j::jU ns r:=by unfold jU;rw[List.filter_cons_of_pos (by rw[hk];rfl)]
   split at h
   ·exact absurd h (show ¬(12:Int)=0 by decide)
   split at h
   ·exact absurd h (show ¬(6:Int)=0 by decide)
   rename_i h8
   obtain⟨i1,i2⟩:=qB2 r (nm++[jV ns j]) h (by rw[List.length_append,List.length_singleton];omega)
   rw[List.length_append,List.length_singleton]at i1
   rw[e]
   refine⟨by rw[List.length_cons];omega,fun i hi=>?_⟩
   rcases List.mem_cons.1 hi with rfl | hi
   ·omega
   ·exact i2 i hi
  ·rw[if_pos hk]at h
   have e:jU ns (j::r)=jU ns r:=by unfold jU;rw[List.filter_cons_of_neg (by simpa using hk)]
   rw[e]
   exact qB2 r nm h hn
theorem qAn{ns:List TN}{root:Int}:∀ (ks:List Int),(kS ns root ks).1=0→(kJ ns root root).fc=0∧∀ j∈jU ns ks,(kJ ns root j).fc=0
 | [],h=>⟨h,fun j hj=>by simp[jU]at hj⟩
 | j::r,h=>by
  unfold kS at h
  by_cases hk:jT ns j=20
  ·rw[if_neg (by omega)]at h
   have e:jU ns (j::r)=j::jU ns r:=by unfold jU;rw[List.filter_cons_of_pos (by rw[hk];rfl)]
   split at h
   ·rename_i hh
    exact absurd h hh
   ·rename_i hh
    obtain⟨i1,i2⟩:=qAn r h
    rw[e]
    refine⟨i1,fun i hi=>?_⟩
    rcases List.mem_cons.1 hi with rfl | hi
    ·omega
    ·exact i2 i hi
  ·rw[if_pos hk]at h
   have e:jU ns (j::r)=jU ns r:=by unfold jU;rw[List.filter_cons_of_neg (by simpa using hk)]
   rw[e]
   exact qAn r h
theorem qRU{ns:List TN}{ks:List Int}{lo hi:Nat}(h:y7 ns ks lo hi):∀ j∈ks,(lo:Int)≤j∧j<(hi:Int):=by
 induction h with
 | nil=>intro j hj;cases hj
 | cons lo qX hi x ks hx hg h1 h2 i1 i2=>
  intro j hj
  have:=h1.le
  have:=h2.le
  rcases List.mem_cons.1 hj with rfl | hj
  ·omega
  ·have:=i2 j hj;omega
theorem qLO{ns:List TN}{ks:List Int}{lo hi:Nat}(h:y7 ns ks lo hi):ks.Nodup:=by
 induction h with
 | nil=>exact List.nodup_nil
 | cons lo qX hi x ks hx hg h1 h2 i1 i2=>
  rw[List.nodup_cons]
  exact⟨fun hm=>by have:=qRU h2 _ hm;omega,i2⟩
theorem qKb{ns:List TN}{t:ByteArray}:∀ ks:List Int,0≤fnL ns t ks→fnL ns t ks∈jU ns ks
 | [],h=>by unfold fnL at h;omega
 | j::r,h=>by
  unfold fnL at h ⊢
  by_cases hk:jT ns j=20∧(jV ns j).data.toList=t.data.toList
  ·rw[if_pos hk]
   exact cS.2 ⟨List.mem_cons_self,hk.1⟩
  ·rw[if_neg hk]at h ⊢
   have:=cS.1 (qKb r h)
   exact cS.2 ⟨List.mem_cons_of_mem _ this.1,this.2⟩
theorem qPt{ns:List TN}{ks:List Int}{lo hi:Nat}(h:y7 ns ks lo hi){b:Nat}(ht:Tr ns ks b):∀ j∈ks,∃ (k l:Nat) (m:TN),j=(k:Int)∧ns[k]? = some m∧y7 ns [(k:Int)] l (k+1)∧Tr ns [(k:Int)] b∧k<hi∧aD ns m:=by
 induction h with
 | nil=>intro j hj;cases hj
 | cons lo qX hi x ks hx hg h1 h2 i1 i2=>
  intro j hj
  have hle:=h2.le
  obtain⟨_,_,t1,t2⟩:=ht.head (x:=x) (by rw[Int.toNat_natCast];exact hx)
  rcases List.mem_cons.1 hj with rfl | hj
  ·exact⟨qX,lo,x,rfl,hx,.cons lo qX (qX+1) x [] hx hg h1 (.nil _),t1,by omega,hg⟩
  ·exact i2 t2 j hj
theorem qKZ{ns:List TN}{r:Nat}{m:TN}(hm:ns[r]? = some m)(hs:y7 ns m.kids 0 r)(hk:∀ j∈m.kids,toB (kd ns j)=true)(htr:Tr ns m.kids 20)(ht:m.t=em)(hl:ns.length≤200)(hck:(gW ns (r:Int)).1=0):dW (rJ ns (r:Int)):=by
 have hr:r<ns.length:=(List.getElem?_eq_some_iff.1 hm).1
 have hrk:vW ns (r:Int)=m.kids:=by unfold vW;rw[Int.toNat_natCast,hm];rfl
 unfold gW at hck
 rw[hrk]at hck
 split at hck
 ·rename_i h;exact absurd hck h
 rename_i hh
 obtain⟨q1,q2⟩:=qB2 (ns:=ns) m.kids [] (by omega) (by simp)
 obtain⟨b1,b2⟩:=qAn m.kids hck
 simp at q1
 have rP:dK ns (r:Int)=jU ns m.kids:=by unfold dK;rw[hrk]
 have hF:Fns ns (r:Int) (jU ns m.kids) ((jU ns m.kids).map fun j=>(zK ns j).length):=⟨(qLO hs).filter _,fun t h=>by unfold bL at h ⊢;rw[hrk]at h ⊢;exact qKb _ h,rfl⟩
 obtain⟨t1,t2⟩:=qNm hF hm hs hk htr hr hl b1
 have each:∀ j∈jU ns m.kids,qJ3 ((jU ns m.kids).map fun j=>(zK ns j).length) (vT ns (r:Int) (jU ns m.kids) j)∧(vT ns (r:Int) (jU ns m.kids) j).params=(zK ns j).length∧vE (vT ns (r:Int) (jU ns m.kids) j).name=true:=fun j hj=>by
  obtain⟨h1,h2⟩:=cS.1 hj
  obtain⟨k,l,mm,rfl,lR,hsk,cL,hkr,hg⟩:=qPt hs htr j h1
  have qTi:ns[((k:Nat):Int).toNat]? = some mm:=by rw[Int.toNat_natCast];exact lR
  rw[l9 qTi]at h2
  have hna:zK ns (k:Int)=mm.names:=by unfold zK;rw[qTi];rfl
  obtain⟨g1,g2⟩:=qOh (root:=(r:Int)) hF lR hsk h2 (by omega) cL (by omega) hl (b2 _ hj)
  refine⟨g1,by rw[g2,hna],?_⟩
  show vE (jV ns (k:Int))=true
  rw[o7 qTi]
  obtain⟨_,hp⟩:=lZ hg.1
  unfold tB at hp
  rw[if_neg (by omega),if_neg (by omega)]at hp
  split at hp
  ·cases hp
  rw[if_neg (by omega),if_neg (by omega),if_neg (by omega),if_pos (by unfold qEO;rw[h2];decide)]at hp
  simp only[Bool.and_eq_true]at hp
  exact hp.2
 have hQ:((jU ns m.kids).map (vT ns (r:Int) (jU ns m.kids))).map FR.params=(jU ns m.kids).map fun j=>(zK ns j).length:=by
  rw[List.map_map]
  exact List.map_congr_left fun j hj=>(each j hj).2.1
 have hP:rJ ns (r:Int)=vT ns (r:Int) (jU ns m.kids) (r:Int)::(jU ns m.kids).map (vT ns (r:Int) (jU ns m.kids)):=by unfold rJ;rw[rP]
 rw[hP]
 refine⟨⟨_,_,rfl,?_,t2,fun g hg=>?_,by rw[List.length_map];exact q1⟩,fun f hf=>?_⟩
 ·show jV ns (r:Int)=e0
  rw[o7 (x:=m) (by rw[Int.toNat_natCast];exact hm),ht]
  rfl
 ·obtain⟨j,hj,rfl⟩:=List.mem_map.1 hg
  exact⟨(each j hj).2.2,by rw[(each j hj).2.1];exact q2 j hj⟩
 ·rw[List.tail_cons,hQ]
  rcases List.mem_cons.1 hf with rfl | hf
  ·exact t1
  ·obtain⟨j,hj,rfl⟩:=List.mem_map.1 hf
   exact(each j hj).1
end
section
open Go.RowKit Go.Joins
abbrev irV(i:IR):Value:=.agg #[.int .i64 i.op,.int .i64 i.n,.int .i64 i.m,.string i.t,.int .i64 i.vk,.int .i64 i.vn,.string i.vt]
def vY(w:World)(p:Option Addr)(code:List IR):Prop:=∀ i (h:i<code.length),∃ b off,p=some ⟨b,off,none⟩∧w.cell? ⟨b,off+i*7,none⟩=some (.int .i64 code[i].op)∧w.cell? ⟨b,off+i*7+1,none⟩=some (.int .i64 code[i].n)∧w.cell? ⟨b,off+i*7+2,none⟩=some (.int .i64 code[i].m)∧w.cell? ⟨b,off+i*7+3,none⟩=some (.string code[i].t)∧w.cell? ⟨b,off+i*7+4,none⟩=some (.int .i64 code[i].vk)∧w.cell? ⟨b,off+i*7+5,none⟩=some (.int .i64 code[i].vn)∧w.cell? ⟨b,off+i*7+6,none⟩=some (.string code[i].vt)
theorem vY.later{w w':World}{p:Option Addr}{code:List IR}(h:vY w p code)(hb:Below w.heap.size w w'):vY w' p code:=fun i hi=>by
 obtain⟨b,off,rfl,h0,h1,h2,h3,h4,h5,h6⟩:=h i hi
 exact⟨b,off,rfl,cell_later hb h0,cell_later hb h1,cell_later hb h2,cell_later hb h3,cell_later hb h4,cell_later hb h5,cell_later hb h6⟩
structure sA where
 p:Option Addr
 pc:Nat→Option Addr
 cc:Nat→Nat
def zW(w:World)(L:sA)(fs:List FR):Prop:=∀ i (h:i<fs.length),∃ b off,L.p=some ⟨b,off,none⟩∧w.cell? ⟨b,off+i*4,none⟩=some (.string fs[i].name)∧w.cell? ⟨b,off+i*4+1,none⟩=some (.int .i64 (fs[i].params:Int))∧w.cell? ⟨b,off+i*4+2,none⟩=some (.int .i64 (fs[i].slots:Int))∧w.cell? ⟨b,off+i*4+3,none⟩=some (.slice (L.pc i) fs[i].code.length (L.cc i))∧vY w (L.pc i) fs[i].code
theorem zW.later{w w':World}{L:sA}{fs:List FR}(h:zW w L fs)(hb:Below w.heap.size w w'):zW w' L fs:=fun i hi=>by
 obtain⟨b,off,hp,h0,h1,h2,h3,h4⟩:=h i hi
 exact⟨b,off,hp,cell_later hb h0,cell_later hb h1,cell_later hb h2,cell_later hb h3,h4.later hb⟩
abbrev oB(f:FR)(p:Option Addr)(c:Nat):Value:=.agg #[.string f.name,.int .i64 (f.params:Int),.int .i64 (f.slots:Int),.slice p f.code.length c]
end
section
def qAo(c:List LI)(p:Nat):List Nat:=match c[p]? with | none=>[] | some x=>(yR x.i p x.h x.t).map (·.1)
theorem pO{c:List LI}{p:Nat}{x:LI}(h:c[p]? = some x):qAo c p=(yR x.i p x.h x.t).map (·.1):=by unfold qAo;rw[h]
inductive Rch (c:List LI):Nat→Prop
 | zero:Rch c 0
 | step (p q:Nat):Rch c p→q∈qAo c p→Rch c q
structure nN(c:List LI)(vs:List Bool)(td:List Nat):Prop where
 len:vs.length=c.length
 z:vs[0]? = some true
 r:∀ k,vs[k]? = some true→Rch c k
 td':∀ k∈td,vs[k]? = some true
 cl:∀ k,vs[k]? = some true→k∉td→∀ q∈qAo c k,vs[q]? = some true
theorem nN.done{c:List LI}{vs:List Bool}(h:nN c vs [])(k:Nat):vs[k]? = some true↔Rch c k:=by
 refine⟨h.r k,fun hk=>?_⟩
 induction hk with
 | zero=>exact h.z
 | step p q hp hq ih=>exact h.cl p ih (by simp) q hq
theorem nN.unique{c:List LI}{vs xQ:List Bool}(h:nN c vs [])(h':nN c xQ []):vs=xQ:=by
 apply List.ext_getElem?
 intro k
 by_cases hk:k<c.length
 ·have e1:k<vs.length:=by rw[h.len];exact hk
  have e2:k<xQ.length:=by rw[h'.len];exact hk
  rw[List.getElem?_eq_getElem e1,List.getElem?_eq_getElem e2]
  have i1:=h.done k
  have i2:=h'.done k
  rw[List.getElem?_eq_getElem e1]at i1
  rw[List.getElem?_eq_getElem e2]at i2
  have i3:=i1.trans i2.symm
  cases h1:vs[k] <;> cases h2:xQ[k] <;> simp_all
 ·rw[List.getElem?_eq_none (by rw[h.len];omega),List.getElem?_eq_none (by rw[h'.len];omega)]
structure gE(c:List LI)(vs:List Bool)(td:List Nat)(k:Nat)(ds:List Nat):Prop where
 len:vs.length=c.length
 z:vs[0]? = some true
 r:∀ j,vs[j]? = some true→Rch c j
 td':∀ j∈td,vs[j]? = some true
 cl:∀ j,vs[j]? = some true→j∉td→j≠k→∀ q∈qAo c j,vs[q]? = some true
 k':vs[k]? = some true
 ds':∀ q∈ds,vs[q]? = some true
theorem nN.leave{c:List LI}{vs:List Bool}{td td':List Nat}{k:Nat}(h:nN c vs td)(hk:k∈td)(hs:∀ j,j∈td→j=k∨j∈td')(hs':∀ j∈td',j∈td):gE c vs td' k []:=
 ⟨h.len,h.z,h.r,fun j hj=>h.td' j (hs' j hj),fun j hj hjt hjk=>h.cl j hj (fun hm=>by rcases hs j hm with e | e;exact hjk e;exact hjt e),h.td' k hk,fun q hq=>by simp at hq⟩
theorem gE.old{c:List LI}{vs:List Bool}{td:List Nat}{k:Nat}{ds:List Nat}{q:Nat}(h:gE c vs td k ds)(hq:vs[q]? = some true):gE c vs td k (q::ds):=
 ⟨h.len,h.z,h.r,h.td',h.cl,h.k',fun p hp=>by rcases List.mem_cons.1 hp with rfl | hp;exact hq;exact h.ds' p hp⟩
theorem uR{vs:List Bool}{q j:Nat}(hq:q<vs.length):(vs.set q true)[j]? = some true↔j=q∨vs[j]? = some true:=by
 by_cases e:q=j
 ·subst e
  simp[hq]
 ·rw[List.getElem?_set_ne e]
  exact⟨.inr,fun h=>h.resolve_left (fun e'=>e e'.symm)⟩
theorem gE.new{c:List LI}{vs:List Bool}{td:List Nat}{k:Nat}{ds:List Nat}{q:Nat}(h:gE c vs td k ds)(hs:q∈qAo c k)(hq:q<vs.length):gE c (vs.set q true) (td++[q]) k (q::ds):=by
 refine⟨by rw[List.length_set];exact h.len,(uR hq).2 (.inr h.z),fun j hj=>?_,fun j hj=>?_,fun j hj hjt hjk p hp=>?_,(uR hq).2 (.inr h.k'),fun p hp=>?_⟩
 ·rcases(uR hq).1 hj with rfl | hj
  ·exact .step k _ (h.r k h.k') hs
  ·exact h.r j hj
 ·rcases List.mem_append.1 hj with hj | hj
  ·exact(uR hq).2 (.inr (h.td' j hj))
  ·rw[List.mem_singleton]at hj;exact(uR hq).2 (.inl hj)
 ·rcases(uR hq).1 hj with rfl | hj
  ·exact absurd (List.mem_append_right td (List.mem_singleton.2 rfl)) hjt
  ·exact(uR hq).2 (.inr (h.cl j hj (fun hm=>hjt (List.mem_append_left _ hm)) hjk p hp))
 ·rcases List.mem_cons.1 hp with rfl | hp
  ·exact(uR hq).2 (.inl rfl)
  ·exact(uR hq).2 (.inr (h.ds' p hp))
theorem gE.left{c:List LI}{vs:List Bool}{td:List Nat}{k:Nat}{ds:List Nat}(h:gE c vs td k ds)(hd:∀ q∈qAo c k,q∈ds):nN c vs td:=
 ⟨h.len,h.z,h.r,h.td',fun j hj hjt q hq=>by
  by_cases e:j=k
  ·subst e;exact h.ds' q (hd q hq)
  ·exact h.cl j hj hjt e q hq⟩
def iB(vs:List Bool):Nat:=(vs.filter (fun b=>!b)).length
theorem eR:∀ {vs:List Bool} {q:Nat},vs[q]? = some false→iB (vs.set q true)+1=iB vs
 | [],q,h=>by simp at h
 | b::r,0,h=>by
  simp at h
  subst h
  simp[iB]
 | b::r,q+1,h=>by
  rw[List.getElem?_cons_succ]at h
  have:=eR h
  unfold iB at this ⊢
  rw[List.set_cons_succ]
  cases b <;> simp_all <;> omega
def aN(vs:List Bool):Nat:=(vs.filter id).length
theorem qBy(vs:List Bool):aN vs≤vs.length:=List.length_filter_le _ _
theorem qGk{vs:List Bool}(h:vs[0]? = some true):1≤aN vs:=by
 cases vs with
 | nil=>simp at h
 | cons b r=>
  simp at h
  subst h
  simp[aN]
def qBc(c:List LI)(m:Nat):Prop:=(∀ k x,Rch c k→c[k]? = some x→x.h≤m)∧∃ k x,Rch c k∧c[k]? = some x∧x.h=m
theorem qBc.unique{c:List LI}{m m':Nat}(h:qBc c m)(h':qBc c m'):m=m':=by
 obtain⟨h1,k,x,r,e,rfl⟩:=h
 obtain⟨h2,k',x',r',e',rfl⟩:=h'
 exact Nat.le_antisymm (h2 k x r e) (h1 k' x' r' e')
theorem eO{S:Nat}{Q:List Nat}{c:List LI}(hc:uS S Q c){k:Nat}{x:LI}(hx:c[k]? = some x){q h t:Nat}(hy:(q,h,t)∈yR x.i k x.h x.t):q∈qAo c k∧∃ x',c[q]? = some x'∧x'.h=h∧x'.t=t:=by
 refine⟨by rw[pO hx];exact List.mem_map.2 ⟨_,hy,rfl⟩,?_⟩
 obtain⟨x',h1,h2⟩:=(hc.ok k x hx).2.2.2.2.2 _ hy
 injection h2 with e1 e2
 exact⟨x',h1,e1,e2⟩
theorem qNi{S:Nat}{Q:List Nat}{c:List LI}(hc:uS S Q c){k q:Nat}(h:q∈qAo c k):q<c.length:=by
 unfold qAo at h
 split at h
 ·simp at h
 ·rename_i x hx
  obtain⟨y,hy,rfl⟩:=List.mem_map.1 h
  obtain⟨x',h1,_⟩:=(hc.ok k x hx).2.2.2.2.2 y hy
  exact(List.getElem?_eq_some_iff.1 h1).1
theorem qQc{S:Nat}{Q:List Nat}{c:List LI}(hc:uS S Q c){k:Nat}{x:LI}(hx:c[k]? = some x):x.h-mM x.i+sD x.i≤x.h∨∃ q x',q∈qAo c k∧c[q]? = some x'∧x'.h=x.h-mM x.i+sD x.i:=by
 by_cases hm:x.i.op=1∨x.i.op=2∨x.i.op=4∨x.i.op=5∨x.i.op=10∨x.i.op=11
 ·right
  have e:=fM (i:=x.i) (p:=k) (h:=x.h) (t:=x.t) (by omega)
  obtain⟨h1,x',h2,h3,_⟩:=eO hc hx (q:=k+1) (h:=x.h-mM x.i+sD x.i) (t:=x.t) (by rw[e];simp)
  exact⟨_,x',h1,h2,h3⟩
 ·left
  unfold sD
  rw[if_neg hm]
  omega
theorem s7{S:Nat}{Q:List Nat}{i:IR}(h:fP S Q i):1≤i.op∧i.op≤16:=by
 rcases h with h | h | h | h | h | h | h | h <;> omega
theorem qNV{S:Nat}{Q:List Nat}{i:IR}(h:fP S Q i)(e:i.op=10):0≤i.m:=by
 rcases h with h | h | h | h | h | ⟨_,_,j,q,_,_,h⟩ | h | h <;> omega
theorem qNQ{S:Nat}{Q:List Nat}{i:IR}(h:fP S Q i)(e:i.op=11):0≤i.n:=by
 rcases h with h | h | h | h | h | h | h | h <;> omega
theorem cR{S:Nat}{Q:List Nat}{i:IR}(h:fP S Q i)(e:i.op=6∨i.op=7∨i.op=8∨i.op=9∨i.op=14):0≤i.n:=by
 rcases h with h | h | h | h | h | h | h | h <;> omega
theorem qKg{S:Nat}{Q:List Nat}{c:List LI}(hc:uS S Q c){m:Nat}(h:qBc c m):1≤m:=by
 obtain⟨x,hx⟩:∃ x,c[0]? = some x:=⟨c[0]'hc.ne,List.getElem?_eq_getElem hc.ne⟩
 obtain⟨s1,s2,s3⟩:=hc.st x hx
 obtain⟨o1,o2,o3,o4,o5,o6⟩:=hc.ok 0 x hx
 have hop:=s7 o5
 have key:∃ q x',q∈qAo c 0∧c[q]? = some x'∧x'.h=1:=by
  by_cases oJ:x.i.op=14
  ·have e:yR x.i 0 x.h x.t=[(0+1,x.h,x.t+1),(x.i.n.toNat,x.h+1,x.t)]:=by
    unfold yR
    rw[if_neg (by omega),if_neg (by omega),if_neg (by omega),if_neg (by omega),if_pos oJ]
   obtain⟨h1,x',h2,h3,_⟩:=eO hc hx (q:=x.i.n.toNat) (h:=x.h+1) (t:=x.t) (by rw[e];simp)
   exact⟨_,x',h1,h2,by omega⟩
  ·have nR:x.i.op≠15:=fun e=>by have:=o2 e;omega
   have hmk:sD x.i=1:=by
    unfold mM at o1
    unfold sD
    by_cases wS:x.i.op=10
    ·rw[if_pos (by omega)]
    rw[if_neg wS]at o1
    by_cases sT:x.i.op=11
    ·rw[if_pos (by omega)]
    rw[if_neg sT]at o1
    by_cases h5:x.i.op=5
    ·rw[if_pos h5]at o1;omega
    rw[if_neg h5]at o1
    split at o1
    ·omega
    ·rw[if_pos (by omega)]
   have cB:x.i.op≠12∧x.i.op≠13∧x.i.op≠7∧x.i.op≠8∧x.i.op≠9:=by
    unfold sD at hmk
    split at hmk
    ·omega
    ·omega
   have e:=fM (i:=x.i) (p:=0) (h:=x.h) (t:=x.t) (by omega)
   obtain⟨h1,x',h2,h3,_⟩:=eO hc hx (q:=0+1) (h:=x.h-mM x.i+sD x.i) (t:=x.t) (by rw[e];simp)
   exact⟨_,x',h1,h2,by omega⟩
 obtain⟨q,x',h1,h2,h3⟩:=key
 have:=h.1 q x' (.step 0 q .zero h1) h2
 omega
def xL(op:Int):Bool:=op == 6||op == 7||op == 8||op == 9||op == 14
def qDr(code:List IR)(a:Nat):Bool:=code.any fun i=>i.n == (a:Int)&&xL i.op
def dB(code:List IR)(n:Nat):List Nat:=(List.range n).filter (qDr code)
def qIU(l:List Int):Prop:=l.Pairwise (· < ·)
theorem qHj:∀ {l l':List Int},qIU l→qIU l'→(∀ x,x∈l↔x∈l')→l=l'
 | [],[],_,_,_=>rfl
 | [],y::r,_,_,h=>by have:=(h y).2 (List.mem_cons_self);cases this
 | x::r,[],_,_,h=>by have:=(h x).1 (List.mem_cons_self);cases this
 | x::r,y::s,h1,h2,h=>by
  have hx:=List.pairwise_cons.1 h1
  have hy:=List.pairwise_cons.1 h2
  have e:x=y:=by
   rcases List.mem_cons.1 ((h x).1 (List.mem_cons_self)) with e | e
   ·exact e
   rcases List.mem_cons.1 ((h y).2 (List.mem_cons_self)) with e' | e'
   ·exact e'.symm
   have:=hx.1 y e'
   have:=hy.1 x e
   omega
  subst e
  congr 1
  refine qHj hx.2 hy.2 (fun z=>⟨fun hz=>?_,fun hz=>?_⟩)
  ·rcases List.mem_cons.1 ((h z).1 (List.mem_cons_of_mem _ hz)) with e | e
   ·have:=hx.1 z hz;omega
   ·exact e
  ·rcases List.mem_cons.1 ((h z).2 (List.mem_cons_of_mem _ hz)) with e | e
   ·have:=hy.1 z hz;omega
   ·exact e
end
end Go.Proofs.YtbgkfaclfnkloaaGreatDoor
