import Derived.Laws.Strings
import Derived.Test.YtbgkfaclfnkloaaGreatDoorG03
namespace Go.Proofs.YtbgkfaclfnkloaaGreatDoor
set_option linter.all false
set_option maxHeartbeats 4000000
set_option maxRecDepth 100000
section
theorem qE4{a b:ByteArray}(h:a.data.toList=b.data.toList):a=b:=by
 apply ByteArray.ext
 exact Array.toList_inj.1 h
theorem tH(a:ByteArray):(a == a)=true:=by
 cases a
 rename_i d
 show(d == d)=true
 simp
theorem qT0{a b:ByteArray}(h:(a == b)=true):a=b:=by
 have:a.data == b.data:=by cases a;cases b;exact h
 apply ByteArray.ext
 exact eq_of_beq this
theorem qAM{a b:ByteArray}(h:a≠b):(a == b)=false:=by
 cases hb:(a == b)
 ·rfl
 ·exact absurd (qT0 hb) h
theorem tI(a:ByteArray):(a.toList == a.toList)=true:=by simp
theorem qAL{a b:ByteArray}(h:a≠b):(a.toList == b.toList)=false:=beq_eq_false_iff_ne.2 fun e=>h (qE4 (by rw[←ByteArray.toList_eq,←ByteArray.toList_eq,e]))
def jT(ns:List TN)(j:Int):Int:=((ns[j.toNat]?).map (·.k)).getD 0
def jV(ns:List TN)(j:Int):ByteArray:=((ns[j.toNat]?).map (·.t)).getD ⟨#[]⟩
theorem l9{ns:List TN}{j:Int}{x:TN}(h:ns[j.toNat]? = some x):jT ns j=x.k:=by unfold jT;rw[h];rfl
theorem o7{ns:List TN}{j:Int}{x:TN}(h:ns[j.toNat]? = some x):jV ns j=x.t:=by unfold jV;rw[h];rfl
def jU(ns:List TN)(ks:List Int):List Int:=ks.filter fun j=>jT ns j == 20
theorem qD0{ns:List TN}{ks:List Int}{m:Nat}(h:m<ks.length)(hk:jT ns ks[m]=20):jU ns (ks.take (m+1))=jU ns (ks.take m)++[ks[m]]:=by
 unfold jU
 rw[List.take_succ_eq_append_getElem h,List.filter_append,List.filter_cons_of_pos (by rw[hk];rfl)];rfl
theorem qGN{ns:List TN}{ks:List Int}{m:Nat}(h:m<ks.length)(hk:jT ns ks[m]≠20):jU ns (ks.take (m+1))=jU ns (ks.take m):=by
 unfold jU
 rw[List.take_succ_eq_append_getElem h,List.filter_append,List.filter_cons_of_neg (by simpa using hk)];simp
theorem qLs(ns:List TN)(ks:List Int):(jU ns ks).length≤ks.length:=List.length_filter_le _ _
theorem cS{ns:List TN}{ks:List Int}{j:Int}:j∈jU ns ks↔j∈ks∧jT ns j=20:=by
 unfold jU;rw[List.mem_filter];simp
def vW(ns:List TN)(root:Int):List Int:=((ns[root.toNat]?).map (·.kids)).getD []
theorem qGw{ns:List TN}{root:Int}{x:TN}(h:ns[root.toNat]? = some x):vW ns root=x.kids:=by unfold vW;rw[h];rfl
def dK(ns:List TN)(root:Int):List Int:=jU ns (vW ns root)
def rD(ns:List TN)(root:Int):List ByteArray:=(dK ns root).map (jV ns)
def pE(l:List ByteArray):List (List UInt8):=l.map fun t=>t.data.toList
theorem qLy{l:List ByteArray}{s:ByteArray}:s.data.toList∈pE l↔s∈l:=by
 unfold pE
 rw[List.mem_map]
 exact⟨fun ⟨t,ht,e⟩=>qE4 e▸ht,fun h=>⟨s,h,rfl⟩⟩
def qBA(l:List ByteArray)(s:ByteArray):Option Int:=if s.data.toList∈pE l then some (((pE l).idxOf s.data.toList:Nat):Int) else none
theorem qDt{l r:List ByteArray}{s:ByteArray}(h:s∉l):qBA (l++s::r) s=some ((l.length:Nat):Int):=by
 have e0:pE (l++s::r)=pE l++s.data.toList::pE r:=by simp[pE]
 have el:(pE l).length=l.length:=by simp[pE]
 unfold qBA
 rw[e0,if_pos (by simp),List.idxOf_append,if_neg (fun hm=>h (qLy.1 hm))]
 simp[el]
def qCH(l:List UInt8):Int:=
 if l=[108,101,110]∨l=[115,116,114]∨l=[97,98,115] then 1
 else if l=[97,116]∨l=[109,97,120]∨l=[109,105,110] then 2
 else if l=[99,117,116] then 3 else -1
def xF(t:ByteArray):Int:=qCH t.data.toList
structure SC where
 nm:List ByteArray
 st:Nat
 mo:Nat
 fc:Int
 fn:Int
def yD(c k:Int)(x:SC):SC:=if x.fc=0 then { x with fc:=c,fn:=k } else x
def aG(nm:List ByteArray)(t:ByteArray):Nat→Int
 | 0=>-1
 | i+1=>if (nm[i]?).map (·.data.toList)=some t.data.toList then (i:Int) else aG nm t i
def vA(nm:List ByteArray)(t:ByteArray):Int:=aG nm t nm.length
def kT(nm:List ByteArray)(t:ByteArray)(i:Nat):Bool:=(nm.drop i).any fun u=>u.data.toList == t.data.toList
def qLt(t:ByteArray)(x:SC):SC:={ x with nm:=x.nm++[t],mo:=max x.mo (x.nm.length+1) }
def iF(k:Int)(x:SC):SC:=if 20<x.nm.length then yD 7 k x else x
def fB(t:ByteArray)(k:Int)(x:SC):SC:=if kT x.nm t x.st=true then yD 12 k x else x
def qQ(t:ByteArray)(k:Int)(x:SC):SC:=iF k (qLt t (fB t k x))
def fnL(ns:List TN)(t:ByteArray):List Int→Int
 | []=>-1
 | j::r=>if jT ns j=20∧(jV ns j).data.toList=t.data.toList then j else fnL ns t r
def bL(ns:List TN)(root:Int)(t:ByteArray):Int:=fnL ns t (vW ns root)
def zK(ns:List TN)(j:Int):List ByteArray:=((ns[j.toNat]?).map (·.names)).getD []
def qB4(ns:List TN)(root:Int)(t:ByteArray):Int:=if 0≤bL ns root t then ((zK ns (bL ns root t)).length:Int) else xF t
def bA(ns:List TN)(root:Int)(t:ByteArray)(c:Nat)(k:Int)(x:SC):SC:=
 if qB4 ns root t<0 then yD 11 k x else if qB4 ns root t≠(c:Int) then yD 14 k x else x
def jG(x:SC):SC:={ x with st:=x.nm.length }
def k4(x0 x:SC):SC:={ x with st:=x0.st,nm:=x.nm.take x0.nm.length }
def sn(ns:List TN)(root:Int):Nat→Int→SC→SC
 | 0,_,x=>x
 | n+1,k,x=>
  match ns[k.toNat]? with
  | none=>x
  | some m=>
   if m.k=5∨m.k=12 then m.kids.foldl (fun x j=>sn ns root n j x) (if vA x.nm m.t<0 then yD 11 k x else x)
   else if m.k=10 then m.kids.foldl (fun x j=>sn ns root n j x) (bA ns root m.t m.kids.length k x)
   else if m.k=20 then x
   else if m.k=18 then k4 x (m.kids.foldl (fun x j=>sn ns root n j x) (jG x))
   else if m.k=17 then
    (match m.kids with
    | [a,b]=>k4 (sn ns root n a x) (sn ns root n b (qQ m.t k (jG (sn ns root n a x))))
    | _=>x)
   else if m.k=11 then qQ m.t k (m.kids.foldl (fun x j=>sn ns root n j x) x)
   else m.kids.foldl (fun x j=>sn ns root n j x) x
def sH:ByteArray:=⟨#[112,97,116,104]⟩
def mI(ns:List TN)(root k:Int):SC:=if k=root then qQ sH k ⟨[],0,0,0,0⟩ else (zK ns k).foldl (fun x t=>qQ t k x) ⟨[],0,0,0,0⟩
def gF(ns:List TN)(k:Int):List Int:=((ns[k.toNat]?).map (·.kids)).getD []
def kJ(ns:List TN)(root k:Int):SC:=(if k=root then gF ns k else (gF ns k).take 1).foldl (fun x j=>sn ns root (ns.length+1) j x) (mI ns root k)
def kW(ns:List TN):List Int→List ByteArray→Int×Int
 | [],_=>(0,0)
 | j::r,nm=>
  if jT ns j≠20 then kW ns r nm
  else if kT nm (jV ns j) 0=true∨0≤xF (jV ns j) then (12,j)
  else if nm.length=8∨4<(zK ns j).length then (6,j)
  else kW ns r (nm++[jV ns j])
def kS(ns:List TN)(root:Int):List Int→Int×Int
 | []=>((kJ ns root root).fc,(kJ ns root root).fn)
 | j::r=>if jT ns j≠20 then kS ns root r else if (kJ ns root j).fc≠0 then ((kJ ns root j).fc,(kJ ns root j).fn) else kS ns root r
def gW(ns:List TN)(root:Int):Int×Int:=if (kW ns (vW ns root) []).1≠0 then kW ns (vW ns root) [] else kS ns root (vW ns root)
end
end Go.Proofs.YtbgkfaclfnkloaaGreatDoor
