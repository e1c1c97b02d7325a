import Derived.Test.YtbgkfaclfnkloaaGreatDoorG47
import Derived.Test.YtbgkfaclfnkloaaGreatDoorG13
import Derived.Test.YtbgkfaclfnkloaaGreatDoorG23
import Derived.Lib.ItoaLen
import Derived.Test.YtbgkfaclfnkloaaGreatDoorG10
import Derived.BigQuiet
namespace Go.Proofs.YtbgkfaclfnkloaaGreatDoor
set_option linter.all false
set_option maxHeartbeats 4000000
set_option maxRecDepth 100000
section
open Go.RowKit Go.Joins Go.WideShapes Go.ChangeShapes
def j6:List (List UInt8):=[[],[112,117,115,104],[108,111,97,100],[115,116,111,114,101],[117,110,97,114,121],[98,105,110,97,114,121],[106,117,109,112],[102,97,108,115,101],[97,110,100],[111,114],[99,97,108,108],[98,117,105,108,116,105,110],[114,101,116,117,114,110],[116,104,114,111,119],[116,114,121],[100,111,110,101],[112,111,112]]
def qJv : String := (Rows.fnCodeRow.laid.map (·.1)).getD 3 ""
def qI9 : String := (Rows.fnCodeRow.laid.map (·.1)).getD 4 ""
theorem gCw:Tryz.prog.globalNamed qJv=some 1:=by kernel_rfl
theorem tCw:(Tryz.prog.globals[1]?).map (·.type)=some 177:=by kernel_rfl
theorem cCw:Tryz.prog.cellsOf 177=12:=by kernel_rfl
theorem gOp:Tryz.prog.globalNamed qI9=some 0:=by kernel_rfl
theorem tOp:(Tryz.prog.globals[0]?).map (·.type)=some 90:=by kernel_rfl
theorem cOp:Tryz.prog.cellsOf 90=17:=by kernel_rfl
theorem qRR:Tryz.prog.cellsOf 9=1:=by kernel_rfl
theorem qAI{H:Type}{enc:TypeId×Value→H}{W:World}{base:Nat}{spare:Nat→Bool}{held:Bool}{m n:Nat}{cs:Array Value}{xs:List (DataW H×List MemPlace)}{ws:List (List UInt8)}(hl:cs.size=n)(hn:xs.length=n)(hw:ws.length=n)
  (hx:xs.map (·.1)=ws.map fun l=>(DataW.lit (.string l):DataW H))
  (hel:∀ i,i<n→DataW.trod enc Tryz.prog W base spare held m 9 ((cs.toList.drop (i*Tryz.prog.cellsOf 9)).take (Tryz.prog.cellsOf 9))=xs[i]?):cs=gU ws:=by
 apply Array.ext
 ·rw[hl];simp[gU,hw]
 ·intro i h1 h2
  have hi:i<n:=by omega
  have he:=hel i hi
  rw[qRR,Nat.mul_one]at he
  have hxi:i<xs.length:=by omega
  rw[List.getElem?_eq_getElem hxi]at he
  obtain⟨s,e1,e2,_⟩:=DataW.trod_string Tryz.underlying9 he
  have hc:cs[i]=.string s:=by
   have:(cs.toList.drop i).take 1=[cs[i]]:=by
    rw[List.drop_eq_getElem_cons (by simpa using h1)]
    simp
   rw[this]at e1
   simpa using e1
  have hw':(ws.map fun l=>(DataW.lit (.string l):DataW H))[i]? = some (.lit (.string s.data.toList)):=by
   rw[←hx,List.getElem?_map,List.getElem?_eq_getElem hxi,e2]
   rfl
  rw[List.getElem?_map]at hw'
  have hiw:i<ws.length:=by omega
  rw[List.getElem?_eq_getElem hiw]at hw'
  simp at hw'
  rw[hc]
  simp[gU,hw']
theorem qTZ{W:World}{g t:Nat}{cs:Array Value}{f:Nat}{p:List MemPlace}{spare:Nat→Bool}{held:Bool}{base:Nat}(hg:Tryz.prog.globalNamed qJv=some g)(ht:(Tryz.prog.globals[g]?).map (·.type)=some t)(hv:W.var? Tryz.prog qJv=some cs)
  {H:Type} {enc:TypeId×Value→H} (hd:DataW.trod enc Tryz.prog W base spare held f t cs.toList=some (.agg (jX.map fun l=>.lit (.string l)),p)):yT W 1 jX:=by
 obtain rfl:=Option.some.inj (gCw.symm.trans hg)
 obtain rfl:=Option.some.inj (tCw.symm.trans ht)
 obtain⟨tt,fr,e⟩:=qGl hg hv
 obtain⟨xs,m,_,hx,hlen,hn,hel⟩:=DataW.trod_array Tryz.underlying177 hd
 rw[cCw]at hlen
 simp only[Prod.mk.injEq,DataW.agg.injEq]at hx
 rw[qAI (n:=12) (by simpa using hlen) hn rfl hx.1.symm hel]at e
 exact⟨tt,fr,e⟩
theorem qTT{W:World}{g t:Nat}{cs:Array Value}{f:Nat}{p:List MemPlace}{spare:Nat→Bool}{held:Bool}{base:Nat}(hg:Tryz.prog.globalNamed qI9=some g)(ht:(Tryz.prog.globals[g]?).map (·.type)=some t)(hv:W.var? Tryz.prog qI9=some cs)
  {H:Type} {enc:TypeId×Value→H} (hd:DataW.trod enc Tryz.prog W base spare held f t cs.toList=some (.agg (j6.map fun l=>.lit (.string l)),p)):yT W 0 j6:=by
 obtain rfl:=Option.some.inj (gOp.symm.trans hg)
 obtain rfl:=Option.some.inj (tOp.symm.trans ht)
 obtain⟨tt,fr,e⟩:=qGl hg hv
 obtain⟨xs,m,_,hx,hlen,hn,hel⟩:=DataW.trod_array Tryz.underlying90 hd
 rw[cOp]at hlen
 simp only[Prod.mk.injEq,DataW.agg.injEq]at hx
 rw[qAI (n:=17) (by simpa using hlen) hn rfl hx.1.symm hel]at e
 exact⟨tt,fr,e⟩
theorem qO5{W:World}(h:laidMetH Tryz.prog Rows.fnCodeRow.laid W):yT W 1 jX:=by
 rw[MakeChecks.laidMetH_plain _ _ _ (by kernel_rfl)]at h
 obtain⟨ps,⟨g0,t0,cs0,f0,p0,q0,hg0,ht0,oI,hd0,_,_⟩,_,_⟩:=(show laidMet Tryz.prog (_::_::_::_) W from h).tail.tail.tail
 exact qTZ hg0 ht0 oI hd0
theorem qO6{W:World}(h:laidMetH Tryz.prog Rows.fnCodeRow.laid W):yT W 0 j6:=by
 rw[MakeChecks.laidMetH_plain _ _ _ (by kernel_rfl)]at h
 obtain⟨ps,⟨g0,t0,cs0,f0,p0,q0,hg0,ht0,oI,hd0,_,_⟩,_,_⟩:=(show laidMet Tryz.prog (_::_::_::_::_) W from h).tail.tail.tail.tail
 exact qTT hg0 ht0 oI hd0
end
section
open Go.RowKit
def rL(a b:ByteArray):ByteArray:=a++⟨#[32]⟩++b
def wd3(a b c:ByteArray):ByteArray:=a++⟨#[32]⟩++b++⟨#[32]⟩++c
def zU(n:Int):ByteArray:=⟨(Lib.itoa n).toArray⟩
def wrV(k n:Int)(t:ByteArray):ByteArray:=if k=3 then ⟨(bV t.data.toList).toArray⟩ else qAi k n t
def j9(op n m:Int)(t:ByteArray)(vk vn:Int)(vt:ByteArray):ByteArray:=
 if op=1 then rL (zI j6 op.toNat) (wrV vk vn vt)
 else if op=4∨op=5 then rL (zI j6 op.toNat) t
 else if op=10 then wd3 (zI j6 op.toNat) (zU n) (zU m)
 else if op=11 then wd3 (zI j6 op.toNat) t (zU n)
 else if op=12∨op=13∨op=15∨op=16 then zI j6 op.toNat
 else rL (zI j6 op.toNat) (zU n)
structure mK(op n m:Int)(t:ByteArray)(vk vn:Int)(vt:ByteArray):Prop where
 o1:1≤op
 o2:op≤16
 v:vC vk vn vt=true
 t:t.size≤20
 n0:0≤n
 n1:n≤10000
 m0:0≤m
 m1:m≤10000
 p:op=1→kB vt.data.toList=true
theorem qIM{l:List UInt8}{n:Int}(h:qCH l=n)(h0:0≤n):l.length≤20∧n≤3:=by
 subst h
 unfold qCH at h0 ⊢
 (repeat' split at h0) <;> (repeat' split) <;> simp_all
 ·rename_i h
  rcases h with rfl | rfl | rfl <;> decide
 ·rename_i h _
  rcases h with rfl | rfl | rfl <;> decide
theorem qLk{l:List UInt8}(h:opB l=true):l.length≤20:=by
 unfold opB at h
 simp at h
 rcases h with ((((((rfl | rfl) | rfl) | rfl) | rfl) | rfl) | rfl) <;> decide
theorem lF:vC 0 0 e0=true:=by simp[vC,e0]
theorem qRZ{S:Nat}{Q:List Nat}{i:IR}(h:fP S Q i)(hS:S≤20)(hQl:Q.length≤8)(hQ:∀ q∈Q,q≤4)(hj:xL i.op=true→i.n<400):mK i.op i.n i.m i.t i.vk i.vn i.vt:=by
 obtain⟨op,n,m,t,vk,vn,vt⟩:=i
 dsimp only at hj ⊢
 rcases h with ⟨ho,hn,hm,ht,hv⟩ | ⟨ho,he,h0,h1⟩ | ⟨ho,he,ht⟩ | ⟨ho,he,ht⟩ | ⟨ho,he,h0⟩ | ⟨ho,he,j,q,hn,hq,hm⟩ | ⟨ho,he,h0,hc⟩ | ⟨ho,he⟩
 ·dsimp only at ho hn hm ht hv
  subst ho hn hm ht
  refine⟨by decide,by decide,?_,by decide,by decide,by decide,by decide,by decide,fun _=>?_⟩
  ·rcases hv with ⟨rfl,rfl,rfl⟩ | ⟨rfl,a,b,rfl⟩ | ⟨rfl,a,rfl⟩ | ⟨rfl,rfl,a⟩
   ·exact lF
   ·simp[vC,e0]
    omega
   ·rcases a with rfl | rfl <;> simp[vC,e0]
   ·unfold kB at a
    simp at a
    have hsl:=jI vt
    simp[vC]
    simp at hsl
    omega
  ·rcases hv with ⟨rfl,rfl,rfl⟩ | ⟨rfl,a,b,rfl⟩ | ⟨rfl,a,rfl⟩ | ⟨rfl,rfl,a⟩
   ·decide
   ·decide
   ·decide
   ·exact a
 ·dsimp only at ho he h0 h1
  unfold iN at he
  injection he with _ _ e3 e4 e5 e6 e7
  subst e3 e4 e5 e6 e7
  refine⟨?_,?_,lF,by decide,h0,?_,by decide,by decide,fun h=>?_⟩ <;> omega
 ·dsimp only at ho he ht
  unfold iT at he
  injection he with _ e2 e3 _ e5 e6 e7
  subst ho e2 e3 e5 e6 e7
  refine⟨by decide,by decide,lF,?_,by decide,by decide,by decide,by decide,fun h=>absurd h (by decide)⟩
  rw[←jI]
  rcases ht with h | h <;> (rw[h];decide)
 ·dsimp only at ho he ht
  unfold iT at he
  injection he with _ e2 e3 _ e5 e6 e7
  subst ho e2 e3 e5 e6 e7
  refine⟨by decide,by decide,lF,?_,by decide,by decide,by decide,by decide,fun h=>absurd h (by decide)⟩
  rw[←jI]
  exact qLk ht
 ·dsimp only at ho he h0 hj
  unfold iN at he
  injection he with _ _ e3 e4 e5 e6 e7
  subst e3 e4 e5 e6 e7
  have hn:n<400:=hj (by unfold xL;rcases ho with rfl | rfl | rfl | rfl | rfl <;> decide)
  refine⟨?_,?_,lF,by decide,h0,?_,by decide,by decide,fun h=>?_⟩ <;> omega
 ·dsimp only at ho he hn hm
  injection he with _ _ _ e4 e5 e6 e7
  subst ho e4 e5 e6 e7
  have iS:=(List.getElem?_eq_some_iff.1 hq).1
  have hq4:=hQ q (List.mem_of_getElem? hq)
  refine⟨by decide,by decide,lF,by decide,?_,?_,?_,?_,fun h=>absurd h (by decide)⟩ <;> omega
 ·dsimp only at ho he h0 hc
  injection he with _ _ e3 _ e5 e6 e7
  subst ho e3 e5 e6 e7
  obtain⟨a,b⟩:=qIM hc h0
  refine⟨by decide,by decide,lF,?_,h0,?_,by decide,by decide,fun h=>absurd h (by decide)⟩
  ·rw[←jI];exact a
  ·omega
 ·dsimp only at ho he
  unfold iN at he
  injection he with _ e2 e3 e4 e5 e6 e7
  subst e2 e3 e4 e5 e6 e7
  refine⟨?_,?_,lF,by decide,by decide,by decide,by decide,by decide,fun h=>?_⟩ <;> omega
theorem gD{k n:Int}{t:ByteArray}(h:vC k n t=true):t.size≤maxLen:=by
 have:t.size≤60:=by
  have hl:=jI t
  rcases qBS h with rfl | rfl | rfl | rfl <;> simp[vC,ByteArray.toList_eq]at h <;> first | (exact h.2) | (simp_all;omega)
 unfold maxLen
 omega
theorem jQ(n:Int)(h0 : -2147483648≤n)(h1:n≤2147483647):(zU n).size≤60:=by
 have:=Lib.itoa_length_le n (by omega) (by omega)
 show(Lib.itoa n).toArray.size≤60
 simp;omega
theorem zB:∀ k:Nat,k<17→(zI j6 k).size≤60:=by decide
theorem qHq:∀ l:List UInt8,(l.flatMap qJw).length≤2*l.length
 | []=>by simp
 | c::r=>by
  have:=qHq r
  rw[List.flatMap_cons,List.length_append]
  have h2:(qJw c).length≤2:=by unfold qJw;split <;> simp
  rw[List.length_cons]
  omega
theorem qBM(k n:Int)(t:ByteArray)(hv:vC k n t=true)(hp:kB t.data.toList=true):(wrV k n t).size≤200:=by
 unfold wrV
 have hl:t.data.toList.length≤60:=by unfold kB at hp;simp at hp;simpa using hp.1
 split
 ·have:=qHq t.data.toList
  show(bV t.data.toList).toArray.size≤200
  unfold bV
  simp at *
  omega
 ·unfold qAi
  split
  ·rename_i h
   subst h
   obtain⟨h0,h1⟩:=eN hv
   have:=jQ n h0 h1
   unfold zU at this
   omega
  ·split
   ·split <;> decide
   ·decide
theorem lL{w w2:World}{op n m:Int}{t:ByteArray}{vk vn:Int}{vt:ByteArray}(hb:Below (w.alloc (.cells #[.int .i64 op,.int .i64 n,.int .i64 m,.string t,.int .i64 vk,.int .i64 vn,.string vt] 41)).heap.size (w.alloc (.cells #[.int .i64 op,.int .i64 n,.int .i64 m,.string t,.int .i64 vk,.int .i64 vn,.string vt] 41)) w2) :
  w.heap.size<w2.heap.size∧Hid (Below w.heap.size w w2)∧Hid (w2.drew.cell? ⟨w.heap.size,0,none⟩=some (.int .i64 op))∧Hid (w2.drew.cell? ⟨w.heap.size,1,none⟩=some (.int .i64 n))∧Hid (w2.drew.cell? ⟨w.heap.size,2,none⟩=some (.int .i64 m))∧Hid (w2.drew.cell? ⟨w.heap.size,3,none⟩=some (.string t))∧Hid (w2.drew.cell? ⟨w.heap.size,4,none⟩=some (.int .i64 vk))∧Hid (w2.drew.cell? ⟨w.heap.size,5,none⟩=some (.int .i64 vn))∧Hid (w2.drew.cell? ⟨w.heap.size,6,none⟩=some (.string vt)):=by
 obtain⟨wZ,nI⟩:=yU hb
 refine⟨by have:=hb.size;simp at this;omega,qC (qE (qD _ _) hb),?_,?_,?_,?_,?_,?_,?_⟩
 all_goals
  refine qC ?_
  show w2.cell? _=_
  rw[wZ _ _ (by simp)]
  simp
theorem nM(w:World)(op n m:Int)(t:ByteArray)(vk vn:Int)(vt:ByteArray) :
  Hid ((w.alloc (.cells #[.int .i64 op,.int .i64 n,.int .i64 m,.string t,.int .i64 vk,.int .i64 vn,.string vt] 41)).drew.cell? ⟨w.heap.size,0,none⟩=some (.int .i64 op))∧Hid ((w.alloc (.cells #[.int .i64 op,.int .i64 n,.int .i64 m,.string t,.int .i64 vk,.int .i64 vn,.string vt] 41)).drew.cell? ⟨w.heap.size,1,none⟩=some (.int .i64 n))∧Hid ((w.alloc (.cells #[.int .i64 op,.int .i64 n,.int .i64 m,.string t,.int .i64 vk,.int .i64 vn,.string vt] 41)).drew.cell? ⟨w.heap.size,2,none⟩=some (.int .i64 m))∧Hid ((w.alloc (.cells #[.int .i64 op,.int .i64 n,.int .i64 m,.string t,.int .i64 vk,.int .i64 vn,.string vt] 41)).drew.cell? ⟨w.heap.size,3,none⟩=some (.string t))∧Hid ((w.alloc (.cells #[.int .i64 op,.int .i64 n,.int .i64 m,.string t,.int .i64 vk,.int .i64 vn,.string vt] 41)).drew.cell? ⟨w.heap.size,4,none⟩=some (.int .i64 vk))∧Hid ((w.alloc (.cells #[.int .i64 op,.int .i64 n,.int .i64 m,.string t,.int .i64 vk,.int .i64 vn,.string vt] 41)).drew.cell? ⟨w.heap.size,5,none⟩=some (.int .i64 vn))∧Hid ((w.alloc (.cells #[.int .i64 op,.int .i64 n,.int .i64 m,.string t,.int .i64 vk,.int .i64 vn,.string vt] 41)).drew.cell? ⟨w.heap.size,6,none⟩=some (.string vt)):=by
 refine⟨?_,?_,?_,?_,?_,?_,?_⟩
 all_goals
  refine qC ?_
  simp
theorem pA{w y:World}{b:Nat}{v0 v1 v2 v3 v4 v5 v6:Value}(hb:Below w.heap.size w y)(h0:Hid (w.cell? ⟨b,0,none⟩=some v0))(h1:Hid (w.cell? ⟨b,1,none⟩=some v1))(h2:Hid (w.cell? ⟨b,2,none⟩=some v2))(h3:Hid (w.cell? ⟨b,3,none⟩=some v3))(h4:Hid (w.cell? ⟨b,4,none⟩=some v4))(h5:Hid (w.cell? ⟨b,5,none⟩=some v5))(h6:Hid (w.cell? ⟨b,6,none⟩=some v6)) :
  y.cell? ⟨b,0,none⟩=some v0∧y.cell? ⟨b,1,none⟩=some v1∧y.cell? ⟨b,2,none⟩=some v2∧y.cell? ⟨b,3,none⟩=some v3∧y.cell? ⟨b,4,none⟩=some v4∧y.cell? ⟨b,5,none⟩=some v5∧y.cell? ⟨b,6,none⟩=some v6:=
 ⟨cell_later hb (qA h0),cell_later hb (qA h1),cell_later hb (qA h2),cell_later hb (qA h3),cell_later hb (qA h4),cell_later hb (qA h5),cell_later hb (qA h6)⟩
end
section
open Go.RowKit Go.Joins
theorem zT(k:Nat)(hk:k<17)(w:World) :
  Calls Tryz.prog 32 #[] w fun e w'=>∃ g:Nat,e=.returned (.slice (some ⟨g,0,none⟩) 17 17)∧w'.cell? ⟨g,k,none⟩=some (.string (zI j6 k))∧Below w.heap.size w w':=by
 have hc:∀ k:Nat,k<17→(j6.map fun l=>Value.string ⟨l.toArray⟩)[k]? = some (.string (zI j6 k)):=by
  intro k hk
  unfold zI
  rw[List.getElem?_map,List.getElem?_eq_getElem (by simpa[j6]using hk)]
  simp[List.getD_eq_getElem?_getD,List.getElem?_eq_getElem (show k<j6.length by simpa[j6]using hk)]
 have hck:=hc k hk
 have HC:=qC hck
 clear hc hck
 go_enter Tryz.func32,Tryz.ntmps32
 go_wp2
 go_ret
 refine⟨_,rfl,?_,qD _ _⟩
 have:=qA HC
 simp[j6]at this
 simp[go_sem]
 exact this
theorem qAt(n:Int)(h0 : -2147483648≤n)(h1:n≤2147483647):Hid (∀ w,Calls Tryz.prog 35 #[.int .i64 n] w fun e w'=>e=.returned (.string (zU n))∧Below w.heap.size w w'):=qC (fun w=>jW n w h0 h1)
theorem qDM(n m:Int)(t:ByteArray)(vk vn:Int)(vt:ByteArray)(w:World)(h:mK 2 n m t vk vn vt) :
  Calls Tryz.prog 13 #[.agg #[.int .i64 2,.int .i64 n,.int .i64 m,.string t,.int .i64 vk,.int .i64 vn,.string vt]] w fun e w'=>e=.returned (.tuple #[.string (j9 2 n m t vk vn vt),.int .i64 0])∧Below w.heap.size w w':=by
 obtain⟨_,_,hv,ht,uJ,uX,xG,kM,hp⟩:=h
 have tM:vt.size≤maxLen:=gD hv
 have hV:=qC (fun w=>jP vk vn vt w tM)
 rw[hv]at hV
 have fE:((t.size:Nat):Int)≤20:=by omega
 have pI:(decide (0≤n)&&decide (n≤10000))=true:=by simp[uJ,uX]
 have tX:(decide (0≤m)&&decide (m≤10000))=true:=by simp[xG,kM]
 have cJ:=qC pI
 have nZ:=qC tX
 have HD:=qAt n (by omega) (by omega)
 have HM:=qAt m (by omega) (by omega)
 have fQ:=jQ n (by omega) (by omega)
 have hmz:=jQ m (by omega) (by omega)
 have HN:=qC (fun w=>zT 2 (by decide) w)
 have HR:Hid (j9 2 n m t vk vn vt=rL (zI j6 2) (zU n)):=qC (by simp[j9])
 have pK:=zB 2 (by decide)
 generalize zI j6 2=wd at HN HR pK
 rw[qA HR]
 generalize zU n=nt at HD fQ
 clear HM hmz
 clear HR pI tX uJ uX xG kM hv hp tM
 go_enter Tryz.func13,Tryz.ntmps13
 go_wp2_with fail
 refine(qP 2 1 16 true _ (by decide)).mono ?_
 rintro e w1 ⟨rfl,rfl⟩
 go_wp2_with fail
 refine(qA hV _).mono ?_
 rintro e w2 ⟨rfl,qY⟩
 obtain⟨wZ,nI⟩:=yU qY
 obtain⟨gB,yX,xI,gA,u7,pM,wH,wX,pL⟩:=lL qY
 clear qY
 go_wp2_with fail
 refine(qP n 0 10000 true _ (qA cJ)).mono ?_
 rintro e wy ⟨rfl,rfl⟩
 go_wp2_with fail
 refine(qP m 0 10000 true _ (qA nZ)).mono ?_
 rintro e wy ⟨rfl,rX⟩
 subst rX
 go_wp2
 go_region_with (go_at_call 32;refine(qA HN _).mono ?_;rintro e y ⟨g,rfl,hgc,jR⟩;have uO:=qC (qE (qF (qA yX)) jR);obtain⟨y0,y1,y2,y3,y4,y5,y6⟩:=pA jR xI gA u7 pM wH wX pL;have pJ:=Nat.lt_of_lt_of_le gB jR.size;clear jR)
 all_goals
  have wR:=uO
  go_wp2_with fail
  refine(qA HD _).mono ?_
  rintro e w4 ⟨rfl,uU⟩
  have rH:=qC (qE (qA wR) uU)
  clear uU
  go_wp2
  exact bodyPost_ret (v:=(.tuple #[.string (rL wd nt),.int .i64 0])) (by simp[results,Tryz.results13,go_sem];rfl) rfl ⟨rfl,qA rH⟩
theorem qDl(n m:Int)(t:ByteArray)(vk vn:Int)(vt:ByteArray)(w:World)(h:mK 3 n m t vk vn vt) :
  Calls Tryz.prog 13 #[.agg #[.int .i64 3,.int .i64 n,.int .i64 m,.string t,.int .i64 vk,.int .i64 vn,.string vt]] w fun e w'=>e=.returned (.tuple #[.string (j9 3 n m t vk vn vt),.int .i64 0])∧Below w.heap.size w w':=by
 obtain⟨_,_,hv,ht,uJ,uX,xG,kM,hp⟩:=h
 have tM:vt.size≤maxLen:=gD hv
 have hV:=qC (fun w=>jP vk vn vt w tM)
 rw[hv]at hV
 have fE:((t.size:Nat):Int)≤20:=by omega
 have pI:(decide (0≤n)&&decide (n≤10000))=true:=by simp[uJ,uX]
 have tX:(decide (0≤m)&&decide (m≤10000))=true:=by simp[xG,kM]
 have cJ:=qC pI
 have nZ:=qC tX
 have HD:=qAt n (by omega) (by omega)
 have HM:=qAt m (by omega) (by omega)
 have fQ:=jQ n (by omega) (by omega)
 have hmz:=jQ m (by omega) (by omega)
 have HN:=qC (fun w=>zT 3 (by decide) w)
 have HR:Hid (j9 3 n m t vk vn vt=rL (zI j6 3) (zU n)):=qC (by simp[j9])
 have pK:=zB 3 (by decide)
 generalize zI j6 3=wd at HN HR pK
 rw[qA HR]
 generalize zU n=nt at HD fQ
 clear HM hmz
 clear HR pI tX uJ uX xG kM hv hp tM
 go_enter Tryz.func13,Tryz.ntmps13
 go_wp2_with fail
 refine(qP 3 1 16 true _ (by decide)).mono ?_
 rintro e w1 ⟨rfl,rfl⟩
 go_wp2_with fail
 refine(qA hV _).mono ?_
 rintro e w2 ⟨rfl,qY⟩
 obtain⟨wZ,nI⟩:=yU qY
 obtain⟨gB,yX,xI,gA,u7,pM,wH,wX,pL⟩:=lL qY
 clear qY
 go_wp2_with fail
 refine(qP n 0 10000 true _ (qA cJ)).mono ?_
 rintro e wy ⟨rfl,rfl⟩
 go_wp2_with fail
 refine(qP m 0 10000 true _ (qA nZ)).mono ?_
 rintro e wy ⟨rfl,rX⟩
 subst rX
 go_wp2
 go_region_with (go_at_call 32;refine(qA HN _).mono ?_;rintro e y ⟨g,rfl,hgc,jR⟩;have uO:=qC (qE (qF (qA yX)) jR);obtain⟨y0,y1,y2,y3,y4,y5,y6⟩:=pA jR xI gA u7 pM wH wX pL;have pJ:=Nat.lt_of_lt_of_le gB jR.size;clear jR)
 all_goals
  have wR:=uO
  go_wp2_with fail
  refine(qA HD _).mono ?_
  rintro e w4 ⟨rfl,uU⟩
  have rH:=qC (qE (qA wR) uU)
  clear uU
  go_wp2
  exact bodyPost_ret (v:=(.tuple #[.string (rL wd nt),.int .i64 0])) (by simp[results,Tryz.results13,go_sem];rfl) rfl ⟨rfl,qA rH⟩
theorem qDD(n m:Int)(t:ByteArray)(vk vn:Int)(vt:ByteArray)(w:World)(h:mK 6 n m t vk vn vt) :
  Calls Tryz.prog 13 #[.agg #[.int .i64 6,.int .i64 n,.int .i64 m,.string t,.int .i64 vk,.int .i64 vn,.string vt]] w fun e w'=>e=.returned (.tuple #[.string (j9 6 n m t vk vn vt),.int .i64 0])∧Below w.heap.size w w':=by
 obtain⟨_,_,hv,ht,uJ,uX,xG,kM,hp⟩:=h
 have tM:vt.size≤maxLen:=gD hv
 have hV:=qC (fun w=>jP vk vn vt w tM)
 rw[hv]at hV
 have fE:((t.size:Nat):Int)≤20:=by omega
 have pI:(decide (0≤n)&&decide (n≤10000))=true:=by simp[uJ,uX]
 have tX:(decide (0≤m)&&decide (m≤10000))=true:=by simp[xG,kM]
 have cJ:=qC pI
 have nZ:=qC tX
 have HD:=qAt n (by omega) (by omega)
 have HM:=qAt m (by omega) (by omega)
 have fQ:=jQ n (by omega) (by omega)
 have hmz:=jQ m (by omega) (by omega)
 have HN:=qC (fun w=>zT 6 (by decide) w)
 have HR:Hid (j9 6 n m t vk vn vt=rL (zI j6 6) (zU n)):=qC (by simp[j9])
 have pK:=zB 6 (by decide)
 generalize zI j6 6=wd at HN HR pK
 rw[qA HR]
 generalize zU n=nt at HD fQ
 clear HM hmz
 clear HR pI tX uJ uX xG kM hv hp tM
 go_enter Tryz.func13,Tryz.ntmps13
 go_wp2_with fail
 refine(qP 6 1 16 true _ (by decide)).mono ?_
 rintro e w1 ⟨rfl,rfl⟩
 go_wp2_with fail
 refine(qA hV _).mono ?_
 rintro e w2 ⟨rfl,qY⟩
 obtain⟨wZ,nI⟩:=yU qY
 obtain⟨gB,yX,xI,gA,u7,pM,wH,wX,pL⟩:=lL qY
 clear qY
 go_wp2_with fail
 refine(qP n 0 10000 true _ (qA cJ)).mono ?_
 rintro e wy ⟨rfl,rfl⟩
 go_wp2_with fail
 refine(qP m 0 10000 true _ (qA nZ)).mono ?_
 rintro e wy ⟨rfl,rX⟩
 subst rX
 go_wp2
 go_region_with (go_at_call 32;refine(qA HN _).mono ?_;rintro e y ⟨g,rfl,hgc,jR⟩;have uO:=qC (qE (qF (qA yX)) jR);obtain⟨y0,y1,y2,y3,y4,y5,y6⟩:=pA jR xI gA u7 pM wH wX pL;have pJ:=Nat.lt_of_lt_of_le gB jR.size;clear jR)
 all_goals
  have wR:=uO
  go_wp2_with fail
  refine(qA HD _).mono ?_
  rintro e w4 ⟨rfl,uU⟩
  have rH:=qC (qE (qA wR) uU)
  clear uU
  go_wp2
  exact bodyPost_ret (v:=(.tuple #[.string (rL wd nt),.int .i64 0])) (by simp[results,Tryz.results13,go_sem];rfl) rfl ⟨rfl,qA rH⟩
theorem qDL(n m:Int)(t:ByteArray)(vk vn:Int)(vt:ByteArray)(w:World)(h:mK 7 n m t vk vn vt) :
  Calls Tryz.prog 13 #[.agg #[.int .i64 7,.int .i64 n,.int .i64 m,.string t,.int .i64 vk,.int .i64 vn,.string vt]] w fun e w'=>e=.returned (.tuple #[.string (j9 7 n m t vk vn vt),.int .i64 0])∧Below w.heap.size w w':=by
 obtain⟨_,_,hv,ht,uJ,uX,xG,kM,hp⟩:=h
 have tM:vt.size≤maxLen:=gD hv
 have hV:=qC (fun w=>jP vk vn vt w tM)
 rw[hv]at hV
 have fE:((t.size:Nat):Int)≤20:=by omega
 have pI:(decide (0≤n)&&decide (n≤10000))=true:=by simp[uJ,uX]
 have tX:(decide (0≤m)&&decide (m≤10000))=true:=by simp[xG,kM]
 have cJ:=qC pI
 have nZ:=qC tX
 have HD:=qAt n (by omega) (by omega)
 have HM:=qAt m (by omega) (by omega)
 have fQ:=jQ n (by omega) (by omega)
 have hmz:=jQ m (by omega) (by omega)
 have HN:=qC (fun w=>zT 7 (by decide) w)
 have HR:Hid (j9 7 n m t vk vn vt=rL (zI j6 7) (zU n)):=qC (by simp[j9])
 have pK:=zB 7 (by decide)
 generalize zI j6 7=wd at HN HR pK
 rw[qA HR]
 generalize zU n=nt at HD fQ
 clear HM hmz
 clear HR pI tX uJ uX xG kM hv hp tM
 go_enter Tryz.func13,Tryz.ntmps13
 go_wp2_with fail
 refine(qP 7 1 16 true _ (by decide)).mono ?_
 rintro e w1 ⟨rfl,rfl⟩
 go_wp2_with fail
 refine(qA hV _).mono ?_
 rintro e w2 ⟨rfl,qY⟩
 obtain⟨wZ,nI⟩:=yU qY
 obtain⟨gB,yX,xI,gA,u7,pM,wH,wX,pL⟩:=lL qY
 clear qY
 go_wp2_with fail
 refine(qP n 0 10000 true _ (qA cJ)).mono ?_
 rintro e wy ⟨rfl,rfl⟩
 go_wp2_with fail
 refine(qP m 0 10000 true _ (qA nZ)).mono ?_
 rintro e wy ⟨rfl,rX⟩
 subst rX
 go_wp2
 go_region_with (go_at_call 32;refine(qA HN _).mono ?_;rintro e y ⟨g,rfl,hgc,jR⟩;have uO:=qC (qE (qF (qA yX)) jR);obtain⟨y0,y1,y2,y3,y4,y5,y6⟩:=pA jR xI gA u7 pM wH wX pL;have pJ:=Nat.lt_of_lt_of_le gB jR.size;clear jR)
 all_goals
  have wR:=uO
  go_wp2_with fail
  refine(qA HD _).mono ?_
  rintro e w4 ⟨rfl,uU⟩
  have rH:=qC (qE (qA wR) uU)
  clear uU
  go_wp2
  exact bodyPost_ret (v:=(.tuple #[.string (rL wd nt),.int .i64 0])) (by simp[results,Tryz.results13,go_sem];rfl) rfl ⟨rfl,qA rH⟩
theorem qDG(n m:Int)(t:ByteArray)(vk vn:Int)(vt:ByteArray)(w:World)(h:mK 8 n m t vk vn vt) :
  Calls Tryz.prog 13 #[.agg #[.int .i64 8,.int .i64 n,.int .i64 m,.string t,.int .i64 vk,.int .i64 vn,.string vt]] w fun e w'=>e=.returned (.tuple #[.string (j9 8 n m t vk vn vt),.int .i64 0])∧Below w.heap.size w w':=by
 obtain⟨_,_,hv,ht,uJ,uX,xG,kM,hp⟩:=h
 have tM:vt.size≤maxLen:=gD hv
 have hV:=qC (fun w=>jP vk vn vt w tM)
 rw[hv]at hV
 have fE:((t.size:Nat):Int)≤20:=by omega
 have pI:(decide (0≤n)&&decide (n≤10000))=true:=by simp[uJ,uX]
 have tX:(decide (0≤m)&&decide (m≤10000))=true:=by simp[xG,kM]
 have cJ:=qC pI
 have nZ:=qC tX
 have HD:=qAt n (by omega) (by omega)
 have HM:=qAt m (by omega) (by omega)
 have fQ:=jQ n (by omega) (by omega)
 have hmz:=jQ m (by omega) (by omega)
 have HN:=qC (fun w=>zT 8 (by decide) w)
 have HR:Hid (j9 8 n m t vk vn vt=rL (zI j6 8) (zU n)):=qC (by simp[j9])
 have pK:=zB 8 (by decide)
 generalize zI j6 8=wd at HN HR pK
 rw[qA HR]
 generalize zU n=nt at HD fQ
 clear HM hmz
 clear HR pI tX uJ uX xG kM hv hp tM
 go_enter Tryz.func13,Tryz.ntmps13
 go_wp2_with fail
 refine(qP 8 1 16 true _ (by decide)).mono ?_
 rintro e w1 ⟨rfl,rfl⟩
 go_wp2_with fail
 refine(qA hV _).mono ?_
 rintro e w2 ⟨rfl,qY⟩
 obtain⟨wZ,nI⟩:=yU qY
 obtain⟨gB,yX,xI,gA,u7,pM,wH,wX,pL⟩:=lL qY
 clear qY
 go_wp2_with fail
 refine(qP n 0 10000 true _ (qA cJ)).mono ?_
 rintro e wy ⟨rfl,rfl⟩
 go_wp2_with fail
 refine(qP m 0 10000 true _ (qA nZ)).mono ?_
 rintro e wy ⟨rfl,rX⟩
 subst rX
 go_wp2
 go_region_with (go_at_call 32;refine(qA HN _).mono ?_;rintro e y ⟨g,rfl,hgc,jR⟩;have uO:=qC (qE (qF (qA yX)) jR);obtain⟨y0,y1,y2,y3,y4,y5,y6⟩:=pA jR xI gA u7 pM wH wX pL;have pJ:=Nat.lt_of_lt_of_le gB jR.size;clear jR)
 all_goals
  have wR:=uO
  go_wp2_with fail
  refine(qA HD _).mono ?_
  rintro e w4 ⟨rfl,uU⟩
  have rH:=qC (qE (qA wR) uU)
  clear uU
  go_wp2
  exact bodyPost_ret (v:=(.tuple #[.string (rL wd nt),.int .i64 0])) (by simp[results,Tryz.results13,go_sem];rfl) rfl ⟨rfl,qA rH⟩
theorem qDk(n m:Int)(t:ByteArray)(vk vn:Int)(vt:ByteArray)(w:World)(h:mK 9 n m t vk vn vt) :
  Calls Tryz.prog 13 #[.agg #[.int .i64 9,.int .i64 n,.int .i64 m,.string t,.int .i64 vk,.int .i64 vn,.string vt]] w fun e w'=>e=.returned (.tuple #[.string (j9 9 n m t vk vn vt),.int .i64 0])∧Below w.heap.size w w':=by
 obtain⟨_,_,hv,ht,uJ,uX,xG,kM,hp⟩:=h
 have tM:vt.size≤maxLen:=gD hv
 have hV:=qC (fun w=>jP vk vn vt w tM)
 rw[hv]at hV
 have fE:((t.size:Nat):Int)≤20:=by omega
 have pI:(decide (0≤n)&&decide (n≤10000))=true:=by simp[uJ,uX]
 have tX:(decide (0≤m)&&decide (m≤10000))=true:=by simp[xG,kM]
 have cJ:=qC pI
 have nZ:=qC tX
 have HD:=qAt n (by omega) (by omega)
 have HM:=qAt m (by omega) (by omega)
 have fQ:=jQ n (by omega) (by omega)
 have hmz:=jQ m (by omega) (by omega)
 have HN:=qC (fun w=>zT 9 (by decide) w)
 have HR:Hid (j9 9 n m t vk vn vt=rL (zI j6 9) (zU n)):=qC (by simp[j9])
 have pK:=zB 9 (by decide)
 generalize zI j6 9=wd at HN HR pK
 rw[qA HR]
 generalize zU n=nt at HD fQ
 clear HM hmz
 clear HR pI tX uJ uX xG kM hv hp tM
 go_enter Tryz.func13,Tryz.ntmps13
 go_wp2_with fail
 refine(qP 9 1 16 true _ (by decide)).mono ?_
 rintro e w1 ⟨rfl,rfl⟩
 go_wp2_with fail
 refine(qA hV _).mono ?_
 rintro e w2 ⟨rfl,qY⟩
 obtain⟨wZ,nI⟩:=yU qY
 obtain⟨gB,yX,xI,gA,u7,pM,wH,wX,pL⟩:=lL qY
 clear qY
 go_wp2_with fail
 refine(qP n 0 10000 true _ (qA cJ)).mono ?_
 rintro e wy ⟨rfl,rfl⟩
 go_wp2_with fail
 refine(qP m 0 10000 true _ (qA nZ)).mono ?_
 rintro e wy ⟨rfl,rX⟩
 subst rX
 go_wp2
 go_region_with (go_at_call 32;refine(qA HN _).mono ?_;rintro e y ⟨g,rfl,hgc,jR⟩;have uO:=qC (qE (qF (qA yX)) jR);obtain⟨y0,y1,y2,y3,y4,y5,y6⟩:=pA jR xI gA u7 pM wH wX pL;have pJ:=Nat.lt_of_lt_of_le gB jR.size;clear jR)
 all_goals
  have wR:=uO
  go_wp2_with fail
  refine(qA HD _).mono ?_
  rintro e w4 ⟨rfl,uU⟩
  have rH:=qC (qE (qA wR) uU)
  clear uU
  go_wp2
  exact bodyPost_ret (v:=(.tuple #[.string (rL wd nt),.int .i64 0])) (by simp[results,Tryz.results13,go_sem];rfl) rfl ⟨rfl,qA rH⟩
theorem qCi(n m:Int)(t:ByteArray)(vk vn:Int)(vt:ByteArray)(w:World)(h:mK 14 n m t vk vn vt) :
  Calls Tryz.prog 13 #[.agg #[.int .i64 14,.int .i64 n,.int .i64 m,.string t,.int .i64 vk,.int .i64 vn,.string vt]] w fun e w'=>e=.returned (.tuple #[.string (j9 14 n m t vk vn vt),.int .i64 0])∧Below w.heap.size w w':=by
 obtain⟨_,_,hv,ht,uJ,uX,xG,kM,hp⟩:=h
 have tM:vt.size≤maxLen:=gD hv
 have hV:=qC (fun w=>jP vk vn vt w tM)
 rw[hv]at hV
 have fE:((t.size:Nat):Int)≤20:=by omega
 have pI:(decide (0≤n)&&decide (n≤10000))=true:=by simp[uJ,uX]
 have tX:(decide (0≤m)&&decide (m≤10000))=true:=by simp[xG,kM]
 have cJ:=qC pI
 have nZ:=qC tX
 have HD:=qAt n (by omega) (by omega)
 have HM:=qAt m (by omega) (by omega)
 have fQ:=jQ n (by omega) (by omega)
 have hmz:=jQ m (by omega) (by omega)
 have HN:=qC (fun w=>zT 14 (by decide) w)
 have HR:Hid (j9 14 n m t vk vn vt=rL (zI j6 14) (zU n)):=qC (by simp[j9])
 have pK:=zB 14 (by decide)
 generalize zI j6 14=wd at HN HR pK
 rw[qA HR]
 generalize zU n=nt at HD fQ
 clear HM hmz
 clear HR pI tX uJ uX xG kM hv hp tM
 go_enter Tryz.func13,Tryz.ntmps13
 go_wp2_with fail
 refine(qP 14 1 16 true _ (by decide)).mono ?_
 rintro e w1 ⟨rfl,rfl⟩
 go_wp2_with fail
 refine(qA hV _).mono ?_
 rintro e w2 ⟨rfl,qY⟩
 obtain⟨wZ,nI⟩:=yU qY
 obtain⟨gB,yX,xI,gA,u7,pM,wH,wX,pL⟩:=lL qY
 clear qY
 go_wp2_with fail
 refine(qP n 0 10000 true _ (qA cJ)).mono ?_
 rintro e wy ⟨rfl,rfl⟩
 go_wp2_with fail
 refine(qP m 0 10000 true _ (qA nZ)).mono ?_
 rintro e wy ⟨rfl,rX⟩
 subst rX
 go_wp2
 go_region_with (go_at_call 32;refine(qA HN _).mono ?_;rintro e y ⟨g,rfl,hgc,jR⟩;have uO:=qC (qE (qF (qA yX)) jR);obtain⟨y0,y1,y2,y3,y4,y5,y6⟩:=pA jR xI gA u7 pM wH wX pL;have pJ:=Nat.lt_of_lt_of_le gB jR.size;clear jR)
 all_goals
  have wR:=uO
  go_wp2_with fail
  refine(qA HD _).mono ?_
  rintro e w4 ⟨rfl,uU⟩
  have rH:=qC (qE (qA wR) uU)
  clear uU
  go_wp2
  exact bodyPost_ret (v:=(.tuple #[.string (rL wd nt),.int .i64 0])) (by simp[results,Tryz.results13,go_sem];rfl) rfl ⟨rfl,qA rH⟩
theorem qCu(n m:Int)(t:ByteArray)(vk vn:Int)(vt:ByteArray)(w:World)(h:mK 12 n m t vk vn vt) :
  Calls Tryz.prog 13 #[.agg #[.int .i64 12,.int .i64 n,.int .i64 m,.string t,.int .i64 vk,.int .i64 vn,.string vt]] w fun e w'=>e=.returned (.tuple #[.string (j9 12 n m t vk vn vt),.int .i64 0])∧Below w.heap.size w w':=by
 obtain⟨_,_,hv,ht,uJ,uX,xG,kM,hp⟩:=h
 have tM:vt.size≤maxLen:=gD hv
 have hV:=qC (fun w=>jP vk vn vt w tM)
 rw[hv]at hV
 have fE:((t.size:Nat):Int)≤20:=by omega
 have pI:(decide (0≤n)&&decide (n≤10000))=true:=by simp[uJ,uX]
 have tX:(decide (0≤m)&&decide (m≤10000))=true:=by simp[xG,kM]
 have cJ:=qC pI
 have nZ:=qC tX
 have HN:=qC (fun w=>zT 12 (by decide) w)
 have HR:Hid (j9 12 n m t vk vn vt=zI j6 12):=qC (by simp[j9])
 have pK:=zB 12 (by decide)
 generalize zI j6 12=wd at HN HR pK
 rw[qA HR]
 clear HR pI tX uJ uX xG kM hv hp tM
 go_enter Tryz.func13,Tryz.ntmps13
 go_wp2_with fail
 refine(qP 12 1 16 true _ (by decide)).mono ?_
 rintro e w1 ⟨rfl,rfl⟩
 go_wp2_with fail
 refine(qA hV _).mono ?_
 rintro e w2 ⟨rfl,qY⟩
 obtain⟨wZ,nI⟩:=yU qY
 obtain⟨gB,yX,xI,gA,u7,pM,wH,wX,pL⟩:=lL qY
 clear qY
 go_wp2_with fail
 refine(qP n 0 10000 true _ (qA cJ)).mono ?_
 rintro e wy ⟨rfl,rfl⟩
 go_wp2_with fail
 refine(qP m 0 10000 true _ (qA nZ)).mono ?_
 rintro e wy ⟨rfl,rX⟩
 subst rX
 go_wp2
 go_region_with (go_at_call 32;refine(qA HN _).mono ?_;rintro e y ⟨g,rfl,hgc,jR⟩;have uO:=qC (qE (qF (qA yX)) jR);obtain⟨y0,y1,y2,y3,y4,y5,y6⟩:=pA jR xI gA u7 pM wH wX pL;have pJ:=Nat.lt_of_lt_of_le gB jR.size;clear jR)
 all_goals
  have wR:=uO
  go_wp2
  exact bodyPost_ret (v:=(.tuple #[.string wd,.int .i64 0])) (by simp[results,Tryz.results13,go_sem]) rfl ⟨rfl,qA wR⟩
theorem qCs(n m:Int)(t:ByteArray)(vk vn:Int)(vt:ByteArray)(w:World)(h:mK 13 n m t vk vn vt) :
  Calls Tryz.prog 13 #[.agg #[.int .i64 13,.int .i64 n,.int .i64 m,.string t,.int .i64 vk,.int .i64 vn,.string vt]] w fun e w'=>e=.returned (.tuple #[.string (j9 13 n m t vk vn vt),.int .i64 0])∧Below w.heap.size w w':=by
 obtain⟨_,_,hv,ht,uJ,uX,xG,kM,hp⟩:=h
 have tM:vt.size≤maxLen:=gD hv
 have hV:=qC (fun w=>jP vk vn vt w tM)
 rw[hv]at hV
 have fE:((t.size:Nat):Int)≤20:=by omega
 have pI:(decide (0≤n)&&decide (n≤10000))=true:=by simp[uJ,uX]
 have tX:(decide (0≤m)&&decide (m≤10000))=true:=by simp[xG,kM]
 have cJ:=qC pI
 have nZ:=qC tX
 have HN:=qC (fun w=>zT 13 (by decide) w)
 have HR:Hid (j9 13 n m t vk vn vt=zI j6 13):=qC (by simp[j9])
 have pK:=zB 13 (by decide)
 generalize zI j6 13=wd at HN HR pK
 rw[qA HR]
 clear HR pI tX uJ uX xG kM hv hp tM
 go_enter Tryz.func13,Tryz.ntmps13
 go_wp2_with fail
 refine(qP 13 1 16 true _ (by decide)).mono ?_
 rintro e w1 ⟨rfl,rfl⟩
 go_wp2_with fail
 refine(qA hV _).mono ?_
 rintro e w2 ⟨rfl,qY⟩
 obtain⟨wZ,nI⟩:=yU qY
 obtain⟨gB,yX,xI,gA,u7,pM,wH,wX,pL⟩:=lL qY
 clear qY
 go_wp2_with fail
 refine(qP n 0 10000 true _ (qA cJ)).mono ?_
 rintro e wy ⟨rfl,rfl⟩
 go_wp2_with fail
 refine(qP m 0 10000 true _ (qA nZ)).mono ?_
 rintro e wy ⟨rfl,rX⟩
 subst rX
 go_wp2
 go_region_with (go_at_call 32;refine(qA HN _).mono ?_;rintro e y ⟨g,rfl,hgc,jR⟩;have uO:=qC (qE (qF (qA yX)) jR);obtain⟨y0,y1,y2,y3,y4,y5,y6⟩:=pA jR xI gA u7 pM wH wX pL;have pJ:=Nat.lt_of_lt_of_le gB jR.size;clear jR)
 all_goals
  have wR:=uO
  go_wp2
  exact bodyPost_ret (v:=(.tuple #[.string wd,.int .i64 0])) (by simp[results,Tryz.results13,go_sem]) rfl ⟨rfl,qA wR⟩
theorem qB5(n m:Int)(t:ByteArray)(vk vn:Int)(vt:ByteArray)(w:World)(h:mK 15 n m t vk vn vt) :
  Calls Tryz.prog 13 #[.agg #[.int .i64 15,.int .i64 n,.int .i64 m,.string t,.int .i64 vk,.int .i64 vn,.string vt]] w fun e w'=>e=.returned (.tuple #[.string (j9 15 n m t vk vn vt),.int .i64 0])∧Below w.heap.size w w':=by
 obtain⟨_,_,hv,ht,uJ,uX,xG,kM,hp⟩:=h
 have tM:vt.size≤maxLen:=gD hv
 have hV:=qC (fun w=>jP vk vn vt w tM)
 rw[hv]at hV
 have fE:((t.size:Nat):Int)≤20:=by omega
 have pI:(decide (0≤n)&&decide (n≤10000))=true:=by simp[uJ,uX]
 have tX:(decide (0≤m)&&decide (m≤10000))=true:=by simp[xG,kM]
 have cJ:=qC pI
 have nZ:=qC tX
 have HN:=qC (fun w=>zT 15 (by decide) w)
 have HR:Hid (j9 15 n m t vk vn vt=zI j6 15):=qC (by simp[j9])
 have pK:=zB 15 (by decide)
 generalize zI j6 15=wd at HN HR pK
 rw[qA HR]
 clear HR pI tX uJ uX xG kM hv hp tM
 go_enter Tryz.func13,Tryz.ntmps13
 go_wp2_with fail
 refine(qP 15 1 16 true _ (by decide)).mono ?_
 rintro e w1 ⟨rfl,rfl⟩
 go_wp2_with fail
 refine(qA hV _).mono ?_
 rintro e w2 ⟨rfl,qY⟩
 obtain⟨wZ,nI⟩:=yU qY
 obtain⟨gB,yX,xI,gA,u7,pM,wH,wX,pL⟩:=lL qY
 clear qY
 go_wp2_with fail
 refine(qP n 0 10000 true _ (qA cJ)).mono ?_
 rintro e wy ⟨rfl,rfl⟩
 go_wp2_with fail
 refine(qP m 0 10000 true _ (qA nZ)).mono ?_
 rintro e wy ⟨rfl,rX⟩
 subst rX
 go_wp2
 go_region_with (go_at_call 32;refine(qA HN _).mono ?_;rintro e y ⟨g,rfl,hgc,jR⟩;have uO:=qC (qE (qF (qA yX)) jR);obtain⟨y0,y1,y2,y3,y4,y5,y6⟩:=pA jR xI gA u7 pM wH wX pL;have pJ:=Nat.lt_of_lt_of_le gB jR.size;clear jR)
 all_goals
  have wR:=uO
  go_wp2
  exact bodyPost_ret (v:=(.tuple #[.string wd,.int .i64 0])) (by simp[results,Tryz.results13,go_sem]) rfl ⟨rfl,qA wR⟩
theorem qCc(n m:Int)(t:ByteArray)(vk vn:Int)(vt:ByteArray)(w:World)(h:mK 16 n m t vk vn vt) :
  Calls Tryz.prog 13 #[.agg #[.int .i64 16,.int .i64 n,.int .i64 m,.string t,.int .i64 vk,.int .i64 vn,.string vt]] w fun e w'=>e=.returned (.tuple #[.string (j9 16 n m t vk vn vt),.int .i64 0])∧Below w.heap.size w w':=by
 obtain⟨_,_,hv,ht,uJ,uX,xG,kM,hp⟩:=h
 have tM:vt.size≤maxLen:=gD hv
 have hV:=qC (fun w=>jP vk vn vt w tM)
 rw[hv]at hV
 have fE:((t.size:Nat):Int)≤20:=by omega
 have pI:(decide (0≤n)&&decide (n≤10000))=true:=by simp[uJ,uX]
 have tX:(decide (0≤m)&&decide (m≤10000))=true:=by simp[xG,kM]
 have cJ:=qC pI
 have nZ:=qC tX
 have HN:=qC (fun w=>zT 16 (by decide) w)
 have HR:Hid (j9 16 n m t vk vn vt=zI j6 16):=qC (by simp[j9])
 have pK:=zB 16 (by decide)
 generalize zI j6 16=wd at HN HR pK
 rw[qA HR]
 clear HR pI tX uJ uX xG kM hv hp tM
 go_enter Tryz.func13,Tryz.ntmps13
 go_wp2_with fail
 refine(qP 16 1 16 true _ (by decide)).mono ?_
 rintro e w1 ⟨rfl,rfl⟩
 go_wp2_with fail
 refine(qA hV _).mono ?_
 rintro e w2 ⟨rfl,qY⟩
 obtain⟨wZ,nI⟩:=yU qY
 obtain⟨gB,yX,xI,gA,u7,pM,wH,wX,pL⟩:=lL qY
 clear qY
 go_wp2_with fail
 refine(qP n 0 10000 true _ (qA cJ)).mono ?_
 rintro e wy ⟨rfl,rfl⟩
 go_wp2_with fail
 refine(qP m 0 10000 true _ (qA nZ)).mono ?_
 rintro e wy ⟨rfl,rX⟩
 subst rX
 go_wp2
 go_region_with (go_at_call 32;refine(qA HN _).mono ?_;rintro e y ⟨g,rfl,hgc,jR⟩;have uO:=qC (qE (qF (qA yX)) jR);obtain⟨y0,y1,y2,y3,y4,y5,y6⟩:=pA jR xI gA u7 pM wH wX pL;have pJ:=Nat.lt_of_lt_of_le gB jR.size;clear jR)
 all_goals
  have wR:=uO
  go_wp2
  exact bodyPost_ret (v:=(.tuple #[.string wd,.int .i64 0])) (by simp[results,Tryz.results13,go_sem]) rfl ⟨rfl,qA wR⟩
theorem qDw(n m:Int)(t:ByteArray)(vk vn:Int)(vt:ByteArray)(w:World)(h:mK 4 n m t vk vn vt) :
  Calls Tryz.prog 13 #[.agg #[.int .i64 4,.int .i64 n,.int .i64 m,.string t,.int .i64 vk,.int .i64 vn,.string vt]] w fun e w'=>e=.returned (.tuple #[.string (j9 4 n m t vk vn vt),.int .i64 0])∧Below w.heap.size w w':=by
 obtain⟨_,_,hv,ht,uJ,uX,xG,kM,hp⟩:=h
 have tM:vt.size≤maxLen:=gD hv
 have hV:=qC (fun w=>jP vk vn vt w tM)
 rw[hv]at hV
 have fE:((t.size:Nat):Int)≤20:=by omega
 have pI:(decide (0≤n)&&decide (n≤10000))=true:=by simp[uJ,uX]
 have tX:(decide (0≤m)&&decide (m≤10000))=true:=by simp[xG,kM]
 have cJ:=qC pI
 have nZ:=qC tX
 have HN:=qC (fun w=>zT 4 (by decide) w)
 have HR:Hid (j9 4 n m t vk vn vt=rL (zI j6 4) t):=qC (by simp[j9])
 have pK:=zB 4 (by decide)
 generalize zI j6 4=wd at HN HR pK
 rw[qA HR]
 clear HR pI tX uJ uX xG kM hv hp tM
 go_enter Tryz.func13,Tryz.ntmps13
 go_wp2_with fail
 refine(qP 4 1 16 true _ (by decide)).mono ?_
 rintro e w1 ⟨rfl,rfl⟩
 go_wp2_with fail
 refine(qA hV _).mono ?_
 rintro e w2 ⟨rfl,qY⟩
 obtain⟨wZ,nI⟩:=yU qY
 obtain⟨gB,yX,xI,gA,u7,pM,wH,wX,pL⟩:=lL qY
 clear qY
 go_wp2_with fail
 refine(qP n 0 10000 true _ (qA cJ)).mono ?_
 rintro e wy ⟨rfl,rfl⟩
 go_wp2_with fail
 refine(qP m 0 10000 true _ (qA nZ)).mono ?_
 rintro e wy ⟨rfl,rX⟩
 subst rX
 go_wp2
 go_region_with (go_at_call 32;refine(qA HN _).mono ?_;rintro e y ⟨g,rfl,hgc,jR⟩;have uO:=qC (qE (qF (qA yX)) jR);obtain⟨y0,y1,y2,y3,y4,y5,y6⟩:=pA jR xI gA u7 pM wH wX pL;have pJ:=Nat.lt_of_lt_of_le gB jR.size;clear jR)
 all_goals
  have wR:=uO
  go_wp2
  exact bodyPost_ret (v:=(.tuple #[.string (rL wd t),.int .i64 0])) (by simp[results,Tryz.results13,go_sem];rfl) rfl ⟨rfl,qA wR⟩
theorem qDu(n m:Int)(t:ByteArray)(vk vn:Int)(vt:ByteArray)(w:World)(h:mK 5 n m t vk vn vt) :
  Calls Tryz.prog 13 #[.agg #[.int .i64 5,.int .i64 n,.int .i64 m,.string t,.int .i64 vk,.int .i64 vn,.string vt]] w fun e w'=>e=.returned (.tuple #[.string (j9 5 n m t vk vn vt),.int .i64 0])∧Below w.heap.size w w':=by
 obtain⟨_,_,hv,ht,uJ,uX,xG,kM,hp⟩:=h
 have tM:vt.size≤maxLen:=gD hv
 have hV:=qC (fun w=>jP vk vn vt w tM)
 rw[hv]at hV
 have fE:((t.size:Nat):Int)≤20:=by omega
 have pI:(decide (0≤n)&&decide (n≤10000))=true:=by simp[uJ,uX]
 have tX:(decide (0≤m)&&decide (m≤10000))=true:=by simp[xG,kM]
 have cJ:=qC pI
 have nZ:=qC tX
 have HN:=qC (fun w=>zT 5 (by decide) w)
 have HR:Hid (j9 5 n m t vk vn vt=rL (zI j6 5) t):=qC (by simp[j9])
 have pK:=zB 5 (by decide)
 generalize zI j6 5=wd at HN HR pK
 rw[qA HR]
 clear HR pI tX uJ uX xG kM hv hp tM
 go_enter Tryz.func13,Tryz.ntmps13
 go_wp2_with fail
 refine(qP 5 1 16 true _ (by decide)).mono ?_
 rintro e w1 ⟨rfl,rfl⟩
 go_wp2_with fail
 refine(qA hV _).mono ?_
 rintro e w2 ⟨rfl,qY⟩
 obtain⟨wZ,nI⟩:=yU qY
 obtain⟨gB,yX,xI,gA,u7,pM,wH,wX,pL⟩:=lL qY
 clear qY
 go_wp2_with fail
 refine(qP n 0 10000 true _ (qA cJ)).mono ?_
 rintro e wy ⟨rfl,rfl⟩
 go_wp2_with fail
 refine(qP m 0 10000 true _ (qA nZ)).mono ?_
 rintro e wy ⟨rfl,rX⟩
 subst rX
 go_wp2
 go_region_with (go_at_call 32;refine(qA HN _).mono ?_;rintro e y ⟨g,rfl,hgc,jR⟩;have uO:=qC (qE (qF (qA yX)) jR);obtain⟨y0,y1,y2,y3,y4,y5,y6⟩:=pA jR xI gA u7 pM wH wX pL;have pJ:=Nat.lt_of_lt_of_le gB jR.size;clear jR)
 all_goals
  have wR:=uO
  go_wp2
  exact bodyPost_ret (v:=(.tuple #[.string (rL wd t),.int .i64 0])) (by simp[results,Tryz.results13,go_sem];rfl) rfl ⟨rfl,qA wR⟩
theorem qCd(n m:Int)(t:ByteArray)(vk vn:Int)(vt:ByteArray)(w:World)(h:mK 11 n m t vk vn vt) :
  Calls Tryz.prog 13 #[.agg #[.int .i64 11,.int .i64 n,.int .i64 m,.string t,.int .i64 vk,.int .i64 vn,.string vt]] w fun e w'=>e=.returned (.tuple #[.string (j9 11 n m t vk vn vt),.int .i64 0])∧Below w.heap.size w w':=by
 obtain⟨_,_,hv,ht,uJ,uX,xG,kM,hp⟩:=h
 have tM:vt.size≤maxLen:=gD hv
 have hV:=qC (fun w=>jP vk vn vt w tM)
 rw[hv]at hV
 have fE:((t.size:Nat):Int)≤20:=by omega
 have pI:(decide (0≤n)&&decide (n≤10000))=true:=by simp[uJ,uX]
 have tX:(decide (0≤m)&&decide (m≤10000))=true:=by simp[xG,kM]
 have cJ:=qC pI
 have nZ:=qC tX
 have HD:=qAt n (by omega) (by omega)
 have HM:=qAt m (by omega) (by omega)
 have fQ:=jQ n (by omega) (by omega)
 have hmz:=jQ m (by omega) (by omega)
 have HN:=qC (fun w=>zT 11 (by decide) w)
 have HR:Hid (j9 11 n m t vk vn vt=wd3 (zI j6 11) t (zU n)):=qC (by simp[j9])
 have pK:=zB 11 (by decide)
 generalize zI j6 11=wd at HN HR pK
 rw[qA HR]
 generalize zU n=nt at HD fQ
 clear HM hmz
 clear HR pI tX uJ uX xG kM hv hp tM
 go_enter Tryz.func13,Tryz.ntmps13
 go_wp2_with fail
 refine(qP 11 1 16 true _ (by decide)).mono ?_
 rintro e w1 ⟨rfl,rfl⟩
 go_wp2_with fail
 refine(qA hV _).mono ?_
 rintro e w2 ⟨rfl,qY⟩
 obtain⟨wZ,nI⟩:=yU qY
 obtain⟨gB,yX,xI,gA,u7,pM,wH,wX,pL⟩:=lL qY
 clear qY
 go_wp2_with fail
 refine(qP n 0 10000 true _ (qA cJ)).mono ?_
 rintro e wy ⟨rfl,rfl⟩
 go_wp2_with fail
 refine(qP m 0 10000 true _ (qA nZ)).mono ?_
 rintro e wy ⟨rfl,rX⟩
 subst rX
 go_wp2
 go_region_with (go_at_call 32;refine(qA HN _).mono ?_;rintro e y ⟨g,rfl,hgc,jR⟩;have uO:=qC (qE (qF (qA yX)) jR);obtain⟨y0,y1,y2,y3,y4,y5,y6⟩:=pA jR xI gA u7 pM wH wX pL;have pJ:=Nat.lt_of_lt_of_le gB jR.size;clear jR)
 all_goals
  have wR:=uO
  have HY1:=qC (show y.drew.cell? ⟨w.heap.size,1,none⟩=some (.int .i64 n) from y1)
  have HY2:=qC (show y.drew.cell? ⟨w.heap.size,2,none⟩=some (.int .i64 m) from y2)
  have HY3:=qC (show y.drew.cell? ⟨w.heap.size,3,none⟩=some (.string t) from y3)
  have q0:¬9223372036854775807<wd.size+1:=by omega
  have q1:¬9223372036854775807<wd.size+1+t.size:=by omega
  have q2:¬9223372036854775807<wd.size+1+t.size+1:=by omega
  have q3:¬9223372036854775807<wd.size+1+t.size+1+nt.size:=by omega
  go_wp2
  go_region_held3 (fun x=>x.cell? ⟨w.heap.size,1,none⟩=some (.int .i64 n)∧x.cell? ⟨w.heap.size,3,none⟩=some (.string t)) (go_keep) ((go_at_call 35;refine(qA HD _).mono ?_;rintro e z ⟨rfl,xU⟩;have z1:=cell_later xU (qA HY1);have z2:=cell_later xU (qA HY2);have z3:=cell_later xU (qA HY3)))
  all_goals go_wp2
  all_goals exact bodyPost_ret (v:=(.tuple #[.string (wd3 wd t nt),.int .i64 0])) (by simp[results,Tryz.results13,go_sem];rfl) rfl ⟨rfl,qE (qF (qA wR)) xU⟩
theorem qCt(n m:Int)(t:ByteArray)(vn:Int)(vt:ByteArray)(w:World)(h:mK 1 n m t 3 vn vt) :
  Calls Tryz.prog 13 #[.agg #[.int .i64 1,.int .i64 n,.int .i64 m,.string t,.int .i64 3,.int .i64 vn,.string vt]] w fun e w'=>e=.returned (.tuple #[.string (j9 1 n m t 3 vn vt),.int .i64 0])∧Below w.heap.size w w':=by
 obtain⟨_,_,hv,ht,uJ,uX,xG,kM,hp⟩:=h
 have tM:vt.size≤maxLen:=gD hv
 have hV:=qC (fun w=>jP 3 vn vt w tM)
 rw[hv]at hV
 have fE:((t.size:Nat):Int)≤20:=by omega
 have pI:(decide (0≤n)&&decide (n≤10000))=true:=by simp[uJ,uX]
 have tX:(decide (0≤m)&&decide (m≤10000))=true:=by simp[xG,kM]
 have cJ:=qC pI
 have nZ:=qC tX
 have HQ:=qC (fun w=>qE2 vt w (by have:=hp rfl;unfold kB at this;simp at this;have:=jI vt;simp at this;omega))
 have hqz:=qBM 3 vn vt hv (hp rfl)
 have eq:(⟨(bV vt.data.toList).toArray⟩:ByteArray)=wrV 3 vn vt:=by simp[wrV]
 rw[eq]at HQ
 clear eq
 have HN:=qC (fun w=>zT 1 (by decide) w)
 have HR:Hid (j9 1 n m t 3 vn vt=rL (zI j6 1) (wrV 3 vn vt)):=qC (by simp[j9])
 have pK:=zB 1 (by decide)
 generalize zI j6 1=wd at HN HR pK
 rw[qA HR]
 generalize wrV 3 vn vt=nt at HQ hqz
 clear HR pI tX uJ uX xG kM hv hp tM
 go_enter Tryz.func13,Tryz.ntmps13
 go_wp2_with fail
 refine(qP 1 1 16 true _ (by decide)).mono ?_
 rintro e w1 ⟨rfl,rfl⟩
 go_wp2_with fail
 refine(qA hV _).mono ?_
 rintro e w2 ⟨rfl,qY⟩
 obtain⟨wZ,nI⟩:=yU qY
 obtain⟨gB,yX,xI,gA,u7,pM,wH,wX,pL⟩:=lL qY
 clear qY
 go_wp2_with fail
 refine(qP n 0 10000 true _ (qA cJ)).mono ?_
 rintro e wy ⟨rfl,rfl⟩
 go_wp2_with fail
 refine(qP m 0 10000 true _ (qA nZ)).mono ?_
 rintro e wy ⟨rfl,rX⟩
 subst rX
 go_wp2
 go_region_with (go_at_call 32;refine(qA HN _).mono ?_;rintro e y ⟨g,rfl,hgc,jR⟩;have uO:=qC (qE (qF (qA yX)) jR);obtain⟨y0,y1,y2,y3,y4,y5,y6⟩:=pA jR xI gA u7 pM wH wX pL;have pJ:=Nat.lt_of_lt_of_le gB jR.size;clear jR)
 all_goals
  have wR:=uO
  go_wp2_with fail
  refine(qA HQ _).mono ?_
  rintro e w4 ⟨rfl,uU⟩
  have rH:=qC (qE (qA wR) uU)
  clear uU
  go_wp2
  exact bodyPost_ret (v:=(.tuple #[.string (rL wd nt),.int .i64 0])) (by simp[results,Tryz.results13,go_sem];rfl) rfl ⟨rfl,qA rH⟩
theorem qCn(n m:Int)(t:ByteArray)(vk vn:Int)(vt:ByteArray)(w:World)(h:mK 1 n m t vk vn vt)(hk:¬vk=3) :
  Calls Tryz.prog 13 #[.agg #[.int .i64 1,.int .i64 n,.int .i64 m,.string t,.int .i64 vk,.int .i64 vn,.string vt]] w fun e w'=>e=.returned (.tuple #[.string (j9 1 n m t vk vn vt),.int .i64 0])∧Below w.heap.size w w':=by
 obtain⟨_,_,hv,ht,uJ,uX,xG,kM,hp⟩:=h
 have tM:vt.size≤maxLen:=gD hv
 have hV:=qC (fun w=>jP vk vn vt w tM)
 rw[hv]at hV
 have fE:((t.size:Nat):Int)≤20:=by omega
 have pI:(decide (0≤n)&&decide (n≤10000))=true:=by simp[uJ,uX]
 have tX:(decide (0≤m)&&decide (m≤10000))=true:=by simp[xG,kM]
 have cJ:=qC pI
 have nZ:=qC tX
 have HQ:=qC (fun w=>oW vk vn vt w hv)
 have hqz:=qBM vk vn vt hv (hp rfl)
 have eq:qAi vk vn vt=wrV vk vn vt:=by simp[wrV,hk]
 rw[eq]at HQ
 have hk':(vk == 3)=false:=by simp[hk]
 clear eq
 have HN:=qC (fun w=>zT 1 (by decide) w)
 have HR:Hid (j9 1 n m t vk vn vt=rL (zI j6 1) (wrV vk vn vt)):=qC (by simp[j9])
 have pK:=zB 1 (by decide)
 generalize zI j6 1=wd at HN HR pK
 rw[qA HR]
 generalize wrV vk vn vt=nt at HQ hqz
 clear HR pI tX uJ uX xG kM hv hp tM
 go_enter Tryz.func13,Tryz.ntmps13
 go_wp2_with fail
 refine(qP 1 1 16 true _ (by decide)).mono ?_
 rintro e w1 ⟨rfl,rfl⟩
 go_wp2_with fail
 refine(qA hV _).mono ?_
 rintro e w2 ⟨rfl,qY⟩
 obtain⟨wZ,nI⟩:=yU qY
 obtain⟨gB,yX,xI,gA,u7,pM,wH,wX,pL⟩:=lL qY
 clear qY
 go_wp2_with fail
 refine(qP n 0 10000 true _ (qA cJ)).mono ?_
 rintro e wy ⟨rfl,rfl⟩
 go_wp2_with fail
 refine(qP m 0 10000 true _ (qA nZ)).mono ?_
 rintro e wy ⟨rfl,rX⟩
 subst rX
 go_wp2
 go_region_with (go_at_call 32;refine(qA HN _).mono ?_;rintro e y ⟨g,rfl,hgc,jR⟩;have uO:=qC (qE (qF (qA yX)) jR);obtain⟨y0,y1,y2,y3,y4,y5,y6⟩:=pA jR xI gA u7 pM wH wX pL;have pJ:=Nat.lt_of_lt_of_le gB jR.size;clear jR)
 all_goals
  have wR:=uO
  go_wp2_with fail
  refine(qA HQ _).mono ?_
  rintro e w4 ⟨rfl,uU⟩
  have rH:=qC (qE (qA wR) uU)
  clear uU
  go_wp2
  exact bodyPost_ret (v:=(.tuple #[.string (rL wd nt),.int .i64 0])) (by simp[results,Tryz.results13,go_sem];rfl) rfl ⟨rfl,qA rH⟩
theorem qCU(n m:Int)(t:ByteArray)(vk vn:Int)(vt:ByteArray)(w:World)(h:mK 10 n m t vk vn vt) :
  Calls Tryz.prog 13 #[.agg #[.int .i64 10,.int .i64 n,.int .i64 m,.string t,.int .i64 vk,.int .i64 vn,.string vt]] w fun e w'=>e=.returned (.tuple #[.string (j9 10 n m t vk vn vt),.int .i64 0])∧Below w.heap.size w w':=by
 obtain⟨_,_,hv,ht,uJ,uX,xG,kM,hp⟩:=h
 have tM:vt.size≤maxLen:=gD hv
 have hV:=qC (fun w=>jP vk vn vt w tM)
 rw[hv]at hV
 have fE:((t.size:Nat):Int)≤20:=by omega
 have pI:(decide (0≤n)&&decide (n≤10000))=true:=by simp[uJ,uX]
 have tX:(decide (0≤m)&&decide (m≤10000))=true:=by simp[xG,kM]
 have cJ:=qC pI
 have nZ:=qC tX
 have HD:=qAt n (by omega) (by omega)
 have HM:=qAt m (by omega) (by omega)
 have fQ:=jQ n (by omega) (by omega)
 have hmz:=jQ m (by omega) (by omega)
 have HN:=qC (fun w=>zT 10 (by decide) w)
 have HR:Hid (j9 10 n m t vk vn vt=wd3 (zI j6 10) (zU n) (zU m)):=qC (by simp[j9])
 have pK:=zB 10 (by decide)
 generalize zI j6 10=wd at HN HR pK
 rw[qA HR]
 generalize zU n=nt at HD fQ
 generalize zU m=mt at HM hmz
 clear HR pI tX uJ uX xG kM hv hp tM
 go_enter Tryz.func13,Tryz.ntmps13
 go_wp2_with fail
 refine(qP 10 1 16 true _ (by decide)).mono ?_
 rintro e w1 ⟨rfl,rfl⟩
 go_wp2_with fail
 refine(qA hV _).mono ?_
 rintro e w2 ⟨rfl,qY⟩
 obtain⟨wZ,nI⟩:=yU qY
 obtain⟨gB,yX,xI,gA,u7,pM,wH,wX,pL⟩:=lL qY
 clear qY
 go_wp2_with fail
 refine(qP n 0 10000 true _ (qA cJ)).mono ?_
 rintro e wy ⟨rfl,rfl⟩
 go_wp2_with fail
 refine(qP m 0 10000 true _ (qA nZ)).mono ?_
 rintro e wy ⟨rfl,rX⟩
 subst rX
 go_wp2
 go_region_with (go_at_call 32;refine(qA HN _).mono ?_;rintro e y ⟨g,rfl,hgc,jR⟩;have uO:=qC (qE (qF (qA yX)) jR);obtain⟨y0,y1,y2,y3,y4,y5,y6⟩:=pA jR xI gA u7 pM wH wX pL;have pJ:=Nat.lt_of_lt_of_le gB jR.size;clear jR)
 all_goals
  have wR:=uO
  have HY1:=qC (show y.drew.cell? ⟨w.heap.size,1,none⟩=some (.int .i64 n) from y1)
  have HY2:=qC (show y.drew.cell? ⟨w.heap.size,2,none⟩=some (.int .i64 m) from y2)
  have HY3:=qC (show y.drew.cell? ⟨w.heap.size,3,none⟩=some (.string t) from y3)
  have q0:¬9223372036854775807<wd.size+1:=by omega
  have q1:¬9223372036854775807<wd.size+1+nt.size:=by omega
  have q2:¬9223372036854775807<wd.size+1+nt.size+1:=by omega
  have q3:¬9223372036854775807<wd.size+1+nt.size+1+mt.size:=by omega
  go_wp2
  go_region_held3 (fun x=>x.cell? ⟨w.heap.size,1,none⟩=some (.int .i64 n)∧x.cell? ⟨w.heap.size,2,none⟩=some (.int .i64 m)) (go_keep) (first | (have hq:=xU;clear hq;go_at_call 35;refine(qA HM _).mono ?_;rintro e u ⟨rfl,hbu⟩;have u1:=cell_later hbu z1;have u2:=cell_later hbu z2;have u3:=cell_later hbu z3) | (go_at_call 35;refine(qA HD _).mono ?_;rintro e z ⟨rfl,xU⟩;have z1:=cell_later xU (qA HY1);have z2:=cell_later xU (qA HY2);have z3:=cell_later xU (qA HY3)))
  all_goals go_wp2
  all_goals exact bodyPost_ret (v:=(.tuple #[.string (wd3 wd nt mt),.int .i64 0])) (by simp[results,Tryz.results13,go_sem];rfl) rfl ⟨rfl,qE (qE (qF (qA wR)) xU) hbu⟩
theorem qA8(op n m:Int)(t:ByteArray)(vk vn:Int)(vt:ByteArray)(w:World)(h:mK op n m t vk vn vt) :
  Calls Tryz.prog 13 #[.agg #[.int .i64 op,.int .i64 n,.int .i64 m,.string t,.int .i64 vk,.int .i64 vn,.string vt]] w fun e w'=>e=.returned (.tuple #[.string (j9 op n m t vk vn vt),.int .i64 0])∧Below w.heap.size w w':=by
 have hop:op=1∨op=2∨op=3∨op=4∨op=5∨op=6∨op=7∨op=8∨op=9∨op=10∨op=11∨op=12∨op=13∨op=14∨op=15∨op=16:=by have:=h.o1;have:=h.o2;omega
 rcases hop with rfl | rfl | rfl | rfl | rfl | rfl | rfl | rfl | rfl | rfl | rfl | rfl | rfl | rfl | rfl | rfl
 ·by_cases hk:vk=3
  ·subst hk
   exact qCt n m t vn vt w h
  ·exact qCn n m t vk vn vt w h hk
 ·exact qDM n m t vk vn vt w h
 ·exact qDl n m t vk vn vt w h
 ·exact qDw n m t vk vn vt w h
 ·exact qDu n m t vk vn vt w h
 ·exact qDD n m t vk vn vt w h
 ·exact qDL n m t vk vn vt w h
 ·exact qDG n m t vk vn vt w h
 ·exact qDk n m t vk vn vt w h
 ·exact qCU n m t vk vn vt w h
 ·exact qCd n m t vk vn vt w h
 ·exact qCu n m t vk vn vt w h
 ·exact qCs n m t vk vn vt w h
 ·exact qCi n m t vk vn vt w h
 ·exact qB5 n m t vk vn vt w h
 ·exact qCc n m t vk vn vt w h
end
end Go.Proofs.YtbgkfaclfnkloaaGreatDoor
