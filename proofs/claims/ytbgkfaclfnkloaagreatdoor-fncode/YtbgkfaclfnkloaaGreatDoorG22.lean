import Derived.Test.YtbgkfaclfnkloaaGreatDoorG21
import Derived.WalkMore
namespace Go.Proofs.YtbgkfaclfnkloaaGreatDoor
set_option linter.all false
set_option maxHeartbeats 4000000
set_option maxRecDepth 100000
open Go.RowKit Go.Joins
def bW(ns:List TN)(root:Int)(s:ByteArray)(r:Int):Prop:=(s∉rD ns root∧r=-1)∨∃ i,∃ hi:i<(dK ns root).length,qBA (rD ns root) s=some ((i:Nat):Int)∧r=(dK ns root)[i]
theorem qFU(ns:List TN)(ks:List Int)(m:Nat)(h:m<ks.length)(hk:jT ns ks[m]=20):jU ns ks=jU ns (ks.take m)++ks[m]::jU ns (ks.drop (m+1)):=by
 have e:ks=ks.take m++ks[m]::ks.drop (m+1):=by simp
 conv=>lhs;rw[e]
 unfold jU
 rw[List.filter_append,List.filter_cons_of_pos (by rw[hk];rfl)]
theorem bW.at{ns:List TN}{root:Int}{s:ByteArray}{ks:List Int}{m:Nat}(hr:vW ns root=ks)(h:m<ks.length)(hk:jT ns ks[m]=20)(ht:jV ns ks[m]=s)(hn:s∉(jU ns (ks.take m)).map (jV ns)):bW ns root s ks[m]:=by
 have e:=qFU ns ks m h hk
 have ef:dK ns root=jU ns (ks.take m)++ks[m]::jU ns (ks.drop (m+1)):=by unfold dK;rw[hr,e]
 refine .inr ⟨(jU ns (ks.take m)).length,by rw[ef];simp,?_,?_⟩
 ·unfold rD
  rw[ef,List.map_append,List.map_cons,ht]
  have:=qDt (r:=(jU ns (ks.drop (m+1))).map (jV ns)) hn
  rw[List.length_map]at this
  exact this
 ·simp[ef]
theorem gR(ns:List TN)(root:Int)(s:ByteArray)(L:rO)(w:World)(hN:uV w L ns)(tY:sW ns)(hT:gI ns root) :
  Calls Tryz.prog 162 #[.agg #[.slice L.p ns.length L.cap,.int .i64 root],.string s] w fun e w'=>∃ r,e=.returned (.int .i64 r)∧bW ns root s r∧Below w.heap.size w w':=by
 obtain⟨l,d,hT⟩:=hT
 obtain⟨hr0,hrl,hrn⟩:=hT.root
 obtain⟨a,rfl⟩:∃ a:Nat,root=(a:Int):=⟨root.toNat,by omega⟩
 rw[Int.toNat_natCast]at hrl hrn
 have hr:ns[(a:Int).toNat]? = some ns[a]:=by rw[Int.toNat_natCast];exact List.getElem?_eq_getElem hrn
 have hl:=tY.1
 have wC:ns[a].kids.length≤1048576:=(tY.2 ns[a] (List.getElem_mem hrn)).2.2.1
 have HRK:=qC (qGw hr)
 have HKD:Hid (∀ j∈ns[a].kids,∃ c:Nat,j=(c:Int)∧c<ns.length):=qC (fun j hj=>by
  obtain⟨h0,hm⟩:=hT.2.1.1.kid a hrl ns[a] (List.getElem?_eq_getElem hrn) j hj
  exact⟨j.toNat,by omega,hT.2.1.1.lt _ hm⟩)
 obtain⟨bn,off,hp,_⟩:=hN a hrn
 rw[hp]
 obtain⟨bn',qC4,hp',q0,q1,q2,q3,q4,q5,q6⟩:=hN.later (qD w (.cells #[.slice (some ⟨bn,off,none⟩) ns.length L.cap,.int .i64 (a:Int)] 94)) a hrn
 rw[hp]at hp'
 obtain⟨rfl,rfl⟩:=(by simpa using hp':bn=bn'∧off=qC4)
 have HQ6:=qC q6
 have HNx:=qC (hN.later (qD w (.cells #[.slice (some ⟨bn,off,none⟩) ns.length L.cap,.int .i64 (a:Int)] 94)))
 have d0:(w.alloc (.cells #[.slice (some ⟨bn,off,none⟩) ns.length L.cap,.int .i64 (a:Int)] 94)).cell? ⟨w.heap.size,0,none⟩=some (.slice (some ⟨bn,off,none⟩) ns.length L.cap):=by simp
 have d1:(w.alloc (.cells #[.slice (some ⟨bn,off,none⟩) ns.length L.cap,.int .i64 (a:Int)] 94)).cell? ⟨w.heap.size,1,none⟩=some (.int .i64 (a:Int)):=by simp
 clear hT hr hr0 hrl q0 q1 q2 q3 q5 q6 hN tY
 generalize ns[a].kids=ks at q4 HQ6 wC HKD HRK
 generalize L.pk a=pk at q4 HQ6
 generalize L.ck a=ck at q4
 have dP:=qC (qD w (.cells #[.slice (some ⟨bn,off,none⟩) ns.length L.cap,.int .i64 (a:Int)] 94))
 go_enter Tryz.func162,Tryz.ntmps162
 go_wp2
 generalize w.alloc (.cells #[.slice (some ⟨bn,off,none⟩) ns.length L.cap,.int .i64 (a:Int)] 94)=w1 at d0 d1 q4 HQ6 HNx dP ⊢
 go_loopw[6] (fun i wx=>∃ m:Nat,m≤ks.length∧i=.int .i64 m∧Hid (s∉(jU ns (ks.take m)).map (jV ns))∧Hid (wx.heap=w1.heap)∧Hid (Below w.heap.size w wx)) (fun i _=>ks.length-(intOf i).toNat)
 case atStart=>exact⟨0,by omega,rfl,qC (by simp[jU]),qC rfl,dP⟩
 case round=>
  obtain⟨m,hm,rfl,oA,hhp,hBx⟩:=hrel
  have hce:∀ a:Addr,wr.cell? a=w1.cell? a:=fun a=>by unfold World.cell?;rw[qA hhp]
  by_cases jF:m<ks.length
  ·obtain⟨bk,ok,kI,y0⟩:=qA HQ6 m jF
   subst kI
   obtain⟨c,hkc,dZ⟩:=qA HKD ks[m] (List.getElem_mem jF)
   obtain⟨bn2,iX,vM,x0,x1,x2,x3,x4,x5,x6⟩:=qA HNx c dZ
   rw[hp]at vM
   obtain⟨rfl,rfl⟩:=(by simpa using vM:bn=bn2∧off=iX)
   have hkx:jT ns ks[m]=ns[c].k:=l9 (by rw[hkc,Int.toNat_natCast];exact List.getElem?_eq_getElem dZ)
   have htx:jV ns ks[m]=ns[c].t:=o7 (by rw[hkc,Int.toNat_natCast];exact List.getElem?_eq_getElem dZ)
   have d0':=(hce _).trans d0
   have y0':=(hce _).trans y0
   have x0':=(hce _).trans x0
   have x2':=(hce _).trans x2
   have cM:(0:Int)≤(c:Int):=Int.natCast_nonneg _
   have xZ:(c:Int)<(ns.length:Int):=by omega
   have xG:(0:Int)≤(m:Int):=Int.natCast_nonneg _
   have kM:(m:Int)<(ks.length:Int):=by omega
   have HFS:Hid (jT ns ks[m]=20→jV ns ks[m]=s→bW ns (a:Int) s (c:Int)):=qC (fun h1 h2=>by
    rw[←hkc]
    exact bW.at (qA HRK) jF h1 h2 (qA oA))
   have HNY:Hid (jT ns ks[m]≠20∨jV ns ks[m]≠s→s∉(jU ns (ks.take (m+1))).map (jV ns)):=qC (fun h=>by
    by_cases yE:jT ns ks[m]=20
    ·rw[qD0 jF yE,List.map_append]
     intro hm
     rcases List.mem_append.1 hm with hm | hm
     ·exact qA oA hm
     ·rcases h with h | h
      ·exact h yE
      ·exact h (List.mem_singleton.1 hm).symm
    ·rw[qGN jF yE]
     exact qA oA)
   rw[hkx,htx]at HFS HNY
   rw[hkc]at y0'
   have DHP:Hid (wr.drew.heap=w1.heap):=qC (qA hhp)
   have DB:Hid (Below w.heap.size w wr.drew):=qC (qA hBx).drew
   clear x1 x3 x4 x5 x6 x0 x2 y0 vM hkx htx hce
   generalize ns[c].k=nk at x0' HFS HNY
   generalize ns[c].t=nt at x2' HFS HNY
   by_cases yE:nk=20
   ·subst yE
    by_cases ht:nt=s
    ·subst ht
     have e1:=tH nt
     have e2:=tI nt
     have hd:=qC (qA HFS rfl rfl)
     clear HFS HNY hkc
     go_wp2
     go_region
     all_goals go_wp2
     all_goals go_ret
     all_goals exact⟨_,rfl,qA hd,qA DB⟩
    ·have e1:=qAM ht
     have e2:=qAL ht
     have hd:=qC (qA HNY (.inr ht))
     clear HFS HNY hkc ht
     go_wp2
     go_region
     all_goals go_wp2
     all_goals (go_roundw;(case rel=>exact⟨m+1,by omega,by go_num,qC (qA hd),qC (qA DHP),qC (qA DB)⟩);(case measure=>simp[intOf];omega))
   ·have e20:(nk == 20)=false:=beq_eq_false_iff_ne.2 yE
    have hd:=qC (qA HNY (.inl yE))
    clear HFS HNY hkc yE
    go_wp2
    go_region
    all_goals go_wp2
    all_goals (go_roundw;(case rel=>exact⟨m+1,by omega,by go_num,qC (qA hd),qC (qA DHP),qC (qA DB)⟩);(case measure=>simp[intOf];omega))
  ·have hd:Hid (bW ns (a:Int) s (-1)):=qC (.inl ⟨by
    have:=qA oA
    rw[show m=ks.length by omega,List.take_length]at this
    unfold rD dK
    rw[qA HRK];exact this,rfl⟩)
   go_wp2
   go_ret
   exact⟨-1,rfl,qA hd,qA hBx⟩
end Go.Proofs.YtbgkfaclfnkloaaGreatDoor
