import Derived.Test.YtbgkfaclfnkloaaGreatDoorG16
import Derived.Test.YtbgkfaclfnkloaaGreatDoorG17
import Derived.Deep.CutRange
namespace Go.Proofs.YtbgkfaclfnkloaaGreatDoor
set_option linter.all false
set_option maxHeartbeats 4000000
set_option maxRecDepth 100000
section
open Go.RowKit Go.Joins
theorem qIs(w:World)(a b c:Obj):(((w.alloc a).alloc b).alloc c).drew.heap[w.heap.size]? = some a∧(((w.alloc a).alloc b).alloc c).drew.heap[w.heap.size+1]? = some b∧(((w.alloc a).alloc b).alloc c).drew.heap[w.heap.size+2]? = some c∧(((w.alloc a).alloc b).alloc c).drew.heap.size=w.heap.size+3:=by
 have s1:(w.alloc a).heap.size=w.heap.size+1:=by simp
 have s2:((w.alloc a).alloc b).heap.size=w.heap.size+2:=by simp
 have e1:=heap_alloc_new w a
 have e2:=heap_alloc_new (w.alloc a) b
 have e3:=heap_alloc_new ((w.alloc a).alloc b) c
 rw[s1]at e2
 rw[s2]at e3
 refine⟨?_,?_,e3,by simp[World.drew]⟩
 ·show(((w.alloc a).alloc b).alloc c).heap[w.heap.size]? = _
  rw[Below.heap_alloc _ _ _ (by omega),Below.heap_alloc _ _ _ (by omega)];exact e1
 ·show(((w.alloc a).alloc b).alloc c).heap[w.heap.size+1]? = _
  rw[Below.heap_alloc _ _ _ (by omega)];exact e2
theorem fN{P:Program}(w:World)(base:Nat)(t ty e:TypeId)(i:TypeInfo)(z:Value)(size bytes:Nat)(ht:P.underlying t=some (.slice e))(hi:P.info? e=some i)(hz:i.zero=some z)
  (qUA:i.size=size) (jR:i.bytes=bytes) (v:Value) (n:Nat) (xs:List Value) (zE:w.ownsRow base e size v n xs) (a:Addr) (m c:Nat) (hm:0<m) (news:List Value) (hl:news.length=m*size) (sL:∀ j u,news[j]? = some u→w.cell? (a.add j)=some u) (h1:∀ u∈news,u.oneCell'=true)
  (h63:n+m≤maxLen) (qON:(n+m)*bytes≤140737488355328) (v':Value) (w':World) (hr:(Builtin.append_ #[t,t] ty #[v,.slice (some a) m c]).run P w=.ok v' w'):v'.ownBlock=v.ownBlock∨v'.ownBlock=some w.heap.size:=by
 subst qUA
 subst jR
 have qY6:n+m≤9223372036854775807:=by simp only[maxLen]at h63;omega
 rcases zE.2 with ⟨rfl,rfl⟩ | ⟨g,cap,cur,rfl,hbg,hg,hnc,hcm,hcs,htake⟩
 ·have hr':=run_append_nil (P:=P) w t ty e i z ht hi hz a m c news hl sL (by omega) (by omega) (by have hb:=qON;simp only[Nat.zero_add]at hb;omega)
  rw[hr']at hr
  cases hr
  exact .inr rfl
 ·by_cases qHP:n+m≤cap
  ·have dU:n*i.size+news.length≤cur.size:=by rw[hl,hcs,←Nat.add_mul];exact Nat.mul_le_mul_right _ qHP
   have hr':=run_append_room (P:=P) w t ty e i ht hi g n cap cur hg a m c news hl sL h1 qHP dU
   rw[hr']at hr
   cases hr
   exact .inl rfl
  ·have holds:∀ j u,xs[j]? = some u→w.cell? ((⟨g,0,none⟩:Addr).add j)=some u:=zE.cells (g:=g) rfl
   have hr':=run_append_grow (P:=P) w t ty e i z ht hi hz ⟨g,0,none⟩ n cap xs zE.1 holds a m c news hl sL (by omega) (by omega) (growslice_fits (by omega) qON)
   rw[hr']at hr
   cases hr
   exact .inr rfl
theorem qNU.root{ns:List TN}{root:Int}{l:List Nat}{d:Nat}(h:qNU ns root l d):0≤root∧root.toNat∈l∧root.toNat<ns.length:=by
 obtain⟨x,l1,d1,h0,hx,_,_,_,hl,_⟩:=h.2.1.one_inv
 exact⟨h0,by rw[hl];simp,(List.getElem?_eq_some_iff.1 hx).1⟩
theorem qQ7(x:Int)(h0:0≤x)(h1:x≤5000):wrap64 x=x:=by unfold wrap64;omega
theorem qKh(x:Int)(h0:0≤x)(h1:x≤5000):IntKind.i64.wrap x=x:=by rw[IntKind.wrap_i64];omega
theorem qR.get{w:World}{base g n cap:Nat}{us:List Int}(h:qR w base (.slice (some ⟨g,0,none⟩) n cap) us)(i:Nat)(hi:i<us.length):w.cell? ⟨g,i,none⟩=some (.int .i64 us[i]):=by
 have e:n=us.length:=by
  obtain⟨a,c,e⟩:=h.slice
  simp at e
  exact e.2.1
 subst e
 rw[World.ownsRow.cellAt h i (by omega)]
 simp[hi]
theorem qM0(w:World){ops:Array Oper}{rest:List Oper}{o:Oper}{a:Act}{Q:Exit→Act→World→Prop}(gM:o.guard=none)(s x:Operand)
  (ho:o.op=.call { callee:=.builtin .append,args:=#[s,x],argTypes:=#[28,28] }) (base g m c:Nat) (v:Value) (zs ys:List Int) (hs:a.eval s=v)
  (zE:qR w base v zs) (hx:a.eval x=.slice (some ⟨g,0,none⟩) m c) (hm:m=ys.length) (cM:∀ i (h:i<ys.length),w.cell? ⟨g,i,none⟩=some (.int .i64 ys[i])) (uA:base≤w.heap.size) (hl:zs.length+ys.length≤1000000000)
  (h:∀ v' w',qR w' base v' (zs++ys)→Below base w w'→wpList Tryz.prog ops Q rest (a.put o.dst v') w'):wpList Tryz.prog ops Q (o::rest) a w:=by
 subst hm
 obtain⟨i0,hi,wW,wJ,gB⟩:=info_parts l6
 refine wpList_append_own _ gM s x 28 ho base 3 i0 (.int .i64 0) 1 8 Tryz.underlying28 hi wW wJ gB rfl (by decide) _ _ _ hs zE ⟨g,0,none⟩ ys.length c (ys.map (Value.int .i64)) hx (by simp) ?_ ?_ (by unfold maxLen;omega) (by omega) uA ?_
 ·intro j u' hj
  rw[List.getElem?_map]at hj
  obtain⟨z,hz,rfl⟩:=Option.map_eq_some_iff.1 hj
  obtain⟨iS,rfl⟩:=List.getElem?_eq_some_iff.1 hz
  have:=cM j iS
  rw[Addr.add_lit]
  simpa using this
 ·intro u' r5
  obtain⟨z,_,rfl⟩:=List.mem_map.1 r5
  rfl
 ·intro v' w' kO wY _
  rw[←List.map_append,show zs.length+ys.length=(zs++ys).length by simp]at kO
  exact h v' w' kO ((Below.refl _ _).grown wY uA (fun j hj=>(World.ownsRow.lt zE j hj).1))
end
end Go.Proofs.YtbgkfaclfnkloaaGreatDoor
