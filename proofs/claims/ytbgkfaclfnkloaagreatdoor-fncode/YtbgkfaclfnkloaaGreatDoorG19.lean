import Derived.Test.YtbgkfaclfnkloaaGreatDoorG17
import Derived.Test.YtbgkfaclfnkloaaGreatDoorG11
namespace Go.Proofs.YtbgkfaclfnkloaaGreatDoor
set_option linter.all false
set_option maxHeartbeats 4000000
set_option maxRecDepth 100000
open Go.RowKit Go.Joins
theorem qEW:(Tryz.prog.info? 9).map (fun i=>(i.zero,i.size,i.bytes))=some (some (.string ⟨#[]⟩),1,16):=by kernel_rfl
def jY(w:World)(base:Nat)(v:Value)(zs:List ByteArray):Prop:=w.ownsRow base 9 1 v zs.length (zs.map Value.string)
theorem jY.nil(w:World)(base:Nat):jY w base (.slice none 0 0) []:=World.ownsRow_nil _ _ _ _
theorem jY.alloc{w:World}{base:Nat}{v:Value}{zs:List ByteArray}(h:jY w base v zs)(o:Obj):jY (w.alloc o) base v zs:=World.ownsRow.alloc h o
theorem jY.lit(w:World)(base:Nat)(zs:List ByteArray)(h:base≤w.heap.size)(hl:zs.length≤maxLen):jY (w.alloc (.cells (zs.map Value.string).toArray 9)) base (.slice (some ⟨w.heap.size,0,none⟩) zs.length zs.length) zs:=by
 have:=World.ownsRow_lit (base:=base) (e:=9) (size:=1) w (zs.map Value.string).toArray zs.length h hl (by simp)
 simpa[jY]using this
theorem jY.slice{w:World}{base:Nat}{v:Value}{zs:List ByteArray}(h:jY w base v zs):∃ a cap,v=.slice a zs.length cap:=vB h
theorem jY.own_lt{w:World}{base:Nat}{v:Value}{zs:List ByteArray}(h:jY w base v zs):∀ j,v.ownBlock=some j→base≤j∧j<w.heap.size:=fun j hj=>World.ownsRow.lt h j hj
theorem jY.below{w w':World}{base B:Nat}{v:Value}{zs:List ByteArray}(h:jY w base v zs)(hb:Below B w w')(hB:∀ j,v.ownBlock=some j→j<B):jY w' base v zs:=by
 refine⟨h.1,?_⟩
 rcases h.2 with h | ⟨g,cap,cur,e,hg,hgg,r⟩
 ·exact .inl h
 ·refine .inr ⟨g,cap,cur,e,hg,?_,r⟩
  rw[hb.block g (hB g (by rw[e];rfl))];exact hgg
theorem jY.later{w w':World}{base:Nat}{v:Value}{zs:List ByteArray}(h:jY w base v zs)(hb:Below w.heap.size w w'):jY w' base v zs:=h.below hb fun j hj=>(h.own_lt j hj).2
theorem jY.strs{w:World}{base:Nat}{v:Value}{zs:List ByteArray}(h:jY w base v zs):∃ a cap,v=.slice a zs.length cap∧qCx w a zs:=by
 rcases h.2 with ⟨rfl,h0⟩ | ⟨g,cap,cur,rfl,hg⟩
 ·exact⟨none,0,by rw[h0],fun i hi=>by omega⟩
 ·refine⟨some ⟨g,0,none⟩,cap,rfl,fun i hi=>⟨g,0,rfl,?_⟩⟩
  have:=World.ownsRow.cellAt h i (by omega)
  rw[Nat.zero_add,this]
  simp[hi]
theorem qEh(w:World){ops:Array Oper}{rest:List Oper}{o:Oper}{a:Act}{Q:Exit→Act→World→Prop}(gM:o.guard=none)(s x:Operand)
  (ho:o.op=.call { callee:=.builtin .append,args:=#[s,x],argTypes:=#[70,70] }) (base g:Nat) (v:Value) (zs:List ByteArray) (c:ByteArray) (hs:a.eval s=v)
  (zE:jY w base v zs) (hx:a.eval x=.slice (some ⟨g,0,none⟩) 1 1) (cM:w.cell? ⟨g,0,none⟩=some (.string c)) (uA:base≤w.heap.size) (hl:zs.length≤1000000000)
  (h:∀ v' w',jY w' base v' (zs++[c])→Below base w w'→wpList Tryz.prog ops Q rest (a.put o.dst v') w'):wpList Tryz.prog ops Q (o::rest) a w:=by
 obtain⟨i0,hi,wW,wJ,gB⟩:=info_parts qEW
 refine wpList_append_own _ gM s x 70 ho base 9 i0 (.string ⟨#[]⟩) 1 16 Tryz.underlying70 hi wW wJ gB rfl (by decide) _ _ _ hs zE ⟨g,0,none⟩ 1 1 [.string c] hx rfl ?_ ?_ (by unfold maxLen;omega) (by omega) uA ?_
 ·intro j u' hj
  match j,hj with
  | 0,hj=>simp at hj;subst hj;simpa[Addr.add]using cM
  | j+1,hj=>simp at hj
 ·intro u' r5
  simp at r5
  subst r5
  rfl
 ·intro v' w' kO wY _
  rw[show zs.map Value.string++[.string c]=(zs++[c]).map Value.string by simp,show zs.length+1=(zs++[c]).length by simp]at kO
  exact h v' w' kO ((Below.refl _ _).grown wY uA (fun j hj=>(World.ownsRow.lt zE j hj).1))
theorem jY.get{w:World}{base g n cap:Nat}{us:List ByteArray}(h:jY w base (.slice (some ⟨g,0,none⟩) n cap) us)(i:Nat)(hi:i<us.length):w.cell? ⟨g,i,none⟩=some (.string us[i]):=by
 have e:n=us.length:=by
  obtain⟨a,c,e⟩:=h.slice
  simp at e
  exact e.2.1
 subst e
 rw[World.ownsRow.cellAt h i (by omega)]
 simp[hi]
end Go.Proofs.YtbgkfaclfnkloaaGreatDoor
