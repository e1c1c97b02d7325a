import Derived.StringKeys
import Derived.Maps.OwnSet
import Derived.Test.YtbgkfaclfnkloaaGreatDoorG20
import Derived.Maps.AppendAt
namespace Go.Proofs.YtbgkfaclfnkloaaGreatDoor
set_option linter.all false
set_option maxHeartbeats 4000000
set_option maxRecDepth 100000
open Go.RowKit Go.Joins
structure sZ(v v':Value)(w w':World):Prop where
 grown:w.grownBy w' v.ownBlock
 lies:∀ j,v'.ownBlock=some j→v.ownBlock=some j∨w.heap.size≤j
theorem sZ.cell{v v' x:Value}{w w':World}{b o:Nat}(h:sZ v v' w w')(hc:w.cell? ⟨b,o,none⟩=some x)(cB:∀ j,v.ownBlock=some j→j≠b):w'.cell? ⟨b,o,none⟩=some x:=
 h.grown.cell (a:=⟨b,o,none⟩) hc (fun e=>cB b e.symm rfl)
theorem sZ.block{v v':Value}{w w':World}{b:Nat}(h:sZ v v' w w')(hb:b<w.heap.size)(cB:∀ j,v.ownBlock=some j→j≠b):w'.heap[b]? = w.heap[b]?:=h.grown.block b hb (fun e=>cB b e.symm rfl)
theorem sZ.below{v v':Value}{w w':World}{base:Nat}(h:sZ v v' w w')(hb:base≤w.heap.size)(cB:∀ j,v.ownBlock=some j→base≤j):Below base w w':=⟨h.grown.os,h.grown.tape,h.grown.output,h.grown.size,fun k hk=>h.block (by omega) (fun j hj e=>by have:=cB j hj;omega)⟩
theorem qAG(w:World){ops:Array Oper}{rest:List Oper}{o:Oper}{a:Act}{Q:Exit→Act→World→Prop}(gM:o.guard=none)(s x:Operand)
  (ho:o.op=.call { callee:=.builtin .append,args:=#[s,x],argTypes:=#[70,70] }) (base g:Nat) (v:Value) (zs:List ByteArray) (c:ByteArray) (hs:a.eval s=v)
  (zE:jY w base v zs) (hx:a.eval x=.slice (some ⟨g,0,none⟩) 1 1) (cM:w.cell? ⟨g,0,none⟩=some (.string c)) (uA:base≤w.heap.size) (hl:zs.length≤1000000000)
  (h:∀ v' w',jY w' base v' (zs++[c])→sZ v v' w w'→wpList Tryz.prog ops Q rest (a.put o.dst v') w'):wpList Tryz.prog ops Q (o::rest) a w:=by
 obtain⟨i0,hi,wW,wJ,gB⟩:=info_parts qEW
 refine wpList_append_own_at _ gM s x 70 ho base 9 i0 (.string ⟨#[]⟩) 1 16 Tryz.underlying70 hi wW wJ gB rfl (by decide) _ _ _ hs zE ⟨g,0,none⟩ 1 1 [.string c] hx rfl ?_ ?_ (by unfold maxLen;omega) (by omega) uA ?_
 ·intro j u' hj
  match j,hj with
  | 0,hj=>simp at hj;subst hj;simpa[Addr.add]using cM
  | j+1,hj=>simp at hj
 ·intro u' r5
  simp at r5
  subst r5
  rfl
 ·intro v' w' kO wY _ hat
  rw[show zs.map Value.string++[.string c]=(zs++[c]).map Value.string by simp,show zs.length+1=(zs++[c]).length by simp]at kO
  refine h v' w' kO ⟨wY,fun j hj=>?_⟩
  rcases hat with e | e
  ·exact .inl (e▸hj)
  ·rw[hj]at e
   exact .inr (by injection e with e;omega)
end Go.Proofs.YtbgkfaclfnkloaaGreatDoor
