import Derived.Test.YtbgkfaclfnkloaaGreatDoorG15
import Derived.Deep.Slices
namespace Go.Proofs.YtbgkfaclfnkloaaGreatDoor
set_option linter.all false
set_option maxHeartbeats 4000000
set_option maxRecDepth 100000
section
open Go.RowKit Go.Joins
theorem qZW(n:Nat)(w:World)(hn:n≤1048576):(Instr.makeSlice 70 (.int .i64 (n:Int)) (.int .i64 (n:Int))).run Tryz.prog w=.ok (.slice (some ⟨w.heap.size,0,none⟩) n n) (w.alloc (.cells (madeCells #[.string ⟨#[]⟩] n) 9)):=by
 have h:=run_make (P:=Tryz.prog) w 70 9 _ (.string ⟨#[]⟩) Tryz.underlying70 rfl rfl .i64 .i64 (n:Int) (n:Int) (by omega) (Int.le_refl _) (by show(16:Int)*(n:Int)≤281474976710656;omega) (by omega)
 simp only[Int.toNat_natCast]at h
 have h':(Instr.makeSlice 70 (.int .i64 (n:Int)) (.int .i64 (n:Int))).run Tryz.prog w=.ok (.slice (some ⟨w.heap.size,0,none⟩) n n) (w.alloc (.cells (madeCells #[.string ⟨#[]⟩] (n*1)) 9)):=h
 rw[Nat.mul_one]at h'
 exact h'
theorem qT2(n:Nat)(w:World)(hn:n≤1048576):(Instr.makeSlice 28 (.int .i64 (n:Int)) (.int .i64 (n:Int))).run Tryz.prog w=.ok (.slice (some ⟨w.heap.size,0,none⟩) n n) (w.alloc (.cells (madeCells #[.int .i64 0] n) 3)):=by
 have h:=run_make (P:=Tryz.prog) w 28 3 _ (.int .i64 0) Tryz.underlying28 rfl rfl .i64 .i64 (n:Int) (n:Int) (by omega) (Int.le_refl _) (by show(8:Int)*(n:Int)≤281474976710656;omega) (by omega)
 simp only[Int.toNat_natCast]at h
 have h':(Instr.makeSlice 28 (.int .i64 (n:Int)) (.int .i64 (n:Int))).run Tryz.prog w=.ok (.slice (some ⟨w.heap.size,0,none⟩) n n) (w.alloc (.cells (madeCells #[.int .i64 0] (n*1)) 3)):=h
 rw[Nat.mul_one]at h'
 exact h'
theorem l6:(Tryz.prog.info? 3).map (fun i=>(i.zero,i.size,i.bytes))=some (some (.int .i64 0),1,8):=by kernel_rfl
def qR(w:World)(base:Nat)(v:Value)(zs:List Int):Prop:=w.ownsRow base 3 1 v zs.length (zs.map (Value.int .i64))
theorem qR.nil(w:World)(base:Nat):qR w base (.slice none 0 0) []:=World.ownsRow_nil _ _ _ _
theorem qR.alloc{w:World}{base:Nat}{v:Value}{zs:List Int}(h:qR w base v zs)(o:Obj):qR (w.alloc o) base v zs:=World.ownsRow.alloc h o
theorem qR.lit(w:World)(base:Nat)(zs:List Int)(h:base≤w.heap.size)(hl:zs.length≤maxLen):qR (w.alloc (.cells (zs.map (Value.int .i64)).toArray 3)) base (.slice (some ⟨w.heap.size,0,none⟩) zs.length zs.length) zs:=by
 have:=World.ownsRow_lit (base:=base) (e:=3) (size:=1) w (zs.map (Value.int .i64)).toArray zs.length h hl (by simp)
 simpa[qR]using this
theorem qR.slice{w:World}{base:Nat}{v:Value}{zs:List Int}(h:qR w base v zs):∃ a cap,v=.slice a zs.length cap:=vB h
theorem qR.own_lt{w:World}{base:Nat}{v:Value}{zs:List Int}(h:qR w base v zs):∀ j,v.ownBlock=some j→base≤j∧j<w.heap.size:=fun j hj=>World.ownsRow.lt h j hj
theorem qR.below{w w':World}{base B:Nat}{v:Value}{zs:List Int}(h:qR w base v zs)(hb:Below B w w')(hB:∀ j,v.ownBlock=some j→j<B):qR w' base v zs:=by
 refine⟨h.1,?_⟩
 rcases h.2 with h | ⟨g,cap,cur,e,hg,hgg,r⟩
 ·exact .inl h
 ·refine .inr ⟨g,cap,cur,e,hg,?_,r⟩
  rw[hb.block g (hB g (by rw[e];rfl))];exact hgg
theorem qR.later{w w':World}{base:Nat}{v:Value}{zs:List Int}(h:qR w base v zs)(hb:Below w.heap.size w w'):qR w' base v zs:=h.below hb fun j hj=>(h.own_lt j hj).2
theorem qR.ints{w:World}{base:Nat}{v:Value}{zs:List Int}(h:qR w base v zs):∃ a cap,v=.slice a zs.length cap∧vD w a zs:=by
 rcases h.2 with ⟨rfl,h0⟩ | ⟨g,cap,cur,rfl,hg⟩
 ·exact⟨none,0,by rw[h0],fun i hi=>by omega⟩
 ·refine⟨some ⟨g,0,none⟩,cap,rfl,fun i hi=>⟨g,0,rfl,?_⟩⟩
  have:=World.ownsRow.cellAt h i (by omega)
  rw[Nat.zero_add,this]
  simp[hi]
theorem qBw(w:World){ops:Array Oper}{rest:List Oper}{o:Oper}{a:Act}{Q:Exit→Act→World→Prop}(gM:o.guard=none)(s x:Operand)
  (ho:o.op=.call { callee:=.builtin .append,args:=#[s,x],argTypes:=#[28,28] }) (base g:Nat) (v:Value) (zs:List Int) (c:Int) (hs:a.eval s=v)
  (zE:qR w base v zs) (hx:a.eval x=.slice (some ⟨g,0,none⟩) 1 1) (cM:w.cell? ⟨g,0,none⟩=some (.int .i64 c)) (uA:base≤w.heap.size) (hl:zs.length≤1000000000)
  (h:∀ v' w',qR w' base v' (zs++[c])→Below base w w'→wpList Tryz.prog ops Q rest (a.put o.dst v') w'):wpList Tryz.prog ops Q (o::rest) a w:=by
 obtain⟨i0,hi,wW,wJ,gB⟩:=info_parts l6
 refine wpList_append_own _ gM s x 28 ho base 3 i0 (.int .i64 0) 1 8 Tryz.underlying28 hi wW wJ gB rfl (by decide) _ _ _ hs zE ⟨g,0,none⟩ 1 1 [.int .i64 c] hx rfl ?_ ?_ (by unfold maxLen;omega) (by omega) uA ?_
 ·intro j u' hj
  match j,hj with
  | 0,hj=>simp at hj;subst hj;simpa[Addr.add]using cM
  | j+1,hj=>simp at hj
 ·intro u' r5
  simp at r5
  subst r5
  rfl
 ·intro v' w' kO wY _
  rw[show zs.map (Value.int .i64)++[.int .i64 c]=(zs++[c]).map (Value.int .i64) by simp,show zs.length+1=(zs++[c]).length by simp]at kO
  exact h v' w' kO ((Below.refl _ _).grown wY uA (fun j hj=>(World.ownsRow.lt zE j hj).1))
end
end Go.Proofs.YtbgkfaclfnkloaaGreatDoor
