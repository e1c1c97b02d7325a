import Derived.Test.YtbgkfaclfnkloaaGreatDoorG24
import Derived.Test.YtbgkfaclfnkloaaGreatDoorG29
namespace Go.Proofs.YtbgkfaclfnkloaaGreatDoor
set_option linter.all false
set_option maxHeartbeats 4000000
set_option maxRecDepth 100000
section
open Go.RowKit Go.Joins
structure CK(M X:Nat)(v v':Value)(w w':World):Prop where
 os:w'.os=w.os
 tape:w'.tape=w.tape
 output:w'.output=w.output
 size:w.heap.size≤w'.heap.size
 block:∀ k,k<w.heap.size→k≠M→k≠X→v.ownBlock≠some k→w'.heap[k]? = w.heap[k]?
 own:∀ j,v'.ownBlock=some j→v.ownBlock=some j∨w.heap.size≤j
theorem CK.refl(M X:Nat)(v:Value)(w:World):CK M X v v w w:=⟨rfl,rfl,rfl,Nat.le_refl _,fun _ _ _ _ _=>rfl,fun _ h=>.inl h⟩
theorem CK.trans{M X:Nat}{u v x:Value}{a b c:World}(h:CK M X u v a b)(k:CK M X v x b c):CK M X u x a c:=
 ⟨k.os.trans h.os,k.tape.trans h.tape,k.output.trans h.output,Nat.le_trans h.size k.size,fun i hi hM hX hu=>(k.block i (by have:=h.size;omega) hM hX (fun e=>by
  rcases h.own i e with e | e
  ·exact hu e
  ·omega)).trans (h.block i hi hM hX hu),fun j hj=>by
  rcases k.own j hj with e | e
  ·exact h.own j e
  ·exact .inr (Nat.le_trans h.size e)⟩
theorem CK.of_below{M X:Nat}{v:Value}{w w':World}(h:Below w.heap.size w w'):CK M X v v w w':=⟨h.os,h.tape,h.output,h.size,fun k hk _ _ _=>h.block k hk,fun _ h=>.inl h⟩
theorem CK.of_keep{M X:Nat}{v:Value}{w w':World}(h:zJ X w w'):CK M X v v w w':=⟨h.os,h.tape,h.output,h.size,fun k hk _ hX _=>h.block k hk hX,fun _ h=>.inl h⟩
theorem CK.setM{M X o:Nat}{u v:Value}{a b:World}{y:Value}(h:CK M X u v a b):CK M X u v a (b.setCell ⟨M,o,none⟩ y):=
 ⟨h.os,h.tape,h.output,by have:=h.size;simpa using this,fun k hk hM hX hu=>by rw[Below.heap_setCell b ⟨M,o,none⟩ y k hM];exact h.block k hk hM hX hu,h.own⟩
theorem CK.low{M X B:Nat}{v v':Value}{w w':World}(h:CK M X v v' w w')(hM:B≤M)(hX:B≤X)(hv:∀ j,v.ownBlock=some j→B≤j)(hw:B≤w.heap.size):Below B w w':=
 ⟨h.os,h.tape,h.output,h.size,fun k hk=>h.block k (by omega) (by omega) (by omega) (fun e=>by have:=hv k e;omega)⟩
def uE(i:IR):List Value:=[.int .i64 i.op,.int .i64 i.n,.int .i64 i.m,.string i.t,.int .i64 i.vk,.int .i64 i.vn,.string i.vt]
def j7(cs:List IR):List Value:=cs.flatMap uE
theorem qDP(cs:List IR)(c:IR):j7 (cs++[c])=j7 cs++uE c:=by simp[j7]
theorem qEF(cs:List IR):(j7 cs).length=cs.length*7:=by
 induction cs with
 | nil=>rfl
 | cons c cs ih=>
  have e:j7 (c::cs)=uE c++j7 cs:=by simp[j7]
  rw[e,List.length_append,ih,List.length_cons]
  show 7+_=_
  omega
structure yC(w:World)(B M X:Nat)(t0 t1 fv:Value)(b c:Nat)(x:SC)(v:Value)(code:List IR):Prop where
 blk:w.heap[M]? = some (.cells #[.pointer (some ⟨X,0,none⟩),fv,v] 161 (0,0))
 sc:wP w X t0 t1 b c x
 row:w.ownsRow B 41 7 v code.length (j7 code)
 mx:M≠X
 mb:b≠M
 bM:B≤M
 bX:B≤X
 off:∀ j,v.ownBlock=some j→j≠M∧j≠X∧j≠b
theorem yC.lt{w:World}{B M X:Nat}{t0 t1 fv:Value}{b c:Nat}{x:SC}{v:Value}{code:List IR}(h:yC w B M X t0 t1 fv b c x v code):M<w.heap.size:=(Array.getElem?_eq_some_iff.1 h.blk).1
theorem yC.cells{w:World}{B M X:Nat}{t0 t1 fv:Value}{b c:Nat}{x:SC}{v:Value}{code:List IR}(h:yC w B M X t0 t1 fv b c x v code):w.cell? ⟨M,0,none⟩=some (.pointer (some ⟨X,0,none⟩))∧w.cell? ⟨M,1,none⟩=some fv∧w.cell? ⟨M,2,none⟩=some v:=⟨(cell_of_block h.blk 0).trans rfl,(cell_of_block h.blk 1).trans rfl,(cell_of_block h.blk 2).trans rfl⟩
theorem yC.slice{w:World}{B M X:Nat}{t0 t1 fv:Value}{b c:Nat}{x:SC}{v:Value}{code:List IR}(h:yC w B M X t0 t1 fv b c x v code):∃ a cap,v=.slice a code.length cap:=vB h.row
theorem yC.own{w:World}{B M X:Nat}{t0 t1 fv:Value}{b c:Nat}{x:SC}{v:Value}{code:List IR}(h:yC w B M X t0 t1 fv b c x v code):∀ j,v.ownBlock=some j→B≤j∧j<w.heap.size:=fun j hj=>World.ownsRow.lt h.row j hj
theorem yC.later{w w':World}{B M X:Nat}{t0 t1 fv:Value}{b c:Nat}{x:SC}{v:Value}{code:List IR}(h:yC w B M X t0 t1 fv b c x v code)(hb:Below w.heap.size w w'):yC w' B M X t0 t1 fv b c x v code:=
 ⟨(hb.block M h.lt).trans h.blk,h.sc.later hb,jJ h.row fun j hj=>hb.block j (h.own j hj).2,h.mx,h.mb,h.bM,h.bX,h.off⟩
theorem yC.scope{w w':World}{B M X:Nat}{t0 t1 fv:Value}{b c b' c':Nat}{x x':SC}{v:Value}{code:List IR}(h:yC w B M X t0 t1 fv b c x v code)(hk:zJ X w w')(hs:wP w' X t0 t1 b' c' x')(hb:b'=b∨w.heap.size≤b'):yC w' B M X t0 t1 fv b' c' x' v code:=by
 refine⟨(hk.block M h.lt h.mx).trans h.blk,hs,jJ h.row fun j hj=>hk.block j (h.own j hj).2 (h.off j hj).2.1,h.mx,?_,h.bM,h.bX,fun j hj=>⟨(h.off j hj).1,(h.off j hj).2.1,?_⟩⟩
 ·rcases hb with rfl | hb
  ·exact h.mb
  ·have:=h.lt;omega
 ·rcases hb with rfl | hb
  ·exact(h.off j hj).2.2
  ·have:=(h.own j hj).2;omega
theorem qQd:(Tryz.prog.info? 41).map (fun i=>(i.zero,i.size,i.bytes))=some (some (.agg #[.int .i64 0,.int .i64 0,.int .i64 0,.string ⟨#[]⟩,.int .i64 0,.int .i64 0,.string ⟨#[]⟩]),7,72):=by kernel_rfl
structure qTX(w w':World)(B:Nat)(v v':Value)(code:List IR):Prop where
 row:w'.ownsRow B 41 7 v' code.length (j7 code)
 block:∀ k,k<w.heap.size→v.ownBlock≠some k→w'.heap[k]? = w.heap[k]?
 own:∀ j,v'.ownBlock=some j→v.ownBlock=some j∨w.heap.size≤j
 os:w'.os=w.os
 tape:w'.tape=w.tape
 output:w'.output=w.output
 size:w.heap.size≤w'.heap.size
theorem qLY(w:World){ops:Array Oper}{o:Oper}{a:Act}{K:Act→World→Prop}{Q:Exit→Act→World→Prop}{E:Prop}(gM:o.guard=none)(s x:Operand)
  (ho:o.op=.call { callee:=.builtin .append,args:=#[s,x],argTypes:=#[33,33] }) (B q:Nat) (v:Value) (code:List IR) (c:IR) (hs:a.eval s=v)
  (kF:w.ownsRow B 41 7 v code.length (j7 code)) (hx:a.eval x=.slice (some ⟨q,0,none⟩) 1 1)
  (cM:w.cell? ⟨q,0,none⟩=some (.int .i64 c.op)) (xZ:w.cell? ⟨q,1,none⟩=some (.int .i64 c.n)) (wZ:w.cell? ⟨q,2,none⟩=some (.int .i64 c.m)) (hc3:w.cell? ⟨q,3,none⟩=some (.string c.t)) (hc4:w.cell? ⟨q,4,none⟩=some (.int .i64 c.vk)) (hc5:w.cell? ⟨q,5,none⟩=some (.int .i64 c.vn)) (hc6:w.cell? ⟨q,6,none⟩=some (.string c.vt)) (hB:B≤w.heap.size) (hl:code.length≤100000)
  (h:∀ v' w',qTX w w' B v v' (code++[c])→K (a.put o.dst v') w'):if Region.wanted o (yielded ops a.tmps)=true then Oper.wp Tryz.prog o a w K Q else E:=by
 have hw:Region.wanted o (yielded ops a.tmps)=true:=by simp[Region.wanted,gM]
 rw[if_pos hw]
 obtain⟨i0,hi,wW,wJ,gB⟩:=info_parts qQd
 have sL:∀ j u,(uE c)[j]? = some u→w.cell? ((⟨q,0,none⟩:Addr).add j)=some u:=by
  intro j u' hj
  match j,hj with
  | 0,hj=>simp[uE]at hj;subst hj;simpa[Addr.add]using cM
  | 1,hj=>simp[uE]at hj;subst hj;simpa[Addr.add]using xZ
  | 2,hj=>simp[uE]at hj;subst hj;simpa[Addr.add]using wZ
  | 3,hj=>simp[uE]at hj;subst hj;simpa[Addr.add]using hc3
  | 4,hj=>simp[uE]at hj;subst hj;simpa[Addr.add]using hc4
  | 5,hj=>simp[uE]at hj;subst hj;simpa[Addr.add]using hc5
  | 6,hj=>simp[uE]at hj;subst hj;simpa[Addr.add]using hc6
  | j+7,hj=>simp[uE]at hj
 have h1:∀ u∈uE c,u.oneCell'=true:=by
  intro u' r5
  simp[uE]at r5
  rcases r5 with rfl | rfl | rfl | rfl | rfl | rfl | rfl <;> rfl
 obtain⟨v',w',hr,h2,h3,h4⟩:=run_append_own (P:=Tryz.prog) w B 33 o.type 41 i0 _ 7 72 Tryz.underlying33 hi wW wJ gB rfl (by decide) v code.length (j7 code) kF ⟨q,0,none⟩ 1 1 (uE c) rfl sL h1 (by unfold maxLen;omega) (by omega) (by omega)
 have hwh:=fN (P:=Tryz.prog) w B 33 o.type 41 i0 _ 7 72 Tryz.underlying33 hi wW wJ gB v code.length (j7 code) kF ⟨q,0,none⟩ 1 1 (by omega) (uE c) rfl sL h1 (by unfold maxLen;omega) (by omega) v' w' hr
 have hb:=(Below.refl _ _).grown h3 hB (fun j hj=>(World.ownsRow.lt kF j hj).1)
 unfold Oper.wp execOp
 simp only[ho,resolve,invoke,builtin,Sem.run_bind,Sem.run_pure,Result.andThen_ok,List.map_toArray,List.map_cons,List.map_nil,hs,hx,hr]
 rw[←qDP,show code.length+1=(code++[c]).length by simp]at h2
 refine h v' w' ⟨h2,fun k hk hv=>h3.block k hk (fun e=>hv e.symm),fun j hj=>?_,hb.os,hb.tape,hb.output,hb.size⟩
 rcases hwh with e | e
 ·exact .inl (e▸hj)
 ·rw[e]at hj
  exact .inr (by have:=Option.some.inj hj;omega)
def CP(B M X:Nat)(t0 t1 fv:Value)(v:Value)(w:World)(x:SC)(code:List IR)(w':World):Prop:=∃ v' b' c',yC w' B M X t0 t1 fv b' c' x v' code∧CK M X v v' w w'
abbrev qXB(i:IR):Value:=.agg #[.int .i64 i.op,.int .i64 i.n,.int .i64 i.m,.string i.t,.int .i64 i.vk,.int .i64 i.vn,.string i.vt]
theorem yC.put{w w9:World}{B M X:Nat}{t0 t1 fv:Value}{b c:Nat}{x:SC}{v v9:Value}{code:List IR}{i:IR}(h:yC w B M X t0 t1 fv b c x v code)(hR:qTX w w9 B v v9 (code++[i])):yC (w9.setCell ⟨M,2,none⟩ v9) B M X t0 t1 fv b c x v9 (code++[i])∧CK M X v v9 w (w9.setCell ⟨M,2,none⟩ v9):=by
 have hM:w9.heap[M]? = w.heap[M]?:=hR.block M h.lt (fun e=>(h.off M e).1 rfl)
 have hX:w9.heap[X]? = w.heap[X]?:=hR.block X h.sc.lt (fun e=>(h.off X e).2.1 rfl)
 have hb:w9.heap[b]? = w.heap[b]?:=hR.block b h.sc.nms.lt (fun e=>(h.off b e).2.2 rfl)
 have hck:CK M X v v9 w w9:=⟨hR.os,hR.tape,hR.output,hR.size,fun k hk _ _ hv=>hR.block k hk hv,hR.own⟩
 have qUQ:∀ j,v9.ownBlock=some j→j≠M∧j≠X∧j≠b:=fun j hj=>by
  rcases hR.own j hj with e | e
  ·exact h.off j e
  ·have h1:=h.lt
   have h2:=h.sc.lt
   have h3:=h.sc.nms.lt
   exact⟨by omega,by omega,by omega⟩
 refine⟨⟨?_,⟨?_,⟨h.sc.nms.cap,h.sc.nms.ne,?_,fun k hk=>?_⟩,h.sc.st⟩,?_,h.mx,h.mb,h.bM,h.bX,qUQ⟩,hck.setM⟩
 ·have:=block_setCell (i:=2) (hM.trans h.blk) v9
  exact this
 ·rw[mS,Below.heap_setCell w9 ⟨M,2,none⟩ v9 X (by show X≠M;exact fun e=>h.mx e.symm),hX]
  exact h.sc.blk
 ·have:=hR.size
  have:=h.sc.nms.lt
  simp
  omega
 ·rw[World.cell?_of_block (Below.heap_setCell w9 ⟨M,2,none⟩ v9 b (by show b≠M;exact h.mb)),World.cell?_of_block hb]
  exact h.sc.nms.at' k hk
 ·exact jJ hR.row fun j hj=>Below.heap_setCell w9 ⟨M,2,none⟩ v9 j (by show j≠M;exact(qUQ j hj).1)
theorem yC.drew'{w:World}{B M X:Nat}{t0 t1 fv:Value}{b c:Nat}{x:SC}{v:Value}{code:List IR}(h:yC w B M X t0 t1 fv b c x v code):yC w.drew B M X t0 t1 fv b c x v code:=h.later (qF (Below.refl _ _))
theorem tS{w:World}{B M X:Nat}{t0 t1 fv:Value}{b c:Nat}{x:SC}{v:Value}{code:List IR}(i:IR)(h:yC w B M X t0 t1 fv b c x v code)(hl:code.length≤100000) :
  Calls Tryz.prog 120 #[.pointer (some ⟨M,0,none⟩),qXB i] w fun e w'=>e=.returned (.int .i64 (code.length:Int))∧CP B M X t0 t1 fv v w x (code++[i]) w':=by
 obtain⟨va,vc,hv⟩:=h.slice
 have hM:=h.lt
 have hb8:Below w.heap.size w ((w.alloc (.cells #[.int .i64 i.op,.int .i64 i.n,.int .i64 i.m,.string i.t,.int .i64 i.vk,.int .i64 i.vn,.string i.vt] 41)).alloc (.cells #[.int .i64 i.op,.int .i64 i.n,.int .i64 i.m,.string i.t,.int .i64 i.vk,.int .i64 i.vn,.string i.vt] 41)).drew:=qF (qG (qD _ _))
 have HC8:=qC (h.later hb8)
 have HB8:=qC hb8
 have xO:Hid (((w.alloc (.cells #[.int .i64 i.op,.int .i64 i.n,.int .i64 i.m,.string i.t,.int .i64 i.vk,.int .i64 i.vn,.string i.vt] 41)).alloc (.cells #[.int .i64 i.op,.int .i64 i.n,.int .i64 i.m,.string i.t,.int .i64 i.vk,.int .i64 i.vn,.string i.vt] 41)).drew.heap[w.heap.size+1]? = some (.cells #[.int .i64 i.op,.int .i64 i.n,.int .i64 i.m,.string i.t,.int .i64 i.vk,.int .i64 i.vn,.string i.vt] 41 (0,0))):=qC (by
  have:=heap_alloc_new (w.alloc (.cells #[.int .i64 i.op,.int .i64 i.n,.int .i64 i.m,.string i.t,.int .i64 i.vk,.int .i64 i.vn,.string i.vt] 41)) (.cells #[.int .i64 i.op,.int .i64 i.n,.int .i64 i.m,.string i.t,.int .i64 i.vk,.int .i64 i.vn,.string i.vt] 41)
  have e:(w.alloc (.cells #[.int .i64 i.op,.int .i64 i.n,.int .i64 i.m,.string i.t,.int .i64 i.vk,.int .i64 i.vn,.string i.vt] 41)).heap.size=w.heap.size+1:=by simp
  rw[e]at this
  exact this)
 have n0:=(cell_of_block (qA xO) 0).trans rfl
 have n1:=(cell_of_block (qA xO) 1).trans rfl
 have n2:=(cell_of_block (qA xO) 2).trans rfl
 have n3:=(cell_of_block (qA xO) 3).trans rfl
 have n4:=(cell_of_block (qA xO) 4).trans rfl
 have n5:=(cell_of_block (qA xO) 5).trans rfl
 have n6:=(cell_of_block (qA xO) 6).trans rfl
 have hBs:B≤w.heap.size:=by have:=h.bM;omega
 have qYA:B≤((w.alloc (.cells #[.int .i64 i.op,.int .i64 i.n,.int .i64 i.m,.string i.t,.int .i64 i.vk,.int .i64 i.vn,.string i.vt] 41)).alloc (.cells #[.int .i64 i.op,.int .i64 i.n,.int .i64 i.m,.string i.t,.int .i64 i.vk,.int .i64 i.vn,.string i.vt] 41)).drew.heap.size:=Nat.le_trans hBs hb8.size
 obtain⟨c0,c1,c2⟩:=h.cells
 rw[hv]at c2
 have HV:=qC hv
 clear h hv hb8 xO
 go_enter Tryz.func120,Tryz.ntmps120
 go_wp2
 go_region_law (refine qLY _ (by rfl) _ _ (by rfl) B (w.heap.size+1) v code i (by rw[qA HV];rfl) (qA HC8).row (by rfl) n0 n1 n2 n3 n4 n5 n6 qYA hl ?_;intro v9 w9 hR9;obtain⟨a9,k9,hv9⟩:=vB hR9.row;subst hv9;have y2:=(World.cell?_of_block (hR9.block M (qA HC8).lt (fun e=>((qA HC8).off M e).1 rfl))).trans (qA HC8).cells.2.2;have zz2:=unfrozen_of_block ((hR9.block M (qA HC8).lt (fun e=>((qA HC8).off M e).1 rfl)).trans (qA HC8).blk) 2)
 all_goals
  have hP:=(qA HC8).put hR9
  rw[show(code++[i]).length=code.length+1 by simp]at hP
  have HF:=qC hP.1
  have HG:=qC ((CK.of_below (M:=M) (X:=X) (v:=v) (qA HB8)).trans hP.2)
  have hM9:M<w9.heap.size:=by have:=hP.1.lt;simpa using this
  clear hP hR9 zz2
 all_goals go_wp2
 all_goals
  go_ret
  exact⟨by go_num,_,_,_,qA HF,qA HG⟩
def fA(code:List IR)(j:Nat)(n:Int):List IR:=code.set j { (code.getD j (iN 0 0)) with n:=n }
theorem eY:∀ (code:List IR) (j:Nat) (n:Int),j<code.length→j7 (fA code j n)=(j7 code).set (j*7+1) (.int .i64 n)
 | [],j,n,h=>absurd h (by simp)
 | a::r,0,n,h=>by
  show j7 ({ a with n:=n }::r)=_
  have e:∀ c:IR,j7 (c::r)=uE c++j7 r:=fun c=>by simp[j7]
  rw[e,e]
  rfl
 | a::r,j+1,n,h=>by
  have ih:=eY r j n (by simpa using h)
  show j7 (a::fA r j n)=_
  have e:∀ q:List IR,j7 (a::q)=uE a++j7 q:=fun q=>by simp[j7]
  rw[e,e,ih,List.set_append_right _ _ (by show 7≤(j+1)*7+1;omega),show(j+1)*7+1-(uE a).length=j*7+1 by show(j+1)*7+1-7=_;omega]
theorem qB8:∀ (code:List IR) (j:Nat),j<code.length→(j7 code)[j*7+1]? = some (.int .i64 (code.getD j (iN 0 0)).n)
 | [],j,h=>absurd h (by simp)
 | a::r,0,h=>by
  have e:j7 (a::r)=uE a++j7 r:=by simp[j7]
  rw[e]
  rfl
 | a::r,j+1,h=>by
  have ih:=qB8 r j (by simpa using h)
  have e:j7 (a::r)=uE a++j7 r:=by simp[j7]
  rw[e,List.getElem?_append_right (by show 7≤(j+1)*7+1;omega),show(j+1)*7+1-(uE a).length=j*7+1 by show(j+1)*7+1-7=_;omega]
  exact ih
theorem List.set_take_comm'{α:Type}(l:List α)(n i:Nat)(a:α):(l.take n).set i a=(l.set i a).take n:=by
 apply List.ext_getElem?
 intro k
 rw[List.getElem?_set,List.getElem?_take,List.getElem?_take,List.getElem?_set]
 by_cases h1:i=k
 ·subst h1
  by_cases h2:i<n
  ·simp[h2]
   split <;> split <;> first | rfl | (exfalso;omega)
  ·simp[h2]
   omega
 ·simp[h1]
theorem qIb(code:List IR)(j:Nat)(n:Int):(fA code j n).length=code.length:=by unfold fA;rw[List.length_set]
theorem yC.lead{w:World}{B M X:Nat}{t0 t1 fv:Value}{b c:Nat}{x:SC}{v:Value}{code:List IR}(h:yC w B M X t0 t1 fv b c x v code)(j:Nat)(hj:j<code.length)(n:Int) :
  ∃ g cap,v=.slice (some ⟨g,0,none⟩) code.length cap∧w.cell? ⟨g,j*7+1,none⟩=some (.int .i64 (code.getD j (iN 0 0)).n)∧w.frozen? ⟨g,j*7+1,none⟩=false∧yC (w.setCell ⟨g,j*7+1,none⟩ (.int .i64 n)) B M X t0 t1 fv b c x v (fA code j n)∧CK M X v v w (w.setCell ⟨g,j*7+1,none⟩ (.int .i64 n)):=by
 rcases h.row.2 with ⟨rfl,h0⟩ | ⟨g,cap,cur,rfl,hg,hgg,hn,hm,hs,ht⟩
 ·omega
 have ho:=h.off g rfl
 have hck:CK M X (.slice (some ⟨g,0,none⟩) code.length cap) (.slice (some ⟨g,0,none⟩) code.length cap) w (w.setCell ⟨g,j*7+1,none⟩ (.int .i64 n)):=⟨rfl,rfl,rfl,by simp,fun k hk _ _ hv=>Below.heap_setCell w ⟨g,j*7+1,none⟩ (.int .i64 n) k (by show k≠g;exact fun e=>hv (by rw[e];rfl)),fun j hj=>.inl hj⟩
 refine⟨g,cap,rfl,?_,unfrozen_of_block hgg _,?_,hck⟩
 ·rw[World.ownsRow.cellAt h.row (j*7+1) (by omega)]
  exact qB8 code j hj
 ·have fU:cur.size=cap*7:=hs
  have hb:=block_setCell (i:=j*7+1) hgg (.int .i64 n)
  refine⟨?_,⟨?_,⟨h.sc.nms.cap,h.sc.nms.ne,by simpa using h.sc.nms.lt,fun k hk=>?_⟩,h.sc.st⟩,?_,h.mx,h.mb,h.bM,h.bX,h.off⟩
  ·rw[Below.heap_setCell w ⟨g,j*7+1,none⟩ _ M (by show M≠g;exact fun e=>ho.1 e.symm)]
   exact h.blk
  ·rw[mS,Below.heap_setCell w ⟨g,j*7+1,none⟩ _ X (by show X≠g;exact fun e=>ho.2.1 e.symm)]
   exact h.sc.blk
  ·rw[World.cell?_of_block (Below.heap_setCell w ⟨g,j*7+1,none⟩ _ b (by show b≠g;exact fun e=>ho.2.2 e.symm))]
   exact h.sc.nms.at' k hk
  ·rw[qIb,eY code j n hj]
   refine⟨by rw[List.length_set,qEF],.inr ⟨g,cap,_,rfl,hg,hb,hn,hm,by simp[fU],?_⟩⟩
   rw[Array.toList_setIfInBounds,←List.set_take_comm',ht]
theorem qAK{w:World}{B M X:Nat}{t0 t1 fv:Value}{b c:Nat}{x:SC}{v:Value}{code:List IR}(j:Nat)(h:yC w B M X t0 t1 fv b c x v code)(hj:j<code.length)(hl:code.length≤100000) :
  Calls Tryz.prog 147 #[.pointer (some ⟨M,0,none⟩),.int .i64 (j:Int)] w fun e w'=>e=.returned (.tuple #[])∧CP B M X t0 t1 fv v w x (fA code j (code.length:Int)) w':=by
 have hM:=h.lt
 obtain⟨c0,c1,c2⟩:=h.cells
 obtain⟨g,cap,hv,hL⟩:=h.lead j hj (code.length:Int)
 obtain⟨y0,f0,hC,hK⟩:=hL
 subst hv
 have HC:=qC hC
 have HK:=qC hK
 have hgl:=World.block_lt_of_cell? _ _ y0
 clear h hC hK c0 c1
 go_enter Tryz.func147,Tryz.ntmps147
 go_wp2
 go_region
 all_goals go_wp2
 all_goals
  go_end0
  exact⟨rfl,_,_,_,(qA HC).drew',(qA HK).trans (CK.of_below (qF (Below.refl _ _)))⟩
theorem qEp{w:World}{B M X:Nat}{t0 t1 fv:Value}{b c:Nat}{x:SC}{v:Value}{code:List IR}(k n:Int)(t:ByteArray)(h:yC w B M X t0 t1 fv b c x v code)(hl:code.length≤100000) :
  Calls Tryz.prog 119 #[.pointer (some ⟨M,0,none⟩),.agg #[.int .i64 k,.int .i64 n,.string t]] w fun e w'=>e=.returned (.tuple #[])∧CP B M X t0 t1 fv v w x (code++[iV k n t]) w':=by
 have HC:=qC (tS (iV k n t) (h.later (qD w (.cells #[.int .i64 k,.int .i64 n,.string t] 39))) hl)
 clear h
 go_enter Tryz.func119,Tryz.ntmps119
 go_wp2_with fail
 refine(qA HC).mono ?_
 rintro e w1 ⟨rfl,v1,b1,c1,hC1,tO⟩
 have yW:=qC hC1
 have yV:=qC ((CK.of_below (qD w (.cells #[.int .i64 k,.int .i64 n,.string t] 39))).trans tO)
 clear HC hC1 tO
 go_wp2
 go_end0
 exact⟨rfl,v1,b1,c1,qA yW,qA yV⟩
structure CE where
 ns:List TN
 root:Int
 L:rO
 w0:World
 B:Nat
 M:Nat
 X:Nat
 fs:List Int
 fp:Option Addr
 fc:Nat
def CE.t0(E:CE):Value:=.slice E.L.p E.ns.length E.L.cap
def CE.t1(E:CE):Value:=.int .i64 E.root
def CE.fv(E:CE):Value:=.slice E.fp E.fs.length E.fc
structure CE.Ok(E:CE):Prop where
 nodes:uV E.w0 E.L E.ns
 small:sW E.ns
 ok:gI E.ns E.root
 few:E.ns.length≤200
 fun':E.fs.length≤200
 funs:vD E.w0 E.fp E.fs
 low:E.w0.heap.size≤E.B
def CE.At(E:CE)(w:World)(b c:Nat)(x:SC)(v:Value)(code:List IR):Prop:=yC w E.B E.M E.X E.t0 E.t1 E.fv b c x v code
def CE.P(E:CE)(v:Value)(w:World)(o:CO)(code:List IR)(w':World):Prop:=CP E.B E.M E.X E.t0 E.t1 E.fv v w o.x (code++o.s) w'
def CE.On(E:CE)(w:World):Prop:=Below E.w0.heap.size E.w0 w
def CE.Room(E:CE)(x:SC)(code:List IR)(d:Nat):Prop:=x.nm.length+d≤1040000∧code.length+204*d≤90000
def CE.g(E:CE)(n:Nat):Int→SC→Nat→CO:=cg E.ns E.root E.fs n
def CE.Node(E:CE)(n k:Nat)(x:SC)(v:Value)(code:List IR)(w:World):Prop:=
 Calls Tryz.prog 118 #[.pointer (some ⟨E.M,0,none⟩),.int .i64 (k:Int)] w fun e w'=>e=.returned (.tuple #[])∧E.P v w (E.g n k x code.length) code w'
def CE.IH(E:CE)(n:Nat):Prop:=∀ (k lo:Nat) (x:SC) (b c:Nat) (v:Value) (code:List IR) (w:World),k<n→y7 E.ns [(k:Int)] lo (k+1)→E.Room x code (k+1-lo)→E.At w b c x v code→E.On w→E.Node n k x v code w
theorem CE.On.ck{E:CE}{w w':World}{v v':Value}{b c:Nat}{x:SC}{code:List IR}(h:E.On w)(ho:E.Ok)(hA:E.At w b c x v code)(hk:CK E.M E.X v v' w w'):E.On w':=
 Below.trans h ((hk.low (B:=E.B) hA.bM hA.bX (fun j hj=>(hA.own j hj).1) (by have:=hA.bM;have:=hA.lt;omega)).mono ho.low)
theorem CE.On.below{E:CE}{w w':World}(h:E.On w)(hb:Below w.heap.size w w'):E.On w':=Below.trans h (hb.mono h.size)
theorem uC.same{w w':World}{g:Nat}{m:TN}{pn:Option Addr}{cn:Nat}{pk:Option Addr}{ck:Nat}(h:uC w g m pn cn pk ck)(hb:w'.heap[g]? = w.heap[g]?):uC w' g m pn cn pk ck:=⟨by rw[hb];exact h.blk⟩
theorem uC.lt{w:World}{g:Nat}{m:TN}{pn:Option Addr}{cn:Nat}{pk:Option Addr}{ck:Nat}(h:uC w g m pn cn pk ck):g<w.heap.size:=(Array.getElem?_eq_some_iff.1 h.blk).1
theorem eH(g:Int→SC→Nat→CO):∀ (l:List Int) (p:Int) (x:SC) (a:Nat),ck g (l++[p]) x a=⟨(ck g l x a).s++(g p (ck g l x a).x (a+(ck g l x a).s.length)).s,(g p (ck g l x a).x (a+(ck g l x a).s.length)).x⟩
 | [],p,x,a=>by
  show(⟨(g p x a).s++[],(g p x a).x⟩:CO)=⟨[]++(g p x (a+0)).s,(g p x (a+0)).x⟩
  simp
 | j::r,p,x,a=>by
  have ih:=eH g r p (g j x a).x (a+(g j x a).s.length)
  show(⟨(g j x a).s++(ck g (r++[p]) (g j x a).x (a+(g j x a).s.length)).s,(ck g (r++[p]) (g j x a).x (a+(g j x a).s.length)).x⟩:CO)=_
  rw[ih]
  show _=(⟨((g j x a).s++(ck g r (g j x a).x (a+(g j x a).s.length)).s)++(g p (ck g r (g j x a).x (a+(g j x a).s.length)).x (a+((g j x a).s++(ck g r (g j x a).x (a+(g j x a).s.length)).s).length)).s,(g p (ck g r (g j x a).x (a+(g j x a).s.length)).x (a+((g j x a).s++(ck g r (g j x a).x (a+(g j x a).s.length)).s).length)).x⟩:CO)
  simp only[List.length_append,List.append_assoc,Nat.add_assoc]
structure CU(E:CE)(n k:Nat)(kids:List Int)(xs:SC)(cs:List IR)(j lo:Nat)(x:SC)(code:List IR):Prop where
 seg:y7 E.ns (kids.drop j) lo k
 room:E.Room x code (k-lo)
 xe:x=(ck (E.g n) (kids.take j) xs cs.length).x
 ce:code=cs++(ck (E.g n) (kids.take j) xs cs.length).s
theorem CU.step{E:CE}{n k:Nat}{kids:List Int}{xs:SC}{cs:List IR}{j lo:Nat}{x:SC}{code:List IR}(ho:E.Ok)(h:CU E n k kids xs cs j lo x code)(hj:j<kids.length)(hn:k≤n) :
  ∃ qX:Nat,kids[j]=(qX:Int)∧qX<n∧y7 E.ns [(qX:Int)] lo (qX+1)∧E.Room x code (qX+1-lo)∧CU E n k kids xs cs (j+1) (qX+1) (E.g n qX x code.length).x (code++(E.g n qX x code.length).s):=by
 have h1:=h.seg
 rw[List.drop_eq_getElem_cons hj]at h1
 obtain⟨qX,m,e,hm,_,s1,s2,s3,s4,s5⟩:=h1.head
 have s2':y7 E.ns [(qX:Int)] lo (qX+1):=by rw[←e];exact s2
 have hg:=xX (ns:=E.ns) (root:=E.root) (fs:=E.fs) ho.fun' n
 obtain⟨r1,r2⟩:=h.room
 have p1:(E.g n qX x code.length).x.nm.length≤_:=hg.len qX lo x code.length (by omega) s2'
 have p2:(E.g n qX x code.length).s.length≤_:=hg.ins qX lo x code.length (by omega) s2'
 refine⟨qX,e,by omega,s2',⟨by omega,by omega⟩,s3,⟨by omega,by rw[List.length_append];omega⟩,?_,?_⟩
 ·rw[List.take_succ_eq_append_getElem hj,eH,e]
  dsimp only
  rw[←h.xe,←List.length_append,←h.ce]
 ·rw[List.take_succ_eq_append_getElem hj,eH,e]
  dsimp only
  rw[←h.xe,←List.length_append,←h.ce,←List.append_assoc,←h.ce]
theorem CU.zero{E:CE}{n k lo:Nat}{kids:List Int}{xs:SC}{cs:List IR}(h:y7 E.ns kids lo k)(hr:E.Room xs cs (k-lo)):CU E n k kids xs cs 0 lo xs cs:=⟨h,hr,rfl,by show cs=cs++[];simp⟩
theorem aA{E:CE}(ho:E.Ok){n k lo:Nat}(vL:E.IH n)(hk:k≤n){m:TN}{pn:Option Addr}{cn:Nat}{pk:Option Addr}{ckp:Nat}{x:SC}{b c:Nat}{v:Value}{code:List IR}{w:World}(hS:y7 E.ns m.kids lo k)(hr:E.Room x code (k-lo))(hA:E.At w b c x v code)(hW:E.On w)(hI:∀ wx,E.On wx→vD wx pk m.kids)(wC:m.kids.length≤1048576) :
  Calls Tryz.prog 146 #[.pointer (some ⟨E.M,0,none⟩),.agg #[.int .i64 m.k,.int .i64 m.n,.string m.t,.slice pn m.names.length cn,.slice pk m.kids.length ckp]] w fun e w'=>e=.returned (.tuple #[])∧E.P v w (ck (E.g n) m.kids x code.length) code w':=by
 have xO:Hid (uC (w.alloc (.cells #[.int .i64 m.k,.int .i64 m.n,.string m.t,.slice pn m.names.length cn,.slice pk m.kids.length ckp] 128)) w.heap.size m pn cn pk ckp):=qC ⟨heap_alloc_new w _⟩
 have vG:=qC (yC.later hA (qD w (.cells #[.int .i64 m.k,.int .i64 m.n,.string m.t,.slice pn m.names.length cn,.slice pk m.kids.length ckp] 128)))
 have yV:Hid (CK E.M E.X v v w (w.alloc (.cells #[.int .i64 m.k,.int .i64 m.n,.string m.t,.slice pn m.names.length cn,.slice pk m.kids.length ckp] 128))):=qC (CK.of_below (qD _ _))
 have dS:Hid (∀ v' wx,CK E.M E.X v v' (w.alloc (.cells #[.int .i64 m.k,.int .i64 m.n,.string m.t,.slice pn m.names.length cn,.slice pk m.kids.length ckp] 128)) wx→wx.heap[w.heap.size]? = (w.alloc (.cells #[.int .i64 m.k,.int .i64 m.n,.string m.t,.slice pn m.names.length cn,.slice pk m.kids.length ckp] 128)).heap[w.heap.size]?∧E.On wx):=qC (fun v' wx h=>⟨h.block _ (by simp) (by have:=hA.lt;omega) (by have:=hA.sc.lt;omega) (fun e=>by have:=(hA.own _ e).2;omega),(hW.below (qD _ _)).ck ho (qA vG) h⟩)
 have HU0:=qC (CU.zero (n:=n) hS hr)
 have xH:=qC vL
 have HI:=qC hI
 have HO:=qC ho
 clear vL hI hS hr hA hW ho
 generalize hco:ck (E.g n) m.kids x code.length=co
 have HCO:=qC hco
 clear hco
 go_enter Tryz.func146,Tryz.ntmps146
 go_wp2
 generalize (w.alloc (.cells #[.int .i64 m.k,.int .i64 m.n,.string m.t,.slice pn m.names.length cn,.slice pk m.kids.length ckp] 128))=w1 at xO vG yV dS ⊢
 go_loopw[4] (fun i wx=>∃ (j mL:Nat) (x':SC) (b' c':Nat) (v':Value) (kC:List IR),j≤m.kids.length∧i=.int .i64 j∧Hid (E.At wx b' c' x' v' kC)∧Hid (CK E.M E.X v v' w1 wx)∧Hid (CU E n k m.kids x code j mL x' kC)) (fun i _=>m.kids.length-(intOf i).toNat)
 case atStart=>exact⟨0,lo,x,b,c,v,code,by omega,rfl,vG,qC (CK.refl _ _ _ _),HU0⟩
 case round=>
  obtain⟨j,mL,x',b',c',v',kC,hj,rfl,vK,uM,uB⟩:=hrel
  obtain⟨hbx,eC⟩:=qA dS v' wr (qA uM)
  have uZ:=(qA xO).same hbx
  have nT:=uZ.lt
  obtain⟨z0,z2,z4⟩:=uZ.cells
  have HON:=qC eC
  clear hbx uZ eC
  by_cases jF:j<m.kids.length
  ·obtain⟨qX,pW,bF,s1,s2,s3⟩:=(qA uB).step (qA HO) jF hk
   obtain⟨kb,zY,kI,y0⟩:=(qA HI wr (qA HON)) j jF
   rw[pW]at y0
   rw[kI]at z4
   clear kI
   have HC:=qC (qA xH qX mL x' b' c' v' kC wr bF s1 s2 (qA vK) (qA HON))
   unfold CE.Node at HC
   have yK:=qC s3
   clear pW s1 s2 s3
   go_wp2_with fail
   refine(qA HC).mono ?_
   rintro e w2 ⟨rfl,v2,b2,wG,vJ,yA⟩
   have mO:=qC vJ
   have qH:=qC ((qA uM).trans yA)
   clear vJ yA HC
   go_wp2
   go_roundw
   case rel=>exact⟨j+1,qX+1,_,b2,wG,v2,_,by omega,by go_num,mO,qH,qC (qA yK)⟩
   case measure=>simp[intOf];omega
  ·obtain rfl:j=m.kids.length:=by omega
   have HF:Hid (E.P v w co code wr):=qC (by
    have h1:=(qA uB).xe
    have h2:=(qA uB).ce
    rw[List.take_length,qA HCO]at h1 h2
    exact⟨v',b',c',by rw[←h1,←h2];exact qA vK,(qA yV).trans (qA uM)⟩)
   clear uB
   go_wp2
   go_end0
   exact⟨rfl,qA HF⟩
theorem CE.Room.fit{E:CE}{x:SC}{code:List IR}{d:Nat}(h:E.Room x code d):code.length≤100000:=by have:=h.2;omega
theorem gT(p:List IR)(i:IR)(q:List IR)(n:Int):fA (p++i::q) p.length n=p++{ i with n:=n }::q:=by
 unfold fA
 have e:(p++i::q).getD p.length (iN 0 0)=i:=by simp[List.getD]
 rw[e,List.set_append_right _ _ (Nat.le_refl _),Nat.sub_self]
 rfl
theorem r9{E:CE}(ho:E.Ok){n k lo:Nat}{kids:List Int}{x:SC}{code:List IR}(hS:y7 E.ns kids lo k)(hk:k≤n)(hr:E.Room x code (k+1-lo)):(code++(ck (E.g n) kids x code.length).s).length≤100000∧(ck (E.g n) kids x code.length).x.nm.length≤1040000:=by
 have hg:=xX (ns:=E.ns) (root:=E.root) (fs:=E.fs) ho.fun' n
 have h1:(ck (E.g n) kids x code.length).s.length≤_:=oN hg kids lo k x code.length hS hk
 have h2:(ck (E.g n) kids x code.length).x.nm.length≤_:=qIG hg kids lo k x code.length hS hk
 obtain⟨r1,r2⟩:=hr
 rw[List.length_append]
 have:=hS.le
 exact⟨by omega,by omega⟩
theorem vH{E:CE}(ho:E.Ok){k:Nat}{m:TN}{x:SC}{b c:Nat}{v:Value}{code:List IR}{w:World}(hm:E.ns[k]? = some m)(hA:E.At w b c x v code)(hW:E.On w) :
  ∃ (pn:Option Addr) (cn:Nat) (pk:Option Addr) (ckp nb jK:Nat),k<E.ns.length∧E.ns.length≤1048576∧m.t.size≤1048576∧m.kids.length≤1048576∧E.M<w.heap.size∧E.X<w.heap.size
   ∧w.cell? ⟨E.M,0,none⟩=some (.pointer (some ⟨E.X,0,none⟩))∧w.cell? ⟨E.M,1,none⟩=some E.fv∧w.cell? ⟨E.M,2,none⟩=some v
   ∧w.cell? ⟨E.X,0,none⟩=some (.slice (some ⟨nb,jK,none⟩) E.ns.length E.L.cap)∧w.cell? ⟨E.X,1,none⟩=some (.int .i64 E.root)
   ∧w.cell? ⟨nb,jK+k*5,none⟩=some (.int .i64 m.k)∧w.cell? ⟨nb,jK+k*5+1,none⟩=some (.int .i64 m.n)∧w.cell? ⟨nb,jK+k*5+2,none⟩=some (.string m.t)∧w.cell? ⟨nb,jK+k*5+3,none⟩=some (.slice pn m.names.length cn)∧w.cell? ⟨nb,jK+k*5+4,none⟩=some (.slice pk m.kids.length ckp)
   ∧Hid (E.L.p=some ⟨nb,jK,none⟩)∧Hid (∀ wx,E.On wx→vD wx pk m.kids)
   ∧Hid (uC (w.alloc (.cells #[.int .i64 m.k,.int .i64 m.n,.string m.t,.slice pn m.names.length cn,.slice pk m.kids.length ckp] 128)) w.heap.size m pn cn pk ckp)∧Hid (E.At (w.alloc (.cells #[.int .i64 m.k,.int .i64 m.n,.string m.t,.slice pn m.names.length cn,.slice pk m.kids.length ckp] 128)) b c x v code)∧Hid (CK E.M E.X v v w (w.alloc (.cells #[.int .i64 m.k,.int .i64 m.n,.string m.t,.slice pn m.names.length cn,.slice pk m.kids.length ckp] 128)))∧Hid (E.On (w.alloc (.cells #[.int .i64 m.k,.int .i64 m.n,.string m.t,.slice pn m.names.length cn,.slice pk m.kids.length ckp] 128)))
   ∧Hid (∀ v' wx,CK E.M E.X v v' (w.alloc (.cells #[.int .i64 m.k,.int .i64 m.n,.string m.t,.slice pn m.names.length cn,.slice pk m.kids.length ckp] 128)) wx→uC wx w.heap.size m pn cn pk ckp∧E.On wx):=by
 obtain⟨wC,eD⟩:=List.getElem?_eq_some_iff.1 hm
 have vV:=yC.lt hA
 have mP:=hA.sc.lt
 obtain⟨m0,m1,m2⟩:=yC.cells hA
 obtain⟨d0,d1,d2,d3,d4,d5,d6⟩:=hA.sc.blk.cells
 obtain⟨nb,jK,hp,q0,q1,q2,q3,q4,q5,q6⟩:=(ho.nodes.later hW) k wC
 rw[eD]at q0 q1 q2 q3 q4 q5 q6
 unfold CE.t0 at d0
 unfold CE.t1 at d1
 rw[hp]at d0
 refine⟨_,_,_,_,nb,jK,wC,ho.small.1,(ho.small.2 m (List.mem_of_getElem? hm)).1,(ho.small.2 m (List.mem_of_getElem? hm)).2.2.1,vV,mP,m0,m1,m2,d0,d1,q0,q1,q2,q3,q4,qC hp,qC (fun wx h=>?_),qC ⟨heap_alloc_new w _⟩,qC (yC.later hA (qD w _)),qC (CK.of_below (qD _ _)),qC (hW.below (qD _ _)),qC (fun v' wx h=>?_)⟩
 ·obtain⟨_,_,_,_,_,_,_,_,_,q⟩:=(ho.nodes.later h) k wC
  rw[eD]at q
  exact q
 ·exact⟨(uC.mk (heap_alloc_new w _)).same (h.block _ (by simp) (by omega) (by omega) (fun e=>by have:=(yC.own hA _ e).2;omega)),(hW.below (qD _ _)).ck ho (yC.later hA (qD w _)) h⟩
theorem qPX{E:CE}(ho:E.Ok){n k lo:Nat}(vL:E.IH n)(hk:k≤n){m:TN}{x:SC}{b c:Nat}{v:Value}{code:List IR}{w:World}(hm:E.ns[k]? = some m)(hS:y7 E.ns m.kids lo k)(hr:E.Room x code (k+1-lo))(hA:E.At w b c x v code)(hW:E.On w)(h1:m.k=1)(hR:E.g (n+1) (k:Int) x code.length=⟨[iV 1 m.n e0],x⟩):E.Node (n+1) k x v code w:=by
 unfold CE.Node
 rw[hR]
 obtain⟨pn,cn,pk,ckp,nb,jK,wC,fJ,rZ,zN,vV,mP,m0,m1,m2,d0,d1,q0,q1,q2,q3,q4,HP,HI,xO,vG,yV,yF,dS⟩:=vH ho hm hA hW
 obtain⟨-,-,d2,d3,d4,d5,d6⟩:=hA.sc.blk.cells
 have eA:=hr.1
 have iU:=hr.2
 have xH:=qC vL
 have HO:=qC ho
 have HS:=qC hS
 have HA:=qC hA
 have HW:=qC hW
 have lU:=qC hr
 clear vL hS hR hr hA hW ho
 have e1:(m.k == 1)=true:=by rw[h1];rfl
 clear h1
 have HV:=qC (qIm m.n (w.alloc (.cells #[.int .i64 m.k,.int .i64 m.n,.string m.t,.slice pn m.names.length cn,.slice pk m.kids.length ckp] 128)))
 go_enter Tryz.func118,Tryz.ntmps118
 go_wp2_with fail
 refine(qA HV).mono ?_
 rintro e w2 ⟨rfl,qY⟩
 have HC:=qC (qEp 1 m.n ⟨#[]⟩ (yC.later (qA vG) qY) (qA lU).fit)
 have qH:=qC ((qA yV).trans (CK.of_below qY))
 clear qY HV
 go_wp2_with fail
 refine(qA HC).mono ?_
 rintro e w3 ⟨rfl,v3,b3,c3,uK,mF⟩
 have HF:Hid (E.P v w ⟨[iV 1 m.n e0],x⟩ code w3):=qC ⟨v3,b3,c3,uK,(qA qH).trans mF⟩
 clear uK mF HC
 go_wp2
 go_end0
 exact⟨rfl,qA HF⟩
theorem qQe{E:CE}(ho:E.Ok){n k lo:Nat}(vL:E.IH n)(hk:k≤n){m:TN}{x:SC}{b c:Nat}{v:Value}{code:List IR}{w:World}(hm:E.ns[k]? = some m)(hS:y7 E.ns m.kids lo k)(hr:E.Room x code (k+1-lo))(hA:E.At w b c x v code)(hW:E.On w)(h2:m.k=2)(hR:E.g (n+1) (k:Int) x code.length=⟨[iV 3 0 m.t],x⟩):E.Node (n+1) k x v code w:=by
 unfold CE.Node
 rw[hR]
 obtain⟨pn,cn,pk,ckp,nb,jK,wC,fJ,rZ,zN,vV,mP,m0,m1,m2,d0,d1,q0,q1,q2,q3,q4,HP,HI,xO,vG,yV,yF,dS⟩:=vH ho hm hA hW
 obtain⟨-,-,d2,d3,d4,d5,d6⟩:=hA.sc.blk.cells
 have eA:=hr.1
 have iU:=hr.2
 have xH:=qC vL
 have HO:=qC ho
 have HS:=qC hS
 have HA:=qC hA
 have HW:=qC hW
 have lU:=qC hr
 clear vL hS hR hr hA hW ho
 have e2:(m.k == 2)=true:=by rw[h2];rfl
 have e1:(m.k == 1)=false:=by rw[h2];rfl
 clear h2
 have HV:=qC (qHc m.t (w.alloc (.cells #[.int .i64 m.k,.int .i64 m.n,.string m.t,.slice pn m.names.length cn,.slice pk m.kids.length ckp] 128)))
 go_enter Tryz.func118,Tryz.ntmps118
 go_wp2_with fail
 refine(qA HV).mono ?_
 rintro e w2 ⟨rfl,qY⟩
 have HC:=qC (qEp 3 0 m.t (yC.later (qA vG) qY) (qA lU).fit)
 have qH:=qC ((qA yV).trans (CK.of_below qY))
 clear qY HV
 go_wp2_with fail
 refine(qA HC).mono ?_
 rintro e w3 ⟨rfl,v3,b3,c3,uK,mF⟩
 have HF:Hid (E.P v w ⟨[iV 3 0 m.t],x⟩ code w3):=qC ⟨v3,b3,c3,uK,(qA qH).trans mF⟩
 clear uK mF HC
 go_wp2
 go_end0
 exact⟨rfl,qA HF⟩
theorem qPM{E:CE}(ho:E.Ok){n k lo:Nat}(vL:E.IH n)(hk:k≤n){m:TN}{x:SC}{b c:Nat}{v:Value}{code:List IR}{w:World}(hm:E.ns[k]? = some m)(hS:y7 E.ns m.kids lo k)(hr:E.Room x code (k+1-lo))(hA:E.At w b c x v code)(hW:E.On w)(h3:m.k=3)(hR:E.g (n+1) (k:Int) x code.length=⟨[iV 2 (if m.n=1 then 1 else 0) e0],x⟩):E.Node (n+1) k x v code w:=by
 unfold CE.Node
 rw[hR]
 obtain⟨pn,cn,pk,ckp,nb,jK,wC,fJ,rZ,zN,vV,mP,m0,m1,m2,d0,d1,q0,q1,q2,q3,q4,HP,HI,xO,vG,yV,yF,dS⟩:=vH ho hm hA hW
 obtain⟨-,-,d2,d3,d4,d5,d6⟩:=hA.sc.blk.cells
 have eA:=hr.1
 have iU:=hr.2
 have xH:=qC vL
 have HO:=qC ho
 have HS:=qC hS
 have HA:=qC hA
 have HW:=qC hW
 have lU:=qC hr
 clear vL hS hR hr hA hW ho
 have e3:(m.k == 3)=true:=by rw[h3];rfl
 have e1:(m.k == 1)=false:=by rw[h3];rfl
 have e2:(m.k == 2)=false:=by rw[h3];rfl
 clear h3
 have hbb:∀ bb:Bool,(m.n == 1)=bb→(iV 2 (if m.n=1 then 1 else 0) e0)=iV 2 (if bb=true then 1 else 0) e0:=fun bb h=>by
  subst h
  by_cases h:m.n=1
  ·rw[if_pos h,if_pos (by simp[h])]
  ·rw[if_neg h,if_neg (by simp[h])]
 obtain⟨bb,hbv⟩:∃ bb:Bool,(m.n == 1)=bb:=⟨_,rfl⟩
 rw[hbb bb hbv]
 clear hbb
 have HV:=qC (qGp bb (w.alloc (.cells #[.int .i64 m.k,.int .i64 m.n,.string m.t,.slice pn m.names.length cn,.slice pk m.kids.length ckp] 128)))
 have hbi:(if bb=true then (1:Int) else 0)=qJn bb:=by cases bb <;> rfl
 rw[hbi]
 generalize qJn bb=bv at HV ⊢
 clear hbi
 go_enter Tryz.func118,Tryz.ntmps118
 go_wp2_with fail
 refine(qA HV).mono ?_
 rintro e w2 ⟨rfl,qY⟩
 have HC:=qC (qEp 2 bv ⟨#[]⟩ (yC.later (qA vG) qY) (qA lU).fit)
 have qH:=qC ((qA yV).trans (CK.of_below qY))
 clear qY HV
 go_wp2_with fail
 refine(qA HC).mono ?_
 rintro e w3 ⟨rfl,v3,b3,c3,uK,mF⟩
 have HF:Hid (E.P v w ⟨[iV 2 bv e0],x⟩ code w3):=qC ⟨v3,b3,c3,uK,(qA qH).trans mF⟩
 clear uK mF HC
 go_wp2
 go_end0
 exact⟨rfl,qA HF⟩
theorem qQj{E:CE}(ho:E.Ok){n k lo:Nat}(vL:E.IH n)(hk:k≤n){m:TN}{x:SC}{b c:Nat}{v:Value}{code:List IR}{w:World}(hm:E.ns[k]? = some m)(hS:y7 E.ns m.kids lo k)(hr:E.Room x code (k+1-lo))(hA:E.At w b c x v code)(hW:E.On w)(h4:m.k=4)(hR:E.g (n+1) (k:Int) x code.length=⟨[iV 0 0 e0],x⟩):E.Node (n+1) k x v code w:=by
 unfold CE.Node
 rw[hR]
 obtain⟨pn,cn,pk,ckp,nb,jK,wC,fJ,rZ,zN,vV,mP,m0,m1,m2,d0,d1,q0,q1,q2,q3,q4,HP,HI,xO,vG,yV,yF,dS⟩:=vH ho hm hA hW
 obtain⟨-,-,d2,d3,d4,d5,d6⟩:=hA.sc.blk.cells
 have eA:=hr.1
 have iU:=hr.2
 have xH:=qC vL
 have HO:=qC ho
 have HS:=qC hS
 have HA:=qC hA
 have HW:=qC hW
 have lU:=qC hr
 clear vL hS hR hr hA hW ho
 have e4:(m.k == 4)=true:=by rw[h4];rfl
 have e1:(m.k == 1)=false:=by rw[h4];rfl
 have e2:(m.k == 2)=false:=by rw[h4];rfl
 have e3:(m.k == 3)=false:=by rw[h4];rfl
 clear h4
 have HC:=qC (qEp 0 0 ⟨#[]⟩ (qA vG) (qA lU).fit)
 go_enter Tryz.func118,Tryz.ntmps118
 go_wp2_with fail
 refine(qA HC).mono ?_
 rintro e w3 ⟨rfl,v3,b3,c3,uK,mF⟩
 have HF:Hid (E.P v w ⟨[iV 0 0 e0],x⟩ code w3):=qC ⟨v3,b3,c3,uK,(qA yV).trans mF⟩
 clear uK mF HC
 go_wp2
 go_end0
 exact⟨rfl,qA HF⟩
theorem qPu{E:CE}(ho:E.Ok){n k lo:Nat}(vL:E.IH n)(hk:k≤n){m:TN}{x:SC}{b c:Nat}{v:Value}{code:List IR}{w:World}(hm:E.ns[k]? = some m)(hS:y7 E.ns m.kids lo k)(hr:E.Room x code (k+1-lo))(hA:E.At w b c x v code)(hW:E.On w)(h6:m.k=6)(hR:E.g (n+1) (k:Int) x code.length=⟨(ck (E.g n) m.kids x code.length).s++[iT 4 m.t],(ck (E.g n) m.kids x code.length).x⟩):E.Node (n+1) k x v code w:=by
 unfold CE.Node
 rw[hR]
 obtain⟨pn,cn,pk,ckp,nb,jK,wC,fJ,rZ,zN,vV,mP,m0,m1,m2,d0,d1,q0,q1,q2,q3,q4,HP,HI,xO,vG,yV,yF,dS⟩:=vH ho hm hA hW
 obtain⟨-,-,d2,d3,d4,d5,d6⟩:=hA.sc.blk.cells
 have eA:=hr.1
 have iU:=hr.2
 have xH:=qC vL
 have HO:=qC ho
 have HS:=qC hS
 have HA:=qC hA
 have HW:=qC hW
 have lU:=qC hr
 clear vL hS hR hr hA hW ho
 have e6:(m.k == 6)=true:=by rw[h6];rfl
 have e1:(m.k == 1)=false:=by rw[h6];rfl
 have e2:(m.k == 2)=false:=by rw[h6];rfl
 have e3:(m.k == 3)=false:=by rw[h6];rfl
 have e4:(m.k == 4)=false:=by rw[h6];rfl
 have e5:(m.k == 5)=false:=by rw[h6];rfl
 clear h6
 have dU:=r9 (qA HO) (qA HS) hk (qA lU)
 have bN:=qC (aA (qA HO) (qA xH) hk (pn:=pn) (cn:=cn) (pk:=pk) (ckp:=ckp) (m:=m) (qA HS) ⟨by omega,by omega⟩ (qA vG) (qA yF) (qA HI) zN)
 generalize ck (E.g n) m.kids x code.length=co at bN dU ⊢
 go_enter Tryz.func118,Tryz.ntmps118
 go_wp2_with fail
 refine(qA bN).mono ?_
 rintro e w2 ⟨rfl,v2,b2,c2,fS,yA⟩
 obtain⟨yX,cA⟩:=qA dS v2 w2 yA
 have lV:=yX.lt
 obtain⟨z0,z2,z4⟩:=yX.cells
 have z1:w2.cell? ⟨w.heap.size,1,none⟩=some (.int .i64 m.n):=(cell_of_block yX.blk 1).trans rfl
 have z3:w2.cell? ⟨w.heap.size,3,none⟩=some (.slice pn m.names.length cn):=(cell_of_block yX.blk 3).trans rfl
 have uF:=qC yX
 have HO2:=qC cA
 have yJ:Hid (E.At w2 b2 c2 co.x v2 (code++co.s)):=qC fS
 have qH:=qC ((qA yV).trans yA)
 clear yX cA fS yA bN m0 m1 m2 d0 d1 d2 d3 d4 d5 d6 q0 q1 q2 q3 q4
 have HL:=qC (tS (iT 4 m.t) (qA yJ) dU.1)
 go_wp2_with fail
 refine(qA HL).mono ?_
 rintro e w3 ⟨rfl,v3,b3,c3,uK,mF⟩
 have HF:Hid (E.P v w ⟨co.s++[iT 4 m.t],co.x⟩ code w3):=qC ⟨v3,b3,c3,by rw[List.append_assoc]at uK;exact uK,(qA qH).trans mF⟩
 clear uK mF HL
 go_wp2
 go_end0
 exact⟨rfl,qA HF⟩
theorem qPH{E:CE}(ho:E.Ok){n k lo:Nat}(vL:E.IH n)(hk:k≤n){m:TN}{x:SC}{b c:Nat}{v:Value}{code:List IR}{w:World}(hm:E.ns[k]? = some m)(hS:y7 E.ns m.kids lo k)(hr:E.Room x code (k+1-lo))(hA:E.At w b c x v code)(hW:E.On w)(h7:m.k=7)(hR:E.g (n+1) (k:Int) x code.length=⟨(ck (E.g n) m.kids x code.length).s++[iT 5 m.t],(ck (E.g n) m.kids x code.length).x⟩):E.Node (n+1) k x v code w:=by
 unfold CE.Node
 rw[hR]
 obtain⟨pn,cn,pk,ckp,nb,jK,wC,fJ,rZ,zN,vV,mP,m0,m1,m2,d0,d1,q0,q1,q2,q3,q4,HP,HI,xO,vG,yV,yF,dS⟩:=vH ho hm hA hW
 obtain⟨-,-,d2,d3,d4,d5,d6⟩:=hA.sc.blk.cells
 have eA:=hr.1
 have iU:=hr.2
 have xH:=qC vL
 have HO:=qC ho
 have HS:=qC hS
 have HA:=qC hA
 have HW:=qC hW
 have lU:=qC hr
 clear vL hS hR hr hA hW ho
 have e7:(m.k == 7)=true:=by rw[h7];rfl
 have e1:(m.k == 1)=false:=by rw[h7];rfl
 have e2:(m.k == 2)=false:=by rw[h7];rfl
 have e3:(m.k == 3)=false:=by rw[h7];rfl
 have e4:(m.k == 4)=false:=by rw[h7];rfl
 have e5:(m.k == 5)=false:=by rw[h7];rfl
 have e6:(m.k == 6)=false:=by rw[h7];rfl
 clear h7
 have dU:=r9 (qA HO) (qA HS) hk (qA lU)
 have bN:=qC (aA (qA HO) (qA xH) hk (pn:=pn) (cn:=cn) (pk:=pk) (ckp:=ckp) (m:=m) (qA HS) ⟨by omega,by omega⟩ (qA vG) (qA yF) (qA HI) zN)
 generalize ck (E.g n) m.kids x code.length=co at bN dU ⊢
 go_enter Tryz.func118,Tryz.ntmps118
 go_wp2_with fail
 refine(qA bN).mono ?_
 rintro e w2 ⟨rfl,v2,b2,c2,fS,yA⟩
 obtain⟨yX,cA⟩:=qA dS v2 w2 yA
 have lV:=yX.lt
 obtain⟨z0,z2,z4⟩:=yX.cells
 have z1:w2.cell? ⟨w.heap.size,1,none⟩=some (.int .i64 m.n):=(cell_of_block yX.blk 1).trans rfl
 have z3:w2.cell? ⟨w.heap.size,3,none⟩=some (.slice pn m.names.length cn):=(cell_of_block yX.blk 3).trans rfl
 have uF:=qC yX
 have HO2:=qC cA
 have yJ:Hid (E.At w2 b2 c2 co.x v2 (code++co.s)):=qC fS
 have qH:=qC ((qA yV).trans yA)
 clear yX cA fS yA bN m0 m1 m2 d0 d1 d2 d3 d4 d5 d6 q0 q1 q2 q3 q4
 have HL:=qC (tS (iT 5 m.t) (qA yJ) dU.1)
 go_wp2_with fail
 refine(qA HL).mono ?_
 rintro e w3 ⟨rfl,v3,b3,c3,uK,mF⟩
 have HF:Hid (E.P v w ⟨co.s++[iT 5 m.t],co.x⟩ code w3):=qC ⟨v3,b3,c3,by rw[List.append_assoc]at uK;exact uK,(qA qH).trans mF⟩
 clear uK mF HL
 go_wp2
 go_end0
 exact⟨rfl,qA HF⟩
theorem qOb{E:CE}(ho:E.Ok){n k lo:Nat}(vL:E.IH n)(hk:k≤n){m:TN}{x:SC}{b c:Nat}{v:Value}{code:List IR}{w:World}(hm:E.ns[k]? = some m)(hS:y7 E.ns m.kids lo k)(hr:E.Room x code (k+1-lo))(hA:E.At w b c x v code)(hW:E.On w)(nR:m.k=15)(hR:E.g (n+1) (k:Int) x code.length=⟨(ck (E.g n) m.kids x code.length).s++[iN 12 0],(ck (E.g n) m.kids x code.length).x⟩):E.Node (n+1) k x v code w:=by
 unfold CE.Node
 rw[hR]
 obtain⟨pn,cn,pk,ckp,nb,jK,wC,fJ,rZ,zN,vV,mP,m0,m1,m2,d0,d1,q0,q1,q2,q3,q4,HP,HI,xO,vG,yV,yF,dS⟩:=vH ho hm hA hW
 obtain⟨-,-,d2,d3,d4,d5,d6⟩:=hA.sc.blk.cells
 have eA:=hr.1
 have iU:=hr.2
 have xH:=qC vL
 have HO:=qC ho
 have HS:=qC hS
 have HA:=qC hA
 have HW:=qC hW
 have lU:=qC hr
 clear vL hS hR hr hA hW ho
 have e15:(m.k == 15)=true:=by rw[nR];rfl
 have e1:(m.k == 1)=false:=by rw[nR];rfl
 have e2:(m.k == 2)=false:=by rw[nR];rfl
 have e3:(m.k == 3)=false:=by rw[nR];rfl
 have e4:(m.k == 4)=false:=by rw[nR];rfl
 have e5:(m.k == 5)=false:=by rw[nR];rfl
 have e6:(m.k == 6)=false:=by rw[nR];rfl
 have e7:(m.k == 7)=false:=by rw[nR];rfl
 have e8:(m.k == 8)=false:=by rw[nR];rfl
 have e9:(m.k == 9)=false:=by rw[nR];rfl
 have e10:(m.k == 10)=false:=by rw[nR];rfl
 have e11:(m.k == 11)=false:=by rw[nR];rfl
 have e12:(m.k == 12)=false:=by rw[nR];rfl
 clear nR
 have dU:=r9 (qA HO) (qA HS) hk (qA lU)
 have bN:=qC (aA (qA HO) (qA xH) hk (pn:=pn) (cn:=cn) (pk:=pk) (ckp:=ckp) (m:=m) (qA HS) ⟨by omega,by omega⟩ (qA vG) (qA yF) (qA HI) zN)
 generalize ck (E.g n) m.kids x code.length=co at bN dU ⊢
 go_enter Tryz.func118,Tryz.ntmps118
 go_wp2_with fail
 refine(qA bN).mono ?_
 rintro e w2 ⟨rfl,v2,b2,c2,fS,yA⟩
 obtain⟨yX,cA⟩:=qA dS v2 w2 yA
 have lV:=yX.lt
 obtain⟨z0,z2,z4⟩:=yX.cells
 have z1:w2.cell? ⟨w.heap.size,1,none⟩=some (.int .i64 m.n):=(cell_of_block yX.blk 1).trans rfl
 have z3:w2.cell? ⟨w.heap.size,3,none⟩=some (.slice pn m.names.length cn):=(cell_of_block yX.blk 3).trans rfl
 have uF:=qC yX
 have HO2:=qC cA
 have yJ:Hid (E.At w2 b2 c2 co.x v2 (code++co.s)):=qC fS
 have qH:=qC ((qA yV).trans yA)
 clear yX cA fS yA bN m0 m1 m2 d0 d1 d2 d3 d4 d5 d6 q0 q1 q2 q3 q4
 have HL:=qC (tS (iN 12 0) (qA yJ) dU.1)
 go_wp2_with fail
 refine(qA HL).mono ?_
 rintro e w3 ⟨rfl,v3,b3,c3,uK,mF⟩
 have HF:Hid (E.P v w ⟨co.s++[iN 12 0],co.x⟩ code w3):=qC ⟨v3,b3,c3,by rw[List.append_assoc]at uK;exact uK,(qA qH).trans mF⟩
 clear uK mF HL
 go_wp2
 go_end0
 exact⟨rfl,qA HF⟩
theorem qN1{E:CE}(ho:E.Ok){n k lo:Nat}(vL:E.IH n)(hk:k≤n){m:TN}{x:SC}{b c:Nat}{v:Value}{code:List IR}{w:World}(hm:E.ns[k]? = some m)(hS:y7 E.ns m.kids lo k)(hr:E.Room x code (k+1-lo))(hA:E.At w b c x v code)(hW:E.On w)(eE:m.k=16)(hR:E.g (n+1) (k:Int) x code.length=⟨(ck (E.g n) m.kids x code.length).s++[iN 13 0],(ck (E.g n) m.kids x code.length).x⟩):E.Node (n+1) k x v code w:=by
 unfold CE.Node
 rw[hR]
 obtain⟨pn,cn,pk,ckp,nb,jK,wC,fJ,rZ,zN,vV,mP,m0,m1,m2,d0,d1,q0,q1,q2,q3,q4,HP,HI,xO,vG,yV,yF,dS⟩:=vH ho hm hA hW
 obtain⟨-,-,d2,d3,d4,d5,d6⟩:=hA.sc.blk.cells
 have eA:=hr.1
 have iU:=hr.2
 have xH:=qC vL
 have HO:=qC ho
 have HS:=qC hS
 have HA:=qC hA
 have HW:=qC hW
 have lU:=qC hr
 clear vL hS hR hr hA hW ho
 have e16:(m.k == 16)=true:=by rw[eE];rfl
 have e1:(m.k == 1)=false:=by rw[eE];rfl
 have e2:(m.k == 2)=false:=by rw[eE];rfl
 have e3:(m.k == 3)=false:=by rw[eE];rfl
 have e4:(m.k == 4)=false:=by rw[eE];rfl
 have e5:(m.k == 5)=false:=by rw[eE];rfl
 have e6:(m.k == 6)=false:=by rw[eE];rfl
 have e7:(m.k == 7)=false:=by rw[eE];rfl
 have e8:(m.k == 8)=false:=by rw[eE];rfl
 have e9:(m.k == 9)=false:=by rw[eE];rfl
 have e10:(m.k == 10)=false:=by rw[eE];rfl
 have e11:(m.k == 11)=false:=by rw[eE];rfl
 have e12:(m.k == 12)=false:=by rw[eE];rfl
 have e15:(m.k == 15)=false:=by rw[eE];rfl
 clear eE
 have dU:=r9 (qA HO) (qA HS) hk (qA lU)
 have bN:=qC (aA (qA HO) (qA xH) hk (pn:=pn) (cn:=cn) (pk:=pk) (ckp:=ckp) (m:=m) (qA HS) ⟨by omega,by omega⟩ (qA vG) (qA yF) (qA HI) zN)
 generalize ck (E.g n) m.kids x code.length=co at bN dU ⊢
 go_enter Tryz.func118,Tryz.ntmps118
 go_wp2_with fail
 refine(qA bN).mono ?_
 rintro e w2 ⟨rfl,v2,b2,c2,fS,yA⟩
 obtain⟨yX,cA⟩:=qA dS v2 w2 yA
 have lV:=yX.lt
 obtain⟨z0,z2,z4⟩:=yX.cells
 have z1:w2.cell? ⟨w.heap.size,1,none⟩=some (.int .i64 m.n):=(cell_of_block yX.blk 1).trans rfl
 have z3:w2.cell? ⟨w.heap.size,3,none⟩=some (.slice pn m.names.length cn):=(cell_of_block yX.blk 3).trans rfl
 have uF:=qC yX
 have HO2:=qC cA
 have yJ:Hid (E.At w2 b2 c2 co.x v2 (code++co.s)):=qC fS
 have qH:=qC ((qA yV).trans yA)
 clear yX cA fS yA bN m0 m1 m2 d0 d1 d2 d3 d4 d5 d6 q0 q1 q2 q3 q4
 have HL:=qC (tS (iN 13 0) (qA yJ) dU.1)
 go_wp2_with fail
 refine(qA HL).mono ?_
 rintro e w3 ⟨rfl,v3,b3,c3,uK,mF⟩
 have HF:Hid (E.P v w ⟨co.s++[iN 13 0],co.x⟩ code w3):=qC ⟨v3,b3,c3,by rw[List.append_assoc]at uK;exact uK,(qA qH).trans mF⟩
 clear uK mF HL
 go_wp2
 go_end0
 exact⟨rfl,qA HF⟩
theorem qNn{E:CE}(ho:E.Ok){n k lo:Nat}(vL:E.IH n)(hk:k≤n){m:TN}{x:SC}{b c:Nat}{v:Value}{code:List IR}{w:World}(hm:E.ns[k]? = some m)(hS:y7 E.ns m.kids lo k)(hr:E.Room x code (k+1-lo))(hA:E.At w b c x v code)(hW:E.On w)(oC:m.k=19)(hR:E.g (n+1) (k:Int) x code.length=⟨(ck (E.g n) m.kids x code.length).s++[iN 16 0],(ck (E.g n) m.kids x code.length).x⟩):E.Node (n+1) k x v code w:=by
 unfold CE.Node
 rw[hR]
 obtain⟨pn,cn,pk,ckp,nb,jK,wC,fJ,rZ,zN,vV,mP,m0,m1,m2,d0,d1,q0,q1,q2,q3,q4,HP,HI,xO,vG,yV,yF,dS⟩:=vH ho hm hA hW
 obtain⟨-,-,d2,d3,d4,d5,d6⟩:=hA.sc.blk.cells
 have eA:=hr.1
 have iU:=hr.2
 have xH:=qC vL
 have HO:=qC ho
 have HS:=qC hS
 have HA:=qC hA
 have HW:=qC hW
 have lU:=qC hr
 clear vL hS hR hr hA hW ho
 have e19:(m.k == 19)=true:=by rw[oC];rfl
 have e1:(m.k == 1)=false:=by rw[oC];rfl
 have e2:(m.k == 2)=false:=by rw[oC];rfl
 have e3:(m.k == 3)=false:=by rw[oC];rfl
 have e4:(m.k == 4)=false:=by rw[oC];rfl
 have e5:(m.k == 5)=false:=by rw[oC];rfl
 have e6:(m.k == 6)=false:=by rw[oC];rfl
 have e7:(m.k == 7)=false:=by rw[oC];rfl
 have e8:(m.k == 8)=false:=by rw[oC];rfl
 have e9:(m.k == 9)=false:=by rw[oC];rfl
 have e10:(m.k == 10)=false:=by rw[oC];rfl
 have e11:(m.k == 11)=false:=by rw[oC];rfl
 have e12:(m.k == 12)=false:=by rw[oC];rfl
 have e15:(m.k == 15)=false:=by rw[oC];rfl
 have e16:(m.k == 16)=false:=by rw[oC];rfl
 clear oC
 have dU:=r9 (qA HO) (qA HS) hk (qA lU)
 have bN:=qC (aA (qA HO) (qA xH) hk (pn:=pn) (cn:=cn) (pk:=pk) (ckp:=ckp) (m:=m) (qA HS) ⟨by omega,by omega⟩ (qA vG) (qA yF) (qA HI) zN)
 generalize ck (E.g n) m.kids x code.length=co at bN dU ⊢
 go_enter Tryz.func118,Tryz.ntmps118
 go_wp2_with fail
 refine(qA bN).mono ?_
 rintro e w2 ⟨rfl,v2,b2,c2,fS,yA⟩
 obtain⟨yX,cA⟩:=qA dS v2 w2 yA
 have lV:=yX.lt
 obtain⟨z0,z2,z4⟩:=yX.cells
 have z1:w2.cell? ⟨w.heap.size,1,none⟩=some (.int .i64 m.n):=(cell_of_block yX.blk 1).trans rfl
 have z3:w2.cell? ⟨w.heap.size,3,none⟩=some (.slice pn m.names.length cn):=(cell_of_block yX.blk 3).trans rfl
 have uF:=qC yX
 have HO2:=qC cA
 have yJ:Hid (E.At w2 b2 c2 co.x v2 (code++co.s)):=qC fS
 have qH:=qC ((qA yV).trans yA)
 clear yX cA fS yA bN m0 m1 m2 d0 d1 d2 d3 d4 d5 d6 q0 q1 q2 q3 q4
 have HL:=qC (tS (iN 16 0) (qA yJ) dU.1)
 go_wp2_with fail
 refine(qA HL).mono ?_
 rintro e w3 ⟨rfl,v3,b3,c3,uK,mF⟩
 have HF:Hid (E.P v w ⟨co.s++[iN 16 0],co.x⟩ code w3):=qC ⟨v3,b3,c3,by rw[List.append_assoc]at uK;exact uK,(qA qH).trans mF⟩
 clear uK mF HL
 go_wp2
 go_end0
 exact⟨rfl,qA HF⟩
theorem qQr{E:CE}(ho:E.Ok){n k lo:Nat}(vL:E.IH n)(hk:k≤n){m:TN}{x:SC}{b c:Nat}{v:Value}{code:List IR}{w:World}(hm:E.ns[k]? = some m)(hS:y7 E.ns m.kids lo k)(hr:E.Room x code (k+1-lo))(hA:E.At w b c x v code)(hW:E.On w)(h5:m.k=5)(hR:E.g (n+1) (k:Int) x code.length=⟨[iN 2 (vA x.nm m.t)],x⟩):E.Node (n+1) k x v code w:=by
 unfold CE.Node
 rw[hR]
 obtain⟨pn,cn,pk,ckp,nb,jK,wC,fJ,rZ,zN,vV,mP,m0,m1,m2,d0,d1,q0,q1,q2,q3,q4,HP,HI,xO,vG,yV,yF,dS⟩:=vH ho hm hA hW
 obtain⟨-,-,d2,d3,d4,d5,d6⟩:=hA.sc.blk.cells
 have eA:=hr.1
 have iU:=hr.2
 have xH:=qC vL
 have HO:=qC ho
 have HS:=qC hS
 have HA:=qC hA
 have HW:=qC hW
 have lU:=qC hr
 clear vL hS hR hr hA hW ho
 have e5:(m.k == 5)=true:=by rw[h5];rfl
 have e1:(m.k == 1)=false:=by rw[h5];rfl
 have e2:(m.k == 2)=false:=by rw[h5];rfl
 have e3:(m.k == 3)=false:=by rw[h5];rfl
 have e4:(m.k == 4)=false:=by rw[h5];rfl
 clear h5
 have HAD:Hid (E.At (w.alloc (.cells #[.int .i64 m.k,.int .i64 m.n,.string m.t,.slice pn m.names.length cn,.slice pk m.kids.length ckp] 128)).drew b c x v code):=qC (yC.drew' (qA vG))
 have kN:=qC (tP E.X E.t0 E.t1 b c x m.t (w.alloc (.cells #[.int .i64 m.k,.int .i64 m.n,.string m.t,.slice pn m.names.length cn,.slice pk m.kids.length ckp] 128)).drew (qA HAD).sc (by omega))
 generalize vA x.nm m.t=fz at kN ⊢
 have HL:=qC (tS (iN 2 fz) (qA HAD) (qA lU).fit)
 have HKD:Hid (CK E.M E.X v v w (w.alloc (.cells #[.int .i64 m.k,.int .i64 m.n,.string m.t,.slice pn m.names.length cn,.slice pk m.kids.length ckp] 128)).drew):=qC ((qA yV).trans (CK.of_below (qF (Below.refl _ _))))
 go_enter Tryz.func118,Tryz.ntmps118
 go_wp2
 go_region_with (first | (go_at_call 145;refine(qA kN).mono ?_;rintro e y ⟨rfl,rfl⟩) | (go_at_call 120;refine(qA HL).mono ?_;rintro e w3 ⟨rfl,v3,b3,c3,uK,mF⟩))
 all_goals
  have HF:Hid (E.P v w ⟨[iN 2 fz],x⟩ code w3):=qC ⟨v3,b3,c3,uK,(qA HKD).trans mF⟩
  clear uK mF
 all_goals go_wp2
 all_goals
  go_end0
  exact⟨rfl,qA HF⟩
theorem qMV{E:CE}(ho:E.Ok){n k lo:Nat}(vL:E.IH n)(hk:k≤n){m:TN}{x:SC}{b c:Nat}{v:Value}{code:List IR}{w:World}(hm:E.ns[k]? = some m)(hS:y7 E.ns m.kids lo k)(hr:E.Room x code (k+1-lo))(hA:E.At w b c x v code)(hW:E.On w)(sN:m.k=12)(hR:E.g (n+1) (k:Int) x code.length=⟨(ck (E.g n) m.kids x code.length).s++[iN 3 (vA (ck (E.g n) m.kids x code.length).x.nm m.t)],(ck (E.g n) m.kids x code.length).x⟩):E.Node (n+1) k x v code w:=by
 unfold CE.Node
 rw[hR]
 obtain⟨pn,cn,pk,ckp,nb,jK,wC,fJ,rZ,zN,vV,mP,m0,m1,m2,d0,d1,q0,q1,q2,q3,q4,HP,HI,xO,vG,yV,yF,dS⟩:=vH ho hm hA hW
 obtain⟨-,-,d2,d3,d4,d5,d6⟩:=hA.sc.blk.cells
 have eA:=hr.1
 have iU:=hr.2
 have xH:=qC vL
 have HO:=qC ho
 have HS:=qC hS
 have HA:=qC hA
 have HW:=qC hW
 have lU:=qC hr
 clear vL hS hR hr hA hW ho
 have e12:(m.k == 12)=true:=by rw[sN];rfl
 have e1:(m.k == 1)=false:=by rw[sN];rfl
 have e2:(m.k == 2)=false:=by rw[sN];rfl
 have e3:(m.k == 3)=false:=by rw[sN];rfl
 have e4:(m.k == 4)=false:=by rw[sN];rfl
 have e5:(m.k == 5)=false:=by rw[sN];rfl
 have e6:(m.k == 6)=false:=by rw[sN];rfl
 have e7:(m.k == 7)=false:=by rw[sN];rfl
 have e8:(m.k == 8)=false:=by rw[sN];rfl
 have e9:(m.k == 9)=false:=by rw[sN];rfl
 have e10:(m.k == 10)=false:=by rw[sN];rfl
 have e11:(m.k == 11)=false:=by rw[sN];rfl
 clear sN
 have dU:=r9 (qA HO) (qA HS) hk (qA lU)
 have bN:=qC (aA (qA HO) (qA xH) hk (pn:=pn) (cn:=cn) (pk:=pk) (ckp:=ckp) (m:=m) (qA HS) ⟨by omega,by omega⟩ (qA vG) (qA yF) (qA HI) zN)
 generalize ck (E.g n) m.kids x code.length=co at bN dU ⊢
 obtain⟨cs,xc⟩:=co
 dsimp only at dU
 have HFN:=qC (fun (w2:World) (b2 c2:Nat) (h:wP w2 E.X E.t0 E.t1 b2 c2 xc)=>tP E.X E.t0 E.t1 b2 c2 xc m.t w2 h (by omega))
 generalize vA xc.nm m.t=fz at HFN ⊢
 go_enter Tryz.func118,Tryz.ntmps118
 go_wp2_with fail
 refine(qA bN).mono ?_
 rintro e w2 ⟨rfl,v2,b2,c2,fS,yA⟩
 obtain⟨yX,cA⟩:=qA dS v2 w2 yA
 have lV:=yX.lt
 obtain⟨z0,z2,z4⟩:=yX.cells
 have yJ:Hid (E.At w2 b2 c2 xc v2 (code++cs)):=qC fS
 have qVq:=qC yA
 have qH:=qC ((qA yV).trans yA)
 clear m0 m1 m2
 obtain⟨m0,m1,m2⟩:=yC.cells (qA yJ)
 have qYY:=yC.lt (qA yJ)
 clear yX cA fS yA bN d0 d1 d2 d3 d4 d5 d6 q0 q1 q2 q3 q4
 have HAD:Hid (E.At w2.drew b2 c2 xc v2 (code++cs)):=qC (yC.drew' (qA yJ))
 have kN:=qC (qA HFN w2.drew b2 c2 (qA HAD).sc)
 have HL:=qC (tS (iN 3 fz) (qA HAD) dU.1)
 have HKD:Hid (CK E.M E.X v v2 w w2.drew):=qC ((qA qH).trans (CK.of_below (qF (Below.refl _ _))))
 clear HFN
 go_wp2
 go_region_with (first | (go_at_call 145;refine(qA kN).mono ?_;rintro e y ⟨rfl,rfl⟩) | (go_at_call 120;refine(qA HL).mono ?_;rintro e w3 ⟨rfl,v3,b3,c3,uK,mF⟩))
 all_goals
  have HF:Hid (E.P v w ⟨cs++[iN 3 fz],xc⟩ code w3):=qC ⟨v3,b3,c3,by rw[List.append_assoc]at uK;exact uK,(qA HKD).trans mF⟩
  clear uK mF
 all_goals go_wp2
 all_goals
  go_end0
  exact⟨rfl,qA HF⟩
theorem qM9{E:CE}(ho:E.Ok){n k lo:Nat}(vL:E.IH n)(hk:k≤n){m:TN}{x:SC}{b c:Nat}{v:Value}{code:List IR}{w:World}(hm:E.ns[k]? = some m)(hS:y7 E.ns m.kids lo k)(hr:E.Room x code (k+1-lo))(hA:E.At w b c x v code)(hW:E.On w)(sT:m.k=11)(hR:E.g (n+1) (k:Int) x code.length=⟨(ck (E.g n) m.kids x code.length).s++[iN 3 (vA (qQ m.t (k:Int) (ck (E.g n) m.kids x code.length).x).nm m.t)],qQ m.t (k:Int) (ck (E.g n) m.kids x code.length).x⟩):E.Node (n+1) k x v code w:=by
 unfold CE.Node
 rw[hR]
 obtain⟨pn,cn,pk,ckp,nb,jK,wC,fJ,rZ,zN,vV,mP,m0,m1,m2,d0,d1,q0,q1,q2,q3,q4,HP,HI,xO,vG,yV,yF,dS⟩:=vH ho hm hA hW
 obtain⟨-,-,d2,d3,d4,d5,d6⟩:=hA.sc.blk.cells
 have eA:=hr.1
 have iU:=hr.2
 have xH:=qC vL
 have HO:=qC ho
 have HS:=qC hS
 have HA:=qC hA
 have HW:=qC hW
 have lU:=qC hr
 clear vL hS hR hr hA hW ho
 have e11:(m.k == 11)=true:=by rw[sT];rfl
 have e1:(m.k == 1)=false:=by rw[sT];rfl
 have e2:(m.k == 2)=false:=by rw[sT];rfl
 have e3:(m.k == 3)=false:=by rw[sT];rfl
 have e4:(m.k == 4)=false:=by rw[sT];rfl
 have e5:(m.k == 5)=false:=by rw[sT];rfl
 have e6:(m.k == 6)=false:=by rw[sT];rfl
 have e7:(m.k == 7)=false:=by rw[sT];rfl
 have e8:(m.k == 8)=false:=by rw[sT];rfl
 have e9:(m.k == 9)=false:=by rw[sT];rfl
 have e10:(m.k == 10)=false:=by rw[sT];rfl
 clear sT
 have dU:=r9 (qA HO) (qA HS) hk (qA lU)
 have bN:=qC (aA (qA HO) (qA xH) hk (pn:=pn) (cn:=cn) (pk:=pk) (ckp:=ckp) (m:=m) (qA HS) ⟨by omega,by omega⟩ (qA vG) (qA yF) (qA HI) zN)
 generalize ck (E.g n) m.kids x code.length=co at bN dU ⊢
 obtain⟨cs,xc⟩:=co
 dsimp only at dU
 have HBR:=qC (fun (w2:World) (b2 c2:Nat) (h:wP w2 E.X E.t0 E.t1 b2 c2 xc)=>oZ E.X E.t0 E.t1 b2 c2 xc (k:Int) m.t w2 h (by omega) (by unfold maxLen;omega))
 have hbn:(qQ m.t (k:Int) xc).nm.length=xc.nm.length+1:=by rw[vI];simp
 generalize qQ m.t (k:Int) xc=x2 at HBR hbn ⊢
 have HFN:=qC (fun (w2:World) (b2 c2:Nat) (h:wP w2 E.X E.t0 E.t1 b2 c2 x2)=>tP E.X E.t0 E.t1 b2 c2 x2 m.t w2 h (by omega))
 generalize vA x2.nm m.t=fz at HFN ⊢
 go_enter Tryz.func118,Tryz.ntmps118
 go_wp2_with fail
 refine(qA bN).mono ?_
 rintro e w2 ⟨rfl,v2,b2,c2,fS,yA⟩
 obtain⟨yX,cA⟩:=qA dS v2 w2 yA
 have lV:=yX.lt
 obtain⟨z0,z2,z4⟩:=yX.cells
 have yJ:Hid (E.At w2 b2 c2 xc v2 (code++cs)):=qC fS
 have qVq:=qC yA
 have qH:=qC ((qA yV).trans yA)
 clear m0 m1 m2
 obtain⟨m0,m1,m2⟩:=yC.cells (qA yJ)
 have qYY:=yC.lt (qA yJ)
 clear yX cA fS yA bN d0 d1 d2 d3 d4 d5 d6 q0 q1 q2 q3 q4
 have HAD:Hid (E.At w2.drew b2 c2 xc v2 (code++cs)):=qC (yC.drew' (qA yJ))
 have y8:=qC (qA HBR w2.drew b2 c2 (qA HAD).sc)
 clear HBR
 go_wp2
 go_region_with (go_at_call 141;refine(qA y8).mono ?_;rintro e y ⟨rfl,b5,c5,hS5,nU,gL⟩)
 all_goals
  have hA5:E.At y b5 c5 x2 v2 (code++cs):=yC.scope (qA HAD) nU hS5 (.inr gL)
  have hk5:CK E.M E.X v2 v2 w2 y:=(CK.of_below (qF (Below.refl _ _))).trans (CK.of_keep nU)
  obtain⟨hB5,hO5⟩:=qA dS v2 y ((qA qVq).trans hk5)
  have jCq:=hB5.lt
  obtain⟨zz0,zz2,zz4⟩:=hB5.cells
  have HA5:Hid (E.At y.drew b5 c5 x2 v2 (code++cs)):=qC (yC.drew' hA5)
  have kN:=qC (qA HFN y.drew b5 c5 (qA HA5).sc)
  have HL:=qC (tS (iN 3 fz) (qA HA5) dU.1)
  have HKD:Hid (CK E.M E.X v v2 w y.drew):=qC (((qA qH).trans hk5).trans (CK.of_below (qF (Below.refl _ _))))
  obtain⟨mm0,mm1,mm2⟩:=yC.cells hA5
  have jCE:=yC.lt hA5
  clear HFN y8 hS5 nU gL hA5 hk5 hB5 hO5 z0 z2 z4 m0 m1 m2
 all_goals go_wp2
 all_goals go_region_with (first | (go_at_call 145;refine(qA kN).mono ?_;rintro e y9 ⟨rfl,rfl⟩) | (go_at_call 120;refine(qA HL).mono ?_;rintro e w3 ⟨rfl,v3,b3,c3,uK,mF⟩))
 all_goals
  have HF:Hid (E.P v w ⟨cs++[iN 3 fz],x2⟩ code w3):=qC ⟨v3,b3,c3,by rw[List.append_assoc]at uK;exact uK,(qA HKD).trans mF⟩
  clear uK mF
 all_goals go_wp2
 all_goals
  go_end0
  exact⟨rfl,qA HF⟩
theorem qPr{E:CE}(ho:E.Ok){n k lo:Nat}(vL:E.IH n)(hk:k≤n){m:TN}{x:SC}{b c:Nat}{v:Value}{code:List IR}{w:World}(hm:E.ns[k]? = some m)(hS:y7 E.ns m.kids lo k)(hr:E.Room x code (k+1-lo))(hA:E.At w b c x v code)(hW:E.On w)(h8:m.k=8)(mp mq:Nat)(xV:m.kids=[(mp:Int),(mq:Int)])(hR:E.g (n+1) (k:Int) x code.length=⟨(E.g n (mp:Int) x code.length).s++iN 8 ((code.length+(E.g n (mp:Int) x code.length).s.length+1+(E.g n (mq:Int) (E.g n (mp:Int) x code.length).x (code.length+(E.g n (mp:Int) x code.length).s.length+1)).s.length:Nat):Int)::(E.g n (mq:Int) (E.g n (mp:Int) x code.length).x (code.length+(E.g n (mp:Int) x code.length).s.length+1)).s,(E.g n (mq:Int) (E.g n (mp:Int) x code.length).x (code.length+(E.g n (mp:Int) x code.length).s.length+1)).x⟩):E.Node (n+1) k x v code w:=by
 unfold CE.Node
 rw[hR]
 obtain⟨pn,cn,pk,ckp,nb,jK,wC,fJ,rZ,zN,vV,mP,m0,m1,m2,d0,d1,q0,q1,q2,q3,q4,HP,HI,xO,vG,yV,yF,dS⟩:=vH ho hm hA hW
 obtain⟨-,-,d2,d3,d4,d5,d6⟩:=hA.sc.blk.cells
 have eA:=hr.1
 have iU:=hr.2
 have xH:=qC vL
 have HO:=qC ho
 have HS:=qC hS
 have HA:=qC hA
 have HW:=qC hW
 have lU:=qC hr
 clear vL hS hR hr hA hW ho
 have e8:(m.k == 8)=true:=by rw[h8];rfl
 have e1:(m.k == 1)=false:=by rw[h8];rfl
 have e2:(m.k == 2)=false:=by rw[h8];rfl
 have e3:(m.k == 3)=false:=by rw[h8];rfl
 have e4:(m.k == 4)=false:=by rw[h8];rfl
 have e5:(m.k == 5)=false:=by rw[h8];rfl
 have e6:(m.k == 6)=false:=by rw[h8];rfl
 have e7:(m.k == 7)=false:=by rw[h8];rfl
 have e9:(m.k == 9)=false:=by rw[h8];rfl
 clear h8
 have hl2:m.kids.length=2:=by rw[xV];rfl
 have h0l:(0:Int)<(m.kids.length:Int):=by omega
 have h1l:(1:Int)<(m.kids.length:Int):=by omega
 have dA:=qA HS
 rw[xV]at dA
 obtain⟨mR,dC,ep,eq',s1,s2,g1,g2,g3⟩:=rA dA
 obtain rfl:mR=mp:=by omega
 obtain rfl:dC=mq:=by omega
 have gM:=xX (ns:=E.ns) (root:=E.root) (fs:=E.fs) (qA HO).fun' n
 obtain⟨kb,zY,kI,y0⟩:=(qA HI w (qA HW)) 0 (by omega)
 have k0:m.kids[0]'(by omega)=(mR:Int):=by simp[xV]
 have k1:m.kids[1]'(by omega)=(dC:Int):=by simp[xV]
 rw[k0,Nat.add_zero]at y0
 have qMm:kb<w.heap.size:=World.block_lt_of_cell? _ _ y0
 have HI0:Hid (∀ wx,E.On wx→wx.cell? ⟨kb,zY,none⟩=some (.int .i64 (mR:Int))):=qC (fun wx h=>by
  obtain⟨lP,kP,uH,y1⟩:=(qA HI wx h) 0 (by omega)
  rw[kI]at uH
  obtain⟨rfl,rfl⟩:kb=lP∧zY=kP:=by simpa using uH
  rw[k0,Nat.add_zero]at y1
  exact y1)
 have xJ:Hid (∀ wx,E.On wx→wx.cell? ⟨kb,zY+1,none⟩=some (.int .i64 (dC:Int))):=qC (fun wx h=>by
  obtain⟨lP,kP,uH,y1⟩:=(qA HI wx h) 1 (by omega)
  rw[kI]at uH
  obtain⟨rfl,rfl⟩:kb=lP∧zY=kP:=by simpa using uH
  rw[k1]at y1
  exact y1)
 subst kI
 have sM:(code).length=code.length:=by first | rfl | simp only[List.length_append,List.length_singleton,List.length_cons,List.length_nil]
 have wK:=qC (fun (v':Value) (b' c':Nat) (w':World) (h:E.At w' b' c' (x) v' (code)) (eC:E.On w')=>qA xH mR lo (x) b' c' v' (code) w' (by omega) s1 ⟨by omega,by rw[sM];omega⟩ h eC)
 unfold CE.Node at wK
 try simp only[sM]at wK
 have pl1:(E.g n (mR:Int) (x) (code.length)).x.nm.length≤_:=gM.len mR lo (x) (code.length) (by omega) s1
 have pi1:(E.g n (mR:Int) (x) (code.length)).s.length≤_:=gM.ins mR lo (x) (code.length) (by omega) s1
 generalize E.g n (mR:Int) (x) (code.length)=o1 at wK pl1 pi1 ⊢
 obtain⟨xB,xZ⟩:∃ xB,xB=code++o1.s:=⟨_,rfl⟩
 have rG:(xB++[iN 8 0]).length=code.length+o1.s.length+1:=by first | rfl | simp only[xZ,List.length_append,List.length_singleton,List.length_cons,List.length_nil]
 have gO:=qC (fun (v':Value) (b' c':Nat) (w':World) (h:E.At w' b' c' (o1.x) v' (xB++[iN 8 0])) (eC:E.On w')=>qA xH dC (mR+1) (o1.x) b' c' v' (xB++[iN 8 0]) w' (by omega) s2 ⟨by omega,by rw[rG];omega⟩ h eC)
 unfold CE.Node at gO
 try simp only[rG]at gO
 have pl2:(E.g n (dC:Int) (o1.x) (code.length+o1.s.length+1)).x.nm.length≤_:=gM.len dC (mR+1) (o1.x) (code.length+o1.s.length+1) (by omega) s2
 have pi2:(E.g n (dC:Int) (o1.x) (code.length+o1.s.length+1)).s.length≤_:=gM.ins dC (mR+1) (o1.x) (code.length+o1.s.length+1) (by omega) s2
 generalize E.g n (dC:Int) (o1.x) (code.length+o1.s.length+1)=o2 at gO pl2 pi2 ⊢
 have HLN:Hid ((xB++[iN 8 0]++o2.s).length=code.length+o1.s.length+1+o2.s.length):=qC (by simp only[xZ,List.length_append,List.length_singleton])
 have HJ:Hid (xB.length=code.length+o1.s.length):=qC (by rw[xZ,List.length_append])
 have aI:xB.length≤100000:=by rw[qA HJ];omega
 have aH:(xB++[iN 8 0]++o2.s).length≤100000:=by rw[qA HLN];omega
 have HCE:=qC xZ
 have iS:xB.length<(xB++[iN 8 0]++o2.s).length:=by simp only[List.length_append,List.length_singleton];omega
 clear xZ
 have qSn:Hid (∀ w,Calls Tryz.prog 25 #[.bool false] w fun e w'=>e=.returned (.int .i64 0)∧w'=w):=qC (fun w=>bT false w)
 clear dA s1 s2 ep eq' k0 k1 xV HI HS hl2 sM rG gM xH
 have dT:=qC (qA wK v b c _ (qA vG) (qA yF))
 clear wK
 go_enter Tryz.func118,Tryz.ntmps118
 go_wp2_with fail
 refine(qA dT).mono ?_
 rintro e w2 ⟨rfl,v2,b2,c2,fS,yA⟩
 obtain⟨yX,cA⟩:=qA dS v2 w2 yA
 have lV:=yX.lt
 obtain⟨z0,z2,z4⟩:=yX.cells
 have qH:=qC yA
 rw[←qA HCE]at fS
 have HL:=qC (tS (iN 8 0) fS aI)
 clear yX cA fS yA dT m0 m1 m2 d0 d1 d2 d3 d4 d5 d6 q0 q1 q2 q3 q4 y0
 go_wp2_with fail
 refine(qA qSn _).mono ?_
 rintro e w2 ⟨rfl,rfl⟩
 go_wp2_with fail
 refine(qA HL).mono ?_
 rintro e w3 ⟨rfl,v3,b3,c3,uK,mF⟩
 have rF:=(qA qH).trans mF
 obtain⟨wR,oD⟩:=qA dS v3 w3 rF
 have qJG:=wR.lt
 obtain⟨z0,z2,z4⟩:=wR.cells
 have y1:=qA xJ w3 oD
 have yK:=qC rF
 have yW:=qC (qA gO v3 b3 c3 w3 uK oD)
 clear wR oD uK mF rF HL qH gO
 go_wp2_with fail
 refine(qA yW).mono ?_
 rintro e w4 ⟨rfl,v4,b4,c4,hC4,hK4⟩
 have fG:=qC ((qA yK).trans hK4)
 have HH:=qC (qAK xB.length hC4 iS aH)
 clear hC4 hK4 yW yK y1
 go_wp2_with fail
 refine(qA HH).mono ?_
 rintro e w5 ⟨rfl,v5,b5,c5,oE,nU⟩
 have HF:Hid (E.P v w ⟨o1.s++iN 8 ((code.length+o1.s.length+1+o2.s.length:Nat):Int)::o2.s,o2.x⟩ code w5):=qC ⟨v5,b5,c5,by
  rw[qA HLN,show xB++[iN 8 0]++o2.s=xB++iN 8 0::o2.s by simp,gT,qA HCE,List.append_assoc]at oE
  exact oE,((qA yV).trans (qA fG)).trans nU⟩
 clear oE nU HH
 go_wp2
 go_end0
 exact⟨rfl,qA HF⟩
theorem qPD{E:CE}(ho:E.Ok){n k lo:Nat}(vL:E.IH n)(hk:k≤n){m:TN}{x:SC}{b c:Nat}{v:Value}{code:List IR}{w:World}(hm:E.ns[k]? = some m)(hS:y7 E.ns m.kids lo k)(hr:E.Room x code (k+1-lo))(hA:E.At w b c x v code)(hW:E.On w)(h9:m.k=9)(mp mq:Nat)(xV:m.kids=[(mp:Int),(mq:Int)])(hR:E.g (n+1) (k:Int) x code.length=⟨(E.g n (mp:Int) x code.length).s++iN 9 ((code.length+(E.g n (mp:Int) x code.length).s.length+1+(E.g n (mq:Int) (E.g n (mp:Int) x code.length).x (code.length+(E.g n (mp:Int) x code.length).s.length+1)).s.length:Nat):Int)::(E.g n (mq:Int) (E.g n (mp:Int) x code.length).x (code.length+(E.g n (mp:Int) x code.length).s.length+1)).s,(E.g n (mq:Int) (E.g n (mp:Int) x code.length).x (code.length+(E.g n (mp:Int) x code.length).s.length+1)).x⟩):E.Node (n+1) k x v code w:=by
 unfold CE.Node
 rw[hR]
 obtain⟨pn,cn,pk,ckp,nb,jK,wC,fJ,rZ,zN,vV,mP,m0,m1,m2,d0,d1,q0,q1,q2,q3,q4,HP,HI,xO,vG,yV,yF,dS⟩:=vH ho hm hA hW
 obtain⟨-,-,d2,d3,d4,d5,d6⟩:=hA.sc.blk.cells
 have eA:=hr.1
 have iU:=hr.2
 have xH:=qC vL
 have HO:=qC ho
 have HS:=qC hS
 have HA:=qC hA
 have HW:=qC hW
 have lU:=qC hr
 clear vL hS hR hr hA hW ho
 have e9:(m.k == 9)=true:=by rw[h9];rfl
 have e1:(m.k == 1)=false:=by rw[h9];rfl
 have e2:(m.k == 2)=false:=by rw[h9];rfl
 have e3:(m.k == 3)=false:=by rw[h9];rfl
 have e4:(m.k == 4)=false:=by rw[h9];rfl
 have e5:(m.k == 5)=false:=by rw[h9];rfl
 have e6:(m.k == 6)=false:=by rw[h9];rfl
 have e7:(m.k == 7)=false:=by rw[h9];rfl
 have e8:(m.k == 8)=false:=by rw[h9];rfl
 clear h9
 have hl2:m.kids.length=2:=by rw[xV];rfl
 have h0l:(0:Int)<(m.kids.length:Int):=by omega
 have h1l:(1:Int)<(m.kids.length:Int):=by omega
 have dA:=qA HS
 rw[xV]at dA
 obtain⟨mR,dC,ep,eq',s1,s2,g1,g2,g3⟩:=rA dA
 obtain rfl:mR=mp:=by omega
 obtain rfl:dC=mq:=by omega
 have gM:=xX (ns:=E.ns) (root:=E.root) (fs:=E.fs) (qA HO).fun' n
 obtain⟨kb,zY,kI,y0⟩:=(qA HI w (qA HW)) 0 (by omega)
 have k0:m.kids[0]'(by omega)=(mR:Int):=by simp[xV]
 have k1:m.kids[1]'(by omega)=(dC:Int):=by simp[xV]
 rw[k0,Nat.add_zero]at y0
 have qMm:kb<w.heap.size:=World.block_lt_of_cell? _ _ y0
 have HI0:Hid (∀ wx,E.On wx→wx.cell? ⟨kb,zY,none⟩=some (.int .i64 (mR:Int))):=qC (fun wx h=>by
  obtain⟨lP,kP,uH,y1⟩:=(qA HI wx h) 0 (by omega)
  rw[kI]at uH
  obtain⟨rfl,rfl⟩:kb=lP∧zY=kP:=by simpa using uH
  rw[k0,Nat.add_zero]at y1
  exact y1)
 have xJ:Hid (∀ wx,E.On wx→wx.cell? ⟨kb,zY+1,none⟩=some (.int .i64 (dC:Int))):=qC (fun wx h=>by
  obtain⟨lP,kP,uH,y1⟩:=(qA HI wx h) 1 (by omega)
  rw[kI]at uH
  obtain⟨rfl,rfl⟩:kb=lP∧zY=kP:=by simpa using uH
  rw[k1]at y1
  exact y1)
 subst kI
 have sM:(code).length=code.length:=by first | rfl | simp only[List.length_append,List.length_singleton,List.length_cons,List.length_nil]
 have wK:=qC (fun (v':Value) (b' c':Nat) (w':World) (h:E.At w' b' c' (x) v' (code)) (eC:E.On w')=>qA xH mR lo (x) b' c' v' (code) w' (by omega) s1 ⟨by omega,by rw[sM];omega⟩ h eC)
 unfold CE.Node at wK
 try simp only[sM]at wK
 have pl1:(E.g n (mR:Int) (x) (code.length)).x.nm.length≤_:=gM.len mR lo (x) (code.length) (by omega) s1
 have pi1:(E.g n (mR:Int) (x) (code.length)).s.length≤_:=gM.ins mR lo (x) (code.length) (by omega) s1
 generalize E.g n (mR:Int) (x) (code.length)=o1 at wK pl1 pi1 ⊢
 obtain⟨xB,xZ⟩:∃ xB,xB=code++o1.s:=⟨_,rfl⟩
 have rG:(xB++[iN 9 0]).length=code.length+o1.s.length+1:=by first | rfl | simp only[xZ,List.length_append,List.length_singleton,List.length_cons,List.length_nil]
 have gO:=qC (fun (v':Value) (b' c':Nat) (w':World) (h:E.At w' b' c' (o1.x) v' (xB++[iN 9 0])) (eC:E.On w')=>qA xH dC (mR+1) (o1.x) b' c' v' (xB++[iN 9 0]) w' (by omega) s2 ⟨by omega,by rw[rG];omega⟩ h eC)
 unfold CE.Node at gO
 try simp only[rG]at gO
 have pl2:(E.g n (dC:Int) (o1.x) (code.length+o1.s.length+1)).x.nm.length≤_:=gM.len dC (mR+1) (o1.x) (code.length+o1.s.length+1) (by omega) s2
 have pi2:(E.g n (dC:Int) (o1.x) (code.length+o1.s.length+1)).s.length≤_:=gM.ins dC (mR+1) (o1.x) (code.length+o1.s.length+1) (by omega) s2
 generalize E.g n (dC:Int) (o1.x) (code.length+o1.s.length+1)=o2 at gO pl2 pi2 ⊢
 have HLN:Hid ((xB++[iN 9 0]++o2.s).length=code.length+o1.s.length+1+o2.s.length):=qC (by simp only[xZ,List.length_append,List.length_singleton])
 have HJ:Hid (xB.length=code.length+o1.s.length):=qC (by rw[xZ,List.length_append])
 have aI:xB.length≤100000:=by rw[qA HJ];omega
 have aH:(xB++[iN 9 0]++o2.s).length≤100000:=by rw[qA HLN];omega
 have HCE:=qC xZ
 have iS:xB.length<(xB++[iN 9 0]++o2.s).length:=by simp only[List.length_append,List.length_singleton];omega
 clear xZ
 have qSn:Hid (∀ w,Calls Tryz.prog 25 #[.bool true] w fun e w'=>e=.returned (.int .i64 1)∧w'=w):=qC (fun w=>bT true w)
 clear dA s1 s2 ep eq' k0 k1 xV HI HS hl2 sM rG gM xH
 have dT:=qC (qA wK v b c _ (qA vG) (qA yF))
 clear wK
 go_enter Tryz.func118,Tryz.ntmps118
 go_wp2_with fail
 refine(qA dT).mono ?_
 rintro e w2 ⟨rfl,v2,b2,c2,fS,yA⟩
 obtain⟨yX,cA⟩:=qA dS v2 w2 yA
 have lV:=yX.lt
 obtain⟨z0,z2,z4⟩:=yX.cells
 have qH:=qC yA
 rw[←qA HCE]at fS
 have HL:=qC (tS (iN 9 0) fS aI)
 clear yX cA fS yA dT m0 m1 m2 d0 d1 d2 d3 d4 d5 d6 q0 q1 q2 q3 q4 y0
 go_wp2_with fail
 refine(qA qSn _).mono ?_
 rintro e w2 ⟨rfl,rfl⟩
 go_wp2_with fail
 refine(qA HL).mono ?_
 rintro e w3 ⟨rfl,v3,b3,c3,uK,mF⟩
 have rF:=(qA qH).trans mF
 obtain⟨wR,oD⟩:=qA dS v3 w3 rF
 have qJG:=wR.lt
 obtain⟨z0,z2,z4⟩:=wR.cells
 have y1:=qA xJ w3 oD
 have yK:=qC rF
 have yW:=qC (qA gO v3 b3 c3 w3 uK oD)
 clear wR oD uK mF rF HL qH gO
 go_wp2_with fail
 refine(qA yW).mono ?_
 rintro e w4 ⟨rfl,v4,b4,c4,hC4,hK4⟩
 have fG:=qC ((qA yK).trans hK4)
 have HH:=qC (qAK xB.length hC4 iS aH)
 clear hC4 hK4 yW yK y1
 go_wp2_with fail
 refine(qA HH).mono ?_
 rintro e w5 ⟨rfl,v5,b5,c5,oE,nU⟩
 have HF:Hid (E.P v w ⟨o1.s++iN 9 ((code.length+o1.s.length+1+o2.s.length:Nat):Int)::o2.s,o2.x⟩ code w5):=qC ⟨v5,b5,c5,by
  rw[qA HLN,show xB++[iN 9 0]++o2.s=xB++iN 9 0::o2.s by simp,gT,qA HCE,List.append_assoc]at oE
  exact oE,((qA yV).trans (qA fG)).trans nU⟩
 clear oE nU HH
 go_wp2
 go_end0
 exact⟨rfl,qA HF⟩
theorem yC.open{E:CE}{w:World}{b c:Nat}{x:SC}{v:Value}{code:List IR}(h:E.At w b c x v code):E.At (w.setCell ⟨E.X,3,none⟩ (.int .i64 (x.nm.length:Int))) b c (jG x) v code∧CK E.M E.X v v w (w.setCell ⟨E.X,3,none⟩ (.int .i64 (x.nm.length:Int))):=by
 have hk:zJ E.X w (w.setCell ⟨E.X,3,none⟩ (.int .i64 (x.nm.length:Int))):=(zJ.refl _ _).set_it
 exact⟨yC.scope h hk h.sc.open (.inl rfl),CK.of_keep hk⟩
theorem yC.shut{E:CE}{w:World}{b c:Nat}{x x0:SC}{v:Value}{code:List IR}(h:E.At w b c x v code)(hp:x0.nm <+: x.nm)(hs:x0.st≤x0.nm.length):E.At ((w.setCell ⟨E.X,3,none⟩ (.int .i64 (x0.st:Int))).setCell ⟨E.X,2,none⟩ (.slice (some ⟨b,0,none⟩) x0.nm.length c)) b c (k4 x0 x) v code∧CK E.M E.X v v w ((w.setCell ⟨E.X,3,none⟩ (.int .i64 (x0.st:Int))).setCell ⟨E.X,2,none⟩ (.slice (some ⟨b,0,none⟩) x0.nm.length c)):=by
 have hk:zJ E.X w ((w.setCell ⟨E.X,3,none⟩ (.int .i64 (x0.st:Int))).setCell ⟨E.X,2,none⟩ (.slice (some ⟨b,0,none⟩) x0.nm.length c)):=(zJ.refl _ _).set_it.set_it
 exact⟨yC.scope h hk (h.sc.shut hp hs) (.inl rfl),CK.of_keep hk⟩
theorem qQh{E:CE}(ho:E.Ok){n k lo:Nat}(vL:E.IH n)(hk:k≤n){m:TN}{x:SC}{b c:Nat}{v:Value}{code:List IR}{w:World}(hm:E.ns[k]? = some m)(hS:y7 E.ns m.kids lo k)(hA:E.At w b c x v code)(hW:E.On w)(hr:E.Room x code (k+1-lo)):Calls Tryz.prog 163 #[.pointer (some ⟨E.M,0,none⟩),.int .i64 (k:Int),.string ⟨#[]⟩] w fun e w'=>e=.returned (.tuple #[])∧E.P v w ⟨(ck (E.g n) m.kids (jG x) code.length).s,k4 x (ck (E.g n) m.kids (jG x) code.length).x⟩ code w':=by
 have qHK:=hS.le
 obtain⟨wC,eD⟩:=List.getElem?_eq_some_iff.1 hm
 have fJ:=ho.small.1
 have zN:m.kids.length≤1048576:=(ho.small.2 m (List.mem_of_getElem? hm)).2.2.1
 have vV:=yC.lt hA
 have mP:=hA.sc.lt
 have zX:=hA.sc.st
 have hMX:E.M≠E.X:=yC.mx hA
 have eA:=hr.1
 have iU:=hr.2
 obtain⟨m0,m1,m2⟩:=yC.cells hA
 obtain⟨d0,d1,d2,d3,d4,d5,d6⟩:=hA.sc.blk.cells
 have df:=hA.sc.blk.free
 have iY:Hid (∀ wx,E.On wx→∃ nb jK,E.L.p=some ⟨nb,jK,none⟩∧wx.cell? ⟨nb,jK+k*5,none⟩=some (.int .i64 m.k)∧wx.cell? ⟨nb,jK+k*5+1,none⟩=some (.int .i64 m.n)∧wx.cell? ⟨nb,jK+k*5+2,none⟩=some (.string m.t)∧wx.cell? ⟨nb,jK+k*5+3,none⟩=some (.slice (E.L.pn k) m.names.length (E.L.cn k))∧wx.cell? ⟨nb,jK+k*5+4,none⟩=some (.slice (E.L.pk k) m.kids.length (E.L.ck k))∧vD wx (E.L.pk k) m.kids):=qC (fun wx h=>by
  obtain⟨nb,jK,hp,q0,q1,q2,q3,q4,q5,q6⟩:=(ho.nodes.later h) k wC
  rw[eD]at q0 q1 q2 q3 q4 q6
  exact⟨nb,jK,hp,q0,q1,q2,q3,q4,q6⟩)
 have HO:=qC ho
 have HW:=qC hW
 have HA:=qC hA
 have HS:=qC hS
 have xH:=qC vL
 have gM:=xX (ns:=E.ns) (root:=E.root) (fs:=E.fs) ho.fun' n
 have lS:(jG x).nm <+: (ck (E.g n) m.kids (jG x) code.length).x.nm:=(gK gM m.kids (jG x) code.length).2
 have HAW:=HA
 have qZO:Hid (CK E.M E.X v v w w):=qC (CK.refl _ _ _ _)
 have qC5:=yC.open (qA HAW)
 have xP:Hid (E.At (w.setCell ⟨E.X,3,none⟩ (.int .i64 (x.nm.length:Int))).drew b c (jG x) v (code)):=qC (yC.drew' qC5.1)
 have qH:Hid (CK E.M E.X v v w (w.setCell ⟨E.X,3,none⟩ (.int .i64 (x.nm.length:Int))).drew):=qC (((qA qZO).trans qC5.2).trans (CK.of_below (qF (Below.refl _ _))))
 have tN:=qC ((qA HW).ck (qA HO) (qA HA) (qA qH))
 obtain⟨nb,jK,hp,q0,q1,q2,q3,q4,q6⟩:=qA iY _ (qA tN)
 have bN:=qC (aA (qA HO) (qA xH) hk (pn:=E.L.pn k) (cn:=E.L.cn k) (pk:=E.L.pk k) (ckp:=E.L.ck k) (m:=m) (qA HS) ⟨by show x.nm.length+(k-lo)≤1040000;omega,by omega⟩ (qA xP) (qA tN) (fun wx h=>(qA iY wx h).choose_spec.choose_spec.2.2.2.2.2.2) zN)
 clear qC5
 unfold CE.t0 at d0
 rw[hp]at d0
 generalize ck (E.g n) m.kids (jG x) code.length=co at bN lS ⊢
 have qJX:=qC lS
 clear ho hW hA hS vL lS gM hr HA HAW
 go_enter Tryz.func163,Tryz.ntmps163
 go_wp2
 go_region
 generalize (w.setCell ⟨E.X,3,none⟩ (.int .i64 (x.nm.length:Int))).drew=w2 at xP qH tN q0 q1 q2 q3 q4 q6 bN ⊢
 have hM2:=yC.lt (qA xP)
 have hX2:=(qA xP).sc.lt
 obtain⟨m0,m1,m2⟩:=yC.cells (qA xP)
 obtain⟨d0,d1,d2,d3,d4,d5,d6⟩:=(qA xP).sc.blk.cells
 unfold CE.t0 at d0
 rw[hp]at d0
 go_wp2_with fail
 refine(qA bN).mono ?_
 rintro e w3 ⟨rfl,v3,b3,c3,uK,mF⟩
 have hM3:=yC.lt uK
 have hX3:=uK.sc.lt
 have hle:x.nm.length≤co.x.nm.length:=(qA qJX).length_le
 have qQV:x.nm.length≤c3:=Nat.le_trans hle uK.sc.nms.cap
 have hsh:=yC.shut (x0:=x) uK (qA qJX) zX
 have HF:Hid (E.At ((w3.setCell ⟨E.X,3,none⟩ (.int .i64 (x.st:Int))).setCell ⟨E.X,2,none⟩ (.slice (some ⟨b3,0,none⟩) x.nm.length c3)).drew b3 c3 (k4 x co.x) v3 (code++co.s)):=qC (yC.drew' hsh.1)
 have HKF:Hid (CK E.M E.X v v3 w ((w3.setCell ⟨E.X,3,none⟩ (.int .i64 (x.st:Int))).setCell ⟨E.X,2,none⟩ (.slice (some ⟨b3,0,none⟩) x.nm.length c3)).drew):=qC ((((qA qH).trans mF).trans hsh.2).trans (CK.of_below (qF (Below.refl _ _))))
 obtain⟨n0,n1,n2⟩:=yC.cells uK
 obtain⟨g0,g1,g2,g3,g4,g5,g6⟩:=uK.sc.blk.cells
 have gf:=uK.sc.blk.free
 generalize co.x.nm.length=nx at g2 hle
 clear uK mF hsh bN m0 m1 m2 d0 d1 d2 d3 d4 d5 d6 q0 q1 q2 q3 q4 q6 hp df
 go_wp2
 go_region
 all_goals go_wp2
 all_goals
  go_end0
  exact⟨rfl,v3,b3,c3,qA HF,qA HKF⟩
theorem qPy{E:CE}(ho:E.Ok){n k lo:Nat}(vL:E.IH n)(hk:k≤n){m:TN}{x:SC}{b c:Nat}{v:Value}{code:List IR}{w:World}(hm:E.ns[k]? = some m)(hS:y7 E.ns m.kids lo k)(hA:E.At w b c x v code)(hW:E.On w)(t:ByteArray)(hr:E.Room x code (k+1-lo))(hrt:t≠⟨#[]⟩)(fE:t.size≤1048576)(qZJ:x.nm.length+(k+1-lo)+1≤1040000):Calls Tryz.prog 163 #[.pointer (some ⟨E.M,0,none⟩),.int .i64 (k:Int),.string t] w fun e w'=>e=.returned (.tuple #[])∧E.P v w (qA3 (E.g n) (k:Int) m.kids t x code.length) code w':=by
 have qHK:=hS.le
 obtain⟨wC,eD⟩:=List.getElem?_eq_some_iff.1 hm
 have fJ:=ho.small.1
 have zN:m.kids.length≤1048576:=(ho.small.2 m (List.mem_of_getElem? hm)).2.2.1
 have vV:=yC.lt hA
 have mP:=hA.sc.lt
 have zX:=hA.sc.st
 have hMX:E.M≠E.X:=yC.mx hA
 have eA:=hr.1
 have iU:=hr.2
 obtain⟨m0,m1,m2⟩:=yC.cells hA
 obtain⟨d0,d1,d2,d3,d4,d5,d6⟩:=hA.sc.blk.cells
 have df:=hA.sc.blk.free
 have iY:Hid (∀ wx,E.On wx→∃ nb jK,E.L.p=some ⟨nb,jK,none⟩∧wx.cell? ⟨nb,jK+k*5,none⟩=some (.int .i64 m.k)∧wx.cell? ⟨nb,jK+k*5+1,none⟩=some (.int .i64 m.n)∧wx.cell? ⟨nb,jK+k*5+2,none⟩=some (.string m.t)∧wx.cell? ⟨nb,jK+k*5+3,none⟩=some (.slice (E.L.pn k) m.names.length (E.L.cn k))∧wx.cell? ⟨nb,jK+k*5+4,none⟩=some (.slice (E.L.pk k) m.kids.length (E.L.ck k))∧vD wx (E.L.pk k) m.kids):=qC (fun wx h=>by
  obtain⟨nb,jK,hp,q0,q1,q2,q3,q4,q5,q6⟩:=(ho.nodes.later h) k wC
  rw[eD]at q0 q1 q2 q3 q4 q6
  exact⟨nb,jK,hp,q0,q1,q2,q3,q4,q6⟩)
 have HO:=qC ho
 have HW:=qC hW
 have HA:=qC hA
 have HS:=qC hS
 have xH:=qC vL
 unfold qA3
 have gM:=xX (ns:=E.ns) (root:=E.root) (fs:=E.fs) ho.fun' n
 have HBR:=qC (fun (w2:World) (h:wP w2 E.X E.t0 E.t1 b c (jG x))=>oZ E.X E.t0 E.t1 b c (jG x) (k:Int) t w2 h (by show x.nm.length≤1048576;omega) (by unfold maxLen;omega))
 have qY:=xA.bring t (k:Int) (jG x)
 have hbn:(qQ t (k:Int) (jG x)).nm.length=x.nm.length+1:=by rw[vI];simp[jG]
 generalize qQ t (k:Int) (jG x)=x1 at HBR qY hbn ⊢
 have HFN:=qC (fun (w2:World) (b2 c2:Nat) (h:wP w2 E.X E.t0 E.t1 b2 c2 x1)=>tP E.X E.t0 E.t1 b2 c2 x1 t w2 h (by omega))
 generalize vA x1.nm t=fz at HFN ⊢
 have qRv:(jG x1).nm <+: (ck (E.g n) m.kids (jG x1) (code.length+1)).x.nm:=(gK gM m.kids (jG x1) (code.length+1)).2
 have lS:x.nm <+: (ck (E.g n) m.kids (jG x1) (code.length+1)).x.nm:=List.IsPrefix.trans (l₂:=x1.nm) qY.2 qRv
 have dZ:(code++[iN 3 fz]).length=code.length+1:=by simp
 have HKN:=qC (fun (w2:World) (b2 c2:Nat) (v2:Value) (h:E.At w2 b2 c2 (jG x1) v2 (code++[iN 3 fz])) (eC:E.On w2)=>aA ho vL hk (pn:=E.L.pn k) (cn:=E.L.cn k) (pk:=E.L.pk k) (ckp:=E.L.ck k) (m:=m) hS ⟨by show x1.nm.length+(k-lo)≤1040000;omega,by rw[dZ];omega⟩ h eC (fun wx h=>(qA iY wx h).choose_spec.choose_spec.2.2.2.2.2.2) zN)
 simp only[dZ]at HKN
 generalize ck (E.g n) m.kids (jG x1) (code.length+1)=co at HKN lS ⊢
 have qJX:=qC lS
 have hop:=yC.open hA
 have vG:=qC hop.1
 have yV:=qC hop.2
 have y8:=qC (qA HBR _ hop.1.sc)
 have e1:=qAM hrt
 have e2:=qAL hrt
 have e3:¬t.toList=[]:=fun h=>hrt (ByteArray.ext (by rw[ByteArray.toList_eq]at h;simpa using h))
 have e4:(t.toList != [])=true:=by simp[e3]
 have e5:(t.toList == [])=false:=by simp[e3]
 have dU:=hr.fit
 clear ho hW hA hS vL lS qRv gM hr hop HBR qY hrt hbn dZ
 go_enter Tryz.func163,Tryz.ntmps163
 go_wp2_with fail
 refine(qA y8).mono ?_
 rintro e w1 ⟨rfl,b1,c1,dF,tO,jD⟩
 have hA1:E.At w1 b1 c1 x1 v code:=yC.scope (qA vG) tO dF (.inr jD)
 have HKA:=qC ((qA yV).trans (CK.of_keep tO))
 have kN:=qC (qA HFN w1 b1 c1 dF)
 have HL:=qC (tS (iN 3 fz) hA1 dU)
 obtain⟨n0,n1,n2⟩:=yC.cells hA1
 have hM1:=yC.lt hA1
 clear HFN y8 dF tO jD hA1 vG yV m0 m1 m2 d0 d1 d2 d3 d4 d5 d6 df
 go_wp2_with fail
 refine(qA kN).mono ?_
 rintro e w1 ⟨rfl,rfl⟩
 go_wp2_with fail
 refine(qA HL).mono ?_
 rintro e w5 ⟨rfl,v5,b5,c5,oE,nU⟩
 have hM5:=yC.lt oE
 have hX5:=oE.sc.lt
 have qC5:=yC.open (E:=E) oE
 have xP:Hid (E.At (w5.setCell ⟨E.X,3,none⟩ (.int .i64 (x1.nm.length:Int))).drew b5 c5 (jG x1) v5 (code++[iN 3 fz])):=qC (yC.drew' qC5.1)
 have qH:Hid (CK E.M E.X v v5 w (w5.setCell ⟨E.X,3,none⟩ (.int .i64 (x1.nm.length:Int))).drew):=qC ((((qA HKA).trans nU).trans qC5.2).trans (CK.of_below (qF (Below.refl _ _))))
 have tN:=qC ((qA HW).ck (qA HO) (qA HA) (qA qH))
 obtain⟨nb,jK,hp,q0,q1,q2,q3,q4,q6⟩:=qA iY _ (qA tN)
 have bN:=qC (qA HKN _ _ _ _ (qA xP) (qA tN))
 obtain⟨p0,p1,p2⟩:=yC.cells oE
 obtain⟨d0,d1,d2,d3,d4,d5,d6⟩:=oE.sc.blk.cells
 have df:=oE.sc.blk.free
 clear qC5 HKN oE nU HL kN n0 n1 n2
 go_wp2
 go_region
 clear p0 p1 p2 d0 d1 d2 d3 d4 d5 d6
 generalize (w5.setCell ⟨E.X,3,none⟩ (.int .i64 (x1.nm.length:Int))).drew=w2 at xP qH tN q0 q1 q2 q3 q4 q6 bN ⊢
 have hM2:=yC.lt (qA xP)
 have hX2:=(qA xP).sc.lt
 obtain⟨m0,m1,m2⟩:=yC.cells (qA xP)
 obtain⟨d0,d1,d2,d3,d4,d5,d6⟩:=(qA xP).sc.blk.cells
 unfold CE.t0 at d0
 rw[hp]at d0
 go_wp2_with fail
 refine(qA bN).mono ?_
 rintro e w3 ⟨rfl,v3,b3,c3,uK,mF⟩
 have hM3:=yC.lt uK
 have hX3:=uK.sc.lt
 have hle:x.nm.length≤co.x.nm.length:=(qA qJX).length_le
 have qQV:x.nm.length≤c3:=Nat.le_trans hle uK.sc.nms.cap
 have hsh:=yC.shut (x0:=x) uK (qA qJX) zX
 have HF:Hid (E.At ((w3.setCell ⟨E.X,3,none⟩ (.int .i64 (x.st:Int))).setCell ⟨E.X,2,none⟩ (.slice (some ⟨b3,0,none⟩) x.nm.length c3)).drew b3 c3 (k4 x co.x) v3 ((code++[iN 3 fz])++co.s)):=qC (yC.drew' hsh.1)
 have HKF:Hid (CK E.M E.X v v3 w ((w3.setCell ⟨E.X,3,none⟩ (.int .i64 (x.st:Int))).setCell ⟨E.X,2,none⟩ (.slice (some ⟨b3,0,none⟩) x.nm.length c3)).drew):=qC ((((qA qH).trans mF).trans hsh.2).trans (CK.of_below (qF (Below.refl _ _))))
 rw[List.append_assoc]at HF
 obtain⟨n0,n1,n2⟩:=yC.cells uK
 obtain⟨g0,g1,g2,g3,g4,g5,g6⟩:=uK.sc.blk.cells
 have gf:=uK.sc.blk.free
 generalize co.x.nm.length=nx at g2 hle
 clear uK mF hsh bN m0 m1 m2 d0 d1 d2 d3 d4 d5 d6 q0 q1 q2 q3 q4 q6 hp df
 go_wp2
 go_region
 all_goals go_wp2
 all_goals
  go_end0
  exact⟨rfl,v3,b3,c3,qA HF,qA HKF⟩
theorem qNq{E:CE}(ho:E.Ok){n k lo:Nat}(vL:E.IH n)(hk:k≤n){m:TN}{x:SC}{b c:Nat}{v:Value}{code:List IR}{w:World}{pn:Option Addr}{cn:Nat}{pk:Option Addr}{ckp:Nat}(hm:E.ns[k]? = some m)(hS:y7 E.ns m.kids lo k)(hr:E.Room x code (k+1-lo))(hA:E.At w b c x v code)(hW:E.On w)(hI:∀ wx,E.On wx→vD wx pk m.kids)(bH:m.k=18):Calls Tryz.prog 149 #[.pointer (some ⟨E.M,0,none⟩),.int .i64 (k:Int),.agg #[.int .i64 m.k,.int .i64 m.n,.string m.t,.slice pn m.names.length cn,.slice pk m.kids.length ckp]] w fun e w'=>e=.returned (.tuple #[])∧E.P v w ⟨(ck (E.g n) m.kids (jG x) code.length).s,k4 x (ck (E.g n) m.kids (jG x) code.length).x⟩ code w':=by
 have qHK:=hS.le
 have fJ:=ho.small.1
 have rZ:m.t.size≤1048576:=(ho.small.2 m (List.mem_of_getElem? hm)).1
 have zN:m.kids.length≤1048576:=(ho.small.2 m (List.mem_of_getElem? hm)).2.2.1
 have vV:=yC.lt hA
 have mP:=hA.sc.lt
 have eA:=hr.1
 have iU:=hr.2
 obtain⟨va0,vc0,oI⟩:=yC.slice hA
 obtain⟨m0,m1,m2⟩:=yC.cells hA
 rw[oI]at m2
 have HI:=qC hI
 have xH:=qC vL
 have HO:=qC ho
 have HS:=qC hS
 have HA:=qC hA
 have HW:=qC hW
 have lU:=qC hr
 have xO:Hid (uC (w.alloc (.cells #[.int .i64 m.k,.int .i64 m.n,.string m.t,.slice pn m.names.length cn,.slice pk m.kids.length ckp] 128)) w.heap.size m pn cn pk ckp):=qC ⟨heap_alloc_new w _⟩
 have vG:Hid (E.At (w.alloc (.cells #[.int .i64 m.k,.int .i64 m.n,.string m.t,.slice pn m.names.length cn,.slice pk m.kids.length ckp] 128)) b c x v code):=qC (yC.later hA (qD w (.cells #[.int .i64 m.k,.int .i64 m.n,.string m.t,.slice pn m.names.length cn,.slice pk m.kids.length ckp] 128)))
 have yV:Hid (CK E.M E.X v v w (w.alloc (.cells #[.int .i64 m.k,.int .i64 m.n,.string m.t,.slice pn m.names.length cn,.slice pk m.kids.length ckp] 128))):=qC (CK.of_below (qD _ _))
 have yF:Hid (E.On (w.alloc (.cells #[.int .i64 m.k,.int .i64 m.n,.string m.t,.slice pn m.names.length cn,.slice pk m.kids.length ckp] 128))):=qC (hW.below (qD _ _))
 have dS:Hid (∀ v' wx,CK E.M E.X v v' (w.alloc (.cells #[.int .i64 m.k,.int .i64 m.n,.string m.t,.slice pn m.names.length cn,.slice pk m.kids.length ckp] 128)) wx→uC wx w.heap.size m pn cn pk ckp∧E.On wx):=qC (fun v' wx h=>⟨(qA xO).same (h.block _ (by simp) (by omega) (by omega) (fun e=>by have:=(yC.own hA _ e).2;omega)),(qA yF).ck ho (qA vG) h⟩)
 clear hA hW ho hI vL hS hr oI
 have e18:(m.k == 18)=true:=by rw[bH];rfl
 clear bH
 have HC:=qC (qQh (qA HO) (qA xH) hk hm (qA HS) (qA vG) (qA yF) (qA lU))
 generalize ck (E.g n) m.kids (jG x) code.length=co at HC ⊢
 go_enter Tryz.func149,Tryz.ntmps149
 go_wp2_with fail
 refine(qA HC).mono ?_
 rintro e w2 ⟨rfl,v2,b2,c2,fS,yA⟩
 have HF:Hid (E.P v w ⟨co.s,k4 x co.x⟩ code w2):=qC ⟨v2,b2,c2,fS,(qA yV).trans yA⟩
 clear fS yA HC
 go_wp2
 go_end0
 exact⟨rfl,qA HF⟩
theorem qM2{E:CE}(ho:E.Ok){n k lo:Nat}(vL:E.IH n)(hk:k≤n){m:TN}{x:SC}{b c:Nat}{v:Value}{code:List IR}{w:World}{pn:Option Addr}{cn:Nat}{pk:Option Addr}{ckp:Nat}(hm:E.ns[k]? = some m)(hS:y7 E.ns m.kids lo k)(hr:E.Room x code (k+1-lo))(hA:E.At w b c x v code)(hW:E.On w)(hI:∀ wx,E.On wx→vD wx pk m.kids)(yE:m.k=20):Calls Tryz.prog 149 #[.pointer (some ⟨E.M,0,none⟩),.int .i64 (k:Int),.agg #[.int .i64 m.k,.int .i64 m.n,.string m.t,.slice pn m.names.length cn,.slice pk m.kids.length ckp]] w fun e w'=>e=.returned (.tuple #[])∧E.P v w ⟨[],x⟩ code w':=by
 have qHK:=hS.le
 have fJ:=ho.small.1
 have rZ:m.t.size≤1048576:=(ho.small.2 m (List.mem_of_getElem? hm)).1
 have zN:m.kids.length≤1048576:=(ho.small.2 m (List.mem_of_getElem? hm)).2.2.1
 have vV:=yC.lt hA
 have mP:=hA.sc.lt
 have eA:=hr.1
 have iU:=hr.2
 obtain⟨va0,vc0,oI⟩:=yC.slice hA
 obtain⟨m0,m1,m2⟩:=yC.cells hA
 rw[oI]at m2
 have HI:=qC hI
 have xH:=qC vL
 have HO:=qC ho
 have HS:=qC hS
 have HA:=qC hA
 have HW:=qC hW
 have lU:=qC hr
 have xO:Hid (uC (w.alloc (.cells #[.int .i64 m.k,.int .i64 m.n,.string m.t,.slice pn m.names.length cn,.slice pk m.kids.length ckp] 128)) w.heap.size m pn cn pk ckp):=qC ⟨heap_alloc_new w _⟩
 have vG:Hid (E.At (w.alloc (.cells #[.int .i64 m.k,.int .i64 m.n,.string m.t,.slice pn m.names.length cn,.slice pk m.kids.length ckp] 128)) b c x v code):=qC (yC.later hA (qD w (.cells #[.int .i64 m.k,.int .i64 m.n,.string m.t,.slice pn m.names.length cn,.slice pk m.kids.length ckp] 128)))
 have yV:Hid (CK E.M E.X v v w (w.alloc (.cells #[.int .i64 m.k,.int .i64 m.n,.string m.t,.slice pn m.names.length cn,.slice pk m.kids.length ckp] 128))):=qC (CK.of_below (qD _ _))
 have yF:Hid (E.On (w.alloc (.cells #[.int .i64 m.k,.int .i64 m.n,.string m.t,.slice pn m.names.length cn,.slice pk m.kids.length ckp] 128))):=qC (hW.below (qD _ _))
 have dS:Hid (∀ v' wx,CK E.M E.X v v' (w.alloc (.cells #[.int .i64 m.k,.int .i64 m.n,.string m.t,.slice pn m.names.length cn,.slice pk m.kids.length ckp] 128)) wx→uC wx w.heap.size m pn cn pk ckp∧E.On wx):=qC (fun v' wx h=>⟨(qA xO).same (h.block _ (by simp) (by omega) (by omega) (fun e=>by have:=(yC.own hA _ e).2;omega)),(qA yF).ck ho (qA vG) h⟩)
 clear hA hW ho hI vL hS hr oI
 have e20:(m.k == 20)=true:=by rw[yE];rfl
 have e18:(m.k == 18)=false:=by rw[yE];rfl
 have e13:(m.k == 13)=false:=by rw[yE];rfl
 have e14:(m.k == 14)=false:=by rw[yE];rfl
 have e17:(m.k == 17)=false:=by rw[yE];rfl
 clear yE
 have HF:Hid (E.P v w ⟨[],x⟩ code (w.alloc (.cells #[.int .i64 m.k,.int .i64 m.n,.string m.t,.slice pn m.names.length cn,.slice pk m.kids.length ckp] 128))):=qC ⟨v,b,c,by show yC _ _ _ _ _ _ _ _ _ _ _ (code++[]);rw[List.append_nil];exact qA vG,qA yV⟩
 go_enter Tryz.func149,Tryz.ntmps149
 go_wp2
 go_end0
 exact⟨rfl,qA HF⟩
theorem qJf{E:CE}(ho:E.Ok){n k lo:Nat}(vL:E.IH n)(hk:k≤n){m:TN}{x:SC}{b c:Nat}{v:Value}{code:List IR}{w:World}{pn:Option Addr}{cn:Nat}{pk:Option Addr}{ckp:Nat}(hm:E.ns[k]? = some m)(hS:y7 E.ns m.kids lo k)(hr:E.Room x code (k+1-lo))(hA:E.At w b c x v code)(hW:E.On w)(hI:∀ wx,E.On wx→vD wx pk m.kids)(oH:m.k=13)(mp mq:Nat)(xV:m.kids=[(mp:Int),(mq:Int)]):Calls Tryz.prog 149 #[.pointer (some ⟨E.M,0,none⟩),.int .i64 (k:Int),.agg #[.int .i64 m.k,.int .i64 m.n,.string m.t,.slice pn m.names.length cn,.slice pk m.kids.length ckp]] w fun e w'=>e=.returned (.tuple #[])∧E.P v w ⟨(E.g n (mp:Int) x code.length).s++iN 7 ((code.length+(E.g n (mp:Int) x code.length).s.length+1+(E.g n (mq:Int) (E.g n (mp:Int) x code.length).x (code.length+(E.g n (mp:Int) x code.length).s.length+1)).s.length:Nat):Int)::(E.g n (mq:Int) (E.g n (mp:Int) x code.length).x (code.length+(E.g n (mp:Int) x code.length).s.length+1)).s,(E.g n (mq:Int) (E.g n (mp:Int) x code.length).x (code.length+(E.g n (mp:Int) x code.length).s.length+1)).x⟩ code w':=by
 have qHK:=hS.le
 have fJ:=ho.small.1
 have rZ:m.t.size≤1048576:=(ho.small.2 m (List.mem_of_getElem? hm)).1
 have zN:m.kids.length≤1048576:=(ho.small.2 m (List.mem_of_getElem? hm)).2.2.1
 have vV:=yC.lt hA
 have mP:=hA.sc.lt
 have eA:=hr.1
 have iU:=hr.2
 obtain⟨va0,vc0,oI⟩:=yC.slice hA
 obtain⟨m0,m1,m2⟩:=yC.cells hA
 rw[oI]at m2
 have HI:=qC hI
 have xH:=qC vL
 have HO:=qC ho
 have HS:=qC hS
 have HA:=qC hA
 have HW:=qC hW
 have lU:=qC hr
 have xO:Hid (uC (w.alloc (.cells #[.int .i64 m.k,.int .i64 m.n,.string m.t,.slice pn m.names.length cn,.slice pk m.kids.length ckp] 128)) w.heap.size m pn cn pk ckp):=qC ⟨heap_alloc_new w _⟩
 have vG:Hid (E.At (w.alloc (.cells #[.int .i64 m.k,.int .i64 m.n,.string m.t,.slice pn m.names.length cn,.slice pk m.kids.length ckp] 128)) b c x v code):=qC (yC.later hA (qD w (.cells #[.int .i64 m.k,.int .i64 m.n,.string m.t,.slice pn m.names.length cn,.slice pk m.kids.length ckp] 128)))
 have yV:Hid (CK E.M E.X v v w (w.alloc (.cells #[.int .i64 m.k,.int .i64 m.n,.string m.t,.slice pn m.names.length cn,.slice pk m.kids.length ckp] 128))):=qC (CK.of_below (qD _ _))
 have yF:Hid (E.On (w.alloc (.cells #[.int .i64 m.k,.int .i64 m.n,.string m.t,.slice pn m.names.length cn,.slice pk m.kids.length ckp] 128))):=qC (hW.below (qD _ _))
 have dS:Hid (∀ v' wx,CK E.M E.X v v' (w.alloc (.cells #[.int .i64 m.k,.int .i64 m.n,.string m.t,.slice pn m.names.length cn,.slice pk m.kids.length ckp] 128)) wx→uC wx w.heap.size m pn cn pk ckp∧E.On wx):=qC (fun v' wx h=>⟨(qA xO).same (h.block _ (by simp) (by omega) (by omega) (fun e=>by have:=(yC.own hA _ e).2;omega)),(qA yF).ck ho (qA vG) h⟩)
 clear hA hW ho hI vL hS hr oI
 have e13:(m.k == 13)=true:=by rw[oH];rfl
 have e18:(m.k == 18)=false:=by rw[oH];rfl
 clear oH
 have hl2:m.kids.length=2:=by rw[xV];rfl
 have h0l:(0:Int)<(m.kids.length:Int):=by omega
 have h1l:(1:Int)<(m.kids.length:Int):=by omega
 have el2:((m.kids.length:Int) == 2)=true:=by rw[hl2];rfl
 have dA:=qA HS
 rw[xV]at dA
 obtain⟨mR,dC,ep,eq',s1,s2,g1,g2,g3⟩:=rA dA
 obtain rfl:mR=mp:=by omega
 obtain rfl:dC=mq:=by omega
 have gM:=xX (ns:=E.ns) (root:=E.root) (fs:=E.fs) (qA HO).fun' n
 obtain⟨kb,zY,kI,y0⟩:=(qA HI w (qA HW)) 0 (by omega)
 have k0:m.kids[0]'(by omega)=(mR:Int):=by simp[xV]
 have k1:m.kids[1]'(by omega)=(dC:Int):=by simp[xV]
 rw[k0,Nat.add_zero]at y0
 have qMm:kb<w.heap.size:=World.block_lt_of_cell? _ _ y0
 have HI0:Hid (∀ wx,E.On wx→wx.cell? ⟨kb,zY,none⟩=some (.int .i64 (mR:Int))):=qC (fun wx h=>by
  obtain⟨lP,kP,uH,y1⟩:=(qA HI wx h) 0 (by omega)
  rw[kI]at uH
  obtain⟨rfl,rfl⟩:kb=lP∧zY=kP:=by simpa using uH
  rw[k0,Nat.add_zero]at y1
  exact y1)
 have xJ:Hid (∀ wx,E.On wx→wx.cell? ⟨kb,zY+1,none⟩=some (.int .i64 (dC:Int))):=qC (fun wx h=>by
  obtain⟨lP,kP,uH,y1⟩:=(qA HI wx h) 1 (by omega)
  rw[kI]at uH
  obtain⟨rfl,rfl⟩:kb=lP∧zY=kP:=by simpa using uH
  rw[k1]at y1
  exact y1)
 subst kI
 have sM:(code).length=code.length:=by first | rfl | simp only[List.length_append,List.length_singleton,List.length_cons,List.length_nil]
 have wK:=qC (fun (v':Value) (b' c':Nat) (w':World) (h:E.At w' b' c' (x) v' (code)) (eC:E.On w')=>qA xH mR lo (x) b' c' v' (code) w' (by omega) s1 ⟨by omega,by rw[sM];omega⟩ h eC)
 unfold CE.Node at wK
 try simp only[sM]at wK
 have pl1:(E.g n (mR:Int) (x) (code.length)).x.nm.length≤_:=gM.len mR lo (x) (code.length) (by omega) s1
 have pi1:(E.g n (mR:Int) (x) (code.length)).s.length≤_:=gM.ins mR lo (x) (code.length) (by omega) s1
 generalize E.g n (mR:Int) (x) (code.length)=o1 at wK pl1 pi1 ⊢
 obtain⟨xB,xZ⟩:∃ xB,xB=code++o1.s:=⟨_,rfl⟩
 have rG:(xB++[iN 7 0]).length=code.length+o1.s.length+1:=by first | rfl | simp only[xZ,List.length_append,List.length_singleton,List.length_cons,List.length_nil]
 have gO:=qC (fun (v':Value) (b' c':Nat) (w':World) (h:E.At w' b' c' (o1.x) v' (xB++[iN 7 0])) (eC:E.On w')=>qA xH dC (mR+1) (o1.x) b' c' v' (xB++[iN 7 0]) w' (by omega) s2 ⟨by omega,by rw[rG];omega⟩ h eC)
 unfold CE.Node at gO
 try simp only[rG]at gO
 have pl2:(E.g n (dC:Int) (o1.x) (code.length+o1.s.length+1)).x.nm.length≤_:=gM.len dC (mR+1) (o1.x) (code.length+o1.s.length+1) (by omega) s2
 have pi2:(E.g n (dC:Int) (o1.x) (code.length+o1.s.length+1)).s.length≤_:=gM.ins dC (mR+1) (o1.x) (code.length+o1.s.length+1) (by omega) s2
 generalize E.g n (dC:Int) (o1.x) (code.length+o1.s.length+1)=o2 at gO pl2 pi2 ⊢
 have HJ:Hid (xB.length=code.length+o1.s.length):=qC (by rw[xZ,List.length_append])
 have aI:xB.length≤100000:=by rw[qA HJ];omega
 obtain⟨wG,wZ⟩:∃ wG,wG=xB++[iN 7 0]++o2.s:=⟨_,rfl⟩
 have HJ2:Hid (wG.length=code.length+o1.s.length+1+o2.s.length):=qC (by simp only[wZ,xZ,List.length_append,List.length_singleton])
 have aH:wG.length≤90000:=by rw[qA HJ2];omega
 have iS:xB.length<wG.length:=by rw[qA HJ,qA HJ2];omega
 have HCE:=qC xZ
 have qJT:=qC wZ
 have qXW:code.length≤100000:=by omega
 clear xZ wZ dA s1 s2 ep eq' k0 k1 xV HI HS hl2 sM rG gM xH
 have dT:=qC (qA wK v b c _ (qA vG) (qA yF))
 clear wK
 go_enter Tryz.func149,Tryz.ntmps149
 go_wp2_with fail
 refine(qA dT).mono ?_
 rintro e w2 ⟨rfl,v2,b2,c2,fS,a7⟩
 obtain⟨yX,cA⟩:=qA dS v2 w2 a7
 have lV:=yX.lt
 obtain⟨z0,z2,z4⟩:=yX.cells
 have qH:=qC a7
 rw[←qA HCE]at fS
 have HL:=qC (tS (iN 7 0) fS aI)
 clear yX cA fS a7 dT m0 m1 m2 y0
 go_wp2_with fail
 refine(qA HL).mono ?_
 rintro e w3 ⟨rfl,v3,b3,c3,uK,mF⟩
 have rF:=(qA qH).trans mF
 obtain⟨wR,oD⟩:=qA dS v3 w3 rF
 have qJG:=wR.lt
 obtain⟨z0,z2,z4⟩:=wR.cells
 have y1:=qA xJ w3 oD
 have yK:=qC rF
 have yW:=qC (qA gO v3 b3 c3 w3 uK oD)
 clear wR oD uK mF rF HL qH gO
 go_wp2_with fail
 refine(qA yW).mono ?_
 rintro e w4 ⟨rfl,v4,b4,c4,hC4,hK4⟩
 have qCY:=(qA yK).trans hK4
 obtain⟨rH,hO4⟩:=qA dS v4 w4 qCY
 have qUK:=rH.lt
 obtain⟨z0,z2,z4⟩:=rH.cells
 have fG:=qC qCY
 rw[←qA qJT]at hC4
 have HH:=qC (qAK xB.length hC4 iS (by omega))
 clear hC4 hK4 qCY rH hO4 yW yK y1
 go_wp2_with fail
 refine(qA HH).mono ?_
 rintro e w5 ⟨rfl,v5,b5,c5,oE,nU⟩
 have HF:Hid (E.P v w ⟨o1.s++iN 7 ((code.length+o1.s.length+1+o2.s.length:Nat):Int)::o2.s,o2.x⟩ code w5):=qC ⟨v5,b5,c5,by
  rw[qA HJ2,qA qJT,show xB++[iN 7 0]++o2.s=xB++iN 7 0::o2.s by simp,gT,qA HCE,List.append_assoc]at oE
  exact oE,((qA yV).trans (qA fG)).trans nU⟩
 clear oE nU HH
 go_wp2
 exact bodyPost_ret (results_none rfl _ _ _) rfl ⟨rfl,qA HF⟩
theorem qNB{E:CE}(ho:E.Ok){n k lo:Nat}(vL:E.IH n)(hk:k≤n){m:TN}{x:SC}{b c:Nat}{v:Value}{code:List IR}{w:World}{pn:Option Addr}{cn:Nat}{pk:Option Addr}{ckp:Nat}(hm:E.ns[k]? = some m)(hS:y7 E.ns m.kids lo k)(hr:E.Room x code (k+1-lo))(hA:E.At w b c x v code)(hW:E.On w)(hI:∀ wx,E.On wx→vD wx pk m.kids)(oJ:m.k=14)(mp mq:Nat)(xV:m.kids=[(mp:Int),(mq:Int)]):Calls Tryz.prog 149 #[.pointer (some ⟨E.M,0,none⟩),.int .i64 (k:Int),.agg #[.int .i64 m.k,.int .i64 m.n,.string m.t,.slice pn m.names.length cn,.slice pk m.kids.length ckp]] w fun e w'=>e=.returned (.tuple #[])∧E.P v w ⟨(E.g n (mp:Int) x code.length).s++iN 7 ((code.length+(E.g n (mp:Int) x code.length).s.length+1+(E.g n (mq:Int) (E.g n (mp:Int) x code.length).x (code.length+(E.g n (mp:Int) x code.length).s.length+1)).s.length+1:Nat):Int)::((E.g n (mq:Int) (E.g n (mp:Int) x code.length).x (code.length+(E.g n (mp:Int) x code.length).s.length+1)).s++[iN 6 (code.length:Int)]),(E.g n (mq:Int) (E.g n (mp:Int) x code.length).x (code.length+(E.g n (mp:Int) x code.length).s.length+1)).x⟩ code w':=by
 have qHK:=hS.le
 have fJ:=ho.small.1
 have rZ:m.t.size≤1048576:=(ho.small.2 m (List.mem_of_getElem? hm)).1
 have zN:m.kids.length≤1048576:=(ho.small.2 m (List.mem_of_getElem? hm)).2.2.1
 have vV:=yC.lt hA
 have mP:=hA.sc.lt
 have eA:=hr.1
 have iU:=hr.2
 obtain⟨va0,vc0,oI⟩:=yC.slice hA
 obtain⟨m0,m1,m2⟩:=yC.cells hA
 rw[oI]at m2
 have HI:=qC hI
 have xH:=qC vL
 have HO:=qC ho
 have HS:=qC hS
 have HA:=qC hA
 have HW:=qC hW
 have lU:=qC hr
 have xO:Hid (uC (w.alloc (.cells #[.int .i64 m.k,.int .i64 m.n,.string m.t,.slice pn m.names.length cn,.slice pk m.kids.length ckp] 128)) w.heap.size m pn cn pk ckp):=qC ⟨heap_alloc_new w _⟩
 have vG:Hid (E.At (w.alloc (.cells #[.int .i64 m.k,.int .i64 m.n,.string m.t,.slice pn m.names.length cn,.slice pk m.kids.length ckp] 128)) b c x v code):=qC (yC.later hA (qD w (.cells #[.int .i64 m.k,.int .i64 m.n,.string m.t,.slice pn m.names.length cn,.slice pk m.kids.length ckp] 128)))
 have yV:Hid (CK E.M E.X v v w (w.alloc (.cells #[.int .i64 m.k,.int .i64 m.n,.string m.t,.slice pn m.names.length cn,.slice pk m.kids.length ckp] 128))):=qC (CK.of_below (qD _ _))
 have yF:Hid (E.On (w.alloc (.cells #[.int .i64 m.k,.int .i64 m.n,.string m.t,.slice pn m.names.length cn,.slice pk m.kids.length ckp] 128))):=qC (hW.below (qD _ _))
 have dS:Hid (∀ v' wx,CK E.M E.X v v' (w.alloc (.cells #[.int .i64 m.k,.int .i64 m.n,.string m.t,.slice pn m.names.length cn,.slice pk m.kids.length ckp] 128)) wx→uC wx w.heap.size m pn cn pk ckp∧E.On wx):=qC (fun v' wx h=>⟨(qA xO).same (h.block _ (by simp) (by omega) (by omega) (fun e=>by have:=(yC.own hA _ e).2;omega)),(qA yF).ck ho (qA vG) h⟩)
 clear hA hW ho hI vL hS hr oI
 have e14:(m.k == 14)=true:=by rw[oJ];rfl
 have e18:(m.k == 18)=false:=by rw[oJ];rfl
 have e13:(m.k == 13)=false:=by rw[oJ];rfl
 clear oJ
 have hl2:m.kids.length=2:=by rw[xV];rfl
 have h0l:(0:Int)<(m.kids.length:Int):=by omega
 have h1l:(1:Int)<(m.kids.length:Int):=by omega
 have el2:((m.kids.length:Int) == 2)=true:=by rw[hl2];rfl
 have dA:=qA HS
 rw[xV]at dA
 obtain⟨mR,dC,ep,eq',s1,s2,g1,g2,g3⟩:=rA dA
 obtain rfl:mR=mp:=by omega
 obtain rfl:dC=mq:=by omega
 have gM:=xX (ns:=E.ns) (root:=E.root) (fs:=E.fs) (qA HO).fun' n
 obtain⟨kb,zY,kI,y0⟩:=(qA HI w (qA HW)) 0 (by omega)
 have k0:m.kids[0]'(by omega)=(mR:Int):=by simp[xV]
 have k1:m.kids[1]'(by omega)=(dC:Int):=by simp[xV]
 rw[k0,Nat.add_zero]at y0
 have qMm:kb<w.heap.size:=World.block_lt_of_cell? _ _ y0
 have HI0:Hid (∀ wx,E.On wx→wx.cell? ⟨kb,zY,none⟩=some (.int .i64 (mR:Int))):=qC (fun wx h=>by
  obtain⟨lP,kP,uH,y1⟩:=(qA HI wx h) 0 (by omega)
  rw[kI]at uH
  obtain⟨rfl,rfl⟩:kb=lP∧zY=kP:=by simpa using uH
  rw[k0,Nat.add_zero]at y1
  exact y1)
 have xJ:Hid (∀ wx,E.On wx→wx.cell? ⟨kb,zY+1,none⟩=some (.int .i64 (dC:Int))):=qC (fun wx h=>by
  obtain⟨lP,kP,uH,y1⟩:=(qA HI wx h) 1 (by omega)
  rw[kI]at uH
  obtain⟨rfl,rfl⟩:kb=lP∧zY=kP:=by simpa using uH
  rw[k1]at y1
  exact y1)
 subst kI
 have sM:(code).length=code.length:=by first | rfl | simp only[List.length_append,List.length_singleton,List.length_cons,List.length_nil]
 have wK:=qC (fun (v':Value) (b' c':Nat) (w':World) (h:E.At w' b' c' (x) v' (code)) (eC:E.On w')=>qA xH mR lo (x) b' c' v' (code) w' (by omega) s1 ⟨by omega,by rw[sM];omega⟩ h eC)
 unfold CE.Node at wK
 try simp only[sM]at wK
 have pl1:(E.g n (mR:Int) (x) (code.length)).x.nm.length≤_:=gM.len mR lo (x) (code.length) (by omega) s1
 have pi1:(E.g n (mR:Int) (x) (code.length)).s.length≤_:=gM.ins mR lo (x) (code.length) (by omega) s1
 generalize E.g n (mR:Int) (x) (code.length)=o1 at wK pl1 pi1 ⊢
 obtain⟨xB,xZ⟩:∃ xB,xB=code++o1.s:=⟨_,rfl⟩
 have rG:(xB++[iN 7 0]).length=code.length+o1.s.length+1:=by first | rfl | simp only[xZ,List.length_append,List.length_singleton,List.length_cons,List.length_nil]
 have gO:=qC (fun (v':Value) (b' c':Nat) (w':World) (h:E.At w' b' c' (o1.x) v' (xB++[iN 7 0])) (eC:E.On w')=>qA xH dC (mR+1) (o1.x) b' c' v' (xB++[iN 7 0]) w' (by omega) s2 ⟨by omega,by rw[rG];omega⟩ h eC)
 unfold CE.Node at gO
 try simp only[rG]at gO
 have pl2:(E.g n (dC:Int) (o1.x) (code.length+o1.s.length+1)).x.nm.length≤_:=gM.len dC (mR+1) (o1.x) (code.length+o1.s.length+1) (by omega) s2
 have pi2:(E.g n (dC:Int) (o1.x) (code.length+o1.s.length+1)).s.length≤_:=gM.ins dC (mR+1) (o1.x) (code.length+o1.s.length+1) (by omega) s2
 generalize E.g n (dC:Int) (o1.x) (code.length+o1.s.length+1)=o2 at gO pl2 pi2 ⊢
 have HJ:Hid (xB.length=code.length+o1.s.length):=qC (by rw[xZ,List.length_append])
 have aI:xB.length≤100000:=by rw[qA HJ];omega
 obtain⟨wG,wZ⟩:∃ wG,wG=xB++[iN 7 0]++o2.s:=⟨_,rfl⟩
 have HJ2:Hid (wG.length=code.length+o1.s.length+1+o2.s.length):=qC (by simp only[wZ,xZ,List.length_append,List.length_singleton])
 have aH:wG.length≤90000:=by rw[qA HJ2];omega
 have iS:xB.length<wG.length:=by rw[qA HJ,qA HJ2];omega
 have HCE:=qC xZ
 have qJT:=qC wZ
 have qXW:code.length≤100000:=by omega
 clear xZ wZ dA s1 s2 ep eq' k0 k1 xV HI HS hl2 sM rG gM xH
 have dT:=qC (qA wK v b c _ (qA vG) (qA yF))
 clear wK
 go_enter Tryz.func149,Tryz.ntmps149
 go_wp2_with fail
 refine(qA dT).mono ?_
 rintro e w2 ⟨rfl,v2,b2,c2,fS,a7⟩
 obtain⟨yX,cA⟩:=qA dS v2 w2 a7
 have lV:=yX.lt
 obtain⟨z0,z2,z4⟩:=yX.cells
 have qH:=qC a7
 rw[←qA HCE]at fS
 have HL:=qC (tS (iN 7 0) fS aI)
 clear yX cA fS a7 dT m0 m1 m2 y0
 go_wp2_with fail
 refine(qA HL).mono ?_
 rintro e w3 ⟨rfl,v3,b3,c3,uK,mF⟩
 have rF:=(qA qH).trans mF
 obtain⟨wR,oD⟩:=qA dS v3 w3 rF
 have qJG:=wR.lt
 obtain⟨z0,z2,z4⟩:=wR.cells
 have y1:=qA xJ w3 oD
 have yK:=qC rF
 have yW:=qC (qA gO v3 b3 c3 w3 uK oD)
 clear wR oD uK mF rF HL qH gO
 go_wp2_with fail
 refine(qA yW).mono ?_
 rintro e w4 ⟨rfl,v4,b4,c4,hC4,hK4⟩
 have qCY:=(qA yK).trans hK4
 obtain⟨rH,hO4⟩:=qA dS v4 w4 qCY
 have qUK:=rH.lt
 obtain⟨z0,z2,z4⟩:=rH.cells
 have fG:=qC qCY
 rw[←qA qJT]at hC4
 have rY:=qC (tS (iN 6 (code.length:Int)) hC4 (by omega))
 clear hC4 hK4 qCY rH hO4 yW yK y1
 go_wp2_with fail
 refine(qA rY).mono ?_
 rintro e w5 ⟨rfl,v5,b5,c5,oE,nU⟩
 have tV:=qC ((qA fG).trans nU)
 have HH:=qC (qAK xB.length oE (by simp only[List.length_append];omega) (by simp only[List.length_append,List.length_singleton];omega))
 clear oE nU rY fG
 go_wp2_with fail
 refine(qA HH).mono ?_
 rintro e w6 ⟨rfl,v6,b6,c6,hC6,hK6⟩
 have HF:Hid (E.P v w ⟨o1.s++iN 7 ((code.length+o1.s.length+1+o2.s.length+1:Nat):Int)::(o2.s++[iN 6 (code.length:Int)]),o2.x⟩ code w6):=qC ⟨v6,b6,c6,by
  rw[List.length_append,qA HJ2,qA qJT,show xB++[iN 7 0]++o2.s++[iN 6 (code.length:Int)]=xB++iN 7 0::(o2.s++[iN 6 (code.length:Int)]) by simp,gT,qA HCE,List.append_assoc]at hC6
  exact hC6,((qA yV).trans (qA tV)).trans hK6⟩
 clear hC6 hK6 HH
 go_wp2
 go_end0
 exact⟨rfl,qA HF⟩
end
end Go.Proofs.YtbgkfaclfnkloaaGreatDoor
