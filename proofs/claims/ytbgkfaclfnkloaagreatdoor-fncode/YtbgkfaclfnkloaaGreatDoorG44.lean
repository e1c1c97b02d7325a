import Derived.Test.YtbgkfaclfnkloaaGreatDoorG43
import Derived.Laws.ResultCell
namespace Go.Proofs.YtbgkfaclfnkloaaGreatDoor
set_option linter.all false
set_option maxHeartbeats 4000000
set_option maxRecDepth 100000
section
open Go.RowKit Go.Joins
theorem sC(L:sA)(fs:List FR)(cap k:Nat)(w:World)(hF:zW w L fs)(hG:dW fs)(yI:∀ f∈fs,f.code.length≤400)(ht:Hid (yT w 1 jX))(hk:k<fs.length) :
  Calls Tryz.prog 17 #[.agg #[.slice L.p fs.length cap],.int .i64 (k:Int)] w fun e w'=>e=.returned (.tuple #[oB fs[k] (L.pc k) (L.cc k),.int .i64 0])∧Below w.heap.size w w':=by
 have HP:=qC fun (W:World) (hW:Below w.heap.size w W)=>qDz L fs cap W (hF.later hW) hG yI (qC ((qA ht).later hW))
 have HF:=qC hF
 have HI:=qC fun w=>p4 (k:Int) (fs.length:Int) w
 rw[show(decide ((0:Int)≤(k:Int))&&decide ((k:Int)<(fs.length:Int)))=true by simp;omega]at HI
 have aX:(k:Int)<(fs.length:Int):=by omega
 have hl9:fs.length≤9:=by obtain⟨f0,fr,rP,_,_,_,hr8⟩:=hG.f0;rw[rP];simp;omega
 clear hF hG yI ht
 obtain⟨f,hf⟩:∃ f,f=fs[k]:=⟨_,rfl⟩
 rw[←hf]
 obtain⟨zF,yZ,mQ,qL⟩:=f
 have HFE:=qC hf
 clear hf
 go_enter Tryz.func17,Tryz.ntmps17
 go_wp2_with fail
 refine(qA HP _ (qG (qD _ _))).mono ?_
 rintro e w1 ⟨rfl,jD⟩
 have hbw:=qE (qG (qD _ _)) jD
 have qQP:=jD
 obtain⟨xZ,hf1⟩:=yU jD
 have wJ:w.heap.size+1<w1.heap.size:=by have:=jD.size;simp at this;omega
 obtain⟨fb,qFF,hp,g0,g1,g2,g3,-⟩:=(qA HF).later hbw k hk
 have qXM:=qC (show w1.heap[w.heap.size+1]? = some (.cells #[.string ⟨#[]⟩,.int .i64 0,.int .i64 0,.slice none 0 0] 35 (0,0)) by
  rw[qQP.block _ (by simp)]
  have:∀ (U:World) (o:Obj) (m:Nat),U.heap.size=m→(U.alloc o).heap[m]? = some o:=fun U o m h=>by subst h;show(U.heap.push o)[U.heap.size]? = _;simp
  exact this _ _ _ (by simp))
 have HBW:=qC hbw
 rw[hp]
 rw[←qA HFE]at g0 g1 g2 g3
 dsimp only at g0 g1 g2 g3
 clear jD qQP hbw
 go_wp2_with fail
 refine(qA HI _).mono ?_
 rintro e w' ⟨rfl,rfl⟩
 go_wp2
 try simp only[Exit.inBlock,Exit.then]
 refine bodyPost_ret (v:=.tuple #[oB ⟨zF,yZ,mQ,qL⟩ (L.pc k) (L.cc k),.int .i64 0]) ?_ rfl ?_
 ·rw[results_cell_tmp rfl]
  have hld:=run_loadVar_row (P:=Tryz.prog) _ (w.heap.size+1) 35 35 _ (0,0) _ (block_setCell (i:=3) (block_setCell (i:=2) (block_setCell (i:=1) (block_setCell (i:=0) (qA qXM) (.string zF)) (.int .i64 (yZ:Int))) (.int .i64 (mQ:Int))) (.slice (L.pc k) qL.length (L.cc k))) Tryz.underlying35 rfl rfl
  simp[asAddr,Result.andThen,hld]
  try rfl
 ·exact⟨rfl,jE (jE (jE (jE (qA HBW) (by omega)) (by omega)) (by omega)) (by omega)⟩
def hsN(c:List LI)(vs:List Bool)(k:Nat):Nat:=if vs[k]? = some true then (c[k]?.map LI.h).getD 0 else 0
theorem qQb(c:List LI)(vs:List Bool)(k:Nat):hs0 c vs k=(hsN c vs k:Int):=by unfold hs0 hsN;split <;> rfl
def mxT(c:List LI)(vs:List Bool):Nat→Nat
 | 0=>0
 | j+1=>max (mxT c vs j) (hsN c vs j)
theorem qN6(c:List LI)(vs:List Bool):∀ n k,k<n→hsN c vs k≤mxT c vs n
 | 0,k,h=>by omega
 | n+1,k,h=>by
  unfold mxT
  by_cases e:k=n
  ·subst e;omega
  ·have:=qN6 c vs n k (by omega);omega
theorem qKo(c:List LI)(vs:List Bool):∀ n,mxT c vs n=0∨∃ k,k<n∧hsN c vs k=mxT c vs n
 | 0=>.inl rfl
 | n+1=>by
  unfold mxT
  rcases Nat.le_total (mxT c vs n) (hsN c vs n) with h | h
  ·right;exact⟨n,by omega,by omega⟩
  ·rcases qKo c vs n with h2 | ⟨k,h1,h2⟩
   ·left;omega
   ·right;exact⟨k,by omega,by omega⟩
theorem qRO{S:Nat}{Q:List Nat}{c:List LI}{vs:List Bool}(hG:uS S Q c)(h:nN c vs []):qBc c (mxT c vs vs.length):=by
 have hv:∀ k x,vs[k]? = some true→c[k]? = some x→hsN c vs k=x.h:=fun k x h1 h2=>by unfold hsN;rw[if_pos h1,h2];rfl
 have hup:∀ k x,Rch c k→c[k]? = some x→x.h≤mxT c vs vs.length:=fun k x hr hx=>by
  have h1:=(h.done k).2 hr
  rw[←hv k x h1 hx]
  exact qN6 c vs _ k (List.getElem?_eq_some_iff.1 h1).1
 refine⟨hup,?_⟩
 rcases qKo c vs vs.length with h0 | ⟨k,hk,he⟩
 ·obtain⟨x,hx⟩:∃ x,c[0]? = some x:=⟨c[0]'hG.ne,List.getElem?_eq_getElem hG.ne⟩
  have:=hup 0 x .zero hx
  exact⟨0,x,.zero,hx,by omega⟩
 ·by_cases h1:vs[k]? = some true
  ·obtain⟨x,hx⟩:∃ x,c[k]? = some x:=⟨c[k]'(by rw[←h.len];exact hk),List.getElem?_eq_getElem _⟩
   exact⟨k,x,h.r k h1,hx,by rw[←hv k x h1 hx];exact he⟩
  ·obtain⟨x,hx⟩:∃ x,c[0]? = some x:=⟨c[0]'hG.ne,List.getElem?_eq_getElem hG.ne⟩
   have h2:=hup 0 x .zero hx
   have h3:hsN c vs k=0:=by unfold hsN;rw[if_neg h1]
   exact⟨0,x,.zero,hx,by omega⟩
theorem qDj(L:sA)(fs:List FR)(cap k:Nat)(c:List LI)(w:World)(hF:zW w L fs)(hG:dW fs)(yI:∀ f∈fs,f.code.length≤400)(ht:Hid (yT w 1 jX))(hk:k<fs.length)(kL:c.map LI.i=fs[k].code)(nY:uS fs[k].slots (fs.tail.map FR.params) c) :
  Calls Tryz.prog 10 #[.agg #[.slice L.p fs.length cap],.int .i64 (k:Int)] w fun e w'=>∃ m:Nat,e=.returned (.tuple #[.int .i64 (m:Int),.int .i64 0])∧qBc c m∧Below w.heap.size w w':=by
 have HP:=qC fun (W:World) (hW:Below w.heap.size w W)=>sC L fs cap k W (hF.later hW) hG yI (qC ((qA ht).later hW)) hk
 have HF:=qC hF
 have h4:=yI fs[k] (List.getElem_mem hk)
 have dZ:c.length=fs[k].code.length:=by rw[←kL,List.length_map]
 have HWC:=qC fun (W:World) (hW:vY W (L.pc k) fs[k].code)=>bR (L.pc k) fs[k].code.length (L.cc k) fs[k].slots (fs.tail.map FR.params) c fs[k].code W nY kL dZ h4 hW
 have HCA:=qC fun (W:World) (hW:Below w.heap.size w W)=>show vY W (L.pc k) fs[k].code by obtain⟨_,_,_,_,_,_,_,h⟩:=hF.later hW k hk;exact h
 have HG:=qC nY
 clear hF hG yI ht kL nY
 generalize fs[k]=f at HP h4 dZ HWC HCA HG
 obtain⟨zF,yZ,mQ,qL⟩:=f
 dsimp only at h4 dZ HWC HCA HG
 go_enter Tryz.func10,Tryz.ntmps10
 go_wp2_with fail
 refine(qA HP _ (qD _ _)).mono ?_
 rintro e w1 ⟨rfl,jD⟩
 have hbw:=qE (qD _ _) jD
 unfold oB
 dsimp only
 have HBW:=qC (qE hbw (qD w1 (.cells #[.string zF,.int .i64 (yZ:Int),.int .i64 (mQ:Int),.slice (L.pc k) qL.length (L.cc k)] 35)))
 clear jD hbw
 go_wp2_with fail
 refine(qA HWC _ (qA HCA _ (qA HBW))).mono ?_
 rintro e w5 ⟨sb,vs,av,rfl,hS,zX,gL⟩
 have hfd:=qKq (.slice (L.pc k) qL.length (L.cc k)) (.slice (some ⟨sb,0,none⟩) qL.length qL.length) av (.bool false) w5
 have hvl:vs.length=qL.length:=by rw[hS.len];exact dZ
 have HST:=qC zX
 have HS:=qC hS
 have lO:=qC (qE (qA HBW) gL)
 clear zX hS gL dZ
 go_wp2
 go_loopw[8,25] (fun m i wx=>∃ j:Nat,j≤qL.length∧i=.int .i64 j∧m=.int .i64 (mxT c vs j:Int)∧Below w5.heap.size w5 wx) (fun _ i _=>qL.length-(intOf i).toNat)
 case atStart=>exact⟨0,by omega,rfl,rfl,Below.refl _ _⟩
 case round=>
  obtain⟨j,hj,rfl,rfl,uL⟩:=hrel
  by_cases jF:j<qL.length
  ·have hji:(j:Int)<(qL.length:Int):=by omega
   obtain⟨s0,s1,s2⟩:=((qA HST).same (uL.block sb (qA HST).lt)).cell (i:=j) (by omega)
   have hmx:mxT c vs (j+1)=max (mxT c vs j) (hsN c vs j):=rfl
   rw[qQb]at s1
   have HMX:=qC hmx
   clear hmx
   generalize hsN c vs j=q at s1 HMX
   obtain⟨m0,xG⟩:∃ m0,mxT c vs j=m0:=⟨_,rfl⟩
   rw[xG]at HMX ⊢
   clear xG
   go_wp2
   go_roundw
   case rel=>exact⟨j+1,by omega,by go_num,by rw[qA HMX];simp;omega,qG uL⟩
   case measure=>simp[intOf];omega
  ·have hji:¬(j:Int)<(qL.length:Int):=by omega
   have hje:j=vs.length:=by omega
   have HJE:=qC hje
   clear hje
   go_wp2
   go_ret2
   exact⟨mxT c vs vs.length,by rw[qA HJE];rfl,qRO (qA HG) (qA HS),qE (qA lO) uL⟩
theorem qGr(L:sA)(fs:List FR)(cap k:Nat)(c:List LI)(w:World)(hF:zW w L fs)(hG:dW fs)(yI:∀ f∈fs,f.code.length≤400)(ht:Hid (yT w 1 jX))(hk:k<fs.length)(kL:c.map LI.i=fs[k].code)(nY:uS fs[k].slots (fs.tail.map FR.params) c) :
  Calls Tryz.prog 8 #[.agg #[.slice L.p fs.length cap],.int .i64 (k:Int)] w fun e w'=>∃ vs:List Bool,e=.returned (.tuple #[.int .i64 (aN vs:Int),.int .i64 0])∧nN c vs []∧Below w.heap.size w w':=by
 have HP:=qC fun (W:World) (hW:Below w.heap.size w W)=>sC L fs cap k W (hF.later hW) hG yI (qC ((qA ht).later hW)) hk
 have HF:=qC hF
 have h4:=yI fs[k] (List.getElem_mem hk)
 have dZ:c.length=fs[k].code.length:=by rw[←kL,List.length_map]
 have HWC:=qC fun (W:World) (hW:vY W (L.pc k) fs[k].code)=>bR (L.pc k) fs[k].code.length (L.cc k) fs[k].slots (fs.tail.map FR.params) c fs[k].code W nY kL dZ h4 hW
 have HCA:=qC fun (W:World) (hW:Below w.heap.size w W)=>show vY W (L.pc k) fs[k].code by obtain⟨_,_,_,_,_,_,_,h⟩:=hF.later hW k hk;exact h
 have HG:=qC nY
 clear hF hG yI ht kL nY
 generalize fs[k]=f at HP h4 dZ HWC HCA HG
 obtain⟨zF,yZ,mQ,qL⟩:=f
 dsimp only at h4 dZ HWC HCA HG
 go_enter Tryz.func8,Tryz.ntmps8
 go_wp2_with fail
 refine(qA HP _ (qD _ _)).mono ?_
 rintro e w1 ⟨rfl,jD⟩
 have hbw:=qE (qD _ _) jD
 unfold oB
 dsimp only
 have HBW:=qC (qE hbw (qD w1 (.cells #[.string zF,.int .i64 (yZ:Int),.int .i64 (mQ:Int),.slice (L.pc k) qL.length (L.cc k)] 35)))
 clear jD hbw
 go_wp2_with fail
 refine(qA HWC _ (qA HCA _ (qA HBW))).mono ?_
 rintro e w5 ⟨sb,vs,av,rfl,hS,zX,gL⟩
 have hfd:=qKq (.slice (L.pc k) qL.length (L.cc k)) (.slice (some ⟨sb,0,none⟩) qL.length qL.length) av (.bool false) w5
 have hvl:vs.length=qL.length:=by rw[hS.len];exact dZ
 have HST:=qC zX
 have HS:=qC hS
 have lO:=qC (qE (qA HBW) gL)
 clear zX hS gL dZ
 go_wp2
 go_loopw[8,25] (fun m i wx=>∃ j:Nat,j≤qL.length∧i=.int .i64 j∧m=.int .i64 (aN (vs.take j):Int)∧Below w5.heap.size w5 wx) (fun _ i _=>qL.length-(intOf i).toNat)
 case atStart=>exact⟨0,by omega,rfl,rfl,Below.refl _ _⟩
 case round=>
  obtain⟨j,hj,rfl,rfl,uL⟩:=hrel
  by_cases jF:j<qL.length
  ·have hji:(j:Int)<(qL.length:Int):=by omega
   obtain⟨s0,s1,s2⟩:=((qA HST).same (uL.block sb (qA HST).lt)).cell (i:=j) (by omega)
   have iR:=qD6 (vs:=vs) (j:=j) (by omega)
   have hle:=qBy (vs.take j)
   have hlen:(vs.take j).length≤400:=by rw[List.length_take];omega
   generalize vs[j]'(by omega)=bv at s0 iR
   generalize aN (vs.take j)=C0 at iR hle
   have hC0:C0≤400:=by omega
   have fV:=qC iR
   clear iR hle hlen
   cases bv
   ·go_wp2
    go_roundw
    case rel=>exact⟨j+1,by omega,by go_num,by have:=qA fV;simp at this;rw[this],qG uL⟩
    case measure=>simp[intOf];omega
   ·go_wp2
    go_roundw
    case rel=>exact⟨j+1,by omega,by go_num,by have:=qA fV;simp at this;rw[this];go_num,qG uL⟩
    case measure=>simp[intOf];omega
  ·have hji:¬(j:Int)<(qL.length:Int):=by omega
   have hje:j=vs.length:=by omega
   have HJE:=qC hje
   clear hje
   go_wp2
   go_ret2
   exact⟨vs,by rw[qA HJE,List.take_length];rfl,qA HS,qE (qA lO) uL⟩
end
end Go.Proofs.YtbgkfaclfnkloaaGreatDoor
