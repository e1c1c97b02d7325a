import Derived.Test.YtbgkfaclfnkloaaGreatDoorG44
import Derived.Test.YtbgkfaclfnkloaaGreatDoorG36
namespace Go.Proofs.YtbgkfaclfnkloaaGreatDoor
set_option linter.all false
set_option maxHeartbeats 4000000
set_option maxRecDepth 100000
open Go.RowKit Go.Joins
def cN(code:List IR)(j:Nat):List Int:=((code.take j).filter fun i=>xL i.op).map IR.n
theorem qKO{code:List IR}{j:Nat}(h:j<code.length):cN code (j+1)=if xL code[j].op=true then cN code j++[code[j].n] else cN code j:=by
 unfold cN
 rw[List.take_add_one,List.getElem?_eq_getElem h,List.filter_append,List.map_append]
 by_cases hj:xL code[j].op=true
 ·simp[hj]
 ·simp[hj]
theorem qGX(code:List IR)(j:Nat):(cN code j).length≤code.length:=by
 unfold cN
 rw[List.length_map]
 have h1:=List.length_filter_le (fun i=>xL i.op) (code.take j)
 have h2:(code.take j).length≤code.length:=by rw[List.length_take];omega
 omega
theorem qDK(L:sA)(fs:List FR)(cap k:Nat)(c:List LI)(w:World)(hF:zW w L fs)(hG:dW fs)(yI:∀ f∈fs,f.code.length≤400)(ht:Hid (yT w 1 jX))(hk:k<fs.length)(kL:c.map LI.i=fs[k].code)(nY:uS fs[k].slots (fs.tail.map FR.params) c) :
  Calls Tryz.prog 6 #[.agg #[.slice L.p fs.length cap],.int .i64 (k:Int)] w fun e w'=>∃ v,e=.returned (.tuple #[v,.int .i64 0])∧qR w' w.heap.size v ((dB fs[k].code fs[k].code.length).map Int.ofNat)∧Below w.heap.size w w':=by
 have HP:=qC fun (W:World) (hW:Below w.heap.size w W)=>sC L fs cap k W (hF.later hW) hG yI (qC ((qA ht).later hW)) hk
 have h4:=yI fs[k] (List.getElem_mem hk)
 have dZ:c.length=fs[k].code.length:=by rw[←kL,List.length_map]
 have HCA:=qC fun (W:World) (hW:Below w.heap.size w W)=>show vY W (L.pc k) fs[k].code by obtain⟨_,_,_,_,_,_,_,h⟩:=hF.later hW k hk;exact h
 have qTb:∀ i∈fs[k].code,(1≤i.op∧i.op≤16)∧(xL i.op=true→0≤i.n∧i.n<(fs[k].code.length:Int)):=fun i hi=>by
  rw[←kL]at hi
  obtain⟨x,hx,rfl⟩:=List.mem_map.1 hi
  obtain⟨q,hq,rfl⟩:=List.getElem_of_mem hx
  have qOZ:=List.getElem?_eq_getElem hq
  obtain⟨_,_,_,_,hR,_⟩:=nY.ok q _ qOZ
  refine⟨?_,fun hj=>⟨?_,by have:=qEL nY qOZ hj;omega⟩⟩
  ·unfold fP at hR
   omega
  ·unfold xL at hj
   simp at hj
   unfold fP at hR
   omega
 have HTE:=qC (qIh fs[k].code fs[k].code.length (fun i hi hj=>(qTb i hi).2 hj))
 have HOP:=qC qTb
 clear hF hG yI ht kL nY qTb dZ
 generalize fs[k]=f at HP h4 HCA HTE HOP
 obtain⟨zF,yZ,mQ,qL⟩:=f
 dsimp only at h4 HCA HTE HOP ⊢
 generalize (dB qL qL.length).map Int.ofNat=out at HTE
 have HJ0:=qC (show cN qL qL.length=(qL.filter fun i=>xL i.op).map IR.n by unfold cN;rw[List.take_length])
 go_enter Tryz.func6,Tryz.ntmps6
 go_wp2_with fail
 refine(qA HP _ (qD _ _)).mono ?_
 rintro e w1 ⟨rfl,jD⟩
 have hbw:=qE (qD _ _) jD
 unfold oB
 dsimp only
 have hs1:w.heap.size<w1.heap.size:=by have:=jD.size;simp at this;omega
 have HBW:=qC (qE hbw (qD w1 (.cells #[.string zF,.int .i64 (yZ:Int),.int .i64 (mQ:Int),.slice (L.pc k) qL.length (L.cc k)] 35)))
 clear jD hbw
 have HCW:=qC (qA HCA _ (qA HBW))
 generalize L.pc k=pc at HBW HCW
 generalize L.cc k=cc at HBW HCW
 clear HP HCA
 go_wp2
 go_loopw[8,23] (fun v i wx=>∃ j:Nat,j≤qL.length∧i=.int .i64 j∧Hid (qR wx (w1.heap.size+1) v (cN qL j))∧Hid (Below (w1.heap.size+1) (w1.alloc (.cells #[.string zF,.int .i64 (yZ:Int),.int .i64 (mQ:Int),.slice pc qL.length cc] 35)) wx)) (fun _ i _=>qL.length-(intOf i).toNat)
 case atStart=>exact⟨0,by omega,rfl,qC (qR.nil _ _),qC (Below.refl _ _)⟩
 case round=>
  obtain⟨j,hj,rfl,hI,hBx⟩:=hrel
  have fU:w1.heap.size+1≤wr.heap.size:=by have:=(qA hBx).size;simpa using this
  by_cases jF:j<qL.length
  ·have hji:(j:Int)<(qL.length:Int):=by omega
   obtain⟨b,off,rfl,c0,c1,c2,c3,c4,c5,c6⟩:=(qA HCW).later (by simpa using qA hBx) j jF
   obtain⟨⟨ho1,qST⟩,_⟩:=qA HOP qL[j] (List.getElem_mem jF)
   have fV:=qC (qKO jF)
   have iS:=qGX qL j
   generalize qL[j]=ir at c0 c1 c2 c3 c4 c5 c6 ho1 qST fV
   obtain⟨iop,rI,iM,zO,zM,zP,zL⟩:=ir
   dsimp only at c0 c1 c2 c3 c4 c5 c6 ho1 qST fV
   have HL:=qC (uI iop · ho1 qST)
   obtain⟨pa,qQL,rfl⟩:=(qA hI).slice
   cases hjm:xL iop
   ·rw[hjm]at HL fV
    clear hjm
    go_wp2_with fail
    refine(qA HL _).mono ?_
    rintro e wy ⟨rfl,rfl⟩
    have HI3:=qC (fun o:Obj=>show qR (wr.alloc o) (w1.heap.size+1) (.slice pa (cN qL j).length qQL) (cN qL (j+1)) by rw[qA fV];exact(qA hI).alloc _)
    go_wp2
    go_roundw
    case rel=>exact⟨j+1,by omega,by go_num,qC (qA HI3 _),qC ((qA hBx).alloc (by omega) _)⟩
    case measure=>simp[intOf];omega
   ·rw[hjm]at HL fV
    clear hjm
    go_wp2_with fail
    refine(qA HL _).mono ?_
    rintro e wy ⟨rfl,rfl⟩
    go_wp2_with (at_builtin;refine qBw _ rfl _ _ rfl (w1.heap.size+1) (wr.heap.size+1) _ (cN qL j) rI rfl (((qA hI).alloc _).alloc _) rfl (by simp) ?c5 ?c3 ?c6)
    case c5=>first | omega | (simp;omega)
    case c3=>omega
    case c6=>
     intro v' w3 hI3 uN
     have uO:=qC ((((qA hBx).alloc (by omega) _).alloc (by simp;omega) _).trans uN)
     have HI3:=qC (show qR w3 (w1.heap.size+1) v' (cN qL (j+1)) by rw[qA fV];exact hI3)
     clear hI3 uN
     go_wp2
     go_roundw
     case rel=>exact⟨j+1,by omega,by go_num,HI3,uO⟩
     case measure=>simp[intOf];omega
  ·have hje:j=qL.length:=by omega
   have hji:¬(j:Int)<(qL.length:Int):=by omega
   have hI2:=qA hI
   rw[hje,qA HJ0]at hI2
   have HI2:=qC hI2
   have hln:((qL.filter fun i=>xL i.op).map IR.n).length≤1000:=by have:=qGX qL qL.length;rw[qA HJ0]at this;omega
   clear hje hI hI2 HJ0
   generalize (qL.filter fun i=>xL i.op).map IR.n=js at HI2 HTE hln
   go_wp2_with fail
   refine((qA HI2).sort fU hln).mono ?_
   rintro e w4 ⟨rfl,hI4,uU⟩
   have HI4:=qC hI4
   have pV:=qC ((qA hBx).trans uU)
   have qYW:w1.heap.size+1≤w4.heap.size:=by have:=uU.size;omega
   have qWi:(js.mergeSort fun x y=>decide (x≤y)).length≤1000:=by simpa using hln
   clear hI4 uU
   generalize (js.mergeSort fun x y=>decide (x≤y))=ks at HI4 HTE qWi
   go_wp2_with fail
   refine((qA HI4).compact qYW qWi).mono ?_
   rintro e w5 ⟨v5,rfl,hI5,gL⟩
   rw[qA HTE]at hI5
   have HI5:=qC (ownsRow_le hI5 (show w.heap.size≤w1.heap.size+1 by omega))
   have lO:=qC ((qA HBW).trans (Below.mono (B:=w1.heap.size+1) (B':=w.heap.size) ((qA pV).trans gL) (by omega)))
   clear hI5 gL
   go_wp2
   go_ret2
   exact⟨_,rfl,qA HI5,qA lO⟩
end Go.Proofs.YtbgkfaclfnkloaaGreatDoor
