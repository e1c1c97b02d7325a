import Derived.Test.YtbgkfaclfnkloaaGreatDoorG43
import Derived.Test.YtbgkfaclfnkloaaGreatDoorG35
namespace Go.Proofs.YtbgkfaclfnkloaaGreatDoor
set_option linter.all false
set_option maxHeartbeats 4000000
set_option maxRecDepth 100000
open Go.RowKit Go.Joins
theorem qKf(code:List IR)(a:Nat):(dB code a).length≤a:=by
 unfold dB
 refine Nat.le_trans (List.length_filter_le _ _) ?_
 simp
theorem qKj{code:List IR}{a:Nat}(h:qDr code a=true):(dB code (a+1)).map Int.ofNat=(dB code a).map Int.ofNat++[(a:Int)]:=by
 unfold dB
 rw[List.range_succ,List.filter_append,List.filter_cons_of_pos h,List.map_append]
 rfl
theorem qR0{code:List IR}{a:Nat}(h:¬qDr code a=true):dB code (a+1)=dB code a:=by
 unfold dB
 rw[List.range_succ,List.filter_append,List.filter_cons_of_neg h]
 simp
theorem iH(L:sA)(fs:List FR)(cap k:Nat)(w:World)(hF:zW w L fs)(hG:dW fs)(yI:∀ f∈fs,f.code.length≤400)(hk:k<fs.length) :
  Calls Tryz.prog 7 #[.agg #[.slice L.p fs.length cap],.int .i64 (k:Int)] w fun e w'=>∃ v,e=.returned (.tuple #[v,.int .i64 0])∧qR w' w.heap.size v ((dB fs[k].code fs[k].code.length).map Int.ofNat)∧Below w.heap.size w w':=by
 have HP:=qC fun (W:World) (hW:zW W L fs)=>eU L fs cap k W hW hG yI hk
 have HF:=qC (hF.later (qD w (.cells #[.slice L.p fs.length cap] 25)))
 have aX:(k:Int)<(fs.length:Int):=by omega
 have h4:=yI fs[k] (List.getElem_mem hk)
 clear hF hG yI
 obtain⟨f,hf⟩:∃ f,f=fs[k]:=⟨_,rfl⟩
 rw[←hf]at h4 ⊢
 obtain⟨zF,yZ,mQ,qL⟩:=f
 have HFE:=qC hf
 clear hf
 dsimp only at h4 ⊢
 go_enter Tryz.func7,Tryz.ntmps7
 go_wp2_with fail
 refine(qA HP _ (qA HF)).mono ?_
 rintro e w1 ⟨rfl,jD⟩
 have hbw:=qC (qE (qD _ _) jD)
 obtain⟨xZ,hf1⟩:=yU jD
 have wJ:w.heap.size<w1.heap.size:=by have:=jD.size;simp at this;omega
 obtain⟨fb,qFF,hp,g0,g1,g2,g3,rU⟩:=(qA HF).later jD k hk
 rw[←qA HFE]at g0 g1 g2 g3 rU
 dsimp only at g0 g1 g2 g3 rU
 have HWX:Hid (∀ wx,Below (w1.heap.size+1) (w1.alloc (.cells #[.string zF,.int .i64 (yZ:Int),.int .i64 (mQ:Int),.slice (L.pc k) qL.length (L.cc k)] 35)) wx→wx.cell? ⟨w1.heap.size,3,none⟩=some (.slice (L.pc k) qL.length (L.cc k))∧vY wx (L.pc k) qL∧Below w.heap.size w wx∧w1.heap.size+1≤wx.heap.size):=qC fun wx hx=>by
  have hx':Below (w1.alloc (.cells #[.string zF,.int .i64 (yZ:Int),.int .i64 (mQ:Int),.slice (L.pc k) qL.length (L.cc k)] 35)).heap.size (w1.alloc (.cells #[.string zF,.int .i64 (yZ:Int),.int .i64 (mQ:Int),.slice (L.pc k) qL.length (L.cc k)] 35)) wx:=by simpa using hx
  have uQ:=qE (qD w1 _) hx'
  have hs:=hx'.size
  simp at hs
  exact⟨((eM.new w1 w1.heap.size ⟨zF,yZ,mQ,qL⟩ (L.pc k) (L.cc k) 35 rfl).later hx').2.2.2.1,rU.later uQ,qE (qA hbw) uQ,hs⟩
 rw[hp]
 clear rU jD
 have HI0:Hid (qR ((w1.alloc (.cells #[.string zF,.int .i64 (yZ:Int),.int .i64 (mQ:Int),.slice (L.pc k) qL.length (L.cc k)] 35)).alloc (.cells #[] 3)) (w1.heap.size+1) (.slice (some ⟨w1.heap.size+1,0,none⟩) 0 0) ((dB qL 0).map Int.ofNat)):=qC (by have:=qR.lit (w1.alloc (.cells #[.string zF,.int .i64 (yZ:Int),.int .i64 (mQ:Int),.slice (L.pc k) qL.length (L.cc k)] 35)) (w1.heap.size+1) [] (by simp) (by simp);show qR _ _ _ [];simpa using this)
 have xI:=qC (show Below (w1.heap.size+1) (w1.alloc (.cells #[.string zF,.int .i64 (yZ:Int),.int .i64 (mQ:Int),.slice (L.pc k) qL.length (L.cc k)] 35)) ((w1.alloc (.cells #[.string zF,.int .i64 (yZ:Int),.int .i64 (mQ:Int),.slice (L.pc k) qL.length (L.cc k)] 35)).alloc (.cells #[] 3)) by have:=qD (w1.alloc (.cells #[.string zF,.int .i64 (yZ:Int),.int .i64 (mQ:Int),.slice (L.pc k) qL.length (L.cc k)] 35)) (.cells #[] 3);simpa using this)
 go_wp2
 go_loopw[8,9] (fun v i wx=>∃ a:Nat,a≤qL.length∧i=.int .i64 a∧Hid (qR wx (w1.heap.size+1) v ((dB qL a).map Int.ofNat))∧Hid (Below (w1.heap.size+1) (w1.alloc (.cells #[.string zF,.int .i64 (yZ:Int),.int .i64 (mQ:Int),.slice (L.pc k) qL.length (L.cc k)] 35)) wx)) (fun _ i _=>qL.length-(intOf i).toNat)
 case atStart=>exact⟨0,by omega,rfl,HI0,xI⟩
 case round=>
  clear xZ hf1 g0 g1 g2 g3 HI0 xI HF HP hp
  obtain⟨a,ha,rfl,hI,hBx⟩:=hrel
  obtain⟨pa,qQL,hpv⟩:=(qA hI).slice
  rw[List.length_map]at hpv
  subst hpv
  obtain⟨f3,rU,hbt,fU⟩:=qA HWX wr (qA hBx)
  by_cases jF:a<qL.length
  ·have hai:(a:Int)<(qL.length:Int):=by omega
   obtain⟨wo,hwo⟩:∃ wo,wo=wr:=⟨_,rfl⟩
   subst hwo
   have HCA:=qC rU
   clear rU
   go_wp2
   go_loopw[8,10] (fun v i wx=>∃ j:Nat,j≤qL.length∧i=.int .i64 j∧v=.slice pa (dB qL a).length qQL∧Hid (∀ q (h:q<qL.length),q<j→¬(qL[q].n == (a:Int)&&xL qL[q].op)=true)∧wx=wo) (fun _ i _=>qL.length-(intOf i).toNat)
   case atStart=>exact⟨0,by omega,rfl,rfl,qC fun q _ h=>by omega,rfl⟩
   case round=>
    obtain⟨j,hj,rfl,rfl,tZ,rfl⟩:=hrel
    by_cases qBn:j<qL.length
    ·obtain⟨cb,qDX,hpc,c0,c1,c2,c3,c4,c5,c6⟩:=(qA HCA) j qBn
     have hji:(j:Int)<(qL.length:Int):=by omega
     have qAx:Hid ((qL[j].n == (a:Int)&&xL qL[j].op)=true→qDr qL a=true):=qC fun h=>by unfold qDr;rw[List.any_eq_true];exact⟨qL[j],List.getElem_mem qBn,h⟩
     have HNO:Hid ((qL[j].n == (a:Int)&&xL qL[j].op)=false→∀ q (h:q<qL.length),q<j+1→¬(qL[q].n == (a:Int)&&xL qL[q].op)=true):=qC fun h q hq hqj=>by
      by_cases e:q=j
      ·subst e;rw[h];simp
      ·exact qA tZ q hq (by omega)
     rw[hpc]at f3
     clear hpc
     generalize qL[j]=ir at c0 c1 c2 c3 c4 c5 c6 qAx HNO
     obtain⟨iop,rI,iM,zO,zM,zP,zL⟩:=ir
     dsimp only at c0 c1 c2 c3 c4 c5 c6 qAx HNO
     by_cases hna:rI=(a:Int)
     ·by_cases h69:6≤iop∧iop≤9
      ·have HIT:=qA qAx (by unfold xL;simp[hna];try omega)
       have qSU:(rI == (a:Int))=true:=by simp[hna]
       clear hna qAx HNO
       go_wp2_with fail
       refine(qP _ _ _ true _ (by simp;omega)).mono ?_
       rintro e wr ⟨rfl,rfl⟩
       go_wp2_with (at_builtin;refine qBw _ rfl _ _ rfl (w1.heap.size+1) wr.heap.size _ ((dB qL a).map Int.ofNat) (a:Int) rfl ((qA hI).alloc _) rfl (by simp) ?c5 ?c3 ?c6)
       case c5=>first | omega | (simp;omega)
       case c3=>rw[List.length_map];have:=qKf qL a;omega
       case c6=>
        intro v' w3 hI3 uN
        have uO:=qC (((qA hBx).alloc (by omega) _).trans uN)
        have HI3:=qC (show qR w3 (w1.heap.size+1) v' ((dB qL (a+1)).map Int.ofNat) by rw[qKj HIT];exact hI3)
        clear hI3 uN
        go_wp2
        go_roundw
        case rel=>exact⟨a+1,by omega,by go_num,HI3,uO⟩
        case measure=>simp[intOf];omega
      ·by_cases oJ:iop=14
       ·have HIT:=qA qAx (by unfold xL;simp[hna];try omega)
        have qSU:(rI == (a:Int))=true:=by simp[hna]
        clear hna qAx HNO
        go_wp2_with fail
        refine(qP _ _ _ false _ (by simp <;> omega)).mono ?_
        rintro e wr ⟨rfl,rfl⟩
        go_wp2_with (at_builtin;refine qBw _ rfl _ _ rfl (w1.heap.size+1) wr.heap.size _ ((dB qL a).map Int.ofNat) (a:Int) rfl ((qA hI).alloc _) rfl (by simp) ?c5 ?c3 ?c6)
        case c5=>first | omega | (simp;omega)
        case c3=>rw[List.length_map];have:=qKf qL a;omega
        case c6=>
         intro v' w3 hI3 uN
         have uO:=qC (((qA hBx).alloc (by omega) _).trans uN)
         have HI3:=qC (show qR w3 (w1.heap.size+1) v' ((dB qL (a+1)).map Int.ofNat) by rw[qKj HIT];exact hI3)
         clear hI3 uN
         go_wp2
         go_roundw
         case rel=>exact⟨a+1,by omega,by go_num,HI3,uO⟩
         case measure=>simp[intOf];omega
       ·have gO:=qC (qA HNO (by unfold xL;simp[hna];try omega))
        have qSU:(rI == (a:Int))=true:=by simp[hna]
        have jCo:(iop == 14)=false:=by simp[oJ]
        clear hna qAx HNO
        go_wp2_with fail
        refine(qP _ _ _ false _ (by simp <;> omega)).mono ?_
        rintro e wr ⟨rfl,rfl⟩
        go_wp2
        go_roundw
        case rel=>exact⟨j+1,by omega,by go_num,rfl,gO,(by first | trivial | rfl)⟩
        case measure=>simp[intOf];omega
     ·have gO:=qC (qA HNO (by simp[hna]))
      have qSU:(rI == (a:Int))=false:=by simp[hna]
      clear qAx HNO
      go_wp2
      go_roundw
      case rel=>exact⟨j+1,by omega,by go_num,rfl,gO,(by first | trivial | rfl)⟩
      case measure=>simp[intOf];omega
    ·have hji:¬(j:Int)<(qL.length:Int):=by omega
     have hnt:¬qDr qL a=true:=fun h=>by
      unfold qDr at h
      rw[List.any_eq_true]at h
      obtain⟨i,hi,e⟩:=h
      obtain⟨q,hq,rfl⟩:=List.getElem_of_mem hi
      exact qA tZ q hq (by omega) e
     have HI3:=qC (show qR wr (w1.heap.size+1) (.slice pa (dB qL a).length qQL) ((dB qL (a+1)).map Int.ofNat) by rw[qR0 hnt];exact qA hI)
     clear hnt
     go_wp2
     go_roundw
     case rel=>exact⟨a+1,by omega,by go_num,HI3,hBx⟩
     case measure=>simp[intOf];omega
  ·have hae:a=qL.length:=by omega
   have hai:¬(a:Int)<(qL.length:Int):=by omega
   have HAE:=qC hae
   clear hae
   go_wp2
   go_ret2
   exact⟨_,rfl,ownsRow_le (show qR wr (w1.heap.size+1) _ _ by have:=qA hI;rw[qA HAE]at this ⊢;exact this) (by omega),hbt⟩
end Go.Proofs.YtbgkfaclfnkloaaGreatDoor
