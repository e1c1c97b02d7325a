import Derived.Test.YtbgkfaclfnkloaaGreatDoorG03
import Derived.Laws.Rows
namespace Go.Proofs.YtbgkfaclfnkloaaGreatDoor
set_option linter.all false
set_option maxHeartbeats 4000000
set_option maxRecDepth 100000
open Go.RowKit
def zI(ws:List (List UInt8))(k:Nat):ByteArray:=⟨(ws.getD k []).toArray⟩
theorem qAQ(ws:List (List UInt8))(k:Nat):(zI ws k).toList=ws.getD k []:=by unfold zI;rw[ByteArray.toList_eq]
theorem qKa(ws:List (List UInt8))(s:ByteArray)(k:Nat)(hk:k<ws.length)(h:((zI ws k).toList == s.toList)=true):ws.any (· == s.data.toList)=true:=by
 rw[qAQ,ByteArray.toList_eq]at h
 rw[List.any_eq_true]
 exact⟨ws.getD k [],by rw[List.getD_eq_getElem?_getD,List.getElem?_eq_getElem hk];simp,h⟩
theorem qNJ(ws:List (List UInt8))(s:ByteArray)(h:∀ j,j<ws.length→((zI ws j).toList == s.toList)=false):ws.any (· == s.data.toList)=false:=by
 rw[List.any_eq_false]
 intro x hx
 obtain⟨j,hj,rfl⟩:=List.mem_iff_getElem.1 hx
 have:=h j hj
 rw[qAQ,ByteArray.toList_eq,List.getD_eq_getElem?_getD,List.getElem?_eq_getElem hj]at this
 simpa using this
theorem qEd{ws:List (List UInt8)}{s:ByteArray}{k:Nat}(h:∀ j,j<k→((zI ws j).toList == s.toList)=false)(hk:((zI ws k).toList == s.toList)=false):∀ j,j<k+1→((zI ws j).toList == s.toList)=false:=fun j hj=>by
 by_cases e:j=k
 ·subst e;exact hk
 ·exact h j (by omega)
def gU(ws:List (List UInt8)):Array Value:=(ws.map fun l=>Value.string ⟨l.toArray⟩).toArray
theorem qEE(ws:List (List UInt8))(k:Nat)(hk:k<ws.length):(gU ws)[k]? = some (.string (zI ws k)):=by
 simp[gU,zI,hk]
theorem qET(w:World) :
  Calls Tryz.prog 101 #[] w fun e w'=>e=.returned (.slice (some ⟨w.heap.size,0,none⟩) 12 12)∧(∀ k,k<12→w'.cell? ⟨w.heap.size,k,none⟩=some (.string (zI jX k)))∧w.heap.size<w'.heap.size∧Below w.heap.size w w':=by
 have hc:∀ k,k<12→(w.alloc (.cells (gU jX) 9)).cell? ⟨w.heap.size,k,none⟩=some (.string (zI jX k)):=fun k hk=>by
  rw[←qEE jX k hk];simp
 have HC:=qC hc
 clear hc
 go_enter Tryz.func101,Tryz.ntmps101
 go_wp2
 go_ret
 exact⟨rfl,qA HC,by simp,(Below.refl _ _).alloc (Nat.le_refl _) _⟩
theorem sB(s:ByteArray)(w:World)(hs:s.size≤maxLen) :
  Calls Tryz.prog 74 #[.string s] w fun e w'=>e=.returned (.bool (pF s.data.toList))∧Below w.heap.size w w':=by
 unfold maxLen at hs
 by_cases ho:65536<s.size
 ·have hb:Hid (pF s.data.toList=false):=by
   cases hw:pF s.data.toList
   ·rfl
   ·have:=qD9 hw;rw[jI]at this;omega
  go_enter Tryz.func74,Tryz.ntmps74
  go_wp2
  go_ret
  exact⟨jL (qA hb).symm,Below.refl _ _⟩
 go_enter Tryz.func74,Tryz.ntmps74
 go_wp2_with fail
 refine(qET w).mono ?_
 rintro e w1 ⟨rfl,hc,hz,jD⟩
 have HC:=qC hc
 clear hc
 go_wp2
 go_loop [4] (fun i=>∃ k:Nat,k≤12∧i=.int .i64 k∧(∀ j,j<k→((zI jX j).toList == s.toList)=false)) (fun i=>12-(intOf i).toNat)
 case atStart=>exact⟨0,by omega,rfl,fun j hj=>by omega⟩
 case round=>
  obtain⟨k,hk,rfl,tZ⟩:=hrel
  have HN:=qC tZ
  clear tZ
  by_cases jF:k<12
  ·have qJL:(k:Int)<12:=by omega
   have qHO:=qA HC k jF
   cases he:((zI jX k).toList == s.toList)
   ·go_wp2
    go_round
    case rel=>exact⟨k+1,by omega,by go_num,qEd (qA HN) he⟩
    case measure=>simp[intOf];omega
   ·go_wp2
    go_ret
    exact⟨jL (qKa jX s k jF he).symm,jD⟩
  ·have qJL:¬(k:Int)<12:=by omega
   go_wp2
   go_ret
   exact⟨jL (qNJ jX s (fun j hj=>qA HN j (by have:jX.length=12:=rfl;omega))).symm,jD⟩
def yT(w:World)(g:Nat)(ws:List (List UInt8)):Prop:=∃ t fr,w.heap[g]? = some (.cells (gU ws) t fr)
theorem yT.later{w w':World}{g:Nat}{ws:List (List UInt8)}(h:yT w g ws)(hb:Below w.heap.size w w'):yT w' g ws:=by
 obtain⟨t,fr,h⟩:=h
 exact⟨t,fr,(hb.block g (Array.getElem?_eq_some_iff.1 h).1).trans h⟩
theorem yT.lt{w:World}{g:Nat}{ws:List (List UInt8)}(h:yT w g ws):g<w.heap.size:=by
 obtain⟨t,fr,h⟩:=h
 exact(Array.getElem?_eq_some_iff.1 h).1
theorem qHw(k:Nat)(hk:k<12)(w:World):(Instr.index 177 (.agg (gU jX)) (.int .i64 (k:Int))).run Tryz.prog w=.ok (.string (zI jX k)) w:=by
 obtain rfl | rfl | rfl | rfl | rfl | rfl | rfl | rfl | rfl | rfl | rfl | rfl:k=0∨k=1∨k=2∨k=3∨k=4∨k=5∨k=6∨k=7∨k=8∨k=9∨k=10∨k=11:=by omega
 all_goals kernel_rfl
theorem qJo(s:ByteArray)(w:World)(ht:Hid (yT w 1 jX)) :
  Calls Tryz.prog 122 #[.string s] w fun e w'=>e=.returned (.bool (pF s.data.toList))∧w'=w:=by
 obtain⟨tt,fr,hg⟩:=qA ht
 have HG:=qC hg
 clear hg
 go_enter Tryz.func122,Tryz.ntmps122
 go_wp2_with (refine wpList_load_row rfl 177 _ rfl 1 rfl tt (gU jX) fr _ (qA HG) Tryz.underlying177 rfl (by kernel_rfl) ?_)
 go_loop [6] (fun i=>∃ k:Nat,k≤12∧i=.int .i64 k∧(∀ j,j<k→((zI jX j).toList == s.toList)=false)) (fun i=>12-(intOf i).toNat)
 case atStart=>exact⟨0,by omega,rfl,fun j hj=>by omega⟩
 case round=>
  obtain⟨k,hk,rfl,tZ⟩:=hrel
  have HN:=qC tZ
  clear tZ
  by_cases jF:k<12
  ·have hle:(k:Int)<12:=by omega
   have hix:=qHw k jF
   cases he:((zI jX k).toList == s.toList)
   ·go_wp2
    go_round
    case rel=>exact⟨k+1,by omega,by go_num,qEd (qA HN) he⟩
    case measure=>simp[intOf];omega
   ·go_wp2
    go_ret
    exact⟨jL (qKa jX s k jF he).symm,rfl⟩
  ·have hle:¬(k:Int)<12:=by omega
   go_wp2
   go_ret
   exact⟨jL (qNJ jX s (fun j hj=>qA HN j (by have:jX.length=12:=rfl;omega))).symm,rfl⟩
end Go.Proofs.YtbgkfaclfnkloaaGreatDoor
