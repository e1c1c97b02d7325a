import Derived.Test.YtbgkfaclfnkloaaGreatDoorG34
import Derived.Test.YtbgkfaclfnkloaaGreatDoorG35
import Derived.Test.YtbgkfaclfnkloaaGreatDoorShelf
import Derived.Shelf.Slices.In.SortNone
import Derived.Sort.OwnSortedInts
namespace Go.Proofs.YtbgkfaclfnkloaaGreatDoor
set_option linter.all false
set_option maxHeartbeats 4000000
set_option maxRecDepth 100000
open Go.RowKit Go.Joins Go.Sort
theorem qR.sort{w:World}{base:Nat}{v:Value}{zs:List Int}(h:qR w base v zs)(hB:base≤w.heap.size)(hl:zs.length≤1000) :
  Calls Tryz.prog 19 #[v] w fun e w'=>e=.returned (.tuple #[])∧qR w' base v (zs.mergeSort fun x y=>decide (x≤y))∧Below base w w':=by
 obtain⟨hlen,⟨rfl,h0⟩ | ⟨g,cap,cur,rfl,hg,hb,h1,h2,h3,h4⟩⟩:=h
 ·obtain rfl:zs=[]:=List.length_eq_zero_iff.1 h0
  refine(Any.slices_Sort_int_none Tryz.lays189 none 0 w).mono ?_
  rintro e w' ⟨rfl,hw⟩
  rw[hw]
  exact⟨rfl,by simpa using qR.nil w base,Below.refl _ _⟩
 ·have hH:=holds_of_blockI (ss:=zs) hb (by simpa using h4)
  have hgs:g<w.heap.size:=(Array.getElem?_eq_some_iff.1 hb).1
  refine(Any.slices_Sort_int Tryz.lays189 g 0 cap zs w hH hgs (by omega)).mono ?_
  rintro e w' ⟨rfl,n,os,rfl⟩
  have hlm:(zs.mergeSort fun x y=>decide (x≤y)).length=zs.length:=by simp
  refine⟨rfl,?_,(Below.refl base w).grown (grownBy_sortedI _) hB (fun k hk=>by cases hk;exact hg)⟩
  have:=ownsRow_sortedI (n:=n) (os:=os) hlm hg hb h1 h2 h3
  unfold qR
  rw[hlm]
  exact this
theorem qGq(w:World):grow w #[]=w:=by
 cases w
 simp[grow]
theorem lH(d:Array Int):∀ m,(Lib.compactUpTo d m).length≤m
 | 0=>by simp[Lib.compactUpTo]
 | m+1=>by
  have:=lH d m
  rw[Lib.compactUpTo_succ]
  split <;> simp <;> omega
theorem qJh(zs:List Int):(Lib.compact zs).length≤zs.length:=by
 have:=lH zs.toArray zs.toArray.size
 simpa[Lib.compact]using this
theorem qR.compact{w:World}{base:Nat}{v:Value}{zs:List Int}(h:qR w base v zs)(hB:base≤w.heap.size)(hl:zs.length≤1000) :
  Calls Tryz.prog 20 #[v] w fun e w'=>∃ v',e=.returned v'∧qR w' base v' (Lib.compact zs)∧Below base w w':=by
 obtain⟨hlen,⟨rfl,h0⟩ | ⟨g,cap,cur,rfl,hg,hb,h1,h2,h3,h4⟩⟩:=h
 ·obtain rfl:zs=[]:=List.length_eq_zero_iff.1 h0
  refine(Any.slices_Compact_int_empty Tryz.laysNm220 none 0 w).mono ?_
  rintro e w' ⟨rfl,hw⟩
  rw[hw]
  exact⟨_,rfl,by simpa[Lib.compact,Lib.compactUpTo]using qR.nil w base,Below.refl _ _⟩
 ·have hH:=holds_of_blockI (ss:=zs) hb (by simpa using h4)
  have hgs:g<w.heap.size:=(Array.getElem?_eq_some_iff.1 hb).1
  have dZ:(Lib.compact zs).length≤zs.length:=qJh zs
  refine(Any.slices_Compact_int Tryz.laysNm220 g 0 cap zs w hH (by omega) h1).mono ?_
  rintro e w' ⟨rfl,n,rfl⟩
  have hgr:w.grownBy (putRow (Value.int .i64) (Sort.ahead w n) g 0 (Lib.compact zs++List.replicate (zs.length-(Lib.compact zs).length) 0).toArray) (some g):=by
   have:=grownBy_sortedI (w:=w) (g:=g) (n:=n) (os:=#[]) (Lib.compact zs++List.replicate (zs.length-(Lib.compact zs).length) 0).toArray
   rwa [qGq]at this
  have hhp:(putRow (Value.int .i64) (Sort.ahead w n) g 0 (Lib.compact zs++List.replicate (zs.length-(Lib.compact zs).length) 0).toArray).heap[g]? = some (.cells (putCells (Value.int .i64) 0 (Lib.compact zs++List.replicate (zs.length-(Lib.compact zs).length) 0).toArray cur) 3 (0,0)):=by
   have:=heap_sortedI (n:=n) (os:=#[]) (Lib.compact zs++List.replicate (zs.length-(Lib.compact zs).length) 0).toArray hb
   rwa [qGq]at this
  refine⟨_,rfl,⟨by simp,.inr ⟨g,cap,_,rfl,hg,hhp,by omega,h2,by simp[putCells,h3],?_⟩⟩,(Below.refl base w).grown hgr hB (fun k hk=>by cases hk;exact hg)⟩
  have ht:=take_putCellsI cur (Lib.compact zs++List.replicate (zs.length-(Lib.compact zs).length) 0) (by simp;omega)
  have h5:=congrArg (List.take (Lib.compact zs).length) ht
  rw[List.take_take]at h5
  simp at h5
  rw[Nat.mul_one,←h5]
end Go.Proofs.YtbgkfaclfnkloaaGreatDoor
