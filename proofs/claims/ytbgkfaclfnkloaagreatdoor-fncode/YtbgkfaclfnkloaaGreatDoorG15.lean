import Derived.Test.YtbgkfaclfnkloaaGreatDoorG14
import Derived.Laws.MakeOwn
import Derived.Lib.SmallJoins
namespace Go.Proofs.YtbgkfaclfnkloaaGreatDoor
set_option linter.all false
set_option maxHeartbeats 4000000
set_option maxRecDepth 100000
section
open Go.RowKit Go.Joins
structure rO where
 p:Option Addr
 cap:Nat
 pn:Nat→Option Addr
 cn:Nat→Nat
 pk:Nat→Option Addr
 ck:Nat→Nat
def qCx(w:World)(p:Option Addr)(ss:List ByteArray):Prop:=∀ i (h:i<ss.length),∃ b off,p=some ⟨b,off,none⟩∧w.cell? ⟨b,off+i,none⟩=some (.string ss[i])
def vD(w:World)(p:Option Addr)(zs:List Int):Prop:=∀ i (h:i<zs.length),∃ b off,p=some ⟨b,off,none⟩∧w.cell? ⟨b,off+i,none⟩=some (.int .i64 zs[i])
theorem qCx.later{w w':World}{p:Option Addr}{ss:List ByteArray}(h:qCx w p ss)(hb:Below w.heap.size w w'):qCx w' p ss:=fun i hi=>by
 obtain⟨b,off,rfl,h0⟩:=h i hi
 exact⟨b,off,rfl,cell_later hb h0⟩
theorem vD.later{w w':World}{p:Option Addr}{zs:List Int}(h:vD w p zs)(hb:Below w.heap.size w w'):vD w' p zs:=fun i hi=>by
 obtain⟨b,off,rfl,h0⟩:=h i hi
 exact⟨b,off,rfl,cell_later hb h0⟩
def uV(w:World)(L:rO)(ns:List TN):Prop:=∀ i (h:i<ns.length),∃ b off,L.p=some ⟨b,off,none⟩∧w.cell? ⟨b,off+i*5,none⟩=some (.int .i64 ns[i].k)∧w.cell? ⟨b,off+i*5+1,none⟩=some (.int .i64 ns[i].n)∧w.cell? ⟨b,off+i*5+2,none⟩=some (.string ns[i].t)∧w.cell? ⟨b,off+i*5+3,none⟩=some (.slice (L.pn i) ns[i].names.length (L.cn i))∧w.cell? ⟨b,off+i*5+4,none⟩=some (.slice (L.pk i) ns[i].kids.length (L.ck i))∧qCx w (L.pn i) ns[i].names∧vD w (L.pk i) ns[i].kids
theorem uV.later{w w':World}{L:rO}{ns:List TN}(h:uV w L ns)(hb:Below w.heap.size w w'):uV w' L ns:=fun i hi=>by
 obtain⟨b,off,hp,h0,h1,h2,h3,h4,h5,h6⟩:=h i hi
 exact⟨b,off,hp,cell_later hb h0,cell_later hb h1,cell_later hb h2,cell_later hb h3,cell_later hb h4,h5.later hb,h6.later hb⟩
def qRS(x:TN):Prop:=x.t.size≤1048576∧x.names.length≤1048576∧x.kids.length≤1048576∧∀ s∈x.names,s.size≤1048576
def sW(ns:List TN):Prop:=ns.length≤1048576∧∀ x∈ns,qRS x
structure zJ(B:Nat)(w w':World):Prop where
 os:w'.os=w.os
 tape:w'.tape=w.tape
 output:w'.output=w.output
 size:w.heap.size≤w'.heap.size
 block:∀ k,k<w.heap.size→k≠B→w'.heap[k]? = w.heap[k]?
theorem zJ.refl(B:Nat)(w:World):zJ B w w:=⟨rfl,rfl,rfl,Nat.le_refl _,fun _ _ _=>rfl⟩
theorem zJ.trans{B:Nat}{a b c:World}(h:zJ B a b)(k:zJ B b c):zJ B a c:=
 ⟨k.os.trans h.os,k.tape.trans h.tape,k.output.trans h.output,Nat.le_trans h.size k.size,fun i hi hB=>(k.block i (by have:=h.size;omega) hB).trans (h.block i hi hB)⟩
theorem zJ.of_below{B:Nat}{w w':World}(h:Below w.heap.size w w'):zJ B w w':=⟨h.os,h.tape,h.output,h.size,fun k hk _=>h.block k hk⟩
theorem zJ.then_below{B:Nat}{a b c:World}(h:zJ B a b)(k:Below b.heap.size b c):zJ B a c:=h.trans (.of_below k)
theorem zJ.below{B B0:Nat}{w w':World}(h:zJ B w w')(h0:B0≤B)(h1:B0≤w.heap.size):Below B0 w w':=⟨h.os,h.tape,h.output,h.size,fun k hk=>h.block k (by omega) (by omega)⟩
theorem zJ.alloc{B:Nat}{a b:World}(h:zJ B a b)(o:Obj):zJ B a (b.alloc o):=h.then_below (qD _ _)
theorem zJ.drew{B:Nat}{a b:World}(h:zJ B a b):zJ B a b.drew:=⟨h.os,h.tape,h.output,h.size,h.block⟩
theorem zJ.set_it{B:Nat}{a b:World}{o:Nat}{v:Value}(h:zJ B a b):zJ B a (b.setCell ⟨B,o,none⟩ v):=
 ⟨h.os,h.tape,h.output,by have:=h.size;simpa using this,fun k hk hB=>by rw[Below.heap_setCell b ⟨B,o,none⟩ v k hB];exact h.block k hk hB⟩
theorem zJ.cell{B:Nat}{w w':World}(h:zJ B w w'){b o:Nat}(hb:b<w.heap.size)(hB:b≠B):w'.cell? ⟨b,o,none⟩=w.cell? ⟨b,o,none⟩:=World.cell?_of_block (h.block b hb hB)
theorem qBl(s:ByteArray)(w:World):Calls Tryz.prog 123 #[.string s] w fun e w'=>e=.returned (.bool ((s.data.toList == [33])||(s.data.toList == [45])))∧w'=w:=by
 rw[←ByteArray.toList_eq]
 by_cases h:s.toList=[33]
 ·rw[show((s.toList == [33])||(s.toList == [45]))=true by simp[h]]
  go_enter Tryz.func123,Tryz.ntmps123
  go_wp2
  go_ret
  exact⟨rfl,rfl⟩
 have f:(s.toList == [33])=false:=beq_eq_false_iff_ne.2 h
 by_cases h2:s.toList=[45]
 ·rw[show((s.toList == [33])||(s.toList == [45]))=true by simp[h2]]
  go_enter Tryz.func123,Tryz.ntmps123
  go_wp2
  go_ret
  exact⟨rfl,rfl⟩
 have f2:(s.toList == [45])=false:=beq_eq_false_iff_ne.2 h2
 rw[f,f2]
 go_enter Tryz.func123,Tryz.ntmps123
 go_wp2
 go_ret
 exact⟨rfl,rfl⟩
def pR(l:List UInt8):Int:=
 if l=[124,124] then 1 else if l=[38,38] then 2 else if l=[60] then 3 else if l=[61,61] then 3 else if l=[43] then 4 else if l=[45] then 4 else if l=[42] then 5 else if l=[47] then 5 else if l=[37] then 5 else 0
theorem qNe(l:List UInt8):decide (2<pR l)=opB l:=by
 unfold pR opB
 by_cases h1:l=[124,124]
 ·subst h1;rfl
 by_cases h2:l=[38,38]
 ·subst h2;rfl
 by_cases h3:l=[60]
 ·subst h3;rfl
 by_cases h4:l=[61,61]
 ·subst h4;rfl
 by_cases h5:l=[43]
 ·subst h5;rfl
 by_cases h6:l=[45]
 ·subst h6;rfl
 by_cases h7:l=[42]
 ·subst h7;rfl
 by_cases h8:l=[47]
 ·subst h8;rfl
 by_cases h9:l=[37]
 ·subst h9;rfl
 simp[h1,h2,h3,h4,h5,h6,h7,h8,h9]
theorem rM(s:ByteArray)(w:World):Calls Tryz.prog 152 #[.string s] w fun e w'=>e=.returned (.int .i64 (pR s.data.toList))∧w'=w:=by
 rw[←ByteArray.toList_eq]
 by_cases h0:s.toList=[124,124]
 ·rw[show pR s.toList=1 by rw[h0];rfl]
  go_enter Tryz.func152,Tryz.ntmps152
  go_wp2
  go_ret
  exact⟨rfl,rfl⟩
 have f0:(s.toList == [124,124])=false:=beq_eq_false_iff_ne.2 h0
 by_cases h1:s.toList=[38,38]
 ·rw[show pR s.toList=2 by rw[h1];rfl]
  go_enter Tryz.func152,Tryz.ntmps152
  go_wp2
  go_ret
  exact⟨rfl,rfl⟩
 have f1:(s.toList == [38,38])=false:=beq_eq_false_iff_ne.2 h1
 by_cases h2:s.toList=[60]
 ·rw[show pR s.toList=3 by rw[h2];rfl]
  go_enter Tryz.func152,Tryz.ntmps152
  go_wp2
  go_ret
  exact⟨rfl,rfl⟩
 have f2:(s.toList == [60])=false:=beq_eq_false_iff_ne.2 h2
 by_cases h3:s.toList=[61,61]
 ·rw[show pR s.toList=3 by rw[h3];rfl]
  go_enter Tryz.func152,Tryz.ntmps152
  go_wp2
  go_ret
  exact⟨rfl,rfl⟩
 have f3:(s.toList == [61,61])=false:=beq_eq_false_iff_ne.2 h3
 by_cases h4:s.toList=[43]
 ·rw[show pR s.toList=4 by rw[h4];rfl]
  go_enter Tryz.func152,Tryz.ntmps152
  go_wp2
  go_ret
  exact⟨rfl,rfl⟩
 have f4:(s.toList == [43])=false:=beq_eq_false_iff_ne.2 h4
 by_cases h5:s.toList=[45]
 ·rw[show pR s.toList=4 by rw[h5];rfl]
  go_enter Tryz.func152,Tryz.ntmps152
  go_wp2
  go_ret
  exact⟨rfl,rfl⟩
 have f5:(s.toList == [45])=false:=beq_eq_false_iff_ne.2 h5
 by_cases h6:s.toList=[42]
 ·rw[show pR s.toList=5 by rw[h6];rfl]
  go_enter Tryz.func152,Tryz.ntmps152
  go_wp2
  go_ret
  exact⟨rfl,rfl⟩
 have f6:(s.toList == [42])=false:=beq_eq_false_iff_ne.2 h6
 by_cases h7:s.toList=[47]
 ·rw[show pR s.toList=5 by rw[h7];rfl]
  go_enter Tryz.func152,Tryz.ntmps152
  go_wp2
  go_ret
  exact⟨rfl,rfl⟩
 have f7:(s.toList == [47])=false:=beq_eq_false_iff_ne.2 h7
 by_cases h8:s.toList=[37]
 ·rw[show pR s.toList=5 by rw[h8];rfl]
  go_enter Tryz.func152,Tryz.ntmps152
  go_wp2
  go_ret
  exact⟨rfl,rfl⟩
 have f8:(s.toList == [37])=false:=beq_eq_false_iff_ne.2 h8
 rw[show pR s.toList=0 by simp[pR,h0,h1,h2,h3,h4,h5,h6,h7,h8]]
 go_enter Tryz.func152,Tryz.ntmps152
 go_wp2
 go_ret
 exact⟨rfl,rfl⟩
end
end Go.Proofs.YtbgkfaclfnkloaaGreatDoor
