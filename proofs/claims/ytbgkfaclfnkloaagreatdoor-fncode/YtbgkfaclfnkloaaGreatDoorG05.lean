import Derived.Test.YtbgkfaclfnkloaaGreatDoorG03
import Derived.Deep.QuietTactic
import Derived.BigQuiet
import Derived.RegionTactic
import Derived.ChangeAlike
namespace Go.Proofs.YtbgkfaclfnkloaaGreatDoor
set_option linter.all false
set_option maxHeartbeats 4000000
set_option maxRecDepth 100000
open Go.RowKit
def mH(w:World)(a:Option Addr)(len:Nat):Prop:=∀ i,i<len→∃ (b off:Nat) (c:Int),a=some ⟨b,off,none⟩∧w.cell? ⟨b,off+i,none⟩=some (.int .u8 c)∧0≤c∧c≤255
theorem mH.later{w w':World}{a:Option Addr}{len:Nat}(h:mH w a len)(hb:Below w.heap.size w w'):mH w' a len:=fun i hi=>by
 obtain⟨b,off,c,h1,h2,h3⟩:=h i hi
 exact⟨b,off,c,h1,cell_later hb h2,h3⟩
structure p6(w:World)(g:Nat)(a:Option Addr)(len cap:Nat)(at' kZ:Int):Prop where
 c0:w.cell? ⟨g,0,none⟩=some (.slice a len cap)
 c1:w.cell? ⟨g,1,none⟩=some (.int .i64 at')
 c2:w.cell? ⟨g,2,none⟩=some (.int .i64 kZ)
 z1:w.frozen? ⟨g,1,none⟩=false
 z2:w.frozen? ⟨g,2,none⟩=false
 s0:0≤kZ
 s1:kZ<2147483648
 a0:0≤at'
 a1:at'≤1000000000
structure wB(g:Nat)(w w':World):Prop where
 os:w'.os=w.os
 tape:w'.tape=w.tape
 output:w'.output=w.output
 size:w'.heap.size=w.heap.size
 block:∀ k,k≠g→w'.heap[k]? = w.heap[k]?
theorem wB.refl(g:Nat)(w:World):wB g w w:=⟨rfl,rfl,rfl,rfl,fun _ _=>rfl⟩
theorem wB.drew{g:Nat}{w w':World}(h:wB g w w'):wB g w w'.drew:=⟨h.os,h.tape,h.output,h.size,h.block⟩
theorem wB.set{g o:Nat}{w w':World}{v:Value}(h:wB g w w'):wB g w (w'.setCell ⟨g,o,none⟩ v):=
 ⟨h.os,h.tape,h.output,by simp[h.size],fun k hk=>(Below.heap_setCell w' ⟨g,o,none⟩ v k hk).trans (h.block k hk)⟩
theorem qFh{w:World}{g:Nat}{a:Option Addr}{len cap:Nat}{n kZ:Int}(h:p6 w g a len cap n kZ)(hn:n+1≤1000000000):p6 (w.setCell ⟨g,1,none⟩ (.int .i64 (n+1))) g a len cap (n+1) kZ where
 c0:=by rw[World.cell?_setCell_other _ _ _ _ (by simp)];exact h.c0
 c1:=World.cell?_setCell_same' _ _ _ (by rw[h.c1];rfl)
 c2:=by rw[World.cell?_setCell_other _ _ _ _ (by simp)];exact h.c2
 z1:=by simpa using h.z1
 z2:=by simpa using h.z2
 s0:=h.s0
 s1:=h.s1
 a0:=by have:=h.a0;omega
 a1:=hn
theorem qKi{w:World}{g:Nat}{a:Option Addr}{len cap:Nat}{n kZ s':Int}(h:p6 w g a len cap n kZ)(h0:0≤s')(h1:s'<2147483648):p6 (w.setCell ⟨g,2,none⟩ (.int .i64 s')) g a len cap n s' where
 c0:=by rw[World.cell?_setCell_other _ _ _ _ (by simp)];exact h.c0
 c1:=by rw[World.cell?_setCell_other _ _ _ _ (by simp)];exact h.c1
 c2:=World.cell?_setCell_same' _ _ _ (by rw[h.c2];rfl)
 z1:=by simpa using h.z1
 z2:=by simpa using h.z2
 s0:=h0
 s1:=h1
 a0:=h.a0
 a1:=h.a1
theorem lG{w:World}{g:Nat}{a:Option Addr}{len cap:Nat}{n kZ:Int}(h:p6 w g a len cap n kZ):p6 w.drew g a len cap n kZ:=⟨h.c0,h.c1,h.c2,h.z1,h.z2,h.s0,h.s1,h.a0,h.a1⟩
def qGA(g:Nat)(a:Option Addr)(len cap:Nat)(n:Int)(w:World)(top:Int)(e:Ending)(w':World):Prop:=
 ∃ r s',e=.returned (.int .i64 r)∧0≤r∧r<top∧p6 w' g a len cap (n+1) s'∧wB g w w'
theorem qLF(g:Nat)(a:Option Addr)(len cap:Nat)(n kZ:Int)(w:World)(h:p6 w g a len cap n kZ)(hl:(len:Int)<n+1)(h3:3000<n+1)(hn:n+1≤1000000000) :
  Calls Tryz.prog 88 #[.pointer (some ⟨g,0,none⟩)] w fun e w'=>qGA g a len cap n w 256 e w':=by
 have H:=qC h
 obtain⟨c0,c1,c2,z1,z2,s0,s1,a0,a1⟩:=h
 go_enter Tryz.func88,Tryz.ntmps88
 go_wp2
 go_region
 all_goals go_wp2
 all_goals
  go_ret
  exact⟨0,kZ,rfl,by omega,by omega,lG (qFh (qA H) hn),(wB.refl _ _).set.drew⟩
theorem qKT(g:Nat)(a:Option Addr)(len cap:Nat)(n kZ:Int)(w:World)(h:p6 w g a len cap n kZ)(hl:(len:Int)<n+1)(h3:n+1≤3000) :
  Calls Tryz.prog 88 #[.pointer (some ⟨g,0,none⟩)] w fun e w'=>qGA g a len cap n w 256 e w':=by
 have H:=qC h
 obtain⟨c0,c1,c2,z1,z2,s0,s1,a0,a1⟩:=h
 go_enter Tryz.func88,Tryz.ntmps88
 go_wp2
 go_region
 all_goals go_wp2
 all_goals
  go_ret
  exact⟨_,_,rfl,Int.emod_nonneg _ (by omega),Int.emod_lt_of_pos _ (by omega),lG (qKi (qFh (qA H) (by omega)) (Int.emod_nonneg _ (by omega)) (Int.emod_lt_of_pos _ (by omega))),(wB.refl _ _).set.set.drew⟩
theorem qL0(g b off len cap:Nat)(n kZ c:Int)(w:World)(h:p6 w g (some ⟨b,off,none⟩) len cap n kZ)(hl:n+1≤(len:Int))(hlen:(len:Int)≤1048577)(hb:¬b=g)(fR:¬g=b)
  (hc:w.cell? ⟨b,off+n.toNat,none⟩=some (.int .u8 c)) (c0':0≤c) (xB:c≤255) :
  Calls Tryz.prog 88 #[.pointer (some ⟨g,0,none⟩)] w fun e w'=>qGA g (some ⟨b,off,none⟩) len cap n w 256 e w':=by
 have H:=qC h
 obtain⟨c0,c1,c2,z1,z2,s0,s1,a0,a1⟩:=h
 have jF:n<(len:Int):=by omega
 have hw1:IntKind.i64.wrap (n+1-1)=n:=by rw[IntKind.wrap_i64];omega
 have hw2:IntKind.i64.wrap n=n:=by rw[IntKind.wrap_i64];omega
 have hw3:IntKind.i64.wrap (kZ*31)=kZ*31:=by rw[IntKind.wrap_i64];omega
 have hw4:IntKind.i64.wrap (kZ*31+c)=kZ*31+c:=by rw[IntKind.wrap_i64];omega
 have hw5:IntKind.i64.wrap (kZ*31+c+7)=kZ*31+c+7:=by rw[IntKind.wrap_i64];omega
 have hw6:IntKind.i64.wrap c=c:=by rw[IntKind.wrap_i64];omega
 go_enter Tryz.func88,Tryz.ntmps88
 go_wp2
 go_region
 all_goals go_wp2
 go_region
 all_goals go_wp2
 go_region
 all_goals go_wp2
 all_goals
  go_ret
  exact⟨c,_,rfl,c0',by omega,lG (lG (lG (qKi (qFh (qA H) (by omega)) (Int.emod_nonneg _ (by omega)) (Int.emod_lt_of_pos _ (by omega))))),(wB.refl _ _).set.set.drew.drew.drew⟩
theorem qNZ(g:Nat)(a:Option Addr)(len cap:Nat)(n kZ:Int)(w:World)(h:p6 w g a len cap n kZ)(hn:n+1≤1000000000)(hlen:len≤1048577)(kF:mH w a len)(hg:0<len→∀ x,a=some x→¬x.block=g) :
  Calls Tryz.prog 88 #[.pointer (some ⟨g,0,none⟩)] w fun e w'=>qGA g a len cap n w 256 e w':=by
 by_cases hl:(len:Int)<n+1
 ·by_cases h3:n+1≤3000
  ·exact qKT g a len cap n kZ w h hl h3
  ·exact qLF g a len cap n kZ w h hl (by omega) hn
 have h0:=h.a0
 obtain⟨b,off,c,rfl,hc,cM,xZ⟩:=kF n.toNat (by omega)
 have hb:=hg (by omega) _ rfl
 exact qL0 g b off len cap n kZ c w h (by omega) (by omega) hb (fun e=>hb e.symm) hc cM xZ
theorem qEk{g:Nat}{w w':World}(h:wB g w w'){b o:Nat}(hb:b≠g):w'.cell? ⟨b,o,none⟩=w.cell? ⟨b,o,none⟩:=World.cell?_of_block (w:=w) (h.block b hb)
theorem qCh(g:Nat)(a:Option Addr)(len cap:Nat)(n kZ m:Int)(w:World)(h:p6 w g a len cap n kZ)(hn:n+1≤1000000000)(hlen:len≤1048577)(kF:mH w a len)(hg:0<len→∀ x,a=some x→¬x.block=g)(kM:1<m)(aK:m≤256) :
  Calls Tryz.prog 56 #[.pointer (some ⟨g,0,none⟩),.int .i64 m] w fun e w'=>qGA g a len cap n w m e w':=by
 have HB:=qC (qNZ g a len cap n kZ w h hn hlen kF hg)
 clear h kF hg
 go_enter Tryz.func56,Tryz.ntmps56
 go_wp2_with fail
 refine(qA HB).mono ?_
 rintro e w1 ⟨r,s',rfl,ra,rb,hs,ho⟩
 have HS:=qC hs
 have HO:=qC ho
 clear hs ho HB
 go_wp2
 go_ret
 exact⟨_,s',rfl,Int.emod_nonneg _ (by omega),Int.emod_lt_of_pos _ (by omega),qA HS,qA HO⟩
theorem qH9(g:Nat)(a:Option Addr)(len cap:Nat)(n kZ m:Int)(w:World)(h:p6 w g a len cap n kZ)(hn:n+1≤1000000000)(hlen:len≤1048577)(kF:mH w a len)(hg:0<len→∀ x,a=some x→¬x.block=g)(kM:1<m)(aK:m≤256) :
  Calls Tryz.prog 90 #[.pointer (some ⟨g,0,none⟩),.int .i64 m] w fun e w'=>∃ (b:Bool) (s':Int),e=.returned (.bool b)∧p6 w' g a len cap (n+1) s'∧wB g w w':=by
 have HB:=qC (qCh g a len cap n kZ m w h hn hlen kF hg kM aK)
 clear h kF hg
 go_enter Tryz.func90,Tryz.ntmps90
 go_wp2_with fail
 refine(qA HB).mono ?_
 rintro e w1 ⟨r,s',rfl,ra,rb,hs,ho⟩
 have HS:=qC hs
 have HO:=qC ho
 clear hs ho HB
 go_wp2
 all_goals
  go_ret
  exact⟨_,s',rfl,qA HS,qA HO⟩
theorem qGj(g:Nat)(a:Option Addr)(len cap:Nat)(n kZ:Int)(q L qc:Nat)(ts:Nat→ByteArray)(w:World)(h:p6 w g a len cap n kZ)(hn:n+1≤1000000000)(hlen:len≤1048577)(kF:mH w a len)(hg:0<len→∀ x,a=some x→¬x.block=g)(hq:q≠g)(hL1:1<L)(hL2:L≤256)
  (fE:∀ j,j<L→w.cell? ⟨q,j,none⟩=some (.string (ts j))) :
  Calls Tryz.prog 55 #[.pointer (some ⟨g,0,none⟩),.slice (some ⟨q,0,none⟩) L qc] w fun e w'=>∃ (j:Nat) (s':Int),j<L∧e=.returned (.string (ts j))∧p6 w' g a len cap (n+1) s'∧wB g w w':=by
 have HB:=qC (qCh g a len cap n kZ (L:Int) w h hn hlen kF hg (by omega) (by omega))
 have HT:=qC fE
 have e0:((L:Int) == 0)=false:=beq_eq_false_iff_ne.2 (by omega)
 clear h kF hg fE
 go_enter Tryz.func55,Tryz.ntmps55
 go_wp2_with fail
 refine(qA HB).mono ?_
 rintro e w1 ⟨r,s',rfl,ra,rb,hs,ho⟩
 obtain⟨j,rfl⟩:=Int.eq_ofNat_of_zero_le ra
 have hj:j<L:=by omega
 have hc:w1.cell? ⟨q,j,none⟩=some (.string (ts j)):=(qEk ho hq).trans (qA HT j hj)
 have HS:=qC hs
 have HO:=qC ho
 clear hs ho HB HT
 go_wp2
 go_ret
 exact⟨j,s',hj,rfl,qA HS,qA HO⟩
end Go.Proofs.YtbgkfaclfnkloaaGreatDoor
