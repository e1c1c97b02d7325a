import Derived.Test.YtbgkfaclfnkloaaGreatDoorG12
import Derived.Test.YtbgkfaclfnkloaaGreatDoorG05
import Derived.Test.YtbgkfaclfnkloaaGreatDoorG17
namespace Go.Proofs.YtbgkfaclfnkloaaGreatDoor
set_option linter.all false
set_option maxHeartbeats 4000000
set_option maxRecDepth 100000
section
open Go.RowKit
theorem qCW{w:World}{a:Option Addr}{len cap:Nat}{zs:List Int}(h:qNX .u8 w a len cap zs):mH w a len:=fun i hi=>by
 rcases h with ⟨_,rfl,_,_⟩ | ⟨x,rfl,hl,hm,hz,qHO,hwz⟩
 ·omega
 have cM:=qHO 0 (by omega)
 obtain⟨b,off,spot⟩:=x
 have qVZ:spot=none:=by simpa[Addr.add]using World.cell?_spot cM
 subst qVZ
 have hiz:i<zs.length:=by omega
 have hw:=bounds_u8 (hwz (zs.getD i 0) (by rw[List.getD_eq_getElem?_getD,List.getElem?_eq_getElem hiz];simp))
 refine⟨b,off,zs.getD i 0,rfl,?_,hw.1,hw.2⟩
 have h9:=qHO i hiz
 by_cases hj0:i=0
 ·rw[hj0]at h9 ⊢;simpa[Addr.add]using h9
 ·simpa[Addr.add,hj0]using h9
end
section
open Go.RowKit Go.Joins
theorem qCj(i n:Nat)(h:0<n):∃ m:Nat,((i:Nat):Int).tmod (n:Int)=(m:Int)∧m<n:=
 ⟨i % n,by rw[Int.tmod_eq_emod_of_nonneg (by omega)];norm_cast,Nat.mod_lt _ h⟩
theorem qNp(i n:Nat)(h:0<n):∃ m:Nat,((i:Nat):Int).tdiv (n:Int)=(m:Int)∧m≤i:=
 ⟨i / n,by rw[Int.tdiv_eq_ediv_of_nonneg (by omega)];norm_cast,Nat.div_le_self _ _⟩
theorem qXv(a:Option Addr)(len cap:Nat)(n:Nat)(w:World)(hlen:len≤1048576)(kF:mH w a len)(uJ:1≤n)(uX:n≤400) :
  Calls Tryz.prog 5 #[.slice a len cap,.int .i64 0,.int .i64 (n:Int)] w fun e w'=>∃ r:Nat,e=.returned (.int .i64 (r:Int))∧r<n∧Below w.heap.size w w':=by
 by_cases h1:n≤1
 ·have hi:(n:Int)≤1:=by omega
  go_enter Tryz.func5,Tryz.ntmps5
  go_wp2
  go_ret
  exact⟨0,rfl,by omega,Below.refl _ _⟩
 have hi:¬(n:Int)≤1:=by omega
 have cB:¬(n:Int)=0:=by omega
 by_cases hz:len=0
 ·subst hz
  go_enter Tryz.func5,Tryz.ntmps5
  go_wp2
  go_ret
  exact⟨0,rfl,by omega,Below.refl _ _⟩
 have e0:((len:Int) == 0)=false:=beq_eq_false_iff_ne.2 (by omega)
 have hle:¬(len:Int)=0:=by omega
 obtain⟨b,off,x,rfl,hx,hx0,hx1⟩:=kF 0 (by omega)
 have hx':w.cell? ⟨b,off,none⟩=some (.int .u8 x):=by simpa using hx
 obtain⟨m,kM,aK⟩:∃ m:Nat,(Int.tmod 1 (len:Int))=(m:Int)∧m<len:=by
  by_cases hl1:len=1
  ·exact⟨0,by rw[hl1];rfl,by omega⟩
  ·exact⟨1,Int.tmod_eq_of_lt (by omega) (by omega),by omega⟩
 obtain⟨b2,iX,y,qY,hy,hy0,hy1⟩:=kF m aK
 obtain⟨rfl,rfl⟩:=(by simpa using qY:b=b2∧off=iX)
 have hmi:(m:Int)<(len:Int):=by omega
 have hli:(0:Int)<(len:Int):=by omega
 have w1:IntKind.i64.wrap x=x:=by rw[IntKind.wrap_i64];omega
 have w2:IntKind.i64.wrap y=y:=by rw[IntKind.wrap_i64];omega
 have w3:IntKind.i64.wrap (x*31)=x*31:=by rw[IntKind.wrap_i64];omega
 have w4:IntKind.i64.wrap (x*31+y)=x*31+y:=by rw[IntKind.wrap_i64];omega
 have hq:(0:Int).tdiv (len:Int)=0:=Int.zero_tdiv _
 have hq0:(0:Int).tmod (len:Int)=0:=Int.zero_tmod _
 have qSw:∃ r:Nat,(x*31+y).tmod (n:Int)=(r:Int)∧r<n:=by
  refine⟨((x*31+y).tmod (n:Int)).toNat,?_,?_⟩
  ·have:=Int.tmod_nonneg (a:=x*31+y) (n:Int) (by omega)
   omega
  ·have h1:=Int.tmod_nonneg (a:=x*31+y) (n:Int) (by omega)
   have h2:=Int.tmod_lt_of_pos (x*31+y) (show(0:Int)<(n:Int) by omega)
   omega
 clear kF qY hx
 go_enter Tryz.func5,Tryz.ntmps5
 go_wp2_with fail
 go_quiet (fail)
 go_wp2
 obtain⟨r,eA,iU⟩:=qSw
 go_ret
 exact⟨r,by rw[←eA];simp[Int.tmod_eq_emod_of_nonneg (show 0≤x*31+y by omega)],iU,below_drewN (Below.refl _ _) _⟩
theorem qXn(a:Option Addr)(len cap:Nat)(n:Nat)(w:World)(hlen:len≤1048576)(kF:mH w a len)(uJ:1≤n)(uX:n≤400) :
  Calls Tryz.prog 5 #[.slice a len cap,.int .i64 1,.int .i64 (n:Int)] w fun e w'=>∃ r:Nat,e=.returned (.int .i64 (r:Int))∧r<n∧Below w.heap.size w w':=by
 by_cases h1:n≤1
 ·have hi:(n:Int)≤1:=by omega
  go_enter Tryz.func5,Tryz.ntmps5
  go_wp2
  go_ret
  exact⟨0,rfl,by omega,Below.refl _ _⟩
 have hi:¬(n:Int)≤1:=by omega
 have cB:¬(n:Int)=0:=by omega
 by_cases hz:len=0
 ·subst hz
  obtain⟨r,eA,iU⟩:∃ r:Nat,(7:Int).tmod (n:Int)=(r:Int)∧r<n:=qCj 7 n (by omega)
  go_enter Tryz.func5,Tryz.ntmps5
  go_wp2
  go_ret
  exact⟨r,by rw[←eA];simp,iU,Below.refl _ _⟩
 have e0:((len:Int) == 0)=false:=beq_eq_false_iff_ne.2 (by omega)
 have hle:¬(len:Int)=0:=by omega
 obtain⟨m1,kM,hl1⟩:∃ m:Nat,(1:Int).tmod (len:Int)=(m:Int)∧m<len:=qCj 1 len (by omega)
 obtain⟨m2,aK,hl2⟩:∃ m:Nat,(2:Int).tmod (len:Int)=(m:Int)∧m<len:=qCj 2 len (by omega)
 obtain⟨q,hq,hq1⟩:∃ q:Nat,(1:Int).tdiv (len:Int)=(q:Int)∧q≤1:=qNp 1 len (by omega)
 obtain⟨b,off,x,rfl,hx,hx0,hx1⟩:=kF m1 hl1
 obtain⟨b2,iX,y,qY,hy,hy0,hy1⟩:=kF m2 hl2
 obtain⟨rfl,rfl⟩:=(by simpa using qY:b=b2∧off=iX)
 have hmi:(m1:Int)<(len:Int):=by omega
 have hmj:(m2:Int)<(len:Int):=by omega
 have w1:IntKind.i64.wrap x=x:=by rw[IntKind.wrap_i64];omega
 have w2:IntKind.i64.wrap y=y:=by rw[IntKind.wrap_i64];omega
 have w3:IntKind.i64.wrap (x*31)=x*31:=by rw[IntKind.wrap_i64];omega
 have w4:IntKind.i64.wrap (x*31+y)=x*31+y:=by rw[IntKind.wrap_i64];omega
 have w5:IntKind.i64.wrap (x*31+y+(q:Int))=x*31+y+(q:Int):=by rw[IntKind.wrap_i64];omega
 have w6:IntKind.i64.wrap (q:Int)=(q:Int):=by rw[IntKind.wrap_i64];omega
 have w7:IntKind.i64.wrap (m1:Int)=(m1:Int):=by rw[IntKind.wrap_i64];omega
 have w8:IntKind.i64.wrap (m2:Int)=(m2:Int):=by rw[IntKind.wrap_i64];omega
 have qSw:∃ r:Nat,(x*31+y+(q:Int)).tmod (n:Int)=(r:Int)∧r<n:=by
  refine⟨((x*31+y+(q:Int)).tmod (n:Int)).toNat,?_,?_⟩
  ·have:=Int.tmod_nonneg (a:=x*31+y+(q:Int)) (n:Int) (by omega)
   omega
  ·have h1:=Int.tmod_nonneg (a:=x*31+y+(q:Int)) (n:Int) (by omega)
   have h2:=Int.tmod_lt_of_pos (x*31+y+(q:Int)) (show(0:Int)<(n:Int) by omega)
   omega
 clear kF qY
 go_enter Tryz.func5,Tryz.ntmps5
 go_wp2_with fail
 go_quiet (fail)
 go_wp2
 obtain⟨r,eA,iU⟩:=qSw
 go_ret
 exact⟨r,by rw[←eA];simp[Int.tmod_eq_emod_of_nonneg (show 0≤x*31+y+(q:Int) by omega)],iU,below_drewN (Below.refl _ _) _⟩
theorem qE7(p q:Option Addr)(c d:Nat)(zs:List Int)(w:World)(ha:vD w p zs)(hb:vD w q zs)(hl:zs.length≤1000) :
  Calls Tryz.prog 14 #[.slice p zs.length c,.slice q zs.length d] w fun e w'=>e=.returned (.bool true)∧Below w.heap.size w w':=by
 have HA:=qC ha
 have HB:=qC hb
 clear ha hb
 go_enter Tryz.func14,Tryz.ntmps14
 go_wp2
 go_loopw[5] (fun i wx=>∃ k:Nat,k≤zs.length∧i=.int .i64 k∧Below w.heap.size w wx) (fun i _=>zs.length-(intOf i).toNat)
 case atStart=>exact⟨0,by omega,rfl,Below.refl _ _⟩
 case round=>
  obtain⟨k,hk,rfl,uL⟩:=hrel
  by_cases jF:k<zs.length
  ·obtain⟨b,off,rfl,q0⟩:=(qA HA).later uL k jF
   obtain⟨b',qC4,rfl,r0⟩:=(qA HB).later uL k jF
   generalize zs[k]=z at q0 r0
   have aX:(k:Int)<(zs.length:Int):=by omega
   go_wp2_with fail
   go_quiet (fail)
   go_wp2
   go_roundw
   case rel=>exact⟨k+1,by omega,by go_num,below_drewN uL _⟩
   case measure=>simp[intOf];omega
  ·go_wp2
   go_ret
   exact⟨rfl,uL⟩
end
end Go.Proofs.YtbgkfaclfnkloaaGreatDoor
