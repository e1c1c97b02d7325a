import Derived.Test.YtbgkfaclfnkloaaGreatDoorG06
import Derived.Test.YtbgkfaclfnkloaaGreatDoorG04
namespace Go.Proofs.YtbgkfaclfnkloaaGreatDoor
set_option linter.all false
set_option maxHeartbeats 4000000
set_option maxRecDepth 100000
section
open Go.RowKit
structure kR(g:Nat)(w w':World):Prop where
 os:w'.os=w.os
 tape:w'.tape=w.tape
 output:w'.output=w.output
 size:w.heap.size≤w'.heap.size
 block:∀ k,k<w.heap.size→k≠g→w'.heap[k]? = w.heap[k]?
theorem kR.refl(g:Nat)(w:World):kR g w w:=⟨rfl,rfl,rfl,Nat.le_refl _,fun _ _ _=>rfl⟩
theorem kR.trans{g:Nat}{a b c:World}(h:kR g a b)(k:kR g b c):kR g a c:=
 ⟨k.os.trans h.os,k.tape.trans h.tape,k.output.trans h.output,Nat.le_trans h.size k.size,fun i hi hg=>(k.block i (Nat.lt_of_lt_of_le hi h.size) hg).trans (h.block i hi hg)⟩
theorem kR.of_only{g:Nat}{w w':World}(h:wB g w w'):kR g w w':=⟨h.os,h.tape,h.output,by rw[h.size];exact Nat.le_refl _,fun k _ hk=>h.block k hk⟩
theorem kR.of_below{g:Nat}{w w':World}(h:Below w.heap.size w w'):kR g w w':=⟨h.os,h.tape,h.output,h.size,fun k hk _=>h.block k hk⟩
theorem kR.below{g B:Nat}{w w':World}(h:kR g w w')(hB:B≤g)(hg:g<w.heap.size):Below B w w':=⟨h.os,h.tape,h.output,h.size,fun k hk=>h.block k (by omega) (by omega)⟩
theorem kR.cell{g:Nat}{w w':World}(h:kR g w w'){b o:Nat}{v:Value}(hc:w.cell? ⟨b,o,none⟩=some v)(hb:b≠g):w'.cell? ⟨b,o,none⟩=some v:=
 (World.cell?_of_block (w:=w) (h.block b (World.block_lt_of_cell? _ _ hc) hb)).trans hc
structure St(g:Nat)(a:Option Addr)(len cap:Nat)(N:Int)(w:World):Prop where
 src:∃ n kZ,p6 w g a len cap n kZ∧n≤N
 row:mH w a len
 apart:0<len→∀ x,a=some x→¬x.block=g
 few:len≤1048577
theorem St.mono{g:Nat}{a:Option Addr}{len cap:Nat}{N M:Int}{w:World}(h:St g a len cap N w)(hm:N≤M):St g a len cap M w:=by
 obtain⟨n,s,h1,h2⟩:=h.src
 exact⟨⟨n,s,h1,by omega⟩,h.row,h.apart,h.few⟩
theorem St.lt{g:Nat}{a:Option Addr}{len cap:Nat}{N:Int}{w:World}(h:St g a len cap N w):g<w.heap.size:=by
 obtain⟨n,s,h1,h2⟩:=h.src
 exact World.block_lt_of_cell? _ _ h1.c0
theorem St.later{g:Nat}{a:Option Addr}{len cap:Nat}{N:Int}{w w':World}(h:St g a len cap N w)(hb:Below w.heap.size w w'):St g a len cap N w':=by
 obtain⟨n,s,h1,h2⟩:=h.src
 exact⟨⟨n,s,qL4 h1 hb,h2⟩,h.row.later hb,h.apart,h.few⟩
theorem St.alloc{g:Nat}{a:Option Addr}{len cap:Nat}{N:Int}{w:World}(h:St g a len cap N w)(o:Obj):St g a len cap N (w.alloc o):=h.later (qD w o)
def nm3(j:Nat):ByteArray:=if j=0 then ⟨#[120]⟩ else if j=1 then ⟨#[121]⟩ else ⟨#[112,97,116,104]⟩
def Nm(g:Nat)(w:World)(q:Nat):Prop:=q≠g∧∀ j,j<3→w.cell? ⟨q,j,none⟩=some (.string (nm3 j))
theorem Nm.keep{g q:Nat}{w w':World}(h:Nm g w q)(k:kR g w w'):Nm g w' q:=⟨h.1,fun j hj=>k.cell (h.2 j hj) h.1⟩
variable {g:Nat} {a:Option Addr} {len cap:Nat}
theorem dJ(N m:Int)(w:World)(h:St g a len cap N w)(hN:N≤900000000)(kM:1<m)(aK:m≤256) :
  Calls Tryz.prog 56 #[.pointer (some ⟨g,0,none⟩),.int .i64 m] w fun e w'=>∃ r:Int,e=.returned (.int .i64 r)∧0≤r∧r<m∧St g a len cap (N+1) w'∧kR g w w':=by
 obtain⟨n,kZ,h1,h2⟩:=h.src
 refine(qCh g a len cap n kZ m w h1 (by omega) h.few h.row h.apart kM aK).mono ?_
 rintro e w' ⟨r,s',rfl,r0,r1,hs,ho⟩
 exact⟨r,rfl,r0,r1,⟨⟨n+1,s',hs,by omega⟩,iI h.row ho h.apart,h.apart,h.few⟩,.of_only ho⟩
theorem qLA(N m:Int)(w:World)(h:St g a len cap N w)(hN:N≤900000000)(kM:1<m)(aK:m≤256) :
  Calls Tryz.prog 90 #[.pointer (some ⟨g,0,none⟩),.int .i64 m] w fun e w'=>∃ b:Bool,e=.returned (.bool b)∧St g a len cap (N+1) w'∧kR g w w':=by
 obtain⟨n,kZ,h1,h2⟩:=h.src
 refine(qH9 g a len cap n kZ m w h1 (by omega) h.few h.row h.apart kM aK).mono ?_
 rintro e w' ⟨b,s',rfl,hs,ho⟩
 exact⟨b,rfl,⟨⟨n+1,s',hs,by omega⟩,iI h.row ho h.apart,h.apart,h.few⟩,.of_only ho⟩
def qMP(cs:Array Value)(j:Nat):ByteArray:=match cs[j]? with
 | some (.string s)=>s
 | _=>⟨#[]⟩
theorem qKl(N:Int)(L M:Nat)(cs:Array Value)(w:World)(h:St g a len cap N w)(hN:N≤900000000)(hL1:1<L)(hL2:L≤256)(hc:cs.size=L)(hcs:∀ j,j<L→∃ s,cs[j]? = some (.string s)∧s.size≤M) :
  Calls Tryz.prog 55 #[.pointer (some ⟨g,0,none⟩),.slice (some ⟨w.heap.size,0,none⟩) L L] (w.alloc (.cells cs 9)) fun e w'=>∃ s:ByteArray,e=.returned (.string s)∧s.size≤M∧St g a len cap (N+1) w'∧kR g w w':=by
 have h':=h.alloc (.cells cs 9)
 have jF:=h.lt
 obtain⟨n,kZ,h1,h2⟩:=h'.src
 refine(qGj g a len cap n kZ w.heap.size L L (qMP cs) _ h1 (by omega) h'.few h'.row h'.apart (by omega) hL1 hL2 (fun j hj=>by
  obtain⟨s,hs,_⟩:=hcs j hj
  have:(w.alloc (.cells cs 9)).cell? ⟨w.heap.size,j,none⟩=cs[j]?:=by simp
  rw[this,hs]
  unfold qMP
  rw[hs])).mono ?_
 rintro e w' ⟨j,s',hj,rfl,hs,ho⟩
 refine⟨_,rfl,?_,⟨⟨n+1,s',hs,by omega⟩,iI h'.row ho h'.apart,h.apart,h.few⟩,(kR.of_below (qD w _)).trans (.of_only ho)⟩
 obtain⟨s,hs,hm⟩:=hcs j hj
 unfold qMP
 rw[hs]
 exact hm
def qE9(M:Nat):List Value→Bool
 | []=>true
 | .string s::r=>decide (s.size≤M)&&qE9 M r
 | _::_=>false
theorem qCG{M:Nat}:∀ {l:List Value},qE9 M l=true→∀ j,j<l.length→∃ s,l[j]? = some (.string s)∧s.size≤M
 | [],_,j,hj=>by simp at hj
 | v::r,h,j,hj=>by
  match v,h with
  | .string s,h=>
   simp only[qE9,Bool.and_eq_true,decide_eq_true_iff]at h
   cases j with
   | zero=>exact⟨s,rfl,h.1⟩
   | succ j=>
    obtain⟨s',h1,h2⟩:=qCG h.2 j (by simpa using hj)
    exact⟨s',by simpa using h1,h2⟩
theorem tQ(N:Int)(L M:Nat)(cs:Array Value)(w:World)(h:St g a len cap N w)(hN:N≤900000000)(hL1:1<L)(hL2:L≤256)(hc:cs.size=L)(sS:qE9 M cs.toList=true) :
  Calls Tryz.prog 55 #[.pointer (some ⟨g,0,none⟩),.slice (some ⟨w.heap.size,0,none⟩) L L] (w.alloc (.cells cs 9)) fun e w'=>∃ s:ByteArray,e=.returned (.string s)∧s.size≤M∧St g a len cap (N+1) w'∧kR g w w':=
 qKl N L M cs w h hN hL1 hL2 hc (fun j hj=>by
  obtain⟨s,h1,h2⟩:=qCG sS j (by simpa[hc]using hj)
  exact⟨s,by simpa using h1,h2⟩)
theorem qCp(N:Int)(q:Nat)(w:World)(h:St g a len cap N w)(hN:N≤900000000)(hq:Nm g w q) :
  Calls Tryz.prog 55 #[.pointer (some ⟨g,0,none⟩),.slice (some ⟨q,0,none⟩) 3 3] w fun e w'=>∃ s:ByteArray,e=.returned (.string s)∧s.size≤4∧St g a len cap (N+1) w'∧kR g w w':=by
 obtain⟨n,kZ,h1,h2⟩:=h.src
 refine(qGj g a len cap n kZ q 3 3 nm3 w h1 (by omega) h.few h.row h.apart hq.1 (by omega) (by omega) hq.2).mono ?_
 rintro e w' ⟨j,s',hj,rfl,hs,ho⟩
 refine⟨_,rfl,?_,⟨⟨n+1,s',hs,by omega⟩,iI h.row ho h.apart,h.apart,h.few⟩,.of_only ho⟩
 obtain rfl | rfl | rfl:j=0∨j=1∨j=2:=by omega
 all_goals decide
theorem cW(N r:Int)(w:World)(h:St g a len cap N w)(h0:0≤r)(h1:r≤9) :
  Calls Tryz.prog 35 #[.int .i64 r] w fun e w'=>∃ s:ByteArray,e=.returned (.string s)∧s.size≤11∧St g a len cap N w'∧kR g w w':=by
 refine(jW r w (by omega) (by omega)).mono ?_
 rintro e w' ⟨rfl,hb⟩
 refine⟨_,rfl,?_,h.later hb,.of_below hb⟩
 show(Lib.itoa r).toArray.size≤11
 unfold Lib.itoa
 rw[if_neg (by omega)]
 have:(Lib.decDigits r.toNat).length≤10:=qFd 9 _ (by omega)
 simp;omega
theorem qT4(N:Int)(w:World)(h:St g a len cap N w)(hN:N≤900000000) :
  Calls Tryz.prog 91 #[.pointer (some ⟨g,0,none⟩)] w fun e w'=>∃ s:ByteArray,e=.returned (.string s)∧s.size≤2∧St g a len cap (N+1) w'∧kR g w w':=by
 have H:=qC h
 clear h
 go_enter Tryz.func91,Tryz.ntmps91
 go_wp2_with fail
 refine(tQ N 7 2 _ _ (qA H) hN (by omega) (by omega) rfl rfl).mono ?_
 rintro e w1 ⟨s,rfl,hs,zX,hk⟩
 have S:=qC zX
 have K:=qC hk
 clear zX hk
 go_wp2
 go_ret
 exact⟨s,rfl,hs,qA S,qA K⟩
def qKd(g:Nat)(a:Option Addr)(len cap:Nat)(d:Int)(B:Nat)(D:Int):Prop:=∀ (N:Int) (q:Nat) (w:World),N+D≤800000000→St g a len cap N w→Nm g w q→
  Calls Tryz.prog 58 #[.pointer (some ⟨g,0,none⟩),.slice (some ⟨q,0,none⟩) 3 3,.int .i64 d] w fun e w'=>∃ s:ByteArray,e=.returned (.string s)∧s.size≤B∧St g a len cap (N+D) w'∧kR g w w'
theorem sz(l:Array UInt8):(⟨l⟩:ByteArray).size=l.size:=rfl
theorem qMc:qKd g a len cap 0 11 2:=by
 intro N q w hN sQ oA
 have S0:=qC sQ
 have M0:=qC oA
 have K0:=qC (kR.refl g w)
 clear sQ oA
 go_enter Tryz.func58,Tryz.ntmps58
 go_wp2_with fail
 refine(dJ _ 6 _ (qA S0) (by omega) (by omega) (by omega)).mono ?_
 rintro e w1 ⟨r,rfl,r0,r1,zX,hk⟩
 have S1:=qC zX
 have K1:=qC ((qA K0).trans hk)
 have M1:=qC ((qA M0).keep hk)
 clear zX hk
 obtain rfl | rfl | rfl | hr:r=0∨r=1∨r=2∨3≤r:=by omega
 ·go_wp2_with fail
  refine(tQ _ 6 6 _ _ (qA S1) (by omega) (by omega) (by omega) rfl rfl).mono ?_
  rintro e w2 ⟨s,rfl,hs,zX,hk⟩
  have S2:=qC zX
  have K2:=qC ((qA K1).trans hk)
  have M2:=qC ((qA M1).keep hk)
  clear zX hk
  go_wp2
  go_ret
  exact⟨_,rfl,(by first | omega | (simp only[ByteArray.size_append];omega) | (simp only[ByteArray.size_append,sz];simp;omega)),(qA S2).mono (by omega),qA K2⟩
 ·go_wp2_with fail
  refine(dJ _ 9 _ (qA S1) (by omega) (by omega) (by omega)).mono ?_
  rintro e w2 ⟨z,rfl,z0,z1,zX,hk⟩
  have S2:=qC zX
  have K2:=qC ((qA K1).trans hk)
  have M2:=qC ((qA M1).keep hk)
  clear zX hk
  go_wp2_with fail
  refine(cW _ _ _ (qA S2) z0 (by omega)).mono ?_
  rintro e w3 ⟨s,rfl,hs,zX,hk⟩
  have S3:=qC zX
  have K3:=qC ((qA K2).trans hk)
  have M3:=qC ((qA M2).keep hk)
  clear zX hk
  go_wp2
  go_ret
  exact⟨_,rfl,(by first | omega | (simp only[ByteArray.size_append];omega) | (simp only[ByteArray.size_append,sz];simp;omega)),(qA S3).mono (by omega),qA K3⟩
 ·go_wp2_with fail
  refine(dJ _ 9 _ (qA S1) (by omega) (by omega) (by omega)).mono ?_
  rintro e w2 ⟨z,rfl,z0,z1,zX,hk⟩
  have S2:=qC zX
  have K2:=qC ((qA K1).trans hk)
  have M2:=qC ((qA M1).keep hk)
  clear zX hk
  go_wp2_with fail
  refine(cW _ _ _ (qA S2) z0 (by omega)).mono ?_
  rintro e w3 ⟨s,rfl,hs,zX,hk⟩
  have S3:=qC zX
  have K3:=qC ((qA K2).trans hk)
  have M3:=qC ((qA M2).keep hk)
  clear zX hk
  go_wp2
  go_ret
  exact⟨_,rfl,(by first | omega | (simp only[ByteArray.size_append];omega) | (simp only[ByteArray.size_append,sz];simp;omega)),(qA S3).mono (by omega),qA K3⟩
 ·have q0:(r == 0)=false:=beq_eq_false_iff_ne.2 (by omega)
  have q1:(r == 1)=false:=beq_eq_false_iff_ne.2 (by omega)
  have q2:(r == 2)=false:=beq_eq_false_iff_ne.2 (by omega)
  go_wp2_with fail
  refine(qCp _ q _ (qA S1) (by omega) (qA M1)).mono ?_
  rintro e w2 ⟨s,rfl,hs,zX,hk⟩
  have S2:=qC zX
  have K2:=qC ((qA K1).trans hk)
  have M2:=qC ((qA M1).keep hk)
  clear zX hk
  go_wp2
  go_ret
  exact⟨_,rfl,(by first | omega | (simp only[ByteArray.size_append];omega) | (simp only[ByteArray.size_append,sz];simp;omega)),(qA S2).mono (by omega),qA K2⟩
theorem qEo(d:Int)(B:Nat)(D:Int)(hd0:1≤d)(hd1:d≤100)(hB:11≤B)(hB1:B≤1000)(hD:2≤D)(hD1:D≤1000)(HE:qKd g a len cap (d-1) B D):qKd g a len cap d (2*B+7) (2*D+3):=by
 intro N q w hN sQ oA
 have S0:=qC sQ
 have M0:=qC oA
 have K0:=qC (kR.refl g w)
 have HX:=qC HE
 have hz:(d == 0)=false:=beq_eq_false_iff_ne.2 (by omega)
 clear sQ oA HE
 go_enter Tryz.func58,Tryz.ntmps58
 go_wp2_with fail
 refine(qLA _ 3 _ (qA S0) (by omega) (by omega) (by omega)).mono ?_
 rintro e w1 ⟨b,rfl,zX,hk⟩
 have S1:=qC zX
 have K1:=qC ((qA K0).trans hk)
 have M1:=qC ((qA M0).keep hk)
 clear zX hk
 cases b
 ·go_wp2_with fail
  refine(qA HX _ q _ (by omega) (qA S1) (qA M1)).mono ?_
  rintro e w2 ⟨ea,rfl,hea,zX,hk⟩
  have S2:=qC zX
  have K2:=qC ((qA K1).trans hk)
  have M2:=qC ((qA M1).keep hk)
  clear zX hk
  go_wp2_with fail
  refine(qA HX _ q _ (by omega) (qA S2) (qA M2)).mono ?_
  rintro e w3 ⟨eb,rfl,heb,zX,hk⟩
  have S3:=qC zX
  have K3:=qC ((qA K2).trans hk)
  have M3:=qC ((qA M2).keep hk)
  clear zX hk
  go_wp2_with fail
  refine(dJ _ 9 _ (qA S3) (by omega) (by omega) (by omega)).mono ?_
  rintro e w4 ⟨r,rfl,r0,r1,zX,hk⟩
  have S4:=qC zX
  have K4:=qC ((qA K3).trans hk)
  have M4:=qC ((qA M3).keep hk)
  clear zX hk
  obtain rfl | rfl | rfl | rfl | rfl | rfl | hr:r=0∨r=1∨r=2∨r=3∨r=4∨r=5∨6≤r:=by omega
  ·go_wp2
   go_ret
   exact⟨_,rfl,(by first | omega | (simp only[ByteArray.size_append];omega) | (simp only[ByteArray.size_append,sz];simp;omega)),(qA S4).mono (by omega),qA K4⟩
  ·go_wp2_with fail
   refine(tQ _ 2 1 _ _ (qA S4) (by omega) (by omega) (by omega) rfl rfl).mono ?_
   rintro e w5 ⟨s,rfl,hs,zX,hk⟩
   have S5:=qC zX
   have K5:=qC ((qA K4).trans hk)
   have M5:=qC ((qA M4).keep hk)
   clear zX hk
   go_wp2
   go_ret
   exact⟨_,rfl,(by first | omega | (simp only[ByteArray.size_append];omega) | (simp only[ByteArray.size_append,sz];simp;omega)),(qA S5).mono (by omega),qA K5⟩
  ·go_wp2_with fail
   refine(tQ _ 2 4 _ _ (qA S4) (by omega) (by omega) (by omega) rfl rfl).mono ?_
   rintro e w5 ⟨s,rfl,hs,zX,hk⟩
   have S5:=qC zX
   have K5:=qC ((qA K4).trans hk)
   have M5:=qC ((qA M4).keep hk)
   clear zX hk
   go_wp2
   go_ret
   exact⟨_,rfl,(by first | omega | (simp only[ByteArray.size_append];omega) | (simp only[ByteArray.size_append,sz];simp;omega)),(qA S5).mono (by omega),qA K5⟩
  ·go_wp2_with fail
   refine(tQ _ 3 3 _ _ (qA S4) (by omega) (by omega) (by omega) rfl rfl).mono ?_
   rintro e w5 ⟨s,rfl,hs,zX,hk⟩
   have S5:=qC zX
   have K5:=qC ((qA K4).trans hk)
   have M5:=qC ((qA M4).keep hk)
   clear zX hk
   go_wp2
   go_ret
   exact⟨_,rfl,(by first | omega | (simp only[ByteArray.size_append];omega) | (simp only[ByteArray.size_append,sz];simp;omega)),(qA S5).mono (by omega),qA K5⟩
  ·go_wp2_with fail
   refine(tQ _ 3 3 _ _ (qA S4) (by omega) (by omega) (by omega) rfl rfl).mono ?_
   rintro e w5 ⟨s,rfl,hs,zX,hk⟩
   have S5:=qC zX
   have K5:=qC ((qA K4).trans hk)
   have M5:=qC ((qA M4).keep hk)
   clear zX hk
   go_wp2
   go_ret
   exact⟨_,rfl,(by first | omega | (simp only[ByteArray.size_append];omega) | (simp only[ByteArray.size_append,sz];simp;omega)),(qA S5).mono (by omega),qA K5⟩
  ·go_wp2
   go_ret
   exact⟨_,rfl,(by first | omega | (simp only[ByteArray.size_append];omega) | (simp only[ByteArray.size_append,sz];simp;omega)),(qA S4).mono (by omega),qA K4⟩
  ·have q0:(r == 0)=false:=beq_eq_false_iff_ne.2 (by omega)
   have q1:(r == 1)=false:=beq_eq_false_iff_ne.2 (by omega)
   have q2:(r == 2)=false:=beq_eq_false_iff_ne.2 (by omega)
   have q3:(r == 3)=false:=beq_eq_false_iff_ne.2 (by omega)
   have q4:(r == 4)=false:=beq_eq_false_iff_ne.2 (by omega)
   have q5:(r == 5)=false:=beq_eq_false_iff_ne.2 (by omega)
   go_wp2_with fail
   refine(qT4 _ _ (qA S4) (by omega)).mono ?_
   rintro e w5 ⟨s,rfl,hs,zX,hk⟩
   have S5:=qC zX
   have K5:=qC ((qA K4).trans hk)
   have M5:=qC ((qA M4).keep hk)
   clear zX hk
   go_wp2
   go_ret
   exact⟨_,rfl,(by first | omega | (simp only[ByteArray.size_append];omega) | (simp only[ByteArray.size_append,sz];simp;omega)),(qA S5).mono (by omega),qA K5⟩
 ·go_wp2_with fail
  refine(dJ _ 6 _ (qA S1) (by omega) (by omega) (by omega)).mono ?_
  rintro e w2 ⟨r,rfl,r0,r1,zX,hk⟩
  have S2:=qC zX
  have K2:=qC ((qA K1).trans hk)
  have M2:=qC ((qA M1).keep hk)
  clear zX hk
  obtain rfl | rfl | rfl | hr:r=0∨r=1∨r=2∨3≤r:=by omega
  ·go_wp2_with fail
   refine(tQ _ 6 6 _ _ (qA S2) (by omega) (by omega) (by omega) rfl rfl).mono ?_
   rintro e w3 ⟨s,rfl,hs,zX,hk⟩
   have S3:=qC zX
   have K3:=qC ((qA K2).trans hk)
   have M3:=qC ((qA M2).keep hk)
   clear zX hk
   go_wp2
   go_ret
   exact⟨_,rfl,(by first | omega | (simp only[ByteArray.size_append];omega) | (simp only[ByteArray.size_append,sz];simp;omega)),(qA S3).mono (by omega),qA K3⟩
  ·go_wp2_with fail
   refine(dJ _ 9 _ (qA S2) (by omega) (by omega) (by omega)).mono ?_
   rintro e w3 ⟨z,rfl,z0,z1,zX,hk⟩
   have S3:=qC zX
   have K3:=qC ((qA K2).trans hk)
   have M3:=qC ((qA M2).keep hk)
   clear zX hk
   go_wp2_with fail
   refine(cW _ _ _ (qA S3) z0 (by omega)).mono ?_
   rintro e w4 ⟨s,rfl,hs,zX,hk⟩
   have S4:=qC zX
   have K4:=qC ((qA K3).trans hk)
   have M4:=qC ((qA M3).keep hk)
   clear zX hk
   go_wp2
   go_ret
   exact⟨_,rfl,(by first | omega | (simp only[ByteArray.size_append];omega) | (simp only[ByteArray.size_append,sz];simp;omega)),(qA S4).mono (by omega),qA K4⟩
  ·go_wp2_with fail
   refine(dJ _ 9 _ (qA S2) (by omega) (by omega) (by omega)).mono ?_
   rintro e w3 ⟨z,rfl,z0,z1,zX,hk⟩
   have S3:=qC zX
   have K3:=qC ((qA K2).trans hk)
   have M3:=qC ((qA M2).keep hk)
   clear zX hk
   go_wp2_with fail
   refine(cW _ _ _ (qA S3) z0 (by omega)).mono ?_
   rintro e w4 ⟨s,rfl,hs,zX,hk⟩
   have S4:=qC zX
   have K4:=qC ((qA K3).trans hk)
   have M4:=qC ((qA M3).keep hk)
   clear zX hk
   go_wp2
   go_ret
   exact⟨_,rfl,(by first | omega | (simp only[ByteArray.size_append];omega) | (simp only[ByteArray.size_append,sz];simp;omega)),(qA S4).mono (by omega),qA K4⟩
  ·have q0:(r == 0)=false:=beq_eq_false_iff_ne.2 (by omega)
   have q1:(r == 1)=false:=beq_eq_false_iff_ne.2 (by omega)
   have q2:(r == 2)=false:=beq_eq_false_iff_ne.2 (by omega)
   go_wp2_with fail
   refine(qCp _ q _ (qA S2) (by omega) (qA M2)).mono ?_
   rintro e w3 ⟨s,rfl,hs,zX,hk⟩
   have S3:=qC zX
   have K3:=qC ((qA K2).trans hk)
   have M3:=qC ((qA M2).keep hk)
   clear zX hk
   go_wp2
   go_ret
   exact⟨_,rfl,(by first | omega | (simp only[ByteArray.size_append];omega) | (simp only[ByteArray.size_append,sz];simp;omega)),(qA S3).mono (by omega),qA K3⟩
theorem qBN:qKd g a len cap 2 65 17:=qEo 2 29 7 (by omega) (by omega) (by omega) (by omega) (by omega) (by omega) (qEo 1 11 2 (by omega) (by omega) (by omega) (by omega) (by omega) (by omega) qMc)
end
section
open Go.RowKit
variable {g:Nat} {a:Option Addr} {len cap:Nat}
def qFo(g:Nat)(a:Option Addr)(len cap:Nat)(d:Int)(B:Nat)(D:Int):Prop:=∀ (N:Int) (q:Nat) (w:World),N+D≤800000000→St g a len cap N w→Nm g w q→
  Calls Tryz.prog 57 #[.pointer (some ⟨g,0,none⟩),.slice (some ⟨q,0,none⟩) 3 3,.int .i64 d] w fun e w'=>∃ s:ByteArray,e=.returned (.string s)∧s.size≤B∧St g a len cap (N+D) w'∧kR g w w'
def qNz(g:Nat)(a:Option Addr)(len cap:Nat)(d:Int)(B:Nat)(D:Int):Prop:=∀ (N:Int) (q:Nat) (w:World),N+D≤800000000→St g a len cap N w→Nm g w q→
  Calls Tryz.prog 89 #[.pointer (some ⟨g,0,none⟩),.slice (some ⟨q,0,none⟩) 3 3,.int .i64 d] w fun e w'=>∃ s:ByteArray,e=.returned (.string s)∧s.size≤B∧St g a len cap (N+D) w'∧kR g w w'
theorem qIy:qFo g a len cap 0 70 18:=by
 intro N q w hN sQ oA
 have S0:=qC sQ
 have M0:=qC oA
 have K0:=qC (kR.refl g w)
 clear sQ oA
 go_enter Tryz.func57,Tryz.ntmps57
 go_wp2_with fail
 refine(qBN _ q _ (by omega) (qA S0) (qA M0)).mono ?_
 rintro e w1 ⟨ea,rfl,hea,zX,hk⟩
 have S1:=qC zX
 have K1:=qC ((qA K0).trans hk)
 have M1:=qC ((qA M0).keep hk)
 clear zX hk
 go_wp2_with fail
 refine(qKl _ 3 70 _ _ (qA S1) (by omega) (by omega) (by omega) rfl (fun j hj=>by
  obtain rfl | rfl | rfl:j=0∨j=1∨j=2:=by omega
  ·exact⟨_,rfl,by simp only[ByteArray.size_append,sz];simp;omega⟩
  ·exact⟨_,rfl,by simp only[ByteArray.size_append,sz];simp;omega⟩
  ·exact⟨_,rfl,by decide⟩)).mono ?_
 rintro e w2 ⟨s,rfl,hs,zX,hk⟩
 have S2:=qC zX
 have K2:=qC ((qA K1).trans hk)
 have M2:=qC ((qA M1).keep hk)
 clear zX hk
 go_wp2
 go_ret
 exact⟨_,rfl,(by first | omega | (simp only[ByteArray.size_append];omega) | (simp only[ByteArray.size_append,sz];simp;omega)),(qA S2).mono (by omega),qA K2⟩
theorem qBR(d:Int)(B:Nat)(D:Int)(hd0:1≤d)(hd1:d≤100)(hB1:B≤100000)(hD:0≤D)(hD1:D≤100000)(HE:qNz g a len cap (d-1) B D):qFo g a len cap d (2*B+165) (2*D+19):=by
 intro N q w hN sQ oA
 have S0:=qC sQ
 have M0:=qC oA
 have K0:=qC (kR.refl g w)
 have HX:=qC HE
 have hz:(d == 0)=false:=beq_eq_false_iff_ne.2 (by omega)
 clear sQ oA HE
 go_enter Tryz.func57,Tryz.ntmps57
 go_wp2_with fail
 refine(qBN _ q _ (by omega) (qA S0) (qA M0)).mono ?_
 rintro e w1 ⟨ea,rfl,hea,zX,hk⟩
 have S1:=qC zX
 have K1:=qC ((qA K0).trans hk)
 have M1:=qC ((qA M0).keep hk)
 clear zX hk
 go_wp2_with fail
 refine(qA HX _ q _ (by omega) (qA S1) (qA M1)).mono ?_
 rintro e w2 ⟨eb,rfl,heb,zX,hk⟩
 have S2:=qC zX
 have K2:=qC ((qA K1).trans hk)
 have M2:=qC ((qA M1).keep hk)
 clear zX hk
 go_wp2_with fail
 refine(dJ _ 10 _ (qA S2) (by omega) (by omega) (by omega)).mono ?_
 rintro e w3 ⟨r,rfl,r0,r1,zX,hk⟩
 have S3:=qC zX
 have K3:=qC ((qA K2).trans hk)
 have M3:=qC ((qA M2).keep hk)
 clear zX hk
 obtain rfl | rfl | rfl | rfl | rfl | rfl | rfl | rfl | rfl | hr:r=0∨r=1∨r=2∨r=3∨r=4∨r=5∨r=6∨r=7∨r=8∨9≤r:=by omega
 ·go_wp2
  go_ret
  exact⟨_,rfl,(by first | omega | (simp only[ByteArray.size_append];omega) | (simp only[ByteArray.size_append,sz];simp;omega)),(qA S3).mono (by omega),qA K3⟩
 ·go_wp2
  go_ret
  exact⟨_,rfl,(by first | omega | (simp only[ByteArray.size_append];omega) | (simp only[ByteArray.size_append,sz];simp;omega)),(qA S3).mono (by omega),qA K3⟩
 ·go_wp2_with fail
  refine(qA HX _ q _ (by omega) (qA S3) (qA M3)).mono ?_
  rintro e w4 ⟨ec,rfl,hec,zX,hk⟩
  have S4:=qC zX
  have K4:=qC ((qA K3).trans hk)
  have M4:=qC ((qA M3).keep hk)
  clear zX hk
  go_wp2
  go_ret
  exact⟨_,rfl,(by first | omega | (simp only[ByteArray.size_append];omega) | (simp only[ByteArray.size_append,sz];simp;omega)),(qA S4).mono (by omega),qA K4⟩
 ·go_wp2
  go_ret
  exact⟨_,rfl,(by first | omega | (simp only[ByteArray.size_append];omega) | (simp only[ByteArray.size_append,sz];simp;omega)),(qA S3).mono (by omega),qA K3⟩
 ·go_wp2_with fail
  refine(dJ _ 5 _ (qA S3) (by omega) (by omega) (by omega)).mono ?_
  rintro e w4 ⟨z,rfl,z0,z1,zX,hk⟩
  have S4:=qC zX
  have K4:=qC ((qA K3).trans hk)
  have M4:=qC ((qA M3).keep hk)
  clear zX hk
  go_wp2_with fail
  refine(cW _ _ _ (qA S4) (by omega) (by omega)).mono ?_
  rintro e w5 ⟨s,rfl,hs,zX,hk⟩
  have S5:=qC zX
  have K5:=qC ((qA K4).trans hk)
  have M5:=qC ((qA M4).keep hk)
  clear zX hk
  go_wp2
  go_ret
  exact⟨_,rfl,(by first | omega | (simp only[ByteArray.size_append];omega) | (simp only[ByteArray.size_append,sz];simp;omega)),(qA S5).mono (by omega),qA K5⟩
 ·go_wp2
  go_ret
  exact⟨_,rfl,(by first | omega | (simp only[ByteArray.size_append];omega) | (simp only[ByteArray.size_append,sz];simp;omega)),(qA S3).mono (by omega),qA K3⟩
 ·go_wp2
  go_ret
  exact⟨_,rfl,(by first | omega | (simp only[ByteArray.size_append];omega) | (simp only[ByteArray.size_append,sz];simp;omega)),(qA S3).mono (by omega),qA K3⟩
 ·go_wp2
  go_ret
  exact⟨_,rfl,(by first | omega | (simp only[ByteArray.size_append];omega) | (simp only[ByteArray.size_append,sz];simp;omega)),(qA S3).mono (by omega),qA K3⟩
 ·go_wp2
  go_ret
  exact⟨_,rfl,(by first | omega | (simp only[ByteArray.size_append];omega) | (simp only[ByteArray.size_append,sz];simp;omega)),(qA S3).mono (by omega),qA K3⟩
 ·have q0:(r == 0)=false:=beq_eq_false_iff_ne.2 (by omega)
  have q1:(r == 1)=false:=beq_eq_false_iff_ne.2 (by omega)
  have q2:(r == 2)=false:=beq_eq_false_iff_ne.2 (by omega)
  have q3:(r == 3)=false:=beq_eq_false_iff_ne.2 (by omega)
  have q4:(r == 4)=false:=beq_eq_false_iff_ne.2 (by omega)
  have q5:(r == 5)=false:=beq_eq_false_iff_ne.2 (by omega)
  have q6:(r == 6)=false:=beq_eq_false_iff_ne.2 (by omega)
  have q7:(r == 7)=false:=beq_eq_false_iff_ne.2 (by omega)
  have q8:(r == 8)=false:=beq_eq_false_iff_ne.2 (by omega)
  go_wp2
  go_ret
  exact⟨_,rfl,(by first | omega | (simp only[ByteArray.size_append];omega) | (simp only[ByteArray.size_append,sz];simp;omega)),(qA S3).mono (by omega),qA K3⟩
def qRb(g:Nat)(a:Option Addr)(len cap:Nat)(B:Nat)(D N:Int)(k z:Nat)(w:World):Prop:=
 (k=2∧z≤2∧St g a len cap (N+1) w)∨(k=1∧z≤3+B∧St g a len cap (N+1+D) w)∨(k=0∧z≤4+2*B∧St g a len cap (N+1+2*D) w)
theorem qDZ(d:Int)(B:Nat)(D:Int)(hB1:B≤100000)(hD:0≤D)(hD1:D≤100000)(HE:qFo g a len cap d B D):qNz g a len cap d (2*B+5) (2*D+1):=by
 intro N q w hN sQ oA
 have S0:=qC sQ
 have M0:=qC oA
 have K0:=qC (kR.refl g w)
 have HX:=qC HE
 clear sQ oA HE
 go_enter Tryz.func89,Tryz.ntmps89
 go_wp2_with fail
 refine(dJ _ 3 _ (qA S0) (by omega) (by omega) (by omega)).mono ?_
 rintro e w1 ⟨r,rfl,r0,r1,zX,hk⟩
 have S1:=qC zX
 have K1:=qC ((qA K0).trans hk)
 have M1:=qC ((qA M0).keep hk)
 clear zX hk
 obtain⟨k0,rfl⟩:=Int.eq_ofNat_of_zero_le r0
 have qO1:Hid (qRb g a len cap B D N k0 2 w1):=qC (by
  obtain rfl | rfl | rfl:k0=0∨k0=1∨k0=2:=by omega
  ·exact .inr (.inr ⟨rfl,by omega,(qA S1).mono (by omega)⟩)
  ·exact .inr (.inl ⟨rfl,by omega,(qA S1).mono (by omega)⟩)
  ·exact .inl ⟨rfl,by omega,qA S1⟩)
 have fH:k0≤2:=by omega
 go_wp2
 go_loopw[7,8] (fun m i wx=>∃ (k:Nat) (s:ByteArray),k≤2∧i=.int .i64 k∧m=.string s∧Hid (qRb g a len cap B D N k s.size wx)∧kR g w wx) (fun _ i _=>(intOf i).toNat)
 case atStart=>exact⟨k0,_,fH,rfl,rfl,qC (qA qO1),qA K1⟩
 case round=>
  clear qO1 fH r1
  obtain⟨k,s,hk,rfl,rfl,gG,hkp⟩:=hrel
  have M3:=qC ((qA M0).keep hkp)
  have K3:=qC hkp
  clear hkp
  rcases qA gG with ⟨rfl,hz,hs⟩ | ⟨rfl,hz,hs⟩ | ⟨rfl,hz,hs⟩
  ·have S3:=qC hs
   clear hs gG
   go_wp2_with fail
   refine(qA HX _ q _ (by omega) (qA S3) (qA M3)).mono ?_
   rintro e w4 ⟨ea,rfl,hea,zX,hk⟩
   have S4:=qC zX
   have K4:=qC ((qA K3).trans hk)
   have M4:=qC ((qA M3).keep hk)
   clear zX hk
   go_wp2
   go_roundw
   case rel=>exact⟨1,_,by omega,rfl,rfl,qC (.inr (.inl ⟨rfl,by simp only[ByteArray.size_append,sz];simp;omega,qA S4⟩)),qA K4⟩
   case measure=>simp[intOf]
  ·have S3:=qC hs
   clear hs gG
   go_wp2_with fail
   refine(qA HX _ q _ (by omega) (qA S3) (qA M3)).mono ?_
   rintro e w4 ⟨ea,rfl,hea,zX,hk⟩
   have S4:=qC zX
   have K4:=qC ((qA K3).trans hk)
   have M4:=qC ((qA M3).keep hk)
   clear zX hk
   go_wp2
   go_roundw
   case rel=>exact⟨0,_,by omega,rfl,rfl,qC (.inr (.inr ⟨rfl,by simp only[ByteArray.size_append,sz];simp;omega,(qA S4).mono (by omega)⟩)),qA K4⟩
   case measure=>simp[intOf]
  ·have S3:=qC hs
   clear hs gG
   go_wp2
   go_ret
   exact⟨_,rfl,by simp only[ByteArray.size_append,sz];simp;omega,(qA S3).mono (by omega),qA K3⟩
theorem oQ:qFo g a len cap 2 1995 393:=
 qBR 2 915 187 (by omega) (by omega) (by omega) (by omega) (by omega) (qDZ 1 455 93 (by omega) (by omega) (by omega) (qBR 1 145 37 (by omega) (by omega) (by omega) (by omega) (by omega) (qDZ 0 70 18 (by omega) (by omega) (by omega) qIy)))
end
end Go.Proofs.YtbgkfaclfnkloaaGreatDoor
