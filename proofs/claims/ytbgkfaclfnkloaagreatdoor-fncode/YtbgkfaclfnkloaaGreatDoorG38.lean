import Derived.Test.YtbgkfaclfnkloaaGreatDoorG33
import Derived.Deep.LoopGhost
import Derived.StillTailTactics
namespace Go.Proofs.YtbgkfaclfnkloaaGreatDoor
set_option linter.all false
set_option maxHeartbeats 4000000
set_option maxRecDepth 100000
section
open Go.RowKit Go.Joins
theorem qN8(z:Value)(n i:Nat)(h:i<n):(madeCells #[z] n)[i]? = some z:=by
 unfold madeCells
 rw[Array.getElem?_map,Array.getElem?_range,if_pos h]
 simp[Nat.mod_one]
theorem kK.made{w:World}{g n:Nat}(h:w.heap[g]? = some (.cells (madeCells #[.int .i64 0] n) 3 (0,0))):kK w g n (fun _=>0):=
 ⟨_,h,size_madeCells _ _,fun i hi=>qN8 _ _ _ hi⟩
structure qAD(w:World)(X hb tb:Nat)(f:FR)(pc:Option Addr)(cc:Nat)(hf:Nat→Int):Prop where
 box:w.heap[X]? = some (.cells #[.string f.name,.int .i64 (f.params:Int),.int .i64 (f.slots:Int),.slice pc f.code.length cc,.slice (some ⟨hb,0,none⟩) f.code.length f.code.length,.slice (some ⟨tb,0,none⟩) f.code.length f.code.length,.bool true,.int .i64 0] 63 (0,0))
 hi:kK w hb f.code.length hf
 tr:kK w tb f.code.length (fun _=>0)
 n1:X≠hb
 n2:X≠tb
 n3:hb≠tb
theorem mW(w:World)(z a b c:Obj):((((w.alloc z).alloc a).alloc b).alloc c).drew.heap[w.heap.size]? = some z∧((((w.alloc z).alloc a).alloc b).alloc c).drew.heap[w.heap.size+1]? = some a∧((((w.alloc z).alloc a).alloc b).alloc c).drew.heap[w.heap.size+2]? = some b∧((((w.alloc z).alloc a).alloc b).alloc c).drew.heap[w.heap.size+3]? = some c∧((((w.alloc z).alloc a).alloc b).alloc c).drew.heap.size=w.heap.size+4:=by
 obtain⟨h1,h2,h3,h4⟩:=qIs (w.alloc z) a b c
 have s1:(w.alloc z).heap.size=w.heap.size+1:=by simp
 rw[s1]at h1 h2 h3 h4
 refine⟨?_,h1,h2,h3,h4⟩
 have:((((w.alloc z).alloc a).alloc b).alloc c).drew.heap[w.heap.size]? = (w.alloc z).heap[w.heap.size]?:=(qF (qG (qG (qD (w.alloc z) a)))).block _ (by rw[s1];omega)
 rw[this]
 exact heap_alloc_new w z
theorem qAD.keep{w:World}{X hb tb:Nat}{f:FR}{pc:Option Addr}{cc:Nat}{hf hf':Nat→Int}(h:qAD w X hb tb f pc cc hf){i:Nat}{v:Int}(hi:i<f.code.length)(hv:hf' i=v)(hf0:∀ j,j<f.code.length→j≠i→hf' j=hf j):qAD (w.setCell ⟨hb,i,none⟩ (.int .i64 v)) X hb tb f pc cc hf':=
 ⟨(Below.heap_setCell w ⟨hb,i,none⟩ _ X h.n1).trans h.box,h.hi.set hi hv hf0,h.tr.same (Below.heap_setCell w ⟨hb,i,none⟩ _ tb (fun e=>h.n3 e.symm)),h.n1,h.n2,h.n3⟩
theorem kK.congr{w:World}{g n:Nat}{f f':Nat→Int}(h:kK w g n f)(hf:∀ j,j<n→f' j=f j):kK w g n f':=by
 obtain⟨A,h1,h2,h3⟩:=h
 exact⟨A,h1,h2,fun i hi=>by rw[h3 i hi,hf i hi]⟩
theorem fW{n k:Nat}:¬(List.replicate n false)[k]? = some true:=by
 rw[List.getElem?_replicate]
 split <;> simp
theorem qAD.flow{w:World}{X hb tb:Nat}{f:FR}{pc:Option Addr}{cc:Nat}{hf:Nat→Int}(h:qAD w X hb tb f pc cc hf)(hm:∀ j,j<f.code.length→hf j=-1)(c:List LI):vF w X hb tb f pc cc c (List.replicate f.code.length false) 0:=
 ⟨h.box,h.hi.congr (fun j hj=>by unfold hiN;rw[if_neg fW,hm j hj]),h.tr.congr (fun j hj=>by unfold trN;rw[if_neg fW]),h.n1,h.n2,h.n3⟩
def MoP(c:List LI)(vs:List Bool)(mo:Nat):Prop:=(∀ (k:Nat) (x:LI),vs[k]? = some true→c[k]? = some x→x.h≤mo)∧∃ (k:Nat) (x:LI),Rch c k∧c[k]? = some x∧x.h=mo
theorem MoP.done{c:List LI}{vs:List Bool}{mo:Nat}(h:MoP c vs mo)(hs:nN c vs []):qBc c mo:=⟨fun k x hk hx=>h.1 k x ((hs.done k).2 hk) hx,h.2⟩
theorem qLH{c:List LI}{S:Nat}{Q:List Nat}(hG:uS S Q c):nN c ((List.replicate c.length false).set 0 true) [0]:=by
 have hq:0<(List.replicate c.length false).length:=by simpa using hG.ne
 have e:=fun j=>uR (vs:=List.replicate c.length false) (j:=j) hq
 refine⟨by simp,(e 0).2 (.inl rfl),fun k hk=>?_,fun k hk=>?_,fun k hk hn=>?_⟩
 ·rcases(e k).1 hk with rfl | h
  ·exact .zero
  ·exact absurd h fW
 ·rw[List.mem_singleton]at hk
  exact(e k).2 (.inl hk)
 ·rcases(e k).1 hk with rfl | h
  ·exact absurd (List.mem_singleton.2 rfl) hn
  ·exact absurd h fW
theorem qK5{n:Nat}(h:0<n):2*iB ((List.replicate n false).set 0 true)+1≤2*n:=by
 have:=eR (vs:=List.replicate n false) (q:=0) (by rw[List.getElem?_replicate,if_pos h])
 have e:iB (List.replicate n false)≤n:=by
  unfold iB
  exact Nat.le_trans (List.length_filter_le _ _) (by simp)
 omega
theorem MoP.visit{c:List LI}{vs:List Bool}{mo q:Nat}{x:LI}(h:MoP c vs mo)(hq:q<vs.length)(hr:Rch c q)(hx:c[q]? = some x):MoP c (vs.set q true) (max mo x.h):=by
 refine⟨fun k y hk hy=>?_,?_⟩
 ·rcases(uR hq).1 hk with rfl | hk
  ·rw[hx]at hy
   injection hy with hy
   subst hy
   omega
  ·have:=h.1 k y hk hy
   omega
 ·obtain⟨k,y,h1,h2,h3⟩:=h.2
  by_cases hm:mo≤x.h
  ·exact⟨q,x,hr,hx,by omega⟩
  ·exact⟨k,y,h1,h2,by omega⟩
theorem MoP.grow{c:List LI}{vs:List Bool}{mo k S:Nat}{Q:List Nat}{x:LI}(h:MoP c vs mo)(hG:uS S Q c)(hv:vs[k]? = some true)(hr:Rch c k)(hx:c[k]? = some x):MoP c vs (max mo (x.h-mM x.i+sD x.i)):=by
 refine⟨fun j y hj hy=>by have:=h.1 j y hj hy;omega,?_⟩
 obtain⟨j,y,h1,h2,h3⟩:=h.2
 have hk:=h.1 k x hv hx
 rcases qQc hG hx with e | ⟨q,x',q1,q2,q3⟩
 ·exact⟨j,y,h1,h2,by omega⟩
 ·by_cases hm:mo≤x'.h
  ·exact⟨q,x',.step k q hr q1,q2,by omega⟩
  ·exact⟨j,y,h1,h2,by omega⟩
theorem qXq(n:Nat)(h:n≤5000):wrap64 (n:Int)=(n:Int):=by unfold wrap64;omega
theorem qUd(n:Nat)(h:n≤5000):IntKind.i64.wrap (n:Int)=(n:Int):=qKh _ (by omega) (by omega)
theorem qRY(i:IR):sD i≤1:=by unfold sD;split <;> omega
theorem qXy(xh tk d mk ee:Nat)(h1:xh-tk=d)(h2:d+mk=ee)(h3:xh≤200)(h4:mk≤1):ee≤201∧wrap64 ((d:Int)+(mk:Int))=(ee:Int)∧IntKind.i64.wrap ((d:Int)+(mk:Int))=(ee:Int):=by
 have e:(d:Int)+(mk:Int)=(ee:Int):=by omega
 rw[e]
 exact⟨by omega,qXq ee (by omega),qUd ee (by omega)⟩
theorem qXE(mo ee mx:Nat)(h:max mo ee=mx):(mo<ee∧mx=ee)∨(¬mo<ee∧mx=mo):=by omega
def nL(w:World)(g:Nat)(ys:List (Nat×Nat×Nat)):Prop:=∀ j y,ys[j]? = some y→w.cell? ⟨g,3*j,none⟩=some (.int .i64 (y.1:Int))∧w.cell? ⟨g,3*j+1,none⟩=some (.int .i64 (y.2.1:Int))∧w.cell? ⟨g,3*j+2,none⟩=some (.int .i64 (y.2.2:Int))
theorem nL.same{w w':World}{g:Nat}{ys:List (Nat×Nat×Nat)}(h:nL w g ys)(e:w'.heap[g]? = w.heap[g]?):nL w' g ys:=fun j y hy=>by
 obtain⟨h1,h2,h3⟩:=h j y hy
 have hc:∀ o,w'.cell? ⟨g,o,none⟩=w.cell? ⟨g,o,none⟩:=fun o=>World.cell?_of_block e
 exact⟨(hc _).trans h1,(hc _).trans h2,(hc _).trans h3⟩
theorem nL.one{w:World}{g q h t:Nat}(h0:w.cell? ⟨g,0,none⟩=some (.int .i64 (q:Int)))(h1:w.cell? ⟨g,1,none⟩=some (.int .i64 (h:Int)))(h2:w.cell? ⟨g,2,none⟩=some (.int .i64 (t:Int))):nL w g [(q,h,t)]:=fun j y hy=>by
 match j,hy with
 | 0,hy=>simp at hy;subst hy;exact⟨h0,h1,h2⟩
 | j+1,hy=>simp at hy
theorem nL.two{w:World}{g q h t q' h' t':Nat}(h0:w.cell? ⟨g,0,none⟩=some (.int .i64 (q:Int)))(h1:w.cell? ⟨g,1,none⟩=some (.int .i64 (h:Int)))(h2:w.cell? ⟨g,2,none⟩=some (.int .i64 (t:Int)))(h3:w.cell? ⟨g,3,none⟩=some (.int .i64 (q':Int)))(h4:w.cell? ⟨g,4,none⟩=some (.int .i64 (h':Int)))(h5:w.cell? ⟨g,5,none⟩=some (.int .i64 (t':Int))):nL w g [(q,h,t),(q',h',t')]:=fun j y hy=>by
 match j,hy with
 | 0,hy=>simp at hy;subst hy;exact⟨h0,h1,h2⟩
 | 1,hy=>simp at hy;subst hy;exact⟨h3,h4,h5⟩
 | j+2,hy=>simp at hy
theorem qKY{i:IR}{k xh xt:Nat}(e:i.op=12∨i.op=13):yR i k xh xt=[]:=by unfold yR;rw[if_pos e]
theorem qPB{i:IR}{k xh xt d nn:Nat}(e:i.op=6)(hn:i.n=(nn:Int))(hd:xh-mM i=d):yR i k xh xt=[(nn,d,xt)]:=by
 have ht:mM i=0:=by unfold mM;rw[if_neg (by omega),if_neg (by omega),if_neg (by omega),if_neg (by omega)]
 unfold yR
 rw[if_neg (by omega),if_pos e,hn,Int.toNat_natCast,show xh=d by omega]
theorem qPN{i:IR}{k xh xt d nn:Nat}(e:i.op=7)(hn:i.n=(nn:Int))(hd:xh-mM i=d):yR i k xh xt=[(k+1,d,xt),(nn,d,xt)]:=by
 have ht:mM i=1:=by unfold mM;rw[if_neg (by omega),if_neg (by omega),if_neg (by omega),if_pos (by omega)]
 unfold yR
 rw[if_neg (by omega),if_neg (by omega),if_pos e,hn,Int.toNat_natCast,show xh-1=d by omega]
theorem qGR{i:IR}{k xh xt d nn:Nat}(e:i.op=8∨i.op=9)(hn:i.n=(nn:Int))(hd:xh-mM i=d)(ho:mM i≤xh):yR i k xh xt=[(k+1,d,xt),(nn,d+1,xt)]:=by
 have ht:mM i=1:=by unfold mM;rw[if_neg (by omega),if_neg (by omega),if_neg (by omega),if_pos (by omega)]
 unfold yR
 rw[if_neg (by omega),if_neg (by omega),if_neg (by omega),if_pos e,hn,Int.toNat_natCast,show xh-1=d by omega,show xh=d+1 by omega]
theorem qOj{i:IR}{k xh xt d nn:Nat}(e:i.op=14)(hn:i.n=(nn:Int))(hd:xh-mM i=d):yR i k xh xt=[(k+1,d,xt+1),(nn,d+1,xt)]:=by
 have ht:mM i=0:=by unfold mM;rw[if_neg (by omega),if_neg (by omega),if_neg (by omega),if_neg (by omega)]
 unfold yR
 rw[if_neg (by omega),if_neg (by omega),if_neg (by omega),if_neg (by omega),if_pos e,hn,Int.toNat_natCast,show xh=d by omega]
theorem qOk{i:IR}{k xh xs d:Nat}(e:i.op=15)(hd:xh-mM i=d):yR i k xh (xs+1)=[(k+1,d,xs)]:=by
 have ht:mM i=0:=by unfold mM;rw[if_neg (by omega),if_neg (by omega),if_neg (by omega),if_neg (by omega)]
 unfold yR
 rw[if_neg (by omega),if_neg (by omega),if_neg (by omega),if_neg (by omega),if_neg (by omega),if_pos e,show xh=d by omega]
 rfl
theorem qL7{i:IR}{k xh xt d ee:Nat}(h:i.op≠12∧i.op≠13∧i.op≠6∧i.op≠7∧i.op≠8∧i.op≠9∧i.op≠14∧i.op≠15)(hd:xh-mM i=d)(he:d+sD i=ee):yR i k xh xt=[(k+1,ee,xt)]:=by
 rw[fM h,hd,he]
structure qA2(w wx:World)(B G X hb tb:Nat)(f:FR)(pc:Option Addr)(cc:Nat)(c:List LI)(ys:List (Nat×Nat×Nat))(vs:List Bool)(mo:Nat)(td:List Nat)(v:Value):Prop where
 q:tU wx B v (td.map fun n:Nat=>(n:Int))
 ne:∀ i,v.ownBlock=some i→i≠G
 fl:vF wx X hb tb f pc cc c vs mo
 y:nL wx G ys
 b:Below w.heap.size w wx
 e:wx.cell? ⟨w.heap.size,3,none⟩=some (.slice pc f.code.length cc)
 gl:G<wx.heap.size
 n1:w.heap.size<X∧w.heap.size<hb∧w.heap.size<tb
 n2:X<B∧hb<B∧tb<B
 n3:B≤G
theorem qA2.later{w wx wy:World}{B G X hb tb:Nat}{f:FR}{pc:Option Addr}{cc:Nat}{c:List LI}{ys:List (Nat×Nat×Nat)}{vs:List Bool}{mo:Nat}{td:List Nat}{v:Value}(h:qA2 w wx B G X hb tb f pc cc c ys vs mo td v)(fR:Below wx.heap.size wx wy):qA2 w wy B G X hb tb f pc cc c ys vs mo td v:=
 ⟨h.q.later fR,h.ne,h.fl.later fR,h.y.same (fR.block _ h.gl),h.b.trans (fR.mono h.b.size),cell_later fR h.e,Nat.lt_of_lt_of_le h.gl fR.size,h.n1,h.n2,h.n3⟩
theorem qA2.come{w wx wy:World}{B G X hb tb:Nat}{f:FR}{pc:Option Addr}{cc:Nat}{c:List LI}{ys:List (Nat×Nat×Nat)}{vs xQ:List Bool}{mo mo':Nat}{td:List Nat}{v:Value}(h:qA2 w wx B G X hb tb f pc cc c ys vs mo td v)(hF:vF wy X hb tb f pc cc c xQ mo')(hK:dX X hb tb wx wy):qA2 w wy B G X hb tb f pc cc c ys xQ mo' td v:=by
 obtain⟨a1,a2,a3⟩:=h.n1
 obtain⟨b1,b2,b3⟩:=h.n2
 have b4:=h.n3
 refine⟨h.q.same fun j hj=>?_,h.ne,hF,h.y.same (hK.block _ (by omega) (by omega) (by omega)),h.b.trans (hK.below (by omega) (by omega) (by omega)),by rw[hK.cell (by omega) (by omega) (by omega)];exact h.e,by rw[hK.size];exact h.gl,h.n1,h.n2,h.n3⟩
 have:=(h.q.own_lt j hj).1
 exact hK.block j (by omega) (by omega) (by omega)
theorem qA2.app{w wx wy:World}{B G X hb tb:Nat}{f:FR}{pc:Option Addr}{cc:Nat}{c:List LI}{ys:List (Nat×Nat×Nat)}{vs:List Bool}{mo q:Nat}{td:List Nat}{v v':Value}(h:qA2 w wx B G X hb tb f pc cc c ys vs mo td v)(hQ:tU wy B v' ((td.map fun n:Nat=>(n:Int))++[(q:Int)]))(hg:sZ v v' wx wy):qA2 w wy B G X hb tb f pc cc c ys vs mo (td++[q]) v':=by
 obtain⟨a1,a2,a3⟩:=h.n1
 obtain⟨b1,b2,b3⟩:=h.n2
 have b4:=h.n3
 have hs:B≤wx.heap.size:=by have:=h.gl;omega
 have nT:∀ k,k<B→wy.heap[k]? = wx.heap[k]?:=fun k hk=>hg.block (by omega) (fun j hj=>by have:=(h.q.own_lt j hj).1;omega)
 refine⟨by rw[List.map_append];exact hQ,fun i hi=>?_,h.fl.same fun k hk=>nT k (by rcases hk with rfl | rfl | rfl <;> assumption),h.y.same (hg.block h.gl h.ne),h.b.trans (hg.below (by have:=h.b.size;omega) (fun j hj=>by have:=(h.q.own_lt j hj).1;omega)),?_,Nat.lt_of_lt_of_le h.gl hg.grown.size,h.n1,h.n2,h.n3⟩
 ·rcases hg.lies i hi with e | e
  ·exact h.ne i e
  ·have:=h.gl;omega
 ·exact(World.cell?_of_block (nT w.heap.size (by omega))).trans h.e
theorem qLQ(X hb tb:Nat)(f:FR)(pc:Option Addr)(cc:Nat)(c:List LI)(vs:List Bool)(mo q:Nat)(x:LI)(w:World)(hF:vF w X hb tb f pc cc c vs mo)(hx:c[q]? = some x)(hc:c.length=f.code.length)(hv:vs.length=f.code.length)(dO:x.h≤200)(yE:x.t≤20)(yI:f.code.length≤400)(qAq:vs[q]? = some true) :
  Calls Tryz.prog 43 #[.pointer (some ⟨X,0,none⟩),.int .i64 (q:Int),.int .i64 (x.h:Int),.int .i64 (x.t:Int)] w fun e w'=>e=.returned (.bool false)∧vF w' X hb tb f pc cc c vs (max mo x.h)∧dX X hb tb w w':=by
 have:=qAd X hb tb f pc cc c vs mo q x w hF hx hc hv dO yE yI
 rw[qCr qAq,beq_iff_eq.2 qAq]at this
 exact this
theorem qK0(X hb tb:Nat)(f:FR)(pc:Option Addr)(cc:Nat)(c:List LI)(vs:List Bool)(mo q:Nat)(x:LI)(w:World)(hF:vF w X hb tb f pc cc c vs mo)(hx:c[q]? = some x)(hc:c.length=f.code.length)(hv:vs.length=f.code.length)(dO:x.h≤200)(yE:x.t≤20)(yI:f.code.length≤400)(qAq:¬vs[q]? = some true) :
  Calls Tryz.prog 43 #[.pointer (some ⟨X,0,none⟩),.int .i64 (q:Int),.int .i64 (x.h:Int),.int .i64 (x.t:Int)] w fun e w'=>e=.returned (.bool true)∧vF w' X hb tb f pc cc c (vs.set q true) (max mo x.h)∧dX X hb tb w w':=by
 have:=qAd X hb tb f pc cc c vs mo q x w hF hx hc hv dO yE yI
 rw[show(vs[q]? == some true)=false from beq_eq_false_iff_ne.2 qAq]at this
 exact this
theorem qXt{z j:Nat}(h:3*j=z):Value.int .i64 ((z:Int)+3)=.int .i64 ((3*(j+1):Nat):Int):=by congr 1;omega
theorem qXC(z:Nat)(h:z≤100):IntKind.i64.wrap ((z:Int)+1)=(z:Int)+1∧IntKind.i64.wrap ((z:Int)+2)=(z:Int)+2∧wrap64 ((z:Int)+1)=(z:Int)+1∧wrap64 ((z:Int)+2)=(z:Int)+2:=⟨qKh _ (by omega) (by omega),qKh _ (by omega) (by omega),qQ7 _ (by omega) (by omega),qQ7 _ (by omega) (by omega)⟩
theorem zi3(z:Nat)(h:z+2<3):(0:Int)≤(z:Int)+1∧(z:Int)+1<3∧((z:Int)+1).toNat=z+1∧(0:Int)≤(z:Int)+2∧(z:Int)+2<3∧((z:Int)+2).toNat=z+2∧(z:Int)<3:=by omega
theorem zi6(z:Nat)(h:z+2<6):(0:Int)≤(z:Int)+1∧(z:Int)+1<6∧((z:Int)+1).toNat=z+1∧(0:Int)≤(z:Int)+2∧(z:Int)+2<6∧((z:Int)+2).toNat=z+2∧(z:Int)<6:=by omega
theorem zin(z n:Nat)(h:z+2<n):(0:Int)≤(z:Int)+1∧(z:Int)+1<(n:Int)∧((z:Int)+1).toNat=z+1∧(0:Int)≤(z:Int)+2∧(z:Int)+2<(n:Int)∧((z:Int)+2).toNat=z+2∧(z:Int)<(n:Int):=by omega
theorem qLg{ys:List (Nat×Nat×Nat)}{j q h t:Nat}{ds:List Nat}(hy:ys[j]? = some (q,h,t))(hds:∀ y∈ys.take j,y.1∈ds):∀ y∈ys.take (j+1),y.1∈q::ds:=by
 intro y hm
 obtain⟨hj,e⟩:=List.getElem?_eq_some_iff.1 hy
 rw[List.take_succ_eq_append_getElem hj,e]at hm
 rcases List.mem_append.1 hm with hm | hm
 ·exact List.mem_cons_of_mem _ (hds y hm)
 ·rw[List.mem_singleton]at hm
  subst hm
  exact List.mem_cons_self
theorem qQg{c:List LI}{k:Nat}{x:LI}(hx:c[k]? = some x){ys:List (Nat×Nat×Nat)}(hs:yR x.i k x.h x.t=ys){j:Nat}(hj:ys.length≤j){ds:List Nat}(hds:∀ y∈ys.take j,y.1∈ds):∀ q∈qAo c k,q∈ds:=by
 intro q hq
 rw[pO hx,hs]at hq
 obtain⟨y,hy,rfl⟩:=List.mem_map.1 hq
 exact hds y (by rw[List.take_of_length_le hj];exact hy)
theorem qQq{vs:List Bool}{q n:Nat}(hv:¬vs[q]? = some true)(hq:q<vs.length){td:List Nat}{M:Nat}(h:2*iB vs+td.length≤M):2*iB (vs.set q true)+(td++[q]).length≤M:=by
 have e:vs[q]? = some false:=by
  rw[List.getElem?_eq_getElem hq]at hv ⊢
  cases h':vs[q] <;> simp_all
 have:=eR e
 rw[List.length_append,List.length_singleton]
 omega
theorem s6(f:FR)(pc:Option Addr)(cc S:Nat)(Q:List Nat)(c:List LI)(w:World)(kL:c.map LI.i=f.code)(hG:uS S Q c)(hC:vY w pc f.code)(yI:f.code.length≤400) :
  Calls Tryz.prog 24 #[oB f pc cc] w fun e w'=>∃ X hb tb vs mo,e=.returned (.pointer (some ⟨X,0,none⟩))∧vF w' X hb tb f pc cc c vs mo∧nN c vs []∧qBc c mo∧Below w.heap.size w w':=by
 have dZ:c.length=f.code.length:=by rw[←kL,List.length_map]
 have qDc:0<f.code.length:=by rw[←dZ];exact hG.ne
 have hmk:=fun w=>qT2 f.code.length w (by omega)
 have HCD:=qC kL
 have HG:=qC hG
 have HC:=qC hC
 have hz:(0:Int)<(f.code.length:Int):=by omega
 clear kL hG hC
 obtain⟨zF,yZ,mQ,qL⟩:=f
 dsimp only at *
 go_enter Tryz.func24,Tryz.ntmps24
 go_upto_region 1 with fail
 go_cut [3] from 14 to 28 (fun s3 wx=>∃ X hb tb,s3=.pointer (some ⟨X,0,none⟩)∧wx.heap.size=w.heap.size+4∧Hid (qAD wx X hb tb ⟨zF,yZ,mQ,qL⟩ pc cc (fun _=>0))∧w.heap.size<X∧w.heap.size<hb∧w.heap.size<tb∧wx.cell? ⟨w.heap.size,3,none⟩=some (.slice pc qL.length cc)∧Hid (Below w.heap.size w wx))
 case first=>
  go_region
  all_goals (go_wp2;go_meet)
  all_goals (case rel=>first
   | exact⟨_,w.heap.size+1,w.heap.size+1+1,rfl,(mW w _ _ _ _).2.2.2.2,qC ⟨(mW w _ _ _ _).2.2.2.1,kK.made (mW w _ _ _ _).2.1,kK.made (mW w _ _ _ _).2.2.1,by omega,by omega,by omega⟩,by omega,by omega,by omega,(cell_of_block (mW w _ _ _ _).1 3).trans rfl,qC ((qG (qG (qG (qD _ _)))).drew)⟩
   | exact⟨_,w.heap.size+1+1,w.heap.size+1,rfl,(mW w _ _ _ _).2.2.2.2,qC ⟨(mW w _ _ _ _).2.2.2.1,kK.made (mW w _ _ _ _).2.2.1,kK.made (mW w _ _ _ _).2.1,by omega,by omega,by omega⟩,by omega,by omega,by omega,(cell_of_block (mW w _ _ _ _).1 3).trans rfl,qC ((qG (qG (qG (qD _ _)))).drew)⟩)
 case rest=>
 obtain⟨X,hb,tb,rfl,fU,hZ,x1,x2,x3,c3,hB⟩:=hcut
 rename World=>w1
 have HSZ:=qC fU
 clear fU
 have HZ0:Hid (qAD w1 X hb tb ⟨zF,yZ,mQ,qL⟩ pc cc (fun k=>if k<0 then -1 else 0)):=qC (by simpa using qA hZ)
 clear hZ hmk
 go_wp2
 go_loopw[4] (fun i wx=>∃ j:Nat,j≤qL.length∧i=.int .i64 j∧Hid (qAD wx X hb tb ⟨zF,yZ,mQ,qL⟩ pc cc (fun k=>if k<j then -1 else 0))∧Hid (dX X hb tb w1 wx)) (fun i _=>qL.length-(intOf i).toNat)
 case atStart=>exact⟨0,by omega,rfl,HZ0,qC (dX.refl _ _ _ _)⟩
 case round=>
  obtain⟨j,hj,rfl,hZ,hK⟩:=hrel
  have d3:wr.cell? ⟨w.heap.size,3,none⟩=some (.slice pc qL.length cc):=by rw[(qA hK).cell (by omega) (by omega) (by omega)];exact c3
  have z4:wr.cell? ⟨X,4,none⟩=some (.slice (some ⟨hb,0,none⟩) qL.length qL.length):=(cell_of_block (qA hZ).box 4).trans rfl
  by_cases jF:j<qL.length
  ·have hh:=(qA hZ).hi.cell (i:=j) jF
   have fh:=(qA hZ).hi.free j
   rw[if_neg (by omega)]at hh
   have HZ2:=qC ((qA hZ).keep (i:=j) (v:=-1) (hf':=fun k=>if k<j+1 then -1 else 0) jF (by rw[if_pos (by omega)]) (fun k _ hk=>by by_cases h1:k<j;rw[if_pos h1,if_pos (by omega)];rw[if_neg h1,if_neg (by omega)]))
   have qH:=qC ((qA hK).set (g:=hb) (o:=j) (.int .i64 (-1)) (.inr (.inl rfl)))
   clear hZ hK
   go_wp2
   go_roundw
   case rel=>exact⟨j+1,by omega,by go_num,HZ2,qH⟩
   case measure=>simp[intOf];omega
  ·obtain rfl:j=qL.length:=by omega
   have hFl:=(qA hZ).flow (fun k hk=>by rw[if_pos hk]) c
   have jD:Below w.heap.size w wr:=(qA hB).trans ((qA hK).below (by omega) (by omega) (by omega))
   have hsr:=qC (qA hK).size
   have kN:=qC (hFl.later (qD wr (.cells #[] 3)))
   obtain⟨x0,hx0⟩:∃ x0,c[0]? = some x0:=⟨c[0]'(by omega),List.getElem?_eq_getElem (by omega)⟩
   obtain⟨s0,s1,_⟩:=(qA HG).st x0 hx0
   have HCO:Hid (Calls Tryz.prog 43 #[.pointer (some ⟨X,0,none⟩),.int .i64 0,.int .i64 0,.int .i64 0] (wr.alloc (.cells #[] 3)) fun e w'=>e=.returned (.bool true)∧vF w' X hb tb ⟨zF,yZ,mQ,qL⟩ pc cc c ((List.replicate qL.length false).set 0 true) 0∧dX X hb tb (wr.alloc (.cells #[] 3)) w'):=qC (by
    have:=qAd X hb tb ⟨zF,yZ,mQ,qL⟩ pc cc c (List.replicate qL.length false) 0 0 x0 _ (qA kN) hx0 dZ (by simp) (by omega) (by omega) yI
    rw[s0,s1,show((List.replicate qL.length false)[0]? == some true)=false from beq_eq_false_iff_ne.2 fW]at this
    simpa using this)
   have z6:wr.cell? ⟨X,6,none⟩=some (.bool true):=(cell_of_block (qA hZ).box 6).trans rfl
   have hXw:X<wr.heap.size:=(Array.getElem?_eq_some_iff.1 (qA hZ).box).1
   have hhw:hb<wr.heap.size:=(qA hZ).hi.lt
   have htw:tb<wr.heap.size:=(qA hZ).tr.lt
   have y8:=qC jD
   clear hFl jD z4 hZ
   go_wp2_with fail
   refine(qA HCO).mono ?_
   rintro e w2 ⟨rfl,hF2,yA⟩
   obtain⟨wa,hwa⟩:∃ wa,wa=wr:=⟨_,rfl⟩
   subst hwa
   have hs2:w2.heap.size=wa.heap.size+1:=by rw[yA.size];simp
   have mO:=qC hs2
   have hq2:w2.heap[wa.heap.size]? = some (.cells #[] 3 (0,0)):=(yA.block _ (by omega) (by omega) (by omega)).trans (heap_alloc_new wa _)
   have hQ0:tU w2 wa.heap.size (.slice (some ⟨wa.heap.size,0,none⟩) 0 0) []:=⟨wa.heap.size,0,0,#[],rfl,Nat.le_refl _,hq2,by simp,by simp,fun i hi=>by simp at hi⟩
   have HQ0:=qC (hQ0.later (qD w2 (.cells #[.int .i64 0] 3)))
   have mZ:=qC hF2
   have qY:Below w.heap.size w w2:=(qG (o:=.cells #[] 3) (qA y8)).trans (yA.below (by omega) (by omega) (by omega))
   have e3:w2.cell? ⟨w.heap.size,3,none⟩=some (.slice pc qL.length cc):=by rw[yA.cell (by omega) (by omega) (by omega)];exact cell_later (qD wa _) d3
   have HE3:=qC e3
   have uF:=qC qY
   have hbw:wa.heap.size≤w2.heap.size+1:=by omega
   clear hF2 yA HCO hQ0 hq2 d3 z6 kN qY hs2 hx0 s0 s1
   go_wp2_with (at_builtin;refine qHk _ rfl _ _ rfl wa.heap.size w2.heap.size _ [] 0 rfl (qA HQ0) rfl (by simp) ?q1 (by simp) ?q2)
   case q1=>simpa using hbw
   case q2=>
    intro v3 w3 hQ3 hg3
    have HQ3:Hid (tU w3 wa.heap.size v3 (([0]:List Nat).map fun n:Nat=>(n:Int))):=qC (by simpa using hQ3)
    have zE:∀ j,(Value.slice (some ⟨wa.heap.size,0,none⟩) 0 0).ownBlock=some j→j=wa.heap.size:=fun j hj=>by injection hj with hj;exact hj.symm
    have qOR:∀ k,k<wa.heap.size→w3.heap[k]? = w2.heap[k]?:=fun k hk=>(hg3.block (by simp;rw[qA mO];omega) (fun j hj=>by have:=zE j hj;omega)).trans ((qD w2 _).block k (by rw[qA mO];omega))
    have HF3:=qC ((qA mZ).same (w':=w3) fun k hk=>qOR k (by rcases hk with rfl | rfl | rfl <;> assumption))
    have uN:Below w.heap.size w w3:=(qG (o:=.cells #[.int .i64 0] 3) (qA uF)).trans (hg3.below (Nat.le_trans (show w.heap.size≤w2.heap.size by have h2:w2.heap.size=wa.heap.size+1:=qA mO;omega) (by simp)) (fun j hj=>by have:=zE j hj;omega))
    have uO:=qC uN
    have qVc:Hid (w3.cell? ⟨w.heap.size,3,none⟩=some (.slice pc qL.length cc)):=qC ((World.cell?_of_block (qOR w.heap.size (by omega))).trans (qA HE3))
    have HS0:=qC (show nN c ((List.replicate qL.length false).set 0 true) [0] by rw[←dZ];exact qLH (qA HG))
    have HM0:Hid (MoP c ((List.replicate qL.length false).set 0 true) 0):=qC ⟨fun k x hk hx=>(by
     rcases(uR (by simpa using qDc)).1 hk with rfl | h
     ·exact Nat.le_of_eq ((qA HG).st x hx).1
     ·exact absurd h fW),0,c[0]'(by omega),.zero,List.getElem?_eq_getElem (by omega),((qA HG).st _ (List.getElem?_eq_getElem (by omega))).1⟩
    have qXR:=qK5 qDc
    clear hQ3 hg3 zE qOR uN HE3 uF HQ0 mZ
    obtain⟨B,uZ⟩:∃ B,wa.heap.size=B:=⟨_,rfl⟩
    rw[uZ]at HQ3 hXw hhw htw
    clear uZ mO hbw y8 hsr hK
    obtain⟨b3,k3,hv3⟩:∃ p k,v3=.slice p 1 k:=by
     obtain⟨g,off,cap,cs,e,_⟩:=qA HQ3
     exact⟨_,_,e⟩
    subst hv3
    go_wp2
    go_loopg [5] 900 (fun gn v5 wx=>∃ (vs:List Bool) (td:List Nat) (mo:Nat),gn≤900∧2*iB vs+td.length≤gn∧Hid (tU wx B v5 (td.map fun n:Nat=>(n:Int)))∧Hid (vF wx X hb tb ⟨zF,yZ,mQ,qL⟩ pc cc c vs mo)∧Hid (nN c vs td)∧Hid (MoP c vs mo)∧Hid (Below w.heap.size w wx)∧Hid (wx.cell? ⟨w.heap.size,3,none⟩=some (.slice pc qL.length cc)))
    case atStart=>exact⟨_,[0],0,by omega,by simp;omega,HQ3,HF3,HS0,HM0,uO,qVc⟩
    case round=>
     clear HQ3 HF3 HS0 HM0 uO qVc qXR
     obtain⟨vs,td,mo,hgk,hgn,hQ,hF,hS,hMo,hBx,hE⟩:=hrel
     have e3:=qA hE
     obtain⟨z3,z4,z5,z6,z7⟩:=(qA hF).cell
     dsimp only at z3 z4 z5 z6 z7
     cases td with
     | nil=>
      obtain⟨g9,o9,c9,cs9,e9,_⟩:=qA hQ
      subst e9
      rw[List.map_nil,List.length_nil]
      go_wp2
      go_ret
      exact⟨X,hb,tb,vs,mo,rfl,qA hF,qA hS,(qA hMo).done (qA hS),qA hBx⟩
     | cons k td=>
      have nV:=(qA hS).td' k (List.mem_cons_self)
      have sJ:k<vs.length:=(List.getElem?_eq_some_iff.1 nV).1
      have pU:k<qL.length:=by rw[←dZ,←(qA hS).len];exact sJ
      obtain⟨x,hx⟩:∃ x,c[k]? = some x:=⟨c[k]'(by omega),List.getElem?_eq_getElem (by omega)⟩
      obtain⟨o1,o2,o3,o4,o5,o6⟩:=(qA HG).ok k x hx
      obtain⟨⟨op,n,m,t,vk,vn,vt⟩,xh,xt⟩:=x
      dsimp only at o1 o2 o3 o4 o5 o6
      have hfk:qL[k]? = some ⟨op,n,m,t,vk,vn,vt⟩:=by rw[←qA HCD,List.getElem?_map,hx];rfl
      obtain⟨_,hfe⟩:=List.getElem?_eq_some_iff.1 hfk
      obtain⟨cb,qDX,hpc,y0,y1,y2,y3,y4,y5,y6⟩:=(qA HC).later (qA hBx) k pU
      rw[hfe]at y0 y1 y2 y3 y4 y5 y6
      dsimp only at y0 y1 y2 y3 y4 y5 y6
      have hh:=(qA hF).hi.cell (i:=k) pU
      have ht:=(qA hF).tr.cell (i:=k) pU
      rw[qKm hx nV]at hh
      rw[wN hx nV]at ht
      dsimp only at hh ht
      have hop:=s7 o5
      obtain⟨tk,cL⟩:∃ tk,mM ⟨op,n,m,t,vk,vn,vt⟩=tk:=⟨_,rfl⟩
      obtain⟨mk,hmk⟩:∃ mk,sD ⟨op,n,m,t,vk,vn,vt⟩=mk:=⟨_,rfl⟩
      have qYQ:mk≤1:=hmk▸qRY _
      have qRI:Hid (MoP c vs (max mo (xh-tk+mk))):=qC (by
       have:=(qA hMo).grow (qA HG) nV ((qA hS).r k nV) hx
       dsimp only at this
       rw[cL,hmk]at this
       exact this)
      have HTK:=qC cL
      have HMK:=qC hmk
      have HSP:Hid (gE c vs td k []):=qC ((qA hS).leave (List.mem_cons_self) (fun j hj=>List.mem_cons.1 hj) (fun j hj=>List.mem_cons_of_mem _ hj))
      have HGR:Hid (∀ w1,Calls Tryz.prog 44 #[irV ⟨op,n,m,t,vk,vn,vt⟩] w1 fun e w'=>e=.returned (.tuple #[.int .i64 (tk:Int),.int .i64 (mk:Int)])∧Below w1.heap.size w1 w'):=qC (fun w1=>by rw[←cL,←hmk];exact qFY _ w1 hop.1 hop.2 (qNV o5) (qNQ o5))
      rw[cL]at o1
      obtain⟨g9,o9,c9,cs9,e9,_⟩:=qA hQ
      subst e9
      obtain⟨hn9,hc9,q0,hQt⟩:=(qA hQ).tail
      have HQR:Hid (∀ v,qNr g9 o9 c9 (td.map fun n:Nat=>(n:Int)).length v→tU wr B v (td.map fun n:Nat=>(n:Int))∧v.ownBlock=some g9):=qC (fun v hv=>(qA hQ).rest hv)
      have hg9:B≤g9∧g9<wr.heap.size:=(qA hQ).own_lt g9 rfl
      rw[List.length_map]at hc9 HQR
      rw[List.map_cons,List.length_cons,List.length_map]
      obtain⟨nd,hnd⟩:∃ nd,td.length=nd:=⟨_,rfl⟩
      have HND:=qC hnd
      rw[hnd]at hc9 HQR ⊢
      rw[List.length_cons,hnd]at hgn
      clear hnd hQt hn9
      have qZl:(xh:Int)-(tk:Int)=((xh-tk:Nat):Int):=by omega
      obtain⟨d,hd⟩:∃ d,xh-tk=d:=⟨_,rfl⟩
      rw[hd]at qZl
      have HO5:=qC o5
      have HO6:=qC o6
      have HX:=qC hx
      clear o5 o6 hx hfk hfe hop cL hmk nV
      subst hpc
      go_upto_region 11 with fail
      go_cut [5] from 66 to 67 (fun s5 wx=>qNr g9 o9 c9 nd s5∧wx=wr)
      case first=>
       by_cases xZ:c9=1
       ·subst xZ
        obtain rfl:nd=0:=by omega
        go_wp2
        go_meet
        case rel=>exact⟨.inr ⟨rfl,rfl⟩,rfl⟩
       ·go_wp2
        go_meet
        case rel=>exact⟨.inl ⟨xZ,rfl⟩,rfl⟩
      case rest=>
      obtain⟨qRs,hwc⟩:=hcut
      rw[hwc]
      clear hwc
      obtain⟨hQ5,hw5⟩:=qA HQR _ qRs
      have HQ5:=qC hQ5
      have HW5:=qC hw5
      clear hQ5 hw5 qRs HQR
      have hXr:X<wr.heap.size:=World.block_lt_of_cell? _ _ z4
      have hhr:hb<wr.heap.size:=World.block_lt_of_cell? _ _ hh
      have htr:tb<wr.heap.size:=World.block_lt_of_cell? _ _ ht
      have hcr:cb<wr.heap.size:=World.block_lt_of_cell? _ _ y0
      have her:w.heap.size<wr.heap.size:=World.block_lt_of_cell? _ _ e3
      go_wp2_with fail
      refine(qA HGR _).mono ?_
      rintro e w5 ⟨rfl,gL⟩
      have hB5:Below wr.heap.size wr w5:=qE (qD _ _) gL
      have lO:=qC hB5
      have v4:=cell_later hB5 z4
      have v5':=cell_later hB5 z5
      have v7:=cell_later hB5 z7
      have vh:=cell_later hB5 hh
      have vt':=cell_later hB5 ht
      have vop:w5.cell? ⟨wr.heap.size,0,none⟩=some (.int .i64 op):=cell_later gL (by simp)
      have vn':w5.cell? ⟨wr.heap.size,1,none⟩=some (.int .i64 n):=cell_later gL (by simp)
      have HF5:=qC ((qA hF).later hB5)
      have f7:=(qA HF5).free 7
      have hr5:wr.heap.size<w5.heap.size:=World.block_lt_of_cell? _ _ vop
      have hd0:¬(d:Int)<0:=by omega
      obtain⟨ee,hee⟩:∃ ee,d+mk=ee:=⟨_,rfl⟩
      obtain⟨jDz,jCU,hwi⟩:=qXy xh tk d mk ee hd hee o3 qYQ
      obtain⟨mx,hmx⟩:∃ mx,max mo ee=mx:=⟨_,rfl⟩
      have qHF:=qXE mo ee mx hmx
      have HMX:=qC hmx
      have HEE:=qC hee
      clear hmx hee gL hB5 y0 y1 y2 y3 y4 y5 y6 HGR z3 z4 z5 z6 z7 hh ht e3
      go_upto_region 18 with fail
      go_cut [] from 99 to 109 (fun wx=>wx=w5.setCell ⟨X,7,none⟩ (.int .i64 (mx:Int)))
      case first=>
       rcases qHF with ⟨jF,e⟩ | ⟨jF,e⟩
       ·subst e
        go_wp2
        go_meet
        case rel=>rfl
       ·subst e
        go_wp2
        go_meet
        case rel=>rfl
      case rest=>
      subst hcut
      have HQ6:Hid (tU (w5.setCell ⟨X,7,none⟩ (.int .i64 (mx:Int))) B _ (td.map fun n:Nat=>(n:Int))):=qC (((qA HQ5).later (qA lO)).same fun j hj=>Below.heap_setCell w5 ⟨X,7,none⟩ _ j (by rw[qA HW5]at hj;injection hj with hj;show j≠X;omega))
      have HF6:=qC ((qA HF5).setMo mx)
      have HB6:Hid (Below w.heap.size w (w5.setCell ⟨X,7,none⟩ (.int .i64 (mx:Int)))):=qC (((qA hBx).trans ((qA lO).mono (qA hBx).size)).setCell (p:=⟨X,7,none⟩) (Nat.le_of_lt x1) _)
      have HE6:Hid ((w5.setCell ⟨X,7,none⟩ (.int .i64 (mx:Int))).cell? ⟨w.heap.size,3,none⟩=some (.slice (some ⟨cb,qDX,none⟩) qL.length cc)):=qC ((World.cell?_of_block (Below.heap_setCell w5 ⟨X,7,none⟩ _ w.heap.size (Nat.ne_of_lt x1))).trans (cell_later (qA lO) (qA hE)))
      have qVG:(w5.setCell ⟨X,7,none⟩ (.int .i64 (mx:Int))).cell? ⟨wr.heap.size,0,none⟩=some (.int .i64 op):=(World.cell?_of_block (Below.heap_setCell w5 ⟨X,7,none⟩ _ wr.heap.size (Nat.ne_of_gt hXr))).trans vop
      have qUz:(w5.setCell ⟨X,7,none⟩ (.int .i64 (mx:Int))).cell? ⟨wr.heap.size,1,none⟩=some (.int .i64 n):=(World.cell?_of_block (Below.heap_setCell w5 ⟨X,7,none⟩ _ wr.heap.size (Nat.ne_of_gt hXr))).trans vn'
      have qS5:Hid (MoP c vs mx):=qC (by have:=qA qRI;rw[hd,qA HEE,qA HMX]at this;exact this)
      have hwl:wr.heap.size<(w5.setCell ⟨X,7,none⟩ (.int .i64 (mx:Int))).heap.size:=by rw[World.size_setCell];exact hr5
      have jCp:d≤200:=by omega
      clear v4 v5' v7 vh vt' vop vn' HF5 f7 lO HQ5 qHF HMX qRI hBx hE hF hQ hMo
      generalize w5.setCell ⟨X,7,none⟩ (.int .i64 (mx:Int))=w6 at *
      have qHB:Hid (∀ (o:Obj) (ys:List (Nat×Nat×Nat)),nL ((w6.alloc (.cells #[] 3)).alloc o) (w6.heap.size+1) ys→qA2 w ((w6.alloc (.cells #[] 3)).alloc o) B (w6.heap.size+1) X hb tb ⟨zF,yZ,mQ,qL⟩ (some ⟨cb,qDX,none⟩) cc c ys vs mx td _):=qC (fun o ys hy=>
       ⟨((qA HQ6).later (qG (qD _ _))),fun i hi=>by rw[qA HW5]at hi;injection hi with hi;omega,(qA HF6).later (qG (qD _ _)),hy,qG (qG (qA HB6)),cell_later (qG (qD _ _)) (qA HE6),by simp,⟨x1,x2,x3⟩,⟨hXw,hhw,htw⟩,by omega⟩)
      have qYw:=s7 (qA HO5)
      dsimp only at qYw
      go_upto_region 19 with fail
      go_cut [12] from 110 to 110 (fun s12 wx=>s12=.slice (some ⟨w6.heap.size,0,none⟩) 0 0∧wx=w6.alloc (.cells #[] 3))
      case first=>
       go_wp2
       go_meet
       case rel=>exact⟨rfl,rfl⟩
      case rest=>
      obtain⟨qSy,hwc⟩:=hcut
      subst qSy
      rw[hwc]
      clear hwc
      go_step
      go_step
      have qZD:(w6.alloc (.cells #[] 3)).cell? ⟨wr.heap.size,0,none⟩=some (.int .i64 op):=cell_later (qD _ _) qVG
      have qYm:(w6.alloc (.cells #[] 3)).cell? ⟨wr.heap.size,1,none⟩=some (.int .i64 n):=cell_later (qD _ _) qUz
      go_cut [12] from 111 to 174 (fun s12 wx=>∃ (ys:List (Nat×Nat×Nat)) (n3:Nat),s12=.slice (some ⟨w6.heap.size+1,0,none⟩) n3 n3∧Hid (n3=3*ys.length)∧n3≤6∧Hid (yR ⟨op,n,m,t,vk,vn,vt⟩ k xh xt=ys)∧Hid (qA2 w wx B (w6.heap.size+1) X hb tb ⟨zF,yZ,mQ,qL⟩ (some ⟨cb,qDX,none⟩) cc c ys vs mx td u5))
      case first=>
       by_cases qQw:op=12∨op=13
       ·have HSX:=qC (show nN c vs td from(qA HSP).left (fun q hq=>by rw[pO (qA HX),qKY qQw]at hq;simp at hq))
        rcases qQw with rfl | rfl
        all_goals
         go_wp2
         go_roundg (gk-1)
         case rel=>exact⟨vs,td,mx,by omega,by rw[qA HND];omega,qC ((qA HQ6).later (qD _ _)),qC ((qA HF6).later (qD _ _)),HSX,qS5,qC (qG (qA HB6)),qC (cell_later (qD _ _) (qA HE6))⟩
         case measure=>omega
       by_cases h6:op=6
       ·subst h6
        obtain⟨nn,hnn⟩:∃ nn:Nat,n=(nn:Int):=⟨n.toNat,(Int.toNat_of_nonneg (cR (qA HO5) (.inl rfl))).symm⟩
        subst hnn
        have nX:=qC (qPB (i:=⟨6,(nn:Int),m,t,vk,vn,vt⟩) (k:=k) (xh:=xh) (xt:=xt) (d:=d) (nn:=nn) rfl rfl (by rw[qA HTK];exact hd))
        go_wp2
        go_meet
        case rel=>exact⟨[(nn,d,xt)],3,rfl,qC rfl,by omega,nX,qC (qA qHB _ _ (nL.one (by simp) (by simp) (by simp)))⟩
       by_cases h7:op=7
       ·subst h7
        obtain⟨nn,hnn⟩:∃ nn:Nat,n=(nn:Int):=⟨n.toNat,(Int.toNat_of_nonneg (cR (qA HO5) (.inr (.inl rfl)))).symm⟩
        subst hnn
        have nX:=qC (qPN (i:=⟨7,(nn:Int),m,t,vk,vn,vt⟩) (k:=k) (xh:=xh) (xt:=xt) (d:=d) (nn:=nn) rfl rfl (by rw[qA HTK];exact hd))
        go_wp2
        go_meet
        case rel=>exact⟨[(k+1,d,xt),(nn,d,xt)],6,rfl,qC rfl,by omega,nX,qC (qA qHB _ _ (nL.two (by simp) (by simp) (by simp) (by simp) (by simp) (by simp)))⟩
       by_cases h8:op=8
       ·subst h8
        obtain⟨nn,hnn⟩:∃ nn:Nat,n=(nn:Int):=⟨n.toNat,(Int.toNat_of_nonneg (cR (qA HO5) (.inr (.inr (.inl rfl))))).symm⟩
        subst hnn
        have nX:=qC (qGR (i:=⟨8,(nn:Int),m,t,vk,vn,vt⟩) (k:=k) (xh:=xh) (xt:=xt) (d:=d) (nn:=nn) (.inl rfl) rfl (by rw[qA HTK];exact hd) (by rw[qA HTK];exact o1))
        go_wp2
        go_meet
        case rel=>exact⟨[(k+1,d,xt),(nn,d+1,xt)],6,rfl,qC rfl,by omega,nX,qC (qA qHB _ _ (nL.two (by simp) (by simp) (by simp) (by simp) (by simp) (by simp)))⟩
       by_cases h9:op=9
       ·subst h9
        obtain⟨nn,hnn⟩:∃ nn:Nat,n=(nn:Int):=⟨n.toNat,(Int.toNat_of_nonneg (cR (qA HO5) (.inr (.inr (.inr (.inl rfl)))))).symm⟩
        subst hnn
        have nX:=qC (qGR (i:=⟨9,(nn:Int),m,t,vk,vn,vt⟩) (k:=k) (xh:=xh) (xt:=xt) (d:=d) (nn:=nn) (.inr rfl) rfl (by rw[qA HTK];exact hd) (by rw[qA HTK];exact o1))
        go_wp2
        go_meet
        case rel=>exact⟨[(k+1,d,xt),(nn,d+1,xt)],6,rfl,qC rfl,by omega,nX,qC (qA qHB _ _ (nL.two (by simp) (by simp) (by simp) (by simp) (by simp) (by simp)))⟩
       by_cases oJ:op=14
       ·subst oJ
        obtain⟨nn,hnn⟩:∃ nn:Nat,n=(nn:Int):=⟨n.toNat,(Int.toNat_of_nonneg (cR (qA HO5) (.inr (.inr (.inr (.inr rfl)))))).symm⟩
        subst hnn
        have nX:=qC (qOj (i:=⟨14,(nn:Int),m,t,vk,vn,vt⟩) (k:=k) (xh:=xh) (xt:=xt) (d:=d) (nn:=nn) rfl rfl (by rw[qA HTK];exact hd))
        go_wp2
        go_meet
        case rel=>exact⟨[(k+1,d,xt+1),(nn,d+1,xt)],6,rfl,qC rfl,by omega,nX,qC (qA qHB _ _ (nL.two (by simp) (by simp) (by simp) (by simp) (by simp) (by simp)))⟩
       by_cases nR:op=15
       ·subst nR
        obtain⟨xs,hxs⟩:∃ xs,xt=xs+1:=⟨xt-1,by have:=o2 rfl;omega⟩
        subst hxs
        have nX:=qC (qOk (i:=⟨15,n,m,t,vk,vn,vt⟩) (k:=k) (xh:=xh) (xs:=xs) (d:=d) rfl (by rw[qA HTK];exact hd))
        go_wp2
        go_meet
        case rel=>exact⟨[(k+1,d,xs)],3,rfl,qC rfl,by omega,nX,qC (qA qHB _ _ (nL.one (by simp) (by simp) (by simp)))⟩
       ·have n12:op≠12:=fun e=>qQw (.inl e)
        have n13:op≠13:=fun e=>qQw (.inr e)
        have b6:(op == 6)=false:=beq_eq_false_iff_ne.2 h6
        have b7:(op == 7)=false:=beq_eq_false_iff_ne.2 h7
        have b8:(op == 8)=false:=beq_eq_false_iff_ne.2 h8
        have b9:(op == 9)=false:=beq_eq_false_iff_ne.2 h9
        have b12:(op == 12)=false:=beq_eq_false_iff_ne.2 n12
        have b13:(op == 13)=false:=beq_eq_false_iff_ne.2 n13
        have b14:(op == 14)=false:=beq_eq_false_iff_ne.2 oJ
        have b15:(op == 15)=false:=beq_eq_false_iff_ne.2 nR
        have nX:=qC (qL7 (i:=⟨op,n,m,t,vk,vn,vt⟩) (k:=k) (xh:=xh) (xt:=xt) (d:=d) (ee:=ee) ⟨n12,n13,h6,h7,h8,h9,oJ,nR⟩ (by rw[qA HTK];exact hd) (by rw[qA HMK];exact qA HEE))
        go_wp2
        go_meet
        case rel=>exact⟨[(k+1,ee,xt)],3,rfl,qC rfl,by omega,nX,qC (qA qHB _ _ (nL.one (by simp) (by simp) (by simp)))⟩
      case rest=>
      rename World=>w7
      obtain⟨ys,n3,qSy,hn3,hn6,nX,HI7⟩:=hcut
      subst qSy
      clear qHB HQ6 HF6 HB6 HE6 qVG qUz qZD qYm
      go_wp2
      go_loopw[5,13] (fun v5 i13 wx=>∃ (j:Nat) (vs:List Bool) (td:List Nat) (mo:Nat) (ds:List Nat),i13=.int .i64 ((3*j:Nat):Int)∧3*j≤n3∧2*iB vs+td.length≤gk-1∧Hid (qA2 w wx B (w6.heap.size+1) X hb tb ⟨zF,yZ,mQ,qL⟩ (some ⟨cb,qDX,none⟩) cc c ys vs mo td v5)∧Hid (gE c vs td k ds)∧Hid (MoP c vs mo)∧Hid (∀ y∈ys.take j,y.1∈ds)) (fun _ i _=>n3-(intOf i).toNat)
      case atStart=>exact⟨0,vs,td,mx,[],rfl,by omega,by rw[qA HND];omega,HI7,HSP,qS5,qC (by simp)⟩
      case round=>
       clear HI7 HSP qS5
       obtain⟨j,vs,td,mo,ds,rfl,hj,hM,hI,hSP,hMo,hds⟩:=hrel
       by_cases jF:3*j<n3
       ·have hjy:j<ys.length:=by have:=qA hn3;omega
        obtain⟨y,hy⟩:∃ y,ys[j]? = some y:=⟨ys[j],List.getElem?_eq_getElem _⟩
        obtain⟨q,hh,tt⟩:=y
        obtain⟨c0,c1,c2⟩:=(qA hI).y j _ hy
        dsimp only at c0 c1 c2
        obtain⟨hqs,x',hx',rfl,rfl⟩:=eO (qA HG) (qA HX) (q:=q) (h:=hh) (t:=tt) (by dsimp only;rw[qA nX];exact List.mem_of_getElem? hy)
        have hqn:=qNi (qA HG) hqs
        have HOK:=qC ((qA HG).ok q x' hx')
        have hvl:=(qA hSP).len
        have hrq:Rch c q:=.step k q ((qA hSP).r k (qA hSP).k') hqs
        obtain⟨z,hz3⟩:∃ z,3*j=z:=⟨_,rfl⟩
        have hzl:z+2<n3:=by have:=qA hn3;omega
        have hzz:3*(j+1)≤n3:=by have:=qA hn3;omega
        have jD5:z≤3:=by have:=qA hn3;omega
        have hql:q<vs.length:=by omega
        have qZR:(td.map fun n:Nat=>(n:Int)).length≤1000000000:=by rw[List.length_map];omega
        have qUq:=qC ((qA hMo).visit hql hrq hx')
        rw[hz3]at c0 c1 c2 hj jF ⊢
        obtain⟨qVd,qV9,qUF,qUH⟩:=qXC z (by omega)
        obtain⟨zi1,zi2,zi3,zi4,zi5,zi6,zi7⟩:=zin z n3 hzl
        have HZ3:=qC hz3
        have wI:=qC (qXt hz3)
        have HTM:=qC (qLg hy (qA hds))
        have HID:=qC ((qA hI).later (qF (Below.refl _ _)))
        have HHX:=qC hx'
        by_cases hv:vs[q]? = some true
        ·have HCO:=qC (qLQ X hb tb ⟨zF,yZ,mQ,qL⟩ (some ⟨cb,qDX,none⟩) cc c vs mo q x' wr.drew (qA HID).fl hx' dZ (hvl.trans dZ) (qA HOK).2.2.1 (qA HOK).2.2.2.1 yI hv)
         have HV:=qC hv
         clear hy hqs hx' hv hds hz3 hjy
         go_wp2
         go_still_tail 15,(by kernel_rfl)
         clear qVd qV9 qUF qUH zi1 zi2 zi3 zi4 zi5 zi6 zi7
         go_wp2_with (go_at_call 43;refine(qA HCO).mono ?_;rintro e y ⟨rfl,hFy,hKy⟩)
         go_wp2
         go_roundw
         case rel=>exact⟨j+1,vs,td,max mo x'.h,q::ds,qA wI,hzz,hM,qC ((qA HID).come hFy hKy),qC ((qA hSP).old (qA HV)),qC (by have:=qA qUq;rw[qCr (qA HV)]at this;exact this),HTM⟩
         case measure=>simp[intOf] <;> omega
        ·have HCO:=qC (qK0 X hb tb ⟨zF,yZ,mQ,qL⟩ (some ⟨cb,qDX,none⟩) cc c vs mo q x' wr.drew (qA HID).fl hx' dZ (hvl.trans dZ) (qA HOK).2.2.1 (qA HOK).2.2.2.1 yI hv)
         have HFN:=qC (qQq (n:=0) hv hql hM)
         have HSN:=qC ((qA hSP).new hqs hql)
         have HMN:=qUq
         have hyy:=qC hy
         clear hy hqs hx' hv hds hz3 hjy
         go_wp2
         go_still_tail 15,(by kernel_rfl)
         clear qVd qV9 qUF qUH zi1 zi2 zi3 zi4 zi5 zi6 zi7
         go_wp2_with (first | (go_at_call 43;refine(qA HCO).mono ?_;rintro e y ⟨rfl,hFy,hKy⟩;have HIY:=qC ((qA HID).come hFy hKy);have cy:y.cell? ⟨w6.heap.size+1,z,none⟩=some (.int .i64 (q:Int)):=(by have:=((qA HIY).y j _ (qA hyy)).1;rw[qA HZ3]at this;exact this);have hyl:=(qA HIY).gl;clear hFy hKy) | (have hq:=hyl;at_builtin;refine qHk _ rfl _ _ rfl B y.heap.size _ (td.map fun n:Nat=>(n:Int)) (q:Int) rfl ((qA HIY).q.later (qD _ _)) rfl (by simp) (Nat.le_trans (Nat.le_trans (qA HIY).n3 (Nat.le_of_lt hyl)) (by simp)) qZR ?_;intro v9 w9 hQ9 hg9))
         go_wp2
         go_roundw
         case rel=>exact⟨j+1,vs.set q true,td++[q],max mo x'.h,q::ds,qA wI,hzz,qA HFN,qC (((qA HIY).later (qD _ _)).app hQ9 hg9),HSN,HMN,HTM⟩
         case measure=>simp[intOf] <;> omega
       ·have iS:n3=3*j:=by omega
        have HSX:=qC (show nN c vs td from(qA hSP).left (qQg (qA HX) (qA nX) (by have:=qA hn3;omega) (qA hds)))
        rw[←iS]
        clear iS
        go_wp2
        go_roundg (gk-1)
        case rel=>exact⟨vs,td,mo,by omega,hM,qC (qA hI).q,qC (qA hI).fl,HSX,hMo,qC (qA hI).b,qC (qA hI).e⟩
        case measure=>omega
end
end Go.Proofs.YtbgkfaclfnkloaaGreatDoor
