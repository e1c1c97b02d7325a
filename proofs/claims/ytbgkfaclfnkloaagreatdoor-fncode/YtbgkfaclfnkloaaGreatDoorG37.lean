import Derived.Test.YtbgkfaclfnkloaaGreatDoorG34
import Derived.Deep.LoopGhost
namespace Go.Proofs.YtbgkfaclfnkloaaGreatDoor
set_option linter.all false
set_option maxHeartbeats 4000000
set_option maxRecDepth 100000
section
open Go.RowKit Go.Joins
theorem qK6(B X sb:Nat)(pc:Option Addr)(n cc:Nat)(S:Nat)(Q:List Nat)(c:List LI)(code:List IR)(vs:List Bool)(av:Value)(td:List Nat)(k:Nat)(w:World)(hG:uS S Q c)(kL:c.map LI.i=code)(hc:c.length=n)(hn:n≤400)(hW:zQ w B X sb pc n cc c vs av td)(hS:gE c vs td k [])(hm:dN vs td≤1000)(hC:vY w pc code) :
  Calls Tryz.prog 42 #[.pointer (some ⟨X,0,none⟩),.int .i64 (k:Int)] w (cG B X sb pc n cc c vs td w):=by
 have sJ:k<vs.length:=(List.getElem?_eq_some_iff.1 hS.k').1
 have hkc:k<c.length:=by rw[←hS.len];exact sJ
 have wC:k<code.length:=by rw[←kL,List.length_map];exact hkc
 obtain⟨b,off,rfl,c0,c1,c2,c3,c4,c5,c6⟩:=hC k wC
 have hx:c[k]? = some c[k]:=List.getElem?_eq_getElem hkc
 have hI:=(hG.ok k _ hx).2.2.2.2.1
 have hci:code[k]=c[k].i:=by subst kL;simp
 rw[hci]at c0 c1 c2 c3 c4 c5 c6
 generalize c[k]=x at hx hI c0 c1 c2 c3 c4 c5 c6
 obtain⟨i,h,t⟩:=x
 dsimp only at hI c0 c1 c2 c3 c4 c5 c6
 have hop:=s7 hI
 by_cases uL:i.op=1∨i.op=2∨i.op=3∨i.op=4∨i.op=5∨i.op=10∨i.op=11∨i.op=16
 ·exact qIY B X sb b off n cc S Q c vs av td k h t i w hG hc hn hW hS hx hm uL c0 c1 c2 c3 c4 c5 c6
 have uJ:0≤i.n:=by
  rcases hI with h | h | h | h | h | h | h | h
  ·omega
  ·exact h.2.2.1
  ·omega
  ·omega
  ·exact h.2.2
  ·omega
  ·omega
  ·rw[h.2];exact Int.le_refl 0
 obtain⟨op,rI,iM,zO,zM,zP,zL⟩:=i
 dsimp only at hop uL uJ c0 c1 c2 c3 c4 c5 c6
 obtain⟨qn,rfl⟩:=Int.eq_ofNat_of_zero_le uJ
 have hcs:op=6∨op=7∨op=8∨op=9∨op=12∨op=13∨op=14∨op=15:=by omega
 rcases hcs with rfl | rfl | rfl | rfl | rfl | rfl | rfl | rfl
 ·exact qQa B X sb b off n cc S Q c vs av td k h t qn iM zO zM zP zL w hG hc hn hW hS hx hm c0 c1 c2 c3 c4 c5 c6
 ·exact qQi B X sb b off n cc S Q c vs av td k h t qn iM zO zM zP zL w hG hc hn hW hS hx hm c0 c1 c2 c3 c4 c5 c6
 ·exact qPA B X sb b off n cc S Q c vs av td k h t qn iM zO zM zP zL w hG hc hn hW hS hx hm c0 c1 c2 c3 c4 c5 c6
 ·exact qP2 B X sb b off n cc S Q c vs av td k h t qn iM zO zM zP zL w hG hc hn hW hS hx hm c0 c1 c2 c3 c4 c5 c6
 ·exact qNg B X sb b off n cc S Q c vs av td k h t qn iM zO zM zP zL w hG hc hn hW hS hx hm c0 c1 c2 c3 c4 c5 c6
 ·exact qM8 B X sb b off n cc S Q c vs av td k h t qn iM zO zM zP zL w hG hc hn hW hS hx hm c0 c1 c2 c3 c4 c5 c6
 ·exact qNH B X sb b off n cc S Q c vs av td k h t qn iM zO zM zP zL w hG hc hn hW hS hx hm c0 c1 c2 c3 c4 c5 c6
 ·exact qMT B X sb b off n cc S Q c vs av td k h t qn iM zO zM zP zL w hG hc hn hW hS hx hm c0 c1 c2 c3 c4 c5 c6
theorem qIp(n:Nat)(w:World)(hn:n≤400):(Instr.makeSlice 54 (.int .i64 (n:Int)) (.int .i64 (n:Int))).run Tryz.prog w=.ok (.slice (some ⟨w.heap.size,0,none⟩) n n) (w.alloc (.cells (madeCells #[.bool false,.int .i64 0,.int .i64 0] (n*3)) 59)):=by
 have h:=run_make (P:=Tryz.prog) w 54 59 _ (.agg #[.bool false,.int .i64 0,.int .i64 0]) Tryz.underlying54 rfl rfl .i64 .i64 (n:Int) (n:Int) (by omega) (Int.le_refl _) (by show(24:Int)*(n:Int)≤281474976710656;omega) (by omega)
 simp only[Int.toNat_natCast]at h
 exact h
theorem zQ.pop{w:World}{B X sb:Nat}{pc:Option Addr}{n cc:Nat}{c:List LI}{vs:List Bool}{g m cap k:Nat}{td:List Nat}(h:zQ w B X sb pc n cc c vs (.slice (some ⟨g,0,none⟩) m cap) (td++[k])) :
  zQ (w.setCell ⟨X,2,none⟩ (.slice (some ⟨g,0,none⟩) td.length cap)) B X sb pc n cc c vs (.slice (some ⟨g,0,none⟩) td.length cap) td∧m=td.length+1∧w.cell? ⟨g,td.length,none⟩=some (.int .i64 (k:Int))∧td.length+1≤cap:=by
 have hI:=h.ah
 rw[qEb]at hI
 obtain⟨hp,hm,hc,hl⟩:=hI.pop
 rw[List.length_map]at hp hm hc hl
 have hg:g≠X:=(h.nx g rfl).1
 refine⟨⟨?_,h.st.same (Below.heap_setCell _ _ _ _ (by simpa using h.ne.symm)),hp.other fun j hj=>(h.nx j hj).1,h.ne,h.nx,h.bx,h.bs⟩,hm,hc,hl⟩
 exact block_setCell h.box _
theorem qNO(a b c:Value)(n i j:Nat)(hi:i<n)(hj:j<3):(madeCells #[a,b,c] (n*3))[i*3+j]? = some (#[a,b,c][j]!):=by
 have hm:(i*3+j) % 3=j:=by omega
 unfold madeCells
 rw[Array.getElem?_map,Array.getElem?_range,if_pos (by omega)]
 show some (#[a,b,c][(i*3+j) % 3]!)=_
 rw[hm]
theorem qHx(w:World)(n sb:Nat)(c:List LI)(hsb:w.heap.size=sb):uT (w.alloc (.cells (madeCells #[.bool false,.int .i64 0,.int .i64 0] (n*3)) 59)) sb c (List.replicate n false):=by
 subst hsb
 refine⟨madeCells #[.bool false,.int .i64 0,.int .i64 0] (n*3),by show(w.heap.push _)[w.heap.size]? = _;simp,by rw[size_madeCells,List.length_replicate],fun i hi=>?_⟩
 have gG:i<n:=by rw[List.length_replicate]at hi;exact hi
 have tZ:¬(List.replicate n false)[i]? = some true:=by rw[List.getElem?_replicate,if_pos gG];simp
 rw[qSh tZ,qR5 tZ,List.getElem_replicate]
 exact⟨qNO _ _ _ n i 0 gG (by omega),qNO _ _ _ n i 1 gG (by omega),qNO _ _ _ n i 2 gG (by omega)⟩
theorem qNG(c:List LI)(n:Nat)(hn:0<n)(hc:c.length=n):nN c ((List.replicate n false).set 0 true) [0]:=by
 have h0:0<(List.replicate n false).length:=by simpa using hn
 refine⟨by simp[hc],by simp[hn],fun k hk=>?_,fun k hk=>?_,fun k hk hkt=>?_⟩
 ·rcases(uR h0).1 hk with rfl | hk
  ·exact .zero
  ·rw[List.getElem?_replicate]at hk;split at hk <;> simp at hk
 ·rw[List.mem_singleton]at hk;subst hk;simp[hn]
 ·rcases(uR h0).1 hk with rfl | hk
  ·simp at hkt
  ·rw[List.getElem?_replicate]at hk;split at hk <;> simp at hk
theorem qN3(n:Nat)(hn:n≤400):dN ((List.replicate n false).set 0 true) [0]≤1000:=by
 have:iB ((List.replicate n false).set 0 true)≤n:=by
  unfold iB
  refine Nat.le_trans (List.length_filter_le _ _) ?_
  simp
 unfold dN
 simp
 omega
theorem bR(pc:Option Addr)(n cc S:Nat)(Q:List Nat)(c:List LI)(code:List IR)(w:World)(hG:uS S Q c)(kL:c.map LI.i=code)(hc:c.length=n)(hn:n≤400)(hC:vY w pc code) :
  Calls Tryz.prog 23 #[.slice pc n cc] w fun e w'=>∃ (sb:Nat) (vs:List Bool) (av:Value),e=.returned (.agg #[.slice pc n cc,.slice (some ⟨sb,0,none⟩) n n,av,.bool false])∧nN c vs []∧uT w' sb c vs∧Below w.heap.size w w':=by
 have qDc:0<n:=by rw[←hc];exact hG.ne
 have hmk:=qIp n (w.alloc (.cells #[.slice none 0 0,.slice none 0 0,.slice none 0 0,.bool false] 56)) hn
 obtain⟨x0,hx0⟩:∃ x,c[0]? = some x:=⟨c[0]'(by omega),List.getElem?_eq_getElem _⟩
 obtain⟨hh0,ht0,_⟩:=hG.st x0 hx0
 have HC:=qC hC
 clear hC
 go_enter Tryz.func23,Tryz.ntmps23
 have hW0:zQ (((w.alloc (.cells #[.slice none 0 0,.slice none 0 0,.slice none 0 0,.bool false] 56)).alloc (.cells (madeCells #[.bool false,.int .i64 0,.int .i64 0] (n*3)) 59)).alloc (.cells #[.slice pc n cc,.slice (some ⟨w.heap.size+1,0,none⟩) n n,.slice none 0 0,.bool false] 56)) (w.heap.size+1) (w.heap.size+1+1) (w.heap.size+1) pc n cc c (List.replicate n false) (.slice none 0 0) []:=by
  refine⟨?_,?_,qR.nil _ _,by omega,fun j hj=>(by simp[Value.ownBlock]at hj),by omega,Nat.le_refl _⟩
  ·have:∀ (U:World) (o:Obj) (m:Nat),U.heap.size=m→(U.alloc o).heap[m]? = some o:=fun U o m h=>by subst h;show(U.heap.push o)[U.heap.size]? = _;simp
   exact this _ _ _ (by simp)
  ·exact(qHx _ n (w.heap.size+1) c (by simp)).same (dM _ _ (by simp))
 have gN:Below w.heap.size w (((w.alloc (.cells #[.slice none 0 0,.slice none 0 0,.slice none 0 0,.bool false] 56)).alloc (.cells (madeCells #[.bool false,.int .i64 0,.int .i64 0] (n*3)) 59)).alloc (.cells #[.slice pc n cc,.slice (some ⟨w.heap.size+1,0,none⟩) n n,.slice none 0 0,.bool false] 56)):=qG (qG (qD _ _))
 have hR0:∀ o,o<4→(((w.alloc (.cells #[.slice none 0 0,.slice none 0 0,.slice none 0 0,.bool false] 56)).alloc (.cells (madeCells #[.bool false,.int .i64 0,.int .i64 0] (n*3)) 59)).alloc (.cells #[.slice pc n cc,.slice (some ⟨w.heap.size+1,0,none⟩) n n,.slice none 0 0,.bool false] 56)).heap[w.heap.size]? = some (.cells #[.slice none 0 0,.slice none 0 0,.slice none 0 0,.bool false] 56 (0,0)):=fun o _=>by
  rw[dM _ _ (by simp;omega),dM _ _ (by simp)]
  show(w.heap.push _)[w.heap.size]? = _
  simp
 have qOM:=qG5 (w.heap.size+1) (w.heap.size+1+1) (w.heap.size+1) pc n cc c (List.replicate n false) (.slice none 0 0) [] 0 x0 _ hW0 hx0 (by simp) qDc hn (by simp) (by omega) (by omega) (by simp[qDc])
 rw[hh0,ht0]at qOM
 have HCm:=qC qOM
 have dP:=qC gN
 have HR0:=qC (hR0 0 (by omega))
 clear qOM hW0 gN hR0
 go_wp2_with fail
 refine(qA HCm).mono ?_
 rintro e w1 ⟨rfl,jD,_,av1,hW1⟩
 have y8:=qC ((qA dP).trans (jD.mono (Nat.le_succ _)))
 have HR1:=qC (show w1.heap[w.heap.size]? = some (.cells #[.slice none 0 0,.slice none 0 0,.slice none 0 0,.bool false] 56 (0,0)) by rw[jD.block _ (Nat.lt_succ_self _)];exact qA HR0)
 have yW:=qC ((qA HC).later (qA y8))
 have hWi:=qC hW1
 have qYF:Hid (∀ b off,pc=some ⟨b,off,none⟩→b<w.heap.size+1):=qC fun b off e=>by
  have dZ:0<code.length:=by rw[←kL,List.length_map,hc];exact qDc
  obtain⟨b',qC4,e',q0,_⟩:=qA HC 0 dZ
  rw[e]at e'
  simp at e'
  have jF:b'<w.heap.size:=World.block_lt_of_cell? _ _ q0
  omega
 have HG:=qC hG
 have HCD:=qC kL
 clear jD hW1 HCm hG kL hmk
 go_wp2
 go_loopg [] 1001 (fun gn wx=>∃ (vs:List Bool) (av:Value) (td:List Nat),dN vs td≤gn∧gn≤1001∧Hid (zQ wx (w.heap.size+1) (w.heap.size+1+1) (w.heap.size+1) pc n cc c vs av td)∧Hid (nN c vs td)∧Hid (Below (w.heap.size+1) w1 wx))
 case atStart=>exact⟨_,_,_,Nat.le_succ_of_le (qN3 n hn),Nat.le_refl _,hWi,qC (qNG c n qDc hc),qC (Below.refl _ _)⟩
 case round=>
  clear HC dP HR0 hWi
  obtain⟨vs,av,td,hgk,hg1,hWx,hSx,hBx⟩:=hrel
  obtain⟨z0,z1,z2,z3⟩:=(qA hWx).cells
  have zf:=(qA hWx).free
  have hr:wr.heap[w.heap.size]? = some (.cells #[.slice none 0 0,.slice none 0 0,.slice none 0 0,.bool false] 56 (0,0)):=by rw[(qA hBx).block _ (Nat.lt_succ_self _)];exact qA HR1
  rcases List.eq_nil_or_concat td with rfl | ⟨td,k,rfl⟩
  rotate_left
  ·rw[List.concat_eq_append]at hgk hWx hSx
   have hex:∃ g m cap,av=.slice (some ⟨g,0,none⟩) m cap:=by
    rcases(qA hWx).ah.2 with ⟨_,e⟩ | ⟨g,cap,cur,e,_⟩
    ·simp at e
    ·exact⟨g,_,cap,e⟩
   obtain⟨g,m,cap,rfl⟩:=hex
   obtain⟨hWp,hm,hck,qQV⟩:=(qA hWx).pop
   subst hm
   have HWP:=qC hWp
   have HSP:Hid (gE c vs td k []):=qC ((qA hSx).leave (by simp) (fun j hj=>by rcases List.mem_append.1 hj with h | h;exact .inr h;exact .inl (List.mem_singleton.1 h)) (fun j hj=>List.mem_append_left _ hj))
   have eD:dN vs (td++[k])=dN vs td+1:=by unfold dN;simp;omega
   rw[eD]at hgk
   have qTS:td.length≤dN vs td:=by unfold dN;omega
   have jCf:td.length≤1001:=by omega
   clear qTS
   have HBP:Hid (Below (w.heap.size+1) w1 (wr.setCell ⟨w.heap.size+1+1,2,none⟩ (.slice (some ⟨g,0,none⟩) td.length cap))):=qC ((qA hBx).setCell (Nat.le_succ _) _)
   have HL:=qC (qK6 (w.heap.size+1) (w.heap.size+1+1) (w.heap.size+1) pc n cc S Q c code vs _ td k _ (qA HG) (qA HCD) hc hn hWp (qA HSP) (by omega) ((qA yW).low (qA HBP) (qA qYF)))
   have hdi:((td.length+1:Nat):Int)-1=(td.length:Int):=by omega
   have hd0:(0:Int)<((td.length+1:Nat):Int):=by omega
   generalize td.length=nd at *
   clear hWp hr
   go_wp2_with fail
   refine(qA HL).mono ?_
   rintro e w2 ⟨rfl,qY,xQ,cI,td',s9,vJ,aK⟩
   have tN:=qC s9
   have mO:=qC vJ
   have uF:=qC ((qA HBP).trans qY)
   clear qY s9 vJ
   go_wp2
   go_roundg (gk-1)
   case rel=>exact⟨xQ,cI,td',by omega,by omega,tN,mO,uF⟩
   case measure=>omega
  ·obtain⟨a9,c9,e9⟩:=(qA hWx).ah.slice
   subst e9
   rw[List.map_nil,List.length_nil]at z2
   have HR:=qC hr
   have rf:=unfrozen_of_block hr
   have r0:=(cell_of_block hr 0).trans rfl
   have r1:=(cell_of_block hr 1).trans rfl
   have r2:=(cell_of_block hr 2).trans rfl
   have r3:=(cell_of_block hr 3).trans rfl
   clear hr
   go_wp2
   try simp only[Exit.inBlock,Exit.then]
   refine bodyPost_ret (results_cell_row rfl _ _ w.heap.size 56 #[.slice pc n cc,.slice (some ⟨w.heap.size+1,0,none⟩) n n,.slice a9 0 c9,.bool false] (0,0) _ rfl ?_ Tryz.underlying56 rfl rfl) rfl ?_
   ·exact block_setCell (block_setCell (block_setCell (block_setCell (qA HR) _) _) _) _
   ·have cB:∀ (U:World) (o:Nat) (v:Value),(U.setCell ⟨w.heap.size,o,none⟩ v).heap[w.heap.size+1]? = U.heap[w.heap.size+1]?:=fun U o v=>Below.heap_setCell _ _ _ _ (by simp)
    refine⟨w.heap.size+1,vs,_,rfl,qA hSx,(qA hWx).st.same (by rw[cB,cB,cB,cB]),?_⟩
    exact jE (jE (jE (jE ((qA y8).trans ((qA hBx).mono (Nat.le_succ _))) (Nat.le_refl _)) (Nat.le_refl _)) (Nat.le_refl _)) (Nat.le_refl _)
end
end Go.Proofs.YtbgkfaclfnkloaaGreatDoor
