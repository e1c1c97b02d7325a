import Derived.Test.YtbgkfaclfnkloaaGreatDoorG29
import Derived.Test.YtbgkfaclfnkloaaGreatDoorG21
namespace Go.Proofs.YtbgkfaclfnkloaaGreatDoor
set_option linter.all false
set_option maxHeartbeats 4000000
set_option maxRecDepth 100000
section
open Go.RowKit Go.Joins
theorem bE(w:World){ops:Array Oper}{rest:List Oper}{o:Oper}{a:Act}{Q:Exit→Act→World→Prop}(gM:o.guard=none)(s x:Operand)
  (ho:o.op=.call { callee:=.builtin .append,args:=#[s,x],argTypes:=#[28,28] }) (base g:Nat) (v:Value) (zs:List Int) (c:Int) (hs:a.eval s=v)
  (zE:qR w base v zs) (hx:a.eval x=.slice (some ⟨g,0,none⟩) 1 1) (cM:w.cell? ⟨g,0,none⟩=some (.int .i64 c)) (uA:base≤w.heap.size) (hl:zs.length≤1000000000)
  (h:∀ v' w',qR w' base v' (zs++[c])→sZ v v' w w'→wpList Tryz.prog ops Q rest (a.put o.dst v') w'):wpList Tryz.prog ops Q (o::rest) a w:=by
 obtain⟨i0,hi,wW,wJ,gB⟩:=info_parts l6
 have sL:∀ j u,[Value.int .i64 c][j]? = some u→w.cell? ((⟨g,0,none⟩:Addr).add j)=some u:=by
  intro j u' hj
  match j,hj with
  | 0,hj=>simp at hj;subst hj;simpa[Addr.add]using cM
  | j+1,hj=>simp at hj
 have h1:∀ u∈[Value.int .i64 c],u.oneCell'=true:=by
  intro u' r5
  simp at r5
  subst r5
  rfl
 obtain⟨v',w',hr,h2,h3,h4⟩:=run_append_own (P:=Tryz.prog) w base 28 o.type 3 i0 (.int .i64 0) 1 8 Tryz.underlying28 hi wW wJ gB rfl (by decide) v zs.length (zs.map (Value.int .i64)) zE ⟨g,0,none⟩ 1 1 [.int .i64 c] rfl sL h1 (by unfold maxLen;omega) (by omega) uA
 have hwh:=fN (P:=Tryz.prog) w base 28 o.type 3 i0 (.int .i64 0) 1 8 Tryz.underlying28 hi wW wJ gB v zs.length (zs.map (Value.int .i64)) zE ⟨g,0,none⟩ 1 1 (by omega) [.int .i64 c] rfl sL h1 (by unfold maxLen;omega) (by omega) v' w' hr
 refine wpList_plain gM fun _ hK=>?_
 unfold Oper.wp execOp
 simp only[ho,resolve,invoke,builtin,Sem.run_bind,Sem.run_pure,Result.andThen_ok,List.map_toArray,List.map_cons,List.map_nil,hs,hx,hr]
 rw[show zs.map (Value.int .i64)++[.int .i64 c]=(zs++[c]).map (Value.int .i64) by simp,show zs.length+1=(zs++[c]).length by simp]at h2
 refine hK _ _ (h v' w' h2 ⟨h3,fun j hj=>?_⟩)
 rcases hwh with e | e
 ·exact .inl (e▸hj)
 ·rw[e]at hj
  exact .inr (by have:=Option.some.inj hj;omega)
theorem zD.fence{w:World}{g:Nat}{lp:Option Addr}{lc:PX}{ts:List V3}{v:Value}{s:PS}(h:zD w g lp lc ts v s)(o:Obj)(n c:Nat):zD (w.alloc o) g lp (lc.on (.slice (some ⟨w.heap.size,0,none⟩) n c)) ts v s:=by
 have hg:=h.lt
 refine h.move rfl rfl (by simp) (fun b hb _=>Below.heap_alloc _ _ _ hb) (fun b hb he=>?_) (fun j hj=>?_)
 ·rcases he with he | he
  ·exact he
  ·have:w.heap.size=b:=Option.some.inj he
   omega
 ·rcases hj with hj | hj
  ·have:=h.ex j hj;exact⟨this.1,by simp;omega⟩
  ·have:w.heap.size=j:=Option.some.inj hj
   exact⟨by omega,by simp;omega⟩
theorem zD.app{w w':World}{g:Nat}{lp:Option Addr}{lc:PX}{ts:List V3}{v kv kv':Value}{s:PS}(h:zD w g lp (lc.on kv) ts v s)(hg:sZ kv kv' w w')(hk':∀ j,kv'.ownBlock=some j→g<j∧j<w'.heap.size):zD w' g lp (lc.on kv') ts v s:=by
 have hgl:=h.lt
 refine h.move rfl rfl hg.grown.size (fun b hb he=>hg.block hb (fun j hj e=>he (.inr (by rw[←e];exact hj)))) (fun b hb he=>?_) (fun j hj=>?_)
 ·rcases he with he | he
  ·exact .inl he
  ·rcases hg.lies b he with e | e
   ·exact .inr e
   ·omega
 ·rcases hj with hj | hj
  ·have h1:=h.ex j (.inl hj);have h2:=hg.grown.size;exact⟨h1.1,by omega⟩
  ·exact hk' j hj
theorem zD.drop{w:World}{g:Nat}{lp:Option Addr}{lc:PX}{ts:List V3}{v kv:Value}{s:PS}(h:zD w g lp (lc.on kv) ts v s):zD w g lp lc ts v s:=by
 exact h.move rfl rfl (Nat.le_refl _) (fun _ _ _=>rfl) (fun b _ he=>.inl he) (fun j hj=>h.ex j (.inl hj))
theorem qR.byPK{w w':World}{g:Nat}{lp:Option Addr}{lc:PX}{ts:List V3}{v v' kv:Value}{s:PS}{zs:List Int}(h:qR w (g+1) kv zs)(hp:zD w g lp (lc.on kv) ts v s)(hk:PK g v v' w w'):qR w' (g+1) kv zs:=jJ h fun j hj=>by
 have:=h.own_lt j hj
 exact hk.block j this.2 (by omega) (fun e=>hp.off j e (.inr hj))
theorem jY.byPK{w w':World}{g:Nat}{lp:Option Addr}{lc:PX}{ts:List V3}{v v' kv:Value}{s:PS}{zs:List ByteArray}(h:jY w (g+1) kv zs)(hp:zD w g lp (lc.on kv) ts v s)(hk:PK g v v' w w'):jY w' (g+1) kv zs:=jJ h fun j hj=>by
 have:=h.own_lt j hj
 exact hk.block j this.2 (by omega) (fun e=>hp.off j e (.inr hj))
theorem PK.row{g:Nat}{v v' kv kv':Value}{w0 w w':World}(h:PK g v v' w0 w)(hg:sZ kv kv' w w')(hn:∀ j,kv.ownBlock=some j→w0.heap.size≤j):PK g v v' w0 w':=
 ⟨hg.grown.os.trans h.os,hg.grown.tape.trans h.tape,hg.grown.output.trans h.output,Nat.le_trans h.size hg.grown.size,fun k hk h1 h2=>(hg.block (by have:=h.size;omega) (fun j hj e=>by have:=hn j hj;omega)).trans (h.block k hk h1 h2),h.own⟩
def KL(ks:List Int)(s:PS):Prop:=ks.length≤s.at'+1∧(s.code=0→ks.length≤s.at')
theorem KL.nil(s:PS):KL [] s:=⟨by simp,fun _=>by simp⟩
theorem KL.step{ks:List Int}{r:Int}{s s':PS}(h:KL ks s)(hc:s.code=0)(hle:qI s s')(jF:uP s s'):KL (ks++[r]) s':=by
 have h1:=h.2 hc
 have h2:=hle.at'
 refine⟨by simp;omega,fun e=>?_⟩
 have:=jF e
 simp;omega
theorem qF3{ts:List V3}(qS:Hid (TS ts))(n:Nat)(ih:Hid (∀ k,k≤n→PQ ts k .stmt 84)):PQ ts (n+1) .block 112:=by
 intro g lp lc v s w h hf hd hn
 have hat:=h.hat
 have HC:=qC (mE (qA qS) h ⟨#[123]⟩)
 rw[show(⟨#[123]⟩:ByteArray).data.toList=[123] from rfl]at HC
 rw[run,yB]
 have kN:Hid (qM (qJ ts [123] s)):=qC (hf.same (qO _ _ _))
 have gP:Hid ((qJ ts [123] s).dp≤20):=qC (by rw[q9];exact hd)
 have wK:Hid (zH ts (.blockL []) (qJ ts [123] s)≤n):=qC (zZ (f':=.blockL []) hn hat (qI.refl s).need (fun _ c=>.inr (uP.need (qI.refl s) c)) (fun _=>(show(1:Nat)<2 by decide)))
 generalize qJ ts [123] s=s1 at HC kN gP wK ⊢
 generalize ho:run ts n (.blockL []) s1=o
 have HO:=qC ho
 have hf3:=(qA qS).few
 clear h hf hn ho
 go_enter Tryz.func112,Tryz.ntmps112
 go_wp2_with fail
 refine(qA HC).mono ?_
 rintro e w1 ⟨rfl,bK,kQ⟩
 have hg1:=bK.lt
 have r6:=qC (bK.fence (.cells #[] 3) 0 0)
 have yV:=qC (kQ.alloc (.cells #[] 3))
 have xJ:Hid (qR (w1.alloc (.cells #[] 3)) (g+1) (.slice (some ⟨w1.heap.size,0,none⟩) 0 0) []):=qC (by simpa using qR.lit w1 (g+1) [] (by omega) (by decide))
 have nW:w.heap.size≤w1.heap.size:=kQ.size
 clear HC bK kQ
 go_wp2
 go_loopg [3] n (fun gn kv wx=>∃ (ks:List Int) (s':PS) (v':Value),gn≤n∧Hid (zH ts (.blockL ks) s'≤gn)∧Hid (qR wx (g+1) kv ks)∧Hid (zD wx g lp (lc.on kv) ts v' s')∧Hid (PK g v v' w wx)∧Hid (qM s')∧Hid (s'.dp≤20)∧Hid (KL ks s')∧Hid (∀ j,kv.ownBlock=some j→w.heap.size≤j)∧Hid (run ts gn (.blockL ks) s'=o))
 case atStart=>exact⟨[],s1,v,Nat.le_refl _,wK,xJ,r6,yV,kN,gP,qC (KL.nil _),qC (fun j hj=>by have:w1.heap.size=j:=Option.some.inj hj;omega),HO⟩
 case round=>
  obtain⟨ks,s',v',hgn,HN,HI,HP,HK,HF,HD,HKL,HW,HRn⟩:=hrel
  obtain⟨k,hk⟩:=pG (qA HN)
  obtain⟨ka,kc,sJ⟩:=(qA HI).slice
  subst sJ
  have yY:=qA HRn
  rw[hk,run]at yY
  have uY:=(qA HP).hat
  have hlen:ks.length≤301:=by have:=(qA HKL).1;omega
  have c4:=(qA HP).cells.2.2.2.2.1
  have HT:=qC (jC (qA qS) (qA HP) ⟨#[125]⟩)
  unfold jA at HT
  rw[show(⟨#[125]⟩:ByteArray).data.toList=[125] from rfl]at HT
  have fD:=qC (fun (s2:PS) (v2:Value) (w2:World) (vM:zD w2 g lp (lc.on (.slice ka ks.length kc)) ts v2 s2) (nI:qM s2) (hi2:qR w2 (g+1) (.slice ka ks.length kc) ks)=>qIg (qA qS) vM.drop nI ⟨18,0,em,[],ks⟩ (.slice none 0 0) (.slice ka ks.length kc) 0 (g+1) (jY.nil _ _) hi2 (by simp) (by simp;omega))
  clear r6 yV kN gP wK xJ HO HRn
  by_cases hc:s'.code=0
  ·rw[if_pos hc]at yY
   rw[hc]at c4
   cases hi:kA ts s' [125]with
   | true=>
    have ht:yL ts s' [125]=true:=by unfold yL;rw[hc,hi];rfl
    rw[ht,if_pos rfl]at HT
    rw[if_pos hi]at yY
    have mZ:=qC ((qA HF).same (qN s'))
    clear ht hi hc hk
    subst yY
    go_wp2_with fail
    refine(qA HT).mono ?_
    rintro e w2 ⟨rfl,vM,yN⟩
    have yJ:=qC (qA fD _ _ w2 vM (qA mZ) ((qA HI).byPK (qA HP) yN))
    have qH:=qC ((qA HK).trans yN)
    clear HT vM yN HP HK HI fD c4
    go_wp2_with fail
    refine(qA yJ).mono ?_
    rintro e w3 ⟨rfl,v3,pC,kG⟩
    have HP3:=qC pC
    have yK:=qC ((qA qH).trans kG)
    clear yJ pC kG qH
    go_wp2
    go_ret
    exact⟨rfl,_,qA HP3,qA yK⟩
   | false=>
    have ht:yL ts s' [125]=false:=by unfold yL;rw[hi];simp
    rw[ht,if_neg (by simp)]at HT
    rw[if_neg (nt hi)]at yY
    have gO:=qC (zZ (f:=.blockL ks) (f':=.stmt) (hk▸qA HN) uY (qI.refl s') (fun _ _=>.inl (show(15:Nat)<16 by decide)) (fun c=>absurd hc c))
    have wI:=qC (j3 (f':=.blockL (ks++[(run ts k .stmt s').r])) (hk▸qA HN) uY (j5 ts k .stmt s' s' (qI.refl s')) (yM ts k .stmt s' s' rfl (qI.refl s')) hc)
    have yJ:=qC (fun w2 vM=>qA ih k (by omega) g lp (lc.on (.slice ka ks.length kc)) v' s' w2 vM (qA HF) (qA HD) (qA gO))
    have mZ:=qC ((qA HF).run (ts:=ts) (n:=k) (f:=.stmt))
    have fF:Hid ((run ts k .stmt s').s.dp≤20):=qC (by rw[zC];exact qA HD)
    have rY:=qC ((qA HKL).step (r:=(run ts k .stmt s').r) hc (j5 ts k .stmt s' s' (qI.refl s')) (yM ts k .stmt s' s' rfl (qI.refl s')))
    generalize run ts k .stmt s'=o2 at yJ mZ fF wI rY yY
    have fI:=qC yY
    clear gO HN yY ht hi hc uY HF HD HKL fD
    go_wp2_with fail
    refine(qA HT).mono ?_
    rintro e w2 ⟨rfl,vM,yN⟩
    have tL:=qC (qA yJ w2 vM)
    have z8:=qC vM
    have HI2:=qC ((qA HI).byPK (qA HP) yN)
    have qH:=qC ((qA HK).trans yN)
    clear HT vM yN HK yJ HP HI c4
    go_wp2_with fail
    refine(qA tL).mono ?_
    rintro e w3 ⟨rfl,v3,pC,kG⟩
    have HI3:=qC (((qA HI2).byPK (qA z8) kG).alloc (.cells #[.int .i64 o2.r] 3))
    have HP3:=qC (pC.alloc (.cells #[.int .i64 o2.r] 3))
    have yK:=qC (((qA qH).trans kG).alloc (.cells #[.int .i64 o2.r] 3))
    have hg3:=pC.lt
    clear tL qH pC kG HI2 z8
    go_wp2_with (at_builtin;refine bE _ rfl _ _ rfl (g+1) w3.heap.size _ ks o2.r rfl (qA HI3) rfl (by simp) (by simp;omega) (by omega) ?c0)
    case c0=>
     intro kv4 w4 hI4 hG4
     have n7:=qC ((qA HP3).app hG4 (fun j hj=>hI4.own_lt j hj))
     have fG:=qC ((qA yK).row hG4 (qA HW))
     have HW4:Hid (∀ j,kv4.ownBlock=some j→w.heap.size≤j):=qC (fun j hj=>by
      rcases hG4.lies j hj with e | e
      ·exact qA HW j e
      ·have:=(qA yK).size;omega)
     have HI4:=qC hI4
     clear hI4 hG4 HP3 yK HI3
     go_wp2
     go_roundg k
     case rel=>exact⟨ks++[o2.r],o2.s,v3,by omega,wI,HI4,n7,fG,mZ,fF,rY,HW4,fI⟩
     case measure=>omega
  ·have e0:(s'.code == 0)=false:=beq_eq_false_iff_ne.2 hc
   rw[if_neg hc]at yY
   have yJ:=qC (qA fD _ _ wr (qA HP) (qA HF) (qA HI))
   clear hc hk HT fD HP HI
   subst yY
   go_wp2_with fail
   refine(qA yJ).mono ?_
   rintro e w3 ⟨rfl,v3,pC,kG⟩
   have HP3:=qC pC
   have yK:=qC ((qA HK).trans kG)
   clear yJ pC kG HK
   go_wp2
   go_ret
   exact⟨rfl,_,qA HP3,qA yK⟩
end
section
open Go.RowKit Go.Joins
attribute [local irreducible] run qK iG xK qJ jN jZ jS u9 kA yL qU sF
theorem qHl{ts:List V3}(qS:Hid (TS ts))(n:Nat)(bO:Hid (∀ k,k≤n→PQ ts k .expr 139)){g:Nat}{lp:Option Addr}{lc:PX}{v:Value}{s:PS}{w:World}(h:zD w g lp lc ts v s)(hf:qM s)(hd:s.dp≤20)(hn:zH ts .first s≤n+1)(hc:s.code=0)(kQ:(qU ts s).k=1)(h0:kA ts s [116,114,117,101]=false)(h1:kA ts s [102,97,108,115,101]=false)(h2:kA ts s [110,117,108,108]=false)(h3:kA ts s [40]=false)(hy:yL ts (qK s) [40]=true) :
  PZ 170 g lp lc ts v w (run ts (n+1) .first s):=by
 unfold PZ
 rw[run]
 rw[if_neg (fun h=>h hc),if_neg (fun h=>by rw[kQ]at h;exact absurd h (by decide)),if_neg (fun h=>by rw[kQ]at h;exact absurd h (by decide)),if_neg (nt h0),if_neg (nt h1),if_neg (nt h2),if_neg (nt h3),if_pos kQ,if_pos hy,yB]
 have hat:=h.hat
 have HP:=qC h
 have HK:=qC (PK.refl g v w)
 have mV:=qC hf
 have gH:=qC hd
 have uW:=qC (qI.refl s)
 clear h hf hd
 have HX:=qC (fun v w (hp:zD w g lp lc ts v s)=>xR (qA qS) hp)
 unfold mT at HX
 have fU:(qU ts s).t.size≤1048576:=wO (qA qS)
 have jF:=l0 (ts:=ts) (s:=s) (by rw[kQ];decide)
 have kN:Hid (qM (qK (qK s))):=qC (((qA mV).same (qN _)).same (qN _))
 have gP:Hid ((qK (qK s)).dp≤20):=qC (by rw[qZ,qZ];exact qA gH)
 have wK:Hid (zH ts (.args []) (qK (qK s))≤n):=qC (j3 (f':=.args []) hn hat (qI.refl s).adv.adv (uP.adv (qI.refl s).adv) hc)
 generalize ho:run ts n (.args []) (qK (qK s))=o at ⊢
 have HO:=qC ho
 clear ho
 generalize qU ts s=x at HX fU kQ ⊢
 obtain⟨xk,xn,xt⟩:=x
 simp only at fU kQ
 go_enter Tryz.func170,Tryz.ntmps170
 obtain⟨c0,c1,c2,c3,c4,c5⟩:=(qA HP).cells
 have hg:=(qA HP).lt
 rw[hc]at c4
 have HC:=qC (qA HX _ _ (qA HP))
 clear HX
 go_wp2_with fail
 refine(qA HC).mono ?_
 rintro e wx ⟨rfl,hb⟩
 have x8:=qC ((qA HP).later hb)
 have cK:=qC ((qA HK).then_below hb)
 clear HC hb HK HP c0 c1 c2 c3 c4 c5 hg
 have hg:=(qA x8).lt
 have p9:wx.heap.size≠g:=by omega
 have dY:v.ownBlock≠some wx.heap.size:=fun e=>by have:=(qA x8).own _ e;omega
 subst kQ
 have HP:=qC ((qA x8).fence (.cells #[.int .i64 1,.int .i64 xn,.string xt] 150) 0 0)
 have HK:=qC ((qA cK).alloc (.cells #[.int .i64 1,.int .i64 xn,.string xt] 150))
 have uQ:(wx.alloc (.cells #[.int .i64 1,.int .i64 xn,.string xt] 150)).cell? ⟨wx.heap.size,0,none⟩=some (.int .i64 1):=by simp
 have qY:(wx.alloc (.cells #[.int .i64 1,.int .i64 xn,.string xt] 150)).cell? ⟨wx.heap.size,2,none⟩=some (.string xt):=by simp
 have hwx:Hid (w.heap.size≤wx.heap.size):=qC (qA cK).size
 clear x8 cK
 generalize hlb:lc.on (.slice (some ⟨wx.heap.size,0,none⟩) 0 0)=lb at HP
 have HLB:=qC hlb
 clear hlb
 have HC:=qC (jC (qA qS) (qA HP) (⟨#[116,114,117,101]⟩:ByteArray))
 unfold jA at HC
 rw[show(⟨#[116,114,117,101]⟩:ByteArray).data.toList=[116,114,117,101] from rfl,wU hc,h0,if_neg (by simp)]at HC
 clear HP
 go_wp2_with fail
 refine(qA HC).mono ?_
 rintro e w1 ⟨rfl,hp,hk⟩
 have yO:=hk.cell uQ p9 dY
 have yG:=hk.cell qY p9 dY
 clear uQ qY
 have uQ:=yO
 have qY:=yG
 clear yO yG
 have HP:=qC hp
 have qH:=qC ((qA HK).trans hk)
 clear HC hp hk HK
 have HK:=qH
 clear qH
 have HC:=qC (jC (qA qS) (qA HP) (⟨#[102,97,108,115,101]⟩:ByteArray))
 unfold jA at HC
 rw[show(⟨#[102,97,108,115,101]⟩:ByteArray).data.toList=[102,97,108,115,101] from rfl,wU hc,h1,if_neg (by simp)]at HC
 clear HP
 go_wp2_with fail
 refine(qA HC).mono ?_
 rintro e w2 ⟨rfl,hp,hk⟩
 have yO:=hk.cell uQ p9 dY
 have yG:=hk.cell qY p9 dY
 clear uQ qY
 have uQ:=yO
 have qY:=yG
 clear yO yG
 have HP:=qC hp
 have qH:=qC ((qA HK).trans hk)
 clear HC hp hk HK
 have HK:=qH
 clear qH
 have HC:=qC (jC (qA qS) (qA HP) (⟨#[110,117,108,108]⟩:ByteArray))
 unfold jA at HC
 rw[show(⟨#[110,117,108,108]⟩:ByteArray).data.toList=[110,117,108,108] from rfl,wU hc,h2,if_neg (by simp)]at HC
 clear HP
 go_wp2_with fail
 refine(qA HC).mono ?_
 rintro e w3 ⟨rfl,hp,hk⟩
 have yO:=hk.cell uQ p9 dY
 have yG:=hk.cell qY p9 dY
 clear uQ qY
 have uQ:=yO
 have qY:=yG
 clear yO yG
 have HP:=qC hp
 have qH:=qC ((qA HK).trans hk)
 clear HC hp hk HK
 have HK:=qH
 clear qH
 have HC:=qC (jC (qA qS) (qA HP) (⟨#[40]⟩:ByteArray))
 unfold jA at HC
 rw[show(⟨#[40]⟩:ByteArray).data.toList=[40] from rfl,wU hc,h3,if_neg (by simp)]at HC
 clear HP
 go_wp2_with fail
 refine(qA HC).mono ?_
 rintro e w4 ⟨rfl,hp,hk⟩
 have yO:=hk.cell uQ p9 dY
 have yG:=hk.cell qY p9 dY
 clear uQ qY
 have uQ:=yO
 have qY:=yG
 clear yO yG
 have HP:=qC hp
 have qH:=qC ((qA HK).trans hk)
 clear HC hp hk HK
 have HK:=qH
 clear qH
 obtain⟨c0,c1,c2,c3,c4,c5⟩:=(qA HP).cells
 have z1:=(qA HP).free 1
 have hf3:=(qA qS).few
 have hg:=(qA HP).lt
 have z8:=qC ((qA HP).adv jF)
 have qH:=qC ((qA HK).set (o:=1) (x:=.int .i64 ((s.at':Int)+1)))
 clear HP HK
 have HK:=qH
 have HP:=z8
 clear qH z8 c0 c2 c3 c4 c5
 have yO:(w4.setCell ⟨g,1,none⟩ (.int .i64 ((s.at':Int)+1))).cell? ⟨wx.heap.size,0,none⟩=some (.int .i64 1):=by rw[World.cell?_setCell_other _ _ _ _ (by simp)];exact uQ
 have yG:(w4.setCell ⟨g,1,none⟩ (.int .i64 ((s.at':Int)+1))).cell? ⟨wx.heap.size,2,none⟩=some (.string xt):=by rw[World.cell?_setCell_other _ _ _ _ (by simp)];exact qY
 have HC:=qC (jC (qA qS) (qA HP) (⟨#[40]⟩:ByteArray))
 unfold jA at HC
 rw[show(⟨#[40]⟩:ByteArray).data.toList=[40] from rfl,hy,if_pos rfl]at HC
 clear HP
 go_wp2_with fail
 refine(qA HC).mono ?_
 rintro e wt ⟨rfl,bK,kQ⟩
 have qQD:=kQ.cell yG p9 dY
 have hg1:=bK.lt
 have hxt:wx.heap.size<wt.heap.size:=World.block_lt_of_cell? _ _ qQD
 have r6:=qC (bK.fence (.cells #[] 3) 0 0)
 have qJI:=(qA HK).trans kQ
 have yV:=qC (qJI.alloc (.cells #[] 3))
 have xJ:Hid (qR (wt.alloc (.cells #[] 3)) (g+1) (.slice (some ⟨wt.heap.size,0,none⟩) 0 0) []):=qC (by simpa using qR.lit wt (g+1) [] (by omega) (by decide))
 have nW:w.heap.size≤wt.heap.size:=qJI.size
 have y8:Hid ((wt.alloc (.cells #[] 3)).cell? ⟨wx.heap.size,2,none⟩=some (.string xt)):=qC (cell_later (qD _ _) qQD)
 clear HC bK kQ qJI HK uQ qY yO yG qQD c1 z1
 have hf3:=(qA qS).few
 generalize qK (qK s)=s1 at r6 kN gP wK HO
 go_wp2
 go_loopg [7] n (fun gn kv wl=>∃ (ks:List Int) (s':PS) (v':Value),gn≤n∧Hid (zH ts (.args ks) s'≤gn)∧Hid (qR wl (g+1) kv ks)∧Hid (zD wl g lp (lb.on kv) ts v' s')∧Hid (PK g v v' w wl)∧Hid (qM s')∧Hid (s'.dp≤20)∧Hid (KL ks s')∧Hid (∀ j,kv.ownBlock=some j→w.heap.size≤j∧wx.heap.size<j)∧Hid (wl.cell? ⟨wx.heap.size,2,none⟩=some (.string xt))∧Hid (run ts gn (.args ks) s'=o))
 case atStart=>exact⟨[],s1,v,Nat.le_refl _,wK,xJ,r6,yV,kN,gP,qC (KL.nil _),qC (fun j hj=>by have:wt.heap.size=j:=Option.some.inj hj;omega),y8,HO⟩
 case round=>
  obtain⟨ks,s',v',hgn,HN,HI,HP,HK,HF,HD,HKL,HW,HB,HRn⟩:=hrel
  obtain⟨k,hk⟩:=pG (qA HN)
  obtain⟨ka,kc,sJ⟩:=(qA HI).slice
  subst sJ
  have yY:=qA HRn
  rw[hk,run]at yY
  have uY:=(qA HP).hat
  have hlen:ks.length≤301:=by have:=(qA HKL).1;omega
  have c4:=(qA HP).cells.2.2.2.2.1
  have HXE:Hid (∀ s2 v2 w2,zD w2 g lp (lb.on (.slice ka ks.length kc)) ts v2 s2→v2.ownBlock≠some wx.heap.size):=qC (fun s2 v2 w2 vM e=>vM.off _ e (.inl (by rw[←qA HLB];exact .inr rfl)))
  have HT:=qC (jC (qA qS) (qA HP) (⟨#[41]⟩:ByteArray))
  unfold jA at HT
  rw[show(⟨#[41]⟩:ByteArray).data.toList=[41] from rfl]at HT
  have fD:=qC (fun (s2:PS) (v2:Value) (w2:World) (vM:zD w2 g lp (lb.on (.slice ka ks.length kc)) ts v2 s2) (nI:qM s2) (hi2:qR w2 (g+1) (.slice ka ks.length kc) ks)=>qIg (qA qS) (zD.drop (kv:=.slice (some ⟨wx.heap.size,0,none⟩) 0 0) (lc:=lc) (by rw[qA HLB];exact vM.drop)) nI ⟨10,0,xt,[],ks⟩ (.slice none 0 0) (.slice ka ks.length kc) 0 (g+1) (jY.nil _ _) hi2 (by simp) (by simp;omega))
  clear r6 yV kN gP wK xJ HO HRn y8 HLB
  by_cases hc9:s'.code=0
  ·rw[if_pos hc9]at yY
   rw[hc9]at c4
   cases hi9:kA ts s' [41]with
   | true=>
    have ht:yL ts s' [41]=true:=by unfold yL;rw[hc9,hi9];rfl
    rw[ht,if_pos rfl]at HT
    rw[if_pos hi9]at yY
    have mZ:=qC ((qA HF).same (qN s'))
    clear ht hi9 hc9 hk
    subst yY
    go_wp2_with fail
    refine(qA HT).mono ?_
    rintro e w2 ⟨rfl,vM,yN⟩
    have yJ:=qC (qA fD _ _ w2 vM (qA mZ) ((qA HI).byPK (qA HP) yN))
    have qH:=qC ((qA HK).trans yN)
    have hbt:=yN.cell (qA HB) p9 (qA HXE _ _ _ (qA HP))
    clear HT vM yN HP HK HI fD c4 HB
    go_wp2_with fail
    refine(qA yJ).mono ?_
    rintro e w3 ⟨rfl,v3,pC,kG⟩
    have HP3:=qC pC
    have yK:=qC ((qA qH).trans kG)
    clear yJ pC kG qH
    go_wp2
    go_ret
    exact⟨rfl,_,qA HP3,qA yK⟩
   | false=>
    have ht:yL ts s' [41]=false:=by unfold yL;rw[hi9];simp
    rw[ht,if_neg (by simp)]at HT
    rw[if_neg (nt hi9)]at yY
    have HLE:Hid (qI s' (xK ts ks.length s')):=qC (qI.refl s').com
    have gO:=qC (zZ (f:=.args ks) (f':=.expr) (hk▸qA HN) uY (qA HLE) (fun _ _=>.inl (show(12:Nat)<13 by decide)) (fun c=>absurd hc9 c))
    have wI:=qC (j3 (f':=.args (ks++[(run ts k .expr (xK ts ks.length s')).r])) (hk▸qA HN) uY (j5 ts k .expr s' (xK ts ks.length s') (qA HLE)) (yM ts k .expr s' (xK ts ks.length s') rfl (qA HLE)) hc9)
    have yJ:=qC (fun w2 vM=>qA bO k (by omega) g lp (lb.on (.slice ka ks.length kc)) v' (xK ts ks.length s') w2 vM ((qA HF).same (jH _ _ _)) (by rw[zG];exact qA HD) (qA gO))
    have mZ:=qC (((qA HF).same (jH ts ks.length s')).run (ts:=ts) (n:=k) (f:=.expr))
    have fF:Hid ((run ts k .expr (xK ts ks.length s')).s.dp≤20):=qC (by rw[zC,zG];exact qA HD)
    have rY:=qC ((qA HKL).step (r:=(run ts k .expr (xK ts ks.length s')).r) hc9 (j5 ts k .expr s' (xK ts ks.length s') (qA HLE)) (yM ts k .expr s' (xK ts ks.length s') rfl (qA HLE)))
    generalize run ts k .expr (xK ts ks.length s')=o2 at yJ mZ fF wI rY yY
    have fI:=qC yY
    clear gO HN yY ht hi9 hc9 uY HF HD HKL fD HLE
    by_cases hz:0<ks.length
    ·have hzi:(0:Int)<(ks.length:Int):=by omega
     rw[show xK ts ks.length s'=qJ ts [44] s' by unfold xK;rw[if_pos hz]]at yJ
     go_wp2_with fail
     refine(qA HT).mono ?_
     rintro e w2 ⟨rfl,vM,yN⟩
     have HI2:=qC ((qA HI).byPK (qA HP) yN)
     have qH:=qC ((qA HK).trans yN)
     have HBt:=qC (yN.cell (qA HB) p9 (qA HXE _ _ _ (qA HP)))
     have nH:=qC (mE (qA qS) vM (⟨#[44]⟩:ByteArray))
     rw[show(⟨#[44]⟩:ByteArray).data.toList=[44] from rfl]at nH
     have z8:=qC vM
     clear HT vM yN HK HP HI c4 HB
     go_wp2_with fail
     refine(qA nH).mono ?_
     rintro e w8 ⟨rfl,hp8,hk8⟩
     have tL:=qC (qA yJ w8 hp8)
     have HP8:=qC hp8
     have HI8:=qC ((qA HI2).byPK (qA z8) hk8)
     have HK8:=qC ((qA qH).trans hk8)
     have HB8:=qC (hk8.cell (qA HBt) p9 (qA HXE _ _ _ (qA z8)))
     clear nH hp8 hk8 qH yJ z8 HI2 HBt
     go_wp2_with fail
     refine(qA tL).mono ?_
     rintro e w3 ⟨rfl,v3,pC,kG⟩
     have HI3:=qC (((qA HI8).byPK (qA HP8) kG).alloc (.cells #[.int .i64 o2.r] 3))
     have HP3:=qC (pC.alloc (.cells #[.int .i64 o2.r] 3))
     have yK:=qC (((qA HK8).trans kG).alloc (.cells #[.int .i64 o2.r] 3))
     have uO:=qC (cell_later (qD w3 (.cells #[.int .i64 o2.r] 3)) (kG.cell (qA HB8) p9 (qA HXE _ _ _ (qA HP8))))
     have hg3:=pC.lt
     clear tL HK8 pC kG HI8 HP8 HB8
     go_wp2_with (at_builtin;refine bE _ rfl _ _ rfl (g+1) w3.heap.size _ ks o2.r rfl (qA HI3) rfl (by simp) (by simp;omega) (by omega) ?c0)
     case c0=>
      intro kv4 w4 hI4 hG4
      have n7:=qC ((qA HP3).app hG4 (fun j hj=>hI4.own_lt j hj))
      have fG:=qC ((qA yK).row hG4 (fun j hj=>(qA HW j hj).1))
      have pV:=qC (hG4.cell (qA uO) (fun j hj e=>by have:=(qA HW j hj).2;omega))
      have HW4:Hid (∀ j,kv4.ownBlock=some j→w.heap.size≤j∧wx.heap.size<j):=qC (fun j hj=>by
       rcases hG4.lies j hj with e | e
       ·exact qA HW j e
       ·have h1:=(qA yK).size;have h2:wx.heap.size<(w3.alloc (.cells #[.int .i64 o2.r] 3)).heap.size:=World.block_lt_of_cell? _ _ (qA uO);exact⟨by omega,by omega⟩)
      have HI4:=qC hI4
      clear hI4 hG4 HP3 yK HI3 uO
      go_wp2
      go_roundg k
      case rel=>exact⟨ks++[o2.r],o2.s,v3,by omega,wI,HI4,n7,fG,mZ,fF,rY,HW4,pV,fI⟩
      case measure=>omega
    ·have hzi:¬(0:Int)<(ks.length:Int):=by omega
     rw[show xK ts ks.length s'=s' by unfold xK;rw[if_neg hz]]at yJ
     go_wp2_with fail
     refine(qA HT).mono ?_
     rintro e w2 ⟨rfl,vM,yN⟩
     have HI2:=qC ((qA HI).byPK (qA HP) yN)
     have qH:=qC ((qA HK).trans yN)
     have HBt:=qC (yN.cell (qA HB) p9 (qA HXE _ _ _ (qA HP)))
     have tL:=qC (qA yJ w2 vM)
     have z8:=qC vM
     clear HT vM yN HK HP HI c4 HB yJ
     go_wp2_with fail
     refine(qA tL).mono ?_
     rintro e w3 ⟨rfl,v3,pC,kG⟩
     have HI3:=qC (((qA HI2).byPK (qA z8) kG).alloc (.cells #[.int .i64 o2.r] 3))
     have HP3:=qC (pC.alloc (.cells #[.int .i64 o2.r] 3))
     have yK:=qC (((qA qH).trans kG).alloc (.cells #[.int .i64 o2.r] 3))
     have uO:=qC (cell_later (qD w3 (.cells #[.int .i64 o2.r] 3)) (kG.cell (qA HBt) p9 (qA HXE _ _ _ (qA z8))))
     have hg3:=pC.lt
     clear tL qH pC kG HI2 z8 HBt
     go_wp2_with (at_builtin;refine bE _ rfl _ _ rfl (g+1) w3.heap.size _ ks o2.r rfl (qA HI3) rfl (by simp) (by simp;omega) (by omega) ?c0)
     case c0=>
      intro kv4 w4 hI4 hG4
      have n7:=qC ((qA HP3).app hG4 (fun j hj=>hI4.own_lt j hj))
      have fG:=qC ((qA yK).row hG4 (fun j hj=>(qA HW j hj).1))
      have pV:=qC (hG4.cell (qA uO) (fun j hj e=>by have:=(qA HW j hj).2;omega))
      have HW4:Hid (∀ j,kv4.ownBlock=some j→w.heap.size≤j∧wx.heap.size<j):=qC (fun j hj=>by
       rcases hG4.lies j hj with e | e
       ·exact qA HW j e
       ·have h1:=(qA yK).size;have h2:wx.heap.size<(w3.alloc (.cells #[.int .i64 o2.r] 3)).heap.size:=World.block_lt_of_cell? _ _ (qA uO);exact⟨by omega,by omega⟩)
      have HI4:=qC hI4
      clear hI4 hG4 HP3 yK HI3 uO
      go_wp2
      go_roundg k
      case rel=>exact⟨ks++[o2.r],o2.s,v3,by omega,wI,HI4,n7,fG,mZ,fF,rY,HW4,pV,fI⟩
      case measure=>omega
  ·have e0:(s'.code == 0)=false:=beq_eq_false_iff_ne.2 hc9
   rw[if_neg hc9]at yY
   have yJ:=qC (qA fD _ _ wr (qA HP) (qA HF) (qA HI))
   have hbt:=qA HB
   clear hc9 hk HT fD HP HI HB
   subst yY
   go_wp2_with fail
   refine(qA yJ).mono ?_
   rintro e w3 ⟨rfl,v3,pC,kG⟩
   have HP3:=qC pC
   have yK:=qC ((qA HK).trans kG)
   clear yJ pC kG HK
   go_wp2
   go_ret
   exact⟨rfl,_,qA HP3,qA yK⟩
end
section
open Go.RowKit Go.Joins
attribute [local irreducible] run qK iG xK qJ jN jZ jS u9 kA yL qU sF
def KN(m:Nat)(s:PS):Prop:=m≤s.at'+1∧(s.code=0→m≤s.at')
theorem KN.step{m:Nat}{s s':PS}(h:KN m s)(hc:s.code=0)(hle:qI s s')(jF:uP s s'):KN (m+1) s':=by
 have h1:=h.2 hc
 have h2:=hle.at'
 exact⟨by omega,fun e=>by have:=jF e;omega⟩
theorem KN.same{m:Nat}{s s':PS}(h:KN m s)(hle:qI s s'):KN m s':=by
 have h2:=hle.at'
 exact⟨by have:=h.1;omega,fun e=>by have:=h.2 (hle.code e);omega⟩
theorem qJm{ts:List V3}(qS:Hid (TS ts))(n:Nat)(ihB:Hid (∀ k,k≤n→PQ ts k .block 112)):PQ ts (n+1) .func 83:=by
 intro g lp lc v s w h hf hd hn
 have hat:=h.hat
 rw[run,yB]
 have HC:=qC (qGz (qA qS) h)
 have yW:=qC (fun w1 (hp:zD w1 g lp lc ts v (jN ts s).2)=>mE (qA qS) hp (⟨#[40]⟩:ByteArray))
 rw[show(⟨#[40]⟩:ByteArray).data.toList=[40] from rfl]at yW
 have kN:Hid (qM (qJ ts [40] (jN ts s).2)):=qC ((hf.same (qV _ _)).same (qO _ _ _))
 have gP:Hid ((qJ ts [40] (jN ts s).2).dp≤20):=qC (by rw[q9,jO];exact hd)
 have qQB:Hid (qI s (qJ ts [40] (jN ts s).2)):=qC (qI.refl s).name.need
 have qQO:Hid (uP s (qJ ts [40] (jN ts s).2)):=qC (uP.need (qI.refl s).name)
 have wK:Hid (zH ts (.funcL []) (qJ ts [40] (jN ts s).2)≤n):=qC (zZ (f':=.funcL []) hn hat (qA qQB) (fun _ c=>.inr (qA qQO c)) (fun _=>(show(1:Nat)<3 by decide)))
 generalize hs1:qJ ts [40] (jN ts s).2=s1 at yW kN gP wK qQB qQO ⊢
 generalize hs0:(jN ts s).2=s0 at HC yW
 generalize (jN ts s).1=xn at HC ⊢
 have qTj:=qC (j5 ts n (.funcL []) s s1 (qA qQB))
 have qSM:=qC ((qA qQO).loop (ts:=ts) (n:=n) (f:=.funcL []))
 have HFo:=qC ((qA kN).run (ts:=ts) (n:=n) (f:=.funcL []))
 have HDo:Hid ((run ts n (.funcL []) s1).s.dp≤20):=qC (by rw[zC];exact qA gP)
 generalize ho:run ts n (.funcL []) s1=o at qTj qSM HFo HDo ⊢
 have HO:=qC ho
 have HB:=qC (fun (lc2:PX) v2 w2 (vM:zD w2 g lp lc2 ts v2 o.s)=>qA ihB n (Nat.le_refl _) g lp lc2 v2 o.s w2 vM (qA HFo) (qA HDo) (zZ hn hat (qA qTj) (fun _ c=>.inr (qA qSM c)) (fun _=>(show(2:Nat)<3 by decide))))
 have HFb:=qC ((qA HFo).run (ts:=ts) (n:=n) (f:=.block))
 generalize run ts n .block o.s=ob at HB HFb ⊢
 have hf3:=(qA qS).few
 clear h hf hn ho hs1 hs0 qQB qQO qTj qSM HFo HDo
 go_enter Tryz.func83,Tryz.ntmps83
 go_wp2_with fail
 refine(qA HC).mono ?_
 rintro e w0 ⟨rfl,hp0,fH⟩
 have HCC:=qC (qA yW w0 hp0)
 have HK0:=qC fH
 clear HC yW hp0 fH
 go_wp2_with fail
 refine(qA HCC).mono ?_
 rintro e w1 ⟨rfl,bK,kQ⟩
 have hg1:=bK.lt
 have qJI:=(qA HK0).trans kQ
 have r6:=qC (bK.fence (.cells #[] 9) 0 0)
 have yV:=qC (qJI.alloc (.cells #[] 9))
 have xJ:Hid (jY (w1.alloc (.cells #[] 9)) (g+1) (.slice (some ⟨w1.heap.size,0,none⟩) 0 0) []):=qC (by simpa using jY.lit w1 (g+1) [] (by omega) (by decide))
 have nW:w.heap.size≤w1.heap.size:=qJI.size
 clear HCC bK kQ qJI HK0
 go_wp2
 go_loopg [4] n (fun gn kv wl=>∃ (nm:List ByteArray) (s':PS) (v':Value),gn≤n∧Hid (zH ts (.funcL nm) s'≤gn)∧Hid (jY wl (g+1) kv nm)∧Hid (zD wl g lp (lc.on kv) ts v' s')∧Hid (PK g v v' w wl)∧Hid (qM s')∧Hid (s'.dp≤20)∧Hid (KN nm.length s')∧Hid (∀ j,kv.ownBlock=some j→w.heap.size≤j)∧Hid (run ts gn (.funcL nm) s'=o))
 case atStart=>exact⟨[],s1,v,Nat.le_refl _,wK,xJ,r6,yV,kN,gP,qC ⟨by simp,fun _=>by simp⟩,qC (fun j hj=>by have:w1.heap.size=j:=Option.some.inj hj;omega),HO⟩
 case round=>
  obtain⟨nm,s',v',hgn,HN,HI,HP,HK,HF,HD,HKL,HW,HRn⟩:=hrel
  obtain⟨k,hk⟩:=pG (qA HN)
  obtain⟨ka,kc,sJ⟩:=(qA HI).slice
  subst sJ
  have yY:=qA HRn
  rw[hk,run]at yY
  have uY:=(qA HP).hat
  have hlen:nm.length≤301:=by have:=(qA HKL).1;omega
  have c4:=(qA HP).cells.2.2.2.2.1
  have HT:=qC (jC (qA qS) (qA HP) (⟨#[41]⟩:ByteArray))
  unfold jA at HT
  rw[show(⟨#[41]⟩:ByteArray).data.toList=[41] from rfl]at HT
  clear r6 yV kN gP wK xJ HO HRn
  by_cases hc:s'.code=0
  ·rw[if_pos hc]at yY
   rw[hc]at c4
   cases hi:kA ts s' [41]with
   | true=>
    have ht:yL ts s' [41]=true:=by unfold yL;rw[hc,hi];rfl
    rw[ht,if_pos rfl]at HT
    rw[if_pos hi]at yY
    clear ht hi hc hk
    subst yY
    go_wp2_with fail
    refine(qA HT).mono ?_
    rintro e w2 ⟨rfl,vM,yN⟩
    have yJ:=qC (qA HB _ _ w2 vM)
    have z8:=qC vM
    have HI2:=qC ((qA HI).byPK (qA HP) yN)
    have qH:=qC ((qA HK).trans yN)
    clear HT vM yN HP HK HI c4
    go_wp2_with fail
    refine(qA yJ).mono ?_
    rintro e w5 ⟨rfl,v5,wT,hk5⟩
    have iW:qR (w5.alloc (.cells #[.int .i64 ob.r] 3)) w5.heap.size (.slice (some ⟨w5.heap.size,0,none⟩) 1 1) [ob.r]:=by simpa using qR.lit w5 w5.heap.size [ob.r] (Nat.le_refl _) (by simp[maxLen])
    have HC6:=qC (qIg (qA qS) ((wT.drop).alloc (.cells #[.int .i64 ob.r] 3)) (qA HFb) ⟨20,0,xn,nm,[ob.r]⟩ (.slice ka nm.length kc) (.slice (some ⟨w5.heap.size,0,none⟩) 1 1) (g+1) w5.heap.size (((qA HI2).byPK (qA z8) hk5).alloc _) iW (by simp;omega) (by simp))
    have tV:=qC (((qA qH).trans hk5).alloc (.cells #[.int .i64 ob.r] 3))
    clear yJ wT hk5 HI2 z8 qH iW
    go_wp2_with fail
    refine(qA HC6).mono ?_
    rintro e w3 ⟨rfl,v3,pC,kG⟩
    have HP3:=qC pC
    have yK:=qC ((qA tV).trans kG)
    clear HC6 pC kG tV
    go_wp2
    go_ret
    exact⟨rfl,_,qA HP3,qA yK⟩
   | false=>
    have ht:yL ts s' [41]=false:=by unfold yL;rw[hi];simp
    rw[ht,if_neg (by simp)]at HT
    rw[if_neg (nt hi)]at yY
    by_cases hz:0<nm.length
    ·have hzi:(0:Int)<(nm.length:Int):=by omega
     rw[show xK ts nm.length s'=qJ ts [44] s' by unfold xK;rw[if_pos hz]]at yY
     have nH:=qC (fun v2 w2 (vM:zD w2 g lp (lc.on (.slice ka nm.length kc)) ts v2 s')=>mE (qA qS) vM (⟨#[44]⟩:ByteArray))
     rw[show(⟨#[44]⟩:ByteArray).data.toList=[44] from rfl]at nH
     by_cases wZ:(qJ ts [44] s').code=0
     ·rw[if_pos wZ]at yY
      have HF3:Hid (qM (jN ts (qJ ts [44] s')).2):=qC (((qA HF).same (qO _ _ _)).same (qV _ _))
      have HD3:Hid ((jN ts (qJ ts [44] s')).2.dp≤20):=qC (by rw[jO,q9];exact qA HD)
      have wI:Hid (zH ts (.funcL (nm++[(jN ts (qJ ts [44] s')).1])) (jN ts (qJ ts [44] s')).2≤k):=qC (j3 (f':=.funcL _) (hk▸qA HN) uY (qI.refl s').need.name (uP.name (qI.refl s').need) hc)
      have HL3:Hid (KN (nm++[(jN ts (qJ ts [44] s')).1]).length (jN ts (qJ ts [44] s')).2):=qC (by rw[List.length_append];exact(qA HKL).step hc (qI.refl s').need.name (uP.name (qI.refl s').need))
      have fI:=qC yY
      have HSQ:Hid (∀ w2 (vM:zD w2 g lp (lc.on (.slice ka nm.length kc)) ts v' (qJ ts [44] s')),Calls Tryz.prog 110 #[.pointer (some ⟨g,0,none⟩)] w2 fun e w'=>e=.returned (.string (jN ts (qJ ts [44] s')).1)∧zD w' g lp (lc.on (.slice ka nm.length kc)) ts v' (jN ts (qJ ts [44] s')).2∧PK g v' v' w2 w'):=qC (fun w2 vM=>qGz (qA qS) vM)
      generalize (jN ts (qJ ts [44] s')).1=xm at wI HL3 fI HSQ
      generalize (jN ts (qJ ts [44] s')).2=s3 at wI HL3 fI HF3 HD3 HSQ
      clear HN yY ht hi hc uY HF HD HKL hz
      go_wp2_with fail
      refine(qA HT).mono ?_
      rintro e w2 ⟨rfl,vM,yN⟩
      have HI2:=qC ((qA HI).byPK (qA HP) yN)
      have qH:=qC ((qA HK).trans yN)
      have z8:=qC vM
      have qOK:=qC (qA nH _ _ vM)
      clear HT vM yN HK HP HI c4 nH
      go_wp2_with fail
      refine(qA qOK).mono ?_
      rintro e w8 ⟨rfl,hp8,hk8⟩
      have c8:=hp8.cells.2.2.2.2.1
      rw[wZ]at c8
      have HPc:=qC hp8
      have HIc:=qC ((qA HI2).byPK (qA z8) hk8)
      have HKc:=qC ((qA qH).trans hk8)
      have HCM:=qC (qA HSQ w8 hp8)
      clear qOK hp8 hk8 qH z8 HI2 HSQ
      go_wp2_with fail
      refine(qA HCM).mono ?_
      rintro e w3 ⟨rfl,pC,kG⟩
      have HI3:=qC (((qA HIc).byPK (qA HPc) kG).alloc (.cells #[.string xm] 9))
      have HP3:=qC (pC.alloc (.cells #[.string xm] 9))
      have yK:=qC (((qA HKc).trans kG).alloc (.cells #[.string xm] 9))
      have hg3:=pC.lt
      clear HCM HKc pC kG HIc HPc
      go_wp2_with (at_builtin;refine qAG _ rfl _ _ rfl (g+1) w3.heap.size _ nm xm rfl (qA HI3) rfl (by simp) (by simp;omega) (by omega) ?c0)
      case c0=>
       intro kv4 w4 hI4 hG4
       have n7:=qC ((qA HP3).app hG4 (fun j hj=>hI4.own_lt j hj))
       have fG:=qC ((qA yK).row hG4 (qA HW))
       have HW4:Hid (∀ j,kv4.ownBlock=some j→w.heap.size≤j):=qC (fun j hj=>by
        rcases hG4.lies j hj with e | e
        ·exact qA HW j e
        ·have h1:=(qA yK).size;omega)
       have HI4:=qC hI4
       clear hI4 hG4 HP3 yK HI3
       go_wp2
       go_roundg k
       case rel=>exact⟨nm++[xm],s3,v',by omega,wI,HI4,n7,fG,HF3,HD3,HL3,HW4,fI⟩
       case measure=>omega
     ·rw[if_neg wZ]at yY
      have wI:Hid (zH ts (.funcL nm) (qJ ts [44] s')≤k):=qC (zZ (f:=.funcL nm) (f':=.funcL nm) (hk▸qA HN) uY (qI.refl s').need (fun _ c=>absurd c wZ) (fun c=>absurd hc c))
      have HF3:Hid (qM (qJ ts [44] s')):=qC ((qA HF).same (qO _ _ _))
      have HD3:Hid ((qJ ts [44] s').dp≤20):=qC (by rw[q9];exact qA HD)
      have HL3:Hid (KN nm.length (qJ ts [44] s')):=qC ((qA HKL).same (qI.refl s').need)
      have fI:=qC yY
      have e8:((qJ ts [44] s').code == 0)=false:=beq_eq_false_iff_ne.2 wZ
      clear HN yY ht hi hc uY HF HD HKL hz
      go_wp2_with fail
      refine(qA HT).mono ?_
      rintro e w2 ⟨rfl,vM,yN⟩
      have HI2:=qC ((qA HI).byPK (qA HP) yN)
      have qH:=qC ((qA HK).trans yN)
      have z8:=qC vM
      have qOK:=qC (qA nH _ _ vM)
      clear HT vM yN HK HP HI c4 nH
      go_wp2_with fail
      refine(qA qOK).mono ?_
      rintro e w8 ⟨rfl,hp8,hk8⟩
      have c8:=hp8.cells.2.2.2.2.1
      have HP8:=qC hp8
      have HI8:=qC ((qA HI2).byPK (qA z8) hk8)
      have HK8:=qC ((qA qH).trans hk8)
      clear qOK hp8 hk8 qH z8 HI2
      go_wp2
      go_roundg k
      case rel=>exact⟨nm,_,v',by omega,wI,HI8,HP8,HK8,HF3,HD3,HL3,HW,fI⟩
      case measure=>omega
    ·have hzi:¬(0:Int)<(nm.length:Int):=by omega
     rw[show xK ts nm.length s'=s' by unfold xK;rw[if_neg hz],if_pos hc]at yY
     have HF3:Hid (qM (jN ts s').2):=qC ((qA HF).same (qV _ _))
     have HD3:Hid ((jN ts s').2.dp≤20):=qC (by rw[jO];exact qA HD)
     have wI:Hid (zH ts (.funcL (nm++[(jN ts s').1])) (jN ts s').2≤k):=qC (j3 (f':=.funcL _) (hk▸qA HN) uY (qI.refl s').name (uP.name (qI.refl s')) hc)
     have HL3:Hid (KN (nm++[(jN ts s').1]).length (jN ts s').2):=qC (by rw[List.length_append];exact(qA HKL).step hc (qI.refl s').name (uP.name (qI.refl s')))
     have fI:=qC yY
     have HSQ:Hid (∀ w2 (vM:zD w2 g lp (lc.on (.slice ka nm.length kc)) ts v' s'),Calls Tryz.prog 110 #[.pointer (some ⟨g,0,none⟩)] w2 fun e w'=>e=.returned (.string (jN ts s').1)∧zD w' g lp (lc.on (.slice ka nm.length kc)) ts v' (jN ts s').2∧PK g v' v' w2 w'):=qC (fun w2 vM=>qGz (qA qS) vM)
     generalize (jN ts s').1=xm at wI HL3 fI HSQ
     generalize (jN ts s').2=s3 at wI HL3 fI HF3 HD3 HSQ
     clear HN yY ht hi uY HF HD HKL hz
     go_wp2_with fail
     refine(qA HT).mono ?_
     rintro e w2 ⟨rfl,vM,yN⟩
     have c8:=vM.cells.2.2.2.2.1
     rw[hc]at c8
     have HPc:=qC vM
     have HIc:=qC ((qA HI).byPK (qA HP) yN)
     have HKc:=qC ((qA HK).trans yN)
     have HCM:=qC (qA HSQ w2 vM)
     clear HT vM yN HK HP HI c4 HSQ
     go_wp2_with fail
     refine(qA HCM).mono ?_
     rintro e w3 ⟨rfl,pC,kG⟩
     have HI3:=qC (((qA HIc).byPK (qA HPc) kG).alloc (.cells #[.string xm] 9))
     have HP3:=qC (pC.alloc (.cells #[.string xm] 9))
     have yK:=qC (((qA HKc).trans kG).alloc (.cells #[.string xm] 9))
     have hg3:=pC.lt
     clear HCM HKc pC kG HIc HPc
     go_wp2_with (at_builtin;refine qAG _ rfl _ _ rfl (g+1) w3.heap.size _ nm xm rfl (qA HI3) rfl (by simp) (by simp;omega) (by omega) ?c0)
     case c0=>
      intro kv4 w4 hI4 hG4
      have n7:=qC ((qA HP3).app hG4 (fun j hj=>hI4.own_lt j hj))
      have fG:=qC ((qA yK).row hG4 (qA HW))
      have HW4:Hid (∀ j,kv4.ownBlock=some j→w.heap.size≤j):=qC (fun j hj=>by
       rcases hG4.lies j hj with e | e
       ·exact qA HW j e
       ·have h1:=(qA yK).size;omega)
      have HI4:=qC hI4
      clear hI4 hG4 HP3 yK HI3
      go_wp2
      go_roundg k
      case rel=>exact⟨nm++[xm],s3,v',by omega,wI,HI4,n7,fG,HF3,HD3,HL3,HW4,fI⟩
      case measure=>omega
  ·have e0:(s'.code == 0)=false:=beq_eq_false_iff_ne.2 hc
   rw[if_neg hc]at yY
   subst yY
   have yJ:=qC (qA HB _ _ wr (qA HP))
   have z8:=HP
   have HI2:=HI
   have qH:=HK
   clear hc hk HT HP HI HK
   go_wp2_with fail
   refine(qA yJ).mono ?_
   rintro e w5 ⟨rfl,v5,wT,hk5⟩
   have iW:qR (w5.alloc (.cells #[.int .i64 ob.r] 3)) w5.heap.size (.slice (some ⟨w5.heap.size,0,none⟩) 1 1) [ob.r]:=by simpa using qR.lit w5 w5.heap.size [ob.r] (Nat.le_refl _) (by simp[maxLen])
   have HC6:=qC (qIg (qA qS) ((wT.drop).alloc (.cells #[.int .i64 ob.r] 3)) (qA HFb) ⟨20,0,xn,nm,[ob.r]⟩ (.slice ka nm.length kc) (.slice (some ⟨w5.heap.size,0,none⟩) 1 1) (g+1) w5.heap.size (((qA HI2).byPK (qA z8) hk5).alloc _) iW (by simp;omega) (by simp))
   have tV:=qC (((qA qH).trans hk5).alloc (.cells #[.int .i64 ob.r] 3))
   clear yJ wT hk5 HI2 z8 qH iW
   go_wp2_with fail
   refine(qA HC6).mono ?_
   rintro e w3 ⟨rfl,v3,pC,kG⟩
   have HP3:=qC pC
   have yK:=qC ((qA tV).trans kG)
   clear HC6 pC kG tV
   go_wp2
   go_ret
   exact⟨rfl,_,qA HP3,qA yK⟩
end
end Go.Proofs.YtbgkfaclfnkloaaGreatDoor
