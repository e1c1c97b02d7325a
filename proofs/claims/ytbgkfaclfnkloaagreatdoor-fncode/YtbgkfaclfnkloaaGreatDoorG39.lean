import Derived.Test.YtbgkfaclfnkloaaGreatDoorG29
import Derived.Deep.QuietTactic
import Derived.WalkSmall
namespace Go.Proofs.YtbgkfaclfnkloaaGreatDoor
set_option linter.all false
set_option maxHeartbeats 4000000
set_option maxRecDepth 100000
section
open Go.RowKit Go.Joins
attribute [local irreducible] run qK iG xK qJ jN jZ jS u9 kA yL qU sF
theorem qJl{ts:List V3}(qS:Hid (TS ts))(n:Nat)(bO:Hid (∀ k,k≤n→PQ ts k .expr 139)){g:Nat}{lp:Option Addr}{lc:PX}{v:Value}{s:PS}{w:World}(h:zD w g lp lc ts v s)(hf:qM s)(hd:s.dp≤20)(hn:zH ts .inner s≤n+1)(h0:yL ts s [108,101,116]=false)(h1:yL ts s [105,102]=false)(h2:yL ts s [119,104,105,108,101]=false)(h3:yL ts s [114,101,116,117,114,110]=false)(h4:yL ts s [116,104,114,111,119]=false)(h5:yL ts s [116,114,121]=false)(h6:kA ts s [123]=false)(hc:s.code=0)(qFC:¬sF ts s=true)(hxk:¬(qU ts s).k=1) :
  PZ 114 g lp lc ts v w (run ts (n+1) .inner s):=by
 unfold PZ
 rw[run]
 rw[if_neg (nt h0),if_neg (nt h1),if_neg (nt h2),if_neg (nt h3),if_neg (nt h4),if_neg (nt h5),if_neg (nt h6),if_neg (fun h=>h hc),if_neg qFC,yB]
 have hat:=h.hat
 have HP:=qC h
 have HK:=qC (PK.refl g v w)
 have mV:=qC hf
 have gH:=qC hd
 have uW:=qC (qI.refl s)
 clear h hf hd
 have HX:=qC (fun v w (hp:zD w g lp lc ts v s)=>xR (qA qS) hp)
 unfold mT at HX
 have yW:=qC (fun v w (hp:zD w g lp lc ts v s)=>qA bO n (by omega) g lp lc v s w hp (by repeat (first | exact qA mV | apply qM.put | refine qM.same ?_ (qO _ _ _) | refine qM.same ?_ (jH _ _ _) | refine qM.same ?_ (qV _ _) | refine qM.same ?_ (qN _) | refine qM.same ?_ (j8 _) | refine qM.same ?_ (qT _ _))) (by (repeat (first | rewrite[q9] | rewrite[zG] | rewrite[jO] | rewrite[qZ] | rewrite[j4]));exact qA gH) (zZ hn hat (qI.refl s) (fun _ _=>.inl (by decide)) (fun c=>absurd hc c)))
 have kN:=qC (qM.run (ts:=ts) (n:=n) (f:=.expr) (s:=s) (by repeat (first | exact qA mV | apply qM.put | refine qM.same ?_ (qO _ _ _) | refine qM.same ?_ (jH _ _ _) | refine qM.same ?_ (qV _ _) | refine qM.same ?_ (qN _) | refine qM.same ?_ (j8 _) | refine qM.same ?_ (qT _ _))))
 generalize run ts n .expr s=o1 at yW kN ⊢
 generalize qU ts s=x at HX hxk ⊢
 obtain⟨xk,xn,xt⟩:=x
 simp only at hxk
 go_enter Tryz.func114,Tryz.ntmps114
 have HC:=qC (jC (qA qS) (qA HP) (⟨#[108,101,116]⟩:ByteArray))
 unfold jA at HC
 rw[show(⟨#[108,101,116]⟩:ByteArray).data.toList=[108,101,116] from rfl,h0,if_neg (by simp)]at HC
 clear HP
 go_wp2_with fail
 refine(qA HC).mono ?_
 rintro e w1 ⟨rfl,hp,hk⟩
 have HP:=qC hp
 have qH:=qC ((qA HK).trans hk)
 clear HC hp hk HK
 have HK:=qH
 clear qH
 have HC:=qC (jC (qA qS) (qA HP) (⟨#[105,102]⟩:ByteArray))
 unfold jA at HC
 rw[show(⟨#[105,102]⟩:ByteArray).data.toList=[105,102] from rfl,h1,if_neg (by simp)]at HC
 clear HP
 go_wp2_with fail
 refine(qA HC).mono ?_
 rintro e w2 ⟨rfl,hp,hk⟩
 have HP:=qC hp
 have qH:=qC ((qA HK).trans hk)
 clear HC hp hk HK
 have HK:=qH
 clear qH
 have HC:=qC (jC (qA qS) (qA HP) (⟨#[119,104,105,108,101]⟩:ByteArray))
 unfold jA at HC
 rw[show(⟨#[119,104,105,108,101]⟩:ByteArray).data.toList=[119,104,105,108,101] from rfl,h2,if_neg (by simp)]at HC
 clear HP
 go_wp2_with fail
 refine(qA HC).mono ?_
 rintro e w3 ⟨rfl,hp,hk⟩
 have HP:=qC hp
 have qH:=qC ((qA HK).trans hk)
 clear HC hp hk HK
 have HK:=qH
 clear qH
 have HC:=qC (jC (qA qS) (qA HP) (⟨#[114,101,116,117,114,110]⟩:ByteArray))
 unfold jA at HC
 rw[show(⟨#[114,101,116,117,114,110]⟩:ByteArray).data.toList=[114,101,116,117,114,110] from rfl,h3,if_neg (by simp)]at HC
 clear HP
 go_wp2_with fail
 refine(qA HC).mono ?_
 rintro e w4 ⟨rfl,hp,hk⟩
 have HP:=qC hp
 have qH:=qC ((qA HK).trans hk)
 clear HC hp hk HK
 have HK:=qH
 clear qH
 have HC:=qC (jC (qA qS) (qA HP) (⟨#[116,104,114,111,119]⟩:ByteArray))
 unfold jA at HC
 rw[show(⟨#[116,104,114,111,119]⟩:ByteArray).data.toList=[116,104,114,111,119] from rfl,h4,if_neg (by simp)]at HC
 clear HP
 go_wp2_with fail
 refine(qA HC).mono ?_
 rintro e w5 ⟨rfl,hp,hk⟩
 have HP:=qC hp
 have qH:=qC ((qA HK).trans hk)
 clear HC hp hk HK
 have HK:=qH
 clear qH
 have HC:=qC (jC (qA qS) (qA HP) (⟨#[116,114,121]⟩:ByteArray))
 unfold jA at HC
 rw[show(⟨#[116,114,121]⟩:ByteArray).data.toList=[116,114,121] from rfl,h5,if_neg (by simp)]at HC
 clear HP
 go_wp2_with fail
 refine(qA HC).mono ?_
 rintro e w6 ⟨rfl,hp,hk⟩
 have HP:=qC hp
 have qH:=qC ((qA HK).trans hk)
 clear HC hp hk HK
 have HK:=qH
 clear qH
 have HC:=qC (pis (qA qS) (qA HP) (⟨#[123]⟩:ByteArray))
 rw[show(⟨#[123]⟩:ByteArray).data.toList=[123] from rfl,h6]at HC
 go_wp2_with fail
 refine(qA HC).mono ?_
 rintro e w7 ⟨rfl,hb⟩
 have z8:=qC ((qA HP).later hb)
 have qH:=qC ((qA HK).then_below hb)
 clear HC hb HK HP
 have HK:=qH
 have HP:=z8
 clear qH z8
 obtain⟨c0,c1,c2,c3,c4,c5⟩:=(qA HP).cells
 have hg:=(qA HP).lt
 rw[hc]at c4
 have HC:=qC (qA HX _ _ (qA HP))
 clear HX
 go_wp2_with fail
 refine(qA HC).mono ?_
 rintro e wx ⟨rfl,hb⟩
 have x8:=qC ((qA HP).later hb)
 have cK:=qC ((qA HK).then_below hb)
 clear HC hb HK HP c0 c1 c2 c3 c4 c5 hg
 obtain⟨c0,c1,c2,c3,c4,c5⟩:=(qA x8).cells
 have hg:=(qA x8).lt
 have hf3:=(qA qS).few
 have e1:(xk == 1)=false:=beq_eq_false_iff_ne.2 hxk
 go_wp2_with fail
 go_quiet (fail)
 go_wp2_with fail
 refine(qA yW _ _ ((qA x8).later (below_drewN (qD _ _) _))).mono ?_
 rintro e w8 ⟨rfl,v8,hp,hk⟩
 have HP:=qC hp
 have HK:=qC (((qA cK).then_below (below_drewN (qD _ _) _)).trans hk)
 clear hp hk x8 cK yW c0 c1 c2 c3 c4 c5
 have HC:=qC (mE (qA qS) (qA HP) (⟨#[59]⟩:ByteArray))
 rw[show(⟨#[59]⟩:ByteArray).data.toList=[59] from rfl]at HC
 clear HP
 go_wp2_with fail
 refine(qA HC).mono ?_
 rintro e w8 ⟨rfl,hp,hk⟩
 have HP:=qC hp
 have qH:=qC ((qA HK).trans hk)
 clear HC hp hk HK
 have HK:=qH
 clear qH
 have HC:=qC (aB (qA qS) (qA HP) (by repeat (first | exact qA kN | apply qM.put | refine qM.same ?_ (qO _ _ _) | refine qM.same ?_ (jH _ _ _) | refine qM.same ?_ (qV _ _) | refine qM.same ?_ (qN _) | refine qM.same ?_ (j8 _) | refine qM.same ?_ (qT _ _))) 19 em o1.r)
 clear HP
 go_wp2_with fail
 refine(qA HC).mono ?_
 rintro e w9 ⟨rfl,vp,hp,hk⟩
 have HP:=qC hp
 have qH:=qC ((qA HK).trans hk)
 clear HC hp hk HK
 have HK:=qH
 clear qH
 go_wp2
 go_ret
 exact⟨rfl,_,qA HP,qA HK⟩
theorem qI7{ts:List V3}(qS:Hid (TS ts))(n:Nat)(bO:Hid (∀ k,k≤n→PQ ts k .expr 139)){g:Nat}{lp:Option Addr}{lc:PX}{v:Value}{s:PS}{w:World}(h:zD w g lp lc ts v s)(hf:qM s)(hd:s.dp≤20)(hn:zH ts .inner s≤n+1)(h0:yL ts s [108,101,116]=false)(h1:yL ts s [105,102]=false)(h2:yL ts s [119,104,105,108,101]=false)(h3:yL ts s [114,101,116,117,114,110]=false)(h4:yL ts s [116,104,114,111,119]=false)(h5:yL ts s [116,114,121]=false)(h6:kA ts s [123]=false)(hc:s.code=0)(qFC:¬sF ts s=true)(hxk:(qU ts s).k=1)(hr:¬s.at'+1<ts.length) :
  PZ 114 g lp lc ts v w (run ts (n+1) .inner s):=by
 unfold PZ
 rw[run]
 rw[if_neg (nt h0),if_neg (nt h1),if_neg (nt h2),if_neg (nt h3),if_neg (nt h4),if_neg (nt h5),if_neg (nt h6),if_neg (fun h=>h hc),if_neg qFC,yB]
 have hat:=h.hat
 have HP:=qC h
 have HK:=qC (PK.refl g v w)
 have mV:=qC hf
 have gH:=qC hd
 have uW:=qC (qI.refl s)
 clear h hf hd
 have HX:=qC (fun v w (hp:zD w g lp lc ts v s)=>xR (qA qS) hp)
 unfold mT at HX
 have yW:=qC (fun v w (hp:zD w g lp lc ts v s)=>qA bO n (by omega) g lp lc v s w hp (by repeat (first | exact qA mV | apply qM.put | refine qM.same ?_ (qO _ _ _) | refine qM.same ?_ (jH _ _ _) | refine qM.same ?_ (qV _ _) | refine qM.same ?_ (qN _) | refine qM.same ?_ (j8 _) | refine qM.same ?_ (qT _ _))) (by (repeat (first | rewrite[q9] | rewrite[zG] | rewrite[jO] | rewrite[qZ] | rewrite[j4]));exact qA gH) (zZ hn hat (qI.refl s) (fun _ _=>.inl (by decide)) (fun c=>absurd hc c)))
 have kN:=qC (qM.run (ts:=ts) (n:=n) (f:=.expr) (s:=s) (by repeat (first | exact qA mV | apply qM.put | refine qM.same ?_ (qO _ _ _) | refine qM.same ?_ (jH _ _ _) | refine qM.same ?_ (qV _ _) | refine qM.same ?_ (qN _) | refine qM.same ?_ (j8 _) | refine qM.same ?_ (qT _ _))))
 generalize run ts n .expr s=o1 at yW kN ⊢
 generalize qU ts s=x at HX hxk ⊢
 obtain⟨xk,xn,xt⟩:=x
 simp only at hxk
 go_enter Tryz.func114,Tryz.ntmps114
 have HC:=qC (jC (qA qS) (qA HP) (⟨#[108,101,116]⟩:ByteArray))
 unfold jA at HC
 rw[show(⟨#[108,101,116]⟩:ByteArray).data.toList=[108,101,116] from rfl,h0,if_neg (by simp)]at HC
 clear HP
 go_wp2_with fail
 refine(qA HC).mono ?_
 rintro e w1 ⟨rfl,hp,hk⟩
 have HP:=qC hp
 have qH:=qC ((qA HK).trans hk)
 clear HC hp hk HK
 have HK:=qH
 clear qH
 have HC:=qC (jC (qA qS) (qA HP) (⟨#[105,102]⟩:ByteArray))
 unfold jA at HC
 rw[show(⟨#[105,102]⟩:ByteArray).data.toList=[105,102] from rfl,h1,if_neg (by simp)]at HC
 clear HP
 go_wp2_with fail
 refine(qA HC).mono ?_
 rintro e w2 ⟨rfl,hp,hk⟩
 have HP:=qC hp
 have qH:=qC ((qA HK).trans hk)
 clear HC hp hk HK
 have HK:=qH
 clear qH
 have HC:=qC (jC (qA qS) (qA HP) (⟨#[119,104,105,108,101]⟩:ByteArray))
 unfold jA at HC
 rw[show(⟨#[119,104,105,108,101]⟩:ByteArray).data.toList=[119,104,105,108,101] from rfl,h2,if_neg (by simp)]at HC
 clear HP
 go_wp2_with fail
 refine(qA HC).mono ?_
 rintro e w3 ⟨rfl,hp,hk⟩
 have HP:=qC hp
 have qH:=qC ((qA HK).trans hk)
 clear HC hp hk HK
 have HK:=qH
 clear qH
 have HC:=qC (jC (qA qS) (qA HP) (⟨#[114,101,116,117,114,110]⟩:ByteArray))
 unfold jA at HC
 rw[show(⟨#[114,101,116,117,114,110]⟩:ByteArray).data.toList=[114,101,116,117,114,110] from rfl,h3,if_neg (by simp)]at HC
 clear HP
 go_wp2_with fail
 refine(qA HC).mono ?_
 rintro e w4 ⟨rfl,hp,hk⟩
 have HP:=qC hp
 have qH:=qC ((qA HK).trans hk)
 clear HC hp hk HK
 have HK:=qH
 clear qH
 have HC:=qC (jC (qA qS) (qA HP) (⟨#[116,104,114,111,119]⟩:ByteArray))
 unfold jA at HC
 rw[show(⟨#[116,104,114,111,119]⟩:ByteArray).data.toList=[116,104,114,111,119] from rfl,h4,if_neg (by simp)]at HC
 clear HP
 go_wp2_with fail
 refine(qA HC).mono ?_
 rintro e w5 ⟨rfl,hp,hk⟩
 have HP:=qC hp
 have qH:=qC ((qA HK).trans hk)
 clear HC hp hk HK
 have HK:=qH
 clear qH
 have HC:=qC (jC (qA qS) (qA HP) (⟨#[116,114,121]⟩:ByteArray))
 unfold jA at HC
 rw[show(⟨#[116,114,121]⟩:ByteArray).data.toList=[116,114,121] from rfl,h5,if_neg (by simp)]at HC
 clear HP
 go_wp2_with fail
 refine(qA HC).mono ?_
 rintro e w6 ⟨rfl,hp,hk⟩
 have HP:=qC hp
 have qH:=qC ((qA HK).trans hk)
 clear HC hp hk HK
 have HK:=qH
 clear qH
 have HC:=qC (pis (qA qS) (qA HP) (⟨#[123]⟩:ByteArray))
 rw[show(⟨#[123]⟩:ByteArray).data.toList=[123] from rfl,h6]at HC
 go_wp2_with fail
 refine(qA HC).mono ?_
 rintro e w7 ⟨rfl,hb⟩
 have z8:=qC ((qA HP).later hb)
 have qH:=qC ((qA HK).then_below hb)
 clear HC hb HK HP
 have HK:=qH
 have HP:=z8
 clear qH z8
 obtain⟨c0,c1,c2,c3,c4,c5⟩:=(qA HP).cells
 have hg:=(qA HP).lt
 rw[hc]at c4
 have HC:=qC (qA HX _ _ (qA HP))
 clear HX
 go_wp2_with fail
 refine(qA HC).mono ?_
 rintro e wx ⟨rfl,hb⟩
 have x8:=qC ((qA HP).later hb)
 have cK:=qC ((qA HK).then_below hb)
 clear HC hb HK HP c0 c1 c2 c3 c4 c5 hg
 obtain⟨c0,c1,c2,c3,c4,c5⟩:=(qA x8).cells
 have hg:=(qA x8).lt
 have hf3:=(qA qS).few
 subst hxk
 have hri:¬(s.at':Int)+1<(ts.length:Int):=by omega
 have hrd:decide ((s.at':Int)+1<(ts.length:Int))=false:=decide_eq_false hri
 go_wp2_with fail
 go_quiet (fail)
 go_wp2_with fail
 refine(qA yW _ _ ((qA x8).later (below_drewN (qD _ _) _))).mono ?_
 rintro e w8 ⟨rfl,v8,hp,hk⟩
 have HP:=qC hp
 have HK:=qC (((qA cK).then_below (below_drewN (qD _ _) _)).trans hk)
 clear hp hk x8 cK yW c0 c1 c2 c3 c4 c5
 have HC:=qC (mE (qA qS) (qA HP) (⟨#[59]⟩:ByteArray))
 rw[show(⟨#[59]⟩:ByteArray).data.toList=[59] from rfl]at HC
 clear HP
 go_wp2_with fail
 refine(qA HC).mono ?_
 rintro e w8 ⟨rfl,hp,hk⟩
 have HP:=qC hp
 have qH:=qC ((qA HK).trans hk)
 clear HC hp hk HK
 have HK:=qH
 clear qH
 have HC:=qC (aB (qA qS) (qA HP) (by repeat (first | exact qA kN | apply qM.put | refine qM.same ?_ (qO _ _ _) | refine qM.same ?_ (jH _ _ _) | refine qM.same ?_ (qV _ _) | refine qM.same ?_ (qN _) | refine qM.same ?_ (j8 _) | refine qM.same ?_ (qT _ _))) 19 em o1.r)
 clear HP
 go_wp2_with fail
 refine(qA HC).mono ?_
 rintro e w9 ⟨rfl,vp,hp,hk⟩
 have HP:=qC hp
 have qH:=qC ((qA HK).trans hk)
 clear HC hp hk HK
 have HK:=qH
 clear qH
 go_wp2
 go_ret
 exact⟨rfl,_,qA HP,qA HK⟩
end
section
open Go.RowKit Go.Joins
attribute [local irreducible] run qK iG xK qJ jN jZ jS u9 kA yL qU sF
theorem qIn{ts:List V3}(qS:Hid (TS ts))(n:Nat)(bO:Hid (∀ k,k≤n→PQ ts k .expr 139)){g:Nat}{lp:Option Addr}{lc:PX}{v:Value}{s:PS}{w:World}(h:zD w g lp lc ts v s)(hf:qM s)(hd:s.dp≤20)(hn:zH ts .inner s≤n+1)(h0:yL ts s [108,101,116]=false)(h1:yL ts s [105,102]=false)(h2:yL ts s [119,104,105,108,101]=false)(h3:yL ts s [114,101,116,117,114,110]=false)(h4:yL ts s [116,104,114,111,119]=false)(h5:yL ts s [116,114,121]=false)(h6:kA ts s [123]=false)(hc:s.code=0)(qFC:¬sF ts s=true)(hxk:(qU ts s).k=1)(hr:s.at'+1<ts.length)(hyt:¬ts[s.at'+1].t=⟨#[61]⟩)(hyk:True) :
  PZ 114 g lp lc ts v w (run ts (n+1) .inner s):=by
 unfold PZ
 rw[run]
 rw[if_neg (nt h0),if_neg (nt h1),if_neg (nt h2),if_neg (nt h3),if_neg (nt h4),if_neg (nt h5),if_neg (nt h6),if_neg (fun h=>h hc),if_neg qFC,yB]
 have hat:=h.hat
 have HP:=qC h
 have HK:=qC (PK.refl g v w)
 have mV:=qC hf
 have gH:=qC hd
 have uW:=qC (qI.refl s)
 clear h hf hd
 have HX:=qC (fun v w (hp:zD w g lp lc ts v s)=>xR (qA qS) hp)
 unfold mT at HX
 have yW:=qC (fun v w (hp:zD w g lp lc ts v s)=>qA bO n (by omega) g lp lc v s w hp (by repeat (first | exact qA mV | apply qM.put | refine qM.same ?_ (qO _ _ _) | refine qM.same ?_ (jH _ _ _) | refine qM.same ?_ (qV _ _) | refine qM.same ?_ (qN _) | refine qM.same ?_ (j8 _) | refine qM.same ?_ (qT _ _))) (by (repeat (first | rewrite[q9] | rewrite[zG] | rewrite[jO] | rewrite[qZ] | rewrite[j4]));exact qA gH) (zZ hn hat (qI.refl s) (fun _ _=>.inl (by decide)) (fun c=>absurd hc c)))
 have kN:=qC (qM.run (ts:=ts) (n:=n) (f:=.expr) (s:=s) (by repeat (first | exact qA mV | apply qM.put | refine qM.same ?_ (qO _ _ _) | refine qM.same ?_ (jH _ _ _) | refine qM.same ?_ (qV _ _) | refine qM.same ?_ (qN _) | refine qM.same ?_ (j8 _) | refine qM.same ?_ (qT _ _))))
 generalize run ts n .expr s=o1 at yW kN ⊢
 generalize qU ts s=x at HX hxk ⊢
 obtain⟨xk,xn,xt⟩:=x
 simp only at hxk
 go_enter Tryz.func114,Tryz.ntmps114
 have HC:=qC (jC (qA qS) (qA HP) (⟨#[108,101,116]⟩:ByteArray))
 unfold jA at HC
 rw[show(⟨#[108,101,116]⟩:ByteArray).data.toList=[108,101,116] from rfl,h0,if_neg (by simp)]at HC
 clear HP
 go_wp2_with fail
 refine(qA HC).mono ?_
 rintro e w1 ⟨rfl,hp,hk⟩
 have HP:=qC hp
 have qH:=qC ((qA HK).trans hk)
 clear HC hp hk HK
 have HK:=qH
 clear qH
 have HC:=qC (jC (qA qS) (qA HP) (⟨#[105,102]⟩:ByteArray))
 unfold jA at HC
 rw[show(⟨#[105,102]⟩:ByteArray).data.toList=[105,102] from rfl,h1,if_neg (by simp)]at HC
 clear HP
 go_wp2_with fail
 refine(qA HC).mono ?_
 rintro e w2 ⟨rfl,hp,hk⟩
 have HP:=qC hp
 have qH:=qC ((qA HK).trans hk)
 clear HC hp hk HK
 have HK:=qH
 clear qH
 have HC:=qC (jC (qA qS) (qA HP) (⟨#[119,104,105,108,101]⟩:ByteArray))
 unfold jA at HC
 rw[show(⟨#[119,104,105,108,101]⟩:ByteArray).data.toList=[119,104,105,108,101] from rfl,h2,if_neg (by simp)]at HC
 clear HP
 go_wp2_with fail
 refine(qA HC).mono ?_
 rintro e w3 ⟨rfl,hp,hk⟩
 have HP:=qC hp
 have qH:=qC ((qA HK).trans hk)
 clear HC hp hk HK
 have HK:=qH
 clear qH
 have HC:=qC (jC (qA qS) (qA HP) (⟨#[114,101,116,117,114,110]⟩:ByteArray))
 unfold jA at HC
 rw[show(⟨#[114,101,116,117,114,110]⟩:ByteArray).data.toList=[114,101,116,117,114,110] from rfl,h3,if_neg (by simp)]at HC
 clear HP
 go_wp2_with fail
 refine(qA HC).mono ?_
 rintro e w4 ⟨rfl,hp,hk⟩
 have HP:=qC hp
 have qH:=qC ((qA HK).trans hk)
 clear HC hp hk HK
 have HK:=qH
 clear qH
 have HC:=qC (jC (qA qS) (qA HP) (⟨#[116,104,114,111,119]⟩:ByteArray))
 unfold jA at HC
 rw[show(⟨#[116,104,114,111,119]⟩:ByteArray).data.toList=[116,104,114,111,119] from rfl,h4,if_neg (by simp)]at HC
 clear HP
 go_wp2_with fail
 refine(qA HC).mono ?_
 rintro e w5 ⟨rfl,hp,hk⟩
 have HP:=qC hp
 have qH:=qC ((qA HK).trans hk)
 clear HC hp hk HK
 have HK:=qH
 clear qH
 have HC:=qC (jC (qA qS) (qA HP) (⟨#[116,114,121]⟩:ByteArray))
 unfold jA at HC
 rw[show(⟨#[116,114,121]⟩:ByteArray).data.toList=[116,114,121] from rfl,h5,if_neg (by simp)]at HC
 clear HP
 go_wp2_with fail
 refine(qA HC).mono ?_
 rintro e w6 ⟨rfl,hp,hk⟩
 have HP:=qC hp
 have qH:=qC ((qA HK).trans hk)
 clear HC hp hk HK
 have HK:=qH
 clear qH
 have HC:=qC (pis (qA qS) (qA HP) (⟨#[123]⟩:ByteArray))
 rw[show(⟨#[123]⟩:ByteArray).data.toList=[123] from rfl,h6]at HC
 go_wp2_with fail
 refine(qA HC).mono ?_
 rintro e w7 ⟨rfl,hb⟩
 have z8:=qC ((qA HP).later hb)
 have qH:=qC ((qA HK).then_below hb)
 clear HC hb HK HP
 have HK:=qH
 have HP:=z8
 clear qH z8
 obtain⟨c0,c1,c2,c3,c4,c5⟩:=(qA HP).cells
 have hg:=(qA HP).lt
 rw[hc]at c4
 have HC:=qC (qA HX _ _ (qA HP))
 clear HX
 go_wp2_with fail
 refine(qA HC).mono ?_
 rintro e wx ⟨rfl,hb⟩
 have x8:=qC ((qA HP).later hb)
 have cK:=qC ((qA HK).then_below hb)
 clear HC hb HK HP c0 c1 c2 c3 c4 c5 hg
 obtain⟨c0,c1,c2,c3,c4,c5⟩:=(qA x8).cells
 have hg:=(qA x8).lt
 have hf3:=(qA qS).few
 subst hxk
 obtain⟨tb,qUw,tp,t0,t1,t2⟩:=(qA x8).toks (s.at'+1) hr
 have htb:tb<g:=Nat.lt_of_lt_of_le ((qA x8).tb _ tp) (qA x8).bg
 rw[tp]at c0
 clear tp
 have htw:tb<wx.heap.size:=by omega
 have hri:(s.at':Int)+1<(ts.length:Int):=by omega
 have qU5:(0:Int)≤(s.at':Int)+1:=by omega
 have htn:((s.at':Int)+1).toNat=s.at'+1:=by omega
 generalize ts[s.at'+1].k=yk at t0 hyk
 generalize ts[s.at'+1].t=yt at t2 hyt
 have e1:=qAM hyt
 have e2:=qAL hyt
 have e3:=qRT (l:=[61]) hyt
 go_wp2_with fail
 go_quiet (fail)
 go_wp2_with fail
 refine(qA yW _ _ ((qA x8).later (below_drewN (qD _ _) _))).mono ?_
 rintro e w8 ⟨rfl,v8,hp,hk⟩
 have HP:=qC hp
 have HK:=qC (((qA cK).then_below (below_drewN (qD _ _) _)).trans hk)
 clear hp hk x8 cK yW c0 c1 c2 c3 c4 c5
 have HC:=qC (mE (qA qS) (qA HP) (⟨#[59]⟩:ByteArray))
 rw[show(⟨#[59]⟩:ByteArray).data.toList=[59] from rfl]at HC
 clear HP
 go_wp2_with fail
 refine(qA HC).mono ?_
 rintro e w8 ⟨rfl,hp,hk⟩
 have HP:=qC hp
 have qH:=qC ((qA HK).trans hk)
 clear HC hp hk HK
 have HK:=qH
 clear qH
 have HC:=qC (aB (qA qS) (qA HP) (by repeat (first | exact qA kN | apply qM.put | refine qM.same ?_ (qO _ _ _) | refine qM.same ?_ (jH _ _ _) | refine qM.same ?_ (qV _ _) | refine qM.same ?_ (qN _) | refine qM.same ?_ (j8 _) | refine qM.same ?_ (qT _ _))) 19 em o1.r)
 clear HP
 go_wp2_with fail
 refine(qA HC).mono ?_
 rintro e w9 ⟨rfl,vp,hp,hk⟩
 have HP:=qC hp
 have qH:=qC ((qA HK).trans hk)
 clear HC hp hk HK
 have HK:=qH
 clear qH
 go_wp2
 go_ret
 exact⟨rfl,_,qA HP,qA HK⟩
theorem qIL{ts:List V3}(qS:Hid (TS ts))(n:Nat)(bO:Hid (∀ k,k≤n→PQ ts k .expr 139)){g:Nat}{lp:Option Addr}{lc:PX}{v:Value}{s:PS}{w:World}(h:zD w g lp lc ts v s)(hf:qM s)(hd:s.dp≤20)(hn:zH ts .inner s≤n+1)(h0:yL ts s [108,101,116]=false)(h1:yL ts s [105,102]=false)(h2:yL ts s [119,104,105,108,101]=false)(h3:yL ts s [114,101,116,117,114,110]=false)(h4:yL ts s [116,104,114,111,119]=false)(h5:yL ts s [116,114,121]=false)(h6:kA ts s [123]=false)(hc:s.code=0)(qFC:¬sF ts s=true)(hxk:(qU ts s).k=1)(hr:s.at'+1<ts.length)(hyt:ts[s.at'+1].t=⟨#[61]⟩)(hyk:¬ts[s.at'+1].k=5) :
  PZ 114 g lp lc ts v w (run ts (n+1) .inner s):=by
 unfold PZ
 rw[run]
 rw[if_neg (nt h0),if_neg (nt h1),if_neg (nt h2),if_neg (nt h3),if_neg (nt h4),if_neg (nt h5),if_neg (nt h6),if_neg (fun h=>h hc),if_neg qFC,yB]
 have hat:=h.hat
 have HP:=qC h
 have HK:=qC (PK.refl g v w)
 have mV:=qC hf
 have gH:=qC hd
 have uW:=qC (qI.refl s)
 clear h hf hd
 have HX:=qC (fun v w (hp:zD w g lp lc ts v s)=>xR (qA qS) hp)
 unfold mT at HX
 have yW:=qC (fun v w (hp:zD w g lp lc ts v s)=>qA bO n (by omega) g lp lc v s w hp (by repeat (first | exact qA mV | apply qM.put | refine qM.same ?_ (qO _ _ _) | refine qM.same ?_ (jH _ _ _) | refine qM.same ?_ (qV _ _) | refine qM.same ?_ (qN _) | refine qM.same ?_ (j8 _) | refine qM.same ?_ (qT _ _))) (by (repeat (first | rewrite[q9] | rewrite[zG] | rewrite[jO] | rewrite[qZ] | rewrite[j4]));exact qA gH) (zZ hn hat (qI.refl s) (fun _ _=>.inl (by decide)) (fun c=>absurd hc c)))
 have kN:=qC (qM.run (ts:=ts) (n:=n) (f:=.expr) (s:=s) (by repeat (first | exact qA mV | apply qM.put | refine qM.same ?_ (qO _ _ _) | refine qM.same ?_ (jH _ _ _) | refine qM.same ?_ (qV _ _) | refine qM.same ?_ (qN _) | refine qM.same ?_ (j8 _) | refine qM.same ?_ (qT _ _))))
 generalize run ts n .expr s=o1 at yW kN ⊢
 generalize qU ts s=x at HX hxk ⊢
 obtain⟨xk,xn,xt⟩:=x
 simp only at hxk
 go_enter Tryz.func114,Tryz.ntmps114
 have HC:=qC (jC (qA qS) (qA HP) (⟨#[108,101,116]⟩:ByteArray))
 unfold jA at HC
 rw[show(⟨#[108,101,116]⟩:ByteArray).data.toList=[108,101,116] from rfl,h0,if_neg (by simp)]at HC
 clear HP
 go_wp2_with fail
 refine(qA HC).mono ?_
 rintro e w1 ⟨rfl,hp,hk⟩
 have HP:=qC hp
 have qH:=qC ((qA HK).trans hk)
 clear HC hp hk HK
 have HK:=qH
 clear qH
 have HC:=qC (jC (qA qS) (qA HP) (⟨#[105,102]⟩:ByteArray))
 unfold jA at HC
 rw[show(⟨#[105,102]⟩:ByteArray).data.toList=[105,102] from rfl,h1,if_neg (by simp)]at HC
 clear HP
 go_wp2_with fail
 refine(qA HC).mono ?_
 rintro e w2 ⟨rfl,hp,hk⟩
 have HP:=qC hp
 have qH:=qC ((qA HK).trans hk)
 clear HC hp hk HK
 have HK:=qH
 clear qH
 have HC:=qC (jC (qA qS) (qA HP) (⟨#[119,104,105,108,101]⟩:ByteArray))
 unfold jA at HC
 rw[show(⟨#[119,104,105,108,101]⟩:ByteArray).data.toList=[119,104,105,108,101] from rfl,h2,if_neg (by simp)]at HC
 clear HP
 go_wp2_with fail
 refine(qA HC).mono ?_
 rintro e w3 ⟨rfl,hp,hk⟩
 have HP:=qC hp
 have qH:=qC ((qA HK).trans hk)
 clear HC hp hk HK
 have HK:=qH
 clear qH
 have HC:=qC (jC (qA qS) (qA HP) (⟨#[114,101,116,117,114,110]⟩:ByteArray))
 unfold jA at HC
 rw[show(⟨#[114,101,116,117,114,110]⟩:ByteArray).data.toList=[114,101,116,117,114,110] from rfl,h3,if_neg (by simp)]at HC
 clear HP
 go_wp2_with fail
 refine(qA HC).mono ?_
 rintro e w4 ⟨rfl,hp,hk⟩
 have HP:=qC hp
 have qH:=qC ((qA HK).trans hk)
 clear HC hp hk HK
 have HK:=qH
 clear qH
 have HC:=qC (jC (qA qS) (qA HP) (⟨#[116,104,114,111,119]⟩:ByteArray))
 unfold jA at HC
 rw[show(⟨#[116,104,114,111,119]⟩:ByteArray).data.toList=[116,104,114,111,119] from rfl,h4,if_neg (by simp)]at HC
 clear HP
 go_wp2_with fail
 refine(qA HC).mono ?_
 rintro e w5 ⟨rfl,hp,hk⟩
 have HP:=qC hp
 have qH:=qC ((qA HK).trans hk)
 clear HC hp hk HK
 have HK:=qH
 clear qH
 have HC:=qC (jC (qA qS) (qA HP) (⟨#[116,114,121]⟩:ByteArray))
 unfold jA at HC
 rw[show(⟨#[116,114,121]⟩:ByteArray).data.toList=[116,114,121] from rfl,h5,if_neg (by simp)]at HC
 clear HP
 go_wp2_with fail
 refine(qA HC).mono ?_
 rintro e w6 ⟨rfl,hp,hk⟩
 have HP:=qC hp
 have qH:=qC ((qA HK).trans hk)
 clear HC hp hk HK
 have HK:=qH
 clear qH
 have HC:=qC (pis (qA qS) (qA HP) (⟨#[123]⟩:ByteArray))
 rw[show(⟨#[123]⟩:ByteArray).data.toList=[123] from rfl,h6]at HC
 go_wp2_with fail
 refine(qA HC).mono ?_
 rintro e w7 ⟨rfl,hb⟩
 have z8:=qC ((qA HP).later hb)
 have qH:=qC ((qA HK).then_below hb)
 clear HC hb HK HP
 have HK:=qH
 have HP:=z8
 clear qH z8
 obtain⟨c0,c1,c2,c3,c4,c5⟩:=(qA HP).cells
 have hg:=(qA HP).lt
 rw[hc]at c4
 have HC:=qC (qA HX _ _ (qA HP))
 clear HX
 go_wp2_with fail
 refine(qA HC).mono ?_
 rintro e wx ⟨rfl,hb⟩
 have x8:=qC ((qA HP).later hb)
 have cK:=qC ((qA HK).then_below hb)
 clear HC hb HK HP c0 c1 c2 c3 c4 c5 hg
 obtain⟨c0,c1,c2,c3,c4,c5⟩:=(qA x8).cells
 have hg:=(qA x8).lt
 have hf3:=(qA qS).few
 subst hxk
 obtain⟨tb,qUw,tp,t0,t1,t2⟩:=(qA x8).toks (s.at'+1) hr
 have htb:tb<g:=Nat.lt_of_lt_of_le ((qA x8).tb _ tp) (qA x8).bg
 rw[tp]at c0
 clear tp
 have htw:tb<wx.heap.size:=by omega
 have hri:(s.at':Int)+1<(ts.length:Int):=by omega
 have qU5:(0:Int)≤(s.at':Int)+1:=by omega
 have htn:((s.at':Int)+1).toNat=s.at'+1:=by omega
 generalize ts[s.at'+1].k=yk at t0 hyk
 generalize ts[s.at'+1].t=yt at t2 hyt
 subst hyt
 have e1:(yk == 5)=false:=beq_eq_false_iff_ne.2 hyk
 go_wp2_with fail
 go_quiet (fail)
 go_wp2_with fail
 refine(qA yW _ _ ((qA x8).later (below_drewN (qD _ _) _))).mono ?_
 rintro e w8 ⟨rfl,v8,hp,hk⟩
 have HP:=qC hp
 have HK:=qC (((qA cK).then_below (below_drewN (qD _ _) _)).trans hk)
 clear hp hk x8 cK yW c0 c1 c2 c3 c4 c5
 have HC:=qC (mE (qA qS) (qA HP) (⟨#[59]⟩:ByteArray))
 rw[show(⟨#[59]⟩:ByteArray).data.toList=[59] from rfl]at HC
 clear HP
 go_wp2_with fail
 refine(qA HC).mono ?_
 rintro e w8 ⟨rfl,hp,hk⟩
 have HP:=qC hp
 have qH:=qC ((qA HK).trans hk)
 clear HC hp hk HK
 have HK:=qH
 clear qH
 have HC:=qC (aB (qA qS) (qA HP) (by repeat (first | exact qA kN | apply qM.put | refine qM.same ?_ (qO _ _ _) | refine qM.same ?_ (jH _ _ _) | refine qM.same ?_ (qV _ _) | refine qM.same ?_ (qN _) | refine qM.same ?_ (j8 _) | refine qM.same ?_ (qT _ _))) 19 em o1.r)
 clear HP
 go_wp2_with fail
 refine(qA HC).mono ?_
 rintro e w9 ⟨rfl,vp,hp,hk⟩
 have HP:=qC hp
 have qH:=qC ((qA HK).trans hk)
 clear HC hp hk HK
 have HK:=qH
 clear qH
 go_wp2
 go_ret
 exact⟨rfl,_,qA HP,qA HK⟩
end
section
open Go.RowKit Go.Joins
attribute [local irreducible] run qK iG xK qJ jN jZ jS u9 kA yL qU sF
theorem qID{ts:List V3}(qS:Hid (TS ts))(n:Nat)(bO:Hid (∀ k,k≤n→PQ ts k .expr 139)){g:Nat}{lp:Option Addr}{lc:PX}{v:Value}{s:PS}{w:World}(h:zD w g lp lc ts v s)(hf:qM s)(hd:s.dp≤20)(hn:zH ts .inner s≤n+1)(h0:yL ts s [108,101,116]=false)(h1:yL ts s [105,102]=false)(h2:yL ts s [119,104,105,108,101]=false)(h3:yL ts s [114,101,116,117,114,110]=false)(h4:yL ts s [116,104,114,111,119]=false)(h5:yL ts s [116,114,121]=false)(h6:kA ts s [123]=false)(hc:s.code=0)(qFC:sF ts s=true)(hxk:(qU ts s).k=1)(hr:s.at'+1<ts.length)(hyt:ts[s.at'+1].t=⟨#[61]⟩)(hyk:ts[s.at'+1].k=5) :
  PZ 114 g lp lc ts v w (run ts (n+1) .inner s):=by
 unfold PZ
 rw[run]
 rw[if_neg (nt h0),if_neg (nt h1),if_neg (nt h2),if_neg (nt h3),if_neg (nt h4),if_neg (nt h5),if_neg (nt h6),if_neg (fun h=>h hc),if_pos qFC,yB]
 have hat:=h.hat
 have HP:=qC h
 have HK:=qC (PK.refl g v w)
 have mV:=qC hf
 have gH:=qC hd
 have uW:=qC (qI.refl s)
 clear h hf hd
 have HX:=qC (fun v w (hp:zD w g lp lc ts v s)=>xR (qA qS) hp)
 unfold mT at HX
 have qBn:s.at'+1<ts.length:=hr
 have yW:=qC (fun v w (hp:zD w g lp lc ts v (qK (qK s)))=>qA bO n (by omega) g lp lc v (qK (qK s)) w hp (by repeat (first | exact qA mV | apply qM.put | refine qM.same ?_ (qO _ _ _) | refine qM.same ?_ (jH _ _ _) | refine qM.same ?_ (qV _ _) | refine qM.same ?_ (qN _) | refine qM.same ?_ (j8 _) | refine qM.same ?_ (qT _ _))) (by (repeat (first | rewrite[q9] | rewrite[zG] | rewrite[jO] | rewrite[qZ] | rewrite[j4]));exact qA gH) (j3 hn hat (by repeat (first | exact qA uW | apply qI.need | apply qI.com | apply qI.name | apply qI.adv | apply qI.put | apply qI.up | apply qI.down)) (by first | exact uP.need (by repeat (first | exact qA uW | apply qI.need | apply qI.com | apply qI.name | apply qI.adv | apply qI.put | apply qI.up | apply qI.down)) | exact uP.name (by repeat (first | exact qA uW | apply qI.need | apply qI.com | apply qI.name | apply qI.adv | apply qI.put | apply qI.up | apply qI.down)) | exact uP.adv (by repeat (first | exact qA uW | apply qI.need | apply qI.com | apply qI.name | apply qI.adv | apply qI.put | apply qI.up | apply qI.down))) hc))
 have kN:=qC (qM.run (ts:=ts) (n:=n) (f:=.expr) (s:=(qK (qK s))) (by repeat (first | exact qA mV | apply qM.put | refine qM.same ?_ (qO _ _ _) | refine qM.same ?_ (jH _ _ _) | refine qM.same ?_ (qV _ _) | refine qM.same ?_ (qN _) | refine qM.same ?_ (j8 _) | refine qM.same ?_ (qT _ _))))
 generalize run ts n .expr (qK (qK s))=o1 at yW kN ⊢
 generalize qU ts s=x at HX hxk ⊢
 obtain⟨xk,xn,xt⟩:=x
 simp only at hxk
 go_enter Tryz.func114,Tryz.ntmps114
 have HC:=qC (jC (qA qS) (qA HP) (⟨#[108,101,116]⟩:ByteArray))
 unfold jA at HC
 rw[show(⟨#[108,101,116]⟩:ByteArray).data.toList=[108,101,116] from rfl,h0,if_neg (by simp)]at HC
 clear HP
 go_wp2_with fail
 refine(qA HC).mono ?_
 rintro e w1 ⟨rfl,hp,hk⟩
 have HP:=qC hp
 have qH:=qC ((qA HK).trans hk)
 clear HC hp hk HK
 have HK:=qH
 clear qH
 have HC:=qC (jC (qA qS) (qA HP) (⟨#[105,102]⟩:ByteArray))
 unfold jA at HC
 rw[show(⟨#[105,102]⟩:ByteArray).data.toList=[105,102] from rfl,h1,if_neg (by simp)]at HC
 clear HP
 go_wp2_with fail
 refine(qA HC).mono ?_
 rintro e w2 ⟨rfl,hp,hk⟩
 have HP:=qC hp
 have qH:=qC ((qA HK).trans hk)
 clear HC hp hk HK
 have HK:=qH
 clear qH
 have HC:=qC (jC (qA qS) (qA HP) (⟨#[119,104,105,108,101]⟩:ByteArray))
 unfold jA at HC
 rw[show(⟨#[119,104,105,108,101]⟩:ByteArray).data.toList=[119,104,105,108,101] from rfl,h2,if_neg (by simp)]at HC
 clear HP
 go_wp2_with fail
 refine(qA HC).mono ?_
 rintro e w3 ⟨rfl,hp,hk⟩
 have HP:=qC hp
 have qH:=qC ((qA HK).trans hk)
 clear HC hp hk HK
 have HK:=qH
 clear qH
 have HC:=qC (jC (qA qS) (qA HP) (⟨#[114,101,116,117,114,110]⟩:ByteArray))
 unfold jA at HC
 rw[show(⟨#[114,101,116,117,114,110]⟩:ByteArray).data.toList=[114,101,116,117,114,110] from rfl,h3,if_neg (by simp)]at HC
 clear HP
 go_wp2_with fail
 refine(qA HC).mono ?_
 rintro e w4 ⟨rfl,hp,hk⟩
 have HP:=qC hp
 have qH:=qC ((qA HK).trans hk)
 clear HC hp hk HK
 have HK:=qH
 clear qH
 have HC:=qC (jC (qA qS) (qA HP) (⟨#[116,104,114,111,119]⟩:ByteArray))
 unfold jA at HC
 rw[show(⟨#[116,104,114,111,119]⟩:ByteArray).data.toList=[116,104,114,111,119] from rfl,h4,if_neg (by simp)]at HC
 clear HP
 go_wp2_with fail
 refine(qA HC).mono ?_
 rintro e w5 ⟨rfl,hp,hk⟩
 have HP:=qC hp
 have qH:=qC ((qA HK).trans hk)
 clear HC hp hk HK
 have HK:=qH
 clear qH
 have HC:=qC (jC (qA qS) (qA HP) (⟨#[116,114,121]⟩:ByteArray))
 unfold jA at HC
 rw[show(⟨#[116,114,121]⟩:ByteArray).data.toList=[116,114,121] from rfl,h5,if_neg (by simp)]at HC
 clear HP
 go_wp2_with fail
 refine(qA HC).mono ?_
 rintro e w6 ⟨rfl,hp,hk⟩
 have HP:=qC hp
 have qH:=qC ((qA HK).trans hk)
 clear HC hp hk HK
 have HK:=qH
 clear qH
 have HC:=qC (pis (qA qS) (qA HP) (⟨#[123]⟩:ByteArray))
 rw[show(⟨#[123]⟩:ByteArray).data.toList=[123] from rfl,h6]at HC
 go_wp2_with fail
 refine(qA HC).mono ?_
 rintro e w7 ⟨rfl,hb⟩
 have z8:=qC ((qA HP).later hb)
 have qH:=qC ((qA HK).then_below hb)
 clear HC hb HK HP
 have HK:=qH
 have HP:=z8
 clear qH z8
 obtain⟨c0,c1,c2,c3,c4,c5⟩:=(qA HP).cells
 have hg:=(qA HP).lt
 rw[hc]at c4
 have HC:=qC (qA HX _ _ (qA HP))
 clear HX
 go_wp2_with fail
 refine(qA HC).mono ?_
 rintro e wx ⟨rfl,hb⟩
 have x8:=qC ((qA HP).later hb)
 have cK:=qC ((qA HK).then_below hb)
 clear HC hb HK HP c0 c1 c2 c3 c4 c5 hg
 obtain⟨c0,c1,c2,c3,c4,c5⟩:=(qA x8).cells
 have hg:=(qA x8).lt
 have hf3:=(qA qS).few
 subst hxk
 obtain⟨tb,qUw,tp,t0,t1,t2⟩:=(qA x8).toks (s.at'+1) hr
 have htb:tb<g:=Nat.lt_of_lt_of_le ((qA x8).tb _ tp) (qA x8).bg
 rw[tp]at c0
 clear tp
 have htw:tb<wx.heap.size:=by omega
 have hri:(s.at':Int)+1<(ts.length:Int):=by omega
 have qU5:(0:Int)≤(s.at':Int)+1:=by omega
 have htn:((s.at':Int)+1).toNat=s.at'+1:=by omega
 generalize ts[s.at'+1].k=yk at t0 hyk
 generalize ts[s.at'+1].t=yt at t2 hyt
 subst hyt
 subst hyk
 go_wp2_with fail
 go_quiet (fail)
 have z1:=(qA x8).free 1
 have zE:=(qA x8).own
 go_wp2_with fail
 refine(qA yW _ _ (((qA x8).later (below_drewN (qD wx (.cells #[.int .i64 1,.int .i64 xn,.string xt] 150)) nq)).adv2 qBn)).mono ?_
 rintro e wy ⟨rfl,v8,hp,hk⟩
 have HP:=qC hp
 have HK:=qC ((((qA cK).then_below (below_drewN (qD wx (.cells #[.int .i64 1,.int .i64 xn,.string xt] 150)) nq)).set (o:=1)).trans hk)
 have hbx:wy.cell? ⟨wx.heap.size,2,none⟩=some (.string xt):=hk.cell (by rw[World.cell?_setCell_other _ _ _ _ (by simp)];simp) (by omega) (fun e=>by have:=zE _ e;omega)
 have dY:v8.ownBlock≠some wx.heap.size:=fun e=>by
  rcases hk.own _ e with e | e
  ·have:=zE _ e;omega
  ·simp at e;omega
 clear zE c0 c1 c2 c3 c4 c5 z1 t0 t1 t2
 clear hp hk x8 cK yW
 have p9:wx.heap.size≠g:=by omega
 have HC:=qC (mE (qA qS) (qA HP) (⟨#[59]⟩:ByteArray))
 rw[show(⟨#[59]⟩:ByteArray).data.toList=[59] from rfl]at HC
 clear HP
 go_wp2_with fail
 refine(qA HC).mono ?_
 rintro e w8 ⟨rfl,hp,hk⟩
 have jR:=hk.cell hbx p9 dY
 clear hbx
 have HP:=qC hp
 have qH:=qC ((qA HK).trans hk)
 clear HC hp hk HK
 have HK:=qH
 clear qH
 have HC:=qC (aB (qA qS) (qA HP) (by repeat (first | exact qA kN | apply qM.put | refine qM.same ?_ (qO _ _ _) | refine qM.same ?_ (jH _ _ _) | refine qM.same ?_ (qV _ _) | refine qM.same ?_ (qN _) | refine qM.same ?_ (j8 _) | refine qM.same ?_ (qT _ _))) 12 xt o1.r)
 clear HP
 go_wp2_with fail
 refine(qA HC).mono ?_
 rintro e w9 ⟨rfl,vp,hp,hk⟩
 have HP:=qC hp
 have qH:=qC ((qA HK).trans hk)
 clear HC hp hk HK
 have HK:=qH
 clear qH
 go_wp2
 go_ret
 exact⟨rfl,_,qA HP,qA HK⟩
end
end Go.Proofs.YtbgkfaclfnkloaaGreatDoor
