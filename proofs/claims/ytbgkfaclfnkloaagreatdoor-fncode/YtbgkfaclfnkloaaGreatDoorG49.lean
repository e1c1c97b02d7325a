import Derived.Test.YtbgkfaclfnkloaaGreatDoorG48
import Derived.Test.YtbgkfaclfnkloaaGreatDoorG32
import Derived.Shelf.Strings.OnBuilder
namespace Go.Proofs.YtbgkfaclfnkloaaGreatDoor
set_option linter.all false
set_option maxHeartbeats 4000000
set_option maxRecDepth 100000
section
open Go.RowKit Go.Joins Go.Shelf
theorem qGm:Builder.Extra Tryz.prog Tryz.lays156_ren:={
 sizeBuilder:=by kernel_rfl
 liesBuilder:=by kernel_rfl
 t5:=Tryz.underlying5
 a5:=Tryz.isAgg5
 z5:=Tryz.sizeOf5
 v5:=Tryz.zeroValue5
 infoByte:=by kernel_rfl
 cellsByte:=by kernel_rfl
 sizeByte:=by kernel_rfl
 neB5:=by decide }
theorem k7{w:World}(h:yT w 0 j6){k:Nat}(hk:k<17):w.cell? ⟨0,k,none⟩=some (.string (zI j6 k)):=by
 obtain⟨t,fr,e⟩:=h
 have hs:(gU j6)[k]? = some (.string (zI j6 k)):=by
  have hl:k<j6.length:=by simpa[j6]using hk
  unfold gU zI
  simp[List.getElem?_eq_getElem hl]
 simp[World.cell?,e,hs]
theorem qR3(a b:ByteArray):(⟨(Lib.join ([a,b].map (·.data.toList)) [32]).toArray⟩:ByteArray)=rL a b:=by
 apply ByteArray.ext
 simp[Lib.join,rL]
theorem qRV(a b c:ByteArray):(⟨(Lib.join ([a,b,c].map (·.data.toList)) [32]).toArray⟩:ByteArray)=wd3 a b c:=by
 apply ByteArray.ext
 simp[Lib.join,wd3]
theorem mX(a b:ByteArray)(g:Nat)(w:World)(h0:w.cell? ⟨g,0,none⟩=some (.string a))(h1:w.cell? ⟨g,1,none⟩=some (.string b))(hg:g<w.heap.size)(ha:a.size≤1000)(hb:b.size≤1000) :
  Calls Tryz.prog 51 #[.slice (some ⟨g,0,none⟩) 2 2] w fun e w'=>e=.returned (.string (rL a b))∧Below w.heap.size w w':=by
 have hj:=Any.strings_Join Tryz.lays156 qGm g 0 2 [a,b] ⟨#[32]⟩ w (fun j x hx=>by
  match j,hx with
  | 0,hx=>
   obtain rfl:a=x:=by simpa using hx
   exact h0
  | 1,hx=>
   obtain rfl:b=x:=by simpa using hx
   exact h1
  | j+2,hx=>simp at hx) hg (by simp) (by simp) (by
   have h1:a.data.size≤1000:=ha
   have h2:b.data.size≤1000:=hb
   simp[Lib.join];omega)
 rw[qR3]at hj
 have HJ:=qC hj
 clear hj
 go_enter Tryz.func51,Tryz.ntmps51
 go_wp2_with fail
 refine(qA HJ).mono ?_
 rintro e w1 ⟨rfl,jD⟩
 go_wp2
 go_ret
 exact⟨rfl,jD⟩
theorem qAA(a b c:ByteArray)(g:Nat)(w:World)(h0:w.cell? ⟨g,0,none⟩=some (.string a))(h1:w.cell? ⟨g,1,none⟩=some (.string b))(h2:w.cell? ⟨g,2,none⟩=some (.string c))(hg:g<w.heap.size)(ha:a.size≤1000)(hb:b.size≤1000)(hc:c.size≤1000) :
  Calls Tryz.prog 51 #[.slice (some ⟨g,0,none⟩) 3 3] w fun e w'=>e=.returned (.string (wd3 a b c))∧Below w.heap.size w w':=by
 have hj:=Any.strings_Join Tryz.lays156 qGm g 0 3 [a,b,c] ⟨#[32]⟩ w (fun j x hx=>by
  match j,hx with
  | 0,hx=>
   obtain rfl:a=x:=by simpa using hx
   exact h0
  | 1,hx=>
   obtain rfl:b=x:=by simpa using hx
   exact h1
  | 2,hx=>
   obtain rfl:c=x:=by simpa using hx
   exact h2
  | j+3,hx=>simp at hx) hg (by simp) (by simp) (by
   have h1:a.data.size≤1000:=ha
   have h2:b.data.size≤1000:=hb
   have h3:c.data.size≤1000:=hc
   simp[Lib.join];omega)
 rw[qRV]at hj
 have HJ:=qC hj
 clear hj
 go_enter Tryz.func51,Tryz.ntmps51
 go_wp2_with fail
 refine(qA HJ).mono ?_
 rintro e w1 ⟨rfl,jD⟩
 go_wp2
 go_ret
 exact⟨rfl,jD⟩
theorem qAg(k n:Int)(t:ByteArray)(w:World)(hv:vC k n t=true)(hp:kB t.data.toList=true)(hT:zR w) :
  Calls Tryz.prog 52 #[.agg #[.int .i64 k,.int .i64 n,.string t]] w fun e w'=>e=.returned (.string (wrV k n t))∧Below w.heap.size w w':=by
 have HT:=qC hT
 clear hT
 by_cases hk:k=3
 ·subst hk
  have ht6:t.size≤65536:=by unfold kB at hp;simp at hp;have:=jI t;simp at this;omega
  have HA:=qC (fun w=>oV w.heap.size [] (.slice none 0 0) t w (Nat.le_refl _) (Buf.nil _ _) ht6 (by simp))
  have eq:(⟨(bV t.data.toList).toArray⟩:ByteArray)=wrV 3 n t:=by simp[wrV]
  rw[←eq]
  clear eq hp hv ht6
  go_enter Tryz.func52,Tryz.ntmps52
  go_wp2_with fail
  refine(qA HA _).mono ?_
  rintro e w1 ⟨v1,rfl,zE,jD⟩
  rw[List.nil_append]at zE
  have hcv:=zE.conv
  have HB:=qC (qE (qD _ _) jD)
  clear zE jD
  go_wp2
  go_ret
  exact⟨rfl,qA HB⟩
 ·have HA:=qC (fun w h=>qJg k n t w hv h)
  have eq:qAi k n t=wrV k n t:=by simp[wrV,hk]
  rw[eq]at HA
  have hk':(k == 3)=false:=by simp[hk]
  clear eq hp hv
  generalize wrV k n t=s at HA
  go_enter Tryz.func52,Tryz.ntmps52
  go_wp2_with fail
  refine(qA HA _ ((qA HT).later (qD _ _) (Nat.le_refl _))).mono ?_
  rintro e w1 ⟨rfl,jD⟩
  go_wp2
  go_ret
  exact⟨rfl,qE (qD _ _) jD⟩
theorem qAs(n:Int)(h0 : -2147483648≤n)(h1:n≤2147483647):Hid (∀ w,zR w→Calls Tryz.prog 50 #[.int .i64 n] w fun e w'=>e=.returned (.string (zU n))∧Below w.heap.size w w'):=qC (fun w h=>vX n w h0 h1 h)
end
section
open Go.RowKit Go.Joins
theorem qKP(n m:Int)(t:ByteArray)(vk vn:Int)(vt:ByteArray)(w:World)(h:mK 2 n m t vk vn vt)(hT:zR w)(hO:yT w 0 j6) :
  Calls Tryz.prog 30 #[.agg #[.int .i64 2,.int .i64 n,.int .i64 m,.string t,.int .i64 vk,.int .i64 vn,.string vt]] w fun e w'=>e=.returned (.string (j9 2 n m t vk vn vt))∧Below w.heap.size w w':=by
 obtain⟨_,_,hv,ht,uJ,uX,xG,kM,hp⟩:=h
 have HT:=qC hT
 have sK:=k7 hO (k:=2) (by decide)
 have hog:=hO.lt
 have pT:=qAs n (by omega) (by omega)
 have fQ:=jQ n (by omega) (by omega)
 have HR:Hid (j9 2 n m t vk vn vt=rL (zI j6 2) (zU n)):=qC (by simp[j9])
 have pK:=zB 2 (by decide)
 generalize zI j6 2=wd at sK HR pK
 rw[qA HR]
 generalize zU n=nt at pT fQ
 clear HR hv hp uJ uX xG kM hO hT
 go_enter Tryz.func30,Tryz.ntmps30
 obtain⟨xI,gA,u7,pM,wH,wX,pL⟩:=nM w 2 n m t vk vn vt
 have aY:=qC (show(w.alloc (.cells #[.int .i64 2,.int .i64 n,.int .i64 m,.string t,.int .i64 vk,.int .i64 vn,.string vt] 41)).drew.cell? ⟨0,2,none⟩=some (.string wd) from cell_later (qF (qD _ _)) sK)
 have sI:=qC ((qA HT).later (qF (qD w (.cells #[.int .i64 2,.int .i64 n,.int .i64 m,.string t,.int .i64 vk,.int .i64 vn,.string vt] 41))) (Nat.le_refl _))
 go_wp2
 go_region_with (go_at_call 50;refine(qA pT _ (qA sI)).mono ?_;rintro e y ⟨rfl,jR⟩;have y8:=qC (qE (qF (qD _ _)) jR);have HTy:=qC ((qA sI).later jR (Nat.le_refl _));obtain⟨y0,y1,y2,y3,y4,y5,y6⟩:=pA jR xI gA u7 pM wH wX pL;have yo:=cell_later jR (qA aY);have pJ:=jR.size;clear jR)
 all_goals
  have hzw:w.heap.size<y.heap.size:=by simp at pJ;omega
  clear pJ
  go_wp2_with fail
  refine(mX wd nt y.heap.size _ (by simp) (by simp) (by simp) (by omega) (by omega)).mono ?_
  rintro e w4 ⟨rfl,uU⟩
  have pV:=qC (qE (qG (qA y8)) uU)
  clear uU
  go_wp2
  go_ret
  exact⟨rfl,qA pV⟩
theorem qLu(n m:Int)(t:ByteArray)(vk vn:Int)(vt:ByteArray)(w:World)(h:mK 3 n m t vk vn vt)(hT:zR w)(hO:yT w 0 j6) :
  Calls Tryz.prog 30 #[.agg #[.int .i64 3,.int .i64 n,.int .i64 m,.string t,.int .i64 vk,.int .i64 vn,.string vt]] w fun e w'=>e=.returned (.string (j9 3 n m t vk vn vt))∧Below w.heap.size w w':=by
 obtain⟨_,_,hv,ht,uJ,uX,xG,kM,hp⟩:=h
 have HT:=qC hT
 have sK:=k7 hO (k:=3) (by decide)
 have hog:=hO.lt
 have pT:=qAs n (by omega) (by omega)
 have fQ:=jQ n (by omega) (by omega)
 have HR:Hid (j9 3 n m t vk vn vt=rL (zI j6 3) (zU n)):=qC (by simp[j9])
 have pK:=zB 3 (by decide)
 generalize zI j6 3=wd at sK HR pK
 rw[qA HR]
 generalize zU n=nt at pT fQ
 clear HR hv hp uJ uX xG kM hO hT
 go_enter Tryz.func30,Tryz.ntmps30
 obtain⟨xI,gA,u7,pM,wH,wX,pL⟩:=nM w 3 n m t vk vn vt
 have aY:=qC (show(w.alloc (.cells #[.int .i64 3,.int .i64 n,.int .i64 m,.string t,.int .i64 vk,.int .i64 vn,.string vt] 41)).drew.cell? ⟨0,3,none⟩=some (.string wd) from cell_later (qF (qD _ _)) sK)
 have sI:=qC ((qA HT).later (qF (qD w (.cells #[.int .i64 3,.int .i64 n,.int .i64 m,.string t,.int .i64 vk,.int .i64 vn,.string vt] 41))) (Nat.le_refl _))
 go_wp2
 go_region_with (go_at_call 50;refine(qA pT _ (qA sI)).mono ?_;rintro e y ⟨rfl,jR⟩;have y8:=qC (qE (qF (qD _ _)) jR);have HTy:=qC ((qA sI).later jR (Nat.le_refl _));obtain⟨y0,y1,y2,y3,y4,y5,y6⟩:=pA jR xI gA u7 pM wH wX pL;have yo:=cell_later jR (qA aY);have pJ:=jR.size;clear jR)
 all_goals
  have hzw:w.heap.size<y.heap.size:=by simp at pJ;omega
  clear pJ
  go_wp2_with fail
  refine(mX wd nt y.heap.size _ (by simp) (by simp) (by simp) (by omega) (by omega)).mono ?_
  rintro e w4 ⟨rfl,uU⟩
  have pV:=qC (qE (qG (qA y8)) uU)
  clear uU
  go_wp2
  go_ret
  exact⟨rfl,qA pV⟩
theorem qLa(n m:Int)(t:ByteArray)(vk vn:Int)(vt:ByteArray)(w:World)(h:mK 6 n m t vk vn vt)(hT:zR w)(hO:yT w 0 j6) :
  Calls Tryz.prog 30 #[.agg #[.int .i64 6,.int .i64 n,.int .i64 m,.string t,.int .i64 vk,.int .i64 vn,.string vt]] w fun e w'=>e=.returned (.string (j9 6 n m t vk vn vt))∧Below w.heap.size w w':=by
 obtain⟨_,_,hv,ht,uJ,uX,xG,kM,hp⟩:=h
 have HT:=qC hT
 have sK:=k7 hO (k:=6) (by decide)
 have hog:=hO.lt
 have pT:=qAs n (by omega) (by omega)
 have fQ:=jQ n (by omega) (by omega)
 have HR:Hid (j9 6 n m t vk vn vt=rL (zI j6 6) (zU n)):=qC (by simp[j9])
 have pK:=zB 6 (by decide)
 generalize zI j6 6=wd at sK HR pK
 rw[qA HR]
 generalize zU n=nt at pT fQ
 clear HR hv hp uJ uX xG kM hO hT
 go_enter Tryz.func30,Tryz.ntmps30
 obtain⟨xI,gA,u7,pM,wH,wX,pL⟩:=nM w 6 n m t vk vn vt
 have aY:=qC (show(w.alloc (.cells #[.int .i64 6,.int .i64 n,.int .i64 m,.string t,.int .i64 vk,.int .i64 vn,.string vt] 41)).drew.cell? ⟨0,6,none⟩=some (.string wd) from cell_later (qF (qD _ _)) sK)
 have sI:=qC ((qA HT).later (qF (qD w (.cells #[.int .i64 6,.int .i64 n,.int .i64 m,.string t,.int .i64 vk,.int .i64 vn,.string vt] 41))) (Nat.le_refl _))
 go_wp2
 go_region_with (go_at_call 50;refine(qA pT _ (qA sI)).mono ?_;rintro e y ⟨rfl,jR⟩;have y8:=qC (qE (qF (qD _ _)) jR);have HTy:=qC ((qA sI).later jR (Nat.le_refl _));obtain⟨y0,y1,y2,y3,y4,y5,y6⟩:=pA jR xI gA u7 pM wH wX pL;have yo:=cell_later jR (qA aY);have pJ:=jR.size;clear jR)
 all_goals
  have hzw:w.heap.size<y.heap.size:=by simp at pJ;omega
  clear pJ
  go_wp2_with fail
  refine(mX wd nt y.heap.size _ (by simp) (by simp) (by simp) (by omega) (by omega)).mono ?_
  rintro e w4 ⟨rfl,uU⟩
  have pV:=qC (qE (qG (qA y8)) uU)
  clear uU
  go_wp2
  go_ret
  exact⟨rfl,qA pV⟩
theorem qK8(n m:Int)(t:ByteArray)(vk vn:Int)(vt:ByteArray)(w:World)(h:mK 7 n m t vk vn vt)(hT:zR w)(hO:yT w 0 j6) :
  Calls Tryz.prog 30 #[.agg #[.int .i64 7,.int .i64 n,.int .i64 m,.string t,.int .i64 vk,.int .i64 vn,.string vt]] w fun e w'=>e=.returned (.string (j9 7 n m t vk vn vt))∧Below w.heap.size w w':=by
 obtain⟨_,_,hv,ht,uJ,uX,xG,kM,hp⟩:=h
 have HT:=qC hT
 have sK:=k7 hO (k:=7) (by decide)
 have hog:=hO.lt
 have pT:=qAs n (by omega) (by omega)
 have fQ:=jQ n (by omega) (by omega)
 have HR:Hid (j9 7 n m t vk vn vt=rL (zI j6 7) (zU n)):=qC (by simp[j9])
 have pK:=zB 7 (by decide)
 generalize zI j6 7=wd at sK HR pK
 rw[qA HR]
 generalize zU n=nt at pT fQ
 clear HR hv hp uJ uX xG kM hO hT
 go_enter Tryz.func30,Tryz.ntmps30
 obtain⟨xI,gA,u7,pM,wH,wX,pL⟩:=nM w 7 n m t vk vn vt
 have aY:=qC (show(w.alloc (.cells #[.int .i64 7,.int .i64 n,.int .i64 m,.string t,.int .i64 vk,.int .i64 vn,.string vt] 41)).drew.cell? ⟨0,7,none⟩=some (.string wd) from cell_later (qF (qD _ _)) sK)
 have sI:=qC ((qA HT).later (qF (qD w (.cells #[.int .i64 7,.int .i64 n,.int .i64 m,.string t,.int .i64 vk,.int .i64 vn,.string vt] 41))) (Nat.le_refl _))
 go_wp2
 go_region_with (go_at_call 50;refine(qA pT _ (qA sI)).mono ?_;rintro e y ⟨rfl,jR⟩;have y8:=qC (qE (qF (qD _ _)) jR);have HTy:=qC ((qA sI).later jR (Nat.le_refl _));obtain⟨y0,y1,y2,y3,y4,y5,y6⟩:=pA jR xI gA u7 pM wH wX pL;have yo:=cell_later jR (qA aY);have pJ:=jR.size;clear jR)
 all_goals
  have hzw:w.heap.size<y.heap.size:=by simp at pJ;omega
  clear pJ
  go_wp2_with fail
  refine(mX wd nt y.heap.size _ (by simp) (by simp) (by simp) (by omega) (by omega)).mono ?_
  rintro e w4 ⟨rfl,uU⟩
  have pV:=qC (qE (qG (qA y8)) uU)
  clear uU
  go_wp2
  go_ret
  exact⟨rfl,qA pV⟩
theorem qLW(n m:Int)(t:ByteArray)(vk vn:Int)(vt:ByteArray)(w:World)(h:mK 8 n m t vk vn vt)(hT:zR w)(hO:yT w 0 j6) :
  Calls Tryz.prog 30 #[.agg #[.int .i64 8,.int .i64 n,.int .i64 m,.string t,.int .i64 vk,.int .i64 vn,.string vt]] w fun e w'=>e=.returned (.string (j9 8 n m t vk vn vt))∧Below w.heap.size w w':=by
 obtain⟨_,_,hv,ht,uJ,uX,xG,kM,hp⟩:=h
 have HT:=qC hT
 have sK:=k7 hO (k:=8) (by decide)
 have hog:=hO.lt
 have pT:=qAs n (by omega) (by omega)
 have fQ:=jQ n (by omega) (by omega)
 have HR:Hid (j9 8 n m t vk vn vt=rL (zI j6 8) (zU n)):=qC (by simp[j9])
 have pK:=zB 8 (by decide)
 generalize zI j6 8=wd at sK HR pK
 rw[qA HR]
 generalize zU n=nt at pT fQ
 clear HR hv hp uJ uX xG kM hO hT
 go_enter Tryz.func30,Tryz.ntmps30
 obtain⟨xI,gA,u7,pM,wH,wX,pL⟩:=nM w 8 n m t vk vn vt
 have aY:=qC (show(w.alloc (.cells #[.int .i64 8,.int .i64 n,.int .i64 m,.string t,.int .i64 vk,.int .i64 vn,.string vt] 41)).drew.cell? ⟨0,8,none⟩=some (.string wd) from cell_later (qF (qD _ _)) sK)
 have sI:=qC ((qA HT).later (qF (qD w (.cells #[.int .i64 8,.int .i64 n,.int .i64 m,.string t,.int .i64 vk,.int .i64 vn,.string vt] 41))) (Nat.le_refl _))
 go_wp2
 go_region_with (go_at_call 50;refine(qA pT _ (qA sI)).mono ?_;rintro e y ⟨rfl,jR⟩;have y8:=qC (qE (qF (qD _ _)) jR);have HTy:=qC ((qA sI).later jR (Nat.le_refl _));obtain⟨y0,y1,y2,y3,y4,y5,y6⟩:=pA jR xI gA u7 pM wH wX pL;have yo:=cell_later jR (qA aY);have pJ:=jR.size;clear jR)
 all_goals
  have hzw:w.heap.size<y.heap.size:=by simp at pJ;omega
  clear pJ
  go_wp2_with fail
  refine(mX wd nt y.heap.size _ (by simp) (by simp) (by simp) (by omega) (by omega)).mono ?_
  rintro e w4 ⟨rfl,uU⟩
  have pV:=qC (qE (qG (qA y8)) uU)
  clear uU
  go_wp2
  go_ret
  exact⟨rfl,qA pV⟩
theorem qLf(n m:Int)(t:ByteArray)(vk vn:Int)(vt:ByteArray)(w:World)(h:mK 9 n m t vk vn vt)(hT:zR w)(hO:yT w 0 j6) :
  Calls Tryz.prog 30 #[.agg #[.int .i64 9,.int .i64 n,.int .i64 m,.string t,.int .i64 vk,.int .i64 vn,.string vt]] w fun e w'=>e=.returned (.string (j9 9 n m t vk vn vt))∧Below w.heap.size w w':=by
 obtain⟨_,_,hv,ht,uJ,uX,xG,kM,hp⟩:=h
 have HT:=qC hT
 have sK:=k7 hO (k:=9) (by decide)
 have hog:=hO.lt
 have pT:=qAs n (by omega) (by omega)
 have fQ:=jQ n (by omega) (by omega)
 have HR:Hid (j9 9 n m t vk vn vt=rL (zI j6 9) (zU n)):=qC (by simp[j9])
 have pK:=zB 9 (by decide)
 generalize zI j6 9=wd at sK HR pK
 rw[qA HR]
 generalize zU n=nt at pT fQ
 clear HR hv hp uJ uX xG kM hO hT
 go_enter Tryz.func30,Tryz.ntmps30
 obtain⟨xI,gA,u7,pM,wH,wX,pL⟩:=nM w 9 n m t vk vn vt
 have aY:=qC (show(w.alloc (.cells #[.int .i64 9,.int .i64 n,.int .i64 m,.string t,.int .i64 vk,.int .i64 vn,.string vt] 41)).drew.cell? ⟨0,9,none⟩=some (.string wd) from cell_later (qF (qD _ _)) sK)
 have sI:=qC ((qA HT).later (qF (qD w (.cells #[.int .i64 9,.int .i64 n,.int .i64 m,.string t,.int .i64 vk,.int .i64 vn,.string vt] 41))) (Nat.le_refl _))
 go_wp2
 go_region_with (go_at_call 50;refine(qA pT _ (qA sI)).mono ?_;rintro e y ⟨rfl,jR⟩;have y8:=qC (qE (qF (qD _ _)) jR);have HTy:=qC ((qA sI).later jR (Nat.le_refl _));obtain⟨y0,y1,y2,y3,y4,y5,y6⟩:=pA jR xI gA u7 pM wH wX pL;have yo:=cell_later jR (qA aY);have pJ:=jR.size;clear jR)
 all_goals
  have hzw:w.heap.size<y.heap.size:=by simp at pJ;omega
  clear pJ
  go_wp2_with fail
  refine(mX wd nt y.heap.size _ (by simp) (by simp) (by simp) (by omega) (by omega)).mono ?_
  rintro e w4 ⟨rfl,uU⟩
  have pV:=qC (qE (qG (qA y8)) uU)
  clear uU
  go_wp2
  go_ret
  exact⟨rfl,qA pV⟩
theorem qIE(n m:Int)(t:ByteArray)(vk vn:Int)(vt:ByteArray)(w:World)(h:mK 14 n m t vk vn vt)(hT:zR w)(hO:yT w 0 j6) :
  Calls Tryz.prog 30 #[.agg #[.int .i64 14,.int .i64 n,.int .i64 m,.string t,.int .i64 vk,.int .i64 vn,.string vt]] w fun e w'=>e=.returned (.string (j9 14 n m t vk vn vt))∧Below w.heap.size w w':=by
 obtain⟨_,_,hv,ht,uJ,uX,xG,kM,hp⟩:=h
 have HT:=qC hT
 have sK:=k7 hO (k:=14) (by decide)
 have hog:=hO.lt
 have pT:=qAs n (by omega) (by omega)
 have fQ:=jQ n (by omega) (by omega)
 have HR:Hid (j9 14 n m t vk vn vt=rL (zI j6 14) (zU n)):=qC (by simp[j9])
 have pK:=zB 14 (by decide)
 generalize zI j6 14=wd at sK HR pK
 rw[qA HR]
 generalize zU n=nt at pT fQ
 clear HR hv hp uJ uX xG kM hO hT
 go_enter Tryz.func30,Tryz.ntmps30
 obtain⟨xI,gA,u7,pM,wH,wX,pL⟩:=nM w 14 n m t vk vn vt
 have aY:=qC (show(w.alloc (.cells #[.int .i64 14,.int .i64 n,.int .i64 m,.string t,.int .i64 vk,.int .i64 vn,.string vt] 41)).drew.cell? ⟨0,14,none⟩=some (.string wd) from cell_later (qF (qD _ _)) sK)
 have sI:=qC ((qA HT).later (qF (qD w (.cells #[.int .i64 14,.int .i64 n,.int .i64 m,.string t,.int .i64 vk,.int .i64 vn,.string vt] 41))) (Nat.le_refl _))
 go_wp2
 go_region_with (go_at_call 50;refine(qA pT _ (qA sI)).mono ?_;rintro e y ⟨rfl,jR⟩;have y8:=qC (qE (qF (qD _ _)) jR);have HTy:=qC ((qA sI).later jR (Nat.le_refl _));obtain⟨y0,y1,y2,y3,y4,y5,y6⟩:=pA jR xI gA u7 pM wH wX pL;have yo:=cell_later jR (qA aY);have pJ:=jR.size;clear jR)
 all_goals
  have hzw:w.heap.size<y.heap.size:=by simp at pJ;omega
  clear pJ
  go_wp2_with fail
  refine(mX wd nt y.heap.size _ (by simp) (by simp) (by simp) (by omega) (by omega)).mono ?_
  rintro e w4 ⟨rfl,uU⟩
  have pV:=qC (qE (qG (qA y8)) uU)
  clear uU
  go_wp2
  go_ret
  exact⟨rfl,qA pV⟩
theorem qL9(n m:Int)(t:ByteArray)(vk vn:Int)(vt:ByteArray)(w:World)(h:mK 4 n m t vk vn vt)(hT:zR w)(hO:yT w 0 j6) :
  Calls Tryz.prog 30 #[.agg #[.int .i64 4,.int .i64 n,.int .i64 m,.string t,.int .i64 vk,.int .i64 vn,.string vt]] w fun e w'=>e=.returned (.string (j9 4 n m t vk vn vt))∧Below w.heap.size w w':=by
 obtain⟨_,_,hv,ht,uJ,uX,xG,kM,hp⟩:=h
 have HT:=qC hT
 have sK:=k7 hO (k:=4) (by decide)
 have hog:=hO.lt
 have pT:=qAs n (by omega) (by omega)
 have fQ:=jQ n (by omega) (by omega)
 have HR:Hid (j9 4 n m t vk vn vt=rL (zI j6 4) t):=qC (by simp[j9])
 have pK:=zB 4 (by decide)
 generalize zI j6 4=wd at sK HR pK
 rw[qA HR]
 generalize zU n=nt at pT fQ
 clear HR hv hp uJ uX xG kM hO hT
 go_enter Tryz.func30,Tryz.ntmps30
 obtain⟨xI,gA,u7,pM,wH,wX,pL⟩:=nM w 4 n m t vk vn vt
 have aY:=qC (show(w.alloc (.cells #[.int .i64 4,.int .i64 n,.int .i64 m,.string t,.int .i64 vk,.int .i64 vn,.string vt] 41)).drew.cell? ⟨0,4,none⟩=some (.string wd) from cell_later (qF (qD _ _)) sK)
 have sI:=qC ((qA HT).later (qF (qD w (.cells #[.int .i64 4,.int .i64 n,.int .i64 m,.string t,.int .i64 vk,.int .i64 vn,.string vt] 41))) (Nat.le_refl _))
 go_wp2
 go_region_with (go_at_call 50;refine(qA pT _ (qA sI)).mono ?_;rintro e y ⟨rfl,jR⟩;have y8:=qC (qE (qF (qD _ _)) jR);have HTy:=qC ((qA sI).later jR (Nat.le_refl _));obtain⟨y0,y1,y2,y3,y4,y5,y6⟩:=pA jR xI gA u7 pM wH wX pL;have yo:=cell_later jR (qA aY);have pJ:=jR.size;clear jR)
 all_goals
  have hzw:w.heap.size<y.heap.size:=by simp at pJ;omega
  clear pJ
  go_wp2_with fail
  refine(mX wd t y.heap.size _ (by simp) (by simp) (by simp) (by omega) (by omega)).mono ?_
  rintro e w4 ⟨rfl,uU⟩
  have pV:=qC (qE (qG (qA y8)) uU)
  clear uU
  go_wp2
  go_ret
  exact⟨rfl,qA pV⟩
theorem qK3(n m:Int)(t:ByteArray)(vk vn:Int)(vt:ByteArray)(w:World)(h:mK 5 n m t vk vn vt)(hT:zR w)(hO:yT w 0 j6) :
  Calls Tryz.prog 30 #[.agg #[.int .i64 5,.int .i64 n,.int .i64 m,.string t,.int .i64 vk,.int .i64 vn,.string vt]] w fun e w'=>e=.returned (.string (j9 5 n m t vk vn vt))∧Below w.heap.size w w':=by
 obtain⟨_,_,hv,ht,uJ,uX,xG,kM,hp⟩:=h
 have HT:=qC hT
 have sK:=k7 hO (k:=5) (by decide)
 have hog:=hO.lt
 have pT:=qAs n (by omega) (by omega)
 have fQ:=jQ n (by omega) (by omega)
 have HR:Hid (j9 5 n m t vk vn vt=rL (zI j6 5) t):=qC (by simp[j9])
 have pK:=zB 5 (by decide)
 generalize zI j6 5=wd at sK HR pK
 rw[qA HR]
 generalize zU n=nt at pT fQ
 clear HR hv hp uJ uX xG kM hO hT
 go_enter Tryz.func30,Tryz.ntmps30
 obtain⟨xI,gA,u7,pM,wH,wX,pL⟩:=nM w 5 n m t vk vn vt
 have aY:=qC (show(w.alloc (.cells #[.int .i64 5,.int .i64 n,.int .i64 m,.string t,.int .i64 vk,.int .i64 vn,.string vt] 41)).drew.cell? ⟨0,5,none⟩=some (.string wd) from cell_later (qF (qD _ _)) sK)
 have sI:=qC ((qA HT).later (qF (qD w (.cells #[.int .i64 5,.int .i64 n,.int .i64 m,.string t,.int .i64 vk,.int .i64 vn,.string vt] 41))) (Nat.le_refl _))
 go_wp2
 go_region_with (go_at_call 50;refine(qA pT _ (qA sI)).mono ?_;rintro e y ⟨rfl,jR⟩;have y8:=qC (qE (qF (qD _ _)) jR);have HTy:=qC ((qA sI).later jR (Nat.le_refl _));obtain⟨y0,y1,y2,y3,y4,y5,y6⟩:=pA jR xI gA u7 pM wH wX pL;have yo:=cell_later jR (qA aY);have pJ:=jR.size;clear jR)
 all_goals
  have hzw:w.heap.size<y.heap.size:=by simp at pJ;omega
  clear pJ
  go_wp2_with fail
  refine(mX wd t y.heap.size _ (by simp) (by simp) (by simp) (by omega) (by omega)).mono ?_
  rintro e w4 ⟨rfl,uU⟩
  have pV:=qC (qE (qG (qA y8)) uU)
  clear uU
  go_wp2
  go_ret
  exact⟨rfl,qA pV⟩
theorem qJc(n m:Int)(t:ByteArray)(vk vn:Int)(vt:ByteArray)(w:World)(h:mK 12 n m t vk vn vt)(hT:zR w)(hO:yT w 0 j6) :
  Calls Tryz.prog 30 #[.agg #[.int .i64 12,.int .i64 n,.int .i64 m,.string t,.int .i64 vk,.int .i64 vn,.string vt]] w fun e w'=>e=.returned (.string (j9 12 n m t vk vn vt))∧Below w.heap.size w w':=by
 obtain⟨_,_,hv,ht,uJ,uX,xG,kM,hp⟩:=h
 have HT:=qC hT
 have sK:=k7 hO (k:=12) (by decide)
 have hog:=hO.lt
 have pT:=qAs n (by omega) (by omega)
 have fQ:=jQ n (by omega) (by omega)
 have HR:Hid (j9 12 n m t vk vn vt=zI j6 12):=qC (by simp[j9])
 have pK:=zB 12 (by decide)
 generalize zI j6 12=wd at sK HR pK
 rw[qA HR]
 generalize zU n=nt at pT fQ
 clear HR hv hp uJ uX xG kM hO hT
 go_enter Tryz.func30,Tryz.ntmps30
 obtain⟨xI,gA,u7,pM,wH,wX,pL⟩:=nM w 12 n m t vk vn vt
 have aY:=qC (show(w.alloc (.cells #[.int .i64 12,.int .i64 n,.int .i64 m,.string t,.int .i64 vk,.int .i64 vn,.string vt] 41)).drew.cell? ⟨0,12,none⟩=some (.string wd) from cell_later (qF (qD _ _)) sK)
 have sI:=qC ((qA HT).later (qF (qD w (.cells #[.int .i64 12,.int .i64 n,.int .i64 m,.string t,.int .i64 vk,.int .i64 vn,.string vt] 41))) (Nat.le_refl _))
 go_wp2
 go_region_with (go_at_call 50;refine(qA pT _ (qA sI)).mono ?_;rintro e y ⟨rfl,jR⟩;have y8:=qC (qE (qF (qD _ _)) jR);have HTy:=qC ((qA sI).later jR (Nat.le_refl _));obtain⟨y0,y1,y2,y3,y4,y5,y6⟩:=pA jR xI gA u7 pM wH wX pL;have yo:=cell_later jR (qA aY);have pJ:=jR.size;clear jR)
 all_goals
  have hzw:w.heap.size<y.heap.size:=by simp at pJ;omega
  clear pJ
  go_wp2
  go_ret
  exact⟨rfl,qA y8⟩
theorem qIC(n m:Int)(t:ByteArray)(vk vn:Int)(vt:ByteArray)(w:World)(h:mK 13 n m t vk vn vt)(hT:zR w)(hO:yT w 0 j6) :
  Calls Tryz.prog 30 #[.agg #[.int .i64 13,.int .i64 n,.int .i64 m,.string t,.int .i64 vk,.int .i64 vn,.string vt]] w fun e w'=>e=.returned (.string (j9 13 n m t vk vn vt))∧Below w.heap.size w w':=by
 obtain⟨_,_,hv,ht,uJ,uX,xG,kM,hp⟩:=h
 have HT:=qC hT
 have sK:=k7 hO (k:=13) (by decide)
 have hog:=hO.lt
 have pT:=qAs n (by omega) (by omega)
 have fQ:=jQ n (by omega) (by omega)
 have HR:Hid (j9 13 n m t vk vn vt=zI j6 13):=qC (by simp[j9])
 have pK:=zB 13 (by decide)
 generalize zI j6 13=wd at sK HR pK
 rw[qA HR]
 generalize zU n=nt at pT fQ
 clear HR hv hp uJ uX xG kM hO hT
 go_enter Tryz.func30,Tryz.ntmps30
 obtain⟨xI,gA,u7,pM,wH,wX,pL⟩:=nM w 13 n m t vk vn vt
 have aY:=qC (show(w.alloc (.cells #[.int .i64 13,.int .i64 n,.int .i64 m,.string t,.int .i64 vk,.int .i64 vn,.string vt] 41)).drew.cell? ⟨0,13,none⟩=some (.string wd) from cell_later (qF (qD _ _)) sK)
 have sI:=qC ((qA HT).later (qF (qD w (.cells #[.int .i64 13,.int .i64 n,.int .i64 m,.string t,.int .i64 vk,.int .i64 vn,.string vt] 41))) (Nat.le_refl _))
 go_wp2
 go_region_with (go_at_call 50;refine(qA pT _ (qA sI)).mono ?_;rintro e y ⟨rfl,jR⟩;have y8:=qC (qE (qF (qD _ _)) jR);have HTy:=qC ((qA sI).later jR (Nat.le_refl _));obtain⟨y0,y1,y2,y3,y4,y5,y6⟩:=pA jR xI gA u7 pM wH wX pL;have yo:=cell_later jR (qA aY);have pJ:=jR.size;clear jR)
 all_goals
  have hzw:w.heap.size<y.heap.size:=by simp at pJ;omega
  clear pJ
  go_wp2
  go_ret
  exact⟨rfl,qA y8⟩
theorem qIe(n m:Int)(t:ByteArray)(vk vn:Int)(vt:ByteArray)(w:World)(h:mK 15 n m t vk vn vt)(hT:zR w)(hO:yT w 0 j6) :
  Calls Tryz.prog 30 #[.agg #[.int .i64 15,.int .i64 n,.int .i64 m,.string t,.int .i64 vk,.int .i64 vn,.string vt]] w fun e w'=>e=.returned (.string (j9 15 n m t vk vn vt))∧Below w.heap.size w w':=by
 obtain⟨_,_,hv,ht,uJ,uX,xG,kM,hp⟩:=h
 have HT:=qC hT
 have sK:=k7 hO (k:=15) (by decide)
 have hog:=hO.lt
 have pT:=qAs n (by omega) (by omega)
 have fQ:=jQ n (by omega) (by omega)
 have HR:Hid (j9 15 n m t vk vn vt=zI j6 15):=qC (by simp[j9])
 have pK:=zB 15 (by decide)
 generalize zI j6 15=wd at sK HR pK
 rw[qA HR]
 generalize zU n=nt at pT fQ
 clear HR hv hp uJ uX xG kM hO hT
 go_enter Tryz.func30,Tryz.ntmps30
 obtain⟨xI,gA,u7,pM,wH,wX,pL⟩:=nM w 15 n m t vk vn vt
 have aY:=qC (show(w.alloc (.cells #[.int .i64 15,.int .i64 n,.int .i64 m,.string t,.int .i64 vk,.int .i64 vn,.string vt] 41)).drew.cell? ⟨0,15,none⟩=some (.string wd) from cell_later (qF (qD _ _)) sK)
 have sI:=qC ((qA HT).later (qF (qD w (.cells #[.int .i64 15,.int .i64 n,.int .i64 m,.string t,.int .i64 vk,.int .i64 vn,.string vt] 41))) (Nat.le_refl _))
 go_wp2
 go_region_with (go_at_call 50;refine(qA pT _ (qA sI)).mono ?_;rintro e y ⟨rfl,jR⟩;have y8:=qC (qE (qF (qD _ _)) jR);have HTy:=qC ((qA sI).later jR (Nat.le_refl _));obtain⟨y0,y1,y2,y3,y4,y5,y6⟩:=pA jR xI gA u7 pM wH wX pL;have yo:=cell_later jR (qA aY);have pJ:=jR.size;clear jR)
 all_goals
  have hzw:w.heap.size<y.heap.size:=by simp at pJ;omega
  clear pJ
  go_wp2
  go_ret
  exact⟨rfl,qA y8⟩
theorem qIi(n m:Int)(t:ByteArray)(vk vn:Int)(vt:ByteArray)(w:World)(h:mK 16 n m t vk vn vt)(hT:zR w)(hO:yT w 0 j6) :
  Calls Tryz.prog 30 #[.agg #[.int .i64 16,.int .i64 n,.int .i64 m,.string t,.int .i64 vk,.int .i64 vn,.string vt]] w fun e w'=>e=.returned (.string (j9 16 n m t vk vn vt))∧Below w.heap.size w w':=by
 obtain⟨_,_,hv,ht,uJ,uX,xG,kM,hp⟩:=h
 have HT:=qC hT
 have sK:=k7 hO (k:=16) (by decide)
 have hog:=hO.lt
 have pT:=qAs n (by omega) (by omega)
 have fQ:=jQ n (by omega) (by omega)
 have HR:Hid (j9 16 n m t vk vn vt=zI j6 16):=qC (by simp[j9])
 have pK:=zB 16 (by decide)
 generalize zI j6 16=wd at sK HR pK
 rw[qA HR]
 generalize zU n=nt at pT fQ
 clear HR hv hp uJ uX xG kM hO hT
 go_enter Tryz.func30,Tryz.ntmps30
 obtain⟨xI,gA,u7,pM,wH,wX,pL⟩:=nM w 16 n m t vk vn vt
 have aY:=qC (show(w.alloc (.cells #[.int .i64 16,.int .i64 n,.int .i64 m,.string t,.int .i64 vk,.int .i64 vn,.string vt] 41)).drew.cell? ⟨0,16,none⟩=some (.string wd) from cell_later (qF (qD _ _)) sK)
 have sI:=qC ((qA HT).later (qF (qD w (.cells #[.int .i64 16,.int .i64 n,.int .i64 m,.string t,.int .i64 vk,.int .i64 vn,.string vt] 41))) (Nat.le_refl _))
 go_wp2
 go_region_with (go_at_call 50;refine(qA pT _ (qA sI)).mono ?_;rintro e y ⟨rfl,jR⟩;have y8:=qC (qE (qF (qD _ _)) jR);have HTy:=qC ((qA sI).later jR (Nat.le_refl _));obtain⟨y0,y1,y2,y3,y4,y5,y6⟩:=pA jR xI gA u7 pM wH wX pL;have yo:=cell_later jR (qA aY);have pJ:=jR.size;clear jR)
 all_goals
  have hzw:w.heap.size<y.heap.size:=by simp at pJ;omega
  clear pJ
  go_wp2
  go_ret
  exact⟨rfl,qA y8⟩
theorem qKX(n m:Int)(t:ByteArray)(vk vn:Int)(vt:ByteArray)(w:World)(h:mK 1 n m t vk vn vt)(hT:zR w)(hO:yT w 0 j6) :
  Calls Tryz.prog 30 #[.agg #[.int .i64 1,.int .i64 n,.int .i64 m,.string t,.int .i64 vk,.int .i64 vn,.string vt]] w fun e w'=>e=.returned (.string (j9 1 n m t vk vn vt))∧Below w.heap.size w w':=by
 obtain⟨_,_,hv,ht,uJ,uX,xG,kM,hp⟩:=h
 have HT:=qC hT
 have sK:=k7 hO (k:=1) (by decide)
 have hog:=hO.lt
 have pT:=qAs n (by omega) (by omega)
 have fQ:=jQ n (by omega) (by omega)
 have HQ:=qC (fun w h=>qAg vk vn vt w hv (hp rfl) h)
 have hqz:=qBM vk vn vt hv (hp rfl)
 have HR:Hid (j9 1 n m t vk vn vt=rL (zI j6 1) (wrV vk vn vt)):=qC (by simp[j9])
 have pK:=zB 1 (by decide)
 generalize zI j6 1=wd at sK HR pK
 rw[qA HR]
 generalize zU n=nt at pT fQ
 generalize wrV vk vn vt=qt at HQ hqz
 clear HR hv hp uJ uX xG kM hO hT
 go_enter Tryz.func30,Tryz.ntmps30
 obtain⟨xI,gA,u7,pM,wH,wX,pL⟩:=nM w 1 n m t vk vn vt
 have aY:=qC (show(w.alloc (.cells #[.int .i64 1,.int .i64 n,.int .i64 m,.string t,.int .i64 vk,.int .i64 vn,.string vt] 41)).drew.cell? ⟨0,1,none⟩=some (.string wd) from cell_later (qF (qD _ _)) sK)
 have sI:=qC ((qA HT).later (qF (qD w (.cells #[.int .i64 1,.int .i64 n,.int .i64 m,.string t,.int .i64 vk,.int .i64 vn,.string vt] 41))) (Nat.le_refl _))
 go_wp2
 go_region_with (go_at_call 50;refine(qA pT _ (qA sI)).mono ?_;rintro e y ⟨rfl,jR⟩;have y8:=qC (qE (qF (qD _ _)) jR);have HTy:=qC ((qA sI).later jR (Nat.le_refl _));obtain⟨y0,y1,y2,y3,y4,y5,y6⟩:=pA jR xI gA u7 pM wH wX pL;have yo:=cell_later jR (qA aY);have pJ:=jR.size;clear jR)
 all_goals
  have hzw:w.heap.size<y.heap.size:=by simp at pJ;omega
  clear pJ
  go_wp2_with fail
  refine(qA HQ _ (qA HTy)).mono ?_
  rintro e w3 ⟨rfl,uN⟩
  have uO:=qC (qE (qA y8) uN)
  clear uN
  go_wp2_with fail
  refine(mX wd qt w3.heap.size _ (by simp) (by simp) (by simp) (by omega) (by omega)).mono ?_
  rintro e w4 ⟨rfl,uU⟩
  have pV:=qC (qE (qG (qA uO)) uU)
  clear uU
  go_wp2
  go_ret
  exact⟨rfl,qA pV⟩
theorem qIV(n m:Int)(t:ByteArray)(vk vn:Int)(vt:ByteArray)(w:World)(h:mK 10 n m t vk vn vt)(hT:zR w)(hO:yT w 0 j6) :
  Calls Tryz.prog 30 #[.agg #[.int .i64 10,.int .i64 n,.int .i64 m,.string t,.int .i64 vk,.int .i64 vn,.string vt]] w fun e w'=>e=.returned (.string (j9 10 n m t vk vn vt))∧Below w.heap.size w w':=by
 obtain⟨_,_,hv,ht,uJ,uX,xG,kM,hp⟩:=h
 have HT:=qC hT
 have sK:=k7 hO (k:=10) (by decide)
 have hog:=hO.lt
 have pT:=qAs n (by omega) (by omega)
 have fQ:=jQ n (by omega) (by omega)
 have HDm:=qAs m (by omega) (by omega)
 have hmz:=jQ m (by omega) (by omega)
 have HR:Hid (j9 10 n m t vk vn vt=wd3 (zI j6 10) (zU n) (zU m)):=qC (by simp[j9])
 have pK:=zB 10 (by decide)
 generalize zI j6 10=wd at sK HR pK
 rw[qA HR]
 generalize zU n=nt at pT fQ
 generalize zU m=mt at HDm hmz
 clear HR hv hp uJ uX xG kM hO hT
 go_enter Tryz.func30,Tryz.ntmps30
 obtain⟨xI,gA,u7,pM,wH,wX,pL⟩:=nM w 10 n m t vk vn vt
 have aY:=qC (show(w.alloc (.cells #[.int .i64 10,.int .i64 n,.int .i64 m,.string t,.int .i64 vk,.int .i64 vn,.string vt] 41)).drew.cell? ⟨0,10,none⟩=some (.string wd) from cell_later (qF (qD _ _)) sK)
 have sI:=qC ((qA HT).later (qF (qD w (.cells #[.int .i64 10,.int .i64 n,.int .i64 m,.string t,.int .i64 vk,.int .i64 vn,.string vt] 41))) (Nat.le_refl _))
 go_wp2
 go_region_with (go_at_call 50;refine(qA pT _ (qA sI)).mono ?_;rintro e y ⟨rfl,jR⟩;have y8:=qC (qE (qF (qD _ _)) jR);have HTy:=qC ((qA sI).later jR (Nat.le_refl _));obtain⟨y0,y1,y2,y3,y4,y5,y6⟩:=pA jR xI gA u7 pM wH wX pL;have yo:=cell_later jR (qA aY);have pJ:=jR.size;clear jR)
 all_goals
  have hzw:w.heap.size<y.heap.size:=by simp at pJ;omega
  clear pJ
  go_wp2_with fail
  refine(qA HDm _ (qA HTy)).mono ?_
  rintro e w3 ⟨rfl,uN⟩
  have uO:=qC (qE (qA y8) uN)
  clear uN
  go_wp2_with fail
  refine(qAA wd nt mt w3.heap.size _ (by simp) (by simp) (by simp) (by simp) (by omega) (by omega) (by omega)).mono ?_
  rintro e w4 ⟨rfl,uU⟩
  have pV:=qC (qE (qG (qA uO)) uU)
  clear uU
  go_wp2
  go_ret
  exact⟨rfl,qA pV⟩
theorem qIw(n m:Int)(t:ByteArray)(vk vn:Int)(vt:ByteArray)(w:World)(h:mK 11 n m t vk vn vt)(hT:zR w)(hO:yT w 0 j6) :
  Calls Tryz.prog 30 #[.agg #[.int .i64 11,.int .i64 n,.int .i64 m,.string t,.int .i64 vk,.int .i64 vn,.string vt]] w fun e w'=>e=.returned (.string (j9 11 n m t vk vn vt))∧Below w.heap.size w w':=by
 obtain⟨_,_,hv,ht,uJ,uX,xG,kM,hp⟩:=h
 have HT:=qC hT
 have sK:=k7 hO (k:=11) (by decide)
 have hog:=hO.lt
 have pT:=qAs n (by omega) (by omega)
 have fQ:=jQ n (by omega) (by omega)
 have HR:Hid (j9 11 n m t vk vn vt=wd3 (zI j6 11) t (zU n)):=qC (by simp[j9])
 have pK:=zB 11 (by decide)
 generalize zI j6 11=wd at sK HR pK
 rw[qA HR]
 generalize zU n=nt at pT fQ
 clear HR hv hp uJ uX xG kM hO hT
 go_enter Tryz.func30,Tryz.ntmps30
 obtain⟨xI,gA,u7,pM,wH,wX,pL⟩:=nM w 11 n m t vk vn vt
 have aY:=qC (show(w.alloc (.cells #[.int .i64 11,.int .i64 n,.int .i64 m,.string t,.int .i64 vk,.int .i64 vn,.string vt] 41)).drew.cell? ⟨0,11,none⟩=some (.string wd) from cell_later (qF (qD _ _)) sK)
 have sI:=qC ((qA HT).later (qF (qD w (.cells #[.int .i64 11,.int .i64 n,.int .i64 m,.string t,.int .i64 vk,.int .i64 vn,.string vt] 41))) (Nat.le_refl _))
 go_wp2
 go_region_with (go_at_call 50;refine(qA pT _ (qA sI)).mono ?_;rintro e y ⟨rfl,jR⟩;have y8:=qC (qE (qF (qD _ _)) jR);have HTy:=qC ((qA sI).later jR (Nat.le_refl _));obtain⟨y0,y1,y2,y3,y4,y5,y6⟩:=pA jR xI gA u7 pM wH wX pL;have yo:=cell_later jR (qA aY);have pJ:=jR.size;clear jR)
 all_goals
  have hzw:w.heap.size<y.heap.size:=by simp at pJ;omega
  clear pJ
  go_wp2_with fail
  refine(qAA wd t nt y.heap.size _ (by simp) (by simp) (by simp) (by simp) (by omega) (by omega) (by omega)).mono ?_
  rintro e w4 ⟨rfl,uU⟩
  have pV:=qC (qE (qG (qA y8)) uU)
  clear uU
  go_wp2
  go_ret
  exact⟨rfl,qA pV⟩
theorem qF9(op n m:Int)(t:ByteArray)(vk vn:Int)(vt:ByteArray)(w:World)(h:mK op n m t vk vn vt)(hT:zR w)(hO:yT w 0 j6) :
  Calls Tryz.prog 30 #[.agg #[.int .i64 op,.int .i64 n,.int .i64 m,.string t,.int .i64 vk,.int .i64 vn,.string vt]] w fun e w'=>e=.returned (.string (j9 op n m t vk vn vt))∧Below w.heap.size w w':=by
 have hop:op=1∨op=2∨op=3∨op=4∨op=5∨op=6∨op=7∨op=8∨op=9∨op=10∨op=11∨op=12∨op=13∨op=14∨op=15∨op=16:=by have:=h.o1;have:=h.o2;omega
 rcases hop with rfl | rfl | rfl | rfl | rfl | rfl | rfl | rfl | rfl | rfl | rfl | rfl | rfl | rfl | rfl | rfl
 ·exact qKX n m t vk vn vt w h hT hO
 ·exact qKP n m t vk vn vt w h hT hO
 ·exact qLu n m t vk vn vt w h hT hO
 ·exact qL9 n m t vk vn vt w h hT hO
 ·exact qK3 n m t vk vn vt w h hT hO
 ·exact qLa n m t vk vn vt w h hT hO
 ·exact qK8 n m t vk vn vt w h hT hO
 ·exact qLW n m t vk vn vt w h hT hO
 ·exact qLf n m t vk vn vt w h hT hO
 ·exact qIV n m t vk vn vt w h hT hO
 ·exact qIw n m t vk vn vt w h hT hO
 ·exact qJc n m t vk vn vt w h hT hO
 ·exact qIC n m t vk vn vt w h hT hO
 ·exact qIE n m t vk vn vt w h hT hO
 ·exact qIe n m t vk vn vt w h hT hO
 ·exact qIi n m t vk vn vt w h hT hO
theorem qHu(op n m:Int)(t:ByteArray)(vk vn:Int)(vt:ByteArray)(w:World)(h:mK op n m t vk vn vt)(hT:zR w)(hO:yT w 0 j6) :
  Calls Tryz.prog 12 #[.agg #[.int .i64 op,.int .i64 n,.int .i64 m,.string t,.int .i64 vk,.int .i64 vn,.string vt]] w fun e w'=>e=.returned (.tuple #[.string (j9 op n m t vk vn vt),.int .i64 0])∧Below w.heap.size w w':=by
 have HX:=qC (fun w h1 h2=>qF9 op n m t vk vn vt w h h1 h2)
 generalize j9 op n m t vk vn vt=out at HX
 obtain⟨ho1,ho2,hv,ht,uJ,uX,xG,kM,hp⟩:=h
 have tM:vt.size≤maxLen:=gD hv
 have hV:=qC (fun w=>qAH vk vn vt w tM)
 rw[hv]at hV
 have HQ:=qC (fun w=>qEP vt w tM)
 have HT:=qC hT
 have HO:=qC hO
 have hpn:(decide (0≤n)&&decide (n<10001))=true:=by simp;omega
 have hpm:(decide (0≤m)&&decide (m<10001))=true:=by simp;omega
 have HN:=qC (fun w=>p4 n 10001 w)
 have HM:=qC (fun w=>p4 m 10001 w)
 rw[hpn]at HN
 rw[hpm]at HM
 have fE:((t.size:Nat):Int)≤20:=by omega
 clear hT hO hpn hpm tM hv uJ uX xG kM
 by_cases h1:op=1
 ·subst h1
  have hq:=hp rfl
  rw[hq]at HQ
  clear hq hp
  go_enter Tryz.func12,Tryz.ntmps12
  go_wp2_with fail
  refine(qA hV _).mono ?_
  rintro e w2 ⟨rfl,qY⟩
  obtain⟨wZ,nI⟩:=yU qY
  have gB:w.heap.size<w2.heap.size:=by have:=qY.size;simp at this;omega
  have yX:=qC (qE (qD _ _) qY)
  clear qY
  go_wp2_with fail
  refine(qA HN _).mono ?_
  rintro e wy ⟨rfl,rfl⟩
  go_wp2_with fail
  refine(qA HM _).mono ?_
  rintro e wy ⟨rfl,rfl⟩
  go_wp2_with fail
  refine(qA HQ _).mono ?_
  rintro e wy ⟨rfl,rX⟩
  subst rX
  go_wp2_with fail
  refine(qA HX _ ((qA HT).later (qA yX) (Nat.le_refl _)) ((qA HO).later (qA yX))).mono ?_
  rintro e w3 ⟨rfl,uN⟩
  have wR:=qC (qE (qA yX) uN)
  clear uN
  go_wp2
  go_ret2
  exact⟨rfl,qA wR⟩
 ·have h1':(op == 1)=false:=by simp[h1]
  clear hp HQ
  go_enter Tryz.func12,Tryz.ntmps12
  go_wp2_with fail
  refine(qA hV _).mono ?_
  rintro e w2 ⟨rfl,qY⟩
  obtain⟨wZ,nI⟩:=yU qY
  have gB:w.heap.size<w2.heap.size:=by have:=qY.size;simp at this;omega
  have yX:=qC (qE (qD _ _) qY)
  clear qY
  go_wp2_with fail
  refine(qA HN _).mono ?_
  rintro e wy ⟨rfl,rfl⟩
  go_wp2_with fail
  refine(qA HM _).mono ?_
  rintro e wy ⟨rfl,rX⟩
  subst rX
  go_wp2_with fail
  refine(qA HX _ ((qA HT).later (qA yX) (Nat.le_refl _)) ((qA HO).later (qA yX))).mono ?_
  rintro e w3 ⟨rfl,uN⟩
  have wR:=qC (qE (qA yX) uN)
  clear uN
  go_wp2
  go_ret2
  exact⟨rfl,qA wR⟩
end
end Go.Proofs.YtbgkfaclfnkloaaGreatDoor
