import Derived.Test.YtbgkfaclfnkloaaGreatDoorG01
import Derived.Laws.StructEq
import Derived.Deep.RegionWith
import Derived.Deep.RegionHeld3
import Derived.Test.YtbgkfaclfnkloaaGreatDoorG02
namespace Go.Proofs.YtbgkfaclfnkloaaGreatDoor
set_option linter.all false
set_option maxHeartbeats 4000000
set_option maxRecDepth 100000
section
open Go.RowKit
theorem yU{W w1:World}(hb:Below W.heap.size W w1):(∀ b o,b<W.heap.size→w1.cell? ⟨b,o,none⟩=W.cell? ⟨b,o,none⟩)∧(∀ b o,b<W.heap.size→w1.frozen? ⟨b,o,none⟩=W.frozen? ⟨b,o,none⟩):=
 ⟨fun b o h=>hb.cell (p:=⟨b,o,none⟩) h,fun b o h=>hb.frozen (p:=⟨b,o,none⟩) h⟩
theorem qE{a b c:World}(h:Below a.heap.size a b)(k:Below b.heap.size b c):Below a.heap.size a c:=h.trans (k.mono h.size)
theorem qD(w:World)(o:Obj):Below w.heap.size w (w.alloc o):=(Below.refl _ _).alloc (Nat.le_refl _) _
theorem qF{a b:World}(h:Below a.heap.size a b):Below a.heap.size a b.drew:=h.drew
def vC(k n:Int)(t:ByteArray):Bool:=
 if k=0 then decide (n=0)&&t.toList.isEmpty
 else if k=1 then (decide (-2147483648≤n)&&decide (n≤2147483647))&&t.toList.isEmpty
 else if k=2 then (decide (0≤n)&&decide (n≤1))&&t.toList.isEmpty
 else if k=3 then decide (n=0)&&decide (t.size≤60)
 else false
theorem qD1(n low high:Int)(w:World) :
  Calls Tryz.prog 22 #[.int .i64 n,.int .i64 low,.int .i64 high] w fun e w'=>e=.returned (.bool (decide (low≤n)&&decide (n≤high)))∧w'=w:=by
 go_enter Tryz.func22,Tryz.ntmps22
 go_wp2
 all_goals
  go_ret
  refine⟨jL ?_,rfl⟩
  rw[Bool.eq_iff_iff]
  simp <;> omega
theorem jP(k n:Int)(t:ByteArray)(w:World)(ht:t.size≤maxLen) :
  Calls Tryz.prog 31 #[.agg #[.int .i64 k,.int .i64 n,.string t]] w fun e w'=>e=.returned (.bool (vC k n t))∧Below w.heap.size w w':=by
 unfold maxLen at ht
 go_enter Tryz.func31,Tryz.ntmps31
 go_wp2_with (go_at_call 22;refine(qD1 _ _ _ _).mono ?_;rintro e w' ⟨rfl,rfl⟩)
 all_goals
  go_ret
  refine⟨jL ?_,(Below.refl _ _).alloc (Nat.le_refl _) _⟩
  simp_all[vC] <;> omega
def qFv(n:Int):Value:=.agg #[.int .i64 1,.int .i64 n,.string ⟨#[]⟩]
def qAO(b:Bool):Value:=.agg #[.int .i64 2,.int .i64 (if b=true then 1 else 0),.string ⟨#[]⟩]
def qGP(t:ByteArray):Value:=.agg #[.int .i64 3,.int .i64 0,.string t]
theorem rC(n:Int)(w:World) :
  Calls Tryz.prog 47 #[.int .i64 n] w fun e w'=>e=.returned (qFv n)∧Below w.heap.size w w':=by
 go_enter Tryz.func47,Tryz.ntmps47
 go_wp2
 exact bodyPost_ret (v:=qFv n) (by simp[results,Tryz.results47,go_sem,qFv]) rfl ⟨rfl,(Below.refl _ _).alloc (Nat.le_refl _) _⟩
theorem aC(t:ByteArray)(w:World) :
  Calls Tryz.prog 49 #[.string t] w fun e w'=>e=.returned (qGP t)∧Below w.heap.size w w':=by
 go_enter Tryz.func49,Tryz.ntmps49
 go_wp2
 exact bodyPost_ret (v:=qGP t) (by simp[results,Tryz.results49,go_sem,qGP]) rfl ⟨rfl,(Below.refl _ _).alloc (Nat.le_refl _) _⟩
theorem pH(b:Bool)(w:World) :
  Calls Tryz.prog 48 #[.bool b] w fun e w'=>e=.returned (qAO b)∧Below w.heap.size w w':=by
 cases b
 all_goals
  go_enter Tryz.func48,Tryz.ntmps48
  go_wp2
  exact bodyPost_ret (v:=qAO _) (by simp[results,Tryz.results48,go_sem,qAO]) rfl ⟨rfl,(Below.refl _ _).alloc (Nat.le_refl _) _⟩
theorem qE0(n:Int)(t:ByteArray)(w:World) :
  Calls Tryz.prog 27 #[.agg #[.int .i64 0,.int .i64 n,.string t]] w fun e w'=>e=.returned (.bool (vC 0 n t))∧Below w.heap.size w w':=by
 go_enter Tryz.func27,Tryz.ntmps27
 go_wp2
 all_goals
  go_ret
  refine⟨jL ?_,(Below.refl _ _).alloc (Nat.le_refl _) _⟩
  simp_all[vC]
theorem qBj(n:Int)(t:ByteArray)(w:World)(h1:t.toList=[])(h2 : -2147483648≤n) :
  Calls Tryz.prog 27 #[.agg #[.int .i64 1,.int .i64 n,.string t]] w fun e w'=>e=.returned (.bool (vC 1 n t))∧Below w.heap.size w w':=by
 go_enter Tryz.func27,Tryz.ntmps27
 go_wp2
 go_region_held3 (fun w'=>w'.cell? ⟨w.heap.size,0,none⟩=some (.int .i64 1)∧w'.cell? ⟨w.heap.size,1,none⟩=some (.int .i64 n)∧w'.cell? ⟨w.heap.size,2,none⟩=some (.string t)) (go_keep) ((go_at_call 47;refine(rC _ _).mono ?_;rintro e w' ⟨rfl,hb⟩;unfold qFv;obtain⟨hc,hf⟩:=yU hb))
 all_goals
  go_wp2
 all_goals
  go_ret
  exact⟨jL (by simp[vC,h1,h2]),qE (qF (qD _ _)) hb⟩
theorem qBk(n:Int)(t:ByteArray)(w:World)(h1:t.toList=[])(h2:decide (-2147483648≤n)=false) :
  Calls Tryz.prog 27 #[.agg #[.int .i64 1,.int .i64 n,.string t]] w fun e w'=>e=.returned (.bool (vC 1 n t))∧Below w.heap.size w w':=by
 go_enter Tryz.func27,Tryz.ntmps27
 go_wp2
 first | go_region_with (go_at_call 47;refine(rC _ _).mono ?_;rintro e w' ⟨rfl,hb⟩;unfold qFv;obtain⟨hc,hf⟩:=yU hb) | fail
 all_goals
  go_wp2
 all_goals
  go_ret
  exact⟨jL (by simp[vC,h2]),qE (qF (qD _ _)) hb⟩
theorem qBW(n:Int)(t:ByteArray)(w:World)(h1:¬t.toList=[]) :
  Calls Tryz.prog 27 #[.agg #[.int .i64 1,.int .i64 n,.string t]] w fun e w'=>e=.returned (.bool (vC 1 n t))∧Below w.heap.size w w':=by
 go_enter Tryz.func27,Tryz.ntmps27
 go_wp2
 first | go_region_with (go_at_call 47;refine(rC _ _).mono ?_;rintro e w' ⟨rfl,hb⟩;unfold qFv;obtain⟨hc,hf⟩:=yU hb) | fail
 all_goals
  go_wp2
 all_goals
  go_ret
  exact⟨jL (by simp[vC,h1]),qE (qF (qD _ _)) hb⟩
theorem qFX(n:Int)(t:ByteArray)(w:World) :
  Calls Tryz.prog 27 #[.agg #[.int .i64 1,.int .i64 n,.string t]] w fun e w'=>e=.returned (.bool (vC 1 n t))∧Below w.heap.size w w':=by
 by_cases h1:t.toList=[]
 ·by_cases h2 : -2147483648≤n
  ·exact qBj n t w h1 h2
  ·exact qBk n t w h1 (by simpa using h2)
 ·exact qBW n t w h1
theorem eL(t:ByteArray)(w:World)(h1:t.toList=[]) :
  Calls Tryz.prog 27 #[.agg #[.int .i64 2,.int .i64 1,.string t]] w fun e w'=>e=.returned (.bool (vC 2 1 t))∧Below w.heap.size w w':=by
 go_enter Tryz.func27,Tryz.ntmps27
 go_wp2
 go_region_held3 (fun w'=>w'.cell? ⟨w.heap.size,0,none⟩=some (.int .i64 2)∧w'.cell? ⟨w.heap.size,1,none⟩=some (.int .i64 1)∧w'.cell? ⟨w.heap.size,2,none⟩=some (.string t)) (go_keep) ((go_at_call 48;refine(pH _ _).mono ?_;rintro e w' ⟨rfl,hb⟩;simp only[qAO,if_true];obtain⟨hc,hf⟩:=yU hb))
 all_goals
  go_wp2
 all_goals
  go_ret
  exact⟨jL (by simp[vC,h1]),qE (qF (qD _ _)) hb⟩
theorem oM(t:ByteArray)(w:World)(h1:¬t.toList=[]) :
  Calls Tryz.prog 27 #[.agg #[.int .i64 2,.int .i64 1,.string t]] w fun e w'=>e=.returned (.bool (vC 2 1 t))∧Below w.heap.size w w':=by
 go_enter Tryz.func27,Tryz.ntmps27
 go_wp2
 go_region_held3 (fun w'=>w'.cell? ⟨w.heap.size,0,none⟩=some (.int .i64 2)∧w'.cell? ⟨w.heap.size,1,none⟩=some (.int .i64 1)∧w'.cell? ⟨w.heap.size,2,none⟩=some (.string t)) (go_keep) ((go_at_call 48;refine(pH _ _).mono ?_;rintro e w' ⟨rfl,hb⟩;simp only[qAO,if_true];obtain⟨hc,hf⟩:=yU hb))
 all_goals
  go_wp2
 all_goals
  go_ret
  exact⟨jL (by simp[vC,h1]),qE (qF (qD _ _)) hb⟩
theorem iA(t:ByteArray)(w:World)(h1:t.toList=[]) :
  Calls Tryz.prog 27 #[.agg #[.int .i64 2,.int .i64 0,.string t]] w fun e w'=>e=.returned (.bool (vC 2 0 t))∧Below w.heap.size w w':=by
 go_enter Tryz.func27,Tryz.ntmps27
 go_wp2
 go_region_held3 (fun w'=>w'.cell? ⟨w.heap.size,0,none⟩=some (.int .i64 2)∧w'.cell? ⟨w.heap.size,1,none⟩=some (.int .i64 0)∧w'.cell? ⟨w.heap.size,2,none⟩=some (.string t)) (go_keep) ((go_at_call 48;refine(pH _ _).mono ?_;rintro e w' ⟨rfl,hb⟩;simp only[qAO,Bool.false_eq_true,if_false];obtain⟨hc,hf⟩:=yU hb))
 all_goals
  go_wp2
 all_goals
  go_ret
  exact⟨jL (by simp[vC,h1]),qE (qF (qD _ _)) hb⟩
theorem oX(t:ByteArray)(w:World)(h1:¬t.toList=[]) :
  Calls Tryz.prog 27 #[.agg #[.int .i64 2,.int .i64 0,.string t]] w fun e w'=>e=.returned (.bool (vC 2 0 t))∧Below w.heap.size w w':=by
 go_enter Tryz.func27,Tryz.ntmps27
 go_wp2
 go_region_held3 (fun w'=>w'.cell? ⟨w.heap.size,0,none⟩=some (.int .i64 2)∧w'.cell? ⟨w.heap.size,1,none⟩=some (.int .i64 0)∧w'.cell? ⟨w.heap.size,2,none⟩=some (.string t)) (go_keep) ((go_at_call 48;refine(pH _ _).mono ?_;rintro e w' ⟨rfl,hb⟩;simp only[qAO,Bool.false_eq_true,if_false];obtain⟨hc,hf⟩:=yU hb))
 all_goals
  go_wp2
 all_goals
  go_ret
  exact⟨jL (by simp[vC,h1]),qE (qF (qD _ _)) hb⟩
theorem qDB(n:Int)(t:ByteArray)(w:World)(h0:(n == 0)=false)(h1:(n == 1)=false)(hv:Hid (vC 2 n t=false)) :
  Calls Tryz.prog 27 #[.agg #[.int .i64 2,.int .i64 n,.string t]] w fun e w'=>e=.returned (.bool (vC 2 n t))∧Below w.heap.size w w':=by
 go_enter Tryz.func27,Tryz.ntmps27
 go_wp2
 go_region_held3 (fun w'=>w'.cell? ⟨w.heap.size,0,none⟩=some (.int .i64 2)∧w'.cell? ⟨w.heap.size,1,none⟩=some (.int .i64 n)∧w'.cell? ⟨w.heap.size,2,none⟩=some (.string t)) (go_keep) ((go_at_call 48;refine(pH _ _).mono ?_;rintro e w' ⟨rfl,hb⟩;simp only[qAO,Bool.false_eq_true,if_false];obtain⟨hc,hf⟩:=yU hb))
 all_goals
  go_wp2
 all_goals
  go_ret
  exact⟨jL (by exact(qA hv).symm),qE (qF (qD _ _)) hb⟩
theorem qEG(n:Int)(t:ByteArray)(w:World) :
  Calls Tryz.prog 27 #[.agg #[.int .i64 2,.int .i64 n,.string t]] w fun e w'=>e=.returned (.bool (vC 2 n t))∧Below w.heap.size w w':=by
 by_cases h1:n=1
 ·subst h1
  by_cases h:t.toList=[]
  ·exact eL t w h
  ·exact oM t w h
 by_cases h0:n=0
 ·subst h0
  by_cases h:t.toList=[]
  ·exact iA t w h
  ·exact oX t w h
 refine qDB n t w (beq_eq_false_iff_ne.2 h0) (beq_eq_false_iff_ne.2 h1) ?_
 have:decide (0≤n)=false∨decide (n≤1)=false:=by simp;omega
 rcases this with h | h <;> exact qC (by simp[vC,h])
theorem oP(t:ByteArray)(w:World)(ht:t.size≤9223372036854775807) :
  Calls Tryz.prog 27 #[.agg #[.int .i64 3,.int .i64 0,.string t]] w fun e w'=>e=.returned (.bool (vC 3 0 t))∧Below w.heap.size w w':=by
 go_enter Tryz.func27,Tryz.ntmps27
 go_wp2
 go_region_held3 (fun w'=>w'.cell? ⟨w.heap.size,0,none⟩=some (.int .i64 3)∧w'.cell? ⟨w.heap.size,1,none⟩=some (.int .i64 0)∧w'.cell? ⟨w.heap.size,2,none⟩=some (.string t)) (go_keep) ((go_at_call 49;refine(aC _ _).mono ?_;rintro e w' ⟨rfl,hb⟩;simp only[qGP];obtain⟨hc,hf⟩:=yU hb))
 all_goals
  go_wp2
 all_goals
  go_ret
  exact⟨jL (by simp[vC];omega),qE (qF (qD _ _)) hb⟩
theorem qBe(n:Int)(t:ByteArray)(w:World)(h1:(n == 0)=false) :
  Calls Tryz.prog 27 #[.agg #[.int .i64 3,.int .i64 n,.string t]] w fun e w'=>e=.returned (.bool (vC 3 n t))∧Below w.heap.size w w':=by
 go_enter Tryz.func27,Tryz.ntmps27
 go_wp2
 first | go_region_with (go_at_call 49;refine(aC _ _).mono ?_;rintro e w' ⟨rfl,hb⟩;simp only[qGP];obtain⟨hc,hf⟩:=yU hb) | fail
 all_goals
  go_wp2
 all_goals
  go_ret
  exact⟨jL (by simp[vC,beq_eq_false_iff_ne.1 h1]),qE (qF (qD _ _)) hb⟩
theorem qE6(k n:Int)(t:ByteArray)(w:World)(h0:(k == 0)=false)(h1:(k == 1)=false)(h2:(k == 2)=false)(h3:(k == 3)=false) :
  Calls Tryz.prog 27 #[.agg #[.int .i64 k,.int .i64 n,.string t]] w fun e w'=>e=.returned (.bool (vC k n t))∧Below w.heap.size w w':=by
 go_enter Tryz.func27,Tryz.ntmps27
 go_wp2
 go_ret
 refine⟨jL ?_,(Below.refl _ _).alloc (Nat.le_refl _) _⟩
 simp_all[vC]
theorem qAH(k n:Int)(t:ByteArray)(w:World)(ht:t.size≤maxLen) :
  Calls Tryz.prog 27 #[.agg #[.int .i64 k,.int .i64 n,.string t]] w fun e w'=>e=.returned (.bool (vC k n t))∧Below w.heap.size w w':=by
 by_cases h0:k=0
 ·subst h0;exact qE0 n t w
 by_cases h1:k=1
 ·subst h1;exact qFX n t w
 by_cases h2:k=2
 ·subst h2;exact qEG n t w
 by_cases h3:k=3
 ·subst h3
  by_cases hn:n=0
  ·subst hn;exact oP t w (by unfold maxLen at ht;exact ht)
  ·exact qBe n t w (beq_eq_false_iff_ne.2 hn)
 exact qE6 k n t w (beq_eq_false_iff_ne.2 h0) (beq_eq_false_iff_ne.2 h1) (beq_eq_false_iff_ne.2 h2) (beq_eq_false_iff_ne.2 h3)
theorem qG{a b:World}{o:Obj}(h:Below a.heap.size a b):Below a.heap.size a (b.alloc o):=h.alloc h.size o
theorem jE{a b:World}{k o:Nat}{v:Value}(h:Below a.heap.size a b)(hk:a.heap.size≤k):Below a.heap.size a (b.setCell ⟨k,o,none⟩ v):=h.setCell hk v
def qJn(b:Bool):Int:=if b=true then 1 else 0
theorem qP(n low high:Int)(b:Bool)(w:World)(h:(decide (low≤n)&&decide (n≤high))=b) :
  Calls Tryz.prog 22 #[.int .i64 n,.int .i64 low,.int .i64 high] w fun e w'=>e=.returned (.bool b)∧w'=w:=h▸qD1 n low high w
theorem qIm(n:Int)(w:World) :
  Calls Tryz.prog 142 #[.int .i64 n] w fun e w'=>e=.returned (qFv n)∧Below w.heap.size w w':=by
 go_enter Tryz.func142,Tryz.ntmps142
 go_wp2
 exact bodyPost_ret (v:=qFv n) (by simp[results,Tryz.results142,go_sem,qFv]) rfl ⟨rfl,qD _ _⟩
theorem eN{n:Int}{t:ByteArray}(h:vC 1 n t=true) : -2147483648≤n∧n≤2147483647:=by simp[vC]at h;omega
theorem bT(b:Bool)(w:World) :
  Calls Tryz.prog 25 #[.bool b] w fun e w'=>e=.returned (.int .i64 (qJn b))∧w'=w:=by
 cases b
 all_goals
  go_enter Tryz.func25,Tryz.ntmps25
  go_wp2
  go_ret
  exact⟨rfl,rfl⟩
theorem qGp(b:Bool)(w:World) :
  Calls Tryz.prog 144 #[.bool b] w fun e w'=>e=.returned (.agg #[.int .i64 2,.int .i64 (qJn b),.string ⟨#[]⟩])∧Below w.heap.size w w':=by
 go_enter Tryz.func144,Tryz.ntmps144
 go_wp2_with fail
 refine(bT _ _).mono ?_
 rintro e w' ⟨rfl,rfl⟩
 go_wp2
 exact bodyPost_ret (v:=(.agg #[.int .i64 2,.int .i64 (qJn b),.string ⟨#[]⟩])) (by simp[results,Tryz.results144,go_sem]) rfl ⟨rfl,(by repeat (first | exact Below.refl _ _ | refine qG ?_ | refine jE ?_ (by simp <;> omega) | refine qF ?_ | refine qE ?_ (by assumption)))⟩
theorem qHc(t:ByteArray)(w:World) :
  Calls Tryz.prog 143 #[.string t] w fun e w'=>e=.returned (.agg #[.int .i64 3,.int .i64 0,.string t])∧Below w.heap.size w w':=by
 go_enter Tryz.func143,Tryz.ntmps143
 go_wp2
 exact bodyPost_ret (v:=.agg #[.int .i64 3,.int .i64 0,.string t]) (by simp[results,Tryz.results143,go_sem]) rfl ⟨rfl,qD _ _⟩
def hY(c:UInt8):Bool:=xM (c.toNat:Int)
def pB(l:List UInt8):Int:=l.foldl (fun n c=>n*10+((c.toNat:Int)-48)) 0
theorem fX(l:List UInt8)(c:UInt8):pB (l++[c])=pB l*10+((c.toNat:Int)-48):=by simp[pB]
theorem qAe{c:UInt8}(h:hY c=true):48≤(c.toNat:Int)∧(c.toNat:Int)≤57:=by simp[hY,xM]at h;omega
theorem mY(s:ByteArray)(k:Nat)(h:k<s.size):s.data.toList.take (k+1)=s.data.toList.take k++[s[k]]:=by
 rw[List.take_succ_eq_append_getElem (by simpa using h)];rfl
theorem qEU(s:ByteArray):∀ k,k≤s.size→(∀ c∈s.data.toList.take k,hY c=true)→0≤pB (s.data.toList.take k)∧pB (s.data.toList.take k)+1≤((10 ^ k:Nat):Int):=by
 intro k
 induction k with
 | zero=>intro _ _;simp[pB]
 | succ k ih=>
  intro hk kE
  rw[mY s k hk]at kE ⊢
  have h1:=ih (by omega) (fun c hc=>kE c (by simp[hc]))
  have h2:=qAe (kE s[k] (by simp))
  rw[fX,Nat.pow_succ]
  omega
theorem qNR{k:Nat}(h:k≤17):((10 ^ k:Nat):Int)≤100000000000000000:=by
 have:10 ^ k≤10 ^ 17:=Nat.pow_le_pow_right (by omega) h
 omega
def mD(l:List UInt8):Int×Bool:=
 if l.length=0∨18<l.length∨(1<l.length∧l.head? = some 48)∨(∃ c∈l,hY c=false) then (0,false) else (pB l,true)
theorem l8{a:Int}{p:Bool}{r:Int×Bool}(h:r=(a,p)):Ending.returned (.tuple #[.int .i64 a,.bool p])=.returned (.tuple #[.int .i64 r.1,.bool r.2]):=by rw[h]
theorem qI4{a b:Int}(h:a=b):Value.int .i64 a=.int .i64 b:=by rw[h]
theorem jI(s:ByteArray):s.data.toList.length=s.size:=Array.length_toList
theorem bC(s:ByteArray)(h:0<s.size):s.data.toList.head? = some s[0]:=by
 have h':0<s.data.toList.length:=by rw[jI];exact h
 rw[List.head?_eq_getElem?,List.getElem?_eq_getElem h'];rfl
theorem l5(s:ByteArray)(h:s.size=0∨18<s.size):mD s.data.toList=(0,false):=by
 unfold mD;rw[jI];exact if_pos (by omega)
theorem qAz(s:ByteArray)(h:1<s.size)(h0:(s[0].toNat:Int)=48):mD s.data.toList=(0,false):=by
 unfold mD;rw[jI,bC s (by omega)]
 refine if_pos (.inr (.inr (.inl ⟨h,?_⟩)))
 congr 1
 apply UInt8.toNat_inj.1
 show s[0].toNat=48
 omega
theorem qCf(s:ByteArray)(k:Nat)(hk:k<s.size)(h:xM (s[k].toNat:Int)=false):mD s.data.toList=(0,false):=by
 unfold mD
 exact if_pos (.inr (.inr (.inr ⟨s[k],by simp[ByteArray.getElem_eq_getElem_data],h⟩)))
theorem qEX(s:ByteArray)(k:Nat)(h0:0<s.size)(h1:s.size≤18)(hz:1<s.size→¬(s[0].toNat:Int)=48)(hk:s.size≤k)(kE:∀ c∈s.data.toList.take k,hY c=true):mD s.data.toList=(pB (s.data.toList.take k),true):=by
 rw[List.take_of_length_le (by rw[jI];omega)]at kE ⊢
 unfold mD
 rw[jI,bC s h0]
 refine if_neg ?_
 rintro(h | h | ⟨h,he⟩ | ⟨c,hc,he⟩)
 ·omega
 ·omega
 ·simp at he
  apply hz h
  rw[he];rfl
 ·rw[kE c hc]at he;cases he
def cE(l:List UInt8):Int×Bool:=
 if l.head? = some 45 then (-(mD l.tail).1,(mD l.tail).2&&(mD l.tail).1 != 0) else mD l
theorem qLn(s:ByteArray):(s.extract 1 s.size).data.toList=s.data.toList.tail:=by
 rw[ByteArray.data_extract,Array.toList_extract,List.extract_eq_take_drop,←List.drop_one]
 exact List.take_of_length_le (by rw[List.length_drop,jI];omega)
theorem lI(s:ByteArray)(h:s.size=0∨∃ h:0<s.size,¬(s[0].toNat:Int)=45):cE s.data.toList=mD s.data.toList:=by
 unfold cE
 refine if_neg ?_
 rcases h with h | ⟨h0,h⟩
 ·have:s.data.toList=[]:=List.eq_nil_of_length_eq_zero (by rw[jI];exact h)
  rw[this];simp
 ·rw[bC s h0]
  intro e
  simp at e
  apply h
  rw[e];rfl
theorem iO(s:ByteArray)(h0:0<s.size)(h:(s[0].toNat:Int)=45):cE s.data.toList=(-(mD (s.extract 1 s.size).data.toList).1,(mD (s.extract 1 s.size).data.toList).2&&(mD (s.extract 1 s.size).data.toList).1 != 0):=by
 unfold cE
 rw[qLn,bC s h0]
 refine if_pos ?_
 congr 1
 apply UInt8.toNat_inj.1
 show s[0].toNat=45
 omega
theorem qM4(s:ByteArray)(h0:0<s.size)(hz:¬(s[0].toNat:Int)=48):∀ k,0<k→k≤s.size→(∀ c∈s.data.toList.take k,hY c=true)→1≤pB (s.data.toList.take k):=by
 intro k
 induction k with
 | zero=>intro h;omega
 | succ k ih=>
  intro _ hk kE
  rw[mY s k hk]at kE ⊢
  have h2:=qAe (kE s[k] (by simp))
  rw[fX]
  by_cases fH:k=0
  ·subst fH
   simp[pB]
   omega
  ·have:=ih (by omega) (by omega) (fun c hc=>kE c (by simp[hc]))
   omega
def qNo(s u:ByteArray):Prop:=u.size≤18∧(∃ h:0<u.size,¬(u[0].toNat:Int)=48)∧cE s.data.toList=(-(mD u.data.toList).1,(mD u.data.toList).2&&(mD u.data.toList).1 != 0)
theorem lY{n:Int}{b:Bool}(h:n=0):((-n,b&&n != 0):Int×Bool)=(0,false):=by subst h;simp
theorem qNs{n:Int}(h:1≤n):((-n,true&&n != 0):Int×Bool)=(-n,true):=by
 rw[show(n != 0)=true by rw[bne_iff_ne];omega];rfl
theorem qLT(s:ByteArray)(h0:0<s.size)(hz:(s[0].toNat:Int)=48):(mD s.data.toList).1=0:=by
 by_cases h1:1<s.size
 ·rw[qAz s h1 hz]
 ·have hl:s.data.toList=[48]:=by
   have hln:s.data.toList.length=1:=by rw[jI];omega
   match hx:s.data.toList,hln with
   | [c],_=>
    have:=bC s h0
    rw[hx]at this
    simp at this
    rw[this]
    congr 1
    apply UInt8.toNat_inj.1
    show s[0].toNat=48
    omega
  rw[hl];decide
theorem nO(s:ByteArray)(w:World)(hs:s.size≤9223372036854775807)(hp:0<s.size)(hm:((s[0].toNat:Int) == 45)=true)(h:s.size=1) :
  Calls Tryz.prog 136 #[.string s] w fun e w'=>e=.returned (.tuple #[.int .i64 0,.bool false])∧w'=w:=by
 have e0:((s.size-1:Nat):Int)=0:=by omega
 have e1:(((s.size-1:Nat):Int) == 0)=true:=by rw[e0];rfl
 clear e0
 go_enter Tryz.func136,Tryz.ntmps136
 go_wp2
 go_ret2
 exact⟨rfl,rfl⟩
theorem aW(s:ByteArray)(w:World)(hs:s.size≤9223372036854775807)(hp:0<s.size)(hm:((s[0].toNat:Int) == 45)=true)(h:18<(s.size-1)) :
  Calls Tryz.prog 136 #[.string s] w fun e w'=>e=.returned (.tuple #[.int .i64 0,.bool false])∧w'=w:=by
 have e1:((((s.size-1):Nat):Int) == 0)=false:=beq_eq_false_iff_ne.2 (by omega)
 go_enter Tryz.func136,Tryz.ntmps136
 go_wp2
 go_ret2
 exact⟨rfl,rfl⟩
theorem lE(s:ByteArray)(w:World)(hs:s.size≤9223372036854775807)(hp:0<s.size)(hm:((s[0].toNat:Int) == 45)=true)(h1:1<s.size)(bH:s.size-1≤18)(hu:0<(s.extract 1 s.size).size)(hz:(((s.extract 1 s.size)[0].toNat:Int) == 48)=true) :
  Calls Tryz.prog 136 #[.string s] w fun e w'=>e=.returned (.tuple #[.int .i64 0,.bool false])∧w'=w:=by
 have e1:(((s.size-1:Nat):Int) == 0)=false:=beq_eq_false_iff_ne.2 (by omega)
 have e2:(0:Int)<((s.size-1:Nat):Int):=by omega
 go_enter Tryz.func136,Tryz.ntmps136
 go_wp2
 all_goals
  go_ret2
  exact⟨rfl,rfl⟩
theorem aR(s:ByteArray)(w:World)(hs:s.size≤9223372036854775807)(hp:0<s.size)(hm:((s[0].toNat:Int) == 45)=true)(h1:1<s.size)(bH:s.size-1≤18)(hu:0<(s.extract 1 s.size).size)(hz:Hid (¬((s.extract 1 s.size)[0].toNat:Int)=48)) :
  Calls Tryz.prog 136 #[.string s] w fun e w'=>e=.returned (.tuple #[.int .i64 (cE s.data.toList).1,.bool (cE s.data.toList).2])∧w'=w:=by
 have e1:((((s.size-1):Nat):Int) == 0)=false:=beq_eq_false_iff_ne.2 (by omega)
 have e2:(0:Int)<((s.size-1:Nat):Int):=by omega
 have fU:Hid ((s.extract 1 s.size).size=s.size-1):=by rw[ByteArray.size_extract];exact qC (by omega)
 have ez:(((s.extract 1 s.size)[0].toNat:Int) == 48)=false:=beq_eq_false_iff_ne.2 (qA hz)
 have hF:=qC (show qNo s (s.extract 1 s.size) from⟨by have:=qA fU;omega,⟨hu,qA hz⟩,iO s hp (by simpa using hm)⟩)
 clear hz fU
 go_enter Tryz.func136,Tryz.ntmps136
 go_wp2
 clear ez
 generalize ((s.extract 1 s.size)[0].toNat:Int)=c0
 clear hu
 generalize s.extract 1 s.size=u at hF ⊢
 have qOL:u.size≤18:=(qA hF).1
 obtain⟨hu,hz⟩:=(qA hF).2.1
 have hzz:=qC (fun (_:1<u.size)=>hz)
 have hU:=qC (qM4 u hu hz)
 have iZ:=qC (qA hF).2.2
 clear hz hF
 go_loop [5,6] (fun n i=>∃ k:Nat,k≤u.size∧i=.int .i64 k∧n=.int .i64 (pB (u.data.toList.take k))∧∀ c∈u.data.toList.take k,hY c=true) (fun _ i=>u.size-(intOf i).toNat)
 case atStart=>exact⟨0,by omega,rfl,rfl,fun c hc=>by simp at hc⟩
 case round=>
  obtain⟨k,hk,rfl,rfl,kE⟩:=hrel
  have hb:=qEU u k hk kE
  have oI:0≤pB (u.data.toList.take k):=hb.1
  by_cases jF:k<u.size
  ·have hv2:pB (u.data.toList.take k)≤100000000000000000:=by
    have:=qNR (k:=k) (by omega)
    omega
   clear hb
   cases hD:xM (u[k].toNat:Int)
   ·have hd:=qC (qCf u k jF hD)
    have hDD:(u[k].toNat:Int)<48∨57<(u[k].toNat:Int):=by simp[xM]at hD;omega
    clear kE hD
    rcases hDD with hDD | hDD
    all_goals
     go_wp2
     go_ret2
     exact⟨l8 (by rw[qA iZ];exact lY (by rw[qA hd])),rfl⟩
   ·have hc:=qAe (c:=u[k]) hD
    have hsn:Hid (pB (u.data.toList.take (k+1))=pB (u.data.toList.take k)*10+((u[k].toNat:Int)-48)):=by rw[mY u k jF,fX];rfl
    have hal:Hid (∀ c∈u.data.toList.take (k+1),hY c=true):=by
     rw[mY u k jF]
     intro c hc
     rcases List.mem_append.1 hc with h | h
     ·exact kE c h
     ·simp at h;subst h;exact hD
    obtain⟨xZ,wZ⟩:=hc
    clear kE hD
    go_wp2
    go_round
    case rel=>exact⟨k+1,by omega,by go_num,qI4 (by rw[qA hsn];omega),qA hal⟩
    case measure=>simp[intOf];omega
  ·have hd:=qC (qEX u k hu qOL (qA hzz) (by omega) kE)
   have qDc:=qC (qA hU k (by omega) hk kE)
   have hv3:pB (u.data.toList.take k)≤1000000000000000000:=by
    have h9:10 ^ k≤10 ^ 18:=Nat.pow_le_pow_right (by omega) (by omega)
    have:((10 ^ k:Nat):Int)≤1000000000000000000:=by omega
    omega
   clear kE hb
   go_wp2
   go_ret2
   exact⟨l8 (by rw[qA iZ,qA hd];rw[qNs (qA qDc)]),rfl⟩
theorem aP(s:ByteArray)(w:World)(hs:s.size≤9223372036854775807)(hp:0<s.size)(hm:((s[0].toNat:Int) == 45)=false)(h:18<s.size) :
  Calls Tryz.prog 136 #[.string s] w fun e w'=>e=.returned (.tuple #[.int .i64 0,.bool false])∧w'=w:=by
 have e1:(((s.size:Nat):Int) == 0)=false:=beq_eq_false_iff_ne.2 (by omega)
 go_enter Tryz.func136,Tryz.ntmps136
 go_wp2
 go_ret2
 exact⟨rfl,rfl⟩
theorem lB(s:ByteArray)(w:World)(hs:s.size≤9223372036854775807)(hp:0<s.size)(hm:((s[0].toNat:Int) == 45)=false)(h1:1<s.size)(bH:s.size≤18)(hz:((s[0].toNat:Int) == 48)=true) :
  Calls Tryz.prog 136 #[.string s] w fun e w'=>e=.returned (.tuple #[.int .i64 0,.bool false])∧w'=w:=by
 have e1:((s.size:Int) == 0)=false:=beq_eq_false_iff_ne.2 (by omega)
 go_enter Tryz.func136,Tryz.ntmps136
 go_wp2
 go_ret2
 exact⟨rfl,rfl⟩
theorem nK(s:ByteArray)(w:World)(hs:s.size≤9223372036854775807)(hp:0<s.size)(hm:((s[0].toNat:Int) == 45)=false)(bH:s.size≤18)(ez:((s[0].toNat:Int) == 48)=false)(hzz:Hid (1<s.size→¬(s[0].toNat:Int)=48))  :
  Calls Tryz.prog 136 #[.string s] w fun e w'=>e=.returned (.tuple #[.int .i64 (cE s.data.toList).1,.bool (cE s.data.toList).2])∧w'=w:=by
 have e1:(((s.size:Nat):Int) == 0)=false:=beq_eq_false_iff_ne.2 (by omega)
 have iZ:=qC (lI s (.inr ⟨hp,by simpa using hm⟩))
 go_enter Tryz.func136,Tryz.ntmps136
 go_wp2
 clear ez
 have qOL:s.size≤18:=bH
 have hu:=hp
 go_loop [5,6] (fun n i=>∃ k:Nat,k≤s.size∧i=.int .i64 k∧n=.int .i64 (pB (s.data.toList.take k))∧∀ c∈s.data.toList.take k,hY c=true) (fun _ i=>s.size-(intOf i).toNat)
 case atStart=>exact⟨0,by omega,rfl,rfl,fun c hc=>by simp at hc⟩
 case round=>
  obtain⟨k,hk,rfl,rfl,kE⟩:=hrel
  have hb:=qEU s k hk kE
  have oI:0≤pB (s.data.toList.take k):=hb.1
  by_cases jF:k<s.size
  ·have hv2:pB (s.data.toList.take k)≤100000000000000000:=by
    have:=qNR (k:=k) (by omega)
    omega
   clear hb
   cases hD:xM (s[k].toNat:Int)
   ·have hd:=qC (qCf s k jF hD)
    have hDD:(s[k].toNat:Int)<48∨57<(s[k].toNat:Int):=by simp[xM]at hD;omega
    clear kE hD
    rcases hDD with hDD | hDD
    all_goals
     go_wp2
     go_ret2
     exact⟨l8 (by rw[qA iZ];exact qA hd),rfl⟩
   ·have hc:=qAe (c:=s[k]) hD
    have hsn:Hid (pB (s.data.toList.take (k+1))=pB (s.data.toList.take k)*10+((s[k].toNat:Int)-48)):=by rw[mY s k jF,fX];rfl
    have hal:Hid (∀ c∈s.data.toList.take (k+1),hY c=true):=by
     rw[mY s k jF]
     intro c hc
     rcases List.mem_append.1 hc with h | h
     ·exact kE c h
     ·simp at h;subst h;exact hD
    obtain⟨xZ,wZ⟩:=hc
    clear kE hD
    go_wp2
    go_round
    case rel=>exact⟨k+1,by omega,by go_num,qI4 (by rw[qA hsn];omega),qA hal⟩
    case measure=>simp[intOf];omega
  ·have hd:=qC (qEX s k hu qOL (qA hzz) (by omega) kE)
   have hv3:pB (s.data.toList.take k)≤1000000000000000000:=by
    have h9:10 ^ k≤10 ^ 18:=Nat.pow_le_pow_right (by omega) (by omega)
    have:((10 ^ k:Nat):Int)≤1000000000000000000:=by omega
    omega
   clear kE hb
   go_wp2
   go_ret2
   exact⟨l8 (by rw[qA iZ,qA hd]),rfl⟩
theorem nJ(s:ByteArray)(w:World)(hs:s.size≤9223372036854775807)(hp:0<s.size)(hm:((s[0].toNat:Int) == 45)=false)(bH:s.size≤18)(ez:((s[0].toNat:Int) == 48)=true)(hzz:Hid (1<s.size→¬(s[0].toNat:Int)=48))(ho:s.size≤1) :
  Calls Tryz.prog 136 #[.string s] w fun e w'=>e=.returned (.tuple #[.int .i64 (cE s.data.toList).1,.bool (cE s.data.toList).2])∧w'=w:=by
 have e1:(((s.size:Nat):Int) == 0)=false:=beq_eq_false_iff_ne.2 (by omega)
 have iZ:=qC (lI s (.inr ⟨hp,by simpa using hm⟩))
 go_enter Tryz.func136,Tryz.ntmps136
 go_wp2
 clear ez
 have qOL:s.size≤18:=bH
 have hu:=hp
 go_loop [5,6] (fun n i=>∃ k:Nat,k≤s.size∧i=.int .i64 k∧n=.int .i64 (pB (s.data.toList.take k))∧∀ c∈s.data.toList.take k,hY c=true) (fun _ i=>s.size-(intOf i).toNat)
 case atStart=>exact⟨0,by omega,rfl,rfl,fun c hc=>by simp at hc⟩
 case round=>
  obtain⟨k,hk,rfl,rfl,kE⟩:=hrel
  have hb:=qEU s k hk kE
  have oI:0≤pB (s.data.toList.take k):=hb.1
  by_cases jF:k<s.size
  ·have hv2:pB (s.data.toList.take k)≤100000000000000000:=by
    have:=qNR (k:=k) (by omega)
    omega
   clear hb
   cases hD:xM (s[k].toNat:Int)
   ·have hd:=qC (qCf s k jF hD)
    have hDD:(s[k].toNat:Int)<48∨57<(s[k].toNat:Int):=by simp[xM]at hD;omega
    clear kE hD
    rcases hDD with hDD | hDD
    all_goals
     go_wp2
     go_ret2
     exact⟨l8 (by rw[qA iZ];exact qA hd),rfl⟩
   ·have hc:=qAe (c:=s[k]) hD
    have hsn:Hid (pB (s.data.toList.take (k+1))=pB (s.data.toList.take k)*10+((s[k].toNat:Int)-48)):=by rw[mY s k jF,fX];rfl
    have hal:Hid (∀ c∈s.data.toList.take (k+1),hY c=true):=by
     rw[mY s k jF]
     intro c hc
     rcases List.mem_append.1 hc with h | h
     ·exact kE c h
     ·simp at h;subst h;exact hD
    obtain⟨xZ,wZ⟩:=hc
    clear kE hD
    go_wp2
    go_round
    case rel=>exact⟨k+1,by omega,by go_num,qI4 (by rw[qA hsn];omega),qA hal⟩
    case measure=>simp[intOf];omega
  ·have hd:=qC (qEX s k hu qOL (qA hzz) (by omega) kE)
   have hv3:pB (s.data.toList.take k)≤1000000000000000000:=by
    have h9:10 ^ k≤10 ^ 18:=Nat.pow_le_pow_right (by omega) (by omega)
    have:((10 ^ k:Nat):Int)≤1000000000000000000:=by omega
    omega
   clear kE hb
   go_wp2
   go_ret2
   exact⟨l8 (by rw[qA iZ,qA hd]),rfl⟩
theorem qCC(s:ByteArray)(w:World)(h:s.size=0) :
  Calls Tryz.prog 136 #[.string s] w fun e w'=>e=.returned (.tuple #[.int .i64 0,.bool false])∧w'=w:=by
 have e0:¬(0:Int)<(s.size:Int):=by omega
 have e1:((s.size:Int) == 0)=true:=by rw[h];rfl
 clear h
 go_enter Tryz.func136,Tryz.ntmps136
 go_wp2
 go_ret2
 exact⟨rfl,rfl⟩
theorem aF(s:ByteArray)(w:World)(hs:s.size≤maxLen) :
  Calls Tryz.prog 136 #[.string s] w fun e w'=>e=.returned (.tuple #[.int .i64 (cE s.data.toList).1,.bool (cE s.data.toList).2])∧w'=w:=by
 unfold maxLen at hs
 by_cases h0:s.size=0
 ·rw[lI s (.inl h0),l5 s (.inl h0)]
  exact qCC s w h0
 have hp:0<s.size:=by omega
 by_cases hz:(s[0].toNat:Int)=45
 ·have hm:((s[0].toNat:Int) == 45)=true:=by rw[hz];rfl
  have fU:(s.extract 1 s.size).size=s.size-1:=by rw[ByteArray.size_extract];omega
  by_cases h1:s.size=1
  ·rw[iO s hp hz,l5 (s.extract 1 s.size) (.inl (by omega)),lY rfl]
   exact nO s w (by omega) hp hm h1
  by_cases bH:18<s.size-1
  ·rw[iO s hp hz,l5 (s.extract 1 s.size) (.inr (by omega)),lY rfl]
   exact aW s w (by omega) hp hm bH
  have hu:0<(s.extract 1 s.size).size:=by omega
  by_cases he:((s.extract 1 s.size)[0].toNat:Int)=48
  ·rw[iO s hp hz,lY (qLT _ hu he)]
   exact lE s w (by omega) hp hm (by omega) (by omega) hu (by rw[he];rfl)
  ·exact aR s w (by omega) hp hm (by omega) (by omega) hu he
 ·have hm:((s[0].toNat:Int) == 45)=false:=beq_eq_false_iff_ne.2 hz
  by_cases bH:18<s.size
  ·rw[lI s (.inr ⟨hp,hz⟩),l5 s (.inr bH)]
   exact aP s w (by omega) hp hm bH
  by_cases he:(s[0].toNat:Int)=48
  ·by_cases h1:1<s.size
   ·rw[lI s (.inr ⟨hp,hz⟩),qAz s h1 he]
    exact lB s w (by omega) hp hm h1 (by omega) (by rw[he];rfl)
   ·exact nJ s w (by omega) hp hm (by omega) (by rw[he];rfl) (fun h=>absurd h h1) (by omega)
  ·exact nK s w (by omega) hp hm (by omega) (beq_eq_false_iff_ne.2 he) (fun _=>he)
def nmb(c:UInt8):Bool:=mU (c.toNat:Int)||xM (c.toNat:Int)
def pP(c:UInt8):Bool:=c == 32||c == 9||c == 10
def kB(l:List UInt8):Bool:=decide (l.length≤60)&&l.all okC
def qJw(c:UInt8):List UInt8:=if c=39∨c=92 then [92,c] else [c]
def bV(l:List UInt8):List UInt8:=39::(l.flatMap qJw++[39])
def p8:List UInt8→Option (List UInt8×List UInt8)
 | []=>none
 | [c]=>if c=39 then some ([],[]) else none
 | c::d::r=>
  if c=39 then some ([],d::r)
  else if c=92 then (if d=39∨d=92 then (p8 r).map (fun p=>(d::p.1,p.2)) else none)
  else (p8 (d::r)).map (fun p=>(c::p.1,p.2))
theorem qGY:∀ (n:Nat) (l:List UInt8),l.length≤n→∀ t r,p8 l=some (t,r)→r.length<l.length:=by
 intro n
 induction n with
 | zero=>
  intro l hl t r h
  obtain rfl:l=[]:=List.eq_nil_of_length_eq_zero (by omega)
  simp[p8]at h
 | succ n ih=>
  intro l hl t r h
  match l,hl with
  | [],_=>simp[p8]at h
  | [c],_=>
   simp only[p8]at h
   split at h
   ·simp at h;obtain⟨rfl,rfl⟩:=h;simp
   ·cases h
  | c::d::q,hl=>
   simp only[List.length_cons]at hl
   simp only[p8]at h
   split at h
   ·simp at h;obtain⟨rfl,rfl⟩:=h;simp
   ·split at h
    ·split at h
     ·obtain⟨⟨a,b⟩,ha,hb⟩:=Option.map_eq_some_iff.1 h
      simp at hb
      obtain⟨rfl,rfl⟩:=hb
      have:=ih q (by omega) a b ha
      simp;omega
     ·cases h
    ·obtain⟨⟨a,b⟩,ha,hb⟩:=Option.map_eq_some_iff.1 h
     simp at hb
     obtain⟨rfl,rfl⟩:=hb
     have:=ih (d::q) (by simp;omega) a b ha
     simp at this ⊢;omega
theorem qPZ:∀ (n:Nat) (l:List UInt8),l.length≤n→xT l=(p8 l).bind (fun p=>if p.1.all okC=true then some p else none):=by
 intro n
 induction n with
 | zero=>
  intro l hl
  obtain rfl:l=[]:=List.eq_nil_of_length_eq_zero (by omega)
  simp[p8,xT]
 | succ n ih=>
  intro l hl
  match l,hl with
  | [],_=>simp[p8,xT]
  | [c],_=>
   simp only[p8,xT]
   split <;> simp
  | c::d::q,hl=>
   simp only[List.length_cons]at hl
   have i1:=ih q (by omega)
   have i2:=ih (d::q) (by simp;omega)
   simp only[p8,xT]
   by_cases h1:c=39
   ·simp[h1]
   rw[if_neg h1,if_neg h1]
   by_cases h2:c=92
   ·rw[if_pos h2,if_pos h2]
    by_cases h3:d=39∨d=92
    ·rw[if_pos h3,if_pos h3,i1]
     have hd:okC d=true:=by rcases h3 with rfl | rfl <;> decide
     cases hs:p8 q with
     | none=>simp
     | some p=>
      by_cases hp:p.1.all okC=true
      ·simp only[Option.bind_some,Option.map_some,if_pos hp,List.all_cons,hd,Bool.true_and]
      ·simp only[Option.bind_some,Option.map_some,if_neg hp,List.all_cons,hd,Bool.true_and,Option.map_none]
    ·rw[if_neg h3,if_neg h3];rfl
   ·rw[if_neg h2,if_neg h2,i2]
    by_cases h3:okC c=true
    ·rw[if_pos h3]
     cases hs:p8 (d::q) with
     | none=>simp
     | some p=>
      by_cases hp:p.1.all okC=true
      ·simp only[Option.bind_some,Option.map_some,if_pos hp,List.all_cons,h3,Bool.true_and]
      ·simp only[Option.bind_some,Option.map_some,if_neg hp,List.all_cons,h3,Bool.true_and,Option.map_none]
    ·rw[if_neg h3]
     cases hs:p8 (d::q) with
     | none=>simp
     | some p=>simp[h3]
def rqP(l:List UInt8):List UInt8×Nat:=
 match l with
 | []=>([],0)
 | c::r=>if c=39 then (match p8 r with
   | some (t,q)=>(t,(c::r).length-q.length)
   | none=>([],0)) else ([],0)
theorem qFW(r t q:List UInt8)(hs:p8 r=some (t,q)):rqP (39::r)=(t,(39::r).length-q.length):=by
 unfold rqP;dsimp only;rw[if_pos rfl,hs]
theorem qHo(r:List UInt8)(hs:p8 r=none):rqP (39::r)=([],0):=by
 unfold rqP;dsimp only;rw[if_pos rfl,hs]
def jX:List (List UInt8):=[[108,101,116],[105,102],[101,108,115,101],[119,104,105,108,101],[114,101,116,117,114,110],[116,104,114,111,119],[116,114,121],[99,97,116,99,104],[102,117,110,99,116,105,111,110],[116,114,117,101],[102,97,108,115,101],[110,117,108,108]]
def pF(l:List UInt8):Bool:=jX.any (· == l)
def qBO:List (List UInt8):=[[61,61],[38,38],[124,124],[43],[45],[42],[47],[37],[60],[61],[33],[40],[41],[123],[125],[44],[59]]
def qD2(l:List UInt8):Bool:=qBO.any (· == l)
def qGo(l:List UInt8):Bool:=sG ⟨l.toArray⟩
def wL(k:Int)(l:List UInt8):Bool:=
 if k=1 then decide (l.length≤20)&&qGo l&&!pF l
 else if k=2 then pF l
 else if k=3 then (mD l).2&&decide ((mD l).1≤2147483647)
 else if k=4 then kB l
 else if k=5 then qD2 l
 else false
def gX:List UInt8:=[43,45,42,47,37,60,61,33,40,41,123,125,44,59]
def dG:List UInt8→Option Nat
 | []=>none
 | [c]=>if c∈gX then some 1 else none
 | c::d::_=>if (c=61∧d=61)∨(c=38∧d=38)∨(c=124∧d=124) then some 2 else if c∈gX then some 1 else none
def zS:List UInt8→Option (Int×List UInt8×Nat)
 | []=>none
 | c::r=>
  if mU (c.toNat:Int)=true then
   (if (c::r.takeWhile nmb).length≤20 then some (if pF (c::r.takeWhile nmb)=true then 2 else 1,c::r.takeWhile nmb,(c::r.takeWhile nmb).length) else none)
  else if xM (c.toNat:Int)=true then
   (if (mD (c::r.takeWhile hY)).2=true∧(mD (c::r.takeWhile hY)).1≤2147483647 then some (3,c::r.takeWhile hY,(c::r.takeWhile hY).length) else none)
  else if c=39 then
   (match xT r with
   | some (t,q)=>if t.length≤60 then some (4,t,(c::r).length-q.length) else none
   | none=>none)
  else (match dG (c::r) with
   | some n=>some (5,(c::r).take n,n)
   | none=>none)
theorem qD9{l:List UInt8}(h:pF l=true):l.length≤8:=by
 simp[pF,jX]at h
 rcases h with h | h | h | h | h | h | h | h | h | h | h | h <;> subst h <;> decide
theorem qKV(c:UInt8)(r:List UInt8)(hc:mU (c.toNat:Int)=true)(hr:∀ x∈r,nmb x=true)(hl:(c::r).length≤40):qGo (c::r)=true:=by
 unfold qGo sG
 rw[decide_eq_true_iff]
 have fU:(⟨(c::r).toArray⟩:ByteArray).size=(c::r).length:=by simp[ByteArray.size]
 refine⟨by rw[fU];simp,by rw[fU];exact hl,fun i hi=>?_⟩
 have hi':i<(c::r).length:=by rw[←fU];exact hi
 have hg:(⟨(c::r).toArray⟩:ByteArray)[i]=(c::r)[i]:=by simp[ByteArray.getElem_eq_getElem_data]
 rw[hg]
 cases i with
 | zero=>simp[k8,hc]
 | succ i=>
  have:=hr ((c::r)[i+1]) (by simp)
  simp only[nmb,Bool.or_eq_true]at this
  simp[k8]
  rcases this with h | h
  ·left;simpa using h
  ·right;simpa using h
theorem qLK(p:UInt8→Bool)(l:List UInt8):∀ x∈l.takeWhile p,p x=true:=by
 intro x hx
 exact List.all_eq_true.1 (List.all_takeWhile (p:=p) (l:=l)) x hx
def aL:List UInt8→Int×List UInt8×Nat
 | []=>(5,[],0)
 | c::r=>
  if mU (c.toNat:Int)=true then (if pF (c::r.takeWhile nmb)=true then 2 else 1,c::r.takeWhile nmb,(c::r.takeWhile nmb).length)
  else if xM (c.toNat:Int)=true then (3,c::r.takeWhile hY,(c::r.takeWhile hY).length)
  else if c=39 then (if (rqP (c::r)).2=0 then (0,[],0) else (4,(rqP (c::r)).1,(rqP (c::r)).2))
  else (5,(c::r).take ((dG (c::r)).getD 0),(dG (c::r)).getD 0)
theorem qGy(c:UInt8)(r:List UInt8)(n:Nat)(h:dG (c::r)=some n):qD2 ((c::r).take n)=true∧((c::r).take n).length=n∧0<n:=by
 have one:∀ x:UInt8,x∈gX→qD2 [x]=true:=by decide
 cases r with
 | nil=>
  simp only[dG]at h
  split at h
  ·rename_i hm
   simp at h;subst h
   exact⟨by simpa using one c hm,by simp,by omega⟩
  ·cases h
 | cons d q=>
  simp only[dG]at h
  split at h
  ·rename_i hm
   simp at h;subst h
   refine⟨?_,by simp,by omega⟩
   rcases hm with ⟨rfl,rfl⟩ | ⟨rfl,rfl⟩ | ⟨rfl,rfl⟩ <;> simp[qD2,qBO]
  ·split at h
   ·rename_i hm
    simp at h;subst h
    exact⟨by simpa using one c hm,by simp,by omega⟩
   ·cases h
theorem qEm:qD2 []=false:=by decide
theorem qF8(c:UInt8)(r:List UInt8)(h1:mU (c.toNat:Int)=true):aL (c::r)=(if pF (c::r.takeWhile nmb)=true then 2 else 1,c::r.takeWhile nmb,(c::r.takeWhile nmb).length):=by
 unfold aL;dsimp only;rw[if_pos h1]
theorem qHp(c:UInt8)(r:List UInt8)(h1:mU (c.toNat:Int)=false)(h2:xM (c.toNat:Int)=true):aL (c::r)=(3,c::r.takeWhile hY,(c::r.takeWhile hY).length):=by
 unfold aL;dsimp only;rw[if_neg (by simp[h1]),if_pos h2]
theorem qB6(r:List UInt8):aL (39::r)=(if (rqP (39::r)).2=0 then (0,[],0) else (4,(rqP (39::r)).1,(rqP (39::r)).2)):=by
 unfold aL;dsimp only;rw[if_neg (by decide),if_neg (by decide),if_pos rfl]
theorem qEq(c:UInt8)(r:List UInt8)(h1:mU (c.toNat:Int)=false)(h2:xM (c.toNat:Int)=false)(h3:c≠39):aL (c::r)=(5,(c::r).take ((dG (c::r)).getD 0),(dG (c::r)).getD 0):=by
 unfold aL;dsimp only;rw[if_neg (by simp[h1]),if_neg (by simp[h2]),if_neg h3]
theorem cU(c:UInt8)(r:List UInt8)(h1:mU (c.toNat:Int)=true):zS (c::r)=(if (c::r.takeWhile nmb).length≤20 then some (if pF (c::r.takeWhile nmb)=true then 2 else 1,c::r.takeWhile nmb,(c::r.takeWhile nmb).length) else none):=by
 unfold zS;dsimp only;rw[if_pos h1]
theorem bB(c:UInt8)(r:List UInt8)(h1:mU (c.toNat:Int)=false)(h2:xM (c.toNat:Int)=true):zS (c::r)=(if (mD (c::r.takeWhile hY)).2=true∧(mD (c::r.takeWhile hY)).1≤2147483647 then some (3,c::r.takeWhile hY,(c::r.takeWhile hY).length) else none):=by
 unfold zS;dsimp only;rw[if_neg (by simp[h1]),if_pos h2]
theorem sU(r:List UInt8):zS (39::r)=(match xT r with
   | some (t,q)=>if t.length≤60 then some (4,t,(39::r).length-q.length) else none
   | none=>none):=by
 unfold zS;dsimp only;rw[if_neg (by decide),if_neg (by decide),if_pos rfl]
theorem bZ(c:UInt8)(r:List UInt8)(h1:mU (c.toNat:Int)=false)(h2:xM (c.toNat:Int)=false)(h3:c≠39):zS (c::r)=(match dG (c::r) with
   | some n=>some (5,(c::r).take n,n)
   | none=>none):=by
 unfold zS;dsimp only;rw[if_neg (by simp[h1]),if_neg (by simp[h2]),if_neg h3]
theorem qLG(c:UInt8)(r:List UInt8):zS (c::r)=(if wL (aL (c::r)).1 (aL (c::r)).2.1=true then some (aL (c::r)) else none):=by
 cases h1:mU (c.toNat:Int)
 ·cases h2:xM (c.toNat:Int)
  ·by_cases h3:c=39
   ·subst h3
    rw[sU,qB6,qPZ r.length r (Nat.le_refl _)]
    cases hs:p8 r with
    | none=>rw[qHo r hs];simp[wL]
    | some p=>
     obtain⟨t,q⟩:=p
     have jF:=qGY r.length r (Nat.le_refl _) t q hs
     rw[qFW r t q hs,if_neg (show ¬(t,(39::r).length-q.length).2=0 by simp;omega)]
     simp only[Option.bind_some]
     by_cases ha:t.all okC=true
     ·rw[if_pos ha]
      by_cases ht:t.length≤60
      ·simp[wL,kB,ht,ha]
      ·simp[wL,kB,ht]
     ·rw[if_neg ha]
      simp[wL,kB,ha]
   ·rw[bZ c r h1 h2 h3,qEq c r h1 h2 h3]
    cases hs:dG (c::r) with
    | none=>simp[wL,qEm]
    | some n=>
     have:=(qGy c r n hs).1
     simp[wL,this]
  ·rw[bB c r h1 h2,qHp c r h1 h2]
   by_cases h3:(mD (c::r.takeWhile hY)).2=true∧(mD (c::r.takeWhile hY)).1≤2147483647
   ·rw[if_pos h3,if_pos]
    simp[wL,h3.1,h3.2]
   ·rw[if_neg h3,if_neg]
    simpa[wL]using h3
 ·rw[cU c r h1,qF8 c r h1]
  cases hw:pF (c::r.takeWhile nmb)
  ·simp only[Bool.false_eq_true,if_false]
   by_cases hl:(c::r.takeWhile nmb).length≤20
   ·rw[if_pos hl,if_pos]
    simp only[wL,if_true,hw]
    rw[qKV c _ h1 (qLK _ _) (by omega)]
    simpa using hl
   ·rw[if_neg hl,if_neg]
    simp only[wL,if_true,hw]
    simp at hl ⊢
    omega
  ·have:=qD9 hw
   rw[if_pos (by omega)]
   simp[wL,hw]
theorem qOe(c:UInt8)(r:List UInt8)(h:wL (aL (c::r)).1 (aL (c::r)).2.1=true):0<(aL (c::r)).2.2∧(aL (c::r)).2.2≤(c::r).length:=by
 have htw:∀ p:UInt8→Bool,(r.takeWhile p).length≤r.length:=fun p=>(List.takeWhile_sublist p).length_le
 cases h1:mU (c.toNat:Int)
 ·cases h2:xM (c.toNat:Int)
  ·by_cases h3:c=39
   ·subst h3
    rw[qB6]at h ⊢
    cases hs:p8 r with
    | none=>rw[qHo r hs]at h;simp[wL]at h
    | some p=>
     obtain⟨t,q⟩:=p
     have jF:=qGY r.length r (Nat.le_refl _) t q hs
     rw[qFW r t q hs,if_neg (show ¬(t,(39::r).length-q.length).2=0 by simp;omega)]
     simp
     omega
   ·rw[qEq c r h1 h2 h3]at h ⊢
    cases hs:dG (c::r) with
    | none=>rw[hs]at h;simp[wL,qEm]at h
    | some n=>
     have:=qGy c r n hs
     have h9:=this.2.1
     rw[List.length_take]at h9
     simp only[Option.getD_some]
     omega
  ·rw[qHp c r h1 h2];have:=htw hY;simp;omega
 ·rw[qF8 c r h1];have:=htw nmb;simp;omega
theorem qBS{k n:Int}{t:ByteArray}(h:vC k n t=true):k=0∨k=1∨k=2∨k=3:=by
 unfold vC at h
 split at h
 ·omega
 split at h
 ·omega
 split at h
 ·omega
 split at h
 ·omega
 cases h
def qF7(l:List UInt8):Int×Int:=
 if 65536<l.length then (0,2)
 else if l=[108,101,110] then (1,0)
 else if l=[115,116,114] then (1,0)
 else if l=[97,98,115] then (1,0)
 else if l=[97,116] then (2,0)
 else if l=[109,97,120] then (2,0)
 else if l=[109,105,110] then (2,0)
 else if l=[99,117,116] then (3,0)
 else (0,5)
theorem qHv(s:ByteArray):s.toList.length=s.size:=by rw[ByteArray.toList_eq];exact Array.length_toList
theorem eK(s:ByteArray)(w:World)(h:65536<s.size) :
  Calls Tryz.prog 125 #[.string s] w fun e w'=>e=.returned (.tuple #[.int .i64 0,.int .i64 2])∧w'=w:=by
 go_enter Tryz.func125,Tryz.ntmps125
 go_wp2
 go_ret2
 exact⟨rfl,rfl⟩
theorem qAj(s:ByteArray)(w:World)(hl:s.size≤65536)(h:s.toList=[108,101,110]) :
  Calls Tryz.prog 125 #[.string s] w fun e w'=>e=.returned (.tuple #[.int .i64 1,.int .i64 0])∧w'=w:=by
 go_enter Tryz.func125,Tryz.ntmps125
 go_wp2
 go_ret2
 exact⟨rfl,rfl⟩
theorem oO(s:ByteArray)(w:World)(hl:s.size≤65536)(h:s.toList=[115,116,114]) :
  Calls Tryz.prog 125 #[.string s] w fun e w'=>e=.returned (.tuple #[.int .i64 1,.int .i64 0])∧w'=w:=by
 go_enter Tryz.func125,Tryz.ntmps125
 go_wp2
 go_ret2
 exact⟨rfl,rfl⟩
theorem oU(s:ByteArray)(w:World)(hl:s.size≤65536)(h:s.toList=[97,98,115]) :
  Calls Tryz.prog 125 #[.string s] w fun e w'=>e=.returned (.tuple #[.int .i64 1,.int .i64 0])∧w'=w:=by
 go_enter Tryz.func125,Tryz.ntmps125
 go_wp2
 go_ret2
 exact⟨rfl,rfl⟩
theorem qBd(s:ByteArray)(w:World)(hl:s.size≤65536)(h:s.toList=[97,116]) :
  Calls Tryz.prog 125 #[.string s] w fun e w'=>e=.returned (.tuple #[.int .i64 2,.int .i64 0])∧w'=w:=by
 go_enter Tryz.func125,Tryz.ntmps125
 go_wp2
 go_ret2
 exact⟨rfl,rfl⟩
theorem oL(s:ByteArray)(w:World)(hl:s.size≤65536)(h:s.toList=[109,97,120]) :
  Calls Tryz.prog 125 #[.string s] w fun e w'=>e=.returned (.tuple #[.int .i64 2,.int .i64 0])∧w'=w:=by
 go_enter Tryz.func125,Tryz.ntmps125
 go_wp2
 go_ret2
 exact⟨rfl,rfl⟩
theorem qAk(s:ByteArray)(w:World)(hl:s.size≤65536)(h:s.toList=[109,105,110]) :
  Calls Tryz.prog 125 #[.string s] w fun e w'=>e=.returned (.tuple #[.int .i64 2,.int .i64 0])∧w'=w:=by
 go_enter Tryz.func125,Tryz.ntmps125
 go_wp2
 go_ret2
 exact⟨rfl,rfl⟩
theorem qAb(s:ByteArray)(w:World)(hl:s.size≤65536)(h:s.toList=[99,117,116]) :
  Calls Tryz.prog 125 #[.string s] w fun e w'=>e=.returned (.tuple #[.int .i64 3,.int .i64 0])∧w'=w:=by
 go_enter Tryz.func125,Tryz.ntmps125
 go_wp2
 go_ret2
 exact⟨rfl,rfl⟩
theorem eW(s:ByteArray)(w:World)(hl:s.size≤65536)(h0:(s.toList == [108,101,110])=false)(h1:(s.toList == [115,116,114])=false)(h2:(s.toList == [97,98,115])=false)(h3:(s.toList == [97,116])=false)(h4:(s.toList == [109,97,120])=false)(h5:(s.toList == [109,105,110])=false)(h6:(s.toList == [99,117,116])=false) :
  Calls Tryz.prog 125 #[.string s] w fun e w'=>e=.returned (.tuple #[.int .i64 0,.int .i64 5])∧w'=w:=by
 go_enter Tryz.func125,Tryz.ntmps125
 go_wp2
 go_ret2
 exact⟨rfl,rfl⟩
theorem qAp(s:ByteArray)(w:World) :
  Calls Tryz.prog 125 #[.string s] w fun e w'=>e=.returned (.tuple #[.int .i64 (qF7 s.toList).1,.int .i64 (qF7 s.toList).2])∧w'=w:=by
 unfold qF7
 rw[qHv]
 by_cases h:65536<s.size
 ·rw[if_pos h];exact eK s w h
 rw[if_neg h]
 by_cases h0:s.toList=[108,101,110]
 ·rw[if_pos h0];exact qAj s w (by omega) h0
 rw[if_neg h0]
 by_cases h1:s.toList=[115,116,114]
 ·rw[if_pos h1];exact oO s w (by omega) h1
 rw[if_neg h1]
 by_cases h2:s.toList=[97,98,115]
 ·rw[if_pos h2];exact oU s w (by omega) h2
 rw[if_neg h2]
 by_cases h3:s.toList=[97,116]
 ·rw[if_pos h3];exact qBd s w (by omega) h3
 rw[if_neg h3]
 by_cases h4:s.toList=[109,97,120]
 ·rw[if_pos h4];exact oL s w (by omega) h4
 rw[if_neg h4]
 by_cases h5:s.toList=[109,105,110]
 ·rw[if_pos h5];exact qAk s w (by omega) h5
 rw[if_neg h5]
 by_cases h6:s.toList=[99,117,116]
 ·rw[if_pos h6];exact qAb s w (by omega) h6
 rw[if_neg h6]
 exact eW s w (by omega) (beq_eq_false_iff_ne.2 h0) (beq_eq_false_iff_ne.2 h1) (beq_eq_false_iff_ne.2 h2) (beq_eq_false_iff_ne.2 h3) (beq_eq_false_iff_ne.2 h4) (beq_eq_false_iff_ne.2 h5) (beq_eq_false_iff_ne.2 h6)
structure V3 where
 k:Int
 n:Int
 t:ByteArray
end
section
def vE(t:ByteArray):Bool:=wL 1 t.data.toList
def opB(l:List UInt8):Bool:=l == [60]||l == [61,61]||l == [43]||l == [45]||l == [42]||l == [47]||l == [37]
def mB(k:Int)(c:Nat):Bool:=
 if k=1∨k=2∨k=3∨k=4∨k=5 then c == 0
 else if k=6∨k=11∨k=12∨k=15∨k=16∨k=19∨k=20 then c == 1
 else if k=7∨k=8∨k=9∨k=14∨k=17 then c == 2
 else if k=13 then c == 2||c == 3
 else k == 10||k == 18
def qEO(k:Int):Bool:=k == 5||k == 10||k == 11||k == 12||k == 17||k == 20
def tB(x:TN):Bool:=
 if x.k=1 then decide (0≤x.n)&&decide (x.n≤2147483647)&&decide (x.t.size=0)&&decide (x.names.length=0)
 else if x.k=3 then decide (0≤x.n)&&decide (x.n≤1)&&decide (x.t.size=0)&&decide (x.names.length=0)
 else if x.n≠0∨(x.k≠20∧0<x.names.length) then false
 else if x.k=2 then kB x.t.data.toList
 else if x.k=6 then (x.t.data.toList == [33])||(x.t.data.toList == [45])
 else if x.k=7 then opB x.t.data.toList
 else if qEO x.k=true then x.names.all vE&&vE x.t
 else decide (x.t.size=0)&&decide (4≤x.k)&&decide (x.k≤19)
def yQ(x:TN):Bool:=mB x.k x.kids.length&&tB x
def kY(k:Int)(top:Bool)(i:Nat)(kk:Int):Bool:=
 if k=18 then (decide (11≤kk)&&decide (kk≤19))||(kk == 20&&top)
 else if k=17∨k=20 then kk == 18
 else if (k=13∨k=14)∧0<i then kk == 18
 else decide (1≤kk)&&decide (kk≤10)
def qRa(ns:List TN)(root:Int)(x:Nat):Prop:=∃ n,ns[x]? = some n∧yQ n=true∧∀ i j,n.kids[i]? = some j→∃ m,0≤j∧ns[j.toNat]? = some m∧kY n.k (decide ((x:Int)=root)) i m.k=true
def qNU(ns:List TN)(root:Int)(l:List Nat)(d:Nat):Prop:=ns.length≤200∧OkW ns (qRa ns root) [root] [] l d∧(∃ r,ns[root.toNat]? = some r∧r.k=18)∧∀ i,i<ns.length→i∈l
def gI(ns:List TN)(root:Int):Prop:=∃ l d,qNU ns root l d
theorem qJj{x:TN}(h:tB x=true):1≤x.k∧x.k≤20:=by
 unfold tB at h
 by_cases h1:x.k=1
 ·omega
 rw[if_neg h1]at h
 by_cases h3:x.k=3
 ·omega
 rw[if_neg h3]at h
 split at h
 ·cases h
 by_cases h2:x.k=2
 ·omega
 rw[if_neg h2]at h
 by_cases h6:x.k=6
 ·omega
 rw[if_neg h6]at h
 by_cases h7:x.k=7
 ·omega
 rw[if_neg h7]at h
 split at h
 ·rename_i hn
  simp[qEO]at hn
  omega
 ·simp at h
  omega
end
section
open Go.RowKit
def pS(k:Int)(a:Nat)(t:List UInt8):V3:=⟨k,a,⟨t.toArray⟩⟩
inductive xS (l:List UInt8):Nat→List V3→List V3×Nat×Int→Prop
 | done (p:Nat) (acc:List V3):l.length≤p→xS l p acc (acc,0,0)
 | blank (p:Nat) (acc:List V3) (c:UInt8) (r:List UInt8) (x:List V3×Nat×Int):l.drop p=c::r→pP c=true→xS l (p+1) acc x→xS l p acc x
 | many (p:Nat) (acc:List V3) (c:UInt8) (r:List UInt8):l.drop p=c::r→pP c=false→acc.length=300→xS l p acc ([],p,6)
 | form (p:Nat) (acc:List V3) (c:UInt8) (r:List UInt8):l.drop p=c::r→pP c=false→acc.length≠300→zS (c::r)=none→xS l p acc ([],p,3)
 | tok (p:Nat) (acc:List V3) (c:UInt8) (r:List UInt8) (k:Int) (t:List UInt8) (n:Nat) (x:List V3×Nat×Int):l.drop p=c::r→pP c=false→acc.length≠300→zS (c::r)=some (k,t,n)→xS l (p+n) (acc++[pS k p t]) x→xS l p acc x
theorem pY{l:List UInt8}{p:Nat}{c:UInt8}{r:List UInt8}(h:l.drop p=c::r)(hp:l.length≤p):False:=by
 rw[List.drop_of_length_le hp]at h;cases h
theorem xS.det{l:List UInt8}{p:Nat}{acc:List V3}{x y:List V3×Nat×Int}(h:xS l p acc x)(h':xS l p acc y):x=y:=by
 induction h with
 | done p acc hp=>
  cases h' with
  | done=>rfl
  | blank _ _ _ _ _ hd=>exact(pY hd hp).elim
  | many _ _ _ _ hd=>exact(pY hd hp).elim
  | form _ _ _ _ hd=>exact(pY hd hp).elim
  | tok _ _ _ _ _ _ _ _ hd=>exact(pY hd hp).elim
 | blank p acc c r x hd hb _ ih=>
  cases h' with
  | done _ _ hp=>exact(pY hd hp).elim
  | blank _ _ c' r' _ hd' fR hx=>exact ih hx
  | many _ _ c' r' hd' fR=>rw[hd]at hd';injection hd' with e;subst e;rw[hb]at fR;cases fR
  | form _ _ c' r' hd' fR=>rw[hd]at hd';injection hd' with e;subst e;rw[hb]at fR;cases fR
  | tok _ _ c' r' _ _ _ _ hd' fR=>rw[hd]at hd';injection hd' with e;subst e;rw[hb]at fR;cases fR
 | many p acc c r hd hb hn=>
  cases h' with
  | done _ _ hp=>exact(pY hd hp).elim
  | blank _ _ c' r' _ hd' fR hx=>rw[hd]at hd';injection hd' with e;subst e;rw[hb]at fR;cases fR
  | many=>rfl
  | form _ _ c' r' hd' fR hn'=>exact absurd hn hn'
  | tok _ _ c' r' _ _ _ _ hd' fR hn'=>exact absurd hn hn'
 | form p acc c r hd hb hn ht=>
  cases h' with
  | done _ _ hp=>exact(pY hd hp).elim
  | blank _ _ c' r' _ hd' fR hx=>rw[hd]at hd';injection hd' with e;subst e;rw[hb]at fR;cases fR
  | many _ _ c' r' hd' fR hn'=>exact absurd hn' hn
  | form=>rfl
  | tok _ _ c' r' _ _ _ _ hd' fR hn' ht'=>rw[hd]at hd';rw[←hd',ht]at ht';cases ht'
 | tok p acc c r k t n x hd hb hn ht _ ih=>
  cases h' with
  | done _ _ hp=>exact(pY hd hp).elim
  | blank _ _ c' r' _ hd' fR hx=>rw[hd]at hd';injection hd' with e;subst e;rw[hb]at fR;cases fR
  | many _ _ c' r' hd' fR hn'=>exact absurd hn' hn
  | form _ _ c' r' hd' fR hn' ht'=>rw[hd]at hd';rw[←hd',ht]at ht';cases ht'
  | tok _ _ c' r' k' t' n' _ hd' fR hn' ht' hx=>
   rw[hd]at hd'
   rw[←hd',ht]at ht'
   injection ht' with e
   injection e with e1 e2
   injection e2 with e2 e3
   subst e1 e2 e3
   exact ih hx
theorem qGh(c:UInt8)(r:List UInt8)(k:Int)(t:List UInt8)(n:Nat)(h:zS (c::r)=some (k,t,n)):wL k t=true∧0<n∧n≤(c::r).length:=by
 rw[qLG]at h
 split at h
 ·rename_i hb
  injection h with h
  have:=qOe c r hb
  rw[h]at hb this
  exact⟨hb,this⟩
 ·cases h
structure sX(acc:List V3)(p:Nat):Prop where
 few:acc.length≤300
 each:∀ v∈acc,wL v.k v.t.data.toList=true∧0≤v.n∧v.n<p
 rise:∀ i (h:i<acc.length),0<i→(acc[i-1]).n<acc[i].n
theorem sX.zero(p:Nat):sX [] p:=⟨by simp,fun v hv=>by simp at hv,fun i h=>by simp at h⟩
theorem sX.mono{acc:List V3}{p q:Nat}(h:sX acc p)(hp:p≤q):sX acc q:=⟨h.few,fun v hv=>⟨(h.each v hv).1,(h.each v hv).2.1,by have:=(h.each v hv).2.2;omega⟩,h.rise⟩
theorem sX.snoc{acc:List V3}{p n:Nat}{k:Int}{t:List UInt8}(h:sX acc p)(hf:acc.length≠300)(ht:wL k t=true)(hn:0<n):sX (acc++[pS k p t]) (p+n):=by
 refine⟨by have:=h.few;simp;omega,fun v hv=>?_,fun i hi h0=>?_⟩
 ·rcases List.mem_append.1 hv with hv | hv
  ·have:=h.each v hv;exact⟨this.1,this.2.1,by omega⟩
  ·simp at hv;subst hv;exact⟨by simpa[pS]using ht,by simp[pS],by simp[pS];omega⟩
 ·have hi':i≤acc.length:=by simp at hi;omega
  by_cases e:i=acc.length
  ·subst e
   have h1:acc.length-1<acc.length:=by omega
   have:=(h.each (acc[acc.length-1]) (List.getElem_mem h1)).2.2
   rw[List.getElem_append_left (by omega)]
   simp[pS]
   omega
  ·rw[List.getElem_append_left (by omega),List.getElem_append_left (by omega)]
   exact h.rise i (by omega) h0
theorem xS.good{l:List UInt8}{p:Nat}{acc:List V3}{x:List V3×Nat×Int}(h:xS l p acc x)(hp:p≤l.length)(hg:sX acc p):(x.2.2=0∧x.2.1=0∧sX x.1 l.length)∨(x.2.2≠0∧x.1=[]∧x.2.1≤l.length):=by
 induction h with
 | done p acc _=>exact .inl ⟨rfl,rfl,hg.mono hp⟩
 | blank p acc c r x hd hb _ ih=>
  have jF:p<l.length:=by
   have:=congrArg List.length hd
   simp at this;omega
  exact ih (by omega) (hg.mono (by omega))
 | many p acc c r=>exact .inr ⟨by simp,rfl,hp⟩
 | form p acc c r=>exact .inr ⟨by simp,rfl,hp⟩
 | tok p acc c r k t n x hd hb hn ht _ ih=>
  obtain⟨h1,h2,h3⟩:=qGh c r k t n ht
  have jF:l.length-p=(c::r).length:=by
   have:=congrArg List.length hd
   rw[List.length_drop]at this
   exact this
  exact ih (by simp at h3 jF;omega) (hg.snoc hn h1 h2)
def qTW(l:List UInt8):Prop:=l=[60]∨l=[43]∨l=[45]∨l=[42]∨l=[47]∨l=[37]
def qJ5(l:List UInt8):Prop:=l=[61,61]∨qTW l
theorem qLe(op:ByteArray)(w:World)(h:op.toList=[43]) :
  Calls Tryz.prog 75 #[.string op] w fun e w'=>e=.returned (.bool true)∧w'=w:=by
 go_enter Tryz.func75,Tryz.ntmps75
 go_wp2
 go_ret
 exact⟨rfl,rfl⟩
theorem qKW(op:ByteArray)(w:World)(h:op.toList=[45]) :
  Calls Tryz.prog 75 #[.string op] w fun e w'=>e=.returned (.bool true)∧w'=w:=by
 go_enter Tryz.func75,Tryz.ntmps75
 go_wp2
 go_ret
 exact⟨rfl,rfl⟩
theorem qL1(op:ByteArray)(w:World)(h:op.toList=[42]) :
  Calls Tryz.prog 75 #[.string op] w fun e w'=>e=.returned (.bool true)∧w'=w:=by
 go_enter Tryz.func75,Tryz.ntmps75
 go_wp2
 go_ret
 exact⟨rfl,rfl⟩
theorem qLm(op:ByteArray)(w:World)(h:op.toList=[47]) :
  Calls Tryz.prog 75 #[.string op] w fun e w'=>e=.returned (.bool true)∧w'=w:=by
 go_enter Tryz.func75,Tryz.ntmps75
 go_wp2
 go_ret
 exact⟨rfl,rfl⟩
theorem qKU(op:ByteArray)(w:World)(h:op.toList=[37]) :
  Calls Tryz.prog 75 #[.string op] w fun e w'=>e=.returned (.bool true)∧w'=w:=by
 go_enter Tryz.func75,Tryz.ntmps75
 go_wp2
 go_ret
 exact⟨rfl,rfl⟩
theorem qN7(op:ByteArray)(w:World)(h:op.toList=[60]) :
  Calls Tryz.prog 75 #[.string op] w fun e w'=>e=.returned (.bool true)∧w'=w:=by
 go_enter Tryz.func75,Tryz.ntmps75
 go_wp2
 go_ret
 exact⟨rfl,rfl⟩
theorem qNL(op:ByteArray)(w:World)(h:op.toList=[61,61]) :
  Calls Tryz.prog 75 #[.string op] w fun e w'=>e=.returned (.bool true)∧w'=w:=by
 go_enter Tryz.func75,Tryz.ntmps75
 go_wp2
 go_ret
 exact⟨rfl,rfl⟩
theorem qLb(op:ByteArray)(w:World)(h:qJ5 op.toList) :
  Calls Tryz.prog 75 #[.string op] w fun e w'=>e=.returned (.bool true)∧w'=w:=by
 rcases h with h | h | h | h | h | h | h
 ·exact qNL op w h
 ·exact qN7 op w h
 ·exact qLe op w h
 ·exact qKW op w h
 ·exact qL1 op w h
 ·exact qLm op w h
 ·exact qKU op w h
end
end Go.Proofs.YtbgkfaclfnkloaaGreatDoor
