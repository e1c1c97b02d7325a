import Derived.Test.YtbgkfaclfnkloaaGreatDoorG03
import Derived.Laws.IdiomStrings
import Derived.Lib.ItoaNum
namespace Go.Proofs.YtbgkfaclfnkloaaGreatDoor
set_option linter.all false
set_option maxHeartbeats 4000000
set_option maxRecDepth 100000
section
open Go.RowKit
theorem qJ7(W:World)(b:Nat)(c:Int)(h0:0≤c)(h1:c≤255)(h:W.cell? ⟨b,0,none⟩=some (.int .u8 c)) :
  (convert 22 9 (.slice (some ⟨b,0,none⟩) 1 1)).run Tryz.prog W=.ok (.string ⟨#[UInt8.ofNat c.toNat]⟩) W:=by
 have h:=run_convert_bytes_back (P:=Tryz.prog) W 22 9 5 ⟨b,0,none⟩ 1 [UInt8.ofNat c.toNat] Tryz.underlying22 Tryz.underlying5 Tryz.underlying9 (fun j hj=>by
  obtain rfl:j=0:=by simpa using hj
  rw[Addr.add_lit,Nat.add_zero,h]
  simp
  omega)
 exact h
theorem aE(n:Int)(w:World)(h0:0≤n)(h1:n≤9) :
  Calls Tryz.prog 35 #[.int .i64 n] w fun e w'=>e=.returned (.string ⟨#[UInt8.ofNat (48+n).toNat]⟩)∧Below w.heap.size w w':=by
 have hcv:=fun W b=>qJ7 W b (48+n) (by omega) (by omega)
 have hb:(n == -9223372036854775808)=false:=by simp;omega
 go_enter Tryz.func35,Tryz.ntmps35
 go_wp2
 go_ret
 exact⟨rfl,qD _ _⟩
theorem qDC(n:Int)(S:ByteArray)(hS:S.size≤100)(w:World)(h0:n<0)(h1 : -2147483648≤n)(HC:Hid (∀ w,Calls Tryz.prog 35 #[.int .i64 (-n)] w fun e w'=>e=.returned (.string S)∧Below w.heap.size w w')) :
  Calls Tryz.prog 35 #[.int .i64 n] w fun e w'=>e=.returned (.string (⟨#[45]⟩++S))∧Below w.heap.size w w':=by
 have hb:(n == -9223372036854775808)=false:=by simp;omega
 go_enter Tryz.func35,Tryz.ntmps35
 go_wp2_with fail
 refine(qA HC _).mono ?_
 rintro e w1 ⟨rfl,jD⟩
 go_wp2
 go_ret
 exact⟨rfl,jD⟩
theorem qPR(w:World)(c:Value)(t:TypeId):(w.alloc (.cells #[c] t)).cell? ⟨w.heap.size,0,none⟩=some c:=by simp
theorem qEi(w:World)(c:Value)(t:TypeId):(w.alloc (.cells #[c] t)).drew.cell? ⟨w.heap.size,0,none⟩=some c:=by simp
theorem qNF(u:World)(c:Int)(h0:0≤c)(h1:c≤255):(convert 22 9 (.slice (some ⟨u.heap.size,0,none⟩) 1 1)).run Tryz.prog (u.alloc (.cells #[.int .u8 c] 5))=.ok (.string ⟨#[UInt8.ofNat c.toNat]⟩) (u.alloc (.cells #[.int .u8 c] 5)):=
 qJ7 _ _ c h0 h1 (by simp)
theorem qCE(n q r:Int)(S D:ByteArray)(hS:S.size≤100)(hD:D.size=1)(w:World)(h0:10≤n)(h1:n≤2147483648)(hq:n.tdiv 10=q)(hr:n.tmod 10=r)(hq0:0≤q)(hq1:q≤2147483648)(hr0:0≤r)(eA:r≤9)(HC:Hid (∀ w,Calls Tryz.prog 35 #[.int .i64 q] w fun e w'=>e=.returned (.string S)∧Below w.heap.size w w'))
  (hcv:∀ u:World,(convert 22 9 (.slice (some ⟨u.heap.size,0,none⟩) 1 1)).run Tryz.prog (u.alloc (.cells #[.int .u8 (48+r)] 5))=.ok (.string D) (u.alloc (.cells #[.int .u8 (48+r)] 5)))
  (jDF:∀ u:World,(convert 22 9 (.slice (some ⟨u.heap.size,0,none⟩) 1 1)).run Tryz.prog (u.alloc (.cells #[.int .u8 (48+r)] 5)).drew=.ok (.string D) (u.alloc (.cells #[.int .u8 (48+r)] 5)).drew)
  (HCV:Hid (∀ (W:World) (b:Nat),W.cell? ⟨b,0,none⟩=some (.int .u8 (48+r))→(convert 22 9 (.slice (some ⟨b,0,none⟩) 1 1)).run Tryz.prog W=.ok (.string D) W)) :
  Calls Tryz.prog 35 #[.int .i64 n] w fun e w'=>e=.returned (.string (S++D))∧Below w.heap.size w w':=by
 have hb:(n == -9223372036854775808)=false:=by simp;omega
 have hwq:IntKind.i64.wrap q=q:=by rw[IntKind.wrap_i64];omega
 have hw1:IntKind.i64.wrap (48+r)=48+r:=by rw[IntKind.wrap_i64];omega
 have hw2:IntKind.u8.wrap (48+r)=48+r:=by unfold IntKind.wrap;simp[IntKind.bits,IntKind.signed];omega
 go_enter Tryz.func35,Tryz.ntmps35
 go_wp2
 go_region_with ((go_at_call 35;refine(qA HC _).mono ?_;rintro e u ⟨rfl,hbu⟩;(first | have hcu:=qA HCV u w.heap.size (cell_later hbu (qPR _ _ _)) | have hcu:=qA HCV u w.heap.size (cell_later hbu (qEi _ _ _)) | skip)))
 all_goals (go_wp2)
 all_goals (go_ret)
 all_goals (exact⟨rfl,(by repeat (first | exact Below.refl _ _ | refine qG ?_ | refine qF ?_ | refine qE ?_ (by assumption)))⟩)
theorem nF{n:Nat}(h:n<10):Lib.decDigits n=[UInt8.ofNat (48+n)]:=by
 rw[Lib.decDigits]
 simp[h]
theorem qD7{n:Nat}(h:¬n<10):Lib.decDigits n=Lib.decDigits (n / 10)++[UInt8.ofNat (48+n % 10)]:=by
 rw[Lib.decDigits]
 simp[h]
theorem qFd(k:Nat):∀ n:Nat,n<10 ^ (k+1)→(Lib.decDigits n).length≤k+1:=by
 induction k with
 | zero=>
  intro n h
  rw[nF (by omega)]
  simp
 | succ k ih=>
  intro n h
  by_cases h':n<10
  ·rw[nF h'];simp
  ·rw[qD7 h',List.length_append]
   have:=ih (n / 10) (by rw[Nat.pow_succ]at h;omega)
   simp
   omega
theorem n8(m:Nat):∀ n:Nat,n≤m→n≤2147483648→∀ w:World,Calls Tryz.prog 35 #[.int .i64 (n:Int)] w fun e w'=>e=.returned (.string ⟨(Lib.decDigits n).toArray⟩)∧Below w.heap.size w w':=by
 induction m with
 | zero=>
  intro n hn _ w
  obtain rfl:n=0:=by omega
  have:=aE 0 w (by omega) (by omega)
  rw[nF (by omega)]
  exact this
 | succ m ih=>
  intro n hn hb w
  by_cases h:n<10
  ·have:=aE (n:Int) w (by omega) (by omega)
   rw[nF h]
   rw[show(48+(n:Int)).toNat=48+n by omega]at this
   exact this
  ·have hl:(Lib.decDigits (n / 10)).length≤10:=qFd 9 (n / 10) (by omega)
   have:=qCE (n:Int) ((n / 10:Nat):Int) ((n % 10:Nat):Int) ⟨(Lib.decDigits (n / 10)).toArray⟩ ⟨#[UInt8.ofNat (48+n % 10)]⟩ (by show(Lib.decDigits (n / 10)).toArray.size≤100;simp;omega) rfl w (by omega) (by omega)
    (by rw[Int.tdiv_eq_ediv_of_nonneg (by omega)];omega) (by rw[Int.tmod_eq_emod_of_nonneg (by omega)];omega) (by omega) (by omega) (by omega) (by omega)
    (qC fun w=>ih (n / 10) (by omega) (by omega) w)
    (fun u=>by rw[qNF u _ (by omega) (by omega),show(48+((n % 10:Nat):Int)).toNat=48+n % 10 by omega])
    (fun u=>by rw[qJ7 _ _ (48+((n % 10:Nat):Int)) (by omega) (by omega) (qEi _ _ _),show(48+((n % 10:Nat):Int)).toNat=48+n % 10 by omega])
    (qC fun W b h=>by rw[qJ7 W b _ (by omega) (by omega) h,show(48+((n % 10:Nat):Int)).toNat=48+n % 10 by omega])
   rw[show(⟨(Lib.decDigits n).toArray⟩:ByteArray)=⟨(Lib.decDigits (n / 10)).toArray⟩++⟨#[UInt8.ofNat (48+n % 10)]⟩ by
    rw[qD7 h]
    apply ByteArray.ext
    simp]
   exact this
theorem jW(n:Int)(w:World)(h0 : -2147483648≤n)(h1:n≤2147483647) :
  Calls Tryz.prog 35 #[.int .i64 n] w fun e w'=>e=.returned (.string ⟨(Lib.itoa n).toArray⟩)∧Below w.heap.size w w':=by
 unfold Lib.itoa
 by_cases h:n<0
 ·rw[if_pos h]
  have hl:(Lib.decDigits n.natAbs).length≤10:=qFd 9 n.natAbs (by omega)
  have:=qDC n ⟨(Lib.decDigits n.natAbs).toArray⟩ (by show(Lib.decDigits n.natAbs).toArray.size≤100;simp;omega) w h h0 (qC fun w=>by
   have:=n8 n.natAbs n.natAbs (Nat.le_refl _) (by omega) w
   rw[show((n.natAbs:Nat):Int)=-n by omega]at this
   exact this)
  rw[show(⟨(45::Lib.decDigits n.natAbs).toArray⟩:ByteArray)=⟨#[45]⟩++⟨(Lib.decDigits n.natAbs).toArray⟩ by
   apply ByteArray.ext
   simp]
  exact this
 ·rw[if_neg h]
  have:=n8 n.toNat n.toNat (Nat.le_refl _) (by omega) w
  rw[show((n.toNat:Nat):Int)=n by omega]at this
  exact this
theorem qLp:∀ (n:Nat) (l:List UInt8),l.length=n→(∀ c∈l,hY c=true)→0≤pB l∧(l≠[]→l.head?≠some 48→1≤pB l):=by
 intro n
 induction n with
 | zero=>intro l hl _;obtain rfl:=List.eq_nil_of_length_eq_zero hl;simp[pB]
 | succ n ih=>
  intro l hl kE
  obtain⟨l',c,rfl⟩:∃ l' c,l=l'++[c]:=⟨l.dropLast,l.getLast (by intro e;rw[e]at hl;cases hl),(List.dropLast_concat_getLast _).symm⟩
  have hl':l'.length=n:=by simpa using hl
  obtain⟨h1,h2⟩:=ih l' hl' (fun x hx=>kE x (by simp[hx]))
  have hc:=qAe (kE c (by simp))
  rw[fX]
  refine⟨by omega,fun _ hh=>?_⟩
  cases l' with
  | nil=>
   have:(c.toNat:Int)≠48:=fun e=>hh (by
    have:c=48:=UInt8.toNat_inj.1 (by have:(48:UInt8).toNat=48:=rfl;omega)
    rw[this];rfl)
   simp[pB]
   omega
  | cons a l'=>
   have:=h2 (by simp) (by simpa using hh)
   omega
theorem qCz{l:List UInt8}(h:(mD l).2=true):l≠[]∧l.length≤18∧(∀ c∈l,hY c=true)∧(1<l.length→l.head?≠some 48)∧mD l=(pB l,true):=by
 unfold mD at h ⊢
 split at h
 ·simp at h
 ·rename_i hx
  refine⟨fun e=>hx (.inl (by rw[e];rfl)),?_,fun c hc=>?_,fun h1 h2=>hx (.inr (.inr (.inl ⟨h1,h2⟩))),if_neg hx⟩
  ·by_cases hl:18<l.length
   ·exact absurd (.inr (.inl hl)) hx
   ·omega
  ·cases hg:hY c with
   | true=>rfl
   | false=>exact absurd (.inr (.inr (.inr ⟨c,hc,hg⟩))) hx
end
section
structure PS where
 at':Nat
 ns:List TN
 dp:Nat
 code:Int
 place:Int
def em:ByteArray:=⟨#[]⟩
def qLw(ts:List V3):Int:=match ts.getLast? with | none=>0 | some x=>x.n+1
def qU(ts:List V3)(s:PS):V3:=if h:s.at'<ts.length then ts[s.at'] else ⟨0,qLw ts,em⟩
def u9(ts:List V3)(c:Int)(s:PS):PS:=if s.code=0 then { s with code:=c,place:=(qU ts s).n } else s
def isV(x:V3)(t:List UInt8):Bool:=(x.k == 2||x.k == 5)&&x.t.data.toList == t
def kA(ts:List V3)(s:PS)(t:List UInt8):Bool:=isV (qU ts s) t
def qK(s:PS):PS:={ s with at':=s.at'+1 }
def yL(ts:List V3)(s:PS)(t:List UInt8):Bool:=(s.code == 0)&&kA ts s t
def qJ(ts:List V3)(t:List UInt8)(s:PS):PS:=if s.code=0 then (if kA ts s t=true then qK s else u9 ts 3 s) else s
def jN(ts:List V3)(s:PS):ByteArray×PS:=if (qU ts s).k=1 then ((qU ts s).t,qK s) else (em,u9 ts 3 s)
def jZ(ts:List V3)(n:TN)(s:PS):Int×PS:=if s.ns.length=200 then (0,u9 ts 6 s) else ((s.ns.length:Int),{ s with ns:=s.ns++[n] })
def jS(ts:List V3)(s:PS):PS:=if 20<s.dp+1 then u9 ts 9 { s with dp:=s.dp+1 } else { s with dp:=s.dp+1 }
def iG(s:PS):PS:={ s with dp:=s.dp-1 }
def xK(ts:List V3)(n:Nat)(s:PS):PS:=if 0<n then qJ ts [44] s else s
def sF(ts:List V3)(s:PS):Bool:=(qU ts s).k == 1&&(if h:s.at'+1<ts.length then (ts[s.at'+1].t.data.toList == [61])&&(ts[s.at'+1].k == 5) else false)
inductive PF
 | expr | exprL (a:Int) | and | andL (a:Int) | order | orderL (a:Int) | sum | sumL (a:Int) | prod | prodL (a:Int) | sign | first | args (ks:List Int)
 | block | blockL (ks:List Int) | stmt | inner | func | funcL (nm:List ByteArray) | topL (ks:List Int)
structure PO where
 r:Int
 ks:List Int
 nm:List ByteArray
 s:PS
def yB(x:Int×PS):PO:=⟨x.1,[],[],x.2⟩
def mG(r:Int)(s:PS):PO:=⟨r,[],[],s⟩
def run(ts:List V3):Nat→PF→PS→PO
 | 0,_,s=>mG 0 (if s.code=0 then { s with code:=99 } else s)
 | n+1,.expr,s=>
  if (jS ts s).code=0 then mG (run ts n (.exprL (run ts n .and (jS ts s)).r) (run ts n .and (jS ts s)).s).r (iG (run ts n (.exprL (run ts n .and (jS ts s)).r) (run ts n .and (jS ts s)).s).s)
  else mG 0 (iG (jS ts s))
 | n+1,.exprL a,s=>
  if yL ts s [124,124]=true then run ts n (.exprL (jZ ts ⟨9,0,em,[],[a,(run ts n .and (qK s)).r]⟩ (run ts n .and (qK s)).s).1) (jZ ts ⟨9,0,em,[],[a,(run ts n .and (qK s)).r]⟩ (run ts n .and (qK s)).s).2
  else mG a s
 | n+1,.and,s=>run ts n (.andL (run ts n .order s).r) (run ts n .order s).s
 | n+1,.andL a,s=>
  if yL ts s [38,38]=true then run ts n (.andL (jZ ts ⟨8,0,em,[],[a,(run ts n .order (qK s)).r]⟩ (run ts n .order (qK s)).s).1) (jZ ts ⟨8,0,em,[],[a,(run ts n .order (qK s)).r]⟩ (run ts n .order (qK s)).s).2
  else mG a s
 | n+1,.order,s=>run ts n (.orderL (run ts n .sum s).r) (run ts n .sum s).s
 | n+1,.orderL a,s=>
  if s.code=0∧(kA ts s [60]=true∨kA ts s [61,61]=true) then run ts n (.orderL (jZ ts ⟨7,0,(qU ts s).t,[],[a,(run ts n .sum (qK s)).r]⟩ (run ts n .sum (qK s)).s).1) (jZ ts ⟨7,0,(qU ts s).t,[],[a,(run ts n .sum (qK s)).r]⟩ (run ts n .sum (qK s)).s).2
  else mG a s
 | n+1,.sum,s=>run ts n (.sumL (run ts n .prod s).r) (run ts n .prod s).s
 | n+1,.sumL a,s=>
  if s.code=0∧(kA ts s [43]=true∨kA ts s [45]=true) then run ts n (.sumL (jZ ts ⟨7,0,(qU ts s).t,[],[a,(run ts n .prod (qK s)).r]⟩ (run ts n .prod (qK s)).s).1) (jZ ts ⟨7,0,(qU ts s).t,[],[a,(run ts n .prod (qK s)).r]⟩ (run ts n .prod (qK s)).s).2
  else mG a s
 | n+1,.prod,s=>run ts n (.prodL (run ts n .sign s).r) (run ts n .sign s).s
 | n+1,.prodL a,s=>
  if s.code=0∧(kA ts s [42]=true∨kA ts s [47]=true∨kA ts s [37]=true) then run ts n (.prodL (jZ ts ⟨7,0,(qU ts s).t,[],[a,(run ts n .sign (qK s)).r]⟩ (run ts n .sign (qK s)).s).1) (jZ ts ⟨7,0,(qU ts s).t,[],[a,(run ts n .sign (qK s)).r]⟩ (run ts n .sign (qK s)).s).2
  else mG a s
 | n+1,.sign,s=>
  if s.code=0∧(kA ts s [33]=true∨kA ts s [45]=true) then
   (if (jS ts (qK s)).code=0 then yB (jZ ts ⟨6,0,(qU ts s).t,[],[(run ts n .sign (jS ts (qK s))).r]⟩ (iG (run ts n .sign (jS ts (qK s))).s))
    else mG 0 (iG (jS ts (qK s))))
  else run ts n .first s
 | n+1,.first,s=>
  if ¬s.code=0 then mG 0 s
  else if (qU ts s).k=3 then yB (jZ ts ⟨1,(cE (qU ts s).t.data.toList).1,em,[],[]⟩ (qK s))
  else if (qU ts s).k=4 then yB (jZ ts ⟨2,0,(qU ts s).t,[],[]⟩ (qK s))
  else if kA ts s [116,114,117,101]=true then yB (jZ ts ⟨3,1,em,[],[]⟩ (qK s))
  else if kA ts s [102,97,108,115,101]=true then yB (jZ ts ⟨3,0,em,[],[]⟩ (qK s))
  else if kA ts s [110,117,108,108]=true then yB (jZ ts ⟨4,0,em,[],[]⟩ (qK s))
  else if kA ts s [40]=true then mG (run ts n .expr (qK s)).r (qJ ts [41] (run ts n .expr (qK s)).s)
  else if (qU ts s).k=1 then
   (if yL ts (qK s) [40]=true then yB (jZ ts ⟨10,0,(qU ts s).t,[],(run ts n (.args []) (qK (qK s))).ks⟩ (run ts n (.args []) (qK (qK s))).s)
    else yB (jZ ts ⟨5,0,(qU ts s).t,[],[]⟩ (qK s)))
  else mG 0 (u9 ts 3 s)
 | n+1,.args ks,s=>
  if s.code=0 then
   (if kA ts s [41]=true then ⟨0,ks,[],qK s⟩
    else run ts n (.args (ks++[(run ts n .expr (xK ts ks.length s)).r])) (run ts n .expr (xK ts ks.length s)).s)
  else ⟨0,ks,[],s⟩
 | n+1,.block,s=>yB (jZ ts ⟨18,0,em,[],(run ts n (.blockL []) (qJ ts [123] s)).ks⟩ (run ts n (.blockL []) (qJ ts [123] s)).s)
 | n+1,.blockL ks,s=>
  if s.code=0 then (if kA ts s [125]=true then ⟨0,ks,[],qK s⟩ else run ts n (.blockL (ks++[(run ts n .stmt s).r])) (run ts n .stmt s).s)
  else ⟨0,ks,[],s⟩
 | n+1,.stmt,s=>
  if (jS ts s).code=0 then mG (run ts n .inner (jS ts s)).r (iG (run ts n .inner (jS ts s)).s) else mG 0 (iG (jS ts s))
 | n+1,.inner,s=>
  if yL ts s [108,101,116]=true then
   yB (jZ ts ⟨11,0,(jN ts (qK s)).1,[],[(run ts n .expr (qJ ts [61] (jN ts (qK s)).2)).r]⟩ (qJ ts [59] (run ts n .expr (qJ ts [61] (jN ts (qK s)).2)).s))
  else if yL ts s [105,102]=true then
   (if yL ts (run ts n .block (qJ ts [41] (run ts n .expr (qJ ts [40] (qK s))).s)).s [101,108,115,101]=true then
    yB (jZ ts ⟨13,0,em,[],[(run ts n .expr (qJ ts [40] (qK s))).r,(run ts n .block (qJ ts [41] (run ts n .expr (qJ ts [40] (qK s))).s)).r,(run ts n .block (qK (run ts n .block (qJ ts [41] (run ts n .expr (qJ ts [40] (qK s))).s)).s)).r]⟩ (run ts n .block (qK (run ts n .block (qJ ts [41] (run ts n .expr (qJ ts [40] (qK s))).s)).s)).s)
    else yB (jZ ts ⟨13,0,em,[],[(run ts n .expr (qJ ts [40] (qK s))).r,(run ts n .block (qJ ts [41] (run ts n .expr (qJ ts [40] (qK s))).s)).r]⟩ (run ts n .block (qJ ts [41] (run ts n .expr (qJ ts [40] (qK s))).s)).s))
  else if yL ts s [119,104,105,108,101]=true then
   yB (jZ ts ⟨14,0,em,[],[(run ts n .expr (qJ ts [40] (qK s))).r,(run ts n .block (qJ ts [41] (run ts n .expr (qJ ts [40] (qK s))).s)).r]⟩ (run ts n .block (qJ ts [41] (run ts n .expr (qJ ts [40] (qK s))).s)).s)
  else if yL ts s [114,101,116,117,114,110]=true then
   yB (jZ ts ⟨15,0,em,[],[(run ts n .expr (qK s)).r]⟩ (qJ ts [59] (run ts n .expr (qK s)).s))
  else if yL ts s [116,104,114,111,119]=true then
   yB (jZ ts ⟨16,0,em,[],[(run ts n .expr (qK s)).r]⟩ (qJ ts [59] (run ts n .expr (qK s)).s))
  else if yL ts s [116,114,121]=true then
   (if (qJ ts [40] (qJ ts [99,97,116,99,104] (run ts n .block (qK s)).s)).code=0 then
    yB (jZ ts ⟨17,0,(jN ts (qJ ts [40] (qJ ts [99,97,116,99,104] (run ts n .block (qK s)).s))).1,[],[(run ts n .block (qK s)).r,(run ts n .block (qJ ts [41] (jN ts (qJ ts [40] (qJ ts [99,97,116,99,104] (run ts n .block (qK s)).s))).2)).r]⟩ (run ts n .block (qJ ts [41] (jN ts (qJ ts [40] (qJ ts [99,97,116,99,104] (run ts n .block (qK s)).s))).2)).s)
    else
    yB (jZ ts ⟨17,0,em,[],[(run ts n .block (qK s)).r,(run ts n .block (qJ ts [41] (qJ ts [40] (qJ ts [99,97,116,99,104] (run ts n .block (qK s)).s)))).r]⟩ (run ts n .block (qJ ts [41] (qJ ts [40] (qJ ts [99,97,116,99,104] (run ts n .block (qK s)).s)))).s))
  else if kA ts s [123]=true then run ts n .block s
  else if ¬s.code=0 then mG 0 s
  else if sF ts s=true then
   yB (jZ ts ⟨12,0,(qU ts s).t,[],[(run ts n .expr (qK (qK s))).r]⟩ (qJ ts [59] (run ts n .expr (qK (qK s))).s))
  else yB (jZ ts ⟨19,0,em,[],[(run ts n .expr s).r]⟩ (qJ ts [59] (run ts n .expr s).s))
 | n+1,.func,s=>
  yB (jZ ts ⟨20,0,(jN ts s).1,(run ts n (.funcL []) (qJ ts [40] (jN ts s).2)).nm,[(run ts n .block (run ts n (.funcL []) (qJ ts [40] (jN ts s).2)).s).r]⟩ (run ts n .block (run ts n (.funcL []) (qJ ts [40] (jN ts s).2)).s).s)
 | n+1,.funcL nm,s=>
  if s.code=0 then
   (if kA ts s [41]=true then ⟨0,[],nm,qK s⟩
    else if (xK ts nm.length s).code=0 then run ts n (.funcL (nm++[(jN ts (xK ts nm.length s)).1])) (jN ts (xK ts nm.length s)).2
    else run ts n (.funcL nm) (xK ts nm.length s))
  else ⟨0,[],nm,s⟩
 | n+1,.topL ks,s=>
  if s.code=0∧s.at'<ts.length then
   (if kA ts s [102,117,110,99,116,105,111,110]=true then run ts n (.topL (ks++[(run ts n .func (qK s)).r])) (run ts n .func (qK s)).s
    else run ts n (.topL (ks++[(run ts n .stmt s).r])) (run ts n .stmt s).s)
  else ⟨0,ks,[],s⟩
structure qI(s s':PS):Prop where
 at':s.at'≤s'.at'
 ns:s.ns <+: s'.ns
 code:s'.code=0→s.code=0
theorem qI.refl(s:PS):qI s s:=⟨Nat.le_refl _,List.prefix_refl _,id⟩
theorem qI.adv{s0 s:PS}(h:qI s0 s):qI s0 (qK s):=⟨Nat.le_succ_of_le h.at',h.ns,h.code⟩
theorem qI.fail{ts:List V3}{c:Int}(hc:c≠0){s0 s:PS}(h:qI s0 s):qI s0 (u9 ts c s):=by
 unfold u9;split
 ·exact⟨h.at',h.ns,fun e=>absurd e hc⟩
 ·exact h
theorem qI.need{ts:List V3}{t:List UInt8}{s0 s:PS}(h:qI s0 s):qI s0 (qJ ts t s):=by
 unfold qJ;split
 ·split
  ·exact h.adv
  ·exact h.fail (by decide)
 ·exact h
theorem qI.name{ts:List V3}{s0 s:PS}(h:qI s0 s):qI s0 (jN ts s).2:=by
 unfold jN;split
 ·exact h.adv
 ·exact h.fail (by decide)
theorem qI.put{ts:List V3}{x:TN}{s0 s:PS}(h:qI s0 s):qI s0 (jZ ts x s).2:=by
 unfold jZ;split
 ·exact h.fail (by decide)
 ·exact⟨h.at',h.ns.trans (List.prefix_append _ _),h.code⟩
theorem qI.deep{s0 s:PS}(h:qI s0 s)(d:Nat):qI s0 { s with dp:=d }:=⟨h.at',h.ns,h.code⟩
theorem qI.down{ts:List V3}{s0 s:PS}(h:qI s0 s):qI s0 (jS ts s):=by
 unfold jS;split
 ·exact(h.deep _).fail (by decide)
 ·exact h.deep _
theorem qI.up{s0 s:PS}(h:qI s0 s):qI s0 (iG s):=h.deep _
theorem qI.ite{p:Prop}[Decidable p]{s0 a b:PS}(h:qI s0 a)(k:qI s0 b):qI s0 (if p then a else b):=by split <;> assumption
theorem qI.com{ts:List V3}{n:Nat}{s0 s:PS}(h:qI s0 s):qI s0 (xK ts n s):=by
 unfold xK;split
 ·exact h.need
 ·exact h
theorem qI.stop{s0 s:PS}(h:qI s0 s):qI s0 (if s.code=0 then { s with code:=99 } else s):=by
 split
 ·exact⟨h.at',h.ns,fun e=>absurd e (show ¬(99:Int)=0 by decide)⟩
 ·exact h
theorem cO(ts:List V3)(f:PF)(s:PS):run ts 0 f s=mG 0 (if s.code=0 then { s with code:=99 } else s):=by cases f <;> rfl
attribute [local irreducible] run qK iG xK qJ jN jZ jS u9 kA yL qU sF
theorem j5(ts:List V3):∀ (n:Nat) (f:PF) (s0 s:PS),qI s0 s→qI s0 (run ts n f s).s
 | 0,f,s0,s,h=>by
  rw[cO];exact h.stop
 | n+1,f,s0,s,h=>by
  have ih:=j5 ts n
  cases f <;> (unfold run;repeat' split) <;> ((try simp only[mG,yB]);repeat (first | exact h | apply qI.up | apply qI.put | apply qI.need | apply qI.com | apply qI.name | apply qI.adv | apply ih | apply qI.down | apply qI.fail (by decide) | apply qI.ite))
def uP(s s':PS):Prop:=s'.code=0→s.at'<s'.at'
theorem uP.le{a b c:PS}(h:uP a b)(k:qI b c):uP a c:=fun e=>Nat.lt_of_lt_of_le (h (k.code e)) k.at'
theorem uP.adv{s0 s:PS}(h:qI s0 s):uP s0 (qK s):=by
 unfold qK
 exact fun _=>Nat.lt_succ_of_le h.at'
theorem uP.fail{ts:List V3}{c:Int}(hc:c≠0){s0 s:PS}:uP s0 (u9 ts c s):=by
 unfold u9;split
 ·exact fun e=>absurd e hc
 ·exact fun e=>absurd e (by assumption)
theorem uP.need{ts:List V3}{t:List UInt8}{s0 s:PS}(h:qI s0 s):uP s0 (qJ ts t s):=by
 unfold qJ;split
 ·split
  ·exact uP.adv h
  ·exact uP.fail (by decide)
 ·exact fun e=>absurd e (by assumption)
theorem uP.name{ts:List V3}{s0 s:PS}(h:qI s0 s):uP s0 (jN ts s).2:=by
 unfold jN;split
 ·exact uP.adv h
 ·exact uP.fail (by decide)
theorem uP.put{ts:List V3}{x:TN}{s0 s:PS}(h:uP s0 s):uP s0 (jZ ts x s).2:=h.le (qI.refl s).put
theorem uP.up{s0 s:PS}(h:uP s0 s):uP s0 (iG s):=h.le (qI.refl s).up
theorem uP.bad{s0 s:PS}(h:¬s.code=0):uP s0 s:=fun e=>absurd e h
def qJZ:PF→Bool
 | .expr | .and | .order | .sum | .prod | .sign | .first | .block | .stmt | .inner | .func=>true
 | _=>false
theorem uP.loop{ts:List V3}{n:Nat}{f:PF}{s0 s:PS}(h:uP s0 s):uP s0 (run ts n f s).s:=h.le (j5 ts n f s s (qI.refl s))
theorem yM(ts:List V3)(n:Nat):∀ (f:PF) (s0 s:PS),qJZ f=true→qI s0 s→uP s0 (run ts n f s).s:=by
 induction n with
 | zero=>
  intro f s0 s _ h
  have:uP s0 (if s.code=0 then { s with code:=99 } else s):=by
   split
   ·exact fun e=>absurd e (show ¬(99:Int)=0 by decide)
   ·exact fun e=>absurd e (by assumption)
  rw[cO];exact this
 | succ n ih=>
  intro f s0 s hf h
  have il:=j5 ts n
  cases f <;> (first | (simp[qJZ]at hf;done) | skip) <;> (unfold run;repeat' split) <;> (try simp only[mG,yB]) <;> repeat (first | exact h | apply uP.up | apply uP.put | apply uP.need | apply uP.name | apply uP.adv | (refine ih _ _ _ rfl ?_) | apply uP.loop | apply uP.fail (by decide) | apply qI.up | apply qI.put | apply qI.need | apply qI.com | apply qI.name | apply qI.adv | apply il | apply qI.down | apply qI.fail (by decide) | apply qI.ite | exact uP.bad (by assumption))
theorem iQ(ts:List V3)(c:Int)(s:PS):(u9 ts c s).dp=s.dp:=by unfold u9;split <;> rfl
theorem q9(ts:List V3)(t:List UInt8)(s:PS):(qJ ts t s).dp=s.dp:=by
 unfold qJ
 split
 ·split
  ·unfold qK;rfl
  ·exact iQ _ _ _
 ·rfl
theorem jO(ts:List V3)(s:PS):(jN ts s).2.dp=s.dp:=by unfold jN;split <;> first | rfl | exact iQ _ _ _ | (unfold qK;rfl)
theorem j4(ts:List V3)(x:TN)(s:PS):(jZ ts x s).2.dp=s.dp:=by unfold jZ;split <;> first | rfl | exact iQ _ _ _
theorem qZ(s:PS):(qK s).dp=s.dp:=by unfold qK;rfl
theorem qUc(s:PS):(iG s).dp=s.dp-1:=by unfold iG;rfl
theorem xW(ts:List V3)(s:PS):(jS ts s).dp=s.dp+1:=by unfold jS;split <;> first | rfl | exact iQ _ _ _
theorem zG(ts:List V3)(n:Nat)(s:PS):(xK ts n s).dp=s.dp:=by
 unfold xK
 split
 ·exact q9 _ _ _
 ·rfl
theorem zC(ts:List V3):∀ (n:Nat) (f:PF) (s:PS),(run ts n f s).s.dp=s.dp
 | 0,f,s=>by
  have:(if s.code=0 then { s with code:=99 } else s).dp=s.dp:=by split <;> rfl
  rw[cO];exact this
 | n+1,f,s=>by
  have ih:=zC ts n
  cases f <;> (unfold run;repeat' split) <;> simp[mG,yB,ih,q9,zG,jO,j4,qZ,qUc,xW,iQ]
def kd(ns:List TN)(j:Int):Int:=match ns[j.toNat]? with | some m=>m.k | none=>0
def aD(ns:List TN)(x:TN):Prop:=yQ x=true∧∀ i j,x.kids[i]? = some j→kY x.k false i (kd ns j)=true
inductive y7 (ns:List TN):List Int→Nat→Nat→Prop
 | nil (lo:Nat):y7 ns [] lo lo
 | cons (lo qX hi:Nat) (x:TN) (ks:List Int):ns[qX]? = some x→aD ns x→y7 ns x.kids lo qX→y7 ns ks (qX+1) hi→y7 ns ((qX:Int)::ks) lo hi
theorem y7.le{ns:List TN}{ks:List Int}{lo hi:Nat}(h:y7 ns ks lo hi):lo≤hi:=by
 induction h with
 | nil=>exact Nat.le_refl _
 | cons lo qX hi x ks hx hg h1 h2 i1 i2=>omega
theorem y7.mem{ns:List TN}{ks:List Int}{lo hi:Nat}(h:y7 ns ks lo hi):∀ j∈ks,0≤j∧∃ m,ns[j.toNat]? = some m:=by
 induction h with
 | nil=>intro j hj;cases hj
 | cons lo qX hi x ks hx hg h1 h2 i1 i2=>
  intro j hj
  rcases List.mem_cons.1 hj with rfl | hj
  ·exact⟨by omega,x,by rw[Int.toNat_natCast];exact hx⟩
  ·exact i2 j hj
theorem qFq{ns ns':List TN}(h:ns <+: ns'){i:Nat}{m:TN}(hi:ns[i]? = some m):ns'[i]? = some m:=by
 obtain⟨t,rfl⟩:=h
 rw[List.getElem?_append_left (List.getElem?_eq_some_iff.1 hi).1];exact hi
theorem r7{ns:List TN}{j:Int}{m:TN}(h:ns[j.toNat]? = some m):kd ns j=m.k:=by unfold kd;rw[h]
theorem y7.kd{ns ns':List TN}{ks:List Int}{lo hi:Nat}(h:y7 ns ks lo hi)(hp:ns <+: ns'):∀ j∈ks,YtbgkfaclfnkloaaGreatDoor.kd ns' j=YtbgkfaclfnkloaaGreatDoor.kd ns j:=fun j hj=>by
 obtain⟨_,m,hm⟩:=h.mem j hj
 rw[r7 hm,r7 (qFq hp hm)]
theorem y7.mono{ns ns':List TN}{ks:List Int}{lo hi:Nat}(h:y7 ns ks lo hi)(hp:ns <+: ns'):y7 ns' ks lo hi:=by
 induction h with
 | nil lo=>exact .nil lo
 | cons lo qX hi x ks hx hg h1 h2 i1 i2=>
  exact .cons lo qX hi x ks (qFq hp hx) ⟨hg.1,fun i j hj=>by rw[h1.kd hp j (List.mem_of_getElem? hj)];exact hg.2 i j hj⟩ i1 i2
theorem y7.append{ns:List TN}{xs ys:List Int}{lo qX hi:Nat}(h:y7 ns xs lo qX)(k:y7 ns ys qX hi):y7 ns (xs++ys) lo hi:=by
 induction h with
 | nil=>exact k
 | cons lo m hi' x ks hx hg h1 h2 i1 i2=>exact .cons lo m hi x _ hx hg h1 (i2 k)
theorem pX{ts:List V3}{c:Int}{s:PS}(hc:c≠0):¬(u9 ts c s).code=0:=by
 unfold u9;split
 ·exact hc
 ·assumption
theorem nA{ts:List V3}{x:TN}{s:PS}{lo:Nat}(h0:(jZ ts x s).2.code=0)(hs:y7 s.ns x.kids lo s.ns.length)(hn:yQ x=true)(hk:∀ i j,x.kids[i]? = some j→kY x.k false i (kd s.ns j)=true) :
  y7 (jZ ts x s).2.ns [(jZ ts x s).1] lo (jZ ts x s).2.ns.length∧kd (jZ ts x s).2.ns (jZ ts x s).1=x.k:=by
 by_cases h:s.ns.length=200
 ·rw[jZ,if_pos h]at h0
  exact absurd h0 (pX (by decide))
 ·rw[jZ,if_neg h]
  have hx:(s.ns++[x])[s.ns.length]? = some x:=by simp
  have hp:s.ns <+: s.ns++[x]:=List.prefix_append _ _
  refine⟨?_,r7 (by rw[Int.toNat_natCast];exact hx)⟩
  have:=y7.cons (ns:=s.ns++[x]) lo s.ns.length (s.ns.length+1) x [] hx ⟨hn,fun i j hj=>by rw[hs.kd hp j (List.mem_of_getElem? hj)];exact hk i j hj⟩ (hs.mono hp) (.nil _)
  simpa using this
def xD(p:Int→Bool)(lo:Nat)(r:Int)(s:PS):Prop:=y7 s.ns [r] lo s.ns.length∧p (kd s.ns r)=true
def sO(p:Int→Bool)(lo:Nat)(ks:List Int)(s:PS):Prop:=y7 s.ns ks lo s.ns.length∧∀ j∈ks,p (kd s.ns j)=true
def aU(k:Int):Bool:=decide (1≤k)&&decide (k≤10)
def stB(k:Int):Bool:=decide (11≤k)&&decide (k≤19)
def toB(k:Int):Bool:=decide (11≤k)&&decide (k≤20)
def blB(k:Int):Bool:=k == 18
def fnB(k:Int):Bool:=k == 20
theorem xD.more{p:Int→Bool}{lo:Nat}{a b:Int}{s s':PS}{q:Int→Bool}(h:xD p lo a s)(hp:s.ns <+: s'.ns)(k:xD q s.ns.length b s'):y7 s'.ns [a,b] lo s'.ns.length∧p (kd s'.ns a)=true∧q (kd s'.ns b)=true:=
 ⟨(h.1.mono hp).append k.1,by rw[h.1.kd hp a (List.mem_singleton.2 rfl)];exact h.2,k.2⟩
theorem sO.more{p:Int→Bool}{lo:Nat}{ks:List Int}{b:Int}{s s':PS}(h:sO p lo ks s)(hp:s.ns <+: s'.ns)(k:xD p s.ns.length b s'):sO p lo (ks++[b]) s':=by
 refine⟨(h.1.mono hp).append k.1,fun j hj=>?_⟩
 rcases List.mem_append.1 hj with hj | hj
 ·rw[h.1.kd hp j hj];exact h.2 j hj
 ·rw[List.mem_singleton.1 hj];exact k.2
theorem sO.nil{p:Int→Bool}{s:PS}:sO p s.ns.length [] s:=⟨.nil _,fun j hj=>by cases hj⟩
theorem sO.same{p:Int→Bool}{lo:Nat}{ks:List Int}{s s':PS}(h:sO p lo ks s)(e:s'.ns=s.ns):sO p lo ks s':=by unfold sO;rw[e];exact h
theorem xD.same{p:Int→Bool}{lo:Nat}{r:Int}{s s':PS}(h:xD p lo r s)(e:s'.ns=s.ns):xD p lo r s':=by unfold xD;rw[e];exact h
theorem xD.imp{p q:Int→Bool}{lo:Nat}{r:Int}{s:PS}(h:xD p lo r s)(hpq:∀ k,p k=true→q k=true):xD q lo r s:=⟨h.1,hpq _ h.2⟩
theorem qN(s:PS):(qK s).ns=s.ns:=by unfold qK;rfl
theorem qGx(s:PS):(qK s).code=s.code:=by unfold qK;rfl
theorem j8(s:PS):(iG s).ns=s.ns:=by unfold iG;rfl
theorem sY(s:PS):(iG s).code=s.code:=by unfold iG;rfl
theorem iJ(ts:List V3)(c:Int)(s:PS):(u9 ts c s).ns=s.ns:=by unfold u9;split <;> rfl
theorem qO(ts:List V3)(t:List UInt8)(s:PS):(qJ ts t s).ns=s.ns:=by
 unfold qJ
 split
 ·split
  ·exact qN s
  ·exact iJ _ _ _
 ·rfl
theorem jH(ts:List V3)(n:Nat)(s:PS):(xK ts n s).ns=s.ns:=by
 unfold xK
 split
 ·exact qO _ _ _
 ·rfl
theorem qV(ts:List V3)(s:PS):(jN ts s).2.ns=s.ns:=by
 unfold jN
 split
 ·exact qN s
 ·exact iJ _ _ _
theorem qT(ts:List V3)(s:PS):(jS ts s).ns=s.ns:=by
 unfold jS
 split
 ·exact iJ _ _ _
 ·rfl
theorem qI.c0{s s':PS}(h:qI s s')(e:s'.code=0):s.code=0:=h.code e
theorem qBX{ts:List V3}{s:PS}(h:(qU ts s).k≠0):qU ts s∈ts:=by
 unfold qU at h ⊢
 split
 ·exact List.getElem_mem _
 ·rename_i hn
  rw[dif_neg hn]at h
  exact absurd rfl h
theorem eI{ts:List V3}(fE:∀ v∈ts,wL v.k v.t.data.toList=true){s:PS}(h:(qU ts s).k=1):vE (qU ts s).t=true:=by
 have:=fE _ (qBX (ts:=ts) (s:=s) (by rw[h];decide))
 rw[h]at this;exact this
theorem qM1{ts:List V3}(fE:∀ v∈ts,wL v.k v.t.data.toList=true){s:PS}(h:(qU ts s).k=4):kB (qU ts s).t.data.toList=true:=by
 have:=fE _ (qBX (ts:=ts) (s:=s) (by rw[h];decide))
 rw[h]at this;exact this
theorem bS{ts:List V3}(fE:∀ v∈ts,wL v.k v.t.data.toList=true){s:PS}(h:(jN ts s).2.code=0):vE (jN ts s).1=true:=by
 unfold jN at h ⊢
 split
 ·exact eI fE (by assumption)
 ·rename_i hn
  rw[if_neg hn]at h
  exact absurd h (pX (by decide))
theorem qJ8{ts:List V3}{s:PS}{t:List UInt8}(h:kA ts s t=true):(qU ts s).t.data.toList=t:=by
 unfold kA isV at h
 simp at h
 exact h.2
theorem qJ0(k:Int)(a b:Int)(h:k=8∨k=9):yQ ⟨k,0,em,[],[a,b]⟩=true:=by rcases h with rfl | rfl <;> rfl
theorem qFm(t:ByteArray)(a b:Int)(h:opB t.data.toList=true):yQ ⟨7,0,t,[],[a,b]⟩=true:=by
 show(true&&tB ⟨7,0,t,[],[a,b]⟩)=true
 have:tB ⟨7,0,t,[],[a,b]⟩=opB t.data.toList:=rfl
 rw[this,h];rfl
theorem wA(k:Int)(i:Nat)(kk:Int)(hk:k≠18∧k≠17∧k≠20∧k≠13∧k≠14)(h:aU kk=true):kY k false i kk=true:=by
 unfold kY
 rw[if_neg hk.1,if_neg (by omega),if_neg (by omega)]
 exact h
theorem qNA{p:Int→Prop}{a b:Int}{x:List Int}(hx:x=[a,b])(ha:p a)(hb:p b):∀ (i:Nat) (j:Int),x[i]? = some j→p j:=by
 subst hx
 intro i j hj
 match i,hj with
 | 0,hj=>cases hj;exact ha
 | 1,hj=>cases hj;exact hb
 | i+2,hj=>simp at hj
theorem qP4{ts:List V3}{n:Nat}{g:PF}{s:PS}{lo:Nat}{a k:Int}{t:ByteArray}(hk:k=7∨k=8∨k=9)(hn:∀ b,yQ ⟨k,0,t,[],[a,b]⟩=true)
  (ha:xD aU lo a s) (hg:(run ts n g (qK s)).s.code=0→xD aU (qK s).ns.length (run ts n g (qK s)).r (run ts n g (qK s)).s)
  (h0:(jZ ts ⟨k,0,t,[],[a,(run ts n g (qK s)).r]⟩ (run ts n g (qK s)).s).2.code=0) :
  xD aU lo (jZ ts ⟨k,0,t,[],[a,(run ts n g (qK s)).r]⟩ (run ts n g (qK s)).s).1 (jZ ts ⟨k,0,t,[],[a,(run ts n g (qK s)).r]⟩ (run ts n g (qK s)).s).2:=by
 have hc:(run ts n g (qK s)).s.code=0:=(qI.refl _).put.c0 h0
 have hb:=hg hc
 rw[qN]at hb
 have hp:s.ns <+: (run ts n g (qK s)).s.ns:=(j5 ts n g s (qK s) (qI.refl s).adv).ns
 obtain⟨h1,h2,h3⟩:=ha.more hp hb
 obtain⟨q1,q2⟩:=nA (lo:=lo) h0 h1 (hn _) (fun i j hj=>wA k i _ (by omega) (qNA (p:=fun j=>aU (kd (run ts n g (qK s)).s.ns j)=true) rfl h2 h3 i j hj))
 refine⟨q1,?_⟩
 rw[q2]
 rcases hk with rfl | rfl | rfl <;> rfl
def qE8(f:PF)(s:PS)(o:PO):Prop:=match f with
 | .expr | .and | .order | .sum | .prod | .sign | .first=>xD aU s.ns.length o.r o.s
 | .exprL a | .andL a | .orderL a | .sumL a | .prodL a=>∀ lo,xD aU lo a s→xD aU lo o.r o.s
 | .args ks=>∀ lo,sO aU lo ks s→sO aU lo o.ks o.s
 | .block=>xD blB s.ns.length o.r o.s
 | .blockL ks=>∀ lo,sO stB lo ks s→sO stB lo o.ks o.s
 | .stmt | .inner=>xD stB s.ns.length o.r o.s
 | .func=>xD fnB s.ns.length o.r o.s
 | .funcL nm=>nm.all vE=true→o.nm.all vE=true∧o.s.ns=s.ns
 | .topL ks=>∀ lo,sO toB lo ks s→sO toB lo o.ks o.s
theorem vQ{ts:List V3}{n:Nat}{f:PF}{s:PS}(h:(run ts n f s).s.code=0):s.code=0:=(j5 ts n f s s (qI.refl s)).c0 h
theorem kV{ts:List V3}{x:TN}{s:PS}(h:(jZ ts x s).2.code=0):s.code=0:=(qI.refl s).put.c0 h
theorem vS{ts:List V3}{t:List UInt8}{s:PS}(h:(qJ ts t s).code=0):s.code=0:=(qI.refl s).need.c0 h
theorem qP5{ts:List V3}{s:PS}(h:(jN ts s).2.code=0):s.code=0:=(qI.refl s).name.c0 h
theorem fK{ts:List V3}(n:Nat)(f:PF)(s:PS):s.ns <+: (run ts n f s).s.ns:=(j5 ts n f s s (qI.refl s)).ns
theorem cV{ts:List V3}{s:PS}{x:TN}(hk:x.kids=[])(hn:yQ x=true)(he:aU x.k=true)(h0:(jZ ts x s).2.code=0):xD aU s.ns.length (jZ ts x s).1 (jZ ts x s).2:=by
 obtain⟨q1,q2⟩:=nA (lo:=s.ns.length) h0 (by rw[hk];exact .nil _) hn (fun i j hj=>by rw[hk]at hj;simp at hj)
 exact⟨q1,by rw[q2];exact he⟩
theorem bU{ts:List V3}{s:PS}{k:Int}{t:ByteArray}{nm:List ByteArray}{r:Int}{lo:Nat}{p q:Int→Bool}(h:xD p lo r s)(hn:yQ ⟨k,0,t,nm,[r]⟩=true)(ht:∀ kk,p kk=true→kY k false 0 kk=true)(hq:q k=true)(h0:(jZ ts ⟨k,0,t,nm,[r]⟩ s).2.code=0) :
  xD q lo (jZ ts ⟨k,0,t,nm,[r]⟩ s).1 (jZ ts ⟨k,0,t,nm,[r]⟩ s).2:=by
 obtain⟨q1,q2⟩:=nA (lo:=lo) h0 h.1 hn (fun i j hj=>by
  match i,hj with
  | 0,hj=>cases hj;exact ht _ h.2
  | i+1,hj=>simp at hj)
 exact⟨q1,by rw[q2];exact hq⟩
theorem qEN{ts:List V3}{s:PS}{k:Int}{t:ByteArray}{a b:Int}{lo:Nat}{q:Int→Bool}(h:y7 s.ns [a,b] lo s.ns.length)(hn:yQ ⟨k,0,t,[],[a,b]⟩=true)(ha:kY k false 0 (kd s.ns a)=true)(hb:kY k false 1 (kd s.ns b)=true)(hq:q k=true)(h0:(jZ ts ⟨k,0,t,[],[a,b]⟩ s).2.code=0) :
  xD q lo (jZ ts ⟨k,0,t,[],[a,b]⟩ s).1 (jZ ts ⟨k,0,t,[],[a,b]⟩ s).2:=by
 obtain⟨q1,q2⟩:=nA (lo:=lo) h0 h hn (fun i j hj=>by
  match i,hj with
  | 0,hj=>cases hj;exact ha
  | 1,hj=>cases hj;exact hb
  | i+2,hj=>simp at hj)
 exact⟨q1,by rw[q2];exact hq⟩
theorem qGa{ts:List V3}{s:PS}{k:Int}{t:ByteArray}{ks:List Int}{lo:Nat}{p q:Int→Bool}(h:sO p lo ks s)(hn:yQ ⟨k,0,t,[],ks⟩=true)(ht:∀ i kk,p kk=true→kY k false i kk=true)(hq:q k=true)(h0:(jZ ts ⟨k,0,t,[],ks⟩ s).2.code=0) :
  xD q lo (jZ ts ⟨k,0,t,[],ks⟩ s).1 (jZ ts ⟨k,0,t,[],ks⟩ s).2:=by
 obtain⟨q1,q2⟩:=nA (lo:=lo) h0 h.1 hn (fun i j hj=>ht i _ (h.2 j (List.mem_of_getElem? hj)))
 exact⟨q1,by rw[q2];exact hq⟩
theorem qAN(k:Int)(t:ByteArray)(a:Int)(hk:k=11∨k=12)(h:vE t=true):yQ ⟨k,0,t,[],[a]⟩=true:=by
 rcases hk with rfl | rfl
 ·have:yQ ⟨11,0,t,[],[a]⟩=vE t:=rfl
  rw[this,h]
 ·have:yQ ⟨12,0,t,[],[a]⟩=vE t:=rfl
  rw[this,h]
theorem lN(k:Int)(a:Int)(hk:k=15∨k=16∨k=19):yQ ⟨k,0,em,[],[a]⟩=true:=by rcases hk with rfl | rfl | rfl <;> rfl
theorem qMZ(t:ByteArray)(a b:Int)(h:vE t=true):yQ ⟨17,0,t,[],[a,b]⟩=true:=by
 have:yQ ⟨17,0,t,[],[a,b]⟩=vE t:=rfl
 rw[this,h]
theorem qK2(t:ByteArray)(nm:List ByteArray)(a:Int)(h:vE t=true)(hn:nm.all vE=true):yQ ⟨20,0,t,nm,[a]⟩=true:=by
 have:yQ ⟨20,0,t,nm,[a]⟩=(nm.all vE&&vE t):=by
  unfold yQ tB
  simp[mB,qEO]
 rw[this,h,hn];rfl
theorem qL3(t:ByteArray)(ks:List Int)(h:vE t=true):yQ ⟨10,0,t,[],ks⟩=true:=by
 have:yQ ⟨10,0,t,[],ks⟩=vE t:=rfl
 rw[this,h]
theorem qCw(ks:List Int):yQ ⟨18,0,em,[],ks⟩=true:=rfl
theorem qLx(t:ByteArray)(h:vE t=true):yQ ⟨5,0,t,[],[]⟩=true:=by
 have:yQ ⟨5,0,t,[],[]⟩=vE t:=rfl
 rw[this,h]
theorem qLD(t:ByteArray)(h:kB t.data.toList=true):yQ ⟨2,0,t,[],[]⟩=true:=by
 have:yQ ⟨2,0,t,[],[]⟩=kB t.data.toList:=rfl
 rw[this,h]
theorem qOg(n:Int)(h0:0≤n)(h1:n≤2147483647):yQ ⟨1,n,em,[],[]⟩=true:=by
 have:yQ ⟨1,n,em,[],[]⟩=(decide (0≤n)&&decide (n≤2147483647)&&true&&true):=rfl
 rw[this,decide_eq_true h0,decide_eq_true h1];rfl
theorem qLN(t:ByteArray)(a:Int)(h:t.data.toList=[33]∨t.data.toList=[45]):yQ ⟨6,0,t,[],[a]⟩=true:=by
 have:yQ ⟨6,0,t,[],[a]⟩=((t.data.toList == [33])||(t.data.toList == [45])):=rfl
 rw[this]
 rcases h with h | h <;> rw[h] <;> rfl
theorem qOo(i:Nat)(kk:Int)(h:stB kk=true):kY 18 false i kk=true:=by
 unfold kY;rw[if_pos rfl]
 show(stB kk||_)=true
 rw[h];rfl
theorem sE(k:Int)(i:Nat)(kk:Int)(hk:k=17∨k=20∨((k=13∨k=14)∧0<i))(h:blB kk=true):kY k false i kk=true:=by
 unfold kY
 rw[if_neg (by omega)]
 by_cases h1:k=17∨k=20
 ·rw[if_pos h1];exact h
 ·rw[if_neg h1,if_pos (by omega)];exact h
theorem qCF(k:Int)(kk:Int)(hk:k=13∨k=14)(h:aU kk=true):kY k false 0 kk=true:=by
 unfold kY
 rw[if_neg (by omega),if_neg (by omega),if_neg (by omega)];exact h
theorem qLM{ts:List V3}{s:PS}{k:Int}{a b c:Int}{lo:Nat}{q:Int→Bool}(h:y7 s.ns [a,b,c] lo s.ns.length)(hn:yQ ⟨k,0,em,[],[a,b,c]⟩=true)(ha:kY k false 0 (kd s.ns a)=true)(hb:kY k false 1 (kd s.ns b)=true)(hc:kY k false 2 (kd s.ns c)=true)(hq:q k=true)(h0:(jZ ts ⟨k,0,em,[],[a,b,c]⟩ s).2.code=0) :
  xD q lo (jZ ts ⟨k,0,em,[],[a,b,c]⟩ s).1 (jZ ts ⟨k,0,em,[],[a,b,c]⟩ s).2:=by
 obtain⟨q1,q2⟩:=nA (lo:=lo) h0 h hn (fun i j hj=>by
  match i,hj with
  | 0,hj=>cases hj;exact ha
  | 1,hj=>cases hj;exact hb
  | 2,hj=>cases hj;exact hc
  | i+3,hj=>simp at hj)
 exact⟨q1,by rw[q2];exact hq⟩
theorem qNf{ts:List V3}{s:PS}(h:kA ts s [60]=true∨kA ts s [61,61]=true∨kA ts s [43]=true∨kA ts s [45]=true∨kA ts s [42]=true∨kA ts s [47]=true∨kA ts s [37]=true):opB (qU ts s).t.data.toList=true:=by
 rcases h with h | h | h | h | h | h | h <;> rw[qJ8 h] <;> rfl
theorem qT5(k:Int)(h:blB k=true):stB k=true:=by
 unfold blB at h
 rw[eq_of_beq h];rfl
theorem qT1(k:Int)(h:stB k=true):toB k=true:=by
 unfold stB at h;unfold toB;simp at h ⊢;omega
theorem qUa(k:Int)(h:fnB k=true):toB k=true:=by
 unfold fnB at h
 rw[eq_of_beq h];rfl
theorem qNN{ts:List V3}(fE:∀ v∈ts,wL v.k v.t.data.toList=true){s:PS}(h:(qU ts s).k=3):yQ ⟨1,(cE (qU ts s).t.data.toList).1,em,[],[]⟩=true:=by
 have ht:=fE _ (qBX (ts:=ts) (s:=s) (by rw[h];decide))
 rw[h]at ht
 generalize (qU ts s).t.data.toList=l at ht
 have h2:((mD l).2&&decide ((mD l).1≤2147483647))=true:=ht
 rw[Bool.and_eq_true]at h2
 obtain⟨h3,h4⟩:=h2
 have h5:=of_decide_eq_true h4
 obtain⟨cB,hl,kE,_,he⟩:=qCz h3
 have hn:cE l=mD l:=by
  unfold cE
  refine if_neg fun hh=>?_
  cases l with
  | nil=>exact cB rfl
  | cons c r=>
   have:c=45:=by simpa using hh
   have hc:=kE c (by simp)
   rw[this]at hc
   exact absurd hc (by decide)
 rw[hn]
 have h0:0≤(mD l).1:=by rw[he];exact(qLp l.length l rfl kE).1
 exact qOg _ h0 h5
theorem qLo{ts:List V3}(fE:∀ v∈ts,wL v.k v.t.data.toList=true)(n:Nat)(ih:∀ (f:PF) (s:PS),(run ts n f s).s.code=0→qE8 f s (run ts n f s))(s:PS)(h0:(run ts (n+1) .inner s).s.code=0):xD stB s.ns.length (run ts (n+1) .inner s).r (run ts (n+1) .inner s).s:=by
 have HE:∀ s,(run ts n .expr s).s.code=0→xD aU s.ns.length (run ts n .expr s).r (run ts n .expr s).s:=fun s h=>ih .expr s h
 have HB:∀ s,(run ts n .block s).s.code=0→xD blB s.ns.length (run ts n .block s).r (run ts n .block s).s:=fun s h=>ih .block s h
 unfold run at h0 ⊢
 split at h0
 ·rename_i hd
  rw[if_pos hd]
  simp only[yB]at h0 ⊢
  have c1:=vS (kV h0)
  have h1:=HE _ c1
  rw[qO,qV,qN]at h1
  exact bU (h1.same (qO _ _ _)) (qAN 11 _ _ (.inl rfl) (bS fE (vS (vQ c1)))) (fun kk h=>wA 11 0 kk (by decide) h) rfl h0
 rename_i hd
 rw[if_neg hd]
 clear hd
 split at h0
 ·rename_i hd
  rw[if_pos hd]
  split at h0
  ·rename_i he
   rw[if_pos he]
   simp only[yB]at h0 ⊢
   have c3:=kV h0
   have c2:=vQ c3
   rw[qGx]at c2
   have c1:=vS (vQ c2)
   have h1:=HE _ c1
   have h2:=HB _ c2
   have h3:=HB _ c3
   rw[qO,qN]at h1
   rw[qO]at h2
   rw[qN]at h3
   obtain⟨g1,g2,g3⟩:=h1.more (by have:=fK (ts:=ts) n .block (qJ ts [41] (run ts n .expr (qJ ts [40] (qK s))).s);rw[qO]at this;exact this) h2
   have hp:(run ts n .block (qJ ts [41] (run ts n .expr (qJ ts [40] (qK s))).s)).s.ns <+: (run ts n .block (qK (run ts n .block (qJ ts [41] (run ts n .expr (qJ ts [40] (qK s))).s)).s)).s.ns:=(j5 ts n .block _ _ (qI.refl _).adv).ns
   have k1:=(g1.mono hp).append h3.1
   refine qLM (by simpa using k1) rfl (qCF 13 _ (.inl rfl) ?_) (sE 13 1 _ (by omega) ?_) (sE 13 2 _ (by omega) h3.2) rfl h0
   ·rw[g1.kd hp _ (by simp)];exact g2
   ·rw[g1.kd hp _ (by simp)];exact g3
  ·rename_i he
   rw[if_neg he]
   simp only[yB]at h0 ⊢
   have c2:=kV h0
   have c1:=vS (vQ c2)
   have h1:=HE _ c1
   have h2:=HB _ c2
   rw[qO,qN]at h1
   rw[qO]at h2
   obtain⟨g1,g2,g3⟩:=h1.more (by have:=fK (ts:=ts) n .block (qJ ts [41] (run ts n .expr (qJ ts [40] (qK s))).s);rw[qO]at this;exact this) h2
   exact qEN g1 rfl (qCF 13 _ (.inl rfl) g2) (sE 13 1 _ (by omega) g3) rfl h0
 rename_i hd
 rw[if_neg hd]
 clear hd
 split at h0
 ·rename_i hd
  rw[if_pos hd]
  simp only[yB]at h0 ⊢
  have c2:=kV h0
  have c1:=vS (vQ c2)
  have h1:=HE _ c1
  have h2:=HB _ c2
  rw[qO,qN]at h1
  rw[qO]at h2
  obtain⟨g1,g2,g3⟩:=h1.more (by have:=fK (ts:=ts) n .block (qJ ts [41] (run ts n .expr (qJ ts [40] (qK s))).s);rw[qO]at this;exact this) h2
  exact qEN g1 rfl (qCF 14 _ (.inr rfl) g2) (sE 14 1 _ (by omega) g3) rfl h0
 rename_i hd
 rw[if_neg hd]
 clear hd
 split at h0
 ·rename_i hd
  rw[if_pos hd]
  simp only[yB]at h0 ⊢
  have h1:=HE _ (vS (kV h0))
  rw[qN]at h1
  exact bU (h1.same (qO _ _ _)) (lN 15 _ (by omega)) (fun kk h=>wA 15 0 kk (by decide) h) rfl h0
 rename_i hd
 rw[if_neg hd]
 clear hd
 split at h0
 ·rename_i hd
  rw[if_pos hd]
  simp only[yB]at h0 ⊢
  have h1:=HE _ (vS (kV h0))
  rw[qN]at h1
  exact bU (h1.same (qO _ _ _)) (lN 16 _ (by omega)) (fun kk h=>wA 16 0 kk (by decide) h) rfl h0
 rename_i hd
 rw[if_neg hd]
 clear hd
 split at h0
 ·rename_i hd
  rw[if_pos hd]
  split at h0
  ·rename_i he
   rw[if_pos he]
   simp only[yB]at h0 ⊢
   have c2:=kV h0
   have c1:=vQ c2
   have cn:=vS c1
   have h1:=HB _ (vS (vS (qP5 cn)))
   have h2:=HB _ c2
   rw[qN]at h1
   rw[qO,qV,qO,qO]at h2
   obtain⟨g1,g2,g3⟩:=h1.more (by have:=fK (ts:=ts) n .block (qJ ts [41] (jN ts (qJ ts [40] (qJ ts [99,97,116,99,104] (run ts n .block (qK s)).s))).2);rw[qO,qV,qO,qO]at this;exact this) h2
   exact qEN g1 (qMZ _ _ _ (bS fE cn)) (sE 17 0 _ (by omega) g2) (sE 17 1 _ (by omega) g3) rfl h0
  ·rename_i he
   simp only[yB]at h0
   exact absurd (vS (vQ (kV h0))) he
 rename_i hd
 rw[if_neg hd]
 clear hd
 split at h0
 ·rename_i hd
  rw[if_pos hd]
  exact(HB _ h0).imp qT5
 rename_i hd
 rw[if_neg hd]
 clear hd
 split at h0
 ·rename_i hd
  exact absurd h0 hd
 rename_i hd
 rw[if_neg hd]
 clear hd
 split at h0
 ·rename_i hd
  rw[if_pos hd]
  simp only[yB]at h0 ⊢
  have h1:=HE _ (vS (kV h0))
  rw[qN,qN]at h1
  refine bU (h1.same (qO _ _ _)) (qAN 12 _ _ (.inr rfl) (eI fE ?_)) (fun kk h=>wA 12 0 kk (by decide) h) rfl h0
  unfold sF at hd
  simp at hd
  exact hd.1
 ·rename_i hd
  rw[if_neg hd]
  simp only[yB]at h0 ⊢
  have h1:=HE _ (vS (kV h0))
  exact bU (h1.same (qO _ _ _)) (lN 19 _ (by omega)) (fun kk h=>wA 19 0 kk (by decide) h) rfl h0
theorem qFi{ts:List V3}(fE:∀ v∈ts,wL v.k v.t.data.toList=true)(n:Nat):∀ (f:PF) (s:PS),(run ts n f s).s.code=0→qE8 f s (run ts n f s):=by
 induction n with
 | zero=>
  intro f s h0
  rw[cO]at h0
  by_cases h:s.code=0
  ·rw[if_pos h]at h0;exact absurd h0 (show ¬(99:Int)=0 by decide)
  ·rw[if_neg h]at h0;exact absurd h0 h
 | succ n ih=>
  have qHH:∀ {g:PF} {s:PS} {lo:Nat} {a k:Int} {t:ByteArray} {L:Int→PF},(k=7∨k=8∨k=9)→(∀ b,yQ ⟨k,0,t,[],[a,b]⟩=true)→(∀ s',(run ts n g s').s.code=0→xD aU s'.ns.length (run ts n g s').r (run ts n g s').s)→(∀ b s',(run ts n (L b) s').s.code=0→∀ lo,xD aU lo b s'→xD aU lo (run ts n (L b) s').r (run ts n (L b) s').s)→xD aU lo a s→
    (run ts n (L (jZ ts ⟨k,0,t,[],[a,(run ts n g (qK s)).r]⟩ (run ts n g (qK s)).s).1) (jZ ts ⟨k,0,t,[],[a,(run ts n g (qK s)).r]⟩ (run ts n g (qK s)).s).2).s.code=0→
    xD aU lo (run ts n (L (jZ ts ⟨k,0,t,[],[a,(run ts n g (qK s)).r]⟩ (run ts n g (qK s)).s).1) (jZ ts ⟨k,0,t,[],[a,(run ts n g (qK s)).r]⟩ (run ts n g (qK s)).s).2).r (run ts n (L (jZ ts ⟨k,0,t,[],[a,(run ts n g (qK s)).r]⟩ (run ts n g (qK s)).s).1) (jZ ts ⟨k,0,t,[],[a,(run ts n g (qK s)).r]⟩ (run ts n g (qK s)).s).2).s:=by
   intro g s lo a k t L hk hn hg hL ha h0
   exact hL _ _ h0 lo (qP4 hk hn ha (hg (qK s)) (vQ h0))
  intro f s h0
  cases f with
  | expr=>
   unfold run at h0 ⊢
   split at h0
   ·rename_i hd
    rw[if_pos hd]
    simp only[mG,sY]at h0 ⊢
    have h1:=ih _ _ (vQ h0)
    rw[qE8,qT]at h1
    exact(ih _ _ h0 _ h1).same (j8 _)
   ·rename_i hd
    simp only[mG,sY]at h0
    exact absurd h0 hd
  | and=>
   unfold run at h0 ⊢
   exact ih _ _ h0 _ (ih _ _ (vQ h0))
  | order=>
   unfold run at h0 ⊢
   exact ih _ _ h0 _ (ih _ _ (vQ h0))
  | sum=>
   unfold run at h0 ⊢
   exact ih _ _ h0 _ (ih _ _ (vQ h0))
  | prod=>
   unfold run at h0 ⊢
   exact ih _ _ h0 _ (ih _ _ (vQ h0))
  | exprL a=>
   intro lo ha
   unfold run at h0 ⊢
   split at h0
   ·rename_i hd
    rw[if_pos hd]
    exact qHH (L:=.exprL) (.inr (.inr rfl)) (fun b=>qJ0 9 a b (.inr rfl)) (fun s' h=>ih .and s' h) (fun b s' h=>ih (.exprL b) s' h) ha h0
   ·rename_i hd
    rw[if_neg hd];exact ha
  | andL a=>
   intro lo ha
   unfold run at h0 ⊢
   split at h0
   ·rename_i hd
    rw[if_pos hd]
    exact qHH (L:=.andL) (.inr (.inl rfl)) (fun b=>qJ0 8 a b (.inl rfl)) (fun s' h=>ih .order s' h) (fun b s' h=>ih (.andL b) s' h) ha h0
   ·rename_i hd
    rw[if_neg hd];exact ha
  | orderL a=>
   intro lo ha
   unfold run at h0 ⊢
   split at h0
   ·rename_i hd
    rw[if_pos hd]
    exact qHH (L:=.orderL) (.inl rfl) (fun b=>qFm _ a b (qNf (by rcases hd.2 with h | h <;> simp[h]))) (fun s' h=>ih .sum s' h) (fun b s' h=>ih (.orderL b) s' h) ha h0
   ·rename_i hd
    rw[if_neg hd];exact ha
  | sumL a=>
   intro lo ha
   unfold run at h0 ⊢
   split at h0
   ·rename_i hd
    rw[if_pos hd]
    exact qHH (L:=.sumL) (.inl rfl) (fun b=>qFm _ a b (qNf (by rcases hd.2 with h | h <;> simp[h]))) (fun s' h=>ih .prod s' h) (fun b s' h=>ih (.sumL b) s' h) ha h0
   ·rename_i hd
    rw[if_neg hd];exact ha
  | prodL a=>
   intro lo ha
   unfold run at h0 ⊢
   split at h0
   ·rename_i hd
    rw[if_pos hd]
    exact qHH (L:=.prodL) (.inl rfl) (fun b=>qFm _ a b (qNf (by rcases hd.2 with h | h | h <;> simp[h]))) (fun s' h=>ih .sign s' h) (fun b s' h=>ih (.prodL b) s' h) ha h0
   ·rename_i hd
    rw[if_neg hd];exact ha
  | sign=>
   unfold run at h0 ⊢
   split at h0
   ·rename_i hd
    rw[if_pos hd]
    split at h0
    ·rename_i he
     rw[if_pos he]
     simp only[yB]at h0 ⊢
     have h1:=kV h0
     rw[sY]at h1
     have h2:xD aU (jS ts (qK s)).ns.length _ _:=ih .sign _ h1
     rw[qT,qN]at h2
     exact bU (h2.same (j8 _)) (qLN _ _ (by rcases hd.2 with h | h <;> simp[qJ8 h])) (fun kk h=>wA 6 0 kk (by decide) h) rfl h0
    ·rename_i he
     simp only[mG,sY]at h0
     exact absurd h0 he
   ·rename_i hd
    rw[if_neg hd]
    exact ih .first s h0
  | first=>
   unfold run at h0 ⊢
   split at h0
   ·rename_i hd;exact absurd h0 hd
   rename_i hd
   rw[if_neg hd]
   split at h0
   ·rename_i h3
    rw[if_pos h3]
    simp only[yB]at h0 ⊢
    have:=cV rfl (qNN fE h3) rfl h0
    rw[qN]at this;exact this
   rename_i h3
   rw[if_neg h3]
   split at h0
   ·rename_i h4
    rw[if_pos h4]
    simp only[yB]at h0 ⊢
    have:=cV rfl (qLD _ (qM1 fE h4)) rfl h0
    rw[qN]at this;exact this
   rename_i h4
   rw[if_neg h4]
   split at h0
   ·rename_i h5
    rw[if_pos h5]
    simp only[yB]at h0 ⊢
    have:=cV rfl (show yQ ⟨3,1,em,[],[]⟩=true from rfl) rfl h0
    rw[qN]at this;exact this
   rename_i h5
   rw[if_neg h5]
   split at h0
   ·rename_i h5
    rw[if_pos h5]
    simp only[yB]at h0 ⊢
    have:=cV rfl (show yQ ⟨3,0,em,[],[]⟩=true from rfl) rfl h0
    rw[qN]at this;exact this
   rename_i h5
   rw[if_neg h5]
   split at h0
   ·rename_i h5
    rw[if_pos h5]
    simp only[yB]at h0 ⊢
    have:=cV rfl (show yQ ⟨4,0,em,[],[]⟩=true from rfl) rfl h0
    rw[qN]at this;exact this
   rename_i h5
   rw[if_neg h5]
   split at h0
   ·rename_i h5
    rw[if_pos h5]
    simp only[mG]at h0 ⊢
    have h1:xD aU (qK s).ns.length _ _:=ih .expr _ (vS h0)
    rw[qN]at h1
    exact h1.same (qO _ _ _)
   rename_i h5
   rw[if_neg h5]
   split at h0
   ·rename_i h1
    rw[if_pos h1]
    split at h0
    ·rename_i h6
     rw[if_pos h6]
     simp only[yB]at h0 ⊢
     have h2:sO aU (qK (qK s)).ns.length _ _:=ih (.args []) _ (kV h0) _ .nil
     rw[qN,qN]at h2
     exact qGa h2 (qL3 _ _ (eI fE h1)) (fun i kk h=>wA 10 i kk (by decide) h) rfl h0
    ·rename_i h6
     rw[if_neg h6]
     simp only[yB]at h0 ⊢
     have:=cV rfl (qLx _ (eI fE h1)) rfl h0
     rw[qN]at this;exact this
   ·simp only[mG]at h0
    exact absurd h0 (pX (by decide))
  | args ks=>
   intro lo ha
   unfold run at h0 ⊢
   split at h0
   ·rename_i hd
    rw[if_pos hd]
    split at h0
    ·rename_i he
     rw[if_pos he]
     exact ha.same (qN s)
    ·rename_i he
     rw[if_neg he]
     have fJ:=jH ts ks.length s
     have h1:xD aU (xK ts ks.length s).ns.length _ _:=ih .expr _ (vQ h0)
     exact ih _ _ h0 lo ((ha.same fJ).more (fK n _ _) h1)
   ·rename_i hd
    rw[if_neg hd];exact ha
  | block=>
   unfold run at h0 ⊢
   simp only[yB]at h0 ⊢
   have h2:sO stB (qJ ts [123] s).ns.length _ _:=ih (.blockL []) _ (kV h0) _ .nil
   rw[qO]at h2
   exact qGa h2 (qCw _) (fun i kk h=>qOo i kk h) rfl h0
  | blockL ks=>
   intro lo ha
   unfold run at h0 ⊢
   split at h0
   ·rename_i hd
    rw[if_pos hd]
    split at h0
    ·rename_i he
     rw[if_pos he]
     exact ha.same (qN s)
    ·rename_i he
     rw[if_neg he]
     exact ih _ _ h0 lo (ha.more (fK n _ _) (ih .stmt _ (vQ h0)))
   ·rename_i hd
    rw[if_neg hd];exact ha
  | stmt=>
   unfold run at h0 ⊢
   split at h0
   ·rename_i hd
    rw[if_pos hd]
    simp only[mG,sY]at h0 ⊢
    have h1:xD stB (jS ts s).ns.length _ _:=ih .inner _ h0
    rw[qT]at h1
    exact h1.same (j8 _)
   ·rename_i hd
    simp only[mG,sY]at h0
    exact absurd h0 hd
  | func=>
   unfold run at h0 ⊢
   simp only[yB]at h0 ⊢
   have h1:xD blB _ _ _:=ih .block _ (kV h0)
   have h2:=vQ (kV h0)
   obtain⟨h3,h4⟩:=ih (.funcL []) _ h2 rfl
   rw[h4,qO,qV]at h1
   exact bU h1 (qK2 _ _ _ (bS fE (vS (vQ h2))) h3) (fun kk h=>sE 20 0 kk (.inr (.inl rfl)) h) rfl h0
  | funcL nm=>
   intro ha
   unfold run at h0 ⊢
   split at h0
   ·rename_i hd
    rw[if_pos hd]
    split at h0
    ·rename_i he
     rw[if_pos he]
     exact⟨ha,qN s⟩
    ·rename_i he
     rw[if_neg he]
     have fJ:=jH ts nm.length s
     split at h0
     ·rename_i hf
      rw[if_pos hf]
      obtain⟨h1,h2⟩:=ih _ _ h0 (by rw[List.all_append,ha];simp[bS fE (vQ h0)])
      exact⟨h1,by rw[h2,qV,fJ]⟩
     ·rename_i hf
      rw[if_neg hf]
      obtain⟨h1,h2⟩:=ih _ _ h0 ha
      exact⟨h1,by rw[h2,fJ]⟩
   ·rename_i hd
    rw[if_neg hd];exact⟨ha,rfl⟩
  | topL ks=>
   intro lo ha
   unfold run at h0 ⊢
   split at h0
   ·rename_i hd
    rw[if_pos hd]
    split at h0
    ·rename_i he
     rw[if_pos he]
     have h1:xD fnB (qK s).ns.length _ _:=ih .func _ (vQ h0)
     rw[qN]at h1
     exact ih _ _ h0 lo (ha.more (j5 ts n _ s _ (qI.refl s).adv).ns (h1.imp qUa))
    ·rename_i he
     rw[if_neg he]
     have h1:xD stB _ _ _:=ih .stmt _ (vQ h0)
     exact ih _ _ h0 lo (ha.more (fK n _ _) (h1.imp qT1))
   ·rename_i hd
    rw[if_neg hd];exact ha
  | inner=>exact qLo fE n ih s h0
def qM(s:PS):Prop:=s.ns.length≤200
theorem qM.same{s s':PS}(h:qM s)(e:s'.ns=s.ns):qM s':=by unfold qM;rw[e];exact h
theorem qM.put{ts:List V3}{x:TN}{s:PS}(h:qM s):qM (jZ ts x s).2:=by
 unfold jZ
 split
 ·exact h.same (iJ _ _ _)
 ·rename_i hn
  unfold qM at h ⊢
  simp;omega
theorem qEI(ts:List V3)(n:Nat):∀ (f:PF) (s:PS),qM s→qM (run ts n f s).s:=by
 induction n with
 | zero=>
  intro f s h
  rw[cO]
  exact h.same (by show(if s.code=0 then { s with code:=99 } else s).ns=s.ns;split <;> rfl)
 | succ n ih=>
  intro f s h
  cases f <;> (unfold run;repeat' split) <;> (try simp only[mG,yB]) <;> repeat (first | exact h | refine qM.same ?_ (j8 _) | apply qM.put | refine qM.same ?_ (qO _ _ _) | refine qM.same ?_ (jH _ _ _) | refine qM.same ?_ (qV _ _) | refine qM.same ?_ (qN _) | apply ih | refine qM.same ?_ (qT _ _) | refine qM.same ?_ (iJ _ _ _))
theorem y7.vis{ns:List TN}{root:Nat}{ks:List Int}{lo hi:Nat}(h:y7 ns ks lo hi)(hr:hi≤root):∃ l d,Vis ns ks l d∧l.Nodup∧(∀ x,x∈l↔lo≤x∧x<hi)∧∀ x∈l,qRa ns (root:Int) x:=by
 induction h with
 | nil lo=>exact⟨[],0,.nil,by simp,fun x=>⟨fun h=>(by cases h),fun h=>(by omega)⟩,fun x h=>(by cases h)⟩
 | cons lo qX hi x ks hx hg h1 h2 i1 i2=>
  have hm:=h2.le
  have hlo:=h1.le
  obtain⟨l1,d1,v1,n1,m1,g1⟩:=i1 (by omega)
  obtain⟨l2,d2,v2,n2,m2,g2⟩:=i2 hr
  have hv:=Vis.cons (ns:=ns) (qX:Int) x ks l1 l2 d1 d2 (by omega) (by rw[Int.toNat_natCast];exact hx) v1 v2
  rw[Int.toNat_natCast]at hv
  refine⟨_,_,hv,?_,?_,?_⟩
  ·rw[List.nodup_cons]
   refine⟨fun xC=>?_,?_⟩
   ·rcases List.mem_append.1 xC with xC | xC
    ·have:=(m1 qX).1 xC;omega
    ·have:=(m2 qX).1 xC;omega
   ·rw[List.nodup_append]
    refine⟨n1,n2,fun a ha b hb e=>?_⟩
    subst e
    have:=(m1 a).1 ha
    have:=(m2 a).1 hb
    omega
  ·intro y
   rw[List.mem_cons,List.mem_append,m1,m2]
   omega
  ·intro y hy
   rcases List.mem_cons.1 hy with rfl | hy
   ·refine⟨x,hx,hg.1,fun i j hj=>?_⟩
    obtain⟨hj0,m,hjm⟩:=h1.mem j (List.mem_of_getElem? hj)
    refine⟨m,hj0,hjm,?_⟩
    have:=hg.2 i j hj
    rw[r7 hjm]at this
    rw[decide_eq_false (by omega)]
    exact this
   ·rcases List.mem_append.1 hy with hy | hy
    ·exact g1 y hy
    ·exact g2 y hy
theorem qLJ(i:Nat)(kk:Int)(h:toB kk=true):kY 18 true i kk=true:=by
 unfold kY;rw[if_pos rfl]
 unfold toB at h
 simp at h ⊢
 omega
def vU(ts:List V3)(n:Nat):Int×PS:=jZ ts ⟨18,0,em,[],(run ts n (.topL []) ⟨0,[],0,0,0⟩).ks⟩ (run ts n (.topL []) ⟨0,[],0,0,0⟩).s
theorem qIz{ts:List V3}(fE:∀ v∈ts,wL v.k v.t.data.toList=true)(n:Nat)(h0:(vU ts n).2.code=0):gI (vU ts n).2.ns (vU ts n).1:=by
 unfold vU at h0 ⊢
 have c1:=kV h0
 have hA:sO toB 0 _ _:=qFi fE n (.topL []) _ c1 0 (sO.nil (s:=⟨0,[],0,0,0⟩))
 have hf:qM (run ts n (.topL []) ⟨0,[],0,0,0⟩).s:=qEI ts n _ _ (by show(0:Nat)≤200;omega)
 generalize run ts n (.topL []) ⟨0,[],0,0,0⟩=o at *
 have nI:qM (jZ ts ⟨18,0,em,[],o.ks⟩ o.s).2:=hf.put
 unfold qM at nI
 have hl:¬o.s.ns.length=200:=fun e=>by
  rw[jZ,if_pos e]at h0
  exact absurd h0 (pX (by decide))
 rw[jZ,if_neg hl]at nI ⊢
 simp only at nI ⊢
 generalize hx:(⟨18,0,em,[],o.ks⟩:TN)=x at *
 have hp:o.s.ns <+: o.s.ns++[x]:=List.prefix_append _ _
 have dD:(o.s.ns++[x])[o.s.ns.length]? = some x:=by simp
 have qVY:x.k=18:=by rw[←hx]
 have a8:x.kids=o.ks:=by rw[←hx]
 obtain⟨l,d,v,nd,mm,gg⟩:=(hA.1.mono hp).vis (root:=o.s.ns.length) (Nat.le_refl _)
 have hv:=Vis.cons (ns:=o.s.ns++[x]) (o.s.ns.length:Int) x [] l [] d 0 (by omega) (by rw[Int.toNat_natCast];exact dD) (by rw[a8];exact v) .nil
 rw[Int.toNat_natCast,List.append_nil]at hv
 refine⟨_,_,nI,⟨hv,?_,?_,?_⟩,⟨x,by rw[Int.toNat_natCast];exact dD,qVY⟩,?_⟩
 ·rw[List.nodup_cons]
  exact⟨fun h=>by have:=(mm _).1 h;omega,nd⟩
 ·intro y _ h;cases h
 ·intro y hy
  rcases List.mem_cons.1 hy with rfl | hy
  ·refine⟨x,dD,by rw[←hx];exact qCw _,fun i j hj=>?_⟩
   rw[a8]at hj
   have hjm:=List.mem_of_getElem? hj
   obtain⟨hj0,m,hm⟩:=(hA.1.mono hp).mem j hjm
   refine⟨m,hj0,hm,?_⟩
   rw[qVY,decide_eq_true rfl]
   apply qLJ
   have:=hA.2 j hjm
   rw[←hA.1.kd hp j hjm,r7 hm]at this
   exact this
  ·exact gg y hy
 ·intro i hi
  rw[List.length_append,List.length_singleton]at hi
  rw[List.mem_cons,mm]
  omega
end
end Go.Proofs.YtbgkfaclfnkloaaGreatDoor
