import Derived.Test.YtbgkfaclfnkloaaGreatDoorRows
import Derived.WalkKit
import Derived.WalkSpells
import Derived.WalkLawsBesides
namespace Go.Proofs.YtbgkfaclfnkloaaGreatDoor
set_option linter.all false
set_option maxHeartbeats 4000000
set_option maxRecDepth 100000
section
open Go.RowKit
def mU(c:Int):Bool:=(decide (97≤c)&&decide (c≤122))||(decide (65≤c)&&decide (c≤90))||decide (c=95)
def xM(c:Int):Bool:=decide (48≤c)&&decide (c≤57)
theorem qC{p:Prop}(h:p):Hid p:=h
theorem qA{p:Prop}(h:Hid p):p:=h
theorem jL{a b:Bool}(h:a=b):Ending.returned (.bool a)=.returned (.bool b):=by rw[h]
theorem fL(c:Int)(w:World) :
  Calls Tryz.prog 150 #[.int .u8 c] w fun e w'=>e=.returned (.bool (mU c))∧w'=w:=by
 go_enter Tryz.func150,Tryz.ntmps150
 go_wp2
 all_goals
  go_ret
  refine⟨jL ?_,rfl⟩
  rw[Bool.eq_iff_iff]
  simp[mU] <;> omega
theorem s8(c:Int)(w:World) :
  Calls Tryz.prog 151 #[.int .u8 c] w fun e w'=>e=.returned (.bool (xM c))∧w'=w:=by
 go_enter Tryz.func151,Tryz.ntmps151
 go_wp2
 all_goals
  go_ret
  refine⟨jL ?_,rfl⟩
  rw[Bool.eq_iff_iff]
  simp[xM] <;> omega
theorem qW(c:Int)(w:World) :
  Calls Tryz.prog 127 #[.int .u8 c] w fun e w'=>e=.returned (.bool (mU c))∧w'=w:=by
 go_enter Tryz.func127,Tryz.ntmps127
 go_wp2
 all_goals
  go_ret
  refine⟨jL ?_,rfl⟩
  rw[Bool.eq_iff_iff]
  simp[mU] <;> omega
theorem jB(c:Int)(w:World) :
  Calls Tryz.prog 128 #[.int .u8 c] w fun e w'=>e=.returned (.bool (xM c))∧w'=w:=by
 go_enter Tryz.func128,Tryz.ntmps128
 go_wp2
 all_goals
  go_ret
  refine⟨jL ?_,rfl⟩
  rw[Bool.eq_iff_iff]
  simp[xM] <;> omega
def k8(i:Nat)(c:Int):Bool:=mU c||(decide (0<i)&&xM c)
def aV(s:ByteArray)(k:Nat):Prop:=∀ i (h:i<s.size),i<k→k8 i (s[i].toNat:Int)=true
def sG(s:ByteArray):Bool:=decide (1≤s.size∧s.size≤40∧∀ i (h:i<s.size),k8 i (s[i].toNat:Int)=true)
theorem qEc(s:ByteArray)(h0:1≤s.size)(h1:s.size≤40)(k:Nat)(hk:s.size≤k)(h:aV s k):sG s=true:=by
 unfold sG
 rw[decide_eq_true_iff]
 exact⟨h0,h1,fun i hi=>h i hi (by omega)⟩
theorem qBK(s:ByteArray)(k:Nat)(hk:k<s.size)(h:k8 k (s[k].toNat:Int)=false):sG s=false:=by
 unfold sG
 rw[decide_eq_false_iff_not]
 rintro⟨_,_,kE⟩
 rw[kE k hk]at h
 cases h
theorem bY(s:ByteArray)(h:s.size<1∨40<s.size):sG s=false:=by
 unfold sG
 rw[decide_eq_false_iff_not]
 rintro⟨_,_,_⟩
 omega
theorem qAJ(s:ByteArray)(k:Nat)(hk:k<s.size)(h:aV s k)(hp:k8 k (s[k].toNat:Int)=true):aV s (k+1):=by
 intro i hi hik
 by_cases e:i=k
 ·subst e;exact hp
 ·exact h i hi (by omega)
theorem qCo(s:ByteArray)(w:World)(hs:s.size≤maxLen) :
  Calls Tryz.prog 121 #[.string s] w fun e w'=>e=.returned (.bool (sG s))∧w'=w:=by
 unfold maxLen at hs
 by_cases h0:s.size=0
 ·have e0:((s.size:Int) == 0)=true:=by simp[h0]
  have hb:=qC (bY s (by omega))
  go_enter Tryz.func121,Tryz.ntmps121
  go_wp2
  go_ret
  exact⟨jL (qA hb).symm,rfl⟩
 have e0:((s.size:Int) == 0)=false:=beq_eq_false_iff_ne.2 (by omega)
 by_cases h1:40<s.size
 ·have hb:=qC (bY s (by omega))
  go_enter Tryz.func121,Tryz.ntmps121
  go_wp2
  go_ret
  exact⟨jL (qA hb).symm,rfl⟩
 go_enter Tryz.func121,Tryz.ntmps121
 go_wp2
 go_loop [14] (fun i=>∃ k:Nat,k≤s.size∧i=.int .i64 k∧aV s k) (fun i=>s.size-(intOf i).toNat)
 case atStart=>exact⟨0,by omega,rfl,fun i _ hi=>by omega⟩
 case round=>
  obtain⟨k,hk,rfl,eB⟩:=hrel
  by_cases jF:k<s.size
  ·have kH:=qC (qAJ s k jF eB)
   have tZ:=qC (qBK s k jF)
   clear eB
   cases hL:mU (s[k].toNat:Int)
   ·by_cases fH:k=0
    ·subst fH
     go_wp2_with (first | (go_at_call 150;refine(fL _ _).mono ?_;rintro e w' ⟨rfl,rfl⟩) | (go_at_call 151;refine(s8 _ _).mono ?_;rintro e w' ⟨rfl,rfl⟩))
     go_ret
     exact⟨jL (qA tZ (by simp[k8,hL])).symm,rfl⟩
    ·have ek:((k:Int) == 0)=false:=beq_eq_false_iff_ne.2 (by omega)
     cases hD:xM (s[k].toNat:Int)
     ·go_wp2_with (first | (go_at_call 150;refine(fL _ _).mono ?_;rintro e w' ⟨rfl,rfl⟩) | (go_at_call 151;refine(s8 _ _).mono ?_;rintro e w' ⟨rfl,rfl⟩))
      go_ret
      exact⟨jL (qA tZ (by simp[k8,hL,hD])).symm,rfl⟩
     ·go_wp2_with (first | (go_at_call 150;refine(fL _ _).mono ?_;rintro e w' ⟨rfl,rfl⟩) | (go_at_call 151;refine(s8 _ _).mono ?_;rintro e w' ⟨rfl,rfl⟩))
      go_round
      case rel=>exact⟨k+1,by omega,by go_num,qA kH (by simp[k8,hD];omega)⟩
      case measure=>simp[intOf];omega
   ·go_wp2_with (first | (go_at_call 150;refine(fL _ _).mono ?_;rintro e w' ⟨rfl,rfl⟩) | (go_at_call 151;refine(s8 _ _).mono ?_;rintro e w' ⟨rfl,rfl⟩))
    go_round
    case rel=>exact⟨k+1,by omega,by go_num,qA kH (by simp[k8,hL])⟩
    case measure=>simp[intOf];omega
  ·have hy:=qC (qEc s (by omega) (by omega) k (by omega) eB)
   clear eB
   go_wp2
   go_ret
   exact⟨jL (qA hy).symm,rfl⟩
theorem qFZ(s:ByteArray)(w:World)(hs:s.size≤maxLen) :
  Calls Tryz.prog 100 #[.string s] w fun e w'=>e=.returned (.bool (sG s))∧w'=w:=by
 unfold maxLen at hs
 by_cases h0:s.size<1
 ·have hb:=qC (bY s (by omega))
  go_enter Tryz.func100,Tryz.ntmps100
  go_wp2
  go_ret
  exact⟨jL (qA hb).symm,rfl⟩
 by_cases h1:40<s.size
 ·have hb:=qC (bY s (by omega))
  go_enter Tryz.func100,Tryz.ntmps100
  go_wp2
  go_ret
  exact⟨jL (qA hb).symm,rfl⟩
 have h2:0<s.size:=by omega
 have tZ:=qC (qBK s 0 h2)
 have zX:Hid (k8 0 (s[0].toNat:Int)=true→aV s 1):=fun hp i hi hik=>by
  obtain rfl:i=0:=by omega
  exact hp
 cases hL:mU (s[0].toNat:Int)
 ·go_enter Tryz.func100,Tryz.ntmps100
  go_wp2_with (first | (go_at_call 127;refine(qW _ _).mono ?_;rintro e w' ⟨rfl,rfl⟩))
  go_ret
  exact⟨jL (qA tZ (by simp[k8,hL])).symm,rfl⟩
 have qV6:Hid (aV s 1):=qA zX (by simp[k8,hL])
 go_enter Tryz.func100,Tryz.ntmps100
 go_wp2_with (first | (go_at_call 127;refine(qW _ _).mono ?_;rintro e w' ⟨rfl,rfl⟩))
 go_loop [3] (fun i=>∃ k:Nat,1≤k∧k≤s.size∧i=.int .i64 k∧aV s k) (fun i=>s.size-(intOf i).toNat)
 case atStart=>exact⟨1,by omega,by omega,rfl,qA qV6⟩
 case round=>
  obtain⟨k,kQ,hk,rfl,eB⟩:=hrel
  clear hL qV6 tZ zX
  by_cases jF:k<s.size
  ·have kH:=qC (qAJ s k jF eB)
   have tZ:=qC (qBK s k jF)
   clear eB
   cases hL:mU (s[k].toNat:Int)
   ·cases hD:xM (s[k].toNat:Int)
    ·go_wp2_with (first | (go_at_call 127;refine(qW _ _).mono ?_;rintro e w' ⟨rfl,rfl⟩) | (go_at_call 128;refine(jB _ _).mono ?_;rintro e w' ⟨rfl,rfl⟩))
     go_ret
     exact⟨jL (qA tZ (by simp[k8,hL,hD])).symm,rfl⟩
    ·go_wp2_with (first | (go_at_call 127;refine(qW _ _).mono ?_;rintro e w' ⟨rfl,rfl⟩) | (go_at_call 128;refine(jB _ _).mono ?_;rintro e w' ⟨rfl,rfl⟩))
     go_round
     case rel=>exact⟨k+1,by omega,by omega,by go_num,qA kH (by simp[k8,hD];omega)⟩
     case measure=>simp[intOf];omega
   ·go_wp2_with (first | (go_at_call 127;refine(qW _ _).mono ?_;rintro e w' ⟨rfl,rfl⟩) | (go_at_call 128;refine(jB _ _).mono ?_;rintro e w' ⟨rfl,rfl⟩))
    go_round
    case rel=>exact⟨k+1,by omega,by omega,by go_num,qA kH (by simp[k8,hL])⟩
    case measure=>simp[intOf];omega
  ·have hy:=qC (qEc s (by omega) (by omega) k (by omega) eB)
   clear eB
   go_wp2
   go_ret
   exact⟨jL (qA hy).symm,rfl⟩
theorem fY(s:ByteArray)(w:World)(hs:s.size≤maxLen) :
  Calls Tryz.prog 73 #[.string s] w fun e w'=>e=.returned (.bool (sG s))∧w'=w:=by
 go_enter Tryz.func73,Tryz.ntmps73
 go_wp2_with (go_at_call 100;refine(qFZ _ _ hs).mono ?_;rintro e w' ⟨rfl,rfl⟩)
 go_ret
 exact⟨rfl,rfl⟩
end
end Go.Proofs.YtbgkfaclfnkloaaGreatDoor
