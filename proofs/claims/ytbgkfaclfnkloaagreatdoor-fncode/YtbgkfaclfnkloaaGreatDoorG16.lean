import Derived.Test.YtbgkfaclfnkloaaGreatDoorG15
namespace Go.Proofs.YtbgkfaclfnkloaaGreatDoor
set_option linter.all false
set_option maxHeartbeats 4000000
set_option maxRecDepth 100000
section
open Go.RowKit Go.Joins
theorem aO(t:ByteArray)(w:World):Calls Tryz.prog 124 #[.string t] w fun e w'=>e=.returned (.bool (opB t.data.toList))∧w'=w:=by
 rw[←qNe]
 go_enter Tryz.func124,Tryz.ntmps124
 go_wp2_with fail
 refine(rM t _).mono ?_
 rintro e w' ⟨rfl,rfl⟩
 go_wp2_with fail
 refine(rM ⟨#[38,38]⟩ _).mono ?_
 rintro e w' ⟨rfl,rfl⟩
 rw[show pR (⟨#[38,38]⟩:ByteArray).data.toList=2 from rfl]
 go_wp2
 go_ret
 exact⟨rfl,rfl⟩
theorem qLC(s:ByteArray):vE s=(sG s&&decide (s.size≤20)&&!pF s.data.toList):=by
 unfold vE
 rw[qOm,qEn,jI,Bool.and_comm (decide _)]
theorem qGd(s:ByteArray)(w:World)(hs:s.size≤maxLen) :
  Calls Tryz.prog 45 #[.string s] w fun e w'=>e=.returned (.bool (vE s))∧Below w.heap.size w w':=by
 rw[qLC]
 obtain⟨nb,pI⟩:∃ nb,sG s=nb:=⟨_,rfl⟩
 have HN:=qC pI
 rw[pI]
 clear pI
 by_cases yE:s.size≤20
 ·have e20:(s.size:Int)≤20:=by omega
  rw[show decide (s.size≤20)=true from decide_eq_true yE]
  cases nb
  ·go_enter Tryz.func45,Tryz.ntmps45
   go_wp2_with fail
   refine(fY s _ hs).mono ?_
   rintro e w' ⟨rfl,rfl⟩
   rw[qA HN]
   go_wp2
   go_ret
   exact⟨rfl,Below.refl _ _⟩
  ·go_enter Tryz.func45,Tryz.ntmps45
   go_wp2_with fail
   refine(fY s _ hs).mono ?_
   rintro e w' ⟨rfl,rfl⟩
   rw[qA HN]
   go_wp2_with fail
   refine(sB s _ hs).mono ?_
   rintro e w1 ⟨rfl,hb⟩
   go_wp2
   go_ret
   exact⟨by simp,hb⟩
 ·have e20:¬(s.size:Int)≤20:=by omega
  rw[show decide (s.size≤20)=false from decide_eq_false yE]
  cases nb
  all_goals
   go_enter Tryz.func45,Tryz.ntmps45
   go_wp2_with fail
   refine(fY s _ hs).mono ?_
   rintro e w' ⟨rfl,rfl⟩
   rw[qA HN]
   go_wp2
   go_ret
   exact⟨rfl,Below.refl _ _⟩
end
end Go.Proofs.YtbgkfaclfnkloaaGreatDoor
