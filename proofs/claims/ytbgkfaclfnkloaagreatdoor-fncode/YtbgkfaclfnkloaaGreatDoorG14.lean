import Derived.Test.YtbgkfaclfnkloaaGreatDoorG10
import Derived.Test.YtbgkfaclfnkloaaGreatDoorG13
import Derived.Test.YtbgkfaclfnkloaaGreatDoorG04
namespace Go.Proofs.YtbgkfaclfnkloaaGreatDoor
set_option linter.all false
set_option maxHeartbeats 4000000
set_option maxRecDepth 100000
open Go.RowKit
theorem qOm(l:List UInt8):wL 1 l=(decide (l.length≤20)&&qGo l&&!pF l):=rfl
theorem qEn(s:ByteArray):qGo s.data.toList=sG s:=rfl
theorem qGf(s:ByteArray)(w:World)(hs:s.size≤maxLen)(ht:Hid (yT w 1 jX)) :
  Calls Tryz.prog 92 #[.string s] w fun e w'=>e=.returned (.bool (wL 1 s.data.toList))∧w'=w:=by
 rw[qOm,qEn,jI]
 by_cases yE:s.size≤20
 ·cases hn:sG s
  ·go_enter Tryz.func92,Tryz.ntmps92
   go_wp2_with (go_at_call 121;refine(qCo _ _ hs).mono ?_;rintro e wr ⟨rfl,rfl⟩)
   go_ret
   exact⟨jL (by simp),rfl⟩
  ·cases hw:pF s.data.toList
   all_goals
    go_enter Tryz.func92,Tryz.ntmps92
    go_wp2_with fail
    refine(qCo _ _ hs).mono ?_
    rintro e w ⟨rfl,rfl⟩
    rw[hn]
    go_wp2_with fail
    refine(qJo _ _ ht).mono ?_
    rintro e w ⟨rfl,rfl⟩
    rw[hw]
    go_wp2
    go_ret
    exact⟨jL (by simp[yE]),rfl⟩
 ·have hb:decide (s.size≤20)=false:=by simp;omega
  rw[hb]
  go_enter Tryz.func92,Tryz.ntmps92
  go_wp2
  go_ret
  exact⟨jL (by simp),rfl⟩
end Go.Proofs.YtbgkfaclfnkloaaGreatDoor
