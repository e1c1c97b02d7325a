import Derived.Test.YtbgkfaclfnkloaaGreatDoorG04
import Derived.Test.YtbgkfaclfnkloaaGreatDoorShelf
import Derived.Test.YtbgkfaclfnkloaaGreatDoorG12
import Derived.Lib.AppendIntMem
import Derived.Stop.LaidErr
namespace Go.Proofs.YtbgkfaclfnkloaaGreatDoor
set_option linter.all false
set_option maxHeartbeats 4000000
set_option maxRecDepth 100000
open Go.RowKit Go.Joins Go.Shelf
def qEV : String := (Rows.fnCodeRow.laid.map (·.1)).getD 2 ""
theorem qUf:Tryz.prog.globalNamed qEV=some 2:=by kernel_rfl
theorem qXw:(Tryz.prog.globals[2]?).map (·.type)=some 178:=by kernel_rfl
def zR(w:World):Prop:=Lib.TabIs Tryz.prog w qEV .u64 Lib.pow10Tab
theorem zR.later{w w':World}{B:Nat}(h:zR w)(hb:Below B w w')(hB:w.heap.size≤B):zR w':=tab_stays qUf h hb hB
theorem qP7:(Rows.laid_internal_strconv_uint64pow10:DataW Unit)=Lib.tabData .u64 Lib.pow10Tab:=by kernel_rfl
theorem qMW{W:World}(h:laidMetH Tryz.prog Rows.fnCodeRow.laid W):zR W:=by
 rw[MakeChecks.laidMetH_plain _ _ _ (by kernel_rfl)]at h
 have h1:laidMet Tryz.prog (_::_::(qEV,Rows.laid_internal_strconv_uint64pow10)::_) W:=h
 rw[qP7]at h1
 exact Lib.tabIs_of_head (t:=178) (e:=114) (n:=20) qUf qXw Tryz.underlying178 Tryz.underlying114 (by kernel_rfl) (by kernel_rfl) h1.tail.tail
theorem vX(n:Int)(w:World)(h0 : -2147483648≤n)(h1:n≤2147483647)(ht:zR w) :
  Calls Tryz.prog 50 #[.int .i64 n] w fun e w'=>e=.returned (.string ⟨(Lib.itoa n).toArray⟩)∧Below w.heap.size w w':=by
 refine(Any.strconv_Itoa Tryz.laysM171 n (by omega) (by omega) w ht).mono ?_
 rintro e w' ⟨rfl,k,os,rfl⟩
 exact⟨rfl,Lib.below_grow _ _ (Nat.le_refl _) _ _⟩
theorem qCq(w:World):Calls Tryz.prog 107 #[.bool true] w fun e w'=>e=.returned (.string ⟨#[116,114,117,101]⟩)∧w'=w:=Any.strconv_FormatBool Tryz.lays121 true w
theorem qDN(w:World):Calls Tryz.prog 107 #[.bool false] w fun e w'=>e=.returned (.string ⟨#[102,97,108,115,101]⟩)∧w'=w:=Any.strconv_FormatBool Tryz.lays121 false w
def qAi(k n:Int)(t:ByteArray):ByteArray:=if k=1 then ⟨(Lib.itoa n).toArray⟩ else if k=2 then (if n=1 then ⟨#[116,114,117,101]⟩ else ⟨#[102,97,108,115,101]⟩) else if k=3 then t else ⟨#[110,117,108,108]⟩
theorem qHr{n:Int}{t:ByteArray}(h:vC 2 n t=true):n=0∨n=1:=by simp[vC]at h;omega
theorem qIN(n:Int)(t:ByteArray)(w:World)(h0 : -2147483648≤n)(h1:n≤2147483647)(ht:zR w) :
  Calls Tryz.prog 80 #[.agg #[.int .i64 1,.int .i64 n,.string t]] w fun e w'=>e=.returned (.string ⟨(Lib.itoa n).toArray⟩)∧Below w.heap.size w w':=by
 have HT:=qC ht
 clear ht
 go_enter Tryz.func80,Tryz.ntmps80
 go_wp2_with fail
 refine(vX n _ h0 h1 ((qA HT).later (qD _ _) (Nat.le_refl _))).mono ?_
 rintro e w1 ⟨rfl,jD⟩
 go_wp2
 go_ret
 exact⟨rfl,qE (qD _ _) jD⟩
theorem qIk(t:ByteArray)(w:World) :
  Calls Tryz.prog 80 #[.agg #[.int .i64 2,.int .i64 1,.string t]] w fun e w'=>e=.returned (.string ⟨#[116,114,117,101]⟩)∧Below w.heap.size w w':=by
 go_enter Tryz.func80,Tryz.ntmps80
 go_wp2_with fail
 refine(qCq _).mono ?_
 rintro e w' ⟨rfl,rfl⟩
 go_wp2
 go_ret
 exact⟨rfl,qD _ _⟩
theorem qKQ(t:ByteArray)(w:World) :
  Calls Tryz.prog 80 #[.agg #[.int .i64 2,.int .i64 0,.string t]] w fun e w'=>e=.returned (.string ⟨#[102,97,108,115,101]⟩)∧Below w.heap.size w w':=by
 go_enter Tryz.func80,Tryz.ntmps80
 go_wp2_with fail
 refine(qDN _).mono ?_
 rintro e w' ⟨rfl,rfl⟩
 go_wp2
 go_ret
 exact⟨rfl,qD _ _⟩
theorem qF1(n:Int)(t:ByteArray)(w:World) :
  Calls Tryz.prog 80 #[.agg #[.int .i64 3,.int .i64 n,.string t]] w fun e w'=>e=.returned (.string t)∧Below w.heap.size w w':=by
 go_enter Tryz.func80,Tryz.ntmps80
 go_wp2
 go_ret
 exact⟨rfl,qD _ _⟩
theorem qGT(n:Int)(t:ByteArray)(w:World) :
  Calls Tryz.prog 80 #[.agg #[.int .i64 0,.int .i64 n,.string t]] w fun e w'=>e=.returned (.string ⟨#[110,117,108,108]⟩)∧Below w.heap.size w w':=by
 go_enter Tryz.func80,Tryz.ntmps80
 go_wp2
 go_ret
 exact⟨rfl,qD _ _⟩
theorem qJg(k n:Int)(t:ByteArray)(w:World)(hv:vC k n t=true)(ht:zR w) :
  Calls Tryz.prog 80 #[.agg #[.int .i64 k,.int .i64 n,.string t]] w fun e w'=>e=.returned (.string (qAi k n t))∧Below w.heap.size w w':=by
 rcases qBS hv with rfl | rfl | rfl | rfl
 ·exact qGT n t w
 ·exact qIN n t w (eN hv).1 (eN hv).2 ht
 ·rcases qHr hv with rfl | rfl
  ·exact qKQ t w
  ·exact qIk t w
 ·exact qF1 n t w
theorem qAm(n:Int)(t:ByteArray)(w:World)(h0 : -2147483648≤n)(h1:n≤2147483647) :
  Calls Tryz.prog 34 #[.agg #[.int .i64 1,.int .i64 n,.string t]] w fun e w'=>e=.returned (.string ⟨(Lib.itoa n).toArray⟩)∧Below w.heap.size w w':=by
 go_enter Tryz.func34,Tryz.ntmps34
 go_wp2_with fail
 refine(jW n _ h0 h1).mono ?_
 rintro e w1 ⟨rfl,jD⟩
 go_wp2
 go_ret
 exact⟨rfl,qE (qD _ _) jD⟩
theorem oS(t:ByteArray)(w:World) :
  Calls Tryz.prog 34 #[.agg #[.int .i64 2,.int .i64 1,.string t]] w fun e w'=>e=.returned (.string ⟨#[116,114,117,101]⟩)∧Below w.heap.size w w':=by
 go_enter Tryz.func34,Tryz.ntmps34
 go_wp2
 go_ret
 exact⟨rfl,qD _ _⟩
theorem qBa(t:ByteArray)(w:World) :
  Calls Tryz.prog 34 #[.agg #[.int .i64 2,.int .i64 0,.string t]] w fun e w'=>e=.returned (.string ⟨#[102,97,108,115,101]⟩)∧Below w.heap.size w w':=by
 go_enter Tryz.func34,Tryz.ntmps34
 go_wp2
 go_ret
 exact⟨rfl,qD _ _⟩
theorem eS(n:Int)(t:ByteArray)(w:World) :
  Calls Tryz.prog 34 #[.agg #[.int .i64 3,.int .i64 n,.string t]] w fun e w'=>e=.returned (.string t)∧Below w.heap.size w w':=by
 go_enter Tryz.func34,Tryz.ntmps34
 go_wp2
 go_ret
 exact⟨rfl,qD _ _⟩
theorem iD(n:Int)(t:ByteArray)(w:World) :
  Calls Tryz.prog 34 #[.agg #[.int .i64 0,.int .i64 n,.string t]] w fun e w'=>e=.returned (.string ⟨#[110,117,108,108]⟩)∧Below w.heap.size w w':=by
 go_enter Tryz.func34,Tryz.ntmps34
 go_wp2
 go_ret
 exact⟨rfl,qD _ _⟩
theorem oW(k n:Int)(t:ByteArray)(w:World)(hv:vC k n t=true) :
  Calls Tryz.prog 34 #[.agg #[.int .i64 k,.int .i64 n,.string t]] w fun e w'=>e=.returned (.string (qAi k n t))∧Below w.heap.size w w':=by
 rcases qBS hv with rfl | rfl | rfl | rfl
 ·exact iD n t w
 ·exact qAm n t w (eN hv).1 (eN hv).2
 ·rcases qHr hv with rfl | rfl
  ·exact qBa t w
  ·exact oS t w
 ·exact eS n t w
end Go.Proofs.YtbgkfaclfnkloaaGreatDoor
