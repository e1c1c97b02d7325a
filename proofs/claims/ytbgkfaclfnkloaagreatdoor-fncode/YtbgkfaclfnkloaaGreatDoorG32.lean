import Derived.Test.YtbgkfaclfnkloaaGreatDoorG23
import Derived.Test.YtbgkfaclfnkloaaGreatDoorG16
import Derived.BigQuiet
namespace Go.Proofs.YtbgkfaclfnkloaaGreatDoor
set_option linter.all false
set_option maxHeartbeats 4000000
set_option maxRecDepth 100000
open Go.RowKit Go.Joins
theorem p4(n k:Int)(w:World):Calls Tryz.prog 28 #[.int .i64 n,.int .i64 k] w fun e w'=>e=.returned (.bool (decide (0≤n)&&decide (n<k)))∧w'=w:=by
 go_enter Tryz.func28,Tryz.ntmps28
 go_wp2
 all_goals
  go_ret
  refine⟨jL ?_,rfl⟩
  rw[Bool.eq_iff_iff]
  simp <;> omega
theorem uI(op:Int)(w:World)(h1:1≤op)(eE:op≤16):Calls Tryz.prog 18 #[.int .i64 op] w fun e w'=>e=.returned (.bool (xL op))∧w'=w:=by
 have hop:op=1∨op=2∨op=3∨op=4∨op=5∨op=6∨op=7∨op=8∨op=9∨op=10∨op=11∨op=12∨op=13∨op=14∨op=15∨op=16:=by omega
 rcases hop with rfl | rfl | rfl | rfl | rfl | rfl | rfl | rfl | rfl | rfl | rfl | rfl | rfl | rfl | rfl | rfl
 all_goals
  go_enter Tryz.func18,Tryz.ntmps18
  go_wp2
  go_ret
  exact⟨rfl,rfl⟩
theorem uD(i:IR)(w:World)(h1:1≤i.op)(eE:i.op≤16)(hm:i.op=10→0≤i.m)(hn:i.op=11→0≤i.n) :
  Calls Tryz.prog 72 #[irV i] w fun e w'=>e=.returned (.tuple #[.int .i64 (mM i:Int),.int .i64 (sD i:Int)])∧Below w.heap.size w w':=by
 have hop:i.op=1∨i.op=2∨i.op=3∨i.op=4∨i.op=5∨i.op=6∨i.op=7∨i.op=8∨i.op=9∨i.op=10∨i.op=11∨i.op=12∨i.op=13∨i.op=14∨i.op=15∨i.op=16:=by omega
 obtain⟨op,n,m,t,vk,vn,vt⟩:=i
 dsimp only at *
 rcases hop with rfl | rfl | rfl | rfl | rfl | rfl | rfl | rfl | rfl | rfl | rfl | rfl | rfl | rfl | rfl | rfl
 all_goals
  try (have xC:=hm rfl)
  try (have hn':=hn rfl)
  clear hm hn
  go_enter Tryz.func72,Tryz.ntmps72
  go_wp2
  go_ret2
  exact⟨by simp[mM,sD];try omega,qD _ _⟩
theorem qIc(f:FR)(pc:Option Addr)(cc:Nat)(w:World)(hn:f.name=e0)(hp:f.params=1)(hs:f.slots≤20)(hps:f.params≤f.slots) :
  Calls Tryz.prog 59 #[oB f pc cc,.bool true] w fun e w'=>e=.returned (.bool true)∧Below w.heap.size w w':=by
 obtain⟨name,params,slots,code⟩:=f
 dsimp only at *
 subst hn hp
 unfold e0
 go_enter Tryz.func59,Tryz.ntmps59
 go_wp2
 go_ret
 exact⟨jL (by simp;omega),qD _ _⟩
theorem qIr(f:FR)(pc:Option Addr)(cc:Nat)(w:World)(hn:vE f.name=true)(hz:f.name.size≤maxLen)(hp:f.params≤4)(hs:f.slots≤20)(hps:f.params≤f.slots)(ht:Hid (yT w 1 jX)) :
  Calls Tryz.prog 59 #[oB f pc cc,.bool false] w fun e w'=>e=.returned (.bool true)∧Below w.heap.size w w':=by
 obtain⟨name,params,slots,code⟩:=f
 dsimp only at *
 have HI:=qC (qGf name (w.alloc (.cells #[.string name,.int .i64 (params:Int),.int .i64 (slots:Int),.slice pc code.length cc] 35)) hz (qC ((qA ht).later (qD _ _))))
 rw[show wL 1 name.data.toList=true from hn]at HI
 go_enter Tryz.func59,Tryz.ntmps59
 go_wp2_with fail
 refine(qA HI).mono ?_
 rintro e w1 ⟨rfl,rfl⟩
 go_wp2
 go_ret
 exact⟨jL (by simp;omega),qD _ _⟩
theorem qIv(pv:Value)(f:FR)(pc:Option Addr)(cc:Nat)(vk vn:Int)(vt:ByteArray)(w:World)(hv:vC vk vn vt=true)(hz:vt.size≤maxLen) :
  Calls Tryz.prog 93 #[.agg #[pv],oB f pc cc,irV (iV vk vn vt)] w fun e w'=>e=.returned (.bool true)∧Below w.heap.size w w':=by
 obtain⟨zF,yZ,mQ,qL⟩:=f
 have HV:=qC fun w=>qAH vk vn vt w hz
 rw[hv]at HV
 have q1:=tH vt
 have q2:=tI vt
 unfold iV e0
 go_enter Tryz.func93,Tryz.ntmps93
 go_wp2_with (go_at_call 27;refine(qA HV _).mono ?_;rintro e w1 ⟨rfl,jD⟩)
 go_ret
 exact⟨rfl,(by repeat (first | exact Below.refl _ _ | refine qG ?_ | refine qF ?_ | refine qE ?_ (by assumption)))⟩
theorem qJk(pv:Value)(f:FR)(pc:Option Addr)(cc:Nat)(op n:Int)(w:World)(ho:op=2∨op=3)(h0:0≤n)(h1:n<(f.slots:Int)) :
  Calls Tryz.prog 93 #[.agg #[pv],oB f pc cc,irV (iN op n)] w fun e w'=>e=.returned (.bool true)∧Below w.heap.size w w':=by
 obtain⟨zF,yZ,mQ,qL⟩:=f
 dsimp only at h1
 have HP:=qC fun w=>p4 n (mQ:Int) w
 rw[show(decide (0≤n)&&decide (n<(mQ:Int)))=true by simp;omega]at HP
 clear h0 h1
 unfold iN e0
 rcases ho with rfl | rfl
 all_goals
  go_enter Tryz.func93,Tryz.ntmps93
  go_wp2_with (go_at_call 28;refine(qA HP _).mono ?_;rintro e w1 ⟨rfl,rfl⟩)
  go_ret
  exact⟨rfl,(by repeat (first | exact Below.refl _ _ | refine qG ?_ | refine qF ?_))⟩
theorem qGH(pv:Value)(f:FR)(pc:Option Addr)(cc:Nat)(t:ByteArray)(w:World)(h:t.data.toList=[33]∨t.data.toList=[45]) :
  Calls Tryz.prog 93 #[.agg #[pv],oB f pc cc,irV (iT 4 t)] w fun e w'=>e=.returned (.bool true)∧Below w.heap.size w w':=by
 obtain⟨zF,yZ,mQ,qL⟩:=f
 have HP:=qC fun w=>qBl t w
 rw[show((t.data.toList == [33])||(t.data.toList == [45]))=true by rcases h with h | h <;> rw[h] <;> rfl]at HP
 have q1:=tH t
 have q2:=tI t
 clear h
 unfold iT e0
 go_enter Tryz.func93,Tryz.ntmps93
 go_wp2_with (go_at_call 123;refine(qA HP _).mono ?_;rintro e w1 ⟨rfl,rfl⟩)
 go_ret
 exact⟨rfl,(by repeat (first | exact Below.refl _ _ | refine qG ?_ | refine qF ?_))⟩
theorem qFf(pv:Value)(f:FR)(pc:Option Addr)(cc:Nat)(t:ByteArray)(w:World)(h:opB t.data.toList=true) :
  Calls Tryz.prog 93 #[.agg #[pv],oB f pc cc,irV (iT 5 t)] w fun e w'=>e=.returned (.bool true)∧Below w.heap.size w w':=by
 obtain⟨zF,yZ,mQ,qL⟩:=f
 have HP:=qC fun w=>aO t w
 rw[h]at HP
 have q1:=tH t
 have q2:=tI t
 clear h
 unfold iT e0
 go_enter Tryz.func93,Tryz.ntmps93
 go_wp2_with (go_at_call 124;refine(qA HP _).mono ?_;rintro e w1 ⟨rfl,rfl⟩)
 go_ret
 exact⟨rfl,(by repeat (first | exact Below.refl _ _ | refine qG ?_ | refine qF ?_))⟩
theorem qJd(pv:Value)(f:FR)(pc:Option Addr)(cc:Nat)(op n:Int)(w:World)(ho:op=6∨op=7∨op=8∨op=9∨op=14)(h0:0≤n)(h1:n<(f.code.length:Int)) :
  Calls Tryz.prog 93 #[.agg #[pv],oB f pc cc,irV (iN op n)] w fun e w'=>e=.returned (.bool true)∧Below w.heap.size w w':=by
 obtain⟨zF,yZ,mQ,qL⟩:=f
 dsimp only at h1
 have HP:=qC fun w=>p4 n (qL.length:Int) w
 rw[show(decide (0≤n)&&decide (n<(qL.length:Int)))=true by simp;omega]at HP
 clear h0 h1
 unfold iN e0
 rcases ho with rfl | rfl | rfl | rfl | rfl
 all_goals
  go_enter Tryz.func93,Tryz.ntmps93
  go_wp2_with (go_at_call 28;refine(qA HP _).mono ?_;rintro e w1 ⟨rfl,rfl⟩)
  go_ret
  exact⟨rfl,(by repeat (first | exact Below.refl _ _ | refine qG ?_ | refine qF ?_))⟩
theorem qJb(pv:Value)(f:FR)(pc:Option Addr)(cc:Nat)(op:Int)(w:World)(ho:op=12∨op=13∨op=15∨op=16) :
  Calls Tryz.prog 93 #[.agg #[pv],oB f pc cc,irV (iN op 0)] w fun e w'=>e=.returned (.bool true)∧Below w.heap.size w w':=by
 obtain⟨zF,yZ,mQ,qL⟩:=f
 unfold iN e0
 rcases ho with rfl | rfl | rfl | rfl
 all_goals
  go_enter Tryz.func93,Tryz.ntmps93
  go_wp2
  go_ret
  exact⟨rfl,(by repeat (first | exact Below.refl _ _ | refine qG ?_ | refine qF ?_))⟩
theorem qDQ(pv:Value)(f:FR)(pc:Option Addr)(cc:Nat)(n:Int)(t:ByteArray)(w:World)(h:(qF7 t.toList).1=n∧(qF7 t.toList).2=0) :
  Calls Tryz.prog 93 #[.agg #[pv],oB f pc cc,irV ⟨11,n,0,t,0,0,e0⟩] w fun e w'=>e=.returned (.bool true)∧Below w.heap.size w w':=by
 obtain⟨zF,yZ,mQ,qL⟩:=f
 have HP:=qC fun w=>qAp t w
 rw[h.1,h.2]at HP
 have q1:=tH t
 have q2:=tI t
 clear h
 unfold e0
 go_enter Tryz.func93,Tryz.ntmps93
 go_wp2_with (go_at_call 125;refine(qA HP _).mono ?_;rintro e w1 ⟨rfl,rfl⟩)
 go_ret
 exact⟨rfl,(by repeat (first | exact Below.refl _ _ | refine qG ?_ | refine qF ?_))⟩
theorem qJu(L:sA)(fs:List FR)(cap:Nat)(f:FR)(pc:Option Addr)(cc kk q:Nat)(w:World)(hF:zW w L fs)(hk:kk<fs.length)(hl:fs.length≤9)(hq:fs[kk].params=q) :
  Calls Tryz.prog 93 #[.agg #[.slice L.p fs.length cap],oB f pc cc,irV ⟨10,(kk:Int),(q:Int),e0,0,0,e0⟩] w fun e w'=>e=.returned (.bool true)∧Below w.heap.size w w':=by
 obtain⟨zF,yZ,mQ,qL⟩:=f
 obtain⟨fb,qFF,hp,-,g1,-⟩:=hF kk hk
 rw[hq]at g1
 rw[hp]
 have HP:=qC fun w=>p4 (kk:Int) (fs.length:Int) w
 rw[show(decide ((0:Int)≤(kk:Int))&&decide ((kk:Int)<(fs.length:Int)))=true by simp;omega]at HP
 have aX:(kk:Int)<(fs.length:Int):=by omega
 have gb:=World.block_lt_of_cell? _ _ g1
 have g2:∀ a b d,(((w.alloc a).alloc b).alloc d).cell? ⟨fb,qFF+kk*4+1,none⟩=some (.int .i64 (q:Int)):=fun a b d=>cell_later (qG (qG (qD _ _))) g1
 clear hF hq hp
 generalize fs.length=fl at hk hl aX HP ⊢
 unfold e0
 go_enter Tryz.func93,Tryz.ntmps93
 go_wp2
 go_quiet ((go_at_call 28;refine Calls.quiet_of_same (qA HP _)))
 go_wp2
 go_ret
 exact⟨rfl,below_drewN (qG (qG (qD _ _))) _⟩
end Go.Proofs.YtbgkfaclfnkloaaGreatDoor
