import Derived.Test.YtbgkfaclfnkloaaGreatDoorG05
import Derived.Laws.IdiomStrings
namespace Go.Proofs.YtbgkfaclfnkloaaGreatDoor
set_option linter.all false
set_option maxHeartbeats 4000000
set_option maxRecDepth 100000
section
open Go.RowKit
theorem qL4{w w':World}{g:Nat}{a:Option Addr}{len cap:Nat}{n kZ:Int}(h:p6 w g a len cap n kZ)(hb:Below w.heap.size w w'):p6 w' g a len cap n kZ:=by
 have hl:=World.block_lt_of_cell? _ _ h.c0
 exact⟨cell_later hb h.c0,cell_later hb h.c1,cell_later hb h.c2,(hb.frozen (p:=⟨g,1,none⟩) hl).trans h.z1,(hb.frozen (p:=⟨g,2,none⟩) hl).trans h.z2,h.s0,h.s1,h.a0,h.a1⟩
theorem iI{g:Nat}{w w':World}{a:Option Addr}{len:Nat}(h:mH w a len)(ho:wB g w w')(hg:0<len→∀ x,a=some x→¬x.block=g):mH w' a len:=fun i hi=>by
 obtain⟨b,off,c,rfl,h2,h3⟩:=h i hi
 exact⟨b,off,c,rfl,(qEk ho (hg (by omega) _ rfl)).trans h2,h3⟩
theorem qIu(a:Option Addr)(len cap:Nat)(w:World)(hlen:len≤1048577) :
  Calls Tryz.prog 15 #[.slice a len cap] w fun e w'=>e=.returned (.pointer (some ⟨w.heap.size,0,none⟩))∧Below w.heap.size w w'∧w.heap.size<w'.heap.size∧p6 w' w.heap.size a len cap 0 ((len:Int) % 1000):=by
 go_enter Tryz.func15,Tryz.ntmps15
 go_wp2
 go_ret
 exact⟨rfl,qD _ _,by simp,by simp,by simp,by simp,by simp,by simp,by omega,by omega,by omega,by omega⟩
theorem qLI{w:World}{a:Option Addr}{len:Nat}(h:mH w a len)(h0:0<len):∀ x,a=some x→¬x.block=w.heap.size:=fun x hx=>by
 obtain⟨b,off,c,h1,h2,_⟩:=h 0 h0
 rw[h1]at hx
 cases hx
 have:=World.block_lt_of_cell? _ _ h2
 exact Nat.ne_of_lt this
end
end Go.Proofs.YtbgkfaclfnkloaaGreatDoor
