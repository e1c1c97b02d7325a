import Derived.Test.YtbgkfaclfnkloaaGreatDoorG30
namespace Go.Proofs.YtbgkfaclfnkloaaGreatDoor
set_option linter.all false
set_option maxHeartbeats 4000000
set_option maxRecDepth 100000
section
open Go.RowKit Go.Joins
theorem qI1{E:CE}(ho:E.Ok){n k lo:Nat}(vL:E.IH n)(hk:k≤n){m:TN}{x:SC}{b c:Nat}{v:Value}{code:List IR}{w:World}{pn:Option Addr}{cn:Nat}{pk:Option Addr}{ckp:Nat}(hm:E.ns[k]? = some m)(hS:y7 E.ns m.kids lo k)(hr:E.Room x code (k+1-lo))(hA:E.At w b c x v code)(hW:E.On w)(hI:∀ wx,E.On wx→vD wx pk m.kids)(oH:m.k=13)(mp mq mr:Nat)(xV:m.kids=[(mp:Int),(mq:Int),(mr:Int)]):Calls Tryz.prog 149 #[.pointer (some ⟨E.M,0,none⟩),.int .i64 (k:Int),.agg #[.int .i64 m.k,.int .i64 m.n,.string m.t,.slice pn m.names.length cn,.slice pk m.kids.length ckp]] w fun e w'=>e=.returned (.tuple #[])∧E.P v w ⟨(E.g n (mp:Int) x code.length).s++iN 7 ((code.length+(E.g n (mp:Int) x code.length).s.length+1+(E.g n (mq:Int) (E.g n (mp:Int) x code.length).x (code.length+(E.g n (mp:Int) x code.length).s.length+1)).s.length+1:Nat):Int)::((E.g n (mq:Int) (E.g n (mp:Int) x code.length).x (code.length+(E.g n (mp:Int) x code.length).s.length+1)).s++iN 6 ((code.length+(E.g n (mp:Int) x code.length).s.length+1+(E.g n (mq:Int) (E.g n (mp:Int) x code.length).x (code.length+(E.g n (mp:Int) x code.length).s.length+1)).s.length+1+(E.g n (mr:Int) (E.g n (mq:Int) (E.g n (mp:Int) x code.length).x (code.length+(E.g n (mp:Int) x code.length).s.length+1)).x (code.length+(E.g n (mp:Int) x code.length).s.length+1+(E.g n (mq:Int) (E.g n (mp:Int) x code.length).x (code.length+(E.g n (mp:Int) x code.length).s.length+1)).s.length+1)).s.length:Nat):Int)::(E.g n (mr:Int) (E.g n (mq:Int) (E.g n (mp:Int) x code.length).x (code.length+(E.g n (mp:Int) x code.length).s.length+1)).x (code.length+(E.g n (mp:Int) x code.length).s.length+1+(E.g n (mq:Int) (E.g n (mp:Int) x code.length).x (code.length+(E.g n (mp:Int) x code.length).s.length+1)).s.length+1)).s),(E.g n (mr:Int) (E.g n (mq:Int) (E.g n (mp:Int) x code.length).x (code.length+(E.g n (mp:Int) x code.length).s.length+1)).x (code.length+(E.g n (mp:Int) x code.length).s.length+1+(E.g n (mq:Int) (E.g n (mp:Int) x code.length).x (code.length+(E.g n (mp:Int) x code.length).s.length+1)).s.length+1)).x⟩ code w':=by
 have qHK:=hS.le
 have fJ:=ho.small.1
 have rZ:m.t.size≤1048576:=(ho.small.2 m (List.mem_of_getElem? hm)).1
 have zN:m.kids.length≤1048576:=(ho.small.2 m (List.mem_of_getElem? hm)).2.2.1
 have vV:=yC.lt hA
 have mP:=hA.sc.lt
 have eA:=hr.1
 have iU:=hr.2
 obtain⟨va0,vc0,oI⟩:=yC.slice hA
 obtain⟨m0,m1,m2⟩:=yC.cells hA
 rw[oI]at m2
 have HI:=qC hI
 have xH:=qC vL
 have HO:=qC ho
 have HS:=qC hS
 have HA:=qC hA
 have HW:=qC hW
 have lU:=qC hr
 have xO:Hid (uC (w.alloc (.cells #[.int .i64 m.k,.int .i64 m.n,.string m.t,.slice pn m.names.length cn,.slice pk m.kids.length ckp] 128)) w.heap.size m pn cn pk ckp):=qC ⟨heap_alloc_new w _⟩
 have vG:Hid (E.At (w.alloc (.cells #[.int .i64 m.k,.int .i64 m.n,.string m.t,.slice pn m.names.length cn,.slice pk m.kids.length ckp] 128)) b c x v code):=qC (yC.later hA (qD w (.cells #[.int .i64 m.k,.int .i64 m.n,.string m.t,.slice pn m.names.length cn,.slice pk m.kids.length ckp] 128)))
 have yV:Hid (CK E.M E.X v v w (w.alloc (.cells #[.int .i64 m.k,.int .i64 m.n,.string m.t,.slice pn m.names.length cn,.slice pk m.kids.length ckp] 128))):=qC (CK.of_below (qD _ _))
 have yF:Hid (E.On (w.alloc (.cells #[.int .i64 m.k,.int .i64 m.n,.string m.t,.slice pn m.names.length cn,.slice pk m.kids.length ckp] 128))):=qC (hW.below (qD _ _))
 have dS:Hid (∀ v' wx,CK E.M E.X v v' (w.alloc (.cells #[.int .i64 m.k,.int .i64 m.n,.string m.t,.slice pn m.names.length cn,.slice pk m.kids.length ckp] 128)) wx→uC wx w.heap.size m pn cn pk ckp∧E.On wx):=qC (fun v' wx h=>⟨(qA xO).same (h.block _ (by simp) (by omega) (by omega) (fun e=>by have:=(yC.own hA _ e).2;omega)),(qA yF).ck ho (qA vG) h⟩)
 clear hA hW ho hI vL hS hr oI
 have e13:(m.k == 13)=true:=by rw[oH];rfl
 have e18:(m.k == 18)=false:=by rw[oH];rfl
 clear oH
 have hl2:m.kids.length=3:=by rw[xV];rfl
 have h0l:(0:Int)<(m.kids.length:Int):=by omega
 have h1l:(1:Int)<(m.kids.length:Int):=by omega
 have h2l:(2:Int)<(m.kids.length:Int):=by omega
 have el2:((m.kids.length:Int) == 2)=false:=by rw[hl2];rfl
 have dA:=qA HS
 rw[xV]at dA
 obtain⟨mR,dC,mr',ep,eq',er',s1,s2,s3,g1,g2,g3,g4⟩:=qNx dA
 obtain rfl:mR=mp:=by omega
 obtain rfl:dC=mq:=by omega
 obtain rfl:mr'=mr:=by omega
 have gM:=xX (ns:=E.ns) (root:=E.root) (fs:=E.fs) (qA HO).fun' n
 obtain⟨kb,zY,kI,y0⟩:=(qA HI w (qA HW)) 0 (by omega)
 have k0:m.kids[0]'(by omega)=(mR:Int):=by simp[xV]
 have k1:m.kids[1]'(by omega)=(dC:Int):=by simp[xV]
 rw[k0,Nat.add_zero]at y0
 have qMm:kb<w.heap.size:=World.block_lt_of_cell? _ _ y0
 have HI0:Hid (∀ wx,E.On wx→wx.cell? ⟨kb,zY,none⟩=some (.int .i64 (mR:Int))):=qC (fun wx h=>by
  obtain⟨lP,kP,uH,y1⟩:=(qA HI wx h) 0 (by omega)
  rw[kI]at uH
  obtain⟨rfl,rfl⟩:kb=lP∧zY=kP:=by simpa using uH
  rw[k0,Nat.add_zero]at y1
  exact y1)
 have xJ:Hid (∀ wx,E.On wx→wx.cell? ⟨kb,zY+1,none⟩=some (.int .i64 (dC:Int))):=qC (fun wx h=>by
  obtain⟨lP,kP,uH,y1⟩:=(qA HI wx h) 1 (by omega)
  rw[kI]at uH
  obtain⟨rfl,rfl⟩:kb=lP∧zY=kP:=by simpa using uH
  rw[k1]at y1
  exact y1)
 have k2:m.kids[2]'(by omega)=(mr':Int):=by simp[xV]
 have HI2:Hid (∀ wx,E.On wx→wx.cell? ⟨kb,zY+2,none⟩=some (.int .i64 (mr':Int))):=qC (fun wx h=>by
  obtain⟨lP,kP,uH,y1⟩:=(qA HI wx h) 2 (by omega)
  rw[kI]at uH
  obtain⟨rfl,rfl⟩:kb=lP∧zY=kP:=by simpa using uH
  rw[k2]at y1
  exact y1)
 subst kI
 have sM:(code).length=code.length:=by first | rfl | simp only[List.length_append,List.length_singleton,List.length_cons,List.length_nil]
 have wK:=qC (fun (v':Value) (b' c':Nat) (w':World) (h:E.At w' b' c' (x) v' (code)) (eC:E.On w')=>qA xH mR lo (x) b' c' v' (code) w' (by omega) s1 ⟨by omega,by rw[sM];omega⟩ h eC)
 unfold CE.Node at wK
 try simp only[sM]at wK
 have pl1:(E.g n (mR:Int) (x) (code.length)).x.nm.length≤_:=gM.len mR lo (x) (code.length) (by omega) s1
 have pi1:(E.g n (mR:Int) (x) (code.length)).s.length≤_:=gM.ins mR lo (x) (code.length) (by omega) s1
 generalize E.g n (mR:Int) (x) (code.length)=o1 at wK pl1 pi1 ⊢
 obtain⟨xB,xZ⟩:∃ xB,xB=code++o1.s:=⟨_,rfl⟩
 have rG:(xB++[iN 7 0]).length=code.length+o1.s.length+1:=by first | rfl | simp only[xZ,List.length_append,List.length_singleton,List.length_cons,List.length_nil]
 have gO:=qC (fun (v':Value) (b' c':Nat) (w':World) (h:E.At w' b' c' (o1.x) v' (xB++[iN 7 0])) (eC:E.On w')=>qA xH dC (mR+1) (o1.x) b' c' v' (xB++[iN 7 0]) w' (by omega) s2 ⟨by omega,by rw[rG];omega⟩ h eC)
 unfold CE.Node at gO
 try simp only[rG]at gO
 have pl2:(E.g n (dC:Int) (o1.x) (code.length+o1.s.length+1)).x.nm.length≤_:=gM.len dC (mR+1) (o1.x) (code.length+o1.s.length+1) (by omega) s2
 have pi2:(E.g n (dC:Int) (o1.x) (code.length+o1.s.length+1)).s.length≤_:=gM.ins dC (mR+1) (o1.x) (code.length+o1.s.length+1) (by omega) s2
 generalize E.g n (dC:Int) (o1.x) (code.length+o1.s.length+1)=o2 at gO pl2 pi2 ⊢
 obtain⟨wG,wZ⟩:∃ wG,wG=xB++[iN 7 0]++o2.s:=⟨_,rfl⟩
 obtain⟨aJ,hc3⟩:∃ aJ,aJ=xB++iN 7 ((code.length+o1.s.length+1+o2.s.length+1:Nat):Int)::o2.s:=⟨_,rfl⟩
 have qFG:(aJ++[iN 6 0]).length=code.length+o1.s.length+1+o2.s.length+1:=by simp only[hc3,xZ,List.length_append,List.length_singleton,List.length_cons,List.length_nil];omega
 have wI:=qC (fun (v':Value) (b' c':Nat) (w':World) (h:E.At w' b' c' (o2.x) v' (aJ++[iN 6 0])) (eC:E.On w')=>qA xH mr' (dC+1) (o2.x) b' c' v' (aJ++[iN 6 0]) w' (by omega) s3 ⟨by omega,by rw[qFG];omega⟩ h eC)
 unfold CE.Node at wI
 try simp only[qFG]at wI
 have pl3:(E.g n (mr':Int) (o2.x) (code.length+o1.s.length+1+o2.s.length+1)).x.nm.length≤_:=gM.len mr' (dC+1) (o2.x) (code.length+o1.s.length+1+o2.s.length+1) (by omega) s3
 have pi3:(E.g n (mr':Int) (o2.x) (code.length+o1.s.length+1+o2.s.length+1)).s.length≤_:=gM.ins mr' (dC+1) (o2.x) (code.length+o1.s.length+1+o2.s.length+1) (by omega) s3
 generalize E.g n (mr':Int) (o2.x) (code.length+o1.s.length+1+o2.s.length+1)=o3 at wI pl3 pi3 ⊢
 have HJ:Hid (xB.length=code.length+o1.s.length):=qC (by rw[xZ,List.length_append])
 have aI:xB.length≤100000:=by rw[qA HJ];omega
 have HJ2:Hid (wG.length=code.length+o1.s.length+1+o2.s.length):=qC (by simp only[wZ,xZ,List.length_append,List.length_singleton])
 have HJ3:Hid (aJ.length=wG.length):=qC (by rw[qA HJ2];simp only[hc3,xZ,List.length_append,List.length_cons];omega)
 have aH:wG.length≤90000:=by rw[qA HJ2];omega
 have iS:xB.length<wG.length:=by rw[qA HJ,qA HJ2];omega
 have qKu:Hid (fA (wG++[iN 6 0]) xB.length ((wG++[iN 6 0]).length:Int)=aJ++[iN 6 0]):=qC (by
  rw[List.length_append,qA HJ2,wZ,show xB++[iN 7 0]++o2.s++[iN 6 0]=xB++iN 7 0::(o2.s++[iN 6 0]) by simp,gT,hc3]
  simp[iN])
 have qED:Hid ((aJ++[iN 6 0]++o3.s).length=code.length+o1.s.length+1+o2.s.length+1+o3.s.length):=qC (by rw[List.length_append,qFG])
 have qKI:Hid (fA (aJ++[iN 6 0]++o3.s) wG.length ((aJ++[iN 6 0]++o3.s).length:Int)=code++(o1.s++iN 7 ((code.length+o1.s.length+1+o2.s.length+1:Nat):Int)::(o2.s++iN 6 ((code.length+o1.s.length+1+o2.s.length+1+o3.s.length:Nat):Int)::o3.s))):=qC (by
  rw[qA qED,show aJ++[iN 6 0]++o3.s=aJ++iN 6 0::o3.s by simp,←qA HJ3,gT,hc3,xZ]
  simp[iN])
 have qOC:(aJ++[iN 6 0]++o3.s).length≤100000:=by rw[qA qED];omega
 have qSC:wG.length<(aJ++[iN 6 0]++o3.s).length:=by rw[qA qED,qA HJ2];omega
 have HCE:=qC xZ
 have qJT:=qC wZ
 clear xZ wZ hc3 dA s1 s2 s3 ep eq' er' k0 k1 k2 xV HI HS hl2 sM rG qFG gM xH
 have dT:=qC (qA wK v b c _ (qA vG) (qA yF))
 clear wK
 go_enter Tryz.func149,Tryz.ntmps149
 go_wp2_with fail
 refine(qA dT).mono ?_
 rintro e w2 ⟨rfl,v2,b2,c2,fS,a7⟩
 obtain⟨yX,cA⟩:=qA dS v2 w2 a7
 have lV:=yX.lt
 obtain⟨z0,z2,z4⟩:=yX.cells
 have qH:=qC a7
 rw[←qA HCE]at fS
 have HL:=qC (tS (iN 7 0) fS aI)
 clear yX cA fS a7 dT m0 m1 m2 y0
 go_wp2_with fail
 refine(qA HL).mono ?_
 rintro e w3 ⟨rfl,v3,b3,c3,uK,mF⟩
 have rF:=(qA qH).trans mF
 obtain⟨wR,oD⟩:=qA dS v3 w3 rF
 have qJG:=wR.lt
 obtain⟨z0,z2,z4⟩:=wR.cells
 have y1:=qA xJ w3 oD
 have yK:=qC rF
 have yW:=qC (qA gO v3 b3 c3 w3 uK oD)
 clear wR oD uK mF rF HL qH gO
 go_wp2_with fail
 refine(qA yW).mono ?_
 rintro e w4 ⟨rfl,v4,b4,c4,hC4,hK4⟩
 have qCY:=(qA yK).trans hK4
 obtain⟨rH,hO4⟩:=qA dS v4 w4 qCY
 have qUK:=rH.lt
 obtain⟨z0,z2,z4⟩:=rH.cells
 have fG:=qC qCY
 rw[←qA qJT]at hC4
 have rY:=qC (tS (iN 6 0) hC4 (by omega))
 clear hC4 hK4 qCY rH hO4 yW yK y1
 go_wp2_with fail
 refine(qA rY).mono ?_
 rintro e w5 ⟨rfl,v5,b5,c5,oE,nU⟩
 have tV:=qC ((qA fG).trans nU)
 have HH:=qC (qAK xB.length oE (by simp only[List.length_append];omega) (by simp only[List.length_append,List.length_singleton];omega))
 rw[qA qKu]at HH
 clear oE nU rY fG
 go_wp2_with fail
 refine(qA HH).mono ?_
 rintro e w6 ⟨rfl,v6,b6,c6,hC6,hK6⟩
 have qJV:=(qA tV).trans hK6
 obtain⟨hB6,hO6⟩:=qA dS v6 w6 qJV
 have qYc:=hB6.lt
 obtain⟨z0,z2,z4⟩:=hB6.cells
 have y2:=qA HI2 w6 hO6
 have HK6:=qC qJV
 have tL:=qC (qA wI v6 b6 c6 w6 hC6 hO6)
 clear hB6 hO6 hC6 hK6 qJV HH tV wI
 go_wp2_with fail
 refine(qA tL).mono ?_
 rintro e w7 ⟨rfl,v7,b7,c7,hC7,hK7⟩
 have HK7:=qC ((qA HK6).trans hK7)
 have HH2:=qC (qAK wG.length hC7 qSC qOC)
 rw[qA qKI]at HH2
 clear hC7 hK7 tL HK6 y2
 go_wp2_with fail
 refine(qA HH2).mono ?_
 rintro e w8 ⟨rfl,v8,b8,c8,hC8,hK8⟩
 have HF:Hid (E.P v w ⟨o1.s++iN 7 ((code.length+o1.s.length+1+o2.s.length+1:Nat):Int)::(o2.s++iN 6 ((code.length+o1.s.length+1+o2.s.length+1+o3.s.length:Nat):Int)::o3.s),o3.x⟩ code w8):=qC ⟨v8,b8,c8,hC8,((qA yV).trans (qA HK7)).trans hK8⟩
 clear hC8 hK8 HH2
 go_wp2
 go_end0
 exact⟨rfl,qA HF⟩
theorem qNP{E:CE}(ho:E.Ok){n k lo:Nat}(vL:E.IH n)(hk:k≤n){m:TN}{x:SC}{b c:Nat}{v:Value}{code:List IR}{w:World}{pn:Option Addr}{cn:Nat}{pk:Option Addr}{ckp:Nat}(hm:E.ns[k]? = some m)(hS:y7 E.ns m.kids lo k)(hr:E.Room x code (k+1-lo))(hA:E.At w b c x v code)(hW:E.On w)(hI:∀ wx,E.On wx→vD wx pk m.kids)(bI:m.k=17)(mp mq:Nat)(xV:m.kids=[(mp:Int),(mq:Int)]){mb:TN}(tX:E.ns[mq]? = some mb)(htn:m.t≠⟨#[]⟩):Calls Tryz.prog 149 #[.pointer (some ⟨E.M,0,none⟩),.int .i64 (k:Int),.agg #[.int .i64 m.k,.int .i64 m.n,.string m.t,.slice pn m.names.length cn,.slice pk m.kids.length ckp]] w fun e w'=>e=.returned (.tuple #[])∧E.P v w ⟨iN 14 ((code.length+1+(E.g n (mp:Int) x (code.length+1)).s.length+2:Nat):Int)::((E.g n (mp:Int) x (code.length+1)).s++iN 15 0::iN 6 ((code.length+1+(E.g n (mp:Int) x (code.length+1)).s.length+2+(qA3 (E.g n) (mq:Int) mb.kids m.t (E.g n (mp:Int) x (code.length+1)).x (code.length+1+(E.g n (mp:Int) x (code.length+1)).s.length+2)).s.length:Nat):Int)::(qA3 (E.g n) (mq:Int) mb.kids m.t (E.g n (mp:Int) x (code.length+1)).x (code.length+1+(E.g n (mp:Int) x (code.length+1)).s.length+2)).s),(qA3 (E.g n) (mq:Int) mb.kids m.t (E.g n (mp:Int) x (code.length+1)).x (code.length+1+(E.g n (mp:Int) x (code.length+1)).s.length+2)).x⟩ code w':=by
 have qHK:=hS.le
 have fJ:=ho.small.1
 have rZ:m.t.size≤1048576:=(ho.small.2 m (List.mem_of_getElem? hm)).1
 have zN:m.kids.length≤1048576:=(ho.small.2 m (List.mem_of_getElem? hm)).2.2.1
 have vV:=yC.lt hA
 have mP:=hA.sc.lt
 have eA:=hr.1
 have iU:=hr.2
 obtain⟨va0,vc0,oI⟩:=yC.slice hA
 obtain⟨m0,m1,m2⟩:=yC.cells hA
 rw[oI]at m2
 have HI:=qC hI
 have xH:=qC vL
 have HO:=qC ho
 have HS:=qC hS
 have HA:=qC hA
 have HW:=qC hW
 have lU:=qC hr
 have xO:Hid (uC (w.alloc (.cells #[.int .i64 m.k,.int .i64 m.n,.string m.t,.slice pn m.names.length cn,.slice pk m.kids.length ckp] 128)) w.heap.size m pn cn pk ckp):=qC ⟨heap_alloc_new w _⟩
 have vG:Hid (E.At (w.alloc (.cells #[.int .i64 m.k,.int .i64 m.n,.string m.t,.slice pn m.names.length cn,.slice pk m.kids.length ckp] 128)) b c x v code):=qC (yC.later hA (qD w (.cells #[.int .i64 m.k,.int .i64 m.n,.string m.t,.slice pn m.names.length cn,.slice pk m.kids.length ckp] 128)))
 have yV:Hid (CK E.M E.X v v w (w.alloc (.cells #[.int .i64 m.k,.int .i64 m.n,.string m.t,.slice pn m.names.length cn,.slice pk m.kids.length ckp] 128))):=qC (CK.of_below (qD _ _))
 have yF:Hid (E.On (w.alloc (.cells #[.int .i64 m.k,.int .i64 m.n,.string m.t,.slice pn m.names.length cn,.slice pk m.kids.length ckp] 128))):=qC (hW.below (qD _ _))
 have dS:Hid (∀ v' wx,CK E.M E.X v v' (w.alloc (.cells #[.int .i64 m.k,.int .i64 m.n,.string m.t,.slice pn m.names.length cn,.slice pk m.kids.length ckp] 128)) wx→uC wx w.heap.size m pn cn pk ckp∧E.On wx):=qC (fun v' wx h=>⟨(qA xO).same (h.block _ (by simp) (by omega) (by omega) (fun e=>by have:=(yC.own hA _ e).2;omega)),(qA yF).ck ho (qA vG) h⟩)
 clear hA hW ho hI vL hS hr oI
 have e17:(m.k == 17)=true:=by rw[bI];rfl
 have e18:(m.k == 18)=false:=by rw[bI];rfl
 have e13:(m.k == 13)=false:=by rw[bI];rfl
 have e14:(m.k == 14)=false:=by rw[bI];rfl
 clear bI
 have hl2:m.kids.length=2:=by rw[xV];rfl
 have h0l:(0:Int)<(m.kids.length:Int):=by omega
 have h1l:(1:Int)<(m.kids.length:Int):=by omega
 have el2:((m.kids.length:Int) == 2)=true:=by rw[hl2];rfl
 have dA:=qA HS
 rw[xV]at dA
 obtain⟨mR,dC,ep,eq',s1,s2,g1,g2,g3⟩:=rA dA
 obtain rfl:mR=mp:=by omega
 obtain rfl:dC=mq:=by omega
 have gM:=xX (ns:=E.ns) (root:=E.root) (fs:=E.fs) (qA HO).fun' n
 obtain⟨kb,zY,kI,y0⟩:=(qA HI w (qA HW)) 0 (by omega)
 have k0:m.kids[0]'(by omega)=(mR:Int):=by simp[xV]
 have k1:m.kids[1]'(by omega)=(dC:Int):=by simp[xV]
 rw[k0,Nat.add_zero]at y0
 have qMm:kb<w.heap.size:=World.block_lt_of_cell? _ _ y0
 have HI0:Hid (∀ wx,E.On wx→wx.cell? ⟨kb,zY,none⟩=some (.int .i64 (mR:Int))):=qC (fun wx h=>by
  obtain⟨lP,kP,uH,y1⟩:=(qA HI wx h) 0 (by omega)
  rw[kI]at uH
  obtain⟨rfl,rfl⟩:kb=lP∧zY=kP:=by simpa using uH
  rw[k0,Nat.add_zero]at y1
  exact y1)
 have xJ:Hid (∀ wx,E.On wx→wx.cell? ⟨kb,zY+1,none⟩=some (.int .i64 (dC:Int))):=qC (fun wx h=>by
  obtain⟨lP,kP,uH,y1⟩:=(qA HI wx h) 1 (by omega)
  rw[kI]at uH
  obtain⟨rfl,rfl⟩:kb=lP∧zY=kP:=by simpa using uH
  rw[k1]at y1
  exact y1)
 subst kI
 obtain⟨c0',cM⟩:∃ c0',c0'=code++[iN 14 0]:=⟨_,rfl⟩
 have sM:(c0').length=code.length+1:=by first | rfl | simp only[cM,List.length_append,List.length_singleton,List.length_cons,List.length_nil]
 have wK:=qC (fun (v':Value) (b' c':Nat) (w':World) (h:E.At w' b' c' (x) v' (c0')) (eC:E.On w')=>qA xH mR lo (x) b' c' v' (c0') w' (by omega) s1 ⟨by omega,by rw[sM];omega⟩ h eC)
 unfold CE.Node at wK
 try simp only[sM]at wK
 have pl1:(E.g n (mR:Int) (x) (code.length+1)).x.nm.length≤_:=gM.len mR lo (x) (code.length+1) (by omega) s1
 have pi1:(E.g n (mR:Int) (x) (code.length+1)).s.length≤_:=gM.ins mR lo (x) (code.length+1) (by omega) s1
 generalize E.g n (mR:Int) (x) (code.length+1)=o1 at wK pl1 pi1 ⊢
 obtain⟨mz,xq,eq2,hq,_,hqk,_,_,hql,_⟩:=s2.head
 obtain rfl:mz=dC:=by omega
 obtain rfl:xq=mb:=Option.some.inj (hq.symm.trans tX)
 obtain⟨xB,xZ⟩:∃ xB,xB=c0'++o1.s:=⟨_,rfl⟩
 obtain⟨aJ,hc3⟩:∃ aJ,aJ=code++iN 14 ((code.length+1+o1.s.length+2:Nat):Int)::(o1.s++[iN 15 0]):=⟨_,rfl⟩
 have qFG:(aJ++[iN 6 0]).length=code.length+1+o1.s.length+2:=by simp only[hc3,List.length_append,List.length_singleton,List.length_cons,List.length_nil];omega
 have HJ:Hid (xB.length=code.length+1+o1.s.length):=qC (by simp only[xZ,cM,List.length_append,List.length_singleton])
 have aI:xB.length≤90000:=by rw[qA HJ];omega
 have HBN:=qC (fun (v':Value) (b' c':Nat) (w':World) (h:E.At w' b' c' o1.x v' (aJ++[iN 6 0])) (eC:E.On w')=>qPy (qA HO) (qA xH) (by omega) tX hqk h eC m.t ⟨by omega,by rw[qFG];omega⟩ htn rZ (by omega))
 simp only[qFG]at HBN
 have qYX:(qA3 (E.g n) (mz:Int) xq.kids m.t o1.x (code.length+1+o1.s.length+2)).s.length≤1+204*(mz-(mR+1)):=by
  have:=oN gM xq.kids (mR+1) mz (jG (qQ m.t (mz:Int) (jG o1.x))) (code.length+1+o1.s.length+2+1) hqk (by omega)
  show(_::(ck (cg E.ns E.root E.fs n) xq.kids (jG (qQ m.t (mz:Int) (jG o1.x))) (code.length+1+o1.s.length+2+1)).s).length≤_
  rw[List.length_cons]
  omega
 generalize qA3 (E.g n) (mz:Int) xq.kids m.t o1.x (code.length+1+o1.s.length+2)=o2 at HBN qYX ⊢
 have qKu:Hid (fA (xB++[iN 15 0]++[iN 6 0]) code.length ((xB++[iN 15 0]++[iN 6 0]).length:Int)=aJ++[iN 6 0]):=qC (by
  rw[show(xB++[iN 15 0]++[iN 6 0]).length=code.length+1+o1.s.length+2 by simp only[List.length_append,List.length_singleton,qA HJ],xZ,cM,show code++[iN 14 0]++o1.s++[iN 15 0]++[iN 6 0]=code++iN 14 0::(o1.s++[iN 15 0]++[iN 6 0]) by simp,gT,hc3]
  simp[iN])
 have qED:Hid ((aJ++[iN 6 0]++o2.s).length=code.length+1+o1.s.length+2+o2.s.length):=qC (by rw[List.length_append,qFG])
 have HJ3:Hid (aJ.length=(xB++[iN 15 0]).length):=qC (by rw[List.length_append,qA HJ];simp only[hc3,List.length_append,List.length_singleton,List.length_cons];omega)
 have qKI:Hid (fA (aJ++[iN 6 0]++o2.s) (xB++[iN 15 0]).length ((aJ++[iN 6 0]++o2.s).length:Int)=code++(iN 14 ((code.length+1+o1.s.length+2:Nat):Int)::(o1.s++iN 15 0::iN 6 ((code.length+1+o1.s.length+2+o2.s.length:Nat):Int)::o2.s))):=qC (by
  rw[qA qED,show aJ++[iN 6 0]++o2.s=aJ++iN 6 0::o2.s by simp,←qA HJ3,gT,hc3]
  simp[iN])
 have qOC:(aJ++[iN 6 0]++o2.s).length≤100000:=by rw[qA qED];omega
 obtain⟨cD,hcD⟩:∃ cD,cD=xB++[iN 15 0]:=⟨_,rfl⟩
 have qVh:cD.length≤100000:=by rw[hcD,List.length_append,List.length_singleton];omega
 have qSC:cD.length<(aJ++[iN 6 0]++o2.s).length:=by rw[hcD,←qA HJ3];simp only[List.length_append,List.length_singleton];omega
 have qYS:code.length<(cD++[iN 6 0]).length:=by rw[hcD];simp only[List.length_append,List.length_singleton,qA HJ];omega
 have hDl:cD.length=xB.length+1:=by rw[hcD,List.length_append,List.length_singleton]
 have qUG:(cD++[iN 6 0]).length≤100000:=by
  rw[List.length_append,List.length_singleton]
  omega
 clear hDl
 rw[←hcD]at qKu qKI
 have HCE:=qC xZ
 have qZC:=qC cM
 have qYV:=qC hcD
 have uW:=qC (tS (iN 14 0) (qA vG) (by omega))
 rw[←qA qZC]at uW
 clear cM xZ hc3 hcD dA s1 s2 ep eq' k0 k1 xV HI HS hl2 sM qFG gM xH eq2 hq hqk htn
 go_enter Tryz.func149,Tryz.ntmps149
 go_wp2_with fail
 refine(qA uW).mono ?_
 rintro e w2 ⟨rfl,v2,b2,c2,fS,a7⟩
 obtain⟨yX,cA⟩:=qA dS v2 w2 a7
 have lV:=yX.lt
 obtain⟨z0,z2,z4⟩:=yX.cells
 have y0':=qA HI0 w2 cA
 have qH:=qC a7
 have dT:=qC (qA wK v2 b2 c2 w2 fS cA)
 clear yX cA fS a7 uW wK m0 m1 m2 y0
 go_wp2_with fail
 refine(qA dT).mono ?_
 rintro e w3 ⟨rfl,v3,b3,c3,uK,mF⟩
 have yK:=qC ((qA qH).trans mF)
 rw[←qA HCE]at uK
 have cH:=qC (tS (iN 15 0) uK (by omega))
 rw[←qA qYV]at cH
 clear uK mF dT qH y0'
 go_wp2_with fail
 refine(qA cH).mono ?_
 rintro e w4 ⟨rfl,v4,b4,c4,hC4,hK4⟩
 have fG:=qC ((qA yK).trans hK4)
 have rY:=qC (tS (iN 6 0) hC4 qVh)
 clear hC4 hK4 cH yK
 go_wp2_with fail
 refine(qA rY).mono ?_
 rintro e w5 ⟨rfl,v5,b5,c5,oE,nU⟩
 have tV:=qC ((qA fG).trans nU)
 have HH:=qC (qAK code.length oE qYS qUG)
 rw[qA qKu]at HH
 clear oE nU rY fG
 go_wp2_with fail
 refine(qA HH).mono ?_
 rintro e w6 ⟨rfl,v6,b6,c6,hC6,hK6⟩
 have qJV:=(qA tV).trans hK6
 obtain⟨hB6,hO6⟩:=qA dS v6 w6 qJV
 have qYc:=hB6.lt
 obtain⟨z0,z2,z4⟩:=hB6.cells
 have y1:=qA xJ w6 hO6
 have HK6:=qC qJV
 have HBD:=qC (qA HBN v6 b6 c6 w6.drew (yC.drew' hC6) (hO6.below (qF (Below.refl _ _))))
 clear hB6 hO6 hC6 hK6 qJV HH tV HBN
 go_wp2
 go_region_with (go_at_call 163;refine(qA HBD).mono ?_;rintro e w7 ⟨rfl,v7,b7,c7,hC7,hK7⟩)
 all_goals
  have HK7:=qC (((qA HK6).trans (CK.of_below (qF (Below.refl _ _)))).trans hK7)
  have HH2:=qC (qAK cD.length hC7 qSC qOC)
  rw[qA qKI]at HH2
  clear hC7 hK7
 all_goals go_wp2_with fail
 all_goals refine(qA HH2).mono ?_
 all_goals
  rintro e w8 ⟨rfl,v8,b8,c8,hC8,hK8⟩
  have HF:Hid (E.P v w ⟨iN 14 ((code.length+1+o1.s.length+2:Nat):Int)::(o1.s++iN 15 0::iN 6 ((code.length+1+o1.s.length+2+o2.s.length:Nat):Int)::o2.s),o2.x⟩ code w8):=qC ⟨v8,b8,c8,hC8,((qA yV).trans (qA HK7)).trans hK8⟩
  clear hC8 hK8
 all_goals go_wp2
 all_goals
  go_end0
  exact⟨rfl,qA HF⟩
theorem qQf{E:CE}(ho:E.Ok){m:TN}{x:SC}{b c:Nat}{v:Value}{code:List IR}{w:World}{pn:Option Addr}{cn:Nat}{pk:Option Addr}{ckp:Nat}(zN:m.kids.length≤1048576)(hl:code.length≤95000)(hA:E.At w b c x v code)(hW:E.On w)(hf:bL E.ns E.root m.t<0):Calls Tryz.prog 148 #[.pointer (some ⟨E.M,0,none⟩),.agg #[.int .i64 m.k,.int .i64 m.n,.string m.t,.slice pn m.names.length cn,.slice pk m.kids.length ckp]] w fun e w'=>e=.returned (.tuple #[])∧E.P v w ⟨tT E.ns E.root E.fs m.t m.kids.length,x⟩ code w':=by
 have hci:tT E.ns E.root E.fs m.t m.kids.length=[⟨11,(m.kids.length:Int),0,m.t,0,0,e0⟩]:=by unfold tT;rw[if_pos hf]
 rw[hci]
 have vV:=yC.lt hA
 have mP:=hA.sc.lt
 obtain⟨m0,m1,m2⟩:=yC.cells hA
 obtain⟨d0,d1,d2,d3,d4,d5,d6⟩:=hA.sc.blk.cells
 have hfl:=ho.fun'
 unfold CE.t0 at d0
 unfold CE.t1 at d1
 unfold CE.fv at m1
 have HO:=qC ho
 have xO:Hid (uC (w.alloc (.cells #[.int .i64 m.k,.int .i64 m.n,.string m.t,.slice pn m.names.length cn,.slice pk m.kids.length ckp] 128)) w.heap.size m pn cn pk ckp):=qC ⟨heap_alloc_new w _⟩
 have vG:Hid (E.At (w.alloc (.cells #[.int .i64 m.k,.int .i64 m.n,.string m.t,.slice pn m.names.length cn,.slice pk m.kids.length ckp] 128)) b c x v code):=qC (yC.later hA (qD w (.cells #[.int .i64 m.k,.int .i64 m.n,.string m.t,.slice pn m.names.length cn,.slice pk m.kids.length ckp] 128)))
 have yV:Hid (CK E.M E.X v v w (w.alloc (.cells #[.int .i64 m.k,.int .i64 m.n,.string m.t,.slice pn m.names.length cn,.slice pk m.kids.length ckp] 128))):=qC (CK.of_below (qD _ _))
 have yF:Hid (E.On (w.alloc (.cells #[.int .i64 m.k,.int .i64 m.n,.string m.t,.slice pn m.names.length cn,.slice pk m.kids.length ckp] 128))):=qC (hW.below (qD _ _))
 have dS:Hid (∀ v' wx,CK E.M E.X v v' (w.alloc (.cells #[.int .i64 m.k,.int .i64 m.n,.string m.t,.slice pn m.names.length cn,.slice pk m.kids.length ckp] 128)) wx→uC wx w.heap.size m pn cn pk ckp∧E.On wx):=qC (fun v' wx h=>⟨(qA xO).same (h.block _ (by simp) (by omega) (by omega) (fun e=>by have:=(yC.own hA _ e).2;omega)),(qA yF).ck ho (qA vG) h⟩)
 have HWD:Hid (E.On (w.alloc (.cells #[.int .i64 m.k,.int .i64 m.n,.string m.t,.slice pn m.names.length cn,.slice pk m.kids.length ckp] 128)).drew):=qC ((qA yF).below (qF (Below.refl _ _)))
 have HFN:Hid (Calls Tryz.prog 162 #[.agg #[.slice E.L.p E.ns.length E.L.cap,.int .i64 E.root],.string m.t] (w.alloc (.cells #[.int .i64 m.k,.int .i64 m.n,.string m.t,.slice pn m.names.length cn,.slice pk m.kids.length ckp] 128)).drew fun e w'=>e=.returned (.int .i64 (bL E.ns E.root m.t))∧Below (w.alloc (.cells #[.int .i64 m.k,.int .i64 m.n,.string m.t,.slice pn m.names.length cn,.slice pk m.kids.length ckp] 128)).drew.heap.size (w.alloc (.cells #[.int .i64 m.k,.int .i64 m.n,.string m.t,.slice pn m.names.length cn,.slice pk m.kids.length ckp] 128)).drew w'):=qC (by
  refine(gR E.ns E.root m.t E.L _ (ho.nodes.later (qA HWD)) ho.small ho.ok).mono ?_
  rintro e w' ⟨r,rfl,hF,fR⟩
  rw[tA hF]
  exact⟨rfl,fR⟩)
 clear hA hW ho
 generalize bL E.ns E.root m.t=fz at HFN hf
 clear hci
 go_enter Tryz.func148,Tryz.ntmps148
 go_wp2
 go_region_with (go_at_call 162;refine(qA HFN).mono ?_;rintro e y ⟨rfl,jR⟩)
 all_goals
  have xU:Below (w.alloc (.cells #[.int .i64 m.k,.int .i64 m.n,.string m.t,.slice pn m.names.length cn,.slice pk m.kids.length ckp] 128)).heap.size (w.alloc (.cells #[.int .i64 m.k,.int .i64 m.n,.string m.t,.slice pn m.names.length cn,.slice pk m.kids.length ckp] 128)) y:=(qF (Below.refl _ _)).trans jR
  have hA2:E.At y b c x v code:=yC.later (qA vG) xU
  have yA:CK E.M E.X v v (w.alloc (.cells #[.int .i64 m.k,.int .i64 m.n,.string m.t,.slice pn m.names.length cn,.slice pk m.kids.length ckp] 128)) y:=CK.of_below xU
  obtain⟨yX,cA⟩:=qA dS v y yA
  have lV:=yX.lt
  obtain⟨z0,z2,z4⟩:=yX.cells
  obtain⟨n0,n1,n2⟩:=yC.cells hA2
  unfold CE.fv at n1
  have hMy:=yC.lt hA2
  have xP:=qC hA2
  have qH:=qC yA
  clear xU jR yX cA hA2 yA m0 m1 m2 d0 d1 d2 d3 d4 d5 d6
  have HL:=qC (tS ⟨11,(m.kids.length:Int),0,m.t,0,0,e0⟩ (qA xP) (by omega))
 all_goals go_wp2_with fail
 all_goals refine(qA HL).mono ?_
 all_goals
  rintro e w3 ⟨rfl,v3,b3,c3,uK,mF⟩
  have HF:Hid (E.P v w ⟨[⟨11,(m.kids.length:Int),0,m.t,0,0,e0⟩],x⟩ code w3):=qC ⟨v3,b3,c3,uK,((qA yV).trans (qA qH)).trans mF⟩
  clear uK mF
 all_goals go_wp2
 all_goals exact bodyPost_ret (results_none rfl _ _ _) rfl ⟨rfl,qA HF⟩
def wV(fs:List Int)(f:Int)(c i:Nat):List IR:=(qBf fs f i).map fun (j:Nat)=>(⟨10,1+(j:Int),(c:Int),e0,0,0,e0⟩:IR)
theorem oR(fs:List Int)(f:Int)(c i:Nat)(h:fs[i]? = some f):wV fs f c (i+1)=wV fs f c i++[⟨10,1+(i:Int),(c:Int),e0,0,0,e0⟩]:=by
 show(qBf fs f i++(if fs[i]? = some f then [i] else [])).map _=_
 rw[if_pos h,List.map_append]
 rfl
theorem qCL(fs:List Int)(f:Int)(c i:Nat)(h:¬fs[i]? = some f):wV fs f c (i+1)=wV fs f c i:=by
 show(qBf fs f i++(if fs[i]? = some f then [i] else [])).map _=_
 rw[if_neg h,List.append_nil]
 rfl
theorem o0(fs:List Int)(f:Int)(c i:Nat):(wV fs f c i).length≤i:=by unfold wV;rw[List.length_map];exact qCv fs f i
theorem qP3{E:CE}(ho:E.Ok){m:TN}{x:SC}{b c:Nat}{v:Value}{code:List IR}{w:World}{pn:Option Addr}{cn:Nat}{pk:Option Addr}{ckp:Nat}(zN:m.kids.length≤1048576)(hl:code.length≤95000)(hA:E.At w b c x v code)(hW:E.On w)(hf:0≤bL E.ns E.root m.t):Calls Tryz.prog 148 #[.pointer (some ⟨E.M,0,none⟩),.agg #[.int .i64 m.k,.int .i64 m.n,.string m.t,.slice pn m.names.length cn,.slice pk m.kids.length ckp]] w fun e w'=>e=.returned (.tuple #[])∧E.P v w ⟨tT E.ns E.root E.fs m.t m.kids.length,x⟩ code w':=by
 have hci:tT E.ns E.root E.fs m.t m.kids.length=wV E.fs (bL E.ns E.root m.t) m.kids.length E.fs.length:=by unfold tT;rw[if_neg (by omega)];rfl
 rw[hci]
 have vV:=yC.lt hA
 have mP:=hA.sc.lt
 obtain⟨m0,m1,m2⟩:=yC.cells hA
 obtain⟨d0,d1,d2,d3,d4,d5,d6⟩:=hA.sc.blk.cells
 have hfl:=ho.fun'
 unfold CE.t0 at d0
 unfold CE.t1 at d1
 unfold CE.fv at m1
 have HO:=qC ho
 have xO:Hid (uC (w.alloc (.cells #[.int .i64 m.k,.int .i64 m.n,.string m.t,.slice pn m.names.length cn,.slice pk m.kids.length ckp] 128)) w.heap.size m pn cn pk ckp):=qC ⟨heap_alloc_new w _⟩
 have vG:Hid (E.At (w.alloc (.cells #[.int .i64 m.k,.int .i64 m.n,.string m.t,.slice pn m.names.length cn,.slice pk m.kids.length ckp] 128)) b c x v code):=qC (yC.later hA (qD w (.cells #[.int .i64 m.k,.int .i64 m.n,.string m.t,.slice pn m.names.length cn,.slice pk m.kids.length ckp] 128)))
 have yV:Hid (CK E.M E.X v v w (w.alloc (.cells #[.int .i64 m.k,.int .i64 m.n,.string m.t,.slice pn m.names.length cn,.slice pk m.kids.length ckp] 128))):=qC (CK.of_below (qD _ _))
 have yF:Hid (E.On (w.alloc (.cells #[.int .i64 m.k,.int .i64 m.n,.string m.t,.slice pn m.names.length cn,.slice pk m.kids.length ckp] 128))):=qC (hW.below (qD _ _))
 have dS:Hid (∀ v' wx,CK E.M E.X v v' (w.alloc (.cells #[.int .i64 m.k,.int .i64 m.n,.string m.t,.slice pn m.names.length cn,.slice pk m.kids.length ckp] 128)) wx→uC wx w.heap.size m pn cn pk ckp∧E.On wx):=qC (fun v' wx h=>⟨(qA xO).same (h.block _ (by simp) (by omega) (by omega) (fun e=>by have:=(yC.own hA _ e).2;omega)),(qA yF).ck ho (qA vG) h⟩)
 have HWD:Hid (E.On (w.alloc (.cells #[.int .i64 m.k,.int .i64 m.n,.string m.t,.slice pn m.names.length cn,.slice pk m.kids.length ckp] 128)).drew):=qC ((qA yF).below (qF (Below.refl _ _)))
 have HFN:Hid (Calls Tryz.prog 162 #[.agg #[.slice E.L.p E.ns.length E.L.cap,.int .i64 E.root],.string m.t] (w.alloc (.cells #[.int .i64 m.k,.int .i64 m.n,.string m.t,.slice pn m.names.length cn,.slice pk m.kids.length ckp] 128)).drew fun e w'=>e=.returned (.int .i64 (bL E.ns E.root m.t))∧Below (w.alloc (.cells #[.int .i64 m.k,.int .i64 m.n,.string m.t,.slice pn m.names.length cn,.slice pk m.kids.length ckp] 128)).drew.heap.size (w.alloc (.cells #[.int .i64 m.k,.int .i64 m.n,.string m.t,.slice pn m.names.length cn,.slice pk m.kids.length ckp] 128)).drew w'):=qC (by
  refine(gR E.ns E.root m.t E.L _ (ho.nodes.later (qA HWD)) ho.small ho.ok).mono ?_
  rintro e w' ⟨r,rfl,hF,fR⟩
  rw[tA hF]
  exact⟨rfl,fR⟩)
 clear hA hW ho
 generalize bL E.ns E.root m.t=fz at HFN hf ⊢
 have hf':¬fz<0:=by omega
 have HFS:Hid (∀ wx,E.On wx→vD wx E.fp E.fs):=qC (fun wx h=>(qA HO).funs.later h)
 clear hci
 generalize hfp:E.fp=fp at HFS m1
 have qMj:=qC hfp
 clear hfp
 go_enter Tryz.func148,Tryz.ntmps148
 go_wp2
 go_region_with (go_at_call 162;refine(qA HFN).mono ?_;rintro e y ⟨rfl,jR⟩)
 ·skip
  have xU:Below (w.alloc (.cells #[.int .i64 m.k,.int .i64 m.n,.string m.t,.slice pn m.names.length cn,.slice pk m.kids.length ckp] 128)).heap.size (w.alloc (.cells #[.int .i64 m.k,.int .i64 m.n,.string m.t,.slice pn m.names.length cn,.slice pk m.kids.length ckp] 128)) y:=(qF (Below.refl _ _)).trans jR
  have hA2:E.At y b c x v code:=yC.later (qA vG) xU
  have yA:CK E.M E.X v v (w.alloc (.cells #[.int .i64 m.k,.int .i64 m.n,.string m.t,.slice pn m.names.length cn,.slice pk m.kids.length ckp] 128)) y:=CK.of_below xU
  obtain⟨yX,cA⟩:=qA dS v y yA
  have lV:=yX.lt
  obtain⟨z0,z2,z4⟩:=yX.cells
  obtain⟨n0,n1,n2⟩:=yC.cells hA2
  unfold CE.fv at n1
  have hMy:=yC.lt hA2
  have xP:=qC hA2
  have qH:=qC yA
  clear xU jR yX cA hA2 yA m0 m1 m2 d0 d1 d2 d3 d4 d5 d6
  rw[qA qMj]at n1
  go_wp2
  clear z0 z2 z4 n0 n1 n2
  go_loopw[5] (fun i wx=>∃ (j b' c':Nat) (v':Value) (kC:List IR),j≤E.fs.length∧i=.int .i64 j∧Hid (E.At wx b' c' x v' kC)∧Hid (CK E.M E.X v v' (w.alloc (.cells #[.int .i64 m.k,.int .i64 m.n,.string m.t,.slice pn m.names.length cn,.slice pk m.kids.length ckp] 128)) wx)∧Hid (kC=code++wV E.fs fz m.kids.length j)) (fun i _=>E.fs.length-(intOf i).toNat)
  case atStart=>exact⟨0,b,c,v,code,by omega,rfl,xP,qH,qC (by show code=code++[];simp)⟩
  case round=>
   obtain⟨j,b',c',v',kC,hj,rfl,vK,uM,hCE⟩:=hrel
   obtain⟨wR,oD⟩:=qA dS v' wr (qA uM)
   have qJG:=wR.lt
   obtain⟨z0,z2,z4⟩:=wR.cells
   obtain⟨n0,n1,n2⟩:=yC.cells (qA vK)
   unfold CE.fv at n1
   rw[qA qMj]at n1
   have hMr:=yC.lt (qA vK)
   have HO3:=qC oD
   clear wR oD
   by_cases jF:j<E.fs.length
   ·obtain⟨kb,zY,kI,y0⟩:=(qA HFS wr (qA HO3)) j jF
    rw[kI]at n1
    clear kI
    have hge:E.fs[j]? = some E.fs[j]:=List.getElem?_eq_getElem jF
    have HY:=qC (fun (h:E.fs[j]=fz)=>oR E.fs fz m.kids.length j (by rw[hge,h]))
    have HN:=qC (fun (h:¬E.fs[j]=fz)=>qCL E.fs fz m.kids.length j (by rw[hge];simpa using h))
    have dZ:kC.length≤100000:=by
     rw[qA hCE,List.length_append]
     have:=o0 E.fs fz m.kids.length j
     omega
    clear hge
    generalize E.fs[j]=g at y0 HY HN
    by_cases hg:g=fz
    ·have HE:=qC (qA HY hg)
     subst hg
     have eg:(g == g)=true:=by simp
     have HL:=qC (tS ⟨10,1+(j:Int),(m.kids.length:Int),e0,0,0,e0⟩ (qA vK) dZ)
     clear HY HN
     go_wp2_with fail
     refine(qA HL).mono ?_
     rintro e w3 ⟨rfl,v3,b3,c3,uK,mF⟩
     have tL:Hid (E.At w3 b3 c3 x v3 (kC++[⟨10,1+(j:Int),(m.kids.length:Int),e0,0,0,e0⟩])):=qC uK
     have yK:=qC ((qA uM).trans mF)
     have rR:Hid (kC++[⟨10,1+(j:Int),(m.kids.length:Int),e0,0,0,e0⟩]=code++wV E.fs g m.kids.length (j+1)):=qC (by rw[qA hCE,qA HE,List.append_assoc])
     clear uK mF HL HE
     go_wp2
     go_roundw
     case rel=>exact⟨j+1,b3,c3,v3,_,by omega,by go_num,tL,yK,rR⟩
     case measure=>simp[intOf];omega
    ·have eg:(g == fz)=false:=beq_eq_false_iff_ne.2 hg
     have rR:Hid (kC=code++wV E.fs fz m.kids.length (j+1)):=qC (by rw[qA HN hg];exact qA hCE)
     clear HY HN hg
     go_wp2
     go_roundw
     case rel=>exact⟨j+1,b',c',v',kC,by omega,by go_num,vK,uM,rR⟩
     case measure=>simp[intOf];omega
   ·obtain rfl:j=E.fs.length:=by omega
    have HF:Hid (E.P v w ⟨wV E.fs fz m.kids.length E.fs.length,x⟩ code wr):=qC ⟨v',b',c',by show yC _ _ _ _ _ _ _ _ _ _ _ (code++wV E.fs fz m.kids.length E.fs.length);rw[←qA hCE];exact qA vK,(qA yV).trans (qA uM)⟩
    go_wp2
    go_end0
    exact⟨rfl,qA HF⟩
 ·skip
  have xU:Below (w.alloc (.cells #[.int .i64 m.k,.int .i64 m.n,.string m.t,.slice pn m.names.length cn,.slice pk m.kids.length ckp] 128)).heap.size (w.alloc (.cells #[.int .i64 m.k,.int .i64 m.n,.string m.t,.slice pn m.names.length cn,.slice pk m.kids.length ckp] 128)) y:=(qF (Below.refl _ _)).trans jR
  have hA2:E.At y b c x v code:=yC.later (qA vG) xU
  have yA:CK E.M E.X v v (w.alloc (.cells #[.int .i64 m.k,.int .i64 m.n,.string m.t,.slice pn m.names.length cn,.slice pk m.kids.length ckp] 128)) y:=CK.of_below xU
  obtain⟨yX,cA⟩:=qA dS v y yA
  have lV:=yX.lt
  obtain⟨z0,z2,z4⟩:=yX.cells
  obtain⟨n0,n1,n2⟩:=yC.cells hA2
  unfold CE.fv at n1
  have hMy:=yC.lt hA2
  have xP:=qC hA2
  have qH:=qC yA
  clear xU jR yX cA hA2 yA m0 m1 m2 d0 d1 d2 d3 d4 d5 d6
  rw[qA qMj]at n1
  go_wp2
  clear z0 z2 z4 n0 n1 n2
  go_loopw[5] (fun i wx=>∃ (j b' c':Nat) (v':Value) (kC:List IR),j≤E.fs.length∧i=.int .i64 j∧Hid (E.At wx b' c' x v' kC)∧Hid (CK E.M E.X v v' (w.alloc (.cells #[.int .i64 m.k,.int .i64 m.n,.string m.t,.slice pn m.names.length cn,.slice pk m.kids.length ckp] 128)) wx)∧Hid (kC=code++wV E.fs fz m.kids.length j)) (fun i _=>E.fs.length-(intOf i).toNat)
  case atStart=>exact⟨0,b,c,v,code,by omega,rfl,xP,qH,qC (by show code=code++[];simp)⟩
  case round=>
   obtain⟨j,b',c',v',kC,hj,rfl,vK,uM,hCE⟩:=hrel
   obtain⟨wR,oD⟩:=qA dS v' wr (qA uM)
   have qJG:=wR.lt
   obtain⟨z0,z2,z4⟩:=wR.cells
   obtain⟨n0,n1,n2⟩:=yC.cells (qA vK)
   unfold CE.fv at n1
   rw[qA qMj]at n1
   have hMr:=yC.lt (qA vK)
   have HO3:=qC oD
   clear wR oD
   by_cases jF:j<E.fs.length
   ·obtain⟨kb,zY,kI,y0⟩:=(qA HFS wr (qA HO3)) j jF
    rw[kI]at n1
    clear kI
    have hge:E.fs[j]? = some E.fs[j]:=List.getElem?_eq_getElem jF
    have HY:=qC (fun (h:E.fs[j]=fz)=>oR E.fs fz m.kids.length j (by rw[hge,h]))
    have HN:=qC (fun (h:¬E.fs[j]=fz)=>qCL E.fs fz m.kids.length j (by rw[hge];simpa using h))
    have dZ:kC.length≤100000:=by
     rw[qA hCE,List.length_append]
     have:=o0 E.fs fz m.kids.length j
     omega
    clear hge
    generalize E.fs[j]=g at y0 HY HN
    by_cases hg:g=fz
    ·have HE:=qC (qA HY hg)
     subst hg
     have eg:(g == g)=true:=by simp
     have HL:=qC (tS ⟨10,1+(j:Int),(m.kids.length:Int),e0,0,0,e0⟩ (qA vK) dZ)
     clear HY HN
     go_wp2_with fail
     refine(qA HL).mono ?_
     rintro e w3 ⟨rfl,v3,b3,c3,uK,mF⟩
     have tL:Hid (E.At w3 b3 c3 x v3 (kC++[⟨10,1+(j:Int),(m.kids.length:Int),e0,0,0,e0⟩])):=qC uK
     have yK:=qC ((qA uM).trans mF)
     have rR:Hid (kC++[⟨10,1+(j:Int),(m.kids.length:Int),e0,0,0,e0⟩]=code++wV E.fs g m.kids.length (j+1)):=qC (by rw[qA hCE,qA HE,List.append_assoc])
     clear uK mF HL HE
     go_wp2
     go_roundw
     case rel=>exact⟨j+1,b3,c3,v3,_,by omega,by go_num,tL,yK,rR⟩
     case measure=>simp[intOf];omega
    ·have eg:(g == fz)=false:=beq_eq_false_iff_ne.2 hg
     have rR:Hid (kC=code++wV E.fs fz m.kids.length (j+1)):=qC (by rw[qA HN hg];exact qA hCE)
     clear HY HN hg
     go_wp2
     go_roundw
     case rel=>exact⟨j+1,b',c',v',kC,by omega,by go_num,vK,uM,rR⟩
     case measure=>simp[intOf];omega
   ·obtain rfl:j=E.fs.length:=by omega
    have HF:Hid (E.P v w ⟨wV E.fs fz m.kids.length E.fs.length,x⟩ code wr):=qC ⟨v',b',c',by show yC _ _ _ _ _ _ _ _ _ _ _ (code++wV E.fs fz m.kids.length E.fs.length);rw[←qA hCE];exact qA vK,(qA yV).trans (qA uM)⟩
    go_wp2
    go_end0
    exact⟨rfl,qA HF⟩
 ·skip
  have xU:Below (w.alloc (.cells #[.int .i64 m.k,.int .i64 m.n,.string m.t,.slice pn m.names.length cn,.slice pk m.kids.length ckp] 128)).heap.size (w.alloc (.cells #[.int .i64 m.k,.int .i64 m.n,.string m.t,.slice pn m.names.length cn,.slice pk m.kids.length ckp] 128)) y:=(qF (Below.refl _ _)).trans jR
  have hA2:E.At y b c x v code:=yC.later (qA vG) xU
  have yA:CK E.M E.X v v (w.alloc (.cells #[.int .i64 m.k,.int .i64 m.n,.string m.t,.slice pn m.names.length cn,.slice pk m.kids.length ckp] 128)) y:=CK.of_below xU
  obtain⟨yX,cA⟩:=qA dS v y yA
  have lV:=yX.lt
  obtain⟨z0,z2,z4⟩:=yX.cells
  obtain⟨n0,n1,n2⟩:=yC.cells hA2
  unfold CE.fv at n1
  have hMy:=yC.lt hA2
  have xP:=qC hA2
  have qH:=qC yA
  clear xU jR yX cA hA2 yA m0 m1 m2 d0 d1 d2 d3 d4 d5 d6
  rw[qA qMj]at n1
  go_wp2
  clear z0 z2 z4 n0 n1 n2
  go_loopw[5] (fun i wx=>∃ (j b' c':Nat) (v':Value) (kC:List IR),j≤E.fs.length∧i=.int .i64 j∧Hid (E.At wx b' c' x v' kC)∧Hid (CK E.M E.X v v' (w.alloc (.cells #[.int .i64 m.k,.int .i64 m.n,.string m.t,.slice pn m.names.length cn,.slice pk m.kids.length ckp] 128)) wx)∧Hid (kC=code++wV E.fs fz m.kids.length j)) (fun i _=>E.fs.length-(intOf i).toNat)
  case atStart=>exact⟨0,b,c,v,code,by omega,rfl,xP,qH,qC (by show code=code++[];simp)⟩
  case round=>
   obtain⟨j,b',c',v',kC,hj,rfl,vK,uM,hCE⟩:=hrel
   obtain⟨wR,oD⟩:=qA dS v' wr (qA uM)
   have qJG:=wR.lt
   obtain⟨z0,z2,z4⟩:=wR.cells
   obtain⟨n0,n1,n2⟩:=yC.cells (qA vK)
   unfold CE.fv at n1
   rw[qA qMj]at n1
   have hMr:=yC.lt (qA vK)
   have HO3:=qC oD
   clear wR oD
   by_cases jF:j<E.fs.length
   ·obtain⟨kb,zY,kI,y0⟩:=(qA HFS wr (qA HO3)) j jF
    rw[kI]at n1
    clear kI
    have hge:E.fs[j]? = some E.fs[j]:=List.getElem?_eq_getElem jF
    have HY:=qC (fun (h:E.fs[j]=fz)=>oR E.fs fz m.kids.length j (by rw[hge,h]))
    have HN:=qC (fun (h:¬E.fs[j]=fz)=>qCL E.fs fz m.kids.length j (by rw[hge];simpa using h))
    have dZ:kC.length≤100000:=by
     rw[qA hCE,List.length_append]
     have:=o0 E.fs fz m.kids.length j
     omega
    clear hge
    generalize E.fs[j]=g at y0 HY HN
    by_cases hg:g=fz
    ·have HE:=qC (qA HY hg)
     subst hg
     have eg:(g == g)=true:=by simp
     have HL:=qC (tS ⟨10,1+(j:Int),(m.kids.length:Int),e0,0,0,e0⟩ (qA vK) dZ)
     clear HY HN
     go_wp2_with fail
     refine(qA HL).mono ?_
     rintro e w3 ⟨rfl,v3,b3,c3,uK,mF⟩
     have tL:Hid (E.At w3 b3 c3 x v3 (kC++[⟨10,1+(j:Int),(m.kids.length:Int),e0,0,0,e0⟩])):=qC uK
     have yK:=qC ((qA uM).trans mF)
     have rR:Hid (kC++[⟨10,1+(j:Int),(m.kids.length:Int),e0,0,0,e0⟩]=code++wV E.fs g m.kids.length (j+1)):=qC (by rw[qA hCE,qA HE,List.append_assoc])
     clear uK mF HL HE
     go_wp2
     go_roundw
     case rel=>exact⟨j+1,b3,c3,v3,_,by omega,by go_num,tL,yK,rR⟩
     case measure=>simp[intOf];omega
    ·have eg:(g == fz)=false:=beq_eq_false_iff_ne.2 hg
     have rR:Hid (kC=code++wV E.fs fz m.kids.length (j+1)):=qC (by rw[qA HN hg];exact qA hCE)
     clear HY HN hg
     go_wp2
     go_roundw
     case rel=>exact⟨j+1,b',c',v',kC,by omega,by go_num,vK,uM,rR⟩
     case measure=>simp[intOf];omega
   ·obtain rfl:j=E.fs.length:=by omega
    have HF:Hid (E.P v w ⟨wV E.fs fz m.kids.length E.fs.length,x⟩ code wr):=qC ⟨v',b',c',by show yC _ _ _ _ _ _ _ _ _ _ _ (code++wV E.fs fz m.kids.length E.fs.length);rw[←qA hCE];exact qA vK,(qA yV).trans (qA uM)⟩
    go_wp2
    go_end0
    exact⟨rfl,qA HF⟩
theorem qOn{E:CE}(ho:E.Ok){n k lo:Nat}(vL:E.IH n)(hk:k≤n){m:TN}{x:SC}{b c:Nat}{v:Value}{code:List IR}{w:World}(hm:E.ns[k]? = some m)(hS:y7 E.ns m.kids lo k)(hr:E.Room x code (k+1-lo))(hA:E.At w b c x v code)(hW:E.On w)(wS:m.k=10)(hR:E.g (n+1) (k:Int) x code.length=⟨(ck (E.g n) m.kids x code.length).s++tT E.ns E.root E.fs m.t m.kids.length,(ck (E.g n) m.kids x code.length).x⟩):E.Node (n+1) k x v code w:=by
 unfold CE.Node
 rw[hR]
 obtain⟨pn,cn,pk,ckp,nb,jK,wC,fJ,rZ,zN,vV,mP,m0,m1,m2,d0,d1,q0,q1,q2,q3,q4,HP,HI,xO,vG,yV,yF,dS⟩:=vH ho hm hA hW
 obtain⟨-,-,d2,d3,d4,d5,d6⟩:=hA.sc.blk.cells
 have eA:=hr.1
 have iU:=hr.2
 have xH:=qC vL
 have HO:=qC ho
 have HS:=qC hS
 have HA:=qC hA
 have HW:=qC hW
 have lU:=qC hr
 clear vL hS hR hr hA hW ho
 have e10:(m.k == 10)=true:=by rw[wS];rfl
 have e1:(m.k == 1)=false:=by rw[wS];rfl
 have e2:(m.k == 2)=false:=by rw[wS];rfl
 have e3:(m.k == 3)=false:=by rw[wS];rfl
 have e4:(m.k == 4)=false:=by rw[wS];rfl
 have e5:(m.k == 5)=false:=by rw[wS];rfl
 have e6:(m.k == 6)=false:=by rw[wS];rfl
 have e7:(m.k == 7)=false:=by rw[wS];rfl
 have e8:(m.k == 8)=false:=by rw[wS];rfl
 have e9:(m.k == 9)=false:=by rw[wS];rfl
 clear wS
 have qHK:=(qA HS).le
 have aH:(code++(ck (E.g n) m.kids x code.length).s).length≤95000:=by
  have h1:(ck (E.g n) m.kids x code.length).s.length≤_:=oN (xX (ns:=E.ns) (root:=E.root) (fs:=E.fs) (qA HO).fun' n) m.kids lo k x code.length (qA HS) hk
  rw[List.length_append]
  omega
 have dU:=r9 (qA HO) (qA HS) hk (qA lU)
 have bN:=qC (aA (qA HO) (qA xH) hk (pn:=pn) (cn:=cn) (pk:=pk) (ckp:=ckp) (m:=m) (qA HS) ⟨by omega,by omega⟩ (qA vG) (qA yF) (qA HI) zN)
 generalize ck (E.g n) m.kids x code.length=co at bN dU aH ⊢
 go_enter Tryz.func118,Tryz.ntmps118
 go_wp2_with fail
 refine(qA bN).mono ?_
 rintro e w2 ⟨rfl,v2,b2,c2,fS,yA⟩
 obtain⟨yX,cA⟩:=qA dS v2 w2 yA
 have lV:=yX.lt
 obtain⟨z0,z2,z4⟩:=yX.cells
 have z1:w2.cell? ⟨w.heap.size,1,none⟩=some (.int .i64 m.n):=(cell_of_block yX.blk 1).trans rfl
 have z3:w2.cell? ⟨w.heap.size,3,none⟩=some (.slice pn m.names.length cn):=(cell_of_block yX.blk 3).trans rfl
 have uF:=qC yX
 have HO2:=qC cA
 have yJ:Hid (E.At w2 b2 c2 co.x v2 (code++co.s)):=qC fS
 have qH:=qC ((qA yV).trans yA)
 clear yX cA fS yA bN m0 m1 m2 d0 d1 d2 d3 d4 d5 d6 q0 q1 q2 q3 q4
 have HL:Hid (Calls Tryz.prog 148 #[.pointer (some ⟨E.M,0,none⟩),.agg #[.int .i64 m.k,.int .i64 m.n,.string m.t,.slice pn m.names.length cn,.slice pk m.kids.length ckp]] w2 fun e w'=>e=.returned (.tuple #[])∧E.P v2 w2 ⟨tT E.ns E.root E.fs m.t m.kids.length,co.x⟩ (code++co.s) w'):=qC (by
  by_cases hf:0≤bL E.ns E.root m.t
  ·exact qP3 (qA HO) zN aH (qA yJ) (qA HO2) hf
  ·exact qQf (qA HO) zN aH (qA yJ) (qA HO2) (by omega))
 go_wp2_with fail
 refine(qA HL).mono ?_
 rintro e w3 ⟨rfl,v3,b3,c3,uK,mF⟩
 have HF:Hid (E.P v w ⟨co.s++tT E.ns E.root E.fs m.t m.kids.length,co.x⟩ code w3):=qC ⟨v3,b3,c3,by rw[List.append_assoc]at uK;exact uK,(qA qH).trans mF⟩
 clear uK mF HL
 go_wp2
 go_end0
 exact⟨rfl,qA HF⟩
theorem tE{E:CE}(ho:E.Ok){n k lo:Nat}(vL:E.IH n)(hk:k≤n){m:TN}{x:SC}{b c:Nat}{v:Value}{code:List IR}{w:World}(hm:E.ns[k]? = some m)(hS:y7 E.ns m.kids lo k)(hr:E.Room x code (k+1-lo))(hA:E.At w b c x v code)(hW:E.On w)(tZ:m.k≠1∧m.k≠2∧m.k≠3∧m.k≠4∧m.k≠5∧m.k≠6∧m.k≠7∧m.k≠8∧m.k≠9∧m.k≠10∧m.k≠11∧m.k≠12∧m.k≠15∧m.k≠16∧m.k≠19)(co:CO)(qRA:∀ (pn:Option Addr) (cn:Nat) (pk:Option Addr) (ckp:Nat) (w:World),E.At w b c x v code→E.On w→(∀ wx,E.On wx→vD wx pk m.kids)→Calls Tryz.prog 149 #[.pointer (some ⟨E.M,0,none⟩),.int .i64 (k:Int),.agg #[.int .i64 m.k,.int .i64 m.n,.string m.t,.slice pn m.names.length cn,.slice pk m.kids.length ckp]] w fun e w'=>e=.returned (.tuple #[])∧E.P v w co code w')(hR:E.g (n+1) (k:Int) x code.length=co):E.Node (n+1) k x v code w:=by
 unfold CE.Node
 rw[hR]
 obtain⟨pn,cn,pk,ckp,nb,jK,wC,fJ,rZ,zN,vV,mP,m0,m1,m2,d0,d1,q0,q1,q2,q3,q4,HP,HI,xO,vG,yV,yF,dS⟩:=vH ho hm hA hW
 obtain⟨-,-,d2,d3,d4,d5,d6⟩:=hA.sc.blk.cells
 have eA:=hr.1
 have iU:=hr.2
 have xH:=qC vL
 have HO:=qC ho
 have HS:=qC hS
 have HA:=qC hA
 have HW:=qC hW
 have lU:=qC hr
 clear vL hS hR hr hA hW ho
 have e1:(m.k == 1)=false:=beq_eq_false_iff_ne.2 (by omega)
 have e2:(m.k == 2)=false:=beq_eq_false_iff_ne.2 (by omega)
 have e3:(m.k == 3)=false:=beq_eq_false_iff_ne.2 (by omega)
 have e4:(m.k == 4)=false:=beq_eq_false_iff_ne.2 (by omega)
 have e5:(m.k == 5)=false:=beq_eq_false_iff_ne.2 (by omega)
 have e6:(m.k == 6)=false:=beq_eq_false_iff_ne.2 (by omega)
 have e7:(m.k == 7)=false:=beq_eq_false_iff_ne.2 (by omega)
 have e8:(m.k == 8)=false:=beq_eq_false_iff_ne.2 (by omega)
 have e9:(m.k == 9)=false:=beq_eq_false_iff_ne.2 (by omega)
 have e10:(m.k == 10)=false:=beq_eq_false_iff_ne.2 (by omega)
 have e11:(m.k == 11)=false:=beq_eq_false_iff_ne.2 (by omega)
 have e12:(m.k == 12)=false:=beq_eq_false_iff_ne.2 (by omega)
 have e15:(m.k == 15)=false:=beq_eq_false_iff_ne.2 (by omega)
 have e16:(m.k == 16)=false:=beq_eq_false_iff_ne.2 (by omega)
 have e19:(m.k == 19)=false:=beq_eq_false_iff_ne.2 (by omega)
 have HC:=qC (qRA pn cn pk ckp _ (qA vG) (qA yF) (qA HI))
 clear qRA tZ
 go_enter Tryz.func118,Tryz.ntmps118
 go_wp2_with fail
 refine(qA HC).mono ?_
 rintro e w3 ⟨rfl,v3,b3,c3,uK,mF⟩
 have HF:Hid (E.P v w co code w3):=qC ⟨v3,b3,c3,uK,(qA yV).trans mF⟩
 clear uK mF HC
 go_wp2
 go_end0
 exact⟨rfl,qA HF⟩
theorem qJq{ns:List TN}{m:TN}{lo k:Nat}(hc:m.kids.length=3)(hs:y7 ns m.kids lo k):∃ ma mb mc:Nat,m.kids=[(ma:Int),(mb:Int),(mc:Int)]:=by
 match hk:m.kids,hc with
 | [a,b,c],_=>
  rw[hk]at hs
  obtain⟨ma,mb,mc,rfl,rfl,rfl,_⟩:=qNx hs
  exact⟨ma,mb,mc,rfl⟩
theorem qJt{ns:List TN}{m:TN}(h:aD ns m):mB m.k m.kids.length=true:=by
 have:=h.1
 unfold yQ at this
 rw[Bool.and_eq_true]at this
 exact this.1
theorem qNM{ns:List TN}{m:TN}(h:aD ns m)(hk:m.k=17):m.t≠⟨#[]⟩:=by
 have h1:=h.1
 unfold yQ at h1
 rw[Bool.and_eq_true]at h1
 have h2:=h1.2
 unfold tB at h2
 rw[if_neg (by omega),if_neg (by omega)]at h2
 split at h2
 ·cases h2
 rw[if_neg (by omega),if_neg (by omega),if_neg (by omega),if_pos (by rw[hk];rfl),Bool.and_eq_true]at h2
 intro e
 rw[e]at h2
 exact absurd h2.2 (by decide)
theorem qAf{E:CE}(ho:E.Ok):∀ n,E.IH n
 | 0=>fun k lo x b c v code w hk=>absurd hk (Nat.not_lt_zero _)
 | n+1=>fun k lo x b c v code w hk hs hr hA hW=>by
  have ih:=qAf ho n
  obtain⟨qX,m,e,hm,hg,hS,_,_,hlo,_⟩:=hs.head
  obtain rfl:qX=k:=by omega
  have pU:qX≤n:=by omega
  have xC:E.ns[((qX:Nat):Int).toNat]? = some m:=by rw[Int.toNat_natCast];exact hm
  have hc:=qJt hg
  by_cases h1:m.k=1
  ·exact qPX ho ih pU hm hS hr hA hW h1 (qGi xC h1)
  by_cases h2:m.k=2
  ·exact qQe ho ih pU hm hS hr hA hW h2 (qGF xC h2)
  by_cases h3:m.k=3
  ·exact qPM ho ih pU hm hS hr hA hW h3 (qGu xC h3)
  by_cases h4:m.k=4
  ·exact qQj ho ih pU hm hS hr hA hW h4 (qF6 xC h4)
  by_cases h5:m.k=5
  ·exact qQr ho ih pU hm hS hr hA hW h5 (qGQ xC h5)
  by_cases h6:m.k=6
  ·exact qPu ho ih pU hm hS hr hA hW h6 (qGI xC h6)
  by_cases h7:m.k=7
  ·exact qPH ho ih pU hm hS hr hA hW h7 (qG8 xC h7)
  by_cases h8:m.k=8
  ·have wZ:m.kids.length=2:=by rw[h8]at hc;simpa[mB]using hc
   obtain⟨ma,mb,yN⟩:=cZ wZ hS
   have hR:=nE (root:=E.root) (fs:=E.fs) (n:=n) (x:=x) (a:=code.length) xC (.inl h8)
   rw[yN,h8]at hR
   exact qPr ho ih pU hm hS hr hA hW h8 ma mb yN hR
  by_cases h9:m.k=9
  ·have wZ:m.kids.length=2:=by rw[h9]at hc;simpa[mB]using hc
   obtain⟨ma,mb,yN⟩:=cZ wZ hS
   have hR:=nE (root:=E.root) (fs:=E.fs) (n:=n) (x:=x) (a:=code.length) xC (.inr h9)
   rw[yN,h9]at hR
   exact qPD ho ih pU hm hS hr hA hW h9 ma mb yN hR
  by_cases wS:m.k=10
  ·exact qOn ho ih pU hm hS hr hA hW wS (qCV xC wS)
  by_cases sT:m.k=11
  ·exact qM9 ho ih pU hm hS hr hA hW sT (qCA xC sT)
  by_cases sN:m.k=12
  ·exact qMV ho ih pU hm hS hr hA hW sN (qBQ xC sN)
  by_cases nR:m.k=15
  ·exact qOb ho ih pU hm hS hr hA hW nR (qCI xC nR)
  by_cases eE:m.k=16
  ·exact qN1 ho ih pU hm hS hr hA hW eE (qCa xC eE)
  by_cases oC:m.k=19
  ·exact qNn ho ih pU hm hS hr hA hW oC (qCM xC oC)
  have tZ:m.k≠1∧m.k≠2∧m.k≠3∧m.k≠4∧m.k≠5∧m.k≠6∧m.k≠7∧m.k≠8∧m.k≠9∧m.k≠10∧m.k≠11∧m.k≠12∧m.k≠15∧m.k≠16∧m.k≠19:=⟨h1,h2,h3,h4,h5,h6,h7,h8,h9,wS,sT,sN,nR,eE,oC⟩
  by_cases bH:m.k=18
  ·exact tE ho ih pU hm hS hr hA hW tZ _ (fun pn cn pk ckp w hA hW hI=>qNq ho ih pU hm hS hr hA hW hI bH) (qCN xC bH)
  by_cases oH:m.k=13
  ·have wZ:m.kids.length=2∨m.kids.length=3:=by rw[oH]at hc;simpa[mB]using hc
   have hR:=qCS (root:=E.root) (fs:=E.fs) (n:=n) (x:=x) (a:=code.length) xC oH
   rcases wZ with wZ | hc3
   ·obtain⟨ma,mb,yN⟩:=cZ wZ hS
    rw[yN]at hR
    exact tE ho ih pU hm hS hr hA hW tZ _ (fun pn cn pk ckp w hA hW hI=>qJf ho ih pU hm hS hr hA hW hI oH ma mb yN) hR
   ·obtain⟨ma,mb,mc,kG⟩:=qJq hc3 hS
    rw[kG]at hR
    exact tE ho ih pU hm hS hr hA hW tZ _ (fun pn cn pk ckp w hA hW hI=>qI1 ho ih pU hm hS hr hA hW hI oH ma mb mc kG) hR
  by_cases oJ:m.k=14
  ·have wZ:m.kids.length=2:=by rw[oJ]at hc;simpa[mB]using hc
   obtain⟨ma,mb,yN⟩:=cZ wZ hS
   have hR:=qCR (root:=E.root) (fs:=E.fs) (n:=n) (x:=x) (a:=code.length) xC oJ
   rw[yN]at hR
   exact tE ho ih pU hm hS hr hA hW tZ _ (fun pn cn pk ckp w hA hW hI=>qNB ho ih pU hm hS hr hA hW hI oJ ma mb yN) hR
  by_cases bI:m.k=17
  ·have wZ:m.kids.length=2:=by rw[bI]at hc;simpa[mB]using hc
   obtain⟨ma,mb,yN⟩:=cZ wZ hS
   have hR:=qCk (root:=E.root) (fs:=E.fs) (n:=n) (x:=x) (a:=code.length) xC bI
   have dA:=hS
   rw[yN]at dA
   obtain⟨mp,mq,ep,eq',s1,s2,_⟩:=rA dA
   obtain rfl:mb=mq:=by omega
   obtain⟨mz,xq,eq2,hq,_⟩:=s2.head
   obtain rfl:mz=mb:=by omega
   rw[yN]at hR
   dsimp only at hR
   rw[bD hq]at hR
   exact tE ho ih pU hm hS hr hA hW tZ _ (fun pn cn pk ckp w hA hW hI=>qNP ho ih pU hm hS hr hA hW hI bI ma mz yN hq (qNM hg bI)) hR
  have yE:m.k=20:=by
   have hp:=hg.1
   unfold yQ at hp
   rw[Bool.and_eq_true]at hp
   have:=qJj hp.2
   omega
  exact tE ho ih pU hm hS hr hA hW tZ _ (fun pn cn pk ckp w hA hW hI=>qM2 ho ih pU hm hS hr hA hW hI yE) (eV xC (by omega))
def FnX(f:FR)(w:World)(e:Ending)(w':World):Prop:=∃ v,e=.returned (.agg #[.string f.name,.int .i64 (f.params:Int),.int .i64 (f.slots:Int),v])∧w'.ownsRow w.heap.size 41 7 v f.code.length (j7 f.code)∧Below w.heap.size w w'
theorem qEu{ns:List TN}{k:Nat}{m:TN}(h:ns[k]? = some m):jV ns (k:Int)=m.t:=by unfold jV;rw[Int.toNat_natCast,h];rfl
theorem yC.begin{w1:World}{B X:Nat}{t0 t1 fv:Value}{b c:Nat}{x:SC}(h:wP w1 X t0 t1 b c x)(hX:B≤X) :
  yC ((w1.alloc (.cells #[] 41)).alloc (.cells #[.pointer (some ⟨X,0,none⟩),fv,.slice (some ⟨w1.heap.size,0,none⟩) 0 0] 161)) B (w1.heap.size+1) X t0 t1 fv b c x (.slice (some ⟨w1.heap.size,0,none⟩) 0 0) []:=by
 have hl:=h.lt
 have hnl:=h.nms.lt
 refine⟨?_,h.later (qG (qD _ _)),?_,by omega,by omega,by omega,hX,fun j hj=>?_⟩
 ·have:=heap_alloc_new (w1.alloc (.cells #[] 41)) (.cells #[.pointer (some ⟨X,0,none⟩),fv,.slice (some ⟨w1.heap.size,0,none⟩) 0 0] 161)
  have e:(w1.alloc (.cells #[] 41)).heap.size=w1.heap.size+1:=by simp
  rw[e]at this
  exact this
 ·refine⟨rfl,.inr ⟨w1.heap.size,0,#[],rfl,by omega,?_,Nat.le_refl _,by decide,rfl,rfl⟩⟩
  have h1:=heap_alloc_new w1 (.cells #[] 41)
  rw[(qD (w1.alloc (.cells #[] 41)) (.cells #[.pointer (some ⟨X,0,none⟩),fv,.slice (some ⟨w1.heap.size,0,none⟩) 0 0] 161)).block _ (by simp)]
  exact h1
 ·have e:w1.heap.size=j:=by simpa[Value.ownBlock]using hj
  exact⟨by omega,by omega,by omega⟩
theorem qGU(ns:List TN)(root:Int)(a lo:Nat)(m:TN)(L:rO)(fs:List Int)(fp:Option Addr)(fc:Nat)(w:World)(hN:uV w L ns)(tY:sW ns)(sS:gI ns root)(hT:qAE ns root)(hfl:fs.length≤200)(hF:vD w fp fs)(hm:ns[a]? = some m)(hs:y7 ns [(a:Int)] lo (a+1))(yE:m.k=20)(hr:(a:Int)≠root) :
  Calls Tryz.prog 87 #[.agg #[.slice L.p ns.length L.cap,.int .i64 root],.int .i64 (a:Int),.slice fp fs.length fc] w (FnX (vT ns root fs (a:Int)) w):=by
 obtain⟨m',xC,hg,hk⟩:=rK hs
 obtain rfl:m=m':=Option.some.inj (hm.symm.trans xC)
 obtain⟨hal,eD⟩:=List.getElem?_eq_some_iff.1 hm
 have fJ:=tY.1
 have qOu:=hT.few
 have oA:=hT.names m (List.mem_of_getElem? hm)
 have xZ:m.kids.length=1:=by
  have:=hg.1
  unfold yQ at this
  rw[Bool.and_eq_true]at this
  have h2:=this.1
  rw[yE]at h2
  simpa[mB]using h2
 obtain⟨qX,kQ⟩:∃ qX:Nat,m.kids=[(qX:Int)]:=by
  match a8:m.kids,xZ with
  | [j],_=>
   rw[a8]at hk
   obtain⟨qX,_,rfl,_⟩:=hk.head
   exact⟨qX,rfl⟩
 have hsk:=hk
 rw[kQ]at hsk
 obtain⟨qS1,xb,eb,_,_,_,sb,_,lb,fR⟩:=hsk.head
 obtain rfl:qX=qS1:=by omega
 have hlen:(m.names.foldl (fun x t=>qQ t (a:Int) x) ⟨[],0,0,0,0⟩).nm.length=m.names.length:=by rw[nB];show 0+_=_;omega
 have HC:Hid (∀ w1,Below w.heap.size w w1→Calls Tryz.prog 117 #[.agg #[.slice L.p ns.length L.cap,.int .i64 root],.int .i64 (a:Int)] w1 (qLh ns root L (m.names.foldl (fun x t=>qQ t (a:Int) x) ⟨[],0,0,0,0⟩) w1)):=qC (fun w1 h1=>r8 ns root a m L w1 (hN.later h1) tY hm hr)
 have HR:Hid (vT ns root fs (a:Int)=⟨m.t,m.names.length,(cg ns root fs (ns.length+1) (qX:Int) (m.names.foldl (fun x t=>qQ t (a:Int) x) ⟨[],0,0,0,0⟩) 0).x.mo,(cg ns root fs (ns.length+1) (qX:Int) (m.names.foldl (fun x t=>qQ t (a:Int) x) ⟨[],0,0,0,0⟩) 0).s++[iV 0 0 e0]++[iN 12 0]⟩):=qC (by
  unfold vT qAF mI
  rw[if_neg hr,if_neg hr,bD hm,aM hm,qEu hm,kQ,hlen]
  show(⟨_,_,_,(_++[])++_⟩:FR)=_
  rw[List.append_nil,List.append_assoc]
  rfl)
 generalize m.names.foldl (fun x t=>qQ t (a:Int) x) ⟨[],0,0,0,0⟩=xs at HR hlen HC
 rw[qA HR]
 have qVU:=(xX (ns:=ns) (root:=root) (fs:=fs) hfl (ns.length+1)).ins qX lo xs 0 (by omega) sb
 have HI:Hid (∀ wx,Below w.heap.size w wx→∃ nb jK kb zY ck,L.p=some ⟨nb,jK,none⟩∧wx.cell? ⟨nb,jK+a*5+2,none⟩=some (.string m.t)∧wx.cell? ⟨nb,jK+a*5+4,none⟩=some (.slice (some ⟨kb,zY,none⟩) 1 ck)∧wx.cell? ⟨kb,zY,none⟩=some (.int .i64 (qX:Int))):=qC (fun wx h=>by
  obtain⟨nb,jK,hp,_,_,q2,_,q4,_,q6⟩:=(hN.later h) a hal
  rw[eD]at q2 q4 q6
  obtain⟨kb,zY,kI,y0⟩:=q6 0 (by omega)
  have e0:m.kids[0]'(by omega)=(qX:Int):=by simp[kQ]
  rw[e0,Nat.add_zero]at y0
  rw[kI,xZ]at q4
  exact⟨nb,jK,kb,zY,_,hp,q2,q4,y0⟩)
 have lT:Hid (∀ (M X b c:Nat) (v:Value) (w2:World),yC w2 w.heap.size M X (.slice L.p ns.length L.cap) (.int .i64 root) (.slice fp fs.length fc) b c xs v []→Below w.heap.size w w2→Calls Tryz.prog 118 #[.pointer (some ⟨M,0,none⟩),.int .i64 (qX:Int)] w2 fun e w'=>e=.returned (.tuple #[])∧CP w.heap.size M X (.slice L.p ns.length L.cap) (.int .i64 root) (.slice fp fs.length fc) v w2 (cg ns root fs (ns.length+1) (qX:Int) xs 0).x (cg ns root fs (ns.length+1) (qX:Int) xs 0).s w'):=qC (fun M X b c v w2 hA hW=>by
  have:=qAf (E:=⟨ns,root,L,w,w.heap.size,M,X,fs,fp,fc⟩) ⟨hN,tY,sS,qOu,hfl,hF,Nat.le_refl _⟩ (ns.length+1) qX lo xs b c v [] w2 (by show qX<ns.length+1;omega) sb ⟨by show xs.nm.length+_≤_;omega,by show 0+_≤_;omega⟩ hA hW
  exact this)
 have e1:((a:Int) == root)=false:=beq_eq_false_iff_ne.2 hr
 clear hN tY sS hT hs hm eD HR hk hg kQ hsk eb sb xC yE hr hF
 generalize cg ns root fs (ns.length+1) (qX:Int) xs 0=o at lT qVU ⊢
 have hol:o.s.length≤90000:=by omega
 clear qVU
 rw[←hlen]
 unfold FnX
 dsimp only
 generalize hcd:o.s++[iV 0 0 e0]++[iN 12 0]=cd
 have HCD:=qC hcd
 clear hcd hlen oA
 go_enter Tryz.func87,Tryz.ntmps87
 go_wp2_with fail
 refine(qA HC _ (by exact qG (qD _ _))).mono ?_
 rintro e w1 ⟨X,b1,c1,rfl,dF,hX1,jD⟩
 simp at hX1
 have mP:=dF.lt
 have x0:w1.cell? ⟨w.heap.size,0,none⟩=some (.slice L.p ns.length L.cap):=cell_later jD (by simp)
 have x1:w1.cell? ⟨w.heap.size,1,none⟩=some (.int .i64 root):=cell_later jD (by simp)
 have hR1:w1.heap[w.heap.size+1]? = some (.cells #[.string ⟨#[]⟩,.int .i64 0,.int .i64 0,.slice none 0 0] 35 (0,0)):=(jD.block _ (by simp)).trans (by
  have:=heap_alloc_new (w.alloc (.cells #[.slice L.p ns.length L.cap,.int .i64 root] 94)) (.cells #[.string ⟨#[]⟩,.int .i64 0,.int .i64 0,.slice none 0 0] 35)
  have e:(w.alloc (.cells #[.slice L.p ns.length L.cap,.int .i64 root] 94)).heap.size=w.heap.size+1:=by simp
  rw[e]at this
  exact this)
 have y8:=qC (qE (qG (o:=.cells #[.string ⟨#[]⟩,.int .i64 0,.int .i64 0,.slice none 0 0] 35) (qD w (.cells #[.slice L.p ns.length L.cap,.int .i64 root] 94))) jD)
 have HR1:=qC hR1
 have hw1:w.heap.size+1<w1.heap.size:=(Array.getElem?_eq_some_iff.1 hR1).1
 have HA:=qC (yC.begin (B:=w.heap.size) (fv:=.slice fp fs.length fc) dF (by omega))
 have uN:Below w1.heap.size w1 ((w1.alloc (.cells #[] 41)).alloc (.cells #[.pointer (some ⟨X,0,none⟩),.slice fp fs.length fc,.slice (some ⟨w1.heap.size,0,none⟩) 0 0] 161)):=qG (qD _ _)
 have uO:=qC (qE (qA y8) uN)
 have hR3:=qC ((uN.block _ hw1).trans (qA HR1))
 have xI:=qC (cell_later uN x0)
 have gA:=qC (cell_later uN x1)
 clear jD dF HC hR1 x0 x1 HR1 uN
 go_wp2_with fail
 generalize ((w1.alloc (.cells #[] 41)).alloc (.cells #[.pointer (some ⟨X,0,none⟩),.slice fp fs.length fc,.slice (some ⟨w1.heap.size,0,none⟩) 0 0] 161))=w3 at HA uO hR3 xI gA ⊢
 generalize oI:(Value.slice (some ⟨w1.heap.size,0,none⟩) 0 0)=v0 at HA ⊢
 have HV0:Hid (v0.ownBlock=some w1.heap.size):=qC (by rw[←oI];rfl)
 generalize hM:w1.heap.size+1=M at HA ⊢
 obtain⟨c0,xB,c2⟩:=(qA HA).cells
 obtain⟨s0,s1,s2,s3,_⟩:=(qA HA).sc.blk.cells
 obtain⟨nb,jK,kb,zY,ck,hp,q2,q4,y0⟩:=qA HI w3 (qA uO)
 have x0:=qA xI
 rw[hp]at x0
 clear hp s0 s1 s3 q4 y0 xB c2
 have hXw:=(qA HA).sc.lt
 have hMw:=(qA HA).lt
 have hTw:=World.block_lt_of_cell? _ _ x0
 have hnw:=World.block_lt_of_cell? _ _ q2
 dsimp only at hTw hnw
 go_region
 have uU:Below w3.heap.size w3 (w3.alloc (.cells #[.string m.t,.int .i64 (xs.nm.length:Int),.int .i64 0,.slice none 0 0] 35)).drew:=qF (qD _ _)
 have hF4:=qC (show(w3.alloc (.cells #[.string m.t,.int .i64 (xs.nm.length:Int),.int .i64 0,.slice none 0 0] 35)).drew.heap[w3.heap.size]? = some (.cells #[.string m.t,.int .i64 (xs.nm.length:Int),.int .i64 0,.slice none 0 0] 35 (0,0)) from heap_alloc_new w3 _)
 have HA4:=qC ((qA HA).later uU)
 have pV:=qC (qE (qA uO) uU)
 have qSV:w.heap.size+1<w3.heap.size:=(Array.getElem?_eq_some_iff.1 (qA hR3)).1
 have hR4:=qC ((uU.block _ qSV).trans (qA hR3))
 have x1:=cell_later uU (qA gA)
 have x0:=cell_later uU (qA xI)
 clear c0 s2 q2 uU hnw
 generalize (w3.alloc (.cells #[.string m.t,.int .i64 (xs.nm.length:Int),.int .i64 0,.slice none 0 0] 35)).drew=w4 at hF4 HA4 pV hR4 x1 x0 ⊢
 obtain⟨nb,jK,kb,zY,ck,hp,q2,q4,y0⟩:=qA HI w4 (qA pV)
 rw[hp]at x0
 have yJ:=qC (qA lT M X b1 c1 v0 w4 (qA HA4) (qA pV))
 clear hp q2 lT
 go_wp2_with fail
 refine(qA yJ).mono ?_
 rintro e w5 ⟨rfl,v5,b5,c5,hA5,nU⟩
 have HL5:=qC (qEp 0 0 ⟨#[]⟩ hA5 (by omega))
 have tV:=qC nU
 clear yJ x0 x1 q4 y0 hA5 nU
 go_wp2_with fail
 refine(qA HL5).mono ?_
 rintro e w6 ⟨rfl,v6,b6,c6,hA6,hK6⟩
 have HL6:=qC (tS (iN 12 0) hA6 (by simp;omega))
 have HK6:=qC ((qA tV).trans hK6)
 clear HL5 tV hA6 hK6
 unfold iN e0 at HL6
 go_wp2_with fail
 refine(qA HL6).mono ?_
 rintro e w7 ⟨rfl,v7,b7,c7,hA7,hK7⟩
 have lW:=hA7
 rw[show o.s++[iV 0 0 ⟨#[]⟩]++[(⟨12,0,0,⟨#[]⟩,0,0,⟨#[]⟩⟩:IR)]=cd from qA HCD]at lW
 have hK:=(qA HK6).trans hK7
 have qS6:w3.heap.size<w4.heap.size:=(Array.getElem?_eq_some_iff.1 (qA hF4)).1
 have qBo:=qA HV0
 have hF7:=(hK.block w3.heap.size qS6 (by omega) (by omega) (by rw[qBo];intro e;injection e;omega)).trans (qA hF4)
 have hR7:=(hK.block (w.heap.size+1) (by omega) (by omega) (by omega) (by rw[qBo];intro e;injection e;omega)).trans (qA hR4)
 have qYG:w3.heap.size<w7.heap.size:=(Array.getElem?_eq_some_iff.1 hF7).1
 have qZz:w.heap.size+1<w7.heap.size:=by omega
 have f0:=(cell_of_block hF7 0).trans rfl
 have f1:=(cell_of_block hF7 1).trans rfl
 have f2:=(cell_of_block hF7 2).trans rfl
 have f3:=(cell_of_block hF7 3).trans rfl
 have f2':=unfrozen_of_block hF7 2
 have f3':=unfrozen_of_block hF7 3
 have r0:=(cell_of_block hR7 0).trans rfl
 have r1:=(cell_of_block hR7 1).trans rfl
 have r2:=(cell_of_block hR7 2).trans rfl
 have r3:=(cell_of_block hR7 3).trans rfl
 have r0':=unfrozen_of_block hR7 0
 have r1':=unfrozen_of_block hR7 1
 have r2':=unfrozen_of_block hR7 2
 have r3':=unfrozen_of_block hR7 3
 obtain⟨d0,d1,d2⟩:=lW.cells
 obtain⟨s0,s1,s2,s3,s4,_⟩:=lW.sc.blk.cells
 obtain⟨va,vc,hv7⟩:=lW.slice
 have qSr:Hid (∀ j,v7.ownBlock=some j→j≠w3.heap.size∧j≠w.heap.size+1):=qC (fun j hj=>by
  rcases hK.own j hj with e | e
  ·rw[qBo]at e
   injection e
   exact⟨by omega,by omega⟩
  ·exact⟨by omega,by omega⟩)
 have iY:=qC lW.row
 have HB7:Hid (Below w.heap.size w w7):=qC ((qA pV).trans (hK.low (B:=w.heap.size) (qA HA4).bM (qA HA4).bX (fun j hj=>((qA HA4).own j hj).1) (by omega)))
 have cB:w3.heap.size≠w.heap.size+1:=by omega
 have hM7:=lW.lt
 have hX7:=lW.sc.lt
 have hMF:M≠w3.heap.size:=by omega
 have hXF:X≠w3.heap.size:=by omega
 subst hv7
 clear hA7 lW hK7 hK HK6 HL6 HA4 hF7 hR7 s0 s1 s2 s3 d1 pV hF4 hR4 hR3 HI xI gA HA qBo
 go_wp2
 refine bodyPost_ret (v:=.agg #[.string m.t,.int .i64 (xs.nm.length:Int),.int .i64 (o.x.mo:Int),.slice va cd.length vc]) (by simp[results,Tryz.results87,go_sem,r0,r1,r2,r3]) rfl ?_
 refine⟨_,rfl,jJ (qA iY) fun j hj=>?_,?_⟩
 ·have hj':=qA qSr j hj
  iterate 4 rw[Below.heap_setCell _ ⟨w.heap.size+1,_,none⟩ _ j (by show j≠w.heap.size+1;exact hj'.2)]
  iterate 2 rw[Below.heap_setCell _ ⟨w3.heap.size,_,none⟩ _ j (by show j≠w3.heap.size;exact hj'.1)]
 ·exact jE (jE (jE (jE (jE (jE (qA HB7) (by omega)) (by omega)) (by omega)) (by omega)) (by omega)) (by omega)
structure CV(ns:List TN)(root:Int)(fs:List Int)(n k:Nat)(kids:List Int)(xs:SC)(j lo:Nat)(x:SC)(code:List IR):Prop where
 seg:y7 ns (kids.drop j) lo k
 nml:x.nm.length+(k-lo)≤1040000
 insl:code.length+204*(k-lo)≤80000
 xe:x=(ck (cg ns root fs n) ((kids.take j).filter fun j=>jT ns j != 20) xs 0).x
 ce:code=(ck (cg ns root fs n) ((kids.take j).filter fun j=>jT ns j != 20) xs 0).s
theorem oT{ns:List TN}{k:Nat}{m:TN}(h:ns[k]? = some m):jT ns (k:Int)=m.k:=by unfold jT;rw[Int.toNat_natCast,h];rfl
theorem CV.zero{ns:List TN}{root:Int}{fs:List Int}{n k lo:Nat}{kids:List Int}{xs:SC}(h:y7 ns kids lo k)(h1:xs.nm.length+(k-lo)≤1040000)(h2:204*(k-lo)≤80000):CV ns root fs n k kids xs 0 lo xs []:=⟨h,h1,by simpa using h2,rfl,rfl⟩
theorem CV.step{ns:List TN}{root:Int}{fs:List Int}{n k:Nat}{kids:List Int}{xs:SC}{j lo:Nat}{x:SC}{code:List IR}(hf:fs.length≤200)(h:CV ns root fs n k kids xs j lo x code)(hj:j<kids.length)(hn:k≤n) :
  ∃ (qX:Nat) (m:TN),kids[j]=(qX:Int)∧qX<n∧ns[qX]? = some m∧y7 ns [(qX:Int)] lo (qX+1)∧x.nm.length+(qX+1-lo)≤1040000∧code.length+204*(qX+1-lo)≤80000∧(m.k≠20→CV ns root fs n k kids xs (j+1) (qX+1) (cg ns root fs n qX x code.length).x (code++(cg ns root fs n qX x code.length).s))∧(m.k=20→CV ns root fs n k kids xs (j+1) (qX+1) x code):=by
 have h1:=h.seg
 rw[List.drop_eq_getElem_cons hj]at h1
 obtain⟨qX,m,e,hm,_,s1,s2,s3,s4,s5⟩:=h1.head
 have s2':y7 ns [(qX:Int)] lo (qX+1):=by rw[←e];exact s2
 have hg:=xX (ns:=ns) (root:=root) (fs:=fs) hf n
 have r1:=h.nml
 have r2:=h.insl
 have p1:(cg ns root fs n qX x code.length).x.nm.length≤_:=hg.len qX lo x code.length (by omega) s2'
 have p2:(cg ns root fs n qX x code.length).s.length≤_:=hg.ins qX lo x code.length (by omega) s2'
 have hka:=oT hm
 refine⟨qX,m,e,by omega,hm,s2',by omega,by omega,fun yE=>⟨s3,by omega,by rw[List.length_append];omega,?_,?_⟩,fun yE=>⟨s3,by omega,by omega,?_,?_⟩⟩
 ·rw[List.take_succ_eq_append_getElem hj,List.filter_append,e,List.filter_cons_of_pos (by rw[hka];simpa using yE),List.filter_nil,eH]
  dsimp only
  rw[←h.xe,←h.ce,Nat.zero_add]
 ·rw[List.take_succ_eq_append_getElem hj,List.filter_append,e,List.filter_cons_of_pos (by rw[hka];simpa using yE),List.filter_nil,eH]
  dsimp only
  rw[←h.xe,←h.ce,Nat.zero_add]
 ·rw[List.take_succ_eq_append_getElem hj,List.filter_append,e,List.filter_cons_of_neg (by rw[hka,yE];decide),List.filter_nil,List.append_nil]
  exact h.xe
 ·rw[List.take_succ_eq_append_getElem hj,List.filter_append,e,List.filter_cons_of_neg (by rw[hka,yE];decide),List.filter_nil,List.append_nil]
  exact h.ce
theorem qG1(ns:List TN)(a:Nat)(L:rO)(fs:List Int)(fp:Option Addr)(fc:Nat)(w:World)(hN:uV w L ns)(tY:sW ns)(sS:gI ns (a:Int))(hT:qAE ns (a:Int))(hfl:fs.length≤200)(hF:vD w fp fs) :
  Calls Tryz.prog 87 #[.agg #[.slice L.p ns.length L.cap,.int .i64 (a:Int)],.int .i64 (a:Int),.slice fp fs.length fc] w (FnX (vT ns (a:Int) fs (a:Int)) w):=by
 obtain⟨r',m,er,hm,hk,hal,-⟩:=hT.seg
 obtain rfl:a=r':=by omega
 have hs:True:=trivial
 have hg:True:=trivial
 obtain⟨_,eD⟩:=List.getElem?_eq_some_iff.1 hm
 have fJ:=tY.1
 have qOu:=hT.few
 have zN:m.kids.length≤1048576:=(tY.2 m (List.mem_of_getElem? hm)).2.2.1
 have hlen:(qQ sH (a:Int) ⟨[],0,0,0,0⟩).nm.length=1:=by rw[vI];rfl
 have HC:Hid (∀ w1,Calls Tryz.prog 117 #[.agg #[.slice L.p ns.length L.cap,.int .i64 (a:Int)],.int .i64 (a:Int)] w1 (qLh ns (a:Int) L (qQ sH (a:Int) ⟨[],0,0,0,0⟩) w1)):=qC (fun w1=>lD ns (a:Int) L w1)
 have HR:Hid (vT ns (a:Int) fs (a:Int)=⟨m.t,(qQ sH (a:Int) ⟨[],0,0,0,0⟩).nm.length,(ck (cg ns (a:Int) fs (ns.length+1)) (m.kids.filter fun j=>jT ns j != 20) (qQ sH (a:Int) ⟨[],0,0,0,0⟩) 0).x.mo,(ck (cg ns (a:Int) fs (ns.length+1)) (m.kids.filter fun j=>jT ns j != 20) (qQ sH (a:Int) ⟨[],0,0,0,0⟩) 0).s++[iV 0 0 e0]++[iN 12 0]⟩):=qC (by
  unfold vT qAF mI
  rw[if_pos rfl,if_pos rfl,bD hm,qEu hm,List.append_assoc]
  rfl)
 generalize qQ sH (a:Int) ⟨[],0,0,0,0⟩=xs at HR hlen HC
 rw[qA HR]
 have HZ:=qC (CV.zero (root:=(a:Int)) (fs:=fs) (n:=ns.length+1) (xs:=xs) hk (by omega) (by omega))
 have HI:Hid (∀ wx,Below w.heap.size w wx→∃ nb jK,L.p=some ⟨nb,jK,none⟩∧wx.cell? ⟨nb,jK+a*5+2,none⟩=some (.string m.t)∧wx.cell? ⟨nb,jK+a*5+4,none⟩=some (.slice (L.pk a) m.kids.length (L.ck a))∧vD wx (L.pk a) m.kids∧∀ (k:Nat) (m':TN),ns[k]? = some m'→wx.cell? ⟨nb,jK+k*5,none⟩=some (.int .i64 m'.k)):=qC (fun wx h=>by
  obtain⟨nb,jK,hp,_,_,q2,_,q4,_,q6⟩:=(hN.later h) a hal
  rw[eD]at q2 q4 q6
  refine⟨nb,jK,hp,q2,q4,q6,fun k m' hk'=>?_⟩
  obtain⟨wC,hke⟩:=List.getElem?_eq_some_iff.1 hk'
  obtain⟨nb',qKE,hp',q0,_⟩:=(hN.later h) k wC
  rw[hp]at hp'
  injection hp' with hp'
  injection hp' with e1 e2
  subst e1 e2
  rw[hke]at q0
  exact q0)
 have lT:Hid (∀ (M X b c qX lo:Nat) (x:SC) (v:Value) (code:List IR) (w2:World),qX<ns.length+1→y7 ns [(qX:Int)] lo (qX+1)→x.nm.length+(qX+1-lo)≤1040000→code.length+204*(qX+1-lo)≤80000→yC w2 w.heap.size M X (.slice L.p ns.length L.cap) (.int .i64 (a:Int)) (.slice fp fs.length fc) b c x v code→Below w.heap.size w w2→Calls Tryz.prog 118 #[.pointer (some ⟨M,0,none⟩),.int .i64 (qX:Int)] w2 fun e w'=>e=.returned (.tuple #[])∧CP w.heap.size M X (.slice L.p ns.length L.cap) (.int .i64 (a:Int)) (.slice fp fs.length fc) v w2 (cg ns (a:Int) fs (ns.length+1) (qX:Int) x code.length).x (code++(cg ns (a:Int) fs (ns.length+1) (qX:Int) x code.length).s) w'):=qC (fun M X b c qX lo x v code w2 h1 h2 h3 h4 hA hW=>by
  have:=qAf (E:=⟨ns,(a:Int),L,w,w.heap.size,M,X,fs,fp,fc⟩) ⟨hN,tY,sS,qOu,hfl,hF,Nat.le_refl _⟩ (ns.length+1) qX lo x b c v code w2 h1 h2 ⟨h3,by omega⟩ hA hW
  exact this)
 have e1:((a:Int) == (a:Int))=true:=by simp
 generalize L.pk a=pk at HI
 generalize L.ck a=ckp at HI
 have HFL:=qC hfl
 clear hN tY sS hT hs hm eD HR hk hg er hF hlen hfl
 generalize hco:ck (cg ns (a:Int) fs (ns.length+1)) (m.kids.filter fun j=>jT ns j != 20) xs 0=o
 have HCO:=qC hco
 clear hco
 unfold FnX
 dsimp only
 generalize hcd:o.s++[iV 0 0 e0]++[iN 12 0]=cd
 have HCD:=qC hcd
 clear hcd
 go_enter Tryz.func87,Tryz.ntmps87
 go_wp2_with fail
 refine(qA HC _ ).mono ?_
 rintro e w1 ⟨X,b1,c1,rfl,dF,hX1,jD⟩
 simp at hX1
 have mP:=dF.lt
 have x0:w1.cell? ⟨w.heap.size,0,none⟩=some (.slice L.p ns.length L.cap):=cell_later jD (by simp)
 have x1:w1.cell? ⟨w.heap.size,1,none⟩=some (.int .i64 (a:Int)):=cell_later jD (by simp)
 have hR1:w1.heap[w.heap.size+1]? = some (.cells #[.string ⟨#[]⟩,.int .i64 0,.int .i64 0,.slice none 0 0] 35 (0,0)):=(jD.block _ (by simp)).trans (by
  have:=heap_alloc_new (w.alloc (.cells #[.slice L.p ns.length L.cap,.int .i64 (a:Int)] 94)) (.cells #[.string ⟨#[]⟩,.int .i64 0,.int .i64 0,.slice none 0 0] 35)
  have e:(w.alloc (.cells #[.slice L.p ns.length L.cap,.int .i64 (a:Int)] 94)).heap.size=w.heap.size+1:=by simp
  rw[e]at this
  exact this)
 have y8:=qC (qE (qG (o:=.cells #[.string ⟨#[]⟩,.int .i64 0,.int .i64 0,.slice none 0 0] 35) (qD w (.cells #[.slice L.p ns.length L.cap,.int .i64 (a:Int)] 94))) jD)
 have HR1:=qC hR1
 have hw1:w.heap.size+1<w1.heap.size:=(Array.getElem?_eq_some_iff.1 hR1).1
 have HA:=qC (yC.begin (B:=w.heap.size) (fv:=.slice fp fs.length fc) dF (by omega))
 have uN:Below w1.heap.size w1 ((w1.alloc (.cells #[] 41)).alloc (.cells #[.pointer (some ⟨X,0,none⟩),.slice fp fs.length fc,.slice (some ⟨w1.heap.size,0,none⟩) 0 0] 161)):=qG (qD _ _)
 have uO:=qC (qE (qA y8) uN)
 have hR3:=qC ((uN.block _ hw1).trans (qA HR1))
 have xI:=qC (cell_later uN x0)
 have gA:=qC (cell_later uN x1)
 clear jD dF HC hR1 x0 x1 HR1 uN
 go_wp2_with fail
 generalize ((w1.alloc (.cells #[] 41)).alloc (.cells #[.pointer (some ⟨X,0,none⟩),.slice fp fs.length fc,.slice (some ⟨w1.heap.size,0,none⟩) 0 0] 161))=w3 at HA uO hR3 xI gA ⊢
 generalize oI:(Value.slice (some ⟨w1.heap.size,0,none⟩) 0 0)=v0 at HA ⊢
 have HV0:Hid (v0.ownBlock=some w1.heap.size):=qC (by rw[←oI];rfl)
 generalize hM:w1.heap.size+1=M at HA ⊢
 obtain⟨c0,xB,c2⟩:=(qA HA).cells
 obtain⟨s0,s1,s2,s3,_⟩:=(qA HA).sc.blk.cells
 obtain⟨nb,jK,hp,q2,q4,q6,q7⟩:=qA HI w3 (qA uO)
 have x0:=qA xI
 rw[hp]at x0
 clear hp s0 s1 s3 q4 q6 q7 xB c2
 have hXw:=(qA HA).sc.lt
 have hMw:=(qA HA).lt
 have hTw:=World.block_lt_of_cell? _ _ x0
 have hnw:=World.block_lt_of_cell? _ _ q2
 dsimp only at hTw hnw
 go_region
 have uU:Below w3.heap.size w3 (w3.alloc (.cells #[.string m.t,.int .i64 (xs.nm.length:Int),.int .i64 0,.slice none 0 0] 35)).drew:=qF (qD _ _)
 have hF4:=qC (show(w3.alloc (.cells #[.string m.t,.int .i64 (xs.nm.length:Int),.int .i64 0,.slice none 0 0] 35)).drew.heap[w3.heap.size]? = some (.cells #[.string m.t,.int .i64 (xs.nm.length:Int),.int .i64 0,.slice none 0 0] 35 (0,0)) from heap_alloc_new w3 _)
 have HA4:=qC ((qA HA).later uU)
 have pV:=qC (qE (qA uO) uU)
 have qSV:w.heap.size+1<w3.heap.size:=(Array.getElem?_eq_some_iff.1 (qA hR3)).1
 have hR4:=qC ((uU.block _ qSV).trans (qA hR3))
 have x1:=cell_later uU (qA gA)
 have x0:=cell_later uU (qA xI)
 clear c0 s2 q2 uU hnw
 generalize (w3.alloc (.cells #[.string m.t,.int .i64 (xs.nm.length:Int),.int .i64 0,.slice none 0 0] 35)).drew=w4 at hF4 HA4 pV hR4 x1 x0 ⊢
 obtain⟨nb,jK,hp,q2,q4,q6,q7⟩:=qA HI w4 (qA pV)
 have wH:=qC x0
 rw[hp]at x0
 have qSo:=World.block_lt_of_cell? _ _ x0
 dsimp only at qSo
 have qS6:w3.heap.size<w4.heap.size:=(Array.getElem?_eq_some_iff.1 (qA hF4)).1
 have qBo:=qA HV0
 have HTX:Hid (∀ v' wx,CK M X v0 v' w4 wx→wx.cell? ⟨w.heap.size,0,none⟩=some (.slice L.p ns.length L.cap)∧Below w.heap.size w wx):=qC (fun v' wx hK=>⟨(World.cell?_of_block (hK.block w.heap.size qSo (by omega) (by omega) (by rw[qBo];intro e;injection e;omega))).trans (qA wH),(qA pV).trans (hK.low (B:=w.heap.size) (qA HA4).bM (qA HA4).bX (fun j hj=>((qA HA4).own j hj).1) (by omega))⟩)
 clear hp q2 q6 q7 qBo
 go_wp2
 clear x0 x1 q4
 go_loopw[10] (fun i wx=>∃ (j mL:Nat) (x':SC) (b' c':Nat) (v':Value) (kC:List IR),j≤m.kids.length∧i=.int .i64 j∧Hid (yC wx w.heap.size M X (.slice L.p ns.length L.cap) (.int .i64 (a:Int)) (.slice fp fs.length fc) b' c' x' v' kC)∧Hid (CK M X v0 v' w4 wx)∧Hid (CV ns (a:Int) fs (ns.length+1) a m.kids xs j mL x' kC)) (fun i _=>m.kids.length-(intOf i).toNat)
 case atStart=>exact⟨0,0,xs,b1,c1,v0,[],by omega,rfl,HA4,qC (CK.refl _ _ _ _),HZ⟩
 case round=>
  obtain⟨j,mL,x',b',c',v',kC,hj,rfl,vK,uM,uB⟩:=hrel
  obtain⟨x0,hwr⟩:=qA HTX v' wr (qA uM)
  have dE:=qC hwr
  obtain⟨nb,jK,hp,_,_,q6,q7⟩:=qA HI wr hwr
  rw[hp]at x0
  have HQ:=qC q6
  have HQ7:=qC q7
  clear q6 q7 hp hwr
  by_cases jF:j<m.kids.length
  ·obtain⟨qX,mm,pW,bF,lR,s1,s2,s3,s4,s5⟩:=(qA uB).step (qA HFL) jF (by omega)
   have hml:qX<ns.length:=(List.getElem?_eq_some_iff.1 lR).1
   obtain⟨kb,zY,kI,y0⟩:=(qA HQ) j jF
   rw[pW]at y0
   have z0:=qA HQ7 qX mm lR
   have HC:=qC (qA lT M X b' c' qX mL x' v' kC wr.drew bF s1 s2 s3 ((qA vK).later (qF (Below.refl _ _))) ((qA dE).drew))
   have HS4:=qC s4
   have HS5:=qC s5
   clear pW s1 s2 s3 s4 s5 lR
   subst kI
   by_cases yE:mm.k=20
   ·have e2:(mm.k == 20)=true:=by simp[yE]
    have e3:(mm.k != 20)=false:=by simp[yE]
    have yK:=qC (qA HS5 yE)
    generalize mm.k=mk at z0 e2 e3
    clear yE HC HS4 HS5
    go_wp2_with fail
    go_region
    go_wp2
    go_roundw
    case rel=>exact⟨j+1,qX+1,_,b',c',v',_,by omega,by go_num,qC ((qA vK).later (qF (Below.refl _ _))),qC ((qA uM).trans (CK.of_below (qF (Below.refl _ _)))),qC (qA yK)⟩
    case measure=>simp[intOf];omega
   ·have e2:(mm.k == 20)=false:=by simpa using yE
    have e3:(mm.k != 20)=true:=by simpa using yE
    have yK:=qC (qA HS4 yE)
    generalize mm.k=mk at z0 e2 e3
    clear yE HS4 HS5
    go_wp2_with fail
    go_region
    go_wp2_with fail
    refine(qA HC).mono ?_
    rintro e w2 ⟨rfl,v2,b2,wG,vJ,yA⟩
    have mO:=qC vJ
    have qH:=qC ((qA uM).trans ((CK.of_below (qF (Below.refl _ _))).trans yA))
    clear vJ yA HC
    go_wp2
    go_roundw
    case rel=>exact⟨j+1,qX+1,_,b2,wG,v2,_,by omega,by go_num,mO,qH,qC (qA yK)⟩
    case measure=>simp[intOf];omega
  ·obtain rfl:j=m.kids.length:=by omega
   have h1:=(qA uB).xe
   have h2:=(qA uB).ce
   have h3:=(qA uB).insl
   rw[List.take_length,qA HCO]at h1 h2
   have hol:o.s.length≤90000:=by rw[←h2];omega
   rw[h1,h2]at vK
   have HL5:=qC (qEp 0 0 ⟨#[]⟩ (qA vK) (by omega))
   have tV:=uM
   clear uB h1 h2 h3 HQ HQ7 uM vK HCO HZ x0
   go_wp2_with fail
   refine(qA HL5).mono ?_
   rintro e w6 ⟨rfl,v6,b6,c6,hA6,hK6⟩
   have HL6:=qC (tS (iN 12 0) hA6 (by simp;omega))
   have HK6:=qC ((qA tV).trans hK6)
   clear HL5 tV hA6 hK6
   unfold iN e0 at HL6
   go_wp2_with fail
   refine(qA HL6).mono ?_
   rintro e w7 ⟨rfl,v7,b7,c7,hA7,hK7⟩
   have lW:=hA7
   rw[show o.s++[iV 0 0 ⟨#[]⟩]++[(⟨12,0,0,⟨#[]⟩,0,0,⟨#[]⟩⟩:IR)]=cd from qA HCD]at lW
   have hK:=(qA HK6).trans hK7
   have qBo:=qA HV0
   have hF7:=(hK.block w3.heap.size qS6 (by omega) (by omega) (by rw[qBo];intro e;injection e;omega)).trans (qA hF4)
   have hR7:=(hK.block (w.heap.size+1) (by omega) (by omega) (by omega) (by rw[qBo];intro e;injection e;omega)).trans (qA hR4)
   have qYG:w3.heap.size<w7.heap.size:=(Array.getElem?_eq_some_iff.1 hF7).1
   have qZz:w.heap.size+1<w7.heap.size:=by omega
   have f0:=(cell_of_block hF7 0).trans rfl
   have f1:=(cell_of_block hF7 1).trans rfl
   have f2:=(cell_of_block hF7 2).trans rfl
   have f3:=(cell_of_block hF7 3).trans rfl
   have f2':=unfrozen_of_block hF7 2
   have f3':=unfrozen_of_block hF7 3
   have r0:=(cell_of_block hR7 0).trans rfl
   have r1:=(cell_of_block hR7 1).trans rfl
   have r2:=(cell_of_block hR7 2).trans rfl
   have r3:=(cell_of_block hR7 3).trans rfl
   have r0':=unfrozen_of_block hR7 0
   have r1':=unfrozen_of_block hR7 1
   have r2':=unfrozen_of_block hR7 2
   have r3':=unfrozen_of_block hR7 3
   obtain⟨d0,d1,d2⟩:=lW.cells
   obtain⟨s0,s1,s2,s3,s4,_⟩:=lW.sc.blk.cells
   obtain⟨va,vc,hv7⟩:=lW.slice
   have qSr:Hid (∀ j,v7.ownBlock=some j→j≠w3.heap.size∧j≠w.heap.size+1):=qC (fun j hj=>by
    rcases hK.own j hj with e | e
    ·rw[qBo]at e
     injection e
     exact⟨by omega,by omega⟩
    ·exact⟨by omega,by omega⟩)
   have iY:=qC lW.row
   have HB7:Hid (Below w.heap.size w w7):=qC ((qA pV).trans (hK.low (B:=w.heap.size) (qA HA4).bM (qA HA4).bX (fun j hj=>((qA HA4).own j hj).1) (by omega)))
   have cB:w3.heap.size≠w.heap.size+1:=by omega
   have hM7:=lW.lt
   have hX7:=lW.sc.lt
   have hMF:M≠w3.heap.size:=by omega
   have hXF:X≠w3.heap.size:=by omega
   subst hv7
   clear hA7 lW hK7 hK HK6 HL6 HA4 hF7 hR7 s0 s1 s2 s3 d1 pV hF4 hR4 hR3 HI xI gA HA qBo HTX lT wH
   go_wp2
   refine bodyPost_ret (v:=.agg #[.string m.t,.int .i64 (xs.nm.length:Int),.int .i64 (o.x.mo:Int),.slice va cd.length vc]) (by simp[results,Tryz.results87,go_sem,r0,r1,r2,r3]) rfl ?_
   refine⟨_,rfl,jJ (qA iY) fun j hj=>?_,?_⟩
   ·have hj':=qA qSr j hj
    iterate 4 rw[Below.heap_setCell _ ⟨w.heap.size+1,_,none⟩ _ j (by show j≠w.heap.size+1;exact hj'.2)]
    iterate 2 rw[Below.heap_setCell _ ⟨w3.heap.size,_,none⟩ _ j (by show j≠w3.heap.size;exact hj'.1)]
   ·exact jE (jE (jE (jE (jE (jE (qA HB7) (by omega)) (by omega)) (by omega)) (by omega)) (by omega)) (by omega)
def gZ(p:FR×Value):List Value:=[.string p.1.name,.int .i64 (p.1.params:Int),.int .i64 (p.1.slots:Int),p.2]
def xY(l:List (FR×Value)):List Value:=l.flatMap gZ
theorem qFk(l:List (FR×Value))(c:FR×Value):xY (l++[c])=xY l++gZ c:=by simp[xY]
theorem qCQ:∀ (l:List (FR×Value)) (i:Nat) (h:i<l.length),(xY l)[i*4+3]? = some l[i].2
 | [],i,h=>absurd h (by simp)
 | c::l,0,h=>by
  have e:xY (c::l)=gZ c++xY l:=by simp[xY]
  rw[e]
  rfl
 | c::l,i+1,h=>by
  have e:xY (c::l)=gZ c++xY l:=by simp[xY]
  have ih:=qCQ l i (by simpa using h)
  rw[e,List.getElem?_append_right (by show 4≤(i+1)*4+3;omega),show(i+1)*4+3-(gZ c).length=i*4+3 by show(i+1)*4+3-4=_;omega]
  exact ih
structure cC(w:World)(B:Nat)(v:Value)(l:List (FR×Value)):Prop where
 row:w.ownsRow B 35 4 v l.length (xY l)
 code:∀ p∈l,w.ownsRow B 41 7 p.2 p.1.code.length (j7 p.1.code)
 off:∀ p∈l,∀ j,p.2.ownBlock=some j→v.ownBlock≠some j
theorem cC.later{w w':World}{B:Nat}{v:Value}{l:List (FR×Value)}(h:cC w B v l)(hb:Below w.heap.size w w'):cC w' B v l:=
 ⟨jJ h.row fun j hj=>hb.block j (World.ownsRow.lt h.row j hj).2,fun p hp=>jJ (h.code p hp) fun j hj=>hb.block j (World.ownsRow.lt (h.code p hp) j hj).2,h.off⟩
theorem qNd:(Tryz.prog.info? 35).map (fun i=>(i.zero,i.size,i.bytes))=some (some (.agg #[.string ⟨#[]⟩,.int .i64 0,.int .i64 0,.slice none 0 0]),4,56):=by kernel_rfl
structure qNY(w w':World)(B:Nat)(v v':Value)(code:List (FR×Value)):Prop where
 row:w'.ownsRow B 35 4 v' code.length (xY code)
 block:∀ k,k<w.heap.size→v.ownBlock≠some k→w'.heap[k]? = w.heap[k]?
 own:∀ j,v'.ownBlock=some j→v.ownBlock=some j∨w.heap.size≤j
 os:w'.os=w.os
 tape:w'.tape=w.tape
 output:w'.output=w.output
 size:w.heap.size≤w'.heap.size
theorem cC.app{w w':World}{B:Nat}{v v':Value}{l:List (FR×Value)}{f:FR}{u:Value}(h:cC w B v l)(hu:w.ownsRow B 41 7 u f.code.length (j7 f.code))(ho:∀ j,u.ownBlock=some j→v.ownBlock≠some j)(hR:qNY w w' B v v' (l++[(f,u)])):cC w' B v' (l++[(f,u)]):=by
 have kE:∀ p∈l++[(f,u)],w.ownsRow B 41 7 p.2 p.1.code.length (j7 p.1.code)∧∀ j,p.2.ownBlock=some j→v.ownBlock≠some j:=fun p hp=>by
  rcases List.mem_append.1 hp with hp | hp
  ·exact⟨h.code p hp,h.off p hp⟩
  ·rw[List.mem_singleton]at hp
   subst hp
   exact⟨hu,ho⟩
 refine⟨hR.row,fun p hp=>jJ (kE p hp).1 fun j hj=>hR.block j (World.ownsRow.lt (kE p hp).1 j hj).2 ((kE p hp).2 j hj),fun p hp j hj e=>?_⟩
 rcases hR.own j e with e | e
 ·exact(kE p hp).2 j hj e
 ·have:=(World.ownsRow.lt (kE p hp).1 j hj).2
  omega
theorem qLq(w:World){ops:Array Oper}{o:Oper}{a:Act}{K:Act→World→Prop}{Q:Exit→Act→World→Prop}{E:Prop}(gM:o.guard=none)(s x:Operand)
  (ho:o.op=.call { callee:=.builtin .append,args:=#[s,x],argTypes:=#[23,23] }) (B q:Nat) (v:Value) (code:List (FR×Value)) (c:FR×Value) (hs:a.eval s=v)
  (kF:w.ownsRow B 35 4 v code.length (xY code)) (hx:a.eval x=.slice (some ⟨q,0,none⟩) 1 1)
  (cM:w.cell? ⟨q,0,none⟩=some (.string c.1.name)) (xZ:w.cell? ⟨q,1,none⟩=some (.int .i64 (c.1.params:Int))) (wZ:w.cell? ⟨q,2,none⟩=some (.int .i64 (c.1.slots:Int))) (hc3:w.cell? ⟨q,3,none⟩=some c.2) (ho2:c.2.oneCell'=true) (hB:B≤w.heap.size) (hl:code.length≤100000)
  (h:∀ v' w',qNY w w' B v v' (code++[c])→K (a.put o.dst v') w'):if Region.wanted o (yielded ops a.tmps)=true then Oper.wp Tryz.prog o a w K Q else E:=by
 have hw:Region.wanted o (yielded ops a.tmps)=true:=by simp[Region.wanted,gM]
 rw[if_pos hw]
 obtain⟨i0,hi,wW,wJ,gB⟩:=info_parts qNd
 have sL:∀ j u,(gZ c)[j]? = some u→w.cell? ((⟨q,0,none⟩:Addr).add j)=some u:=by
  intro j u' hj
  match j,hj with
  | 0,hj=>simp[gZ]at hj;subst hj;simpa[Addr.add]using cM
  | 1,hj=>simp[gZ]at hj;subst hj;simpa[Addr.add]using xZ
  | 2,hj=>simp[gZ]at hj;subst hj;simpa[Addr.add]using wZ
  | 3,hj=>simp[gZ]at hj;subst hj;simpa[Addr.add]using hc3
  | j+4,hj=>simp[gZ]at hj
 have h1:∀ u∈gZ c,u.oneCell'=true:=by
  intro u' r5
  simp[gZ]at r5
  rcases r5 with rfl | rfl | rfl | rfl <;> first | rfl | exact ho2
 obtain⟨v',w',hr,h2,h3,h4⟩:=run_append_own (P:=Tryz.prog) w B 23 o.type 35 i0 _ 4 56 Tryz.underlying23 hi wW wJ gB rfl (by decide) v code.length (xY code) kF ⟨q,0,none⟩ 1 1 (gZ c) rfl sL h1 (by unfold maxLen;omega) (by omega) (by omega)
 have hwh:=fN (P:=Tryz.prog) w B 23 o.type 35 i0 _ 4 56 Tryz.underlying23 hi wW wJ gB v code.length (xY code) kF ⟨q,0,none⟩ 1 1 (by omega) (gZ c) rfl sL h1 (by unfold maxLen;omega) (by omega) v' w' hr
 have hb:=(Below.refl _ _).grown h3 hB (fun j hj=>(World.ownsRow.lt kF j hj).1)
 unfold Oper.wp execOp
 simp only[ho,resolve,invoke,builtin,Sem.run_bind,Sem.run_pure,Result.andThen_ok,List.map_toArray,List.map_cons,List.map_nil,hs,hx,hr]
 rw[←qFk,show code.length+1=(code++[c]).length by simp]at h2
 refine h v' w' ⟨h2,fun k hk hv=>h3.block k hk (fun e=>hv e.symm),fun j hj=>?_,hb.os,hb.tape,hb.output,hb.size⟩
 rcases hwh with e | e
 ·exact .inl (e▸hj)
 ·rw[e]at hj
  exact .inr (by have:=Option.some.inj hj;omega)
theorem mJ{w:World}{B B':Nat}{t:TypeId}{k n:Nat}{v:Value}{cs:List Value}(h:w.ownsRow B t k v n cs)(hb:B'≤B):w.ownsRow B' t k v n cs:=by
 rcases h with ⟨h1,h2⟩
 refine⟨h1,?_⟩
 rcases h2 with h2 | ⟨g,cap,cur,e,hg,rest⟩
 ·exact .inl h2
 ·exact .inr ⟨g,cap,cur,e,by omega,rest⟩
theorem qNY.below{w w':World}{B:Nat}{v v':Value}{l l':List (FR×Value)}(h:qNY w w' B v v' l')(hr:w.ownsRow B 35 4 v l.length (xY l))(hB:B≤w.heap.size):Below B w w':=
 ⟨h.os,h.tape,h.output,h.size,fun k hk=>h.block k (by omega) (fun e=>by have:=(World.ownsRow.lt hr k e).1;omega)⟩
structure qBg(w:World)(B P:Nat)(v:Value)(l:List (FR×Value)):Prop where
 fs:cC w B v l
 blk:w.heap[P]? = some (.cells #[v] 25 (0,0))
 vP:v.ownBlock≠some P
 cP:∀ p∈l,p.2.ownBlock≠some P
 bP:B≤P
theorem qBg.lt{w:World}{B P:Nat}{v:Value}{l:List (FR×Value)}(h:qBg w B P v l):P<w.heap.size:=(Array.getElem?_eq_some_iff.1 h.blk).1
theorem qBg.cell{w:World}{B P:Nat}{v:Value}{l:List (FR×Value)}(h:qBg w B P v l):w.cell? ⟨P,0,none⟩=some v:=(cell_of_block h.blk 0).trans rfl
theorem qBg.later{w w':World}{B P:Nat}{v:Value}{l:List (FR×Value)}(h:qBg w B P v l)(hb:Below w.heap.size w w'):qBg w' B P v l:=⟨h.fs.later hb,(hb.block P h.lt).trans h.blk,h.vP,h.cP,h.bP⟩
theorem qBg.put{w w1 w9:World}{B P:Nat}{v v9 u:Value}{f:FR}{l:List (FR×Value)}(h:qBg w B P v l)(hb:Below w.heap.size w w1)(hu:w1.ownsRow w.heap.size 41 7 u f.code.length (j7 f.code))(hB:B≤w.heap.size)(hR:qNY w1 w9 B v v9 (l++[(f,u)])):qBg (w9.setCell ⟨P,0,none⟩ v9) B P v9 (l++[(f,u)])∧Below B w (w9.setCell ⟨P,0,none⟩ v9):=by
 have h1:=h.later hb
 have hP:=h.lt
 have hP1:=h1.lt
 have hs:=hb.size
 have f9:=h1.fs.app (mJ hu hB) (fun j hj e=>by have:=(World.ownsRow.lt hu j hj).1;have:=(World.ownsRow.lt h.fs.row j e).2;omega) hR
 have hv9:v9.ownBlock≠some P:=fun e=>by
  rcases hR.own P e with e | e
  ·exact h.vP e
  ·omega
 have hc9:∀ p∈l++[(f,u)],p.2.ownBlock≠some P:=fun p hp=>by
  rcases List.mem_append.1 hp with hp | hp
  ·exact h.cP p hp
  ·rw[List.mem_singleton]at hp
   subst hp
   exact fun e=>by have:=(World.ownsRow.lt hu P e).1;omega
 refine⟨⟨⟨jJ f9.row fun j hj=>Below.heap_setCell w9 ⟨P,0,none⟩ v9 j (fun e=>hv9 (by rw[hj];exact congrArg some e)),fun p hp=>jJ (f9.code p hp) fun j hj=>Below.heap_setCell w9 ⟨P,0,none⟩ v9 j (fun e=>hc9 p hp (by rw[hj];exact congrArg some e)),f9.off⟩,?_,hv9,hc9,h.bP⟩,?_⟩
 ·have:=block_setCell (i:=0) ((hR.block P hP1 h.vP).trans h1.blk) v9
  exact this
 ·have hb9:Below B w w9:=(hb.mono hB).trans ⟨hR.os,hR.tape,hR.output,hR.size,fun k hk=>hR.block k (by omega) (fun e=>by have:=(World.ownsRow.lt h.fs.row k e).1;omega)⟩
  exact hb9.setCell h.bP v9
theorem qD3{ns:List TN}:∀ (l:List Int) (lo hi:Nat),y7 ns l lo hi→l.length+lo≤hi
 | [],lo,hi,h=>by have:=h.le;simpa using this
 | j::ks,lo,hi,h=>by
  obtain⟨qX,x,_,_,_,_,_,h2,h3,_⟩:=h.head
  have:=qD3 ks _ _ h2
  rw[List.length_cons]
  omega
def qQ4(l:List FR)(w:World)(e:Ending)(w':World):Prop:=∃ (v:Value) (ps:List (FR×Value)),e=.returned (.tuple #[.agg #[v],.int .i64 0])∧ps.map Prod.fst=l∧cC w' w.heap.size v ps∧Below w.heap.size w w'
def qBP(w:World)(e:Ending)(w':World):Prop:=∃ c:Int,c≠0∧e=.returned (.tuple #[.agg #[.slice none 0 0],.int .i64 c])∧Below w.heap.size w w'
def qT6(l:List FR)(w:World)(e:Ending)(w':World):Prop:=((∀ f∈l,f.code.length≤400)∧qQ4 l w e w')∨((¬ ∀ f∈l,f.code.length≤400)∧qBP w e w')
theorem qBi(ns:List TN)(a:Nat)(L:rO)(w:World)(hN:uV w L ns)(tY:sW ns)(sS:gI ns (a:Int))(hT:qAE ns (a:Int))(qEC:(gW ns (a:Int)).1=0) :
  Calls Tryz.prog 54 #[.agg #[.slice L.p ns.length L.cap,.int .i64 (a:Int)]] w (qT6 (rJ ns (a:Int)) w):=by
 obtain⟨r',m,er,hm,hk,hal,-⟩:=hT.seg
 obtain rfl:a=r':=by omega
 have hs:True:=trivial
 have hg:True:=trivial
 obtain⟨_,eD⟩:=List.getElem?_eq_some_iff.1 hm
 have fJ:=tY.1
 have qOu:=hT.few
 have zN:m.kids.length≤1048576:=(tY.2 m (List.mem_of_getElem? hm)).2.2.1
 have wC:m.kids.length≤200:=by have:=qD3 _ _ _ hk;omega
 have hrk:vW ns (a:Int)=m.kids:=by unfold vW;rw[Int.toNat_natCast,hm];rfl
 have HFS:Hid (dK ns (a:Int)=jU ns m.kids):=qC (by unfold dK;rw[hrk])
 have HCK:Hid (∀ w1,Below w.heap.size w w1→Calls Tryz.prog 86 #[.agg #[.slice L.p ns.length L.cap,.int .i64 (a:Int)]] w1 (oY (gW ns (a:Int)) w1)):=qC (fun w1 h1=>qB1 ns a L w1 (hN.later h1) tY sS hT)
 have qX4:Hid (∀ w1 (fs:List Int) (fp:Option Addr) (fc:Nat),Below w.heap.size w w1→fs.length≤200→vD w1 fp fs→Calls Tryz.prog 87 #[.agg #[.slice L.p ns.length L.cap,.int .i64 (a:Int)],.int .i64 (a:Int),.slice fp fs.length fc] w1 (FnX (vT ns (a:Int) fs (a:Int)) w1)):=qC (fun w1 fs fp fc h1 h2 h3=>qG1 ns a L fs fp fc w1 (hN.later h1) tY sS hT h2 h3)
 have qYN:Hid (∀ w1 (fs:List Int) (fp:Option Addr) (fc:Nat) (k:Int),Below w.heap.size w w1→fs.length≤200→vD w1 fp fs→k∈jU ns m.kids→Calls Tryz.prog 87 #[.agg #[.slice L.p ns.length L.cap,.int .i64 (a:Int)],.int .i64 k,.slice fp fs.length fc] w1 (FnX (vT ns (a:Int) fs k) w1)):=qC (fun w1 fs fp fc k h1 h2 h3 h4=>by
  obtain⟨h5,h6⟩:=cS.1 h4
  obtain⟨i,hi,rfl⟩:=List.getElem_of_mem h5
  obtain⟨qX,l,mm,e,lR,dA,jF⟩:=iK m.kids 0 a hk i hi
  rw[e]at h6 ⊢
  rw[oT lR]at h6
  exact qGU ns (a:Int) qX l mm L fs fp fc w1 (hN.later h1) tY sS hT h2 h3 lR dA h6 (by omega))
 have HI:Hid (∀ wx,Below w.heap.size w wx→∃ nb jK,L.p=some ⟨nb,jK,none⟩∧wx.cell? ⟨nb,jK+a*5+4,none⟩=some (.slice (L.pk a) m.kids.length (L.ck a))∧vD wx (L.pk a) m.kids∧∀ (k:Nat) (m':TN),ns[k]? = some m'→wx.cell? ⟨nb,jK+k*5,none⟩=some (.int .i64 m'.k)):=qC (fun wx h=>by
  obtain⟨nb,jK,hp,_,_,_,_,q4,_,q6⟩:=(hN.later h) a hal
  rw[eD]at q4 q6
  refine⟨nb,jK,hp,q4,q6,fun k m' hk'=>?_⟩
  obtain⟨wC,hke⟩:=List.getElem?_eq_some_iff.1 hk'
  obtain⟨nb',qKE,hp',q0,_⟩:=(hN.later h) k wC
  rw[hp]at hp'
  injection hp' with hp'
  injection hp' with e1 e2
  subst e1 e2
  rw[hke]at q0
  exact q0)
 have qWc:Hid (∀ i (hi:i<m.kids.length),∃ (qX:Nat) (mm:TN),m.kids[i]=(qX:Int)∧ns[qX]? = some mm):=qC (fun i hi=>by
  obtain⟨qX,l,mm,e,lR,dA,jF⟩:=iK m.kids 0 a hk i hi
  exact⟨qX,mm,e,lR⟩)
 have HP:Hid (rJ ns (a:Int)=vT ns (a:Int) (jU ns m.kids) (a:Int)::(jU ns m.kids).map (vT ns (a:Int) (jU ns m.kids))):=qC (by unfold rJ;rw[qA HFS])
 generalize hck:gW ns (a:Int)=ckr at HCK qEC
 obtain⟨f1,f2⟩:=ckr
 dsimp only at qEC
 subst qEC
 generalize hpr:rJ ns (a:Int)=pr at HP ⊢
 generalize L.pk a=pk at HI
 generalize L.ck a=ckp at HI
 clear hN tY sS hT hs hm eD hg hk er hrk HFS hck hpr
 unfold oY at *
 go_enter Tryz.func54,Tryz.ntmps54
 go_wp2_with fail
 refine(qA HCK _ (by exact qG (qD _ _))).mono ?_
 rintro e w3 ⟨rfl,uN⟩
 dsimp only
 have x0:w3.cell? ⟨w.heap.size,0,none⟩=some (.slice L.p ns.length L.cap):=cell_later uN (by simp)
 have x1:w3.cell? ⟨w.heap.size,1,none⟩=some (.int .i64 (a:Int)):=cell_later uN (by simp)
 have hR3:w3.heap[w.heap.size+1]? = some (.cells #[.slice none 0 0] 25 (0,0)):=(uN.block _ (by simp)).trans (by
  have:=heap_alloc_new (w.alloc (.cells #[.slice L.p ns.length L.cap,.int .i64 (a:Int)] 94)) (.cells #[.slice none 0 0] 25)
  have e:(w.alloc (.cells #[.slice L.p ns.length L.cap,.int .i64 (a:Int)] 94)).heap.size=w.heap.size+1:=by simp
  rw[e]at this
  exact this)
 have hw3:w.heap.size+1<w3.heap.size:=(Array.getElem?_eq_some_iff.1 hR3).1
 have uO:=qC (qE (qG (o:=.cells #[.slice none 0 0] 25) (qD w (.cells #[.slice L.p ns.length L.cap,.int .i64 (a:Int)] 94))) uN)
 have gL:Below w3.heap.size w3 ((w3.alloc (.cells #[.int .i64 0,.int .i64 f2] 130)).alloc (.cells #[] 3)):=qG (qD _ _)
 have lO:=qC (qE (qA uO) gL)
 have hR5:=qC ((gL.block _ hw3).trans hR3)
 have xI:=qC (cell_later gL x0)
 have gA:=qC (cell_later gL x1)
 have HI5:Hid (qR ((w3.alloc (.cells #[.int .i64 0,.int .i64 f2] 130)).alloc (.cells #[] 3)) (w3.heap.size+1) (.slice (some ⟨w3.heap.size+1,0,none⟩) 0 0) []):=qC (by
  have:=qR.lit (w3.alloc (.cells #[.int .i64 0,.int .i64 f2] 130)) (w3.heap.size+1) [] (by simp) (by decide)
  simpa using this)
 obtain⟨nb,jK,hp,q4,q6,q7⟩:=qA HI _ (qA lO)
 have HP0:=qC hp
 have qVA:=World.block_lt_of_cell? _ _ q4
 have q4':w3.cell? ⟨nb,jK+a*5+4,none⟩=some (.slice pk m.kids.length ckp):=by
  obtain⟨nb',qKE,hp',qZw,_⟩:=qA HI _ (qA uO)
  rw[hp]at hp'
  obtain⟨rfl,rfl⟩:nb=nb'∧jK=qKE:=by simpa using hp'
  exact qZw
 have qYu:=World.block_lt_of_cell? _ _ q4'
 dsimp only at qYu
 rw[hp]at x0
 have jEj:w.heap.size<w3.heap.size:=by omega
 have qSo:w.heap.size<w3.heap.size+1:=by omega
 have jCX:nb<w3.heap.size+1:=by omega
 have qYH:Hid ((jU ns m.kids).length≤200):=qC (Nat.le_trans (qLs _ _) wC)
 clear uN gL HCK hR3 q4 q6 q7 qVA hp
 go_wp2
 have uA:w3.heap.size+1≤((w3.alloc (.cells #[.int .i64 0,.int .i64 f2] 130)).alloc (.cells #[] 3)).heap.size:=by simp
 generalize ((w3.alloc (.cells #[.int .i64 0,.int .i64 f2] 130)).alloc (.cells #[] 3))=w5 at lO hR5 xI gA HI5 uA ⊢
 clear x0 x1 q4'
 go_loopw[5,7] (fun v i wx=>∃ (j:Nat) (zs:List Int),j≤m.kids.length∧i=.int .i64 j∧Hid (zs=jU ns (m.kids.take j))∧Hid (qR wx (w3.heap.size+1) v zs)∧Hid (Below (w3.heap.size+1) w5 wx)∧zs.length≤j) (fun _ i _=>m.kids.length-(intOf i).toNat)
 case atStart=>exact⟨0,[],by omega,rfl,qC (by simp[jU]),HI5,qC (Below.refl _ _),by simp⟩
 case round=>
  obtain⟨j,zs,hj,rfl,hZ,hIB,uZ,hzl⟩:=hrel
  have hwr:Below w.heap.size w wr:=(qA lO).trans ((qA uZ).mono (by omega))
  have dE:=qC hwr
  have x0:wr.cell? ⟨w.heap.size,0,none⟩=some (.slice L.p ns.length L.cap):=by rw[(qA uZ).cell (p:=⟨w.heap.size,0,none⟩) (by show w.heap.size<_;omega)];exact qA xI
  have x1:wr.cell? ⟨w.heap.size,1,none⟩=some (.int .i64 (a:Int)):=by rw[(qA uZ).cell (p:=⟨w.heap.size,1,none⟩) (by show w.heap.size<_;omega)];exact qA gA
  have hbr:w3.heap.size+1≤wr.heap.size:=Nat.le_trans uA (qA uZ).size
  obtain⟨nb',qKE,hp,_,q6,q7⟩:=qA HI wr hwr
  rw[hp]at x0
  have HHP:=qC hp
  clear hwr hp
  by_cases jF:j<m.kids.length
  ·obtain⟨qX,mm,pW,lR⟩:=qA qWc j jF
   have hml:qX<ns.length:=(List.getElem?_eq_some_iff.1 lR).1
   obtain⟨kb,zY,kI,y0⟩:=q6 j jF
   rw[pW]at y0
   have z0:=q7 qX mm lR
   have hka:=oT lR
   have HY:=qC (qD0 (ns:=ns) jF)
   have HN:=qC (qGN (ns:=ns) jF)
   rw[pW,hka]at HY HN
   clear pW lR q6 q7 hka
   subst kI
   by_cases yE:mm.k=20
   ·have e2:(mm.k == 20)=true:=by simp[yE]
    have HZ2:=qC (qA HY yE)
    generalize mm.k=mk at z0 e2
    clear yE HY HN
    obtain⟨va,vc,hv⟩:=(qA hIB).slice
    have HV:=qC hv
    go_wp2_with fail
    go_region
    go_wp2_with (at_builtin;refine qBw _ rfl _ _ rfl (w3.heap.size+1) wr.drew.heap.size _ zs (qX:Int) rfl (qR.alloc ((qA hIB).later (qF (Below.refl _ _))) _) rfl (by simp) ?c5 ?c3 ?c6)
    case c5=>show w3.heap.size+1≤(wr.alloc _).heap.size;simp;omega
    case c3=>omega
    case c6=>
     intro v6 w6 hI6 hb6
     have HI6:=qC hI6
     have HB6:Hid (Below (w3.heap.size+1) w5 w6):=qC (((qA uZ).trans (((qD wr (.cells #[.int .i64 (qX:Int)] 3)).mono hbr).drew)).trans hb6)
     obtain⟨va6,vc6,hv6⟩:=hI6.slice
     clear hI6 hb6
     go_wp2
     go_roundw
     case rel=>exact⟨j+1,zs++[(qX:Int)],by omega,by go_num,qC (by rw[qA HZ2,←qA hZ]),HI6,HB6,by simp;omega⟩
     case measure=>simp[intOf];omega
   ·have e2:(mm.k == 20)=false:=by simpa using yE
    have HZ2:=qC (qA HN yE)
    generalize mm.k=mk at z0 e2
    clear yE HY HN
    go_wp2_with fail
    go_region
    go_wp2
    go_roundw
    case rel=>exact⟨j+1,zs,by omega,by go_num,qC (by rw[qA HZ2];exact qA hZ),qC ((qA hIB).later (qF (Below.refl _ _))),qC ((qA uZ).drew),by omega⟩
    case measure=>simp[intOf];omega
  ·obtain rfl:j=m.kids.length:=by omega
   rw[List.take_length]at hZ
   obtain⟨fp,fc,hv,hfi⟩:=(qA hIB).ints
   have hfl:zs.length≤200:=by rw[qA hZ];exact qA qYH
   subst hv
   have HC:=qC (qA qX4 wr zs fp fc (qA dE) hfl hfi)
   rw[←qA HHP]at x0
   clear q6 q7
   unfold FnX at HC
   generalize hu0:vT ns (a:Int) zs (a:Int)=u0 at HC
   have HU0:=qC hu0
   clear hu0
   go_wp2_with fail
   refine(qA HC).mono ?_
   rintro e w7 ⟨v7,rfl,qKJ,hb7⟩
   obtain⟨wa,hwa⟩:∃ wa,wa=wr:=⟨_,rfl⟩
   subst hwa
   have PG8:qBg ((w7.alloc (.cells #[.string u0.name,.int .i64 (u0.params:Int),.int .i64 (u0.slots:Int),v7] 35)).alloc (.cells #[.slice (some ⟨w7.heap.size,0,none⟩) 1 1] 25)) wa.heap.size (w7.heap.size+1) (.slice (some ⟨w7.heap.size,0,none⟩) 1 1) [(u0,v7)]:=by
    have qSS:=fun j hj=>World.ownsRow.lt qKJ j hj
    refine⟨⟨⟨rfl,.inr ⟨w7.heap.size,1,#[.string u0.name,.int .i64 (u0.params:Int),.int .i64 (u0.slots:Int),v7],rfl,hb7.size,heap_alloc2_old _ _ _,Nat.le_refl _,by decide,rfl,rfl⟩⟩,fun p hp=>?_,fun p hp j hj=>?_⟩,heap_alloc2_new _ _ _,?_,fun p hp=>?_,by have:=hb7.size;omega⟩
    ·rw[List.mem_singleton]at hp
     subst hp
     exact jJ qKJ fun j hj=>(qG (qD w7 _)).block j (qSS j hj).2
    ·rw[List.mem_singleton]at hp
     subst hp
     intro e
     have e':w7.heap.size=j:=by simpa[Value.ownBlock]using e
     have:=(qSS j hj).2
     omega
    ·intro e
     simp[Value.ownBlock]at e
    ·rw[List.mem_singleton]at hp
     subst hp
     intro e
     have:=(qSS _ e).2
     omega
   have qQ2:=qC PG8
   have HB8:=qC (qE hb7 (qG (o:=.cells #[.slice (some ⟨w7.heap.size,0,none⟩) 1 1] 25) (qD w7 (.cells #[.string u0.name,.int .i64 (u0.params:Int),.int .i64 (u0.slots:Int),v7] 35))))
   obtain⟨va7,vc7,hv7⟩:=vB qKJ
   subst hv7
   have hRa:=qC (((qA uZ).block (w.heap.size+1) (by omega)).trans (qA hR5))
   have qUo:=qC x0
   have qYy:=qC x1
   have HIa:=qC hfi
   clear PG8 qKJ hb7 HC x0 x1 hfi
   go_wp2
   generalize ((w7.alloc (.cells #[.string u0.name,.int .i64 (u0.params:Int),.int .i64 (u0.slots:Int),.slice va7 u0.code.length vc7] 35)).alloc (.cells #[.slice (some ⟨w7.heap.size,0,none⟩) 1 1] 25))=w8 at qQ2 HB8 ⊢
   generalize w7.heap.size+1=P at qQ2 ⊢
   go_loopw[9] (fun i wx=>∃ (j:Nat) (l:List (FR×Value)) (v':Value),j≤zs.length∧i=.int .i64 j∧Hid (l.map Prod.fst=u0::(zs.take j).map (vT ns (a:Int) zs))∧Hid (qBg wx wa.heap.size P v' l)∧Hid (Below wa.heap.size wa wx)∧l.length=j+1) (fun i _=>zs.length-(intOf i).toNat)
   case atStart=>exact⟨0,[(u0,.slice va7 u0.code.length vc7)],_,by omega,rfl,qC rfl,qQ2,HB8,rfl⟩
   case round=>
    clear qQ2 HB8
    obtain⟨j,l,v',hj,rfl,hM,hPG,rV,hll⟩:=hrel
    have hwr:Below w.heap.size w wr:=(qA dE).trans ((qA rV).mono (qA dE).size)
    have x0:=cell_later (qA rV) (qA qUo)
    have x1:=cell_later (qA rV) (qA qYy)
    have cP:=(qA hPG).cell
    have hPl:=(qA hPG).lt
    obtain⟨pa,pc,hv'⟩:=vB (qA hPG).fs.row
    subst hv'
    by_cases jF:j<zs.length
    ·have hints:=(qA HIa).later (qA rV)
     obtain⟨zb,qU8,hfp,y0⟩:=hints j jF
     have hkz:zs[j]∈jU ns m.kids:=by rw[←qA hZ];exact List.getElem_mem jF
     have HC:=qC (qA qYN wr.drew zs fp fc zs[j] hwr.drew hfl (hints.later (qF (Below.refl _ _))) hkz)
     have HM2:Hid (∀ u,(l++[(vT ns (a:Int) zs zs[j],u)]).map Prod.fst=u0::(zs.take (j+1)).map (vT ns (a:Int) zs)):=qC (fun u=>by rw[List.map_append,qA hM,List.take_succ_eq_append_getElem jF,List.map_append];rfl)
     generalize zs[j]=k at y0 HC HM2 hkz
     unfold FnX at HC
     generalize vT ns (a:Int) zs k=f at HC HM2
     clear hints hkz hwr
     subst hfp
     go_wp2_with fail
     have hTw:w.heap.size<wr.heap.size:=World.block_lt_of_cell? _ _ x0
     have hzw:zb<wr.heap.size:=World.block_lt_of_cell? _ _ y0
     have hza:zb<wa.heap.size:=by
      obtain⟨zb',zo',e',y0'⟩:=(qA HIa) j jF
      obtain⟨rfl,rfl⟩:zb=zb'∧qU8=zo':=by simpa using e'
      exact World.block_lt_of_cell? _ _ y0'
     have hPa:=(qA hPG).bP
     have hTa:w.heap.size<wa.heap.size:=World.block_lt_of_cell? _ _ (qA qUo)
     have hTP:w.heap.size≠P:=by omega
     have hzP:zb≠P:=by omega
     have HLL:=qC hll
     have hl2:l.length≤100000:=by omega
     clear hll
     have HPD:=qC ((qA hPG).later (qF (Below.refl wr.heap.size wr)))
     go_region_law (first | (go_simp;go_at_call 87;refine(qA HC).mono ?_;rintro e y ⟨u,rfl,kF,jR⟩;obtain⟨ua,uc,hu⟩:=vB kF;subst hu;have yP:=cell_later jR (show wr.drew.cell? ⟨P,0,none⟩=_ from cP);have yPl:P<y.heap.size:=World.block_lt_of_cell? _ _ yP;have hsy:wa.heap.size≤y.heap.size:=Nat.le_trans (qA rV).size jR.size;have yx0:=cell_later jR (show wr.drew.cell? ⟨w.heap.size,0,none⟩=_ from x0);have yx1:=cell_later jR (show wr.drew.cell? ⟨w.heap.size,1,none⟩=_ from x1);have yy0:=cell_later jR (show wr.drew.cell? ⟨zb,qU8+j,none⟩=_ from y0);have hTy:w.heap.size<y.heap.size:=Nat.lt_of_lt_of_le hTa hsy;have pJ:zb<y.heap.size:=Nat.lt_of_lt_of_le hza hsy;go_wp2_with fail) | (have hq:=jR;refine qLq _ (by rfl) _ _ (by rfl) wa.heap.size y.heap.size (.slice pa l.length pc) l (f,.slice ua f.code.length uc) (by rfl) ((qA HPD).later (qE jR (qD y _))).fs.row (by rfl) (by simp) (by simp) (by simp) (by simp) rfl (by simp;omega) hl2 ?_;intro v9 w9 hR9;obtain⟨a9,k9,hv9⟩:=vB hR9.row;subst hv9;have z9:=(hR9.block P (by simp;omega) (qA hPG).vP).trans ((qA HPD).later (qE jR (qD y _))).blk;have c9:=(cell_of_block z9 0).trans rfl;have c9':=unfrozen_of_block z9 0;have hb9:=hR9.below ((qA HPD).later (qE jR (qD y _))).fs.row (by simp;omega);have nx0:=qNW hb9 (by show w.heap.size<_;omega) (cell_later (qD y _) yx0);have nx1:=qNW hb9 (by show w.heap.size<_;omega) (cell_later (qD y _) yx1);have ny0:=qNW hb9 (by show zb<_;omega) (cell_later (qD y _) yy0)))
     all_goals (
      go_wp2
      go_roundw
      case rel=>
       have hp:=(qA HPD).put (qE jR (qD y _)) (jJ kF fun i hi=>(qD y _).block i (World.ownsRow.lt kF i hi).2) (qA rV).size hR9
       rw[show(l++[(f,Value.slice ua f.code.length uc)]).length=l.length+1 by rw[List.length_append];rfl]at hp
       exact⟨j+1,l++[(f,.slice ua f.code.length uc)],_,by omega,rfl,qC (qA HM2 _),qC hp.1,qC ((qA rV).drew.trans hp.2),by rw[List.length_append,qA HLL];rfl⟩
      case measure=>simp[intOf];omega)
    ·obtain rfl:j=zs.length:=by omega
     rw[List.take_length]at hM
     have HMP:Hid (l.map Prod.fst=pr):=qC (by rw[qA hM,qA HP,←qA HU0,qA hZ])
     obtain⟨wb,hwb⟩:∃ wb,wb=wr:=⟨_,rfl⟩
     subst hwb
     have kF:=(qA hPG).fs.row
     have iY:Hid (∀ t (h:t<l.length),∃ g ca k,pa=some ⟨g,0,none⟩∧wb.cell? ⟨g,t*4+3,none⟩=some (.slice ca l[t].1.code.length k)):=qC (fun t ht=>by
      obtain⟨ca,k,hcs⟩:=vB ((qA hPG).fs.code l[t] (List.getElem_mem ht))
      rcases kF.2 with ⟨_,h0⟩ | ⟨g,cap,cur,e,hg,hgg,hnc,hcm,hcs',cL⟩
      ·omega
      ·injection e with e1 e2 e3
       subst e1 e3
       have hc:=World.ownsRow.cellAt kF (t*4+3) (by omega)
       rw[qCQ l t ht,hcs]at hc
       exact⟨g,ca,k,rfl,hc⟩)
     have hRb:wb.heap[w.heap.size+1]? = some (.cells #[.slice none 0 0] 25 (0,0)):=((qA rV).block _ (Array.getElem?_eq_some_iff.1 (qA hRa)).1).trans (qA hRa)
     have r0:wb.cell? ⟨w.heap.size+1,0,none⟩=some (.slice none 0 0):=(cell_of_block hRb 0).trans rfl
     have rf:=unfrozen_of_block hRb 0
     have jCJ:w.heap.size+1<wa.heap.size:=(Array.getElem?_eq_some_iff.1 (qA hRa)).1
     have HRB:=qC hRb
     have HBW:Hid (Below w.heap.size w wb):=qC hwr
     have HGX:Hid (cC (wb.setCell ⟨w.heap.size+1,0,none⟩ (.slice pa l.length pc)) w.heap.size (.slice pa l.length pc) l):=qC (by
      have h0:=(qA hPG).fs
      have hwl:w.heap.size≤wa.heap.size:=(qA dE).size
      refine⟨mJ (jJ h0.row fun j hj=>Below.heap_setCell wb ⟨w.heap.size+1,0,none⟩ _ j (fun e=>by have:=(World.ownsRow.lt h0.row j hj).1;have e':j=w.heap.size+1:=e;omega)) hwl,fun p hp=>mJ (jJ (h0.code p hp) fun j hj=>Below.heap_setCell wb ⟨w.heap.size+1,0,none⟩ _ j (fun e=>by have:=(World.ownsRow.lt (h0.code p hp) j hj).1;have e':j=w.heap.size+1:=e;omega)) hwl,h0.off⟩)
     have HLL:=qC hll
     have hl2:l.length≤100000:=by omega
     clear hll kF hRb hwr hPG hM
     go_wp2
     go_loopw[10] (fun i wx=>∃ t:Nat,t≤l.length∧i=.int .i64 t∧wb=wx∧Hid (∀ f∈l.take t,f.1.code.length≤400)) (fun i _=>l.length-(intOf i).toNat)
     case atStart=>exact⟨0,by omega,rfl,rfl,qC (by simp)⟩
     case round=>
      obtain⟨t,ht,rfl,hwx,kE⟩:=hrel
      subst hwx
      by_cases jF:t<l.length
      ·obtain⟨g,ca,k,hpa,c3⟩:=qA iY t jF
       have HTK:=qC (List.take_succ_eq_append_getElem jF)
       have HLT:=qC (List.getElem_mem jF)
       generalize l[t]=lt at c3 HTK HLT
       rw[hpa]at cP
       by_cases h4:lt.1.code.length≤400
       ·have xP:Hid (∀ f∈l.take (t+1),f.1.code.length≤400):=qC (fun f hf=>by
         rw[qA HTK]at hf
         rcases List.mem_append.1 hf with hf | hf
         ·exact qA kE f hf
         ·rw[List.mem_singleton]at hf;subst hf;exact h4)
        generalize lt.1.code.length=cl at c3 h4
        clear HTK kE HLT
        go_wp2
        go_roundw
        case rel=>exact⟨t+1,by omega,by go_num,(by first | rfl | trivial),xP⟩
        case measure=>simp[intOf];omega
       ·have HNA:Hid (¬ ∀ f∈pr,f.code.length≤400):=qC (fun h=>h4 (h lt.1 (by rw[←qA HMP];exact List.mem_map.2 ⟨lt,qA HLT,rfl⟩)))
        generalize lt.1.code.length=cl at c3 h4
        clear HTK kE HLT
        go_wp2
        exact bodyPost_ret (v:=.tuple #[.agg #[.slice none 0 0],.int .i64 6]) (by simp[results,Tryz.results54,go_sem, *]) rfl (.inr ⟨qA HNA,6,by decide,rfl,(qA HBW).setCell (p:=⟨w.heap.size+1,0,none⟩) (Nat.le_succ _) _⟩)
      ·have xP:Hid (∀ f∈pr,f.code.length≤400):=qC (fun f hf=>by
        rw[←qA HMP]at hf
        obtain⟨p,hp,rfl⟩:=List.mem_map.1 hf
        exact qA kE p (by rw[List.take_of_length_le (by omega)];exact hp))
       obtain rfl:t=l.length:=by omega
       clear kE
       go_wp2
       exact bodyPost_ret (v:=.tuple #[.agg #[.slice pa l.length pc],.int .i64 0]) (by simp[results,Tryz.results54,go_sem, *]) rfl (.inl ⟨qA xP,.slice pa l.length pc,l,rfl,qA HMP,qA HGX,(qA HBW).setCell (p:=⟨w.heap.size+1,0,none⟩) (Nat.le_succ _) _⟩)
theorem qB9(ns:List TN)(a:Nat)(L:rO)(w:World)(hN:uV w L ns)(tY:sW ns)(sS:gI ns (a:Int))(hT:qAE ns (a:Int))(qQX:(gW ns (a:Int)).1≠0) :
  Calls Tryz.prog 54 #[.agg #[.slice L.p ns.length L.cap,.int .i64 (a:Int)]] w (qBP w):=by
 have HCK:Hid (∀ w1,Below w.heap.size w w1→Calls Tryz.prog 86 #[.agg #[.slice L.p ns.length L.cap,.int .i64 (a:Int)]] w1 (oY (gW ns (a:Int)) w1)):=qC (fun w1 h1=>qB1 ns a L w1 (hN.later h1) tY sS hT)
 generalize hck:gW ns (a:Int)=ckr at HCK qQX
 obtain⟨f1,f2⟩:=ckr
 dsimp only at qQX
 have jD:(f1 == 0)=false:=beq_eq_false_iff_ne.2 qQX
 have qY:(f1 != 0)=true:=by simp[bne,jD]
 clear hN tY sS hT hck
 unfold oY at *
 go_enter Tryz.func54,Tryz.ntmps54
 go_wp2_with fail
 refine(qA HCK _ (by exact qG (qD _ _))).mono ?_
 rintro e w3 ⟨rfl,uN⟩
 dsimp only
 have hR3:w3.heap[w.heap.size+1]? = some (.cells #[.slice none 0 0] 25 (0,0)):=(uN.block _ (by simp)).trans (by
  have:=heap_alloc_new (w.alloc (.cells #[.slice L.p ns.length L.cap,.int .i64 (a:Int)] 94)) (.cells #[.slice none 0 0] 25)
  have e:(w.alloc (.cells #[.slice L.p ns.length L.cap,.int .i64 (a:Int)] 94)).heap.size=w.heap.size+1:=by simp
  rw[e]at this
  exact this)
 have r0:w3.cell? ⟨w.heap.size+1,0,none⟩=some (.slice none 0 0):=(cell_of_block hR3 0).trans rfl
 have rf:=unfrozen_of_block hR3 0
 have hw3:w.heap.size+1<w3.heap.size:=(Array.getElem?_eq_some_iff.1 hR3).1
 have uO:=qC (qE (qG (o:=.cells #[.slice none 0 0] 25) (qD w (.cells #[.slice L.p ns.length L.cap,.int .i64 (a:Int)] 94))) uN)
 clear uN HCK hR3
 go_wp2
 go_region
 all_goals go_wp2
 all_goals exact bodyPost_ret (v:=.tuple #[.agg #[.slice none 0 0],.int .i64 f1]) (by simp[results,Tryz.results54,go_sem, *]) rfl ⟨f1,qQX,rfl,qF (qG ((qA uO).setCell (p:=⟨w.heap.size+1,0,none⟩) (Nat.le_succ _) _))⟩
end
end Go.Proofs.YtbgkfaclfnkloaaGreatDoor
