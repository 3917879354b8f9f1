/- YtjlbmmiomfpgiaaGreatDoorGt: of the texts Ba36 Ba37 Ba38 Ba39 Ba40 Bf1 Bf2 Bf3 Bf4 Bf5 Bf6 Bf7 what is wanted. -/
import Derived.Test.YtjlbmmiomfpgiaaGreatDoorG0
import Derived.Test.YtjlbmmiomfpgiaaGreatDoorGq
import Derived.Deep.Cut
import Derived.Deep.DeepCutAuto
import Derived.Maps.AppendAt
set_option maxHeartbeats 16000000
set_option maxRecDepth 100000
set_option linter.unusedVariables false
set_option linter.unusedSimpArgs false
namespace Go.Proofs.YtjlbmmiomfpgiaaGreatDoor
open Go.RowKit Go.Lib Go.Shelf
attribute [local go_sem ↓] Go.wp_at_zero Go.wp_at_succ
theorem aM {W V:World} (h:Below W.heap.size W V) (o:Obj):Below W.heap.size W (V.alloc o):=h.alloc h.size o
theorem bH {W V:World} (h:Below W.heap.size W V) {b:Nat} (hb:W.heap.size<=b) (o:Nat) (u:Value):Below W.heap.size W (V.setCell ⟨b,o,none⟩ u):=gV h hb u
theorem bB {W V:World} (h:Below W.heap.size W V):Below W.heap.size W V.drew:=ak h rfl rfl rfl rfl
structure Zb (V:World) (b:Nat):Prop where
 c0:V.cell? ⟨b,0,none⟩=some (.int .i64 0)
 c1:V.cell? ⟨b,1,none⟩=some (.int .i64 0)
 f0:V.frozen? ⟨b,0,none⟩=false
 f1:V.frozen? ⟨b,1,none⟩=false
theorem Zb.new (W:World) (t:TypeId):Zb (W.alloc (.cells #[.int .i64 0,.int .i64 0] t)) W.heap.size:=⟨aT _ _ _ 0 _ rfl,aT _ _ _ 1 _ rfl,Gt.aI _ _ _ _,Gt.aI _ _ _ _⟩
theorem Zb.kept {V V':World} {b:Nat} (h:Zb V b) (hb:V'.heap[b]? =V.heap[b]?):Zb V' b:=⟨(zZ0 hb).trans h.c0,(zZ0 hb).trans h.c1,(World.frozen?_of_block hb).trans h.f0,(World.frozen?_of_block hb).trans h.f1⟩
theorem Zb.Hk {W V w2:World} {t:TypeId} (hv:Below V.heap.size V w2) (hV:V.heap=(W.alloc (.cells #[.int .i64 0,.int .i64 0] t)).heap):Zb w2 W.heap.size/\W.heap.size<w2.heap.size:=by
 have hs:V.heap.size=W.heap.size+1:=by rw[hV];simp
 refine⟨(Zb.new W t).kept ?_,by have:=hv.size;omega⟩
 rw[hv.block _ (by omega),hV]
theorem Zb.G9 {W V w2:World} {t t':TypeId} (hv:Below V.heap.size V w2) (hV:V.heap=((W.alloc (.cells #[.int .i64 0,.int .i64 0] t)).alloc (.cells #[.int .i64 0,.int .i64 0] t')).heap):Zb w2 W.heap.size/\Zb w2 (W.heap.size+1)/\W.heap.size+1<w2.heap.size:=by
 have hs:V.heap.size=W.heap.size+1+1:=by rw[hV];simp
 have s1:(W.alloc (.cells #[.int .i64 0,.int .i64 0] t)).heap.size=W.heap.size+1:=by simp
 refine⟨(Zb.new W t).kept ?_,?_,by have:=hv.size;omega⟩
 ·rw[hv.block _ (by omega),hV]
  exact Below.heap_alloc _ _ _ (by omega)
 ·have:=(Zb.new (W.alloc (.cells #[.int .i64 0,.int .i64 0] t)) t').kept (V':=w2) (by rw[hv.block _ (by omega),hV])
  rw[s1] at this
  exact this
structure tM (V:World) (b:Nat) (x y:Int):Prop where
 c0:V.cell? ⟨b,0,none⟩=some (.int .i64 x)
 c1:V.cell? ⟨b,1,none⟩=some (.int .i64 y)
theorem tM.new (V:World) (x y:Int) (t:TypeId):tM (V.alloc (.cells #[.int .i64 x,.int .i64 y] t)) V.heap.size x y:=⟨aT _ _ _ 0 _ rfl,aT _ _ _ 1 _ rfl⟩
theorem tM.kept {V V':World} {b:Nat} {x y:Int} (h:tM V b x y) (hb:V'.heap[b]? =V.heap[b]?):tM V' b x y:=⟨(zZ0 hb).trans h.c0,(zZ0 hb).trans h.c1⟩
theorem tM.set {V:World} {b:Nat} (h:Zb V b) (x y:Int):tM ((V.setCell ⟨b,0,none⟩ (.int .i64 x)).setCell ⟨b,1,none⟩ (.int .i64 y)) b x y:=
 ⟨(aJ _ (by decide)).trans (Gt.ax _ _ _ _ h.c0),Gt.ax _ _ _ _ ((aJ V (by decide)).trans h.c1)⟩
structure Fg (W V:World) (ib nb:Nat) (op ar ia il:Int):Prop where
 nZ:Below W.heap.size W V
 i:W.heap.size<=ib/\ib<V.heap.size
 n:W.heap.size<=nb/\nb<V.heap.size
 ne:ib≠nb
 pi:tM V ib op ar
 pn:tM V nb ia il
section
variable {W w2:World} {op ar ia il:Int} {t t':TypeId}
theorem mC (h:Below W.heap.size W w2):Fg W ((w2.alloc (.cells #[.int .i64 op,.int .i64 ar] t)).alloc (.cells #[.int .i64 ia,.int .i64 il] t')) w2.heap.size (w2.heap.size+1) op ar ia il:=by
 have hs:=h.size
 have s1:(w2.alloc (.cells #[.int .i64 op,.int .i64 ar] t)).heap.size=w2.heap.size+1:=by simp
 have s2:((w2.alloc (.cells #[.int .i64 op,.int .i64 ar] t)).alloc (.cells #[.int .i64 ia,.int .i64 il] t')).heap.size=w2.heap.size+2:=by simp
 refine⟨aM (aM h _) _,⟨hs,by omega⟩,⟨by omega,by omega⟩,by omega,(tM.new w2 op ar t).kept (Below.heap_alloc _ _ _ (by omega)),?_⟩
 have:=tM.new (w2.alloc (.cells #[.int .i64 op,.int .i64 ar] t)) ia il t'
 rw[s1] at this
 exact this
theorem ki (h:Below W.heap.size W w2):Fg W ((w2.alloc (.cells #[.int .i64 ia,.int .i64 il] t')).alloc (.cells #[.int .i64 op,.int .i64 ar] t)) (w2.heap.size+1) w2.heap.size op ar ia il:=by
 obtain⟨h1,h2,h3,h4,h5,h6⟩:=mC (op:=ia) (ar:=il) (ia:=op) (il:=ar) (t:=t') (t':=t) h
 exact⟨h1,h3,h2,fun e=>h4 e.symm,h6,h5⟩
theorem mA (h:Below W.heap.size W w2) (z:Zb w2 W.heap.size) (hl:W.heap.size<w2.heap.size):Fg W (((w2.setCell ⟨W.heap.size,0,none⟩ (.int .i64 op)).setCell ⟨W.heap.size,1,none⟩ (.int .i64 ar)).alloc (.cells #[.int .i64 ia,.int .i64 il] t')) W.heap.size w2.heap.size op ar ia il:=by
 have s1:((w2.setCell ⟨W.heap.size,0,none⟩ (.int .i64 op)).setCell ⟨W.heap.size,1,none⟩ (.int .i64 ar)).heap.size=w2.heap.size:=by simp
 have s2:(((w2.setCell ⟨W.heap.size,0,none⟩ (.int .i64 op)).setCell ⟨W.heap.size,1,none⟩ (.int .i64 ar)).alloc (.cells #[.int .i64 ia,.int .i64 il] t')).heap.size=w2.heap.size+1:=by simp
 refine⟨aM (bH (bH h (i8 _) _ _) (i8 _) _ _) _,⟨i8 _,by omega⟩,⟨by omega,by omega⟩,by omega,(tM.set z op ar).kept (Below.heap_alloc _ _ _ (by omega)),?_⟩
 have:=tM.new ((w2.setCell ⟨W.heap.size,0,none⟩ (.int .i64 op)).setCell ⟨W.heap.size,1,none⟩ (.int .i64 ar)) ia il t'
 rw[s1] at this
 exact this
theorem kC (h:Below W.heap.size W w2) (z:Zb w2 W.heap.size) (hl:W.heap.size<w2.heap.size):Fg W (((w2.setCell ⟨W.heap.size,0,none⟩ (.int .i64 ia)).setCell ⟨W.heap.size,1,none⟩ (.int .i64 il)).alloc (.cells #[.int .i64 op,.int .i64 ar] t)) w2.heap.size W.heap.size op ar ia il:=by
 obtain⟨h1,h2,h3,h4,h5,h6⟩:=mA (op:=ia) (ar:=il) (ia:=op) (il:=ar) (t':=t) h z hl
 exact⟨h1,h3,h2,fun e=>h4 e.symm,h6,h5⟩
theorem gR (h:Below W.heap.size W w2) {b c:Nat} (hb:W.heap.size<=b/\b<w2.heap.size) (hc:W.heap.size<=c/\c<w2.heap.size) (hn:b≠c) (z:Zb w2 b) (z':Zb w2 c):Fg W ((((w2.setCell ⟨b,0,none⟩ (.int .i64 op)).setCell ⟨b,1,none⟩ (.int .i64 ar)).setCell ⟨c,0,none⟩ (.int .i64 ia)).setCell ⟨c,1,none⟩ (.int .i64 il)) b c op ar ia il:=by
 refine⟨bH (bH (bH (bH h hb.1 _ _) hb.1 _ _) hc.1 _ _) hc.1 _ _,⟨hb.1,by simpa using hb.2⟩,⟨hc.1,by simpa using hc.2⟩,hn,?_,?_⟩
 ·exact(tM.set z op ar).kept ((yY0 _ _ _ _ hn).trans (yY0 _ _ _ _ hn))
 ·exact tM.set (z'.kept ((yY0 _ _ _ _ (fun e=>hn e.symm)).trans (yY0 _ _ _ _ (fun e=>hn e.symm)))) ia il
end
section
variable {w W0 W:World} {lab labk:Nat->Nat} {a:Ad} {P n q T:Nat} {M:Mc} {sb pr:Nat} {l:List Ev} {O0:Nat->Prop}
theorem SX.prog (h:SX w W0 W lab a P n q T M sb pr l O0) {g:Nat} {p:Pm} (hg:M.pr[g]? =some p): ∃pb cp ap cap,W.cell? ⟨a.m,2,none⟩=some (.slice (some ⟨pb,0,none⟩) M.pr.length cp)/\W.cell? ⟨pb,g,none⟩=some (.slice ap p.len cap)/\Ex.lB W ap p.len p.O p.R/\Ex.Rt p.len p.O p.R/\g<M.pr.length:=by
 obtain⟨labk,i⟩:=h.i
 obtain⟨v,vs,e2,hps⟩:=i.pg
 obtain⟨ad,cp,rfl⟩:=hps.form
 have hgl:g<M.pr.length:=(zY0.1 hg).1
 have hvg:g<vs.length:=by rw[hps.len];exact hgl
 obtain⟨r1,r2⟩:=hps.at_ g p (vs[g]'hvg) hg (yV0 hvg)
 have hmem:p∈M.pr:=zV0 hg
 have hok:=hps.ok p hmem
 rcases hps.row.2 with ⟨e,e0⟩|⟨pb,cap,cur,e,h0,hg',hrow⟩
 ·omega
 ·injection e with e1 e3 e4
  subst e1 e4
  obtain⟨ap,cap',e5,hprg⟩:=Ex.CO r1
  refine⟨pb,_,ap,cap',e2,?_,hprg,hok,hgl⟩
  have hu:vs[g]? =some (vs[g]'hvg):=yV0 hvg
  rw[e5] at hu
  rw[←hrow.2.2.2,List.getElem?_take] at hu
  split at hu
  ·simp only[World.cell?,hg']
   simpa using hu
  ·cases hu
def Gm (p:Pm) (ia:Int):Int:=Ex.FW true p.len p.O ia
def Gs (p:Pm) (ia:Int):Int:=Ex.Gi true p.len p.R ia
def pL (p:Pm) (ia:Int):Int:=Ex.Gp true p.len p.O p.R ia
def nL (p:Pm) (ia il:Int):Int:=Ex.Fp true p.len p.O p.R ia il
theorem vh {W:World} {ap:Option Addr} {cap:Nat} {p:Pm} (hp:Ex.lB W ap p.len p.O p.R) (hr:Ex.Rt p.len p.O p.R) (ia il:Int) (hil: ¬0<il) (V:World) (hb:Below W.heap.size W V):
  Calls Tryz.prog 67 #[.slice ap p.len cap,.agg #[.int .i64 ia,.int .i64 il]] V fun e w'=>e= .returned (.tuple #[.agg #[.int .i64 (Gm p ia),.int .i64 (Gs p ia)],.agg #[.int .i64 (pL p ia),.int .i64 (nL p ia il)],.bool false])/\Below W.heap.size W w'/\Below V.heap.size V w':=
 (Ex.zS V ap p.len cap (by have:=DQ hr;omega) p.O p.R (hp.below hb) true ⟨fun _=>hr,fun _=>rfl⟩ ia il hil).mono (fun e w' ⟨he,b⟩=>⟨he,bt hb b,b⟩)
theorem ay.qO (h:ay W labk a P n q T M) {x:Nat} (hx:x<n) (u v:Int) (hv:v<9223372036854775808):
  aA W ((W.setCell ⟨a.th,x*10+7,none⟩ (.int .i64 u)).setCell ⟨a.th,x*10+8,none⟩ (.int .i64 v)) labk a P n q T {M with th:=Gt.au M.th x {M.th x with ia:=u,il:=v}}:=by
 have ok:=h.th.ok x hx
 have hfr:Fr (fun k=>labk k=4) W ((W.setCell ⟨a.th,x*10+7,none⟩ (.int .i64 u)).setCell ⟨a.th,x*10+8,none⟩ (.int .i64 v)):=((Fr.refl _ _).setCell (a:=⟨a.th,_,none⟩) h.lth _).setCell (a:=⟨a.th,_,none⟩) h.lth _
 refine⟨labk,h.Bs (h.same hfr) hfr (h.th.put (((h.th.at_ x hx).zT u).yu v) ⟨ok.g,ok.lv,ok.lf,hv,ok.sn⟩ (fun j hj hne=>((h.th.at_ j hj).ft (oH hne (by decide)) _).ft (oH hne (by decide)) _) (fun o=>by rw[aP,aP];exact h.th.fz o)),h.same hfr,hfr.to (fun k _ hk=> ?_)⟩
 rw[hk];decide
def gi (M:Mc) (x:Nat) (u v:Int):Mc:={M with th:=Gt.au M.th x {M.th x with ia:=u,il:=v}}
def uj (ok:Bool):Ending:=if ok then .returned (.tuple #[]) else .panicked iY
theorem SX.ur (h:SX w W0 W lab a P n q T M sb pr l O0) (hl:l.length<=10000) (hp:pr<P) (x:Nat) (hx:x<n) (hr:(M.pc pr).r=(x:Int)) (g:Nat) (p:Pm) (hg:M.pr[g]? =some p) (hpg:(M.th x).pg=(g:Int)) (op ar ia' il':Int) (hil':il'<9223372036854775808) (bz ok:Bool) (T':Nat) (M':Mc) (l':List Ev)
  (hst: ∀ap cap V,Ex.lB W ap p.len p.O p.R->Ex.Rt p.len p.O p.R->Below W.heap.size W V->Calls Tryz.prog 67 #[.slice ap p.len cap,.agg #[.int .i64 (M.th x).ia,.int .i64 (M.th x).il]] V fun e w'=>e= .returned (.tuple #[.agg #[.int .i64 op,.int .i64 ar],.agg #[.int .i64 ia',.int .i64 il'],.bool bz])/\Below W.heap.size W w'/\Below V.heap.size V w')
  (hbz:bz=true->ok=false/\T'=T/\M'=M/\l'=l++[⟨2,(pr:Int),(M.th x).p,(M.th x).g,0,0⟩])
  (hdo:bz=false-> ∀V O,SG w V lab a P n q T (gi M x ia' il') sb pr l O->Calls Tryz.prog 125 #[.pointer (some ⟨sb,0,none⟩),.pointer (some ⟨a.th,x*10,none⟩),.agg #[.int .i64 op,.int .i64 ar]] V fun e w'=>e=uj ok/\SX w V w' lab a P n q T' M' sb pr l' O):
  Calls Tryz.prog 76 #[.pointer (some ⟨sb,0,none⟩)] W fun e w'=>e=uj ok/\SX w W0 w' lab a P n q T' M' sb pr l' O0:=by
 obtain⟨pb,cp,ap,cap,k2,kg,hprg,hrt,hgl⟩:=h.prog hg
 have hstp:=fun V hb=>hst ap cap V hprg hrt hb
 have HST:=aa hstp
 have hS: ∀V,Below W.heap.size W V->V.cell? ⟨sb,0,none⟩=some (.pointer (some ⟨a.m,0,none⟩))/\V.cell? ⟨sb,2,none⟩=some (.pointer (some ⟨a.pr,pr*3,none⟩))/\V.cell? ⟨a.m,4,none⟩=some (.slice (some ⟨a.th,0,none⟩) n a.xt)/\V.cell? ⟨a.pr,pr*3,none⟩=some (.int .i64 (x:Int))/\V.cell? ⟨a.m,2,none⟩=some (.slice (some ⟨pb,0,none⟩) M.pr.length cp)/\V.cell? ⟨a.th,x*10+2,none⟩=some (.int .i64 (g:Int))/\V.cell? ⟨pb,g,none⟩=some (.slice ap p.len cap)/\V.cell? ⟨a.th,x*10+7,none⟩=some (.int .i64 (M.th x).ia)/\V.cell? ⟨a.th,x*10+8,none⟩=some (.int .i64 (M.th x).il):=fun V hb=>by
  refine⟨kc hb h.c0,kc hb h.c2,kc hb h.core.c4,?_,kc hb k2,?_,kc hb kg,kc hb (h.tr hx).c7,kc hb (h.tr hx).c8⟩
  ·rw[←hr];exact kc hb (h.pc hp).c0
  ·rw[←hpg];exact kc hb (h.tr hx).c2
 have HS:=aa hS
 have HZ:=aa (z9 W.heap.size W)
 obtain⟨s0,s1,s2,s3,s4,s5,s6,s7,s8⟩:=hS _ HZ.out
 have HBZ:Hid (bz=true->ok=false/\T'=T/\M'=M/\l'=l++[⟨2,(pr:Int),(M.th x).p,(M.th x).g,0,0⟩]):=hbz
 have HEN:Hid (∀V,Below W.heap.size W V->Calls Tryz.prog 123 #[.pointer (some ⟨sb,0,none⟩),.int .i64 2,.agg #[.int .i64 (M.th x).p,.int .u32 ((M.th x).g:Int)],.int .i64 0] V fun e w'=>e= .panicked iY/\SX w W0 w' lab a P n q T M sb pr (l++[⟨2,(pr:Int),(M.th x).p,(M.th x).g,0,0⟩]) O0):=fun V hb=>(h.more hb).end_ hl 2 (M.th x).p (M.th x).g 0
 have HTH:Hid (∀V,Below W.heap.size W V->V.cell? ⟨a.th,x*10,none⟩=some (.int .i64 (M.th x).p)/\V.cell? ⟨a.th,x*10+1,none⟩=some (.int .u32 ((M.th x).g:Int))/\V.cell? ⟨a.th,x*10+7,none⟩=some (.int .i64 (M.th x).ia)/\V.cell? ⟨a.th,x*10+8,none⟩=some (.int .i64 (M.th x).il)/\ ∀o,V.frozen? ⟨a.th,o,none⟩=false):=fun V hb=>⟨kc hb (h.tr hx).c0,kc hb (h.tr hx).c1,kc hb (h.tr hx).c7,kc hb (h.tr hx).c8,fun o=>(h.more hb).Bd o⟩
 have HDO:Hid (bz=false-> ∀V,Below W.heap.size W V->Calls Tryz.prog 125 #[.pointer (some ⟨sb,0,none⟩),.pointer (some ⟨a.th,x*10,none⟩),.agg #[.int .i64 op,.int .i64 ar]] ((V.setCell ⟨a.th,x*10+7,none⟩ (.int .i64 ia')).setCell ⟨a.th,x*10+8,none⟩ (.int .i64 il')) fun e w'=>e=uj ok/\SX w W0 w' lab a P n q T' M' sb pr l' O0):=fun hz V hb=>((h.more hb).goes (fun _ i=>i.qO hx ia' il' hil')).call (R:=fun e=>e=uj ok) (fun O s=>hdo hz _ O s)
 have hthl:a.th<W.heap.size:=zX0 W _ (h.tr hx).c0
 have hgl':(g:Int)<(M.pr.length:Int):=by omega
 generalize (M.th x).ia=ia at*
 generalize (M.th x).il=il at*
 generalize (M.th x).p=tp at*
 generalize (M.th x).g=tg at*
 clear hstp hst hprg hrt h hS k2 kg hr hpg hg hbz hdo
 go_enter Tryz.func76,Tryz.ntmps76
 go_wp2
 go_region_held3 (fun w'=>w'.cell? ⟨sb,0,none⟩=some (.pointer (some ⟨a.m,0,none⟩))/\w'.cell? ⟨sb,2,none⟩=some (.pointer (some ⟨a.pr,pr*3,none⟩))/\w'.cell? ⟨a.m,4,none⟩=some (.slice (some ⟨a.th,0,none⟩) n a.xt)/\w'.cell? ⟨a.pr,pr*3,none⟩=some (.int .i64 (x:Int)))
  (go_keep)
  (first|fail)
 rename_i hHeld
 clear hHeld
 go_upto_region 1 with fail
 go_cut [3,4,5] (fun i3 n4 b5 Wc=> ∃ib nb,i3= .pointer (some ⟨ib,0,none⟩)/\n4= .pointer (some ⟨nb,0,none⟩)/\b5= .bool bz/\Fg W Wc ib nb op ar ia' il')
 case first=>
  have HS2:Hid (∀V,Below W.heap.size W V->V.cell? ⟨sb,0,none⟩=some (.pointer (some ⟨a.m,0,none⟩))/\V.cell? ⟨a.m,2,none⟩=some (.slice (some ⟨pb,0,none⟩) M.pr.length cp)/\V.cell? ⟨a.th,x*10+2,none⟩=some (.int .i64 (g:Int))/\V.cell? ⟨pb,g,none⟩=some (.slice ap p.len cap)/\V.cell? ⟨a.th,x*10+7,none⟩=some (.int .i64 ia)/\V.cell? ⟨a.th,x*10+8,none⟩=some (.int .i64 il)):=fun V hb=>by
   obtain⟨t0,t1,t2,t3,t4,t5,t6,t7,t8⟩:=HS.out _ hb
   exact⟨t0,t4,t5,t6,t7,t8⟩
  refine wp_region_held_drew (S:=fun w'=>w'.cell? ⟨sb,0,none⟩=some (.pointer (some ⟨a.m,0,none⟩))/\w'.cell? ⟨a.m,2,none⟩=some (.slice (some ⟨pb,0,none⟩) M.pr.length cp)/\w'.cell? ⟨a.th,x*10+2,none⟩=some (.int .i64 (g:Int))/\w'.cell? ⟨pb,g,none⟩=some (.slice ap p.len cap)/\w'.cell? ⟨a.th,x*10+7,none⟩=some (.int .i64 ia)/\w'.cell? ⟨a.th,x*10+8,none⟩=some (.int .i64 il)) (by kernel_rfl) ?_ (fun hHeld=> ?_)
  ·exact HS2.out _ (bB (bB HZ.out))
  refine aH 0 (v:= ?_) rfl ?v0 ?_
  case v0=>(intro w hSw;(try dsimp only at hSw);obtain⟨hSa,hSb,hSc,hSd,hSe,hSf⟩:=hSw;go_simp;try with_reducible rfl)
  try simp only[aq]
  refine aH 1 (v:= ?_) rfl ?v1 ?_
  case v1=>(intro w hSw;(try dsimp only at hSw);obtain⟨hSa,hSb,hSc,hSd,hSe,hSf⟩:=hSw;go_simp;try with_reducible rfl)
  try simp only[aq]
  refine aH 2 (v:= ?_) rfl ?v2 ?_
  case v2=>(intro w hSw;(try dsimp only at hSw);obtain⟨hSa,hSb,hSc,hSd,hSe,hSf⟩:=hSw;go_simp;try with_reducible rfl)
  try simp only[aq]
  refine aH 3 (v:= ?_) rfl ?v3 ?_
  case v3=>(intro w hSw;(try dsimp only at hSw);obtain⟨hSa,hSb,hSc,hSd,hSe,hSf⟩:=hSw;go_simp;try with_reducible rfl)
  try simp only[aq]
  refine aH 4 (v:= ?_) rfl ?v4 ?_
  case v4=>(intro w hSw;(try dsimp only at hSw);obtain⟨hSa,hSb,hSc,hSd,hSe,hSf⟩:=hSw;go_simp;try with_reducible rfl)
  try simp only[aq]
  refine aH 5 (v:= ?_) rfl ?v5 ?_
  case v5=>(intro w hSw;(try dsimp only at hSw);obtain⟨hSa,hSb,hSc,hSd,hSe,hSf⟩:=hSw;go_simp;try with_reducible rfl)
  try simp only[aq]
  refine aH 6 (v:= ?_) rfl ?v6 ?_
  case v6=>(intro w hSw;(try dsimp only at hSw);obtain⟨hSa,hSb,hSc,hSd,hSe,hSf⟩:=hSw;go_simp;try with_reducible rfl)
  try simp only[aq]
  refine aH 7 (v:= ?_) rfl ?v7 ?_
  case v7=>(intro w hSw;(try dsimp only at hSw);obtain⟨hSa,hSb,hSc,hSd,hSe,hSf⟩:=hSw;go_simp;try with_reducible rfl)
  try simp only[aq]
  refine aH 8 (v:= ?_) rfl ?v8 ?_
  case v8=>(intro w hSw;(try dsimp only at hSw);obtain⟨hSa,hSb,hSc,hSd,hSe,hSf⟩:=hSw;go_simp;try with_reducible rfl)
  try simp only[aq]
  refine aH 9 (v:= ?_) rfl ?v9 ?_
  case v9=>(intro w hSw;(try dsimp only at hSw);obtain⟨hSa,hSb,hSc,hSd,hSe,hSf⟩:=hSw;go_simp;try with_reducible rfl)
  try simp only[aq]
  refine aH 10 (v:= ?_) rfl ?v10 ?_
  case v10=>(intro w hSw;(try dsimp only at hSw);obtain⟨hSa,hSb,hSc,hSd,hSe,hSf⟩:=hSw;go_simp;try with_reducible rfl)
  try simp only[aq]
  refine aH 11 (v:= ?_) rfl ?v11 ?_
  case v11=>(intro w hSw;(try dsimp only at hSw);obtain⟨hSa,hSb,hSc,hSd,hSe,hSf⟩:=hSw;go_simp;try with_reducible rfl)
  try simp only[aq]
  refine aH 12 (v:= ?_) rfl ?v12 ?_
  case v12=>(intro w hSw;(try dsimp only at hSw);obtain⟨hSa,hSb,hSc,hSd,hSe,hSf⟩:=hSw;go_simp;try with_reducible rfl)
  try simp only[aq]
  refine aH 13 (v:= ?_) rfl ?v13 ?_
  case v13=>(intro w hSw;(try dsimp only at hSw);obtain⟨hSa,hSb,hSc,hSd,hSe,hSf⟩:=hSw;go_simp;try with_reducible rfl)
  try simp only[aq]
  refine aH 14 (v:= ?_) rfl ?v14 ?_
  case v14=>(intro w hSw;(try dsimp only at hSw);obtain⟨hSa,hSb,hSc,hSd,hSe,hSf⟩:=hSw;go_simp;try with_reducible rfl)
  try simp only[aq]
  refine aH 15 (v:= ?_) rfl ?v15 ?_
  case v15=>(intro w hSw;(try dsimp only at hSw);obtain⟨hSa,hSb,hSc,hSd,hSe,hSf⟩:=hSw;go_simp;try with_reducible rfl)
  try simp only[aq]
  refine aH 16 (v:= ?_) rfl ?v16 ?_
  case v16=>(intro w hSw;(try dsimp only at hSw);obtain⟨hSa,hSb,hSc,hSd,hSe,hSf⟩:=hSw;go_simp;try with_reducible rfl)
  try simp only[aq]
  refine wpAnyH_ready (rs:=[17,22,23]) (by kernel_rfl) (by simp) ?_
  refine AllReadyH.cons rfl (fun K hK=> ?_) (AllReadyH.cons rfl (fun K hK=> ?_) (AllReadyH.cons rfl (fun K hK=> ?_) AllReadyH.nil))
  ·skip
   go_simp
   go_at_call 67
   refine(HST.out _ (by repeat first|exact ak HZ.out rfl rfl rfl rfl|apply aM|apply bB)).mono ?_
   rintro e w2 ⟨rfl,hb,hv⟩
   have hlt:=hb.size
   have HB2:=aa hb
   clear hb hv
   refine hK.out _ _ ?_ (fun hHeld=> ?_)
   ·exact HS2.out _ (by repeat first|exact HB2.out|exact ak HZ.out rfl rfl rfl rfl|apply aM|apply bH|exact i8 _|omega|apply bB)
   clear hK K
   try simp only[aq]
   refine aH 18 (v:= ?_) rfl ?v18 ?_
   case v18=>(intro w hSw;(try dsimp only at hSw);obtain⟨hSa,hSb,hSc,hSd,hSe,hSf⟩:=hSw;go_simp;try with_reducible rfl)
   try simp only[aq]
   refine aH 19 (v:= ?_) rfl ?v19 ?_
   case v19=>(intro w hSw;(try dsimp only at hSw);obtain⟨hSa,hSb,hSc,hSd,hSe,hSf⟩:=hSw;go_simp;try with_reducible rfl)
   try simp only[aq]
   refine aH 20 (v:= ?_) rfl ?v20 ?_
   case v20=>(intro w hSw;(try dsimp only at hSw);obtain⟨hSa,hSb,hSc,hSd,hSe,hSf⟩:=hSw;go_simp;try with_reducible rfl)
   try simp only[aq]
   refine aH 21 (v:= ?_) rfl ?v21 ?_
   case v21=>(intro w hSw;(try dsimp only at hSw);obtain⟨hSa,hSb,hSc,hSd,hSe,hSf⟩:=hSw;go_simp;try with_reducible rfl)
   try simp only[aq]
   refine wpAnyH_ready (rs:=[22,23]) (by kernel_rfl) (by simp) ?_
   refine AllReadyH.cons rfl (fun K hK=> ?_) (AllReadyH.cons rfl (fun K hK=> ?_) AllReadyH.nil)
   ·skip
    go_simp
    refine hK.out _ _ ?_ (fun hHeld=> ?_)
    ·exact HS2.out _ (by repeat first|exact HB2.out|exact ak HZ.out rfl rfl rfl rfl|apply aM|apply bH|exact i8 _|omega|apply bB)
    clear hK K
    try simp only[aq]
    refine bj 23 rfl (fun K hK=> ?_)
    go_simp
    refine hK.out _ _ ?_ (fun hHeld=> ?_)
    ·exact HS2.out _ (by repeat first|exact HB2.out|exact ak HZ.out rfl rfl rfl rfl|apply aM|apply bH|exact i8 _|omega|apply bB)
    clear hK K
    try simp only[aq]
    refine bj 24 rfl (fun K hK=> ?_)
    go_simp
    refine hK.out _ _ ?_ (fun hHeld=> ?_)
    ·exact HS2.out _ (by repeat first|exact HB2.out|exact ak HZ.out rfl rfl rfl rfl|apply aM|apply bH|exact i8 _|omega|apply bB)
    clear hK K
    try simp only[aq]
    refine bj 25 rfl (fun K hK=> ?_)
    go_simp
    refine hK.out _ _ ?_ (fun hHeld=> ?_)
    ·exact HS2.out _ (by repeat first|exact HB2.out|exact ak HZ.out rfl rfl rfl rfl|apply aM|apply bH|exact i8 _|omega|apply bB)
    clear hK K
    try simp only[aq]
    refine aH 26 (v:= ?_) rfl ?v26 ?_
    case v26=>(intro w hSw;(try dsimp only at hSw);obtain⟨hSa,hSb,hSc,hSd,hSe,hSf⟩:=hSw;go_simp;try with_reducible rfl)
    try simp only[aq]
    refine wpAnyH_done (by kernel_rfl) ?_ _
    go_wp2
    go_meet
    case rel=>
     refine⟨_,_,rfl,rfl,rfl,?_⟩
     first
     |exact mC HB2.out
     |exact ki HB2.out
     |exact mA HB2.out HZ1.out hlt
     |exact kC HB2.out HZ1.out hlt
     |exact gR HB2.out ⟨by omega,by omega⟩ ⟨by omega,by omega⟩ (by omega) HZ1.out HZ2.out
     |exact gR HB2.out ⟨by omega,by omega⟩ ⟨by omega,by omega⟩ (by omega) HZ2.out HZ1.out
   ·skip
    go_simp
    refine hK.out _ _ ?_ (fun hHeld=> ?_)
    ·exact HS2.out _ (by repeat first|exact HB2.out|exact ak HZ.out rfl rfl rfl rfl|apply aM|apply bH|exact i8 _|omega|apply bB)
    clear hK K
    try simp only[aq]
    refine bj 22 rfl (fun K hK=> ?_)
    go_simp
    refine hK.out _ _ ?_ (fun hHeld=> ?_)
    ·exact HS2.out _ (by repeat first|exact HB2.out|exact ak HZ.out rfl rfl rfl rfl|apply aM|apply bH|exact i8 _|omega|apply bB)
    clear hK K
    try simp only[aq]
    refine bj 24 rfl (fun K hK=> ?_)
    go_simp
    refine hK.out _ _ ?_ (fun hHeld=> ?_)
    ·exact HS2.out _ (by repeat first|exact HB2.out|exact ak HZ.out rfl rfl rfl rfl|apply aM|apply bH|exact i8 _|omega|apply bB)
    clear hK K
    try simp only[aq]
    refine bj 25 rfl (fun K hK=> ?_)
    go_simp
    refine hK.out _ _ ?_ (fun hHeld=> ?_)
    ·exact HS2.out _ (by repeat first|exact HB2.out|exact ak HZ.out rfl rfl rfl rfl|apply aM|apply bH|exact i8 _|omega|apply bB)
    clear hK K
    try simp only[aq]
    refine aH 26 (v:= ?_) rfl ?v26 ?_
    case v26=>(intro w hSw;(try dsimp only at hSw);obtain⟨hSa,hSb,hSc,hSd,hSe,hSf⟩:=hSw;go_simp;try with_reducible rfl)
    try simp only[aq]
    refine wpAnyH_done (by kernel_rfl) ?_ _
    go_wp2
    go_meet
    case rel=>
     refine⟨_,_,rfl,rfl,rfl,?_⟩
     first
     |exact mC HB2.out
     |exact ki HB2.out
     |exact mA HB2.out HZ1.out hlt
     |exact kC HB2.out HZ1.out hlt
     |exact gR HB2.out ⟨by omega,by omega⟩ ⟨by omega,by omega⟩ (by omega) HZ1.out HZ2.out
     |exact gR HB2.out ⟨by omega,by omega⟩ ⟨by omega,by omega⟩ (by omega) HZ2.out HZ1.out
  ·skip
   go_simp
   refine hK.out _ _ ?_ (fun hHeld=> ?_)
   ·exact HS2.out _ (by repeat first|exact HB2.out|exact ak HZ.out rfl rfl rfl rfl|apply aM|apply bH|exact i8 _|omega|apply bB)
   clear hK K
   try simp only[aq]
   refine wpAnyH_ready (rs:=[17,23]) (by kernel_rfl) (by simp) ?_
   refine AllReadyH.cons rfl (fun K hK=> ?_) (AllReadyH.cons rfl (fun K hK=> ?_) AllReadyH.nil)
   ·skip
    go_simp
    go_at_call 67
    refine(HST.out _ (by repeat first|exact ak HZ.out rfl rfl rfl rfl|apply aM|apply bB)).mono ?_
    rintro e w2 ⟨rfl,hb,hv⟩
    obtain⟨z1,hlt⟩:=Zb.Hk (W:=W) (t:=64) hv rfl
    have HZ1:=aa z1
    have z1a:=fun o=>z1.kept (V':=w2.alloc o) (Below.heap_alloc _ _ _ hlt)
    obtain⟨q0,q1,f0,f1⟩:=z1
    have r0:=fun o=>(z1a o).c0
    have r1:=fun o=>(z1a o).c1
    have g0:=fun o=>(z1a o).f0
    have g1:=fun o=>(z1a o).f1
    have n1: ¬W.heap.size=w2.heap.size:=by omega
    have n2: ¬w2.heap.size=W.heap.size:=by omega
    clear z1a
    have HB2:=aa hb
    clear hb hv
    refine hK.out _ _ ?_ (fun hHeld=> ?_)
    ·exact HS2.out _ (by repeat first|exact HB2.out|exact ak HZ.out rfl rfl rfl rfl|apply aM|apply bH|exact i8 _|omega|apply bB)
    clear hK K
    try simp only[aq]
    refine aH 18 (v:= ?_) rfl ?v18 ?_
    case v18=>(intro w hSw;(try dsimp only at hSw);obtain⟨hSa,hSb,hSc,hSd,hSe,hSf⟩:=hSw;go_simp;try with_reducible rfl)
    try simp only[aq]
    refine aH 19 (v:= ?_) rfl ?v19 ?_
    case v19=>(intro w hSw;(try dsimp only at hSw);obtain⟨hSa,hSb,hSc,hSd,hSe,hSf⟩:=hSw;go_simp;try with_reducible rfl)
    try simp only[aq]
    refine aH 20 (v:= ?_) rfl ?v20 ?_
    case v20=>(intro w hSw;(try dsimp only at hSw);obtain⟨hSa,hSb,hSc,hSd,hSe,hSf⟩:=hSw;go_simp;try with_reducible rfl)
    try simp only[aq]
    refine aH 21 (v:= ?_) rfl ?v21 ?_
    case v21=>(intro w hSw;(try dsimp only at hSw);obtain⟨hSa,hSb,hSc,hSd,hSe,hSf⟩:=hSw;go_simp;try with_reducible rfl)
    try simp only[aq]
    refine bj 23 rfl (fun K hK=> ?_)
    go_simp
    refine hK.out _ _ ?_ (fun hHeld=> ?_)
    ·exact HS2.out _ (by repeat first|exact HB2.out|exact ak HZ.out rfl rfl rfl rfl|apply aM|apply bH|exact i8 _|omega|apply bB)
    clear hK K
    try simp only[aq]
    refine bj 24 rfl (fun K hK=> ?_)
    go_simp
    refine hK.out _ _ ?_ (fun hHeld=> ?_)
    ·exact HS2.out _ (by repeat first|exact HB2.out|exact ak HZ.out rfl rfl rfl rfl|apply aM|apply bH|exact i8 _|omega|apply bB)
    clear hK K
    try simp only[aq]
    refine bj 25 rfl (fun K hK=> ?_)
    go_simp
    refine hK.out _ _ ?_ (fun hHeld=> ?_)
    ·exact HS2.out _ (by repeat first|exact HB2.out|exact ak HZ.out rfl rfl rfl rfl|apply aM|apply bH|exact i8 _|omega|apply bB)
    clear hK K
    try simp only[aq]
    refine aH 26 (v:= ?_) rfl ?v26 ?_
    case v26=>(intro w hSw;(try dsimp only at hSw);obtain⟨hSa,hSb,hSc,hSd,hSe,hSf⟩:=hSw;go_simp;try with_reducible rfl)
    try simp only[aq]
    refine wpAnyH_done (by kernel_rfl) ?_ _
    go_wp2
    go_meet
    case rel=>
     refine⟨_,_,rfl,rfl,rfl,?_⟩
     first
     |exact mC HB2.out
     |exact ki HB2.out
     |exact mA HB2.out HZ1.out hlt
     |exact kC HB2.out HZ1.out hlt
     |exact gR HB2.out ⟨by omega,by omega⟩ ⟨by omega,by omega⟩ (by omega) HZ1.out HZ2.out
     |exact gR HB2.out ⟨by omega,by omega⟩ ⟨by omega,by omega⟩ (by omega) HZ2.out HZ1.out
   ·skip
    go_simp
    refine hK.out _ _ ?_ (fun hHeld=> ?_)
    ·exact HS2.out _ (by repeat first|exact HB2.out|exact ak HZ.out rfl rfl rfl rfl|apply aM|apply bH|exact i8 _|omega|apply bB)
    clear hK K
    try simp only[aq]
    refine bj 17 rfl (fun K hK=> ?_)
    go_simp
    go_at_call 67
    refine(HST.out _ (by repeat first|exact ak HZ.out rfl rfl rfl rfl|apply aM|apply bB)).mono ?_
    rintro e w2 ⟨rfl,hb,hv⟩
    obtain⟨z1,z2,hlt⟩:=Zb.G9 (W:=W) (t:=64) (t':=109) hv rfl
    have HZ1:=aa z1
    have HZ2:=aa z2
    obtain⟨q0,q1,f0,f1⟩:=z1
    obtain⟨q2,q3,f2,f3⟩:=z2
    have HB2:=aa hb
    clear hb hv
    refine hK.out _ _ ?_ (fun hHeld=> ?_)
    ·exact HS2.out _ (by repeat first|exact HB2.out|exact ak HZ.out rfl rfl rfl rfl|apply aM|apply bH|exact i8 _|omega|apply bB)
    clear hK K
    try simp only[aq]
    refine aH 18 (v:= ?_) rfl ?v18 ?_
    case v18=>(intro w hSw;(try dsimp only at hSw);obtain⟨hSa,hSb,hSc,hSd,hSe,hSf⟩:=hSw;go_simp;try with_reducible rfl)
    try simp only[aq]
    refine aH 19 (v:= ?_) rfl ?v19 ?_
    case v19=>(intro w hSw;(try dsimp only at hSw);obtain⟨hSa,hSb,hSc,hSd,hSe,hSf⟩:=hSw;go_simp;try with_reducible rfl)
    try simp only[aq]
    refine aH 20 (v:= ?_) rfl ?v20 ?_
    case v20=>(intro w hSw;(try dsimp only at hSw);obtain⟨hSa,hSb,hSc,hSd,hSe,hSf⟩:=hSw;go_simp;try with_reducible rfl)
    try simp only[aq]
    refine aH 21 (v:= ?_) rfl ?v21 ?_
    case v21=>(intro w hSw;(try dsimp only at hSw);obtain⟨hSa,hSb,hSc,hSd,hSe,hSf⟩:=hSw;go_simp;try with_reducible rfl)
    try simp only[aq]
    refine bj 24 rfl (fun K hK=> ?_)
    go_simp
    refine hK.out _ _ ?_ (fun hHeld=> ?_)
    ·exact HS2.out _ (by repeat first|exact HB2.out|exact ak HZ.out rfl rfl rfl rfl|apply aM|apply bH|exact i8 _|omega|apply bB)
    clear hK K
    try simp only[aq]
    refine bj 25 rfl (fun K hK=> ?_)
    go_simp
    refine hK.out _ _ ?_ (fun hHeld=> ?_)
    ·exact HS2.out _ (by repeat first|exact HB2.out|exact ak HZ.out rfl rfl rfl rfl|apply aM|apply bH|exact i8 _|omega|apply bB)
    clear hK K
    try simp only[aq]
    refine aH 26 (v:= ?_) rfl ?v26 ?_
    case v26=>(intro w hSw;(try dsimp only at hSw);obtain⟨hSa,hSb,hSc,hSd,hSe,hSf⟩:=hSw;go_simp;try with_reducible rfl)
    try simp only[aq]
    refine wpAnyH_done (by kernel_rfl) ?_ _
    go_wp2
    go_meet
    case rel=>
     refine⟨_,_,rfl,rfl,rfl,?_⟩
     first
     |exact mC HB2.out
     |exact ki HB2.out
     |exact mA HB2.out HZ1.out hlt
     |exact kC HB2.out HZ1.out hlt
     |exact gR HB2.out ⟨by omega,by omega⟩ ⟨by omega,by omega⟩ (by omega) HZ1.out HZ2.out
     |exact gR HB2.out ⟨by omega,by omega⟩ ⟨by omega,by omega⟩ (by omega) HZ2.out HZ1.out
  ·skip
   go_simp
   refine hK.out _ _ ?_ (fun hHeld=> ?_)
   ·exact HS2.out _ (by repeat first|exact HB2.out|exact ak HZ.out rfl rfl rfl rfl|apply aM|apply bH|exact i8 _|omega|apply bB)
   clear hK K
   try simp only[aq]
   refine wpAnyH_ready (rs:=[17,22]) (by kernel_rfl) (by simp) ?_
   refine AllReadyH.cons rfl (fun K hK=> ?_) (AllReadyH.cons rfl (fun K hK=> ?_) AllReadyH.nil)
   ·skip
    go_simp
    go_at_call 67
    refine(HST.out _ (by repeat first|exact ak HZ.out rfl rfl rfl rfl|apply aM|apply bB)).mono ?_
    rintro e w2 ⟨rfl,hb,hv⟩
    obtain⟨z1,hlt⟩:=Zb.Hk (W:=W) (t:=109) hv rfl
    have HZ1:=aa z1
    have z1a:=fun o=>z1.kept (V':=w2.alloc o) (Below.heap_alloc _ _ _ hlt)
    obtain⟨q0,q1,f0,f1⟩:=z1
    have r0:=fun o=>(z1a o).c0
    have r1:=fun o=>(z1a o).c1
    have g0:=fun o=>(z1a o).f0
    have g1:=fun o=>(z1a o).f1
    have n1: ¬W.heap.size=w2.heap.size:=by omega
    have n2: ¬w2.heap.size=W.heap.size:=by omega
    clear z1a
    have HB2:=aa hb
    clear hb hv
    refine hK.out _ _ ?_ (fun hHeld=> ?_)
    ·exact HS2.out _ (by repeat first|exact HB2.out|exact ak HZ.out rfl rfl rfl rfl|apply aM|apply bH|exact i8 _|omega|apply bB)
    clear hK K
    try simp only[aq]
    refine aH 18 (v:= ?_) rfl ?v18 ?_
    case v18=>(intro w hSw;(try dsimp only at hSw);obtain⟨hSa,hSb,hSc,hSd,hSe,hSf⟩:=hSw;go_simp;try with_reducible rfl)
    try simp only[aq]
    refine aH 19 (v:= ?_) rfl ?v19 ?_
    case v19=>(intro w hSw;(try dsimp only at hSw);obtain⟨hSa,hSb,hSc,hSd,hSe,hSf⟩:=hSw;go_simp;try with_reducible rfl)
    try simp only[aq]
    refine aH 20 (v:= ?_) rfl ?v20 ?_
    case v20=>(intro w hSw;(try dsimp only at hSw);obtain⟨hSa,hSb,hSc,hSd,hSe,hSf⟩:=hSw;go_simp;try with_reducible rfl)
    try simp only[aq]
    refine aH 21 (v:= ?_) rfl ?v21 ?_
    case v21=>(intro w hSw;(try dsimp only at hSw);obtain⟨hSa,hSb,hSc,hSd,hSe,hSf⟩:=hSw;go_simp;try with_reducible rfl)
    try simp only[aq]
    refine bj 22 rfl (fun K hK=> ?_)
    go_simp
    refine hK.out _ _ ?_ (fun hHeld=> ?_)
    ·exact HS2.out _ (by repeat first|exact HB2.out|exact ak HZ.out rfl rfl rfl rfl|apply aM|apply bH|exact i8 _|omega|apply bB)
    clear hK K
    try simp only[aq]
    refine bj 24 rfl (fun K hK=> ?_)
    go_simp
    refine hK.out _ _ ?_ (fun hHeld=> ?_)
    ·exact HS2.out _ (by repeat first|exact HB2.out|exact ak HZ.out rfl rfl rfl rfl|apply aM|apply bH|exact i8 _|omega|apply bB)
    clear hK K
    try simp only[aq]
    refine bj 25 rfl (fun K hK=> ?_)
    go_simp
    refine hK.out _ _ ?_ (fun hHeld=> ?_)
    ·exact HS2.out _ (by repeat first|exact HB2.out|exact ak HZ.out rfl rfl rfl rfl|apply aM|apply bH|exact i8 _|omega|apply bB)
    clear hK K
    try simp only[aq]
    refine aH 26 (v:= ?_) rfl ?v26 ?_
    case v26=>(intro w hSw;(try dsimp only at hSw);obtain⟨hSa,hSb,hSc,hSd,hSe,hSf⟩:=hSw;go_simp;try with_reducible rfl)
    try simp only[aq]
    refine wpAnyH_done (by kernel_rfl) ?_ _
    go_wp2
    go_meet
    case rel=>
     refine⟨_,_,rfl,rfl,rfl,?_⟩
     first
     |exact mC HB2.out
     |exact ki HB2.out
     |exact mA HB2.out HZ1.out hlt
     |exact kC HB2.out HZ1.out hlt
     |exact gR HB2.out ⟨by omega,by omega⟩ ⟨by omega,by omega⟩ (by omega) HZ1.out HZ2.out
     |exact gR HB2.out ⟨by omega,by omega⟩ ⟨by omega,by omega⟩ (by omega) HZ2.out HZ1.out
   ·skip
    go_simp
    refine hK.out _ _ ?_ (fun hHeld=> ?_)
    ·exact HS2.out _ (by repeat first|exact HB2.out|exact ak HZ.out rfl rfl rfl rfl|apply aM|apply bH|exact i8 _|omega|apply bB)
    clear hK K
    try simp only[aq]
    refine bj 17 rfl (fun K hK=> ?_)
    go_simp
    go_at_call 67
    refine(HST.out _ (by repeat first|exact ak HZ.out rfl rfl rfl rfl|apply aM|apply bB)).mono ?_
    rintro e w2 ⟨rfl,hb,hv⟩
    obtain⟨z1,z2,hlt⟩:=Zb.G9 (W:=W) (t:=109) (t':=64) hv rfl
    have HZ1:=aa z1
    have HZ2:=aa z2
    obtain⟨q0,q1,f0,f1⟩:=z1
    obtain⟨q2,q3,f2,f3⟩:=z2
    have HB2:=aa hb
    clear hb hv
    refine hK.out _ _ ?_ (fun hHeld=> ?_)
    ·exact HS2.out _ (by repeat first|exact HB2.out|exact ak HZ.out rfl rfl rfl rfl|apply aM|apply bH|exact i8 _|omega|apply bB)
    clear hK K
    try simp only[aq]
    refine aH 18 (v:= ?_) rfl ?v18 ?_
    case v18=>(intro w hSw;(try dsimp only at hSw);obtain⟨hSa,hSb,hSc,hSd,hSe,hSf⟩:=hSw;go_simp;try with_reducible rfl)
    try simp only[aq]
    refine aH 19 (v:= ?_) rfl ?v19 ?_
    case v19=>(intro w hSw;(try dsimp only at hSw);obtain⟨hSa,hSb,hSc,hSd,hSe,hSf⟩:=hSw;go_simp;try with_reducible rfl)
    try simp only[aq]
    refine aH 20 (v:= ?_) rfl ?v20 ?_
    case v20=>(intro w hSw;(try dsimp only at hSw);obtain⟨hSa,hSb,hSc,hSd,hSe,hSf⟩:=hSw;go_simp;try with_reducible rfl)
    try simp only[aq]
    refine aH 21 (v:= ?_) rfl ?v21 ?_
    case v21=>(intro w hSw;(try dsimp only at hSw);obtain⟨hSa,hSb,hSc,hSd,hSe,hSf⟩:=hSw;go_simp;try with_reducible rfl)
    try simp only[aq]
    refine bj 24 rfl (fun K hK=> ?_)
    go_simp
    refine hK.out _ _ ?_ (fun hHeld=> ?_)
    ·exact HS2.out _ (by repeat first|exact HB2.out|exact ak HZ.out rfl rfl rfl rfl|apply aM|apply bH|exact i8 _|omega|apply bB)
    clear hK K
    try simp only[aq]
    refine bj 25 rfl (fun K hK=> ?_)
    go_simp
    refine hK.out _ _ ?_ (fun hHeld=> ?_)
    ·exact HS2.out _ (by repeat first|exact HB2.out|exact ak HZ.out rfl rfl rfl rfl|apply aM|apply bH|exact i8 _|omega|apply bB)
    clear hK K
    try simp only[aq]
    refine aH 26 (v:= ?_) rfl ?v26 ?_
    case v26=>(intro w hSw;(try dsimp only at hSw);obtain⟨hSa,hSb,hSc,hSd,hSe,hSf⟩:=hSw;go_simp;try with_reducible rfl)
    try simp only[aq]
    refine wpAnyH_done (by kernel_rfl) ?_ _
    go_wp2
    go_meet
    case rel=>
     refine⟨_,_,rfl,rfl,rfl,?_⟩
     first
     |exact mC HB2.out
     |exact ki HB2.out
     |exact mA HB2.out HZ1.out hlt
     |exact kC HB2.out HZ1.out hlt
     |exact gR HB2.out ⟨by omega,by omega⟩ ⟨by omega,by omega⟩ (by omega) HZ1.out HZ2.out
     |exact gR HB2.out ⟨by omega,by omega⟩ ⟨by omega,by omega⟩ (by omega) HZ2.out HZ1.out
 case rest=>
  obtain⟨ib,nb,rfl,rfl,rfl,hbx⟩:=hcut
  have hbel:=hbx.nZ
  have HBL:=aa hbel
  obtain⟨v0,v1,v7,v8,vf⟩:=HTH.out _ hbel
  have i0:=hbx.pi.c0
  have i1:=hbx.pi.c1
  have m0:=hbx.pn.c0
  have m1:=hbx.pn.c1
  have hib:=hbx.i
  have hnb:=hbx.n
  have e1: ¬a.th=ib:=by omega
  have e2: ¬ib=a.th:=by omega
  clear hbel hbx HS HST HTH
  cases bz with
  |true=>
   obtain⟨rfl,rfl,rfl,rfl⟩:=HBZ.out rfl
   go_wp2_with (go_at_call 123;refine(HEN.out _ (by exact HBL.out)).mono ?_;rintro e w3 ⟨rfl,hg3⟩;have HG3:=aa hg3;clear hg3)
   simp[bodyPost]
   exact⟨rfl,HG3.out⟩
  |false=>
   have hd:=HDO.out rfl _ HBL.out
   have HD:=aa hd
   clear hd HBZ HEN HDO
   cases ok with
   |true=>
    go_wp2_with (go_at_call 125;refine(HD.out).mono ?_;rintro e w3 ⟨he,hg3⟩;obtain rfl:e= .returned (.tuple #[]):=he;have HG3:=aa hg3;clear hg3)
    go_end0
    exact⟨rfl,HG3.out⟩
   |false=>
    go_wp2_with (go_at_call 125;refine(HD.out).mono ?_;rintro e w3 ⟨he,hg3⟩;obtain rfl:e= .panicked iY:=he;have HG3:=aa hg3;clear hg3)
    simp[bodyPost]
    exact⟨rfl,HG3.out⟩
end
section
variable {w W:World} {lab labk:Nat->Nat} {a:Ad} {P n q T T':Nat} {M M':Mc} {sb pr:Nat} {l l':List Ev} {O:Nat->Prop}
theorem SG.Fs (h:SG w W lab a P n q T M sb pr l O) (hl:l.length<=9000) (x:Nat) (hx:x<n) (op ar:Int) (h2:op≠2) (h3:op≠3) (h4:op≠4) (h5:op≠5) (h6:op≠6) (h7:op≠7) (h9:op≠9):
  Calls Tryz.prog 125 #[.pointer (some ⟨sb,0,none⟩),.pointer (some ⟨a.th,x*10,none⟩),.agg #[.int .i64 op,.int .i64 ar]] W fun e w'=>e= .returned (.tuple #[])/\SX w W w' lab a P n q T M sb pr (l++[⟨5,(pr:Int),(M.th x).p,(M.th x).g,op,0⟩]) O:=by
 have hb0:Below W.heap.size W (W.alloc (.cells #[.int .i64 op,.int .i64 ar] 64)):=(z9 _ _).alloc (i8 _) _
 have hs0:=h.below hb0
 have h0:=hs0.sx
 have hno: ¬O W.heap.size:=fun q=>by have:=h.lt q;omega
 have HB0:=aa hb0
 have k0:=aT W #[.int .i64 op,.int .i64 ar] 64 0 _ rfl
 have k1:=aT W #[.int .i64 op,.int .i64 ar] 64 1 _ rfl
 have HKB:Hid (∀V T' M' l',SX w (W.alloc (.cells #[.int .i64 op,.int .i64 ar] 64)) V lab a P n q T' M' sb pr l' O->V.cell? ⟨W.heap.size,0,none⟩=some (.int .i64 op)/\V.cell? ⟨W.heap.size,1,none⟩=some (.int .i64 ar)):=fun V T' M' l' hg=>⟨hg.keep hno k0,hg.keep hno k1⟩
 have HR:=aa (h0.mv (by omega) x hx op ar)
 have b2:(op==2)=false:=by simpa using h2
 have b3:(op==3)=false:=by simpa using h3
 have b4:(op==4)=false:=by simpa using h4
 have b5:(op==5)=false:=by simpa using h5
 have b6:(op==6)=false:=by simpa using h6
 have b7:(op==7)=false:=by simpa using h7
 have b9:(op==9)=false:=by simpa using h9
 clear h hs0 h0 hb0 hno
 go_enter Tryz.func125,Tryz.ntmps125
 go_wp2_with (go_at_call 158;refine(HR.out).mono ?_;rintro e w1 ⟨rfl,hg⟩;have HG:=aa hg;clear hg)
 go_end0
 exact⟨rfl,HG.out.ahead HB0.out⟩
theorem SG.Bt (h:SG w W lab a P n q T M sb pr l O) (hl:l.length<=9000) (x:Nat) (hx:x<n) (ar:Int)
  (hk: ∀W0 V,SX w W0 V lab a P n q T M sb pr (l++[⟨5,(pr:Int),(M.th x).p,(M.th x).g,9,0⟩]) O->Calls Tryz.prog 163 #[.pointer (some ⟨sb,0,none⟩),.agg #[.int .i64 (M.th x).p,.int .u32 ((M.th x).g:Int)]] V fun e w'=>e= .returned (.tuple #[])/\SX w W0 w' lab a P n q T' M' sb pr l' O):
  Calls Tryz.prog 125 #[.pointer (some ⟨sb,0,none⟩),.pointer (some ⟨a.th,x*10,none⟩),.agg #[.int .i64 9,.int .i64 ar]] W fun e w'=>e= .returned (.tuple #[])/\SX w W w' lab a P n q T' M' sb pr l' O:=by
 have hb0:Below W.heap.size W (W.alloc (.cells #[.int .i64 9,.int .i64 ar] 64)):=(z9 _ _).alloc (i8 _) _
 have hs0:=h.below hb0
 have h0:=hs0.sx
 have hno: ¬O W.heap.size:=fun q=>by have:=h.lt q;omega
 have HB0:=aa hb0
 have k0:=aT W #[.int .i64 9,.int .i64 ar] 64 0 _ rfl
 have k1:=aT W #[.int .i64 9,.int .i64 ar] 64 1 _ rfl
 have HKB:Hid (∀V T' M' l',SX w (W.alloc (.cells #[.int .i64 9,.int .i64 ar] 64)) V lab a P n q T' M' sb pr l' O->V.cell? ⟨W.heap.size,0,none⟩=some (.int .i64 9)/\V.cell? ⟨W.heap.size,1,none⟩=some (.int .i64 ar)):=fun V T' M' l' hg=>⟨hg.keep hno k0,hg.keep hno k1⟩
 have HR:Hid (Calls Tryz.prog 158 #[.pointer (some ⟨sb,0,none⟩),.pointer (some ⟨a.th,x*10,none⟩),.agg #[.int .i64 9,.int .i64 ar],.int .i64 0] (W.alloc (.cells #[.int .i64 9,.int .i64 ar] 64)) fun e w'=>e= .returned (.tuple #[])/\SX w (W.alloc (.cells #[.int .i64 9,.int .i64 ar] 64)) w' lab a P n q T M sb pr (l++[⟨5,(pr:Int),(M.th x).p,(M.th x).g,9,0⟩]) O/\w'.cell? ⟨a.th,x*10,none⟩=some (.int .i64 (M.th x).p)/\w'.cell? ⟨a.th,x*10+1,none⟩=some (.int .u32 ((M.th x).g:Int))):=(h0.mv (by omega) x hx 9 ar).mono (fun e w' ⟨he,hg⟩=>⟨he,hg,(hg.tr hx).c0,(hg.tr hx).c1⟩)
 have HP:=aa (fun V hV=>hk (W.alloc (.cells #[.int .i64 9,.int .i64 ar] 64)) V hV)
 clear h hs0 h0 hb0 hno hk
 generalize (M.th x).p=tp at*
 generalize (M.th x).g=tg at*
 go_enter Tryz.func125,Tryz.ntmps125
 go_wp2_with (first
  |(go_at_call 158;refine(HR.out).mono ?_;rintro e w1 ⟨rfl,hg,t0,t1⟩;have HG:=aa hg;clear hg)
  |(go_at_call 163;refine(HP.out _ (by exact HG.out)).mono ?_;rintro e w2 ⟨rfl,hg⟩;have HG2:=aa hg;clear hg))
 go_end0
 exact⟨rfl,HG2.out.ahead HB0.out⟩
end
section
variable {w W W0:World} {lab labk:Nat->Nat} {a:Ad} {P n q T T':Nat} {M M':Mc} {sb pr:Nat} {l l':List Ev} {O O0:Nat->Prop}
theorem ay.GR (h:ay W labk a P n q T M) {x:Nat} (hx:x<n) (t:Tr) (hok:t.ok):aA W (iT W a.th (x*10) t) labk a P n q T {M with th:=Gt.au M.th x t}:=by
 have hf:=tL W a.th (x*10) t
 exact⟨labk,h.Gj hx t hok,h.same hf,hf.to (fun k _ hk=>by rw[hk,h.lth];decide)⟩
theorem B7:fT.ok:=⟨by decide,by decide,by decide,by decide,by decide⟩
def lG (n:Nat) (M:Mc) (pr x:Nat):Mc:=lS {M with S:=pX n M.G M.S (M.th x).p (M.th x).g,th:=Gt.au M.th x fT} pr (-1)
theorem BF (w:World):(Instr.build 111 #[]).run Tryz.prog w= .ok (.agg #[.int .i64 fT.p,.int .u32 (fT.g:Int),.int .i64 fT.pg,.int .u8 (fT.lv:Int),.int .u8 (fT.lf:Int),.int .i64 fT.sv,.int .i64 fT.pc,.int .i64 fT.ia,.int .i64 fT.il,.int .u64 (fT.sn:Int)]) w:=run_build w 111 _ _ (by kernel_rfl)
theorem SX.sep (h:SX w W0 W lab a P n q T M sb pr l O0): ¬a.th=sb/\ ¬sb=a.th/\ ¬a.m=a.th/\ ¬a.th=a.m:=by
 obtain⟨labk,v,s⟩:=h.sp
 have q1:=s.ls
 have q2:=s.at_.i.lth
 have q3:=s.at_.i.lm
 refine⟨fun e=> ?_,fun e=> ?_,fun e=> ?_,fun e=> ?_⟩
 ·rw[e,q1] at q2;cases q2
 ·rw[←e,q1] at q2;cases q2
 ·rw[e,q2] at q3;cases q3
 ·rw[←e,q2] at q3;cases q3
theorem SG.vW (h:SG w W lab a P n q T M sb pr l O) (hl:l.length<=9000) (hp:pr<P) (x:Nat) (hx:x<n) (hpx:(M.th x).p=(x:Int)) (hh:Pi.lA M.gr.T M.gr.L (x:Int)=[]):
  Calls Tryz.prog 163 #[.pointer (some ⟨sb,0,none⟩),.agg #[.int .i64 (x:Int),.int .u32 ((M.th x).g:Int)]] W fun e w'=>e= .returned (.tuple #[])/\SX w W w' lab a P n q T (lG n M pr x) sb pr (l++[⟨10,(pr:Int),(x:Int),(M.th x).g,0,0⟩]) O:=by
 obtain⟨g,hg⟩: ∃g,(M.th x).g=g:=⟨_,rfl⟩
 have hprl:a.pr<W.heap.size:=zX0 W _ (h.sx.pc hp).c0
 have hthl:a.th<W.heap.size:=zX0 W _ (h.sx.tr hx).c0
 rw[hg]
 have hb0:Below W.heap.size W (W.alloc (.cells #[.int .i64 (x:Int),.int .u32 (g:Int)] 51)):=(z9 _ _).alloc (i8 _) _
 have hs0:=h.below hb0
 have h0:=hs0.sx
 have hno: ¬O W.heap.size:=fun q=>by have:=h.lt q;omega
 have HB0:=aa hb0
 have k0:=aT W #[.int .i64 (x:Int),.int .u32 (g:Int)] 51 0 _ rfl
 have k1:=aT W #[.int .i64 (x:Int),.int .u32 (g:Int)] 51 1 _ rfl
 generalize hW:W.alloc (.cells #[.int .i64 (x:Int),.int .u32 (g:Int)] 51)=B at*
 have HW:=aa hW
 clear hW
 obtain⟨bx,hbx⟩: ∃bx,W.heap.size=bx:=⟨_,rfl⟩
 have HBX:=aa hbx
 rw[hbx] at hno k0 k1
 clear hbx
 have HKB:Hid (∀V T' M' l',SX w B V lab a P n q T' M' sb pr l' O->V.cell? ⟨bx,0,none⟩=some (.int .i64 (x:Int))/\V.cell? ⟨bx,1,none⟩=some (.int .u32 (g:Int))/\V.cell? ⟨sb,0,none⟩=some (.pointer (some ⟨a.m,0,none⟩))/\V.cell? ⟨sb,2,none⟩=some (.pointer (some ⟨a.pr,pr*3,none⟩))/\V.cell? ⟨a.m,7,none⟩=some (.pointer (some ⟨a.gb,0,none⟩))/\V.cell? ⟨a.m,5,none⟩=some (.pointer (some ⟨a.tb,0,none⟩))/\V.cell? ⟨a.m,4,none⟩=some (.slice (some ⟨a.th,0,none⟩) n a.xt)):=fun V T' M' l' hg=>⟨hg.keep hno k0,hg.keep hno k1,hg.c0,hg.c2,hg.core.c7,hg.core.c5,hg.core.c4⟩
 have HH:Hid (∀V,SX w B V lab a P n q T M sb pr l O->Calls Tryz.prog 189 #[.pointer (some ⟨a.gb,0,none⟩),.int .i64 (x:Int)] V fun e w'=>(∃ad c,e= .returned (.slice ad 0 c))/\SX w B w' lab a P n q T M sb pr l O):=fun V hV=>hV.Dw (R:=fun e=> ∃ad c,e= .returned (.slice ad 0 c)) (fun _ i=>(i.held (x:Int)).mono (fun e w' ⟨v,he,hil,hb⟩=>by
  rw[hh] at hil
  obtain⟨ad,c,rfl⟩:=Cb.aE hil
  exact⟨⟨ad,c,he⟩,hb⟩))
 have HRL:Hid (∀V,SX w B V lab a P n q T M sb pr l O->Calls Tryz.prog 190 #[.pointer (some ⟨a.tb,0,none⟩),.agg #[.int .i64 (x:Int),.int .u32 (g:Int)]] V fun e w'=>(∃c:Int,e= .returned (.int .i64 c))/\SX w B w' lab a P n q T {M with S:=pX n M.G M.S (x:Int) g} sb pr l O):=fun V hV=>hV.lift (R:=fun e=> ∃c:Int,e= .returned (.int .i64 c)) (fun _ i=>i.release (x:Int) g)
 have HTN:Hid (∀V,SX w B V lab a P n q T {M with S:=pX n M.G M.S (x:Int) g} sb pr l O->(∃t,aY V a.th (x*10) t)/\(∀o,V.frozen? ⟨a.th,o,none⟩=false)/\SX w B (iT V a.th (x*10) fT) lab a P n q T {M with S:=pX n M.G M.S (x:Int) g,th:=Gt.au M.th x fT} sb pr l O):=fun V hV=>⟨⟨_,hV.tr hx⟩,hV.Bd,hV.goes (fun _ i=>i.GR hx fT B7)⟩
 have HSR:Hid (∀V,SX w B V lab a P n q T {M with S:=pX n M.G M.S (x:Int) g,th:=Gt.au M.th x fT} sb pr l O->(∃r:Int,V.cell? ⟨a.pr,pr*3,none⟩=some (.int .i64 r))/\V.frozen? ⟨a.pr,pr*3,none⟩=false/\SX w B (V.setCell ⟨a.pr,pr*3,none⟩ (.int .i64 (-1))) lab a P n q T (lG n M pr x) sb pr l O):=fun V hV=>⟨⟨_,(hV.pc hp).c0⟩,hV.G5 _,by
  have:=hV.qt hp (-1)
  unfold lG
  rw[hpx,hg]
  exact this⟩
 have HTL:Hid (∀V,SX w B V lab a P n q T (lG n M pr x) sb pr l O->Calls Tryz.prog 120 #[.pointer (some ⟨sb,0,none⟩),.int .i64 10,.agg #[.int .i64 (x:Int),.int .u32 (g:Int)],.int .i64 0] V fun e w'=>e= .returned (.tuple #[])/\SX w B w' lab a P n q T (lG n M pr x) sb pr (l++[⟨10,(pr:Int),(x:Int),g,0,0⟩]) O):=fun V hV=>hV.tell (by omega) 10 (x:Int) g 0
 have H0:=aa h0
 obtain⟨b0,b1,c0,c2,c7,c5,c4⟩:=HKB.out _ _ _ _ h0
 have hbt:=BF
 clear h hs0 h0 hb0 hno hh hpx hg
 go_enter Tryz.func163,Tryz.ntmps163
 go_wp2
 rw[HW.out,HBX.out]
 go_region_held3 (fun w'=>w'.cell? ⟨sb,0,none⟩=some (.pointer (some ⟨a.m,0,none⟩))/\w'.cell? ⟨a.m,7,none⟩=some (.pointer (some ⟨a.gb,0,none⟩))/\w'.cell? ⟨bx,0,none⟩=some (.int .i64 (x:Int)))
  (first|(have hk:=HKB.out _ _ _ _ HG.out;exact⟨hk.2.2.1,hk.2.2.2.2.1,hk.1⟩)|go_keep)
  (first
   |(go_at_call 189;refine(HH.out _ (by exact SX.fi H0.out rfl rfl rfl rfl)).mono ?_;rintro e w1 ⟨⟨ad,cc,rfl⟩,hg⟩;have HG:=aa hg;clear hg))
 rename_i hHeld
 clear hHeld
 obtain⟨d0,d1,e0,e2,e7,e5,e4⟩:=HKB.out _ _ _ _ HG.out
 go_wp2
 go_loopw [19] (fun kv wr=>kv= .int .i64 0/\wr=w1) (fun _ _=>0)
 case atStart=>exact⟨rfl,rfl⟩
 case round=>
  obtain⟨rfl,rfl⟩:=hrel
  go_wp2
  go_region_held3 (fun w'=>w'.cell? ⟨sb,0,none⟩=some (.pointer (some ⟨a.m,0,none⟩))/\w'.cell? ⟨a.m,5,none⟩=some (.pointer (some ⟨a.tb,0,none⟩))/\w'.cell? ⟨bx,0,none⟩=some (.int .i64 (x:Int))/\w'.cell? ⟨bx,1,none⟩=some (.int .u32 (g:Int)))
   (first|(have hk:=HKB.out _ _ _ _ HG2.out;exact⟨hk.2.2.1,hk.2.2.2.2.2.1,hk.1,hk.2.1⟩)|go_keep)
   (first
    |(go_at_call 190;refine(HRL.out _ (by exact SX.fi HG.out rfl rfl rfl rfl)).mono ?_;rintro e w2 ⟨⟨cr,rfl⟩,hg⟩;have HG2:=aa hg;clear hg))
  rename_i hHeld
  clear hHeld
  obtain⟨p0,p1,u0,u2,u7,u5,u4⟩:=HKB.out _ _ _ _ HG2.out
  obtain⟨⟨t0,⟨y0,y1,y2,y3,y4,y5,y6,y7,y8,y9⟩⟩,yf,hten⟩:=HTN.out _ HG2.out
  have HTEN:=aa hten
  clear hten b0 b1 c0 c2 c7 c5 c4 d0 d1 e0 e2 e7 e5 e4
  obtain⟨w3,hw3⟩: ∃w3,iT w2 a.th (x*10) fT=w3:=⟨_,rfl⟩
  rw[hw3] at HTEN
  have HW3:Hid (((((((((((w2.setCell ⟨a.th,x*10,none⟩ (.int .i64 0)).setCell ⟨a.th,x*10+1,none⟩ (.int .u32 0)).setCell ⟨a.th,x*10+2,none⟩ (.int .i64 0)).setCell ⟨a.th,x*10+3,none⟩ (.int .u8 0)).setCell ⟨a.th,x*10+4,none⟩ (.int .u8 0)).setCell ⟨a.th,x*10+5,none⟩ (.int .i64 0)).setCell ⟨a.th,x*10+6,none⟩ (.int .i64 0)).setCell ⟨a.th,x*10+7,none⟩ (.int .i64 0)).setCell ⟨a.th,x*10+8,none⟩ (.int .i64 0)).setCell ⟨a.th,x*10+9,none⟩ (.int .u64 0))=w3):=hw3
  clear hw3 hbt
  obtain⟨n1,n2,n3,n4⟩:=HG2.out.sep
  have hbxv:=HBX.out
  have n5: ¬a.th=bx:=by omega
  have n6: ¬bx=a.th:=by omega
  clear hbxv
  go_wp2
  go_region_held3 (fun w'=>w'.cell? ⟨sb,0,none⟩=some (.pointer (some ⟨a.m,0,none⟩))/\w'.cell? ⟨a.m,4,none⟩=some (.slice (some ⟨a.th,0,none⟩) n a.xt)/\w'.cell? ⟨bx,0,none⟩=some (.int .i64 (x:Int)))
   (go_keep)
   (first|fail)
  rename_i hHeld
  clear hHeld
  rw[HW3.out]
  clear HW3 y0 y1 y2 y3 y4 y5 y6 y7 y8 y9 yf p0 p1 u0 u2 u7 u5 u4 n1 n2 n3 n4 n5 n6
  have hT4:SX w B w3 lab a P n q T {M with S:=pX n M.G M.S (x:Int) g,th:=Gt.au M.th x fT} sb pr l O:=HTEN.out
  obtain⟨p0,p1,u0,u2,u7,u5,u4⟩:=HKB.out _ _ _ _ hT4
  obtain⟨⟨r,z0⟩,z1,hz⟩:=HSR.out _ hT4
  have HZ:=aa hz
  have hz':=HKB.out _ _ _ _ hz
  have v0:=hz'.1
  have v1:=hz'.2.1
  have hbxv:=HBX.out
  have n7: ¬a.pr=bx:=by omega
  have n8: ¬bx=a.pr:=by omega
  clear hz hz' hT4 hbxv
  go_wp2_with (go_at_call 120;refine(HTL.out _ (by exact SX.fi HZ.out rfl rfl rfl rfl)).mono ?_;rintro e w5 ⟨rfl,hg⟩;have HG5:=aa hg;clear hg)
  go_end0
  exact⟨rfl,HG5.out.ahead HB0.out⟩
end
def fF (w w':World) (lab:Nat->Nat) (a:Ad) (P n q T:Nat) (M:Mc) (v:Value):Prop:= ∃lab',ay w' lab' a P n q T M/\oj w w' lab lab'/\Fr (fun k=>lab k≠0) w w'/\ ∀k,v.ownBlock=some k->lab' k=0
section
variable {w W W':World} {lab labk:Nat->Nat} {a:Ad} {P n q T T':Nat} {M M':Mc} {sb pr:Nat} {l:List Ev} {O O0:Nat->Prop} {W0:World}
theorem SX.GB (h:SX w W0 W lab a P n q T M sb pr l O0): ∃v,W.cell? ⟨sb,3,none⟩=some v/\i7 W w.heap.size v l/\fF w W lab a P n q T M v:=by
 obtain⟨k,v,s⟩:=h.sp
 exact⟨v,s.c3,s.hv,k,s.at_.i,s.at_.l,s.at_.f,fun k hk=>(s.hk k hk).1⟩
theorem ay.jJ (h:ay w lab a P n q T M) (hp:pr<P) (d:Int) (hT:T'+n<=1000000000)
  (hact: ∀W1 O,SG w W1 lab a P n q T M w.heap.size pr [] O->Calls Tryz.prog 39 #[.pointer (some ⟨w.heap.size,0,none⟩),.int .u64 d] W1 fun e w'=>e= .returned (.tuple #[])/\SX w W1 w' lab a P n q T' M' w.heap.size pr l O):
  Calls Tryz.prog 13 #[.pointer (some ⟨a.m,0,none⟩),.int .i64 (pr:Int),.int .u64 d] w fun e w'=> ∃v,e= .returned (.tuple #[v,.int .i64 0])/\i7 w' w.heap.size v l/\fF w w' lab a P n q (T'+n) (Go.Proofs.YtjlbmmiomfpgiaaGreatDoor.settle M' n) v:=by
 have HP:=aa (h.CH (pr:Int))
 have hyes:uV P (pr:Int)=true:=by unfold uV;simp;omega
 rw[hyes] at HP
 have c3:=h.co.c3
 have hpi:(pr:Int)<(P:Int):=by omega
 obtain⟨O,hs⟩:=SG.start h pr
 have HA:=aa (hact _ O hs)
 generalize hW:w.alloc (.cells #[.pointer (some ⟨a.m,0,none⟩),.int .i64 (pr:Int),.pointer (some ⟨a.pr,pr*3,none⟩),.slice none 0 0] 104)=W1 at*
 have HW:=aa hW
 have HST:Hid (∀V,SX w W1 V lab a P n q T' M' w.heap.size pr l O->Calls Tryz.prog 40 #[.pointer (some ⟨a.m,0,none⟩)] V fun e w'=>e= .returned (.tuple #[])/\SX w W1 w' lab a P n q (T'+n) (Go.Proofs.YtjlbmmiomfpgiaaGreatDoor.settle M' n) w.heap.size pr l O):=fun V h=>h.lift (R:=fun e=>e= .returned (.tuple #[])) fun _ i=>i.settle hT
 have hbt:=fun w=>Bo ⟨a.m,0,none⟩ ⟨a.pr,pr*3,none⟩ (pr:Int) w
 clear h hs hW hact
 go_enter Tryz.func13,Tryz.ntmps13
 go_upto_region 6 with (first
  |(go_at_call 38;refine(HP.out).mono ?_;rintro e w1 ⟨rfl,hw⟩;replace hw:=hw.symm;subst hw))
 rw[HW.out]
 go_upto_region 8 with (first
  |(go_at_call 39;refine(HA.out).mono ?_;rintro e w2 ⟨rfl,hg⟩;have HG2:=aa hg;clear hg)
  |(go_at_call 40;refine(HST.out _ HG2.out).mono ?_;rintro e w3 ⟨rfl,hg⟩;have HG3:=aa hg;clear hg))
 obtain⟨v,z3,hev,hgo⟩:=HG3.out.GB
 obtain⟨ad,cap,rfl⟩:=Cb.aE hev
 have HE:=aa (And.intro hev hgo)
 clear hev hgo
 go_wp2
 go_ret2
 exact⟨_,rfl,HE.out.1,HE.out.2⟩
end
section
variable {w W W':World} {lab labk:Nat->Nat} {a:Ad} {P n q T T':Nat} {M M':Mc}
theorem aA.FI {w':World} (h:aA w w' lab a P n q T M) (o:Obj):fF w (w'.alloc o) lab a P n q T M (.slice (some ⟨w'.heap.size,0,none⟩) 1 1):=by
 obtain⟨lab',hi,hl,hf⟩:=h
 have hb:Below w'.heap.size w' (w'.alloc o):=(z9 _ _).alloc (i8 _) _
 have hi2:=hi.below hb
 have hf2:Fr (fun k=>lab k≠0) w (w'.alloc o):=hf.then (dw (S:=fun _=>False) hb) (fun _ _ q=>q.elim)
 refine⟨lab',hi2,⟨hl.old,hi2.lt⟩,hf2,fun k hk=> ?_⟩
 have:w'.heap.size=k:=by simpa [Value.ownBlock] using hk
 exact hi.fresh (by omega)
theorem ay.mK (h:ay w lab a P n q T M) (hT:T+n+1+n<=1000000000) (hG:Gw M n) (pg:Int) (lv:Nat) (hlv:lv<256) (sv:Int) (hno:gF M pg sv=false) (x:Nat) (hf:cV M n=some x):
  Calls Tryz.prog 19 #[.pointer (some ⟨a.m,0,none⟩),.int .i64 pg,.int .u8 (lv:Int),.int .i64 sv] w fun e w'=> ∃v,e= .returned (.tuple #[v,.int .i64 0])/\i7 w' w.heap.size v [⟨9,0,(x:Int),M.G x+1,pg,0⟩]/\fF w w' lab a P n q (T+n+1+n) (cU P n q M x pg lv sv) v:=by
 have HP:=aa (h.Be pg)
 have HL:=aa h.GQ
 obtain⟨g,hg⟩: ∃g,M.G x+1=g:=⟨_,rfl⟩
 have HB:Hid (Calls Tryz.prog 51 #[.pointer (some ⟨a.m,0,none⟩),.int .i64 0,.agg #[.int .i64 0,.int .u32 0,.int .i64 pg,.int .u8 (lv:Int),.int .u8 0,.int .i64 sv,.int .i64 0,.int .i64 0,.int .i64 0,.int .u64 0]] w fun e w'=>e= .returned (.tuple #[.agg #[.int .i64 9,.int .i64 0,.int .i64 (x:Int),.int .u32 (g:Int),.int .i64 pg,.int .i64 0],.int .i64 0])/\aA w w' lab a P n q (T+n+1) (gL P n q M x 0 (fa pg lv sv))):=by
  have:=h.wI (by omega) hG 0 (fa pg lv sv) (zt pg lv sv hlv) x hf
  rw[hg] at this
  exact this
 have c6:=h.co.c6
 have hz:=h.t0.pos
 have HST:Hid (∀W lab1,At w W lab lab1 a P n q (T+n+1) (gL P n q M x 0 (fa pg lv sv))-> ∀b,lab1 b=0->kL W b ⟨9,0,(x:Int),g,pg,0⟩->Calls Tryz.prog 40 #[.pointer (some ⟨a.m,0,none⟩)] W fun e w'=>e= .returned (.tuple #[])/\aA w w' lab a P n q (T+n+1+n) (cU P n q M x pg lv sv)/\kL w' b ⟨9,0,(x:Int),g,pg,0⟩):=fun W lab1 A b hb he=>by
  refine(A.i.settle hT).mono ?_
  rintro e w' ⟨rfl,hgo⟩
  obtain⟨lab2,A2,ho,hfr⟩:=A.step hgo
  exact⟨rfl,A2.goes,he.kept (hfr.box hb he.lt)⟩
 unfold gF at hno
 clear h
 generalize M.sv.length=len at*
 have hp:jY M pg=true:=by cases e:jY M pg<;>simp[e] at hno⊢
 have h1: ¬sv< -1:=by intro e;simp[e] at hno
 have h2: ¬(len:Int)<=sv:=by intro e;simp[e] at hno
 have d1:decide (sv< -1)=false:=decide_eq_false h1
 have d2:decide ((len:Int)<=sv)=false:=decide_eq_false h2
 rw[hp] at HP
 have hbt:=fun w=>Cp pg (lv:Int) sv w
 rw[hg]
 go_enter Tryz.func19,Tryz.ntmps19
 go_upto_region 8 with (first
  |(go_at_call 49;refine(HP.out).mono ?_;rintro e w1 ⟨rfl,hw⟩;replace hw:=hw.symm;subst hw)
  |(go_at_call 50;refine(HL.out).mono ?_;rintro e w1 ⟨rfl,hw⟩;replace hw:=hw.symm;subst hw)
  |(go_at_call 51;refine(HB.out).mono ?_;rintro e w1 ⟨rfl,hb⟩;have HB1:=aa hb;clear hb))
 obtain⟨lab1,A1⟩:=HB1.out.open hz
 have A2:=A1.new (.cells #[.int .i64 9,.int .i64 0,.int .i64 (x:Int),.int .u32 (g:Int),.int .i64 pg,.int .i64 0] 75)
 have hl:=A1.fresh (i8 _)
 have he:kL (w1.alloc (.cells #[.int .i64 9,.int .i64 0,.int .i64 (x:Int),.int .u32 (g:Int),.int .i64 pg,.int .i64 0] 75)) w1.heap.size ⟨9,0,(x:Int),g,pg,0⟩:=⟨aT _ _ _ 0 _ rfl,aT _ _ _ 1 _ rfl,aT _ _ _ 2 _ rfl,aT _ _ _ 3 _ rfl,aT _ _ _ 4 _ rfl,aT _ _ _ 5 _ rfl,fun o=>Gt.aI _ _ _ _⟩
 generalize w1.alloc (.cells #[.int .i64 9,.int .i64 0,.int .i64 (x:Int),.int .u32 (g:Int),.int .i64 pg,.int .i64 0] 75)=W1 at*
 have HS1:=aa (HST.out W1 lab1 A2 w1.heap.size hl he)
 clear HST A1 A2 hl he HB1 HB HP HL
 go_wp2_with (first
  |(go_at_call 40;refine(HS1.out).mono ?_;rintro e w2 ⟨rfl,hgo,⟨e0,e1,e2,e3,e4,e5,ef⟩⟩;have HG2:=aa hgo;clear hgo))
 go_ret2
 exact⟨_,rfl,i7.one w2 w.heap.size HG2.out.size ⟨9,0,(x:Int),g,pg,0⟩,HG2.out.FI _⟩
end
def lU (w wr:World) (ad:Ad) (P n q T:Nat) (M:Mc) (K:Nat->Prop):Prop:=(∃lab,ay wr lab ad P n q T M/\(∀k,lab k≠0->w.heap.size<=k)/\ ∀k,K k->lab k=0/\k<wr.heap.size)/\Below w.heap.size w wr
section
variable {w wr w':World} {ad:Ad} {P n q T T':Nat} {M M':Mc} {K:Nat->Prop}
theorem lU.FV (h:lU w wr ad P n q T M K) {lab:Nat->Nat} (h1: ∀k,lab k≠0->w.heap.size<=k) (h2: ∀k,K k->lab k=0/\k<wr.heap.size) {v:Value} {base:Nat} {l:List Ev} (g:fF wr w' lab ad P n q T' M' v) (hv:i7 w' base v l):lU w w' ad P n q T' M' (fun k=>K k\/v.ownBlock=some k)/\ ∀k,K k->w'.heap[k]? =wr.heap[k]? :=by
 obtain⟨_,hb⟩:=h
 obtain⟨lab',hi',hl,hf,hz⟩:=g
 refine⟨⟨⟨lab',hi',fun k hk=> ?_,fun k hk=> ?_⟩,hb.trans ⟨hf.os,hf.tape,hf.output,hf.size,fun k hk=>hf.block k (zW0 hk hb.size) (fun q=>by have:=h1 k q;omega)⟩⟩,fun k hk=>hf.block k (h2 k hk).2 (fun q=>q (h2 k hk).1)⟩
 ·rcases Nat.lt_or_ge k wr.heap.size with q|q
  ·exact h1 k (by rw[←hl.old k q];exact hk)
  ·exact yX0 hb.size q
 ·rcases hk with hk|hk
  ·exact⟨(hl.old k (h2 k hk).2).trans (h2 k hk).1,zW0 (h2 k hk).2 hf.size⟩
  ·exact⟨hz k hk,(hv.lt hk).1⟩
theorem lU.call (h:lU w wr ad P n q T M K) {f:Nat} {args:Array Value} {R:Ending->World->Value->Prop} {base:Nat} {l:List Ev} (hc: ∀lab,ay wr lab ad P n q T M->Calls Tryz.prog f args wr fun e w'=> ∃v,R e w' v/\i7 w' base v l/\fF wr w' lab ad P n q T' M' v):Calls Tryz.prog f args wr fun e w'=> ∃v,R e w' v/\i7 w' base v l/\lU w w' ad P n q T' M' (fun k=>K k\/v.ownBlock=some k)/\ ∀k,K k->w'.heap[k]? =wr.heap[k]? :=by
 have h0:=h
 obtain⟨⟨lab,hi,h1,h2⟩,hb⟩:=h
 exact(hc lab hi).mono (fun e w' ⟨v,r,ev,g⟩=>⟨v,r,ev,h0.FV h1 h2 g ev⟩)
theorem lU.pq (h:lU w wr ad P n q T M K): ∃O,PQ wr O ad.pb n P q T M.pl:=by
 obtain⟨⟨lab,hi,hl⟩,hb⟩:=h
 obtain⟨O,p,_⟩:=hi.pl
 exact⟨O,p⟩
theorem lU.nZ (h:lU w wr ad P n q T M K):Below w.heap.size w wr:=h.2
end
noncomputable def wX (M:Mc) (n x:Nat):List Value:=[.int .i64 (x:Int),.int .u32 (M.G x:Int),.int .i64 (eX M n (M.th x):Int),.bool (Pi.cQ M.gr.T M.gr.L (x:Int)).e,.int .u64 (Pi.cQ M.gr.T M.gr.L (x:Int)).d,.int .u8 (Pi.cQ M.gr.T M.gr.L (x:Int)).l,.int .u8 ((M.th x).lv:Int),.int .i64 (M.th x).sv,.int .i64 (M.th x).pc,.int .i64 (M.th x).ia,.int .i64 (M.th x).il]
noncomputable def i6 (M:Mc) (n:Nat) (l:List Nat):List Value:=l.flatMap (wX M n)
theorem tk (M:Mc) (n:Nat) (l:List Nat) (x:Nat):i6 M n (l++[x])=i6 M n l++wX M n x:=by unfold i6;rw[List.flatMap_append];simp
theorem yT (M:Mc) (n x:Nat): ∀u∈wX M n x,u.oneCell'=true:=by
 intro u hu
 simp[wX] at hu
 rcases hu with rfl|rfl|rfl|rfl|rfl|rfl|rfl|rfl|rfl|rfl|rfl<;>rfl
theorem BU:(Tryz.prog.info? 69).map (fun i=>(i.zero,i.size,i.bytes))=some (some (.agg #[.int .i64 0,.int .u32 0,.int .i64 0,.bool false,.int .u64 0,.int .u8 0,.int .u8 0,.int .i64 0,.int .i64 0,.int .i64 0,.int .i64 0]),11,88):=by kernel_rfl
theorem zI (i g s:Int) (e:Bool) (d l lv sv pc ia il:Int) (w:World):(Instr.build 69 #[(0,.agg #[.int .i64 i,.int .u32 g]),(1,.int .i64 s),(2,.agg #[.bool e,.int .u64 d,.int .u8 l]),(3,.int .u8 lv),(4,.int .i64 sv),(5,.int .i64 pc),(6,.int .i64 ia),(7,.int .i64 il)]).run Tryz.prog w= .ok (.agg #[.int .i64 i,.int .u32 g,.int .i64 s,.bool e,.int .u64 d,.int .u8 l,.int .u8 lv,.int .i64 sv,.int .i64 pc,.int .i64 ia,.int .i64 il]) w:=run_build w 69 _ _ (by kernel_rfl)
section
variable {w w':World} {lab:Nat->Nat} {a:Ad} {P n q T:Nat} {M:Mc}
theorem ay.threads (h:ay w lab a P n q T M):
  Calls Tryz.prog 23 #[.pointer (some ⟨a.m,0,none⟩)] w fun e w'=> ∃v,e= .returned v/\w'.ownsRow w.heap.size 69 11 v (bL M n).length (i6 M n (bL M n))/\Below w.heap.size w w':=by
 obtain⟨i0',hi0,hz0,hz1,hz2⟩:=Cb.info_parts BU
 have HLI:Hid (Calls Tryz.prog 53 #[.pointer (some ⟨a.tb,0,none⟩)] w fun e w'=> ∃ad cap,e= .returned (.slice ad (bL M n).length cap)/\Lv w' lab ad (bL M n) M.G/\Below w.heap.size w w'):=h.live.mono (fun e w' ⟨v,he,ho,hb⟩=>by
  obtain⟨ad,cap,rfl,hl⟩:=Lv.of h ho
  exact⟨ad,cap,he,hl,hb⟩)
 have c5:=h.co.c5
 have HM:Hid (∀V,Below w.heap.size w V->ay V lab a P n q T M):=fun V hb=>h.below hb
 have hLn:=oA M n
 have hLt:=nQ M n
 have hnn:=h.hn
 obtain⟨L,hL⟩: ∃L,bL M n=L:=⟨_,rfl⟩
 rw[hL] at HLI hLn hLt⊢
 clear h hL
 have hbt:=zI
 go_enter Tryz.func23,Tryz.ntmps23
 go_wp2_with (go_at_call 53;refine(HLI.out).mono ?_;rintro e w1 ⟨ad,cap,rfl,hlv,hb1⟩;have HLV:=aa hlv;have HB1:=aa hb1;clear hlv hb1)
 go_loopw [3,15] (fun sv iv wr=> ∃(j:Nat) (ar:Option Addr) (cr:Nat),j<=L.length/\iv= .int .i64 j/\sv= .slice ar j cr/\wr.ownsRow w1.heap.size 69 11 (.slice ar j cr) j (i6 M n (L.take j))/\Below w1.heap.size w1 wr) (fun _ iv _=>L.length-(RowKit.intOf iv).toNat)
 case atStart=>exact⟨0,none,0,by omega,rfl,rfl,⟨rfl,.inl ⟨rfl,rfl⟩⟩,z9 _ _⟩
 case round=>
  obtain⟨j,ar,cr,hj,rfl,rfl,hro,hbw⟩:=hrel
  have HRO:=aa hro
  have HBW:=aa hbw
  clear hro hbw
  by_cases hjl:j<L.length
  ·have hjl':(j:Int)<(L.length:Int):=by omega
   obtain⟨x,hx⟩: ∃x,L[j]? =some x:=⟨L[j],yV0 hjl⟩
   obtain⟨rb,had,hrb,r0,r1⟩:=HLV.out.at_ j x hx
   have hxn:=hLt x (zV0 hx)
   subst had
   replace r0:=kc HBW.out r0
   replace r1:=kc HBW.out r1
   have hB:Below w1.heap.size w1 (wr.alloc (.cells #[.int .i64 (x:Int),.int .u32 (M.G x:Int)] 51)):=aM HBW.out _
   have HMB:=aa (HM.out _ (bt HB1.out hB))
   have ib0:(wr.alloc (.cells #[.int .i64 (x:Int),.int .u32 (M.G x:Int)] 51)).cell? ⟨wr.heap.size,0,none⟩=some (.int .i64 (x:Int)):=aT _ _ _ 0 _ rfl
   have ib1:(wr.alloc (.cells #[.int .i64 (x:Int),.int .u32 (M.G x:Int)] 51)).cell? ⟨wr.heap.size,1,none⟩=some (.int .u32 (M.G x:Int)):=aT _ _ _ 1 _ rfl
   have hro1:(wr.alloc (.cells #[.int .i64 (x:Int),.int .u32 (M.G x:Int)] 51)).ownsRow w1.heap.size 69 11 (.slice ar j cr) j (i6 M n (L.take j)):=aW HRO.out (fun k hk=>Below.heap_alloc _ _ _ (Pi.aw HRO.out hk).2.1)
   have HRO1:=aa hro1
   have HB2:=aa hB
   obtain⟨t,htx⟩: ∃t,M.th x=t:=⟨_,rfl⟩
   have c4:=HMB.out.co.c4
   obtain⟨t0,t1,t2,t3,t4,t5,t6,t7,t8,t9⟩:=HMB.out.th.at_ x hxn
   rw[htx] at t0 t1 t2 t3 t4 t5 t6 t7 t8 t9
   have e1: ¬a.th=wr.heap.size:=fun e=>by have q:a.th<w.heap.size:=(HM.out w (z9 _ _)).lt _ (by rw[(HM.out w (z9 _ _)).lth];decide);have:=HB1.out.size;have:=HBW.out.size;omega
   have HTX:=aa htx
   clear hB hro1 htx
   go_upto_region 7 with fail
   generalize hB1w:(wr.alloc (.cells #[.int .i64 (x:Int),.int .u32 (M.G x:Int)] 51))=B1 at*
   clear hB1w
   obtain⟨ib,hib⟩: ∃ib,wr.heap.size=ib:=⟨_,rfl⟩
   rw[hib] at ib0 ib1⊢
   have HIB:=aa hib
   clear hib e1
   have HLT1:Hid (ib<B1.heap.size):=zX0 B1 _ ib0
   have n1: ¬ib=B1.heap.size:=by have:=zX0 B1 _ ib0;exact fun e=>by simp at this;omega
   go_region_held3 (fun w'=>w'.cell? ⟨a.m,4,none⟩=some (.slice (some ⟨a.th,0,none⟩) n a.xt)/\w'.cell? ⟨ib,0,none⟩=some (.int .i64 (x:Int))/\w'.cell? ⟨a.th,x*10,none⟩=some (.int .i64 t.p)/\w'.cell? ⟨a.th,x*10+1,none⟩=some (.int .u32 (t.g:Int))/\w'.cell? ⟨a.th,x*10+2,none⟩=some (.int .i64 t.pg)/\w'.cell? ⟨a.th,x*10+3,none⟩=some (.int .u8 (t.lv:Int))/\w'.cell? ⟨a.th,x*10+4,none⟩=some (.int .u8 (t.lf:Int))/\w'.cell? ⟨a.th,x*10+5,none⟩=some (.int .i64 t.sv)/\w'.cell? ⟨a.th,x*10+6,none⟩=some (.int .i64 t.pc)/\w'.cell? ⟨a.th,x*10+7,none⟩=some (.int .i64 t.ia)/\w'.cell? ⟨a.th,x*10+8,none⟩=some (.int .i64 t.il)/\w'.cell? ⟨a.th,x*10+9,none⟩=some (.int .u64 (t.sn:Int)))
    (first|exact⟨kc (aM (z9 B1.heap.size B1) _) c4,kc (aM (z9 B1.heap.size B1) _) ib0,kc (aM (z9 B1.heap.size B1) _) t0,kc (aM (z9 B1.heap.size B1) _) t1,kc (aM (z9 B1.heap.size B1) _) t2,kc (aM (z9 B1.heap.size B1) _) t3,kc (aM (z9 B1.heap.size B1) _) t4,kc (aM (z9 B1.heap.size B1) _) t5,kc (aM (z9 B1.heap.size B1) _) t6,kc (aM (z9 B1.heap.size B1) _) t7,kc (aM (z9 B1.heap.size B1) _) t8,kc (aM (z9 B1.heap.size B1) _) t9⟩|go_keep)
    (first|fail)
   rename_i hHeld
   clear hHeld
   have hA2:Below B1.heap.size B1 (B1.alloc (.cells #[.int .i64 t.p,.int .u32 (t.g:Int),.int .i64 t.pg,.int .u8 (t.lv:Int),.int .u8 (t.lf:Int),.int .i64 t.sv,.int .i64 t.pc,.int .i64 t.ia,.int .i64 t.il,.int .u64 (t.sn:Int)] 111)).drew:=ak (aM (z9 B1.heap.size B1) _) rfl rfl rfl rfl
   have htb:aY (B1.alloc (.cells #[.int .i64 t.p,.int .u32 (t.g:Int),.int .i64 t.pg,.int .u8 (t.lv:Int),.int .u8 (t.lf:Int),.int .i64 t.sv,.int .i64 t.pc,.int .i64 t.ia,.int .i64 t.il,.int .u64 (t.sn:Int)] 111)).drew B1.heap.size 0 t:=(aY.new B1 t).kept rfl
   have hro2:(B1.alloc (.cells #[.int .i64 t.p,.int .u32 (t.g:Int),.int .i64 t.pg,.int .u8 (t.lv:Int),.int .u8 (t.lf:Int),.int .i64 t.sv,.int .i64 t.pc,.int .i64 t.ia,.int .i64 t.il,.int .u64 (t.sn:Int)] 111)).drew.ownsRow w1.heap.size 69 11 (.slice ar j cr) j (i6 M n (L.take j)):=aW HRO1.out (fun k hk=>hA2.block k (Pi.aw HRO1.out hk).2.1)
   replace ib0:=kc hA2 ib0
   replace ib1:=kc hA2 ib1
   have HB3:=aa (bt HB2.out hA2)
   generalize (B1.alloc (.cells #[.int .i64 t.p,.int .u32 (t.g:Int),.int .i64 t.pg,.int .u8 (t.lv:Int),.int .u8 (t.lf:Int),.int .i64 t.sv,.int .i64 t.pc,.int .i64 t.ia,.int .i64 t.il,.int .u64 (t.sn:Int)] 111)).drew=B2 at*
   obtain⟨tb,htbb⟩: ∃tb,B1.heap.size=tb:=⟨_,rfl⟩
   have HKN:Hid (∀k,(Value.slice ar j cr).ownBlock=some k->k≠ib/\k≠tb/\k≠a.m):=fun k hk=>by
    have q1:=Pi.aw HRO.out hk
    have q2:=HIB.out
    have q3:a.m<w.heap.size:=(HM.out w (z9 _ _)).lt _ (by rw[(HM.out w (z9 _ _)).lm];decide)
    have q4:=HB1.out.size
    have q5:=HLT1.out
    refine⟨by omega,by omega,by omega⟩
   rw[htbb] at htb⊢
   have HRO2:=aa hro2
   obtain⟨k0,k1,k2,k3,k4,k5,k6,k7,k8,k9⟩:=htb
   have hmc:=HM.out _ (bt HB1.out HB3.out)
   have c7:=hmc.co.c7
   have tok:t.ok:=by rw[←HTX.out];exact hmc.th.ok x hxn
   clear hA2 hro2 htbb t0 t1 t2 t3 t4 t5 t6 t7 t8 t9 c4 n1 HRO1 HB2 HMB HRO
   have HST:Hid (∀V,Below B2.heap.size B2 V->Calls Tryz.prog 54 #[.pointer (some ⟨a.m,0,none⟩),.agg #[.int .i64 t.p,.int .u32 (t.g:Int),.int .i64 t.pg,.int .u8 (t.lv:Int),.int .u8 (t.lf:Int),.int .i64 t.sv,.int .i64 t.pc,.int .i64 t.ia,.int .i64 t.il,.int .u64 (t.sn:Int)]] V fun e w'=>e= .returned (.int .i64 (eX M n t:Int))/\Below B2.heap.size B2 w'):=fun V hb=>((hmc.below hb).state t).mono (fun e w' ⟨he,b⟩=>⟨he,bt hb b⟩)
   have HKY:Hid (∀V,Below B2.heap.size B2 V->Calls Tryz.prog 55 #[.pointer (some ⟨a.gb,0,none⟩),.int .i64 (x:Int)] V fun e w'=>e= .returned (.agg #[.bool (Pi.cQ M.gr.T M.gr.L (x:Int)).e,.int .u64 (Pi.cQ M.gr.T M.gr.L (x:Int)).d,.int .u8 (Pi.cQ M.gr.T M.gr.L (x:Int)).l])/\Below B2.heap.size B2 w'):=fun V hb=>((hmc.below hb).key (x:Int)).mono (fun e w' ⟨he,b⟩=>⟨he,bt hb b⟩)
   have HMC:=aa hmc
   have HZ:=aa (z9 B2.heap.size B2)
   clear hmc
   have HTR:Hid (wX M n x=[.int .i64 (x:Int),.int .u32 (M.G x:Int),.int .i64 (eX M n t:Int),.bool (Pi.cQ M.gr.T M.gr.L (x:Int)).e,.int .u64 (Pi.cQ M.gr.T M.gr.L (x:Int)).d,.int .u8 (Pi.cQ M.gr.T M.gr.L (x:Int)).l,.int .u8 (t.lv:Int),.int .i64 t.sv,.int .i64 t.pc,.int .i64 t.ia,.int .i64 t.il]):=by unfold Hid wX;rw[HTX.out]
   generalize Pi.cQ M.gr.T M.gr.L (x:Int)=ky at*
   generalize eX M n t=st at*
   generalize M.G x=gx at*
   go_upto_region 8 with fail
   have HS:Hid (∀V,Below B2.heap.size B2 V->V.cell? ⟨ib,0,none⟩=some (.int .i64 (x:Int))/\V.cell? ⟨ib,1,none⟩=some (.int .u32 (gx:Int))/\V.cell? ⟨a.m,7,none⟩=some (.pointer (some ⟨a.gb,0,none⟩))/\V.cell? ⟨tb,0,none⟩=some (.int .i64 t.p)/\V.cell? ⟨tb,1,none⟩=some (.int .u32 (t.g:Int))/\V.cell? ⟨tb,2,none⟩=some (.int .i64 t.pg)/\V.cell? ⟨tb,3,none⟩=some (.int .u8 (t.lv:Int))/\V.cell? ⟨tb,4,none⟩=some (.int .u8 (t.lf:Int))/\V.cell? ⟨tb,5,none⟩=some (.int .i64 t.sv)/\V.cell? ⟨tb,6,none⟩=some (.int .i64 t.pc)/\V.cell? ⟨tb,7,none⟩=some (.int .i64 t.ia)/\V.cell? ⟨tb,8,none⟩=some (.int .i64 t.il)/\V.cell? ⟨tb,9,none⟩=some (.int .u64 (t.sn:Int))):=fun V hb=>⟨kc hb ib0,kc hb ib1,kc hb c7,kc hb k0,kc hb k1,kc hb k2,kc hb k3,kc hb k4,kc hb k5,kc hb k6,kc hb k7,kc hb k8,kc hb k9⟩
   have hkn: ∀k,(Value.slice ar j cr).ownBlock=some k->k≠ib/\k≠tb/\k≠a.m:=HKN.out
   have HSG:Hid (∀V V',Below B2.heap.size B2 V->V.grownBy V' (Value.slice ar j cr).ownBlock->V'.cell? ⟨ib,0,none⟩=some (.int .i64 (x:Int))/\V'.cell? ⟨ib,1,none⟩=some (.int .u32 (gx:Int))/\V'.cell? ⟨a.m,7,none⟩=some (.pointer (some ⟨a.gb,0,none⟩))/\V'.cell? ⟨tb,0,none⟩=some (.int .i64 t.p)/\V'.cell? ⟨tb,1,none⟩=some (.int .u32 (t.g:Int))/\V'.cell? ⟨tb,2,none⟩=some (.int .i64 t.pg)/\V'.cell? ⟨tb,3,none⟩=some (.int .u8 (t.lv:Int))/\V'.cell? ⟨tb,4,none⟩=some (.int .u8 (t.lf:Int))/\V'.cell? ⟨tb,5,none⟩=some (.int .i64 t.sv)/\V'.cell? ⟨tb,6,none⟩=some (.int .i64 t.pc)/\V'.cell? ⟨tb,7,none⟩=some (.int .i64 t.ia)/\V'.cell? ⟨tb,8,none⟩=some (.int .i64 t.il)/\V'.cell? ⟨tb,9,none⟩=some (.int .u64 (t.sn:Int))):=fun V V' hb hg=>by
    obtain⟨q0,q1,q2,r0,r1,r2,r3,r4,r5,r6,r7,r8,r9⟩:=HS.out V hb
    have bi:=hg.block ib (zX0 V _ q0) (fun e=>(hkn ib e.symm).1 rfl)
    have bt':=hg.block tb (zX0 V _ r0) (fun e=>(hkn tb e.symm).2.1 rfl)
    have bm:=hg.block a.m (zX0 V _ q2) (fun e=>(hkn a.m e.symm).2.2 rfl)
    exact⟨(zZ0 bi).trans q0,(zZ0 bi).trans q1,(zZ0 bm).trans q2,(zZ0 bt').trans r0,(zZ0 bt').trans r1,(zZ0 bt').trans r2,(zZ0 bt').trans r3,(zZ0 bt').trans r4,(zZ0 bt').trans r5,(zZ0 bt').trans r6,(zZ0 bt').trans r7,(zZ0 bt').trans r8,(zZ0 bt').trans r9⟩
   have HGW:Hid (∀V V',Below B2.heap.size B2 V->V.grownBy V' (Value.slice ar j cr).ownBlock->Below w1.heap.size w1 V'):=fun V V' hb hg=>(bt HB3.out hb).grown hg (by have:=HB3.out.size;have:=hb.size;omega) (fun k hk=>(Pi.aw HRO2.out hk).1)
   have HBS:Hid (∀V,Below B2.heap.size B2 V->w1.heap.size<=(V.alloc (.cells #[.int .i64 (x:Int),.int .u32 (gx:Int),.int .i64 (st:Int),.bool ky.e,.int .u64 ky.d,.int .u8 ky.l,.int .u8 (t.lv:Int),.int .i64 t.sv,.int .i64 t.pc,.int .i64 t.ia,.int .i64 t.il] 69)).heap.size):=fun V hb=>by have:=HB3.out.size;have:=hb.size;simp;omega
   have HAP:Hid (∀V,Below B2.heap.size B2 V->Hid ((V.alloc (.cells #[.int .i64 (x:Int),.int .u32 (gx:Int),.int .i64 (st:Int),.bool ky.e,.int .u64 ky.d,.int .u8 ky.l,.int .u8 (t.lv:Int),.int .i64 t.sv,.int .i64 t.pc,.int .i64 t.ia,.int .i64 t.il] 69)).ownsRow w1.heap.size 69 11 (.slice ar j cr) j (i6 M n (L.take j)))/\Hid (∀i u,([.int .i64 (x:Int),.int .u32 (gx:Int),.int .i64 (st:Int),.bool ky.e,.int .u64 ky.d,.int .u8 ky.l,.int .u8 (t.lv:Int),.int .i64 t.sv,.int .i64 t.pc,.int .i64 t.ia,.int .i64 t.il]:List Value)[i]? =some u->(V.alloc (.cells #[.int .i64 (x:Int),.int .u32 (gx:Int),.int .i64 (st:Int),.bool ky.e,.int .u64 ky.d,.int .u8 ky.l,.int .u8 (t.lv:Int),.int .i64 t.sv,.int .i64 t.pc,.int .i64 t.ia,.int .i64 t.il] 69)).cell? ((⟨V.heap.size,0,none⟩:Addr).add i)=some u)):=fun V hb=>by
    refine⟨aW HRO2.out (fun k hk=>(aM hb _).block k (Pi.aw HRO2.out hk).2.1),fun i u hu=> ?_⟩
    have hadd:(⟨V.heap.size,0,none⟩:Addr).add i=⟨V.heap.size,i,none⟩:=by unfold Addr.add;split<;>simp_all
    rw[hadd]
    exact aT _ _ _ i u (by simpa using hu)
   refine wp_region_held_drew (S:=fun w'=>w'.cell? ⟨ib,0,none⟩=some (.int .i64 (x:Int))/\w'.cell? ⟨ib,1,none⟩=some (.int .u32 (gx:Int))/\w'.cell? ⟨a.m,7,none⟩=some (.pointer (some ⟨a.gb,0,none⟩))/\w'.cell? ⟨tb,0,none⟩=some (.int .i64 t.p)/\w'.cell? ⟨tb,1,none⟩=some (.int .u32 (t.g:Int))/\w'.cell? ⟨tb,2,none⟩=some (.int .i64 t.pg)/\w'.cell? ⟨tb,3,none⟩=some (.int .u8 (t.lv:Int))/\w'.cell? ⟨tb,4,none⟩=some (.int .u8 (t.lf:Int))/\w'.cell? ⟨tb,5,none⟩=some (.int .i64 t.sv)/\w'.cell? ⟨tb,6,none⟩=some (.int .i64 t.pc)/\w'.cell? ⟨tb,7,none⟩=some (.int .i64 t.ia)/\w'.cell? ⟨tb,8,none⟩=some (.int .i64 t.il)/\w'.cell? ⟨tb,9,none⟩=some (.int .u64 (t.sn:Int))) (by kernel_rfl) ?_ (fun hHeld=> ?_)
   ·exact HS.out _ (bB HZ.out)
   refine aH 0 (v:= ?_) rfl ?v0 ?_
   case v0=>(intro w hSw;(try dsimp only at hSw);obtain⟨hSa,hSb,hSc,hSd,hSe,hSf,hSg,hSh,hSi,hSj,hSk,hSl,hSm⟩:=hSw;go_simp;try with_reducible rfl)
   try simp only[aq]
   refine aH 1 (v:= ?_) rfl ?v1 ?_
   case v1=>(intro w hSw;(try dsimp only at hSw);obtain⟨hSa,hSb,hSc,hSd,hSe,hSf,hSg,hSh,hSi,hSj,hSk,hSl,hSm⟩:=hSw;go_simp;try with_reducible rfl)
   try simp only[aq]
   refine aH 2 (v:= ?_) rfl ?v2 ?_
   case v2=>(intro w hSw;(try dsimp only at hSw);obtain⟨hSa,hSb,hSc,hSd,hSe,hSf,hSg,hSh,hSi,hSj,hSk,hSl,hSm⟩:=hSw;go_simp;try with_reducible rfl)
   try simp only[aq]
   refine aH 3 (v:= ?_) rfl ?v3 ?_
   case v3=>(intro w hSw;(try dsimp only at hSw);obtain⟨hSa,hSb,hSc,hSd,hSe,hSf,hSg,hSh,hSi,hSj,hSk,hSl,hSm⟩:=hSw;go_simp;try with_reducible rfl)
   try simp only[aq]
   refine aH 5 (v:= ?_) rfl ?v5 ?_
   case v5=>(intro w hSw;(try dsimp only at hSw);obtain⟨hSa,hSb,hSc,hSd,hSe,hSf,hSg,hSh,hSi,hSj,hSk,hSl,hSm⟩:=hSw;go_simp;try with_reducible rfl)
   try simp only[aq]
   refine aH 6 (v:= ?_) rfl ?v6 ?_
   case v6=>(intro w hSw;(try dsimp only at hSw);obtain⟨hSa,hSb,hSc,hSd,hSe,hSf,hSg,hSh,hSi,hSj,hSk,hSl,hSm⟩:=hSw;go_simp;try with_reducible rfl)
   try simp only[aq]
   refine aH 7 (v:= ?_) rfl ?v7 ?_
   case v7=>(intro w hSw;(try dsimp only at hSw);obtain⟨hSa,hSb,hSc,hSd,hSe,hSf,hSg,hSh,hSi,hSj,hSk,hSl,hSm⟩:=hSw;go_simp;try with_reducible rfl)
   try simp only[aq]
   refine aH 8 (v:= ?_) rfl ?v8 ?_
   case v8=>(intro w hSw;(try dsimp only at hSw);obtain⟨hSa,hSb,hSc,hSd,hSe,hSf,hSg,hSh,hSi,hSj,hSk,hSl,hSm⟩:=hSw;go_simp;try with_reducible rfl)
   try simp only[aq]
   refine aH 9 (v:= ?_) rfl ?v9 ?_
   case v9=>(intro w hSw;(try dsimp only at hSw);obtain⟨hSa,hSb,hSc,hSd,hSe,hSf,hSg,hSh,hSi,hSj,hSk,hSl,hSm⟩:=hSw;go_simp;try with_reducible rfl)
   try simp only[aq]
   refine aH 10 (v:= ?_) rfl ?v10 ?_
   case v10=>(intro w hSw;(try dsimp only at hSw);obtain⟨hSa,hSb,hSc,hSd,hSe,hSf,hSg,hSh,hSi,hSj,hSk,hSl,hSm⟩:=hSw;go_simp;try with_reducible rfl)
   try simp only[aq]
   refine aH 12 (v:= ?_) rfl ?v12 ?_
   case v12=>(intro w hSw;(try dsimp only at hSw);obtain⟨hSa,hSb,hSc,hSd,hSe,hSf,hSg,hSh,hSi,hSj,hSk,hSl,hSm⟩:=hSw;go_simp;try with_reducible rfl)
   try simp only[aq]
   refine aH 13 (v:= ?_) rfl ?v13 ?_
   case v13=>(intro w hSw;(try dsimp only at hSw);obtain⟨hSa,hSb,hSc,hSd,hSe,hSf,hSg,hSh,hSi,hSj,hSk,hSl,hSm⟩:=hSw;go_simp;try with_reducible rfl)
   try simp only[aq]
   refine aH 14 (v:= ?_) rfl ?v14 ?_
   case v14=>(intro w hSw;(try dsimp only at hSw);obtain⟨hSa,hSb,hSc,hSd,hSe,hSf,hSg,hSh,hSi,hSj,hSk,hSl,hSm⟩:=hSw;go_simp;try with_reducible rfl)
   try simp only[aq]
   refine aH 15 (v:= ?_) rfl ?v15 ?_
   case v15=>(intro w hSw;(try dsimp only at hSw);obtain⟨hSa,hSb,hSc,hSd,hSe,hSf,hSg,hSh,hSi,hSj,hSk,hSl,hSm⟩:=hSw;go_simp;try with_reducible rfl)
   try simp only[aq]
   refine aH 16 (v:= ?_) rfl ?v16 ?_
   case v16=>(intro w hSw;(try dsimp only at hSw);obtain⟨hSa,hSb,hSc,hSd,hSe,hSf,hSg,hSh,hSi,hSj,hSk,hSl,hSm⟩:=hSw;go_simp;try with_reducible rfl)
   try simp only[aq]
   refine aH 17 (v:= ?_) rfl ?v17 ?_
   case v17=>(intro w hSw;(try dsimp only at hSw);obtain⟨hSa,hSb,hSc,hSd,hSe,hSf,hSg,hSh,hSi,hSj,hSk,hSl,hSm⟩:=hSw;go_simp;try with_reducible rfl)
   try simp only[aq]
   refine aH 18 (v:= ?_) rfl ?v18 ?_
   case v18=>(intro w hSw;(try dsimp only at hSw);obtain⟨hSa,hSb,hSc,hSd,hSe,hSf,hSg,hSh,hSi,hSj,hSk,hSl,hSm⟩:=hSw;go_simp;try with_reducible rfl)
   try simp only[aq]
   refine aH 19 (v:= ?_) rfl ?v19 ?_
   case v19=>(intro w hSw;(try dsimp only at hSw);obtain⟨hSa,hSb,hSc,hSd,hSe,hSf,hSg,hSh,hSi,hSj,hSk,hSl,hSm⟩:=hSw;go_simp;try with_reducible rfl)
   try simp only[aq]
   refine aH 20 (v:= ?_) rfl ?v20 ?_
   case v20=>(intro w hSw;(try dsimp only at hSw);obtain⟨hSa,hSb,hSc,hSd,hSe,hSf,hSg,hSh,hSi,hSj,hSk,hSl,hSm⟩:=hSw;go_simp;try with_reducible rfl)
   try simp only[aq]
   refine aH 21 (v:= ?_) rfl ?v21 ?_
   case v21=>(intro w hSw;(try dsimp only at hSw);obtain⟨hSa,hSb,hSc,hSd,hSe,hSf,hSg,hSh,hSi,hSj,hSk,hSl,hSm⟩:=hSw;go_simp;try with_reducible rfl)
   try simp only[aq]
   refine aH 22 (v:= ?_) rfl ?v22 ?_
   case v22=>(intro w hSw;(try dsimp only at hSw);obtain⟨hSa,hSb,hSc,hSd,hSe,hSf,hSg,hSh,hSi,hSj,hSk,hSl,hSm⟩:=hSw;go_simp;try with_reducible rfl)
   try simp only[aq]
   refine aH 23 (v:= ?_) rfl ?v23 ?_
   case v23=>(intro w hSw;(try dsimp only at hSw);obtain⟨hSa,hSb,hSc,hSd,hSe,hSf,hSg,hSh,hSi,hSj,hSk,hSl,hSm⟩:=hSw;go_simp;try with_reducible rfl)
   try simp only[aq]
   refine bj 4 rfl (fun K hK=> ?_)
   go_simp
   go_at_call 54
   refine(HST.out _ (by exact ak HZ.out rfl rfl rfl rfl)).mono ?_
   rintro e w4 ⟨rfl,hb⟩
   have HB4:=aa hb
   clear hb
   refine hK.out _ _ ?_ (fun hHeld=> ?_)
   ·exact HS.out _ HB4.out
   clear hK K
   try simp only[aq]
   refine bj 11 rfl (fun K hK=> ?_)
   go_simp
   go_at_call 55
   refine(HKY.out _ (by exact HB4.out)).mono ?_
   rintro e w5 ⟨rfl,hb⟩
   have HB5:=aa hb
   clear hb
   refine hK.out _ _ ?_ (fun hHeld=> ?_)
   ·exact HS.out _ HB5.out
   clear hK K
   try simp only[aq]
   refine aH 24 (v:= ?_) rfl ?v24 ?_
   case v24=>(intro w hSw;(try dsimp only at hSw);obtain⟨hSa,hSb,hSc,hSd,hSe,hSf,hSg,hSh,hSi,hSj,hSk,hSl,hSm⟩:=hSw;go_simp;try with_reducible rfl)
   try simp only[aq]
   refine bj 25 rfl (fun K hK=> ?_)
   go_simp
   refine hK.out _ _ ?_ (fun hHeld=> ?_)
   ·exact HS.out _ (aM HB5.out _)
   clear hK K
   try simp only[aq]
   refine bj 26 rfl (fun K hK=> ?_)
   obtain⟨HOW,HNW⟩:=HAP.out w5 HB5.out
   refine bQ _ (by rfl) _ _ _ (by rfl) w1.heap.size 69 i0' (.agg #[.int .i64 0,.int .u32 0,.int .i64 0,.bool false,.int .u64 0,.int .u8 0,.int .u8 0,.int .i64 0,.int .i64 0,.int .i64 0,.int .i64 0]) 11 88 Tryz.underlying55 hi0 hz0 hz1 hz2 rfl (by omega) (.slice ar j cr) j (i6 M n (L.take j)) (by rfl) HOW.out ⟨w5.heap.size,0,none⟩ 1 1 [.int .i64 (x:Int),.int .u32 (gx:Int),.int .i64 (st:Int),.bool ky.e,.int .u64 ky.d,.int .u8 ky.l,.int .u8 (t.lv:Int),.int .i64 t.sv,.int .i64 t.pc,.int .i64 t.ia,.int .i64 t.il] (by rfl) rfl HNW.out (by have:=yT M n x;rw[HTR.out] at this;exact this) (by unfold maxLen;omega) (by omega) (HBS.out _ HB5.out) ?_
   intro v1 w6 ho6 hg6 hat6
   obtain⟨a6,d6,rfl⟩:=Cb.aE ho6
   have HS6:=aa (HSG.out _ _ (aM HB5.out _) hg6)
   have HO6:=aa ho6
   have HW6:=aa (HGW.out _ _ (aM HB5.out _) hg6)
   clear ho6 hg6 hat6 HOW HNW
   refine hK.out _ _ ?_ (fun hHeld=> ?_)
   ·exact HS6.out
   clear hK K
   try simp only[aq]
   refine aH 27 (v:= ?_) rfl ?v27 ?_
   case v27=>(intro w hSw;(try dsimp only at hSw);obtain⟨hSa,hSb,hSc,hSd,hSe,hSf,hSg,hSh,hSi,hSj,hSk,hSl,hSm⟩:=hSw;go_simp;try with_reducible rfl)
   try simp only[aq]
   refine wpAnyH_done (by kernel_rfl) ?_ _
   go_wp2
   go_roundw
   case rel=>
    refine⟨j+1,a6,d6,by omega,by go_num,rfl,?_,HW6.out⟩
    rw[show L.take (j+1)=L.take j++[x] by rw[List.take_add_one,hx];rfl,tk,HTR.out]
    exact HO6.out
   case measure=>simp[RowKit.intOf];omega
  ·have hjl': ¬(j:Int)<(L.length:Int):=by omega
   obtain rfl:j=L.length:=by omega
   go_wp2
   go_ret
   refine⟨_,rfl,?_,bt HB1.out HBW.out⟩
   have:=HRO.out
   rw[List.take_length] at this
   exact Pi.fp this (fun k hk=>yX0 HB1.out.size (Pi.aw this hk).1)
end
end Go.Proofs.YtjlbmmiomfpgiaaGreatDoor
namespace Go.Proofs.YtjlbmmiomfpgiaaGreatDoor
open Go.RowKit
section
variable {W w':World} {labk:Nat->Nat} {a:Ad} {P n q T:Nat} {M:Mc}
theorem ay.sleep (h:ay W labk a P n q T M) (id:Int) (t:Nat) (ht:t<18446744073709551616):
  Calls Tryz.prog 161 #[.pointer (some ⟨a.wb,0,none⟩),.int .i64 id,.int .u64 (t:Int)] W fun e w'=>(∃c:Int,e= .returned (.int .i64 c))/\aA W w' labk a P n q T {M with wh:=Wh.gY n M.wh id t}:=by
 refine(Wh.Et h.wh id t ht).mono ?_
 rintro e w' ⟨rfl,hw,hf⟩
 have h9:Fr (fun k=>labk k=9) W w':=(F8 hf).to (fun k _ hk=>h.lw k hk)
 exact⟨⟨_,rfl⟩,labk,h.Fx (h.same h9) h9 hw,h.same h9,h9.to (fun k _ hk=>by rw[hk];decide)⟩
theorem ay.advance (h:ay W labk a P n q T M) (hn:n<=12) (tm:Nat) (ht:tm<18446744073709551616):
  Calls Tryz.prog 42 #[.pointer (some ⟨a.wb,0,none⟩),.int .u64 (tm:Int)] W fun e w'=> ∃v,e= .returned v/\w'.ownsRow W.heap.size 3 1 v (Wh.due (max tm M.nw) M.wh).length (Wh.iv (Wh.ai (Wh.due (max tm M.nw) M.wh)))/\fF W w' labk a P n q T {M with nw:=max tm M.nw,wh:=Wh.late (max tm M.nw) M.wh} v:=by
 refine(Wh.tQ h.wh 12 Wh.Cc hn tm ht).mono ?_
 rintro e w' ⟨⟨v,rfl,hv⟩,hw,hf⟩
 have h9:Fr (fun k=>labk k=9) W w':=(F8 hf).to (fun k _ hk=>h.lw k hk)
 exact⟨v,rfl,hv,labk,h.Fx (h.same h9) h9 hw,h.same h9,h9.to (fun k _ hk=>by rw[hk];decide),fun k hk=>h.fresh (Pi.aw hv hk).1⟩
theorem ay.Hg (h:ay W labk a P n q T M) {base:Nat} {v:Value} {L':List Cb.cE} (hl: ∀k,v.ownBlock=some k->labk k=6) (hp:Cb.dQ w' base a.sb P v L') {S:Nat->Prop} (hf:Cb.Fr S W w') (hS: ∀k,S k->k=a.sb\/some k=v.ownBlock):aA W w' labk a P n q T {M with sv:=L'}:=by
 have h6:Fr (fun k=>labk k=6) W w':=(Er hf).to (fun k _ hk=>(hS k hk).elim (fun e=>by rw[e];exact h.lsb) (fun e=>hl k e.symm))
 exact⟨labk,h.xK (h.same h6) h6 hp hl,h.same h6,h6.to (fun k _ hk=>by rw[hk];decide)⟩
theorem ay.EB (h:ay W labk a P n q T M) (i:Int):
  Calls Tryz.prog 86 #[.pointer (some ⟨a.sb,0,none⟩),.int .i64 i] W fun e w'=>e= .returned (.tuple #[.bool (Cb.zK M.sv i),.int .i64 (Cb.gI M.sv i:Int)])/\aA W w' labk a P n q T {M with sv:=Cb.dq M.sv i}:=by
 obtain⟨base,v,hp,hl⟩:=h.sv
 refine(Cb.sM hp i).mono ?_
 rintro e w' ⟨rfl,hp',hf⟩
 exact⟨rfl,h.Hg hl hp' hf (fun _ q=>q)⟩
theorem ay.D5 (h:ay W labk a P n q T M) (now:Nat) (hn:now<18446744073709551616):
  Calls Tryz.prog 45 #[.pointer (some ⟨a.sb,0,none⟩),.int .u64 (now:Int)] W fun e w'=> ∃v,e= .returned v/\w'.ownsRow W.heap.size 3 1 v (Cb.gW M.sv now M.sv.length).length (Cb.iW (Cb.gW M.sv now M.sv.length))/\fF W w' labk a P n q T {M with sv:=M.sv.map (Cb.lL now)} v:=by
 obtain⟨base,v,hp,hl⟩:=h.sv
 refine(Cb.xE hp now hn).mono ?_
 rintro e w' ⟨lv,rfl,ho,hp',hf⟩
 obtain⟨lab',g1,g2,g3⟩:=h.Hg hl hp' hf (fun _ q=> .inr q)
 have h6:Fr (fun k=>labk k=6) W w':=(Er hf).to (fun k _ hk=>hl k hk.symm)
 exact⟨lv,rfl,ho,labk,h.xK (h.same h6) h6 hp' hl,h.same h6,h6.to (fun k _ hk=>by rw[hk];decide),fun k hk=>h.fresh (Pi.aw ho hk).1⟩
end
end Go.Proofs.YtjlbmmiomfpgiaaGreatDoor
namespace Go.Proofs.YtjlbmmiomfpgiaaGreatDoor
open Go.RowKit Go.Lib Go.Shelf
attribute [local go_sem ↓] Go.wp_at_zero Go.wp_at_succ
def GX (w W0 wr:World) (lab:Nat->Nat) (a:Ad) (P n q T:Nat) (M:Mc) (v:Value) (l:List Ev) (K:Nat->Prop):Prop:=
 ∃labk,At w wr lab labk a P n q T M/\i7 wr w.heap.size v l/\(∀k,v.ownBlock=some k->labk k=0/\ ¬K k)/\ ∀k,K k->labk k=0/\k<wr.heap.size/\wr.heap[k]? =W0.heap[k]?
section
variable {w W0 wr w':World} {lab:Nat->Nat} {a:Ad} {P n q T T':Nat} {M M':Mc} {v:Value} {l:List Ev} {K:Nat->Prop}
theorem GX.start (h:ay w lab a P n q T M):GX w w w lab a P n q T M (.slice none 0 0) [] (fun _=>False):=
 ⟨lab,h.G0,i7.nil _ _,fun k e=>(by cases e),fun k e=>(False.elim e)⟩
theorem GX.goes (h:GX w W0 wr lab a P n q T M v l K) (g: ∀labk,ay wr labk a P n q T M->aA wr w' labk a P n q T' M'):GX w W0 w' lab a P n q T' M' v l K:=by
 obtain⟨labk,A,hv,hk,hK⟩:=h
 obtain⟨lab',A',ho,hf⟩:=A.step (g labk A.i)
 refine⟨lab',A',aW hv (fun k e=>hf.block k (hv.lt e).1 (fun q=>q (hk k e).1)),fun k e=>⟨by rw[ho k (hv.lt e).1];exact(hk k e).1,(hk k e).2⟩,fun k e=> ?_⟩
 obtain⟨h1,h2,h3⟩:=hK k e
 exact⟨by rw[ho k h2];exact h1,zW0 h2 hf.size,(hf.block k h2 (fun q=>q h1)).trans h3⟩
theorem GX.call (h:GX w W0 wr lab a P n q T M v l K) {f:Nat} {args:Array Value} {R:Ending->Prop} (hc: ∀labk,ay wr labk a P n q T M->Calls Tryz.prog f args wr fun e w'=>R e/\aA wr w' labk a P n q T' M'):Calls Tryz.prog f args wr fun e w'=>R e/\GX w W0 w' lab a P n q T' M' v l K:=by
 obtain⟨labk,A,hv,hk,hK⟩:=h
 refine(hc labk A.i).mono (fun e w' ⟨he,hg⟩=>⟨he,?_⟩)
 obtain⟨lab',A',ho,hf⟩:=A.step hg
 refine⟨lab',A',aW hv (fun k e=>hf.block k (hv.lt e).1 (fun q=>q (hk k e).1)),fun k e=>⟨by rw[ho k (hv.lt e).1];exact(hk k e).1,(hk k e).2⟩,fun k e=> ?_⟩
 obtain⟨h1,h2,h3⟩:=hK k e
 exact⟨by rw[ho k h2];exact h1,zW0 h2 hf.size,(hf.block k h2 (fun q=>q h1)).trans h3⟩
theorem GX.DE (h:GX w W0 wr lab a P n q T M v l K) {f:Nat} {args:Array Value} {R:Ending->Value->World->Prop} (hc: ∀labk,ay wr labk a P n q T M->Calls Tryz.prog f args wr fun e w'=> ∃u,R e u w'/\(∀k,u.ownBlock=some k->wr.heap.size<=k/\k<w'.heap.size)/\fF wr w' labk a P n q T' M' u):Calls Tryz.prog f args wr fun e w'=> ∃u,R e u w'/\GX w w' w' lab a P n q T' M' v l (fun k=>K k\/u.ownBlock=some k)/\ ∀k,K k->w'.heap[k]? =W0.heap[k]? :=by
 obtain⟨labk,A,hv,hk,hK⟩:=h
 refine(hc labk A.i).mono (fun e w' ⟨u,he,hu,lab',i',hl,hf,hz⟩=>⟨u,he,⟨lab',⟨i',A.l.then hl A.f.size,A.f.then hf (fun k hk hn=>by rw[←A.l.old k hk];exact hn),A.z⟩,aW hv (fun k e=>hf.block k (hv.lt e).1 (fun q=>q (hk k e).1)),fun k e=>⟨by rw[hl.old k (hv.lt e).1];exact(hk k e).1,fun q=> ?_⟩,fun k e=> ?_⟩,fun k e=> ?_⟩)
 ·rcases q with q|q
  ·exact(hk k e).2 q
  ·have:=(hu k q).1
   have:=(hv.lt e).1
   omega
 ·rcases e with e|e
  ·obtain⟨h1,h2,h3⟩:=hK k e
   exact⟨by rw[hl.old k h2];exact h1,zW0 h2 hf.size,rfl⟩
  ·exact⟨hz k e,(hu k e).2,rfl⟩
 ·obtain⟨h1,h2,h3⟩:=hK k e
  exact(hf.block k h2 (fun q=>q h1)).trans h3
theorem GX.FR (h:GX w W0 wr lab a P n q T M (.slice none 0 0) [] K) {f:Nat} {args:Array Value} {R:Ending->Value->Prop} {l':List Ev} (hc: ∀labk,ay wr labk a P n q T M->Calls Tryz.prog f args wr fun e w'=> ∃u,R e u/\i7 w' wr.heap.size u l'/\fF wr w' labk a P n q T' M' u):Calls Tryz.prog f args wr fun e w'=> ∃u,R e u/\GX w W0 w' lab a P n q T' M' u l' K:=by
 obtain⟨labk,A,hv,hk,hK⟩:=h
 refine(hc labk A.i).mono (fun e w' ⟨u,he,hu,lab',i',hl,hf,hz⟩=>⟨u,he,lab',⟨i',A.l.then hl A.f.size,A.f.then hf (fun k hk hn=>by rw[←A.l.old k hk];exact hn),A.z⟩,?_,fun k e=>⟨hz k e,fun q=> ?_⟩,fun k e=> ?_⟩)
 ·obtain⟨h1,h2|⟨g,cap,cells,hv',h3,h4⟩⟩:=hu
  ·exact⟨h1,.inl h2⟩
  ·exact⟨h1,.inr ⟨g,cap,cells,hv',yX0 A.f.size h3,h4⟩⟩
 ·have:=(hu.lt e).2
  have:=(hK k q).2.1
  omega
 ·obtain⟨h1,h2,h3⟩:=hK k e
  exact⟨by rw[hl.old k h2];exact h1,zW0 h2 hf.size,(hf.block k h2 (fun q=>q h1)).trans h3⟩
theorem GX.more (h:GX w W0 wr lab a P n q T M v l K) (hb:Below wr.heap.size wr w'):GX w W0 w' lab a P n q T M v l K:=by
 obtain⟨labk,A,hv,hk,hK⟩:=h
 refine⟨labk,A.below hb,hv.below hb,hk,fun k e=> ?_⟩
 obtain⟨h1,h2,h3⟩:=hK k e
 exact⟨h1,zW0 h2 hb.size,(hb.block k h2).trans h3⟩
theorem GX.fi (h:GX w W0 wr lab a P n q T M v l K) (e1:w'.heap=wr.heap) (e2:w'.os=wr.os) (e3:w'.tape=wr.tape) (e4:w'.output=wr.output):GX w W0 w' lab a P n q T M v l K:=h.more (ak (z9 _ _) e1 e2 e3 e4)
theorem GX.fD (h:GX w W0 wr lab a P n q T M v l K) (hT:T<=T'):GX w W0 wr lab a P n q T' M v l K:=h.goes fun _ i=>(i.fD hT).goes
theorem GX.i (h:GX w W0 wr lab a P n q T M v l K): ∃labk,ay wr labk a P n q T M:=⟨_,h.choose_spec.1.i⟩
theorem GX.ev (h:GX w W0 wr lab a P n q T M v l K):i7 wr w.heap.size v l:=h.choose_spec.2.1
theorem GX.out (h:GX w W0 wr lab a P n q T M v l K):i7 wr w.heap.size v l/\fF w wr lab a P n q T M v:=by
 obtain⟨labk,A,hv,hk,hK⟩:=h
 exact⟨hv,labk,A.i,A.l,A.f,fun k e=>(hk k e).1⟩
theorem GX.core (h:GX w W0 wr lab a P n q T M v l K):Core wr a P n M.qu M.ag:=by obtain⟨k,i⟩:=h.i;exact i.co
theorem GX.tr (h:GX w W0 wr lab a P n q T M v l K) {x:Nat} (hx:x<n):aY wr a.th (x*10) (M.th x):=by obtain⟨k,i⟩:=h.i;exact i.th.at_ x hx
theorem GX.tok (h:GX w W0 wr lab a P n q T M v l K) {x:Nat} (hx:x<n):(M.th x).ok:=by obtain⟨k,i⟩:=h.i;exact i.th.ok x hx
theorem GX.Bd (h:GX w W0 wr lab a P n q T M v l K) (o:Nat):wr.frozen? ⟨a.th,o,none⟩=false:=by obtain⟨k,i⟩:=h.i;exact i.th.fz o
theorem GX.pc (h:GX w W0 wr lab a P n q T M v l K) {x:Nat} (hx:x<P):fI wr a.pr (x*3) (M.pc x):=by obtain⟨k,i⟩:=h.i;exact i.pc.at_ x hx
theorem GX.wl (h:GX w W0 wr lab a P n q T M v l K):w.heap.size<=wr.heap.size:=by obtain⟨k,A,_⟩:=h;exact A.f.size
theorem GX.told (h:GX w W0 wr lab a P n q T M v l K) {v1:Value} {w1:World} {ev:Ev} (ho:w1.ownsRow w.heap.size 75 6 v1 (l.length+1) (ck l++cG ev)) (hg:wr.grownBy w1 v.ownBlock) (hat:v1.ownBlock=v.ownBlock\/v1.ownBlock=some wr.heap.size):GX w W0 w1 lab a P n q T M v1 (l++[ev]) K:=by
 obtain⟨labk,A,hv,hk,hK⟩:=h
 have hbl: ∀b,b<wr.heap.size->v.ownBlock≠some b->w1.heap[b]? =wr.heap[b]? :=fun b hb hn=>hg.block b hb (fun e=>hn e.symm)
 have hf1:Fr (fun k=>labk k=0/\w.heap.size<=k) wr w1:=⟨hg.os,hg.tape,hg.output,hg.size,fun k hkl hn=>hbl k hkl (fun e=>hn ⟨(hk k e).1,(hv.lt e).2⟩)⟩
 have hz:=A.z
 have hi:ay w1 labk a P n q T M:=A.i.frame hf1 (fun k hk q=>hk q.1) (fun q=>by omega)
 refine⟨labk,⟨hi,⟨A.l.old,hi.lt⟩,A.f.then hf1 (fun k hk q=>by omega),hz⟩,?_,fun k e=> ?_,fun k e=> ?_⟩
 ·unfold i7
  rw[j3,List.length_append]
  exact ho
 ·rcases hat with q|q
  ·exact hk k (q▸e)
  ·rw[q] at e
   injection e with e
   rw[←e]
   refine⟨A.fresh (i8 _),fun q=> ?_⟩
   have:=(hK _ q).2.1
   omega
 ·obtain⟨h1,h2,h3⟩:=hK k e
  exact⟨h1,zW0 h2 hg.size,(hbl k h2 (fun q=>(hk k q).2 e)).trans h3⟩
end
section
variable {W w':World} {labk:Nat->Nat} {a:Ad} {P n q T:Nat} {M:Mc} {pr:Nat}
theorem ay.qI (h:ay W labk a P n q T M) (hp:pr<P) (s:Nat) (hs:s<18446744073709551616):aA W (W.setCell ⟨a.pr,pr*3+1,none⟩ (.int .u64 (s:Int))) labk a P n q T {M with pc:=Gt.au M.pc pr {M.pc pr with s:=s}}:=by
 have h3:Fr (fun k=>labk k=3) W (W.setCell ⟨a.pr,pr*3+1,none⟩ (.int .u64 (s:Int))):=(Fr.refl _ _).setCell (a:=⟨a.pr,_,none⟩) h.lpr _
 exact⟨labk,h.Ci (h.same h3) h3 (h.pc.put ((h.pc.at_ pr hp).Dv s) hs (fun j hj hne=>(h.pc.at_ j hj).ft (vZ hne (by decide)) _) (fun o=>by rw[aP];exact h.pc.fz o)),h.same h3,h3.to (fun k _ hk=>by rw[hk];decide)⟩
theorem ay.wU (h:ay W labk a P n q T M) (hp:pr<P) (m:Bool):aA W (W.setCell ⟨a.pr,pr*3+2,none⟩ (.bool m)) labk a P n q T {M with pc:=Gt.au M.pc pr {M.pc pr with m:=m}}:=by
 have h3:Fr (fun k=>labk k=3) W (W.setCell ⟨a.pr,pr*3+2,none⟩ (.bool m)):=(Fr.refl _ _).setCell (a:=⟨a.pr,_,none⟩) h.lpr _
 exact⟨labk,h.Ci (h.same h3) h3 (h.pc.put ((h.pc.at_ pr hp).Di m) (h.pc.ok pr hp) (fun j hj hne=>(h.pc.at_ j hj).ft (vZ hne (by decide)) _) (fun o=>by rw[aP];exact h.pc.fz o)),h.same h3,h3.to (fun k _ hk=>by rw[hk];decide)⟩
theorem Bp {α:Type} (f:Nat->α) (i:Nat) (u v:α):Gt.au (Gt.au f i u) i v=Gt.au f i v:=by
 funext j
 by_cases e:j=i
 ·rw[e,Gt.aj,Gt.aj]
 ·rw[Gt.af _ _ _ _ e,Gt.af _ _ _ _ e,Gt.af _ _ _ _ e]
def kB (M:Mc) (pr:Nat):Mc:={M with pc:=Gt.au M.pc pr (countP (M.pc pr) M.qu)}
theorem ay.count (h:ay W labk a P n q T M) (hp:pr<P) (hs:(M.pc pr).s+1<18446744073709551616):
  Calls Tryz.prog 85 #[.pointer (some ⟨a.pr,pr*3,none⟩),.int .u64 (M.qu:Int)] W fun e w'=>e= .returned (.tuple #[])/\aA W w' labk a P n q T (kB M pr):=by
 have c1:=(h.pc.at_ pr hp).c1
 have c2:=(h.pc.at_ pr hp).c2
 have fz:=h.pc.fz
 have h1:=h.qI hp ((M.pc pr).s+1) hs
 by_cases hq:(M.pc pr).s+1=M.qu
 ·have h2:aA W (((W.setCell ⟨a.pr,pr*3+1,none⟩ (.int .u64 (((M.pc pr).s+1:Nat):Int))).setCell ⟨a.pr,pr*3+1,none⟩ (.int .u64 0)).setCell ⟨a.pr,pr*3+2,none⟩ (.bool true)) labk a P n q T (kB M pr):=by
   have q1:=(h1.then (fun _ i=>i.qI hp 0 (by decide))).then (fun _ i=>i.wU hp true)
   unfold kB countP
   rw[if_pos hq]
   simp only[Bp,Gt.aj] at q1
   exact q1
  generalize (M.pc pr).s=s at*
  generalize M.qu=qu at*
  have hq':(s:Int)+1=(qu:Int):=by omega
  have hqb:((s:Int)+1==(qu:Int))=true:=by simp[hq']
  have e1:(((s+1:Nat):Int))=(s:Int)+1:=by omega
  rw[e1,hq'] at h2
  have H2:=aa h2
  clear h h1 h2 hq e1
  go_enter Tryz.func85,Tryz.ntmps85
  go_wp2
  go_end0
  exact⟨rfl,H2.out⟩
 ·have h2:aA W (W.setCell ⟨a.pr,pr*3+1,none⟩ (.int .u64 (((M.pc pr).s+1:Nat):Int))) labk a P n q T (kB M pr):=by
   unfold kB countP
   rw[if_neg hq]
   exact h1
  generalize (M.pc pr).s=s at*
  generalize M.qu=qu at*
  have hq': ¬(s:Int)+1=(qu:Int):=by omega
  have hqb:((s:Int)+1==(qu:Int))=false:=by simp[hq']
  have e1:(((s+1:Nat):Int))=(s:Int)+1:=by omega
  rw[e1] at h2
  have H2:=aa h2
  clear h h1 h2 hq e1
  go_enter Tryz.func85,Tryz.ntmps85
  go_wp2
  go_end0
  exact⟨rfl,H2.out⟩
end
def eV (il:Int):Int:=if 0<il then il-1 else il
noncomputable def oR (M:Mc) (p:Nat):Mc:=
 if (M.pc p).r= -1 then M
 else{kB (gi M (M.pc p).r.toNat (M.th (M.pc p).r.toNat).ia (eV (M.th (M.pc p).r.toNat).il)) p with sv:=Cb.dq M.sv (M.th (M.pc p).r.toNat).sv}
noncomputable def Dk (M:Mc) (p:Nat):List Ev:=
 if (M.pc p).r= -1 then []
 else if Cb.zK M.sv (M.th (M.pc p).r.toNat).sv then [⟨12,(p:Int),(M.th (M.pc p).r.toNat).p,(M.th (M.pc p).r.toNat).g,(M.th (M.pc p).r.toNat).sv,0⟩] else []
noncomputable def dj (M:Mc):Nat->Mc
 |0=>M
 |j+1=>oR (dj M j) j
noncomputable def qz (M:Mc):Nat->List Ev
 |0=>[]
 |j+1=>qz M j++Dk (dj M j) j
structure Gh (P n:Nat) (M:Mc):Prop where
 r: ∀p,p<P->(M.pc p).r= -1\/ ∃x:Nat,x<n/\(M.pc p).r=(x:Int)
 s: ∀p,p<P->(M.pc p).s<M.qu
theorem EW (M:Mc) (p j:Nat) (h:j≠p):(oR M p).pc j=M.pc j:=by
 unfold oR
 split
 ·rfl
 ·exact Gt.af _ _ _ _ h
theorem AO (M:Mc): ∀(j i:Nat),j<=i->(dj M j).pc i=M.pc i
 |0,_,_=>rfl
 |j+1,i,h=>(EW _ j i (by omega)).trans (AO M j i (by omega))
theorem Em (M:Mc) (p:Nat):(oR M p).qu=M.qu:=by unfold oR;split<;>rfl
theorem zW (M:Mc): ∀j,(dj M j).qu=M.qu
 |0=>rfl
 |j+1=>(Em _ j).trans (zW M j)
theorem pG (M:Mc): ∀j,(qz M j).length<=j
 |0=>i8 _
 |j+1=>by
  have:=pG M j
  have:(Dk (dj M j) j).length<=1:=by unfold Dk;split<;>(try split)<;>simp
  show(qz M j++Dk (dj M j) j).length<=j+1
  rw[List.length_append]
  omega
section
variable {w:World} {lab:Nat->Nat} {a:Ad} {P n q T:Nat} {M:Mc}
theorem ay.work (h:ay w lab a P n q T M) (hr:Gh P n M):
  Calls Tryz.prog 44 #[.pointer (some ⟨a.m,0,none⟩)] w fun e w'=> ∃v,e= .returned v/\i7 w' w.heap.size v (qz M P)/\fF w w' lab a P n q T (dj M P) v:=by
 have hg0:=GX.start h
 have c3:=h.co.c3
 have hP:=h.hP
 have hqu:=h.hq.1
 have HR:=aa hr
 have HG0:=aa hg0
 obtain⟨i0,hi0,hz0,hz1,hz2⟩:=Cb.info_parts tV
 clear h hr hg0
 go_enter Tryz.func44,Tryz.ntmps44
 go_wp2
 go_loopw [3,14] (fun tv iv wr=> ∃(j:Nat),j<=P/\iv= .int .i64 j/\GX w w wr lab a P n q T (dj M j) tv (qz M j) (fun _=>False)) (fun _ iv _=>P-(RowKit.intOf iv).toNat)
 case atStart=>exact⟨0,by omega,rfl,HG0.out⟩
 case round=>
  obtain⟨j,hj,rfl,hx⟩:=hrel
  have HX:=aa hx
  obtain⟨ad,cap,rfl⟩:=Cb.aE hx.ev
  have d3:=hx.core.c3
  have d4:=hx.core.c4
  have d0:=hx.core.c0
  have d6:=hx.core.c6
  by_cases hjl:j<P
  ·have hjl':(j:Int)<(P:Int):=by omega
   have hpc:=AO M j j (i8 _)
   have hquj:=zW M j
   have hll:=pG M j
   have e0:=(hx.pc hjl).c0
   rw[hpc] at e0
   rcases HR.out.r j hjl with hrn|⟨x,hxn,hrx⟩
   ·rw[hrn] at e0
    have hN:GX w w wr lab a P n q T (dj M (j+1)) (.slice ad (qz M j).length cap) (qz M (j+1)) (fun _=>False):=by
     show GX w w wr lab a P n q T (oR (dj M j) j) _ (qz M j++Dk (dj M j) j) _
     unfold oR Dk
     rw[if_pos (by rw[hpc];exact hrn),if_pos (by rw[hpc];exact hrn),List.append_nil]
     exact hx
    have HN:=aa hN
    clear hN hx hpc hquj hrn
    go_wp2
    go_roundw
    case rel=>exact⟨j+1,by omega,by go_num,HN.out⟩
    case measure=>simp[RowKit.intOf];omega
   ·rw[hrx] at e0
    have hq1:(dj M j).qu=M.qu:=hquj
    obtain⟨t,ht⟩: ∃t,(dj M j).th x=t:=⟨_,rfl⟩
    obtain⟨cb,hcb⟩: ∃cb,Cb.zK (dj M j).sv t.sv=cb:=⟨_,rfl⟩
    have hrt:((dj M j).pc j).r.toNat=x:=by rw[hpc,hrx];simp
    have hrne: ¬((dj M j).pc j).r= -1:=by rw[hpc,hrx];omega
    have HNX:Hid (dj M (j+1)={kB (gi (dj M j) x t.ia (eV t.il)) j with sv:=Cb.dq (dj M j).sv t.sv}/\qz M (j+1)=if cb then qz M j++[⟨12,(j:Int),t.p,t.g,t.sv,0⟩] else qz M j):=by
     refine⟨?_,?_⟩
     ·show oR (dj M j) j=_
      unfold oR
      rw[if_neg hrne,hrt,ht]
     ·show qz M j++Dk (dj M j) j=_
      unfold Dk
      rw[if_neg hrne,hrt,ht,hcb]
      cases cb<;>simp
    have hs1:(M.pc j).s<M.qu:=HR.out.s j hjl
    have hqs:((dj M j).pc j).s+1<18446744073709551616:=by rw[hpc];omega
    have tok:=hx.tok hxn
    rw[ht] at tok
    have htl:eV t.il<9223372036854775808:=by have:=tok.il;unfold eV;split<;>omega
    generalize dj M j=N at*
    generalize qz M j=L at*
    have HT:Hid (∀V,Calls Tryz.prog 84 #[.agg #[.int .i64 t.ia,.int .i64 t.il]] V fun e w'=>e= .returned (.agg #[.int .i64 t.ia,.int .i64 (eV t.il)])/\Below V.heap.size V w'):=fun V=>Ex.pN V t.ia t.il tok.il
    have HF:Hid (∀V,GX w w V lab a P n q T N (.slice ad L.length cap) L (fun _=>False)->GX w w ((V.setCell ⟨a.th,x*10+7,none⟩ (.int .i64 t.ia)).setCell ⟨a.th,x*10+8,none⟩ (.int .i64 (eV t.il))) lab a P n q T (gi N x t.ia (eV t.il)) (.slice ad L.length cap) L (fun _=>False)):=fun V hV=>hV.goes (fun _ i=>i.qO hxn _ _ htl)
    have HC:Hid (∀V,GX w w V lab a P n q T (gi N x t.ia (eV t.il)) (.slice ad L.length cap) L (fun _=>False)->Calls Tryz.prog 85 #[.pointer (some ⟨a.pr,j*3,none⟩),.int .u64 (M.qu:Int)] V fun e w'=>e= .returned (.tuple #[])/\GX w w w' lab a P n q T (kB (gi N x t.ia (eV t.il)) j) (.slice ad L.length cap) L (fun _=>False)):=fun V hV=>hV.call (R:=fun e=>e= .returned (.tuple #[])) (fun _ i=>by rw[←hq1];exact i.count hjl hqs)
    have HCH:Hid (∀V,GX w w V lab a P n q T (kB (gi N x t.ia (eV t.il)) j) (.slice ad L.length cap) L (fun _=>False)->Calls Tryz.prog 86 #[.pointer (some ⟨a.sb,0,none⟩),.int .i64 t.sv] V fun e w'=>(∃c:Int,e= .returned (.tuple #[.bool cb,.int .i64 c]))/\GX w w w' lab a P n q T {kB (gi N x t.ia (eV t.il)) j with sv:=Cb.dq N.sv t.sv} (.slice ad L.length cap) L (fun _=>False)):=fun V hV=>hV.call (R:=fun e=> ∃c:Int,e= .returned (.tuple #[.bool cb,.int .i64 c])) (fun _ i=>(i.EB t.sv).mono (fun e w' hq=>⟨⟨(Cb.gI N.sv t.sv:Int),by have h1:=hq.1;rw[←hcb];exact h1⟩,hq.2⟩))
    have HTX:Hid (∀V (M':Mc) v' l',M'.th=(gi N x t.ia (eV t.il)).th->GX w w V lab a P n q T M' v' l' (fun _=>False)->V.cell? ⟨a.m,0,none⟩=some (.int .u64 (M'.qu:Int))/\V.cell? ⟨a.m,6,none⟩=some (.pointer (some ⟨a.sb,0,none⟩))/\V.cell? ⟨a.th,x*10+5,none⟩=some (.int .i64 t.sv)/\V.cell? ⟨a.th,x*10,none⟩=some (.int .i64 t.p)/\V.cell? ⟨a.th,x*10+1,none⟩=some (.int .u32 (t.g:Int))):=fun V M' v' l' e hV=>by
     have q:=hV.tr hxn
     have e2:M'.th x={t with ia:=t.ia,il:=eV t.il}:=by rw[e];show Gt.au N.th x _ x=_;rw[Gt.aj,ht]
     rw[e2] at q
     exact⟨hV.core.c0,hV.core.c6,q.c5,q.c0,q.c1⟩
    have t7:=(hx.tr hxn).c7
    have t8:=(hx.tr hxn).c8
    rw[ht] at t7 t8
    have Bd:=hx.Bd
    have hxl':(x:Int)<(n:Int):=by omega
    have hqN:(gi N x t.ia (eV t.il)).qu=M.qu:=hq1
    have HQN:=aa hqN
    clear hx hpc hquj hrx hq1 hs1 hqs tok htl ht hcb hrt hrne hqN
    generalize eV t.il=tl at*
    go_upto_region 7 with fail
    go_region
    go_upto_region 10 with (first
     |(go_at_call 84;refine(HT.out _).mono ?_;rintro e w1 ⟨rfl,hb1⟩;have hG1:=HX.out.more (w':=w1) (by refine bt ?_ hb1;exact ak (z9 _ _) rfl rfl rfl rfl);have HG2:=aa (HF.out _ hG1);have u7: ∃u,w1.cell? ⟨a.th,x*10+7,none⟩=some (.int .i64 u):=⟨_,(hG1.tr hxn).c7⟩;have u8: ∃u,w1.cell? ⟨a.th,x*10+8,none⟩=some (.int .i64 u):=⟨_,(hG1.tr hxn).c8⟩;obtain⟨u7,y7⟩:=u7;obtain⟨u8,y8⟩:=u8;have zfz:=hG1.Bd;have z0:=(HTX.out _ _ _ _ rfl HG2.out).1;rw[HQN.out] at z0;clear hG1 hb1)
     |(go_at_call 85;refine(HC.out _ (by exact HG2.out)).mono ?_;rintro e w3 ⟨rfl,hg⟩;have HG3:=aa hg;have hz:=HTX.out _ _ _ _ (by rfl) hg;clear hg))
    obtain⟨z0',z6,z5,zp,zg⟩:=hz
    clear HT HF HC
    go_region_held3 (fun w'=>w'.cell? ⟨a.m,6,none⟩=some (.pointer (some ⟨a.sb,0,none⟩))/\w'.cell? ⟨a.th,x*10+5,none⟩=some (.int .i64 t.sv))
     (first|(have hk:=HTX.out _ _ _ _ (by rfl) HG4.out;exact⟨hk.2.1,hk.2.2.1⟩)|go_keep)
     (first
      |(go_at_call 86;refine(HCH.out _ (by exact GX.fi HG3.out rfl rfl rfl rfl)).mono ?_;rintro e w4 ⟨⟨cc,rfl⟩,hg⟩;have HG4:=aa hg;clear hg))
    rename_i hHeld
    clear hHeld z0 z0' z6 z5 zp zg y7 y8 zfz
    obtain⟨y0',y6,y5,yp,yg⟩:=HTX.out _ _ _ _ (by rfl) HG4.out
    have hnx:=HNX.out
    cases cb with
    |false=>
     have HN:Hid (GX w w w4 lab a P n q T (dj M (j+1)) (.slice ad L.length cap) (qz M (j+1)) (fun _=>False)):=by
      show GX w w w4 lab a P n q T (dj M (j+1)) (.slice ad L.length cap) (qz M (j+1)) (fun _=>False)
      rw[hnx.1,hnx.2]
      exact HG4.out
     clear hnx
     go_wp2
     go_roundw
     case rel=>exact⟨j+1,by omega,by go_num,HN.out⟩
     case measure=>simp[RowKit.intOf];omega
    |true=>
     obtain⟨ev,hev⟩: ∃ev:Ev,(⟨12,(j:Int),t.p,t.g,t.sv,0⟩:Ev)=ev:=⟨_,rfl⟩
     rw[hev] at hnx
     have HN2:Hid (∀V v1,GX w w V lab a P n q T {kB (gi N x t.ia tl) j with sv:=Cb.dq N.sv t.sv} v1 (L++[ev]) (fun _=>False)->GX w w V lab a P n q T (dj M (j+1)) v1 (qz M (j+1)) (fun _=>False)):=fun V v1 hV=>by
      rw[hnx.1,hnx.2]
      exact hV
     have HN4:Hid (∀V v' l',GX w w V lab a P n q T {kB (gi N x t.ia tl) j with sv:=Cb.dq N.sv t.sv} v' l' (fun _=>False)->V.cell? ⟨a.th,x*10+5,none⟩=some (.int .i64 t.sv)/\V.cell? ⟨a.th,x*10,none⟩=some (.int .i64 t.p)/\V.cell? ⟨a.th,x*10+1,none⟩=some (.int .u32 (t.g:Int))):=fun V v' l' hV=>(HTX.out V _ v' l' (by rfl) hV).2.2
     generalize {kB (gi N x t.ia tl) j with sv:=Cb.dq N.sv t.sv}=N4 at*
     clear hnx HNX
     go_upto_region 12 with fail
     have hb1:Below w4.heap.size w4 (w4.alloc (.cells #[.int .i64 12,.int .i64 (j:Int),.int .i64 t.p,.int .u32 (t.g:Int),.int .i64 t.sv,.int .i64 0] 75)).drew:=((z9 _ w4).alloc (i8 _) _).drew
     have h1:=HG4.out.more hb1
     have q5:=kc hb1 y5
     have qp:=kc hb1 yp
     have qg:=kc hb1 yg
     have HNW:Hid (∀i u,(cG ev)[i]? =some u->(w4.alloc (.cells #[.int .i64 12,.int .i64 (j:Int),.int .i64 t.p,.int .u32 (t.g:Int),.int .i64 t.sv,.int .i64 0] 75)).drew.cell? ((⟨w4.heap.size,0,none⟩:Addr).add i)=some u):=by
      rw[←hev]
      exact Cb.jy (w1:=w4) (c:=cG ⟨12,(j:Int),t.p,t.g,t.sv,0⟩) rfl
     generalize hW1:(w4.alloc (.cells #[.int .i64 12,.int .i64 (j:Int),.int .i64 t.p,.int .u32 (t.g:Int),.int .i64 t.sv,.int .i64 0] 75)).drew=W1 at*
     have HW1:=aa hW1
     have HOW:=aa h1.ev
     have HBS:=aa h1.wl
     have HEND:Hid (∀v1 w2,w2.ownsRow w.heap.size 75 6 v1 (L.length+1) (ck L++cG ev)->W1.grownBy w2 (Value.slice ad L.length cap).ownBlock->(v1.ownBlock=(Value.slice ad L.length cap).ownBlock\/v1.ownBlock=some W1.heap.size)->GX w w w2 lab a P n q T N4 v1 (L++[ev]) (fun _=>False)):=fun v1 w2 ho hg hat=>h1.told ho hg hat
     clear hW1 hb1 h1 hev
     refine wp_region_held_drew (S:=(fun w'=>w'.cell? ⟨a.th,x*10+5,none⟩=some (.int .i64 t.sv)/\w'.cell? ⟨a.th,x*10,none⟩=some (.int .i64 t.p)/\w'.cell? ⟨a.th,x*10+1,none⟩=some (.int .u32 (t.g:Int)))) (by kernel_rfl) ?_ (fun hHeld=> ?_)
     ·exact⟨y5,yp,yg⟩
     refine aH 0 (v:= ?_) rfl ?v0 ?_
     case v0=>(intro w hSw;(try dsimp only at hSw);obtain⟨hSa,hSb,hSc⟩:=hSw;go_simp;try with_reducible rfl)
     try simp only[aq]
     refine aH 1 (v:= ?_) rfl ?v1 ?_
     case v1=>(intro w hSw;(try dsimp only at hSw);obtain⟨hSa,hSb,hSc⟩:=hSw;go_simp;try with_reducible rfl)
     try simp only[aq]
     refine aH 2 (v:= ?_) rfl ?v2 ?_
     case v2=>(intro w hSw;(try dsimp only at hSw);obtain⟨hSa,hSb,hSc⟩:=hSw;go_simp;try with_reducible rfl)
     try simp only[aq]
     refine aH 3 (v:= ?_) rfl ?v3 ?_
     case v3=>(intro w hSw;(try dsimp only at hSw);obtain⟨hSa,hSb,hSc⟩:=hSw;go_simp;try with_reducible rfl)
     try simp only[aq]
     refine aH 4 (v:= ?_) rfl ?v4 ?_
     case v4=>(intro w hSw;(try dsimp only at hSw);obtain⟨hSa,hSb,hSc⟩:=hSw;go_simp;try with_reducible rfl)
     try simp only[aq]
     refine aH 5 (v:= ?_) rfl ?v5 ?_
     case v5=>(intro w hSw;(try dsimp only at hSw);obtain⟨hSa,hSb,hSc⟩:=hSw;go_simp;try with_reducible rfl)
     try simp only[aq]
     refine aH 6 (v:= ?_) rfl ?v6 ?_
     case v6=>(intro w hSw;(try dsimp only at hSw);obtain⟨hSa,hSb,hSc⟩:=hSw;go_simp;try with_reducible rfl)
     try simp only[aq]
     refine aH 7 (v:= ?_) rfl ?v7 ?_
     case v7=>(intro w hSw;(try dsimp only at hSw);obtain⟨hSa,hSb,hSc⟩:=hSw;go_simp;try with_reducible rfl)
     try simp only[aq]
     refine aH 8 (v:= ?_) rfl ?v8 ?_
     case v8=>(intro w hSw;(try dsimp only at hSw);obtain⟨hSa,hSb,hSc⟩:=hSw;go_simp;try with_reducible rfl)
     try simp only[aq]
     refine aH 9 (v:= ?_) rfl ?v9 ?_
     case v9=>(intro w hSw;(try dsimp only at hSw);obtain⟨hSa,hSb,hSc⟩:=hSw;go_simp;try with_reducible rfl)
     try simp only[aq]
     refine aH 10 (v:= ?_) rfl ?v10 ?_
     case v10=>(intro w hSw;(try dsimp only at hSw);obtain⟨hSa,hSb,hSc⟩:=hSw;go_simp;try with_reducible rfl)
     try simp only[aq]
     refine bj 11 rfl (fun K hK=> ?_)
     go_simp
     rw[HW1.out]
     refine hK.out _ _ ?_ (fun hHeld=> ?_)
     ·exact⟨q5,qp,qg⟩
     clear hK K
     try simp only[aq]
     refine bj 12 rfl (fun K hK=> ?_)
     refine bQ _ (by rfl) _ _ _ (by rfl) w.heap.size 75 i0 (.agg #[.int .i64 0,.int .i64 0,.int .i64 0,.int .u32 0,.int .i64 0,.int .i64 0]) 6 48 Tryz.underlying38 hi0 hz0 hz1 hz2 rfl (by omega) (.slice ad L.length cap) L.length (ck L) (by rfl) HOW.out ⟨w4.heap.size,0,none⟩ 1 1 (cG ev) (by rfl) rfl HNW.out (fv _) (by unfold maxLen;omega) (by omega) HBS.out ?_
     intro v1 w5 ho1 hg1 hat1
     have hX:=HEND.out _ _ ho1 hg1 hat1
     obtain⟨a1,d1,rfl⟩:=Cb.aE ho1
     have HX2:=aa hX
     clear hX ho1 hg1 hat1
     refine hK.out _ _ ?_ (fun hHeld=> ?_)
     ·exact HN4.out _ _ _ HX2.out
     clear hK K
     try simp only[aq]
     refine aH 13 (v:= ?_) rfl ?v13 ?_
     case v13=>(intro w hSw;(try dsimp only at hSw);obtain⟨hSa,hSb,hSc⟩:=hSw;go_simp;try with_reducible rfl)
     try simp only[aq]
     refine wpAnyH_done (by kernel_rfl) ?_ _
     go_wp2
     go_roundw
     case rel=>exact⟨j+1,by omega,by go_num,HN2.out _ _ HX2.out⟩
     case measure=>simp[RowKit.intOf];omega
  ·have hjP:j=P:=by omega
   have hjl': ¬(j:Int)<(P:Int):=by omega
   subst hjP
   clear hx
   go_wp2
   go_ret
   exact⟨_,rfl,HX.out.out⟩
end
section
variable {w W:World} {lab labk:Nat->Nat} {a:Ad} {P n q T T':Nat} {M M':Mc} {sb pr:Nat} {l l':List Ev} {O:Nat->Prop}
noncomputable def q8 (n:Nat) (M:Mc) (x ar:Nat):Mc:={M with wh:=Wh.gY n M.wh (M.th x).p (Cb.dr M.nw ar)}
noncomputable def fC (n:Nat) (M:Mc) (pr x ar:Nat):Mc:=lS {q8 n M x ar with S:=bP n M.G M.S (M.th x).p (M.th x).g 4} pr (-1)
theorem SG.zq (h:SG w W lab a P n q T M sb pr l O) (hl:l.length<=9000) (hp:pr<P) (x:Nat) (hx:x<n) (ar:Nat) (har:ar<9223372036854775808):
  Calls Tryz.prog 125 #[.pointer (some ⟨sb,0,none⟩),.pointer (some ⟨a.th,x*10,none⟩),.agg #[.int .i64 5,.int .i64 (ar:Int)]] W fun e w'=>e= .returned (.tuple #[])/\SX w W w' lab a P n q T (fC n M pr x ar) sb pr (l++[⟨5,(pr:Int),(M.th x).p,(M.th x).g,5,0⟩]) O:=by
 have hb0:Below W.heap.size W (W.alloc (.cells #[.int .i64 5,.int .i64 (ar:Int)] 64)):=(z9 _ _).alloc (i8 _) _
 have hs0:=h.below hb0
 have h0:=hs0.sx
 have hno: ¬O W.heap.size:=fun q=>by have:=h.lt q;omega
 have HB0:=aa hb0
 have k0:=aT W #[.int .i64 5,.int .i64 (ar:Int)] 64 0 _ rfl
 have k1:=aT W #[.int .i64 5,.int .i64 (ar:Int)] 64 1 _ rfl
 have HKB:Hid (∀V T' M' l',SX w (W.alloc (.cells #[.int .i64 5,.int .i64 (ar:Int)] 64)) V lab a P n q T' M' sb pr l' O->V.cell? ⟨W.heap.size,0,none⟩=some (.int .i64 5)/\V.cell? ⟨W.heap.size,1,none⟩=some (.int .i64 (ar:Int))):=fun V T' M' l' hg=>⟨hg.keep hno k0,hg.keep hno k1⟩
 obtain⟨lk0,i0⟩:=h0.i
 have hnw:=i0.Eh
 have HNW:Hid (∀V,SX w (W.alloc (.cells #[.int .i64 5,.int .i64 (ar:Int)] 64)) V lab a P n q T M sb pr l O->Calls Tryz.prog 22 #[.pointer (some ⟨a.m,0,none⟩)] V fun e w'=>e= .returned (.int .u64 (M.nw:Int))/\w'=V):=fun V hV=>by
  obtain⟨lk,i⟩:=hV.i
  exact i.now
 have HAD:Hid (∀V,Calls Tryz.prog 43 #[.int .u64 (M.nw:Int),.int .u64 (ar:Int)] V fun e w'=>e= .returned (.int .u64 (Cb.dr M.nw ar:Int))/\w'=V):=fun V=>Cb.su M.nw ar V hnw (by omega)
 have HSL:Hid (∀V,SX w (W.alloc (.cells #[.int .i64 5,.int .i64 (ar:Int)] 64)) V lab a P n q T M sb pr l O->Calls Tryz.prog 161 #[.pointer (some ⟨a.wb,0,none⟩),.int .i64 (M.th x).p,.int .u64 (Cb.dr M.nw ar:Int)] V fun e w'=>(∃c:Int,e= .returned (.int .i64 c))/\SX w (W.alloc (.cells #[.int .i64 5,.int .i64 (ar:Int)] 64)) w' lab a P n q T (q8 n M x ar) sb pr l O):=fun V hV=>hV.lift (R:=fun e=> ∃c:Int,e= .returned (.int .i64 c)) (fun _ i=>i.sleep (M.th x).p (Cb.dr M.nw ar) (Cb.pB _ _))
 have HC:Hid (∀V T' M' l',M'.th x=M.th x->SX w (W.alloc (.cells #[.int .i64 5,.int .i64 (ar:Int)] 64)) V lab a P n q T' M' sb pr l' O->V.cell? ⟨sb,0,none⟩=some (.pointer (some ⟨a.m,0,none⟩))/\V.cell? ⟨a.m,9,none⟩=some (.pointer (some ⟨a.wb,0,none⟩))/\V.cell? ⟨a.th,x*10,none⟩=some (.int .i64 (M.th x).p)/\V.cell? ⟨W.heap.size,1,none⟩=some (.int .i64 (ar:Int))):=fun V T' M' l' e hV=>⟨hV.c0,hV.core.c9,by rw[←e];exact(hV.tr hx).c0,(HKB.out V _ _ _ hV).2⟩
 obtain⟨g0,g9,gp,_⟩:=HC.out _ _ _ _ rfl h0
 have H0:=aa h0
 have HR:Hid (∀V,SX w (W.alloc (.cells #[.int .i64 5,.int .i64 (ar:Int)] 64)) V lab a P n q T (q8 n M x ar) sb pr l O->Calls Tryz.prog 158 #[.pointer (some ⟨sb,0,none⟩),.pointer (some ⟨a.th,x*10,none⟩),.agg #[.int .i64 5,.int .i64 (ar:Int)],.int .i64 0] V fun e w'=>e= .returned (.tuple #[])/\SX w (W.alloc (.cells #[.int .i64 5,.int .i64 (ar:Int)] 64)) w' lab a P n q T (q8 n M x ar) sb pr (l++[⟨5,(pr:Int),(M.th x).p,(M.th x).g,5,0⟩]) O):=fun V hV=>hV.mv (by omega) x hx 5 (ar:Int)
 have HLV:Hid (∀V,SX w (W.alloc (.cells #[.int .i64 5,.int .i64 (ar:Int)] 64)) V lab a P n q T (q8 n M x ar) sb pr (l++[⟨5,(pr:Int),(M.th x).p,(M.th x).g,5,0⟩]) O->Calls Tryz.prog 162 #[.pointer (some ⟨sb,0,none⟩),.pointer (some ⟨a.th,x*10,none⟩),.int .i64 4] V fun e w'=>e= .returned (.tuple #[])/\SX w (W.alloc (.cells #[.int .i64 5,.int .i64 (ar:Int)] 64)) w' lab a P n q T (fC n M pr x ar) sb pr (l++[⟨5,(pr:Int),(M.th x).p,(M.th x).g,5,0⟩]) O):=fun V hV=>hV.leave hp x hx 4
 have HC2:=aa (fun V l' hV=>HC.out V T (q8 n M x ar) l' rfl hV)
 have hwr:IntKind.u64.wrap (ar:Int)=(ar:Int):=by rw[IntKind.wrap_u64];omega
 clear h hs0 h0 hb0 hno HC i0
 generalize (M.th x).p=tp at*
 generalize (M.th x).g=tg at*
 generalize fC n M pr x ar=SM at*
 generalize q8 n M x ar=SL at*
 generalize Cb.dr M.nw ar=at_ at*
 generalize M.nw=nw at*
 go_enter Tryz.func125,Tryz.ntmps125
 go_wp2
 go_region_held3 (fun w'=>w'.cell? ⟨sb,0,none⟩=some (.pointer (some ⟨a.m,0,none⟩))/\w'.cell? ⟨a.m,9,none⟩=some (.pointer (some ⟨a.wb,0,none⟩))/\w'.cell? ⟨a.th,x*10,none⟩=some (.int .i64 tp)/\w'.cell? ⟨W.heap.size,1,none⟩=some (.int .i64 (ar:Int)))
  (first|exact HC2.out _ _ HG.out|go_keep)
  (first
   |(go_at_call 161;refine(HSL.out _ (by exact SX.fi H0.out rfl rfl rfl rfl)).mono ?_;rintro e w1 ⟨⟨cc,rfl⟩,hg⟩;have HG:=aa hg;have kb:=HKB.out _ _ _ _ hg;have kb0:=kb.1;have kb1:=kb.2;clear hg kb)
   |(go_at_call 43;refine(HAD.out _).mono ?_;rintro e w3 ⟨rfl,hw⟩;subst hw)
   |(go_at_call 22;refine(HNW.out _ (by exact SX.fi H0.out rfl rfl rfl rfl)).mono ?_;rintro e w3 ⟨rfl,hw⟩;subst hw))
 go_wp2_with (first
  |(go_at_call 158;refine(HR.out _ (by exact SX.fi HG.out rfl rfl rfl rfl)).mono ?_;rintro e w2 ⟨rfl,hg⟩;have HG2:=aa hg;clear hg)
  |(go_at_call 162;refine(HLV.out _ (by exact HG2.out)).mono ?_;rintro e w3 ⟨rfl,hg⟩;have HG3:=aa hg;clear hg))
 go_end0
 exact⟨rfl,HG3.out.ahead HB0.out⟩
end
noncomputable def kM (P n q:Nat) (s:Mc×List Ev) (x:Nat):Mc×List Ev:=
 (ready P n q s.1 x (s.1.th x).pc,s.2++[⟨11,(s.1.th x).pc,(s.1.th x).p,(s.1.th x).g,0,0⟩])
noncomputable def aN (M:Mc):Mc:={M with nw:=max (Cb.dr M.nw 1) M.nw,wh:=Wh.late (max (Cb.dr M.nw 1) M.nw) M.wh}
noncomputable def dV (M:Mc):List Nat:=(Wh.due (max (Cb.dr M.nw 1) M.nw) M.wh).map (·.i)
noncomputable def my (M:Mc):Mc:={M with sv:=M.sv.map (Cb.lL M.nw)}
noncomputable def lu (M:Mc):List Nat:=Cb.gW M.sv M.nw M.sv.length
def jj (i:Nat):Ev:=⟨13,0,0,0,(i:Int),0⟩
noncomputable def mJ (P n q:Nat) (M:Mc):Mc×List Ev:=
 (dV M).foldl (kM P n q) (my (dj (aN M) P),qz (aN M) P++(lu (dj (aN M) P)).map jj)
noncomputable def dM (P n q:Nat) (M:Mc):Mc:=settle (mJ P n q M).1 n
noncomputable def ua (P n q:Nat) (M:Mc):List Ev:=(mJ P n q M).2++[⟨14,0,0,0,0,0⟩]
section
variable {w:World} {lab:Nat->Nat} {a:Ad} {P n q T:Nat} {M:Mc}
theorem zi (k i:Int) (w:World):(Instr.build 75 #[(0,.int .i64 k),(3,.int .i64 i)]).run Tryz.prog w= .ok (.agg #[.int .i64 k,.int .i64 0,.int .i64 0,.int .u32 0,.int .i64 i,.int .i64 0]) w:=run_build w 75 _ _ (by kernel_rfl)
theorem Ac (k p x g:Int) (w:World):(Instr.build 75 #[(0,.int .i64 k),(1,.int .i64 p),(2,.agg #[.int .i64 x,.int .u32 g])]).run Tryz.prog w= .ok (.agg #[.int .i64 k,.int .i64 p,.int .i64 x,.int .u32 g,.int .i64 0,.int .i64 0]) w:=run_build w 75 _ _ (by kernel_rfl)
theorem yy (k:Int) (w:World):(Instr.build 75 #[(0,.int .i64 k)]).run Tryz.prog w= .ok (.agg #[.int .i64 k,.int .i64 0,.int .i64 0,.int .u32 0,.int .i64 0,.int .i64 0]) w:=run_build w 75 _ _ (by kernel_rfl)
end
section
variable {w:World} {lab:Nat->Nat} {a:Ad} {P n q T:Nat} {M:Mc}
def Ro (W:World) (ad:Option Addr) (xs:List Nat) (K:Nat->Prop):Prop:= ∀(j x:Nat),xs[j]? =some x-> ∃rb,ad=some ⟨rb,0,none⟩/\K rb/\W.cell? ⟨rb,j,none⟩=some (.int .i64 (x:Int))
theorem Ro.of {W:World} {base:Nat} {v:Value} {xs:List Nat} {ys:List Value} {m:Nat} (h:W.ownsRow base 3 1 v m ys) (hm:m=xs.length) (hy: ∀(j x:Nat),xs[j]? =some x->ys[j]? =some (.int .i64 (x:Int))): ∃ad cap,v= .slice ad xs.length cap/\Ro W ad xs (fun k=>v.ownBlock=some k):=by
 subst hm
 rcases h with ⟨hl,⟨hv,hz⟩|⟨g,cap,cells,hv,h3,h4,h5⟩⟩
 ·refine⟨none,0,by rw[hv,hz],fun j x hx=> ?_⟩
  have:=(zY0.1 hx).1
  omega
 ·refine⟨some ⟨g,0,none⟩,cap,hv,fun j x hx=>⟨g,rfl,by rw[hv];rfl,?_⟩⟩
  have hu:=hy j x hx
  rw[←h5.2.2.2,List.getElem?_take] at hu
  split at hu
  ·simp only[World.cell?,h4]
   simpa using hu
  ·cases hu
theorem Ro.at {w W0 wr:World} {v:Value} {l:List Ev} {K:Nat->Prop} {ad:Option Addr} {xs:List Nat} (h:Ro W0 ad xs K) {T':Nat} {M':Mc} (g:GX w W0 wr lab a P n q T' M' v l K):Ro wr ad xs K:=fun j x hx=>by
 obtain⟨rb,e,hk,hc⟩:=h j x hx
 obtain⟨labk,A,hv,hk',hK⟩:=g
 exact⟨rb,e,hk,(zZ0 (hK rb hk).2.2).trans hc⟩
theorem tY {β:Type} (f:β->Nat->β) (b:β) {l:List Nat} {j:Nat} {x:Nat} (h:l[j]? =some x):(l.take (j+1)).foldl f b=f ((l.take j).foldl f b) x:=by
 rw[List.take_add_one,h,List.foldl_append];rfl
theorem uk (P n q:Nat): ∀(l:List Nat) (s:Mc×List Ev),(l.foldl (kM P n q) s).2.length=s.2.length+l.length
 |[],s=>rfl
 |x::l,s=>by
  rw[List.foldl_cons,uk P n q l]
  simp[kM]
  omega
theorem ay.tick (h:ay w lab a P n q T M) (hn:n<=12) (hr:Gh P n M) (hT:T+(n+1)*n+n<=1000000000):
  Calls Tryz.prog 16 #[.pointer (some ⟨a.m,0,none⟩)] w fun e w'=> ∃v,e= .returned v/\i7 w' w.heap.size v (ua P n q M)/\fF w w' lab a P n q (T+(n+1)*n+n) (dM P n q M) v:=by
 have hg0:=GX.start h
 have c9:=h.co.c9
 have hP:=h.hP
 have hnw:=h.Eh
 have hadd:=Cb.pB M.nw 1
 have hwf:=h.wh.facts
 have HNW:Hid (∀V,V.heap=w.heap->V.os=w.os->V.tape=w.tape->V.output=w.output->Calls Tryz.prog 22 #[.pointer (some ⟨a.m,0,none⟩)] V fun e w'=>e= .returned (.int .u64 (M.nw:Int))/\w'=V):=fun V e1 e2 e3 e4=>(h.below (ak (z9 _ _) e1 e2 e3 e4)).now
 have HAD:Hid (∀V,Calls Tryz.prog 43 #[.int .u64 (M.nw:Int),.int .u64 1] V fun e w'=>e= .returned (.int .u64 (Cb.dr M.nw 1:Int))/\w'=V):=fun V=>Cb.su M.nw 1 V hnw (by decide)
 have HAV:Hid (∀V,V.heap=w.heap->V.os=w.os->V.tape=w.tape->V.output=w.output->Calls Tryz.prog 42 #[.pointer (some ⟨a.wb,0,none⟩),.int .u64 (Cb.dr M.nw 1:Int)] V fun e w'=> ∃ad cap,e= .returned (.slice ad (dV M).length cap)/\ ∃K,Ro w' ad (dV M) K/\GX w w' w' lab a P n q T (aN M) (.slice none 0 0) [] K):=fun V e1 e2 e3 e4=>by
  have hV:GX w w V lab a P n q T M (.slice none 0 0) [] (fun _=>False):=hg0.fi e1 e2 e3 e4
  refine(hV.DE (T':=T) (M':=aN M) (R:=fun e u w'=>e= .returned u/\w'.ownsRow V.heap.size 3 1 u (Wh.due (max (Cb.dr M.nw 1) M.nw) M.wh).length (Wh.iv (Wh.ai (Wh.due (max (Cb.dr M.nw 1) M.nw) M.wh)))) (fun labk i=>(i.advance hn (Cb.dr M.nw 1) hadd).mono (fun e w' ⟨u,he,ho,hg⟩=>⟨u,⟨he,ho⟩,fun k hk=>⟨(Pi.aw ho hk).1,(Pi.aw ho hk).2.1⟩,hg⟩))).mono ?_
  rintro e w' ⟨u,⟨rfl,ho⟩,hg,_⟩
  obtain⟨ad,cap,rfl,hro⟩:=Ro.of (xs:=dV M) ho (by unfold dV;rw[List.length_map]) (fun j x hx=>by
   unfold dV at hx
   rw[List.getElem?_map] at hx
   unfold Wh.iv Wh.ai
   rw[List.getElem?_map,List.getElem?_map]
   cases hd:(Wh.due (max (Cb.dr M.nw 1) M.nw) M.wh)[j]? with
   |none=>rw[hd] at hx;cases hx
   |some y=>
    rw[hd] at hx
    injection hx with hx
    subst hx
    show some (Value.int .i64 (((y.i+1:Nat):Int)-1))=some (Value.int .i64 ((y.i:Nat):Int))
    rw[show(((y.i+1:Nat):Int)-1)=((y.i:Nat):Int) by omega])
  exact⟨ad,cap,rfl,_,fun j x hx=>(by obtain⟨rb,e,hk,hc⟩:=hro j x hx;exact⟨rb,e,.inr hk,hc⟩),hg⟩
 have hDlt: ∀x∈dV M,x<n:=fun x hx=>by
  unfold dV Wh.due at hx
  obtain⟨y,hy,rfl⟩:=List.mem_map.1 hx
  exact hwf.2.2.1 y (List.mem_filter.1 hy).1
 have hDlen:(dV M).length<=n:=by
  unfold dV Wh.due
  rw[List.length_map]
  exact yX0 (List.length_filter_le _ _) hwf.2.2.2.2.2.1
 have hrA:Gh P n (aN M):=⟨hr.r,hr.s⟩
 obtain⟨i0,hi0,hz0,hz1,hz2⟩:=Cb.info_parts tV
 clear h hg0 hwf hnw hadd
 have HWK:Hid (∀W1 V K,GX w W1 V lab a P n q T (aN M) (.slice none 0 0) [] K->Calls Tryz.prog 44 #[.pointer (some ⟨a.m,0,none⟩)] V fun e w'=> ∃u,e= .returned u/\GX w W1 w' lab a P n q T (dj (aN M) P) u (qz (aN M) P) K):=fun W1 V K hV=>hV.FR (R:=fun e u=>e= .returned u) (fun _ i=>i.work hrA)
 have HNW2:Hid (∀W1 V K u l,GX w W1 V lab a P n q T (dj (aN M) P) u l K->Calls Tryz.prog 22 #[.pointer (some ⟨a.m,0,none⟩)] V fun e w'=>e= .returned (.int .u64 ((dj (aN M) P).nw:Int))/\w'=V):=fun W1 V K u l hV=>by
  obtain⟨lk,i⟩:=hV.i
  exact i.now
 have hlw:=pG (aN M) P
 have HRF:Hid (∀W1 V K u l ad D,Ro W1 ad D K->GX w W1 V lab a P n q T (dj (aN M) P) u l K->Calls Tryz.prog 45 #[.pointer (some ⟨a.sb,0,none⟩),.int .u64 ((dj (aN M) P).nw:Int)] V fun e w'=> ∃ad2 cap2,e= .returned (.slice ad2 (lu (dj (aN M) P)).length cap2)/\ ∃K2,Ro w' ad2 (lu (dj (aN M) P)) K2/\Ro w' ad D K2/\GX w w' w' lab a P n q T (my (dj (aN M) P)) u l K2):=fun W1 V K u l ad D hD hV=>by
  obtain⟨lk,i⟩:=hV.i
  have hnl:=i.Eh
  refine(hV.DE (T':=T) (M':=my (dj (aN M) P)) (R:=fun e u w'=>e= .returned u/\w'.ownsRow V.heap.size 3 1 u (lu (dj (aN M) P)).length (Cb.iW (lu (dj (aN M) P)))) (fun labk i=>(i.D5 (dj (aN M) P).nw hnl).mono (fun e w' ⟨u,he,ho,hg⟩=>⟨u,⟨he,ho⟩,fun k hk=>⟨(Pi.aw ho hk).1,(Pi.aw ho hk).2.1⟩,hg⟩))).mono ?_
  rintro e w' ⟨u2,⟨rfl,ho⟩,hg,hkk⟩
  obtain⟨ad2,cap2,rfl,hro⟩:=Ro.of (xs:=lu (dj (aN M) P)) ho rfl (fun j x hx=>by unfold Cb.iW;rw[List.getElem?_map,hx];rfl)
  refine⟨ad2,cap2,rfl,_,fun j x hx=> ?_,fun j x hx=> ?_,hg⟩
  ·obtain⟨rb,e,hk,hc⟩:=hro j x hx
   exact⟨rb,e,.inr hk,hc⟩
  ·obtain⟨rb,e,hk,hc⟩:=hD j x hx
   exact⟨rb,e,.inl hk,(zZ0 (hkk rb hk)).trans hc⟩
 have hFlen:(lu (dj (aN M) P)).length<=(dj (aN M) P).sv.length:=Cb.mq _ _ _
 have HFL:Hid (∀W1 V K u l M',GX w W1 V lab a P n q T M' u l K->M'.sv.length<=32):=fun W1 V K u l M' hV=>by
  obtain⟨lk,i⟩:=hV.i
  obtain⟨b,v,hp,_⟩:=i.sv
  exact hp.f.len
 obtain⟨SW,hSW⟩: ∃SW,mJ P n q M=SW:=⟨_,rfl⟩
 have HSW:=aa hSW
 unfold mJ at hSW
 have HTM:Hid (dM P n q M=Go.Proofs.YtjlbmmiomfpgiaaGreatDoor.settle SW.1 n/\ua P n q M=SW.2++[⟨14,0,0,0,0,0⟩]):=by
  unfold Hid dM ua
  rw[HSW.out]
  exact⟨rfl,rfl⟩
 rw[HTM.out.1,HTM.out.2]
 clear HSW HTM hrA hr
 have H9:Hid (∀W1 V K u l M',GX w W1 V lab a P n q T M' u l K->V.cell? ⟨a.m,9,none⟩=some (.pointer (some ⟨a.wb,0,none⟩))/\V.cell? ⟨a.m,6,none⟩=some (.pointer (some ⟨a.sb,0,none⟩))):=fun W1 V K u l M' hV=>⟨hV.core.c9,hV.core.c6⟩
 generalize aN M=MA at*
 generalize qz MA P=LW at*
 generalize dj MA P=MW at*
 generalize lu MW=F at*
 generalize dV M=D at*
 generalize my MW=M3 at*
 generalize Cb.dr M.nw 1=nw1 at*
 generalize M.nw=nw0 at*
 generalize MW.nw=nw2 at*
 go_enter Tryz.func16,Tryz.ntmps16
 go_wp2
 go_region_held3 (fun w'=>w'.cell? ⟨a.m,9,none⟩=some (.pointer (some ⟨a.wb,0,none⟩)))
  (first|exact(H9.out _ _ _ _ _ _ HG1.out).1|go_keep)
  (first
   |(go_at_call 42;refine(HAV.out w.drew rfl rfl rfl rfl).mono ?_;rintro e w1 ⟨ad,cap,rfl,K,hro,hg⟩;have HG1:=aa hg;have HRO:=aa hro;clear hg hro)
   |(go_at_call 43;refine(HAD.out _).mono ?_;rintro e w3 ⟨rfl,hw⟩;subst hw)
   |(go_at_call 22;refine(HNW.out w.drew rfl rfl rfl rfl).mono ?_;rintro e w3 ⟨rfl,hw⟩;subst hw))
 rename_i hHeld
 clear hHeld HAV HAD HNW c9
 go_wp2_with (go_at_call 44;refine(HWK.out _ _ _ (by exact GX.fi HG1.out rfl rfl rfl rfl)).mono ?_;rintro e w2 ⟨tv,rfl,hg⟩;have HG2:=aa hg;have d6:=(H9.out _ _ _ _ _ _ hg).2;have hF32:=HFL.out _ _ _ _ _ _ hg;clear hg)
 clear HWK
 go_region_held3 (fun w'=>w'.cell? ⟨a.m,6,none⟩=some (.pointer (some ⟨a.sb,0,none⟩)))
  (first|exact(H9.out _ _ _ _ _ _ HG3.out).2|go_keep)
  (first
   |(go_at_call 45;refine(HRF.out _ _ _ _ _ _ _ HRO.out (by exact GX.fi HG2.out rfl rfl rfl rfl)).mono ?_;rintro e w3 ⟨ad2,cap2,rfl,K2,hro2,hro3,hg⟩;have HG3:=aa hg;have HRF2:=aa hro2;have HRD2:=aa hro3;clear hg hro2 hro3)
   |(go_at_call 22;refine(HNW2.out _ _ _ _ _ (by exact GX.fi HG2.out rfl rfl rfl rfl)).mono ?_;rintro e w4 ⟨rfl,hw⟩;subst hw))
 rename_i hHeld
 clear hHeld HRF HNW2 HRO HG1 HG2 d6 HFL H9
 go_wp2
 go_loopw [4,30] (fun tv iv wr=> ∃(j:Nat),j<=F.length/\iv= .int .i64 j/\GX w w3 wr lab a P n q T M3 tv (LW++(F.take j).map jj) K2) (fun _ iv _=>F.length-(RowKit.intOf iv).toNat)
 case atStart=>exact⟨0,by omega,rfl,by rw[List.take_zero,List.map_nil,List.append_nil];exact HG3.out⟩
 case round=>
  obtain⟨j,hj,rfl,hx⟩:=hrel
  clear HG3
  by_cases hjl:j<F.length
  ·have hjl':(j:Int)<(F.length:Int):=by omega
   obtain⟨x,hxx⟩: ∃x,F[j]? =some x:=⟨F[j],yV0 hjl⟩
   obtain⟨rb,rfl,hrk,hrc⟩:=HRF2.out.at hx j x hxx
   have hlst:LW++(F.take (j+1)).map jj=LW++(F.take j).map jj++[jj x]:=by rw[List.take_add_one,hxx];simp
   rw[List.append_assoc] at hlst
   have HLST:Hid (LW++(F.take (j+1)).map jj=(LW++(F.take j).map jj)++[jj x]):=by unfold Hid;rw[hlst,List.append_assoc]
   have hll:(LW++(F.take j).map jj).length<=100:=by rw[List.length_append,List.length_map,List.length_take];omega
   generalize LW++(F.take j).map jj=LJ at*
   obtain⟨at_,ct_,rfl⟩:=Cb.aE hx.ev
   have HGA:=aa (hx.more (aM (z9 _ _) (.cells #[.int .i64 13,.int .i64 0,.int .i64 0,.int .u32 0,.int .i64 (x:Int),.int .i64 0] 75)))
   have hbt:=zi 13
   clear hx hlst
   go_wp2_with (at_builtin;refine wpList_append_own_at _ rfl _ _ 38 rfl w.heap.size 75 i0 (.agg #[.int .i64 0,.int .i64 0,.int .i64 0,.int .u32 0,.int .i64 0,.int .i64 0]) 6 48 Tryz.underlying38 hi0 hz0 hz1 hz2 rfl (by decide) _ _ _ rfl HGA.out.ev ⟨wr.heap.size,0,none⟩ 1 1 (cG (jj x)) rfl rfl (Cb.jy (w1:=wr) (c:=cG (jj x)) rfl) (fv _) (by unfold maxLen;omega) (by omega) HGA.out.wl ?_;intro v1 w8 ho1 hg1 _ hat1;obtain⟨a1,d1,rfl⟩:=Cb.aE ho1;have HGT:=aa (HGA.out.told (ev:=(jj x)) ho1 hg1 hat1);clear ho1 hg1 hat1)
   go_roundw
   case rel=>exact⟨j+1,by omega,by go_num,by rw[HLST.out];exact HGT.out⟩
   case measure=>simp[RowKit.intOf];omega
  ·have hjl': ¬(j:Int)<(F.length:Int):=by omega
   rw[List.take_of_length_le (by omega:F.length<=j)] at hx
   have hl0:(LW++F.map jj).length<=100:=by rw[List.length_append,List.length_map];omega
   generalize LW++F.map jj=L0 at*
   have HX:=aa hx
   obtain⟨at_,ct_,rfl⟩:=Cb.aE hx.ev
   have HWL:=aa (fun l:List Nat=>uk P n q l (M3,L0))
   clear hx
   go_wp2
   go_loopw [4,42] (fun tv iv wr=> ∃(j:Nat),j<=D.length/\iv= .int .i64 j/\GX w w3 wr lab a P n q (T+(n+1)*j) ((D.take j).foldl (kM P n q) (M3,L0)).1 tv ((D.take j).foldl (kM P n q) (M3,L0)).2 K2) (fun _ iv _=>D.length-(RowKit.intOf iv).toNat)
   case atStart=>exact⟨0,by omega,rfl,HX.out⟩
   case round=>
    obtain⟨j,hj,rfl,hx⟩:=hrel
    clear HX
    have hwl:=HWL.out (D.take j)
    rw[List.length_take] at hwl
    by_cases hjl2:j<D.length
    ·have hjl2':(j:Int)<(D.length:Int):=by omega
     obtain⟨x,hxx⟩: ∃x,D[j]? =some x:=⟨D[j],yV0 hjl2⟩
     obtain⟨rb,rfl,hrk,hrc⟩:=HRD2.out.at hx j x hxx
     have hxn:=hDlt x (zV0 hxx)
     have HNX:Hid ((D.take (j+1)).foldl (kM P n q) (M3,L0)=kM P n q ((D.take j).foldl (kM P n q) (M3,L0)) x):=tY _ _ hxx
     generalize (D.take j).foldl (kM P n q) (M3,L0)=S at*
     obtain⟨N,LJ⟩:=S
     dsimp only at hx hwl
     have hll:LJ.length<=200:=by have:LJ.length=L0.length+min j D.length:=hwl;omega
     obtain⟨t,ht⟩: ∃t,N.th x=t:=⟨_,rfl⟩
     have hTj:T+(n+1)*j+n<=1000000000:=by have:=Nat.mul_le_mul_left (n+1) (show j<=n by omega);omega
     have HTJ:Hid (T+(n+1)*(j+1)=T+(n+1)*j+n+1):=by unfold Hid;rw[Nat.mul_succ];omega
     generalize T+(n+1)*j=TJ at*
     obtain⟨t0,t1,t2,t3,t4,t5,t6,t7,t8,t9⟩:=hx.tr hxn
     rw[ht] at t0 t1 t2 t3 t4 t5 t6 t7 t8 t9
     have d4:=hx.core.c4
     have hxl':(x:Int)<(n:Int):=by omega
     obtain⟨at_,ct_,rfl⟩:=Cb.aE hx.ev
     have HWK1:Hid (kM P n q (N,LJ) x=(Go.Proofs.YtjlbmmiomfpgiaaGreatDoor.ready P n q N x t.pc,LJ++[⟨11,t.pc,t.p,t.g,0,0⟩])):=by unfold Hid kM;simp only[ht]
     have hgB:=hx.more (aM (z9 _ _) (.cells #[.int .i64 t.p,.int .u32 (t.g:Int),.int .i64 t.pg,.int .u8 (t.lv:Int),.int .u8 (t.lf:Int),.int .i64 t.sv,.int .i64 t.pc,.int .i64 t.ia,.int .i64 t.il,.int .u64 (t.sn:Int)] 111))
     have htb:=aY.new wr t
     have hown: ∀k,(Value.slice at_ LJ.length ct_).ownBlock=some k->k<wr.heap.size:=fun k hk=>(hx.ev.lt hk).1
     have HOWN:=aa hown
     have HRDY:Hid (∀V v' l',GX w w3 V lab a P n q TJ N v' l' K2->Calls Tryz.prog 46 #[.pointer (some ⟨a.m,0,none⟩),.int .i64 (x:Int),.int .i64 t.pc] V fun e w'=>e= .returned (.tuple #[])/\GX w w3 w' lab a P n q (TJ+n+1) (Go.Proofs.YtjlbmmiomfpgiaaGreatDoor.ready P n q N x t.pc) v' l' K2):=fun V v' l' hV=>hV.call (R:=fun e=>e= .returned (.tuple #[])) (fun _ i=>i.goes.ready hTj x hxn t.pc)
     clear hx hwl hown
     go_upto_region 14 with fail
     have hlt:wr.heap.size<(wr.alloc (.cells #[.int .i64 t.p,.int .u32 (t.g:Int),.int .i64 t.pg,.int .u8 (t.lv:Int),.int .u8 (t.lf:Int),.int .i64 t.sv,.int .i64 t.pc,.int .i64 t.ia,.int .i64 t.il,.int .u64 (t.sn:Int)] 111)).heap.size:=by simp
     generalize hB1:wr.alloc (.cells #[.int .i64 t.p,.int .u32 (t.g:Int),.int .i64 t.pg,.int .u8 (t.lv:Int),.int .u8 (t.lf:Int),.int .i64 t.sv,.int .i64 t.pc,.int .i64 t.ia,.int .i64 t.il,.int .u64 (t.sn:Int)] 111)=B1 at*
     obtain⟨ib,hib⟩: ∃ib,wr.heap.size=ib:=⟨_,rfl⟩
     rw[hib] at htb hlt HOWN⊢
     obtain⟨k0,k1,k2,k3,k4,k5,k6,k7,k8,k9⟩:=htb
     have HGA:=aa (hgB.more (aM (z9 _ _) (.cells #[.int .i64 11,.int .i64 t.pc,.int .i64 t.p,.int .u32 (t.g:Int),.int .i64 0,.int .i64 0] 75)))
     have k6':(B1.alloc (.cells #[.int .i64 11,.int .i64 t.pc,.int .i64 t.p,.int .u32 (t.g:Int),.int .i64 0,.int .i64 0] 75)).cell? ⟨ib,0+6,none⟩=some (.int .i64 t.pc):=kc (aM (z9 _ _) _) k6
     have HK6:Hid (∀V,(B1.alloc (.cells #[.int .i64 11,.int .i64 t.pc,.int .i64 t.p,.int .u32 (t.g:Int),.int .i64 0,.int .i64 0] 75)).grownBy V (Value.slice at_ LJ.length ct_).ownBlock->V.cell? ⟨ib,0+6,none⟩=some (.int .i64 t.pc)):=fun V hV=>(zZ0 (hV.block ib (by simp;omega) (fun e=>by have:=HOWN.out ib e.symm;omega))).trans k6'
     have hbt:=Ac 11
     clear hgB hB1 hib k6' hlt t0 t1 t2 t3 t4 t5 t6 t7 t8 t9 d4
     go_wp2_with (first
      |(at_builtin;refine wpList_append_own_at _ rfl _ _ 38 rfl w.heap.size 75 i0 (.agg #[.int .i64 0,.int .i64 0,.int .i64 0,.int .u32 0,.int .i64 0,.int .i64 0]) 6 48 Tryz.underlying38 hi0 hz0 hz1 hz2 rfl (by decide) _ _ _ rfl HGA.out.ev ⟨B1.heap.size,0,none⟩ 1 1 (cG ⟨11,t.pc,t.p,t.g,0,0⟩) rfl rfl (Cb.jy (w1:=B1) (c:=cG ⟨11,t.pc,t.p,t.g,0,0⟩) rfl) (fv _) (by unfold maxLen;omega) (by omega) HGA.out.wl ?_;intro v1 w8 ho1 hg1 _ hat1;obtain⟨a1,d1,rfl⟩:=Cb.aE ho1;have HGT:=aa (HGA.out.told (ev:=⟨11,t.pc,t.p,t.g,0,0⟩) ho1 hg1 hat1);have y6:=HK6.out _ hg1;clear ho1 hg1 hat1)
      |(go_at_call 46;refine(HRDY.out _ _ _ HGT.out).mono ?_;rintro e w9 ⟨rfl,hg⟩;have HG9:=aa hg;clear hg))
     go_roundw
     case rel=>exact⟨j+1,by omega,by go_num,by rw[HNX.out,HTJ.out,HWK1.out];exact HG9.out⟩
     case measure=>simp[RowKit.intOf];omega
    ·have hjl2': ¬(j:Int)<(D.length:Int):=by omega
     rw[List.take_of_length_le (by omega:D.length<=j),hSW] at hx
     have hll:SW.2.length<=200:=by rw[List.take_of_length_le (by omega:D.length<=j),hSW] at hwl;have:SW.2.length=L0.length+min j D.length:=hwl;omega
     have hTj:T+(n+1)*j<=T+(n+1)*n:=by have:=Nat.mul_le_mul_left (n+1) (show j<=n by omega);omega
     have hx':=hx.fD hTj
     obtain⟨at_,ct_,rfl⟩:=Cb.aE hx'.ev
     have HST:=aa (hx'.call (R:=fun e=>e= .returned (.tuple #[])) (fun _ i=>i.goes.settle hT))
     clear hx hx' hwl hTj
     go_upto_region 18 with (go_at_call 40;refine(HST.out).mono ?_;rintro e w9 ⟨rfl,hg⟩;have HG9:=aa hg;clear hg)
     have HGA:=aa (HG9.out.more (aM (z9 _ _) (.cells #[.int .i64 14,.int .i64 0,.int .i64 0,.int .u32 0,.int .i64 0,.int .i64 0] 75)))
     have hbt:=yy 14
     go_wp2_with (at_builtin;refine wpList_append_own_at _ rfl _ _ 38 rfl w.heap.size 75 i0 (.agg #[.int .i64 0,.int .i64 0,.int .i64 0,.int .u32 0,.int .i64 0,.int .i64 0]) 6 48 Tryz.underlying38 hi0 hz0 hz1 hz2 rfl (by decide) _ _ _ rfl HGA.out.ev ⟨w9.heap.size,0,none⟩ 1 1 (cG ⟨14,0,0,0,0,0⟩) rfl rfl (Cb.jy (w1:=w9) (c:=cG ⟨14,0,0,0,0,0⟩) rfl) (fv _) (by unfold maxLen;omega) (by omega) HGA.out.wl ?_;intro v1 w8 ho1 hg1 _ hat1;obtain⟨a1,d1,rfl⟩:=Cb.aE ho1;have HGT:=aa (HGA.out.told (ev:=⟨14,0,0,0,0,0⟩) ho1 hg1 hat1);clear ho1 hg1 hat1)
     go_ret
     exact⟨_,rfl,HGT.out.out⟩
end
end Go.Proofs.YtjlbmmiomfpgiaaGreatDoor
