/- YtdbailcdlngemaaGreatDoorHt: of the texts Ba36 Ba37 Ba38 Ba39 Bf1 Bf2 Bf3 Bf4 Bf5 Bf6 Bf7 Ba40 what is wanted. -/
import Derived.Test.YtdbailcdlngemaaGreatDoorH0
import Derived.Test.YtdbailcdlngemaaGreatDoorHq
import Derived.Deep.Cut
import Derived.Deep.DeepCutAuto
import Derived.Maps.AppendAt
set_option maxHeartbeats 16000000
set_option maxRecDepth 100000
set_option linter.unusedVariables false
set_option linter.unusedSimpArgs false
namespace Go.Proofs.YtdbailcdlngemaaGreatDoor
open Go.RowKit Go.Lib Go.Shelf
attribute [local go_sem ↓] Go.wp_at_zero Go.wp_at_succ
theorem aY {W V:World} (h:Below W.heap.size W V) (o:Obj):Below W.heap.size W (V.alloc o):=h.alloc h.size o
theorem bS {W V:World} (h:Below W.heap.size W V) {b:Nat} (hb:W.heap.size≤b) (o:Nat) (u:Value):Below W.heap.size W (V.setCell ⟨b,o,none⟩ u):=dw h hb u
theorem bM {W V:World} (h:Below W.heap.size W V):Below W.heap.size W V.drew:=ak h rfl rfl rfl rfl
structure Zb (V:World) (b:Nat):Prop where
 c0:V.cell? ⟨b,0,none⟩=some (.int .i64 0)
 c1:V.cell? ⟨b,1,none⟩=some (.int .i64 0)
 f0:V.frozen? ⟨b,0,none⟩=false
 f1:V.frozen? ⟨b,1,none⟩=false
theorem Zb.new (W:World) (t:TypeId):Zb (W.alloc (.cells #[.int .i64 0,.int .i64 0] t)) W.heap.size:=⟨aT _ _ _ 0 _ rfl,aT _ _ _ 1 _ rfl,Gt.aD _ _ _ _,Gt.aD _ _ _ _⟩
theorem Zb.kept {V V':World} {b:Nat} (h:Zb V b) (hb:V'.heap[b]? =V.heap[b]?):Zb V' b:=⟨(World.cell?_of_block hb).trans h.c0,(World.cell?_of_block hb).trans h.c1,(World.frozen?_of_block hb).trans h.f0,(World.frozen?_of_block hb).trans h.f1⟩
theorem Zb.GW {W V w2:World} {t:TypeId} (hv:Below V.heap.size V w2) (hV:V.heap=(W.alloc (.cells #[.int .i64 0,.int .i64 0] t)).heap):Zb w2 W.heap.size∧W.heap.size<w2.heap.size:=by
 have hs:V.heap.size=W.heap.size+1:=by rw[hV];simp
 refine⟨(Zb.new W t).kept ?_,by have:=hv.size;omega⟩
 rw[hv.block _ (by omega),hV]
theorem Zb.GS {W V w2:World} {t t':TypeId} (hv:Below V.heap.size V w2) (hV:V.heap=((W.alloc (.cells #[.int .i64 0,.int .i64 0] t)).alloc (.cells #[.int .i64 0,.int .i64 0] t')).heap):Zb w2 W.heap.size∧Zb w2 (W.heap.size+1)∧W.heap.size+1<w2.heap.size:=by
 have hs:V.heap.size=W.heap.size+1+1:=by rw[hV];simp
 have s1:(W.alloc (.cells #[.int .i64 0,.int .i64 0] t)).heap.size=W.heap.size+1:=by simp
 refine⟨(Zb.new W t).kept ?_,?_,by have:=hv.size;omega⟩
 ·rw[hv.block _ (by omega),hV]
  exact Below.heap_alloc _ _ _ (by omega)
 ·have:=(Zb.new (W.alloc (.cells #[.int .i64 0,.int .i64 0] t)) t').kept (V':=w2) (by rw[hv.block _ (by omega),hV])
  rw[s1] at this
  exact this
structure tk (V:World) (b:Nat) (x y:Int):Prop where
 c0:V.cell? ⟨b,0,none⟩=some (.int .i64 x)
 c1:V.cell? ⟨b,1,none⟩=some (.int .i64 y)
theorem tk.new (V:World) (x y:Int) (t:TypeId):tk (V.alloc (.cells #[.int .i64 x,.int .i64 y] t)) V.heap.size x y:=⟨aT _ _ _ 0 _ rfl,aT _ _ _ 1 _ rfl⟩
theorem tk.kept {V V':World} {b:Nat} {x y:Int} (h:tk V b x y) (hb:V'.heap[b]? =V.heap[b]?):tk V' b x y:=⟨(World.cell?_of_block hb).trans h.c0,(World.cell?_of_block hb).trans h.c1⟩
theorem tk.set {V:World} {b:Nat} (h:Zb V b) (x y:Int):tk ((V.setCell ⟨b,0,none⟩ (.int .i64 x)).setCell ⟨b,1,none⟩ (.int .i64 y)) b x y:=
 ⟨(ax _ (by decide)).trans (Gt.au _ _ _ _ h.c0),Gt.au _ _ _ _ ((ax V (by decide)).trans h.c1)⟩
structure EE (W V:World) (ib nb:Nat) (op ar ia il:Int):Prop where
 dO:Below W.heap.size W V
 i:W.heap.size≤ib∧ib<V.heap.size
 n:W.heap.size≤nb∧nb<V.heap.size
 ne:ib≠nb
 pi:tk V ib op ar
 pn:tk V nb ia il
section
variable {W w2:World} {op ar ia il:Int} {t t':TypeId}
theorem mK (h:Below W.heap.size W w2):EE W ((w2.alloc (.cells #[.int .i64 op,.int .i64 ar] t)).alloc (.cells #[.int .i64 ia,.int .i64 il] t')) w2.heap.size (w2.heap.size+1) op ar ia il:=by
 have hs:=h.size
 have s1:(w2.alloc (.cells #[.int .i64 op,.int .i64 ar] t)).heap.size=w2.heap.size+1:=by simp
 have s2:((w2.alloc (.cells #[.int .i64 op,.int .i64 ar] t)).alloc (.cells #[.int .i64 ia,.int .i64 il] t')).heap.size=w2.heap.size+2:=by simp
 refine⟨aY (aY h _) _,⟨hs,by omega⟩,⟨by omega,by omega⟩,by omega,(tk.new w2 op ar t).kept (Below.heap_alloc _ _ _ (by omega)),?_⟩
 have:=tk.new (w2.alloc (.cells #[.int .i64 op,.int .i64 ar] t)) ia il t'
 rw[s1] at this
 exact this
theorem j5 (h:Below W.heap.size W w2):EE W ((w2.alloc (.cells #[.int .i64 ia,.int .i64 il] t')).alloc (.cells #[.int .i64 op,.int .i64 ar] t)) (w2.heap.size+1) w2.heap.size op ar ia il:=by
 obtain⟨h1,h2,h3,h4,h5,h6⟩:=mK (op:=ia) (ar:=il) (ia:=op) (il:=ar) (t:=t') (t':=t) h
 exact⟨h1,h3,h2,fun e=>h4 e.symm,h6,h5⟩
theorem mC (h:Below W.heap.size W w2) (z:Zb w2 W.heap.size) (hl:W.heap.size<w2.heap.size):EE W (((w2.setCell ⟨W.heap.size,0,none⟩ (.int .i64 op)).setCell ⟨W.heap.size,1,none⟩ (.int .i64 ar)).alloc (.cells #[.int .i64 ia,.int .i64 il] t')) W.heap.size w2.heap.size op ar ia il:=by
 have s1:((w2.setCell ⟨W.heap.size,0,none⟩ (.int .i64 op)).setCell ⟨W.heap.size,1,none⟩ (.int .i64 ar)).heap.size=w2.heap.size:=by simp
 have s2:(((w2.setCell ⟨W.heap.size,0,none⟩ (.int .i64 op)).setCell ⟨W.heap.size,1,none⟩ (.int .i64 ar)).alloc (.cells #[.int .i64 ia,.int .i64 il] t')).heap.size=w2.heap.size+1:=by simp
 refine⟨aY (bS (bS h (Nat.le_refl _) _ _) (Nat.le_refl _) _ _) _,⟨Nat.le_refl _,by omega⟩,⟨by omega,by omega⟩,by omega,(tk.set z op ar).kept (Below.heap_alloc _ _ _ (by omega)),?_⟩
 have:=tk.new ((w2.setCell ⟨W.heap.size,0,none⟩ (.int .i64 op)).setCell ⟨W.heap.size,1,none⟩ (.int .i64 ar)) ia il t'
 rw[s1] at this
 exact this
theorem kC (h:Below W.heap.size W w2) (z:Zb w2 W.heap.size) (hl:W.heap.size<w2.heap.size):EE W (((w2.setCell ⟨W.heap.size,0,none⟩ (.int .i64 ia)).setCell ⟨W.heap.size,1,none⟩ (.int .i64 il)).alloc (.cells #[.int .i64 op,.int .i64 ar] t)) w2.heap.size W.heap.size op ar ia il:=by
 obtain⟨h1,h2,h3,h4,h5,h6⟩:=mC (op:=ia) (ar:=il) (ia:=op) (il:=ar) (t':=t) h z hl
 exact⟨h1,h3,h2,fun e=>h4 e.symm,h6,h5⟩
theorem gB (h:Below W.heap.size W w2) {b c:Nat} (hb:W.heap.size≤b∧b<w2.heap.size) (hc:W.heap.size≤c∧c<w2.heap.size) (hn:b≠c) (z:Zb w2 b) (z':Zb w2 c):EE W ((((w2.setCell ⟨b,0,none⟩ (.int .i64 op)).setCell ⟨b,1,none⟩ (.int .i64 ar)).setCell ⟨c,0,none⟩ (.int .i64 ia)).setCell ⟨c,1,none⟩ (.int .i64 il)) b c op ar ia il:=by
 refine⟨bS (bS (bS (bS h hb.1 _ _) hb.1 _ _) hc.1 _ _) hc.1 _ _,⟨hb.1,by simpa using hb.2⟩,⟨hc.1,by simpa using hc.2⟩,hn,?_,?_⟩
 ·exact(tk.set z op ar).kept ((Below.heap_setCell _ _ _ _ hn).trans (Below.heap_setCell _ _ _ _ hn))
 ·exact tk.set (z'.kept ((Below.heap_setCell _ _ _ _ (fun e=>hn e.symm)).trans (Below.heap_setCell _ _ _ _ (fun e=>hn e.symm)))) ia il
end
section
variable {w W0 W:World} {lab labk:Nat→Nat} {a:Ad} {P n q T:Nat} {M:Mc} {sb pr:Nat} {l:List Ev} {O0:Nat→Prop}
theorem SX.prog (h:SX w W0 W lab a P n q T M sb pr l O0) {g:Nat} {p:Pm} (hg:M.pr[g]? =some p): ∃pb cp ap cap,W.cell? ⟨a.m,2,none⟩=some (.slice (some ⟨pb,0,none⟩) M.pr.length cp)∧W.cell? ⟨pb,g,none⟩=some (.slice ap p.len cap)∧Ex.jW W ap p.len p.O p.R∧Ex.Rt p.len p.O p.R∧g<M.pr.length:=by
 obtain⟨labk,i⟩:=h.i
 obtain⟨v,vs,e2,hps⟩:=i.pg
 obtain⟨ad,cp,rfl⟩:=hps.form
 have hgl:g<M.pr.length:=(List.getElem?_eq_some_iff.1 hg).1
 have hvg:g<vs.length:=by rw[hps.len];exact hgl
 obtain⟨r1,r2⟩:=hps.at_ g p (vs[g]'hvg) hg (List.getElem?_eq_getElem hvg)
 have hmem:p∈M.pr:=List.mem_of_getElem? hg
 have hok:=hps.ok p hmem
 rcases hps.row.2 with ⟨e,e0⟩|⟨pb,cap,cur,e,h0,hg',hrow⟩
 ·omega
 ·injection e with e1 e3 e4
  subst e1 e4
  obtain⟨ap,cap',e5,hprg⟩:=Ex.ir r1
  refine⟨pb,_,ap,cap',e2,?_,hprg,hok,hgl⟩
  have hu:vs[g]? =some (vs[g]'hvg):=List.getElem?_eq_getElem hvg
  rw[e5] at hu
  rw[←hrow.2.2.2,List.getElem?_take] at hu
  split at hu
  ·simp only[World.cell?,hg']
   simpa using hu
  ·cases hu
def Gk (p:Pm) (ia:Int):Int:=Ex.FK true p.len p.O ia
def Ga (p:Pm) (ia:Int):Int:=Ex.FV true p.len p.R ia
def sW (p:Pm) (ia:Int):Int:=Ex.FX true p.len p.O p.R ia
def pU (p:Pm) (ia il:Int):Int:=Ex.E7 true p.len p.O p.R ia il
theorem Bn {W:World} {ap:Option Addr} {cap:Nat} {p:Pm} (hp:Ex.jW W ap p.len p.O p.R) (hr:Ex.Rt p.len p.O p.R) (ia il:Int) (hil: ¬0<il) (V:World) (hb:Below W.heap.size W V):
  Calls Tryz.prog 108 #[.slice ap p.len cap,.agg #[.int .i64 ia,.int .i64 il]] V fun e w'=>e= .returned (.tuple #[.agg #[.int .i64 (Gk p ia),.int .i64 (Ga p ia)],.agg #[.int .i64 (sW p ia),.int .i64 (pU p ia il)],.bool false])∧Below W.heap.size W w'∧Below V.heap.size V w':=
 (Ex.xn V ap p.len cap (by have:=CG hr;omega) p.O p.R (hp.below hb) true ⟨fun _=>hr,fun _=>rfl⟩ ia il hil).mono (fun e w' ⟨he,b⟩=>⟨he,bt hb b,b⟩)
theorem ay.zO (h:ay W labk a P n q T M) {x:Nat} (hx:x<n) (u v:Int) (hv:v<9223372036854775808):
  az W ((W.setCell ⟨a.th,x*10+7,none⟩ (.int .i64 u)).setCell ⟨a.th,x*10+8,none⟩ (.int .i64 v)) labk a P n q T {M with th:=Gt.aw M.th x {M.th x with ia:=u,il:=v}}:=by
 have ok:=h.th.ok x hx
 have hfr:Fr (fun k=>labk k=4) W ((W.setCell ⟨a.th,x*10+7,none⟩ (.int .i64 u)).setCell ⟨a.th,x*10+8,none⟩ (.int .i64 v)):=((Fr.refl _ _).setCell (a:=⟨a.th,_,none⟩) h.lth _).setCell (a:=⟨a.th,_,none⟩) h.lth _
 refine⟨labk,h.AG (h.same hfr) hfr (h.th.put (((h.th.at_ x hx).yp u).yZ v) ⟨ok.g,ok.lv,ok.lf,hv,ok.sn⟩ (fun j hj hne=>((h.th.at_ j hj).je (ox hne (by decide)) _).je (ox hne (by decide)) _) (fun o=>by rw[aH,aH];exact h.th.fz o)),h.same hfr,hfr.to (fun k _ hk=> ?_)⟩
 rw[hk];decide
def lA (M:Mc) (x:Nat) (u v:Int):Mc:={M with th:=Gt.aw M.th x {M.th x with ia:=u,il:=v}}
def uy (ok:Bool):Ending:=if ok then .returned (.tuple #[]) else .panicked iT
theorem SX.Ca (h:SX w W0 W lab a P n q T M sb pr l O0) (hl:l.length≤10000) (hp:pr<P) (x:Nat) (hx:x<n) (hr:(M.pc pr).r=(x:Int)) (g:Nat) (p:Pm) (hg:M.pr[g]? =some p) (hpg:(M.th x).pg=(g:Int)) (op ar ia' il':Int) (hil':il'<9223372036854775808) (bz ok:Bool) (T':Nat) (M':Mc) (l':List Ev)
  (hst: ∀ap cap V,Ex.jW W ap p.len p.O p.R→Ex.Rt p.len p.O p.R→Below W.heap.size W V→Calls Tryz.prog 108 #[.slice ap p.len cap,.agg #[.int .i64 (M.th x).ia,.int .i64 (M.th x).il]] V fun e w'=>e= .returned (.tuple #[.agg #[.int .i64 op,.int .i64 ar],.agg #[.int .i64 ia',.int .i64 il'],.bool bz])∧Below W.heap.size W w'∧Below V.heap.size V w')
  (hbz:bz=true→ok=false∧T'=T∧M'=M∧l'=l++[⟨2,(pr:Int),(M.th x).p,(M.th x).g,0,0⟩])
  (hdo:bz=false→ ∀V O,SG w V lab a P n q T (lA M x ia' il') sb pr l O→Calls Tryz.prog 109 #[.pointer (some ⟨sb,0,none⟩),.pointer (some ⟨a.th,x*10,none⟩),.agg #[.int .i64 op,.int .i64 ar]] V fun e w'=>e=uy ok∧SX w V w' lab a P n q T' M' sb pr l' O):
  Calls Tryz.prog 79 #[.pointer (some ⟨sb,0,none⟩)] W fun e w'=>e=uy ok∧SX w W0 w' lab a P n q T' M' sb pr l' O0:=by
 obtain⟨pb,cp,ap,cap,k2,kg,hprg,hrt,hgl⟩:=h.prog hg
 have hstp:=fun V hb=>hst ap cap V hprg hrt hb
 have HST:=aa hstp
 have hS: ∀V,Below W.heap.size W V→V.cell? ⟨sb,0,none⟩=some (.pointer (some ⟨a.m,0,none⟩))∧V.cell? ⟨sb,2,none⟩=some (.pointer (some ⟨a.pr,pr*3,none⟩))∧V.cell? ⟨a.m,4,none⟩=some (.slice (some ⟨a.th,0,none⟩) n a.xt)∧V.cell? ⟨a.pr,pr*3,none⟩=some (.int .i64 (x:Int))∧V.cell? ⟨a.m,2,none⟩=some (.slice (some ⟨pb,0,none⟩) M.pr.length cp)∧V.cell? ⟨a.th,x*10+2,none⟩=some (.int .i64 (g:Int))∧V.cell? ⟨pb,g,none⟩=some (.slice ap p.len cap)∧V.cell? ⟨a.th,x*10+7,none⟩=some (.int .i64 (M.th x).ia)∧V.cell? ⟨a.th,x*10+8,none⟩=some (.int .i64 (M.th x).il):=fun V hb=>by
  refine⟨kc hb h.c0,kc hb h.c2,kc hb h.core.c4,?_,kc hb k2,?_,kc hb kg,kc hb (h.tr hx).c7,kc hb (h.tr hx).c8⟩
  ·rw[←hr];exact kc hb (h.pc hp).c0
  ·rw[←hpg];exact kc hb (h.tr hx).c2
 have HS:=aa hS
 have HZ:=aa (Below.refl W.heap.size W)
 obtain⟨s0,s1,s2,s3,s4,s5,s6,s7,s8⟩:=hS _ HZ.out
 have HBZ:Hid (bz=true→ok=false∧T'=T∧M'=M∧l'=l++[⟨2,(pr:Int),(M.th x).p,(M.th x).g,0,0⟩]):=hbz
 have HEN:Hid (∀V,Below W.heap.size W V→Calls Tryz.prog 105 #[.pointer (some ⟨sb,0,none⟩),.int .i64 2,.agg #[.int .i64 (M.th x).p,.int .u32 ((M.th x).g:Int)],.int .i64 0] V fun e w'=>e= .panicked iT∧SX w W0 w' lab a P n q T M sb pr (l++[⟨2,(pr:Int),(M.th x).p,(M.th x).g,0,0⟩]) O0):=fun V hb=>(h.more hb).end_ hl 2 (M.th x).p (M.th x).g 0
 have HTH:Hid (∀V,Below W.heap.size W V→V.cell? ⟨a.th,x*10,none⟩=some (.int .i64 (M.th x).p)∧V.cell? ⟨a.th,x*10+1,none⟩=some (.int .u32 ((M.th x).g:Int))∧V.cell? ⟨a.th,x*10+7,none⟩=some (.int .i64 (M.th x).ia)∧V.cell? ⟨a.th,x*10+8,none⟩=some (.int .i64 (M.th x).il)∧ ∀o,V.frozen? ⟨a.th,o,none⟩=false):=fun V hb=>⟨kc hb (h.tr hx).c0,kc hb (h.tr hx).c1,kc hb (h.tr hx).c7,kc hb (h.tr hx).c8,fun o=>(h.more hb).EF o⟩
 have HDO:Hid (bz=false→ ∀V,Below W.heap.size W V→Calls Tryz.prog 109 #[.pointer (some ⟨sb,0,none⟩),.pointer (some ⟨a.th,x*10,none⟩),.agg #[.int .i64 op,.int .i64 ar]] ((V.setCell ⟨a.th,x*10+7,none⟩ (.int .i64 ia')).setCell ⟨a.th,x*10+8,none⟩ (.int .i64 il')) fun e w'=>e=uy ok∧SX w W0 w' lab a P n q T' M' sb pr l' O0):=fun hz V hb=>((h.more hb).goes (fun _ i=>i.zO hx ia' il' hil')).call (R:=fun e=>e=uy ok) (fun O s=>hdo hz _ O s)
 have hthl:a.th<W.heap.size:=World.block_lt_of_cell? W _ (h.tr hx).c0
 have hgl':(g:Int)<(M.pr.length:Int):=by omega
 generalize (M.th x).ia=ia at*
 generalize (M.th x).il=il at*
 generalize (M.th x).p=tp at*
 generalize (M.th x).g=tg at*
 clear hstp hst hprg hrt h hS k2 kg hr hpg hg hbz hdo
 go_enter Tryz.func79,Tryz.ntmps79
 go_wp2
 go_region_held3 (fun w'=>w'.cell? ⟨sb,0,none⟩=some (.pointer (some ⟨a.m,0,none⟩))∧w'.cell? ⟨sb,2,none⟩=some (.pointer (some ⟨a.pr,pr*3,none⟩))∧w'.cell? ⟨a.m,4,none⟩=some (.slice (some ⟨a.th,0,none⟩) n a.xt)∧w'.cell? ⟨a.pr,pr*3,none⟩=some (.int .i64 (x:Int)))
  (go_keep)
  (first|fail)
 rename_i hHeld
 clear hHeld
 go_upto_region 1 with fail
 go_cut [3,4,5] (fun i3 n4 b5 Wc=> ∃ib nb,i3= .pointer (some ⟨ib,0,none⟩)∧n4= .pointer (some ⟨nb,0,none⟩)∧b5= .bool bz∧EE W Wc ib nb op ar ia' il')
 case first=>
  have HS2:Hid (∀V,Below W.heap.size W V→V.cell? ⟨sb,0,none⟩=some (.pointer (some ⟨a.m,0,none⟩))∧V.cell? ⟨a.m,2,none⟩=some (.slice (some ⟨pb,0,none⟩) M.pr.length cp)∧V.cell? ⟨a.th,x*10+2,none⟩=some (.int .i64 (g:Int))∧V.cell? ⟨pb,g,none⟩=some (.slice ap p.len cap)∧V.cell? ⟨a.th,x*10+7,none⟩=some (.int .i64 ia)∧V.cell? ⟨a.th,x*10+8,none⟩=some (.int .i64 il)):=fun V hb=>by
   obtain⟨t0,t1,t2,t3,t4,t5,t6,t7,t8⟩:=HS.out _ hb
   exact⟨t0,t4,t5,t6,t7,t8⟩
  refine wp_region_held_drew (S:=fun w'=>w'.cell? ⟨sb,0,none⟩=some (.pointer (some ⟨a.m,0,none⟩))∧w'.cell? ⟨a.m,2,none⟩=some (.slice (some ⟨pb,0,none⟩) M.pr.length cp)∧w'.cell? ⟨a.th,x*10+2,none⟩=some (.int .i64 (g:Int))∧w'.cell? ⟨pb,g,none⟩=some (.slice ap p.len cap)∧w'.cell? ⟨a.th,x*10+7,none⟩=some (.int .i64 ia)∧w'.cell? ⟨a.th,x*10+8,none⟩=some (.int .i64 il)) (by kernel_rfl) ?_ (fun hHeld=> ?_)
  ·exact HS2.out _ (bM (bM HZ.out))
  refine aE 0 (v:= ?_) rfl ?v0 ?_
  case v0=>(intro w hSw;(try dsimp only at hSw);obtain⟨hSa,hSb,hSc,hSd,hSe,hSf⟩:=hSw;go_simp;try with_reducible rfl)
  try simp only[ao]
  refine aE 1 (v:= ?_) rfl ?v1 ?_
  case v1=>(intro w hSw;(try dsimp only at hSw);obtain⟨hSa,hSb,hSc,hSd,hSe,hSf⟩:=hSw;go_simp;try with_reducible rfl)
  try simp only[ao]
  refine aE 2 (v:= ?_) rfl ?v2 ?_
  case v2=>(intro w hSw;(try dsimp only at hSw);obtain⟨hSa,hSb,hSc,hSd,hSe,hSf⟩:=hSw;go_simp;try with_reducible rfl)
  try simp only[ao]
  refine aE 3 (v:= ?_) rfl ?v3 ?_
  case v3=>(intro w hSw;(try dsimp only at hSw);obtain⟨hSa,hSb,hSc,hSd,hSe,hSf⟩:=hSw;go_simp;try with_reducible rfl)
  try simp only[ao]
  refine aE 4 (v:= ?_) rfl ?v4 ?_
  case v4=>(intro w hSw;(try dsimp only at hSw);obtain⟨hSa,hSb,hSc,hSd,hSe,hSf⟩:=hSw;go_simp;try with_reducible rfl)
  try simp only[ao]
  refine aE 5 (v:= ?_) rfl ?v5 ?_
  case v5=>(intro w hSw;(try dsimp only at hSw);obtain⟨hSa,hSb,hSc,hSd,hSe,hSf⟩:=hSw;go_simp;try with_reducible rfl)
  try simp only[ao]
  refine aE 6 (v:= ?_) rfl ?v6 ?_
  case v6=>(intro w hSw;(try dsimp only at hSw);obtain⟨hSa,hSb,hSc,hSd,hSe,hSf⟩:=hSw;go_simp;try with_reducible rfl)
  try simp only[ao]
  refine aE 7 (v:= ?_) rfl ?v7 ?_
  case v7=>(intro w hSw;(try dsimp only at hSw);obtain⟨hSa,hSb,hSc,hSd,hSe,hSf⟩:=hSw;go_simp;try with_reducible rfl)
  try simp only[ao]
  refine aE 8 (v:= ?_) rfl ?v8 ?_
  case v8=>(intro w hSw;(try dsimp only at hSw);obtain⟨hSa,hSb,hSc,hSd,hSe,hSf⟩:=hSw;go_simp;try with_reducible rfl)
  try simp only[ao]
  refine aE 9 (v:= ?_) rfl ?v9 ?_
  case v9=>(intro w hSw;(try dsimp only at hSw);obtain⟨hSa,hSb,hSc,hSd,hSe,hSf⟩:=hSw;go_simp;try with_reducible rfl)
  try simp only[ao]
  refine aE 10 (v:= ?_) rfl ?v10 ?_
  case v10=>(intro w hSw;(try dsimp only at hSw);obtain⟨hSa,hSb,hSc,hSd,hSe,hSf⟩:=hSw;go_simp;try with_reducible rfl)
  try simp only[ao]
  refine aE 11 (v:= ?_) rfl ?v11 ?_
  case v11=>(intro w hSw;(try dsimp only at hSw);obtain⟨hSa,hSb,hSc,hSd,hSe,hSf⟩:=hSw;go_simp;try with_reducible rfl)
  try simp only[ao]
  refine aE 12 (v:= ?_) rfl ?v12 ?_
  case v12=>(intro w hSw;(try dsimp only at hSw);obtain⟨hSa,hSb,hSc,hSd,hSe,hSf⟩:=hSw;go_simp;try with_reducible rfl)
  try simp only[ao]
  refine aE 13 (v:= ?_) rfl ?v13 ?_
  case v13=>(intro w hSw;(try dsimp only at hSw);obtain⟨hSa,hSb,hSc,hSd,hSe,hSf⟩:=hSw;go_simp;try with_reducible rfl)
  try simp only[ao]
  refine aE 14 (v:= ?_) rfl ?v14 ?_
  case v14=>(intro w hSw;(try dsimp only at hSw);obtain⟨hSa,hSb,hSc,hSd,hSe,hSf⟩:=hSw;go_simp;try with_reducible rfl)
  try simp only[ao]
  refine aE 15 (v:= ?_) rfl ?v15 ?_
  case v15=>(intro w hSw;(try dsimp only at hSw);obtain⟨hSa,hSb,hSc,hSd,hSe,hSf⟩:=hSw;go_simp;try with_reducible rfl)
  try simp only[ao]
  refine aE 16 (v:= ?_) rfl ?v16 ?_
  case v16=>(intro w hSw;(try dsimp only at hSw);obtain⟨hSa,hSb,hSc,hSd,hSe,hSf⟩:=hSw;go_simp;try with_reducible rfl)
  try simp only[ao]
  refine wpAnyH_ready (rs:=[17,22,23]) (by kernel_rfl) (by simp) ?_
  refine AllReadyH.cons rfl (fun K hK=> ?_) (AllReadyH.cons rfl (fun K hK=> ?_) (AllReadyH.cons rfl (fun K hK=> ?_) AllReadyH.nil))
  ·skip
   go_simp
   go_at_call 108
   refine(HST.out _ (by repeat first|exact ak HZ.out rfl rfl rfl rfl|apply aY|apply bM)).mono ?_
   rintro e w2 ⟨rfl,hb,hv⟩
   have hlt:=hb.size
   have HB2:=aa hb
   clear hb hv
   refine hK.out _ _ ?_ (fun hHeld=> ?_)
   ·exact HS2.out _ (by repeat first|exact HB2.out|exact ak HZ.out rfl rfl rfl rfl|apply aY|apply bS|exact Nat.le_refl _|omega|apply bM)
   clear hK K
   try simp only[ao]
   refine aE 18 (v:= ?_) rfl ?v18 ?_
   case v18=>(intro w hSw;(try dsimp only at hSw);obtain⟨hSa,hSb,hSc,hSd,hSe,hSf⟩:=hSw;go_simp;try with_reducible rfl)
   try simp only[ao]
   refine aE 19 (v:= ?_) rfl ?v19 ?_
   case v19=>(intro w hSw;(try dsimp only at hSw);obtain⟨hSa,hSb,hSc,hSd,hSe,hSf⟩:=hSw;go_simp;try with_reducible rfl)
   try simp only[ao]
   refine aE 20 (v:= ?_) rfl ?v20 ?_
   case v20=>(intro w hSw;(try dsimp only at hSw);obtain⟨hSa,hSb,hSc,hSd,hSe,hSf⟩:=hSw;go_simp;try with_reducible rfl)
   try simp only[ao]
   refine aE 21 (v:= ?_) rfl ?v21 ?_
   case v21=>(intro w hSw;(try dsimp only at hSw);obtain⟨hSa,hSb,hSc,hSd,hSe,hSf⟩:=hSw;go_simp;try with_reducible rfl)
   try simp only[ao]
   refine wpAnyH_ready (rs:=[22,23]) (by kernel_rfl) (by simp) ?_
   refine AllReadyH.cons rfl (fun K hK=> ?_) (AllReadyH.cons rfl (fun K hK=> ?_) AllReadyH.nil)
   ·skip
    go_simp
    refine hK.out _ _ ?_ (fun hHeld=> ?_)
    ·exact HS2.out _ (by repeat first|exact HB2.out|exact ak HZ.out rfl rfl rfl rfl|apply aY|apply bS|exact Nat.le_refl _|omega|apply bM)
    clear hK K
    try simp only[ao]
    refine aZ 23 rfl (fun K hK=> ?_)
    go_simp
    refine hK.out _ _ ?_ (fun hHeld=> ?_)
    ·exact HS2.out _ (by repeat first|exact HB2.out|exact ak HZ.out rfl rfl rfl rfl|apply aY|apply bS|exact Nat.le_refl _|omega|apply bM)
    clear hK K
    try simp only[ao]
    refine aZ 24 rfl (fun K hK=> ?_)
    go_simp
    refine hK.out _ _ ?_ (fun hHeld=> ?_)
    ·exact HS2.out _ (by repeat first|exact HB2.out|exact ak HZ.out rfl rfl rfl rfl|apply aY|apply bS|exact Nat.le_refl _|omega|apply bM)
    clear hK K
    try simp only[ao]
    refine aZ 25 rfl (fun K hK=> ?_)
    go_simp
    refine hK.out _ _ ?_ (fun hHeld=> ?_)
    ·exact HS2.out _ (by repeat first|exact HB2.out|exact ak HZ.out rfl rfl rfl rfl|apply aY|apply bS|exact Nat.le_refl _|omega|apply bM)
    clear hK K
    try simp only[ao]
    refine aE 26 (v:= ?_) rfl ?v26 ?_
    case v26=>(intro w hSw;(try dsimp only at hSw);obtain⟨hSa,hSb,hSc,hSd,hSe,hSf⟩:=hSw;go_simp;try with_reducible rfl)
    try simp only[ao]
    refine wpAnyH_done (by kernel_rfl) ?_ _
    go_wp2
    go_meet
    case rel=>
     refine⟨_,_,rfl,rfl,rfl,?_⟩
     first
     |exact mK HB2.out
     |exact j5 HB2.out
     |exact mC HB2.out HZ1.out hlt
     |exact kC HB2.out HZ1.out hlt
     |exact gB HB2.out ⟨by omega,by omega⟩ ⟨by omega,by omega⟩ (by omega) HZ1.out HZ2.out
     |exact gB HB2.out ⟨by omega,by omega⟩ ⟨by omega,by omega⟩ (by omega) HZ2.out HZ1.out
   ·skip
    go_simp
    refine hK.out _ _ ?_ (fun hHeld=> ?_)
    ·exact HS2.out _ (by repeat first|exact HB2.out|exact ak HZ.out rfl rfl rfl rfl|apply aY|apply bS|exact Nat.le_refl _|omega|apply bM)
    clear hK K
    try simp only[ao]
    refine aZ 22 rfl (fun K hK=> ?_)
    go_simp
    refine hK.out _ _ ?_ (fun hHeld=> ?_)
    ·exact HS2.out _ (by repeat first|exact HB2.out|exact ak HZ.out rfl rfl rfl rfl|apply aY|apply bS|exact Nat.le_refl _|omega|apply bM)
    clear hK K
    try simp only[ao]
    refine aZ 24 rfl (fun K hK=> ?_)
    go_simp
    refine hK.out _ _ ?_ (fun hHeld=> ?_)
    ·exact HS2.out _ (by repeat first|exact HB2.out|exact ak HZ.out rfl rfl rfl rfl|apply aY|apply bS|exact Nat.le_refl _|omega|apply bM)
    clear hK K
    try simp only[ao]
    refine aZ 25 rfl (fun K hK=> ?_)
    go_simp
    refine hK.out _ _ ?_ (fun hHeld=> ?_)
    ·exact HS2.out _ (by repeat first|exact HB2.out|exact ak HZ.out rfl rfl rfl rfl|apply aY|apply bS|exact Nat.le_refl _|omega|apply bM)
    clear hK K
    try simp only[ao]
    refine aE 26 (v:= ?_) rfl ?v26 ?_
    case v26=>(intro w hSw;(try dsimp only at hSw);obtain⟨hSa,hSb,hSc,hSd,hSe,hSf⟩:=hSw;go_simp;try with_reducible rfl)
    try simp only[ao]
    refine wpAnyH_done (by kernel_rfl) ?_ _
    go_wp2
    go_meet
    case rel=>
     refine⟨_,_,rfl,rfl,rfl,?_⟩
     first
     |exact mK HB2.out
     |exact j5 HB2.out
     |exact mC HB2.out HZ1.out hlt
     |exact kC HB2.out HZ1.out hlt
     |exact gB HB2.out ⟨by omega,by omega⟩ ⟨by omega,by omega⟩ (by omega) HZ1.out HZ2.out
     |exact gB HB2.out ⟨by omega,by omega⟩ ⟨by omega,by omega⟩ (by omega) HZ2.out HZ1.out
  ·skip
   go_simp
   refine hK.out _ _ ?_ (fun hHeld=> ?_)
   ·exact HS2.out _ (by repeat first|exact HB2.out|exact ak HZ.out rfl rfl rfl rfl|apply aY|apply bS|exact Nat.le_refl _|omega|apply bM)
   clear hK K
   try simp only[ao]
   refine wpAnyH_ready (rs:=[17,23]) (by kernel_rfl) (by simp) ?_
   refine AllReadyH.cons rfl (fun K hK=> ?_) (AllReadyH.cons rfl (fun K hK=> ?_) AllReadyH.nil)
   ·skip
    go_simp
    go_at_call 108
    refine(HST.out _ (by repeat first|exact ak HZ.out rfl rfl rfl rfl|apply aY|apply bM)).mono ?_
    rintro e w2 ⟨rfl,hb,hv⟩
    obtain⟨z1,hlt⟩:=Zb.GW (W:=W) (t:=48) hv rfl
    have HZ1:=aa z1
    have z1a:=fun o=>z1.kept (V':=w2.alloc o) (Below.heap_alloc _ _ _ hlt)
    obtain⟨q0,q1,f0,f1⟩:=z1
    have r0:=fun o=>(z1a o).c0
    have r1:=fun o=>(z1a o).c1
    have g0:=fun o=>(z1a o).f0
    have g1:=fun o=>(z1a o).f1
    have n1: ¬W.heap.size=w2.heap.size:=by omega
    have n2: ¬w2.heap.size=W.heap.size:=by omega
    clear z1a
    have HB2:=aa hb
    clear hb hv
    refine hK.out _ _ ?_ (fun hHeld=> ?_)
    ·exact HS2.out _ (by repeat first|exact HB2.out|exact ak HZ.out rfl rfl rfl rfl|apply aY|apply bS|exact Nat.le_refl _|omega|apply bM)
    clear hK K
    try simp only[ao]
    refine aE 18 (v:= ?_) rfl ?v18 ?_
    case v18=>(intro w hSw;(try dsimp only at hSw);obtain⟨hSa,hSb,hSc,hSd,hSe,hSf⟩:=hSw;go_simp;try with_reducible rfl)
    try simp only[ao]
    refine aE 19 (v:= ?_) rfl ?v19 ?_
    case v19=>(intro w hSw;(try dsimp only at hSw);obtain⟨hSa,hSb,hSc,hSd,hSe,hSf⟩:=hSw;go_simp;try with_reducible rfl)
    try simp only[ao]
    refine aE 20 (v:= ?_) rfl ?v20 ?_
    case v20=>(intro w hSw;(try dsimp only at hSw);obtain⟨hSa,hSb,hSc,hSd,hSe,hSf⟩:=hSw;go_simp;try with_reducible rfl)
    try simp only[ao]
    refine aE 21 (v:= ?_) rfl ?v21 ?_
    case v21=>(intro w hSw;(try dsimp only at hSw);obtain⟨hSa,hSb,hSc,hSd,hSe,hSf⟩:=hSw;go_simp;try with_reducible rfl)
    try simp only[ao]
    refine aZ 23 rfl (fun K hK=> ?_)
    go_simp
    refine hK.out _ _ ?_ (fun hHeld=> ?_)
    ·exact HS2.out _ (by repeat first|exact HB2.out|exact ak HZ.out rfl rfl rfl rfl|apply aY|apply bS|exact Nat.le_refl _|omega|apply bM)
    clear hK K
    try simp only[ao]
    refine aZ 24 rfl (fun K hK=> ?_)
    go_simp
    refine hK.out _ _ ?_ (fun hHeld=> ?_)
    ·exact HS2.out _ (by repeat first|exact HB2.out|exact ak HZ.out rfl rfl rfl rfl|apply aY|apply bS|exact Nat.le_refl _|omega|apply bM)
    clear hK K
    try simp only[ao]
    refine aZ 25 rfl (fun K hK=> ?_)
    go_simp
    refine hK.out _ _ ?_ (fun hHeld=> ?_)
    ·exact HS2.out _ (by repeat first|exact HB2.out|exact ak HZ.out rfl rfl rfl rfl|apply aY|apply bS|exact Nat.le_refl _|omega|apply bM)
    clear hK K
    try simp only[ao]
    refine aE 26 (v:= ?_) rfl ?v26 ?_
    case v26=>(intro w hSw;(try dsimp only at hSw);obtain⟨hSa,hSb,hSc,hSd,hSe,hSf⟩:=hSw;go_simp;try with_reducible rfl)
    try simp only[ao]
    refine wpAnyH_done (by kernel_rfl) ?_ _
    go_wp2
    go_meet
    case rel=>
     refine⟨_,_,rfl,rfl,rfl,?_⟩
     first
     |exact mK HB2.out
     |exact j5 HB2.out
     |exact mC HB2.out HZ1.out hlt
     |exact kC HB2.out HZ1.out hlt
     |exact gB HB2.out ⟨by omega,by omega⟩ ⟨by omega,by omega⟩ (by omega) HZ1.out HZ2.out
     |exact gB HB2.out ⟨by omega,by omega⟩ ⟨by omega,by omega⟩ (by omega) HZ2.out HZ1.out
   ·skip
    go_simp
    refine hK.out _ _ ?_ (fun hHeld=> ?_)
    ·exact HS2.out _ (by repeat first|exact HB2.out|exact ak HZ.out rfl rfl rfl rfl|apply aY|apply bS|exact Nat.le_refl _|omega|apply bM)
    clear hK K
    try simp only[ao]
    refine aZ 17 rfl (fun K hK=> ?_)
    go_simp
    go_at_call 108
    refine(HST.out _ (by repeat first|exact ak HZ.out rfl rfl rfl rfl|apply aY|apply bM)).mono ?_
    rintro e w2 ⟨rfl,hb,hv⟩
    obtain⟨z1,z2,hlt⟩:=Zb.GS (W:=W) (t:=48) (t':=170) hv rfl
    have HZ1:=aa z1
    have HZ2:=aa z2
    obtain⟨q0,q1,f0,f1⟩:=z1
    obtain⟨q2,q3,f2,f3⟩:=z2
    have HB2:=aa hb
    clear hb hv
    refine hK.out _ _ ?_ (fun hHeld=> ?_)
    ·exact HS2.out _ (by repeat first|exact HB2.out|exact ak HZ.out rfl rfl rfl rfl|apply aY|apply bS|exact Nat.le_refl _|omega|apply bM)
    clear hK K
    try simp only[ao]
    refine aE 18 (v:= ?_) rfl ?v18 ?_
    case v18=>(intro w hSw;(try dsimp only at hSw);obtain⟨hSa,hSb,hSc,hSd,hSe,hSf⟩:=hSw;go_simp;try with_reducible rfl)
    try simp only[ao]
    refine aE 19 (v:= ?_) rfl ?v19 ?_
    case v19=>(intro w hSw;(try dsimp only at hSw);obtain⟨hSa,hSb,hSc,hSd,hSe,hSf⟩:=hSw;go_simp;try with_reducible rfl)
    try simp only[ao]
    refine aE 20 (v:= ?_) rfl ?v20 ?_
    case v20=>(intro w hSw;(try dsimp only at hSw);obtain⟨hSa,hSb,hSc,hSd,hSe,hSf⟩:=hSw;go_simp;try with_reducible rfl)
    try simp only[ao]
    refine aE 21 (v:= ?_) rfl ?v21 ?_
    case v21=>(intro w hSw;(try dsimp only at hSw);obtain⟨hSa,hSb,hSc,hSd,hSe,hSf⟩:=hSw;go_simp;try with_reducible rfl)
    try simp only[ao]
    refine aZ 24 rfl (fun K hK=> ?_)
    go_simp
    refine hK.out _ _ ?_ (fun hHeld=> ?_)
    ·exact HS2.out _ (by repeat first|exact HB2.out|exact ak HZ.out rfl rfl rfl rfl|apply aY|apply bS|exact Nat.le_refl _|omega|apply bM)
    clear hK K
    try simp only[ao]
    refine aZ 25 rfl (fun K hK=> ?_)
    go_simp
    refine hK.out _ _ ?_ (fun hHeld=> ?_)
    ·exact HS2.out _ (by repeat first|exact HB2.out|exact ak HZ.out rfl rfl rfl rfl|apply aY|apply bS|exact Nat.le_refl _|omega|apply bM)
    clear hK K
    try simp only[ao]
    refine aE 26 (v:= ?_) rfl ?v26 ?_
    case v26=>(intro w hSw;(try dsimp only at hSw);obtain⟨hSa,hSb,hSc,hSd,hSe,hSf⟩:=hSw;go_simp;try with_reducible rfl)
    try simp only[ao]
    refine wpAnyH_done (by kernel_rfl) ?_ _
    go_wp2
    go_meet
    case rel=>
     refine⟨_,_,rfl,rfl,rfl,?_⟩
     first
     |exact mK HB2.out
     |exact j5 HB2.out
     |exact mC HB2.out HZ1.out hlt
     |exact kC HB2.out HZ1.out hlt
     |exact gB HB2.out ⟨by omega,by omega⟩ ⟨by omega,by omega⟩ (by omega) HZ1.out HZ2.out
     |exact gB HB2.out ⟨by omega,by omega⟩ ⟨by omega,by omega⟩ (by omega) HZ2.out HZ1.out
  ·skip
   go_simp
   refine hK.out _ _ ?_ (fun hHeld=> ?_)
   ·exact HS2.out _ (by repeat first|exact HB2.out|exact ak HZ.out rfl rfl rfl rfl|apply aY|apply bS|exact Nat.le_refl _|omega|apply bM)
   clear hK K
   try simp only[ao]
   refine wpAnyH_ready (rs:=[17,22]) (by kernel_rfl) (by simp) ?_
   refine AllReadyH.cons rfl (fun K hK=> ?_) (AllReadyH.cons rfl (fun K hK=> ?_) AllReadyH.nil)
   ·skip
    go_simp
    go_at_call 108
    refine(HST.out _ (by repeat first|exact ak HZ.out rfl rfl rfl rfl|apply aY|apply bM)).mono ?_
    rintro e w2 ⟨rfl,hb,hv⟩
    obtain⟨z1,hlt⟩:=Zb.GW (W:=W) (t:=170) hv rfl
    have HZ1:=aa z1
    have z1a:=fun o=>z1.kept (V':=w2.alloc o) (Below.heap_alloc _ _ _ hlt)
    obtain⟨q0,q1,f0,f1⟩:=z1
    have r0:=fun o=>(z1a o).c0
    have r1:=fun o=>(z1a o).c1
    have g0:=fun o=>(z1a o).f0
    have g1:=fun o=>(z1a o).f1
    have n1: ¬W.heap.size=w2.heap.size:=by omega
    have n2: ¬w2.heap.size=W.heap.size:=by omega
    clear z1a
    have HB2:=aa hb
    clear hb hv
    refine hK.out _ _ ?_ (fun hHeld=> ?_)
    ·exact HS2.out _ (by repeat first|exact HB2.out|exact ak HZ.out rfl rfl rfl rfl|apply aY|apply bS|exact Nat.le_refl _|omega|apply bM)
    clear hK K
    try simp only[ao]
    refine aE 18 (v:= ?_) rfl ?v18 ?_
    case v18=>(intro w hSw;(try dsimp only at hSw);obtain⟨hSa,hSb,hSc,hSd,hSe,hSf⟩:=hSw;go_simp;try with_reducible rfl)
    try simp only[ao]
    refine aE 19 (v:= ?_) rfl ?v19 ?_
    case v19=>(intro w hSw;(try dsimp only at hSw);obtain⟨hSa,hSb,hSc,hSd,hSe,hSf⟩:=hSw;go_simp;try with_reducible rfl)
    try simp only[ao]
    refine aE 20 (v:= ?_) rfl ?v20 ?_
    case v20=>(intro w hSw;(try dsimp only at hSw);obtain⟨hSa,hSb,hSc,hSd,hSe,hSf⟩:=hSw;go_simp;try with_reducible rfl)
    try simp only[ao]
    refine aE 21 (v:= ?_) rfl ?v21 ?_
    case v21=>(intro w hSw;(try dsimp only at hSw);obtain⟨hSa,hSb,hSc,hSd,hSe,hSf⟩:=hSw;go_simp;try with_reducible rfl)
    try simp only[ao]
    refine aZ 22 rfl (fun K hK=> ?_)
    go_simp
    refine hK.out _ _ ?_ (fun hHeld=> ?_)
    ·exact HS2.out _ (by repeat first|exact HB2.out|exact ak HZ.out rfl rfl rfl rfl|apply aY|apply bS|exact Nat.le_refl _|omega|apply bM)
    clear hK K
    try simp only[ao]
    refine aZ 24 rfl (fun K hK=> ?_)
    go_simp
    refine hK.out _ _ ?_ (fun hHeld=> ?_)
    ·exact HS2.out _ (by repeat first|exact HB2.out|exact ak HZ.out rfl rfl rfl rfl|apply aY|apply bS|exact Nat.le_refl _|omega|apply bM)
    clear hK K
    try simp only[ao]
    refine aZ 25 rfl (fun K hK=> ?_)
    go_simp
    refine hK.out _ _ ?_ (fun hHeld=> ?_)
    ·exact HS2.out _ (by repeat first|exact HB2.out|exact ak HZ.out rfl rfl rfl rfl|apply aY|apply bS|exact Nat.le_refl _|omega|apply bM)
    clear hK K
    try simp only[ao]
    refine aE 26 (v:= ?_) rfl ?v26 ?_
    case v26=>(intro w hSw;(try dsimp only at hSw);obtain⟨hSa,hSb,hSc,hSd,hSe,hSf⟩:=hSw;go_simp;try with_reducible rfl)
    try simp only[ao]
    refine wpAnyH_done (by kernel_rfl) ?_ _
    go_wp2
    go_meet
    case rel=>
     refine⟨_,_,rfl,rfl,rfl,?_⟩
     first
     |exact mK HB2.out
     |exact j5 HB2.out
     |exact mC HB2.out HZ1.out hlt
     |exact kC HB2.out HZ1.out hlt
     |exact gB HB2.out ⟨by omega,by omega⟩ ⟨by omega,by omega⟩ (by omega) HZ1.out HZ2.out
     |exact gB HB2.out ⟨by omega,by omega⟩ ⟨by omega,by omega⟩ (by omega) HZ2.out HZ1.out
   ·skip
    go_simp
    refine hK.out _ _ ?_ (fun hHeld=> ?_)
    ·exact HS2.out _ (by repeat first|exact HB2.out|exact ak HZ.out rfl rfl rfl rfl|apply aY|apply bS|exact Nat.le_refl _|omega|apply bM)
    clear hK K
    try simp only[ao]
    refine aZ 17 rfl (fun K hK=> ?_)
    go_simp
    go_at_call 108
    refine(HST.out _ (by repeat first|exact ak HZ.out rfl rfl rfl rfl|apply aY|apply bM)).mono ?_
    rintro e w2 ⟨rfl,hb,hv⟩
    obtain⟨z1,z2,hlt⟩:=Zb.GS (W:=W) (t:=170) (t':=48) hv rfl
    have HZ1:=aa z1
    have HZ2:=aa z2
    obtain⟨q0,q1,f0,f1⟩:=z1
    obtain⟨q2,q3,f2,f3⟩:=z2
    have HB2:=aa hb
    clear hb hv
    refine hK.out _ _ ?_ (fun hHeld=> ?_)
    ·exact HS2.out _ (by repeat first|exact HB2.out|exact ak HZ.out rfl rfl rfl rfl|apply aY|apply bS|exact Nat.le_refl _|omega|apply bM)
    clear hK K
    try simp only[ao]
    refine aE 18 (v:= ?_) rfl ?v18 ?_
    case v18=>(intro w hSw;(try dsimp only at hSw);obtain⟨hSa,hSb,hSc,hSd,hSe,hSf⟩:=hSw;go_simp;try with_reducible rfl)
    try simp only[ao]
    refine aE 19 (v:= ?_) rfl ?v19 ?_
    case v19=>(intro w hSw;(try dsimp only at hSw);obtain⟨hSa,hSb,hSc,hSd,hSe,hSf⟩:=hSw;go_simp;try with_reducible rfl)
    try simp only[ao]
    refine aE 20 (v:= ?_) rfl ?v20 ?_
    case v20=>(intro w hSw;(try dsimp only at hSw);obtain⟨hSa,hSb,hSc,hSd,hSe,hSf⟩:=hSw;go_simp;try with_reducible rfl)
    try simp only[ao]
    refine aE 21 (v:= ?_) rfl ?v21 ?_
    case v21=>(intro w hSw;(try dsimp only at hSw);obtain⟨hSa,hSb,hSc,hSd,hSe,hSf⟩:=hSw;go_simp;try with_reducible rfl)
    try simp only[ao]
    refine aZ 24 rfl (fun K hK=> ?_)
    go_simp
    refine hK.out _ _ ?_ (fun hHeld=> ?_)
    ·exact HS2.out _ (by repeat first|exact HB2.out|exact ak HZ.out rfl rfl rfl rfl|apply aY|apply bS|exact Nat.le_refl _|omega|apply bM)
    clear hK K
    try simp only[ao]
    refine aZ 25 rfl (fun K hK=> ?_)
    go_simp
    refine hK.out _ _ ?_ (fun hHeld=> ?_)
    ·exact HS2.out _ (by repeat first|exact HB2.out|exact ak HZ.out rfl rfl rfl rfl|apply aY|apply bS|exact Nat.le_refl _|omega|apply bM)
    clear hK K
    try simp only[ao]
    refine aE 26 (v:= ?_) rfl ?v26 ?_
    case v26=>(intro w hSw;(try dsimp only at hSw);obtain⟨hSa,hSb,hSc,hSd,hSe,hSf⟩:=hSw;go_simp;try with_reducible rfl)
    try simp only[ao]
    refine wpAnyH_done (by kernel_rfl) ?_ _
    go_wp2
    go_meet
    case rel=>
     refine⟨_,_,rfl,rfl,rfl,?_⟩
     first
     |exact mK HB2.out
     |exact j5 HB2.out
     |exact mC HB2.out HZ1.out hlt
     |exact kC HB2.out HZ1.out hlt
     |exact gB HB2.out ⟨by omega,by omega⟩ ⟨by omega,by omega⟩ (by omega) HZ1.out HZ2.out
     |exact gB HB2.out ⟨by omega,by omega⟩ ⟨by omega,by omega⟩ (by omega) HZ2.out HZ1.out
 case rest=>
  obtain⟨ib,nb,rfl,rfl,rfl,hbx⟩:=hcut
  have hbel:=hbx.dO
  have HBL:=aa hbel
  obtain⟨v0,v1,v7,v8,vf⟩:=HTH.out _ hbel
  have i0:=hbx.pi.c0
  have i1:=hbx.pi.c1
  have m0:=hbx.pn.c0
  have m1:=hbx.pn.c1
  have hib:=hbx.i
  have hnb:=hbx.n
  have e1: ¬a.th=ib:=by omega
  have e2: ¬ib=a.th:=by omega
  clear hbel hbx HS HST HTH
  cases bz with
  |true=>
   obtain⟨rfl,rfl,rfl,rfl⟩:=HBZ.out rfl
   go_wp2_with (go_at_call 105;refine(HEN.out _ (by exact HBL.out)).mono ?_;rintro e w3 ⟨rfl,hg3⟩;have HG3:=aa hg3;clear hg3)
   simp[bodyPost]
   exact⟨rfl,HG3.out⟩
  |false=>
   have hd:=HDO.out rfl _ HBL.out
   have HD:=aa hd
   clear hd HBZ HEN HDO
   cases ok with
   |true=>
    go_wp2_with (go_at_call 109;refine(HD.out).mono ?_;rintro e w3 ⟨he,hg3⟩;obtain rfl:e= .returned (.tuple #[]):=he;have HG3:=aa hg3;clear hg3)
    go_end0
    exact⟨rfl,HG3.out⟩
   |false=>
    go_wp2_with (go_at_call 109;refine(HD.out).mono ?_;rintro e w3 ⟨he,hg3⟩;obtain rfl:e= .panicked iT:=he;have HG3:=aa hg3;clear hg3)
    simp[bodyPost]
    exact⟨rfl,HG3.out⟩
end
section
variable {w W:World} {lab labk:Nat→Nat} {a:Ad} {P n q T T':Nat} {M M':Mc} {sb pr:Nat} {l l':List Ev} {O:Nat→Prop}
theorem SG.Fh (h:SG w W lab a P n q T M sb pr l O) (hl:l.length≤9000) (x:Nat) (hx:x<n) (op ar:Int) (h2:op≠2) (h3:op≠3) (h4:op≠4) (h5:op≠5) (h6:op≠6) (h7:op≠7) (h9:op≠9):
  Calls Tryz.prog 109 #[.pointer (some ⟨sb,0,none⟩),.pointer (some ⟨a.th,x*10,none⟩),.agg #[.int .i64 op,.int .i64 ar]] W fun e w'=>e= .returned (.tuple #[])∧SX w W w' lab a P n q T M sb pr (l++[⟨5,(pr:Int),(M.th x).p,(M.th x).g,op,0⟩]) O:=by
 have hb0:Below W.heap.size W (W.alloc (.cells #[.int .i64 op,.int .i64 ar] 48)):=(Below.refl _ _).alloc (Nat.le_refl _) _
 have hs0:=h.below hb0
 have h0:=hs0.sx
 have hno: ¬O W.heap.size:=fun q=>by have:=h.lt q;omega
 have HB0:=aa hb0
 have k0:=aT W #[.int .i64 op,.int .i64 ar] 48 0 _ rfl
 have k1:=aT W #[.int .i64 op,.int .i64 ar] 48 1 _ rfl
 have HKB:Hid (∀V T' M' l',SX w (W.alloc (.cells #[.int .i64 op,.int .i64 ar] 48)) V lab a P n q T' M' sb pr l' O→V.cell? ⟨W.heap.size,0,none⟩=some (.int .i64 op)∧V.cell? ⟨W.heap.size,1,none⟩=some (.int .i64 ar)):=fun V T' M' l' hg=>⟨hg.keep hno k0,hg.keep hno k1⟩
 have HR:=aa (h0.pM (by omega) x hx op ar)
 have b2:(op==2)=false:=by simpa using h2
 have b3:(op==3)=false:=by simpa using h3
 have b4:(op==4)=false:=by simpa using h4
 have b5:(op==5)=false:=by simpa using h5
 have b6:(op==6)=false:=by simpa using h6
 have b7:(op==7)=false:=by simpa using h7
 have b9:(op==9)=false:=by simpa using h9
 clear h hs0 h0 hb0 hno
 go_enter Tryz.func109,Tryz.ntmps109
 go_wp2_with (go_at_call 146;refine(HR.out).mono ?_;rintro e w1 ⟨rfl,hg⟩;have HG:=aa hg;clear hg)
 go_end0
 exact⟨rfl,HG.out.ahead HB0.out⟩
theorem SG.An (h:SG w W lab a P n q T M sb pr l O) (hl:l.length≤9000) (x:Nat) (hx:x<n) (ar:Int)
  (hk: ∀W0 V,SX w W0 V lab a P n q T M sb pr (l++[⟨5,(pr:Int),(M.th x).p,(M.th x).g,9,0⟩]) O→Calls Tryz.prog 151 #[.pointer (some ⟨sb,0,none⟩),.agg #[.int .i64 (M.th x).p,.int .u32 ((M.th x).g:Int)]] V fun e w'=>e= .returned (.tuple #[])∧SX w W0 w' lab a P n q T' M' sb pr l' O):
  Calls Tryz.prog 109 #[.pointer (some ⟨sb,0,none⟩),.pointer (some ⟨a.th,x*10,none⟩),.agg #[.int .i64 9,.int .i64 ar]] W fun e w'=>e= .returned (.tuple #[])∧SX w W w' lab a P n q T' M' sb pr l' O:=by
 have hb0:Below W.heap.size W (W.alloc (.cells #[.int .i64 9,.int .i64 ar] 48)):=(Below.refl _ _).alloc (Nat.le_refl _) _
 have hs0:=h.below hb0
 have h0:=hs0.sx
 have hno: ¬O W.heap.size:=fun q=>by have:=h.lt q;omega
 have HB0:=aa hb0
 have k0:=aT W #[.int .i64 9,.int .i64 ar] 48 0 _ rfl
 have k1:=aT W #[.int .i64 9,.int .i64 ar] 48 1 _ rfl
 have HKB:Hid (∀V T' M' l',SX w (W.alloc (.cells #[.int .i64 9,.int .i64 ar] 48)) V lab a P n q T' M' sb pr l' O→V.cell? ⟨W.heap.size,0,none⟩=some (.int .i64 9)∧V.cell? ⟨W.heap.size,1,none⟩=some (.int .i64 ar)):=fun V T' M' l' hg=>⟨hg.keep hno k0,hg.keep hno k1⟩
 have HR:Hid (Calls Tryz.prog 146 #[.pointer (some ⟨sb,0,none⟩),.pointer (some ⟨a.th,x*10,none⟩),.agg #[.int .i64 9,.int .i64 ar],.int .i64 0] (W.alloc (.cells #[.int .i64 9,.int .i64 ar] 48)) fun e w'=>e= .returned (.tuple #[])∧SX w (W.alloc (.cells #[.int .i64 9,.int .i64 ar] 48)) w' lab a P n q T M sb pr (l++[⟨5,(pr:Int),(M.th x).p,(M.th x).g,9,0⟩]) O∧w'.cell? ⟨a.th,x*10,none⟩=some (.int .i64 (M.th x).p)∧w'.cell? ⟨a.th,x*10+1,none⟩=some (.int .u32 ((M.th x).g:Int))):=(h0.pM (by omega) x hx 9 ar).mono (fun e w' ⟨he,hg⟩=>⟨he,hg,(hg.tr hx).c0,(hg.tr hx).c1⟩)
 have HP:=aa (fun V hV=>hk (W.alloc (.cells #[.int .i64 9,.int .i64 ar] 48)) V hV)
 clear h hs0 h0 hb0 hno hk
 generalize (M.th x).p=tp at*
 generalize (M.th x).g=tg at*
 go_enter Tryz.func109,Tryz.ntmps109
 go_wp2_with (first
  |(go_at_call 146;refine(HR.out).mono ?_;rintro e w1 ⟨rfl,hg,t0,t1⟩;have HG:=aa hg;clear hg)
  |(go_at_call 151;refine(HP.out _ (by exact HG.out)).mono ?_;rintro e w2 ⟨rfl,hg⟩;have HG2:=aa hg;clear hg))
 go_end0
 exact⟨rfl,HG2.out.ahead HB0.out⟩
end
section
variable {w W W0:World} {lab labk:Nat→Nat} {a:Ad} {P n q T T':Nat} {M M':Mc} {sb pr:Nat} {l l':List Ev} {O O0:Nat→Prop}
theorem ay.Ge (h:ay W labk a P n q T M) {x:Nat} (hx:x<n) (t:Tr) (hok:t.ok):az W (iJ W a.th (x*10) t) labk a P n q T {M with th:=Gt.aw M.th x t}:=by
 have hf:=sw W a.th (x*10) t
 exact⟨labk,h.FP hx t hok,h.same hf,hf.to (fun k _ hk=>by rw[hk,h.lth];decide)⟩
theorem Bo:fy.ok:=⟨by decide,by decide,by decide,by decide,by decide⟩
def eu (n:Nat) (M:Mc) (pr x:Nat):Mc:=qT {M with S:=l9 n M.G M.S (M.th x).p (M.th x).g,th:=Gt.aw M.th x fy} pr (-1)
theorem Ah (w:World):(Instr.build 172 #[]).run Tryz.prog w= .ok (.agg #[.int .i64 fy.p,.int .u32 (fy.g:Int),.int .i64 fy.pg,.int .u8 (fy.lv:Int),.int .u8 (fy.lf:Int),.int .i64 fy.sv,.int .i64 fy.pc,.int .i64 fy.ia,.int .i64 fy.il,.int .u64 (fy.sn:Int)]) w:=run_build w 172 _ _ (by kernel_rfl)
theorem SX.sep (h:SX w W0 W lab a P n q T M sb pr l O0): ¬a.th=sb∧ ¬sb=a.th∧ ¬a.m=a.th∧ ¬a.th=a.m:=by
 obtain⟨labk,v,s⟩:=h.sp
 have q1:=s.ls
 have q2:=s.at_.i.lth
 have q3:=s.at_.i.lm
 refine⟨fun e=> ?_,fun e=> ?_,fun e=> ?_,fun e=> ?_⟩
 ·rw[e,q1] at q2;cases q2
 ·rw[←e,q1] at q2;cases q2
 ·rw[e,q2] at q3;cases q3
 ·rw[←e,q2] at q3;cases q3
theorem SG.wz (h:SG w W lab a P n q T M sb pr l O) (hl:l.length≤9000) (hp:pr<P) (x:Nat) (hx:x<n) (hpx:(M.th x).p=(x:Int)) (hh:Pi.jy M.gr.T M.gr.L (x:Int)=[]):
  Calls Tryz.prog 151 #[.pointer (some ⟨sb,0,none⟩),.agg #[.int .i64 (x:Int),.int .u32 ((M.th x).g:Int)]] W fun e w'=>e= .returned (.tuple #[])∧SX w W w' lab a P n q T (eu n M pr x) sb pr (l++[⟨10,(pr:Int),(x:Int),(M.th x).g,0,0⟩]) O:=by
 obtain⟨g,hg⟩: ∃g,(M.th x).g=g:=⟨_,rfl⟩
 have hprl:a.pr<W.heap.size:=World.block_lt_of_cell? W _ (h.sx.pc hp).c0
 have hthl:a.th<W.heap.size:=World.block_lt_of_cell? W _ (h.sx.tr hx).c0
 rw[hg]
 have hb0:Below W.heap.size W (W.alloc (.cells #[.int .i64 (x:Int),.int .u32 (g:Int)] 60)):=(Below.refl _ _).alloc (Nat.le_refl _) _
 have hs0:=h.below hb0
 have h0:=hs0.sx
 have hno: ¬O W.heap.size:=fun q=>by have:=h.lt q;omega
 have HB0:=aa hb0
 have k0:=aT W #[.int .i64 (x:Int),.int .u32 (g:Int)] 60 0 _ rfl
 have k1:=aT W #[.int .i64 (x:Int),.int .u32 (g:Int)] 60 1 _ rfl
 generalize hW:W.alloc (.cells #[.int .i64 (x:Int),.int .u32 (g:Int)] 60)=B at*
 have HW:=aa hW
 clear hW
 obtain⟨bx,hbx⟩: ∃bx,W.heap.size=bx:=⟨_,rfl⟩
 have HBX:=aa hbx
 rw[hbx] at hno k0 k1
 clear hbx
 have HKB:Hid (∀V T' M' l',SX w B V lab a P n q T' M' sb pr l' O→V.cell? ⟨bx,0,none⟩=some (.int .i64 (x:Int))∧V.cell? ⟨bx,1,none⟩=some (.int .u32 (g:Int))∧V.cell? ⟨sb,0,none⟩=some (.pointer (some ⟨a.m,0,none⟩))∧V.cell? ⟨sb,2,none⟩=some (.pointer (some ⟨a.pr,pr*3,none⟩))∧V.cell? ⟨a.m,7,none⟩=some (.pointer (some ⟨a.gb,0,none⟩))∧V.cell? ⟨a.m,5,none⟩=some (.pointer (some ⟨a.tb,0,none⟩))∧V.cell? ⟨a.m,4,none⟩=some (.slice (some ⟨a.th,0,none⟩) n a.xt)):=fun V T' M' l' hg=>⟨hg.keep hno k0,hg.keep hno k1,hg.c0,hg.c2,hg.core.c7,hg.core.c5,hg.core.c4⟩
 have HH:Hid (∀V,SX w B V lab a P n q T M sb pr l O→Calls Tryz.prog 182 #[.pointer (some ⟨a.gb,0,none⟩),.int .i64 (x:Int)] V fun e w'=>(∃ad c,e= .returned (.slice ad 0 c))∧SX w B w' lab a P n q T M sb pr l O):=fun V hV=>hV.Cw (R:=fun e=> ∃ad c,e= .returned (.slice ad 0 c)) (fun _ i=>(i.held (x:Int)).mono (fun e w' ⟨v,he,hil,hb⟩=>by
  rw[hh] at hil
  obtain⟨ad,c,rfl⟩:=Cb.aF hil
  exact⟨⟨ad,c,he⟩,hb⟩))
 have HRL:Hid (∀V,SX w B V lab a P n q T M sb pr l O→Calls Tryz.prog 183 #[.pointer (some ⟨a.tb,0,none⟩),.agg #[.int .i64 (x:Int),.int .u32 (g:Int)]] V fun e w'=>(∃c:Int,e= .returned (.int .i64 c))∧SX w B w' lab a P n q T {M with S:=l9 n M.G M.S (x:Int) g} sb pr l O):=fun V hV=>hV.lift (R:=fun e=> ∃c:Int,e= .returned (.int .i64 c)) (fun _ i=>i.release (x:Int) g)
 have HTN:Hid (∀V,SX w B V lab a P n q T {M with S:=l9 n M.G M.S (x:Int) g} sb pr l O→(∃t,bj V a.th (x*10) t)∧(∀o,V.frozen? ⟨a.th,o,none⟩=false)∧SX w B (iJ V a.th (x*10) fy) lab a P n q T {M with S:=l9 n M.G M.S (x:Int) g,th:=Gt.aw M.th x fy} sb pr l O):=fun V hV=>⟨⟨_,hV.tr hx⟩,hV.EF,hV.goes (fun _ i=>i.Ge hx fy Bo)⟩
 have HSR:Hid (∀V,SX w B V lab a P n q T {M with S:=l9 n M.G M.S (x:Int) g,th:=Gt.aw M.th x fy} sb pr l O→(∃r:Int,V.cell? ⟨a.pr,pr*3,none⟩=some (.int .i64 r))∧V.frozen? ⟨a.pr,pr*3,none⟩=false∧SX w B (V.setCell ⟨a.pr,pr*3,none⟩ (.int .i64 (-1))) lab a P n q T (eu n M pr x) sb pr l O):=fun V hV=>⟨⟨_,(hV.pc hp).c0⟩,hV.lp _,by
  have:=hV.sU hp (-1)
  unfold eu
  rw[hpx,hg]
  exact this⟩
 have HTL:Hid (∀V,SX w B V lab a P n q T (eu n M pr x) sb pr l O→Calls Tryz.prog 102 #[.pointer (some ⟨sb,0,none⟩),.int .i64 10,.agg #[.int .i64 (x:Int),.int .u32 (g:Int)],.int .i64 0] V fun e w'=>e= .returned (.tuple #[])∧SX w B w' lab a P n q T (eu n M pr x) sb pr (l++[⟨10,(pr:Int),(x:Int),g,0,0⟩]) O):=fun V hV=>hV.tell (by omega) 10 (x:Int) g 0
 have H0:=aa h0
 obtain⟨b0,b1,c0,c2,c7,c5,c4⟩:=HKB.out _ _ _ _ h0
 have hbt:=Ah
 clear h hs0 h0 hb0 hno hh hpx hg
 go_enter Tryz.func151,Tryz.ntmps151
 go_wp2
 rw[HW.out,HBX.out]
 go_region_held3 (fun w'=>w'.cell? ⟨sb,0,none⟩=some (.pointer (some ⟨a.m,0,none⟩))∧w'.cell? ⟨a.m,7,none⟩=some (.pointer (some ⟨a.gb,0,none⟩))∧w'.cell? ⟨bx,0,none⟩=some (.int .i64 (x:Int)))
  (first|(have hk:=HKB.out _ _ _ _ HG.out;exact⟨hk.2.2.1,hk.2.2.2.2.1,hk.1⟩)|go_keep)
  (first
   |(go_at_call 182;refine(HH.out _ (by exact SX.j8 H0.out rfl rfl rfl rfl)).mono ?_;rintro e w1 ⟨⟨ad,cc,rfl⟩,hg⟩;have HG:=aa hg;clear hg))
 rename_i hHeld
 clear hHeld
 obtain⟨d0,d1,e0,e2,e7,e5,e4⟩:=HKB.out _ _ _ _ HG.out
 go_wp2
 go_loopw [19] (fun kv wr=>kv= .int .i64 0∧wr=w1) (fun _ _=>0)
 case atStart=>exact⟨rfl,rfl⟩
 case round=>
  obtain⟨rfl,rfl⟩:=hrel
  go_wp2
  go_region_held3 (fun w'=>w'.cell? ⟨sb,0,none⟩=some (.pointer (some ⟨a.m,0,none⟩))∧w'.cell? ⟨a.m,5,none⟩=some (.pointer (some ⟨a.tb,0,none⟩))∧w'.cell? ⟨bx,0,none⟩=some (.int .i64 (x:Int))∧w'.cell? ⟨bx,1,none⟩=some (.int .u32 (g:Int)))
   (first|(have hk:=HKB.out _ _ _ _ HG2.out;exact⟨hk.2.2.1,hk.2.2.2.2.2.1,hk.1,hk.2.1⟩)|go_keep)
   (first
    |(go_at_call 183;refine(HRL.out _ (by exact SX.j8 HG.out rfl rfl rfl rfl)).mono ?_;rintro e w2 ⟨⟨cr,rfl⟩,hg⟩;have HG2:=aa hg;clear hg))
  rename_i hHeld
  clear hHeld
  obtain⟨p0,p1,u0,u2,u7,u5,u4⟩:=HKB.out _ _ _ _ HG2.out
  obtain⟨⟨t0,⟨y0,y1,y2,y3,y4,y5,y6,y7,y8,y9⟩⟩,yf,hten⟩:=HTN.out _ HG2.out
  have HTEN:=aa hten
  clear hten b0 b1 c0 c2 c7 c5 c4 d0 d1 e0 e2 e7 e5 e4
  obtain⟨w3,hw3⟩: ∃w3,iJ w2 a.th (x*10) fy=w3:=⟨_,rfl⟩
  rw[hw3] at HTEN
  have HW3:Hid (((((((((((w2.setCell ⟨a.th,x*10,none⟩ (.int .i64 0)).setCell ⟨a.th,x*10+1,none⟩ (.int .u32 0)).setCell ⟨a.th,x*10+2,none⟩ (.int .i64 0)).setCell ⟨a.th,x*10+3,none⟩ (.int .u8 0)).setCell ⟨a.th,x*10+4,none⟩ (.int .u8 0)).setCell ⟨a.th,x*10+5,none⟩ (.int .i64 0)).setCell ⟨a.th,x*10+6,none⟩ (.int .i64 0)).setCell ⟨a.th,x*10+7,none⟩ (.int .i64 0)).setCell ⟨a.th,x*10+8,none⟩ (.int .i64 0)).setCell ⟨a.th,x*10+9,none⟩ (.int .u64 0))=w3):=hw3
  clear hw3 hbt
  obtain⟨n1,n2,n3,n4⟩:=HG2.out.sep
  have hbxv:=HBX.out
  have n5: ¬a.th=bx:=by omega
  have n6: ¬bx=a.th:=by omega
  clear hbxv
  go_wp2
  go_region_held3 (fun w'=>w'.cell? ⟨sb,0,none⟩=some (.pointer (some ⟨a.m,0,none⟩))∧w'.cell? ⟨a.m,4,none⟩=some (.slice (some ⟨a.th,0,none⟩) n a.xt)∧w'.cell? ⟨bx,0,none⟩=some (.int .i64 (x:Int)))
   (go_keep)
   (first|fail)
  rename_i hHeld
  clear hHeld
  rw[HW3.out]
  clear HW3 y0 y1 y2 y3 y4 y5 y6 y7 y8 y9 yf p0 p1 u0 u2 u7 u5 u4 n1 n2 n3 n4 n5 n6
  have hT4:SX w B w3 lab a P n q T {M with S:=l9 n M.G M.S (x:Int) g,th:=Gt.aw M.th x fy} sb pr l O:=HTEN.out
  obtain⟨p0,p1,u0,u2,u7,u5,u4⟩:=HKB.out _ _ _ _ hT4
  obtain⟨⟨r,z0⟩,z1,hz⟩:=HSR.out _ hT4
  have HZ:=aa hz
  have hz':=HKB.out _ _ _ _ hz
  have v0:=hz'.1
  have v1:=hz'.2.1
  have hbxv:=HBX.out
  have n7: ¬a.pr=bx:=by omega
  have n8: ¬bx=a.pr:=by omega
  clear hz hz' hT4 hbxv
  go_wp2_with (go_at_call 102;refine(HTL.out _ (by exact SX.j8 HZ.out rfl rfl rfl rfl)).mono ?_;rintro e w5 ⟨rfl,hg⟩;have HG5:=aa hg;clear hg)
  go_end0
  exact⟨rfl,HG5.out.ahead HB0.out⟩
end
def kS (w w':World) (lab:Nat→Nat) (a:Ad) (P n q T:Nat) (M:Mc) (v:Value):Prop:= ∃lab',ay w' lab' a P n q T M∧oH w w' lab lab'∧Fr (fun k=>lab k≠0) w w'∧ ∀k,v.ownBlock=some k→lab' k=0
section
variable {w W W':World} {lab labk:Nat→Nat} {a:Ad} {P n q T T':Nat} {M M':Mc} {sb pr:Nat} {l:List Ev} {O O0:Nat→Prop} {W0:World}
theorem SX.Gq (h:SX w W0 W lab a P n q T M sb pr l O0): ∃v,W.cell? ⟨sb,3,none⟩=some v∧fT W w.heap.size v l∧kS w W lab a P n q T M v:=by
 obtain⟨k,v,s⟩:=h.sp
 exact⟨v,s.c3,s.hv,k,s.at_.i,s.at_.l,s.at_.f,fun k hk=>(s.hk k hk).1⟩
theorem ay.qY (h:ay w lab a P n q T M) (hp:pr<P) (d:Int) (hT:T'+n≤1000000000)
  (hact: ∀W1 O,SG w W1 lab a P n q T M w.heap.size pr [] O→Calls Tryz.prog 53 #[.pointer (some ⟨w.heap.size,0,none⟩),.int .u64 d] W1 fun e w'=>e= .returned (.tuple #[])∧SX w W1 w' lab a P n q T' M' w.heap.size pr l O):
  Calls Tryz.prog 34 #[.pointer (some ⟨a.m,0,none⟩),.int .i64 (pr:Int),.int .u64 d] w fun e w'=> ∃v,e= .returned (.tuple #[v,.int .i64 0])∧fT w' w.heap.size v l∧kS w w' lab a P n q (T'+n) (Go.Proofs.YtdbailcdlngemaaGreatDoor.settle M' n) v:=by
 have HP:=aa (h.BG (pr:Int))
 have hyes:uf P (pr:Int)=true:=by unfold uf;simp;omega
 rw[hyes] at HP
 have c3:=h.co.c3
 have hpi:(pr:Int)<(P:Int):=by omega
 obtain⟨O,hs⟩:=SG.start h pr
 have HA:=aa (hact _ O hs)
 generalize hW:w.alloc (.cells #[.pointer (some ⟨a.m,0,none⟩),.int .i64 (pr:Int),.pointer (some ⟨a.pr,pr*3,none⟩),.slice none 0 0] 160)=W1 at*
 have HW:=aa hW
 have HST:Hid (∀V,SX w W1 V lab a P n q T' M' w.heap.size pr l O→Calls Tryz.prog 54 #[.pointer (some ⟨a.m,0,none⟩)] V fun e w'=>e= .returned (.tuple #[])∧SX w W1 w' lab a P n q (T'+n) (Go.Proofs.YtdbailcdlngemaaGreatDoor.settle M' n) w.heap.size pr l O):=fun V h=>h.lift (R:=fun e=>e= .returned (.tuple #[])) fun _ i=>i.settle hT
 have hbt:=fun w=>Bw ⟨a.m,0,none⟩ ⟨a.pr,pr*3,none⟩ (pr:Int) w
 clear h hs hW hact
 go_enter Tryz.func34,Tryz.ntmps34
 go_upto_region 6 with (first
  |(go_at_call 52;refine(HP.out).mono ?_;rintro e w1 ⟨rfl,hw⟩;replace hw:=hw.symm;subst hw))
 rw[HW.out]
 go_upto_region 8 with (first
  |(go_at_call 53;refine(HA.out).mono ?_;rintro e w2 ⟨rfl,hg⟩;have HG2:=aa hg;clear hg)
  |(go_at_call 54;refine(HST.out _ HG2.out).mono ?_;rintro e w3 ⟨rfl,hg⟩;have HG3:=aa hg;clear hg))
 obtain⟨v,z3,hev,hgo⟩:=HG3.out.Gq
 obtain⟨ad,cap,rfl⟩:=Cb.aF hev
 have HE:=aa (And.intro hev hgo)
 clear hev hgo
 go_wp2
 go_ret2
 exact⟨_,rfl,HE.out.1,HE.out.2⟩
end
section
variable {w W W':World} {lab labk:Nat→Nat} {a:Ad} {P n q T T':Nat} {M M':Mc}
theorem az.FE {w':World} (h:az w w' lab a P n q T M) (o:Obj):kS w (w'.alloc o) lab a P n q T M (.slice (some ⟨w'.heap.size,0,none⟩) 1 1):=by
 obtain⟨lab',hi,hl,hf⟩:=h
 have hb:Below w'.heap.size w' (w'.alloc o):=(Below.refl _ _).alloc (Nat.le_refl _) _
 have hi2:=hi.below hb
 have hf2:Fr (fun k=>lab k≠0) w (w'.alloc o):=hf.then (db (S:=fun _=>False) hb) (fun _ _ q=>q.elim)
 refine⟨lab',hi2,⟨hl.old,hi2.lt⟩,hf2,fun k hk=> ?_⟩
 have:w'.heap.size=k:=by simpa [Value.ownBlock] using hk
 exact hi.fresh (by omega)
theorem ay.mu (h:ay w lab a P n q T M) (hT:T+n+1+n≤1000000000) (hG:wS M n) (pg:Int) (lv:Nat) (hlv:lv<256) (sv:Int) (hno:dP M pg sv=false) (x:Nat) (hf:cD M n=some x):
  Calls Tryz.prog 38 #[.pointer (some ⟨a.m,0,none⟩),.int .i64 pg,.int .u8 (lv:Int),.int .i64 sv] w fun e w'=> ∃v,e= .returned (.tuple #[v,.int .i64 0])∧fT w' w.heap.size v [⟨9,0,(x:Int),M.G x+1,pg,0⟩]∧kS w w' lab a P n q (T+n+1+n) (gS P n q M x pg lv sv) v:=by
 have HP:=aa (h.ug pg)
 have HL:=aa h.EW
 obtain⟨g,hg⟩: ∃g,M.G x+1=g:=⟨_,rfl⟩
 have HB:Hid (Calls Tryz.prog 61 #[.pointer (some ⟨a.m,0,none⟩),.int .i64 0,.agg #[.int .i64 0,.int .u32 0,.int .i64 pg,.int .u8 (lv:Int),.int .u8 0,.int .i64 sv,.int .i64 0,.int .i64 0,.int .i64 0,.int .u64 0]] w fun e w'=>e= .returned (.tuple #[.agg #[.int .i64 9,.int .i64 0,.int .i64 (x:Int),.int .u32 (g:Int),.int .i64 pg,.int .i64 0],.int .i64 0])∧az w w' lab a P n q (T+n+1) (fU P n q M x 0 (mv pg lv sv))):=by
  have:=h.vY (by omega) hG 0 (mv pg lv sv) (zH pg lv sv hlv) x hf
  rw[hg] at this
  exact this
 have c6:=h.co.c6
 have hz:=h.t0.pos
 have HST:Hid (∀W lab1,At w W lab lab1 a P n q (T+n+1) (fU P n q M x 0 (mv pg lv sv))→ ∀b,lab1 b=0→iZ W b ⟨9,0,(x:Int),g,pg,0⟩→Calls Tryz.prog 54 #[.pointer (some ⟨a.m,0,none⟩)] W fun e w'=>e= .returned (.tuple #[])∧az w w' lab a P n q (T+n+1+n) (gS P n q M x pg lv sv)∧iZ w' b ⟨9,0,(x:Int),g,pg,0⟩):=fun W lab1 A b hb he=>by
  refine(A.i.settle hT).mono ?_
  rintro e w' ⟨rfl,hgo⟩
  obtain⟨lab2,A2,ho,hfr⟩:=A.step hgo
  exact⟨rfl,A2.goes,he.kept (hfr.box hb he.lt)⟩
 unfold dP at hno
 clear h
 generalize M.sv.length=len at*
 have hp:jS M pg=true:=by cases e:jS M pg<;>simp[e] at hno⊢
 have h1: ¬sv< -1:=by intro e;simp[e] at hno
 have h2: ¬(len:Int)≤sv:=by intro e;simp[e] at hno
 have d1:decide (sv< -1)=false:=decide_eq_false h1
 have d2:decide ((len:Int)≤sv)=false:=decide_eq_false h2
 rw[hp] at HP
 have hbt:=fun w=>tN pg (lv:Int) sv w
 rw[hg]
 go_enter Tryz.func38,Tryz.ntmps38
 go_upto_region 8 with (first
  |(go_at_call 59;refine(HP.out).mono ?_;rintro e w1 ⟨rfl,hw⟩;replace hw:=hw.symm;subst hw)
  |(go_at_call 60;refine(HL.out).mono ?_;rintro e w1 ⟨rfl,hw⟩;replace hw:=hw.symm;subst hw)
  |(go_at_call 61;refine(HB.out).mono ?_;rintro e w1 ⟨rfl,hb⟩;have HB1:=aa hb;clear hb))
 obtain⟨lab1,A1⟩:=HB1.out.open hz
 have A2:=A1.new (.cells #[.int .i64 9,.int .i64 0,.int .i64 (x:Int),.int .u32 (g:Int),.int .i64 pg,.int .i64 0] 62)
 have hl:=A1.fresh (Nat.le_refl _)
 have he:iZ (w1.alloc (.cells #[.int .i64 9,.int .i64 0,.int .i64 (x:Int),.int .u32 (g:Int),.int .i64 pg,.int .i64 0] 62)) w1.heap.size ⟨9,0,(x:Int),g,pg,0⟩:=⟨aT _ _ _ 0 _ rfl,aT _ _ _ 1 _ rfl,aT _ _ _ 2 _ rfl,aT _ _ _ 3 _ rfl,aT _ _ _ 4 _ rfl,aT _ _ _ 5 _ rfl,fun o=>Gt.aD _ _ _ _⟩
 generalize w1.alloc (.cells #[.int .i64 9,.int .i64 0,.int .i64 (x:Int),.int .u32 (g:Int),.int .i64 pg,.int .i64 0] 62)=W1 at*
 have HS1:=aa (HST.out W1 lab1 A2 w1.heap.size hl he)
 clear HST A1 A2 hl he HB1 HB HP HL
 go_wp2_with (first
  |(go_at_call 54;refine(HS1.out).mono ?_;rintro e w2 ⟨rfl,hgo,⟨e0,e1,e2,e3,e4,e5,ef⟩⟩;have HG2:=aa hgo;clear hgo))
 go_ret2
 exact⟨_,rfl,fT.one w2 w.heap.size HG2.out.size ⟨9,0,(x:Int),g,pg,0⟩,HG2.out.FE _⟩
end
def pT (w wr:World) (ad:Ad) (P n q T:Nat) (M:Mc) (K:Nat→Prop):Prop:=(∃lab,ay wr lab ad P n q T M∧(∀k,lab k≠0→w.heap.size≤k)∧ ∀k,K k→lab k=0∧k<wr.heap.size)∧Below w.heap.size w wr
section
variable {w wr w':World} {ad:Ad} {P n q T T':Nat} {M M':Mc} {K:Nat→Prop}
theorem pT.ER (h:pT w wr ad P n q T M K) {lab:Nat→Nat} (h1: ∀k,lab k≠0→w.heap.size≤k) (h2: ∀k,K k→lab k=0∧k<wr.heap.size) {v:Value} {base:Nat} {l:List Ev} (g:kS wr w' lab ad P n q T' M' v) (hv:fT w' base v l):pT w w' ad P n q T' M' (fun k=>K k∨v.ownBlock=some k)∧ ∀k,K k→w'.heap[k]? =wr.heap[k]? :=by
 obtain⟨_,hb⟩:=h
 obtain⟨lab',hi',hl,hf,hz⟩:=g
 refine⟨⟨⟨lab',hi',fun k hk=> ?_,fun k hk=> ?_⟩,hb.trans ⟨hf.os,hf.tape,hf.output,hf.size,fun k hk=>hf.block k (Nat.lt_of_lt_of_le hk hb.size) (fun q=>by have:=h1 k q;omega)⟩⟩,fun k hk=>hf.block k (h2 k hk).2 (fun q=>q (h2 k hk).1)⟩
 ·rcases Nat.lt_or_ge k wr.heap.size with q|q
  ·exact h1 k (by rw[←hl.old k q];exact hk)
  ·exact Nat.le_trans hb.size q
 ·rcases hk with hk|hk
  ·exact⟨(hl.old k (h2 k hk).2).trans (h2 k hk).1,Nat.lt_of_lt_of_le (h2 k hk).2 hf.size⟩
  ·exact⟨hz k hk,(hv.lt hk).1⟩
theorem pT.call (h:pT w wr ad P n q T M K) {f:Nat} {args:Array Value} {R:Ending→World→Value→Prop} {base:Nat} {l:List Ev} (hc: ∀lab,ay wr lab ad P n q T M→Calls Tryz.prog f args wr fun e w'=> ∃v,R e w' v∧fT w' base v l∧kS wr w' lab ad P n q T' M' v):Calls Tryz.prog f args wr fun e w'=> ∃v,R e w' v∧fT w' base v l∧pT w w' ad P n q T' M' (fun k=>K k∨v.ownBlock=some k)∧ ∀k,K k→w'.heap[k]? =wr.heap[k]? :=by
 have h0:=h
 obtain⟨⟨lab,hi,h1,h2⟩,hb⟩:=h
 exact(hc lab hi).mono (fun e w' ⟨v,r,ev,g⟩=>⟨v,r,ev,h0.ER h1 h2 g ev⟩)
theorem pT.pq (h:pT w wr ad P n q T M K): ∃O,PQ wr O ad.pb n P q T M.pl:=by
 obtain⟨⟨lab,hi,hl⟩,hb⟩:=h
 obtain⟨O,p,_⟩:=hi.pl
 exact⟨O,p⟩
theorem pT.dO (h:pT w wr ad P n q T M K):Below w.heap.size w wr:=h.2
end
end Go.Proofs.YtdbailcdlngemaaGreatDoor
