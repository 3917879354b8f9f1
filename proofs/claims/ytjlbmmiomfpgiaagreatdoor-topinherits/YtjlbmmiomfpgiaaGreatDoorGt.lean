/- YtjlbmmiomfpgiaaGreatDoorGt: of the texts Ba36 Ba37 Ba38 Ba39 Ba40 Bf1 Bf2 Bf3 Bf4 Bf5 Bf6 Bf7 what is wanted. -/
import Derived.Test.YtjlbmmiomfpgiaaGreatDoorG0
import Derived.Test.YtjlbmmiomfpgiaaGreatDoorGq
import Derived.Deep.Cut
import Derived.Deep.DeepCutAuto
import Derived.Maps.AppendAt
set_option maxHeartbeats 16000000
set_option maxRecDepth 100000
set_option linter.unusedVariables false
set_option linter.unusedSimpArgs false
namespace Go.Proofs.YtjlbmmiomfpgiaaGreatDoor
open Go.RowKit Go.Lib Go.Shelf
attribute [local go_sem ↓] Go.wp_at_zero Go.wp_at_succ
theorem aG {W V:World} (h:Below W.heap.size W V) (o:Obj):Below W.heap.size W (V.alloc o):=h.alloc h.size o
theorem bP {W V:World} (h:Below W.heap.size W V) {b:Nat} (hb:W.heap.size≤b) (o:Nat) (u:Value):Below W.heap.size W (V.setCell ⟨b,o,none⟩ u):=dk h hb u
theorem bq {W V:World} (h:Below W.heap.size W V):Below W.heap.size W V.drew:=ak h rfl rfl rfl rfl
structure Zb (V:World) (b:Nat):Prop where
 c0:V.cell? ⟨b,0,none⟩=some (.int .i64 0)
 c1:V.cell? ⟨b,1,none⟩=some (.int .i64 0)
 f0:V.frozen? ⟨b,0,none⟩=false
 f1:V.frozen? ⟨b,1,none⟩=false
theorem Zb.new (W:World) (t:TypeId):Zb (W.alloc (.cells #[.int .i64 0,.int .i64 0] t)) W.heap.size:=⟨aT _ _ _ 0 _ rfl,aT _ _ _ 1 _ rfl,Gt.aE _ _ _ _,Gt.aE _ _ _ _⟩
theorem Zb.kept {V V':World} {b:Nat} (h:Zb V b) (hb:V'.heap[b]? =V.heap[b]?):Zb V' b:=⟨(World.cell?_of_block hb).trans h.c0,(World.cell?_of_block hb).trans h.c1,(World.frozen?_of_block hb).trans h.f0,(World.frozen?_of_block hb).trans h.f1⟩
theorem Zb.Dj {W V w2:World} {t:TypeId} (hv:Below V.heap.size V w2) (hV:V.heap=(W.alloc (.cells #[.int .i64 0,.int .i64 0] t)).heap):Zb w2 W.heap.size∧W.heap.size<w2.heap.size:=by
 have hs:V.heap.size=W.heap.size+1:=by rw[hV];simp
 refine⟨(Zb.new W t).kept ?_,by have:=hv.size;omega⟩
 rw[hv.block _ (by omega),hV]
theorem Zb.Db {W V w2:World} {t t':TypeId} (hv:Below V.heap.size V w2) (hV:V.heap=((W.alloc (.cells #[.int .i64 0,.int .i64 0] t)).alloc (.cells #[.int .i64 0,.int .i64 0] t')).heap):Zb w2 W.heap.size∧Zb w2 (W.heap.size+1)∧W.heap.size+1<w2.heap.size:=by
 have hs:V.heap.size=W.heap.size+1+1:=by rw[hV];simp
 have s1:(W.alloc (.cells #[.int .i64 0,.int .i64 0] t)).heap.size=W.heap.size+1:=by simp
 refine⟨(Zb.new W t).kept ?_,?_,by have:=hv.size;omega⟩
 ·rw[hv.block _ (by omega),hV]
  exact Below.heap_alloc _ _ _ (by omega)
 ·have:=(Zb.new (W.alloc (.cells #[.int .i64 0,.int .i64 0] t)) t').kept (V':=w2) (by rw[hv.block _ (by omega),hV])
  rw[s1] at this
  exact this
structure qW (V:World) (b:Nat) (x y:Int):Prop where
 c0:V.cell? ⟨b,0,none⟩=some (.int .i64 x)
 c1:V.cell? ⟨b,1,none⟩=some (.int .i64 y)
theorem qW.new (V:World) (x y:Int) (t:TypeId):qW (V.alloc (.cells #[.int .i64 x,.int .i64 y] t)) V.heap.size x y:=⟨aT _ _ _ 0 _ rfl,aT _ _ _ 1 _ rfl⟩
theorem qW.kept {V V':World} {b:Nat} {x y:Int} (h:qW V b x y) (hb:V'.heap[b]? =V.heap[b]?):qW V' b x y:=⟨(World.cell?_of_block hb).trans h.c0,(World.cell?_of_block hb).trans h.c1⟩
theorem qW.set {V:World} {b:Nat} (h:Zb V b) (x y:Int):qW ((V.setCell ⟨b,0,none⟩ (.int .i64 x)).setCell ⟨b,1,none⟩ (.int .i64 y)) b x y:=
 ⟨(aC _ (by decide)).trans (Gt.av _ _ _ _ h.c0),Gt.av _ _ _ _ ((aC V (by decide)).trans h.c1)⟩
structure Ba (W V:World) (ib nb:Nat) (op ar ia il:Int):Prop where
 mJ:Below W.heap.size W V
 i:W.heap.size≤ib∧ib<V.heap.size
 n:W.heap.size≤nb∧nb<V.heap.size
 ne:ib≠nb
 pi:qW V ib op ar
 pn:qW V nb ia il
section
variable {W w2:World} {op ar ia il:Int} {t t':TypeId}
theorem kT (h:Below W.heap.size W w2):Ba W ((w2.alloc (.cells #[.int .i64 op,.int .i64 ar] t)).alloc (.cells #[.int .i64 ia,.int .i64 il] t')) w2.heap.size (w2.heap.size+1) op ar ia il:=by
 have hs:=h.size
 have s1:(w2.alloc (.cells #[.int .i64 op,.int .i64 ar] t)).heap.size=w2.heap.size+1:=by simp
 have s2:((w2.alloc (.cells #[.int .i64 op,.int .i64 ar] t)).alloc (.cells #[.int .i64 ia,.int .i64 il] t')).heap.size=w2.heap.size+2:=by simp
 refine⟨aG (aG h _) _,⟨hs,by omega⟩,⟨by omega,by omega⟩,by omega,(qW.new w2 op ar t).kept (Below.heap_alloc _ _ _ (by omega)),?_⟩
 have:=qW.new (w2.alloc (.cells #[.int .i64 op,.int .i64 ar] t)) ia il t'
 rw[s1] at this
 exact this
theorem jj (h:Below W.heap.size W w2):Ba W ((w2.alloc (.cells #[.int .i64 ia,.int .i64 il] t')).alloc (.cells #[.int .i64 op,.int .i64 ar] t)) (w2.heap.size+1) w2.heap.size op ar ia il:=by
 obtain⟨h1,h2,h3,h4,h5,h6⟩:=kT (op:=ia) (ar:=il) (ia:=op) (il:=ar) (t:=t') (t':=t) h
 exact⟨h1,h3,h2,fun e=>h4 e.symm,h6,h5⟩
theorem kM (h:Below W.heap.size W w2) (z:Zb w2 W.heap.size) (hl:W.heap.size<w2.heap.size):Ba W (((w2.setCell ⟨W.heap.size,0,none⟩ (.int .i64 op)).setCell ⟨W.heap.size,1,none⟩ (.int .i64 ar)).alloc (.cells #[.int .i64 ia,.int .i64 il] t')) W.heap.size w2.heap.size op ar ia il:=by
 have s1:((w2.setCell ⟨W.heap.size,0,none⟩ (.int .i64 op)).setCell ⟨W.heap.size,1,none⟩ (.int .i64 ar)).heap.size=w2.heap.size:=by simp
 have s2:(((w2.setCell ⟨W.heap.size,0,none⟩ (.int .i64 op)).setCell ⟨W.heap.size,1,none⟩ (.int .i64 ar)).alloc (.cells #[.int .i64 ia,.int .i64 il] t')).heap.size=w2.heap.size+1:=by simp
 refine⟨aG (bP (bP h (Nat.le_refl _) _ _) (Nat.le_refl _) _ _) _,⟨Nat.le_refl _,by omega⟩,⟨by omega,by omega⟩,by omega,(qW.set z op ar).kept (Below.heap_alloc _ _ _ (by omega)),?_⟩
 have:=qW.new ((w2.setCell ⟨W.heap.size,0,none⟩ (.int .i64 op)).setCell ⟨W.heap.size,1,none⟩ (.int .i64 ar)) ia il t'
 rw[s1] at this
 exact this
theorem jz (h:Below W.heap.size W w2) (z:Zb w2 W.heap.size) (hl:W.heap.size<w2.heap.size):Ba W (((w2.setCell ⟨W.heap.size,0,none⟩ (.int .i64 ia)).setCell ⟨W.heap.size,1,none⟩ (.int .i64 il)).alloc (.cells #[.int .i64 op,.int .i64 ar] t)) w2.heap.size W.heap.size op ar ia il:=by
 obtain⟨h1,h2,h3,h4,h5,h6⟩:=kM (op:=ia) (ar:=il) (ia:=op) (il:=ar) (t':=t) h z hl
 exact⟨h1,h3,h2,fun e=>h4 e.symm,h6,h5⟩
theorem fI (h:Below W.heap.size W w2) {b c:Nat} (hb:W.heap.size≤b∧b<w2.heap.size) (hc:W.heap.size≤c∧c<w2.heap.size) (hn:b≠c) (z:Zb w2 b) (z':Zb w2 c):Ba W ((((w2.setCell ⟨b,0,none⟩ (.int .i64 op)).setCell ⟨b,1,none⟩ (.int .i64 ar)).setCell ⟨c,0,none⟩ (.int .i64 ia)).setCell ⟨c,1,none⟩ (.int .i64 il)) b c op ar ia il:=by
 refine⟨bP (bP (bP (bP h hb.1 _ _) hb.1 _ _) hc.1 _ _) hc.1 _ _,⟨hb.1,by simpa using hb.2⟩,⟨hc.1,by simpa using hc.2⟩,hn,?_,?_⟩
 ·exact(qW.set z op ar).kept ((Below.heap_setCell _ _ _ _ hn).trans (Below.heap_setCell _ _ _ _ hn))
 ·exact qW.set (z'.kept ((Below.heap_setCell _ _ _ _ (fun e=>hn e.symm)).trans (Below.heap_setCell _ _ _ _ (fun e=>hn e.symm)))) ia il
end
section
variable {w W0 W:World} {lab labk:Nat→Nat} {a:Ad} {P n q T:Nat} {M:Mc} {sb pr:Nat} {l:List Ev} {O0:Nat→Prop}
theorem SX.prog (h:SX w W0 W lab a P n q T M sb pr l O0) {g:Nat} {p:Pm} (hg:M.pr[g]? =some p): ∃pb cp ap cap,W.cell? ⟨a.m,2,none⟩=some (.slice (some ⟨pb,0,none⟩) M.pr.length cp)∧W.cell? ⟨pb,g,none⟩=some (.slice ap p.len cap)∧Ex.lK W ap p.len p.O p.R∧Ex.Rt p.len p.O p.R∧g<M.pr.length:=by
 obtain⟨labk,i⟩:=h.i
 obtain⟨v,vs,e2,hps⟩:=i.pg
 obtain⟨ad,cp,rfl⟩:=hps.form
 have hgl:g<M.pr.length:=(List.getElem?_eq_some_iff.1 hg).1
 have hvg:g<vs.length:=by rw[hps.len];exact hgl
 obtain⟨r1,r2⟩:=hps.at_ g p (vs[g]'hvg) hg (List.getElem?_eq_getElem hvg)
 have hmem:p∈M.pr:=List.mem_of_getElem? hg
 have hok:=hps.ok p hmem
 rcases hps.row.2 with ⟨e,e0⟩|⟨pb,cap,cur,e,h0,hg',hrow⟩
 ·omega
 ·injection e with e1 e3 e4
  subst e1 e4
  obtain⟨ap,cap',e5,hprg⟩:=Ex.xk r1
  refine⟨pb,_,ap,cap',e2,?_,hprg,hok,hgl⟩
  have hu:vs[g]? =some (vs[g]'hvg):=List.getElem?_eq_getElem hvg
  rw[e5] at hu
  rw[←hrow.2.2.2,List.getElem?_take] at hu
  split at hu
  ·simp only[World.cell?,hg']
   simpa using hu
  ·cases hu
def De (p:Pm) (ia:Int):Int:=Ex.Co true p.len p.O ia
def C8 (p:Pm) (ia:Int):Int:=Ex.Cj true p.len p.R ia
def Dl (p:Pm) (ia:Int):Int:=Ex.Cl true p.len p.O p.R ia
def Dk (p:Pm) (ia il:Int):Int:=Ex.Cf true p.len p.O p.R ia il
theorem xZ {W:World} {ap:Option Addr} {cap:Nat} {p:Pm} (hp:Ex.lK W ap p.len p.O p.R) (hr:Ex.Rt p.len p.O p.R) (ia il:Int) (hil: ¬0<il) (V:World) (hb:Below W.heap.size W V):
  Calls Tryz.prog 67 #[.slice ap p.len cap,.agg #[.int .i64 ia,.int .i64 il]] V fun e w'=>e= .returned (.tuple #[.agg #[.int .i64 (De p ia),.int .i64 (C8 p ia)],.agg #[.int .i64 (Dl p ia),.int .i64 (Dk p ia il)],.bool false])∧Below W.heap.size W w'∧Below V.heap.size V w':=
 (Ex.uB V ap p.len cap (by have:=ze hr;omega) p.O p.R (hp.below hb) true ⟨fun _=>hr,fun _=>rfl⟩ ia il hil).mono (fun e w' ⟨he,b⟩=>⟨he,bt hb b,b⟩)
theorem ax.wI (h:ax W labk a P n q T M) {x:Nat} (hx:x<n) (u v:Int) (hv:v<9223372036854775808):
  aw W ((W.setCell ⟨a.th,x*10+7,none⟩ (.int .i64 u)).setCell ⟨a.th,x*10+8,none⟩ (.int .i64 v)) labk a P n q T {M with th:=Gt.au M.th x {M.th x with ia:=u,il:=v}}:=by
 have ok:=h.th.ok x hx
 have hfr:Fr (fun k=>labk k=4) W ((W.setCell ⟨a.th,x*10+7,none⟩ (.int .i64 u)).setCell ⟨a.th,x*10+8,none⟩ (.int .i64 v)):=((Fr.refl _ _).setCell (a:=⟨a.th,_,none⟩) h.lth _).setCell (a:=⟨a.th,_,none⟩) h.lth _
 refine⟨labk,h.xw (h.same hfr) hfr (h.th.put (((h.th.at_ x hx).vm u).vP v) ⟨ok.g,ok.lv,ok.lf,hv,ok.sn⟩ (fun j hj hne=>((h.th.at_ j hj).gE (mw hne (by decide)) _).gE (mw hne (by decide)) _) (fun o=>by rw[aS,aS];exact h.th.fz o)),h.same hfr,hfr.to (fun k _ hk=> ?_)⟩
 rw[hk];decide
def dt (M:Mc) (x:Nat) (u v:Int):Mc:={M with th:=Gt.au M.th x {M.th x with ia:=u,il:=v}}
def jR (ok:Bool):Ending:=if ok then .returned (.tuple #[]) else .panicked di
theorem SX.yK (h:SX w W0 W lab a P n q T M sb pr l O0) (hl:l.length≤10000) (hp:pr<P) (x:Nat) (hx:x<n) (hr:(M.pc pr).r=(x:Int)) (g:Nat) (p:Pm) (hg:M.pr[g]? =some p) (hpg:(M.th x).pg=(g:Int)) (op ar ia' il':Int) (hil':il'<9223372036854775808) (bz ok:Bool) (T':Nat) (M':Mc) (l':List Ev)
  (hst: ∀ap cap V,Ex.lK W ap p.len p.O p.R→Ex.Rt p.len p.O p.R→Below W.heap.size W V→Calls Tryz.prog 67 #[.slice ap p.len cap,.agg #[.int .i64 (M.th x).ia,.int .i64 (M.th x).il]] V fun e w'=>e= .returned (.tuple #[.agg #[.int .i64 op,.int .i64 ar],.agg #[.int .i64 ia',.int .i64 il'],.bool bz])∧Below W.heap.size W w'∧Below V.heap.size V w')
  (hbz:bz=true→ok=false∧T'=T∧M'=M∧l'=l++[⟨2,(pr:Int),(M.th x).p,(M.th x).g,0,0⟩])
  (hdo:bz=false→ ∀V O,SG w V lab a P n q T (dt M x ia' il') sb pr l O→Calls Tryz.prog 125 #[.pointer (some ⟨sb,0,none⟩),.pointer (some ⟨a.th,x*10,none⟩),.agg #[.int .i64 op,.int .i64 ar]] V fun e w'=>e=jR ok∧SX w V w' lab a P n q T' M' sb pr l' O):
  Calls Tryz.prog 76 #[.pointer (some ⟨sb,0,none⟩)] W fun e w'=>e=jR ok∧SX w W0 w' lab a P n q T' M' sb pr l' O0:=by
 obtain⟨pb,cp,ap,cap,k2,kg,hprg,hrt,hgl⟩:=h.prog hg
 have hstp:=fun V hb=>hst ap cap V hprg hrt hb
 have HST:=aa hstp
 have hS: ∀V,Below W.heap.size W V→V.cell? ⟨sb,0,none⟩=some (.pointer (some ⟨a.m,0,none⟩))∧V.cell? ⟨sb,2,none⟩=some (.pointer (some ⟨a.pr,pr*3,none⟩))∧V.cell? ⟨a.m,4,none⟩=some (.slice (some ⟨a.th,0,none⟩) n a.xt)∧V.cell? ⟨a.pr,pr*3,none⟩=some (.int .i64 (x:Int))∧V.cell? ⟨a.m,2,none⟩=some (.slice (some ⟨pb,0,none⟩) M.pr.length cp)∧V.cell? ⟨a.th,x*10+2,none⟩=some (.int .i64 (g:Int))∧V.cell? ⟨pb,g,none⟩=some (.slice ap p.len cap)∧V.cell? ⟨a.th,x*10+7,none⟩=some (.int .i64 (M.th x).ia)∧V.cell? ⟨a.th,x*10+8,none⟩=some (.int .i64 (M.th x).il):=fun V hb=>by
  refine⟨kc hb h.c0,kc hb h.c2,kc hb h.core.c4,?_,kc hb k2,?_,kc hb kg,kc hb (h.tr hx).c7,kc hb (h.tr hx).c8⟩
  ·rw[←hr];exact kc hb (h.pc hp).c0
  ·rw[←hpg];exact kc hb (h.tr hx).c2
 have HS:=aa hS
 have HZ:=aa (Below.refl W.heap.size W)
 obtain⟨s0,s1,s2,s3,s4,s5,s6,s7,s8⟩:=hS _ HZ.out
 have HBZ:Hid (bz=true→ok=false∧T'=T∧M'=M∧l'=l++[⟨2,(pr:Int),(M.th x).p,(M.th x).g,0,0⟩]):=hbz
 have HEN:Hid (∀V,Below W.heap.size W V→Calls Tryz.prog 123 #[.pointer (some ⟨sb,0,none⟩),.int .i64 2,.agg #[.int .i64 (M.th x).p,.int .u32 ((M.th x).g:Int)],.int .i64 0] V fun e w'=>e= .panicked di∧SX w W0 w' lab a P n q T M sb pr (l++[⟨2,(pr:Int),(M.th x).p,(M.th x).g,0,0⟩]) O0):=fun V hb=>(h.more hb).end_ hl 2 (M.th x).p (M.th x).g 0
 have HTH:Hid (∀V,Below W.heap.size W V→V.cell? ⟨a.th,x*10,none⟩=some (.int .i64 (M.th x).p)∧V.cell? ⟨a.th,x*10+1,none⟩=some (.int .u32 ((M.th x).g:Int))∧V.cell? ⟨a.th,x*10+7,none⟩=some (.int .i64 (M.th x).ia)∧V.cell? ⟨a.th,x*10+8,none⟩=some (.int .i64 (M.th x).il)∧ ∀o,V.frozen? ⟨a.th,o,none⟩=false):=fun V hb=>⟨kc hb (h.tr hx).c0,kc hb (h.tr hx).c1,kc hb (h.tr hx).c7,kc hb (h.tr hx).c8,fun o=>(h.more hb).BW o⟩
 have HDO:Hid (bz=false→ ∀V,Below W.heap.size W V→Calls Tryz.prog 125 #[.pointer (some ⟨sb,0,none⟩),.pointer (some ⟨a.th,x*10,none⟩),.agg #[.int .i64 op,.int .i64 ar]] ((V.setCell ⟨a.th,x*10+7,none⟩ (.int .i64 ia')).setCell ⟨a.th,x*10+8,none⟩ (.int .i64 il')) fun e w'=>e=jR ok∧SX w W0 w' lab a P n q T' M' sb pr l' O0):=fun hz V hb=>((h.more hb).goes (fun _ i=>i.wI hx ia' il' hil')).call (R:=fun e=>e=jR ok) (fun O s=>hdo hz _ O s)
 have hthl:a.th<W.heap.size:=World.block_lt_of_cell? W _ (h.tr hx).c0
 have hgl':(g:Int)<(M.pr.length:Int):=by omega
 generalize (M.th x).ia=ia at*
 generalize (M.th x).il=il at*
 generalize (M.th x).p=tp at*
 generalize (M.th x).g=tg at*
 clear hstp hst hprg hrt h hS k2 kg hr hpg hg hbz hdo
 go_enter Tryz.func76,Tryz.ntmps76
 go_wp2
 go_region_held3 (fun w'=>w'.cell? ⟨sb,0,none⟩=some (.pointer (some ⟨a.m,0,none⟩))∧w'.cell? ⟨sb,2,none⟩=some (.pointer (some ⟨a.pr,pr*3,none⟩))∧w'.cell? ⟨a.m,4,none⟩=some (.slice (some ⟨a.th,0,none⟩) n a.xt)∧w'.cell? ⟨a.pr,pr*3,none⟩=some (.int .i64 (x:Int)))
  (go_keep)
  (first|fail)
 rename_i hHeld
 clear hHeld
 go_upto_region 1 with fail
 go_cut [3,4,5] (fun i3 n4 b5 Wc=> ∃ib nb,i3= .pointer (some ⟨ib,0,none⟩)∧n4= .pointer (some ⟨nb,0,none⟩)∧b5= .bool bz∧Ba W Wc ib nb op ar ia' il')
 case first=>
  have HS2:Hid (∀V,Below W.heap.size W V→V.cell? ⟨sb,0,none⟩=some (.pointer (some ⟨a.m,0,none⟩))∧V.cell? ⟨a.m,2,none⟩=some (.slice (some ⟨pb,0,none⟩) M.pr.length cp)∧V.cell? ⟨a.th,x*10+2,none⟩=some (.int .i64 (g:Int))∧V.cell? ⟨pb,g,none⟩=some (.slice ap p.len cap)∧V.cell? ⟨a.th,x*10+7,none⟩=some (.int .i64 ia)∧V.cell? ⟨a.th,x*10+8,none⟩=some (.int .i64 il)):=fun V hb=>by
   obtain⟨t0,t1,t2,t3,t4,t5,t6,t7,t8⟩:=HS.out _ hb
   exact⟨t0,t4,t5,t6,t7,t8⟩
  refine wp_region_held_drew (S:=fun w'=>w'.cell? ⟨sb,0,none⟩=some (.pointer (some ⟨a.m,0,none⟩))∧w'.cell? ⟨a.m,2,none⟩=some (.slice (some ⟨pb,0,none⟩) M.pr.length cp)∧w'.cell? ⟨a.th,x*10+2,none⟩=some (.int .i64 (g:Int))∧w'.cell? ⟨pb,g,none⟩=some (.slice ap p.len cap)∧w'.cell? ⟨a.th,x*10+7,none⟩=some (.int .i64 ia)∧w'.cell? ⟨a.th,x*10+8,none⟩=some (.int .i64 il)) (by kernel_rfl) ?_ (fun hHeld=> ?_)
  ·exact HS2.out _ (bq (bq HZ.out))
  refine aB 0 (v:= ?_) rfl ?v0 ?_
  case v0=>(intro w hSw;(try dsimp only at hSw);obtain⟨hSa,hSb,hSc,hSd,hSe,hSf⟩:=hSw;go_simp;try with_reducible rfl)
  try simp only[ao]
  refine aB 1 (v:= ?_) rfl ?v1 ?_
  case v1=>(intro w hSw;(try dsimp only at hSw);obtain⟨hSa,hSb,hSc,hSd,hSe,hSf⟩:=hSw;go_simp;try with_reducible rfl)
  try simp only[ao]
  refine aB 2 (v:= ?_) rfl ?v2 ?_
  case v2=>(intro w hSw;(try dsimp only at hSw);obtain⟨hSa,hSb,hSc,hSd,hSe,hSf⟩:=hSw;go_simp;try with_reducible rfl)
  try simp only[ao]
  refine aB 3 (v:= ?_) rfl ?v3 ?_
  case v3=>(intro w hSw;(try dsimp only at hSw);obtain⟨hSa,hSb,hSc,hSd,hSe,hSf⟩:=hSw;go_simp;try with_reducible rfl)
  try simp only[ao]
  refine aB 4 (v:= ?_) rfl ?v4 ?_
  case v4=>(intro w hSw;(try dsimp only at hSw);obtain⟨hSa,hSb,hSc,hSd,hSe,hSf⟩:=hSw;go_simp;try with_reducible rfl)
  try simp only[ao]
  refine aB 5 (v:= ?_) rfl ?v5 ?_
  case v5=>(intro w hSw;(try dsimp only at hSw);obtain⟨hSa,hSb,hSc,hSd,hSe,hSf⟩:=hSw;go_simp;try with_reducible rfl)
  try simp only[ao]
  refine aB 6 (v:= ?_) rfl ?v6 ?_
  case v6=>(intro w hSw;(try dsimp only at hSw);obtain⟨hSa,hSb,hSc,hSd,hSe,hSf⟩:=hSw;go_simp;try with_reducible rfl)
  try simp only[ao]
  refine aB 7 (v:= ?_) rfl ?v7 ?_
  case v7=>(intro w hSw;(try dsimp only at hSw);obtain⟨hSa,hSb,hSc,hSd,hSe,hSf⟩:=hSw;go_simp;try with_reducible rfl)
  try simp only[ao]
  refine aB 8 (v:= ?_) rfl ?v8 ?_
  case v8=>(intro w hSw;(try dsimp only at hSw);obtain⟨hSa,hSb,hSc,hSd,hSe,hSf⟩:=hSw;go_simp;try with_reducible rfl)
  try simp only[ao]
  refine aB 9 (v:= ?_) rfl ?v9 ?_
  case v9=>(intro w hSw;(try dsimp only at hSw);obtain⟨hSa,hSb,hSc,hSd,hSe,hSf⟩:=hSw;go_simp;try with_reducible rfl)
  try simp only[ao]
  refine aB 10 (v:= ?_) rfl ?v10 ?_
  case v10=>(intro w hSw;(try dsimp only at hSw);obtain⟨hSa,hSb,hSc,hSd,hSe,hSf⟩:=hSw;go_simp;try with_reducible rfl)
  try simp only[ao]
  refine aB 11 (v:= ?_) rfl ?v11 ?_
  case v11=>(intro w hSw;(try dsimp only at hSw);obtain⟨hSa,hSb,hSc,hSd,hSe,hSf⟩:=hSw;go_simp;try with_reducible rfl)
  try simp only[ao]
  refine aB 12 (v:= ?_) rfl ?v12 ?_
  case v12=>(intro w hSw;(try dsimp only at hSw);obtain⟨hSa,hSb,hSc,hSd,hSe,hSf⟩:=hSw;go_simp;try with_reducible rfl)
  try simp only[ao]
  refine aB 13 (v:= ?_) rfl ?v13 ?_
  case v13=>(intro w hSw;(try dsimp only at hSw);obtain⟨hSa,hSb,hSc,hSd,hSe,hSf⟩:=hSw;go_simp;try with_reducible rfl)
  try simp only[ao]
  refine aB 14 (v:= ?_) rfl ?v14 ?_
  case v14=>(intro w hSw;(try dsimp only at hSw);obtain⟨hSa,hSb,hSc,hSd,hSe,hSf⟩:=hSw;go_simp;try with_reducible rfl)
  try simp only[ao]
  refine aB 15 (v:= ?_) rfl ?v15 ?_
  case v15=>(intro w hSw;(try dsimp only at hSw);obtain⟨hSa,hSb,hSc,hSd,hSe,hSf⟩:=hSw;go_simp;try with_reducible rfl)
  try simp only[ao]
  refine aB 16 (v:= ?_) rfl ?v16 ?_
  case v16=>(intro w hSw;(try dsimp only at hSw);obtain⟨hSa,hSb,hSc,hSd,hSe,hSf⟩:=hSw;go_simp;try with_reducible rfl)
  try simp only[ao]
  refine wpAnyH_ready (rs:=[17,22,23]) (by kernel_rfl) (by simp) ?_
  refine AllReadyH.cons rfl (fun K hK=> ?_) (AllReadyH.cons rfl (fun K hK=> ?_) (AllReadyH.cons rfl (fun K hK=> ?_) AllReadyH.nil))
  ·skip
   go_simp
   go_at_call 67
   refine(HST.out _ (by repeat first|exact ak HZ.out rfl rfl rfl rfl|apply aG|apply bq)).mono ?_
   rintro e w2 ⟨rfl,hb,hv⟩
   have hlt:=hb.size
   have HB2:=aa hb
   clear hb hv
   refine hK.out _ _ ?_ (fun hHeld=> ?_)
   ·exact HS2.out _ (by repeat first|exact HB2.out|exact ak HZ.out rfl rfl rfl rfl|apply aG|apply bP|exact Nat.le_refl _|omega|apply bq)
   clear hK K
   try simp only[ao]
   refine aB 18 (v:= ?_) rfl ?v18 ?_
   case v18=>(intro w hSw;(try dsimp only at hSw);obtain⟨hSa,hSb,hSc,hSd,hSe,hSf⟩:=hSw;go_simp;try with_reducible rfl)
   try simp only[ao]
   refine aB 19 (v:= ?_) rfl ?v19 ?_
   case v19=>(intro w hSw;(try dsimp only at hSw);obtain⟨hSa,hSb,hSc,hSd,hSe,hSf⟩:=hSw;go_simp;try with_reducible rfl)
   try simp only[ao]
   refine aB 20 (v:= ?_) rfl ?v20 ?_
   case v20=>(intro w hSw;(try dsimp only at hSw);obtain⟨hSa,hSb,hSc,hSd,hSe,hSf⟩:=hSw;go_simp;try with_reducible rfl)
   try simp only[ao]
   refine aB 21 (v:= ?_) rfl ?v21 ?_
   case v21=>(intro w hSw;(try dsimp only at hSw);obtain⟨hSa,hSb,hSc,hSd,hSe,hSf⟩:=hSw;go_simp;try with_reducible rfl)
   try simp only[ao]
   refine wpAnyH_ready (rs:=[22,23]) (by kernel_rfl) (by simp) ?_
   refine AllReadyH.cons rfl (fun K hK=> ?_) (AllReadyH.cons rfl (fun K hK=> ?_) AllReadyH.nil)
   ·skip
    go_simp
    refine hK.out _ _ ?_ (fun hHeld=> ?_)
    ·exact HS2.out _ (by repeat first|exact HB2.out|exact ak HZ.out rfl rfl rfl rfl|apply aG|apply bP|exact Nat.le_refl _|omega|apply bq)
    clear hK K
    try simp only[ao]
    refine aY 23 rfl (fun K hK=> ?_)
    go_simp
    refine hK.out _ _ ?_ (fun hHeld=> ?_)
    ·exact HS2.out _ (by repeat first|exact HB2.out|exact ak HZ.out rfl rfl rfl rfl|apply aG|apply bP|exact Nat.le_refl _|omega|apply bq)
    clear hK K
    try simp only[ao]
    refine aY 24 rfl (fun K hK=> ?_)
    go_simp
    refine hK.out _ _ ?_ (fun hHeld=> ?_)
    ·exact HS2.out _ (by repeat first|exact HB2.out|exact ak HZ.out rfl rfl rfl rfl|apply aG|apply bP|exact Nat.le_refl _|omega|apply bq)
    clear hK K
    try simp only[ao]
    refine aY 25 rfl (fun K hK=> ?_)
    go_simp
    refine hK.out _ _ ?_ (fun hHeld=> ?_)
    ·exact HS2.out _ (by repeat first|exact HB2.out|exact ak HZ.out rfl rfl rfl rfl|apply aG|apply bP|exact Nat.le_refl _|omega|apply bq)
    clear hK K
    try simp only[ao]
    refine aB 26 (v:= ?_) rfl ?v26 ?_
    case v26=>(intro w hSw;(try dsimp only at hSw);obtain⟨hSa,hSb,hSc,hSd,hSe,hSf⟩:=hSw;go_simp;try with_reducible rfl)
    try simp only[ao]
    refine wpAnyH_done (by kernel_rfl) ?_ _
    go_wp2
    go_meet
    case rel=>
     refine⟨_,_,rfl,rfl,rfl,?_⟩
     first
     |exact kT HB2.out
     |exact jj HB2.out
     |exact kM HB2.out HZ1.out hlt
     |exact jz HB2.out HZ1.out hlt
     |exact fI HB2.out ⟨by omega,by omega⟩ ⟨by omega,by omega⟩ (by omega) HZ1.out HZ2.out
     |exact fI HB2.out ⟨by omega,by omega⟩ ⟨by omega,by omega⟩ (by omega) HZ2.out HZ1.out
   ·skip
    go_simp
    refine hK.out _ _ ?_ (fun hHeld=> ?_)
    ·exact HS2.out _ (by repeat first|exact HB2.out|exact ak HZ.out rfl rfl rfl rfl|apply aG|apply bP|exact Nat.le_refl _|omega|apply bq)
    clear hK K
    try simp only[ao]
    refine aY 22 rfl (fun K hK=> ?_)
    go_simp
    refine hK.out _ _ ?_ (fun hHeld=> ?_)
    ·exact HS2.out _ (by repeat first|exact HB2.out|exact ak HZ.out rfl rfl rfl rfl|apply aG|apply bP|exact Nat.le_refl _|omega|apply bq)
    clear hK K
    try simp only[ao]
    refine aY 24 rfl (fun K hK=> ?_)
    go_simp
    refine hK.out _ _ ?_ (fun hHeld=> ?_)
    ·exact HS2.out _ (by repeat first|exact HB2.out|exact ak HZ.out rfl rfl rfl rfl|apply aG|apply bP|exact Nat.le_refl _|omega|apply bq)
    clear hK K
    try simp only[ao]
    refine aY 25 rfl (fun K hK=> ?_)
    go_simp
    refine hK.out _ _ ?_ (fun hHeld=> ?_)
    ·exact HS2.out _ (by repeat first|exact HB2.out|exact ak HZ.out rfl rfl rfl rfl|apply aG|apply bP|exact Nat.le_refl _|omega|apply bq)
    clear hK K
    try simp only[ao]
    refine aB 26 (v:= ?_) rfl ?v26 ?_
    case v26=>(intro w hSw;(try dsimp only at hSw);obtain⟨hSa,hSb,hSc,hSd,hSe,hSf⟩:=hSw;go_simp;try with_reducible rfl)
    try simp only[ao]
    refine wpAnyH_done (by kernel_rfl) ?_ _
    go_wp2
    go_meet
    case rel=>
     refine⟨_,_,rfl,rfl,rfl,?_⟩
     first
     |exact kT HB2.out
     |exact jj HB2.out
     |exact kM HB2.out HZ1.out hlt
     |exact jz HB2.out HZ1.out hlt
     |exact fI HB2.out ⟨by omega,by omega⟩ ⟨by omega,by omega⟩ (by omega) HZ1.out HZ2.out
     |exact fI HB2.out ⟨by omega,by omega⟩ ⟨by omega,by omega⟩ (by omega) HZ2.out HZ1.out
  ·skip
   go_simp
   refine hK.out _ _ ?_ (fun hHeld=> ?_)
   ·exact HS2.out _ (by repeat first|exact HB2.out|exact ak HZ.out rfl rfl rfl rfl|apply aG|apply bP|exact Nat.le_refl _|omega|apply bq)
   clear hK K
   try simp only[ao]
   refine wpAnyH_ready (rs:=[17,23]) (by kernel_rfl) (by simp) ?_
   refine AllReadyH.cons rfl (fun K hK=> ?_) (AllReadyH.cons rfl (fun K hK=> ?_) AllReadyH.nil)
   ·skip
    go_simp
    go_at_call 67
    refine(HST.out _ (by repeat first|exact ak HZ.out rfl rfl rfl rfl|apply aG|apply bq)).mono ?_
    rintro e w2 ⟨rfl,hb,hv⟩
    obtain⟨z1,hlt⟩:=Zb.Dj (W:=W) (t:=64) hv rfl
    have HZ1:=aa z1
    have z1a:=fun o=>z1.kept (V':=w2.alloc o) (Below.heap_alloc _ _ _ hlt)
    obtain⟨q0,q1,f0,f1⟩:=z1
    have r0:=fun o=>(z1a o).c0
    have r1:=fun o=>(z1a o).c1
    have g0:=fun o=>(z1a o).f0
    have g1:=fun o=>(z1a o).f1
    have n1: ¬W.heap.size=w2.heap.size:=by omega
    have n2: ¬w2.heap.size=W.heap.size:=by omega
    clear z1a
    have HB2:=aa hb
    clear hb hv
    refine hK.out _ _ ?_ (fun hHeld=> ?_)
    ·exact HS2.out _ (by repeat first|exact HB2.out|exact ak HZ.out rfl rfl rfl rfl|apply aG|apply bP|exact Nat.le_refl _|omega|apply bq)
    clear hK K
    try simp only[ao]
    refine aB 18 (v:= ?_) rfl ?v18 ?_
    case v18=>(intro w hSw;(try dsimp only at hSw);obtain⟨hSa,hSb,hSc,hSd,hSe,hSf⟩:=hSw;go_simp;try with_reducible rfl)
    try simp only[ao]
    refine aB 19 (v:= ?_) rfl ?v19 ?_
    case v19=>(intro w hSw;(try dsimp only at hSw);obtain⟨hSa,hSb,hSc,hSd,hSe,hSf⟩:=hSw;go_simp;try with_reducible rfl)
    try simp only[ao]
    refine aB 20 (v:= ?_) rfl ?v20 ?_
    case v20=>(intro w hSw;(try dsimp only at hSw);obtain⟨hSa,hSb,hSc,hSd,hSe,hSf⟩:=hSw;go_simp;try with_reducible rfl)
    try simp only[ao]
    refine aB 21 (v:= ?_) rfl ?v21 ?_
    case v21=>(intro w hSw;(try dsimp only at hSw);obtain⟨hSa,hSb,hSc,hSd,hSe,hSf⟩:=hSw;go_simp;try with_reducible rfl)
    try simp only[ao]
    refine aY 23 rfl (fun K hK=> ?_)
    go_simp
    refine hK.out _ _ ?_ (fun hHeld=> ?_)
    ·exact HS2.out _ (by repeat first|exact HB2.out|exact ak HZ.out rfl rfl rfl rfl|apply aG|apply bP|exact Nat.le_refl _|omega|apply bq)
    clear hK K
    try simp only[ao]
    refine aY 24 rfl (fun K hK=> ?_)
    go_simp
    refine hK.out _ _ ?_ (fun hHeld=> ?_)
    ·exact HS2.out _ (by repeat first|exact HB2.out|exact ak HZ.out rfl rfl rfl rfl|apply aG|apply bP|exact Nat.le_refl _|omega|apply bq)
    clear hK K
    try simp only[ao]
    refine aY 25 rfl (fun K hK=> ?_)
    go_simp
    refine hK.out _ _ ?_ (fun hHeld=> ?_)
    ·exact HS2.out _ (by repeat first|exact HB2.out|exact ak HZ.out rfl rfl rfl rfl|apply aG|apply bP|exact Nat.le_refl _|omega|apply bq)
    clear hK K
    try simp only[ao]
    refine aB 26 (v:= ?_) rfl ?v26 ?_
    case v26=>(intro w hSw;(try dsimp only at hSw);obtain⟨hSa,hSb,hSc,hSd,hSe,hSf⟩:=hSw;go_simp;try with_reducible rfl)
    try simp only[ao]
    refine wpAnyH_done (by kernel_rfl) ?_ _
    go_wp2
    go_meet
    case rel=>
     refine⟨_,_,rfl,rfl,rfl,?_⟩
     first
     |exact kT HB2.out
     |exact jj HB2.out
     |exact kM HB2.out HZ1.out hlt
     |exact jz HB2.out HZ1.out hlt
     |exact fI HB2.out ⟨by omega,by omega⟩ ⟨by omega,by omega⟩ (by omega) HZ1.out HZ2.out
     |exact fI HB2.out ⟨by omega,by omega⟩ ⟨by omega,by omega⟩ (by omega) HZ2.out HZ1.out
   ·skip
    go_simp
    refine hK.out _ _ ?_ (fun hHeld=> ?_)
    ·exact HS2.out _ (by repeat first|exact HB2.out|exact ak HZ.out rfl rfl rfl rfl|apply aG|apply bP|exact Nat.le_refl _|omega|apply bq)
    clear hK K
    try simp only[ao]
    refine aY 17 rfl (fun K hK=> ?_)
    go_simp
    go_at_call 67
    refine(HST.out _ (by repeat first|exact ak HZ.out rfl rfl rfl rfl|apply aG|apply bq)).mono ?_
    rintro e w2 ⟨rfl,hb,hv⟩
    obtain⟨z1,z2,hlt⟩:=Zb.Db (W:=W) (t:=64) (t':=109) hv rfl
    have HZ1:=aa z1
    have HZ2:=aa z2
    obtain⟨q0,q1,f0,f1⟩:=z1
    obtain⟨q2,q3,f2,f3⟩:=z2
    have HB2:=aa hb
    clear hb hv
    refine hK.out _ _ ?_ (fun hHeld=> ?_)
    ·exact HS2.out _ (by repeat first|exact HB2.out|exact ak HZ.out rfl rfl rfl rfl|apply aG|apply bP|exact Nat.le_refl _|omega|apply bq)
    clear hK K
    try simp only[ao]
    refine aB 18 (v:= ?_) rfl ?v18 ?_
    case v18=>(intro w hSw;(try dsimp only at hSw);obtain⟨hSa,hSb,hSc,hSd,hSe,hSf⟩:=hSw;go_simp;try with_reducible rfl)
    try simp only[ao]
    refine aB 19 (v:= ?_) rfl ?v19 ?_
    case v19=>(intro w hSw;(try dsimp only at hSw);obtain⟨hSa,hSb,hSc,hSd,hSe,hSf⟩:=hSw;go_simp;try with_reducible rfl)
    try simp only[ao]
    refine aB 20 (v:= ?_) rfl ?v20 ?_
    case v20=>(intro w hSw;(try dsimp only at hSw);obtain⟨hSa,hSb,hSc,hSd,hSe,hSf⟩:=hSw;go_simp;try with_reducible rfl)
    try simp only[ao]
    refine aB 21 (v:= ?_) rfl ?v21 ?_
    case v21=>(intro w hSw;(try dsimp only at hSw);obtain⟨hSa,hSb,hSc,hSd,hSe,hSf⟩:=hSw;go_simp;try with_reducible rfl)
    try simp only[ao]
    refine aY 24 rfl (fun K hK=> ?_)
    go_simp
    refine hK.out _ _ ?_ (fun hHeld=> ?_)
    ·exact HS2.out _ (by repeat first|exact HB2.out|exact ak HZ.out rfl rfl rfl rfl|apply aG|apply bP|exact Nat.le_refl _|omega|apply bq)
    clear hK K
    try simp only[ao]
    refine aY 25 rfl (fun K hK=> ?_)
    go_simp
    refine hK.out _ _ ?_ (fun hHeld=> ?_)
    ·exact HS2.out _ (by repeat first|exact HB2.out|exact ak HZ.out rfl rfl rfl rfl|apply aG|apply bP|exact Nat.le_refl _|omega|apply bq)
    clear hK K
    try simp only[ao]
    refine aB 26 (v:= ?_) rfl ?v26 ?_
    case v26=>(intro w hSw;(try dsimp only at hSw);obtain⟨hSa,hSb,hSc,hSd,hSe,hSf⟩:=hSw;go_simp;try with_reducible rfl)
    try simp only[ao]
    refine wpAnyH_done (by kernel_rfl) ?_ _
    go_wp2
    go_meet
    case rel=>
     refine⟨_,_,rfl,rfl,rfl,?_⟩
     first
     |exact kT HB2.out
     |exact jj HB2.out
     |exact kM HB2.out HZ1.out hlt
     |exact jz HB2.out HZ1.out hlt
     |exact fI HB2.out ⟨by omega,by omega⟩ ⟨by omega,by omega⟩ (by omega) HZ1.out HZ2.out
     |exact fI HB2.out ⟨by omega,by omega⟩ ⟨by omega,by omega⟩ (by omega) HZ2.out HZ1.out
  ·skip
   go_simp
   refine hK.out _ _ ?_ (fun hHeld=> ?_)
   ·exact HS2.out _ (by repeat first|exact HB2.out|exact ak HZ.out rfl rfl rfl rfl|apply aG|apply bP|exact Nat.le_refl _|omega|apply bq)
   clear hK K
   try simp only[ao]
   refine wpAnyH_ready (rs:=[17,22]) (by kernel_rfl) (by simp) ?_
   refine AllReadyH.cons rfl (fun K hK=> ?_) (AllReadyH.cons rfl (fun K hK=> ?_) AllReadyH.nil)
   ·skip
    go_simp
    go_at_call 67
    refine(HST.out _ (by repeat first|exact ak HZ.out rfl rfl rfl rfl|apply aG|apply bq)).mono ?_
    rintro e w2 ⟨rfl,hb,hv⟩
    obtain⟨z1,hlt⟩:=Zb.Dj (W:=W) (t:=109) hv rfl
    have HZ1:=aa z1
    have z1a:=fun o=>z1.kept (V':=w2.alloc o) (Below.heap_alloc _ _ _ hlt)
    obtain⟨q0,q1,f0,f1⟩:=z1
    have r0:=fun o=>(z1a o).c0
    have r1:=fun o=>(z1a o).c1
    have g0:=fun o=>(z1a o).f0
    have g1:=fun o=>(z1a o).f1
    have n1: ¬W.heap.size=w2.heap.size:=by omega
    have n2: ¬w2.heap.size=W.heap.size:=by omega
    clear z1a
    have HB2:=aa hb
    clear hb hv
    refine hK.out _ _ ?_ (fun hHeld=> ?_)
    ·exact HS2.out _ (by repeat first|exact HB2.out|exact ak HZ.out rfl rfl rfl rfl|apply aG|apply bP|exact Nat.le_refl _|omega|apply bq)
    clear hK K
    try simp only[ao]
    refine aB 18 (v:= ?_) rfl ?v18 ?_
    case v18=>(intro w hSw;(try dsimp only at hSw);obtain⟨hSa,hSb,hSc,hSd,hSe,hSf⟩:=hSw;go_simp;try with_reducible rfl)
    try simp only[ao]
    refine aB 19 (v:= ?_) rfl ?v19 ?_
    case v19=>(intro w hSw;(try dsimp only at hSw);obtain⟨hSa,hSb,hSc,hSd,hSe,hSf⟩:=hSw;go_simp;try with_reducible rfl)
    try simp only[ao]
    refine aB 20 (v:= ?_) rfl ?v20 ?_
    case v20=>(intro w hSw;(try dsimp only at hSw);obtain⟨hSa,hSb,hSc,hSd,hSe,hSf⟩:=hSw;go_simp;try with_reducible rfl)
    try simp only[ao]
    refine aB 21 (v:= ?_) rfl ?v21 ?_
    case v21=>(intro w hSw;(try dsimp only at hSw);obtain⟨hSa,hSb,hSc,hSd,hSe,hSf⟩:=hSw;go_simp;try with_reducible rfl)
    try simp only[ao]
    refine aY 22 rfl (fun K hK=> ?_)
    go_simp
    refine hK.out _ _ ?_ (fun hHeld=> ?_)
    ·exact HS2.out _ (by repeat first|exact HB2.out|exact ak HZ.out rfl rfl rfl rfl|apply aG|apply bP|exact Nat.le_refl _|omega|apply bq)
    clear hK K
    try simp only[ao]
    refine aY 24 rfl (fun K hK=> ?_)
    go_simp
    refine hK.out _ _ ?_ (fun hHeld=> ?_)
    ·exact HS2.out _ (by repeat first|exact HB2.out|exact ak HZ.out rfl rfl rfl rfl|apply aG|apply bP|exact Nat.le_refl _|omega|apply bq)
    clear hK K
    try simp only[ao]
    refine aY 25 rfl (fun K hK=> ?_)
    go_simp
    refine hK.out _ _ ?_ (fun hHeld=> ?_)
    ·exact HS2.out _ (by repeat first|exact HB2.out|exact ak HZ.out rfl rfl rfl rfl|apply aG|apply bP|exact Nat.le_refl _|omega|apply bq)
    clear hK K
    try simp only[ao]
    refine aB 26 (v:= ?_) rfl ?v26 ?_
    case v26=>(intro w hSw;(try dsimp only at hSw);obtain⟨hSa,hSb,hSc,hSd,hSe,hSf⟩:=hSw;go_simp;try with_reducible rfl)
    try simp only[ao]
    refine wpAnyH_done (by kernel_rfl) ?_ _
    go_wp2
    go_meet
    case rel=>
     refine⟨_,_,rfl,rfl,rfl,?_⟩
     first
     |exact kT HB2.out
     |exact jj HB2.out
     |exact kM HB2.out HZ1.out hlt
     |exact jz HB2.out HZ1.out hlt
     |exact fI HB2.out ⟨by omega,by omega⟩ ⟨by omega,by omega⟩ (by omega) HZ1.out HZ2.out
     |exact fI HB2.out ⟨by omega,by omega⟩ ⟨by omega,by omega⟩ (by omega) HZ2.out HZ1.out
   ·skip
    go_simp
    refine hK.out _ _ ?_ (fun hHeld=> ?_)
    ·exact HS2.out _ (by repeat first|exact HB2.out|exact ak HZ.out rfl rfl rfl rfl|apply aG|apply bP|exact Nat.le_refl _|omega|apply bq)
    clear hK K
    try simp only[ao]
    refine aY 17 rfl (fun K hK=> ?_)
    go_simp
    go_at_call 67
    refine(HST.out _ (by repeat first|exact ak HZ.out rfl rfl rfl rfl|apply aG|apply bq)).mono ?_
    rintro e w2 ⟨rfl,hb,hv⟩
    obtain⟨z1,z2,hlt⟩:=Zb.Db (W:=W) (t:=109) (t':=64) hv rfl
    have HZ1:=aa z1
    have HZ2:=aa z2
    obtain⟨q0,q1,f0,f1⟩:=z1
    obtain⟨q2,q3,f2,f3⟩:=z2
    have HB2:=aa hb
    clear hb hv
    refine hK.out _ _ ?_ (fun hHeld=> ?_)
    ·exact HS2.out _ (by repeat first|exact HB2.out|exact ak HZ.out rfl rfl rfl rfl|apply aG|apply bP|exact Nat.le_refl _|omega|apply bq)
    clear hK K
    try simp only[ao]
    refine aB 18 (v:= ?_) rfl ?v18 ?_
    case v18=>(intro w hSw;(try dsimp only at hSw);obtain⟨hSa,hSb,hSc,hSd,hSe,hSf⟩:=hSw;go_simp;try with_reducible rfl)
    try simp only[ao]
    refine aB 19 (v:= ?_) rfl ?v19 ?_
    case v19=>(intro w hSw;(try dsimp only at hSw);obtain⟨hSa,hSb,hSc,hSd,hSe,hSf⟩:=hSw;go_simp;try with_reducible rfl)
    try simp only[ao]
    refine aB 20 (v:= ?_) rfl ?v20 ?_
    case v20=>(intro w hSw;(try dsimp only at hSw);obtain⟨hSa,hSb,hSc,hSd,hSe,hSf⟩:=hSw;go_simp;try with_reducible rfl)
    try simp only[ao]
    refine aB 21 (v:= ?_) rfl ?v21 ?_
    case v21=>(intro w hSw;(try dsimp only at hSw);obtain⟨hSa,hSb,hSc,hSd,hSe,hSf⟩:=hSw;go_simp;try with_reducible rfl)
    try simp only[ao]
    refine aY 24 rfl (fun K hK=> ?_)
    go_simp
    refine hK.out _ _ ?_ (fun hHeld=> ?_)
    ·exact HS2.out _ (by repeat first|exact HB2.out|exact ak HZ.out rfl rfl rfl rfl|apply aG|apply bP|exact Nat.le_refl _|omega|apply bq)
    clear hK K
    try simp only[ao]
    refine aY 25 rfl (fun K hK=> ?_)
    go_simp
    refine hK.out _ _ ?_ (fun hHeld=> ?_)
    ·exact HS2.out _ (by repeat first|exact HB2.out|exact ak HZ.out rfl rfl rfl rfl|apply aG|apply bP|exact Nat.le_refl _|omega|apply bq)
    clear hK K
    try simp only[ao]
    refine aB 26 (v:= ?_) rfl ?v26 ?_
    case v26=>(intro w hSw;(try dsimp only at hSw);obtain⟨hSa,hSb,hSc,hSd,hSe,hSf⟩:=hSw;go_simp;try with_reducible rfl)
    try simp only[ao]
    refine wpAnyH_done (by kernel_rfl) ?_ _
    go_wp2
    go_meet
    case rel=>
     refine⟨_,_,rfl,rfl,rfl,?_⟩
     first
     |exact kT HB2.out
     |exact jj HB2.out
     |exact kM HB2.out HZ1.out hlt
     |exact jz HB2.out HZ1.out hlt
     |exact fI HB2.out ⟨by omega,by omega⟩ ⟨by omega,by omega⟩ (by omega) HZ1.out HZ2.out
     |exact fI HB2.out ⟨by omega,by omega⟩ ⟨by omega,by omega⟩ (by omega) HZ2.out HZ1.out
 case rest=>
  obtain⟨ib,nb,rfl,rfl,rfl,hbx⟩:=hcut
  have hbel:=hbx.mJ
  have HBL:=aa hbel
  obtain⟨v0,v1,v7,v8,vf⟩:=HTH.out _ hbel
  have i0:=hbx.pi.c0
  have i1:=hbx.pi.c1
  have m0:=hbx.pn.c0
  have m1:=hbx.pn.c1
  have hib:=hbx.i
  have hnb:=hbx.n
  have e1: ¬a.th=ib:=by omega
  have e2: ¬ib=a.th:=by omega
  clear hbel hbx HS HST HTH
  cases bz with
  |true=>
   obtain⟨rfl,rfl,rfl,rfl⟩:=HBZ.out rfl
   go_wp2_with (go_at_call 123;refine(HEN.out _ (by exact HBL.out)).mono ?_;rintro e w3 ⟨rfl,hg3⟩;have HG3:=aa hg3;clear hg3)
   simp[bodyPost]
   exact⟨rfl,HG3.out⟩
  |false=>
   have hd:=HDO.out rfl _ HBL.out
   have HD:=aa hd
   clear hd HBZ HEN HDO
   cases ok with
   |true=>
    go_wp2_with (go_at_call 125;refine(HD.out).mono ?_;rintro e w3 ⟨he,hg3⟩;obtain rfl:e= .returned (.tuple #[]):=he;have HG3:=aa hg3;clear hg3)
    go_end0
    exact⟨rfl,HG3.out⟩
   |false=>
    go_wp2_with (go_at_call 125;refine(HD.out).mono ?_;rintro e w3 ⟨he,hg3⟩;obtain rfl:e= .panicked di:=he;have HG3:=aa hg3;clear hg3)
    simp[bodyPost]
    exact⟨rfl,HG3.out⟩
end
section
variable {w W:World} {lab labk:Nat→Nat} {a:Ad} {P n q T T':Nat} {M M':Mc} {sb pr:Nat} {l l':List Ev} {O:Nat→Prop}
theorem SG.rK (h:SG w W lab a P n q T M sb pr l O) (x:Nat) (ar:Int) (ok:Bool)
  (hk: ∀V,SG w V lab a P n q T M sb pr l O→Calls Tryz.prog 156 #[.pointer (some ⟨sb,0,none⟩),.pointer (some ⟨a.th,x*10,none⟩),.agg #[.int .i64 2,.int .i64 ar]] V fun e w'=>e=jR ok∧SX w V w' lab a P n q T' M' sb pr l' O):
  Calls Tryz.prog 125 #[.pointer (some ⟨sb,0,none⟩),.pointer (some ⟨a.th,x*10,none⟩),.agg #[.int .i64 2,.int .i64 ar]] W fun e w'=>e=jR ok∧SX w W w' lab a P n q T' M' sb pr l' O:=by
 have hb0:Below W.heap.size W (W.alloc (.cells #[.int .i64 2,.int .i64 ar] 64)):=(Below.refl _ _).alloc (Nat.le_refl _) _
 have hs0:=h.below hb0
 have h0:=hs0.sx
 have hno: ¬O W.heap.size:=fun q=>by have:=h.lt q;omega
 have HB0:=aa hb0
 have k0:=aT W #[.int .i64 2,.int .i64 ar] 64 0 _ rfl
 have k1:=aT W #[.int .i64 2,.int .i64 ar] 64 1 _ rfl
 have HKB:Hid (∀V T' M' l',SX w (W.alloc (.cells #[.int .i64 2,.int .i64 ar] 64)) V lab a P n q T' M' sb pr l' O→V.cell? ⟨W.heap.size,0,none⟩=some (.int .i64 2)∧V.cell? ⟨W.heap.size,1,none⟩=some (.int .i64 ar)):=fun V T' M' l' hg=>⟨hg.keep hno k0,hg.keep hno k1⟩
 have HR:=aa (hk _ hs0)
 clear h hs0 h0 hb0 hno hk
 cases ok with
 |true=>
  go_enter Tryz.func125,Tryz.ntmps125
  go_wp2_with (go_at_call 156;refine(HR.out).mono ?_;rintro e w1 ⟨he,hg⟩;obtain rfl:e= .returned (.tuple #[]):=he;have HG:=aa hg;clear hg)
  go_end0
  exact⟨rfl,HG.out.ahead HB0.out⟩
 |false=>
  go_enter Tryz.func125,Tryz.ntmps125
  go_wp2_with (go_at_call 156;refine(HR.out).mono ?_;rintro e w1 ⟨he,hg⟩;obtain rfl:e= .panicked di:=he;have HG:=aa hg;clear hg)
  simp[bodyPost]
  first|exact⟨rfl,HG.out.ahead HB0.out⟩|exact HG.out.ahead HB0.out
end
def mB (w w':World) (lab:Nat→Nat) (a:Ad) (P n q T:Nat) (M:Mc) (v:Value):Prop:= ∃lab',ax w' lab' a P n q T M∧mH w w' lab lab'∧Fr (fun k=>lab k≠0) w w'∧ ∀k,v.ownBlock=some k→lab' k=0
section
variable {w W W':World} {lab labk:Nat→Nat} {a:Ad} {P n q T T':Nat} {M M':Mc} {sb pr:Nat} {l:List Ev} {O O0:Nat→Prop} {W0:World}
theorem SX.CN (h:SX w W0 W lab a P n q T M sb pr l O0): ∃v,W.cell? ⟨sb,3,none⟩=some v∧jX W w.heap.size v l∧mB w W lab a P n q T M v:=by
 obtain⟨k,v,s⟩:=h.sp
 exact⟨v,s.c3,s.hv,k,s.at_.i,s.at_.l,s.at_.f,fun k hk=>(s.hk k hk).1⟩
theorem ax.kY (h:ax w lab a P n q T M) (hp:pr<P) (d:Int) (hT:T'+n≤1000000000)
  (hact: ∀W1 O,SG w W1 lab a P n q T M w.heap.size pr [] O→Calls Tryz.prog 39 #[.pointer (some ⟨w.heap.size,0,none⟩),.int .u64 d] W1 fun e w'=>e= .returned (.tuple #[])∧SX w W1 w' lab a P n q T' M' w.heap.size pr l O):
  Calls Tryz.prog 13 #[.pointer (some ⟨a.m,0,none⟩),.int .i64 (pr:Int),.int .u64 d] w fun e w'=> ∃v,e= .returned (.tuple #[v,.int .i64 0])∧jX w' w.heap.size v l∧mB w w' lab a P n q (T'+n) (Go.Proofs.YtjlbmmiomfpgiaaGreatDoor.settle M' n) v:=by
 have HP:=aa (h.yo (pr:Int))
 have hyes:rM P (pr:Int)=true:=by unfold rM;simp;omega
 rw[hyes] at HP
 have c3:=h.co.c3
 have hpi:(pr:Int)<(P:Int):=by omega
 obtain⟨O,hs⟩:=SG.start h pr
 have HA:=aa (hact _ O hs)
 generalize hW:w.alloc (.cells #[.pointer (some ⟨a.m,0,none⟩),.int .i64 (pr:Int),.pointer (some ⟨a.pr,pr*3,none⟩),.slice none 0 0] 104)=W1 at*
 have HW:=aa hW
 have HST:Hid (∀V,SX w W1 V lab a P n q T' M' w.heap.size pr l O→Calls Tryz.prog 40 #[.pointer (some ⟨a.m,0,none⟩)] V fun e w'=>e= .returned (.tuple #[])∧SX w W1 w' lab a P n q (T'+n) (Go.Proofs.YtjlbmmiomfpgiaaGreatDoor.settle M' n) w.heap.size pr l O):=fun V h=>h.lift (R:=fun e=>e= .returned (.tuple #[])) fun _ i=>i.settle hT
 have hbt:=fun w=>yf ⟨a.m,0,none⟩ ⟨a.pr,pr*3,none⟩ (pr:Int) w
 clear h hs hW hact
 go_enter Tryz.func13,Tryz.ntmps13
 go_upto_region 6 with (first
  |(go_at_call 38;refine(HP.out).mono ?_;rintro e w1 ⟨rfl,hw⟩;replace hw:=hw.symm;subst hw))
 rw[HW.out]
 go_upto_region 8 with (first
  |(go_at_call 39;refine(HA.out).mono ?_;rintro e w2 ⟨rfl,hg⟩;have HG2:=aa hg;clear hg)
  |(go_at_call 40;refine(HST.out _ HG2.out).mono ?_;rintro e w3 ⟨rfl,hg⟩;have HG3:=aa hg;clear hg))
 obtain⟨v,z3,hev,hgo⟩:=HG3.out.CN
 obtain⟨ad,cap,rfl⟩:=Cb.aI hev
 have HE:=aa (And.intro hev hgo)
 clear hev hgo
 go_wp2
 go_ret2
 exact⟨_,rfl,HE.out.1,HE.out.2⟩
end
section
variable {w W W':World} {lab labk:Nat→Nat} {a:Ad} {P n q T T':Nat} {M M':Mc}
theorem aw.B5 {w':World} (h:aw w w' lab a P n q T M) (o:Obj):mB w (w'.alloc o) lab a P n q T M (.slice (some ⟨w'.heap.size,0,none⟩) 1 1):=by
 obtain⟨lab',hi,hl,hf⟩:=h
 have hb:Below w'.heap.size w' (w'.alloc o):=(Below.refl _ _).alloc (Nat.le_refl _) _
 have hi2:=hi.below hb
 have hf2:Fr (fun k=>lab k≠0) w (w'.alloc o):=hf.then (da (S:=fun _=>False) hb) (fun _ _ q=>q.elim)
 refine⟨lab',hi2,⟨hl.old,hi2.lt⟩,hf2,fun k hk=> ?_⟩
 have:w'.heap.size=k:=by simpa [Value.ownBlock] using hk
 exact hi.fresh (by omega)
theorem ax.qp (h:ax w lab a P n q T M) (hT:T+n+1+n≤1000000000) (hG:wW M n) (pg:Int) (lv:Nat) (hlv:lv<256) (sv:Int) (hno:fF M pg sv=false) (x:Nat) (hf:cm M n=some x):
  Calls Tryz.prog 19 #[.pointer (some ⟨a.m,0,none⟩),.int .i64 pg,.int .u8 (lv:Int),.int .i64 sv] w fun e w'=> ∃v,e= .returned (.tuple #[v,.int .i64 0])∧jX w' w.heap.size v [⟨9,0,(x:Int),M.G x+1,pg,0⟩]∧mB w w' lab a P n q (T+n+1+n) (bW P n q M x pg lv sv) v:=by
 have HP:=aa (h.xM pg)
 have HL:=aa h.Cx
 obtain⟨g,hg⟩: ∃g,M.G x+1=g:=⟨_,rfl⟩
 have HB:Hid (Calls Tryz.prog 51 #[.pointer (some ⟨a.m,0,none⟩),.int .i64 0,.agg #[.int .i64 0,.int .u32 0,.int .i64 pg,.int .u8 (lv:Int),.int .u8 0,.int .i64 sv,.int .i64 0,.int .i64 0,.int .i64 0,.int .u64 0]] w fun e w'=>e= .returned (.tuple #[.agg #[.int .i64 9,.int .i64 0,.int .i64 (x:Int),.int .u32 (g:Int),.int .i64 pg,.int .i64 0],.int .i64 0])∧aw w w' lab a P n q (T+n+1) (dv P n q M x 0 (cC pg lv sv))):=by
  have:=h.tL (by omega) hG 0 (cC pg lv sv) (wB pg lv sv hlv) x hf
  rw[hg] at this
  exact this
 have c6:=h.co.c6
 have hz:=h.t0.pos
 have HST:Hid (∀W lab1,At w W lab lab1 a P n q (T+n+1) (dv P n q M x 0 (cC pg lv sv))→ ∀b,lab1 b=0→jl W b ⟨9,0,(x:Int),g,pg,0⟩→Calls Tryz.prog 40 #[.pointer (some ⟨a.m,0,none⟩)] W fun e w'=>e= .returned (.tuple #[])∧aw w w' lab a P n q (T+n+1+n) (bW P n q M x pg lv sv)∧jl w' b ⟨9,0,(x:Int),g,pg,0⟩):=fun W lab1 A b hb he=>by
  refine(A.i.settle hT).mono ?_
  rintro e w' ⟨rfl,hgo⟩
  obtain⟨lab2,A2,ho,hfr⟩:=A.step hgo
  exact⟨rfl,A2.goes,he.kept (hfr.box hb he.lt)⟩
 unfold fF at hno
 clear h
 generalize M.sv.length=len at*
 have hp:gS M pg=true:=by cases e:gS M pg<;>simp[e] at hno⊢
 have h1: ¬sv< -1:=by intro e;simp[e] at hno
 have h2: ¬(len:Int)≤sv:=by intro e;simp[e] at hno
 have d1:decide (sv< -1)=false:=decide_eq_false h1
 have d2:decide ((len:Int)≤sv)=false:=decide_eq_false h2
 rw[hp] at HP
 have hbt:=fun w=>xh pg (lv:Int) sv w
 rw[hg]
 go_enter Tryz.func19,Tryz.ntmps19
 go_upto_region 8 with (first
  |(go_at_call 49;refine(HP.out).mono ?_;rintro e w1 ⟨rfl,hw⟩;replace hw:=hw.symm;subst hw)
  |(go_at_call 50;refine(HL.out).mono ?_;rintro e w1 ⟨rfl,hw⟩;replace hw:=hw.symm;subst hw)
  |(go_at_call 51;refine(HB.out).mono ?_;rintro e w1 ⟨rfl,hb⟩;have HB1:=aa hb;clear hb))
 obtain⟨lab1,A1⟩:=HB1.out.open hz
 have A2:=A1.new (.cells #[.int .i64 9,.int .i64 0,.int .i64 (x:Int),.int .u32 (g:Int),.int .i64 pg,.int .i64 0] 75)
 have hl:=A1.fresh (Nat.le_refl _)
 have he:jl (w1.alloc (.cells #[.int .i64 9,.int .i64 0,.int .i64 (x:Int),.int .u32 (g:Int),.int .i64 pg,.int .i64 0] 75)) w1.heap.size ⟨9,0,(x:Int),g,pg,0⟩:=⟨aT _ _ _ 0 _ rfl,aT _ _ _ 1 _ rfl,aT _ _ _ 2 _ rfl,aT _ _ _ 3 _ rfl,aT _ _ _ 4 _ rfl,aT _ _ _ 5 _ rfl,fun o=>Gt.aE _ _ _ _⟩
 generalize w1.alloc (.cells #[.int .i64 9,.int .i64 0,.int .i64 (x:Int),.int .u32 (g:Int),.int .i64 pg,.int .i64 0] 75)=W1 at*
 have HS1:=aa (HST.out W1 lab1 A2 w1.heap.size hl he)
 clear HST A1 A2 hl he HB1 HB HP HL
 go_wp2_with (first
  |(go_at_call 40;refine(HS1.out).mono ?_;rintro e w2 ⟨rfl,hgo,⟨e0,e1,e2,e3,e4,e5,ef⟩⟩;have HG2:=aa hgo;clear hgo))
 go_ret2
 exact⟨_,rfl,jX.one w2 w.heap.size HG2.out.size ⟨9,0,(x:Int),g,pg,0⟩,HG2.out.B5 _⟩
end
section
variable {w wr w':World} {ad:Ad} {P n q T T':Nat} {M M':Mc} {K:Nat→Prop}
end
noncomputable def tz (M:Mc) (n x:Nat):List Value:=[.int .i64 (x:Int),.int .u32 (M.G x:Int),.int .i64 (cU M n (M.th x):Int),.bool (Pi.aR M.gr.T M.gr.L (x:Int)).e,.int .u64 (Pi.aR M.gr.T M.gr.L (x:Int)).d,.int .u8 (Pi.aR M.gr.T M.gr.L (x:Int)).l,.int .u8 ((M.th x).lv:Int),.int .i64 (M.th x).sv,.int .i64 (M.th x).pc,.int .i64 (M.th x).ia,.int .i64 (M.th x).il]
noncomputable def gP (M:Mc) (n:Nat) (l:List Nat):List Value:=l.flatMap (tz M n)
theorem qH (M:Mc) (n:Nat) (l:List Nat) (x:Nat):gP M n (l++[x])=gP M n l++tz M n x:=by unfold gP;rw[List.flatMap_append];simp
theorem wL (M:Mc) (n x:Nat): ∀u∈tz M n x,u.oneCell'=true:=by
 intro u hu
 simp[tz] at hu
 rcases hu with rfl|rfl|rfl|rfl|rfl|rfl|rfl|rfl|rfl|rfl|rfl<;>rfl
theorem xK:(Tryz.prog.info? 69).map (fun i=>(i.zero,i.size,i.bytes))=some (some (.agg #[.int .i64 0,.int .u32 0,.int .i64 0,.bool false,.int .u64 0,.int .u8 0,.int .u8 0,.int .i64 0,.int .i64 0,.int .i64 0,.int .i64 0]),11,88):=by kernel_rfl
theorem uv (i g s:Int) (e:Bool) (d l lv sv pc ia il:Int) (w:World):(Instr.build 69 #[(0,.agg #[.int .i64 i,.int .u32 g]),(1,.int .i64 s),(2,.agg #[.bool e,.int .u64 d,.int .u8 l]),(3,.int .u8 lv),(4,.int .i64 sv),(5,.int .i64 pc),(6,.int .i64 ia),(7,.int .i64 il)]).run Tryz.prog w= .ok (.agg #[.int .i64 i,.int .u32 g,.int .i64 s,.bool e,.int .u64 d,.int .u8 l,.int .u8 lv,.int .i64 sv,.int .i64 pc,.int .i64 ia,.int .i64 il]) w:=run_build w 69 _ _ (by kernel_rfl)
section
variable {w w':World} {lab:Nat→Nat} {a:Ad} {P n q T:Nat} {M:Mc}
theorem ax.threads (h:ax w lab a P n q T M):
  Calls Tryz.prog 23 #[.pointer (some ⟨a.m,0,none⟩)] w fun e w'=> ∃v,e= .returned v∧w'.ownsRow w.heap.size 69 11 v (bc M n).length (gP M n (bc M n))∧Below w.heap.size w w':=by
 obtain⟨i0',hi0,hz0,hz1,hz2⟩:=Cb.info_parts xK
 have HLI:Hid (Calls Tryz.prog 53 #[.pointer (some ⟨a.tb,0,none⟩)] w fun e w'=> ∃ad cap,e= .returned (.slice ad (bc M n).length cap)∧Lv w' lab ad (bc M n) M.G∧Below w.heap.size w w'):=h.live.mono (fun e w' ⟨v,he,ho,hb⟩=>by
  obtain⟨ad,cap,rfl,hl⟩:=Lv.of h ho
  exact⟨ad,cap,he,hl,hb⟩)
 have c5:=h.co.c5
 have HM:Hid (∀V,Below w.heap.size w V→ax V lab a P n q T M):=fun V hb=>h.below hb
 have hLn:=mL M n
 have hLt:=lu M n
 have hnn:=h.hn
 obtain⟨L,hL⟩: ∃L,bc M n=L:=⟨_,rfl⟩
 rw[hL] at HLI hLn hLt⊢
 clear h hL
 have hbt:=uv
 go_enter Tryz.func23,Tryz.ntmps23
 go_wp2_with (go_at_call 53;refine(HLI.out).mono ?_;rintro e w1 ⟨ad,cap,rfl,hlv,hb1⟩;have HLV:=aa hlv;have HB1:=aa hb1;clear hlv hb1)
 go_loopw [3,15] (fun sv iv wr=> ∃(j:Nat) (ar:Option Addr) (cr:Nat),j≤L.length∧iv= .int .i64 j∧sv= .slice ar j cr∧wr.ownsRow w1.heap.size 69 11 (.slice ar j cr) j (gP M n (L.take j))∧Below w1.heap.size w1 wr) (fun _ iv _=>L.length-(RowKit.intOf iv).toNat)
 case atStart=>exact⟨0,none,0,by omega,rfl,rfl,⟨rfl,.inl ⟨rfl,rfl⟩⟩,Below.refl _ _⟩
 case round=>
  obtain⟨j,ar,cr,hj,rfl,rfl,hro,hbw⟩:=hrel
  have HRO:=aa hro
  have HBW:=aa hbw
  clear hro hbw
  by_cases hjl:j<L.length
  ·have hjl':(j:Int)<(L.length:Int):=by omega
   obtain⟨x,hx⟩: ∃x,L[j]? =some x:=⟨L[j],List.getElem?_eq_getElem hjl⟩
   obtain⟨rb,had,hrb,r0,r1⟩:=HLV.out.at_ j x hx
   have hxn:=hLt x (List.mem_of_getElem? hx)
   subst had
   replace r0:=kc HBW.out r0
   replace r1:=kc HBW.out r1
   have hB:Below w1.heap.size w1 (wr.alloc (.cells #[.int .i64 (x:Int),.int .u32 (M.G x:Int)] 51)):=aG HBW.out _
   have HMB:=aa (HM.out _ (bt HB1.out hB))
   have ib0:(wr.alloc (.cells #[.int .i64 (x:Int),.int .u32 (M.G x:Int)] 51)).cell? ⟨wr.heap.size,0,none⟩=some (.int .i64 (x:Int)):=aT _ _ _ 0 _ rfl
   have ib1:(wr.alloc (.cells #[.int .i64 (x:Int),.int .u32 (M.G x:Int)] 51)).cell? ⟨wr.heap.size,1,none⟩=some (.int .u32 (M.G x:Int)):=aT _ _ _ 1 _ rfl
   have hro1:(wr.alloc (.cells #[.int .i64 (x:Int),.int .u32 (M.G x:Int)] 51)).ownsRow w1.heap.size 69 11 (.slice ar j cr) j (gP M n (L.take j)):=a7 HRO.out (fun k hk=>Below.heap_alloc _ _ _ (Pi.aq HRO.out hk).2.1)
   have HRO1:=aa hro1
   have HB2:=aa hB
   obtain⟨t,htx⟩: ∃t,M.th x=t:=⟨_,rfl⟩
   have c4:=HMB.out.co.c4
   obtain⟨t0,t1,t2,t3,t4,t5,t6,t7,t8,t9⟩:=HMB.out.th.at_ x hxn
   rw[htx] at t0 t1 t2 t3 t4 t5 t6 t7 t8 t9
   have e1: ¬a.th=wr.heap.size:=fun e=>by have q:a.th<w.heap.size:=(HM.out w (Below.refl _ _)).lt _ (by rw[(HM.out w (Below.refl _ _)).lth];decide);have:=HB1.out.size;have:=HBW.out.size;omega
   have HTX:=aa htx
   clear hB hro1 htx
   go_upto_region 7 with fail
   generalize hB1w:(wr.alloc (.cells #[.int .i64 (x:Int),.int .u32 (M.G x:Int)] 51))=B1 at*
   clear hB1w
   obtain⟨ib,hib⟩: ∃ib,wr.heap.size=ib:=⟨_,rfl⟩
   rw[hib] at ib0 ib1⊢
   have HIB:=aa hib
   clear hib e1
   have HLT1:Hid (ib<B1.heap.size):=World.block_lt_of_cell? B1 _ ib0
   have n1: ¬ib=B1.heap.size:=by have:=World.block_lt_of_cell? B1 _ ib0;exact fun e=>by simp at this;omega
   go_region_held3 (fun w'=>w'.cell? ⟨a.m,4,none⟩=some (.slice (some ⟨a.th,0,none⟩) n a.xt)∧w'.cell? ⟨ib,0,none⟩=some (.int .i64 (x:Int))∧w'.cell? ⟨a.th,x*10,none⟩=some (.int .i64 t.p)∧w'.cell? ⟨a.th,x*10+1,none⟩=some (.int .u32 (t.g:Int))∧w'.cell? ⟨a.th,x*10+2,none⟩=some (.int .i64 t.pg)∧w'.cell? ⟨a.th,x*10+3,none⟩=some (.int .u8 (t.lv:Int))∧w'.cell? ⟨a.th,x*10+4,none⟩=some (.int .u8 (t.lf:Int))∧w'.cell? ⟨a.th,x*10+5,none⟩=some (.int .i64 t.sv)∧w'.cell? ⟨a.th,x*10+6,none⟩=some (.int .i64 t.pc)∧w'.cell? ⟨a.th,x*10+7,none⟩=some (.int .i64 t.ia)∧w'.cell? ⟨a.th,x*10+8,none⟩=some (.int .i64 t.il)∧w'.cell? ⟨a.th,x*10+9,none⟩=some (.int .u64 (t.sn:Int)))
    (first|exact⟨kc (aG (Below.refl B1.heap.size B1) _) c4,kc (aG (Below.refl B1.heap.size B1) _) ib0,kc (aG (Below.refl B1.heap.size B1) _) t0,kc (aG (Below.refl B1.heap.size B1) _) t1,kc (aG (Below.refl B1.heap.size B1) _) t2,kc (aG (Below.refl B1.heap.size B1) _) t3,kc (aG (Below.refl B1.heap.size B1) _) t4,kc (aG (Below.refl B1.heap.size B1) _) t5,kc (aG (Below.refl B1.heap.size B1) _) t6,kc (aG (Below.refl B1.heap.size B1) _) t7,kc (aG (Below.refl B1.heap.size B1) _) t8,kc (aG (Below.refl B1.heap.size B1) _) t9⟩|go_keep)
    (first|fail)
   rename_i hHeld
   clear hHeld
   have hA2:Below B1.heap.size B1 (B1.alloc (.cells #[.int .i64 t.p,.int .u32 (t.g:Int),.int .i64 t.pg,.int .u8 (t.lv:Int),.int .u8 (t.lf:Int),.int .i64 t.sv,.int .i64 t.pc,.int .i64 t.ia,.int .i64 t.il,.int .u64 (t.sn:Int)] 111)).drew:=ak (aG (Below.refl B1.heap.size B1) _) rfl rfl rfl rfl
   have htb:aV (B1.alloc (.cells #[.int .i64 t.p,.int .u32 (t.g:Int),.int .i64 t.pg,.int .u8 (t.lv:Int),.int .u8 (t.lf:Int),.int .i64 t.sv,.int .i64 t.pc,.int .i64 t.ia,.int .i64 t.il,.int .u64 (t.sn:Int)] 111)).drew B1.heap.size 0 t:=(aV.new B1 t).kept rfl
   have hro2:(B1.alloc (.cells #[.int .i64 t.p,.int .u32 (t.g:Int),.int .i64 t.pg,.int .u8 (t.lv:Int),.int .u8 (t.lf:Int),.int .i64 t.sv,.int .i64 t.pc,.int .i64 t.ia,.int .i64 t.il,.int .u64 (t.sn:Int)] 111)).drew.ownsRow w1.heap.size 69 11 (.slice ar j cr) j (gP M n (L.take j)):=a7 HRO1.out (fun k hk=>hA2.block k (Pi.aq HRO1.out hk).2.1)
   replace ib0:=kc hA2 ib0
   replace ib1:=kc hA2 ib1
   have HB3:=aa (bt HB2.out hA2)
   generalize (B1.alloc (.cells #[.int .i64 t.p,.int .u32 (t.g:Int),.int .i64 t.pg,.int .u8 (t.lv:Int),.int .u8 (t.lf:Int),.int .i64 t.sv,.int .i64 t.pc,.int .i64 t.ia,.int .i64 t.il,.int .u64 (t.sn:Int)] 111)).drew=B2 at*
   obtain⟨tb,htbb⟩: ∃tb,B1.heap.size=tb:=⟨_,rfl⟩
   have HKN:Hid (∀k,(Value.slice ar j cr).ownBlock=some k→k≠ib∧k≠tb∧k≠a.m):=fun k hk=>by
    have q1:=Pi.aq HRO.out hk
    have q2:=HIB.out
    have q3:a.m<w.heap.size:=(HM.out w (Below.refl _ _)).lt _ (by rw[(HM.out w (Below.refl _ _)).lm];decide)
    have q4:=HB1.out.size
    have q5:=HLT1.out
    refine⟨by omega,by omega,by omega⟩
   rw[htbb] at htb⊢
   have HRO2:=aa hro2
   obtain⟨k0,k1,k2,k3,k4,k5,k6,k7,k8,k9⟩:=htb
   have hmc:=HM.out _ (bt HB1.out HB3.out)
   have c7:=hmc.co.c7
   have tok:t.ok:=by rw[←HTX.out];exact hmc.th.ok x hxn
   clear hA2 hro2 htbb t0 t1 t2 t3 t4 t5 t6 t7 t8 t9 c4 n1 HRO1 HB2 HMB HRO
   have HST:Hid (∀V,Below B2.heap.size B2 V→Calls Tryz.prog 54 #[.pointer (some ⟨a.m,0,none⟩),.agg #[.int .i64 t.p,.int .u32 (t.g:Int),.int .i64 t.pg,.int .u8 (t.lv:Int),.int .u8 (t.lf:Int),.int .i64 t.sv,.int .i64 t.pc,.int .i64 t.ia,.int .i64 t.il,.int .u64 (t.sn:Int)]] V fun e w'=>e= .returned (.int .i64 (cU M n t:Int))∧Below B2.heap.size B2 w'):=fun V hb=>((hmc.below hb).state t).mono (fun e w' ⟨he,b⟩=>⟨he,bt hb b⟩)
   have HKY:Hid (∀V,Below B2.heap.size B2 V→Calls Tryz.prog 55 #[.pointer (some ⟨a.gb,0,none⟩),.int .i64 (x:Int)] V fun e w'=>e= .returned (.agg #[.bool (Pi.aR M.gr.T M.gr.L (x:Int)).e,.int .u64 (Pi.aR M.gr.T M.gr.L (x:Int)).d,.int .u8 (Pi.aR M.gr.T M.gr.L (x:Int)).l])∧Below B2.heap.size B2 w'):=fun V hb=>((hmc.below hb).key (x:Int)).mono (fun e w' ⟨he,b⟩=>⟨he,bt hb b⟩)
   have HMC:=aa hmc
   have HZ:=aa (Below.refl B2.heap.size B2)
   clear hmc
   have HTR:Hid (tz M n x=[.int .i64 (x:Int),.int .u32 (M.G x:Int),.int .i64 (cU M n t:Int),.bool (Pi.aR M.gr.T M.gr.L (x:Int)).e,.int .u64 (Pi.aR M.gr.T M.gr.L (x:Int)).d,.int .u8 (Pi.aR M.gr.T M.gr.L (x:Int)).l,.int .u8 (t.lv:Int),.int .i64 t.sv,.int .i64 t.pc,.int .i64 t.ia,.int .i64 t.il]):=by unfold Hid tz;rw[HTX.out]
   generalize Pi.aR M.gr.T M.gr.L (x:Int)=ky at*
   generalize cU M n t=st at*
   generalize M.G x=gx at*
   go_upto_region 8 with fail
   have HS:Hid (∀V,Below B2.heap.size B2 V→V.cell? ⟨ib,0,none⟩=some (.int .i64 (x:Int))∧V.cell? ⟨ib,1,none⟩=some (.int .u32 (gx:Int))∧V.cell? ⟨a.m,7,none⟩=some (.pointer (some ⟨a.gb,0,none⟩))∧V.cell? ⟨tb,0,none⟩=some (.int .i64 t.p)∧V.cell? ⟨tb,1,none⟩=some (.int .u32 (t.g:Int))∧V.cell? ⟨tb,2,none⟩=some (.int .i64 t.pg)∧V.cell? ⟨tb,3,none⟩=some (.int .u8 (t.lv:Int))∧V.cell? ⟨tb,4,none⟩=some (.int .u8 (t.lf:Int))∧V.cell? ⟨tb,5,none⟩=some (.int .i64 t.sv)∧V.cell? ⟨tb,6,none⟩=some (.int .i64 t.pc)∧V.cell? ⟨tb,7,none⟩=some (.int .i64 t.ia)∧V.cell? ⟨tb,8,none⟩=some (.int .i64 t.il)∧V.cell? ⟨tb,9,none⟩=some (.int .u64 (t.sn:Int))):=fun V hb=>⟨kc hb ib0,kc hb ib1,kc hb c7,kc hb k0,kc hb k1,kc hb k2,kc hb k3,kc hb k4,kc hb k5,kc hb k6,kc hb k7,kc hb k8,kc hb k9⟩
   have hkn: ∀k,(Value.slice ar j cr).ownBlock=some k→k≠ib∧k≠tb∧k≠a.m:=HKN.out
   have HSG:Hid (∀V V',Below B2.heap.size B2 V→V.grownBy V' (Value.slice ar j cr).ownBlock→V'.cell? ⟨ib,0,none⟩=some (.int .i64 (x:Int))∧V'.cell? ⟨ib,1,none⟩=some (.int .u32 (gx:Int))∧V'.cell? ⟨a.m,7,none⟩=some (.pointer (some ⟨a.gb,0,none⟩))∧V'.cell? ⟨tb,0,none⟩=some (.int .i64 t.p)∧V'.cell? ⟨tb,1,none⟩=some (.int .u32 (t.g:Int))∧V'.cell? ⟨tb,2,none⟩=some (.int .i64 t.pg)∧V'.cell? ⟨tb,3,none⟩=some (.int .u8 (t.lv:Int))∧V'.cell? ⟨tb,4,none⟩=some (.int .u8 (t.lf:Int))∧V'.cell? ⟨tb,5,none⟩=some (.int .i64 t.sv)∧V'.cell? ⟨tb,6,none⟩=some (.int .i64 t.pc)∧V'.cell? ⟨tb,7,none⟩=some (.int .i64 t.ia)∧V'.cell? ⟨tb,8,none⟩=some (.int .i64 t.il)∧V'.cell? ⟨tb,9,none⟩=some (.int .u64 (t.sn:Int))):=fun V V' hb hg=>by
    obtain⟨q0,q1,q2,r0,r1,r2,r3,r4,r5,r6,r7,r8,r9⟩:=HS.out V hb
    have bi:=hg.block ib (World.block_lt_of_cell? V _ q0) (fun e=>(hkn ib e.symm).1 rfl)
    have lC:=hg.block tb (World.block_lt_of_cell? V _ r0) (fun e=>(hkn tb e.symm).2.1 rfl)
    have bm:=hg.block a.m (World.block_lt_of_cell? V _ q2) (fun e=>(hkn a.m e.symm).2.2 rfl)
    exact⟨(World.cell?_of_block bi).trans q0,(World.cell?_of_block bi).trans q1,(World.cell?_of_block bm).trans q2,(World.cell?_of_block lC).trans r0,(World.cell?_of_block lC).trans r1,(World.cell?_of_block lC).trans r2,(World.cell?_of_block lC).trans r3,(World.cell?_of_block lC).trans r4,(World.cell?_of_block lC).trans r5,(World.cell?_of_block lC).trans r6,(World.cell?_of_block lC).trans r7,(World.cell?_of_block lC).trans r8,(World.cell?_of_block lC).trans r9⟩
   have HGW:Hid (∀V V',Below B2.heap.size B2 V→V.grownBy V' (Value.slice ar j cr).ownBlock→Below w1.heap.size w1 V'):=fun V V' hb hg=>(bt HB3.out hb).grown hg (by have:=HB3.out.size;have:=hb.size;omega) (fun k hk=>(Pi.aq HRO2.out hk).1)
   have HBS:Hid (∀V,Below B2.heap.size B2 V→w1.heap.size≤(V.alloc (.cells #[.int .i64 (x:Int),.int .u32 (gx:Int),.int .i64 (st:Int),.bool ky.e,.int .u64 ky.d,.int .u8 ky.l,.int .u8 (t.lv:Int),.int .i64 t.sv,.int .i64 t.pc,.int .i64 t.ia,.int .i64 t.il] 69)).heap.size):=fun V hb=>by have:=HB3.out.size;have:=hb.size;simp;omega
   have HAP:Hid (∀V,Below B2.heap.size B2 V→Hid ((V.alloc (.cells #[.int .i64 (x:Int),.int .u32 (gx:Int),.int .i64 (st:Int),.bool ky.e,.int .u64 ky.d,.int .u8 ky.l,.int .u8 (t.lv:Int),.int .i64 t.sv,.int .i64 t.pc,.int .i64 t.ia,.int .i64 t.il] 69)).ownsRow w1.heap.size 69 11 (.slice ar j cr) j (gP M n (L.take j)))∧Hid (∀i u,([.int .i64 (x:Int),.int .u32 (gx:Int),.int .i64 (st:Int),.bool ky.e,.int .u64 ky.d,.int .u8 ky.l,.int .u8 (t.lv:Int),.int .i64 t.sv,.int .i64 t.pc,.int .i64 t.ia,.int .i64 t.il]:List Value)[i]? =some u→(V.alloc (.cells #[.int .i64 (x:Int),.int .u32 (gx:Int),.int .i64 (st:Int),.bool ky.e,.int .u64 ky.d,.int .u8 ky.l,.int .u8 (t.lv:Int),.int .i64 t.sv,.int .i64 t.pc,.int .i64 t.ia,.int .i64 t.il] 69)).cell? ((⟨V.heap.size,0,none⟩:Addr).add i)=some u)):=fun V hb=>by
    refine⟨a7 HRO2.out (fun k hk=>(aG hb _).block k (Pi.aq HRO2.out hk).2.1),fun i u hu=> ?_⟩
    have hadd:(⟨V.heap.size,0,none⟩:Addr).add i=⟨V.heap.size,i,none⟩:=by unfold Addr.add;split<;>simp_all
    rw[hadd]
    exact aT _ _ _ i u (by simpa using hu)
   refine wp_region_held_drew (S:=fun w'=>w'.cell? ⟨ib,0,none⟩=some (.int .i64 (x:Int))∧w'.cell? ⟨ib,1,none⟩=some (.int .u32 (gx:Int))∧w'.cell? ⟨a.m,7,none⟩=some (.pointer (some ⟨a.gb,0,none⟩))∧w'.cell? ⟨tb,0,none⟩=some (.int .i64 t.p)∧w'.cell? ⟨tb,1,none⟩=some (.int .u32 (t.g:Int))∧w'.cell? ⟨tb,2,none⟩=some (.int .i64 t.pg)∧w'.cell? ⟨tb,3,none⟩=some (.int .u8 (t.lv:Int))∧w'.cell? ⟨tb,4,none⟩=some (.int .u8 (t.lf:Int))∧w'.cell? ⟨tb,5,none⟩=some (.int .i64 t.sv)∧w'.cell? ⟨tb,6,none⟩=some (.int .i64 t.pc)∧w'.cell? ⟨tb,7,none⟩=some (.int .i64 t.ia)∧w'.cell? ⟨tb,8,none⟩=some (.int .i64 t.il)∧w'.cell? ⟨tb,9,none⟩=some (.int .u64 (t.sn:Int))) (by kernel_rfl) ?_ (fun hHeld=> ?_)
   ·exact HS.out _ (bq HZ.out)
   refine aB 0 (v:= ?_) rfl ?v0 ?_
   case v0=>(intro w hSw;(try dsimp only at hSw);obtain⟨hSa,hSb,hSc,hSd,hSe,hSf,hSg,hSh,hSi,hSj,hSk,hSl,hSm⟩:=hSw;go_simp;try with_reducible rfl)
   try simp only[ao]
   refine aB 1 (v:= ?_) rfl ?v1 ?_
   case v1=>(intro w hSw;(try dsimp only at hSw);obtain⟨hSa,hSb,hSc,hSd,hSe,hSf,hSg,hSh,hSi,hSj,hSk,hSl,hSm⟩:=hSw;go_simp;try with_reducible rfl)
   try simp only[ao]
   refine aB 2 (v:= ?_) rfl ?v2 ?_
   case v2=>(intro w hSw;(try dsimp only at hSw);obtain⟨hSa,hSb,hSc,hSd,hSe,hSf,hSg,hSh,hSi,hSj,hSk,hSl,hSm⟩:=hSw;go_simp;try with_reducible rfl)
   try simp only[ao]
   refine aB 3 (v:= ?_) rfl ?v3 ?_
   case v3=>(intro w hSw;(try dsimp only at hSw);obtain⟨hSa,hSb,hSc,hSd,hSe,hSf,hSg,hSh,hSi,hSj,hSk,hSl,hSm⟩:=hSw;go_simp;try with_reducible rfl)
   try simp only[ao]
   refine aB 5 (v:= ?_) rfl ?v5 ?_
   case v5=>(intro w hSw;(try dsimp only at hSw);obtain⟨hSa,hSb,hSc,hSd,hSe,hSf,hSg,hSh,hSi,hSj,hSk,hSl,hSm⟩:=hSw;go_simp;try with_reducible rfl)
   try simp only[ao]
   refine aB 6 (v:= ?_) rfl ?v6 ?_
   case v6=>(intro w hSw;(try dsimp only at hSw);obtain⟨hSa,hSb,hSc,hSd,hSe,hSf,hSg,hSh,hSi,hSj,hSk,hSl,hSm⟩:=hSw;go_simp;try with_reducible rfl)
   try simp only[ao]
   refine aB 7 (v:= ?_) rfl ?v7 ?_
   case v7=>(intro w hSw;(try dsimp only at hSw);obtain⟨hSa,hSb,hSc,hSd,hSe,hSf,hSg,hSh,hSi,hSj,hSk,hSl,hSm⟩:=hSw;go_simp;try with_reducible rfl)
   try simp only[ao]
   refine aB 8 (v:= ?_) rfl ?v8 ?_
   case v8=>(intro w hSw;(try dsimp only at hSw);obtain⟨hSa,hSb,hSc,hSd,hSe,hSf,hSg,hSh,hSi,hSj,hSk,hSl,hSm⟩:=hSw;go_simp;try with_reducible rfl)
   try simp only[ao]
   refine aB 9 (v:= ?_) rfl ?v9 ?_
   case v9=>(intro w hSw;(try dsimp only at hSw);obtain⟨hSa,hSb,hSc,hSd,hSe,hSf,hSg,hSh,hSi,hSj,hSk,hSl,hSm⟩:=hSw;go_simp;try with_reducible rfl)
   try simp only[ao]
   refine aB 10 (v:= ?_) rfl ?v10 ?_
   case v10=>(intro w hSw;(try dsimp only at hSw);obtain⟨hSa,hSb,hSc,hSd,hSe,hSf,hSg,hSh,hSi,hSj,hSk,hSl,hSm⟩:=hSw;go_simp;try with_reducible rfl)
   try simp only[ao]
   refine aB 12 (v:= ?_) rfl ?v12 ?_
   case v12=>(intro w hSw;(try dsimp only at hSw);obtain⟨hSa,hSb,hSc,hSd,hSe,hSf,hSg,hSh,hSi,hSj,hSk,hSl,hSm⟩:=hSw;go_simp;try with_reducible rfl)
   try simp only[ao]
   refine aB 13 (v:= ?_) rfl ?v13 ?_
   case v13=>(intro w hSw;(try dsimp only at hSw);obtain⟨hSa,hSb,hSc,hSd,hSe,hSf,hSg,hSh,hSi,hSj,hSk,hSl,hSm⟩:=hSw;go_simp;try with_reducible rfl)
   try simp only[ao]
   refine aB 14 (v:= ?_) rfl ?v14 ?_
   case v14=>(intro w hSw;(try dsimp only at hSw);obtain⟨hSa,hSb,hSc,hSd,hSe,hSf,hSg,hSh,hSi,hSj,hSk,hSl,hSm⟩:=hSw;go_simp;try with_reducible rfl)
   try simp only[ao]
   refine aB 15 (v:= ?_) rfl ?v15 ?_
   case v15=>(intro w hSw;(try dsimp only at hSw);obtain⟨hSa,hSb,hSc,hSd,hSe,hSf,hSg,hSh,hSi,hSj,hSk,hSl,hSm⟩:=hSw;go_simp;try with_reducible rfl)
   try simp only[ao]
   refine aB 16 (v:= ?_) rfl ?v16 ?_
   case v16=>(intro w hSw;(try dsimp only at hSw);obtain⟨hSa,hSb,hSc,hSd,hSe,hSf,hSg,hSh,hSi,hSj,hSk,hSl,hSm⟩:=hSw;go_simp;try with_reducible rfl)
   try simp only[ao]
   refine aB 17 (v:= ?_) rfl ?v17 ?_
   case v17=>(intro w hSw;(try dsimp only at hSw);obtain⟨hSa,hSb,hSc,hSd,hSe,hSf,hSg,hSh,hSi,hSj,hSk,hSl,hSm⟩:=hSw;go_simp;try with_reducible rfl)
   try simp only[ao]
   refine aB 18 (v:= ?_) rfl ?v18 ?_
   case v18=>(intro w hSw;(try dsimp only at hSw);obtain⟨hSa,hSb,hSc,hSd,hSe,hSf,hSg,hSh,hSi,hSj,hSk,hSl,hSm⟩:=hSw;go_simp;try with_reducible rfl)
   try simp only[ao]
   refine aB 19 (v:= ?_) rfl ?v19 ?_
   case v19=>(intro w hSw;(try dsimp only at hSw);obtain⟨hSa,hSb,hSc,hSd,hSe,hSf,hSg,hSh,hSi,hSj,hSk,hSl,hSm⟩:=hSw;go_simp;try with_reducible rfl)
   try simp only[ao]
   refine aB 20 (v:= ?_) rfl ?v20 ?_
   case v20=>(intro w hSw;(try dsimp only at hSw);obtain⟨hSa,hSb,hSc,hSd,hSe,hSf,hSg,hSh,hSi,hSj,hSk,hSl,hSm⟩:=hSw;go_simp;try with_reducible rfl)
   try simp only[ao]
   refine aB 21 (v:= ?_) rfl ?v21 ?_
   case v21=>(intro w hSw;(try dsimp only at hSw);obtain⟨hSa,hSb,hSc,hSd,hSe,hSf,hSg,hSh,hSi,hSj,hSk,hSl,hSm⟩:=hSw;go_simp;try with_reducible rfl)
   try simp only[ao]
   refine aB 22 (v:= ?_) rfl ?v22 ?_
   case v22=>(intro w hSw;(try dsimp only at hSw);obtain⟨hSa,hSb,hSc,hSd,hSe,hSf,hSg,hSh,hSi,hSj,hSk,hSl,hSm⟩:=hSw;go_simp;try with_reducible rfl)
   try simp only[ao]
   refine aB 23 (v:= ?_) rfl ?v23 ?_
   case v23=>(intro w hSw;(try dsimp only at hSw);obtain⟨hSa,hSb,hSc,hSd,hSe,hSf,hSg,hSh,hSi,hSj,hSk,hSl,hSm⟩:=hSw;go_simp;try with_reducible rfl)
   try simp only[ao]
   refine aY 4 rfl (fun K hK=> ?_)
   go_simp
   go_at_call 54
   refine(HST.out _ (by exact ak HZ.out rfl rfl rfl rfl)).mono ?_
   rintro e w4 ⟨rfl,hb⟩
   have HB4:=aa hb
   clear hb
   refine hK.out _ _ ?_ (fun hHeld=> ?_)
   ·exact HS.out _ HB4.out
   clear hK K
   try simp only[ao]
   refine aY 11 rfl (fun K hK=> ?_)
   go_simp
   go_at_call 55
   refine(HKY.out _ (by exact HB4.out)).mono ?_
   rintro e w5 ⟨rfl,hb⟩
   have HB5:=aa hb
   clear hb
   refine hK.out _ _ ?_ (fun hHeld=> ?_)
   ·exact HS.out _ HB5.out
   clear hK K
   try simp only[ao]
   refine aB 24 (v:= ?_) rfl ?v24 ?_
   case v24=>(intro w hSw;(try dsimp only at hSw);obtain⟨hSa,hSb,hSc,hSd,hSe,hSf,hSg,hSh,hSi,hSj,hSk,hSl,hSm⟩:=hSw;go_simp;try with_reducible rfl)
   try simp only[ao]
   refine aY 25 rfl (fun K hK=> ?_)
   go_simp
   refine hK.out _ _ ?_ (fun hHeld=> ?_)
   ·exact HS.out _ (aG HB5.out _)
   clear hK K
   try simp only[ao]
   refine aY 26 rfl (fun K hK=> ?_)
   obtain⟨HOW,HNW⟩:=HAP.out w5 HB5.out
   refine bE _ (by rfl) _ _ _ (by rfl) w1.heap.size 69 i0' (.agg #[.int .i64 0,.int .u32 0,.int .i64 0,.bool false,.int .u64 0,.int .u8 0,.int .u8 0,.int .i64 0,.int .i64 0,.int .i64 0,.int .i64 0]) 11 88 Tryz.underlying55 hi0 hz0 hz1 hz2 rfl (by omega) (.slice ar j cr) j (gP M n (L.take j)) (by rfl) HOW.out ⟨w5.heap.size,0,none⟩ 1 1 [.int .i64 (x:Int),.int .u32 (gx:Int),.int .i64 (st:Int),.bool ky.e,.int .u64 ky.d,.int .u8 ky.l,.int .u8 (t.lv:Int),.int .i64 t.sv,.int .i64 t.pc,.int .i64 t.ia,.int .i64 t.il] (by rfl) rfl HNW.out (by have:=wL M n x;rw[HTR.out] at this;exact this) (by unfold maxLen;omega) (by omega) (HBS.out _ HB5.out) ?_
   intro v1 w6 ho6 hg6 hat6
   obtain⟨a6,d6,rfl⟩:=Cb.aI ho6
   have HS6:=aa (HSG.out _ _ (aG HB5.out _) hg6)
   have HO6:=aa ho6
   have HW6:=aa (HGW.out _ _ (aG HB5.out _) hg6)
   clear ho6 hg6 hat6 HOW HNW
   refine hK.out _ _ ?_ (fun hHeld=> ?_)
   ·exact HS6.out
   clear hK K
   try simp only[ao]
   refine aB 27 (v:= ?_) rfl ?v27 ?_
   case v27=>(intro w hSw;(try dsimp only at hSw);obtain⟨hSa,hSb,hSc,hSd,hSe,hSf,hSg,hSh,hSi,hSj,hSk,hSl,hSm⟩:=hSw;go_simp;try with_reducible rfl)
   try simp only[ao]
   refine wpAnyH_done (by kernel_rfl) ?_ _
   go_wp2
   go_roundw
   case rel=>
    refine⟨j+1,a6,d6,by omega,by go_num,rfl,?_,HW6.out⟩
    rw[show L.take (j+1)=L.take j++[x] by rw[List.take_add_one,hx];rfl,qH,HTR.out]
    exact HO6.out
   case measure=>simp[RowKit.intOf];omega
  ·have hjl': ¬(j:Int)<(L.length:Int):=by omega
   obtain rfl:j=L.length:=by omega
   go_wp2
   go_ret
   refine⟨_,rfl,?_,bt HB1.out HBW.out⟩
   have:=HRO.out
   rw[List.take_length] at this
   exact Pi.iM this (fun k hk=>Nat.le_trans HB1.out.size (Pi.aq this hk).1)
end
end Go.Proofs.YtjlbmmiomfpgiaaGreatDoor
