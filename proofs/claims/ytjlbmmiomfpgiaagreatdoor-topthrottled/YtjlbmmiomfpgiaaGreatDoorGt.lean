/- YtjlbmmiomfpgiaaGreatDoorGt: of the texts Ba36 Ba37 Ba38 Ba39 Ba40 Bf1 Bf2 Bf3 Bf4 Bf5 Bf6 Bf7 what is wanted. -/
import Derived.Test.YtjlbmmiomfpgiaaGreatDoorG0
import Derived.Test.YtjlbmmiomfpgiaaGreatDoorGq
import Derived.Deep.Cut
import Derived.Deep.DeepCutAuto
import Derived.Maps.AppendAt
set_option maxHeartbeats 16000000
set_option maxRecDepth 100000
set_option linter.unusedVariables false
set_option linter.unusedSimpArgs false
namespace Go.Proofs.YtjlbmmiomfpgiaaGreatDoor
open Go.RowKit Go.Lib Go.Shelf
attribute [local go_sem ↓] Go.wp_at_zero Go.wp_at_succ
theorem aQ {W V:World} (h:Below W.heap.size W V) (o:Obj):Below W.heap.size W (V.alloc o):=h.alloc h.size o
theorem bM {W V:World} (h:Below W.heap.size W V) {b:Nat} (hb:W.heap.size≤b) (o:Nat) (u:Value):Below W.heap.size W (V.setCell ⟨b,o,none⟩ u):=dq h hb u
theorem bD {W V:World} (h:Below W.heap.size W V):Below W.heap.size W V.drew:=ak h rfl rfl rfl rfl
structure Zb (V:World) (b:Nat):Prop where
 c0:V.cell? ⟨b,0,none⟩=some (.int .i64 0)
 c1:V.cell? ⟨b,1,none⟩=some (.int .i64 0)
 f0:V.frozen? ⟨b,0,none⟩=false
 f1:V.frozen? ⟨b,1,none⟩=false
theorem Zb.new (W:World) (t:TypeId):Zb (W.alloc (.cells #[.int .i64 0,.int .i64 0] t)) W.heap.size:=⟨aU _ _ _ 0 _ rfl,aU _ _ _ 1 _ rfl,Gt.aF _ _ _ _,Gt.aF _ _ _ _⟩
theorem Zb.kept {V V':World} {b:Nat} (h:Zb V b) (hb:V'.heap[b]? =V.heap[b]?):Zb V' b:=⟨(World.cell?_of_block hb).trans h.c0,(World.cell?_of_block hb).trans h.c1,(World.frozen?_of_block hb).trans h.f0,(World.frozen?_of_block hb).trans h.f1⟩
theorem Zb.Ff {W V w2:World} {t:TypeId} (hv:Below V.heap.size V w2) (hV:V.heap=(W.alloc (.cells #[.int .i64 0,.int .i64 0] t)).heap):Zb w2 W.heap.size∧W.heap.size<w2.heap.size:=by
 have hs:V.heap.size=W.heap.size+1:=by rw[hV];simp
 refine⟨(Zb.new W t).kept ?_,by have:=hv.size;omega⟩
 rw[hv.block _ (by omega),hV]
theorem Zb.E9 {W V w2:World} {t t':TypeId} (hv:Below V.heap.size V w2) (hV:V.heap=((W.alloc (.cells #[.int .i64 0,.int .i64 0] t)).alloc (.cells #[.int .i64 0,.int .i64 0] t')).heap):Zb w2 W.heap.size∧Zb w2 (W.heap.size+1)∧W.heap.size+1<w2.heap.size:=by
 have hs:V.heap.size=W.heap.size+1+1:=by rw[hV];simp
 have s1:(W.alloc (.cells #[.int .i64 0,.int .i64 0] t)).heap.size=W.heap.size+1:=by simp
 refine⟨(Zb.new W t).kept ?_,?_,by have:=hv.size;omega⟩
 ·rw[hv.block _ (by omega),hV]
  exact Below.heap_alloc _ _ _ (by omega)
 ·have:=(Zb.new (W.alloc (.cells #[.int .i64 0,.int .i64 0] t)) t').kept (V':=w2) (by rw[hv.block _ (by omega),hV])
  rw[s1] at this
  exact this
structure sw (V:World) (b:Nat) (x y:Int):Prop where
 c0:V.cell? ⟨b,0,none⟩=some (.int .i64 x)
 c1:V.cell? ⟨b,1,none⟩=some (.int .i64 y)
theorem sw.new (V:World) (x y:Int) (t:TypeId):sw (V.alloc (.cells #[.int .i64 x,.int .i64 y] t)) V.heap.size x y:=⟨aU _ _ _ 0 _ rfl,aU _ _ _ 1 _ rfl⟩
theorem sw.kept {V V':World} {b:Nat} {x y:Int} (h:sw V b x y) (hb:V'.heap[b]? =V.heap[b]?):sw V' b x y:=⟨(World.cell?_of_block hb).trans h.c0,(World.cell?_of_block hb).trans h.c1⟩
theorem sw.set {V:World} {b:Nat} (h:Zb V b) (x y:Int):sw ((V.setCell ⟨b,0,none⟩ (.int .i64 x)).setCell ⟨b,1,none⟩ (.int .i64 y)) b x y:=
 ⟨(aI _ (by decide)).trans (Gt.au _ _ _ _ h.c0),Gt.au _ _ _ _ ((aI V (by decide)).trans h.c1)⟩
structure Df (W V:World) (ib nb:Nat) (op ar ia il:Int):Prop where
 mQ:Below W.heap.size W V
 i:W.heap.size≤ib∧ib<V.heap.size
 n:W.heap.size≤nb∧nb<V.heap.size
 ne:ib≠nb
 pi:sw V ib op ar
 pn:sw V nb ia il
section
variable {W w2:World} {op ar ia il:Int} {t t':TypeId}
theorem lP (h:Below W.heap.size W w2):Df W ((w2.alloc (.cells #[.int .i64 op,.int .i64 ar] t)).alloc (.cells #[.int .i64 ia,.int .i64 il] t')) w2.heap.size (w2.heap.size+1) op ar ia il:=by
 have hs:=h.size
 have s1:(w2.alloc (.cells #[.int .i64 op,.int .i64 ar] t)).heap.size=w2.heap.size+1:=by simp
 have s2:((w2.alloc (.cells #[.int .i64 op,.int .i64 ar] t)).alloc (.cells #[.int .i64 ia,.int .i64 il] t')).heap.size=w2.heap.size+2:=by simp
 refine⟨aQ (aQ h _) _,⟨hs,by omega⟩,⟨by omega,by omega⟩,by omega,(sw.new w2 op ar t).kept (Below.heap_alloc _ _ _ (by omega)),?_⟩
 have:=sw.new (w2.alloc (.cells #[.int .i64 op,.int .i64 ar] t)) ia il t'
 rw[s1] at this
 exact this
theorem jF (h:Below W.heap.size W w2):Df W ((w2.alloc (.cells #[.int .i64 ia,.int .i64 il] t')).alloc (.cells #[.int .i64 op,.int .i64 ar] t)) (w2.heap.size+1) w2.heap.size op ar ia il:=by
 obtain⟨h1,h2,h3,h4,h5,h6⟩:=lP (op:=ia) (ar:=il) (ia:=op) (il:=ar) (t:=t') (t':=t) h
 exact⟨h1,h3,h2,fun e=>h4 e.symm,h6,h5⟩
theorem lK (h:Below W.heap.size W w2) (z:Zb w2 W.heap.size) (hl:W.heap.size<w2.heap.size):Df W (((w2.setCell ⟨W.heap.size,0,none⟩ (.int .i64 op)).setCell ⟨W.heap.size,1,none⟩ (.int .i64 ar)).alloc (.cells #[.int .i64 ia,.int .i64 il] t')) W.heap.size w2.heap.size op ar ia il:=by
 have s1:((w2.setCell ⟨W.heap.size,0,none⟩ (.int .i64 op)).setCell ⟨W.heap.size,1,none⟩ (.int .i64 ar)).heap.size=w2.heap.size:=by simp
 have s2:(((w2.setCell ⟨W.heap.size,0,none⟩ (.int .i64 op)).setCell ⟨W.heap.size,1,none⟩ (.int .i64 ar)).alloc (.cells #[.int .i64 ia,.int .i64 il] t')).heap.size=w2.heap.size+1:=by simp
 refine⟨aQ (bM (bM h (Nat.le_refl _) _ _) (Nat.le_refl _) _ _) _,⟨Nat.le_refl _,by omega⟩,⟨by omega,by omega⟩,by omega,(sw.set z op ar).kept (Below.heap_alloc _ _ _ (by omega)),?_⟩
 have:=sw.new ((w2.setCell ⟨W.heap.size,0,none⟩ (.int .i64 op)).setCell ⟨W.heap.size,1,none⟩ (.int .i64 ar)) ia il t'
 rw[s1] at this
 exact this
theorem jX (h:Below W.heap.size W w2) (z:Zb w2 W.heap.size) (hl:W.heap.size<w2.heap.size):Df W (((w2.setCell ⟨W.heap.size,0,none⟩ (.int .i64 ia)).setCell ⟨W.heap.size,1,none⟩ (.int .i64 il)).alloc (.cells #[.int .i64 op,.int .i64 ar] t)) w2.heap.size W.heap.size op ar ia il:=by
 obtain⟨h1,h2,h3,h4,h5,h6⟩:=lK (op:=ia) (ar:=il) (ia:=op) (il:=ar) (t':=t) h z hl
 exact⟨h1,h3,h2,fun e=>h4 e.symm,h6,h5⟩
theorem fW (h:Below W.heap.size W w2) {b c:Nat} (hb:W.heap.size≤b∧b<w2.heap.size) (hc:W.heap.size≤c∧c<w2.heap.size) (hn:b≠c) (z:Zb w2 b) (z':Zb w2 c):Df W ((((w2.setCell ⟨b,0,none⟩ (.int .i64 op)).setCell ⟨b,1,none⟩ (.int .i64 ar)).setCell ⟨c,0,none⟩ (.int .i64 ia)).setCell ⟨c,1,none⟩ (.int .i64 il)) b c op ar ia il:=by
 refine⟨bM (bM (bM (bM h hb.1 _ _) hb.1 _ _) hc.1 _ _) hc.1 _ _,⟨hb.1,by simpa using hb.2⟩,⟨hc.1,by simpa using hc.2⟩,hn,?_,?_⟩
 ·exact(sw.set z op ar).kept ((Below.heap_setCell _ _ _ _ hn).trans (Below.heap_setCell _ _ _ _ hn))
 ·exact sw.set (z'.kept ((Below.heap_setCell _ _ _ _ (fun e=>hn e.symm)).trans (Below.heap_setCell _ _ _ _ (fun e=>hn e.symm)))) ia il
end
section
variable {w W0 W:World} {lab labk:Nat→Nat} {a:Ad} {P n q T:Nat} {M:Mc} {sb pr:Nat} {l:List Ev} {O0:Nat→Prop}
theorem SX.prog (h:SX w W0 W lab a P n q T M sb pr l O0) {g:Nat} {p:Pm} (hg:M.pr[g]? =some p): ∃pb cp ap cap,W.cell? ⟨a.m,2,none⟩=some (.slice (some ⟨pb,0,none⟩) M.pr.length cp)∧W.cell? ⟨pb,g,none⟩=some (.slice ap p.len cap)∧Ex.mJ W ap p.len p.O p.R∧Ex.Rt p.len p.O p.R∧g<M.pr.length:=by
 obtain⟨labk,i⟩:=h.i
 obtain⟨v,vs,e2,hps⟩:=i.pg
 obtain⟨ad,cp,rfl⟩:=hps.form
 have hgl:g<M.pr.length:=(List.getElem?_eq_some_iff.1 hg).1
 have hvg:g<vs.length:=by rw[hps.len];exact hgl
 obtain⟨r1,r2⟩:=hps.at_ g p (vs[g]'hvg) hg (List.getElem?_eq_getElem hvg)
 have hmem:p∈M.pr:=List.mem_of_getElem? hg
 have hok:=hps.ok p hmem
 rcases hps.row.2 with ⟨e,e0⟩|⟨pb,cap,cur,e,h0,hg',hrow⟩
 ·omega
 ·injection e with e1 e3 e4
  subst e1 e4
  obtain⟨ap,cap',e5,hprg⟩:=Ex.zy r1
  refine⟨pb,_,ap,cap',e2,?_,hprg,hok,hgl⟩
  have hu:vs[g]? =some (vs[g]'hvg):=List.getElem?_eq_getElem hvg
  rw[e5] at hu
  rw[←hrow.2.2.2,List.getElem?_take] at hu
  split at hu
  ·simp only[World.cell?,hg']
   simpa using hu
  ·cases hu
def Fs (p:Pm) (ia:Int):Int:=Ex.Ek true p.len p.O ia
def Fo (p:Pm) (ia:Int):Int:=Ex.Ef true p.len p.R ia
def Fx (p:Pm) (ia:Int):Int:=Ex.Eh true p.len p.O p.R ia
def Fv (p:Pm) (ia il:Int):Int:=Ex.Eb true p.len p.O p.R ia il
theorem Af {W:World} {ap:Option Addr} {cap:Nat} {p:Pm} (hp:Ex.mJ W ap p.len p.O p.R) (hr:Ex.Rt p.len p.O p.R) (ia il:Int) (hil: ¬0<il) (V:World) (hb:Below W.heap.size W V):
  Calls Tryz.prog 67 #[.slice ap p.len cap,.agg #[.int .i64 ia,.int .i64 il]] V fun e w'=>e= .returned (.tuple #[.agg #[.int .i64 (Fs p ia),.int .i64 (Fo p ia)],.agg #[.int .i64 (Fx p ia),.int .i64 (Fv p ia il)],.bool false])∧Below W.heap.size W w'∧Below V.heap.size V w':=
 (Ex.wE V ap p.len cap (by have:=Bk hr;omega) p.O p.R (hp.below hb) true ⟨fun _=>hr,fun _=>rfl⟩ ia il hil).mono (fun e w' ⟨he,b⟩=>⟨he,bt hb b,b⟩)
theorem vv {W:World} {ap:Option Addr} {len cap:Nat} (ia il:Int) (hil:0<il) (V:World) (hb:Below W.heap.size W V):
  Calls Tryz.prog 67 #[.slice ap len cap,.agg #[.int .i64 ia,.int .i64 il]] V fun e w'=>e= .returned (.tuple #[.agg #[.int .i64 0,.int .i64 0],.agg #[.int .i64 ia,.int .i64 il],.bool true])∧Below W.heap.size W w'∧Below V.heap.size V w':=
 (Ex.uR V ap len cap ia il hil).mono (fun e w' ⟨he,b⟩=>⟨he,bt hb b,b⟩)
theorem ax.qW (h:ax W labk a P n q T M) {x:Nat} (hx:x<n) (u v:Int) (hv:v<9223372036854775808):
  az W ((W.setCell ⟨a.th,x*10+7,none⟩ (.int .i64 u)).setCell ⟨a.th,x*10+8,none⟩ (.int .i64 v)) labk a P n q T {M with th:=Gt.aw M.th x {M.th x with ia:=u,il:=v}}:=by
 have ok:=h.th.ok x hx
 have hfr:Fr (fun k=>labk k=4) W ((W.setCell ⟨a.th,x*10+7,none⟩ (.int .i64 u)).setCell ⟨a.th,x*10+8,none⟩ (.int .i64 v)):=((Fr.refl _ _).setCell (a:=⟨a.th,_,none⟩) h.lth _).setCell (a:=⟨a.th,_,none⟩) h.lth _
 refine⟨labk,h.zF (h.same hfr) hfr (h.th.put (((h.th.at_ x hx).xB u).x5 v) ⟨ok.g,ok.lv,ok.lf,hv,ok.sn⟩ (fun j hj hne=>((h.th.at_ j hj).fu (nJ hne (by decide)) _).fu (nJ hne (by decide)) _) (fun o=>by rw[aN,aN];exact h.th.fz o)),h.same hfr,hfr.to (fun k _ hk=> ?_)⟩
 rw[hk];decide
def j9 (M:Mc) (x:Nat) (u v:Int):Mc:={M with th:=Gt.aw M.th x {M.th x with ia:=u,il:=v}}
def qw (ok:Bool):Ending:=if ok then .returned (.tuple #[]) else .panicked gF
theorem SX.tW (h:SX w W0 W lab a P n q T M sb pr l O0) (hl:l.length≤10000) (hp:pr<P) (x:Nat) (hx:x<n) (hr:(M.pc pr).r=(x:Int)) (g:Nat) (p:Pm) (hg:M.pr[g]? =some p) (hpg:(M.th x).pg=(g:Int)) (op ar ia' il':Int) (hil':il'<9223372036854775808) (bz ok:Bool) (T':Nat) (M':Mc) (l':List Ev)
  (hst: ∀ap cap V,Ex.mJ W ap p.len p.O p.R→Ex.Rt p.len p.O p.R→Below W.heap.size W V→Calls Tryz.prog 67 #[.slice ap p.len cap,.agg #[.int .i64 (M.th x).ia,.int .i64 (M.th x).il]] V fun e w'=>e= .returned (.tuple #[.agg #[.int .i64 op,.int .i64 ar],.agg #[.int .i64 ia',.int .i64 il'],.bool bz])∧Below W.heap.size W w'∧Below V.heap.size V w')
  (hbz:bz=true→ok=false∧T'=T∧M'=M∧l'=l++[⟨2,(pr:Int),(M.th x).p,(M.th x).g,0,0⟩])
  (hdo:bz=false→ ∀V O,SG w V lab a P n q T (j9 M x ia' il') sb pr l O→Calls Tryz.prog 125 #[.pointer (some ⟨sb,0,none⟩),.pointer (some ⟨a.th,x*10,none⟩),.agg #[.int .i64 op,.int .i64 ar]] V fun e w'=>e=qw ok∧SX w V w' lab a P n q T' M' sb pr l' O):
  Calls Tryz.prog 76 #[.pointer (some ⟨sb,0,none⟩)] W fun e w'=>e=qw ok∧SX w W0 w' lab a P n q T' M' sb pr l' O0:=by
 obtain⟨pb,cp,ap,cap,k2,kg,hprg,hrt,hgl⟩:=h.prog hg
 have hstp:=fun V hb=>hst ap cap V hprg hrt hb
 have HST:=aa hstp
 have hS: ∀V,Below W.heap.size W V→V.cell? ⟨sb,0,none⟩=some (.pointer (some ⟨a.m,0,none⟩))∧V.cell? ⟨sb,2,none⟩=some (.pointer (some ⟨a.pr,pr*3,none⟩))∧V.cell? ⟨a.m,4,none⟩=some (.slice (some ⟨a.th,0,none⟩) n a.xt)∧V.cell? ⟨a.pr,pr*3,none⟩=some (.int .i64 (x:Int))∧V.cell? ⟨a.m,2,none⟩=some (.slice (some ⟨pb,0,none⟩) M.pr.length cp)∧V.cell? ⟨a.th,x*10+2,none⟩=some (.int .i64 (g:Int))∧V.cell? ⟨pb,g,none⟩=some (.slice ap p.len cap)∧V.cell? ⟨a.th,x*10+7,none⟩=some (.int .i64 (M.th x).ia)∧V.cell? ⟨a.th,x*10+8,none⟩=some (.int .i64 (M.th x).il):=fun V hb=>by
  refine⟨kc hb h.c0,kc hb h.c2,kc hb h.core.c4,?_,kc hb k2,?_,kc hb kg,kc hb (h.tr hx).c7,kc hb (h.tr hx).c8⟩
  ·rw[←hr];exact kc hb (h.pc hp).c0
  ·rw[←hpg];exact kc hb (h.tr hx).c2
 have HS:=aa hS
 have HZ:=aa (Below.refl W.heap.size W)
 obtain⟨s0,s1,s2,s3,s4,s5,s6,s7,s8⟩:=hS _ HZ.out
 have HBZ:Hid (bz=true→ok=false∧T'=T∧M'=M∧l'=l++[⟨2,(pr:Int),(M.th x).p,(M.th x).g,0,0⟩]):=hbz
 have HEN:Hid (∀V,Below W.heap.size W V→Calls Tryz.prog 123 #[.pointer (some ⟨sb,0,none⟩),.int .i64 2,.agg #[.int .i64 (M.th x).p,.int .u32 ((M.th x).g:Int)],.int .i64 0] V fun e w'=>e= .panicked gF∧SX w W0 w' lab a P n q T M sb pr (l++[⟨2,(pr:Int),(M.th x).p,(M.th x).g,0,0⟩]) O0):=fun V hb=>(h.more hb).end_ hl 2 (M.th x).p (M.th x).g 0
 have HTH:Hid (∀V,Below W.heap.size W V→V.cell? ⟨a.th,x*10,none⟩=some (.int .i64 (M.th x).p)∧V.cell? ⟨a.th,x*10+1,none⟩=some (.int .u32 ((M.th x).g:Int))∧V.cell? ⟨a.th,x*10+7,none⟩=some (.int .i64 (M.th x).ia)∧V.cell? ⟨a.th,x*10+8,none⟩=some (.int .i64 (M.th x).il)∧ ∀o,V.frozen? ⟨a.th,o,none⟩=false):=fun V hb=>⟨kc hb (h.tr hx).c0,kc hb (h.tr hx).c1,kc hb (h.tr hx).c7,kc hb (h.tr hx).c8,fun o=>(h.more hb).AH o⟩
 have HDO:Hid (bz=false→ ∀V,Below W.heap.size W V→Calls Tryz.prog 125 #[.pointer (some ⟨sb,0,none⟩),.pointer (some ⟨a.th,x*10,none⟩),.agg #[.int .i64 op,.int .i64 ar]] ((V.setCell ⟨a.th,x*10+7,none⟩ (.int .i64 ia')).setCell ⟨a.th,x*10+8,none⟩ (.int .i64 il')) fun e w'=>e=qw ok∧SX w W0 w' lab a P n q T' M' sb pr l' O0):=fun hz V hb=>((h.more hb).goes (fun _ i=>i.qW hx ia' il' hil')).call (R:=fun e=>e=qw ok) (fun O s=>hdo hz _ O s)
 have hthl:a.th<W.heap.size:=World.block_lt_of_cell? W _ (h.tr hx).c0
 have hgl':(g:Int)<(M.pr.length:Int):=by omega
 generalize (M.th x).ia=ia at*
 generalize (M.th x).il=il at*
 generalize (M.th x).p=tp at*
 generalize (M.th x).g=tg at*
 clear hstp hst hprg hrt h hS k2 kg hr hpg hg hbz hdo
 go_enter Tryz.func76,Tryz.ntmps76
 go_wp2
 go_region_held3 (fun w'=>w'.cell? ⟨sb,0,none⟩=some (.pointer (some ⟨a.m,0,none⟩))∧w'.cell? ⟨sb,2,none⟩=some (.pointer (some ⟨a.pr,pr*3,none⟩))∧w'.cell? ⟨a.m,4,none⟩=some (.slice (some ⟨a.th,0,none⟩) n a.xt)∧w'.cell? ⟨a.pr,pr*3,none⟩=some (.int .i64 (x:Int)))
  (go_keep)
  (first|fail)
 rename_i hHeld
 clear hHeld
 go_upto_region 1 with fail
 go_cut [3,4,5] (fun i3 n4 b5 Wc=> ∃ib nb,i3= .pointer (some ⟨ib,0,none⟩)∧n4= .pointer (some ⟨nb,0,none⟩)∧b5= .bool bz∧Df W Wc ib nb op ar ia' il')
 case first=>
  have HS2:Hid (∀V,Below W.heap.size W V→V.cell? ⟨sb,0,none⟩=some (.pointer (some ⟨a.m,0,none⟩))∧V.cell? ⟨a.m,2,none⟩=some (.slice (some ⟨pb,0,none⟩) M.pr.length cp)∧V.cell? ⟨a.th,x*10+2,none⟩=some (.int .i64 (g:Int))∧V.cell? ⟨pb,g,none⟩=some (.slice ap p.len cap)∧V.cell? ⟨a.th,x*10+7,none⟩=some (.int .i64 ia)∧V.cell? ⟨a.th,x*10+8,none⟩=some (.int .i64 il)):=fun V hb=>by
   obtain⟨t0,t1,t2,t3,t4,t5,t6,t7,t8⟩:=HS.out _ hb
   exact⟨t0,t4,t5,t6,t7,t8⟩
  refine wp_region_held_drew (S:=fun w'=>w'.cell? ⟨sb,0,none⟩=some (.pointer (some ⟨a.m,0,none⟩))∧w'.cell? ⟨a.m,2,none⟩=some (.slice (some ⟨pb,0,none⟩) M.pr.length cp)∧w'.cell? ⟨a.th,x*10+2,none⟩=some (.int .i64 (g:Int))∧w'.cell? ⟨pb,g,none⟩=some (.slice ap p.len cap)∧w'.cell? ⟨a.th,x*10+7,none⟩=some (.int .i64 ia)∧w'.cell? ⟨a.th,x*10+8,none⟩=some (.int .i64 il)) (by kernel_rfl) ?_ (fun hHeld=> ?_)
  ·exact HS2.out _ (bD (bD HZ.out))
  refine aH 0 (v:= ?_) rfl ?v0 ?_
  case v0=>(intro w hSw;(try dsimp only at hSw);obtain⟨hSa,hSb,hSc,hSd,hSe,hSf⟩:=hSw;go_simp;try with_reducible rfl)
  try simp only[aq]
  refine aH 1 (v:= ?_) rfl ?v1 ?_
  case v1=>(intro w hSw;(try dsimp only at hSw);obtain⟨hSa,hSb,hSc,hSd,hSe,hSf⟩:=hSw;go_simp;try with_reducible rfl)
  try simp only[aq]
  refine aH 2 (v:= ?_) rfl ?v2 ?_
  case v2=>(intro w hSw;(try dsimp only at hSw);obtain⟨hSa,hSb,hSc,hSd,hSe,hSf⟩:=hSw;go_simp;try with_reducible rfl)
  try simp only[aq]
  refine aH 3 (v:= ?_) rfl ?v3 ?_
  case v3=>(intro w hSw;(try dsimp only at hSw);obtain⟨hSa,hSb,hSc,hSd,hSe,hSf⟩:=hSw;go_simp;try with_reducible rfl)
  try simp only[aq]
  refine aH 4 (v:= ?_) rfl ?v4 ?_
  case v4=>(intro w hSw;(try dsimp only at hSw);obtain⟨hSa,hSb,hSc,hSd,hSe,hSf⟩:=hSw;go_simp;try with_reducible rfl)
  try simp only[aq]
  refine aH 5 (v:= ?_) rfl ?v5 ?_
  case v5=>(intro w hSw;(try dsimp only at hSw);obtain⟨hSa,hSb,hSc,hSd,hSe,hSf⟩:=hSw;go_simp;try with_reducible rfl)
  try simp only[aq]
  refine aH 6 (v:= ?_) rfl ?v6 ?_
  case v6=>(intro w hSw;(try dsimp only at hSw);obtain⟨hSa,hSb,hSc,hSd,hSe,hSf⟩:=hSw;go_simp;try with_reducible rfl)
  try simp only[aq]
  refine aH 7 (v:= ?_) rfl ?v7 ?_
  case v7=>(intro w hSw;(try dsimp only at hSw);obtain⟨hSa,hSb,hSc,hSd,hSe,hSf⟩:=hSw;go_simp;try with_reducible rfl)
  try simp only[aq]
  refine aH 8 (v:= ?_) rfl ?v8 ?_
  case v8=>(intro w hSw;(try dsimp only at hSw);obtain⟨hSa,hSb,hSc,hSd,hSe,hSf⟩:=hSw;go_simp;try with_reducible rfl)
  try simp only[aq]
  refine aH 9 (v:= ?_) rfl ?v9 ?_
  case v9=>(intro w hSw;(try dsimp only at hSw);obtain⟨hSa,hSb,hSc,hSd,hSe,hSf⟩:=hSw;go_simp;try with_reducible rfl)
  try simp only[aq]
  refine aH 10 (v:= ?_) rfl ?v10 ?_
  case v10=>(intro w hSw;(try dsimp only at hSw);obtain⟨hSa,hSb,hSc,hSd,hSe,hSf⟩:=hSw;go_simp;try with_reducible rfl)
  try simp only[aq]
  refine aH 11 (v:= ?_) rfl ?v11 ?_
  case v11=>(intro w hSw;(try dsimp only at hSw);obtain⟨hSa,hSb,hSc,hSd,hSe,hSf⟩:=hSw;go_simp;try with_reducible rfl)
  try simp only[aq]
  refine aH 12 (v:= ?_) rfl ?v12 ?_
  case v12=>(intro w hSw;(try dsimp only at hSw);obtain⟨hSa,hSb,hSc,hSd,hSe,hSf⟩:=hSw;go_simp;try with_reducible rfl)
  try simp only[aq]
  refine aH 13 (v:= ?_) rfl ?v13 ?_
  case v13=>(intro w hSw;(try dsimp only at hSw);obtain⟨hSa,hSb,hSc,hSd,hSe,hSf⟩:=hSw;go_simp;try with_reducible rfl)
  try simp only[aq]
  refine aH 14 (v:= ?_) rfl ?v14 ?_
  case v14=>(intro w hSw;(try dsimp only at hSw);obtain⟨hSa,hSb,hSc,hSd,hSe,hSf⟩:=hSw;go_simp;try with_reducible rfl)
  try simp only[aq]
  refine aH 15 (v:= ?_) rfl ?v15 ?_
  case v15=>(intro w hSw;(try dsimp only at hSw);obtain⟨hSa,hSb,hSc,hSd,hSe,hSf⟩:=hSw;go_simp;try with_reducible rfl)
  try simp only[aq]
  refine aH 16 (v:= ?_) rfl ?v16 ?_
  case v16=>(intro w hSw;(try dsimp only at hSw);obtain⟨hSa,hSb,hSc,hSd,hSe,hSf⟩:=hSw;go_simp;try with_reducible rfl)
  try simp only[aq]
  refine wpAnyH_ready (rs:=[17,22,23]) (by kernel_rfl) (by simp) ?_
  refine AllReadyH.cons rfl (fun K hK=> ?_) (AllReadyH.cons rfl (fun K hK=> ?_) (AllReadyH.cons rfl (fun K hK=> ?_) AllReadyH.nil))
  ·skip
   go_simp
   go_at_call 67
   refine(HST.out _ (by repeat first|exact ak HZ.out rfl rfl rfl rfl|apply aQ|apply bD)).mono ?_
   rintro e w2 ⟨rfl,hb,hv⟩
   have hlt:=hb.size
   have HB2:=aa hb
   clear hb hv
   refine hK.out _ _ ?_ (fun hHeld=> ?_)
   ·exact HS2.out _ (by repeat first|exact HB2.out|exact ak HZ.out rfl rfl rfl rfl|apply aQ|apply bM|exact Nat.le_refl _|omega|apply bD)
   clear hK K
   try simp only[aq]
   refine aH 18 (v:= ?_) rfl ?v18 ?_
   case v18=>(intro w hSw;(try dsimp only at hSw);obtain⟨hSa,hSb,hSc,hSd,hSe,hSf⟩:=hSw;go_simp;try with_reducible rfl)
   try simp only[aq]
   refine aH 19 (v:= ?_) rfl ?v19 ?_
   case v19=>(intro w hSw;(try dsimp only at hSw);obtain⟨hSa,hSb,hSc,hSd,hSe,hSf⟩:=hSw;go_simp;try with_reducible rfl)
   try simp only[aq]
   refine aH 20 (v:= ?_) rfl ?v20 ?_
   case v20=>(intro w hSw;(try dsimp only at hSw);obtain⟨hSa,hSb,hSc,hSd,hSe,hSf⟩:=hSw;go_simp;try with_reducible rfl)
   try simp only[aq]
   refine aH 21 (v:= ?_) rfl ?v21 ?_
   case v21=>(intro w hSw;(try dsimp only at hSw);obtain⟨hSa,hSb,hSc,hSd,hSe,hSf⟩:=hSw;go_simp;try with_reducible rfl)
   try simp only[aq]
   refine wpAnyH_ready (rs:=[22,23]) (by kernel_rfl) (by simp) ?_
   refine AllReadyH.cons rfl (fun K hK=> ?_) (AllReadyH.cons rfl (fun K hK=> ?_) AllReadyH.nil)
   ·skip
    go_simp
    refine hK.out _ _ ?_ (fun hHeld=> ?_)
    ·exact HS2.out _ (by repeat first|exact HB2.out|exact ak HZ.out rfl rfl rfl rfl|apply aQ|apply bM|exact Nat.le_refl _|omega|apply bD)
    clear hK K
    try simp only[aq]
    refine a8 23 rfl (fun K hK=> ?_)
    go_simp
    refine hK.out _ _ ?_ (fun hHeld=> ?_)
    ·exact HS2.out _ (by repeat first|exact HB2.out|exact ak HZ.out rfl rfl rfl rfl|apply aQ|apply bM|exact Nat.le_refl _|omega|apply bD)
    clear hK K
    try simp only[aq]
    refine a8 24 rfl (fun K hK=> ?_)
    go_simp
    refine hK.out _ _ ?_ (fun hHeld=> ?_)
    ·exact HS2.out _ (by repeat first|exact HB2.out|exact ak HZ.out rfl rfl rfl rfl|apply aQ|apply bM|exact Nat.le_refl _|omega|apply bD)
    clear hK K
    try simp only[aq]
    refine a8 25 rfl (fun K hK=> ?_)
    go_simp
    refine hK.out _ _ ?_ (fun hHeld=> ?_)
    ·exact HS2.out _ (by repeat first|exact HB2.out|exact ak HZ.out rfl rfl rfl rfl|apply aQ|apply bM|exact Nat.le_refl _|omega|apply bD)
    clear hK K
    try simp only[aq]
    refine aH 26 (v:= ?_) rfl ?v26 ?_
    case v26=>(intro w hSw;(try dsimp only at hSw);obtain⟨hSa,hSb,hSc,hSd,hSe,hSf⟩:=hSw;go_simp;try with_reducible rfl)
    try simp only[aq]
    refine wpAnyH_done (by kernel_rfl) ?_ _
    go_wp2
    go_meet
    case rel=>
     refine⟨_,_,rfl,rfl,rfl,?_⟩
     first
     |exact lP HB2.out
     |exact jF HB2.out
     |exact lK HB2.out HZ1.out hlt
     |exact jX HB2.out HZ1.out hlt
     |exact fW HB2.out ⟨by omega,by omega⟩ ⟨by omega,by omega⟩ (by omega) HZ1.out HZ2.out
     |exact fW HB2.out ⟨by omega,by omega⟩ ⟨by omega,by omega⟩ (by omega) HZ2.out HZ1.out
   ·skip
    go_simp
    refine hK.out _ _ ?_ (fun hHeld=> ?_)
    ·exact HS2.out _ (by repeat first|exact HB2.out|exact ak HZ.out rfl rfl rfl rfl|apply aQ|apply bM|exact Nat.le_refl _|omega|apply bD)
    clear hK K
    try simp only[aq]
    refine a8 22 rfl (fun K hK=> ?_)
    go_simp
    refine hK.out _ _ ?_ (fun hHeld=> ?_)
    ·exact HS2.out _ (by repeat first|exact HB2.out|exact ak HZ.out rfl rfl rfl rfl|apply aQ|apply bM|exact Nat.le_refl _|omega|apply bD)
    clear hK K
    try simp only[aq]
    refine a8 24 rfl (fun K hK=> ?_)
    go_simp
    refine hK.out _ _ ?_ (fun hHeld=> ?_)
    ·exact HS2.out _ (by repeat first|exact HB2.out|exact ak HZ.out rfl rfl rfl rfl|apply aQ|apply bM|exact Nat.le_refl _|omega|apply bD)
    clear hK K
    try simp only[aq]
    refine a8 25 rfl (fun K hK=> ?_)
    go_simp
    refine hK.out _ _ ?_ (fun hHeld=> ?_)
    ·exact HS2.out _ (by repeat first|exact HB2.out|exact ak HZ.out rfl rfl rfl rfl|apply aQ|apply bM|exact Nat.le_refl _|omega|apply bD)
    clear hK K
    try simp only[aq]
    refine aH 26 (v:= ?_) rfl ?v26 ?_
    case v26=>(intro w hSw;(try dsimp only at hSw);obtain⟨hSa,hSb,hSc,hSd,hSe,hSf⟩:=hSw;go_simp;try with_reducible rfl)
    try simp only[aq]
    refine wpAnyH_done (by kernel_rfl) ?_ _
    go_wp2
    go_meet
    case rel=>
     refine⟨_,_,rfl,rfl,rfl,?_⟩
     first
     |exact lP HB2.out
     |exact jF HB2.out
     |exact lK HB2.out HZ1.out hlt
     |exact jX HB2.out HZ1.out hlt
     |exact fW HB2.out ⟨by omega,by omega⟩ ⟨by omega,by omega⟩ (by omega) HZ1.out HZ2.out
     |exact fW HB2.out ⟨by omega,by omega⟩ ⟨by omega,by omega⟩ (by omega) HZ2.out HZ1.out
  ·skip
   go_simp
   refine hK.out _ _ ?_ (fun hHeld=> ?_)
   ·exact HS2.out _ (by repeat first|exact HB2.out|exact ak HZ.out rfl rfl rfl rfl|apply aQ|apply bM|exact Nat.le_refl _|omega|apply bD)
   clear hK K
   try simp only[aq]
   refine wpAnyH_ready (rs:=[17,23]) (by kernel_rfl) (by simp) ?_
   refine AllReadyH.cons rfl (fun K hK=> ?_) (AllReadyH.cons rfl (fun K hK=> ?_) AllReadyH.nil)
   ·skip
    go_simp
    go_at_call 67
    refine(HST.out _ (by repeat first|exact ak HZ.out rfl rfl rfl rfl|apply aQ|apply bD)).mono ?_
    rintro e w2 ⟨rfl,hb,hv⟩
    obtain⟨z1,hlt⟩:=Zb.Ff (W:=W) (t:=64) hv rfl
    have HZ1:=aa z1
    have z1a:=fun o=>z1.kept (V':=w2.alloc o) (Below.heap_alloc _ _ _ hlt)
    obtain⟨q0,q1,f0,f1⟩:=z1
    have r0:=fun o=>(z1a o).c0
    have r1:=fun o=>(z1a o).c1
    have g0:=fun o=>(z1a o).f0
    have g1:=fun o=>(z1a o).f1
    have n1: ¬W.heap.size=w2.heap.size:=by omega
    have n2: ¬w2.heap.size=W.heap.size:=by omega
    clear z1a
    have HB2:=aa hb
    clear hb hv
    refine hK.out _ _ ?_ (fun hHeld=> ?_)
    ·exact HS2.out _ (by repeat first|exact HB2.out|exact ak HZ.out rfl rfl rfl rfl|apply aQ|apply bM|exact Nat.le_refl _|omega|apply bD)
    clear hK K
    try simp only[aq]
    refine aH 18 (v:= ?_) rfl ?v18 ?_
    case v18=>(intro w hSw;(try dsimp only at hSw);obtain⟨hSa,hSb,hSc,hSd,hSe,hSf⟩:=hSw;go_simp;try with_reducible rfl)
    try simp only[aq]
    refine aH 19 (v:= ?_) rfl ?v19 ?_
    case v19=>(intro w hSw;(try dsimp only at hSw);obtain⟨hSa,hSb,hSc,hSd,hSe,hSf⟩:=hSw;go_simp;try with_reducible rfl)
    try simp only[aq]
    refine aH 20 (v:= ?_) rfl ?v20 ?_
    case v20=>(intro w hSw;(try dsimp only at hSw);obtain⟨hSa,hSb,hSc,hSd,hSe,hSf⟩:=hSw;go_simp;try with_reducible rfl)
    try simp only[aq]
    refine aH 21 (v:= ?_) rfl ?v21 ?_
    case v21=>(intro w hSw;(try dsimp only at hSw);obtain⟨hSa,hSb,hSc,hSd,hSe,hSf⟩:=hSw;go_simp;try with_reducible rfl)
    try simp only[aq]
    refine a8 23 rfl (fun K hK=> ?_)
    go_simp
    refine hK.out _ _ ?_ (fun hHeld=> ?_)
    ·exact HS2.out _ (by repeat first|exact HB2.out|exact ak HZ.out rfl rfl rfl rfl|apply aQ|apply bM|exact Nat.le_refl _|omega|apply bD)
    clear hK K
    try simp only[aq]
    refine a8 24 rfl (fun K hK=> ?_)
    go_simp
    refine hK.out _ _ ?_ (fun hHeld=> ?_)
    ·exact HS2.out _ (by repeat first|exact HB2.out|exact ak HZ.out rfl rfl rfl rfl|apply aQ|apply bM|exact Nat.le_refl _|omega|apply bD)
    clear hK K
    try simp only[aq]
    refine a8 25 rfl (fun K hK=> ?_)
    go_simp
    refine hK.out _ _ ?_ (fun hHeld=> ?_)
    ·exact HS2.out _ (by repeat first|exact HB2.out|exact ak HZ.out rfl rfl rfl rfl|apply aQ|apply bM|exact Nat.le_refl _|omega|apply bD)
    clear hK K
    try simp only[aq]
    refine aH 26 (v:= ?_) rfl ?v26 ?_
    case v26=>(intro w hSw;(try dsimp only at hSw);obtain⟨hSa,hSb,hSc,hSd,hSe,hSf⟩:=hSw;go_simp;try with_reducible rfl)
    try simp only[aq]
    refine wpAnyH_done (by kernel_rfl) ?_ _
    go_wp2
    go_meet
    case rel=>
     refine⟨_,_,rfl,rfl,rfl,?_⟩
     first
     |exact lP HB2.out
     |exact jF HB2.out
     |exact lK HB2.out HZ1.out hlt
     |exact jX HB2.out HZ1.out hlt
     |exact fW HB2.out ⟨by omega,by omega⟩ ⟨by omega,by omega⟩ (by omega) HZ1.out HZ2.out
     |exact fW HB2.out ⟨by omega,by omega⟩ ⟨by omega,by omega⟩ (by omega) HZ2.out HZ1.out
   ·skip
    go_simp
    refine hK.out _ _ ?_ (fun hHeld=> ?_)
    ·exact HS2.out _ (by repeat first|exact HB2.out|exact ak HZ.out rfl rfl rfl rfl|apply aQ|apply bM|exact Nat.le_refl _|omega|apply bD)
    clear hK K
    try simp only[aq]
    refine a8 17 rfl (fun K hK=> ?_)
    go_simp
    go_at_call 67
    refine(HST.out _ (by repeat first|exact ak HZ.out rfl rfl rfl rfl|apply aQ|apply bD)).mono ?_
    rintro e w2 ⟨rfl,hb,hv⟩
    obtain⟨z1,z2,hlt⟩:=Zb.E9 (W:=W) (t:=64) (t':=109) hv rfl
    have HZ1:=aa z1
    have HZ2:=aa z2
    obtain⟨q0,q1,f0,f1⟩:=z1
    obtain⟨q2,q3,f2,f3⟩:=z2
    have HB2:=aa hb
    clear hb hv
    refine hK.out _ _ ?_ (fun hHeld=> ?_)
    ·exact HS2.out _ (by repeat first|exact HB2.out|exact ak HZ.out rfl rfl rfl rfl|apply aQ|apply bM|exact Nat.le_refl _|omega|apply bD)
    clear hK K
    try simp only[aq]
    refine aH 18 (v:= ?_) rfl ?v18 ?_
    case v18=>(intro w hSw;(try dsimp only at hSw);obtain⟨hSa,hSb,hSc,hSd,hSe,hSf⟩:=hSw;go_simp;try with_reducible rfl)
    try simp only[aq]
    refine aH 19 (v:= ?_) rfl ?v19 ?_
    case v19=>(intro w hSw;(try dsimp only at hSw);obtain⟨hSa,hSb,hSc,hSd,hSe,hSf⟩:=hSw;go_simp;try with_reducible rfl)
    try simp only[aq]
    refine aH 20 (v:= ?_) rfl ?v20 ?_
    case v20=>(intro w hSw;(try dsimp only at hSw);obtain⟨hSa,hSb,hSc,hSd,hSe,hSf⟩:=hSw;go_simp;try with_reducible rfl)
    try simp only[aq]
    refine aH 21 (v:= ?_) rfl ?v21 ?_
    case v21=>(intro w hSw;(try dsimp only at hSw);obtain⟨hSa,hSb,hSc,hSd,hSe,hSf⟩:=hSw;go_simp;try with_reducible rfl)
    try simp only[aq]
    refine a8 24 rfl (fun K hK=> ?_)
    go_simp
    refine hK.out _ _ ?_ (fun hHeld=> ?_)
    ·exact HS2.out _ (by repeat first|exact HB2.out|exact ak HZ.out rfl rfl rfl rfl|apply aQ|apply bM|exact Nat.le_refl _|omega|apply bD)
    clear hK K
    try simp only[aq]
    refine a8 25 rfl (fun K hK=> ?_)
    go_simp
    refine hK.out _ _ ?_ (fun hHeld=> ?_)
    ·exact HS2.out _ (by repeat first|exact HB2.out|exact ak HZ.out rfl rfl rfl rfl|apply aQ|apply bM|exact Nat.le_refl _|omega|apply bD)
    clear hK K
    try simp only[aq]
    refine aH 26 (v:= ?_) rfl ?v26 ?_
    case v26=>(intro w hSw;(try dsimp only at hSw);obtain⟨hSa,hSb,hSc,hSd,hSe,hSf⟩:=hSw;go_simp;try with_reducible rfl)
    try simp only[aq]
    refine wpAnyH_done (by kernel_rfl) ?_ _
    go_wp2
    go_meet
    case rel=>
     refine⟨_,_,rfl,rfl,rfl,?_⟩
     first
     |exact lP HB2.out
     |exact jF HB2.out
     |exact lK HB2.out HZ1.out hlt
     |exact jX HB2.out HZ1.out hlt
     |exact fW HB2.out ⟨by omega,by omega⟩ ⟨by omega,by omega⟩ (by omega) HZ1.out HZ2.out
     |exact fW HB2.out ⟨by omega,by omega⟩ ⟨by omega,by omega⟩ (by omega) HZ2.out HZ1.out
  ·skip
   go_simp
   refine hK.out _ _ ?_ (fun hHeld=> ?_)
   ·exact HS2.out _ (by repeat first|exact HB2.out|exact ak HZ.out rfl rfl rfl rfl|apply aQ|apply bM|exact Nat.le_refl _|omega|apply bD)
   clear hK K
   try simp only[aq]
   refine wpAnyH_ready (rs:=[17,22]) (by kernel_rfl) (by simp) ?_
   refine AllReadyH.cons rfl (fun K hK=> ?_) (AllReadyH.cons rfl (fun K hK=> ?_) AllReadyH.nil)
   ·skip
    go_simp
    go_at_call 67
    refine(HST.out _ (by repeat first|exact ak HZ.out rfl rfl rfl rfl|apply aQ|apply bD)).mono ?_
    rintro e w2 ⟨rfl,hb,hv⟩
    obtain⟨z1,hlt⟩:=Zb.Ff (W:=W) (t:=109) hv rfl
    have HZ1:=aa z1
    have z1a:=fun o=>z1.kept (V':=w2.alloc o) (Below.heap_alloc _ _ _ hlt)
    obtain⟨q0,q1,f0,f1⟩:=z1
    have r0:=fun o=>(z1a o).c0
    have r1:=fun o=>(z1a o).c1
    have g0:=fun o=>(z1a o).f0
    have g1:=fun o=>(z1a o).f1
    have n1: ¬W.heap.size=w2.heap.size:=by omega
    have n2: ¬w2.heap.size=W.heap.size:=by omega
    clear z1a
    have HB2:=aa hb
    clear hb hv
    refine hK.out _ _ ?_ (fun hHeld=> ?_)
    ·exact HS2.out _ (by repeat first|exact HB2.out|exact ak HZ.out rfl rfl rfl rfl|apply aQ|apply bM|exact Nat.le_refl _|omega|apply bD)
    clear hK K
    try simp only[aq]
    refine aH 18 (v:= ?_) rfl ?v18 ?_
    case v18=>(intro w hSw;(try dsimp only at hSw);obtain⟨hSa,hSb,hSc,hSd,hSe,hSf⟩:=hSw;go_simp;try with_reducible rfl)
    try simp only[aq]
    refine aH 19 (v:= ?_) rfl ?v19 ?_
    case v19=>(intro w hSw;(try dsimp only at hSw);obtain⟨hSa,hSb,hSc,hSd,hSe,hSf⟩:=hSw;go_simp;try with_reducible rfl)
    try simp only[aq]
    refine aH 20 (v:= ?_) rfl ?v20 ?_
    case v20=>(intro w hSw;(try dsimp only at hSw);obtain⟨hSa,hSb,hSc,hSd,hSe,hSf⟩:=hSw;go_simp;try with_reducible rfl)
    try simp only[aq]
    refine aH 21 (v:= ?_) rfl ?v21 ?_
    case v21=>(intro w hSw;(try dsimp only at hSw);obtain⟨hSa,hSb,hSc,hSd,hSe,hSf⟩:=hSw;go_simp;try with_reducible rfl)
    try simp only[aq]
    refine a8 22 rfl (fun K hK=> ?_)
    go_simp
    refine hK.out _ _ ?_ (fun hHeld=> ?_)
    ·exact HS2.out _ (by repeat first|exact HB2.out|exact ak HZ.out rfl rfl rfl rfl|apply aQ|apply bM|exact Nat.le_refl _|omega|apply bD)
    clear hK K
    try simp only[aq]
    refine a8 24 rfl (fun K hK=> ?_)
    go_simp
    refine hK.out _ _ ?_ (fun hHeld=> ?_)
    ·exact HS2.out _ (by repeat first|exact HB2.out|exact ak HZ.out rfl rfl rfl rfl|apply aQ|apply bM|exact Nat.le_refl _|omega|apply bD)
    clear hK K
    try simp only[aq]
    refine a8 25 rfl (fun K hK=> ?_)
    go_simp
    refine hK.out _ _ ?_ (fun hHeld=> ?_)
    ·exact HS2.out _ (by repeat first|exact HB2.out|exact ak HZ.out rfl rfl rfl rfl|apply aQ|apply bM|exact Nat.le_refl _|omega|apply bD)
    clear hK K
    try simp only[aq]
    refine aH 26 (v:= ?_) rfl ?v26 ?_
    case v26=>(intro w hSw;(try dsimp only at hSw);obtain⟨hSa,hSb,hSc,hSd,hSe,hSf⟩:=hSw;go_simp;try with_reducible rfl)
    try simp only[aq]
    refine wpAnyH_done (by kernel_rfl) ?_ _
    go_wp2
    go_meet
    case rel=>
     refine⟨_,_,rfl,rfl,rfl,?_⟩
     first
     |exact lP HB2.out
     |exact jF HB2.out
     |exact lK HB2.out HZ1.out hlt
     |exact jX HB2.out HZ1.out hlt
     |exact fW HB2.out ⟨by omega,by omega⟩ ⟨by omega,by omega⟩ (by omega) HZ1.out HZ2.out
     |exact fW HB2.out ⟨by omega,by omega⟩ ⟨by omega,by omega⟩ (by omega) HZ2.out HZ1.out
   ·skip
    go_simp
    refine hK.out _ _ ?_ (fun hHeld=> ?_)
    ·exact HS2.out _ (by repeat first|exact HB2.out|exact ak HZ.out rfl rfl rfl rfl|apply aQ|apply bM|exact Nat.le_refl _|omega|apply bD)
    clear hK K
    try simp only[aq]
    refine a8 17 rfl (fun K hK=> ?_)
    go_simp
    go_at_call 67
    refine(HST.out _ (by repeat first|exact ak HZ.out rfl rfl rfl rfl|apply aQ|apply bD)).mono ?_
    rintro e w2 ⟨rfl,hb,hv⟩
    obtain⟨z1,z2,hlt⟩:=Zb.E9 (W:=W) (t:=109) (t':=64) hv rfl
    have HZ1:=aa z1
    have HZ2:=aa z2
    obtain⟨q0,q1,f0,f1⟩:=z1
    obtain⟨q2,q3,f2,f3⟩:=z2
    have HB2:=aa hb
    clear hb hv
    refine hK.out _ _ ?_ (fun hHeld=> ?_)
    ·exact HS2.out _ (by repeat first|exact HB2.out|exact ak HZ.out rfl rfl rfl rfl|apply aQ|apply bM|exact Nat.le_refl _|omega|apply bD)
    clear hK K
    try simp only[aq]
    refine aH 18 (v:= ?_) rfl ?v18 ?_
    case v18=>(intro w hSw;(try dsimp only at hSw);obtain⟨hSa,hSb,hSc,hSd,hSe,hSf⟩:=hSw;go_simp;try with_reducible rfl)
    try simp only[aq]
    refine aH 19 (v:= ?_) rfl ?v19 ?_
    case v19=>(intro w hSw;(try dsimp only at hSw);obtain⟨hSa,hSb,hSc,hSd,hSe,hSf⟩:=hSw;go_simp;try with_reducible rfl)
    try simp only[aq]
    refine aH 20 (v:= ?_) rfl ?v20 ?_
    case v20=>(intro w hSw;(try dsimp only at hSw);obtain⟨hSa,hSb,hSc,hSd,hSe,hSf⟩:=hSw;go_simp;try with_reducible rfl)
    try simp only[aq]
    refine aH 21 (v:= ?_) rfl ?v21 ?_
    case v21=>(intro w hSw;(try dsimp only at hSw);obtain⟨hSa,hSb,hSc,hSd,hSe,hSf⟩:=hSw;go_simp;try with_reducible rfl)
    try simp only[aq]
    refine a8 24 rfl (fun K hK=> ?_)
    go_simp
    refine hK.out _ _ ?_ (fun hHeld=> ?_)
    ·exact HS2.out _ (by repeat first|exact HB2.out|exact ak HZ.out rfl rfl rfl rfl|apply aQ|apply bM|exact Nat.le_refl _|omega|apply bD)
    clear hK K
    try simp only[aq]
    refine a8 25 rfl (fun K hK=> ?_)
    go_simp
    refine hK.out _ _ ?_ (fun hHeld=> ?_)
    ·exact HS2.out _ (by repeat first|exact HB2.out|exact ak HZ.out rfl rfl rfl rfl|apply aQ|apply bM|exact Nat.le_refl _|omega|apply bD)
    clear hK K
    try simp only[aq]
    refine aH 26 (v:= ?_) rfl ?v26 ?_
    case v26=>(intro w hSw;(try dsimp only at hSw);obtain⟨hSa,hSb,hSc,hSd,hSe,hSf⟩:=hSw;go_simp;try with_reducible rfl)
    try simp only[aq]
    refine wpAnyH_done (by kernel_rfl) ?_ _
    go_wp2
    go_meet
    case rel=>
     refine⟨_,_,rfl,rfl,rfl,?_⟩
     first
     |exact lP HB2.out
     |exact jF HB2.out
     |exact lK HB2.out HZ1.out hlt
     |exact jX HB2.out HZ1.out hlt
     |exact fW HB2.out ⟨by omega,by omega⟩ ⟨by omega,by omega⟩ (by omega) HZ1.out HZ2.out
     |exact fW HB2.out ⟨by omega,by omega⟩ ⟨by omega,by omega⟩ (by omega) HZ2.out HZ1.out
 case rest=>
  obtain⟨ib,nb,rfl,rfl,rfl,hbx⟩:=hcut
  have hbel:=hbx.mQ
  have HBL:=aa hbel
  obtain⟨v0,v1,v7,v8,vf⟩:=HTH.out _ hbel
  have i0:=hbx.pi.c0
  have i1:=hbx.pi.c1
  have m0:=hbx.pn.c0
  have m1:=hbx.pn.c1
  have hib:=hbx.i
  have hnb:=hbx.n
  have e1: ¬a.th=ib:=by omega
  have e2: ¬ib=a.th:=by omega
  clear hbel hbx HS HST HTH
  cases bz with
  |true=>
   obtain⟨rfl,rfl,rfl,rfl⟩:=HBZ.out rfl
   go_wp2_with (go_at_call 123;refine(HEN.out _ (by exact HBL.out)).mono ?_;rintro e w3 ⟨rfl,hg3⟩;have HG3:=aa hg3;clear hg3)
   simp[bodyPost]
   exact⟨rfl,HG3.out⟩
  |false=>
   have hd:=HDO.out rfl _ HBL.out
   have HD:=aa hd
   clear hd HBZ HEN HDO
   cases ok with
   |true=>
    go_wp2_with (go_at_call 125;refine(HD.out).mono ?_;rintro e w3 ⟨he,hg3⟩;obtain rfl:e= .returned (.tuple #[]):=he;have HG3:=aa hg3;clear hg3)
    go_end0
    exact⟨rfl,HG3.out⟩
   |false=>
    go_wp2_with (go_at_call 125;refine(HD.out).mono ?_;rintro e w3 ⟨he,hg3⟩;obtain rfl:e= .panicked gF:=he;have HG3:=aa hg3;clear hg3)
    simp[bodyPost]
    exact⟨rfl,HG3.out⟩
end
section
variable {w W:World} {lab labk:Nat→Nat} {a:Ad} {P n q T T':Nat} {M M':Mc} {sb pr:Nat} {l l':List Ev} {O:Nat→Prop}
theorem SG.xG (h:SG w W lab a P n q T M sb pr l O) (hl:l.length≤9000) (x:Nat) (hx:x<n) (op ar:Int) (h2:op≠2) (h3:op≠3) (h4:op≠4) (h5:op≠5) (h6:op≠6) (h7:op≠7) (h9:op≠9):
  Calls Tryz.prog 125 #[.pointer (some ⟨sb,0,none⟩),.pointer (some ⟨a.th,x*10,none⟩),.agg #[.int .i64 op,.int .i64 ar]] W fun e w'=>e= .returned (.tuple #[])∧SX w W w' lab a P n q T M sb pr (l++[⟨5,(pr:Int),(M.th x).p,(M.th x).g,op,0⟩]) O:=by
 have hb0:Below W.heap.size W (W.alloc (.cells #[.int .i64 op,.int .i64 ar] 64)):=(Below.refl _ _).alloc (Nat.le_refl _) _
 have hs0:=h.below hb0
 have h0:=hs0.sx
 have hno: ¬O W.heap.size:=fun q=>by have:=h.lt q;omega
 have HB0:=aa hb0
 have k0:=aU W #[.int .i64 op,.int .i64 ar] 64 0 _ rfl
 have k1:=aU W #[.int .i64 op,.int .i64 ar] 64 1 _ rfl
 have HKB:Hid (∀V T' M' l',SX w (W.alloc (.cells #[.int .i64 op,.int .i64 ar] 64)) V lab a P n q T' M' sb pr l' O→V.cell? ⟨W.heap.size,0,none⟩=some (.int .i64 op)∧V.cell? ⟨W.heap.size,1,none⟩=some (.int .i64 ar)):=fun V T' M' l' hg=>⟨hg.keep hno k0,hg.keep hno k1⟩
 have HR:=aa (h0.se (by omega) x hx op ar)
 have b2:(op==2)=false:=by simpa using h2
 have b3:(op==3)=false:=by simpa using h3
 have b4:(op==4)=false:=by simpa using h4
 have b5:(op==5)=false:=by simpa using h5
 have b6:(op==6)=false:=by simpa using h6
 have b7:(op==7)=false:=by simpa using h7
 have b9:(op==9)=false:=by simpa using h9
 clear h hs0 h0 hb0 hno
 go_enter Tryz.func125,Tryz.ntmps125
 go_wp2_with (go_at_call 158;refine(HR.out).mono ?_;rintro e w1 ⟨rfl,hg⟩;have HG:=aa hg;clear hg)
 go_end0
 exact⟨rfl,HG.out.ahead HB0.out⟩
end
def eX (w w':World) (lab:Nat→Nat) (a:Ad) (P n q T:Nat) (M:Mc) (v:Value):Prop:= ∃lab',ax w' lab' a P n q T M∧mF w w' lab lab'∧Fr (fun k=>lab k≠0) w w'∧ ∀k,v.ownBlock=some k→lab' k=0
section
variable {w W W':World} {lab labk:Nat→Nat} {a:Ad} {P n q T T':Nat} {M M':Mc} {sb pr:Nat} {l:List Ev} {O O0:Nat→Prop} {W0:World}
theorem SX.EO (h:SX w W0 W lab a P n q T M sb pr l O0): ∃v,W.cell? ⟨sb,3,none⟩=some v∧iN W w.heap.size v l∧eX w W lab a P n q T M v:=by
 obtain⟨k,v,s⟩:=h.sp
 exact⟨v,s.c3,s.hv,k,s.at_.i,s.at_.l,s.at_.f,fun k hk=>(s.hk k hk).1⟩
theorem ax.lU (h:ax w lab a P n q T M) (hp:pr<P) (d:Int) (hT:T'+n≤1000000000)
  (hact: ∀W1 O,SG w W1 lab a P n q T M w.heap.size pr [] O→Calls Tryz.prog 39 #[.pointer (some ⟨w.heap.size,0,none⟩),.int .u64 d] W1 fun e w'=>e= .returned (.tuple #[])∧SX w W1 w' lab a P n q T' M' w.heap.size pr l O):
  Calls Tryz.prog 13 #[.pointer (some ⟨a.m,0,none⟩),.int .i64 (pr:Int),.int .u64 d] w fun e w'=> ∃v,e= .returned (.tuple #[v,.int .i64 0])∧iN w' w.heap.size v l∧eX w w' lab a P n q (T'+n) (Go.Proofs.YtjlbmmiomfpgiaaGreatDoor.settle M' n) v:=by
 have HP:=aa (h.tI (pr:Int))
 have hyes:nI P (pr:Int)=true:=by unfold nI;simp;omega
 rw[hyes] at HP
 have c3:=h.co.c3
 have hpi:(pr:Int)<(P:Int):=by omega
 obtain⟨O,hs⟩:=SG.start h pr
 have HA:=aa (hact _ O hs)
 generalize hW:w.alloc (.cells #[.pointer (some ⟨a.m,0,none⟩),.int .i64 (pr:Int),.pointer (some ⟨a.pr,pr*3,none⟩),.slice none 0 0] 104)=W1 at*
 have HW:=aa hW
 have HST:Hid (∀V,SX w W1 V lab a P n q T' M' w.heap.size pr l O→Calls Tryz.prog 40 #[.pointer (some ⟨a.m,0,none⟩)] V fun e w'=>e= .returned (.tuple #[])∧SX w W1 w' lab a P n q (T'+n) (Go.Proofs.YtjlbmmiomfpgiaaGreatDoor.settle M' n) w.heap.size pr l O):=fun V h=>h.lift (R:=fun e=>e= .returned (.tuple #[])) fun _ i=>i.settle hT
 have hbt:=fun w=>Am ⟨a.m,0,none⟩ ⟨a.pr,pr*3,none⟩ (pr:Int) w
 clear h hs hW hact
 go_enter Tryz.func13,Tryz.ntmps13
 go_upto_region 6 with (first
  |(go_at_call 38;refine(HP.out).mono ?_;rintro e w1 ⟨rfl,hw⟩;replace hw:=hw.symm;subst hw))
 rw[HW.out]
 go_upto_region 8 with (first
  |(go_at_call 39;refine(HA.out).mono ?_;rintro e w2 ⟨rfl,hg⟩;have HG2:=aa hg;clear hg)
  |(go_at_call 40;refine(HST.out _ HG2.out).mono ?_;rintro e w3 ⟨rfl,hg⟩;have HG3:=aa hg;clear hg))
 obtain⟨v,z3,hev,hgo⟩:=HG3.out.EO
 obtain⟨ad,cap,rfl⟩:=Cb.aG hev
 have HE:=aa (And.intro hev hgo)
 clear hev hgo
 go_wp2
 go_ret2
 exact⟨_,rfl,HE.out.1,HE.out.2⟩
end
section
variable {w W W':World} {lab labk:Nat→Nat} {a:Ad} {P n q T T':Nat} {M M':Mc}
theorem az.DZ {w':World} (h:az w w' lab a P n q T M) (o:Obj):eX w (w'.alloc o) lab a P n q T M (.slice (some ⟨w'.heap.size,0,none⟩) 1 1):=by
 obtain⟨lab',hi,hl,hf⟩:=h
 have hb:Below w'.heap.size w' (w'.alloc o):=(Below.refl _ _).alloc (Nat.le_refl _) _
 have hi2:=hi.below hb
 have hf2:Fr (fun k=>lab k≠0) w (w'.alloc o):=hf.then (dc (S:=fun _=>False) hb) (fun _ _ q=>q.elim)
 refine⟨lab',hi2,⟨hl.old,hi2.lt⟩,hf2,fun k hk=> ?_⟩
 have:w'.heap.size=k:=by simpa [Value.ownBlock] using hk
 exact hi.fresh (by omega)
theorem ax.rE (h:ax w lab a P n q T M) (hT:T+n+1+n≤1000000000) (hG:Ea M n) (pg:Int) (lv:Nat) (hlv:lv<256) (sv:Int) (hno:js M pg sv=false) (x:Nat) (hf:cj M n=some x):
  Calls Tryz.prog 19 #[.pointer (some ⟨a.m,0,none⟩),.int .i64 pg,.int .u8 (lv:Int),.int .i64 sv] w fun e w'=> ∃v,e= .returned (.tuple #[v,.int .i64 0])∧iN w' w.heap.size v [⟨9,0,(x:Int),M.G x+1,pg,0⟩]∧eX w w' lab a P n q (T+n+1+n) (dH P n q M x pg lv sv) v:=by
 have HP:=aa (h.zV pg)
 have HL:=aa h.Ew
 obtain⟨g,hg⟩: ∃g,M.G x+1=g:=⟨_,rfl⟩
 have HB:Hid (Calls Tryz.prog 51 #[.pointer (some ⟨a.m,0,none⟩),.int .i64 0,.agg #[.int .i64 0,.int .u32 0,.int .i64 pg,.int .u8 (lv:Int),.int .u8 0,.int .i64 sv,.int .i64 0,.int .i64 0,.int .i64 0,.int .u64 0]] w fun e w'=>e= .returned (.tuple #[.agg #[.int .i64 9,.int .i64 0,.int .i64 (x:Int),.int .u32 (g:Int),.int .i64 pg,.int .i64 0],.int .i64 0])∧az w w' lab a P n q (T+n+1) (fp P n q M x 0 (dx pg lv sv))):=by
  have:=h.vk (by omega) hG 0 (dx pg lv sv) (yI pg lv sv hlv) x hf
  rw[hg] at this
  exact this
 have c6:=h.co.c6
 have hz:=h.t0.pos
 have HST:Hid (∀W lab1,At w W lab lab1 a P n q (T+n+1) (fp P n q M x 0 (dx pg lv sv))→ ∀b,lab1 b=0→jJ W b ⟨9,0,(x:Int),g,pg,0⟩→Calls Tryz.prog 40 #[.pointer (some ⟨a.m,0,none⟩)] W fun e w'=>e= .returned (.tuple #[])∧az w w' lab a P n q (T+n+1+n) (dH P n q M x pg lv sv)∧jJ w' b ⟨9,0,(x:Int),g,pg,0⟩):=fun W lab1 A b hb he=>by
  refine(A.i.settle hT).mono ?_
  rintro e w' ⟨rfl,hgo⟩
  obtain⟨lab2,A2,ho,hfr⟩:=A.step hgo
  exact⟨rfl,A2.goes,he.kept (hfr.box hb he.lt)⟩
 unfold js at hno
 clear h
 generalize M.sv.length=len at*
 have hp:iz M pg=true:=by cases e:iz M pg<;>simp[e] at hno⊢
 have h1: ¬sv< -1:=by intro e;simp[e] at hno
 have h2: ¬(len:Int)≤sv:=by intro e;simp[e] at hno
 have d1:decide (sv< -1)=false:=decide_eq_false h1
 have d2:decide ((len:Int)≤sv)=false:=decide_eq_false h2
 rw[hp] at HP
 have hbt:=fun w=>zw pg (lv:Int) sv w
 rw[hg]
 go_enter Tryz.func19,Tryz.ntmps19
 go_upto_region 8 with (first
  |(go_at_call 49;refine(HP.out).mono ?_;rintro e w1 ⟨rfl,hw⟩;replace hw:=hw.symm;subst hw)
  |(go_at_call 50;refine(HL.out).mono ?_;rintro e w1 ⟨rfl,hw⟩;replace hw:=hw.symm;subst hw)
  |(go_at_call 51;refine(HB.out).mono ?_;rintro e w1 ⟨rfl,hb⟩;have HB1:=aa hb;clear hb))
 obtain⟨lab1,A1⟩:=HB1.out.open hz
 have A2:=A1.new (.cells #[.int .i64 9,.int .i64 0,.int .i64 (x:Int),.int .u32 (g:Int),.int .i64 pg,.int .i64 0] 75)
 have hl:=A1.fresh (Nat.le_refl _)
 have he:jJ (w1.alloc (.cells #[.int .i64 9,.int .i64 0,.int .i64 (x:Int),.int .u32 (g:Int),.int .i64 pg,.int .i64 0] 75)) w1.heap.size ⟨9,0,(x:Int),g,pg,0⟩:=⟨aU _ _ _ 0 _ rfl,aU _ _ _ 1 _ rfl,aU _ _ _ 2 _ rfl,aU _ _ _ 3 _ rfl,aU _ _ _ 4 _ rfl,aU _ _ _ 5 _ rfl,fun o=>Gt.aF _ _ _ _⟩
 generalize w1.alloc (.cells #[.int .i64 9,.int .i64 0,.int .i64 (x:Int),.int .u32 (g:Int),.int .i64 pg,.int .i64 0] 75)=W1 at*
 have HS1:=aa (HST.out W1 lab1 A2 w1.heap.size hl he)
 clear HST A1 A2 hl he HB1 HB HP HL
 go_wp2_with (first
  |(go_at_call 40;refine(HS1.out).mono ?_;rintro e w2 ⟨rfl,hgo,⟨e0,e1,e2,e3,e4,e5,ef⟩⟩;have HG2:=aa hgo;clear hgo))
 go_ret2
 exact⟨_,rfl,iN.one w2 w.heap.size HG2.out.size ⟨9,0,(x:Int),g,pg,0⟩,HG2.out.DZ _⟩
end
def fw (w wr:World) (ad:Ad) (P n q T:Nat) (M:Mc) (K:Nat→Prop):Prop:=(∃lab,ax wr lab ad P n q T M∧(∀k,lab k≠0→w.heap.size≤k)∧ ∀k,K k→lab k=0∧k<wr.heap.size)∧Below w.heap.size w wr
section
variable {w wr w':World} {ad:Ad} {P n q T T':Nat} {M M':Mc} {K:Nat→Prop}
theorem fw.pq (h:fw w wr ad P n q T M K): ∃O,PQ wr O ad.pb n P q T M.pl:=by
 obtain⟨⟨lab,hi,hl⟩,hb⟩:=h
 obtain⟨O,p,_⟩:=hi.pl
 exact⟨O,p⟩
theorem fw.mQ (h:fw w wr ad P n q T M K):Below w.heap.size w wr:=h.2
end
end Go.Proofs.YtjlbmmiomfpgiaaGreatDoor
namespace Go.Proofs.YtjlbmmiomfpgiaaGreatDoor
open Go.RowKit
section
variable {W w':World} {labk:Nat→Nat} {a:Ad} {P n q T:Nat} {M:Mc}
theorem ax.Fg (h:ax W labk a P n q T M) {base:Nat} {v:Value} {L':List Cb.bL} (hl: ∀k,v.ownBlock=some k→labk k=6) (hp:Cb.cE w' base a.sb P v L') {S:Nat→Prop} (hf:Cb.Fr S W w') (hS: ∀k,S k→k=a.sb∨some k=v.ownBlock):az W w' labk a P n q T {M with sv:=L'}:=by
 have h6:Fr (fun k=>labk k=6) W w':=(zN hf).to (fun k _ hk=>(hS k hk).elim (fun e=>by rw[e];exact h.lsb) (fun e=>hl k e.symm))
 exact⟨labk,h.tw (h.same h6) h6 hp hl,h.same h6,h6.to (fun k _ hk=>by rw[hk];decide)⟩
theorem ax.CR (h:ax W labk a P n q T M) (i:Int):
  Calls Tryz.prog 86 #[.pointer (some ⟨a.sb,0,none⟩),.int .i64 i] W fun e w'=>e= .returned (.tuple #[.bool (Cb.yu M.sv i),.int .i64 (Cb.fE M.sv i:Int)])∧az W w' labk a P n q T {M with sv:=Cb.cK M.sv i}:=by
 obtain⟨base,v,hp,hl⟩:=h.sv
 refine(Cb.rv hp i).mono ?_
 rintro e w' ⟨rfl,hp',hf⟩
 exact⟨rfl,h.Fg hl hp' hf (fun _ q=>q)⟩
theorem ax.Cj (h:ax W labk a P n q T M) (now:Nat) (hn:now<18446744073709551616):
  Calls Tryz.prog 45 #[.pointer (some ⟨a.sb,0,none⟩),.int .u64 (now:Int)] W fun e w'=> ∃v,e= .returned v∧w'.ownsRow W.heap.size 3 1 v (Cb.gd M.sv now M.sv.length).length (Cb.iw (Cb.gd M.sv now M.sv.length))∧eX W w' labk a P n q T {M with sv:=M.sv.map (Cb.fZ now)} v:=by
 obtain⟨base,v,hp,hl⟩:=h.sv
 refine(Cb.vy hp now hn).mono ?_
 rintro e w' ⟨lv,rfl,ho,hp',hf⟩
 obtain⟨lab',g1,g2,g3⟩:=h.Fg hl hp' hf (fun _ q=> .inr q)
 have h6:Fr (fun k=>labk k=6) W w':=(zN hf).to (fun k _ hk=>hl k hk.symm)
 exact⟨lv,rfl,ho,labk,h.tw (h.same h6) h6 hp' hl,h.same h6,h6.to (fun k _ hk=>by rw[hk];decide),fun k hk=>h.fresh (Pi.ay ho hk).1⟩
end
end Go.Proofs.YtjlbmmiomfpgiaaGreatDoor
namespace Go.Proofs.YtjlbmmiomfpgiaaGreatDoor
open Go.RowKit Go.Lib Go.Shelf
attribute [local go_sem ↓] Go.wp_at_zero Go.wp_at_succ
def GX (w W0 wr:World) (lab:Nat→Nat) (a:Ad) (P n q T:Nat) (M:Mc) (v:Value) (l:List Ev) (K:Nat→Prop):Prop:=
 ∃labk,At w wr lab labk a P n q T M∧iN wr w.heap.size v l∧(∀k,v.ownBlock=some k→labk k=0∧ ¬K k)∧ ∀k,K k→labk k=0∧k<wr.heap.size∧wr.heap[k]? =W0.heap[k]?
section
variable {w W0 wr w':World} {lab:Nat→Nat} {a:Ad} {P n q T T':Nat} {M M':Mc} {v:Value} {l:List Ev} {K:Nat→Prop}
theorem GX.start (h:ax w lab a P n q T M):GX w w w lab a P n q T M (.slice none 0 0) [] (fun _=>False):=
 ⟨lab,h.EF,iN.nil _ _,fun k e=>(by cases e),fun k e=>(False.elim e)⟩
theorem GX.goes (h:GX w W0 wr lab a P n q T M v l K) (g: ∀labk,ax wr labk a P n q T M→az wr w' labk a P n q T' M'):GX w W0 w' lab a P n q T' M' v l K:=by
 obtain⟨labk,A,hv,hk,hK⟩:=h
 obtain⟨lab',A',ho,hf⟩:=A.step (g labk A.i)
 refine⟨lab',A',bj hv (fun k e=>hf.block k (hv.lt e).1 (fun q=>q (hk k e).1)),fun k e=>⟨by rw[ho k (hv.lt e).1];exact(hk k e).1,(hk k e).2⟩,fun k e=> ?_⟩
 obtain⟨h1,h2,h3⟩:=hK k e
 exact⟨by rw[ho k h2];exact h1,Nat.lt_of_lt_of_le h2 hf.size,(hf.block k h2 (fun q=>q h1)).trans h3⟩
theorem GX.call (h:GX w W0 wr lab a P n q T M v l K) {f:Nat} {args:Array Value} {R:Ending→Prop} (hc: ∀labk,ax wr labk a P n q T M→Calls Tryz.prog f args wr fun e w'=>R e∧az wr w' labk a P n q T' M'):Calls Tryz.prog f args wr fun e w'=>R e∧GX w W0 w' lab a P n q T' M' v l K:=by
 obtain⟨labk,A,hv,hk,hK⟩:=h
 refine(hc labk A.i).mono (fun e w' ⟨he,hg⟩=>⟨he,?_⟩)
 obtain⟨lab',A',ho,hf⟩:=A.step hg
 refine⟨lab',A',bj hv (fun k e=>hf.block k (hv.lt e).1 (fun q=>q (hk k e).1)),fun k e=>⟨by rw[ho k (hv.lt e).1];exact(hk k e).1,(hk k e).2⟩,fun k e=> ?_⟩
 obtain⟨h1,h2,h3⟩:=hK k e
 exact⟨by rw[ho k h2];exact h1,Nat.lt_of_lt_of_le h2 hf.size,(hf.block k h2 (fun q=>q h1)).trans h3⟩
theorem GX.BA (h:GX w W0 wr lab a P n q T M v l K) {f:Nat} {args:Array Value} {R:Ending→Value→World→Prop} (hc: ∀labk,ax wr labk a P n q T M→Calls Tryz.prog f args wr fun e w'=> ∃u,R e u w'∧(∀k,u.ownBlock=some k→wr.heap.size≤k∧k<w'.heap.size)∧eX wr w' labk a P n q T' M' u):Calls Tryz.prog f args wr fun e w'=> ∃u,R e u w'∧GX w w' w' lab a P n q T' M' v l (fun k=>K k∨u.ownBlock=some k)∧ ∀k,K k→w'.heap[k]? =W0.heap[k]? :=by
 obtain⟨labk,A,hv,hk,hK⟩:=h
 refine(hc labk A.i).mono (fun e w' ⟨u,he,hu,lab',i',hl,hf,hz⟩=>⟨u,he,⟨lab',⟨i',A.l.then hl A.f.size,A.f.then hf (fun k hk hn=>by rw[←A.l.old k hk];exact hn),A.z⟩,bj hv (fun k e=>hf.block k (hv.lt e).1 (fun q=>q (hk k e).1)),fun k e=>⟨by rw[hl.old k (hv.lt e).1];exact(hk k e).1,fun q=> ?_⟩,fun k e=> ?_⟩,fun k e=> ?_⟩)
 ·rcases q with q|q
  ·exact(hk k e).2 q
  ·have:=(hu k q).1
   have:=(hv.lt e).1
   omega
 ·rcases e with e|e
  ·obtain⟨h1,h2,h3⟩:=hK k e
   exact⟨by rw[hl.old k h2];exact h1,Nat.lt_of_lt_of_le h2 hf.size,rfl⟩
  ·exact⟨hz k e,(hu k e).2,rfl⟩
 ·obtain⟨h1,h2,h3⟩:=hK k e
  exact(hf.block k h2 (fun q=>q h1)).trans h3
theorem GX.D7 (h:GX w W0 wr lab a P n q T M (.slice none 0 0) [] K) {f:Nat} {args:Array Value} {R:Ending→Value→Prop} {l':List Ev} (hc: ∀labk,ax wr labk a P n q T M→Calls Tryz.prog f args wr fun e w'=> ∃u,R e u∧iN w' wr.heap.size u l'∧eX wr w' labk a P n q T' M' u):Calls Tryz.prog f args wr fun e w'=> ∃u,R e u∧GX w W0 w' lab a P n q T' M' u l' K:=by
 obtain⟨labk,A,hv,hk,hK⟩:=h
 refine(hc labk A.i).mono (fun e w' ⟨u,he,hu,lab',i',hl,hf,hz⟩=>⟨u,he,lab',⟨i',A.l.then hl A.f.size,A.f.then hf (fun k hk hn=>by rw[←A.l.old k hk];exact hn),A.z⟩,?_,fun k e=>⟨hz k e,fun q=> ?_⟩,fun k e=> ?_⟩)
 ·obtain⟨h1,h2|⟨g,cap,cells,hv',h3,h4⟩⟩:=hu
  ·exact⟨h1,.inl h2⟩
  ·exact⟨h1,.inr ⟨g,cap,cells,hv',Nat.le_trans A.f.size h3,h4⟩⟩
 ·have:=(hu.lt e).2
  have:=(hK k q).2.1
  omega
 ·obtain⟨h1,h2,h3⟩:=hK k e
  exact⟨by rw[hl.old k h2];exact h1,Nat.lt_of_lt_of_le h2 hf.size,(hf.block k h2 (fun q=>q h1)).trans h3⟩
theorem GX.more (h:GX w W0 wr lab a P n q T M v l K) (hb:Below wr.heap.size wr w'):GX w W0 w' lab a P n q T M v l K:=by
 obtain⟨labk,A,hv,hk,hK⟩:=h
 refine⟨labk,A.below hb,hv.below hb,hk,fun k e=> ?_⟩
 obtain⟨h1,h2,h3⟩:=hK k e
 exact⟨h1,Nat.lt_of_lt_of_le h2 hb.size,(hb.block k h2).trans h3⟩
theorem GX.eI (h:GX w W0 wr lab a P n q T M v l K) (e1:w'.heap=wr.heap) (e2:w'.os=wr.os) (e3:w'.tape=wr.tape) (e4:w'.output=wr.output):GX w W0 w' lab a P n q T M v l K:=h.more (ak (Below.refl _ _) e1 e2 e3 e4)
theorem GX.ki (h:GX w W0 wr lab a P n q T M v l K) (hT:T≤T'):GX w W0 wr lab a P n q T' M v l K:=h.goes fun _ i=>(i.ki hT).goes
theorem GX.i (h:GX w W0 wr lab a P n q T M v l K): ∃labk,ax wr labk a P n q T M:=⟨_,h.choose_spec.1.i⟩
theorem GX.ev (h:GX w W0 wr lab a P n q T M v l K):iN wr w.heap.size v l:=h.choose_spec.2.1
theorem GX.out (h:GX w W0 wr lab a P n q T M v l K):iN wr w.heap.size v l∧eX w wr lab a P n q T M v:=by
 obtain⟨labk,A,hv,hk,hK⟩:=h
 exact⟨hv,labk,A.i,A.l,A.f,fun k e=>(hk k e).1⟩
theorem GX.core (h:GX w W0 wr lab a P n q T M v l K):Core wr a P n M.qu M.ag:=by obtain⟨k,i⟩:=h.i;exact i.co
theorem GX.tr (h:GX w W0 wr lab a P n q T M v l K) {x:Nat} (hx:x<n):aX wr a.th (x*10) (M.th x):=by obtain⟨k,i⟩:=h.i;exact i.th.at_ x hx
theorem GX.tok (h:GX w W0 wr lab a P n q T M v l K) {x:Nat} (hx:x<n):(M.th x).ok:=by obtain⟨k,i⟩:=h.i;exact i.th.ok x hx
theorem GX.AH (h:GX w W0 wr lab a P n q T M v l K) (o:Nat):wr.frozen? ⟨a.th,o,none⟩=false:=by obtain⟨k,i⟩:=h.i;exact i.th.fz o
theorem GX.pc (h:GX w W0 wr lab a P n q T M v l K) {x:Nat} (hx:x<P):eO wr a.pr (x*3) (M.pc x):=by obtain⟨k,i⟩:=h.i;exact i.pc.at_ x hx
theorem GX.wl (h:GX w W0 wr lab a P n q T M v l K):w.heap.size≤wr.heap.size:=by obtain⟨k,A,_⟩:=h;exact A.f.size
theorem GX.told (h:GX w W0 wr lab a P n q T M v l K) {v1:Value} {w1:World} {ev:Ev} (ho:w1.ownsRow w.heap.size 75 6 v1 (l.length+1) (cQ l++cZ ev)) (hg:wr.grownBy w1 v.ownBlock) (hat:v1.ownBlock=v.ownBlock∨v1.ownBlock=some wr.heap.size):GX w W0 w1 lab a P n q T M v1 (l++[ev]) K:=by
 obtain⟨labk,A,hv,hk,hK⟩:=h
 have hbl: ∀b,b<wr.heap.size→v.ownBlock≠some b→w1.heap[b]? =wr.heap[b]? :=fun b hb hn=>hg.block b hb (fun e=>hn e.symm)
 have hf1:Fr (fun k=>labk k=0∧w.heap.size≤k) wr w1:=⟨hg.os,hg.tape,hg.output,hg.size,fun k hkl hn=>hbl k hkl (fun e=>hn ⟨(hk k e).1,(hv.lt e).2⟩)⟩
 have hz:=A.z
 have hi:ax w1 labk a P n q T M:=A.i.frame hf1 (fun k hk q=>hk q.1) (fun q=>by omega)
 refine⟨labk,⟨hi,⟨A.l.old,hi.lt⟩,A.f.then hf1 (fun k hk q=>by omega),hz⟩,?_,fun k e=> ?_,fun k e=> ?_⟩
 ·unfold iN
  rw[jh,List.length_append]
  exact ho
 ·rcases hat with q|q
  ·exact hk k (q▸e)
  ·rw[q] at e
   injection e with e
   rw[←e]
   refine⟨A.fresh (Nat.le_refl _),fun q=> ?_⟩
   have:=(hK _ q).2.1
   omega
 ·obtain⟨h1,h2,h3⟩:=hK k e
  exact⟨h1,Nat.lt_of_lt_of_le h2 hg.size,(hbl k h2 (fun q=>(hk k q).2 e)).trans h3⟩
end
section
variable {W w':World} {labk:Nat→Nat} {a:Ad} {P n q T:Nat} {M:Mc} {pr:Nat}
theorem ax.pN (h:ax W labk a P n q T M) (hp:pr<P) (s:Nat) (hs:s<18446744073709551616):az W (W.setCell ⟨a.pr,pr*3+1,none⟩ (.int .u64 (s:Int))) labk a P n q T {M with pc:=Gt.aw M.pc pr {M.pc pr with s:=s}}:=by
 have h3:Fr (fun k=>labk k=3) W (W.setCell ⟨a.pr,pr*3+1,none⟩ (.int .u64 (s:Int))):=(Fr.refl _ _).setCell (a:=⟨a.pr,_,none⟩) h.lpr _
 exact⟨labk,h.AD (h.same h3) h3 (h.pc.put ((h.pc.at_ pr hp).BE s) hs (fun j hj hne=>(h.pc.at_ j hj).fu (ve hne (by decide)) _) (fun o=>by rw[aN];exact h.pc.fz o)),h.same h3,h3.to (fun k _ hk=>by rw[hk];decide)⟩
theorem ax.vx (h:ax W labk a P n q T M) (hp:pr<P) (m:Bool):az W (W.setCell ⟨a.pr,pr*3+2,none⟩ (.bool m)) labk a P n q T {M with pc:=Gt.aw M.pc pr {M.pc pr with m:=m}}:=by
 have h3:Fr (fun k=>labk k=3) W (W.setCell ⟨a.pr,pr*3+2,none⟩ (.bool m)):=(Fr.refl _ _).setCell (a:=⟨a.pr,_,none⟩) h.lpr _
 exact⟨labk,h.AD (h.same h3) h3 (h.pc.put ((h.pc.at_ pr hp).Bd m) (h.pc.ok pr hp) (fun j hj hne=>(h.pc.at_ j hj).fu (ve hne (by decide)) _) (fun o=>by rw[aN];exact h.pc.fz o)),h.same h3,h3.to (fun k _ hk=>by rw[hk];decide)⟩
theorem zG {α:Type} (f:Nat→α) (i:Nat) (u v:α):Gt.aw (Gt.aw f i u) i v=Gt.aw f i v:=by
 funext j
 by_cases e:j=i
 ·rw[e,Gt.aj,Gt.aj]
 ·rw[Gt.af _ _ _ _ e,Gt.af _ _ _ _ e,Gt.af _ _ _ _ e]
def iK (M:Mc) (pr:Nat):Mc:={M with pc:=Gt.aw M.pc pr (countP (M.pc pr) M.qu)}
theorem ax.count (h:ax W labk a P n q T M) (hp:pr<P) (hs:(M.pc pr).s+1<18446744073709551616):
  Calls Tryz.prog 85 #[.pointer (some ⟨a.pr,pr*3,none⟩),.int .u64 (M.qu:Int)] W fun e w'=>e= .returned (.tuple #[])∧az W w' labk a P n q T (iK M pr):=by
 have c1:=(h.pc.at_ pr hp).c1
 have c2:=(h.pc.at_ pr hp).c2
 have fz:=h.pc.fz
 have h1:=h.pN hp ((M.pc pr).s+1) hs
 by_cases hq:(M.pc pr).s+1=M.qu
 ·have h2:az W (((W.setCell ⟨a.pr,pr*3+1,none⟩ (.int .u64 (((M.pc pr).s+1:Nat):Int))).setCell ⟨a.pr,pr*3+1,none⟩ (.int .u64 0)).setCell ⟨a.pr,pr*3+2,none⟩ (.bool true)) labk a P n q T (iK M pr):=by
   have q1:=(h1.then (fun _ i=>i.pN hp 0 (by decide))).then (fun _ i=>i.vx hp true)
   unfold iK countP
   rw[if_pos hq]
   simp only[zG,Gt.aj] at q1
   exact q1
  generalize (M.pc pr).s=s at*
  generalize M.qu=qu at*
  have hq':(s:Int)+1=(qu:Int):=by omega
  have hqb:((s:Int)+1==(qu:Int))=true:=by simp[hq']
  have e1:(((s+1:Nat):Int))=(s:Int)+1:=by omega
  rw[e1,hq'] at h2
  have H2:=aa h2
  clear h h1 h2 hq e1
  go_enter Tryz.func85,Tryz.ntmps85
  go_wp2
  go_end0
  exact⟨rfl,H2.out⟩
 ·have h2:az W (W.setCell ⟨a.pr,pr*3+1,none⟩ (.int .u64 (((M.pc pr).s+1:Nat):Int))) labk a P n q T (iK M pr):=by
   unfold iK countP
   rw[if_neg hq]
   exact h1
  generalize (M.pc pr).s=s at*
  generalize M.qu=qu at*
  have hq': ¬(s:Int)+1=(qu:Int):=by omega
  have hqb:((s:Int)+1==(qu:Int))=false:=by simp[hq']
  have e1:(((s+1:Nat):Int))=(s:Int)+1:=by omega
  rw[e1] at h2
  have H2:=aa h2
  clear h h1 h2 hq e1
  go_enter Tryz.func85,Tryz.ntmps85
  go_wp2
  go_end0
  exact⟨rfl,H2.out⟩
end
def cD (il:Int):Int:=if 0<il then il-1 else il
noncomputable def mE (M:Mc) (p:Nat):Mc:=
 if (M.pc p).r= -1 then M
 else{iK (j9 M (M.pc p).r.toNat (M.th (M.pc p).r.toNat).ia (cD (M.th (M.pc p).r.toNat).il)) p with sv:=Cb.cK M.sv (M.th (M.pc p).r.toNat).sv}
noncomputable def Bs (M:Mc) (p:Nat):List Ev:=
 if (M.pc p).r= -1 then []
 else if Cb.yu M.sv (M.th (M.pc p).r.toNat).sv then [⟨12,(p:Int),(M.th (M.pc p).r.toNat).p,(M.th (M.pc p).r.toNat).g,(M.th (M.pc p).r.toNat).sv,0⟩] else []
noncomputable def eV (M:Mc):Nat→Mc
 |0=>M
 |j+1=>mE (eV M j) j
noncomputable def oU (M:Mc):Nat→List Ev
 |0=>[]
 |j+1=>oU M j++Bs (eV M j) j
structure Eg (P n:Nat) (M:Mc):Prop where
 r: ∀p,p<P→(M.pc p).r= -1∨ ∃x:Nat,x<n∧(M.pc p).r=(x:Int)
 s: ∀p,p<P→(M.pc p).s<M.qu
theorem CG (M:Mc) (p j:Nat) (h:j≠p):(mE M p).pc j=M.pc j:=by
 unfold mE
 split
 ·rfl
 ·exact Gt.af _ _ _ _ h
theorem wA (M:Mc): ∀(j i:Nat),j≤i→(eV M j).pc i=M.pc i
 |0,_,_=>rfl
 |j+1,i,h=>(CG _ j i (by omega)).trans (wA M j i (by omega))
theorem CQ (M:Mc) (p:Nat):(mE M p).qu=M.qu:=by unfold mE;split<;>rfl
theorem wj (M:Mc): ∀j,(eV M j).qu=M.qu
 |0=>rfl
 |j+1=>(CQ _ j).trans (wj M j)
theorem oN (M:Mc): ∀j,(oU M j).length≤j
 |0=>Nat.le_refl _
 |j+1=>by
  have:=oN M j
  have:(Bs (eV M j) j).length≤1:=by unfold Bs;split<;>(try split)<;>simp
  show(oU M j++Bs (eV M j) j).length≤j+1
  rw[List.length_append]
  omega
section
variable {w:World} {lab:Nat→Nat} {a:Ad} {P n q T:Nat} {M:Mc}
theorem ax.work (h:ax w lab a P n q T M) (hr:Eg P n M):
  Calls Tryz.prog 44 #[.pointer (some ⟨a.m,0,none⟩)] w fun e w'=> ∃v,e= .returned v∧iN w' w.heap.size v (oU M P)∧eX w w' lab a P n q T (eV M P) v:=by
 have hg0:=GX.start h
 have c3:=h.co.c3
 have hP:=h.hP
 have hqu:=h.hq.1
 have HR:=aa hr
 have HG0:=aa hg0
 obtain⟨i0,hi0,hz0,hz1,hz2⟩:=Cb.info_parts rL
 clear h hr hg0
 go_enter Tryz.func44,Tryz.ntmps44
 go_wp2
 go_loopw [3,14] (fun tv iv wr=> ∃(j:Nat),j≤P∧iv= .int .i64 j∧GX w w wr lab a P n q T (eV M j) tv (oU M j) (fun _=>False)) (fun _ iv _=>P-(RowKit.intOf iv).toNat)
 case atStart=>exact⟨0,by omega,rfl,HG0.out⟩
 case round=>
  obtain⟨j,hj,rfl,hx⟩:=hrel
  have HX:=aa hx
  obtain⟨ad,cap,rfl⟩:=Cb.aG hx.ev
  have d3:=hx.core.c3
  have d4:=hx.core.c4
  have d0:=hx.core.c0
  have d6:=hx.core.c6
  by_cases hjl:j<P
  ·have hjl':(j:Int)<(P:Int):=by omega
   have hpc:=wA M j j (Nat.le_refl _)
   have hquj:=wj M j
   have hll:=oN M j
   have e0:=(hx.pc hjl).c0
   rw[hpc] at e0
   rcases HR.out.r j hjl with hrn|⟨x,hxn,hrx⟩
   ·rw[hrn] at e0
    have hN:GX w w wr lab a P n q T (eV M (j+1)) (.slice ad (oU M j).length cap) (oU M (j+1)) (fun _=>False):=by
     show GX w w wr lab a P n q T (mE (eV M j) j) _ (oU M j++Bs (eV M j) j) _
     unfold mE Bs
     rw[if_pos (by rw[hpc];exact hrn),if_pos (by rw[hpc];exact hrn),List.append_nil]
     exact hx
    have HN:=aa hN
    clear hN hx hpc hquj hrn
    go_wp2
    go_roundw
    case rel=>exact⟨j+1,by omega,by go_num,HN.out⟩
    case measure=>simp[RowKit.intOf];omega
   ·rw[hrx] at e0
    have hq1:(eV M j).qu=M.qu:=hquj
    obtain⟨t,ht⟩: ∃t,(eV M j).th x=t:=⟨_,rfl⟩
    obtain⟨cb,hcb⟩: ∃cb,Cb.yu (eV M j).sv t.sv=cb:=⟨_,rfl⟩
    have hrt:((eV M j).pc j).r.toNat=x:=by rw[hpc,hrx];simp
    have hrne: ¬((eV M j).pc j).r= -1:=by rw[hpc,hrx];omega
    have HNX:Hid (eV M (j+1)={iK (j9 (eV M j) x t.ia (cD t.il)) j with sv:=Cb.cK (eV M j).sv t.sv}∧oU M (j+1)=if cb then oU M j++[⟨12,(j:Int),t.p,t.g,t.sv,0⟩] else oU M j):=by
     refine⟨?_,?_⟩
     ·show mE (eV M j) j=_
      unfold mE
      rw[if_neg hrne,hrt,ht]
     ·show oU M j++Bs (eV M j) j=_
      unfold Bs
      rw[if_neg hrne,hrt,ht,hcb]
      cases cb<;>simp
    have hs1:(M.pc j).s<M.qu:=HR.out.s j hjl
    have hqs:((eV M j).pc j).s+1<18446744073709551616:=by rw[hpc];omega
    have tok:=hx.tok hxn
    rw[ht] at tok
    have htl:cD t.il<9223372036854775808:=by have:=tok.il;unfold cD;split<;>omega
    generalize eV M j=N at*
    generalize oU M j=L at*
    have HT:Hid (∀V,Calls Tryz.prog 84 #[.agg #[.int .i64 t.ia,.int .i64 t.il]] V fun e w'=>e= .returned (.agg #[.int .i64 t.ia,.int .i64 (cD t.il)])∧Below V.heap.size V w'):=fun V=>Ex.oC V t.ia t.il tok.il
    have HF:Hid (∀V,GX w w V lab a P n q T N (.slice ad L.length cap) L (fun _=>False)→GX w w ((V.setCell ⟨a.th,x*10+7,none⟩ (.int .i64 t.ia)).setCell ⟨a.th,x*10+8,none⟩ (.int .i64 (cD t.il))) lab a P n q T (j9 N x t.ia (cD t.il)) (.slice ad L.length cap) L (fun _=>False)):=fun V hV=>hV.goes (fun _ i=>i.qW hxn _ _ htl)
    have HC:Hid (∀V,GX w w V lab a P n q T (j9 N x t.ia (cD t.il)) (.slice ad L.length cap) L (fun _=>False)→Calls Tryz.prog 85 #[.pointer (some ⟨a.pr,j*3,none⟩),.int .u64 (M.qu:Int)] V fun e w'=>e= .returned (.tuple #[])∧GX w w w' lab a P n q T (iK (j9 N x t.ia (cD t.il)) j) (.slice ad L.length cap) L (fun _=>False)):=fun V hV=>hV.call (R:=fun e=>e= .returned (.tuple #[])) (fun _ i=>by rw[←hq1];exact i.count hjl hqs)
    have HCH:Hid (∀V,GX w w V lab a P n q T (iK (j9 N x t.ia (cD t.il)) j) (.slice ad L.length cap) L (fun _=>False)→Calls Tryz.prog 86 #[.pointer (some ⟨a.sb,0,none⟩),.int .i64 t.sv] V fun e w'=>(∃c:Int,e= .returned (.tuple #[.bool cb,.int .i64 c]))∧GX w w w' lab a P n q T {iK (j9 N x t.ia (cD t.il)) j with sv:=Cb.cK N.sv t.sv} (.slice ad L.length cap) L (fun _=>False)):=fun V hV=>hV.call (R:=fun e=> ∃c:Int,e= .returned (.tuple #[.bool cb,.int .i64 c])) (fun _ i=>(i.CR t.sv).mono (fun e w' hq=>⟨⟨(Cb.fE N.sv t.sv:Int),by have h1:=hq.1;rw[←hcb];exact h1⟩,hq.2⟩))
    have HTX:Hid (∀V (M':Mc) v' l',M'.th=(j9 N x t.ia (cD t.il)).th→GX w w V lab a P n q T M' v' l' (fun _=>False)→V.cell? ⟨a.m,0,none⟩=some (.int .u64 (M'.qu:Int))∧V.cell? ⟨a.m,6,none⟩=some (.pointer (some ⟨a.sb,0,none⟩))∧V.cell? ⟨a.th,x*10+5,none⟩=some (.int .i64 t.sv)∧V.cell? ⟨a.th,x*10,none⟩=some (.int .i64 t.p)∧V.cell? ⟨a.th,x*10+1,none⟩=some (.int .u32 (t.g:Int))):=fun V M' v' l' e hV=>by
     have q:=hV.tr hxn
     have e2:M'.th x={t with ia:=t.ia,il:=cD t.il}:=by rw[e];show Gt.aw N.th x _ x=_;rw[Gt.aj,ht]
     rw[e2] at q
     exact⟨hV.core.c0,hV.core.c6,q.c5,q.c0,q.c1⟩
    have t7:=(hx.tr hxn).c7
    have t8:=(hx.tr hxn).c8
    rw[ht] at t7 t8
    have AH:=hx.AH
    have hxl':(x:Int)<(n:Int):=by omega
    have hqN:(j9 N x t.ia (cD t.il)).qu=M.qu:=hq1
    have HQN:=aa hqN
    clear hx hpc hquj hrx hq1 hs1 hqs tok htl ht hcb hrt hrne hqN
    generalize cD t.il=tl at*
    go_upto_region 7 with fail
    go_region
    go_upto_region 10 with (first
     |(go_at_call 84;refine(HT.out _).mono ?_;rintro e w1 ⟨rfl,hb1⟩;have hG1:=HX.out.more (w':=w1) (by refine bt ?_ hb1;exact ak (Below.refl _ _) rfl rfl rfl rfl);have HG2:=aa (HF.out _ hG1);have u7: ∃u,w1.cell? ⟨a.th,x*10+7,none⟩=some (.int .i64 u):=⟨_,(hG1.tr hxn).c7⟩;have u8: ∃u,w1.cell? ⟨a.th,x*10+8,none⟩=some (.int .i64 u):=⟨_,(hG1.tr hxn).c8⟩;obtain⟨u7,y7⟩:=u7;obtain⟨u8,y8⟩:=u8;have zfz:=hG1.AH;have z0:=(HTX.out _ _ _ _ rfl HG2.out).1;rw[HQN.out] at z0;clear hG1 hb1)
     |(go_at_call 85;refine(HC.out _ (by exact HG2.out)).mono ?_;rintro e w3 ⟨rfl,hg⟩;have HG3:=aa hg;have hz:=HTX.out _ _ _ _ (by rfl) hg;clear hg))
    obtain⟨z0',z6,z5,zp,zg⟩:=hz
    clear HT HF HC
    go_region_held3 (fun w'=>w'.cell? ⟨a.m,6,none⟩=some (.pointer (some ⟨a.sb,0,none⟩))∧w'.cell? ⟨a.th,x*10+5,none⟩=some (.int .i64 t.sv))
     (first|(have hk:=HTX.out _ _ _ _ (by rfl) HG4.out;exact⟨hk.2.1,hk.2.2.1⟩)|go_keep)
     (first
      |(go_at_call 86;refine(HCH.out _ (by exact GX.eI HG3.out rfl rfl rfl rfl)).mono ?_;rintro e w4 ⟨⟨cc,rfl⟩,hg⟩;have HG4:=aa hg;clear hg))
    rename_i hHeld
    clear hHeld z0 z0' z6 z5 zp zg y7 y8 zfz
    obtain⟨y0',y6,y5,yp,yg⟩:=HTX.out _ _ _ _ (by rfl) HG4.out
    have hnx:=HNX.out
    cases cb with
    |false=>
     have HN:Hid (GX w w w4 lab a P n q T (eV M (j+1)) (.slice ad L.length cap) (oU M (j+1)) (fun _=>False)):=by
      show GX w w w4 lab a P n q T (eV M (j+1)) (.slice ad L.length cap) (oU M (j+1)) (fun _=>False)
      rw[hnx.1,hnx.2]
      exact HG4.out
     clear hnx
     go_wp2
     go_roundw
     case rel=>exact⟨j+1,by omega,by go_num,HN.out⟩
     case measure=>simp[RowKit.intOf];omega
    |true=>
     obtain⟨ev,hev⟩: ∃ev:Ev,(⟨12,(j:Int),t.p,t.g,t.sv,0⟩:Ev)=ev:=⟨_,rfl⟩
     rw[hev] at hnx
     have HN2:Hid (∀V v1,GX w w V lab a P n q T {iK (j9 N x t.ia tl) j with sv:=Cb.cK N.sv t.sv} v1 (L++[ev]) (fun _=>False)→GX w w V lab a P n q T (eV M (j+1)) v1 (oU M (j+1)) (fun _=>False)):=fun V v1 hV=>by
      rw[hnx.1,hnx.2]
      exact hV
     have HN4:Hid (∀V v' l',GX w w V lab a P n q T {iK (j9 N x t.ia tl) j with sv:=Cb.cK N.sv t.sv} v' l' (fun _=>False)→V.cell? ⟨a.th,x*10+5,none⟩=some (.int .i64 t.sv)∧V.cell? ⟨a.th,x*10,none⟩=some (.int .i64 t.p)∧V.cell? ⟨a.th,x*10+1,none⟩=some (.int .u32 (t.g:Int))):=fun V v' l' hV=>(HTX.out V _ v' l' (by rfl) hV).2.2
     generalize {iK (j9 N x t.ia tl) j with sv:=Cb.cK N.sv t.sv}=N4 at*
     clear hnx HNX
     go_upto_region 12 with fail
     have hb1:Below w4.heap.size w4 (w4.alloc (.cells #[.int .i64 12,.int .i64 (j:Int),.int .i64 t.p,.int .u32 (t.g:Int),.int .i64 t.sv,.int .i64 0] 75)).drew:=((Below.refl _ w4).alloc (Nat.le_refl _) _).drew
     have h1:=HG4.out.more hb1
     have q5:=kc hb1 y5
     have qp:=kc hb1 yp
     have qg:=kc hb1 yg
     have HNW:Hid (∀i u,(cZ ev)[i]? =some u→(w4.alloc (.cells #[.int .i64 12,.int .i64 (j:Int),.int .i64 t.p,.int .u32 (t.g:Int),.int .i64 t.sv,.int .i64 0] 75)).drew.cell? ((⟨w4.heap.size,0,none⟩:Addr).add i)=some u):=by
      rw[←hev]
      exact Cb.gM (w1:=w4) (c:=cZ ⟨12,(j:Int),t.p,t.g,t.sv,0⟩) rfl
     generalize hW1:(w4.alloc (.cells #[.int .i64 12,.int .i64 (j:Int),.int .i64 t.p,.int .u32 (t.g:Int),.int .i64 t.sv,.int .i64 0] 75)).drew=W1 at*
     have HW1:=aa hW1
     have HOW:=aa h1.ev
     have HBS:=aa h1.wl
     have HEND:Hid (∀v1 w2,w2.ownsRow w.heap.size 75 6 v1 (L.length+1) (cQ L++cZ ev)→W1.grownBy w2 (Value.slice ad L.length cap).ownBlock→(v1.ownBlock=(Value.slice ad L.length cap).ownBlock∨v1.ownBlock=some W1.heap.size)→GX w w w2 lab a P n q T N4 v1 (L++[ev]) (fun _=>False)):=fun v1 w2 ho hg hat=>h1.told ho hg hat
     clear hW1 hb1 h1 hev
     refine wp_region_held_drew (S:=(fun w'=>w'.cell? ⟨a.th,x*10+5,none⟩=some (.int .i64 t.sv)∧w'.cell? ⟨a.th,x*10,none⟩=some (.int .i64 t.p)∧w'.cell? ⟨a.th,x*10+1,none⟩=some (.int .u32 (t.g:Int)))) (by kernel_rfl) ?_ (fun hHeld=> ?_)
     ·exact⟨y5,yp,yg⟩
     refine aH 0 (v:= ?_) rfl ?v0 ?_
     case v0=>(intro w hSw;(try dsimp only at hSw);obtain⟨hSa,hSb,hSc⟩:=hSw;go_simp;try with_reducible rfl)
     try simp only[aq]
     refine aH 1 (v:= ?_) rfl ?v1 ?_
     case v1=>(intro w hSw;(try dsimp only at hSw);obtain⟨hSa,hSb,hSc⟩:=hSw;go_simp;try with_reducible rfl)
     try simp only[aq]
     refine aH 2 (v:= ?_) rfl ?v2 ?_
     case v2=>(intro w hSw;(try dsimp only at hSw);obtain⟨hSa,hSb,hSc⟩:=hSw;go_simp;try with_reducible rfl)
     try simp only[aq]
     refine aH 3 (v:= ?_) rfl ?v3 ?_
     case v3=>(intro w hSw;(try dsimp only at hSw);obtain⟨hSa,hSb,hSc⟩:=hSw;go_simp;try with_reducible rfl)
     try simp only[aq]
     refine aH 4 (v:= ?_) rfl ?v4 ?_
     case v4=>(intro w hSw;(try dsimp only at hSw);obtain⟨hSa,hSb,hSc⟩:=hSw;go_simp;try with_reducible rfl)
     try simp only[aq]
     refine aH 5 (v:= ?_) rfl ?v5 ?_
     case v5=>(intro w hSw;(try dsimp only at hSw);obtain⟨hSa,hSb,hSc⟩:=hSw;go_simp;try with_reducible rfl)
     try simp only[aq]
     refine aH 6 (v:= ?_) rfl ?v6 ?_
     case v6=>(intro w hSw;(try dsimp only at hSw);obtain⟨hSa,hSb,hSc⟩:=hSw;go_simp;try with_reducible rfl)
     try simp only[aq]
     refine aH 7 (v:= ?_) rfl ?v7 ?_
     case v7=>(intro w hSw;(try dsimp only at hSw);obtain⟨hSa,hSb,hSc⟩:=hSw;go_simp;try with_reducible rfl)
     try simp only[aq]
     refine aH 8 (v:= ?_) rfl ?v8 ?_
     case v8=>(intro w hSw;(try dsimp only at hSw);obtain⟨hSa,hSb,hSc⟩:=hSw;go_simp;try with_reducible rfl)
     try simp only[aq]
     refine aH 9 (v:= ?_) rfl ?v9 ?_
     case v9=>(intro w hSw;(try dsimp only at hSw);obtain⟨hSa,hSb,hSc⟩:=hSw;go_simp;try with_reducible rfl)
     try simp only[aq]
     refine aH 10 (v:= ?_) rfl ?v10 ?_
     case v10=>(intro w hSw;(try dsimp only at hSw);obtain⟨hSa,hSb,hSc⟩:=hSw;go_simp;try with_reducible rfl)
     try simp only[aq]
     refine a8 11 rfl (fun K hK=> ?_)
     go_simp
     rw[HW1.out]
     refine hK.out _ _ ?_ (fun hHeld=> ?_)
     ·exact⟨q5,qp,qg⟩
     clear hK K
     try simp only[aq]
     refine a8 12 rfl (fun K hK=> ?_)
     refine bf _ (by rfl) _ _ _ (by rfl) w.heap.size 75 i0 (.agg #[.int .i64 0,.int .i64 0,.int .i64 0,.int .u32 0,.int .i64 0,.int .i64 0]) 6 48 Tryz.underlying38 hi0 hz0 hz1 hz2 rfl (by omega) (.slice ad L.length cap) L.length (cQ L) (by rfl) HOW.out ⟨w4.heap.size,0,none⟩ 1 1 (cZ ev) (by rfl) rfl HNW.out (eE _) (by unfold maxLen;omega) (by omega) HBS.out ?_
     intro v1 w5 ho1 hg1 hat1
     have hX:=HEND.out _ _ ho1 hg1 hat1
     obtain⟨a1,d1,rfl⟩:=Cb.aG ho1
     have HX2:=aa hX
     clear hX ho1 hg1 hat1
     refine hK.out _ _ ?_ (fun hHeld=> ?_)
     ·exact HN4.out _ _ _ HX2.out
     clear hK K
     try simp only[aq]
     refine aH 13 (v:= ?_) rfl ?v13 ?_
     case v13=>(intro w hSw;(try dsimp only at hSw);obtain⟨hSa,hSb,hSc⟩:=hSw;go_simp;try with_reducible rfl)
     try simp only[aq]
     refine wpAnyH_done (by kernel_rfl) ?_ _
     go_wp2
     go_roundw
     case rel=>exact⟨j+1,by omega,by go_num,HN2.out _ _ HX2.out⟩
     case measure=>simp[RowKit.intOf];omega
  ·have hjP:j=P:=by omega
   have hjl': ¬(j:Int)<(P:Int):=by omega
   subst hjP
   clear hx
   go_wp2
   go_ret
   exact⟨_,rfl,HX.out.out⟩
end
noncomputable def lx (P n q:Nat) (s:Mc×List Ev) (x:Nat):Mc×List Ev:=
 (ready P n q s.1 x (s.1.th x).pc,s.2++[⟨11,(s.1.th x).pc,(s.1.th x).p,(s.1.th x).g,0,0⟩])
noncomputable def aV (M:Mc):Mc:={M with nw:=max (Cb.dO M.nw 1) M.nw,wh:=Wh.late (max (Cb.dO M.nw 1) M.nw) M.wh}
noncomputable def eh (M:Mc):List Nat:=(Wh.due (max (Cb.dO M.nw 1) M.nw) M.wh).map (·.i)
noncomputable def lp (M:Mc):Mc:={M with sv:=M.sv.map (Cb.fZ M.nw)}
noncomputable def kv (M:Mc):List Nat:=Cb.gd M.sv M.nw M.sv.length
def iJ (i:Nat):Ev:=⟨13,0,0,0,(i:Int),0⟩
noncomputable def qU (P n q:Nat) (M:Mc):Mc×List Ev:=
 (eh M).foldl (lx P n q) (lp (eV (aV M) P),oU (aV M) P++(kv (eV (aV M) P)).map iJ)
noncomputable def fa (P n q:Nat) (M:Mc):Mc:=settle (qU P n q M).1 n
noncomputable def rU (P n q:Nat) (M:Mc):List Ev:=(qU P n q M).2++[⟨14,0,0,0,0,0⟩]
section
variable {w:World} {lab:Nat→Nat} {a:Ad} {P n q T:Nat} {M:Mc}
theorem yV (k i:Int) (w:World):(Instr.build 75 #[(0,.int .i64 k),(3,.int .i64 i)]).run Tryz.prog w= .ok (.agg #[.int .i64 k,.int .i64 0,.int .i64 0,.int .u32 0,.int .i64 i,.int .i64 0]) w:=run_build w 75 _ _ (by kernel_rfl)
theorem wR (k p x g:Int) (w:World):(Instr.build 75 #[(0,.int .i64 k),(1,.int .i64 p),(2,.agg #[.int .i64 x,.int .u32 g])]).run Tryz.prog w= .ok (.agg #[.int .i64 k,.int .i64 p,.int .i64 x,.int .u32 g,.int .i64 0,.int .i64 0]) w:=run_build w 75 _ _ (by kernel_rfl)
theorem yX (k:Int) (w:World):(Instr.build 75 #[(0,.int .i64 k)]).run Tryz.prog w= .ok (.agg #[.int .i64 k,.int .i64 0,.int .i64 0,.int .u32 0,.int .i64 0,.int .i64 0]) w:=run_build w 75 _ _ (by kernel_rfl)
end
section
variable {w:World} {lab:Nat→Nat} {a:Ad} {P n q T:Nat} {M:Mc}
def Ro (W:World) (ad:Option Addr) (xs:List Nat) (K:Nat→Prop):Prop:= ∀(j x:Nat),xs[j]? =some x→ ∃rb,ad=some ⟨rb,0,none⟩∧K rb∧W.cell? ⟨rb,j,none⟩=some (.int .i64 (x:Int))
theorem Ro.of {W:World} {base:Nat} {v:Value} {xs:List Nat} {ys:List Value} {m:Nat} (h:W.ownsRow base 3 1 v m ys) (hm:m=xs.length) (hy: ∀(j x:Nat),xs[j]? =some x→ys[j]? =some (.int .i64 (x:Int))): ∃ad cap,v= .slice ad xs.length cap∧Ro W ad xs (fun k=>v.ownBlock=some k):=by
 subst hm
 rcases h with ⟨hl,⟨hv,hz⟩|⟨g,cap,cells,hv,h3,h4,h5⟩⟩
 ·refine⟨none,0,by rw[hv,hz],fun j x hx=> ?_⟩
  have:=(List.getElem?_eq_some_iff.1 hx).1
  omega
 ·refine⟨some ⟨g,0,none⟩,cap,hv,fun j x hx=>⟨g,rfl,by rw[hv];rfl,?_⟩⟩
  have hu:=hy j x hx
  rw[←h5.2.2.2,List.getElem?_take] at hu
  split at hu
  ·simp only[World.cell?,h4]
   simpa using hu
  ·cases hu
theorem Ro.at {w W0 wr:World} {v:Value} {l:List Ev} {K:Nat→Prop} {ad:Option Addr} {xs:List Nat} (h:Ro W0 ad xs K) {T':Nat} {M':Mc} (g:GX w W0 wr lab a P n q T' M' v l K):Ro wr ad xs K:=fun j x hx=>by
 obtain⟨rb,e,hk,hc⟩:=h j x hx
 obtain⟨labk,A,hv,hk',hK⟩:=g
 exact⟨rb,e,hk,(World.cell?_of_block (hK rb hk).2.2).trans hc⟩
theorem rz {β:Type} (f:β→Nat→β) (b:β) {l:List Nat} {j:Nat} {x:Nat} (h:l[j]? =some x):(l.take (j+1)).foldl f b=f ((l.take j).foldl f b) x:=by
 rw[List.take_add_one,h,List.foldl_append];rfl
theorem tQ (P n q:Nat): ∀(l:List Nat) (s:Mc×List Ev),(l.foldl (lx P n q) s).2.length=s.2.length+l.length
 |[],s=>rfl
 |x::l,s=>by
  rw[List.foldl_cons,tQ P n q l]
  simp[lx]
  omega
theorem ax.zO (h:ax w lab a P n q T M) (hn:n≤12) (hav: ∀V labk,ax V labk a P n q T M→Calls Tryz.prog 42 #[.pointer (some ⟨a.wb,0,none⟩),.int .u64 (Cb.dO M.nw 1:Int)] V fun e w'=> ∃v,e= .returned v∧w'.ownsRow V.heap.size 3 1 v (Wh.due (max (Cb.dO M.nw 1) M.nw) M.wh).length (Wh.iv (Wh.ai (Wh.due (max (Cb.dO M.nw 1) M.nw) M.wh)))∧eX V w' labk a P n q T (aV M) v) (hr:Eg P n M) (hT:T+(n+1)*n+n≤1000000000):
  Calls Tryz.prog 16 #[.pointer (some ⟨a.m,0,none⟩)] w fun e w'=> ∃v,e= .returned v∧iN w' w.heap.size v (rU P n q M)∧eX w w' lab a P n q (T+(n+1)*n+n) (fa P n q M) v:=by
 have hg0:=GX.start h
 have c9:=h.co.c9
 have hP:=h.hP
 have hnw:=h.Dh
 have hadd:=Cb.tG M.nw 1
 have hwf:=h.wh.facts
 have HNW:Hid (∀V,V.heap=w.heap→V.os=w.os→V.tape=w.tape→V.output=w.output→Calls Tryz.prog 22 #[.pointer (some ⟨a.m,0,none⟩)] V fun e w'=>e= .returned (.int .u64 (M.nw:Int))∧w'=V):=fun V e1 e2 e3 e4=>(h.below (ak (Below.refl _ _) e1 e2 e3 e4)).now
 have HAD:Hid (∀V,Calls Tryz.prog 43 #[.int .u64 (M.nw:Int),.int .u64 1] V fun e w'=>e= .returned (.int .u64 (Cb.dO M.nw 1:Int))∧w'=V):=fun V=>Cb.vT M.nw 1 V hnw (by decide)
 have HAV:Hid (∀V,V.heap=w.heap→V.os=w.os→V.tape=w.tape→V.output=w.output→Calls Tryz.prog 42 #[.pointer (some ⟨a.wb,0,none⟩),.int .u64 (Cb.dO M.nw 1:Int)] V fun e w'=> ∃ad cap,e= .returned (.slice ad (eh M).length cap)∧ ∃K,Ro w' ad (eh M) K∧GX w w' w' lab a P n q T (aV M) (.slice none 0 0) [] K):=fun V e1 e2 e3 e4=>by
  have hV:GX w w V lab a P n q T M (.slice none 0 0) [] (fun _=>False):=hg0.eI e1 e2 e3 e4
  refine(hV.BA (T':=T) (M':=aV M) (R:=fun e u w'=>e= .returned u∧w'.ownsRow V.heap.size 3 1 u (Wh.due (max (Cb.dO M.nw 1) M.nw) M.wh).length (Wh.iv (Wh.ai (Wh.due (max (Cb.dO M.nw 1) M.nw) M.wh)))) (fun labk i=>(hav V labk i).mono (fun e w' ⟨u,he,ho,hg⟩=>⟨u,⟨he,ho⟩,fun k hk=>⟨(Pi.ay ho hk).1,(Pi.ay ho hk).2.1⟩,hg⟩))).mono ?_
  rintro e w' ⟨u,⟨rfl,ho⟩,hg,_⟩
  obtain⟨ad,cap,rfl,hro⟩:=Ro.of (xs:=eh M) ho (by unfold eh;rw[List.length_map]) (fun j x hx=>by
   unfold eh at hx
   rw[List.getElem?_map] at hx
   unfold Wh.iv Wh.ai
   rw[List.getElem?_map,List.getElem?_map]
   cases hd:(Wh.due (max (Cb.dO M.nw 1) M.nw) M.wh)[j]? with
   |none=>rw[hd] at hx;cases hx
   |some y=>
    rw[hd] at hx
    injection hx with hx
    subst hx
    show some (Value.int .i64 (((y.i+1:Nat):Int)-1))=some (Value.int .i64 ((y.i:Nat):Int))
    rw[show(((y.i+1:Nat):Int)-1)=((y.i:Nat):Int) by omega])
  exact⟨ad,cap,rfl,_,fun j x hx=>(by obtain⟨rb,e,hk,hc⟩:=hro j x hx;exact⟨rb,e,.inr hk,hc⟩),hg⟩
 have hDlt: ∀x∈eh M,x<n:=fun x hx=>by
  unfold eh Wh.due at hx
  obtain⟨y,hy,rfl⟩:=List.mem_map.1 hx
  exact hwf.2.2.1 y (List.mem_filter.1 hy).1
 have hDlen:(eh M).length≤n:=by
  unfold eh Wh.due
  rw[List.length_map]
  exact Nat.le_trans (List.length_filter_le _ _) hwf.2.2.2.2.2.1
 have hrA:Eg P n (aV M):=⟨hr.r,hr.s⟩
 obtain⟨i0,hi0,hz0,hz1,hz2⟩:=Cb.info_parts rL
 clear h hg0 hwf hnw hadd
 have HWK:Hid (∀W1 V K,GX w W1 V lab a P n q T (aV M) (.slice none 0 0) [] K→Calls Tryz.prog 44 #[.pointer (some ⟨a.m,0,none⟩)] V fun e w'=> ∃u,e= .returned u∧GX w W1 w' lab a P n q T (eV (aV M) P) u (oU (aV M) P) K):=fun W1 V K hV=>hV.D7 (R:=fun e u=>e= .returned u) (fun _ i=>i.work hrA)
 have HNW2:Hid (∀W1 V K u l,GX w W1 V lab a P n q T (eV (aV M) P) u l K→Calls Tryz.prog 22 #[.pointer (some ⟨a.m,0,none⟩)] V fun e w'=>e= .returned (.int .u64 ((eV (aV M) P).nw:Int))∧w'=V):=fun W1 V K u l hV=>by
  obtain⟨lk,i⟩:=hV.i
  exact i.now
 have hlw:=oN (aV M) P
 have HRF:Hid (∀W1 V K u l ad D,Ro W1 ad D K→GX w W1 V lab a P n q T (eV (aV M) P) u l K→Calls Tryz.prog 45 #[.pointer (some ⟨a.sb,0,none⟩),.int .u64 ((eV (aV M) P).nw:Int)] V fun e w'=> ∃ad2 cap2,e= .returned (.slice ad2 (kv (eV (aV M) P)).length cap2)∧ ∃K2,Ro w' ad2 (kv (eV (aV M) P)) K2∧Ro w' ad D K2∧GX w w' w' lab a P n q T (lp (eV (aV M) P)) u l K2):=fun W1 V K u l ad D hD hV=>by
  obtain⟨lk,i⟩:=hV.i
  have hnl:=i.Dh
  refine(hV.BA (T':=T) (M':=lp (eV (aV M) P)) (R:=fun e u w'=>e= .returned u∧w'.ownsRow V.heap.size 3 1 u (kv (eV (aV M) P)).length (Cb.iw (kv (eV (aV M) P)))) (fun labk i=>(i.Cj (eV (aV M) P).nw hnl).mono (fun e w' ⟨u,he,ho,hg⟩=>⟨u,⟨he,ho⟩,fun k hk=>⟨(Pi.ay ho hk).1,(Pi.ay ho hk).2.1⟩,hg⟩))).mono ?_
  rintro e w' ⟨u2,⟨rfl,ho⟩,hg,hkk⟩
  obtain⟨ad2,cap2,rfl,hro⟩:=Ro.of (xs:=kv (eV (aV M) P)) ho rfl (fun j x hx=>by unfold Cb.iw;rw[List.getElem?_map,hx];rfl)
  refine⟨ad2,cap2,rfl,_,fun j x hx=> ?_,fun j x hx=> ?_,hg⟩
  ·obtain⟨rb,e,hk,hc⟩:=hro j x hx
   exact⟨rb,e,.inr hk,hc⟩
  ·obtain⟨rb,e,hk,hc⟩:=hD j x hx
   exact⟨rb,e,.inl hk,(World.cell?_of_block (hkk rb hk)).trans hc⟩
 have hFlen:(kv (eV (aV M) P)).length≤(eV (aV M) P).sv.length:=Cb.lZ _ _ _
 have HFL:Hid (∀W1 V K u l M',GX w W1 V lab a P n q T M' u l K→M'.sv.length≤32):=fun W1 V K u l M' hV=>by
  obtain⟨lk,i⟩:=hV.i
  obtain⟨b,v,hp,_⟩:=i.sv
  exact hp.f.len
 obtain⟨SW,hSW⟩: ∃SW,qU P n q M=SW:=⟨_,rfl⟩
 have HSW:=aa hSW
 unfold qU at hSW
 have HTM:Hid (fa P n q M=Go.Proofs.YtjlbmmiomfpgiaaGreatDoor.settle SW.1 n∧rU P n q M=SW.2++[⟨14,0,0,0,0,0⟩]):=by
  unfold Hid fa rU
  rw[HSW.out]
  exact⟨rfl,rfl⟩
 rw[HTM.out.1,HTM.out.2]
 clear HSW HTM hrA hr
 have H9:Hid (∀W1 V K u l M',GX w W1 V lab a P n q T M' u l K→V.cell? ⟨a.m,9,none⟩=some (.pointer (some ⟨a.wb,0,none⟩))∧V.cell? ⟨a.m,6,none⟩=some (.pointer (some ⟨a.sb,0,none⟩))):=fun W1 V K u l M' hV=>⟨hV.core.c9,hV.core.c6⟩
 generalize aV M=MA at*
 generalize oU MA P=LW at*
 generalize eV MA P=MW at*
 generalize kv MW=F at*
 generalize eh M=D at*
 generalize lp MW=M3 at*
 generalize Cb.dO M.nw 1=nw1 at*
 generalize M.nw=nw0 at*
 generalize MW.nw=nw2 at*
 go_enter Tryz.func16,Tryz.ntmps16
 go_wp2
 go_region_held3 (fun w'=>w'.cell? ⟨a.m,9,none⟩=some (.pointer (some ⟨a.wb,0,none⟩)))
  (first|exact(H9.out _ _ _ _ _ _ HG1.out).1|go_keep)
  (first
   |(go_at_call 42;refine(HAV.out w.drew rfl rfl rfl rfl).mono ?_;rintro e w1 ⟨ad,cap,rfl,K,hro,hg⟩;have HG1:=aa hg;have HRO:=aa hro;clear hg hro)
   |(go_at_call 43;refine(HAD.out _).mono ?_;rintro e w3 ⟨rfl,hw⟩;subst hw)
   |(go_at_call 22;refine(HNW.out w.drew rfl rfl rfl rfl).mono ?_;rintro e w3 ⟨rfl,hw⟩;subst hw))
 rename_i hHeld
 clear hHeld HAV HAD HNW c9
 go_wp2_with (go_at_call 44;refine(HWK.out _ _ _ (by exact GX.eI HG1.out rfl rfl rfl rfl)).mono ?_;rintro e w2 ⟨tv,rfl,hg⟩;have HG2:=aa hg;have d6:=(H9.out _ _ _ _ _ _ hg).2;have hF32:=HFL.out _ _ _ _ _ _ hg;clear hg)
 clear HWK
 go_region_held3 (fun w'=>w'.cell? ⟨a.m,6,none⟩=some (.pointer (some ⟨a.sb,0,none⟩)))
  (first|exact(H9.out _ _ _ _ _ _ HG3.out).2|go_keep)
  (first
   |(go_at_call 45;refine(HRF.out _ _ _ _ _ _ _ HRO.out (by exact GX.eI HG2.out rfl rfl rfl rfl)).mono ?_;rintro e w3 ⟨ad2,cap2,rfl,K2,hro2,hro3,hg⟩;have HG3:=aa hg;have HRF2:=aa hro2;have HRD2:=aa hro3;clear hg hro2 hro3)
   |(go_at_call 22;refine(HNW2.out _ _ _ _ _ (by exact GX.eI HG2.out rfl rfl rfl rfl)).mono ?_;rintro e w4 ⟨rfl,hw⟩;subst hw))
 rename_i hHeld
 clear hHeld HRF HNW2 HRO HG1 HG2 d6 HFL H9
 go_wp2
 go_loopw [4,30] (fun tv iv wr=> ∃(j:Nat),j≤F.length∧iv= .int .i64 j∧GX w w3 wr lab a P n q T M3 tv (LW++(F.take j).map iJ) K2) (fun _ iv _=>F.length-(RowKit.intOf iv).toNat)
 case atStart=>exact⟨0,by omega,rfl,by rw[List.take_zero,List.map_nil,List.append_nil];exact HG3.out⟩
 case round=>
  obtain⟨j,hj,rfl,hx⟩:=hrel
  clear HG3
  by_cases hjl:j<F.length
  ·have hjl':(j:Int)<(F.length:Int):=by omega
   obtain⟨x,hxx⟩: ∃x,F[j]? =some x:=⟨F[j],List.getElem?_eq_getElem hjl⟩
   obtain⟨rb,rfl,hrk,hrc⟩:=HRF2.out.at hx j x hxx
   have hlst:LW++(F.take (j+1)).map iJ=LW++(F.take j).map iJ++[iJ x]:=by rw[List.take_add_one,hxx];simp
   rw[List.append_assoc] at hlst
   have HLST:Hid (LW++(F.take (j+1)).map iJ=(LW++(F.take j).map iJ)++[iJ x]):=by unfold Hid;rw[hlst,List.append_assoc]
   have hll:(LW++(F.take j).map iJ).length≤100:=by rw[List.length_append,List.length_map,List.length_take];omega
   generalize LW++(F.take j).map iJ=LJ at*
   obtain⟨at_,ct_,rfl⟩:=Cb.aG hx.ev
   have HGA:=aa (hx.more (aQ (Below.refl _ _) (.cells #[.int .i64 13,.int .i64 0,.int .i64 0,.int .u32 0,.int .i64 (x:Int),.int .i64 0] 75)))
   have hbt:=yV 13
   clear hx hlst
   go_wp2_with (at_builtin;refine wpList_append_own_at _ rfl _ _ 38 rfl w.heap.size 75 i0 (.agg #[.int .i64 0,.int .i64 0,.int .i64 0,.int .u32 0,.int .i64 0,.int .i64 0]) 6 48 Tryz.underlying38 hi0 hz0 hz1 hz2 rfl (by decide) _ _ _ rfl HGA.out.ev ⟨wr.heap.size,0,none⟩ 1 1 (cZ (iJ x)) rfl rfl (Cb.gM (w1:=wr) (c:=cZ (iJ x)) rfl) (eE _) (by unfold maxLen;omega) (by omega) HGA.out.wl ?_;intro v1 w8 ho1 hg1 _ hat1;obtain⟨a1,d1,rfl⟩:=Cb.aG ho1;have HGT:=aa (HGA.out.told (ev:=(iJ x)) ho1 hg1 hat1);clear ho1 hg1 hat1)
   go_roundw
   case rel=>exact⟨j+1,by omega,by go_num,by rw[HLST.out];exact HGT.out⟩
   case measure=>simp[RowKit.intOf];omega
  ·have hjl': ¬(j:Int)<(F.length:Int):=by omega
   rw[List.take_of_length_le (by omega:F.length≤j)] at hx
   have hl0:(LW++F.map iJ).length≤100:=by rw[List.length_append,List.length_map];omega
   generalize LW++F.map iJ=L0 at*
   have HX:=aa hx
   obtain⟨at_,ct_,rfl⟩:=Cb.aG hx.ev
   have HWL:=aa (fun l:List Nat=>tQ P n q l (M3,L0))
   clear hx
   go_wp2
   go_loopw [4,42] (fun tv iv wr=> ∃(j:Nat),j≤D.length∧iv= .int .i64 j∧GX w w3 wr lab a P n q (T+(n+1)*j) ((D.take j).foldl (lx P n q) (M3,L0)).1 tv ((D.take j).foldl (lx P n q) (M3,L0)).2 K2) (fun _ iv _=>D.length-(RowKit.intOf iv).toNat)
   case atStart=>exact⟨0,by omega,rfl,HX.out⟩
   case round=>
    obtain⟨j,hj,rfl,hx⟩:=hrel
    clear HX
    have hwl:=HWL.out (D.take j)
    rw[List.length_take] at hwl
    by_cases hjl2:j<D.length
    ·have hjl2':(j:Int)<(D.length:Int):=by omega
     obtain⟨x,hxx⟩: ∃x,D[j]? =some x:=⟨D[j],List.getElem?_eq_getElem hjl2⟩
     obtain⟨rb,rfl,hrk,hrc⟩:=HRD2.out.at hx j x hxx
     have hxn:=hDlt x (List.mem_of_getElem? hxx)
     have HNX:Hid ((D.take (j+1)).foldl (lx P n q) (M3,L0)=lx P n q ((D.take j).foldl (lx P n q) (M3,L0)) x):=rz _ _ hxx
     generalize (D.take j).foldl (lx P n q) (M3,L0)=S at*
     obtain⟨N,LJ⟩:=S
     dsimp only at hx hwl
     have hll:LJ.length≤200:=by have:LJ.length=L0.length+min j D.length:=hwl;omega
     obtain⟨t,ht⟩: ∃t,N.th x=t:=⟨_,rfl⟩
     have hTj:T+(n+1)*j+n≤1000000000:=by have:=Nat.mul_le_mul_left (n+1) (show j≤n by omega);omega
     have HTJ:Hid (T+(n+1)*(j+1)=T+(n+1)*j+n+1):=by unfold Hid;rw[Nat.mul_succ];omega
     generalize T+(n+1)*j=TJ at*
     obtain⟨t0,t1,t2,t3,t4,t5,t6,t7,t8,t9⟩:=hx.tr hxn
     rw[ht] at t0 t1 t2 t3 t4 t5 t6 t7 t8 t9
     have d4:=hx.core.c4
     have hxl':(x:Int)<(n:Int):=by omega
     obtain⟨at_,ct_,rfl⟩:=Cb.aG hx.ev
     have HWK1:Hid (lx P n q (N,LJ) x=(Go.Proofs.YtjlbmmiomfpgiaaGreatDoor.ready P n q N x t.pc,LJ++[⟨11,t.pc,t.p,t.g,0,0⟩])):=by unfold Hid lx;simp only[ht]
     have hgB:=hx.more (aQ (Below.refl _ _) (.cells #[.int .i64 t.p,.int .u32 (t.g:Int),.int .i64 t.pg,.int .u8 (t.lv:Int),.int .u8 (t.lf:Int),.int .i64 t.sv,.int .i64 t.pc,.int .i64 t.ia,.int .i64 t.il,.int .u64 (t.sn:Int)] 111))
     have htb:=aX.new wr t
     have hown: ∀k,(Value.slice at_ LJ.length ct_).ownBlock=some k→k<wr.heap.size:=fun k hk=>(hx.ev.lt hk).1
     have HOWN:=aa hown
     have HRDY:Hid (∀V v' l',GX w w3 V lab a P n q TJ N v' l' K2→Calls Tryz.prog 46 #[.pointer (some ⟨a.m,0,none⟩),.int .i64 (x:Int),.int .i64 t.pc] V fun e w'=>e= .returned (.tuple #[])∧GX w w3 w' lab a P n q (TJ+n+1) (Go.Proofs.YtjlbmmiomfpgiaaGreatDoor.ready P n q N x t.pc) v' l' K2):=fun V v' l' hV=>hV.call (R:=fun e=>e= .returned (.tuple #[])) (fun _ i=>i.goes.ready hTj x hxn t.pc)
     clear hx hwl hown
     go_upto_region 14 with fail
     have hlt:wr.heap.size<(wr.alloc (.cells #[.int .i64 t.p,.int .u32 (t.g:Int),.int .i64 t.pg,.int .u8 (t.lv:Int),.int .u8 (t.lf:Int),.int .i64 t.sv,.int .i64 t.pc,.int .i64 t.ia,.int .i64 t.il,.int .u64 (t.sn:Int)] 111)).heap.size:=by simp
     generalize hB1:wr.alloc (.cells #[.int .i64 t.p,.int .u32 (t.g:Int),.int .i64 t.pg,.int .u8 (t.lv:Int),.int .u8 (t.lf:Int),.int .i64 t.sv,.int .i64 t.pc,.int .i64 t.ia,.int .i64 t.il,.int .u64 (t.sn:Int)] 111)=B1 at*
     obtain⟨ib,hib⟩: ∃ib,wr.heap.size=ib:=⟨_,rfl⟩
     rw[hib] at htb hlt HOWN⊢
     obtain⟨k0,k1,k2,k3,k4,k5,k6,k7,k8,k9⟩:=htb
     have HGA:=aa (hgB.more (aQ (Below.refl _ _) (.cells #[.int .i64 11,.int .i64 t.pc,.int .i64 t.p,.int .u32 (t.g:Int),.int .i64 0,.int .i64 0] 75)))
     have k6':(B1.alloc (.cells #[.int .i64 11,.int .i64 t.pc,.int .i64 t.p,.int .u32 (t.g:Int),.int .i64 0,.int .i64 0] 75)).cell? ⟨ib,0+6,none⟩=some (.int .i64 t.pc):=kc (aQ (Below.refl _ _) _) k6
     have HK6:Hid (∀V,(B1.alloc (.cells #[.int .i64 11,.int .i64 t.pc,.int .i64 t.p,.int .u32 (t.g:Int),.int .i64 0,.int .i64 0] 75)).grownBy V (Value.slice at_ LJ.length ct_).ownBlock→V.cell? ⟨ib,0+6,none⟩=some (.int .i64 t.pc)):=fun V hV=>(World.cell?_of_block (hV.block ib (by simp;omega) (fun e=>by have:=HOWN.out ib e.symm;omega))).trans k6'
     have hbt:=wR 11
     clear hgB hB1 hib k6' hlt t0 t1 t2 t3 t4 t5 t6 t7 t8 t9 d4
     go_wp2_with (first
      |(at_builtin;refine wpList_append_own_at _ rfl _ _ 38 rfl w.heap.size 75 i0 (.agg #[.int .i64 0,.int .i64 0,.int .i64 0,.int .u32 0,.int .i64 0,.int .i64 0]) 6 48 Tryz.underlying38 hi0 hz0 hz1 hz2 rfl (by decide) _ _ _ rfl HGA.out.ev ⟨B1.heap.size,0,none⟩ 1 1 (cZ ⟨11,t.pc,t.p,t.g,0,0⟩) rfl rfl (Cb.gM (w1:=B1) (c:=cZ ⟨11,t.pc,t.p,t.g,0,0⟩) rfl) (eE _) (by unfold maxLen;omega) (by omega) HGA.out.wl ?_;intro v1 w8 ho1 hg1 _ hat1;obtain⟨a1,d1,rfl⟩:=Cb.aG ho1;have HGT:=aa (HGA.out.told (ev:=⟨11,t.pc,t.p,t.g,0,0⟩) ho1 hg1 hat1);have y6:=HK6.out _ hg1;clear ho1 hg1 hat1)
      |(go_at_call 46;refine(HRDY.out _ _ _ HGT.out).mono ?_;rintro e w9 ⟨rfl,hg⟩;have HG9:=aa hg;clear hg))
     go_roundw
     case rel=>exact⟨j+1,by omega,by go_num,by rw[HNX.out,HTJ.out,HWK1.out];exact HG9.out⟩
     case measure=>simp[RowKit.intOf];omega
    ·have hjl2': ¬(j:Int)<(D.length:Int):=by omega
     rw[List.take_of_length_le (by omega:D.length≤j),hSW] at hx
     have hll:SW.2.length≤200:=by rw[List.take_of_length_le (by omega:D.length≤j),hSW] at hwl;have:SW.2.length=L0.length+min j D.length:=hwl;omega
     have hTj:T+(n+1)*j≤T+(n+1)*n:=by have:=Nat.mul_le_mul_left (n+1) (show j≤n by omega);omega
     have hx':=hx.ki hTj
     obtain⟨at_,ct_,rfl⟩:=Cb.aG hx'.ev
     have HST:=aa (hx'.call (R:=fun e=>e= .returned (.tuple #[])) (fun _ i=>i.goes.settle hT))
     clear hx hx' hwl hTj
     go_upto_region 18 with (go_at_call 40;refine(HST.out).mono ?_;rintro e w9 ⟨rfl,hg⟩;have HG9:=aa hg;clear hg)
     have HGA:=aa (HG9.out.more (aQ (Below.refl _ _) (.cells #[.int .i64 14,.int .i64 0,.int .i64 0,.int .u32 0,.int .i64 0,.int .i64 0] 75)))
     have hbt:=yX 14
     go_wp2_with (at_builtin;refine wpList_append_own_at _ rfl _ _ 38 rfl w.heap.size 75 i0 (.agg #[.int .i64 0,.int .i64 0,.int .i64 0,.int .u32 0,.int .i64 0,.int .i64 0]) 6 48 Tryz.underlying38 hi0 hz0 hz1 hz2 rfl (by decide) _ _ _ rfl HGA.out.ev ⟨w9.heap.size,0,none⟩ 1 1 (cZ ⟨14,0,0,0,0,0⟩) rfl rfl (Cb.gM (w1:=w9) (c:=cZ ⟨14,0,0,0,0,0⟩) rfl) (eE _) (by unfold maxLen;omega) (by omega) HGA.out.wl ?_;intro v1 w8 ho1 hg1 _ hat1;obtain⟨a1,d1,rfl⟩:=Cb.aG ho1;have HGT:=aa (HGA.out.told (ev:=⟨14,0,0,0,0,0⟩) ho1 hg1 hat1);clear ho1 hg1 hat1)
     go_ret
     exact⟨_,rfl,HGT.out.out⟩
end
end Go.Proofs.YtjlbmmiomfpgiaaGreatDoor
