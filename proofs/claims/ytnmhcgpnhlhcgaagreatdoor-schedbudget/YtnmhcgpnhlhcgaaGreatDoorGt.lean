/- YtnmhcgpnhlhcgaaGreatDoorGt: of the texts Ba36 Ba37 Ba38 Ba39 Bf1 Bf2 Bf3 Bf4 Bf5 Bf6 Bf7 Ba40 what is wanted. -/
import Derived.Test.YtnmhcgpnhlhcgaaGreatDoorG0
import Derived.Test.YtnmhcgpnhlhcgaaGreatDoorGq
import Derived.Deep.Cut
import Derived.Deep.DeepCutAuto
import Derived.Maps.AppendAt
import Derived.Test.YtnmhcgpnhlhcgaaGreatDoorGa
set_option maxHeartbeats 16000000
set_option maxRecDepth 100000
set_option linter.unusedVariables false
set_option linter.unusedSimpArgs false
namespace Go.Proofs.YtnmhcgpnhlhcgaaGreatDoor
open Go.RowKit Go.Lib Go.Shelf
attribute [local go_sem ↓] Go.wp_at_zero Go.wp_at_succ
theorem balloc {W V:World} (h:vBw W V) (o:Obj):vBw W (V.alloc o):=h.alloc h.size o
theorem brset {W V:World} (h:vBw W V) {b:Nat} (hb:W.heap.size≤b) (o:Nat) (u:Value):vBw W (V.setCell (vAt b o) u):=bset h hb u
theorem bdrew {W V:World} (h:vBw W V):vBw W V.drew:=below_post h rfl rfl rfl rfl
structure Zb (V:World) (b:Nat):Prop where
 c0:V.cell? (vA0 b)=some (vI6 0)
 c1:V.cell? (vAt b 1)=some (vI6 0)
 f0:V.frozen? (vA0 b)=false
 f1:V.frozen? (vAt b 1)=false
theorem Zb.new (W:World) (t:TypeId):Zb (W.alloc (.cells #[vI6 0,vI6 0] t)) W.heap.size:=⟨newc _ _ _ 0 _ rfl,newc _ _ _ 1 _ rfl,frozen_new _ _ _ _,frozen_new _ _ _ _⟩
theorem Zb.kept {V V':World} {b:Nat} (h:Zb V b) (hb:V'.heap[b]? =V.heap[b]?):Zb V' b:=⟨(World.cell?_of_block hb).trans h.c0,(World.cell?_of_block hb).trans h.c1,(World.frozen?_of_block hb).trans h.f0,(World.frozen?_of_block hb).trans h.f1⟩
theorem Zb.at1 {W V w2:World} {t:TypeId} (hv:vBw V w2) (hV:V.heap=(W.alloc (.cells #[vI6 0,vI6 0] t)).heap):Zb w2 W.heap.size∧W.heap.size<w2.heap.size:=by
 have hs:V.heap.size=W.heap.size+1:=by simp_all
 refine⟨(Zb.new W t).kept ?_,by have:=hv.size;omega⟩
 rw[hv.block _ (by omega),hV]
theorem Zb.at2 {W V w2:World} {t t':TypeId} (hv:vBw V w2) (hV:V.heap=((W.alloc (.cells #[vI6 0,vI6 0] t)).alloc (.cells #[vI6 0,vI6 0] t')).heap):Zb w2 W.heap.size∧Zb w2 (W.heap.size+1)∧W.heap.size+1<w2.heap.size:=by
 have hs:V.heap.size=W.heap.size+1+1:=by simp_all
 have s1:(W.alloc (.cells #[vI6 0,vI6 0] t)).heap.size=W.heap.size+1:=by simp
 refine⟨(Zb.new W t).kept ?_,?_,by have:=hv.size;omega⟩
 ·rw[hv.block _ (by omega),hV]
  exact Below.heap_alloc _ _ _ (by omega)
 ·have:=(Zb.new (W.alloc (.cells #[vI6 0,vI6 0] t)) t').kept (V':=w2) (by rw[hv.block _ (by omega),hV])
  rw[s1] at this
  exact this
structure Pt2 (V:World) (b:Nat) (x y:Int):Prop where
 c0:V.cell? (vA0 b)=some (vI6 x)
 c1:V.cell? (vAt b 1)=some (vI6 y)
theorem Pt2.new (V:World) (x y:Int) (t:TypeId):Pt2 (V.alloc (.cells #[vI6 x,vI6 y] t)) V.heap.size x y:=⟨newc _ _ _ 0 _ rfl,newc _ _ _ 1 _ rfl⟩
theorem Pt2.kept {V V':World} {b:Nat} {x y:Int} (h:Pt2 V b x y) (hb:V'.heap[b]? =V.heap[b]?):Pt2 V' b x y:=⟨(World.cell?_of_block hb).trans h.c0,(World.cell?_of_block hb).trans h.c1⟩
theorem Pt2.set {V:World} {b:Nat} (h:Zb V b) (x y:Int):Pt2 ((V.setCell (vA0 b) (vI6 x)).setCell (vAt b 1) (vI6 y)) b x y:=
 ⟨(cfar _ (by decide)).trans (Gt.set_same _ _ _ _ h.c0),Gt.set_same _ _ _ _ ((cfar V (by decide)).trans h.c1)⟩
structure Bx2 (W V:World) (ib nb:Nat) (op ar ia il:Int):Prop where
 bel:vBw W V
 i:W.heap.size≤ib∧ib<V.heap.size
 n:W.heap.size≤nb∧nb<V.heap.size
 ne:ib≠nb
 pi:Pt2 V ib op ar
 pn:Pt2 V nb ia il
section
variable {W w2:World} {op ar ia il:Int} {t t':TypeId}
theorem bx_aa (h:vBw W w2):Bx2 W ((w2.alloc (.cells #[vI6 op,vI6 ar] t)).alloc (.cells #[vI6 ia,vI6 il] t')) w2.heap.size (w2.heap.size+1) op ar ia il:=by
 have hs:=h.size
 have s1:(w2.alloc (.cells #[vI6 op,vI6 ar] t)).heap.size=w2.heap.size+1:=by simp
 have s2:((w2.alloc (.cells #[vI6 op,vI6 ar] t)).alloc (.cells #[vI6 ia,vI6 il] t')).heap.size=w2.heap.size+2:=by simp
 refine⟨balloc (balloc h _) _,⟨hs,by omega⟩,⟨by omega,by omega⟩,by omega,(Pt2.new w2 op ar t).kept (Below.heap_alloc _ _ _ (by omega)),?_⟩
 have:=Pt2.new (w2.alloc (.cells #[vI6 op,vI6 ar] t)) ia il t'
 rw[s1] at this
 exact this
theorem bx_aa' (h:vBw W w2):Bx2 W ((w2.alloc (.cells #[vI6 ia,vI6 il] t')).alloc (.cells #[vI6 op,vI6 ar] t)) (w2.heap.size+1) w2.heap.size op ar ia il:=by
 obtain⟨h1,h2,h3,h4,h5,h6⟩:=bx_aa (op:=ia) (ar:=il) (ia:=op) (il:=ar) (t:=t') (t':=t) h
 exact⟨h1,h3,h2,fun e=>h4 e.symm,h6,h5⟩
theorem bx_sa (h:vBw W w2) (z:Zb w2 W.heap.size) (hl:W.heap.size<w2.heap.size):Bx2 W (((w2.setCell (vA0 W.heap.size) (vI6 op)).setCell (vAt W.heap.size 1) (vI6 ar)).alloc (.cells #[vI6 ia,vI6 il] t')) W.heap.size w2.heap.size op ar ia il:=by
 have s1:((w2.setCell (vA0 W.heap.size) (vI6 op)).setCell (vAt W.heap.size 1) (vI6 ar)).heap.size=w2.heap.size:=by simp
 have s2:(((w2.setCell (vA0 W.heap.size) (vI6 op)).setCell (vAt W.heap.size 1) (vI6 ar)).alloc (.cells #[vI6 ia,vI6 il] t')).heap.size=w2.heap.size+1:=by simp
 refine⟨balloc (brset (brset h lzr _ _) lzr _ _) _,⟨lzr,by omega⟩,⟨by omega,by omega⟩,by omega,(Pt2.set z op ar).kept (Below.heap_alloc _ _ _ (by omega)),?_⟩
 have:=Pt2.new ((w2.setCell (vA0 W.heap.size) (vI6 op)).setCell (vAt W.heap.size 1) (vI6 ar)) ia il t'
 rw[s1] at this
 exact this
theorem bx_sa' (h:vBw W w2) (z:Zb w2 W.heap.size) (hl:W.heap.size<w2.heap.size):Bx2 W (((w2.setCell (vA0 W.heap.size) (vI6 ia)).setCell (vAt W.heap.size 1) (vI6 il)).alloc (.cells #[vI6 op,vI6 ar] t)) w2.heap.size W.heap.size op ar ia il:=by
 obtain⟨h1,h2,h3,h4,h5,h6⟩:=bx_sa (op:=ia) (ar:=il) (ia:=op) (il:=ar) (t':=t) h z hl
 exact⟨h1,h3,h2,fun e=>h4 e.symm,h6,h5⟩
theorem bx_ss (h:vBw W w2) {b c:Nat} (hb:W.heap.size≤b∧b<w2.heap.size) (hc:W.heap.size≤c∧c<w2.heap.size) (hn:b≠c) (z:Zb w2 b) (z':Zb w2 c):Bx2 W ((((w2.setCell (vA0 b) (vI6 op)).setCell (vAt b 1) (vI6 ar)).setCell (vA0 c) (vI6 ia)).setCell (vAt c 1) (vI6 il)) b c op ar ia il:=by
 refine⟨brset (brset (brset (brset h hb.1 _ _) hb.1 _ _) hc.1 _ _) hc.1 _ _,⟨hb.1,by simp_all⟩,⟨hc.1,by simp_all⟩,hn,?_,?_⟩
 ·exact(Pt2.set z op ar).kept ((Below.heap_setCell _ _ _ _ hn).trans (Below.heap_setCell _ _ _ _ hn))
 ·exact Pt2.set (z'.kept ((Below.heap_setCell _ _ _ _ (fun e=>hn e.symm)).trans (Below.heap_setCell _ _ _ _ (fun e=>hn e.symm)))) ia il
end
section
variable {w W0 W:World} {lab labk:Nat→Nat} {a:Ad} {P n q T:Nat} {M:Mc} {sb pr:Nat} {l:List Ev} {O0:Nat→Prop}
theorem SX.prog (h:SX w W0 W lab a P n q T M sb pr l O0) {g:Nat} {p:Pm} (hg:M.pr[g]? =some p): ∃pb cp ap cap,W.cell? (vAt a.m 2)=some (.slice (some (vA0 pb)) M.pr.length cp)∧W.cell? (vAt pb g)=some (.slice ap p.len cap)∧Ex.Prg W ap p.len p.O p.R∧Ex.Rt p.len p.O p.R∧g<M.pr.length:=by
 obtain⟨labk,i⟩:=h.i
 obtain⟨v,vs,e2,hps⟩:=i.pg
 obtain⟨ad,cp,rfl⟩:=hps.form
 have hgl:g<M.pr.length:=(List.getElem?_eq_some_iff.1 hg).1
 have hvg:g<vs.length:=by rw[hps.len];exact hgl
 obtain⟨r1,r2⟩:=hps.at_ g p (vs[g]'hvg) hg (List.getElem?_eq_getElem hvg)
 have hmem:p∈M.pr:=List.mem_of_getElem? hg
 have hok:=hps.ok p hmem
 rcases hps.row.2 with ⟨e,e0⟩|⟨pb,cap,cur,e,h0,hg',hrow⟩
 ·omega
 ·injection e with e1 e3 e4
  subst e1 e4
  obtain⟨ap,cap',e5,hprg⟩:=Ex.prg_any r1
  refine⟨pb,_,ap,cap',e2,?_,hprg,hok,hgl⟩
  have hu:vs[g]? =some (vs[g]'hvg):=List.getElem?_eq_getElem hvg
  rw[e5] at hu
  rw[←hrow.2.2.2,List.getElem?_take] at hu
  split at hu
  ·simp only[World.cell?,hg']
   grind
  omega
def exO (p:Pm) (ia:Int):Int:=Ex.stO true p.len p.O ia
def exR (p:Pm) (ia:Int):Int:=Ex.stR true p.len p.R ia
def exN (p:Pm) (ia:Int):Int:=Ex.stN true p.len p.O p.R ia
def exL (p:Pm) (ia il:Int):Int:=Ex.stL true p.len p.O p.R ia il
theorem exec_ok {W:World} {ap:Option Addr} {cap:Nat} {p:Pm} (hp:Ex.Prg W ap p.len p.O p.R) (hr:Ex.Rt p.len p.O p.R) (ia il:Int) (hil: ¬0<il) (V:World) (hb:vBw W V):
  vCa 125 #[.slice ap p.len cap,.agg #[vI6 ia,vI6 il]] V fun e w'=>e=vRt #[.agg #[vI6 (exO p ia),vI6 (exR p ia)],.agg #[vI6 (exN p ia),vI6 (exL p ia il)],.bool false]∧vBw W w'∧vBw V w':=
 (Ex.step_any V ap p.len cap (by have:=Rt_le hr;omega) p.O p.R (hp.below hb) true ⟨fun _=>hr,fun _=>rfl⟩ ia il hil).mono (fun e w' ⟨he,b⟩=>⟨he,bt hb b,b⟩)
theorem exec_busy {W:World} {ap:Option Addr} {len cap:Nat} (ia il:Int) (hil:0<il) (V:World) (hb:vBw W V):
  vCa 125 #[.slice ap len cap,.agg #[vI6 ia,vI6 il]] V fun e w'=>e=vRt #[.agg #[vI6 0,vI6 0],.agg #[vI6 ia,vI6 il],.bool true]∧vBw W w'∧vBw V w':=
 (Ex.step_busy V ap len cap ia il hil).mono (fun e w' ⟨he,b⟩=>⟨he,bt hb b,b⟩)
theorem IsMc.setFrame (h:IsMc W labk a P n q T M) {x:Nat} (hx:x<n) (u v:Int) (hv:v<9223372036854775808):
  Goes W ((W.setCell (vAt a.th (x*10+7)) (vI6 u)).setCell (vAt a.th (x*10+8)) (vI6 v)) labk a P n q T {M with th:=upd M.th x {M.th x with ia:=u,il:=v}}:=by
 have ok:=h.th.ok x hx
 have hfr:Fr (fun k=>labk k=4) W ((W.setCell (vAt a.th (x*10+7)) (vI6 u)).setCell (vAt a.th (x*10+8)) (vI6 v)):=((Fr.refl _ _).setCell (a:=(vAt a.th _)) h.lth _).setCell (a:=(vAt a.th _)) h.lth _
 refine⟨labk,h.toTh (h.same hfr) hfr (h.th.put (((h.th.at_ x hx).set_ia u).set_il v) ⟨ok.g,ok.lv,ok.lf,hv,ok.sn⟩ (fun j hj hne=>((h.th.at_ j hj).far (far10 hne (by decide)) _).far (far10 hne (by decide)) _) (fun o=>by rw[frozen_set,frozen_set];exact h.th.fz o)),h.same hfr,hfr.to (fun k _ hk=> ?_)⟩
 omega
def frM (M:Mc) (x:Nat) (u v:Int):Mc:={M with th:=upd M.th x {M.th x with ia:=u,il:=v}}
def endOf (ok:Bool):Ending:=if ok then vRt #[] else .panicked pOver
theorem SX.goOn_of (h : SX w W0 W lab a P n q T M sb pr l O0) (hl : l.length ≤ 10000) (hp : pr < P) (x : Nat) (hx : x < n) (hr : (M.pc pr).r = (x : Int)) (g : Nat) (p : Pm) (hg : M.pr[g]? = some p) (hpg : (M.th x).pg = (g : Int)) (op ar ia' il' : Int) (hil' : il' < 9223372036854775808) (bz ok : Bool) (T' : Nat) (M' : Mc) (l' : List Ev)
  (hst : ∀ ap cap V, Ex.Prg W ap p.len p.O p.R → Ex.Rt p.len p.O p.R → vBw W V → vCa 125 #[.slice ap p.len cap, .agg #[vI6 (M.th x).ia, vI6 (M.th x).il]] V fun e w' => e = vRt #[.agg #[vI6 op, vI6 ar], .agg #[vI6 ia', vI6 il'], .bool bz] ∧ vBw W w' ∧ vBw V w')
  (hbz : bz = true → ok = false ∧ T' = T ∧ M' = M ∧ l' = l ++ [⟨2, (pr : Int), (M.th x).p, (M.th x).g, 0, 0⟩])
  (hdo : bz = false → ∀ V O, SG w V lab a P n q T (frM M x ia' il') sb pr l O → vCa 126 #[vPt sb, .pointer (some (vAt a.th (x * 10))), .agg #[vI6 op, vI6 ar]] V fun e w' => e = endOf ok ∧ SX w V w' lab a P n q T' M' sb pr l' O) :
  vCa 77 #[vPt sb] W fun e w' => e = endOf ok ∧ SX w W0 w' lab a P n q T' M' sb pr l' O0 := by
 obtain ⟨pb, cp, ap, cap, k2, kg, hprg, hrt, hgl⟩ := h.prog hg
 have hstp := fun V hb => hst ap cap V hprg hrt hb
 have HST := veil hstp
 have hS : ∀ V, vBw W V → V.cell? (vA0 sb) = some (vPt a.m) ∧ V.cell? (vAt sb 2) = some (.pointer (some (vAt a.pr (pr * 3)))) ∧ V.cell? (vAt a.m 4) = some (.slice (some (vA0 a.th)) n a.xt) ∧ V.cell? (vAt a.pr (pr * 3)) = some (vI6 (x : Int)) ∧ V.cell? (vAt a.m 2) = some (.slice (some (vA0 pb)) M.pr.length cp) ∧ V.cell? (vAt a.th (x * 10 + 2)) = some (vI6 (g : Int)) ∧ V.cell? (vAt pb g) = some (.slice ap p.len cap) ∧ V.cell? (vAt a.th (x * 10 + 7)) = some (vI6 (M.th x).ia) ∧ V.cell? (vAt a.th (x * 10 + 8)) = some (vI6 (M.th x).il) := fun V hb => by
  refine ⟨kc hb h.c0, kc hb h.c2, kc hb h.core.c4, ?_, kc hb k2, ?_, kc hb kg, kc hb (h.tr hx).c7, kc hb (h.tr hx).c8⟩
  ·rw [← hr]; exact kc hb (h.pc hp).c0
  ·rw [← hpg]; exact kc hb (h.tr hx).c2
 have HS := veil hS
 have HZ := veil (Below.refl W.heap.size W)
 obtain ⟨s0, s1, s2, s3, s4, s5, s6, s7, s8⟩ := hS _ HZ.out
 have HBZ : Hid (bz = true → ok = false ∧ T' = T ∧ M' = M ∧ l' = l ++ [⟨2, (pr : Int), (M.th x).p, (M.th x).g, 0, 0⟩]) := hbz
 have HEN : Hid (∀ V, vBw W V → vCa 123 #[vPt sb, vI6 2, .agg #[vI6 (M.th x).p, vU3 ((M.th x).g : Int)], vI6 0] V fun e w' => e = .panicked pOver ∧ SX w W0 w' lab a P n q T M sb pr (l ++ [⟨2, (pr : Int), (M.th x).p, (M.th x).g, 0, 0⟩]) O0) := fun V hb => (h.more hb).end_ hl 2 (M.th x).p (M.th x).g 0
 have HTH : Hid (∀ V, vBw W V → V.cell? (vAt a.th (x * 10)) = some (vI6 (M.th x).p) ∧ V.cell? (vAt a.th (x * 10 + 1)) = some (vU3 ((M.th x).g : Int)) ∧ V.cell? (vAt a.th (x * 10 + 7)) = some (vI6 (M.th x).ia) ∧ V.cell? (vAt a.th (x * 10 + 8)) = some (vI6 (M.th x).il) ∧ ∀ o, V.frozen? (vAt a.th o) = false) := fun V hb => ⟨kc hb (h.tr hx).c0, kc hb (h.tr hx).c1, kc hb (h.tr hx).c7, kc hb (h.tr hx).c8, fun o => (h.more hb).tfz o⟩
 have HDO : Hid (bz = false → ∀ V, vBw W V → vCa 126 #[vPt sb, .pointer (some (vAt a.th (x * 10))), .agg #[vI6 op, vI6 ar]] ((V.setCell (vAt a.th (x * 10 + 7)) (vI6 ia')).setCell (vAt a.th (x * 10 + 8)) (vI6 il')) fun e w' => e = endOf ok ∧ SX w W0 w' lab a P n q T' M' sb pr l' O0) := fun hz V hb => ((h.more hb).goes (fun _ i => i.setFrame hx ia' il' hil')).call (R := fun e => e = endOf ok) (fun O s => hdo hz _ O s)
 have hthl : a.th < W.heap.size := World.block_lt_of_cell? W _ (h.tr hx).c0
 have hgl' : (g : Int) < (M.pr.length : Int) := by omega
 generalize (M.th x).ia = ia at *
 generalize (M.th x).il = il at *
 generalize (M.th x).p = tp at *
 generalize (M.th x).g = tg at *
 clear hstp hst hprg hrt h hS k2 kg hr hpg hg hbz hdo
 refine ge ?_
 go_wp2
 go_region_held3 (fun w' => w'.cell? (vA0 sb) = some (vPt a.m) ∧ w'.cell? (vAt sb 2) = some (.pointer (some (vAt a.pr (pr * 3)))) ∧ w'.cell? (vAt a.m 4) = some (.slice (some (vA0 a.th)) n a.xt) ∧ w'.cell? (vAt a.pr (pr * 3)) = some (vI6 (x : Int)))
  (go_keep)
  (first | fail)
 rename_i hHeld
 clear hHeld
 go_upto_region 1 with fail
 go_cut [3, 4, 5] (fun i3 n4 b5 Wc => ∃ ib nb, i3 = vPt ib ∧ n4 = vPt nb ∧ b5 = .bool bz ∧ Bx2 W Wc ib nb op ar ia' il')
 case first =>
  have HS2 : Hid (∀ V, vBw W V → V.cell? (vA0 sb) = some (vPt a.m) ∧ V.cell? (vAt a.m 2) = some (.slice (some (vA0 pb)) M.pr.length cp) ∧ V.cell? (vAt a.th (x * 10 + 2)) = some (vI6 (g : Int)) ∧ V.cell? (vAt pb g) = some (.slice ap p.len cap) ∧ V.cell? (vAt a.th (x * 10 + 7)) = some (vI6 ia) ∧ V.cell? (vAt a.th (x * 10 + 8)) = some (vI6 il)) := fun V hb => by
   obtain ⟨t0, t1, t2, t3, t4, t5, t6, t7, t8⟩ := HS.out _ hb
   grind
  refine wp_region_held_drew (S := fun w' => w'.cell? (vA0 sb) = some (vPt a.m) ∧ w'.cell? (vAt a.m 2) = some (.slice (some (vA0 pb)) M.pr.length cp) ∧ w'.cell? (vAt a.th (x * 10 + 2)) = some (vI6 (g : Int)) ∧ w'.cell? (vAt pb g) = some (.slice ap p.len cap) ∧ w'.cell? (vAt a.th (x * 10 + 7)) = some (vI6 ia) ∧ w'.cell? (vAt a.th (x * 10 + 8)) = some (vI6 il)) (by rfl) ?_ (fun hHeld => ?_)
  ·exact HS2.out _ (bdrew (bdrew HZ.out))
  refine st ?_
  repeat' first
   | refine dn ?_
   | refine tk ?_
   | refine rd ?_
   | exact opZ
   | refine opN ?_
   | refine opS ?_ ?_
   | (refine opY 17 (fun K hK => ?_)
      go_simp
      go_at_call 125
      refine (HST.out _ (by repeat first | exact below_post HZ.out rfl rfl rfl rfl | apply balloc | apply bdrew)).mono ?_
      rintro e w2 ⟨rfl, hb, hv⟩
      obtain ⟨z1, hlt⟩ := Zb.at1 (W := W) (t := 83) hv rfl
      have HZ1 := veil z1
      have z1a := fun o => z1.kept (V' := w2.alloc o) (Below.heap_alloc _ _ _ hlt)
      obtain ⟨q0, q1, f0, f1⟩ := z1
      have r0 := fun o => (z1a o).c0
      have r1 := fun o => (z1a o).c1
      have g0 := fun o => (z1a o).f0
      have g1 := fun o => (z1a o).f1
      have n1 : ¬ W.heap.size = w2.heap.size := by omega
      have n2 : ¬ w2.heap.size = W.heap.size := by omega
      clear z1a
      have HB2 := veil hb
      clear hb hv
      refine hK.out _ _ ?_ (fun hHeld => ?_)
      ·exact HS2.out _ (by repeat first | exact HB2.out | exact below_post HZ.out rfl rfl rfl rfl | apply balloc | apply brset | exact lzr | omega | apply bdrew)
      clear hK K
      try simp only [puX])
   | (refine opY 17 (fun K hK => ?_)
      go_simp
      go_at_call 125
      refine (HST.out _ (by repeat first | exact below_post HZ.out rfl rfl rfl rfl | apply balloc | apply bdrew)).mono ?_
      rintro e w2 ⟨rfl, hb, hv⟩
      obtain ⟨z1, z2, hlt⟩ := Zb.at2 (W := W) (t := 83) (t' := 128) hv rfl
      have HZ1 := veil z1
      have HZ2 := veil z2
      obtain ⟨q0, q1, f0, f1⟩ := z1
      obtain ⟨q2, q3, f2, f3⟩ := z2
      have HB2 := veil hb
      clear hb hv
      refine hK.out _ _ ?_ (fun hHeld => ?_)
      ·exact HS2.out _ (by repeat first | exact HB2.out | exact below_post HZ.out rfl rfl rfl rfl | apply balloc | apply brset | exact lzr | omega | apply bdrew)
      clear hK K
      try simp only [puX])
   | (refine opY 17 (fun K hK => ?_)
      go_simp
      go_at_call 125
      refine (HST.out _ (by repeat first | exact below_post HZ.out rfl rfl rfl rfl | apply balloc | apply bdrew)).mono ?_
      rintro e w2 ⟨rfl, hb, hv⟩
      obtain ⟨z1, hlt⟩ := Zb.at1 (W := W) (t := 128) hv rfl
      have HZ1 := veil z1
      have z1a := fun o => z1.kept (V' := w2.alloc o) (Below.heap_alloc _ _ _ hlt)
      obtain ⟨q0, q1, f0, f1⟩ := z1
      have r0 := fun o => (z1a o).c0
      have r1 := fun o => (z1a o).c1
      have g0 := fun o => (z1a o).f0
      have g1 := fun o => (z1a o).f1
      have n1 : ¬ W.heap.size = w2.heap.size := by omega
      have n2 : ¬ w2.heap.size = W.heap.size := by omega
      clear z1a
      have HB2 := veil hb
      clear hb hv
      refine hK.out _ _ ?_ (fun hHeld => ?_)
      ·exact HS2.out _ (by repeat first | exact HB2.out | exact below_post HZ.out rfl rfl rfl rfl | apply balloc | apply brset | exact lzr | omega | apply bdrew)
      clear hK K
      try simp only [puX])
   | (refine opY 17 (fun K hK => ?_)
      go_simp
      go_at_call 125
      refine (HST.out _ (by repeat first | exact below_post HZ.out rfl rfl rfl rfl | apply balloc | apply bdrew)).mono ?_
      rintro e w2 ⟨rfl, hb, hv⟩
      obtain ⟨z1, z2, hlt⟩ := Zb.at2 (W := W) (t := 128) (t' := 83) hv rfl
      have HZ1 := veil z1
      have HZ2 := veil z2
      obtain ⟨q0, q1, f0, f1⟩ := z1
      obtain ⟨q2, q3, f2, f3⟩ := z2
      have HB2 := veil hb
      clear hb hv
      refine hK.out _ _ ?_ (fun hHeld => ?_)
      ·exact HS2.out _ (by repeat first | exact HB2.out | exact below_post HZ.out rfl rfl rfl rfl | apply balloc | apply brset | exact lzr | omega | apply bdrew)
      clear hK K
      try simp only [puX])
   | (refine opY 17 (fun K hK => ?_)
      go_simp
      go_at_call 125
      refine (HST.out _ (by repeat first | exact below_post HZ.out rfl rfl rfl rfl | apply balloc | apply bdrew)).mono ?_
      rintro e w2 ⟨rfl, hb, hv⟩
      have hlt := hb.size
      have HB2 := veil hb
      clear hb hv
      refine hK.out _ _ ?_ (fun hHeld => ?_)
      ·exact HS2.out _ (by repeat first | exact HB2.out | exact below_post HZ.out rfl rfl rfl rfl | apply balloc | apply brset | exact lzr | omega | apply bdrew)
      clear hK K
      try simp only [puX])
   | (refine opY _ (fun K hK => ?_)
      go_simp
      refine hK.out _ _ ?_ (fun hHeld => ?_)
      ·exact HS2.out _ (by repeat first | exact HB2.out | exact below_post HZ.out rfl rfl rfl rfl | apply balloc | apply brset | exact lzr | omega | apply bdrew)
      clear hK K
      try simp only [puX])
  all_goals
   refine ⟨?_⟩
   go_wp2
   go_meet
   case rel =>
    refine ⟨_, _, rfl, rfl, rfl, ?_⟩
    first
    | exact bx_aa HB2.out
    | exact bx_aa' HB2.out
    | exact bx_sa HB2.out HZ1.out hlt
    | exact bx_sa' HB2.out HZ1.out hlt
    | exact bx_ss HB2.out ⟨by omega, by omega⟩ ⟨by omega, by omega⟩ (by omega) HZ1.out HZ2.out
    | exact bx_ss HB2.out ⟨by omega, by omega⟩ ⟨by omega, by omega⟩ (by omega) HZ2.out HZ1.out
 case rest =>
  obtain ⟨ib, nb, rfl, rfl, rfl, hbx⟩ := hcut
  have hbel := hbx.bel
  have HBL := veil hbel
  obtain ⟨v0, v1, v7, v8, vf⟩ := HTH.out _ hbel
  have i0 := hbx.pi.c0
  have i1 := hbx.pi.c1
  have m0 := hbx.pn.c0
  have m1 := hbx.pn.c1
  have hib := hbx.i
  have hnb := hbx.n
  have e1 : ¬ a.th = ib := by omega
  have e2 : ¬ ib = a.th := by omega
  clear hbel hbx HS HST HTH
  cases bz with
  | true =>
   obtain ⟨rfl, rfl, rfl, rfl⟩ := HBZ.out rfl
   go_wp2_with (go_at_call 123; refine cH (HEN.out _ (by exact HBL.out)) fun w3 HG3 => ?_)
   simp [bodyPost]
   exact ⟨rfl, HG3.out⟩
  | false =>
   have hd := HDO.out rfl _ HBL.out
   have HD := veil hd
   clear hd HBZ HEN HDO
   cases ok with
   | true =>
    go_wp2_with (go_at_call 126; refine (HD.out).mono ?_; rintro e w3 ⟨he, hg3⟩; obtain rfl : e = vRt #[] := he; have HG3 := veil hg3; clear hg3)
    go_end0
    exact ⟨rfl, HG3.out⟩
   | false =>
    go_wp2_with (go_at_call 126; refine (HD.out).mono ?_; rintro e w3 ⟨he, hg3⟩; obtain rfl : e = .panicked pOver := he; have HG3 := veil hg3; clear hg3)
    simp [bodyPost]
    exact ⟨rfl, HG3.out⟩
end
section
variable {w W:World} {lab labk:Nat→Nat} {a:Ad} {P n q T T':Nat} {M M':Mc} {sb pr:Nat} {l l':List Ev} {O:Nat→Prop}
theorem SG.do_other (h:SG w W lab a P n q T M sb pr l O) (hl:l.length≤9000) (x:Nat) (hx:x<n) (op ar:Int) (h2:op≠2) (h3:op≠3) (h4:op≠4) (h5:op≠5) (h6:op≠6) (h7:op≠7) (h9:op≠9):
  vCa 126 #[vPt sb,.pointer (some (vAt a.th (x*10))),.agg #[vI6 op,vI6 ar]] W fun e w'=>e=vRt #[]∧SX w W w' lab a P n q T M sb pr (l++[⟨5,(pr:Int),(M.th x).p,(M.th x).g,op,0⟩]) O:=by
 have hb0:vBw W (W.alloc (.cells #[vI6 op,vI6 ar] 83)):=bzA
 have hs0:=h.below hb0
 have h0:=hs0.sx
 have hno: ¬O W.heap.size:=fun q=>by have:=h.lt q;omega
 have HB0:=veil hb0
 have k0:=newc W #[vI6 op,vI6 ar] 83 0 _ rfl
 have k1:=newc W #[vI6 op,vI6 ar] 83 1 _ rfl
 have HKB:Hid (∀V T' M' l',SX w (W.alloc (.cells #[vI6 op,vI6 ar] 83)) V lab a P n q T' M' sb pr l' O→V.cell? (vA0 W.heap.size)=some (vI6 op)∧V.cell? (vAt W.heap.size 1)=some (vI6 ar)):=fun V T' M' l' hg=>⟨hg.keep hno k0,hg.keep hno k1⟩
 have HR:=veil (h0.ran_ok (by omega) x hx op ar)
 have b2:(op==2)=false:=by grind
 have b3:(op==3)=false:=by grind
 have b4:(op==4)=false:=by grind
 have b5:(op==5)=false:=by grind
 have b6:(op==6)=false:=by grind
 have b7:(op==7)=false:=by grind
 have b9:(op==9)=false:=by grind
 clear h hs0 h0 hb0 hno
 refine ge ?_
 go_wp2_with (go_at_call 166;refine cH HR.out fun w1 HG=> ?_)
 go_end0
 grind[RowKit.Hid.out,SX.ahead]
theorem IsMc.setLevel (h:IsMc W labk a P n q T M) {x:Nat} (hx:x<n) (v:Nat) (hv:v<256):
  Goes W ((W.setCell (vAt a.th (x*10+3)) (vU8 (v:Int))).setCell (vAt a.th (x*10+4)) (vU8 0)) labk a P n q T {M with th:=upd M.th x {M.th x with lv:=v,lf:=0}}:=by
 have ok:=h.th.ok x hx
 have hfr:Fr (fun k=>labk k=4) W ((W.setCell (vAt a.th (x*10+3)) (vU8 (v:Int))).setCell (vAt a.th (x*10+4)) (vU8 0)):=((Fr.refl _ _).setCell (a:=(vAt a.th _)) h.lth _).setCell (a:=(vAt a.th _)) h.lth _
 refine⟨labk,h.toTh (h.same hfr) hfr (h.th.put (((h.th.at_ x hx).set_lv v).set_lf 0) ⟨ok.g,hv,by simp,ok.il,ok.sn⟩ (fun j hj hne=>((h.th.at_ j hj).far (by omega) _).far (by omega) _) (fun o=>by rw[frozen_set,frozen_set];exact h.th.fz o)),h.same hfr,hfr.to (fun k _ hk=> ?_)⟩
 omega
def prioM (M:Mc) (x v:Nat):Mc:={M with th:=upd M.th x {M.th x with lv:=v,lf:=0}}
theorem SG.do_prio (h:SG w W lab a P n q T M sb pr l O) (hl:l.length≤9000) (x:Nat) (hx:x<n) (ar:Int) (v:Nat) (hv:v<256) (hw:IntKind.u8.wrap ar=(v:Int)):
  vCa 126 #[vPt sb,.pointer (some (vAt a.th (x*10))),.agg #[vI6 7,vI6 ar]] W fun e w'=>e=vRt #[]∧SX w W w' lab a P n q T (prioM M x v) sb pr (l++[⟨5,(pr:Int),(M.th x).p,(M.th x).g,7,0⟩]) O:=by
 have hb0:vBw W (W.alloc (.cells #[vI6 7,vI6 ar] 83)):=bzA
 have hs0:=h.below hb0
 have h0:=hs0.sx
 have hno: ¬O W.heap.size:=fun q=>by have:=h.lt q;omega
 have HB0:=veil hb0
 have k0:=newc W #[vI6 7,vI6 ar] 83 0 _ rfl
 have k1:=newc W #[vI6 7,vI6 ar] 83 1 _ rfl
 have HKB:Hid (∀V T' M' l',SX w (W.alloc (.cells #[vI6 7,vI6 ar] 83)) V lab a P n q T' M' sb pr l' O→V.cell? (vA0 W.heap.size)=some (vI6 7)∧V.cell? (vAt W.heap.size 1)=some (vI6 ar)):=fun V T' M' l' hg=>⟨hg.keep hno k0,hg.keep hno k1⟩
 have h1:SX w (W.alloc (.cells #[vI6 7,vI6 ar] 83)) (((W.alloc (.cells #[vI6 7,vI6 ar] 83)).setCell (vAt a.th (x*10+3)) (vU8 (v:Int))).setCell (vAt a.th (x*10+4)) (vU8 0)) lab a P n q T (prioM M x v) sb pr l O:=h0.goes (fun _ i=>i.setLevel hx v hv)
 have hr:=h1.ran_ok (by omega) x hx 7 ar
 have et:((prioM M x v).th x).p=(M.th x).p∧((prioM M x v).th x).g=(M.th x).g:=by unfold prioM;grind[upd]
 rw[et.1,et.2] at hr
 have HR:=veil hr
 have t3:=(h0.tr hx).c3
 have t4:=(h0.tr hx).c4
 have tf:=h0.tfz
 have e1: ¬a.th=W.heap.size:=fun e=>by simp_all
 have e2: ¬W.heap.size=a.th:=fun e=>e1 e.symm
 clear h hs0 h0 hb0 hno h1 hr et
 refine ge ?_
 go_wp2_with (go_at_call 166;refine cH HR.out fun w1 HG=> ?_)
 go_end0
 grind[RowKit.Hid.out,SX.ahead]
theorem SG.do_lock (h:SG w W lab a P n q T M sb pr l O) (x:Nat) (ar:Int) (ok:Bool)
  (hk: ∀V,SG w V lab a P n q T M sb pr l O→vCa 164 #[vPt sb,.pointer (some (vAt a.th (x*10))),.agg #[vI6 2,vI6 ar]] V fun e w'=>e=endOf ok∧SX w V w' lab a P n q T' M' sb pr l' O):
  vCa 126 #[vPt sb,.pointer (some (vAt a.th (x*10))),.agg #[vI6 2,vI6 ar]] W fun e w'=>e=endOf ok∧SX w W w' lab a P n q T' M' sb pr l' O:=by
 have hb0:vBw W (W.alloc (.cells #[vI6 2,vI6 ar] 83)):=bzA
 have hs0:=h.below hb0
 have h0:=hs0.sx
 have hno: ¬O W.heap.size:=fun q=>by have:=h.lt q;omega
 have HB0:=veil hb0
 have k0:=newc W #[vI6 2,vI6 ar] 83 0 _ rfl
 have k1:=newc W #[vI6 2,vI6 ar] 83 1 _ rfl
 have HKB:Hid (∀V T' M' l',SX w (W.alloc (.cells #[vI6 2,vI6 ar] 83)) V lab a P n q T' M' sb pr l' O→V.cell? (vA0 W.heap.size)=some (vI6 2)∧V.cell? (vAt W.heap.size 1)=some (vI6 ar)):=fun V T' M' l' hg=>⟨hg.keep hno k0,hg.keep hno k1⟩
 have HR:=veil (hk _ hs0)
 clear h hs0 h0 hb0 hno hk
 cases ok with
 |true=>
  refine ge ?_
  go_wp2_with (go_at_call 164;refine(HR.out).mono ?_;rintro e w1 ⟨he,hg⟩;obtain rfl:e=vRt #[]:=he;have HG:=veil hg;clear hg)
  go_end0
  exact⟨rfl,HG.out.ahead HB0.out⟩
 |false=>
  refine ge ?_
  go_wp2_with (go_at_call 164;refine(HR.out).mono ?_;rintro e w1 ⟨he,hg⟩;obtain rfl:e= .panicked pOver:=he;have HG:=veil hg;clear hg)
  simp[bodyPost]
  first|exact⟨rfl,HG.out.ahead HB0.out⟩|exact HG.out.ahead HB0.out
theorem SG.do_yield (h:SG w W lab a P n q T M sb pr l O) (hl:l.length≤9000) (x:Nat) (hx:x<n) (hp:pr<P) (hT:T+n≤1000000000) (hr:(M.pc pr).r=(x:Int)) (ar:Int):
  vCa 126 #[vPt sb,.pointer (some (vAt a.th (x*10))),.agg #[vI6 6,vI6 ar]] W fun e w'=>e=vRt #[]∧SX w W w' lab a P n q (T+n+1) (backM P n q M pr x) sb pr (l++[⟨5,(pr:Int),(M.th x).p,(M.th x).g,6,0⟩]) O:=by
 have hb0:vBw W (W.alloc (.cells #[vI6 6,vI6 ar] 83)):=bzA
 have hs0:=h.below hb0
 have h0:=hs0.sx
 have hno: ¬O W.heap.size:=fun q=>by have:=h.lt q;omega
 have HB0:=veil hb0
 have k0:=newc W #[vI6 6,vI6 ar] 83 0 _ rfl
 have k1:=newc W #[vI6 6,vI6 ar] 83 1 _ rfl
 have HKB:Hid (∀V T' M' l',SX w (W.alloc (.cells #[vI6 6,vI6 ar] 83)) V lab a P n q T' M' sb pr l' O→V.cell? (vA0 W.heap.size)=some (vI6 6)∧V.cell? (vAt W.heap.size 1)=some (vI6 ar)):=fun V T' M' l' hg=>⟨hg.keep hno k0,hg.keep hno k1⟩
 have HR:=veil (h0.ran_ok (by omega) x hx 6 ar)
 have HP:=veil fun V (hV:SX w (W.alloc (.cells #[vI6 6,vI6 ar] 83)) V lab a P n q T M sb pr (l++[⟨5,(pr:Int),(M.th x).p,(M.th x).g,6,0⟩]) O)=>hV.putBack hT hp x hx hr
 clear h hs0 h0 hb0 hno hr
 refine ge ?_
 go_wp2_with (first
  |(go_at_call 166;refine cH HR.out fun w1 HG=> ?_)
  |(go_at_call 121;refine cH (HP.out _ (by exact HG.out)) fun w2 HG2=> ?_))
 go_end0
 exact⟨rfl,HG2.out.ahead HB0.out⟩
theorem SG.do_exit (h:SG w W lab a P n q T M sb pr l O) (hl:l.length≤9000) (x:Nat) (hx:x<n) (ar:Int)
  (hk: ∀W0 V,SX w W0 V lab a P n q T M sb pr (l++[⟨5,(pr:Int),(M.th x).p,(M.th x).g,9,0⟩]) O→vCa 171 #[vPt sb,.agg #[vI6 (M.th x).p,vU3 ((M.th x).g:Int)]] V fun e w'=>e=vRt #[]∧SX w W0 w' lab a P n q T' M' sb pr l' O):
  vCa 126 #[vPt sb,.pointer (some (vAt a.th (x*10))),.agg #[vI6 9,vI6 ar]] W fun e w'=>e=vRt #[]∧SX w W w' lab a P n q T' M' sb pr l' O:=by
 have hb0:vBw W (W.alloc (.cells #[vI6 9,vI6 ar] 83)):=bzA
 have hs0:=h.below hb0
 have h0:=hs0.sx
 have hno: ¬O W.heap.size:=fun q=>by have:=h.lt q;omega
 have HB0:=veil hb0
 have k0:=newc W #[vI6 9,vI6 ar] 83 0 _ rfl
 have k1:=newc W #[vI6 9,vI6 ar] 83 1 _ rfl
 have HKB:Hid (∀V T' M' l',SX w (W.alloc (.cells #[vI6 9,vI6 ar] 83)) V lab a P n q T' M' sb pr l' O→V.cell? (vA0 W.heap.size)=some (vI6 9)∧V.cell? (vAt W.heap.size 1)=some (vI6 ar)):=fun V T' M' l' hg=>⟨hg.keep hno k0,hg.keep hno k1⟩
 have HR:Hid (vCa 166 #[vPt sb,.pointer (some (vAt a.th (x*10))),.agg #[vI6 9,vI6 ar],vI6 0] (W.alloc (.cells #[vI6 9,vI6 ar] 83)) fun e w'=>e=vRt #[]∧SX w (W.alloc (.cells #[vI6 9,vI6 ar] 83)) w' lab a P n q T M sb pr (l++[⟨5,(pr:Int),(M.th x).p,(M.th x).g,9,0⟩]) O∧w'.cell? (vAt a.th (x*10))=some (vI6 (M.th x).p)∧w'.cell? (vAt a.th (x*10+1))=some (vU3 ((M.th x).g:Int))):=(h0.ran_ok (by omega) x hx 9 ar).mono (fun e w' ⟨he,hg⟩=>⟨he,hg,(hg.tr hx).c0,(hg.tr hx).c1⟩)
 have HP:=veil (fun V hV=>hk (W.alloc (.cells #[vI6 9,vI6 ar] 83)) V hV)
 clear h hs0 h0 hb0 hno hk
 generalize (M.th x).p=tp at*
 generalize (M.th x).g=tg at*
 refine ge ?_
 go_wp2_with (first
  |(go_at_call 166;refine(HR.out).mono ?_;rintro e w1 ⟨rfl,hg,t0,t1⟩;have HG:=veil hg;clear hg)
  |(go_at_call 171;refine cH (HP.out _ (by exact HG.out)) fun w2 HG2=> ?_))
 go_end0
 grind[RowKit.Hid.out,SX.ahead]
noncomputable def unlM (M:Mc) (x:Nat) (ar:Int):Mc:={M with gr:=(Pi.unlR M.gr (M.th x).p ar).2}
theorem SG.do_unlock_no (h:SG w W lab a P n q T M sb pr l O) (hl:l.length≤9000) (x:Nat) (hx:x<n) (ar un ue:Int) (he1:(Pi.unlR M.gr (M.th x).p ar).1.1=un) (he2:(Pi.unlR M.gr (M.th x).p ar).1.2=ue) (hne:ue≠0):
  vCa 126 #[vPt sb,.pointer (some (vAt a.th (x*10))),.agg #[vI6 3,vI6 ar]] W fun e w'=>e= .panicked pOver∧SX w W w' lab a P n q T (unlM M x ar) sb pr (l++[⟨6,(pr:Int),(M.th x).p,(M.th x).g,3,ue⟩]) O:=by
 have hb0:vBw W (W.alloc (.cells #[vI6 3,vI6 ar] 83)):=bzA
 have hs0:=h.below hb0
 have h0:=hs0.sx
 have hno: ¬O W.heap.size:=fun q=>by have:=h.lt q;omega
 have HB0:=veil hb0
 have k0:=newc W #[vI6 3,vI6 ar] 83 0 _ rfl
 have k1:=newc W #[vI6 3,vI6 ar] 83 1 _ rfl
 have HKB:Hid (∀V T' M' l',SX w (W.alloc (.cells #[vI6 3,vI6 ar] 83)) V lab a P n q T' M' sb pr l' O→V.cell? (vA0 W.heap.size)=some (vI6 3)∧V.cell? (vAt W.heap.size 1)=some (vI6 ar)):=fun V T' M' l' hg=>⟨hg.keep hno k0,hg.keep hno k1⟩
 have HU:=veil fun V (hV:SX w (W.alloc (.cells #[vI6 3,vI6 ar] 83)) V lab a P n q T M sb pr l O)=>by
  have:=hV.lift (R:=fun e=>e=vRt #[vI6 (Pi.unlR M.gr (M.th x).p ar).1.1,vI6 (Pi.unlR M.gr (M.th x).p ar).1.2]) (fun _ i=>i.unlock (M.th x).p ar)
  rw[he1,he2] at this
  exact this
 have HC:Hid (∀V T' M' l',M'.th x=M.th x→SX w (W.alloc (.cells #[vI6 3,vI6 ar] 83)) V lab a P n q T' M' sb pr l' O→V.cell? (vA0 sb)=some (vPt a.m)∧V.cell? (vAt a.m 7)=some (vPt a.gb)∧V.cell? (vAt a.th (x*10))=some (vI6 (M.th x).p)∧V.cell? (vAt W.heap.size 1)=some (vI6 ar)):=fun V T' M' l' e hV=>⟨hV.c0,hV.core.c7,by rw[←e];exact(hV.tr hx).c0,(HKB.out V _ _ _ hV).2⟩
 obtain⟨g0,g7,gp,_⟩:=HC.out _ _ _ _ rfl h0
 have H0:=veil h0
 have HR:=veil fun V (hV:SX w (W.alloc (.cells #[vI6 3,vI6 ar] 83)) V lab a P n q T {M with gr:=(Pi.unlR M.gr (M.th x).p ar).2} sb pr l O)=>hV.ran_no (by omega) x hx 3 ar ue hne
 unfold unlM
 have HC2:=veil (fun V l' hV=>HC.out V T {M with gr:=(Pi.unlR M.gr (M.th x).p ar).2} l' rfl hV)
 clear h hs0 h0 hb0 hno he1 he2 HC
 generalize (M.th x).p=tp at*
 generalize (M.th x).g=tg at*
 refine ge ?_
 go_wp2
 go_region_held3 (fun w'=>w'.cell? (vA0 sb)=some (vPt a.m)∧w'.cell? (vAt a.m 7)=some (vPt a.gb)∧w'.cell? (vAt a.th (x*10))=some (vI6 tp)∧w'.cell? (vAt W.heap.size 1)=some (vI6 ar))
  (first|exact HC2.out _ _ HG.out|go_keep)
  (first
   |(go_at_call 165;refine(HU.out _ (by exact SX.like H0.out rfl rfl rfl rfl)).mono ?_;rintro e w1 ⟨rfl,hg⟩;have HG:=veil hg;have kb:=HKB.out _ _ _ _ hg;have kb0:=kb.1;have kb1:=kb.2;clear hg kb))
 go_wp2_with (go_at_call 166;refine cH (HR.out _ (by exact SX.like HG.out rfl rfl rfl rfl)) fun w2 HG2=> ?_)
 simp[bodyPost]
 first|exact⟨rfl,HG2.out.ahead HB0.out⟩|exact HG2.out.ahead HB0.out
theorem SG.do_unlock (h:SG w W lab a P n q T M sb pr l O) (hl:l.length≤9000) (x:Nat) (hx:x<n) (ar un:Int) (he1:(Pi.unlR M.gr (M.th x).p ar).1.1=un) (he2:(Pi.unlR M.gr (M.th x).p ar).1.2=0)
  (hk: ∀W0 V,SX w W0 V lab a P n q T (unlM M x ar) sb pr (l++[⟨5,(pr:Int),(M.th x).p,(M.th x).g,3,0⟩]) O→vCa 167 #[vPt sb,vI6 un,vI6 ar] V fun e w'=>e=vRt #[]∧SX w W0 w' lab a P n q T' M' sb pr l' O):
  vCa 126 #[vPt sb,.pointer (some (vAt a.th (x*10))),.agg #[vI6 3,vI6 ar]] W fun e w'=>e=vRt #[]∧SX w W w' lab a P n q T' M' sb pr l' O:=by
 have hb0:vBw W (W.alloc (.cells #[vI6 3,vI6 ar] 83)):=bzA
 have hs0:=h.below hb0
 have h0:=hs0.sx
 have hno: ¬O W.heap.size:=fun q=>by have:=h.lt q;omega
 have HB0:=veil hb0
 have k0:=newc W #[vI6 3,vI6 ar] 83 0 _ rfl
 have k1:=newc W #[vI6 3,vI6 ar] 83 1 _ rfl
 have HKB:Hid (∀V T' M' l',SX w (W.alloc (.cells #[vI6 3,vI6 ar] 83)) V lab a P n q T' M' sb pr l' O→V.cell? (vA0 W.heap.size)=some (vI6 3)∧V.cell? (vAt W.heap.size 1)=some (vI6 ar)):=fun V T' M' l' hg=>⟨hg.keep hno k0,hg.keep hno k1⟩
 have HU:=veil fun V (hV:SX w (W.alloc (.cells #[vI6 3,vI6 ar] 83)) V lab a P n q T M sb pr l O)=>by
  have:=hV.lift (R:=fun e=>e=vRt #[vI6 (Pi.unlR M.gr (M.th x).p ar).1.1,vI6 (Pi.unlR M.gr (M.th x).p ar).1.2]) (fun _ i=>i.unlock (M.th x).p ar)
  rw[he1,he2] at this
  exact this
 have HC:Hid (∀V T' M' l',M'.th x=M.th x→SX w (W.alloc (.cells #[vI6 3,vI6 ar] 83)) V lab a P n q T' M' sb pr l' O→V.cell? (vA0 sb)=some (vPt a.m)∧V.cell? (vAt a.m 7)=some (vPt a.gb)∧V.cell? (vAt a.th (x*10))=some (vI6 (M.th x).p)∧V.cell? (vAt W.heap.size 1)=some (vI6 ar)):=fun V T' M' l' e hV=>⟨hV.c0,hV.core.c7,by rw[←e];exact(hV.tr hx).c0,(HKB.out V _ _ _ hV).2⟩
 obtain⟨g0,g7,gp,_⟩:=HC.out _ _ _ _ rfl h0
 have H0:=veil h0
 have HR:=veil fun V (hV:SX w (W.alloc (.cells #[vI6 3,vI6 ar] 83)) V lab a P n q T {M with gr:=(Pi.unlR M.gr (M.th x).p ar).2} sb pr l O)=>hV.ran_ok (by omega) x hx 3 ar
 have HK:Hid (∀V,SX w (W.alloc (.cells #[vI6 3,vI6 ar] 83)) V lab a P n q T {M with gr:=(Pi.unlR M.gr (M.th x).p ar).2} sb pr (l++[⟨5,(pr:Int),(M.th x).p,(M.th x).g,3,0⟩]) O→vCa 167 #[vPt sb,vI6 un,vI6 ar] V fun e w'=>e=vRt #[]∧SX w (W.alloc (.cells #[vI6 3,vI6 ar] 83)) w' lab a P n q T' M' sb pr l' O):=fun V hV=>hk (W.alloc (.cells #[vI6 3,vI6 ar] 83)) V hV
 clear hk
 have HC2:=veil (fun V l' hV=>HC.out V T {M with gr:=(Pi.unlR M.gr (M.th x).p ar).2} l' rfl hV)
 clear h hs0 h0 hb0 hno he1 he2 HC
 generalize (M.th x).p=tp at*
 generalize (M.th x).g=tg at*
 refine ge ?_
 go_wp2
 go_region_held3 (fun w'=>w'.cell? (vA0 sb)=some (vPt a.m)∧w'.cell? (vAt a.m 7)=some (vPt a.gb)∧w'.cell? (vAt a.th (x*10))=some (vI6 tp)∧w'.cell? (vAt W.heap.size 1)=some (vI6 ar))
  (first|exact HC2.out _ _ HG.out|go_keep)
  (first
   |(go_at_call 165;refine(HU.out _ (by exact SX.like H0.out rfl rfl rfl rfl)).mono ?_;rintro e w1 ⟨rfl,hg⟩;have HG:=veil hg;have kb:=HKB.out _ _ _ _ hg;have kb0:=kb.1;have kb1:=kb.2;clear hg kb))
 go_wp2_with (first
  |(go_at_call 166;refine(HR.out _ (by exact SX.like HG.out rfl rfl rfl rfl)).mono ?_;rintro e w2 ⟨rfl,hg⟩;have HG2:=veil hg;have kc1:=(HKB.out _ _ _ _ hg).2;clear hg)
  |(go_at_call 167;refine cH (HK.out _ (by exact HG2.out)) fun w3 HG3=> ?_))
 go_end0
 exact⟨rfl,HG3.out.ahead HB0.out⟩
end
section
variable {w W W0:World} {lab labk:Nat→Nat} {a:Ad} {P n q T T':Nat} {M M':Mc} {sb pr:Nat} {l l':List Ev} {O O0:Nat→Prop}
theorem IsMc.tenG (h:IsMc W labk a P n q T M) {x:Nat} (hx:x<n) (t:Tr) (hok:t.ok):Goes W (tenW W a.th (x*10) t) labk a P n q T {M with th:=upd M.th x t}:=by
 have hf:=ten_fr W a.th (x*10) t
 exact⟨labk,h.ten hx t hok,h.same hf,hf.to (fun k _ hk=>by rw[hk,h.lth];decide)⟩
theorem noTr_ok:noTr.ok:=⟨by decide,by decide,by decide,by decide,by decide⟩
def exitM (n:Nat) (M:Mc) (pr x:Nat):Mc:=setR {M with S:=relS n M.G M.S (M.th x).p (M.th x).g,th:=upd M.th x noTr} pr (-1)
theorem buildTh (w:World):(Instr.build 130 #[]).run Tryz.prog w= .ok (.agg #[.int .i64 noTr.p,.int .u32 (noTr.g:Int),.int .i64 noTr.pg,.int .u8 (noTr.lv:Int),.int .u8 (noTr.lf:Int),.int .i64 noTr.sv,.int .i64 noTr.pc,.int .i64 noTr.ia,.int .i64 noTr.il,.int .u64 (noTr.sn:Int)]) w:=run_build w 130 _ _ (by rfl)
theorem SX.sep (h:SX w W0 W lab a P n q T M sb pr l O0): ¬a.th=sb∧ ¬sb=a.th∧ ¬a.m=a.th∧ ¬a.th=a.m:=by
 obtain⟨labk,v,s⟩:=h.sp
 have q1:=s.ls
 have q2:=s.at_.i.lth
 have q3:=s.at_.i.lm
 grind
theorem SG.exit_none (h:SG w W lab a P n q T M sb pr l O) (hl:l.length≤9000) (hp:pr<P) (x:Nat) (hx:x<n) (hpx:(M.th x).p=(x:Int)) (hh:Pi.heldA M.gr.T M.gr.L (x:Int)=[]):
  vCa 171 #[vPt sb,.agg #[vI6 (x:Int),vU3 ((M.th x).g:Int)]] W fun e w'=>e=vRt #[]∧SX w W w' lab a P n q T (exitM n M pr x) sb pr (l++[⟨10,(pr:Int),(x:Int),(M.th x).g,0,0⟩]) O:=by
 obtain⟨g,hg⟩: ∃g,(M.th x).g=g:=⟨_,rfl⟩
 have hprl:=World.block_lt_of_cell? W _ (h.sx.pc hp).c0
 have hthl:=World.block_lt_of_cell? W _ (h.sx.tr hx).c0
 rw[hg]
 have hb0:vBw W (W.alloc (.cells #[vI6 (x:Int),vU3 (g:Int)] 76)):=bzA
 have hs0:=h.below hb0
 have h0:=hs0.sx
 have hno: ¬O W.heap.size:=fun q=>by have:=h.lt q;omega
 have HB0:=veil hb0
 have k0:=newc W #[vI6 (x:Int),vU3 (g:Int)] 76 0 _ rfl
 have k1:=newc W #[vI6 (x:Int),vU3 (g:Int)] 76 1 _ rfl
 generalize hW:W.alloc (.cells #[vI6 (x:Int),vU3 (g:Int)] 76)=B at*
 have HW:=veil hW
 clear hW
 obtain⟨bx,hbx⟩: ∃bx,W.heap.size=bx:=⟨_,rfl⟩
 have HBX:=veil hbx
 rw[hbx] at hno k0 k1
 clear hbx
 have HKB:Hid (∀V T' M' l',SX w B V lab a P n q T' M' sb pr l' O→V.cell? (vA0 bx)=some (vI6 (x:Int))∧V.cell? (vAt bx 1)=some (vU3 (g:Int))∧V.cell? (vA0 sb)=some (vPt a.m)∧V.cell? (vAt sb 2)=some (.pointer (some (vAt a.pr (pr*3))))∧V.cell? (vAt a.m 7)=some (vPt a.gb)∧V.cell? (vAt a.m 5)=some (vPt a.tb)∧V.cell? (vAt a.m 4)=some (.slice (some (vA0 a.th)) n a.xt)):=fun V T' M' l' hg=>⟨hg.keep hno k0,hg.keep hno k1,hg.c0,hg.c2,hg.core.c7,hg.core.c5,hg.core.c4⟩
 have HH:=veil fun V (hV:SX w B V lab a P n q T M sb pr l O)=>hV.liftB (R:=fun e=> ∃ad c,e= .returned (.slice ad 0 c)) (fun _ i=>(i.held (x:Int)).mono (fun e w' ⟨v,he,hil,hb⟩=>by
  rw[hh] at hil
  obtain⟨ad,c,rfl⟩:=Cb.owns_slice hil
  grind))
 have HRL:=veil fun V (hV:SX w B V lab a P n q T M sb pr l O)=>hV.lift (R:=fun e=> ∃c:Int,e= .returned (vI6 c)) (fun _ i=>i.release (x:Int) g)
 have HTN:Hid (∀V,SX w B V lab a P n q T {M with S:=relS n M.G M.S (x:Int) g} sb pr l O→(∃t,TrAt V a.th (x*10) t)∧(∀o,V.frozen? (vAt a.th o)=false)∧SX w B (tenW V a.th (x*10) noTr) lab a P n q T {M with S:=relS n M.G M.S (x:Int) g,th:=upd M.th x noTr} sb pr l O):=fun V hV=>⟨⟨_,hV.tr hx⟩,hV.tfz,hV.goes (fun _ i=>i.tenG hx noTr noTr_ok)⟩
 have HSR:Hid (∀V,SX w B V lab a P n q T {M with S:=relS n M.G M.S (x:Int) g,th:=upd M.th x noTr} sb pr l O→(∃r:Int,V.cell? (vAt a.pr (pr*3))=some (vI6 r))∧V.frozen? (vAt a.pr (pr*3))=false∧SX w B (V.setCell (vAt a.pr (pr*3)) (vI6 (-1))) lab a P n q T (exitM n M pr x) sb pr l O):=fun V hV=>⟨⟨_,(hV.pc hp).c0⟩,hV.pfz _,by
  have:=hV.setRun hp (-1)
  unfold exitM
  rw[hpx,hg]
  exact this⟩
 have HTL:=veil fun V (hV:SX w B V lab a P n q T (exitM n M pr x) sb pr l O)=>hV.tell (by omega) 10 (x:Int) g 0
 have H0:=veil h0
 obtain⟨b0,b1,c0,c2,c7,c5,c4⟩:=HKB.out _ _ _ _ h0
 have hbt:=buildTh
 clear h hs0 h0 hb0 hno hh hpx hg
 refine ge ?_
 go_wp2
 rw[HW.out,HBX.out]
 go_region_held3 (fun w'=>w'.cell? (vA0 sb)=some (vPt a.m)∧w'.cell? (vAt a.m 7)=some (vPt a.gb)∧w'.cell? (vA0 bx)=some (vI6 (x:Int)))
  (first|(have hk:=HKB.out _ _ _ _ HG.out;grind)|go_keep)
  (first
   |(go_at_call 198;refine(HH.out _ (by exact SX.like H0.out rfl rfl rfl rfl)).mono ?_;rintro e w1 ⟨⟨ad,cc,rfl⟩,hg⟩;have HG:=veil hg;clear hg))
 rename_i hHeld
 clear hHeld
 obtain⟨d0,d1,e0,e2,e7,e5,e4⟩:=HKB.out _ _ _ _ HG.out
 go_wp2
 go_loopw [19] (fun kv wr=>kv=vI6 0∧wr=w1) (fun _ _=>0)
 case atStart=>simp
 case round=>
  obtain⟨rfl,rfl⟩:=hrel
  go_wp2
  go_region_held3 (fun w'=>w'.cell? (vA0 sb)=some (vPt a.m)∧w'.cell? (vAt a.m 5)=some (vPt a.tb)∧w'.cell? (vA0 bx)=some (vI6 (x:Int))∧w'.cell? (vAt bx 1)=some (vU3 (g:Int)))
   (first|(have hk:=HKB.out _ _ _ _ HG2.out;grind)|go_keep)
   (first
    |(go_at_call 199;refine(HRL.out _ (by exact SX.like HG.out rfl rfl rfl rfl)).mono ?_;rintro e w2 ⟨⟨cr,rfl⟩,hg⟩;have HG2:=veil hg;clear hg))
  rename_i hHeld
  clear hHeld
  obtain⟨p0,p1,u0,u2,u7,u5,u4⟩:=HKB.out _ _ _ _ HG2.out
  obtain⟨⟨t0,⟨y0,y1,y2,y3,y4,y5,y6,y7,y8,y9⟩⟩,yf,hten⟩:=HTN.out _ HG2.out
  have HTEN:=veil hten
  clear hten b0 b1 c0 c2 c7 c5 c4 d0 d1 e0 e2 e7 e5 e4
  obtain⟨w3,hw3⟩: ∃w3,tenW w2 a.th (x*10) noTr=w3:=⟨_,rfl⟩
  rw[hw3] at HTEN
  have HW3:Hid (((((((((((w2.setCell (vAt a.th (x*10)) (vI6 0)).setCell (vAt a.th (x*10+1)) (vU3 0)).setCell (vAt a.th (x*10+2)) (vI6 0)).setCell (vAt a.th (x*10+3)) (vU8 0)).setCell (vAt a.th (x*10+4)) (vU8 0)).setCell (vAt a.th (x*10+5)) (vI6 0)).setCell (vAt a.th (x*10+6)) (vI6 0)).setCell (vAt a.th (x*10+7)) (vI6 0)).setCell (vAt a.th (x*10+8)) (vI6 0)).setCell (vAt a.th (x*10+9)) (vU6 0))=w3):=hw3
  clear hw3 hbt
  obtain⟨n1,n2,n3,n4⟩:=HG2.out.sep
  have hbxv:=HBX.out
  have n5: ¬a.th=bx:=by omega
  have n6: ¬bx=a.th:=by omega
  clear hbxv
  go_wp2
  go_region_held3 (fun w'=>w'.cell? (vA0 sb)=some (vPt a.m)∧w'.cell? (vAt a.m 4)=some (.slice (some (vA0 a.th)) n a.xt)∧w'.cell? (vA0 bx)=some (vI6 (x:Int)))
   (go_keep)
   (first|fail)
  rename_i hHeld
  clear hHeld
  rw[HW3.out]
  clear HW3 y0 y1 y2 y3 y4 y5 y6 y7 y8 y9 yf p0 p1 u0 u2 u7 u5 u4 n1 n2 n3 n4 n5 n6
  have hT4:=HTEN.out
  obtain⟨p0,p1,u0,u2,u7,u5,u4⟩:=HKB.out _ _ _ _ hT4
  obtain⟨⟨r,z0⟩,z1,hz⟩:=HSR.out _ hT4
  have HZ:=veil hz
  have hz':=HKB.out _ _ _ _ hz
  have v0:=hz'.1
  have v1:=hz'.2.1
  have hbxv:=HBX.out
  have n7: ¬a.pr=bx:=by omega
  have n8: ¬bx=a.pr:=by omega
  clear hz hz' hT4 hbxv
  go_wp2_with (go_at_call 120;refine cH (HTL.out _ (by exact SX.like HZ.out rfl rfl rfl rfl)) fun w5 HG5=> ?_)
  go_end0
  exact⟨rfl,HG5.out.ahead HB0.out⟩
end
def GoesV (w w':World) (lab:Nat→Nat) (a:Ad) (P n q T:Nat) (M:Mc) (v:Value):Prop:= ∃lab',IsMc w' lab' a P n q T M∧Lab w w' lab lab'∧Fr (fun k=>lab k≠0) w w'∧ ∀k,v.ownBlock=some k→lab' k=0
section
variable {w W W':World} {lab labk:Nat→Nat} {a:Ad} {P n q T T':Nat} {M M':Mc} {sb pr:Nat} {l:List Ev} {O O0:Nat→Prop} {W0:World}
theorem SX.finV (h:SX w W0 W lab a P n q T M sb pr l O0): ∃v,W.cell? (vAt sb 3)=some v∧EvL W w.heap.size v l∧GoesV w W lab a P n q T M v:=by
 obtain⟨k,v,s⟩:=h.sp
 exact⟨v,s.c3,s.hv,k,s.at_.i,s.at_.l,s.at_.f,fun k hk=>(s.hk k hk).1⟩
theorem IsMc.step_ofV (h:IsMc w lab a P n q T M) (hp:pr<P) (d:Int) (hT:T'+n≤1000000000)
  (hact: ∀W1 O,SG w W1 lab a P n q T M w.heap.size pr [] O→vCa 41 #[vPt w.heap.size,vU6 d] W1 fun e w'=>e=vRt #[]∧SX w W1 w' lab a P n q T' M' w.heap.size pr l O):
  vCa 14 #[vPt a.m,vI6 (pr:Int),vU6 d] w fun e w'=> ∃v,e=vRt #[v,vI6 0]∧EvL w' w.heap.size v l∧GoesV w w' lab a P n q (T'+n) (Go.Proofs.YtnmhcgpnhlhcgaaGreatDoor.settle M' n) v:=by
 have HP:=veil (h.hasProc (pr:Int))
 have hyes:hasPc P (pr:Int)=true:=by unfold hasPc;grind
 rw[hyes] at HP
 have c3:=h.co.c3
 have hpi:(pr:Int)<(P:Int):=by omega
 obtain⟨O,hs⟩:=SG.start h pr
 have HA:=veil (hact _ O hs)
 generalize hW:w.alloc (.cells #[vPt a.m,vI6 (pr:Int),.pointer (some (vAt a.pr (pr*3))),.slice none 0 0] 114)=W1 at*
 have HW:=veil hW
 have HST:=veil fun V (h:SX w W1 V lab a P n q T' M' w.heap.size pr l O)=>h.lift (R:=fun e=>e=vRt #[]) fun _ i=>i.settle hT
 have hbt:=fun w=>buildSt (vA0 a.m) (vAt a.pr (pr*3)) (pr:Int) w
 clear h hs hW hact
 refine ge ?_
 go_upto_region 6 with (first
  |(go_at_call 40;refine cS HP.out ?_))
 rw[HW.out]
 go_upto_region 8 with (first
  |(go_at_call 41;refine cH HA.out fun w2 HG2=> ?_)
  |(go_at_call 42;refine cH (HST.out _ HG2.out) fun w3 HG3=> ?_))
 obtain⟨v,z3,hev,hgo⟩:=HG3.out.finV
 obtain⟨ad,cap,rfl⟩:=Cb.owns_slice hev
 have HE:=veil (And.intro hev hgo)
 clear hev hgo
 go_wp2
 go_ret2
 exact⟨_,rfl,HE.out.1,HE.out.2⟩
end
section
variable {w W W':World} {lab labk:Nat→Nat} {a:Ad} {P n q T T':Nat} {M M':Mc}
theorem Goes.moreV {w':World} (h:Goes w w' lab a P n q T M) (o:Obj):GoesV w (w'.alloc o) lab a P n q T M (.slice (some (vA0 w'.heap.size)) 1 1):=by
 obtain⟨lab',hi,hl,hf⟩:=h
 have hb:vBw w' (w'.alloc o):=bzA
 have hi2:=hi.below hb
 have hf2:=hf.then (ofBelow (S:=fun _=>False) hb) (by simp)
 refine⟨lab',hi2,⟨hl.old,hi2.lt⟩,hf2,fun k hk=> ?_⟩
 have:w'.heap.size=k:=by simpa [Value.ownBlock] using hk
 exact hi.fresh (by omega)
theorem IsMc.start_yesV (h:IsMc w lab a P n q T M) (hT:T+n+1+n≤1000000000) (hG:gok M n) (pg:Int) (lv:Nat) (hlv:lv<256) (sv:Int) (hno:startNo M pg sv=false) (x:Nat) (hf:freeOf M n=some x):
  vCa 20 #[vPt a.m,vI6 pg,vU8 (lv:Int),vI6 sv] w fun e w'=> ∃v,e=vRt #[v,vI6 0]∧EvL w' w.heap.size v [⟨9,0,(x:Int),M.G x+1,pg,0⟩]∧GoesV w w' lab a P n q (T+n+1+n) (startM P n q M x pg lv sv) v:=by
 have HP:=veil (h.hasProg pg)
 have HL:=veil h.slen
 obtain⟨g,hg⟩: ∃g,M.G x+1=g:=⟨_,rfl⟩
 have HB:Hid (vCa 55 #[vPt a.m,vI6 0,.agg #[vI6 0,vU3 0,vI6 pg,vU8 (lv:Int),vU8 0,vI6 sv,vI6 0,vI6 0,vI6 0,vU6 0]] w fun e w'=>e=vRt #[.agg #[vI6 9,vI6 0,vI6 (x:Int),vU3 (g:Int),vI6 pg,vI6 0],vI6 0]∧Goes w w' lab a P n q (T+n+1) (beginM P n q M x 0 (newTr pg lv sv))):=by
  have:=h.begin_yes (by omega) hG 0 (newTr pg lv sv) (newTr_ok pg lv sv hlv) x hf
  rw[hg] at this
  exact this
 have c6:=h.co.c6
 have hz:=h.t0.pos
 have HST:Hid (∀W lab1,At w W lab lab1 a P n q (T+n+1) (beginM P n q M x 0 (newTr pg lv sv))→ ∀b,lab1 b=0→EvAt W b ⟨9,0,(x:Int),g,pg,0⟩→vCa 42 #[vPt a.m] W fun e w'=>e=vRt #[]∧Goes w w' lab a P n q (T+n+1+n) (startM P n q M x pg lv sv)∧EvAt w' b ⟨9,0,(x:Int),g,pg,0⟩):=fun W lab1 A b hb he=>by
  refine(A.i.settle hT).mono ?_
  rintro e w' ⟨rfl,hgo⟩
  obtain⟨lab2,A2,ho,hfr⟩:=A.step hgo
  exact⟨rfl,A2.goes,he.kept (hfr.box hb he.lt)⟩
 unfold startNo at hno
 clear h
 generalize M.sv.length=len at*
 have hp:hasPg M pg=true:=by grind
 have h1: ¬sv< -1:=by grind
 have h2: ¬(len:Int)≤sv:=by grind
 have d1:=decide_eq_false h1
 have d2:=decide_eq_false h2
 rw[hp] at HP
 have hbt:=fun w=>buildTr pg (lv:Int) sv w
 rw[hg]
 refine ge ?_
 go_upto_region 8 with (first
  |(go_at_call 53;refine cS HP.out ?_)
  |(go_at_call 54;refine cS HL.out ?_)
  |(go_at_call 55;refine cH HB.out fun w1 HB1=> ?_))
 obtain⟨lab1,A1⟩:=HB1.out.open hz
 have A2:=A1.new (.cells #[vI6 9,vI6 0,vI6 (x:Int),vU3 (g:Int),vI6 pg,vI6 0] 80)
 have hl:=A1.fresh lzr
 have he:EvAt (w1.alloc (.cells #[vI6 9,vI6 0,vI6 (x:Int),vU3 (g:Int),vI6 pg,vI6 0] 80)) w1.heap.size ⟨9,0,(x:Int),g,pg,0⟩:=⟨(by simp),(by simp),(by simp),(by simp),(by simp),(by simp),fun o=>(by simp)⟩
 generalize w1.alloc (.cells #[vI6 9,vI6 0,vI6 (x:Int),vU3 (g:Int),vI6 pg,vI6 0] 80)=W1 at*
 have HS1:=veil (HST.out W1 lab1 A2 w1.heap.size hl he)
 clear HST A1 A2 hl he HB1 HB HP HL
 go_wp2_with (first
  |(go_at_call 42;refine(HS1.out).mono ?_;rintro e w2 ⟨rfl,hgo,⟨e0,e1,e2,e3,e4,e5,ef⟩⟩;have HG2:=veil hgo;clear hgo))
 go_ret2
 exact⟨_,rfl,EvL.one w2 w.heap.size HG2.out.size ⟨9,0,(x:Int),g,pg,0⟩,HG2.out.moreV _⟩
end
def AlK (w wr:World) (ad:Ad) (P n q T:Nat) (M:Mc) (K:Nat→Prop):Prop:=(∃lab,IsMc wr lab ad P n q T M∧(∀k,lab k≠0→w.heap.size≤k)∧ ∀k,K k→lab k=0∧k<wr.heap.size)∧vBw w wr
section
variable {w wr w':World} {ad:Ad} {P n q T T':Nat} {M M':Mc} {K:Nat→Prop}
theorem AlK.goesV (h:AlK w wr ad P n q T M K) {lab:Nat→Nat} (h1: ∀k,lab k≠0→w.heap.size≤k) (h2: ∀k,K k→lab k=0∧k<wr.heap.size) {v:Value} {base:Nat} {l:List Ev} (g:GoesV wr w' lab ad P n q T' M' v) (hv:EvL w' base v l):AlK w w' ad P n q T' M' (fun k=>K k∨v.ownBlock=some k)∧ ∀k,K k→w'.heap[k]? =wr.heap[k]? :=by
 obtain⟨_,hb⟩:=h
 obtain⟨lab',hi',hl,hf,hz⟩:=g
 refine⟨⟨⟨lab',hi',fun k hk=> ?_,fun k hk=> ?_⟩,hb.trans ⟨hf.os,hf.tape,hf.output,hf.size,fun k hk=>hf.block k (Nat.lt_of_lt_of_le hk hb.size) (by grind)⟩⟩,fun k hk=>hf.block k (h2 k hk).2 (by grind)⟩
 ·grind[Nat.lt_or_ge,Lab.old,Nat.le_trans,RowKit.Below.size]
 ·rcases hk with hk|hk
  ·exact⟨(hl.old k (h2 k hk).2).trans (h2 k hk).1,Nat.lt_of_lt_of_le (h2 k hk).2 hf.size⟩
  ·exact⟨hz k hk,(hv.lt hk).1⟩
theorem AlK.call (h:AlK w wr ad P n q T M K) {f:Nat} {args:Array Value} {R:Ending→World→Value→Prop} {base:Nat} {l:List Ev} (hc: ∀lab,IsMc wr lab ad P n q T M→vCa f args wr fun e w'=> ∃v,R e w' v∧EvL w' base v l∧GoesV wr w' lab ad P n q T' M' v):vCa f args wr fun e w'=> ∃v,R e w' v∧EvL w' base v l∧AlK w w' ad P n q T' M' (fun k=>K k∨v.ownBlock=some k)∧ ∀k,K k→w'.heap[k]? =wr.heap[k]? :=by
 have h0:=h
 obtain⟨⟨lab,hi,h1,h2⟩,hb⟩:=h
 grind[Calls.mono,AlK.goesV]
theorem AlK.pq (h:AlK w wr ad P n q T M K): ∃O,PQ wr O ad.pb n P q T M.pl:=by
 obtain⟨⟨lab,hi,hl⟩,hb⟩:=h
 grind[IsMc.pl]
theorem AlK.bel (h:AlK w wr ad P n q T M K):vBw w wr:=h.2
end
end Go.Proofs.YtnmhcgpnhlhcgaaGreatDoor
namespace Go.Proofs.YtnmhcgpnhlhcgaaGreatDoor
open Go.RowKit
section
variable {W w':World} {labk:Nat→Nat} {a:Ad} {P n q T:Nat} {M:Mc}
theorem IsMc.sleep (h:IsMc W labk a P n q T M) (id:Int) (t:Nat) (ht:t<18446744073709551616):
  vCa 169 #[vPt a.wb,vI6 id,vU6 (t:Int)] W fun e w'=>(∃c:Int,e= .returned (vI6 c))∧Goes W w' labk a P n q T {M with wh:=Wh.setS n M.wh id t}:=by
 refine(Wh.set_ok h.wh id t ht).mono ?_
 rintro e w' ⟨rfl,hw,hf⟩
 have h9:=(ofWh hf).to (fun k _ hk=>h.lw k hk)
 exact⟨⟨_,rfl⟩,labk,h.toWh (h.same h9) h9 hw,h.same h9,h9.to (by omega)⟩
theorem IsMc.advance (h:IsMc W labk a P n q T M) (hn:n≤12) (tm:Nat) (ht:tm<18446744073709551616):
  vCa 45 #[vPt a.wb,vU6 (tm:Int)] W fun e w'=> ∃v,e= .returned v∧w'.ownsRow W.heap.size 3 1 v (Wh.due (max tm M.nw) M.wh).length (Wh.iv (Wh.spots (Wh.due (max tm M.nw) M.wh)))∧GoesV W w' labk a P n q T {M with nw:=max tm M.nw,wh:=Wh.late (max tm M.nw) M.wh} v:=by
 refine(Wh.advance_ok h.wh 12 Wh.sorts12 hn tm ht).mono ?_
 rintro e w' ⟨⟨v,rfl,hv⟩,hw,hf⟩
 have h9:=(ofWh hf).to (fun k _ hk=>h.lw k hk)
 exact⟨v,rfl,hv,labk,h.toWh (h.same h9) h9 hw,h.same h9,h9.to (by omega),fun k hk=>h.fresh (ownsRow_blk hv hk).1⟩
theorem IsMc.srv (h:IsMc W labk a P n q T M) {base:Nat} {v:Value} {L':List Cb.Srv} (hl: ∀k,v.ownBlock=some k→labk k=6) (hp:Cb.Pep w' base a.sb P v L') {S:Nat→Prop} (hf:Fr S W w') (hS: ∀k,S k→k=a.sb∨some k=v.ownBlock):Goes W w' labk a P n q T {M with sv:=L'}:=by
 have h6:=(ofCb hf).to (fun k _ hk=>(hS k hk).elim (fun e=>by rw[e];exact h.lsb) (fun e=>hl k e.symm))
 exact⟨labk,h.toSrv (h.same h6) h6 hp hl,h.same h6,h6.to (by omega)⟩
theorem IsMc.charge (h:IsMc W labk a P n q T M) (i:Int):
  vCa 91 #[vPt a.sb,vI6 i] W fun e w'=>e=vRt #[.bool (Cb.chgB M.sv i),vI6 (Cb.chgC M.sv i:Int)]∧Goes W w' labk a P n q T {M with sv:=Cb.chgL M.sv i}:=by
 obtain⟨base,v,hp,hl⟩:=h.sv
 refine(Cb.charge_all hp i).mono ?_
 rintro e w' ⟨rfl,hp',hf⟩
 exact⟨rfl,h.srv hl hp' hf (fun _ q=>q)⟩
theorem IsMc.refill (h:IsMc W labk a P n q T M) (now:Nat) (hn:now<18446744073709551616):
  vCa 49 #[vPt a.sb,vU6 (now:Int)] W fun e w'=> ∃v,e= .returned v∧w'.ownsRow W.heap.size 3 1 v (Cb.dueN M.sv now M.sv.length).length (Cb.intsN (Cb.dueN M.sv now M.sv.length))∧GoesV W w' labk a P n q T {M with sv:=M.sv.map (Cb.refS now)} v:=by
 obtain⟨base,v,hp,hl⟩:=h.sv
 refine(Cb.refill_ok hp now hn).mono ?_
 rintro e w' ⟨lv,rfl,ho,hp',hf⟩
 obtain⟨lab',g1,g2,g3⟩:=h.srv hl hp' hf (by grind)
 have h6:=(ofCb hf).to (fun k _ hk=>hl k hk.symm)
 exact⟨lv,rfl,ho,labk,h.toSrv (h.same h6) h6 hp' hl,h.same h6,(by omega),fun k hk=>h.fresh (ownsRow_blk ho hk).1⟩
end
end Go.Proofs.YtnmhcgpnhlhcgaaGreatDoor
namespace Go.Proofs.YtnmhcgpnhlhcgaaGreatDoor
open Go.RowKit Go.Lib Go.Shelf
attribute [local go_sem ↓] Go.wp_at_zero Go.wp_at_succ
def GX (w W0 wr:World) (lab:Nat→Nat) (a:Ad) (P n q T:Nat) (M:Mc) (v:Value) (l:List Ev) (K:Nat→Prop):Prop:=
 ∃labk,At w wr lab labk a P n q T M∧EvL wr w.heap.size v l∧(∀k,v.ownBlock=some k→labk k=0∧ ¬K k)∧ ∀k,K k→labk k=0∧k<wr.heap.size∧wr.heap[k]? =W0.heap[k]?
section
variable {w W0 wr w':World} {lab:Nat→Nat} {a:Ad} {P n q T T':Nat} {M M':Mc} {v:Value} {l:List Ev} {K:Nat→Prop}
theorem GX.start (h:IsMc w lab a P n q T M):GX w w w lab a P n q T M (.slice none 0 0) [] (fun _=>False):=
 ⟨lab,h.at0,EvL.nil _ _,fun k e=>(by cases e),fun k e=>(False.elim e)⟩
theorem GX.goes (h:GX w W0 wr lab a P n q T M v l K) (g: ∀labk,IsMc wr labk a P n q T M→Goes wr w' labk a P n q T' M'):GX w W0 w' lab a P n q T' M' v l K:=by
 obtain⟨labk,A,hv,hk,hK⟩:=h
 obtain⟨lab',A',ho,hf⟩:=A.step (g labk A.i)
 refine⟨lab',A',row_keptF hv (fun k e=>hf.block k (hv.lt e).1 (by grind)),fun k e=>⟨by rw[ho k (hv.lt e).1];grind,(hk k e).2⟩,fun k e=> ?_⟩
 grind[Fr.block]
theorem GX.call (h:GX w W0 wr lab a P n q T M v l K) {f:Nat} {args:Array Value} {R:Ending→Prop} (hc: ∀labk,IsMc wr labk a P n q T M→vCa f args wr fun e w'=>R e∧Goes wr w' labk a P n q T' M'):vCa f args wr fun e w'=>R e∧GX w W0 w' lab a P n q T' M' v l K:=by
 obtain⟨labk,A,hv,hk,hK⟩:=h
 refine(hc labk A.i).mono (fun e w' ⟨he,hg⟩=>⟨he,?_⟩)
 obtain⟨lab',A',ho,hf⟩:=A.step hg
 refine⟨lab',A',row_keptF hv (fun k e=>hf.block k (hv.lt e).1 (by grind)),fun k e=>⟨by rw[ho k (hv.lt e).1];grind,(hk k e).2⟩,fun k e=> ?_⟩
 grind[Fr.block]
theorem GX.callV (h:GX w W0 wr lab a P n q T M v l K) {f:Nat} {args:Array Value} {R:Ending→Value→World→Prop} (hc: ∀labk,IsMc wr labk a P n q T M→vCa f args wr fun e w'=> ∃u,R e u w'∧(∀k,u.ownBlock=some k→wr.heap.size≤k∧k<w'.heap.size)∧GoesV wr w' labk a P n q T' M' u):vCa f args wr fun e w'=> ∃u,R e u w'∧GX w w' w' lab a P n q T' M' v l (fun k=>K k∨u.ownBlock=some k)∧ ∀k,K k→w'.heap[k]? =W0.heap[k]? :=by
 obtain⟨labk,A,hv,hk,hK⟩:=h
 refine(hc labk A.i).mono (fun e w' ⟨u,he,hu,lab',i',hl,hf,hz⟩=>⟨u,he,⟨lab',⟨i',A.l.then hl A.f.size,A.f.then hf (fun k hk hn=>by rw[←A.l.old k hk];exact hn),A.z⟩,row_keptF hv (fun k e=>hf.block k (hv.lt e).1 (by grind)),fun k e=>⟨by rw[hl.old k (hv.lt e).1];grind,fun q=> ?_⟩,fun k e=> ?_⟩,fun k e=> ?_⟩)
 ·rcases q with q|q
  ·grind
  ·have:=(hu k q).1
   have:=(hv.lt e).1
   omega
 ·grind[Lab.old,Nat.lt_of_lt_of_le,Fr.size]
 grind[Fr.block]
theorem GX.callE (h:GX w W0 wr lab a P n q T M (.slice none 0 0) [] K) {f:Nat} {args:Array Value} {R:Ending→Value→Prop} {l':List Ev} (hc: ∀labk,IsMc wr labk a P n q T M→vCa f args wr fun e w'=> ∃u,R e u∧EvL w' wr.heap.size u l'∧GoesV wr w' labk a P n q T' M' u):vCa f args wr fun e w'=> ∃u,R e u∧GX w W0 w' lab a P n q T' M' u l' K:=by
 obtain⟨labk,A,hv,hk,hK⟩:=h
 refine(hc labk A.i).mono (fun e w' ⟨u,he,hu,lab',i',hl,hf,hz⟩=>⟨u,he,lab',⟨i',A.l.then hl A.f.size,A.f.then hf (fun k hk hn=>by rw[←A.l.old k hk];exact hn),A.z⟩,?_,fun k e=>⟨hz k e,fun q=> ?_⟩,fun k e=> ?_⟩)
 ·obtain⟨h1,h2|⟨g,cap,cells,hv',h3,h4⟩⟩:=hu
  ·exact⟨h1,.inl h2⟩
  ·exact⟨h1,.inr ⟨g,cap,cells,hv',Nat.le_trans A.f.size h3,h4⟩⟩
 ·have:=(hu.lt e).2
  grind
 grind[Lab.old,Fr.block]
theorem GX.more (h:GX w W0 wr lab a P n q T M v l K) (hb:vBw wr w'):GX w W0 w' lab a P n q T M v l K:=by
 obtain⟨labk,A,hv,hk,hK⟩:=h
 refine⟨labk,A.below hb,hv.below hb,hk,fun k e=> ?_⟩
 grind[RowKit.Below.block]
theorem GX.like (h:GX w W0 wr lab a P n q T M v l K) (e1:w'.heap=wr.heap) (e2:w'.os=wr.os) (e3:w'.tape=wr.tape) (e4:w'.output=wr.output):GX w W0 w' lab a P n q T M v l K:=h.more mK
theorem GX.moreT (h:GX w W0 wr lab a P n q T M v l K) (hT:T≤T'):GX w W0 wr lab a P n q T' M v l K:=h.goes fun _ i=>(i.moreT hT).goes
theorem GX.i (h:GX w W0 wr lab a P n q T M v l K): ∃labk,IsMc wr labk a P n q T M:=⟨_,h.choose_spec.1.i⟩
theorem GX.ev (h:GX w W0 wr lab a P n q T M v l K):EvL wr w.heap.size v l:=h.choose_spec.2.1
theorem GX.out (h:GX w W0 wr lab a P n q T M v l K):EvL wr w.heap.size v l∧GoesV w wr lab a P n q T M v:=by
 obtain⟨labk,A,hv,hk,hK⟩:=h
 exact⟨hv,labk,A.i,A.l,A.f,fun k e=>(hk k e).1⟩
theorem GX.core (h:GX w W0 wr lab a P n q T M v l K):Core wr a P n M.qu M.ag:=by grind[GX.i,IsMc.co]
theorem GX.tr (h:GX w W0 wr lab a P n q T M v l K) {x:Nat} (hx:x<n):TrAt wr a.th (x*10) (M.th x):=by obtain⟨k,i⟩:=h.i;exact i.th.at_ x hx
theorem GX.tok (h:GX w W0 wr lab a P n q T M v l K) {x:Nat} (hx:x<n):(M.th x).ok:=by obtain⟨k,i⟩:=h.i;exact i.th.ok x hx
theorem GX.tfz (h:GX w W0 wr lab a P n q T M v l K) (o:Nat):wr.frozen? (vAt a.th o)=false:=by obtain⟨k,i⟩:=h.i;exact i.th.fz o
theorem GX.pc (h:GX w W0 wr lab a P n q T M v l K) {x:Nat} (hx:x<P):PcAt wr a.pr (x*3) (M.pc x):=by obtain⟨k,i⟩:=h.i;exact i.pc.at_ x hx
theorem GX.wl (h:GX w W0 wr lab a P n q T M v l K):w.heap.size≤wr.heap.size:=by obtain⟨k,A,_⟩:=h;exact A.f.size
theorem GX.told (h:GX w W0 wr lab a P n q T M v l K) {v1:Value} {w1:World} {ev:Ev} (ho:w1.ownsRow w.heap.size 80 6 v1 (l.length+1) (evCells l++evOne ev)) (hg:wr.grownBy w1 v.ownBlock) (hat:v1.ownBlock=v.ownBlock∨v1.ownBlock=some wr.heap.size):GX w W0 w1 lab a P n q T M v1 (l++[ev]) K:=by
 obtain⟨labk,A,hv,hk,hK⟩:=h
 have hbl:=fun b (hb:b<wr.heap.size) (hn:v.ownBlock≠some b)=>hg.block b hb (by grind)
 have hf1:Fr (fun k=>labk k=0∧w.heap.size≤k) wr w1:=⟨hg.os,hg.tape,hg.output,hg.size,fun k hkl hn=>hbl k hkl (fun e=>hn ⟨(hk k e).1,(hv.lt e).2⟩)⟩
 have hz:=A.z
 have hi:=A.i.frame hf1 (by omega) (by omega)
 refine⟨labk,⟨hi,⟨A.l.old,hi.lt⟩,A.f.then hf1 (by omega),hz⟩,?_,fun k e=> ?_,fun k e=> ?_⟩
 ·grind[EvL,evCells_snoc]
 ·rcases hat with q|q
  ·grind
  ·rw[q] at e
   injection e with e
   rw[←e]
   refine⟨A.fresh lzr,fun q=> ?_⟩
   grind
 grind
end
section
variable {W w':World} {labk:Nat→Nat} {a:Ad} {P n q T:Nat} {M:Mc} {pr:Nat}
theorem IsMc.setSlice (h:IsMc W labk a P n q T M) (hp:pr<P) (s:Nat) (hs:s<18446744073709551616):Goes W (W.setCell (vAt a.pr (pr*3+1)) (vU6 (s:Int))) labk a P n q T {M with pc:=upd M.pc pr {M.pc pr with s:=s}}:=by
 have h3:Fr (fun k=>labk k=3) W (W.setCell (vAt a.pr (pr*3+1)) (vU6 (s:Int))):=(Fr.refl _ _).setCell (a:=(vAt a.pr _)) h.lpr _
 exact⟨labk,h.toPc (h.same h3) h3 (h.pc.put ((h.pc.at_ pr hp).set_s s) hs (fun j hj hne=>(h.pc.at_ j hj).far (far3 hne (by decide)) _) (fun o=>by rw[frozen_set];exact h.pc.fz o)),h.same h3,h3.to (fun k _ hk=>by omega)⟩
theorem IsMc.setMarked (h:IsMc W labk a P n q T M) (hp:pr<P) (m:Bool):Goes W (W.setCell (vAt a.pr (pr*3+2)) (.bool m)) labk a P n q T {M with pc:=upd M.pc pr {M.pc pr with m:=m}}:=by
 have h3:Fr (fun k=>labk k=3) W (W.setCell (vAt a.pr (pr*3+2)) (.bool m)):=(Fr.refl _ _).setCell (a:=(vAt a.pr _)) h.lpr _
 exact⟨labk,h.toPc (h.same h3) h3 (h.pc.put ((h.pc.at_ pr hp).set_m m) (h.pc.ok pr hp) (fun j hj hne=>(h.pc.at_ j hj).far (far3 hne (by decide)) _) (fun o=>by rw[frozen_set];exact h.pc.fz o)),h.same h3,h3.to (fun k _ hk=>by omega)⟩
theorem upd_upd {α:Type} (f:Nat→α) (i:Nat) (u v:α):upd (upd f i u) i v=upd f i v:=by
 grind[upd]
def cntM (M:Mc) (pr:Nat):Mc:={M with pc:=upd M.pc pr (countP (M.pc pr) M.qu)}
theorem IsMc.count (h:IsMc W labk a P n q T M) (hp:pr<P) (hs:(M.pc pr).s+1<18446744073709551616):
  vCa 90 #[.pointer (some (vAt a.pr (pr*3))),vU6 (M.qu:Int)] W fun e w'=>e=vRt #[]∧Goes W w' labk a P n q T (cntM M pr):=by
 have c1:=(h.pc.at_ pr hp).c1
 have c2:=(h.pc.at_ pr hp).c2
 have fz:=h.pc.fz
 have h1:=h.setSlice hp ((M.pc pr).s+1) hs
 by_cases hq:(M.pc pr).s+1=M.qu
 ·have h2:Goes W (((W.setCell (vAt a.pr (pr*3+1)) (vU6 (((M.pc pr).s+1:Nat):Int))).setCell (vAt a.pr (pr*3+1)) (vU6 0)).setCell (vAt a.pr (pr*3+2)) (.bool true)) labk a P n q T (cntM M pr):=by
   have q1:=(h1.then (fun _ i=>i.setSlice hp 0 (by decide))).then (fun _ i=>i.setMarked hp true)
   unfold cntM countP
   rw[if_pos hq]
   simp only[upd_upd,upd_same] at q1
   exact q1
  generalize (M.pc pr).s=s at*
  generalize M.qu=qu at*
  have hq':(s:Int)+1=(qu:Int):=by omega
  have hqb:((s:Int)+1==(qu:Int))=true:=by grind
  have e1:(((s+1:Nat):Int))=(s:Int)+1:=by omega
  rw[e1,hq'] at h2
  have H2:=veil h2
  clear h h1 h2 hq e1
  refine ge ?_
  go_wp2
  go_end0
  exact⟨rfl,H2.out⟩
 ·have h2:Goes W (W.setCell (vAt a.pr (pr*3+1)) (vU6 (((M.pc pr).s+1:Nat):Int))) labk a P n q T (cntM M pr):=by
   unfold cntM countP
   rw[if_neg hq]
   exact h1
  generalize (M.pc pr).s=s at*
  generalize M.qu=qu at*
  have hq': ¬(s:Int)+1=(qu:Int):=by omega
  have hqb:((s:Int)+1==(qu:Int))=false:=by grind
  have e1:(((s+1:Nat):Int))=(s:Int)+1:=by omega
  rw[e1] at h2
  have H2:=veil h2
  clear h h1 h2 hq e1
  refine ge ?_
  go_wp2
  go_end0
  exact⟨rfl,H2.out⟩
end
def tickL (il:Int):Int:=if 0<il then il-1 else il
noncomputable def wk1 (M:Mc) (p:Nat):Mc:=
 if (M.pc p).r= -1 then M
 else{cntM (frM M (M.pc p).r.toNat (M.th (M.pc p).r.toNat).ia (tickL (M.th (M.pc p).r.toNat).il)) p with sv:=Cb.chgL M.sv (M.th (M.pc p).r.toNat).sv}
noncomputable def wkE (M:Mc) (p:Nat):List Ev:=
 if (M.pc p).r= -1 then []
 else if Cb.chgB M.sv (M.th (M.pc p).r.toNat).sv then [⟨12,(p:Int),(M.th (M.pc p).r.toNat).p,(M.th (M.pc p).r.toNat).g,(M.th (M.pc p).r.toNat).sv,0⟩] else []
noncomputable def wkM (M:Mc):Nat→Mc
 |0=>M
 |j+1=>wk1 (wkM M j) j
noncomputable def wkL (M:Mc):Nat→List Ev
 |0=>[]
 |j+1=>wkL M j++wkE (wkM M j) j
structure Rok (P n:Nat) (M:Mc):Prop where
 r: ∀p,p<P→(M.pc p).r= -1∨ ∃x:Nat,x<n∧(M.pc p).r=(x:Int)
 s: ∀p,p<P→(M.pc p).s<M.qu
theorem wk1_pc (M:Mc) (p j:Nat) (h:j≠p):(wk1 M p).pc j=M.pc j:=by
 unfold wk1
 split
 ·rfl
 ·exact upd_other _ _ _ _ h
theorem wkM_pc (M:Mc): ∀(j i:Nat),j≤i→(wkM M j).pc i=M.pc i
 |0,_,_=>rfl
 |j+1,i,h=>(wk1_pc _ j i (by omega)).trans (wkM_pc M j i (by omega))
theorem wk1_qu (M:Mc) (p:Nat):(wk1 M p).qu=M.qu:=by unfold wk1;split<;>rfl
theorem wkM_qu (M:Mc): ∀j,(wkM M j).qu=M.qu
 |0=>rfl
 |j+1=>(wk1_qu _ j).trans (wkM_qu M j)
theorem wkL_len (M:Mc): ∀j,(wkL M j).length≤j
 |0=>lzr
 |j+1=>by
  have:=wkL_len M j
  have:(wkE (wkM M j) j).length≤1:=by unfold wkE;grind
  show(wkL M j++wkE (wkM M j) j).length≤j+1
  grind
section
variable {w:World} {lab:Nat→Nat} {a:Ad} {P n q T:Nat} {M:Mc}
theorem IsMc.work (h : IsMc w lab a P n q T M) (hr : Rok P n M) :
  vCa 48 #[vPt a.m] w fun e w' => ∃ v, e = .returned v ∧ EvL w' w.heap.size v (wkL M P) ∧ GoesV w w' lab a P n q T (wkM M P) v := by
 have hg0 := GX.start h
 have c3 := h.co.c3
 have hP := h.hP
 have hqu := h.hq.1
 have HR := veil hr
 have HG0 := veil hg0
 obtain ⟨i0, hi0, hz0, hz1, hz2⟩ := Cb.info_parts infoEv
 clear h hr hg0
 refine ge ?_
 go_wp2
 go_loopw [3, 14] (fun tv iv wr => ∃ (j : Nat), j ≤ P ∧ iv = vI6 j ∧ GX w w wr lab a P n q T (wkM M j) tv (wkL M j) (fun _ => False)) (fun _ iv _ => P - (RowKit.intOf iv).toNat)
 case atStart => exact ⟨0, by omega, rfl, HG0.out⟩
 case round =>
  obtain ⟨j, hj, rfl, hx⟩ := hrel
  have HX := veil hx
  obtain ⟨ad, cap, rfl⟩ := Cb.owns_slice hx.ev
  have d3 := hx.core.c3
  have d4 := hx.core.c4
  have d0 := hx.core.c0
  have d6 := hx.core.c6
  by_cases hjl : j < P
  ·have hjl' : (j : Int) < (P : Int) := by omega
   have hpc := wkM_pc M j j lzr
   have hquj := wkM_qu M j
   have hll := wkL_len M j
   have e0 := (hx.pc hjl).c0
   rw [hpc] at e0
   rcases HR.out.r j hjl with hrn | ⟨x, hxn, hrx⟩
   ·rw [hrn] at e0
    have hN : GX w w wr lab a P n q T (wkM M (j + 1)) (.slice ad (wkL M j).length cap) (wkL M (j + 1)) (fun _ => False) := by
     show GX w w wr lab a P n q T (wk1 (wkM M j) j) _ (wkL M j ++ wkE (wkM M j) j) _
     unfold wk1 wkE
     rw [if_pos (by grind), if_pos (by grind), List.append_nil]
     exact hx
    have HN := veil hN
    clear hN hx hpc hquj hrn
    go_wp2
    go_roundw
    case rel => exact ⟨j + 1, by omega, by go_num, HN.out⟩
    case measure => simp [RowKit.intOf]; omega
   ·rw [hrx] at e0
    have hq1 : (wkM M j).qu = M.qu := hquj
    obtain ⟨t, ht⟩ : ∃ t, (wkM M j).th x = t := ⟨_, rfl⟩
    obtain ⟨cb, hcb⟩ : ∃ cb, Cb.chgB (wkM M j).sv t.sv = cb := ⟨_, rfl⟩
    have hrt : ((wkM M j).pc j).r.toNat = x := by grind
    have hrne : ¬ ((wkM M j).pc j).r = -1 := by grind
    have HNX : Hid (wkM M (j + 1) = { cntM (frM (wkM M j) x t.ia (tickL t.il)) j with sv := Cb.chgL (wkM M j).sv t.sv } ∧ wkL M (j + 1) = if cb then wkL M j ++ [⟨12, (j : Int), t.p, t.g, t.sv, 0⟩] else wkL M j) := by
     refine ⟨?_, ?_⟩
     ·show wk1 (wkM M j) j = _
      unfold wk1
      grind
     ·show wkL M j ++ wkE (wkM M j) j = _
      unfold wkE
      grind
    have hs1 : (M.pc j).s < M.qu := HR.out.s j hjl
    have hqs : ((wkM M j).pc j).s + 1 < 18446744073709551616 := by grind
    have tok := hx.tok hxn
    rw [ht] at tok
    have htl : tickL t.il < 9223372036854775808 := by have := tok.il; unfold tickL; omega
    generalize wkM M j = N at *
    generalize wkL M j = L at *
    have HT : Hid (∀ V, vQ 89 #[.agg #[vI6 t.ia, vI6 t.il]] V (.agg #[vI6 t.ia, vI6 (tickL t.il)])) := fun V => Ex.tick_ok V t.ia t.il tok.il
    have HF : Hid (∀ V, GX w w V lab a P n q T N (.slice ad L.length cap) L (fun _ => False) → GX w w ((V.setCell (vAt a.th (x * 10 + 7)) (vI6 t.ia)).setCell (vAt a.th (x * 10 + 8)) (vI6 (tickL t.il))) lab a P n q T (frM N x t.ia (tickL t.il)) (.slice ad L.length cap) L (fun _ => False)) := fun V hV => hV.goes (fun _ i => i.setFrame hxn _ _ htl)
    have HC : Hid (∀ V, GX w w V lab a P n q T (frM N x t.ia (tickL t.il)) (.slice ad L.length cap) L (fun _ => False) → vCa 90 #[.pointer (some (vAt a.pr (j * 3))), vU6 (M.qu : Int)] V fun e w' => e = vRt #[] ∧ GX w w w' lab a P n q T (cntM (frM N x t.ia (tickL t.il)) j) (.slice ad L.length cap) L (fun _ => False)) := fun V hV => hV.call (R := fun e => e = vRt #[]) (fun _ i => by rw [← hq1]; exact i.count hjl hqs)
    have HCH : Hid (∀ V, GX w w V lab a P n q T (cntM (frM N x t.ia (tickL t.il)) j) (.slice ad L.length cap) L (fun _ => False) → vCa 91 #[vPt a.sb, vI6 t.sv] V fun e w' => (∃ c : Int, e = vRt #[.bool cb, vI6 c]) ∧ GX w w w' lab a P n q T { cntM (frM N x t.ia (tickL t.il)) j with sv := Cb.chgL N.sv t.sv } (.slice ad L.length cap) L (fun _ => False)) := fun V hV => hV.call (R := fun e => ∃ c : Int, e = vRt #[.bool cb, vI6 c]) (fun _ i => (i.charge t.sv).mono (fun e w' hq => ⟨⟨(Cb.chgC N.sv t.sv : Int), by have h1 := hq.1; rw [← hcb]; exact h1⟩, hq.2⟩))
    have HTX : Hid (∀ V (M' : Mc) v' l', M'.th = (frM N x t.ia (tickL t.il)).th → GX w w V lab a P n q T M' v' l' (fun _ => False) → V.cell? (vA0 a.m) = some (vU6 (M'.qu : Int)) ∧ V.cell? (vAt a.m 6) = some (vPt a.sb) ∧ V.cell? (vAt a.th (x * 10 + 5)) = some (vI6 t.sv) ∧ V.cell? (vAt a.th (x * 10)) = some (vI6 t.p) ∧ V.cell? (vAt a.th (x * 10 + 1)) = some (vU3 (t.g : Int))) := fun V M' v' l' e hV => by
     have q := hV.tr hxn
     have e2 : M'.th x = { t with ia := t.ia, il := tickL t.il } := by rw [e]; show upd N.th x _ x = _; grind[upd]
     rw [e2] at q
     exact ⟨hV.core.c0, hV.core.c6, q.c5, q.c0, q.c1⟩
    have t7 := (hx.tr hxn).c7
    have t8 := (hx.tr hxn).c8
    rw [ht] at t7 t8
    have tfz := hx.tfz
    have hxl' : (x : Int) < (n : Int) := by omega
    have hqN : (frM N x t.ia (tickL t.il)).qu = M.qu := hq1
    have HQN := veil hqN
    clear hx hpc hquj hrx hq1 hs1 hqs tok htl ht hcb hrt hrne hqN
    generalize tickL t.il = tl at *
    go_upto_region 7 with fail
    go_region
    go_upto_region 10 with (first
     | (go_at_call 89; refine (HT.out _).mono ?_; rintro e w1 ⟨rfl, hb1⟩; have hG1 := HX.out.more (w' := w1) (by refine bt ?_ hb1; exact below_post bzR rfl rfl rfl rfl); have HG2 := veil (HF.out _ hG1); have u7 : ∃ u, w1.cell? (vAt a.th (x * 10 + 7)) = some (vI6 u) := ⟨_, (hG1.tr hxn).c7⟩; have u8 : ∃ u, w1.cell? (vAt a.th (x * 10 + 8)) = some (vI6 u) := ⟨_, (hG1.tr hxn).c8⟩; obtain ⟨u7, y7⟩ := u7; obtain ⟨u8, y8⟩ := u8; have zfz := hG1.tfz; have z0 := (HTX.out _ _ _ _ rfl HG2.out).1; rw [HQN.out] at z0; clear hG1 hb1)
     | (go_at_call 90; refine (HC.out _ (by exact HG2.out)).mono ?_; rintro e w3 ⟨rfl, hg⟩; have HG3 := veil hg; have hz := HTX.out _ _ _ _ (by rfl) hg; clear hg))
    obtain ⟨z0', z6, z5, zp, zg⟩ := hz
    clear HT HF HC
    go_region_held3 (fun w' => w'.cell? (vAt a.m 6) = some (vPt a.sb) ∧ w'.cell? (vAt a.th (x * 10 + 5)) = some (vI6 t.sv))
     (first | (have hk := HTX.out _ _ _ _ (by rfl) HG4.out; simp_all) | go_keep)
     (first
      | (go_at_call 91; refine (HCH.out _ (by exact GX.like HG3.out rfl rfl rfl rfl)).mono ?_; rintro e w4 ⟨⟨cc, rfl⟩, hg⟩; have HG4 := veil hg; clear hg))
    rename_i hHeld
    clear hHeld z0 z0' z6 z5 zp zg y7 y8 zfz
    obtain ⟨y0', y6, y5, yp, yg⟩ := HTX.out _ _ _ _ (by rfl) HG4.out
    have hnx := HNX.out
    cases cb with
    | false =>
     have HN : Hid (GX w w w4 lab a P n q T (wkM M (j + 1)) (.slice ad L.length cap) (wkL M (j + 1)) (fun _ => False)) := by
      show GX w w w4 lab a P n q T (wkM M (j + 1)) (.slice ad L.length cap) (wkL M (j + 1)) (fun _ => False)
      rw [hnx.1, hnx.2]
      exact HG4.out
     clear hnx
     go_wp2
     go_roundw
     case rel => exact ⟨j + 1, by omega, by go_num, HN.out⟩
     case measure => simp [RowKit.intOf]; omega
    | true =>
     obtain ⟨ev, hev⟩ : ∃ ev : Ev, (⟨12, (j : Int), t.p, t.g, t.sv, 0⟩ : Ev) = ev := ⟨_, rfl⟩
     rw [hev] at hnx
     have HN2 : Hid (∀ V v1, GX w w V lab a P n q T { cntM (frM N x t.ia tl) j with sv := Cb.chgL N.sv t.sv } v1 (L ++ [ev]) (fun _ => False) → GX w w V lab a P n q T (wkM M (j + 1)) v1 (wkL M (j + 1)) (fun _ => False)) := fun V v1 hV => by
      rw [hnx.1, hnx.2]
      exact hV
     have HN4 : Hid (∀ V v' l', GX w w V lab a P n q T { cntM (frM N x t.ia tl) j with sv := Cb.chgL N.sv t.sv } v' l' (fun _ => False) → V.cell? (vAt a.th (x * 10 + 5)) = some (vI6 t.sv) ∧ V.cell? (vAt a.th (x * 10)) = some (vI6 t.p) ∧ V.cell? (vAt a.th (x * 10 + 1)) = some (vU3 (t.g : Int))) := fun V v' l' hV => (HTX.out V _ v' l' (by rfl) hV).2.2
     generalize { cntM (frM N x t.ia tl) j with sv := Cb.chgL N.sv t.sv } = N4 at *
     clear hnx HNX
     go_upto_region 12 with fail
     have hb1 : vBw w4 (w4.alloc (.cells #[vI6 12, vI6 (j : Int), vI6 t.p, vU3 (t.g : Int), vI6 t.sv, vI6 0] 80)).drew := ((Below.refl _ w4).alloc lzr _).drew
     have h1 := HG4.out.more hb1
     have q5 := kc hb1 y5
     have qp := kc hb1 yp
     have qg := kc hb1 yg
     have HNW : Hid (∀ i u, (evOne ev)[i]? = some u → (w4.alloc (.cells #[vI6 12, vI6 (j : Int), vI6 t.p, vU3 (t.g : Int), vI6 t.sv, vI6 0] 80)).drew.cell? (((vA0 w4.heap.size) : Addr).add i) = some u) := by
      rw [← hev]
      exact Cb.news_of (w1 := w4) (c := evOne ⟨12, (j : Int), t.p, t.g, t.sv, 0⟩) rfl
     generalize hW1 : (w4.alloc (.cells #[vI6 12, vI6 (j : Int), vI6 t.p, vU3 (t.g : Int), vI6 t.sv, vI6 0] 80)).drew = W1 at *
     have HW1 := veil hW1
     have HOW := veil h1.ev
     have HBS := veil h1.wl
     have HEND : Hid (∀ v1 w2, w2.ownsRow w.heap.size 80 6 v1 (L.length + 1) (evCells L ++ evOne ev) → W1.grownBy w2 (Value.slice ad L.length cap).ownBlock → (v1.ownBlock = (Value.slice ad L.length cap).ownBlock ∨ v1.ownBlock = some W1.heap.size) → GX w w w2 lab a P n q T N4 v1 (L ++ [ev]) (fun _ => False)) := fun v1 w2 ho hg hat => h1.told ho hg hat
     clear hW1 hb1 h1 hev
     refine wp_region_held_drew (S := (fun w' => w'.cell? (vAt a.th (x * 10 + 5)) = some (vI6 t.sv) ∧ w'.cell? (vAt a.th (x * 10)) = some (vI6 t.p) ∧ w'.cell? (vAt a.th (x * 10 + 1)) = some (vU3 (t.g : Int)))) (by rfl) ?_ (fun hHeld => ?_)
     ·simp_all
     refine st ?_
     repeat' first
      | refine dn ?_
      | refine tk ?_
      | refine rd ?_
      | exact opZ
      | refine opN ?_
      | refine opS ?_ ?_
      | (refine opY 11 (fun K hK => ?_)
         go_simp
         rw [HW1.out]
         refine hK.out _ _ ?_ (fun hHeld => ?_)
         ·simp_all
         clear hK K
         try simp only [puX])
      | (refine opY 12 (fun K hK => ?_)
         refine step_append_ev _ (by rfl) _ _ _ (by rfl) w.heap.size 80 i0 (.agg #[vI6 0, vI6 0, vI6 0, vU3 0, vI6 0, vI6 0]) 6 48 Tryz.underlying38 hi0 hz0 hz1 hz2 rfl (by omega) (.slice ad L.length cap) L.length (evCells L) (by rfl) HOW.out (vA0 w4.heap.size) 1 1 (evOne ev) (by rfl) rfl HNW.out (evOne_one _) (by unfold maxLen; omega) (by omega) HBS.out ?_
         intro v1 w5 ho1 hg1 hat1
         have hX := HEND.out _ _ ho1 hg1 hat1
         obtain ⟨a1, d1, rfl⟩ := Cb.owns_slice ho1
         have HX2 := veil hX
         clear hX ho1 hg1 hat1
         refine hK.out _ _ ?_ (fun hHeld => ?_)
         ·exact HN4.out _ _ _ HX2.out
         clear hK K
         try simp only [puX])
     refine ⟨?_⟩
     go_wp2
     go_roundw
     case rel => exact ⟨j + 1, by omega, by go_num, HN2.out _ _ HX2.out⟩
     case measure => simp [RowKit.intOf]; omega
  ·have hjP : j = P := by omega
   have hjl' : ¬ (j : Int) < (P : Int) := by omega
   subst hjP
   clear hx
   go_wp2
   go_ret
   exact ⟨_, rfl, HX.out.out⟩
end
section
variable {w W:World} {lab labk:Nat→Nat} {a:Ad} {P n q T T':Nat} {M M':Mc} {sb pr:Nat} {l l':List Ev} {O:Nat→Prop}
noncomputable def slpM (n:Nat) (M:Mc) (x ar:Nat):Mc:={M with wh:=Wh.setS n M.wh (M.th x).p (Cb.addN M.nw ar)}
noncomputable def sleepM (n:Nat) (M:Mc) (pr x ar:Nat):Mc:=setR {slpM n M x ar with S:=moveS n M.G M.S (M.th x).p (M.th x).g 4} pr (-1)
theorem SG.do_sleep (h:SG w W lab a P n q T M sb pr l O) (hl:l.length≤9000) (hp:pr<P) (x:Nat) (hx:x<n) (ar:Nat) (har:ar<9223372036854775808):
  vCa 126 #[vPt sb,.pointer (some (vAt a.th (x*10))),.agg #[vI6 5,vI6 (ar:Int)]] W fun e w'=>e=vRt #[]∧SX w W w' lab a P n q T (sleepM n M pr x ar) sb pr (l++[⟨5,(pr:Int),(M.th x).p,(M.th x).g,5,0⟩]) O:=by
 have hb0:vBw W (W.alloc (.cells #[vI6 5,vI6 (ar:Int)] 83)):=bzA
 have hs0:=h.below hb0
 have h0:=hs0.sx
 have hno: ¬O W.heap.size:=fun q=>by have:=h.lt q;omega
 have HB0:=veil hb0
 have k0:=newc W #[vI6 5,vI6 (ar:Int)] 83 0 _ rfl
 have k1:=newc W #[vI6 5,vI6 (ar:Int)] 83 1 _ rfl
 have HKB:Hid (∀V T' M' l',SX w (W.alloc (.cells #[vI6 5,vI6 (ar:Int)] 83)) V lab a P n q T' M' sb pr l' O→V.cell? (vA0 W.heap.size)=some (vI6 5)∧V.cell? (vAt W.heap.size 1)=some (vI6 (ar:Int))):=fun V T' M' l' hg=>⟨hg.keep hno k0,hg.keep hno k1⟩
 obtain⟨lk0,i0⟩:=h0.i
 have hnw:=i0.nwl
 have HNW:Hid (∀V,SX w (W.alloc (.cells #[vI6 5,vI6 (ar:Int)] 83)) V lab a P n q T M sb pr l O→vS 47 #[vPt a.m] V (vU6 (M.nw:Int))):=fun V hV=>by
  obtain⟨lk,i⟩:=hV.i
  exact i.now
 have HAD:Hid (∀V,vS 46 #[vU6 (M.nw:Int),vU6 (ar:Int)] V (vU6 (Cb.addN M.nw ar:Int))):=fun V=>Cb.add_ok M.nw ar V hnw (by omega)
 have HSL:Hid (∀V,SX w (W.alloc (.cells #[vI6 5,vI6 (ar:Int)] 83)) V lab a P n q T M sb pr l O→vCa 169 #[vPt a.wb,vI6 (M.th x).p,vU6 (Cb.addN M.nw ar:Int)] V fun e w'=>(∃c:Int,e= .returned (vI6 c))∧SX w (W.alloc (.cells #[vI6 5,vI6 (ar:Int)] 83)) w' lab a P n q T (slpM n M x ar) sb pr l O):=fun V hV=>hV.lift (R:=fun e=> ∃c:Int,e= .returned (vI6 c)) (fun _ i=>i.sleep (M.th x).p (Cb.addN M.nw ar) (Cb.addN_lt _ _))
 have HC:Hid (∀V T' M' l',M'.th x=M.th x→SX w (W.alloc (.cells #[vI6 5,vI6 (ar:Int)] 83)) V lab a P n q T' M' sb pr l' O→V.cell? (vA0 sb)=some (vPt a.m)∧V.cell? (vAt a.m 9)=some (vPt a.wb)∧V.cell? (vAt a.th (x*10))=some (vI6 (M.th x).p)∧V.cell? (vAt W.heap.size 1)=some (vI6 (ar:Int))):=fun V T' M' l' e hV=>⟨hV.c0,hV.core.c9,by rw[←e];exact(hV.tr hx).c0,(HKB.out V _ _ _ hV).2⟩
 obtain⟨g0,g9,gp,_⟩:=HC.out _ _ _ _ rfl h0
 have H0:=veil h0
 have HR:Hid (∀V,SX w (W.alloc (.cells #[vI6 5,vI6 (ar:Int)] 83)) V lab a P n q T (slpM n M x ar) sb pr l O→vCa 166 #[vPt sb,.pointer (some (vAt a.th (x*10))),.agg #[vI6 5,vI6 (ar:Int)],vI6 0] V fun e w'=>e=vRt #[]∧SX w (W.alloc (.cells #[vI6 5,vI6 (ar:Int)] 83)) w' lab a P n q T (slpM n M x ar) sb pr (l++[⟨5,(pr:Int),(M.th x).p,(M.th x).g,5,0⟩]) O):=fun V hV=>hV.ran_ok (by omega) x hx 5 (ar:Int)
 have HLV:Hid (∀V,SX w (W.alloc (.cells #[vI6 5,vI6 (ar:Int)] 83)) V lab a P n q T (slpM n M x ar) sb pr (l++[⟨5,(pr:Int),(M.th x).p,(M.th x).g,5,0⟩]) O→vCa 170 #[vPt sb,.pointer (some (vAt a.th (x*10))),vI6 4] V fun e w'=>e=vRt #[]∧SX w (W.alloc (.cells #[vI6 5,vI6 (ar:Int)] 83)) w' lab a P n q T (sleepM n M pr x ar) sb pr (l++[⟨5,(pr:Int),(M.th x).p,(M.th x).g,5,0⟩]) O):=fun V hV=>hV.leave hp x hx 4
 have HC2:=veil (fun V l' hV=>HC.out V T (slpM n M x ar) l' rfl hV)
 have hwr:IntKind.u64.wrap (ar:Int)=(ar:Int):=by rw[IntKind.wrap_u64];omega
 clear h hs0 h0 hb0 hno HC i0
 generalize (M.th x).p=tp at*
 generalize (M.th x).g=tg at*
 generalize sleepM n M pr x ar=SM at*
 generalize slpM n M x ar=SL at*
 generalize Cb.addN M.nw ar=at_ at*
 generalize M.nw=nw at*
 refine ge ?_
 go_wp2
 go_region_held3 (fun w'=>w'.cell? (vA0 sb)=some (vPt a.m)∧w'.cell? (vAt a.m 9)=some (vPt a.wb)∧w'.cell? (vAt a.th (x*10))=some (vI6 tp)∧w'.cell? (vAt W.heap.size 1)=some (vI6 (ar:Int)))
  (first|exact HC2.out _ _ HG.out|go_keep)
  (first
   |(go_at_call 169;refine(HSL.out _ (by exact SX.like H0.out rfl rfl rfl rfl)).mono ?_;rintro e w1 ⟨⟨cc,rfl⟩,hg⟩;have HG:=veil hg;have kb:=HKB.out _ _ _ _ hg;have kb0:=kb.1;have kb1:=kb.2;clear hg kb)
   |(go_at_call 46;refine(HAD.out _).mono ?_;rintro e w3 ⟨rfl,hw⟩;subst hw)
   |(go_at_call 47;refine(HNW.out _ (by exact SX.like H0.out rfl rfl rfl rfl)).mono ?_;rintro e w3 ⟨rfl,hw⟩;subst hw))
 go_wp2_with (first
  |(go_at_call 166;refine cH (HR.out _ (by exact SX.like HG.out rfl rfl rfl rfl)) fun w2 HG2=> ?_)
  |(go_at_call 170;refine cH (HLV.out _ (by exact HG2.out)) fun w3 HG3=> ?_))
 go_end0
 exact⟨rfl,HG3.out.ahead HB0.out⟩
end
noncomputable def wok1 (P n q:Nat) (s:Mc×List Ev) (x:Nat):Mc×List Ev:=
 (ready P n q s.1 x (s.1.th x).pc,s.2++[⟨11,(s.1.th x).pc,(s.1.th x).p,(s.1.th x).g,0,0⟩])
noncomputable def tickA (M:Mc):Mc:={M with nw:=max (Cb.addN M.nw 1) M.nw,wh:=Wh.late (max (Cb.addN M.nw 1) M.nw) M.wh}
noncomputable def tickD (M:Mc):List Nat:=(Wh.due (max (Cb.addN M.nw 1) M.nw) M.wh).map (·.i)
noncomputable def tickR (M:Mc):Mc:={M with sv:=M.sv.map (Cb.refS M.nw)}
noncomputable def tickF (M:Mc):List Nat:=Cb.dueN M.sv M.nw M.sv.length
def refE (i:Nat):Ev:=⟨13,0,0,0,(i:Int),0⟩
noncomputable def tickW (P n q:Nat) (M:Mc):Mc×List Ev:=
 (tickD M).foldl (wok1 P n q) (tickR (wkM (tickA M) P),wkL (tickA M) P++(tickF (wkM (tickA M) P)).map refE)
noncomputable def tickM (P n q:Nat) (M:Mc):Mc:=settle (tickW P n q M).1 n
noncomputable def tickL_ (P n q:Nat) (M:Mc):List Ev:=(tickW P n q M).2++[⟨14,0,0,0,0,0⟩]
section
variable {w:World} {lab:Nat→Nat} {a:Ad} {P n q T:Nat} {M:Mc}
theorem buildEv1 (k i:Int) (w:World):(Instr.build 80 #[(0,vI6 k),(3,vI6 i)]).run Tryz.prog w= .ok (.agg #[vI6 k,vI6 0,vI6 0,vU3 0,vI6 i,vI6 0]) w:=run_build w 80 _ _ (by rfl)
theorem buildEv2 (k p x g:Int) (w:World):(Instr.build 80 #[(0,vI6 k),(1,vI6 p),(2,.agg #[vI6 x,vU3 g])]).run Tryz.prog w= .ok (.agg #[vI6 k,vI6 p,vI6 x,vU3 g,vI6 0,vI6 0]) w:=run_build w 80 _ _ (by rfl)
theorem buildEv3 (k:Int) (w:World):(Instr.build 80 #[(0,vI6 k)]).run Tryz.prog w= .ok (.agg #[vI6 k,vI6 0,vI6 0,vU3 0,vI6 0,vI6 0]) w:=run_build w 80 _ _ (by rfl)
end
section
variable {w:World} {lab:Nat→Nat} {a:Ad} {P n q T:Nat} {M:Mc}
def Ro (W:World) (ad:Option Addr) (xs:List Nat) (K:Nat→Prop):Prop:= ∀(j x:Nat),xs[j]? =some x→ ∃rb,ad=some (vA0 rb)∧K rb∧W.cell? (vAt rb j)=some (vI6 (x:Int))
theorem Ro.of {W:World} {base:Nat} {v:Value} {xs:List Nat} {ys:List Value} {m:Nat} (h:W.ownsRow base 3 1 v m ys) (hm:m=xs.length) (hy: ∀(j x:Nat),xs[j]? =some x→ys[j]? =some (vI6 (x:Int))): ∃ad cap,v= .slice ad xs.length cap∧Ro W ad xs (fun k=>v.ownBlock=some k):=by
 subst hm
 rcases h with ⟨hl,⟨hv,hz⟩|⟨g,cap,cells,hv,h3,h4,h5⟩⟩
 ·refine⟨none,0,by grind,fun j x hx=> ?_⟩
  grind
 ·refine⟨some (vA0 g),cap,hv,fun j x hx=>⟨g,rfl,by rw[hv];rfl,?_⟩⟩
  have hu:=hy j x hx
  rw[←h5.2.2.2,List.getElem?_take] at hu
  split at hu
  ·simp only[World.cell?,h4]
   grind
  grind
theorem Ro.at {w W0 wr:World} {v:Value} {l:List Ev} {K:Nat→Prop} {ad:Option Addr} {xs:List Nat} (h:Ro W0 ad xs K) {T':Nat} {M':Mc} (g:GX w W0 wr lab a P n q T' M' v l K):Ro wr ad xs K:=fun j x hx=>by
 obtain⟨rb,e,hk,hc⟩:=h j x hx
 obtain⟨labk,A,hv,hk',hK⟩:=g
 exact⟨rb,e,hk,(World.cell?_of_block (hK rb hk).2.2).trans hc⟩
theorem fold_takeN {β:Type} (f:β→Nat→β) (b:β) {l:List Nat} {j:Nat} {x:Nat} (h:l[j]? =some x):(l.take (j+1)).foldl f b=f ((l.take j).foldl f b) x:=by
 rw[List.take_add_one,h,List.foldl_append];rfl
theorem wok_len (P n q:Nat): ∀(l:List Nat) (s:Mc×List Ev),(l.foldl (wok1 P n q) s).2.length=s.2.length+l.length
 |[],s=>rfl
 |x::l,s=>by
  rw[List.foldl_cons,wok_len P n q l]
  simp[wok1]
  omega
theorem IsMc.tick_of (h:IsMc w lab a P n q T M) (hn:n≤12) (hav: ∀V labk,IsMc V labk a P n q T M→vCa 45 #[vPt a.wb,vU6 (Cb.addN M.nw 1:Int)] V fun e w'=> ∃v,e= .returned v∧w'.ownsRow V.heap.size 3 1 v (Wh.due (max (Cb.addN M.nw 1) M.nw) M.wh).length (Wh.iv (Wh.spots (Wh.due (max (Cb.addN M.nw 1) M.nw) M.wh)))∧GoesV V w' labk a P n q T (tickA M) v) (hr:Rok P n M) (hT:T+(n+1)*n+n≤1000000000):
  vCa 17 #[vPt a.m] w fun e w'=> ∃v,e= .returned v∧EvL w' w.heap.size v (tickL_ P n q M)∧GoesV w w' lab a P n q (T+(n+1)*n+n) (tickM P n q M) v:=by
 have hg0:=GX.start h
 have c9:=h.co.c9
 have hP:=h.hP
 have hnw:=h.nwl
 have hadd:=Cb.addN_lt M.nw 1
 have hwf:=h.wh.facts
 have HNW:Hid (∀V,V.heap=w.heap→V.os=w.os→V.tape=w.tape→V.output=w.output→vS 47 #[vPt a.m] V (vU6 (M.nw:Int))):=fun V e1 e2 e3 e4=>(h.below (below_post bzR e1 e2 e3 e4)).now
 have HAD:Hid (∀V,vS 46 #[vU6 (M.nw:Int),vU6 1] V (vU6 (Cb.addN M.nw 1:Int))):=fun V=>Cb.add_ok M.nw 1 V hnw (by decide)
 have HAV:Hid (∀V,V.heap=w.heap→V.os=w.os→V.tape=w.tape→V.output=w.output→vCa 45 #[vPt a.wb,vU6 (Cb.addN M.nw 1:Int)] V fun e w'=> ∃ad cap,e= .returned (.slice ad (tickD M).length cap)∧ ∃K,Ro w' ad (tickD M) K∧GX w w' w' lab a P n q T (tickA M) (.slice none 0 0) [] K):=fun V e1 e2 e3 e4=>by
  have hV:GX w w V lab a P n q T M (.slice none 0 0) [] (fun _=>False):=hg0.like e1 e2 e3 e4
  refine(hV.callV (T':=T) (M':=tickA M) (R:=fun e u w'=>e= .returned u∧w'.ownsRow V.heap.size 3 1 u (Wh.due (max (Cb.addN M.nw 1) M.nw) M.wh).length (Wh.iv (Wh.spots (Wh.due (max (Cb.addN M.nw 1) M.nw) M.wh)))) (fun labk i=>(hav V labk i).mono (fun e w' ⟨u,he,ho,hg⟩=>⟨u,⟨he,ho⟩,fun k hk=>⟨(ownsRow_blk ho hk).1,(ownsRow_blk ho hk).2.1⟩,hg⟩))).mono ?_
  rintro e w' ⟨u,⟨rfl,ho⟩,hg,_⟩
  obtain⟨ad,cap,rfl,hro⟩:=Ro.of (xs:=tickD M) ho (by unfold tickD;simp) (fun j x hx=>by
   unfold tickD at hx
   rw[List.getElem?_map] at hx
   unfold Wh.iv Wh.spots
   rw[List.getElem?_map,List.getElem?_map]
   grind)
  grind
 have hDlt: ∀x∈tickD M,x<n:=fun x hx=>by
  unfold tickD Wh.due at hx
  grind
 have hDlen:(tickD M).length≤n:=by
  unfold tickD Wh.due
  grind
 have hrA:Rok P n (tickA M):=⟨hr.r,hr.s⟩
 obtain⟨i0,hi0,hz0,hz1,hz2⟩:=Cb.info_parts infoEv
 clear h hg0 hwf hnw hadd
 have HWK:Hid (∀W1 V K,GX w W1 V lab a P n q T (tickA M) (.slice none 0 0) [] K→vCa 48 #[vPt a.m] V fun e w'=> ∃u,e= .returned u∧GX w W1 w' lab a P n q T (wkM (tickA M) P) u (wkL (tickA M) P) K):=fun W1 V K hV=>hV.callE (R:=fun e u=>e= .returned u) (fun _ i=>i.work hrA)
 have HNW2:Hid (∀W1 V K u l,GX w W1 V lab a P n q T (wkM (tickA M) P) u l K→vS 47 #[vPt a.m] V (vU6 ((wkM (tickA M) P).nw:Int))):=fun W1 V K u l hV=>by
  obtain⟨lk,i⟩:=hV.i
  exact i.now
 have hlw:=wkL_len (tickA M) P
 have HRF:Hid (∀W1 V K u l ad D,Ro W1 ad D K→GX w W1 V lab a P n q T (wkM (tickA M) P) u l K→vCa 49 #[vPt a.sb,vU6 ((wkM (tickA M) P).nw:Int)] V fun e w'=> ∃ad2 cap2,e= .returned (.slice ad2 (tickF (wkM (tickA M) P)).length cap2)∧ ∃K2,Ro w' ad2 (tickF (wkM (tickA M) P)) K2∧Ro w' ad D K2∧GX w w' w' lab a P n q T (tickR (wkM (tickA M) P)) u l K2):=fun W1 V K u l ad D hD hV=>by
  obtain⟨lk,i⟩:=hV.i
  have hnl:=i.nwl
  refine(hV.callV (T':=T) (M':=tickR (wkM (tickA M) P)) (R:=fun e u w'=>e= .returned u∧w'.ownsRow V.heap.size 3 1 u (tickF (wkM (tickA M) P)).length (Cb.intsN (tickF (wkM (tickA M) P)))) (fun labk i=>(i.refill (wkM (tickA M) P).nw hnl).mono (fun e w' ⟨u,he,ho,hg⟩=>⟨u,⟨he,ho⟩,fun k hk=>⟨(ownsRow_blk ho hk).1,(ownsRow_blk ho hk).2.1⟩,hg⟩))).mono ?_
  rintro e w' ⟨u2,⟨rfl,ho⟩,hg,hkk⟩
  obtain⟨ad2,cap2,rfl,hro⟩:=Ro.of (xs:=tickF (wkM (tickA M) P)) ho rfl (fun j x hx=>by unfold Cb.intsN;grind)
  refine⟨ad2,cap2,rfl,_,fun j x hx=> ?_,fun j x hx=> ?_,hg⟩
  ·obtain⟨rb,e,hk,hc⟩:=hro j x hx
   grind
  ·obtain⟨rb,e,hk,hc⟩:=hD j x hx
   exact⟨rb,e,.inl hk,(World.cell?_of_block (hkk rb hk)).trans hc⟩
 have hFlen:(tickF (wkM (tickA M) P)).length≤(wkM (tickA M) P).sv.length:=Cb.dueN_len _ _ _
 have HFL:Hid (∀W1 V K u l M',GX w W1 V lab a P n q T M' u l K→M'.sv.length≤32):=fun W1 V K u l M' hV=>by
  obtain⟨lk,i⟩:=hV.i
  obtain⟨b,v,hp,_⟩:=i.sv
  exact hp.f.len
 obtain⟨SW,hSW⟩: ∃SW,tickW P n q M=SW:=⟨_,rfl⟩
 have HSW:=veil hSW
 unfold tickW at hSW
 have HTM:Hid (tickM P n q M=Go.Proofs.YtnmhcgpnhlhcgaaGreatDoor.settle SW.1 n∧tickL_ P n q M=SW.2++[⟨14,0,0,0,0,0⟩]):=by
  unfold Hid tickM tickL_
  rw[HSW.out]
  simp
 rw[HTM.out.1,HTM.out.2]
 clear HSW HTM hrA hr
 have H9:Hid (∀W1 V K u l M',GX w W1 V lab a P n q T M' u l K→V.cell? (vAt a.m 9)=some (vPt a.wb)∧V.cell? (vAt a.m 6)=some (vPt a.sb)):=fun W1 V K u l M' hV=>⟨hV.core.c9,hV.core.c6⟩
 generalize tickA M=MA at*
 generalize wkL MA P=LW at*
 generalize wkM MA P=MW at*
 generalize tickF MW=F at*
 generalize tickD M=D at*
 generalize tickR MW=M3 at*
 generalize Cb.addN M.nw 1=nw1 at*
 generalize M.nw=nw0 at*
 generalize MW.nw=nw2 at*
 refine ge ?_
 go_wp2
 go_region_held3 (fun w'=>w'.cell? (vAt a.m 9)=some (vPt a.wb))
  (first|exact(H9.out _ _ _ _ _ _ HG1.out).1|go_keep)
  (first
   |(go_at_call 45;refine(HAV.out w.drew rfl rfl rfl rfl).mono ?_;rintro e w1 ⟨ad,cap,rfl,K,hro,hg⟩;have HG1:=veil hg;have HRO:=veil hro;clear hg hro)
   |(go_at_call 46;refine(HAD.out _).mono ?_;rintro e w3 ⟨rfl,hw⟩;subst hw)
   |(go_at_call 47;refine(HNW.out w.drew rfl rfl rfl rfl).mono ?_;rintro e w3 ⟨rfl,hw⟩;subst hw))
 rename_i hHeld
 clear hHeld HAV HAD HNW c9
 go_wp2_with (go_at_call 48;refine(HWK.out _ _ _ (by exact GX.like HG1.out rfl rfl rfl rfl)).mono ?_;rintro e w2 ⟨tv,rfl,hg⟩;have HG2:=veil hg;have d6:=(H9.out _ _ _ _ _ _ hg).2;have hF32:=HFL.out _ _ _ _ _ _ hg;clear hg)
 clear HWK
 go_region_held3 (fun w'=>w'.cell? (vAt a.m 6)=some (vPt a.sb))
  (first|exact(H9.out _ _ _ _ _ _ HG3.out).2|go_keep)
  (first
   |(go_at_call 49;refine(HRF.out _ _ _ _ _ _ _ HRO.out (by exact GX.like HG2.out rfl rfl rfl rfl)).mono ?_;rintro e w3 ⟨ad2,cap2,rfl,K2,hro2,hro3,hg⟩;have HG3:=veil hg;have HRF2:=veil hro2;have HRD2:=veil hro3;clear hg hro2 hro3)
   |(go_at_call 47;refine cS (HNW2.out _ _ _ _ _ (by exact GX.like HG2.out rfl rfl rfl rfl)) ?_))
 rename_i hHeld
 clear hHeld HRF HNW2 HRO HG1 HG2 d6 HFL H9
 go_wp2
 go_loopw [4,30] (fun tv iv wr=> ∃(j:Nat),j≤F.length∧iv=vI6 j∧GX w w3 wr lab a P n q T M3 tv (LW++(F.take j).map refE) K2) (fun _ iv _=>F.length-(RowKit.intOf iv).toNat)
 case atStart=>exact⟨0,by omega,rfl,by rw[List.take_zero,List.map_nil,List.append_nil];exact HG3.out⟩
 case round=>
  obtain⟨j,hj,rfl,hx⟩:=hrel
  clear HG3
  by_cases hjl:j<F.length
  ·have hjl':(j:Int)<(F.length:Int):=by omega
   obtain⟨x,hxx⟩: ∃x,F[j]? =some x:=⟨F[j],List.getElem?_eq_getElem hjl⟩
   obtain⟨rb,rfl,hrk,hrc⟩:=HRF2.out.at hx j x hxx
   have hlst:LW++(F.take (j+1)).map refE=LW++(F.take j).map refE++[refE x]:=by rw[List.take_add_one,hxx];simp
   rw[List.append_assoc] at hlst
   have HLST:Hid (LW++(F.take (j+1)).map refE=(LW++(F.take j).map refE)++[refE x]):=by unfold Hid;grind
   have hll:(LW++(F.take j).map refE).length≤100:=by grind
   generalize LW++(F.take j).map refE=LJ at*
   obtain⟨at_,ct_,rfl⟩:=Cb.owns_slice hx.ev
   have HGA:=veil (hx.more (balloc bzR (.cells #[vI6 13,vI6 0,vI6 0,vU3 0,vI6 (x:Int),vI6 0] 80)))
   have hbt:=buildEv1 13
   clear hx hlst
   go_wp2_with (at_builtin;refine wpList_append_own_at _ rfl _ _ 38 rfl w.heap.size 80 i0 (.agg #[vI6 0,vI6 0,vI6 0,vU3 0,vI6 0,vI6 0]) 6 48 Tryz.underlying38 hi0 hz0 hz1 hz2 rfl (by decide) _ _ _ rfl HGA.out.ev (vA0 wr.heap.size) 1 1 (evOne (refE x)) rfl rfl (Cb.news_of (w1:=wr) (c:=evOne (refE x)) rfl) (evOne_one _) (by unfold maxLen;omega) (by omega) HGA.out.wl ?_;intro v1 w8 ho1 hg1 _ hat1;obtain⟨a1,d1,rfl⟩:=Cb.owns_slice ho1;have HGT:=veil (HGA.out.told (ev:=(refE x)) ho1 hg1 hat1);clear ho1 hg1 hat1)
   go_roundw
   case rel=>exact⟨j+1,by omega,by go_num,by rw[HLST.out];exact HGT.out⟩
   case measure=>simp[RowKit.intOf];omega
  ·have hjl': ¬(j:Int)<(F.length:Int):=by omega
   rw[List.take_of_length_le (by omega:F.length≤j)] at hx
   have hl0:(LW++F.map refE).length≤100:=by grind
   generalize LW++F.map refE=L0 at*
   have HX:=veil hx
   obtain⟨at_,ct_,rfl⟩:=Cb.owns_slice hx.ev
   have HWL:=veil (fun l:List Nat=>wok_len P n q l (M3,L0))
   clear hx
   go_wp2
   go_loopw [4,42] (fun tv iv wr=> ∃(j:Nat),j≤D.length∧iv=vI6 j∧GX w w3 wr lab a P n q (T+(n+1)*j) ((D.take j).foldl (wok1 P n q) (M3,L0)).1 tv ((D.take j).foldl (wok1 P n q) (M3,L0)).2 K2) (fun _ iv _=>D.length-(RowKit.intOf iv).toNat)
   case atStart=>exact⟨0,by omega,rfl,HX.out⟩
   case round=>
    obtain⟨j,hj,rfl,hx⟩:=hrel
    clear HX
    have hwl:=HWL.out (D.take j)
    rw[List.length_take] at hwl
    by_cases hjl2:j<D.length
    ·have hjl2':(j:Int)<(D.length:Int):=by omega
     obtain⟨x,hxx⟩: ∃x,D[j]? =some x:=⟨D[j],List.getElem?_eq_getElem hjl2⟩
     obtain⟨rb,rfl,hrk,hrc⟩:=HRD2.out.at hx j x hxx
     have hxn:=hDlt x (List.mem_of_getElem? hxx)
     have HNX:Hid ((D.take (j+1)).foldl (wok1 P n q) (M3,L0)=wok1 P n q ((D.take j).foldl (wok1 P n q) (M3,L0)) x):=fold_takeN _ _ hxx
     generalize (D.take j).foldl (wok1 P n q) (M3,L0)=S at*
     obtain⟨N,LJ⟩:=S
     dsimp only at hx hwl
     have hll:LJ.length≤200:=by omega
     obtain⟨t,ht⟩: ∃t,N.th x=t:=⟨_,rfl⟩
     have hTj:T+(n+1)*j+n≤1000000000:=by have:=Nat.mul_le_mul_left (n+1) (show j≤n by omega);omega
     have HTJ:Hid (T+(n+1)*(j+1)=T+(n+1)*j+n+1):=by unfold Hid;grind
     generalize T+(n+1)*j=TJ at*
     obtain⟨t0,t1,t2,t3,t4,t5,t6,t7,t8,t9⟩:=hx.tr hxn
     rw[ht] at t0 t1 t2 t3 t4 t5 t6 t7 t8 t9
     have d4:=hx.core.c4
     have hxl':(x:Int)<(n:Int):=by omega
     obtain⟨at_,ct_,rfl⟩:=Cb.owns_slice hx.ev
     have HWK1:Hid (wok1 P n q (N,LJ) x=(Go.Proofs.YtnmhcgpnhlhcgaaGreatDoor.ready P n q N x t.pc,LJ++[⟨11,t.pc,t.p,t.g,0,0⟩])):=by unfold Hid wok1;grind
     have hgB:=hx.more (balloc bzR (.cells #[.int .i64 t.p,.int .u32 (t.g:Int),.int .i64 t.pg,.int .u8 (t.lv:Int),.int .u8 (t.lf:Int),.int .i64 t.sv,.int .i64 t.pc,.int .i64 t.ia,.int .i64 t.il,.int .u64 (t.sn:Int)] 130))
     have htb:=TrAt.new wr t
     have hown: ∀k,(Value.slice at_ LJ.length ct_).ownBlock=some k→k<wr.heap.size:=fun k hk=>(hx.ev.lt hk).1
     have HOWN:=veil hown
     have HRDY:Hid (∀V v' l',GX w w3 V lab a P n q TJ N v' l' K2→vCa 50 #[vPt a.m,vI6 (x:Int),vI6 t.pc] V fun e w'=>e=vRt #[]∧GX w w3 w' lab a P n q (TJ+n+1) (Go.Proofs.YtnmhcgpnhlhcgaaGreatDoor.ready P n q N x t.pc) v' l' K2):=fun V v' l' hV=>hV.call (R:=fun e=>e=vRt #[]) (fun _ i=>i.goes.ready hTj x hxn t.pc)
     clear hx hwl hown
     go_upto_region 14 with fail
     have hlt:wr.heap.size<(wr.alloc (.cells #[.int .i64 t.p,.int .u32 (t.g:Int),.int .i64 t.pg,.int .u8 (t.lv:Int),.int .u8 (t.lf:Int),.int .i64 t.sv,.int .i64 t.pc,.int .i64 t.ia,.int .i64 t.il,.int .u64 (t.sn:Int)] 130)).heap.size:=by simp
     generalize hB1:wr.alloc (.cells #[.int .i64 t.p,.int .u32 (t.g:Int),.int .i64 t.pg,.int .u8 (t.lv:Int),.int .u8 (t.lf:Int),.int .i64 t.sv,.int .i64 t.pc,.int .i64 t.ia,.int .i64 t.il,.int .u64 (t.sn:Int)] 130)=B1 at*
     obtain⟨ib,hib⟩: ∃ib,wr.heap.size=ib:=⟨_,rfl⟩
     rw[hib] at htb hlt HOWN⊢
     obtain⟨k0,k1,k2,k3,k4,k5,k6,k7,k8,k9⟩:=htb
     have HGA:=veil (hgB.more (balloc bzR (.cells #[vI6 11,vI6 t.pc,vI6 t.p,vU3 (t.g:Int),vI6 0,vI6 0] 80)))
     have k6':(B1.alloc (.cells #[vI6 11,vI6 t.pc,vI6 t.p,vU3 (t.g:Int),vI6 0,vI6 0] 80)).cell? (vAt ib (0+6))=some (vI6 t.pc):=kc (balloc bzR _) k6
     have HK6:Hid (∀V,(B1.alloc (.cells #[vI6 11,vI6 t.pc,vI6 t.p,vU3 (t.g:Int),vI6 0,vI6 0] 80)).grownBy V (Value.slice at_ LJ.length ct_).ownBlock→V.cell? (vAt ib (0+6))=some (vI6 t.pc)):=fun V hV=>(World.cell?_of_block (hV.block ib (by simp;omega) (fun e=>by have:=HOWN.out ib e.symm;omega))).trans k6'
     have hbt:=buildEv2 11
     clear hgB hB1 hib k6' hlt t0 t1 t2 t3 t4 t5 t6 t7 t8 t9 d4
     go_wp2_with (first
      |(at_builtin;refine wpList_append_own_at _ rfl _ _ 38 rfl w.heap.size 80 i0 (.agg #[vI6 0,vI6 0,vI6 0,vU3 0,vI6 0,vI6 0]) 6 48 Tryz.underlying38 hi0 hz0 hz1 hz2 rfl (by decide) _ _ _ rfl HGA.out.ev (vA0 B1.heap.size) 1 1 (evOne ⟨11,t.pc,t.p,t.g,0,0⟩) rfl rfl (Cb.news_of (w1:=B1) (c:=evOne ⟨11,t.pc,t.p,t.g,0,0⟩) rfl) (evOne_one _) (by unfold maxLen;omega) (by omega) HGA.out.wl ?_;intro v1 w8 ho1 hg1 _ hat1;obtain⟨a1,d1,rfl⟩:=Cb.owns_slice ho1;have HGT:=veil (HGA.out.told (ev:=⟨11,t.pc,t.p,t.g,0,0⟩) ho1 hg1 hat1);have y6:=HK6.out _ hg1;clear ho1 hg1 hat1)
      |(go_at_call 50;refine cH (HRDY.out _ _ _ HGT.out) fun w9 HG9=> ?_))
     go_roundw
     case rel=>exact⟨j+1,by omega,by go_num,by rw[HNX.out,HTJ.out,HWK1.out];exact HG9.out⟩
     case measure=>simp[RowKit.intOf];omega
    ·have hjl2': ¬(j:Int)<(D.length:Int):=by omega
     rw[List.take_of_length_le (by omega:D.length≤j),hSW] at hx
     have hll:SW.2.length≤200:=by grind
     have hTj:T+(n+1)*j≤T+(n+1)*n:=by have:=Nat.mul_le_mul_left (n+1) (show j≤n by omega);omega
     have hx':=hx.moreT hTj
     obtain⟨at_,ct_,rfl⟩:=Cb.owns_slice hx'.ev
     have HST:=veil (hx'.call (R:=fun e=>e=vRt #[]) (fun _ i=>i.goes.settle hT))
     clear hx hx' hwl hTj
     go_upto_region 18 with (go_at_call 42;refine cH HST.out fun w9 HG9=> ?_)
     have HGA:=veil (HG9.out.more (balloc bzR (.cells #[vI6 14,vI6 0,vI6 0,vU3 0,vI6 0,vI6 0] 80)))
     have hbt:=buildEv3 14
     go_wp2_with (at_builtin;refine wpList_append_own_at _ rfl _ _ 38 rfl w.heap.size 80 i0 (.agg #[vI6 0,vI6 0,vI6 0,vU3 0,vI6 0,vI6 0]) 6 48 Tryz.underlying38 hi0 hz0 hz1 hz2 rfl (by decide) _ _ _ rfl HGA.out.ev (vA0 w9.heap.size) 1 1 (evOne ⟨14,0,0,0,0,0⟩) rfl rfl (Cb.news_of (w1:=w9) (c:=evOne ⟨14,0,0,0,0,0⟩) rfl) (evOne_one _) (by unfold maxLen;omega) (by omega) HGA.out.wl ?_;intro v1 w8 ho1 hg1 _ hat1;obtain⟨a1,d1,rfl⟩:=Cb.owns_slice ho1;have HGT:=veil (HGA.out.told (ev:=⟨14,0,0,0,0,0⟩) ho1 hg1 hat1);clear ho1 hg1 hat1)
     go_ret
     exact⟨_,rfl,HGT.out.out⟩
theorem IsMc.tick (h:IsMc w lab a P n q T M) (hn:n≤12) (hr:Rok P n M) (hT:T+(n+1)*n+n≤1000000000):
  vCa 17 #[vPt a.m] w fun e w'=> ∃v,e= .returned v∧EvL w' w.heap.size v (tickL_ P n q M)∧GoesV w w' lab a P n q (T+(n+1)*n+n) (tickM P n q M) v:=
 h.tick_of hn (fun V labk i=>i.advance hn (Cb.addN M.nw 1) (Cb.addN_lt M.nw 1)) hr hT
end
noncomputable def tRow (M:Mc) (n x:Nat):List Value:=[vI6 (x:Int),vU3 (M.G x:Int),vI6 (stOf M n (M.th x):Int),.bool (Pi.keyA M.gr.T M.gr.L (x:Int)).e,vU6 (Pi.keyA M.gr.T M.gr.L (x:Int)).d,vU8 (Pi.keyA M.gr.T M.gr.L (x:Int)).l,vU8 ((M.th x).lv:Int),vI6 (M.th x).sv,vI6 (M.th x).pc,vI6 (M.th x).ia,vI6 (M.th x).il]
noncomputable def tRows (M:Mc) (n:Nat) (l:List Nat):List Value:=l.flatMap (tRow M n)
theorem tRows_snoc (M:Mc) (n:Nat) (l:List Nat) (x:Nat):tRows M n (l++[x])=tRows M n l++tRow M n x:=by unfold tRows;simp
theorem tRow_one (M:Mc) (n x:Nat): ∀u∈tRow M n x,u.oneCell'=true:=by
 intro u hu
 simp[tRow] at hu
 rcases hu with rfl|rfl|rfl|rfl|rfl|rfl|rfl|rfl|rfl|rfl|rfl<;>rfl
theorem infoThr:(Tryz.prog.info? 122).map (fun i=>(i.zero,i.size,i.bytes))=some (some (.agg #[vI6 0,vU3 0,vI6 0,.bool false,vU6 0,vU8 0,vU8 0,vI6 0,vI6 0,vI6 0,vI6 0]),11,88):=by kernel_rfl
theorem buildThr (i g s:Int) (e:Bool) (d l lv sv pc ia il:Int) (w:World):(Instr.build 122 #[(0,.agg #[vI6 i,vU3 g]),(1,vI6 s),(2,.agg #[.bool e,vU6 d,vU8 l]),(3,vU8 lv),(4,vI6 sv),(5,vI6 pc),(6,vI6 ia),(7,vI6 il)]).run Tryz.prog w= .ok (.agg #[vI6 i,vU3 g,vI6 s,.bool e,vU6 d,vU8 l,vU8 lv,vI6 sv,vI6 pc,vI6 ia,vI6 il]) w:=run_build w 122 _ _ (by kernel_rfl)
section
variable {w w':World} {lab:Nat→Nat} {a:Ad} {P n q T:Nat} {M:Mc}
theorem IsMc.threads (h : IsMc w lab a P n q T M) :
  vCa 43 #[vPt a.m] w fun e w' => ∃ v, e = .returned v ∧ w'.ownsRow w.heap.size 122 11 v (liveL M n).length (tRows M n (liveL M n)) ∧ vBw w w' := by
 obtain ⟨i0', hi0, hz0, hz1, hz2⟩ := Cb.info_parts infoThr
 have HLI : Hid (vCa 78 #[vPt a.tb] w fun e w' => ∃ ad cap, e = .returned (.slice ad (liveL M n).length cap) ∧ Lv w' lab ad (liveL M n) M.G ∧ vBw w w') := h.live.mono (fun e w' ⟨v, he, ho, hb⟩ => by
  obtain ⟨ad, cap, rfl, hl⟩ := Lv.of h ho
  exact ⟨ad, cap, he, hl, hb⟩)
 have c5 := h.co.c5
 have HM : Hid (∀ V, vBw w V → IsMc V lab a P n q T M) := fun V hb => h.below hb
 have hLn := liveL_len M n
 have hLt := liveL_lt M n
 have hnn := h.hn
 obtain ⟨L, hL⟩ : ∃ L, liveL M n = L := ⟨_, rfl⟩
 rw [hL] at HLI hLn hLt ⊢
 clear h hL
 have hbt := buildThr
 refine ge ?_
 go_wp2_with (go_at_call 78; refine (HLI.out).mono ?_; rintro e w1 ⟨ad, cap, rfl, hlv, hb1⟩; have HLV := veil hlv; have HB1 := veil hb1; clear hlv hb1)
 go_loopw [3, 15] (fun sv iv wr => ∃ (j : Nat) (ar : Option Addr) (cr : Nat), j ≤ L.length ∧ iv = vI6 j ∧ sv = .slice ar j cr ∧ wr.ownsRow w1.heap.size 122 11 (.slice ar j cr) j (tRows M n (L.take j)) ∧ vBw w1 wr) (fun _ iv _ => L.length - (RowKit.intOf iv).toNat)
 case atStart => exact ⟨0, none, 0, by omega, rfl, rfl, ⟨rfl, .inl ⟨rfl, rfl⟩⟩, bzR⟩
 case round =>
  obtain ⟨j, ar, cr, hj, rfl, rfl, hro, hbw⟩ := hrel
  have HRO := veil hro
  have HBW := veil hbw
  clear hro hbw
  by_cases hjl : j < L.length
  ·have hjl' : (j : Int) < (L.length : Int) := by omega
   obtain ⟨x, hx⟩ : ∃ x, L[j]? = some x := ⟨L[j], List.getElem?_eq_getElem hjl⟩
   obtain ⟨rb, had, hrb, r0, r1⟩ := HLV.out.at_ j x hx
   have hxn := hLt x (List.mem_of_getElem? hx)
   subst had
   replace r0 := kc HBW.out r0
   replace r1 := kc HBW.out r1
   have hB : vBw w1 (wr.alloc (.cells #[vI6 (x : Int), vU3 (M.G x : Int)] 76)) := balloc HBW.out _
   have HMB := veil (HM.out _ (bt HB1.out hB))
   have ib0 : (wr.alloc (.cells #[vI6 (x : Int), vU3 (M.G x : Int)] 76)).cell? (vA0 wr.heap.size) = some (vI6 (x : Int)) := newc _ _ _ 0 _ rfl
   have ib1 : (wr.alloc (.cells #[vI6 (x : Int), vU3 (M.G x : Int)] 76)).cell? (vAt wr.heap.size 1) = some (vU3 (M.G x : Int)) := newc _ _ _ 1 _ rfl
   have hro1 : (wr.alloc (.cells #[vI6 (x : Int), vU3 (M.G x : Int)] 76)).ownsRow w1.heap.size 122 11 (.slice ar j cr) j (tRows M n (L.take j)) := row_keptF HRO.out (fun k hk => Below.heap_alloc _ _ _ (ownsRow_blk HRO.out hk).2.1)
   have HRO1 := veil hro1
   have HB2 := veil hB
   obtain ⟨t, htx⟩ : ∃ t, M.th x = t := ⟨_, rfl⟩
   have c4 := HMB.out.co.c4
   obtain ⟨t0, t1, t2, t3, t4, t5, t6, t7, t8, t9⟩ := HMB.out.th.at_ x hxn
   rw [htx] at t0 t1 t2 t3 t4 t5 t6 t7 t8 t9
   have e1 : ¬ a.th = wr.heap.size := fun e => by have q : a.th < w.heap.size := (HM.out w bzR).lt _ (by rw [(HM.out w bzR).lth]; decide); have := HB1.out.size; have := HBW.out.size; omega
   have HTX := veil htx
   clear hB hro1 htx
   go_upto_region 7 with fail
   generalize hB1w : (wr.alloc (.cells #[vI6 (x : Int), vU3 (M.G x : Int)] 76)) = B1 at *
   clear hB1w
   obtain ⟨ib, hib⟩ : ∃ ib, wr.heap.size = ib := ⟨_, rfl⟩
   rw [hib] at ib0 ib1 ⊢
   have HIB := veil hib
   clear hib e1
   have HLT1 : Hid (ib < B1.heap.size) := World.block_lt_of_cell? B1 _ ib0
   have n1 : ¬ ib = B1.heap.size := by have := World.block_lt_of_cell? B1 _ ib0; exact fun e => by simp at this; omega
   go_region_held3 (fun w' => w'.cell? (vAt a.m 4) = some (.slice (some (vA0 a.th)) n a.xt) ∧ w'.cell? (vA0 ib) = some (vI6 (x : Int)) ∧ w'.cell? (vAt a.th (x * 10)) = some (vI6 t.p) ∧ w'.cell? (vAt a.th (x * 10 + 1)) = some (vU3 (t.g : Int)) ∧ w'.cell? (vAt a.th (x * 10 + 2)) = some (vI6 t.pg) ∧ w'.cell? (vAt a.th (x * 10 + 3)) = some (vU8 (t.lv : Int)) ∧ w'.cell? (vAt a.th (x * 10 + 4)) = some (vU8 (t.lf : Int)) ∧ w'.cell? (vAt a.th (x * 10 + 5)) = some (vI6 t.sv) ∧ w'.cell? (vAt a.th (x * 10 + 6)) = some (vI6 t.pc) ∧ w'.cell? (vAt a.th (x * 10 + 7)) = some (vI6 t.ia) ∧ w'.cell? (vAt a.th (x * 10 + 8)) = some (vI6 t.il) ∧ w'.cell? (vAt a.th (x * 10 + 9)) = some (vU6 (t.sn : Int)))
    (first | exact ⟨kc (balloc (Below.refl B1.heap.size B1) _) c4, kc (balloc (Below.refl B1.heap.size B1) _) ib0, kc (balloc (Below.refl B1.heap.size B1) _) t0, kc (balloc (Below.refl B1.heap.size B1) _) t1, kc (balloc (Below.refl B1.heap.size B1) _) t2, kc (balloc (Below.refl B1.heap.size B1) _) t3, kc (balloc (Below.refl B1.heap.size B1) _) t4, kc (balloc (Below.refl B1.heap.size B1) _) t5, kc (balloc (Below.refl B1.heap.size B1) _) t6, kc (balloc (Below.refl B1.heap.size B1) _) t7, kc (balloc (Below.refl B1.heap.size B1) _) t8, kc (balloc (Below.refl B1.heap.size B1) _) t9⟩ | go_keep)
    (first | fail)
   rename_i hHeld
   clear hHeld
   have hA2 : vBw B1 (B1.alloc (.cells #[.int .i64 t.p, .int .u32 (t.g : Int), .int .i64 t.pg, .int .u8 (t.lv : Int), .int .u8 (t.lf : Int), .int .i64 t.sv, .int .i64 t.pc, .int .i64 t.ia, .int .i64 t.il, .int .u64 (t.sn : Int)] 130)).drew := below_post (balloc (Below.refl B1.heap.size B1) _) rfl rfl rfl rfl
   have htb : TrAt (B1.alloc (.cells #[.int .i64 t.p, .int .u32 (t.g : Int), .int .i64 t.pg, .int .u8 (t.lv : Int), .int .u8 (t.lf : Int), .int .i64 t.sv, .int .i64 t.pc, .int .i64 t.ia, .int .i64 t.il, .int .u64 (t.sn : Int)] 130)).drew B1.heap.size 0 t := (TrAt.new B1 t).kept rfl
   have hro2 : (B1.alloc (.cells #[.int .i64 t.p, .int .u32 (t.g : Int), .int .i64 t.pg, .int .u8 (t.lv : Int), .int .u8 (t.lf : Int), .int .i64 t.sv, .int .i64 t.pc, .int .i64 t.ia, .int .i64 t.il, .int .u64 (t.sn : Int)] 130)).drew.ownsRow w1.heap.size 122 11 (.slice ar j cr) j (tRows M n (L.take j)) := row_keptF HRO1.out (fun k hk => hA2.block k (ownsRow_blk HRO1.out hk).2.1)
   replace ib0 := kc hA2 ib0
   replace ib1 := kc hA2 ib1
   have HB3 := veil (bt HB2.out hA2)
   generalize (B1.alloc (.cells #[.int .i64 t.p, .int .u32 (t.g : Int), .int .i64 t.pg, .int .u8 (t.lv : Int), .int .u8 (t.lf : Int), .int .i64 t.sv, .int .i64 t.pc, .int .i64 t.ia, .int .i64 t.il, .int .u64 (t.sn : Int)] 130)).drew = B2 at *
   obtain ⟨tb, htbb⟩ : ∃ tb, B1.heap.size = tb := ⟨_, rfl⟩
   have HKN : Hid (∀ k, (Value.slice ar j cr).ownBlock = some k → k ≠ ib ∧ k ≠ tb ∧ k ≠ a.m) := fun k hk => by
    have q1 := ownsRow_blk HRO.out hk
    have q2 := HIB.out
    have q3 : a.m < w.heap.size := (HM.out w bzR).lt _ (by rw [(HM.out w bzR).lm]; decide)
    have q4 := HB1.out.size
    have q5 := HLT1.out
    refine ⟨by omega, by omega, by omega⟩
   rw [htbb] at htb ⊢
   have HRO2 := veil hro2
   obtain ⟨k0, k1, k2, k3, k4, k5, k6, k7, k8, k9⟩ := htb
   have hmc := HM.out _ (bt HB1.out HB3.out)
   have c7 := hmc.co.c7
   have tok : t.ok := by rw [← HTX.out]; exact hmc.th.ok x hxn
   clear hA2 hro2 htbb t0 t1 t2 t3 t4 t5 t6 t7 t8 t9 c4 n1 HRO1 HB2 HMB HRO
   have HST : Hid (∀ V, vBw B2 V → vCa 81 #[vPt a.m, .agg #[.int .i64 t.p, .int .u32 (t.g : Int), .int .i64 t.pg, .int .u8 (t.lv : Int), .int .u8 (t.lf : Int), .int .i64 t.sv, .int .i64 t.pc, .int .i64 t.ia, .int .i64 t.il, .int .u64 (t.sn : Int)]] V fun e w' => e = .returned (vI6 (stOf M n t : Int)) ∧ vBw B2 w') := fun V hb => ((hmc.below hb).state t).mono (fun e w' ⟨he, b⟩ => ⟨he, bt hb b⟩)
   have HKY : Hid (∀ V, vBw B2 V → vCa 83 #[vPt a.gb, vI6 (x : Int)] V fun e w' => e = .returned (.agg (vKy (Pi.keyA M.gr.T M.gr.L (x : Int)))) ∧ vBw B2 w') := fun V hb => ((hmc.below hb).key (x : Int)).mono (fun e w' ⟨he, b⟩ => ⟨he, bt hb b⟩)
   have HMC := veil hmc
   have HZ := veil (Below.refl B2.heap.size B2)
   clear hmc
   have HTR : Hid (tRow M n x = [vI6 (x : Int), vU3 (M.G x : Int), vI6 (stOf M n t : Int), .bool (Pi.keyA M.gr.T M.gr.L (x : Int)).e, vU6 (Pi.keyA M.gr.T M.gr.L (x : Int)).d, vU8 (Pi.keyA M.gr.T M.gr.L (x : Int)).l, vU8 (t.lv : Int), vI6 t.sv, vI6 t.pc, vI6 t.ia, vI6 t.il]) := by unfold Hid tRow; rw [HTX.out]
   generalize Pi.keyA M.gr.T M.gr.L (x : Int) = ky at *
   generalize stOf M n t = st at *
   generalize M.G x = gx at *
   go_upto_region 8 with fail
   have HS : Hid (∀ V, vBw B2 V → V.cell? (vA0 ib) = some (vI6 (x : Int)) ∧ V.cell? (vAt ib 1) = some (vU3 (gx : Int)) ∧ V.cell? (vAt a.m 7) = some (vPt a.gb) ∧ V.cell? (vA0 tb) = some (vI6 t.p) ∧ V.cell? (vAt tb 1) = some (vU3 (t.g : Int)) ∧ V.cell? (vAt tb 2) = some (vI6 t.pg) ∧ V.cell? (vAt tb 3) = some (vU8 (t.lv : Int)) ∧ V.cell? (vAt tb 4) = some (vU8 (t.lf : Int)) ∧ V.cell? (vAt tb 5) = some (vI6 t.sv) ∧ V.cell? (vAt tb 6) = some (vI6 t.pc) ∧ V.cell? (vAt tb 7) = some (vI6 t.ia) ∧ V.cell? (vAt tb 8) = some (vI6 t.il) ∧ V.cell? (vAt tb 9) = some (vU6 (t.sn : Int))) := fun V hb => ⟨kc hb ib0, kc hb ib1, kc hb c7, kc hb k0, kc hb k1, kc hb k2, kc hb k3, kc hb k4, kc hb k5, kc hb k6, kc hb k7, kc hb k8, kc hb k9⟩
   have hkn : ∀ k, (Value.slice ar j cr).ownBlock = some k → k ≠ ib ∧ k ≠ tb ∧ k ≠ a.m := HKN.out
   have HSG : Hid (∀ V V', vBw B2 V → V.grownBy V' (Value.slice ar j cr).ownBlock → V'.cell? (vA0 ib) = some (vI6 (x : Int)) ∧ V'.cell? (vAt ib 1) = some (vU3 (gx : Int)) ∧ V'.cell? (vAt a.m 7) = some (vPt a.gb) ∧ V'.cell? (vA0 tb) = some (vI6 t.p) ∧ V'.cell? (vAt tb 1) = some (vU3 (t.g : Int)) ∧ V'.cell? (vAt tb 2) = some (vI6 t.pg) ∧ V'.cell? (vAt tb 3) = some (vU8 (t.lv : Int)) ∧ V'.cell? (vAt tb 4) = some (vU8 (t.lf : Int)) ∧ V'.cell? (vAt tb 5) = some (vI6 t.sv) ∧ V'.cell? (vAt tb 6) = some (vI6 t.pc) ∧ V'.cell? (vAt tb 7) = some (vI6 t.ia) ∧ V'.cell? (vAt tb 8) = some (vI6 t.il) ∧ V'.cell? (vAt tb 9) = some (vU6 (t.sn : Int))) := fun V V' hb hg => by
    obtain ⟨q0, q1, q2, r0, r1, r2, r3, r4, r5, r6, r7, r8, r9⟩ := HS.out V hb
    have bi := hg.block ib (World.block_lt_of_cell? V _ q0) (fun e => (hkn ib e.symm).1 rfl)
    have bt' := hg.block tb (World.block_lt_of_cell? V _ r0) (fun e => (hkn tb e.symm).2.1 rfl)
    have bm := hg.block a.m (World.block_lt_of_cell? V _ q2) (fun e => (hkn a.m e.symm).2.2 rfl)
    exact ⟨(World.cell?_of_block bi).trans q0, (World.cell?_of_block bi).trans q1, (World.cell?_of_block bm).trans q2, (World.cell?_of_block bt').trans r0, (World.cell?_of_block bt').trans r1, (World.cell?_of_block bt').trans r2, (World.cell?_of_block bt').trans r3, (World.cell?_of_block bt').trans r4, (World.cell?_of_block bt').trans r5, (World.cell?_of_block bt').trans r6, (World.cell?_of_block bt').trans r7, (World.cell?_of_block bt').trans r8, (World.cell?_of_block bt').trans r9⟩
   have HGW : Hid (∀ V V', vBw B2 V → V.grownBy V' (Value.slice ar j cr).ownBlock → vBw w1 V') := fun V V' hb hg => (bt HB3.out hb).grown hg (by have := HB3.out.size; have := hb.size; omega) (fun k hk => (ownsRow_blk HRO2.out hk).1)
   have HBS : Hid (∀ V, vBw B2 V → w1.heap.size ≤ (V.alloc (.cells #[vI6 (x : Int), vU3 (gx : Int), vI6 (st : Int), .bool ky.e, vU6 ky.d, vU8 ky.l, vU8 (t.lv : Int), vI6 t.sv, vI6 t.pc, vI6 t.ia, vI6 t.il] 122)).heap.size) := fun V hb => by have := HB3.out.size; have := hb.size; simp; omega
   have HAP : Hid (∀ V, vBw B2 V → Hid ((V.alloc (.cells #[vI6 (x : Int), vU3 (gx : Int), vI6 (st : Int), .bool ky.e, vU6 ky.d, vU8 ky.l, vU8 (t.lv : Int), vI6 t.sv, vI6 t.pc, vI6 t.ia, vI6 t.il] 122)).ownsRow w1.heap.size 122 11 (.slice ar j cr) j (tRows M n (L.take j))) ∧ Hid (∀ i u, ([vI6 (x : Int), vU3 (gx : Int), vI6 (st : Int), .bool ky.e, vU6 ky.d, vU8 ky.l, vU8 (t.lv : Int), vI6 t.sv, vI6 t.pc, vI6 t.ia, vI6 t.il] : List Value)[i]? = some u → (V.alloc (.cells #[vI6 (x : Int), vU3 (gx : Int), vI6 (st : Int), .bool ky.e, vU6 ky.d, vU8 ky.l, vU8 (t.lv : Int), vI6 t.sv, vI6 t.pc, vI6 t.ia, vI6 t.il] 122)).cell? (((vA0 V.heap.size) : Addr).add i) = some u)) := fun V hb => by
    refine ⟨row_keptF HRO2.out (fun k hk => (balloc hb _).block k (ownsRow_blk HRO2.out hk).2.1), fun i u hu => ?_⟩
    have hadd : ((vA0 V.heap.size) : Addr).add i = (vAt V.heap.size i) := by unfold Addr.add; split <;> simp_all
    rw [hadd]
    exact newc _ _ _ i u (by simpa using hu)
   refine wp_region_held_drew (S := fun w' => w'.cell? (vA0 ib) = some (vI6 (x : Int)) ∧ w'.cell? (vAt ib 1) = some (vU3 (gx : Int)) ∧ w'.cell? (vAt a.m 7) = some (vPt a.gb) ∧ w'.cell? (vA0 tb) = some (vI6 t.p) ∧ w'.cell? (vAt tb 1) = some (vU3 (t.g : Int)) ∧ w'.cell? (vAt tb 2) = some (vI6 t.pg) ∧ w'.cell? (vAt tb 3) = some (vU8 (t.lv : Int)) ∧ w'.cell? (vAt tb 4) = some (vU8 (t.lf : Int)) ∧ w'.cell? (vAt tb 5) = some (vI6 t.sv) ∧ w'.cell? (vAt tb 6) = some (vI6 t.pc) ∧ w'.cell? (vAt tb 7) = some (vI6 t.ia) ∧ w'.cell? (vAt tb 8) = some (vI6 t.il) ∧ w'.cell? (vAt tb 9) = some (vU6 (t.sn : Int))) (by kernel_rfl) ?_ (fun hHeld => ?_)
   ·exact HS.out _ (bdrew HZ.out)
   refine Go.Proofs.YtnmhcgpnhlhcgaaGreatDoor.st ?_
   repeat' first
    | refine dn ?_
    | refine tk ?_
    | refine rd ?_
    | exact opZ
    | refine opN ?_
    | refine opS ?_ ?_
    | (refine opY 4 (fun K hK => ?_)
       go_simp
       go_at_call 81
       refine cH (HST.out _ (by exact below_post HZ.out rfl rfl rfl rfl)) fun w4 HB4 => ?_
       refine hK.out _ _ ?_ (fun hHeld => ?_)
       ·exact HS.out _ HB4.out
       clear hK K
       try simp only [puX])
    | (refine opY 11 (fun K hK => ?_)
       go_simp
       go_at_call 83
       refine cH (HKY.out _ (by exact HB4.out)) fun w5 HB5 => ?_
       refine hK.out _ _ ?_ (fun hHeld => ?_)
       ·exact HS.out _ HB5.out
       clear hK K
       try simp only [puX])
    | (refine opY 26 (fun K hK => ?_)
       obtain ⟨HOW, HNW⟩ := HAP.out w5 HB5.out
       refine step_append_ev _ (by rfl) _ _ _ (by rfl) w1.heap.size 122 i0' (.agg #[vI6 0, vU3 0, vI6 0, .bool false, vU6 0, vU8 0, vU8 0, vI6 0, vI6 0, vI6 0, vI6 0]) 11 88 Tryz.underlying116 hi0 hz0 hz1 hz2 rfl (by omega) (.slice ar j cr) j (tRows M n (L.take j)) (by rfl) HOW.out (vA0 w5.heap.size) 1 1 [vI6 (x : Int), vU3 (gx : Int), vI6 (st : Int), .bool ky.e, vU6 ky.d, vU8 ky.l, vU8 (t.lv : Int), vI6 t.sv, vI6 t.pc, vI6 t.ia, vI6 t.il] (by rfl) rfl HNW.out (by have := tRow_one M n x; rw [HTR.out] at this; exact this) (by unfold maxLen; omega) (by omega) (HBS.out _ HB5.out) ?_
       intro v1 w6 ho6 hg6 hat6
       obtain ⟨a6, d6, rfl⟩ := Cb.owns_slice ho6
       have HS6 := veil (HSG.out _ _ (balloc HB5.out _) hg6)
       have HO6 := veil ho6
       have HW6 := veil (HGW.out _ _ (balloc HB5.out _) hg6)
       clear ho6 hg6 hat6 HOW HNW
       refine hK.out _ _ ?_ (fun hHeld => ?_)
       ·exact HS6.out
       clear hK K
       try simp only [puX])
    | (refine opY _ (fun K hK => ?_)
       go_simp
       refine hK.out _ _ ?_ (fun hHeld => ?_)
       ·exact HS.out _ (balloc HB5.out _)
       clear hK K
       try simp only [puX])
   refine ⟨?_⟩
   go_wp2
   go_roundw
   case rel =>
    refine ⟨j + 1, a6, d6, by omega, by go_num, rfl, ?_, HW6.out⟩
    rw [show L.take (j + 1) = L.take j ++ [x] by rw [List.take_add_one, hx]; rfl, tRows_snoc, HTR.out]
    exact HO6.out
   case measure => simp [RowKit.intOf]; omega
  ·have hjl' : ¬ (j : Int) < (L.length : Int) := by omega
   obtain rfl : j = L.length := by omega
   go_wp2
   go_ret
   refine ⟨_, rfl, ?_, bt HB1.out HBW.out⟩
   have := HRO.out
   rw [List.take_length] at this
   exact Pi.ownsRow_lift this (fun k hk => Nat.le_trans HB1.out.size (ownsRow_blk this hk).1)
end
end Go.Proofs.YtnmhcgpnhlhcgaaGreatDoor
