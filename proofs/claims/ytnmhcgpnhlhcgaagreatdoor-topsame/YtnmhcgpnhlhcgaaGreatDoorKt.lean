/- YtnmhcgpnhlhcgaaGreatDoorKt: of the texts Ba36 Ba37 Ba38 Ba39 Bf1 Bf2 Bf3 Bf4 Bf5 Bf6 Bf7 Ba40 what is wanted. -/
import Derived.Test.YtnmhcgpnhlhcgaaGreatDoorK0
import Derived.Test.YtnmhcgpnhlhcgaaGreatDoorKq
import Derived.Deep.Cut
import Derived.Deep.DeepCutAuto
import Derived.Maps.AppendAt
import Derived.Test.YtnmhcgpnhlhcgaaGreatDoorKa
set_option maxHeartbeats 16000000
set_option maxRecDepth 100000
set_option linter.unusedVariables false
set_option linter.defProp false
set_option linter.unusedSimpArgs false
namespace Go.Proofs.YtnmhcgpnhlhcgaaGreatDoor
open Go.RowKit Go.Lib Go.Shelf
attribute [local go_sem ↓] Go.wp_at_zero Go.wp_at_succ
def da {W V:World} (h:aC W V) (o:Obj):aC W (V.alloc o):=h.alloc h.size o
def js {W V:World} (h:aC W V) {b:Nat} (a:W.heap.size<=b) (o:Nat) (u:Value):aC W (V.setCell (af b o) u):=eK h a u
def iT {W V:World} (h:aC W V):aC W V.drew:=aK h rfl rfl rfl rfl
structure Zb (V:World) (b:Nat):Prop where
 c0:V.cell? (ao b)=some (ab 0)
 c1:V.cell? (af b 1)=some (ab 0)
 f0:V.frozen? (ao b)=false
 f1:V.frozen? (af b 1)=false
def Zb.new (W:World) (t:TypeId):Zb (W.alloc (.cells #[ab 0,ab 0] t)) W.heap.size:=⟨bB _ _ _ 0 _ rfl,bB _ _ _ 1 _ rfl,cA _ _ _ _,cA _ _ _ _⟩
theorem Zb.kept {V V':World} {b:Nat} (h:Zb V b) (a:V'.heap[b]? =V.heap[b]?):Zb V' b:=⟨(i5 a).trans h.c0,(i5 a).trans h.c1,(zV0 a).trans h.f0,(zV0 a).trans h.f1⟩
def Zb.Qf {W V a:World} {t:TypeId} (b:aC V a) (c:V.heap=(W.alloc (.cells #[ab 0,ab 0] t)).heap):Zb a W.heap.size/\W.heap.size<a.heap.size:=by
 have d:V.heap.size=W.heap.size+1:=by simp_all
 refine⟨(Zb.new W t).kept ?_,by have:=b.size;omega⟩
 rw[b.block _ z_,c]
def Zb.Qc {W V a:World} {t t':TypeId} (b:aC V a) (c:V.heap=((W.alloc (.cells #[ab 0,ab 0] t)).alloc (.cells #[ab 0,ab 0] t')).heap):Zb a W.heap.size/\Zb a (W.heap.size+1)/\W.heap.size+1<a.heap.size:=by
 have e:V.heap.size=W.heap.size+1+1:=by simp_all
 have d:(W.alloc (.cells #[ab 0,ab 0] t)).heap.size=W.heap.size+1:=q_
 refine⟨(Zb.new W t).kept ?_,?_,by have:=b.size;omega⟩
 ·rw[b.block _ z_,c]
  exact zU0 _ _ _ z_
 ·have:=(Zb.new (W.alloc (.cells #[ab 0,ab 0] t)) t').kept (V':=a) (by rw[b.block _ z_,c])
  rw[d] at this
  exact this
structure zu (V:World) (b:Nat) (x y:Int):Prop where
 c0:V.cell? (ao b)=some (ab x)
 c1:V.cell? (af b 1)=some (ab y)
def zu.new (V:World) (x y:Int) (t:TypeId):zu (V.alloc (.cells #[ab x,ab y] t)) V.heap.size x y:=⟨bB _ _ _ 0 _ rfl,bB _ _ _ 1 _ rfl⟩
theorem zu.kept {V V':World} {b:Nat} {x y:Int} (h:zu V b x y) (a:V'.heap[b]? =V.heap[b]?):zu V' b x y:=⟨(i5 a).trans h.c0,(i5 a).trans h.c1⟩
def zu.set {V:World} {b:Nat} (h:Zb V b) (x y:Int):zu ((V.setCell (ao b) (ab x)).setCell (af b 1) (ab y)) b x y:=
 ⟨(aI _ x_).trans (Gt.aU _ _ _ _ h.c0),Gt.aU _ _ _ _ ((aI V x_).trans h.c1)⟩
structure Nz (W V:World) (ib nb:Nat) (op ar ia il:Int):Prop where
 jC:aC W V
 i:W.heap.size<=ib/\ib<V.heap.size
 n:W.heap.size<=nb/\nb<V.heap.size
 ne:ib≠nb
 pi:zu V ib op ar
 pn:zu V nb ia il
section
variable {W a:World} {op ar ia il:Int} {t t':TypeId}
def KZ (h:aC W a):Nz W ((a.alloc (.cells #[ab op,ab ar] t)).alloc (.cells #[ab ia,ab il] t')) a.heap.size (a.heap.size+1) op ar ia il:=by
 have c:=h.size
 have b:(a.alloc (.cells #[ab op,ab ar] t)).heap.size=a.heap.size+1:=q_
 have d:((a.alloc (.cells #[ab op,ab ar] t)).alloc (.cells #[ab ia,ab il] t')).heap.size=a.heap.size+2:=q_
 refine⟨da (da h _) _,⟨c,z_⟩,⟨z_,z_⟩,z_,(zu.new a op ar t).kept (zU0 _ _ _ z_),?_⟩
 have:=zu.new (a.alloc (.cells #[ab op,ab ar] t)) ia il t'
 rw[b] at this
 exact this
def Lz (h:aC W a):Nz W ((a.alloc (.cells #[ab ia,ab il] t')).alloc (.cells #[ab op,ab ar] t)) (a.heap.size+1) a.heap.size op ar ia il:=by
 obtain⟨i,g,f,d,c,b⟩:=KZ (op:=ia) (ar:=il) (ia:=op) (il:=ar) (t:=t') (t':=t) h
 exact⟨i,f,g,fun e=>d e.symm,b,c⟩
def KT (h:aC W a) (z:Zb a W.heap.size) (d:W.heap.size<a.heap.size):Nz W (((a.setCell (ao W.heap.size) (ab op)).setCell (af W.heap.size 1) (ab ar)).alloc (.cells #[ab ia,ab il] t')) W.heap.size a.heap.size op ar ia il:=by
 have b:((a.setCell (ao W.heap.size) (ab op)).setCell (af W.heap.size 1) (ab ar)).heap.size=a.heap.size:=q_
 have c:(((a.setCell (ao W.heap.size) (ab op)).setCell (af W.heap.size 1) (ab ar)).alloc (.cells #[ab ia,ab il] t')).heap.size=a.heap.size+1:=q_
 refine⟨da (js (js h aT _ _) aT _ _) _,⟨aT,z_⟩,⟨z_,z_⟩,z_,(zu.set z op ar).kept (zU0 _ _ _ z_),?_⟩
 have:=zu.new ((a.setCell (ao W.heap.size) (ab op)).setCell (af W.heap.size 1) (ab ar)) ia il t'
 rw[b] at this
 exact this
def MG (h:aC W a) (z:Zb a W.heap.size) (b:W.heap.size<a.heap.size):Nz W (((a.setCell (ao W.heap.size) (ab ia)).setCell (af W.heap.size 1) (ab il)).alloc (.cells #[ab op,ab ar] t)) a.heap.size W.heap.size op ar ia il:=by
 obtain⟨j,i,g,f,d,c⟩:=KT (op:=ia) (ar:=il) (ia:=op) (il:=ar) (t':=t) h z b
 exact⟨j,g,i,fun e=>f e.symm,c,d⟩
def KB (h:aC W a) {b c:Nat} (g:W.heap.size<=b/\b<a.heap.size) (f:W.heap.size<=c/\c<a.heap.size) (d:b≠c) (z:Zb a b) (i:Zb a c):Nz W ((((a.setCell (ao b) (ab op)).setCell (af b 1) (ab ar)).setCell (ao c) (ab ia)).setCell (af c 1) (ab il)) b c op ar ia il:=by
 refine⟨js (js (js (js h g.1 _ _) g.1 _ _) f.1 _ _) f.1 _ _,⟨g.1,by simp_all⟩,⟨f.1,by simp_all⟩,d,?_,?_⟩
 ·exact(zu.set z op ar).kept ((zZ0 _ _ _ _ d).trans (zZ0 _ _ _ _ d))
 ·exact zu.set (i.kept ((zZ0 _ _ _ _ (fun e=>d e.symm)).trans (zZ0 _ _ _ _ (fun e=>d e.symm)))) ia il
end
section
variable {w W0 W:World} {lab labk:Nat->Nat} {a:Ad} {P n q T:Nat} {M:Mc} {sb pr:Nat} {l:List Ev} {O0:Nat->Prop}
def SX.prog (h:SX w W0 W lab a P n q T M sb pr l O0) {g:Nat} {p:Pm} (hg:M.pr[g]? =some p): ∃pb cp ap cap,W.cell? (af a.m 2)=some (.slice (some (ao pb)) M.pr.length cp)/\W.cell? (af pb g)=some (.slice ap p.len cap)/\Ex.lJ W ap p.len p.O p.R/\Ex.Rt p.len p.O p.R/\g<M.pr.length:=by
 obtain⟨labk,i⟩:=h.i
 obtain⟨v,vs,e2,hps⟩:=i.pg
 obtain⟨ad,cp,rfl⟩:=hps.form
 have hgl:g<M.pr.length:=(i6.1 hg).1
 have hvg:g<vs.length:=by rw[hps.len];exact hgl
 obtain⟨r1,r2⟩:=hps.at_ g p (vs[g]'hvg) hg (zX0 hvg)
 have hmem:p∈M.pr:=i9 hg
 have hok:=hps.ok p hmem
 rcases hps.row.2 with ⟨e,e0⟩|⟨pb,cap,cur,e,h0,hg',hrow⟩
 ·omega
 ·injection e with e1 e3 e4
  subst e1 e4
  obtain⟨ap,cap',e5,hprg⟩:=Ex.j9 r1
  refine⟨pb,_,ap,cap',e2,?_,hprg,hok,hgl⟩
  have hu:vs[g]? =some (vs[g]'hvg):=zX0 hvg
  rw[e5] at hu
  rw[<-hrow.2.2.2,List.getElem?_take] at hu
  split at hu
  ·simp only[World.cell?,hg']
   grind
  omega
def Fm (p:Pm) (b:Int):Int:=Ex.OL true p.len p.O b
def B7 (p:Pm) (b:Int):Int:=Ex.Ov true p.len p.R b
def PS (p:Pm) (b:Int):Int:=Ex.O6 true p.len p.O p.R b
def NA (p:Pm) (c b:Int):Int:=Ex.Oa true p.len p.O p.R c b
def Ja {W:World} {h:Option Addr} {d:Nat} {p:Pm} (k:Ex.lJ W h p.len p.O p.R) (i:Ex.Rt p.len p.O p.R) (c f:Int) (g: ¬0<f) (V:World) (j:aC W V):
  aB 125 #[.slice h p.len d,.agg #[ab c,ab f]] V fun e w'=>e=aS #[.agg #[ab (Fm p c),ab (B7 p c)],.agg #[ab (PS p c),ab (NA p c f)],.bool false]/\aC W w'/\aC V w':=
 (Ex.pN V h p.len d (by have:=ER i;omega) p.O p.R (k.below j) true ⟨fun _=>i,fun _=>rfl⟩ c f g).mono (fun e w' ⟨m,b⟩=>⟨m,bt j b,b⟩)
def CI {W:World} {i:Option Addr} {c d:Nat} (g f:Int) (h:0<f) (V:World) (k:aC W V):
  aB 125 #[.slice i c d,.agg #[ab g,ab f]] V fun e w'=>e=aS #[.agg #[ab 0,ab 0],.agg #[ab g,ab f],.bool true]/\aC W w'/\aC V w':=
 (Ex.Cf V i c d g f h).mono (fun e w' ⟨j,b⟩=>⟨j,bt k b,b⟩)
def ax.xn (h:ax W labk a P n q T M) {x:Nat} (e:x<n) (u v:Int) (f:v<9223372036854775808):
  aD W ((W.setCell (af a.th (x*10+7)) (ab u)).setCell (af a.th (x*10+8)) (ab v)) labk a P n q T {M with th:=ay M.th x {M.th x with ia:=u,il:=v}}:=by
 have d:=h.th.ok x e
 have b:Fr (fun k=>labk k=4) W ((W.setCell (af a.th (x*10+7)) (ab u)).setCell (af a.th (x*10+8)) (ab v)):=((Fr.refl _ _).setCell (a:=(af a.th _)) h.lth _).setCell (a:=(af a.th _)) h.lth _
 refine⟨labk,h.Ei (h.same b) b (h.th.put (((h.th.at_ x e).Fa u).F2 v) ⟨d.g,d.lv,d.lf,f,d.sn⟩ (fun j i c=>((h.th.at_ j i).fM (KN c x_) _).fM (KN c x_) _) (fun o=>by rw[aR,aR];exact h.th.fz o)),h.same b,b.to (fun k _ m=> ?_)⟩
 omega
def xw (M:Mc) (x:Nat) (u v:Int):Mc:={M with th:=ay M.th x {M.th x with ia:=u,il:=v}}
def mA (b:Bool):Ending:=if b then aS #[] else .panicked ed
def SX.Bc (h:SX w W0 W lab a P n q T M sb pr l O0) (hl:l.length<=10000) (hp:pr<P) (x:Nat) (L:x<n) (hr:(M.pc pr).r=(x:Int)) (g:Nat) (p:Pm) (hg:M.pr[g]? =some p) (a2:(M.th x).pg=(g:Int)) (op ar F A:Int) (a3:A<9223372036854775808) (X U:Bool) (T':Nat) (M':Mc) (l':List Ev)
  (a0: ∀Y C V,Ex.lJ W Y p.len p.O p.R->Ex.Rt p.len p.O p.R->aC W V->aB 125 #[.slice Y p.len C,.agg #[ab (M.th x).ia,ab (M.th x).il]] V fun e f=>e=aS #[.agg #[ab op,ab ar],.agg #[ab F,ab A],.bool X]/\aC W f/\aC V f)
  (a5:X=true->U=false/\T'=T/\M'=M/\l'=l++[⟨2,(pr:Int),(M.th x).p,(M.th x).g,0,0⟩])
  (a4:X=false-> ∀V O,SG w V lab a P n q T (xw M x F A) sb pr l O->aB 126 #[ak sb,.pointer (some (af a.th (x*10))),.agg #[ab op,ab ar]] V fun e f=>e=mA U/\SX w V f lab a P n q T' M' sb pr l' O):
  aB 77 #[ak sb] W fun e f=>e=mA U/\SX w W0 f lab a P n q T' M' sb pr l' O0:=by
 obtain⟨pb,cp,Y,C,k2,kg,Q,a1,b6⟩:=h.prog hg
 have N:=fun V b=>a0 Y C V Q a1 b
 have E:=aa N
 have hS: ∀V,aC W V->V.cell? (ao sb)=some (ak a.m)/\V.cell? (af sb 2)=some (.pointer (some (af a.pr (pr*3))))/\V.cell? (af a.m 4)=some (.slice (some (ao a.th)) n a.xt)/\V.cell? (af a.pr (pr*3))=some (ab x)/\V.cell? (af a.m 2)=some (.slice (some (ao pb)) M.pr.length cp)/\V.cell? (af a.th (x*10+2))=some (ab g)/\V.cell? (af pb g)=some (.slice Y p.len C)/\V.cell? (af a.th (x*10+7))=some (ab (M.th x).ia)/\V.cell? (af a.th (x*10+8))=some (ab (M.th x).il):=fun V b=>by
  refine⟨kc b h.c0,kc b h.c2,kc b h.core.c4,?_,kc b k2,?_,kc b kg,kc b (h.tr L).c7,kc b (h.tr L).c8⟩
  ·rw[<-hr];exact kc b (h.pc hp).c0
  ·rw[<-a2];exact kc b (h.tr L).c2
 have HS:=aa hS
 have D:=aa (i4 W.heap.size W)
 obtain⟨s0,s1,s2,s3,s4,s5,s6,s7,s8⟩:=hS _ D.out
 have a9:Hid (X=true->U=false/\T'=T/\M'=M/\l'=l++[⟨2,(pr:Int),(M.th x).p,(M.th x).g,0,0⟩]):=a5
 have a7:Hid (∀V,aC W V->aB 123 #[ak sb,ab 2,.agg #[ab (M.th x).p,aM ((M.th x).g:Int)],ab 0] V fun e f=>e= .panicked ed/\SX w W0 f lab a P n q T M sb pr (l++[⟨2,(pr:Int),(M.th x).p,(M.th x).g,0,0⟩]) O0):=fun V b=>(h.more b).end_ hl 2 (M.th x).p (M.th x).g 0
 have a6:Hid (∀V,aC W V->V.cell? (af a.th (x*10))=some (ab (M.th x).p)/\V.cell? (af a.th (x*10+1))=some (aM ((M.th x).g:Int))/\V.cell? (af a.th (x*10+7))=some (ab (M.th x).ia)/\V.cell? (af a.th (x*10+8))=some (ab (M.th x).il)/\ ∀o,V.frozen? (af a.th o)=false):=fun V b=>⟨kc b (h.tr L).c0,kc b (h.tr L).c1,kc b (h.tr L).c7,kc b (h.tr L).c8,fun o=>(h.more b).Gb o⟩
 have a8:Hid (X=false-> ∀V,aC W V->aB 126 #[ak sb,.pointer (some (af a.th (x*10))),.agg #[ab op,ab ar]] ((V.setCell (af a.th (x*10+7)) (ab F)).setCell (af a.th (x*10+8)) (ab A)) fun e f=>e=mA U/\SX w W0 f lab a P n q T' M' sb pr l' O0):=fun hz V b=>((h.more b).goes (fun _ i=>i.xn L F A a3)).call (R:=fun e=>e=mA U) (fun O s=>a4 hz _ O s)
 have b1:a.th<W.heap.size:=i7 W _ (h.tr L).c0
 have b2:(g:Int)<M.pr.length:=z_
 generalize (M.th x).ia=ia at*
 generalize (M.th x).il=il at*
 generalize (M.th x).p=tp at*
 generalize (M.th x).g=tg at*
 clear N a0 Q a1 h hS k2 kg hr a2 hg a5 a4
 refine ge ?_
 go_wp2
 go_region_held3 (fun f=>f.cell? (ao sb)=some (ak a.m)/\f.cell? (af sb 2)=some (.pointer (some (af a.pr (pr*3))))/\f.cell? (af a.m 4)=some (.slice (some (ao a.th)) n a.xt)/\f.cell? (af a.pr (pr*3))=some (ab x))
  (go_keep)
  (first|fail)
 rename_i hHeld
 clear hHeld
 go_upto_region 1 with fail
 go_cut [3,4,5] (fun i3 n4 b5 Wc=> ∃ib nb,i3=ak ib/\n4=ak nb/\b5= .bool X/\Nz W Wc ib nb op ar F A)
 case first=>
  have y:Hid (∀V,aC W V->V.cell? (ao sb)=some (ak a.m)/\V.cell? (af a.m 2)=some (.slice (some (ao pb)) M.pr.length cp)/\V.cell? (af a.th (x*10+2))=some (ab g)/\V.cell? (af pb g)=some (.slice Y p.len C)/\V.cell? (af a.th (x*10+7))=some (ab ia)/\V.cell? (af a.th (x*10+8))=some (ab il)):=fun V b=>by
   obtain⟨t0,t1,t2,t3,t4,t5,t6,t7,t8⟩:=HS.out _ b
   grind
  refine wp_region_held_drew (S:=fun f=>f.cell? (ao sb)=some (ak a.m)/\f.cell? (af a.m 2)=some (.slice (some (ao pb)) M.pr.length cp)/\f.cell? (af a.th (x*10+2))=some (ab g)/\f.cell? (af pb g)=some (.slice Y p.len C)/\f.cell? (af a.th (x*10+7))=some (ab ia)/\f.cell? (af a.th (x*10+8))=some (ab il)) (by rfl) ?_ (fun hHeld=> ?_)
  ·exact y.out _ (iT (iT D.out))
  refine st ?_
  repeat' first
   |refine dn ?_
   |refine tk ?_
   |refine rd ?_
   |exact oA
   |refine oE ?_
   |refine oC ?_ ?_
   | (refine dU 17 (fun K u=> ?_)
      go_simp
      go_at_call 125
      refine(E.out _ (by repeat first|exact aK D.out rfl rfl rfl rfl|apply da|apply iT)).mono ?_
      rintro e J ⟨rfl,b,B⟩
      obtain⟨z,j⟩:=Zb.Qf (W:=W) (t:=83) B rfl
      have v:=aa z
      have d:=fun o=>z.kept (V':=J.alloc o) (zU0 _ _ _ j)
      obtain⟨q0,q1,f0,f1⟩:=z
      have r0:=fun o=>(d o).c0
      have r1:=fun o=>(d o).c1
      have g0:=fun o=>(d o).f0
      have g1:=fun o=>(d o).f1
      have n1: ¬W.heap.size=J.heap.size:=z_
      have n2: ¬J.heap.size=W.heap.size:=z_
      clear d
      have c:=aa b
      clear b B
      refine u.out _ _ ?_ (fun hHeld=> ?_)
      ·exact y.out _ (by repeat first|exact c.out|exact aK D.out rfl rfl rfl rfl|apply da|apply js|exact aT|omega|apply iT)
      clear u K
      try simp only[cV])
   | (refine dU 17 (fun K u=> ?_)
      go_simp
      go_at_call 125
      refine(E.out _ (by repeat first|exact aK D.out rfl rfl rfl rfl|apply da|apply iT)).mono ?_
      rintro e J ⟨rfl,b,B⟩
      obtain⟨z,z2,j⟩:=Zb.Qc (W:=W) (t:=83) (t':=128) B rfl
      have v:=aa z
      have Z:=aa z2
      obtain⟨q0,q1,f0,f1⟩:=z
      obtain⟨q2,q3,f2,f3⟩:=z2
      have c:=aa b
      clear b B
      refine u.out _ _ ?_ (fun hHeld=> ?_)
      ·exact y.out _ (by repeat first|exact c.out|exact aK D.out rfl rfl rfl rfl|apply da|apply js|exact aT|omega|apply iT)
      clear u K
      try simp only[cV])
   | (refine dU 17 (fun K u=> ?_)
      go_simp
      go_at_call 125
      refine(E.out _ (by repeat first|exact aK D.out rfl rfl rfl rfl|apply da|apply iT)).mono ?_
      rintro e J ⟨rfl,b,B⟩
      obtain⟨z,j⟩:=Zb.Qf (W:=W) (t:=128) B rfl
      have v:=aa z
      have d:=fun o=>z.kept (V':=J.alloc o) (zU0 _ _ _ j)
      obtain⟨q0,q1,f0,f1⟩:=z
      have r0:=fun o=>(d o).c0
      have r1:=fun o=>(d o).c1
      have g0:=fun o=>(d o).f0
      have g1:=fun o=>(d o).f1
      have n1: ¬W.heap.size=J.heap.size:=z_
      have n2: ¬J.heap.size=W.heap.size:=z_
      clear d
      have c:=aa b
      clear b B
      refine u.out _ _ ?_ (fun hHeld=> ?_)
      ·exact y.out _ (by repeat first|exact c.out|exact aK D.out rfl rfl rfl rfl|apply da|apply js|exact aT|omega|apply iT)
      clear u K
      try simp only[cV])
   | (refine dU 17 (fun K u=> ?_)
      go_simp
      go_at_call 125
      refine(E.out _ (by repeat first|exact aK D.out rfl rfl rfl rfl|apply da|apply iT)).mono ?_
      rintro e J ⟨rfl,b,B⟩
      obtain⟨z,z2,j⟩:=Zb.Qc (W:=W) (t:=128) (t':=83) B rfl
      have v:=aa z
      have Z:=aa z2
      obtain⟨q0,q1,f0,f1⟩:=z
      obtain⟨q2,q3,f2,f3⟩:=z2
      have c:=aa b
      clear b B
      refine u.out _ _ ?_ (fun hHeld=> ?_)
      ·exact y.out _ (by repeat first|exact c.out|exact aK D.out rfl rfl rfl rfl|apply da|apply js|exact aT|omega|apply iT)
      clear u K
      try simp only[cV])
   | (refine dU 17 (fun K u=> ?_)
      go_simp
      go_at_call 125
      refine(E.out _ (by repeat first|exact aK D.out rfl rfl rfl rfl|apply da|apply iT)).mono ?_
      rintro e J ⟨rfl,b,B⟩
      have j:=b.size
      have c:=aa b
      clear b B
      refine u.out _ _ ?_ (fun hHeld=> ?_)
      ·exact y.out _ (by repeat first|exact c.out|exact aK D.out rfl rfl rfl rfl|apply da|apply js|exact aT|omega|apply iT)
      clear u K
      try simp only[cV])
   | (refine dU _ (fun K u=> ?_)
      go_simp
      refine u.out _ _ ?_ (fun hHeld=> ?_)
      ·exact y.out _ (by repeat first|exact c.out|exact aK D.out rfl rfl rfl rfl|apply da|apply js|exact aT|omega|apply iT)
      clear u K
      try simp only[cV])
  all_goals
   refine⟨?_⟩
   go_wp2
   go_meet
   case rel=>
    refine⟨_,_,rfl,rfl,rfl,?_⟩
    first
    |exact KZ c.out
    |exact Lz c.out
    |exact KT c.out v.out j
    |exact MG c.out v.out j
    |exact KB c.out ⟨z_,z_⟩ ⟨z_,z_⟩ z_ v.out Z.out
    |exact KB c.out ⟨z_,z_⟩ ⟨z_,z_⟩ z_ Z.out v.out
 case rest=>
  obtain⟨ib,nb,rfl,rfl,rfl,k⟩:=hcut
  have H:=k.jC
  have b0:=aa H
  obtain⟨v0,v1,v7,v8,vf⟩:=a6.out _ H
  have i0:=k.pi.c0
  have i1:=k.pi.c1
  have m0:=k.pn.c0
  have m1:=k.pn.c1
  have b4:=k.i
  have b3:=k.n
  have e1: ¬a.th=ib:=z_
  have e2: ¬ib=a.th:=z_
  clear H k HS E a6
  cases X with
  |true=>
   obtain⟨rfl,rfl,rfl,rfl⟩:=a9.out rfl
   go_wp2_with (go_at_call 123;refine cH (a7.out _ (by exact b0.out)) fun w3 I=> ?_)
   simp[bodyPost]
   exact⟨rfl,I.out⟩
  |false=>
   have hd:=a8.out rfl _ b0.out
   have HD:=aa hd
   clear hd a9 a7 a8
   cases U with
   |true=>
    go_wp2_with (go_at_call 126;refine(HD.out).mono ?_;rintro e w3 ⟨he,G⟩;obtain rfl:e=aS #[]:=he;have I:=aa G;clear G)
    go_end0
    exact⟨rfl,I.out⟩
   |false=>
    go_wp2_with (go_at_call 126;refine(HD.out).mono ?_;rintro e w3 ⟨he,G⟩;obtain rfl:e= .panicked ed:=he;have I:=aa G;clear G)
    simp[bodyPost]
    exact⟨rfl,I.out⟩
end
section
variable {w W:World} {b f:Nat->Nat} {a:Ad} {P n q T T':Nat} {M M':Mc} {c d:Nat} {l e:List Ev} {O:Nat->Prop}
def SG.Fj (h:SG w W b a P n q T M c d l O) (E:l.length<=9000) (x:Nat) (z:x<n) (j o:Int) (N:j≠2) (L:j≠3) (J:j≠4) (I:j≠5) (H:j≠6) (G:j≠7) (F:j≠9):
  aB 126 #[ak c,.pointer (some (af a.th (x*10))),.agg #[ab j,ab o]] W fun i u=>i=aS #[]/\SX w W u b a P n q T M c d (l++[⟨5,(d:Int),(M.th x).p,(M.th x).g,j,0⟩]) O:=by
 have m:aC W (W.alloc (.cells #[ab j,ab o] 83)):=bq
 have r:=h.below m
 have t:=r.sx
 have k: ¬O W.heap.size:=fun q=>by have:=h.lt q;omega
 have C:=aa m
 have y:=bB W #[ab j,ab o] 83 0 _ rfl
 have v:=bB W #[ab j,ab o] 83 1 _ rfl
 have B:Hid (∀V T' M' e,SX w (W.alloc (.cells #[ab j,ab o] 83)) V b a P n q T' M' c d e O->V.cell? (ao W.heap.size)=some (ab j)/\V.cell? (af W.heap.size 1)=some (ab o)):=fun V T' M' e s=>⟨s.keep k y,s.keep k v⟩
 have A:=aa (t.ie z_ x z j o)
 have Z:(j==2)=false:=y_
 have Y:(j==3)=false:=y_
 have X:(j==4)=false:=y_
 have U:(j==5)=false:=y_
 have S:(j==6)=false:=y_
 have R:(j==7)=false:=y_
 have Q:(j==9)=false:=y_
 clear h r t m k
 refine ge ?_
 go_wp2_with (go_at_call 166;refine cH A.out fun D HG=> ?_)
 go_end0
 grind[RowKit.Hid.out,SX.ahead]
def ax.FC (h:ax W f a P n q T M) {x:Nat} (p:x<n) (v:Nat) (r:v<256):
  aD W ((W.setCell (af a.th (x*10+3)) (aA v)).setCell (af a.th (x*10+4)) (aA 0)) f a P n q T {M with th:=ay M.th x {M.th x with lv:=v,lf:=0}}:=by
 have m:=h.th.ok x p
 have i:Fr (fun k=>f k=4) W ((W.setCell (af a.th (x*10+3)) (aA v)).setCell (af a.th (x*10+4)) (aA 0)):=((Fr.refl _ _).setCell (a:=(af a.th _)) h.lth _).setCell (a:=(af a.th _)) h.lth _
 refine⟨f,h.Ei (h.same i) i (h.th.put (((h.th.at_ x p).Gx v).tT 0) ⟨m.g,r,q_,m.il,m.sn⟩ (fun j t s=>((h.th.at_ j t).fM z_ _).fM z_ _) (fun o=>by rw[aR,aR];exact h.th.fz o)),h.same i,i.to (fun k _ u=> ?_)⟩
 omega
def pI (M:Mc) (x v:Nat):Mc:={M with th:=ay M.th x {M.th x with lv:=v,lf:=0}}
def SG.JW (h:SG w W b a P n q T M c d l O) (R:l.length<=9000) (x:Nat) (t:x<n) (k:Int) (v:Nat) (E:v<256) (hw:IntKind.u8.wrap k=(v:Int)):
  aB 126 #[ak c,.pointer (some (af a.th (x*10))),.agg #[ab 7,ab k]] W fun j B=>j=aS #[]/\SX w W B b a P n q T (pI M x v) c d (l++[⟨5,(d:Int),(M.th x).p,(M.th x).g,7,0⟩]) O:=by
 have o:aC W (W.alloc (.cells #[ab 7,ab k] 83)):=bq
 have r:=h.below o
 have s:=r.sx
 have m: ¬O W.heap.size:=fun q=>by have:=h.lt q;omega
 have I:=aa o
 have D:=bB W #[ab 7,ab k] 83 0 _ rfl
 have C:=bB W #[ab 7,ab k] 83 1 _ rfl
 have H:Hid (∀V T' M' e,SX w (W.alloc (.cells #[ab 7,ab k] 83)) V b a P n q T' M' c d e O->V.cell? (ao W.heap.size)=some (ab 7)/\V.cell? (af W.heap.size 1)=some (ab k)):=fun V T' M' e z=>⟨z.keep m D,z.keep m C⟩
 have A:SX w (W.alloc (.cells #[ab 7,ab k] 83)) (((W.alloc (.cells #[ab 7,ab k] 83)).setCell (af a.th (x*10+3)) (aA v)).setCell (af a.th (x*10+4)) (aA 0)) b a P n q T (pI M x v) c d l O:=s.goes (fun _ i=>i.FC t v E)
 have u:=A.ie z_ x t 7 k
 have y:((pI M x v).th x).p=(M.th x).p/\((pI M x v).th x).g=(M.th x).g:=by unfold pI;grind[ay]
 rw[y.1,y.2] at u
 have G:=aa u
 have Q:=(s.tr t).c3
 have N:=(s.tr t).c4
 have L:=s.Gb
 have F: ¬a.th=W.heap.size:=fun j=>by simp_all
 have S: ¬W.heap.size=a.th:=fun j=>F j.symm
 clear h r s o m A u y
 refine ge ?_
 go_wp2_with (go_at_call 166;refine cH G.out fun J U=> ?_)
 go_end0
 grind[RowKit.Hid.out,SX.ahead]
def SG.tO (h:SG w W b a P n q T M c d l O) (x:Nat) (o:Int) (t:Bool)
  (v: ∀V,SG w V b a P n q T M c d l O->aB 164 #[ak c,.pointer (some (af a.th (x*10))),.agg #[ab 2,ab o]] V fun g s=>g=mA t/\SX w V s b a P n q T' M' c d e O):
  aB 126 #[ak c,.pointer (some (af a.th (x*10))),.agg #[ab 2,ab o]] W fun g s=>g=mA t/\SX w W s b a P n q T' M' c d e O:=by
 have m:aC W (W.alloc (.cells #[ab 2,ab o] 83)):=bq
 have j:=h.below m
 have C:=j.sx
 have k: ¬O W.heap.size:=fun q=>by have:=h.lt q;omega
 have p:=aa m
 have B:=bB W #[ab 2,ab o] 83 0 _ rfl
 have A:=bB W #[ab 2,ab o] 83 1 _ rfl
 have D:Hid (∀V T' M' e,SX w (W.alloc (.cells #[ab 2,ab o] 83)) V b a P n q T' M' c d e O->V.cell? (ao W.heap.size)=some (ab 2)/\V.cell? (af W.heap.size 1)=some (ab o)):=fun V T' M' e i=>⟨i.keep k B,i.keep k A⟩
 have y:=aa (v _ j)
 clear h j C m k v
 cases t with
 |true=>
  refine ge ?_
  go_wp2_with (go_at_call 164;refine(y.out).mono ?_;rintro g z ⟨u,i⟩;obtain rfl:g=aS #[]:=u;have r:=aa i;clear i)
  go_end0
  exact⟨rfl,r.out.ahead p.out⟩
 |false=>
  refine ge ?_
  go_wp2_with (go_at_call 164;refine(y.out).mono ?_;rintro g z ⟨u,i⟩;obtain rfl:g= .panicked ed:=u;have r:=aa i;clear i)
  simp[bodyPost]
  first|exact⟨rfl,r.out.ahead p.out⟩|exact r.out.ahead p.out
def SG.Eb (h:SG w W b a P n q T M c d l O) (Q:l.length<=9000) (x:Nat) (u:x<n) (D:d<P) (F:T+n<=1000000000) (v:(M.pc d).r=(x:Int)) (j:Int):
  aB 126 #[ak c,.pointer (some (af a.th (x*10))),.agg #[ab 6,ab j]] W fun i A=>i=aS #[]/\SX w W A b a P n q (T+n+1) (jr P n q M d x) c d (l++[⟨5,(d:Int),(M.th x).p,(M.th x).g,6,0⟩]) O:=by
 have m:aC W (W.alloc (.cells #[ab 6,ab j] 83)):=bq
 have o:=h.below m
 have z:=o.sx
 have k: ¬O W.heap.size:=fun q=>by have:=h.lt q;omega
 have t:=aa m
 have C:=bB W #[ab 6,ab j] 83 0 _ rfl
 have B:=bB W #[ab 6,ab j] 83 1 _ rfl
 have I:Hid (∀V T' M' e,SX w (W.alloc (.cells #[ab 6,ab j] 83)) V b a P n q T' M' c d e O->V.cell? (ao W.heap.size)=some (ab 6)/\V.cell? (af W.heap.size 1)=some (ab j)):=fun V T' M' e y=>⟨y.keep k C,y.keep k B⟩
 have G:=aa (z.ie z_ x u 6 j)
 have H:=aa fun V (E:SX w (W.alloc (.cells #[ab 6,ab j] 83)) V b a P n q T M c d (l++[⟨5,(d:Int),(M.th x).p,(M.th x).g,6,0⟩]) O)=>E.zT F D x u v
 clear h o z m k v
 refine ge ?_
 go_wp2_with (first
  |(go_at_call 166;refine cH G.out fun N J=> ?_)
  |(go_at_call 121;refine cH (H.out _ (by exact J.out)) fun L s=> ?_))
 go_end0
 exact⟨rfl,s.out.ahead t.out⟩
def SG.Ht (h:SG w W b a P n q T M c d l O) (U:l.length<=9000) (x:Nat) (t:x<n) (j:Int)
  (u: ∀y V,SX w y V b a P n q T M c d (l++[⟨5,(d:Int),(M.th x).p,(M.th x).g,9,0⟩]) O->aB 171 #[ak c,.agg #[ab (M.th x).p,aM ((M.th x).g:Int)]] V fun i m=>i=aS #[]/\SX w y m b a P n q T' M' c d e O):
  aB 126 #[ak c,.pointer (some (af a.th (x*10))),.agg #[ab 9,ab j]] W fun i m=>i=aS #[]/\SX w W m b a P n q T' M' c d e O:=by
 have r:aC W (W.alloc (.cells #[ab 9,ab j] 83)):=bq
 have s:=h.below r
 have v:=s.sx
 have o: ¬O W.heap.size:=fun q=>by have:=h.lt q;omega
 have I:=aa r
 have A:=bB W #[ab 9,ab j] 83 0 _ rfl
 have z:=bB W #[ab 9,ab j] 83 1 _ rfl
 have F:Hid (∀V T' M' e,SX w (W.alloc (.cells #[ab 9,ab j] 83)) V b a P n q T' M' c d e O->V.cell? (ao W.heap.size)=some (ab 9)/\V.cell? (af W.heap.size 1)=some (ab j)):=fun V T' M' e k=>⟨k.keep o A,k.keep o z⟩
 have D:Hid (aB 166 #[ak c,.pointer (some (af a.th (x*10))),.agg #[ab 9,ab j],ab 0] (W.alloc (.cells #[ab 9,ab j] 83)) fun i m=>i=aS #[]/\SX w (W.alloc (.cells #[ab 9,ab j] 83)) m b a P n q T M c d (l++[⟨5,(d:Int),(M.th x).p,(M.th x).g,9,0⟩]) O/\m.cell? (af a.th (x*10))=some (ab (M.th x).p)/\m.cell? (af a.th (x*10+1))=some (aM ((M.th x).g:Int))):=(v.ie z_ x t 9 j).mono (fun i m ⟨B,k⟩=>⟨B,k,(k.tr t).c0,(k.tr t).c1⟩)
 have E:=aa (fun V C=>u (W.alloc (.cells #[ab 9,ab j] 83)) V C)
 clear h s v r o u
 generalize (M.th x).p=N at*
 generalize (M.th x).g=Q at*
 refine ge ?_
 go_wp2_with (first
  |(go_at_call 166;refine(D.out).mono ?_;rintro i L ⟨rfl,k,S,R⟩;have H:=aa k;clear k)
  |(go_at_call 171;refine cH (E.out _ (by exact H.out)) fun J G=> ?_))
 go_end0
 grind[RowKit.Hid.out,SX.ahead]
noncomputable def yD (M:Mc) (x:Nat) (g:Int):Mc:={M with gr:=(Pi.bM M.gr (M.th x).p g).2}
def SG.tR (h:SG w W b a P n q T M c d l O) (hl:l.length<=9000) (x:Nat) (J:x<n) (k L D:Int) (z:(Pi.bM M.gr (M.th x).p k).1.1=L) (y:(Pi.bM M.gr (M.th x).p k).1.2=D) (F:D≠0):
  aB 126 #[ak c,.pointer (some (af a.th (x*10))),.agg #[ab 3,ab k]] W fun j t=>j= .panicked ed/\SX w W t b a P n q T (yD M x k) c d (l++[⟨6,(d:Int),(M.th x).p,(M.th x).g,3,D⟩]) O:=by
 have s:aC W (W.alloc (.cells #[ab 3,ab k] 83)):=bq
 have v:=h.below s
 have G:=v.sx
 have r: ¬O W.heap.size:=fun q=>by have:=h.lt q;omega
 have C:=aa s
 have X:=bB W #[ab 3,ab k] 83 0 _ rfl
 have U:=bB W #[ab 3,ab k] 83 1 _ rfl
 have A:Hid (∀V T' M' e,SX w (W.alloc (.cells #[ab 3,ab k] 83)) V b a P n q T' M' c d e O->V.cell? (ao W.heap.size)=some (ab 3)/\V.cell? (af W.heap.size 1)=some (ab k)):=fun V T' M' e u=>⟨u.keep r X,u.keep r U⟩
 have Y:=aa fun V (o:SX w (W.alloc (.cells #[ab 3,ab k] 83)) V b a P n q T M c d l O)=>by
  have:=o.lift (R:=fun j=>j=aS #[ab (Pi.bM M.gr (M.th x).p k).1.1,ab (Pi.bM M.gr (M.th x).p k).1.2]) (fun _ i=>i.unlock (M.th x).p k)
  rw[z,y] at this
  exact this
 have I:Hid (∀V T' M' e,M'.th x=M.th x->SX w (W.alloc (.cells #[ab 3,ab k] 83)) V b a P n q T' M' c d e O->V.cell? (ao c)=some (ak a.m)/\V.cell? (af a.m 7)=some (ak a.gb)/\V.cell? (af a.th (x*10))=some (ab (M.th x).p)/\V.cell? (af W.heap.size 1)=some (ab k)):=fun V T' M' e j o=>⟨o.c0,o.core.c7,by rw[<-j];exact(o.tr J).c0,(A.out V _ _ _ o).2⟩
 obtain⟨g0,g7,gp,_⟩:=I.out _ _ _ _ rfl G
 have H0:=aa G
 have Z:=aa fun V (o:SX w (W.alloc (.cells #[ab 3,ab k] 83)) V b a P n q T {M with gr:=(Pi.bM M.gr (M.th x).p k).2} c d l O)=>o.qT z_ x J 3 k D F
 unfold yD
 have H:=aa (fun V e o=>I.out V T {M with gr:=(Pi.bM M.gr (M.th x).p k).2} e rfl o)
 clear h v G s r z y I
 generalize (M.th x).p=N at*
 generalize (M.th x).g=tg at*
 refine ge ?_
 go_wp2
 go_region_held3 (fun t=>t.cell? (ao c)=some (ak a.m)/\t.cell? (af a.m 7)=some (ak a.gb)/\t.cell? (af a.th (x*10))=some (ab N)/\t.cell? (af W.heap.size 1)=some (ab k))
  (first|exact H.out _ _ HG.out|go_keep)
  (first
   |(go_at_call 165;refine(Y.out _ (by exact SX.dc H0.out rfl rfl rfl rfl)).mono ?_;rintro j w1 ⟨rfl,u⟩;have HG:=aa u;have E:=A.out _ _ _ _ u;have S:=E.1;have Q:=E.2;clear u E))
 go_wp2_with (go_at_call 166;refine cH (Z.out _ (by exact SX.dc HG.out rfl rfl rfl rfl)) fun w2 B=> ?_)
 simp[bodyPost]
 first|exact⟨rfl,B.out.ahead C.out⟩|exact B.out.ahead C.out
def SG.Cj (h:SG w W b a P n q T M c d l O) (hl:l.length<=9000) (x:Nat) (J:x<n) (k B:Int) (A:(Pi.bM M.gr (M.th x).p k).1.1=B) (z:(Pi.bM M.gr (M.th x).p k).1.2=0)
  (L: ∀N V,SX w N V b a P n q T (yD M x k) c d (l++[⟨5,(d:Int),(M.th x).p,(M.th x).g,3,0⟩]) O->aB 167 #[ak c,ab B,ab k] V fun j r=>j=aS #[]/\SX w N r b a P n q T' M' c d e O):
  aB 126 #[ak c,.pointer (some (af a.th (x*10))),.agg #[ab 3,ab k]] W fun j r=>j=aS #[]/\SX w W r b a P n q T' M' c d e O:=by
 have u:aC W (W.alloc (.cells #[ab 3,ab k] 83)):=bq
 have y:=h.below u
 have D:=y.sx
 have t: ¬O W.heap.size:=fun q=>by have:=h.lt q;omega
 have I:=aa u
 have Z:=bB W #[ab 3,ab k] 83 0 _ rfl
 have Y:=bB W #[ab 3,ab k] 83 1 _ rfl
 have v:Hid (∀V T' M' e,SX w (W.alloc (.cells #[ab 3,ab k] 83)) V b a P n q T' M' c d e O->V.cell? (ao W.heap.size)=some (ab 3)/\V.cell? (af W.heap.size 1)=some (ab k)):=fun V T' M' e s=>⟨s.keep t Z,s.keep t Y⟩
 have HU:=aa fun V (o:SX w (W.alloc (.cells #[ab 3,ab k] 83)) V b a P n q T M c d l O)=>by
  have:=o.lift (R:=fun j=>j=aS #[ab (Pi.bM M.gr (M.th x).p k).1.1,ab (Pi.bM M.gr (M.th x).p k).1.2]) (fun _ i=>i.unlock (M.th x).p k)
  rw[A,z] at this
  exact this
 have H:Hid (∀V T' M' e,M'.th x=M.th x->SX w (W.alloc (.cells #[ab 3,ab k] 83)) V b a P n q T' M' c d e O->V.cell? (ao c)=some (ak a.m)/\V.cell? (af a.m 7)=some (ak a.gb)/\V.cell? (af a.th (x*10))=some (ab (M.th x).p)/\V.cell? (af W.heap.size 1)=some (ab k)):=fun V T' M' e j o=>⟨o.c0,o.core.c7,by rw[<-j];exact(o.tr J).c0,(v.out V _ _ _ o).2⟩
 obtain⟨g0,g7,gp,_⟩:=H.out _ _ _ _ rfl D
 have H0:=aa D
 have HR:=aa fun V (o:SX w (W.alloc (.cells #[ab 3,ab k] 83)) V b a P n q T {M with gr:=(Pi.bM M.gr (M.th x).p k).2} c d l O)=>o.ie z_ x J 3 k
 have HK:Hid (∀V,SX w (W.alloc (.cells #[ab 3,ab k] 83)) V b a P n q T {M with gr:=(Pi.bM M.gr (M.th x).p k).2} c d (l++[⟨5,(d:Int),(M.th x).p,(M.th x).g,3,0⟩]) O->aB 167 #[ak c,ab B,ab k] V fun j r=>j=aS #[]/\SX w (W.alloc (.cells #[ab 3,ab k] 83)) r b a P n q T' M' c d e O):=fun V o=>L (W.alloc (.cells #[ab 3,ab k] 83)) V o
 clear L
 have G:=aa (fun V e o=>H.out V T {M with gr:=(Pi.bM M.gr (M.th x).p k).2} e rfl o)
 clear h y D u t A z H
 generalize (M.th x).p=Q at*
 generalize (M.th x).g=tg at*
 refine ge ?_
 go_wp2
 go_region_held3 (fun r=>r.cell? (ao c)=some (ak a.m)/\r.cell? (af a.m 7)=some (ak a.gb)/\r.cell? (af a.th (x*10))=some (ab Q)/\r.cell? (af W.heap.size 1)=some (ab k))
  (first|exact G.out _ _ HG.out|go_keep)
  (first
   |(go_at_call 165;refine(HU.out _ (by exact SX.dc H0.out rfl rfl rfl rfl)).mono ?_;rintro j w1 ⟨rfl,s⟩;have HG:=aa s;have C:=v.out _ _ _ _ s;have X:=C.1;have U:=C.2;clear s C))
 go_wp2_with (first
  |(go_at_call 166;refine(HR.out _ (by exact SX.dc HG.out rfl rfl rfl rfl)).mono ?_;rintro j w2 ⟨rfl,s⟩;have F:=aa s;have S:=(v.out _ _ _ _ s).2;clear s)
  |(go_at_call 167;refine cH (HK.out _ (by exact F.out)) fun w3 E=> ?_))
 go_end0
 exact⟨rfl,E.out.ahead I.out⟩
end
section
variable {w W f:World} {d b:Nat->Nat} {a:Ad} {P n q T o:Nat} {M r:Mc} {c j:Nat} {l k:List Ev} {O e:Nat->Prop}
def ax.Pt (h:ax W b a P n q T M) {x:Nat} (p:x<n) (t:Tr) (i:t.ok):aD W (kL W a.th (x*10) t) b a P n q T {M with th:=ay M.th x t}:=by
 have m:=yC W a.th (x*10) t
 exact⟨b,h.OX p t i,h.same m,m.to (fun g _ s=>by rw[s,h.lth];decide)⟩
def Jb:iq.ok:=⟨x_,x_,x_,x_,x_⟩
def Hl (w:World):(Instr.build 130 #[]).run Tryz.prog w= .ok (.agg #[.int .i64 iq.p,.int .u32 iq.g,.int .i64 iq.pg,.int .u8 iq.lv,.int .u8 iq.lf,.int .i64 iq.sv,.int .i64 iq.pc,.int .i64 iq.ia,.int .i64 iq.il,.int .u64 iq.sn]) w:=run_build w 130 _ _ (by rfl)
def SX.sep (h:SX w f W d a P n q T M c j l e): ¬a.th=c/\ ¬c=a.th/\ ¬a.m=a.th/\ ¬a.th=a.m:=by
 obtain⟨b,v,s⟩:=h.sp
 have t:=s.ls
 have p:=s.at_.i.lth
 have g:=s.at_.i.lm
 grind
end
def dF (w w':World) (c:Nat->Nat) (a:Ad) (P n q T:Nat) (M:Mc) (v:Value):Prop:= ∃b,ax w' b a P n q T M/\oS w w' c b/\Fr (fun k=>c k≠0) w w'/\ ∀k,v.ownBlock=some k->b k=0
section
variable {w W p:World} {b j:Nat->Nat} {a:Ad} {P n q T d:Nat} {M e:Mc} {g c:Nat} {l:List Ev} {O k:Nat->Prop} {o:World}
def SX.PC (h:SX w o W b a P n q T M g c l k): ∃v,W.cell? (af g 3)=some v/\fK W w.heap.size v l/\dF w W b a P n q T M v:=by
 obtain⟨m,v,s⟩:=h.sp
 exact⟨v,s.c3,s.hv,m,s.at_.i,s.at_.l,s.at_.f,fun m r=>(s.hk m r).1⟩
def ax.FN (h:ax w b a P n q T M) (Y:c<P) (r:Int) (J:d+n<=1000000000)
  (s: ∀y O,SG w y b a P n q T M w.heap.size c [] O->aB 41 #[ak w.heap.size,aj r] y fun f z=>f=aS #[]/\SX w y z b a P n q d e w.heap.size c l O):
  aB 14 #[ak a.m,ab c,aj r] w fun f z=> ∃v,f=aS #[v,ab 0]/\fK z w.heap.size v l/\dF w z b a P n q (d+n) (Go.Proofs.YtnmhcgpnhlhcgaaGreatDoor.settle e n) v:=by
 have F:=aa (h.pf (c:Int))
 have u:gB P (c:Int)=true:=by unfold gB;grind
 rw[u] at F
 have Z:=h.co.c3
 have H:(c:Int)<P:=z_
 obtain⟨O,D⟩:=SG.start h c
 have Q:=aa (s _ O D)
 generalize E:w.alloc (.cells #[ak a.m,ab c,.pointer (some (af a.pr (c*3))),.slice none 0 0] 114)=y at*
 have N:=aa E
 have A:=aa fun V (h:SX w y V b a P n q d e w.heap.size c l O)=>h.lift (R:=fun f=>f=aS #[]) fun _ i=>i.settle J
 have I:=fun w=>Jk (ao a.m) (af a.pr (c*3)) (c:Int) w
 clear h D E s
 refine ge ?_
 go_upto_region 6 with (first
  |(go_at_call 40;refine cS F.out ?_))
 rw[N.out]
 go_upto_region 8 with (first
  |(go_at_call 41;refine cH Q.out fun X C=> ?_)
  |(go_at_call 42;refine cH (A.out _ C.out) fun U B=> ?_))
 obtain⟨v,S,t,x⟩:=B.out.PC
 obtain⟨ad,L,rfl⟩:=Cb.aJ t
 have G:=aa (And.intro t x)
 clear t x
 go_wp2
 go_ret2
 exact⟨_,rfl,G.out.1,G.out.2⟩
end
section
variable {w W e:World} {b c:Nat->Nat} {a:Ad} {P n q T d:Nat} {M f:Mc}
def aD.OD {g:World} (h:aD w g b a P n q T M) (o:Obj):dF w (g.alloc o) b a P n q T M (.slice (some (ao g.heap.size)) 1 1):=by
 obtain⟨i,hi,p,s⟩:=h
 have m:aC g (g.alloc o):=bq
 have j:=hi.below m
 have l:=s.then (dd (S:=fun _=>False) m) q_
 refine⟨i,j,⟨p.old,j.lt⟩,l,fun k r=> ?_⟩
 have:g.heap.size=k:=by simpa [Value.ownBlock] using r
 exact hi.fresh z_
def ax.ym (h:ax w b a P n q T M) (hT:T+n+1+n<=1000000000) (hG:Lj M n) (l:Int) (r:Nat) (H:r<256) (sv:Int) (F:dZ M l sv=false) (x:Nat) (X:cM M n=some x):
  aB 20 #[ak a.m,ab l,aA r,ab sv] w fun j t=> ∃v,j=aS #[v,ab 0]/\fK t w.heap.size v [⟨9,0,(x:Int),M.G x+1,l,0⟩]/\dF w t b a P n q (T+n+1+n) (qG P n q M x l r sv) v:=by
 have L:=aa (h.mg l)
 have HL:=aa h.LP
 obtain⟨g,R⟩: ∃g,M.G x+1=g:=⟨_,rfl⟩
 have S:Hid (aB 55 #[ak a.m,ab 0,.agg #[ab 0,aM 0,ab l,aA r,aA 0,ab sv,ab 0,ab 0,ab 0,aj 0]] w fun j t=>j=aS #[.agg #[ab 9,ab 0,ab x,aM g,ab l,ab 0],ab 0]/\aD w t b a P n q (T+n+1) (iJ P n q M x 0 (gA l r sv))):=by
  have:=h.su z_ hG 0 (gA l r sv) (xf l r sv H) x X
  rw[R] at this
  exact this
 have c6:=h.co.c6
 have hz:=h.t0.pos
 have y:Hid (∀W p,At w W b p a P n q (T+n+1) (iJ P n q M x 0 (gA l r sv))-> ∀k,p k=0->jf W k ⟨9,0,(x:Int),g,l,0⟩->aB 42 #[ak a.m] W fun j t=>j=aS #[]/\aD w t b a P n q (T+n+1+n) (qG P n q M x l r sv)/\jf t k ⟨9,0,(x:Int),g,l,0⟩):=fun W p A k Z u=>by
  refine(A.i.settle hT).mono ?_
  rintro j t ⟨rfl,s⟩
  obtain⟨O,D,ho,I⟩:=A.step s
  exact⟨rfl,D.goes,u.kept (I.box Z u.lt)⟩
 unfold dZ at F
 clear h
 generalize M.sv.length=E at*
 have V:iF M l=true:=y_
 have h1: ¬sv< -1:=y_
 have h2: ¬(E:Int)<=sv:=y_
 have d1:=yU0 h1
 have d2:=yU0 h2
 rw[V] at L
 have Y:=fun w=>tB l (r:Int) sv w
 rw[R]
 refine ge ?_
 go_upto_region 8 with (first
  |(go_at_call 53;refine cS L.out ?_)
  |(go_at_call 54;refine cS HL.out ?_)
  |(go_at_call 55;refine cH S.out fun C B=> ?_))
 obtain⟨p,N⟩:=B.out.open hz
 have D:=N.new (.cells #[ab 9,ab 0,ab x,aM g,ab l,ab 0] 80)
 have Q:=N.fresh aT
 have u:jf (C.alloc (.cells #[ab 9,ab 0,ab x,aM g,ab l,ab 0] 80)) C.heap.size ⟨9,0,(x:Int),g,l,0⟩:=⟨q_,q_,q_,q_,q_,q_,fun o=>q_⟩
 generalize C.alloc (.cells #[ab 9,ab 0,ab x,aM g,ab l,ab 0] 80)=W1 at*
 have J:=aa (y.out W1 p D C.heap.size Q u)
 clear y N D Q u B S L HL
 go_wp2_with (go_at_call 42;refine(J.out).mono ?_;rintro j U ⟨rfl,s,⟨e0,e1,e2,e3,e4,e5,ef⟩⟩;have z:=aa s;clear s)
 go_ret2
 exact⟨_,rfl,fK.one U w.heap.size z.out.size ⟨9,0,(x:Int),g,l,0⟩,z.out.OD _⟩
end
def nQ (w wr:World) (b:Ad) (P n q T:Nat) (M:Mc) (K:Nat->Prop):Prop:=(∃a,ax wr a b P n q T M/\(∀k,a k≠0->w.heap.size<=k)/\ ∀k,K k->a k=0/\k<wr.heap.size)/\aC w wr
section
variable {w wr w':World} {a:Ad} {P n q T T':Nat} {M M':Mc} {K:Nat->Prop}
theorem nQ.NO (h:nQ w wr a P n q T M K) {c:Nat->Nat} (r: ∀k,c k≠0->w.heap.size<=k) (i: ∀k,K k->c k=0/\k<wr.heap.size) {v:Value} {f:Nat} {l:List Ev} (g:dF wr w' c a P n q T' M' v) (o:fK w' f v l):nQ w w' a P n q T' M' (fun k=>K k\/v.ownBlock=some k)/\ ∀k,K k->w'.heap[k]? =wr.heap[k]? :=by
 obtain⟨_,m⟩:=h
 obtain⟨e,j,p,d,hz⟩:=g
 refine⟨⟨⟨e,j,fun k b=> ?_,fun k b=> ?_⟩,m.trans ⟨d.os,d.tape,d.output,d.size,fun k b=>d.block k (i8 b m.size) y_⟩⟩,fun k b=>d.block k (i k b).2 y_⟩
 ·grind[Nat.lt_or_ge,oS.old,Nat.le_trans,RowKit.Below.size]
 ·rcases b with b|b
  ·exact⟨(p.old k (i k b).2).trans (i k b).1,i8 (i k b).2 d.size⟩
  ·exact⟨hz k b,(o.lt b).1⟩
def nQ.call (h:nQ w wr a P n q T M K) {f:Nat} {args:Array Value} {R:Ending->World->Value->Prop} {b:Nat} {l:List Ev} (d: ∀c,ax wr c a P n q T M->aB f args wr fun e w'=> ∃v,R e w' v/\fK w' b v l/\dF wr w' c a P n q T' M' v):aB f args wr fun e w'=> ∃v,R e w' v/\fK w' b v l/\nQ w w' a P n q T' M' (fun k=>K k\/v.ownBlock=some k)/\ ∀k,K k->w'.heap[k]? =wr.heap[k]? :=by
 have m:=h
 obtain⟨⟨c,hi,j,i⟩,g⟩:=h
 grind[Calls.mono,nQ.NO]
def nQ.jC (h:nQ w wr a P n q T M K):aC w wr:=h.2
end
end Go.Proofs.YtnmhcgpnhlhcgaaGreatDoor
namespace Go.Proofs.YtnmhcgpnhlhcgaaGreatDoor
open Go.RowKit
section
variable {W w':World} {b:Nat->Nat} {a:Ad} {P n q T:Nat} {M:Mc}
def ax.sleep (h:ax W b a P n q T M) (f:Int) (t:Nat) (g:t<18446744073709551616):
  aB 169 #[ak a.wb,ab f,aj t] W fun e w'=>(∃c:Int,e= .returned (ab c))/\aD W w' b a P n q T {M with wh:=Wh.kO n M.wh f t}:=by
 refine(Wh.Nn h.wh f t g).mono ?_
 rintro e w' ⟨rfl,hw,j⟩
 have d:=(OP j).to (fun k _ i=>h.lw k i)
 exact⟨⟨_,rfl⟩,b,h.Oz (h.same d) d hw,h.same d,d.to z_⟩
def ax.advance (h:ax W b a P n q T M) (j:n<=12) (c:Nat) (i:c<18446744073709551616):
  aB 45 #[ak a.wb,aj c] W fun e w'=> ∃v,e= .returned v/\w'.ownsRow W.heap.size 3 1 v (Wh.due (max c M.nw) M.wh).length (Wh.iv (Wh.ai (Wh.due (max c M.nw) M.wh)))/\dF W w' b a P n q T {M with nw:=max c M.nw,wh:=Wh.late (max c M.nw) M.wh} v:=by
 refine(Wh.yN h.wh 12 Wh.Kq j c i).mono ?_
 rintro e w' ⟨⟨v,rfl,g⟩,hw,l⟩
 have d:=(OP l).to (fun k _ f=>h.lw k f)
 exact⟨v,rfl,g,b,h.Oz (h.same d) d hw,h.same d,d.to z_,fun k f=>h.fresh (au g f).1⟩
def ax.Qk (h:ax W b a P n q T M) {c:Nat} {v:Value} {g:List Cb.ck} (f: ∀k,v.ownBlock=some k->b k=6) (i:Cb.dy w' c a.sb P v g) {S:Nat->Prop} (l:Fr S W w') (m: ∀k,S k->k=a.sb\/some k=v.ownBlock):aD W w' b a P n q T {M with sv:=g}:=by
 have d:=(IE l).to (fun k _ j=>(m k j).elim (fun e=>by rw[e];exact h.lsb) (fun e=>f k e.symm))
 exact⟨b,h.AF (h.same d) d i f,h.same d,d.to z_⟩
def ax.Na (h:ax W b a P n q T M) (i:Int):
  aB 91 #[ak a.sb,ab i] W fun e w'=>e=aS #[.bool (Cb.Gy M.sv i),ab (Cb.jA M.sv i:Int)]/\aD W w' b a P n q T {M with sv:=Cb.fk M.sv i}:=by
 obtain⟨d,v,f,g⟩:=h.sv
 refine(Cb.xW f i).mono ?_
 rintro e w' ⟨rfl,c,j⟩
 exact⟨rfl,h.Qk g c j (fun _ q=>q)⟩
def ax.Mb (h:ax W b a P n q T M) (c:Nat) (s:c<18446744073709551616):
  aB 49 #[ak a.sb,aj c] W fun e w'=> ∃v,e= .returned v/\w'.ownsRow W.heap.size 3 1 v (Cb.jD M.sv c M.sv.length).length (Cb.kU (Cb.jD M.sv c M.sv.length))/\dF W w' b a P n q T {M with sv:=M.sv.map (Cb.pP c)} v:=by
 obtain⟨o,v,r,f⟩:=h.sv
 refine(Cb.CN r c s).mono ?_
 rintro e w' ⟨p,rfl,l,d,m⟩
 obtain⟨j,w,u,t⟩:=h.Qk f d m y_
 have i:=(IE m).to (fun k _ g=>f k g.symm)
 exact⟨p,rfl,l,b,h.AF (h.same i) i d f,h.same i,z_,fun k g=>h.fresh (au l g).1⟩
end
end Go.Proofs.YtnmhcgpnhlhcgaaGreatDoor
namespace Go.Proofs.YtnmhcgpnhlhcgaaGreatDoor
open Go.RowKit Go.Lib Go.Shelf
attribute [local go_sem ↓] Go.wp_at_zero Go.wp_at_succ
def GX (w d wr:World) (c:Nat->Nat) (a:Ad) (P n q T:Nat) (M:Mc) (v:Value) (l:List Ev) (K:Nat->Prop):Prop:=
 ∃b,At w wr c b a P n q T M/\fK wr w.heap.size v l/\(∀k,v.ownBlock=some k->b k=0/\ ¬K k)/\ ∀k,K k->b k=0/\k<wr.heap.size/\wr.heap[k]? =d.heap[k]?
section
variable {w W0 wr w':World} {b:Nat->Nat} {a:Ad} {P n q T T':Nat} {M M':Mc} {v:Value} {l:List Ev} {K:Nat->Prop}
def GX.start (h:ax w b a P n q T M):GX w w w b a P n q T M (.slice none 0 0) [] (fun _=>False):=
 ⟨b,h.Ps,fK.nil _ _,fun k e=>(by cases e),fun k e=>(False.elim e)⟩
def GX.goes (h:GX w W0 wr b a P n q T M v l K) (g: ∀c,ax wr c a P n q T M->aD wr w' c a P n q T' M'):GX w W0 w' b a P n q T' M' v l K:=by
 obtain⟨c,A,f,m,r⟩:=h
 obtain⟨d,p,j,o⟩:=A.step (g c A.i)
 refine⟨d,p,aQ f (fun k e=>o.block k (f.lt e).1 y_),fun k e=>⟨by rw[j k (f.lt e).1];grind,(m k e).2⟩,fun k e=> ?_⟩
 grind[Fr.block]
def GX.call (h:GX w W0 wr b a P n q T M v l K) {f:Nat} {args:Array Value} {R:Ending->Prop} (s: ∀c,ax wr c a P n q T M->aB f args wr fun e w'=>R e/\aD wr w' c a P n q T' M'):aB f args wr fun e w'=>R e/\GX w W0 w' b a P n q T' M' v l K:=by
 obtain⟨c,A,g,m,u⟩:=h
 refine(s c A.i).mono (fun e w' ⟨r,o⟩=>⟨r,?_⟩)
 obtain⟨d,t,j,p⟩:=A.step o
 refine⟨d,t,aQ g (fun k e=>p.block k (g.lt e).1 y_),fun k e=>⟨by rw[j k (g.lt e).1];grind,(m k e).2⟩,fun k e=> ?_⟩
 grind[Fr.block]
def GX.K0 (h:GX w W0 wr b a P n q T M v l K) {f:Nat} {d:Array Value} {R:Ending->Value->World->Prop} (y: ∀c,ax wr c a P n q T M->aB f d wr fun e w'=> ∃u,R e u w'/\(∀k,u.ownBlock=some k->wr.heap.size<=k/\k<w'.heap.size)/\dF wr w' c a P n q T' M' u):aB f d wr fun e w'=> ∃u,R e u w'/\GX w w' w' b a P n q T' M' v l (fun k=>K k\/u.ownBlock=some k)/\ ∀k,K k->w'.heap[k]? =W0.heap[k]? :=by
 obtain⟨c,A,j,o,B⟩:=h
 refine(y c A.i).mono (fun e w' ⟨u,x,s,g,r,m,p,hz⟩=>⟨u,x,⟨g,⟨r,A.l.then m A.f.size,A.f.then p (fun k o t=>by rw[<-A.l.old k o];exact t),A.z⟩,aQ j (fun k e=>p.block k (j.lt e).1 y_),fun k e=>⟨by rw[m.old k (j.lt e).1];grind,fun q=> ?_⟩,fun k e=> ?_⟩,fun k e=> ?_⟩)
 ·rcases q with q|q
  ·grind
  ·have:=(s k q).1
   have:=(j.lt e).1
   omega
 ·grind[oS.old,Nat.lt_of_lt_of_le,Fr.size]
 grind[Fr.block]
def GX.OO (h:GX w W0 wr b a P n q T M (.slice none 0 0) [] K) {f:Nat} {d:Array Value} {R:Ending->Value->Prop} {r:List Ev} (F: ∀c,ax wr c a P n q T M->aB f d wr fun e w'=> ∃u,R e u/\fK w' wr.heap.size u r/\dF wr w' c a P n q T' M' u):aB f d wr fun e w'=> ∃u,R e u/\GX w W0 w' b a P n q T' M' u r K:=by
 obtain⟨c,A,J,t,L⟩:=h
 refine(F c A.i).mono (fun e w' ⟨u,E,s,m,y,C,D,hz⟩=>⟨u,E,m,⟨y,A.l.then C A.f.size,A.f.then D (fun k t B=>by rw[<-A.l.old k t];exact B),A.z⟩,?_,fun k e=>⟨hz k e,fun q=> ?_⟩,fun k e=> ?_⟩)
 ·obtain⟨x,I|⟨g,p,j,o,H,G⟩⟩:=s
  ·exact⟨x,.inl I⟩
  ·exact⟨x,.inr ⟨g,p,j,o,zY0 A.f.size H,G⟩⟩
 ·have:=(s.lt e).2
  grind
 grind[oS.old,Fr.block]
theorem GX.more (h:GX w W0 wr b a P n q T M v l K) (d:aC wr w'):GX w W0 w' b a P n q T M v l K:=by
 obtain⟨c,A,f,g,i⟩:=h
 refine⟨c,A.below d,f.below d,g,fun k e=> ?_⟩
 grind[RowKit.Below.block]
def GX.dc (h:GX w W0 wr b a P n q T M v l K) (f:w'.heap=wr.heap) (e:w'.os=wr.os) (d:w'.tape=wr.tape) (c:w'.output=wr.output):GX w W0 w' b a P n q T M v l K:=h.more mK
def GX.bZ (h:GX w W0 wr b a P n q T M v l K) (c:T<=T'):GX w W0 wr b a P n q T' M v l K:=h.goes fun _ i=>(i.bZ c).goes
theorem GX.i (h:GX w W0 wr b a P n q T M v l K): ∃c,ax wr c a P n q T M:=⟨_,h.choose_spec.1.i⟩
def GX.ev (h:GX w W0 wr b a P n q T M v l K):fK wr w.heap.size v l:=h.choose_spec.2.1
theorem GX.out (h:GX w W0 wr b a P n q T M v l K):fK wr w.heap.size v l/\dF w wr b a P n q T M v:=by
 obtain⟨c,A,d,g,j⟩:=h
 exact⟨d,c,A.i,A.l,A.f,fun k e=>(g k e).1⟩
def GX.core (h:GX w W0 wr b a P n q T M v l K):Core wr a P n M.qu M.ag:=by grind[GX.i,ax.co]
theorem GX.tr (h:GX w W0 wr b a P n q T M v l K) {x:Nat} (c:x<n):bC wr a.th (x*10) (M.th x):=by obtain⟨k,i⟩:=h.i;exact i.th.at_ x c
def GX.tok (h:GX w W0 wr b a P n q T M v l K) {x:Nat} (c:x<n):(M.th x).ok:=by obtain⟨k,i⟩:=h.i;exact i.th.ok x c
def GX.Gb (h:GX w W0 wr b a P n q T M v l K) (o:Nat):wr.frozen? (af a.th o)=false:=by obtain⟨k,i⟩:=h.i;exact i.th.fz o
def GX.pc (h:GX w W0 wr b a P n q T M v l K) {x:Nat} (c:x<P):iu wr a.pr (x*3) (M.pc x):=by obtain⟨k,i⟩:=h.i;exact i.pc.at_ x c
def GX.wl (h:GX w W0 wr b a P n q T M v l K):w.heap.size<=wr.heap.size:=by obtain⟨k,A,_⟩:=h;exact A.f.size
def GX.told (h:GX w W0 wr b a P n q T M v l K) {m:Value} {w1:World} {ev:Ev} (y:w1.ownsRow w.heap.size 80 6 m (l.length+1) (bF l++cD ev)) (g:wr.grownBy w1 v.ownBlock) (r:m.ownBlock=v.ownBlock\/m.ownBlock=some wr.heap.size):GX w W0 w1 b a P n q T M m (l++[ev]) K:=by
 obtain⟨d,A,t,u,B⟩:=h
 have p:=fun c (x:c<wr.heap.size) (s:v.ownBlock≠some c)=>g.block c x y_
 have j:Fr (fun k=>d k=0/\w.heap.size<=k) wr w1:=⟨g.os,g.tape,g.output,g.size,fun k o s=>p k o (fun e=>s ⟨(u k e).1,(t.lt e).2⟩)⟩
 have hz:=A.z
 have hi:=A.i.frame j z_ z_
 refine⟨d,⟨hi,⟨A.l.old,hi.lt⟩,A.f.then j z_,hz⟩,?_,fun k e=> ?_,fun k e=> ?_⟩
 ·grind[fK,mu]
 ·rcases r with q|q
  ·grind
  ·rw[q] at e
   injection e with e
   rw[<-e]
   refine⟨A.fresh aT,fun q=> ?_⟩
   grind
 grind
end
section
variable {W w':World} {b:Nat->Nat} {a:Ad} {P n q T:Nat} {M:Mc} {c:Nat}
def ax.vg (h:ax W b a P n q T M) (g:c<P) (s:Nat) (f:s<18446744073709551616):aD W (W.setCell (af a.pr (c*3+1)) (aj s)) b a P n q T {M with pc:=ay M.pc c {M.pc c with s:=s}}:=by
 have d:Fr (fun k=>b k=3) W (W.setCell (af a.pr (c*3+1)) (aj s)):=(Fr.refl _ _).setCell (a:=(af a.pr _)) h.lpr _
 exact⟨b,h.JF (h.same d) d (h.pc.put ((h.pc.at_ c g).K6 s) f (fun j i e=>(h.pc.at_ j i).fM (Ok e x_) _) (fun o=>by rw[aR];exact h.pc.fz o)),h.same d,d.to (fun k _ l=>by omega)⟩
def ax.CL (h:ax W b a P n q T M) (f:c<P) (m:Bool):aD W (W.setCell (af a.pr (c*3+2)) (.bool m)) b a P n q T {M with pc:=ay M.pc c {M.pc c with m:=m}}:=by
 have d:Fr (fun k=>b k=3) W (W.setCell (af a.pr (c*3+2)) (.bool m)):=(Fr.refl _ _).setCell (a:=(af a.pr _)) h.lpr _
 exact⟨b,h.JF (h.same d) d (h.pc.put ((h.pc.at_ c f).Ku m) (h.pc.ok c f) (fun j g e=>(h.pc.at_ j g).fM (Ok e x_) _) (fun o=>by rw[aR];exact h.pc.fz o)),h.same d,d.to (fun k _ i=>by omega)⟩
def Ij {α:Type} (f:Nat->α) (i:Nat) (u v:α):ay (ay f i u) i v=ay f i v:=by
 grind[ay]
def nZ (M:Mc) (c:Nat):Mc:={M with pc:=ay M.pc c (countP (M.pc c) M.qu)}
def ax.count (h:ax W b a P n q T M) (j:c<P) (t:(M.pc c).s+1<18446744073709551616):
  aB 90 #[.pointer (some (af a.pr (c*3))),aj M.qu] W fun e w'=>e=aS #[]/\aD W w' b a P n q T (nZ M c):=by
 have w:=(h.pc.at_ c j).c1
 have v:=(h.pc.at_ c j).c2
 have u:=h.pc.fz
 have m:=h.vg j ((M.pc c).s+1) t
 by_cases l:(M.pc c).s+1=M.qu
 ·have d:aD W (((W.setCell (af a.pr (c*3+1)) (aj (((M.pc c).s+1:Nat):Int))).setCell (af a.pr (c*3+1)) (aj 0)).setCell (af a.pr (c*3+2)) (.bool true)) b a P n q T (nZ M c):=by
   have r:=(m.then (fun _ i=>i.vg j 0 x_)).then (fun _ i=>i.CL j true)
   unfold nZ countP
   rw[if_pos l]
   simp only[Ij,aE] at r
   exact r
  generalize (M.pc c).s=s at*
  generalize M.qu=f at*
  have g:(s:Int)+1=(f:Int):=z_
  have o:((s:Int)+1==(f:Int))=true:=y_
  have k:(((s+1:Nat):Int))=(s:Int)+1:=z_
  rw[k,g] at d
  have p:=aa d
  clear h m d l k
  refine ge ?_
  go_wp2
  go_end0
  exact⟨rfl,p.out⟩
 ·have d:aD W (W.setCell (af a.pr (c*3+1)) (aj (((M.pc c).s+1:Nat):Int))) b a P n q T (nZ M c):=by
   unfold nZ countP
   rw[if_neg l]
   exact m
  generalize (M.pc c).s=s at*
  generalize M.qu=f at*
  have g: ¬(s:Int)+1=(f:Int):=z_
  have o:((s:Int)+1==(f:Int))=false:=y_
  have k:(((s+1:Nat):Int))=(s:Int)+1:=z_
  rw[k] at d
  have p:=aa d
  clear h m d l k
  refine ge ?_
  go_wp2
  go_end0
  exact⟨rfl,p.out⟩
end
def fU (il:Int):Int:=if 0<il then il-1 else il
noncomputable def rn (M:Mc) (p:Nat):Mc:=
 if (M.pc p).r= -1 then M
 else{nZ (xw M (M.pc p).r.toNat (M.th (M.pc p).r.toNat).ia (fU (M.th (M.pc p).r.toNat).il)) p with sv:=Cb.fk M.sv (M.th (M.pc p).r.toNat).sv}
noncomputable def Hf (M:Mc) (p:Nat):List Ev:=
 if (M.pc p).r= -1 then []
 else if Cb.Gy M.sv (M.th (M.pc p).r.toNat).sv then [⟨12,(p:Int),(M.th (M.pc p).r.toNat).p,(M.th (M.pc p).r.toNat).g,(M.th (M.pc p).r.toNat).sv,0⟩] else []
noncomputable def dK (M:Mc):Nat->Mc
 |0=>M
 |j+1=>rn (dK M j) j
noncomputable def rD (M:Mc):Nat->List Ev
 |0=>[]
 |j+1=>rD M j++Hf (dK M j) j
structure Ny (P n:Nat) (M:Mc):Prop where
 r: ∀p,p<P->(M.pc p).r= -1\/ ∃x:Nat,x<n/\(M.pc p).r=(x:Int)
 s: ∀p,p<P->(M.pc p).s<M.qu
def MN (M:Mc) (p j:Nat) (h:j≠p):(rn M p).pc j=M.pc j:=by
 unfold rn
 split
 ·rfl
 ·exact aq _ _ _ _ h
def DJ (M:Mc): ∀(j i:Nat),j<=i->(dK M j).pc i=M.pc i
 |0,_,_=>rfl
 |j+1,i,h=>(MN _ j i z_).trans (DJ M j i z_)
def M9 (M:Mc) (p:Nat):(rn M p).qu=M.qu:=by unfold rn;split<;>rfl
def DA (M:Mc): ∀j,(dK M j).qu=M.qu
 |0=>rfl
 |j+1=>(M9 _ j).trans (DA M j)
def tK (M:Mc): ∀j,(rD M j).length<=j
 |0=>aT
 |j+1=>by
  have:=tK M j
  have:(Hf (dK M j) j).length<=1:=by unfold Hf;grind
  show(rD M j++Hf (dK M j) j).length<=j+1
  grind
section
variable {w:World} {b:Nat->Nat} {a:Ad} {P n q T:Nat} {M:Mc}
def ax.work (h:ax w b a P n q T M) (hr:Ny P n M):
  aB 48 #[ak a.m] w fun e w'=> ∃v,e= .returned v/\fK w' w.heap.size v (rD M P)/\dF w w' b a P n q T (dK M P) v:=by
 have a6:=GX.start h
 have c3:=h.co.c3
 have hP:=h.hP
 have f0:=h.hq.1
 have HR:=aa hr
 have e5:=aa a6
 obtain⟨i0,c9,b7,b6,b5⟩:=Cb.info_parts nI
 clear h hr a6
 refine ge ?_
 go_wp2
 go_loopw [3,14] (fun tv iv wr=> ∃(j:Nat),j<=P/\iv=ab j/\GX w w wr b a P n q T (dK M j) tv (rD M j) (fun _=>False)) (fun _ iv _=>P-(RowKit.intOf iv).toNat)
 case atStart=>exact⟨0,z_,rfl,e5.out⟩
 case round=>
  obtain⟨j,hj,rfl,l⟩:=hrel
  have HX:=aa l
  obtain⟨z,d,rfl⟩:=Cb.aJ l.ev
  have d3:=l.core.c3
  have d4:=l.core.c4
  have d0:=l.core.c0
  have d6:=l.core.c6
  by_cases G:j<P
  ·have a4:(j:Int)<P:=by omega
   have O:=DJ M j j aT
   have A:=DA M j
   have f1:=tK M j
   have e0:=(l.pc G).c0
   rw[O] at e0
   rcases HR.out.r j G with a0|⟨x,k,Y⟩
   ·rw[a0] at e0
    have hN:GX w w wr b a P n q T (dK M (j+1)) (.slice z (rD M j).length d) (rD M (j+1)) (fun _=>False):=by
     show GX w w wr b a P n q T (rn (dK M j) j) _ (rD M j++Hf (dK M j) j) _
     unfold rn Hf
     rw[if_pos y_,if_pos y_,List.append_nil]
     exact l
    have HN:=aa hN
    clear hN l O A a0
    go_wp2
    go_roundw
    case rel=>exact⟨j+1,z_,by go_num,HN.out⟩
    case measure=>simp[RowKit.intOf];omega
   ·rw[Y] at e0
    have J:(dK M j).qu=M.qu:=A
    obtain⟨t,ht⟩: ∃t,(dK M j).th x=t:=⟨_,rfl⟩
    obtain⟨cb,a7⟩: ∃cb,Cb.Gy (dK M j).sv t.sv=cb:=⟨_,rfl⟩
    have b9:((dK M j).pc j).r.toNat=x:=y_
    have Z: ¬((dK M j).pc j).r= -1:=y_
    have b0:Hid (dK M (j+1)={nZ (xw (dK M j) x t.ia (fU t.il)) j with sv:=Cb.fk (dK M j).sv t.sv}/\rD M (j+1)=if cb then rD M j++[⟨12,(j:Int),t.p,t.g,t.sv,0⟩] else rD M j):=by
     refine⟨?_,?_⟩
     ·show rn (dK M j) j=_
      unfold rn
      grind
     ·show rD M j++Hf (dK M j) j=_
      unfold Hf
      grind
    have b8:(M.pc j).s<M.qu:=HR.out.s j G
    have a2:((dK M j).pc j).s+1<18446744073709551616:=y_
    have F:=l.tok k
    rw[ht] at F
    have X:fU t.il<9223372036854775808:=by have:=F.il;unfold fU;omega
    generalize dK M j=N at*
    generalize rD M j=L at*
    have HT:Hid (∀V,vQ 89 #[.agg #[ab t.ia,ab t.il]] V (.agg #[ab t.ia,ab (fU t.il)])):=fun V=>Ex.lO V t.ia t.il F.il
    have HF:Hid (∀V,GX w w V b a P n q T N (.slice z L.length d) L (fun _=>False)->GX w w ((V.setCell (af a.th (x*10+7)) (ab t.ia)).setCell (af a.th (x*10+8)) (ab (fU t.il))) b a P n q T (xw N x t.ia (fU t.il)) (.slice z L.length d) L (fun _=>False)):=fun V y=>y.goes (fun _ i=>i.xn k _ _ X)
    have HC:Hid (∀V,GX w w V b a P n q T (xw N x t.ia (fU t.il)) (.slice z L.length d) L (fun _=>False)->aB 90 #[.pointer (some (af a.pr (j*3))),aj M.qu] V fun e w'=>e=aS #[]/\GX w w w' b a P n q T (nZ (xw N x t.ia (fU t.il)) j) (.slice z L.length d) L (fun _=>False)):=fun V y=>y.call (R:=fun e=>e=aS #[]) (fun _ i=>by rw[<-J];exact i.count G a2)
    have e6:Hid (∀V,GX w w V b a P n q T (nZ (xw N x t.ia (fU t.il)) j) (.slice z L.length d) L (fun _=>False)->aB 91 #[ak a.sb,ab t.sv] V fun e w'=>(∃c:Int,e=aS #[.bool cb,ab c])/\GX w w w' b a P n q T {nZ (xw N x t.ia (fU t.il)) j with sv:=Cb.fk N.sv t.sv} (.slice z L.length d) L (fun _=>False)):=fun V y=>y.call (R:=fun e=> ∃c:Int,e=aS #[.bool cb,ab c]) (fun _ i=>(i.Na t.sv).mono (fun e w' hq=>⟨⟨(Cb.jA N.sv t.sv:Int),by have W:=hq.1;rw[<-a7];exact W⟩,hq.2⟩))
    have C:Hid (∀V (M':Mc) v' l',M'.th=(xw N x t.ia (fU t.il)).th->GX w w V b a P n q T M' v' l' (fun _=>False)->V.cell? (ao a.m)=some (aj M'.qu)/\V.cell? (af a.m 6)=some (ak a.sb)/\V.cell? (af a.th (x*10+5))=some (ab t.sv)/\V.cell? (af a.th (x*10))=some (ab t.p)/\V.cell? (af a.th (x*10+1))=some (aM t.g)):=fun V M' v' l' e y=>by
     have q:=y.tr k
     have e2:M'.th x={t with ia:=t.ia,il:=fU t.il}:=by rw[e];show ay N.th x _ x=_;grind[ay]
     rw[e2] at q
     exact⟨y.core.c0,y.core.c6,q.c5,q.c0,q.c1⟩
    have t7:=(l.tr k).c7
    have t8:=(l.tr k).c8
    rw[ht] at t7 t8
    have Gb:=l.Gb
    have e8:(x:Int)<n:=z_
    have a3:(xw N x t.ia (fU t.il)).qu=M.qu:=J
    have d7:=aa a3
    clear l O A Y J b8 a2 F X ht a7 b9 Z a3
    generalize fU t.il=tl at*
    go_upto_region 7 with fail
    go_region
    go_upto_region 10 with (first
     |(go_at_call 89;refine(HT.out _).mono ?_;rintro e w1 ⟨rfl,f⟩;have B:=HX.out.more (w':=w1) (by refine bt ?_ f;exact aK cj rfl rfl rfl rfl);have b1:=aa (HF.out _ B);have u7: ∃u,w1.cell? (af a.th (x*10+7))=some (ab u):=⟨_,(B.tr k).c7⟩;have u8: ∃u,w1.cell? (af a.th (x*10+8))=some (ab u):=⟨_,(B.tr k).c8⟩;obtain⟨u7,y7⟩:=u7;obtain⟨u8,y8⟩:=u8;have b3:=B.Gb;have z0:=(C.out _ _ _ _ rfl b1.out).1;rw[d7.out] at z0;clear B f)
     |(go_at_call 90;refine(HC.out _ (by exact b1.out)).mono ?_;rintro e w3 ⟨rfl,H⟩;have e4:=aa H;have hz:=C.out _ _ _ _ (by rfl) H;clear H))
    obtain⟨b4,z6,z5,zp,zg⟩:=hz
    clear HT HF HC
    go_region_held3 (fun w'=>w'.cell? (af a.m 6)=some (ak a.sb)/\w'.cell? (af a.th (x*10+5))=some (ab t.sv))
     (first|(have hk:=C.out _ _ _ _ (by rfl) HG4.out;simp_all)|go_keep)
     (first
      |(go_at_call 91;refine(e6.out _ (by exact GX.dc e4.out rfl rfl rfl rfl)).mono ?_;rintro e D ⟨⟨cc,rfl⟩,H⟩;have HG4:=aa H;clear H))
    rename_i hHeld
    clear hHeld z0 b4 z6 z5 zp zg y7 y8 b3
    obtain⟨e9,y6,y5,yp,yg⟩:=C.out _ _ _ _ (by rfl) HG4.out
    have o:=b0.out
    cases cb with
    |false=>
     have HN:Hid (GX w w D b a P n q T (dK M (j+1)) (.slice z L.length d) (rD M (j+1)) (fun _=>False)):=by
      show GX w w D b a P n q T (dK M (j+1)) (.slice z L.length d) (rD M (j+1)) (fun _=>False)
      rw[o.1,o.2]
      exact HG4.out
     clear o
     go_wp2
     go_roundw
     case rel=>exact⟨j+1,z_,by go_num,HN.out⟩
     case measure=>simp[RowKit.intOf];omega
    |true=>
     obtain⟨ev,U⟩: ∃ev:Ev,(⟨12,(j:Int),t.p,t.g,t.sv,0⟩:Ev)=ev:=⟨_,rfl⟩
     rw[U] at o
     have e3:Hid (∀V E,GX w w V b a P n q T {nZ (xw N x t.ia tl) j with sv:=Cb.fk N.sv t.sv} E (L++[ev]) (fun _=>False)->GX w w V b a P n q T (dK M (j+1)) E (rD M (j+1)) (fun _=>False)):=fun V E y=>by
      rw[o.1,o.2]
      exact y
     have e1:Hid (∀V v' l',GX w w V b a P n q T {nZ (xw N x t.ia tl) j with sv:=Cb.fk N.sv t.sv} v' l' (fun _=>False)->V.cell? (af a.th (x*10+5))=some (ab t.sv)/\V.cell? (af a.th (x*10))=some (ab t.p)/\V.cell? (af a.th (x*10+1))=some (aM t.g)):=fun V v' l' y=>(C.out V _ v' l' (by rfl) y).2.2
     generalize {nZ (xw N x t.ia tl) j with sv:=Cb.fk N.sv t.sv}=N4 at*
     clear o b0
     go_upto_region 12 with fail
     have f:aC D (D.alloc (.cells #[ab 12,ab j,ab t.p,aM t.g,ab t.sv,ab 0] 80)).drew:=((i4 _ D).alloc aT _).drew
     have W:=HG4.out.more f
     have q5:=kc f y5
     have qp:=kc f yp
     have qg:=kc f yg
     have d9:Hid (∀i u,(cD ev)[i]? =some u->(D.alloc (.cells #[ab 12,ab j,ab t.p,aM t.g,ab t.sv,ab 0] 80)).drew.cell? (((ao D.heap.size):Addr).add i)=some u):=by
      rw[<-U]
      exact Cb.gG (w1:=D) (c:=cD ⟨12,(j:Int),t.p,t.g,t.sv,0⟩) rfl
     generalize a8:(D.alloc (.cells #[ab 12,ab j,ab t.p,aM t.g,ab t.sv,ab 0] 80)).drew=W1 at*
     have d5:=aa a8
     have d8:=aa W.ev
     have e7:=aa W.wl
     have b2:Hid (∀E w2,w2.ownsRow w.heap.size 80 6 E (L.length+1) (bF L++cD ev)->W1.grownBy w2 (Value.slice z L.length d).ownBlock->(E.ownBlock=(Value.slice z L.length d).ownBlock\/E.ownBlock=some W1.heap.size)->GX w w w2 b a P n q T N4 E (L++[ev]) (fun _=>False)):=fun E w2 ho H d2=>W.told ho H d2
     clear a8 f W U
     refine wp_region_held_drew (S:=(fun w'=>w'.cell? (af a.th (x*10+5))=some (ab t.sv)/\w'.cell? (af a.th (x*10))=some (ab t.p)/\w'.cell? (af a.th (x*10+1))=some (aM t.g))) (by rfl) ?_ (fun hHeld=> ?_)
     ·simp_all
     refine st ?_
     repeat' first
      |refine dn ?_
      |refine tk ?_
      |refine rd ?_
      |exact oA
      |refine oE ?_
      |refine oC ?_ ?_
      | (refine dU 11 (fun K hK=> ?_)
         go_simp
         rw[d5.out]
         refine hK.out _ _ ?_ (fun hHeld=> ?_)
         ·simp_all
         clear hK K
         try simp only[cV])
      | (refine dU 12 (fun K hK=> ?_)
         refine cC _ (by rfl) _ _ _ (by rfl) w.heap.size 80 i0 (.agg #[ab 0,ab 0,ab 0,aM 0,ab 0,ab 0]) 6 48 Tryz.underlying38 c9 b7 b6 b5 rfl z_ (.slice z L.length d) L.length (bF L) (by rfl) d8.out (ao D.heap.size) 1 1 (cD ev) (by rfl) rfl d9.out (eV _) (by unfold maxLen;omega) z_ e7.out ?_
         intro E w5 Q a5 I
         have hX:=b2.out _ _ Q a5 I
         obtain⟨a1,d1,rfl⟩:=Cb.aJ Q
         have a9:=aa hX
         clear hX Q a5 I
         refine hK.out _ _ ?_ (fun hHeld=> ?_)
         ·exact e1.out _ _ _ a9.out
         clear hK K
         try simp only[cV])
     refine⟨?_⟩
     go_wp2
     go_roundw
     case rel=>exact⟨j+1,z_,by go_num,e3.out _ _ a9.out⟩
     case measure=>simp[RowKit.intOf];omega
  ·have c2:j=P:=by omega
   have a4: ¬(j:Int)<P:=z_
   subst c2
   clear l
   go_wp2
   go_ret
   exact⟨_,rfl,HX.out.out⟩
end
section
variable {w W:World} {b f:Nat->Nat} {a:Ad} {P n q T T':Nat} {M M':Mc} {d c:Nat} {l e:List Ev} {O:Nat->Prop}
noncomputable def wM (n:Nat) (M:Mc) (x g:Nat):Mc:={M with wh:=Wh.kO n M.wh (M.th x).p (Cb.fC M.nw g)}
noncomputable def nJ (n:Nat) (M:Mc) (c x h:Nat):Mc:=jz {wM n M x h with S:=cJ n M.G M.S (M.th x).p (M.th x).g 4} c (-1)
def SG.G6 (h:SG w W b a P n q T M d c l O) (hl:l.length<=9000) (hp:c<P) (x:Nat) (B:x<n) (ar:Nat) (a2:ar<9223372036854775808):
  aB 126 #[ak d,.pointer (some (af a.th (x*10))),.agg #[ab 5,ab ar]] W fun j r=>j=aS #[]/\SX w W r b a P n q T (nJ n M c x ar) d c (l++[⟨5,(c:Int),(M.th x).p,(M.th x).g,5,0⟩]) O:=by
 have t:aC W (W.alloc (.cells #[ab 5,ab ar] 83)):=bq
 have v:=h.below t
 have z:=v.sx
 have s: ¬O W.heap.size:=fun q=>by have:=h.lt q;omega
 have L:=aa t
 have k0:=bB W #[ab 5,ab ar] 83 0 _ rfl
 have k1:=bB W #[ab 5,ab ar] 83 1 _ rfl
 have y:Hid (∀V T' M' e,SX w (W.alloc (.cells #[ab 5,ab ar] 83)) V b a P n q T' M' d c e O->V.cell? (ao W.heap.size)=some (ab 5)/\V.cell? (af W.heap.size 1)=some (ab ar)):=fun V T' M' e u=>⟨u.keep s k0,u.keep s k1⟩
 obtain⟨Y,S⟩:=z.i
 have C:=S.M7
 have E:Hid (∀V,SX w (W.alloc (.cells #[ab 5,ab ar] 83)) V b a P n q T M d c l O->vS 47 #[ak a.m] V (aj M.nw)):=fun V o=>by
  obtain⟨lk,i⟩:=o.i
  exact i.now
 have N:Hid (∀V,vS 46 #[aj M.nw,aj ar] V (aj (Cb.fC M.nw ar:Int))):=fun V=>Cb.xx M.nw ar V C z_
 have D:Hid (∀V,SX w (W.alloc (.cells #[ab 5,ab ar] 83)) V b a P n q T M d c l O->aB 169 #[ak a.wb,ab (M.th x).p,aj (Cb.fC M.nw ar:Int)] V fun j r=>(∃k:Int,j= .returned (ab k))/\SX w (W.alloc (.cells #[ab 5,ab ar] 83)) r b a P n q T (wM n M x ar) d c l O):=fun V o=>o.lift (R:=fun j=> ∃k:Int,j= .returned (ab k)) (fun _ i=>i.sleep (M.th x).p (Cb.fC M.nw ar) (Cb.pd _ _))
 have J:Hid (∀V T' M' e,M'.th x=M.th x->SX w (W.alloc (.cells #[ab 5,ab ar] 83)) V b a P n q T' M' d c e O->V.cell? (ao d)=some (ak a.m)/\V.cell? (af a.m 9)=some (ak a.wb)/\V.cell? (af a.th (x*10))=some (ab (M.th x).p)/\V.cell? (af W.heap.size 1)=some (ab ar)):=fun V T' M' e j o=>⟨o.c0,o.core.c9,by rw[<-j];exact(o.tr B).c0,(y.out V _ _ _ o).2⟩
 obtain⟨g0,g9,gp,_⟩:=J.out _ _ _ _ rfl z
 have U:=aa z
 have HR:Hid (∀V,SX w (W.alloc (.cells #[ab 5,ab ar] 83)) V b a P n q T (wM n M x ar) d c l O->aB 166 #[ak d,.pointer (some (af a.th (x*10))),.agg #[ab 5,ab ar],ab 0] V fun j r=>j=aS #[]/\SX w (W.alloc (.cells #[ab 5,ab ar] 83)) r b a P n q T (wM n M x ar) d c (l++[⟨5,(c:Int),(M.th x).p,(M.th x).g,5,0⟩]) O):=fun V o=>o.ie z_ x B 5 (ar:Int)
 have F:Hid (∀V,SX w (W.alloc (.cells #[ab 5,ab ar] 83)) V b a P n q T (wM n M x ar) d c (l++[⟨5,(c:Int),(M.th x).p,(M.th x).g,5,0⟩]) O->aB 170 #[ak d,.pointer (some (af a.th (x*10))),ab 4] V fun j r=>j=aS #[]/\SX w (W.alloc (.cells #[ab 5,ab ar] 83)) r b a P n q T (nJ n M c x ar) d c (l++[⟨5,(c:Int),(M.th x).p,(M.th x).g,5,0⟩]) O):=fun V o=>o.leave hp x B 4
 have I:=aa (fun V e o=>J.out V T (wM n M x ar) e rfl o)
 have a1:IntKind.u64.wrap (ar:Int)=ar:=by rw[IntKind.wrap_u64];omega
 clear h v z t s J S
 generalize (M.th x).p=X at*
 generalize (M.th x).g=tg at*
 generalize nJ n M c x ar=SM at*
 generalize wM n M x ar=SL at*
 generalize Cb.fC M.nw ar=a3 at*
 generalize M.nw=nw at*
 refine ge ?_
 go_wp2
 go_region_held3 (fun r=>r.cell? (ao d)=some (ak a.m)/\r.cell? (af a.m 9)=some (ak a.wb)/\r.cell? (af a.th (x*10))=some (ab X)/\r.cell? (af W.heap.size 1)=some (ab ar))
  (first|exact I.out _ _ HG.out|go_keep)
  (first
   |(go_at_call 169;refine(D.out _ (by exact SX.dc U.out rfl rfl rfl rfl)).mono ?_;rintro j w1 ⟨⟨cc,rfl⟩,u⟩;have HG:=aa u;have A:=y.out _ _ _ _ u;have a0:=A.1;have Z:=A.2;clear u A)
   |(go_at_call 46;refine(N.out _).mono ?_;rintro j Q ⟨rfl,hw⟩;subst hw)
   |(go_at_call 47;refine(E.out _ (by exact SX.dc U.out rfl rfl rfl rfl)).mono ?_;rintro j Q ⟨rfl,hw⟩;subst hw))
 go_wp2_with (first
  |(go_at_call 166;refine cH (HR.out _ (by exact SX.dc HG.out rfl rfl rfl rfl)) fun w2 H=> ?_)
  |(go_at_call 170;refine cH (F.out _ (by exact H.out)) fun Q G=> ?_))
 go_end0
 exact⟨rfl,G.out.ahead L.out⟩
end
noncomputable def kM (P n q:Nat) (s:Mc×List Ev) (x:Nat):Mc×List Ev:=
 (ready P n q s.1 x (s.1.th x).pc,s.2++[⟨11,(s.1.th x).pc,(s.1.th x).p,(s.1.th x).g,0,0⟩])
noncomputable def bH (M:Mc):Mc:={M with nw:=max (Cb.fC M.nw 1) M.nw,wh:=Wh.late (max (Cb.fC M.nw 1) M.nw) M.wh}
noncomputable def fu (M:Mc):List Nat:=(Wh.due (max (Cb.fC M.nw 1) M.nw) M.wh).map (·.i)
noncomputable def ve (M:Mc):Mc:={M with sv:=M.sv.map (Cb.pP M.nw)}
noncomputable def kV (M:Mc):List Nat:=Cb.jD M.sv M.nw M.sv.length
def kP (i:Nat):Ev:=⟨13,0,0,0,(i:Int),0⟩
noncomputable def oJ (P n q:Nat) (M:Mc):Mc×List Ev:=
 (fu M).foldl (kM P n q) (ve (dK (bH M) P),rD (bH M) P++(kV (dK (bH M) P)).map kP)
noncomputable def mz (P n q:Nat) (M:Mc):Mc:=settle (oJ P n q M).1 n
noncomputable def iN (P n q:Nat) (M:Mc):List Ev:=(oJ P n q M).2++[⟨14,0,0,0,0,0⟩]
section
variable {w:World} {b:Nat->Nat} {a:Ad} {P n q T:Nat} {M:Mc}
def G3 (k i:Int) (w:World):(Instr.build 80 #[(0,ab k),(3,ab i)]).run Tryz.prog w= .ok (.agg #[ab k,ab 0,ab 0,aM 0,ab i,ab 0]) w:=run_build w 80 _ _ (by rfl)
def Ee (k p x g:Int) (w:World):(Instr.build 80 #[(0,ab k),(1,ab p),(2,.agg #[ab x,aM g])]).run Tryz.prog w= .ok (.agg #[ab k,ab p,ab x,aM g,ab 0,ab 0]) w:=run_build w 80 _ _ (by rfl)
def G8 (k:Int) (w:World):(Instr.build 80 #[(0,ab k)]).run Tryz.prog w= .ok (.agg #[ab k,ab 0,ab 0,aM 0,ab 0,ab 0]) w:=run_build w 80 _ _ (by rfl)
end
section
variable {w:World} {b:Nat->Nat} {a:Ad} {P n q T:Nat} {M:Mc}
def Ro (W:World) (d:Option Addr) (xs:List Nat) (K:Nat->Prop):Prop:= ∀(j x:Nat),xs[j]? =some x-> ∃c,d=some (ao c)/\K c/\W.cell? (af c j)=some (ab x)
def Ro.of {W:World} {d:Nat} {v:Value} {xs:List Nat} {i:List Value} {m:Nat} (h:W.ownsRow d 3 1 v m i) (s:m=xs.length) (r: ∀(j x:Nat),xs[j]? =some x->i[j]? =some (ab x)): ∃p c,v= .slice p xs.length c/\Ro W p xs (fun k=>v.ownBlock=some k):=by
 subst s
 rcases h with ⟨y,⟨e,hz⟩|⟨g,c,f,e,z,u,t⟩⟩
 ·refine⟨none,0,y_,fun j x l=> ?_⟩
  grind
 ·refine⟨some (ao g),c,e,fun j x l=>⟨g,rfl,by rw[e];rfl,?_⟩⟩
  have o:=r j x l
  rw[<-t.2.2.2,List.getElem?_take] at o
  split at o
  ·simp only[World.cell?,u]
   grind
  grind
def Ro.at {w W0 wr:World} {v:Value} {l:List Ev} {K:Nat->Prop} {i:Option Addr} {xs:List Nat} (h:Ro W0 i xs K) {T':Nat} {M':Mc} (g:GX w W0 wr b a P n q T' M' v l K):Ro wr i xs K:=fun j x k=>by
 obtain⟨c,e,f,o⟩:=h j x k
 obtain⟨d,A,r,m,p⟩:=g
 exact⟨c,e,f,(i5 (p c f).2.2).trans o⟩
def xY {β:Type} (f:β->Nat->β) (c:β) {l:List Nat} {j:Nat} {x:Nat} (h:l[j]? =some x):(l.take (j+1)).foldl f c=f ((l.take j).foldl f c) x:=by
 rw[List.take_add_one,h,List.foldl_append];rfl
def AZ (P n q:Nat): ∀(l:List Nat) (s:Mc×List Ev),(l.foldl (kM P n q) s).2.length=s.2.length+l.length
 |[],s=>rfl
 |x::l,s=>by
  rw[List.foldl_cons,AZ P n q l]
  simp[kM]
  omega
def ax.IF (h:ax w b a P n q T M) (hn:n<=12) (g4: ∀V E,ax V E a P n q T M->aB 45 #[ak a.wb,aj (Cb.fC M.nw 1:Int)] V fun e o=> ∃v,e= .returned v/\o.ownsRow V.heap.size 3 1 v (Wh.due (max (Cb.fC M.nw 1) M.nw) M.wh).length (Wh.iv (Wh.ai (Wh.due (max (Cb.fC M.nw 1) M.nw) M.wh)))/\dF V o E a P n q T (bH M) v) (hr:Ny P n M) (hT:T+(n+1)*n+n<=1000000000):
  aB 17 #[ak a.m] w fun e o=> ∃v,e= .returned v/\fK o w.heap.size v (iN P n q M)/\dF w o b a P n q (T+(n+1)*n+n) (mz P n q M) v:=by
 have d7:=GX.start h
 have c9:=h.co.c9
 have hP:=h.hP
 have c5:=h.M7
 have d9:=Cb.pd M.nw 1
 have f8:=h.wh.facts
 have f3:Hid (∀V,V.heap=w.heap->V.os=w.os->V.tape=w.tape->V.output=w.output->vS 47 #[ak a.m] V (aj M.nw)):=fun V e1 e2 e3 e4=>(h.below (aK cj e1 e2 e3 e4)).now
 have f7:Hid (∀V,vS 46 #[aj M.nw,aj 1] V (aj (Cb.fC M.nw 1:Int))):=fun V=>Cb.xx M.nw 1 V c5 x_
 have f6:Hid (∀V,V.heap=w.heap->V.os=w.os->V.tape=w.tape->V.output=w.output->aB 45 #[ak a.wb,aj (Cb.fC M.nw 1:Int)] V fun e o=> ∃ad b6,e= .returned (.slice ad (fu M).length b6)/\ ∃K,Ro o ad (fu M) K/\GX w o o b a P n q T (bH M) (.slice none 0 0) [] K):=fun V e1 e2 e3 e4=>by
  have H:GX w w V b a P n q T M (.slice none 0 0) [] (fun _=>False):=d7.dc e1 e2 e3 e4
  refine(H.K0 (T':=T) (M':=bH M) (R:=fun e u o=>e= .returned u/\o.ownsRow V.heap.size 3 1 u (Wh.due (max (Cb.fC M.nw 1) M.nw) M.wh).length (Wh.iv (Wh.ai (Wh.due (max (Cb.fC M.nw 1) M.nw) M.wh)))) (fun E i=>(g4 V E i).mono (fun e o ⟨u,he,Q,G⟩=>⟨u,⟨he,Q⟩,fun k U=>⟨(au Q U).1,(au Q U).2.1⟩,G⟩))).mono ?_
  rintro e o ⟨u,⟨rfl,Q⟩,G,_⟩
  obtain⟨ad,b6,rfl,O⟩:=Ro.of (xs:=fu M) Q (by unfold fu;simp) (fun j x y=>by
   unfold fu at y
   rw[List.getElem?_map] at y
   unfold Wh.iv Wh.ai
   rw[List.getElem?_map,List.getElem?_map]
   grind)
  grind
 have e0: ∀x∈fu M,x<n:=fun x y=>by
  unfold fu Wh.due at y
  grind
 have g6:(fu M).length<=n:=by
  unfold fu Wh.due
  grind
 have c3:Ny P n (bH M):=⟨hr.r,hr.s⟩
 obtain⟨i0,b4,b1,b0,a9⟩:=Cb.info_parts nI
 clear h d7 f8 c5 d9
 have e6:Hid (∀I V K,GX w I V b a P n q T (bH M) (.slice none 0 0) [] K->aB 48 #[ak a.m] V fun e o=> ∃u,e= .returned u/\GX w I o b a P n q T (dK (bH M) P) u (rD (bH M) P) K):=fun I V K H=>H.OO (R:=fun e u=>e= .returned u) (fun _ i=>i.work c3)
 have a8:Hid (∀I V K u l,GX w I V b a P n q T (dK (bH M) P) u l K->vS 47 #[ak a.m] V (aj ((dK (bH M) P).nw:Int))):=fun I V K u l H=>by
  obtain⟨lk,i⟩:=H.i
  exact i.now
 have h8:=tK (bH M) P
 have f0:Hid (∀I V K u l ad D,Ro I ad D K->GX w I V b a P n q T (dK (bH M) P) u l K->aB 49 #[ak a.sb,aj ((dK (bH M) P).nw:Int)] V fun e o=> ∃Y J,e= .returned (.slice Y (kV (dK (bH M) P)).length J)/\ ∃K2,Ro o Y (kV (dK (bH M) P)) K2/\Ro o ad D K2/\GX w o o b a P n q T (ve (dK (bH M) P)) u l K2):=fun I V K u l ad D hD H=>by
  obtain⟨lk,i⟩:=H.i
  have g1:=i.M7
  refine(H.K0 (T':=T) (M':=ve (dK (bH M) P)) (R:=fun e u o=>e= .returned u/\o.ownsRow V.heap.size 3 1 u (kV (dK (bH M) P)).length (Cb.kU (kV (dK (bH M) P)))) (fun E i=>(i.Mb (dK (bH M) P).nw g1).mono (fun e o ⟨u,he,Q,G⟩=>⟨u,⟨he,Q⟩,fun k U=>⟨(au Q U).1,(au Q U).2.1⟩,G⟩))).mono ?_
  rintro e o ⟨u2,⟨rfl,Q⟩,G,g2⟩
  obtain⟨Y,J,rfl,O⟩:=Ro.of (xs:=kV (dK (bH M) P)) Q rfl (fun j x y=>by unfold Cb.kU;grind)
  refine⟨Y,J,rfl,_,fun j x y=> ?_,fun j x y=> ?_,G⟩
  ·obtain⟨rb,e,U,hc⟩:=O j x y
   grind
  ·obtain⟨rb,e,U,hc⟩:=hD j x y
   exact⟨rb,e,.inl U,(i5 (g2 rb U)).trans hc⟩
 have g5:(kV (dK (bH M) P)).length<=(dK (bH M) P).sv.length:=Cb.mD _ _ _
 have f5:Hid (∀I V K u l M',GX w I V b a P n q T M' u l K->M'.sv.length<=32):=fun I V K u l M' H=>by
  obtain⟨lk,i⟩:=H.i
  obtain⟨d,v,hp,_⟩:=i.sv
  exact hp.f.len
 obtain⟨SW,b5⟩: ∃SW,oJ P n q M=SW:=⟨_,rfl⟩
 have e7:=aa b5
 unfold oJ at b5
 have b7:Hid (mz P n q M=Go.Proofs.YtnmhcgpnhlhcgaaGreatDoor.settle SW.1 n/\iN P n q M=SW.2++[⟨14,0,0,0,0,0⟩]):=by
  unfold Hid mz iN
  rw[e7.out]
  simp
 rw[b7.out.1,b7.out.2]
 clear e7 b7 c3 hr
 have H9:Hid (∀I V K u l M',GX w I V b a P n q T M' u l K->V.cell? (af a.m 9)=some (ak a.wb)/\V.cell? (af a.m 6)=some (ak a.sb)):=fun I V K u l M' H=>⟨H.core.c9,H.core.c6⟩
 generalize bH M=MA at*
 generalize rD MA P=LW at*
 generalize dK MA P=MW at*
 generalize kV MW=F at*
 generalize fu M=D at*
 generalize ve MW=M3 at*
 generalize Cb.fC M.nw 1=h6 at*
 generalize M.nw=h7 at*
 generalize MW.nw=h5 at*
 refine ge ?_
 go_wp2
 go_region_held3 (fun o=>o.cell? (af a.m 9)=some (ak a.wb))
  (first|exact(H9.out _ _ _ _ _ _ HG1.out).1|go_keep)
  (first
   |(go_at_call 45;refine(f6.out w.drew rfl rfl rfl rfl).mono ?_;rintro e w1 ⟨ad,b6,rfl,K,O,G⟩;have HG1:=aa G;have e8:=aa O;clear G O)
   |(go_at_call 46;refine(f7.out _).mono ?_;rintro e w3 ⟨rfl,hw⟩;subst hw)
   |(go_at_call 47;refine(f3.out w.drew rfl rfl rfl rfl).mono ?_;rintro e w3 ⟨rfl,hw⟩;subst hw))
 rename_i hHeld
 clear hHeld f6 f7 f3 c9
 go_wp2_with (go_at_call 48;refine(e6.out _ _ _ (by exact GX.dc HG1.out rfl rfl rfl rfl)).mono ?_;rintro e w2 ⟨tv,rfl,G⟩;have b9:=aa G;have d6:=(H9.out _ _ _ _ _ _ G).2;have h4:=f5.out _ _ _ _ _ _ G;clear G)
 clear e6
 go_region_held3 (fun o=>o.cell? (af a.m 6)=some (ak a.sb))
  (first|exact(H9.out _ _ _ _ _ _ HG3.out).2|go_keep)
  (first
   |(go_at_call 49;refine(f0.out _ _ _ _ _ _ _ e8.out (by exact GX.dc b9.out rfl rfl rfl rfl)).mono ?_;rintro e w3 ⟨Y,J,rfl,K2,a4,a3,G⟩;have HG3:=aa G;have e9:=aa a4;have f2:=aa a3;clear G a4 a3)
   |(go_at_call 47;refine cS (a8.out _ _ _ _ _ (by exact GX.dc b9.out rfl rfl rfl rfl)) ?_))
 rename_i hHeld
 clear hHeld f0 a8 e8 HG1 b9 d6 f5 H9
 go_wp2
 go_loopw [4,30] (fun tv iv wr=> ∃(j:Nat),j<=F.length/\iv=ab j/\GX w w3 wr b a P n q T M3 tv (LW++(F.take j).map kP) K2) (fun _ iv _=>F.length-(RowKit.intOf iv).toNat)
 case atStart=>exact⟨0,z_,rfl,by rw[List.take_zero,List.map_nil,List.append_nil];exact HG3.out⟩
 case round=>
  obtain⟨j,hj,rfl,y⟩:=hrel
  clear HG3
  by_cases g3:j<F.length
  ·have d2:(j:Int)<F.length:=by omega
   obtain⟨x,L⟩: ∃x,F[j]? =some x:=⟨F[j],zX0 g3⟩
   obtain⟨rb,rfl,f9,g0⟩:=e9.out.at y j x L
   have a6:LW++(F.take (j+1)).map kP=LW++(F.take j).map kP++[kP x]:=by rw[List.take_add_one,L];simp
   rw[List.append_assoc] at a6
   have f4:Hid (LW++(F.take (j+1)).map kP=(LW++(F.take j).map kP)++[kP x]):=by unfold Hid;grind
   have c8:(LW++(F.take j).map kP).length<=100:=y_
   generalize LW++(F.take j).map kP=LJ at*
   obtain⟨X,W,rfl⟩:=Cb.aJ y.ev
   have B:=aa (y.more (da cj (.cells #[ab 13,ab 0,ab 0,aM 0,ab x,ab 0] 80)))
   have d8:=G3 13
   clear y a6
   go_wp2_with (at_builtin;refine wpList_append_own_at _ rfl _ _ 38 rfl w.heap.size 80 i0 (.agg #[ab 0,ab 0,ab 0,aM 0,ab 0,ab 0]) 6 48 Tryz.underlying38 b4 b1 b0 a9 rfl x_ _ _ _ rfl B.out.ev (ao wr.heap.size) 1 1 (cD (kP x)) rfl rfl (Cb.gG (w1:=wr) (c:=cD (kP x)) rfl) (eV _) (by unfold maxLen;omega) z_ B.out.wl ?_;intro v1 w8 A C _ z;obtain⟨a1,d1,rfl⟩:=Cb.aJ A;have Z:=aa (B.out.told (ev:=(kP x)) A C z);clear A C z)
   go_roundw
   case rel=>exact⟨j+1,z_,by go_num,by rw[f4.out];exact Z.out⟩
   case measure=>simp[RowKit.intOf];omega
  ·have d2: ¬(j:Int)<F.length:=by omega
   rw[List.take_of_length_le (by omega:F.length<=j)] at y
   have h9:(LW++F.map kP).length<=100:=y_
   generalize LW++F.map kP=L0 at*
   have HX:=aa y
   obtain⟨X,W,rfl⟩:=Cb.aJ y.ev
   have g8:=aa (fun l:List Nat=>AZ P n q l (M3,L0))
   clear y
   go_wp2
   go_loopw [4,42] (fun tv iv wr=> ∃(j:Nat),j<=D.length/\iv=ab j/\GX w w3 wr b a P n q (T+(n+1)*j) ((D.take j).foldl (kM P n q) (M3,L0)).1 tv ((D.take j).foldl (kM P n q) (M3,L0)).2 K2) (fun _ iv _=>D.length-(RowKit.intOf iv).toNat)
   case atStart=>exact⟨0,z_,rfl,HX.out⟩
   case round=>
    obtain⟨j,hj,rfl,y⟩:=hrel
    clear HX
    have a0:=g8.out (D.take j)
    rw[List.length_take] at a0
    by_cases d0:j<D.length
    ·have b3:(j:Int)<D.length:=by omega
     obtain⟨x,L⟩: ∃x,D[j]? =some x:=⟨D[j],zX0 d0⟩
     obtain⟨rb,rfl,f9,g0⟩:=f2.out.at y j x L
     have c1:=e0 x (i9 L)
     have h1:Hid ((D.take (j+1)).foldl (kM P n q) (M3,L0)=kM P n q ((D.take j).foldl (kM P n q) (M3,L0)) x):=xY _ _ L
     generalize (D.take j).foldl (kM P n q) (M3,L0)=S at*
     obtain⟨N,LJ⟩:=S
     dsimp only at y a0
     have c8:LJ.length<=200:=z_
     obtain⟨t,ht⟩: ∃t,N.th x=t:=⟨_,rfl⟩
     have a2:T+(n+1)*j+n<=1000000000:=by have:=Nat.mul_le_mul_left (n+1) (show j<=n by omega);omega
     have g9:Hid (T+(n+1)*(j+1)=T+(n+1)*j+n+1):=by unfold Hid;grind
     generalize T+(n+1)*j=TJ at*
     obtain⟨t0,t1,t2,t3,t4,t5,t6,t7,t8,t9⟩:=y.tr c1
     rw[ht] at t0 t1 t2 t3 t4 t5 t6 t7 t8 t9
     have d4:=y.core.c4
     have h3:(x:Int)<n:=z_
     obtain⟨X,W,rfl⟩:=Cb.aJ y.ev
     have e5:Hid (kM P n q (N,LJ) x=(Go.Proofs.YtnmhcgpnhlhcgaaGreatDoor.ready P n q N x t.pc,LJ++[⟨11,t.pc,t.p,t.g,0,0⟩])):=by unfold Hid kM;grind
     have d5:=y.more (da cj (.cells #[.int .i64 t.p,.int .u32 t.g,.int .i64 t.pg,.int .u8 t.lv,.int .u8 t.lf,.int .i64 t.sv,.int .i64 t.pc,.int .i64 t.ia,.int .i64 t.il,.int .u64 t.sn] 130))
     have c2:=bC.new wr t
     have a5: ∀k,(Value.slice X LJ.length W).ownBlock=some k->k<wr.heap.size:=fun k U=>(y.ev.lt U).1
     have a7:=aa a5
     have f1:Hid (∀V v' l',GX w w3 V b a P n q TJ N v' l' K2->aB 50 #[ak a.m,ab x,ab t.pc] V fun e o=>e=aS #[]/\GX w w3 o b a P n q (TJ+n+1) (Go.Proofs.YtnmhcgpnhlhcgaaGreatDoor.ready P n q N x t.pc) v' l' K2):=fun V v' l' H=>H.call (R:=fun e=>e=aS #[]) (fun _ i=>i.goes.ready a2 x c1 t.pc)
     clear y a0 a5
     go_upto_region 14 with fail
     have c7:wr.heap.size<(wr.alloc (.cells #[.int .i64 t.p,.int .u32 t.g,.int .i64 t.pg,.int .u8 t.lv,.int .u8 t.lf,.int .i64 t.sv,.int .i64 t.pc,.int .i64 t.ia,.int .i64 t.il,.int .u64 t.sn] 130)).heap.size:=q_
     generalize g7:wr.alloc (.cells #[.int .i64 t.p,.int .u32 t.g,.int .i64 t.pg,.int .u8 t.lv,.int .u8 t.lf,.int .i64 t.sv,.int .i64 t.pc,.int .i64 t.ia,.int .i64 t.il,.int .u64 t.sn] 130)=B1 at*
     obtain⟨ib,d3⟩: ∃ib,wr.heap.size=ib:=⟨_,rfl⟩
     rw[d3] at c2 c7 a7|-
     obtain⟨k0,k1,k2,k3,k4,k5,k6,k7,k8,k9⟩:=c2
     have B:=aa (d5.more (da cj (.cells #[ab 11,ab t.pc,ab t.p,aM t.g,ab 0,ab 0] 80)))
     have c0:(B1.alloc (.cells #[ab 11,ab t.pc,ab t.p,aM t.g,ab 0,ab 0] 80)).cell? (af ib (0+6))=some (ab t.pc):=kc (da cj _) k6
     have h2:Hid (∀V,(B1.alloc (.cells #[ab 11,ab t.pc,ab t.p,aM t.g,ab 0,ab 0] 80)).grownBy V (Value.slice X LJ.length W).ownBlock->V.cell? (af ib (0+6))=some (ab t.pc)):=fun V H=>(i5 (H.block ib (by simp;omega) (fun e=>by have:=a7.out ib e.symm;omega))).trans c0
     have d8:=Ee 11
     clear d5 g7 d3 c0 c7 t0 t1 t2 t3 t4 t5 t6 t7 t8 t9 d4
     go_wp2_with (first
      |(at_builtin;refine wpList_append_own_at _ rfl _ _ 38 rfl w.heap.size 80 i0 (.agg #[ab 0,ab 0,ab 0,aM 0,ab 0,ab 0]) 6 48 Tryz.underlying38 b4 b1 b0 a9 rfl x_ _ _ _ rfl B.out.ev (ao B1.heap.size) 1 1 (cD ⟨11,t.pc,t.p,t.g,0,0⟩) rfl rfl (Cb.gG (w1:=B1) (c:=cD ⟨11,t.pc,t.p,t.g,0,0⟩) rfl) (eV _) (by unfold maxLen;omega) z_ B.out.wl ?_;intro v1 w8 A C _ z;obtain⟨a1,d1,rfl⟩:=Cb.aJ A;have Z:=aa (B.out.told (ev:=⟨11,t.pc,t.p,t.g,0,0⟩) A C z);have y6:=h2.out _ C;clear A C z)
      |(go_at_call 50;refine cH (f1.out _ _ _ Z.out) fun w9 b8=> ?_))
     go_roundw
     case rel=>exact⟨j+1,z_,by go_num,by rw[h1.out,g9.out,e5.out];exact b8.out⟩
     case measure=>simp[RowKit.intOf];omega
    ·have b3: ¬(j:Int)<D.length:=by omega
     rw[List.take_of_length_le (by omega:D.length<=j),b5] at y
     have c8:SW.2.length<=200:=y_
     have a2:T+(n+1)*j<=T+(n+1)*n:=by have:=Nat.mul_le_mul_left (n+1) (show j<=n by omega);omega
     have b2:=y.bZ a2
     obtain⟨X,W,rfl⟩:=Cb.aJ b2.ev
     have h0:=aa (b2.call (R:=fun e=>e=aS #[]) (fun _ i=>i.goes.settle hT))
     clear y b2 a0 a2
     go_upto_region 18 with (go_at_call 42;refine cH h0.out fun w9 b8=> ?_)
     have B:=aa (b8.out.more (da cj (.cells #[ab 14,ab 0,ab 0,aM 0,ab 0,ab 0] 80)))
     have d8:=G8 14
     go_wp2_with (at_builtin;refine wpList_append_own_at _ rfl _ _ 38 rfl w.heap.size 80 i0 (.agg #[ab 0,ab 0,ab 0,aM 0,ab 0,ab 0]) 6 48 Tryz.underlying38 b4 b1 b0 a9 rfl x_ _ _ _ rfl B.out.ev (ao w9.heap.size) 1 1 (cD ⟨14,0,0,0,0,0⟩) rfl rfl (Cb.gG (w1:=w9) (c:=cD ⟨14,0,0,0,0,0⟩) rfl) (eV _) (by unfold maxLen;omega) z_ B.out.wl ?_;intro v1 w8 A C _ z;obtain⟨a1,d1,rfl⟩:=Cb.aJ A;have Z:=aa (B.out.told (ev:=⟨14,0,0,0,0,0⟩) A C z);clear A C z)
     go_ret
     exact⟨_,rfl,Z.out.out⟩
def ax.tick (h:ax w b a P n q T M) (f:n<=12) (g:Ny P n M) (j:T+(n+1)*n+n<=1000000000):
  aB 17 #[ak a.m] w fun e c=> ∃v,e= .returned v/\fK c w.heap.size v (iN P n q M)/\dF w c b a P n q (T+(n+1)*n+n) (mz P n q M) v:=
 h.IF f (fun V d i=>i.advance f (Cb.fC M.nw 1) (Cb.pd M.nw 1)) g j
end
end Go.Proofs.YtnmhcgpnhlhcgaaGreatDoor
