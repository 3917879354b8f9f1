/- YtnmhcgpnhlhcgaaGreatDoorKp: of the texts Ba1 Ba2 Ba3 Ba4 Ba5 Ba6 Ba7 Ba8 Ba9 Ba10 Ba11 Ba12 what is wanted. -/
import Derived.Test.YtnmhcgpnhlhcgaaGreatDoorK0
import Derived.Test.YtnmhcgpnhlhcgaaGreatDoorKg
import Derived.Test.YtnmhcgpnhlhcgaaGreatDoorKj
import Derived.Test.YtnmhcgpnhlhcgaaGreatDoorKk
import Derived.Test.YtnmhcgpnhlhcgaaGreatDoorKl
import Derived.Test.YtnmhcgpnhlhcgaaGreatDoorKa
import Derived.BigRegion
set_option maxHeartbeats 16000000
set_option maxRecDepth 100000
set_option linter.unusedVariables false
set_option linter.defProp false
set_option linter.unusedSimpArgs false
namespace Go.Proofs.YtnmhcgpnhlhcgaaGreatDoor
open Go.RowKit
structure Tr where
 p:Int
 g:Nat
 pg:Int
 lv:Nat
 lf:Nat
 sv:Int
 pc:Int
 ia:Int
 il:Int
 sn:Nat
def iq:Tr:=⟨0,0,0,0,0,0,0,0,0,0⟩
structure Tr.ok (t:Tr):Prop where
 g:t.g<4294967296
 lv:t.lv<256
 lf:t.lf<256
 il:t.il<9223372036854775808
 sn:t.sn<18446744073709551616
structure Pc where
 r:Int
 s:Nat
 m:Bool
structure Pm where
 len:Nat
 O:Nat->Int
 R:Nat->Int
structure Mc where
 qu:Nat
 ag:Nat
 pr:List Pm
 pc:Nat->Pc
 th:Nat->Tr
 G:Nat->Nat
 S:Nat->Nat
 sv:List Cb.ck
 gr:Pi.Md
 pl:List (List En)
 nw:Nat
 wh:List Wh.It
structure Ad where
 m:Nat
 tb:Nat
 tg:Nat
 sb:Nat
 gb:Nat
 pb:Nat
 wb:Nat
 wg:Nat
 wm:Nat
 pr:Nat
 th:Nat
 xp:Nat
 xt:Nat
section
variable {S:Nat->Prop} {w w' w'':World}
def Fr.gt (h:Fr S w w'):Fr S w w':=⟨h.os,h.tape,h.output,h.size,h.block⟩
def Fr.cb (h:Fr S w w'):Fr S w w':=⟨h.os,h.tape,h.output,h.size,h.block⟩
def Fr.pi (h:Fr S w w'):Fr S w w':=⟨h.os,h.tape,h.output,h.size,h.block⟩
def Fr.wh (h:Fr S w w'):Fr S w w':=⟨h.os,h.tape,h.output,h.size,h.block⟩
def Lr (h:Fr S w w'):Fr S w w':=⟨h.os,h.tape,h.output,h.size,h.block⟩
def IE (h:Fr S w w'):Fr S w w':=⟨h.os,h.tape,h.output,h.size,h.block⟩
def PL (h:Fr S w w'):Fr S w w':=⟨h.os,h.tape,h.output,h.size,h.block⟩
def OP (h:Fr S w w'):Fr S w w':=⟨h.os,h.tape,h.output,h.size,h.block⟩
def dd (h:aC w w'):Fr S w w':=⟨h.os,h.tape,h.output,h.size,fun k a _=>h.block k a⟩
def Fr.to {a:Nat->Prop} (h:Fr S w w') (c: ∀k,k<w.heap.size->S k->a k):Fr a w w':=⟨h.os,h.tape,h.output,h.size,fun k b d=>h.block k b y_⟩
def Fr.then {S':Nat->Prop} (h:Fr S w w') (a:Fr S' w' w'') (d: ∀k,k<w.heap.size->S' k->S k):Fr S w w'':=
 ⟨a.os.trans h.os,a.tape.trans h.tape,a.output.trans h.output,zY0 h.size a.size,fun k b c=>(a.block k (i8 b h.size) y_).trans (h.block k b c)⟩
theorem Fr.cellAt (h:Fr S w w') {b o:Nat} (c:b<w.heap.size) (a: ¬S b):w'.cell? (af b o)=w.cell? (af b o):=i5 (h.block _ c a)
end
structure bC (w:World) (b o:Nat) (t:Tr):Prop where
 c0:w.cell? (af b o)=some (ab t.p)
 c1:w.cell? (af b (o+1))=some (aM t.g)
 c2:w.cell? (af b (o+2))=some (ab t.pg)
 c3:w.cell? (af b (o+3))=some (aA t.lv)
 c4:w.cell? (af b (o+4))=some (aA t.lf)
 c5:w.cell? (af b (o+5))=some (ab t.sv)
 c6:w.cell? (af b (o+6))=some (ab t.pc)
 c7:w.cell? (af b (o+7))=some (ab t.ia)
 c8:w.cell? (af b (o+8))=some (ab t.il)
 c9:w.cell? (af b (o+9))=some (aj t.sn)
structure iu (w:World) (b o:Nat) (x:Pc):Prop where
 c0:w.cell? (af b o)=some (ab x.r)
 c1:w.cell? (af b (o+1))=some (aj x.s)
 c2:w.cell? (af b (o+2))=some (.bool x.m)
theorem bC.kept {w w':World} {b o:Nat} {t:Tr} (h:bC w b o t) (a:w'.heap[b]? =w.heap[b]?):bC w' b o t:=
 have e: ∀o,w'.cell? (af b o)=w.cell? (af b o):=fun _=>i5 a
 ⟨(e _).trans h.c0,(e _).trans h.c1,(e _).trans h.c2,(e _).trans h.c3,(e _).trans h.c4,(e _).trans h.c5,(e _).trans h.c6,(e _).trans h.c7,(e _).trans h.c8,(e _).trans h.c9⟩
theorem iu.kept {w w':World} {b o:Nat} {t:Pc} (h:iu w b o t) (a:w'.heap[b]? =w.heap[b]?):iu w' b o t:=
 have e: ∀o,w'.cell? (af b o)=w.cell? (af b o):=fun _=>i5 a
 ⟨(e _).trans h.c0,(e _).trans h.c1,(e _).trans h.c2⟩
structure Core (w:World) (a:Ad) (P n qu ag:Nat):Prop where
 c0:w.cell? (ao a.m)=some (aj qu)
 c1:w.cell? (af a.m 1)=some (aj ag)
 c3:w.cell? (af a.m 3)=some (.slice (some (ao a.pr)) P a.xp)
 c4:w.cell? (af a.m 4)=some (.slice (some (ao a.th)) n a.xt)
 c5:w.cell? (af a.m 5)=some (ak a.tb)
 c6:w.cell? (af a.m 6)=some (ak a.sb)
 c7:w.cell? (af a.m 7)=some (ak a.gb)
 c8:w.cell? (af a.m 8)=some (ak a.pb)
 c9:w.cell? (af a.m 9)=some (ak a.wb)
 fz: ∀o,w.frozen? (af a.m o)=false
theorem Core.kept {w w':World} {a:Ad} {P n b ag:Nat} (h:Core w a P n b ag) (c:w'.heap[a.m]? =w.heap[a.m]?):Core w' a P n b ag:=
 have e: ∀o,w'.cell? (af a.m o)=w.cell? (af a.m o):=fun _=>i5 c
 ⟨(e _).trans h.c0,(e _).trans h.c1,(e _).trans h.c3,(e _).trans h.c4,(e _).trans h.c5,(e _).trans h.c6,(e _).trans h.c7,(e _).trans h.c8,(e _).trans h.c9,fun o=>(zV0 c).trans (h.fz o)⟩
structure KV (w:World) (b P:Nat) (f:Nat->Pc):Prop where
 at_: ∀i,i<P->iu w b (i*3) (f i)
 fz: ∀o,w.frozen? (af b o)=false
 ok: ∀i,i<P->(f i).s<18446744073709551616
structure Hu (w:World) (b n:Nat) (f:Nat->Tr):Prop where
 at_: ∀i,i<n->bC w b (i*10) (f i)
 fz: ∀o,w.frozen? (af b o)=false
 ok: ∀i,i<n->(f i).ok
structure zX (w:World) (lab:Nat->Nat) (v:Value) (l:List Pm) (vs:List Value):Prop where
 row:w.ownsRow 0 35 1 v l.length vs
 len:vs.length=l.length
 at_: ∀(i:Nat) (p:Pm) (u:Value),l[i]? =some p->vs[i]? =some u->w.ownsRow 0 83 2 u p.len (Ex.aP p.O p.R p.len)/\ ∀k,u.ownBlock=some k->lab k=2
 lb: ∀k,v.ownBlock=some k->lab k=2
 ok: ∀p∈l,Ex.Rt p.len p.O p.R
theorem aQ {w w':World} {b:Nat} {e:TypeId} {a:Nat} {v:Value} {n:Nat} {xs:List Value} (h:w.ownsRow b e a v n xs) (j: ∀k,v.ownBlock=some k->w'.heap[k]? =w.heap[k]?):w'.ownsRow b e a v n xs:=by
 obtain⟨i,p|⟨g,d,c,f,o,m,l⟩⟩:=h
 ·exact⟨i,.inl p⟩
 ·exact⟨i,.inr ⟨g,d,c,f,o,(j g (by rw[f];rfl)).trans m,l⟩⟩
theorem zX.kept {w w':World} {b a:Nat->Nat} {v:Value} {l:List Pm} {vs:List Value} (h:zX w b v l vs) (g: ∀k,b k=2->w'.heap[k]? =w.heap[k]?) (f: ∀k,b k=2->a k=2):zX w' a v l vs:=
 ⟨aQ h.row (fun k c=>g k (h.lb k c)),h.len,fun i p u e d=>⟨aQ (h.at_ i p u e d).1 (fun k c=>g k ((h.at_ i p u e d).2 k c)),fun k c=>f k ((h.at_ i p u e d).2 k c)⟩,fun k c=>f k (h.lb k c),h.ok⟩
structure ax (w:World) (lab:Nat->Nat) (a:Ad) (P n q T:Nat) (M:Mc):Prop where
 hP:1<=P/\P<=64
 hn:1<=n/\n<=1024
 hq:M.qu<18446744073709551616/\M.ag<18446744073709551616
 lt: ∀k,lab k≠0->k<w.heap.size
 l0:lab 0=0
 lm:lab a.m=1
 co:Core w a P n M.qu M.ag
 pg: ∃v vs,w.cell? (af a.m 2)=some v/\zX w lab v M.pr vs
 lpr:lab a.pr=3
 pc:KV w a.pr P M.pc
 lth:lab a.th=4
 th:Hu w a.th n M.th
 ltb:lab a.tb=5/\lab a.tg=5
 tb:Gt.aH w a.tb a.tg n M.G M.S
 t0:Gt.pv w
 lsb:lab a.sb=6
 sv: ∃base v,Cb.dy w base a.sb P v M.sv/\ ∀k,v.ownBlock=some k->lab k=6
 gr: ∃b O,Pi.PG w b O a.gb M.gr/\ ∀k,O k->lab k=7
 pl: ∃O,PQ w O a.pb n P q T M.pl/\ ∀k,O k->lab k=8
 lw: ∀k,Wh.O3 a.wb a.wg a.wm k->lab k=9
 wh:Wh.uF w a.wb a.wg a.wm n M.nw M.wh
section
variable {w w':World} {b:Nat->Nat} {a:Ad} {P n q T:Nat} {M:Mc}
def ax.frame {S:Nat->Prop} (h:ax w b a P n q T M) (d:Fr S w w') (j: ∀k,b k≠0-> ¬S k) (z: ¬S 0):ax w' b a P n q T M:=by
 have r:=fun k (g:b k≠0)=>d.block k (h.lt k g) (j k g)
 have t:=r a.m (by rw[h.lm];decide)
 have bp:=r a.pr (by rw[h.lpr];decide)
 have bt:=r a.th (by rw[h.lth];decide)
 have s:=fun k (e:b k=5)=>j k z_
 have y:=fun k (e:b k=6)=>j k z_
 have B:=fun k (e:b k=7)=>j k z_
 have A:=fun k (e:b k=8)=>j k z_
 have x:=fun k (e:b k=9)=>j k z_
 refine⟨h.hP,h.hn,h.hq,fun k g=>i8 (h.lt k g) d.size,h.l0,h.lm,h.co.kept t,?_,h.lpr,?_,h.lth,?_,h.ltb,h.tb.frame d.gt (s _ h.ltb.1) (s _ h.ltb.2),h.t0.frame d.gt z,h.lsb,?_,?_,?_,h.lw,h.wh.frame d.wh (fun k g=>x k (h.lw k g))⟩
 ·obtain⟨v,u,e,f⟩:=h.pg
  exact⟨v,u,(i5 t).trans e,f.kept y_ (fun _ e=>e)⟩
 ·exact⟨fun i hi=>(h.pc.at_ i hi).kept bp,fun o=>(zV0 bp).trans (h.pc.fz o),h.pc.ok⟩
 ·exact⟨fun i hi=>(h.th.at_ i hi).kept bt,fun o=>(zV0 bt).trans (h.th.fz o),h.th.ok⟩
 ·obtain⟨p,v,f,l⟩:=h.sv
  exact⟨p,v,f.frame d.cb (y _ h.lsb) y_,l⟩
 ·obtain⟨c,O,f,l⟩:=h.gr
  exact⟨c,O,f.frame d.pi y_,l⟩
 ·obtain⟨O,f,l⟩:=h.pl
  exact⟨O,f.frame d y_,l⟩
def ax.below (h:ax w b a P n q T M) (c:aC w w'):ax w' b a P n q T M:=
 h.frame (dd (S:=fun _=>False) c) q_ (fun q=>q)
end
structure oS (w w':World) (lab lab':Nat->Nat):Prop where
 old: ∀k,k<w.heap.size->lab' k=lab k
 lt: ∀k,lab' k≠0->k<w'.heap.size
section
variable {w w' c:World} {lab b lab'':Nat->Nat} {a:Ad} {P n q T T':Nat} {M:Mc}
theorem ax.same (h:ax w lab a P n q T M) {S:Nat->Prop} (e:Fr S w w'):oS w w' lab lab:=⟨fun _ _=>rfl,fun k d=>i8 (h.lt k d) e.size⟩
def ax.l (h:ax w lab a P n q T M) (d:oS w w' lab b) {k i:Nat} (e:lab k=i) (hi:i≠0):b k=i:=by
 rw[d.old k (h.lt k z_),e]
def ax.z (h:ax w lab a P n q T M) (d:oS w w' lab b):b 0=0:=by rw[d.old 0 h.t0.pos,h.l0]
def ax.FE (h:ax w lab a P n q T M) (f:oS w w' lab b) (r:Fr (fun k=>lab k=5) w w') {B A:Nat->Nat} (D:Gt.aH w' a.tb a.tg n B A):ax w' b a P n q T {M with G:=B,S:=A}:=by
 have u:=fun k (g:lab k≠0) (hi:lab k≠5)=>r.block k (h.lt k g) hi
 have y:=u a.m (by rw[h.lm];decide) (by rw[h.lm];decide)
 have bp:=u a.pr (by rw[h.lpr];decide) (by rw[h.lpr];decide)
 have bt:=u a.th (by rw[h.lth];decide) (by rw[h.lth];decide)
 have x: ∀k j,lab k=j->j≠5-> ¬lab k=5:=fun k j e E q=>z_
 refine⟨h.hP,h.hn,h.hq,f.lt,h.z f,h.l f h.lm x_,h.co.kept y,?_,h.l f h.lpr x_,⟨fun i hi=>(h.pc.at_ i hi).kept bp,fun o=>(zV0 bp).trans (h.pc.fz o),h.pc.ok⟩,h.l f h.lth x_,⟨fun i hi=>(h.th.at_ i hi).kept bt,fun o=>(zV0 bt).trans (h.th.fz o),h.th.ok⟩,⟨h.l f h.ltb.1 x_,h.l f h.ltb.2 x_⟩,D,h.t0.frame r.gt (by rw[h.l0];decide),h.l f h.lsb x_,?_,?_,?_,fun k g=>h.l f (h.lw k g) x_,h.wh.frame r.wh (fun k g=>x _ _ (h.lw k g) x_)⟩
 ·obtain⟨v,C,e,p⟩:=h.pg
  exact⟨v,C,(i5 y).trans e,p.kept y_ (fun k e=>h.l f e x_)⟩
 ·obtain⟨t,v,p,s⟩:=h.sv
  exact⟨t,v,p.frame r.cb (x _ _ h.lsb x_) y_,fun k g=>h.l f (s k g) x_⟩
 ·obtain⟨d,O,p,s⟩:=h.gr
  exact⟨d,O,p.frame r.pi y_,fun k g=>h.l f (s k g) x_⟩
 ·obtain⟨O,p,s⟩:=h.pl
  exact⟨O,p.frame r y_,fun k g=>h.l f (s k g) x_⟩
def ax.AF (h:ax w lab a P n q T M) (f:oS w w' lab b) (p:Fr (fun k=>lab k=6) w w') {A:List Cb.ck} {s:Nat} {v:Value} (D:Cb.dy w' s a.sb P v A) (C: ∀k,v.ownBlock=some k->b k=6):ax w' b a P n q T {M with sv:=A}:=by
 have x:=fun k (g:lab k≠0) (hi:lab k≠6)=>p.block k (h.lt k g) hi
 have y:=x a.m (by rw[h.lm];decide) (by rw[h.lm];decide)
 have bp:=x a.pr (by rw[h.lpr];decide) (by rw[h.lpr];decide)
 have bt:=x a.th (by rw[h.lth];decide) (by rw[h.lth];decide)
 have t: ∀k j,lab k=j->j≠6-> ¬lab k=6:=fun k j e E q=>z_
 refine⟨h.hP,h.hn,h.hq,f.lt,h.z f,h.l f h.lm x_,h.co.kept y,?_,h.l f h.lpr x_,⟨fun i hi=>(h.pc.at_ i hi).kept bp,fun o=>(zV0 bp).trans (h.pc.fz o),h.pc.ok⟩,h.l f h.lth x_,⟨fun i hi=>(h.th.at_ i hi).kept bt,fun o=>(zV0 bt).trans (h.th.fz o),h.th.ok⟩,⟨h.l f h.ltb.1 x_,h.l f h.ltb.2 x_⟩,h.tb.frame p.gt (t _ _ h.ltb.1 x_) (t _ _ h.ltb.2 x_),h.t0.frame p.gt (by rw[h.l0];decide),h.l f h.lsb x_,y_,?_,?_,fun k g=>h.l f (h.lw k g) x_,h.wh.frame p.wh (fun k g=>t _ _ (h.lw k g) x_)⟩
 ·obtain⟨v,B,e,r⟩:=h.pg
  exact⟨v,B,(i5 y).trans e,r.kept y_ (fun k e=>h.l f e x_)⟩
 ·obtain⟨d,O,r,u⟩:=h.gr
  exact⟨d,O,r.frame p.pi y_,fun k g=>h.l f (u k g) x_⟩
 ·obtain⟨O,r,u⟩:=h.pl
  exact⟨O,r.frame p y_,fun k g=>h.l f (u k g) x_⟩
def ax.Pk (h:ax w lab a P n q T M) (f:oS w w' lab b) (p:Fr (fun k=>lab k=7) w w') {y:Pi.Md} {d:Nat} {O:Nat->Prop} (C:Pi.PG w' d O a.gb y) (D: ∀k,O k->b k=7):ax w' b a P n q T {M with gr:=y}:=by
 have x:=fun k (g:lab k≠0) (hi:lab k≠7)=>p.block k (h.lt k g) hi
 have A:=x a.m (by rw[h.lm];decide) (by rw[h.lm];decide)
 have bp:=x a.pr (by rw[h.lpr];decide) (by rw[h.lpr];decide)
 have bt:=x a.th (by rw[h.lth];decide) (by rw[h.lth];decide)
 have t: ∀k j,lab k=j->j≠7-> ¬lab k=7:=fun k j e E q=>z_
 refine⟨h.hP,h.hn,h.hq,f.lt,h.z f,h.l f h.lm x_,h.co.kept A,?_,h.l f h.lpr x_,⟨fun i hi=>(h.pc.at_ i hi).kept bp,fun o=>(zV0 bp).trans (h.pc.fz o),h.pc.ok⟩,h.l f h.lth x_,⟨fun i hi=>(h.th.at_ i hi).kept bt,fun o=>(zV0 bt).trans (h.th.fz o),h.th.ok⟩,⟨h.l f h.ltb.1 x_,h.l f h.ltb.2 x_⟩,h.tb.frame p.gt (t _ _ h.ltb.1 x_) (t _ _ h.ltb.2 x_),h.t0.frame p.gt (by rw[h.l0];decide),h.l f h.lsb x_,?_,y_,?_,fun k g=>h.l f (h.lw k g) x_,h.wh.frame p.wh (fun k g=>t _ _ (h.lw k g) x_)⟩
 ·obtain⟨v,B,e,r⟩:=h.pg
  exact⟨v,B,(i5 A).trans e,r.kept y_ (fun k e=>h.l f e x_)⟩
 ·obtain⟨s,v,r,u⟩:=h.sv
  exact⟨s,v,r.frame p.cb (t _ _ h.lsb x_) y_,fun k g=>h.l f (u k g) x_⟩
 ·obtain⟨O,r,u⟩:=h.pl
  exact⟨O,r.frame p y_,fun k g=>h.l f (u k g) x_⟩
def ax.MO (h:ax w lab a P n q T M) (f:oS w w' lab b) (p:Fr (fun k=>lab k=8) w w') {y:List (List En)} {O:Nat->Prop} (C:PQ w' O a.pb n P q T' y) (D: ∀k,O k->b k=8):ax w' b a P n q T' {M with pl:=y}:=by
 have x:=fun k (g:lab k≠0) (hi:lab k≠8)=>p.block k (h.lt k g) hi
 have A:=x a.m (by rw[h.lm];decide) (by rw[h.lm];decide)
 have bp:=x a.pr (by rw[h.lpr];decide) (by rw[h.lpr];decide)
 have bt:=x a.th (by rw[h.lth];decide) (by rw[h.lth];decide)
 have t: ∀k j,lab k=j->j≠8-> ¬lab k=8:=fun k j e E q=>z_
 refine⟨h.hP,h.hn,h.hq,f.lt,h.z f,h.l f h.lm x_,h.co.kept A,?_,h.l f h.lpr x_,⟨fun i hi=>(h.pc.at_ i hi).kept bp,fun o=>(zV0 bp).trans (h.pc.fz o),h.pc.ok⟩,h.l f h.lth x_,⟨fun i hi=>(h.th.at_ i hi).kept bt,fun o=>(zV0 bt).trans (h.th.fz o),h.th.ok⟩,⟨h.l f h.ltb.1 x_,h.l f h.ltb.2 x_⟩,h.tb.frame p.gt (t _ _ h.ltb.1 x_) (t _ _ h.ltb.2 x_),h.t0.frame p.gt (by rw[h.l0];decide),h.l f h.lsb x_,?_,?_,⟨_,C,D⟩,fun k g=>h.l f (h.lw k g) x_,h.wh.frame p.wh (fun k g=>t _ _ (h.lw k g) x_)⟩
 ·obtain⟨v,B,e,r⟩:=h.pg
  exact⟨v,B,(i5 A).trans e,r.kept y_ (fun k e=>h.l f e x_)⟩
 ·obtain⟨s,v,r,u⟩:=h.sv
  exact⟨s,v,r.frame p.cb (t _ _ h.lsb x_) y_,fun k g=>h.l f (u k g) x_⟩
 ·obtain⟨d,O,r,u⟩:=h.gr
  exact⟨d,O,r.frame p.pi y_,fun k g=>h.l f (u k g) x_⟩
def ax.Oz (h:ax w lab a P n q T M) (f:oS w w' lab b) (r:Fr (fun k=>lab k=9) w w') {s:Nat} {A:List Wh.It} (D:Wh.uF w' a.wb a.wg a.wm n s A):ax w' b a P n q T {M with nw:=s,wh:=A}:=by
 have y:=fun k (g:lab k≠0) (hi:lab k≠9)=>r.block k (h.lt k g) hi
 have B:=y a.m (by rw[h.lm];decide) (by rw[h.lm];decide)
 have bp:=y a.pr (by rw[h.lpr];decide) (by rw[h.lpr];decide)
 have bt:=y a.th (by rw[h.lth];decide) (by rw[h.lth];decide)
 have x: ∀k j,lab k=j->j≠9-> ¬lab k=9:=fun k j e E q=>z_
 refine⟨h.hP,h.hn,h.hq,f.lt,h.z f,h.l f h.lm x_,h.co.kept B,?_,h.l f h.lpr x_,⟨fun i hi=>(h.pc.at_ i hi).kept bp,fun o=>(zV0 bp).trans (h.pc.fz o),h.pc.ok⟩,h.l f h.lth x_,⟨fun i hi=>(h.th.at_ i hi).kept bt,fun o=>(zV0 bt).trans (h.th.fz o),h.th.ok⟩,⟨h.l f h.ltb.1 x_,h.l f h.ltb.2 x_⟩,h.tb.frame r.gt (x _ _ h.ltb.1 x_) (x _ _ h.ltb.2 x_),h.t0.frame r.gt (by rw[h.l0];decide),h.l f h.lsb x_,?_,?_,?_,fun k g=>h.l f (h.lw k g) x_,D⟩
 ·obtain⟨v,C,e,p⟩:=h.pg
  exact⟨v,C,(i5 B).trans e,p.kept y_ (fun k e=>h.l f e x_)⟩
 ·obtain⟨u,v,p,t⟩:=h.sv
  exact⟨u,v,p.frame r.cb (x _ _ h.lsb x_) y_,fun k g=>h.l f (t k g) x_⟩
 ·obtain⟨d,O,p,t⟩:=h.gr
  exact⟨d,O,p.frame r.pi y_,fun k g=>h.l f (t k g) x_⟩
 ·obtain⟨O,p,t⟩:=h.pl
  exact⟨O,p.frame r y_,fun k g=>h.l f (t k g) x_⟩
def ax.JF (h:ax w lab a P n q T M) (g:oS w w' lab b) (s:Fr (fun k=>lab k=3) w w') {f:Nat->Pc} (C:KV w' a.pr P f):ax w' b a P n q T {M with pc:=f}:=by
 have y:=fun k (p:lab k≠0) (hi:lab k≠3)=>s.block k (h.lt k p) hi
 have A:=y a.m (by rw[h.lm];decide) (by rw[h.lm];decide)
 have bt:=y a.th (by rw[h.lth];decide) (by rw[h.lth];decide)
 have x: ∀k j,lab k=j->j≠3-> ¬lab k=3:=fun k j e D q=>z_
 refine⟨h.hP,h.hn,h.hq,g.lt,h.z g,h.l g h.lm x_,h.co.kept A,?_,h.l g h.lpr x_,C,h.l g h.lth x_,⟨fun i hi=>(h.th.at_ i hi).kept bt,fun o=>(zV0 bt).trans (h.th.fz o),h.th.ok⟩,⟨h.l g h.ltb.1 x_,h.l g h.ltb.2 x_⟩,h.tb.frame s.gt (x _ _ h.ltb.1 x_) (x _ _ h.ltb.2 x_),h.t0.frame s.gt (by rw[h.l0];decide),h.l g h.lsb x_,?_,?_,?_,fun k p=>h.l g (h.lw k p) x_,h.wh.frame s.wh (fun k p=>x _ _ (h.lw k p) x_)⟩
 ·obtain⟨v,B,e,r⟩:=h.pg
  exact⟨v,B,(i5 A).trans e,r.kept y_ (fun k e=>h.l g e x_)⟩
 ·obtain⟨u,v,r,t⟩:=h.sv
  exact⟨u,v,r.frame s.cb (x _ _ h.lsb x_) y_,fun k p=>h.l g (t k p) x_⟩
 ·obtain⟨d,O,r,t⟩:=h.gr
  exact⟨d,O,r.frame s.pi y_,fun k p=>h.l g (t k p) x_⟩
 ·obtain⟨O,r,t⟩:=h.pl
  exact⟨O,r.frame s y_,fun k p=>h.l g (t k p) x_⟩
def ax.Ei (h:ax w lab a P n q T M) (g:oS w w' lab b) (s:Fr (fun k=>lab k=4) w w') {f:Nat->Tr} (C:Hu w' a.th n f):ax w' b a P n q T {M with th:=f}:=by
 have y:=fun k (p:lab k≠0) (hi:lab k≠4)=>s.block k (h.lt k p) hi
 have A:=y a.m (by rw[h.lm];decide) (by rw[h.lm];decide)
 have bp:=y a.pr (by rw[h.lpr];decide) (by rw[h.lpr];decide)
 have x: ∀k j,lab k=j->j≠4-> ¬lab k=4:=fun k j e D q=>z_
 refine⟨h.hP,h.hn,h.hq,g.lt,h.z g,h.l g h.lm x_,h.co.kept A,?_,h.l g h.lpr x_,⟨fun i hi=>(h.pc.at_ i hi).kept bp,fun o=>(zV0 bp).trans (h.pc.fz o),h.pc.ok⟩,h.l g h.lth x_,C,⟨h.l g h.ltb.1 x_,h.l g h.ltb.2 x_⟩,h.tb.frame s.gt (x _ _ h.ltb.1 x_) (x _ _ h.ltb.2 x_),h.t0.frame s.gt (by rw[h.l0];decide),h.l g h.lsb x_,?_,?_,?_,fun k p=>h.l g (h.lw k p) x_,h.wh.frame s.wh (fun k p=>x _ _ (h.lw k p) x_)⟩
 ·obtain⟨v,B,e,r⟩:=h.pg
  exact⟨v,B,(i5 A).trans e,r.kept y_ (fun k e=>h.l g e x_)⟩
 ·obtain⟨u,v,r,t⟩:=h.sv
  exact⟨u,v,r.frame s.cb (x _ _ h.lsb x_) y_,fun k p=>h.l g (t k p) x_⟩
 ·obtain⟨d,O,r,t⟩:=h.gr
  exact⟨d,O,r.frame s.pi y_,fun k p=>h.l g (t k p) x_⟩
 ·obtain⟨O,r,t⟩:=h.pl
  exact⟨O,r.frame s y_,fun k p=>h.l g (t k p) x_⟩
def aD (w w':World) (lab:Nat->Nat) (a:Ad) (P n q T:Nat) (M:Mc):Prop:= ∃b,ax w' b a P n q T M/\oS w w' lab b/\Fr (fun k=>lab k≠0) w w'
def oS.then (h:oS w w' lab b) (d:oS w' c b lab'') (f:w.heap.size<=w'.heap.size):oS w c lab lab'':=⟨fun k e=>(d.old k z_).trans (h.old k e),d.lt⟩
theorem ax.stay (h:ax w lab a P n q T M) (d:aC w w'):aD w w' lab a P n q T M:=⟨lab,h.below d,h.same (S:=fun _=>False) (dd d),dd d⟩
def ax.goes (h:ax w lab a P n q T M):aD w w lab a P n q T M:=h.stay cj
def aD.then {M':Mc} (h:aD w w' lab a P n q T M) (o: ∀b,ax w' b a P n q T M->aD w' c b a P n q T' M'):aD w c lab a P n q T' M':=by
 obtain⟨g,j,e,d⟩:=h
 obtain⟨f,i,r,p⟩:=o g j
 exact⟨f,i,e.then r d.size,d.then p (fun k m l=>by rw[<-e.old k m];exact l)⟩
theorem aD.after {M':Mc} (d:oS w w' lab b) (e:Fr (fun k=>lab k≠0) w w') (j:aD w' c b a P n q T' M'):aD w c lab a P n q T' M':=by
 obtain⟨f,g,m,l⟩:=j
 exact⟨f,g,d.then m e.size,e.then l (fun k i h=>by rw[<-d.old k i];exact h)⟩
theorem aD.ahead (d:aC w w') (h:aD w' c lab a P n q T M):aD w c lab a P n q T M:=by
 obtain⟨f,g,e,j⟩:=h
 exact⟨f,g,⟨fun k i=>e.old k (i8 i d.size),e.lt⟩,(dd d).then j q_⟩
theorem aD.more (h:aD w w' lab a P n q T M) (d:aC w' c):aD w c lab a P n q T M:=h.then (fun _ i=>i.stay d)
def ax.bZ (h:ax w lab a P n q T M) (f:T<=T'):ax w lab a P n q T' M:=by
 obtain⟨O,d,e⟩:=h.pl
 exact⟨h.hP,h.hn,h.hq,h.lt,h.l0,h.lm,h.co,h.pg,h.lpr,h.pc,h.lth,h.th,h.ltb,h.tb,h.t0,h.lsb,h.sv,h.gr,⟨O,d.more f,e⟩,h.lw,h.wh⟩
def aD.bZ (h:aD w w' lab a P n q T M) (f:T<=T'):aD w w' lab a P n q T' M:=by
 obtain⟨d,e,i,g⟩:=h
 exact⟨d,e.bZ f,i,g⟩
end
def iM (M:Mc) (n:Nat) (t:Tr):Nat:=if Gt.hasB n M.G M.S t.p t.g then M.S t.p.toNat else 0
def dC (M:Mc) (t:Tr):Int:=Ag.CU t.lv t.sn M.nw M.ag
def lZ (M:Mc) (n:Nat) (t:Tr):Ke.K:=
 if 0<(Cb.nk M.sv t.sv).l then Ke.du ((Cb.nk M.sv t.sv).d:Int)
 else if iM M n t=1 then Ke.bP (dC M t)
 else if iM M n t=2 then Ke.bP (max (t.lv:Int) (t.lf:Int))
 else Ke.bP (t.lv:Int)
def zG {w:World} {b g n:Nat} {G S:Nat->Nat} (h:Gt.aH w b g n G S) (p:Int) (q:Nat):
  vQ 133 #[ak b,.agg #[ab p,aM q]] w (.tuple #[ab ((if Gt.hasB n G S p q then S p.toNat else 0:Nat):Int),.bool (Gt.hasB n G S p q)]):=by
 cases a:Gt.hasB n G S p q with
 |false=>
  simp only[Bool.false_eq_true,if_false]
  exact Gt.xX h p q a
 |true=>
  obtain⟨x,rfl,e,d,c⟩:=Gt.nC a
  simp only[if_true,Int.toNat_natCast]
  grind[Gt.zc]
def kc {W0 W:World} (a:aC W0 W) {b o:Nat} {u:Value} (c:W0.cell? (af b o)=some u):W.cell? (af b o)=some u:=(a.cell (p:=(af b o)) (i7 W0 _ c)).trans c
theorem bt {W0 W W':World} (b:aC W0 W) (a:aC W W'):aC W0 W':=b.trans (a.mono b.size)
def bp {e W W':World} (h:aC e W) (a:W'.heap=W.heap) (b:W'.os=W.os) (c:W'.tape=W.tape) (d:W'.output=W.output):aC e W':=mK
def beq {w w':World} (h:w'=w):aC w w':=by exact mK
def bB (w:World) (c:Array Value) (t:TypeId) (i:Nat) (u:Value) (h:c[i]? =some u):(w.alloc (.cells c t)).cell? (af w.heap.size i)=some u:=by
 simp_all
section
variable {w:World} {b:Nat->Nat} {a:Ad} {P n q T:Nat} {M:Mc}
theorem ax.state (h:ax w b a P n q T M) (t:Tr):
  vQ 81 #[ak a.m,.agg #[.int .i64 t.p,.int .u32 t.g,.int .i64 t.pg,.int .u8 t.lv,.int .u8 t.lf,.int .i64 t.sv,.int .i64 t.pc,.int .i64 t.ia,.int .i64 t.il,.int .u64 t.sn]] w (ab (iM M n t:Int)):=by
 have d:aC w (w.alloc (.cells #[.int .i64 t.p,.int .u32 t.g,.int .i64 t.pg,.int .u8 t.lv,.int .u8 t.lf,.int .i64 t.sv,.int .i64 t.pc,.int .i64 t.ia,.int .i64 t.il,.int .u64 t.sn] 130)):=bq
 have l:=h.below d
 have v:=bB w #[.int .i64 t.p,.int .u32 t.g,.int .i64 t.pg,.int .u8 t.lv,.int .u8 t.lf,.int .i64 t.sv,.int .i64 t.pc,.int .i64 t.ia,.int .i64 t.il,.int .u64 t.sn] 130 0 _ rfl
 have u:=bB w #[.int .i64 t.p,.int .u32 t.g,.int .i64 t.pg,.int .u8 t.lv,.int .u8 t.lf,.int .i64 t.sv,.int .i64 t.pc,.int .i64 t.ia,.int .i64 t.il,.int .u64 t.sn] 130 1 _ rfl
 have i:=aa d
 clear h d
 generalize r:w.alloc (.cells #[.int .i64 t.p,.int .u32 t.g,.int .i64 t.pg,.int .u8 t.lv,.int .u8 t.lf,.int .i64 t.sv,.int .i64 t.pc,.int .i64 t.ia,.int .i64 t.il,.int .u64 t.sn] 130)=o at*
 have y:=aa r
 clear r
 have s:=aa (fun W (k:aC o W)=>(zG ((l.below k).tb) t.p t.g).mono (fun _ _ ⟨e,c⟩=>(And.intro e (bt k c))))
 have x:=l.co.c5
 have z:=aa (i4 o.heap.size o)
 have f:(if Gt.hasB n M.G M.S t.p t.g then M.S t.p.toNat else 0)=iM M n t:=rfl
 rw[f] at s
 clear l f
 generalize iM M n t=st at*
 generalize Gt.hasB n M.G M.S t.p t.g=k at*
 refine ge ?_
 go_wp2
 rw[y.out]
 go_region_held3 (fun j=>j.cell? (af a.m 5)=some (ak a.tb)/\j.cell? (ao w.heap.size)=some (ab t.p)/\j.cell? (af w.heap.size 1)=some (aM t.g))
  (first|exact⟨kc HB1.out x,kc HB1.out v,kc HB1.out u⟩|go_keep)
  (first
   |(go_at_call 133;refine cH (s.out _ (by exact bp z.out rfl rfl rfl rfl)) fun A HB1=> ?_))
 go_wp2
 go_ret
 exact⟨rfl,i.out.trans (HB1.out.mono i.out.size)⟩
def ax.now (h:ax w b a P n q T M):
  vS 47 #[ak a.m] w (aj M.nw):=by
 have d:=h.co.c9
 have c:=aa (Wh.Ln h.wh)
 clear h
 refine ge ?_
 go_wp2_with (go_at_call 88;refine cS c.out ?_)
 go_ret
 simp
def ax.M7 (h:ax w b a P n q T M):M.nw<18446744073709551616:=h.wh.facts.2.2.2.2.1
def ax.Oq (h:ax w b a P n q T M) (t:Tr) (o:t.ok):
  vQ 124 #[ak a.m,.agg #[.int .i64 t.p,.int .u32 t.g,.int .i64 t.pg,.int .u8 t.lv,.int .u8 t.lf,.int .i64 t.sv,.int .i64 t.pc,.int .i64 t.ia,.int .i64 t.il,.int .u64 t.sn]] w (aA (dC M t)):=by
 have d:aC w (w.alloc (.cells #[.int .i64 t.p,.int .u32 t.g,.int .i64 t.pg,.int .u8 t.lv,.int .u8 t.lf,.int .i64 t.sv,.int .i64 t.pc,.int .i64 t.ia,.int .i64 t.il,.int .u64 t.sn] 130)):=bq
 have u:=h.below d
 have x:=bB w #[.int .i64 t.p,.int .u32 t.g,.int .i64 t.pg,.int .u8 t.lv,.int .u8 t.lf,.int .i64 t.sv,.int .i64 t.pc,.int .i64 t.ia,.int .i64 t.il,.int .u64 t.sn] 130 3 _ rfl
 have v:=bB w #[.int .i64 t.p,.int .u32 t.g,.int .i64 t.pg,.int .u8 t.lv,.int .u8 t.lf,.int .i64 t.sv,.int .i64 t.pc,.int .i64 t.ia,.int .i64 t.il,.int .u64 t.sn] 130 9 _ rfl
 have i:=aa d
 have r:=h.M7
 have s:=h.hq.2
 clear h d
 generalize y:w.alloc (.cells #[.int .i64 t.p,.int .u32 t.g,.int .i64 t.pg,.int .u8 t.lv,.int .u8 t.lf,.int .i64 t.sv,.int .i64 t.pc,.int .i64 t.ia,.int .i64 t.il,.int .u64 t.sn] 130)=k at*
 have A:=aa y
 clear y
 have B:=aa (fun W (j:aC k W)=>(u.below j).now.mono (fun _ _ ⟨e,c⟩=>(And.intro e (bt j (beq c)))))
 have HL:=aa (fun W (j:aC k W)=>(Ag.E7 (t.lv:Int) (t.sn:Int) (M.nw:Int) (M.ag:Int) W (by have:=o.lv;exact⟨z_,z_⟩) (by have:=o.sn;exact⟨z_,z_⟩) ⟨z_,z_⟩ ⟨z_,z_⟩).mono (fun _ _ ⟨e,c⟩=>(And.intro e (bt j (beq c)))))
 have z:=u.co.c1
 have C:=aa (i4 k.heap.size k)
 have f:Ag.CU t.lv t.sn M.nw M.ag=dC M t:=rfl
 rw[f] at HL
 clear u f r s o
 generalize dC M t=st at*
 refine ge ?_
 go_wp2
 rw[A.out]
 go_region_held3 (fun l=>l.cell? (af a.m 1)=some (aj M.ag)/\l.cell? (af w.heap.size 3)=some (aA t.lv)/\l.cell? (af w.heap.size 9)=some (aj t.sn))
  (first|exact⟨kc HB2.out z,kc HB2.out x,kc HB2.out v⟩|exact⟨kc HB1.out z,kc HB1.out x,kc HB1.out v⟩|go_keep)
  (first
   |(go_at_call 47;refine cH (B.out _ (by exact bp C.out rfl rfl rfl rfl)) fun E HB1=> ?_)
   |(go_at_call 161;refine cH (HL.out _ (by grind[RowKit.Hid.out])) fun D HB2=> ?_))
 go_wp2
 go_ret
 exact⟨rfl,i.out.trans (HB2.out.mono i.out.size)⟩
def Er (h:ax w b a P n q T M) (t:Tr) (g:t.ok):(lZ M n t).ok/\Ke.aN (lZ M n t)=true:=by
 have z:=g.lv
 have A:=g.lf
 have j: ∀l:Int,0<=l->l<256->(Ke.bP l).ok/\Ke.aN (Ke.bP l)=true:=fun l y u=>⟨⟨⟨Int.le_refl 0,by exact mK⟩,y,u⟩,rfl⟩
 unfold lZ
 split
 ·obtain⟨m,v,p,_⟩:=h.sv
  rename_i i
  refine⟨⟨⟨mK,?_⟩,Int.le_refl 0,by exact mK⟩,rfl⟩
  show(((Cb.nk M.sv t.sv).d:Nat):Int)<_
  have s:(Cb.nk M.sv t.sv).d<18446744073709551616:=by
   rcases Cb.nL M.sv t.sv with ⟨_,e⟩|⟨k,x,e,c⟩
   ·unfold Cb.nk;grind
   ·rw[e,(Cb.qv c).1]
    exact(p.f.all x (i9 c)).2.2.2.2
  omega
 ·split
  ·have r:0<=dC M t/\dC M t<256:=by
    unfold dC Ag.CU
    by_cases e:(M.ag:Int)=0
    ·omega
    ·rw[if_neg e]
     have o:0<=mf M.nw t.sn:=by unfold mf;omega
     have s:0<=mf M.nw t.sn/(M.ag:Int):=Int.ediv_nonneg o z_
     omega
   grind
  grind
end
theorem eK {B:Nat} {w W:World} (h:Below B w W) {a:Addr} (c:B<=a.block) (u:Value):Below B w (W.setCell a u):=
 ⟨h.os,h.tape,h.output,by simpa using h.size,fun k b=>(zZ0 _ _ _ _ z_).trans (h.block k b)⟩
structure gv (W:World) (b:Nat):Prop where
 c0:W.cell? (ao b)=some (.bool false)
 c1:W.cell? (af b 1)=some (aj 0)
 c2:W.cell? (af b 2)=some (aA 0)
 f0:W.frozen? (ao b)=false
 f1:W.frozen? (af b 1)=false
 f2:W.frozen? (af b 2)=false
theorem gv.kept {W W':World} {b:Nat} (h:gv W b) (a:aC W W'):gv W' b:=by
 have e:=a.block b (i7 W _ h.c0)
 exact⟨(i5 e).trans h.c0,(i5 e).trans h.c1,(i5 e).trans h.c2,(zV0 e).trans h.f0,(zV0 e).trans h.f1,(zV0 e).trans h.f2⟩
def gv.new (W:World):gv (W.alloc (.cells #[.bool false,aj 0,aA 0] 120)) W.heap.size:=
 ⟨q_,q_,q_,q_,q_,q_⟩
def bC.new (W:World) (t:Tr):bC (W.alloc (.cells #[.int .i64 t.p,.int .u32 t.g,.int .i64 t.pg,.int .u8 t.lv,.int .u8 t.lf,.int .i64 t.sv,.int .i64 t.pc,.int .i64 t.ia,.int .i64 t.il,.int .u64 t.sn] 130)) W.heap.size 0 t:=
 ⟨q_,q_,q_,q_,q_,q_,q_,q_,q_,q_⟩
theorem bC.low {W a:World} {b o:Nat} {t:Tr} (h:bC W b o t) (c:aC W a):bC a b o t:=h.kept (c.block b (i7 W _ h.c0))
section
variable {w:World} {b:Nat->Nat} {a:Ad} {P n q T:Nat} {M:Mc}
def ax.Lw (h:ax w b a P n q T M) (i:Int):
  vQ 130 #[ak a.sb,ab i] w (.bool (decide (0<(Cb.nk M.sv i).l))):=by
 grind[ax.sv,Cb.Cv,Calls.mono,Cb.AJ]
def ax.deadline (h:ax w b a P n q T M) (i:Int):
  vQ 132 #[ak a.sb,ab i] w (aj ((Cb.nk M.sv i).d:Int)):=by
 grind[ax.sv,Cb.uT,Calls.mono,Cb.AJ]
def ax.own (h:ax w b a P n q T M) (t:Tr) (ht:t.ok):
  vQ 80 #[ak a.m,.agg #[.int .i64 t.p,.int .u32 t.g,.int .i64 t.pg,.int .u8 t.lv,.int .u8 t.lf,.int .i64 t.sv,.int .i64 t.pc,.int .i64 t.ia,.int .i64 t.il,.int .u64 t.sn]] w (.agg (bn (lZ M n t))):=by
 have x:aC w (w.alloc (.cells #[.int .i64 t.p,.int .u32 t.g,.int .i64 t.pg,.int .u8 t.lv,.int .u8 t.lf,.int .i64 t.sv,.int .i64 t.pc,.int .i64 t.ia,.int .i64 t.il,.int .u64 t.sn] 130)):=bq
 have C:aC w ((w.alloc (.cells #[.int .i64 t.p,.int .u32 t.g,.int .i64 t.pg,.int .u8 t.lv,.int .u8 t.lf,.int .i64 t.sv,.int .i64 t.pc,.int .i64 t.ia,.int .i64 t.il,.int .u64 t.sn] 130)).alloc (.cells #[.bool false,aj 0,aA 0] 120)):=x.alloc q_ _
 have E:=h.below C
 have N:bC ((w.alloc (.cells #[.int .i64 t.p,.int .u32 t.g,.int .i64 t.pg,.int .u8 t.lv,.int .u8 t.lf,.int .i64 t.sv,.int .i64 t.pc,.int .i64 t.ia,.int .i64 t.il,.int .u64 t.sn] 130)).alloc (.cells #[.bool false,aj 0,aA 0] 120)) w.heap.size 0 t:=(bC.new w t).low bq
 have O:=gv.new (w.alloc (.cells #[.int .i64 t.p,.int .u32 t.g,.int .i64 t.pg,.int .u8 t.lv,.int .u8 t.lf,.int .i64 t.sv,.int .i64 t.pc,.int .i64 t.ia,.int .i64 t.il,.int .u64 t.sn] 130))
 rw[show(w.alloc (.cells #[.int .i64 t.p,.int .u32 t.g,.int .i64 t.pg,.int .u8 t.lv,.int .u8 t.lf,.int .i64 t.sv,.int .i64 t.pc,.int .i64 t.ia,.int .i64 t.il,.int .u64 t.sn] 130)).heap.size=w.heap.size+1 by simp] at O
 have o:=aa C
 have hm: ¬a.m=w.heap.size+1:=by have:=h.lt a.m (by rw[h.lm];decide);omega
 have a1: ¬w.heap.size+1=a.m:=fun e=>hm e.symm
 clear h C x
 generalize hW:(w.alloc (.cells #[.int .i64 t.p,.int .u32 t.g,.int .i64 t.pg,.int .u8 t.lv,.int .u8 t.lf,.int .i64 t.sv,.int .i64 t.pc,.int .i64 t.ia,.int .i64 t.il,.int .u64 t.sn] 130)).alloc (.cells #[.bool false,aj 0,aA 0] 120)=u at*
 have HW:=aa hW
 clear hW
 have J:=aa (fun W (k:aC u W)=>((E.below k).Lw t.sv).mono (fun _ _ ⟨e,c⟩=>And.intro e (bt k c)))
 have HD:=aa (fun W (k:aC u W)=>((E.below k).deadline t.sv).mono (fun _ _ ⟨e,c⟩=>And.intro e (bt k c)))
 have HK:=aa (fun W (k:aC u W)=>(Ke.tN W ((Cb.nk M.sv t.sv).d:Int)).mono (fun _ _ ⟨e,c⟩=>And.intro e (bt k c)))
 have HS:=aa (fun W (k:aC u W)=>((E.below k).state t).mono (fun _ _ ⟨e,c⟩=>And.intro e (bt k c)))
 have HG:=aa (fun W (k:aC u W)=>((E.below k).Oq t ht).mono (fun _ _ ⟨e,c⟩=>And.intro e (bt k c)))
 have HF:=aa (fun l W (k:aC u W)=>(Ke.pL W l).mono (fun _ _ ⟨e,c⟩=>And.intro e (bt k c)))
 have G:=E.co.c6
 have F:=N.c5
 have H0:=aa (i4 u.heap.size u)
 have y:=aa (fun W (k:aC u W)=>And.intro (N.low k) (O.kept k))
 have f:lZ M n t=if 0<(Cb.nk M.sv t.sv).l then Ke.du ((Cb.nk M.sv t.sv).d:Int) else if iM M n t=1 then Ke.bP (dC M t) else if iM M n t=2 then Ke.bP (max (t.lv:Int) (t.lf:Int)) else Ke.bP (t.lv:Int):=rfl
 clear E N O ht
 generalize lZ M n t=own at*
 generalize iM M n t=st at*
 generalize dC M t=ag at*
 generalize a0:(Cb.nk M.sv t.sv).l=sl at*
 generalize (Cb.nk M.sv t.sv).d=sd at*
 by_cases r:0<sl
 ·rw[if_pos r] at f
  subst f
  have Q:=xZ0 r
  rw[Q] at J
  refine ge ?_
  go_wp2
  rw[HW.out]
  go_region_held3 (fun v=>v.cell? (af a.m 6)=some (ak a.sb)/\v.cell? (af w.heap.size 5)=some (ab t.sv))
   (first|exact⟨kc HB1.out G,kc HB1.out F⟩|go_keep)
   (first
    |(go_at_call 130;refine cH (J.out _ (by exact bp H0.out rfl rfl rfl rfl)) fun w1 HB1=> ?_))
  go_wp2
  have H:=kc HB1.out G
  have I:=kc HB1.out F
  have HN:=aa (fun W k=>(y.out W k).2)
  go_region_held3 (fun v=>v.cell? (af a.m 6)=some (ak a.sb)/\v.cell? (af w.heap.size 5)=some (ab t.sv))
   (first|exact⟨kc HB3.out G,kc HB3.out F⟩|exact⟨kc HB2.out G,kc HB2.out F⟩|go_keep)
   (first
    |(go_at_call 132;refine cH (HD.out _ (by exact bp HB1.out rfl rfl rfl rfl)) fun L HB2=> ?_)
    |(go_at_call 131;refine(HK.out _ (by exact bp HB2.out rfl rfl rfl rfl)).mono ?_;rintro e w3 ⟨rfl,D⟩;have HB3:=aa D;obtain⟨B,A,z,X,V,U⟩:=HN.out _ D;clear D))
  go_wp2
  simp[bodyPost,results,Tryz.results80,go_sem,B,A,z]
  exact(eK (eK (eK (o.out.trans (HB3.out.mono o.out.size)) q_ _) q_ _) q_ _)
 ·rw[if_neg r] at f
  have Q:=yU0 r
  rw[Q] at J
  refine ge ?_
  go_wp2
  rw[HW.out]
  go_region_held3 (fun v=>v.cell? (af a.m 6)=some (ak a.sb)/\v.cell? (af w.heap.size 5)=some (ab t.sv))
   (first|exact⟨kc HB1.out G,kc HB1.out F⟩|go_keep)
   (first
    |(go_at_call 130;refine cH (J.out _ (by exact bp H0.out rfl rfl rfl rfl)) fun w1 HB1=> ?_))
  obtain⟨⟨d0,d1,d2,d3,d4,I,H,d7,Z,Y⟩,_⟩:=y.out _ HB1.out
  by_cases S:st=1
  ·rw[if_pos S] at f
   subst S
   subst f
   go_wp2_with (first
    |(go_at_call 81;refine(HS.out _ HB1.out).mono ?_;rintro e L ⟨rfl,j⟩;have HB2:=aa j;obtain⟨⟨d0,d1,d2,d3,d4,I,H,d7,Z,Y⟩,_⟩:=y.out _ j;clear j)
    |(go_at_call 124;refine cH (HG.out _ HB2.out) fun w3 HB3=> ?_)
    |(go_at_call 68;refine(HF.out _ _ HB3.out).mono ?_;rintro e w4 ⟨rfl,i⟩;have s:=aa i;obtain⟨_,B,A,z,X,V,U⟩:=y.out _ i;clear i))
   simp[bodyPost,results,Tryz.results80,go_sem,B,A,z]
   exact eK (eK (eK (o.out.trans (s.out.mono o.out.size)) q_ _) q_ _) q_ _
  ·rw[if_neg S] at f
   have a3:((st:Int)==1)=false:=y_
   by_cases R:st=2
   ·rw[if_pos R] at f
    subst R
    subst f
    go_wp2_with (first
     |(go_at_call 81;refine(HS.out _ HB1.out).mono ?_;rintro e L ⟨rfl,j⟩;have HB2:=aa j;obtain⟨⟨d0,d1,d2,d3,d4,I,H,d7,Z,Y⟩,_⟩:=y.out _ j;clear j)
     |(go_at_call 68;refine(HF.out _ _ HB2.out).mono ?_;rintro e w4 ⟨rfl,i⟩;have s:=aa i;obtain⟨_,B,A,z,X,V,U⟩:=y.out _ i;clear i))
    simp[bodyPost,results,Tryz.results80,go_sem,B,A,z]
    exact eK (eK (eK (o.out.trans (s.out.mono o.out.size)) q_ _) q_ _) q_ _
   ·rw[if_neg R] at f
    have a2:((st:Int)==2)=false:=y_
    subst f
    go_wp2_with (first
     |(go_at_call 81;refine(HS.out _ HB1.out).mono ?_;rintro e L ⟨rfl,j⟩;have HB2:=aa j;obtain⟨⟨d0,d1,d2,d3,d4,I,H,d7,Z,Y⟩,_⟩:=y.out _ j;clear j)
     |(go_at_call 68;refine(HF.out _ _ HB2.out).mono ?_;rintro e w4 ⟨rfl,i⟩;have s:=aa i;obtain⟨_,B,A,z,X,V,U⟩:=y.out _ i;clear i))
    simp[bodyPost,results,Tryz.results80,go_sem,B,A,z]
    exact eK (eK (eK (o.out.trans (s.out.mono o.out.size)) q_ _) q_ _) q_ _
end
section
variable {w w':World} {lab:Nat->Nat} {a:Ad} {P n q T:Nat} {M:Mc}
def ax.fresh (h:ax w lab a P n q T M) {k:Nat} (b:w.heap.size<=k):lab k=0:=by
 apply Classical.byContradiction
 intro e
 have:=h.lt k e
 omega
theorem Fr.keep (d:Fr (fun k=>lab k≠0) w w') {b o:Nat} {u:Value} (e:lab b=0) (c:w.cell? (af b o)=some u):w'.cell? (af b o)=some u:=
 (d.cellAt (i7 w _ c) (fun q=>q e)).trans c
open Classical in
theorem ax.JA (h:ax w lab a P n q T M) {b:Nat} {O:Nat->Prop} {g:Pi.Md} (p: ∀k,O k->lab k=7) (m:Pi.NC w w' b O a.gb g):aD w w' lab a P n q T {M with gr:=g}:=by
 obtain⟨l,f,o,r⟩:=m
 have d:=PL o
 have i:oS w w' lab (fun k=>if l k then 7 else lab k):=by
  refine⟨fun k c=> ?_,fun k c=> ?_⟩
  ·grind
  ·by_cases e:l k
   ·exact f.lt e
   ·simp only[e,if_false] at c
    exact i8 (h.lt k c) d.size
 have j:=d.to (fun k _ c=>p k c)
 refine⟨_,h.Pk i j f (fun k c=> ?_),i,j.to (fun k _ c=> ?_)⟩
 ·grind
 omega
theorem ax.base (h:ax w lab a P n q T M) (t:Int) (k:Ke.K) (b:k.ok):
  aB 79 #[ak a.gb,ab t,.agg (bn k)] w fun e w'=>(∃c:Int,e= .returned (ab c))/\aD w w' lab a P n q T {M with gr:=(Pi.jc M.gr t k).2}:=by
 grind[ax.gr,Pi.PG.base,Calls.mono,ax.JA]
theorem ax.key (h:ax w lab a P n q T M) (t:Int):
  vQ 83 #[ak a.gb,ab t] w (.agg (bn (Pi.jo M.gr.T M.gr.L t))):=by
 grind[ax.gr,Pi.PG.key]
def Jo {k b:Ke.K} (h:k.ok) (c:b.ok):(Ke.ir k b).ok:=by grind[Ke.ir]
def Ld {T:List Pi.Th} {L:List Pi.Lk} (h: ∀x∈T,x.k.ok): ∀m t,(Pi.kf T L m t).ok
 |m,t=>by
  have b:(Pi.oQ T t).ok:=by
   unfold Pi.oQ
   cases e:T[t]? with
   |none=>exact⟨⟨Int.le_refl 0,x_⟩,Int.le_refl 0,x_⟩
   |some x=>grind
  cases m with
  |zero=>exact b
  |succ m=>
   unfold Pi.kf
   have: ∀(l:List Nat) (k:Ke.K),k.ok->(l.foldl (fun k x=>Ke.ir k (Pi.kf T L m x)) k).ok:=fun l=>by
    induction l with
    |nil=>simp
    |cons x l c=>exact fun k d=>c _ (Jo d (Ld h m x))
   exact this _ _ b
def ax.ll (h:ax w lab a P n q T M) (t:Int):(Pi.jo M.gr.T M.gr.L t).ok:=by
 obtain⟨b,O,e,i⟩:=h.gr
 have g:=e.f
 have c:(Ke.bP 0).ok:=⟨⟨Int.le_refl 0,x_⟩,Int.le_refl 0,x_⟩
 unfold Pi.jo
 split
 ·unfold Pi.keyOf
  split
  ·exact Ld (fun x d=>(g.th x d).1) _ _
  ·exact c
 ·exact c
def ax.change (h:ax w lab a P n q T M) (m:T<=1000000000) (b:Nat) (hi:b<n) (k:Ke.K) (d:k.ok):
  aB 82 #[ak a.pb,ab b,.agg (bn k)] w fun e w'=>(∃c:Int,e= .returned (ab c))/\aD w w' lab a P n q (T+1) {M with pl:=gU n (gh M.pl) (b:Int) k}:=by
 obtain⟨O,j,i⟩:=h.pl
 refine(j.change m (b:Int) (lH (by exact mK)) k d).mono ?_
 rintro e w' ⟨rfl,g,l⟩
 have f:=l.to (fun k _ d=>i k d)
 refine⟨⟨_,rfl⟩,lab,h.MO (h.same f) f g i,h.same f,f.to (fun k _ d=> ?_)⟩
 omega
def ax.live (h:ax w lab a P n q T M):
  aB 78 #[ak a.tb] w fun e w'=> ∃v,e= .returned v/\w'.ownsRow w.heap.size 76 2 v (Gt.pl M.S false n n).length (Gt.cN M.G (Gt.pl M.S false n n))/\aC w w':=Gt.Hw h.tb
def eQ (M:Mc) (n:Nat):List Nat:=(Gt.pl M.S false n n).map (·.val)
def wL (M:Mc) (n:Nat): ∀x∈eQ M n,x<n:=fun x b=>by
 obtain⟨y,_,rfl⟩:=List.mem_map.1 b
 omega
def Db (M:Mc) (n:Nat):(eQ M n).length<=n:=by grind[eQ,Gt.zB]
def qj (G:Nat->Nat) {n:Nat}: ∀(l:List (Fin n)) (j x:Nat),(l.map (·.val))[j]? =some x->(Gt.cN G l)[j*2]? =some (ab x)/\(Gt.cN G l)[j*2+1]? =some (aM (G x:Int))
 |[],j,x,h=>by simp at h
 |y::l,0,x,h=>by
  simp at h
  subst h
  exact⟨rfl,rfl⟩
 |y::l,j+1,x,h=>by
  have:=qj G l j x y_
  have e:Gt.cN G (y::l)=ab y.val::aM (G y.val:Int)::Gt.cN G l:=rfl
  grind
structure Lv (W:World) (lab:Nat->Nat) (ad:Option Addr) (l:List Nat) (G:Nat->Nat):Prop where
 at_: ∀(j x:Nat),l[j]? =some x-> ∃rb:Nat,ad=some (ao rb)/\lab rb=0/\W.cell? (af rb (j*2))=some (ab x)/\W.cell? (af rb (j*2+1))=some (aM (G x:Int))
def Lv.of (h:ax w lab a P n q T M) {v:Value} (i:w'.ownsRow w.heap.size 76 2 v (Gt.pl M.S false n n).length (Gt.cN M.G (Gt.pl M.S false n n))):
  ∃l b,v= .slice l (eQ M n).length b/\Lv w' lab l (eQ M n) M.G:=by
 have r:(eQ M n).length=(Gt.pl M.S false n n).length:=by unfold eQ;simp
 rw[r]
 have s:=i.1
 rcases i with ⟨_,⟨e,hz⟩|⟨g,b,c,e,p,o,m⟩⟩
 ·refine⟨none,0,y_,⟨fun j x d=> ?_⟩⟩
  grind
 ·refine⟨some (ao g),b,e,⟨fun j x d=>⟨g,rfl,h.fresh p,?_⟩⟩⟩
  have t: ∀(k:Nat) (u:Value),(Gt.cN M.G (Gt.pl M.S false n n))[k]? =some u->w'.cell? (af g k)=some u:=fun k u f=>by
   rw[<-m.2.2.2,List.getElem?_take] at f
   split at f
   ·simp only[World.cell?,o]
    grind
   grind
  have:=qj M.G (Gt.pl M.S false n n) j x d
  grind
noncomputable def mO (n:Nat) (M:Mc) (g:Pi.Md) (x:Nat):Pi.Md:=(Pi.jc g (x:Int) (lZ M n (M.th x))).2
noncomputable def mX (n:Nat) (M:Mc) (g:Pi.Md) (l:List (List En)) (x:Nat):List (List En):=if iM M n (M.th x)=1 then gU n (gh l) (x:Int) (Pi.jo g.T g.L (x:Int)) else l
noncomputable def oT (M:Mc) (n:Nat):Pi.Md:=(eQ M n).foldl (mO n M) M.gr
noncomputable def settle (M:Mc) (n:Nat):Mc:={M with gr:=oT M n,pl:=(eQ M n).foldl (mX n M (oT M n)) M.pl}
def Jj (b:World) (lab:Nat->Nat) (a:Ad) (P n q T:Nat) (M:Mc) (j:Nat) (wr:World):Prop:=aD b wr lab a P n q T {M with gr:=((eQ M n).take j).foldl (mO n M) M.gr}
def yK (b:World) (lab:Nat->Nat) (a:Ad) (P n q T:Nat) (M:Mc) (j:Nat) (wr:World):Prop:=aD b wr lab a P n q (T+j) {M with gr:=oT M n,pl:=((eQ M n).take j).foldl (mX n M (oT M n)) M.pl}
def nS {α β:Type} (f:β->α->β) (b:β) {l:List α} {j:Nat} {x:α} (h:l[j]? =some x):(l.take (j+1)).foldl f b=f ((l.take j).foldl f b) x:=by
 grind[List.take_add_one]
def uZ {α:Type} {l:List α} {j:Nat} (h:l.length<=j):l.take j=l:=List.take_of_length_le h
end
section
variable {w:World} {b:Nat->Nat} {a:Ad} {P n q T:Nat} {M:Mc}
theorem ax.settle (h:ax w b a P n q T M) (hT:T+n<=1000000000):
  aB 42 #[ak a.m] w fun e f=>e=aS #[]/\aD w f b a P n q (T+n) (Go.Proofs.YtnmhcgpnhlhcgaaGreatDoor.settle M n):=by
 obtain⟨len,B⟩: ∃len,(eQ M n).length=len:=⟨_,rfl⟩
 have b4:len<=n:=by rw[<-B];exact Db M n
 have hn:=h.hn
 have HL:Hid (aB 78 #[ak a.tb] w fun e f=> ∃ad S,e= .returned (.slice ad len S)/\Lv f b ad (eQ M n) M.G/\ax f b a P n q T M/\aC w f):=by
  refine h.live.mono ?_
  rintro e f ⟨v,rfl,ho,i⟩
  obtain⟨ad,S,rfl,Q⟩:=Lv.of h ho
  exact⟨ad,S,by rw[B],Q,h.below i,i⟩
 have C:=aa B
 have c5:=h.co.c5
 have HH:=aa h
 clear h B
 refine ge ?_
 go_wp2_with (go_at_call 78;refine(HL.out).mono ?_;rintro e w1 ⟨ad,S,rfl,Q,hi,i⟩;have b0:=aa Q;have HI:=aa hi;have HB:=aa i;clear Q hi i)
 go_loopw [14] (fun iv wr=> ∃j:Nat,j<=len/\iv=ab j/\Jj w1 b a P n q T M j wr) (fun iv _=>len-(intOf iv).toNat)
 case atStart=>exact⟨0,Nat.zero_le _,rfl,HI.out.goes⟩
 case round=>
  obtain⟨j,hj,rfl,E⟩:=hrel
  by_cases a4:j<len
  ·have N:(j:Int)<len:=by omega
   obtain⟨x,O⟩: ∃x,(eQ M n)[j]? =some x:=⟨(eQ M n)[j]'(by rw[C.out];exact a4),zX0 _⟩
   have D:=wL M n x (i9 O)
   have a8:(x:Int)<n:=z_
   obtain⟨rb,rfl,y,e0,e1⟩:=b0.out.at_ j x O
   obtain⟨A,R,I,o⟩:=E
   have r0:=o.keep y e0
   have r1:=o.keep y e1
   have HX:=aa O
   clear y e0 e1 O
   obtain⟨t,ht⟩: ∃t,M.th x=t:=⟨_,rfl⟩
   have z:aC wr (wr.alloc (.cells #[ab x,aM (M.G x:Int)] 76)):=bq
   have l:=R.below z
   have Z:=bB wr #[ab x,aM (M.G x:Int)] 76 0 _ rfl
   have a2:=R.fresh aT
   have Y:=aa z
   have H1:=aa R
   have V:=aa I
   have X:=aa o
   clear z R I o
   generalize hW:wr.alloc (.cells #[ab x,aM (M.G x:Int)] 76)=r at*
   have HW:=aa hW
   clear hW
   have a1:t.ok:=by rw[<-ht];exact l.th.ok x D
   obtain⟨d0,d1,d2,d3,d4,d5,d6,d7,d8,d9⟩:bC r a.th (x*10) t:=by rw[<-ht];exact l.th.at_ x D
   have c4:=l.co.c4
   have c7:=l.co.c7
   have a9:=Er l t a1
   have HO:=aa (fun W (i:aC r W)=>((l.below i).own t a1).mono (fun _ _ ⟨e,d⟩=>And.intro e (bt i d)))
   have b2:Hid (∀W (i:aC r W),aB 79 #[ak a.gb,ab x,.agg (bn (lZ M n t))] W fun e f=>(∃c:Int,e= .returned (ab c))/\Jj w1 b a P n q T M (j+1) f/\(f.cell? (af a.m 7)=some (ak a.gb)/\f.cell? (af a.m 4)=some (.slice (some (ao a.th)) n a.xt)/\f.cell? (ao wr.heap.size)=some (ab x)/\f.cell? (af a.th (x*10))=some (ab t.p)/\f.cell? (af a.th (x*10+1))=some (aM t.g)/\f.cell? (af a.th (x*10+2))=some (ab t.pg)/\f.cell? (af a.th (x*10+3))=some (aA t.lv)/\f.cell? (af a.th (x*10+4))=some (aA t.lf)/\f.cell? (af a.th (x*10+5))=some (ab t.sv)/\f.cell? (af a.th (x*10+6))=some (ab t.pc)/\f.cell? (af a.th (x*10+7))=some (ab t.ia)/\f.cell? (af a.th (x*10+8))=some (ab t.il)/\f.cell? (af a.th (x*10+9))=some (aj t.sn))):=fun W i=>by
    refine((l.below i).base (x:Int) (lZ M n t) a9.1).mono ?_
    rintro e f ⟨hc,hg⟩
    have a5:=hg
    obtain⟨a7,h2,b1,a6⟩:=hg
    refine⟨hc,?_,?_⟩
    ·unfold Jj
     rw[nS _ _ HX.out]
     have s:aD W f A a P n q T {M with gr:=mO n M (((eQ M n).take j).foldl (mO n M) M.gr) x}:=by
      unfold mO;rw[ht];exact a5
     exact aD.after V.out X.out (aD.ahead (bt Y.out i) s)
    ·obtain⟨g0,g1,g2,g3,g4,g5,g6,g7,g8,g9⟩:bC f a.th (x*10) t:=by rw[<-ht];exact h2.th.at_ x D
     exact⟨h2.co.c7,h2.co.c4,a6.keep a2 (kc i Z),g0,g1,g2,g3,g4,g5,g6,g7,g8,g9⟩
   clear l a9 a1
   go_wp2
   rw[HW.out]
   have H0:=aa (i4 r.heap.size r)
   go_region_held3 (fun f=>f.cell? (af a.m 7)=some (ak a.gb)/\f.cell? (af a.m 4)=some (.slice (some (ao a.th)) n a.xt)/\f.cell? (ao wr.heap.size)=some (ab x)/\f.cell? (af a.th (x*10))=some (ab t.p)/\f.cell? (af a.th (x*10+1))=some (aM t.g)/\f.cell? (af a.th (x*10+2))=some (ab t.pg)/\f.cell? (af a.th (x*10+3))=some (aA t.lv)/\f.cell? (af a.th (x*10+4))=some (aA t.lf)/\f.cell? (af a.th (x*10+5))=some (ab t.sv)/\f.cell? (af a.th (x*10+6))=some (ab t.pc)/\f.cell? (af a.th (x*10+7))=some (ab t.ia)/\f.cell? (af a.th (x*10+8))=some (ab t.il)/\f.cell? (af a.th (x*10+9))=some (aj t.sn))
    (first|exact HS2.out|exact⟨kc HB1.out c7,kc HB1.out c4,kc HB1.out Z,kc HB1.out d0,kc HB1.out d1,kc HB1.out d2,kc HB1.out d3,kc HB1.out d4,kc HB1.out d5,kc HB1.out d6,kc HB1.out d7,kc HB1.out d8,kc HB1.out d9⟩|go_keep)
    (first
     |(go_at_call 80;refine cH (HO.out _ (by exact bp H0.out rfl rfl rfl rfl)) fun w2 HB1=> ?_)
     |(go_at_call 79;refine(b2.out _ (by exact bp HB1.out rfl rfl rfl rfl)).mono ?_;rintro e w3 ⟨⟨c,rfl⟩,E,H⟩;have HS:=aa E;have HS2:=aa H;clear E H))
   go_wp2
   go_roundw
   case rel=>exact⟨j+1,z_,by go_num,HS.out⟩
   case measure=>simp[intOf];omega
  ·have N: ¬(j:Int)<len:=by omega
   have a3:j=len:=z_
   have U:Hid (yK w1 b a P n q T M 0 wr):=by
    have u:=E
    unfold Jj at u
    rw[uZ (by rw[C.out];omega)] at u
    exact u
   clear E a3
   go_wp2
   go_loopw [38] (fun iv wr=> ∃j:Nat,j<=len/\iv=ab j/\yK w1 b a P n q T M j wr) (fun iv _=>len-(intOf iv).toNat)
   case atStart=>exact⟨0,Nat.zero_le _,rfl,U.out⟩
   case round=>
    clear U
    obtain⟨j,hj,rfl,E⟩:=hrel
    by_cases a4:j<len
    ·have N:(j:Int)<len:=by omega
     obtain⟨x,O⟩: ∃x,(eQ M n)[j]? =some x:=⟨(eQ M n)[j]'(by rw[C.out];exact a4),zX0 _⟩
     have D:=wL M n x (i9 O)
     have a8:(x:Int)<n:=z_
     obtain⟨rb,rfl,y,e0,e1⟩:=b0.out.at_ j x O
     obtain⟨A,R,I,o⟩:=E
     have r0:=o.keep y e0
     have r1:=o.keep y e1
     have HX:=aa O
     clear y e0 e1 O
     obtain⟨t,ht⟩: ∃t,M.th x=t:=⟨_,rfl⟩
     have z:aC wr (wr.alloc (.cells #[ab x,aM (M.G x:Int)] 76)):=bq
     have l:=R.below z
     have Z:=bB wr #[ab x,aM (M.G x:Int)] 76 0 _ rfl
     have a2:=R.fresh aT
     have Y:=aa z
     have V:=aa I
     have X:=aa o
     have H1:=aa R
     clear z R I o
     generalize hW:wr.alloc (.cells #[ab x,aM (M.G x:Int)] 76)=r at*
     have HW:=aa hW
     clear hW
     obtain⟨d0,d1,d2,d3,d4,d5,d6,d7,d8,d9⟩:bC r a.th (x*10) t:=by rw[<-ht];exact l.th.at_ x D
     have c4:=l.co.c4
     have c7:=l.co.c7
     have c8:=l.co.c8
     have HS:Hid (∀W (i:aC r W),aB 81 #[ak a.m,.agg #[.int .i64 t.p,.int .u32 t.g,.int .i64 t.pg,.int .u8 t.lv,.int .u8 t.lf,.int .i64 t.sv,.int .i64 t.pc,.int .i64 t.ia,.int .i64 t.il,.int .u64 t.sn]] W fun e f=>e= .returned (ab (iM M n t:Int))/\aC r f):=fun W i=>((l.below i).state t).mono (fun _ _ ⟨e,d⟩=>And.intro e (bt i d))
     obtain⟨k,hk⟩: ∃k,Pi.jo (oT M n).T (oT M n).L (x:Int)=k:=⟨_,rfl⟩
     have J:k.ok:=by rw[<-hk];exact l.ll (x:Int)
     have HK:Hid (∀W (i:aC r W),aB 83 #[ak a.gb,ab x] W fun e f=>e= .returned (.agg (bn k))/\aC r f):=fun W i=>by
      rw[<-hk]
      exact((l.below i).key (x:Int)).mono (fun _ _ ⟨e,d⟩=>And.intro e (bt i d))
     by_cases s:iM M n t=1
     ·have HC:Hid (∀W (i:aC r W),aB 82 #[ak a.pb,ab x,.agg (bn k)] W fun e f=>(∃c:Int,e= .returned (ab c))/\yK w1 b a P n q T M (j+1) f/\(f.cell? (af a.m 8)=some (ak a.pb)/\f.cell? (af a.m 7)=some (ak a.gb)/\f.cell? (ao wr.heap.size)=some (ab x))):=fun W i=>by
       refine((l.below i).change z_ x D k J).mono ?_
       rintro e f ⟨hc,hg⟩
       have a5:=hg
       obtain⟨a7,h2,b1,a6⟩:=hg
       refine⟨hc,?_,h2.co.c8,h2.co.c7,a6.keep a2 (kc i Z)⟩
       unfold yK
       rw[nS _ _ HX.out]
       have F:aD W f A a P n q (T+(j+1)) {M with gr:=oT M n,pl:=mX n M (oT M n) (((eQ M n).take j).foldl (mX n M (oT M n)) M.pl) x}:=by
        unfold mX;rw[ht,if_pos s,hk];exact a5
       exact aD.after V.out X.out (aD.ahead (bt Y.out i) F)
      have a0:((iM M n t:Int)==1)=true:=y_
      clear l J hk H1
      rw[s] at HS
      clear s a0
      go_wp2
      rw[HW.out]
      have H0:=aa (i4 r.heap.size r)
      go_region_held3 (fun f=>f.cell? (af a.m 4)=some (.slice (some (ao a.th)) n a.xt)/\f.cell? (ao wr.heap.size)=some (ab x)/\f.cell? (af a.th (x*10))=some (ab t.p)/\f.cell? (af a.th (x*10+1))=some (aM t.g)/\f.cell? (af a.th (x*10+2))=some (ab t.pg)/\f.cell? (af a.th (x*10+3))=some (aA t.lv)/\f.cell? (af a.th (x*10+4))=some (aA t.lf)/\f.cell? (af a.th (x*10+5))=some (ab t.sv)/\f.cell? (af a.th (x*10+6))=some (ab t.pc)/\f.cell? (af a.th (x*10+7))=some (ab t.ia)/\f.cell? (af a.th (x*10+8))=some (ab t.il)/\f.cell? (af a.th (x*10+9))=some (aj t.sn))
       (first|exact⟨kc HB1.out c4,kc HB1.out Z,kc HB1.out d0,kc HB1.out d1,kc HB1.out d2,kc HB1.out d3,kc HB1.out d4,kc HB1.out d5,kc HB1.out d6,kc HB1.out d7,kc HB1.out d8,kc HB1.out d9⟩|go_keep)
       (first
        |(go_at_call 81;refine cH (HS.out _ (by exact bp H0.out rfl rfl rfl rfl)) fun w2 HB1=> ?_))
      have b5:=kc HB1.out c8
      have b6:=kc HB1.out c7
      have b3:=kc HB1.out Z
      go_wp2
      go_region_held3 (fun f=>f.cell? (af a.m 8)=some (ak a.pb)/\f.cell? (af a.m 7)=some (ak a.gb)/\f.cell? (ao wr.heap.size)=some (ab x))
       (first|exact HS2.out|exact⟨kc HB2.out c8,kc HB2.out c7,kc HB2.out Z⟩|go_keep)
       (first
        |(go_at_call 83;refine cH (HK.out _ (by exact bp HB1.out rfl rfl rfl rfl)) fun w3 HB2=> ?_)
        |(go_at_call 82;refine(HC.out _ (by exact bp HB2.out rfl rfl rfl rfl)).mono ?_;rintro e w4 ⟨⟨c,rfl⟩,E,H⟩;have U:=aa E;have HS2:=aa H;clear E H))
      go_wp2
      go_roundw
      case rel=>exact⟨j+1,z_,by go_num,U.out⟩
      case measure=>simp[intOf];omega
     ·have a0:((iM M n t:Int)==1)=false:=by grind
      have HC:Hid (∀W (i:aC r W),yK w1 b a P n q T M (j+1) W):=fun W i=>by
       unfold yK
       rw[nS _ _ HX.out]
       have F:aD W W A a P n q (T+(j+1)) {M with gr:=oT M n,pl:=mX n M (oT M n) (((eQ M n).take j).foldl (mX n M (oT M n)) M.pl) x}:=by
        unfold mX;rw[ht,if_neg s];exact((l.below i).bZ z_).goes
       exact aD.after V.out X.out (aD.ahead (bt Y.out i) F)
      clear l J hk H1 s
      go_wp2
      rw[HW.out]
      have H0:=aa (i4 r.heap.size r)
      go_region_held3 (fun f=>f.cell? (af a.m 4)=some (.slice (some (ao a.th)) n a.xt)/\f.cell? (ao wr.heap.size)=some (ab x)/\f.cell? (af a.th (x*10))=some (ab t.p)/\f.cell? (af a.th (x*10+1))=some (aM t.g)/\f.cell? (af a.th (x*10+2))=some (ab t.pg)/\f.cell? (af a.th (x*10+3))=some (aA t.lv)/\f.cell? (af a.th (x*10+4))=some (aA t.lf)/\f.cell? (af a.th (x*10+5))=some (ab t.sv)/\f.cell? (af a.th (x*10+6))=some (ab t.pc)/\f.cell? (af a.th (x*10+7))=some (ab t.ia)/\f.cell? (af a.th (x*10+8))=some (ab t.il)/\f.cell? (af a.th (x*10+9))=some (aj t.sn))
       (first|exact⟨kc HB1.out c4,kc HB1.out Z,kc HB1.out d0,kc HB1.out d1,kc HB1.out d2,kc HB1.out d3,kc HB1.out d4,kc HB1.out d5,kc HB1.out d6,kc HB1.out d7,kc HB1.out d8,kc HB1.out d9⟩|go_keep)
       (first
        |(go_at_call 81;refine cH (HS.out _ (by exact bp H0.out rfl rfl rfl rfl)) fun w2 HB1=> ?_))
      go_wp2
      go_roundw
      case rel=>exact⟨j+1,z_,by go_num,HC.out _ HB1.out⟩
      case measure=>simp[intOf];omega
    ·have N: ¬(j:Int)<len:=by omega
     have a3:j=len:=z_
     have HE:Hid (aD w wr b a P n q (T+n) (Go.Proofs.YtnmhcgpnhlhcgaaGreatDoor.settle M n)):=by
      have u:=E
      unfold yK at u
      rw[uZ (by rw[C.out];omega)] at u
      exact aD.ahead HB.out (u.bZ z_)
     clear E a3
     go_wp2
     go_end0
     exact⟨rfl,HE.out⟩
end
section
variable {w w':World} {b o:Nat} {t:Tr}
theorem aI (w:World) {b o a:Nat} {u:Value} (h: ¬a=o):(w.setCell (af b a) u).cell? (af b o)=w.cell? (af b o):=Gt.aw _ _ _ _ _ _ z_
theorem bC.fM (h:bC w b o t) {a:Nat} (c:a<o\/o+10<=a) (u:Value):bC (w.setCell (af b a) u) b o t:=
 ⟨(aI w z_).trans h.c0,(aI w z_).trans h.c1,(aI w z_).trans h.c2,(aI w z_).trans h.c3,(aI w z_).trans h.c4,(aI w z_).trans h.c5,(aI w z_).trans h.c6,(aI w z_).trans h.c7,(aI w z_).trans h.c8,(aI w z_).trans h.c9⟩
def bC.KA (h:bC w b o t) (v:Int):bC (w.setCell (af b o) (ab v)) b o {t with p:=v}:=
 ⟨Gt.aU _ _ _ _ h.c0,(aI w z_).trans h.c1,(aI w z_).trans h.c2,(aI w z_).trans h.c3,(aI w z_).trans h.c4,(aI w z_).trans h.c5,(aI w z_).trans h.c6,(aI w z_).trans h.c7,(aI w z_).trans h.c8,(aI w z_).trans h.c9⟩
def bC.K7 (h:bC w b o t) (v:Nat):bC (w.setCell (af b (o+1)) (aM v)) b o {t with g:=v}:=
 ⟨(aI w z_).trans h.c0,Gt.aU _ _ _ _ h.c1,(aI w z_).trans h.c2,(aI w z_).trans h.c3,(aI w z_).trans h.c4,(aI w z_).trans h.c5,(aI w z_).trans h.c6,(aI w z_).trans h.c7,(aI w z_).trans h.c8,(aI w z_).trans h.c9⟩
def bC.Mj (h:bC w b o t) (v:Int):bC (w.setCell (af b (o+2)) (ab v)) b o {t with pg:=v}:=
 ⟨(aI w z_).trans h.c0,(aI w z_).trans h.c1,Gt.aU _ _ _ _ h.c2,(aI w z_).trans h.c3,(aI w z_).trans h.c4,(aI w z_).trans h.c5,(aI w z_).trans h.c6,(aI w z_).trans h.c7,(aI w z_).trans h.c8,(aI w z_).trans h.c9⟩
def bC.Gx (h:bC w b o t) (v:Nat):bC (w.setCell (af b (o+3)) (aA v)) b o {t with lv:=v}:=
 ⟨(aI w z_).trans h.c0,(aI w z_).trans h.c1,(aI w z_).trans h.c2,Gt.aU _ _ _ _ h.c3,(aI w z_).trans h.c4,(aI w z_).trans h.c5,(aI w z_).trans h.c6,(aI w z_).trans h.c7,(aI w z_).trans h.c8,(aI w z_).trans h.c9⟩
def bC.tT (h:bC w b o t) (v:Nat):bC (w.setCell (af b (o+4)) (aA v)) b o {t with lf:=v}:=
 ⟨(aI w z_).trans h.c0,(aI w z_).trans h.c1,(aI w z_).trans h.c2,(aI w z_).trans h.c3,Gt.aU _ _ _ _ h.c4,(aI w z_).trans h.c5,(aI w z_).trans h.c6,(aI w z_).trans h.c7,(aI w z_).trans h.c8,(aI w z_).trans h.c9⟩
def bC.Lo (h:bC w b o t) (v:Int):bC (w.setCell (af b (o+5)) (ab v)) b o {t with sv:=v}:=
 ⟨(aI w z_).trans h.c0,(aI w z_).trans h.c1,(aI w z_).trans h.c2,(aI w z_).trans h.c3,(aI w z_).trans h.c4,Gt.aU _ _ _ _ h.c5,(aI w z_).trans h.c6,(aI w z_).trans h.c7,(aI w z_).trans h.c8,(aI w z_).trans h.c9⟩
def bC.F1 (h:bC w b o t) (v:Int):bC (w.setCell (af b (o+6)) (ab v)) b o {t with pc:=v}:=
 ⟨(aI w z_).trans h.c0,(aI w z_).trans h.c1,(aI w z_).trans h.c2,(aI w z_).trans h.c3,(aI w z_).trans h.c4,(aI w z_).trans h.c5,Gt.aU _ _ _ _ h.c6,(aI w z_).trans h.c7,(aI w z_).trans h.c8,(aI w z_).trans h.c9⟩
def bC.Fa (h:bC w b o t) (v:Int):bC (w.setCell (af b (o+7)) (ab v)) b o {t with ia:=v}:=
 ⟨(aI w z_).trans h.c0,(aI w z_).trans h.c1,(aI w z_).trans h.c2,(aI w z_).trans h.c3,(aI w z_).trans h.c4,(aI w z_).trans h.c5,(aI w z_).trans h.c6,Gt.aU _ _ _ _ h.c7,(aI w z_).trans h.c8,(aI w z_).trans h.c9⟩
def bC.F2 (h:bC w b o t) (v:Int):bC (w.setCell (af b (o+8)) (ab v)) b o {t with il:=v}:=
 ⟨(aI w z_).trans h.c0,(aI w z_).trans h.c1,(aI w z_).trans h.c2,(aI w z_).trans h.c3,(aI w z_).trans h.c4,(aI w z_).trans h.c5,(aI w z_).trans h.c6,(aI w z_).trans h.c7,Gt.aU _ _ _ _ h.c8,(aI w z_).trans h.c9⟩
def bC.Gl (h:bC w b o t) (v:Nat):bC (w.setCell (af b (o+9)) (aj v)) b o {t with sn:=v}:=
 ⟨(aI w z_).trans h.c0,(aI w z_).trans h.c1,(aI w z_).trans h.c2,(aI w z_).trans h.c3,(aI w z_).trans h.c4,(aI w z_).trans h.c5,(aI w z_).trans h.c6,(aI w z_).trans h.c7,(aI w z_).trans h.c8,Gt.aU _ _ _ _ h.c9⟩
end
section
variable {w w':World} {c:Nat->Nat} {a:Ad} {P n q T:Nat} {M:Mc}
theorem Hu.put {b:Nat} {f:Nat->Tr} (h:Hu w b n f) {x:Nat} {t:Tr} (i:bC w' b (x*10) t) (e:t.ok) (d: ∀j,j<n->j≠x->bC w' b (j*10) (f j)) (g: ∀o,w'.frozen? (af b o)=false):Hu w' b n (ay f x t):=by
 exact mK
def KN {x j i:Nat} (h:j≠x) (hi:i<10):x*10+i<j*10\/j*10+10<=x*10+i:=z_
theorem aR (w:World) (a:Addr) (u:Value) (p:Addr):(w.setCell a u).frozen? p=w.frozen? p:=World.frozen?_setCell _ _ _ _
theorem ax.pV (h:ax w c a P n q T M) {x:Nat} (e:x<n) (s:Nat) (f:s<18446744073709551616) (l:Nat) (m:l<256):
  aD w ((w.setCell (af a.th (x*10+9)) (aj s)).setCell (af a.th (x*10+4)) (aA l)) c a P n q T {M with th:=ay M.th x {M.th x with sn:=s,lf:=l}}:=by
 have d:=h.th.ok x e
 have b:Fr (fun k=>c k=4) w ((w.setCell (af a.th (x*10+9)) (aj s)).setCell (af a.th (x*10+4)) (aA l)):=((Fr.refl _ _).setCell (a:=(af a.th _)) h.lth _).setCell (a:=(af a.th _)) h.lth _
 refine⟨c,h.Ei (h.same b) b (h.th.put (((h.th.at_ x e).Gl s).tT l) ⟨d.g,d.lv,m,d.il,f⟩ (fun j p i=>((h.th.at_ j p).fM z_ _).fM z_ _) (fun o=>by rw[aR,aR];exact h.th.fz o)),h.same b,b.to (fun k _ r=> ?_)⟩
 omega
def cJ (n:Nat) (G S:Nat->Nat) (p:Int) (g s:Nat):Nat->Nat:=if Gt.hasB n G S p g=true/\Gt.ry (S p.toNat) s=true then ay S p.toNat s else S
theorem ax.move (h:ax w c a P n q T M) (p:Int) (g s:Nat):
  aB 94 #[ak a.tb,.agg #[ab p,aM g],ab s] w fun e w'=>(∃b:Int,e= .returned (ab b))/\aD w w' c a P n q T {M with S:=cJ n M.G M.S p g s}:=by
 cases f:Gt.hasB n M.G M.S p g with
 |false=>
  refine(Gt.BZ h.tb p (s:Int) g f).mono ?_
  rintro e w' ⟨rfl,i⟩
  refine⟨⟨_,rfl⟩,?_⟩
  unfold cJ
  rw[if_neg y_]
  exact h.stay i
 |true=>
  obtain⟨x,rfl,o,m,l⟩:=Gt.nC f
  cases j:Gt.ry (M.S x) s with
  |false=>
   refine(Gt.xT h.tb h.t0 x g (s:Int) o m l j).mono ?_
   rintro e w' ⟨rfl,i⟩
   refine⟨⟨_,rfl⟩,?_⟩
   unfold cJ
   rw[if_neg y_]
   exact h.stay i
  |true=>
   refine(Gt.BL h.tb h.t0 x g s o m l j).mono ?_
   rintro e w' ⟨rfl,r,u⟩
   refine⟨⟨_,rfl⟩,?_⟩
   unfold cJ
   rw[if_pos ⟨f,y_⟩,Int.toNat_natCast]
   have d:Fr (fun k=>c k=5) w w':=(Lr u).to (fun k _ t=>by rw[t];exact h.ltb.2)
   exact⟨c,h.FE (h.same d) d r,h.same d,d.to z_⟩
theorem ax.Nm (h:ax w c a P n q T M) (i:Int) (f:Nat) (t:f<18446744073709551616):
  aB 95 #[ak a.sb,ab i,aj f] w fun e w'=>(∃b:Int,e= .returned (ab b))/\aD w w' c a P n q T {M with sv:=Cb.pD M.sv i f}:=by
 obtain⟨r,v,m,p⟩:=h.sv
 rcases Cb.nL M.sv i with ⟨j,A⟩|⟨k,x,rfl,l⟩
 ·refine(Cb.yG m i f A).mono ?_
  rintro e w' ⟨rfl,rfl⟩
  refine⟨⟨_,rfl⟩,?_⟩
  unfold Cb.pD
  rw[if_neg y_]
  exact h.goes
 ·have j:=Cb.qv l
  by_cases o:x.d<=f
  ·refine(Cb.DE m k f x l o t).mono ?_
   rintro e w' ⟨rfl,s,y⟩
   refine⟨⟨_,rfl⟩,?_⟩
   unfold Cb.pD
   rw[j.1,if_pos ⟨j.2,o⟩,Int.toNat_natCast]
   have g:=(IE y).to (fun k _ u=>p k u.symm)
   exact⟨c,h.AF (h.same g) g s p,h.same g,g.to z_⟩
  ·refine(Cb.F8 m k f x l o).mono ?_
   rintro e w' ⟨rfl,z⟩
   refine⟨⟨_,rfl⟩,?_⟩
   unfold Cb.pD
   rw[j.1,if_neg z_]
   exact h.stay z
theorem ax.put (h:ax w c a P n q T M) (o:T<=1000000000) (p f:Int) (k:Ke.K) (i:k.ok):
  aB 96 #[ak a.pb,ab p,ab f,.agg (bn k)] w fun e w'=>(∃b:Int,e= .returned (ab b))/\aD w w' c a P n q (T+1) {M with pl:=iy P n q (gh M.pl) p f k}:=by
 obtain⟨O,l,j⟩:=h.pl
 refine(l.put o p f k i).mono ?_
 rintro e w' ⟨rfl,g,m⟩
 have d:=m.to (fun k _ i=>j k i)
 exact⟨⟨_,rfl⟩,c,h.MO (h.same d) d g j,h.same d,d.to z_⟩
noncomputable def cY (n:Nat) (M:Mc) (x:Nat):Mc:={M with S:=cJ n M.G M.S (M.th x).p (M.th x).g 1,th:=ay M.th x {M.th x with sn:=M.nw,lf:=0}}
noncomputable def dt (n:Nat) (M:Mc) (x:Nat):Mc:=if iM M n (M.th x)=2 then cY n M x else{cY n M x with sv:=Cb.pD M.sv (M.th x).sv M.nw}
noncomputable def cZ (n:Nat) (M:Mc) (x:Nat):Mc:=settle (dt n M x) n
noncomputable def ready (P n q:Nat) (M:Mc) (x:Nat) (b:Int):Mc:={cZ n M x with pl:=iy P n q (gh (cZ n M x).pl) b (x:Int) (Pi.jo (cZ n M x).gr.T (cZ n M x).gr.L (x:Int))}
end
section
variable {w W W':World} {b:Nat->Nat} {a:Ad} {P n q T:Nat} {M:Mc}
def gp (h:aD w W b a P n q T M) (f:W'.heap=W.heap) (e:W'.os=W.os) (d:W'.tape=W.tape) (c:W'.output=W.output):aD w W' b a P n q T M:=
 h.more mK
def aD.core (h:aD w W b a P n q T M):Core W a P n M.qu M.ag:=h.elim fun _ q=>q.1.co
theorem aD.tr (h:aD w W b a P n q T M) {x:Nat} (c:x<n):bC W a.th (x*10) (M.th x):=h.elim fun _ q=>q.1.th.at_ x c
def aD.Gb (h:aD w W b a P n q T M) (o:Nat):W.frozen? (af a.th o)=false:=h.elim fun _ q=>q.1.th.fz o
def aD.M7 (h:aD w W b a P n q T M):M.nw<18446744073709551616:=h.elim fun _ q=>q.1.M7
theorem aD.size (h:aD w W b a P n q T M):w.heap.size<=W.heap.size:=h.elim fun _ q=>q.2.2.size
def aD.ll (h:aD w W b a P n q T M) (t:Int):(Pi.jo M.gr.T M.gr.L t).ok:=h.elim fun _ q=>q.1.ll t
theorem aD.state (h:aD w W b a P n q T M) (t:Tr):
  aB 81 #[ak a.m,.agg #[.int .i64 t.p,.int .u32 t.g,.int .i64 t.pg,.int .u8 t.lv,.int .u8 t.lf,.int .i64 t.sv,.int .i64 t.pc,.int .i64 t.ia,.int .i64 t.il,.int .u64 t.sn]] W fun e c=>e= .returned (ab (iM M n t:Int))/\aD w c b a P n q T M:=by
 obtain⟨d,f,j,i⟩:=id h
 grind[ax.state,Calls.mono,aD.more]
def aD.now (h:aD w W b a P n q T M):
  vS 47 #[ak a.m] W (aj M.nw):=by
 obtain⟨d,c,f,e⟩:=id h
 exact c.now
def aD.OH (h:aD w W b a P n q T M):
  aB 47 #[ak a.m] W fun e c=>e= .returned (aj M.nw)/\aD w c b a P n q T M:=
 h.now.mono y_
theorem aD.key (h:aD w W b a P n q T M) (t:Int):
  aB 83 #[ak a.gb,ab t] W fun e c=>e= .returned (.agg (bn (Pi.jo M.gr.T M.gr.L t)))/\aD w c b a P n q T M:=by
 obtain⟨d,f,i,g⟩:=id h
 grind[ax.key,Calls.mono,aD.more]
theorem aD.move (h:aD w W b a P n q T M) (p:Int) (g s:Nat):
  aB 94 #[ak a.tb,.agg #[ab p,aM g],ab s] W fun e d=>(∃c:Int,e= .returned (ab c))/\aD w d b a P n q T {M with S:=cJ n M.G M.S p g s}:=by
 obtain⟨f,i,k,j⟩:=id h
 grind[ax.move,Calls.mono,aD.after]
theorem aD.Nm (h:aD w W b a P n q T M) (i:Int) (d:Nat) (k:d<18446744073709551616):
  aB 95 #[ak a.sb,ab i,aj d] W fun e f=>(∃c:Int,e= .returned (ab c))/\aD w f b a P n q T {M with sv:=Cb.pD M.sv i d}:=by
 obtain⟨g,j,m,l⟩:=id h
 grind[ax.Nm,Calls.mono,aD.after]
theorem aD.put (h:aD w W b a P n q T M) (l:T<=1000000000) (p d:Int) (k:Ke.K) (j:k.ok):
  aB 96 #[ak a.pb,ab p,ab d,.agg (bn k)] W fun e f=>(∃c:Int,e= .returned (ab c))/\aD w f b a P n q (T+1) {M with pl:=iy P n q (gh M.pl) p d k}:=by
 obtain⟨g,i,o,m⟩:=h
 grind[ax.put,Calls.mono,aD.after]
theorem aD.settle (h:aD w W b a P n q T M) (g:T+n<=1000000000):
  aB 42 #[ak a.m] W fun e c=>e=aS #[]/\aD w c b a P n q (T+n) (Go.Proofs.YtnmhcgpnhlhcgaaGreatDoor.settle M n):=by
 obtain⟨d,f,j,i⟩:=h
 grind[ax.settle,Calls.mono,aD.after]
theorem aD.pV (h:aD w W b a P n q T M) {x:Nat} (e:x<n) (s:Nat) (f:s<18446744073709551616) (l:Nat) (g:l<256):
  aD w ((W.setCell (af a.th (x*10+9)) (aj s)).setCell (af a.th (x*10+4)) (aA l)) b a P n q T {M with th:=ay M.th x {M.th x with sn:=s,lf:=l}}:=by
 obtain⟨c,d,j,i⟩:=h
 grind[aD.after,ax.pV]
def aD.ready (h:aD w W b a P n q T M) (U:T+n<=1000000000) (x:Nat) (r:x<n) (f:Int):
  aB 50 #[ak a.m,ab x,ab f] W fun e d=>e=aS #[]/\aD w d b a P n q (T+n+1) (Go.Proofs.YtnmhcgpnhlhcgaaGreatDoor.ready P n q M x f):=by
 obtain⟨t,v⟩: ∃t,M.th x=t:=⟨_,rfl⟩
 have a3:(x:Int)<n:=z_
 obtain⟨H,F,d2,d3,d4,d5,d6,d7,d8,d9⟩:bC W a.th (x*10) t:=by rw[<-v];exact h.tr r
 have c4:=h.core.c4
 have y:=h.M7
 have H0:=aa h
 have HS:=aa (fun W (h:aD w W b a P n q T M)=>h.state t)
 have HM:Hid (∀W (h:aD w W b a P n q T M),aB 94 #[ak a.tb,.agg #[ab t.p,aM t.g],ab 1] W fun e d=>(∃c:Int,e= .returned (ab c))/\aD w d b a P n q T {M with S:=cJ n M.G M.S t.p t.g 1}):=fun W h=>h.move t.p t.g 1
 have Q:Hid (∀W,aD w W b a P n q T {M with S:=cJ n M.G M.S t.p t.g 1}->aD w ((W.setCell (af a.th (x*10+9)) (aj M.nw)).setCell (af a.th (x*10+4)) (aA 0)) b a P n q T (cY n M x)):=fun W h=>by
  have:=h.pV r M.nw y 0 x_
  unfold cY
  rw[v]
  rw[<-v] at this
  rw[<-v]
  exact this
 clear h
 have O:Hid (∀W (h:aD w W b a P n q T M),W.cell? (af a.th (x*10))=some (ab t.p)/\W.cell? (af a.th (x*10+1))=some (aM t.g)):=fun W h=>by rw[<-v];exact⟨(h.tr r).c0,(h.tr r).c1⟩
 by_cases N:iM M n t=2
 ·have J:((iM M n t:Int) !=2)=false:=by grind
  have z:dt n M x=cY n M x:=by unfold dt;grind
  have A:Hid (∀W (h:aD w W b a P n q T (dt n M x)),aB 42 #[ak a.m] W fun e d=>e=aS #[]/\aD w d b a P n q (T+n) (cZ n M x)):=fun W h=>h.settle U
  obtain⟨k,B⟩: ∃k,Pi.jo (cZ n M x).gr.T (cZ n M x).gr.L (x:Int)=k:=⟨_,rfl⟩
  have HK:Hid (∀W (h:aD w W b a P n q (T+n) (cZ n M x)),aB 83 #[ak a.gb,ab x] W fun e d=>e= .returned (.agg (bn k))/\aD w d b a P n q (T+n) (cZ n M x)):=fun W h=>by
   rw[<-B];exact h.key (x:Int)
  have HP:Hid (∀W (h:aD w W b a P n q (T+n) (cZ n M x)),aB 96 #[ak a.pb,ab f,ab x,.agg (bn k)] W fun e d=>(∃c:Int,e= .returned (ab c))/\aD w d b a P n q (T+n+1) (Go.Proofs.YtnmhcgpnhlhcgaaGreatDoor.ready P n q M x f)):=fun W h=>by
   unfold Go.Proofs.YtnmhcgpnhlhcgaaGreatDoor.ready
   have s:=h.ll (x:Int)
   rw[B] at s|-
   exact h.put U f (x:Int) k s
  have D:Hid (∀W,aD w W b a P n q T {M with S:=cJ n M.G M.S t.p t.g 1}->bC W a.th (x*10) t/\ ∀o,W.frozen? (af a.th o)=false):=fun W h=>⟨by rw[<-v];exact h.tr r,h.Gb⟩
  have E:Hid (∀W,aD w W b a P n q T (cY n M x)->W.cell? (af a.th (x*10+5))=some (ab t.sv)):=fun W h=>by
   have:=(h.tr r).c5
   unfold cY at this
   grind[ay]
  have C:=aa fun W (h:aD w W b a P n q T {M with S:=cJ n M.G M.S t.p t.g 1})=>h.now
  have R:Hid (∀W,aD w W b a P n q T (cY n M x)->aB 47 #[ak a.m] W fun e d=>e= .returned (aj M.nw)/\aD w d b a P n q T (cY n M x)):=fun W h=>h.OH
  clear v N y B
  rw[z] at A
  clear z
  refine ge ?_
  go_wp2_with (go_at_call 81;refine cH (HS.out _ H0.out) fun I j=> ?_)
  have c5:=j.out.core.c5
  have a1:=aa (fun W (h:aD w W b a P n q T M)=>h.tr r)
  clear H F d2 d3 d4 d5 d6 d7 d8 d9
  obtain⟨H,F⟩:I.cell? (af a.th (x*10))=some (ab t.p)/\I.cell? (af a.th (x*10+1))=some (aM t.g):=O.out _ j.out
  go_region_held3 (fun d=>d.cell? (af a.m 5)=some (ak a.tb)/\d.cell? (af a.th (x*10))=some (ab t.p)/\d.cell? (af a.th (x*10+1))=some (aM t.g))
   (first|exact⟨HG2.out.core.c5,e0,e1⟩|go_keep)
   (first
    |(go_at_call 94;refine(HM.out _ (by exact gp j.out rfl rfl rfl rfl)).mono ?_;rintro e V ⟨⟨c,rfl⟩,l⟩;have HG2:=aa l;clear l;obtain⟨⟨e0,e1,z,e3,e4,e5,e6,e7,Z,Y⟩,X⟩:=D.out _ HG2.out))
  go_upto_region 4 with (first
   |(go_at_call 47;refine cS (C.out _ HG2.out) ?_))
  have u:=aa (Q.out _ HG2.out)
  clear e0 e1 z e3 e4 e5 e6 e7 Z Y X
  generalize (V.setCell (af a.th (x*10+9)) (aj M.nw)).setCell (af a.th (x*10+4)) (aA 0)=w3 at*
  clear c4 c5 H F
  go_upto_region 7 with (first
   |(go_at_call 42;refine cH (A.out _ (by exact gp u.out rfl rfl rfl rfl)) fun w6 i=> ?_))
  have c8:=i.out.core.c8
  have c7:=i.out.core.c7
  go_region_held3 (fun d=>d.cell? (af a.m 8)=some (ak a.pb)/\d.cell? (af a.m 7)=some (ak a.gb))
   (first|exact⟨HG8.out.core.c8,HG8.out.core.c7⟩|exact⟨HG7.out.core.c8,HG7.out.core.c7⟩|go_keep)
   (first
    |(go_at_call 83;refine cH (HK.out _ (by exact gp i.out rfl rfl rfl rfl)) fun w7 HG7=> ?_)
    |(go_at_call 96;refine(HP.out _ (by exact gp HG7.out rfl rfl rfl rfl)).mono ?_;rintro e w8 ⟨⟨c,rfl⟩,l⟩;have HG8:=aa l;clear l))
  go_wp2
  go_end0
  exact⟨rfl,HG8.out⟩
 ·have a2:Hid (∀W,aD w W b a P n q T (dt n M x)->W.cell? (af a.th (x*10+5))=some (ab t.sv)):=fun W h=>by
   have:=(h.tr r).c5
   have e:(dt n M x).th x={t with sn:=M.nw,lf:=0}:=by unfold dt cY;split<;>simp only[aE]<;>rw[v]
   grind
  have J:((iM M n t:Int) !=2)=true:=y_
  have z:dt n M x={cY n M x with sv:=Cb.pD M.sv t.sv M.nw}:=by unfold dt;grind
  have a0:Hid (∀W (h:aD w W b a P n q T (cY n M x)),aB 95 #[ak a.sb,ab t.sv,aj M.nw] W fun e d=>(∃c:Int,e= .returned (ab c))/\aD w d b a P n q T (dt n M x)):=fun W h=>by
   rw[z];exact h.Nm t.sv M.nw y
  have A:Hid (∀W (h:aD w W b a P n q T (dt n M x)),aB 42 #[ak a.m] W fun e d=>e=aS #[]/\aD w d b a P n q (T+n) (cZ n M x)):=fun W h=>h.settle U
  obtain⟨k,B⟩: ∃k,Pi.jo (cZ n M x).gr.T (cZ n M x).gr.L (x:Int)=k:=⟨_,rfl⟩
  have HK:Hid (∀W (h:aD w W b a P n q (T+n) (cZ n M x)),aB 83 #[ak a.gb,ab x] W fun e d=>e= .returned (.agg (bn k))/\aD w d b a P n q (T+n) (cZ n M x)):=fun W h=>by
   rw[<-B];exact h.key (x:Int)
  have HP:Hid (∀W (h:aD w W b a P n q (T+n) (cZ n M x)),aB 96 #[ak a.pb,ab f,ab x,.agg (bn k)] W fun e d=>(∃c:Int,e= .returned (ab c))/\aD w d b a P n q (T+n+1) (Go.Proofs.YtnmhcgpnhlhcgaaGreatDoor.ready P n q M x f)):=fun W h=>by
   unfold Go.Proofs.YtnmhcgpnhlhcgaaGreatDoor.ready
   have s:=h.ll (x:Int)
   rw[B] at s|-
   exact h.put U f (x:Int) k s
  have D:Hid (∀W,aD w W b a P n q T {M with S:=cJ n M.G M.S t.p t.g 1}->bC W a.th (x*10) t/\ ∀o,W.frozen? (af a.th o)=false):=fun W h=>⟨by rw[<-v];exact h.tr r,h.Gb⟩
  have E:Hid (∀W,aD w W b a P n q T (cY n M x)->W.cell? (af a.th (x*10+5))=some (ab t.sv)):=fun W h=>by
   have:=(h.tr r).c5
   unfold cY at this
   grind[ay]
  have C:=aa fun W (h:aD w W b a P n q T {M with S:=cJ n M.G M.S t.p t.g 1})=>h.now
  have R:Hid (∀W,aD w W b a P n q T (cY n M x)->aB 47 #[ak a.m] W fun e d=>e= .returned (aj M.nw)/\aD w d b a P n q T (cY n M x)):=fun W h=>h.OH
  clear v N y B
  clear z
  refine ge ?_
  go_wp2_with (go_at_call 81;refine cH (HS.out _ H0.out) fun I j=> ?_)
  have c5:=j.out.core.c5
  have a1:=aa (fun W (h:aD w W b a P n q T M)=>h.tr r)
  clear H F d2 d3 d4 d5 d6 d7 d8 d9
  obtain⟨H,F⟩:I.cell? (af a.th (x*10))=some (ab t.p)/\I.cell? (af a.th (x*10+1))=some (aM t.g):=O.out _ j.out
  go_region_held3 (fun d=>d.cell? (af a.m 5)=some (ak a.tb)/\d.cell? (af a.th (x*10))=some (ab t.p)/\d.cell? (af a.th (x*10+1))=some (aM t.g))
   (first|exact⟨HG2.out.core.c5,e0,e1⟩|go_keep)
   (first
    |(go_at_call 94;refine(HM.out _ (by exact gp j.out rfl rfl rfl rfl)).mono ?_;rintro e V ⟨⟨c,rfl⟩,l⟩;have HG2:=aa l;clear l;obtain⟨⟨e0,e1,z,e3,e4,e5,e6,e7,Z,Y⟩,X⟩:=D.out _ HG2.out))
  go_upto_region 4 with (first
   |(go_at_call 47;refine cS (C.out _ HG2.out) ?_))
  have u:=aa (Q.out _ HG2.out)
  clear e0 e1 z e3 e4 e5 e6 e7 Z Y X
  generalize (V.setCell (af a.th (x*10+9)) (aj M.nw)).setCell (af a.th (x*10+4)) (aA 0)=w3 at*
  clear c4 c5 H F
  go_upto_region 5 with fail
  have c6:=u.out.core.c6
  have k5:=E.out _ u.out
  go_region_held3 (fun d=>d.cell? (af a.m 6)=some (ak a.sb)/\d.cell? (af a.th (x*10+5))=some (ab t.sv))
   (first|exact⟨HG5.out.core.c6,a2.out _ HG5.out⟩|exact⟨HG4.out.core.c6,E.out _ HG4.out⟩|go_keep)
   (first
    |(go_at_call 47;refine cH (R.out _ (by exact gp u.out rfl rfl rfl rfl)) fun w4 HG4=> ?_)
    |(go_at_call 95;refine(a0.out _ (by exact gp HG4.out rfl rfl rfl rfl)).mono ?_;rintro e w5 ⟨⟨c,rfl⟩,l⟩;have HG5:=aa l;clear l))
  clear c6 k5
  go_upto_region 7 with (first
   |(go_at_call 42;refine cH (A.out _ (by exact gp HG5.out rfl rfl rfl rfl)) fun w6 i=> ?_))
  have c8:=i.out.core.c8
  have c7:=i.out.core.c7
  go_region_held3 (fun d=>d.cell? (af a.m 8)=some (ak a.pb)/\d.cell? (af a.m 7)=some (ak a.gb))
   (first|exact⟨HG8.out.core.c8,HG8.out.core.c7⟩|exact⟨HG7.out.core.c8,HG7.out.core.c7⟩|go_keep)
   (first
    |(go_at_call 83;refine cH (HK.out _ (by exact gp i.out rfl rfl rfl rfl)) fun w7 HG7=> ?_)
    |(go_at_call 96;refine(HP.out _ (by exact gp HG7.out rfl rfl rfl rfl)).mono ?_;rintro e w8 ⟨⟨c,rfl⟩,l⟩;have HG8:=aa l;clear l))
  go_wp2
  go_end0
  exact⟨rfl,HG8.out⟩
end
structure At (w W:World) (lab labk:Nat->Nat) (a:Ad) (P n q T:Nat) (M:Mc):Prop where
 i:ax W labk a P n q T M
 l:oS w W lab labk
 f:Fr (fun k=>lab k≠0) w W
 z:0<w.heap.size
section
variable {w W W':World} {d c:Nat->Nat} {a:Ad} {P n q T T':Nat} {M M':Mc}
def At.goes (h:At w W d c a P n q T M):aD w W d a P n q T M:=⟨c,h.i,h.l,h.f⟩
def ax.Ps (h:ax w d a P n q T M):At w w d d a P n q T M:=⟨h,⟨fun _ _=>rfl,h.lt⟩,Fr.refl _ _,h.t0.pos⟩
def aD.open (h:aD w W d a P n q T M) (hz:0<w.heap.size): ∃c,At w W d c a P n q T M:=h.elim fun l q=>⟨l,q.1,q.2.1,q.2.2,hz⟩
def At.step (h:At w W d c a P n q T M) (g:aD W W' c a P n q T' M'): ∃e,At w W' d e a P n q T' M'/\(∀b,b<W.heap.size->e b=c b)/\Fr (fun k=>c k≠0) W W':=by
 obtain⟨m,o,j,i⟩:=g
 exact⟨m,⟨o,h.l.then j h.f.size,h.f.then i (fun k r p=>by rw[<-h.l.old k r];exact p),h.z⟩,j.old,i⟩
def At.below (h:At w W d c a P n q T M) (b:aC W W'):At w W' d c a P n q T M:=
 ⟨h.i.below b,⟨h.l.old,fun k e=>i8 (h.l.lt k e) b.size⟩,h.f.then (dd (S:=fun _=>False) b) q_,h.z⟩
def At.new (h:At w W d c a P n q T M) (o:Obj):At w (W.alloc o) d c a P n q T M:=h.below bq
def At.fresh (h:At w W d c a P n q T M) {k:Nat} (b:W.heap.size<=k):c k=0:=h.i.fresh b
def At.dc (h:At w W d c a P n q T M) (g:W'.heap=W.heap) (f:W'.os=W.os) (e:W'.tape=W.tape) (b:W'.output=W.output):At w W' d c a P n q T M:=
 h.below mK
def At.drew (h:At w W d c a P n q T M):At w W.drew d c a P n q T M:=h.dc rfl rfl rfl rfl
theorem DQ (w:World) (k:Nat):w.drew.heap[k]? =w.heap[k]? :=rfl
def At.set (h:At w W d c a P n q T M) {b:Nat} (p:w.heap.size<=b) (m:c b=0) (o:Nat) (u:Value):At w (W.setCell (af b o) u) d c a P n q T M:=by
 have e:=h.z
 have g:Fr (fun k=>k=b) W (W.setCell (af b o) u):=(Fr.refl (fun k=>k=b) W).setCell (a:=(af b o)) rfl _
 refine⟨h.i.frame g y_ z_,⟨h.l.old,fun k j=>by simpa using h.l.lt k j⟩,h.f.then g z_,h.z⟩
def Fr.box {w W:World} {d:Nat->Nat} (f:Fr (fun k=>d k≠0) w W) {b:Nat} (e:d b=0) (g:b<w.heap.size):W.heap[b]? =w.heap[b]? :=f.block b g (fun q=>q e)
def cM (M:Mc) (n:Nat):Option Nat:=((Gt.pl M.S true n n).head?).map (·.val)
def ic (M:Mc) (x:Nat):Mc:={M with G:=ay M.G x (M.G x+1),S:=ay M.S x 1}
def Lj (M:Mc) (n:Nat):Prop:= ∀x,x<n->M.G x+1<4294967296
def sB {x:Nat} (h:cM M n=some x):x<n:=by
 unfold cM at h
 obtain⟨y,_,rfl⟩:=Option.map_eq_some_iff.1 h
 omega
def ax.alloc (h:ax w d a P n q T M) (m:Lj M n):
  aB 99 #[ak a.tb] w fun e w'=>
   (∃x,cM M n=some x/\e=aS #[.agg #[ab x,aM ((M.G x+1:Nat):Int)],ab 0]/\aD w w' d a P n q T (ic M x))\/
   (cM M n=none/\e=aS #[.agg #[ab 0,aM 0],ab 4]/\aC w w'):=by
 refine(callsIn_wide.1 (Gt.Dr a.tb a.tg n M.G M.S w h.tb m)).mono ?_
 rintro e w' (⟨x,f,rfl,g,j⟩|⟨f,rfl,p⟩)
 ·refine .inl ⟨x.val,?_,rfl,?_⟩
  ·obtain⟨l,o⟩:=f
   unfold cM
   grind
  ·have b:Fr (fun k=>d k=5) w w':=(Lr j).to (fun k _ i=>by rw[i];exact h.ltb.2)
   exact⟨d,h.FE (h.same b) b g,h.same b,b.to z_⟩
 grind[cM]
def ax.N8 (h:ax w d a P n q T M) {x:Nat} (p:x<n) (t:Tr) (e:t.ok) (i:bC W a.th (x*10) t) (m:Fr (fun k=>k=a.th) w W) (b: ∀j,j<n->j≠x->bC W a.th (j*10) (M.th j)) (f: ∀o,W.frozen? (af a.th o)=false):ax W d a P n q T {M with th:=ay M.th x t}:=by
 have g:Fr (fun k=>d k=4) w W:=m.to (fun k _ l=>by rw[l];exact h.lth)
 exact h.Ei (h.same g) g (h.th.put i e b f)
def kL (w:World) (b o:Nat) (t:Tr):World:=((((((((((w.setCell (af b o) (ab t.p)).setCell (af b (o+1)) (aM t.g)).setCell (af b (o+2)) (ab t.pg)).setCell (af b (o+3)) (aA t.lv)).setCell (af b (o+4)) (aA t.lf)).setCell (af b (o+5)) (ab t.sv)).setCell (af b (o+6)) (ab t.pc)).setCell (af b (o+7)) (ab t.ia)).setCell (af b (o+8)) (ab t.il)).setCell (af b (o+9)) (aj t.sn))
def MK {b o:Nat} {e:Tr} (h:bC w b o e) (t:Tr):bC (kL w b o t) b o t:=((((((((((h.KA t.p).K7 t.g).Mj t.pg).Gx t.lv).tT t.lf).Lo t.sv).F1 t.pc).Fa t.ia).F2 t.il).Gl t.sn)
def yC (w:World) (b o:Nat) (t:Tr):Fr (fun k=>k=b) w (kL w b o t):=by
 unfold kL
 exact((((((((((Fr.refl (fun k=>k=b) w).setCell (a:=(af b o)) rfl _).setCell (a:=(af b (o+1))) rfl _).setCell (a:=(af b (o+2))) rfl _).setCell (a:=(af b (o+3))) rfl _).setCell (a:=(af b (o+4))) rfl _).setCell (a:=(af b (o+5))) rfl _).setCell (a:=(af b (o+6))) rfl _).setCell (a:=(af b (o+7))) rfl _).setCell (a:=(af b (o+8))) rfl _).setCell (a:=(af b (o+9))) rfl _
def IZ (w:World) (b o:Nat) (t:Tr) (k:Nat) (e:k≠b):(kL w b o t).heap[k]? =w.heap[k]? :=by
 unfold kL
 exact(zZ0 _ _ _ _ e).trans ((zZ0 _ _ _ _ e).trans ((zZ0 _ _ _ _ e).trans ((zZ0 _ _ _ _ e).trans ((zZ0 _ _ _ _ e).trans ((zZ0 _ _ _ _ e).trans ((zZ0 _ _ _ _ e).trans ((zZ0 _ _ _ _ e).trans ((zZ0 _ _ _ _ e).trans ((zZ0 _ _ _ _ e))))))))))
def IM {b o e:Nat} {t f:Tr} (h:bC w b o t) (g:e+10<=o\/o+10<=e):bC (kL w b e f) b o t:=by
 unfold kL
 exact((((((((((h.fM z_ _).fM z_ _).fM z_ _).fM z_ _).fM z_ _).fM z_ _).fM z_ _).fM z_ _).fM z_ _).fM z_ _)
def Mz {b o:Nat} {t:Tr} (h: ∀o,w.frozen? (af b o)=false): ∀e,(kL w b o t).frozen? (af b e)=false:=fun e=>by
 unfold kL
 simp_all
def ax.OX (h:ax w d a P n q T M) {x:Nat} (e:x<n) (t:Tr) (b:t.ok):ax (kL w a.th (x*10) t) d a P n q T {M with th:=ay M.th x t}:=
 h.N8 e t b (MK (h.th.at_ x e) t) (yC _ _ _ _) (fun j g f=>IM (h.th.at_ j g) z_) (Mz h.th.fz)
def At.OX (h:At w W d c a P n q T M) {x:Nat} (m:x<n) (t:Tr) (b:t.ok):At w (Go.Proofs.YtnmhcgpnhlhcgaaGreatDoor.kL W a.th (x*10) t) d c a P n q T {M with th:=ay M.th x t}:=by
 have j:=yC W a.th (x*10) t
 refine⟨h.i.OX m t b,⟨h.l.old,fun k g=>i8 (h.l.lt k g) j.size⟩,h.f.then j (fun k g e=> ?_),h.z⟩
 rw[<-h.l.old k g,e,h.i.lth];decide
end
structure Ev where
 k:Int
 p:Int
 x:Int
 g:Nat
 r:Int
 e:Int
structure jf (w:World) (b:Nat) (v:Ev):Prop where
 c0:w.cell? (ao b)=some (ab v.k)
 c1:w.cell? (af b 1)=some (ab v.p)
 c2:w.cell? (af b 2)=some (ab v.x)
 c3:w.cell? (af b 3)=some (aM v.g)
 c4:w.cell? (af b 4)=some (ab v.r)
 c5:w.cell? (af b 5)=some (ab v.e)
 fz: ∀o,w.frozen? (af b o)=false
theorem jf.kept {w w':World} {b:Nat} {v:Ev} (h:jf w b v) (a:w'.heap[b]? =w.heap[b]?):jf w' b v:=
 have e: ∀o,w'.cell? (af b o)=w.cell? (af b o):=fun _=>i5 a
 ⟨(e _).trans h.c0,(e _).trans h.c1,(e _).trans h.c2,(e _).trans h.c3,(e _).trans h.c4,(e _).trans h.c5,fun o=>(zV0 a).trans (h.fz o)⟩
theorem jf.lt {w:World} {b:Nat} {v:Ev} (h:jf w b v):b<w.heap.size:=i7 w _ h.c0
def jf.new (w:World):jf (w.alloc (.cells #[ab 0,ab 0,ab 0,aM 0,ab 0,ab 0] 80)) w.heap.size ⟨0,0,0,0,0,0⟩:=
 ⟨q_,q_,q_,q_,q_,q_,fun o=>q_⟩
structure nT (w:World) (b:Nat) (t:Tr):Prop where
 c:bC w b 0 t
 fz: ∀o,w.frozen? (af b o)=false
theorem nT.kept {w w':World} {b:Nat} {t:Tr} (h:nT w b t) (a:w'.heap[b]? =w.heap[b]?):nT w' b t:=⟨h.c.kept a,fun o=>(zV0 a).trans (h.fz o)⟩
theorem nT.lt {w:World} {b:Nat} {t:Tr} (h:nT w b t):b<w.heap.size:=i7 w _ h.c.c0
def nT.new (w:World) (t:Tr):nT (w.alloc (.cells #[.int .i64 t.p,.int .u32 t.g,.int .i64 t.pg,.int .u8 t.lv,.int .u8 t.lf,.int .i64 t.sv,.int .i64 t.pc,.int .i64 t.ia,.int .i64 t.il,.int .u64 t.sn] 130)) w.heap.size t:=⟨bC.new w t,fun o=>q_⟩
noncomputable def iJ (P n q:Nat) (M:Mc) (x:Nat) (a:Int) (t:Tr):Mc:=ready P n q {ic M x with th:=ay M.th x {t with p:=(x:Int),g:=M.G x+1}} x a
section
variable {w W f:World} {d e:Nat->Nat} {a:Ad} {P n q T T':Nat} {M M':Mc}
def ax.su (h:ax w d a P n q T M) (hT:T+n<=1000000000) (hG:Lj M n) (k:Int) (t:Tr) (E:t.ok) (x:Nat) (hf:cM M n=some x):
  aB 55 #[ak a.m,ab k,.agg #[.int .i64 t.p,.int .u32 t.g,.int .i64 t.pg,.int .u8 t.lv,.int .u8 t.lf,.int .i64 t.sv,.int .i64 t.pc,.int .i64 t.ia,.int .i64 t.il,.int .u64 t.sn]] w fun j r=>j=aS #[.agg #[ab 9,ab k,ab x,aM ((M.G x+1:Nat):Int),ab t.pg,ab 0],ab 0]/\aD w r d a P n q (T+n+1) (iJ P n q M x k t):=by
 have hx:=sB hf
 have f1:(x:Int)<n:=z_
 have c9:=hG x hx
 obtain⟨g,hg⟩: ∃g,M.G x+1=g:=⟨_,rfl⟩
 have U:aC w (w.alloc (.cells #[.int .i64 t.p,.int .u32 t.g,.int .i64 t.pg,.int .u8 t.lv,.int .u8 t.lf,.int .i64 t.sv,.int .i64 t.pc,.int .i64 t.ia,.int .i64 t.il,.int .u64 t.sn] 130)):=bq
 have b1:aC w ((w.alloc (.cells #[.int .i64 t.p,.int .u32 t.g,.int .i64 t.pg,.int .u8 t.lv,.int .u8 t.lf,.int .i64 t.sv,.int .i64 t.pc,.int .i64 t.ia,.int .i64 t.il,.int .u64 t.sn] 130)).alloc (.cells #[ab 0,ab 0,ab 0,aM 0,ab 0,ab 0] 80)):=U.alloc q_ _
 have A0:=h.Ps.below b1
 have kb:nT ((w.alloc (.cells #[.int .i64 t.p,.int .u32 t.g,.int .i64 t.pg,.int .u8 t.lv,.int .u8 t.lf,.int .i64 t.sv,.int .i64 t.pc,.int .i64 t.ia,.int .i64 t.il,.int .u64 t.sn] 130)).alloc (.cells #[ab 0,ab 0,ab 0,aM 0,ab 0,ab 0] 80)) w.heap.size t:=(nT.new w t).kept (bq.block _ (nT.new w t).lt)
 have ke:=jf.new (w.alloc (.cells #[.int .i64 t.p,.int .u32 t.g,.int .i64 t.pg,.int .u8 t.lv,.int .u8 t.lf,.int .i64 t.sv,.int .i64 t.pc,.int .i64 t.ia,.int .i64 t.il,.int .u64 t.sn] 130))
 rw[show(w.alloc (.cells #[.int .i64 t.p,.int .u32 t.g,.int .i64 t.pg,.int .u8 t.lv,.int .u8 t.lf,.int .i64 t.sv,.int .i64 t.pc,.int .i64 t.ia,.int .i64 t.il,.int .u64 t.sn] 130)).heap.size=w.heap.size+1 by simp] at ke
 have Y:=h.fresh aT
 have X:d (w.heap.size+1)=0:=h.fresh z_
 clear h b1 U
 generalize hW:(w.alloc (.cells #[.int .i64 t.p,.int .u32 t.g,.int .i64 t.pg,.int .u8 t.lv,.int .u8 t.lf,.int .i64 t.sv,.int .i64 t.pc,.int .i64 t.ia,.int .i64 t.il,.int .u64 t.sn] 130)).alloc (.cells #[ab 0,ab 0,ab 0,aM 0,ab 0,ab 0] 80)=W0 at*
 have HW:=aa hW
 clear hW
 have c5:=A0.i.co.c5
 have c7:Hid (aB 99 #[ak a.tb] W0 fun j r=>j=aS #[.agg #[ab x,aM g],ab 0]/\ ∃l,At w r d l a P n q T (ic M x)/\l w.heap.size=0/\l (w.heap.size+1)=0/\nT r w.heap.size t/\jf r (w.heap.size+1) ⟨0,0,0,0,0,0⟩):=by
  refine(A0.i.alloc hG).mono ?_
  rintro j r (⟨y,hy,rfl,O⟩|⟨hy,_⟩)
  ·rw[hf] at hy
   injection hy with hy
   subst hy
   rw[hg]
   obtain⟨l,A1,ho,z⟩:=A0.step O
   exact⟨rfl,l,A1,(ho _ kb.lt).trans Y,(ho _ ke.lt).trans X,kb.kept (z.box Y kb.lt),ke.kept (z.box X ke.lt)⟩
  grind
 refine ge ?_
 go_upto_region 1 with fail
 rw[HW.out]
 go_upto_region 4 with (first
  |(go_at_call 99;refine(c7.out).mono ?_;rintro j w1 ⟨rfl,l,A1,a8,I,u,F⟩;have a3:=aa A1;have C:=aa a8;have a0:=aa I;have a1:=aa u;have R:=aa F;clear A1 a8 I u F))
 have a9:=R.out.lt
 have Q:aC w1 (w1.alloc (.cells #[ab x,aM g] 76)):=bq
 have A1:=a3.out.below Q
 have N:=a3.out.fresh aT
 have i0:=bB w1 #[ab x,aM g] 76 0 _ rfl
 have i1:=bB w1 #[ab x,aM g] 76 1 _ rfl
 have u:=a1.out.kept (Q.block _ a1.out.lt)
 have F:=R.out.kept (Q.block _ R.out.lt)
 clear a3 a1 R c7 Q kb ke A0 c5
 generalize w1.alloc (.cells #[ab x,aM g] 76)=W1 at*
 generalize w1.heap.size=ib at*
 have a7: ¬w.heap.size=ib:=z_
 have H: ¬ib=w.heap.size:=z_
 have A2:=(A1.set (Nat.le_refl w.heap.size) C.out 0 (ab x)).set (Nat.le_refl w.heap.size) C.out 1 (aM g)
 have V:nT ((W1.setCell (ao w.heap.size) (ab x)).setCell (af w.heap.size 1) (aM g)) w.heap.size {t with p:=(x:Int),g:=g}:=⟨(u.c.KA (x:Int)).K7 g,fun o=>by rw[aR,aR];exact u.fz o⟩
 have s: ∀b,b≠w.heap.size->((W1.setCell (ao w.heap.size) (ab x)).setCell (af w.heap.size 1) (aM g)).heap[b]? =W1.heap[b]? :=fun b Z=>(zZ0 _ _ _ _ Z).trans (zZ0 _ _ _ _ Z)
 have a5:=F.kept (s (w.heap.size+1) z_)
 have j0:=(i5 (s ib H)).trans i0
 have j1:=(i5 (s ib H)).trans i1
 have q0:=u.c.c0
 have q1:=u.c.c1
 have qf:=u.fz
 clear s F u A1
 go_upto_region 5 with fail
 clear i0 i1 q0 q1 qf
 generalize (W1.setCell (ao w.heap.size) (ab x)).setCell (af w.heap.size 1) (aM g)=W2 at*
 obtain⟨t',L⟩: ∃t':Tr,({t with p:=(x:Int),g:=g}:Tr)=t':=⟨_,rfl⟩
 have S:t'.ok:=by rw[<-L];exact⟨y_,E.lv,E.lf,E.il,E.sn⟩
 obtain⟨W3,J⟩: ∃W3,(kL W2 a.th (x*10) t').drew=W3:=⟨_,rfl⟩
 have A3:At w W3 d l a P n q T {ic M x with th:=ay (ic M x).th x t'}:=by rw[<-J];exact(A2.OX hx t' S).drew
 rw[L] at V
 have A: ∀b,l b=0->b≠a.th:=fun b Z j=>by rw[j,A2.i.lth] at Z;cases Z
 have s: ∀b,l b=0->W3.heap[b]? =W2.heap[b]? :=fun b Z=>by rw[<-J,DQ];exact IZ W2 a.th (x*10) t' b (A b Z)
 have a6:=V.kept (s _ C.out)
 have a4:=a5.kept (s _ a0.out)
 have l0:=(i5 (s ib N)).trans j0
 have l1:=(i5 (s ib N)).trans j1
 unfold kL at J
 have b8:=aa J
 clear J
 obtain⟨d0,d1,d2,d3,d4,d5,d6,d7,d8,d9⟩:=A2.i.th.at_ x hx
 have fz:=A2.i.th.fz
 have c4:=A2.i.co.c4
 have e6: ¬a.th=w.heap.size:=fun j=>A _ C.out j.symm
 have b3:=A _ C.out
 have D:=aa A3
 have c6:=aa a6
 have a2:=aa a4
 have c3:=aa l0
 have e9:=aa l1
 have b9:=aa L
 clear A2 A3 a6 a4 l0 l1 s a5 A
 obtain⟨⟨s0,s1,s2,s3,s4,s5,s6,s7,s8,s9⟩,sf⟩:=V
 clear L S E
 have b7: ¬a.m=a.th:=fun j=>by have h1:=D.out.i.lm;have h2:=D.out.i.lth;grind
 have b6: ¬a.th=a.m:=fun j=>b7 j.symm
 have b5: ¬ib=a.th:=fun j=>by have h2:=D.out.i.lth;grind
 have b4: ¬a.th=ib:=fun j=>b5 j.symm
 have c2:=aa N
 clear N hG c9 a9 Y X HW hf
 go_region_held3 (fun r=>r.cell? (af a.m 4)=some (.slice (some (ao a.th)) n a.xt)/\r.cell? (ao ib)=some (ab x)/\r.cell? (ao w.heap.size)=some (ab t'.p)/\r.cell? (af w.heap.size 1)=some (aM t'.g)/\r.cell? (af w.heap.size 2)=some (ab t'.pg)/\r.cell? (af w.heap.size 3)=some (aA t'.lv)/\r.cell? (af w.heap.size 4)=some (aA t'.lf)/\r.cell? (af w.heap.size 5)=some (ab t'.sv)/\r.cell? (af w.heap.size 6)=some (ab t'.pc)/\r.cell? (af w.heap.size 7)=some (ab t'.ia)/\r.cell? (af w.heap.size 8)=some (ab t'.il)/\r.cell? (af w.heap.size 9)=some (aj t'.sn))
  (go_keep)
  (first|fail)
 rw[b8.out]
 clear b8 d0 d1 d2 d3 d4 d5 d6 d7 d8 d9 s0 s1 s2 s3 s4 s5 s6 s7 s8 s9 sf fz c4 j0 j1 b7 b6 b5 b4 e6 b3 a7 H
 have b0:ready P n q {ic M x with th:=ay (ic M x).th x t'} x k=iJ P n q M x k t:=by
  unfold iJ
  rw[<-b9.out,<-hg]
  rfl
 have e7:Hid (aB 50 #[ak a.m,ab x,ab k] W3 fun j r=>j=aS #[]/\ ∃v,At w r d v a P n q (T+n+1) (iJ P n q M x k t)/\v (w.heap.size+1)=0/\(r.cell? (ao ib)=some (ab x)/\r.cell? (af ib 1)=some (aM g))/\nT r w.heap.size t'/\jf r (w.heap.size+1) ⟨0,0,0,0,0,0⟩):=by
  refine(D.out.i.goes.ready hT x hx k).mono ?_
  rintro j r ⟨rfl,O⟩
  rw[b0] at O
  obtain⟨v,A4,ho,z⟩:=D.out.step O
  exact⟨rfl,v,A4,(ho _ a2.out.lt).trans a0.out,⟨z.keep c2.out c3.out,z.keep c2.out e9.out⟩,c6.out.kept (z.box C.out c6.out.lt),a2.out.kept (z.box a0.out a2.out.lt)⟩
 have l0:=c3.out
 have e8:Hid (t'.pg=t.pg):=by rw[<-b9.out];exact rfl
 clear b0
 go_wp2_with (go_at_call 50;refine(e7.out).mono ?_;rintro j w4 ⟨rfl,v,A4,I,⟨m0,m1⟩,⟨⟨_,_,b2,_,_,_,_,_,_,_⟩,_⟩,⟨e0,e1,e2,e3,e4,e5,ef⟩⟩;have c8:=aa A4;have B:=aa I;clear A4 I)
 have A5:=(((((c8.out.set (b:=w.heap.size+1) z_ B.out 0 (ab 9)).set (b:=w.heap.size+1) z_ B.out 1 (ab k)).set (b:=w.heap.size+1) z_ B.out 2 (ab x)).set (b:=w.heap.size+1) z_ B.out 3 (aM g)).set (b:=w.heap.size+1) z_ B.out 4 (ab t'.pg)).set (b:=w.heap.size+1) z_ B.out 5 (ab 0)
 rw[e8.out] at A5|-
 have f0:=aa A5.goes
 clear A5 c8 D
 rw[hg]
 simp[bodyPost,results,Tryz.results55,go_sem,e0,e1,e2,e3,e4,e5]
 exact f0.out
def ax.xk (h:ax w d a P n q T M) (A:Lj M n) (l:Int) (t:Tr) (N:cM M n=none):
  vQ 55 #[ak a.m,ab l,.agg #[.int .i64 t.p,.int .u32 t.g,.int .i64 t.pg,.int .u8 t.lv,.int .u8 t.lf,.int .i64 t.sv,.int .i64 t.pc,.int .i64 t.ia,.int .i64 t.il,.int .u64 t.sn]] w (.tuple #[.agg #[ab 0,ab 0,ab 0,aM 0,ab 0,ab 0],ab 4]):=by
 have c:aC w (w.alloc (.cells #[.int .i64 t.p,.int .u32 t.g,.int .i64 t.pg,.int .u8 t.lv,.int .u8 t.lf,.int .i64 t.sv,.int .i64 t.pc,.int .i64 t.ia,.int .i64 t.il,.int .u64 t.sn] 130)):=bq
 have i:aC w ((w.alloc (.cells #[.int .i64 t.p,.int .u32 t.g,.int .i64 t.pg,.int .u8 t.lv,.int .u8 t.lf,.int .i64 t.sv,.int .i64 t.pc,.int .i64 t.ia,.int .i64 t.il,.int .u64 t.sn] 130)).alloc (.cells #[ab 0,ab 0,ab 0,aM 0,ab 0,ab 0] 80)):=c.alloc q_ _
 have v:=h.below i
 have y:=jf.new (w.alloc (.cells #[.int .i64 t.p,.int .u32 t.g,.int .i64 t.pg,.int .u8 t.lv,.int .u8 t.lf,.int .i64 t.sv,.int .i64 t.pc,.int .i64 t.ia,.int .i64 t.il,.int .u64 t.sn] 130))
 rw[show(w.alloc (.cells #[.int .i64 t.p,.int .u32 t.g,.int .i64 t.pg,.int .u8 t.lv,.int .u8 t.lf,.int .i64 t.sv,.int .i64 t.pc,.int .i64 t.ia,.int .i64 t.il,.int .u64 t.sn] 130)).heap.size=w.heap.size+1 by simp] at y
 have J:=aa i
 clear h i c
 generalize z:(w.alloc (.cells #[.int .i64 t.p,.int .u32 t.g,.int .i64 t.pg,.int .u8 t.lv,.int .u8 t.lf,.int .i64 t.sv,.int .i64 t.pc,.int .i64 t.ia,.int .i64 t.il,.int .u64 t.sn] 130)).alloc (.cells #[ab 0,ab 0,ab 0,aM 0,ab 0,ab 0] 80)=H at*
 have I:=aa z
 clear z
 have Q:=v.co.c5
 have r:Hid (aB 99 #[ak a.tb] H fun b x=>b=aS #[.agg #[ab 0,aM 0],ab 4]/\aC w x/\jf x (w.heap.size+1) ⟨0,0,0,0,0,0⟩):=by
  refine(v.alloc A).mono ?_
  grind[bt,RowKit.Hid.out,jf.kept,RowKit.Below.block,jf.lt]
 clear v y
 refine ge ?_
 go_upto_region 1 with fail
 rw[I.out]
 go_upto_region 3 with (first
  |(go_at_call 99;refine cI r.out fun s k j=> ?_))
 have o:aC w (s.alloc (.cells #[ab 0,aM 0] 76)):=k.out.alloc k.out.size _
 have u:=j.out.kept (((i4 s.heap.size s).alloc aT (.cells #[ab 0,aM 0] 76)).block _ j.out.lt)
 generalize s.alloc (.cells #[ab 0,aM 0] 76)=R at*
 obtain⟨G,F,E,D,C,B,O⟩:=u
 have L:=aa o
 clear o k j r
 go_wp2
 simp[bodyPost,results,Tryz.results55,go_sem,G,F,E,D,C,B]
 grind[eK,RowKit.Hid.out]
end
def cD (v:Ev):List Value:=[ab v.k,ab v.p,ab v.x,aM v.g,ab v.r,ab v.e]
def bF (l:List Ev):List Value:=l.flatMap cD
def fK (w:World) (a:Nat) (v:Value) (l:List Ev):Prop:=w.ownsRow a 80 6 v l.length (bF l)
def fK.nil (w:World) (a:Nat):fK w a (.slice none 0 0) []:=⟨rfl,q_⟩
theorem fK.one (w:World) (a:Nat) (b:a<=w.heap.size) (v:Ev):fK (w.alloc (.cells #[ab v.k,ab v.p,ab v.x,aM v.g,ab v.r,ab v.e] 80)) a (.slice (some (ao w.heap.size)) 1 1) [v]:=by
 refine⟨rfl,.inr ⟨w.heap.size,1,_,rfl,b,(MapKept.heap_alloc w _).1,aT,x_,rfl,rfl⟩⟩
def fK.below {w w':World} {base:Nat} {v:Value} {l:List Ev} (h:fK w base v l) (d:aC w w'):fK w' base v l:=by
 refine aQ h (fun k a=>d.block k ?_)
 obtain⟨m,⟨b,_⟩|⟨g,e,c,b,j,i,f⟩⟩:=h
 ·rw[b] at a;cases a
 ·rw[b] at a
  injection a with a
  grind
section
variable {w W d:World} {b c:Nat->Nat} {a:Ad} {P n q T T':Nat} {M M':Mc}
def zX.form {w:World} {v:Value} {l:List Pm} {f:List Value} (h:zX w b v l f): ∃j cap,v= .slice j l.length cap:=by
 obtain⟨k,⟨i,hz⟩|⟨g,cap,e,i,_⟩⟩:=h.row
 ·grind
 grind
def iF (M:Mc) (p:Int):Bool:=decide (0<=p)&&decide (p<(M.pr.length:Int))
def ax.mg (h:ax w b a P n q T M) (p:Int):
  vS 53 #[ak a.m,ab p] w (.bool (iF M p)):=by
 obtain⟨v,k,l,f⟩:=h.pg
 obtain⟨o,j,rfl⟩:=f.form
 clear h f
 unfold iF
 generalize M.pr.length=i at*
 by_cases g:0<=p
 ·have e:=xZ0 g
  rw[e]
  refine ge ?_
  go_wp2
  go_ret
  simp
 ·have e:=yU0 g
  rw[e]
  refine ge ?_
  go_wp2
  go_ret
  simp
def gB (P:Nat) (p:Int):Bool:=decide (0<=p)&&decide (p<(P:Int))
def ax.pf (h:ax w b a P n q T M) (p:Int):
  vS 40 #[ak a.m,ab p] w (.bool (gB P p)):=by
 have g:=h.co.c3
 clear h
 unfold gB
 by_cases f:0<=p
 ·have e:=xZ0 f
  rw[e]
  refine ge ?_
  go_wp2
  go_ret
  simp
 ·have e:=yU0 f
  rw[e]
  refine ge ?_
  go_wp2
  go_ret
  simp
def ax.LP (h:ax w b a P n q T M):
  vS 54 #[ak a.sb] w (ab M.sv.length):=by
 grind[ax.sv,Cb.ye]
def gA (f:Int) (g:Nat) (e:Int):Tr:=⟨0,0,f,g,0,e,0,0,0,0⟩
def dZ (M:Mc) (f e:Int):Bool:= !iF M f||decide (e< -1)||decide ((M.sv.length:Int)<=e)
noncomputable def qG (P n q:Nat) (M:Mc) (x:Nat) (f:Int) (g:Nat) (e:Int):Mc:=settle (iJ P n q M x 0 (gA f g e)) n
def ax.EK (h:ax w b a P n q T M) (g:Int) (p:Int) (sv:Int) (j:dZ M g sv=true):
  vS 20 #[ak a.m,ab g,aA p,ab sv] w (.tuple #[.slice none 0 0,ab 2]):=by
 have f:=aa (h.mg g)
 have HL:=aa h.LP
 have u:=h.co.c6
 unfold dZ at j
 clear h
 generalize M.sv.length=i at*
 cases k:iF M g with
 |false=>
  rw[k] at f
  refine ge ?_
  go_wp2_with (go_at_call 53;refine(f.out).mono ?_;rintro e o ⟨rfl,hw⟩;subst hw)
  go_ret2
  simp
 |true=>
  rw[k] at f
  by_cases l:sv< -1
  ·have s:=xZ0 l
   refine ge ?_
   go_wp2_with (go_at_call 53;refine(f.out).mono ?_;rintro e o ⟨rfl,hw⟩;subst hw)
   go_ret2
   simp
  ·have s:=yU0 l
   have r:(i:Int)<=sv:=by
    grind
   have t:=xZ0 r
   refine ge ?_
   go_wp2_with (first
    |(go_at_call 53;refine cS f.out ?_)
    |(go_at_call 54;refine cS HL.out ?_))
   go_ret2
   simp
end
section
variable {w W d:World} {b c:Nat->Nat} {a:Ad} {P n q T T':Nat} {M M':Mc}
def tB (x y z:Int) (w:World):(Instr.build 130 #[(1,ab x),(2,aA y),(4,ab z)]).run Tryz.prog w= .ok (.agg #[ab 0,aM 0,ab x,aA y,aA 0,ab z,ab 0,ab 0,ab 0,aj 0]) w:=run_build w 130 _ _ (by rfl)
def xf (g:Int) (e:Nat) (f:Int) (h:e<256):(gA g e f).ok:=⟨by show(0:Nat)<_;decide,h,by show(0:Nat)<_;decide,by show(0:Int)<_;decide,by show(0:Nat)<_;decide⟩
def ax.yH (h:ax w b a P n q T M) (r:Lj M n) (e:Int) (g:Nat) (sv:Int) (j:dZ M e sv=false) (o:cM M n=none):
  vQ 20 #[ak a.m,ab e,aA g,ab sv] w (.tuple #[.slice none 0 0,ab 4]):=by
 have k:=aa (h.mg e)
 have HL:=aa h.LP
 have u:Hid (vQ 55 #[ak a.m,ab 0,.agg #[ab 0,aM 0,ab e,aA g,aA 0,ab sv,ab 0,ab 0,ab 0,aj 0]] w (.tuple #[.agg #[ab 0,ab 0,ab 0,aM 0,ab 0,ab 0],ab 4])):=h.xk r 0 (gA e g sv) o
 have z:=h.co.c6
 unfold dZ at j
 clear h
 generalize M.sv.length=i at*
 have l:iF M e=true:=y_
 have t: ¬sv< -1:=y_
 have s: ¬(i:Int)<=sv:=y_
 have y:=yU0 t
 have x:=yU0 s
 rw[l] at k
 have p:=fun w=>tB e (g:Int) sv w
 refine ge ?_
 go_wp2_with (first
  |(go_at_call 53;refine cS k.out ?_)
  |(go_at_call 54;refine cS HL.out ?_)
  |(go_at_call 55;refine cH u.out fun v f=> ?_))
 go_ret2
 exact⟨rfl,f.out.alloc f.out.size _⟩
end
end Go.Proofs.YtnmhcgpnhlhcgaaGreatDoor
