/- YtnmhcgpnhlhcgaaGreatDoorKq: of the texts Ba13 Ba14 Ba15 Ba16 Ba17 Ba18 Ba19 Ba20 Ba21 Ba22 Ba23 Ba24 Ba25 Ba26 Ba27 Ba28 Ba29 Ba30 Ba31 Ba32 Ba33 Ba34 Ba35 what is wanted. -/
import Derived.Test.YtnmhcgpnhlhcgaaGreatDoorK0
import Derived.Test.YtnmhcgpnhlhcgaaGreatDoorKp
import Derived.OrdersHeld
import Derived.Test.YtnmhcgpnhlhcgaaGreatDoorKa
import Derived.Defers
import Derived.Recover
import Derived.Laws.Pointers
import Derived.Laws.CopyOwn
import Derived.Laws.Tables
import Derived.Deep.AppendLies
import Derived.Test.YtnmhcgpnhlhcgaaGreatDoorKk
set_option maxHeartbeats 16000000
set_option maxRecDepth 100000
set_option linter.unusedVariables false
set_option linter.defProp false
set_option linter.unusedSimpArgs false
namespace Go.Proofs.YtnmhcgpnhlhcgaaGreatDoor
open Go.RowKit
def cC {P:Program} (w:World) {y:Array Oper} {o:Oper} {a:Act} {K:Act->World->Prop} {Q:Exit->Act->World->Prop} {E:Prop} (F:o.guard=none) (s x:Operand) (t:TypeId)
  (O:o.op= .call {callee:= .builtin .append,args:= #[s,x],argTypes:= #[t,t]})
  (f:Nat) (e:TypeId) (i:TypeInfo) (z:Value) (b bytes:Nat) (L:P.underlying t=some (.slice e)) (hi:P.info? e=some i) (hz:i.zero=some z)
  (k:i.size=b) (G:i.bytes=bytes) (C:z.cells.size=b) (D:0<b)
  (v:Value) (n:Nat) (B:List Value) (M:a.eval s=v) (A:w.ownsRow f e b v n B)
  (I:Addr) (m c:Nat) (d:List Value) (J:a.eval x= .slice (some I) m c) (R:d.length=m*b) (l: ∀j u,d[j]? =some u->w.cell? (I.add j)=some u) (V: ∀u∈d,u.oneCell'=true)
  (H:n+m<=maxLen) (g:(n+m)*bytes<=140737488355328) (p:f<=w.heap.size)
  (h: ∀q r,r.ownsRow f e b q (n+m) (B++d)->w.grownBy r v.ownBlock->(q.ownBlock=v.ownBlock\/q.ownBlock=some w.heap.size)->K (a.put o.dst q) r):
  if Region.wanted o (yielded y a.tmps)=true then Oper.wp P o a w K Q else E:=by
 have hw:Region.wanted o (yielded y a.tmps)=true:=by simp[Region.wanted,F]
 rw[if_pos hw]
 obtain⟨q,r,N,U,T,W,S⟩:=run_append_own_at (P:=P) w f t o.type e i z b bytes L hi hz k G C D v n B A I m c d R l V H g p
 unfold Oper.wp execOp
 simp only[O,resolve,invoke,builtin,Sem.run_bind,Sem.run_pure,Result.andThen_ok,List.map_toArray,List.map_cons,List.map_nil,M,J,N]
 exact h q r U T S
structure Sp (w W:World) (lab labk:Nat->Nat) (a:Ad) (P n q T:Nat) (M:Mc) (sb pr:Nat) (l:List Ev) (v:Value):Prop where
 at_:At w W lab labk a P n q T M
 c0:W.cell? (ao sb)=some (ak a.m)
 c1:W.cell? (af sb 1)=some (ab pr)
 c2:W.cell? (af sb 2)=some (.pointer (some (af a.pr (pr*3))))
 c3:W.cell? (af sb 3)=some v
 hv:fK W w.heap.size v l
 hk: ∀k,v.ownBlock=some k->labk k=0/\k≠sb
 fz: ∀o,W.frozen? (af sb o)=false
 ls:labk sb=0
 ws:w.heap.size<=sb
section
variable {w W W':World} {d e:Nat->Nat} {a:Ad} {P n q T T':Nat} {M M':Mc} {sb pr:Nat} {l:List Ev}
theorem fK.lt {base:Nat} {v:Value} (h:fK W base v l) {k:Nat} (b:v.ownBlock=some k):k<W.heap.size/\base<=k:=by
 obtain⟨p,⟨c,_⟩|⟨g,i,f,c,o,m,j⟩⟩:=h
 ·rw[c] at b;cases b
 ·rw[c] at b
  injection b with b
  grind
variable {v:Value} {O O0:Nat->Prop} {W0:World}
theorem Sp.lt (h:Sp w W d e a P n q T M sb pr l v):sb<W.heap.size:=i7 W _ h.c0
theorem Sp.keep (h:Sp w W d e a P n q T M sb pr l v) {f:Nat->Nat} (A:At w W' d f a P n q T' M') (g: ∀b,b<W.heap.size->f b=e b) (i: ∀b,b<W.heap.size->e b=0->W'.heap[b]? =W.heap[b]?):Sp w W' d f a P n q T' M' sb pr l v:=by
 have c:=i sb h.lt h.ls
 have ec: ∀o,W'.cell? (af sb o)=W.cell? (af sb o):=fun _=>i5 c
 exact⟨A,(ec _).trans h.c0,(ec _).trans h.c1,(ec _).trans h.c2,(ec _).trans h.c3,aQ h.hv (fun k q=>i k (h.hv.lt q).1 (h.hk k q).1),fun k q=>⟨(g k (h.hv.lt q).1).trans (h.hk k q).1,(h.hk k q).2⟩,fun o=>(zV0 c).trans (h.fz o),(g sb h.lt).trans h.ls,h.ws⟩
def Sp.below (h:Sp w W d e a P n q T M sb pr l v) (f:aC W W'):Sp w W' d e a P n q T M sb pr l v:=
 h.keep (h.at_.below f) q_ (fun b c _=>f.block b c)
def SG (w W:World) (d:Nat->Nat) (a:Ad) (P n q T:Nat) (M:Mc) (sb pr:Nat) (l:List Ev) (O:Nat->Prop):Prop:= ∃e v,Sp w W d e a P n q T M sb pr l v/\ ∀k,O k↔(e k≠0\/k=sb\/v.ownBlock=some k)
def SX (w W0 W:World) (d:Nat->Nat) (a:Ad) (P n q T:Nat) (M:Mc) (sb pr:Nat) (l:List Ev) (O0:Nat->Prop):Prop:= ∃O,SG w W d a P n q T M sb pr l O/\Fr O0 W0 W/\ ∀k,k<W0.heap.size->O k->O0 k
def SG.sx (h:SG w W d a P n q T M sb pr l O):SX w W W d a P n q T M sb pr l O:=⟨O,h,Fr.refl _ _,fun _ _ q=>q⟩
def SG.below (h:SG w W d a P n q T M sb pr l O) (c:aC W W'):SG w W' d a P n q T M sb pr l O:=by
 obtain⟨k,v,s,b⟩:=h
 exact⟨k,v,s.below c,b⟩
theorem SG.lt (h:SG w W d a P n q T M sb pr l O) {k:Nat} (c:O k):k<W.heap.size:=by
 obtain⟨f,v,s,b⟩:=h
 rcases(b k).1 c with q|q|q
 ·exact s.at_.i.lt k q
 ·rw[q];exact s.lt
 ·exact(s.hv.lt q).1
def SX.call (h:SX w W0 W d a P n q T M sb pr l O0) {f:Nat} {args:Array Value} {R:Ending->Prop} {m:List Ev} (u: ∀O,SG w W d a P n q T M sb pr l O->aB f args W fun b c=>R b/\SX w W c d a P n q T' M' sb pr m O):aB f args W fun b c=>R b/\SX w W0 c d a P n q T' M' sb pr m O0:=by
 obtain⟨O,r,p,t⟩:=h
 refine(u O r).mono ?_
 rintro b c ⟨s,x,g,j,i⟩
 exact⟨s,x,g,p.then j z_,fun k o q=>t k o (i k (i8 o p.size) q)⟩
def SG.goes (h:SG w W d a P n q T M sb pr l O) (g: ∀e,ax W e a P n q T M->aD W W' e a P n q T' M'):SX w W W' d a P n q T' M' sb pr l O:=by
 obtain⟨k,v,s,m⟩:=h
 obtain⟨c,A,f,j⟩:=s.at_.step (g k s.at_.i)
 refine⟨_,⟨c,v,s.keep A f (fun b o f=>j.box f o),fun _=>Iff.rfl⟩,j.to y_,fun k p q=>(m k).2 ?_⟩
 grind
def SG.lift (h:SG w W d a P n q T M sb pr l O) {f:Nat} {j:Array Value} {R:Ending->Prop} (x: ∀e,ax W e a P n q T M->aB f j W fun c o=>R c/\aD W o e a P n q T' M'):aB f j W fun c o=>R c/\SX w W o d a P n q T' M' sb pr l O:=by
 obtain⟨k,v,s,u⟩:=id h
 refine(x k s.at_.i).mono ?_
 rintro c o ⟨t,g⟩
 refine⟨t,?_⟩
 obtain⟨m,A,p,r⟩:=s.at_.step g
 refine⟨_,⟨m,v,s.keep A p (fun b y p=>r.box p y),fun _=>Iff.rfl⟩,r.to y_,fun k z q=>(u k).2 ?_⟩
 grind
def SX.lift (h:SX w W0 W d a P n q T M sb pr l O0) {f:Nat} {c:Array Value} {R:Ending->Prop} (i: ∀e,ax W e a P n q T M->aB f c W fun b g=>R b/\aD W g e a P n q T' M'):aB f c W fun b g=>R b/\SX w W0 g d a P n q T' M' sb pr l O0:=h.call fun _ s=>s.lift i
def SX.goes (h:SX w W0 W d a P n q T M sb pr l O0) (g: ∀e,ax W e a P n q T M->aD W W' e a P n q T' M'):SX w W0 W' d a P n q T' M' sb pr l O0:=by
 obtain⟨O,m,j,o⟩:=h
 obtain⟨p,b,f,c⟩:=m.goes g
 exact⟨p,b,j.then f z_,fun k i q=>o k i (c k (i8 i j.size) q)⟩
theorem SX.more (h:SX w W0 W d a P n q T M sb pr l O0) (b:aC W W'):SX w W0 W' d a P n q T M sb pr l O0:=by
 obtain⟨O,c,g,f⟩:=h
 exact⟨O,c.below b,g.then (dd (S:=fun _=>False) b) q_,f⟩
theorem SX.ahead {c:World} (h:SX w c W d a P n q T M sb pr l O0) (b:aC W0 c):SX w W0 W d a P n q T M sb pr l O0:=by
 obtain⟨O,f,j,g⟩:=h
 exact⟨O,f,(dd b).then j q_,fun k i q=>g k (i8 i b.size) q⟩
def SX.Kx (h:SX w W0 W d a P n q T M sb pr l O0) {f:Nat} {c:Array Value} {R:Ending->Prop} (m: ∀e,ax W e a P n q T M->aB f c W fun b j=>R b/\aC W j):aB f c W fun b j=>R b/\SX w W0 j d a P n q T M sb pr l O0:=by
 obtain⟨O,⟨k,v,s,_⟩,_,_⟩:=id h
 exact(m k s.at_.i).mono (fun _ _ ⟨b,g⟩=>⟨b,h.more g⟩)
def SX.dc (h:SX w W0 W d a P n q T M sb pr l O0) (g:W'.heap=W.heap) (f:W'.os=W.os) (c:W'.tape=W.tape) (b:W'.output=W.output):SX w W0 W' d a P n q T M sb pr l O0:=
 h.more mK
theorem SX.keep (h:SX w W0 W d a P n q T M sb pr l O0) {b o:Nat} {u:Value} (g: ¬O0 b) (c:W0.cell? (af b o)=some u):W.cell? (af b o)=some u:=by
 obtain⟨O,i,f,j⟩:=h
 exact(f.cellAt (i7 W0 _ c) g).trans c
theorem SX.sp (h:SX w W0 W d a P n q T M sb pr l O0): ∃e v,Sp w W d e a P n q T M sb pr l v:=by
 obtain⟨O,⟨k,v,s,_⟩,_,_⟩:=h
 grind
def SX.bZ (h:SX w W0 W d a P n q T M sb pr l O0) (b:T<=T'):SX w W0 W d a P n q T' M sb pr l O0:=h.goes fun _ i=>(i.bZ b).goes
theorem SX.c0 (h:SX w W0 W d a P n q T M sb pr l O0):W.cell? (ao sb)=some (ak a.m):=by grind[SX.sp,Sp.c0]
theorem SX.c1 (h:SX w W0 W d a P n q T M sb pr l O0):W.cell? (af sb 1)=some (ab pr):=by grind[SX.sp,Sp.c1]
theorem SX.c2 (h:SX w W0 W d a P n q T M sb pr l O0):W.cell? (af sb 2)=some (.pointer (some (af a.pr (pr*3)))):=by grind[SX.sp,Sp.c2]
theorem SX.i (h:SX w W0 W d a P n q T M sb pr l O0): ∃e,ax W e a P n q T M:=by obtain⟨k,v,s⟩:=h.sp;exact⟨k,s.at_.i⟩
def SX.core (h:SX w W0 W d a P n q T M sb pr l O0):Core W a P n M.qu M.ag:=by grind[SX.i,ax.co]
def SX.pc (h:SX w W0 W d a P n q T M sb pr l O0) (b:pr<P):iu W a.pr (pr*3) (M.pc pr):=by obtain⟨k,i⟩:=h.i;exact i.pc.at_ pr b
def SX.yS (h:SX w W0 W d a P n q T M sb pr l O0) (o:Nat):W.frozen? (af a.pr o)=false:=by obtain⟨k,i⟩:=h.i;exact i.pc.fz o
theorem SX.tr (h:SX w W0 W d a P n q T M sb pr l O0) {x:Nat} (b:x<n):bC W a.th (x*10) (M.th x):=by obtain⟨k,i⟩:=h.i;exact i.th.at_ x b
def SX.tok (h:SX w W0 W d a P n q T M sb pr l O0) {x:Nat} (b:x<n):(M.th x).ok:=by obtain⟨k,i⟩:=h.i;exact i.th.ok x b
def SX.Gb (h:SX w W0 W d a P n q T M sb pr l O0) (o:Nat):W.frozen? (af a.th o)=false:=by obtain⟨k,i⟩:=h.i;exact i.th.fz o
theorem nI:(Tryz.prog.info? 80).map (fun i=>(i.zero,i.size,i.bytes))=some (some (.agg #[ab 0,ab 0,ab 0,aM 0,ab 0,ab 0]),6,48):=by rfl
def eV (v:Ev): ∀u∈cD v,u.oneCell'=true:=by
 intro u b
 simp[cD] at b
 rcases b with rfl|rfl|rfl|rfl|rfl|rfl<;>rfl
def vM (l:List Ev): ∀u∈bF l,u.oneCell'=true:=by
 intro u c
 obtain⟨v,_,b⟩:=List.mem_flatMap.1 c
 exact eV v u b
theorem mu (l:List Ev) (v:Ev):bF (l++[v])=bF l++cD v:=by simp[bF]
def Sp.told (h:Sp w W d e a P n q T M sb pr l v) {g:Value} {w1:World} {ev:Ev} (F:w1.ownsRow w.heap.size 80 6 g (l.length+1) (bF l++cD ev)) (j:W.grownBy w1 v.ownBlock) (D:g.ownBlock=v.ownBlock\/g.ownBlock=some W.heap.size):(∀O,(∀k,O k↔(e k≠0\/k=sb\/v.ownBlock=some k))->SX w W (w1.setCell (af sb 3) g) d a P n q T M sb pr (l++[ev]) O)/\w1.cell? (af sb 3)=some v/\w1.frozen? (af sb 3)=false:=by
 have N:=h.c3
 have H:=h.hv
 have G:=h.hk
 have t:=fun b (C:b<W.heap.size) (x:v.ownBlock≠some b)=>j.block b C y_
 have m:=t sb h.lt y_
 have p: ∀b,b≠sb->(w1.setCell (af sb 3) g).heap[b]? =w1.heap[b]? :=fun b C=>zZ0 _ _ _ _ C
 have s:Fr (fun k=>e k=0/\w.heap.size<=k) W (w1.setCell (af sb 3) g):=by
  refine⟨j.os,j.tape,j.output,by simpa using j.size,fun k r x=> ?_⟩
  have L:k≠sb:=fun c=>x (by exact mK)
  rw[p k L]
  exact t k r (fun c=>x ⟨(G k c).1,(H.lt c).2⟩)
 have hz:=h.at_.z
 have hi:=h.at_.i.frame s z_ z_
 have A:At w (w1.setCell (af sb 3) g) d e a P n q T M:=⟨hi,⟨h.at_.l.old,hi.lt⟩,h.at_.f.then s z_,hz⟩
 have ec: ∀o,o≠3->(w1.setCell (af sb 3) g).cell? (af sb o)=W.cell? (af sb o):=fun o F=>(aI w1 z_).trans (i5 m)
 have u:=(i5 m).trans N
 have E:=fun o=>(zV0 m).trans (h.fz o)
 have y: ∀k,g.ownBlock=some k->e k=0/\k≠sb:=fun k c=>by
  rcases D with q|q
  ·grind
  ·rw[q] at c
   injection c with c
   rw[<-c]
   exact⟨h.at_.fresh aT,by have:=h.lt;omega⟩
 have B:fK (w1.setCell (af sb 3) g) w.heap.size g (l++[ev]):=by
  unfold fK
  rw[mu,List.length_append]
  exact aQ F y_
 have J:Fr (fun k=>k=sb\/v.ownBlock=some k) W (w1.setCell (af sb 3) g):=by
  refine⟨j.os,j.tape,j.output,by simpa using j.size,fun k r x=> ?_⟩
  grind
 refine⟨fun O I=>⟨_,⟨e,g,⟨A,(ec 0 x_).trans h.c0,(ec 1 x_).trans h.c1,(ec 2 x_).trans h.c2,Gt.aU _ _ _ _ u,B,y,fun o=>by simp_all,h.ls,h.ws⟩,fun _=>Iff.rfl⟩,J.to y_,fun k G q=>(I k).2 ?_⟩,u,E 3⟩
 grind
end
section
variable {w W k:World} {e g:Nat->Nat} {a:Ad} {P n q T j:Nat} {M m:Mc} {sb b:Nat} {l:List Ev} {v:Value} {O i:Nat->Prop} {d:World}
def SG.tell (h:SG w W e a P n q T M sb b l O) (hl:l.length<=10000) (F:Int) (x:Int) (r:Nat) (H:Int):
  aB 120 #[ak sb,ab F,.agg #[ab x,aM r],ab H] W fun s U=>s=aS #[]/\SX w W U e a P n q T M sb b (l++[⟨F,(b:Int),x,r,H,0⟩]) O:=by
 obtain⟨g,v,I,hO⟩:=h
 have C:aC W (W.alloc (.cells #[ab x,aM r] 76)):=bq
 have s0:=I.below C
 have k0:=bB W #[ab x,aM r] 76 0 _ rfl
 have k1:=bB W #[ab x,aM r] 76 1 _ rfl
 have B: ¬sb=W.heap.size:=by have:=I.lt;omega
 have a9: ¬W.heap.size=sb:=fun s=>B s.symm
 have b7:=I.at_.fresh aT
 have c3:=I.c3
 have V:=I.hv
 have hk:=I.hk
 have a5:=aa C
 have Y: ∀o,v.ownBlock=some o->o≠W.heap.size:=fun o s=>by have:=(V.lt s).1;omega
 replace c3:=kc C c3
 replace V:=V.below C
 clear I C
 generalize hW:W.alloc (.cells #[ab x,aM r] 76)=d at*
 have HW:=aa hW
 clear hW
 have p1:=s0.c1
 obtain⟨R,z,rfl⟩:=Cb.aJ V
 obtain⟨ev,L⟩: ∃ev:Ev,(⟨F,(b:Int),x,r,H,0⟩:Ev)=ev:=⟨_,rfl⟩
 have y:aC d (d.alloc (.cells #[ab F,ab b,ab x,aM r,ab H,ab 0] 80)).drew:=((i4 _ d).alloc aT _).drew
 have Q:=s0.below y
 have b6:=kc y c3
 have q1:=kc y p1
 have m0:=kc y k0
 have m1:=kc y k1
 have b2:Hid ((d.alloc (.cells #[ab F,ab b,ab x,aM r,ab H,ab 0] 80)).drew.ownsRow w.heap.size 80 6 (.slice R l.length z) l.length (bF l)):=Q.hv
 have b3:Hid (∀p u,(cD ev)[p]? =some u->(d.alloc (.cells #[ab F,ab b,ab x,aM r,ab H,ab 0] 80)).drew.cell? (((ao d.heap.size):Addr).add p)=some u):=by
  rw[<-L]
  exact Cb.gG (w1:=d) (c:=cD ⟨F,(b:Int),x,r,H,0⟩) rfl
 have b5:=aa Q.at_.f.size
 generalize a3:(d.alloc (.cells #[ab F,ab b,ab x,aM r,ab H,ab 0] 80)).drew=W1 at*
 have a4:Hid (∀N A,A.ownsRow w.heap.size 80 6 N (l.length+1) (bF l++cD ev)->W1.grownBy A (Value.slice R l.length z).ownBlock->(N.ownBlock=(Value.slice R l.length z).ownBlock\/N.ownBlock=some W1.heap.size)->(SX w W (A.setCell (af sb 3) N) e a P n q T M sb b (l++[ev]) O/\A.cell? (af sb 3)=some (.slice R l.length z)/\A.frozen? (af sb 3)=false)/\(A.cell? (af sb 1)=some (ab b)/\A.cell? (ao W.heap.size)=some (ab x)/\A.cell? (af W.heap.size 1)=some (aM r))):=fun N A ho hg a2=>by
  refine⟨⟨((Q.told ho hg a2).1 O hO).ahead (bt a5.out y),(Q.told ho hg a2).2⟩,?_⟩
  have a0:=fun t (hb:t<W1.heap.size) (hn:(Value.slice R l.length z).ownBlock≠some t)=>hg.block t hb (fun s=>hn s.symm)
  have e1:=a0 sb Q.lt (fun s=>(hk sb s).2 rfl)
  have e2:=a0 W.heap.size (i7 W1 _ m0) (fun s=>Y W.heap.size s rfl)
  exact⟨(i5 e1).trans q1,(i5 e2).trans m0,(i5 e2).trans m1⟩
 have b1:=aa a3
 have b4:=aa L
 clear a3 L
 obtain⟨i0,b0,a8,a7,a6⟩:=Cb.info_parts nI
 clear V hk Y s0 Q y hO a5
 refine ge ?_
 go_wp2
 rw[HW.out]
 refine wp_region_held_drew (S:=(fun U=>U.cell? (af sb 1)=some (ab b)/\U.cell? (ao W.heap.size)=some (ab x)/\U.cell? (af W.heap.size 1)=some (aM r))) (by rfl) ?_ (fun hHeld=> ?_)
 ·simp_all
 refine st ?_
 repeat' first
  |refine dn ?_
  |refine tk ?_
  |refine rd ?_
  |exact oA
  |refine oE ?_
  |refine oC ?_ ?_
  | (refine dU 13 (fun K D=> ?_)
     go_simp
     rw[b1.out]
     refine D.out _ _ ?_ (fun hHeld=> ?_)
     ·grind
     clear D K
     try simp only[cV])
  | (refine dU 14 (fun K D=> ?_)
     refine cC _ (by rfl) _ _ _ (by rfl) w.heap.size 80 i0 (.agg #[ab 0,ab 0,ab 0,aM 0,ab 0,ab 0]) 6 48 Tryz.underlying38 b0 a8 a7 a6 rfl z_ (.slice R l.length z) l.length (bF l) (by rfl) b2.out (ao d.heap.size) 1 1 (cD ev) (by rfl) rfl b3.out (eV _) (by unfold maxLen;omega) z_ b5.out ?_
     intro N A J Z G
     obtain⟨⟨X,y1,y2⟩,E⟩:=a4.out _ _ J Z G
     obtain⟨a1,d1,rfl⟩:=Cb.aJ J
     have HX:=aa X
     clear X J Z G
     refine D.out _ _ ?_ (fun hHeld=> ?_)
     ·exact E
     clear D K
     try simp only[cV])
  | (refine dU _ (fun K D=> ?_)
     go_simp
     refine D.out _ _ ?_ (fun hHeld=> ?_)
     ·omega
     clear D K
     try simp only[cV])
  | (refine dU _ (fun K D=> ?_)
     go_simp
     refine D.out _ _ ?_ (fun hHeld=> ?_)
     ·exact⟨(aI A x_).trans E.1,(Gt.aw _ _ _ _ _ _ (fun q=>B q.1)).trans E.2.1,(Gt.aw _ _ _ _ _ _ (fun q=>B q.1)).trans E.2.2⟩
     clear D K
     try simp only[cV])
 all_goals
  refine⟨?_⟩
  go_wp2
  go_end0
  rw[b4.out]
  exact⟨rfl,HX.out⟩
end
def ed:List PanicEntry:=[{v:= .iface 186 (.agg #[]),recovered:=false}]
section
variable {w W W':World} {d f:Nat->Nat} {a:Ad} {P n q T j:Nat} {M k:Mc} {e c:Nat} {l:List Ev} {O O0:Nat->Prop} {g:World}
def SG.end_ (h:SG w W d a P n q T M e c l O) (t:l.length<=10000) (o:Int) (x:Int) (b:Nat) (p:Int):
  aB 123 #[ak e,ab o,.agg #[ab x,aM b],ab p] W fun i r=>i= .panicked ed/\SX w W r d a P n q T M e c (l++[⟨o,(c:Int),x,b,p,0⟩]) O:=by
 have m:aC W (W.alloc (.cells #[ab x,aM b] 76)):=bq
 have u:=aa ((h.sx.more m).call (R:=fun i=>i=aS #[]) fun _ s=>s.tell t o x b p)
 clear h m
 unfold ed
 refine ge ?_
 go_wp2_with (go_at_call 120;refine cH u.out fun y v=> ?_)
 simp[bodyPost]
 exact v.out
theorem iu.fM {b o:Nat} {x:Pc} (h:iu W b o x) {i:Nat} (m:i<o\/o+3<=i) (u:Value):iu (W.setCell (af b i) u) b o x:=
 ⟨(aI W z_).trans h.c0,(aI W z_).trans h.c1,(aI W z_).trans h.c2⟩
def iu.La {b o:Nat} {x:Pc} (h:iu W b o x) (r:Int):iu (W.setCell (af b o) (ab r)) b o {x with r:=r}:=
 ⟨Gt.aU _ _ _ _ h.c0,(aI W z_).trans h.c1,(aI W z_).trans h.c2⟩
def iu.K6 {b o:Nat} {x:Pc} (h:iu W b o x) (r:Nat):iu (W.setCell (af b (o+1)) (aj r)) b o {x with s:=r}:=
 ⟨(aI W z_).trans h.c0,Gt.aU _ _ _ _ h.c1,(aI W z_).trans h.c2⟩
def iu.Ku {b o:Nat} {x:Pc} (h:iu W b o x) (r:Bool):iu (W.setCell (af b (o+2)) (.bool r)) b o {x with m:=r}:=
 ⟨(aI W z_).trans h.c0,(aI W z_).trans h.c1,Gt.aU _ _ _ _ h.c2⟩
theorem KV.put {b:Nat} {m:Nat->Pc} (h:KV W b P m) {x:Nat} {t:Pc} (v:iu W' b (x*3) t) (r:t.s<18446744073709551616) (p: ∀i,i<P->i≠x->iu W' b (i*3) (m i)) (u: ∀o,W'.frozen? (af b o)=false):KV W' b P (ay m x t):=by
 exact mK
def Ok {x b i:Nat} (h:b≠x) (hi:i<3):x*3+i<b*3\/b*3+3<=x*3+i:=z_
def jz (M:Mc) (c:Nat) (r:Int):Mc:={M with pc:=ay M.pc c {M.pc c with r:=r}}
def ax.qJ (h:ax W f a P n q T M) (p:c<P) (r:Int):aD W (W.setCell (af a.pr (c*3)) (ab r)) f a P n q T (jz M c r):=by
 have m:Fr (fun b=>f b=3) W (W.setCell (af a.pr (c*3)) (ab r)):=(Fr.refl _ _).setCell (a:=(af a.pr _)) h.lpr _
 refine⟨f,h.JF (h.same m) m (h.pc.put ((h.pc.at_ c p).La r) (h.pc.ok c p) (fun i t s=>(h.pc.at_ i t).fM z_ _) (fun o=>by rw[aR];exact h.pc.fz o)),h.same m,m.to z_⟩
def SX.qJ (h:SX w g W d a P n q T M e c l O0) (b:c<P) (r:Int):SX w g (W.setCell (af a.pr (c*3)) (ab r)) d a P n q T (jz M c r) e c l O0:=h.goes fun _ i=>i.qJ b r
noncomputable def jr (P n q:Nat) (M:Mc) (c x:Nat):Mc:=jz (ready P n q M x (c:Int)) c (-1)
def SX.zT (h:SX w g W d a P n q T M e c l O0) (A:T+n<=1000000000) (s:c<P) (x:Nat) (z:x<n) (t:(M.pc c).r=(x:Int)):
  aB 121 #[ak e] W fun b p=>b=aS #[]/\SX w g p d a P n q (T+n+1) (jr P n q M c x) e c l O0:=by
 have F:=aa fun W (h:SX w g W d a P n q T M e c l O0)=>h.lift (R:=fun b=>b=aS #[]) fun _ i=>i.goes.ready A x z (c:Int)
 have v:Hid (∀W,SX w g W d a P n q (T+n+1) (Go.Proofs.YtnmhcgpnhlhcgaaGreatDoor.ready P n q M x (c:Int)) e c l O0->W.cell? (af a.pr (c*3))=some (ab ((Go.Proofs.YtnmhcgpnhlhcgaaGreatDoor.ready P n q M x (c:Int)).pc c).r)/\W.frozen? (af a.pr (c*3))=false/\SX w g (W.setCell (af a.pr (c*3)) (ab (-1))) d a P n q (T+n+1) (jr P n q M c x) e c l O0):=fun W h=>⟨(h.pc s).c0,h.yS _,h.qJ s (-1)⟩
 have o:((Go.Proofs.YtnmhcgpnhlhcgaaGreatDoor.ready P n q M x (c:Int)).pc c).r=(x:Int):=by rw[<-t];unfold Go.Proofs.YtnmhcgpnhlhcgaaGreatDoor.ready cZ dt cY Go.Proofs.YtnmhcgpnhlhcgaaGreatDoor.settle;grind
 rw[o] at v
 have G:=aa h
 have D:=h.c0
 have C:=h.c1
 have B:=h.c2
 have u:=(h.pc s).c0
 rw[t] at u
 have y:Hid (∀W,SX w g W d a P n q (T+n+1) (Go.Proofs.YtnmhcgpnhlhcgaaGreatDoor.ready P n q M x (c:Int)) e c l O0->W.cell? (ao e)=some (ak a.m)/\W.cell? (af e 1)=some (ab c)/\W.cell? (af e 2)=some (.pointer (some (af a.pr (c*3))))/\W.cell? (af a.pr (c*3))=some (ab x)):=fun W h=>⟨h.c0,h.c1,h.c2,by rw[<-o];exact(h.pc s).c0⟩
 clear h t o
 refine ge ?_
 go_wp2
 go_region_held3 (fun p=>p.cell? (ao e)=some (ak a.m)/\p.cell? (af e 1)=some (ab c)/\p.cell? (af e 2)=some (.pointer (some (af a.pr (c*3))))/\p.cell? (af a.pr (c*3))=some (ab x))
  (first|exact y.out _ HG.out|go_keep)
  (first
   |(go_at_call 50;refine cH (F.out _ (by exact SX.dc G.out rfl rfl rfl rfl)) fun J HG=> ?_))
 obtain⟨S,Q,N,L⟩:=y.out _ HG.out
 obtain⟨I,H,hz⟩:=v.out _ HG.out
 have E:=aa hz
 clear hz D C B u
 go_wp2
 go_end0
 exact⟨rfl,E.out⟩
def SX.tell (h:SX w g W d a P n q T M e c l O0) (r:l.length<=10000) (m:Int) (x:Int) (b:Nat) (o:Int):
  aB 120 #[ak e,ab m,.agg #[ab x,aM b],ab o] W fun i p=>i=aS #[]/\SX w g p d a P n q T M e c (l++[⟨m,(c:Int),x,b,o,0⟩]) O0:=h.call (R:=fun i=>i=aS #[]) fun _ s=>s.tell r m x b o
def SX.end_ (h:SX w g W d a P n q T M e c l O0) (r:l.length<=10000) (m:Int) (x:Int) (b:Nat) (o:Int):
  aB 123 #[ak e,ab m,.agg #[ab x,aM b],ab o] W fun i p=>i= .panicked ed/\SX w g p d a P n q T M e c (l++[⟨m,(c:Int),x,b,o,0⟩]) O0:=h.call (R:=fun i=>i= .panicked ed) fun _ s=>s.end_ r m x b o
end
section
variable {w W k:World} {b i:Nat->Nat} {a:Ad} {P n q T j:Nat} {M f:Mc} {d c:Nat} {l:List Ev} {O O0:Nat->Prop} {e:World}
def SG.ie (h:SG w W b a P n q T M d c l O) (E:l.length<=10000) (x:Nat) (z:x<n) (r v:Int):
  aB 166 #[ak d,.pointer (some (af a.th (x*10))),.agg #[ab r,ab v],ab 0] W fun m o=>m=aS #[]/\SX w W o b a P n q T M d c (l++[⟨5,(c:Int),(M.th x).p,(M.th x).g,r,0⟩]) O:=by
 have s:aC W (W.alloc (.cells #[ab r,ab v] 83)):=bq
 have u:=(h.below s).sx
 have D: ¬O W.heap.size:=fun q=>by have:=h.lt q;omega
 have J:=aa s
 have Q:=bB W #[ab r,ab v] 83 0 _ rfl
 clear h s
 generalize C:W.alloc (.cells #[ab r,ab v] 83)=e at*
 have H:=aa C
 clear C
 obtain⟨t,A⟩: ∃t,M.th x=t:=⟨_,rfl⟩
 have G:=(u.tr z).c0
 have F:=(u.tr z).c1
 rw[A] at G F|-
 have I:Hid (∀y (B:aC e y),aB 120 #[ak d,ab 5,.agg #[ab t.p,aM t.g],ab r] y fun m o=>m=aS #[]/\SX w e o b a P n q T M d c (l++[⟨5,(c:Int),t.p,t.g,r,0⟩]) O/\(o.cell? (ao W.heap.size)=some (ab r)/\o.cell? (af a.th (x*10))=some (ab t.p)/\o.cell? (af a.th (x*10+1))=some (aM t.g))):=fun y B=>by
  refine((u.more B).tell E 5 t.p t.g r).mono ?_
  grind[SX.tr,bC.c0,bC.c1,SX.keep]
 have L:=aa (i4 e.heap.size e)
 clear u A
 refine ge ?_
 go_wp2
 rw[H.out]
 go_region_held3 (fun o=>o.cell? (ao W.heap.size)=some (ab r)/\o.cell? (af a.th (x*10))=some (ab t.p)/\o.cell? (af a.th (x*10+1))=some (aM t.g))
  (first|exact HS1.out|go_keep)
  (first
   |(go_at_call 120;refine cI (I.out _ (by exact bp L.out rfl rfl rfl rfl)) fun N R HS1=> ?_))
 go_wp2
 go_end0
 grind[RowKit.Hid.out,SX.ahead]
def SX.leave (h:SX w e W b a P n q T M d c l O0) (D:c<P) (x:Nat) (C:x<n) (s:Nat):
  aB 170 #[ak d,.pointer (some (af a.th (x*10))),ab s] W fun u y=>u=aS #[]/\SX w e y b a P n q T (jz {M with S:=cJ n M.G M.S (M.th x).p (M.th x).g s} c (-1)) d c l O0:=by
 obtain⟨t,z⟩: ∃t,M.th x=t:=⟨_,rfl⟩
 rw[z]
 have Q:=aa fun W (h:SX w e W b a P n q T M d c l O0)=>h.lift (R:=fun u=> ∃v:Int,u= .returned (ab v)) fun _ o=>o.goes.move t.p t.g s
 have B:Hid (∀W f,f.th x=t->SX w e W b a P n q T f d c l O0->W.cell? (ao d)=some (ak a.m)/\W.cell? (af a.m 5)=some (ak a.tb)/\W.cell? (af a.th (x*10))=some (ab t.p)/\W.cell? (af a.th (x*10+1))=some (aM t.g)):=fun W f u h=>⟨h.c0,h.core.c5,by rw[<-u];exact(h.tr C).c0,by rw[<-u];exact(h.tr C).c1⟩
 have N:Hid (∀W,SX w e W b a P n q T {M with S:=cJ n M.G M.S t.p t.g s} d c l O0->W.cell? (af d 2)=some (.pointer (some (af a.pr (c*3))))/\W.cell? (af a.pr (c*3))=some (ab (M.pc c).r)/\W.frozen? (af a.pr (c*3))=false/\SX w e (W.setCell (af a.pr (c*3)) (ab (-1))) b a P n q T (jz {M with S:=cJ n M.G M.S t.p t.g s} c (-1)) d c l O0):=fun W h=>⟨h.c2,(h.pc D).c0,h.yS _,h.qJ D (-1)⟩
 have U:=aa h
 obtain⟨J,I,H,F⟩:=B.out _ _ z h
 have A:=aa (fun W h=>B.out W {M with S:=cJ n M.G M.S t.p t.g s} z h)
 clear h z B
 refine ge ?_
 go_wp2
 go_region_held3 (fun y=>y.cell? (ao d)=some (ak a.m)/\y.cell? (af a.m 5)=some (ak a.tb)/\y.cell? (af a.th (x*10))=some (ab t.p)/\y.cell? (af a.th (x*10+1))=some (aM t.g))
  (first|exact A.out _ HG.out|go_keep)
  (first
   |(go_at_call 94;refine(Q.out _ (by exact SX.dc U.out rfl rfl rfl rfl)).mono ?_;rintro u Z ⟨⟨v,rfl⟩,E⟩;have HG:=aa E;clear E))
 obtain⟨V,Y,X,hz⟩:=N.out _ HG.out
 have L:=aa hz
 clear hz J I H F
 go_wp2
 go_end0
 exact⟨rfl,L.out⟩
end
structure Dj (W:World) (b:Nat) (k:Ke.K):Prop where
 c0:W.cell? (ao b)=some (.bool k.e)
 c1:W.cell? (af b 1)=some (aj k.d)
 c2:W.cell? (af b 2)=some (aA k.l)
def Dj.new (W:World) (k:Ke.K):Dj (W.alloc (.cells (bn k) 120)) W.heap.size k:=⟨bB _ _ _ 0 _ rfl,bB _ _ _ 1 _ rfl,bB _ _ _ 2 _ rfl⟩
def NF {W a V:World} (h:aC W a) (b:aC a V):aC W V:=bt h b
def gv.GJ {W:World} {b:Nat} (f:W.cell? (ao b)=some (.bool false)) (c:W.cell? (af b 1)=some (aj 0)) (a:W.cell? (af b 2)=some (aA 0)) (k:Ke.K):Dj (((W.setCell (ao b) (.bool k.e)).setCell (af b 1) (aj k.d)).setCell (af b 2) (aA k.l)) b k:=
 ⟨(aI _ x_).trans ((aI _ x_).trans (Gt.aU _ _ _ _ f)),(aI _ x_).trans (Gt.aU _ _ _ _ ((aI _ x_).trans c)),Gt.aU _ _ _ _ ((aI _ x_).trans ((aI _ x_).trans a))⟩
theorem Dj.low {W c:World} {b:Nat} {k:Ke.K} (h:Dj W b k) (a:aC W c):Dj c b k:=⟨kc a h.c0,kc a h.c1,kc a h.c2⟩
section
variable {w W i:World} {c e:Nat->Nat} {a:Ad} {P n q T T':Nat} {M M':Mc} {sb b:Nat} {l:List Ev} {O O0:Nat->Prop} {f:World}
def ax.Ko (h:ax W e a P n q T M) (p d:Int) (j:0<=d/\d<18446744073709551616):
  vQ 118 #[ak a.pb,ab p,aj d] W (.tuple #[ab (bI (gh M.pl) (bb P (gh M.pl) p d)),.agg (bn (bK (gh M.pl) (bb P (gh M.pl) p d))),ab (bA (bb P (gh M.pl) p d)),.bool (bb P (gh M.pl) p d).isSome]):=by
 obtain⟨O,g,k⟩:=h.pl
 exact g.Ko p d j
def ax.take (h:ax W e a P n q T M) (p d:Int) (u:0<=d/\d<18446744073709551616):
  aB 122 #[ak a.pb,ab p,aj d] W fun g w'=>g=aS #[ab (bI (gh M.pl) (bb P (gh M.pl) p d)),.agg (bn (bK (gh M.pl) (bb P (gh M.pl) p d))),ab (bA (bb P (gh M.pl) p d)),.bool (bb P (gh M.pl) p d).isSome]/\aD W w' e a P n q (T+1) {M with pl:=iw P (gh M.pl) p d}:=by
 obtain⟨O,s,r⟩:=h.pl
 refine(s.take p d u).mono ?_
 rintro g w' ⟨rfl,m,t⟩
 have j:Fr (fun k=>e k=8) W w':=t.to (fun k _ o=>r k o)
 exact⟨rfl,e,h.MO (h.same j) j m r,h.same j,j.to (fun k _ o=>by omega)⟩
noncomputable def gives (P:Nat) (M:Mc) (b:Nat) (d:Int):Bool:=
 (Ke.up (bK (gh M.pl) (bb P (gh M.pl) (b:Int) d)) (Pi.jo M.gr.T M.gr.L (M.pc b).r)||((M.pc b).m&& !Ke.up (Pi.jo M.gr.T M.gr.L (M.pc b).r) (bK (gh M.pl) (bb P (gh M.pl) (b:Int) d))))
def SX.oI (h:SX w f W c a P n q T M sb b l O0) (Q:b<P) (d:Int) (hd:0<=d/\d<18446744073709551616) (E:(M.pc b).r= -1\/(bb P (gh M.pl) (b:Int) d).isSome=false):
  aB 75 #[ak sb,aj d] W fun j x=>j=aS #[]/\SX w f x c a P n q T M sb b l O0:=by
 have B:Hid (∀V,aC W V->aB 118 #[ak a.pb,ab b,aj d] V fun j x=>j=aS #[ab (bI (gh M.pl) (bb P (gh M.pl) (b:Int) d)),.agg (bn (bK (gh M.pl) (bb P (gh M.pl) (b:Int) d))),ab (bA (bb P (gh M.pl) (b:Int) d)),.bool (bb P (gh M.pl) (b:Int) d).isSome]/\aC W x/\ ∀o,gv V o->gv x o):=fun V t=>by
  obtain⟨lk,g⟩:=(h.more t).i
  exact(g.Ko (b:Int) d hd).mono (fun _ _ ⟨j,o⟩=>⟨j,bt t o,fun _ k=>k.kept o⟩)
 have G:Hid (∀V,aC W V->V.cell? (ao sb)=some (ak a.m)/\V.cell? (af sb 1)=some (ab b)/\V.cell? (af a.m 8)=some (ak a.pb)):=fun V t=>⟨(h.more t).c0,(h.more t).c1,(h.more t).core.c8⟩
 have HD:Hid (∀V,aC W V->V.cell? (af sb 2)=some (.pointer (some (af a.pr (b*3))))/\V.cell? (af a.pr (b*3))=some (ab (M.pc b).r)/\V.cell? (af a.pr (b*3+2))=some (.bool (M.pc b).m)):=fun V t=>⟨(h.more t).c2,((h.more t).pc Q).c0,((h.more t).pc Q).c2⟩
 have X:=aa (i4 W.heap.size W)
 have U:=aa h
 obtain⟨S,c1,R⟩:=G.out _ X.out
 have F:=aa (gv.new W)
 have N: ¬sb=W.heap.size:=by have:sb<W.heap.size:=i7 W _ S;omega
 have Z: ¬W.heap.size=sb:=fun j=>N j.symm
 have L: ¬a.m=W.heap.size:=by have:a.m<W.heap.size:=i7 W _ R;omega
 have Y: ¬W.heap.size=a.m:=fun j=>L j.symm
 clear h
 generalize bI (gh M.pl) (bb P (gh M.pl) (b:Int) d)=bi at*
 generalize bK (gh M.pl) (bb P (gh M.pl) (b:Int) d)=p at*
 generalize bA (bb P (gh M.pl) (b:Int) d)=ba at*
 generalize (bb P (gh M.pl) (b:Int) d).isSome=ok at*
 generalize (M.pc b).r=r at*
 refine ge ?_
 go_wp2
 go_region_held3 (fun x=>x.cell? (ao sb)=some (ak a.m)/\x.cell? (af sb 1)=some (ab b)/\x.cell? (af a.m 8)=some (ak a.pb))
  (first|exact G.out _ HB1.out|exact G.out _ (HB1.out.alloc HB1.out.size _)|go_keep)
  (first
   |(go_at_call 118;refine(B.out _ (by exact aK X.out rfl rfl rfl rfl)).mono ?_;rintro j z ⟨rfl,A,u⟩;have HB1:=aa A;clear A u)
   |(go_at_call 118;refine(B.out _ (by exact aK ((i4 W.heap.size W).alloc aT _) rfl rfl rfl rfl)).mono ?_;rintro j z ⟨rfl,A,u⟩;have HB1:=aa A;obtain⟨J,I,H,f0,f1,f2⟩:=u _ (F.out.kept (by exact bp cj rfl rfl rfl rfl));clear A u))
 all_goals (rename_i hHeld;clear hHeld)
 all_goals first
  |(have v:=aa (eK (eK (eK HB1.out (a:=(ao W.heap.size)) aT (.bool p.e)) (a:=(af W.heap.size 1)) aT (aj p.d)) (a:=(af W.heap.size 2)) aT (aA p.l));have y:Hid (Dj (((z.setCell (ao W.heap.size) (.bool p.e)).setCell (af W.heap.size 1) (aj p.d)).setCell (af W.heap.size 2) (aA p.l)) W.heap.size p):=(gv.GJ J I H p);clear J I H f0 f1 f2 HB1;generalize ((z.setCell (ao W.heap.size) (.bool p.e)).setCell (af W.heap.size 1) (aj p.d)).setCell (af W.heap.size 2) (aA p.l)=Wc at*;obtain⟨kb,s⟩: ∃kb,W.heap.size=kb:=⟨_,rfl⟩;rw[s] at y)
  |(have v:=aa (HB1.out.alloc HB1.out.size (.cells (bn p) 120));have y:=aa (Dj.new z p);clear HB1;generalize z.alloc (.cells (bn p) 120)=Wc at*;obtain⟨kb,s⟩: ∃kb,z.heap.size=kb:=⟨_,rfl⟩;rw[s] at y)
 all_goals rw[s]
 all_goals clear s S c1 R N Z L Y
 all_goals obtain⟨z2,z0,zm⟩:=HD.out _ v.out
 all_goals
  by_cases C:r= -1
  ·subst C
   go_wp2
   simp[bodyPost,results,Tryz.results75,go_sem]
   exact U.out.more v.out
  ·have D:=E.resolve_left C
   subst D
   have a0:(r== -1)=false:=by simp[C]
   go_wp2
   simp[bodyPost,results,Tryz.results75,go_sem]
   exact U.out.more v.out
noncomputable def Hj (M:Mc) (x:Nat):Ke.K:=Pi.jo M.gr.T M.gr.L (x:Int)
def SX.oN (h:SX w f W c a P n q T M sb b l O0) (hp:b<P) (d:Int) (hd:0<=d/\d<18446744073709551616) (x:Nat) (hx:x<n) (hr:(M.pc b).r=(x:Int)) (a6:(bb P (gh M.pl) (b:Int) d).isSome=true) (g:Bool) (E:gives P M b d=g) (hl:g=true->l.length<=10000) (hT:g=true->T+n<=1000000000):
  aB 75 #[ak sb,aj d] W fun o v=>o=aS #[]/\SX w f v c a P n q (cond g (T+n+1) T) (cond g (jr P n q M b x) M) sb b (cond g (l++[⟨4,(b:Int),(M.th x).p,(M.th x).g,0,0⟩]) l) O0:=by
 obtain⟨t,ht⟩: ∃t,M.th x=t:=⟨_,rfl⟩
 have b7:(x:Int)<n:=z_
 rw[ht]
 have a8:Hid (g=true-> ∀V,SX w f V c a P n q T M sb b l O0->aB 120 #[ak sb,ab 4,.agg #[ab t.p,aM t.g],ab 0] V fun o v=>o=aS #[]/\SX w f v c a P n q T M sb b (l++[⟨4,(b:Int),t.p,t.g,0,0⟩]) O0):=fun q V h=>h.tell (hl q) 4 t.p t.g 0
 have b0:Hid (g=true-> ∀V,SX w f V c a P n q T M sb b (l++[⟨4,(b:Int),t.p,t.g,0,0⟩]) O0->aB 121 #[ak sb] V fun o v=>o=aS #[]/\SX w f v c a P n q (T+n+1) (jr P n q M b x) sb b (l++[⟨4,(b:Int),t.p,t.g,0,0⟩]) O0):=fun q V h=>h.zT (hT q) hp x hx hr
 have a3:Hid (∀V l,SX w f V c a P n q T M sb b l O0->V.cell? (ao sb)=some (ak a.m)/\V.cell? (af a.m 4)=some (.slice (some (ao a.th)) n a.xt)/\V.cell? (af sb 2)=some (.pointer (some (af a.pr (b*3))))/\V.cell? (af a.pr (b*3))=some (ab x)/\V.cell? (af a.th (x*10))=some (ab t.p)/\V.cell? (af a.th (x*10+1))=some (aM t.g)):=fun V l h=>⟨h.c0,h.core.c4,h.c2,by rw[<-hr];exact(h.pc hp).c0,by rw[<-ht];exact(h.tr hx).c0,by rw[<-ht];exact(h.tr hx).c1⟩
 have b3:Hid (∀V,aC W V->aB 83 #[ak a.gb,ab x] V fun o v=>o= .returned (.agg (bn (Hj M x)))/\aC W v/\aC V v):=fun V y=>by
  obtain⟨lk,j⟩:=(h.more y).i
  exact(j.key (x:Int)).mono (fun _ _ ⟨o,s⟩=>⟨o,bt y s,s⟩)
 have N:=aa (fun V (y:aC W V) k k'=>(Ke.pY V k k').mono (fun _ _ ⟨o,s⟩=>And.intro o (And.intro (bt y s) s)))
 have a2:Hid (∀V,aC W V->V.cell? (ao sb)=some (ak a.m)/\V.cell? (af a.m 7)=some (ak a.gb)):=fun V y=>⟨(h.more y).c0,(h.more y).core.c7⟩
 unfold gives at E
 rw[hr] at E
 have a0:(Ke.up (bK (gh M.pl) (bb P (gh M.pl) (b:Int) d)) (Hj M x)||((M.pc b).m&& !Ke.up (Hj M x) (bK (gh M.pl) (bb P (gh M.pl) (b:Int) d))))=g:=E
 clear E
 have a4:Hid (∀V,aC W V->aB 118 #[ak a.pb,ab b,aj d] V fun o v=>o=aS #[ab (bI (gh M.pl) (bb P (gh M.pl) (b:Int) d)),.agg (bn (bK (gh M.pl) (bb P (gh M.pl) (b:Int) d))),ab (bA (bb P (gh M.pl) (b:Int) d)),.bool (bb P (gh M.pl) (b:Int) d).isSome]/\aC W v/\ ∀s,gv V s->gv v s):=fun V y=>by
  obtain⟨lk,j⟩:=(h.more y).i
  exact(j.Ko (b:Int) d hd).mono (fun _ _ ⟨o,s⟩=>⟨o,bt y s,fun _ k=>k.kept s⟩)
 have HC:Hid (∀V,aC W V->V.cell? (ao sb)=some (ak a.m)/\V.cell? (af sb 1)=some (ab b)/\V.cell? (af a.m 8)=some (ak a.pb)):=fun V y=>⟨(h.more y).c0,(h.more y).c1,(h.more y).core.c8⟩
 have U:Hid (∀V,aC W V->V.cell? (af sb 2)=some (.pointer (some (af a.pr (b*3))))/\V.cell? (af a.pr (b*3))=some (ab (M.pc b).r)/\V.cell? (af a.pr (b*3+2))=some (.bool (M.pc b).m)):=fun V y=>⟨(h.more y).c2,((h.more y).pc hp).c0,((h.more y).pc hp).c2⟩
 have H0:=aa (i4 W.heap.size W)
 have HS:=aa h
 obtain⟨c0,c1,c8⟩:=HC.out _ H0.out
 have b4:=aa (gv.new W)
 have n1: ¬sb=W.heap.size:=by have:sb<W.heap.size:=i7 W _ c0;omega
 have n2: ¬W.heap.size=sb:=fun o=>n1 o.symm
 have n3: ¬a.m=W.heap.size:=by have:a.m<W.heap.size:=i7 W _ c8;omega
 have n4: ¬W.heap.size=a.m:=fun o=>n3 o.symm
 rw[hr] at U
 clear h hr ht
 generalize bI (gh M.pl) (bb P (gh M.pl) (b:Int) d)=bi at*
 generalize bK (gh M.pl) (bb P (gh M.pl) (b:Int) d)=C at*
 generalize bA (bb P (gh M.pl) (b:Int) d)=ba at*
 generalize (bb P (gh M.pl) (b:Int) d).isSome=ok at*
 subst a6
 generalize Hj M x=A at*
 generalize (M.pc b).m=mk at*
 have b6:((x:Int)== -1)=false:=q_
 refine ge ?_
 go_wp2
 go_region_held3 (fun v=>v.cell? (ao sb)=some (ak a.m)/\v.cell? (af sb 1)=some (ab b)/\v.cell? (af a.m 8)=some (ak a.pb))
  (first|exact HC.out _ HB1.out|exact HC.out _ (HB1.out.alloc HB1.out.size _)|go_keep)
  (first
   |(go_at_call 118;refine(a4.out _ (by exact aK H0.out rfl rfl rfl rfl)).mono ?_;rintro o w1 ⟨rfl,E,B⟩;have HB1:=aa E;clear E B)
   |(go_at_call 118;refine(a4.out _ (by exact aK ((i4 W.heap.size W).alloc aT _) rfl rfl rfl rfl)).mono ?_;rintro o w1 ⟨rfl,E,B⟩;have HB1:=aa E;obtain⟨r0,r1,r2,f0,f1,f2⟩:=B _ (b4.out.kept (by exact bp cj rfl rfl rfl rfl));clear E B))
 all_goals (rename_i hHeld;clear hHeld)
 all_goals first
  |(have D:=aa (eK (eK (eK HB1.out (a:=(ao W.heap.size)) aT (.bool C.e)) (a:=(af W.heap.size 1)) aT (aj C.d)) (a:=(af W.heap.size 2)) aT (aA C.l));have I:Hid (Dj (((w1.setCell (ao W.heap.size) (.bool C.e)).setCell (af W.heap.size 1) (aj C.d)).setCell (af W.heap.size 2) (aA C.l)) W.heap.size C):=(gv.GJ r0 r1 r2 C);clear r0 r1 r2 f0 f1 f2 HB1;generalize ((w1.setCell (ao W.heap.size) (.bool C.e)).setCell (af W.heap.size 1) (aj C.d)).setCell (af W.heap.size 2) (aA C.l)=u at*;obtain⟨kb,z⟩: ∃kb,W.heap.size=kb:=⟨_,rfl⟩;rw[z] at I)
  |(have D:=aa (HB1.out.alloc HB1.out.size (.cells (bn C) 120));have I:=aa (Dj.new w1 C);clear HB1;generalize w1.alloc (.cells (bn C) 120)=u at*;obtain⟨kb,z⟩: ∃kb,w1.heap.size=kb:=⟨_,rfl⟩;rw[z] at I)
 all_goals rw[z]
 all_goals clear z c0 c1 c8 n1 n2 n3 n4
 all_goals obtain⟨z2,z0,zm⟩:=U.out _ D.out
 all_goals go_upto_region 2 with fail
 all_goals have a1:Hid (∀V,aC u V->aB 83 #[ak a.gb,ab x] V fun o v=>o= .returned (.agg (bn A))/\aC u v/\ ∀s,gv V s->gv v s):=fun V y=>(b3.out V (NF D.out y)).mono (fun _ _ ⟨o,b1,b2⟩=>⟨o,bt y b2,fun _ k=>k.kept b2⟩)
 all_goals have X:Hid (∀V,aC u V->V.cell? (ao sb)=some (ak a.m)/\V.cell? (af a.m 7)=some (ak a.gb)/\V.cell? (af sb 2)=some (.pointer (some (af a.pr (b*3))))/\V.cell? (af a.pr (b*3))=some (ab x)):=fun V y=>⟨(a2.out V (NF D.out y)).1,(a2.out V (NF D.out y)).2,(U.out V (NF D.out y)).1,(U.out V (NF D.out y)).2.1⟩
 all_goals obtain⟨y0,y7,y2,yr⟩:=X.out _ cj
 all_goals have b5:=aa (gv.new u)
 all_goals have H2:=aa (i4 u.heap.size u)
 all_goals have m1: ¬sb=u.heap.size:=by have:sb<u.heap.size:=i7 u _ y0;omega
 all_goals have m2: ¬u.heap.size=sb:=fun o=>m1 o.symm
 all_goals have m3: ¬a.m=u.heap.size:=by have:a.m<u.heap.size:=i7 u _ y7;omega
 all_goals have m4: ¬u.heap.size=a.m:=fun o=>m3 o.symm
 all_goals have m5: ¬a.pr=u.heap.size:=by have:a.pr<u.heap.size:=i7 u _ yr;omega
 all_goals have m6: ¬u.heap.size=a.pr:=fun o=>m5 o.symm
 all_goals clear z2 z0 zm
 all_goals go_region_held3 (fun v=>v.cell? (ao sb)=some (ak a.m)/\v.cell? (af a.m 7)=some (ak a.gb)/\v.cell? (af sb 2)=some (.pointer (some (af a.pr (b*3))))/\v.cell? (af a.pr (b*3))=some (ab x))
  (first|exact X.out _ HB2.out|exact X.out _ (HB2.out.alloc HB2.out.size _)|go_keep)
  (first
   |(go_at_call 83;refine(a1.out _ (by exact aK H2.out rfl rfl rfl rfl)).mono ?_;rintro o w2 ⟨rfl,E,B⟩;have HB2:=aa E;clear E B)
   |(go_at_call 83;refine(a1.out _ (by exact aK ((i4 u.heap.size u).alloc aT _) rfl rfl rfl rfl)).mono ?_;rintro o w2 ⟨rfl,E,B⟩;have HB2:=aa E;obtain⟨r0,r1,r2,f0,f1,f2⟩:=B _ (b5.out.kept (by exact bp cj rfl rfl rfl rfl));clear E B))
 all_goals (rename_i hHeld;clear hHeld)
 all_goals first
  |(have L:=aa (eK (eK (eK HB2.out (a:=(ao u.heap.size)) aT (.bool A.e)) (a:=(af u.heap.size 1)) aT (aj A.d)) (a:=(af u.heap.size 2)) aT (aA A.l));have H:Hid (Dj (((w2.setCell (ao u.heap.size) (.bool A.e)).setCell (af u.heap.size 1) (aj A.d)).setCell (af u.heap.size 2) (aA A.l)) u.heap.size A):=(gv.GJ r0 r1 r2 A);clear r0 r1 r2 f0 f1 f2 HB2;generalize ((w2.setCell (ao u.heap.size) (.bool A.e)).setCell (af u.heap.size 1) (aj A.d)).setCell (af u.heap.size 2) (aA A.l)=Wd at*;obtain⟨kb2,z⟩: ∃kb2,u.heap.size=kb2:=⟨_,rfl⟩;rw[z] at H)
  |(have L:=aa (HB2.out.alloc HB2.out.size (.cells (bn A) 120));have H:=aa (Dj.new w2 A);clear HB2;generalize w2.alloc (.cells (bn A) 120)=Wd at*;obtain⟨kb2,z⟩: ∃kb2,w2.heap.size=kb2:=⟨_,rfl⟩;rw[z] at H)
 all_goals rw[z]
 all_goals clear z y0 y7 y2 yr m1 m2 m3 m4 m5 m6
 all_goals have Y:=aa (NF D.out L.out)
 all_goals obtain⟨z2,z0,zm⟩:=U.out _ Y.out
 all_goals obtain⟨p0,p1,p2⟩:=H.out
 all_goals obtain⟨q0,q1,q2⟩:=I.out.low L.out
 all_goals
  cases g with
  |true=>
   cases Q:Ke.up C A
   case' false=>
    rw[Q] at a0
    have a7:mk=true:=y_
    subst a7
    have a5:Ke.up A C=false:=y_
   all_goals
    go_upto_region 4 with (first
     |(go_at_call 119;(have hh:=HB5.out;clear hh);refine(N.out _ HB5.out _ _).mono ?_;rintro o w6 ⟨rfl,J,R⟩;have Z:=aa J;clear J R)
     |(go_at_call 119;refine(N.out _ Y.out _ _).mono ?_;rintro o w5 ⟨rfl,G,F⟩;have HB5:=aa G;obtain⟨z2,z0,zm⟩:=U.out _ G;obtain⟨p0,p1,p2⟩:=H.out.low F;obtain⟨q0,q1,q2⟩:=(I.out.low L.out).low F;clear G F))
    first|have S:=aa (HS.out.more Z.out)|have S:=aa (HS.out.more HB5.out)
    obtain⟨g0,g4,g2,gr,gp,gg⟩:=a3.out _ _ S.out
    clear z2 z0 zm p0 p1 p2 q0 q1 q2
    go_region_held3 (fun v=>v.cell? (ao sb)=some (ak a.m)/\v.cell? (af a.m 4)=some (.slice (some (ao a.th)) n a.xt)/\v.cell? (af sb 2)=some (.pointer (some (af a.pr (b*3))))/\v.cell? (af a.pr (b*3))=some (ab x)/\v.cell? (af a.th (x*10))=some (ab t.p)/\v.cell? (af a.th (x*10+1))=some (aM t.g))
     (first|exact a3.out _ _ HT7.out|go_keep)
     (first
      |(go_at_call 120;refine cH (a8.out (by trivial) _ (by exact SX.dc S.out rfl rfl rfl rfl)) fun w7 HT7=> ?_))
    go_wp2_with (go_at_call 121;refine cH (b0.out (by trivial) _ HT7.out) fun w8 a9=> ?_)
    go_end0
    exact⟨rfl,a9.out⟩
  |false=>
   have Q:Ke.up C A=false:=y_
   rw[Q] at a0
   cases mk
   case' true=>have a5:Ke.up A C=true:=y_
   all_goals
    go_wp2_with (first
     |(go_at_call 119;(have hh:=HB5.out;clear hh);refine(N.out _ HB5.out _ _).mono ?_;rintro o w6 ⟨rfl,J,R⟩;have Z:=aa J;clear J R)
     |(go_at_call 119;refine(N.out _ Y.out _ _).mono ?_;rintro o w5 ⟨rfl,G,F⟩;have HB5:=aa G;obtain⟨z2,z0,zm⟩:=U.out _ G;obtain⟨p0,p1,p2⟩:=H.out.low F;obtain⟨q0,q1,q2⟩:=(I.out.low L.out).low F;clear G F))
    go_end0
    first|exact⟨rfl,HS.out.more Z.out⟩|exact⟨rfl,HS.out.more HB5.out⟩
def SX.uf (h:SX w f W c a P n q T M sb b l O0) (p:b<P) (d:Int) (t:0<=d/\d<18446744073709551616) (x:Nat) (m:x<n) (o:(M.pc b).r=(x:Int)) (j:(bb P (gh M.pl) (b:Int) d).isSome=true) (s:gives P M b d=false):
  aB 75 #[ak sb,aj d] W fun g k=>g=aS #[]/\SX w f k c a P n q T M sb b l O0:=
 h.oN p d t x m o j false s (fun q=>by cases q) (fun q=>by cases q)
def SX.yR (h:SX w f W c a P n q T M sb b l O0) (u:l.length<=10000) (z:T+n<=1000000000) (t:b<P) (d:Int) (y:0<=d/\d<18446744073709551616) (x:Nat) (o:x<n) (s:(M.pc b).r=(x:Int)) (k:(bb P (gh M.pl) (b:Int) d).isSome=true) (v:gives P M b d=true):
  aB 75 #[ak sb,aj d] W fun j m=>j=aS #[]/\SX w f m c a P n q (T+n+1) (jr P n q M b x) sb b (l++[⟨4,(b:Int),(M.th x).p,(M.th x).g,0,0⟩]) O0:=
 h.oN t d y x o s k true v (fun _=>u) (fun _=>z)
end
section
variable {w W j:World} {c g:Nat->Nat} {a:Ad} {P n q T T':Nat} {M M':Mc} {sb pr:Nat} {l e:List Ev} {O O0:Nat->Prop} {d:World}
def SG.gw (h:SG w W c a P n q T M sb pr l O) {b:Nat} (t: ¬O b) (hw:w.heap.size<=b) (o:Nat) (u:Value):SG w (W.setCell (af b o) u) c a P n q T M sb pr l O:=by
 obtain⟨k,v,s,m⟩:=h
 have r:=Classical.byContradiction fun q=>t ((m b).2 (.inl q))
 have p:sb≠b:=fun q=>y_
 have x:v.ownBlock≠some b:=fun q=>y_
 have ec: ∀i,(W.setCell (af b o) u).cell? (af sb i)=W.cell? (af sb i):=fun i=>Gt.aw _ _ _ _ _ _ z_
 exact⟨k,v,⟨s.at_.set hw r o u,(ec _).trans s.c0,(ec _).trans s.c1,(ec _).trans s.c2,(ec _).trans s.c3,aQ s.hv (fun f q=>zZ0 _ _ _ _ y_),s.hk,fun i=>by rw[aR];exact s.fz i,s.ls,s.ws⟩,m⟩
theorem SX.base (h:SX w d W c a P n q T M sb pr l O0): ∃O,SG w W c a P n q T M sb pr l O/\ ∀(m:World) (T':Nat) (M':Mc) (e:List Ev),SX w W m c a P n q T' M' sb pr e O->SX w d m c a P n q T' M' sb pr e O0:=by
 obtain⟨O,r,p,s⟩:=h
 refine⟨O,r,?_⟩
 rintro m T' M' e ⟨t,b,i,f⟩
 exact⟨t,b,p.then i z_,fun k o q=>s k o (f k (i8 o p.size) q)⟩
def SG.wl (h:SG w W c a P n q T M sb pr l O):w.heap.size<=W.heap.size:=by
 obtain⟨k,v,s,b⟩:=h
 exact s.at_.f.size
noncomputable def EP (P:Nat) (M:Mc) (pr:Nat) (b:Int):Mc:={M with pl:=iw P (gh M.pl) (pr:Int) b}
def SX.mJ (h:SX w d W c a P n q T M sb pr l O0) (o:pr<P) (f:Int) (m:(M.pc pr).r≠ -1):
  aB 76 #[ak sb,aj f] W fun b i=>b=aS #[]/\SX w d i c a P n q T M sb pr l O0:=by
 have t:=h.c2
 have s:=(h.pc o).c0
 have k:((M.pc pr).r != -1)=true:=by simp[m]
 have p:=aa h
 clear h
 generalize (M.pc pr).r=r at*
 refine ge ?_
 go_wp2
 simp[bodyPost,results,Tryz.results76,go_sem]
 exact p.out
def SX.tM (h:SX w d W c a P n q T M sb pr l O0) (U:l.length<=10000) (hp:pr<P) (p:Int) (hd:0<=p/\p<18446744073709551616) (hr:(M.pc pr).r= -1) (a3:(bb P (gh M.pl) (pr:Int) p).isSome=false):
  aB 76 #[ak sb,aj p] W fun f x=>f= .panicked ed/\SX w d x c a P n q (T+1) (EP P M pr p) sb pr (l++[⟨1,(pr:Int),0,0,0,0⟩]) O0:=by
 have a7:Hid (∀V,SX w d V c a P n q (T+1) (EP P M pr p) sb pr l O0->aB 123 #[ak sb,ab 1,.agg #[ab 0,aM 0],ab 0] V fun f x=>f= .panicked ed/\SX w d x c a P n q (T+1) (EP P M pr p) sb pr (l++[⟨1,(pr:Int),0,0,0,0⟩]) O0):=fun V h=>h.end_ U 1 0 0 0
 obtain⟨O,Q,y⟩:=h.base
 have N:Hid (∀V,aC W V->aB 122 #[ak a.pb,ab pr,aj p] V fun f x=>f=aS #[ab (bI (gh M.pl) (bb P (gh M.pl) (pr:Int) p)),.agg (bn (bK (gh M.pl) (bb P (gh M.pl) (pr:Int) p))),ab (bA (bb P (gh M.pl) (pr:Int) p)),.bool (bb P (gh M.pl) (pr:Int) p).isSome]/\ ∃t,SG w x c a P n q (T+1) (EP P M pr p) sb pr l t/\(W.heap.size<V.heap.size-> ¬t W.heap.size)/\Fr O W x/\(∀k,k<W.heap.size->t k->O k)/\(gv V W.heap.size->gv x W.heap.size)):=fun V Y=>by
  have hV:=Q.below Y
  have R: ¬O W.heap.size:=fun q=>by have:=Q.lt q;omega
  obtain⟨lk,v,s,ho⟩:=id hV
  refine(s.at_.i.take (pr:Int) p hd).mono ?_
  rintro f x ⟨rfl,J⟩
  obtain⟨E,A,U,hf⟩:=s.at_.step J
  have a5:=Classical.byContradiction fun q=>R ((ho _).2 (.inl q))
  have a4:=fun k (hk:k<V.heap.size) (q:(E k≠0\/k=sb\/v.ownBlock=some k))=>(ho k).2 (by
   grind)
  refine⟨rfl,_,⟨E,v,s.keep A U (fun b Y U=>hf.box U Y),fun _=>Iff.rfl⟩,?_,(dd Y).then hf (fun k hk q=>(ho k).2 (.inl q)),fun k hk q=>a4 k (i8 hk Y.size) q,fun H=> ?_⟩
  ·grind
  ·have f:=hf.box a5 (i7 V _ H.c0)
   exact⟨(i5 f).trans H.c0,(i5 f).trans H.c1,(i5 f).trans H.c2,(zV0 f).trans H.f0,(zV0 f).trans H.f1,(zV0 f).trans H.f2⟩
 have HC:Hid (∀V M' T',∀t,SG w V c a P n q T' M' sb pr l t->V.cell? (ao sb)=some (ak a.m)/\V.cell? (af sb 1)=some (ab pr)/\V.cell? (af a.m 8)=some (ak a.pb)):=fun V M' T' t h=>⟨h.sx.c0,h.sx.c1,h.sx.core.c8⟩
 have I:=Q.wl
 have L:=aa y
 have HS:=aa Q
 have H0:=aa (i4 W.heap.size W)
 have Z:=aa (gv.new W)
 obtain⟨c0,c1,c8⟩:=HC.out _ _ _ _ Q
 have c2:=h.c2
 have r0:=(h.pc hp).c0
 have n1: ¬sb=W.heap.size:=by have:sb<W.heap.size:=i7 W _ c0;omega
 have n2: ¬W.heap.size=sb:=fun f=>n1 f.symm
 have n3: ¬a.m=W.heap.size:=by have:a.m<W.heap.size:=i7 W _ c8;omega
 have n4: ¬W.heap.size=a.m:=fun f=>n3 f.symm
 rw[hr] at r0
 clear h Q y hr
 generalize bI (gh M.pl) (bb P (gh M.pl) (pr:Int) p)=bi at*
 generalize bK (gh M.pl) (bb P (gh M.pl) (pr:Int) p)=G at*
 generalize bA (bb P (gh M.pl) (pr:Int) p)=ba at*
 generalize (bb P (gh M.pl) (pr:Int) p).isSome=ok at*
 have a1:=aa fun u t T' M' (o:Obj) (h1:SG w u c a P n q T' M' sb pr l t) (h2:Fr O W u) (h3:(∀k,k<W.heap.size->t k->O k))=>L.out _ _ _ _ ⟨t,h1.below bq,h2.then (dd (S:=fun _=>False) ((i4 u.heap.size u).alloc aT o)) (fun _ _ q=>q.elim),h3⟩
 have a0:=aa fun u t T' M' u0 u1 u2 (h1:SG w u c a P n q T' M' sb pr l t) (R: ¬t W.heap.size) (h2:Fr O W u) (h3:(∀k,k<W.heap.size->t k->O k))=>L.out _ _ _ _ ⟨t,((h1.gw R I 0 u0).gw R I 1 u1).gw R I 2 u2,h2.then ((((Fr.refl (fun k=>k=W.heap.size) u).setCell (a:=(ao W.heap.size)) rfl u0).setCell (a:=(af W.heap.size 1)) rfl u1).setCell (a:=(af W.heap.size 2)) rfl u2) (fun k hk q=>by omega),h3⟩
 refine ge ?_
 go_wp2
 go_region_held3 (fun x=>x.cell? (ao sb)=some (ak a.m)/\x.cell? (af sb 1)=some (ab pr)/\x.cell? (af a.m 8)=some (ak a.pb))
  (first|exact HC.out _ _ _ _ HG1.out|exact HC.out _ _ _ _ (HG1.out.below bq)|go_keep)
  (first
   |(go_at_call 122;refine(N.out _ (by exact aK H0.out rfl rfl rfl rfl)).mono ?_;rintro f u ⟨rfl,t,J,_,B,z,_⟩;have HG1:=aa J;have D:=aa B;have C:=aa z;clear J B z)
   |(go_at_call 122;refine(N.out _ (by exact aK ((i4 W.heap.size W).alloc aT _) rfl rfl rfl rfl)).mono ?_;rintro f u ⟨rfl,t,J,F,B,z,X⟩;have HG1:=aa J;have a6:=aa F;have D:=aa B;have C:=aa z;obtain⟨a2,r1,r2,f0,f1,f2⟩:=X (Z.out.kept (by exact bp cj rfl rfl rfl rfl));clear J F B z X))
 all_goals (rename_i hHeld;clear hHeld)
 all_goals first
  |(have HX:=aa (a0.out u t _ _ (.bool G.e) (aj G.d) (aA G.l) HG1.out (a6.out q_) D.out C.out);clear a2 r1 r2 f0 f1 f2;generalize ((u.setCell (ao W.heap.size) (.bool G.e)).setCell (af W.heap.size 1) (aj G.d)).setCell (af W.heap.size 2) (aA G.l)=Wc at*)
  |(have HX:=aa (a1.out u t _ _ (.cells (bn G) 120) HG1.out D.out C.out);generalize u.alloc (.cells (bn G) 120)=Wc at*)
 all_goals clear c0 c1 c8 n1 n2 n3 n4 c2 r0 HG1 D C a1 a0 N HC Z H0 HS L
 all_goals subst a3
 all_goals go_wp2_with (go_at_call 123;refine cH (a7.out _ HX.out) fun w2 HG=> ?_)
 all_goals simp[bodyPost]
 all_goals exact HG.out
end
section
variable {w W k:World} {c d:Nat->Nat} {a:Ad} {P n q T i:Nat} {M f:Mc} {sb b:Nat} {l j:List Ev} {O O0:Nat->Prop} {e:World}
def ax.IA (h:ax W d a P n q T M) {x:Nat} (v:x<n) (p:Int) (s:Nat) (A:s<256):
  aD W ((W.setCell (af a.th (x*10+6)) (ab p)).setCell (af a.th (x*10+4)) (aA s)) d a P n q T {M with th:=ay M.th x {M.th x with pc:=p,lf:=s}}:=by
 have u:=h.th.ok x v
 have t:Fr (fun m=>d m=4) W ((W.setCell (af a.th (x*10+6)) (ab p)).setCell (af a.th (x*10+4)) (aA s)):=((Fr.refl _ _).setCell (a:=(af a.th _)) h.lth _).setCell (a:=(af a.th _)) h.lth _
 refine⟨d,h.Ei (h.same t) t (h.th.put (((h.th.at_ x v).F1 p).tT s) ⟨u.g,u.lv,A,u.il,u.sn⟩ (fun r z y=>((h.th.at_ r z).fM z_ _).fM z_ _) (fun o=>by rw[aR,aR];exact h.th.fz o)),h.same t,t.to z_⟩
def ax.Hy (h:ax W d a P n q T M) (v:b<P) (r:Int) (s:Nat) (u:s<18446744073709551616) (m:Bool):
  aD W (((W.setCell (af a.pr (b*3)) (ab r)).setCell (af a.pr (b*3+1)) (aj s)).setCell (af a.pr (b*3+2)) (.bool m)) d a P n q T {M with pc:=ay M.pc b ⟨r,s,m⟩}:=by
 have t:Fr (fun g=>d g=3) W (((W.setCell (af a.pr (b*3)) (ab r)).setCell (af a.pr (b*3+1)) (aj s)).setCell (af a.pr (b*3+2)) (.bool m)):=(((Fr.refl _ _).setCell (a:=(af a.pr _)) h.lpr _).setCell (a:=(af a.pr _)) h.lpr _).setCell (a:=(af a.pr _)) h.lpr _
 refine⟨d,h.JF (h.same t) t (h.pc.put ((((h.pc.at_ b v).La r).K6 s).Ku m) u (fun p y x=>(((h.pc.at_ p y).fM z_ _).fM z_ _).fM z_ _) (fun o=>by rw[aR,aR,aR];exact h.pc.fz o)),h.same t,t.to z_⟩
noncomputable def qK (P n:Nat) (M:Mc) (b x:Nat) (h:Int):Mc:={EP P M b h with S:=cJ n M.G M.S (M.th x).p (M.th x).g 2}
noncomputable def sw (P n:Nat) (M:Mc) (b x:Nat) (g:Int):Mc:={qK P n M b x g with th:=ay M.th x {M.th x with pc:=(b:Int),lf:=(dC M (M.th x)).toNat}}
noncomputable def fV (P n:Nat) (M:Mc) (b x:Nat) (g:Int):Mc:={sw P n M b x g with pc:=ay M.pc b ⟨(x:Int),0,false⟩}
def Ig (x:Int) (w:World):(Instr.build 109 #[(0,ab x)]).run Tryz.prog w= .ok (.agg #[ab x,aj 0,.bool false]) w:=run_build w 109 _ _ (by rfl)
def Jp (M:Mc) (t:Tr) (h:t.ok):0<=dC M t/\dC M t<256:=by
 have o:=h.lv
 unfold dC Ag.CU
 by_cases g:(M.ag:Int)=0
 ·omega
 ·rw[if_neg g]
  have m:0<=mf M.nw t.sn:=by unfold mf;omega
  have p:0<=mf M.nw t.sn/(M.ag:Int):=Int.ediv_nonneg m z_
  omega
def SX.rr (h:SX w e W c a P n q T M sb b l O0) (hl:l.length<=10000) (hp:b<P) (B:Int) (hd:0<=B/\B<18446744073709551616) (hr:(M.pc b).r= -1) (g3:(bb P (gh M.pl) (b:Int) B).isSome=true) (x:Nat) (hx:x<n) (g6:bI (gh M.pl) (bb P (gh M.pl) (b:Int) B)=(x:Int)):
  aB 76 #[ak sb,aj B] W fun z E=>z= .panicked ed/\SX w e E c a P n q (T+1) (fV P n M b x B) sb b (l++[⟨3,(b:Int),(M.th x).p,(M.th x).g,bA (bb P (gh M.pl) (b:Int) B),0⟩]) O0:=by
 obtain⟨t,ht⟩: ∃t,M.th x=t:=⟨_,rfl⟩
 have h7:(x:Int)<n:=z_
 have a6:t.ok:=by rw[<-ht];exact h.tok hx
 have g7:=Jp M t a6
 obtain⟨ag,a3⟩: ∃ag:Nat,dC M t=(ag:Int):=⟨(dC M t).toNat,z_⟩
 rw[ht]
 have b9:Hid (∀V,SX w e V c a P n q (T+1) (EP P M b B) sb b l O0->aB 94 #[ak a.tb,.agg #[ab t.p,aM t.g],ab 2] V fun z E=>(∃C:Int,z= .returned (ab C))/\SX w e E c a P n q (T+1) (qK P n M b x B) sb b l O0):=fun V h=>by
  unfold qK
  rw[ht]
  exact h.lift (R:=fun z=> ∃C:Int,z= .returned (ab C)) fun _ y=>y.goes.move t.p t.g 2
 have e8:Hid (∀V,SX w e V c a P n q (T+1) (qK P n M b x B) sb b l O0->aB 124 #[ak a.m,.agg #[.int .i64 t.p,.int .u32 t.g,.int .i64 t.pg,.int .u8 t.lv,.int .u8 t.lf,.int .i64 t.sv,.int .i64 t.pc,.int .i64 t.ia,.int .i64 t.il,.int .u64 t.sn]] V fun z E=>z= .returned (aA ag)/\SX w e E c a P n q (T+1) (qK P n M b x B) sb b l O0):=fun V h=>by
  rw[<-a3]
  exact h.Kx (R:=fun z=>z=_) fun _ y=>y.Oq t a6
 have e3:Hid (∀V,SX w e V c a P n q (T+1) (qK P n M b x B) sb b l O0->SX w e ((V.setCell (af a.th (x*10+6)) (ab b)).setCell (af a.th (x*10+4)) (aA ag)) c a P n q (T+1) (sw P n M b x B) sb b l O0):=fun V h=>by
  have z:(dC M (M.th x)).toNat=ag:=y_
  unfold sw
  rw[z]
  exact h.goes fun _ y=>y.IA hx (b:Int) ag z_
 have e2:Hid (∀V,SX w e V c a P n q (T+1) (sw P n M b x B) sb b l O0->SX w e (((V.setCell (af a.pr (b*3)) (ab x)).setCell (af a.pr (b*3+1)) (aj 0)).setCell (af a.pr (b*3+2)) (.bool false)) c a P n q (T+1) (fV P n M b x B) sb b l O0):=fun V h=>h.goes fun _ y=>y.Hy hp (x:Int) 0 x_ false
 have h6:=aa fun ba V (h:SX w e V c a P n q (T+1) (fV P n M b x B) sb b l O0)=>h.end_ hl 3 t.p t.g ba
 have b3:Hid (∀V f,f.th x=t->SX w e V c a P n q (T+1) f sb b l O0->(V.cell? (ao sb)=some (ak a.m)/\V.cell? (af a.m 5)=some (ak a.tb)/\V.cell? (af a.th (x*10))=some (ab t.p)/\V.cell? (af a.th (x*10+1))=some (aM t.g))/\V.cell? (af a.m 4)=some (.slice (some (ao a.th)) n a.xt)/\V.cell? (af sb 1)=some (ab b)/\bC V a.th (x*10) t/\ ∀o,V.frozen? (af a.th o)=false):=fun V f z h=>⟨⟨h.c0,h.core.c5,by rw[<-z];exact(h.tr hx).c0,by rw[<-z];exact(h.tr hx).c1⟩,h.core.c4,h.c1,by rw[<-z];exact h.tr hx,h.Gb⟩
 have c9:Hid (∀V,SX w e V c a P n q (T+1) (sw P n M b x B) sb b l O0->V.cell? (af sb 2)=some (.pointer (some (af a.pr (b*3))))/\iu V a.pr (b*3) (M.pc b)/\ ∀o,V.frozen? (af a.pr o)=false):=fun V h=>⟨h.c2,h.pc hp,h.yS⟩
 have h5:Hid (∀V,SX w e V c a P n q (T+1) (fV P n M b x B) sb b l O0->V.cell? (af a.th (x*10))=some (ab t.p)/\V.cell? (af a.th (x*10+1))=some (aM t.g)):=fun V h=>by
  have z:(fV P n M b x B).th x={t with pc:=(b:Int),lf:=(dC M t).toNat}:=by unfold fV sw;grind[ay]
  have:=h.tr hx
  rw[z] at this
  exact⟨this.c0,this.c1⟩
 have J: ¬a.th=sb:=fun z=>by
  obtain⟨u,v,s⟩:=h.sp
  have h1:=s.ls
  rw[<-z,s.at_.i.lth] at h1
  cases h1
 have b7:(EP P M b B).th x=t:=ht
 have b6:(qK P n M b x B).th x=t:=ht
 have G:=aa (fun V h=>b3.out V _ b7 h)
 have Y:=aa (fun V h=>b3.out V _ b6 h)
 have h8:=fun w=>Ig (x:Int) w
 clear b3 b7 b6 ht a6 g7 a3
 obtain⟨O,hs,L⟩:=h.base
 have a9:Hid (∀V,aC W V->aB 122 #[ak a.pb,ab b,aj B] V fun z E=>z=aS #[ab (bI (gh M.pl) (bb P (gh M.pl) (b:Int) B)),.agg (bn (bK (gh M.pl) (bb P (gh M.pl) (b:Int) B))),ab (bA (bb P (gh M.pl) (b:Int) B)),.bool (bb P (gh M.pl) (b:Int) B).isSome]/\ ∃F,SG w E c a P n q (T+1) (EP P M b B) sb b l F/\(W.heap.size<V.heap.size-> ¬F W.heap.size)/\Fr O W E/\(∀u,u<W.heap.size->F u->O u)/\(gv V W.heap.size->gv E W.heap.size)):=fun V hb=>by
  have hV:=hs.below hb
  have hn: ¬O W.heap.size:=fun q=>by have:=hs.lt q;omega
  obtain⟨lk,v,s,ho⟩:=id hV
  refine(s.at_.i.take (b:Int) B hd).mono ?_
  rintro z E ⟨rfl,I⟩
  obtain⟨Z,A,hl,hf⟩:=s.at_.step I
  have g5:=Classical.byContradiction fun q=>hn ((ho _).2 (.inl q))
  have g4:=fun u (hk:u<V.heap.size) (q:(Z u≠0\/u=sb\/v.ownBlock=some u))=>(ho u).2 (by
   grind)
  refine⟨rfl,_,⟨Z,v,s.keep A hl (fun D hb hl=>hf.box hl hb),fun _=>Iff.rfl⟩,?_,(dd hb).then hf (fun u hk q=>(ho u).2 (.inl q)),fun u hk q=>g4 u (i8 hk hb.size) q,fun kn=> ?_⟩
  ·grind
  ·have z:=hf.box g5 (i7 V _ kn.c0)
   exact⟨(i5 z).trans kn.c0,(i5 z).trans kn.c1,(i5 z).trans kn.c2,(zV0 z).trans kn.f0,(zV0 z).trans kn.f1,(zV0 z).trans kn.f2⟩
 have HC:Hid (∀V f i,∀F,SG w V c a P n q i f sb b l F->V.cell? (ao sb)=some (ak a.m)/\V.cell? (af sb 1)=some (ab b)/\V.cell? (af a.m 8)=some (ak a.pb)):=fun V f i F h=>⟨h.sx.c0,h.sx.c1,h.sx.core.c8⟩
 have a7:=hs.wl
 have a8:=aa L
 have HS:=aa hs
 have H0:=aa (i4 W.heap.size W)
 have c3:=aa (gv.new W)
 obtain⟨c0,c1,c8⟩:=HC.out _ _ _ _ hs
 have c2:=h.c2
 have r0:=(h.pc hp).c0
 have n1: ¬sb=W.heap.size:=by have:sb<W.heap.size:=i7 W _ c0;omega
 have n2: ¬W.heap.size=sb:=fun z=>n1 z.symm
 have n3: ¬a.m=W.heap.size:=by have:a.m<W.heap.size:=i7 W _ c8;omega
 have n4: ¬W.heap.size=a.m:=fun z=>n3 z.symm
 rw[hr] at r0
 clear h hs L hr
 generalize bI (gh M.pl) (bb P (gh M.pl) (b:Int) B)=bi at*
 generalize bK (gh M.pl) (bb P (gh M.pl) (b:Int) B)=bk at*
 generalize bA (bb P (gh M.pl) (b:Int) B)=ba at*
 generalize (bb P (gh M.pl) (b:Int) B).isSome=ok at*
 have e7:=aa fun H F i f (o:Obj) (h1:SG w H c a P n q i f sb b l F) (h2:Fr O W H) (h3:(∀u,u<W.heap.size->F u->O u))=>a8.out _ _ _ _ ⟨F,h1.below bq,h2.then (dd (S:=fun _=>False) ((i4 H.heap.size H).alloc aT o)) (fun _ _ q=>q.elim),h3⟩
 have e6:=aa fun H F i f u0 u1 u2 (h1:SG w H c a P n q i f sb b l F) (hn: ¬F W.heap.size) (h2:Fr O W H) (h3:(∀u,u<W.heap.size->F u->O u))=>a8.out _ _ _ _ ⟨F,((h1.gw hn a7 0 u0).gw hn a7 1 u1).gw hn a7 2 u2,h2.then ((((Fr.refl (fun u=>u=W.heap.size) H).setCell (a:=(ao W.heap.size)) rfl u0).setCell (a:=(af W.heap.size 1)) rfl u1).setCell (a:=(af W.heap.size 2)) rfl u2) (fun u hk q=>by omega),h3⟩
 refine ge ?_
 go_wp2
 go_region_held3 (fun E=>E.cell? (ao sb)=some (ak a.m)/\E.cell? (af sb 1)=some (ab b)/\E.cell? (af a.m 8)=some (ak a.pb))
  (first|exact HC.out _ _ _ _ HG1.out|exact HC.out _ _ _ _ (HG1.out.below bq)|go_keep)
  (first
   |(go_at_call 122;refine(a9.out _ (by exact aK H0.out rfl rfl rfl rfl)).mono ?_;rintro z H ⟨rfl,F,I,_,Q,N,_⟩;have HG1:=aa I;have G:=aa Q;have X:=aa N;clear I Q N)
   |(go_at_call 122;refine(a9.out _ (by exact aK ((i4 W.heap.size W).alloc aT _) rfl rfl rfl rfl)).mono ?_;rintro z H ⟨rfl,F,I,a2,Q,N,b8⟩;have HG1:=aa I;have h4:=aa a2;have G:=aa Q;have X:=aa N;obtain⟨e9,r1,r2,f0,f1,f2⟩:=b8 (c3.out.kept (by exact bp cj rfl rfl rfl rfl));clear I a2 Q N b8))
 all_goals (rename_i hHeld;clear hHeld)
 all_goals first
  |(have HX:=aa (e6.out H F _ _ (.bool bk.e) (aj bk.d) (aA bk.l) HG1.out (h4.out q_) G.out X.out);clear e9 r1 r2 f0 f1 f2;generalize ((H.setCell (ao W.heap.size) (.bool bk.e)).setCell (af W.heap.size 1) (aj bk.d)).setCell (af W.heap.size 2) (aA bk.l)=Wc at*)
  |(have HX:=aa (e7.out H F _ _ (.cells (bn bk) 120) HG1.out G.out X.out);generalize H.alloc (.cells (bn bk) 120)=Wc at*)
 all_goals clear c0 c1 c8 n1 n2 n3 n4 c2 r0 HG1 G X e7 e6 a9 HC c3 H0 HS a8
 all_goals subst g3
 all_goals subst g6
 all_goals obtain⟨⟨a0,a5,ap,h0⟩,a4,a1,_,_⟩:=G.out _ HX.out
 all_goals go_upto_region 5 with fail
 all_goals go_region_held3 (fun E=>E.cell? (ao sb)=some (ak a.m)/\E.cell? (af a.m 5)=some (ak a.tb)/\E.cell? (af a.th (x*10))=some (ab t.p)/\E.cell? (af a.th (x*10+1))=some (aM t.g))
  (first|exact(Y.out _ HG2.out).1|go_keep)
  (first
   |(go_at_call 94;refine(b9.out _ (by exact SX.dc HX.out rfl rfl rfl rfl)).mono ?_;rintro z w2 ⟨⟨C,rfl⟩,I⟩;have HG2:=aa I;clear I))
 all_goals clear a0 a5 ap h0 a4 a1 HX G b9
 all_goals (rename_i hHeld;clear hHeld)
 all_goals obtain⟨⟨b0,b5,g9,bg⟩,b4,b1,⟨d0,d1,d2,d3,d4,d5,d6,d7,d8,d9⟩,fz⟩:=Y.out _ HG2.out
 all_goals go_upto_region 6 with fail
 all_goals
  refine wp_region_held_drew (S:=(fun E=>E.cell? (af sb 1)=some (ab b)/\E.cell? (ao sb)=some (ak a.m))) (by rfl) ?_ (fun hHeld=> ?_)
  ·simp_all
  refine st ?_
  repeat' first
   |refine dn ?_
   |refine tk ?_
   |refine rd ?_
   |exact oA
   |refine oE ?_
   |refine oC ?_ ?_
   | (refine dU 13 (fun K U=> ?_)
      go_simp
      go_at_call 124
      refine(e8.out _ (by exact SX.dc HG2.out rfl rfl rfl rfl)).mono ?_
      rintro z w3 ⟨rfl,I⟩
      have c7:=aa I
      obtain⟨⟨e0,e5,ep,eg⟩,e4,e1,⟨f0,f1,f2,f3,f4,f5,f6,f7,f8,f9⟩,g8⟩:=Y.out _ I
      clear I
      refine U.out _ _ ?_ (fun hHeld=> ?_)
      ·grind
      clear U K
      try simp only[cV])
   | (refine dU _ (fun K U=> ?_)
      go_simp
      refine U.out _ _ ?_ (fun hHeld=> ?_)
      ·omega
      clear U K
      try simp only[cV])
   | (refine dU _ (fun K U=> ?_)
      go_simp
      refine U.out _ _ ?_ (fun hHeld=> ?_)
      ·exact⟨(Gt.aw _ _ _ _ _ _ (fun q=>J q.1)).trans e1,(Gt.aw _ _ _ _ _ _ (fun q=>J q.1)).trans e0⟩
      clear U K
      try simp only[cV])
   | (refine dU _ (fun K U=> ?_)
      go_simp
      refine U.out _ _ ?_ (fun hHeld=> ?_)
      ·exact⟨(Gt.aw _ _ _ _ _ _ (fun q=>J q.1)).trans ((Gt.aw _ _ _ _ _ _ (fun q=>J q.1)).trans e1),(Gt.aw _ _ _ _ _ _ (fun q=>J q.1)).trans ((Gt.aw _ _ _ _ _ _ (fun q=>J q.1)).trans e0)⟩
      clear U K
      try simp only[cV])
  refine⟨?_⟩
  have b2:=aa (e3.out _ c7.out)
  clear d0 d1 d2 d3 d4 d5 d6 d7 d8 d9 fz b0 b5 g9 bg b4 b1 e0 e5 ep eg e4 e1 f0 f1 f2 f3 f4 f5 f6 f7 f8 f9 g8 HG2 c7 Y e8 e3
  generalize (w3.setCell (af a.th (x*10+6)) (ab b)).setCell (af a.th (x*10+4)) (aA ag)=w4 at*
  obtain⟨g2,⟨g0,g1,gm⟩,gf⟩:=c9.out _ b2.out
  go_upto_region 8 with fail
  have c6:=aa (e2.out _ b2.out)
  clear g0 g1 gm gf g2 c9 b2 e2
  generalize ((w4.setCell (af a.pr (b*3)) (ab x)).setCell (af a.pr (b*3+1)) (aj 0)).setCell (af a.pr (b*3+2)) (.bool false)=w5 at*
  obtain⟨i0,i1⟩:=h5.out _ c6.out
  go_wp2_with (go_at_call 123;refine cH (h6.out _ _ c6.out) fun w6 HG=> ?_)
  simp[bodyPost]
  exact HG.out
end
section
variable {w W m:World} {d j:Nat->Nat} {a:Ad} {P n q T k:Nat} {M o:Mc} {sb b:Nat} {l:List Ev} {v:Value} {O O0:Nat->Prop} {e:World}
def SG.qT (h:SG w W d a P n q T M sb b l O) (hl:l.length<=10000) (x:Nat) (hx:x<n) (B Z H:Int) (c5:H≠0):
  aB 166 #[ak sb,.pointer (some (af a.th (x*10))),.agg #[ab B,ab Z],ab H] W fun y V=>y= .panicked ed/\SX w W V d a P n q T M sb b (l++[⟨6,(b:Int),(M.th x).p,(M.th x).g,B,H⟩]) O:=by
 obtain⟨j,v,I,hO⟩:=h
 obtain⟨t,ht⟩: ∃t,M.th x=t:=⟨_,rfl⟩
 rw[ht]
 have E:aC W (W.alloc (.cells #[ab B,ab Z] 83)):=bq
 have s0:=I.below E
 have k0:=bB W #[ab B,ab Z] 83 0 _ rfl
 have t0:(W.alloc (.cells #[ab B,ab Z] 83)).cell? (af a.th (x*10))=some (ab t.p):=by rw[<-ht];exact(s0.at_.i.th.at_ x hx).c0
 have t1:(W.alloc (.cells #[ab B,ab Z] 83)).cell? (af a.th (x*10+1))=some (aM t.g):=by rw[<-ht];exact(s0.at_.i.th.at_ x hx).c1
 have J: ¬sb=W.heap.size:=by have:=I.lt;omega
 have b2: ¬W.heap.size=sb:=fun y=>J y.symm
 have N: ¬sb=a.th:=fun y=>by have h1:=I.ls;rw[y,I.at_.i.lth] at h1;cases h1
 have b9: ¬a.th=sb:=fun y=>N y.symm
 have c3:=I.c3
 have hv:=I.hv
 have hk:=I.hk
 have a8:=aa E
 have a3: ∀r,v.ownBlock=some r->r≠W.heap.size:=fun r y=>by have:=(hv.lt y).1;omega
 have a2: ∀r,v.ownBlock=some r->r≠a.th:=fun r y q=>by have h1:=(hk r y).1;rw[q,I.at_.i.lth] at h1;cases h1
 replace c3:=kc E c3
 replace hv:=hv.below E
 clear I E ht
 generalize hW:W.alloc (.cells #[ab B,ab Z] 83)=e at*
 have HW:=aa hW
 clear hW
 have p1:=s0.c1
 obtain⟨ad,C,rfl⟩:=Cb.aJ hv
 obtain⟨ev,R⟩: ∃ev:Ev,(⟨6,(b:Int),t.p,t.g,B,H⟩:Ev)=ev:=⟨_,rfl⟩
 have A:aC e (e.alloc (.cells #[ab 6,ab b,ab t.p,aM t.g,ab B,ab H] 80)).drew:=((i4 _ e).alloc aT _).drew
 have Y:=s0.below A
 have c4:=kc A c3
 have q1:=kc A p1
 have m0:=kc A k0
 have u0:=kc A t0
 have u1:=kc A t1
 have b5:Hid ((e.alloc (.cells #[ab 6,ab b,ab t.p,aM t.g,ab B,ab H] 80)).drew.ownsRow w.heap.size 80 6 (.slice ad l.length C) l.length (bF l)):=Y.hv
 have b6:Hid (∀s u,(cD ev)[s]? =some u->(e.alloc (.cells #[ab 6,ab b,ab t.p,aM t.g,ab B,ab H] 80)).drew.cell? (((ao e.heap.size):Addr).add s)=some u):=by
  rw[<-R]
  exact Cb.gG (w1:=e) (c:=cD ⟨6,(b:Int),t.p,t.g,B,H⟩) rfl
 have b8:=aa Y.at_.f.size
 generalize a6:(e.alloc (.cells #[ab 6,ab b,ab t.p,aM t.g,ab B,ab H] 80)).drew=W1 at*
 have a7:Hid (∀X D,D.ownsRow w.heap.size 80 6 X (l.length+1) (bF l++cD ev)->W1.grownBy D (Value.slice ad l.length C).ownBlock->(X.ownBlock=(Value.slice ad l.length C).ownBlock\/X.ownBlock=some W1.heap.size)->(SX w W (D.setCell (af sb 3) X) d a P n q T M sb b (l++[ev]) O/\D.cell? (af sb 3)=some (.slice ad l.length C)/\D.frozen? (af sb 3)=false)/\(D.cell? (af sb 1)=some (ab b)/\D.cell? (ao W.heap.size)=some (ab B)/\D.cell? (af a.th (x*10))=some (ab t.p)/\D.cell? (af a.th (x*10+1))=some (aM t.g))):=fun X D ho hg a5=>by
  refine⟨⟨((Y.told ho hg a5).1 O hO).ahead (bt a8.out A),(Y.told ho hg a5).2⟩,?_⟩
  have U:=fun z (hb:z<W1.heap.size) (hn:(Value.slice ad l.length C).ownBlock≠some z)=>hg.block z hb (fun y=>hn y.symm)
  have e1:=U sb Y.lt (fun y=>(hk sb y).2 rfl)
  have e2:=U W.heap.size (i7 W1 _ m0) (fun y=>a3 W.heap.size y rfl)
  have e3:=U a.th (i7 W1 _ u0) (fun y=>a2 a.th y rfl)
  exact⟨(i5 e1).trans q1,(i5 e2).trans m0,(i5 e3).trans u0,(i5 e3).trans u1⟩
 have b4:=aa a6
 have b7:=aa R
 clear a6 R
 obtain⟨i0,b3,b1,b0,a9⟩:=Cb.info_parts nI
 have c2:(H !=0)=true:=y_
 clear hv hk a3 a2 s0 Y A hO a8
 unfold ed
 refine ge ?_
 go_upto_region 2 with fail
 rw[HW.out]
 refine wp_region_held_drew (S:=(fun V=>V.cell? (af sb 1)=some (ab b)/\V.cell? (ao W.heap.size)=some (ab B)/\V.cell? (af a.th (x*10))=some (ab t.p)/\V.cell? (af a.th (x*10+1))=some (aM t.g))) (by rfl) ?_ (fun hHeld=> ?_)
 ·simp_all
 refine st ?_
 repeat' first
  |refine dn ?_
  |refine tk ?_
  |refine rd ?_
  |exact oA
  |refine oE ?_
  |refine oC ?_ ?_
  | (refine dU 17 (fun K G=> ?_)
     go_simp
     rw[b4.out]
     refine G.out _ _ ?_ (fun hHeld=> ?_)
     ·grind
     clear G K
     try simp only[cV])
  | (refine dU 18 (fun K G=> ?_)
     refine cC _ (by rfl) _ _ _ (by rfl) w.heap.size 80 i0 (.agg #[ab 0,ab 0,ab 0,aM 0,ab 0,ab 0]) 6 48 Tryz.underlying38 b3 b1 b0 a9 rfl z_ (.slice ad l.length C) l.length (bF l) (by rfl) b5.out (ao e.heap.size) 1 1 (cD ev) (by rfl) rfl b6.out (eV _) (by unfold maxLen;omega) z_ b8.out ?_
     intro X D Q a4 L
     obtain⟨⟨a0,y1,y2⟩,F⟩:=a7.out _ _ Q a4 L
     obtain⟨a1,d1,rfl⟩:=Cb.aJ Q
     have HX:=aa a0
     clear a0 Q a4 L
     refine G.out _ _ ?_ (fun hHeld=> ?_)
     ·exact F
     clear G K
     try simp only[cV])
  | (refine dU _ (fun K G=> ?_)
     go_simp
     refine G.out _ _ ?_ (fun hHeld=> ?_)
     ·omega
     clear G K
     try simp only[cV])
  | (refine dU _ (fun K G=> ?_)
     go_simp
     refine G.out _ _ ?_ (fun hHeld=> ?_)
     ·exact⟨(aI D x_).trans F.1,(Gt.aw _ _ _ _ _ _ (fun q=>J q.1)).trans F.2.1,(Gt.aw _ _ _ _ _ _ (fun q=>N q.1)).trans F.2.2.1,(Gt.aw _ _ _ _ _ _ (fun q=>N q.1)).trans F.2.2.2⟩
     clear G K
     try simp only[cV])
 all_goals
  refine⟨?_⟩
  go_wp2
  simp[bodyPost]
  rw[b7.out]
  exact HX.out
def SX.ie (h:SX w e W d a P n q T M sb b l O0) (u:l.length<=10000) (x:Nat) (t:x<n) (f i:Int):
  aB 166 #[ak sb,.pointer (some (af a.th (x*10))),.agg #[ab f,ab i],ab 0] W fun c r=>c=aS #[]/\SX w e r d a P n q T M sb b (l++[⟨5,(b:Int),(M.th x).p,(M.th x).g,f,0⟩]) O0:=h.call (R:=fun c=>c=aS #[]) fun _ s=>s.ie u x t f i
def SX.qT (h:SX w e W d a P n q T M sb b l O0) (z:l.length<=10000) (x:Nat) (y:x<n) (i t f:Int) (r:f≠0):
  aB 166 #[ak sb,.pointer (some (af a.th (x*10))),.agg #[ab i,ab t],ab f] W fun c u=>c= .panicked ed/\SX w e u d a P n q T M sb b (l++[⟨6,(b:Int),(M.th x).p,(M.th x).g,i,f⟩]) O0:=h.call (R:=fun c=>c= .panicked ed) fun _ s=>s.qT z x y i t f r
end
section
variable {w W k:World} {b j:Nat->Nat} {a:Ad} {P n q T f:Nat} {M i:Mc} {c d:Nat} {l:List Ev} {v:Value} {O O0:Nat->Prop} {e:World}
def SX.x5 (h:SX w e W b a P n q T M c d l O0) (lk:Int):
  aB 167 #[ak c,ab (-1),ab lk] W fun g m=>g=aS #[]/\SX w e m b a P n q T M c d l O0:=by
 have o:=aa h
 clear h
 refine ge ?_
 go_wp2
 simp[bodyPost,results,Tryz.results167,go_sem]
 exact o.out
def SG.rU (h:SG w W b a P n q T M c d l O) (Q:l.length<=10000) (S:T+n<=1000000000) (x:Nat) (F:x<n) (lk:Int):
  aB 167 #[ak c,ab x,ab lk] W fun r A=>r=aS #[]/\SX w W A b a P n q (T+n+1) (ready P n q M x (M.th x).pc) c d (l++[⟨8,(d:Int),(M.th x).p,(M.th x).g,lk,0⟩]) O:=by
 obtain⟨t,C⟩: ∃t,M.th x=t:=⟨_,rfl⟩
 have N:(x:Int)<n:=z_
 have L:((x:Int)== -1)=false:=q_
 rw[C]
 have u:aC W (W.alloc (.cells #[.int .i64 t.p,.int .u32 t.g,.int .i64 t.pg,.int .u8 t.lv,.int .u8 t.lf,.int .i64 t.sv,.int .i64 t.pc,.int .i64 t.ia,.int .i64 t.il,.int .u64 t.sn] 130)):=bq
 have H:=(h.below u).sx
 have y: ¬O W.heap.size:=fun q=>by have:=h.lt q;omega
 have s:=h.sx
 have c0:=s.c0
 have c4:=s.core.c4
 obtain⟨d0,d1,d2,d3,d4,d5,d6,d7,d8,d9⟩:bC W a.th (x*10) t:=by rw[<-C];exact s.tr F
 have B:=bC.new W t
 have D:=aa u
 clear u s h
 generalize G:W.alloc (.cells #[.int .i64 t.p,.int .u32 t.g,.int .i64 t.pg,.int .u8 t.lv,.int .u8 t.lf,.int .i64 t.sv,.int .i64 t.pc,.int .i64 t.ia,.int .i64 t.il,.int .u64 t.sn] 130)=e at*
 have U:=aa G
 clear G
 have X:=aa<|H.tell Q 8 t.p t.g lk
 have Y:=aa fun V (h:SX w e V b a P n q T M c d (l++[⟨8,(d:Int),t.p,t.g,lk,0⟩]) O)=>h.lift (R:=fun r=>r=aS #[]) fun _ o=>o.goes.ready S x F t.pc
 have J:=B.c6
 have k0:=B.c0
 have k1:=B.c1
 have I:Hid (∀V f i E,SX w e V b a P n q f i c d E O->V.cell? (ao c)=some (ak a.m)/\V.cell? (af W.heap.size 6)=some (ab t.pc)):=fun V f i E h=>⟨h.c0,h.keep y J⟩
 clear H B C y
 refine ge ?_
 go_upto_region 2 with fail
 rw[U.out]
 go_upto_region 3 with (first
  |(go_at_call 120;refine cH X.out fun w1 z=> ?_))
 obtain⟨y0,Z⟩:=I.out _ _ _ _ z.out
 go_region_held3 (fun A=>A.cell? (ao c)=some (ak a.m)/\A.cell? (af W.heap.size 6)=some (ab t.pc))
  (first|exact I.out _ _ _ _ HG2.out|go_keep)
  (first
   |(go_at_call 50;refine cH (Y.out _ (by exact SX.dc z.out rfl rfl rfl rfl)) fun w2 HG2=> ?_))
 go_wp2
 go_end0
 exact⟨rfl,HG2.out.ahead D.out⟩
def SX.rU (h:SX w e W b a P n q T M c d l O0) (t:l.length<=10000) (u:T+n<=1000000000) (x:Nat) (r:x<n) (lk:Int):
  aB 167 #[ak c,ab x,ab lk] W fun m o=>m=aS #[]/\SX w e o b a P n q (T+n+1) (ready P n q M x (M.th x).pc) c d (l++[⟨8,(d:Int),(M.th x).p,(M.th x).g,lk,0⟩]) O0:=h.call (R:=fun m=>m=aS #[]) fun _ s=>s.rU t u x r lk
end
section
variable {w W j:World} {b f:Nat->Nat} {a:Ad} {P n q T T':Nat} {M M':Mc} {d c:Nat} {l:List Ev} {v:Value} {O i:Nat->Prop} {e:World}
theorem ax.lock (h:ax W f a P n q T M) (t m:Int):
  aB 190 #[ak a.gb,ab t,ab m] W fun g k=>g=aS #[.bool (Pi.cU M.gr t m).1.1,ab (Pi.cU M.gr t m).1.2]/\aD W k f a P n q T {M with gr:=(Pi.cU M.gr t m).2}:=by
 grind[ax.gr,Pi.PG.lock,Calls.mono,ax.JA]
theorem ax.unlock (h:ax W f a P n q T M) (t m:Int):
  aB 165 #[ak a.gb,ab t,ab m] W fun g k=>g=aS #[ab (Pi.bM M.gr t m).1.1,ab (Pi.bM M.gr t m).1.2]/\aD W k f a P n q T {M with gr:=(Pi.bM M.gr t m).2}:=by
 grind[ax.gr,Pi.PG.unlock,Calls.mono,ax.JA]
noncomputable def dE (M:Mc) (x:Nat) (m:Int):Mc:={M with gr:=(Pi.cU M.gr (M.th x).p m).2}
def SG.Ik (h:SG w W b a P n q T M d c l O) (hl:l.length<=9000) (hp:c<P) (x:Nat) (D:x<n) (u r:Int) (E:(Pi.cU M.gr (M.th x).p r).1.2≠0):
  aB 164 #[ak d,.pointer (some (af a.th (x*10))),.agg #[ab u,ab r]] W fun o s=>o= .panicked ed/\SX w W s b a P n q T (dE M x r) d c (l++[⟨6,(c:Int),(M.th x).p,(M.th x).g,u,(Pi.cU M.gr (M.th x).p r).1.2⟩]) O:=by
 obtain⟨t,C⟩: ∃t,M.th x=t:=⟨_,rfl⟩
 rw[C]
 have B:aC W (W.alloc (.cells #[ab u,ab r] 83)):=bq
 have F:=(h.below B).sx
 have A: ¬O W.heap.size:=fun q=>by have:=h.lt q;omega
 have k0:=bB W #[ab u,ab r] 83 0 _ rfl
 have k1:=bB W #[ab u,ab r] 83 1 _ rfl
 have L:=aa B
 clear B h
 generalize Q:W.alloc (.cells #[ab u,ab r] 83)=e at*
 have HW:=aa Q
 clear Q
 obtain⟨res,y⟩: ∃res,Pi.cU M.gr t.p r=res:=⟨_,rfl⟩
 have H:Hid (∀V,SX w e V b a P n q T M d c l O->aB 190 #[ak a.gb,ab t.p,ab r] V fun o s=>o=aS #[.bool res.1.1,ab res.1.2]/\SX w e s b a P n q T (dE M x r) d c l O):=fun V h=>by
  unfold dE
  rw[C,<-y]
  exact h.lift (R:=fun o=>o=_) fun _ k=>k.lock t.p r
 have z:(dE M x r).th x=t:=C
 have J:Hid (∀V M' N,M'.th x=t->SX w e V b a P n q T M' d c N O->(V.cell? (ao d)=some (ak a.m)/\V.cell? (af a.m 7)=some (ak a.gb)/\V.cell? (af a.th (x*10))=some (ab t.p)/\V.cell? (af W.heap.size 1)=some (ab r))/\V.cell? (af a.th (x*10+1))=some (aM t.g)/\V.cell? (ao W.heap.size)=some (ab u)):=fun V M' N o h=>⟨⟨h.c0,h.core.c7,by rw[<-o];exact(h.tr D).c0,h.keep A k1⟩,by rw[<-o];exact(h.tr D).c1,h.keep A k0⟩
 obtain⟨⟨Z,X,U,Y⟩,S,_⟩:=J.out _ _ _ C F
 have H0:=aa F
 rw[C] at E
 rw[y] at E|-
 have G:=aa fun V (h:SX w e V b a P n q T (dE M x r) d c l O)=>by
  have:=h.qT z_ x D u r res.1.2 E
  rw[z] at this
  exact this
 clear F C A
 refine ge ?_
 go_wp2
 rw[HW.out]
 go_region_held3 (fun s=>s.cell? (ao d)=some (ak a.m)/\s.cell? (af a.m 7)=some (ak a.gb)/\s.cell? (af a.th (x*10))=some (ab t.p)/\s.cell? (af W.heap.size 1)=some (ab r))
  (first|exact(J.out _ _ _ z HG1.out).1|go_keep)
  (first
   |(go_at_call 190;refine cH (H.out _ (by exact SX.dc H0.out rfl rfl rfl rfl)) fun w1 HG1=> ?_))
 (rename_i hHeld;clear hHeld)
 clear Z X U Y S
 obtain⟨⟨Z,X,U,Y⟩,S,e0⟩:=J.out _ _ _ z HG1.out
 generalize res.1.1=a0 at*
 go_wp2_with (go_at_call 166;refine cH (G.out _ HG1.out) fun w2 I=> ?_)
 simp[bodyPost]
 exact I.out.ahead L.out
def SG.EM (h:SG w W b a P n q T M d c l O) (hl:l.length<=9000) (hp:c<P) (x:Nat) (Q:x<n) (u r:Int) (F:(Pi.cU M.gr (M.th x).p r).1=(true,0)):
  aB 164 #[ak d,.pointer (some (af a.th (x*10))),.agg #[ab u,ab r]] W fun o s=>o= .panicked ed/\SX w W s b a P n q T (dE M x r) d c (l++[⟨5,(c:Int),(M.th x).p,(M.th x).g,u,0⟩]++[⟨8,(c:Int),(M.th x).p,(M.th x).g,r,0⟩]) O:=by
 obtain⟨t,C⟩: ∃t,M.th x=t:=⟨_,rfl⟩
 rw[C]
 have B:aC W (W.alloc (.cells #[ab u,ab r] 83)):=bq
 have U:=(h.below B).sx
 have A: ¬O W.heap.size:=fun q=>by have:=h.lt q;omega
 have k0:=bB W #[ab u,ab r] 83 0 _ rfl
 have k1:=bB W #[ab u,ab r] 83 1 _ rfl
 have Z:=aa B
 clear B h
 generalize hW:W.alloc (.cells #[ab u,ab r] 83)=e at*
 have HW:=aa hW
 clear hW
 obtain⟨res,z⟩: ∃res,Pi.cU M.gr t.p r=res:=⟨_,rfl⟩
 have D:Hid (∀V,SX w e V b a P n q T M d c l O->aB 190 #[ak a.gb,ab t.p,ab r] V fun o s=>o=aS #[.bool res.1.1,ab res.1.2]/\SX w e s b a P n q T (dE M x r) d c l O):=fun V h=>by
  unfold dE
  rw[C,<-z]
  exact h.lift (R:=fun o=>o=_) fun _ k=>k.lock t.p r
 have y:(dE M x r).th x=t:=C
 have N:Hid (∀V M' l',M'.th x=t->SX w e V b a P n q T M' d c l' O->(V.cell? (ao d)=some (ak a.m)/\V.cell? (af a.m 7)=some (ak a.gb)/\V.cell? (af a.th (x*10))=some (ab t.p)/\V.cell? (af W.heap.size 1)=some (ab r))/\V.cell? (af a.th (x*10+1))=some (aM t.g)/\V.cell? (ao W.heap.size)=some (ab u)):=fun V M' l' o h=>⟨⟨h.c0,h.core.c7,by rw[<-o];exact(h.tr Q).c0,h.keep A k1⟩,by rw[<-o];exact(h.tr Q).c1,h.keep A k0⟩
 obtain⟨⟨L,I,H,J⟩,G,_⟩:=N.out _ _ _ C U
 have H0:=aa U
 rw[C,z] at F
 have X:=aa fun V (h:SX w e V b a P n q T (dE M x r) d c l O)=>by
  have:=h.ie z_ x Q u r
  rw[y] at this
  exact this
 have Y:=aa fun V (h:SX w e V b a P n q T (dE M x r) d c (l++[⟨5,(c:Int),t.p,t.g,u,0⟩]) O)=>h.end_ y_ 8 t.p t.g r
 have eg:res.1.1=true:=by rw[F]
 have ee:res.1.2=0:=by rw[F]
 rw[eg,ee] at D
 clear eg ee F
 clear U C A
 refine ge ?_
 go_wp2
 rw[HW.out]
 go_region_held3 (fun s=>s.cell? (ao d)=some (ak a.m)/\s.cell? (af a.m 7)=some (ak a.gb)/\s.cell? (af a.th (x*10))=some (ab t.p)/\s.cell? (af W.heap.size 1)=some (ab r))
  (first|exact(N.out _ _ _ y HG1.out).1|go_keep)
  (first
   |(go_at_call 190;refine cH (D.out _ (by exact SX.dc H0.out rfl rfl rfl rfl)) fun w1 HG1=> ?_))
 (rename_i hHeld;clear hHeld)
 clear L I H J G
 obtain⟨⟨L,I,H,J⟩,G,e0⟩:=N.out _ _ _ y HG1.out
 go_upto_region 4 with (first
  |(go_at_call 166;refine cH (X.out _ HG1.out) fun w2 E=> ?_))
 clear L I H J G e0
 obtain⟨⟨L,I,H,J⟩,G,e0⟩:=N.out _ _ _ y E.out
 refine wp_region_held_drew (S:=(fun s=>s.cell? (af a.th (x*10))=some (ab t.p)/\s.cell? (af a.th (x*10+1))=some (aM t.g)/\s.cell? (af W.heap.size 1)=some (ab r))) (by rfl) ?_ (fun hHeld=> ?_)
 ·simp_all
 refine st ?_
 repeat' first
  |refine dn ?_
  |refine tk ?_
  |refine rd ?_
  |exact oA
  |refine oE ?_
  |refine oC ?_ ?_
  | (refine dU 7 (fun K hK=> ?_)
     go_simp
     go_at_call 123
     refine(Y.out _ (by exact SX.dc E.out rfl rfl rfl rfl)).mono ?_
     rintro o w3 ⟨rfl,hg⟩
     exact⟨rfl,rfl,hg.ahead Z.out⟩)
theorem SG.nH (h:SG w W b a P n q T M d c l O) (hl:l.length<=9000) (hp:c<P) (x:Nat) (I:x<n) (y r:Int) (J:(Pi.cU M.gr (M.th x).p r).1=(false,0)):
  aB 164 #[ak d,.pointer (some (af a.th (x*10))),.agg #[ab y,ab r]] W fun o u=>o=aS #[]/\SX w W u b a P n q T (jz {dE M x r with S:=cJ n M.G M.S (M.th x).p (M.th x).g 3} c (-1)) d c (l++[⟨5,(c:Int),(M.th x).p,(M.th x).g,y,0⟩]++[⟨7,(c:Int),(M.th x).p,(M.th x).g,r,0⟩]) O:=by
 obtain⟨t,D⟩: ∃t,M.th x=t:=⟨_,rfl⟩
 rw[D]
 have B:aC W (W.alloc (.cells #[ab y,ab r] 83)):=bq
 have Y:=(h.below B).sx
 have A: ¬O W.heap.size:=fun q=>by have:=h.lt q;omega
 have k0:=bB W #[ab y,ab r] 83 0 _ rfl
 have k1:=bB W #[ab y,ab r] 83 1 _ rfl
 have a4:=aa B
 clear B h
 generalize hW:W.alloc (.cells #[ab y,ab r] 83)=e at*
 have HW:=aa hW
 clear hW
 obtain⟨res,z⟩: ∃res,Pi.cU M.gr t.p r=res:=⟨_,rfl⟩
 have F:Hid (∀V,SX w e V b a P n q T M d c l O->aB 190 #[ak a.gb,ab t.p,ab r] V fun o u=>o=aS #[.bool res.1.1,ab res.1.2]/\SX w e u b a P n q T (dE M x r) d c l O):=fun V h=>by
  unfold dE
  rw[D,<-z]
  exact h.lift (R:=fun o=>o=_) fun _ k=>k.lock t.p r
 have s:(dE M x r).th x=t:=D
 have C:Hid (∀V M' E,M'.th x=t->SX w e V b a P n q T M' d c E O->(V.cell? (ao d)=some (ak a.m)/\V.cell? (af a.m 7)=some (ak a.gb)/\V.cell? (af a.th (x*10))=some (ab t.p)/\V.cell? (af W.heap.size 1)=some (ab r))/\V.cell? (af a.th (x*10+1))=some (aM t.g)/\V.cell? (ao W.heap.size)=some (ab y)):=fun V M' E o h=>⟨⟨h.c0,h.core.c7,by rw[<-o];exact(h.tr I).c0,h.keep A k1⟩,by rw[<-o];exact(h.tr I).c1,h.keep A k0⟩
 obtain⟨⟨X,Q,N,U⟩,L,_⟩:=C.out _ _ _ D Y
 have H0:=aa Y
 rw[D,z] at J
 have a1:=aa fun V (h:SX w e V b a P n q T (dE M x r) d c l O)=>by
  have:=h.ie z_ x I y r
  rw[s] at this
  exact this
 have Z:=aa fun V (h:SX w e V b a P n q T (dE M x r) d c (l++[⟨5,(c:Int),t.p,t.g,y,0⟩]) O)=>h.tell y_ 7 t.p t.g r
 have a2:Hid (∀V,SX w e V b a P n q T (dE M x r) d c (l++[⟨5,(c:Int),t.p,t.g,y,0⟩]++[⟨7,(c:Int),t.p,t.g,r,0⟩]) O->aB 170 #[ak d,.pointer (some (af a.th (x*10))),ab 3] V fun o u=>(o=aS #[]/\SX w e u b a P n q T (jz {dE M x r with S:=cJ n M.G M.S t.p t.g 3} c (-1)) d c (l++[⟨5,(c:Int),t.p,t.g,y,0⟩]++[⟨7,(c:Int),t.p,t.g,r,0⟩]) O)):=fun V h=>by
  have:=h.leave hp x I 3
  rw[s] at this
  exact this
 have eg:res.1.1=false:=by rw[J]
 have ee:res.1.2=0:=by rw[J]
 rw[eg,ee] at F
 clear eg ee J
 clear Y D A
 refine ge ?_
 go_wp2
 rw[HW.out]
 go_region_held3 (fun u=>u.cell? (ao d)=some (ak a.m)/\u.cell? (af a.m 7)=some (ak a.gb)/\u.cell? (af a.th (x*10))=some (ab t.p)/\u.cell? (af W.heap.size 1)=some (ab r))
  (first|exact(C.out _ _ _ s HG1.out).1|go_keep)
  (first
   |(go_at_call 190;refine cH (F.out _ (by exact SX.dc H0.out rfl rfl rfl rfl)) fun w1 HG1=> ?_))
 (rename_i hHeld;clear hHeld)
 clear X Q N U L
 obtain⟨⟨X,Q,N,U⟩,L,e0⟩:=C.out _ _ _ s HG1.out
 go_upto_region 5 with (first
  |(go_at_call 166;refine cH (a1.out _ HG1.out) fun w2 H=> ?_))
 clear X Q N U L e0
 obtain⟨⟨X,Q,N,U⟩,L,e0⟩:=C.out _ _ _ s H.out
 have a0:Hid (∀V E,SX w e V b a P n q T (dE M x r) d c E O->V.cell? (af a.th (x*10))=some (ab t.p)/\V.cell? (af a.th (x*10+1))=some (aM t.g)/\V.cell? (af W.heap.size 1)=some (ab r)):=fun V E h=>⟨(C.out _ _ _ s h).1.2.2.1,(C.out _ _ _ s h).2.1,(C.out _ _ _ s h).1.2.2.2⟩
 go_region_held3 (fun u=>u.cell? (af a.th (x*10))=some (ab t.p)/\u.cell? (af a.th (x*10+1))=some (aM t.g)/\u.cell? (af W.heap.size 1)=some (ab r))
  (first|exact a0.out _ _ HG3.out|go_keep)
  (first
   |(go_at_call 120;refine cH (Z.out _ (by exact SX.dc H.out rfl rfl rfl rfl)) fun w3 HG3=> ?_))
 go_wp2_with (go_at_call 170;refine cH (a2.out _ HG3.out) fun w4 a3=> ?_)
 go_end0
 exact⟨rfl,by simpa using a3.out.ahead a4.out⟩
end
def NY (w:World) (b:Nat) (e:Ev):World:=(((((w.setCell (ao b) (ab e.k)).setCell (af b 1) (ab e.p)).setCell (af b 2) (ab e.x)).setCell (af b 3) (aM e.g)).setCell (af b 4) (ab e.r)).setCell (af b 5) (ab e.e)
section
variable {w W j V:World} {c f:Nat->Nat} {a:Ad} {P n q T T':Nat} {M M':Mc} {sb d:Nat} {l:List Ev} {v:Value} {O i:Nat->Prop} {e:World}
def SX.NY (h:SX w e V c a P n q T M sb d l O) (o:aC W e) {b:Nat} (z:W.heap.size<=b) (p:b<e.heap.size) (u: ¬O b) (hw:w.heap.size<=b) (g:Ev):SX w W (Go.Proofs.YtnmhcgpnhlhcgaaGreatDoor.NY V b g) c a P n q T M sb d l O:=by
 obtain⟨r,s,x,t⟩:=h
 have m: ¬r b:=fun q=>u (t b p q)
 unfold Go.Proofs.YtnmhcgpnhlhcgaaGreatDoor.NY
 refine⟨r,(((((s.gw m hw 0 _).gw m hw 1 _).gw m hw 2 _).gw m hw 3 _).gw m hw 4 _).gw m hw 5 _,?_,fun k y q=>y_⟩
 refine((dd o).then x q_).then ((((((Fr.refl (fun k=>k=b) V).setCell (a:=(ao b)) rfl _).setCell (a:=(af b 1)) rfl _).setCell (a:=(af b 2)) rfl _).setCell (a:=(af b 3)) rfl _).setCell (a:=(af b 4)) rfl _|>.setCell (a:=(af b 5)) rfl _) z_
def SG.FG (h:SG w W c a P n q T M sb d l O) (x:Nat) (o:Int) (p:iF M o=false):
  aB 168 #[ak sb,.pointer (some (af a.th (x*10))),ab o] W fun g u=>g=aS #[.agg #[ab 0,ab 0,ab 0,aM 0,ab 0,ab 0],ab 2]/\SX w W u c a P n q T M sb d l O:=by
 have k:aC W (W.alloc (.cells #[ab 0,ab 0,ab 0,aM 0,ab 0,ab 0] 80)):=bq
 have r:=(h.below k).sx
 have y:=jf.new W
 have s:=aa k
 have G:=aa h
 clear k h
 generalize t:W.alloc (.cells #[ab 0,ab 0,ab 0,aM 0,ab 0,ab 0] 80)=e at*
 have F:=aa t
 clear t
 have J:=r.c0
 have H:Hid (vS 53 #[ak a.m,ab o] e (.bool false)):=by
  obtain⟨lk,b⟩:=r.i
  rw[<-p]
  exact b.mg o
 obtain⟨E,D,C,B,A,z,I⟩:=y
 clear r
 refine ge ?_
 go_upto_region 1 with fail
 rw[F.out]
 go_wp2_with (go_at_call 53;refine cS H.out ?_)
 simp[bodyPost,results,Tryz.results168,go_sem,E,D,C,B,A,z]
 exact G.out.sx.more (eK (eK (eK (eK (eK (eK s.out aT _) aT _) aT _) aT _) aT _) aT _)
def SG.uP (h:SG w W c a P n q T M sb d l O) (x:Nat) (hx:x<n) (G:Int) (I:iF M G=true) (y:Ev) (rc:Int) (C: ∀e V,SX w e V c a P n q T M sb d l O->aB 55 #[ak a.m,ab d,.agg #[ab 0,aM 0,ab G,aA ((M.th x).lv:Int),aA 0,ab (-1),ab 0,ab 0,ab 0,aj 0]] V fun t F=>t=aS #[.agg #[ab y.k,ab y.p,ab y.x,aM y.g,ab y.r,ab y.e],ab rc]/\SX w e F c a P n q T' M' sb d l O):
  aB 168 #[ak sb,.pointer (some (af a.th (x*10))),ab G] W fun t F=>t=aS #[.agg #[ab y.k,ab y.p,ab y.x,aM y.g,ab y.r,ab y.e],ab rc]/\SX w W F c a P n q T' M' sb d l O:=by
 obtain⟨lv,B⟩: ∃lv,(M.th x).lv=lv:=⟨_,rfl⟩
 rw[B] at C
 have D:aC W (W.alloc (.cells #[ab 0,ab 0,ab 0,aM 0,ab 0,ab 0] 80)):=bq
 have H:=(h.below D).sx
 have N:=jf.new W
 have a2:=aa D
 have z: ¬O W.heap.size:=fun q=>by have:=h.lt q;omega
 have Q:=h.wl
 have J:W.heap.size<(W.alloc (.cells #[ab 0,ab 0,ab 0,aM 0,ab 0,ab 0] 80)).heap.size:=q_
 have n1: ¬sb=W.heap.size:=fun t=>z (by obtain⟨k,v,s,L⟩:=h;exact(L _).2 (.inr (.inl t.symm)))
 have n2: ¬W.heap.size=sb:=fun t=>n1 t.symm
 have n3: ¬a.th=W.heap.size:=fun t=>z (by obtain⟨k,v,s,L⟩:=h;exact(L _).2 (.inl (by rw[<-t,s.at_.i.lth];decide)))
 have n4: ¬W.heap.size=a.th:=fun t=>n3 t.symm
 clear D h
 generalize hW:W.alloc (.cells #[ab 0,ab 0,ab 0,aM 0,ab 0,ab 0] 80)=e at*
 have HW:=aa hW
 clear hW
 have HP:Hid (vS 53 #[ak a.m,ab G] e (.bool true)):=by
  obtain⟨lk,b⟩:=H.i
  rw[<-I]
  exact b.mg G
 have c0:=H.c0
 have c1:=H.c1
 have d3:=(H.tr hx).c3
 rw[B] at d3
 have a1:=aa fun V (h:SX w e V c a P n q T M sb d l O)=>C e V h
 have HE:=aa fun V T' M' (h:SX w e V c a P n q T' M' sb d l O)=>by
  obtain⟨O1,hs,hf,L⟩:=h
  exact N.kept (hf.block _ N.lt z)
 have Z:=aa fun V (h:SX w e V c a P n q T' M' sb d l O)=>h.NY a2.out aT J z Q y
 have HC:Hid (∀V,SX w e V c a P n q T' M' sb d l O->V.cell? (ao sb)=some (ak a.m)/\V.cell? (af sb 1)=some (ab d)):=fun V h=>⟨h.c0,h.c1⟩
 have a0:Hid (∀V,SX w e V c a P n q T' M' sb d l O->((((((V.setCell (ao W.heap.size) (ab y.k)).setCell (af W.heap.size 1) (ab y.p)).setCell (af W.heap.size 2) (ab y.x)).setCell (af W.heap.size 3) (aM y.g)).setCell (af W.heap.size 4) (ab y.r)).setCell (af W.heap.size 5) (ab y.e)).cell? (ao sb)=some (ak a.m)/\((((((V.setCell (ao W.heap.size) (ab y.k)).setCell (af W.heap.size 1) (ab y.p)).setCell (af W.heap.size 2) (ab y.x)).setCell (af W.heap.size 3) (aM y.g)).setCell (af W.heap.size 4) (ab y.r)).setCell (af W.heap.size 5) (ab y.e)).cell? (af sb 1)=some (ab d)):=fun V h=>by
  have t: ∀o o' (U:World) (u:Value),(U.setCell (af W.heap.size o') u).cell? (af sb o)=U.cell? (af sb o):=fun o o' U u=>Gt.aw _ _ _ _ _ _ (fun q=>n2 q.1)
  rw[t,t,t,t,t,t,t,t,t,t,t,t]
  exact HC.out V h
 have H0:=aa H
 have a3:=fun w=>tB G (lv:Int) (-1) w
 clear H N z C B
 refine ge ?_
 go_upto_region 1 with fail
 rw[HW.out]
 go_upto_region 3 with (first
  |(go_at_call 53;refine cS HP.out ?_))
 refine wp_region_held_drew (S:=(fun F=>F.cell? (ao sb)=some (ak a.m)/\F.cell? (af sb 1)=some (ab d))) (by rfl) ?_ (fun hHeld=> ?_)
 ·simp_all
 refine st ?_
 repeat' first
  |refine dn ?_
  |refine tk ?_
  |refine rd ?_
  |exact oA
  |refine oE ?_
  |refine oC ?_ ?_
  | (refine dU 14 (fun K A=> ?_)
     go_simp
     go_at_call 55
     refine(a1.out _ (by exact SX.dc H0.out rfl rfl rfl rfl)).mono ?_
     rintro t w1 ⟨rfl,R⟩
     have E:=aa R
     obtain⟨e0,e1,e2,e3,e4,e5,ef⟩:=HE.out _ _ _ R
     clear R
     refine A.out _ _ ?_ (fun hHeld=> ?_)
     ·exact HC.out _ E.out
     clear A K
     try simp only[cV])
  | (refine dU _ (fun K A=> ?_)
     go_simp
     refine A.out _ _ ?_ (fun hHeld=> ?_)
     ·omega
     clear A K
     try simp only[cV])
  | (refine dU _ (fun K A=> ?_)
     go_simp
     refine A.out _ _ ?_ (fun hHeld=> ?_)
     ·exact a0.out _ E.out
     clear A K
     try simp only[cV])
 refine⟨?_⟩
 have Y:=Z.out _ E.out
 unfold Go.Proofs.YtnmhcgpnhlhcgaaGreatDoor.NY at Y
 have X:=aa Y
 clear Y
 go_wp2
 simp[bodyPost,results,Tryz.results168,go_sem,e0,e1,e2,e3,e4,e5]
 exact X.out
end
def si (a:List PanicEntry) (w:World):
  CallsD Tryz.prog 74 #[] (.panicking ({v:= .iface 186 (.agg #[]),recovered:=false}::a)) w fun e d c=>
   e=aS #[]/\d= .panicking ({v:= .iface 186 (.agg #[]),recovered:=true}::a)/\c=w:=by
 refine callsD_of_wpS Tryz.func74 rfl fun i j f=> ?_
 apply wpS_seq
 apply wpS_region
 simp[wpOpsS,go_sem,recoverD,f,Tryz.ntmps74,Exit.thenS]
 refine wpS_of_wp ?_
 have g: ∀w,(Instr.typeAssert (.iface 186 (.agg #[])) 20 186 true).run Tryz.prog w= .ok (.tuple #[.agg #[],.bool true]) w:=fun w=>by rfl
 have h: ∀w,(binOp BinOp.eql 20 (.iface 186 (.agg #[])) .nilIface).run Tryz.prog w= .ok (.bool false) w:=fun w=>by rfl
 have b:(Array.replicate 9 undef).setIfInBounds 2 (Value.iface 186 (.agg #[]))= #[undef,undef,.iface 186 (.agg #[]),undef,undef,undef,undef,undef,undef]:=rfl
 rw[b]
 clear b
 go_wp2
 cases i
 simp_all [bodyPostS,results,Tryz.results74]
def Hc (w:World):
  CallsD Tryz.prog 74 #[] .returning w fun e c b=>e=aS #[]/\c= .returning/\b=w:=by
 refine callsD_of_wpS Tryz.func74 rfl fun h i d=> ?_
 apply wpS_seq
 apply wpS_region
 simp[wpOpsS,go_sem,recoverD,d,Tryz.ntmps74,Exit.thenS]
 refine wpS_of_wp ?_
 have f: ∀w,(Instr.typeAssert .nilIface 20 186 true).run Tryz.prog w= .ok (.tuple #[.agg #[],.bool false]) w:=fun w=>by rfl
 have g: ∀w,(binOp BinOp.eql 20 .nilIface .nilIface).run Tryz.prog w= .ok (.bool true) w:=fun w=>by rfl
 have a:(Array.replicate 9 undef).setIfInBounds 2 Value.nilIface= #[undef,undef,.nilIface,undef,undef,undef,undef,undef,undef]:=rfl
 rw[a]
 clear a
 go_wp2
 cases h
 simp_all [bodyPostS,results,Tryz.results74]
section
variable {W:World} {a:Nat} {d:Int} {c b e:World->Prop}
def CX (j:aB 75 #[ak a,aj d] W fun g w'=>g=aS #[]/\c w')
  (i: ∀V,c V->aB 76 #[ak a,aj d] V fun g w'=>g= .panicked ed/\b w'):
  aB 41 #[ak a,aj d] W fun g w'=>g=aS #[]/\b w':=by
 have m: ∀(k:Fn) (first h:Array Value) (w:World),(Instr.makeFunc k first h).run Tryz.prog w= .ok (.func k first h) w:=fun _ _ _ _=>rfl
 have o:=aa j
 have n:=aa i
 clear j i
 go_enter_defers Tryz.func41,Tryz.ntmps41
 go_wp2_with (first
  |(go_at_call 75;refine cH o.out fun s q=> ?_)
  |(go_at_call 76;refine cH (n.out _ q.out) fun r p=> ?_))
 refine leaves_cons (f:=74) (args:= #[]) q_ (by rfl) ?_
 refine(si [] _).mono ?_
 rintro g t l ⟨rfl,rfl,hw⟩
 simp[Go.Leaves,Go.settle,results,Tryz.results41,go_sem]
 rw[hw]
 exact p.out
def Eu (k:aB 75 #[ak a,aj d] W fun g w'=>g=aS #[]/\c w')
  (i: ∀V,c V->aB 76 #[ak a,aj d] V fun g w'=>g=aS #[]/\b w')
  (j: ∀V,b V->aB 77 #[ak a] V fun g w'=>g= .panicked ed/\e w'):
  aB 41 #[ak a,aj d] W fun g w'=>g=aS #[]/\e w':=by
 have n: ∀(l:Fn) (first h:Array Value) (w:World),(Instr.makeFunc l first h).run Tryz.prog w= .ok (.func l first h) w:=fun _ _ _ _=>rfl
 have q:=aa k
 have o:=aa i
 have p:=aa j
 clear k i j
 go_enter_defers Tryz.func41,Tryz.ntmps41
 go_wp2_with (first
  |(go_at_call 75;refine cH q.out fun x t=> ?_)
  |(go_at_call 76;refine cH (o.out _ t.out) fun v s=> ?_)
  |(go_at_call 77;refine cH (p.out _ s.out) fun u r=> ?_))
 refine leaves_cons (f:=74) (args:= #[]) q_ (by rfl) ?_
 refine(si [] _).mono ?_
 rintro g y m ⟨rfl,rfl,hw⟩
 simp[Go.Leaves,Go.settle,results,Tryz.results41,go_sem]
 rw[hw]
 exact r.out
def IK (k:aB 75 #[ak a,aj d] W fun g w'=>g=aS #[]/\c w')
  (i: ∀V,c V->aB 76 #[ak a,aj d] V fun g w'=>g=aS #[]/\b w')
  (j: ∀V,b V->aB 77 #[ak a] V fun g w'=>g=aS #[]/\e w'):
  aB 41 #[ak a,aj d] W fun g w'=>g=aS #[]/\e w':=by
 have n: ∀(l:Fn) (first h:Array Value) (w:World),(Instr.makeFunc l first h).run Tryz.prog w= .ok (.func l first h) w:=fun _ _ _ _=>rfl
 have q:=aa k
 have o:=aa i
 have p:=aa j
 clear k i j
 go_enter_defers Tryz.func41,Tryz.ntmps41
 go_wp2_with (first
  |(go_at_call 75;refine cH q.out fun x t=> ?_)
  |(go_at_call 76;refine cH (o.out _ t.out) fun v s=> ?_)
  |(go_at_call 77;refine cH (p.out _ s.out) fun u r=> ?_))
 refine leaves_cons (f:=74) (args:= #[]) q_ (by rfl) ?_
 refine(Hc _).mono ?_
 rintro g y m ⟨rfl,rfl,hw⟩
 simp[Go.Leaves,Go.settle,results,Tryz.results41,go_sem]
 rw[hw]
 exact r.out
end
section
variable {w W g:World} {b d:Nat->Nat} {a:Ad} {P n q T T':Nat} {M M':Mc} {e c:Nat} {l:List Ev} {O f:Nat->Prop} {i:World}
def SG.start (h:ax w b a P n q T M) (c:Nat): ∃O,SG w (w.alloc (.cells #[ak a.m,ab c,.pointer (some (af a.pr (c*3))),.slice none 0 0] 114)) b a P n q T M w.heap.size c [] O:=by
 have A:=h.Ps.new (.cells #[ak a.m,ab c,.pointer (some (af a.pr (c*3))),.slice none 0 0] 114)
 exact⟨_,b,.slice none 0 0,⟨A,q_,q_,q_,q_,fK.nil _ _,(fun k j=>by cases j),fun o=>q_,h.fresh aT,aT⟩,fun _=>Iff.rfl⟩
def Jk (x y:Addr) (p:Int) (w:World):(Instr.build 114 #[(0,.pointer (some x)),(1,ab p),(2,.pointer (some y))]).run Tryz.prog w= .ok (.agg #[.pointer (some x),ab p,.pointer (some y),.slice none 0 0]) w:=run_build w 114 _ _ (by rfl)
def ax.uq (h:ax w b a P n q T M) (p j:Int) (k:gB P p=false):
  vS 14 #[ak a.m,ab p,aj j] w (.tuple #[.slice none 0 0,ab 2]):=by
 have o:=aa (h.pf p)
 rw[k] at o
 clear h
 refine ge ?_
 go_wp2_with (go_at_call 40;refine cS o.out ?_)
 go_ret2
 simp
end
section
variable {w:World} {b:Nat->Nat} {a:Ad} {P n q T:Nat} {M:Mc}
def pO (n:Nat) (G S:Nat->Nat) (p:Int) (g:Nat):Nat->Nat:=if Gt.hasB n G S p g=true then ay S p.toNat 0 else S
def ax.release (h:ax w b a P n q T M) (p:Int) (g:Nat):
  aB 199 #[ak a.tb,.agg #[ab p,aM g]] w fun e w'=>(∃c:Int,e= .returned (ab c))/\aD w w' b a P n q T {M with S:=pO n M.G M.S p g}:=by
 cases f:Gt.hasB n M.G M.S p g with
 |false=>
  refine(Gt.tU h.tb p g f).mono ?_
  rintro e w' ⟨rfl,m⟩
  refine⟨⟨_,rfl⟩,?_⟩
  unfold pO
  rw[if_neg y_]
  exact h.stay m
 |true=>
  obtain⟨x,rfl,s,r,o⟩:=Gt.nC f
  refine(Gt.tY h.tb x g s r o).mono ?_
  rintro e w' ⟨rfl,i,l⟩
  refine⟨⟨_,rfl⟩,?_⟩
  unfold pO
  rw[if_pos f,Int.toNat_natCast]
  have d:Fr (fun k=>b k=5) w w':=(Lr l).to (fun k _ j=>by rw[j];exact h.ltb.2)
  exact⟨b,h.FE (h.same d) d i,h.same d,d.to z_⟩
theorem ax.held (h:ax w b a P n q T M) (t:Int):
  aB 198 #[ak a.gb,ab t] w fun e w'=> ∃v,e= .returned v/\Pi.IL w' w.heap.size v (Pi.gW M.gr.T M.gr.L t)/\aC w w':=by
 grind[ax.gr,Pi.PG.held]
def countP (x:Pc) (c:Nat):Pc:=if x.s+1=c then{x with s:=0,m:=true} else{x with s:=x.s+1}
end
end Go.Proofs.YtnmhcgpnhlhcgaaGreatDoor
namespace Go.Proofs.YtnmhcgpnhlhcgaaGreatDoor
open Go.RowKit Go.Lib Go.Shelf
attribute [local go_sem ↓] Go.wp_at_zero Go.wp_at_succ
def pB {P:Program} (w:World) (r u s b:TypeId) (k g o e n:Nat) (a:Addr) (d h:Nat) (c:Array Value) (t:TypeId) (f:List Value)
  (x:P.underlying r=some (.slice b)) (E:(P.info? b).map (·.size)=some k)
  (C:w.heap[g]? =some (.cells c t (0,0))) (m:Nat) (A:Nat.min d e=m) (z:f.length=m*k)
  (l: ∀j v,f[j]? =some v->w.cell? (a.add j)=some v) (q:o+f.length<=c.size) (D: ∀v∈f,v.oneCell'=true):
  (Builtin.copy_ #[r,u] s #[.slice (some (af g o)) e n,.slice (some a) d h]).run P w=
   .ok (goInt m) (w.setRow g (c.toList.take o++f++c.toList.drop (o+f.length)).toArray):=by
 have B:=run_loadCells_list (P:=P) w a f l
 have p:=run_storeCells_at P g o t f 0 c w C z_ D
 cases y:P.info? b with
 |none=>grind
 |some i=>
  have hi:i.size=k:=y_
  simp[Builtin.copy_,run_underlying x,Builtin.lenOf,Builtin.firstCells,sizeOf,typeInfo,y,hi,A,<-z,B,p]
def aY (n:Nat):List Value:=(List.replicate n [Value.int .i64 (-1),Value.int .u64 0,Value.bool false]).flatten
theorem dh (n:Nat):(aY n).length=n*3:=by simp[aY]
def ow (n:Nat): ∀u∈aY n,u.oneCell'=true:=by
 intro u a
 unfold aY at a
 rw[List.mem_flatten] at a
 obtain⟨l,c,b⟩:=a
 rw[(List.mem_replicate.1 c).2] at b
 simp at b
 rcases b with rfl|rfl|rfl<;>rfl
theorem ix (a b:Nat):aY (a+b)=aY a++aY b:=by
 grind[aY,List.replicate_append_replicate]
def tA {a b:Nat} (h:a<=b):(aY b).take (a*3)=aY a:=by
 rw[show b=a+(b-a) by omega,ix,<-dh a,List.take_left]
def zx: ∀(n i:Nat),i<n->(aY n)[i*3]? =some (ab (-1))/\(aY n)[i*3+1]? =some (aj 0)/\(aY n)[i*3+2]? =some (.bool false):=by
 intro n i hi
 have e:aY n=aY i++(aY 1++aY (n-i-1)):=by rw[<-ix,<-ix];grind
 rw[e,<-dh i]
 refine⟨?_,?_,?_⟩
 ·rw[v9 aT,Nat.sub_self];rfl
 ·rw[v9 q_,Nat.add_sub_cancel_left];rfl
 ·rw[v9 q_,Nat.add_sub_cancel_left];rfl
def Ic (P:Nat) (d:P<=64) (w:World):vS 70 #[aj 1,aj P] w (.tuple #[aj 0,aj P]):=by
 have h:=fun w=>Bq.BD 1 (P:Int) w z_ z_ z_ z_
 have b:Bq.Pv 1 (P:Int)=0:=by unfold Bq.Pv;omega
 have a:Bq.PJ 1 (P:Int)=P:=by unfold Bq.PJ;omega
 rw[b,a] at h
 have H:=aa h
 clear h
 refine ge ?_
 go_wp2_with (go_at_call 117;refine(H.out _).mono ?_;rintro e c ⟨rfl,hw⟩;replace hw:=hw.symm;subst hw)
 go_ret2
 simp
def jR:Value:= .agg #[ab 0,aj 0,.bool false]
theorem Mt:(Tryz.prog.info? 109).map (fun i=>(i.zero,i.size,i.bytes))=some (some jR,3,24):=by rfl
theorem FI:(Tryz.prog.info? 109).map (·.size)=some 3:=by rfl
def GS (z:Array Value) (n:Nat):(madeCells z n).toList.length=n:=by simp[madeCells]
structure Rp (W:World) (b P k:Nat):Prop where
 blk: ∃xs:List Value,W.heap[b]? =some (.cells xs.toArray 109 (0,0))/\xs.length=P*3/\xs.take (k*3)=aY k
def Rp.next {W:World} {b P k:Nat} {xs:List Value} (e:W.heap[b]? =some (.cells xs.toArray 109 (0,0))) (d:xs.length=P*3) (c:xs.take (k*3)=aY k) {m:Nat} (a:k+m<=P):Rp (W.setRow b (splice xs (k*3) (aY m)).toArray) b P (k+m):=by
 refine⟨splice xs (k*3) (aY m),?_,?_,?_⟩
 ·grind[setRow_heap]
 ·grind[length_splice,dh]
 ·unfold splice
  grind[ix,dh]
def Rp.cells {W:World} {b P k:Nat} (h:Rp W b P k) (n:k<=P) {i:Nat} (hi:i<k):iu W b (i*3) ⟨-1,0,false⟩:=by
 obtain⟨d,p,o,l⟩:=h
 obtain⟨a,m,c⟩:=zx k i hi
 rw[<-l] at a m c
 have f: ∀j u,j<k*3->(d.take (k*3))[j]? =some u->W.cell? (af b j)=some u:=fun j u g e=>by
  rw[List.getElem?_take,if_pos g] at e
  unfold World.cell?
  grind
 exact⟨y_,y_,y_⟩
theorem Ls:(Tryz.prog.info? 83).map (fun i=>(i.zero,i.size,i.bytes))=some (some (.agg #[ab 0,ab 0]),2,16):=by rfl
theorem NR (w:World) (b:Addr) (n a:Nat):(binOp BinOp.eql 35 (.slice (some b) n a) (.slice none 0 0)).run Tryz.prog w= .ok (.bool false) w:=by rfl
def qV (O R:Nat->Int): ∀k,∀u∈Ex.aP O R k,u.oneCell'=true
 |0,u,h=>by cases h
 |k+1,u,h=>by
  rw[Ex.aP,List.mem_append] at h
  rcases h with h|h
  ·exact qV O R k u h
  ·simp at h
   rcases h with rfl|rfl<;>rfl
def Cw {w:World} {c b a:Nat} {O R:Nat->Int} (h: ∀j,j<a->w.cell? (af c (b+j*2))=some (ab (O j))/\w.cell? (af c (b+j*2+1))=some (ab (R j))): ∀j u,(Ex.aP O R a)[j]? =some u->w.cell? (af c (b+j))=some u:=by
 intro j u d
 have g:j<a*2:=by
  have:=(i6.1 d).1
  grind[Ex.fJ]
 obtain⟨f,e⟩:=Ex.fG O R a (j/2) z_
 grind
def BN (w:World) (a:Option Addr) (b g:Nat) (O R:Nat->Int) (x:Ex.lJ w a b O R) (H:1<=b) (G:b<=64):
  aB 52 #[.slice a b g] w fun e w'=> ∃i,e= .returned i/\w'.ownsRow w.heap.size 83 2 i b (Ex.aP O R b)/\aC w w':=by
 obtain⟨v,hi,n,m,l⟩:=Cb.info_parts Ls
 rcases x with I|⟨h,c,rfl,y,r⟩
 ·omega
 have o:=Cw r
 have C:Hid (∀j u,(Ex.aP O R b)[j]? =some u->(w.alloc (.cells #[] 83)).cell? (((af h c):Addr).add j)=some u):=by
  intro j u F
  have s:((af h c):Addr).add j=(af h (c+j)):=by unfold Addr.add;simp
  grind[World.cell?_alloc_lt]
 have HL:Hid ((w.alloc (.cells #[] 83)).ownsRow w.heap.size 83 2 (.slice (some (ao w.heap.size)) 0 0) 0 []):=by
  have:=World.ownsRow_lit (base:=w.heap.size) (e:=83) (size:=2) w #[] 0 aT z_ rfl
  exact this
 have D:=aa (qV O R b)
 have p:=aa (Ex.fJ O R b)
 have q:=fun w=>NR w (af h c) b g
 clear r o
 generalize Ex.aP O R b=t at*
 refine ge ?_
 go_wp2_with (at_builtin;refine wpList_append_own _ rfl _ _ 35 rfl w.heap.size 83 v (.agg #[ab 0,ab 0]) 2 16 q_ hi n m l rfl z_ _ 0 [] (by rfl) HL.out (af h c) b g t (by rfl) p.out C.out D.out (by unfold maxLen;omega) z_ q_ ?_;intro i E f d _;have A:=aa f;have B:=aa (d:World.grownBy _ _ (Value.slice (some (ao w.heap.size)) 0 0).ownBlock);clear f d)
 go_ret
 refine⟨i,rfl,by simpa using A.out,?_⟩
 exact bq.grown B.out q_ (fun k z=>by simp[Value.ownBlock] at z;omega)
def gz (P n m:Nat) (a b:Nat):Mc:=⟨a,b,[],fun _=>⟨-1,0,false⟩,fun _=>iq,fun _=>0,fun _=>0,[],Pi.Jc n m,List.replicate (P+1) [],0,[]⟩
def kN (f e d c b a m pr th:Nat) (k:Nat):Nat:=if k<f then 0 else if k<e then 5 else if k<d then 6 else if k<c then 7 else if k<b then 8 else if k<a then 9 else if k=m then 1 else if k=pr then 3 else if k=th then 4 else 0
def eO:Value:= .agg #[ab 0,aM 0,ab 0,aA 0,aA 0,ab 0,ab 0,ab 0,ab 0,aj 0]
theorem yq:(Tryz.prog.info? 130).map (fun i=>(i.zero,i.size,i.bytes))=some (some eO,10,72):=by rfl
def JD (q g:Int) (t s b p a:Option Addr) (w:World):(Instr.build 106 #[(0,aj q),(1,aj g),(5,.pointer t),(6,.pointer s),(7,.pointer b),(8,.pointer p),(9,.pointer a)]).run Tryz.prog w= .ok (.agg #[aj q,aj g,.slice none 0 0,.slice none 0 0,.slice none 0 0,.pointer t,.pointer s,.pointer b,.pointer p,.pointer a]) w:=run_build w 106 _ _ (by kernel_rfl)
def I4 {e d c b a f m pr th k:Nat} (h:e<=d/\d<=c/\c<=b/\b<=a/\a<=f):
  (e<=k->k<d->kN e d c b a f m pr th k=5)/\(d<=k->k<c->kN e d c b a f m pr th k=6)/\(c<=k->k<b->kN e d c b a f m pr th k=7)/\(b<=k->k<a->kN e d c b a f m pr th k=8)/\(a<=k->k<f->kN e d c b a f m pr th k=9)/\(k<e->kN e d c b a f m pr th k=0):=by
 grind[kN]
structure EE (W:World) (a:Ad) (P n q m qu ag s1 s2 s3 s4 s5 s6:Nat):Prop where
 hP:1<=P/\P<=64
 hn:1<=n/\n<=1024
 hq:qu<18446744073709551616/\ag<18446744073709551616
 ss:s1<=s2/\s2<=s3/\s3<=s4/\s4<=s5/\s5<=s6
 s0:0<s1
 t0:Gt.pv W
 tb:Gt.aH W a.tb a.tg n (fun _=>0) (fun _=>0)
 tbr:(s1<=a.tb/\a.tb<s2)/\s1<=a.tg/\a.tg<s2
 sv: ∃base,Cb.dy W base a.sb P (.slice none 0 0) []
 svr:s2<=a.sb/\a.sb<s3
 gr: ∃b O,Pi.PG W b O a.gb (Pi.Jc n m)/\ ∀k,O k->s3<=k/\k<s4
 pl: ∃O,PQ W O a.pb n P q 0 (List.replicate (P+1) [])/\ ∀k,O k->s4<=k/\k<s5
 wh:Wh.uF W a.wb a.wg a.wm n 0 []
 whr: ∀k,Wh.O3 a.wb a.wg a.wm k->s5<=k/\k<s6
 ms:s6<=a.m/\s6<=a.pr/\s6<=a.th
 ne:a.m≠a.pr/\a.m≠a.th/\a.pr≠a.th
 lt:a.m<W.heap.size/\a.pr<W.heap.size/\a.th<W.heap.size/\s6<=W.heap.size
 co:Core W a P n qu ag
 c2:W.cell? (af a.m 2)=some (.slice none 0 0)
 pc:KV W a.pr P (fun _=>⟨-1,0,false⟩)
 th:Hu W a.th n (fun _=>iq)
def EE.is {W:World} {a:Ad} {P n q m l o c j g f e d:Nat} (h:EE W a P n q m l o c j g f e d):ax W (kN c j g f e d a.m a.pr a.th) a P n q 0 (gz P n m l o)/\ ∀k,kN c j g f e d a.m a.pr a.th k≠0->c<=k:=by
 have L:=fun k=>I4 (m:=a.m) (pr:=a.pr) (th:=a.th) (k:=k) h.ss
 have x:=h.ms
 have s:=h.ss
 have w:=h.ne
 have y:=h.lt
 have G:kN c j g f e d a.m a.pr a.th a.m=1:=by
  unfold kN
  grind
 have F:kN c j g f e d a.m a.pr a.th a.pr=3:=by
  unfold kN
  grind
 have E:kN c j g f e d a.m a.pr a.th a.th=4:=by
  unfold kN
  grind
 obtain⟨B,D,z,I⟩:=h.gr
 obtain⟨C,r,H⟩:=h.pl
 obtain⟨A,t⟩:=h.sv
 refine⟨⟨h.hP,h.hn,h.hq,?_,(L 0).2.2.2.2.2 h.s0,G,h.co,⟨_,[],h.c2,?_⟩,F,h.pc,E,h.th,⟨(L _).1 h.tbr.1.1 h.tbr.1.2,(L _).1 h.tbr.2.1 h.tbr.2.2⟩,h.tb,h.t0,(L _).2.1 h.svr.1 h.svr.2,⟨A,_,t,?_⟩,⟨B,D,z,fun k b=>y_⟩,⟨C,r,fun k b=>y_⟩,fun k b=>(L k).2.2.2.2.1 (h.whr k b).1 (h.whr k b).2,h.wh⟩,?_⟩
 ·grind[kN]
 ·exact⟨⟨rfl,.inl ⟨rfl,rfl⟩⟩,rfl,fun i p u hi _=>y_,fun k b=>(by cases b),fun p v=>(by simp[gz] at v)⟩
 ·intro k b;cases b
 grind
def sG {X:World} {a:Nat} {b:Array Value} {t:TypeId} (h:X.heap[a]? =some (.cells b t (0,0))) (i:Nat):X.cell? (af a i)=b[i]? :=by
 unfold World.cell?
 grind
def OY {X:World} {a:Nat} {b:Array Value} {t:TypeId} (h:X.heap[a]? =some (.cells b t (0,0))) (i:Nat):X.frozen? (af a i)=false:=by
 unfold World.frozen?
 grind
def J8 (n i j:Nat) (hi:i<n) (a:j<10):(madeCells eO.cells (n*10))[i*10+j]? =some (eO.cells[j]!):=by
 have:=Pi.tW eO.cells (n*10) (i*10+j) z_
 rw[show(i*10+j)%eO.cells.size=j by show(i*10+j)%10=j;omega] at this
 grind
def Hu.made {W:World} {b n:Nat} (h:W.heap[b]? =some (.cells (madeCells eO.cells (n*10)) 130 (0,0))):Hu W b n (fun _=>iq):=by
 have c:=fun i j (hi:i<n) (a:j<10)=>(sG h _).trans (J8 n i j hi a)
 exact⟨fun i hi=>⟨c i 0 hi x_,c i 1 hi x_,c i 2 hi x_,c i 3 hi x_,c i 4 hi x_,c i 5 hi x_,c i 6 hi x_,c i 7 hi x_,c i 8 hi x_,c i 9 hi x_⟩,fun o=>OY h o,fun i hi=>⟨x_,x_,x_,x_,x_⟩⟩
section
variable {w b W:World} {c:Nat->Nat} {a:Ad} {P n q T:Nat} {M:Mc}
def ax.CY (h:ax w c a P n q T M) (p:Nat) (i:p<P) (e:(M.pc p).r= -1):
  vQ 151 #[ak a.m,ab p] w (.tuple #[.agg #[ab 0,aM 0],.bool false]):=by
 have j:=aa fun V (d:aC w V)=>by
  have:=(h.below d).pf (p:Int)
  rw[show gB P (p:Int)=true by unfold gB;grind] at this
  exact this
 have d:=(i4 w.heap.size w).alloc aT (.cells #[ab 0,aM 0] 76)
 have f:=aa d
 have l:=(h.below d).co.c3
 have g:=((h.below d).pc.at_ p i).c0
 rw[e] at g
 have k:=h.hP
 clear h e d
 refine ge ?_
 go_wp2_with (go_at_call 40;refine cS (j.out _ (by exact f.out)) ?_)
 simp[bodyPost,results,Tryz.results151,go_sem]
 exact f.out
def ax.DH (h:ax w c a P n q T M) (p:Nat) (k:p<P) (x:Nat) (f:x<n) (i:(M.pc p).r=(x:Int)):
  vQ 151 #[ak a.m,ab p] w (.tuple #[.agg #[ab (M.th x).p,aM ((M.th x).g:Int)],.bool true]):=by
 have A:=aa fun V (d:aC w V)=>by
  have:=(h.below d).pf (p:Int)
  rw[show gB P (p:Int)=true by unfold gB;grind] at this
  exact this
 have d:=(i4 w.heap.size w).alloc aT (.cells #[ab 0,aM 0] 76)
 have B:=aa d
 have R:=(h.below d).co.c3
 have Q:=(h.below d).co.c4
 have t:=((h.below d).pc.at_ p k).c0
 rw[i] at t
 have D:=((h.below d).th.at_ x f).c0
 have C:=((h.below d).th.at_ x f).c1
 have j:Hid (∀o,(w.alloc o).cell? (af a.m 4)=some (.slice (some (ao a.th)) n a.xt)/\(w.alloc o).cell? (af a.m 3)=some (.slice (some (ao a.pr)) P a.xp)/\(w.alloc o).cell? (af a.pr (p*3))=some (ab x)/\(w.alloc o).cell? (af a.th (x*10))=some (ab (M.th x).p)/\(w.alloc o).cell? (af a.th (x*10+1))=some (aM ((M.th x).g:Int))):=fun o=>by
  have d:=(i4 w.heap.size w).alloc aT o
  refine⟨(h.below d).co.c4,(h.below d).co.c3,?_,((h.below d).th.at_ x f).c0,((h.below d).th.at_ x f).c1⟩
  rw[<-i]
  exact((h.below d).pc.at_ p k).c0
 have H:=h.hP
 have G:=h.hn
 have F:(w.alloc (.cells #[ab 0,aM 0] 76)).cell? (ao w.heap.size)=some (ab 0):=bB _ _ _ 0 _ rfl
 have E:(w.alloc (.cells #[ab 0,aM 0] 76)).cell? (af w.heap.size 1)=some (aM 0):=bB _ _ _ 1 _ rfl
 have J:(w.alloc (.cells #[ab 0,aM 0] 76)).frozen? (ao w.heap.size)=false:=cA _ _ _ _
 have I:(w.alloc (.cells #[ab 0,aM 0] 76)).frozen? (af w.heap.size 1)=false:=cA _ _ _ _
 have u:((x:Int)== -1)=false:=by rfl
 have z: ¬a.th=w.heap.size:=fun e=>by have:=h.lt a.th (by rw[h.lth];decide);omega
 have O: ¬w.heap.size=a.th:=fun e=>z e.symm
 have y: ¬a.m=w.heap.size:=fun e=>by simp_all
 have N: ¬w.heap.size=a.m:=fun e=>y e.symm
 have v: ¬a.pr=w.heap.size:=fun e=>by have:=h.lt a.pr (by rw[h.lpr];decide);omega
 have L: ¬w.heap.size=a.pr:=fun e=>v e.symm
 clear h i d
 generalize (M.th x).p=l at*
 generalize (M.th x).g=s at*
 refine ge ?_
 go_wp2_with (go_at_call 40;refine cS (A.out _ (by exact B.out)) ?_)
 go_region_held3 (fun b=>b.cell? (af a.m 4)=some (.slice (some (ao a.th)) n a.xt)/\b.cell? (af a.m 3)=some (.slice (some (ao a.pr)) P a.xp)/\b.cell? (af a.pr (p*3))=some (ab x)/\b.cell? (af a.th (x*10))=some (ab l)/\b.cell? (af a.th (x*10+1))=some (aM s))
  (first|exact j.out _|go_keep)
  (first|fail)
 go_wp2
 simp[bodyPost,results,Tryz.results151,go_sem]
 exact bp ((i4 w.heap.size w).alloc aT _) rfl rfl rfl rfl
end
section
variable {w b:World} {lab lab':Nat->Nat} {a:Ad} {P n q T:Nat} {M:Mc}
def ax.PR (h:ax w lab a P n q T M) (d:oS w b lab lab') (g:Fr (fun k=>lab k=1\/lab k=2) w b) (u:Core b a P n M.qu M.ag) {v:Value} {A:List Value} {l:List Pm} (y:b.cell? (af a.m 2)=some v) (p:zX b lab' v l A):ax b lab' a P n q T {M with pr:=l}:=by
 have x:=fun k (f:lab k≠0) (B:lab k≠1) (y:lab k≠2)=>g.block k (h.lt k f) z_
 have bp:=x a.pr (by rw[h.lpr];decide) (by rw[h.lpr];decide) (by rw[h.lpr];decide)
 have bt:=x a.th (by rw[h.lth];decide) (by rw[h.lth];decide) (by rw[h.lth];decide)
 have t: ∀k j,lab k=j->j≠1->j≠2-> ¬(lab k=1\/lab k=2):=fun k j e B y q=>by omega
 refine⟨h.hP,h.hn,h.hq,d.lt,h.z d,h.l d h.lm x_,u,y_,h.l d h.lpr x_,⟨fun i hi=>(h.pc.at_ i hi).kept bp,fun o=>(zV0 bp).trans (h.pc.fz o),h.pc.ok⟩,h.l d h.lth x_,⟨fun i hi=>(h.th.at_ i hi).kept bt,fun o=>(zV0 bt).trans (h.th.fz o),h.th.ok⟩,⟨h.l d h.ltb.1 x_,h.l d h.ltb.2 x_⟩,h.tb.frame g.gt (t _ _ h.ltb.1 x_ x_) (t _ _ h.ltb.2 x_ x_),h.t0.frame g.gt (by rw[h.l0];decide),h.l d h.lsb x_,?_,?_,?_,fun k f=>h.l d (h.lw k f) x_,h.wh.frame g.wh (fun k f=>t _ _ (h.lw k f) x_ x_)⟩
 ·obtain⟨s,v,p,r⟩:=h.sv
  exact⟨s,v,p.frame g.cb (t _ _ h.lsb x_ x_) y_,fun k f=>h.l d (r k f) x_⟩
 ·obtain⟨c,O,p,r⟩:=h.gr
  exact⟨c,O,p.frame g.pi y_,fun k f=>h.l d (r k f) x_⟩
 ·obtain⟨O,p,r⟩:=h.pl
  exact⟨O,p.frame g y_,fun k f=>h.l d (r k f) x_⟩
def ax.LS (h : ax w lab a P n q T M) {v : Value} {vs : List Value} (e2 : w.cell? (af a.m 2) = some v) (hp : zX w lab v M.pr vs) {w2 : World} (hb2 : aC w w2) {u : Value} {p : Pm} (hu : w2.ownsRow w.heap.size 83 2 u p.len (Ex.aP p.O p.R p.len)) (hr : Ex.Rt p.len p.O p.R)
  {w3 : World} {v1 : Value} (ho : w3.ownsRow 0 35 1 v1 (M.pr.length + 1) (vs ++ [u])) (hg : w2.grownBy w3 v.ownBlock) (hat : v1.ownBlock = v.ownBlock \/ v1.ownBlock = some w2.heap.size) :
  w3.cell? (af a.m 2) = some v /\ w3.frozen? (af a.m 2) = false /\ aD w (w3.setCell (af a.m 2) v1) lab a P n q T { M with pr := M.pr ++ [p] } := by
 have hml := h.lt a.m (by rw [h.lm]; decide)
 have hvm : v.ownBlock ≠ some a.m := fun e => by grind[zX.lb,ax.lm]
 have hvl := fun k (e : v.ownBlock = some k) => h.lt k (by rw [hp.lb k e]; decide)
 have b3 := fun k (hk : k < w2.heap.size) (hn : v.ownBlock ≠ some k) => hg.block k hk y_
 have s2 := hb2.size
 have s3 := hg.size
 have m3 := (b3 a.m z_ hvm).trans (hb2.block _ hml)
 have hset : ∀ k, k ≠ a.m -> (w3.setCell (af a.m 2) v1).heap[k]? = w3.heap[k]? := fun k hk => zZ0 _ _ _ _ hk
 have c23 := (i5 m3).trans e2
 have ful : ∀ k, u.ownBlock = some k -> w.heap.size <= k /\ k < w2.heap.size := fun k e => by
  obtain ⟨q1, q2, _⟩ := au hu e
  omega
 have hcore := h.co.kept m3
 have ec : ∀ o, o ≠ 2 -> (w3.setCell (af a.m 2) v1).cell? (af a.m o) = w3.cell? (af a.m o) := fun o ho => aI w3 z_
 have hf : Fr (fun k => lab k = 1 \/ lab k = 2) w (w3.setCell (af a.m 2) v1) := by
  refine ⟨hg.os.trans hb2.os, hg.tape.trans hb2.tape, hg.output.trans hb2.output, by have : (w3.setCell (af a.m 2) v1).heap.size = w3.heap.size := by simp
                                                                                     omega, fun k hk hn => ?_⟩
  have k1 : k ≠ a.m := fun e => hn mK
  grind[zX.lb,RowKit.Below.block]
 let lab' : Nat -> Nat := fun k => if k < w.heap.size then lab k else if u.ownBlock = some k \/ v1.ownBlock = some k then 2 else 0
 have l1 : ∀ k, k < w.heap.size -> lab' k = lab k := fun k hk => by grind
 have l2 : ∀ k, w.heap.size <= k -> (u.ownBlock = some k \/ v1.ownBlock = some k) -> lab' k = 2 := fun k hk e => by grind
 have v1l := fun k (e : v1.ownBlock = some k) => (au ho e).2.1
 have v1b : ∀ k, v1.ownBlock = some k -> lab' k = 2 := fun k e => by
  grind[zX.lb]
 have hl : oS w (w3.setCell (af a.m 2) v1) lab lab' := by
  refine ⟨l1, fun k hk => ?_⟩
  have e3 : (w3.setCell (af a.m 2) v1).heap.size = w3.heap.size :=q_
  grind
 have v1m : ∀ k, v1.ownBlock = some k -> k ≠ a.m := fun k e q => by
  grind
 have hprs : zX (w3.setCell (af a.m 2) v1) lab' v1 (M.pr ++ [p]) (vs ++ [u]) := by
  refine ⟨?_, by grind[zX.len], ?_, v1b, ?_⟩
  ·grind[aQ]
  ·intro i x y hx hy
   rcases Nat.lt_or_ge i M.pr.length with q | q
   ·rw [List.getElem?_append_left q] at hx
    rw [List.getElem?_append_left (by rw [hp.len]; exact q)] at hy
    obtain ⟨r1, r2⟩ := hp.at_ i x y hx hy
    refine ⟨aQ r1 (fun k e => ?_), fun k e => by grind[ax.lt]⟩
    have hk := h.lt k y_
    have hkm : k ≠ a.m := fun q => by grind[ax.lm]
    rw [hset k hkm]
    by_cases ev : v.ownBlock = some k
    ·exfalso
     obtain ⟨_, _, x1, y1⟩ := au r1 e
     obtain ⟨_, _, x2, y2⟩ := au hp.row ev
     grind
    grind[RowKit.Below.block]
   ·have hi : i = M.pr.length := by
     grind
    subst hi
    rw [v9 aT, Nat.sub_self] at hx
    rw [v9 (by rw [hp.len]; omega), hp.len, Nat.sub_self] at hy
    simp at hx hy
    subst hx hy
    refine ⟨?_, fun k e => y_⟩
    have hu0 := Pi.jj hu (fun k e => Nat.zero_le _)
    refine aQ hu0 (fun k e => ?_)
    grind
  ·intro x hx
   rcases List.mem_append.1 hx with q | q
   ·exact hp.ok x q
   ·simp at q; subst q; exact hr
 refine ⟨c23, hcore.fz 2, lab', h.PR hl hf ?_ (Gt.aU _ _ _ _ c23) hprs, hl, hf.to z_⟩
 exact ⟨(ec 0 x_).trans hcore.c0, (ec 1 x_).trans hcore.c1, (ec 3 x_).trans hcore.c3, (ec 4 x_).trans hcore.c4, (ec 5 x_).trans hcore.c5, (ec 6 x_).trans hcore.c6, (ec 7 x_).trans hcore.c7, (ec 8 x_).trans hcore.c8, (ec 9 x_).trans hcore.c9, fun o => by grind[aR,Core.fz]⟩
end
def xv {P:Program} {q:Array Oper} {o:Oper} {a:Act} {w:World} {K:Act->World->Prop} {Q:Exit->Act->World->Prop} {E:Prop} (y:o.guard=none) (d s:Operand) (z C:TypeId)
  (H:o.op= .call {callee:= .builtin .copy,args:= #[d,s],argTypes:= #[z,C]}) (c:TypeId) (F:P.underlying z=some (.slice c)) (k:Nat) (x:(P.info? c).map (·.size)=some k)
  (g f e n:Nat) (A:Addr) (b l:Nat) (M:a.eval d= .slice (some (af g f)) e n) (G:a.eval s= .slice (some A) b l)
  (i:List Value) (t:TypeId) (L:w.heap[g]? =some (.cells i.toArray t (0,0))) (m:Nat) (J:Nat.min b e=m) (p:List Value) (I:p.length=m*k)
  (r: ∀j v,p[j]? =some v->w.cell? (A.add j)=some v) (D:f+p.length<=i.length) (N: ∀v∈p,v.oneCell'=true)
  (h: ∀B,B=w.setRow g (splice i f p).toArray->K (a.put o.dst (goInt m)) B):
  if Region.wanted o (yielded q a.tmps)=true then Oper.wp P o a w K Q else E:=by
 have hw:Region.wanted o (yielded q a.tmps)=true:=by simp[Region.wanted,y]
 rw[if_pos hw]
 have u:=pB (P:=P) w z C o.type c k g f e n A b l i.toArray t p F x L m J I r z_ N
 unfold Oper.wp
 simp[execOp,H,resolve,invoke,builtin,M,G,u,Result.andThen]
 refine h _ ?_
 rfl
def Cr (w:World) (g P:Nat) (V:1<=P/\P<=64) (Z:w.cell? (ao g)=some (ab (-1))) (c1:w.cell? (af g 1)=some (aj 0)) (c2:w.cell? (af g 2)=some (.bool false)):
  aB 38 #[.slice (some (ao g)) 1 1,ab P] w fun e w'=> ∃b,e= .returned (.slice (some (ao b)) P P)/\(w.heap.size<=b/\b<w'.heap.size)/\KV w' b P (fun _=>⟨-1,0,false⟩)/\aC w w':=by
 obtain⟨i0,hi,q,F,E⟩:=Cb.info_parts Mt
 have a5: ∀w,(Instr.makeSlice 103 (ab P) (ab P)).run Tryz.prog w= .ok (.slice (some (ao w.heap.size)) P P) (w.alloc (.cells (madeCells jR.cells (P*3)) 109)):=by
  intro w
  have:=run_make w 103 109 i0 jR Tryz.underlying103 hi q .i64 .i64 (P:Int) (P:Int) z_ z_ y_ z_
  grind
 have a9:=i7 w _ Z
 have HM:=aa (fun w=>Ic P V.2 w)
 have a1:IntKind.u64.wrap (P:Int)=P:=by simp[IntKind.wrap,IntKind.bits,IntKind.signed];omega
 have p:IntKind.i64.wrap (P:Int)=P:=by simp[IntKind.wrap,IntKind.bits,IntKind.signed];omega
 have a4: ¬(P:Int)<0:=z_
 have a3: ¬(9223372036854775807:Int)<(P:Int):=z_
 have B:Hid ((w.alloc (.cells (madeCells jR.cells (P*3)) 109)).heap[w.heap.size]? =some (.cells (madeCells jR.cells (P*3)).toList.toArray 109 (0,0))):=yW0 w _
 have A:Hid (∀j v,(aY 1)[j]? =some v->(w.alloc (.cells (madeCells jR.cells (P*3)) 109)).cell? (((ao g):Addr).add j)=some v):=by
  intro j u d
  have f:((ao g):Addr).add j=(af g j):=by unfold Addr.add;grind
  rw[f,World.cell?_alloc_lt _ _ _ z_]
  match j,d with
  |0,d=>injection d with d;grind
  |1,d=>injection d with d;grind
  |2,d=>injection d with d;grind
 have t:=GS jR.cells (P*3)
 have HP:=aa V
 clear hi q F E Z c1 c2
 generalize G:(madeCells jR.cells (P*3))=c at*
 clear G
 have b0:=pB (P:=Tryz.prog) (w.alloc (.cells c 109)) 103 103 3 109 3 w.heap.size 0 P P (ao g) 1 1 c 109 (aY 1) Tryz.underlying103 FI (by assumption) 1 y_ rfl A.out (by rw[dh];grind) (ow 1)
 have L:Hid (Rp ((w.alloc (.cells c 109)).setRow w.heap.size (c.toList.take 0++aY 1++c.toList.drop (0+(aY 1).length)).toArray) w.heap.size P 1):=by
  have:=Rp.next (W:=w.alloc (.cells c 109)) (b:=w.heap.size) (P:=P) (k:=0) (xs:=c.toList) B.out t rfl (m:=1) z_
  unfold Hid
  simpa [splice] using this
 have Q:Hid (aC w ((w.alloc (.cells c 109)).setRow w.heap.size (c.toList.take 0++aY 1++c.toList.drop (0+(aY 1).length)).toArray)):=below_setRow bq aT _
 have J:Hid (((w.alloc (.cells c 109)).setRow w.heap.size (c.toList.take 0++aY 1++c.toList.drop (0+(aY 1).length)).toArray).heap.size=w.heap.size+1):=by unfold Hid;simp
 generalize ((w.alloc (.cells c 109)).setRow w.heap.size (c.toList.take 0++aY 1++c.toList.drop (0+(aY 1).length)).toArray)=W1 at*
 clear B A t
 refine ge ?_
 go_wp2_with (go_at_call 70;refine cS (HM.out _) ?_)
 go_loopw [8] (fun D wr=> ∃k:Nat,D=ab k/\1<=k/\k<=P/\Rp wr w.heap.size P k/\aC w wr/\w.heap.size<wr.heap.size) (fun D _=>P-(RowKit.intOf D).toNat)
 case atStart=>exact⟨1,rfl,z_,HP.out.1,L.out,Q.out,by rw[J.out];omega⟩
 case round=>
  obtain⟨k,rfl,a8,a7,U,Y,r⟩:=hrel
  have M:=aa U
  have HB:=aa Y
  have y:=aa r
  clear U Y r
  by_cases a6:k<P
  ·have x:(k:Int)<P:=by omega
   go_wp2
   obtain⟨xs,h,n,l⟩:=M.out
   have H:=aa h
   obtain⟨m,R⟩: ∃m,Nat.min k (P-k)=m:=⟨_,rfl⟩
   have s:1<=m/\k+m<=P/\m<=k:=by
    grind
   have O:=aa R
   clear R
   have a2: ¬P=k:=z_
   have a0:IntKind.i64.wrap ((k:Int)+m)=((k+m:Nat):Int):=by simp[IntKind.wrap,IntKind.bits,IntKind.signed];omega
   have N:=aa (Rp.next (W:=wr.drew) (by exact h) n l (m:=m) s.2.1)
   have C:Hid (k*3+(aY m).length<=xs.length):=by unfold Hid;rw[dh,n];omega
   have z:Hid (∀j v,(aY m)[j]? =some v->wr.cell? (((ao w.heap.size):Addr).add j)=some v):=by
    intro j u d
    have f:((ao w.heap.size):Addr).add j=(af w.heap.size j):=by unfold Addr.add;grind
    have T:=(i6.1 d).1
    rw[dh] at T
    rw[f]
    unfold World.cell?
    simp only[h]
    rw[<-tA (a:=m) (b:=k) s.2.2,<-l,List.getElem?_take,if_pos T,List.getElem?_take,if_pos z_] at d
    grind
   clear h n l
   refine wp_region_held_drew (S:=fun _=>True) (by rfl) ?_ (fun hHeld=> ?_)
   ·trivial
   refine st ?_
   repeat' first
    |refine dn ?_
    |refine tk ?_
    |refine rd ?_
    |exact oA
    |refine oE ?_
    |refine oC ?_ ?_
    | (refine dU 7 (fun K X=> ?_)
       refine xv (by rfl) _ _ _ _ (by rfl) 109 Tryz.underlying103 3 FI w.heap.size (k*3) (P-k) (P-k) (ao w.heap.size) k P (by rfl) (by rfl) xs 109 H.out m O.out (aY m) (dh _) z.out C.out (ow _) ?_
       intro w2 p
       have I:=aa p
       clear p
       refine X.out _ _ ?_ (fun hHeld=> ?_)
       ·trivial
       clear X K
       try simp only[cV])
   refine⟨?_⟩
   go_wp2
   go_roundw
   case rel=>
    rw[I.out]
    exact⟨k+m,by go_num,z_,z_,N.out,below_setRow (w:=wr.drew) (aK HB.out rfl rfl rfl rfl) aT _,by simpa using y.out⟩
   case measure=>simp[RowKit.intOf];omega
  ·have x: ¬(k:Int)<P:=by omega
   obtain rfl:k=P:=z_
   go_wp2
   go_ret
   refine⟨_,rfl,⟨aT,y.out⟩,⟨fun i hi=>M.out.cells aT hi,fun o=> ?_,fun i hi=>by simp⟩,HB.out⟩
   obtain⟨xs,h1,_,_⟩:=M.out
   unfold World.frozen?
   grind
def lk (a V:World):Prop:=V.heap=a.heap/\V.os=a.os/\V.tape=a.tape/\V.output=a.output
def lk.jC {c V w':World} (h:lk c V) (a:aC V w'):aC c w':=by
 obtain⟨b,f,e,d⟩:=h
 exact⟨a.os.trans f,a.tape.trans e,a.output.trans d,by rw[<-b];exact a.size,fun k g=>(a.block k y_).trans (by rw[b])⟩
def QE {X:World} {a:Nat} {v:Value} {o:Obj} {u:Value} (e:a<X.heap.size) (c:X.cell? (af a 4)=some u) (f:X.frozen? (af a 4)=false):((X.setCell (af a 3) v).alloc o).cell? (af a 4)=some u/\((X.setCell (af a 3) v).alloc o).frozen? (af a 4)=false:=by
 have d:a<(X.setCell (af a 3) v).heap.size:=by simp_all
 have b:((X.setCell (af a 3) v).alloc o).heap[a]? =(X.setCell (af a 3) v).heap[a]? :=zU0 _ _ _ d
 refine⟨?_,?_⟩
 ·rw[i5 b]
  grind[aI]
 ·rw[zV0 b,aR]
  exact f
def Ix (w:World):(Instr.build 109 #[(0,ab (-1))]).run Tryz.prog w= .ok (.agg #[ab (-1),aj 0,.bool false]) w:=run_build w 109 _ _ (by rfl)
def ig (P n q m z B:Nat) (hP:1<=P/\P<=64) (L:1<=n/\n<=1024) (hq:1<=q/\q<=256) (hm:m<=32) (d9:1<=z/\z<18446744073709551616) (e1:1<=B/\B<18446744073709551616) (w:World) (ht:Gt.pv w):
  Calls Tryz.prog 11 #[.agg #[.int .i64 P,.int .i64 n,.int .i64 q,.int .i64 m,.int .u64 z,.int .u64 B]] w fun e w'=> ∃a a5,e= .returned (.pointer (some ⟨a.m,0,none⟩))/\ax w' a5 a P n q 0 (gz P n m z B)/\(∀k,a5 k≠0->w.heap.size<=k)/\Below w.heap.size w w':=by
 obtain⟨W0,j⟩: ∃W0,w.alloc (.cells #[.int .i64 P,.int .i64 n,.int .i64 q,.int .i64 m,.int .u64 z,.int .u64 B] 30)=W0:=⟨_,rfl⟩
 obtain⟨cb,t⟩: ∃cb,w.heap.size=cb:=⟨_,rfl⟩
 have a4:Hid (Below w.heap.size w W0):=by rw[<-j];exact bq
 have c0:W0.cell? ⟨cb,0,none⟩=some (.int .i64 P):=by rw[<-j,<-t];exact bB _ _ _ 0 _ rfl
 have c1:W0.cell? ⟨cb,1,none⟩=some (.int .i64 n):=by rw[<-j,<-t];exact bB _ _ _ 1 _ rfl
 have c2:W0.cell? ⟨cb,2,none⟩=some (.int .i64 q):=by rw[<-j,<-t];exact bB _ _ _ 2 _ rfl
 have c3:W0.cell? ⟨cb,3,none⟩=some (.int .i64 m):=by rw[<-j,<-t];exact bB _ _ _ 3 _ rfl
 have c4:W0.cell? ⟨cb,4,none⟩=some (.int .u64 z):=by rw[<-j,<-t];exact bB _ _ _ 4 _ rfl
 have c5:W0.cell? ⟨cb,5,none⟩=some (.int .u64 B):=by rw[<-j,<-t];exact bB _ _ _ 5 _ rfl
 have hC: ∀V,Below W0.heap.size W0 V->V.cell? ⟨cb,0,none⟩=some (.int .i64 P)/\V.cell? ⟨cb,1,none⟩=some (.int .i64 n)/\V.cell? ⟨cb,2,none⟩=some (.int .i64 q)/\V.cell? ⟨cb,3,none⟩=some (.int .i64 m)/\V.cell? ⟨cb,4,none⟩=some (.int .u64 z)/\V.cell? ⟨cb,5,none⟩=some (.int .u64 B):=fun V G=>⟨kc G c0,kc G c1,kc G c2,kc G c3,kc G c4,kc G c5⟩
 have HC:=aa hC
 have b9:=aa<|ht.below a4.out
 have HZ:Hid (Below W0.heap.size W0 W0):=cj
 have HG:Hid (∀c V,Below W0.heap.size W0 c->lk c V->Calls Tryz.prog 33 #[.int .i64 n] V fun e w'=> ∃I tg,e= .returned (.pointer (some ⟨I,0,none⟩))/\Gt.aH w' I tg n (fun _=>0) (fun _=>0)/\((c.heap.size<=I/\I<w'.heap.size)/\c.heap.size<=tg/\tg<w'.heap.size)/\Below c.heap.size c w'/\Below W0.heap.size W0 w'):=fun c V Y E=>by
  refine(Gt.ig n V L.1 L.2).mono ?_
  rintro e w' ⟨rfl,hr,G⟩
  have d:=E.jC G
  obtain⟨cp,d8⟩:=hr.sl
  have h1:=i7 w' _ d8
  have h2:=i7 w' _ (hr.gn 0 L.1)
  have hs:V.heap.size=c.heap.size:=by rw[E.1]
  exact⟨_,_,rfl,hr,⟨⟨z_,h1⟩,z_,h2⟩,d,bt Y d⟩
 have HS:Hid (∀c V,Below W0.heap.size W0 c->lk c V->Calls Tryz.prog 34 #[.int .i64 P] V fun e w'=> ∃J,e= .returned (.pointer (some ⟨J,0,none⟩))/\Cb.dy w' c.heap.size J P (.slice none 0 0) []/\(c.heap.size<=J/\J<w'.heap.size)/\Below c.heap.size c w'/\Below W0.heap.size W0 w'):=fun c V Y E=>by
  refine(Cb.ig V P hP.1 hP.2).mono ?_
  rintro e w' ⟨rfl,rfl⟩
  have hs:V.heap.size=c.heap.size:=by rw[E.1]
  have d:=E.jC ((i4 V.heap.size V).alloc aT (.cells #[.int .u64 P,.slice none 0 0] 155))
  exact⟨_,rfl,Cb.dy.new V P hP.1 hP.2 _ z_,⟨z_,q_⟩,d,bt Y d⟩
 have f5:Hid (∀c V,Below W0.heap.size W0 c->lk c V->Calls Tryz.prog 35 #[.int .i64 n,.int .i64 m] V fun e w'=> ∃R O,e= .returned (.pointer (some ⟨R,0,none⟩))/\Pi.PG w' c.heap.size O R (Pi.Jc n m)/\(∀k,O k->c.heap.size<=k/\k<w'.heap.size)/\Below c.heap.size c w'/\Below W0.heap.size W0 w'):=fun c V Y E=>by
  refine(Pi.tZ n m V L.1 L.2 hm).mono ?_
  rintro e w' ⟨s,O,rfl,W,G⟩
  have d:=E.jC G
  rw[E.1] at W
  exact⟨_,_,rfl,W,fun k A=>⟨W.ge A,W.lt A⟩,d,bt Y d⟩
 have f2:Hid (∀c V,Below W0.heap.size W0 c->lk c V->Calls Tryz.prog 36 #[.int .i64 P,.int .i64 n,.int .i64 q] V fun e w'=> ∃Q O,e= .returned (.pointer (some ⟨Q,0,none⟩))/\PQ w' O Q n P q 0 (List.replicate (P+1) [])/\(∀k,O k->c.heap.size<=k/\k<w'.heap.size)/\Below c.heap.size c w'/\Below W0.heap.size W0 w'):=fun c V Y E=>by
  refine(Hx P n q V hP L hq).mono ?_
  rintro e w' ⟨O,rfl,W,ho,G⟩
  have d:=E.jC G
  rw[E.1] at ho
  exact⟨_,_,rfl,W,fun k A=>⟨ho k A,W.blocks k A⟩,d,bt Y d⟩
 have e3:Hid (∀c V,Below W0.heap.size W0 c->lk c V->Calls Tryz.prog 37 #[.int .i64 n] V fun e w'=> ∃b g mb,e= .returned (.pointer (some ⟨b,0,none⟩))/\Wh.uF w' b g mb n 0 []/\(∀k,Wh.O3 b g mb k->c.heap.size<=k/\k<w'.heap.size)/\Below c.heap.size c w'/\Below W0.heap.size W0 w'):=fun c V Y E=>by
  refine(Wh.Hr n V L.1 L.2).mono ?_
  rintro e w' ⟨b,g,mb,rfl,ho,W,G⟩
  have d:=E.jC G
  rw[E.1] at ho
  exact⟨_,_,_,rfl,W,ho,d,bt Y d⟩
 have h9:=JD
 have e4:=aa j
 have i3:=aa t
 have g6: ¬(z:Int)<1:=z_
 have g7: ¬(B:Int)<1:=z_
 clear ht
 refine ge ?_
 go_wp2
 clear e4 j t
 go_region_held3 (fun w'=>w'.cell? ⟨cb,0,none⟩=some (.int .i64 P)/\w'.cell? ⟨cb,1,none⟩=some (.int .i64 n)/\w'.cell? ⟨cb,2,none⟩=some (.int .i64 q)/\w'.cell? ⟨cb,3,none⟩=some (.int .i64 m)/\w'.cell? ⟨cb,4,none⟩=some (.int .u64 z)/\w'.cell? ⟨cb,5,none⟩=some (.int .u64 B))
  (first|exact HC.out _ HB5.out|exact HC.out _ HB4.out|exact HC.out _ HB3.out|exact HC.out _ HB2.out|exact HC.out _ HB1.out|go_keep)
  (first
   |(go_at_call 33;refine(HG.out W0 _ HZ.out (by exact⟨rfl,rfl,rfl,rfl⟩)).mono ?_;rintro e w1 ⟨I,tg,rfl,r,p,l,f⟩;have f1:=aa r;have g3:=aa p;have d3:=aa l;have HB1:=aa f;clear r p l f)
   |(go_at_call 34;refine(HS.out w1 _ HB1.out (by exact⟨rfl,rfl,rfl,rfl⟩)).mono ?_;rintro e w2 ⟨J,rfl,r,p,l,f⟩;have f0:=aa r;have g2:=aa p;have d2:=aa l;have HB2:=aa f;clear r p l f)
   |(go_at_call 35;refine(f5.out w2 _ HB2.out (by exact⟨rfl,rfl,rfl,rfl⟩)).mono ?_;rintro e w3 ⟨R,O7,rfl,r,p,l,f⟩;have e9:=aa r;have g1:=aa p;have c9:=aa l;have HB3:=aa f;clear r p l f)
   |(go_at_call 36;refine(f2.out w3 _ HB3.out (by exact⟨rfl,rfl,rfl,rfl⟩)).mono ?_;rintro e w4 ⟨Q,O8,rfl,r,p,l,f⟩;have e8:=aa r;have g0:=aa p;have c8:=aa l;have HB4:=aa f;clear r p l f)
   |(go_at_call 37;refine(e3.out w4 _ HB4.out (by exact⟨rfl,rfl,rfl,rfl⟩)).mono ?_;rintro e C ⟨wb,wg,wm,rfl,r,p,l,f⟩;have e7:=aa r;have f9:=aa p;have c7:=aa l;have HB5:=aa f;clear r p l f))
 rename_i hHeld
 clear hHeld
 have y:(C.alloc (.cells #[.int .u64 z,.int .u64 B,.slice none 0 0,.slice none 0 0,.slice none 0 0,.pointer (some ⟨I,0,none⟩),.pointer (some ⟨J,0,none⟩),.pointer (some ⟨R,0,none⟩),.pointer (some ⟨Q,0,none⟩),.pointer (some ⟨wb,0,none⟩)] 106)).heap[C.heap.size]? =some (.cells #[.int .u64 z,.int .u64 B,.slice none 0 0,.slice none 0 0,.slice none 0 0,.pointer (some ⟨I,0,none⟩),.pointer (some ⟨J,0,none⟩),.pointer (some ⟨R,0,none⟩),.pointer (some ⟨Q,0,none⟩),.pointer (some ⟨wb,0,none⟩)] 106 (0,0)):=yW0 _ _
 have X:Below C.heap.size C (C.alloc (.cells #[.int .u64 z,.int .u64 B,.slice none 0 0,.slice none 0 0,.slice none 0 0,.pointer (some ⟨I,0,none⟩),.pointer (some ⟨J,0,none⟩),.pointer (some ⟨R,0,none⟩),.pointer (some ⟨Q,0,none⟩),.pointer (some ⟨wb,0,none⟩)] 106)):=bq
 have U:(C.alloc (.cells #[.int .u64 z,.int .u64 B,.slice none 0 0,.slice none 0 0,.slice none 0 0,.pointer (some ⟨I,0,none⟩),.pointer (some ⟨J,0,none⟩),.pointer (some ⟨R,0,none⟩),.pointer (some ⟨Q,0,none⟩),.pointer (some ⟨wb,0,none⟩)] 106)).heap.size=C.heap.size+1:=q_
 generalize (C.alloc (.cells #[.int .u64 z,.int .u64 B,.slice none 0 0,.slice none 0 0,.slice none 0 0,.pointer (some ⟨I,0,none⟩),.pointer (some ⟨J,0,none⟩),.pointer (some ⟨R,0,none⟩),.pointer (some ⟨Q,0,none⟩),.pointer (some ⟨wb,0,none⟩)] 106))=N at*
 obtain⟨mb,D⟩: ∃mb,C.heap.size=mb:=⟨_,rfl⟩
 rw[D] at y U X
 have a9:cb<W0.heap.size:=i7 W0 _ c0
 have h7:cb<mb:=by have:=HB5.out.size;omega
 have F:=bt HB5.out (by unfold aC;rw[D];exact X)
 obtain⟨d0,d1,_,_,d4,d5⟩:=hC _ F
 have x7:=sG y 7
 have x8:=sG y 8
 simp only[List.getElem?_toArray] at x7 x8
 have a8:=Cr (N.alloc (.cells #[.int .i64 (-1),.int .u64 0,.bool false] 109)) N.heap.size P hP (bB _ _ _ 0 _ rfl) (bB _ _ _ 1 _ rfl) (bB _ _ _ 2 _ rfl)
 have a2:Below N.heap.size N (N.alloc (.cells #[.int .i64 (-1),.int .u64 0,.bool false] 109)):=bq
 have e6:Hid (Calls Tryz.prog 38 #[.slice (some ⟨N.heap.size,0,none⟩) 1 1,.int .i64 P] (N.alloc (.cells #[.int .i64 (-1),.int .u64 0,.bool false] 109)) fun e w'=> ∃b,e= .returned (.slice (some ⟨b,0,none⟩) P P)/\(N.heap.size<=b/\b<w'.heap.size)/\KV w' b P (fun _=>⟨-1,0,false⟩)/\Below N.heap.size N w'/\N.heap.size<w'.heap.size):=by
  refine a8.mono ?_
  rintro e w' ⟨b,rfl,h1,h2,h3⟩
  refine⟨b,rfl,⟨by have:=h1.1;simp at this;omega,h1.2⟩,h2,bt a2 h3,by have:=h3.size;simp at this;omega⟩
 have h8:=Ix
 have i1:=(hC _ (bt F a2)).1
 obtain⟨i0,hi,T,a7,a6⟩:=Cb.info_parts yq
 have e0: ∀w,(Instr.makeSlice 104 (.int .i64 n) (.int .i64 n)).run Tryz.prog w= .ok (.slice (some ⟨w.heap.size,0,none⟩) n n) (w.alloc (.cells (madeCells eO.cells (n*10)) 130)):=by
  intro w
  have:=run_make w 104 130 i0 eO Tryz.underlying104 hi T .i64 .i64 (n:Int) (n:Int) z_ z_ (by rw[a6];omega) z_
  rw[a7,show(n:Int).toNat=n by omega] at this
  exact this
 obtain⟨mc,a1⟩: ∃mc,madeCells eO.cells (n*10)=mc:=⟨_,rfl⟩
 rw[a1] at e0
 have f6:=aa a1
 clear a1
 have d7:=aa F
 have d6:=aa y
 have Z:=aa U
 have f7:=aa D
 have g5:=aa X
 have i2:=aa a9
 clear a8 a2 hC c0 c1 c2 c3 c4 c5 hi T a7 a6 F y U X a9
 rw[D]
 clear D
 go_wp2_with (go_at_call 38;refine(e6.out).mono ?_;rintro e h ⟨H,rfl,r,p,l,s8⟩;have a3:=aa p;have f8:=aa r;have g4:=aa l;have e5:=aa s8;have b0:=HC.out _ (bt d7.out l);have y1:=b0.2.1;have m8:=(l.block mb (by have:=Z.out;omega)).trans d6.out;have x3:h.cell? ⟨mb,3,none⟩=some (.slice none 0 0):=(sG m8 3);have x4:h.cell? ⟨mb,4,none⟩=some (.slice none 0 0):=(sG m8 4);have f3:=OY m8 3;have f4:=OY m8 4;have a0:=(i7 h _ x3);have z4:=QE (v:= .slice (some ⟨H,0,none⟩) P P) (o:= .cells mc 130) a0 x4 f4;have n1: ¬mb=cb:=z_;have n2: ¬cb=mb:=z_;have n3: ¬mb=h.heap.size:=(by have:=Z.out;omega);have n4: ¬cb=h.heap.size:=(by have:=Z.out;omega);have g9:=z4.1;have g8:=z4.2;have c6:=aa m8;clear r p l s8 b0 m8 z4)
 go_ret
 obtain⟨WF,M⟩: ∃WF,((h.setCell ⟨mb,3,none⟩ (.slice (some ⟨H,0,none⟩) P P)).setCell ⟨mb,4,none⟩ (.slice (some ⟨h.heap.size,0,none⟩) n n)).alloc (.cells mc 130)=WF:=⟨_,rfl⟩
 have sX:((h.setCell ⟨mb,3,none⟩ (.slice (some ⟨H,0,none⟩) P P)).setCell ⟨mb,4,none⟩ (.slice (some ⟨h.heap.size,0,none⟩) n n)).heap.size=h.heap.size:=q_
 have sF:WF.heap.size=h.heap.size+1:=by rw[<-M];simp
 have kX: ∀k,k<h.heap.size->WF.heap[k]? =((h.setCell ⟨mb,3,none⟩ (.slice (some ⟨H,0,none⟩) P P)).setCell ⟨mb,4,none⟩ (.slice (some ⟨h.heap.size,0,none⟩) n n)).heap[k]? :=fun k A=>by rw[<-M];exact zU0 _ _ _ (by rw[sX];exact A)
 have k8: ∀k,k<h.heap.size->k≠mb->WF.heap[k]? =h.heap[k]? :=fun k A L=>by
  rw[kX k A,zZ0 _ _ _ _ L,zZ0 _ _ _ _ L]
 have cX: ∀o,WF.cell? ⟨mb,o,none⟩=((h.setCell ⟨mb,3,none⟩ (.slice (some ⟨H,0,none⟩) P P)).setCell ⟨mb,4,none⟩ (.slice (some ⟨h.heap.size,0,none⟩) n n)).cell? ⟨mb,o,none⟩:=fun o=>i5 (kX mb a0)
 have cO: ∀o,o≠3->o≠4->WF.cell? ⟨mb,o,none⟩=h.cell? ⟨mb,o,none⟩:=fun o h3 h4=>by
  rw[cX o,aI _ (fun e=>h4 e.symm),aI _ (fun e=>h3 e.symm)]
 have q3:WF.cell? ⟨mb,3,none⟩=some (.slice (some ⟨H,0,none⟩) P P):=by
  rw[cX 3,aI _ x_]
  exact Gt.aU _ _ _ _ x3
 have q4:WF.cell? ⟨mb,4,none⟩=some (.slice (some ⟨h.heap.size,0,none⟩) n n):=by
  rw[cX 4]
  exact Gt.aU _ _ _ _ ((aI h x_).trans x4)
 have qf: ∀o,WF.frozen? ⟨mb,o,none⟩=false:=fun o=>by
  rw[zV0 (kX mb a0),aR,aR]
  exact OY c6.out o
 have U:=Z.out
 have h5:=e5.out
 have h6:=f8.out
 have D:=f7.out
 have b2:Below C.heap.size C WF:=by
  rw[D,<-M]
  have b8:=g5.out.trans ((g4.out).mono z_)
  exact(eK (eK b8 (a:=⟨mb,3,none⟩) aT _) (a:=⟨mb,4,none⟩) aT _).alloc (by rw[sX];omega) _
 have b3:=bt c7.out b2
 have b4:=bt c8.out b3
 have b5:=bt c9.out b4
 have b6:=bt d2.out b5
 have b7:=bt d3.out b6
 have z1:=d3.out.size
 have z2:=d2.out.size
 have z3:=c9.out.size
 have z4:=c8.out.size
 have z5:=c7.out.size
 have T:=b9.out.pos
 have x: ∀o u,o≠3->o≠4->(#[.int .u64 z,.int .u64 B,.slice none 0 0,.slice none 0 0,.slice none 0 0,.pointer (some ⟨I,0,none⟩),.pointer (some ⟨J,0,none⟩),.pointer (some ⟨R,0,none⟩),.pointer (some ⟨Q,0,none⟩),.pointer (some ⟨wb,0,none⟩)]:Array Value)[o]? =some u->WF.cell? ⟨mb,o,none⟩=some u:=fun o u h3 h4 hu=>by
  rw[cO o h3 h4,sG c6.out o]
  exact hu
 have e2:EE WF ⟨mb,I,tg,J,R,Q,wb,wg,wm,H,h.heap.size,P,n⟩ P n q m z B W0.heap.size w1.heap.size w2.heap.size w3.heap.size w4.heap.size C.heap.size:=by
  refine⟨hP,L,⟨d9.2,e1.2⟩,⟨z1,z2,z3,z4,z5⟩,T,b9.out.below b7,f1.out.below b6,g3.out,⟨_,f0.out.frame (dd (S:=fun _=>False) b5).cb (fun q=>q) (fun k A=>by cases A)⟩,g2.out,⟨_,_,e9.out.below b4,g1.out⟩,⟨_,e8.out.below b3,g0.out⟩,e7.out.frame (dd (S:=fun _=>False) b2).wh (fun _ _ q=>q),f9.out,⟨by show C.heap.size<=mb;omega,by show C.heap.size<=H;omega,by show C.heap.size<=h.heap.size;omega⟩,⟨by show mb≠H;omega,by show mb≠h.heap.size;omega,by show H≠h.heap.size;omega⟩,⟨by show mb<WF.heap.size;omega,by show H<WF.heap.size;omega,by show h.heap.size<WF.heap.size;omega,z_⟩,?_,x 2 _ x_ x_ rfl,?_,?_⟩
  ·exact⟨x 0 _ x_ x_ rfl,x 1 _ x_ x_ rfl,q3,q4,x 5 _ x_ x_ rfl,x 6 _ x_ x_ rfl,x 7 _ x_ x_ rfl,x 8 _ x_ x_ rfl,x 9 _ x_ x_ rfl,qf⟩
  ·have A:=k8 H z_ z_
   exact⟨fun i hi=>(a3.out.at_ i hi).kept A,fun o=>(zV0 A).trans (a3.out.fz o),a3.out.ok⟩
  ·refine Hu.made ?_
   rw[f6.out,<-M]
   have:=yW0 ((h.setCell ⟨mb,3,none⟩ (.slice (some ⟨H,0,none⟩) P P)).setCell ⟨mb,4,none⟩ (.slice (some ⟨h.heap.size,0,none⟩) n n)) (.cells mc 130)
   rw[sX] at this
   exact this
 obtain⟨p1,p2⟩:=e2.is
 rw[M]
 exact⟨_,_,rfl,p1,fun k A=>zY0 a4.out.size (p2 k A),bt a4.out b7⟩
section
variable {w c:World} {b d:Nat->Nat} {a:Ad} {P n q T:Nat} {M:Mc}
def ER {f:Nat} {O R:Nat->Int} (h:Ex.Rt f O R):1<=f/\f<=64:=by
 obtain⟨y,h⟩:=h
 rcases h with ⟨_,e,_⟩|⟨_,_,j,_,_,_,e,_⟩|⟨_,_,_,_,_,e,_⟩|⟨i,g,_⟩
 ·cases e
 ·cases e
 ·cases e
 omega
theorem Nk:(Tryz.prog.info? 35).map (fun i=>(i.zero,i.size,i.bytes))=some (some (.slice none 0 0),1,24):=by rfl
def ax.Gi (h:ax w b a P n q T M) (i:Option Addr) (e g:Nat) (f:e<9223372036854775808) (O R:Nat->Int) (j:Ex.lJ w i e O R) {x y:Int} (k:Ex.vR e O R x y) (s:x≠0):
  vQ 18 #[ak a.m,.slice i e g] w (.tuple #[ab 0,ab x]):=by
 have o:=aa (Ex.fO w i e g f O R j x y k)
 have l:(x !=0)=true:=y_
 clear h j k
 refine ge ?_
 go_wp2_with (go_at_call 51;refine cH o.out fun r p=> ?_)
 go_ret2
 exact⟨rfl,p.out⟩
def ax.sQ (h:ax w b a P n q T M) (o:Option Addr) (f j:Nat) (O R:Nat->Int) (p:Ex.lJ w o f O R) (r:Ex.Rt f O R) (s:M.pr.length=16):
  vQ 18 #[ak a.m,.slice o f j] w (.tuple #[ab 0,ab 4]):=by
 obtain⟨y,k⟩:=r
 have u:=aa (Ex.fO w o f j (by have:=ER ⟨y,k⟩;omega) O R p 0 y k)
 obtain⟨v,B,l,g⟩:=h.pg
 obtain⟨D,C,rfl⟩:=g.form
 rw[s] at l
 have x:=aa fun V (i:aC w V)=>kc i l
 clear h p k g l
 refine ge ?_
 go_wp2_with (go_at_call 51;refine(u.out).mono ?_;rintro e A ⟨rfl,i⟩;have z:=aa i;have t:=x.out _ i;clear i)
 go_ret2
 exact⟨rfl,z.out⟩
def ax.vB (h:ax w b a P n q T M) (J:Option Addr) (f x:Nat) (O R:Nat->Int) (hp:Ex.lJ w J f O R) (hr:Ex.Rt f O R) (hf:M.pr.length<16):
  aB 18 #[ak a.m,.slice J f x] w fun e c=>e=aS #[ab M.pr.length,ab 0]/\aD w c b a P n q T {M with pr:=M.pr++[⟨f,O,R⟩]}:=by
 have a7:=ER hr
 obtain⟨i0,a8,a6,a5,a4⟩:=Cb.info_parts Nk
 obtain⟨y,hc⟩:=hr
 have HK:=aa (Ex.fO w J f x z_ O R hp 0 y hc)
 have Z:Hid (∀V,aC w V-> ∃F E I,V.cell? (af a.m 2)=some (.slice F M.pr.length E)/\zX V b (.slice F M.pr.length E) M.pr I/\ax V b a P n q T M/\Ex.lJ V J f O R):=fun V s=>by
  obtain⟨v,I,e2,r⟩:=(h.below s).pg
  obtain⟨F,E,rfl⟩:=r.form
  exact⟨F,E,I,e2,r,h.below s,hp.below s⟩
 have HR:=aa (show Ex.Rt f O R from⟨y,hc⟩)
 clear h hp hc
 have b5:((M.pr.length:Int)==16)=false:=y_
 have b4:M.pr.length≠16:=z_
 have a0:=aa a7
 refine ge ?_
 go_wp2_with (go_at_call 51;refine(HK.out).mono ?_;rintro e w1 ⟨rfl,s⟩;have HB:=aa s;obtain⟨F,E,I,e2,r,N,A⟩:=Z.out _ s;have G:=aa r;have b0:=aa N;have a9:=aa A;have H:=aa e2;clear s r N A)
 have b2:Hid (∀V,lk w1 V->aB 52 #[.slice J f x] V fun e c=> ∃l i,e= .returned (.slice l f i)/\c.ownsRow w1.heap.size 83 2 (.slice l f i) f (Ex.aP O R f)/\aC w1 c):=fun V hl=>by
  refine(BN V J f x O R (a9.out.below (hl.jC cj)) a0.out.1 a0.out.2).mono ?_
  rintro e c ⟨v',rfl,ho,s⟩
  obtain⟨l,i,rfl⟩:=Cb.aJ ho
  rw[hl.1] at ho
  exact⟨l,i,rfl,ho,hl.jC s⟩
 have b3:Hid (∀(g:World) (l:Option Addr) (i:Nat),aC w1 g->Hid ((g.alloc (.cells #[.slice l f i] 35)).ownsRow 0 35 1 (.slice F M.pr.length E) M.pr.length I)/\Hid (∀j u,([.slice l f i]:List Value)[j]? =some u->(g.alloc (.cells #[.slice l f i] 35)).cell? (((ao g.heap.size):Addr).add j)=some u)):=fun g l i s=>by
  refine⟨aQ G.out.row (fun k hk=> ?_),fun j u z=> ?_⟩
  ·exact(bt s ((i4 g.heap.size g).alloc aT _)).block k (au G.out.row hk).2.1
  ·match j,z with
   |0,z=>injection z with z;subst z;exact bB _ _ _ 0 _ rfl
 clear Z HK
 refine wp_region_held_drew (S:=fun _=>True) (by rfl) ?_ (fun hHeld=> ?_)
 ·trivial
 refine st ?_
 repeat' first
  |refine dn ?_
  |refine tk ?_
  |refine rd ?_
  |exact oA
  |refine oE ?_
  |refine oC ?_ ?_
  | (refine dU 6 (fun K C=> ?_)
     go_simp
     go_at_call 52
     refine(b2.out _ (by exact⟨rfl,rfl,rfl,rfl⟩)).mono ?_
     rintro e g ⟨l,i,rfl,L,t⟩
     have X:=aa L
     have a2:=aa t
     have k2:=kc t H.out
     have k3:=fun o=>kc (bt t ((i4 g.heap.size g).alloc aT o)) H.out
     clear L t
     refine C.out _ _ ?_ (fun hHeld=> ?_)
     ·trivial
     clear C K
     try simp only[cV])
  | (refine dU 8 (fun K C=> ?_)
     obtain⟨W,Y⟩:=b3.out g l i a2.out
     refine cC _ (by rfl) _ _ _ (by rfl) 0 35 i0 (.slice none 0 0) 1 24 Tryz.underlying102 a8 a6 a5 a4 rfl z_ (.slice F M.pr.length E) M.pr.length I (by rfl) W.out (ao g.heap.size) 1 1 [.slice l f i] (by rfl) rfl Y.out (by intro u z;simp at z;subst z;rfl) (by unfold maxLen;omega) z_ (Nat.zero_le _) ?_
     intro v1 w3 D U B
     obtain⟨y1,y2,Q⟩:=b0.out.LS H.out G.out (bt a2.out ((i4 g.heap.size g).alloc aT (.cells #[.slice l f i] 35))) (p:=⟨f,O,R⟩) (u:= .slice l f i) (aQ X.out (fun k hk=>zU0 _ _ _ (au X.out hk).2.1)) HR.out D U B
     obtain⟨a3,d3,rfl⟩:=Cb.aJ D
     have b1:=aa Q
     have y5:=Gt.aU w3 (af a.m 2) (.slice a3 (M.pr.length+1) d3) _ y1
     clear Q D U B W Y
     refine C.out _ _ ?_ (fun hHeld=> ?_)
     ·trivial
     clear C K
     try simp only[cV])
  | (refine dU _ (fun K C=> ?_)
     go_simp
     refine C.out _ _ ?_ (fun hHeld=> ?_)
     ·trivial
     clear C K
     try simp only[cV])
 all_goals
  refine⟨?_⟩
  go_wp2
  go_ret2
  exact⟨q_,aD.ahead HB.out b1.out⟩
end
end Go.Proofs.YtnmhcgpnhlhcgaaGreatDoor
