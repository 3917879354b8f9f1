/- YtnmhcgpnhlhcgaaGreatDoorKj: of the texts I18 I19 I20 I21 I22 I23 I24 I25 I26 I27 I28 I29 I30 I31 I32 I33 what is wanted. -/
import Derived.Test.YtnmhcgpnhlhcgaaGreatDoorK0
import Derived.Test.YtnmhcgpnhlhcgaaGreatDoorKi
import Derived.Test.YtnmhcgpnhlhcgaaGreatDoorKa
import Derived.OrdersHeld
import Derived.OrdersIn
import Derived.Laws.EntriesVeiled
import Derived.Shelf.SlicesE.Delete
import Derived.Deep.AppendLies
set_option maxHeartbeats 16000000
set_option maxRecDepth 100000
set_option linter.unusedVariables false
set_option linter.defProp false
set_option linter.unusedSimpArgs false
namespace Go.Proofs.YtnmhcgpnhlhcgaaGreatDoor.Pi
open Go.Proofs.YtnmhcgpnhlhcgaaGreatDoor.Ke
open Go.Shelf
open Go.RowKit
section
variable {w:World} {a s:Nat} {b c:Value} {V:List Value} {T:List Th} {L:List Lk}
theorem Ih (h:dj w a s b c V T L) (t:Int) (d:oR T t=false):vQ 198 #[ak s,ab t] w (.slice none 0 0):=by
 have e:=aa (mI h t)
 rw[d] at e
 clear h d
 refine ge ?_
 go_wp2_with (go_at_call 128;refine cS e.out ?_)
 go_ret
 exact⟨rfl,cj⟩
def gW (T:List Th) (L:List Lk) (t:Int):List Int:=if oR T t then fq L t else []
def Ib (h:dj w a s b c V T L) (t:Int):aB 198 #[ak s,ab t] w fun e w'=> ∃v,e= .returned v/\w'.ownsRow w.heap.size 3 1 v (gW T L t).length ((gW T L t).map (Value.int .i64))/\aC w w':=by
 unfold gW
 cases d:oR T t with
 |true=>
  rw[if_pos rfl]
  exact callsIn_wide.1 (IU h t d)
 |false=>
  rw[if_neg q_]
  grind[Pi.Ih,Calls.mono,World.ownsRow_nil]
end
end Go.Proofs.YtnmhcgpnhlhcgaaGreatDoor.Pi
namespace Go.Proofs.YtnmhcgpnhlhcgaaGreatDoor.Pi
open Go.Proofs.YtnmhcgpnhlhcgaaGreatDoor.Ke
open Go.Lib
open Go.RowKit
theorem _root_.Go.Proofs.YtnmhcgpnhlhcgaaGreatDoor.Kept.fM {l D k:Nat} {r:Loop} {W:World} (h:Kept l D r W) (b:l≠k) (a:D≠k) (o:Obj):Kept l D r (W.putObj k o):=
 ⟨(World.putObj_heap_other b).trans h.1,(World.putObj_heap_other a).trans h.2⟩
structure NH (n:Nat) (J:Nat->World->Prop):Prop where
 al: ∀k W o,J k W->J k (World.alloc W o)
 pu: ∀k W l o o',n<=l->W.heap[l]? =some o->o.isCells=false->J k W->J k (W.putObj l o')
structure Kk (n:Nat) (S:Nat->Prop) (V V':World):Prop where
 kp:KeepsFrom n V V'
 kc: ∀b c t x,¬S b->V.heap[b]? =some (.cells c t x)->V'.heap[b]? =some (.cells c t x)
theorem Kk.refl (n:Nat) (S:Nat->Prop) (V:World):Kk n S V V:=⟨KeepsFrom.refl _ _,fun _ _ _ _ _ h=>h⟩
theorem Kk.trans {n:Nat} {S:Nat->Prop} {A B C:World} (h:Kk n S A B) (k:Kk n S B C):Kk n S A C:=⟨h.kp.trans k.kp,fun b c t x a d=>k.kc b c t x a (h.kc b c t x a d)⟩
theorem Kk.wide {n a:Nat} {S:Nat->Prop} {A B:World} (h:Kk n S A B) (d:n<=a):Kk a S A B:=⟨⟨h.kp.size,fun k o e b c=>h.kp.same k o z_ b c⟩,h.kc⟩
def Kk.below {n:Nat} {S:Nat->Prop} {A B:World} (h:aC A B):Kk n S A B:=
 ⟨⟨h.size,fun k o _ a _=>(h.block k (zW0.1 a).1).trans a⟩,fun b c t x _ d=>(h.block b (zW0.1 d).1).trans d⟩
theorem Kk.setCell {n:Nat} {S:Nat->Prop} {A B:World} (h:Kk n S A B) {a:Addr} (f:S a.block) (v:Value):Kk n S A (B.setCell a v):=
 h.trans ⟨(yX0 B a v).from n,fun b c t x e d=>(zZ0 _ _ _ _ y_).trans d⟩
theorem Kk.put {n:Nat} {S:Nat->Prop} {A B:World} (h:Kk n S A B) {l:Nat} {o o':Obj} (i:l<n) (a:B.heap[l]? =some o) (g:o.isCells=false):Kk n S A (B.putObj l o'):=by
 refine h.trans ⟨⟨q_,fun k x j f _=>(World.putObj_heap_other z_).trans f⟩,fun b c t x _ d=>(World.putObj_heap_other (fun e=> ?_)).trans d⟩
 subst e
 rw[d] at a
 obtain rfl:=Option.some.inj a
 cases g
def Kk.box {n:Nat} {S:Nat->Prop} {A B:World} (h:Kk n S A B) {b:Nat} {t:TypeId} {v:Value} (a: ¬S b) (c:Boxed A b t v):Boxed B b t v:=h.kc b _ _ _ a c
def mM {V:World} {b:Nat} {a:TypeId} {v:Value} {k:Nat} {o o':Obj} (d:Boxed V b a v) (c:V.heap[k]? =some o) (f:o.isCells=false):Boxed (V.putObj k o') b a v:=by
 refine d.kept (grownBy_putObj' V k o') (fun e=> ?_)
 cases e
 rw[show V.heap[b]? =_ from d] at c
 obtain rfl:=Option.some.inj c
 cases f
def DC {P:Program} {n:Nat} {g:Operand} {p:Tmp} {assign body:Code} {Q:Exit->Act->World->Prop} {a:Act} {w:World} {gf:Nat} {lb:Array Value}
  (X:a.eval g= .func (.func gf) #[] lb) (eg: ∀args w,(callFunc gf args).run P w= .ok (.enter gf args) w)
  (J:Nat->World->Prop) (N Y:Nat->Prop) (enc:Nat->Value) (m:Nat) (M:Nat->Act) (S:Nat->Prop)
  (i:NH w.heap.size J)
  (a0: ∀k W,N k->J k W->J (k+1) W) (h0:J 0 w)
  (z: ∀(l:Nat) (d:Nat->World->Prop) (W:World),(∀k W,d k W->J k W)->NH W.heap.size d->(∀k W,N k->d k W->d (k+1) W)->
   (∀k V,Y k->d k V->YieldAt Fence.wide (n-1-1) P l #[enc k] V fun e O=>e= .returned (.bool true)/\d (k+1) O/\Kk W.heap.size S V O)->d 0 W->w.heap.size+2=W.heap.size->
   CallsIn Fence.wide (n-1) P gf (#[.func (.yield l) #[] #[]]++lb) W fun e u=>(∃v,e= .returned v)/\d m u)
  (E: ∀(l k:Nat) (W:World) (K:Act->World->Prop),K (M k) W->assign.wpIn (Fence.wide.inRound l) (n-1-1) P (Exit.then K (fun _ _ _=>False)) {tmps:=a.tmps.setIfInBounds p (enc k),defers:=[]} W)
  (C: ∀(l k:Nat) (W:World),Y k->J k W->body.wpIn (Fence.wide.inRound l) (n-1-1) P (fun e _ u=>e= .normal/\Kk w.heap.size S W u/\J (k+1) u) (M k) W)
  (B: ∀(D:Nat) (W:World),w.heap.size<=D->J m W->W.heap[D]? =some (.deferred (some []))->Q .normal {a with defers:={target:= .collected D,args:= #[]}::a.defers} W):
  (Code.rangeFunc g #[p] assign body).wpIn Fence.wide n P Q a w:=by
 refine wpIn_rangeFunc fun fn A=> ?_
 have q:w.heap.size+1≠w.heap.size:=z_
 obtain⟨r,j⟩: ∃r:Loop,r={state:= .ready,pending:=none,fn,tmps:=a.tmps,params:= #[p],assign,body,defers:=w.heap.size}:=⟨_,rfl⟩
 have y:Kept (w.heap.size+1) w.heap.size r ((w.alloc (.deferred (some []))).alloc (.loop r)):=by
  refine⟨?_,(zU0 _ _ _ q_).trans (yW0 w _)⟩
  have:=yW0 (w.alloc (.deferred (some []))) (.loop r)
  simp_all
 have b:r.state= .ready:=by rw[j]
 refine⟨w.heap.size+1,[{target:= .collected w.heap.size,args:= #[]}],(w.alloc (.deferred (some []))).alloc (.loop r),{target:= .fn (.func gf) lb,args:= #[.func (.yield (w.heap.size+1)) #[] #[]]},(w.alloc (.deferred (some []))).alloc (.loop r),gf,#[.func (.yield (w.heap.size+1)) #[] #[]]++lb,(w.alloc (.deferred (some []))).alloc (.loop r),?_,?_,fun _ _=>trivial,?_,fun h=>(by cases h),?_⟩
 ·rw[j];exact run_enterLoop_outer _ _ _ _ _
 ·simp only[resolve,X]
  simp[go_sem]
 ·simp[invoke,go_sem,eg]
 ·refine(z (w.heap.size+1) (fun k W=>J k W/\Kept (w.heap.size+1) w.heap.size r W) _ y_ ⟨fun k W o h=>⟨i.al k W o h.1,h.2.alloc o⟩,fun k W l o L U T Z h=> ?_⟩ y_ ?_ ⟨i.al 0 _ _ (i.al 0 _ _ h0),y⟩ q_).mono ?_
  ·simp only[World.size_alloc] at U
   exact⟨i.pu k W l o L z_ T Z h.1,h.2.fM z_ z_ L⟩
  ·rintro k W hY ⟨I,c⟩
   have R:=run_yield (P:=P) (args:= #[enc k]) c.1 y_
   refine⟨_,_,_,_,R,roundIn_of_wpIn (by rw[j];exact A) ?_⟩
   have e1:r.assign=assign:=by rw[j]
   have e2:r.body=body:=by rw[j]
   have e3:((r.params.zip #[enc k]).foldl (fun tmps (t,a)=>tmps.setIfInBounds t a) r.tmps)=a.tmps.setIfInBounds p (enc k):=by simp_all
   rw[e1,e2,e3]
   refine E _ k W _ ?_
   refine⟨_,run_beginRound c.1 b,?_⟩
   have H:J k (W.putObj (w.heap.size+1) (.loop {r with state:= .busy})):=i.pu k W _ _ _ z_ c.1 rfl I
   have F:=c.put q {r with state:= .busy}
   refine wpIn_mono (C _ k _ hY H) ?_
   rintro e a3 W3 ⟨rfl,s,G⟩
   have f:=F.keeps z_ aT s.kp
   have x:Kk (w.heap.size+2) S W W3:=((Kk.refl _ S W).put z_ c.1 rfl).trans (s.wide z_)
   refine⟨_,_,run_endRound none f.1,rfl,⟨i.pu (k+1) W3 _ _ _ z_ f.1 rfl G,?_⟩,?_⟩
   ·grind[Kept.put]
   ·simp only[World.size_alloc]
    exact x.put z_ f.1 rfl
  ·rintro e W2 ⟨⟨v,rfl⟩,I,c⟩
   refine⟨none,_,?_,B _ _ aT (i.pu m W2 _ _ (.loop {r with state:= .exhausted}) z_ c.1 rfl I) (c.put q _).2⟩
   have:=run_endLoop (P:=P) c.1 y_
   grind
end Go.Proofs.YtnmhcgpnhlhcgaaGreatDoor.Pi
namespace Go.Proofs.YtnmhcgpnhlhcgaaGreatDoor.Pi
open Go.Proofs.YtnmhcgpnhlhcgaaGreatDoor.Ke
open Go.Shelf
open Go.RowKit
attribute [local go_sem] Oper.semAt_some
structure Vw (n0:Nat) (W:World) (s gt ct:Nat) (a:Option Addr) (cap:Nat) (ln:Nat->Option Addr×Nat) (T:List Th) (L:List Lk):Prop where
 sl:s<n0
 tl:gt<n0
 al: ∀g,a=some (ao g)->g<n0
 t:LA W s gt ct T
 c1:W.cell? (af s 1)=some (.slice a L.length cap)
 le:L.length<=cap/\cap<=maxLen
 ce: ∀(j:Nat) y,L[j]? =some y-> ∃g,a=some (ao g)/\W.cell? (af g (j*2))=some (ab y.h)/\W.cell? (af g (j*2+1))=some (.slice (ln j).1 y.l.length (ln j).2)/\y.l.length<=(ln j).2/\(ln j).2<=maxLen/\
  ∀(i:Nat) (x:Nat),y.l[i]? =some x-> ∃gg,(ln j).1=some (ao gg)/\gg<n0/\W.cell? (af gg i)=some (ab x)
def Vw.below {d:Nat} {W W':World} {s k n:Nat} {a:Option Addr} {c:Nat} {f:Nat->Option Addr×Nat} {T:List Th} {L:List Lk} (h:Vw d W s k n a c f T L) (b:Below d W W'):Vw d W' s k n a c f T L:=by
 refine⟨h.sl,h.tl,h.al,h.t.below b h.sl h.tl,(b.cell (p:=(af s 1)) h.sl).trans h.c1,h.le,fun j y v=> ?_⟩
 obtain⟨g,e,q,o,u,r,w⟩:=h.ce j y v
 refine⟨g,e,(b.cell (p:=(af g (j*2))) (h.al g e)).trans q,(b.cell (p:=(af g (j*2+1))) (h.al g e)).trans o,u,r,fun i x hi=> ?_⟩
 obtain⟨l,A,m,z⟩:=w i x hi
 exact⟨l,A,m,(b.cell (p:=(af l i)) m).trans z⟩
def jU (V:List Value) (j:Nat):Option Addr×Nat:=match V[j]? with
 |some (.slice a _ c)=>(a,c)
 |_=>(none,0)
def dj.vw {w:World} {f s:Nat} {t u:Value} {V:List Value} {T:List Th} {L:List Lk} (h:dj w f s t u V T L): ∃d l a c,t= .slice (some (ao d)) T.length l/\u= .slice a L.length c/\Vw w.heap.size w s d l a c (jU V) T L:=by
 obtain⟨d,l,e,J⟩:=h.Qh
 obtain⟨a,c,r,z⟩:=h.Pu
 refine⟨d,l,a,c,e,r,h.lt,(au h.tho (k:=d) (by rw[e];rfl)).2.1,fun g R=>(au h.lko (k:=g) (by rw[r,R];rfl)).2.1,J,z.c1,z.le,fun j y m=> ?_⟩
 have M:=(i6.1 m).1
 obtain⟨v,n⟩:=h.line M
 obtain⟨g,B,q,_,_,_,_,_,O⟩:=h.kR z_
 rw[r] at q
 simp at q
 obtain⟨D,C⟩:=O j y v m n
 have b:=h.lin j y v m n
 obtain⟨G,F,rfl,I,H⟩:=fo b
 have Q:jU V j=(G,F):=by unfold jU;rw[n]
 rw[Q]
 refine⟨g,q.1,D,C,I,H,fun i x hi=> ?_⟩
 have N:=(i6.1 hi).1
 rcases b.2 with ⟨p,U⟩|⟨P,E,S,p,_,o,_⟩
 ·omega
 ·simp at p
  obtain⟨A,rfl⟩:=p
  refine⟨P,A,(zW0.1 o).1,?_⟩
  subst A
  rw[b.cellAt i z_]
  simp[ints,hi]
theorem iL (A B:List Lk) (t:Nat):behind (A++B) t=behind A t++behind B t:=by unfold behind;simp
def nD {α:Type} {l:List α} {j:Nat} {y:α} (h:l[j]? =some y):l.take (j+1)=l.take j++[y]:=by
 rw[List.take_add_one,h];rfl
def Lh {L:List Lk} {t j:Nat} {y:Lk} (a:L[j]? =some y) (h: ¬y.h=(t:Int)):behind (L.take (j+1)) t=behind (L.take j) t:=by
 rw[nD a,iL]
 simp[behind,h]
theorem Av {L:List Lk} {t j:Nat} {y:Lk} (a:L[j]? =some y) (h:y.h=(t:Int)):behind (L.take (j+1)) t=behind (L.take j) t++y.l:=by
 rw[nD a,iL]
 simp[behind,h]
def JS (L:List Lk) (t j:Nat):behind (L.take j) t<+:behind L t:=by
 grind[List.take_append_drop,Pi.iL]
def Ns {L:List Lk} {t j i x:Nat} {y:Lk} (a:L[j]? =some y) (h:y.h=(t:Int)) (b:y.l[i]? =some x):(behind L t)[(behind (L.take j) t).length+i]? =some x:=by
 obtain⟨r,c⟩:=JS L t (j+1)
 grind[Pi.Av]
def wT (P:Nat) (l B1 q s gt ct:Nat) (a:Option Addr) (F:Nat) (u:Nat->Option Addr×Nat) (n0:Nat) (T:List Th) (L:List Lk) (t:Int) (n1:Nat) (J:Nat->World->Prop) (hL:L.length<=32)
  (D: ∀k W,J k W->W.cell? (ao B1)=some (ak s)/\W.cell? (ao q)=some (ab t)/\Vw n0 W s gt ct a F u T L)
  (X: ∀k W,J k W->q<W.heap.size)
  (Y:NH n1 J)
  (V: ∀k W,(∀y,L[k]? =some y-> ¬y.h=t)->J k W->J (k+1) W)
  (S: ∀k W,(∃y,L[k]? =some y/\y.h=t)->J k W->YieldAt Fence.wide (P-1) Tryz.prog l #[ab k] W fun e W'=>e= .returned (.bool true)/\J (k+1) W')
  (W:World) (E:J 0 W):
  CallsIn Fence.wide P Tryz.prog 205 #[.func (.yield l) #[] #[],ak B1,ak q] W fun e W'=>(∃v,e= .returned v)/\J L.length W':=by
 obtain⟨b1,_,d⟩:=D 0 W E
 have c1:=d.c1
 have a0:=d.le
 have HJ:=aa D
 have HB:=aa X
 have HA:=aa Y
 have HN:=aa V
 have HY:=aa S
 have H0:=aa E
 clear D Y V S E d X
 refine callsIn_of_wp Tryz.func205 rfl trivial ?_ rfl
 simp only[Tryz.ntmps205,j_,Nat.reduceAdd,Nat.reduceSub]
 gi_wp2
 gi_loopw [11] (fun p wr=> ∃(j:Nat),j<=L.length/\p=ab j/\J j wr)
  (fun p _=>L.length-(RowKit.intOf p).toNat)
 case atStart=>exact⟨0,z_,rfl,H0.out⟩
 case round=>
  obtain⟨j,hj,rfl,b⟩:=hrel
  by_cases A:j<L.length
  ·have f:(j:Int)<L.length:=by omega
   obtain⟨y,x⟩: ∃y,L[j]? =some y:=⟨_,zX0 A⟩
   obtain⟨a1,b2,d⟩:=HJ.out j wr b
   obtain⟨g,rfl,y0,r,_⟩:=d.ce j y x
   generalize y.l.length=I at r
   generalize (u j).1=N at r
   generalize (u j).2=M at r
   have R:=HB.out j wr b
   have Q: ¬q=wr.heap.size:=z_
   have c:=aa b
   have n:=aa x
   clear b x d
   by_cases C:y.h=t
   ·have B:(y.h==t)=true:=by simp[C]
    have m:J j (wr.alloc (.cells #[ab t,.slice N I M] 164)):=HA.out.al _ _ _ c.out
    obtain⟨fn,O,o,Z,w,U⟩:=HY.out j _ ⟨y,n.out,C⟩ m
    clear m
    gi_wp2
    refine⟨fun h=>(by cases h),U.mono ?_⟩
    rintro e W3 ⟨rfl,i⟩
    have G:=aa i
    clear i w U HY
    gi_wp2
    go_roundw
    case rel=>exact⟨j+1,z_,by go_num,G.out⟩
    case measure=>simp[RowKit.intOf];omega
   ·have B:(y.h==t)=false:=by simp[C]
    have H:Hid (J (j+1) (wr.alloc (.cells #[ab y.h,.slice N I M] 164))):=HN.out j _ (fun z hz=>by rw[n.out] at hz;grind) (HA.out.al _ _ _ c.out)
    gi_wp2
    refine⟨fun _ h=>(by cases h),?_⟩
    gi_wp2
    go_roundw
    case rel=>exact⟨j+1,z_,by go_num,H.out⟩
    case measure=>simp[RowKit.intOf];omega
  ·have f: ¬(j:Int)<L.length:=by omega
   obtain rfl:j=L.length:=z_
   have c:=aa b
   clear b
   gi_wp2
   go_end0
   exact⟨⟨_,rfl⟩,c.out⟩
def Cx (b s:Nat) (t:Int) (w:World):
  CallsIn Fence.wide b Tryz.prog 137 #[ak s,ab t] w fun e a=>e= .returned (.func (.func 177) #[] #[ak w.heap.size,ak (w.heap.size+1)])/\
   a=(w.alloc (.cells #[ak s] 96)).alloc (.cells #[ab t] 3):=by
 refine callsIn_of_wp Tryz.func137 rfl trivial ?_ rfl
 simp only[Tryz.ntmps137,j_,Nat.reduceAdd,Nat.reduceSub]
 gi_wp2
 go_ret
 simp
def Fo {m e g:Nat} {P:Program} {l:Nat} {f:FuncId} {tmps:Array Value} {a b:Code} {w:World} {R:Ending->World->Prop} (h:RoundIn Fence.wide m P l f tmps a b w R):RoundIn (Fence.wide.inRound g) e P l f tmps a b w R:=⟨h.1,fun c i _=>h.2 c i (fun d q=>by cases q)⟩
def rE (l B1 B2 s gt ct:Nat) (a:Option Addr) (a2:Nat) (ln:Nat->Option Addr×Nat) (n0:Nat) (T:List Th) (L:List Lk) (t:Nat) (n1:Nat) (J:Nat->World->Prop) (S:Nat->Prop) (hL:L.length<=32) (hS: ∀b,n1<=b-> ¬S b)
  (hJ: ∀k W,J k W->Boxed W B1 96 (ak s)/\Boxed W B2 3 (ab t)/\Vw n0 W s gt ct a a2 ln T L)
  (hA:NH n1 J)
  (hY: ∀k W,k<(behind L t).length->J k W->YieldAt Fence.wide 8 Tryz.prog l #[ab (((behind L t)[k]?.getD 0:Nat):Int)] W fun e W'=>e= .returned (.bool true)/\J (k+1) W'/\Kk n1 S W W')
  (W:World) (hW:n1<=W.heap.size) (h0:J 0 W):
  CallsIn Fence.wide 9 Tryz.prog 177 #[.func (.yield l) #[] #[],ak B1,ak B2] W fun e W'=>(∃v,e= .returned v)/\J (behind L t).length W':=by
 obtain⟨F,E,r⟩:=hJ 0 W h0
 have b1:=F.cell
 have b2:=E.cell
 have d0:=F.lt
 have c9:=E.lt
 have c7: ¬B1=W.heap.size:=z_
 have c6: ¬B2=W.heap.size:=z_
 have HJ:=aa hJ
 have M:=aa hA
 have HY:=aa hY
 have H0:=aa h0
 clear hJ hA hY h0 r F E
 refine callsIn_of_wp_marks Tryz.func177 rfl trivial ?_ rfl
 simp only[Tryz.ntmps177,j_,Nat.reduceAdd,Nat.reduceSub]
 gi_wp2_with (refine⟨trivial,?_⟩;gi_at_call 178;refine(A6 _ s (t:Int) _).mono ?_;rintro e w' ⟨rfl,rfl⟩)
 have O:((((W.alloc (.cells #[.func (.yield l) #[] #[]] 110)).alloc (.cells #[ak s] 96)).alloc (.cells #[ab t] 3))).heap.size=W.heap.size+3:=q_
 have bY:=((Boxed.new W 110 (.func (.yield l) #[] #[])).alloc (.cells #[ak s] 96)).alloc (.cells #[ab t] 3)
 have bG:=(Boxed.new (W.alloc (.cells #[.func (.yield l) #[] #[]] 110)) 96 (ak s)).alloc (.cells #[ab t] 3)
 have bT:=Boxed.new ((W.alloc (.cells #[.func (.yield l) #[] #[]] 110)).alloc (.cells #[ak s] 96)) 3 (ab t)
 have H:=M.out.al 0 _ (.cells #[ab t] 3) (M.out.al 0 _ (.cells #[ak s] 96) (M.out.al 0 _ (.cells #[.func (.yield l) #[] #[]] 110) H0.out))
 simp only[World.size_alloc] at bG bT|-
 generalize ((W.alloc (.cells #[.func (.yield l) #[] #[]] 110)).alloc (.cells #[ak s] 96)).alloc (.cells #[ab t] 3)=W0 at O bY bG bT H|-
 have HS:=aa hS
 clear hS
 have a1:NH W0.heap.size (fun j V=>J ((behind (L.take j) t).length) V/\Boxed V W.heap.size 110 (.func (.yield l) #[] #[])/\Boxed V (W.heap.size+1) 96 (ak s)/\Boxed V (W.heap.size+1+1) 3 (ab t)):=by
  refine⟨fun k V o h=>⟨M.out.al _ _ _ h.1,h.2.1.alloc _,h.2.2.1.alloc _,h.2.2.2.alloc _⟩,fun k V x o o' N ho hc h=>⟨M.out.pu _ _ _ _ _ z_ ho hc h.1,mM h.2.1 ho hc,mM h.2.2.1 ho hc,mM h.2.2.2 ho hc⟩⟩
 have d3:=aa a1
 have Z: ∀k (V:World),(∀y,L[k]? =some y-> ¬y.h=(t:Int))->(J ((behind (L.take k) t).length) V/\Boxed V W.heap.size 110 (.func (.yield l) #[] #[])/\Boxed V (W.heap.size+1) 96 (ak s)/\Boxed V (W.heap.size+1+1) 3 (ab t))->
   (J ((behind (L.take (k+1)) t).length) V/\Boxed V W.heap.size 110 (.func (.yield l) #[] #[])/\Boxed V (W.heap.size+1) 96 (ak s)/\Boxed V (W.heap.size+1+1) 3 (ab t)):=by
  intro k V hn h
  cases A:L[k]? with
  |none=>
   have hk:=List.getElem?_eq_none_iff.1 A
   rw[List.take_of_length_le z_]
   rw[List.take_of_length_le z_] at h
   exact h
  |some y=>rw[Lh A (hn y A)];exact h
 have X:(behind (L.take L.length) t).length=(behind L t).length:=q_
 refine DC (gf:=205) (lb:= #[ak (W.heap.size+1),ak (W.heap.size+1+1)]) rfl (enters_of Tryz.func205 (by rfl) rfl)
  (fun j V=>J ((behind (L.take j) t).length) V/\Boxed V W.heap.size 110 (.func (.yield l) #[] #[])/\Boxed V (W.heap.size+1) 96 (ak s)/\Boxed V (W.heap.size+1+1) 3 (ab t))
  (fun k=> ∀y,L[k]? =some y-> ¬y.h=(t:Int)) (fun k=> ∃y,L[k]? =some y/\y.h=(t:Int)) (fun k=>ab k) L.length
  (fun k=>{tmps:= #[.func (.yield l) #[] #[],ak B1,ak B2,ak W.heap.size,ab k,undef,undef,ak s,ab t,.func (.func 205) #[] #[ak (W.heap.size+1),ak (W.heap.size+1+1)],ab k,undef,undef,undef,undef,undef,undef,undef,undef,undef,undef,undef,undef,undef,undef,undef,undef,undef,undef],defers:=[]})
  S a1 Z ⟨by simpa [behind] using H,bY,bG,bT⟩ ?hit ?assign ?body ?done
 case hit=>
  intro l' J' W1 h1 h2 h3 h4 h5 h6
  exact wT 8 l' _ _ s gt ct a a2 ln n0 T L (t:Int) W1.heap.size J' hL (fun k V h=>⟨(h1 k V h).2.2.1.cell,(h1 k V h).2.2.2.cell,(HJ.out _ _ (h1 k V h).1).2.2⟩) (fun k V h=>(h1 k V h).2.2.2.lt) h2 h3 (fun k V hk h=>(h4 k V hk h).mono (fun e V' q=>⟨q.1,q.2.1⟩)) W1 h5
 case assign=>
  intro l' k V K hK
  gi_wp2
  exact hK
 case body=>
  rintro l' k V ⟨y,A,hh⟩ ⟨G,c,f,d⟩
  obtain⟨P,a4,r⟩:=HJ.out _ _ G
  have c1:=r.c1
  have hk:=(i6.1 A).1
  have d1:(k:Int)<L.length:=z_
  have c8:=r.le
  obtain⟨g,rfl,y0,y1,l1,l2,_⟩:=r.ce k y A
  generalize C:(ln k).1=va at y1
  generalize Q:(ln k).2=vc at y1 l1 l2
  replace C:=aa C
  replace Q:=aa Q
  have q1:=P.cell
  have b8:=aa c
  have c0:=aa f
  have b9:=aa d
  have a8:=aa G
  have I:=aa A
  have d2:y.l.length<=9223372036854775807:=by have:=l2;unfold maxLen at this;omega
  clear c f d G P a4 r H bY bG bT
  gi_wp2
  gi_loopw [20] (fun p wr=> ∃(i:Nat),i<=y.l.length/\p=ab i/\J ((behind (L.take k) t).length+i) wr/\Boxed wr W.heap.size 110 (.func (.yield l) #[] #[])/\Boxed wr (W.heap.size+1) 96 (ak s)/\Boxed wr (W.heap.size+1+1) 3 (ab t)/\Kk W0.heap.size S V wr)
   (fun p _=>y.l.length-(RowKit.intOf p).toNat)
  case atStart=>exact⟨0,z_,rfl,a8.out,b8.out,c0.out,b9.out,Kk.refl _ _ _⟩
  case round=>
   obtain⟨i,hi,rfl,n,c,f,d,u⟩:=hrel
   by_cases U:i<y.l.length
   ·have R:(i:Int)<y.l.length:=by omega
    obtain⟨x,N⟩: ∃x,y.l[i]? =some x:=⟨_,zX0 U⟩
    have B:=Ns I.out hh N
    obtain⟨_,_,r⟩:=HJ.out _ _ n
    obtain⟨g2,e2,z0,z1,_,_,Y⟩:=r.ce k y I.out
    obtain⟨gg,e3,_,x0⟩:=Y i x N
    rw[C.out] at e3
    subst e3
    have bY:=c.cell
    have w:=(i6.1 B).1
    obtain⟨fn,tmps,assign,body,z,hR⟩:=HY.out _ wr w n
    rw[B] at z
    simp only[Option.getD_some] at z
    have b3:=aa c
    have b5:=aa f
    have b4:=aa d
    have a6:=aa u
    have HX:=aa N
    have HI:=aa (show i+1<=y.l.length from U)
    have HM:=aa (show y.l.length-(i+1)<y.l.length-i by omega)
    clear c f d u n r w B z0 z1 e2 N Y
    gi_wp2
    refine(Fo hR).mono ?_
    rintro e W3 ⟨rfl,a0,m⟩
    have c5:=aa (m.box (HS.out _ z_) b3.out)
    have c3:=aa (m.box (HS.out _ z_) b5.out)
    have b7:=aa (m.box (HS.out _ z_) b4.out)
    have a7:=aa (a6.out.trans (m.wide z_))
    have b0:=aa a0
    clear a0 m z hR HY
    gi_wp2
    go_roundw
    case rel=>exact⟨i+1,HI.out,by go_num,b0.out,c5.out,c3.out,b7.out,a7.out⟩
    assumption
   ·have R: ¬(i:Int)<y.l.length:=by omega
    obtain rfl:i=y.l.length:=z_
    have a9:=aa n
    have c4:=aa c
    have c2:=aa f
    have b6:=aa d
    have a3:=aa u
    clear n c f d u
    gi_wp2
    rw[O] at a3
    refine⟨a3.out,?_,c4.out,c2.out,b6.out⟩
    rw[Av I.out hh,List.length_append]
    exact a9.out
 case done=>
  rintro D V hD ⟨a5,_⟩ hK
  gi_wp2
  refine⟨q_,.inl ⟨_,_,rfl,run_takeDeferred hK,?_⟩⟩
  refine⟨_,results_none rfl _ _ _,⟨_,rfl⟩,?_⟩
  rw[<-X]
  exact M.out.pu _ _ _ _ _ z_ hK rfl a5
end Go.Proofs.YtnmhcgpnhlhcgaaGreatDoor.Pi
namespace Go.Proofs.YtnmhcgpnhlhcgaaGreatDoor.Pi
open Go.Proofs.YtnmhcgpnhlhcgaaGreatDoor.Ke
open Go.Shelf
open Go.RowKit
theorem ML (w:World) (e d c b a:Obj):aC w (((((w.alloc e).alloc d).alloc c).alloc b).alloc a):=
 ((((bq.alloc q_ _).alloc (by simp;omega) _).alloc (by simp;omega) _).alloc (by simp;omega) _)
def Lu (w:World) (a b:K):aB 138 #[.agg (bn a),.agg (bn b)] w fun e g=>e= .returned (.agg (bn (ir a b)))/\ ∃d c k j i,g=(((((w.alloc (.cells d 120)).alloc (.cells c 120)).alloc (.cells k 120)).alloc (.cells j 120)).alloc (.cells i 120)):=by
 have f:=aa (fun w=>wo w b a)
 unfold ir
 cases h:up b a<;>rw[h] at f<;>
 (refine ge ?_
  go_wp2_with (go_at_call 119;refine(f.out _).mono ?_;rintro e l ⟨rfl,d,c,rfl⟩)
  simp[bodyPost,results,Tryz.results138,go_sem]
  grind)
def Nj (w:World) (a b:K):vQ 138 #[.agg (bn a),.agg (bn b)] w (.agg (bn (ir a b))):=
 (Lu w a b).mono fun e c ⟨h,j,i,g,f,d,hw⟩=>⟨h,by grind[Pi.ML]⟩
structure Vf (T:List Th) (L:List Lk):Prop where
 ac:lh L
 lt: ∀y∈L,∀t∈y.l,t<T.length
 l2:L.length<=32
 t2:T.length<=1024
def dI.vf {T:List Th} {L:List Lk} (f:dI T L):Vf T L:=⟨f.ac,fun y a=>(f.lk y a).2.2.1,f.l2,f.t2⟩
noncomputable def jw (T:List Th) (L:List Lk) (t n:Nat):K:=((behind L t).take n).foldl (fun k x=>ir k (keyOf T L x)) (oQ T t)
def Bz {T:List Th} {L:List Lk} (h:lh L) (t:Nat):jw T L t (behind L t).length=keyOf T L t:=by grind[Pi.jw,Pi.D8]
def zr {T:List Th} {L:List Lk} {t n x:Nat} (a:(behind L t)[n]? =some x):jw T L t (n+1)=ir (jw T L t n) (keyOf T L x):=by
 unfold jw
 rw[nD a,List.foldl_append]
 rfl
def dH (V:World) (b:Nat) (k:K):Prop:=V.heap[b]? =some (.cells (bn k) 120 (0,0))
theorem dH.lt {V:World} {b:Nat} {k:K} (h:dH V b k):b<V.heap.size:=(zW0.1 h).1
def dH.alloc {V:World} {b:Nat} {k:K} (h:dH V b k) (o:Obj):dH (V.alloc o) b k:=(zU0 _ _ _ h.lt).trans h
def dH.below {V a:World} {b:Nat} {k:K} (h:dH V b k) (c:aC V a):dH a b k:=(c.block b h.lt).trans h
theorem dH.put {V:World} {b l:Nat} {k:K} {o o':Obj} (h:dH V b k) (a:V.heap[l]? =some o) (c:o.isCells=false):dH (V.putObj l o') b k:=by
 refine(World.putObj_heap_other (fun e=> ?_)).trans h
 subst e
 rw[show V.heap[b]? =_ from h] at a
 obtain rfl:=Option.some.inj a
 cases c
def dH.at {V:World} {b:Nat} {k:K} (h:dH V b k):At V b k:=by
 refine⟨?_,?_,?_⟩<;>(unfold World.cell?;rw[show V.heap[b]? =_ from h];rfl)
def dH.frozen {V:World} {b:Nat} {k:K} (h:dH V b k) (o:Nat):V.frozen? (af b o)=false:=by unfold World.frozen?;simp[show V.heap[b]? =_ from h]
def dH.set {V:World} {b:Nat} {k:K} (h:dH V b k) (k':K):dH (((V.setCell (ao b) (.bool k'.e)).setCell (af b 1) (aj k'.d)).setCell (af b 2) (aA k'.l)) b k':=by
 have f:=Go.Joins.block_setCell h (i:=0) (.bool k'.e)
 have c:=Go.Joins.block_setCell f (i:=1) (aj k'.d)
 have a:=Go.Joins.block_setCell c (i:=2) (aA k'.l)
 exact a
attribute [local go_sem] Oper.semAt_some
def J5 (s X ct:Nat) (a:Option Addr) (a2:Nat) (ln:Nat->Option Addr×Nat) (T:List Th) (L:List Lk) (f:Vf T L) (r:Nat->Nat) (hr: ∀t s,Edge L t s->r t<r s): ∀(m t:Nat),r t<m->t<T.length-> ∀(Y B j:Nat) (W:World),Y<=W.heap.size->Vw Y W s X ct a a2 ln T L->
  Boxed W B 96 (ak s)->Boxed W j 192 (.func (.func 136) #[] #[ak B,ak j])->
  CallsIn Fence.wide 10 Tryz.prog 136 #[ab t,ak B,ak j] W fun e W'=>e= .returned (.agg (bn (keyOf T L t)))/\aC W W':=by
 intro m
 induction m with
 |zero=>
  intro t hm
  omega
 |succ m ih=>
  intro t hm ht Y B j W N M i c
  have b8:(t:Int)<T.length:=z_
  obtain⟨x,hx⟩: ∃x,T[t]? =some x:=⟨_,zX0 ht⟩
  have b1:=i.cell
  have l1:=i.lt
  have l2:=c.lt
  have c0:=M.t.c0
  have le:=M.t.le
  obtain⟨x0,x1,x2,x3⟩:=M.t.ce t x hx
  have lg:X<W.heap.size:=by have:=M.tl;omega
  have ls:s<W.heap.size:=by have:=M.sl;omega
  have n1: ¬B=W.heap.size:=z_
  have HV:=aa M
  have b7:=aa i
  have a4:=aa c
  have b6:=aa ih
  have HX:=aa hx
  clear M i c ih hx
  refine callsIn_of_wp_marks Tryz.func136 rfl trivial ?_ rfl
  simp only[Tryz.ntmps136,j_,Nat.reduceAdd,Nat.reduceSub]
  gi_wp2_with (refine⟨trivial,?_⟩;gi_at_call 137;refine(Cx _ s (t:Int) _).mono ?_;rintro e w' ⟨rfl,rfl⟩)
  have a1:oQ T t=x.k:=by unfold oQ;rw[HX.out];rfl
  have bR:=(((dH.alloc (V:=W.alloc (.cells #[.bool false,aj 0,aA 0] 120)) (b:=W.heap.size) (k:=bP 0) (yW0 W _) (.cells (bn x.k) 120))).alloc (.cells #[ak s] 96)).alloc (.cells #[ab t] 3)
  have bK:dH ((((W.alloc (.cells #[.bool false,aj 0,aA 0] 120)).alloc (.cells (bn x.k) 120)).alloc (.cells #[ak s] 96)).alloc (.cells #[ab t] 3)) (W.heap.size+1) x.k:=by
   refine dH.alloc (dH.alloc ?_ _) _
   have:=yW0 (W.alloc (.cells #[.bool false,aj 0,aA 0] 120)) (.cells (bn x.k) 120)
   rw[World.size_alloc] at this
   exact this
  have bG:=(Boxed.new ((W.alloc (.cells #[.bool false,aj 0,aA 0] 120)).alloc (.cells (bn x.k) 120)) 96 (ak s)).alloc (.cells #[ab t] 3)
  have bT:=Boxed.new (((W.alloc (.cells #[.bool false,aj 0,aA 0] 120)).alloc (.cells (bn x.k) 120)).alloc (.cells #[ak s] 96)) 3 (ab t)
  have a0:aC W ((((W.alloc (.cells #[.bool false,aj 0,aA 0] 120)).alloc (.cells (bn x.k) 120)).alloc (.cells #[ak s] 96)).alloc (.cells #[ab t] 3)):=((((i4 _ W).alloc aT _).alloc q_ _).alloc (by simp;omega) _).alloc (by simp;omega) _
  have a7:((((W.alloc (.cells #[.bool false,aj 0,aA 0] 120)).alloc (.cells (bn x.k) 120)).alloc (.cells #[ak s] 96)).alloc (.cells #[ab t] 3)).heap.size=W.heap.size+4:=q_
  simp only[World.size_alloc] at bG bT|-
  generalize ((((W.alloc (.cells #[.bool false,aj 0,aA 0] 120)).alloc (.cells (bn x.k) 120)).alloc (.cells #[ak s] 96)).alloc (.cells #[ab t] 3))=W0 at a7 bR bK bG bT a0|-
  have hA:NH W0.heap.size (fun n V=>dH V W.heap.size (bP 0)/\dH V (W.heap.size+1) (jw T L t n)/\Boxed V (W.heap.size+1+1) 96 (ak s)/\Boxed V (W.heap.size+1+1+1) 3 (ab t)/\aC W V):=by
   refine⟨fun k V o h=>⟨h.1.alloc _,h.2.1.alloc _,h.2.2.1.alloc _,h.2.2.2.1.alloc _,h.2.2.2.2.alloc h.2.2.2.2.size _⟩,fun k V q o o' hq ho hc h=>⟨h.1.put ho hc,h.2.1.put ho hc,mM h.2.2.1 ho hc,mM h.2.2.2.1 ho hc,?_⟩⟩
   have hz:=h.2.2.2.2
   exact⟨hz.os,hz.tape,hz.output,by have:=hz.size;simp_all,fun b u=>(World.putObj_heap_other z_).trans (hz.block b u)⟩
  refine DC (gf:=177) (lb:= #[ak (W.heap.size+1+1),ak (W.heap.size+1+1+1)]) rfl (enters_of Tryz.func177 (by rfl) rfl)
   (fun n V=>dH V W.heap.size (bP 0)/\dH V (W.heap.size+1) (jw T L t n)/\Boxed V (W.heap.size+1+1) 96 (ak s)/\Boxed V (W.heap.size+1+1+1) 3 (ab t)/\aC W V)
   (fun _=>False) (fun n=>n<(behind L t).length) (fun n=>ab (((behind L t)[n]?.getD 0:Nat):Int)) (behind L t).length
   (fun n=>{tmps:= #[ab t,ak B,ak j,undef,ak W.heap.size,ak (W.heap.size+1),ab (((behind L t)[n]?.getD 0:Nat):Int),ak s,ak s,ak s,.slice (some (ao X)) T.length ct,ab t,.pointer (some (af X (t*4))),.pointer (some (af X (t*4))),.agg (bn x.k),ak s,ab t,.func (.func 177) #[] #[ak (W.heap.size+1+1),ak (W.heap.size+1+1+1)],ab (((behind L t)[n]?.getD 0:Nat):Int),undef,undef,undef,undef,undef,undef],defers:=[]})
   (fun b=>b=W.heap.size+1) hA (fun _ _ h=>h.elim) ⟨bR,by unfold jw;simpa [a1] using bK,bG,bT,a0⟩ ?hit ?assign ?body ?done
  case hit=>
   intro l' J' W1 h1 h2 h3 h4 h5 h6
   exact rE l' _ _ s X ct a a2 ln Y T L t W1.heap.size J' (fun b=>b=W.heap.size+1) f.l2 (fun b u=>by omega) (fun k V h=>⟨(h1 k V h).2.2.1,(h1 k V h).2.2.2.1,HV.out.below ((h1 k V h).2.2.2.2.mono N)⟩) h2 (fun k V hk h=>h4 k V hk h) W1 aT h5
  case assign=>
   intro l' k V K g
   gi_wp2
   exact g
  case body=>
   rintro l' n V hn ⟨F,g,hG,hT,H⟩
   obtain⟨y,hy⟩: ∃y,(behind L t)[n]? =some y:=⟨_,zX0 hn⟩
   rw[hy,Option.getD_some]
   have a9:=jh.1 (i9 hy)
   have a6:y<T.length:=by obtain⟨z,hz,a5,_⟩:=a9;exact f.lt z hz y a5
   have a8:r y<m:=y_
   have k0:=g.at.1
   have k1:=g.at.2.1
   have k2:=g.at.2.2
   have HW:Hid (∀C,aC V C->aB 136 #[ab y,ak B,ak j] C fun e W'=>e= .returned (.agg (bn (keyOf T L y)))/\aC C W'):=by
    intro C b0
    have E:=H.trans (b0.mono H.size)
    exact(callsIn_wide.1 (b6.out y a8 a6 Y B j C (zY0 N E.size) (HV.out.below (E.mono N)) ((E.block B l1).trans b7.out) ((E.block j l2).trans a4.out)))
   have G:Boxed V j 192 (.func (.func 136) #[] #[ak B,ak j]):=(H.block j l2).trans a4.out
   have b2:=G.cell
   have R:Hid (∀C,aB 138 #[.agg (bn (jw T L t n)),.agg (bn (keyOf T L y))] C fun e W'=>e= .returned (.agg (bn (ir (jw T L t n) (keyOf T L y))))/\aC C W'):=fun C=>Nj C _ _
   have HN:=aa (zr (T:=T) hy)
   generalize jw T L t n=U at R HN g k0 k1 k2
   generalize keyOf T L y=ky at HW R HN
   have fz:=g.frozen
   have HR:=aa F
   have HK:=aa g
   have HG:=aa hG
   have HT:=aa hT
   have HB:=aa H
   clear F g hG hT H G
   have Z:j<V.heap.size:=by have:=HB.out.size;omega
   have A:j≠W.heap.size+1:=z_
   have a3:Hid (∀Q,aC V Q->(fun V3=>dH V3 W.heap.size (bP 0)/\dH V3 (W.heap.size+1) (jw T L t (n+1))/\Boxed V3 (W.heap.size+1+1) 96 (ak s)/\Boxed V3 (W.heap.size+1+1+1) 3 (ab t)/\aC W V3)
     (((Q.setCell (ao (W.heap.size+1)) (.bool (ir U ky).e)).setCell (af (W.heap.size+1) 1) (aj (ir U ky).d)).setCell (af (W.heap.size+1) 2) (aA (ir U ky).l))):=by
    intro Q c
    have e: ∀b,b≠W.heap.size+1->(((Q.setCell (ao (W.heap.size+1)) (.bool (ir U ky).e)).setCell (af (W.heap.size+1) 1) (aj (ir U ky).d)).setCell (af (W.heap.size+1) 2) (aA (ir U ky).l)).heap[b]? =Q.heap[b]? :=fun b u=>by
     rw[zZ0 _ _ _ _ u,zZ0 _ _ _ _ u,zZ0 _ _ _ _ u]
    refine⟨(e _ z_).trans (HR.out.below c),?_,(e _ z_).trans ((c.block _ HG.out.lt).trans HG.out),(e _ z_).trans ((c.block _ HT.out.lt).trans HT.out),?_⟩
    ·rw[HN.out]
     exact(HK.out.below c).set _
    ·exact(((HB.out.trans (c.mono HB.out.size)).setCell (p:=(ao (W.heap.size+1))) q_ _).setCell (p:=(af (W.heap.size+1) 1)) q_ _).setCell (p:=(af (W.heap.size+1) 2)) q_ _
   gi_wp2
   refine fe (fun w'=>w'.cell? (ao j)=some (.func (.func 136) #[] #[ak B,ak j])) (by rfl) (by kernel_rfl) (by rintro⟨a,w,h⟩;exact absurd (show Exit.outgrown=Exit.normal from h.1) q_) b2 (fun hHeld=> ?_)
   refine st ?_
   repeat' first
    |refine dn ?_
    |refine tk ?_
    |refine rd ?_
    |exact oA
    |refine oE ?_
    |refine oC ?_ ?_
    | (refine dU 3 (fun K g=> ?_)
       go_simp
       go_at_call 136
       refine(HW.out _ ((i4 _ V).drew)).mono ?_
       rintro e V1 ⟨rfl,u⟩
       have i:aC V V1:=((i4 _ V).drew).trans u
       clear u
       have J:=aa i
       have j0:=(HK.out.below i).at.1
       have j1:=(HK.out.below i).at.2.1
       have j2:=(HK.out.below i).at.2.2
       have q1:=(i.cell (p:=(ao j)) Z).trans b2
       clear i
       refine g.out _ _ ?_ (fun hHeld=> ?_)
       ·exact q1
       clear g K
       try simp only[cV])
    | (refine dU 4 (fun K g=> ?_)
       go_simp
       go_at_call 138
       refine(R.out _).mono ?_
       rintro e Q ⟨rfl,u⟩
       have c:=J.out.trans (u.mono J.out.size)
       clear u
       have I:=aa c
       have v:=HK.out.below c
       have i0:=v.at.1
       have i1:=v.at.2.1
       have i2:=v.at.2.2
       have b9:=v.frozen
       have q2:=(c.cell (p:=(ao j)) Z).trans b2
       have c1:=aa v
       clear c v
       refine g.out _ _ ?_ (fun hHeld=> ?_)
       ·exact q2
       clear g K
       try simp only[cV])
    | (refine dU _ (fun K g=> ?_)
       go_simp
       refine g.out _ _ ?_ (fun hHeld=> ?_)
       ·omega
       clear g K
       try simp only[cV])
    | (refine dU _ (fun K g=> ?_)
       go_simp
       refine g.out _ _ ?_ (fun hHeld=> ?_)
       ·exact(i5 (by rw[zZ0 _ _ _ _ A,zZ0 _ _ _ _ A,zZ0 _ _ _ _ A])).trans q2
       clear g K
       try simp only[cV])
   all_goals
    refine⟨?_⟩
    exact⟨rfl,(((Kk.below (S:=fun b=>b=W.heap.size+1) I.out).setCell (a:=(ao (W.heap.size+1))) rfl _).setCell (a:=(af (W.heap.size+1) 1)) rfl _).setCell (a:=(af (W.heap.size+1) 2)) rfl _,a3.out Q I.out⟩
  case done=>
   rintro D V hD ⟨F,g,hG,hT,H⟩ b5
   rw[Bz f.ac] at g
   have k0:=g.at.1
   have k1:=g.at.2.1
   have k2:=g.at.2.2
   have fz:=F.frozen
   have r0:=F.at.1
   have r1:=F.at.2.1
   have r2:=F.at.2.2
   have HR:=aa F
   have HB:=aa H
   clear F g hG hT H
   gi_wp2
   have b3:=HR.out.set (keyOf T L t)
   have b4: ∀b,b≠W.heap.size->(((V.setCell (ao W.heap.size) (.bool (keyOf T L t).e)).setCell (af W.heap.size 1) (aj (keyOf T L t).d)).setCell (af W.heap.size 2) (aA (keyOf T L t).l)).heap[b]? =V.heap[b]? :=fun b u=>by
    rw[zZ0 _ _ _ _ u,zZ0 _ _ _ _ u,zZ0 _ _ _ _ u]
   have O:=(b4 D z_).trans b5
   refine⟨q_,.inl ⟨_,_,rfl,run_takeDeferred O,?_⟩⟩
   have P:=b3.put (o':= .deferred none) O rfl
   have d0:=P.at.1
   have d1:=P.at.2.1
   have d2:=P.at.2.2
   refine⟨.agg (bn (keyOf T L t)),?_,rfl,?_⟩
   ·simp[results,Tryz.f136,go_sem,d0,d1,d2]
   ·refine(((HB.out.setCell (p:=(ao W.heap.size)) q_ (.bool (keyOf T L t).e)).setCell (p:=(af W.heap.size 1)) q_ (aj (keyOf T L t).d)).setCell (p:=(af W.heap.size 2)) q_ (aA (keyOf T L t).l)).trans ?_
    exact belowK_b (w:=W) aT _ D _ _ z_ O rfl rfl
end Go.Proofs.YtnmhcgpnhlhcgaaGreatDoor.Pi
namespace Go.Proofs.YtnmhcgpnhlhcgaaGreatDoor.Pi
open Go.Proofs.YtnmhcgpnhlhcgaaGreatDoor.Ke
open Go.Lib
open Go.RowKit
noncomputable def jo (T:List Th) (L:List Lk) (t:Int):K:=if oR T t then keyOf T L t.toNat else bP 0
section
variable {w:World} {i s:Nat} {j k:Value} {V:List Value} {T:List Th} {L:List Lk} {c e d b:Nat} {a:Option Addr} {g:Nat->Option Addr×Nat}
def Gc (h:Vw c w s e d a b g T L) (t:Int):vS 128 #[ak s,ab t] w (.bool (oR T t)):=by
 have m:=h.t.c0
 have f:=h.t.le
 clear h
 unfold oR
 by_cases l:0<=t
 ·refine ge ?_
  go_wp2
  go_ret
  simp_all
 ·refine ge ?_
  go_wp2
  go_ret
  exact⟨by simp;omega,rfl⟩
def MD (h:Vw c w s e d a b g T L) (l:c<=w.heap.size) (t:Int) (f:oR T t=false):vQ 83 #[ak s,ab t] w (.agg (bn (bP 0))):=by
 have m:=aa (fun n (o:aC w n)=>Gc (h.below (o.mono l)) t)
 simp only[f] at m
 clear h f l
 refine ge ?_
 go_wp2_with (go_at_call 128;refine cS (m.out _ (by first|exact cj|exact bq|exact bq.alloc q_ _)) ?_)
 simp[bodyPost,results,Tryz.results83,go_sem,bP]
 exact bq.alloc q_ _
theorem Bi (h:Vw c w s e d a b g T L) (f:Vf T L) (A:c<=w.heap.size) (t:Nat) (N:t<T.length):vQ 83 #[ak s,ab t] w (.agg (bn (keyOf T L t))):=by
 have v:oR T (t:Int)=true:=by unfold oR;grind
 have H:=aa (fun M (u:aC w M)=>Gc (h.below (u.mono A)) (t:Int))
 simp only[v] at H
 obtain⟨B,r,u,F⟩:=f.ac
 have I:=aa (fun W U G (u:aC w G) P O=>callsIn_wide.1 (J5 s e d a b g T L f r F (r t+1) t z_ N c W U G (zY0 A u.size) (h.below (u.mono A)) P O))
 clear h v A u F
 have z:=aa (((Boxed.new w 96 (ak s)).alloc (.cells #[.bool false,aj 0,aA 0] 120)).alloc (.cells #[.func (.func 136) #[] #[ak w.heap.size,ak (w.heap.size+1+1)]] 192))
 have y:Hid (Boxed (((w.alloc (.cells #[ak s] 96)).alloc (.cells #[.bool false,aj 0,aA 0] 120)).alloc (.cells #[.func (.func 136) #[] #[ak w.heap.size,ak (w.heap.size+1+1)]] 192)) (w.heap.size+1+1) 192 (.func (.func 136) #[] #[ak w.heap.size,ak (w.heap.size+1+1)])):=by
  have:=Boxed.new ((w.alloc (.cells #[ak s] 96)).alloc (.cells #[.bool false,aj 0,aA 0] 120)) 192 (.func (.func 136) #[] #[ak w.heap.size,ak (w.heap.size+1+1)])
  simp only[World.size_alloc] at this
  exact this
 have q:aC w (((w.alloc (.cells #[ak s] 96)).alloc (.cells #[.bool false,aj 0,aA 0] 120)).alloc (.cells #[.func (.func 136) #[] #[ak w.heap.size,ak (w.heap.size+1+1)]] 192)):=(((i4 _ w).alloc aT _).alloc q_ _).alloc (by simp;omega) _
 have x:=aa q
 have D:Hid (dH (((w.alloc (.cells #[ak s] 96)).alloc (.cells #[.bool false,aj 0,aA 0] 120)).alloc (.cells #[.func (.func 136) #[] #[ak w.heap.size,ak (w.heap.size+1+1)]] 192)) (w.heap.size+1) (bP 0)):=by
  refine dH.alloc ?_ _
  have:=yW0 (w.alloc (.cells #[ak s] 96)) (.cells #[.bool false,aj 0,aA 0] 120)
  rw[World.size_alloc] at this
  exact this
 have E:=aa (I.out w.heap.size (w.heap.size+1+1) _ q z.out y.out)
 clear q I z y
 refine ge ?_
 go_wp2_with (first
  |(go_at_call 128;refine(H.out _ (by first|exact cj|exact bq|exact bq.alloc q_ _)).mono ?_;rintro l J ⟨rfl,hw⟩;subst hw)
  |(go_at_call 136;refine(E.out).mono ?_;rintro l J ⟨rfl,o⟩;have m:=D.out.below o;have Z:=m.at.1;have Y:=m.at.2.1;have X:=m.at.2.2;have fz:=m.frozen;replace o:=aa o;replace m:=aa m))
 have n:=(m.out.set (keyOf T L t)).at
 have S:=n.1
 have R:=n.2.1
 have Q:=n.2.2
 simp[bodyPost,results,Tryz.results83,go_sem,S,R,Q]
 have C:=x.out.trans (o.out.mono x.out.size)
 exact((C.setCell (p:=(ao (w.heap.size+1))) q_ _).setCell (p:=(af (w.heap.size+1) 1)) q_ _).setCell (p:=(af (w.heap.size+1) 2)) q_ _
def NZ (h:Vw c w s e d a b g T L) (f:Vf T L) (m:c<=w.heap.size) (t:Int):vQ 83 #[ak s,ab t] w (.agg (bn (jo T L t))):=by
 unfold jo
 cases l:oR T t with
 |false=>exact MD h m t l
 |true=>
  grind[Pi.o7,Pi.Bi]
def ll (h:dj w i s j k V T L) (t:Int):vQ 83 #[ak s,ab t] w (.agg (bn (jo T L t))):=by
 obtain⟨e,d,a,b,_,_,l⟩:=h.vw
 exact NZ l h.f.vf aT t
end
def bS (g:Nat->K) (l:List Nat):Nat->Int×K
 |0=>(-1,bP 0)
 |n+1=>if (bS g l n).1= -1\/up (g (l[n]?.getD 0)) (bS g l n).2=true then((n:Int),g (l[n]?.getD 0)) else bS g l n
section
variable {w:World} {s:Nat} {T:List Th} {L:List Lk} {c g f b:Nat} {a:Option Addr} {e:Nat->Option Addr×Nat}
def Nh (h:Vw c w s g f a b e T L) (k:Vf T L) (hn:c<=w.heap.size) (l:List Nat) (va:Option Addr) (vc:Nat) (hl: ∀x∈l,x<T.length) (h1:l.length<=vc) (h2:vc<=maxLen)
  (hc: ∀(i:Nat) (x:Nat),l[i]? =some x-> ∃gg,va=some (ao gg)/\gg<c/\w.cell? (af gg i)=some (ab x)):
  vQ 192 #[ak s,.slice va l.length vc] w (ab (bS (keyOf T L) l l.length).1):=by
 have HC:=aa hc
 have HV:=aa h
 have HF:=aa k
 have HL:=aa hl
 clear h hc hl
 have h3:l.length<=9223372036854775807:=by unfold maxLen at h2;omega
 refine ge ?_
 go_wp2
 go_loopw [5,12] (fun o i wr=> ∃(j:Nat),j<=l.length/\i=ab j/\o=ab (bS (keyOf T L) l j).1/\dH wr w.heap.size (bS (keyOf T L) l j).2/\aC w wr) (fun _ i _=>l.length-(RowKit.intOf i).toNat)
 case atStart=>exact⟨0,z_,rfl,rfl,yW0 w _,(i4 _ w).alloc aT _⟩
 case round=>
  obtain⟨j,hj,rfl,rfl,M,D⟩:=hrel
  by_cases a7:j<l.length
  ·have a6:(j:Int)<l.length:=by omega
   obtain⟨x,hx⟩: ∃x,l[j]? =some x:=⟨_,zX0 a7⟩
   obtain⟨gg,rfl,b0,a5⟩:=HC.out j x hx
   have x0:=(D.cell (p:=(af gg j)) (i8 b0 hn)).trans a5
   clear a5
   have a8:=HL.out x (i9 hx)
   have J:=aa (Bi (HV.out.below (D.mono hn)) HF.out (zY0 hn D.size) x a8)
   have u:Hid (bS (keyOf T L) l (j+1)=if (bS (keyOf T L) l j).1= -1\/up (keyOf T L x) (bS (keyOf T L) l j).2=true then((j:Int),keyOf T L x) else bS (keyOf T L) l j):=by
    show _=_
    rw[bS,hx,Option.getD_some]
   generalize S:bS (keyOf T L) l (j+1)=G at u
   replace S:=aa S
   generalize bS (keyOf T L) l j=F at M u|-
   generalize keyOf T L x=r at J u
   obtain⟨o,m⟩:=F
   dsimp only at M u|-
   have O:=aa D
   have HK:=aa M
   have HI:=aa (show j+1<=l.length from a7)
   clear D M hx
   by_cases hb:o= -1
   ·subst hb
    have B:=u.out
    rw[if_pos (.inl rfl)] at B
    replace B:=aa B
    go_wp2_with (go_at_call 83;refine(J.out).mono ?_;rintro n E ⟨rfl,z⟩;have v:=aa (O.out.trans (z.mono O.out.size));have t:=aa (HK.out.below z);clear z)
    have I:Hid (dH (E.alloc (.cells (bn r) 120)) E.heap.size r/\dH (E.alloc (.cells (bn r) 120)) w.heap.size m/\aC w (E.alloc (.cells (bn r) 120))/\E.heap.size≠w.heap.size):=⟨yW0 E _,t.out.alloc _,v.out.alloc v.out.size _,by have:=t.out.lt;omega⟩
    clear v t J HK O
    generalize E.alloc (.cells (bn r) 120)=A at I|-
    generalize E.heap.size=q at I|-
    have U:=I.out
    obtain⟨Q,H,N,C⟩:=U
    have a0:=Q.at.1
    have a1:=Q.at.2.1
    have Z:=Q.at.2.2
    have m0:=H.at.1
    have m1:=H.at.2.1
    have m2:=H.at.2.2
    have fz:=H.frozen
    have a3:=aa H
    have a4:=aa N
    have V: ∀(p:Prop),p->p:=fun _ h=>h
    have X:=aa (And.intro a0 (And.intro a1 Z))
    have W:Hid (A.drew.cell? (ao q)=some (.bool r.e)/\A.drew.cell? (af q 1)=some (aj r.d)/\A.drew.cell? (af q 2)=some (aA r.l)):=⟨a0,a1,Z⟩
    have Y:(((A.setCell (ao w.heap.size) (.bool r.e)).setCell (af w.heap.size 1) (aj r.d)).setCell (af w.heap.size 2) (aA r.l)).heap[q]? =A.heap[q]? :=by
     rw[zZ0 _ _ _ _ C,zZ0 _ _ _ _ C,zZ0 _ _ _ _ C]
    have b1:Hid ((((A.setCell (ao w.heap.size) (.bool r.e)).setCell (af w.heap.size 1) (aj r.d)).setCell (af w.heap.size 2) (aA r.l)).drew.cell? (ao q)=some (.bool r.e)/\(((A.setCell (ao w.heap.size) (.bool r.e)).setCell (af w.heap.size 1) (aj r.d)).setCell (af w.heap.size 2) (aA r.l)).drew.cell? (af q 1)=some (aj r.d)/\(((A.setCell (ao w.heap.size) (.bool r.e)).setCell (af w.heap.size 1) (aj r.d)).setCell (af w.heap.size 2) (aA r.l)).drew.cell? (af q 2)=some (aA r.l)):=
     ⟨(i5 Y).trans a0,(i5 Y).trans a1,(i5 Y).trans Z⟩
    clear Q H N V
    go_region_held3 (fun P=>(P.cell? (ao q)=some (.bool r.e)/\P.cell? (af q 1)=some (aj r.d)/\P.cell? (af q 2)=some (aA r.l)))
     (first|with_reducible exact X.out|with_reducible exact W.out|assumption)
     (first|fail)
    all_goals go_wp2
    all_goals go_roundw
    case rel=>
     refine⟨j+1,HI.out,by go_num,?_,?_,?_⟩
     ·rw[S.out,B.out]
     ·rw[S.out,B.out]
      exact a3.out.set r
     ·exact(((a4.out.setCell (p:=(ao w.heap.size)) q_ _).setCell (p:=(af w.heap.size 1)) q_ _).setCell (p:=(af w.heap.size 2)) q_ _).drew
    case measure=>simp[RowKit.intOf];omega
   ·have b2:(o== -1)=false:=by grind
    have R:=aa (fun P=>pY P r m)
    cases hu:up r m with
    |true=>
     rw[hu] at R
     have B:=u.out
     rw[if_pos (.inr hu)] at B
     replace B:=aa B
     go_wp2_with (first
      |(go_at_call 83;refine(J.out).mono ?_;rintro n E ⟨rfl,z⟩;have v:=aa (O.out.trans (z.mono O.out.size));have t:=aa (HK.out.below z);have m0:=t.out.at.1;have m1:=t.out.at.2.1;have m2:=t.out.at.2.2;have a9:=t.out.lt;clear z)
      |(go_at_call 119;refine(R.out _).mono ?_;rintro n w2 ⟨rfl,y⟩;replace y:=aa y))
     have I:Hid (dH w2 E.heap.size r/\dH w2 w.heap.size m/\aC w w2/\E.heap.size≠w.heap.size):=⟨dH.below (yW0 E _) y.out,(t.out.alloc _).below y.out,(v.out.alloc v.out.size _).trans (y.out.mono (by have:=v.out.size;simp;omega)),z_⟩
     clear v t J HK O y m0 m1 m2
     obtain⟨A,rfl⟩: ∃A,A=w2:=⟨_,rfl⟩
     generalize E.heap.size=q at I|-
     have U:=I.out
     obtain⟨Q,H,N,C⟩:=U
     have a0:=Q.at.1
     have a1:=Q.at.2.1
     have Z:=Q.at.2.2
     have m0:=H.at.1
     have m1:=H.at.2.1
     have m2:=H.at.2.2
     have fz:=H.frozen
     have a3:=aa H
     have a4:=aa N
     have V: ∀(p:Prop),p->p:=fun _ h=>h
     have X:=aa (And.intro a0 (And.intro a1 Z))
     have W:Hid (A.drew.cell? (ao q)=some (.bool r.e)/\A.drew.cell? (af q 1)=some (aj r.d)/\A.drew.cell? (af q 2)=some (aA r.l)):=⟨a0,a1,Z⟩
     have Y:(((A.setCell (ao w.heap.size) (.bool r.e)).setCell (af w.heap.size 1) (aj r.d)).setCell (af w.heap.size 2) (aA r.l)).heap[q]? =A.heap[q]? :=by
      rw[zZ0 _ _ _ _ C,zZ0 _ _ _ _ C,zZ0 _ _ _ _ C]
     have b1:Hid ((((A.setCell (ao w.heap.size) (.bool r.e)).setCell (af w.heap.size 1) (aj r.d)).setCell (af w.heap.size 2) (aA r.l)).drew.cell? (ao q)=some (.bool r.e)/\(((A.setCell (ao w.heap.size) (.bool r.e)).setCell (af w.heap.size 1) (aj r.d)).setCell (af w.heap.size 2) (aA r.l)).drew.cell? (af q 1)=some (aj r.d)/\(((A.setCell (ao w.heap.size) (.bool r.e)).setCell (af w.heap.size 1) (aj r.d)).setCell (af w.heap.size 2) (aA r.l)).drew.cell? (af q 2)=some (aA r.l)):=
      ⟨(i5 Y).trans a0,(i5 Y).trans a1,(i5 Y).trans Z⟩
     clear Q H N V
     go_region_held3 (fun P=>(P.cell? (ao q)=some (.bool r.e)/\P.cell? (af q 1)=some (aj r.d)/\P.cell? (af q 2)=some (aA r.l)))
      (first|with_reducible exact X.out|with_reducible exact W.out|assumption)
      (first|fail)
     all_goals go_wp2
     all_goals go_roundw
     case rel=>
      refine⟨j+1,HI.out,by go_num,?_,?_,?_⟩
      ·rw[S.out,B.out]
      ·rw[S.out,B.out]
       exact a3.out.set r
      ·exact(((a4.out.setCell (p:=(ao w.heap.size)) q_ _).setCell (p:=(af w.heap.size 1)) q_ _).setCell (p:=(af w.heap.size 2)) q_ _).drew
     case measure=>simp[RowKit.intOf];omega
    |false=>
     rw[hu] at R
     have B:=u.out
     rw[if_neg y_] at B
     replace B:=aa B
     go_wp2_with (first
      |(go_at_call 83;refine(J.out).mono ?_;rintro n E ⟨rfl,z⟩;have v:=aa (O.out.trans (z.mono O.out.size));have t:=aa (HK.out.below z);have m0:=t.out.at.1;have m1:=t.out.at.2.1;have m2:=t.out.at.2.2;have a9:=t.out.lt;clear z)
      |(go_at_call 119;refine(R.out _).mono ?_;rintro n w2 ⟨rfl,y⟩;replace y:=aa y))
     go_roundw
     case rel=>
      refine⟨j+1,HI.out,by go_num,?_,?_,?_⟩
      ·rw[S.out,B.out]
      ·rw[S.out,B.out]
       exact(t.out.alloc _).below y.out
      ·exact(v.out.alloc v.out.size _).trans (y.out.mono (by have:=v.out.size;simp;omega))
     case measure=>simp[RowKit.intOf];omega
  ·have a6: ¬(j:Int)<l.length:=by omega
   obtain rfl:j=l.length:=z_
   have O:=aa D
   clear D M
   go_wp2
   go_ret
   exact⟨rfl,O.out⟩
end
end Go.Proofs.YtnmhcgpnhlhcgaaGreatDoor.Pi
namespace Go.Proofs.YtnmhcgpnhlhcgaaGreatDoor.Pi
open Go.Proofs.YtnmhcgpnhlhcgaaGreatDoor.Ke
open Go.Lib Go.Shelf
open Go.RowKit
def Oh:Ren:=⟨fun x=>if x=45 then 193 else x,fun x=>if x=0 then 0 else if x=3 then 3 else if x=4 then 4 else if x=22 then 123 else if x=23 then 3 else x,fun x=>x⟩
def NU:SlLaysE.n45 Tryz.prog Oh where
 mixed:=by rfl
 f45 := ⟨"slices.Delete[[]int,int]", x_, by rfl⟩
 t0:=Tryz.underlying0
 a0:=Tryz.isAgg0
 z0:=Tryz.sizeOf0
 v0:=Tryz.zeroValue0
 t3:=Tryz.underlying3
 a3:=Tryz.isAgg3
 z3:=Tryz.sizeOf3
 v3:=Tryz.zeroValue3
 t4:=Tryz.underlying4
 a4:=Tryz.isAgg4
 z4:=Tryz.sizeOf4
 v4:=Tryz.zeroValue4
 t22:=Tryz.underlying123
 a22:=Tryz.isAgg123
 z22:=Tryz.sizeOf123
 v22:=Tryz.zeroValue123
 a23:=Tryz.isAgg3
 z23:=Tryz.sizeOf3
def LL {w:World} {c g a p:Nat} {l:List Nat} (h:w.ownsRow c 3 1 (.slice (some (ao g)) l.length a) l.length (ints l)) (Q:p<l.length):
  aB 193 #[.slice (some (ao g)) l.length a,ab p,ab ((p:Int)+1)] w fun e m=>e= .returned (.slice (some (ao g)) (l.eraseIdx p).length a)/\
   m.ownsRow c 3 1 (.slice (some (ao g)) (l.eraseIdx p).length a) (l.eraseIdx p).length (ints (l.eraseIdx p))/\Fr (fun b=>b=g) w m/\m.heap.size=w.heap.size:=by
 have J:=dP h
 have u: ∀(j x:Nat),l[j]? =some x->w.cell? (af g j)=some (ab x):=by
  intro j x v
  have H:=(i6.1 v).1
  rw[h.cellAt j z_]
  simp[ints,v]
 have y:=h
 rcases h.2 with ⟨e,_⟩|⟨U,B,d,e,O,I,T,N,M,S⟩
 ·simp at e
 simp at e
 obtain⟨rfl,rfl⟩:=e
 have L:Sort.Holds (fun (t:Nat)=>Value.int .i64 (t:Int)) w g 0 l.toArray:=by
  intro j H
  grind
 obtain⟨D,hi,F,n,E⟩:=info_parts j4
 have C:=AnyE.slices_Delete NU (fun (t:Nat)=>Value.int .i64 (t:Int)) (fun _=>rfl) 0 (Tryz.zeroValue3) D hi n g 0 a p (p+1) l.toArray w L z_ (by assumption) z_ y_
 have i:(l.eraseIdx p).length=l.length-1:=y_
 have P:Oh.f 45=193:=rfl
 rw[P] at C
 refine Calls.mono (R:=_) (by simpa using C) ?_
 rintro e m ⟨rfl,q,rfl⟩
 have V:=(List.eraseIdx_eq_take_drop_succ l p).symm
 have s: ∀b,(Sort.putRow (fun (t:Nat)=>Value.int .i64 (t:Int)) (Sort.ahead w q) g 0 (l.take p++(l.drop (p+1)++[0])).toArray).heap[b]? =if g=b then some (.cells (Sort.putCells (fun (t:Nat)=>Value.int .i64 (t:Int)) 0 (l.take p++(l.drop (p+1)++[0])).toArray d) 3 (0,0)) else w.heap[b]? :=by
  intro b
  show(w.heap.modify g _)[b]? =_
  rw[Array.getElem?_modify]
  by_cases A:g=b
  ·subst A
   rw[if_pos rfl,if_pos rfl,I]
   rfl
  grind
 have o:(Sort.putRow (fun (t:Nat)=>Value.int .i64 (t:Int)) (Sort.ahead w q) g 0 (l.take p++(l.drop (p+1)++[0])).toArray).heap.size=w.heap.size:=by
  simp
 refine⟨by rw[i],?_,?_,o⟩
 ·refine⟨by simp[ints],.inr ⟨g,a,Sort.putCells (fun (t:Nat)=>Value.int .i64 (t:Int)) 0 (l.take p++(l.drop (p+1)++[0])).toArray d,rfl,O,y_,z_,N,by simp[Sort.putCells,M],?_⟩⟩
  apply List.ext_getElem?
  intro k
  rw[Nat.mul_one,List.getElem?_take]
  by_cases z:k<(l.eraseIdx p).length
  ·rw[if_pos z]
   have r:k<d.size:=z_
   have G:k<(l.take p++(l.drop (p+1)++[0])).length:=y_
   simp only[Sort.putCells,Array.getElem?_toList,Array.getElem?_mapIdx,Array.getElem?_eq_getElem r,Option.map_some,ints,List.getElem?_map]
   grind
  ·rw[if_neg z,eq_comm,List.getElem?_eq_none_iff]
   simp[ints]
   omega
 ·exact⟨rfl,rfl,rfl,z_,fun b _ A=>by grind⟩
end Go.Proofs.YtnmhcgpnhlhcgaaGreatDoor.Pi
namespace Go.Proofs.YtnmhcgpnhlhcgaaGreatDoor.Pi
open Go.Proofs.YtnmhcgpnhlhcgaaGreatDoor.Ke
open Go.Lib
open Go.RowKit
structure bU (w:World) (base s:Nat) (vt vl:Value) (V:List Value) (T:List Th) (L:List Lk):Prop where
 blk:w.heap[s]? =some (.cells #[vt,vl] 159 (0,0))
 lo:base<=s
 tho:w.ownsRow base 162 4 vt T.length (dD T)
 lko:w.ownsRow base 164 2 vl L.length (eP ((L.map (·.h)).zip V))
 vs:V.length=L.length
 lin: ∀(j:Nat) y v,L[j]? =some y->V[j]? =some v->w.ownsRow base 3 1 v y.l.length (ints y.l)
 apart: ∀(i j:Nat) u v k,V[i]? =some u->V[j]? =some v->u.ownBlock=some k->v.ownBlock=some k->i=j
 bs:base<=w.heap.size
section
variable {w w':World} {base s:Nat} {b c:Value} {V:List Value} {T:List Th} {L:List Lk}
def dj.m (h:dj w base s b c V T L):bU w base s b c V T L:=⟨h.blk,h.lo,h.tho,h.lko,h.vs,h.lin,h.apart,h.bs⟩
def bU.g (h:bU w base s b c V T L) (f:dI T L):dj w base s b c V T L:=⟨h.blk,h.lo,h.tho,h.lko,h.vs,h.lin,h.apart,h.bs,f⟩
theorem bU.tb (h:bU w base s b c V T L) {k:Nat} (d:b.ownBlock=some k): ∃a,w.heap[k]? =some (.cells a 162 (0,0)):=(au h.tho d).2.2
theorem bU.lb (h:bU w base s b c V T L) {k:Nat} (d:c.ownBlock=some k): ∃a,w.heap[k]? =some (.cells a 164 (0,0)):=(au h.lko d).2.2
theorem bU.vb (h:bU w base s b c V T L) {v:Value} (f:v∈V) {k:Nat} (g:v.ownBlock=some k): ∃a,w.heap[k]? =some (.cells a 3 (0,0)):=by
 obtain⟨j,e⟩:=List.mem_iff_getElem?.1 f
 have d:=(i6.1 e).1
 rw[h.vs] at d
 exact(au (h.lin j _ v (zX0 d) e) g).2.2
theorem bU.lt (h:bU w base s b c V T L) {k:Nat} (a:own s b c V k):k<w.heap.size:=by
 rcases a with rfl|q|q|⟨v,d,q⟩
 ·exact(zW0.1 h.blk).1
 ·grind[Pi.bU.tb]
 ·grind[Pi.bU.lb]
 grind[Pi.bU.vb]
theorem bU.kept (h:bU w base s b c V T L) (g:w.heap.size<=w'.heap.size) (d: ∀k,own s b c V k->w'.heap[k]? =w.heap[k]?):bU w' base s b c V T L:=
 ⟨(d s (.inl rfl)).trans h.blk,h.lo,aO h.tho (fun k a=>d k (.inr (.inl a))),aO h.lko (fun k a=>d k (.inr (.inr (.inl a)))),h.vs,
  fun j y v f e=>aO (h.lin j y v f e) (fun k a=>d k (.inr (.inr (.inr ⟨v,i9 e,a⟩)))),h.apart,zY0 h.bs g⟩
def bU.below (h:bU w base s b c V T L) (a:aC w w'):bU w' base s b c V T L:=h.kept a.size (fun k d=>a.block k (h.lt d))
def bU.hold {g f:Nat} (h:bU w base s b (.slice (some (ao g)) L.length f) V T L) {m:Nat} {y:Lk} (r:L[m]? =some y) (a:Int):
  bU (w.setCell (af g (m*2)) (ab a)) base s b (.slice (some (ao g)) L.length f) V T (L.set m ⟨a,y.l⟩):=by
 have t:=(i6.1 r).1
 obtain⟨v,F⟩: ∃v,V[m]? =some v:=⟨_,zX0 (by rw[h.vs];exact t)⟩
 obtain⟨d,B⟩:=h.lb (k:=g) rfl
 have hz:((L.map (·.h)).zip V)[m]? =some (y.h,v):=y_
 have e:((L.set m ⟨a,y.l⟩).map (·.h)).zip V=((L.map (·.h)).zip V).set m (a,v):=by grind[List.map_set,Pi.tw]
 refine⟨?_,h.lo,aO h.tho ?_,?_,by simpa using h.vs,?_,h.apart,by simpa using h.bs⟩
 ·rw[zZ0 _ _ _ _ (fun q=>by have p:s=g:=q;rw[<-p,h.blk] at B;grind)]
  exact h.blk
 ·grind[Pi.bU.tb,RowKit.Below.heap_setCell]
 ·rw[e,jF _ m (y.h,v) a hz,List.length_set]
  grind[aZ,Pi.bU.lko]
 ·intro j x u E o
  have n: ∃i,L[j]? =some i/\i.l=x.l:=by
   grind
  obtain⟨i,D,C⟩:=n
  rw[<-C]
  refine aO (h.lin j i u D o) ?_
  intro k z
  obtain⟨G,A⟩:=h.vb (i9 o) z
  grind[RowKit.Below.heap_setCell]
theorem mB: ∀(T:List Th) (i:Nat) (x:Th) (u:Int),T[i]? =some x->dD (T.set i ⟨x.k,u⟩)=(dD T).set (i*4+3) (ab u)
 |[],i,x,u,h=>by simp at h
 |y::T,0,x,u,h=>by
  exact mK
 |y::T,i+1,x,u,h=>by
  have:=mB T i x u y_
  rw[List.set_cons_succ,di,this,di,show(i+1)*4+3=(i*4+3)+4 by omega]
  rfl
def bU.waits {g d:Nat} (h:bU w base s (.slice (some (ao g)) T.length d) c V T L) {i:Nat} {x:Th} (m:T[i]? =some x) (u:Int):
  bU (w.setCell (af g (i*4+3)) (ab u)) base s (.slice (some (ao g)) T.length d) c V (T.set i ⟨x.k,u⟩) L:=by
 have hi:=(i6.1 m).1
 obtain⟨a,p⟩:=h.tb (k:=g) rfl
 refine⟨?_,h.lo,?_,aO h.lko ?_,h.vs,?_,h.apart,by simpa using h.bs⟩
 ·rw[zZ0 _ _ _ _ (fun q=>by have f:s=g:=q;rw[<-f,h.blk] at p;grind)]
  exact h.blk
 ·grind[Pi.mB,aZ,Pi.bU.tho]
 ·grind[Pi.bU.lb,RowKit.Below.heap_setCell]
 ·intro j y v l e
  refine aO (h.lin j y v l e) (fun k n=> ?_)
  obtain⟨r,o⟩:=h.vb (i9 e) n
  grind[RowKit.Below.heap_setCell]
def om: ∀(Z:List (Int×Value)) (i:Nat) (z:Int×Value) (v:Value),Z[i]? =some z->eP (Z.set i (z.1,v))=(eP Z).set (i*2+1) v
 |[],i,z,a,h=>by simp at h
 |y::Z,0,z,a,h=>by
  exact mK
 |y::Z,i+1,z,a,h=>by
  have:=om Z i z a y_
  grind[Pi.fS]
theorem wH {α β:Type}: ∀(A:List α) (B:List β) (i:Nat) (a:α) (d:β),A[i]? =some a->A.zip (B.set i d)=(A.zip B).set i (a,d)
 |[],B,i,a,d,h=>by simp
 |x::A,[],i,a,d,h=>by simp
 |x::A,y::B,0,a,d,h=>by
  simp_all
 |x::A,y::B,i+1,a,d,h=>by
  have:=wH A B i a d y_
  simp_all
def bU.Ky {g p:Nat} (h:bU w base s b (.slice (some (ao g)) L.length p) V T L) {m:Nat} {y:Lk} {v f:Value} (hy:L[m]? =some y) (x:V[m]? =some v) {t:List Nat}
  (H:w.heap.size<=w'.heap.size) (M: ∀k,k<w.heap.size->v.ownBlock≠some k->w'.heap[k]? =w.heap[k]?) (W:w'.ownsRow base 3 1 f t.length (ints t)) (C: ∀k,f.ownBlock=some k->v.ownBlock=some k\/w.heap.size<=k):
  bU (w'.setCell (af g (m*2+1)) f) base s b (.slice (some (ao g)) L.length p) (V.set m f) T (L.set m ⟨y.h,t⟩):=by
 have hm:=(i6.1 hy).1
 have a0:=(i6.1 x).1
 obtain⟨a,P⟩:=h.lb (k:=g) rfl
 have N:v.ownBlock≠some g:=fun q=>by obtain⟨R,l⟩:=h.vb (i9 x) q;grind
 have O:=(M g (zW0.1 P).1 N).trans P
 have n: ∀k,own s b (.slice (some (ao g)) L.length p) V k->v.ownBlock≠some k->k≠g->(w'.setCell (af g (m*2+1)) f).heap[k]? =w.heap[k]? :=fun k ho hn J=>(zZ0 _ _ _ _ J).trans (M k (h.lt ho) hn)
 have hz:((L.map (·.h)).zip V)[m]? =some (y.h,v):=y_
 have e:((L.set m ⟨y.h,t⟩).map (·.h)).zip (V.set m f)=((L.map (·.h)).zip V).set m (y.h,f):=by
  have e0:(L.set m ⟨y.h,t⟩).map (·.h)=L.map (·.h):=by
   rw[List.map_set]
   apply List.ext_getElem?
   grind
  grind[Pi.wH]
 refine⟨?_,h.lo,aO h.tho ?_,?_,by simpa using h.vs,?_,?_,by simpa using zY0 h.bs H⟩
 ·refine(n s (.inl rfl) (fun q=> ?_) (fun q=> ?_)).trans h.blk
  ·obtain⟨R,l⟩:=h.vb (i9 x) q;rw[h.blk] at l;grind
  ·rw[<-q,h.blk] at P;grind
 ·intro k d
  obtain⟨R,l⟩:=h.tb d
  refine n k (.inr (.inl d)) (fun q=> ?_) (fun q=> ?_)
  ·obtain⟨c2,O⟩:=h.vb (i9 x) q;grind
  grind
 ·rw[e,om _ m (y.h,v) f hz,List.length_set]
  exact aZ (aO h.lko (fun k d=>by simp[Value.ownBlock] at d;grind)) (m*2+1) z_ _
 ·intro j z u F U
  have a2: ∀k,u.ownBlock=some k->w'.heap[k]? =w.heap[k]? \/u=f->k≠g:=by
   intro k I a1 q
   subst q
   rcases getSet U with ⟨rfl,rfl⟩|⟨_,r⟩
   ·grind
   ·obtain⟨R,l⟩:=h.vb (i9 r) I
    grind
  rcases getSet F with ⟨rfl,rfl⟩|⟨S,E⟩
  ·grind[aO,RowKit.Below.heap_setCell]
  ·rcases getSet U with ⟨r,_⟩|⟨r,o⟩
   ·exact mK
   ·refine aO (h.lin j z u E o) (fun k d=> ?_)
    have G:v.ownBlock≠some k:=fun q=>S (h.apart m j v u k x o q d)
    have e1:=M k (h.lt (.inr (.inr (.inr ⟨u,i9 o,d⟩)))) G
    grind[RowKit.Below.heap_setCell]
 ·intro i j Z Y k h1 X B A
  rcases getSet h1 with ⟨rfl,rfl⟩|⟨S,Q⟩
  ·rcases getSet X with ⟨q,_⟩|⟨r,D⟩
   ·exact q
   ·exfalso
    rcases C k B with q|q
    ·grind[Pi.bU.apart]
    ·have:=h.lt (.inr (.inr (.inr ⟨Y,i9 D,A⟩)))
     omega
  ·rcases getSet X with ⟨rfl,rfl⟩|⟨r,D⟩
   ·exfalso
    rcases C k A with q|q
    ·grind[Pi.bU.apart]
    ·have:=h.lt (.inr (.inr (.inr ⟨Z,i9 Q,B⟩)))
     omega
   grind[Pi.bU.apart]
end
end Go.Proofs.YtnmhcgpnhlhcgaaGreatDoor.Pi
namespace Go.Proofs.YtnmhcgpnhlhcgaaGreatDoor.Pi
open Go.Proofs.YtnmhcgpnhlhcgaaGreatDoor.Ke
open Go.Lib Go.Shelf
open Go.RowKit
def ju (w d:World) (a s:Nat) (b c:Value) (V:List Value) (T:List Th) (L:List Lk):Prop:=
 ∃e,dj d a s b c e T L/\Fr (own s b c V) w d/\ ∀k,own s b c e k->own s b c V k\/w.heap.size<=k
section
variable {w:World} {b s:Nat} {c e:Value} {V:List Value} {T:List Th} {L:List Lk}
def BB (l:List Nat) (i:Nat):ints l++[Value.int .i64 (i:Int)]=ints (l++[i]):=by simp[ints]
def bU.form (h:bU w b s c e V T L) (p:1<=T.length): ∃g i,c= .slice (some (ao g)) T.length i/\w.cell? (ao s)=some c/\w.cell? (af s 1)=some e/\(∀k,w.frozen? (af g k)=false)/\
  (∀j x,T[j]? =some x->w.cell? (af g (j*4))=some (.bool x.k.e)/\w.cell? (af g (j*4+1))=some (aj x.k.d)/\w.cell? (af g (j*4+2))=some (aA x.k.l)/\w.cell? (af g (j*4+3))=some (ab x.u)):=by
 have f:=h.tho
 rcases h.tho.2 with ⟨a,y⟩|⟨g,i,o,a,v,q,t,r,_⟩
 ·omega
 ·subst a
  refine⟨g,i,rfl,by unfold World.cell?;simp[h.blk],by unfold World.cell?;simp[h.blk],dP f,fun j x m=> ?_⟩
  have n:=(i6.1 m).1
  rw[f.cellAt (j*4) z_,f.cellAt (j*4+1) z_,f.cellAt (j*4+2) z_,f.cellAt (j*4+3) z_]
  exact iR T j x m
def Fi {D w2:World} {g C A J i j:Nat} {x:Th} {y:Lk} {v p:Value} {F:Obj} (U:aC w D) (h0:dj w b s (.slice (some (ao A)) T.length J) (.slice (some (ao g)) L.length C) V T L) (hx:T[i]? =some x) (Y:L[j]? =some y) (I:V[j]? =some v)
  (t:w2.ownsRow b 3 1 p (y.l.length+1) (ints y.l++[ab i])) (o:(D.alloc F).grownBy w2 v.ownBlock) (W:p.ownBlock=v.ownBlock\/p.ownBlock=some (D.alloc F).heap.size) (f:dI (T.set i ⟨x.k,(j:Int)⟩) (L.set j ⟨y.h,y.l++[i]⟩)):
  w2.cell? (af g (j*2+1))=some v/\w2.frozen? (af g (j*2+1))=false/\
  (w2.setCell (af g (j*2+1)) p).cell? (ao s)=some (.slice (some (ao A)) T.length J)/\(w2.setCell (af g (j*2+1)) p).cell? (af A (i*4+3))=some (ab x.u)/\(w2.setCell (af g (j*2+1)) p).frozen? (af A (i*4+3))=false/\
  ju w ((w2.setCell (af g (j*2+1)) p).setCell (af A (i*4+3)) (ab j)) b s (.slice (some (ao A)) T.length J) (.slice (some (ao g)) L.length C) V (T.set i ⟨x.k,(j:Int)⟩) (L.set j ⟨y.h,y.l++[i]⟩):=by
 have h1:=h0.below U
 have N:=h1.m
 have hj:=(i6.1 Y).1
 rw[BB,show y.l.length+1=(y.l++[i]).length by simp] at t
 have B:=fun k (E:k<D.heap.size) (Z:v.ownBlock≠some k)=>(o.block k (by simp;omega) y_).trans (zU0 _ _ _ E)
 have G:D.heap.size<=w2.heap.size:=by have:=o.size;simp at this;omega
 have z: ∀k,p.ownBlock=some k->v.ownBlock=some k\/D.heap.size<=k:=by
  intro k E
  rcases W with q|q
  ·grind
  ·rw[q] at E
   simp at E
   omega
 obtain⟨n,hc⟩:=N.lb (k:=g) rfl
 have O:v.ownBlock≠some g:=fun q=>by obtain⟨c',a2⟩:=N.vb (i9 I) q;grind
 have P:=(zW0.1 hc).1
 have Q:=B g P O
 obtain⟨g',a0,d,_,_,_,_,R,a1⟩:=h1.kR z_
 simp at d
 obtain⟨rfl,rfl⟩:=d
 have H:=N.Ky Y I G B t z
 have M:=H.waits hx (j:Int)
 obtain⟨a3,a5,d,d0,_,X,a4⟩:=H.form h0.f.t1
 simp at d
 obtain⟨rfl,rfl⟩:=d
 refine⟨(i5 Q).trans y_,?_,d0,y_,X _,V.set j p,M.g f,?_,?_⟩
 ·have:=R (j*2+1)
  unfold World.frozen? at this|-
  grind
 ·have S:Fr (own s (.slice (some (ao A)) T.length J) (.slice (some (ao g)) L.length C) V) w w2:=by
   refine(Fr.aF U).trans ⟨o.os,o.tape,o.output,G,fun k E Z=>B k E (fun q=>Z (.inr (.inr (.inr ⟨v,i9 I,q⟩))))⟩
  exact(S.setCell (a:=(af g (j*2+1))) (.inr (.inr (.inl rfl))) _).setCell (a:=(af A (i*4+3))) (.inr (.inl rfl)) _
 ·rintro k (q|q|q|⟨u,hu,q⟩)
  ·exact .inl (.inl q)
  ·exact .inl (.inr (.inl q))
  ·exact .inl (.inr (.inr (.inl q)))
  ·rcases yZ0 hu with r|rfl
   ·exact .inl (.inr (.inr (.inr ⟨u,r,q⟩)))
   ·rcases z k q with r|r
    ·exact .inl (.inr (.inr (.inr ⟨v,i9 I,r⟩)))
    ·exact .inr (zY0 U.size r)
theorem nH (h:dj w b s c e V T L) (i j:Nat) (U:eo T L i j=0) (x:Th) (J:T[i]? =some x) (y:Lk) (r:L[j]? =some y) (k:Nat) (C:y.h=(k:Int)) (hk:k≠i) (hl: ¬fw L k i):aB 190 #[ak s,ab i,ab j] w fun a w'=>a=aS #[.bool false,ab 0]/\
  ju w w' b s c e V (T.set i ⟨x.k,(j:Int)⟩) (L.set j ⟨y.h,y.l++[i]⟩):=by
 have HM:=aa (df h (i:Int) (j:Int))
 have z:x.u= -1:=by
  obtain⟨i',j',x',y',e1,e2,_,_,e3,e4,_⟩:=dp U
  grind
 have Z:=aa (h.f.wait J z r C hl)
 obtain⟨d,W,D⟩:=vE h j i y r k C
 obtain rfl:d=false:=by
  grind
 have HL:=aa D
 clear W D hl
 rw[U] at HM
 have hi:=(i6.1 J).1
 have b4:(i:Int)<T.length:=z_
 have hj:=(i6.1 r).1
 have b3:(j:Int)<L.length:=z_
 obtain⟨v,M⟩:=h.line hj
 have n:=h.lin j y v r M
 have a7:y.l.length<=1024:=by
  have B:=h.f.lk y (i9 r)
  have:=h.f.t2
  have R:=B.2.2.2.1
  have A:y.l ⊆ List.range T.length:=fun t ht=>List.mem_range.2 (B.2.2.1 t ht)
  have:=R.length_le_of_subset A
  grind
 obtain⟨va,vc,rfl,a3,a2⟩:=fo n
 have HG:=aa h
 obtain⟨g,b8,rfl,b7,b6,hg,b5,_,D⟩:=h.kR z_
 obtain⟨gt,ct,rfl,a6,a5,_⟩:=h.rJ
 obtain⟨y0,y1⟩:=D j y _ r M
 rw[C] at y0
 have c1:=h.c1
 have b2:((k:Int)==(i:Int))=false:=y_
 have b1:((k:Int)== -1)=false:=q_
 have b0: ¬(k:Int)=i:=z_
 have a9: ¬(k:Int)= -1:=z_
 have a8:=hk
 obtain⟨i0,S,Q,P,O⟩:=info_parts j4
 have a0:=aa fun I (W:aC w I)=>(W.cell (p:=(af g (j*2+1))) hg).trans y1
 have X:=aa J
 have F:=aa r
 have G:=aa M
 have b9:=aa C
 clear D U h J r C n z M
 refine ge ?_
 go_wp2_with (first
  |(go_at_call 191;refine cS HM.out ?_)
  |(go_at_call 219;refine(HL.out).mono ?_;rintro a I ⟨rfl,q⟩;have z1:=a0.out I q;have H:=aa (HG.out.below q);have Y:=aa (H.out.lin j y _ F.out G.out);have a1:=H.out.bs;replace q:=aa q)
  |(at_builtin;refine wpList_append_own_at _ rfl _ _ 123 rfl b 3 i0 (ab 0) 1 8 Tryz.underlying123 S Q P O rfl x_ _ _ _ rfl (Y.out.alloc _) (ao I.heap.size) 1 1 [ab i] rfl rfl (cell_one_new _ _ _) (by simp[Value.oneCell']) (by unfold maxLen;omega) z_ (by simp;omega) ?_;intro v' w2 m o _ E;obtain⟨g',a4,rfl⟩:=ownsRow_succ m;obtain⟨p1,p2,p3,p4,p5,N⟩:=Fi q.out HG.out X.out F.out G.out m o E Z.out;replace N:=aa N;clear m o E))
 simp[bodyPost,results,Tryz.results190,go_sem]
 exact N.out
end
def vo {T:List Th} {L:List Lk} (h:lh L) (x:Nat): ∃N,∀n,N<=n->keyOf T L x=kf T L n x:=by
 obtain⟨r,b,a⟩:=h.choose_spec
 refine⟨h.choose,fun n c=> ?_⟩
 unfold keyOf
 simp only[h,dite_true]
 exact vz a h.choose x (b x) n y_
def AD {T:List Th} {L c:List Lk} {t:Nat} (d: ∀x,x≠t->behind c x=behind L x) (g: ∀y∈L,t ∉ y.l): ∀(n x:Nat),x≠t->kf T c n x=kf T L n x
 |0,x,_=>rfl
 |n+1,x,f=>by
  show(behind c x).foldl _ _=(behind L x).foldl _ _
  rw[d x f]
  refine lD _ _ (fun y e b=> ?_)
  have a:y≠t:=by
   rintro rfl
   obtain⟨z,hz,h,_⟩:=jh.1 e
   grind
  rw[AD d g n y a]
def yz {T:List Th} {L a:List Lk} {t:Nat} (h:lh L) (g:lh a) (d: ∀x,x≠t->behind a x=behind L x) (c: ∀y∈L,t ∉ y.l) {x:Nat} (b:x≠t):keyOf T a x=keyOf T L x:=by
 obtain⟨N,e⟩:=vo (T:=T) h x
 obtain⟨M,f⟩:=vo (T:=T) g x
 rw[e (N+M) z_,f (N+M) z_]
 exact AD d c _ x b
def zk {L:List Lk} {j:Nat} {y:Lk} (b:L[j]? =some y) (a:Int) {x:Nat} (f:y.h≠(x:Int)) (d:a≠(x:Int)):behind (L.set j ⟨a,y.l⟩) x=behind L x:=by
 have c:=(i6.1 b).1
 have e:L=L.take j++y::L.drop (j+1):=by
  rw[<-(i6.1 b).2]
  simp
 have g:L.set j ⟨a,y.l⟩=L.take j++⟨a,y.l⟩::L.drop (j+1):=y_
 grind[Pi.behind]
section
variable {w:World} {a s:Nat} {b c:Value} {V:List Value} {T:List Th} {L:List Lk}
def dI.OT (f:dI T L) {j t:Nat} {x:Th} {y:Lk} (o:T[t]? =some x) (v:x.u= -1) (k:L[j]? =some y) (B:y.h=(t:Int)):
  Vf T (L.set j ⟨-1,y.l⟩)/\ ∀z∈y.l,keyOf T (L.set j ⟨-1,y.l⟩) z=keyOf T L z:=by
 have i: ∀z∈L,t ∉ z.l:=by
  intro z hz q
  obtain⟨m,p⟩:=List.mem_iff_getElem?.1 hz
  have:=(f.wt t x o m z p).1 q
  omega
 have g:lh (L.set j ⟨-1,y.l⟩):=by
  refine f.ac.less ?_
  rintro e d ⟨z,hz,r,n⟩
  rcases yZ0 hz with q|rfl
  ·exact⟨z,q,r,n⟩
  ·have:(-1:Int)=(d:Int):=n
   omega
 refine⟨⟨g,?_,by simpa using f.l2,f.t2⟩,?_⟩
 ·intro z hz
  rcases yZ0 hz with q|rfl
  ·exact(f.lk z q).2.2.1
  ·exact(f.lk y (i9 k)).2.2.1
 ·intro z hz
  refine yz f.ac g (fun q A=>zk k (-1) z_ z_) i ?_
  grind
def bU.vw (h:bU w a s b c V T L) (P:1<=T.length): ∃n p d k,b= .slice (some (ao n)) T.length p/\c= .slice d L.length k/\Vw w.heap.size w s n p d k (jU V) T L:=by
 obtain⟨n,p,e,c0,c1,_,r⟩:=h.form P
 obtain⟨d,k,o,O,N⟩:=fo h.lko
 have U:=fo h.tho
 obtain⟨_,_,t,I,H⟩:=U
 rw[e] at t
 simp at t
 obtain⟨_,rfl⟩:=t
 refine⟨n,p,d,k,e,o,h.lt (.inl rfl),h.lt (.inr (.inl (by rw[e];rfl))),fun g Y=>h.lt (.inr (.inr (.inl (by rw[o,Y];rfl)))),⟨y_,⟨I,H⟩,r⟩,y_,⟨O,N⟩,fun j y B=> ?_⟩
 have R:=(i6.1 B).1
 obtain⟨v,C⟩: ∃v,V[j]? =some v:=⟨_,zX0 (by rw[h.vs];exact R)⟩
 have f:=h.lin j y v B C
 obtain⟨A,z,rfl,M,J⟩:=fo f
 have X:jU V j=(A,z):=by unfold jU;rw[C]
 rw[X]
 have hz:((L.map (·.h)).zip V)[j]? =some (y.h,.slice A y.l.length z):=y_
 have Q:=gR _ j _ hz
 have m:=h.lko
 rcases h.lko.2 with ⟨_,Z⟩|⟨g,F,a0,u,_⟩
 ·omega
 ·rw[o] at u
  simp at u
  obtain⟨rfl,rfl⟩:=u
  rw[o] at m
  refine⟨g,rfl,?_,?_,M,J,fun i x hi=> ?_⟩
  ·grind[World.ownsRow.cellAt]
  ·grind[World.ownsRow.cellAt]
  ·have S:=(i6.1 hi).1
   rcases f.2 with ⟨_,Z⟩|⟨W,G,E,D,_,q,_⟩
   ·omega
   ·simp at D
    obtain⟨rfl,rfl⟩:=D
    refine⟨W,rfl,(zW0.1 q).1,?_⟩
    rw[f.cellAt i z_]
    simp[ints,hi]
end
def oh (g:Nat->K) (l:List Nat): ∀n,n<=l.length->0<n-> ∃p:Nat,p<n/\(bS g l n).1=(p:Int)/\(bS g l n).2=g (l[p]?.getD 0)
 |0,_,h=>by omega
 |n+1,c,_=>by
  rw[bS]
  by_cases a:(bS g l n).1= -1\/up (g (l[n]?.getD 0)) (bS g l n).2=true
  ·grind
  ·rw[if_neg a]
   cases n with
   |zero=>exact absurd (.inl rfl) a
   |succ n=>
    obtain⟨p,b,e⟩:=oh g l (n+1) z_ z_
    grind
theorem mW {g g':Nat->K} {l:List Nat} (h: ∀x∈l,g x=g' x): ∀n,n<=l.length->bS g l n=bS g' l n
 |0,_=>rfl
 |n+1,a=>by
  have e:g (l[n]?.getD 0)=g' (l[n]?.getD 0):=by
   grind
  rw[bS,bS,mW h n z_,e]
section
variable {w:World} {b s:Nat} {c d:Value} {V:List Value} {T:List Th} {L:List Lk}
def bU.kW {g n a:Nat} (h:bU w b s c (.slice (some (ao g)) n a) V T L) (i:n=L.length) {j:Nat} {y:Lk} {v:Value} (f:L[j]? =some y) (m:V[j]? =some v):
  w.cell? (af g (j*2))=some (ab y.h)/\w.cell? (af g (j*2+1))=some v/\ ∀k,w.frozen? (af g k)=false:=by
 subst i
 have o:=(i6.1 f).1
 have hz:((L.map (·.h)).zip V)[j]? =some (y.h,v):=y_
 have l:=gR _ j _ hz
 have e:=h.lko
 grind[World.ownsRow.cellAt,dP]
theorem uB (h:dj w b s c d V T L) (i j:Nat) (e:eo T L i j=0) (y:Lk) (a:L[j]? =some y) (n:y.h≠(i:Int)):vS 165 #[ak s,ab i,ab j] w (.tuple #[ab (-1),ab 9]):=by
 have k:=aa (df h (i:Int) (j:Int))
 rw[e] at k
 have p:=(i6.1 a).1
 have o:(j:Int)<L.length:=z_
 obtain⟨v,m⟩:=h.line p
 obtain⟨g,u,rfl,t,r,A,q,_,f⟩:=h.kR z_
 obtain⟨l,x⟩:=f j y v a m
 have B:=h.c1
 generalize y.h=z at l n
 clear h f e
 refine ge ?_
 go_wp2_with (go_at_call 191;refine cS k.out ?_)
 simp[bodyPost,results,Tryz.results165,go_sem]
def pM {g A:Nat} (h:dj w b s c (.slice (some (ao g)) L.length A) V T L) {i j:Nat} {x:Th} {y:Lk} {p:Option Addr} {o:Nat} (F:T[i]? =some x) (H:x.u= -1) (q:L[j]? =some y) (I:y.h=(i:Int)) (G:V[j]? =some (.slice p y.l.length o)):
  vQ 192 #[ak s,.slice p y.l.length o] (w.setCell (af g (j*2)) (ab (-1))) (ab (bS (keyOf T L) y.l y.l.length).1):=by
 have J:=h.m.hold q (-1)
 have M:=(i6.1 q).1
 obtain⟨t,v⟩:=h.f.OT F H q I
 obtain⟨P,R,a,E,_,e,k⟩:=J.vw h.f.t1
 have r:(L.set j ⟨-1,y.l⟩)[j]? =some ⟨-1,y.l⟩:=by simp[M]
 obtain⟨g',Q,_,O,D,B,n⟩:=k.ce j _ r
 have N:jU V j=(p,o):=by unfold jU;rw[G]
 rw[N] at D B n
 have C:=Nh k t aT y.l p o (fun z hz=>(h.f.lk y (i9 q)).2.2.1 z hz) D B n
 rw[mW (g':=keyOf T L) v y.l.length aT] at C
 exact C
theorem wN (h:dj w b s c d V T L) (i j:Nat) (B:eo T L i j=0) (y:Lk) (p:L[j]? =some y) (G:y.h=(i:Int)) (H:y.l=[]):aB 165 #[ak s,ab i,ab j] w fun e R=>e=aS #[ab (-1),ab 0]/\ju w R b s c d V T (L.set j ⟨-1,y.l⟩):=by
 have N:=aa (df h (i:Int) (j:Int))
 obtain⟨i',j',x,y',e1,e2,hi,I,E,S,A⟩:=dp B
 obtain rfl:i=i':=z_
 obtain rfl:j=j':=z_
 rw[B] at N
 have U:(j:Int)<L.length:=z_
 obtain⟨v,t⟩:=h.line I
 have n:=h.lin j y v p t
 obtain⟨va,vc,rfl,r,F⟩:=fo n
 obtain⟨g,Z,rfl,Y,X,hg,W,_,_⟩:=h.kR z_
 have D:=aa (pM h E S p G t)
 have u:y.l.length=0:=y_
 have J:(bS (keyOf T L) y.l y.l.length).1= -1:=by rw[u];rfl
 rw[J] at D
 obtain⟨Q,P,fz⟩:=h.m.kW rfl p t
 rw[G] at Q
 have c1:=h.c1
 have o:=h.hold p (-1) (h.f.P0 p H)
 have O:=aa o
 have HN:=aa (show L.length=(L.set j ⟨-1,y.l⟩).length by simp)
 have C:=aa (show(L.set j ⟨-1,y.l⟩)[j]? =some ⟨-1,y.l⟩ by simp[I])
 have M:=aa t
 clear h o n p A E B t
 clear u H J
 generalize y.l.length=vn at P D M r
 refine ge ?_
 go_wp2_with (first
  |(go_at_call 191;refine cS N.out ?_)
  |(go_at_call 192;refine(D.out).mono ?_;rintro e w1 ⟨rfl,z⟩;have z0:=((O.out.below z).m.kW HN.out C.out M.out).1;replace z:=aa z))
 simp[bodyPost,results,Tryz.results165,go_sem]
 refine⟨V,O.out.below z.out,?_,fun k q=> .inl q⟩
 refine Fr.trans ((Fr.refl _ w).setCell (a:=(af g (j*2))) (.inr (.inr (.inl rfl))) _) (Fr.aF z.out)
def DO {g B A P i j p q gg o:Nat} {x z:Th} {y:Lk} (h:dj w b s (.slice (some (ao A)) T.length P) (.slice (some (ao g)) L.length B) V T L) (X:L[j]? =some y) (D:V[j]? =some (.slice (some (ao gg)) y.l.length o)) (Y:y.l[p]? =some q) (hz:T[q]? =some z)
  {w2:World} (hb:Below (w.setCell (af g (j*2)) (ab (-1))).heap.size (w.setCell (af g (j*2)) (ab (-1))) w2):
  (w2.cell? (af g (j*2))=some (ab (-1))/\w2.cell? (af g (j*2+1))=some (.slice (some (ao gg)) y.l.length o)/\w2.cell? (af gg p)=some (ab q)/\(∀k,w2.frozen? (af g k)=false))/\
  aB 193 #[.slice (some (ao gg)) y.l.length o,ab p,ab ((p:Int)+1)] (w2.setCell (af g (j*2)) (ab q)) fun e C=>e= .returned (.slice (some (ao gg)) (y.l.eraseIdx p).length o)/\
   (C.cell? (af g (j*2+1))=some (.slice (some (ao gg)) y.l.length o)/\(∀k,C.frozen? (af g k)=false))/\
   ((C.setCell (af g (j*2+1)) (.slice (some (ao gg)) (y.l.eraseIdx p).length o)).cell? (ao s)=some (.slice (some (ao A)) T.length P)/\
    (C.setCell (af g (j*2+1)) (.slice (some (ao gg)) (y.l.eraseIdx p).length o)).cell? (af g (j*2))=some (ab q)/\
    (C.setCell (af g (j*2+1)) (.slice (some (ao gg)) (y.l.eraseIdx p).length o)).cell? (af A (q*4+3))=some (ab z.u)/\
    (C.setCell (af g (j*2+1)) (.slice (some (ao gg)) (y.l.eraseIdx p).length o)).frozen? (af A (q*4+3))=false)/\
   ((C.setCell (af g (j*2+1)) (.slice (some (ao gg)) (y.l.eraseIdx p).length o)).setCell (af A (q*4+3)) (ab (-1))).cell? (af g (j*2))=some (ab q)/\
   ju w ((C.setCell (af g (j*2+1)) (.slice (some (ao gg)) (y.l.eraseIdx p).length o)).setCell (af A (q*4+3)) (ab (-1))) b s (.slice (some (ao A)) T.length P) (.slice (some (ao g)) L.length B) V (T.set q ⟨z.k,-1⟩) (L.set j ⟨(q:Int),y.l.eraseIdx p⟩):=by
 have hj:=(i6.1 X).1
 have b3:=(i6.1 D).1
 have hp:=(i6.1 Y).1
 have Z:=h.m.hold X (-1)
 have F:=Z.below hb
 have I:(L.set j ⟨-1,y.l⟩)[j]? =some ⟨-1,y.l⟩:=by simp[hj]
 have W:L.length=(L.set j ⟨-1,y.l⟩).length:=q_
 obtain⟨a0,a1,b9⟩:=F.kW W I D
 have M:=F.lin j _ _ I D
 have b4:w2.cell? (af gg p)=some (ab q):=by
  rw[M.cellAt p z_]
  simp[ints,Y]
 have t:bU (w2.setCell (af g (j*2)) (ab q)) b s (.slice (some (ao A)) T.length P) (.slice (some (ao g)) L.length B) V T (L.set j ⟨(q:Int),y.l⟩):=by
  rw[W] at F
  have:=F.hold I (q:Int)
  grind[List.set_set]
 have H:(L.set j ⟨(q:Int),y.l⟩)[j]? =some ⟨(q:Int),y.l⟩:=by simp[hj]
 have O:L.length=(L.set j ⟨(q:Int),y.l⟩).length:=q_
 have J:=t.lin j _ _ H D
 refine⟨y_,?_⟩
 refine(LL J hp).mono ?_
 rintro e C ⟨rfl,N,v,b2⟩
 refine⟨rfl,?_⟩
 have a2:=fun k (hk:k<(w2.setCell (af g (j*2)) (ab q)).heap.size) (hn:(Value.slice (some (ao gg)) y.l.length o).ownBlock≠some k)=>v.block k hk (fun e=>hn (by rw[e];rfl))
 have G:=t
 rw[O] at G
 have E:=G.Ky H D z_ a2 N (fun k hk=> .inl hk)
 rw[List.set_set,<-O] at E
 have S:=E.waits hz (-1)
 obtain⟨b0,b1,a9⟩:=t.kW O H D
 obtain⟨n,hc⟩:=t.lb (k:=g) rfl
 have a3:g≠gg:=fun e=>by
  obtain⟨c',b5⟩:=t.vb (i9 D) (k:=gg) rfl
  grind
 have a4:=v.block g (zW0.1 hc).1 a3
 have Q:(L.set j ⟨(q:Int),y.l.eraseIdx p⟩)[j]? =some ⟨(q:Int),y.l.eraseIdx p⟩:=by simp[hj]
 have R:(V.set j (Value.slice (some (ao gg)) (y.l.eraseIdx p).length o))[j]? =some (Value.slice (some (ao gg)) (y.l.eraseIdx p).length o):=y_
 have U:L.length=(L.set j ⟨(q:Int),y.l.eraseIdx p⟩).length:=q_
 obtain⟨b6,b8,e5,f0,f1,a8,b7⟩:=E.form h.f.t1
 simp at e5
 obtain⟨rfl,rfl⟩:=e5
 refine⟨⟨(i5 a4).trans b1,fun k=> ?_⟩,⟨f0,(E.kW U Q R).1,y_,a8 _⟩,(S.kW U Q R).1,_,S.g (h.f.next hz X Y),?_,?_⟩
 ·have:=a9 k
  unfold World.frozen? at this|-
  grind
 ·have a7:Fr (own s (.slice (some (ao A)) T.length P) (.slice (some (ao g)) L.length B) V) w w2:=Fr.trans ((Fr.refl _ w).setCell (a:=(af g (j*2))) (.inr (.inr (.inl rfl))) _) (Fr.aF hb)
  have a6:=a7.setCell (a:=(af g (j*2))) (.inr (.inr (.inl rfl))) (ab q)
  have a5:=a6.trans (v.wide (fun k _ e=>(by rw[e];exact .inr (.inr (.inr ⟨_,i9 D,rfl⟩)):own s (.slice (some (ao A)) T.length P) (.slice (some (ao g)) L.length B) V k)))
  exact(a5.setCell (a:=(af g (j*2+1))) (.inr (.inr (.inl rfl))) _).setCell (a:=(af A (q*4+3))) (.inr (.inl rfl)) _
 ·rintro k (r|r|r|⟨u,hu,r⟩)
  ·exact .inl (.inl r)
  ·exact .inl (.inr (.inl r))
  ·exact .inl (.inr (.inr (.inl r)))
  ·rcases yZ0 hu with r'|rfl
   ·exact .inl (.inr (.inr (.inr ⟨u,r',r⟩)))
   ·exact .inl (.inr (.inr (.inr ⟨_,i9 D,r⟩)))
end
section
variable {w:World} {a s:Nat} {b c:Value} {V:List Value} {T:List Th} {L:List Lk}
def xj (h:dj w a s b c V T L) (i j p q:Nat) (R:eo T L i j=0) (y:Lk) (A:L[j]? =some y) (ho:y.h=(i:Int)) (hp:(bS (keyOf T L) y.l y.l.length).1=(p:Int)) (N:y.l[p]? =some q) (z:Th) (hz:T[q]? =some z):aB 165 #[ak s,ab i,ab j] w fun e F=>e=aS #[ab q,ab 0]/\ju w F a s b c V (T.set q ⟨z.k,-1⟩) (L.set j ⟨(q:Int),y.l.eraseIdx p⟩):=by
 have HM:=aa (df h (i:Int) (j:Int))
 obtain⟨i',j',x,y',e1,e2,hi,hj,hx,hu,M⟩:=dp R
 obtain rfl:i=i':=z_
 obtain rfl:j=j':=z_
 rw[R] at HM
 have b0:(j:Int)<L.length:=z_
 have O:=(i6.1 N).1
 have C:(p:Int)<y.l.length:=z_
 have a8:=(i6.1 hz).1
 have a4:(q:Int)<T.length:=z_
 have a7:=h.f.t2
 have a9: ¬(p:Int)= -1:=z_
 have P:y.l.length<=9223372036854775807:=by
  obtain⟨v,t⟩:=h.line hj
  obtain⟨va,I,rfl,h1,h2⟩:=fo (h.lin j y v A t)
  unfold maxLen at h2
  omega
 obtain⟨v,t⟩:=h.line hj
 have n:=h.lin j y v A t
 rcases n.2 with ⟨_,e0⟩|⟨gg,I,b6,rfl,_,_,B,a3,_⟩
 ·omega
 obtain⟨g,Z,rfl,b4,b3,hg,b2,_,_⟩:=h.kR z_
 obtain⟨r,D,rfl,a6,a5,_⟩:=h.rJ
 have HF:=aa (pM h hx hu A ho t)
 rw[hp] at HF
 obtain⟨y0,y1,fz⟩:=h.m.kW rfl A t
 rw[ho] at y0
 have c1:=h.c1
 have HN:=aa (fun H (G:Below (w.setCell (af g (j*2)) (ab (-1))).heap.size (w.setCell (af g (j*2)) (ab (-1))) H)=>DO (i:=i) (x:=x) h A t N hz G)
 clear h n A M hx R t hp N hz
 generalize y.l.eraseIdx p=J at HN
 generalize y.l.length=vn at y1 HF HN B O C P
 refine ge ?_
 go_wp2_with (first
  |(go_at_call 191;refine cS HM.out ?_)
  |(go_at_call 192;refine(HF.out).mono ?_;rintro e H ⟨rfl,G⟩;obtain⟨⟨a0,a1,a2,b8⟩,o⟩:=HN.out H G;replace o:=aa o;clear G)
  |(go_at_call 193;refine(o.out).mono ?_;rintro e w4 ⟨rfl,⟨b1,b7⟩,⟨Y,X,d2,d3⟩,W,d⟩;replace d:=aa d))
 have d5:((w4.setCell (af g (j*2+1)) (.slice (some (ao gg)) J.length I)).setCell (af r (q*4+3)) (ab (-1))).cell? (ao s)=some (.slice (some (ao r)) T.length D):=by
  obtain⟨V',Q,_⟩:=d.out
  have:=Q.c0
  omega
 generalize w4.setCell (af g (j*2+1)) (.slice (some (ao gg)) J.length I)=u at Y X d2 d3 W d5 d|-
 have U:=aa (And.intro Y X)
 have S:Hid (u.drew.cell? (ao s)=some (.slice (some (ao r)) T.length D)/\u.drew.cell? (af g (j*2))=some (ab q)):=⟨Y,X⟩
 have b5:Hid ((u.setCell (af r (q*4+3)) (ab (-1))).drew.cell? (ao s)=some (.slice (some (ao r)) T.length D)/\(u.setCell (af r (q*4+3)) (ab (-1))).drew.cell? (af g (j*2))=some (ab q)):=⟨d5,W⟩
 go_region_held3 (fun F=>(F.cell? (ao s)=some (.slice (some (ao r)) T.length D)/\F.cell? (af g (j*2))=some (ab q)))
  (first|with_reducible exact U.out|with_reducible exact S.out|simp_all)
  (first|fail)
 have d6:(u.setCell (af r (q*4+3)) (ab (-1))).drew.cell? (af g (j*2))=some (ab q):=W
 obtain⟨V',m1,m2,m3⟩:=d.out
 have E:Hid (ju w (u.setCell (af r (q*4+3)) (ab (-1))).drew a s (.slice (some (ao r)) T.length D) (.slice (some (ao g)) L.length Z) V (T.set q ⟨z.k,-1⟩) (L.set j ⟨(q:Int),J⟩)):=⟨V',m1.drew,m2.drew,m3⟩
 clear m1 m2 m3 d
 generalize (u.setCell (af r (q*4+3)) (ab (-1))).drew=W6 at d6 E|-
 go_wp2
 simp[bodyPost,results,Tryz.results165,go_sem]
 exact E.out
end
structure Md where
 T:List Th
 L:List Lk
open Classical in
noncomputable def cU (M:Md) (t m:Int):(Bool×Int)×Md:=
 if eo M.T M.L t m≠0 then((false,eo M.T M.L t m),M) else
 match M.T[t.toNat]?,M.L[m.toNat]? with
 |some x,some y=>
  if y.h=t then((false,7),M) else
  if y.h= -1 then((true,0),⟨M.T,M.L.set m.toNat ⟨t,y.l⟩⟩) else
  if fw M.L y.h.toNat t.toNat then((false,8),M) else
  ((false,0),⟨M.T.set t.toNat ⟨x.k,m⟩,M.L.set m.toNat ⟨y.h,y.l++[t.toNat]⟩⟩)
 |_,_=>((false,0),M)
noncomputable def EX (M:Md) (y:Lk):Int:=(bS (keyOf M.T M.L) y.l y.l.length).1
noncomputable def bM (M:Md) (t m:Int):(Int×Int)×Md:=
 if eo M.T M.L t m≠0 then((-1,eo M.T M.L t m),M) else
 match M.L[m.toNat]? with
 |some y=>
  if y.h≠t then((-1,9),M) else
  match y.l[(EX M y).toNat]? with
  |none=>((-1,0),⟨M.T,M.L.set m.toNat ⟨-1,y.l⟩⟩)
  |some q=>(((q:Int),0),⟨(match M.T[q]? with|some z=>M.T.set q ⟨z.k,-1⟩|none=>M.T),M.L.set m.toNat ⟨(q:Int),y.l.eraseIdx (EX M y).toNat⟩⟩)
 |none=>((-1,0),M)
def jc (M:Md) (t:Int) (k:K):Int×Md:=
 if oR M.T t&&aN k then match M.T[t.toNat]? with
  |some x=>(0,⟨M.T.set t.toNat ⟨k,x.u⟩,M.L⟩)
  |none=>(2,M)
 else(2,M)
def PG (w:World) (b:Nat) (O:Nat->Prop) (s:Nat) (M:Md):Prop:= ∃a c V,dj w b s a c V M.T M.L/\ ∀k,own s a c V k↔O k
def NC (w a:World) (b:Nat) (O:Nat->Prop) (s:Nat) (M:Md):Prop:= ∃c,PG a b c s M/\Fr O w a/\ ∀k,c k->O k\/w.heap.size<=k
section
variable {w w':World} {b s:Nat} {O:Nat->Prop} {M:Md}
def PG.f (h:PG w b O s M):dI M.T M.L:=by obtain⟨_,_,_,a,_⟩:=h;exact a.f
theorem PG.lt (h:PG w b O s M) {k:Nat} (c:O k):k<w.heap.size:=by obtain⟨_,_,_,d,a⟩:=h;exact d.Dp ((a k).2 c)
def PG.ge (h:PG w b O s M) {k:Nat} (g:O k):b<=k:=by
 obtain⟨i,l,V,c,f⟩:=h
 rcases(f k).2 g with rfl|q|q|⟨v,e,q⟩
 ·exact c.lo
 ·exact(au c.tho q).1
 ·exact(au c.lko q).1
 ·obtain⟨j,d⟩:=List.mem_iff_getElem?.1 e
  have a:=(i6.1 d).1
  rw[c.vs] at a
  exact(au (c.lin j _ v (zX0 a) d) q).1
def PG.frame {S:Nat->Prop} (h:PG w b O s M) (f:Fr S w w') (g: ∀k,O k-> ¬S k):PG w' b O s M:=by
 obtain⟨a,c,V,e,d⟩:=h
 exact⟨a,c,V,e.frame f y_,d⟩
def PG.below (h:PG w b O s M) (a:aC w w'):PG w' b O s M:=h.frame (Fr.aF (S:=fun _=>False) a) (fun _ _=>id)
theorem PG.stay (h:PG w b O s M) (a:aC w w'):NC w w' b O s M:=⟨O,h.below a,Fr.aF a,fun _ q=> .inl q⟩
theorem ju.JA {a c:Value} {V:List Value} (g: ∀k,own s a c V k↔O k) {T:List Th} {L:List Lk} (h:ju w w' b s a c V T L):NC w w' b O s ⟨T,L⟩:=by
 obtain⟨f,d,e,i⟩:=h
 exact⟨_,⟨a,c,f,d,fun k=>Iff.rfl⟩,e.wide y_,fun k q=>y_⟩
theorem PG.lock (h:PG w b O s M) (t m:Int):aB 190 #[ak s,ab t,ab m] w fun e w'=>e=aS #[.bool (cU M t m).1.1,ab (cU M t m).1.2]/\NC w w' b O s (cU M t m).2:=by
 have D:=h
 obtain⟨A,B,V,n,r⟩:=h
 unfold cU
 by_cases d:eo M.T M.L t m=0
 ·rw[if_neg z_]
  obtain⟨i,j,x,y,rfl,rfl,hi,E,p,C,a⟩:=dp d
  simp only[Int.toNat_natCast,p,a]
  by_cases l:y.h=(i:Int)
  ·rw[if_pos l]
   grind[Pi.FV,Calls.mono,Pi.PG.stay,cj]
  ·rw[if_neg l]
   by_cases g:y.h= -1
   ·rw[if_pos g]
    refine(Cc n i j d y a g).mono ?_
    rintro e w' ⟨rfl,c,z⟩
    exact⟨rfl,ju.JA r ⟨V,c,z.wide (fun k _ q=> .inr (.inr (.inl q))),fun k q=> .inl q⟩⟩
   ·rw[if_neg g]
    obtain⟨k,v⟩: ∃k:Nat,y.h=(k:Int):=⟨y.h.toNat,by have:=(n.f.lk y (i9 a)).1;omega⟩
    have u:k≠i:=fun e=>l z_
    rw[v,Int.toNat_natCast]
    by_cases o:fw M.L k i
    ·rw[if_pos o]
     grind[Pi.xZ,Calls.mono,Pi.PG.stay]
    ·rw[if_neg o]
     grind[Pi.nH,Calls.mono,Pi.ju.JA]
 ·rw[if_pos d]
  grind[Pi.GP,Calls.mono,Pi.PG.stay,cj]
def xB {y:Lk} (h:y.l≠[]): ∃p q:Nat,EX M y=(p:Int)/\y.l[p]? =some q:=by
 obtain⟨p,a,e,_⟩:=oh (keyOf M.T M.L) y.l y.l.length aT y_
 exact⟨p,y.l[p],e,zX0 a⟩
theorem PG.unlock (h:PG w b O s M) (t m:Int):aB 165 #[ak s,ab t,ab m] w fun e w'=>e=aS #[ab (bM M t m).1.1,ab (bM M t m).1.2]/\NC w w' b O s (bM M t m).2:=by
 have D:=h
 obtain⟨z,A,V,n,u⟩:=h
 unfold bM
 by_cases g:eo M.T M.L t m=0
 ·rw[if_neg z_]
  obtain⟨i,j,x,y,rfl,rfl,hi,E,B,C,a⟩:=dp g
  simp only[Int.toNat_natCast,a]
  by_cases o:y.h=(i:Int)
  ·rw[if_neg z_]
   by_cases v:y.l=[]
   ·grind[Pi.wN,Calls.mono,Pi.ju.JA]
   ·obtain⟨p,q,r,k⟩:=xB (M:=M) v
    have c:=(n.f.lk y (i9 a)).2.2.1 q (i9 k)
    have hz:=zX0 c
    rw[r,Int.toNat_natCast,k]
    simp only[hz]
    refine(xj n i j p q g y a o r k _ hz).mono ?_
    rintro e w' ⟨rfl,d⟩
    exact⟨rfl,d.JA u⟩
  ·rw[if_pos o]
   grind[Pi.uB,Calls.mono,Pi.PG.stay,cj]
 ·rw[if_pos g]
  grind[Pi.zA,Calls.mono,Pi.PG.stay,cj]
theorem PG.base (h:PG w b O s M) (t:Int) (k:K) (i:k.ok):aB 79 #[ak s,ab t,.agg (bn k)] w fun e w'=>e= .returned (ab (jc M t k).1)/\NC w w' b O s (jc M t k).2:=by
 have p:=h
 obtain⟨n,o,V,l,g⟩:=h
 unfold jc
 cases d:oR M.T t with
 |false=>
  simp only[Bool.false_and,Bool.false_eq_true,if_false]
  grind[Pi.Bk,Calls.mono,Pi.PG.stay]
 |true=>
  cases f:aN k with
  |false=>
   simp only[Bool.and_false,Bool.false_eq_true,if_false]
   grind[Pi.Bk,Calls.mono,Pi.PG.stay]
  |true=>
   obtain⟨j,x,rfl,r,c,_⟩:=o7 d
   simp only[Bool.and_true,if_true,Int.toNat_natCast,c]
   refine(Et l j x c k i f).mono ?_
   rintro e w' ⟨rfl,a,m⟩
   exact⟨rfl,ju.JA g ⟨V,a,m.wide (fun k _ q=> .inr (.inl q)),fun k q=> .inl q⟩⟩
theorem PG.key (h:PG w b O s M) (t:Int):vQ 83 #[ak s,ab t] w (.agg (bn (jo M.T M.L t))):=by
 obtain⟨c,d,V,a,e⟩:=h
 exact ll a t
def IL (w:World) (a:Nat) (v:Value) (l:List Int):Prop:=w.ownsRow a 3 1 v l.length (l.map (Value.int .i64))
theorem PG.held (h:PG w b O s M) (t:Int):aB 198 #[ak s,ab t] w fun e w'=> ∃v,e= .returned v/\IL w' w.heap.size v (gW M.T M.L t)/\aC w w':=by
 obtain⟨c,d,V,a,f⟩:=h
 exact Ib a t
end
section
variable {w:World} {a s:Nat} {b c:Value} {V:List Value} {T:List Th} {L:List Lk}
end
def Jc (n m:Nat):Md:=⟨zq n,vY m⟩
def tZ (n m:Nat) (w:World) (d:1<=n) (c:n<=1024) (b:m<=32):
  aB 35 #[ab n,ab m] w fun e w'=> ∃s O,e= .returned (ak s)/\PG w' w.heap.size O s (Jc n m)/\aC w w':=by
 refine(JZ n m w d c b).mono ?_
 rintro e w' ⟨s,f,g,rfl,a⟩
 exact⟨s,_,rfl,⟨_,_,_,dj.new a d c b,fun k=>Iff.rfl⟩,a.be⟩
end Go.Proofs.YtnmhcgpnhlhcgaaGreatDoor.Pi
