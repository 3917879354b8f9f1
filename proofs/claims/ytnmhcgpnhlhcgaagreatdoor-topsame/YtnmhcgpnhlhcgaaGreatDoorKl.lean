/- YtnmhcgpnhlhcgaaGreatDoorKl: of the texts C1 C2 C3 C4 C5 C6 C7 C8 C13 C14 C15 C16 T1 T2 T3 T4 T5 T6 T12 what is wanted. -/
import Derived.Test.YtnmhcgpnhlhcgaaGreatDoorK0
import Derived.Test.YtnmhcgpnhlhcgaaGreatDoorChecked
import Derived.WalkKit
import Derived.ProofKit
import Derived.Below
import Derived.Carry
import Derived.Laws.OwnMore
import Derived.Maps.AppendAt
import Derived.Deep.AppendLies
import Derived.Deep.RegionHeld3
import Derived.Lib.SmallJoins
import Derived.OneCell
import Derived.Lib.BitFns
import Derived.LoopIn
import Derived.LoopNIn
import Derived.OrdersHeld
import Derived.OrdersIn
import Derived.OwnWalkIn
import Derived.RangeFuncBound
import Derived.RangeFuncBox
import Derived.RangeFuncCalls
import Derived.RangeFuncLeaves
import Derived.RangeFuncNested
import Derived.Shelf.Abstract
import Derived.Shelf.RegionOpen
import Derived.TacticsInMore
import Derived.Test.YtnmhcgpnhlhcgaaGreatDoorRows
import Derived.WalkSpells
import Derived.WalkLawsBesides
import Derived.StillTactics
import Derived.RegionTactic
import Derived.RowKit3
import Derived.Laws.MakeOwn
import Derived.OwnWalk
import Derived.Deep.QuietTactic
import Derived.BigQuiet
import Derived.Deep.DrawnRows
import Derived.OpenShut
import Derived.Deep.Slices
import Derived.Deep.Strs
import Derived.ChangeOld
import Derived.ChangeSame
import Derived.Lib.LaidTab
set_option maxHeartbeats 16000000
set_option maxRecDepth 100000
set_option linter.unusedVariables false
set_option linter.defProp false
set_option linter.unusedSimpArgs false
namespace Go.Proofs.YtnmhcgpnhlhcgaaGreatDoor.Cb
open Go.RowKit Go.Lib
section
variable {S b:Nat->Prop} {w c a:World}
end
structure ck where
 b:Nat
 p:Nat
 l:Nat
 d:Nat
def ck.ok (x:ck):Prop:=1<=x.b/\x.b<=x.p/\232792560%x.p=0/\x.l<=x.b/\x.d<18446744073709551616
def ck.ok.pos {x:ck} (h:x.ok):0<x.p:=by have:=h.1;have:=h.2.1;omega
def ck.ok.le {x:ck} (h:x.ok):x.p<=232792560:=Nat.le_of_dvd x_ (Nat.dvd_of_mod_eq_zero h.2.2.1)
def asks (x:ck):Nat:=x.b*(232792560/x.p)
def fA (L:List ck):Nat:=(L.map asks).sum
theorem o0 {x:ck} (h:x.ok):asks x<=232792560:=by
 unfold asks
 refine zY0 (Nat.mul_le_mul_right _ h.2.1) ?_
 exact Nat.mul_div_le 232792560 x.p
def lx {L:List ck} (h: ∀x∈L,x.ok):fA L<=L.length*232792560:=by
 induction L with
 |nil=>decide
 |cons x L a=>
  grind[Cb.o0,Cb.fA]
structure dI (P:Nat) (L:List ck):Prop where
 p1:1<=P
 p2:P<=64
 all: ∀x∈L,x.ok
 len:L.length<=32
def fC (a b:Nat):Nat:=if a+b<=18446744073709551615 then a+b else 18446744073709551615
def fs (x:ck) (a:Nat):ck:=⟨x.b,x.p,x.b,fC a x.p⟩
def qc (x:ck):List Value:=[aj x.b,aj x.p,aj x.l,aj x.d]
def aP (L:List ck):List Value:=L.flatMap qc
theorem jP (x:ck) (L:List ck):aP (x::L)=qc x++aP L:=rfl
def fG: ∀(L:List ck) (i:Nat) (x:ck),L[i]? =some x->(aP L)[i*4]? =some (aj x.b)/\(aP L)[i*4+1]? =some (aj x.p)/\(aP L)[i*4+2]? =some (aj x.l)/\(aP L)[i*4+3]? =some (aj x.d)
 |[],i,x,h=>by simp at h
 |y::L,0,x,h=>by
  simp at h
  subst h
  exact⟨rfl,rfl,rfl,rfl⟩
 |y::L,i+1,x,h=>by
  have:=fG L i x y_
  rw[jP,show(i+1)*4=i*4+4 by omega]
  exact this
def ly: ∀(L:List ck) (i:Nat) (x:ck),i<L.length->aP (L.set i x)=((((aP L).set (i*4) (aj x.b)).set (i*4+1) (aj x.p)).set (i*4+2) (aj x.l)).set (i*4+3) (aj x.d)
 |[],i,x,h=>by simp at h
 |y::L,0,x,h=>by rfl
 |y::L,i+1,x,h=>by
  have:=ly L i x y_
  rw[List.set_cons_succ,jP,this,jP,show(i+1)*4=i*4+4 by omega]
  rfl
structure dy (w:World) (base s P:Nat) (v:Value) (L:List ck):Prop where
 blk:w.heap[s]? =some (.cells #[aj P,v] 155 (0,0))
 own:w.ownsRow base 184 4 v L.length (aP L)
 bs:base<=w.heap.size
 f:dI P L
section
variable {w w':World} {base s P:Nat} {v:Value} {L:List ck}
theorem dy.lt (h:dy w base s P v L):s<w.heap.size:=(zW0.1 h.blk).1
def dy.ne (h:dy w base s P v L):v.ownBlock≠some s:=by
 intro q
 obtain⟨_,_,a,e⟩:=au h.own q
 rw[h.blk] at e
 simp at e
theorem dy.c0 (h:dy w base s P v L):w.cell? (ao s)=some (aj P):=by unfold World.cell?;simp[h.blk]
theorem dy.c1 (h:dy w base s P v L):w.cell? (af s 1)=some v:=by unfold World.cell?;simp[h.blk]
def dy.form (h:dy w base s P v L): ∃a b,v= .slice a L.length b/\L.length<=b/\b<=maxLen:=by
 rcases h.own.2 with ⟨e,i⟩|⟨g,b,c,e,_,_,f,d,_⟩
 ·grind
 grind
def dy.cells (h:dy w base s P v L) (u:0<L.length): ∃g c,v= .slice (some (ao g)) L.length c/\L.length<=c/\c<=maxLen/\g<w.heap.size/\g≠s/\(∀k,w.frozen? (af g k)=false)/\
  (∀j x,L[j]? =some x->w.cell? (af g (j*4))=some (aj x.b)/\w.cell? (af g (j*4+1))=some (aj x.p)/\w.cell? (af g (j*4+2))=some (aj x.l)/\w.cell? (af g (j*4+3))=some (aj x.d)):=by
 have f:=h.ne
 rcases h.own.2 with ⟨e,z⟩|⟨g,c,t,e,y,n,r,o,_⟩
 ·omega
 ·have a:=h.own
  subst e
  refine⟨g,c,rfl,r,o,(zW0.1 n).1,fun q=>f (by rw[q];rfl),dP a,fun j x i=> ?_⟩
  have m:=(i6.1 i).1
  rw[a.cellAt (j*4) z_,a.cellAt (j*4+1) z_,a.cellAt (j*4+2) z_,a.cellAt (j*4+3) z_]
  exact fG L j x i
theorem dy.kept (h:dy w base s P v L) (c:w.heap.size<=w'.heap.size) (b:w'.heap[s]? =w.heap[s]?) (a: ∀k,v.ownBlock=some k->w'.heap[k]? =w.heap[k]?):dy w' base s P v L:=
 ⟨b.trans h.blk,aO h.own a,zY0 h.bs c,h.f⟩
def dy.frame {S:Nat->Prop} (h:dy w base s P v L) (a:Fr S w w') (d: ¬S s) (c: ∀k,v.ownBlock=some k-> ¬S k):dy w' base s P v L:=
 h.kept a.size (a.block s h.lt d) (fun k b=>a.block k (au h.own b).2.1 (c k b))
def dy.below (h:dy w base s P v L) (a:aC w w'):dy w' base s P v L:=
 h.frame (Fr.aF (S:=fun _=>False) a) id (fun _ _=>id)
def dy.dc (h:dy w base s P v L) (a:w'.heap=w.heap):dy w' base s P v L:=h.kept y_ (by rw[a]) y_
def dy.stored {b:Value} {L':List ck} (g:w.heap[s]? =some (.cells #[aj P,v] 155 (0,0)))
  (a:w.ownsRow base 184 4 b L'.length (aP L')) (f:base<=w.heap.size) (d:dI P L'):dy (w.setCell (af s 1) b) base s P b L':=by
 have c:b.ownBlock≠some s:=by
  intro q
  obtain⟨_,_,h,e⟩:=au a q
  grind
 exact⟨Go.Joins.block_setCell g b,ownsRow_setCell_other a c b,by simp_all,d⟩
end
section
variable {w b:World} {a s P:Nat} {v:Value} {L:List ck}
end
theorem pZ (z:Int) (b:0<=z) (a:z<18446744073709551616):IntKind.u64.wrap z=z:=by
 unfold IntKind.wrap
 simp[IntKind.bits,IntKind.signed]
 omega
def iI (b p:Nat):Bool:=decide (1<=b/\b<=p/\232792560%p=0)
def cf (w:World) (b p:Nat):aB 71 #[.agg #[aj b,aj p]] w fun e a=>e= .returned (.bool (iI b p))/\ ∃c,a=w.alloc (.cells c 182):=by
 unfold iI
 by_cases h:1<=b
 ·have f:(1:Int)<=(b:Int):=by omega
  by_cases g:b<=p
  ·have d:(b:Int)<=p:=by omega
   have j: ¬(p:Int)=0:=z_
   have i:((232792560%(p:Int))==0)=decide (232792560%p=0):=by
    grind
   refine ge ?_
   go_wp2
   go_ret
   exact⟨by simp_all,_,rfl⟩
  ·have d: ¬(b:Int)<=p:=by omega
   refine ge ?_
   go_wp2
   go_ret
   exact⟨q_,_,rfl⟩
 ·have f: ¬(1:Int)<=(b:Int):=by omega
  refine ge ?_
  go_wp2
  go_ret
  exact⟨q_,_,rfl⟩
def tP (w:World) (x:ck) (d:x.ok):aB 73 #[.agg #[aj x.b,aj x.p]] w fun e a=>e= .returned (aj (asks x:Int))/\ ∃c,a=(w.alloc (.cells c 182)).drew:=by
 have j: ¬(x.p:Int)=0:=by have:=d.pos;omega
 have g: ¬x.p=0:=z_
 have i:IntKind.u64.wrap ((x.b:Int)*IntKind.u64.wrap (Int.tdiv 232792560 (x.p:Int)))=(asks x:Int):=by
  have h:=o0 d
  have l:Int.tdiv 232792560 (x.p:Int)=((232792560/x.p:Nat):Int):=by rfl
  have f:232792560/x.p<=232792560:=Nat.div_le_self _ _
  have k:IntKind.u64.wrap ((232792560/x.p:Nat):Int)=((232792560/x.p:Nat):Int):=by
   generalize 232792560/x.p=q at f
   grind[Cb.pZ]
  have e:(asks x:Int)=(x.b:Int)*((232792560/x.p:Nat):Int):=by rfl
  grind[Cb.pZ]
 refine ge ?_
 go_wp2
 go_region_held3 (fun a=>a.cell? (ao w.heap.size)=some (aj x.b)/\a.cell? (af w.heap.size 1)=some (aj x.p))
  (simp[go_sem])
  (first|fail)
 go_wp2
 go_ret
 exact⟨q_,_,rfl⟩
def ig (w:World) (P:Nat) (c:1<=P) (b:P<=64):aB 34 #[ab P] w fun e a=>e= .returned (ak w.heap.size)/\a=w.alloc (.cells #[aj P,.slice none 0 0] 155):=by
 have g: ¬(P:Int)<1:=z_
 have f: ¬(64:Int)<(P:Int):=z_
 have d:(P:Int)%18446744073709551616=P:=z_
 refine ge ?_
 go_wp2
 go_ret
 simp
def mj (w:World) (x:ck) (a:Nat):aB 143 #[.agg #[aj x.b,aj x.p,aj x.l,aj x.d],aj a] w fun e f=>e= .returned (.bool (decide (x.d<=a)))/\ ∃c,f=w.alloc (.cells c 184):=by
 refine ge ?_
 go_wp2
 go_ret
 exact⟨q_,_,rfl⟩
def sH (w:World) (x:ck):aB 144 #[.agg #[aj x.b,aj x.p,aj x.l,aj x.d]] w fun e a=>e= .returned (.bool (x.d==0))/\ ∃c,a=w.alloc (.cells c 184):=by
 refine ge ?_
 go_wp2
 go_ret
 refine⟨?_,_,rfl⟩
 have h:(((x.d:Nat):Int)==0)=(x.d==0):=y_
 simp[h]
def xx (a b:Nat) (w:World) (e:a<18446744073709551616) (d:b<18446744073709551616):
  vS 46 #[aj a,aj b] w (aj (fC a b:Int)):=by
 unfold fC
 by_cases h:a+b<=18446744073709551615
 ·rw[if_pos h]
  have c: ¬(18446744073709551615:Int)-b<a:=z_
  refine ge ?_
  go_wp2
  go_ret
  simp
 ·rw[if_neg h]
  have c:(18446744073709551615:Int)-b<a:=z_
  refine ge ?_
  go_wp2
  go_ret
  simp
def sO (w:World) (x:ck) (a:Nat) (g:x.ok) (h:a<18446744073709551616):aB 93 #[.agg #[aj x.b,aj x.p,aj x.l,aj x.d],aj a] w fun e f=>e= .returned (.agg #[aj ((fs x a).b:Int),aj ((fs x a).p:Int),aj ((fs x a).l:Int),aj ((fs x a).d:Int)])/\ ∃c i,f=((w.alloc (.cells c 184)).alloc (.cells i 184)).drew:=by
 have j:=aa (fun w=>xx a x.p w h (by have:=g.le;omega))
 refine ge ?_
 go_wp2
 go_region_held3 (fun f=>f.cell? (ao w.heap.size)=some (aj x.b)/\f.cell? (af w.heap.size 1)=some (aj x.p))
  (first|simp[go_sem]|simp[go_sem,World.cell?_alloc_past])
  (first|(go_at_call 46;refine(j.out _).mono ?_;rintro e k ⟨rfl,rfl⟩))
 go_wp2
 simp[bodyPost,results,Tryz.results93,go_sem,fs]
 grind
section
variable {w:World} {a s P:Nat} {v:Value} {L:List ck}
def eh (h:dy w a s P v L) (i:Int):vS 139 #[ak s,ab i] w (.bool (decide (0<=i/\i<(L.length:Int)))):=by
 obtain⟨b,c,rfl,_,_⟩:=h.form
 have e:=h.c1
 clear h
 by_cases d:0<=i
 ·refine ge ?_
  go_wp2
  go_ret
  simp_all
 ·refine ge ?_
  go_wp2
  go_ret
  exact⟨by simp;omega,rfl⟩
theorem ye (h:dy w a s P v L):vS 54 #[ak s] w (ab L.length):=by
 obtain⟨b,c,rfl,_,_⟩:=h.form
 have d:=h.c1
 clear h
 refine ge ?_
 go_wp2
 go_ret
 simp
def nk (L:List ck) (i:Int):ck:=if 0<=i/\i<(L.length:Int) then(L[i.toNat]?).getD ⟨0,0,0,0⟩ else⟨0,0,0,0⟩
def Kz (h:dy w a s P v L) (i:Int):aB 84 #[ak s,ab i] w fun e f=>e= .returned (.agg #[aj ((nk L i).b:Int),aj ((nk L i).p:Int),aj ((nk L i).l:Int),aj ((nk L i).d:Int)])/\ ∃c,f=w.alloc (.cells c 184):=by
 unfold nk
 by_cases hi:0<=i/\i<(L.length:Int)
 ·rw[if_pos hi]
  obtain⟨k,rfl⟩: ∃k:Nat,i=k:=⟨i.toNat,z_⟩
  have q:k<L.length:=z_
  obtain⟨x,n⟩: ∃x,L[k]? =some x:=⟨_,zX0 q⟩
  have j:=aa (fun f (m:aC w f)=>eh (h.below m) (k:Int))
  simp only[xZ0 hi] at j
  obtain⟨g,y,rfl,u,t,F,r,_,o⟩:=h.cells z_
  obtain⟨C,B,A,z⟩:=o k x n
  have G:=h.c1
  have E:=h.lt
  simp only[Int.toNat_natCast,n,Option.getD_some]
  clear h o hi
  refine ge ?_
  go_wp2_with (go_at_call 139;refine(j.out _ bq).mono ?_;rintro e D ⟨rfl,hw⟩;subst hw)
  simp[bodyPost,results,Tryz.results84,go_sem]
  grind
 ·rw[if_neg hi]
  have j:=aa (fun f (m:aC w f)=>eh (h.below m) i)
  simp only[yU0 hi] at j
  clear h hi
  refine ge ?_
  go_wp2_with (go_at_call 139;refine cS (j.out _ bq) ?_)
  simp[bodyPost,results,Tryz.results84,go_sem]
  grind
end
@[go_sem] theorem zI (a b c d : Int) (w : World) : (Instr.field 184 (.agg #[aj a, aj b, aj c, aj d]) 1).run Tryz.prog w = .ok (aj c) w := by rfl
@[go_sem] theorem Nd (a b c d : Int) (w : World) : (Instr.field 184 (.agg #[aj a, aj b, aj c, aj d]) 2).run Tryz.prog w = .ok (aj d) w := by rfl
section
variable {w:World} {a s P:Nat} {v:Value} {L:List ck}
theorem uT (h:dy w a s P v L) (i:Int):aB 132 #[ak s,ab i] w fun e b=>e= .returned (aj ((nk L i).d:Int))/\ ∃c,b=w.alloc (.cells c 184):=by
 have f:=aa (Kz h i)
 clear h
 refine ge ?_
 go_wp2_with (go_at_call 84;refine(f.out).mono ?_;rintro e g ⟨rfl,c,rfl⟩)
 go_ret
 exact⟨rfl,_,rfl⟩
theorem Cv (h:dy w a s P v L) (i:Int):aB 130 #[ak s,ab i] w fun e b=>e= .returned (.bool (decide (0<(nk L i).l)))/\ ∃c,b=w.alloc (.cells c 184):=by
 have d:=aa (Kz h i)
 clear h
 refine ge ?_
 go_wp2_with (go_at_call 84;refine(d.out).mono ?_;rintro e f ⟨rfl,c,rfl⟩)
 go_ret
 exact⟨q_,_,rfl⟩
def Dz (L:List ck) (j:Nat) (x:ck) (h:L[j]? =some x):fA (L.take (j+1))=fA (L.take j)+asks x:=by
 grind[Cb.fA,List.take_add_one]
def GY (h:dy w a s P v L):vQ 72 #[ak s] w (aj (fA L:Int)):=by
 have q:=aa h
 obtain⟨b,C,rfl,_,_⟩:=h.form
 have Q:=h.c1
 have r:=h.f.len
 clear h
 refine ge ?_
 go_wp2
 go_loopw [3,13] (fun z i wr=> ∃(j:Nat),j<=L.length/\i=ab j/\z=aj (fA (L.take j):Int)/\aC w wr) (fun _ i _=>L.length-(intOf i).toNat)
 case atStart=>exact⟨0,z_,rfl,rfl,cj⟩
 case round=>
  obtain⟨j,N,rfl,rfl,d⟩:=hrel
  by_cases p:j<L.length
  ·have l:(j:Int)<L.length:=by omega
   obtain⟨x,n⟩: ∃x,L[j]? =some x:=⟨_,zX0 p⟩
   obtain⟨g,u,e,_,_,O,_,_,t⟩:=(q.out.below d).cells z_
   simp at e
   obtain⟨rfl,rfl⟩:=e
   obtain⟨I,H,G,F⟩:=t j x n
   have k:=q.out.f.all x (i9 n)
   have E:=aa (fun w=>tP w x k)
   have B:=Dz L j x n
   have o:fA (L.take (j+1))<=32*232792560:=by
    refine zY0 (lx (fun y M=>q.out.f.all y y_)) ?_
    grind
   have hw:IntKind.u64.wrap ((fA (L.take j):Int)+(asks x:Int))=(fA (L.take (j+1)):Int):=by
    grind[Cb.pZ]
   have D:=aa hw
   have A:((fA (L.take j):Int)+(asks x:Int))%18446744073709551616=(fA (L.take (j+1)):Int):=by
    omega
   have m:=aa d
   clear t d B o k hw
   go_wp2_with (go_at_call 73;refine(E.out _).mono ?_;rintro e J ⟨rfl,c,rfl⟩)
   go_roundw
   case rel=>exact⟨j+1,z_,by go_num,by first|rfl|simp[D.out],((m.out.alloc m.out.size _).alloc (by have:=m.out.size;simp;omega) _).drew⟩
   case measure=>simp[intOf];omega
  ·have l: ¬(j:Int)<L.length:=by omega
   obtain rfl:j=L.length:=z_
   have m:=aa d
   clear d
   go_wp2
   go_ret
   exact⟨q_,m.out⟩
theorem dy.put (h:dy w a s P v L) {g e k:Nat} (n:v= .slice (some (ao g)) L.length e) (o:k<L.length) (x:ck) (m:x.ok):
  dy ((((w.setCell (af g (k*4)) (aj x.b)).setCell (af g (k*4+1)) (aj x.p)).setCell (af g (k*4+2)) (aj x.l)).setCell (af g (k*4+3)) (aj x.d)) a s P v (L.set k x):=by
 have c:=h.ne
 subst n
 have r: ¬s=g:=fun q=>c (by rw[q];rfl)
 have i:=aZ (aZ (aZ (aZ h.own (k*4) z_ (aj x.b)) (k*4+1) z_ (aj x.p)) (k*4+2) z_ (aj x.l)) (k*4+3) z_ (aj x.d)
 rw[<-ly L k x o] at i
 refine⟨?_,by simpa using i,by simpa using h.bs,⟨h.f.p1,h.f.p2,?_,by simpa using h.f.len⟩⟩
 ·grind[RowKit.Below.heap_setCell,Cb.dy.blk]
 ·intro y j
  rcases yZ0 j with q|q
  ·exact h.f.all y q
  ·rw[q];exact m
end
def pd (a b:Nat):fC a b<18446744073709551616:=by unfold fC;grind
def As {x:ck} (h:x.ok) (a:Nat):(fs x a).ok:=⟨h.1,h.2.1,h.2.2.1,aT,pd _ _⟩
def qz {xs:List Value} {k:Nat} {u:Value} (h:xs[k]? =some u):xs.set k u=xs:=by
 apply List.ext_getElem?
 grind
def LZ (n:Nat):((n:Int)==0)=(n==0):=y_
def qO {S:Nat->Prop} {w c:World} (m:aC w c) (g h f e d:Nat) (l k j i:Value) (b:S g):Fr S w ((((c.setCell (af g h) l).setCell (af g f) k).setCell (af g e) j).setCell (af g d) i):=
 ((((Fr.aF m).setCell (a:=(af g h)) b _).setCell (a:=(af g f)) b _).setCell (a:=(af g e)) b _).setCell (a:=(af g d)) b _
section
variable {w:World} {c s P:Nat} {v:Value} {L:List ck}
theorem dy.one {g a:Nat} (h:dy w c s P (.slice (some (ao g)) L.length a) L) {k:Nat} {x:ck} (i:L[k]? =some x):
  w.cell? (af s 1)=some (.slice (some (ao g)) L.length a)/\w.cell? (af g (k*4))=some (aj x.b)/\w.cell? (af g (k*4+1))=some (aj x.p)/\w.cell? (af g (k*4+2))=some (aj x.l)/\w.cell? (af g (k*4+3))=some (aj x.d)/\
  w.frozen? (af g (k*4))=false/\w.frozen? (af g (k*4+1))=false/\w.frozen? (af g (k*4+2))=false/\w.frozen? (af g (k*4+3))=false:=by
 have t:=(i6.1 i).1
 obtain⟨u,j,e,_,_,_,_,f,r⟩:=h.cells z_
 simp at e
 obtain⟨rfl,rfl⟩:=e
 obtain⟨q,o,n,m⟩:=r k x i
 exact⟨h.c1,q,o,n,m,f _,f _,f _,f _⟩
def yG (h:dy w c s P v L) (i:Int) (a:Nat) (hi: ¬(0<=i/\i<(L.length:Int))):vS 95 #[ak s,ab i,aj a] w (ab 2):=by
 have b:=aa (eh h i)
 rw[yU0 hi] at b
 clear h hi
 refine ge ?_
 go_wp2_with (go_at_call 139;refine cS b.out ?_)
 go_ret
 simp
def F8 (h:dy w c s P v L) (k b:Nat) (x:ck) (f:L[k]? =some x) (i: ¬x.d<=b):vQ 95 #[ak s,ab k,aj b] w (ab 0):=by
 have B:=(i6.1 f).1
 have m:=aa (eh h k)
 rw[xZ0 z_] at m
 have l:=aa (fun w=>mj w x b)
 simp only[yU0 i] at l
 obtain⟨g,r,rfl,q,p,C,n,o,j⟩:=h.cells z_
 obtain⟨z,y,u,t⟩:=j k x f
 have D:=h.c1
 clear h j i
 refine ge ?_
 go_wp2_with (first
  |(go_at_call 139;refine cS m.out ?_)
  |(go_at_call 143;refine(l.out _).mono ?_;rintro e A ⟨rfl,a,rfl⟩))
 go_ret
 exact⟨rfl,bq⟩
def DE (h:dy w c s P v L) (k b:Nat) (x:ck) (o:L[k]? =some x) (q:x.d<=b) (F:b<18446744073709551616):aB 95 #[ak s,ab k,aj b] w fun e w'=>e= .returned (ab 0)/\dy w' c s P v (L.set k (fs x b))/\Fr (fun k=>some k=v.ownBlock) w w':=by
 have G:=(i6.1 o).1
 have u:=aa (eh h k)
 rw[xZ0 z_] at u
 have t:=aa (fun w=>mj w x b)
 simp only[xZ0 q] at t
 have j:=h.f.all x (i9 o)
 have U:=aa (fun w=>sO w x b j F)
 have V:=aa fun w1 (l:aC w w1)=>h.below l
 have T:=aa (As j b)
 obtain⟨g,p,D,J,I,hg,H,i,r⟩:=h.cells z_
 subst D
 obtain⟨y0,Z,Y,X⟩:=r k x o
 have R:=h.c1
 have f0:=i (k*4)
 have f1:=i (k*4+1)
 have f2:=i (k*4+2)
 have f3:=i (k*4+3)
 have E:=h.lt
 clear h r q j i
 refine ge ?_
 go_wp2_with (first
  |(go_at_call 139;refine cS u.out ?_)
  |(go_at_call 143;refine(t.out _).mono ?_;rintro e w1 ⟨rfl,a,rfl⟩))
 refine wp_region_held_drew (S:=(fun w'=>w'.cell? (af s 1)=some (.slice (some (ao g)) L.length p))) (by rfl) ?_ (fun hHeld=> ?_)
 ·simp[go_sem,R,E]
 refine st ?_
 repeat' first
  |refine dn ?_
  |refine tk ?_
  |refine rd ?_
  |exact oA
  |refine oE ?_
  |refine oC ?_ ?_
  | (refine dU 13 (fun K m=> ?_)
     go_simp
     refine(U.out _).mono ?_
     rintro e w1 ⟨rfl,c',c2,hw⟩
     have l:aC w w1:=by rw[hw];exact(((bq.drew).alloc q_ _).alloc (by simp;omega) _).drew
     clear hw
     have n:=aa (V.out _ l)
     have W:=aa l
     obtain⟨y,C,B,A,z,Q,O,N,M⟩:=n.out.one o
     clear l
     go_wp2_with fail
     refine m.out _ _ ?_ (fun hHeld=> ?_)
     ·exact y
     clear m K
     try simp only[cV])
  | (refine dU _ (fun K m=> ?_)
     go_simp
     refine m.out _ _ ?_ (fun hHeld=> ?_)
     ·go_keep
     clear m K
     try simp only[cV])
 refine⟨?_⟩
 go_wp2
 go_ret
 exact⟨rfl,n.out.put rfl G _ T.out,qO W.out g _ _ _ _ _ _ _ _ rfl⟩
theorem um (h:dy w c s P v L) (i:Int) (hi: ¬(0<=i/\i<(L.length:Int))):vS 91 #[ak s,ab i] w (.tuple #[.bool false,ab 2]):=by
 have a:=aa (eh h i)
 rw[yU0 hi] at a
 clear h hi
 refine ge ?_
 go_wp2_with (go_at_call 139;refine cS a.out ?_)
 go_ret2
 simp
def vP (h:dy w c s P v L) (k:Nat) (x:ck) (b:L[k]? =some x) (f:x.l=0):vS 91 #[ak s,ab k] w (.tuple #[.bool false,ab 6]):=by
 have t:=(i6.1 b).1
 have d:=aa (eh h k)
 rw[xZ0 z_] at d
 obtain⟨g,o,rfl,m,j,u,i,a,n⟩:=h.cells z_
 obtain⟨C,r,q,e,p,B,A,z,y⟩:=h.one b
 rw[f] at e
 clear h n a
 refine ge ?_
 go_wp2_with (go_at_call 139;refine cS d.out ?_)
 go_ret2
 simp
def r8 (x:ck):ck:=⟨x.b,x.p,x.l-1,x.d⟩
def lO {x:ck} (h:x.ok):(r8 x).ok:=⟨h.1,h.2.1,h.2.2.1,zY0 (Nat.sub_le _ _) h.2.2.2.1,h.2.2.2.2⟩
def dy.tick (h:dy w c s P v L) {g m k:Nat} (t:v= .slice (some (ao g)) L.length m) {x:ck} (a:L[k]? =some x) (r:1<=x.l):
  dy (w.setCell (af g (k*4+2)) (aj ((x.l-1:Nat):Int))) c s P v (L.set k (r8 x)):=by
 have j:=h.ne
 have u:=(i6.1 a).1
 have i:=h.f.all x (i9 a)
 subst t
 have z: ¬s=g:=fun q=>j (by rw[q];rfl)
 have n:=aZ h.own (k*4+2) z_ (aj ((x.l-1:Nat):Int))
 have e:(aP L).set (k*4+2) (aj ((x.l-1:Nat):Int))=aP (L.set k (r8 x)):=by
  rw[ly L k (r8 x) u]
  obtain⟨B,A,G,F⟩:=fG L k x a
  have E:(aP L).set (k*4) (aj x.b)=aP L:=by rw[qz B]
  have D:(aP L).set (k*4+1) (aj x.p)=aP L:=by rw[qz A]
  have C:((aP L).set (k*4+2) (aj ((x.l-1:Nat):Int))).set (k*4+3) (aj x.d)=(aP L).set (k*4+2) (aj ((x.l-1:Nat):Int)):=by
   rw[qz y_]
  show _=((((aP L).set (k*4) (aj x.b)).set (k*4+1) (aj x.p)).set (k*4+2) (aj ((x.l-1:Nat):Int))).set (k*4+3) (aj x.d)
  grind
 rw[e] at n
 refine⟨?_,by simpa using n,by simpa using h.bs,⟨h.f.p1,h.f.p2,?_,by simpa using h.f.len⟩⟩
 ·grind[RowKit.Below.heap_setCell,Cb.dy.blk]
 ·intro y o
  rcases yZ0 o with q|q
  ·exact h.f.all y q
  ·rw[q];exact lO i
def Bs (h:dy w c s P v L) (k:Nat) (x:ck) (d:L[k]? =some x) (m:1<=x.l):aB 91 #[ak s,ab k] w fun e w'=>e=aS #[.bool (x.l-1==0),ab 0]/\dy w' c s P v (L.set k (r8 x))/\Fr (fun k=>some k=v.ownBlock) w w':=by
 have G:=(i6.1 d).1
 have j:=aa (eh h k)
 rw[xZ0 z_] at j
 have t:=aa h
 obtain⟨g,r,rfl,p,o,H,n,i,q⟩:=h.cells z_
 obtain⟨O,A,z,y,u,N,M,J,I⟩:=h.one d
 have b:=h.f.all x (i9 d)
 have F: ¬(x.l:Int)=0:=z_
 have D: ¬x.l=0:=z_
 have E:(x.l:Int)-1=((x.l-1:Nat):Int):=z_
 have C:x.l<18446744073709551616:=by have:=b.2.2.2.1;have:=b.2.1;have:=b.le;omega
 have B:((x.l-1:Nat):Int)%18446744073709551616=((x.l-1:Nat):Int):=z_
 clear h q i b
 refine ge ?_
 go_wp2_with (go_at_call 139;refine cS j.out ?_)
 go_ret2
 exact⟨by simp[LZ],t.out.tick rfl d m,(Fr.refl (fun k=>some k=some g) _).setCell (a:=(af g (k*4+2))) rfl _⟩
end
theorem xN:(Tryz.prog.info? 184).map (fun i=>(i.zero,i.size,i.bytes))=some (some (.agg #[aj 0,aj 0,aj 0,aj 0]),4,32):=by rfl
def sK (b p:Nat):iI b p=true↔(⟨b,p,0,0⟩:ck).ok:=by
 unfold iI ck.ok
 simp
@[go_sem] theorem Pq (a b : Int) (w : World) : (Instr.build 182 #[(0, aj a), (1, aj b)]).run Tryz.prog w = .ok (.agg #[aj a, aj b]) w := run_build w 182 _ _ (by rfl)
@[go_sem] theorem Pe (a b : Int) (w : World) : (Instr.build 184 #[(0, .agg #[aj a, aj b])]).run Tryz.prog w = .ok (.agg #[aj a, aj b, aj 0, aj 0]) w := run_build w 184 _ _ (by rfl)
def KJ {w a w2:World} {j i g f:Addr} {e d c b:Value} (h:a.cell? j=some e/\a.cell? i=some d/\a.cell? g=some c/\a.cell? f=some b/\aC w a) (k:aC a w2):
  w2.cell? j=some e/\w2.cell? i=some d/\w2.cell? g=some c/\w2.cell? f=some b/\aC w w2:=by
 grind[RowKit.Below.cell,World.block_lt_of_cell?,RowKit.Below.trans,RowKit.Below.mono,RowKit.Below.size]
section
variable {w:World} {base s P:Nat} {v:Value} {L:List ck}
def wB (h:dy w base s P v L) (b p:Nat) (d:iI b p=false):vQ 39 #[ak s,aj b,aj p] w (.tuple #[ab 0,ab 2]):=by
 have a:=aa (fun w=>cf w b p)
 simp only[d] at a
 clear h
 refine ge ?_
 go_wp2_with (go_at_call 71;refine(a.out _).mono ?_;rintro e f ⟨rfl,c,rfl⟩)
 go_ret2
 exact⟨rfl,(bq.alloc q_ _)⟩
def yX (h:dy w base s P v L) (b p:Nat) (f:iI b p=true) (g:L.length=32):vQ 39 #[ak s,aj b,aj p] w (.tuple #[ab 0,ab 4]):=by
 have d:=aa (fun w=>cf w b p)
 simp only[f] at d
 obtain⟨a,i,rfl,_,_⟩:=h.form
 have j:=h.c1
 rw[g] at j
 have l:=h.lt
 clear h
 refine ge ?_
 go_wp2_with (go_at_call 71;refine(d.out _).mono ?_;rintro e k ⟨rfl,c,rfl⟩)
 go_ret2
 exact⟨rfl,(bq.alloc q_ _)⟩
def aJ {w:World} {base:Nat} {e:TypeId} {b:Nat} {v:Value} {n:Nat} {xs:List Value} (h:w.ownsRow base e b v n xs): ∃a cap,v= .slice a n cap:=by
 rcases h.2 with ⟨rfl,rfl⟩|⟨g,cap,c,rfl,_⟩
 ·simp
 simp
def info_parts {P:Program} {e:TypeId} {z:Value} {n m:Nat} (h:(P.info? e).map (fun i=>(i.zero,i.size,i.bytes))=some (some z,n,m)): ∃i,P.info? e=some i/\i.zero=some z/\i.size=n/\i.bytes=m:=by
 simp_all
def ET (x:ck): ∀u∈qc x,u.oneCell'=true:=by
 intro u a
 simp[qc] at a
 rcases a with rfl|rfl|rfl|rfl<;>rfl
def gG {w1 W:World} {c:List Value} {t:TypeId} (h:W.heap=(w1.alloc (.cells c.toArray t)).heap): ∀j u,c[j]? =some u->W.cell? (((ao w1.heap.size):Addr).add j)=some u:=by
 intro j u a
 have b:W.heap[w1.heap.size]? =some (.cells c.toArray t):=by rw[h];exact(MapKept.heap_alloc w1 _).1
 grind[World.news_of_block]
theorem dy.more (h:dy w base s P v L) (x:ck) (r:x.ok) (D:L.length<32) {w1:World} (m:aC w w1) {o:Obj}:
  ∀(W w2:World) (c:Value),W.grownBy w2 v.ownBlock->w2.ownsRow base 184 4 c (L.length+1) (aP L++qc x)->W.heap=(w1.alloc o).heap->W.os=w1.os->W.tape=w1.tape->W.output=w1.output->
  w2.cell? (af s 1)=some v/\w2.frozen? (af s 1)=false/\dy (w2.setCell (af s 1) c) base s P c (L++[x])/\Fr (fun k=>k=s\/some k=v.ownBlock) w (w2.setCell (af s 1) c):=by
 intro W w2 c i C n A z u
 have d:aC w W:=by
  have q:=m.alloc m.size o
  exact⟨A.trans q.os,z.trans q.tape,u.trans q.output,by rw[n];exact q.size,fun k t=>by rw[n];exact q.block k t⟩
 have b:=h.below d
 have g:=b.lt
 have j:=i.block s g (fun q=>b.ne q.symm)
 have l:=j.trans b.blk
 have e:=i.size
 refine⟨by unfold World.cell?;grind,by unfold World.frozen?;grind,?_,?_⟩
 ·refine dy.stored l (by grind[Cb.aP]) (zY0 b.bs e) ⟨h.f.p1,h.f.p2,?_,y_⟩
  intro y p
  rcases List.mem_append.1 p with q|q
  ·exact h.f.all y q
  ·simp at q;rw[q];exact r
 ·have B:Fr (fun k=>k=s\/some k=v.ownBlock) W w2:=(Fr.EU i).wide y_
  exact((Fr.aF d).trans B).setCell (a:=(af s 1)) (.inl rfl) _
def GV {w:World} {s:Nat} {u v b a:Value} {c:Array Value} {t:TypeId} (h:w.cell? (ao s)=some u/\w.cell? (af s 1)=some v):
  ((w.alloc (.cells #[b,a] t)).alloc (.cells c t)).drew.cell? (ao w.heap.size)=some b/\((w.alloc (.cells #[b,a] t)).alloc (.cells c t)).drew.cell? (af w.heap.size 1)=some a/\((w.alloc (.cells #[b,a] t)).alloc (.cells c t)).drew.cell? (ao s)=some u/\((w.alloc (.cells #[b,a] t)).alloc (.cells c t)).drew.cell? (af s 1)=some v/\aC w ((w.alloc (.cells #[b,a] t)).alloc (.cells c t)).drew:=by
 have e:Below (w.heap.size+1) (w.alloc (.cells #[b,a] t)) ((w.alloc (.cells #[b,a] t)).alloc (.cells c t)).drew:=(cj.alloc q_ _).drew
 have d:aC w (w.alloc (.cells #[b,a] t)):=bq
 have hz:=d.trans (e.mono z_)
 exact⟨q_,q_,
  (hz.cell (i7 w _ h.1)).trans h.1,(hz.cell (i7 w _ h.2)).trans h.2,hz⟩
def KF {w w1:World} {d c b a:Prop} (h:d/\c/\b/\a/\aC w w1):aC w w1:=h.2.2.2.2
def uX {w w1:World} {c:Array Value} {t:TypeId} (h:w1=(w.alloc (.cells c t)).drew):aC w w1:=by rw[h];exact bq.drew
def zH (h:dy w base s P v L) (b p:Nat) (l:iI b p=true) (F:L.length<32) (m:P*232792560<fA L+asks ⟨b,p,0,0⟩):vQ 39 #[ak s,aj b,aj p] w (.tuple #[ab 0,ab 10]):=by
 have t:=aa (fun w=>cf w b p)
 simp only[l] at t
 have g:=(sK b p).1 l
 have u:=aa (fun w=>tP w ⟨b,p,0,0⟩ g)
 have r:=aa fun j (k:aC w j)=>GY (h.below k)
 obtain⟨a,i,rfl,_,_⟩:=h.form
 have A:=h.c0
 have y:=h.c1
 have E:=h.lt
 have D: ¬(L.length:Int)=32:=z_
 have C: ¬L.length=32:=z_
 have o:=lx h.f.all
 have n:=o0 g
 have x:=h.f.p2
 have B:Hid (w.cell? (ao s)=some (aj P)/\w.cell? (af s 1)=some (.slice a L.length i)):=⟨A,y⟩
 generalize asks ⟨b,p,0,0⟩=q at u m n
 generalize fA L=z at r m o
 have I:IntKind.u64.wrap ((z:Int)+q)=((z+q:Nat):Int):=by rw[pZ _ z_ z_];simp
 have H:IntKind.u64.wrap ((P:Int)*232792560)=((P*232792560:Nat):Int):=by rw[pZ _ z_ z_];simp
 have G:((P*232792560:Nat):Int)<((z+q:Nat):Int):=z_
 clear h l m o n x
 refine ge ?_
 go_wp2_with (go_at_call 71;refine(t.out _).mono ?_;rintro e j ⟨rfl,c,rfl⟩)
 go_region_held3 (fun d=>d.cell? (ao w.heap.size)=some (aj b)/\d.cell? (af w.heap.size 1)=some (aj p)/\d.cell? (ao s)=some (aj P)/\d.cell? (af s 1)=some (.slice a L.length i)/\aC w d)
  (first|exact GV B.out|exact KJ z_ k)
  (first
   |(go_at_call 72;refine(r.out _ (KF (by assumption))).mono ?_;rintro e j ⟨rfl,k⟩)
   |(go_at_call 73;refine(u.out _).mono ?_;rintro e j ⟨rfl,J,hw⟩;have k:=uX hw;clear hw))
 go_wp2
 go_ret2
 simp_all
end
def pH (P:Nat) (L:List ck) (b p:Nat):Nat:=if iI b p=false then 2 else if L.length=32 then 4 else if P*232792560<fA L+asks ⟨b,p,0,0⟩ then 10 else 0
def yT (P:Nat) (L:List ck) (b p:Nat):Nat:=if pH P L b p=0 then L.length else 0
def zo (P:Nat) (L:List ck) (b p:Nat):List ck:=if pH P L b p=0 then L++[⟨b,p,0,0⟩] else L
def uR (L:List ck) (i:Int):Bool:=decide (0<=i/\i<(L.length:Int))
def pD (L:List ck) (i:Int) (a:Nat):List ck:=if uR L i/\(nk L i).d<=a then L.set i.toNat (fs (nk L i) a) else L
def jA (L:List ck) (i:Int):Nat:=if uR L i then(if (nk L i).l=0 then 6 else 0) else 2
def Gy (L:List ck) (i:Int):Bool:=decide (uR L i=true/\(nk L i).l=1)
def fk (L:List ck) (i:Int):List ck:=if uR L i/\1<=(nk L i).l then L.set i.toNat (r8 (nk L i)) else L
def qv {L:List ck} {k:Nat} {x:ck} (a:L[k]? =some x):nk L (k:Int)=x/\uR L (k:Int)=true:=by
 have b:=(i6.1 a).1
 unfold nk uR
 grind
def nL (L:List ck) (i:Int):uR L i=false/\ ¬(0<=i/\i<(L.length:Int))\/ ∃(k:Nat) (x:ck),i=k/\L[k]? =some x:=by
 by_cases h:0<=i/\i<(L.length:Int)
 ·refine .inr ⟨i.toNat,L[i.toNat]' z_,z_,zX0 _⟩
 grind[Cb.uR]
section
variable {w:World} {a s P:Nat} {v:Value} {L:List ck}
def xW (h:dy w a s P v L) (i:Int):aB 91 #[ak s,ab i] w fun e w'=>e=aS #[.bool (Gy L i),ab (jA L i:Int)]/\dy w' a s P v (fk L i)/\Fr (fun k=>k=s\/some k=v.ownBlock) w w':=by
 unfold jA Gy fk
 rcases nL L i with ⟨o,n⟩|⟨k,x,rfl,b⟩
 ·grind[Cb.um,Calls.mono,Fr.refl]
 ·obtain⟨m,j⟩:=qv b
  rw[m,j]
  by_cases c:x.l=0
  ·refine(vP h k x b c).mono ?_
   rintro e w' ⟨rfl,rfl⟩
   exact⟨by simp[c],by exact mK,Fr.refl _ _⟩
  ·refine(Bs h k x b z_).mono ?_
   rintro e w' ⟨rfl,d,f⟩
   have g:1<=x.l:=z_
   refine⟨?_,by simpa [g] using d,f.wide y_⟩
   have q:(x.l-1==0)=decide (x.l=1):=y_
   grind
def dy.new (w:World) (P:Nat) (c:1<=P) (b:P<=64) (a:Nat) (d:a<=w.heap.size):dy (w.alloc (.cells #[aj P,.slice none 0 0] 155)) a w.heap.size P (.slice none 0 0) []:=
 ⟨(MapKept.heap_alloc w _).1,World.ownsRow_nil _ _ _ _,by simp;omega,c,b,q_,q_⟩
end
theorem AJ {w w':World} {c:Array Value} {t:TypeId} (h:w'=w.alloc (.cells c t)):aC w w':=by rw[h];exact bq
def mv (a:Nat) (x:ck):Bool:=x.l==0&&decide (x.d<=a)&& !(x.d==0)
def pP (a:Nat) (x:ck):ck:=if mv a x then fs x a else x
def fi (L:List ck) (a k:Nat):List ck:=(L.take k).map (pP a)++L.drop k
def jD (L:List ck) (a:Nat):Nat->List Nat
 |0=>[]
 |k+1=>jD L a k++(if ((L[k]?).map (mv a)).getD false then [k] else [])
theorem yB (L:List ck) (a:Nat):fi L a 0=L:=by rfl
def nr (L:List ck) (a k:Nat):(fi L a k).length=L.length:=by
 simp[fi]
 omega
def CO (L:List ck) (a:Nat):fi L a L.length=L.map (pP a):=by simp[fi]
def rf {L:List ck} {a k i:Nat} (h:k<=i) (b:k<=L.length):(fi L a k)[i]? =L[i]? :=by
 unfold fi
 grind
def rZ {L:List ck} {a k:Nat} {x:ck} (b:L[k]? =some x):fi L a (k+1)=(fi L a k).set k (pP a x):=by
 obtain⟨c,rfl⟩:=i6.1 b
 grind[Cb.fi,List.set_append_right,List.drop_eq_getElem_cons,List.take_succ_eq_append_getElem]
def Ey {L:List ck} {a k:Nat} {x:ck} (b:L[k]? =some x) (d:mv a x=false):fi L a (k+1)=fi L a k:=by
 obtain⟨c,rfl⟩:=i6.1 b
 rw[rZ b,show pP a L[k]=L[k] from by simp[pP,d]]
 refine List.ext_getElem? fun i=> ?_
 by_cases q:k=i
 ·subst q
  rw[List.getElem?_set_self (by rw[nr];exact c),rf aT z_,zX0 c]
 grind
def BE {L:List ck} {a k:Nat} {x:ck} (b:L[k]? =some x) (c:mv a x=true):fi L a (k+1)=(fi L a k).set k (fs x a):=by
 rw[rZ b]
 simp[pP,c]
def Ie {L:List ck} {a k:Nat} {x:ck} (b:L[k]? =some x) (c:mv a x=false):jD L a (k+1)=jD L a k:=by simp[jD,b,c]
def EF {L:List ck} {a k:Nat} {x:ck} (b:L[k]? =some x) (c:mv a x=true):jD L a (k+1)=jD L a k++[k]:=by simp[jD,b,c]
def mD (L:List ck) (a:Nat): ∀k,(jD L a k).length<=k
 |0=>aT
 |k+1=>by
  have:=mD L a k
  grind[Cb.jD]
def kU (l:List Nat):List Value:=l.map (fun (n:Nat)=>Value.int .i64 (n:Int))
def MJ (z:Nat) (hn:1<=z) (l B1 V s T f:Nat) (a:Option Addr) (L:List ck) (a0:L.length<=32) (J:Nat->World->Prop)
  (hA: ∀k W o,J k W->J k (World.alloc W o))
  (C: ∀k W,J k W->Boxed W B1 94 (ak s)/\Boxed W V 25 (aj f)/\(∀i x,k<=i->L[i]? =some x-> ∃g,a=some (ao g)/\W.cell? (af g (i*4))=some (aj x.b)/\W.cell? (af g (i*4+1))=some (aj x.p)/\W.cell? (af g (i*4+2))=some (aj x.l)/\W.cell? (af g (i*4+3))=some (aj x.d)))
  (hN: ∀k x W,L[k]? =some x->mv f x=false->J k W->J (k+1) W)
  (hY: ∀k x W,L[k]? =some x->mv f x=true->J k W->YieldAt Fence.wide (z-1) Tryz.prog l #[ab k] W fun e W'=>e= .returned (.bool true)/\J (k+1) W')
  (W:World) (a3:W.cell? (af s 1)=some (.slice a L.length T)) (S:J 0 W):
  CallsIn Fence.wide z Tryz.prog 142 #[.func (.yield l) #[] #[],ak B1,ak V] W fun e W'=>(∃v,e= .returned v)/\J L.length W':=by
 have HR:=aa C
 have H0:=aa S
 have HY:=aa hY
 have N:=aa hN
 have y:=aa hA
 obtain⟨t,_,_⟩:=C 0 W S
 have e1:=t.cell
 clear t
 clear C S hY hA hN
 refine callsIn_of_wp Tryz.func142 rfl trivial ?_ rfl
 simp only[Tryz.ntmps142,j_,Nat.reduceAdd,Nat.reduceSub]
 gi_wp2
 gi_loopw [11] (fun p wr=> ∃k:Nat,k<=L.length/\p=ab k/\J k wr) (fun p _=>L.length-(intOf p).toNat)
 case atStart=>exact⟨0,z_,rfl,H0.out⟩
 case round=>
  obtain⟨k,hk,rfl,F⟩:=hrel
  by_cases R:k<L.length
  ·have a1:(k:Int)<L.length:=by omega
   obtain⟨x,Q⟩: ∃x,L[k]? =some x:=⟨_,zX0 R⟩
   obtain⟨t,B,hc⟩:=HR.out k wr F
   obtain⟨g,rfl,y0,y1,H,X⟩:=hc k x aT Q
   have e2:=B.cell
   have a4:=B.lt
   have n1: ¬V=wr.heap.size:=z_
   obtain⟨b,p,O,d⟩:=x
   dsimp only at y0 y1 H X
   have u:=aa F
   have M:=aa Q
   clear F t B hc Q
   by_cases hl:O=0
   ·subst hl
    by_cases D:d<=f
    ·by_cases hz:d=0
     ·subst hz
      have q:=aa (fun w=>(callsIn_wide (n:=z-1)).2 (mj w ⟨b,p,0,0⟩ f))
      have m:=aa (fun w=>(callsIn_wide (n:=z-1)).2 (sH w ⟨b,p,0,0⟩))
      simp only[xZ0 D] at q
      simp only[Int.natCast_zero,beq_self_eq_true] at q m H X
      have j:=aa (y.out _ _ (.cells #[aj b,aj p,aj 0,aj 0] 184) u.out)
      have r:=aa fun W=>N.out k _ W M.out (by rfl)
      gi_wp2_with (first|(refine⟨trivial,?_⟩;gi_at_call 143;refine(q.out _).mono ?_;rintro e Y ⟨rfl,c,rfl⟩)|(refine⟨trivial,?_⟩;gi_at_call 144;refine(m.out _).mono ?_;rintro e w2 ⟨rfl,c2,rfl⟩))
      refine⟨fun _ h=>(by cases h),?_⟩
      gi_wp2
      go_roundw
      case rel=>exact⟨k+1,z_,by go_num,r.out _ (y.out _ _ _ (y.out _ _ _ j.out))⟩
      case measure=>simp[intOf];omega
     ·have P:(d==0)=false:=by grind
      have A:mv f ⟨b,p,0,d⟩=true:=by simp[mv,D,hz]
      have q:=aa (fun w=>(callsIn_wide (n:=z-1)).2 (mj w ⟨b,p,0,d⟩ f))
      have m:=aa (fun w=>(callsIn_wide (n:=z-1)).2 (sH w ⟨b,p,0,d⟩))
      simp only[xZ0 D] at q
      simp only[P] at m
      simp only[Int.natCast_zero] at q m H
      have j:=aa (y.out _ _ (.cells #[aj b,aj p,aj 0,aj d] 184) u.out)
      have G:=aa (fun W=>HY.out k _ W M.out A)
      clear N A
      gi_wp2_with (first|(refine⟨trivial,?_⟩;gi_at_call 143;refine(q.out _).mono ?_;rintro e Y ⟨rfl,c,rfl⟩)|(refine⟨trivial,?_⟩;gi_at_call 144;refine(m.out _).mono ?_;rintro e w2 ⟨rfl,c2,rfl⟩))
      obtain⟨fn,Z,I,a2,hy,C⟩:=G.out _ (y.out _ _ (.cells c2 184) (y.out _ _ (.cells c 184) j.out))
      rw[hy,Oper.uponIn_round]
      refine⟨fun _=>hn,C.mono ?_⟩
      rintro e W3 ⟨rfl,E⟩
      have U:=aa E
      clear E hy C G HY
      gi_wp2
      go_roundw
      case rel=>exact⟨k+1,z_,by go_num,U.out⟩
      case measure=>simp[intOf];omega
    ·have q:=aa (fun w=>(callsIn_wide (n:=z-1)).2 (mj w ⟨b,p,0,d⟩ f))
     simp only[yU0 D] at q
     simp only[Int.natCast_zero] at q H
     have j:=aa (y.out _ _ (.cells #[aj b,aj p,aj 0,aj d] 184) u.out)
     have r:=aa fun W=>N.out k _ W M.out (by simp[mv,D])
     gi_wp2_with (refine⟨trivial,?_⟩;gi_at_call 143;refine(q.out _).mono ?_;rintro e Y ⟨rfl,c,rfl⟩)
     refine⟨trivial,?_⟩
     gi_wp2
     refine⟨fun _ h=>(by cases h),?_⟩
     gi_wp2
     go_roundw
     case rel=>exact⟨k+1,z_,by go_num,r.out _ (y.out _ _ _ j.out)⟩
     case measure=>simp[intOf];omega
   ·have a5:((O:Int)==0)=false:=by grind
    have j:=aa (y.out _ _ (.cells #[aj b,aj p,aj O,aj d] 184) u.out)
    have r:=aa fun W=>N.out k _ W M.out (by simp[mv,hl])
    gi_wp2
    refine⟨trivial,?_⟩
    gi_wp2
    refine⟨trivial,?_⟩
    gi_wp2
    refine⟨fun _ h=>(by cases h),?_⟩
    gi_wp2
    go_roundw
    case rel=>exact⟨k+1,z_,by go_num,r.out _ j.out⟩
    case measure=>simp[intOf];omega
  ·obtain rfl:k=L.length:=by omega
   have HJ:=aa F
   clear F
   gi_wp2
   go_end0
   exact⟨⟨_,rfl⟩,HJ.out⟩
def tz {P:Program} {n:Nat} {g:Operand} {p:Tmp} {assign body:Code} {Q:Exit->Act->World->Prop} {a:Act} {w:World} {gf:Nat} {lb:Array Value}
  (hg:a.eval g= .func (.func gf) #[] lb) (eg: ∀args w,(callFunc gf args).run P w= .ok (.enter gf args) w)
  (J:Nat->World->Prop) (N Y:Nat->Prop) (enc:Nat->Value) (m:Nat) (a₁:Nat->Act)
  (hAl: ∀k W o,J k W->J k (World.alloc W o))
  (hPu: ∀k W l o o',w.heap.size<=l->W.heap[l]? =some o->o.isCells=false->J k W->J k (W.putObj l o'))
  (hNo: ∀k W,N k->J k W->J (k+1) W) (h0:J 0 w)
  (hit: ∀(l:Nat) (J':Nat->World->Prop) (W:World),(∀k W,J' k W->J k W)->(∀k W o,J' k W->J' k (World.alloc W o))->(∀k W,N k->J' k W->J' (k+1) W)->
   (∀k W,Y k->J' k W->YieldAt Fence.wide (n-1-1) P l #[enc k] W fun e W'=>e= .returned (.bool true)/\J' (k+1) W')->J' 0 W->
   CallsIn Fence.wide (n-1) P gf (#[.func (.yield l) #[] #[]]++lb) W fun e W'=>(∃v,e= .returned v)/\J' m W')
  (has: ∀(l k:Nat) (W:World) (K:Act->World->Prop),K (a₁ k) W->assign.wpIn (Fence.wide.inRound l) (n-1-1) P (Exit.then K (fun _ _ _=>False)) {tmps:=a.tmps.setIfInBounds p (enc k),defers:=[]} W)
  (hbo: ∀(l k:Nat) (W:World),Y k->J k W->body.wpIn (Fence.wide.inRound l) (n-1-1) P (fun e _ W'=>e= .normal/\KeepsFrom w.heap.size W W'/\J (k+1) W') (a₁ k) W)
  (hdo: ∀(D:Nat) (W:World),w.heap.size<=D->J m W->W.heap[D]? =some (.deferred (some []))->Q .normal {a with defers:={target:= .collected D,args:= #[]}::a.defers} W):
  (Code.rangeFunc g #[p] assign body).wpIn Fence.wide n P Q a w:=by
 refine wpIn_rangeFunc fun fn hfn=> ?_
 have hne:w.heap.size+1≠w.heap.size:=z_
 obtain⟨r,hr⟩: ∃r:Loop,r={state:= .ready,pending:=none,fn,tmps:=a.tmps,params:= #[p],assign,body,defers:=w.heap.size}:=⟨_,rfl⟩
 have hk0:Kept (w.heap.size+1) w.heap.size r ((w.alloc (.deferred (some []))).alloc (.loop r)):=by
  refine⟨?_,(zU0 _ _ _ q_).trans (yW0 w _)⟩
  have:=yW0 (w.alloc (.deferred (some []))) (.loop r)
  simp_all
 have hready:r.state= .ready:=by rw[hr]
 refine⟨w.heap.size+1,[{target:= .collected w.heap.size,args:= #[]}],(w.alloc (.deferred (some []))).alloc (.loop r),{target:= .fn (.func gf) lb,args:= #[.func (.yield (w.heap.size+1)) #[] #[]]},(w.alloc (.deferred (some []))).alloc (.loop r),gf,#[.func (.yield (w.heap.size+1)) #[] #[]]++lb,(w.alloc (.deferred (some []))).alloc (.loop r),?_,?_,fun _ _=>trivial,?_,fun h=>(by cases h),?_⟩
 ·rw[hr];exact run_enterLoop_outer _ _ _ _ _
 ·simp only[resolve,hg]
  simp[go_sem]
 ·simp[invoke,go_sem,eg]
 ·refine(hit (w.heap.size+1) (fun k W=>J k W/\Kept (w.heap.size+1) w.heap.size r W) _ y_ (fun k W o h=>⟨hAl k W o h.1,h.2.alloc o⟩) y_ ?_ y_).mono ?_
  ·rintro k W hY ⟨hJ,hK⟩
   have hy:=run_yield (P:=P) (args:= #[enc k]) hK.1 y_
   refine⟨_,_,_,_,hy,roundIn_of_wpIn (by rw[hr];exact hfn) ?_⟩
   have e1:r.assign=assign:=by rw[hr]
   have e2:r.body=body:=by rw[hr]
   have e3:((r.params.zip #[enc k]).foldl (fun tmps (t,a)=>tmps.setIfInBounds t a) r.tmps)=a.tmps.setIfInBounds p (enc k):=by simp_all
   rw[e1,e2,e3]
   refine has _ k W _ ?_
   refine⟨_,run_beginRound hK.1 hready,?_⟩
   have hJ1:J k (W.putObj (w.heap.size+1) (.loop {r with state:= .busy})):=hPu k W _ _ _ z_ hK.1 rfl hJ
   have hK1:=hK.put hne {r with state:= .busy}
   refine wpIn_mono (hbo _ k _ hY hJ1) ?_
   rintro e a3 W3 ⟨rfl,hk3,hJ3⟩
   have hK3:=hK1.keeps z_ aT hk3
   refine⟨_,_,run_endRound none hK3.1,rfl,hPu (k+1) W3 _ _ _ z_ hK3.1 rfl hJ3,?_⟩
   grind[Kept.put]
  ·rintro e W2 ⟨⟨v,rfl⟩,hJ,hK⟩
   refine⟨none,_,?_,hdo _ _ aT (hPu m W2 _ _ (.loop {r with state:= .exhausted}) z_ hK.1 rfl hJ) (hK.put hne _).2⟩
   have:=run_endLoop (P:=P) hK.1 y_
   grind
end Go.Proofs.YtnmhcgpnhlhcgaaGreatDoor.Cb
namespace Go.Proofs.YtnmhcgpnhlhcgaaGreatDoor.Cb
open Go.RowKit Go.Lib Go.Shelf
attribute [local go_sem] Oper.semAt_some
def Mr (c s a:Nat) (w:World):CallsIn Fence.wide c Tryz.prog 92 #[ak s,aj a] w fun e b=>e= .returned (.func (.func 142) #[] #[ak w.heap.size,ak (w.heap.size+1)])/\b=(w.alloc (.cells #[ak s] 94)).alloc (.cells #[aj a] 25):=by
 refine callsIn_wide.2 ?_
 refine ge ?_
 go_wp2
 go_ret
 simp
def cell_one_new (w:World) (v:Value) (t:TypeId): ∀j u,[v][j]? =some u->(w.alloc (.cells #[v] t)).cell? (((ao w.heap.size):Addr).add j)=some u:=by
 intro j u b
 have a:((ao w.heap.size):Addr).add j=(af w.heap.size j):=by unfold Addr.add;grind
 simp_all
def vT {W W':World} (b:aC W W'):KeepsOthers W W':=⟨b.size,fun k o a _=>(b.block k (zW0.1 a).1).trans a⟩
structure Rf (w W:World) (base s P:Nat) (v:Value) (now q0 q1 q2 q3 q4 n5:Nat) (M:List ck) (xs:List Nat) (lv:Value):Prop where
 pep:dy W base s P v M
 b0:Boxed W q0 94 (ak s)
 b1:Boxed W q1 25 (aj now)
 b2:Boxed W q2 123 lv
 b3:Boxed W q3 94 (ak s)
 b4:Boxed W q4 25 (aj now)
 row:W.ownsRow n5 3 1 lv xs.length (kU xs)
 sz:n5<=W.heap.size
 fr:Fr (fun b=>some b=v.ownBlock) w W
section
variable {w W W':World} {base s P:Nat} {v:Value} {c i k f j g e:Nat} {M:List ck} {xs:List Nat} {lv:Value}
def Rf.below (h:Rf w W base s P v c i k f j g e M xs lv) (a:aC W W'):Rf w W' base s P v c i k f j g e M xs lv:=
 ⟨h.pep.below a,(a.block _ h.b0.lt).trans h.b0,(a.block _ h.b1.lt).trans h.b1,(a.block _ h.b2.lt).trans h.b2,(a.block _ h.b3.lt).trans h.b3,(a.block _ h.b4.lt).trans h.b4,aO h.row (fun b d=>a.block b (au h.row d).2.1),zY0 h.sz a.size,h.fr.trans (Fr.aF a)⟩
def Rf.alloc (h:Rf w W base s P v c i k f j g e M xs lv) (o:Obj):Rf w (W.alloc o) base s P v c i k f j g e M xs lv:=h.below bq
def iV {W:World} {B l:Nat} {t:TypeId} {u:Value} {o b:Obj} (h:Boxed W B t u) (a:W.heap[l]? =some o) (d:o.isCells=false):Boxed (W.putObj l b) B t u:=by
 refine(World.putObj_heap_other ?_).trans h
 rintro rfl
 rw[show W.heap[B]? =_ from h] at a
 cases a
 cases d
def eX {W:World} {B:Nat} {t:TypeId} {u:Value} (h:Boxed W B t u) {a:Addr} (b:B≠a.block) (x:Value):Boxed (W.setCell a x) B t u:=(zZ0 _ _ _ _ b).trans h
theorem Rf.put (h:Rf w W base s P v c i k f j g e M xs lv) (hw:w.heap.size<=e) {l:Nat} {o:Obj} (o':Obj) (x:e<=l) (d:W.heap[l]? =some o) (n:o.isCells=false):Rf w (W.putObj l o') base s P v c i k f j g e M xs lv:=by
 have p: ∀{b:Nat} {a:Array Value} {t:TypeId} {z:Nat×Nat},W.heap[b]? =some (.cells a t z)->(W.putObj l o').heap[b]? =W.heap[b]? :=fun {b a t z} m=>World.putObj_heap_other (by
  rintro rfl
  rw[m] at d
  cases d
  cases n)
 refine⟨h.pep.kept q_ (p h.pep.blk) (fun b m=> ?_),iV h.b0 d n,iV h.b1 d n,iV h.b2 d n,iV h.b3 d n,iV h.b4 d n,aO h.row (fun b m=> ?_),by simpa using h.sz,?_⟩
 ·obtain⟨_,_,q,r⟩:=au h.pep.own m
  grind
 ·obtain⟨_,_,q,r⟩:=au h.row m
  grind
 ·exact⟨h.fr.os,h.fr.tape,h.fr.output,by simpa using h.fr.size,fun b m u=>(World.putObj_heap_other z_).trans (h.fr.block b m u)⟩
def Rf.fill (h:Rf w W base s P v c i k f j g e M xs lv) {n r m:Nat} (o:v= .slice (some (ao n)) M.length r) (F:m<M.length) (x:ck) (D:x.ok) (O:n<w.heap.size) (E:w.heap.size<=i/\w.heap.size<=k/\w.heap.size<=f/\w.heap.size<=j/\w.heap.size<=g) (hw:w.heap.size<=e):
  Rf w ((((W.setCell (af n (m*4)) (aj x.b)).setCell (af n (m*4+1)) (aj x.p)).setCell (af n (m*4+2)) (aj x.l)).setCell (af n (m*4+3)) (aj x.d)) base s P v c i k f j g e (M.set m x) xs lv:=by
 obtain⟨N,L,J,I,H⟩:=E
 have q: ∀{B:Nat} {t:TypeId} {u:Value} (C A z y:Value),w.heap.size<=B->Boxed W B t u->Boxed ((((W.setCell (af n (m*4)) C).setCell (af n (m*4+1)) A).setCell (af n (m*4+2)) z).setCell (af n (m*4+3)) y) B t u:=
  fun C A z y Q G=>eX (eX (eX (eX G y_ _) y_ _) y_ _) y_ _
 refine⟨h.pep.put o F x D,q _ _ _ _ N h.b0,q _ _ _ _ L h.b1,q _ _ _ _ J h.b2,q _ _ _ _ I h.b3,q _ _ _ _ H h.b4,?_,by simpa using h.sz,?_⟩
 ·grind[RowKit.ownsRow_setCell_below,Cb.Rf.row]
 ·exact(((h.fr.setCell (a:=(af n (m*4))) (by rw[o];rfl) _).setCell (a:=(af n (m*4+1))) (by rw[o];rfl) _).setCell (a:=(af n (m*4+2))) (by rw[o];rfl) _).setCell (a:=(af n (m*4+3))) (by rw[o];rfl) _
theorem Rf.more (h:Rf w W base s P v c i k f j g e M xs lv) {w1:World} {a:Nat} {r:Value} {m:Obj} (hs:s<w.heap.size) (hg: ∀b,v.ownBlock=some b->b<w.heap.size)
  (Q:w.heap.size<=i/\w.heap.size<=k/\w.heap.size<=f/\w.heap.size<=j/\w.heap.size<=g) (y:i<e/\k<e/\f<e/\j<e/\g<e) (A:i≠f/\k≠f/\j≠f/\g≠f)
  (F:w1.ownsRow e 3 1 r (xs.length+1) (kU xs++[ab a])) (l:(W.alloc m).grownBy w1 lv.ownBlock):
  Boxed w1 f 123 lv/\Rf w (w1.setCell (ao f) r) base s P v c i k f j g e M (xs++[a]) r/\KeepsOthers W (w1.setCell (ao f) r):=by
 obtain⟨h0,h1,h2,h3,h4⟩:=Q
 obtain⟨L,J,E,I,H⟩:=y
 obtain⟨Y,X,V,U⟩:=A
 have n:=((i4 e W).alloc h.sz m).grown l (by have:=h.sz;simp;omega) (fun d D=>(h.row.lt d D).1)
 have O:=zY0 h.sz n.size
 have q: ∀{B:Nat} {t:TypeId} {u:Value},B<e->Boxed W B t u->Boxed w1 B t u:=fun T N=>(n.block _ T).trans N
 have z:=h.pep.kept n.size (n.block s z_) (fun b R=>n.block b y_)
 refine⟨q E h.b2,⟨z.kept q_ (zZ0 _ _ _ _ y_) (fun b R=>zZ0 _ _ _ _ y_),eX (q L h.b0) Y _,eX (q J h.b1) X _,(q E h.b2).set r,eX (q I h.b3) V _,eX (q H h.b4) U _,?_,by simp_all,?_⟩,?_⟩
 ·have:kU (xs++[a])=kU xs++[ab a]:=by simp[kU]
  grind[RowKit.ownsRow_setCell_below]
 ·have x:Fr (fun b=>some b=v.ownBlock) w w1:=⟨n.os.trans h.fr.os,n.tape.trans h.fr.tape,n.output.trans h.fr.output,z_,fun b p C=>(n.block b z_).trans (h.fr.block b p C)⟩
  exact⟨x.os,x.tape,x.output,by simpa using x.size,fun b p C=>(zZ0 _ _ _ _ y_).trans (x.block b p C)⟩
 ·refine((KeepsOthers.alloc W m).trans (KeepsOthers.of_grownBy l fun d o D G=> ?_)).trans (yX0 _ _ _)
  obtain⟨_,_,Z,S⟩:=au (h.row.alloc m) D
  rw[S] at G
  cases G
  rfl
end
def Cz {w:World} {y s P:Nat} {v:Value} {L:List ck} (h:dy w y s P v L) (c:Nat) (hn:c<18446744073709551616):
  CallsIn Fence.wide 4 Tryz.prog 49 #[ak s,aj c] w fun e w'=> ∃t,e= .returned t/\w'.ownsRow w.heap.size 3 1 t (jD L c L.length).length (kU (jD L c L.length))/\dy w' y s P v (L.map (pP c))/\Fr (fun b=>some b=v.ownBlock) w w':=by
 obtain⟨i0,hi,c3,c0,b9⟩:=info_parts j4
 obtain⟨a,R,hv,a2,c9⟩:=h.form
 have X:=h.f.len
 have hs:=h.lt
 have U:=fun b (hb:v.ownBlock=some b)=>(au h.own hb).2.1
 refine callsIn_of_wp_marks Tryz.func49 rfl trivial ?_ rfl
 simp only[Tryz.ntmps49,j_,Nat.reduceAdd,Nat.reduceSub]
 gi_wp2_with (refine⟨trivial,?_⟩;gi_at_call 92;refine(Mr _ s c _).mono ?_;rintro e w' ⟨rfl,rfl⟩)
 obtain⟨W0,n⟩: ∃W0,(((((w.alloc (.cells #[ak s] 94)).alloc (.cells #[aj c] 25)).alloc (.cells #[.slice none 0 0] 123)).alloc (.cells #[ak s] 94)).alloc (.cells #[aj c] 25))=W0:=⟨_,rfl⟩
 have a4:Rf w W0 y s P v c w.heap.size (w.heap.size+1) (w.heap.size+1+1) (w.heap.size+1+1+1) (w.heap.size+1+1+1+1) W0.heap.size (fi L c 0) (jD L c 0) (.slice none 0 0):=by
  have a3:aC w W0:=by rw[<-n];exact(((((i4 _ w).alloc aT _).alloc q_ _).alloc (by simp;omega) _).alloc (by simp;omega) _).alloc (by simp;omega) _
  have x0:=Boxed.new w 94 (ak s)
  have x1:=Boxed.new (w.alloc (.cells #[ak s] 94)) 25 (aj c)
  have x2:=Boxed.new ((w.alloc (.cells #[ak s] 94)).alloc (.cells #[aj c] 25)) 123 (.slice none 0 0)
  have x3:=Boxed.new (((w.alloc (.cells #[ak s] 94)).alloc (.cells #[aj c] 25)).alloc (.cells #[.slice none 0 0] 123)) 94 (ak s)
  have x4:=Boxed.new ((((w.alloc (.cells #[ak s] 94)).alloc (.cells #[aj c] 25)).alloc (.cells #[.slice none 0 0] 123)).alloc (.cells #[ak s] 94)) 25 (aj c)
  simp only[World.size_alloc] at x1 x2 x3 x4
  rw[yB L c|>.symm] at h
  refine⟨h.below a3,?_,?_,?_,?_,?_,World.ownsRow_nil _ _ _ _,aT,Fr.aF a3⟩
  ·rw[<-n];exact(((x0.alloc _).alloc _).alloc _).alloc _
  ·rw[<-n];exact((x1.alloc _).alloc _).alloc _
  ·rw[<-n];exact(x2.alloc _).alloc _
  ·rw[<-n];exact x3.alloc _
  ·rw[<-n];exact x4
 have e6:W0.heap.size=w.heap.size+1+1+1+1+1:=by rw[<-n];simp
 rw[n]
 refine tz (gf:=142) (lb:= #[ak (w.heap.size+1+1+1),ak (w.heap.size+1+1+1+1)]) rfl (enters_of Tryz.func142 (by rfl) rfl)
  (fun k W=> ∃t,Rf w W y s P v c w.heap.size (w.heap.size+1) (w.heap.size+1+1) (w.heap.size+1+1+1) (w.heap.size+1+1+1+1) W0.heap.size (fi L c k) (jD L c k) t)
  (fun k=> ∃x,L[k]? =some x/\mv c x=false) (fun k=> ∃x,L[k]? =some x/\mv c x=true) (fun k=>ab k) L.length
  (fun k=>{tmps:= #[ak s,aj c,ak w.heap.size,ak (w.heap.size+1),.slice none 0 0,ak (w.heap.size+1+1),ab k,ak s,.bool false,ak s,aj c,.func (.func 142) #[] #[ak (w.heap.size+1+1+1),ak (w.heap.size+1+1+1+1)],ab k,undef,undef,undef,undef,undef,undef,undef,undef,undef,undef,undef,undef,undef,undef,undef,undef,undef,undef,undef,undef],defers:=[]})
  (fun k W o ⟨t,j⟩=>⟨t,j.alloc o⟩) (fun k W l o o' hl ho hc ⟨t,j⟩=>⟨t,j.put z_ o' hl ho hc⟩) ?no ⟨_,a4⟩ ?iter ?assign ?body ?done
 case no=>
  rintro k W ⟨x,u,C⟩ ⟨t,j⟩
  refine⟨t,?_⟩
  have e1:=Ey u C
  have e2:=Ie u C
  exact⟨by rw[e1];exact j.pep,j.b0,j.b1,j.b2,j.b3,j.b4,by rw[e2];exact j.row,j.sz,j.fr⟩
 case iter=>
  intro l J' W hJ hA hN hY h0
  obtain⟨e5,c6⟩:=hJ 0 W h0
  refine MJ 3 x_ l (w.heap.size+1+1+1) (w.heap.size+1+1+1+1) s R c a L X J' hA (fun k W Z=> ?_) (fun k x W u C Z=>hN k W ⟨x,u,C⟩ Z) (fun k x W u C Z=>hY k W ⟨x,u,C⟩ Z) W (by rw[<-hv];exact c6.pep.c1) h0
  obtain⟨t,j⟩:=hJ k W Z
  refine⟨j.b3,j.b4,fun i x c5 u=> ?_⟩
  have e7:=(i6.1 u).1
  obtain⟨g,H,q,_,_,_,_,_,E⟩:=j.pep.cells (by rw[nr];omega)
  rw[hv] at q
  simp at q
  exact⟨g,q.1,E i x (by rw[rf c5 z_];exact u)⟩
 case assign=>
  intro l k W K z
  gi_wp2
  simpa using z
 case body=>
  rintro l k W ⟨x,u,C⟩ ⟨t,j⟩
  have c4:=(i6.1 u).1
  have I:(fi L c k)[k]? =some x:=by rw[rf aT z_];exact u
  have N:=j.pep.f.all x (i9 I)
  have Y:=nr L c k
  obtain⟨g,H,q,_,_,e9,e8,c8,E⟩:=j.pep.cells z_
  obtain⟨y0,y1,y2,y3⟩:=E k x I
  have c7:=U g (by rw[q];rfl)
  have c1:=j.pep.c1
  have HV:=aa q
  rw[q] at c1
  have e0:(k:Int)<((fi L c k).length:Int):=z_
  generalize a5:fi L c k=M at*
  have a0:=j.b0.cell
  have a1:=j.b1.cell
  have d8:=aa (fun w=>sO w x c N hn)
  have HH:=aa j
  have HX:=aa (As N c)
  have a8:Hid (k<M.length):=by unfold Hid;omega
  have d7:=aa Y
  have d6:=aa a5
  have a7:=aa u
  have HD:=aa C
  clear j E c8 N Y a5 C u a2 c9 q hv a4 n h c4
  gi_wp2
  refine fe (fun w'=>w'.cell? (ao w.heap.size)=some (ak s)/\w'.cell? (ao (w.heap.size+1))=some (aj c)/\w'.cell? (af s 1)=some (.slice (some (ao g)) M.length H)) (by rfl) (by kernel_rfl) (by rintro⟨a,w,h⟩;exact absurd (show Exit.outgrown=Exit.normal from h.1) q_) ⟨a0,a1,c1⟩ (fun hHeld=> ?_)
  refine st ?_
  repeat' first
   |refine dn ?_
   |refine tk ?_
   |refine rd ?_
   |exact oA
   |refine oE ?_
   |refine oC ?_ ?_
   | (refine dU 13 (fun K z=> ?_)
      go_simp
      refine(d8.out _).mono ?_
      rintro e w1 ⟨rfl,c',c2,hw⟩
      have hb:aC W w1:=by rw[hw];exact((((i4 _ W).drew).alloc aT _).alloc q_ _).drew
      clear hw
      have d9:=aa hb
      have O:=HH.out.below hb
      have F:=aa O
      obtain⟨g',d5,J,_,_,_,_,r,G⟩:=O.pep.cells z_
      rw[HV.out] at J
      simp only[Value.slice.injEq,Option.some.injEq,Addr.mk.injEq,and_true,true_and] at J
      obtain⟨rfl,rfl⟩:=J
      obtain⟨b8,b7,b6,b5⟩:=G k x I
      have d3:=r (k*4)
      have d2:=r (k*4+1)
      have d1:=r (k*4+2)
      have d0:=r (k*4+3)
      clear G r O
      go_wp2_with fail
      refine z.out _ _ ?_ (fun hHeld=> ?_)
      ·exact⟨F.out.b0.cell,F.out.b1.cell,by have:=F.out.pep.c1;rwa [HV.out] at this⟩
      clear z K
      try simp only[cV])
   | (refine dU 15 (fun K z=> ?_)
      go_simp
      have m:=F.out.fill HV.out a8.out (fs x c) HX.out c7 ⟨aT,z_,z_,z_,z_⟩ z_
      refine z.out _ _ ?_ (fun hHeld=> ?_)
      ·exact⟨m.b0.cell,m.b1.cell,by have:=m.pep.c1;rwa [HV.out] at this⟩
      clear z K
      try simp only[cV])
   | (refine dU _ (fun K z=> ?_)
      go_simp
      refine z.out _ _ ?_ (fun hHeld=> ?_)
      ·omega
      clear z K
      try simp only[cV])
  refine⟨?_⟩
  have S:=aa m
  have V:=m.sz
  have a9:Hid (KeepsOthers W ((((w1.setCell (af g (k*4)) (aj ((fs x c).b:Int))).setCell (af g (k*4+1)) (aj ((fs x c).p:Int))).setCell (af g (k*4+2)) (aj ((fs x c).l:Int))).setCell (af g (k*4+3)) (aj ((fs x c).d:Int)))):=((((vT d9.out).trans (yX0 _ _ _)).trans (yX0 _ _ _)).trans (yX0 _ _ _)).trans (yX0 _ _ _)
  generalize (((w1.setCell (af g (k*4)) (aj ((fs x c).b:Int))).setCell (af g (k*4+1)) (aj ((fs x c).p:Int))).setCell (af g (k*4+2)) (aj ((fs x c).l:Int))).setCell (af g (k*4+3)) (aj ((fs x c).d:Int))=W2 at S V m a9|-
  have r2:=m.b2.cell
  have f1:=mD L c k
  have e3:k<32:=by have:=a8.out;have:=d7.out;omega
  clear m d3 d2 d1 d0 b8 b7 b6 b5
  gi_wp2_with (gi_at_builtin;refine wpListIn_append_own _ rfl _ _ 123 rfl W0.heap.size 3 i0 (ab 0) 1 8 Tryz.underlying123 hi c3 c0 b9 rfl x_ _ _ _ rfl (S.out.row.alloc _) (ao W2.heap.size) 1 1 [ab k] rfl rfl (cell_one_new _ _ _) (by simp[Value.oneCell']) z_ z_ (by simp;omega) ?_;intro v' w3 A B _;obtain⟨g9,e4,rfl⟩:=ownsRow_succ A;have hX:=S.out.more hs U ⟨aT,z_,z_,z_,z_⟩ ⟨z_,z_,z_,z_,z_⟩ ⟨z_,z_,z_,z_⟩ A B;have a6:=aa hX;obtain⟨Q,_,_⟩:=hX;have a2:=Q.cell;have f0:=Q.frozen;clear A B Q)
  refine⟨(a9.out.trans a6.out.2.2).from _,?_⟩
  have e1:=BE a7.out HD.out
  have e2:=EF a7.out HD.out
  have hz:=a6.out.2.1
  rw[<-d6.out] at hz
  grind
 case done=>
  rintro D W hD ⟨t,j⟩ z
  have hc:=j.b2.cell
  gi_wp2
  have m:=j.put z_ (.deferred none) hD z rfl
  refine⟨q_,.inl ⟨_,_,rfl,run_takeDeferred z,?_⟩⟩
  refine⟨_,results_tmp rfl _ _ _,t,rfl,?_,?_,m.fr⟩
  ·have:=m.row
   rcases this.2 with e|⟨g,R,d4,e,hb,T⟩
   ·exact⟨this.1,.inl e⟩
   ·exact⟨this.1,.inr ⟨g,R,d4,e,z_,T⟩⟩
  ·rw[<-CO]
   exact m.pep
def CN {w:World} {c s P:Nat} {v:Value} {L:List ck} (h:dy w c s P v L) (a:Nat) (f:a<18446744073709551616):
  aB 49 #[ak s,aj a] w fun e w'=> ∃d,e= .returned d/\w'.ownsRow w.heap.size 3 1 d (jD L a L.length).length (kU (jD L a L.length))/\dy w' c s P v (L.map (pP a))/\Fr (fun b=>some b=v.ownBlock) w w':=
 callsIn_wide.1 (Cz h a f)
end Go.Proofs.YtnmhcgpnhlhcgaaGreatDoor.Cb
namespace Go.Proofs.YtnmhcgpnhlhcgaaGreatDoor.Gt
open Go.RowKit Go.Lib
theorem aU (w:World) (a:Addr) (x u:Value) (h:w.cell? a=some u):(w.setCell a x).cell? a=some x:=World.cell?_setCell_same _ _ _ h
theorem aw (w:World) (b o c a:Nat) (x:Value) (h: ¬(b=c/\o=a)):(w.setCell (af b o) x).cell? (af c a)=w.cell? (af c a):=
 World.cell?_setCell_other _ _ _ _ y_
section
variable {S c:Nat->Prop} {w a b:World}
def below_drewN {B:Nat} {w a:World} (h:Below B w a) (q:Nat):Below B w (a.drewN q):=⟨h.os,h.tape,h.output,h.size,h.block⟩
end
structure aH (w:World) (b g n:Nat) (G S:Nat->Nat):Prop where
 n1:1<=n
 n2:n<=1024
 bg:b≠g
 sl: ∃cp,w.cell? (ao b)=some (.slice (some (ao g)) n cp)
 gn: ∀x,x<n->w.cell? (af g (x*2))=some (aM (G x:Int))
 st: ∀x,x<n->w.cell? (af g (x*2+1))=some (ab (S x:Int))
 fg: ∀o,w.frozen? (af g o)=false
section
variable {w w':World} {b g n:Nat} {G S:Nat->Nat}
def aH.cG (h:aH w b g n G S):b<w.heap.size:=by obtain⟨a,e⟩:=h.sl;exact i7 w _ e
def aH.dO (h:aH w b g n G S):g<w.heap.size:=i7 w _ (h.gn 0 h.n1)
theorem aH.kept (h:aH w b g n G S) (d:w'.heap[b]? =w.heap[b]?) (c:w'.heap[g]? =w.heap[g]?):aH w' b g n G S where
 n1:=h.n1
 n2:=h.n2
 bg:=h.bg
 sl:=h.sl.imp fun _ e=>(i5 d).trans e
 gn:=fun x a=>(i5 c).trans (h.gn x a)
 st:=fun x a=>(i5 c).trans (h.st x a)
 fg:=fun o=>(zV0 c).trans (h.fg o)
def aH.frame {X:Nat->Prop} (h:aH w b g n G S) (a:Fr X w w') (d: ¬X b) (c: ¬X g):aH w' b g n G S:=h.kept (a.block b h.cG d) (a.block g h.dO c)
def aH.below (h:aH w b g n G S) (a:aC w w'):aH w' b g n G S:=h.kept (a.block b h.cG) (a.block g h.dO)
def aH.alloc (h:aH w b g n G S) (o:Obj):aH (w.alloc o) b g n G S:=h.below bq
def aH.dc (h:aH w b g n G S) (a:w'.heap=w.heap):aH w' b g n G S:=h.kept (by rw[a]) (by rw[a])
def aH.Po (h:aH w b g n G S) (x:Nat) (c:x<n) (v:Nat):aH (w.setCell (af g (x*2)) (aM v)) b g n (ay G x v) S where
 n1:=h.n1
 n2:=h.n2
 bg:=h.bg
 sl:=h.sl.imp fun _ e=>by rw[aw _ _ _ _ _ _ (fun q=>h.bg q.1.symm)];exact e
 gn:=fun y a=>by
  grind[aE,Gt.aU,Gt.aH.gn,aq,Gt.aw]
 st:=fun y a=>by grind[Gt.aw,Gt.aH.st]
 fg:=fun o=>by rw[World.frozen?_setCell];exact h.fg o
def aH.kO (h:aH w b g n G S) (x:Nat) (c:x<n) (v:Nat):aH (w.setCell (af g (x*2+1)) (ab v)) b g n G (ay S x v) where
 n1:=h.n1
 n2:=h.n2
 bg:=h.bg
 sl:=h.sl.imp fun _ e=>by rw[aw _ _ _ _ _ _ q_];exact e
 gn:=fun y a=>by grind[Gt.aw,Gt.aH.gn]
 st:=fun y a=>by
  grind[aE,Gt.aU,Gt.aH.st,aq,Gt.aw]
 fg:=fun o=>by rw[World.frozen?_setCell];exact h.fg o
end
def hasB (n:Nat) (G S:Nat->Nat) (p:Int) (q:Nat):Bool:=decide (0<=p)&&decide (p<n)&&decide (S p.toNat≠0)&&decide (G p.toNat=q)
attribute [local go_sem ↓] Go.wp_at_zero Go.wp_at_succ
def mP:Value:= .agg #[aM 0,ab 0]
def fE (n:Nat):Array Value:=madeCells mP.cells (n*2)
theorem zW (n k:Nat) (h:k<n*2):(fE n)[k]? =some ((#[Value.int .u32 0,ab 0]:Array Value)[k%2]!):=by
 unfold fE madeCells mP
 simp[Value.cells,h]
theorem ED:(Tryz.prog.info? 248).map (fun i=>(i.zero,i.size,i.bytes))=some (some mP,2,16):=by rfl
def jl (w:World) (n:Nat) (c:1<=n) (b:n<=1024):
  aH ((w.alloc (.cells (fE n) 248)).alloc (.cells #[.slice (some (ao w.heap.size)) n n] 152)) (w.heap.size+1) w.heap.size n (fun _=>0) (fun _=>0):=by
 have e:w.heap.size+1=(w.alloc (.cells (fE n) 248)).heap.size:=q_
 have d: ∀i,((w.alloc (.cells (fE n) 248)).alloc (.cells #[.slice (some (ao w.heap.size)) n n] 152)).cell? (af w.heap.size i)=(fE n)[i]? :=by
  simp
 refine⟨c,b,z_,⟨n,q_⟩,fun x a=> ?_,fun x a=> ?_,fun i=> ?_⟩
 ·grind[Gt.zW]
 ·grind[Gt.zW]
 simp
def ig (n:Nat) (w:World) (h:1<=n) (g:n<=1024):
  aB 33 #[ab n] w fun e w'=>e= .returned (ak (w.heap.size+1))/\aH w' (w.heap.size+1) w.heap.size n (fun _=>0) (fun _=>0)/\aC w w':=by
 obtain⟨d,hi,b,a,c⟩:=info_parts ED
 have f: ∀w,(Instr.makeSlice 150 (ab n) (ab n)).run Tryz.prog w= .ok (.slice (some (ao w.heap.size)) n n) (w.alloc (.cells (fE n) 248)):=by
  intro w
  have:=run_make w 150 248 d mP q_ hi b .i64 .i64 (n:Int) (n:Int) z_ z_ y_ z_
  rw[a,show(n:Int).toNat=n by omega] at this
  exact this
 have i:=aa (jl w n h g)
 clear hi b a c
 refine ge ?_
 go_wp2
 go_ret
 exact⟨rfl,i.out,bq.alloc q_ _⟩
section
variable {w:World} {b g n:Nat} {G S:Nat->Nat}
def eh (h:aH w b g n G S) (p:Int) (q:Nat):
  vQ 145 #[ak b,.agg #[ab p,aM q]] w (.bool (hasB n G S p q)):=by
 obtain⟨s,r⟩:=h.sl
 have d:=h.n2
 have f:=h.cG
 have e:=h.dO
 have j: ¬b=w.heap.size:=z_
 have i: ¬g=w.heap.size:=z_
 by_cases l:p<0
 ·have a:hasB n G S p q=false:=by unfold hasB;grind
  rw[a]
  clear h
  refine ge ?_
  go_wp2
  go_quiet (fail)
  go_wp2
  go_ret
  exact⟨rfl,below_drewN bq _⟩
 ·by_cases k:(n:Int)<=p
  ·have a:hasB n G S p q=false:=by unfold hasB;grind
   rw[a]
   clear h
   refine ge ?_
   go_wp2
   go_quiet (fail)
   go_wp2
   go_ret
   exact⟨rfl,below_drewN bq _⟩
  ·obtain⟨x,rfl⟩:=yY0 (show 0<=p by omega)
   have c:x<n:=z_
   have o:=h.gn x c
   have m:=h.st x c
   have a:hasB n G S x q=(decide (¬(S x:Int)=0)&&decide ((G x:Int)=q)):=by
    unfold hasB
    grind
   rw[a]
   clear h a
   refine ge ?_
   go_wp2
   go_quiet (fail)
   go_wp2
   go_region
   all_goals go_wp2
   all_goals go_ret
   ·rename_i hz
    exact⟨by simp[hz],(below_drewN bq _).alloc q_ _⟩
   ·exact⟨by simp[bne,BEq.beq],(below_drewN bq _).alloc q_ _⟩
end
def nC {n:Nat} {G S:Nat->Nat} {p:Int} {q:Nat} (h:hasB n G S p q=true): ∃x:Nat,p=x/\x<n/\S x≠0/\G x=q:=by
 unfold hasB at h
 grind
def oY {n:Nat} {G S:Nat->Nat} {x q:Nat} (a:x<n) (b:S x≠0) (c:G x=q):hasB n G S x q=true:=by
 unfold hasB
 grind
section
variable {w:World} {b g n:Nat} {G S:Nat->Nat}
def tU (h:aH w b g n G S) (p:Int) (q:Nat) (c:hasB n G S p q=false):
  vQ 199 #[ak b,.agg #[ab p,aM q]] w (ab 6):=by
 have a:=aa (eh (h.alloc (.cells #[ab p,aM q] 76)) p q)
 rw[c] at a
 clear h
 refine ge ?_
 go_wp2_with (go_at_call 145;refine cH a.out fun e d=> ?_)
 go_ret
 exact⟨rfl,bq.trans (d.out.mono q_)⟩
def tY (h:aH w b g n G S) (x q:Nat) (j:x<n) (r:S x≠0) (t:G x=q):
  aB 199 #[ak b,.agg #[ab x,aM q]] w fun e w'=>e= .returned (ab 0)/\aH w' b g n G (ay S x 0)/\Fr (fun k=>k=g) w w':=by
 have o:=aa (eh (h.alloc (.cells #[ab x,aM q] 76)) x q)
 rw[oY j r t] at o
 have u:Hid (∀d,Below (w.alloc (.cells #[ab x,aM q] 76)).heap.size (w.alloc (.cells #[ab x,aM q] 76)) d->
   (aH d b g n G S/\d.cell? (ao w.heap.size)=some (ab x)/\aC w d)):=by
  intro d f
  refine⟨(h.alloc _).below f,?_,bq.trans (f.mono q_)⟩
  rw[f.cell (p:=(ao w.heap.size)) q_,bE];rfl
 have s:=h.n2
 clear h
 refine ge ?_
 go_wp2_with (go_at_call 145;refine(o.out).mono ?_;rintro e d ⟨rfl,f⟩;obtain⟨c,B,i⟩:=u.out _ f;obtain⟨v,A⟩:=c.sl;have z:=c.st x j;have y:=c.fg;have l:=aa c;have m:=aa i;clear f i c)
 go_region
 all_goals go_wp2
 go_ret
 exact⟨rfl,(l.out.kO x j 0).dc rfl,((Fr.aF m.out).setCell (S:=fun k=>k=g) (a:=(af g (x*2+1))) rfl _).drew⟩
def xX (h:aH w b g n G S) (p:Int) (q:Nat) (c:hasB n G S p q=false):
  vQ 133 #[ak b,.agg #[ab p,aM q]] w (.tuple #[ab 0,.bool false]):=by
 have a:=aa (eh (h.alloc (.cells #[ab p,aM q] 76)) p q)
 rw[c] at a
 clear h
 refine ge ?_
 go_wp2_with (go_at_call 145;refine cH a.out fun e d=> ?_)
 go_ret2
 exact⟨rfl,bq.trans (d.out.mono q_)⟩
theorem zc (h:aH w b g n G S) (x q:Nat) (j:x<n) (l:S x≠0) (o:G x=q):
  vQ 133 #[ak b,.agg #[ab x,aM q]] w (.tuple #[ab (S x:Int),.bool true]):=by
 have k:=aa (eh (h.alloc (.cells #[ab x,aM q] 76)) x q)
 rw[oY j l o] at k
 have r:Hid (∀c,Below (w.alloc (.cells #[ab x,aM q] 76)).heap.size (w.alloc (.cells #[ab x,aM q] 76)) c->
   (aH c b g n G S/\c.cell? (ao w.heap.size)=some (ab x)/\aC w c)):=by
  intro c d
  refine⟨(h.alloc _).below d,?_,bq.trans (d.mono q_)⟩
  rw[d.cell (p:=(ao w.heap.size)) q_,bE];rfl
 have m:=h.n2
 clear h
 refine ge ?_
 go_wp2_with (go_at_call 145;refine(k.out).mono ?_;rintro e c ⟨rfl,d⟩;obtain⟨a,v,f⟩:=r.out _ d;obtain⟨s,u⟩:=a.sl;have t:=a.st x j;have i:=aa f;clear d f a)
 go_quiet (fail)
 go_wp2
 go_ret2
 exact⟨rfl,below_drewN i.out _⟩
end
def Nx (i j:Nat):Bool:=(i==1&&j==2)||(i==2&&(j==1||j==3||j==4))||((i==3||i==4)&&j==1)
def ry (a b:Int):Bool:=decide (0<=a)&&decide (a<=4)&&decide (0<=b)&&decide (b<=4)&&Nx a.toNat b.toNat
def pv (w:World):Prop:= ∀i j,i<5->j<5->w.cell? (af 0 (i*5+j))=some (.bool (Nx i j))
def pv.pos {w:World} (h:pv w):0<w.heap.size:=i7 w _ (h 0 0 z_ z_)
def pv.frame {w w':World} {X:Nat->Prop} (h:pv w) (c:Fr X w w') (d: ¬X 0):pv w':=fun i j hi b=>(c.cell (a:=(af 0 (i*5+j))) h.pos d).trans (h i j hi b)
def pv.below {w w':World} (h:pv w) (b:aC w w'):pv w':=fun i j hi a=>(b.cell (p:=(af 0 (i*5+j))) h.pos).trans (h i j hi a)
def jG (a:Int) (w:World) (h:0<=a/\a<=4):
  vS 181 #[ab a] w (.bool true):=by
 have c:=h.1
 have b:=h.2
 refine ge ?_
 go_wp2
 all_goals go_ret
 simp
def qs (a:Int) (w:World) (h: ¬(0<=a/\a<=4)):
  vS 181 #[ab a] w (.bool false):=by
 by_cases c:0<=a
 ·have b: ¬a<=4:=by omega
  refine ge ?_
  go_wp2
  all_goals go_ret
  simp
 ·refine ge ?_
  go_wp2
  all_goals go_ret
  simp
def zD (a b:Nat) (w:World) (h:pv w) (i:a<5) (g:b<5):
  vS 146 #[ab a,ab b] w (.bool (Nx a b)):=by
 have j:=h a b i g
 have d:=aa (jG (a:Int) w z_)
 have c:=aa (jG (b:Int) w z_)
 generalize e:Nx a b=f at*
 clear h e
 refine ge ?_
 go_wp2_with (first
  |(go_at_call 181;refine cS d.out ?_;clear d)
  |(go_at_call 181;refine cS c.out ?_;clear c))
 go_ret
 simp
theorem IQ (a b:Int) (w:World) (h: ¬(0<=a/\a<=4/\0<=b/\b<=4)):
  vS 146 #[ab a,ab b] w (.bool false):=by
 by_cases d:0<=a/\a<=4
 ·have c:=aa (jG a w d)
  have e:=aa (qs b w z_)
  clear h d
  refine ge ?_
  go_wp2_with (first
   |(go_at_call 181;refine cS c.out ?_;clear c)
   |(go_at_call 181;refine cS e.out ?_;clear e))
  go_ret
  simp
 ·have c:=aa (qs a w d)
  clear h d
  refine ge ?_
  go_wp2_with (go_at_call 181;refine cS c.out ?_;clear c)
  go_ret
  simp
theorem df (a b:Int) (w:World) (h:pv w):
  vS 146 #[ab a,ab b] w (.bool (ry a b)):=by
 by_cases c:0<=a/\a<=4/\0<=b/\b<=4
 ·obtain⟨x,rfl⟩:=yY0 c.1
  obtain⟨y,rfl⟩:=yY0 c.2.2.1
  refine(zD x y w h z_ z_).mono ?_
  grind[Gt.ry]
 grind[Gt.IQ,Gt.ry]
section
variable {w:World} {b g n:Nat} {G S:Nat->Nat}
def BZ (h:aH w b g n G S) (p s:Int) (q:Nat) (c:hasB n G S p q=false):
  vQ 94 #[ak b,.agg #[ab p,aM q],ab s] w (ab 6):=by
 have a:=aa (eh (h.alloc (.cells #[ab p,aM q] 76)) p q)
 rw[c] at a
 clear h
 refine ge ?_
 go_wp2_with (go_at_call 145;refine cH a.out fun e d=> ?_)
 go_ret
 exact⟨rfl,bq.trans (d.out.mono q_)⟩
def xT (h:aH w b g n G S) (t:pv w) (x q:Nat) (s:Int) (r:x<n) (v:S x≠0) (A:G x=q) (D:ry (S x) s=false):
  vQ 94 #[ak b,.agg #[ab x,aM q],ab s] w (ab 11):=by
 have u:=aa (eh (h.alloc (.cells #[ab x,aM q] 76)) x q)
 rw[oY r v A] at u
 have C:Hid (∀a,Below (w.alloc (.cells #[ab x,aM q] 76)).heap.size (w.alloc (.cells #[ab x,aM q] 76)) a->
   (aH a b g n G S/\a.cell? (ao w.heap.size)=some (ab x)/\aC w a/\pv a)):=by
  intro a f
  have k:=bq.trans (f.mono q_)
  refine⟨(h.alloc _).below f,?_,k,t.below k⟩
  rw[f.cell (p:=(ao w.heap.size)) q_,bE];rfl
 have y:=h.n2
 have B:Hid (∀a,pv a->vS 146 #[ab (S x:Int),ab s] a (.bool false)):=fun a c=>by
  grind[Gt.df]
 clear h t
 refine ge ?_
 go_wp2_with (go_at_call 145;refine(u.out).mono ?_;rintro e a ⟨rfl,f⟩;obtain⟨d,I,l,c⟩:=C.out _ f;obtain⟨E,H⟩:=d.sl;have F:=d.st x r;have o:=aa l;have m:=aa c;clear f l d c)
 go_quiet (first|(go_at_call 146;refine Calls.quiet_of_same (B.out _ ?_);exact(fun i j hi z=>m.out i j hi z)))
 go_wp2
 go_ret
 exact⟨rfl,below_drewN o.out _⟩
def BL (h:aH w b g n G S) (y:pv w) (x q:Nat) (s:Nat) (r:x<n) (A:S x≠0) (D:G x=q) (H:ry (S x) s=true):
  aB 94 #[ak b,.agg #[ab x,aM q],ab s] w fun e w'=>e= .returned (ab 0)/\aH w' b g n G (ay S x s)/\Fr (fun k=>k=g) w w':=by
 have z:=aa (eh (h.alloc (.cells #[ab x,aM q] 76)) x q)
 rw[oY r A D] at z
 have F:Hid (∀c,Below (w.alloc (.cells #[ab x,aM q] 76)).heap.size (w.alloc (.cells #[ab x,aM q] 76)) c->
   (aH c b g n G S/\c.cell? (ao w.heap.size)=some (ab x)/\aC w c/\pv c)):=by
  intro c l
  have m:=bq.trans (l.mono q_)
  refine⟨(h.alloc _).below l,?_,m,y.below m⟩
  rw[l.cell (p:=(ao w.heap.size)) q_,bE];rfl
 have B:=h.n2
 have E:Hid (∀c,pv c->vS 146 #[ab (S x:Int),ab s] c (.bool true)):=fun c f=>by
  grind[Gt.df]
 clear h y
 refine ge ?_
 go_wp2_with (go_at_call 145;refine(z.out).mono ?_;rintro e c ⟨rfl,l⟩;obtain⟨d,N,o,f⟩:=F.out _ l;obtain⟨I,M⟩:=d.sl;have L:=d.st x r;have J:=d.fg;have u:=aa d;have v:=aa o;have t:=aa f;clear l o d f)
 go_quiet (first|(go_at_call 146;refine Calls.quiet_of_same (E.out _ ?_);exact(fun i j hi C=>t.out i j hi C)))
 go_wp2
 go_region
 all_goals go_wp2
 go_ret
 exact⟨rfl,(u.out.kO x r s).dc rfl,by
  have:=((Fr.aF v.out).setCell (S:=fun k=>k=g) (a:=(af g (x*2+1))) rfl (ab s))
  exact⟨this.os,this.tape,this.output,this.size,this.block⟩⟩
end
end Go.Proofs.YtnmhcgpnhlhcgaaGreatDoor.Gt
namespace Go.Proofs.YtnmhcgpnhlhcgaaGreatDoor.Gt
open Go.RowKit Go.Shelf
attribute [local go_sem] Oper.semAt_some
def pl (S:Nat->Nat) (fr:Bool) (n:Nat):Nat->List (Fin n)
 |0=>[]
 |k+1=>if h:k<n then(if (S k==0)=fr then pl S fr n k++[⟨k,h⟩] else pl S fr n k) else pl S fr n k
theorem nW {S:Nat->Nat} {fr:Bool} {n k:Nat} (h:k<n) (a:(S k==0)=fr):pl S fr n (k+1)=pl S fr n k++[⟨k,h⟩]:=by rw[pl,dif_pos h,if_pos a]
theorem EZ {S:Nat->Nat} {fr:Bool} {n k:Nat} (a: ¬(S k==0)=fr):pl S fr n (k+1)=pl S fr n k:=by rw[pl];grind
def Mi (S:Nat->Nat) (a:Bool) (n k:Nat):pl S a n k<+:pl S a n (k+1):=by
 grind[Gt.pl]
def Ao (S:Nat->Nat) (a:Bool) (n k:Nat): ∀d,pl S a n k<+:pl S a n (k+d)
 |0=>q_
 |d+1=>(Ao S a n k d).trans (Mi S a n (k+d))
theorem zB (S:Nat->Nat) (fr:Bool) (n:Nat): ∀k,(pl S fr n k).length<=k
 |0=>aT
 |k+1=>by
  have:=zB S fr n k
  rw[pl]
  grind
def Kp (a B2:Nat) (fr:Bool) (A B:World):Prop:=Below a A B/\(Boxed A B2 4 (.bool fr)->Boxed B B2 4 (.bool fr))
structure Reads (W:World) (g n:Nat) (G S:Nat->Nat):Prop where
 gn: ∀x,x<n->W.cell? (af g (x*2))=some (aM (G x:Int))
 st: ∀x,x<n->W.cell? (af g (x*2+1))=some (ab (S x:Int))
def Reads.below {W W':World} {g n b:Nat} {G S:Nat->Nat} (h:Reads W g n G S) (c:Below b W W') (d:g<b):Reads W' g n G S:=
 ⟨fun x a=>(c.cell (p:=(af g (x*2))) d).trans (h.gn x a),fun x a=>(c.cell (p:=(af g (x*2+1))) d).trans (h.st x a)⟩
def aH.reads {w:World} {b g n:Nat} {G S:Nat->Nat} (h:aH w b g n G S):Reads w g n G S:=⟨h.gn,h.st⟩
def Cq (nn:Nat) (hn:1<=nn) (l B1 B2 U b g n cp:Nat) (G S:Nat->Nat) (u:Bool) (J Jx:List (Fin n)->World->Prop)
  (hA: ∀pre W o,J pre W->J pre (World.alloc W o))
  (hY: ∀pre (x:Fin n) W,J pre W->pre.length<(pl S u n n).length->YieldAt Fence.wide (nn-1) Tryz.prog l #[ab x.val] W fun e X=>
   (e= .returned (.bool true)/\J (pre++[x]) X/\Kp U B2 u W X)\/(e= .returned (.bool false)/\Jx (pre++[x]) X))
  (W:World) (b0:W.cell? (ao B1)=some (ak b)) (a1:Boxed W B2 4 (.bool u)) (a8:W.cell? (ao b)=some (.slice (some (ao g)) n cp)) (hr:Reads W g n G S) (a9:n<=1024) (I:g<U) (Y:U<=W.heap.size) (h0:J [] W):
  CallsIn Fence.wide nn Tryz.prog 172 #[.func (.yield l) #[] #[],ak B1,ak B2] W fun e X=>(∃v,e= .returned v)/\
   ((∃ys,ys=pl S u n n/\J ys X)\/(∃pre,pre<+:pl S u n n/\Jx pre X)):=by
 have a4:=aa a1
 have HR:=aa hr
 have H0:=aa h0
 have F:=aa hY
 have HA:=aa hA
 have a3:=aa Y
 clear a1 hr h0 hY hA Y
 refine callsIn_of_wp Tryz.func172 rfl trivial ?_ rfl
 simp only[Tryz.ntmps172,j_,Nat.reduceAdd,Nat.reduceSub]
 gi_wp2
 gi_loopw [11] (fun p wr=> ∃k:Nat,k<=n/\p=ab k/\Reads wr g n G S/\Boxed wr B2 4 (.bool u)/\U<=wr.heap.size/\J (pl S u n k) wr) (fun p _=>n-(intOf p).toNat)
 case atStart=>exact⟨0,z_,rfl,HR.out,a4.out,a3.out,H0.out⟩
 case round=>
  obtain⟨k,hk,rfl,s,t,C,hJ⟩:=hrel
  by_cases c:k<n
  ·have e1:=s.gn k c
   have e2:=s.st k c
   have e3:=t.cell
   have Z:=t.lt
   have y1: ¬B2=wr.heap.size:=z_
   have y2: ¬g=wr.heap.size:=z_
   have D:=HA.out _ _ (.cells #[aM (G k:Int),ab (S k:Int)] 248) hJ
   have f:=t.alloc (.cells #[aM (G k:Int),ab (S k:Int)] 248)
   have e4:=f.cell
   have r:Reads (wr.alloc (.cells #[aM (G k:Int),ab (S k:Int)] 248)) g n G S:=s.below ((i4 U _).alloc C _) I
   have q:U<=(wr.alloc (.cells #[aM (G k:Int),ab (S k:Int)] 248)).heap.size:=by simp;omega
   by_cases H:(S k==0)=u
   ·have E:(pl S u n k).length<(pl S u n n).length:=by
     have M:=Ao S u n (k+1) (n-(k+1))
     rw[show k+1+(n-(k+1))=n by omega,nW c H] at M
     grind
    obtain⟨fn,a5,a2,a6,V,L⟩:=F.out _ ⟨k,c⟩ _ D E
    have m:=aa f
    have j:=aa r
    have O:=aa q
    have P:=aa H
    clear hJ D t f s r E C q Z
    dsimp only at V
    cases u
    ·have hz: ¬(S k:Int)=0:=by grind
     have a7:((S k:Int)==0)=false:=y_
     clear H
     gi_wp2
     refine L.mono ?_
     rintro e W3 (⟨rfl,z,a⟩|⟨rfl,i⟩)
     ·have d:=a.2 m.out
      have w:=j.out.below a.1 I
      have y:=zY0 O.out a.1.size
      have B:=aa d
      have A:=aa w
      have N:=aa y
      have R:=aa z
      clear d w z a y V L F
      gi_wp2
      go_roundw
      case rel=>exact⟨k+1,z_,by go_num,A.out,B.out,N.out,by rw[nW c P.out];exact R.out⟩
      case measure=>simp[intOf];omega
     ·have Q:=aa i
      clear i V L F
      gi_wp2
      refine bodyPost_ret (results_none rfl _ _ _) rfl ?_
      refine⟨⟨_,rfl⟩,.inr ⟨_,?_,Q.out⟩⟩
      have M:=Ao S false n (k+1) (n-(k+1))
      rw[show k+1+(n-(k+1))=n by omega,nW c P.out] at M
      exact M
    ·have hz:(S k:Int)=0:=by grind
     rw[hz] at e2 e4 V L m j O
     clear H
     gi_wp2
     refine L.mono ?_
     rintro e W3 (⟨rfl,z,a⟩|⟨rfl,i⟩)
     ·have d:=a.2 m.out
      have w:=j.out.below a.1 I
      have y:=zY0 O.out a.1.size
      have B:=aa d
      have A:=aa w
      have N:=aa y
      have R:=aa z
      clear d w z a y V L F
      gi_wp2
      go_roundw
      case rel=>exact⟨k+1,z_,by go_num,A.out,B.out,N.out,by rw[nW c P.out];exact R.out⟩
      case measure=>simp[intOf];omega
     ·have Q:=aa i
      clear i V L F
      gi_wp2
      refine bodyPost_ret (results_none rfl _ _ _) rfl ?_
      refine⟨⟨_,rfl⟩,.inr ⟨_,?_,Q.out⟩⟩
      have M:=Ao S true n (k+1) (n-(k+1))
      rw[show k+1+(n-(k+1))=n by omega,nW c P.out] at M
      exact M
   ·have m:=aa f
    have j:=aa r
    have O:=aa q
    have P:=aa H
    have T:=aa D
    clear hJ D t f s r C q Z
    cases u
    ·have hz:(S k:Int)=0:=by grind
     rw[hz] at e2 e4 m j O T
     clear H F
     gi_wp2
     refine⟨fun _ h=>(by cases h),?_⟩
     gi_wp2
     go_roundw
     case rel=>exact⟨k+1,z_,by go_num,j.out,m.out,O.out,by rw[EZ P.out];exact T.out⟩
     case measure=>simp[intOf];omega
    ·have hz: ¬(S k:Int)=0:=by grind
     clear H F
     gi_wp2
     refine⟨fun _ h=>(by cases h),?_⟩
     gi_wp2
     go_roundw
     case rel=>exact⟨k+1,z_,by go_num,j.out,m.out,O.out,by rw[EZ P.out];exact T.out⟩
     case measure=>simp[intOf];omega
  ·have a0:k=n:=by omega
   subst a0
   have HJ:=aa hJ
   clear s t hJ C F
   gi_wp2
   go_end0
   exact⟨⟨_,rfl⟩,.inl ⟨_,rfl,HJ.out⟩⟩
def dv {P:Program} (w:World) {r:Array Oper} {o:Oper} {a:Act} {K:Act->World->Prop} {Q:Exit->Act->World->Prop} {E:Prop} (F:o.guard=none) (s x:Operand) (t:TypeId)
  (N:o.op= .call {callee:= .builtin .append,args:= #[s,x],argTypes:= #[t,t]})
  (f:Nat) (e:TypeId) (i:TypeInfo) (z:Value) (b bytes:Nat) (L:P.underlying t=some (.slice e)) (hi:P.info? e=some i) (hz:i.zero=some z)
  (k:i.size=b) (G:i.bytes=bytes) (C:z.cells.size=b) (D:0<b)
  (v:Value) (n:Nat) (B:List Value) (M:a.eval s=v) (y:w.ownsRow f e b v n B)
  (I:Addr) (m c:Nat) (d:List Value) (J:a.eval x= .slice (some I) m c) (O:d.length=m*b) (l: ∀j u,d[j]? =some u->w.cell? (I.add j)=some u) (T: ∀u∈d,u.oneCell'=true)
  (H:n+m<=maxLen) (g:(n+m)*bytes<=140737488355328) (p:f<=w.heap.size)
  (h: ∀A q,q.ownsRow f e b A (n+m) (B++d)->w.grownBy q v.ownBlock->K (a.put o.dst A) q):
  if Region.wanted o (yielded r a.tmps)=true then Oper.wp P o a w K Q else E:=by
 have hw:Region.wanted o (yielded r a.tmps)=true:=by simp[Region.wanted,F]
 rw[if_pos hw]
 exact wp_append_own w s x t N f e i z b bytes L hi hz k G C D v n B M y I m c d J O l T H g p fun A q S R _=>h A q S R
def aJ {w:World} {d:Nat} {e:TypeId} {b:Nat} {v:Value} {n:Nat} {xs:List Value} (h:w.ownsRow d e b v n xs): ∃a c,v= .slice a n c:=by
 rcases h.2 with ⟨e,j⟩|⟨g,i,f,e,_⟩
 ·grind
 grind
def kh (c b:Nat) (fr:Bool) (w:World):
  CallsIn Fence.wide c Tryz.prog 127 #[ak b,.bool fr] w fun e a=>e= .returned (.func (.func 172) #[] #[ak w.heap.size,ak (w.heap.size+1)])/\
   a=(w.alloc (.cells #[ak b] 92)).alloc (.cells #[.bool fr] 4):=by
 refine callsIn_of_wp Tryz.func127 rfl trivial ?_ rfl
 simp only[Tryz.ntmps127,j_,Nat.reduceAdd,Nat.reduceSub]
 gi_wp2
 go_ret
 simp
def wC {a B2:Nat} {fr:Bool} {A B C:World} (h:Kp a B2 fr A B) (b:Kp a B2 fr B C):Kp a B2 fr A C:=⟨h.1.trans b.1,fun q=>b.2 (h.2 q)⟩
def EI {w:World} {c B2:Nat} {fr:Bool} (f:c<=w.heap.size) (W:World) (l:Nat) (o a:Obj) (g:w.heap.size<=l) (b:W.heap[l]? =some o) (d:o.isCells=false) (hw:o.isWalk=false):Kp c B2 fr W (W.putObj l a):=by
 refine⟨belowK_b f W l o a g b d hw,fun q=>q.kept (grownBy_putObj' W l a) (fun e=> ?_)⟩
 cases e
 rw[show W.heap[B2]? =_ from q] at b
 cases b
 cases d
def Cp {W i:World} {g B B2 b:Nat} {fr:Bool} {t e:TypeId} {v n:Value} {k m:Nat} {p o:List Value} {f:Obj} (j:4≠e) (h:t≠e) (r:Boxed W B t v) (c:W.ownsRow g e b v k p) (l:g<=W.heap.size) (u:g<=B) (s:B2≠B)
  (d:i.ownsRow g e b n m o) (a:(W.alloc f).grownBy i v.ownBlock):Kp g B2 fr W (i.setCell (ao B) n):=by
 refine⟨(r.appended h c l u d a).2.2.2.2,fun q=> ?_⟩
 have w:=(q.alloc f).kept a (q.not_row j c)
 grind[Boxed.kept,grownBy_setCell']
def gE (j:Nat) (t:1<=j) (i B2 a b g n q:Nat) (G S:Nat->Nat) (fr:Bool) (w:World) (f:Boxed w i 92 (ak b)) (e:Boxed w B2 4 (.bool fr)) (k:w.cell? (ao b)=some (.slice (some (ao g)) n q)) (s:Reads w g n G S) (m:n<=1024) (v:b<a) (d:g<a) (c:a<=w.heap.size):
  SeqStopsK Fence.wide j Tryz.prog 172 #[ak i,ak B2] (fun x:Fin n=> #[Value.int .i64 (x.val:Int)]) (Kp a B2 fr) (fun r=>r=pl S fr n n) (fun pre=>pre<+:pl S fr n n) (pl S fr n n).length w:=by
 intro l J C W h A z y B
 exact Cq j t l i B2 a b g n q G S fr J C (fun pre W o u=>A pre W _ none u (World.grownBy_alloc W o none) q_) y W ((h.cell (p:=(ao i)) f.lt).trans f.cell) ((h.block B2 e.lt).trans e) ((h.cell (p:=(ao b)) y_).trans k) (s.below (h.mono c) d) m d (zY0 c h.size) B
def cN (G:Nat->Nat) {n:Nat} (l:List (Fin n)):List Value:=l.flatMap (fun x=>[Value.int .i64 (x.val:Int),aM (G x.val:Int)])
def uj (G:Nat->Nat) {n:Nat} (l:List (Fin n)) (x:Fin n):cN G (l++[x])=cN G l++[ab x.val,aM (G x.val:Int)]:=by unfold cN;simp
theorem L7:(Tryz.prog.info? 76).map (fun i=>(i.zero,i.size,i.bytes))=some (some (.agg #[ab 0,aM 0]),2,16):=by rfl
def I6 (b g n:Nat) (G S:Nat->Nat) (w:World) (M:aH w b g n G S):
  CallsIn Fence.wide 4 Tryz.prog 78 #[ak b] w fun e W'=> ∃v,e= .returned v/\W'.ownsRow w.heap.size 76 2 v (pl S false n n).length (cN G (pl S false n n))/\aC w W':=by
 have t:=M.cG
 have s:=M.dO
 have hn:=M.n2
 obtain⟨R,z⟩:=M.sl
 have b3:=zB S false n n
 have Y:=aa M
 clear M
 obtain⟨i0,hi,a2,a1,Z⟩:=info_parts L7
 refine callsIn_of_wp_marks Tryz.func78 rfl trivial ?_ rfl
 simp only[Tryz.ntmps78,j_,Nat.reduceAdd,Nat.reduceSub]
 gi_wp2_with (refine⟨trivial,?_⟩;gi_at_call 127;refine(kh _ b false _).mono ?_;rintro e U ⟨rfl,rfl⟩)
 have bT:=Boxed.new w 92 (ak b)
 have bO:=Boxed.new (w.alloc (.cells #[ak b] 92)) 187 (.slice none 0 0)
 have b1:=Boxed.new ((w.alloc (.cells #[ak b] 92)).alloc (.cells #[.slice none 0 0] 187)) 92 (ak b)
 have b2:=Boxed.new (((w.alloc (.cells #[ak b] 92)).alloc (.cells #[.slice none 0 0] 187)).alloc (.cells #[ak b] 92)) 4 (.bool false)
 have q:aC w ((((w.alloc (.cells #[ak b] 92)).alloc (.cells #[.slice none 0 0] 187)).alloc (.cells #[ak b] 92)).alloc (.cells #[.bool false] 4)):=((((i4 _ w).alloc aT _).alloc q_ _).alloc (by simp;omega) _).alloc (by simp;omega) _
 simp only[World.size_alloc] at bO b1 b2|-
 refine wpIn_rangeFunc_ownG rfl x_ (gf:=172) (lb:= #[ak (w.heap.size+1+1),ak (w.heap.size+1+1+1)]) rfl trivial (enters_of Tryz.func172 (by rfl) rfl)
  (gE 3 x_ (w.heap.size+1+1) (w.heap.size+1+1+1) w.heap.size b g n R G S false _ (b1.alloc _) b2 ((q.cell (p:=(ao b)) t).trans z) (Y.out.reads.below q s) hn t s q.size) wC (EI q.size) cj (fun _=>rfl)
  (fun (pre:List (Fin n)) W=>((∃v,Boxed W (w.heap.size+1) 187 v/\W.ownsRow w.heap.size 76 2 v pre.length (cN G pre)/\True)/\Boxed W w.heap.size 92 (ak b))/\aC w W)
  (fun _ _ _=>False)
  (OwnFrom.and (OwnFrom.and (Own.from (holdsRow_own w.heap.size (w.heap.size+1) 187 76 2 (fun pre:List (Fin n)=>pre.length) (fun pre:List (Fin n)=>cN G pre) (fun _ _=>True)) _) (Own.from (boxed_own w.heap.size 92 (fun _:List (Fin n)=>ak b)) _)) (ownFrom_below aT q.size))
  (fun _ _ _ _ _ hs _ _=>hs)
  ⟨⟨⟨_,(bO.alloc _).alloc _,World.ownsRow_nil _ _ _ _,trivial⟩,((bT.alloc _).alloc _).alloc _⟩,q⟩
  (fun x=>{tmps:= #[ak b,ak w.heap.size,.slice none 0 0,ak (w.heap.size+1),ab x.val,ak b,.bool false,ak b,.func (.func 172) #[] #[ak (w.heap.size+1+1),ak (w.heap.size+1+1+1)],ab x.val,undef,undef,undef,undef,undef,undef,undef,undef,undef,undef,undef,undef,undef,undef],defers:=[]}) ?assign ?body ?done ?stop
 case assign=>
  intro l x W K i
  gi_wp2
  exact i
 case body=>
  rintro l pre x W ⟨⟨⟨v,y,d,_⟩,o⟩,H⟩ b5
  obtain⟨X,V,rfl⟩:=aJ d
  have hc:=y.cell
  have hf:=y.frozen
  have a8:=o.cell
  have J:=H.size
  have I:=x.isLt
  have B:=(H.cell (p:=(ao b)) t).trans z
  have O:=(H.cell (p:=(af g (x.val*2))) s).trans (Y.out.gn x.val I)
  have HU:=aa Tryz.underlying187
  have HL:Hid ((W.drew.alloc (.cells #[ab x.val,aM (G x.val:Int)] 76)).ownsRow w.heap.size 76 2 (.slice X pre.length V) pre.length (cN G pre)):=by
   have:=d.alloc (.cells #[ab x.val,aM (G x.val:Int)] 76)
   exact this
  have HN:Hid (∀j u,[Value.int .i64 (x.val:Int),aM (G x.val:Int)][j]? =some u->(W.drew.alloc (.cells #[ab x.val,aM (G x.val:Int)] 76)).cell? (((ao W.heap.size):Addr).add j)=some u):=by
   intro j u hu
   have Q:((ao W.heap.size):Addr).add j=(af W.heap.size j):=by unfold Addr.add;grind
   rw[Q]
   have:=bE W.drew #[ab x.val,aM (G x.val:Int)] 76 j
   simp_all
  have HF:Hid (∀(w1:World) (m:Value),w1.ownsRow w.heap.size 76 2 m (pre.length+1) (cN G pre++[ab x.val,aM (G x.val:Int)])->(W.drew.alloc (.cells #[ab x.val,aM (G x.val:Int)] 76)).grownBy w1 (Value.ownBlock (.slice X pre.length V))->
    w1.cell? (ao (w.heap.size+1))=some (.slice X pre.length V)/\w1.frozen? (ao (w.heap.size+1))=false/\
    (w1.cell? (ao w.heap.size)=some (ak b)/\w1.cell? (ao b)=some (.slice (some (ao g)) n R)/\w1.cell? (af g (x.val*2))=some (aM (G x.val:Int)))/\
    ((w1.setCell (ao (w.heap.size+1)) m).cell? (ao w.heap.size)=some (ak b)/\(w1.setCell (ao (w.heap.size+1)) m).cell? (ao b)=some (.slice (some (ao g)) n R)/\(w1.setCell (ao (w.heap.size+1)) m).cell? (af g (x.val*2))=some (aM (G x.val:Int)))/\
    (KeepsFrom ((((w.alloc (.cells #[ak b] 92)).alloc (.cells #[.slice none 0 0] 187)).alloc (.cells #[ak b] 92)).alloc (.cells #[.bool false] 4)).heap.size W (w1.setCell (ao (w.heap.size+1)) m)/\Kp w.heap.size (w.heap.size+1+1+1) false W (w1.setCell (ao (w.heap.size+1)) m)/\
     ((∃v,Boxed (w1.setCell (ao (w.heap.size+1)) m) (w.heap.size+1) 187 v/\(w1.setCell (ao (w.heap.size+1)) m).ownsRow w.heap.size 76 2 v (pre++[x]).length (cN G (pre++[x]))/\True)/\Boxed (w1.setCell (ao (w.heap.size+1)) m) w.heap.size 92 (ak b))/\aC w (w1.setCell (ao (w.heap.size+1)) m))):=by
   intro w1 m ho P
   have f:(W.alloc (.cells #[ab x.val,aM (G x.val:Int)] 76)).grownBy w1 (Value.ownBlock (.slice X pre.length V)):=⟨P.os,P.tape,P.output,P.size,P.block⟩
   obtain⟨N,a4,a5,a7,a9⟩:=y.appended x_ d J z_ ho f
   have a6:=Cp (B2:=w.heap.size+1+1+1) (fr:=false) x_ x_ y d J z_ z_ ho f
   have F:=(o.alloc (.cells #[ab x.val,aM (G x.val:Int)] 76)).kept f (o.not_row x_ d)
   have E:Boxed (w1.setCell (ao (w.heap.size+1)) m) w.heap.size 92 (ak b):=F.other z_ _
   have L:=H.trans a9
   have a3:Below w.heap.size W w1:=by
    refine((i4 w.heap.size W).alloc J (.cells #[ab x.val,aM (G x.val:Int)] 76)).trans ⟨f.os,f.tape,f.output,f.size,fun k hk=>f.block k (i8 hk (by simp;omega)) (fun e=> ?_)⟩
    have:=(d.lt k e.symm).1
    omega
   have C:=H.trans a3
   refine⟨N.cell,N.frozen,⟨F.cell,(C.cell (p:=(ao b)) t).trans z,(C.cell (p:=(af g (x.val*2))) s).trans (Y.out.gn x.val I)⟩,⟨E.cell,(L.cell (p:=(ao b)) t).trans z,(L.cell (p:=(af g (x.val*2))) s).trans (Y.out.gn x.val I)⟩,a7.from _,a6,⟨⟨_,a4,by rw[uj];simpa using a5,trivial⟩,E⟩,L⟩
  have b0:pre.length<1024:=z_
  have b7:=(y.alloc (.cells #[ab x.val,aM (G x.val:Int)] 76)).cell
  have yA: ¬w.heap.size+1=W.heap.size:=by have:=y.lt;omega
  have HA:Hid ((W.alloc (.cells #[ab x.val,aM (G x.val:Int)] 76)).cell? (ao w.heap.size)=some (ak b)/\(W.alloc (.cells #[ab x.val,aM (G x.val:Int)] 76)).cell? (ao b)=some (.slice (some (ao g)) n R)/\(W.alloc (.cells #[ab x.val,aM (G x.val:Int)] 76)).cell? (af g (x.val*2))=some (aM (G x.val:Int))):=
   ⟨(o.alloc _).cell,(World.cell?_alloc_lt _ _ _ y_).trans B,(World.cell?_alloc_lt _ _ _ y_).trans O⟩
  clear y d o H
  gi_wp2
  refine fe (fun U=>U.cell? (ao w.heap.size)=some (ak b)/\U.cell? (ao b)=some (.slice (some (ao g)) n R)/\U.cell? (af g (x.val*2))=some (aM (G x.val:Int))) (by rfl) (by kernel_rfl) (by rintro⟨a,w,h⟩;exact h) ⟨a8,B,O⟩ (fun hHeld=> ?_)
  refine st ?_
  repeat' first
   |refine dn ?_
   |refine tk ?_
   |refine rd ?_
   |exact oA
   |refine oE ?_
   |refine oC ?_ ?_
   | (refine dU 12 (fun K i=> ?_)
      refine dv _ (by rfl) _ _ _ (by rfl) w.heap.size 76 i0 (.agg #[ab 0,aM 0]) 2 16 HU.out hi a2 a1 Z rfl z_ _ _ _ (by rfl) HL.out (ao W.heap.size) 1 1 [ab x.val,aM (G x.val:Int)] (by rfl) rfl HN.out (by simp[Value.oneCell']) (by unfold maxLen;omega) z_ (by simp;omega) ?_
      intro m w1 r A
      obtain⟨g',b4,rfl⟩:=ownsRow_succ r
      have T:=aa (HF.out _ _ r A)
      have b8:=T.out.1
      have b6:=T.out.2.1
      refine i.out _ _ ?_ (fun hHeld=> ?_)
      ·exact T.out.2.2.1
      clear i K
      try simp only[cV])
   | (refine dU _ (fun K i=> ?_)
      go_simp
      refine i.out _ _ ?_ (fun hHeld=> ?_)
      ·omega
      clear i K
      try simp only[cV])
   | (refine dU _ (fun K i=> ?_)
      go_simp
      refine i.out _ _ ?_ (fun hHeld=> ?_)
      ·assumption
      clear i K
      try simp only[cV])
   | (refine dU _ (fun K i=> ?_)
      go_simp
      refine i.out _ _ ?_ (fun hHeld=> ?_)
      ·exact T.out.2.2.2.1
      clear i K
      try simp only[cV])
  all_goals
   refine⟨?_⟩
   gi_wp2
   exact T.out.2.2.2.2
 case done=>
  rintro D ys W hD rfl ⟨⟨⟨v,y,d,_⟩,o⟩,H⟩ i
  have hc:=y.cell
  gi_wp2
  refine⟨q_,.inl ⟨_,_,rfl,run_takeDeferred i,?_⟩⟩
  exact⟨_,results_tmp rfl _ _ _,v,rfl,ownsRow_putObj d _ i rfl,H.trans (belowK_b (w:=w) aT W D _ _ (by simp at hD;omega) i rfl rfl)⟩
 case stop=>
  rintro D c pre W _ _ h _
  exact h.elim
def Hw {w:World} {b g n:Nat} {G S:Nat->Nat} (a:aH w b g n G S):
  aB 78 #[ak b] w fun e W'=> ∃v,e= .returned v/\W'.ownsRow w.heap.size 76 2 v (pl S false n n).length (cN G (pl S false n n))/\aC w W':=
 callsIn_wide.1 (I6 b g n G S w a)
def vv {β:Type} {B b g n:Nat} (G S:β->Nat->Nat) (h:b<B) (f:g<B):OwnFrom B (fun s W=>aH W b g n (G s) (S s)):=fun s W i d c a e=>
 c.kept (a.block b c.cG y_) (a.block g c.dO y_)
def zj {β:Type} {B:Nat} {X:Nat->Prop} {w:World} (g:w.heap.size<=B):OwnFrom B (fun (_:β) W=>Fr X w W):=fun _ W h d b a f=>
 ⟨a.os.trans b.os,a.tape.trans b.tape,a.output.trans b.output,zY0 b.size a.size,fun k c e=>(a.block k (i8 c b.size) y_).trans (b.block k c e)⟩
def qO {X:Nat->Prop} {w W:World} {D:Nat} (b:Obj) (h:Fr X w W) (e:w.heap.size<=D):Fr X w (W.putObj D b):=by
 have a:=grownBy_putObj' W D b
 exact⟨a.os.trans h.os,a.tape.trans h.tape,a.output.trans h.output,zY0 h.size a.size,fun k c d=>(a.block k (i8 c h.size) y_).trans (h.block k c d)⟩
def Kt {W:World} {b g n D:Nat} {G S:Nat->Nat} (c:Obj) (h:aH W b g n G S) (e:b≠D) (d:g≠D):aH (W.putObj D c) b g n G S:=by
 have a:=grownBy_putObj' W D c
 exact h.kept (a.block b h.cG y_) (a.block g h.dO y_)
structure zz (W:World) (s:Nat) (p q e:Int):Prop where
 c0:W.cell? (ao (s+1))=some (ab p)
 c1:W.cell? (af (s+1) 1)=some (aM q)
 c2:W.cell? (ao (s+1+1))=some (ab e)
 f0:W.frozen? (ao (s+1))=false
 f1:W.frozen? (af (s+1) 1)=false
 f2:W.frozen? (ao (s+1+1))=false
theorem zz.kept {W W':World} {row:Option Nat} {s:Nat} {p q e:Int} (h:zz W s p q e) (b:W.grownBy W' row) (a: ∀r,row=some r-> ∃o:Obj,W.heap[r]? =some o/\o.isCells=false):zz W' s p q e:=
 ⟨cell_kept h.c0 b a,cell_kept h.c1 b a,cell_kept h.c2 b a,(frozen_kept h.c0 b a).trans h.f0,(frozen_kept h.c1 b a).trans h.f1,(frozen_kept h.c2 b a).trans h.f2⟩
theorem zz.fM {W:World} {s g o:Nat} {p q e:Int} {v:Value} (h:zz W s p q e) (b:g≠s+1) (a:g≠s+1+1):zz (W.setCell (af g o) v) s p q e:=
 ⟨by grind[Gt.aw,Gt.zz.c0],by grind[Gt.aw,Gt.zz.c1],by grind[Gt.aw,Gt.zz.c2],by rw[World.frozen?_setCell];exact h.f0,by rw[World.frozen?_setCell];exact h.f1,by rw[World.frozen?_setCell];exact h.f2⟩
def zz.store {W:World} {s:Nat} {p q e:Int} (h:zz W s p q e) (b a e':Int):zz (((W.setCell (ao (s+1)) (ab b)).setCell (af (s+1) 1) (aM a)).setCell (ao (s+1+1)) (ab e')) s b a e':=by
 exact mK
def _root_.Go.Proofs.YtnmhcgpnhlhcgaaGreatDoor.Fr.yQ {X:Nat->Prop} {w b:World} (h:Fr X w b) {a:Addr} (e:w.heap.size<=a.block) (u:Value):Fr X w (b.setCell a u):=
 ⟨h.os,h.tape,h.output,by simpa using h.size,fun k d c=>(zZ0 _ _ _ _ z_).trans (h.block k d c)⟩
theorem aH.fM {W:World} {b g n o k:Nat} {G S:Nat->Nat} {v:Value} (h:aH W b g n G S) (c:b≠k) (a:g≠k):aH (W.setCell (af k o) v) b g n G S:=
 mK
def Dr (b g n:Nat) (G S:Nat->Nat) (w:World) (u:aH w b g n G S) (hG: ∀x,x<n->G x+1<4294967296):
  CallsIn Fence.wide 4 Tryz.prog 99 #[ak b] w fun e Y=>
   (∃x:Fin n,[x]<+:pl S true n n/\e=aS #[.agg #[ab x.val,aM ((G x.val+1:Nat):Int)],ab 0]/\aH Y b g n (ay G x.val (G x.val+1)) (ay S x.val 1)/\Fr (fun k=>k=g) w Y)\/
   (pl S true n n=[]/\e=aS #[.agg #[ab 0,aM 0],ab 4]/\aC w Y):=by
 have o:=u.cG
 have I:=u.dO
 have hn:=u.n2
 obtain⟨cp,F⟩:=u.sl
 have HQ:=aa u
 have HG:=aa hG
 clear u hG
 refine callsIn_of_wp_marks Tryz.func99 rfl trivial ?_ rfl
 simp only[Tryz.ntmps99,j_,Nat.reduceAdd,Nat.reduceSub]
 gi_wp2_with (refine⟨trivial,?_⟩;gi_at_call 127;refine(kh _ b true _).mono ?_;rintro e w' ⟨rfl,rfl⟩)
 have bT:=Boxed.new w 92 (ak b)
 obtain⟨W0,j⟩: ∃W0,(((w.alloc (.cells #[ak b] 92)).alloc (.cells #[ab 0,aM 0] 76)).alloc (.cells #[ab 0] 32))=W0:=⟨_,rfl⟩
 have O:W0.heap.size=w.heap.size+1+1+1:=by rw[<-j];simp
 have R:zz W0 w.heap.size 0 0 0:=by
  rw[<-j]
  have E:w.heap.size+1=(w.alloc (.cells #[ak b] 92)).heap.size:=q_
  have C:w.heap.size+1+1=((w.alloc (.cells #[ak b] 92)).alloc (.cells #[ab 0,aM 0] 76)).heap.size:=q_
  have hc: ∀k,(((w.alloc (.cells #[ak b] 92)).alloc (.cells #[ab 0,aM 0] 76)).alloc (.cells #[ab 0] 32)).cell? (af (w.heap.size+1) k)=(#[ab 0,aM 0]:Array Value)[k]? :=by
   intro k
   rw[World.cell?_alloc_lt _ _ _ q_,E,bE]
  have hf: ∀k,(((w.alloc (.cells #[ak b] 92)).alloc (.cells #[ab 0,aM 0] 76)).alloc (.cells #[ab 0] 32)).frozen? (af (w.heap.size+1) k)=false:=by
   intro k
   rw[show(((w.alloc (.cells #[ak b] 92)).alloc (.cells #[ab 0,aM 0] 76)).alloc (.cells #[ab 0] 32)).frozen? (af (w.heap.size+1) k)=((w.alloc (.cells #[ak b] 92)).alloc (.cells #[ab 0,aM 0] 76)).frozen? (af (w.heap.size+1) k) from zV0 (zU0 _ _ _ q_),E]
   simp
  refine⟨y_,y_,by rw[C,bE];rfl,hf 0,hf 1,?_⟩
  rw[C];exact cA _ _ _ _
 have P:Boxed W0 w.heap.size 92 (ak b):=by rw[<-j];exact(bT.alloc _).alloc _
 have L:aC w W0:=by rw[<-j];exact(((i4 _ w).alloc aT _).alloc q_ _).alloc (by simp;omega) _
 rw[j]
 have b1:=Boxed.new W0 92 (ak b)
 have b2:=Boxed.new (W0.alloc (.cells #[ak b] 92)) 4 (.bool true)
 have d:aC w ((W0.alloc (.cells #[ak b] 92)).alloc (.cells #[.bool true] 4)):=(L.alloc z_ _).alloc (by simp;omega) _
 simp only[World.size_alloc,O] at b1 b2|-
 refine wpIn_rangeFunc_ownG rfl x_ (gf:=172) (lb:= #[ak (w.heap.size+1+1+1),ak (w.heap.size+1+1+1+1)]) rfl trivial (enters_of Tryz.func172 (by rfl) rfl)
  (gE 3 x_ (w.heap.size+1+1+1) (w.heap.size+1+1+1+1) w.heap.size b g n cp G S true _ (b1.alloc _) b2 ((d.cell (p:=(ao b)) o).trans F) (HQ.out.reads.below d I) hn o I d.size) wC (EI d.size) cj (fun _=>rfl)
  (fun (pre:List (Fin n)) W=>((pre=[]/\zz W w.heap.size 0 0 0)/\Boxed W w.heap.size 92 (ak b))/\aC w W)
  (fun c (pre:List (Fin n)) W=> ∃x:Fin n,(c= .ret/\pre=[x])/\zz W w.heap.size (x.val:Int) ((G x.val+1:Nat):Int) 0/\aH W b g n (ay G x.val (G x.val+1)) (ay S x.val 1)/\Fr (fun k=>k=g) w W)
  (OwnFrom.and (OwnFrom.and (fun _ _ _ _ M J H=>⟨M.1,M.2.kept J (fun r e=>(H r e).2)⟩) (Own.from (boxed_own w.heap.size 92 (fun _:List (Fin n)=>ak b)) _)) (ownFrom_below aT d.size))
  (fun _ _ _ _ _ M J H=>by
   obtain⟨x,h1,h2,h3,h4⟩:=M
   exact⟨x,h1,h2.kept J (fun r e=>(H r e).2),vv (β:=Unit) (B:=((W0.alloc (.cells #[ak b] 92)).alloc (.cells #[.bool true] 4)).heap.size) (fun _=>ay G x.val (G x.val+1)) (fun _=>ay S x.val 1) (by simp;omega) (by simp;omega) () _ _ _ h3 J H,zj (β:=Unit) (X:=fun k=>k=g) (B:=((W0.alloc (.cells #[ak b] 92)).alloc (.cells #[.bool true] 4)).heap.size) (w:=w) d.size () _ _ _ h4 J H⟩)
  ⟨⟨⟨rfl,(R.kept (World.grownBy_alloc W0 _ none) (fun r e=>by cases e)).kept (World.grownBy_alloc _ _ none) (fun r e=>by cases e)⟩,(P.alloc _).alloc _⟩,d⟩
  (fun x=>{tmps:= #[ak b,ak w.heap.size,ak (w.heap.size+1),ak (w.heap.size+1+1),ab x.val,undef,ak b,.bool false,undef,ak b,.func (.func 172) #[] #[ak (w.heap.size+1+1+1),ak (w.heap.size+1+1+1+1)],ab x.val,undef,undef,undef,undef,undef,undef,undef,undef,undef,undef,undef,undef,undef,undef,undef,undef,undef,undef,undef,undef,undef],defers:=[]}) ?assign ?body ?done ?stop
 case assign=>
  intro l x W K v
  gi_wp2
  exact v
 case body=>
  rintro l pre x W ⟨⟨⟨h,t⟩,q⟩,y⟩ a9
  subst h
  have b5:=q.cell
  have i:=x.isLt
  have a8:=HG.out x.val i
  have a6:=(y.cell (p:=(ao b)) o).trans F
  have m:=HQ.out.below y
  have b3:=m.gn x.val i
  have b0:=m.st x.val i
  have b4:=m.fg
  have HA:=aa t
  obtain⟨a0,a1,a2,a3,a4,a5⟩:=t
  have a7: ¬g=w.heap.size:=z_
  have A: ¬g=w.heap.size+1:=z_
  have z: ¬g=w.heap.size+1+1:=z_
  have yb:=m.bg
  have HB:=aa y
  have Z:=aa m
  clear y m q HG
  gi_wp2
  have e:((G x.val:Int)+1)=((G x.val+1:Nat):Int):=z_
  rw[e]
  refine⟨(((((yX0 _ _ _).trans (yX0 _ _ _)).trans (yX0 _ _ _)).trans (yX0 _ _ _)).trans (yX0 _ _ _)).from _,x,⟨rfl,rfl⟩,((HA.out.fM A z).fM A z).store _ _ _,?_,?_⟩
  ·exact(((((Z.out.Po x.val i _).kO x.val i 1).fM z_ z_).fM z_ z_).fM z_ z_)
  ·exact(((((Fr.aF (S:=fun k=>k=g) HB.out).setCell (a:=(af g (x.val*2))) rfl _).setCell (a:=(af g (x.val*2+1))) rfl _).yQ (a:=(ao (w.heap.size+1))) q_ _).yQ (a:=(af (w.heap.size+1) 1)) q_ _).yQ (a:=(ao (w.heap.size+1+1))) y_ _
 case done=>
  rintro D ys W Q rfl ⟨⟨⟨h,t⟩,q⟩,y⟩ v
  have HA:=aa t
  obtain⟨a0,a1,a2,a3,a4,a5⟩:=t
  have HP:=aa h
  clear h
  gi_wp2
  have s:=(((yX0 W (ao (w.heap.size+1)) (ab 0)).trans (yX0 _ (af (w.heap.size+1) 1) (aM 0))).trans (yX0 _ (ao (w.heap.size+1+1)) (ab 4))).same D _ v rfl
  refine⟨q_,.inl ⟨_,_,rfl,run_takeDeferred s,?_⟩⟩
  have f:=(HA.out.store 0 0 4).kept (grownBy_putObj' _ D (.deferred none)) (fun r e=>by cases e;exact⟨_,s,rfl⟩)
  have V:=f.c0
  have U:=f.c1
  have T:=f.c2
  refine⟨.tuple #[.agg #[ab 0,aM 0],ab 4],?_,.inr ⟨HP.out,rfl,((((y.setCell (p:=(ao (w.heap.size+1))) q_ _).setCell (p:=(af (w.heap.size+1) 1)) q_ _).setCell (p:=(ao (w.heap.size+1+1))) y_ _).trans (belowK_b (w:=w) aT _ D _ _ (by simp at Q;omega) s rfl rfl))⟩⟩
  simp[results,Tryz.f99,go_sem,V,U,T]
 case stop=>
  rintro D c pre W Q N ⟨x,⟨rfl,rfl⟩,t,m,hF⟩ v
  have b6:w.heap.size+1+1+1<=D:=by simp at Q;omega
  gi_wp2
  refine⟨q_,.inl ⟨_,_,rfl,run_takeDeferred v,?_⟩⟩
  have f:=t.kept (grownBy_putObj' _ D (.deferred none)) (fun r e=>by cases e;exact⟨_,v,rfl⟩)
  have V:=f.c0
  have U:=f.c1
  have T:=f.c2
  refine⟨.tuple #[.agg #[ab x.val,aM ((G x.val+1:Nat):Int)],ab 0],?_,.inl ⟨x,N,rfl,Kt _ m z_ z_,qO _ hF z_⟩⟩
  simp[results,Tryz.f99,go_sem,V,U,T]
end Go.Proofs.YtnmhcgpnhlhcgaaGreatDoor.Gt
namespace Go.Proofs.YtnmhcgpnhlhcgaaGreatDoor.Gt
open Go.RowKit Go.Lib Go.Deep Go.ChangeShapes Go.WideShapes
theorem PE : Tryz.prog.globalNamed "boatswain/gtab.follows" = some 0 := by rfl
theorem Gr:(Tryz.prog.globals[0]?).map (·.type)=some 297:=by rfl
theorem cellsIn:Tryz.prog.cellsOf 296=5:=by rfl
theorem BH:Tryz.prog.cellsOf 4=1:=by rfl
theorem Ia {H:Type}:(Rows.laid_boatswain_gtab_follows:DataW H)= .agg ((List.range 5).map fun i=> .agg ((List.range 5).map fun j=> .lit (.bool (Nx i j)))):=rfl
def vm {W : World} (h : laidMetH Tryz.prog [("boatswain/gtab.follows", Rows.laid_boatswain_gtab_follows)] W) : pv W := by
 have E : laidMet Tryz.prog [("boatswain/gtab.follows", Rows.laid_boatswain_gtab_follows)] W := h
 obtain⟨H,⟨L,G,F,x,p,q,o,l,u,C,_,_⟩,_⟩:=E
 obtain rfl:=Option.some.inj (PE.symm.trans o)
 obtain rfl:=Option.some.inj (Gr.symm.trans l)
 obtain⟨d,m,_,t,_,v,r⟩:=DataW.trod_array mK C
 simp only[Prod.mk.injEq] at t
 have a:=t.1
 rw[Ia] at a
 simp only[DataW.agg.injEq] at a
 intro i j hi w
 obtain⟨xi,k⟩: ∃xi,d[i]? =some xi:=⟨d[i]' z_,zX0 z_⟩
 have z:=r i hi
 rw[k,cellsIn] at z
 obtain⟨c,I,_,B,_,n,b⟩:=DataW.trod_array mK z
 obtain⟨yj,g⟩: ∃yj,c[j]? =some yj:=⟨c[j]' z_,zX0 z_⟩
 have y:=b j w
 rw[g,BH] at y
 obtain⟨bb,D,f⟩:=DataW.trod_bool mK y
 have A:(d.map (·.1))[i]? =some xi.1:=y_
 rw[<-a] at A
 have e:xi.1= .agg ((List.range 5).map fun j=> .lit (.bool (Nx i j))):=by
  grind
 rw[B] at e
 simp only[DataW.agg.injEq] at e
 have s:(c.map (·.1))[j]? =some yj.1:=y_
 rw[e,List.getElem?_map,List.getElem?_range w,f] at s
 simp only[Option.map_some,Option.some.injEq,DataW.lit.injEq,Lit.bool.injEq] at s
 have J:F.toList[i*5+j]? =some (.bool bb):=by
  have:=congrArg (·[0]?) D
  grind
 grind[World.var?_cell]
section
variable {H:Type} {enc:TypeId×Value->H} {w:World} {b:Nat} {a:Nat->Bool} {c:Bool}
end
end Go.Proofs.YtnmhcgpnhlhcgaaGreatDoor.Gt
