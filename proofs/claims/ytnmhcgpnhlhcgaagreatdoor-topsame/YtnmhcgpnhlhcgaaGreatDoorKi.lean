/- YtnmhcgpnhlhcgaaGreatDoorKi: of the texts I1 I2 I3 I4 I5 I6 I7 I8 I9 I10 I11 I12 I13 I14 I15 I16 what is wanted. -/
import Derived.Test.YtnmhcgpnhlhcgaaGreatDoorK0
import Derived.Test.YtnmhcgpnhlhcgaaGreatDoorKa
import Derived.Laws.OwnMore
import Derived.Maps.AppendAt
import Derived.Deep.AppendLies
import Derived.OneCell
import Derived.OwnWalk
import Derived.Laws.MakeOwn
import Derived.RangeFuncNested
import Derived.RangeFuncBound
import Derived.RangeFuncCalls
import Derived.RangeFuncLeaves
import Derived.RangeFuncBox
import Derived.Shelf.Abstract
import Derived.Shelf.RegionOpen
import Derived.WalkKit
import Derived.OwnWalkIn
import Derived.TacticsInMore
import Derived.LoopNIn
import Derived.LoopIn
set_option maxHeartbeats 16000000
set_option maxRecDepth 100000
set_option linter.unusedVariables false
set_option linter.defProp false
set_option linter.unusedSimpArgs false
namespace Go.Proofs.YtnmhcgpnhlhcgaaGreatDoor.Pi
open Go.Proofs.YtnmhcgpnhlhcgaaGreatDoor.Ke
open Go.Lib
open Go.RowKit
section
variable {S b:Nat->Prop} {w c a:World}
end
structure Th where
 k:K
 u:Int
structure Lk where
 h:Int
 l:List Nat
def Th.ok (n:Nat) (x:Th):Prop:=x.k.ok/\ -1<=x.u/\x.u<n
def Lk.ok (n:Nat) (x:Lk):Prop:= -1<=x.h/\x.h<n/\(∀t∈x.l,t<n)/\x.l.Nodup/\(x.l≠[]->0<=x.h)
def Edge (L:List Lk) (t s:Nat):Prop:= ∃y∈L,t∈y.l/\y.h=(s:Int)
def lh (L:List Lk):Prop:= ∃(B:Nat) (r:Nat->Nat),(∀x,r x<=B)/\ ∀t s,Edge L t s->r t<r s
structure dI (T:List Th) (L:List Lk):Prop where
 t1:1<=T.length
 t2:T.length<=1024
 l2:L.length<=32
 th: ∀x∈T,x.ok L.length
 lk: ∀y∈L,y.ok T.length
 wt: ∀(t:Nat) x,T[t]? =some x-> ∀(m:Nat) y,L[m]? =some y->(t∈y.l↔x.u=(m:Int))
 ac:lh L
def behind (L:List Lk) (t:Nat):List Nat:=(L.filter (fun y=>y.h==(t:Int))).flatMap (·.l)
def jh {L:List Lk} {t s:Nat}:s∈behind L t↔Edge L s t:=by
 unfold behind Edge
 grind
def oQ (T:List Th) (t:Nat):K:=(T[t]?.map (·.k)).getD (bP 0)
def kf (T:List Th) (L:List Lk):Nat->Nat->K
 |0,t=>oQ T t
 |n+1,t=>(behind L t).foldl (fun k x=>ir k (kf T L n x)) (oQ T t)
def lD {α β:Type} {f g:β->α->β}: ∀(l:List α) (b:β),(∀x∈l,∀b,f b x=g b x)->l.foldl f b=l.foldl g b
 |[],b,_=>rfl
 |x::l,b,h=>by
  rw[List.foldl_cons,List.foldl_cons,h x q_]
  exact lD l _ y_
def vz {T:List Th} {L:List Lk} {r:Nat->Nat} (h: ∀t s,Edge L t s->r t<r s): ∀(n:Nat) (t:Nat),r t<=n-> ∀m,r t<=m->kf T L n t=kf T L m t:=by
 intro n
 induction n with
 |zero=>
  intro t c m _
  cases m with
  |zero=>rfl
  |succ m=>
   have e:behind L t=[]:=by
    rw[List.eq_nil_iff_forall_not_mem]
    intro x a
    have:=h x t (jh.1 a)
    omega
   unfold kf
   grind
 |succ n d=>
  intro t c m f
  cases m with
  |zero=>
   grind
  |succ m=>
   show(behind L t).foldl (fun k x=>ir k (kf T L n x)) (oQ T t)=(behind L t).foldl (fun k x=>ir k (kf T L m x)) (oQ T t)
   refine lD _ _ ?_
   intro x a b
   have:=h x t (jh.1 a)
   grind
open Classical in
noncomputable def keyOf (T:List Th) (L:List Lk) (t:Nat):K:=if h:lh L then kf T L h.choose t else bP 0
theorem D8 {T:List Th} {L:List Lk} (h:lh L) (t:Nat):keyOf T L t=(behind L t).foldl (fun k x=>ir k (keyOf T L x)) (oQ T t):=by
 obtain⟨r,b,a⟩:=h.choose_spec
 unfold keyOf
 simp only[h,dite_true]
 rw[vz a h.choose t (b t) (h.choose+1) y_]
 rfl
inductive fw (L:List Lk):Nat->Nat->Prop
 |here (t):fw L t t
 |on {t s v}:Edge L t s->fw L s v->fw L t v
def fw.snoc {L:List Lk} {t s v:Nat} (h:fw L t s) (e:Edge L s v):fw L t v:=by
 induction h with
 |here t=>exact .on e (.here _)
 |on b _ a=>exact .on b (a e)
open Classical in
theorem lh.more {L L':List Lk} {t s:Nat} (h:lh L) (f: ¬fw L s t) (g: ∀a b,Edge L' a b->Edge L a b\/a=t/\b=s):lh L':=by
 obtain⟨B,r,i,d⟩:=h
 refine⟨B+B+1,fun x=>if fw L s x then r x+r t+1 else r x,fun x=> ?_,fun a b e=> ?_⟩
 ·grind
 ·show(if fw L s a then r a+r t+1 else r a)<(if fw L s b then r b+r t+1 else r b)
  rcases g a b e with q|⟨rfl,rfl⟩
  ·have j:=d a b q
   by_cases c:fw L s a
   ·rw[if_pos c,if_pos (c.snoc q)]
    omega
   grind
  ·rw[if_neg f,if_pos (.here _)]
   omega
def lh.less {L L':List Lk} (h:lh L) (f: ∀a b,Edge L' a b->Edge L a b):lh L':=by
 obtain⟨B,r,c,d⟩:=h
 exact⟨B,r,c,fun a b e=>y_⟩
def M0 (x:Th):List Value:=[.bool x.k.e,aj x.k.d,aA x.k.l,ab x.u]
def dD (T:List Th):List Value:=T.flatMap M0
theorem di (x:Th) (T:List Th):dD (x::T)=M0 x++dD T:=rfl
def kT: ∀T,(dD T).length=T.length*4
 |[]=>rfl
 |x::T=>by rw[di];simp[M0,kT T];omega
def iR: ∀(T:List Th) (i:Nat) (x:Th),T[i]? =some x->(dD T)[i*4]? =some (.bool x.k.e)/\(dD T)[i*4+1]? =some (aj x.k.d)/\(dD T)[i*4+2]? =some (aA x.k.l)/\(dD T)[i*4+3]? =some (ab x.u)
 |[],i,x,h=>by simp at h
 |y::T,0,x,h=>by
  simp at h
  subst h
  exact⟨rfl,rfl,rfl,rfl⟩
 |y::T,i+1,x,h=>by
  have:=iR T i x y_
  rw[di,show(i+1)*4=i*4+4 by omega]
  exact this
def qM: ∀(T:List Th) (i:Nat) (x:Th),i<T.length->dD (T.set i x)=((((dD T).set (i*4) (.bool x.k.e)).set (i*4+1) (aj x.k.d)).set (i*4+2) (aA x.k.l)).set (i*4+3) (ab x.u)
 |[],i,x,h=>by simp at h
 |y::T,0,x,h=>by rfl
 |y::T,i+1,x,h=>by
  have:=qM T i x y_
  rw[List.set_cons_succ,di,this,di,show(i+1)*4=i*4+4 by omega]
  rfl
def eP (Z:List (Int×Value)):List Value:=Z.flatMap (fun z=>[ab z.1,z.2])
theorem fS (z:Int×Value) (Z:List (Int×Value)):eP (z::Z)=[ab z.1,z.2]++eP Z:=rfl
def gR: ∀(Z:List (Int×Value)) (i:Nat) (z:Int×Value),Z[i]? =some z->(eP Z)[i*2]? =some (ab z.1)/\(eP Z)[i*2+1]? =some z.2
 |[],i,x,h=>by simp at h
 |y::Z,0,x,h=>by
  simp at h
  subst h
  exact⟨rfl,rfl⟩
 |y::Z,i+1,x,h=>by
  have:=gR Z i x y_
  grind[Pi.fS]
def qk: ∀(Z:List (Int×Value)) (i:Nat) (z:Int×Value),i<Z.length->eP (Z.set i z)=((eP Z).set (i*2) (ab z.1)).set (i*2+1) z.2
 |[],i,x,h=>by simp at h
 |y::Z,0,x,h=>by rfl
 |y::Z,i+1,x,h=>by
  have:=qk Z i x y_
  grind[Pi.fS]
def ints (l:List Nat):List Value:=l.map (fun (t:Nat)=>ab t)
structure dj (w:World) (base s:Nat) (vt vl:Value) (V:List Value) (T:List Th) (L:List Lk):Prop where
 blk:w.heap[s]? =some (.cells #[vt,vl] 159 (0,0))
 lo:base<=s
 tho:w.ownsRow base 162 4 vt T.length (dD T)
 lko:w.ownsRow base 164 2 vl L.length (eP ((L.map (·.h)).zip V))
 vs:V.length=L.length
 lin: ∀(j:Nat) y v,L[j]? =some y->V[j]? =some v->w.ownsRow base 3 1 v y.l.length (ints y.l)
 apart: ∀(i j:Nat) u v k,V[i]? =some u->V[j]? =some v->u.ownBlock=some k->v.ownBlock=some k->i=j
 bs:base<=w.heap.size
 f:dI T L
def own (s:Nat) (a b:Value) (V:List Value) (k:Nat):Prop:=k=s\/a.ownBlock=some k\/b.ownBlock=some k\/ ∃v∈V,v.ownBlock=some k
section
variable {w w':World} {base s:Nat} {vt vl:Value} {V:List Value} {T:List Th} {L:List Lk}
theorem dj.lt (h:dj w base s vt vl V T L):s<w.heap.size:=(zW0.1 h.blk).1
def dj.Dp (h:dj w base s vt vl V T L) {k:Nat} (d:own s vt vl V k):k<w.heap.size:=by
 rcases d with rfl|q|q|⟨v,c,q⟩
 ·exact h.lt
 ·exact(au h.tho q).2.1
 ·exact(au h.lko q).2.1
 ·obtain⟨j,b⟩:=List.mem_iff_getElem?.1 c
  have a:=(i6.1 b).1
  rw[h.vs] at a
  exact(au (h.lin j _ v (zX0 a) b) q).2.1
theorem dj.kept (h:dj w base s vt vl V T L) (e:w.heap.size<=w'.heap.size) (b: ∀k,own s vt vl V k->w'.heap[k]? =w.heap[k]?):dj w' base s vt vl V T L:=
 ⟨(b s (.inl rfl)).trans h.blk,h.lo,aO h.tho (fun k a=>b k (.inr (.inl a))),aO h.lko (fun k a=>b k (.inr (.inr (.inl a)))),h.vs,
  fun j y v d c=>aO (h.lin j y v d c) (fun k a=>b k (.inr (.inr (.inr ⟨v,i9 c,a⟩)))),h.apart,zY0 h.bs e,h.f⟩
def dj.frame {S:Nat->Prop} (h:dj w base s vt vl V T L) (b:Fr S w w') (c: ∀k,own s vt vl V k-> ¬S k):dj w' base s vt vl V T L:=
 h.kept b.size (fun k a=>b.block k (h.Dp a) (c k a))
def dj.below (h:dj w base s vt vl V T L) (a:aC w w'):dj w' base s vt vl V T L:=
 h.frame (Fr.aF (S:=fun _=>False) a) (fun _ _=>id)
theorem dj.c0 (h:dj w base s vt vl V T L):w.cell? (ao s)=some vt:=by unfold World.cell?;simp[h.blk]
theorem dj.c1 (h:dj w base s vt vl V T L):w.cell? (af s 1)=some vl:=by unfold World.cell?;simp[h.blk]
def fo {e:TypeId} {c n:Nat} {v:Value} {d:List Value} (h:w.ownsRow base e c v n d): ∃a b,v= .slice a n b/\n<=b/\b<=maxLen:=by
 rcases h.2 with ⟨e,k⟩|⟨g,b,f,e,_,_,j,i,_⟩
 ·grind
 grind
def dj.rJ (h:dj w base s vt vl V T L): ∃g b,vt= .slice (some (ao g)) T.length b/\T.length<=b/\b<=maxLen/\g<w.heap.size/\g≠s/\(∀k,w.frozen? (af g k)=false)/\
  (∀j x,T[j]? =some x->w.cell? (af g (j*4))=some (.bool x.k.e)/\w.cell? (af g (j*4+1))=some (aj x.k.d)/\w.cell? (af g (j*4+2))=some (aA x.k.l)/\w.cell? (af g (j*4+3))=some (ab x.u)):=by
 have r:=h.f.t1
 have a:=h.tho
 rcases h.tho.2 with ⟨e,v⟩|⟨g,b,p,e,t,i,o,n,_⟩
 ·omega
 ·subst e
  refine⟨g,b,rfl,o,n,(zW0.1 i).1,fun q=> ?_,dP a,fun j x c=> ?_⟩
  ·subst q
   rw[h.blk] at i
   grind
  ·have m:=(i6.1 c).1
   rw[a.cellAt (j*4) z_,a.cellAt (j*4+1) z_,a.cellAt (j*4+2) z_,a.cellAt (j*4+3) z_]
   exact iR T j x c
def dj.kR (h:dj w base s vt vl V T L) (o:0<L.length): ∃g b,vl= .slice (some (ao g)) L.length b/\L.length<=b/\b<=maxLen/\g<w.heap.size/\g≠s/\(∀k,w.frozen? (af g k)=false)/\
  (∀(j:Nat) y v,L[j]? =some y->V[j]? =some v->w.cell? (af g (j*2))=some (ab y.h)/\w.cell? (af g (j*2+1))=some v):=by
 have a:=h.lko
 rcases h.lko.2 with ⟨e,r⟩|⟨g,b,m,e,p,c,l,i,_⟩
 ·omega
 ·subst e
  refine⟨g,b,rfl,l,i,(zW0.1 c).1,fun q=> ?_,dP a,fun j y v f n=> ?_⟩
  ·subst q
   rw[h.blk] at c
   grind
  ·have d:=(i6.1 f).1
   rw[a.cellAt (j*2) z_,a.cellAt (j*2+1) z_]
   have e:((L.map (·.h)).zip V)[j]? =some (y.h,v):=y_
   exact gR _ j (y.h,v) e
end
def oR (T:List Th) (t:Int):Bool:=decide (0<=t/\t<(T.length:Int))
def uR (L:List Lk) (m:Int):Bool:=decide (0<=m/\m<(L.length:Int))
def Ac (L:List Lk) (m:Int):Int:=if uR L m then((L[m.toNat]?).map (·.h)).getD (-1) else-1
def tQ (T:List Th) (t:Int):Int:=if oR T t then((T[t.toNat]?).map (·.u)).getD (-1) else-1
def eo (T:List Th) (L:List Lk) (t m:Int):Int:=if oR T t&&uR L m then if tQ T t= -1 then 0 else 11 else 2
section
variable {w:World} {a s:Nat} {b c:Value} {V:List Value} {T:List Th} {L:List Lk}
def mI (h:dj w a s b c V T L) (t:Int):vS 128 #[ak s,ab t] w (.bool (oR T t)):=by
 obtain⟨d,e,rfl,_,_⟩:=fo h.tho
 have g:=h.c0
 clear h
 unfold oR
 by_cases f:0<=t
 ·refine ge ?_
  go_wp2
  go_ret
  simp_all
 ·refine ge ?_
  go_wp2
  go_ret
  exact⟨by simp;omega,rfl⟩
def JY (h:dj w a s b c V T L) (t:Int):vS 220 #[ak s,ab t] w (.bool (uR L t)):=by
 obtain⟨d,e,rfl,_,_⟩:=fo h.lko
 have g:=h.c1
 clear h
 unfold uR
 by_cases f:0<=t
 ·refine ge ?_
  go_wp2
  go_ret
  simp_all
 ·refine ge ?_
  go_wp2
  go_ret
  exact⟨by simp;omega,rfl⟩
theorem o7 {t:Int} (h:oR T t=true): ∃(k:Nat) (x:Th),t=k/\k<T.length/\T[k]? =some x/\tQ T t=x.u:=by
 have e:=h
 unfold oR at e
 simp only[decide_eq_true_eq] at e
 obtain⟨k,rfl⟩: ∃k:Nat,t=k:=⟨t.toNat,z_⟩
 have d:k<T.length:=z_
 refine⟨k,T[k],rfl,d,zX0 d,?_⟩
 unfold tQ
 grind
def JK {m:Int} (h:uR L m=true): ∃(k:Nat) (y:Lk),m=k/\k<L.length/\L[k]? =some y/\Ac L m=y.h:=by
 have e:=h
 unfold uR at e
 simp only[decide_eq_true_eq] at e
 obtain⟨k,rfl⟩: ∃k:Nat,m=k:=⟨m.toNat,z_⟩
 have d:k<L.length:=z_
 refine⟨k,L[k],rfl,d,zX0 d,?_⟩
 unfold Ac
 grind
def dj.line (h:dj w a s b c V T L) {k:Nat} (d:k<L.length): ∃v,V[k]? =some v:=⟨_,zX0 (by rw[h.vs];exact d)⟩
theorem df (h:dj w a s b c V T L) (t m:Int):vS 191 #[ak s,ab t,ab m] w (ab (eo T L t m)):=by
 have f:=aa (mI h t)
 have HL:=aa (JY h m)
 cases d:oR T t with
 |false=>
  rw[d] at f
  have e:eo T L t m=2:=by unfold eo;grind
  rw[e]
  clear h d e
  refine ge ?_
  go_wp2_with (go_at_call 128;refine cS f.out ?_)
  go_ret
  simp
 |true=>
  rw[d] at f
  cases i:uR L m with
  |false=>
   rw[i] at HL
   have e:eo T L t m=2:=by unfold eo;grind
   rw[e]
   clear h d i e
   refine ge ?_
   go_wp2_with (first
    |(go_at_call 128;refine cS f.out ?_)
    |(go_at_call 220;refine cS HL.out ?_))
   go_ret
   simp
  |true=>
   rw[i] at HL
   obtain⟨k,y,rfl,D,n,e⟩:=o7 d
   obtain⟨g,v,rfl,r,q,E,p,_,l⟩:=h.rJ
   obtain⟨B,A,z,x⟩:=l k y n
   have F:=h.c0
   have o:(k:Int)<T.length:=z_
   by_cases C:y.u= -1
   ·have j:eo T L (k:Int) m=0:=by unfold eo;grind
    rw[j]
    clear h l d i e j
    refine ge ?_
    go_wp2_with (first
     |(go_at_call 128;refine cS f.out ?_)
     |(go_at_call 220;refine cS HL.out ?_))
    go_ret
    simp
   ·have j:eo T L (k:Int) m=11:=by unfold eo;grind
    rw[j]
    clear h l d i e j
    refine ge ?_
    go_wp2_with (first
     |(go_at_call 128;refine cS f.out ?_)
     |(go_at_call 220;refine cS HL.out ?_))
    go_ret
    simp
end
def eO:Value:= .agg #[.bool false,aj 0,aA 0,ab 0]
def py:Value:= .agg #[ab 0,.slice none 0 0]
def nE (n:Nat):Array Value:=madeCells eO.cells (n*4)
def nP (n:Nat):Array Value:=madeCells py.cells (n*2)
theorem yq:(Tryz.prog.info? 162).map (fun i=>(i.zero,i.size,i.bytes))=some (some eO,4,32):=by rfl
theorem MT:(Tryz.prog.info? 164).map (fun i=>(i.zero,i.size,i.bytes))=some (some py,2,32):=by rfl
def DU (w:World) (l:Int):aB 68 #[aA l] w fun e a=>e= .returned (.agg #[.bool false,aj 0,aA l])/\ ∃c,a=w.alloc (.cells c 120):=by
 refine ge ?_
 go_wp2
 simp[bodyPost,results,Tryz.results68,go_sem]
 grind
def vN (n j:Nat):List Th:=List.replicate j ⟨bP 0,-1⟩++List.replicate (n-j) ⟨bP 0,0⟩
def xa (n j:Nat):List (Int×Value):=List.replicate j (-1,.slice none 0 0)++List.replicate (n-j) (0,.slice none 0 0)
def Ak {α:Type} (a b:α) (n j:Nat) (h:j<n):(List.replicate j a++List.replicate (n-j) b).set j a=List.replicate (j+1) a++List.replicate (n-(j+1)) b:=by
 rw[List.set_append_right _ _ q_,List.length_replicate,Nat.sub_self,show n-j=(n-(j+1))+1 by omega,List.replicate_succ,List.set_cons_zero,List.replicate_succ',List.append_assoc]
 rfl
def A7 (n j:Nat) (h:j<n):(vN n j).set j ⟨bP 0,-1⟩=vN n (j+1):=Ak _ _ n j h
def zV (n j:Nat) (h:j<n):(xa n j).set j (-1,.slice none 0 0)=xa n (j+1):=Ak _ _ n j h
def uc (n j:Nat) (h:j<=n):(vN n j).length=n:=by simp[vN];omega
def tC (n j:Nat) (h:j<=n):(xa n j).length=n:=by simp[xa];omega
def H8 (n:Nat):vN n n=List.replicate n ⟨bP 0,-1⟩:=by simp[vN]
def Ji (n:Nat):xa n n=List.replicate n (-1,.slice none 0 0):=by simp[xa]
def tW (z:Array Value) (N k:Nat) (h:k<N):(madeCells z N).toList[k]? =some (z[k%z.size]!):=by
 simp[madeCells,h]
def Bj (z:Array Value) (N k:Nat) (h: ¬k<N):(madeCells z N).toList[k]? =none:=by
 rw[List.getElem?_eq_none_iff]
 simp[madeCells]
 omega
def AO (n:Nat):(madeCells eO.cells (n*4)).toList=dD (vN n 0):=by
 apply List.ext_getElem?
 intro i
 by_cases h:i<n*4
 ·rw[tW _ _ _ h]
  obtain⟨q,r,rfl,j⟩: ∃q r,i=q*4+r/\r<4:=⟨i/4,i%4,z_,z_⟩
  have g:q<n:=z_
  have f:(vN n 0)[q]? =some ⟨bP 0,0⟩:=by simp[vN,g]
  obtain⟨d,c,b,a⟩:=iR _ q _ f
  have e:eO.cells.size=4:=rfl
  rw[e,show(q*4+r)%4=r by omega]
  rcases(by omega:r=0\/r=1\/r=2\/r=3) with rfl|rfl|rfl|rfl
  ·exact d.symm
  ·exact c.symm
  ·exact b.symm
  ·exact a.symm
 ·rw[Bj _ _ _ h,eq_comm,List.getElem?_eq_none_iff,kT,uc n 0 z_]
  omega
def kY: ∀Z,(eP Z).length=Z.length*2
 |[]=>rfl
 |z::Z=>by rw[fS];simp[kY Z];omega
def Bp (n:Nat):(madeCells py.cells (n*2)).toList=eP (xa n 0):=by
 apply List.ext_getElem?
 intro i
 by_cases h:i<n*2
 ·rw[tW _ _ _ h]
  obtain⟨q,r,rfl,f⟩: ∃q r,i=q*2+r/\r<2:=⟨i/2,i%2,z_,z_⟩
  have d:q<n:=z_
  have c:(xa n 0)[q]? =some (0,.slice none 0 0):=by simp[xa,d]
  obtain⟨b,a⟩:=gR _ q _ c
  have e:py.cells.size=2:=rfl
  rw[e,show(q*2+r)%2=r by omega]
  rcases(by omega:r=0\/r=1) with rfl|rfl
  ·exact b.symm
  ·exact a.symm
 ·rw[Bj _ _ _ h,eq_comm,List.getElem?_eq_none_iff,kY,tC n 0 z_]
  omega
def kJ (w:World) (b g n a:Nat) (e:TypeId) (z:Array Value) (f:b<=w.heap.size) (d:b<=g) (h:w.heap[g]? =some (.cells (madeCells z (n*a)) e (0,0))) (c:n<=maxLen):
  w.ownsRow b e a (.slice (some (ao g)) n n) n (madeCells z (n*a)).toList:=
 ⟨by simp[size_madeCells],.inr ⟨g,n,_,rfl,d,h,aT,c,by simp[size_madeCells],by grind[List.take_of_length_le,size_madeCells]⟩⟩
structure bW (w wr:World) (s gt gl n m:Nat) (T:List Th) (Z:List (Int×Value)):Prop where
 blk:wr.heap[s]? =some (.cells #[.slice (some (ao gt)) n n,.slice (some (ao gl)) m m] 159 (0,0))
 lo:w.heap.size<=s
 tho:wr.ownsRow w.heap.size 162 4 (.slice (some (ao gt)) n n) n (dD T)
 lko:wr.ownsRow w.heap.size 164 2 (.slice (some (ao gl)) m m) m (eP Z)
 tl:T.length=n
 zl:Z.length=m
 be:aC w wr
section
variable {w wr b:World} {s a gl n m:Nat} {T:List Th} {Z:List (Int×Value)}
theorem jb (w:World) (o:Obj):(w.alloc o).heap[w.heap.size]? =some o:=by
 show(w.heap.push o)[w.heap.size]? =some o
 simp
def Ow (w:World) (n m:Nat) (c:n<=maxLen) (d:m<=maxLen):bW w (((w.alloc (.cells (nE n) 162)).alloc (.cells (nP m) 164)).alloc (.cells #[.slice (some (ao w.heap.size)) n n,.slice (some (ao (w.heap.size+1))) m m] 159)) (w.heap.size+1+1) w.heap.size (w.heap.size+1) n m (vN n 0) (xa m 0):=by
 have e:(w.alloc (.cells (nE n) 162)).heap.size=w.heap.size+1:=q_
 have f:((w.alloc (.cells (nE n) 162)).alloc (.cells (nP m) 164)).heap.size=w.heap.size+1+1:=q_
 refine⟨?_,z_,?_,?_,uc _ _ z_,tC _ _ z_,(bq.alloc z_ _).alloc z_ _⟩
 ·grind[Pi.jb]
 ·rw[<-AO]
  refine kJ _ _ _ _ _ _ _ (by simp;omega) aT ?_ c
  rw[zU0 _ _ _ z_,zU0 _ _ _ z_]
  exact jb _ _
 ·rw[<-Bp]
  refine kJ _ _ _ _ _ _ _ (by simp;omega) z_ ?_ d
  rw[zU0 _ _ _ z_,<-e]
  exact jb _ _
def Ob (w:World) (n m:Nat) (c:n<=maxLen) (d:m<=maxLen):bW w (((w.alloc (.cells (nP m) 164)).alloc (.cells (nE n) 162)).alloc (.cells #[.slice (some (ao (w.heap.size+1))) n n,.slice (some (ao w.heap.size)) m m] 159)) (w.heap.size+1+1) (w.heap.size+1) w.heap.size n m (vN n 0) (xa m 0):=by
 have e:(w.alloc (.cells (nP m) 164)).heap.size=w.heap.size+1:=q_
 have f:((w.alloc (.cells (nP m) 164)).alloc (.cells (nE n) 162)).heap.size=w.heap.size+1+1:=q_
 refine⟨?_,z_,?_,?_,uc _ _ z_,tC _ _ z_,(bq.alloc z_ _).alloc z_ _⟩
 ·grind[Pi.jb]
 ·rw[<-AO]
  refine kJ _ _ _ _ _ _ _ (by simp;omega) z_ ?_ c
  rw[zU0 _ _ _ z_,<-e]
  exact jb _ _
 ·rw[<-Bp]
  refine kJ _ _ _ _ _ _ _ (by simp;omega) aT ?_ d
  rw[zU0 _ _ _ z_,zU0 _ _ _ z_]
  exact jb _ _
def bW.drew (h:bW w wr s a gl n m T Z):bW w wr.drew s a gl n m T Z:=⟨h.blk,h.lo,h.tho.drew,h.lko.drew,h.tl,h.zl,h.be.drew⟩
def bW.O5 (h:bW w wr s a gl n m T Z):s<wr.heap.size/\a<wr.heap.size/\gl<wr.heap.size/\w.heap.size<=a/\w.heap.size<=gl/\a≠s/\gl≠s/\a≠gl:=by
 obtain⟨l,j,d,i⟩:=au h.tho (k:=a) rfl
 obtain⟨g,f,c,e⟩:=au h.lko (k:=gl) rfl
 exact mK
def bW.on (h:bW w wr s a gl n m T Z) (d:aC wr b):bW w b s a gl n m T Z:=by
 obtain⟨e,g,f,_⟩:=h.O5
 refine⟨(d.block s e).trans h.blk,h.lo,aO h.tho ?_,aO h.lko ?_,h.tl,h.zl,h.be.trans (d.mono h.be.size)⟩
 ·intro k c
  simp[Value.ownBlock] at c
  grind[RowKit.Below.block]
 ·intro k c
  simp[Value.ownBlock] at c
  grind[RowKit.Below.block]
theorem bW.c0 (h:bW w wr s a gl n m T Z):wr.cell? (ao s)=some (.slice (some (ao a)) n n):=by unfold World.cell?;simp[h.blk]
theorem bW.c1 (h:bW w wr s a gl n m T Z):wr.cell? (af s 1)=some (.slice (some (ao gl)) m m):=by unfold World.cell?;simp[h.blk]
def bW.Bu (h:bW w wr s a gl n m T Z) (j:Nat) (q:j<n) (x:Th):bW w ((((wr.setCell (af a (j*4)) (.bool x.k.e)).setCell (af a (j*4+1)) (aj x.k.d)).setCell (af a (j*4+2)) (aA x.k.l)).setCell (af a (j*4+3)) (ab x.u)) s a gl n m (T.set j x) Z:=by
 obtain⟨z,y,v,g,t,f,r,c⟩:=h.O5
 have o:=aZ (aZ (aZ (aZ h.tho (j*4) z_ (.bool x.k.e)) (j*4+1) z_ (aj x.k.d)) (j*4+2) z_ (aA x.k.l)) (j*4+3) z_ (ab x.u)
 rw[<-qM T j x (by rw[h.tl];exact q)] at o
 refine⟨?_,h.lo,o,aO h.lko ?_,by simpa using h.tl,h.zl,(((h.be.setCell (p:=(af a (j*4))) g _).setCell (p:=(af a (j*4+1))) g _).setCell (p:=(af a (j*4+2))) g _).setCell (p:=(af a (j*4+3))) g _⟩
 ·rw[zZ0 _ _ _ _ (Ne.symm f),zZ0 _ _ _ _ (Ne.symm f),zZ0 _ _ _ _ (Ne.symm f),zZ0 _ _ _ _ (Ne.symm f)]
  exact h.blk
 ·intro k i
  simp[Value.ownBlock] at i
  subst i
  rw[zZ0 _ _ _ _ (Ne.symm c),zZ0 _ _ _ _ (Ne.symm c),zZ0 _ _ _ _ (Ne.symm c),zZ0 _ _ _ _ (Ne.symm c)]
def bW.Ed (h:bW w wr s a gl n m T Z) (j:Nat) (g:j<m) (z:Int×Value):bW w ((wr.setCell (af gl (j*2)) (ab z.1)).setCell (af gl (j*2+1)) z.2) s a gl n m T (Z.set j z):=by
 obtain⟨t,r,q,o,d,l,c,i⟩:=h.O5
 have e:=aZ (aZ h.lko (j*2) z_ (ab z.1)) (j*2+1) z_ z.2
 rw[<-qk Z j z (by rw[h.zl];exact g)] at e
 refine⟨?_,h.lo,aO h.tho ?_,e,h.tl,by simpa using h.zl,(h.be.setCell (p:=(af gl (j*2))) d _).setCell (p:=(af gl (j*2+1))) d _⟩
 ·rw[zZ0 _ _ _ _ (Ne.symm c),zZ0 _ _ _ _ (Ne.symm c)]
  exact h.blk
 ·intro k f
  simp[Value.ownBlock] at f
  grind[RowKit.Below.heap_setCell]
theorem bW.fz (h:bW w wr s a gl n m T Z):(∀k,wr.frozen? (af a k)=false)/\ ∀k,wr.frozen? (af gl k)=false:=⟨dP h.tho,dP h.lko⟩
def bW.N2 (h:bW w wr s a gl n m T Z) (j:Nat) (o:j<n): ∃l k i u3,wr.cell? (af a (j*4))=some l/\wr.cell? (af a (j*4+1))=some k/\wr.cell? (af a (j*4+2))=some i/\wr.cell? (af a (j*4+3))=some u3:=by
 have e:=zX0 (by rw[h.tl];exact o)
 obtain⟨g,f,d,c⟩:=iR T j _ e
 exact⟨_,_,_,_,(h.tho.cellAt (j*4) z_).trans g,(h.tho.cellAt (j*4+1) z_).trans f,(h.tho.cellAt (j*4+2) z_).trans d,(h.tho.cellAt (j*4+3) z_).trans c⟩
def bW.kW (h:bW w wr s a gl n m T Z) (j:Nat) (g:j<m): ∃f u1,wr.cell? (af gl (j*2))=some f/\wr.cell? (af gl (j*2+1))=some u1:=by
 have e:=zX0 (by rw[h.zl];exact g)
 obtain⟨d,c⟩:=gR Z j _ e
 exact⟨_,_,(h.lko.cellAt (j*2) z_).trans d,(h.lko.cellAt (j*2+1) z_).trans c⟩
def bW.G0 (h:bW w wr s a gl n m T Z) (j:Nat) (r:j<n): ∃g f e u3,∀o,(wr.alloc o).cell? (af a (j*4))=some g/\(wr.alloc o).cell? (af a (j*4+1))=some f/\(wr.alloc o).cell? (af a (j*4+2))=some e/\(wr.alloc o).cell? (af a (j*4+3))=some u3:=by
 obtain⟨g,f,e,u3,q,l,k,i⟩:=h.N2 j r
 have c:=h.O5.2.1
 refine⟨g,f,e,u3,fun o=> ?_⟩
 have d:aC wr (wr.alloc o):=cj.alloc aT o
 exact⟨(d.cell (p:=(af a (j*4))) c).trans q,(d.cell (p:=(af a (j*4+1))) c).trans l,(d.cell (p:=(af a (j*4+2))) c).trans k,(d.cell (p:=(af a (j*4+3))) c).trans i⟩
end
def JZ (n m:Nat) (w:World) (h1:1<=n) (h2:n<=1024) (h3:m<=32):
  aB 35 #[ab n,ab m] w fun e r=> ∃s gt gl,e= .returned (ak s)/\bW w r s gt gl n m (vN n n) (xa m m):=by
 obtain⟨V,z,u,t,F⟩:=info_parts yq
 obtain⟨U,y,x,v,G⟩:=info_parts MT
 have X: ∀w,(Instr.makeSlice 156 (ab n) (ab n)).run Tryz.prog w= .ok (.slice (some (ao w.heap.size)) n n) (w.alloc (.cells (nE n) 162)):=by
  intro w
  have:=run_make w 156 162 V eO Tryz.underlying156 z u .i64 .i64 (n:Int) (n:Int) z_ z_ y_ z_
  rw[t,show(n:Int).toNat=n by omega] at this
  exact this
 have W: ∀w,(Instr.makeSlice 157 (ab m) (ab m)).run Tryz.prog w= .ok (.slice (some (ao w.heap.size)) m m) (w.alloc (.cells (nP m) 164)):=by
  intro w
  have:=run_make w 157 164 U py Tryz.underlying157 y x .i64 .i64 (m:Int) (m:Int) z_ z_ y_ z_
  rw[v,show(m:Int).toNat=m by omega] at this
  exact this
 have e1: ¬(n:Int)<1:=z_
 have e2: ¬(1024:Int)<(n:Int):=z_
 have e3: ¬(m:Int)<0:=z_
 have e4: ¬(32:Int)<(m:Int):=z_
 have h:n<=maxLen/\m<=maxLen:=⟨by simp[maxLen];omega,by simp[maxLen];omega⟩
 have q:=aa (Ow w n m h.1 h.2)
 have A:=aa (Ob w n m h.1 h.2)
 have O:=aa (fun w=>DU w 0)
 clear z u t F y x v G h
 refine ge ?_
 go_wp2
 go_region_held3 (fun r=>True) (simp[go_sem]) (first|fail)
 all_goals go_wp2
 ·replace q:=q
  clear A
  go_loopw [33] (fun i wr=> ∃(j:Nat),j<=n/\i=ab j/\bW w wr (w.heap.size+1+1) (w.heap.size) (w.heap.size+1) n m (vN n j) (xa m 0)) (fun i _=>n-(intOf i).toNat)
  case atStart=>exact⟨0,z_,rfl,q.out.drew⟩
  case round=>
   obtain⟨j,Z,rfl,a⟩:=hrel
   by_cases b:j<n
   ·have p:(j:Int)<n:=by omega
    have N:=a.c0
    have L:=fun o=>(a.on (cj.alloc aT o)).c0
    have I:=a.drew.c0
    have J:=fun o=>(a.on (cj.alloc aT o)).drew.c0
    have cs: ∀o,(((((wr.alloc o).setCell (af w.heap.size (j*4)) (.bool false)).setCell (af w.heap.size (j*4+1)) (aj 0)).setCell (af w.heap.size (j*4+2)) (aA 0)).setCell (af w.heap.size (j*4+3)) (ab (-1))).drew.cell? (ao (w.heap.size+1+1))=some (.slice (some (ao w.heap.size)) n n):=fun o=>((a.on (cj.alloc aT o)).Bu j b ⟨bP 0,-1⟩).drew.c0
    have H:=fun o k=>(a.on (cj.alloc aT o)).fz.1 k
    obtain⟨E,D,T,S,g⟩:=a.G0 j b
    have C:=fun o=>(g o).1
    have B:=fun o=>(g o).2.1
    have Q:=fun o=>(g o).2.2.1
    have P:=fun o=>(g o).2.2.2
    have f:=aa a
    clear a g
    go_wp2
    go_region_held3 (fun r=>r.cell? (ao (w.heap.size+1+1))=some (.slice (some (ao w.heap.size)) n n))
     (first|with_reducible exact N|with_reducible exact I|with_reducible exact L _|with_reducible exact J _|grind)
     (first|(go_at_call 68;refine(O.out _).mono ?_;rintro e R ⟨rfl,c,rfl⟩))
    all_goals go_wp2
    all_goals go_roundw
    case rel=>
     refine⟨j+1,z_,by go_num,?_⟩
     rw[<-A7 n j b]
     exact((f.out.on bq).Bu j b ⟨bP 0,-1⟩).drew
    case measure=>simp[intOf];omega
   ·have p: ¬(j:Int)<n:=by omega
    obtain rfl:j=n:=z_
    have M:=a.c1
    have f:=aa a
    clear a
    go_wp2
    go_loopw [50] (fun i wr=> ∃(k:Nat),k<=m/\i=ab k/\bW w wr (w.heap.size+1+1) (w.heap.size) (w.heap.size+1) j m (vN j j) (xa m k)) (fun i _=>m-(intOf i).toNat)
    case atStart=>exact⟨0,z_,rfl,f.out⟩
    case round=>
     obtain⟨k,Y,rfl,a⟩:=hrel
     by_cases d:k<m
     ·have l:(k:Int)<m:=by omega
      have M:=a.c1
      have H:=a.fz.2
      obtain⟨E,D,C,B⟩:=a.kW k d
      have f:=aa a
      clear a
      go_wp2
      go_roundw
      case rel=>
       refine⟨k+1,z_,by go_num,?_⟩
       rw[<-zV m k d]
       exact f.out.Ed k d (-1,.slice none 0 0)
      case measure=>simp[intOf];omega
     ·have l: ¬(k:Int)<m:=by omega
      obtain rfl:k=m:=z_
      have f:=aa a
      clear a
      go_wp2
      go_ret
      exact⟨_,rfl,_,_,f.out⟩
 ·replace q:=A
  go_loopw [33] (fun i wr=> ∃(j:Nat),j<=n/\i=ab j/\bW w wr (w.heap.size+1+1) (w.heap.size+1) (w.heap.size) n m (vN n j) (xa m 0)) (fun i _=>n-(intOf i).toNat)
  case atStart=>exact⟨0,z_,rfl,q.out.drew⟩
  case round=>
   obtain⟨j,Z,rfl,a⟩:=hrel
   by_cases b:j<n
   ·have p:(j:Int)<n:=by omega
    have N:=a.c0
    have L:=fun o=>(a.on (cj.alloc aT o)).c0
    have I:=a.drew.c0
    have J:=fun o=>(a.on (cj.alloc aT o)).drew.c0
    have cs: ∀o,(((((wr.alloc o).setCell (af (w.heap.size+1) (j*4)) (.bool false)).setCell (af (w.heap.size+1) (j*4+1)) (aj 0)).setCell (af (w.heap.size+1) (j*4+2)) (aA 0)).setCell (af (w.heap.size+1) (j*4+3)) (ab (-1))).drew.cell? (ao (w.heap.size+1+1))=some (.slice (some (ao (w.heap.size+1))) n n):=fun o=>((a.on (cj.alloc aT o)).Bu j b ⟨bP 0,-1⟩).drew.c0
    have H:=fun o k=>(a.on (cj.alloc aT o)).fz.1 k
    obtain⟨E,D,T,S,g⟩:=a.G0 j b
    have C:=fun o=>(g o).1
    have B:=fun o=>(g o).2.1
    have Q:=fun o=>(g o).2.2.1
    have P:=fun o=>(g o).2.2.2
    have f:=aa a
    clear a g
    go_wp2
    go_region_held3 (fun r=>r.cell? (ao (w.heap.size+1+1))=some (.slice (some (ao (w.heap.size+1))) n n))
     (first|with_reducible exact N|with_reducible exact I|with_reducible exact L _|with_reducible exact J _|grind)
     (first|(go_at_call 68;refine(O.out _).mono ?_;rintro e R ⟨rfl,c,rfl⟩))
    all_goals go_wp2
    all_goals go_roundw
    case rel=>
     refine⟨j+1,z_,by go_num,?_⟩
     rw[<-A7 n j b]
     exact((f.out.on bq).Bu j b ⟨bP 0,-1⟩).drew
    case measure=>simp[intOf];omega
   ·have p: ¬(j:Int)<n:=by omega
    obtain rfl:j=n:=z_
    have M:=a.c1
    have f:=aa a
    clear a
    go_wp2
    go_loopw [50] (fun i wr=> ∃(k:Nat),k<=m/\i=ab k/\bW w wr (w.heap.size+1+1) (w.heap.size+1) (w.heap.size) j m (vN j j) (xa m k)) (fun i _=>m-(intOf i).toNat)
    case atStart=>exact⟨0,z_,rfl,f.out⟩
    case round=>
     obtain⟨k,Y,rfl,a⟩:=hrel
     by_cases d:k<m
     ·have l:(k:Int)<m:=by omega
      have M:=a.c1
      have H:=a.fz.2
      obtain⟨E,D,C,B⟩:=a.kW k d
      have f:=aa a
      clear a
      go_wp2
      go_roundw
      case rel=>
       refine⟨k+1,z_,by go_num,?_⟩
       rw[<-zV m k d]
       exact f.out.Ed k d (-1,.slice none 0 0)
      case measure=>simp[intOf];omega
     ·have l: ¬(k:Int)<m:=by omega
      obtain rfl:k=m:=z_
      have f:=aa a
      clear a
      go_wp2
      go_ret
      exact⟨_,rfl,_,_,f.out⟩
def zq (n:Nat):List Th:=List.replicate n ⟨bP 0,-1⟩
def vY (m:Nat):List Lk:=List.replicate m ⟨-1,[]⟩
def DV (n m:Nat) (e:1<=n) (d:n<=1024) (c:m<=32):dI (zq n) (vY m):=by
 refine⟨by simpa [zq] using e,by simpa [zq] using d,by simpa [vY] using c,?_,?_,?_,?_⟩
 ·intro x b
  obtain rfl:=List.eq_of_mem_replicate b
  refine⟨⟨⟨x_,x_⟩,x_,x_⟩,x_,?_⟩
  grind
 ·intro y a
  obtain rfl:=List.eq_of_mem_replicate a
  refine⟨x_,?_,q_,q_,q_⟩
  grind
 ·intro t x b f y a
  obtain rfl:=List.eq_of_mem_replicate (i9 b)
  obtain rfl:=List.eq_of_mem_replicate (i9 a)
  simp
 ·refine⟨0,fun _=>0,fun _=>aT,?_⟩
  rintro t s ⟨y,a,g,_⟩
  obtain rfl:=List.eq_of_mem_replicate a
  grind
section
variable {w w':World} {b s:Nat} {c i:Value} {V:List Value} {T:List Th} {L:List Lk}
def dj.new {g l n m:Nat} (h:bW w w' s g l n m (vN n n) (xa m m)) (x:1<=n) (t:n<=1024) (r:m<=32):
  dj w' w.heap.size s (.slice (some (ao g)) n n) (.slice (some (ao l)) m m) (List.replicate m (.slice none 0 0)) (zq n) (vY m):=by
 have B:(zq n).length=n:=by simp[zq]
 have A:(vY m).length=m:=by simp[vY]
 have z:((vY m).map (·.h)).zip (List.replicate m (Value.slice none 0 0))=List.replicate m (-1,Value.slice none 0 0):=by
  simp[vY,List.map_replicate]
 have e:=h.tho
 have f:=h.lko
 rw[H8] at e
 rw[Ji] at f
 refine⟨h.blk,h.lo,by rw[B];exact e,by rw[A,z];exact f,y_,?_,?_,h.be.size,DV n m x t r⟩
 ·intro j y v o d
  obtain rfl:=List.eq_of_mem_replicate (i9 o)
  obtain rfl:=List.eq_of_mem_replicate (i9 d)
  exact World.ownsRow_nil _ _ _ _
 ·intro a j u v k p d q
  obtain rfl:=List.eq_of_mem_replicate (i9 p)
  simp[Value.ownBlock] at q
def rj: ∀(T:List Th) (a:Nat) (x:Th) (k:K),T[a]? =some x->dD (T.set a ⟨k,x.u⟩)=(((dD T).set (a*4) (.bool k.e)).set (a*4+1) (aj k.d)).set (a*4+2) (aA k.l)
 |[],a,x,k,h=>by simp at h
 |y::T,0,x,k,h=>by
  simp at h
  subst h
  rfl
 |y::T,a+1,x,k,h=>by
  have:=rj T a x k y_
  rw[List.set_cons_succ,di,this,di,show(a+1)*4=a*4+4 by omega]
  rfl
def dI.Aq (f:dI T L) {j:Nat} {x:Th} (d:T[j]? =some x) {k:K} (e:k.ok):dI (T.set j ⟨k,x.u⟩) L:=by
 refine⟨y_,by simpa using f.t2,f.l2,?_,by simpa using f.lk,?_,f.ac⟩
 ·intro y a
  rcases yZ0 a with q|q
  ·exact f.th y q
  ·rw[q]
   exact⟨e,(f.th x (i9 d)).2⟩
 ·intro t y a m z hz
  rw[List.getElem?_set] at a
  by_cases q:j=t
  ·subst q
   have g:=(i6.1 d).1
   rw[if_pos rfl,if_pos g] at a
   obtain rfl:=Option.some.inj a
   exact f.wt j x d m z hz
  ·rw[if_neg q] at a
   exact f.wt t y a m z hz
def dj.blocks (h:dj w b s c i V T L) {g:Nat} (l:c.ownBlock=some g):g≠s/\i.ownBlock≠some g/\ ∀v∈V,v.ownBlock≠some g:=by
 obtain⟨_,_,a,e⟩:=au h.tho l
 refine⟨fun q=> ?_,fun q=> ?_,fun v k q=> ?_⟩
 ·rw[q,h.blk] at e;simp at e
 ·obtain⟨_,_,n,m⟩:=au h.lko q
  grind
 ·obtain⟨j,f⟩:=List.mem_iff_getElem?.1 k
  have d:=(i6.1 f).1
  rw[h.vs] at d
  obtain⟨_,_,n,m⟩:=au (h.lin j _ v (zX0 d) f) q
  grind
def dj.Bu (h:dj w b s c i V T L) {g:Nat} (o:c.ownBlock=some g) {a:List Th} (p:w'.heap.size=w.heap.size) (d: ∀k,k≠g->w'.heap[k]? =w.heap[k]?)
  (m:w'.ownsRow b 162 4 c a.length (dD a)) (f:dI a L):dj w' b s c i V a L:=by
 obtain⟨u,t,r⟩:=h.blocks o
 exact⟨(d s (Ne.symm u)).trans h.blk,h.lo,m,aO h.lko (fun k n=>d k (fun q=>t y_)),h.vs,
  fun j y v l e=>aO (h.lin j y v l e) (fun k n=>d k (fun q=>r v (i9 e) y_)),h.apart,by rw[p];exact h.bs,f⟩
def dj.Aq {g m:Nat} (h:dj w b s (.slice (some (ao g)) T.length m) i V T L) {j:Nat} {x:Th} (n:T[j]? =some x) {k:K} (p:k.ok):
  dj (((w.setCell (af g (j*4)) (.bool k.e)).setCell (af g (j*4+1)) (aj k.d)).setCell (af g (j*4+2)) (aA k.l)) b s (.slice (some (ao g)) T.length m) i V (T.set j ⟨k,x.u⟩) L:=by
 have q:=(i6.1 n).1
 refine h.Bu (g:=g) rfl q_ (fun a o=> ?_) ?_ (h.f.Aq n p)
 ·rw[zZ0 _ _ _ _ o,zZ0 _ _ _ _ o,zZ0 _ _ _ _ o]
 ·rw[rj T j x k n,List.length_set]
  exact aZ (aZ (aZ h.tho (j*4) z_ _) (j*4+1) z_ _) (j*4+2) z_ _
theorem Bk (h:dj w b s c i V T L) (t:Int) (k:K) (j:oR T t=false\/aN k=false):vQ 79 #[ak s,ab t,.agg (bn k)] w (ab 2):=by
 have d:=aa (fun w' (n:aC w w')=>mI (h.below n) t)
 have l:=aa (fun w=>cf w k)
 cases a:oR T t with
 |false=>
  simp only[a] at d
  clear h j a
  refine ge ?_
  go_wp2_with (go_at_call 128;refine cS (d.out _ (by first|exact cj|exact bq)) ?_)
  go_ret
  exact⟨rfl,by first|exact cj|exact bq⟩
 |true=>
  have g:aN k=false:=by
   grind
  simp only[a] at d
  simp only[g] at l
  clear h j a g
  refine ge ?_
  go_wp2_with (first
   |(go_at_call 128;refine(d.out _ (by first|exact cj|exact bq)).mono ?_;rintro e m ⟨rfl,hw⟩;subst hw)
   |(go_at_call 129;refine(l.out _).mono ?_;rintro e m ⟨rfl,f⟩))
  go_ret
  exact⟨rfl,bq.trans (f.mono q_)⟩
def dj.drew (h:dj w b s c i V T L):dj w.drew b s c i V T L:=⟨h.blk,h.lo,h.tho.drew,h.lko.drew,h.vs,fun j y v a d=>(h.lin j y v a d).drew,h.apart,h.bs,h.f⟩
def Et (h:dj w b s c i V T L) (j:Nat) (x:Th) (t:T[j]? =some x) (k:K) (C:k.ok) (X:aN k=true):aB 79 #[ak s,ab j,.agg (bn k)] w fun e w'=>e= .returned (ab 0)/\dj w' b s c i V (T.set j ⟨k,x.u⟩) L/\Fr (fun f=>c.ownBlock=some f) w w':=by
 have hj:=(i6.1 t).1
 have a0:(j:Int)<T.length:=z_
 have HT:=aa (fun w' (r:aC w w')=>mI (h.below r) (j:Int))
 have W:oR T (j:Int)=true:=by unfold oR;grind
 have HR:=aa (fun w=>cf w k)
 simp only[W] at HT
 simp only[X] at HR
 obtain⟨g,m,rfl,a2,a1,_⟩:=h.rJ
 have HG:Hid (∀w1,Below (w.alloc (.cells (bn k) 120)).heap.size (w.alloc (.cells (bn k) 120)) w1->
   w1.cell? (ao s)=some (.slice (some (ao g)) T.length m)/\w1.cell? (ao w.heap.size)=some (.bool k.e)/\w1.cell? (af w.heap.size 1)=some (aj k.d)/\w1.cell? (af w.heap.size 2)=some (aA k.l)/\
   (∀o,w1.frozen? (af g o)=false)/\w1.cell? (af g (j*4))=some (.bool x.k.e)/\w1.cell? (af g (j*4+1))=some (aj x.k.d)/\w1.cell? (af g (j*4+2))=some (aA x.k.l)/\
   ((((w1.setCell (af g (j*4)) (.bool k.e)).setCell (af g (j*4+1)) (aj k.d)).setCell (af g (j*4+2)) (aA k.l)).drew.cell? (ao s)=some (.slice (some (ao g)) T.length m)/\(((w1.setCell (af g (j*4)) (.bool k.e)).setCell (af g (j*4+1)) (aj k.d)).setCell (af g (j*4+2)) (aA k.l)).drew.cell? (ao w.heap.size)=some (.bool k.e)/\(((w1.setCell (af g (j*4)) (.bool k.e)).setCell (af g (j*4+1)) (aj k.d)).setCell (af g (j*4+2)) (aA k.l)).drew.cell? (af w.heap.size 1)=some (aj k.d)/\(((w1.setCell (af g (j*4)) (.bool k.e)).setCell (af g (j*4+1)) (aj k.d)).setCell (af g (j*4+2)) (aA k.l)).drew.cell? (af w.heap.size 2)=some (aA k.l))/\
   dj (((w1.setCell (af g (j*4)) (.bool k.e)).setCell (af g (j*4+1)) (aj k.d)).setCell (af g (j*4+2)) (aA k.l)) b s (.slice (some (ao g)) T.length m) i V (T.set j ⟨k,x.u⟩) L/\
   Fr (fun f=>(Value.slice (some (ao g)) T.length m).ownBlock=some f) w (((w1.setCell (af g (j*4)) (.bool k.e)).setCell (af g (j*4+1)) (aj k.d)).setCell (af g (j*4+2)) (aA k.l))):=by
  intro w1 r
  have z:aC w (w.alloc (.cells (bn k) 120)):=bq
  have v:aC w w1:=z.trans (r.mono z.size)
  have B:=h.below v
  obtain⟨g',Y,e,_,_,_,_,hf,hc⟩:=B.rJ
  simp at e
  obtain⟨rfl,rfl⟩:=e
  obtain⟨P,O,N,y3⟩:=hc j x t
  obtain⟨M,J,I⟩:=MH w k 120
  have hg:=(au h.tho (k:=g) rfl).2.1
  have q:w.heap.size≠g:=z_
  have F: ∀u:Nat,(((w1.setCell (af g (j*4)) (.bool k.e)).setCell (af g (j*4+1)) (aj k.d)).setCell (af g (j*4+2)) (aA k.l)).drew.heap[w.heap.size]? =w1.heap[w.heap.size]? :=fun _=>by
   show(((w1.setCell (af g (j*4)) (.bool k.e)).setCell (af g (j*4+1)) (aj k.d)).setCell (af g (j*4+2)) (aA k.l)).heap[w.heap.size]? =_
   rw[zZ0 _ _ _ _ q,zZ0 _ _ _ _ q,zZ0 _ _ _ _ q]
  have n:w.heap.size<(w.alloc (.cells (bn k) 120)).heap.size:=q_
  refine⟨B.c0,(r.cell (p:=(ao w.heap.size)) n).trans M,(r.cell (p:=(af w.heap.size 1)) n).trans J,(r.cell (p:=(af w.heap.size 2)) n).trans I,hf,P,O,N,?_,B.Aq t C,?_⟩
  ·refine⟨(B.Aq t C).drew.c0,?_,?_,?_⟩
   ·exact(i5 (F 0)).trans ((r.cell (p:=(ao w.heap.size)) n).trans M)
   ·exact(i5 (F 0)).trans ((r.cell (p:=(af w.heap.size 1)) n).trans J)
   ·exact(i5 (F 0)).trans ((r.cell (p:=(af w.heap.size 2)) n).trans I)
  exact(((Fr.aF (S:=fun f=>(Value.slice (some (ao g)) T.length m).ownBlock=some f) v).setCell (a:=(af g (j*4))) rfl _).setCell (a:=(af g (j*4+1))) rfl _).setCell (a:=(af g (j*4+2))) rfl _
 clear h X W t C
 refine ge ?_
 go_wp2_with (first
  |(go_at_call 128;refine(HT.out _ (by first|exact cj|exact bq)).mono ?_;rintro e w1 ⟨rfl,hw⟩;subst hw)
  |(go_at_call 129;refine(HR.out _).mono ?_;rintro e w1 ⟨rfl,y⟩;obtain⟨Z,U,R,Q,fz,P,O,N,A,G,H⟩:=HG.out w1 y;replace G:=aa G;replace H:=aa H;clear y))
 have E:=aa (And.intro Z (And.intro U (And.intro R Q)))
 have D:Hid (w1.drew.cell? (ao s)=some (.slice (some (ao g)) T.length m)/\w1.drew.cell? (ao w.heap.size)=some (.bool k.e)/\w1.drew.cell? (af w.heap.size 1)=some (aj k.d)/\w1.drew.cell? (af w.heap.size 2)=some (aA k.l)):=⟨Z,U,R,Q⟩
 replace A:=aa A
 go_region_held3 (fun w'=>(w'.cell? (ao s)=some (.slice (some (ao g)) T.length m)/\w'.cell? (ao w.heap.size)=some (.bool k.e)/\w'.cell? (af w.heap.size 1)=some (aj k.d)/\w'.cell? (af w.heap.size 2)=some (aA k.l)))
  (first|with_reducible exact E.out|with_reducible exact D.out|assumption)
  (first|fail)
 all_goals go_wp2
 all_goals go_ret
 all_goals exact⟨rfl,G.out.drew,H.out.drew⟩
end
def jF: ∀(Z:List (Int×Value)) (i:Nat) (z:Int×Value) (a:Int),Z[i]? =some z->eP (Z.set i (a,z.2))=(eP Z).set (i*2) (ab a)
 |[],i,z,a,h=>by simp at h
 |y::Z,0,z,a,h=>by
  exact mK
 |y::Z,i+1,z,a,h=>by
  have:=jF Z i z a y_
  grind[Pi.fS]
theorem tw {α β:Type}: ∀(A:List α) (B:List β) (i:Nat) (a:α) (b:β),B[i]? =some b->(A.set i a).zip B=(A.zip B).set i (a,b)
 |[],B,i,a,b,h=>by simp
 |x::A,[],i,a,b,h=>by simp
 |x::A,y::B,0,a,b,h=>by
  simp_all
 |x::A,y::B,i+1,a,b,h=>by
  have:=tw A B i a b y_
  simp_all
section
variable {w w':World} {b s:Nat} {c d:Value} {V:List Value} {T:List Th} {L:List Lk}
def dj.JL (h:dj w b s c d V T L) {g:Nat} (l:d.ownBlock=some g):g≠s/\c.ownBlock≠some g/\ ∀v∈V,v.ownBlock≠some g:=by
 obtain⟨_,_,a,e⟩:=au h.lko l
 refine⟨fun q=> ?_,fun q=> ?_,fun v k q=> ?_⟩
 ·rw[q,h.blk] at e;simp at e
 ·obtain⟨_,_,n,m⟩:=au h.tho q
  grind
 ·obtain⟨j,i⟩:=List.mem_iff_getElem?.1 k
  have f:=(i6.1 i).1
  rw[h.vs] at f
  obtain⟨_,_,n,m⟩:=au (h.lin j _ v (zX0 f) i) q
  grind
def dj.hold {g i:Nat} (h:dj w b s c (.slice (some (ao g)) L.length i) V T L) {m:Nat} {y:Lk} (o:L[m]? =some y) (a:Int) (f:dI T (L.set m ⟨a,y.l⟩)):
  dj (w.setCell (af g (m*2)) (ab a)) b s c (.slice (some (ao g)) L.length i) V T (L.set m ⟨a,y.l⟩):=by
 have q:=(i6.1 o).1
 obtain⟨v,B⟩: ∃v,V[m]? =some v:=⟨_,zX0 (by rw[h.vs];exact q)⟩
 obtain⟨z,D,C⟩:=h.JL (g:=g) rfl
 have hz:((L.map (·.h)).zip V)[m]? =some (y.h,v):=y_
 have e:((L.set m ⟨a,y.l⟩).map (·.h)).zip V=((L.map (·.h)).zip V).set m (a,v):=by grind[List.map_set,Pi.tw]
 refine⟨?_,h.lo,aO h.tho ?_,?_,by simpa using h.vs,?_,h.apart,by simpa using h.bs,f⟩
 ·rw[zZ0 _ _ _ _ (Ne.symm z)]
  exact h.blk
 ·grind[RowKit.Below.heap_setCell]
 ·rw[e,jF _ m (y.h,v) a hz,List.length_set]
  grind[aZ,Pi.dj.lko]
 ·intro j x u A p
  have n: ∃k,L[j]? =some k/\k.l=x.l:=by
   grind
  obtain⟨k,t,r⟩:=n
  rw[<-r]
  refine aO (h.lin j k u t p) ?_
  grind[RowKit.Below.heap_setCell]
def dI.take (f:dI T L) {m:Nat} {y:Lk} (j:L[m]? =some y) (v:y.h= -1) {t:Nat} (u:t<T.length):y.l=[]/\dI T (L.set m ⟨(t:Int),y.l⟩):=by
 have g:=f.lk y (i9 j)
 have n:y.l=[]:=by
  cases q:y.l with
  |nil=>rfl
  |cons a e=>
   have:=g.2.2.2.2 y_
   omega
 have p:=(i6.1 j).1
 refine⟨n,f.t1,f.t2,by simpa using f.l2,by simpa using f.th,?_,?_,f.ac.less ?_⟩
 ·intro z hz
  rcases yZ0 hz with q|q
  ·exact f.lk z q
  ·subst q
   refine⟨q_,y_,g.2.2.1,g.2.2.2.1,fun _=>by simp⟩
 ·intro a x o k z hz
  rw[List.getElem?_set] at hz
  by_cases q:m=k
  ·subst q
   rw[if_pos rfl,if_pos p] at hz
   grind[Pi.dI.wt]
  ·rw[if_neg q] at hz
   exact f.wt a x o k z hz
 ·rintro a e ⟨z,hz,i,r⟩
  rcases yZ0 hz with q|q
  ·exact⟨z,q,i,r⟩
  ·subst q
   rw[n] at i
   simp at i
theorem GP (h:dj w b s c d V T L) (t m:Int) (e:eo T L t m≠0):vS 190 #[ak s,ab t,ab m] w (.tuple #[.bool false,ab (eo T L t m)]):=by
 have a:=aa (df h t m)
 generalize eo T L t m=z at e a
 clear h
 refine ge ?_
 go_wp2_with (go_at_call 191;refine cS a.out ?_)
 simp[bodyPost,results,Tryz.results190,go_sem]
theorem zA (h:dj w b s c d V T L) (t m:Int) (e:eo T L t m≠0):vS 165 #[ak s,ab t,ab m] w (.tuple #[ab (-1),ab (eo T L t m)]):=by
 have a:=aa (df h t m)
 generalize eo T L t m=z at e a
 clear h
 refine ge ?_
 go_wp2_with (go_at_call 191;refine cS a.out ?_)
 simp[bodyPost,results,Tryz.results165,go_sem]
def dp {t m:Int} (a:eo T L t m=0): ∃(i j:Nat) (x:Th) (y:Lk),t=i/\m=j/\i<T.length/\j<L.length/\T[i]? =some x/\x.u= -1/\L[j]? =some y:=by
 unfold eo at a
 split at a
 ·rename_i q
  simp only[Bool.and_eq_true] at q
  obtain⟨i,x,o,n,l,k⟩:=o7 q.1
  obtain⟨j,y,h,g,f,e⟩:=JK q.2
  grind
 ·omega
theorem FV (h:dj w b s c d V T L) (i j:Nat) (e:eo T L i j=0) (y:Lk) (a:L[j]? =some y) (n:y.h=(i:Int)):vS 190 #[ak s,ab i,ab j] w (.tuple #[.bool false,ab 7]):=by
 have k:=aa (df h (i:Int) (j:Int))
 rw[e] at k
 have p:=(i6.1 a).1
 have o:(j:Int)<L.length:=z_
 obtain⟨v,m⟩:=h.line p
 obtain⟨g,u,rfl,t,r,z,q,_,f⟩:=h.kR z_
 obtain⟨l,x⟩:=f j y v a m
 rw[n] at l
 have A:=h.c1
 clear h f e
 refine ge ?_
 go_wp2_with (go_at_call 191;refine cS k.out ?_)
 simp[bodyPost,results,Tryz.results190,go_sem]
def Cc (h:dj w b s c d V T L) (i j:Nat) (p:eo T L i j=0) (y:Lk) (o:L[j]? =some y) (q:y.h= -1):aB 190 #[ak s,ab i,ab j] w fun e w'=>e=aS #[.bool true,ab 0]/\dj w' b s c d V T (L.set j ⟨(i:Int),y.l⟩)/\Fr (fun k=>d.ownBlock=some k) w w':=by
 have t:=aa (df h (i:Int) (j:Int))
 obtain⟨i',j',x,P,J,I,hi,E,z,B,n⟩:=dp p
 obtain rfl:i=i':=z_
 obtain rfl:j=j':=z_
 rw[p] at t
 have D:(j:Int)<L.length:=z_
 have C: ¬(-1:Int)=(i:Int):=z_
 obtain⟨v,A⟩:=h.line E
 obtain⟨g,m,rfl,H,G,Q,F,R,r⟩:=h.kR z_
 obtain⟨u,O⟩:=r j y v o A
 rw[q] at u
 have S:=h.c1
 have M:=aa (h.hold o (i:Int) (h.f.take o q hi).2)
 have N:Hid (Fr (fun k=>(Value.slice (some (ao g)) L.length m).ownBlock=some k) w (w.setCell (af g (j*2)) (ab i))):=(Fr.refl (fun k=>(Value.slice (some (ao g)) L.length m).ownBlock=some k) w).setCell (a:=(af g (j*2))) rfl _
 clear h r p J I z B n
 refine ge ?_
 go_wp2_with (go_at_call 191;refine cS t.out ?_)
 simp[bodyPost,results,Tryz.results190,go_sem]
 exact⟨M.out,N.out⟩
end
end Go.Proofs.YtnmhcgpnhlhcgaaGreatDoor.Pi
namespace Go.Proofs.YtnmhcgpnhlhcgaaGreatDoor.Pi
open Go.Proofs.YtnmhcgpnhlhcgaaGreatDoor.Ke
open Go.Shelf
open Go.RowKit
attribute [local go_sem] Oper.semAt_some
def eu (L:List Lk) (t:Int) (j:Nat):List Int:=((List.range j).filter (fun m=>(L[m]?).map (·.h)==some t)).map (fun m:Nat=>(m:Int))
def fq (L:List Lk) (t:Int):List Int:=eu L t L.length
def pJ {L:List Lk} {t:Int} {j:Nat} {y:Lk} (a:L[j]? =some y) (h:y.h=t):eu L t (j+1)=eu L t j++[(j:Int)]:=by
 grind[Pi.eu,List.range_succ]
def C6 {L:List Lk} {t:Int} {j:Nat} {y:Lk} (a:L[j]? =some y) (h: ¬y.h=t):eu L t (j+1)=eu L t j:=by
 grind[Pi.eu,List.range_succ]
def qS {L:List Lk} {t:Int} {i j:Nat} (h:i<=j):eu L t i<+:eu L t j:=by
 unfold eu
 obtain⟨d,rfl⟩: ∃d,j=i+d:=⟨j-i,z_⟩
 grind[List.range_add]
structure Lb (W:World) (s:Nat) (a:Option Addr) (cap:Nat) (L:List Lk):Prop where
 c1:W.cell? (af s 1)=some (.slice a L.length cap)
 le:L.length<=cap/\cap<=maxLen
 ce: ∀(j:Nat) y,L[j]? =some y-> ∃g va vn vc,a=some (ao g)/\W.cell? (af g (j*2))=some (ab y.h)/\W.cell? (af g (j*2+1))=some (.slice va vn vc)
def dj.Pu {w:World} {c s:Nat} {l f:Value} {V:List Value} {T:List Th} {L:List Lk} (h:dj w c s l f V T L): ∃a b,f= .slice a L.length b/\Lb w s a b L:=by
 obtain⟨a,b,rfl,p,o⟩:=fo h.lko
 refine⟨a,b,rfl,h.c1,⟨p,o⟩,fun j y d=> ?_⟩
 have m:=(i6.1 d).1
 obtain⟨v,i⟩:=h.line m
 obtain⟨g,k,e,_,_,_,_,_,n⟩:=h.kR z_
 simp at e
 obtain⟨r,q⟩:=n j y v d i
 obtain⟨u,t,rfl,_⟩:=fo (h.lin j y v d i)
 grind
def Kh (b a:Nat) (t:Int) (A B:World):Prop:=Below b A B/\(Boxed A a 3 (ab t)->Boxed B a 3 (ab t))
def vD (U:Nat) (hn:1<=U) (l B1 u n s:Nat) (a:Option Addr) (a2:Nat) (L:List Lk) (t:Int) (J Jx:List Int->World->Prop)
  (hY: ∀pre x W,J pre W->pre.length<(fq L t).length->YieldAt Fence.wide (U-1) Tryz.prog l #[ab x] W fun e B=>
   (e= .returned (.bool true)/\J (pre++[x]) B/\Kh n u t W B)\/(e= .returned (.bool false)/\Jx (pre++[x]) B))
  (W:World) (b3:W.cell? (ao B1)=some (ak s)) (N:Boxed W u 3 (ab t)) (Y:Lb W s a a2 L) (hL:L.length<=32) (M: ∀g,a=some (ao g)->g<n) (n1:Nat) (hJ:AbidesFrom n1 J) (Z:n<=W.heap.size) (h0:J [] W):
  CallsIn Fence.wide U Tryz.prog 205 #[.func (.yield l) #[] #[],ak B1,ak u] W fun e B=>(∃v,e= .returned v)/\
   ((∃ys,ys=fq L t/\J ys B)\/(∃pre,pre<+:fq L t/\Jx pre B)):=by
 have c1:=Y.c1
 have HR:=aa Y
 have a7:=aa N
 have H0:=aa h0
 have HY:=aa hY
 clear N Y h0 hY
 refine callsIn_of_wp Tryz.func205 rfl trivial ?_ rfl
 simp only[Tryz.ntmps205,j_,Nat.reduceAdd,Nat.reduceSub]
 gi_wp2
 gi_loopw [11] (fun p wr=> ∃(j:Nat),j<=L.length/\p=ab j/\n<=wr.heap.size/\Below n W wr/\Boxed wr u 3 (ab t)/\J (eu L t j) wr)
  (fun p _=>L.length-(intOf p).toNat)
 case atStart=>exact⟨0,z_,rfl,Z,cj,a7.out,H0.out⟩
 case round=>
  obtain⟨j,hj,rfl,G,c,b,i⟩:=hrel
  by_cases a0:j<L.length
  ·have H:(j:Int)<L.length:=by omega
   obtain⟨y,X⟩: ∃y,L[j]? =some y:=⟨_,zX0 a0⟩
   obtain⟨g,A,w,z,rfl,D,C⟩:=HR.out.ce j y X
   have y0:=(c.cell (p:=(af g (j*2))) (M g rfl)).trans D
   have y1:=(c.cell (p:=(af g (j*2+1))) (M g rfl)).trans C
   have b2:=b.cell
   have b0:=b.lt
   have a9: ¬u=wr.heap.size:=z_
   have S:=aa c
   have Q:=aa b
   have m:=aa i
   have q:=aa X
   clear D C c b i X
   by_cases I:y.h=t
   ·have a1:(y.h==t)=true:=by simp[I]
    have P:J (eu L t j) (wr.alloc (.cells #[ab t,.slice A w z] 164)):=hJ _ wr _ none m.out ⟨rfl,rfl,rfl,q_,fun k hk _=>zU0 _ _ _ hk⟩ (fun r e=>by cases e)
    have F:(eu L t j).length<(fq L t).length:=by
     have e:=pJ q.out I
     have p:=(qS (L:=L) (t:=t) (show j+1<=L.length by omega)).length_le
     rw[e] at p
     unfold fq
     grind
    obtain⟨fn,a8,T,b1,E,hR⟩:=HY.out _ (j:Int) _ P F
    have HA:Hid (Boxed (wr.alloc (.cells #[ab t,.slice A w z] 164)) u 3 (ab t)):=Q.out.alloc _
    have HE:=aa (pJ q.out I)
    have HP:=aa (qS (L:=L) (t:=t) (show j+1<=L.length by omega))
    have d:Hid (Below n W (wr.alloc (.cells #[ab t,.slice A w z] 164))):=S.out.alloc G _
    clear F P
    gi_wp2
    refine hR.mono ?_
    rintro e W3 (⟨rfl,O,f⟩|⟨rfl,o⟩)
    ·have a6:=aa (f.2 HA.out)
     have R:=aa (d.out.trans f.1)
     have V:n<=W3.heap.size:=by have:=f.1.size;simp at this;omega
     have a4:=aa O
     clear O f E hR HY
     gi_wp2
     go_roundw
     case rel=>
      refine⟨j+1,z_,by go_num,V,R.out,a6.out,?_⟩
      rw[HE.out]
      exact a4.out
     case measure=>simp[intOf];omega
    ·have a3:=aa o
     clear o E hR HY
     gi_wp2
     refine bodyPost_ret (results_none rfl _ _ _) rfl ?_
     refine⟨⟨_,rfl⟩,.inr ⟨_,?_,a3.out⟩⟩
     have p:=HP.out
     rw[HE.out] at p
     exact p
   ·have a1:(y.h==t)=false:=by simp[I]
    have a5:Hid (J (eu L t (j+1)) (wr.alloc (.cells #[ab y.h,.slice A w z] 164))):=by
     show J _ _
     rw[C6 q.out I]
     exact hJ _ wr _ none m.out ⟨rfl,rfl,rfl,q_,fun k hk _=>zU0 _ _ _ hk⟩ (fun r e=>by cases e)
    have HA:Hid (Boxed (wr.alloc (.cells #[ab y.h,.slice A w z] 164)) u 3 (ab t)):=Q.out.alloc _
    have d:Hid (Below n W (wr.alloc (.cells #[ab y.h,.slice A w z] 164))):=S.out.alloc G _
    gi_wp2
    refine⟨fun _ h=>(by cases h),?_⟩
    gi_wp2
    go_roundw
    case rel=>exact⟨j+1,z_,by go_num,by simp;omega,d.out,HA.out,a5.out⟩
    case measure=>simp[intOf];omega
  ·have H: ¬(j:Int)<L.length:=by omega
   obtain rfl:j=L.length:=z_
   have m:=aa i
   clear i c b
   gi_wp2
   go_end0
   exact⟨⟨_,rfl⟩,.inl m.out⟩
def A6 (b s:Nat) (t:Int) (w:World):
  CallsIn Fence.wide b Tryz.prog 178 #[ak s,ab t] w fun e a=>e= .returned (.func (.func 205) #[] #[ak w.heap.size,ak (w.heap.size+1)])/\
   a=(w.alloc (.cells #[ak s] 96)).alloc (.cells #[ab t] 3):=by
 refine callsIn_of_wp Tryz.func178 rfl trivial ?_ rfl
 simp only[Tryz.ntmps178,j_,Nat.reduceAdd,Nat.reduceSub]
 gi_wp2
 go_ret
 simp
def Lb.below {W W':World} {s:Nat} {a:Option Addr} {b c:Nat} {L:List Lk} (h:Lb W s a b L) (d:Below c W W') (q:s<c) (f: ∀g,a=some (ao g)->g<c):Lb W' s a b L:=by
 refine⟨(d.cell (p:=(af s 1)) q).trans h.c1,h.le,fun j y o=> ?_⟩
 obtain⟨g,n,l,m,e,k,i⟩:=h.ce j y o
 exact⟨g,n,l,m,e,(d.cell (p:=(af g (j*2))) (f g e)).trans k,(d.cell (p:=(af g (j*2+1))) (f g e)).trans i⟩
def yF (k:Nat) (q:1<=k) (j B2 b s:Nat) (a:Option Addr) (h:Nat) (L:List Lk) (t:Int) (w:World) (f:Boxed w j 96 (ak s)) (e:Boxed w B2 3 (ab t)) (o:Lb w s a h L) (u:L.length<=32) (m:s<b) (d: ∀g,a=some (ao g)->g<b) (c:b<=w.heap.size):
  SeqStopsK Fence.wide k Tryz.prog 205 #[ak j,ak B2] (fun x:Int=> #[Value.int .i64 x]) (Kh b B2 t) (fun n=>n=fq L t) (fun pre=>pre<+:fq L t) (fq L t).length w:=by
 intro l J A W i y v r z
 exact vD k q l j B2 b s a h L t J A r W ((i.cell (p:=(ao j)) f.lt).trans f.cell) ((i.block B2 e.lt).trans e) (o.below (i.mono c) m d) u d _ y (zY0 c i.size) z
def EH {a B2:Nat} {t:Int} {A B C:World} (h:Kh a B2 t A B) (b:Kh a B2 t B C):Kh a B2 t A C:=⟨h.1.trans b.1,fun q=>b.2 (h.2 q)⟩
def LI {w:World} {c B2:Nat} {t:Int} (f:c<=w.heap.size) (W:World) (l:Nat) (o a:Obj) (g:w.heap.size<=l) (b:W.heap[l]? =some o) (d:o.isCells=false) (hw:o.isWalk=false):Kh c B2 t W (W.putObj l a):=by
 refine⟨belowK_b f W l o a g b d hw,fun q=>q.kept (grownBy_putObj' W l a) (fun e=> ?_)⟩
 cases e
 rw[show W.heap[B2]? =_ from q] at b
 cases b
 cases d
def BQ {W f:World} {d B B2:Nat} {t:Int} {v h:Value} {k m:Nat} {j i:List Value} {c:Obj} (l:Boxed W B 123 v) (e:W.ownsRow d 3 1 v k j) (g:d<=W.heap.size) (p:d<=B) (o:B2≠B) (n:Boxed W B2 3 (ab t)->v.ownBlock≠some B2)
  (b:f.ownsRow d 3 1 h m i) (a:(W.alloc c).grownBy f v.ownBlock):Kh d B2 t W (f.setCell (ao B) h):=by
 refine⟨(l.appended x_ e g p b a).2.2.2.2,fun q=> ?_⟩
 have r:=(q.alloc c).kept a y_
 grind[Boxed.kept,grownBy_setCell']
def jj {w:World} {c base':Nat} {e:TypeId} {a:Nat} {v:Value} {n:Nat} {xs:List Value} (h:w.ownsRow c e a v n xs) (j: ∀k,v.ownBlock=some k->base'<=k):w.ownsRow base' e a v n xs:=by
 refine⟨h.1,?_⟩
 rcases h.2 with q|⟨g,f,d,i,l,b⟩
 ·grind
 ·exact .inr ⟨g,f,d,i,j g (by rw[i];rfl),b⟩
def xM (L:List Lk) (t:Int):(fq L t).length<=L.length:=by
 unfold fq eu
 grind
section
variable {w:World} {a s:Nat} {b c:Value} {V:List Value} {T:List Th} {L:List Lk}
def IU (h:dj w a s b c V T L) (t:Int) (S:oR T t=true):
  CallsIn Fence.wide 4 Tryz.prog 198 #[ak s,ab t] w fun e W'=> ∃v,e= .returned v/\W'.ownsRow w.heap.size 3 1 v (fq L t).length ((fq L t).map (Value.int .i64))/\aC w W':=by
 have HT:=aa (mI h t)
 rw[S] at HT
 have Q:=aa h
 have hL:=h.f.l2
 clear h S
 obtain⟨i0,hi,G,F,E⟩:=info_parts j4
 refine callsIn_of_wp_marks Tryz.func198 rfl trivial ?_ rfl
 simp only[Tryz.ntmps198,j_,Nat.reduceAdd,Nat.reduceSub]
 gi_wp2_with (first
  |(refine⟨trivial,?_⟩;gi_at_call 128;refine(callsIn_wide.2 HT.out).mono ?_;rintro e w' ⟨rfl,hw⟩;replace hw:=hw.symm;subst hw)
  |(refine⟨trivial,?_⟩;gi_at_call 178;refine(A6 _ s t _).mono ?_;rintro e w' ⟨rfl,rfl⟩))
 have U:=zY0 (xM L t) hL
 obtain⟨i,P,H,M⟩:=Q.out.Pu
 have z:=Q.out.lt
 have A:=fun g (e:i=some (ao g))=>(au Q.out.lko (k:=g) (by rw[H,e];rfl)).2.1
 have bO:=Boxed.new w 123 (.slice none 0 0)
 have b1:=Boxed.new (w.alloc (.cells #[.slice none 0 0] 123)) 96 (ak s)
 have b2:=Boxed.new ((w.alloc (.cells #[.slice none 0 0] 123)).alloc (.cells #[ak s] 96)) 3 (ab t)
 have p:aC w (((w.alloc (.cells #[.slice none 0 0] 123)).alloc (.cells #[ak s] 96)).alloc (.cells #[ab t] 3)):=(((i4 _ w).alloc aT _).alloc q_ _).alloc (by simp;omega) _
 simp only[World.size_alloc] at b1 b2|-
 refine wpIn_rangeFunc_ownG rfl x_ (gf:=205) (lb:= #[ak (w.heap.size+1),ak (w.heap.size+1+1)]) rfl trivial (enters_of Tryz.func205 (by rfl) rfl)
  (yF 3 x_ (w.heap.size+1) (w.heap.size+1+1) w.heap.size s i P L t _ (b1.alloc _) b2 (M.below p z A) hL z A p.size) EH (LI p.size) cj (fun _=>rfl)
  (fun (pre:List Int) W=>(∃v,Boxed W w.heap.size 123 v/\W.ownsRow w.heap.size 3 1 v pre.length (pre.map (Value.int .i64))/\(∀k,v.ownBlock=some k->w.heap.size+1+1+1<=k))/\aC w W/\w.heap.size+1+1+1<=W.heap.size)
  (fun _ _ _=>False)
  (OwnFrom.and (Own.from (holdsRow_own w.heap.size w.heap.size 123 3 1 (fun pre:List Int=>pre.length) (fun pre:List Int=>pre.map (Value.int .i64)) (fun _ v=> ∀k,v.ownBlock=some k->w.heap.size+1+1+1<=k)) _) (OwnFrom.and (ownFrom_below aT p.size) ?big))
  (fun _ _ _ _ _ J _ _=>J)
  ⟨⟨_,(bO.alloc _).alloc _,World.ownsRow_nil _ _ _ _,by simp[Value.ownBlock]⟩,p,q_⟩
  (fun x=>{tmps:= #[ak s,ab t,undef,undef,.slice none 0 0,ak w.heap.size,ab x,ak s,.bool false,.bool false,ak s,ab t,.bool true,.bool false,.bool false,ak s,ab t,.func (.func 205) #[] #[ak (w.heap.size+1),ak (w.heap.size+1+1)],ab x,undef,undef,undef,undef,undef],defers:=[]}) ?assign ?body ?done ?stop
 case big=>
  intro _ X Y a1 J hg _
  exact zY0 J hg.size
 case assign=>
  intro l x W K C
  gi_wp2
  exact C
 case body=>
  rintro l pre x W ⟨⟨v,y,j,I⟩,r,Z⟩ a5
  have hc:=y.cell
  have a3:=r.size
  have q:=jj j I
  gi_wp2_with (gi_at_builtin;refine wpListIn_append_own _ rfl _ _ 123 rfl (w.heap.size+1+1+1) 3 i0 (ab 0) 1 8 q_ hi G F E rfl x_ _ _ _ rfl (q.alloc _) (ao W.heap.size) 1 1 [ab x] rfl rfl (cell_one_new _ _ _) (by simp[Value.oneCell']) (by unfold maxLen;omega) z_ (by simp;omega) ?_;intro v' w1 n o _;have R: ∀k,v'.ownBlock=some k->w.heap.size+1+1+1<=k:=(fun k hk=>(au n hk).1);have m:=jj (base':=w.heap.size) n y_;obtain⟨g',a0,rfl⟩:=ownsRow_succ m;obtain⟨u,a2,a4,O,B⟩:=y.appended x_ j r.size aT m o;have N:=BQ (B2:=w.heap.size+1+1) (t:=t) y j r.size aT z_ y_ m o;have a7:=u.cell;have a6:=u.frozen)
  exact⟨O.from _,N,y_,r.trans B,by have:=B.size;omega⟩
 case done=>
  rintro D ys W hD rfl ⟨⟨v,y,j,_⟩,r,_⟩ C
  have hc:=y.cell
  gi_wp2
  refine⟨q_,.inl ⟨_,_,rfl,run_takeDeferred C,?_⟩⟩
  exact⟨_,results_tmp rfl _ _ _,v,rfl,ownsRow_putObj j _ C rfl,r.trans (belowK_b (w:=w) aT W D _ _ (by simp at hD;omega) C rfl rfl)⟩
 case stop=>
  rintro D d pre W _ _ h _
  exact h.elim
end
inductive wY (T:List Th) (L:List Lk):Int->List Int->Prop
 |stop:wY T L (-1) []
 |on {m i:Nat} {y:Lk} {x:Th} {xs:List Int}:L[m]? =some y->y.h=(i:Int)->T[i]? =some x->wY T L x.u xs->wY T L (m:Int) ((i:Int)::xs)
def dI.chain {T:List Th} {L:List Lk} (f:dI T L): ∀(m:Nat) (y:Lk),L[m]? =some y->0<=y.h-> ∃xs,wY T L (m:Int) xs:=by
 obtain⟨B,r,A,s⟩:=f.ac
 suffices h: ∀(k m:Nat) (y:Lk) (i:Nat),L[m]? =some y->y.h=(i:Int)->B-r i<=k-> ∃xs,wY T L (m:Int) xs by
  intro m y e t
  exact h _ m y y.h.toNat e z_ aT
 intro k
 induction k with
 |zero=>
  intro m y i e hi x
  have q:=f.lk y (i9 e)
  have n:i<T.length:=by have:=q.2.1;omega
  have g:=zX0 n
  have c:=f.th _ (i9 g)
  by_cases p:(T[i]).u= -1
  ·exact⟨_,.on e hi g (by rw[p];exact .stop)⟩
  ·exfalso
   obtain⟨b,d⟩: ∃b:Nat,(T[i]).u=(b:Int):=⟨(T[i]).u.toNat,by have:=c.2.1;omega⟩
   have j:b<L.length:=by have:=c.2.2;omega
   have a:=zX0 j
   have l:=(f.wt i _ g b _ a).2 d
   have t:=(f.lk _ (i9 a)).2.2.2.2 y_
   have:=s i (L[b]).h.toNat ⟨_,i9 a,l,z_⟩
   grind
 |succ k v=>
  intro m y i e hi x
  have q:=f.lk y (i9 e)
  have n:i<T.length:=by have:=q.2.1;omega
  have g:=zX0 n
  have c:=f.th _ (i9 g)
  by_cases p:(T[i]).u= -1
  ·exact⟨_,.on e hi g (by rw[p];exact .stop)⟩
  ·obtain⟨b,d⟩: ∃b:Nat,(T[i]).u=(b:Int):=⟨(T[i]).u.toNat,by have:=c.2.1;omega⟩
   have j:b<L.length:=by have:=c.2.2;omega
   have a:=zX0 j
   have l:=(f.wt i _ g b _ a).2 d
   have t:=(f.lk _ (i9 a)).2.2.2.2 y_
   have w:=s i (L[b]).h.toNat ⟨_,i9 a,l,z_⟩
   have z:=A (L[b]).h.toNat
   obtain⟨xs,o⟩:=v b _ (L[b]).h.toNat a z_ z_
   exact⟨_,.on e hi g (by rw[d];exact o)⟩
def wY.leads {T:List Th} {L:List Lk} (f:dI T L) {k:Int} {l:List Int} (h:wY T L k l): ∀(m:Nat) (y:Lk) (i:Nat),k=(m:Int)->L[m]? =some y->y.h=(i:Int)-> ∀t:Nat,((t:Int)∈l↔fw L i t):=by
 induction h with
 |stop=>omega
 | @on A i0 w n l B E d s v=>
  intro m y i e H hi t
  obtain rfl:A=m:=z_
  obtain rfl:w=y:=y_
  obtain rfl:i0=i:=z_
  have j:=f.th _ (i9 d)
  constructor
  ·intro C
   rcases List.mem_cons.1 C with q|q
   ·obtain rfl:t=i0:=by omega
    exact .here _
   ·by_cases p:n.u= -1
    ·rw[p] at s
     generalize hz:(-1:Int)=z at s
     cases s with
     |stop=>simp at q
     |on=>omega
    ·obtain⟨a,b⟩: ∃a:Nat,n.u=(a:Int):=⟨n.u.toNat,by have:=j.2.1;omega⟩
     have r:a<L.length:=by have:=j.2.2;omega
     have c:=zX0 r
     have g:=(f.wt i0 _ d a _ c).2 b
     have I:=(f.lk _ (i9 c)).2.2.2.2 y_
     exact .on ⟨_,i9 c,g,(by omega:(L[a]).h=(((L[a]).h.toNat:Nat):Int))⟩ ((v a _ (L[a]).h.toNat b c z_ t).1 q)
  ·intro D
   cases D with
   |here=>simp
   | @on _ x _ G F=>
    right
    obtain⟨z,hz,g,o⟩:=G
    obtain⟨a,b⟩:=List.mem_iff_getElem?.1 hz
    have p:=(f.wt i0 _ d a z b).1 g
    exact(v a z x p b o t).2 F
structure LA (W:World) (s g cap:Nat) (T:List Th):Prop where
 c0:W.cell? (ao s)=some (.slice (some (ao g)) T.length cap)
 le:T.length<=cap/\cap<=maxLen
 ce: ∀(j:Nat) x,T[j]? =some x->W.cell? (af g (j*4))=some (.bool x.k.e)/\W.cell? (af g (j*4+1))=some (aj x.k.d)/\W.cell? (af g (j*4+2))=some (aA x.k.l)/\W.cell? (af g (j*4+3))=some (ab x.u)
def dj.Qh {w:World} {b s:Nat} {c d:Value} {V:List Value} {T:List Th} {L:List Lk} (h:dj w b s c d V T L): ∃g a,c= .slice (some (ao g)) T.length a/\LA w s g a T:=by
 obtain⟨g,a,rfl,i,f,_,_,_,e⟩:=h.rJ
 exact⟨g,a,rfl,h.c0,⟨i,f⟩,e⟩
def LA.below {W W':World} {s g b d:Nat} {T:List Th} (h:LA W s g b T) (a:Below d W W') (m:s<d) (c:g<d):LA W' s g b T:=by
 refine⟨(a.cell (p:=(ao s)) m).trans h.c0,h.le,fun j x l=> ?_⟩
 obtain⟨k,i,f,e⟩:=h.ce j x l
 exact⟨(a.cell (p:=(af g (j*4))) c).trans k,(a.cell (p:=(af g (j*4+1))) c).trans i,(a.cell (p:=(af g (j*4+2))) c).trans f,(a.cell (p:=(af g (j*4+3))) c).trans e⟩
def Kg (b B s:Nat) (A a:World):Prop:=Below b A a/\(Boxed A B 96 (ak s)->Boxed a B 96 (ak s))
theorem wY.one {T:List Th} {L:List Lk} {p:Int} {xs:List Int} (h:wY T L p xs): ∀b,wY T L p b->b=xs:=by
 induction h with
 |stop=>
  intro b a
  generalize hz:(-1:Int)=z at a
  cases a with
  |stop=>rfl
  |on=>omega
 | @on m i y x xs q hi r s n=>
  intro b a
  generalize hz:(m:Int)=z at a
  cases a with
  |stop=>omega
  | @on l o j k c d f e g=>
   grind
open Classical in
noncomputable def vd (T:List Th) (L:List Lk) (p:Int):Nat:=if h: ∃a,wY T L p a then h.choose.length else 0
def uV {T:List Th} {L:List Lk} {p:Int} {xs:List Int} (h:wY T L p xs):vd T L p=xs.length:=by
 have a: ∃xs,wY T L p xs:=⟨xs,h⟩
 unfold vd
 rw[dif_pos a,h.one _ a.choose_spec]
def qF (U:Nat) (hn:1<=U) (l B1 S B s gt ct:Nat) (a:Option Addr) (Z:Nat) (T:List Th) (L:List Lk) (m:Int) (o:List Int) (F:wY T L m o) (J Jx:List Int->World->Prop)
  (hY: ∀pre x W,J pre W->pre.length<o.length->YieldAt Fence.wide (U-1) Tryz.prog l #[ab x] W fun e A=>
   (e= .returned (.bool true)/\J (pre++[x]) A/\Kg B S s W A)\/(e= .returned (.bool false)/\Jx (pre++[x]) A))
  (W:World) (b5:W.cell? (ao B1)=some (ab m)) (G:Boxed W S 96 (ak s)) (hr:Lb W s a Z L) (ht:LA W s gt ct T) (hT:T.length<=1024) (hL:L.length<=32) (D:s<B) (V:gt<B) (X: ∀g,a=some (ao g)->g<B) (h0:J [] W):
  CallsIn Fence.wide U Tryz.prog 242 #[.func (.yield l) #[] #[],ak B1,ak S] W fun e A=>(∃v,e= .returned v)/\
   ((∃ys,ys=o/\J ys A)\/(∃pre,pre<+:o/\Jx pre A)):=by
 have HR:=aa hr
 have HT:=aa ht
 have a6:=aa G
 have H0:=aa h0
 have HY:=aa hY
 have HC:=aa F
 clear G hr h0 hY ht F
 refine callsIn_of_wp Tryz.func242 rfl trivial ?_ rfl
 simp only[Tryz.ntmps242,j_,Nat.reduceAdd,Nat.reduceSub]
 gi_wp2
 gi_loopw [4] (fun p wr=> ∃(d r:List Int) (q:Int),o=d++r/\p=ab q/\wY T L q r/\Below B W wr/\Boxed wr S 96 (ak s)/\J d wr)
  (fun p _=>vd T L (intOf p))
 case atStart=>exact⟨[],o,m,rfl,rfl,HC.out,cj,a6.out,H0.out⟩
 case round=>
  obtain⟨d,r,q,P,rfl,hc,h,f,j⟩:=hrel
  cases hc with
  |stop=>
   have a2:=aa j
   have R:=aa P
   clear j h f P
   gi_wp2
   go_end0
   have e:o=d:=by rw[R.out];simp
   exact⟨⟨_,rfl⟩,.inl ⟨_,e.symm,a2.out⟩⟩
  | @on k i y x xs N hi O c=>
   have hk:=(i6.1 N).1
   have b1:(k:Int)<L.length:=z_
   have b4:=(i6.1 O).1
   have a8:(i:Int)<T.length:=z_
   have b0: ¬(k:Int)= -1:=z_
   have w:=HR.out.below h D X
   obtain⟨g,va,vn,vc,rfl,y0,y1⟩:=w.ce k y N
   rw[hi] at y0
   have c1:=w.c1
   have b2:=f.cell
   have E:d.length<o.length:=y_
   obtain⟨fn,a7,Q,a9,C,Y⟩:=HY.out d (i:Int) wr j E
   have HM:Hid (vd T L x.u<vd T L (k:Int)):=by
    show _<_
    rw[uV c,uV (.on N hi O c)]
    simp
   have a5:=aa h
   have a4:=aa f
   have R:=aa P
   have HX:=aa O
   have a3:=aa c
   clear h f P j w E O c N hi
   gi_wp2
   refine Y.mono ?_
   rintro e W3 (⟨rfl,H,z⟩|⟨rfl,n⟩)
   ·have b:=a5.out.trans z.1
    have M:=aa (z.2 a4.out)
    have b3:=M.out.cell
    have t:=HT.out.below b D V
    have c0:=t.c0
    obtain⟨x0,x1,x2,x3⟩:=t.ce i x HX.out
    have I:=aa b
    have a1:=aa H
    clear b t H z C Y HY
    gi_wp2
    go_roundw
    case rel=>exact⟨d++[(i:Int)],xs,x.u,by rw[R.out];simp,rfl,a3.out,I.out,M.out,a1.out⟩
    assumption
   ·have a0:=aa n
    clear n C Y HY
    gi_wp2
    refine bodyPost_ret (results_none rfl _ _ _) rfl ?_
    refine⟨⟨_,rfl⟩,.inr ⟨_,?_,a0.out⟩⟩
    exact⟨xs,by rw[R.out];simp⟩
def xI (b s:Nat) (m:Int) (w:World):
  CallsIn Fence.wide b Tryz.prog 235 #[ak s,ab m] w fun e a=>e= .returned (.func (.func 242) #[] #[ak (w.heap.size+1),ak w.heap.size])/\
   a=(w.alloc (.cells #[ak s] 96)).alloc (.cells #[ab m] 3):=by
 refine callsIn_of_wp Tryz.func235 rfl trivial ?_ rfl
 simp only[Tryz.ntmps235,j_,Nat.reduceAdd,Nat.reduceSub]
 gi_wp2
 go_ret
 simp
def rz (r:Nat) (B:1<=r) (q n c s u v:Nat) (a:Option Addr) (k:Nat) (T:List Th) (L:List Lk) (m:Int) (j:List Int) (t:wY T L m j) (w:World) (i:Boxed w q 3 (ab m)) (h:Boxed w n 96 (ak s)) (A:Lb w s a k L) (z:LA w s u v T) (D:T.length<=1024) (E:L.length<=32) (b:s<c) (e:u<c) (f: ∀g,a=some (ao g)->g<c) (d:c<=w.heap.size):
  SeqStopsK Fence.wide r Tryz.prog 242 #[ak q,ak n] (fun x:Int=> #[Value.int .i64 x]) (Kg c n s) (fun y=>y=j) (fun pre=>pre<+:j) j.length w:=by
 intro l J H W o I F C G
 exact qF r B l q n c s u v a k T L m j t J H C W ((o.cell (p:=(ao q)) i.lt).trans i.cell) ((o.block n h.lt).trans h) (A.below (o.mono d) b f) (z.below (o.mono d) b e) D E b e f G
def GR {a B s:Nat} {A C D:World} (h:Kg a B s A C) (b:Kg a B s C D):Kg a B s A D:=⟨h.1.trans b.1,fun q=>b.2 (h.2 q)⟩
def MU {w:World} {c B s:Nat} (f:c<=w.heap.size) (W:World) (l:Nat) (o a:Obj) (g:w.heap.size<=l) (b:W.heap[l]? =some o) (d:o.isCells=false) (hw:o.isWalk=false):Kg c B s W (W.putObj l a):=by
 refine⟨belowK_b f W l o a g b d hw,fun q=>q.kept (grownBy_putObj' W l a) (fun e=> ?_)⟩
 cases e
 rw[show W.heap[B]? =_ from q] at b
 cases b
 cases d
section
variable {w:World} {a s:Nat} {b c:Value} {V:List Value} {T:List Th} {L:List Lk}
def E8 (h:dj w a s b c V T L) (m t:Int) (X:List Int) (F:wY T L m X):
  CallsIn Fence.wide 4 Tryz.prog 219 #[ak s,ab m,ab t] w fun e W'=>e= .returned (.bool (decide (t∈X)))/\aC w W':=by
 have G:=aa h
 have hL:=h.f.l2
 have hT:=h.f.t2
 have HC:=aa F
 clear h F
 refine callsIn_of_wp_marks Tryz.func219 rfl trivial ?_ rfl
 simp only[Tryz.ntmps219,j_,Nat.reduceAdd,Nat.reduceSub]
 gi_wp2_with (refine⟨trivial,?_⟩;gi_at_call 235;refine(xI _ s m _).mono ?_;rintro e w' ⟨rfl,rfl⟩)
 obtain⟨i,Y,M,P⟩:=G.out.Pu
 obtain⟨gt,ct,J,O⟩:=G.out.Qh
 have y:=G.out.lt
 have C:=(au G.out.tho (k:=gt) (by rw[J];rfl)).2.1
 have E:=fun g (e:i=some (ao g))=>(au G.out.lko (k:=g) (by rw[M,e];rfl)).2.1
 have bt:=Boxed.new w 3 (ab t)
 have br:=Boxed.new (w.alloc (.cells #[ab t] 3)) 4 (.bool false)
 have bg:=Boxed.new ((w.alloc (.cells #[ab t] 3)).alloc (.cells #[.bool false] 4)) 96 (ak s)
 have bm:=Boxed.new (((w.alloc (.cells #[ab t] 3)).alloc (.cells #[.bool false] 4)).alloc (.cells #[ak s] 96)) 3 (ab m)
 have n:aC w ((((w.alloc (.cells #[ab t] 3)).alloc (.cells #[.bool false] 4)).alloc (.cells #[ak s] 96)).alloc (.cells #[ab m] 3)):=((((i4 _ w).alloc aT _).alloc q_ _).alloc (by simp;omega) _).alloc (by simp;omega) _
 simp only[World.size_alloc] at br bg bm|-
 refine wpIn_rangeFunc_ownG rfl x_ (gf:=242) (lb:= #[ak (w.heap.size+1+1+1),ak (w.heap.size+1+1)]) rfl trivial (enters_of Tryz.func242 (by rfl) rfl)
  (rz 3 x_ (w.heap.size+1+1+1) (w.heap.size+1+1) w.heap.size s gt ct i Y T L m X HC.out _ bm (bg.alloc _) (P.below n y E) (O.below n y C) hT hL y C E n.size) GR (MU n.size) cj (fun _=>rfl)
  (fun (pre:List Int) W=>(t ∉ pre)/\Boxed W w.heap.size 3 (ab t)/\Boxed W (w.heap.size+1) 4 (.bool false)/\aC w W)
  (fun d (pre:List Int) W=>(d= .ret/\t∈pre)/\Boxed W (w.heap.size+1) 4 (.bool true)/\aC w W)
  (OwnFrom.and (ownFrom_pure _ _) (OwnFrom.and (Own.from (boxed_own w.heap.size 3 (fun _:List Int=>ab t)) _) (OwnFrom.and (Own.from (boxed_own (w.heap.size+1) 4 (fun _:List Int=> .bool false)) _) (ownFrom_below aT n.size))))
  (fun d=>OwnFrom.and (ownFrom_pure _ _) (OwnFrom.and (Own.from (boxed_own (w.heap.size+1) 4 (fun _:List Int=> .bool true)) _) (ownFrom_below aT n.size)))
  ⟨q_,((bt.alloc _).alloc _).alloc _,(br.alloc _).alloc _,n⟩
  (fun x=>{tmps:= #[ak s,ab m,ab t,undef,undef,ak w.heap.size,ak (w.heap.size+1),ab x,ak s,ab m,.func (.func 242) #[] #[ak (w.heap.size+1+1+1),ak (w.heap.size+1+1)],ab x,undef,undef,undef],defers:=[]}) ?assign ?body ?done ?stop
 case assign=>
  intro l x W K v
  gi_wp2
  exact v
 case body=>
  rintro l pre x W ⟨z,o,j,A⟩ a1
  have a2:=o.cell
  have R:=j.cell
  have Q:=j.frozen
  have H:=aa z
  have Z:=aa o
  have r:=aa j
  have I:=aa A
  clear z o j A
  by_cases hx:x=t
  ·subst hx
   gi_wp2
   exact⟨(yX0 _ _ _).from _,y_,r.out.set _,I.out.setCell (p:=(ao (w.heap.size+1))) q_ _⟩
  ·have a0:(x==t)=false:=by simp[hx]
   gi_wp2
   refine⟨(KeepsOthers.refl _).from _,⟨cj,id⟩,?_,Z.out,r.out,I.out⟩
   have:=H.out
   grind
 case done=>
  rintro D ys W S rfl ⟨z,o,j,A⟩ v
  have R:=j.cell
  have Q:=j.frozen
  have r:=aa j
  have H:=aa z
  have I:=aa A
  clear z o j A
  gi_wp2
  have q:=(yX0 W (ao (w.heap.size+1)) (.bool false)).same D _ v rfl
  have u:=r.out.set (.bool false)
  refine⟨q_,.inl ⟨_,_,rfl,run_takeDeferred q,?_⟩⟩
  have B:=u.kept (grownBy_putObj' _ D (.deferred none)) (fun e=>by cases e;rw[show(W.setCell (ao (w.heap.size+1)) (.bool false)).heap[w.heap.size+1]? =_ from u] at q;cases q)
  have U:=B.cell
  refine⟨.bool false,?_,?_,(I.out.setCell (p:=(ao (w.heap.size+1))) q_ _).trans (belowK_b (w:=w) aT _ D _ _ (by simp at S;omega) q rfl rfl)⟩
  ·simp[results,Tryz.f219,go_sem,U]
  ·rw[yU0 H.out]
 case stop=>
  rintro D d pre W S N ⟨⟨rfl,z⟩,j,A⟩ v
  have H:=aa (N.subset z)
  gi_wp2
  refine⟨q_,.inl ⟨_,_,rfl,run_takeDeferred v,?_⟩⟩
  have B:=j.kept (grownBy_putObj' _ D (.deferred none)) (fun e=>by cases e;rw[show W.heap[w.heap.size+1]? =_ from j] at v;cases v)
  have U:=B.cell
  refine⟨.bool true,?_,?_,A.trans (belowK_b (w:=w) aT W D _ _ (by simp at S;omega) v rfl rfl)⟩
  ·simp[results,Tryz.f219,go_sem,U]
  grind
def vE (h:dj w a s b c V T L) (j:Nat) (t:Nat) (y:Lk) (k:L[j]? =some y) (i:Nat) (hi:y.h=(i:Int)):
  ∃d,(d=true↔fw L i t)/\aB 219 #[ak s,ab j,ab t] w fun e W'=>e= .returned (.bool d)/\aC w W':=by
 obtain⟨l,g⟩:=h.f.chain j y k z_
 refine⟨decide ((t:Int)∈l),?_,callsIn_wide.1 (E8 h (j:Int) (t:Int) l g)⟩
 rw[decide_eq_true_iff]
 exact g.leads h.f j y i rfl k hi t
end
end Go.Proofs.YtnmhcgpnhlhcgaaGreatDoor.Pi
namespace Go.Proofs.YtnmhcgpnhlhcgaaGreatDoor.Pi
open Go.Proofs.YtnmhcgpnhlhcgaaGreatDoor.Ke
open Go.Lib
open Go.RowKit
section
variable {w:World} {a s:Nat} {b c:Value} {V:List Value} {T:List Th} {L:List Lk}
theorem xZ (h:dj w a s b c V T L) (i j:Nat) (p:eo T L i j=0) (y:Lk) (m:L[j]? =some y) (k:Nat) (n:y.h=(k:Int)) (D:k≠i) (o:fw L k i):vQ 190 #[ak s,ab i,ab j] w (.tuple #[.bool false,ab 8]):=by
 have r:=aa (df h (i:Int) (j:Int))
 obtain⟨d,q,l⟩:=vE h j i y m k n
 obtain rfl:d=true:=q.2 o
 have HL:=aa l
 clear q l o
 rw[p] at r
 have F:=(i6.1 m).1
 have E:(j:Int)<L.length:=z_
 obtain⟨v,u⟩:=h.line F
 obtain⟨g,J,rfl,I,H,O,G,_,l⟩:=h.kR z_
 obtain⟨t,M⟩:=l j y v m u
 rw[n] at t
 have P:=h.c1
 have C:((k:Int)==(i:Int))=false:=y_
 have B:((k:Int)== -1)=false:=q_
 have A: ¬(k:Int)=i:=z_
 have z: ¬(k:Int)= -1:=z_
 have x:=D
 clear h l p
 refine ge ?_
 go_wp2_with (first
  |(go_at_call 191;refine cS r.out ?_)
  |(go_at_call 219;refine(HL.out).mono ?_;rintro e N ⟨rfl,f⟩;replace f:=aa f))
 simp[bodyPost,results,Tryz.results190,go_sem]
 exact f.out
end
def getSet {α:Type} {l:List α} {i j:Nat} {a b:α} (h:(l.set i a)[j]? =some b):(i=j/\b=a)\/(i≠j/\l[j]? =some b):=by
 grind
def dI.wait {T:List Th} {L:List Lk} (f:dI T L) {i j k:Nat} {x:Th} {y:Lk} (e:T[i]? =some x) (v:x.u= -1) (d:L[j]? =some y) (w:y.h=(k:Int)) (s: ¬fw L k i):
  dI (T.set i ⟨x.k,(j:Int)⟩) (L.set j ⟨y.h,y.l++[i]⟩):=by
 have hi:=(i6.1 e).1
 have A:=(i6.1 d).1
 have c:=f.lk y (i9 d)
 have p: ∀(m:Nat) (z:Lk),L[m]? =some z->i ∉ z.l:=by
  intro m z hz q
  have:=(f.wt i x e m z hz).1 q
  omega
 refine⟨y_,by simpa using f.t2,by simpa using f.l2,?_,?_,?_,?_⟩
 ·intro z hz
  rw[List.length_set]
  rcases yZ0 hz with q|q
  ·exact f.th z q
  ·subst q
   refine⟨(f.th x (i9 e)).1,?_,?_⟩
   ·simp
   grind
 ·intro z hz
  rw[List.length_set]
  rcases yZ0 hz with q|q
  ·exact f.lk z q
  ·subst q
   refine⟨c.1,c.2.1,?_,?_,?_⟩
   ·intro t o
    rcases List.mem_append.1 o with r|r
    ·exact c.2.2.1 t r
    grind
   ·show(y.l++[i]).Nodup
    rw[List.nodup_append]
    refine⟨c.2.2.2.1,q_,?_⟩
    grind
   grind
 ·grind[Pi.dI.wt]
 ·refine f.ac.more s ?_
  rintro a b ⟨z,hz,n,g⟩
  rcases yZ0 hz with q|q
  ·exact .inl ⟨z,q,n,g⟩
  ·subst q
   rcases List.mem_append.1 n with r|r
   ·exact .inl ⟨y,i9 d,r,g⟩
   grind
def dI.P0 {T:List Th} {L:List Lk} (f:dI T L) {j:Nat} {y:Lk} (g:L[j]? =some y) (e:y.l=[]):dI T (L.set j ⟨-1,y.l⟩):=by
 have c:=f.lk y (i9 g)
 refine⟨f.t1,f.t2,by simpa using f.l2,by simpa using f.th,?_,?_,f.ac.less ?_⟩
 ·intro z hz
  rcases yZ0 hz with q|q
  ·exact f.lk z q
  ·subst q
   refine⟨q_,y_,c.2.2.1,c.2.2.2.1,fun q=>absurd e q⟩
 ·grind[Pi.dI.wt]
 ·rintro a b ⟨z,hz,d,h⟩
  rcases yZ0 hz with q|q
  ·exact⟨z,q,d,h⟩
  ·subst q
   rw[e] at d
   simp at d
def dI.next {T:List Th} {L:List Lk} (f:dI T L) {i j p:Nat} {x:Th} {y:Lk} (d:T[i]? =some x) (v:L[j]? =some y) (C:y.l[p]? =some i):
  dI (T.set i ⟨x.k,-1⟩) (L.set j ⟨(i:Int),y.l.eraseIdx p⟩):=by
 have hi:=(i6.1 d).1
 have c:=f.lk y (i9 v)
 have o:=i9 C
 have W:=(f.wt i x d j y v).1 o
 have g:=c.2.2.2.1
 have D: ∀t,t∈y.l.eraseIdx p↔t∈y.l/\t≠i:=by
  intro t
  obtain⟨M,N⟩:=i6.1 C
  rw[List.mem_eraseIdx_iff_getElem?]
  constructor
  ·rintro⟨q,A,E⟩
   refine⟨i9 E,fun e=>A ?_⟩
   subst e
   obtain⟨H,I⟩:=i6.1 E
   have J:=List.pairwise_iff_getElem.1 g
   grind
  ·rintro⟨w,P⟩
   obtain⟨q,A⟩:=List.mem_iff_getElem?.1 w
   grind
 have O: ∀(m:Nat) (z:Lk),L[m]? =some z->m≠j->i ∉ z.l:=by
  intro m z hz n q
  have:=(f.wt i x d m z hz).1 q
  omega
 refine⟨y_,by simpa using f.t2,by simpa using f.l2,?_,?_,?_,?_⟩
 ·intro z hz
  rw[List.length_set]
  rcases yZ0 hz with q|q
  ·exact f.th z q
  ·subst q
   refine⟨(f.th x (i9 d)).1,?_,?_⟩
   ·simp
   grind
 ·intro z hz
  rw[List.length_set]
  rcases yZ0 hz with q|q
  ·exact f.lk z q
  ·subst q
   refine⟨q_,y_,fun t w=>c.2.2.1 t y_,y_,fun _=>by simp⟩
 ·intro t z hz m u n
  rcases getSet hz with ⟨rfl,rfl⟩|⟨V,F⟩
  ·grind
  grind[Pi.dI.wt]
 ·obtain⟨B,r,R,G⟩:=f.ac
  refine⟨B+1,fun z=>if z=i then B+1 else r z,fun z=> ?_,?_⟩
  ·grind
  ·rintro a b ⟨z,hz,S,s⟩
   show(if a=i then B+1 else r a)<(if b=i then B+1 else r b)
   have Q:=R a
   obtain⟨m,n⟩:=List.mem_iff_getElem?.1 hz
   rcases getSet n with ⟨rfl,rfl⟩|⟨U,h⟩
   ·grind
   ·have Y:a≠i:=fun e=>y_
    have X:=G a b ⟨z,i9 h,S,s⟩
    grind
end Go.Proofs.YtnmhcgpnhlhcgaaGreatDoor.Pi
