/- YtjlbmmiomfpgiaaGreatDoorGi: of the texts I1 I2 I3 I4 I5 I6 I7 I8 I9 I10 I11 I12 I13 I14 I15 I16 I18 I19 I20 I21 I22 I23 I24 I25 I26 I27 I28 I29 I30 I31 I32 I33 what is wanted. -/
import Derived.Test.YtjlbmmiomfpgiaaGreatDoorG0
import Derived.Test.YtjlbmmiomfpgiaaGreatDoorGa
import Derived.Laws.OwnMore
import Derived.Maps.AppendAt
import Derived.Deep.AppendLies
import Derived.OneCell
import Derived.OwnWalk
import Derived.Laws.MakeOwn
import Derived.RangeFuncNested
import Derived.RangeFuncBound
import Derived.RangeFuncCalls
import Derived.RangeFuncLeaves
import Derived.RangeFuncBox
import Derived.Shelf.Abstract
import Derived.Shelf.RegionOpen
import Derived.WalkKit
import Derived.OwnWalkIn
import Derived.TacticsInMore
import Derived.LoopNIn
import Derived.LoopIn
import Derived.OrdersHeld
import Derived.OrdersIn
import Derived.Laws.EntriesVeiled
import Derived.Shelf.SlicesE.Delete
set_option maxHeartbeats 16000000
set_option maxRecDepth 100000
set_option linter.unusedVariables false
set_option linter.unusedSimpArgs false
namespace Go.Proofs.YtjlbmmiomfpgiaaGreatDoor.Pi
open Go.Proofs.YtjlbmmiomfpgiaaGreatDoor.Ke
open Go.Lib
open Go.RowKit hiding Hid
structure Fr (S:Nat->Prop) (w w':World):Prop where
 os:w'.os=w.os
 tape:w'.tape=w.tape
 output:w'.output=w.output
 size:w.heap.size<=w'.heap.size
 block: ∀k,k<w.heap.size-> ¬S k->w'.heap[k]? =w.heap[k]?
section
variable {S S':Nat->Prop} {w w' w'':World}
theorem Fr.wide (h:Fr S w w') (hs: ∀k,k<w.heap.size->S k->S' k):Fr S' w w':=⟨h.os,h.tape,h.output,h.size,fun k hk hn=>h.block k hk (fun q=>hn (hs k hk q))⟩
theorem Fr.setCell (h:Fr S w w') {a:Addr} (hb:S a.block) (u:Value):Fr S w (w'.setCell a u):=
 ⟨h.os,h.tape,h.output,by simpa using h.size,fun k hk hn=>(yY0 _ _ _ _ (fun e=>hn (by rw[e];exact hb))).trans (h.block k hk hn)⟩
theorem Fr.aC (h:Below w.heap.size w w'):Fr S w w':=⟨h.os,h.tape,h.output,h.size,fun k hk _=>h.block k hk⟩
end
theorem aU {w:World} {base:Nat} {e:TypeId} {size g n cap:Nat} {xs:List Value} (h:w.ownsRow base e size (.slice (some ⟨g,0,none⟩) n cap) n xs) (k:Nat) (hk:k<n*size) (u:Value):
  (w.setCell ⟨g,k,none⟩ u).ownsRow base e size (.slice (some ⟨g,0,none⟩) n cap) n (xs.set k u):=by
 refine⟨by simpa using h.1,?_⟩
 rcases h.2 with ⟨e1,_⟩|⟨g',cap',cur,e1,h0,h1,h2,h3,h4,h5⟩
 ·simp at e1
 ·simp at e1
  obtain⟨rfl,rfl⟩:=e1
  refine .inr ⟨g,cap,cur.setIfInBounds k u,rfl,h0,?_,h2,h3,by simpa using h4,?_⟩
  ·exact Go.Joins.block_setCell h1 u
  ·rw[←h5]
   simp[List.take_set]
theorem dX {w:World} {base:Nat} {e:TypeId} {size g n cap:Nat} {xs:List Value} (h:w.ownsRow base e size (.slice (some ⟨g,0,none⟩) n cap) n xs) (k:Nat):w.frozen? ⟨g,k,none⟩=false:=by
 rcases h.2 with ⟨e1,_⟩|⟨g',cap',cur,e1,h0,h1,h2,h3,h4,h5⟩
 ·simp at e1
 ·simp at e1
  obtain⟨rfl,rfl⟩:=e1
  unfold World.frozen?
  simp[h1]
theorem a8 {w:World} {base:Nat} {e:TypeId} {size:Nat} {v:Value} {n:Nat} {xs:List Value} (h:w.ownsRow base e size v n xs) {w':World} (hh: ∀k,v.ownBlock=some k->w'.heap[k]? =w.heap[k]?):w'.ownsRow base e size v n xs:=by
 refine⟨h.1,?_⟩
 rcases h.2 with hn|⟨g,cap,cur,rfl,hb,hgg,rest⟩
 ·exact .inl hn
 ·exact .inr ⟨g,cap,cur,rfl,hb,(hh g rfl).trans hgg,rest⟩
theorem aw {w:World} {base:Nat} {e:TypeId} {size:Nat} {v:Value} {n:Nat} {xs:List Value} (h:w.ownsRow base e size v n xs) {k:Nat} (hk:v.ownBlock=some k):base<=k/\k<w.heap.size/\ ∃cur,w.heap[k]? =some (.cells cur e (0,0)):=by
 rcases h.2 with ⟨rfl,_⟩|⟨g,cap,cur,rfl,hb,hgg,rest⟩
 ·simp[Value.ownBlock] at hk
 ·simp[Value.ownBlock] at hk
  subst hk
  exact⟨hb,(Array.getElem?_eq_some_iff.1 hgg).1,cur,hgg⟩
structure Th where
 k:K
 u:Int
structure Lk where
 h:Int
 l:List Nat
def Th.ok (n:Nat) (x:Th):Prop:=x.k.ok/\ -1<=x.u/\x.u<n
def Lk.ok (n:Nat) (x:Lk):Prop:= -1<=x.h/\x.h<n/\(∀t∈x.l,t<n)/\x.l.Nodup/\(x.l≠[]->0<=x.h)
def Edge (L:List Lk) (t s:Nat):Prop:= ∃y∈L,t∈y.l/\y.h=(s:Int)
def xH (L:List Lk):Prop:= ∃(B:Nat) (r:Nat->Nat),(∀x,r x<=B)/\ ∀t s,Edge L t s->r t<r s
structure mB (T:List Th) (L:List Lk):Prop where
 t1:1<=T.length
 t2:T.length<=1024
 l2:L.length<=32
 th: ∀x∈T,x.ok L.length
 lk: ∀y∈L,y.ok T.length
 wt: ∀(t:Nat) x,T[t]? =some x-> ∀(m:Nat) y,L[m]? =some y->(t∈y.l↔x.u=(m:Int))
 ac:xH L
def behind (L:List Lk) (t:Nat):List Nat:=(L.filter (fun y=>y.h==(t:Int))).flatMap (·.l)
theorem gB {L:List Lk} {t s:Nat}:s∈behind L t↔Edge L s t:=by
 unfold behind Edge
 simp only[List.mem_flatMap,List.mem_filter,beq_iff_eq]
 constructor
 ·rintro⟨y,⟨h1,h2⟩,h3⟩
  exact⟨y,h1,h3,h2⟩
 ·rintro⟨y,h1,h3,h2⟩
  exact⟨y,⟨h1,h2⟩,h3⟩
def lN (T:List Th) (t:Nat):K:=(T[t]?.map (·.k)).getD (bc 0)
def kf (T:List Th) (L:List Lk):Nat->Nat->K
 |0,t=>lN T t
 |n+1,t=>(behind L t).foldl (fun k x=>dU k (kf T L n x)) (lN T t)
theorem mI {α β:Type} {f g:β->α->β}: ∀(l:List α) (b:β),(∀x∈l,∀b,f b x=g b x)->l.foldl f b=l.foldl g b
 |[],b,_=>rfl
 |x::l,b,h=>by
  rw[List.foldl_cons,List.foldl_cons,h x (by simp)]
  exact mI l _ (fun y hy=>h y (by simp[hy]))
theorem zC {T:List Th} {L:List Lk} {r:Nat->Nat} (h: ∀t s,Edge L t s->r t<r s): ∀(n:Nat) (t:Nat),r t<=n-> ∀m,r t<=m->kf T L n t=kf T L m t:=by
 intro n
 induction n with
 |zero=>
  intro t hn m _
  cases m with
  |zero=>rfl
  |succ m=>
   have e:behind L t=[]:=by
    rw[List.eq_nil_iff_forall_not_mem]
    intro x hx
    have:=h x t (gB.1 hx)
    omega
   unfold kf
   rw[e]
   rfl
 |succ n ih=>
  intro t hn m hm
  cases m with
  |zero=>
   have e:behind L t=[]:=by
    rw[List.eq_nil_iff_forall_not_mem]
    intro x hx
    have:=h x t (gB.1 hx)
    omega
   unfold kf
   rw[e]
   rfl
  |succ m=>
   show(behind L t).foldl (fun k x=>dU k (kf T L n x)) (lN T t)=(behind L t).foldl (fun k x=>dU k (kf T L m x)) (lN T t)
   refine mI _ _ ?_
   intro x hx b
   have:=h x t (gB.1 hx)
   rw[ih x (by omega) m (by omega)]
open Classical in
noncomputable def keyOf (T:List Th) (L:List Lk) (t:Nat):K:=if h:xH L then kf T L h.choose t else bc 0
theorem Ar {T:List Th} {L:List Lk} (h:xH L) (t:Nat):keyOf T L t=(behind L t).foldl (fun k x=>dU k (keyOf T L x)) (lN T t):=by
 obtain⟨r,hb,hr⟩:=h.choose_spec
 unfold keyOf
 simp only[h,dite_true]
 rw[zC hr h.choose t (hb t) (h.choose+1) (by have:=hb t;omega)]
 rfl
inductive uD (L:List Lk):Nat->Nat->Prop
 |here (t):uD L t t
 |on {t s v}:Edge L t s->uD L s v->uD L t v
def xS (x:Th):List Value:=[.bool x.k.e,.int .u64 x.k.d,.int .u8 x.k.l,.int .i64 x.u]
def dz (T:List Th):List Value:=T.flatMap xS
theorem cH (x:Th) (T:List Th):dz (x::T)=xS x++dz T:=rfl
theorem iX: ∀T,(dz T).length=T.length*4
 |[]=>rfl
 |x::T=>by rw[cH];simp[xS,iX T];omega
theorem iC: ∀(T:List Th) (i:Nat) (x:Th),T[i]? =some x->(dz T)[i*4]? =some (.bool x.k.e)/\(dz T)[i*4+1]? =some (.int .u64 x.k.d)/\(dz T)[i*4+2]? =some (.int .u8 x.k.l)/\(dz T)[i*4+3]? =some (.int .i64 x.u)
 |[],i,x,h=>by simp at h
 |y::T,0,x,h=>by
  simp at h
  subst h
  exact⟨rfl,rfl,rfl,rfl⟩
 |y::T,i+1,x,h=>by
  have:=iC T i x (by simpa using h)
  rw[cH,show(i+1)*4=i*4+4 by omega]
  exact this
theorem mX: ∀(T:List Th) (i:Nat) (x:Th),i<T.length->dz (T.set i x)=((((dz T).set (i*4) (.bool x.k.e)).set (i*4+1) (.int .u64 x.k.d)).set (i*4+2) (.int .u8 x.k.l)).set (i*4+3) (.int .i64 x.u)
 |[],i,x,h=>by simp at h
 |y::T,0,x,h=>by simp[cH,xS]
 |y::T,i+1,x,h=>by
  have:=mX T i x (by simpa using h)
  rw[List.set_cons_succ,cH,this,cH,show(i+1)*4=i*4+4 by omega]
  rfl
def fU (Z:List (Int×Value)):List Value:=Z.flatMap (fun z=>[.int .i64 z.1,z.2])
theorem eN (z:Int×Value) (Z:List (Int×Value)):fU (z::Z)=[.int .i64 z.1,z.2]++fU Z:=rfl
theorem iQ: ∀(Z:List (Int×Value)) (i:Nat) (z:Int×Value),Z[i]? =some z->(fU Z)[i*2]? =some (.int .i64 z.1)/\(fU Z)[i*2+1]? =some z.2
 |[],i,x,h=>by simp at h
 |y::Z,0,x,h=>by
  simp at h
  subst h
  exact⟨rfl,rfl⟩
 |y::Z,i+1,x,h=>by
  have:=iQ Z i x (by simpa using h)
  rw[eN,show(i+1)*2=i*2+2 by omega]
  exact this
theorem nj: ∀(Z:List (Int×Value)) (i:Nat) (z:Int×Value),i<Z.length->fU (Z.set i z)=((fU Z).set (i*2) (.int .i64 z.1)).set (i*2+1) z.2
 |[],i,x,h=>by simp at h
 |y::Z,0,x,h=>by simp[eN]
 |y::Z,i+1,x,h=>by
  have:=nj Z i x (by simpa using h)
  rw[List.set_cons_succ,eN,this,eN,show(i+1)*2=i*2+2 by omega]
  rfl
def ints (l:List Nat):List Value:=l.map (fun (t:Nat)=> .int .i64 (t:Int))
structure eG (w:World) (base s:Nat) (vt vl:Value) (V:List Value) (T:List Th) (L:List Lk):Prop where
 blk:w.heap[s]? =some (.cells #[vt,vl] 141 (0,0))
 lo:base<=s
 tho:w.ownsRow base 143 4 vt T.length (dz T)
 lko:w.ownsRow base 145 2 vl L.length (fU ((L.map (·.h)).zip V))
 vs:V.length=L.length
 lin: ∀(j:Nat) y v,L[j]? =some y->V[j]? =some v->w.ownsRow base 3 1 v y.l.length (ints y.l)
 apart: ∀(i j:Nat) u v k,V[i]? =some u->V[j]? =some v->u.ownBlock=some k->v.ownBlock=some k->i=j
 bs:base<=w.heap.size
 f:mB T L
def own (s:Nat) (vt vl:Value) (V:List Value) (k:Nat):Prop:=k=s\/vt.ownBlock=some k\/vl.ownBlock=some k\/ ∃v∈V,v.ownBlock=some k
section
variable {w w':World} {base s:Nat} {vt vl:Value} {V:List Value} {T:List Th} {L:List Lk}
theorem eG.lt (h:eG w base s vt vl V T L):s<w.heap.size:=(Array.getElem?_eq_some_iff.1 h.blk).1
theorem eG.AL (h:eG w base s vt vl V T L) {k:Nat} (hk:own s vt vl V k):k<w.heap.size:=by
 rcases hk with rfl|q|q|⟨v,hv,q⟩
 ·exact h.lt
 ·exact(aw h.tho q).2.1
 ·exact(aw h.lko q).2.1
 ·obtain⟨j,hj⟩:=List.mem_iff_getElem?.1 hv
  have hjl:=(zY0.1 hj).1
  rw[h.vs] at hjl
  exact(aw (h.lin j _ v (yV0 hjl) hj) q).2.1
theorem eG.kept (h:eG w base s vt vl V T L) (h0:w.heap.size<=w'.heap.size) (h1: ∀k,own s vt vl V k->w'.heap[k]? =w.heap[k]?):eG w' base s vt vl V T L:=
 ⟨(h1 s (.inl rfl)).trans h.blk,h.lo,a8 h.tho (fun k hk=>h1 k (.inr (.inl hk))),a8 h.lko (fun k hk=>h1 k (.inr (.inr (.inl hk)))),h.vs,
  fun j y v hy hv=>a8 (h.lin j y v hy hv) (fun k hk=>h1 k (.inr (.inr (.inr ⟨v,zV0 hv,hk⟩)))),h.apart,yX0 h.bs h0,h.f⟩
theorem eG.frame {S:Nat->Prop} (h:eG w base s vt vl V T L) (hf:Fr S w w') (h1: ∀k,own s vt vl V k-> ¬S k):eG w' base s vt vl V T L:=
 h.kept hf.size (fun k hk=>hf.block k (h.AL hk) (h1 k hk))
theorem eG.below (h:eG w base s vt vl V T L) (hf:Below w.heap.size w w'):eG w' base s vt vl V T L:=
 h.frame (Fr.aC (S:=fun _=>False) hf) (fun _ _=>id)
theorem eG.c0 (h:eG w base s vt vl V T L):w.cell? ⟨s,0,none⟩=some vt:=by unfold World.cell?;simp[h.blk]
theorem eG.c1 (h:eG w base s vt vl V T L):w.cell? ⟨s,1,none⟩=some vl:=by unfold World.cell?;simp[h.blk]
theorem lZ {e:TypeId} {size n:Nat} {v:Value} {xs:List Value} (h:w.ownsRow base e size v n xs): ∃a cap,v= .slice a n cap/\n<=cap/\cap<=maxLen:=by
 rcases h.2 with ⟨e,e0⟩|⟨g,cap,cur,e,_,_,h1,h2,_⟩
 ·exact⟨none,0,by rw[e,e0],by omega,by simp[maxLen]⟩
 ·exact⟨_,cap,e,h1,h2⟩
theorem eG.AM (h:eG w base s vt vl V T L): ∃g cap,vt= .slice (some ⟨g,0,none⟩) T.length cap/\T.length<=cap/\cap<=maxLen/\g<w.heap.size/\g≠s/\(∀k,w.frozen? ⟨g,k,none⟩=false)/\
  (∀j x,T[j]? =some x->w.cell? ⟨g,j*4,none⟩=some (.bool x.k.e)/\w.cell? ⟨g,j*4+1,none⟩=some (.int .u64 x.k.d)/\w.cell? ⟨g,j*4+2,none⟩=some (.int .u8 x.k.l)/\w.cell? ⟨g,j*4+3,none⟩=some (.int .i64 x.u)):=by
 have ht:=h.f.t1
 have hown:=h.tho
 rcases h.tho.2 with ⟨e,e0⟩|⟨g,cap,cur,e,h0,hg,h1,h2,_⟩
 ·omega
 ·subst e
  refine⟨g,cap,rfl,h1,h2,(Array.getElem?_eq_some_iff.1 hg).1,fun q=> ?_,dX hown,fun j x hj=> ?_⟩
  ·subst q
   rw[h.blk] at hg
   simp at hg
  ·have hjl:j<T.length:=(zY0.1 hj).1
   rw[hown.cellAt (j*4) (by omega),hown.cellAt (j*4+1) (by omega),hown.cellAt (j*4+2) (by omega),hown.cellAt (j*4+3) (by omega)]
   exact iC T j x hj
theorem eG.Dt (h:eG w base s vt vl V T L) (hL:0<L.length): ∃g cap,vl= .slice (some ⟨g,0,none⟩) L.length cap/\L.length<=cap/\cap<=maxLen/\g<w.heap.size/\g≠s/\(∀k,w.frozen? ⟨g,k,none⟩=false)/\
  (∀(j:Nat) y v,L[j]? =some y->V[j]? =some v->w.cell? ⟨g,j*2,none⟩=some (.int .i64 y.h)/\w.cell? ⟨g,j*2+1,none⟩=some v):=by
 have hown:=h.lko
 rcases h.lko.2 with ⟨e,e0⟩|⟨g,cap,cur,e,h0,hg,h1,h2,_⟩
 ·omega
 ·subst e
  refine⟨g,cap,rfl,h1,h2,(Array.getElem?_eq_some_iff.1 hg).1,fun q=> ?_,dX hown,fun j y v hj hv=> ?_⟩
  ·subst q
   rw[h.blk] at hg
   simp at hg
  ·have hjl:j<L.length:=(zY0.1 hj).1
   rw[hown.cellAt (j*2) (by omega),hown.cellAt (j*2+1) (by omega)]
   have e:((L.map (·.h)).zip V)[j]? =some (y.h,v):=by rw[List.getElem?_zip_eq_some];simp[hj,hv]
   exact iQ _ j (y.h,v) e
end
def lT (T:List Th) (t:Int):Bool:=decide (0<=t/\t<(T.length:Int))
def zM (L:List Lk) (m:Int):Bool:=decide (0<=m/\m<(L.length:Int))
def pw (T:List Th) (t:Int):Int:=if lT T t then((T[t.toNat]?).map (·.u)).getD (-1) else-1
def sU (T:List Th) (L:List Lk) (t m:Int):Int:=if lT T t&&zM L m then if pw T t= -1 then 0 else 11 else 2
section
variable {w:World} {base s:Nat} {vt vl:Value} {V:List Value} {T:List Th} {L:List Lk}
theorem mh (h:eG w base s vt vl V T L) (t:Int):Calls Tryz.prog 97 #[.pointer (some ⟨s,0,none⟩),.int .i64 t] w fun e w'=>e= .returned (.bool (lT T t))/\w'=w:=by
 obtain⟨a,cap,rfl,_,_⟩:=lZ h.tho
 have c0:=h.c0
 clear h
 unfold lT
 by_cases h0:0<=t
 ·go_enter Tryz.func97,Tryz.ntmps97
  go_wp2
  go_ret
  exact⟨by simp[h0],rfl⟩
 ·go_enter Tryz.func97,Tryz.ntmps97
  go_wp2
  go_ret
  exact⟨by simp;omega,rfl⟩
theorem uS {t:Int} (h:lT T t=true): ∃(k:Nat) (x:Th),t=k/\k<T.length/\T[k]? =some x/\pw T t=x.u:=by
 have h':=h
 unfold lT at h'
 simp only[decide_eq_true_eq] at h'
 obtain⟨k,rfl⟩: ∃k:Nat,t=k:=⟨t.toNat,by omega⟩
 have hk:k<T.length:=by omega
 refine⟨k,T[k],rfl,hk,yV0 hk,?_⟩
 unfold pw
 rw[if_pos h,Int.toNat_natCast,yV0 hk]
 rfl
theorem eG.line (h:eG w base s vt vl V T L) {k:Nat} (hk:k<L.length): ∃v,V[k]? =some v:=⟨_,yV0 (by rw[h.vs];exact hk)⟩
end
def dh:Value:= .agg #[.bool false,.int .u64 0,.int .u8 0,.int .i64 0]
def nk:Value:= .agg #[.int .i64 0,.slice none 0 0]
def kU (n:Nat):Array Value:=madeCells dh.cells (n*4)
def kJ (n:Nat):Array Value:=madeCells nk.cells (n*2)
theorem sW:(Tryz.prog.info? 143).map (fun i=>(i.zero,i.size,i.bytes))=some (some dh,4,32):=by kernel_rfl
theorem EN:(Tryz.prog.info? 145).map (fun i=>(i.zero,i.size,i.bytes))=some (some nk,2,32):=by kernel_rfl
theorem AN (w:World) (l:Int):Calls Tryz.prog 30 #[.int .u8 l] w fun e w'=>e= .returned (.agg #[.bool false,.int .u64 0,.int .u8 l])/\ ∃c,w'=w.alloc (.cells c 67):=by
 go_enter Tryz.func30,Tryz.ntmps30
 go_wp2
 simp[bodyPost,results,Tryz.results30,go_sem]
 exact⟨_,rfl⟩
def qQ (n j:Nat):List Th:=List.replicate j ⟨bc 0,-1⟩++List.replicate (n-j) ⟨bc 0,0⟩
def rr (n j:Nat):List (Int×Value):=List.replicate j (-1,.slice none 0 0)++List.replicate (n-j) (0,.slice none 0 0)
theorem uu {α:Type} (a b:α) (n j:Nat) (h:j<n):(List.replicate j a++List.replicate (n-j) b).set j a=List.replicate (j+1) a++List.replicate (n-(j+1)) b:=by
 rw[List.set_append_right _ _ (by simp),List.length_replicate,Nat.sub_self,show n-j=(n-(j+1))+1 by omega,List.replicate_succ,List.set_cons_zero,List.replicate_succ',List.append_assoc]
 rfl
theorem uC (n j:Nat) (h:j<n):(qQ n j).set j ⟨bc 0,-1⟩=qQ n (j+1):=uu _ _ n j h
theorem uB (n j:Nat) (h:j<n):(rr n j).set j (-1,.slice none 0 0)=rr n (j+1):=uu _ _ n j h
theorem qv (n j:Nat) (h:j<=n):(qQ n j).length=n:=by simp[qQ];omega
theorem pM (n j:Nat) (h:j<=n):(rr n j).length=n:=by simp[rr];omega
theorem BE (n:Nat):qQ n n=List.replicate n ⟨bc 0,-1⟩:=by simp[qQ]
theorem C5 (n:Nat):rr n n=List.replicate n (-1,.slice none 0 0):=by simp[rr]
theorem pv (z:Array Value) (N k:Nat) (h:k<N):(madeCells z N).toList[k]? =some (z[k%z.size]!):=by
 simp[madeCells,h]
theorem uA (z:Array Value) (N k:Nat) (h: ¬k<N):(madeCells z N).toList[k]? =none:=by
 rw[List.getElem?_eq_none_iff]
 simp[madeCells]
 omega
theorem ux (n:Nat):(madeCells dh.cells (n*4)).toList=dz (qQ n 0):=by
 apply List.ext_getElem?
 intro i
 by_cases h:i<n*4
 ·rw[pv _ _ _ h]
  obtain⟨q,r,rfl,hr⟩: ∃q r,i=q*4+r/\r<4:=⟨i/4,i%4,by omega,by omega⟩
  have hq:q<n:=by omega
  have hx:(qQ n 0)[q]? =some ⟨bc 0,0⟩:=by simp[qQ,hq]
  obtain⟨y0,y1,y2,y3⟩:=iC _ q _ hx
  have e:dh.cells.size=4:=rfl
  rw[e,show(q*4+r)%4=r by omega]
  rcases(by omega:r=0\/r=1\/r=2\/r=3) with rfl|rfl|rfl|rfl
  ·exact y0.symm
  ·exact y1.symm
  ·exact y2.symm
  ·exact y3.symm
 ·rw[uA _ _ _ h,eq_comm,List.getElem?_eq_none_iff,iX,qv n 0 (by omega)]
  omega
theorem i4: ∀Z,(fU Z).length=Z.length*2
 |[]=>rfl
 |z::Z=>by rw[eN];simp[i4 Z];omega
theorem vg (n:Nat):(madeCells nk.cells (n*2)).toList=fU (rr n 0):=by
 apply List.ext_getElem?
 intro i
 by_cases h:i<n*2
 ·rw[pv _ _ _ h]
  obtain⟨q,r,rfl,hr⟩: ∃q r,i=q*2+r/\r<2:=⟨i/2,i%2,by omega,by omega⟩
  have hq:q<n:=by omega
  have hx:(rr n 0)[q]? =some (0,.slice none 0 0):=by simp[rr,hq]
  obtain⟨y0,y1⟩:=iQ _ q _ hx
  have e:nk.cells.size=2:=rfl
  rw[e,show(q*2+r)%2=r by omega]
  rcases(by omega:r=0\/r=1) with rfl|rfl
  ·exact y0.symm
  ·exact y1.symm
 ·rw[uA _ _ _ h,eq_comm,List.getElem?_eq_none_iff,i4,pM n 0 (by omega)]
  omega
theorem iP (w:World) (base g n size:Nat) (e:TypeId) (z:Array Value) (hb:base<=w.heap.size) (hg:base<=g) (h:w.heap[g]? =some (.cells (madeCells z (n*size)) e (0,0))) (hn:n<=maxLen):
  w.ownsRow base e size (.slice (some ⟨g,0,none⟩) n n) n (madeCells z (n*size)).toList:=
 ⟨by simp[size_madeCells],.inr ⟨g,n,_,rfl,hg,h,i8 _,hn,by simp[size_madeCells],by rw[List.take_of_length_le];simp[size_madeCells]⟩⟩
structure bD (w wr:World) (s gt gl n m:Nat) (T:List Th) (Z:List (Int×Value)):Prop where
 blk:wr.heap[s]? =some (.cells #[.slice (some ⟨gt,0,none⟩) n n,.slice (some ⟨gl,0,none⟩) m m] 141 (0,0))
 lo:w.heap.size<=s
 tho:wr.ownsRow w.heap.size 143 4 (.slice (some ⟨gt,0,none⟩) n n) n (dz T)
 lko:wr.ownsRow w.heap.size 145 2 (.slice (some ⟨gl,0,none⟩) m m) m (fU Z)
 tl:T.length=n
 zl:Z.length=m
 be:Below w.heap.size w wr
section
variable {w wr wr':World} {s gt gl n m:Nat} {T:List Th} {Z:List (Int×Value)}
theorem fY (w:World) (o:Obj):(w.alloc o).heap[w.heap.size]? =some o:=by
 show(w.heap.push o)[w.heap.size]? =some o
 simp
theorem Gd (w:World) (n m:Nat) (hn:n<=maxLen) (hm:m<=maxLen):bD w (((w.alloc (.cells (kU n) 143)).alloc (.cells (kJ m) 145)).alloc (.cells #[.slice (some ⟨w.heap.size,0,none⟩) n n,.slice (some ⟨w.heap.size+1,0,none⟩) m m] 141)) (w.heap.size+1+1) w.heap.size (w.heap.size+1) n m (qQ n 0) (rr m 0):=by
 have e1:(w.alloc (.cells (kU n) 143)).heap.size=w.heap.size+1:=by simp
 have e2:((w.alloc (.cells (kU n) 143)).alloc (.cells (kJ m) 145)).heap.size=w.heap.size+1+1:=by simp
 refine⟨?_,by omega,?_,?_,qv _ _ (by omega),pM _ _ (by omega),(((z9 _ _).alloc (i8 _) _).alloc (by omega) _).alloc (by omega) _⟩
 ·rw[←e2];exact fY _ _
 ·rw[←ux]
  refine iP _ _ _ _ _ _ _ (by simp;omega) (i8 _) ?_ hn
  rw[Below.heap_alloc _ _ _ (by omega),Below.heap_alloc _ _ _ (by omega)]
  exact fY _ _
 ·rw[←vg]
  refine iP _ _ _ _ _ _ _ (by simp;omega) (by omega) ?_ hm
  rw[Below.heap_alloc _ _ _ (by omega),←e1]
  exact fY _ _
theorem Fy (w:World) (n m:Nat) (hn:n<=maxLen) (hm:m<=maxLen):bD w (((w.alloc (.cells (kJ m) 145)).alloc (.cells (kU n) 143)).alloc (.cells #[.slice (some ⟨w.heap.size+1,0,none⟩) n n,.slice (some ⟨w.heap.size,0,none⟩) m m] 141)) (w.heap.size+1+1) (w.heap.size+1) w.heap.size n m (qQ n 0) (rr m 0):=by
 have e1:(w.alloc (.cells (kJ m) 145)).heap.size=w.heap.size+1:=by simp
 have e2:((w.alloc (.cells (kJ m) 145)).alloc (.cells (kU n) 143)).heap.size=w.heap.size+1+1:=by simp
 refine⟨?_,by omega,?_,?_,qv _ _ (by omega),pM _ _ (by omega),(((z9 _ _).alloc (i8 _) _).alloc (by omega) _).alloc (by omega) _⟩
 ·rw[←e2];exact fY _ _
 ·rw[←ux]
  refine iP _ _ _ _ _ _ _ (by simp;omega) (by omega) ?_ hn
  rw[Below.heap_alloc _ _ _ (by omega),←e1]
  exact fY _ _
 ·rw[←vg]
  refine iP _ _ _ _ _ _ _ (by simp;omega) (i8 _) ?_ hm
  rw[Below.heap_alloc _ _ _ (by omega),Below.heap_alloc _ _ _ (by omega)]
  exact fY _ _
theorem bD.drew (h:bD w wr s gt gl n m T Z):bD w wr.drew s gt gl n m T Z:=⟨h.blk,h.lo,h.tho.drew,h.lko.drew,h.tl,h.zl,h.be.drew⟩
theorem bD.Gv (h:bD w wr s gt gl n m T Z):s<wr.heap.size/\gt<wr.heap.size/\gl<wr.heap.size/\w.heap.size<=gt/\w.heap.size<=gl/\gt≠s/\gl≠s/\gt≠gl:=by
 obtain⟨a1,a2,ca,a3⟩:=aw h.tho (k:=gt) rfl
 obtain⟨b1,b2,cb,b3⟩:=aw h.lko (k:=gl) rfl
 have h0:=h.blk
 refine⟨(Array.getElem?_eq_some_iff.1 h0).1,a2,b2,a1,b1,fun q=> ?_,fun q=> ?_,fun q=> ?_⟩
 ·rw[q,h0] at a3;simp at a3
 ·rw[q,h0] at b3;simp at b3
 ·rw[q,b3] at a3;simp at a3
theorem bD.on (h:bD w wr s gt gl n m T Z) (hb:Below wr.heap.size wr wr'):bD w wr' s gt gl n m T Z:=by
 obtain⟨l1,l2,l3,_⟩:=h.Gv
 refine⟨(hb.block s l1).trans h.blk,h.lo,a8 h.tho ?_,a8 h.lko ?_,h.tl,h.zl,h.be.trans (hb.mono h.be.size)⟩
 ·intro k hk
  simp[Value.ownBlock] at hk
  subst hk
  exact hb.block _ l2
 ·intro k hk
  simp[Value.ownBlock] at hk
  subst hk
  exact hb.block _ l3
theorem bD.c0 (h:bD w wr s gt gl n m T Z):wr.cell? ⟨s,0,none⟩=some (.slice (some ⟨gt,0,none⟩) n n):=by unfold World.cell?;simp[h.blk]
theorem bD.c1 (h:bD w wr s gt gl n m T Z):wr.cell? ⟨s,1,none⟩=some (.slice (some ⟨gl,0,none⟩) m m):=by unfold World.cell?;simp[h.blk]
theorem bD.vI (h:bD w wr s gt gl n m T Z) (j:Nat) (hj:j<n) (x:Th):bD w ((((wr.setCell ⟨gt,j*4,none⟩ (.bool x.k.e)).setCell ⟨gt,j*4+1,none⟩ (.int .u64 x.k.d)).setCell ⟨gt,j*4+2,none⟩ (.int .u8 x.k.l)).setCell ⟨gt,j*4+3,none⟩ (.int .i64 x.u)) s gt gl n m (T.set j x) Z:=by
 obtain⟨l1,l2,l3,l4,l5,l6,l7,l8⟩:=h.Gv
 have h1:=aU (aU (aU (aU h.tho (j*4) (by omega) (.bool x.k.e)) (j*4+1) (by omega) (.int .u64 x.k.d)) (j*4+2) (by omega) (.int .u8 x.k.l)) (j*4+3) (by omega) (.int .i64 x.u)
 rw[←mX T j x (by rw[h.tl];exact hj)] at h1
 refine⟨?_,h.lo,h1,a8 h.lko ?_,by simpa using h.tl,h.zl,(((h.be.setCell (p:=⟨gt,j*4,none⟩) l4 _).setCell (p:=⟨gt,j*4+1,none⟩) l4 _).setCell (p:=⟨gt,j*4+2,none⟩) l4 _).setCell (p:=⟨gt,j*4+3,none⟩) l4 _⟩
 ·rw[yY0 _ _ _ _ (Ne.symm l6),yY0 _ _ _ _ (Ne.symm l6),yY0 _ _ _ _ (Ne.symm l6),yY0 _ _ _ _ (Ne.symm l6)]
  exact h.blk
 ·intro k hk
  simp[Value.ownBlock] at hk
  subst hk
  rw[yY0 _ _ _ _ (Ne.symm l8),yY0 _ _ _ _ (Ne.symm l8),yY0 _ _ _ _ (Ne.symm l8),yY0 _ _ _ _ (Ne.symm l8)]
theorem bD.AY (h:bD w wr s gt gl n m T Z) (j:Nat) (hj:j<m) (z:Int×Value):bD w ((wr.setCell ⟨gl,j*2,none⟩ (.int .i64 z.1)).setCell ⟨gl,j*2+1,none⟩ z.2) s gt gl n m T (Z.set j z):=by
 obtain⟨l1,l2,l3,l4,l5,l6,l7,l8⟩:=h.Gv
 have h1:=aU (aU h.lko (j*2) (by omega) (.int .i64 z.1)) (j*2+1) (by omega) z.2
 rw[←nj Z j z (by rw[h.zl];exact hj)] at h1
 refine⟨?_,h.lo,a8 h.tho ?_,h1,h.tl,by simpa using h.zl,(h.be.setCell (p:=⟨gl,j*2,none⟩) l5 _).setCell (p:=⟨gl,j*2+1,none⟩) l5 _⟩
 ·rw[yY0 _ _ _ _ (Ne.symm l7),yY0 _ _ _ _ (Ne.symm l7)]
  exact h.blk
 ·intro k hk
  simp[Value.ownBlock] at hk
  subst hk
  rw[yY0 _ _ _ _ l8,yY0 _ _ _ _ l8]
theorem bD.fz (h:bD w wr s gt gl n m T Z):(∀k,wr.frozen? ⟨gt,k,none⟩=false)/\ ∀k,wr.frozen? ⟨gl,k,none⟩=false:=⟨dX h.tho,dX h.lko⟩
theorem bD.FG (h:bD w wr s gt gl n m T Z) (j:Nat) (hj:j<n): ∃u0 u1 u2 u3,wr.cell? ⟨gt,j*4,none⟩=some u0/\wr.cell? ⟨gt,j*4+1,none⟩=some u1/\wr.cell? ⟨gt,j*4+2,none⟩=some u2/\wr.cell? ⟨gt,j*4+3,none⟩=some u3:=by
 have e:T[j]? =some _:=yV0 (by rw[h.tl];exact hj)
 obtain⟨y0,y1,y2,y3⟩:=iC T j _ e
 exact⟨_,_,_,_,(h.tho.cellAt (j*4) (by omega)).trans y0,(h.tho.cellAt (j*4+1) (by omega)).trans y1,(h.tho.cellAt (j*4+2) (by omega)).trans y2,(h.tho.cellAt (j*4+3) (by omega)).trans y3⟩
theorem bD.Ds (h:bD w wr s gt gl n m T Z) (j:Nat) (hj:j<m): ∃u0 u1,wr.cell? ⟨gl,j*2,none⟩=some u0/\wr.cell? ⟨gl,j*2+1,none⟩=some u1:=by
 have e:Z[j]? =some _:=yV0 (by rw[h.zl];exact hj)
 obtain⟨y0,y1⟩:=iQ Z j _ e
 exact⟨_,_,(h.lko.cellAt (j*2) (by omega)).trans y0,(h.lko.cellAt (j*2+1) (by omega)).trans y1⟩
theorem bD.zk (h:bD w wr s gt gl n m T Z) (j:Nat) (hj:j<n): ∃u0 u1 u2 u3,∀o,(wr.alloc o).cell? ⟨gt,j*4,none⟩=some u0/\(wr.alloc o).cell? ⟨gt,j*4+1,none⟩=some u1/\(wr.alloc o).cell? ⟨gt,j*4+2,none⟩=some u2/\(wr.alloc o).cell? ⟨gt,j*4+3,none⟩=some u3:=by
 obtain⟨u0,u1,u2,u3,y0,y1,y2,y3⟩:=h.FG j hj
 have l2:=h.Gv.2.1
 refine⟨u0,u1,u2,u3,fun o=> ?_⟩
 have hb:Below wr.heap.size wr (wr.alloc o):=(z9 _ _).alloc (i8 _) o
 exact⟨(hb.cell (p:=⟨gt,j*4,none⟩) l2).trans y0,(hb.cell (p:=⟨gt,j*4+1,none⟩) l2).trans y1,(hb.cell (p:=⟨gt,j*4+2,none⟩) l2).trans y2,(hb.cell (p:=⟨gt,j*4+3,none⟩) l2).trans y3⟩
end
theorem Dg (n m:Nat) (w:World) (h1:1<=n) (h2:n<=1024) (h3:m<=32):
  Calls Tryz.prog 33 #[.int .i64 n,.int .i64 m] w fun e w'=> ∃s gt gl,e= .returned (.pointer (some ⟨s,0,none⟩))/\bD w w' s gt gl n m (qQ n n) (rr m m):=by
 obtain⟨i0,hi0,hz0,hz1,hz2⟩:=info_parts sW
 obtain⟨j0,hj0,hy0,hy1,hy2⟩:=info_parts EN
 have hmk: ∀w,(Instr.makeSlice 138 (.int .i64 (n:Int)) (.int .i64 (n:Int))).run Tryz.prog w= .ok (.slice (some ⟨w.heap.size,0,none⟩) n n) (w.alloc (.cells (kU n) 143)):=by
  intro w
  have:=run_make w 138 143 i0 dh Tryz.underlying138 hi0 hz0 .i64 .i64 (n:Int) (n:Int) (by omega) (by omega) (by rw[hz2];omega) (by omega)
  rw[hz1,show(n:Int).toNat=n by omega] at this
  exact this
 have hml: ∀w,(Instr.makeSlice 139 (.int .i64 (m:Int)) (.int .i64 (m:Int))).run Tryz.prog w= .ok (.slice (some ⟨w.heap.size,0,none⟩) m m) (w.alloc (.cells (kJ m) 145)):=by
  intro w
  have:=run_make w 139 145 j0 nk Tryz.underlying139 hj0 hy0 .i64 .i64 (m:Int) (m:Int) (by omega) (by omega) (by rw[hy2];omega) (by omega)
  rw[hy1,show(m:Int).toNat=m by omega] at this
  exact this
 have e1: ¬(n:Int)<1:=by omega
 have e2: ¬(1024:Int)<(n:Int):=by omega
 have e3: ¬(m:Int)<0:=by omega
 have e4: ¬(32:Int)<(m:Int):=by omega
 have hnm:n<=maxLen/\m<=maxLen:=⟨by simp[maxLen];omega,by simp[maxLen];omega⟩
 have HSA:=aa (Gd w n m hnm.1 hnm.2)
 have HSB:=aa (Fy w n m hnm.1 hnm.2)
 have HF:=aa (fun w=>AN w 0)
 clear hi0 hz0 hz1 hz2 hj0 hy0 hy1 hy2 hnm
 go_enter Tryz.func33,Tryz.ntmps33
 go_wp2
 go_region_held3 (fun w'=>True) (simp[go_sem]) (first|fail)
 all_goals go_wp2
 ·replace HSA:=HSA
  clear HSB
  go_loopw [33] (fun i wr=> ∃(j:Nat),j<=n/\i= .int .i64 j/\bD w wr (w.heap.size+1+1) (w.heap.size) (w.heap.size+1) n m (qQ n j) (rr m 0)) (fun i _=>n-(RowKit.intOf i).toNat)
  case atStart=>exact⟨0,by omega,rfl,HSA.out.drew⟩
  case round=>
   obtain⟨j,hj,rfl,hB⟩:=hrel
   by_cases hjl:j<n
   ·have hjl':(j:Int)<(n:Int):=by omega
    have c0:=hB.c0
    have ca: ∀o,(wr.alloc o).cell? ⟨w.heap.size+1+1,0,none⟩=some (.slice (some ⟨w.heap.size,0,none⟩) n n):=fun o=>(hB.on ((z9 _ _).alloc (i8 _) o)).c0
    have cr:wr.drew.cell? ⟨w.heap.size+1+1,0,none⟩=some (.slice (some ⟨w.heap.size,0,none⟩) n n):=hB.drew.c0
    have cd: ∀o,(wr.alloc o).drew.cell? ⟨w.heap.size+1+1,0,none⟩=some (.slice (some ⟨w.heap.size,0,none⟩) n n):=fun o=>(hB.on ((z9 _ _).alloc (i8 _) o)).drew.c0
    have cs: ∀o,(((((wr.alloc o).setCell ⟨w.heap.size,j*4,none⟩ (.bool false)).setCell ⟨w.heap.size,j*4+1,none⟩ (.int .u64 0)).setCell ⟨w.heap.size,j*4+2,none⟩ (.int .u8 0)).setCell ⟨w.heap.size,j*4+3,none⟩ (.int .i64 (-1))).drew.cell? ⟨w.heap.size+1+1,0,none⟩=some (.slice (some ⟨w.heap.size,0,none⟩) n n):=fun o=>((hB.on ((z9 _ _).alloc (i8 _) o)).vI j hjl ⟨bc 0,-1⟩).drew.c0
    have fz: ∀o k,(wr.alloc o).frozen? ⟨w.heap.size,k,none⟩=false:=fun o k=>(hB.on ((z9 _ _).alloc (i8 _) o)).fz.1 k
    obtain⟨u0,u1,u2,u3,hu⟩:=hB.zk j hjl
    have z0:=fun o=>(hu o).1
    have z1:=fun o=>(hu o).2.1
    have z2:=fun o=>(hu o).2.2.1
    have z3:=fun o=>(hu o).2.2.2
    have HB:=aa hB
    clear hB hu
    go_wp2
    go_region_held3 (fun w'=>w'.cell? ⟨w.heap.size+1+1,0,none⟩=some (.slice (some ⟨w.heap.size,0,none⟩) n n))
     (first|with_reducible exact c0|with_reducible exact cr|with_reducible exact ca _|with_reducible exact cd _|with_reducible exact cs _)
     (first|(go_at_call 30;refine(HF.out _).mono ?_;rintro e w1 ⟨rfl,c,rfl⟩))
    all_goals go_wp2
    all_goals go_roundw
    case rel=>
     refine⟨j+1,by omega,by go_num,?_⟩
     rw[←uC n j hjl]
     exact((HB.out.on ((z9 _ _).alloc (i8 _) _)).vI j hjl ⟨bc 0,-1⟩).drew
    case measure=>simp[RowKit.intOf];omega
   ·have hjl': ¬(j:Int)<(n:Int):=by omega
    obtain rfl:j=n:=by omega
    have c1:=hB.c1
    have HB:=aa hB
    clear hB
    go_wp2
    go_loopw [50] (fun i wr=> ∃(k:Nat),k<=m/\i= .int .i64 k/\bD w wr (w.heap.size+1+1) (w.heap.size) (w.heap.size+1) j m (qQ j j) (rr m k)) (fun i _=>m-(RowKit.intOf i).toNat)
    case atStart=>exact⟨0,by omega,rfl,HB.out⟩
    case round=>
     obtain⟨k,hk,rfl,hB⟩:=hrel
     by_cases hkl:k<m
     ·have hkl':(k:Int)<(m:Int):=by omega
      have c1:=hB.c1
      have fz:=hB.fz.2
      obtain⟨u0,u1,z0,z1⟩:=hB.Ds k hkl
      have HB:=aa hB
      clear hB
      go_wp2
      go_roundw
      case rel=>
       refine⟨k+1,by omega,by go_num,?_⟩
       rw[←uB m k hkl]
       exact HB.out.AY k hkl (-1,.slice none 0 0)
      case measure=>simp[RowKit.intOf];omega
     ·have hkl': ¬(k:Int)<(m:Int):=by omega
      obtain rfl:k=m:=by omega
      have HB:=aa hB
      clear hB
      go_wp2
      go_ret
      exact⟨_,rfl,_,_,HB.out⟩
 ·replace HSA:=HSB
  go_loopw [33] (fun i wr=> ∃(j:Nat),j<=n/\i= .int .i64 j/\bD w wr (w.heap.size+1+1) (w.heap.size+1) (w.heap.size) n m (qQ n j) (rr m 0)) (fun i _=>n-(RowKit.intOf i).toNat)
  case atStart=>exact⟨0,by omega,rfl,HSA.out.drew⟩
  case round=>
   obtain⟨j,hj,rfl,hB⟩:=hrel
   by_cases hjl:j<n
   ·have hjl':(j:Int)<(n:Int):=by omega
    have c0:=hB.c0
    have ca: ∀o,(wr.alloc o).cell? ⟨w.heap.size+1+1,0,none⟩=some (.slice (some ⟨w.heap.size+1,0,none⟩) n n):=fun o=>(hB.on ((z9 _ _).alloc (i8 _) o)).c0
    have cr:wr.drew.cell? ⟨w.heap.size+1+1,0,none⟩=some (.slice (some ⟨w.heap.size+1,0,none⟩) n n):=hB.drew.c0
    have cd: ∀o,(wr.alloc o).drew.cell? ⟨w.heap.size+1+1,0,none⟩=some (.slice (some ⟨w.heap.size+1,0,none⟩) n n):=fun o=>(hB.on ((z9 _ _).alloc (i8 _) o)).drew.c0
    have cs: ∀o,(((((wr.alloc o).setCell ⟨w.heap.size+1,j*4,none⟩ (.bool false)).setCell ⟨w.heap.size+1,j*4+1,none⟩ (.int .u64 0)).setCell ⟨w.heap.size+1,j*4+2,none⟩ (.int .u8 0)).setCell ⟨w.heap.size+1,j*4+3,none⟩ (.int .i64 (-1))).drew.cell? ⟨w.heap.size+1+1,0,none⟩=some (.slice (some ⟨w.heap.size+1,0,none⟩) n n):=fun o=>((hB.on ((z9 _ _).alloc (i8 _) o)).vI j hjl ⟨bc 0,-1⟩).drew.c0
    have fz: ∀o k,(wr.alloc o).frozen? ⟨w.heap.size+1,k,none⟩=false:=fun o k=>(hB.on ((z9 _ _).alloc (i8 _) o)).fz.1 k
    obtain⟨u0,u1,u2,u3,hu⟩:=hB.zk j hjl
    have z0:=fun o=>(hu o).1
    have z1:=fun o=>(hu o).2.1
    have z2:=fun o=>(hu o).2.2.1
    have z3:=fun o=>(hu o).2.2.2
    have HB:=aa hB
    clear hB hu
    go_wp2
    go_region_held3 (fun w'=>w'.cell? ⟨w.heap.size+1+1,0,none⟩=some (.slice (some ⟨w.heap.size+1,0,none⟩) n n))
     (first|with_reducible exact c0|with_reducible exact cr|with_reducible exact ca _|with_reducible exact cd _|with_reducible exact cs _)
     (first|(go_at_call 30;refine(HF.out _).mono ?_;rintro e w1 ⟨rfl,c,rfl⟩))
    all_goals go_wp2
    all_goals go_roundw
    case rel=>
     refine⟨j+1,by omega,by go_num,?_⟩
     rw[←uC n j hjl]
     exact((HB.out.on ((z9 _ _).alloc (i8 _) _)).vI j hjl ⟨bc 0,-1⟩).drew
    case measure=>simp[RowKit.intOf];omega
   ·have hjl': ¬(j:Int)<(n:Int):=by omega
    obtain rfl:j=n:=by omega
    have c1:=hB.c1
    have HB:=aa hB
    clear hB
    go_wp2
    go_loopw [50] (fun i wr=> ∃(k:Nat),k<=m/\i= .int .i64 k/\bD w wr (w.heap.size+1+1) (w.heap.size+1) (w.heap.size) j m (qQ j j) (rr m k)) (fun i _=>m-(RowKit.intOf i).toNat)
    case atStart=>exact⟨0,by omega,rfl,HB.out⟩
    case round=>
     obtain⟨k,hk,rfl,hB⟩:=hrel
     by_cases hkl:k<m
     ·have hkl':(k:Int)<(m:Int):=by omega
      have c1:=hB.c1
      have fz:=hB.fz.2
      obtain⟨u0,u1,z0,z1⟩:=hB.Ds k hkl
      have HB:=aa hB
      clear hB
      go_wp2
      go_roundw
      case rel=>
       refine⟨k+1,by omega,by go_num,?_⟩
       rw[←uB m k hkl]
       exact HB.out.AY k hkl (-1,.slice none 0 0)
      case measure=>simp[RowKit.intOf];omega
     ·have hkl': ¬(k:Int)<(m:Int):=by omega
      obtain rfl:k=m:=by omega
      have HB:=aa hB
      clear hB
      go_wp2
      go_ret
      exact⟨_,rfl,_,_,HB.out⟩
def tO (n:Nat):List Th:=List.replicate n ⟨bc 0,-1⟩
def rh (m:Nat):List Lk:=List.replicate m ⟨-1,[]⟩
theorem yO (n m:Nat) (h1:1<=n) (h2:n<=1024) (h3:m<=32):mB (tO n) (rh m):=by
 refine⟨by simpa [tO] using h1,by simpa [tO] using h2,by simpa [rh] using h3,?_,?_,?_,?_⟩
 ·intro x hx
  obtain rfl:=List.eq_of_mem_replicate hx
  refine⟨⟨⟨by decide,by decide⟩,by decide,by decide⟩,by decide,?_⟩
  show(-1:Int)<_
  omega
 ·intro y hy
  obtain rfl:=List.eq_of_mem_replicate hy
  refine⟨by decide,?_,by simp,by simp,by simp⟩
  show(-1:Int)<_
  omega
 ·intro t x hx m' y hy
  obtain rfl:=List.eq_of_mem_replicate (zV0 hx)
  obtain rfl:=List.eq_of_mem_replicate (zV0 hy)
  simp
 ·refine⟨0,fun _=>0,fun _=>i8 _,?_⟩
  rintro t s ⟨y,hy,ht,_⟩
  obtain rfl:=List.eq_of_mem_replicate hy
  simp at ht
section
variable {w w':World} {base s:Nat} {vt vl:Value} {V:List Value} {T:List Th} {L:List Lk}
theorem eG.new {gt gl n m:Nat} (h:bD w w' s gt gl n m (qQ n n) (rr m m)) (h1:1<=n) (h2:n<=1024) (h3:m<=32):
  eG w' w.heap.size s (.slice (some ⟨gt,0,none⟩) n n) (.slice (some ⟨gl,0,none⟩) m m) (List.replicate m (.slice none 0 0)) (tO n) (rh m):=by
 have e1:(tO n).length=n:=by simp[tO]
 have e2:(rh m).length=m:=by simp[rh]
 have e3:((rh m).map (·.h)).zip (List.replicate m (Value.slice none 0 0))=List.replicate m (-1,Value.slice none 0 0):=by
  simp[rh,List.map_replicate]
 have ht:=h.tho
 have hl:=h.lko
 rw[BE] at ht
 rw[C5] at hl
 refine⟨h.blk,h.lo,by rw[e1];exact ht,by rw[e2,e3];exact hl,by rw[e2];simp,?_,?_,h.be.size,yO n m h1 h2 h3⟩
 ·intro j y v hy hv
  obtain rfl:=List.eq_of_mem_replicate (zV0 hy)
  obtain rfl:=List.eq_of_mem_replicate (zV0 hv)
  exact World.ownsRow_nil _ _ _ _
 ·intro i j u v k hu hv hk
  obtain rfl:=List.eq_of_mem_replicate (zV0 hu)
  simp[Value.ownBlock] at hk
theorem mV: ∀(T:List Th) (i:Nat) (x:Th) (k:K),T[i]? =some x->dz (T.set i ⟨k,x.u⟩)=(((dz T).set (i*4) (.bool k.e)).set (i*4+1) (.int .u64 k.d)).set (i*4+2) (.int .u8 k.l)
 |[],i,x,k,h=>by simp at h
 |y::T,0,x,k,h=>by
  simp at h
  subst h
  simp[cH,xS]
 |y::T,i+1,x,k,h=>by
  have:=mV T i x k (by simpa using h)
  rw[List.set_cons_succ,cH,this,cH,show(i+1)*4=i*4+4 by omega]
  rfl
theorem mB.vr (f:mB T L) {j:Nat} {x:Th} (hx:T[j]? =some x) {k:K} (hk:k.ok):mB (T.set j ⟨k,x.u⟩) L:=by
 refine⟨by simpa using f.t1,by simpa using f.t2,f.l2,?_,by simpa using f.lk,?_,f.ac⟩
 ·intro y hy
  rcases List.mem_or_eq_of_mem_set hy with q|q
  ·exact f.th y q
  ·rw[q]
   exact⟨hk,(f.th x (zV0 hx)).2⟩
 ·intro t y hy m z hz
  rw[List.getElem?_set] at hy
  by_cases q:j=t
  ·subst q
   have hj:=(zY0.1 hx).1
   rw[if_pos rfl,if_pos hj] at hy
   obtain rfl:=Option.some.inj hy
   exact f.wt j x hx m z hz
  ·rw[if_neg q] at hy
   exact f.wt t y hy m z hz
theorem eG.blocks (h:eG w base s vt vl V T L) {g:Nat} (hg:vt.ownBlock=some g):g≠s/\vl.ownBlock≠some g/\ ∀v∈V,v.ownBlock≠some g:=by
 obtain⟨_,_,c,e⟩:=aw h.tho hg
 refine⟨fun q=> ?_,fun q=> ?_,fun v hv q=> ?_⟩
 ·rw[q,h.blk] at e;simp at e
 ·obtain⟨_,_,c',e'⟩:=aw h.lko q
  rw[e] at e';simp at e'
 ·obtain⟨j,hj⟩:=List.mem_iff_getElem?.1 hv
  have hjl:=(zY0.1 hj).1
  rw[h.vs] at hjl
  obtain⟨_,_,c',e'⟩:=aw (h.lin j _ v (yV0 hjl) hj) q
  rw[e] at e';simp at e'
theorem eG.vI (h:eG w base s vt vl V T L) {g:Nat} (hg:vt.ownBlock=some g) {T':List Th} (h0:w'.heap.size=w.heap.size) (h1: ∀k,k≠g->w'.heap[k]? =w.heap[k]?)
  (ht:w'.ownsRow base 143 4 vt T'.length (dz T')) (f:mB T' L):eG w' base s vt vl V T' L:=by
 obtain⟨b1,b2,b3⟩:=h.blocks hg
 exact⟨(h1 s (Ne.symm b1)).trans h.blk,h.lo,ht,a8 h.lko (fun k hk=>h1 k (fun q=>b2 (by rw[hk,q]))),h.vs,
  fun j y v hy hv=>a8 (h.lin j y v hy hv) (fun k hk=>h1 k (fun q=>b3 v (zV0 hv) (by rw[hk,q]))),h.apart,by rw[h0];exact h.bs,f⟩
theorem eG.vr {g cap:Nat} (h:eG w base s (.slice (some ⟨g,0,none⟩) T.length cap) vl V T L) {j:Nat} {x:Th} (hx:T[j]? =some x) {k:K} (hk:k.ok):
  eG (((w.setCell ⟨g,j*4,none⟩ (.bool k.e)).setCell ⟨g,j*4+1,none⟩ (.int .u64 k.d)).setCell ⟨g,j*4+2,none⟩ (.int .u8 k.l)) base s (.slice (some ⟨g,0,none⟩) T.length cap) vl V (T.set j ⟨k,x.u⟩) L:=by
 have hj:=(zY0.1 hx).1
 refine h.vI (g:=g) rfl (by simp) (fun b hb=> ?_) ?_ (h.f.vr hx hk)
 ·rw[yY0 _ _ _ _ hb,yY0 _ _ _ _ hb,yY0 _ _ _ _ hb]
 ·rw[mV T j x k hx,List.length_set]
  exact aU (aU (aU h.tho (j*4) (by omega) _) (j*4+1) (by omega) _) (j*4+2) (by omega) _
theorem vp (h:eG w base s vt vl V T L) (t:Int) (k:K) (hn:lT T t=false\/aK k=false):Calls Tryz.prog 77 #[.pointer (some ⟨s,0,none⟩),.int .i64 t,.agg #[.bool k.e,.int .u64 k.d,.int .u8 k.l]] w fun e w'=>e= .returned (.int .i64 2)/\Below w.heap.size w w':=by
 have HT:=aa (fun w' (hb:Below w.heap.size w w')=>mh (h.below hb) t)
 have HR:=aa (fun w=>eM w k)
 cases ht:lT T t with
 |false=>
  simp only[ht] at HT
  clear h hn ht
  go_enter Tryz.func77,Tryz.ntmps77
  go_wp2_with (go_at_call 97;refine(HT.out _ (by first|exact z9 _ _|exact(z9 _ _).alloc (i8 _) _)).mono ?_;rintro e w1 ⟨rfl,hw⟩;replace hw:=hw.symm;subst hw)
  go_ret
  exact⟨rfl,by first|exact z9 _ _|exact(z9 _ _).alloc (i8 _) _⟩
 |true=>
  have hr:aK k=false:=by
   rcases hn with q|q
   ·rw[ht] at q;simp at q
   ·exact q
  simp only[ht] at HT
  simp only[hr] at HR
  clear h hn ht hr
  go_enter Tryz.func77,Tryz.ntmps77
  go_wp2_with (first
   |(go_at_call 97;refine(HT.out _ (by first|exact z9 _ _|exact(z9 _ _).alloc (i8 _) _)).mono ?_;rintro e w1 ⟨rfl,hw⟩;subst hw)
   |(go_at_call 126;refine(HR.out _).mono ?_;rintro e w1 ⟨rfl,hb1⟩))
  go_ret
  exact⟨rfl,((z9 _ _).alloc (i8 _) _).trans (hb1.mono (by simp))⟩
theorem eG.drew (h:eG w base s vt vl V T L):eG w.drew base s vt vl V T L:=⟨h.blk,h.lo,h.tho.drew,h.lko.drew,h.vs,fun j y v a b=>(h.lin j y v a b).drew,h.apart,h.bs,h.f⟩
theorem Fr.drew {S:Nat->Prop} (h:Fr S w w'):Fr S w w'.drew:=⟨h.os,h.tape,h.output,h.size,h.block⟩
theorem zf (h:eG w base s vt vl V T L) (j:Nat) (x:Th) (hx:T[j]? =some x) (k:K) (hk:k.ok) (hr:aK k=true):Calls Tryz.prog 77 #[.pointer (some ⟨s,0,none⟩),.int .i64 (j:Int),.agg #[.bool k.e,.int .u64 k.d,.int .u8 k.l]] w fun e w'=>e= .returned (.int .i64 0)/\eG w' base s vt vl V (T.set j ⟨k,x.u⟩) L/\Fr (fun b=>vt.ownBlock=some b) w w':=by
 have hj:=(zY0.1 hx).1
 have hj':(j:Int)<(T.length:Int):=by omega
 have HT:=aa (fun w' (hb:Below w.heap.size w w')=>mh (h.below hb) (j:Int))
 have ht:lT T (j:Int)=true:=by unfold lT;simp;omega
 have HR:=aa (fun w=>eM w k)
 simp only[ht] at HT
 simp only[hr] at HR
 obtain⟨g,cap,rfl,hc1,hc2,_⟩:=h.AM
 have HG:Hid (∀w1,Below (w.alloc (.cells #[.bool k.e,.int .u64 k.d,.int .u8 k.l] 67)).heap.size (w.alloc (.cells #[.bool k.e,.int .u64 k.d,.int .u8 k.l] 67)) w1->
   w1.cell? ⟨s,0,none⟩=some (.slice (some ⟨g,0,none⟩) T.length cap)/\w1.cell? ⟨w.heap.size,0,none⟩=some (.bool k.e)/\w1.cell? ⟨w.heap.size,1,none⟩=some (.int .u64 k.d)/\w1.cell? ⟨w.heap.size,2,none⟩=some (.int .u8 k.l)/\
   (∀o,w1.frozen? ⟨g,o,none⟩=false)/\w1.cell? ⟨g,j*4,none⟩=some (.bool x.k.e)/\w1.cell? ⟨g,j*4+1,none⟩=some (.int .u64 x.k.d)/\w1.cell? ⟨g,j*4+2,none⟩=some (.int .u8 x.k.l)/\
   ((((w1.setCell ⟨g,j*4,none⟩ (.bool k.e)).setCell ⟨g,j*4+1,none⟩ (.int .u64 k.d)).setCell ⟨g,j*4+2,none⟩ (.int .u8 k.l)).drew.cell? ⟨s,0,none⟩=some (.slice (some ⟨g,0,none⟩) T.length cap)/\(((w1.setCell ⟨g,j*4,none⟩ (.bool k.e)).setCell ⟨g,j*4+1,none⟩ (.int .u64 k.d)).setCell ⟨g,j*4+2,none⟩ (.int .u8 k.l)).drew.cell? ⟨w.heap.size,0,none⟩=some (.bool k.e)/\(((w1.setCell ⟨g,j*4,none⟩ (.bool k.e)).setCell ⟨g,j*4+1,none⟩ (.int .u64 k.d)).setCell ⟨g,j*4+2,none⟩ (.int .u8 k.l)).drew.cell? ⟨w.heap.size,1,none⟩=some (.int .u64 k.d)/\(((w1.setCell ⟨g,j*4,none⟩ (.bool k.e)).setCell ⟨g,j*4+1,none⟩ (.int .u64 k.d)).setCell ⟨g,j*4+2,none⟩ (.int .u8 k.l)).drew.cell? ⟨w.heap.size,2,none⟩=some (.int .u8 k.l))/\
   eG (((w1.setCell ⟨g,j*4,none⟩ (.bool k.e)).setCell ⟨g,j*4+1,none⟩ (.int .u64 k.d)).setCell ⟨g,j*4+2,none⟩ (.int .u8 k.l)) base s (.slice (some ⟨g,0,none⟩) T.length cap) vl V (T.set j ⟨k,x.u⟩) L/\
   Fr (fun b=>(Value.slice (some ⟨g,0,none⟩) T.length cap).ownBlock=some b) w (((w1.setCell ⟨g,j*4,none⟩ (.bool k.e)).setCell ⟨g,j*4+1,none⟩ (.int .u64 k.d)).setCell ⟨g,j*4+2,none⟩ (.int .u8 k.l))):=by
  intro w1 hb
  have hb0:Below w.heap.size w (w.alloc (.cells #[.bool k.e,.int .u64 k.d,.int .u8 k.l] 67)):=(z9 _ _).alloc (i8 _) _
  have hb2:Below w.heap.size w w1:=hb0.trans (hb.mono hb0.size)
  have h1:=h.below hb2
  obtain⟨g',cap',e,_,_,_,_,hf,hc⟩:=h1.AM
  simp at e
  obtain⟨rfl,rfl⟩:=e
  obtain⟨y0,y1,y2,y3⟩:=hc j x hx
  obtain⟨z0,z1,z2⟩:=pD w k 67
  have hg:=(aw h.tho (k:=g) rfl).2.1
  have hgne:w.heap.size≠g:=by omega
  have hS: ∀u:Nat,(((w1.setCell ⟨g,j*4,none⟩ (.bool k.e)).setCell ⟨g,j*4+1,none⟩ (.int .u64 k.d)).setCell ⟨g,j*4+2,none⟩ (.int .u8 k.l)).drew.heap[w.heap.size]? =w1.heap[w.heap.size]? :=fun _=>by
   show(((w1.setCell ⟨g,j*4,none⟩ (.bool k.e)).setCell ⟨g,j*4+1,none⟩ (.int .u64 k.d)).setCell ⟨g,j*4+2,none⟩ (.int .u8 k.l)).heap[w.heap.size]? =_
   rw[yY0 _ _ _ _ hgne,yY0 _ _ _ _ hgne,yY0 _ _ _ _ hgne]
  have hlt:w.heap.size<(w.alloc (.cells #[.bool k.e,.int .u64 k.d,.int .u8 k.l] 67)).heap.size:=by simp
  refine⟨h1.c0,(hb.cell (p:=⟨w.heap.size,0,none⟩) hlt).trans z0,(hb.cell (p:=⟨w.heap.size,1,none⟩) hlt).trans z1,(hb.cell (p:=⟨w.heap.size,2,none⟩) hlt).trans z2,hf,y0,y1,y2,?_,h1.vr hx hk,?_⟩
  ·refine⟨(h1.vr hx hk).drew.c0,?_,?_,?_⟩
   ·exact(zZ0 (hS 0)).trans ((hb.cell (p:=⟨w.heap.size,0,none⟩) hlt).trans z0)
   ·exact(zZ0 (hS 0)).trans ((hb.cell (p:=⟨w.heap.size,1,none⟩) hlt).trans z1)
   ·exact(zZ0 (hS 0)).trans ((hb.cell (p:=⟨w.heap.size,2,none⟩) hlt).trans z2)
  exact(((Fr.aC (S:=fun b=>(Value.slice (some ⟨g,0,none⟩) T.length cap).ownBlock=some b) hb2).setCell (a:=⟨g,j*4,none⟩) rfl _).setCell (a:=⟨g,j*4+1,none⟩) rfl _).setCell (a:=⟨g,j*4+2,none⟩) rfl _
 clear h hr ht hx hk
 go_enter Tryz.func77,Tryz.ntmps77
 go_wp2_with (first
  |(go_at_call 97;refine(HT.out _ (by first|exact z9 _ _|exact(z9 _ _).alloc (i8 _) _)).mono ?_;rintro e w1 ⟨rfl,hw⟩;subst hw)
  |(go_at_call 126;refine(HR.out _).mono ?_;rintro e w1 ⟨rfl,hb1⟩;obtain⟨c0,k0,k1,k2,fz,y0,y1,y2,hSS,hI,hF⟩:=HG.out w1 hb1;replace hI:=aa hI;replace hF:=aa hF;clear hb1))
 have hS1:=aa (And.intro c0 (And.intro k0 (And.intro k1 k2)))
 have hS2:Hid (w1.drew.cell? ⟨s,0,none⟩=some (.slice (some ⟨g,0,none⟩) T.length cap)/\w1.drew.cell? ⟨w.heap.size,0,none⟩=some (.bool k.e)/\w1.drew.cell? ⟨w.heap.size,1,none⟩=some (.int .u64 k.d)/\w1.drew.cell? ⟨w.heap.size,2,none⟩=some (.int .u8 k.l)):=⟨c0,k0,k1,k2⟩
 replace hSS:=aa hSS
 go_region_held3 (fun w'=>(w'.cell? ⟨s,0,none⟩=some (.slice (some ⟨g,0,none⟩) T.length cap)/\w'.cell? ⟨w.heap.size,0,none⟩=some (.bool k.e)/\w'.cell? ⟨w.heap.size,1,none⟩=some (.int .u64 k.d)/\w'.cell? ⟨w.heap.size,2,none⟩=some (.int .u8 k.l)))
  (first|with_reducible exact hS1.out|with_reducible exact hS2.out|with_reducible exact hSS.out)
  (first|fail)
 all_goals go_wp2
 all_goals go_ret
 all_goals exact⟨rfl,hI.out.drew,hF.out.drew⟩
end
end Go.Proofs.YtjlbmmiomfpgiaaGreatDoor.Pi
namespace Go.Proofs.YtjlbmmiomfpgiaaGreatDoor.Pi
open Go.Proofs.YtjlbmmiomfpgiaaGreatDoor.Ke
open Go.Shelf
open Go.RowKit hiding Hid
attribute [local go_sem] Oper.semAt_some
def dg (L:List Lk) (t:Int) (j:Nat):List Int:=((List.range j).filter (fun m=>(L[m]?).map (·.h)==some t)).map (fun m:Nat=>(m:Int))
def dx (L:List Lk) (t:Int):List Int:=dg L t L.length
theorem mU {L:List Lk} {t:Int} {j:Nat} {y:Lk} (hy:L[j]? =some y) (h:y.h=t):dg L t (j+1)=dg L t j++[(j:Int)]:=by
 unfold dg
 rw[List.range_succ,List.filter_append,List.map_append]
 simp[hy,h]
theorem wQ {L:List Lk} {t:Int} {j:Nat} {y:Lk} (hy:L[j]? =some y) (h: ¬y.h=t):dg L t (j+1)=dg L t j:=by
 unfold dg
 rw[List.range_succ,List.filter_append,List.map_append]
 simp[hy,h]
theorem nB {L:List Lk} {t:Int} {i j:Nat} (h:i<=j):dg L t i<+:dg L t j:=by
 unfold dg
 obtain⟨d,rfl⟩: ∃d,j=i+d:=⟨j-i,by omega⟩
 rw[List.range_add,List.filter_append,List.map_append]
 exact List.prefix_append _ _
structure Fm (W:World) (s:Nat) (a:Option Addr) (cap:Nat) (L:List Lk):Prop where
 c1:W.cell? ⟨s,1,none⟩=some (.slice a L.length cap)
 le:L.length<=cap/\cap<=maxLen
 ce: ∀(j:Nat) y,L[j]? =some y-> ∃g va vn vc,a=some ⟨g,0,none⟩/\W.cell? ⟨g,j*2,none⟩=some (.int .i64 y.h)/\W.cell? ⟨g,j*2+1,none⟩=some (.slice va vn vc)
theorem eG.Hf {w:World} {base s:Nat} {vt vl:Value} {V:List Value} {T:List Th} {L:List Lk} (h:eG w base s vt vl V T L): ∃a cap,vl= .slice a L.length cap/\Fm w s a cap L:=by
 obtain⟨a,cap,rfl,h1,h2⟩:=lZ h.lko
 refine⟨a,cap,rfl,h.c1,⟨h1,h2⟩,fun j y hy=> ?_⟩
 have hj:=(zY0.1 hy).1
 obtain⟨v,hv⟩:=h.line hj
 obtain⟨g,cap',e,_,_,_,_,_,hc⟩:=h.Dt (by omega)
 simp at e
 obtain⟨y0,y1⟩:=hc j y v hy hv
 obtain⟨va,vc,rfl,_⟩:=lZ (h.lin j y v hy hv)
 exact⟨g,va,_,vc,e.1,y0,y1⟩
def Kh (n0 B2:Nat) (t:Int) (A B:World):Prop:=Below n0 A B/\(Boxed A B2 3 (.int .i64 t)->Boxed B B2 3 (.int .i64 t))
theorem qV (nn:Nat) (hn:1<=nn) (l B1 B2 n0 s:Nat) (a:Option Addr) (cap:Nat) (L:List Lk) (t:Int) (J Jx:List Int->World->Prop)
  (hY: ∀pre x W,J pre W->pre.length<(dx L t).length->YieldAt Fence.wide (nn-1) Tryz.prog l #[.int .i64 x] W fun e W'=>
   (e= .returned (.bool true)/\J (pre++[x]) W'/\Kh n0 B2 t W W')\/(e= .returned (.bool false)/\Jx (pre++[x]) W'))
  (W:World) (hb1:W.cell? ⟨B1,0,none⟩=some (.pointer (some ⟨s,0,none⟩))) (hb2:Boxed W B2 3 (.int .i64 t)) (hr:Fm W s a cap L) (hL:L.length<=32) (hgn: ∀g,a=some ⟨g,0,none⟩->g<n0) (n1:Nat) (hJ:AbidesFrom n1 J) (hn0:n0<=W.heap.size) (h0:J [] W):
  CallsIn Fence.wide nn Tryz.prog 171 #[.func (.yield l) #[] #[],.pointer (some ⟨B1,0,none⟩),.pointer (some ⟨B2,0,none⟩)] W fun e W'=>(∃v,e= .returned v)/\
   ((∃ys,ys=dx L t/\J ys W')\/(∃pre,pre<+:dx L t/\Jx pre W')):=by
 have c1:=hr.c1
 have HR:=aa hr
 have HB2:=aa hb2
 have H0:=aa h0
 have HY:=aa hY
 clear hb2 hr h0 hY
 refine callsIn_of_wp Tryz.func171 rfl trivial ?_ rfl
 simp only[Tryz.ntmps171,List.size_toArray,List.length_cons,List.length_nil,Nat.reduceAdd,Nat.reduceSub,Array.replicate_succ,Array.replicate_zero,List.push_toArray,List.append_toArray,List.nil_append,List.cons_append]
 gi_wp2
 gi_loopw [11] (fun p wr=> ∃(j:Nat),j<=L.length/\p= .int .i64 j/\n0<=wr.heap.size/\Below n0 W wr/\Boxed wr B2 3 (.int .i64 t)/\J (dg L t j) wr)
  (fun p _=>L.length-(RowKit.intOf p).toNat)
 case atStart=>exact⟨0,by omega,rfl,hn0,z9 _ _,HB2.out,H0.out⟩
 case round=>
  obtain⟨j,hj,rfl,hn1,hbe,hbx,hJ0⟩:=hrel
  by_cases hjl:j<L.length
  ·have hjl':(j:Int)<(L.length:Int):=by omega
   obtain⟨y,hy⟩: ∃y,L[j]? =some y:=⟨_,yV0 hjl⟩
   obtain⟨g,va,vn,vc,rfl,y0',y1'⟩:=HR.out.ce j y hy
   have y0:=(hbe.cell (p:=⟨g,j*2,none⟩) (hgn g rfl)).trans y0'
   have y1:=(hbe.cell (p:=⟨g,j*2+1,none⟩) (hgn g rfl)).trans y1'
   have b2:=hbx.cell
   have hlt2:=hbx.lt
   have hne2: ¬B2=wr.heap.size:=by omega
   have HBe:=aa hbe
   have HBx:=aa hbx
   have HJ0:=aa hJ0
   have HYJ:=aa hy
   clear y0' y1' hbe hbx hJ0 hy
   by_cases hh:y.h=t
   ·have hh':(y.h==t)=true:=by simp[hh]
    have hJ1:J (dg L t j) (wr.alloc (.cells #[.int .i64 t,.slice va vn vc] 145)):=hJ _ wr _ none HJ0.out ⟨rfl,rfl,rfl,by simp,fun k hk _=>Below.heap_alloc _ _ _ hk⟩ (fun r e=>by cases e)
    have hpl:(dg L t j).length<(dx L t).length:=by
     have e:=mU HYJ.out hh
     have p:=(nB (L:=L) (t:=t) (show j+1<=L.length by omega)).length_le
     rw[e] at p
     unfold dx
     simp at p
     omega
    obtain⟨fn,tmps,assign,body,hyy,hR⟩:=HY.out _ (j:Int) _ hJ1 hpl
    have HA:Hid (Boxed (wr.alloc (.cells #[.int .i64 t,.slice va vn vc] 145)) B2 3 (.int .i64 t)):=HBx.out.alloc _
    have HE:=aa (mU HYJ.out hh)
    have HP:=aa (nB (L:=L) (t:=t) (show j+1<=L.length by omega))
    have HBe2:Hid (Below n0 W (wr.alloc (.cells #[.int .i64 t,.slice va vn vc] 145))):=HBe.out.alloc hn1 _
    clear hpl hJ1
    gi_wp2
    refine hR.mono ?_
    rintro e W3 (⟨rfl,hJ3,hk3⟩|⟨rfl,hJx3⟩)
    ·have HB3:=aa (hk3.2 HA.out)
     have HBe3:=aa (HBe2.out.trans hk3.1)
     have hz3:n0<=W3.heap.size:=by have:=hk3.1.size;simp at this;omega
     have HJ3:=aa hJ3
     clear hJ3 hk3 hyy hR HY
     gi_wp2
     go_roundw
     case rel=>
      refine⟨j+1,by omega,by go_num,hz3,HBe3.out,HB3.out,?_⟩
      rw[HE.out]
      exact HJ3.out
     case measure=>simp[RowKit.intOf];omega
    ·have HJx:=aa hJx3
     clear hJx3 hyy hR HY
     gi_wp2
     refine bodyPost_ret (results_none rfl _ _ _) rfl ?_
     refine⟨⟨_,rfl⟩,.inr ⟨_,?_,HJx.out⟩⟩
     have p:=HP.out
     rw[HE.out] at p
     exact p
   ·have hh':(y.h==t)=false:=by simp[hh]
    have HJ1:Hid (J (dg L t (j+1)) (wr.alloc (.cells #[.int .i64 y.h,.slice va vn vc] 145))):=by
     show J _ _
     rw[wQ HYJ.out hh]
     exact hJ _ wr _ none HJ0.out ⟨rfl,rfl,rfl,by simp,fun k hk _=>Below.heap_alloc _ _ _ hk⟩ (fun r e=>by cases e)
    have HA:Hid (Boxed (wr.alloc (.cells #[.int .i64 y.h,.slice va vn vc] 145)) B2 3 (.int .i64 t)):=HBx.out.alloc _
    have HBe2:Hid (Below n0 W (wr.alloc (.cells #[.int .i64 y.h,.slice va vn vc] 145))):=HBe.out.alloc hn1 _
    gi_wp2
    refine⟨fun _ h=>(by cases h),?_⟩
    gi_wp2
    go_roundw
    case rel=>exact⟨j+1,by omega,by go_num,by simp;omega,HBe2.out,HA.out,HJ1.out⟩
    case measure=>simp[RowKit.intOf];omega
  ·have hjl': ¬(j:Int)<(L.length:Int):=by omega
   obtain rfl:j=L.length:=by omega
   have HJ0:=aa hJ0
   clear hJ0 hbe hbx
   gi_wp2
   go_end0
   exact⟨⟨_,rfl⟩,.inl HJ0.out⟩
theorem du:(Tryz.prog.info? 3).map (fun i=>(i.zero,i.size,i.bytes))=some (some (.int .i64 0),1,8):=by kernel_rfl
theorem uz (nn s:Nat) (t:Int) (w:World):
  CallsIn Fence.wide nn Tryz.prog 144 #[.pointer (some ⟨s,0,none⟩),.int .i64 t] w fun e w'=>e= .returned (.func (.func 171) #[] #[.pointer (some ⟨w.heap.size,0,none⟩),.pointer (some ⟨w.heap.size+1,0,none⟩)])/\
   w'=(w.alloc (.cells #[.pointer (some ⟨s,0,none⟩)] 86)).alloc (.cells #[.int .i64 t] 3):=by
 refine callsIn_of_wp Tryz.func144 rfl trivial ?_ rfl
 simp only[Tryz.ntmps144,List.size_toArray,List.length_cons,List.length_nil,Nat.reduceAdd,Nat.reduceSub,Array.replicate_succ,Array.replicate_zero,List.push_toArray,List.append_toArray,List.nil_append,List.cons_append]
 gi_wp2
 go_ret
 exact⟨by simp,rfl⟩
theorem Fm.below {W W':World} {s:Nat} {a:Option Addr} {cap n0:Nat} {L:List Lk} (h:Fm W s a cap L) (hb:Below n0 W W') (h1:s<n0) (h2: ∀g,a=some ⟨g,0,none⟩->g<n0):Fm W' s a cap L:=by
 refine⟨(hb.cell (p:=⟨s,1,none⟩) h1).trans h.c1,h.le,fun j y hy=> ?_⟩
 obtain⟨g,va,vn,vc,e,y0,y1⟩:=h.ce j y hy
 exact⟨g,va,vn,vc,e,(hb.cell (p:=⟨g,j*2,none⟩) (h2 g e)).trans y0,(hb.cell (p:=⟨g,j*2+1,none⟩) (h2 g e)).trans y1⟩
theorem ta (nn:Nat) (hn:1<=nn) (B1 B2 n0 s:Nat) (a:Option Addr) (cap:Nat) (L:List Lk) (t:Int) (w:World) (hb1:Boxed w B1 86 (.pointer (some ⟨s,0,none⟩))) (hb2:Boxed w B2 3 (.int .i64 t)) (hr:Fm w s a cap L) (hL:L.length<=32) (hsn:s<n0) (hgn: ∀g,a=some ⟨g,0,none⟩->g<n0) (hn0:n0<=w.heap.size):
  SeqStopsK Fence.wide nn Tryz.prog 171 #[.pointer (some ⟨B1,0,none⟩),.pointer (some ⟨B2,0,none⟩)] (fun x:Int=> #[Value.int .i64 x]) (Kh n0 B2 t) (fun ys=>ys=dx L t) (fun pre=>pre<+:dx L t) (dx L t).length w:=by
 intro l J Jx W hW hJ hJx hY h0
 exact qV nn hn l B1 B2 n0 s a cap L t J Jx hY W ((hW.cell (p:=⟨B1,0,none⟩) hb1.lt).trans hb1.cell) ((hW.block B2 hb2.lt).trans hb2) (hr.below (hW.mono hn0) hsn hgn) hL hgn _ hJ (yX0 hn0 hW.size) h0
theorem x9 {n0 B2:Nat} {t:Int} {A B C:World} (h:Kh n0 B2 t A B) (h':Kh n0 B2 t B C):Kh n0 B2 t A C:=⟨h.1.trans h'.1,fun q=>h'.2 (h.2 q)⟩
theorem E4 {w:World} {n0 B2:Nat} {t:Int} (hn:n0<=w.heap.size) (W:World) (l:Nat) (o o':Obj) (hl:w.heap.size<=l) (ho:W.heap[l]? =some o) (hc:o.isCells=false) (hw:o.isWalk=false):Kh n0 B2 t W (W.putObj l o'):=by
 refine⟨belowK_b hn W l o o' hl ho hc hw,fun q=>q.kept (grownBy_putObj' W l o') (fun e=> ?_)⟩
 cases e
 rw[show W.heap[B2]? =_ from q] at ho
 cases ho
 cases hc
theorem vQ {W w1:World} {n0 B B2:Nat} {t:Int} {v v':Value} {k m:Nat} {xs ys:List Value} {tmp:Obj} (hv:Boxed W B 57 v) (hrow:W.ownsRow n0 3 1 v k xs) (hn0:n0<=W.heap.size) (hB:n0<=B) (hne:B2≠B) (hnr:Boxed W B2 3 (.int .i64 t)->v.ownBlock≠some B2)
  (hown':w1.ownsRow n0 3 1 v' m ys) (hgrow:(W.alloc tmp).grownBy w1 v.ownBlock):Kh n0 B2 t W (w1.setCell ⟨B,0,none⟩ v'):=by
 refine⟨(hv.appended (by decide) hrow hn0 hB hown' hgrow).2.2.2.2,fun q=> ?_⟩
 have q1:=(q.alloc tmp).kept hgrow (fun e=>hnr q e.symm)
 exact q1.kept (grownBy_setCell' w1 B v') (by simp[hne])
theorem fp {w:World} {base base':Nat} {e:TypeId} {size:Nat} {v:Value} {n:Nat} {xs:List Value} (h:w.ownsRow base e size v n xs) (hb: ∀k,v.ownBlock=some k->base'<=k):w.ownsRow base' e size v n xs:=by
 refine⟨h.1,?_⟩
 rcases h.2 with q|⟨g,cap,cur,e1,h0,rest⟩
 ·exact .inl q
 ·exact .inr ⟨g,cap,cur,e1,hb g (by rw[e1];rfl),rest⟩
theorem tw (L:List Lk) (t:Int):(dx L t).length<=L.length:=by
 unfold dx dg
 rw[List.length_map]
 exact yX0 (List.length_filter_le _ _) (by simp)
section
variable {w:World} {base s:Nat} {vt vl:Value} {V:List Value} {T:List Th} {L:List Lk}
theorem Dd (h:eG w base s vt vl V T L) (t:Int) (ht:lT T t=true):
  CallsIn Fence.wide 4 Tryz.prog 189 #[.pointer (some ⟨s,0,none⟩),.int .i64 t] w fun e W'=> ∃v,e= .returned v/\W'.ownsRow w.heap.size 3 1 v (dx L t).length ((dx L t).map (Value.int .i64))/\Below w.heap.size w W':=by
 have HT:=aa (mh h t)
 rw[ht] at HT
 have HQ:=aa h
 have hL:=h.f.l2
 clear h ht
 obtain⟨i0,hi,hz0,hz1,hz2⟩:=info_parts du
 refine callsIn_of_wp_marks Tryz.func189 rfl trivial ?_ rfl
 simp only[Tryz.ntmps189,List.size_toArray,List.length_cons,List.length_nil,Nat.reduceAdd,Nat.reduceSub,Array.replicate_succ,Array.replicate_zero,List.push_toArray,List.append_toArray,List.nil_append,List.cons_append]
 gi_wp2_with (first
  |(refine⟨trivial,?_⟩;gi_at_call 97;refine(callsIn_wide.2 HT.out).mono ?_;rintro e w' ⟨rfl,hw⟩;replace hw:=hw.symm;subst hw)
  |(refine⟨trivial,?_⟩;gi_at_call 144;refine(uz _ s t _).mono ?_;rintro e w' ⟨rfl,rfl⟩))
 have hlen:(dx L t).length<=32:=yX0 (tw L t) hL
 obtain⟨a,cap,hvl,hrd⟩:=HQ.out.Hf
 have hsn:=HQ.out.lt
 have hgn: ∀g,a=some ⟨g,0,none⟩->g<w.heap.size:=fun g e=>(aw HQ.out.lko (k:=g) (by rw[hvl,e];rfl)).2.1
 have bO:=Boxed.new w 57 (.slice none 0 0)
 have b1:=Boxed.new (w.alloc (.cells #[.slice none 0 0] 57)) 86 (.pointer (some ⟨s,0,none⟩))
 have b2:=Boxed.new ((w.alloc (.cells #[.slice none 0 0] 57)).alloc (.cells #[.pointer (some ⟨s,0,none⟩)] 86)) 3 (.int .i64 t)
 have hB0:Below w.heap.size w (((w.alloc (.cells #[.slice none 0 0] 57)).alloc (.cells #[.pointer (some ⟨s,0,none⟩)] 86)).alloc (.cells #[.int .i64 t] 3)):=(((z9 _ w).alloc (i8 _) _).alloc (by simp) _).alloc (by simp;omega) _
 simp only[World.size_alloc] at b1 b2⊢
 refine wpIn_rangeFunc_ownG rfl (by decide) (gf:=171) (lb:= #[.pointer (some ⟨w.heap.size+1,0,none⟩),.pointer (some ⟨w.heap.size+1+1,0,none⟩)]) rfl trivial (enters_of Tryz.func171 (by kernel_rfl) rfl)
  (ta 3 (by decide) (w.heap.size+1) (w.heap.size+1+1) w.heap.size s a cap L t _ (b1.alloc _) b2 (hrd.below hB0 hsn hgn) hL hsn hgn hB0.size) x9 (E4 hB0.size) (z9 _ _) (fun _=>rfl)
  (fun (pre:List Int) W=>(∃v,Boxed W w.heap.size 57 v/\W.ownsRow w.heap.size 3 1 v pre.length (pre.map (Value.int .i64))/\(∀k,v.ownBlock=some k->w.heap.size+1+1+1<=k))/\Below w.heap.size w W/\w.heap.size+1+1+1<=W.heap.size)
  (fun _ _ _=>False)
  (OwnFrom.and (Own.from (holdsRow_own w.heap.size w.heap.size 57 3 1 (fun pre:List Int=>pre.length) (fun pre:List Int=>pre.map (Value.int .i64)) (fun _ v=> ∀k,v.ownBlock=some k->w.heap.size+1+1+1<=k)) _) (OwnFrom.and (ownFrom_below (i8 _) hB0.size) ?big))
  (fun _ _ _ _ _ hs _ _=>hs)
  ⟨⟨_,(bO.alloc _).alloc _,World.ownsRow_nil _ _ _ _,by simp[Value.ownBlock]⟩,hB0,by simp⟩
  (fun x=>{tmps:= #[.pointer (some ⟨s,0,none⟩),.int .i64 t,undef,undef,.slice none 0 0,.pointer (some ⟨w.heap.size,0,none⟩),.int .i64 x,.pointer (some ⟨s,0,none⟩),.bool false,.bool false,.pointer (some ⟨s,0,none⟩),.int .i64 t,.bool true,.bool false,.bool false,.pointer (some ⟨s,0,none⟩),.int .i64 t,.func (.func 171) #[] #[.pointer (some ⟨w.heap.size+1,0,none⟩),.pointer (some ⟨w.heap.size+1+1,0,none⟩)],.int .i64 x,undef,undef,undef,undef,undef],defers:=[]}) ?assign ?body ?done ?stop
 case big=>
  intro _ X Y row hs hg _
  exact yX0 hs hg.size
 case assign=>
  intro l x W K hK
  gi_wp2
  exact hK
 case body=>
  rintro l pre x W ⟨⟨v,hv,hrow,hvk⟩,hB,hbig⟩ hlt
  have hc:=hv.cell
  have hsz:=hB.size
  have hrow3:=fp hrow hvk
  gi_wp2_with (gi_at_builtin;refine wpListIn_append_own _ rfl _ _ 57 rfl (w.heap.size+1+1+1) 3 i0 (.int .i64 0) 1 8 Tryz.underlying57 hi hz0 hz1 hz2 rfl (by decide) _ _ _ rfl (hrow3.alloc _) ⟨W.heap.size,0,none⟩ 1 1 [.int .i64 x] rfl rfl (cell_one_new _ _ _) (by simp[Value.oneCell']) (by unfold maxLen;omega) (by omega) (by simp;omega) ?_;intro v' w1 hown3 hgrow _;have hvk': ∀k,v'.ownBlock=some k->w.heap.size+1+1+1<=k:=(fun k hk=>(aw hown3 hk).1);have hown':=fp (base':=w.heap.size) hown3 (fun k hk=>by have:=hvk' k hk;omega);obtain⟨g',cap',rfl⟩:=ownsRow_succ hown';obtain⟨hv1,hv2,hr2,hk2,hb2⟩:=hv.appended (by decide) hrow hB.size (i8 _) hown' hgrow;have hkp:=vQ (B2:=w.heap.size+1+1) (t:=t) hv hrow hB.size (i8 _) (by omega) (fun _ e=>by have:=hvk _ e;omega) hown' hgrow;have hc1:=hv1.cell;have hf1:=hv1.frozen)
  exact⟨hk2.from _,hkp,⟨_,hv2,by simpa using hr2,hvk'⟩,hB.trans hb2,by have:=hb2.size;omega⟩
 case done=>
  rintro D ys W hD rfl ⟨⟨v,hv,hrow,_⟩,hB,_⟩ hK
  have hc:=hv.cell
  gi_wp2
  refine⟨by simp,.inl ⟨_,_,rfl,run_takeDeferred hK,?_⟩⟩
  exact⟨_,results_tmp rfl _ _ _,v,rfl,ownsRow_putObj hrow _ hK rfl,hB.trans (belowK_b (w:=w) (i8 _) W D _ _ (by simp at hD;omega) hK rfl rfl)⟩
 case stop=>
  rintro D c pre W _ _ h _
  exact h.elim
end
structure FE (W:World) (s g cap:Nat) (T:List Th):Prop where
 c0:W.cell? ⟨s,0,none⟩=some (.slice (some ⟨g,0,none⟩) T.length cap)
 le:T.length<=cap/\cap<=maxLen
 ce: ∀(j:Nat) x,T[j]? =some x->W.cell? ⟨g,j*4,none⟩=some (.bool x.k.e)/\W.cell? ⟨g,j*4+1,none⟩=some (.int .u64 x.k.d)/\W.cell? ⟨g,j*4+2,none⟩=some (.int .u8 x.k.l)/\W.cell? ⟨g,j*4+3,none⟩=some (.int .i64 x.u)
theorem eG.Hs {w:World} {base s:Nat} {vt vl:Value} {V:List Value} {T:List Th} {L:List Lk} (h:eG w base s vt vl V T L): ∃g cap,vt= .slice (some ⟨g,0,none⟩) T.length cap/\FE w s g cap T:=by
 obtain⟨g,cap,rfl,h1,h2,_,_,_,hc⟩:=h.AM
 exact⟨g,cap,rfl,h.c0,⟨h1,h2⟩,hc⟩
theorem FE.below {W W':World} {s g cap n0:Nat} {T:List Th} (h:FE W s g cap T) (hb:Below n0 W W') (h1:s<n0) (h2:g<n0):FE W' s g cap T:=by
 refine⟨(hb.cell (p:=⟨s,0,none⟩) h1).trans h.c0,h.le,fun j x hx=> ?_⟩
 obtain⟨y0,y1,y2,y3⟩:=h.ce j x hx
 exact⟨(hb.cell (p:=⟨g,j*4,none⟩) h2).trans y0,(hb.cell (p:=⟨g,j*4+1,none⟩) h2).trans y1,(hb.cell (p:=⟨g,j*4+2,none⟩) h2).trans y2,(hb.cell (p:=⟨g,j*4+3,none⟩) h2).trans y3⟩
end Go.Proofs.YtjlbmmiomfpgiaaGreatDoor.Pi
namespace Go.Proofs.YtjlbmmiomfpgiaaGreatDoor.Pi
open Go.Proofs.YtjlbmmiomfpgiaaGreatDoor.Ke
open Go.Shelf
open Go.RowKit hiding Hid
section
variable {w:World} {base s:Nat} {vt vl:Value} {V:List Value} {T:List Th} {L:List Lk}
theorem Bh (h:eG w base s vt vl V T L) (t:Int) (ht:lT T t=false):Calls Tryz.prog 189 #[.pointer (some ⟨s,0,none⟩),.int .i64 t] w fun e w'=>e= .returned (.slice none 0 0)/\Below w.heap.size w w':=by
 have HT:=aa (mh h t)
 rw[ht] at HT
 clear h ht
 go_enter Tryz.func189,Tryz.ntmps189
 go_wp2_with (go_at_call 97;refine(HT.out).mono ?_;rintro e w1 ⟨rfl,hw⟩;replace hw:=hw.symm;subst hw)
 go_ret
 exact⟨rfl,z9 _ _⟩
def lA (T:List Th) (L:List Lk) (t:Int):List Int:=if lT T t then dx L t else []
theorem C7 (h:eG w base s vt vl V T L) (t:Int):Calls Tryz.prog 189 #[.pointer (some ⟨s,0,none⟩),.int .i64 t] w fun e w'=> ∃v,e= .returned v/\w'.ownsRow w.heap.size 3 1 v (lA T L t).length ((lA T L t).map (Value.int .i64))/\Below w.heap.size w w':=by
 unfold lA
 cases ht:lT T t with
 |true=>
  rw[if_pos rfl]
  exact callsIn_wide.1 (Dd h t ht)
 |false=>
  rw[if_neg (by simp)]
  refine(Bh h t ht).mono ?_
  rintro e w' ⟨rfl,hb⟩
  exact⟨_,rfl,World.ownsRow_nil _ _ _ _,hb⟩
end
end Go.Proofs.YtjlbmmiomfpgiaaGreatDoor.Pi
namespace Go.Proofs.YtjlbmmiomfpgiaaGreatDoor.Pi
open Go.Proofs.YtjlbmmiomfpgiaaGreatDoor.Ke
open Go.Lib
open Go.RowKit hiding Hid
def Kept (l D:Nat) (r:Loop) (W:World):Prop:=W.heap[l]? =some (.loop r)/\W.heap[D]? =some (.deferred (some []))
theorem Kept.alloc {l D:Nat} {r:Loop} {W:World} (h:Kept l D r W) (o:Obj):Kept l D r (W.alloc o):=
 ⟨(Below.heap_alloc _ _ _ (Array.getElem?_eq_some_iff.1 h.1).1).trans h.1,(Below.heap_alloc _ _ _ (Array.getElem?_eq_some_iff.1 h.2).1).trans h.2⟩
theorem Kept.put {l D:Nat} {r:Loop} {W:World} (h:Kept l D r W) (hne:l≠D) (r':Loop):Kept l D r' (W.putObj l (.loop r')):=
 ⟨World.putObj_heap_same (Array.getElem?_eq_some_iff.1 h.1).1,(World.putObj_heap_other (Ne.symm hne)).trans h.2⟩
theorem Kept.ft {l D k:Nat} {r:Loop} {W:World} (h:Kept l D r W) (h1:l≠k) (h2:D≠k) (o:Obj):Kept l D r (W.putObj k o):=
 ⟨(World.putObj_heap_other h1).trans h.1,(World.putObj_heap_other h2).trans h.2⟩
theorem Kept.keeps {l D B:Nat} {r:Loop} {W W':World} (h:Kept l D r W) (hl:B<=l) (hD:B<=D) (hk:KeepsFrom B W W'):Kept l D r W':=
 ⟨hk.same l _ hl h.1 rfl,hk.same D _ hD h.2 rfl⟩
structure Fi (n:Nat) (J:Nat->World->Prop):Prop where
 al: ∀k W o,J k W->J k (World.alloc W o)
 pu: ∀k W l o o',n<=l->W.heap[l]? =some o->o.isCells=false->J k W->J k (W.putObj l o')
structure Kk (n:Nat) (S:Nat->Prop) (V V':World):Prop where
 kp:KeepsFrom n V V'
 kc: ∀b c t x,¬S b->V.heap[b]? =some (.cells c t x)->V'.heap[b]? =some (.cells c t x)
theorem Kk.refl (n:Nat) (S:Nat->Prop) (V:World):Kk n S V V:=⟨KeepsFrom.refl _ _,fun _ _ _ _ _ h=>h⟩
theorem Kk.trans {n:Nat} {S:Nat->Prop} {A B C:World} (h:Kk n S A B) (k:Kk n S B C):Kk n S A C:=⟨h.kp.trans k.kp,fun b c t x hs hb=>k.kc b c t x hs (h.kc b c t x hs hb)⟩
theorem Kk.wide {n n':Nat} {S:Nat->Prop} {A B:World} (h:Kk n S A B) (hn:n<=n'):Kk n' S A B:=⟨⟨h.kp.size,fun k o hk ho hc=>h.kp.same k o (yX0 hn hk) ho hc⟩,h.kc⟩
theorem Kk.below {n:Nat} {S:Nat->Prop} {A B:World} (h:Below A.heap.size A B):Kk n S A B:=
 ⟨⟨h.size,fun k o _ ho _=>(h.block k (Array.getElem?_eq_some_iff.1 ho).1).trans ho⟩,fun b c t x _ hb=>(h.block b (Array.getElem?_eq_some_iff.1 hb).1).trans hb⟩
theorem Kk.setCell {n:Nat} {S:Nat->Prop} {A B:World} (h:Kk n S A B) {a:Addr} (ha:S a.block) (v:Value):Kk n S A (B.setCell a v):=
 h.trans ⟨(KeepsOthers.setCell B a v).from n,fun b c t x hs hb=>(yY0 _ _ _ _ (fun e=>hs (by rw[e];exact ha))).trans hb⟩
theorem Kk.put {n:Nat} {S:Nat->Prop} {A B:World} (h:Kk n S A B) {l:Nat} {o o':Obj} (hl:l<n) (ho:B.heap[l]? =some o) (hc:o.isCells=false):Kk n S A (B.putObj l o'):=by
 refine h.trans ⟨⟨by simp[World.putObj],fun k x hk hx _=>(World.putObj_heap_other (by omega)).trans hx⟩,fun b c t x _ hb=>(World.putObj_heap_other (fun e=> ?_)).trans hb⟩
 subst e
 rw[hb] at ho
 obtain rfl:=Option.some.inj ho
 cases hc
theorem Kk.box {n:Nat} {S:Nat->Prop} {A B:World} (h:Kk n S A B) {b:Nat} {t:TypeId} {v:Value} (hs: ¬S b) (hb:Boxed A b t v):Boxed B b t v:=h.kc b _ _ _ hs hb
theorem jz {V:World} {b:Nat} {ty:TypeId} {v:Value} {k:Nat} {o o':Obj} (hb:Boxed V b ty v) (ho:V.heap[k]? =some o) (hc:o.isCells=false):Boxed (V.putObj k o') b ty v:=by
 refine hb.kept (grownBy_putObj' V k o') (fun e=> ?_)
 cases e
 rw[show V.heap[b]? =_ from hb] at ho
 obtain rfl:=Option.some.inj ho
 cases hc
theorem yi {P:Program} {n:Nat} {g:Operand} {p:Tmp} {assign body:Code} {Q:Exit->Act->World->Prop} {a:Act} {w:World} {gf:Nat} {lb:Array Value}
  (hg:a.eval g= .func (.func gf) #[] lb) (eg: ∀args w,(callFunc gf args).run P w= .ok (.enter gf args) w)
  (J:Nat->World->Prop) (N Y:Nat->Prop) (enc:Nat->Value) (m:Nat) (a₁:Nat->Act) (S:Nat->Prop)
  (hA:Fi w.heap.size J)
  (hNo: ∀k W,N k->J k W->J (k+1) W) (h0:J 0 w)
  (hit: ∀(l:Nat) (J':Nat->World->Prop) (W:World),(∀k W,J' k W->J k W)->Fi W.heap.size J'->(∀k W,N k->J' k W->J' (k+1) W)->
   (∀k V,Y k->J' k V->YieldAt Fence.wide (n-1-1) P l #[enc k] V fun e V'=>e= .returned (.bool true)/\J' (k+1) V'/\Kk W.heap.size S V V')->J' 0 W->w.heap.size+2=W.heap.size->
   CallsIn Fence.wide (n-1) P gf (#[.func (.yield l) #[] #[]]++lb) W fun e W'=>(∃v,e= .returned v)/\J' m W')
  (has: ∀(l k:Nat) (W:World) (K:Act->World->Prop),K (a₁ k) W->assign.wpIn (Fence.wide.inRound l) (n-1-1) P (Exit.then K (fun _ _ _=>False)) {tmps:=a.tmps.setIfInBounds p (enc k),defers:=[]} W)
  (hbo: ∀(l k:Nat) (W:World),Y k->J k W->body.wpIn (Fence.wide.inRound l) (n-1-1) P (fun e _ W'=>e= .normal/\Kk w.heap.size S W W'/\J (k+1) W') (a₁ k) W)
  (hdo: ∀(D:Nat) (W:World),w.heap.size<=D->J m W->W.heap[D]? =some (.deferred (some []))->Q .normal {a with defers:={target:= .collected D,args:= #[]}::a.defers} W):
  (Code.rangeFunc g #[p] assign body).wpIn Fence.wide n P Q a w:=by
 refine wpIn_rangeFunc fun fn hfn=> ?_
 have hne:w.heap.size+1≠w.heap.size:=by omega
 obtain⟨r,hr⟩: ∃r:Loop,r={state:= .ready,pending:=none,fn,tmps:=a.tmps,params:= #[p],assign,body,defers:=w.heap.size}:=⟨_,rfl⟩
 have hk0:Kept (w.heap.size+1) w.heap.size r ((w.alloc (.deferred (some []))).alloc (.loop r)):=by
  refine⟨?_,(Below.heap_alloc _ _ _ (by simp)).trans (World.alloc_heap_new w _)⟩
  have:=World.alloc_heap_new (w.alloc (.deferred (some []))) (.loop r)
  rwa [World.size_alloc] at this
 have hready:r.state= .ready:=by rw[hr]
 refine⟨w.heap.size+1,[{target:= .collected w.heap.size,args:= #[]}],(w.alloc (.deferred (some []))).alloc (.loop r),{target:= .fn (.func gf) lb,args:= #[.func (.yield (w.heap.size+1)) #[] #[]]},(w.alloc (.deferred (some []))).alloc (.loop r),gf,#[.func (.yield (w.heap.size+1)) #[] #[]]++lb,(w.alloc (.deferred (some []))).alloc (.loop r),?_,?_,fun _ _=>trivial,?_,fun h=>(by cases h),?_⟩
 ·rw[hr];exact run_enterLoop_outer _ _ _ _ _
 ·simp only[resolve,hg]
  simp[go_sem]
 ·simp[invoke,go_sem,eg]
 ·refine(hit (w.heap.size+1) (fun k W=>J k W/\Kept (w.heap.size+1) w.heap.size r W) _ (fun _ _ h=>h.1) ⟨fun k W o h=>⟨hA.al k W o h.1,h.2.alloc o⟩,fun k W l o o' hl ho hc h=> ?_⟩ (fun k W hN h=>⟨hNo k W hN h.1,h.2⟩) ?_ ⟨hA.al 0 _ _ (hA.al 0 _ _ h0),hk0⟩ (by simp)).mono ?_
  ·simp only[World.size_alloc] at hl
   exact⟨hA.pu k W l o o' (by omega) ho hc h.1,h.2.ft (by omega) (by omega) o'⟩
  ·rintro k W hY ⟨hJ,hK⟩
   have hy:=run_yield (P:=P) (args:= #[enc k]) hK.1 (by rw[hr];rfl)
   refine⟨_,_,_,_,hy,roundIn_of_wpIn (by rw[hr];exact hfn) ?_⟩
   have e1:r.assign=assign:=by rw[hr]
   have e2:r.body=body:=by rw[hr]
   have e3:((r.params.zip #[enc k]).foldl (fun tmps (t,a)=>tmps.setIfInBounds t a) r.tmps)=a.tmps.setIfInBounds p (enc k):=by rw[hr];simp
   rw[e1,e2,e3]
   refine has _ k W _ ?_
   refine⟨_,run_beginRound hK.1 hready,?_⟩
   have hJ1:J k (W.putObj (w.heap.size+1) (.loop {r with state:= .busy})):=hA.pu k W _ _ _ (by omega) hK.1 rfl hJ
   have hK1:=hK.put hne {r with state:= .busy}
   refine wpIn_mono (hbo _ k _ hY hJ1) ?_
   rintro e a3 W3 ⟨rfl,hk3,hJ3⟩
   have hK3:=hK1.keeps (by omega) (i8 _) hk3.kp
   have hkk:Kk (w.heap.size+2) S W W3:=((Kk.refl _ S W).put (by omega) hK.1 rfl).trans (hk3.wide (by omega))
   refine⟨_,_,run_endRound none hK3.1,rfl,⟨hA.pu (k+1) W3 _ _ _ (by omega) hK3.1 rfl hJ3,?_⟩,?_⟩
   ·have:=hK3.put hne {{r with state:=LoopState.busy} with state:= .ready,pending:=none}
    rw[hr] at this⊢
    exact this
   ·simp only[World.size_alloc]
    exact hkk.put (by omega) hK3.1 rfl
  ·rintro e W2 ⟨⟨v,rfl⟩,hJ,hK⟩
   refine⟨none,_,?_,hdo _ _ (i8 _) (hA.pu m W2 _ _ (.loop {r with state:= .exhausted}) (by omega) hK.1 rfl hJ) (hK.put hne _).2⟩
   have:=run_endLoop (P:=P) hK.1 (by rw[hready];decide)
   rw[this,hr]
end Go.Proofs.YtjlbmmiomfpgiaaGreatDoor.Pi
namespace Go.Proofs.YtjlbmmiomfpgiaaGreatDoor.Pi
open Go.Proofs.YtjlbmmiomfpgiaaGreatDoor.Ke
open Go.Shelf
open Go.RowKit hiding Hid
attribute [local go_sem] Oper.semAt_some
structure Vw (n0:Nat) (W:World) (s gt ct:Nat) (a:Option Addr) (cap:Nat) (ln:Nat->Option Addr×Nat) (T:List Th) (L:List Lk):Prop where
 sl:s<n0
 tl:gt<n0
 al: ∀g,a=some ⟨g,0,none⟩->g<n0
 t:FE W s gt ct T
 c1:W.cell? ⟨s,1,none⟩=some (.slice a L.length cap)
 le:L.length<=cap/\cap<=maxLen
 ce: ∀(j:Nat) y,L[j]? =some y-> ∃g,a=some ⟨g,0,none⟩/\W.cell? ⟨g,j*2,none⟩=some (.int .i64 y.h)/\W.cell? ⟨g,j*2+1,none⟩=some (.slice (ln j).1 y.l.length (ln j).2)/\y.l.length<=(ln j).2/\(ln j).2<=maxLen/\
  ∀(i:Nat) (x:Nat),y.l[i]? =some x-> ∃gg,(ln j).1=some ⟨gg,0,none⟩/\gg<n0/\W.cell? ⟨gg,i,none⟩=some (.int .i64 (x:Int))
theorem Vw.below {n0:Nat} {W W':World} {s gt ct:Nat} {a:Option Addr} {cap:Nat} {ln:Nat->Option Addr×Nat} {T:List Th} {L:List Lk} (h:Vw n0 W s gt ct a cap ln T L) (hb:Below n0 W W'):Vw n0 W' s gt ct a cap ln T L:=by
 refine⟨h.sl,h.tl,h.al,h.t.below hb h.sl h.tl,(hb.cell (p:=⟨s,1,none⟩) h.sl).trans h.c1,h.le,fun j y hy=> ?_⟩
 obtain⟨g,e,y0,y1,l1,l2,hx⟩:=h.ce j y hy
 refine⟨g,e,(hb.cell (p:=⟨g,j*2,none⟩) (h.al g e)).trans y0,(hb.cell (p:=⟨g,j*2+1,none⟩) (h.al g e)).trans y1,l1,l2,fun i x hi=> ?_⟩
 obtain⟨gg,e1,e2,e3⟩:=hx i x hi
 exact⟨gg,e1,e2,(hb.cell (p:=⟨gg,i,none⟩) e2).trans e3⟩
def sY (V:List Value) (j:Nat):Option Addr×Nat:=match V[j]? with
 |some (.slice a _ c)=>(a,c)
 |_=>(none,0)
theorem eG.vw {w:World} {base s:Nat} {vt vl:Value} {V:List Value} {T:List Th} {L:List Lk} (h:eG w base s vt vl V T L): ∃gt ct a cap,vt= .slice (some ⟨gt,0,none⟩) T.length ct/\vl= .slice a L.length cap/\Vw w.heap.size w s gt ct a cap (sY V) T L:=by
 obtain⟨gt,ct,e,ht⟩:=h.Hs
 obtain⟨a,cap,e',hl⟩:=h.Hf
 refine⟨gt,ct,a,cap,e,e',h.lt,(aw h.tho (k:=gt) (by rw[e];rfl)).2.1,fun g eg=>(aw h.lko (k:=g) (by rw[e',eg];rfl)).2.1,ht,hl.c1,hl.le,fun j y hy=> ?_⟩
 have hj:=(zY0.1 hy).1
 obtain⟨v,hv⟩:=h.line hj
 obtain⟨g,cap',e2,_,_,_,_,_,hc⟩:=h.Dt (by omega)
 rw[e'] at e2
 simp at e2
 obtain⟨y0,y1⟩:=hc j y v hy hv
 have hown:=h.lin j y v hy hv
 obtain⟨va,vc,rfl,l1,l2⟩:=lZ hown
 have el:sY V j=(va,vc):=by unfold sY;rw[hv]
 rw[el]
 refine⟨g,e2.1,y0,y1,l1,l2,fun i x hi=> ?_⟩
 have hil:=(zY0.1 hi).1
 rcases hown.2 with ⟨e3,e0⟩|⟨gg,vc',cur,e3,_,hgg,_⟩
 ·omega
 ·simp at e3
  obtain⟨e4,rfl⟩:=e3
  refine⟨gg,e4,(Array.getElem?_eq_some_iff.1 hgg).1,?_⟩
  subst e4
  rw[hown.cellAt i (by omega)]
  simp[ints,hi]
theorem fR (A B:List Lk) (t:Nat):behind (A++B) t=behind A t++behind B t:=by unfold behind;rw[List.filter_append,List.flatMap_append]
theorem kQ {α:Type} {l:List α} {j:Nat} {y:α} (h:l[j]? =some y):l.take (j+1)=l.take j++[y]:=by
 rw[List.take_add_one,h];rfl
theorem EE {L:List Lk} {t j:Nat} {y:Lk} (hy:L[j]? =some y) (h: ¬y.h=(t:Int)):behind (L.take (j+1)) t=behind (L.take j) t:=by
 rw[kQ hy,fR]
 simp[behind,h]
theorem uZ {L:List Lk} {t j:Nat} {y:Lk} (hy:L[j]? =some y) (h:y.h=(t:Int)):behind (L.take (j+1)) t=behind (L.take j) t++y.l:=by
 rw[kQ hy,fR]
 simp[behind,h]
theorem CE (L:List Lk) (t j:Nat):behind (L.take j) t<+:behind L t:=by
 conv=>rhs;rw[←List.take_append_drop j L]
 rw[fR]
 exact List.prefix_append _ _
theorem Ek {L:List Lk} {t j i x:Nat} {y:Lk} (hy:L[j]? =some y) (h:y.h=(t:Int)) (hx:y.l[i]? =some x):(behind L t)[(behind (L.take j) t).length+i]? =some x:=by
 obtain⟨r,hr⟩:=CE L t (j+1)
 rw[←hr,uZ hy h]
 have hi:=(zY0.1 hx).1
 rw[yZ0 (by simp;omega),zU0 (by omega)]
 simpa using hx
theorem rY (nn:Nat) (l B1 B2 s gt ct:Nat) (a:Option Addr) (cap:Nat) (ln:Nat->Option Addr×Nat) (n0:Nat) (T:List Th) (L:List Lk) (t:Int) (n1:Nat) (J:Nat->World->Prop) (hL:L.length<=32)
  (hJ: ∀k W,J k W->W.cell? ⟨B1,0,none⟩=some (.pointer (some ⟨s,0,none⟩))/\W.cell? ⟨B2,0,none⟩=some (.int .i64 t)/\Vw n0 W s gt ct a cap ln T L)
  (hB: ∀k W,J k W->B2<W.heap.size)
  (hA:Fi n1 J)
  (hN: ∀k W,(∀y,L[k]? =some y-> ¬y.h=t)->J k W->J (k+1) W)
  (hY: ∀k W,(∃y,L[k]? =some y/\y.h=t)->J k W->YieldAt Fence.wide (nn-1) Tryz.prog l #[.int .i64 (k:Int)] W fun e W'=>e= .returned (.bool true)/\J (k+1) W')
  (W:World) (h0:J 0 W):
  CallsIn Fence.wide nn Tryz.prog 171 #[.func (.yield l) #[] #[],.pointer (some ⟨B1,0,none⟩),.pointer (some ⟨B2,0,none⟩)] W fun e W'=>(∃v,e= .returned v)/\J L.length W':=by
 obtain⟨b1,_,hv⟩:=hJ 0 W h0
 have c1:=hv.c1
 have hle:=hv.le
 have HJ:=aa hJ
 have HB:=aa hB
 have HA:=aa hA
 have HN:=aa hN
 have HY:=aa hY
 have H0:=aa h0
 clear hJ hA hN hY h0 hv hB
 refine callsIn_of_wp Tryz.func171 rfl trivial ?_ rfl
 simp only[Tryz.ntmps171,List.size_toArray,List.length_cons,List.length_nil,Nat.reduceAdd,Nat.reduceSub,Array.replicate_succ,Array.replicate_zero,List.push_toArray,List.append_toArray,List.nil_append,List.cons_append]
 gi_wp2
 gi_loopw [11] (fun p wr=> ∃(j:Nat),j<=L.length/\p= .int .i64 j/\J j wr)
  (fun p _=>L.length-(RowKit.intOf p).toNat)
 case atStart=>exact⟨0,by omega,rfl,H0.out⟩
 case round=>
  obtain⟨j,hj,rfl,hJ0⟩:=hrel
  by_cases hjl:j<L.length
  ·have hjl':(j:Int)<(L.length:Int):=by omega
   obtain⟨y,hy⟩: ∃y,L[j]? =some y:=⟨_,yV0 hjl⟩
   obtain⟨b1',b2,hv⟩:=HJ.out j wr hJ0
   obtain⟨g,rfl,y0,y1,_⟩:=hv.ce j y hy
   generalize y.l.length=vn at y1
   generalize (ln j).1=va at y1
   generalize (ln j).2=vc at y1
   have hlt2:=HB.out j wr hJ0
   have hne2: ¬B2=wr.heap.size:=by omega
   have HJ0:=aa hJ0
   have HYJ:=aa hy
   clear hJ0 hy hv
   by_cases hh:y.h=t
   ·have hh':(y.h==t)=true:=by simp[hh]
    have hJ1:J j (wr.alloc (.cells #[.int .i64 t,.slice va vn vc] 145)):=HA.out.al _ _ _ HJ0.out
    obtain⟨fn,tmps,assign,body,hyy,hR⟩:=HY.out j _ ⟨y,HYJ.out,hh⟩ hJ1
    clear hJ1
    gi_wp2
    refine⟨fun h=>(by cases h),hR.mono ?_⟩
    rintro e W3 ⟨rfl,hJ3⟩
    have HJ3:=aa hJ3
    clear hJ3 hyy hR HY
    gi_wp2
    go_roundw
    case rel=>exact⟨j+1,by omega,by go_num,HJ3.out⟩
    case measure=>simp[RowKit.intOf];omega
   ·have hh':(y.h==t)=false:=by simp[hh]
    have HJ1:Hid (J (j+1) (wr.alloc (.cells #[.int .i64 y.h,.slice va vn vc] 145))):=HN.out j _ (fun z hz=>by rw[HYJ.out] at hz;obtain rfl:=Option.some.inj hz;exact hh) (HA.out.al _ _ _ HJ0.out)
    gi_wp2
    refine⟨fun _ h=>(by cases h),?_⟩
    gi_wp2
    go_roundw
    case rel=>exact⟨j+1,by omega,by go_num,HJ1.out⟩
    case measure=>simp[RowKit.intOf];omega
  ·have hjl': ¬(j:Int)<(L.length:Int):=by omega
   obtain rfl:j=L.length:=by omega
   have HJ0:=aa hJ0
   clear hJ0
   gi_wp2
   go_end0
   exact⟨⟨_,rfl⟩,HJ0.out⟩
theorem wY (nn s:Nat) (t:Int) (w:World):
  CallsIn Fence.wide nn Tryz.prog 99 #[.pointer (some ⟨s,0,none⟩),.int .i64 t] w fun e w'=>e= .returned (.func (.func 143) #[] #[.pointer (some ⟨w.heap.size,0,none⟩),.pointer (some ⟨w.heap.size+1,0,none⟩)])/\
   w'=(w.alloc (.cells #[.pointer (some ⟨s,0,none⟩)] 86)).alloc (.cells #[.int .i64 t] 3):=by
 refine callsIn_of_wp Tryz.func99 rfl trivial ?_ rfl
 simp only[Tryz.ntmps99,List.size_toArray,List.length_cons,List.length_nil,Nat.reduceAdd,Nat.reduceSub,Array.replicate_succ,Array.replicate_zero,List.push_toArray,List.append_toArray,List.nil_append,List.cons_append]
 gi_wp2
 go_ret
 exact⟨by simp,rfl⟩
theorem yX {m m' l':Nat} {P:Program} {l:Nat} {f:FuncId} {tmps:Array Value} {assign body:Code} {w:World} {R:Ending->World->Prop} (h:RoundIn Fence.wide m P l f tmps assign body w R):RoundIn (Fence.wide.inRound l') m' P l f tmps assign body w R:=⟨h.1,fun c cs _=>h.2 c cs (fun d q=>by cases q)⟩
theorem nX (l B1 B2 s gt ct:Nat) (a:Option Addr) (cap:Nat) (ln:Nat->Option Addr×Nat) (n0:Nat) (T:List Th) (L:List Lk) (t:Nat) (n1:Nat) (J:Nat->World->Prop) (S:Nat->Prop) (hL:L.length<=32) (hS: ∀b,n1<=b-> ¬S b)
  (hJ: ∀k W,J k W->Boxed W B1 86 (.pointer (some ⟨s,0,none⟩))/\Boxed W B2 3 (.int .i64 (t:Int))/\Vw n0 W s gt ct a cap ln T L)
  (hA:Fi n1 J)
  (hY: ∀k W,k<(behind L t).length->J k W->YieldAt Fence.wide 8 Tryz.prog l #[.int .i64 (((behind L t)[k]?.getD 0:Nat):Int)] W fun e W'=>e= .returned (.bool true)/\J (k+1) W'/\Kk n1 S W W')
  (W:World) (hW:n1<=W.heap.size) (h0:J 0 W):
  CallsIn Fence.wide 9 Tryz.prog 143 #[.func (.yield l) #[] #[],.pointer (some ⟨B1,0,none⟩),.pointer (some ⟨B2,0,none⟩)] W fun e W'=>(∃v,e= .returned v)/\J (behind L t).length W':=by
 obtain⟨hb1,hb2,hv⟩:=hJ 0 W h0
 have b1:=hb1.cell
 have b2:=hb2.cell
 have hl1:=hb1.lt
 have hl2:=hb2.lt
 have hn1: ¬B1=W.heap.size:=by have:=hb1.lt;omega
 have hn2: ¬B2=W.heap.size:=by have:=hb2.lt;omega
 have HJ:=aa hJ
 have HA:=aa hA
 have HY:=aa hY
 have H0:=aa h0
 clear hJ hA hY h0 hv hb1 hb2
 refine callsIn_of_wp_marks Tryz.func143 rfl trivial ?_ rfl
 simp only[Tryz.ntmps143,List.size_toArray,List.length_cons,List.length_nil,Nat.reduceAdd,Nat.reduceSub,Array.replicate_succ,Array.replicate_zero,List.push_toArray,List.append_toArray,List.nil_append,List.cons_append]
 gi_wp2_with (refine⟨trivial,?_⟩;gi_at_call 144;refine(uz _ s (t:Int) _).mono ?_;rintro e w' ⟨rfl,rfl⟩)
 have hsz:((((W.alloc (.cells #[.func (.yield l) #[] #[]] 100)).alloc (.cells #[.pointer (some ⟨s,0,none⟩)] 86)).alloc (.cells #[.int .i64 (t:Int)] 3))).heap.size=W.heap.size+3:=by simp
 have bY:=((Boxed.new W 100 (.func (.yield l) #[] #[])).alloc (.cells #[.pointer (some ⟨s,0,none⟩)] 86)).alloc (.cells #[.int .i64 (t:Int)] 3)
 have bG:=(Boxed.new (W.alloc (.cells #[.func (.yield l) #[] #[]] 100)) 86 (.pointer (some ⟨s,0,none⟩))).alloc (.cells #[.int .i64 (t:Int)] 3)
 have bT:=Boxed.new ((W.alloc (.cells #[.func (.yield l) #[] #[]] 100)).alloc (.cells #[.pointer (some ⟨s,0,none⟩)] 86)) 3 (.int .i64 (t:Int))
 have hJ0:=HA.out.al 0 _ (.cells #[.int .i64 (t:Int)] 3) (HA.out.al 0 _ (.cells #[.pointer (some ⟨s,0,none⟩)] 86) (HA.out.al 0 _ (.cells #[.func (.yield l) #[] #[]] 100) H0.out))
 simp only[World.size_alloc] at bG bT⊢
 generalize ((W.alloc (.cells #[.func (.yield l) #[] #[]] 100)).alloc (.cells #[.pointer (some ⟨s,0,none⟩)] 86)).alloc (.cells #[.int .i64 (t:Int)] 3)=W0 at hsz bY bG bT hJ0⊢
 have HS:=aa hS
 clear hS
 have hA2:Fi W0.heap.size (fun j V=>J ((behind (L.take j) t).length) V/\Boxed V W.heap.size 100 (.func (.yield l) #[] #[])/\Boxed V (W.heap.size+1) 86 (.pointer (some ⟨s,0,none⟩))/\Boxed V (W.heap.size+1+1) 3 (.int .i64 (t:Int))):=by
  refine⟨fun k V o h=>⟨HA.out.al _ _ _ h.1,h.2.1.alloc _,h.2.2.1.alloc _,h.2.2.2.alloc _⟩,fun k V x o o' hx ho hc h=>⟨HA.out.pu _ _ _ _ _ (by omega) ho hc h.1,jz h.2.1 ho hc,jz h.2.2.1 ho hc,jz h.2.2.2 ho hc⟩⟩
 have HA2:=aa hA2
 have hNo2: ∀k (V:World),(∀y,L[k]? =some y-> ¬y.h=(t:Int))->(J ((behind (L.take k) t).length) V/\Boxed V W.heap.size 100 (.func (.yield l) #[] #[])/\Boxed V (W.heap.size+1) 86 (.pointer (some ⟨s,0,none⟩))/\Boxed V (W.heap.size+1+1) 3 (.int .i64 (t:Int)))->
   (J ((behind (L.take (k+1)) t).length) V/\Boxed V W.heap.size 100 (.func (.yield l) #[] #[])/\Boxed V (W.heap.size+1) 86 (.pointer (some ⟨s,0,none⟩))/\Boxed V (W.heap.size+1+1) 3 (.int .i64 (t:Int))):=by
  intro k V hn h
  cases hy:L[k]? with
  |none=>
   have hk:=List.getElem?_eq_none_iff.1 hy
   rw[List.take_of_length_le (by omega)]
   rw[List.take_of_length_le (by omega)] at h
   exact h
  |some y=>rw[EE hy (hn y hy)];exact h
 have hend:(behind (L.take L.length) t).length=(behind L t).length:=by rw[List.take_length]
 refine yi (gf:=171) (lb:= #[.pointer (some ⟨W.heap.size+1,0,none⟩),.pointer (some ⟨W.heap.size+1+1,0,none⟩)]) rfl (enters_of Tryz.func171 (by kernel_rfl) rfl)
  (fun j V=>J ((behind (L.take j) t).length) V/\Boxed V W.heap.size 100 (.func (.yield l) #[] #[])/\Boxed V (W.heap.size+1) 86 (.pointer (some ⟨s,0,none⟩))/\Boxed V (W.heap.size+1+1) 3 (.int .i64 (t:Int)))
  (fun k=> ∀y,L[k]? =some y-> ¬y.h=(t:Int)) (fun k=> ∃y,L[k]? =some y/\y.h=(t:Int)) (fun k=> .int .i64 (k:Int)) L.length
  (fun k=>{tmps:= #[.func (.yield l) #[] #[],.pointer (some ⟨B1,0,none⟩),.pointer (some ⟨B2,0,none⟩),.pointer (some ⟨W.heap.size,0,none⟩),.int .i64 (k:Int),undef,undef,.pointer (some ⟨s,0,none⟩),.int .i64 (t:Int),.func (.func 171) #[] #[.pointer (some ⟨W.heap.size+1,0,none⟩),.pointer (some ⟨W.heap.size+1+1,0,none⟩)],.int .i64 (k:Int),undef,undef,undef,undef,undef,undef,undef,undef,undef,undef,undef,undef,undef,undef,undef,undef,undef,undef],defers:=[]})
  S hA2 hNo2 ⟨by simpa [behind] using hJ0,bY,bG,bT⟩ ?hit ?assign ?body ?done
 case hit=>
  intro l' J' W1 h1 h2 h3 h4 h5 h6
  exact rY 8 l' _ _ s gt ct a cap ln n0 T L (t:Int) W1.heap.size J' hL (fun k V h=>⟨(h1 k V h).2.2.1.cell,(h1 k V h).2.2.2.cell,(HJ.out _ _ (h1 k V h).1).2.2⟩) (fun k V h=>(h1 k V h).2.2.2.lt) h2 h3 (fun k V hk h=>(h4 k V hk h).mono (fun e V' q=>⟨q.1,q.2.1⟩)) W1 h5
 case assign=>
  intro l' k V K hK
  gi_wp2
  exact hK
 case body=>
  rintro l' k V ⟨y,hy,hh⟩ ⟨hJk,hbY,hbG,hbT⟩
  obtain⟨hq1,hq2,hv⟩:=HJ.out _ _ hJk
  have c1:=hv.c1
  have hk:=(zY0.1 hy).1
  have hk':(k:Int)<(L.length:Int):=by omega
  have hle:=hv.le
  obtain⟨g,rfl,y0,y1,l1,l2,_⟩:=hv.ce k y hy
  generalize hlv:(ln k).1=va at y1
  generalize hlc:(ln k).2=vc at y1 l1 l2
  replace hlv:=aa hlv
  replace hlc:=aa hlc
  have q1:=hq1.cell
  have HBY:=aa hbY
  have HBG:=aa hbG
  have HBT:=aa hbT
  have HJk:=aa hJk
  have HYy:=aa hy
  have hT2:y.l.length<=9223372036854775807:=by have:=l2;unfold maxLen at this;omega
  clear hbY hbG hbT hJk hq1 hq2 hv hJ0 bY bG bT
  gi_wp2
  gi_loopw [20] (fun p wr=> ∃(i:Nat),i<=y.l.length/\p= .int .i64 i/\J ((behind (L.take k) t).length+i) wr/\Boxed wr W.heap.size 100 (.func (.yield l) #[] #[])/\Boxed wr (W.heap.size+1) 86 (.pointer (some ⟨s,0,none⟩))/\Boxed wr (W.heap.size+1+1) 3 (.int .i64 (t:Int))/\Kk W0.heap.size S V wr)
   (fun p _=>y.l.length-(RowKit.intOf p).toNat)
  case atStart=>exact⟨0,by omega,rfl,HJk.out,HBY.out,HBG.out,HBT.out,Kk.refl _ _ _⟩
  case round=>
   obtain⟨i,hi,rfl,hJi,hbY,hbG,hbT,hkk⟩:=hrel
   by_cases hil:i<y.l.length
   ·have hil':(i:Int)<(y.l.length:Int):=by omega
    obtain⟨x,hx⟩: ∃x,y.l[i]? =some x:=⟨_,yV0 hil⟩
    have hxb:=Ek HYy.out hh hx
    obtain⟨_,_,hv⟩:=HJ.out _ _ hJi
    obtain⟨g2,e2,z0,z1,_,_,hcx⟩:=hv.ce k y HYy.out
    obtain⟨gg,e3,_,x0⟩:=hcx i x hx
    rw[hlv.out] at e3
    subst e3
    have bY:=hbY.cell
    have hplt:(behind (L.take k) t).length+i<(behind L t).length:=(zY0.1 hxb).1
    obtain⟨fn,tmps,assign,body,hyy,hR⟩:=HY.out _ wr hplt hJi
    rw[hxb] at hyy
    simp only[Option.getD_some] at hyy
    have HHY:=aa hbY
    have HHG:=aa hbG
    have HHT:=aa hbT
    have HKK:=aa hkk
    have HX:=aa hx
    have HI:=aa (show i+1<=y.l.length from hil)
    have HM:=aa (show y.l.length-(i+1)<y.l.length-i by omega)
    clear hbY hbG hbT hkk hJi hv hplt hxb z0 z1 e2 hx hcx
    gi_wp2
    refine(yX hR).mono ?_
    rintro e W3 ⟨rfl,hJ3,hk3⟩
    have HA3:=aa (hk3.box (HS.out _ (by omega)) HHY.out)
    have HB3:=aa (hk3.box (HS.out _ (by omega)) HHG.out)
    have HC3:=aa (hk3.box (HS.out _ (by omega)) HHT.out)
    have HK3:=aa (HKK.out.trans (hk3.wide (by omega)))
    have HJ3:=aa hJ3
    clear hJ3 hk3 hyy hR HY
    gi_wp2
    go_roundw
    case rel=>exact⟨i+1,HI.out,by go_num,HJ3.out,HA3.out,HB3.out,HC3.out,HK3.out⟩
    case measure=>simp[RowKit.intOf];omega
   ·have hil': ¬(i:Int)<(y.l.length:Int):=by omega
    obtain rfl:i=y.l.length:=by omega
    have HJi:=aa hJi
    have HA5:=aa hbY
    have HB5:=aa hbG
    have HC5:=aa hbT
    have HK5:=aa hkk
    clear hJi hbY hbG hbT hkk
    gi_wp2
    rw[hsz] at HK5
    refine⟨HK5.out,?_,HA5.out,HB5.out,HC5.out⟩
    rw[uZ HYy.out hh,List.length_append]
    exact HJi.out
 case done=>
  rintro D V hD ⟨hJm,_⟩ hK
  gi_wp2
  refine⟨by simp,.inl ⟨_,_,rfl,run_takeDeferred hK,?_⟩⟩
  refine⟨_,results_none rfl _ _ _,⟨_,rfl⟩,?_⟩
  rw[←hend]
  exact HA.out.pu _ _ _ _ _ (by omega) hK rfl hJm
end Go.Proofs.YtjlbmmiomfpgiaaGreatDoor.Pi
namespace Go.Proofs.YtjlbmmiomfpgiaaGreatDoor.Pi
open Go.Proofs.YtjlbmmiomfpgiaaGreatDoor.Ke
open Go.Shelf
open Go.RowKit hiding Hid
theorem Eb (w:World) (o1 o2 o3 o4 o5:Obj):Below w.heap.size w (((((w.alloc o1).alloc o2).alloc o3).alloc o4).alloc o5):=
 ((((((z9 _ _).alloc (i8 _) _).alloc (by simp) _).alloc (by simp;omega) _).alloc (by simp;omega) _).alloc (by simp;omega) _)
theorem EG (w:World) (a b:K):Calls Tryz.prog 100 #[.agg #[.bool a.e,.int .u64 a.d,.int .u8 a.l],.agg #[.bool b.e,.int .u64 b.d,.int .u8 b.l]] w fun e w'=>e= .returned (.agg #[.bool (dU a b).e,.int .u64 (dU a b).d,.int .u8 (dU a b).l])/\ ∃c1 c2 c3 c4 c5,w'=(((((w.alloc (.cells c1 67)).alloc (.cells c2 67)).alloc (.cells c3 67)).alloc (.cells c4 67)).alloc (.cells c5 67)):=by
 have HA:=aa (fun w=>qU w b a)
 unfold dU
 cases hu:up b a<;>rw[hu] at HA<;>
 (go_enter Tryz.func100,Tryz.ntmps100
  go_wp2_with (go_at_call 119;refine(HA.out _).mono ?_;rintro e w1 ⟨rfl,c1,c2,rfl⟩)
  simp[bodyPost,results,Tryz.results100,go_sem]
  exact⟨_,_,_,_,_,rfl⟩)
theorem EP (w:World) (a b:K):Calls Tryz.prog 100 #[.agg #[.bool a.e,.int .u64 a.d,.int .u8 a.l],.agg #[.bool b.e,.int .u64 b.d,.int .u8 b.l]] w fun e w'=>e= .returned (.agg #[.bool (dU a b).e,.int .u64 (dU a b).d,.int .u8 (dU a b).l])/\Below w.heap.size w w':=
 (EG w a b).mono fun e w' ⟨h,c1,c2,c3,c4,c5,hw⟩=>⟨h,by rw[hw];exact Eb _ _ _ _ _ _⟩
structure Vf (T:List Th) (L:List Lk):Prop where
 ac:xH L
 lt: ∀y∈L,∀t∈y.l,t<T.length
 l2:L.length<=32
 t2:T.length<=1024
theorem mB.vf {T:List Th} {L:List Lk} (f:mB T L):Vf T L:=⟨f.ac,fun y hy=>(f.lk y hy).2.2.1,f.l2,f.t2⟩
noncomputable def fk (T:List Th) (L:List Lk) (t n:Nat):K:=((behind L t).take n).foldl (fun k x=>dU k (keyOf T L x)) (lN T t)
theorem xC {T:List Th} {L:List Lk} (h:xH L) (t:Nat):fk T L t (behind L t).length=keyOf T L t:=by unfold fk;rw[List.take_length,Ar h]
theorem tC {T:List Th} {L:List Lk} {t n x:Nat} (hx:(behind L t)[n]? =some x):fk T L t (n+1)=dU (fk T L t n) (keyOf T L x):=by
 unfold fk
 rw[kQ hx,List.foldl_append]
 rfl
def dF (V:World) (b:Nat) (k:K):Prop:=V.heap[b]? =some (.cells #[.bool k.e,.int .u64 k.d,.int .u8 k.l] 67 (0,0))
theorem dF.lt {V:World} {b:Nat} {k:K} (h:dF V b k):b<V.heap.size:=(Array.getElem?_eq_some_iff.1 h).1
theorem dF.alloc {V:World} {b:Nat} {k:K} (h:dF V b k) (o:Obj):dF (V.alloc o) b k:=(Below.heap_alloc _ _ _ h.lt).trans h
theorem dF.below {V V':World} {b:Nat} {k:K} (h:dF V b k) (hb:Below V.heap.size V V'):dF V' b k:=(hb.block b h.lt).trans h
theorem dF.put {V:World} {b l:Nat} {k:K} {o o':Obj} (h:dF V b k) (ho:V.heap[l]? =some o) (hc:o.isCells=false):dF (V.putObj l o') b k:=by
 refine(World.putObj_heap_other (fun e=> ?_)).trans h
 subst e
 rw[show V.heap[b]? =_ from h] at ho
 obtain rfl:=Option.some.inj ho
 cases hc
theorem dF.at {V:World} {b:Nat} {k:K} (h:dF V b k):At V b k:=by
 refine⟨?_,?_,?_⟩<;>(unfold World.cell?;rw[show V.heap[b]? =_ from h];rfl)
theorem dF.frozen {V:World} {b:Nat} {k:K} (h:dF V b k) (o:Nat):V.frozen? ⟨b,o,none⟩=false:=by unfold World.frozen?;simp[show V.heap[b]? =_ from h]
theorem dF.set {V:World} {b:Nat} {k:K} (h:dF V b k) (k':K):dF (((V.setCell ⟨b,0,none⟩ (.bool k'.e)).setCell ⟨b,1,none⟩ (.int .u64 k'.d)).setCell ⟨b,2,none⟩ (.int .u8 k'.l)) b k':=by
 have h1:=Go.Joins.block_setCell h (i:=0) (.bool k'.e)
 have h2:=Go.Joins.block_setCell h1 (i:=1) (.int .u64 k'.d)
 have h3:=Go.Joins.block_setCell h2 (i:=2) (.int .u8 k'.l)
 exact h3
attribute [local go_sem] Oper.semAt_some
def bJ (ops:Array Oper):Bool:=ops.all fun o=>match o.op with
 | .defer _=>false
 |_=>true
theorem dB {ops:Array Oper} (h:bJ ops=true) {i:Nat} {o:Oper} (ho:ops[i]? =some o): ∀c,o.op≠ .defer c:=by
 intro c e
 unfold bJ at h
 rw[Array.all_eq_true'] at h
 have:=h o (Array.mem_of_getElem? ho)
 rw[e] at this
 exact absurd this (by simp)
theorem dA {P:Program} {o:Oper} {a:Act} {w:World} {K:Act->World->Prop} {Q:Exit->Act->World->Prop} {l n:Nat} (hd: ∀c,o.op≠ .defer c) (h:o.wp P a w K Q):o.wpIn (Fence.wide.inRound l) n P a w K Q:=by
 refine⟨fun _ _=>trivial,?_⟩
 rw[Oper.semAt_eq _ _ _ hd]
 unfold Oper.wp at h
 revert h
 generalize (execOp a.eval o).run P w=r
 intro h
 match r,h with
 | .ok (.value _) _,h=>exact h
 | .ok .skip _,h=>exact h
 | .ok (.defer _) _,h=>exact h
 | .ok (.enter f args) w',h=>exact⟨fun q=>absurd q (by simp[Fence.inRound,Fence.wide]),CallsIn.inRound l (callsIn_wide.2 h)⟩
 | .ok (.row row args) w',h=>
  refine⟨fun q=>absurd q (by simp[Fence.inRound,Fence.wide]),fun c cs _=> ?_⟩
  obtain⟨v,w'',r1,s⟩:=h c cs
  exact⟨v,w'',r1,stepsIn_wide.2 s⟩
 | .halt (.panic _) _,h=>exact h
theorem aX {P:Program} {md:Region.Mode} {ops:Array Oper} {Q:Exit->Act->World->Prop} {l n:Nat} (hd:bJ ops=true) (hlo: ¬LetsOut Q): ∀(fuel:Nat) (listed:Array Bool) (a:Act) (w:World),wpAny P md ops Q fuel listed a w->wpAnyIn (Fence.wide.inRound l) n P md ops Q fuel listed a w
 |0,_,_,_,h=>h
 |fuel+1,_,a,w,h=>⟨h.1,fun i hi=>by
  have h2:=h.2 i hi
  unfold wpOp at h2
  unfold wpOpIn
  cases ho:ops[i]? with
  |none=>rw[ho] at h2;exact aX hd hlo fuel _ _ _ h2
  |some o=>
   rw[ho] at h2
   dsimp only at h2⊢
   by_cases hw:Region.wanted o (yielded ops a.tmps)=true
   ·rw[if_pos hw] at h2⊢
    rcases h2 with h2|h2
    ·exact dA (dB hd ho) (Oper.wp_mono (fun a w q=>aX hd hlo fuel _ a w q) h2)
    ·exact absurd h2.2 hlo
   ·rw[if_neg hw] at h2⊢
    exact⟨fun _ _=>trivial,aX hd hlo fuel _ _ _ h2⟩⟩
theorem a7 {P:Program} {id:Nat} {ops:Array Oper} {Q:Exit->Act->World->Prop} {l n:Nat} {a:Act} {w:World} (S:World->Prop) (hm:P.follows .mixedOrders=true) (hd:bJ ops=true) (hlo: ¬LetsOut Q) (hS:S w.drew)
  (h:S w.drew->wpAnyH P .any ops Q S ops.size (Array.replicate ops.size false) a w.drew):(Code.region id ops true).wpIn (Fence.wide.inRound l) n P Q a w:=
 wpIn_region_any hm (aX hd hlo _ _ _ _ (wpAny_of_held _ _ _ _ (h hS)))
theorem BJ (s gt ct:Nat) (a:Option Addr) (cap:Nat) (ln:Nat->Option Addr×Nat) (T:List Th) (L:List Lk) (f:Vf T L) (r:Nat->Nat) (hr: ∀t s,Edge L t s->r t<r s): ∀(m t:Nat),r t<m->t<T.length-> ∀(n0 B1 B2:Nat) (W:World),n0<=W.heap.size->Vw n0 W s gt ct a cap ln T L->
  Boxed W B1 86 (.pointer (some ⟨s,0,none⟩))->Boxed W B2 121 (.func (.func 98) #[] #[.pointer (some ⟨B1,0,none⟩),.pointer (some ⟨B2,0,none⟩)])->
  CallsIn Fence.wide 10 Tryz.prog 98 #[.int .i64 (t:Int),.pointer (some ⟨B1,0,none⟩),.pointer (some ⟨B2,0,none⟩)] W fun e W'=>e= .returned (.agg #[.bool (keyOf T L t).e,.int .u64 (keyOf T L t).d,.int .u8 (keyOf T L t).l])/\Below W.heap.size W W':=by
 intro m
 induction m with
 |zero=>
  intro t hm
  omega
 |succ m ih=>
  intro t hm ht n0 B1 B2 W hn0 hv hb1 hb2
  have ht':(t:Int)<(T.length:Int):=by omega
  obtain⟨x,hx⟩: ∃x,T[t]? =some x:=⟨_,yV0 ht⟩
  have b1:=hb1.cell
  have l1:=hb1.lt
  have l2:=hb2.lt
  have c0:=hv.t.c0
  have le:=hv.t.le
  obtain⟨x0,x1,x2,x3⟩:=hv.t.ce t x hx
  have lg:gt<W.heap.size:=by have:=hv.tl;omega
  have ls:s<W.heap.size:=by have:=hv.sl;omega
  have n1: ¬B1=W.heap.size:=by omega
  have HV:=aa hv
  have HB1:=aa hb1
  have HB2:=aa hb2
  have HIH:=aa ih
  have HX:=aa hx
  clear hv hb1 hb2 ih hx
  refine callsIn_of_wp_marks Tryz.func98 rfl trivial ?_ rfl
  simp only[Tryz.ntmps98,List.size_toArray,List.length_cons,List.length_nil,Nat.reduceAdd,Nat.reduceSub,Array.replicate_succ,Array.replicate_zero,List.push_toArray,List.append_toArray,List.nil_append,List.cons_append]
  gi_wp2_with (refine⟨trivial,?_⟩;gi_at_call 99;refine(wY _ s (t:Int) _).mono ?_;rintro e w' ⟨rfl,rfl⟩)
  have eown:lN T t=x.k:=by unfold lN;rw[HX.out];rfl
  have bR:=(((dF.alloc (V:=W.alloc (.cells #[.bool false,.int .u64 0,.int .u8 0] 67)) (b:=W.heap.size) (k:=bc 0) (World.alloc_heap_new W _) (.cells #[.bool x.k.e,.int .u64 x.k.d,.int .u8 x.k.l] 67))).alloc (.cells #[.pointer (some ⟨s,0,none⟩)] 86)).alloc (.cells #[.int .i64 (t:Int)] 3)
  have bK:dF ((((W.alloc (.cells #[.bool false,.int .u64 0,.int .u8 0] 67)).alloc (.cells #[.bool x.k.e,.int .u64 x.k.d,.int .u8 x.k.l] 67)).alloc (.cells #[.pointer (some ⟨s,0,none⟩)] 86)).alloc (.cells #[.int .i64 (t:Int)] 3)) (W.heap.size+1) x.k:=by
   refine dF.alloc (dF.alloc ?_ _) _
   have:=World.alloc_heap_new (W.alloc (.cells #[.bool false,.int .u64 0,.int .u8 0] 67)) (.cells #[.bool x.k.e,.int .u64 x.k.d,.int .u8 x.k.l] 67)
   rw[World.size_alloc] at this
   exact this
  have bG:=(Boxed.new ((W.alloc (.cells #[.bool false,.int .u64 0,.int .u8 0] 67)).alloc (.cells #[.bool x.k.e,.int .u64 x.k.d,.int .u8 x.k.l] 67)) 86 (.pointer (some ⟨s,0,none⟩))).alloc (.cells #[.int .i64 (t:Int)] 3)
  have bT:=Boxed.new (((W.alloc (.cells #[.bool false,.int .u64 0,.int .u8 0] 67)).alloc (.cells #[.bool x.k.e,.int .u64 x.k.d,.int .u8 x.k.l] 67)).alloc (.cells #[.pointer (some ⟨s,0,none⟩)] 86)) 3 (.int .i64 (t:Int))
  have hbe:Below W.heap.size W ((((W.alloc (.cells #[.bool false,.int .u64 0,.int .u8 0] 67)).alloc (.cells #[.bool x.k.e,.int .u64 x.k.d,.int .u8 x.k.l] 67)).alloc (.cells #[.pointer (some ⟨s,0,none⟩)] 86)).alloc (.cells #[.int .i64 (t:Int)] 3)):=((((z9 _ W).alloc (i8 _) _).alloc (by simp) _).alloc (by simp;omega) _).alloc (by simp;omega) _
  have hsz:((((W.alloc (.cells #[.bool false,.int .u64 0,.int .u8 0] 67)).alloc (.cells #[.bool x.k.e,.int .u64 x.k.d,.int .u8 x.k.l] 67)).alloc (.cells #[.pointer (some ⟨s,0,none⟩)] 86)).alloc (.cells #[.int .i64 (t:Int)] 3)).heap.size=W.heap.size+4:=by simp
  simp only[World.size_alloc] at bG bT⊢
  generalize ((((W.alloc (.cells #[.bool false,.int .u64 0,.int .u8 0] 67)).alloc (.cells #[.bool x.k.e,.int .u64 x.k.d,.int .u8 x.k.l] 67)).alloc (.cells #[.pointer (some ⟨s,0,none⟩)] 86)).alloc (.cells #[.int .i64 (t:Int)] 3))=W0 at hsz bR bK bG bT hbe⊢
  have hA:Fi W0.heap.size (fun n V=>dF V W.heap.size (bc 0)/\dF V (W.heap.size+1) (fk T L t n)/\Boxed V (W.heap.size+1+1) 86 (.pointer (some ⟨s,0,none⟩))/\Boxed V (W.heap.size+1+1+1) 3 (.int .i64 (t:Int))/\Below W.heap.size W V):=by
   refine⟨fun k V o h=>⟨h.1.alloc _,h.2.1.alloc _,h.2.2.1.alloc _,h.2.2.2.1.alloc _,h.2.2.2.2.alloc h.2.2.2.2.size _⟩,fun k V q o o' hq ho hc h=>⟨h.1.put ho hc,h.2.1.put ho hc,jz h.2.2.1 ho hc,jz h.2.2.2.1 ho hc,?_⟩⟩
   have hz:=h.2.2.2.2
   exact⟨hz.os,hz.tape,hz.output,by have:=hz.size;simpa [World.putObj] using this,fun b hb=>(World.putObj_heap_other (by omega)).trans (hz.block b hb)⟩
  refine yi (gf:=143) (lb:= #[.pointer (some ⟨W.heap.size+1+1,0,none⟩),.pointer (some ⟨W.heap.size+1+1+1,0,none⟩)]) rfl (enters_of Tryz.func143 (by kernel_rfl) rfl)
   (fun n V=>dF V W.heap.size (bc 0)/\dF V (W.heap.size+1) (fk T L t n)/\Boxed V (W.heap.size+1+1) 86 (.pointer (some ⟨s,0,none⟩))/\Boxed V (W.heap.size+1+1+1) 3 (.int .i64 (t:Int))/\Below W.heap.size W V)
   (fun _=>False) (fun n=>n<(behind L t).length) (fun n=> .int .i64 (((behind L t)[n]?.getD 0:Nat):Int)) (behind L t).length
   (fun n=>{tmps:= #[.int .i64 (t:Int),.pointer (some ⟨B1,0,none⟩),.pointer (some ⟨B2,0,none⟩),undef,.pointer (some ⟨W.heap.size,0,none⟩),.pointer (some ⟨W.heap.size+1,0,none⟩),.int .i64 (((behind L t)[n]?.getD 0:Nat):Int),.pointer (some ⟨s,0,none⟩),.pointer (some ⟨s,0,none⟩),.pointer (some ⟨s,0,none⟩),.slice (some ⟨gt,0,none⟩) T.length ct,.int .i64 (t:Int),.pointer (some ⟨gt,t*4,none⟩),.pointer (some ⟨gt,t*4,none⟩),.agg #[.bool x.k.e,.int .u64 x.k.d,.int .u8 x.k.l],.pointer (some ⟨s,0,none⟩),.int .i64 (t:Int),.func (.func 143) #[] #[.pointer (some ⟨W.heap.size+1+1,0,none⟩),.pointer (some ⟨W.heap.size+1+1+1,0,none⟩)],.int .i64 (((behind L t)[n]?.getD 0:Nat):Int),undef,undef,undef,undef,undef,undef],defers:=[]})
   (fun b=>b=W.heap.size+1) hA (fun _ _ h=>h.elim) ⟨bR,by unfold fk;simpa [eown] using bK,bG,bT,hbe⟩ ?hit ?assign ?body ?done
  case hit=>
   intro l' J' W1 h1 h2 h3 h4 h5 h6
   exact nX l' _ _ s gt ct a cap ln n0 T L t W1.heap.size J' (fun b=>b=W.heap.size+1) f.l2 (fun b hb=>by omega) (fun k V h=>⟨(h1 k V h).2.2.1,(h1 k V h).2.2.2.1,HV.out.below ((h1 k V h).2.2.2.2.mono hn0)⟩) h2 (fun k V hk h=>h4 k V hk h) W1 (i8 _) h5
  case assign=>
   intro l' k V K hK
   gi_wp2
   exact hK
  case body=>
   rintro l' n V hn ⟨hR,hK,hG,hT,hB⟩
   obtain⟨y,hy⟩: ∃y,(behind L t)[n]? =some y:=⟨_,yV0 hn⟩
   rw[hy,Option.getD_some]
   have hed:Edge L y t:=gB.1 (zV0 hy)
   have hyl:y<T.length:=by obtain⟨z,hz,hzl,_⟩:=hed;exact f.lt z hz y hzl
   have hry:r y<m:=by have:=hr y t hed;omega
   have k0:=hK.at.1
   have k1:=hK.at.2.1
   have k2:=hK.at.2.2
   have HW:Hid (∀V',Below V.heap.size V V'->Calls Tryz.prog 98 #[.int .i64 (y:Int),.pointer (some ⟨B1,0,none⟩),.pointer (some ⟨B2,0,none⟩)] V' fun e W'=>e= .returned (.agg #[.bool (keyOf T L y).e,.int .u64 (keyOf T L y).d,.int .u8 (keyOf T L y).l])/\Below V'.heap.size V' W'):=by
    intro V' hV'
    have hb':Below W.heap.size W V':=hB.trans (hV'.mono hB.size)
    exact(callsIn_wide.1 (HIH.out y hry hyl n0 B1 B2 V' (yX0 hn0 hb'.size) (HV.out.below (hb'.mono hn0)) ((hb'.block B1 l1).trans HB1.out) ((hb'.block B2 l2).trans HB2.out)))
   have hb2V:Boxed V B2 121 (.func (.func 98) #[] #[.pointer (some ⟨B1,0,none⟩),.pointer (some ⟨B2,0,none⟩)]):=(hB.block B2 l2).trans HB2.out
   have b2:=hb2V.cell
   have HMx:Hid (∀V',Calls Tryz.prog 100 #[.agg #[.bool (fk T L t n).e,.int .u64 (fk T L t n).d,.int .u8 (fk T L t n).l],.agg #[.bool (keyOf T L y).e,.int .u64 (keyOf T L y).d,.int .u8 (keyOf T L y).l]] V' fun e W'=>e= .returned (.agg #[.bool (dU (fk T L t n) (keyOf T L y)).e,.int .u64 (dU (fk T L t n) (keyOf T L y)).d,.int .u8 (dU (fk T L t n) (keyOf T L y)).l])/\Below V'.heap.size V' W'):=fun V'=>EP V' _ _
   have HN:=aa (tC (T:=T) hy)
   generalize fk T L t n=kn at HMx HN hK k0 k1 k2
   generalize keyOf T L y=ky at HW HMx HN
   have fz:=hK.frozen
   have HR:=aa hR
   have HK:=aa hK
   have HG:=aa hG
   have HT:=aa hT
   have HB:=aa hB
   clear hR hK hG hT hB hb2V
   have lB2:B2<V.heap.size:=by have:=HB.out.size;omega
   have hB2n:B2≠W.heap.size+1:=by omega
   have HFin:Hid (∀V2,Below V.heap.size V V2->(fun V3=>dF V3 W.heap.size (bc 0)/\dF V3 (W.heap.size+1) (fk T L t (n+1))/\Boxed V3 (W.heap.size+1+1) 86 (.pointer (some ⟨s,0,none⟩))/\Boxed V3 (W.heap.size+1+1+1) 3 (.int .i64 (t:Int))/\Below W.heap.size W V3)
     (((V2.setCell ⟨W.heap.size+1,0,none⟩ (.bool (dU kn ky).e)).setCell ⟨W.heap.size+1,1,none⟩ (.int .u64 (dU kn ky).d)).setCell ⟨W.heap.size+1,2,none⟩ (.int .u8 (dU kn ky).l))):=by
    intro V2 hb2
    have e: ∀b,b≠W.heap.size+1->(((V2.setCell ⟨W.heap.size+1,0,none⟩ (.bool (dU kn ky).e)).setCell ⟨W.heap.size+1,1,none⟩ (.int .u64 (dU kn ky).d)).setCell ⟨W.heap.size+1,2,none⟩ (.int .u8 (dU kn ky).l)).heap[b]? =V2.heap[b]? :=fun b hb=>by
     rw[yY0 _ _ _ _ hb,yY0 _ _ _ _ hb,yY0 _ _ _ _ hb]
    refine⟨(e _ (by omega)).trans (HR.out.below hb2),?_,(e _ (by omega)).trans ((hb2.block _ HG.out.lt).trans HG.out),(e _ (by omega)).trans ((hb2.block _ HT.out.lt).trans HT.out),?_⟩
    ·rw[HN.out]
     exact(HK.out.below hb2).set _
    ·exact(((HB.out.trans (hb2.mono HB.out.size)).setCell (p:=⟨W.heap.size+1,0,none⟩) (by simp) _).setCell (p:=⟨W.heap.size+1,1,none⟩) (by simp) _).setCell (p:=⟨W.heap.size+1,2,none⟩) (by simp) _
   gi_wp2
   refine a7 (fun w'=>w'.cell? ⟨B2,0,none⟩=some (.func (.func 98) #[] #[.pointer (some ⟨B1,0,none⟩),.pointer (some ⟨B2,0,none⟩)])) (by kernel_rfl) (by kernel_rfl) (by rintro⟨a,w,h⟩;exact absurd (show Exit.outgrown=Exit.normal from h.1) (by simp)) b2 (fun hHeld=> ?_)
   refine aH 1 (v:= ?_) rfl ?v1 ?_
   case v1=>(intro w hSw;(try dsimp only at hSw);go_simp;try with_reducible rfl)
   try simp only[aq]
   refine aH 2 (v:= ?_) rfl ?v2 ?_
   case v2=>(intro w hSw;(try dsimp only at hSw);go_simp;try with_reducible rfl)
   try simp only[aq]
   refine wpAnyH_ready (rs:=[0,3]) (by kernel_rfl) (by simp) ?_
   refine AllReadyH.cons rfl (fun K hK=> ?_) (AllReadyH.cons rfl (fun K hK=> ?_) AllReadyH.nil)
   ·skip
    go_simp
    refine hK.out _ _ ?_ (fun hHeld=> ?_)
    ·exact hHeld
    clear hK K
    try simp only[aq]
    refine bj 3 rfl (fun K hK=> ?_)
    go_simp
    go_at_call 98
    refine(HW.out _ ((z9 _ V).drew)).mono ?_
    rintro e V1 ⟨rfl,hb⟩
    have hb1:Below V.heap.size V V1:=((z9 _ V).drew).trans hb
    clear hb
    have HB1V:=aa hb1
    have j0:=(HK.out.below hb1).at.1
    have j1:=(HK.out.below hb1).at.2.1
    have j2:=(HK.out.below hb1).at.2.2
    have q1:=(hb1.cell (p:=⟨B2,0,none⟩) lB2).trans b2
    clear hb1
    refine hK.out _ _ ?_ (fun hHeld=> ?_)
    ·exact q1
    clear hK K
    try simp only[aq]
    refine bj 4 rfl (fun K hK=> ?_)
    go_simp
    go_at_call 100
    refine(HMx.out _).mono ?_
    rintro e V2 ⟨rfl,hb⟩
    have hb2:Below V.heap.size V V2:=HB1V.out.trans (hb.mono HB1V.out.size)
    clear hb
    have HB2V:=aa hb2
    have hK2:=HK.out.below hb2
    have i0:=hK2.at.1
    have i1:=hK2.at.2.1
    have i2:=hK2.at.2.2
    have fz2:=hK2.frozen
    have q2:=(hb2.cell (p:=⟨B2,0,none⟩) lB2).trans b2
    have HK2:=aa hK2
    clear hb2 hK2
    refine hK.out _ _ ?_ (fun hHeld=> ?_)
    ·exact q2
    clear hK K
    try simp only[aq]
    refine bj 5 rfl (fun K hK=> ?_)
    go_simp
    refine hK.out _ _ ?_ (fun hHeld=> ?_)
    ·exact(zZ0 (by rw[yY0 _ _ _ _ hB2n,yY0 _ _ _ _ hB2n,yY0 _ _ _ _ hB2n])).trans q2
    clear hK K
    try simp only[aq]
    refine wpAnyH_done (by kernel_rfl) ?_ _
    exact⟨rfl,(((Kk.below (S:=fun b=>b=W.heap.size+1) HB2V.out).setCell (a:=⟨W.heap.size+1,0,none⟩) rfl _).setCell (a:=⟨W.heap.size+1,1,none⟩) rfl _).setCell (a:=⟨W.heap.size+1,2,none⟩) rfl _,HFin.out V2 HB2V.out⟩
   ·skip
    go_simp
    go_at_call 98
    refine(HW.out _ ((z9 _ V).drew)).mono ?_
    rintro e V1 ⟨rfl,hb⟩
    have hb1:Below V.heap.size V V1:=((z9 _ V).drew).trans hb
    clear hb
    have HB1V:=aa hb1
    have j0:=(HK.out.below hb1).at.1
    have j1:=(HK.out.below hb1).at.2.1
    have j2:=(HK.out.below hb1).at.2.2
    have q1:=(hb1.cell (p:=⟨B2,0,none⟩) lB2).trans b2
    clear hb1
    refine hK.out _ _ ?_ (fun hHeld=> ?_)
    ·exact q1
    clear hK K
    try simp only[aq]
    refine bj 0 rfl (fun K hK=> ?_)
    go_simp
    refine hK.out _ _ ?_ (fun hHeld=> ?_)
    ·exact hHeld
    clear hK K
    try simp only[aq]
    refine bj 4 rfl (fun K hK=> ?_)
    go_simp
    go_at_call 100
    refine(HMx.out _).mono ?_
    rintro e V2 ⟨rfl,hb⟩
    have hb2:Below V.heap.size V V2:=HB1V.out.trans (hb.mono HB1V.out.size)
    clear hb
    have HB2V:=aa hb2
    have hK2:=HK.out.below hb2
    have i0:=hK2.at.1
    have i1:=hK2.at.2.1
    have i2:=hK2.at.2.2
    have fz2:=hK2.frozen
    have q2:=(hb2.cell (p:=⟨B2,0,none⟩) lB2).trans b2
    have HK2:=aa hK2
    clear hb2 hK2
    refine hK.out _ _ ?_ (fun hHeld=> ?_)
    ·exact q2
    clear hK K
    try simp only[aq]
    refine bj 5 rfl (fun K hK=> ?_)
    go_simp
    refine hK.out _ _ ?_ (fun hHeld=> ?_)
    ·exact(zZ0 (by rw[yY0 _ _ _ _ hB2n,yY0 _ _ _ _ hB2n,yY0 _ _ _ _ hB2n])).trans q2
    clear hK K
    try simp only[aq]
    refine wpAnyH_done (by kernel_rfl) ?_ _
    exact⟨rfl,(((Kk.below (S:=fun b=>b=W.heap.size+1) HB2V.out).setCell (a:=⟨W.heap.size+1,0,none⟩) rfl _).setCell (a:=⟨W.heap.size+1,1,none⟩) rfl _).setCell (a:=⟨W.heap.size+1,2,none⟩) rfl _,HFin.out V2 HB2V.out⟩
  case done=>
   rintro D V hD ⟨hR,hK,hG,hT,hB⟩ hD2
   rw[xC f.ac] at hK
   have k0:=hK.at.1
   have k1:=hK.at.2.1
   have k2:=hK.at.2.2
   have fz:=hR.frozen
   have r0:=hR.at.1
   have r1:=hR.at.2.1
   have r2:=hR.at.2.2
   have HR:=aa hR
   have HB:=aa hB
   clear hR hK hG hT hB
   gi_wp2
   have hR3:=HR.out.set (keyOf T L t)
   have hD3: ∀b,b≠W.heap.size->(((V.setCell ⟨W.heap.size,0,none⟩ (.bool (keyOf T L t).e)).setCell ⟨W.heap.size,1,none⟩ (.int .u64 (keyOf T L t).d)).setCell ⟨W.heap.size,2,none⟩ (.int .u8 (keyOf T L t).l)).heap[b]? =V.heap[b]? :=fun b hb=>by
    rw[yY0 _ _ _ _ hb,yY0 _ _ _ _ hb,yY0 _ _ _ _ hb]
   have hK1:=(hD3 D (by omega)).trans hD2
   refine⟨by simp,.inl ⟨_,_,rfl,run_takeDeferred hK1,?_⟩⟩
   have hA5:=hR3.put (o':= .deferred none) hK1 rfl
   have d0:=hA5.at.1
   have d1:=hA5.at.2.1
   have d2:=hA5.at.2.2
   refine⟨.agg #[.bool (keyOf T L t).e,.int .u64 (keyOf T L t).d,.int .u8 (keyOf T L t).l],?_,rfl,?_⟩
   ·simp[results,Tryz.f98,go_sem,d0,d1,d2]
   ·refine(((HB.out.setCell (p:=⟨W.heap.size,0,none⟩) (by simp) (.bool (keyOf T L t).e)).setCell (p:=⟨W.heap.size,1,none⟩) (by simp) (.int .u64 (keyOf T L t).d)).setCell (p:=⟨W.heap.size,2,none⟩) (by simp) (.int .u8 (keyOf T L t).l)).trans ?_
    exact belowK_b (w:=W) (i8 _) _ D _ _ (by omega) hK1 rfl rfl
end Go.Proofs.YtjlbmmiomfpgiaaGreatDoor.Pi
namespace Go.Proofs.YtjlbmmiomfpgiaaGreatDoor.Pi
open Go.Proofs.YtjlbmmiomfpgiaaGreatDoor.Ke
open Go.Lib
open Go.RowKit hiding Hid
noncomputable def cQ (T:List Th) (L:List Lk) (t:Int):K:=if lT T t then keyOf T L t.toNat else bc 0
section
variable {w:World} {base s:Nat} {vt vl:Value} {V:List Value} {T:List Th} {L:List Lk} {n0 gt ct cap:Nat} {a:Option Addr} {ln:Nat->Option Addr×Nat}
theorem zz (h:Vw n0 w s gt ct a cap ln T L) (t:Int):Calls Tryz.prog 97 #[.pointer (some ⟨s,0,none⟩),.int .i64 t] w fun e w'=>e= .returned (.bool (lT T t))/\w'=w:=by
 have c0:=h.t.c0
 have hle:=h.t.le
 clear h
 unfold lT
 by_cases h0:0<=t
 ·go_enter Tryz.func97,Tryz.ntmps97
  go_wp2
  go_ret
  exact⟨by simp[h0],rfl⟩
 ·go_enter Tryz.func97,Tryz.ntmps97
  go_wp2
  go_ret
  exact⟨by simp;omega,rfl⟩
theorem DZ (h:Vw n0 w s gt ct a cap ln T L) (hn:n0<=w.heap.size) (t:Int) (ht:lT T t=false):Calls Tryz.prog 55 #[.pointer (some ⟨s,0,none⟩),.int .i64 t] w fun e w'=>e= .returned (.agg #[.bool (bc 0).e,.int .u64 (bc 0).d,.int .u8 (bc 0).l])/\Below w.heap.size w w':=by
 have HT:=aa (fun w' (hb:Below w.heap.size w w')=>zz (h.below (hb.mono hn)) t)
 simp only[ht] at HT
 clear h ht hn
 go_enter Tryz.func55,Tryz.ntmps55
 go_wp2_with (go_at_call 97;refine(HT.out _ (by first|exact z9 _ _|exact(z9 _ _).alloc (i8 _) _|exact((z9 _ _).alloc (i8 _) _).alloc (by simp) _)).mono ?_;rintro e w1 ⟨rfl,hw⟩;subst hw)
 simp[bodyPost,results,Tryz.results55,go_sem,bc]
 exact((z9 _ _).alloc (i8 _) _).alloc (by simp) _
theorem CJ (h:Vw n0 w s gt ct a cap ln T L) (f:Vf T L) (hn:n0<=w.heap.size) (t:Nat) (ht:t<T.length):Calls Tryz.prog 55 #[.pointer (some ⟨s,0,none⟩),.int .i64 (t:Int)] w fun e w'=>e= .returned (.agg #[.bool (keyOf T L t).e,.int .u64 (keyOf T L t).d,.int .u8 (keyOf T L t).l])/\Below w.heap.size w w':=by
 have ht':lT T (t:Int)=true:=by unfold lT;simp;omega
 have HT:=aa (fun w' (hb:Below w.heap.size w w')=>zz (h.below (hb.mono hn)) (t:Int))
 simp only[ht'] at HT
 obtain⟨B,r,hb,hr⟩:=f.ac
 have HM:=aa (fun B1 B2 W' (hb:Below w.heap.size w W') h1 h2=>callsIn_wide.1 (BJ s gt ct a cap ln T L f r hr (r t+1) t (by omega) ht n0 B1 B2 W' (yX0 hn hb.size) (h.below (hb.mono hn)) h1 h2))
 clear h ht' hn hb hr
 have HB1:=aa (((Boxed.new w 86 (.pointer (some ⟨s,0,none⟩))).alloc (.cells #[.bool false,.int .u64 0,.int .u8 0] 67)).alloc (.cells #[.func (.func 98) #[] #[.pointer (some ⟨w.heap.size,0,none⟩),.pointer (some ⟨w.heap.size+1+1,0,none⟩)]] 121))
 have HB2:Hid (Boxed (((w.alloc (.cells #[.pointer (some ⟨s,0,none⟩)] 86)).alloc (.cells #[.bool false,.int .u64 0,.int .u8 0] 67)).alloc (.cells #[.func (.func 98) #[] #[.pointer (some ⟨w.heap.size,0,none⟩),.pointer (some ⟨w.heap.size+1+1,0,none⟩)]] 121)) (w.heap.size+1+1) 121 (.func (.func 98) #[] #[.pointer (some ⟨w.heap.size,0,none⟩),.pointer (some ⟨w.heap.size+1+1,0,none⟩)])):=by
  have:=Boxed.new ((w.alloc (.cells #[.pointer (some ⟨s,0,none⟩)] 86)).alloc (.cells #[.bool false,.int .u64 0,.int .u8 0] 67)) 121 (.func (.func 98) #[] #[.pointer (some ⟨w.heap.size,0,none⟩),.pointer (some ⟨w.heap.size+1+1,0,none⟩)])
  simp only[World.size_alloc] at this
  exact this
 have hbe:Below w.heap.size w (((w.alloc (.cells #[.pointer (some ⟨s,0,none⟩)] 86)).alloc (.cells #[.bool false,.int .u64 0,.int .u8 0] 67)).alloc (.cells #[.func (.func 98) #[] #[.pointer (some ⟨w.heap.size,0,none⟩),.pointer (some ⟨w.heap.size+1+1,0,none⟩)]] 121)):=(((z9 _ w).alloc (i8 _) _).alloc (by simp) _).alloc (by simp;omega) _
 have HBE:=aa hbe
 have HRB:Hid (dF (((w.alloc (.cells #[.pointer (some ⟨s,0,none⟩)] 86)).alloc (.cells #[.bool false,.int .u64 0,.int .u8 0] 67)).alloc (.cells #[.func (.func 98) #[] #[.pointer (some ⟨w.heap.size,0,none⟩),.pointer (some ⟨w.heap.size+1+1,0,none⟩)]] 121)) (w.heap.size+1) (bc 0)):=by
  refine dF.alloc ?_ _
  have:=World.alloc_heap_new (w.alloc (.cells #[.pointer (some ⟨s,0,none⟩)] 86)) (.cells #[.bool false,.int .u64 0,.int .u8 0] 67)
  rw[World.size_alloc] at this
  exact this
 have HM2:=aa (HM.out w.heap.size (w.heap.size+1+1) _ hbe HB1.out HB2.out)
 clear hbe HM HB1 HB2
 go_enter Tryz.func55,Tryz.ntmps55
 go_wp2_with (first
  |(go_at_call 97;refine(HT.out _ (by first|exact z9 _ _|exact(z9 _ _).alloc (i8 _) _|exact((z9 _ _).alloc (i8 _) _).alloc (by simp) _)).mono ?_;rintro e w1 ⟨rfl,hw⟩;subst hw)
  |(go_at_call 98;refine(HM2.out).mono ?_;rintro e w1 ⟨rfl,hb1⟩;have hkb:=HRB.out.below hb1;have r0:=hkb.at.1;have r1:=hkb.at.2.1;have r2:=hkb.at.2.2;have fz:=hkb.frozen;replace hb1:=aa hb1;replace hkb:=aa hkb))
 have hset:=(hkb.out.set (keyOf T L t)).at
 have d0:=hset.1
 have d1:=hset.2.1
 have d2:=hset.2.2
 simp[bodyPost,results,Tryz.results55,go_sem,d0,d1,d2]
 have hb3:Below w.heap.size w w1:=HBE.out.trans (hb1.out.mono HBE.out.size)
 exact((hb3.setCell (p:=⟨w.heap.size+1,0,none⟩) (by simp) _).setCell (p:=⟨w.heap.size+1,1,none⟩) (by simp) _).setCell (p:=⟨w.heap.size+1,2,none⟩) (by simp) _
theorem Gg (h:Vw n0 w s gt ct a cap ln T L) (f:Vf T L) (hn:n0<=w.heap.size) (t:Int):Calls Tryz.prog 55 #[.pointer (some ⟨s,0,none⟩),.int .i64 t] w fun e w'=>e= .returned (.agg #[.bool (cQ T L t).e,.int .u64 (cQ T L t).d,.int .u8 (cQ T L t).l])/\Below w.heap.size w w':=by
 unfold cQ
 cases ht:lT T t with
 |false=>exact DZ h hn t ht
 |true=>
  obtain⟨k,x,rfl,hk,_⟩:=uS ht
  exact CJ h f hn k hk
theorem jf (h:eG w base s vt vl V T L) (t:Int):Calls Tryz.prog 55 #[.pointer (some ⟨s,0,none⟩),.int .i64 t] w fun e w'=>e= .returned (.agg #[.bool (cQ T L t).e,.int .u64 (cQ T L t).d,.int .u8 (cQ T L t).l])/\Below w.heap.size w w':=by
 obtain⟨gt,ct,a,cap,_,_,hv⟩:=h.vw
 exact Gg hv h.f.vf (i8 _) t
end
def pK (g:Nat->K) (l:List Nat):Nat->Int×K
 |0=>(-1,bc 0)
 |n+1=>if (pK g l n).1= -1\/up (g (l[n]?.getD 0)) (pK g l n).2=true then((n:Int),g (l[n]?.getD 0)) else pK g l n
section
variable {w:World} {s:Nat} {T:List Th} {L:List Lk} {n0 gt ct cap:Nat} {a:Option Addr} {ln:Nat->Option Addr×Nat}
end
end Go.Proofs.YtjlbmmiomfpgiaaGreatDoor.Pi
namespace Go.Proofs.YtjlbmmiomfpgiaaGreatDoor.Pi
open Go.Proofs.YtjlbmmiomfpgiaaGreatDoor.Ke
open Go.Lib Go.Shelf
open Go.RowKit hiding Hid
def zY (w w':World) (base s:Nat) (vt vl:Value) (V:List Value) (T:List Th) (L:List Lk):Prop:=
 ∃V',eG w' base s vt vl V' T L/\Fr (own s vt vl V) w w'/\ ∀k,own s vt vl V' k->own s vt vl V k\/w.heap.size<=k
section
variable {w:World} {base s:Nat} {vt vl:Value} {V:List Value} {T:List Th} {L:List Lk}
end
structure Md where
 T:List Th
 L:List Lk
open Classical in
noncomputable def gQ (M:Md) (t m:Int):(Bool×Int)×Md:=
 if sU M.T M.L t m≠0 then((false,sU M.T M.L t m),M) else
 match M.T[t.toNat]?,M.L[m.toNat]? with
 |some x,some y=>
  if y.h=t then((false,7),M) else
  if y.h= -1 then((true,0),⟨M.T,M.L.set m.toNat ⟨t,y.l⟩⟩) else
  if uD M.L y.h.toNat t.toNat then((false,8),M) else
  ((false,0),⟨M.T.set t.toNat ⟨x.k,m⟩,M.L.set m.toNat ⟨y.h,y.l++[t.toNat]⟩⟩)
 |_,_=>((false,0),M)
noncomputable def Dn (M:Md) (y:Lk):Int:=(pK (keyOf M.T M.L) y.l y.l.length).1
noncomputable def Hq (M:Md) (t m:Int):(Int×Int)×Md:=
 if sU M.T M.L t m≠0 then((-1,sU M.T M.L t m),M) else
 match M.L[m.toNat]? with
 |some y=>
  if y.h≠t then((-1,9),M) else
  match y.l[(Dn M y).toNat]? with
  |none=>((-1,0),⟨M.T,M.L.set m.toNat ⟨-1,y.l⟩⟩)
  |some q=>(((q:Int),0),⟨(match M.T[q]? with|some z=>M.T.set q ⟨z.k,-1⟩|none=>M.T),M.L.set m.toNat ⟨(q:Int),y.l.eraseIdx (Dn M y).toNat⟩⟩)
 |none=>((-1,0),M)
def gd (M:Md) (t:Int) (k:K):Int×Md:=
 if lT M.T t&&aK k then match M.T[t.toNat]? with
  |some x=>(0,⟨M.T.set t.toNat ⟨k,x.u⟩,M.L⟩)
  |none=>(2,M)
 else(2,M)
def PG (w:World) (b:Nat) (O:Nat->Prop) (s:Nat) (M:Md):Prop:= ∃vt vl V,eG w b s vt vl V M.T M.L/\ ∀k,own s vt vl V k↔O k
def Gq (w w':World) (b:Nat) (O:Nat->Prop) (s:Nat) (M:Md):Prop:= ∃O',PG w' b O' s M/\Fr O w w'/\ ∀k,O' k->O k\/w.heap.size<=k
section
variable {w w':World} {b s:Nat} {O:Nat->Prop} {M:Md}
theorem PG.f (h:PG w b O s M):mB M.T M.L:=by obtain⟨_,_,_,hg,_⟩:=h;exact hg.f
theorem PG.lt (h:PG w b O s M) {k:Nat} (hk:O k):k<w.heap.size:=by obtain⟨_,_,_,hg,ho⟩:=h;exact hg.AL ((ho k).2 hk)
theorem PG.ge (h:PG w b O s M) {k:Nat} (hk:O k):b<=k:=by
 obtain⟨vt,vl,V,hg,ho⟩:=h
 rcases(ho k).2 hk with rfl|q|q|⟨v,hv,q⟩
 ·exact hg.lo
 ·exact(aw hg.tho q).1
 ·exact(aw hg.lko q).1
 ·obtain⟨j,hj⟩:=List.mem_iff_getElem?.1 hv
  have hjl:=(zY0.1 hj).1
  rw[hg.vs] at hjl
  exact(aw (hg.lin j _ v (yV0 hjl) hj) q).1
theorem PG.frame {S:Nat->Prop} (h:PG w b O s M) (hf:Fr S w w') (hn: ∀k,O k-> ¬S k):PG w' b O s M:=by
 obtain⟨vt,vl,V,hg,ho⟩:=h
 exact⟨vt,vl,V,hg.frame hf (fun k hk=>hn k ((ho k).1 hk)),ho⟩
theorem PG.below (h:PG w b O s M) (hf:Below w.heap.size w w'):PG w' b O s M:=h.frame (Fr.aC (S:=fun _=>False) hf) (fun _ _=>id)
theorem PG.stay (h:PG w b O s M) (hf:Below w.heap.size w w'):Gq w w' b O s M:=⟨O,h.below hf,Fr.aC hf,fun _ q=> .inl q⟩
theorem zY.GN {vt vl:Value} {V:List Value} (ho: ∀k,own s vt vl V k↔O k) {T:List Th} {L:List Lk} (h:zY w w' b s vt vl V T L):Gq w w' b O s ⟨T,L⟩:=by
 obtain⟨V',hg,hf,hn⟩:=h
 exact⟨_,⟨vt,vl,V',hg,fun k=>Iff.rfl⟩,hf.wide (fun k _ q=>(ho k).1 q),fun k q=>(hn k q).imp (ho k).1 id⟩
theorem PG.base (h:PG w b O s M) (t:Int) (k:K) (hk:k.ok):Calls Tryz.prog 77 #[.pointer (some ⟨s,0,none⟩),.int .i64 t,.agg #[.bool k.e,.int .u64 k.d,.int .u8 k.l]] w fun e w'=>e= .returned (.int .i64 (gd M t k).1)/\Gq w w' b O s (gd M t k).2:=by
 have hp:=h
 obtain⟨vt,vl,V,hg,ho⟩:=h
 unfold gd
 cases ht:lT M.T t with
 |false=>
  simp only[Bool.false_and,Bool.false_eq_true,if_false]
  refine(vp hg t k (.inl ht)).mono ?_
  rintro e w' ⟨rfl,hb⟩
  exact⟨rfl,hp.stay hb⟩
 |true=>
  cases hr:aK k with
  |false=>
   simp only[Bool.and_false,Bool.false_eq_true,if_false]
   refine(vp hg t k (.inr hr)).mono ?_
   rintro e w' ⟨rfl,hb⟩
   exact⟨rfl,hp.stay hb⟩
  |true=>
   obtain⟨j,x,rfl,hj,hx,_⟩:=uS ht
   simp only[Bool.and_true,if_true,Int.toNat_natCast,hx]
   refine(zf hg j x hx k hk hr).mono ?_
   rintro e w' ⟨rfl,hg',hf⟩
   exact⟨rfl,zY.GN ho ⟨V,hg',hf.wide (fun k _ q=> .inr (.inl q)),fun k q=> .inl q⟩⟩
theorem PG.key (h:PG w b O s M) (t:Int):Calls Tryz.prog 55 #[.pointer (some ⟨s,0,none⟩),.int .i64 t] w fun e w'=>e= .returned (.agg #[.bool (cQ M.T M.L t).e,.int .u64 (cQ M.T M.L t).d,.int .u8 (cQ M.T M.L t).l])/\Below w.heap.size w w':=by
 obtain⟨vt,vl,V,hg,ho⟩:=h
 exact jf hg t
def IL (w:World) (base:Nat) (v:Value) (l:List Int):Prop:=w.ownsRow base 3 1 v l.length (l.map (Value.int .i64))
theorem PG.held (h:PG w b O s M) (t:Int):Calls Tryz.prog 189 #[.pointer (some ⟨s,0,none⟩),.int .i64 t] w fun e w'=> ∃v,e= .returned v/\IL w' w.heap.size v (lA M.T M.L t)/\Below w.heap.size w w':=by
 obtain⟨vt,vl,V,hg,ho⟩:=h
 exact C7 hg t
end
section
variable {w:World} {base s:Nat} {vt vl:Value} {V:List Value} {T:List Th} {L:List Lk}
end
def Bz (n m:Nat):Md:=⟨tO n,rh m⟩
theorem pF (n m:Nat) (w:World) (h1:1<=n) (h2:n<=1024) (h3:m<=32):
  Calls Tryz.prog 33 #[.int .i64 n,.int .i64 m] w fun e w'=> ∃s O,e= .returned (.pointer (some ⟨s,0,none⟩))/\PG w' w.heap.size O s (Bz n m)/\Below w.heap.size w w':=by
 refine(Dg n m w h1 h2 h3).mono ?_
 rintro e w' ⟨s,gt,gl,rfl,hn⟩
 exact⟨s,_,rfl,⟨_,_,_,eG.new hn h1 h2 h3,fun k=>Iff.rfl⟩,hn.be⟩
end Go.Proofs.YtjlbmmiomfpgiaaGreatDoor.Pi
