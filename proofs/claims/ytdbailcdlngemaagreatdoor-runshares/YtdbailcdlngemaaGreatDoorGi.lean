/- YtdbailcdlngemaaGreatDoorGi: of the texts I1 I2 I3 I4 I5 I6 I7 I8 I9 I10 I11 I12 I13 I14 I15 I16 what is wanted. -/
import Derived.Test.YtdbailcdlngemaaGreatDoorGa
import Derived.Laws.OwnMore
import Derived.Maps.AppendAt
import Derived.Deep.AppendLies
import Derived.OneCell
import Derived.OwnWalk
import Derived.Laws.MakeOwn
import Derived.RangeFuncNested
import Derived.RangeFuncBound
import Derived.RangeFuncCalls
import Derived.RangeFuncLeaves
import Derived.RangeFuncBox
import Derived.Shelf.Abstract
import Derived.Shelf.RegionOpen
import Derived.WalkKit
import Derived.OwnWalkIn
import Derived.TacticsInMore
import Derived.LoopNIn
import Derived.LoopIn
set_option maxHeartbeats 16000000
set_option maxRecDepth 100000
set_option linter.unusedVariables false
set_option linter.unusedSimpArgs false
namespace Go.Proofs.YtdbailcdlngemaaGreatDoor.Pi
open Go.Proofs.YtdbailcdlngemaaGreatDoor.Ke
open Go.Lib
open Go.RowKit hiding Hid
structure Fr (S:Nat→Prop) (w w':World):Prop where
 os:w'.os=w.os
 tape:w'.tape=w.tape
 output:w'.output=w.output
 size:w.heap.size≤w'.heap.size
 block: ∀k,k<w.heap.size→ ¬S k→w'.heap[k]? =w.heap[k]?
section
variable {S S':Nat→Prop} {w w' w'':World}
theorem Fr.wide (h:Fr S w w') (hs: ∀k,k<w.heap.size→S k→S' k):Fr S' w w':=⟨h.os,h.tape,h.output,h.size,fun k hk hn=>h.block k hk (fun q=>hn (hs k hk q))⟩
theorem Fr.setCell (h:Fr S w w') {a:Addr} (hb:S a.block) (u:Value):Fr S w (w'.setCell a u):=
 ⟨h.os,h.tape,h.output,by simpa using h.size,fun k hk hn=>(Below.heap_setCell _ _ _ _ (fun e=>hn (by rw[e];exact hb))).trans (h.block k hk hn)⟩
theorem Fr.aE (h:Below w.heap.size w w'):Fr S w w':=⟨h.os,h.tape,h.output,h.size,fun k hk _=>h.block k hk⟩
end
theorem aY {w:World} {base:Nat} {e:TypeId} {size g n cap:Nat} {xs:List Value} (h:w.ownsRow base e size (.slice (some ⟨g,0,none⟩) n cap) n xs) (k:Nat) (hk:k<n*size) (u:Value):
  (w.setCell ⟨g,k,none⟩ u).ownsRow base e size (.slice (some ⟨g,0,none⟩) n cap) n (xs.set k u):=by
 refine⟨by simpa using h.1,?_⟩
 rcases h.2 with ⟨e1,_⟩|⟨g',cap',cur,e1,h0,h1,h2,h3,h4,h5⟩
 ·simp at e1
 ·simp at e1
  obtain⟨rfl,rfl⟩:=e1
  refine .inr ⟨g,cap,cur.setIfInBounds k u,rfl,h0,?_,h2,h3,by simpa using h4,?_⟩
  ·exact Go.Joins.block_setCell h1 u
  ·rw[←h5]
   simp[List.take_set]
theorem dW {w:World} {base:Nat} {e:TypeId} {size g n cap:Nat} {xs:List Value} (h:w.ownsRow base e size (.slice (some ⟨g,0,none⟩) n cap) n xs) (k:Nat):w.frozen? ⟨g,k,none⟩=false:=by
 rcases h.2 with ⟨e1,_⟩|⟨g',cap',cur,e1,h0,h1,h2,h3,h4,h5⟩
 ·simp at e1
 ·simp at e1
  obtain⟨rfl,rfl⟩:=e1
  unfold World.frozen?
  simp[h1]
theorem bJ {w:World} {base:Nat} {e:TypeId} {size:Nat} {v:Value} {n:Nat} {xs:List Value} (h:w.ownsRow base e size v n xs) {w':World} (hh: ∀k,v.ownBlock=some k→w'.heap[k]? =w.heap[k]?):w'.ownsRow base e size v n xs:=by
 refine⟨h.1,?_⟩
 rcases h.2 with hn|⟨g,cap,cur,rfl,hb,hgg,rest⟩
 ·exact .inl hn
 ·exact .inr ⟨g,cap,cur,rfl,hb,(hh g rfl).trans hgg,rest⟩
theorem aq {w:World} {base:Nat} {e:TypeId} {size:Nat} {v:Value} {n:Nat} {xs:List Value} (h:w.ownsRow base e size v n xs) {k:Nat} (hk:v.ownBlock=some k):base≤k∧k<w.heap.size∧ ∃cur,w.heap[k]? =some (.cells cur e (0,0)):=by
 rcases h.2 with ⟨rfl,_⟩|⟨g,cap,cur,rfl,hb,hgg,rest⟩
 ·simp[Value.ownBlock] at hk
 ·simp[Value.ownBlock] at hk
  subst hk
  exact⟨hb,(Array.getElem?_eq_some_iff.1 hgg).1,cur,hgg⟩
structure Th where
 k:K
 u:Int
structure Lk where
 h:Int
 l:List Nat
def Th.ok (n:Nat) (x:Th):Prop:=x.k.ok∧ -1≤x.u∧x.u<n
def Lk.ok (n:Nat) (x:Lk):Prop:= -1≤x.h∧x.h<n∧(∀t∈x.l,t<n)∧x.l.Nodup∧(x.l≠[]→0≤x.h)
def Edge (L:List Lk) (t s:Nat):Prop:= ∃y∈L,t∈y.l∧y.h=(s:Int)
def yi (L:List Lk):Prop:= ∃(B:Nat) (r:Nat→Nat),(∀x,r x≤B)∧ ∀t s,Edge L t s→r t<r s
structure lX (T:List Th) (L:List Lk):Prop where
 t1:1≤T.length
 t2:T.length≤1024
 l2:L.length≤32
 th: ∀x∈T,x.ok L.length
 lk: ∀y∈L,y.ok T.length
 wt: ∀(t:Nat) x,T[t]? =some x→ ∀(m:Nat) y,L[m]? =some y→(t∈y.l↔x.u=(m:Int))
 ac:yi L
def behind (L:List Lk) (t:Nat):List Nat:=(L.filter (fun y=>y.h==(t:Int))).flatMap (·.l)
theorem gv {L:List Lk} {t s:Nat}:s∈behind L t↔Edge L s t:=by
 unfold behind Edge
 simp only[List.mem_flatMap,List.mem_filter,beq_iff_eq]
 constructor
 ·rintro⟨y,⟨h1,h2⟩,h3⟩
  exact⟨y,h1,h3,h2⟩
 ·rintro⟨y,h1,h3,h2⟩
  exact⟨y,⟨h1,h2⟩,h3⟩
def gO (T:List Th) (t:Nat):K:=(T[t]?.map (·.k)).getD (br 0)
def kf (T:List Th) (L:List Lk):Nat→Nat→K
 |0,t=>gO T t
 |n+1,t=>(behind L t).foldl (fun k x=>dO k (kf T L n x)) (gO T t)
theorem mZ {α β:Type} {f g:β→α→β}: ∀(l:List α) (b:β),(∀x∈l,∀b,f b x=g b x)→l.foldl f b=l.foldl g b
 |[],b,_=>rfl
 |x::l,b,h=>by
  rw[List.foldl_cons,List.foldl_cons,h x (by simp)]
  exact mZ l _ (fun y hy=>h y (by simp[hy]))
theorem ze {T:List Th} {L:List Lk} {r:Nat→Nat} (h: ∀t s,Edge L t s→r t<r s): ∀(n:Nat) (t:Nat),r t≤n→ ∀m,r t≤m→kf T L n t=kf T L m t:=by
 intro n
 induction n with
 |zero=>
  intro t hn m _
  cases m with
  |zero=>rfl
  |succ m=>
   have e:behind L t=[]:=by
    rw[List.eq_nil_iff_forall_not_mem]
    intro x hx
    have:=h x t (gv.1 hx)
    omega
   unfold kf
   rw[e]
   rfl
 |succ n ih=>
  intro t hn m hm
  cases m with
  |zero=>
   have e:behind L t=[]:=by
    rw[List.eq_nil_iff_forall_not_mem]
    intro x hx
    have:=h x t (gv.1 hx)
    omega
   unfold kf
   rw[e]
   rfl
  |succ m=>
   show(behind L t).foldl (fun k x=>dO k (kf T L n x)) (gO T t)=(behind L t).foldl (fun k x=>dO k (kf T L m x)) (gO T t)
   refine mZ _ _ ?_
   intro x hx b
   have:=h x t (gv.1 hx)
   rw[ih x (by omega) m (by omega)]
open Classical in
noncomputable def keyOf (T:List Th) (L:List Lk) (t:Nat):K:=if h:yi L then kf T L h.choose t else br 0
theorem yE {T:List Th} {L:List Lk} (h:yi L) (t:Nat):keyOf T L t=(behind L t).foldl (fun k x=>dO k (keyOf T L x)) (gO T t):=by
 obtain⟨r,hb,hr⟩:=h.choose_spec
 unfold keyOf
 simp only[h,dite_true]
 rw[ze hr h.choose t (hb t) (h.choose+1) (by have:=hb t;omega)]
 rfl
def As (x:Th):List Value:=[.bool x.k.e,.int .u64 x.k.d,.int .u8 x.k.l,.int .i64 x.u]
def dx (T:List Th):List Value:=T.flatMap As
theorem cL (x:Th) (T:List Th):dx (x::T)=As x++dx T:=rfl
theorem jb: ∀T,(dx T).length=T.length*4
 |[]=>rfl
 |x::T=>by rw[cL];simp[As,jb T];omega
theorem iJ: ∀(T:List Th) (i:Nat) (x:Th),T[i]? =some x→(dx T)[i*4]? =some (.bool x.k.e)∧(dx T)[i*4+1]? =some (.int .u64 x.k.d)∧(dx T)[i*4+2]? =some (.int .u8 x.k.l)∧(dx T)[i*4+3]? =some (.int .i64 x.u)
 |[],i,x,h=>by simp at h
 |y::T,0,x,h=>by
  simp at h
  subst h
  exact⟨rfl,rfl,rfl,rfl⟩
 |y::T,i+1,x,h=>by
  have:=iJ T i x (by simpa using h)
  rw[cL,show(i+1)*4=i*4+4 by omega]
  exact this
theorem nh: ∀(T:List Th) (i:Nat) (x:Th),i<T.length→dx (T.set i x)=((((dx T).set (i*4) (.bool x.k.e)).set (i*4+1) (.int .u64 x.k.d)).set (i*4+2) (.int .u8 x.k.l)).set (i*4+3) (.int .i64 x.u)
 |[],i,x,h=>by simp at h
 |y::T,0,x,h=>by simp[cL,As]
 |y::T,i+1,x,h=>by
  have:=nh T i x (by simpa using h)
  rw[List.set_cons_succ,cL,this,cL,show(i+1)*4=i*4+4 by omega]
  rfl
def fJ (Z:List (Int×Value)):List Value:=Z.flatMap (fun z=>[.int .i64 z.1,z.2])
theorem ek (z:Int×Value) (Z:List (Int×Value)):fJ (z::Z)=[.int .i64 z.1,z.2]++fJ Z:=rfl
theorem iO: ∀(Z:List (Int×Value)) (i:Nat) (z:Int×Value),Z[i]? =some z→(fJ Z)[i*2]? =some (.int .i64 z.1)∧(fJ Z)[i*2+1]? =some z.2
 |[],i,x,h=>by simp at h
 |y::Z,0,x,h=>by
  simp at h
  subst h
  exact⟨rfl,rfl⟩
 |y::Z,i+1,x,h=>by
  have:=iO Z i x (by simpa using h)
  rw[ek,show(i+1)*2=i*2+2 by omega]
  exact this
theorem mD: ∀(Z:List (Int×Value)) (i:Nat) (z:Int×Value),i<Z.length→fJ (Z.set i z)=((fJ Z).set (i*2) (.int .i64 z.1)).set (i*2+1) z.2
 |[],i,x,h=>by simp at h
 |y::Z,0,x,h=>by simp[ek]
 |y::Z,i+1,x,h=>by
  have:=mD Z i x (by simpa using h)
  rw[List.set_cons_succ,ek,this,ek,show(i+1)*2=i*2+2 by omega]
  rfl
def ints (l:List Nat):List Value:=l.map (fun (t:Nat)=> .int .i64 (t:Int))
structure eJ (w:World) (base s:Nat) (vt vl:Value) (V:List Value) (T:List Th) (L:List Lk):Prop where
 blk:w.heap[s]? =some (.cells #[vt,vl] 128 (0,0))
 lo:base≤s
 tho:w.ownsRow base 133 4 vt T.length (dx T)
 lko:w.ownsRow base 136 2 vl L.length (fJ ((L.map (·.h)).zip V))
 vs:V.length=L.length
 lin: ∀(j:Nat) y v,L[j]? =some y→V[j]? =some v→w.ownsRow base 3 1 v y.l.length (ints y.l)
 apart: ∀(i j:Nat) u v k,V[i]? =some u→V[j]? =some v→u.ownBlock=some k→v.ownBlock=some k→i=j
 bs:base≤w.heap.size
 f:lX T L
def own (s:Nat) (vt vl:Value) (V:List Value) (k:Nat):Prop:=k=s∨vt.ownBlock=some k∨vl.ownBlock=some k∨ ∃v∈V,v.ownBlock=some k
section
variable {w w':World} {base s:Nat} {vt vl:Value} {V:List Value} {T:List Th} {L:List Lk}
theorem eJ.lt (h:eJ w base s vt vl V T L):s<w.heap.size:=(Array.getElem?_eq_some_iff.1 h.blk).1
theorem eJ.xT (h:eJ w base s vt vl V T L) {k:Nat} (hk:own s vt vl V k):k<w.heap.size:=by
 rcases hk with rfl|q|q|⟨v,hv,q⟩
 ·exact h.lt
 ·exact(aq h.tho q).2.1
 ·exact(aq h.lko q).2.1
 ·obtain⟨j,hj⟩:=List.mem_iff_getElem?.1 hv
  have hjl:=(List.getElem?_eq_some_iff.1 hj).1
  rw[h.vs] at hjl
  exact(aq (h.lin j _ v (List.getElem?_eq_getElem hjl) hj) q).2.1
theorem eJ.kept (h:eJ w base s vt vl V T L) (h0:w.heap.size≤w'.heap.size) (h1: ∀k,own s vt vl V k→w'.heap[k]? =w.heap[k]?):eJ w' base s vt vl V T L:=
 ⟨(h1 s (.inl rfl)).trans h.blk,h.lo,bJ h.tho (fun k hk=>h1 k (.inr (.inl hk))),bJ h.lko (fun k hk=>h1 k (.inr (.inr (.inl hk)))),h.vs,
  fun j y v hy hv=>bJ (h.lin j y v hy hv) (fun k hk=>h1 k (.inr (.inr (.inr ⟨v,List.mem_of_getElem? hv,hk⟩)))),h.apart,Nat.le_trans h.bs h0,h.f⟩
theorem eJ.frame {S:Nat→Prop} (h:eJ w base s vt vl V T L) (hf:Fr S w w') (h1: ∀k,own s vt vl V k→ ¬S k):eJ w' base s vt vl V T L:=
 h.kept hf.size (fun k hk=>hf.block k (h.xT hk) (h1 k hk))
theorem eJ.below (h:eJ w base s vt vl V T L) (hf:Below w.heap.size w w'):eJ w' base s vt vl V T L:=
 h.frame (Fr.aE (S:=fun _=>False) hf) (fun _ _=>id)
theorem eJ.c0 (h:eJ w base s vt vl V T L):w.cell? ⟨s,0,none⟩=some vt:=by unfold World.cell?;simp[h.blk]
theorem eJ.c1 (h:eJ w base s vt vl V T L):w.cell? ⟨s,1,none⟩=some vl:=by unfold World.cell?;simp[h.blk]
theorem lK {e:TypeId} {size n:Nat} {v:Value} {xs:List Value} (h:w.ownsRow base e size v n xs): ∃a cap,v= .slice a n cap∧n≤cap∧cap≤maxLen:=by
 rcases h.2 with ⟨e,e0⟩|⟨g,cap,cur,e,_,_,h1,h2,_⟩
 ·exact⟨none,0,by rw[e,e0],by omega,by simp[maxLen]⟩
 ·exact⟨_,cap,e,h1,h2⟩
theorem eJ.xU (h:eJ w base s vt vl V T L): ∃g cap,vt= .slice (some ⟨g,0,none⟩) T.length cap∧T.length≤cap∧cap≤maxLen∧g<w.heap.size∧g≠s∧(∀k,w.frozen? ⟨g,k,none⟩=false)∧
  (∀j x,T[j]? =some x→w.cell? ⟨g,j*4,none⟩=some (.bool x.k.e)∧w.cell? ⟨g,j*4+1,none⟩=some (.int .u64 x.k.d)∧w.cell? ⟨g,j*4+2,none⟩=some (.int .u8 x.k.l)∧w.cell? ⟨g,j*4+3,none⟩=some (.int .i64 x.u)):=by
 have ht:=h.f.t1
 have hown:=h.tho
 rcases h.tho.2 with ⟨e,e0⟩|⟨g,cap,cur,e,h0,hg,h1,h2,_⟩
 ·omega
 ·subst e
  refine⟨g,cap,rfl,h1,h2,(Array.getElem?_eq_some_iff.1 hg).1,fun q=> ?_,dW hown,fun j x hj=> ?_⟩
  ·subst q
   rw[h.blk] at hg
   simp at hg
  ·have hjl:j<T.length:=(List.getElem?_eq_some_iff.1 hj).1
   rw[hown.cellAt (j*4) (by omega),hown.cellAt (j*4+1) (by omega),hown.cellAt (j*4+2) (by omega),hown.cellAt (j*4+3) (by omega)]
   exact iJ T j x hj
theorem eJ.DB (h:eJ w base s vt vl V T L) (hL:0<L.length): ∃g cap,vl= .slice (some ⟨g,0,none⟩) L.length cap∧L.length≤cap∧cap≤maxLen∧g<w.heap.size∧g≠s∧(∀k,w.frozen? ⟨g,k,none⟩=false)∧
  (∀(j:Nat) y v,L[j]? =some y→V[j]? =some v→w.cell? ⟨g,j*2,none⟩=some (.int .i64 y.h)∧w.cell? ⟨g,j*2+1,none⟩=some v):=by
 have hown:=h.lko
 rcases h.lko.2 with ⟨e,e0⟩|⟨g,cap,cur,e,h0,hg,h1,h2,_⟩
 ·omega
 ·subst e
  refine⟨g,cap,rfl,h1,h2,(Array.getElem?_eq_some_iff.1 hg).1,fun q=> ?_,dW hown,fun j y v hj hv=> ?_⟩
  ·subst q
   rw[h.blk] at hg
   simp at hg
  ·have hjl:j<L.length:=(List.getElem?_eq_some_iff.1 hj).1
   rw[hown.cellAt (j*2) (by omega),hown.cellAt (j*2+1) (by omega)]
   have e:((L.map (·.h)).zip V)[j]? =some (y.h,v):=by rw[List.getElem?_zip_eq_some];simp[hj,hv]
   exact iO _ j (y.h,v) e
end
def oN (T:List Th) (t:Int):Bool:=decide (0≤t∧t<(T.length:Int))
def Ef (L:List Lk) (m:Int):Bool:=decide (0≤m∧m<(L.length:Int))
def pC (T:List Th) (t:Int):Int:=if oN T t then((T[t.toNat]?).map (·.u)).getD (-1) else-1
def Gp (T:List Th) (L:List Lk) (t m:Int):Int:=if oN T t&&Ef L m then if pC T t= -1 then 0 else 11 else 2
section
variable {w:World} {base s:Nat} {vt vl:Value} {V:List Value} {T:List Th} {L:List Lk}
theorem vr (h:eJ w base s vt vl V T L) (t:Int):Calls Tryz.prog 111 #[.pointer (some ⟨s,0,none⟩),.int .i64 t] w fun e w'=>e= .returned (.bool (oN T t))∧w'=w:=by
 obtain⟨a,cap,rfl,_,_⟩:=lK h.tho
 have c0:=h.c0
 clear h
 unfold oN
 by_cases h0:0≤t
 ·go_enter Tryz.func111,Tryz.ntmps111
  go_wp2
  go_ret
  exact⟨by simp[h0],rfl⟩
 ·go_enter Tryz.func111,Tryz.ntmps111
  go_wp2
  go_ret
  exact⟨by simp;omega,rfl⟩
theorem uW {t:Int} (h:oN T t=true): ∃(k:Nat) (x:Th),t=k∧k<T.length∧T[k]? =some x∧pC T t=x.u:=by
 have h':=h
 unfold oN at h'
 simp only[decide_eq_true_eq] at h'
 obtain⟨k,rfl⟩: ∃k:Nat,t=k:=⟨t.toNat,by omega⟩
 have hk:k<T.length:=by omega
 refine⟨k,T[k],rfl,hk,List.getElem?_eq_getElem hk,?_⟩
 unfold pC
 rw[if_pos h,Int.toNat_natCast,List.getElem?_eq_getElem hk]
 rfl
theorem eJ.line (h:eJ w base s vt vl V T L) {k:Nat} (hk:k<L.length): ∃v,V[k]? =some v:=⟨_,List.getElem?_eq_getElem (by rw[h.vs];exact hk)⟩
end
def dk:Value:= .agg #[.bool false,.int .u64 0,.int .u8 0,.int .i64 0]
def lQ:Value:= .agg #[.int .i64 0,.slice none 0 0]
def kC (n:Nat):Array Value:=madeCells dk.cells (n*4)
def kL (n:Nat):Array Value:=madeCells lQ.cells (n*2)
theorem sU:(Tryz.prog.info? 133).map (fun i=>(i.zero,i.size,i.bytes))=some (some dk,4,32):=by kernel_rfl
theorem Fq:(Tryz.prog.info? 136).map (fun i=>(i.zero,i.size,i.bytes))=some (some lQ,2,32):=by kernel_rfl
theorem yx (w:World) (l:Int):Calls Tryz.prog 47 #[.int .u8 l] w fun e w'=>e= .returned (.agg #[.bool false,.int .u64 0,.int .u8 l])∧ ∃c,w'=w.alloc (.cells c 130):=by
 go_enter Tryz.func47,Tryz.ntmps47
 go_wp2
 simp[bodyPost,results,Tryz.results47,go_sem]
 exact⟨_,rfl⟩
def qV (n j:Nat):List Th:=List.replicate j ⟨br 0,-1⟩++List.replicate (n-j) ⟨br 0,0⟩
def rX (n j:Nat):List (Int×Value):=List.replicate j (-1,.slice none 0 0)++List.replicate (n-j) (0,.slice none 0 0)
theorem uB {α:Type} (a b:α) (n j:Nat) (h:j<n):(List.replicate j a++List.replicate (n-j) b).set j a=List.replicate (j+1) a++List.replicate (n-(j+1)) b:=by
 rw[List.set_append_right _ _ (by simp),List.length_replicate,Nat.sub_self,show n-j=(n-(j+1))+1 by omega,List.replicate_succ,List.set_cons_zero,List.replicate_succ',List.append_assoc]
 rfl
theorem vv (n j:Nat) (h:j<n):(qV n j).set j ⟨br 0,-1⟩=qV n (j+1):=uB _ _ n j h
theorem uv (n j:Nat) (h:j<n):(rX n j).set j (-1,.slice none 0 0)=rX n (j+1):=uB _ _ n j h
theorem pM (n j:Nat) (h:j≤n):(qV n j).length=n:=by simp[qV];omega
theorem pj (n j:Nat) (h:j≤n):(rX n j).length=n:=by simp[rX];omega
theorem Bw (n:Nat):qV n n=List.replicate n ⟨br 0,-1⟩:=by simp[qV]
theorem Cr (n:Nat):rX n n=List.replicate n (-1,.slice none 0 0):=by simp[rX]
theorem pF (z:Array Value) (N k:Nat) (h:k<N):(madeCells z N).toList[k]? =some (z[k%z.size]!):=by
 simp[madeCells,h]
theorem vE (z:Array Value) (N k:Nat) (h: ¬k<N):(madeCells z N).toList[k]? =none:=by
 rw[List.getElem?_eq_none_iff]
 simp[madeCells]
 omega
theorem vg (n:Nat):(madeCells dk.cells (n*4)).toList=dx (qV n 0):=by
 apply List.ext_getElem?
 intro i
 by_cases h:i<n*4
 ·rw[pF _ _ _ h]
  obtain⟨q,r,rfl,hr⟩: ∃q r,i=q*4+r∧r<4:=⟨i/4,i%4,by omega,by omega⟩
  have hq:q<n:=by omega
  have hx:(qV n 0)[q]? =some ⟨br 0,0⟩:=by simp[qV,hq]
  obtain⟨y0,y1,y2,y3⟩:=iJ _ q _ hx
  have e:dk.cells.size=4:=rfl
  rw[e,show(q*4+r)%4=r by omega]
  rcases(by omega:r=0∨r=1∨r=2∨r=3) with rfl|rfl|rfl|rfl
  ·exact y0.symm
  ·exact y1.symm
  ·exact y2.symm
  ·exact y3.symm
 ·rw[vE _ _ _ h,eq_comm,List.getElem?_eq_none_iff,jb,pM n 0 (by omega)]
  omega
theorem jd: ∀Z,(fJ Z).length=Z.length*2
 |[]=>rfl
 |z::Z=>by rw[ek];simp[jd Z];omega
theorem vH (n:Nat):(madeCells lQ.cells (n*2)).toList=fJ (rX n 0):=by
 apply List.ext_getElem?
 intro i
 by_cases h:i<n*2
 ·rw[pF _ _ _ h]
  obtain⟨q,r,rfl,hr⟩: ∃q r,i=q*2+r∧r<2:=⟨i/2,i%2,by omega,by omega⟩
  have hq:q<n:=by omega
  have hx:(rX n 0)[q]? =some (0,.slice none 0 0):=by simp[rX,hq]
  obtain⟨y0,y1⟩:=iO _ q _ hx
  have e:lQ.cells.size=2:=rfl
  rw[e,show(q*2+r)%2=r by omega]
  rcases(by omega:r=0∨r=1) with rfl|rfl
  ·exact y0.symm
  ·exact y1.symm
 ·rw[vE _ _ _ h,eq_comm,List.getElem?_eq_none_iff,jd,pj n 0 (by omega)]
  omega
theorem iS (w:World) (base g n size:Nat) (e:TypeId) (z:Array Value) (hb:base≤w.heap.size) (hg:base≤g) (h:w.heap[g]? =some (.cells (madeCells z (n*size)) e (0,0))) (hn:n≤maxLen):
  w.ownsRow base e size (.slice (some ⟨g,0,none⟩) n n) n (madeCells z (n*size)).toList:=
 ⟨by simp[size_madeCells],.inr ⟨g,n,_,rfl,hg,h,Nat.le_refl _,hn,by simp[size_madeCells],by rw[List.take_of_length_le];simp[size_madeCells]⟩⟩
structure bN (w wr:World) (s gt gl n m:Nat) (T:List Th) (Z:List (Int×Value)):Prop where
 blk:wr.heap[s]? =some (.cells #[.slice (some ⟨gt,0,none⟩) n n,.slice (some ⟨gl,0,none⟩) m m] 128 (0,0))
 lo:w.heap.size≤s
 tho:wr.ownsRow w.heap.size 133 4 (.slice (some ⟨gt,0,none⟩) n n) n (dx T)
 lko:wr.ownsRow w.heap.size 136 2 (.slice (some ⟨gl,0,none⟩) m m) m (fJ Z)
 tl:T.length=n
 zl:Z.length=m
 be:Below w.heap.size w wr
section
variable {w wr wr':World} {s gt gl n m:Nat} {T:List Th} {Z:List (Int×Value)}
theorem fY (w:World) (o:Obj):(w.alloc o).heap[w.heap.size]? =some o:=by
 show(w.heap.push o)[w.heap.size]? =some o
 simp
theorem GA (w:World) (n m:Nat) (hn:n≤maxLen) (hm:m≤maxLen):bN w (((w.alloc (.cells (kC n) 133)).alloc (.cells (kL m) 136)).alloc (.cells #[.slice (some ⟨w.heap.size,0,none⟩) n n,.slice (some ⟨w.heap.size+1,0,none⟩) m m] 128)) (w.heap.size+1+1) w.heap.size (w.heap.size+1) n m (qV n 0) (rX m 0):=by
 have e1:(w.alloc (.cells (kC n) 133)).heap.size=w.heap.size+1:=by simp
 have e2:((w.alloc (.cells (kC n) 133)).alloc (.cells (kL m) 136)).heap.size=w.heap.size+1+1:=by simp
 refine⟨?_,by omega,?_,?_,pM _ _ (by omega),pj _ _ (by omega),(((Below.refl _ _).alloc (Nat.le_refl _) _).alloc (by omega) _).alloc (by omega) _⟩
 ·rw[←e2];exact fY _ _
 ·rw[←vg]
  refine iS _ _ _ _ _ _ _ (by simp;omega) (Nat.le_refl _) ?_ hn
  rw[Below.heap_alloc _ _ _ (by omega),Below.heap_alloc _ _ _ (by omega)]
  exact fY _ _
 ·rw[←vH]
  refine iS _ _ _ _ _ _ _ (by simp;omega) (by omega) ?_ hm
  rw[Below.heap_alloc _ _ _ (by omega),←e1]
  exact fY _ _
theorem Gg (w:World) (n m:Nat) (hn:n≤maxLen) (hm:m≤maxLen):bN w (((w.alloc (.cells (kL m) 136)).alloc (.cells (kC n) 133)).alloc (.cells #[.slice (some ⟨w.heap.size+1,0,none⟩) n n,.slice (some ⟨w.heap.size,0,none⟩) m m] 128)) (w.heap.size+1+1) (w.heap.size+1) w.heap.size n m (qV n 0) (rX m 0):=by
 have e1:(w.alloc (.cells (kL m) 136)).heap.size=w.heap.size+1:=by simp
 have e2:((w.alloc (.cells (kL m) 136)).alloc (.cells (kC n) 133)).heap.size=w.heap.size+1+1:=by simp
 refine⟨?_,by omega,?_,?_,pM _ _ (by omega),pj _ _ (by omega),(((Below.refl _ _).alloc (Nat.le_refl _) _).alloc (by omega) _).alloc (by omega) _⟩
 ·rw[←e2];exact fY _ _
 ·rw[←vg]
  refine iS _ _ _ _ _ _ _ (by simp;omega) (by omega) ?_ hn
  rw[Below.heap_alloc _ _ _ (by omega),←e1]
  exact fY _ _
 ·rw[←vH]
  refine iS _ _ _ _ _ _ _ (by simp;omega) (Nat.le_refl _) ?_ hm
  rw[Below.heap_alloc _ _ _ (by omega),Below.heap_alloc _ _ _ (by omega)]
  exact fY _ _
theorem bN.drew (h:bN w wr s gt gl n m T Z):bN w wr.drew s gt gl n m T Z:=⟨h.blk,h.lo,h.tho.drew,h.lko.drew,h.tl,h.zl,h.be.drew⟩
theorem bN.GW (h:bN w wr s gt gl n m T Z):s<wr.heap.size∧gt<wr.heap.size∧gl<wr.heap.size∧w.heap.size≤gt∧w.heap.size≤gl∧gt≠s∧gl≠s∧gt≠gl:=by
 obtain⟨a1,a2,ca,a3⟩:=aq h.tho (k:=gt) rfl
 obtain⟨b1,b2,cb,b3⟩:=aq h.lko (k:=gl) rfl
 have h0:=h.blk
 refine⟨(Array.getElem?_eq_some_iff.1 h0).1,a2,b2,a1,b1,fun q=> ?_,fun q=> ?_,fun q=> ?_⟩
 ·rw[q,h0] at a3;simp at a3
 ·rw[q,h0] at b3;simp at b3
 ·rw[q,b3] at a3;simp at a3
theorem bN.on (h:bN w wr s gt gl n m T Z) (hb:Below wr.heap.size wr wr'):bN w wr' s gt gl n m T Z:=by
 obtain⟨l1,l2,l3,_⟩:=h.GW
 refine⟨(hb.block s l1).trans h.blk,h.lo,bJ h.tho ?_,bJ h.lko ?_,h.tl,h.zl,h.be.trans (hb.mono h.be.size)⟩
 ·intro k hk
  simp[Value.ownBlock] at hk
  subst hk
  exact hb.block _ l2
 ·intro k hk
  simp[Value.ownBlock] at hk
  subst hk
  exact hb.block _ l3
theorem bN.c0 (h:bN w wr s gt gl n m T Z):wr.cell? ⟨s,0,none⟩=some (.slice (some ⟨gt,0,none⟩) n n):=by unfold World.cell?;simp[h.blk]
theorem bN.c1 (h:bN w wr s gt gl n m T Z):wr.cell? ⟨s,1,none⟩=some (.slice (some ⟨gl,0,none⟩) m m):=by unfold World.cell?;simp[h.blk]
theorem bN.vM (h:bN w wr s gt gl n m T Z) (j:Nat) (hj:j<n) (x:Th):bN w ((((wr.setCell ⟨gt,j*4,none⟩ (.bool x.k.e)).setCell ⟨gt,j*4+1,none⟩ (.int .u64 x.k.d)).setCell ⟨gt,j*4+2,none⟩ (.int .u8 x.k.l)).setCell ⟨gt,j*4+3,none⟩ (.int .i64 x.u)) s gt gl n m (T.set j x) Z:=by
 obtain⟨l1,l2,l3,l4,l5,l6,l7,l8⟩:=h.GW
 have h1:=aY (aY (aY (aY h.tho (j*4) (by omega) (.bool x.k.e)) (j*4+1) (by omega) (.int .u64 x.k.d)) (j*4+2) (by omega) (.int .u8 x.k.l)) (j*4+3) (by omega) (.int .i64 x.u)
 rw[←nh T j x (by rw[h.tl];exact hj)] at h1
 refine⟨?_,h.lo,h1,bJ h.lko ?_,by simpa using h.tl,h.zl,(((h.be.setCell (p:=⟨gt,j*4,none⟩) l4 _).setCell (p:=⟨gt,j*4+1,none⟩) l4 _).setCell (p:=⟨gt,j*4+2,none⟩) l4 _).setCell (p:=⟨gt,j*4+3,none⟩) l4 _⟩
 ·rw[Below.heap_setCell _ _ _ _ (Ne.symm l6),Below.heap_setCell _ _ _ _ (Ne.symm l6),Below.heap_setCell _ _ _ _ (Ne.symm l6),Below.heap_setCell _ _ _ _ (Ne.symm l6)]
  exact h.blk
 ·intro k hk
  simp[Value.ownBlock] at hk
  subst hk
  rw[Below.heap_setCell _ _ _ _ (Ne.symm l8),Below.heap_setCell _ _ _ _ (Ne.symm l8),Below.heap_setCell _ _ _ _ (Ne.symm l8),Below.heap_setCell _ _ _ _ (Ne.symm l8)]
theorem bN.yG (h:bN w wr s gt gl n m T Z) (j:Nat) (hj:j<m) (z:Int×Value):bN w ((wr.setCell ⟨gl,j*2,none⟩ (.int .i64 z.1)).setCell ⟨gl,j*2+1,none⟩ z.2) s gt gl n m T (Z.set j z):=by
 obtain⟨l1,l2,l3,l4,l5,l6,l7,l8⟩:=h.GW
 have h1:=aY (aY h.lko (j*2) (by omega) (.int .i64 z.1)) (j*2+1) (by omega) z.2
 rw[←mD Z j z (by rw[h.zl];exact hj)] at h1
 refine⟨?_,h.lo,bJ h.tho ?_,h1,h.tl,by simpa using h.zl,(h.be.setCell (p:=⟨gl,j*2,none⟩) l5 _).setCell (p:=⟨gl,j*2+1,none⟩) l5 _⟩
 ·rw[Below.heap_setCell _ _ _ _ (Ne.symm l7),Below.heap_setCell _ _ _ _ (Ne.symm l7)]
  exact h.blk
 ·intro k hk
  simp[Value.ownBlock] at hk
  subst hk
  rw[Below.heap_setCell _ _ _ _ l8,Below.heap_setCell _ _ _ _ l8]
theorem bN.fz (h:bN w wr s gt gl n m T Z):(∀k,wr.frozen? ⟨gt,k,none⟩=false)∧ ∀k,wr.frozen? ⟨gl,k,none⟩=false:=⟨dW h.tho,dW h.lko⟩
theorem bN.F8 (h:bN w wr s gt gl n m T Z) (j:Nat) (hj:j<n): ∃u0 u1 u2 u3,wr.cell? ⟨gt,j*4,none⟩=some u0∧wr.cell? ⟨gt,j*4+1,none⟩=some u1∧wr.cell? ⟨gt,j*4+2,none⟩=some u2∧wr.cell? ⟨gt,j*4+3,none⟩=some u3:=by
 have e:T[j]? =some _:=List.getElem?_eq_getElem (by rw[h.tl];exact hj)
 obtain⟨y0,y1,y2,y3⟩:=iJ T j _ e
 exact⟨_,_,_,_,(h.tho.cellAt (j*4) (by omega)).trans y0,(h.tho.cellAt (j*4+1) (by omega)).trans y1,(h.tho.cellAt (j*4+2) (by omega)).trans y2,(h.tho.cellAt (j*4+3) (by omega)).trans y3⟩
theorem bN.DT (h:bN w wr s gt gl n m T Z) (j:Nat) (hj:j<m): ∃u0 u1,wr.cell? ⟨gl,j*2,none⟩=some u0∧wr.cell? ⟨gl,j*2+1,none⟩=some u1:=by
 have e:Z[j]? =some _:=List.getElem?_eq_getElem (by rw[h.zl];exact hj)
 obtain⟨y0,y1⟩:=iO Z j _ e
 exact⟨_,_,(h.lko.cellAt (j*2) (by omega)).trans y0,(h.lko.cellAt (j*2+1) (by omega)).trans y1⟩
theorem bN.AO (h:bN w wr s gt gl n m T Z) (j:Nat) (hj:j<n): ∃u0 u1 u2 u3,∀o,(wr.alloc o).cell? ⟨gt,j*4,none⟩=some u0∧(wr.alloc o).cell? ⟨gt,j*4+1,none⟩=some u1∧(wr.alloc o).cell? ⟨gt,j*4+2,none⟩=some u2∧(wr.alloc o).cell? ⟨gt,j*4+3,none⟩=some u3:=by
 obtain⟨u0,u1,u2,u3,y0,y1,y2,y3⟩:=h.F8 j hj
 have l2:=h.GW.2.1
 refine⟨u0,u1,u2,u3,fun o=> ?_⟩
 have hb:Below wr.heap.size wr (wr.alloc o):=(Below.refl _ _).alloc (Nat.le_refl _) o
 exact⟨(hb.cell (p:=⟨gt,j*4,none⟩) l2).trans y0,(hb.cell (p:=⟨gt,j*4+1,none⟩) l2).trans y1,(hb.cell (p:=⟨gt,j*4+2,none⟩) l2).trans y2,(hb.cell (p:=⟨gt,j*4+3,none⟩) l2).trans y3⟩
end
theorem C7 (n m:Nat) (w:World) (h1:1≤n) (h2:n≤1024) (h3:m≤32):
  Calls Tryz.prog 28 #[.int .i64 n,.int .i64 m] w fun e w'=> ∃s gt gl,e= .returned (.pointer (some ⟨s,0,none⟩))∧bN w w' s gt gl n m (qV n n) (rX m m):=by
 obtain⟨i0,hi0,hz0,hz1,hz2⟩:=info_parts sU
 obtain⟨j0,hj0,hy0,hy1,hy2⟩:=info_parts Fq
 have hmk: ∀w,(Instr.makeSlice 125 (.int .i64 (n:Int)) (.int .i64 (n:Int))).run Tryz.prog w= .ok (.slice (some ⟨w.heap.size,0,none⟩) n n) (w.alloc (.cells (kC n) 133)):=by
  intro w
  have:=run_make w 125 133 i0 dk Tryz.underlying125 hi0 hz0 .i64 .i64 (n:Int) (n:Int) (by omega) (by omega) (by rw[hz2];omega) (by omega)
  rw[hz1,show(n:Int).toNat=n by omega] at this
  exact this
 have hml: ∀w,(Instr.makeSlice 126 (.int .i64 (m:Int)) (.int .i64 (m:Int))).run Tryz.prog w= .ok (.slice (some ⟨w.heap.size,0,none⟩) m m) (w.alloc (.cells (kL m) 136)):=by
  intro w
  have:=run_make w 126 136 j0 lQ Tryz.underlying126 hj0 hy0 .i64 .i64 (m:Int) (m:Int) (by omega) (by omega) (by rw[hy2];omega) (by omega)
  rw[hy1,show(m:Int).toNat=m by omega] at this
  exact this
 have e1: ¬(n:Int)<1:=by omega
 have e2: ¬(1024:Int)<(n:Int):=by omega
 have e3: ¬(m:Int)<0:=by omega
 have e4: ¬(32:Int)<(m:Int):=by omega
 have hnm:n≤maxLen∧m≤maxLen:=⟨by simp[maxLen];omega,by simp[maxLen];omega⟩
 have HSA:=aa (GA w n m hnm.1 hnm.2)
 have HSB:=aa (Gg w n m hnm.1 hnm.2)
 have HF:=aa (fun w=>yx w 0)
 clear hi0 hz0 hz1 hz2 hj0 hy0 hy1 hy2 hnm
 go_enter Tryz.func28,Tryz.ntmps28
 go_wp2
 go_region_held3 (fun w'=>True) (simp[go_sem]) (first|fail)
 all_goals go_wp2
 ·replace HSA:=HSA
  clear HSB
  go_loopw [33] (fun i wr=> ∃(j:Nat),j≤n∧i= .int .i64 j∧bN w wr (w.heap.size+1+1) (w.heap.size) (w.heap.size+1) n m (qV n j) (rX m 0)) (fun i _=>n-(intOf i).toNat)
  case atStart=>exact⟨0,by omega,rfl,HSA.out.drew⟩
  case round=>
   obtain⟨j,hj,rfl,hB⟩:=hrel
   by_cases hjl:j<n
   ·have hjl':(j:Int)<(n:Int):=by omega
    have c0:=hB.c0
    have ca: ∀o,(wr.alloc o).cell? ⟨w.heap.size+1+1,0,none⟩=some (.slice (some ⟨w.heap.size,0,none⟩) n n):=fun o=>(hB.on ((Below.refl _ _).alloc (Nat.le_refl _) o)).c0
    have cr:wr.drew.cell? ⟨w.heap.size+1+1,0,none⟩=some (.slice (some ⟨w.heap.size,0,none⟩) n n):=hB.drew.c0
    have cd: ∀o,(wr.alloc o).drew.cell? ⟨w.heap.size+1+1,0,none⟩=some (.slice (some ⟨w.heap.size,0,none⟩) n n):=fun o=>(hB.on ((Below.refl _ _).alloc (Nat.le_refl _) o)).drew.c0
    have cs: ∀o,(((((wr.alloc o).setCell ⟨w.heap.size,j*4,none⟩ (.bool false)).setCell ⟨w.heap.size,j*4+1,none⟩ (.int .u64 0)).setCell ⟨w.heap.size,j*4+2,none⟩ (.int .u8 0)).setCell ⟨w.heap.size,j*4+3,none⟩ (.int .i64 (-1))).drew.cell? ⟨w.heap.size+1+1,0,none⟩=some (.slice (some ⟨w.heap.size,0,none⟩) n n):=fun o=>((hB.on ((Below.refl _ _).alloc (Nat.le_refl _) o)).vM j hjl ⟨br 0,-1⟩).drew.c0
    have fz: ∀o k,(wr.alloc o).frozen? ⟨w.heap.size,k,none⟩=false:=fun o k=>(hB.on ((Below.refl _ _).alloc (Nat.le_refl _) o)).fz.1 k
    obtain⟨u0,u1,u2,u3,hu⟩:=hB.AO j hjl
    have z0:=fun o=>(hu o).1
    have z1:=fun o=>(hu o).2.1
    have z2:=fun o=>(hu o).2.2.1
    have z3:=fun o=>(hu o).2.2.2
    have HB:=aa hB
    clear hB hu
    go_wp2
    go_region_held3 (fun w'=>w'.cell? ⟨w.heap.size+1+1,0,none⟩=some (.slice (some ⟨w.heap.size,0,none⟩) n n))
     (first|with_reducible exact c0|with_reducible exact cr|with_reducible exact ca _|with_reducible exact cd _|with_reducible exact cs _)
     (first|(go_at_call 47;refine(HF.out _).mono ?_;rintro e w1 ⟨rfl,c,rfl⟩))
    all_goals go_wp2
    all_goals go_roundw
    case rel=>
     refine⟨j+1,by omega,by go_num,?_⟩
     rw[←vv n j hjl]
     exact((HB.out.on ((Below.refl _ _).alloc (Nat.le_refl _) _)).vM j hjl ⟨br 0,-1⟩).drew
    case measure=>simp[intOf];omega
   ·have hjl': ¬(j:Int)<(n:Int):=by omega
    obtain rfl:j=n:=by omega
    have c1:=hB.c1
    have HB:=aa hB
    clear hB
    go_wp2
    go_loopw [50] (fun i wr=> ∃(k:Nat),k≤m∧i= .int .i64 k∧bN w wr (w.heap.size+1+1) (w.heap.size) (w.heap.size+1) j m (qV j j) (rX m k)) (fun i _=>m-(intOf i).toNat)
    case atStart=>exact⟨0,by omega,rfl,HB.out⟩
    case round=>
     obtain⟨k,hk,rfl,hB⟩:=hrel
     by_cases hkl:k<m
     ·have hkl':(k:Int)<(m:Int):=by omega
      have c1:=hB.c1
      have fz:=hB.fz.2
      obtain⟨u0,u1,z0,z1⟩:=hB.DT k hkl
      have HB:=aa hB
      clear hB
      go_wp2
      go_roundw
      case rel=>
       refine⟨k+1,by omega,by go_num,?_⟩
       rw[←uv m k hkl]
       exact HB.out.yG k hkl (-1,.slice none 0 0)
      case measure=>simp[intOf];omega
     ·have hkl': ¬(k:Int)<(m:Int):=by omega
      obtain rfl:k=m:=by omega
      have HB:=aa hB
      clear hB
      go_wp2
      go_ret
      exact⟨_,rfl,_,_,HB.out⟩
 ·replace HSA:=HSB
  go_loopw [33] (fun i wr=> ∃(j:Nat),j≤n∧i= .int .i64 j∧bN w wr (w.heap.size+1+1) (w.heap.size+1) (w.heap.size) n m (qV n j) (rX m 0)) (fun i _=>n-(intOf i).toNat)
  case atStart=>exact⟨0,by omega,rfl,HSA.out.drew⟩
  case round=>
   obtain⟨j,hj,rfl,hB⟩:=hrel
   by_cases hjl:j<n
   ·have hjl':(j:Int)<(n:Int):=by omega
    have c0:=hB.c0
    have ca: ∀o,(wr.alloc o).cell? ⟨w.heap.size+1+1,0,none⟩=some (.slice (some ⟨w.heap.size+1,0,none⟩) n n):=fun o=>(hB.on ((Below.refl _ _).alloc (Nat.le_refl _) o)).c0
    have cr:wr.drew.cell? ⟨w.heap.size+1+1,0,none⟩=some (.slice (some ⟨w.heap.size+1,0,none⟩) n n):=hB.drew.c0
    have cd: ∀o,(wr.alloc o).drew.cell? ⟨w.heap.size+1+1,0,none⟩=some (.slice (some ⟨w.heap.size+1,0,none⟩) n n):=fun o=>(hB.on ((Below.refl _ _).alloc (Nat.le_refl _) o)).drew.c0
    have cs: ∀o,(((((wr.alloc o).setCell ⟨w.heap.size+1,j*4,none⟩ (.bool false)).setCell ⟨w.heap.size+1,j*4+1,none⟩ (.int .u64 0)).setCell ⟨w.heap.size+1,j*4+2,none⟩ (.int .u8 0)).setCell ⟨w.heap.size+1,j*4+3,none⟩ (.int .i64 (-1))).drew.cell? ⟨w.heap.size+1+1,0,none⟩=some (.slice (some ⟨w.heap.size+1,0,none⟩) n n):=fun o=>((hB.on ((Below.refl _ _).alloc (Nat.le_refl _) o)).vM j hjl ⟨br 0,-1⟩).drew.c0
    have fz: ∀o k,(wr.alloc o).frozen? ⟨w.heap.size+1,k,none⟩=false:=fun o k=>(hB.on ((Below.refl _ _).alloc (Nat.le_refl _) o)).fz.1 k
    obtain⟨u0,u1,u2,u3,hu⟩:=hB.AO j hjl
    have z0:=fun o=>(hu o).1
    have z1:=fun o=>(hu o).2.1
    have z2:=fun o=>(hu o).2.2.1
    have z3:=fun o=>(hu o).2.2.2
    have HB:=aa hB
    clear hB hu
    go_wp2
    go_region_held3 (fun w'=>w'.cell? ⟨w.heap.size+1+1,0,none⟩=some (.slice (some ⟨w.heap.size+1,0,none⟩) n n))
     (first|with_reducible exact c0|with_reducible exact cr|with_reducible exact ca _|with_reducible exact cd _|with_reducible exact cs _)
     (first|(go_at_call 47;refine(HF.out _).mono ?_;rintro e w1 ⟨rfl,c,rfl⟩))
    all_goals go_wp2
    all_goals go_roundw
    case rel=>
     refine⟨j+1,by omega,by go_num,?_⟩
     rw[←vv n j hjl]
     exact((HB.out.on ((Below.refl _ _).alloc (Nat.le_refl _) _)).vM j hjl ⟨br 0,-1⟩).drew
    case measure=>simp[intOf];omega
   ·have hjl': ¬(j:Int)<(n:Int):=by omega
    obtain rfl:j=n:=by omega
    have c1:=hB.c1
    have HB:=aa hB
    clear hB
    go_wp2
    go_loopw [50] (fun i wr=> ∃(k:Nat),k≤m∧i= .int .i64 k∧bN w wr (w.heap.size+1+1) (w.heap.size+1) (w.heap.size) j m (qV j j) (rX m k)) (fun i _=>m-(intOf i).toNat)
    case atStart=>exact⟨0,by omega,rfl,HB.out⟩
    case round=>
     obtain⟨k,hk,rfl,hB⟩:=hrel
     by_cases hkl:k<m
     ·have hkl':(k:Int)<(m:Int):=by omega
      have c1:=hB.c1
      have fz:=hB.fz.2
      obtain⟨u0,u1,z0,z1⟩:=hB.DT k hkl
      have HB:=aa hB
      clear hB
      go_wp2
      go_roundw
      case rel=>
       refine⟨k+1,by omega,by go_num,?_⟩
       rw[←uv m k hkl]
       exact HB.out.yG k hkl (-1,.slice none 0 0)
      case measure=>simp[intOf];omega
     ·have hkl': ¬(k:Int)<(m:Int):=by omega
      obtain rfl:k=m:=by omega
      have HB:=aa hB
      clear hB
      go_wp2
      go_ret
      exact⟨_,rfl,_,_,HB.out⟩
def tU (n:Nat):List Th:=List.replicate n ⟨br 0,-1⟩
def rm (m:Nat):List Lk:=List.replicate m ⟨-1,[]⟩
theorem yy (n m:Nat) (h1:1≤n) (h2:n≤1024) (h3:m≤32):lX (tU n) (rm m):=by
 refine⟨by simpa [tU] using h1,by simpa [tU] using h2,by simpa [rm] using h3,?_,?_,?_,?_⟩
 ·intro x hx
  obtain rfl:=List.eq_of_mem_replicate hx
  refine⟨⟨⟨by decide,by decide⟩,by decide,by decide⟩,by decide,?_⟩
  show(-1:Int)<_
  omega
 ·intro y hy
  obtain rfl:=List.eq_of_mem_replicate hy
  refine⟨by decide,?_,by simp,by simp,by simp⟩
  show(-1:Int)<_
  omega
 ·intro t x hx m' y hy
  obtain rfl:=List.eq_of_mem_replicate (List.mem_of_getElem? hx)
  obtain rfl:=List.eq_of_mem_replicate (List.mem_of_getElem? hy)
  simp
 ·refine⟨0,fun _=>0,fun _=>Nat.le_refl _,?_⟩
  rintro t s ⟨y,hy,ht,_⟩
  obtain rfl:=List.eq_of_mem_replicate hy
  simp at ht
section
variable {w w':World} {base s:Nat} {vt vl:Value} {V:List Value} {T:List Th} {L:List Lk}
theorem eJ.new {gt gl n m:Nat} (h:bN w w' s gt gl n m (qV n n) (rX m m)) (h1:1≤n) (h2:n≤1024) (h3:m≤32):
  eJ w' w.heap.size s (.slice (some ⟨gt,0,none⟩) n n) (.slice (some ⟨gl,0,none⟩) m m) (List.replicate m (.slice none 0 0)) (tU n) (rm m):=by
 have e1:(tU n).length=n:=by simp[tU]
 have e2:(rm m).length=m:=by simp[rm]
 have e3:((rm m).map (·.h)).zip (List.replicate m (Value.slice none 0 0))=List.replicate m (-1,Value.slice none 0 0):=by
  simp[rm,List.map_replicate]
 have ht:=h.tho
 have hl:=h.lko
 rw[Bw] at ht
 rw[Cr] at hl
 refine⟨h.blk,h.lo,by rw[e1];exact ht,by rw[e2,e3];exact hl,by rw[e2];simp,?_,?_,h.be.size,yy n m h1 h2 h3⟩
 ·intro j y v hy hv
  obtain rfl:=List.eq_of_mem_replicate (List.mem_of_getElem? hy)
  obtain rfl:=List.eq_of_mem_replicate (List.mem_of_getElem? hv)
  exact World.ownsRow_nil _ _ _ _
 ·intro i j u v k hu hv hk
  obtain rfl:=List.eq_of_mem_replicate (List.mem_of_getElem? hu)
  simp[Value.ownBlock] at hk
theorem nG: ∀(T:List Th) (i:Nat) (x:Th) (k:K),T[i]? =some x→dx (T.set i ⟨k,x.u⟩)=(((dx T).set (i*4) (.bool k.e)).set (i*4+1) (.int .u64 k.d)).set (i*4+2) (.int .u8 k.l)
 |[],i,x,k,h=>by simp at h
 |y::T,0,x,k,h=>by
  simp at h
  subst h
  simp[cL,As]
 |y::T,i+1,x,k,h=>by
  have:=nG T i x k (by simpa using h)
  rw[List.set_cons_succ,cL,this,cL,show(i+1)*4=i*4+4 by omega]
  rfl
theorem lX.uF (f:lX T L) {j:Nat} {x:Th} (hx:T[j]? =some x) {k:K} (hk:k.ok):lX (T.set j ⟨k,x.u⟩) L:=by
 refine⟨by simpa using f.t1,by simpa using f.t2,f.l2,?_,by simpa using f.lk,?_,f.ac⟩
 ·intro y hy
  rcases List.mem_or_eq_of_mem_set hy with q|q
  ·exact f.th y q
  ·rw[q]
   exact⟨hk,(f.th x (List.mem_of_getElem? hx)).2⟩
 ·intro t y hy m z hz
  rw[List.getElem?_set] at hy
  by_cases q:j=t
  ·subst q
   have hj:=(List.getElem?_eq_some_iff.1 hx).1
   rw[if_pos rfl,if_pos hj] at hy
   obtain rfl:=Option.some.inj hy
   exact f.wt j x hx m z hz
  ·rw[if_neg q] at hy
   exact f.wt t y hy m z hz
theorem eJ.blocks (h:eJ w base s vt vl V T L) {g:Nat} (hg:vt.ownBlock=some g):g≠s∧vl.ownBlock≠some g∧ ∀v∈V,v.ownBlock≠some g:=by
 obtain⟨_,_,c,e⟩:=aq h.tho hg
 refine⟨fun q=> ?_,fun q=> ?_,fun v hv q=> ?_⟩
 ·rw[q,h.blk] at e;simp at e
 ·obtain⟨_,_,c',e'⟩:=aq h.lko q
  rw[e] at e';simp at e'
 ·obtain⟨j,hj⟩:=List.mem_iff_getElem?.1 hv
  have hjl:=(List.getElem?_eq_some_iff.1 hj).1
  rw[h.vs] at hjl
  obtain⟨_,_,c',e'⟩:=aq (h.lin j _ v (List.getElem?_eq_getElem hjl) hj) q
  rw[e] at e';simp at e'
theorem eJ.vM (h:eJ w base s vt vl V T L) {g:Nat} (hg:vt.ownBlock=some g) {T':List Th} (h0:w'.heap.size=w.heap.size) (h1: ∀k,k≠g→w'.heap[k]? =w.heap[k]?)
  (ht:w'.ownsRow base 133 4 vt T'.length (dx T')) (f:lX T' L):eJ w' base s vt vl V T' L:=by
 obtain⟨b1,b2,b3⟩:=h.blocks hg
 exact⟨(h1 s (Ne.symm b1)).trans h.blk,h.lo,ht,bJ h.lko (fun k hk=>h1 k (fun q=>b2 (by rw[hk,q]))),h.vs,
  fun j y v hy hv=>bJ (h.lin j y v hy hv) (fun k hk=>h1 k (fun q=>b3 v (List.mem_of_getElem? hv) (by rw[hk,q]))),h.apart,by rw[h0];exact h.bs,f⟩
theorem eJ.uF {g cap:Nat} (h:eJ w base s (.slice (some ⟨g,0,none⟩) T.length cap) vl V T L) {j:Nat} {x:Th} (hx:T[j]? =some x) {k:K} (hk:k.ok):
  eJ (((w.setCell ⟨g,j*4,none⟩ (.bool k.e)).setCell ⟨g,j*4+1,none⟩ (.int .u64 k.d)).setCell ⟨g,j*4+2,none⟩ (.int .u8 k.l)) base s (.slice (some ⟨g,0,none⟩) T.length cap) vl V (T.set j ⟨k,x.u⟩) L:=by
 have hj:=(List.getElem?_eq_some_iff.1 hx).1
 refine h.vM (g:=g) rfl (by simp) (fun b hb=> ?_) ?_ (h.f.uF hx hk)
 ·rw[Below.heap_setCell _ _ _ _ hb,Below.heap_setCell _ _ _ _ hb,Below.heap_setCell _ _ _ _ hb]
 ·rw[nG T j x k hx,List.length_set]
  exact aY (aY (aY h.tho (j*4) (by omega) _) (j*4+1) (by omega) _) (j*4+2) (by omega) _
theorem vF (h:eJ w base s vt vl V T L) (t:Int) (k:K) (hn:oN T t=false∨aB k=false):Calls Tryz.prog 81 #[.pointer (some ⟨s,0,none⟩),.int .i64 t,.agg #[.bool k.e,.int .u64 k.d,.int .u8 k.l]] w fun e w'=>e= .returned (.int .i64 2)∧Below w.heap.size w w':=by
 have HT:=aa (fun w' (hb:Below w.heap.size w w')=>vr (h.below hb) t)
 have HR:=aa (fun w=>de w k)
 cases ht:oN T t with
 |false=>
  simp only[ht] at HT
  clear h hn ht
  go_enter Tryz.func81,Tryz.ntmps81
  go_wp2_with (go_at_call 111;refine(HT.out _ (by first|exact Below.refl _ _|exact(Below.refl _ _).alloc (Nat.le_refl _) _)).mono ?_;rintro e w1 ⟨rfl,hw⟩;replace hw:=hw.symm;subst hw)
  go_ret
  exact⟨rfl,by first|exact Below.refl _ _|exact(Below.refl _ _).alloc (Nat.le_refl _) _⟩
 |true=>
  have hr:aB k=false:=by
   rcases hn with q|q
   ·rw[ht] at q;simp at q
   ·exact q
  simp only[ht] at HT
  simp only[hr] at HR
  clear h hn ht hr
  go_enter Tryz.func81,Tryz.ntmps81
  go_wp2_with (first
   |(go_at_call 111;refine(HT.out _ (by first|exact Below.refl _ _|exact(Below.refl _ _).alloc (Nat.le_refl _) _)).mono ?_;rintro e w1 ⟨rfl,hw⟩;subst hw)
   |(go_at_call 112;refine(HR.out _).mono ?_;rintro e w1 ⟨rfl,hb1⟩))
  go_ret
  exact⟨rfl,((Below.refl _ _).alloc (Nat.le_refl _) _).trans (hb1.mono (by simp))⟩
theorem eJ.drew (h:eJ w base s vt vl V T L):eJ w.drew base s vt vl V T L:=⟨h.blk,h.lo,h.tho.drew,h.lko.drew,h.vs,fun j y v a b=>(h.lin j y v a b).drew,h.apart,h.bs,h.f⟩
theorem Fr.drew {S:Nat→Prop} (h:Fr S w w'):Fr S w w'.drew:=⟨h.os,h.tape,h.output,h.size,h.block⟩
theorem yR (h:eJ w base s vt vl V T L) (j:Nat) (x:Th) (hx:T[j]? =some x) (k:K) (hk:k.ok) (hr:aB k=true):Calls Tryz.prog 81 #[.pointer (some ⟨s,0,none⟩),.int .i64 (j:Int),.agg #[.bool k.e,.int .u64 k.d,.int .u8 k.l]] w fun e w'=>e= .returned (.int .i64 0)∧eJ w' base s vt vl V (T.set j ⟨k,x.u⟩) L∧Fr (fun b=>vt.ownBlock=some b) w w':=by
 have hj:=(List.getElem?_eq_some_iff.1 hx).1
 have hj':(j:Int)<(T.length:Int):=by omega
 have HT:=aa (fun w' (hb:Below w.heap.size w w')=>vr (h.below hb) (j:Int))
 have ht:oN T (j:Int)=true:=by unfold oN;simp;omega
 have HR:=aa (fun w=>de w k)
 simp only[ht] at HT
 simp only[hr] at HR
 obtain⟨g,cap,rfl,hc1,hc2,_⟩:=h.xU
 have HG:Hid (∀w1,Below (w.alloc (.cells #[.bool k.e,.int .u64 k.d,.int .u8 k.l] 130)).heap.size (w.alloc (.cells #[.bool k.e,.int .u64 k.d,.int .u8 k.l] 130)) w1→
   w1.cell? ⟨s,0,none⟩=some (.slice (some ⟨g,0,none⟩) T.length cap)∧w1.cell? ⟨w.heap.size,0,none⟩=some (.bool k.e)∧w1.cell? ⟨w.heap.size,1,none⟩=some (.int .u64 k.d)∧w1.cell? ⟨w.heap.size,2,none⟩=some (.int .u8 k.l)∧
   (∀o,w1.frozen? ⟨g,o,none⟩=false)∧w1.cell? ⟨g,j*4,none⟩=some (.bool x.k.e)∧w1.cell? ⟨g,j*4+1,none⟩=some (.int .u64 x.k.d)∧w1.cell? ⟨g,j*4+2,none⟩=some (.int .u8 x.k.l)∧
   ((((w1.setCell ⟨g,j*4,none⟩ (.bool k.e)).setCell ⟨g,j*4+1,none⟩ (.int .u64 k.d)).setCell ⟨g,j*4+2,none⟩ (.int .u8 k.l)).drew.cell? ⟨s,0,none⟩=some (.slice (some ⟨g,0,none⟩) T.length cap)∧(((w1.setCell ⟨g,j*4,none⟩ (.bool k.e)).setCell ⟨g,j*4+1,none⟩ (.int .u64 k.d)).setCell ⟨g,j*4+2,none⟩ (.int .u8 k.l)).drew.cell? ⟨w.heap.size,0,none⟩=some (.bool k.e)∧(((w1.setCell ⟨g,j*4,none⟩ (.bool k.e)).setCell ⟨g,j*4+1,none⟩ (.int .u64 k.d)).setCell ⟨g,j*4+2,none⟩ (.int .u8 k.l)).drew.cell? ⟨w.heap.size,1,none⟩=some (.int .u64 k.d)∧(((w1.setCell ⟨g,j*4,none⟩ (.bool k.e)).setCell ⟨g,j*4+1,none⟩ (.int .u64 k.d)).setCell ⟨g,j*4+2,none⟩ (.int .u8 k.l)).drew.cell? ⟨w.heap.size,2,none⟩=some (.int .u8 k.l))∧
   eJ (((w1.setCell ⟨g,j*4,none⟩ (.bool k.e)).setCell ⟨g,j*4+1,none⟩ (.int .u64 k.d)).setCell ⟨g,j*4+2,none⟩ (.int .u8 k.l)) base s (.slice (some ⟨g,0,none⟩) T.length cap) vl V (T.set j ⟨k,x.u⟩) L∧
   Fr (fun b=>(Value.slice (some ⟨g,0,none⟩) T.length cap).ownBlock=some b) w (((w1.setCell ⟨g,j*4,none⟩ (.bool k.e)).setCell ⟨g,j*4+1,none⟩ (.int .u64 k.d)).setCell ⟨g,j*4+2,none⟩ (.int .u8 k.l))):=by
  intro w1 hb
  have hb0:Below w.heap.size w (w.alloc (.cells #[.bool k.e,.int .u64 k.d,.int .u8 k.l] 130)):=(Below.refl _ _).alloc (Nat.le_refl _) _
  have hb2:Below w.heap.size w w1:=hb0.trans (hb.mono hb0.size)
  have h1:=h.below hb2
  obtain⟨g',cap',e,_,_,_,_,hf,hc⟩:=h1.xU
  simp at e
  obtain⟨rfl,rfl⟩:=e
  obtain⟨y0,y1,y2,y3⟩:=hc j x hx
  obtain⟨z0,z1,z2⟩:=pO w k 130
  have hg:=(aq h.tho (k:=g) rfl).2.1
  have hgne:w.heap.size≠g:=by omega
  have hS: ∀u:Nat,(((w1.setCell ⟨g,j*4,none⟩ (.bool k.e)).setCell ⟨g,j*4+1,none⟩ (.int .u64 k.d)).setCell ⟨g,j*4+2,none⟩ (.int .u8 k.l)).drew.heap[w.heap.size]? =w1.heap[w.heap.size]? :=fun _=>by
   show(((w1.setCell ⟨g,j*4,none⟩ (.bool k.e)).setCell ⟨g,j*4+1,none⟩ (.int .u64 k.d)).setCell ⟨g,j*4+2,none⟩ (.int .u8 k.l)).heap[w.heap.size]? =_
   rw[Below.heap_setCell _ _ _ _ hgne,Below.heap_setCell _ _ _ _ hgne,Below.heap_setCell _ _ _ _ hgne]
  have hlt:w.heap.size<(w.alloc (.cells #[.bool k.e,.int .u64 k.d,.int .u8 k.l] 130)).heap.size:=by simp
  refine⟨h1.c0,(hb.cell (p:=⟨w.heap.size,0,none⟩) hlt).trans z0,(hb.cell (p:=⟨w.heap.size,1,none⟩) hlt).trans z1,(hb.cell (p:=⟨w.heap.size,2,none⟩) hlt).trans z2,hf,y0,y1,y2,?_,h1.uF hx hk,?_⟩
  ·refine⟨(h1.uF hx hk).drew.c0,?_,?_,?_⟩
   ·exact(World.cell?_of_block (hS 0)).trans ((hb.cell (p:=⟨w.heap.size,0,none⟩) hlt).trans z0)
   ·exact(World.cell?_of_block (hS 0)).trans ((hb.cell (p:=⟨w.heap.size,1,none⟩) hlt).trans z1)
   ·exact(World.cell?_of_block (hS 0)).trans ((hb.cell (p:=⟨w.heap.size,2,none⟩) hlt).trans z2)
  exact(((Fr.aE (S:=fun b=>(Value.slice (some ⟨g,0,none⟩) T.length cap).ownBlock=some b) hb2).setCell (a:=⟨g,j*4,none⟩) rfl _).setCell (a:=⟨g,j*4+1,none⟩) rfl _).setCell (a:=⟨g,j*4+2,none⟩) rfl _
 clear h hr ht hx hk
 go_enter Tryz.func81,Tryz.ntmps81
 go_wp2_with (first
  |(go_at_call 111;refine(HT.out _ (by first|exact Below.refl _ _|exact(Below.refl _ _).alloc (Nat.le_refl _) _)).mono ?_;rintro e w1 ⟨rfl,hw⟩;subst hw)
  |(go_at_call 112;refine(HR.out _).mono ?_;rintro e w1 ⟨rfl,hb1⟩;obtain⟨c0,k0,k1,k2,fz,y0,y1,y2,hSS,hI,hF⟩:=HG.out w1 hb1;replace hI:=aa hI;replace hF:=aa hF;clear hb1))
 have hS1:=aa (And.intro c0 (And.intro k0 (And.intro k1 k2)))
 have hS2:Hid (w1.drew.cell? ⟨s,0,none⟩=some (.slice (some ⟨g,0,none⟩) T.length cap)∧w1.drew.cell? ⟨w.heap.size,0,none⟩=some (.bool k.e)∧w1.drew.cell? ⟨w.heap.size,1,none⟩=some (.int .u64 k.d)∧w1.drew.cell? ⟨w.heap.size,2,none⟩=some (.int .u8 k.l)):=⟨c0,k0,k1,k2⟩
 replace hSS:=aa hSS
 go_region_held3 (fun w'=>(w'.cell? ⟨s,0,none⟩=some (.slice (some ⟨g,0,none⟩) T.length cap)∧w'.cell? ⟨w.heap.size,0,none⟩=some (.bool k.e)∧w'.cell? ⟨w.heap.size,1,none⟩=some (.int .u64 k.d)∧w'.cell? ⟨w.heap.size,2,none⟩=some (.int .u8 k.l)))
  (first|with_reducible exact hS1.out|with_reducible exact hS2.out|with_reducible exact hSS.out)
  (first|fail)
 all_goals go_wp2
 all_goals go_ret
 all_goals exact⟨rfl,hI.out.drew,hF.out.drew⟩
end
end Go.Proofs.YtdbailcdlngemaaGreatDoor.Pi
namespace Go.Proofs.YtdbailcdlngemaaGreatDoor.Pi
open Go.Proofs.YtdbailcdlngemaaGreatDoor.Ke
open Go.Shelf
open Go.RowKit hiding Hid
attribute [local go_sem] Oper.semAt_some
structure IE (W:World) (s:Nat) (a:Option Addr) (cap:Nat) (L:List Lk):Prop where
 c1:W.cell? ⟨s,1,none⟩=some (.slice a L.length cap)
 le:L.length≤cap∧cap≤maxLen
 ce: ∀(j:Nat) y,L[j]? =some y→ ∃g va vn vc,a=some ⟨g,0,none⟩∧W.cell? ⟨g,j*2,none⟩=some (.int .i64 y.h)∧W.cell? ⟨g,j*2+1,none⟩=some (.slice va vn vc)
theorem eJ.Is {w:World} {base s:Nat} {vt vl:Value} {V:List Value} {T:List Th} {L:List Lk} (h:eJ w base s vt vl V T L): ∃a cap,vl= .slice a L.length cap∧IE w s a cap L:=by
 obtain⟨a,cap,rfl,h1,h2⟩:=lK h.lko
 refine⟨a,cap,rfl,h.c1,⟨h1,h2⟩,fun j y hy=> ?_⟩
 have hj:=(List.getElem?_eq_some_iff.1 hy).1
 obtain⟨v,hv⟩:=h.line hj
 obtain⟨g,cap',e,_,_,_,_,_,hc⟩:=h.DB (by omega)
 simp at e
 obtain⟨y0,y1⟩:=hc j y v hy hv
 obtain⟨va,vc,rfl,_⟩:=lK (h.lin j y v hy hv)
 exact⟨g,va,_,vc,e.1,y0,y1⟩
theorem CZ (nn s:Nat) (t:Int) (w:World):
  CallsIn Fence.wide nn Tryz.prog 160 #[.pointer (some ⟨s,0,none⟩),.int .i64 t] w fun e w'=>e= .returned (.func (.func 189) #[] #[.pointer (some ⟨w.heap.size,0,none⟩),.pointer (some ⟨w.heap.size+1,0,none⟩)])∧
   w'=(w.alloc (.cells #[.pointer (some ⟨s,0,none⟩)] 86)).alloc (.cells #[.int .i64 t] 3):=by
 refine callsIn_of_wp Tryz.func160 rfl trivial ?_ rfl
 simp only[Tryz.ntmps160,List.size_toArray,List.length_cons,List.length_nil,Nat.reduceAdd,Nat.reduceSub,Array.replicate_succ,Array.replicate_zero,List.push_toArray,List.append_toArray,List.nil_append,List.cons_append]
 gi_wp2
 go_ret
 exact⟨by simp,rfl⟩
theorem pK {w:World} {base base':Nat} {e:TypeId} {size:Nat} {v:Value} {n:Nat} {xs:List Value} (h:w.ownsRow base e size v n xs) (hb: ∀k,v.ownBlock=some k→base'≤k):w.ownsRow base' e size v n xs:=by
 refine⟨h.1,?_⟩
 rcases h.2 with q|⟨g,cap,cur,e1,h0,rest⟩
 ·exact .inl q
 ·exact .inr ⟨g,cap,cur,e1,hb g (by rw[e1];rfl),rest⟩
section
variable {w:World} {base s:Nat} {vt vl:Value} {V:List Value} {T:List Th} {L:List Lk}
end
structure F0 (W:World) (s g cap:Nat) (T:List Th):Prop where
 c0:W.cell? ⟨s,0,none⟩=some (.slice (some ⟨g,0,none⟩) T.length cap)
 le:T.length≤cap∧cap≤maxLen
 ce: ∀(j:Nat) x,T[j]? =some x→W.cell? ⟨g,j*4,none⟩=some (.bool x.k.e)∧W.cell? ⟨g,j*4+1,none⟩=some (.int .u64 x.k.d)∧W.cell? ⟨g,j*4+2,none⟩=some (.int .u8 x.k.l)∧W.cell? ⟨g,j*4+3,none⟩=some (.int .i64 x.u)
theorem eJ.IC {w:World} {base s:Nat} {vt vl:Value} {V:List Value} {T:List Th} {L:List Lk} (h:eJ w base s vt vl V T L): ∃g cap,vt= .slice (some ⟨g,0,none⟩) T.length cap∧F0 w s g cap T:=by
 obtain⟨g,cap,rfl,h1,h2,_,_,_,hc⟩:=h.xU
 exact⟨g,cap,rfl,h.c0,⟨h1,h2⟩,hc⟩
theorem F0.below {W W':World} {s g cap n0:Nat} {T:List Th} (h:F0 W s g cap T) (hb:Below n0 W W') (h1:s<n0) (h2:g<n0):F0 W' s g cap T:=by
 refine⟨(hb.cell (p:=⟨s,0,none⟩) h1).trans h.c0,h.le,fun j x hx=> ?_⟩
 obtain⟨y0,y1,y2,y3⟩:=h.ce j x hx
 exact⟨(hb.cell (p:=⟨g,j*4,none⟩) h2).trans y0,(hb.cell (p:=⟨g,j*4+1,none⟩) h2).trans y1,(hb.cell (p:=⟨g,j*4+2,none⟩) h2).trans y2,(hb.cell (p:=⟨g,j*4+3,none⟩) h2).trans y3⟩
end Go.Proofs.YtdbailcdlngemaaGreatDoor.Pi
