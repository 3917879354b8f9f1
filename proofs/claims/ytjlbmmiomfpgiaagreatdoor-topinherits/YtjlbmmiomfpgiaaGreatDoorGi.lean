/- YtjlbmmiomfpgiaaGreatDoorGi: of the texts I1 I2 I3 I4 I5 I6 I7 I8 I9 I10 I11 I12 I13 I14 I15 I16 what is wanted. -/
import Derived.Test.YtjlbmmiomfpgiaaGreatDoorGa
import Derived.Laws.OwnMore
import Derived.Maps.AppendAt
import Derived.Deep.AppendLies
import Derived.OneCell
import Derived.OwnWalk
import Derived.Laws.MakeOwn
import Derived.RangeFuncNested
import Derived.RangeFuncBound
import Derived.RangeFuncCalls
import Derived.RangeFuncLeaves
import Derived.RangeFuncBox
import Derived.Shelf.Abstract
import Derived.Shelf.RegionOpen
import Derived.WalkKit
import Derived.OwnWalkIn
import Derived.TacticsInMore
import Derived.LoopNIn
import Derived.LoopIn
set_option maxHeartbeats 16000000
set_option maxRecDepth 100000
set_option linter.unusedVariables false
set_option linter.unusedSimpArgs false
namespace Go.Proofs.YtjlbmmiomfpgiaaGreatDoor.Pi
open Go.Proofs.YtjlbmmiomfpgiaaGreatDoor.Ke
open Go.Lib
open Go.RowKit hiding Hid
structure Fr (S:Nat→Prop) (w w':World):Prop where
 os:w'.os=w.os
 tape:w'.tape=w.tape
 output:w'.output=w.output
 size:w.heap.size≤w'.heap.size
 block: ∀k,k<w.heap.size→ ¬S k→w'.heap[k]? =w.heap[k]?
section
variable {S S':Nat→Prop} {w w' w'':World}
theorem Fr.refl (S:Nat→Prop) (w:World):Fr S w w:=⟨rfl,rfl,rfl,Nat.le_refl _,fun _ _ _=>rfl⟩
theorem Fr.wide (h:Fr S w w') (hs: ∀k,k<w.heap.size→S k→S' k):Fr S' w w':=⟨h.os,h.tape,h.output,h.size,fun k hk hn=>h.block k hk (fun q=>hn (hs k hk q))⟩
theorem Fr.trans (h:Fr S w w') (h':Fr S w' w''):Fr S w w'':=
 ⟨h'.os.trans h.os,h'.tape.trans h.tape,h'.output.trans h.output,Nat.le_trans h.size h'.size,fun k hk hn=>(h'.block k (Nat.lt_of_lt_of_le hk h.size) hn).trans (h.block k hk hn)⟩
theorem Fr.setCell (h:Fr S w w') {a:Addr} (hb:S a.block) (u:Value):Fr S w (w'.setCell a u):=
 ⟨h.os,h.tape,h.output,by simpa using h.size,fun k hk hn=>(Below.heap_setCell _ _ _ _ (fun e=>hn (by rw[e];exact hb))).trans (h.block k hk hn)⟩
theorem Fr.aD (h:Below w.heap.size w w'):Fr S w w':=⟨h.os,h.tape,h.output,h.size,fun k hk _=>h.block k hk⟩
end
theorem aQ {w:World} {base:Nat} {e:TypeId} {size g n cap:Nat} {xs:List Value} (h:w.ownsRow base e size (.slice (some ⟨g,0,none⟩) n cap) n xs) (k:Nat) (hk:k<n*size) (u:Value):
  (w.setCell ⟨g,k,none⟩ u).ownsRow base e size (.slice (some ⟨g,0,none⟩) n cap) n (xs.set k u):=by
 refine⟨by simpa using h.1,?_⟩
 rcases h.2 with ⟨e1,_⟩|⟨g',cap',cur,e1,h0,h1,h2,h3,h4,h5⟩
 ·simp at e1
 ·simp at e1
  obtain⟨rfl,rfl⟩:=e1
  refine .inr ⟨g,cap,cur.setIfInBounds k u,rfl,h0,?_,h2,h3,by simpa using h4,?_⟩
  ·exact Go.Joins.block_setCell h1 u
  ·rw[←h5]
   simp[List.take_set]
theorem db {w:World} {base:Nat} {e:TypeId} {size g n cap:Nat} {xs:List Value} (h:w.ownsRow base e size (.slice (some ⟨g,0,none⟩) n cap) n xs) (k:Nat):w.frozen? ⟨g,k,none⟩=false:=by
 rcases h.2 with ⟨e1,_⟩|⟨g',cap',cur,e1,h0,h1,h2,h3,h4,h5⟩
 ·simp at e1
 ·simp at e1
  obtain⟨rfl,rfl⟩:=e1
  unfold World.frozen?
  simp[h1]
theorem aK {w:World} {base:Nat} {e:TypeId} {size:Nat} {v:Value} {n:Nat} {xs:List Value} (h:w.ownsRow base e size v n xs) {w':World} (hh: ∀k,v.ownBlock=some k→w'.heap[k]? =w.heap[k]?):w'.ownsRow base e size v n xs:=by
 refine⟨h.1,?_⟩
 rcases h.2 with hn|⟨g,cap,cur,rfl,hb,hgg,rest⟩
 ·exact .inl hn
 ·exact .inr ⟨g,cap,cur,rfl,hb,(hh g rfl).trans hgg,rest⟩
theorem aq {w:World} {base:Nat} {e:TypeId} {size:Nat} {v:Value} {n:Nat} {xs:List Value} (h:w.ownsRow base e size v n xs) {k:Nat} (hk:v.ownBlock=some k):base≤k∧k<w.heap.size∧ ∃cur,w.heap[k]? =some (.cells cur e (0,0)):=by
 rcases h.2 with ⟨rfl,_⟩|⟨g,cap,cur,rfl,hb,hgg,rest⟩
 ·simp[Value.ownBlock] at hk
 ·simp[Value.ownBlock] at hk
  subst hk
  exact⟨hb,(Array.getElem?_eq_some_iff.1 hgg).1,cur,hgg⟩
structure Th where
 k:K
 u:Int
structure Lk where
 h:Int
 l:List Nat
def Th.ok (n:Nat) (x:Th):Prop:=x.k.ok∧ -1≤x.u∧x.u<n
def Lk.ok (n:Nat) (x:Lk):Prop:= -1≤x.h∧x.h<n∧(∀t∈x.l,t<n)∧x.l.Nodup∧(x.l≠[]→0≤x.h)
def Edge (L:List Lk) (t s:Nat):Prop:= ∃y∈L,t∈y.l∧y.h=(s:Int)
def gH (L:List Lk):Prop:= ∃(B:Nat) (r:Nat→Nat),(∀x,r x≤B)∧ ∀t s,Edge L t s→r t<r s
structure ei (T:List Th) (L:List Lk):Prop where
 t1:1≤T.length
 t2:T.length≤1024
 l2:L.length≤32
 th: ∀x∈T,x.ok L.length
 lk: ∀y∈L,y.ok T.length
 wt: ∀(t:Nat) x,T[t]? =some x→ ∀(m:Nat) y,L[m]? =some y→(t∈y.l↔x.u=(m:Int))
 ac:gH L
def behind (L:List Lk) (t:Nat):List Nat:=(L.filter (fun y=>y.h==(t:Int))).flatMap (·.l)
theorem fv {L:List Lk} {t s:Nat}:s∈behind L t↔Edge L s t:=by
 unfold behind Edge
 simp only[List.mem_flatMap,List.mem_filter,beq_iff_eq]
 constructor
 ·rintro⟨y,⟨h1,h2⟩,h3⟩
  exact⟨y,h1,h3,h2⟩
 ·rintro⟨y,h1,h3,h2⟩
  exact⟨y,⟨h1,h2⟩,h3⟩
def eU (T:List Th) (t:Nat):K:=(T[t]?.map (·.k)).getD (aP 0)
def kf (T:List Th) (L:List Lk):Nat→Nat→K
 |0,t=>eU T t
 |n+1,t=>(behind L t).foldl (fun k x=>dr k (kf T L n x)) (eU T t)
theorem lx {α β:Type} {f g:β→α→β}: ∀(l:List α) (b:β),(∀x∈l,∀b,f b x=g b x)→l.foldl f b=l.foldl g b
 |[],b,_=>rfl
 |x::l,b,h=>by
  rw[List.foldl_cons,List.foldl_cons,h x (by simp)]
  exact lx l _ (fun y hy=>h y (by simp[hy]))
theorem u6 {T:List Th} {L:List Lk} {r:Nat→Nat} (h: ∀t s,Edge L t s→r t<r s): ∀(n:Nat) (t:Nat),r t≤n→ ∀m,r t≤m→kf T L n t=kf T L m t:=by
 intro n
 induction n with
 |zero=>
  intro t hn m _
  cases m with
  |zero=>rfl
  |succ m=>
   have e:behind L t=[]:=by
    rw[List.eq_nil_iff_forall_not_mem]
    intro x hx
    have:=h x t (fv.1 hx)
    omega
   unfold kf
   rw[e]
   rfl
 |succ n ih=>
  intro t hn m hm
  cases m with
  |zero=>
   have e:behind L t=[]:=by
    rw[List.eq_nil_iff_forall_not_mem]
    intro x hx
    have:=h x t (fv.1 hx)
    omega
   unfold kf
   rw[e]
   rfl
  |succ m=>
   show(behind L t).foldl (fun k x=>dr k (kf T L n x)) (eU T t)=(behind L t).foldl (fun k x=>dr k (kf T L m x)) (eU T t)
   refine lx _ _ ?_
   intro x hx b
   have:=h x t (fv.1 hx)
   rw[ih x (by omega) m (by omega)]
open Classical in
noncomputable def keyOf (T:List Th) (L:List Lk) (t:Nat):K:=if h:gH L then kf T L h.choose t else aP 0
theorem iz {T:List Th} {L:List Lk} (h:gH L) (t:Nat):keyOf T L t=(behind L t).foldl (fun k x=>dr k (keyOf T L x)) (eU T t):=by
 obtain⟨r,hb,hr⟩:=h.choose_spec
 unfold keyOf
 simp only[h,dite_true]
 rw[u6 hr h.choose t (hb t) (h.choose+1) (by have:=hb t;omega)]
 rfl
inductive cT (L:List Lk):Nat→Nat→Prop
 |here (t):cT L t t
 |on {t s v}:Edge L t s→cT L s v→cT L t v
theorem cT.snoc {L:List Lk} {t s v:Nat} (h:cT L t s) (e:Edge L s v):cT L t v:=by
 induction h with
 |here t=>exact .on e (.here _)
 |on e1 _ ih=>exact .on e1 (ih e)
open Classical in
theorem gH.more {L L':List Lk} {t s:Nat} (h:gH L) (hn: ¬cT L s t) (hE: ∀a b,Edge L' a b→Edge L a b∨a=t∧b=s):gH L':=by
 obtain⟨B,r,hb,hr⟩:=h
 refine⟨B+B+1,fun x=>if cT L s x then r x+r t+1 else r x,fun x=> ?_,fun a b e=> ?_⟩
 ·have h1:=hb x
  have h2:=hb t
  show(if cT L s x then r x+r t+1 else r x)≤B+B+1
  split<;>omega
 ·show(if cT L s a then r a+r t+1 else r a)<(if cT L s b then r b+r t+1 else r b)
  rcases hE a b e with q|⟨rfl,rfl⟩
  ·have h1:=hr a b q
   by_cases ha:cT L s a
   ·rw[if_pos ha,if_pos (ha.snoc q)]
    omega
   ·rw[if_neg ha]
    split<;>omega
  ·rw[if_neg hn,if_pos (.here _)]
   omega
theorem gH.less {L L':List Lk} (h:gH L) (hE: ∀a b,Edge L' a b→Edge L a b):gH L':=by
 obtain⟨B,r,hb,hr⟩:=h
 exact⟨B,r,hb,fun a b e=>hr a b (hE a b e)⟩
def tT (x:Th):List Value:=[.bool x.k.e,.int .u64 x.k.d,.int .u8 x.k.l,.int .i64 x.u]
def cF (T:List Th):List Value:=T.flatMap tT
theorem bC (x:Th) (T:List Th):cF (x::T)=tT x++cF T:=rfl
theorem gO: ∀T,(cF T).length=T.length*4
 |[]=>rfl
 |x::T=>by rw[bC];simp[tT,gO T];omega
theorem eX: ∀(T:List Th) (i:Nat) (x:Th),T[i]? =some x→(cF T)[i*4]? =some (.bool x.k.e)∧(cF T)[i*4+1]? =some (.int .u64 x.k.d)∧(cF T)[i*4+2]? =some (.int .u8 x.k.l)∧(cF T)[i*4+3]? =some (.int .i64 x.u)
 |[],i,x,h=>by simp at h
 |y::T,0,x,h=>by
  simp at h
  subst h
  exact⟨rfl,rfl,rfl,rfl⟩
 |y::T,i+1,x,h=>by
  have:=eX T i x (by simpa using h)
  rw[bC,show(i+1)*4=i*4+4 by omega]
  exact this
theorem lz: ∀(T:List Th) (i:Nat) (x:Th),i<T.length→cF (T.set i x)=((((cF T).set (i*4) (.bool x.k.e)).set (i*4+1) (.int .u64 x.k.d)).set (i*4+2) (.int .u8 x.k.l)).set (i*4+3) (.int .i64 x.u)
 |[],i,x,h=>by simp at h
 |y::T,0,x,h=>by simp[bC,tT]
 |y::T,i+1,x,h=>by
  have:=lz T i x (by simpa using h)
  rw[List.set_cons_succ,bC,this,bC,show(i+1)*4=i*4+4 by omega]
  rfl
def dc (Z:List (Int×Value)):List Value:=Z.flatMap (fun z=>[.int .i64 z.1,z.2])
theorem bB (z:Int×Value) (Z:List (Int×Value)):dc (z::Z)=[.int .i64 z.1,z.2]++dc Z:=rfl
theorem gC: ∀(Z:List (Int×Value)) (i:Nat) (z:Int×Value),Z[i]? =some z→(dc Z)[i*2]? =some (.int .i64 z.1)∧(dc Z)[i*2+1]? =some z.2
 |[],i,x,h=>by simp at h
 |y::Z,0,x,h=>by
  simp at h
  subst h
  exact⟨rfl,rfl⟩
 |y::Z,i+1,x,h=>by
  have:=gC Z i x (by simpa using h)
  rw[bB,show(i+1)*2=i*2+2 by omega]
  exact this
theorem kK: ∀(Z:List (Int×Value)) (i:Nat) (z:Int×Value),i<Z.length→dc (Z.set i z)=((dc Z).set (i*2) (.int .i64 z.1)).set (i*2+1) z.2
 |[],i,x,h=>by simp at h
 |y::Z,0,x,h=>by simp[bB]
 |y::Z,i+1,x,h=>by
  have:=kK Z i x (by simpa using h)
  rw[List.set_cons_succ,bB,this,bB,show(i+1)*2=i*2+2 by omega]
  rfl
def ints (l:List Nat):List Value:=l.map (fun (t:Nat)=> .int .i64 (t:Int))
structure cL (w:World) (base s:Nat) (vt vl:Value) (V:List Value) (T:List Th) (L:List Lk):Prop where
 blk:w.heap[s]? =some (.cells #[vt,vl] 141 (0,0))
 lo:base≤s
 tho:w.ownsRow base 143 4 vt T.length (cF T)
 lko:w.ownsRow base 145 2 vl L.length (dc ((L.map (·.h)).zip V))
 vs:V.length=L.length
 lin: ∀(j:Nat) y v,L[j]? =some y→V[j]? =some v→w.ownsRow base 3 1 v y.l.length (ints y.l)
 apart: ∀(i j:Nat) u v k,V[i]? =some u→V[j]? =some v→u.ownBlock=some k→v.ownBlock=some k→i=j
 bs:base≤w.heap.size
 f:ei T L
def own (s:Nat) (vt vl:Value) (V:List Value) (k:Nat):Prop:=k=s∨vt.ownBlock=some k∨vl.ownBlock=some k∨ ∃v∈V,v.ownBlock=some k
section
variable {w w':World} {base s:Nat} {vt vl:Value} {V:List Value} {T:List Th} {L:List Lk}
theorem cL.lt (h:cL w base s vt vl V T L):s<w.heap.size:=(Array.getElem?_eq_some_iff.1 h.blk).1
theorem cL.uj (h:cL w base s vt vl V T L) {k:Nat} (hk:own s vt vl V k):k<w.heap.size:=by
 rcases hk with rfl|q|q|⟨v,hv,q⟩
 ·exact h.lt
 ·exact(aq h.tho q).2.1
 ·exact(aq h.lko q).2.1
 ·obtain⟨j,hj⟩:=List.mem_iff_getElem?.1 hv
  have hjl:=(List.getElem?_eq_some_iff.1 hj).1
  rw[h.vs] at hjl
  exact(aq (h.lin j _ v (List.getElem?_eq_getElem hjl) hj) q).2.1
theorem cL.kept (h:cL w base s vt vl V T L) (h0:w.heap.size≤w'.heap.size) (h1: ∀k,own s vt vl V k→w'.heap[k]? =w.heap[k]?):cL w' base s vt vl V T L:=
 ⟨(h1 s (.inl rfl)).trans h.blk,h.lo,aK h.tho (fun k hk=>h1 k (.inr (.inl hk))),aK h.lko (fun k hk=>h1 k (.inr (.inr (.inl hk)))),h.vs,
  fun j y v hy hv=>aK (h.lin j y v hy hv) (fun k hk=>h1 k (.inr (.inr (.inr ⟨v,List.mem_of_getElem? hv,hk⟩)))),h.apart,Nat.le_trans h.bs h0,h.f⟩
theorem cL.frame {S:Nat→Prop} (h:cL w base s vt vl V T L) (hf:Fr S w w') (h1: ∀k,own s vt vl V k→ ¬S k):cL w' base s vt vl V T L:=
 h.kept hf.size (fun k hk=>hf.block k (h.uj hk) (h1 k hk))
theorem cL.below (h:cL w base s vt vl V T L) (hf:Below w.heap.size w w'):cL w' base s vt vl V T L:=
 h.frame (Fr.aD (S:=fun _=>False) hf) (fun _ _=>id)
theorem cL.c0 (h:cL w base s vt vl V T L):w.cell? ⟨s,0,none⟩=some vt:=by unfold World.cell?;simp[h.blk]
theorem cL.c1 (h:cL w base s vt vl V T L):w.cell? ⟨s,1,none⟩=some vl:=by unfold World.cell?;simp[h.blk]
theorem gz {e:TypeId} {size n:Nat} {v:Value} {xs:List Value} (h:w.ownsRow base e size v n xs): ∃a cap,v= .slice a n cap∧n≤cap∧cap≤maxLen:=by
 rcases h.2 with ⟨e,e0⟩|⟨g,cap,cur,e,_,_,h1,h2,_⟩
 ·exact⟨none,0,by rw[e,e0],by omega,by simp[maxLen]⟩
 ·exact⟨_,cap,e,h1,h2⟩
theorem cL.ot (h:cL w base s vt vl V T L): ∃g cap,vt= .slice (some ⟨g,0,none⟩) T.length cap∧T.length≤cap∧cap≤maxLen∧g<w.heap.size∧g≠s∧(∀k,w.frozen? ⟨g,k,none⟩=false)∧
  (∀j x,T[j]? =some x→w.cell? ⟨g,j*4,none⟩=some (.bool x.k.e)∧w.cell? ⟨g,j*4+1,none⟩=some (.int .u64 x.k.d)∧w.cell? ⟨g,j*4+2,none⟩=some (.int .u8 x.k.l)∧w.cell? ⟨g,j*4+3,none⟩=some (.int .i64 x.u)):=by
 have ht:=h.f.t1
 have hown:=h.tho
 rcases h.tho.2 with ⟨e,e0⟩|⟨g,cap,cur,e,h0,hg,h1,h2,_⟩
 ·omega
 ·subst e
  refine⟨g,cap,rfl,h1,h2,(Array.getElem?_eq_some_iff.1 hg).1,fun q=> ?_,db hown,fun j x hj=> ?_⟩
  ·subst q
   rw[h.blk] at hg
   simp at hg
  ·have hjl:j<T.length:=(List.getElem?_eq_some_iff.1 hj).1
   rw[hown.cellAt (j*4) (by omega),hown.cellAt (j*4+1) (by omega),hown.cellAt (j*4+2) (by omega),hown.cellAt (j*4+3) (by omega)]
   exact eX T j x hj
theorem cL.jL (h:cL w base s vt vl V T L) (hL:0<L.length): ∃g cap,vl= .slice (some ⟨g,0,none⟩) L.length cap∧L.length≤cap∧cap≤maxLen∧g<w.heap.size∧g≠s∧(∀k,w.frozen? ⟨g,k,none⟩=false)∧
  (∀(j:Nat) y v,L[j]? =some y→V[j]? =some v→w.cell? ⟨g,j*2,none⟩=some (.int .i64 y.h)∧w.cell? ⟨g,j*2+1,none⟩=some v):=by
 have hown:=h.lko
 rcases h.lko.2 with ⟨e,e0⟩|⟨g,cap,cur,e,h0,hg,h1,h2,_⟩
 ·omega
 ·subst e
  refine⟨g,cap,rfl,h1,h2,(Array.getElem?_eq_some_iff.1 hg).1,fun q=> ?_,db hown,fun j y v hj hv=> ?_⟩
  ·subst q
   rw[h.blk] at hg
   simp at hg
  ·have hjl:j<L.length:=(List.getElem?_eq_some_iff.1 hj).1
   rw[hown.cellAt (j*2) (by omega),hown.cellAt (j*2+1) (by omega)]
   have e:((L.map (·.h)).zip V)[j]? =some (y.h,v):=by rw[List.getElem?_zip_eq_some];simp[hj,hv]
   exact gC _ j (y.h,v) e
end
def jT (T:List Th) (t:Int):Bool:=decide (0≤t∧t<(T.length:Int))
def oz (L:List Lk) (m:Int):Bool:=decide (0≤m∧m<(L.length:Int))
def fs (L:List Lk) (m:Int):Int:=if oz L m then((L[m.toNat]?).map (·.h)).getD (-1) else-1
def iJ (T:List Th) (t:Int):Int:=if jT T t then((T[t.toNat]?).map (·.u)).getD (-1) else-1
def dq (T:List Th) (L:List Lk) (t m:Int):Int:=if jT T t&&oz L m then if iJ T t= -1 then 0 else 11 else 2
section
variable {w:World} {base s:Nat} {vt vl:Value} {V:List Value} {T:List Th} {L:List Lk}
theorem nU (h:cL w base s vt vl V T L) (t:Int):Calls Tryz.prog 97 #[.pointer (some ⟨s,0,none⟩),.int .i64 t] w fun e w'=>e= .returned (.bool (jT T t))∧w'=w:=by
 obtain⟨a,cap,rfl,_,_⟩:=gz h.tho
 have c0:=h.c0
 clear h
 unfold jT
 by_cases h0:0≤t
 ·go_enter Tryz.func97,Tryz.ntmps97
  go_wp2
  go_ret
  exact⟨by simp[h0],rfl⟩
 ·go_enter Tryz.func97,Tryz.ntmps97
  go_wp2
  go_ret
  exact⟨by simp;omega,rfl⟩
theorem sm (h:cL w base s vt vl V T L) (t:Int):Calls Tryz.prog 102 #[.pointer (some ⟨s,0,none⟩),.int .i64 t] w fun e w'=>e= .returned (.bool (oz L t))∧w'=w:=by
 obtain⟨a,cap,rfl,_,_⟩:=gz h.lko
 have c1:=h.c1
 clear h
 unfold oz
 by_cases h0:0≤t
 ·go_enter Tryz.func102,Tryz.ntmps102
  go_wp2
  go_ret
  exact⟨by simp[h0],rfl⟩
 ·go_enter Tryz.func102,Tryz.ntmps102
  go_wp2
  go_ret
  exact⟨by simp;omega,rfl⟩
theorem ka {t:Int} (h:jT T t=true): ∃(k:Nat) (x:Th),t=k∧k<T.length∧T[k]? =some x∧iJ T t=x.u:=by
 have h':=h
 unfold jT at h'
 simp only[decide_eq_true_eq] at h'
 obtain⟨k,rfl⟩: ∃k:Nat,t=k:=⟨t.toNat,by omega⟩
 have hk:k<T.length:=by omega
 refine⟨k,T[k],rfl,hk,List.getElem?_eq_getElem hk,?_⟩
 unfold iJ
 rw[if_pos h,Int.toNat_natCast,List.getElem?_eq_getElem hk]
 rfl
theorem se {m:Int} (h:oz L m=true): ∃(k:Nat) (y:Lk),m=k∧k<L.length∧L[k]? =some y∧fs L m=y.h:=by
 have h':=h
 unfold oz at h'
 simp only[decide_eq_true_eq] at h'
 obtain⟨k,rfl⟩: ∃k:Nat,m=k:=⟨m.toNat,by omega⟩
 have hk:k<L.length:=by omega
 refine⟨k,L[k],rfl,hk,List.getElem?_eq_getElem hk,?_⟩
 unfold fs
 rw[if_pos h,Int.toNat_natCast,List.getElem?_eq_getElem hk]
 rfl
theorem cL.line (h:cL w base s vt vl V T L) {k:Nat} (hk:k<L.length): ∃v,V[k]? =some v:=⟨_,List.getElem?_eq_getElem (by rw[h.vs];exact hk)⟩
theorem uP (h:cL w base s vt vl V T L) (m:Int):Calls Tryz.prog 57 #[.pointer (some ⟨s,0,none⟩),.int .i64 m] w fun e w'=>e= .returned (.int .i64 (fs L m))∧w'=w:=by
 have HH:=aa (sm h m)
 cases hm:oz L m with
 |true=>
  rw[hm] at HH
  obtain⟨k,y,rfl,hk,hy,e⟩:=se hm
  rw[e]
  obtain⟨v,hv⟩:=h.line hk
  obtain⟨g,cap,rfl,hc1,hc2,hg,hgs,_,hc⟩:=h.jL (by omega)
  obtain⟨y0,y1⟩:=hc k y v hy hv
  have c1:=h.c1
  have hk':(k:Int)<(L.length:Int):=by omega
  clear h hc hm e
  go_enter Tryz.func57,Tryz.ntmps57
  go_wp2_with (go_at_call 102;refine(HH.out).mono ?_;rintro e w1 ⟨rfl,hw⟩;replace hw:=hw.symm;subst hw)
  go_ret
  exact⟨rfl,rfl⟩
 |false=>
  rw[hm] at HH
  have e:fs L m= -1:=by unfold fs;rw[hm];rfl
  rw[e]
  clear h hm e
  go_enter Tryz.func57,Tryz.ntmps57
  go_wp2_with (go_at_call 102;refine(HH.out).mono ?_;rintro e w1 ⟨rfl,hw⟩;replace hw:=hw.symm;subst hw)
  go_ret
  exact⟨rfl,rfl⟩
theorem dw (h:cL w base s vt vl V T L) (t m:Int):Calls Tryz.prog 182 #[.pointer (some ⟨s,0,none⟩),.int .i64 t,.int .i64 m] w fun e w'=>e= .returned (.int .i64 (dq T L t m))∧w'=w:=by
 have HT:=aa (nU h t)
 have HL:=aa (sm h m)
 cases ht:jT T t with
 |false=>
  rw[ht] at HT
  have e:dq T L t m=2:=by unfold dq;rw[ht];rfl
  rw[e]
  clear h ht e
  go_enter Tryz.func182,Tryz.ntmps182
  go_wp2_with (go_at_call 97;refine(HT.out).mono ?_;rintro e w1 ⟨rfl,hw⟩;replace hw:=hw.symm;subst hw)
  go_ret
  exact⟨rfl,rfl⟩
 |true=>
  rw[ht] at HT
  cases hm:oz L m with
  |false=>
   rw[hm] at HL
   have e:dq T L t m=2:=by unfold dq;rw[ht,hm];rfl
   rw[e]
   clear h ht hm e
   go_enter Tryz.func182,Tryz.ntmps182
   go_wp2_with (first
    |(go_at_call 97;refine(HT.out).mono ?_;rintro e w1 ⟨rfl,hw⟩;replace hw:=hw.symm;subst hw)
    |(go_at_call 102;refine(HL.out).mono ?_;rintro e w1 ⟨rfl,hw⟩;replace hw:=hw.symm;subst hw))
   go_ret
   exact⟨rfl,rfl⟩
  |true=>
   rw[hm] at HL
   obtain⟨k,y,rfl,hk,hy,e⟩:=ka ht
   obtain⟨g,cap,rfl,hc1,hc2,hg,hgs,_,hc⟩:=h.ot
   obtain⟨y0,y1,y2,y3⟩:=hc k y hy
   have c0:=h.c0
   have hk':(k:Int)<(T.length:Int):=by omega
   by_cases hu:y.u= -1
   ·have e':dq T L (k:Int) m=0:=by unfold dq;rw[ht,hm,e,hu];rfl
    rw[e']
    clear h hc ht hm e e'
    go_enter Tryz.func182,Tryz.ntmps182
    go_wp2_with (first
     |(go_at_call 97;refine(HT.out).mono ?_;rintro e w1 ⟨rfl,hw⟩;replace hw:=hw.symm;subst hw)
     |(go_at_call 102;refine(HL.out).mono ?_;rintro e w1 ⟨rfl,hw⟩;replace hw:=hw.symm;subst hw))
    go_ret
    exact⟨rfl,rfl⟩
   ·have e':dq T L (k:Int) m=11:=by unfold dq;rw[ht,hm,e];simp[hu]
    rw[e']
    clear h hc ht hm e e'
    go_enter Tryz.func182,Tryz.ntmps182
    go_wp2_with (first
     |(go_at_call 97;refine(HT.out).mono ?_;rintro e w1 ⟨rfl,hw⟩;replace hw:=hw.symm;subst hw)
     |(go_at_call 102;refine(HL.out).mono ?_;rintro e w1 ⟨rfl,hw⟩;replace hw:=hw.symm;subst hw))
    go_ret
    exact⟨rfl,rfl⟩
end
def cR:Value:= .agg #[.bool false,.int .u64 0,.int .u8 0,.int .i64 0]
def kl:Value:= .agg #[.int .i64 0,.slice none 0 0]
def jo (n:Nat):Array Value:=madeCells cR.cells (n*4)
def jy (n:Nat):Array Value:=madeCells kl.cells (n*2)
theorem qs:(Tryz.prog.info? 143).map (fun i=>(i.zero,i.size,i.bytes))=some (some cR,4,32):=by kernel_rfl
theorem AH:(Tryz.prog.info? 145).map (fun i=>(i.zero,i.size,i.bytes))=some (some kl,2,32):=by kernel_rfl
theorem uE (w:World) (l:Int):Calls Tryz.prog 30 #[.int .u8 l] w fun e w'=>e= .returned (.agg #[.bool false,.int .u64 0,.int .u8 l])∧ ∃c,w'=w.alloc (.cells c 67):=by
 go_enter Tryz.func30,Tryz.ntmps30
 go_wp2
 simp[bodyPost,results,Tryz.results30,go_sem]
 exact⟨_,rfl⟩
def o0 (n j:Nat):List Th:=List.replicate j ⟨aP 0,-1⟩++List.replicate (n-j) ⟨aP 0,0⟩
def pK (n j:Nat):List (Int×Value):=List.replicate j (-1,.slice none 0 0)++List.replicate (n-j) (0,.slice none 0 0)
theorem rz {α:Type} (a b:α) (n j:Nat) (h:j<n):(List.replicate j a++List.replicate (n-j) b).set j a=List.replicate (j+1) a++List.replicate (n-(j+1)) b:=by
 rw[List.set_append_right _ _ (by simp),List.length_replicate,Nat.sub_self,show n-j=(n-(j+1))+1 by omega,List.replicate_succ,List.set_cons_zero,List.replicate_succ',List.append_assoc]
 rfl
theorem si (n j:Nat) (h:j<n):(o0 n j).set j ⟨aP 0,-1⟩=o0 n (j+1):=rz _ _ n j h
theorem rq (n j:Nat) (h:j<n):(pK n j).set j (-1,.slice none 0 0)=pK n (j+1):=rz _ _ n j h
theorem nN (n j:Nat) (h:j≤n):(o0 n j).length=n:=by simp[o0];omega
theorem m9 (n j:Nat) (h:j≤n):(pK n j).length=n:=by simp[pK];omega
theorem xm (n:Nat):o0 n n=List.replicate n ⟨aP 0,-1⟩:=by simp[o0]
theorem yd (n:Nat):pK n n=List.replicate n (-1,.slice none 0 0):=by simp[pK]
theorem nH (z:Array Value) (N k:Nat) (h:k<N):(madeCells z N).toList[k]? =some (z[k%z.size]!):=by
 simp[madeCells,h]
theorem sy (z:Array Value) (N k:Nat) (h: ¬k<N):(madeCells z N).toList[k]? =none:=by
 rw[List.getElem?_eq_none_iff]
 simp[madeCells]
 omega
theorem rT (n:Nat):(madeCells cR.cells (n*4)).toList=cF (o0 n 0):=by
 apply List.ext_getElem?
 intro i
 by_cases h:i<n*4
 ·rw[nH _ _ _ h]
  obtain⟨q,r,rfl,hr⟩: ∃q r,i=q*4+r∧r<4:=⟨i/4,i%4,by omega,by omega⟩
  have hq:q<n:=by omega
  have hx:(o0 n 0)[q]? =some ⟨aP 0,0⟩:=by simp[o0,hq]
  obtain⟨y0,y1,y2,y3⟩:=eX _ q _ hx
  have e:cR.cells.size=4:=rfl
  rw[e,show(q*4+r)%4=r by omega]
  rcases(by omega:r=0∨r=1∨r=2∨r=3) with rfl|rfl|rfl|rfl
  ·exact y0.symm
  ·exact y1.symm
  ·exact y2.symm
  ·exact y3.symm
 ·rw[sy _ _ _ h,eq_comm,List.getElem?_eq_none_iff,gO,nN n 0 (by omega)]
  omega
theorem gR: ∀Z,(dc Z).length=Z.length*2
 |[]=>rfl
 |z::Z=>by rw[bB];simp[gR Z];omega
theorem sC (n:Nat):(madeCells kl.cells (n*2)).toList=dc (pK n 0):=by
 apply List.ext_getElem?
 intro i
 by_cases h:i<n*2
 ·rw[nH _ _ _ h]
  obtain⟨q,r,rfl,hr⟩: ∃q r,i=q*2+r∧r<2:=⟨i/2,i%2,by omega,by omega⟩
  have hq:q<n:=by omega
  have hx:(pK n 0)[q]? =some (0,.slice none 0 0):=by simp[pK,hq]
  obtain⟨y0,y1⟩:=gC _ q _ hx
  have e:kl.cells.size=2:=rfl
  rw[e,show(q*2+r)%2=r by omega]
  rcases(by omega:r=0∨r=1) with rfl|rfl
  ·exact y0.symm
  ·exact y1.symm
 ·rw[sy _ _ _ h,eq_comm,List.getElem?_eq_none_iff,gR,m9 n 0 (by omega)]
  omega
theorem gG (w:World) (base g n size:Nat) (e:TypeId) (z:Array Value) (hb:base≤w.heap.size) (hg:base≤g) (h:w.heap[g]? =some (.cells (madeCells z (n*size)) e (0,0))) (hn:n≤maxLen):
  w.ownsRow base e size (.slice (some ⟨g,0,none⟩) n n) n (madeCells z (n*size)).toList:=
 ⟨by simp[size_madeCells],.inr ⟨g,n,_,rfl,hg,h,Nat.le_refl _,hn,by simp[size_madeCells],by rw[List.take_of_length_le];simp[size_madeCells]⟩⟩
structure bH (w wr:World) (s gt gl n m:Nat) (T:List Th) (Z:List (Int×Value)):Prop where
 blk:wr.heap[s]? =some (.cells #[.slice (some ⟨gt,0,none⟩) n n,.slice (some ⟨gl,0,none⟩) m m] 141 (0,0))
 lo:w.heap.size≤s
 tho:wr.ownsRow w.heap.size 143 4 (.slice (some ⟨gt,0,none⟩) n n) n (cF T)
 lko:wr.ownsRow w.heap.size 145 2 (.slice (some ⟨gl,0,none⟩) m m) m (dc Z)
 tl:T.length=n
 zl:Z.length=m
 be:Below w.heap.size w wr
section
variable {w wr wr':World} {s gt gl n m:Nat} {T:List Th} {Z:List (Int×Value)}
theorem fj (w:World) (o:Obj):(w.alloc o).heap[w.heap.size]? =some o:=by
 show(w.heap.push o)[w.heap.size]? =some o
 simp
theorem BS (w:World) (n m:Nat) (hn:n≤maxLen) (hm:m≤maxLen):bH w (((w.alloc (.cells (jo n) 143)).alloc (.cells (jy m) 145)).alloc (.cells #[.slice (some ⟨w.heap.size,0,none⟩) n n,.slice (some ⟨w.heap.size+1,0,none⟩) m m] 141)) (w.heap.size+1+1) w.heap.size (w.heap.size+1) n m (o0 n 0) (pK m 0):=by
 have e1:(w.alloc (.cells (jo n) 143)).heap.size=w.heap.size+1:=by simp
 have e2:((w.alloc (.cells (jo n) 143)).alloc (.cells (jy m) 145)).heap.size=w.heap.size+1+1:=by simp
 refine⟨?_,by omega,?_,?_,nN _ _ (by omega),m9 _ _ (by omega),(((Below.refl _ _).alloc (Nat.le_refl _) _).alloc (by omega) _).alloc (by omega) _⟩
 ·rw[←e2];exact fj _ _
 ·rw[←rT]
  refine gG _ _ _ _ _ _ _ (by simp;omega) (Nat.le_refl _) ?_ hn
  rw[Below.heap_alloc _ _ _ (by omega),Below.heap_alloc _ _ _ (by omega)]
  exact fj _ _
 ·rw[←sC]
  refine gG _ _ _ _ _ _ _ (by simp;omega) (by omega) ?_ hm
  rw[Below.heap_alloc _ _ _ (by omega),←e1]
  exact fj _ _
theorem BD (w:World) (n m:Nat) (hn:n≤maxLen) (hm:m≤maxLen):bH w (((w.alloc (.cells (jy m) 145)).alloc (.cells (jo n) 143)).alloc (.cells #[.slice (some ⟨w.heap.size+1,0,none⟩) n n,.slice (some ⟨w.heap.size,0,none⟩) m m] 141)) (w.heap.size+1+1) (w.heap.size+1) w.heap.size n m (o0 n 0) (pK m 0):=by
 have e1:(w.alloc (.cells (jy m) 145)).heap.size=w.heap.size+1:=by simp
 have e2:((w.alloc (.cells (jy m) 145)).alloc (.cells (jo n) 143)).heap.size=w.heap.size+1+1:=by simp
 refine⟨?_,by omega,?_,?_,nN _ _ (by omega),m9 _ _ (by omega),(((Below.refl _ _).alloc (Nat.le_refl _) _).alloc (by omega) _).alloc (by omega) _⟩
 ·rw[←e2];exact fj _ _
 ·rw[←rT]
  refine gG _ _ _ _ _ _ _ (by simp;omega) (by omega) ?_ hn
  rw[Below.heap_alloc _ _ _ (by omega),←e1]
  exact fj _ _
 ·rw[←sC]
  refine gG _ _ _ _ _ _ _ (by simp;omega) (Nat.le_refl _) ?_ hm
  rw[Below.heap_alloc _ _ _ (by omega),Below.heap_alloc _ _ _ (by omega)]
  exact fj _ _
theorem bH.drew (h:bH w wr s gt gl n m T Z):bH w wr.drew s gt gl n m T Z:=⟨h.blk,h.lo,h.tho.drew,h.lko.drew,h.tl,h.zl,h.be.drew⟩
theorem bH.Ci (h:bH w wr s gt gl n m T Z):s<wr.heap.size∧gt<wr.heap.size∧gl<wr.heap.size∧w.heap.size≤gt∧w.heap.size≤gl∧gt≠s∧gl≠s∧gt≠gl:=by
 obtain⟨a1,a2,ca,a3⟩:=aq h.tho (k:=gt) rfl
 obtain⟨b1,b2,cb,b3⟩:=aq h.lko (k:=gl) rfl
 have h0:=h.blk
 refine⟨(Array.getElem?_eq_some_iff.1 h0).1,a2,b2,a1,b1,fun q=> ?_,fun q=> ?_,fun q=> ?_⟩
 ·rw[q,h0] at a3;simp at a3
 ·rw[q,h0] at b3;simp at b3
 ·rw[q,b3] at a3;simp at a3
theorem bH.on (h:bH w wr s gt gl n m T Z) (hb:Below wr.heap.size wr wr'):bH w wr' s gt gl n m T Z:=by
 obtain⟨l1,l2,l3,_⟩:=h.Ci
 refine⟨(hb.block s l1).trans h.blk,h.lo,aK h.tho ?_,aK h.lko ?_,h.tl,h.zl,h.be.trans (hb.mono h.be.size)⟩
 ·intro k hk
  simp[Value.ownBlock] at hk
  subst hk
  exact hb.block _ l2
 ·intro k hk
  simp[Value.ownBlock] at hk
  subst hk
  exact hb.block _ l3
theorem bH.c0 (h:bH w wr s gt gl n m T Z):wr.cell? ⟨s,0,none⟩=some (.slice (some ⟨gt,0,none⟩) n n):=by unfold World.cell?;simp[h.blk]
theorem bH.c1 (h:bH w wr s gt gl n m T Z):wr.cell? ⟨s,1,none⟩=some (.slice (some ⟨gl,0,none⟩) m m):=by unfold World.cell?;simp[h.blk]
theorem bH.sH (h:bH w wr s gt gl n m T Z) (j:Nat) (hj:j<n) (x:Th):bH w ((((wr.setCell ⟨gt,j*4,none⟩ (.bool x.k.e)).setCell ⟨gt,j*4+1,none⟩ (.int .u64 x.k.d)).setCell ⟨gt,j*4+2,none⟩ (.int .u8 x.k.l)).setCell ⟨gt,j*4+3,none⟩ (.int .i64 x.u)) s gt gl n m (T.set j x) Z:=by
 obtain⟨l1,l2,l3,l4,l5,l6,l7,l8⟩:=h.Ci
 have h1:=aQ (aQ (aQ (aQ h.tho (j*4) (by omega) (.bool x.k.e)) (j*4+1) (by omega) (.int .u64 x.k.d)) (j*4+2) (by omega) (.int .u8 x.k.l)) (j*4+3) (by omega) (.int .i64 x.u)
 rw[←lz T j x (by rw[h.tl];exact hj)] at h1
 refine⟨?_,h.lo,h1,aK h.lko ?_,by simpa using h.tl,h.zl,(((h.be.setCell (p:=⟨gt,j*4,none⟩) l4 _).setCell (p:=⟨gt,j*4+1,none⟩) l4 _).setCell (p:=⟨gt,j*4+2,none⟩) l4 _).setCell (p:=⟨gt,j*4+3,none⟩) l4 _⟩
 ·rw[Below.heap_setCell _ _ _ _ (Ne.symm l6),Below.heap_setCell _ _ _ _ (Ne.symm l6),Below.heap_setCell _ _ _ _ (Ne.symm l6),Below.heap_setCell _ _ _ _ (Ne.symm l6)]
  exact h.blk
 ·intro k hk
  simp[Value.ownBlock] at hk
  subst hk
  rw[Below.heap_setCell _ _ _ _ (Ne.symm l8),Below.heap_setCell _ _ _ _ (Ne.symm l8),Below.heap_setCell _ _ _ _ (Ne.symm l8),Below.heap_setCell _ _ _ _ (Ne.symm l8)]
theorem bH.uO (h:bH w wr s gt gl n m T Z) (j:Nat) (hj:j<m) (z:Int×Value):bH w ((wr.setCell ⟨gl,j*2,none⟩ (.int .i64 z.1)).setCell ⟨gl,j*2+1,none⟩ z.2) s gt gl n m T (Z.set j z):=by
 obtain⟨l1,l2,l3,l4,l5,l6,l7,l8⟩:=h.Ci
 have h1:=aQ (aQ h.lko (j*2) (by omega) (.int .i64 z.1)) (j*2+1) (by omega) z.2
 rw[←kK Z j z (by rw[h.zl];exact hj)] at h1
 refine⟨?_,h.lo,aK h.tho ?_,h1,h.tl,by simpa using h.zl,(h.be.setCell (p:=⟨gl,j*2,none⟩) l5 _).setCell (p:=⟨gl,j*2+1,none⟩) l5 _⟩
 ·rw[Below.heap_setCell _ _ _ _ (Ne.symm l7),Below.heap_setCell _ _ _ _ (Ne.symm l7)]
  exact h.blk
 ·intro k hk
  simp[Value.ownBlock] at hk
  subst hk
  rw[Below.heap_setCell _ _ _ _ l8,Below.heap_setCell _ _ _ _ l8]
theorem bH.fz (h:bH w wr s gt gl n m T Z):(∀k,wr.frozen? ⟨gt,k,none⟩=false)∧ ∀k,wr.frozen? ⟨gl,k,none⟩=false:=⟨db h.tho,db h.lko⟩
theorem bH.Bu (h:bH w wr s gt gl n m T Z) (j:Nat) (hj:j<n): ∃u0 u1 u2 u3,wr.cell? ⟨gt,j*4,none⟩=some u0∧wr.cell? ⟨gt,j*4+1,none⟩=some u1∧wr.cell? ⟨gt,j*4+2,none⟩=some u2∧wr.cell? ⟨gt,j*4+3,none⟩=some u3:=by
 have e:T[j]? =some _:=List.getElem?_eq_getElem (by rw[h.tl];exact hj)
 obtain⟨y0,y1,y2,y3⟩:=eX T j _ e
 exact⟨_,_,_,_,(h.tho.cellAt (j*4) (by omega)).trans y0,(h.tho.cellAt (j*4+1) (by omega)).trans y1,(h.tho.cellAt (j*4+2) (by omega)).trans y2,(h.tho.cellAt (j*4+3) (by omega)).trans y3⟩
theorem bH.zx (h:bH w wr s gt gl n m T Z) (j:Nat) (hj:j<m): ∃u0 u1,wr.cell? ⟨gl,j*2,none⟩=some u0∧wr.cell? ⟨gl,j*2+1,none⟩=some u1:=by
 have e:Z[j]? =some _:=List.getElem?_eq_getElem (by rw[h.zl];exact hj)
 obtain⟨y0,y1⟩:=gC Z j _ e
 exact⟨_,_,(h.lko.cellAt (j*2) (by omega)).trans y0,(h.lko.cellAt (j*2+1) (by omega)).trans y1⟩
theorem bH.wJ (h:bH w wr s gt gl n m T Z) (j:Nat) (hj:j<n): ∃u0 u1 u2 u3,∀o,(wr.alloc o).cell? ⟨gt,j*4,none⟩=some u0∧(wr.alloc o).cell? ⟨gt,j*4+1,none⟩=some u1∧(wr.alloc o).cell? ⟨gt,j*4+2,none⟩=some u2∧(wr.alloc o).cell? ⟨gt,j*4+3,none⟩=some u3:=by
 obtain⟨u0,u1,u2,u3,y0,y1,y2,y3⟩:=h.Bu j hj
 have l2:=h.Ci.2.1
 refine⟨u0,u1,u2,u3,fun o=> ?_⟩
 have hb:Below wr.heap.size wr (wr.alloc o):=(Below.refl _ _).alloc (Nat.le_refl _) o
 exact⟨(hb.cell (p:=⟨gt,j*4,none⟩) l2).trans y0,(hb.cell (p:=⟨gt,j*4+1,none⟩) l2).trans y1,(hb.cell (p:=⟨gt,j*4+2,none⟩) l2).trans y2,(hb.cell (p:=⟨gt,j*4+3,none⟩) l2).trans y3⟩
end
theorem yJ (n m:Nat) (w:World) (h1:1≤n) (h2:n≤1024) (h3:m≤32):
  Calls Tryz.prog 33 #[.int .i64 n,.int .i64 m] w fun e w'=> ∃s gt gl,e= .returned (.pointer (some ⟨s,0,none⟩))∧bH w w' s gt gl n m (o0 n n) (pK m m):=by
 obtain⟨i0,hi0,hz0,hz1,hz2⟩:=info_parts qs
 obtain⟨j0,hj0,hy0,hy1,hy2⟩:=info_parts AH
 have hmk: ∀w,(Instr.makeSlice 138 (.int .i64 (n:Int)) (.int .i64 (n:Int))).run Tryz.prog w= .ok (.slice (some ⟨w.heap.size,0,none⟩) n n) (w.alloc (.cells (jo n) 143)):=by
  intro w
  have:=run_make w 138 143 i0 cR Tryz.underlying138 hi0 hz0 .i64 .i64 (n:Int) (n:Int) (by omega) (by omega) (by rw[hz2];omega) (by omega)
  rw[hz1,show(n:Int).toNat=n by omega] at this
  exact this
 have hml: ∀w,(Instr.makeSlice 139 (.int .i64 (m:Int)) (.int .i64 (m:Int))).run Tryz.prog w= .ok (.slice (some ⟨w.heap.size,0,none⟩) m m) (w.alloc (.cells (jy m) 145)):=by
  intro w
  have:=run_make w 139 145 j0 kl Tryz.underlying139 hj0 hy0 .i64 .i64 (m:Int) (m:Int) (by omega) (by omega) (by rw[hy2];omega) (by omega)
  rw[hy1,show(m:Int).toNat=m by omega] at this
  exact this
 have e1: ¬(n:Int)<1:=by omega
 have e2: ¬(1024:Int)<(n:Int):=by omega
 have e3: ¬(m:Int)<0:=by omega
 have e4: ¬(32:Int)<(m:Int):=by omega
 have hnm:n≤maxLen∧m≤maxLen:=⟨by simp[maxLen];omega,by simp[maxLen];omega⟩
 have HSA:=aa (BS w n m hnm.1 hnm.2)
 have HSB:=aa (BD w n m hnm.1 hnm.2)
 have HF:=aa (fun w=>uE w 0)
 clear hi0 hz0 hz1 hz2 hj0 hy0 hy1 hy2 hnm
 go_enter Tryz.func33,Tryz.ntmps33
 go_wp2
 go_region_held3 (fun w'=>True) (simp[go_sem]) (first|fail)
 all_goals go_wp2
 ·replace HSA:=HSA
  clear HSB
  go_loopw [33] (fun i wr=> ∃(j:Nat),j≤n∧i= .int .i64 j∧bH w wr (w.heap.size+1+1) (w.heap.size) (w.heap.size+1) n m (o0 n j) (pK m 0)) (fun i _=>n-(intOf i).toNat)
  case atStart=>exact⟨0,by omega,rfl,HSA.out.drew⟩
  case round=>
   obtain⟨j,hj,rfl,hB⟩:=hrel
   by_cases hjl:j<n
   ·have hjl':(j:Int)<(n:Int):=by omega
    have c0:=hB.c0
    have ca: ∀o,(wr.alloc o).cell? ⟨w.heap.size+1+1,0,none⟩=some (.slice (some ⟨w.heap.size,0,none⟩) n n):=fun o=>(hB.on ((Below.refl _ _).alloc (Nat.le_refl _) o)).c0
    have cr:wr.drew.cell? ⟨w.heap.size+1+1,0,none⟩=some (.slice (some ⟨w.heap.size,0,none⟩) n n):=hB.drew.c0
    have cd: ∀o,(wr.alloc o).drew.cell? ⟨w.heap.size+1+1,0,none⟩=some (.slice (some ⟨w.heap.size,0,none⟩) n n):=fun o=>(hB.on ((Below.refl _ _).alloc (Nat.le_refl _) o)).drew.c0
    have cs: ∀o,(((((wr.alloc o).setCell ⟨w.heap.size,j*4,none⟩ (.bool false)).setCell ⟨w.heap.size,j*4+1,none⟩ (.int .u64 0)).setCell ⟨w.heap.size,j*4+2,none⟩ (.int .u8 0)).setCell ⟨w.heap.size,j*4+3,none⟩ (.int .i64 (-1))).drew.cell? ⟨w.heap.size+1+1,0,none⟩=some (.slice (some ⟨w.heap.size,0,none⟩) n n):=fun o=>((hB.on ((Below.refl _ _).alloc (Nat.le_refl _) o)).sH j hjl ⟨aP 0,-1⟩).drew.c0
    have fz: ∀o k,(wr.alloc o).frozen? ⟨w.heap.size,k,none⟩=false:=fun o k=>(hB.on ((Below.refl _ _).alloc (Nat.le_refl _) o)).fz.1 k
    obtain⟨u0,u1,u2,u3,hu⟩:=hB.wJ j hjl
    have z0:=fun o=>(hu o).1
    have z1:=fun o=>(hu o).2.1
    have z2:=fun o=>(hu o).2.2.1
    have z3:=fun o=>(hu o).2.2.2
    have HB:=aa hB
    clear hB hu
    go_wp2
    go_region_held3 (fun w'=>w'.cell? ⟨w.heap.size+1+1,0,none⟩=some (.slice (some ⟨w.heap.size,0,none⟩) n n))
     (first|with_reducible exact c0|with_reducible exact cr|with_reducible exact ca _|with_reducible exact cd _|with_reducible exact cs _)
     (first|(go_at_call 30;refine(HF.out _).mono ?_;rintro e w1 ⟨rfl,c,rfl⟩))
    all_goals go_wp2
    all_goals go_roundw
    case rel=>
     refine⟨j+1,by omega,by go_num,?_⟩
     rw[←si n j hjl]
     exact((HB.out.on ((Below.refl _ _).alloc (Nat.le_refl _) _)).sH j hjl ⟨aP 0,-1⟩).drew
    case measure=>simp[intOf];omega
   ·have hjl': ¬(j:Int)<(n:Int):=by omega
    obtain rfl:j=n:=by omega
    have c1:=hB.c1
    have HB:=aa hB
    clear hB
    go_wp2
    go_loopw [50] (fun i wr=> ∃(k:Nat),k≤m∧i= .int .i64 k∧bH w wr (w.heap.size+1+1) (w.heap.size) (w.heap.size+1) j m (o0 j j) (pK m k)) (fun i _=>m-(intOf i).toNat)
    case atStart=>exact⟨0,by omega,rfl,HB.out⟩
    case round=>
     obtain⟨k,hk,rfl,hB⟩:=hrel
     by_cases hkl:k<m
     ·have hkl':(k:Int)<(m:Int):=by omega
      have c1:=hB.c1
      have fz:=hB.fz.2
      obtain⟨u0,u1,z0,z1⟩:=hB.zx k hkl
      have HB:=aa hB
      clear hB
      go_wp2
      go_roundw
      case rel=>
       refine⟨k+1,by omega,by go_num,?_⟩
       rw[←rq m k hkl]
       exact HB.out.uO k hkl (-1,.slice none 0 0)
      case measure=>simp[intOf];omega
     ·have hkl': ¬(k:Int)<(m:Int):=by omega
      obtain rfl:k=m:=by omega
      have HB:=aa hB
      clear hB
      go_wp2
      go_ret
      exact⟨_,rfl,_,_,HB.out⟩
 ·replace HSA:=HSB
  go_loopw [33] (fun i wr=> ∃(j:Nat),j≤n∧i= .int .i64 j∧bH w wr (w.heap.size+1+1) (w.heap.size+1) (w.heap.size) n m (o0 n j) (pK m 0)) (fun i _=>n-(intOf i).toNat)
  case atStart=>exact⟨0,by omega,rfl,HSA.out.drew⟩
  case round=>
   obtain⟨j,hj,rfl,hB⟩:=hrel
   by_cases hjl:j<n
   ·have hjl':(j:Int)<(n:Int):=by omega
    have c0:=hB.c0
    have ca: ∀o,(wr.alloc o).cell? ⟨w.heap.size+1+1,0,none⟩=some (.slice (some ⟨w.heap.size+1,0,none⟩) n n):=fun o=>(hB.on ((Below.refl _ _).alloc (Nat.le_refl _) o)).c0
    have cr:wr.drew.cell? ⟨w.heap.size+1+1,0,none⟩=some (.slice (some ⟨w.heap.size+1,0,none⟩) n n):=hB.drew.c0
    have cd: ∀o,(wr.alloc o).drew.cell? ⟨w.heap.size+1+1,0,none⟩=some (.slice (some ⟨w.heap.size+1,0,none⟩) n n):=fun o=>(hB.on ((Below.refl _ _).alloc (Nat.le_refl _) o)).drew.c0
    have cs: ∀o,(((((wr.alloc o).setCell ⟨w.heap.size+1,j*4,none⟩ (.bool false)).setCell ⟨w.heap.size+1,j*4+1,none⟩ (.int .u64 0)).setCell ⟨w.heap.size+1,j*4+2,none⟩ (.int .u8 0)).setCell ⟨w.heap.size+1,j*4+3,none⟩ (.int .i64 (-1))).drew.cell? ⟨w.heap.size+1+1,0,none⟩=some (.slice (some ⟨w.heap.size+1,0,none⟩) n n):=fun o=>((hB.on ((Below.refl _ _).alloc (Nat.le_refl _) o)).sH j hjl ⟨aP 0,-1⟩).drew.c0
    have fz: ∀o k,(wr.alloc o).frozen? ⟨w.heap.size+1,k,none⟩=false:=fun o k=>(hB.on ((Below.refl _ _).alloc (Nat.le_refl _) o)).fz.1 k
    obtain⟨u0,u1,u2,u3,hu⟩:=hB.wJ j hjl
    have z0:=fun o=>(hu o).1
    have z1:=fun o=>(hu o).2.1
    have z2:=fun o=>(hu o).2.2.1
    have z3:=fun o=>(hu o).2.2.2
    have HB:=aa hB
    clear hB hu
    go_wp2
    go_region_held3 (fun w'=>w'.cell? ⟨w.heap.size+1+1,0,none⟩=some (.slice (some ⟨w.heap.size+1,0,none⟩) n n))
     (first|with_reducible exact c0|with_reducible exact cr|with_reducible exact ca _|with_reducible exact cd _|with_reducible exact cs _)
     (first|(go_at_call 30;refine(HF.out _).mono ?_;rintro e w1 ⟨rfl,c,rfl⟩))
    all_goals go_wp2
    all_goals go_roundw
    case rel=>
     refine⟨j+1,by omega,by go_num,?_⟩
     rw[←si n j hjl]
     exact((HB.out.on ((Below.refl _ _).alloc (Nat.le_refl _) _)).sH j hjl ⟨aP 0,-1⟩).drew
    case measure=>simp[intOf];omega
   ·have hjl': ¬(j:Int)<(n:Int):=by omega
    obtain rfl:j=n:=by omega
    have c1:=hB.c1
    have HB:=aa hB
    clear hB
    go_wp2
    go_loopw [50] (fun i wr=> ∃(k:Nat),k≤m∧i= .int .i64 k∧bH w wr (w.heap.size+1+1) (w.heap.size+1) (w.heap.size) j m (o0 j j) (pK m k)) (fun i _=>m-(intOf i).toNat)
    case atStart=>exact⟨0,by omega,rfl,HB.out⟩
    case round=>
     obtain⟨k,hk,rfl,hB⟩:=hrel
     by_cases hkl:k<m
     ·have hkl':(k:Int)<(m:Int):=by omega
      have c1:=hB.c1
      have fz:=hB.fz.2
      obtain⟨u0,u1,z0,z1⟩:=hB.zx k hkl
      have HB:=aa hB
      clear hB
      go_wp2
      go_roundw
      case rel=>
       refine⟨k+1,by omega,by go_num,?_⟩
       rw[←rq m k hkl]
       exact HB.out.uO k hkl (-1,.slice none 0 0)
      case measure=>simp[intOf];omega
     ·have hkl': ¬(k:Int)<(m:Int):=by omega
      obtain rfl:k=m:=by omega
      have HB:=aa hB
      clear hB
      go_wp2
      go_ret
      exact⟨_,rfl,_,_,HB.out⟩
def qS (n:Nat):List Th:=List.replicate n ⟨aP 0,-1⟩
def ic (m:Nat):List Lk:=List.replicate m ⟨-1,[]⟩
theorem uF (n m:Nat) (h1:1≤n) (h2:n≤1024) (h3:m≤32):ei (qS n) (ic m):=by
 refine⟨by simpa [qS] using h1,by simpa [qS] using h2,by simpa [ic] using h3,?_,?_,?_,?_⟩
 ·intro x hx
  obtain rfl:=List.eq_of_mem_replicate hx
  refine⟨⟨⟨by decide,by decide⟩,by decide,by decide⟩,by decide,?_⟩
  show(-1:Int)<_
  omega
 ·intro y hy
  obtain rfl:=List.eq_of_mem_replicate hy
  refine⟨by decide,?_,by simp,by simp,by simp⟩
  show(-1:Int)<_
  omega
 ·intro t x hx m' y hy
  obtain rfl:=List.eq_of_mem_replicate (List.mem_of_getElem? hx)
  obtain rfl:=List.eq_of_mem_replicate (List.mem_of_getElem? hy)
  simp
 ·refine⟨0,fun _=>0,fun _=>Nat.le_refl _,?_⟩
  rintro t s ⟨y,hy,ht,_⟩
  obtain rfl:=List.eq_of_mem_replicate hy
  simp at ht
section
variable {w w':World} {base s:Nat} {vt vl:Value} {V:List Value} {T:List Th} {L:List Lk}
theorem cL.new {gt gl n m:Nat} (h:bH w w' s gt gl n m (o0 n n) (pK m m)) (h1:1≤n) (h2:n≤1024) (h3:m≤32):
  cL w' w.heap.size s (.slice (some ⟨gt,0,none⟩) n n) (.slice (some ⟨gl,0,none⟩) m m) (List.replicate m (.slice none 0 0)) (qS n) (ic m):=by
 have e1:(qS n).length=n:=by simp[qS]
 have e2:(ic m).length=m:=by simp[ic]
 have e3:((ic m).map (·.h)).zip (List.replicate m (Value.slice none 0 0))=List.replicate m (-1,Value.slice none 0 0):=by
  simp[ic,List.map_replicate]
 have ht:=h.tho
 have hl:=h.lko
 rw[xm] at ht
 rw[yd] at hl
 refine⟨h.blk,h.lo,by rw[e1];exact ht,by rw[e2,e3];exact hl,by rw[e2];simp,?_,?_,h.be.size,uF n m h1 h2 h3⟩
 ·intro j y v hy hv
  obtain rfl:=List.eq_of_mem_replicate (List.mem_of_getElem? hy)
  obtain rfl:=List.eq_of_mem_replicate (List.mem_of_getElem? hv)
  exact World.ownsRow_nil _ _ _ _
 ·intro i j u v k hu hv hk
  obtain rfl:=List.eq_of_mem_replicate (List.mem_of_getElem? hu)
  simp[Value.ownBlock] at hk
theorem lI: ∀(T:List Th) (i:Nat) (x:Th) (k:K),T[i]? =some x→cF (T.set i ⟨k,x.u⟩)=(((cF T).set (i*4) (.bool k.e)).set (i*4+1) (.int .u64 k.d)).set (i*4+2) (.int .u8 k.l)
 |[],i,x,k,h=>by simp at h
 |y::T,0,x,k,h=>by
  simp at h
  subst h
  simp[bC,tT]
 |y::T,i+1,x,k,h=>by
  have:=lI T i x k (by simpa using h)
  rw[List.set_cons_succ,bC,this,bC,show(i+1)*4=i*4+4 by omega]
  rfl
theorem ei.rD (f:ei T L) {j:Nat} {x:Th} (hx:T[j]? =some x) {k:K} (hk:k.ok):ei (T.set j ⟨k,x.u⟩) L:=by
 refine⟨by simpa using f.t1,by simpa using f.t2,f.l2,?_,by simpa using f.lk,?_,f.ac⟩
 ·intro y hy
  rcases List.mem_or_eq_of_mem_set hy with q|q
  ·exact f.th y q
  ·rw[q]
   exact⟨hk,(f.th x (List.mem_of_getElem? hx)).2⟩
 ·intro t y hy m z hz
  rw[List.getElem?_set] at hy
  by_cases q:j=t
  ·subst q
   have hj:=(List.getElem?_eq_some_iff.1 hx).1
   rw[if_pos rfl,if_pos hj] at hy
   obtain rfl:=Option.some.inj hy
   exact f.wt j x hx m z hz
  ·rw[if_neg q] at hy
   exact f.wt t y hy m z hz
theorem cL.blocks (h:cL w base s vt vl V T L) {g:Nat} (hg:vt.ownBlock=some g):g≠s∧vl.ownBlock≠some g∧ ∀v∈V,v.ownBlock≠some g:=by
 obtain⟨_,_,c,e⟩:=aq h.tho hg
 refine⟨fun q=> ?_,fun q=> ?_,fun v hv q=> ?_⟩
 ·rw[q,h.blk] at e;simp at e
 ·obtain⟨_,_,c',e'⟩:=aq h.lko q
  rw[e] at e';simp at e'
 ·obtain⟨j,hj⟩:=List.mem_iff_getElem?.1 hv
  have hjl:=(List.getElem?_eq_some_iff.1 hj).1
  rw[h.vs] at hjl
  obtain⟨_,_,c',e'⟩:=aq (h.lin j _ v (List.getElem?_eq_getElem hjl) hj) q
  rw[e] at e';simp at e'
theorem cL.sH (h:cL w base s vt vl V T L) {g:Nat} (hg:vt.ownBlock=some g) {T':List Th} (h0:w'.heap.size=w.heap.size) (h1: ∀k,k≠g→w'.heap[k]? =w.heap[k]?)
  (ht:w'.ownsRow base 143 4 vt T'.length (cF T')) (f:ei T' L):cL w' base s vt vl V T' L:=by
 obtain⟨b1,b2,b3⟩:=h.blocks hg
 exact⟨(h1 s (Ne.symm b1)).trans h.blk,h.lo,ht,aK h.lko (fun k hk=>h1 k (fun q=>b2 (by rw[hk,q]))),h.vs,
  fun j y v hy hv=>aK (h.lin j y v hy hv) (fun k hk=>h1 k (fun q=>b3 v (List.mem_of_getElem? hv) (by rw[hk,q]))),h.apart,by rw[h0];exact h.bs,f⟩
theorem cL.rD {g cap:Nat} (h:cL w base s (.slice (some ⟨g,0,none⟩) T.length cap) vl V T L) {j:Nat} {x:Th} (hx:T[j]? =some x) {k:K} (hk:k.ok):
  cL (((w.setCell ⟨g,j*4,none⟩ (.bool k.e)).setCell ⟨g,j*4+1,none⟩ (.int .u64 k.d)).setCell ⟨g,j*4+2,none⟩ (.int .u8 k.l)) base s (.slice (some ⟨g,0,none⟩) T.length cap) vl V (T.set j ⟨k,x.u⟩) L:=by
 have hj:=(List.getElem?_eq_some_iff.1 hx).1
 refine h.sH (g:=g) rfl (by simp) (fun b hb=> ?_) ?_ (h.f.rD hx hk)
 ·rw[Below.heap_setCell _ _ _ _ hb,Below.heap_setCell _ _ _ _ hb,Below.heap_setCell _ _ _ _ hb]
 ·rw[lI T j x k hx,List.length_set]
  exact aQ (aQ (aQ h.tho (j*4) (by omega) _) (j*4+1) (by omega) _) (j*4+2) (by omega) _
theorem sA (h:cL w base s vt vl V T L) (t:Int) (k:K) (hn:jT T t=false∨ay k=false):Calls Tryz.prog 77 #[.pointer (some ⟨s,0,none⟩),.int .i64 t,.agg #[.bool k.e,.int .u64 k.d,.int .u8 k.l]] w fun e w'=>e= .returned (.int .i64 2)∧Below w.heap.size w w':=by
 have HT:=aa (fun w' (hb:Below w.heap.size w w')=>nU (h.below hb) t)
 have HR:=aa (fun w=>dL w k)
 cases ht:jT T t with
 |false=>
  simp only[ht] at HT
  clear h hn ht
  go_enter Tryz.func77,Tryz.ntmps77
  go_wp2_with (go_at_call 97;refine(HT.out _ (by first|exact Below.refl _ _|exact(Below.refl _ _).alloc (Nat.le_refl _) _)).mono ?_;rintro e w1 ⟨rfl,hw⟩;replace hw:=hw.symm;subst hw)
  go_ret
  exact⟨rfl,by first|exact Below.refl _ _|exact(Below.refl _ _).alloc (Nat.le_refl _) _⟩
 |true=>
  have hr:ay k=false:=by
   rcases hn with q|q
   ·rw[ht] at q;simp at q
   ·exact q
  simp only[ht] at HT
  simp only[hr] at HR
  clear h hn ht hr
  go_enter Tryz.func77,Tryz.ntmps77
  go_wp2_with (first
   |(go_at_call 97;refine(HT.out _ (by first|exact Below.refl _ _|exact(Below.refl _ _).alloc (Nat.le_refl _) _)).mono ?_;rintro e w1 ⟨rfl,hw⟩;subst hw)
   |(go_at_call 126;refine(HR.out _).mono ?_;rintro e w1 ⟨rfl,hb1⟩))
  go_ret
  exact⟨rfl,((Below.refl _ _).alloc (Nat.le_refl _) _).trans (hb1.mono (by simp))⟩
theorem cL.drew (h:cL w base s vt vl V T L):cL w.drew base s vt vl V T L:=⟨h.blk,h.lo,h.tho.drew,h.lko.drew,h.vs,fun j y v a b=>(h.lin j y v a b).drew,h.apart,h.bs,h.f⟩
theorem Fr.drew {S:Nat→Prop} (h:Fr S w w'):Fr S w w'.drew:=⟨h.os,h.tape,h.output,h.size,h.block⟩
theorem uS (h:cL w base s vt vl V T L) (j:Nat) (x:Th) (hx:T[j]? =some x) (k:K) (hk:k.ok) (hr:ay k=true):Calls Tryz.prog 77 #[.pointer (some ⟨s,0,none⟩),.int .i64 (j:Int),.agg #[.bool k.e,.int .u64 k.d,.int .u8 k.l]] w fun e w'=>e= .returned (.int .i64 0)∧cL w' base s vt vl V (T.set j ⟨k,x.u⟩) L∧Fr (fun b=>vt.ownBlock=some b) w w':=by
 have hj:=(List.getElem?_eq_some_iff.1 hx).1
 have hj':(j:Int)<(T.length:Int):=by omega
 have HT:=aa (fun w' (hb:Below w.heap.size w w')=>nU (h.below hb) (j:Int))
 have ht:jT T (j:Int)=true:=by unfold jT;simp;omega
 have HR:=aa (fun w=>dL w k)
 simp only[ht] at HT
 simp only[hr] at HR
 obtain⟨g,cap,rfl,hc1,hc2,_⟩:=h.ot
 have HG:Hid (∀w1,Below (w.alloc (.cells #[.bool k.e,.int .u64 k.d,.int .u8 k.l] 67)).heap.size (w.alloc (.cells #[.bool k.e,.int .u64 k.d,.int .u8 k.l] 67)) w1→
   w1.cell? ⟨s,0,none⟩=some (.slice (some ⟨g,0,none⟩) T.length cap)∧w1.cell? ⟨w.heap.size,0,none⟩=some (.bool k.e)∧w1.cell? ⟨w.heap.size,1,none⟩=some (.int .u64 k.d)∧w1.cell? ⟨w.heap.size,2,none⟩=some (.int .u8 k.l)∧
   (∀o,w1.frozen? ⟨g,o,none⟩=false)∧w1.cell? ⟨g,j*4,none⟩=some (.bool x.k.e)∧w1.cell? ⟨g,j*4+1,none⟩=some (.int .u64 x.k.d)∧w1.cell? ⟨g,j*4+2,none⟩=some (.int .u8 x.k.l)∧
   ((((w1.setCell ⟨g,j*4,none⟩ (.bool k.e)).setCell ⟨g,j*4+1,none⟩ (.int .u64 k.d)).setCell ⟨g,j*4+2,none⟩ (.int .u8 k.l)).drew.cell? ⟨s,0,none⟩=some (.slice (some ⟨g,0,none⟩) T.length cap)∧(((w1.setCell ⟨g,j*4,none⟩ (.bool k.e)).setCell ⟨g,j*4+1,none⟩ (.int .u64 k.d)).setCell ⟨g,j*4+2,none⟩ (.int .u8 k.l)).drew.cell? ⟨w.heap.size,0,none⟩=some (.bool k.e)∧(((w1.setCell ⟨g,j*4,none⟩ (.bool k.e)).setCell ⟨g,j*4+1,none⟩ (.int .u64 k.d)).setCell ⟨g,j*4+2,none⟩ (.int .u8 k.l)).drew.cell? ⟨w.heap.size,1,none⟩=some (.int .u64 k.d)∧(((w1.setCell ⟨g,j*4,none⟩ (.bool k.e)).setCell ⟨g,j*4+1,none⟩ (.int .u64 k.d)).setCell ⟨g,j*4+2,none⟩ (.int .u8 k.l)).drew.cell? ⟨w.heap.size,2,none⟩=some (.int .u8 k.l))∧
   cL (((w1.setCell ⟨g,j*4,none⟩ (.bool k.e)).setCell ⟨g,j*4+1,none⟩ (.int .u64 k.d)).setCell ⟨g,j*4+2,none⟩ (.int .u8 k.l)) base s (.slice (some ⟨g,0,none⟩) T.length cap) vl V (T.set j ⟨k,x.u⟩) L∧
   Fr (fun b=>(Value.slice (some ⟨g,0,none⟩) T.length cap).ownBlock=some b) w (((w1.setCell ⟨g,j*4,none⟩ (.bool k.e)).setCell ⟨g,j*4+1,none⟩ (.int .u64 k.d)).setCell ⟨g,j*4+2,none⟩ (.int .u8 k.l))):=by
  intro w1 hb
  have hb0:Below w.heap.size w (w.alloc (.cells #[.bool k.e,.int .u64 k.d,.int .u8 k.l] 67)):=(Below.refl _ _).alloc (Nat.le_refl _) _
  have hb2:Below w.heap.size w w1:=hb0.trans (hb.mono hb0.size)
  have h1:=h.below hb2
  obtain⟨g',cap',e,_,_,_,_,hf,hc⟩:=h1.ot
  simp at e
  obtain⟨rfl,rfl⟩:=e
  obtain⟨y0,y1,y2,y3⟩:=hc j x hx
  obtain⟨z0,z1,z2⟩:=nO w k 67
  have hg:=(aq h.tho (k:=g) rfl).2.1
  have hgne:w.heap.size≠g:=by omega
  have hS: ∀u:Nat,(((w1.setCell ⟨g,j*4,none⟩ (.bool k.e)).setCell ⟨g,j*4+1,none⟩ (.int .u64 k.d)).setCell ⟨g,j*4+2,none⟩ (.int .u8 k.l)).drew.heap[w.heap.size]? =w1.heap[w.heap.size]? :=fun _=>by
   show(((w1.setCell ⟨g,j*4,none⟩ (.bool k.e)).setCell ⟨g,j*4+1,none⟩ (.int .u64 k.d)).setCell ⟨g,j*4+2,none⟩ (.int .u8 k.l)).heap[w.heap.size]? =_
   rw[Below.heap_setCell _ _ _ _ hgne,Below.heap_setCell _ _ _ _ hgne,Below.heap_setCell _ _ _ _ hgne]
  have hlt:w.heap.size<(w.alloc (.cells #[.bool k.e,.int .u64 k.d,.int .u8 k.l] 67)).heap.size:=by simp
  refine⟨h1.c0,(hb.cell (p:=⟨w.heap.size,0,none⟩) hlt).trans z0,(hb.cell (p:=⟨w.heap.size,1,none⟩) hlt).trans z1,(hb.cell (p:=⟨w.heap.size,2,none⟩) hlt).trans z2,hf,y0,y1,y2,?_,h1.rD hx hk,?_⟩
  ·refine⟨(h1.rD hx hk).drew.c0,?_,?_,?_⟩
   ·exact(World.cell?_of_block (hS 0)).trans ((hb.cell (p:=⟨w.heap.size,0,none⟩) hlt).trans z0)
   ·exact(World.cell?_of_block (hS 0)).trans ((hb.cell (p:=⟨w.heap.size,1,none⟩) hlt).trans z1)
   ·exact(World.cell?_of_block (hS 0)).trans ((hb.cell (p:=⟨w.heap.size,2,none⟩) hlt).trans z2)
  exact(((Fr.aD (S:=fun b=>(Value.slice (some ⟨g,0,none⟩) T.length cap).ownBlock=some b) hb2).setCell (a:=⟨g,j*4,none⟩) rfl _).setCell (a:=⟨g,j*4+1,none⟩) rfl _).setCell (a:=⟨g,j*4+2,none⟩) rfl _
 clear h hr ht hx hk
 go_enter Tryz.func77,Tryz.ntmps77
 go_wp2_with (first
  |(go_at_call 97;refine(HT.out _ (by first|exact Below.refl _ _|exact(Below.refl _ _).alloc (Nat.le_refl _) _)).mono ?_;rintro e w1 ⟨rfl,hw⟩;subst hw)
  |(go_at_call 126;refine(HR.out _).mono ?_;rintro e w1 ⟨rfl,hb1⟩;obtain⟨c0,k0,k1,k2,fz,y0,y1,y2,hSS,hI,hF⟩:=HG.out w1 hb1;replace hI:=aa hI;replace hF:=aa hF;clear hb1))
 have hS1:=aa (And.intro c0 (And.intro k0 (And.intro k1 k2)))
 have hS2:Hid (w1.drew.cell? ⟨s,0,none⟩=some (.slice (some ⟨g,0,none⟩) T.length cap)∧w1.drew.cell? ⟨w.heap.size,0,none⟩=some (.bool k.e)∧w1.drew.cell? ⟨w.heap.size,1,none⟩=some (.int .u64 k.d)∧w1.drew.cell? ⟨w.heap.size,2,none⟩=some (.int .u8 k.l)):=⟨c0,k0,k1,k2⟩
 replace hSS:=aa hSS
 go_region_held3 (fun w'=>(w'.cell? ⟨s,0,none⟩=some (.slice (some ⟨g,0,none⟩) T.length cap)∧w'.cell? ⟨w.heap.size,0,none⟩=some (.bool k.e)∧w'.cell? ⟨w.heap.size,1,none⟩=some (.int .u64 k.d)∧w'.cell? ⟨w.heap.size,2,none⟩=some (.int .u8 k.l)))
  (first|with_reducible exact hS1.out|with_reducible exact hS2.out|with_reducible exact hSS.out)
  (first|fail)
 all_goals go_wp2
 all_goals go_ret
 all_goals exact⟨rfl,hI.out.drew,hF.out.drew⟩
end
theorem jE: ∀(Z:List (Int×Value)) (i:Nat) (z:Int×Value) (a:Int),Z[i]? =some z→dc (Z.set i (a,z.2))=(dc Z).set (i*2) (.int .i64 a)
 |[],i,z,a,h=>by simp at h
 |y::Z,0,z,a,h=>by
  simp at h
  subst h
  simp[bB]
 |y::Z,i+1,z,a,h=>by
  have:=jE Z i z a (by simpa using h)
  rw[List.set_cons_succ,bB,this,bB,show(i+1)*2=i*2+2 by omega]
  rfl
theorem rn {α β:Type}: ∀(A:List α) (B:List β) (i:Nat) (a:α) (b:β),B[i]? =some b→(A.set i a).zip B=(A.zip B).set i (a,b)
 |[],B,i,a,b,h=>by simp
 |x::A,[],i,a,b,h=>by simp
 |x::A,y::B,0,a,b,h=>by
  simp at h
  subst h
  simp
 |x::A,y::B,i+1,a,b,h=>by
  have:=rn A B i a b (by simpa using h)
  simp[this]
section
variable {w w':World} {base s:Nat} {vt vl:Value} {V:List Value} {T:List Th} {L:List Lk}
theorem cL.yD (h:cL w base s vt vl V T L) {g:Nat} (hg:vl.ownBlock=some g):g≠s∧vt.ownBlock≠some g∧ ∀v∈V,v.ownBlock≠some g:=by
 obtain⟨_,_,c,e⟩:=aq h.lko hg
 refine⟨fun q=> ?_,fun q=> ?_,fun v hv q=> ?_⟩
 ·rw[q,h.blk] at e;simp at e
 ·obtain⟨_,_,c',e'⟩:=aq h.tho q
  rw[e] at e';simp at e'
 ·obtain⟨j,hj⟩:=List.mem_iff_getElem?.1 hv
  have hjl:=(List.getElem?_eq_some_iff.1 hj).1
  rw[h.vs] at hjl
  obtain⟨_,_,c',e'⟩:=aq (h.lin j _ v (List.getElem?_eq_getElem hjl) hj) q
  rw[e] at e';simp at e'
theorem cL.hold {g cap:Nat} (h:cL w base s vt (.slice (some ⟨g,0,none⟩) L.length cap) V T L) {m:Nat} {y:Lk} (hy:L[m]? =some y) (a:Int) (f:ei T (L.set m ⟨a,y.l⟩)):
  cL (w.setCell ⟨g,m*2,none⟩ (.int .i64 a)) base s vt (.slice (some ⟨g,0,none⟩) L.length cap) V T (L.set m ⟨a,y.l⟩):=by
 have hm:=(List.getElem?_eq_some_iff.1 hy).1
 obtain⟨v,hv⟩: ∃v,V[m]? =some v:=⟨_,List.getElem?_eq_getElem (by rw[h.vs];exact hm)⟩
 obtain⟨b1,b2,b3⟩:=h.yD (g:=g) rfl
 have hz:((L.map (·.h)).zip V)[m]? =some (y.h,v):=by rw[List.getElem?_zip_eq_some];simp[hy,hv]
 have e:((L.set m ⟨a,y.l⟩).map (·.h)).zip V=((L.map (·.h)).zip V).set m (a,v):=by rw[List.map_set];exact rn _ _ _ _ _ hv
 refine⟨?_,h.lo,aK h.tho ?_,?_,by simpa using h.vs,?_,h.apart,by simpa using h.bs,f⟩
 ·rw[Below.heap_setCell _ _ _ _ (Ne.symm b1)]
  exact h.blk
 ·intro k hk
  exact Below.heap_setCell _ _ _ _ (fun q=>b2 (by rw[hk];exact congrArg some q))
 ·rw[e,jE _ m (y.h,v) a hz,List.length_set]
  exact aQ h.lko (m*2) (by omega) _
 ·intro j x u hx hu
  have hx': ∃x',L[j]? =some x'∧x'.l=x.l:=by
   rw[List.getElem?_set] at hx
   by_cases q:m=j
   ·subst q
    rw[if_pos rfl,if_pos hm] at hx
    obtain rfl:=Option.some.inj hx
    exact⟨y,hy,rfl⟩
   ·rw[if_neg q] at hx
    exact⟨x,hx,rfl⟩
  obtain⟨x',e1,e2⟩:=hx'
  rw[←e2]
  refine aK (h.lin j x' u e1 hu) ?_
  intro k hk
  exact Below.heap_setCell _ _ _ _ (fun q=>b3 u (List.mem_of_getElem? hu) (by rw[hk];exact congrArg some q))
theorem ei.take (f:ei T L) {m:Nat} {y:Lk} (hy:L[m]? =some y) (hf:y.h= -1) {t:Nat} (ht:t<T.length):y.l=[]∧ei T (L.set m ⟨(t:Int),y.l⟩):=by
 have ho:=f.lk y (List.mem_of_getElem? hy)
 have hl:y.l=[]:=by
  cases q:y.l with
  |nil=>rfl
  |cons a b=>
   have:=ho.2.2.2.2 (by rw[q];simp)
   omega
 have hm:=(List.getElem?_eq_some_iff.1 hy).1
 refine⟨hl,f.t1,f.t2,by simpa using f.l2,by simpa using f.th,?_,?_,f.ac.less ?_⟩
 ·intro z hz
  rcases List.mem_or_eq_of_mem_set hz with q|q
  ·exact f.lk z q
  ·subst q
   refine⟨by show(-1:Int)≤t;omega,by show(t:Int)<_;omega,ho.2.2.1,ho.2.2.2.1,fun _=>by show(0:Int)≤t;omega⟩
 ·intro a x hx k z hz
  rw[List.getElem?_set] at hz
  by_cases q:m=k
  ·subst q
   rw[if_pos rfl,if_pos hm] at hz
   obtain rfl:=Option.some.inj hz
   exact f.wt a x hx m y hy
  ·rw[if_neg q] at hz
   exact f.wt a x hx k z hz
 ·rintro a b ⟨z,hz,ha,hb⟩
  rcases List.mem_or_eq_of_mem_set hz with q|q
  ·exact⟨z,q,ha,hb⟩
  ·subst q
   rw[hl] at ha
   simp at ha
theorem wC (h:cL w base s vt vl V T L) (t m:Int) (he:dq T L t m≠0):Calls Tryz.prog 181 #[.pointer (some ⟨s,0,none⟩),.int .i64 t,.int .i64 m] w fun e w'=>e= .returned (.tuple #[.bool false,.int .i64 (dq T L t m)])∧w'=w:=by
 have HM:=aa (dw h t m)
 generalize dq T L t m=z at he HM
 clear h
 go_enter Tryz.func181,Tryz.ntmps181
 go_wp2_with (go_at_call 182;refine(HM.out).mono ?_;rintro e w1 ⟨rfl,hw⟩;replace hw:=hw.symm;subst hw)
 simp[bodyPost,results,Tryz.results181,go_sem]
theorem cY {t m:Int} (he:dq T L t m=0): ∃(i j:Nat) (x:Th) (y:Lk),t=i∧m=j∧i<T.length∧j<L.length∧T[i]? =some x∧x.u= -1∧L[j]? =some y:=by
 unfold dq at he
 split at he
 ·rename_i q
  simp only[Bool.and_eq_true] at q
  obtain⟨i,x,e1,e2,e3,e4⟩:=ka q.1
  obtain⟨j,y,f1,f2,f3,f4⟩:=se q.2
  split at he
  ·rename_i q2
   rw[e4] at q2
   exact⟨i,j,x,y,e1,f1,e2,f2,e3,q2,f3⟩
  ·omega
 ·omega
theorem vI (h:cL w base s vt vl V T L) (i j:Nat) (he:dq T L i j=0) (y:Lk) (hy:L[j]? =some y) (ho:y.h=(i:Int)):Calls Tryz.prog 181 #[.pointer (some ⟨s,0,none⟩),.int .i64 (i:Int),.int .i64 (j:Int)] w fun e w'=>e= .returned (.tuple #[.bool false,.int .i64 7])∧w'=w:=by
 have HM:=aa (dw h (i:Int) (j:Int))
 rw[he] at HM
 have hj:=(List.getElem?_eq_some_iff.1 hy).1
 have hj':(j:Int)<(L.length:Int):=by omega
 obtain⟨v,hv⟩:=h.line hj
 obtain⟨g,cap,rfl,hc1,hc2,hg,hgs,_,hc⟩:=h.jL (by omega)
 obtain⟨y0,y1⟩:=hc j y v hy hv
 rw[ho] at y0
 have c1:=h.c1
 clear h hc he
 go_enter Tryz.func181,Tryz.ntmps181
 go_wp2_with (go_at_call 182;refine(HM.out).mono ?_;rintro e w1 ⟨rfl,hw⟩;replace hw:=hw.symm;subst hw)
 simp[bodyPost,results,Tryz.results181,go_sem]
theorem jq (h:cL w base s vt vl V T L) (i j:Nat) (he:dq T L i j=0) (y:Lk) (hy:L[j]? =some y) (ho:y.h= -1):Calls Tryz.prog 181 #[.pointer (some ⟨s,0,none⟩),.int .i64 (i:Int),.int .i64 (j:Int)] w fun e w'=>e= .returned (.tuple #[.bool true,.int .i64 0])∧cL w' base s vt vl V T (L.set j ⟨(i:Int),y.l⟩)∧Fr (fun b=>vl.ownBlock=some b) w w':=by
 have HM:=aa (dw h (i:Int) (j:Int))
 obtain⟨i',j',x,y',e1,e2,hi,hj,hx,hu,hy'⟩:=cY he
 obtain rfl:i=i':=by omega
 obtain rfl:j=j':=by omega
 rw[he] at HM
 have hj':(j:Int)<(L.length:Int):=by omega
 have hni: ¬(-1:Int)=(i:Int):=by omega
 obtain⟨v,hv⟩:=h.line hj
 obtain⟨g,cap,rfl,hc1,hc2,hg,hgs,fz,hc⟩:=h.jL (by omega)
 obtain⟨y0,y1⟩:=hc j y v hy hv
 rw[ho] at y0
 have c1:=h.c1
 have HI:=aa (h.hold hy (i:Int) (h.f.take hy ho hi).2)
 have HF:Hid (Fr (fun b=>(Value.slice (some ⟨g,0,none⟩) L.length cap).ownBlock=some b) w (w.setCell ⟨g,j*2,none⟩ (.int .i64 (i:Int)))):=(Fr.refl (fun b=>(Value.slice (some ⟨g,0,none⟩) L.length cap).ownBlock=some b) w).setCell (a:=⟨g,j*2,none⟩) rfl _
 clear h hc he e1 e2 hx hu hy'
 go_enter Tryz.func181,Tryz.ntmps181
 go_wp2_with (go_at_call 182;refine(HM.out).mono ?_;rintro e w1 ⟨rfl,hw⟩;replace hw:=hw.symm;subst hw)
 simp[bodyPost,results,Tryz.results181,go_sem]
 exact⟨HI.out,HF.out⟩
end
end Go.Proofs.YtjlbmmiomfpgiaaGreatDoor.Pi
namespace Go.Proofs.YtjlbmmiomfpgiaaGreatDoor.Pi
open Go.Proofs.YtjlbmmiomfpgiaaGreatDoor.Ke
open Go.Shelf
open Go.RowKit hiding Hid
attribute [local go_sem] Oper.semAt_some
structure Bd (W:World) (s:Nat) (a:Option Addr) (cap:Nat) (L:List Lk):Prop where
 c1:W.cell? ⟨s,1,none⟩=some (.slice a L.length cap)
 le:L.length≤cap∧cap≤maxLen
 ce: ∀(j:Nat) y,L[j]? =some y→ ∃g va vn vc,a=some ⟨g,0,none⟩∧W.cell? ⟨g,j*2,none⟩=some (.int .i64 y.h)∧W.cell? ⟨g,j*2+1,none⟩=some (.slice va vn vc)
theorem cL.Da {w:World} {base s:Nat} {vt vl:Value} {V:List Value} {T:List Th} {L:List Lk} (h:cL w base s vt vl V T L): ∃a cap,vl= .slice a L.length cap∧Bd w s a cap L:=by
 obtain⟨a,cap,rfl,h1,h2⟩:=gz h.lko
 refine⟨a,cap,rfl,h.c1,⟨h1,h2⟩,fun j y hy=> ?_⟩
 have hj:=(List.getElem?_eq_some_iff.1 hy).1
 obtain⟨v,hv⟩:=h.line hj
 obtain⟨g,cap',e,_,_,_,_,_,hc⟩:=h.jL (by omega)
 simp at e
 obtain⟨y0,y1⟩:=hc j y v hy hv
 obtain⟨va,vc,rfl,_⟩:=gz (h.lin j y v hy hv)
 exact⟨g,va,_,vc,e.1,y0,y1⟩
theorem xb:(Tryz.prog.info? 3).map (fun i=>(i.zero,i.size,i.bytes))=some (some (.int .i64 0),1,8):=by kernel_rfl
theorem yF (nn s:Nat) (t:Int) (w:World):
  CallsIn Fence.wide nn Tryz.prog 144 #[.pointer (some ⟨s,0,none⟩),.int .i64 t] w fun e w'=>e= .returned (.func (.func 171) #[] #[.pointer (some ⟨w.heap.size,0,none⟩),.pointer (some ⟨w.heap.size+1,0,none⟩)])∧
   w'=(w.alloc (.cells #[.pointer (some ⟨s,0,none⟩)] 86)).alloc (.cells #[.int .i64 t] 3):=by
 refine callsIn_of_wp Tryz.func144 rfl trivial ?_ rfl
 simp only[Tryz.ntmps144,List.size_toArray,List.length_cons,List.length_nil,Nat.reduceAdd,Nat.reduceSub,Array.replicate_succ,Array.replicate_zero,List.push_toArray,List.append_toArray,List.nil_append,List.cons_append]
 gi_wp2
 go_ret
 exact⟨by simp,rfl⟩
theorem Bd.below {W W':World} {s:Nat} {a:Option Addr} {cap n0:Nat} {L:List Lk} (h:Bd W s a cap L) (hb:Below n0 W W') (h1:s<n0) (h2: ∀g,a=some ⟨g,0,none⟩→g<n0):Bd W' s a cap L:=by
 refine⟨(hb.cell (p:=⟨s,1,none⟩) h1).trans h.c1,h.le,fun j y hy=> ?_⟩
 obtain⟨g,va,vn,vc,e,y0,y1⟩:=h.ce j y hy
 exact⟨g,va,vn,vc,e,(hb.cell (p:=⟨g,j*2,none⟩) (h2 g e)).trans y0,(hb.cell (p:=⟨g,j*2+1,none⟩) (h2 g e)).trans y1⟩
theorem iM {w:World} {base base':Nat} {e:TypeId} {size:Nat} {v:Value} {n:Nat} {xs:List Value} (h:w.ownsRow base e size v n xs) (hb: ∀k,v.ownBlock=some k→base'≤k):w.ownsRow base' e size v n xs:=by
 refine⟨h.1,?_⟩
 rcases h.2 with q|⟨g,cap,cur,e1,h0,rest⟩
 ·exact .inl q
 ·exact .inr ⟨g,cap,cur,e1,hb g (by rw[e1];rfl),rest⟩
section
variable {w:World} {base s:Nat} {vt vl:Value} {V:List Value} {T:List Th} {L:List Lk}
end
inductive pH (T:List Th) (L:List Lk):Int→List Int→Prop
 |stop:pH T L (-1) []
 |on {m i:Nat} {y:Lk} {x:Th} {xs:List Int}:L[m]? =some y→y.h=(i:Int)→T[i]? =some x→pH T L x.u xs→pH T L (m:Int) ((i:Int)::xs)
theorem ei.chain {T:List Th} {L:List Lk} (f:ei T L): ∀(m:Nat) (y:Lk),L[m]? =some y→0≤y.h→ ∃xs,pH T L (m:Int) xs:=by
 obtain⟨B,r,hb,hr⟩:=f.ac
 suffices h: ∀(k m:Nat) (y:Lk) (i:Nat),L[m]? =some y→y.h=(i:Int)→B-r i≤k→ ∃xs,pH T L (m:Int) xs by
  intro m y hy h0
  exact h _ m y y.h.toNat hy (by omega) (Nat.le_refl _)
 intro k
 induction k with
 |zero=>
  intro m y i hy hi hk
  have ho:=f.lk y (List.mem_of_getElem? hy)
  have hil:i<T.length:=by have:=ho.2.1;omega
  have hx:T[i]? =some _:=List.getElem?_eq_getElem hil
  have hok:=f.th _ (List.mem_of_getElem? hx)
  by_cases hu:(T[i]).u= -1
  ·exact⟨_,.on hy hi hx (by rw[hu];exact .stop)⟩
  ·exfalso
   obtain⟨m',hm'⟩: ∃m':Nat,(T[i]).u=(m':Int):=⟨(T[i]).u.toNat,by have:=hok.2.1;omega⟩
   have hml:m'<L.length:=by have:=hok.2.2;omega
   have hy':L[m']? =some _:=List.getElem?_eq_getElem hml
   have hin:=(f.wt i _ hx m' _ hy').2 hm'
   have h0:=(f.lk _ (List.mem_of_getElem? hy')).2.2.2.2 (List.ne_nil_of_mem hin)
   have:=hr i (L[m']).h.toNat ⟨_,List.mem_of_getElem? hy',hin,by omega⟩
   have:=hb (L[m']).h.toNat
   omega
 |succ k ih=>
  intro m y i hy hi hk
  have ho:=f.lk y (List.mem_of_getElem? hy)
  have hil:i<T.length:=by have:=ho.2.1;omega
  have hx:T[i]? =some _:=List.getElem?_eq_getElem hil
  have hok:=f.th _ (List.mem_of_getElem? hx)
  by_cases hu:(T[i]).u= -1
  ·exact⟨_,.on hy hi hx (by rw[hu];exact .stop)⟩
  ·obtain⟨m',hm'⟩: ∃m':Nat,(T[i]).u=(m':Int):=⟨(T[i]).u.toNat,by have:=hok.2.1;omega⟩
   have hml:m'<L.length:=by have:=hok.2.2;omega
   have hy':L[m']? =some _:=List.getElem?_eq_getElem hml
   have hin:=(f.wt i _ hx m' _ hy').2 hm'
   have h0:=(f.lk _ (List.mem_of_getElem? hy')).2.2.2.2 (List.ne_nil_of_mem hin)
   have hlt:=hr i (L[m']).h.toNat ⟨_,List.mem_of_getElem? hy',hin,by omega⟩
   have hbb:=hb (L[m']).h.toNat
   obtain⟨xs,hxs⟩:=ih m' _ (L[m']).h.toNat hy' (by omega) (by omega)
   exact⟨_,.on hy hi hx (by rw[hm'];exact hxs)⟩
theorem pH.leads {T:List Th} {L:List Lk} (f:ei T L) {at':Int} {xs:List Int} (h:pH T L at' xs): ∀(m:Nat) (y:Lk) (i:Nat),at'=(m:Int)→L[m]? =some y→y.h=(i:Int)→ ∀t:Nat,((t:Int)∈xs↔cT L i t):=by
 induction h with
 |stop=>intro m y i e;omega
 | @on m0 i0 y0 x0 xs hy0 hi0 hx0 hc ih=>
  intro m y i e hy hi t
  obtain rfl:m0=m:=by omega
  obtain rfl:y0=y:=by rw[hy0] at hy;exact Option.some.inj hy
  obtain rfl:i0=i:=by omega
  have hok:=f.th _ (List.mem_of_getElem? hx0)
  constructor
  ·intro ht
   rcases List.mem_cons.1 ht with q|q
   ·obtain rfl:t=i0:=by omega
    exact .here _
   ·by_cases hu:x0.u= -1
    ·rw[hu] at hc
     generalize hz:(-1:Int)=z at hc
     cases hc with
     |stop=>simp at q
     |on=>omega
    ·obtain⟨m',hm'⟩: ∃m':Nat,x0.u=(m':Int):=⟨x0.u.toNat,by have:=hok.2.1;omega⟩
     have hml:m'<L.length:=by have:=hok.2.2;omega
     have hy':L[m']? =some _:=List.getElem?_eq_getElem hml
     have hin:=(f.wt i0 _ hx0 m' _ hy').2 hm'
     have h0:=(f.lk _ (List.mem_of_getElem? hy')).2.2.2.2 (List.ne_nil_of_mem hin)
     exact .on ⟨_,List.mem_of_getElem? hy',hin,(by omega:(L[m']).h=(((L[m']).h.toNat:Nat):Int))⟩ ((ih m' _ (L[m']).h.toNat hm' hy' (by omega) t).1 q)
  ·intro hl
   cases hl with
   |here=>simp
   | @on _ s' _ e1 e2=>
    right
    obtain⟨z,hz,hin,hzh⟩:=e1
    obtain⟨m',hm'⟩:=List.mem_iff_getElem?.1 hz
    have hu:=(f.wt i0 _ hx0 m' z hm').1 hin
    exact(ih m' z s' hu hm' hzh t).2 e2
structure zQ (W:World) (s g cap:Nat) (T:List Th):Prop where
 c0:W.cell? ⟨s,0,none⟩=some (.slice (some ⟨g,0,none⟩) T.length cap)
 le:T.length≤cap∧cap≤maxLen
 ce: ∀(j:Nat) x,T[j]? =some x→W.cell? ⟨g,j*4,none⟩=some (.bool x.k.e)∧W.cell? ⟨g,j*4+1,none⟩=some (.int .u64 x.k.d)∧W.cell? ⟨g,j*4+2,none⟩=some (.int .u8 x.k.l)∧W.cell? ⟨g,j*4+3,none⟩=some (.int .i64 x.u)
theorem cL.Dm {w:World} {base s:Nat} {vt vl:Value} {V:List Value} {T:List Th} {L:List Lk} (h:cL w base s vt vl V T L): ∃g cap,vt= .slice (some ⟨g,0,none⟩) T.length cap∧zQ w s g cap T:=by
 obtain⟨g,cap,rfl,h1,h2,_,_,_,hc⟩:=h.ot
 exact⟨g,cap,rfl,h.c0,⟨h1,h2⟩,hc⟩
theorem zQ.below {W W':World} {s g cap n0:Nat} {T:List Th} (h:zQ W s g cap T) (hb:Below n0 W W') (h1:s<n0) (h2:g<n0):zQ W' s g cap T:=by
 refine⟨(hb.cell (p:=⟨s,0,none⟩) h1).trans h.c0,h.le,fun j x hx=> ?_⟩
 obtain⟨y0,y1,y2,y3⟩:=h.ce j x hx
 exact⟨(hb.cell (p:=⟨g,j*4,none⟩) h2).trans y0,(hb.cell (p:=⟨g,j*4+1,none⟩) h2).trans y1,(hb.cell (p:=⟨g,j*4+2,none⟩) h2).trans y2,(hb.cell (p:=⟨g,j*4+3,none⟩) h2).trans y3⟩
def Kg (n0 B s:Nat) (A B':World):Prop:=Below n0 A B'∧(Boxed A B 86 (.pointer (some ⟨s,0,none⟩))→Boxed B' B 86 (.pointer (some ⟨s,0,none⟩)))
theorem pH.one {T:List Th} {L:List Lk} {p:Int} {xs:List Int} (h:pH T L p xs): ∀ys,pH T L p ys→ys=xs:=by
 induction h with
 |stop=>
  intro ys h'
  generalize hz:(-1:Int)=z at h'
  cases h' with
  |stop=>rfl
  |on=>omega
 | @on m i y x xs hy hi hx hc ih=>
  intro ys h'
  generalize hz:(m:Int)=z at h'
  cases h' with
  |stop=>omega
  | @on m' i' y' x' xs' hy' hi' hx' hc'=>
   obtain rfl:m=m':=by omega
   obtain rfl:y=y':=by rw[hy] at hy';exact Option.some.inj hy'
   obtain rfl:i=i':=by omega
   obtain rfl:x=x':=by rw[hx] at hx';exact Option.some.inj hx'
   rw[ih _ hc']
open Classical in
noncomputable def oH (T:List Th) (L:List Lk) (p:Int):Nat:=if h: ∃xs,pH T L p xs then h.choose.length else 0
theorem oC {T:List Th} {L:List Lk} {p:Int} {xs:List Int} (h:pH T L p xs):oH T L p=xs.length:=by
 have hh: ∃xs,pH T L p xs:=⟨xs,h⟩
 unfold oH
 rw[dif_pos hh,h.one _ hh.choose_spec]
theorem lp (nn:Nat) (hn:1≤nn) (l B1 B2 n0 s gt ct:Nat) (a:Option Addr) (cap:Nat) (T:List Th) (L:List Lk) (m:Int) (ch:List Int) (hch:pH T L m ch) (J Jx:List Int→World→Prop)
  (hY: ∀pre x W,J pre W→pre.length<ch.length→YieldAt Fence.wide (nn-1) Tryz.prog l #[.int .i64 x] W fun e W'=>
   (e= .returned (.bool true)∧J (pre++[x]) W'∧Kg n0 B2 s W W')∨(e= .returned (.bool false)∧Jx (pre++[x]) W'))
  (W:World) (hb1:W.cell? ⟨B1,0,none⟩=some (.int .i64 m)) (hb2:Boxed W B2 86 (.pointer (some ⟨s,0,none⟩))) (hr:Bd W s a cap L) (ht:zQ W s gt ct T) (hT:T.length≤1024) (hL:L.length≤32) (hsn:s<n0) (hgt:gt<n0) (hgn: ∀g,a=some ⟨g,0,none⟩→g<n0) (h0:J [] W):
  CallsIn Fence.wide nn Tryz.prog 233 #[.func (.yield l) #[] #[],.pointer (some ⟨B1,0,none⟩),.pointer (some ⟨B2,0,none⟩)] W fun e W'=>(∃v,e= .returned v)∧
   ((∃ys,ys=ch∧J ys W')∨(∃pre,pre<+:ch∧Jx pre W')):=by
 have HR:=aa hr
 have HT:=aa ht
 have HB2:=aa hb2
 have H0:=aa h0
 have HY:=aa hY
 have HC:=aa hch
 clear hb2 hr h0 hY ht hch
 refine callsIn_of_wp Tryz.func233 rfl trivial ?_ rfl
 simp only[Tryz.ntmps233,List.size_toArray,List.length_cons,List.length_nil,Nat.reduceAdd,Nat.reduceSub,Array.replicate_succ,Array.replicate_zero,List.push_toArray,List.append_toArray,List.nil_append,List.cons_append]
 gi_wp2
 gi_loopw [4] (fun p wr=> ∃(d r:List Int) (q:Int),ch=d++r∧p= .int .i64 q∧pH T L q r∧Below n0 W wr∧Boxed wr B2 86 (.pointer (some ⟨s,0,none⟩))∧J d wr)
  (fun p _=>oH T L (intOf p))
 case atStart=>exact⟨[],ch,m,rfl,rfl,HC.out,Below.refl _ _,HB2.out,H0.out⟩
 case round=>
  obtain⟨d,r,q,hd,rfl,hc,hbe,hbx,hJ0⟩:=hrel
  cases hc with
  |stop=>
   have HJ0:=aa hJ0
   have HD:=aa hd
   clear hJ0 hbe hbx hd
   gi_wp2
   go_end0
   have e:ch=d:=by rw[HD.out];simp
   exact⟨⟨_,rfl⟩,.inl ⟨_,e.symm,HJ0.out⟩⟩
  | @on k i y x xs hy hi hx hc'=>
   have hk:=(List.getElem?_eq_some_iff.1 hy).1
   have hk':(k:Int)<(L.length:Int):=by omega
   have hil:=(List.getElem?_eq_some_iff.1 hx).1
   have hil':(i:Int)<(T.length:Int):=by omega
   have hkn: ¬(k:Int)= -1:=by omega
   have hre:=HR.out.below hbe hsn hgn
   obtain⟨g,va,vn,vc,rfl,y0,y1⟩:=hre.ce k y hy
   rw[hi] at y0
   have c1:=hre.c1
   have b2:=hbx.cell
   have hpl:d.length<ch.length:=by rw[hd];simp
   obtain⟨fn,tmps,assign,body,hyy,hR⟩:=HY.out d (i:Int) wr hJ0 hpl
   have HM:Hid (oH T L x.u<oH T L (k:Int)):=by
    show _<_
    rw[oC hc',oC (.on hy hi hx hc')]
    simp
   have HBe:=aa hbe
   have HBx:=aa hbx
   have HD:=aa hd
   have HX:=aa hx
   have HC':=aa hc'
   clear hbe hbx hd hJ0 hre hpl hx hc' hy hi
   gi_wp2
   refine hR.mono ?_
   rintro e W3 (⟨rfl,hJ3,hk3⟩|⟨rfl,hJx3⟩)
   ·have hbe3:=HBe.out.trans hk3.1
    have HB3:=aa (hk3.2 HBx.out)
    have b3:=HB3.out.cell
    have ht3:=HT.out.below hbe3 hsn hgt
    have c0:=ht3.c0
    obtain⟨x0,x1,x2,x3⟩:=ht3.ce i x HX.out
    have HBe3:=aa hbe3
    have HJ3:=aa hJ3
    clear hbe3 ht3 hJ3 hk3 hyy hR HY
    gi_wp2
    go_roundw
    case rel=>exact⟨d++[(i:Int)],xs,x.u,by rw[HD.out];simp,rfl,HC'.out,HBe3.out,HB3.out,HJ3.out⟩
    case measure=>simpa [intOf] using HM.out
   ·have HJx:=aa hJx3
    clear hJx3 hyy hR HY
    gi_wp2
    refine bodyPost_ret (results_none rfl _ _ _) rfl ?_
    refine⟨⟨_,rfl⟩,.inr ⟨_,?_,HJx.out⟩⟩
    exact⟨xs,by rw[HD.out];simp⟩
theorem pW (nn s:Nat) (m:Int) (w:World):
  CallsIn Fence.wide nn Tryz.prog 228 #[.pointer (some ⟨s,0,none⟩),.int .i64 m] w fun e w'=>e= .returned (.func (.func 233) #[] #[.pointer (some ⟨w.heap.size+1,0,none⟩),.pointer (some ⟨w.heap.size,0,none⟩)])∧
   w'=(w.alloc (.cells #[.pointer (some ⟨s,0,none⟩)] 86)).alloc (.cells #[.int .i64 m] 3):=by
 refine callsIn_of_wp Tryz.func228 rfl trivial ?_ rfl
 simp only[Tryz.ntmps228,List.size_toArray,List.length_cons,List.length_nil,Nat.reduceAdd,Nat.reduceSub,Array.replicate_succ,Array.replicate_zero,List.push_toArray,List.append_toArray,List.nil_append,List.cons_append]
 gi_wp2
 go_ret
 exact⟨by simp,rfl⟩
theorem lN (nn:Nat) (hn:1≤nn) (B1 B2 n0 s gt ct:Nat) (a:Option Addr) (cap:Nat) (T:List Th) (L:List Lk) (m:Int) (ch:List Int) (hch:pH T L m ch) (w:World) (hb1:Boxed w B1 3 (.int .i64 m)) (hb2:Boxed w B2 86 (.pointer (some ⟨s,0,none⟩))) (hr:Bd w s a cap L) (ht:zQ w s gt ct T) (hT:T.length≤1024) (hL:L.length≤32) (hsn:s<n0) (hgt:gt<n0) (hgn: ∀g,a=some ⟨g,0,none⟩→g<n0) (hn0:n0≤w.heap.size):
  SeqStopsK Fence.wide nn Tryz.prog 233 #[.pointer (some ⟨B1,0,none⟩),.pointer (some ⟨B2,0,none⟩)] (fun x:Int=> #[Value.int .i64 x]) (Kg n0 B2 s) (fun ys=>ys=ch) (fun pre=>pre<+:ch) ch.length w:=by
 intro l J Jx W hW hJ hJx hY h0
 exact lp nn hn l B1 B2 n0 s gt ct a cap T L m ch hch J Jx hY W ((hW.cell (p:=⟨B1,0,none⟩) hb1.lt).trans hb1.cell) ((hW.block B2 hb2.lt).trans hb2) (hr.below (hW.mono hn0) hsn hgn) (ht.below (hW.mono hn0) hsn hgt) hT hL hsn hgt hgn h0
theorem wD {n0 B s:Nat} {A C D:World} (h:Kg n0 B s A C) (h':Kg n0 B s C D):Kg n0 B s A D:=⟨h.1.trans h'.1,fun q=>h'.2 (h.2 q)⟩
theorem AJ {w:World} {n0 B s:Nat} (hn:n0≤w.heap.size) (W:World) (l:Nat) (o o':Obj) (hl:w.heap.size≤l) (ho:W.heap[l]? =some o) (hc:o.isCells=false) (hw:o.isWalk=false):Kg n0 B s W (W.putObj l o'):=by
 refine⟨belowK_b hn W l o o' hl ho hc hw,fun q=>q.kept (grownBy_putObj' W l o') (fun e=> ?_)⟩
 cases e
 rw[show W.heap[B]? =_ from q] at ho
 cases ho
 cases hc
section
variable {w:World} {base s:Nat} {vt vl:Value} {V:List Value} {T:List Th} {L:List Lk}
theorem vk (h:cL w base s vt vl V T L) (m t:Int) (ch:List Int) (hch:pH T L m ch):
  CallsIn Fence.wide 4 Tryz.prog 211 #[.pointer (some ⟨s,0,none⟩),.int .i64 m,.int .i64 t] w fun e W'=>e= .returned (.bool (decide (t∈ch)))∧Below w.heap.size w W':=by
 have HQ:=aa h
 have hL:=h.f.l2
 have hT:=h.f.t2
 have HC:=aa hch
 clear h hch
 refine callsIn_of_wp_marks Tryz.func211 rfl trivial ?_ rfl
 simp only[Tryz.ntmps211,List.size_toArray,List.length_cons,List.length_nil,Nat.reduceAdd,Nat.reduceSub,Array.replicate_succ,Array.replicate_zero,List.push_toArray,List.append_toArray,List.nil_append,List.cons_append]
 gi_wp2_with (first
  |(refine⟨trivial,?_⟩;gi_at_call 228;refine(pW _ s m _).mono ?_;rintro e w' ⟨rfl,rfl⟩))
 obtain⟨a,cap,hvl,hrd⟩:=HQ.out.Da
 obtain⟨gt,ct,hvt,hrt⟩:=HQ.out.Dm
 have hsn:=HQ.out.lt
 have hgt:gt<w.heap.size:=(aq HQ.out.tho (k:=gt) (by rw[hvt];rfl)).2.1
 have hgn: ∀g,a=some ⟨g,0,none⟩→g<w.heap.size:=fun g e=>(aq HQ.out.lko (k:=g) (by rw[hvl,e];rfl)).2.1
 have bt:=Boxed.new w 3 (.int .i64 t)
 have br:=Boxed.new (w.alloc (.cells #[.int .i64 t] 3)) 4 (.bool false)
 have bg:=Boxed.new ((w.alloc (.cells #[.int .i64 t] 3)).alloc (.cells #[.bool false] 4)) 86 (.pointer (some ⟨s,0,none⟩))
 have bm:=Boxed.new (((w.alloc (.cells #[.int .i64 t] 3)).alloc (.cells #[.bool false] 4)).alloc (.cells #[.pointer (some ⟨s,0,none⟩)] 86)) 3 (.int .i64 m)
 have hB0:Below w.heap.size w ((((w.alloc (.cells #[.int .i64 t] 3)).alloc (.cells #[.bool false] 4)).alloc (.cells #[.pointer (some ⟨s,0,none⟩)] 86)).alloc (.cells #[.int .i64 m] 3)):=((((Below.refl _ w).alloc (Nat.le_refl _) _).alloc (by simp) _).alloc (by simp;omega) _).alloc (by simp;omega) _
 simp only[World.size_alloc] at br bg bm⊢
 refine wpIn_rangeFunc_ownG rfl (by decide) (gf:=233) (lb:= #[.pointer (some ⟨w.heap.size+1+1+1,0,none⟩),.pointer (some ⟨w.heap.size+1+1,0,none⟩)]) rfl trivial (enters_of Tryz.func233 (by kernel_rfl) rfl)
  (lN 3 (by decide) (w.heap.size+1+1+1) (w.heap.size+1+1) w.heap.size s gt ct a cap T L m ch HC.out _ bm (bg.alloc _) (hrd.below hB0 hsn hgn) (hrt.below hB0 hsn hgt) hT hL hsn hgt hgn hB0.size) wD (AJ hB0.size) (Below.refl _ _) (fun _=>rfl)
  (fun (pre:List Int) W=>(t ∉ pre)∧Boxed W w.heap.size 3 (.int .i64 t)∧Boxed W (w.heap.size+1) 4 (.bool false)∧Below w.heap.size w W)
  (fun c (pre:List Int) W=>(c= .ret∧t∈pre)∧Boxed W (w.heap.size+1) 4 (.bool true)∧Below w.heap.size w W)
  (OwnFrom.and (ownFrom_pure _ _) (OwnFrom.and (Own.from (boxed_own w.heap.size 3 (fun _:List Int=> .int .i64 t)) _) (OwnFrom.and (Own.from (boxed_own (w.heap.size+1) 4 (fun _:List Int=> .bool false)) _) (ownFrom_below (Nat.le_refl _) hB0.size))))
  (fun c=>OwnFrom.and (ownFrom_pure _ _) (OwnFrom.and (Own.from (boxed_own (w.heap.size+1) 4 (fun _:List Int=> .bool true)) _) (ownFrom_below (Nat.le_refl _) hB0.size)))
  ⟨by simp,((bt.alloc _).alloc _).alloc _,(br.alloc _).alloc _,hB0⟩
  (fun x=>{tmps:= #[.pointer (some ⟨s,0,none⟩),.int .i64 m,.int .i64 t,undef,undef,.pointer (some ⟨w.heap.size,0,none⟩),.pointer (some ⟨w.heap.size+1,0,none⟩),.int .i64 x,.pointer (some ⟨s,0,none⟩),.int .i64 m,.func (.func 233) #[] #[.pointer (some ⟨w.heap.size+1+1+1,0,none⟩),.pointer (some ⟨w.heap.size+1+1,0,none⟩)],.int .i64 x,undef,undef,undef],defers:=[]}) ?assign ?body ?done ?stop
 case assign=>
  intro l x W K hK
  gi_wp2
  exact hK
 case body=>
  rintro l pre x W ⟨hp,hbt,hbr,hB⟩ hlt
  have hct:=hbt.cell
  have hcr:=hbr.cell
  have hfr:=hbr.frozen
  have HP:=aa hp
  have HBT:=aa hbt
  have HBR:=aa hbr
  have HB:=aa hB
  clear hp hbt hbr hB
  by_cases hx:x=t
  ·subst hx
   gi_wp2
   exact⟨(KeepsOthers.setCell _ _ _).from _,⟨rfl,by simp⟩,HBR.out.set _,HB.out.setCell (p:=⟨w.heap.size+1,0,none⟩) (by simp) _⟩
  ·have hx':(x==t)=false:=by simp[hx]
   gi_wp2
   refine⟨(KeepsOthers.refl _).from _,⟨Below.refl _ _,id⟩,?_,HBT.out,HBR.out,HB.out⟩
   have:=HP.out
   simp[this,Ne.symm hx]
 case done=>
  rintro D ys W hD rfl ⟨hp,hbt,hbr,hB⟩ hK
  have hcr:=hbr.cell
  have hfr:=hbr.frozen
  have HBR:=aa hbr
  have HP:=aa hp
  have HB:=aa hB
  clear hp hbt hbr hB
  gi_wp2
  have hK1:=(KeepsOthers.setCell W ⟨w.heap.size+1,0,none⟩ (.bool false)).same D _ hK rfl
  have hbr1:=HBR.out.set (.bool false)
  refine⟨by simp,.inl ⟨_,_,rfl,run_takeDeferred hK1,?_⟩⟩
  have hA5:=hbr1.kept (grownBy_putObj' _ D (.deferred none)) (fun e=>by cases e;rw[show(W.setCell ⟨w.heap.size+1,0,none⟩ (.bool false)).heap[w.heap.size+1]? =_ from hbr1] at hK1;cases hK1)
  have d0:=hA5.cell
  refine⟨.bool false,?_,?_,(HB.out.setCell (p:=⟨w.heap.size+1,0,none⟩) (by simp) _).trans (belowK_b (w:=w) (Nat.le_refl _) _ D _ _ (by simp at hD;omega) hK1 rfl rfl)⟩
  ·simp[results,Tryz.f211,go_sem,d0]
  ·rw[decide_eq_false HP.out]
 case stop=>
  rintro D c pre W hD hsp ⟨⟨rfl,hp⟩,hbr,hB⟩ hK
  have HP:=aa (hsp.subset hp)
  gi_wp2
  refine⟨by simp,.inl ⟨_,_,rfl,run_takeDeferred hK,?_⟩⟩
  have hA5:=hbr.kept (grownBy_putObj' _ D (.deferred none)) (fun e=>by cases e;rw[show W.heap[w.heap.size+1]? =_ from hbr] at hK;cases hK)
  have d0:=hA5.cell
  refine⟨.bool true,?_,?_,hB.trans (belowK_b (w:=w) (Nat.le_refl _) W D _ _ (by simp at hD;omega) hK rfl rfl)⟩
  ·simp[results,Tryz.f211,go_sem,d0]
  ·rw[decide_eq_true HP.out]
theorem oY (h:cL w base s vt vl V T L) (j:Nat) (t:Nat) (y:Lk) (hy:L[j]? =some y) (i:Nat) (hi:y.h=(i:Int)):
  ∃b,(b=true↔cT L i t)∧Calls Tryz.prog 211 #[.pointer (some ⟨s,0,none⟩),.int .i64 (j:Int),.int .i64 (t:Int)] w fun e W'=>e= .returned (.bool b)∧Below w.heap.size w W':=by
 obtain⟨ch,hch⟩:=h.f.chain j y hy (by omega)
 refine⟨decide ((t:Int)∈ch),?_,callsIn_wide.1 (vk h (j:Int) (t:Int) ch hch)⟩
 rw[decide_eq_true_iff]
 exact hch.leads h.f j y i rfl hy hi t
end
end Go.Proofs.YtjlbmmiomfpgiaaGreatDoor.Pi
namespace Go.Proofs.YtjlbmmiomfpgiaaGreatDoor.Pi
open Go.Proofs.YtjlbmmiomfpgiaaGreatDoor.Ke
open Go.Lib
open Go.RowKit hiding Hid
section
variable {w:World} {base s:Nat} {vt vl:Value} {V:List Value} {T:List Th} {L:List Lk}
theorem qi (h:cL w base s vt vl V T L) (i j:Nat) (he:dq T L i j=0) (y:Lk) (hy:L[j]? =some y) (k:Nat) (ho:y.h=(k:Int)) (hk:k≠i) (hl:cT L k i):Calls Tryz.prog 181 #[.pointer (some ⟨s,0,none⟩),.int .i64 (i:Int),.int .i64 (j:Int)] w fun e w'=>e= .returned (.tuple #[.bool false,.int .i64 8])∧Below w.heap.size w w':=by
 have HM:=aa (dw h (i:Int) (j:Int))
 obtain⟨b,hb,hc⟩:=oY h j i y hy k ho
 obtain rfl:b=true:=hb.2 hl
 have HL:=aa hc
 clear hb hc hl
 rw[he] at HM
 have hj:=(List.getElem?_eq_some_iff.1 hy).1
 have hj':(j:Int)<(L.length:Int):=by omega
 obtain⟨v,hv⟩:=h.line hj
 obtain⟨g,cap,rfl,hc1,hc2,hg,hgs,_,hc⟩:=h.jL (by omega)
 obtain⟨y0,y1⟩:=hc j y v hy hv
 rw[ho] at y0
 have c1:=h.c1
 have hk1:((k:Int)==(i:Int))=false:=by simp;omega
 have hk2:((k:Int)== -1)=false:=by simp
 have hk3: ¬(k:Int)=(i:Int):=by omega
 have hk4: ¬(k:Int)= -1:=by omega
 have hk5: ¬k=i:=hk
 clear h hc he
 go_enter Tryz.func181,Tryz.ntmps181
 go_wp2_with (first
  |(go_at_call 182;refine(HM.out).mono ?_;rintro e w1 ⟨rfl,hw⟩;replace hw:=hw.symm;subst hw)
  |(go_at_call 211;refine(HL.out).mono ?_;rintro e w1 ⟨rfl,hbw⟩;replace hbw:=aa hbw))
 simp[bodyPost,results,Tryz.results181,go_sem]
 exact hbw.out
end
theorem getSet {α:Type} {l:List α} {i j:Nat} {a b:α} (h:(l.set i a)[j]? =some b):(i=j∧b=a)∨(i≠j∧l[j]? =some b):=by
 rw[List.getElem?_set] at h
 by_cases q:i=j
 ·rw[if_pos q] at h
  split at h
  ·exact .inl ⟨q,(Option.some.inj h).symm⟩
  ·cases h
 ·rw[if_neg q] at h
  exact .inr ⟨q,h⟩
theorem ei.wait {T:List Th} {L:List Lk} (f:ei T L) {i j k:Nat} {x:Th} {y:Lk} (hx:T[i]? =some x) (hu:x.u= -1) (hy:L[j]? =some y) (ho:y.h=(k:Int)) (hl: ¬cT L k i):
  ei (T.set i ⟨x.k,(j:Int)⟩) (L.set j ⟨y.h,y.l++[i]⟩):=by
 have hi:=(List.getElem?_eq_some_iff.1 hx).1
 have hj:=(List.getElem?_eq_some_iff.1 hy).1
 have hok:=f.lk y (List.mem_of_getElem? hy)
 have hno: ∀(m:Nat) (z:Lk),L[m]? =some z→i ∉ z.l:=by
  intro m z hz q
  have:=(f.wt i x hx m z hz).1 q
  omega
 refine⟨by simpa using f.t1,by simpa using f.t2,by simpa using f.l2,?_,?_,?_,?_⟩
 ·intro z hz
  rw[List.length_set]
  rcases List.mem_or_eq_of_mem_set hz with q|q
  ·exact f.th z q
  ·subst q
   refine⟨(f.th x (List.mem_of_getElem? hx)).1,?_,?_⟩
   ·show(-1:Int)≤j
    omega
   ·show(j:Int)<_
    omega
 ·intro z hz
  rw[List.length_set]
  rcases List.mem_or_eq_of_mem_set hz with q|q
  ·exact f.lk z q
  ·subst q
   refine⟨hok.1,hok.2.1,?_,?_,?_⟩
   ·intro t ht
    rcases List.mem_append.1 ht with r|r
    ·exact hok.2.2.1 t r
    ·simp at r
     omega
   ·show(y.l++[i]).Nodup
    rw[List.nodup_append]
    refine⟨hok.2.2.2.1,by simp,?_⟩
    intro a ha b hb e
    simp at hb
    subst hb
    subst e
    exact hno j y hy ha
   ·intro _
    show 0≤y.h
    omega
 ·intro t z hz m u hm
  rcases getSet hz with ⟨rfl,rfl⟩|⟨q1,hz'⟩
  ·rcases getSet hm with ⟨rfl,rfl⟩|⟨q2,hm'⟩
   ·simp
   ·constructor
    ·intro r
     exact absurd r (hno m u hm')
    ·intro r
     have r':(j:Int)=(m:Int):=r
     omega
  ·rcases getSet hm with ⟨rfl,rfl⟩|⟨q2,hm'⟩
   ·rw[←f.wt t z hz' j y hy]
    simp
    omega
   ·exact f.wt t z hz' m u hm'
 ·refine f.ac.more hl ?_
  rintro a b ⟨z,hz,ha,hb⟩
  rcases List.mem_or_eq_of_mem_set hz with q|q
  ·exact .inl ⟨z,q,ha,hb⟩
  ·subst q
   rcases List.mem_append.1 ha with r|r
   ·exact .inl ⟨y,List.mem_of_getElem? hy,r,hb⟩
   ·right
    simp at r
    refine⟨r,?_⟩
    have hb':y.h=(b:Int):=hb
    omega
end Go.Proofs.YtjlbmmiomfpgiaaGreatDoor.Pi
