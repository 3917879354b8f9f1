/- YtnmhcgpnhlhcgaaGreatDoorGi: of the texts I1 I2 I3 I4 I5 I6 I7 I8 I9 I10 I11 I12 I13 I14 I15 I16 what is wanted. -/
import Derived.Test.YtnmhcgpnhlhcgaaGreatDoorG0
import Derived.Test.YtnmhcgpnhlhcgaaGreatDoorGa
import Derived.Laws.OwnMore
import Derived.Maps.AppendAt
import Derived.Deep.AppendLies
import Derived.OneCell
import Derived.OwnWalk
import Derived.Laws.MakeOwn
import Derived.RangeFuncNested
import Derived.RangeFuncBound
import Derived.RangeFuncCalls
import Derived.RangeFuncLeaves
import Derived.RangeFuncBox
import Derived.Shelf.Abstract
import Derived.Shelf.RegionOpen
import Derived.WalkKit
import Derived.OwnWalkIn
import Derived.TacticsInMore
import Derived.LoopNIn
import Derived.LoopIn
set_option maxHeartbeats 16000000
set_option maxRecDepth 100000
set_option linter.unusedVariables false
set_option linter.unusedSimpArgs false
namespace Go.Proofs.YtnmhcgpnhlhcgaaGreatDoor.Pi
open Go.Proofs.YtnmhcgpnhlhcgaaGreatDoor.Ke
open Go.Lib
open Go.RowKit
section
variable {S S':Nat→Prop} {w w' w'':World}
end
structure Th where
 k:K
 u:Int
structure Lk where
 h:Int
 l:List Nat
def Th.ok (n:Nat) (x:Th):Prop:=x.k.ok∧ -1≤x.u∧x.u<n
def Lk.ok (n:Nat) (x:Lk):Prop:= -1≤x.h∧x.h<n∧(∀t∈x.l,t<n)∧x.l.Nodup∧(x.l≠[]→0≤x.h)
def Edge (L:List Lk) (t s:Nat):Prop:= ∃y∈L,t∈y.l∧y.h=(s:Int)
def Acyc (L:List Lk):Prop:= ∃(B:Nat) (r:Nat→Nat),(∀x,r x≤B)∧ ∀t s,Edge L t s→r t<r s
structure Fine (T:List Th) (L:List Lk):Prop where
 t1:1≤T.length
 t2:T.length≤1024
 l2:L.length≤32
 th: ∀x∈T,x.ok L.length
 lk: ∀y∈L,y.ok T.length
 wt: ∀(t:Nat) x,T[t]? =some x→ ∀(m:Nat) y,L[m]? =some y→(t∈y.l↔x.u=(m:Int))
 ac:Acyc L
def behind (L:List Lk) (t:Nat):List Nat:=(L.filter (fun y=>y.h==(t:Int))).flatMap (·.l)
theorem mem_behind {L:List Lk} {t s:Nat}:s∈behind L t↔Edge L s t:=by
 unfold behind Edge
 grind
def ownK (T:List Th) (t:Nat):K:=(T[t]?.map (·.k)).getD (fixK 0)
def kf (T:List Th) (L:List Lk):Nat→Nat→K
 |0,t=>ownK T t
 |n+1,t=>(behind L t).foldl (fun k x=>maxK k (kf T L n x)) (ownK T t)
theorem foldl_same {α β:Type} {f g:β→α→β}: ∀(l:List α) (b:β),(∀x∈l,∀b,f b x=g b x)→l.foldl f b=l.foldl g b
 |[],b,_=>rfl
 |x::l,b,h=>by
  rw[List.foldl_cons,List.foldl_cons,h x (by simp)]
  exact foldl_same l _ (by grind)
theorem kf_stays {T:List Th} {L:List Lk} {r:Nat→Nat} (h: ∀t s,Edge L t s→r t<r s): ∀(n:Nat) (t:Nat),r t≤n→ ∀m,r t≤m→kf T L n t=kf T L m t:=by
 intro n
 induction n with
 |zero=>
  intro t hn m _
  cases m with
  |zero=>rfl
  |succ m=>
   have e:behind L t=[]:=by
    rw[List.eq_nil_iff_forall_not_mem]
    intro x hx
    have:=h x t (mem_behind.1 hx)
    omega
   unfold kf
   grind
 |succ n ih=>
  intro t hn m hm
  cases m with
  |zero=>
   grind
  |succ m=>
   show(behind L t).foldl (fun k x=>maxK k (kf T L n x)) (ownK T t)=(behind L t).foldl (fun k x=>maxK k (kf T L m x)) (ownK T t)
   refine foldl_same _ _ ?_
   intro x hx b
   have:=h x t (mem_behind.1 hx)
   grind
open Classical in
noncomputable def keyOf (T:List Th) (L:List Lk) (t:Nat):K:=if h:Acyc L then kf T L h.choose t else fixK 0
theorem keyOf_eq {T:List Th} {L:List Lk} (h:Acyc L) (t:Nat):keyOf T L t=(behind L t).foldl (fun k x=>maxK k (keyOf T L x)) (ownK T t):=by
 obtain⟨r,hb,hr⟩:=h.choose_spec
 unfold keyOf
 simp only[h,dite_true]
 rw[kf_stays hr h.choose t (hb t) (h.choose+1) (by grind)]
 rfl
inductive Leads (L:List Lk):Nat→Nat→Prop
 |here (t):Leads L t t
 |on {t s v}:Edge L t s→Leads L s v→Leads L t v
theorem Leads.snoc {L:List Lk} {t s v:Nat} (h:Leads L t s) (e:Edge L s v):Leads L t v:=by
 induction h with
 |here t=>exact .on e (.here _)
 |on e1 _ ih=>exact .on e1 (ih e)
open Classical in
theorem Acyc.more {L L':List Lk} {t s:Nat} (h:Acyc L) (hn: ¬Leads L s t) (hE: ∀a b,Edge L' a b→Edge L a b∨a=t∧b=s):Acyc L':=by
 obtain⟨B,r,hb,hr⟩:=h
 refine⟨B+B+1,fun x=>if Leads L s x then r x+r t+1 else r x,fun x=> ?_,fun a b e=> ?_⟩
 ·grind
 ·show(if Leads L s a then r a+r t+1 else r a)<(if Leads L s b then r b+r t+1 else r b)
  rcases hE a b e with q|⟨rfl,rfl⟩
  ·have h1:=hr a b q
   by_cases ha:Leads L s a
   ·rw[if_pos ha,if_pos (ha.snoc q)]
    omega
   grind
  ·rw[if_neg hn,if_pos (.here _)]
   omega
theorem Acyc.less {L L':List Lk} (h:Acyc L) (hE: ∀a b,Edge L' a b→Edge L a b):Acyc L':=by
 obtain⟨B,r,hb,hr⟩:=h
 exact⟨B,r,hb,fun a b e=>(by grind)⟩
def tone (x:Th):List Value:=[.bool x.k.e,vU6 x.k.d,vU8 x.k.l,vI6 x.u]
def tcells (T:List Th):List Value:=T.flatMap tone
theorem tcells_cons (x:Th) (T:List Th):tcells (x::T)=tone x++tcells T:=rfl
theorem tcells_length: ∀T,(tcells T).length=T.length*4
 |[]=>rfl
 |x::T=>by rw[tcells_cons];simp[tone,tcells_length T];omega
theorem tcells_at: ∀(T:List Th) (i:Nat) (x:Th),T[i]? =some x→(tcells T)[i*4]? =some (.bool x.k.e)∧(tcells T)[i*4+1]? =some (vU6 x.k.d)∧(tcells T)[i*4+2]? =some (vU8 x.k.l)∧(tcells T)[i*4+3]? =some (vI6 x.u)
 |[],i,x,h=>by simp at h
 |y::T,0,x,h=>by
  simp at h
  subst h
  exact⟨rfl,rfl,rfl,rfl⟩
 |y::T,i+1,x,h=>by
  have:=tcells_at T i x (by grind)
  rw[tcells_cons,show(i+1)*4=i*4+4 by omega]
  exact this
theorem tcells_set: ∀(T:List Th) (i:Nat) (x:Th),i<T.length→tcells (T.set i x)=((((tcells T).set (i*4) (.bool x.k.e)).set (i*4+1) (vU6 x.k.d)).set (i*4+2) (vU8 x.k.l)).set (i*4+3) (vI6 x.u)
 |[],i,x,h=>by simp at h
 |y::T,0,x,h=>by rfl
 |y::T,i+1,x,h=>by
  have:=tcells_set T i x (by grind)
  rw[List.set_cons_succ,tcells_cons,this,tcells_cons,show(i+1)*4=i*4+4 by omega]
  rfl
def lcells (Z:List (Int×Value)):List Value:=Z.flatMap (fun z=>[vI6 z.1,z.2])
theorem lcells_cons (z:Int×Value) (Z:List (Int×Value)):lcells (z::Z)=[vI6 z.1,z.2]++lcells Z:=rfl
theorem lcells_at: ∀(Z:List (Int×Value)) (i:Nat) (z:Int×Value),Z[i]? =some z→(lcells Z)[i*2]? =some (vI6 z.1)∧(lcells Z)[i*2+1]? =some z.2
 |[],i,x,h=>by simp at h
 |y::Z,0,x,h=>by
  simp at h
  subst h
  exact⟨rfl,rfl⟩
 |y::Z,i+1,x,h=>by
  have:=lcells_at Z i x (by grind)
  grind[Pi.lcells_cons]
theorem lcells_set: ∀(Z:List (Int×Value)) (i:Nat) (z:Int×Value),i<Z.length→lcells (Z.set i z)=((lcells Z).set (i*2) (vI6 z.1)).set (i*2+1) z.2
 |[],i,x,h=>by simp at h
 |y::Z,0,x,h=>by rfl
 |y::Z,i+1,x,h=>by
  have:=lcells_set Z i x (by grind)
  grind[Pi.lcells_cons]
def ints (l:List Nat):List Value:=l.map (fun (t:Nat)=>vI6 (t:Int))
structure IsG (w:World) (base s:Nat) (vt vl:Value) (V:List Value) (T:List Th) (L:List Lk):Prop where
 blk:w.heap[s]? =some (.cells #[vt,vl] 159 (0,0))
 lo:base≤s
 tho:w.ownsRow base 162 4 vt T.length (tcells T)
 lko:w.ownsRow base 164 2 vl L.length (lcells ((L.map (·.h)).zip V))
 vs:V.length=L.length
 lin: ∀(j:Nat) y v,L[j]? =some y→V[j]? =some v→w.ownsRow base 3 1 v y.l.length (ints y.l)
 apart: ∀(i j:Nat) u v k,V[i]? =some u→V[j]? =some v→u.ownBlock=some k→v.ownBlock=some k→i=j
 bs:base≤w.heap.size
 f:Fine T L
def own (s:Nat) (vt vl:Value) (V:List Value) (k:Nat):Prop:=k=s∨vt.ownBlock=some k∨vl.ownBlock=some k∨ ∃v∈V,v.ownBlock=some k
section
variable {w w':World} {base s:Nat} {vt vl:Value} {V:List Value} {T:List Th} {L:List Lk}
theorem IsG.lt (h:IsG w base s vt vl V T L):s<w.heap.size:=(Array.getElem?_eq_some_iff.1 h.blk).1
theorem IsG.own_lt (h:IsG w base s vt vl V T L) {k:Nat} (hk:own s vt vl V k):k<w.heap.size:=by
 rcases hk with rfl|q|q|⟨v,hv,q⟩
 ·exact h.lt
 ·exact(ownsRow_blk h.tho q).2.1
 ·exact(ownsRow_blk h.lko q).2.1
 ·obtain⟨j,hj⟩:=List.mem_iff_getElem?.1 hv
  have hjl:=(List.getElem?_eq_some_iff.1 hj).1
  rw[h.vs] at hjl
  exact(ownsRow_blk (h.lin j _ v (List.getElem?_eq_getElem hjl) hj) q).2.1
theorem IsG.kept (h:IsG w base s vt vl V T L) (h0:w.heap.size≤w'.heap.size) (h1: ∀k,own s vt vl V k→w'.heap[k]? =w.heap[k]?):IsG w' base s vt vl V T L:=
 ⟨(h1 s (.inl rfl)).trans h.blk,h.lo,ownsRow_far h.tho (fun k hk=>h1 k (.inr (.inl hk))),ownsRow_far h.lko (fun k hk=>h1 k (.inr (.inr (.inl hk)))),h.vs,
  fun j y v hy hv=>ownsRow_far (h.lin j y v hy hv) (fun k hk=>h1 k (.inr (.inr (.inr ⟨v,List.mem_of_getElem? hv,hk⟩)))),h.apart,Nat.le_trans h.bs h0,h.f⟩
theorem IsG.frame {S:Nat→Prop} (h:IsG w base s vt vl V T L) (hf:Fr S w w') (h1: ∀k,own s vt vl V k→ ¬S k):IsG w' base s vt vl V T L:=
 h.kept hf.size (fun k hk=>hf.block k (h.own_lt hk) (h1 k hk))
theorem IsG.below (h:IsG w base s vt vl V T L) (hf:vBw w w'):IsG w' base s vt vl V T L:=
 h.frame (Fr.of_below' (S:=fun _=>False) hf) (fun _ _=>id)
theorem IsG.c0 (h:IsG w base s vt vl V T L):w.cell? (vA0 s)=some vt:=by unfold World.cell?;simp[h.blk]
theorem IsG.c1 (h:IsG w base s vt vl V T L):w.cell? (vAt s 1)=some vl:=by unfold World.cell?;simp[h.blk]
theorem form_of {e:TypeId} {size n:Nat} {v:Value} {xs:List Value} (h:w.ownsRow base e size v n xs): ∃a cap,v= .slice a n cap∧n≤cap∧cap≤maxLen:=by
 rcases h.2 with ⟨e,e0⟩|⟨g,cap,cur,e,_,_,h1,h2,_⟩
 ·grind
 grind
theorem IsG.tform (h:IsG w base s vt vl V T L): ∃g cap,vt= .slice (some (vA0 g)) T.length cap∧T.length≤cap∧cap≤maxLen∧g<w.heap.size∧g≠s∧(∀k,w.frozen? (vAt g k)=false)∧
  (∀j x,T[j]? =some x→w.cell? (vAt g (j*4))=some (.bool x.k.e)∧w.cell? (vAt g (j*4+1))=some (vU6 x.k.d)∧w.cell? (vAt g (j*4+2))=some (vU8 x.k.l)∧w.cell? (vAt g (j*4+3))=some (vI6 x.u)):=by
 have ht:=h.f.t1
 have hown:=h.tho
 rcases h.tho.2 with ⟨e,e0⟩|⟨g,cap,cur,e,h0,hg,h1,h2,_⟩
 ·omega
 ·subst e
  refine⟨g,cap,rfl,h1,h2,(Array.getElem?_eq_some_iff.1 hg).1,fun q=> ?_,frozen_row hown,fun j x hj=> ?_⟩
  ·subst q
   rw[h.blk] at hg
   grind
  ·have hjl:=(List.getElem?_eq_some_iff.1 hj).1
   rw[hown.cellAt (j*4) (by omega),hown.cellAt (j*4+1) (by omega),hown.cellAt (j*4+2) (by omega),hown.cellAt (j*4+3) (by omega)]
   exact tcells_at T j x hj
theorem IsG.lform (h:IsG w base s vt vl V T L) (hL:0<L.length): ∃g cap,vl= .slice (some (vA0 g)) L.length cap∧L.length≤cap∧cap≤maxLen∧g<w.heap.size∧g≠s∧(∀k,w.frozen? (vAt g k)=false)∧
  (∀(j:Nat) y v,L[j]? =some y→V[j]? =some v→w.cell? (vAt g (j*2))=some (vI6 y.h)∧w.cell? (vAt g (j*2+1))=some v):=by
 have hown:=h.lko
 rcases h.lko.2 with ⟨e,e0⟩|⟨g,cap,cur,e,h0,hg,h1,h2,_⟩
 ·omega
 ·subst e
  refine⟨g,cap,rfl,h1,h2,(Array.getElem?_eq_some_iff.1 hg).1,fun q=> ?_,frozen_row hown,fun j y v hj hv=> ?_⟩
  ·subst q
   rw[h.blk] at hg
   grind
  ·have hjl:=(List.getElem?_eq_some_iff.1 hj).1
   rw[hown.cellAt (j*2) (by omega),hown.cellAt (j*2+1) (by omega)]
   have e:((L.map (·.h)).zip V)[j]? =some (y.h,v):=by grind
   exact lcells_at _ j (y.h,v) e
end
def inT (T:List Th) (t:Int):Bool:=decide (0≤t∧t<(T.length:Int))
def inL (L:List Lk) (m:Int):Bool:=decide (0≤m∧m<(L.length:Int))
def ownerOf (L:List Lk) (m:Int):Int:=if inL L m then((L[m.toNat]?).map (·.h)).getD (-1) else-1
def waitsOf (T:List Th) (t:Int):Int:=if inT T t then((T[t.toNat]?).map (·.u)).getD (-1) else-1
def mayE (T:List Th) (L:List Lk) (t m:Int):Int:=if inT T t&&inL L m then if waitsOf T t= -1 then 0 else 11 else 2
section
variable {w:World} {base s:Nat} {vt vl:Value} {V:List Value} {T:List Th} {L:List Lk}
theorem hasT_ok (h:IsG w base s vt vl V T L) (t:Int):vS 128 #[vPt s,vI6 t] w (.bool (inT T t)):=by
 obtain⟨a,cap,rfl,_,_⟩:=form_of h.tho
 have c0:=h.c0
 clear h
 unfold inT
 by_cases h0:0≤t
 ·refine ge ?_
  go_wp2
  go_ret
  simp_all
 ·refine ge ?_
  go_wp2
  go_ret
  exact⟨by simp;omega,rfl⟩
theorem hasL_ok (h:IsG w base s vt vl V T L) (t:Int):vS 220 #[vPt s,vI6 t] w (.bool (inL L t)):=by
 obtain⟨a,cap,rfl,_,_⟩:=form_of h.lko
 have c1:=h.c1
 clear h
 unfold inL
 by_cases h0:0≤t
 ·refine ge ?_
  go_wp2
  go_ret
  simp_all
 ·refine ge ?_
  go_wp2
  go_ret
  exact⟨by simp;omega,rfl⟩
theorem inT_yes {t:Int} (h:inT T t=true): ∃(k:Nat) (x:Th),t=k∧k<T.length∧T[k]? =some x∧waitsOf T t=x.u:=by
 have h':=h
 unfold inT at h'
 simp only[decide_eq_true_eq] at h'
 obtain⟨k,rfl⟩: ∃k:Nat,t=k:=⟨t.toNat,by omega⟩
 have hk:k<T.length:=by omega
 refine⟨k,T[k],rfl,hk,List.getElem?_eq_getElem hk,?_⟩
 unfold waitsOf
 grind
theorem inL_yes {m:Int} (h:inL L m=true): ∃(k:Nat) (y:Lk),m=k∧k<L.length∧L[k]? =some y∧ownerOf L m=y.h:=by
 have h':=h
 unfold inL at h'
 simp only[decide_eq_true_eq] at h'
 obtain⟨k,rfl⟩: ∃k:Nat,m=k:=⟨m.toNat,by omega⟩
 have hk:k<L.length:=by omega
 refine⟨k,L[k],rfl,hk,List.getElem?_eq_getElem hk,?_⟩
 unfold ownerOf
 grind
theorem IsG.line (h:IsG w base s vt vl V T L) {k:Nat} (hk:k<L.length): ∃v,V[k]? =some v:=⟨_,List.getElem?_eq_getElem (by rw[h.vs];exact hk)⟩
theorem may_ok (h:IsG w base s vt vl V T L) (t m:Int):vS 191 #[vPt s,vI6 t,vI6 m] w (vI6 (mayE T L t m)):=by
 have HT:=veil (hasT_ok h t)
 have HL:=veil (hasL_ok h m)
 cases ht:inT T t with
 |false=>
  rw[ht] at HT
  have e:mayE T L t m=2:=by unfold mayE;grind
  rw[e]
  clear h ht e
  refine ge ?_
  go_wp2_with (go_at_call 128;refine cS HT.out ?_)
  go_ret
  simp
 |true=>
  rw[ht] at HT
  cases hm:inL L m with
  |false=>
   rw[hm] at HL
   have e:mayE T L t m=2:=by unfold mayE;grind
   rw[e]
   clear h ht hm e
   refine ge ?_
   go_wp2_with (first
    |(go_at_call 128;refine cS HT.out ?_)
    |(go_at_call 220;refine cS HL.out ?_))
   go_ret
   simp
  |true=>
   rw[hm] at HL
   obtain⟨k,y,rfl,hk,hy,e⟩:=inT_yes ht
   obtain⟨g,cap,rfl,hc1,hc2,hg,hgs,_,hc⟩:=h.tform
   obtain⟨y0,y1,y2,y3⟩:=hc k y hy
   have c0:=h.c0
   have hk':(k:Int)<(T.length:Int):=by omega
   by_cases hu:y.u= -1
   ·have e':mayE T L (k:Int) m=0:=by unfold mayE;grind
    rw[e']
    clear h hc ht hm e e'
    refine ge ?_
    go_wp2_with (first
     |(go_at_call 128;refine cS HT.out ?_)
     |(go_at_call 220;refine cS HL.out ?_))
    go_ret
    simp
   ·have e':mayE T L (k:Int) m=11:=by unfold mayE;grind
    rw[e']
    clear h hc ht hm e e'
    refine ge ?_
    go_wp2_with (first
     |(go_at_call 128;refine cS HT.out ?_)
     |(go_at_call 220;refine cS HL.out ?_))
    go_ret
    simp
end
def thZero:Value:= .agg #[.bool false,vU6 0,vU8 0,vI6 0]
def lkZero:Value:= .agg #[vI6 0,.slice none 0 0]
def thMade (n:Nat):Array Value:=madeCells thZero.cells (n*4)
def lkMade (n:Nat):Array Value:=madeCells lkZero.cells (n*2)
theorem infoTh:(Tryz.prog.info? 162).map (fun i=>(i.zero,i.size,i.bytes))=some (some thZero,4,32):=by rfl
theorem infoLk:(Tryz.prog.info? 164).map (fun i=>(i.zero,i.size,i.bytes))=some (some lkZero,2,32):=by rfl
theorem fixed_mk (w:World) (l:Int):vCa 68 #[vU8 l] w fun e w'=>e= .returned (.agg #[.bool false,vU6 0,vU8 l])∧ ∃c,w'=w.alloc (.cells c 120):=by
 refine ge ?_
 go_wp2
 simp[bodyPost,results,Tryz.results68,go_sem]
 grind
def thj (n j:Nat):List Th:=List.replicate j ⟨fixK 0,-1⟩++List.replicate (n-j) ⟨fixK 0,0⟩
def lkj (n j:Nat):List (Int×Value):=List.replicate j (-1,.slice none 0 0)++List.replicate (n-j) (0,.slice none 0 0)
theorem rep_set {α:Type} (a b:α) (n j:Nat) (h:j<n):(List.replicate j a++List.replicate (n-j) b).set j a=List.replicate (j+1) a++List.replicate (n-(j+1)) b:=by
 rw[List.set_append_right _ _ (by simp),List.length_replicate,Nat.sub_self,show n-j=(n-(j+1))+1 by omega,List.replicate_succ,List.set_cons_zero,List.replicate_succ',List.append_assoc]
 rfl
theorem thj_set (n j:Nat) (h:j<n):(thj n j).set j ⟨fixK 0,-1⟩=thj n (j+1):=rep_set _ _ n j h
theorem lkj_set (n j:Nat) (h:j<n):(lkj n j).set j (-1,.slice none 0 0)=lkj n (j+1):=rep_set _ _ n j h
theorem thj_len (n j:Nat) (h:j≤n):(thj n j).length=n:=by simp[thj];omega
theorem lkj_len (n j:Nat) (h:j≤n):(lkj n j).length=n:=by simp[lkj];omega
theorem thj_end (n:Nat):thj n n=List.replicate n ⟨fixK 0,-1⟩:=by simp[thj]
theorem lkj_end (n:Nat):lkj n n=List.replicate n (-1,.slice none 0 0):=by simp[lkj]
theorem made_at (z:Array Value) (N k:Nat) (h:k<N):(madeCells z N).toList[k]? =some (z[k%z.size]!):=by
 simp[madeCells,h]
theorem made_no (z:Array Value) (N k:Nat) (h: ¬k<N):(madeCells z N).toList[k]? =none:=by
 rw[List.getElem?_eq_none_iff]
 simp[madeCells]
 omega
theorem made_th (n:Nat):(madeCells thZero.cells (n*4)).toList=tcells (thj n 0):=by
 apply List.ext_getElem?
 intro i
 by_cases h:i<n*4
 ·rw[made_at _ _ _ h]
  obtain⟨q,r,rfl,hr⟩: ∃q r,i=q*4+r∧r<4:=⟨i/4,i%4,by omega,by omega⟩
  have hq:q<n:=by omega
  have hx:(thj n 0)[q]? =some ⟨fixK 0,0⟩:=by simp[thj,hq]
  obtain⟨y0,y1,y2,y3⟩:=tcells_at _ q _ hx
  have e:thZero.cells.size=4:=rfl
  rw[e,show(q*4+r)%4=r by omega]
  rcases(by omega:r=0∨r=1∨r=2∨r=3) with rfl|rfl|rfl|rfl
  ·exact y0.symm
  ·exact y1.symm
  ·exact y2.symm
  ·exact y3.symm
 ·rw[made_no _ _ _ h,eq_comm,List.getElem?_eq_none_iff,tcells_length,thj_len n 0 (by omega)]
  omega
theorem lcells_length: ∀Z,(lcells Z).length=Z.length*2
 |[]=>rfl
 |z::Z=>by rw[lcells_cons];simp[lcells_length Z];omega
theorem made_lk (n:Nat):(madeCells lkZero.cells (n*2)).toList=lcells (lkj n 0):=by
 apply List.ext_getElem?
 intro i
 by_cases h:i<n*2
 ·rw[made_at _ _ _ h]
  obtain⟨q,r,rfl,hr⟩: ∃q r,i=q*2+r∧r<2:=⟨i/2,i%2,by omega,by omega⟩
  have hq:q<n:=by omega
  have hx:(lkj n 0)[q]? =some (0,.slice none 0 0):=by simp[lkj,hq]
  obtain⟨y0,y1⟩:=lcells_at _ q _ hx
  have e:lkZero.cells.size=2:=rfl
  rw[e,show(q*2+r)%2=r by omega]
  rcases(by omega:r=0∨r=1) with rfl|rfl
  ·exact y0.symm
  ·exact y1.symm
 ·rw[made_no _ _ _ h,eq_comm,List.getElem?_eq_none_iff,lcells_length,lkj_len n 0 (by omega)]
  omega
theorem owns_made (w:World) (base g n size:Nat) (e:TypeId) (z:Array Value) (hb:base≤w.heap.size) (hg:base≤g) (h:w.heap[g]? =some (.cells (madeCells z (n*size)) e (0,0))) (hn:n≤maxLen):
  w.ownsRow base e size (.slice (some (vA0 g)) n n) n (madeCells z (n*size)).toList:=
 ⟨by simp[size_madeCells],.inr ⟨g,n,_,rfl,hg,h,lzr,hn,by simp[size_madeCells],by grind[List.take_of_length_le,size_madeCells]⟩⟩
structure NewAt (w wr:World) (s gt gl n m:Nat) (T:List Th) (Z:List (Int×Value)):Prop where
 blk:wr.heap[s]? =some (.cells #[.slice (some (vA0 gt)) n n,.slice (some (vA0 gl)) m m] 159 (0,0))
 lo:w.heap.size≤s
 tho:wr.ownsRow w.heap.size 162 4 (.slice (some (vA0 gt)) n n) n (tcells T)
 lko:wr.ownsRow w.heap.size 164 2 (.slice (some (vA0 gl)) m m) m (lcells Z)
 tl:T.length=n
 zl:Z.length=m
 be:vBw w wr
section
variable {w wr wr':World} {s gt gl n m:Nat} {T:List Th} {Z:List (Int×Value)}
theorem heap_new (w:World) (o:Obj):(w.alloc o).heap[w.heap.size]? =some o:=by
 show(w.heap.push o)[w.heap.size]? =some o
 simp
theorem new_a (w:World) (n m:Nat) (hn:n≤maxLen) (hm:m≤maxLen):NewAt w (((w.alloc (.cells (thMade n) 162)).alloc (.cells (lkMade m) 164)).alloc (.cells #[.slice (some (vA0 w.heap.size)) n n,.slice (some (vA0 (w.heap.size+1))) m m] 159)) (w.heap.size+1+1) w.heap.size (w.heap.size+1) n m (thj n 0) (lkj m 0):=by
 have e1:(w.alloc (.cells (thMade n) 162)).heap.size=w.heap.size+1:=by simp
 have e2:((w.alloc (.cells (thMade n) 162)).alloc (.cells (lkMade m) 164)).heap.size=w.heap.size+1+1:=by simp
 refine⟨?_,by omega,?_,?_,thj_len _ _ (by omega),lkj_len _ _ (by omega),(bzA.alloc (by omega) _).alloc (by omega) _⟩
 ·grind[Pi.heap_new]
 ·rw[←made_th]
  refine owns_made _ _ _ _ _ _ _ (by simp;omega) lzr ?_ hn
  rw[Below.heap_alloc _ _ _ (by omega),Below.heap_alloc _ _ _ (by omega)]
  exact heap_new _ _
 ·rw[←made_lk]
  refine owns_made _ _ _ _ _ _ _ (by simp;omega) (by omega) ?_ hm
  rw[Below.heap_alloc _ _ _ (by omega),←e1]
  exact heap_new _ _
theorem new_b (w:World) (n m:Nat) (hn:n≤maxLen) (hm:m≤maxLen):NewAt w (((w.alloc (.cells (lkMade m) 164)).alloc (.cells (thMade n) 162)).alloc (.cells #[.slice (some (vA0 (w.heap.size+1))) n n,.slice (some (vA0 w.heap.size)) m m] 159)) (w.heap.size+1+1) (w.heap.size+1) w.heap.size n m (thj n 0) (lkj m 0):=by
 have e1:(w.alloc (.cells (lkMade m) 164)).heap.size=w.heap.size+1:=by simp
 have e2:((w.alloc (.cells (lkMade m) 164)).alloc (.cells (thMade n) 162)).heap.size=w.heap.size+1+1:=by simp
 refine⟨?_,by omega,?_,?_,thj_len _ _ (by omega),lkj_len _ _ (by omega),(bzA.alloc (by omega) _).alloc (by omega) _⟩
 ·grind[Pi.heap_new]
 ·rw[←made_th]
  refine owns_made _ _ _ _ _ _ _ (by simp;omega) (by omega) ?_ hn
  rw[Below.heap_alloc _ _ _ (by omega),←e1]
  exact heap_new _ _
 ·rw[←made_lk]
  refine owns_made _ _ _ _ _ _ _ (by simp;omega) lzr ?_ hm
  rw[Below.heap_alloc _ _ _ (by omega),Below.heap_alloc _ _ _ (by omega)]
  exact heap_new _ _
theorem NewAt.drew (h:NewAt w wr s gt gl n m T Z):NewAt w wr.drew s gt gl n m T Z:=⟨h.blk,h.lo,h.tho.drew,h.lko.drew,h.tl,h.zl,h.be.drew⟩
theorem NewAt.lts (h:NewAt w wr s gt gl n m T Z):s<wr.heap.size∧gt<wr.heap.size∧gl<wr.heap.size∧w.heap.size≤gt∧w.heap.size≤gl∧gt≠s∧gl≠s∧gt≠gl:=by
 obtain⟨a1,a2,ca,a3⟩:=ownsRow_blk h.tho (k:=gt) rfl
 obtain⟨b1,b2,cb,b3⟩:=ownsRow_blk h.lko (k:=gl) rfl
 exact mK
theorem NewAt.on (h:NewAt w wr s gt gl n m T Z) (hb:vBw wr wr'):NewAt w wr' s gt gl n m T Z:=by
 obtain⟨l1,l2,l3,_⟩:=h.lts
 refine⟨(hb.block s l1).trans h.blk,h.lo,ownsRow_far h.tho ?_,ownsRow_far h.lko ?_,h.tl,h.zl,h.be.trans (hb.mono h.be.size)⟩
 ·intro k hk
  simp[Value.ownBlock] at hk
  grind[RowKit.Below.block]
 ·intro k hk
  simp[Value.ownBlock] at hk
  grind[RowKit.Below.block]
theorem NewAt.c0 (h:NewAt w wr s gt gl n m T Z):wr.cell? (vA0 s)=some (.slice (some (vA0 gt)) n n):=by unfold World.cell?;simp[h.blk]
theorem NewAt.c1 (h:NewAt w wr s gt gl n m T Z):wr.cell? (vAt s 1)=some (.slice (some (vA0 gl)) m m):=by unfold World.cell?;simp[h.blk]
theorem NewAt.putT (h:NewAt w wr s gt gl n m T Z) (j:Nat) (hj:j<n) (x:Th):NewAt w ((((wr.setCell (vAt gt (j*4)) (.bool x.k.e)).setCell (vAt gt (j*4+1)) (vU6 x.k.d)).setCell (vAt gt (j*4+2)) (vU8 x.k.l)).setCell (vAt gt (j*4+3)) (vI6 x.u)) s gt gl n m (T.set j x) Z:=by
 obtain⟨l1,l2,l3,l4,l5,l6,l7,l8⟩:=h.lts
 have h1:=ownsRow_set (ownsRow_set (ownsRow_set (ownsRow_set h.tho (j*4) (by omega) (.bool x.k.e)) (j*4+1) (by omega) (vU6 x.k.d)) (j*4+2) (by omega) (vU8 x.k.l)) (j*4+3) (by omega) (vI6 x.u)
 rw[←tcells_set T j x (by rw[h.tl];exact hj)] at h1
 refine⟨?_,h.lo,h1,ownsRow_far h.lko ?_,by simpa using h.tl,h.zl,(((h.be.setCell (p:=(vAt gt (j*4))) l4 _).setCell (p:=(vAt gt (j*4+1))) l4 _).setCell (p:=(vAt gt (j*4+2))) l4 _).setCell (p:=(vAt gt (j*4+3))) l4 _⟩
 ·rw[Below.heap_setCell _ _ _ _ (Ne.symm l6),Below.heap_setCell _ _ _ _ (Ne.symm l6),Below.heap_setCell _ _ _ _ (Ne.symm l6),Below.heap_setCell _ _ _ _ (Ne.symm l6)]
  exact h.blk
 ·intro k hk
  simp[Value.ownBlock] at hk
  subst hk
  rw[Below.heap_setCell _ _ _ _ (Ne.symm l8),Below.heap_setCell _ _ _ _ (Ne.symm l8),Below.heap_setCell _ _ _ _ (Ne.symm l8),Below.heap_setCell _ _ _ _ (Ne.symm l8)]
theorem NewAt.putL (h:NewAt w wr s gt gl n m T Z) (j:Nat) (hj:j<m) (z:Int×Value):NewAt w ((wr.setCell (vAt gl (j*2)) (vI6 z.1)).setCell (vAt gl (j*2+1)) z.2) s gt gl n m T (Z.set j z):=by
 obtain⟨l1,l2,l3,l4,l5,l6,l7,l8⟩:=h.lts
 have h1:=ownsRow_set (ownsRow_set h.lko (j*2) (by omega) (vI6 z.1)) (j*2+1) (by omega) z.2
 rw[←lcells_set Z j z (by rw[h.zl];exact hj)] at h1
 refine⟨?_,h.lo,ownsRow_far h.tho ?_,h1,h.tl,by simpa using h.zl,(h.be.setCell (p:=(vAt gl (j*2))) l5 _).setCell (p:=(vAt gl (j*2+1))) l5 _⟩
 ·rw[Below.heap_setCell _ _ _ _ (Ne.symm l7),Below.heap_setCell _ _ _ _ (Ne.symm l7)]
  exact h.blk
 ·intro k hk
  simp[Value.ownBlock] at hk
  grind[RowKit.Below.heap_setCell]
theorem NewAt.fz (h:NewAt w wr s gt gl n m T Z):(∀k,wr.frozen? (vAt gt k)=false)∧ ∀k,wr.frozen? (vAt gl k)=false:=⟨frozen_row h.tho,frozen_row h.lko⟩
theorem NewAt.tcell (h:NewAt w wr s gt gl n m T Z) (j:Nat) (hj:j<n): ∃u0 u1 u2 u3,wr.cell? (vAt gt (j*4))=some u0∧wr.cell? (vAt gt (j*4+1))=some u1∧wr.cell? (vAt gt (j*4+2))=some u2∧wr.cell? (vAt gt (j*4+3))=some u3:=by
 have e:=List.getElem?_eq_getElem (by rw[h.tl];exact hj)
 obtain⟨y0,y1,y2,y3⟩:=tcells_at T j _ e
 exact⟨_,_,_,_,(h.tho.cellAt (j*4) (by omega)).trans y0,(h.tho.cellAt (j*4+1) (by omega)).trans y1,(h.tho.cellAt (j*4+2) (by omega)).trans y2,(h.tho.cellAt (j*4+3) (by omega)).trans y3⟩
theorem NewAt.lcell (h:NewAt w wr s gt gl n m T Z) (j:Nat) (hj:j<m): ∃u0 u1,wr.cell? (vAt gl (j*2))=some u0∧wr.cell? (vAt gl (j*2+1))=some u1:=by
 have e:=List.getElem?_eq_getElem (by rw[h.zl];exact hj)
 obtain⟨y0,y1⟩:=lcells_at Z j _ e
 exact⟨_,_,(h.lko.cellAt (j*2) (by omega)).trans y0,(h.lko.cellAt (j*2+1) (by omega)).trans y1⟩
theorem NewAt.tcell' (h:NewAt w wr s gt gl n m T Z) (j:Nat) (hj:j<n): ∃u0 u1 u2 u3,∀o,(wr.alloc o).cell? (vAt gt (j*4))=some u0∧(wr.alloc o).cell? (vAt gt (j*4+1))=some u1∧(wr.alloc o).cell? (vAt gt (j*4+2))=some u2∧(wr.alloc o).cell? (vAt gt (j*4+3))=some u3:=by
 obtain⟨u0,u1,u2,u3,y0,y1,y2,y3⟩:=h.tcell j hj
 have l2:=h.lts.2.1
 refine⟨u0,u1,u2,u3,fun o=> ?_⟩
 have hb:vBw wr (wr.alloc o):=bzR.alloc lzr o
 exact⟨(hb.cell (p:=(vAt gt (j*4))) l2).trans y0,(hb.cell (p:=(vAt gt (j*4+1))) l2).trans y1,(hb.cell (p:=(vAt gt (j*4+2))) l2).trans y2,(hb.cell (p:=(vAt gt (j*4+3))) l2).trans y3⟩
end
theorem gnew_ok (n m:Nat) (w:World) (h1:1≤n) (h2:n≤1024) (h3:m≤32):
  vCa 35 #[vI6 n,vI6 m] w fun e w'=> ∃s gt gl,e= .returned (vPt s)∧NewAt w w' s gt gl n m (thj n n) (lkj m m):=by
 obtain⟨i0,hi0,hz0,hz1,hz2⟩:=info_parts infoTh
 obtain⟨j0,hj0,hy0,hy1,hy2⟩:=info_parts infoLk
 have hmk: ∀w,(Instr.makeSlice 156 (vI6 (n:Int)) (vI6 (n:Int))).run Tryz.prog w= .ok (.slice (some (vA0 w.heap.size)) n n) (w.alloc (.cells (thMade n) 162)):=by
  intro w
  have:=run_make w 156 162 i0 thZero Tryz.underlying156 hi0 hz0 .i64 .i64 (n:Int) (n:Int) (by omega) (by omega) (by grind) (by omega)
  rw[hz1,show(n:Int).toNat=n by omega] at this
  exact this
 have hml: ∀w,(Instr.makeSlice 157 (vI6 (m:Int)) (vI6 (m:Int))).run Tryz.prog w= .ok (.slice (some (vA0 w.heap.size)) m m) (w.alloc (.cells (lkMade m) 164)):=by
  intro w
  have:=run_make w 157 164 j0 lkZero Tryz.underlying157 hj0 hy0 .i64 .i64 (m:Int) (m:Int) (by omega) (by omega) (by grind) (by omega)
  rw[hy1,show(m:Int).toNat=m by omega] at this
  exact this
 have e1: ¬(n:Int)<1:=by omega
 have e2: ¬(1024:Int)<(n:Int):=by omega
 have e3: ¬(m:Int)<0:=by omega
 have e4: ¬(32:Int)<(m:Int):=by omega
 have hnm:n≤maxLen∧m≤maxLen:=⟨by simp[maxLen];omega,by simp[maxLen];omega⟩
 have HSA:=veil (new_a w n m hnm.1 hnm.2)
 have HSB:=veil (new_b w n m hnm.1 hnm.2)
 have HF:=veil (fun w=>fixed_mk w 0)
 clear hi0 hz0 hz1 hz2 hj0 hy0 hy1 hy2 hnm
 refine ge ?_
 go_wp2
 go_region_held3 (fun w'=>True) (simp[go_sem]) (first|fail)
 all_goals go_wp2
 ·replace HSA:=HSA
  clear HSB
  go_loopw [33] (fun i wr=> ∃(j:Nat),j≤n∧i=vI6 j∧NewAt w wr (w.heap.size+1+1) (w.heap.size) (w.heap.size+1) n m (thj n j) (lkj m 0)) (fun i _=>n-(intOf i).toNat)
  case atStart=>exact⟨0,by omega,rfl,HSA.out.drew⟩
  case round=>
   obtain⟨j,hj,rfl,hB⟩:=hrel
   by_cases hjl:j<n
   ·have hjl':(j:Int)<(n:Int):=by omega
    have c0:=hB.c0
    have ca:=fun o=>(hB.on (bzR.alloc lzr o)).c0
    have cr:=hB.drew.c0
    have cd:=fun o=>(hB.on (bzR.alloc lzr o)).drew.c0
    have cs: ∀o,(((((wr.alloc o).setCell (vAt w.heap.size (j*4)) (.bool false)).setCell (vAt w.heap.size (j*4+1)) (vU6 0)).setCell (vAt w.heap.size (j*4+2)) (vU8 0)).setCell (vAt w.heap.size (j*4+3)) (vI6 (-1))).drew.cell? (vA0 (w.heap.size+1+1))=some (.slice (some (vA0 w.heap.size)) n n):=fun o=>((hB.on (bzR.alloc lzr o)).putT j hjl ⟨fixK 0,-1⟩).drew.c0
    have fz:=fun o k=>(hB.on (bzR.alloc lzr o)).fz.1 k
    obtain⟨u0,u1,u2,u3,hu⟩:=hB.tcell' j hjl
    have z0:=fun o=>(hu o).1
    have z1:=fun o=>(hu o).2.1
    have z2:=fun o=>(hu o).2.2.1
    have z3:=fun o=>(hu o).2.2.2
    have HB:=veil hB
    clear hB hu
    go_wp2
    go_region_held3 (fun w'=>w'.cell? (vA0 (w.heap.size+1+1))=some (.slice (some (vA0 w.heap.size)) n n))
     (first|with_reducible exact c0|with_reducible exact cr|with_reducible exact ca _|with_reducible exact cd _|grind)
     (first|(go_at_call 68;refine(HF.out _).mono ?_;rintro e w1 ⟨rfl,c,rfl⟩))
    all_goals go_wp2
    all_goals go_roundw
    case rel=>
     refine⟨j+1,by omega,by go_num,?_⟩
     rw[←thj_set n j hjl]
     exact((HB.out.on bzA).putT j hjl ⟨fixK 0,-1⟩).drew
    case measure=>simp[intOf];omega
   ·have hjl': ¬(j:Int)<(n:Int):=by omega
    obtain rfl:j=n:=by omega
    have c1:=hB.c1
    have HB:=veil hB
    clear hB
    go_wp2
    go_loopw [50] (fun i wr=> ∃(k:Nat),k≤m∧i=vI6 k∧NewAt w wr (w.heap.size+1+1) (w.heap.size) (w.heap.size+1) j m (thj j j) (lkj m k)) (fun i _=>m-(intOf i).toNat)
    case atStart=>exact⟨0,by omega,rfl,HB.out⟩
    case round=>
     obtain⟨k,hk,rfl,hB⟩:=hrel
     by_cases hkl:k<m
     ·have hkl':(k:Int)<(m:Int):=by omega
      have c1:=hB.c1
      have fz:=hB.fz.2
      obtain⟨u0,u1,z0,z1⟩:=hB.lcell k hkl
      have HB:=veil hB
      clear hB
      go_wp2
      go_roundw
      case rel=>
       refine⟨k+1,by omega,by go_num,?_⟩
       rw[←lkj_set m k hkl]
       exact HB.out.putL k hkl (-1,.slice none 0 0)
      case measure=>simp[intOf];omega
     ·have hkl': ¬(k:Int)<(m:Int):=by omega
      obtain rfl:k=m:=by omega
      have HB:=veil hB
      clear hB
      go_wp2
      go_ret
      exact⟨_,rfl,_,_,HB.out⟩
 ·replace HSA:=HSB
  go_loopw [33] (fun i wr=> ∃(j:Nat),j≤n∧i=vI6 j∧NewAt w wr (w.heap.size+1+1) (w.heap.size+1) (w.heap.size) n m (thj n j) (lkj m 0)) (fun i _=>n-(intOf i).toNat)
  case atStart=>exact⟨0,by omega,rfl,HSA.out.drew⟩
  case round=>
   obtain⟨j,hj,rfl,hB⟩:=hrel
   by_cases hjl:j<n
   ·have hjl':(j:Int)<(n:Int):=by omega
    have c0:=hB.c0
    have ca:=fun o=>(hB.on (bzR.alloc lzr o)).c0
    have cr:=hB.drew.c0
    have cd:=fun o=>(hB.on (bzR.alloc lzr o)).drew.c0
    have cs: ∀o,(((((wr.alloc o).setCell (vAt (w.heap.size+1) (j*4)) (.bool false)).setCell (vAt (w.heap.size+1) (j*4+1)) (vU6 0)).setCell (vAt (w.heap.size+1) (j*4+2)) (vU8 0)).setCell (vAt (w.heap.size+1) (j*4+3)) (vI6 (-1))).drew.cell? (vA0 (w.heap.size+1+1))=some (.slice (some (vA0 (w.heap.size+1))) n n):=fun o=>((hB.on (bzR.alloc lzr o)).putT j hjl ⟨fixK 0,-1⟩).drew.c0
    have fz:=fun o k=>(hB.on (bzR.alloc lzr o)).fz.1 k
    obtain⟨u0,u1,u2,u3,hu⟩:=hB.tcell' j hjl
    have z0:=fun o=>(hu o).1
    have z1:=fun o=>(hu o).2.1
    have z2:=fun o=>(hu o).2.2.1
    have z3:=fun o=>(hu o).2.2.2
    have HB:=veil hB
    clear hB hu
    go_wp2
    go_region_held3 (fun w'=>w'.cell? (vA0 (w.heap.size+1+1))=some (.slice (some (vA0 (w.heap.size+1))) n n))
     (first|with_reducible exact c0|with_reducible exact cr|with_reducible exact ca _|with_reducible exact cd _|grind)
     (first|(go_at_call 68;refine(HF.out _).mono ?_;rintro e w1 ⟨rfl,c,rfl⟩))
    all_goals go_wp2
    all_goals go_roundw
    case rel=>
     refine⟨j+1,by omega,by go_num,?_⟩
     rw[←thj_set n j hjl]
     exact((HB.out.on bzA).putT j hjl ⟨fixK 0,-1⟩).drew
    case measure=>simp[intOf];omega
   ·have hjl': ¬(j:Int)<(n:Int):=by omega
    obtain rfl:j=n:=by omega
    have c1:=hB.c1
    have HB:=veil hB
    clear hB
    go_wp2
    go_loopw [50] (fun i wr=> ∃(k:Nat),k≤m∧i=vI6 k∧NewAt w wr (w.heap.size+1+1) (w.heap.size+1) (w.heap.size) j m (thj j j) (lkj m k)) (fun i _=>m-(intOf i).toNat)
    case atStart=>exact⟨0,by omega,rfl,HB.out⟩
    case round=>
     obtain⟨k,hk,rfl,hB⟩:=hrel
     by_cases hkl:k<m
     ·have hkl':(k:Int)<(m:Int):=by omega
      have c1:=hB.c1
      have fz:=hB.fz.2
      obtain⟨u0,u1,z0,z1⟩:=hB.lcell k hkl
      have HB:=veil hB
      clear hB
      go_wp2
      go_roundw
      case rel=>
       refine⟨k+1,by omega,by go_num,?_⟩
       rw[←lkj_set m k hkl]
       exact HB.out.putL k hkl (-1,.slice none 0 0)
      case measure=>simp[intOf];omega
     ·have hkl': ¬(k:Int)<(m:Int):=by omega
      obtain rfl:k=m:=by omega
      have HB:=veil hB
      clear hB
      go_wp2
      go_ret
      exact⟨_,rfl,_,_,HB.out⟩
def newT (n:Nat):List Th:=List.replicate n ⟨fixK 0,-1⟩
def newL (m:Nat):List Lk:=List.replicate m ⟨-1,[]⟩
theorem new_fine (n m:Nat) (h1:1≤n) (h2:n≤1024) (h3:m≤32):Fine (newT n) (newL m):=by
 refine⟨by simpa [newT] using h1,by simpa [newT] using h2,by simpa [newL] using h3,?_,?_,?_,?_⟩
 ·intro x hx
  obtain rfl:=List.eq_of_mem_replicate hx
  refine⟨⟨⟨by decide,by decide⟩,by decide,by decide⟩,by decide,?_⟩
  grind
 ·intro y hy
  obtain rfl:=List.eq_of_mem_replicate hy
  refine⟨by decide,?_,by simp,by simp,by simp⟩
  grind
 ·intro t x hx m' y hy
  obtain rfl:=List.eq_of_mem_replicate (List.mem_of_getElem? hx)
  obtain rfl:=List.eq_of_mem_replicate (List.mem_of_getElem? hy)
  simp
 ·refine⟨0,fun _=>0,fun _=>lzr,?_⟩
  rintro t s ⟨y,hy,ht,_⟩
  obtain rfl:=List.eq_of_mem_replicate hy
  grind
section
variable {w w':World} {base s:Nat} {vt vl:Value} {V:List Value} {T:List Th} {L:List Lk}
theorem IsG.new {gt gl n m:Nat} (h:NewAt w w' s gt gl n m (thj n n) (lkj m m)) (h1:1≤n) (h2:n≤1024) (h3:m≤32):
  IsG w' w.heap.size s (.slice (some (vA0 gt)) n n) (.slice (some (vA0 gl)) m m) (List.replicate m (.slice none 0 0)) (newT n) (newL m):=by
 have e1:(newT n).length=n:=by simp[newT]
 have e2:(newL m).length=m:=by simp[newL]
 have e3:((newL m).map (·.h)).zip (List.replicate m (Value.slice none 0 0))=List.replicate m (-1,Value.slice none 0 0):=by
  simp[newL,List.map_replicate]
 have ht:=h.tho
 have hl:=h.lko
 rw[thj_end] at ht
 rw[lkj_end] at hl
 refine⟨h.blk,h.lo,by rw[e1];exact ht,by rw[e2,e3];exact hl,by grind,?_,?_,h.be.size,new_fine n m h1 h2 h3⟩
 ·intro j y v hy hv
  obtain rfl:=List.eq_of_mem_replicate (List.mem_of_getElem? hy)
  obtain rfl:=List.eq_of_mem_replicate (List.mem_of_getElem? hv)
  exact World.ownsRow_nil _ _ _ _
 ·intro i j u v k hu hv hk
  obtain rfl:=List.eq_of_mem_replicate (List.mem_of_getElem? hu)
  simp[Value.ownBlock] at hk
theorem tcells_key: ∀(T:List Th) (i:Nat) (x:Th) (k:K),T[i]? =some x→tcells (T.set i ⟨k,x.u⟩)=(((tcells T).set (i*4) (.bool k.e)).set (i*4+1) (vU6 k.d)).set (i*4+2) (vU8 k.l)
 |[],i,x,k,h=>by simp at h
 |y::T,0,x,k,h=>by
  simp at h
  subst h
  rfl
 |y::T,i+1,x,k,h=>by
  have:=tcells_key T i x k (by grind)
  rw[List.set_cons_succ,tcells_cons,this,tcells_cons,show(i+1)*4=i*4+4 by omega]
  rfl
theorem Fine.based (f:Fine T L) {j:Nat} {x:Th} (hx:T[j]? =some x) {k:K} (hk:k.ok):Fine (T.set j ⟨k,x.u⟩) L:=by
 refine⟨by grind,by simpa using f.t2,f.l2,?_,by simpa using f.lk,?_,f.ac⟩
 ·intro y hy
  rcases List.mem_or_eq_of_mem_set hy with q|q
  ·exact f.th y q
  ·rw[q]
   exact⟨hk,(f.th x (List.mem_of_getElem? hx)).2⟩
 ·intro t y hy m z hz
  rw[List.getElem?_set] at hy
  by_cases q:j=t
  ·subst q
   have hj:=(List.getElem?_eq_some_iff.1 hx).1
   rw[if_pos rfl,if_pos hj] at hy
   obtain rfl:=Option.some.inj hy
   exact f.wt j x hx m z hz
  ·rw[if_neg q] at hy
   exact f.wt t y hy m z hz
theorem IsG.blocks (h:IsG w base s vt vl V T L) {g:Nat} (hg:vt.ownBlock=some g):g≠s∧vl.ownBlock≠some g∧ ∀v∈V,v.ownBlock≠some g:=by
 obtain⟨_,_,c,e⟩:=ownsRow_blk h.tho hg
 refine⟨fun q=> ?_,fun q=> ?_,fun v hv q=> ?_⟩
 ·rw[q,h.blk] at e;simp at e
 ·obtain⟨_,_,c',e'⟩:=ownsRow_blk h.lko q
  grind
 ·obtain⟨j,hj⟩:=List.mem_iff_getElem?.1 hv
  have hjl:=(List.getElem?_eq_some_iff.1 hj).1
  rw[h.vs] at hjl
  obtain⟨_,_,c',e'⟩:=ownsRow_blk (h.lin j _ v (List.getElem?_eq_getElem hjl) hj) q
  grind
theorem IsG.putT (h:IsG w base s vt vl V T L) {g:Nat} (hg:vt.ownBlock=some g) {T':List Th} (h0:w'.heap.size=w.heap.size) (h1: ∀k,k≠g→w'.heap[k]? =w.heap[k]?)
  (ht:w'.ownsRow base 162 4 vt T'.length (tcells T')) (f:Fine T' L):IsG w' base s vt vl V T' L:=by
 obtain⟨b1,b2,b3⟩:=h.blocks hg
 exact⟨(h1 s (Ne.symm b1)).trans h.blk,h.lo,ht,ownsRow_far h.lko (fun k hk=>h1 k (fun q=>b2 (by grind))),h.vs,
  fun j y v hy hv=>ownsRow_far (h.lin j y v hy hv) (fun k hk=>h1 k (fun q=>b3 v (List.mem_of_getElem? hv) (by grind))),h.apart,by rw[h0];exact h.bs,f⟩
theorem IsG.based {g cap:Nat} (h:IsG w base s (.slice (some (vA0 g)) T.length cap) vl V T L) {j:Nat} {x:Th} (hx:T[j]? =some x) {k:K} (hk:k.ok):
  IsG (((w.setCell (vAt g (j*4)) (.bool k.e)).setCell (vAt g (j*4+1)) (vU6 k.d)).setCell (vAt g (j*4+2)) (vU8 k.l)) base s (.slice (some (vA0 g)) T.length cap) vl V (T.set j ⟨k,x.u⟩) L:=by
 have hj:=(List.getElem?_eq_some_iff.1 hx).1
 refine h.putT (g:=g) rfl (by simp) (fun b hb=> ?_) ?_ (h.f.based hx hk)
 ·rw[Below.heap_setCell _ _ _ _ hb,Below.heap_setCell _ _ _ _ hb,Below.heap_setCell _ _ _ _ hb]
 ·rw[tcells_key T j x k hx,List.length_set]
  exact ownsRow_set (ownsRow_set (ownsRow_set h.tho (j*4) (by omega) _) (j*4+1) (by omega) _) (j*4+2) (by omega) _
theorem base_no (h:IsG w base s vt vl V T L) (t:Int) (k:K) (hn:inT T t=false∨rightK k=false):vQ 79 #[vPt s,vI6 t,.agg (vKy k)] w (vI6 2):=by
 have HT:=veil (fun w' (hb:vBw w w')=>hasT_ok (h.below hb) t)
 have HR:=veil (fun w=>right_ok w k)
 cases ht:inT T t with
 |false=>
  simp only[ht] at HT
  clear h hn ht
  refine ge ?_
  go_wp2_with (go_at_call 128;refine cS (HT.out _ (by first|exact bzR|exact bzA)) ?_)
  go_ret
  exact⟨rfl,by first|exact bzR|exact bzA⟩
 |true=>
  have hr:rightK k=false:=by
   grind
  simp only[ht] at HT
  simp only[hr] at HR
  clear h hn ht hr
  refine ge ?_
  go_wp2_with (first
   |(go_at_call 128;refine(HT.out _ (by first|exact bzR|exact bzA)).mono ?_;rintro e w1 ⟨rfl,hw⟩;subst hw)
   |(go_at_call 129;refine(HR.out _).mono ?_;rintro e w1 ⟨rfl,hb1⟩))
  go_ret
  exact⟨rfl,bzA.trans (hb1.mono (by simp))⟩
theorem IsG.drew (h:IsG w base s vt vl V T L):IsG w.drew base s vt vl V T L:=⟨h.blk,h.lo,h.tho.drew,h.lko.drew,h.vs,fun j y v a b=>(h.lin j y v a b).drew,h.apart,h.bs,h.f⟩
theorem base_yes (h:IsG w base s vt vl V T L) (j:Nat) (x:Th) (hx:T[j]? =some x) (k:K) (hk:k.ok) (hr:rightK k=true):vCa 79 #[vPt s,vI6 (j:Int),.agg (vKy k)] w fun e w'=>e= .returned (vI6 0)∧IsG w' base s vt vl V (T.set j ⟨k,x.u⟩) L∧Fr (fun b=>vt.ownBlock=some b) w w':=by
 have hj:=(List.getElem?_eq_some_iff.1 hx).1
 have hj':(j:Int)<(T.length:Int):=by omega
 have HT:=veil (fun w' (hb:vBw w w')=>hasT_ok (h.below hb) (j:Int))
 have ht:inT T (j:Int)=true:=by unfold inT;grind
 have HR:=veil (fun w=>right_ok w k)
 simp only[ht] at HT
 simp only[hr] at HR
 obtain⟨g,cap,rfl,hc1,hc2,_⟩:=h.tform
 have HG:Hid (∀w1,Below (w.alloc (.cells (vKy k) 120)).heap.size (w.alloc (.cells (vKy k) 120)) w1→
   w1.cell? (vA0 s)=some (.slice (some (vA0 g)) T.length cap)∧w1.cell? (vA0 w.heap.size)=some (.bool k.e)∧w1.cell? (vAt w.heap.size 1)=some (vU6 k.d)∧w1.cell? (vAt w.heap.size 2)=some (vU8 k.l)∧
   (∀o,w1.frozen? (vAt g o)=false)∧w1.cell? (vAt g (j*4))=some (.bool x.k.e)∧w1.cell? (vAt g (j*4+1))=some (vU6 x.k.d)∧w1.cell? (vAt g (j*4+2))=some (vU8 x.k.l)∧
   ((((w1.setCell (vAt g (j*4)) (.bool k.e)).setCell (vAt g (j*4+1)) (vU6 k.d)).setCell (vAt g (j*4+2)) (vU8 k.l)).drew.cell? (vA0 s)=some (.slice (some (vA0 g)) T.length cap)∧(((w1.setCell (vAt g (j*4)) (.bool k.e)).setCell (vAt g (j*4+1)) (vU6 k.d)).setCell (vAt g (j*4+2)) (vU8 k.l)).drew.cell? (vA0 w.heap.size)=some (.bool k.e)∧(((w1.setCell (vAt g (j*4)) (.bool k.e)).setCell (vAt g (j*4+1)) (vU6 k.d)).setCell (vAt g (j*4+2)) (vU8 k.l)).drew.cell? (vAt w.heap.size 1)=some (vU6 k.d)∧(((w1.setCell (vAt g (j*4)) (.bool k.e)).setCell (vAt g (j*4+1)) (vU6 k.d)).setCell (vAt g (j*4+2)) (vU8 k.l)).drew.cell? (vAt w.heap.size 2)=some (vU8 k.l))∧
   IsG (((w1.setCell (vAt g (j*4)) (.bool k.e)).setCell (vAt g (j*4+1)) (vU6 k.d)).setCell (vAt g (j*4+2)) (vU8 k.l)) base s (.slice (some (vA0 g)) T.length cap) vl V (T.set j ⟨k,x.u⟩) L∧
   Fr (fun b=>(Value.slice (some (vA0 g)) T.length cap).ownBlock=some b) w (((w1.setCell (vAt g (j*4)) (.bool k.e)).setCell (vAt g (j*4+1)) (vU6 k.d)).setCell (vAt g (j*4+2)) (vU8 k.l))):=by
  intro w1 hb
  have hb0:vBw w (w.alloc (.cells (vKy k) 120)):=bzA
  have hb2:vBw w w1:=hb0.trans (hb.mono hb0.size)
  have h1:=h.below hb2
  obtain⟨g',cap',e,_,_,_,_,hf,hc⟩:=h1.tform
  simp at e
  obtain⟨rfl,rfl⟩:=e
  obtain⟨y0,y1,y2,y3⟩:=hc j x hx
  obtain⟨z0,z1,z2⟩:=at_new w k 120
  have hg:=(ownsRow_blk h.tho (k:=g) rfl).2.1
  have hgne:w.heap.size≠g:=by omega
  have hS: ∀u:Nat,(((w1.setCell (vAt g (j*4)) (.bool k.e)).setCell (vAt g (j*4+1)) (vU6 k.d)).setCell (vAt g (j*4+2)) (vU8 k.l)).drew.heap[w.heap.size]? =w1.heap[w.heap.size]? :=fun _=>by
   show(((w1.setCell (vAt g (j*4)) (.bool k.e)).setCell (vAt g (j*4+1)) (vU6 k.d)).setCell (vAt g (j*4+2)) (vU8 k.l)).heap[w.heap.size]? =_
   rw[Below.heap_setCell _ _ _ _ hgne,Below.heap_setCell _ _ _ _ hgne,Below.heap_setCell _ _ _ _ hgne]
  have hlt:w.heap.size<(w.alloc (.cells (vKy k) 120)).heap.size:=by simp
  refine⟨h1.c0,(hb.cell (p:=(vA0 w.heap.size)) hlt).trans z0,(hb.cell (p:=(vAt w.heap.size 1)) hlt).trans z1,(hb.cell (p:=(vAt w.heap.size 2)) hlt).trans z2,hf,y0,y1,y2,?_,h1.based hx hk,?_⟩
  ·refine⟨(h1.based hx hk).drew.c0,?_,?_,?_⟩
   ·exact(World.cell?_of_block (hS 0)).trans ((hb.cell (p:=(vA0 w.heap.size)) hlt).trans z0)
   ·exact(World.cell?_of_block (hS 0)).trans ((hb.cell (p:=(vAt w.heap.size 1)) hlt).trans z1)
   ·exact(World.cell?_of_block (hS 0)).trans ((hb.cell (p:=(vAt w.heap.size 2)) hlt).trans z2)
  exact(((Fr.of_below' (S:=fun b=>(Value.slice (some (vA0 g)) T.length cap).ownBlock=some b) hb2).setCell (a:=(vAt g (j*4))) rfl _).setCell (a:=(vAt g (j*4+1))) rfl _).setCell (a:=(vAt g (j*4+2))) rfl _
 clear h hr ht hx hk
 refine ge ?_
 go_wp2_with (first
  |(go_at_call 128;refine(HT.out _ (by first|exact bzR|exact bzA)).mono ?_;rintro e w1 ⟨rfl,hw⟩;subst hw)
  |(go_at_call 129;refine(HR.out _).mono ?_;rintro e w1 ⟨rfl,hb1⟩;obtain⟨c0,k0,k1,k2,fz,y0,y1,y2,hSS,hI,hF⟩:=HG.out w1 hb1;replace hI:=veil hI;replace hF:=veil hF;clear hb1))
 have hS1:=veil (And.intro c0 (And.intro k0 (And.intro k1 k2)))
 have hS2:Hid (w1.drew.cell? (vA0 s)=some (.slice (some (vA0 g)) T.length cap)∧w1.drew.cell? (vA0 w.heap.size)=some (.bool k.e)∧w1.drew.cell? (vAt w.heap.size 1)=some (vU6 k.d)∧w1.drew.cell? (vAt w.heap.size 2)=some (vU8 k.l)):=⟨c0,k0,k1,k2⟩
 replace hSS:=veil hSS
 go_region_held3 (fun w'=>(w'.cell? (vA0 s)=some (.slice (some (vA0 g)) T.length cap)∧w'.cell? (vA0 w.heap.size)=some (.bool k.e)∧w'.cell? (vAt w.heap.size 1)=some (vU6 k.d)∧w'.cell? (vAt w.heap.size 2)=some (vU8 k.l)))
  (first|with_reducible exact hS1.out|with_reducible exact hS2.out|assumption)
  (first|fail)
 all_goals go_wp2
 all_goals go_ret
 all_goals exact⟨rfl,hI.out.drew,hF.out.drew⟩
end
theorem lcells_hold: ∀(Z:List (Int×Value)) (i:Nat) (z:Int×Value) (a:Int),Z[i]? =some z→lcells (Z.set i (a,z.2))=(lcells Z).set (i*2) (vI6 a)
 |[],i,z,a,h=>by simp at h
 |y::Z,0,z,a,h=>by
  exact mK
 |y::Z,i+1,z,a,h=>by
  have:=lcells_hold Z i z a (by grind)
  grind[Pi.lcells_cons]
theorem zip_set {α β:Type}: ∀(A:List α) (B:List β) (i:Nat) (a:α) (b:β),B[i]? =some b→(A.set i a).zip B=(A.zip B).set i (a,b)
 |[],B,i,a,b,h=>by simp
 |x::A,[],i,a,b,h=>by simp
 |x::A,y::B,0,a,b,h=>by
  simp_all
 |x::A,y::B,i+1,a,b,h=>by
  have:=zip_set A B i a b (by grind)
  simp_all
section
variable {w w':World} {base s:Nat} {vt vl:Value} {V:List Value} {T:List Th} {L:List Lk}
theorem IsG.lblocks (h:IsG w base s vt vl V T L) {g:Nat} (hg:vl.ownBlock=some g):g≠s∧vt.ownBlock≠some g∧ ∀v∈V,v.ownBlock≠some g:=by
 obtain⟨_,_,c,e⟩:=ownsRow_blk h.lko hg
 refine⟨fun q=> ?_,fun q=> ?_,fun v hv q=> ?_⟩
 ·rw[q,h.blk] at e;simp at e
 ·obtain⟨_,_,c',e'⟩:=ownsRow_blk h.tho q
  grind
 ·obtain⟨j,hj⟩:=List.mem_iff_getElem?.1 hv
  have hjl:=(List.getElem?_eq_some_iff.1 hj).1
  rw[h.vs] at hjl
  obtain⟨_,_,c',e'⟩:=ownsRow_blk (h.lin j _ v (List.getElem?_eq_getElem hjl) hj) q
  grind
theorem IsG.hold {g cap:Nat} (h:IsG w base s vt (.slice (some (vA0 g)) L.length cap) V T L) {m:Nat} {y:Lk} (hy:L[m]? =some y) (a:Int) (f:Fine T (L.set m ⟨a,y.l⟩)):
  IsG (w.setCell (vAt g (m*2)) (vI6 a)) base s vt (.slice (some (vA0 g)) L.length cap) V T (L.set m ⟨a,y.l⟩):=by
 have hm:=(List.getElem?_eq_some_iff.1 hy).1
 obtain⟨v,hv⟩: ∃v,V[m]? =some v:=⟨_,List.getElem?_eq_getElem (by rw[h.vs];exact hm)⟩
 obtain⟨b1,b2,b3⟩:=h.lblocks (g:=g) rfl
 have hz:((L.map (·.h)).zip V)[m]? =some (y.h,v):=by grind
 have e:((L.set m ⟨a,y.l⟩).map (·.h)).zip V=((L.map (·.h)).zip V).set m (a,v):=by grind[List.map_set,Pi.zip_set]
 refine⟨?_,h.lo,ownsRow_far h.tho ?_,?_,by simpa using h.vs,?_,h.apart,by simpa using h.bs,f⟩
 ·rw[Below.heap_setCell _ _ _ _ (Ne.symm b1)]
  exact h.blk
 ·grind[RowKit.Below.heap_setCell]
 ·rw[e,lcells_hold _ m (y.h,v) a hz,List.length_set]
  grind[ownsRow_set,Pi.IsG.lko]
 ·intro j x u hx hu
  have hx': ∃x',L[j]? =some x'∧x'.l=x.l:=by
   grind
  obtain⟨x',e1,e2⟩:=hx'
  rw[←e2]
  refine ownsRow_far (h.lin j x' u e1 hu) ?_
  grind[RowKit.Below.heap_setCell]
theorem Fine.take (f:Fine T L) {m:Nat} {y:Lk} (hy:L[m]? =some y) (hf:y.h= -1) {t:Nat} (ht:t<T.length):y.l=[]∧Fine T (L.set m ⟨(t:Int),y.l⟩):=by
 have ho:=f.lk y (List.mem_of_getElem? hy)
 have hl:y.l=[]:=by
  cases q:y.l with
  |nil=>rfl
  |cons a b=>
   have:=ho.2.2.2.2 (by grind)
   omega
 have hm:=(List.getElem?_eq_some_iff.1 hy).1
 refine⟨hl,f.t1,f.t2,by simpa using f.l2,by simpa using f.th,?_,?_,f.ac.less ?_⟩
 ·intro z hz
  rcases List.mem_or_eq_of_mem_set hz with q|q
  ·exact f.lk z q
  ·subst q
   refine⟨by simp,by grind,ho.2.2.1,ho.2.2.2.1,fun _=>by simp⟩
 ·intro a x hx k z hz
  rw[List.getElem?_set] at hz
  by_cases q:m=k
  ·subst q
   rw[if_pos rfl,if_pos hm] at hz
   grind[Pi.Fine.wt]
  ·rw[if_neg q] at hz
   exact f.wt a x hx k z hz
 ·rintro a b ⟨z,hz,ha,hb⟩
  rcases List.mem_or_eq_of_mem_set hz with q|q
  ·exact⟨z,q,ha,hb⟩
  ·subst q
   rw[hl] at ha
   simp at ha
theorem lock_may (h:IsG w base s vt vl V T L) (t m:Int) (he:mayE T L t m≠0):vS 190 #[vPt s,vI6 t,vI6 m] w (.tuple #[.bool false,vI6 (mayE T L t m)]):=by
 have HM:=veil (may_ok h t m)
 generalize mayE T L t m=z at he HM
 clear h
 refine ge ?_
 go_wp2_with (go_at_call 191;refine cS HM.out ?_)
 simp[bodyPost,results,Tryz.results190,go_sem]
theorem unlock_may (h:IsG w base s vt vl V T L) (t m:Int) (he:mayE T L t m≠0):vS 165 #[vPt s,vI6 t,vI6 m] w (.tuple #[vI6 (-1),vI6 (mayE T L t m)]):=by
 have HM:=veil (may_ok h t m)
 generalize mayE T L t m=z at he HM
 clear h
 refine ge ?_
 go_wp2_with (go_at_call 191;refine cS HM.out ?_)
 simp[bodyPost,results,Tryz.results165,go_sem]
theorem may_yes {t m:Int} (he:mayE T L t m=0): ∃(i j:Nat) (x:Th) (y:Lk),t=i∧m=j∧i<T.length∧j<L.length∧T[i]? =some x∧x.u= -1∧L[j]? =some y:=by
 unfold mayE at he
 split at he
 ·rename_i q
  simp only[Bool.and_eq_true] at q
  obtain⟨i,x,e1,e2,e3,e4⟩:=inT_yes q.1
  obtain⟨j,y,f1,f2,f3,f4⟩:=inL_yes q.2
  grind
 ·omega
theorem lock_own (h:IsG w base s vt vl V T L) (i j:Nat) (he:mayE T L i j=0) (y:Lk) (hy:L[j]? =some y) (ho:y.h=(i:Int)):vS 190 #[vPt s,vI6 (i:Int),vI6 (j:Int)] w (.tuple #[.bool false,vI6 7]):=by
 have HM:=veil (may_ok h (i:Int) (j:Int))
 rw[he] at HM
 have hj:=(List.getElem?_eq_some_iff.1 hy).1
 have hj':(j:Int)<(L.length:Int):=by omega
 obtain⟨v,hv⟩:=h.line hj
 obtain⟨g,cap,rfl,hc1,hc2,hg,hgs,_,hc⟩:=h.lform (by omega)
 obtain⟨y0,y1⟩:=hc j y v hy hv
 rw[ho] at y0
 have c1:=h.c1
 clear h hc he
 refine ge ?_
 go_wp2_with (go_at_call 191;refine cS HM.out ?_)
 simp[bodyPost,results,Tryz.results190,go_sem]
theorem lock_free (h:IsG w base s vt vl V T L) (i j:Nat) (he:mayE T L i j=0) (y:Lk) (hy:L[j]? =some y) (ho:y.h= -1):vCa 190 #[vPt s,vI6 (i:Int),vI6 (j:Int)] w fun e w'=>e=vRt #[.bool true,vI6 0]∧IsG w' base s vt vl V T (L.set j ⟨(i:Int),y.l⟩)∧Fr (fun b=>vl.ownBlock=some b) w w':=by
 have HM:=veil (may_ok h (i:Int) (j:Int))
 obtain⟨i',j',x,y',e1,e2,hi,hj,hx,hu,hy'⟩:=may_yes he
 obtain rfl:i=i':=by omega
 obtain rfl:j=j':=by omega
 rw[he] at HM
 have hj':(j:Int)<(L.length:Int):=by omega
 have hni: ¬(-1:Int)=(i:Int):=by omega
 obtain⟨v,hv⟩:=h.line hj
 obtain⟨g,cap,rfl,hc1,hc2,hg,hgs,fz,hc⟩:=h.lform (by omega)
 obtain⟨y0,y1⟩:=hc j y v hy hv
 rw[ho] at y0
 have c1:=h.c1
 have HI:=veil (h.hold hy (i:Int) (h.f.take hy ho hi).2)
 have HF:Hid (Fr (fun b=>(Value.slice (some (vA0 g)) L.length cap).ownBlock=some b) w (w.setCell (vAt g (j*2)) (vI6 (i:Int)))):=(Fr.refl (fun b=>(Value.slice (some (vA0 g)) L.length cap).ownBlock=some b) w).setCell (a:=(vAt g (j*2))) rfl _
 clear h hc he e1 e2 hx hu hy'
 refine ge ?_
 go_wp2_with (go_at_call 191;refine cS HM.out ?_)
 simp[bodyPost,results,Tryz.results190,go_sem]
 exact⟨HI.out,HF.out⟩
end
end Go.Proofs.YtnmhcgpnhlhcgaaGreatDoor.Pi
namespace Go.Proofs.YtnmhcgpnhlhcgaaGreatDoor.Pi
open Go.Proofs.YtnmhcgpnhlhcgaaGreatDoor.Ke
open Go.Shelf
open Go.RowKit
attribute [local go_sem] Oper.semAt_some
def heldTo (L:List Lk) (t:Int) (j:Nat):List Int:=((List.range j).filter (fun m=>(L[m]?).map (·.h)==some t)).map (fun m:Nat=>(m:Int))
def heldOf (L:List Lk) (t:Int):List Int:=heldTo L t L.length
theorem heldTo_yes {L:List Lk} {t:Int} {j:Nat} {y:Lk} (hy:L[j]? =some y) (h:y.h=t):heldTo L t (j+1)=heldTo L t j++[(j:Int)]:=by
 grind[Pi.heldTo,List.range_succ]
theorem heldTo_no {L:List Lk} {t:Int} {j:Nat} {y:Lk} (hy:L[j]? =some y) (h: ¬y.h=t):heldTo L t (j+1)=heldTo L t j:=by
 grind[Pi.heldTo,List.range_succ]
theorem heldTo_pre {L:List Lk} {t:Int} {i j:Nat} (h:i≤j):heldTo L t i<+:heldTo L t j:=by
 unfold heldTo
 obtain⟨d,rfl⟩: ∃d,j=i+d:=⟨j-i,by omega⟩
 grind[List.range_add]
structure RdL (W:World) (s:Nat) (a:Option Addr) (cap:Nat) (L:List Lk):Prop where
 c1:W.cell? (vAt s 1)=some (.slice a L.length cap)
 le:L.length≤cap∧cap≤maxLen
 ce: ∀(j:Nat) y,L[j]? =some y→ ∃g va vn vc,a=some (vA0 g)∧W.cell? (vAt g (j*2))=some (vI6 y.h)∧W.cell? (vAt g (j*2+1))=some (.slice va vn vc)
theorem IsG.rdL {w:World} {base s:Nat} {vt vl:Value} {V:List Value} {T:List Th} {L:List Lk} (h:IsG w base s vt vl V T L): ∃a cap,vl= .slice a L.length cap∧RdL w s a cap L:=by
 obtain⟨a,cap,rfl,h1,h2⟩:=form_of h.lko
 refine⟨a,cap,rfl,h.c1,⟨h1,h2⟩,fun j y hy=> ?_⟩
 have hj:=(List.getElem?_eq_some_iff.1 hy).1
 obtain⟨v,hv⟩:=h.line hj
 obtain⟨g,cap',e,_,_,_,_,_,hc⟩:=h.lform (by omega)
 simp at e
 obtain⟨y0,y1⟩:=hc j y v hy hv
 obtain⟨va,vc,rfl,_⟩:=form_of (h.lin j y v hy hv)
 grind
def Kh (n0 B2:Nat) (t:Int) (A B:World):Prop:=Below n0 A B∧(Boxed A B2 3 (vI6 t)→Boxed B B2 3 (vI6 t))
theorem held_yields (nn:Nat) (hn:1≤nn) (l B1 B2 n0 s:Nat) (a:Option Addr) (cap:Nat) (L:List Lk) (t:Int) (J Jx:List Int→World→Prop)
  (hY: ∀pre x W,J pre W→pre.length<(heldOf L t).length→YieldAt Fence.wide (nn-1) Tryz.prog l #[vI6 x] W fun e W'=>
   (e= .returned (.bool true)∧J (pre++[x]) W'∧Kh n0 B2 t W W')∨(e= .returned (.bool false)∧Jx (pre++[x]) W'))
  (W:World) (hb1:W.cell? (vA0 B1)=some (vPt s)) (hb2:Boxed W B2 3 (vI6 t)) (hr:RdL W s a cap L) (hL:L.length≤32) (hgn: ∀g,a=some (vA0 g)→g<n0) (n1:Nat) (hJ:AbidesFrom n1 J) (hn0:n0≤W.heap.size) (h0:J [] W):
  CallsIn Fence.wide nn Tryz.prog 205 #[.func (.yield l) #[] #[],vPt B1,vPt B2] W fun e W'=>(∃v,e= .returned v)∧
   ((∃ys,ys=heldOf L t∧J ys W')∨(∃pre,pre<+:heldOf L t∧Jx pre W')):=by
 have c1:=hr.c1
 have HR:=veil hr
 have HB2:=veil hb2
 have H0:=veil h0
 have HY:=veil hY
 clear hb2 hr h0 hY
 refine callsIn_of_wp Tryz.func205 rfl trivial ?_ rfl
 simp only[Tryz.ntmps205,List.size_toArray,List.length_cons,List.length_nil,Nat.reduceAdd,Nat.reduceSub,Array.replicate_succ,Array.replicate_zero,List.push_toArray,List.append_toArray,List.nil_append,List.cons_append]
 gi_wp2
 gi_loopw [11] (fun p wr=> ∃(j:Nat),j≤L.length∧p=vI6 j∧n0≤wr.heap.size∧Below n0 W wr∧Boxed wr B2 3 (vI6 t)∧J (heldTo L t j) wr)
  (fun p _=>L.length-(intOf p).toNat)
 case atStart=>exact⟨0,by omega,rfl,hn0,bzR,HB2.out,H0.out⟩
 case round=>
  obtain⟨j,hj,rfl,hn1,hbe,hbx,hJ0⟩:=hrel
  by_cases hjl:j<L.length
  ·have hjl':(j:Int)<(L.length:Int):=by omega
   obtain⟨y,hy⟩: ∃y,L[j]? =some y:=⟨_,List.getElem?_eq_getElem hjl⟩
   obtain⟨g,va,vn,vc,rfl,y0',y1'⟩:=HR.out.ce j y hy
   have y0:=(hbe.cell (p:=(vAt g (j*2))) (hgn g rfl)).trans y0'
   have y1:=(hbe.cell (p:=(vAt g (j*2+1))) (hgn g rfl)).trans y1'
   have b2:=hbx.cell
   have hlt2:=hbx.lt
   have hne2: ¬B2=wr.heap.size:=by omega
   have HBe:=veil hbe
   have HBx:=veil hbx
   have HJ0:=veil hJ0
   have HYJ:=veil hy
   clear y0' y1' hbe hbx hJ0 hy
   by_cases hh:y.h=t
   ·have hh':(y.h==t)=true:=by simp[hh]
    have hJ1:J (heldTo L t j) (wr.alloc (.cells #[vI6 t,.slice va vn vc] 164)):=hJ _ wr _ none HJ0.out ⟨rfl,rfl,rfl,by simp,fun k hk _=>Below.heap_alloc _ _ _ hk⟩ (fun r e=>by cases e)
    have hpl:(heldTo L t j).length<(heldOf L t).length:=by
     have e:=heldTo_yes HYJ.out hh
     have p:=(heldTo_pre (L:=L) (t:=t) (show j+1≤L.length by omega)).length_le
     rw[e] at p
     unfold heldOf
     grind
    obtain⟨fn,tmps,assign,body,hyy,hR⟩:=HY.out _ (j:Int) _ hJ1 hpl
    have HA:Hid (Boxed (wr.alloc (.cells #[vI6 t,.slice va vn vc] 164)) B2 3 (vI6 t)):=HBx.out.alloc _
    have HE:=veil (heldTo_yes HYJ.out hh)
    have HP:=veil (heldTo_pre (L:=L) (t:=t) (show j+1≤L.length by omega))
    have HBe2:Hid (Below n0 W (wr.alloc (.cells #[vI6 t,.slice va vn vc] 164))):=HBe.out.alloc hn1 _
    clear hpl hJ1
    gi_wp2
    refine hR.mono ?_
    rintro e W3 (⟨rfl,hJ3,hk3⟩|⟨rfl,hJx3⟩)
    ·have HB3:=veil (hk3.2 HA.out)
     have HBe3:=veil (HBe2.out.trans hk3.1)
     have hz3:n0≤W3.heap.size:=by have:=hk3.1.size;simp at this;omega
     have HJ3:=veil hJ3
     clear hJ3 hk3 hyy hR HY
     gi_wp2
     go_roundw
     case rel=>
      refine⟨j+1,by omega,by go_num,hz3,HBe3.out,HB3.out,?_⟩
      rw[HE.out]
      exact HJ3.out
     case measure=>simp[intOf];omega
    ·have HJx:=veil hJx3
     clear hJx3 hyy hR HY
     gi_wp2
     refine bodyPost_ret (results_none rfl _ _ _) rfl ?_
     refine⟨⟨_,rfl⟩,.inr ⟨_,?_,HJx.out⟩⟩
     have p:=HP.out
     rw[HE.out] at p
     exact p
   ·have hh':(y.h==t)=false:=by simp[hh]
    have HJ1:Hid (J (heldTo L t (j+1)) (wr.alloc (.cells #[vI6 y.h,.slice va vn vc] 164))):=by
     show J _ _
     rw[heldTo_no HYJ.out hh]
     exact hJ _ wr _ none HJ0.out ⟨rfl,rfl,rfl,by simp,fun k hk _=>Below.heap_alloc _ _ _ hk⟩ (fun r e=>by cases e)
    have HA:Hid (Boxed (wr.alloc (.cells #[vI6 y.h,.slice va vn vc] 164)) B2 3 (vI6 t)):=HBx.out.alloc _
    have HBe2:Hid (Below n0 W (wr.alloc (.cells #[vI6 y.h,.slice va vn vc] 164))):=HBe.out.alloc hn1 _
    gi_wp2
    refine⟨fun _ h=>(by cases h),?_⟩
    gi_wp2
    go_roundw
    case rel=>exact⟨j+1,by omega,by go_num,by simp;omega,HBe2.out,HA.out,HJ1.out⟩
    case measure=>simp[intOf];omega
  ·have hjl': ¬(j:Int)<(L.length:Int):=by omega
   obtain rfl:j=L.length:=by omega
   have HJ0:=veil hJ0
   clear hJ0 hbe hbx
   gi_wp2
   go_end0
   exact⟨⟨_,rfl⟩,.inl HJ0.out⟩
theorem held_in (nn s:Nat) (t:Int) (w:World):
  CallsIn Fence.wide nn Tryz.prog 178 #[vPt s,vI6 t] w fun e w'=>e= .returned (.func (.func 205) #[] #[vPt w.heap.size,vPt (w.heap.size+1)])∧
   w'=(w.alloc (.cells #[vPt s] 96)).alloc (.cells #[vI6 t] 3):=by
 refine callsIn_of_wp Tryz.func178 rfl trivial ?_ rfl
 simp only[Tryz.ntmps178,List.size_toArray,List.length_cons,List.length_nil,Nat.reduceAdd,Nat.reduceSub,Array.replicate_succ,Array.replicate_zero,List.push_toArray,List.append_toArray,List.nil_append,List.cons_append]
 gi_wp2
 go_ret
 simp
theorem RdL.below {W W':World} {s:Nat} {a:Option Addr} {cap n0:Nat} {L:List Lk} (h:RdL W s a cap L) (hb:Below n0 W W') (h1:s<n0) (h2: ∀g,a=some (vA0 g)→g<n0):RdL W' s a cap L:=by
 refine⟨(hb.cell (p:=(vAt s 1)) h1).trans h.c1,h.le,fun j y hy=> ?_⟩
 obtain⟨g,va,vn,vc,e,y0,y1⟩:=h.ce j y hy
 exact⟨g,va,vn,vc,e,(hb.cell (p:=(vAt g (j*2))) (h2 g e)).trans y0,(hb.cell (p:=(vAt g (j*2+1))) (h2 g e)).trans y1⟩
theorem held_stops (nn:Nat) (hn:1≤nn) (B1 B2 n0 s:Nat) (a:Option Addr) (cap:Nat) (L:List Lk) (t:Int) (w:World) (hb1:Boxed w B1 96 (vPt s)) (hb2:Boxed w B2 3 (vI6 t)) (hr:RdL w s a cap L) (hL:L.length≤32) (hsn:s<n0) (hgn: ∀g,a=some (vA0 g)→g<n0) (hn0:n0≤w.heap.size):
  SeqStopsK Fence.wide nn Tryz.prog 205 #[vPt B1,vPt B2] (fun x:Int=> #[Value.int .i64 x]) (Kh n0 B2 t) (fun ys=>ys=heldOf L t) (fun pre=>pre<+:heldOf L t) (heldOf L t).length w:=by
 intro l J Jx W hW hJ hJx hY h0
 exact held_yields nn hn l B1 B2 n0 s a cap L t J Jx hY W ((hW.cell (p:=(vA0 B1)) hb1.lt).trans hb1.cell) ((hW.block B2 hb2.lt).trans hb2) (hr.below (hW.mono hn0) hsn hgn) hL hgn _ hJ (Nat.le_trans hn0 hW.size) h0
theorem kh_trans {n0 B2:Nat} {t:Int} {A B C:World} (h:Kh n0 B2 t A B) (h':Kh n0 B2 t B C):Kh n0 B2 t A C:=⟨h.1.trans h'.1,fun q=>h'.2 (h.2 q)⟩
theorem kh_put {w:World} {n0 B2:Nat} {t:Int} (hn:n0≤w.heap.size) (W:World) (l:Nat) (o o':Obj) (hl:w.heap.size≤l) (ho:W.heap[l]? =some o) (hc:o.isCells=false) (hw:o.isWalk=false):Kh n0 B2 t W (W.putObj l o'):=by
 refine⟨belowK_b hn W l o o' hl ho hc hw,fun q=>q.kept (grownBy_putObj' W l o') (fun e=> ?_)⟩
 cases e
 rw[show W.heap[B2]? =_ from q] at ho
 cases ho
 cases hc
theorem kh_append {W w1:World} {n0 B B2:Nat} {t:Int} {v v':Value} {k m:Nat} {xs ys:List Value} {tmp:Obj} (hv:Boxed W B 123 v) (hrow:W.ownsRow n0 3 1 v k xs) (hn0:n0≤W.heap.size) (hB:n0≤B) (hne:B2≠B) (hnr:Boxed W B2 3 (vI6 t)→v.ownBlock≠some B2)
  (hown':w1.ownsRow n0 3 1 v' m ys) (hgrow:(W.alloc tmp).grownBy w1 v.ownBlock):Kh n0 B2 t W (w1.setCell (vA0 B) v'):=by
 refine⟨(hv.appended (by decide) hrow hn0 hB hown' hgrow).2.2.2.2,fun q=> ?_⟩
 have q1:=(q.alloc tmp).kept hgrow (by grind)
 grind[Boxed.kept,grownBy_setCell']
theorem ownsRow_lift {w:World} {base base':Nat} {e:TypeId} {size:Nat} {v:Value} {n:Nat} {xs:List Value} (h:w.ownsRow base e size v n xs) (hb: ∀k,v.ownBlock=some k→base'≤k):w.ownsRow base' e size v n xs:=by
 refine⟨h.1,?_⟩
 rcases h.2 with q|⟨g,cap,cur,e1,h0,rest⟩
 ·grind
 ·exact .inr ⟨g,cap,cur,e1,hb g (by rw[e1];rfl),rest⟩
theorem heldOf_len (L:List Lk) (t:Int):(heldOf L t).length≤L.length:=by
 unfold heldOf heldTo
 grind
section
variable {w:World} {base s:Nat} {vt vl:Value} {V:List Value} {T:List Th} {L:List Lk}
theorem Held_in (h:IsG w base s vt vl V T L) (t:Int) (ht:inT T t=true):
  CallsIn Fence.wide 4 Tryz.prog 198 #[vPt s,vI6 t] w fun e W'=> ∃v,e= .returned v∧W'.ownsRow w.heap.size 3 1 v (heldOf L t).length ((heldOf L t).map (Value.int .i64))∧vBw w W':=by
 have HT:=veil (hasT_ok h t)
 rw[ht] at HT
 have HQ:=veil h
 have hL:=h.f.l2
 clear h ht
 obtain⟨i0,hi,hz0,hz1,hz2⟩:=info_parts infoInt
 refine callsIn_of_wp_marks Tryz.func198 rfl trivial ?_ rfl
 simp only[Tryz.ntmps198,List.size_toArray,List.length_cons,List.length_nil,Nat.reduceAdd,Nat.reduceSub,Array.replicate_succ,Array.replicate_zero,List.push_toArray,List.append_toArray,List.nil_append,List.cons_append]
 gi_wp2_with (first
  |(refine⟨trivial,?_⟩;gi_at_call 128;refine(callsIn_wide.2 HT.out).mono ?_;rintro e w' ⟨rfl,hw⟩;replace hw:=hw.symm;subst hw)
  |(refine⟨trivial,?_⟩;gi_at_call 178;refine(held_in _ s t _).mono ?_;rintro e w' ⟨rfl,rfl⟩))
 have hlen:=Nat.le_trans (heldOf_len L t) hL
 obtain⟨a,cap,hvl,hrd⟩:=HQ.out.rdL
 have hsn:=HQ.out.lt
 have hgn:=fun g (e:a=some (vA0 g))=>(ownsRow_blk HQ.out.lko (k:=g) (by rw[hvl,e];rfl)).2.1
 have bO:=Boxed.new w 123 (.slice none 0 0)
 have b1:=Boxed.new (w.alloc (.cells #[.slice none 0 0] 123)) 96 (vPt s)
 have b2:=Boxed.new ((w.alloc (.cells #[.slice none 0 0] 123)).alloc (.cells #[vPt s] 96)) 3 (vI6 t)
 have hB0:vBw w (((w.alloc (.cells #[.slice none 0 0] 123)).alloc (.cells #[vPt s] 96)).alloc (.cells #[vI6 t] 3)):=(((Below.refl _ w).alloc lzr _).alloc (by simp) _).alloc (by simp;omega) _
 simp only[World.size_alloc] at b1 b2⊢
 refine wpIn_rangeFunc_ownG rfl (by decide) (gf:=205) (lb:= #[vPt (w.heap.size+1),vPt (w.heap.size+1+1)]) rfl trivial (enters_of Tryz.func205 (by rfl) rfl)
  (held_stops 3 (by decide) (w.heap.size+1) (w.heap.size+1+1) w.heap.size s a cap L t _ (b1.alloc _) b2 (hrd.below hB0 hsn hgn) hL hsn hgn hB0.size) kh_trans (kh_put hB0.size) bzR (fun _=>rfl)
  (fun (pre:List Int) W=>(∃v,Boxed W w.heap.size 123 v∧W.ownsRow w.heap.size 3 1 v pre.length (pre.map (Value.int .i64))∧(∀k,v.ownBlock=some k→w.heap.size+1+1+1≤k))∧vBw w W∧w.heap.size+1+1+1≤W.heap.size)
  (fun _ _ _=>False)
  (OwnFrom.and (Own.from (holdsRow_own w.heap.size w.heap.size 123 3 1 (fun pre:List Int=>pre.length) (fun pre:List Int=>pre.map (Value.int .i64)) (fun _ v=> ∀k,v.ownBlock=some k→w.heap.size+1+1+1≤k)) _) (OwnFrom.and (ownFrom_below lzr hB0.size) ?big))
  (fun _ _ _ _ _ hs _ _=>hs)
  ⟨⟨_,(bO.alloc _).alloc _,World.ownsRow_nil _ _ _ _,by simp[Value.ownBlock]⟩,hB0,by simp⟩
  (fun x=>{tmps:= #[vPt s,vI6 t,undef,undef,.slice none 0 0,vPt w.heap.size,vI6 x,vPt s,.bool false,.bool false,vPt s,vI6 t,.bool true,.bool false,.bool false,vPt s,vI6 t,.func (.func 205) #[] #[vPt (w.heap.size+1),vPt (w.heap.size+1+1)],vI6 x,undef,undef,undef,undef,undef],defers:=[]}) ?assign ?body ?done ?stop
 case big=>
  intro _ X Y row hs hg _
  exact Nat.le_trans hs hg.size
 case assign=>
  intro l x W K hK
  gi_wp2
  exact hK
 case body=>
  rintro l pre x W ⟨⟨v,hv,hrow,hvk⟩,hB,hbig⟩ hlt
  have hc:=hv.cell
  have hsz:=hB.size
  have hrow3:=ownsRow_lift hrow hvk
  gi_wp2_with (gi_at_builtin;refine wpListIn_append_own _ rfl _ _ 123 rfl (w.heap.size+1+1+1) 3 i0 (vI6 0) 1 8 (by simp) hi hz0 hz1 hz2 rfl (by decide) _ _ _ rfl (hrow3.alloc _) (vA0 W.heap.size) 1 1 [vI6 x] rfl rfl (cell_one_new _ _ _) (by simp[Value.oneCell']) (by unfold maxLen;omega) (by omega) (by simp;omega) ?_;intro v' w1 hown3 hgrow _;have hvk': ∀k,v'.ownBlock=some k→w.heap.size+1+1+1≤k:=(fun k hk=>(ownsRow_blk hown3 hk).1);have hown':=ownsRow_lift (base':=w.heap.size) hown3 (by grind);obtain⟨g',cap',rfl⟩:=ownsRow_succ hown';obtain⟨hv1,hv2,hr2,hk2,hb2⟩:=hv.appended (by decide) hrow hB.size lzr hown' hgrow;have hkp:=kh_append (B2:=w.heap.size+1+1) (t:=t) hv hrow hB.size lzr (by omega) (by grind) hown' hgrow;have hc1:=hv1.cell;have hf1:=hv1.frozen)
  exact⟨hk2.from _,hkp,(by grind),hB.trans hb2,by have:=hb2.size;omega⟩
 case done=>
  rintro D ys W hD rfl ⟨⟨v,hv,hrow,_⟩,hB,_⟩ hK
  have hc:=hv.cell
  gi_wp2
  refine⟨by simp,.inl ⟨_,_,rfl,run_takeDeferred hK,?_⟩⟩
  exact⟨_,results_tmp rfl _ _ _,v,rfl,ownsRow_putObj hrow _ hK rfl,hB.trans (belowK_b (w:=w) lzr W D _ _ (by simp at hD;omega) hK rfl rfl)⟩
 case stop=>
  rintro D c pre W _ _ h _
  exact h.elim
end
inductive Chn (T:List Th) (L:List Lk):Int→List Int→Prop
 |stop:Chn T L (-1) []
 |on {m i:Nat} {y:Lk} {x:Th} {xs:List Int}:L[m]? =some y→y.h=(i:Int)→T[i]? =some x→Chn T L x.u xs→Chn T L (m:Int) ((i:Int)::xs)
theorem Fine.chain {T:List Th} {L:List Lk} (f:Fine T L): ∀(m:Nat) (y:Lk),L[m]? =some y→0≤y.h→ ∃xs,Chn T L (m:Int) xs:=by
 obtain⟨B,r,hb,hr⟩:=f.ac
 suffices h: ∀(k m:Nat) (y:Lk) (i:Nat),L[m]? =some y→y.h=(i:Int)→B-r i≤k→ ∃xs,Chn T L (m:Int) xs by
  intro m y hy h0
  exact h _ m y y.h.toNat hy (by omega) lzr
 intro k
 induction k with
 |zero=>
  intro m y i hy hi hk
  have ho:=f.lk y (List.mem_of_getElem? hy)
  have hil:i<T.length:=by have:=ho.2.1;omega
  have hx:=List.getElem?_eq_getElem hil
  have hok:=f.th _ (List.mem_of_getElem? hx)
  by_cases hu:(T[i]).u= -1
  ·exact⟨_,.on hy hi hx (by rw[hu];exact .stop)⟩
  ·exfalso
   obtain⟨m',hm'⟩: ∃m':Nat,(T[i]).u=(m':Int):=⟨(T[i]).u.toNat,by have:=hok.2.1;omega⟩
   have hml:m'<L.length:=by have:=hok.2.2;omega
   have hy':=List.getElem?_eq_getElem hml
   have hin:=(f.wt i _ hx m' _ hy').2 hm'
   have h0:=(f.lk _ (List.mem_of_getElem? hy')).2.2.2.2 (by grind)
   have:=hr i (L[m']).h.toNat ⟨_,List.mem_of_getElem? hy',hin,by omega⟩
   grind
 |succ k ih=>
  intro m y i hy hi hk
  have ho:=f.lk y (List.mem_of_getElem? hy)
  have hil:i<T.length:=by have:=ho.2.1;omega
  have hx:=List.getElem?_eq_getElem hil
  have hok:=f.th _ (List.mem_of_getElem? hx)
  by_cases hu:(T[i]).u= -1
  ·exact⟨_,.on hy hi hx (by rw[hu];exact .stop)⟩
  ·obtain⟨m',hm'⟩: ∃m':Nat,(T[i]).u=(m':Int):=⟨(T[i]).u.toNat,by have:=hok.2.1;omega⟩
   have hml:m'<L.length:=by have:=hok.2.2;omega
   have hy':=List.getElem?_eq_getElem hml
   have hin:=(f.wt i _ hx m' _ hy').2 hm'
   have h0:=(f.lk _ (List.mem_of_getElem? hy')).2.2.2.2 (by grind)
   have hlt:=hr i (L[m']).h.toNat ⟨_,List.mem_of_getElem? hy',hin,by omega⟩
   have hbb:=hb (L[m']).h.toNat
   obtain⟨xs,hxs⟩:=ih m' _ (L[m']).h.toNat hy' (by omega) (by omega)
   exact⟨_,.on hy hi hx (by rw[hm'];exact hxs)⟩
theorem Chn.leads {T:List Th} {L:List Lk} (f:Fine T L) {at':Int} {xs:List Int} (h:Chn T L at' xs): ∀(m:Nat) (y:Lk) (i:Nat),at'=(m:Int)→L[m]? =some y→y.h=(i:Int)→ ∀t:Nat,((t:Int)∈xs↔Leads L i t):=by
 induction h with
 |stop=>omega
 | @on m0 i0 y0 x0 xs hy0 hi0 hx0 hc ih=>
  intro m y i e hy hi t
  obtain rfl:m0=m:=by omega
  obtain rfl:y0=y:=by grind
  obtain rfl:i0=i:=by omega
  have hok:=f.th _ (List.mem_of_getElem? hx0)
  constructor
  ·intro ht
   rcases List.mem_cons.1 ht with q|q
   ·obtain rfl:t=i0:=by omega
    exact .here _
   ·by_cases hu:x0.u= -1
    ·rw[hu] at hc
     generalize hz:(-1:Int)=z at hc
     cases hc with
     |stop=>simp at q
     |on=>omega
    ·obtain⟨m',hm'⟩: ∃m':Nat,x0.u=(m':Int):=⟨x0.u.toNat,by have:=hok.2.1;omega⟩
     have hml:m'<L.length:=by have:=hok.2.2;omega
     have hy':=List.getElem?_eq_getElem hml
     have hin:=(f.wt i0 _ hx0 m' _ hy').2 hm'
     have h0:=(f.lk _ (List.mem_of_getElem? hy')).2.2.2.2 (by grind)
     exact .on ⟨_,List.mem_of_getElem? hy',hin,(by omega:(L[m']).h=(((L[m']).h.toNat:Nat):Int))⟩ ((ih m' _ (L[m']).h.toNat hm' hy' (by omega) t).1 q)
  ·intro hl
   cases hl with
   |here=>simp
   | @on _ s' _ e1 e2=>
    right
    obtain⟨z,hz,hin,hzh⟩:=e1
    obtain⟨m',hm'⟩:=List.mem_iff_getElem?.1 hz
    have hu:=(f.wt i0 _ hx0 m' z hm').1 hin
    exact(ih m' z s' hu hm' hzh t).2 e2
structure RdT (W:World) (s g cap:Nat) (T:List Th):Prop where
 c0:W.cell? (vA0 s)=some (.slice (some (vA0 g)) T.length cap)
 le:T.length≤cap∧cap≤maxLen
 ce: ∀(j:Nat) x,T[j]? =some x→W.cell? (vAt g (j*4))=some (.bool x.k.e)∧W.cell? (vAt g (j*4+1))=some (vU6 x.k.d)∧W.cell? (vAt g (j*4+2))=some (vU8 x.k.l)∧W.cell? (vAt g (j*4+3))=some (vI6 x.u)
theorem IsG.rdT {w:World} {base s:Nat} {vt vl:Value} {V:List Value} {T:List Th} {L:List Lk} (h:IsG w base s vt vl V T L): ∃g cap,vt= .slice (some (vA0 g)) T.length cap∧RdT w s g cap T:=by
 obtain⟨g,cap,rfl,h1,h2,_,_,_,hc⟩:=h.tform
 exact⟨g,cap,rfl,h.c0,⟨h1,h2⟩,hc⟩
theorem RdT.below {W W':World} {s g cap n0:Nat} {T:List Th} (h:RdT W s g cap T) (hb:Below n0 W W') (h1:s<n0) (h2:g<n0):RdT W' s g cap T:=by
 refine⟨(hb.cell (p:=(vA0 s)) h1).trans h.c0,h.le,fun j x hx=> ?_⟩
 obtain⟨y0,y1,y2,y3⟩:=h.ce j x hx
 exact⟨(hb.cell (p:=(vAt g (j*4))) h2).trans y0,(hb.cell (p:=(vAt g (j*4+1))) h2).trans y1,(hb.cell (p:=(vAt g (j*4+2))) h2).trans y2,(hb.cell (p:=(vAt g (j*4+3))) h2).trans y3⟩
def Kg (n0 B s:Nat) (A B':World):Prop:=Below n0 A B'∧(Boxed A B 96 (vPt s)→Boxed B' B 96 (vPt s))
theorem Chn.one {T:List Th} {L:List Lk} {p:Int} {xs:List Int} (h:Chn T L p xs): ∀ys,Chn T L p ys→ys=xs:=by
 induction h with
 |stop=>
  intro ys h'
  generalize hz:(-1:Int)=z at h'
  cases h' with
  |stop=>rfl
  |on=>omega
 | @on m i y x xs hy hi hx hc ih=>
  intro ys h'
  generalize hz:(m:Int)=z at h'
  cases h' with
  |stop=>omega
  | @on m' i' y' x' xs' hy' hi' hx' hc'=>
   grind
open Classical in
noncomputable def chLen (T:List Th) (L:List Lk) (p:Int):Nat:=if h: ∃xs,Chn T L p xs then h.choose.length else 0
theorem chLen_eq {T:List Th} {L:List Lk} {p:Int} {xs:List Int} (h:Chn T L p xs):chLen T L p=xs.length:=by
 have hh: ∃xs,Chn T L p xs:=⟨xs,h⟩
 unfold chLen
 rw[dif_pos hh,h.one _ hh.choose_spec]
theorem holders_yields (nn:Nat) (hn:1≤nn) (l B1 B2 n0 s gt ct:Nat) (a:Option Addr) (cap:Nat) (T:List Th) (L:List Lk) (m:Int) (ch:List Int) (hch:Chn T L m ch) (J Jx:List Int→World→Prop)
  (hY: ∀pre x W,J pre W→pre.length<ch.length→YieldAt Fence.wide (nn-1) Tryz.prog l #[vI6 x] W fun e W'=>
   (e= .returned (.bool true)∧J (pre++[x]) W'∧Kg n0 B2 s W W')∨(e= .returned (.bool false)∧Jx (pre++[x]) W'))
  (W:World) (hb1:W.cell? (vA0 B1)=some (vI6 m)) (hb2:Boxed W B2 96 (vPt s)) (hr:RdL W s a cap L) (ht:RdT W s gt ct T) (hT:T.length≤1024) (hL:L.length≤32) (hsn:s<n0) (hgt:gt<n0) (hgn: ∀g,a=some (vA0 g)→g<n0) (h0:J [] W):
  CallsIn Fence.wide nn Tryz.prog 242 #[.func (.yield l) #[] #[],vPt B1,vPt B2] W fun e W'=>(∃v,e= .returned v)∧
   ((∃ys,ys=ch∧J ys W')∨(∃pre,pre<+:ch∧Jx pre W')):=by
 have HR:=veil hr
 have HT:=veil ht
 have HB2:=veil hb2
 have H0:=veil h0
 have HY:=veil hY
 have HC:=veil hch
 clear hb2 hr h0 hY ht hch
 refine callsIn_of_wp Tryz.func242 rfl trivial ?_ rfl
 simp only[Tryz.ntmps242,List.size_toArray,List.length_cons,List.length_nil,Nat.reduceAdd,Nat.reduceSub,Array.replicate_succ,Array.replicate_zero,List.push_toArray,List.append_toArray,List.nil_append,List.cons_append]
 gi_wp2
 gi_loopw [4] (fun p wr=> ∃(d r:List Int) (q:Int),ch=d++r∧p=vI6 q∧Chn T L q r∧Below n0 W wr∧Boxed wr B2 96 (vPt s)∧J d wr)
  (fun p _=>chLen T L (intOf p))
 case atStart=>exact⟨[],ch,m,rfl,rfl,HC.out,bzR,HB2.out,H0.out⟩
 case round=>
  obtain⟨d,r,q,hd,rfl,hc,hbe,hbx,hJ0⟩:=hrel
  cases hc with
  |stop=>
   have HJ0:=veil hJ0
   have HD:=veil hd
   clear hJ0 hbe hbx hd
   gi_wp2
   go_end0
   have e:ch=d:=by rw[HD.out];simp
   exact⟨⟨_,rfl⟩,.inl ⟨_,e.symm,HJ0.out⟩⟩
  | @on k i y x xs hy hi hx hc'=>
   have hk:=(List.getElem?_eq_some_iff.1 hy).1
   have hk':(k:Int)<(L.length:Int):=by omega
   have hil:=(List.getElem?_eq_some_iff.1 hx).1
   have hil':(i:Int)<(T.length:Int):=by omega
   have hkn: ¬(k:Int)= -1:=by omega
   have hre:=HR.out.below hbe hsn hgn
   obtain⟨g,va,vn,vc,rfl,y0,y1⟩:=hre.ce k y hy
   rw[hi] at y0
   have c1:=hre.c1
   have b2:=hbx.cell
   have hpl:d.length<ch.length:=by grind
   obtain⟨fn,tmps,assign,body,hyy,hR⟩:=HY.out d (i:Int) wr hJ0 hpl
   have HM:Hid (chLen T L x.u<chLen T L (k:Int)):=by
    show _<_
    rw[chLen_eq hc',chLen_eq (.on hy hi hx hc')]
    simp
   have HBe:=veil hbe
   have HBx:=veil hbx
   have HD:=veil hd
   have HX:=veil hx
   have HC':=veil hc'
   clear hbe hbx hd hJ0 hre hpl hx hc' hy hi
   gi_wp2
   refine hR.mono ?_
   rintro e W3 (⟨rfl,hJ3,hk3⟩|⟨rfl,hJx3⟩)
   ·have hbe3:=HBe.out.trans hk3.1
    have HB3:=veil (hk3.2 HBx.out)
    have b3:=HB3.out.cell
    have ht3:=HT.out.below hbe3 hsn hgt
    have c0:=ht3.c0
    obtain⟨x0,x1,x2,x3⟩:=ht3.ce i x HX.out
    have HBe3:=veil hbe3
    have HJ3:=veil hJ3
    clear hbe3 ht3 hJ3 hk3 hyy hR HY
    gi_wp2
    go_roundw
    case rel=>exact⟨d++[(i:Int)],xs,x.u,by rw[HD.out];simp,rfl,HC'.out,HBe3.out,HB3.out,HJ3.out⟩
    assumption
   ·have HJx:=veil hJx3
    clear hJx3 hyy hR HY
    gi_wp2
    refine bodyPost_ret (results_none rfl _ _ _) rfl ?_
    refine⟨⟨_,rfl⟩,.inr ⟨_,?_,HJx.out⟩⟩
    exact⟨xs,by rw[HD.out];simp⟩
theorem holders_in (nn s:Nat) (m:Int) (w:World):
  CallsIn Fence.wide nn Tryz.prog 235 #[vPt s,vI6 m] w fun e w'=>e= .returned (.func (.func 242) #[] #[vPt (w.heap.size+1),vPt w.heap.size])∧
   w'=(w.alloc (.cells #[vPt s] 96)).alloc (.cells #[vI6 m] 3):=by
 refine callsIn_of_wp Tryz.func235 rfl trivial ?_ rfl
 simp only[Tryz.ntmps235,List.size_toArray,List.length_cons,List.length_nil,Nat.reduceAdd,Nat.reduceSub,Array.replicate_succ,Array.replicate_zero,List.push_toArray,List.append_toArray,List.nil_append,List.cons_append]
 gi_wp2
 go_ret
 simp
theorem holders_stops (nn:Nat) (hn:1≤nn) (B1 B2 n0 s gt ct:Nat) (a:Option Addr) (cap:Nat) (T:List Th) (L:List Lk) (m:Int) (ch:List Int) (hch:Chn T L m ch) (w:World) (hb1:Boxed w B1 3 (vI6 m)) (hb2:Boxed w B2 96 (vPt s)) (hr:RdL w s a cap L) (ht:RdT w s gt ct T) (hT:T.length≤1024) (hL:L.length≤32) (hsn:s<n0) (hgt:gt<n0) (hgn: ∀g,a=some (vA0 g)→g<n0) (hn0:n0≤w.heap.size):
  SeqStopsK Fence.wide nn Tryz.prog 242 #[vPt B1,vPt B2] (fun x:Int=> #[Value.int .i64 x]) (Kg n0 B2 s) (fun ys=>ys=ch) (fun pre=>pre<+:ch) ch.length w:=by
 intro l J Jx W hW hJ hJx hY h0
 exact holders_yields nn hn l B1 B2 n0 s gt ct a cap T L m ch hch J Jx hY W ((hW.cell (p:=(vA0 B1)) hb1.lt).trans hb1.cell) ((hW.block B2 hb2.lt).trans hb2) (hr.below (hW.mono hn0) hsn hgn) (ht.below (hW.mono hn0) hsn hgt) hT hL hsn hgt hgn h0
theorem kg_trans {n0 B s:Nat} {A C D:World} (h:Kg n0 B s A C) (h':Kg n0 B s C D):Kg n0 B s A D:=⟨h.1.trans h'.1,fun q=>h'.2 (h.2 q)⟩
theorem kg_put {w:World} {n0 B s:Nat} (hn:n0≤w.heap.size) (W:World) (l:Nat) (o o':Obj) (hl:w.heap.size≤l) (ho:W.heap[l]? =some o) (hc:o.isCells=false) (hw:o.isWalk=false):Kg n0 B s W (W.putObj l o'):=by
 refine⟨belowK_b hn W l o o' hl ho hc hw,fun q=>q.kept (grownBy_putObj' W l o') (fun e=> ?_)⟩
 cases e
 rw[show W.heap[B]? =_ from q] at ho
 cases ho
 cases hc
section
variable {w:World} {base s:Nat} {vt vl:Value} {V:List Value} {T:List Th} {L:List Lk}
theorem leads_in (h:IsG w base s vt vl V T L) (m t:Int) (ch:List Int) (hch:Chn T L m ch):
  CallsIn Fence.wide 4 Tryz.prog 219 #[vPt s,vI6 m,vI6 t] w fun e W'=>e= .returned (.bool (decide (t∈ch)))∧vBw w W':=by
 have HQ:=veil h
 have hL:=h.f.l2
 have hT:=h.f.t2
 have HC:=veil hch
 clear h hch
 refine callsIn_of_wp_marks Tryz.func219 rfl trivial ?_ rfl
 simp only[Tryz.ntmps219,List.size_toArray,List.length_cons,List.length_nil,Nat.reduceAdd,Nat.reduceSub,Array.replicate_succ,Array.replicate_zero,List.push_toArray,List.append_toArray,List.nil_append,List.cons_append]
 gi_wp2_with (first
  |(refine⟨trivial,?_⟩;gi_at_call 235;refine(holders_in _ s m _).mono ?_;rintro e w' ⟨rfl,rfl⟩))
 obtain⟨a,cap,hvl,hrd⟩:=HQ.out.rdL
 obtain⟨gt,ct,hvt,hrt⟩:=HQ.out.rdT
 have hsn:=HQ.out.lt
 have hgt:=(ownsRow_blk HQ.out.tho (k:=gt) (by rw[hvt];rfl)).2.1
 have hgn:=fun g (e:a=some (vA0 g))=>(ownsRow_blk HQ.out.lko (k:=g) (by rw[hvl,e];rfl)).2.1
 have bt:=Boxed.new w 3 (vI6 t)
 have br:=Boxed.new (w.alloc (.cells #[vI6 t] 3)) 4 (.bool false)
 have bg:=Boxed.new ((w.alloc (.cells #[vI6 t] 3)).alloc (.cells #[.bool false] 4)) 96 (vPt s)
 have bm:=Boxed.new (((w.alloc (.cells #[vI6 t] 3)).alloc (.cells #[.bool false] 4)).alloc (.cells #[vPt s] 96)) 3 (vI6 m)
 have hB0:vBw w ((((w.alloc (.cells #[vI6 t] 3)).alloc (.cells #[.bool false] 4)).alloc (.cells #[vPt s] 96)).alloc (.cells #[vI6 m] 3)):=((((Below.refl _ w).alloc lzr _).alloc (by simp) _).alloc (by simp;omega) _).alloc (by simp;omega) _
 simp only[World.size_alloc] at br bg bm⊢
 refine wpIn_rangeFunc_ownG rfl (by decide) (gf:=242) (lb:= #[vPt (w.heap.size+1+1+1),vPt (w.heap.size+1+1)]) rfl trivial (enters_of Tryz.func242 (by rfl) rfl)
  (holders_stops 3 (by decide) (w.heap.size+1+1+1) (w.heap.size+1+1) w.heap.size s gt ct a cap T L m ch HC.out _ bm (bg.alloc _) (hrd.below hB0 hsn hgn) (hrt.below hB0 hsn hgt) hT hL hsn hgt hgn hB0.size) kg_trans (kg_put hB0.size) bzR (fun _=>rfl)
  (fun (pre:List Int) W=>(t ∉ pre)∧Boxed W w.heap.size 3 (vI6 t)∧Boxed W (w.heap.size+1) 4 (.bool false)∧vBw w W)
  (fun c (pre:List Int) W=>(c= .ret∧t∈pre)∧Boxed W (w.heap.size+1) 4 (.bool true)∧vBw w W)
  (OwnFrom.and (ownFrom_pure _ _) (OwnFrom.and (Own.from (boxed_own w.heap.size 3 (fun _:List Int=>vI6 t)) _) (OwnFrom.and (Own.from (boxed_own (w.heap.size+1) 4 (fun _:List Int=> .bool false)) _) (ownFrom_below lzr hB0.size))))
  (fun c=>OwnFrom.and (ownFrom_pure _ _) (OwnFrom.and (Own.from (boxed_own (w.heap.size+1) 4 (fun _:List Int=> .bool true)) _) (ownFrom_below lzr hB0.size)))
  ⟨by simp,((bt.alloc _).alloc _).alloc _,(br.alloc _).alloc _,hB0⟩
  (fun x=>{tmps:= #[vPt s,vI6 m,vI6 t,undef,undef,vPt w.heap.size,vPt (w.heap.size+1),vI6 x,vPt s,vI6 m,.func (.func 242) #[] #[vPt (w.heap.size+1+1+1),vPt (w.heap.size+1+1)],vI6 x,undef,undef,undef],defers:=[]}) ?assign ?body ?done ?stop
 case assign=>
  intro l x W K hK
  gi_wp2
  exact hK
 case body=>
  rintro l pre x W ⟨hp,hbt,hbr,hB⟩ hlt
  have hct:=hbt.cell
  have hcr:=hbr.cell
  have hfr:=hbr.frozen
  have HP:=veil hp
  have HBT:=veil hbt
  have HBR:=veil hbr
  have HB:=veil hB
  clear hp hbt hbr hB
  by_cases hx:x=t
  ·subst hx
   gi_wp2
   exact⟨(KeepsOthers.setCell _ _ _).from _,(by grind),HBR.out.set _,HB.out.setCell (p:=(vA0 (w.heap.size+1))) (by simp) _⟩
  ·have hx':(x==t)=false:=by simp[hx]
   gi_wp2
   refine⟨(KeepsOthers.refl _).from _,⟨bzR,id⟩,?_,HBT.out,HBR.out,HB.out⟩
   have:=HP.out
   grind
 case done=>
  rintro D ys W hD rfl ⟨hp,hbt,hbr,hB⟩ hK
  have hcr:=hbr.cell
  have hfr:=hbr.frozen
  have HBR:=veil hbr
  have HP:=veil hp
  have HB:=veil hB
  clear hp hbt hbr hB
  gi_wp2
  have hK1:=(KeepsOthers.setCell W (vA0 (w.heap.size+1)) (.bool false)).same D _ hK rfl
  have hbr1:=HBR.out.set (.bool false)
  refine⟨by simp,.inl ⟨_,_,rfl,run_takeDeferred hK1,?_⟩⟩
  have hA5:=hbr1.kept (grownBy_putObj' _ D (.deferred none)) (fun e=>by cases e;rw[show(W.setCell (vA0 (w.heap.size+1)) (.bool false)).heap[w.heap.size+1]? =_ from hbr1] at hK1;cases hK1)
  have d0:=hA5.cell
  refine⟨.bool false,?_,?_,(HB.out.setCell (p:=(vA0 (w.heap.size+1))) (by simp) _).trans (belowK_b (w:=w) lzr _ D _ _ (by simp at hD;omega) hK1 rfl rfl)⟩
  ·simp[results,Tryz.f219,go_sem,d0]
  ·rw[decide_eq_false HP.out]
 case stop=>
  rintro D c pre W hD hsp ⟨⟨rfl,hp⟩,hbr,hB⟩ hK
  have HP:=veil (hsp.subset hp)
  gi_wp2
  refine⟨by simp,.inl ⟨_,_,rfl,run_takeDeferred hK,?_⟩⟩
  have hA5:=hbr.kept (grownBy_putObj' _ D (.deferred none)) (fun e=>by cases e;rw[show W.heap[w.heap.size+1]? =_ from hbr] at hK;cases hK)
  have d0:=hA5.cell
  refine⟨.bool true,?_,?_,hB.trans (belowK_b (w:=w) lzr W D _ _ (by simp at hD;omega) hK rfl rfl)⟩
  ·simp[results,Tryz.f219,go_sem,d0]
  grind
theorem leads_ok (h:IsG w base s vt vl V T L) (j:Nat) (t:Nat) (y:Lk) (hy:L[j]? =some y) (i:Nat) (hi:y.h=(i:Int)):
  ∃b,(b=true↔Leads L i t)∧vCa 219 #[vPt s,vI6 (j:Int),vI6 (t:Int)] w fun e W'=>e= .returned (.bool b)∧vBw w W':=by
 obtain⟨ch,hch⟩:=h.f.chain j y hy (by omega)
 refine⟨decide ((t:Int)∈ch),?_,callsIn_wide.1 (leads_in h (j:Int) (t:Int) ch hch)⟩
 rw[decide_eq_true_iff]
 exact hch.leads h.f j y i rfl hy hi t
end
end Go.Proofs.YtnmhcgpnhlhcgaaGreatDoor.Pi
namespace Go.Proofs.YtnmhcgpnhlhcgaaGreatDoor.Pi
open Go.Proofs.YtnmhcgpnhlhcgaaGreatDoor.Ke
open Go.Lib
open Go.RowKit
section
variable {w:World} {base s:Nat} {vt vl:Value} {V:List Value} {T:List Th} {L:List Lk}
theorem lock_cycle (h:IsG w base s vt vl V T L) (i j:Nat) (he:mayE T L i j=0) (y:Lk) (hy:L[j]? =some y) (k:Nat) (ho:y.h=(k:Int)) (hk:k≠i) (hl:Leads L k i):vQ 190 #[vPt s,vI6 (i:Int),vI6 (j:Int)] w (.tuple #[.bool false,vI6 8]):=by
 have HM:=veil (may_ok h (i:Int) (j:Int))
 obtain⟨b,hb,hc⟩:=leads_ok h j i y hy k ho
 obtain rfl:b=true:=hb.2 hl
 have HL:=veil hc
 clear hb hc hl
 rw[he] at HM
 have hj:=(List.getElem?_eq_some_iff.1 hy).1
 have hj':(j:Int)<(L.length:Int):=by omega
 obtain⟨v,hv⟩:=h.line hj
 obtain⟨g,cap,rfl,hc1,hc2,hg,hgs,_,hc⟩:=h.lform (by omega)
 obtain⟨y0,y1⟩:=hc j y v hy hv
 rw[ho] at y0
 have c1:=h.c1
 have hk1:((k:Int)==(i:Int))=false:=by grind
 have hk2:((k:Int)== -1)=false:=by simp
 have hk3: ¬(k:Int)=(i:Int):=by omega
 have hk4: ¬(k:Int)= -1:=by omega
 have hk5:=hk
 clear h hc he
 refine ge ?_
 go_wp2_with (first
  |(go_at_call 191;refine cS HM.out ?_)
  |(go_at_call 219;refine(HL.out).mono ?_;rintro e w1 ⟨rfl,hbw⟩;replace hbw:=veil hbw))
 simp[bodyPost,results,Tryz.results190,go_sem]
 exact hbw.out
end
theorem getSet {α:Type} {l:List α} {i j:Nat} {a b:α} (h:(l.set i a)[j]? =some b):(i=j∧b=a)∨(i≠j∧l[j]? =some b):=by
 grind
theorem Fine.wait {T:List Th} {L:List Lk} (f:Fine T L) {i j k:Nat} {x:Th} {y:Lk} (hx:T[i]? =some x) (hu:x.u= -1) (hy:L[j]? =some y) (ho:y.h=(k:Int)) (hl: ¬Leads L k i):
  Fine (T.set i ⟨x.k,(j:Int)⟩) (L.set j ⟨y.h,y.l++[i]⟩):=by
 have hi:=(List.getElem?_eq_some_iff.1 hx).1
 have hj:=(List.getElem?_eq_some_iff.1 hy).1
 have hok:=f.lk y (List.mem_of_getElem? hy)
 have hno: ∀(m:Nat) (z:Lk),L[m]? =some z→i ∉ z.l:=by
  intro m z hz q
  have:=(f.wt i x hx m z hz).1 q
  omega
 refine⟨by grind,by simpa using f.t2,by simpa using f.l2,?_,?_,?_,?_⟩
 ·intro z hz
  rw[List.length_set]
  rcases List.mem_or_eq_of_mem_set hz with q|q
  ·exact f.th z q
  ·subst q
   refine⟨(f.th x (List.mem_of_getElem? hx)).1,?_,?_⟩
   ·simp
   grind
 ·intro z hz
  rw[List.length_set]
  rcases List.mem_or_eq_of_mem_set hz with q|q
  ·exact f.lk z q
  ·subst q
   refine⟨hok.1,hok.2.1,?_,?_,?_⟩
   ·intro t ht
    rcases List.mem_append.1 ht with r|r
    ·exact hok.2.2.1 t r
    grind
   ·show(y.l++[i]).Nodup
    rw[List.nodup_append]
    refine⟨hok.2.2.2.1,by simp,?_⟩
    grind
   grind
 ·grind[Pi.Fine.wt]
 ·refine f.ac.more hl ?_
  rintro a b ⟨z,hz,ha,hb⟩
  rcases List.mem_or_eq_of_mem_set hz with q|q
  ·exact .inl ⟨z,q,ha,hb⟩
  ·subst q
   rcases List.mem_append.1 ha with r|r
   ·exact .inl ⟨y,List.mem_of_getElem? hy,r,hb⟩
   grind
theorem Fine.give {T:List Th} {L:List Lk} (f:Fine T L) {j:Nat} {y:Lk} (hy:L[j]? =some y) (hl:y.l=[]):Fine T (L.set j ⟨-1,y.l⟩):=by
 have hok:=f.lk y (List.mem_of_getElem? hy)
 refine⟨f.t1,f.t2,by simpa using f.l2,by simpa using f.th,?_,?_,f.ac.less ?_⟩
 ·intro z hz
  rcases List.mem_or_eq_of_mem_set hz with q|q
  ·exact f.lk z q
  ·subst q
   refine⟨by simp,by grind,hok.2.2.1,hok.2.2.2.1,fun q=>absurd hl q⟩
 ·grind[Pi.Fine.wt]
 ·rintro a b ⟨z,hz,ha,hb⟩
  rcases List.mem_or_eq_of_mem_set hz with q|q
  ·exact⟨z,q,ha,hb⟩
  ·subst q
   rw[hl] at ha
   simp at ha
theorem Fine.next {T:List Th} {L:List Lk} (f:Fine T L) {i j p:Nat} {x:Th} {y:Lk} (hx:T[i]? =some x) (hy:L[j]? =some y) (hp:y.l[p]? =some i):
  Fine (T.set i ⟨x.k,-1⟩) (L.set j ⟨(i:Int),y.l.eraseIdx p⟩):=by
 have hi:=(List.getElem?_eq_some_iff.1 hx).1
 have hok:=f.lk y (List.mem_of_getElem? hy)
 have hin:=List.mem_of_getElem? hp
 have hu:=(f.wt i x hx j y hy).1 hin
 have hnd:=hok.2.2.2.1
 have hmem: ∀t,t∈y.l.eraseIdx p↔t∈y.l∧t≠i:=by
  intro t
  obtain⟨hpl,hpe⟩:=List.getElem?_eq_some_iff.1 hp
  rw[List.mem_eraseIdx_iff_getElem?]
  constructor
  ·rintro⟨q,hq,he⟩
   refine⟨List.mem_of_getElem? he,fun e=>hq ?_⟩
   subst e
   obtain⟨hql,hqe⟩:=List.getElem?_eq_some_iff.1 he
   have hpw:=List.pairwise_iff_getElem.1 hnd
   grind
  ·rintro⟨ht,hne⟩
   obtain⟨q,hq⟩:=List.mem_iff_getElem?.1 ht
   grind
 have hno: ∀(m:Nat) (z:Lk),L[m]? =some z→m≠j→i ∉ z.l:=by
  intro m z hz hm q
  have:=(f.wt i x hx m z hz).1 q
  omega
 refine⟨by grind,by simpa using f.t2,by simpa using f.l2,?_,?_,?_,?_⟩
 ·intro z hz
  rw[List.length_set]
  rcases List.mem_or_eq_of_mem_set hz with q|q
  ·exact f.th z q
  ·subst q
   refine⟨(f.th x (List.mem_of_getElem? hx)).1,?_,?_⟩
   ·simp
   grind
 ·intro z hz
  rw[List.length_set]
  rcases List.mem_or_eq_of_mem_set hz with q|q
  ·exact f.lk z q
  ·subst q
   refine⟨by simp,by grind,fun t ht=>hok.2.2.1 t (by grind),(by grind),fun _=>by simp⟩
 ·intro t z hz m u hm
  rcases getSet hz with ⟨rfl,rfl⟩|⟨q1,hz'⟩
  ·grind
  grind[Pi.Fine.wt]
 ·obtain⟨B,r,hb,hr⟩:=f.ac
  refine⟨B+1,fun z=>if z=i then B+1 else r z,fun z=> ?_,?_⟩
  ·grind
  ·rintro a b ⟨z,hz,ha,hbb⟩
   show(if a=i then B+1 else r a)<(if b=i then B+1 else r b)
   have hba:=hb a
   obtain⟨m,hm⟩:=List.mem_iff_getElem?.1 hz
   rcases getSet hm with ⟨rfl,rfl⟩|⟨q2,hm'⟩
   ·grind
   ·have h1:a≠i:=fun e=>(by grind)
    have h3:=hr a b ⟨z,List.mem_of_getElem? hm',ha,hbb⟩
    grind
end Go.Proofs.YtnmhcgpnhlhcgaaGreatDoor.Pi
