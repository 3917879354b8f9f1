/- YtjlbmmiomfpgiaaGreatDoorGs: of the texts Bb1 Bb2 Bb3 Bb4 Bb5 Bb6 Bb7 Bd1 Bd2 Bd3 Be1 Bf8 Bf9 Bg1 Bg2 Bg3 Bg4 Bg5 Bg6 Bg7 Bg8 Bg9 Bh1 Bi2 Bi1 Bi3 Bi4 Bj1 Bj2 Bj3 Bj4 Bj5 Bj6 Bj7 Bj8 Bj9 Bk1 what is wanted. -/
import Derived.Test.YtjlbmmiomfpgiaaGreatDoorGq
import Derived.ProofKit
import Derived.OpenShut
import Derived.Deep.Slices
import Derived.Deep.Strs
import Derived.ChangeOld
import Derived.ChangeSame
import Derived.Test.YtjlbmmiomfpgiaaGreatDoorGt
set_option maxHeartbeats 16000000
set_option maxRecDepth 100000
set_option linter.unusedVariables false
set_option linter.unusedSimpArgs false
namespace Go.Proofs.YtjlbmmiomfpgiaaGreatDoor
open Go.RowKit Go.Lib
theorem iK {a b c:Ke.K} (h:Ke.up a b=false) (k:Ke.up b c=false):Ke.up a c=false:=by
 obtain⟨ae,ad,al⟩:=a
 obtain⟨be,bd,bl⟩:=b
 obtain⟨ce,cd,cl⟩:=c
 cases ae<;>cases be<;>cases ce<;>simp_all [Ke.up]<;>omega
theorem Ai {a b:Ke.K} (h:Ke.up a b=true):Ke.up b a=false:=by
 obtain⟨ae,ad,al⟩:=a
 obtain⟨be,bd,bl⟩:=b
 cases ae<;>cases be<;>simp_all [Ke.up]<;>omega
theorem iF (a:Ke.K):Ke.up a a=false:=by simp[Ke.up]
theorem mW (H:List Hd): ∀(l:List Nat) (b:Option Nat),(∀c0,b=some c0→ ∃c,l.foldl (cA H) b=some c∧Ke.up (fN (MM H c0)) (fN (MM H c))=false)∧ ∀x∈l,∀y M,MM H x=y::M→ ∃c,l.foldl (cA H) b=some c∧Ke.up y.2 (fN (MM H c))=false
 |[],b=>⟨fun c0 hc=>⟨c0,hc,iF _⟩,fun x hx=>by cases hx⟩
 |x::l,b=>by
  have A: ∀c0,b=some c0→ ∃c1,cA H b x=some c1∧Ke.up (fN (MM H c0)) (fN (MM H c1))=false:=by
   intro c0 hc
   subst hc
   unfold cA
   cases hM:MM H x with
   |nil=>exact⟨c0,rfl,iF _⟩
   |cons y M=>
    simp only
    cases hu:Ke.up y.2 (fN (MM H c0)) with
    |true=>
     refine⟨x,rfl,?_⟩
     rw[hM]
     exact Ai hu
    |false=>exact⟨c0,rfl,iF _⟩
  have B: ∀y M,MM H x=y::M→ ∃c1,cA H b x=some c1∧Ke.up y.2 (fN (MM H c1))=false:=by
   intro y M hM
   unfold cA
   rw[hM]
   cases b with
   |none=>exact⟨x,rfl,by rw[hM];exact iF _⟩
   |some c0=>
    simp only
    cases hu:Ke.up y.2 (fN (MM H c0)) with
    |true=>exact⟨x,rfl,by rw[hM];exact iF _⟩
    |false=>exact⟨c0,rfl,hu⟩
  obtain⟨i1,i2⟩:=mW H l (cA H b x)
  refine⟨fun c0 hc=> ?_,fun z hz y M hM=> ?_⟩
  ·obtain⟨c1,e1,n1⟩:=A c0 hc
   obtain⟨c,e2,n2⟩:=i1 c1 e1
   exact⟨c,e2,iK n1 n2⟩
  ·rcases List.mem_cons.1 hz with rfl|hz
   ·obtain⟨c1,e1,n1⟩:=B y M hM
    obtain⟨c,e2,n2⟩:=i1 c1 e1
    exact⟨c,e2,iK n1 n2⟩
   ·exact i2 z hz y M hM
theorem pA {np p d x:Nat} (hp:p<np) (hx:x≤np):x∈cV np p d:=by
 unfold cV dN
 by_cases h1:x=p
 ·rw[h1];simp
 by_cases h2:x=np
 ·rw[h2];simp
 refine List.mem_cons_of_mem _ (List.mem_cons_of_mem _ (List.mem_filter.2 ⟨List.mem_map.2 ⟨(x+2*np-(p+1+d%np))%np,List.mem_range.2 (Nat.mod_lt _ (by omega)),?_⟩,by simpa using h1⟩))
 unfold j3
 have hm:d%np<np:=Nat.mod_lt _ (by omega)
 rw[Nat.add_mod_mod]
 have e:p+1+d%np+(x+2*np-(p+1+d%np))=x+np*2:=by omega
 rw[e,Nat.add_mul_mod_self_left]
 exact Nat.mod_eq_of_lt (by omega)
theorem Ax (G:List (List En)) (c:Nat) (M:List En):gh (G.set c M)=(gh G).set c ⟨0,0,0,0,0,0,M⟩:=by unfold gh;rw[List.map_set]
theorem fW {G:List (List En)} {c:Nat} {x:Hd} (h:(gh G)[c]? =some x):G[c]? =some x.M:=by
 have:=mD h
 rw[cD] at this
 exact this
section
variable {w:World} {O:Nat→Prop} {pb n np q T:Nat} {G:List (List En)}
theorem PQ.nd (h:PQ w O pb n np q T G) {c:Nat} {x:Hd} (hx:(gh G)[c]? =some x):(x.M.map (·.1)).Nodup∧(∀y∈x.M,y.1<n)∧ ∀y∈x.M,Ke.ay y.2=true:=by
 obtain⟨h1,h2,_,h4⟩:=h.at (fW hx)
 exact⟨h1,h2,h4⟩
theorem PQ.B6 (h:PQ w O pb n np q T G) {p d:Int} {c:Nat} (hb:bb np (gh G) p d=some c): ∃z:En,bI (gh G) (some c)=(z.1:Int)∧bK (gh G) (some c)=z.2∧z.1<n∧aH n (gh (eE np (gh G) p d)) 0 (z.1:Int)=none∧cI (gh (eE np (gh G) p d))+1=cI (gh G):=by
 obtain⟨_,_,x,z,M',hx,hM⟩:=lA hb
 obtain⟨hnd,hrn,_⟩:=h.nd hx
 have e1:bI (gh G) (some c)=(z.1:Int):=by show nu (MM (gh G) c)=_;rw[bZ hx,hM];rfl
 have e2:bK (gh G) (some c)=z.2:=by show fN (MM (gh G) c)=_;rw[bZ hx,hM];rfl
 have hg:eE np (gh G) p d=G.set c M':=by unfold eE;rw[hb,cD];show G.set c (MM (gh G) c).tail=_;rw[bZ hx,hM];rfl
 have hcut:cut z.1 x.M=M':=by rw[hM];exact kW (by rw[←hM];exact hnd)
 have hzk:(keyOf x.M z.1).isSome=true:=by rw[gd];exact⟨z,by rw[hM];simp,rfl⟩
 rw[hg,Ax]
 obtain⟨_,u2⟩:=lX (n:=n) (y:=⟨0,0,0,0,0,0,M'⟩) h.un hx (id:=z.1) hcut.symm hzk
 have hs:=dG (y:=⟨0,0,0,0,0,0,M'⟩) hx
 refine⟨z,e1,e2,hrn z (by rw[hM];simp),?_,?_⟩
 ·rw[u2]
  unfold fT
  rw[if_pos rfl]
 ·have:x.M.length=M'.length+1:=by rw[hM];rfl
  simp only at hs
  omega
end
theorem gQ {G:List (List En)} {i:Nat} {M:List En} (h:G[i]? =some M):(gh G)[i]? =some ⟨0,0,0,0,0,0,M⟩:=by unfold gh;rw[List.getElem?_map,h];rfl
theorem sg {np:Nat} {G:List (List En)} {p d:Int} {c:Nat} (hl:G.length=np+1) (hb:bb np (gh G) p d=some c) {i:Nat} {y:En} {M:List En} (hM:G[i]? =some (y::M)):Ke.up y.2 (fN (MM (gh G) c))=false:=by
 obtain⟨hp,h,_⟩:=lA hb
 have hil:i≤np:=by have:=(List.getElem?_eq_some_iff.1 hM).1;omega
 obtain⟨_,t2⟩:=mW (gh G) (cV np p.toNat d.toNat) none
 obtain⟨c',e1,n1⟩:=t2 i (pA (by omega) hil) y M (bZ (gQ hM))
 have h':(cV np p.toNat d.toNat).foldl (cA (gh G)) none=some c:=h
 rw[h'] at e1
 injection e1 with e1
 rw[e1]
 exact n1
theorem Aj {np:Nat} {G:List (List En)} (hl:G.length=np+1) {p:Int} (hp:0≤p∧p<(np:Int)) (d:Int):(bb np (gh G) p d).isSome=decide (0<cI (gh G)):=by
 cases hb:bb np (gh G) p d with
 |some c=>
  obtain⟨_,_,x,z,M',hx,hM⟩:=lA hb
  have hs:=dG (y:=⟨0,0,0,0,0,0,[]⟩) hx
  have e:x.M.length=M'.length+1:=by rw[hM];rfl
  simp only[List.length_nil] at hs
  exact(decide_eq_true (by omega)).symm
 |none=>
  refine(decide_eq_false (fun hpos=> ?_)).symm
  have key: ∀(i:Nat) (M:List En),G[i]? =some M→M=[]:=fun i M hM=>by
   cases M with
   |nil=>rfl
   |cons y M=>
    exfalso
    have hil:i≤np:=by have:=(List.getElem?_eq_some_iff.1 hM).1;omega
    obtain⟨_,t2⟩:=mW (gh G) (cV np p.toNat d.toNat) none
    obtain⟨c',e1,_⟩:=t2 i (pA (by omega) hil) y M (bZ (gQ hM))
    unfold bb at hb
    rw[if_pos hp] at hb
    unfold gy at hb
    rw[hb] at e1
    cases e1
  have:=ks (H:=gh G) (fun i x hx=>key i x.M (fW hx))
  omega
def jP (M:List En):Prop:=M.Pairwise (fun a b=>Ke.up b.2 a.2=false)
theorem mv (R:List (Nat×Nat)): ∀k,jP (aJ R k)
 |0=>List.Pairwise.nil
 |k+1=>by
  unfold jP
  rw[aJ,List.pairwise_append]
  refine⟨?_,mv R k,?_⟩
  ·refine List.Pairwise.imp_of_mem (R:=fun _ _=>True) ?_ (List.pairwise_of_forall (fun _ _=>trivial))
   intro a b ha hb _
   rw[(iX.1 ha).2,(iX.1 hb).2,rX]
   simp
  ·intro a ha b hb
   obtain⟨j,hj,_,e⟩:=gF.1 hb
   rw[(iX.1 ha).2,e,rX]
   simp
   omega
theorem uJ (L:List Ph.Item) (h:Ph.tI L):jP (dl L):=by
 unfold jP dl
 rw[List.pairwise_map]
 refine List.Pairwise.imp ?_ h
 intro a b hab
 rw[zq]
 unfold Ph.ah at hab
 simp
 omega
theorem tM (R:List (Nat×Nat)) (L:List Ph.Item) (h:Ph.tI L):jP (all R L):=by
 unfold jP all
 rw[List.pairwise_append]
 refine⟨uJ L h,mv R 256,?_⟩
 intro a ha b hb
 obtain⟨d,s,_,e⟩:=q8.1 ha
 obtain⟨j,_,_,e'⟩:=gF.1 hb
 rw[e,e']
 exact yY _ _
theorem cJ.rS {w:World} {sb qb gq hb gh n most turn:Nat} {M:List En} (h:cJ w sb qb gq hb gh n most turn M):jP M:=by
 obtain⟨R,L,hS,hI⟩:=h
 rw[←hI.eq]
 exact tM R L hS.h.sN.srt
theorem PQ.rS {w:World} {O:Nat→Prop} {pb n np q T:Nat} {G:List (List En)} (h:PQ w O pb n np q T G) {i:Nat} {M:List En} (hi:G[i]? =some M):jP M:=by
 obtain⟨base,lo,mb,v,H,hQ,hG,hO⟩:=h
 rw[←hG] at hi
 simp only[Ms,List.getElem?_map] at hi
 cases hx:H[i]? with
 |none=>rw[hx] at hi;cases hi
 |some x=>
  rw[hx] at hi
  injection hi with hi
  subst hi
  exact cJ.rS (hQ.p.sets.it i x hx)
def eT (G:List (List En)) (z:En):Prop:= ∃(i:Nat) (M:List En),G[i]? =some M∧z∈M
section
variable {w:World} {O:Nat→Prop} {pb n np q T:Nat} {G:List (List En)}
theorem wj {p d:Int}: ∀z,eT (eE np (gh G) p d) z→eT G z:=by
 rintro z ⟨i,M,hM,hz⟩
 unfold eE at hM
 cases hb:bb np (gh G) p d with
 |none=>rw[hb,cD] at hM;exact⟨i,M,hM,hz⟩
 |some c=>
  rw[hb,cD] at hM
  simp only at hM
  rcases Nat.decEq i c with e|e
  ·rw[List.getElem?_set_ne (fun q=>e q.symm)] at hM
   exact⟨i,M,hM,hz⟩
  ·subst e
   obtain⟨_,_,x,z',M',hx,hM'⟩:=lA hb
   have hil:i<G.length:=(List.getElem?_eq_some_iff.1 (fW hx)).1
   rw[List.getElem?_set_self hil,bZ hx] at hM
   injection hM with hM
   subst hM
   exact⟨i,x.M,fW hx,List.mem_of_mem_tail hz⟩
end
theorem qI {T:List Pi.Th} {L:List Pi.Lk} (ha:Pi.gH L) {t:Nat} (ht:t<T.length) (hb:Pi.behind L t=[]):Pi.aR T L (t:Int)=Pi.eU T t:=by
 unfold Pi.aR Pi.jT
 rw[if_pos (by simpa using ht),show((t:Int)).toNat=t from rfl,Pi.iz ha,hb]
 rfl
theorem jn (n:Nat) (M:Mc) (κ:Nat→Ke.K): ∀(l:List Nat) (g:Pi.Md),(∀x∈l,x<g.T.length∧de M n (M.th x)=κ x∧Ke.ay (κ x)=true)→(l.foldl (eJ n M) g).T.length=g.T.length∧(l.foldl (eJ n M) g).L=g.L∧ ∀x,(x∈l∨Pi.eU g.T x=κ x)→Pi.eU (l.foldl (eJ n M) g).T x=κ x
 |[],g,_=>⟨rfl,rfl,fun x h=>h.elim (fun q=>by cases q) id⟩
 |y::l,g,h=>by
  obtain⟨hy,ho,hr⟩:=h y (by simp)
  have e:eJ n M g y=⟨g.T.set y ⟨κ y,(g.T[y]'hy).u⟩,g.L⟩:=by
   unfold eJ Pi.eK
   rw[ho,if_pos (by simp[Pi.jT,hr,hy]),show((y:Int)).toNat=y from rfl,List.getElem?_eq_getElem hy]
  rw[List.foldl_cons,e]
  obtain⟨h1,h2,h3⟩:=jn n M κ l ⟨g.T.set y ⟨κ y,(g.T[y]'hy).u⟩,g.L⟩ (fun x hx=>by have:=h x (by simp[hx]);simpa using this)
  refine⟨by rw[h1];simp,h2,fun x hx=>h3 x ?_⟩
  by_cases exy:x=y
  ·subst exy
   refine .inr ?_
   simp[Pi.eU,hy]
  ·rcases hx with hx|hx
   ·rcases List.mem_cons.1 hx with q|q
    ·exact absurd q exy
    ·exact .inl q
   ·refine .inr ?_
    show Pi.eU (g.T.set y _) x=_
    unfold Pi.eU at hx⊢
    rw[List.getElem?_set_ne (fun q=>exy q.symm)]
    exact hx
theorem mj {S:Nat→Nat} {fr:Bool} {n:Nat}: ∀k,k≤n→ ∀x:Fin n,x∈Gt.pl S fr n k↔x.val<k∧(S x.val==0)=fr
 |0,_,x=>by simp[Gt.pl]
 |k+1,hk,x=>by
  have ih:=mj (S:=S) (fr:=fr) k (by omega) x
  by_cases hs:(S k==0)=fr
  ·rw[Gt.eD (by omega) hs,List.mem_append,ih,List.mem_singleton]
   constructor
   ·rintro(h|h)
    ·exact⟨by omega,h.2⟩
    ·subst h;exact⟨Nat.lt_succ_self _,hs⟩
   ·rintro⟨h1,h2⟩
    rcases Nat.lt_succ_iff_lt_or_eq.1 h1 with h|h
    ·exact .inl ⟨h,h2⟩
    ·exact .inr (Fin.ext h)
  ·rw[Gt.iI hs,ih]
   constructor
   ·rintro⟨h1,h2⟩;exact⟨by omega,h2⟩
   ·rintro⟨h1,h2⟩
    rcases Nat.lt_succ_iff_lt_or_eq.1 h1 with h|h
    ·exact⟨h,h2⟩
    ·rw[h] at h2;exact absurd h2 hs
theorem dK {M:Mc} {n x:Nat}:x∈bc M n↔x<n∧M.S x≠0:=by
 unfold bc
 rw[List.mem_map]
 constructor
 ·rintro⟨y,hy,rfl⟩
  have:=(mj n (Nat.le_refl _) y).1 hy
  exact⟨this.1,by simpa using this.2⟩
 ·rintro⟨h1,h2⟩
  exact⟨⟨x,h1⟩,(mj n (Nat.le_refl _) _).2 ⟨h1,by simpa using h2⟩,rfl⟩
theorem oM {n:Nat} {G S:Nat→Nat} {x:Nat} (hx:x<n) (hs:S x≠0):Gt.hasB n G S (x:Int) (G x)=true:=by
 unfold Gt.hasB
 simp[hx,hs]
theorem iD {M:Mc} {n x:Nat} {t:Tr} (hx:x<n) (hp:t.p=(x:Int)) (hg:t.g=M.G x) (hs:M.S x≠0):cU M n t=M.S x:=by
 unfold cU
 rw[hp,hg,oM hx hs]
 rfl
theorem dY {n:Nat} {G S:Nat→Nat} {x s:Nat} (hx:x<n) (hs:S x≠0) (hm:Gt.jZ (S x) s=true):bF n G S (x:Int) (G x) s=Gt.au S x s:=by
 unfold bF
 rw[if_pos ⟨oM hx hs,hm⟩]
 rfl
theorem wR {n:Nat} {G S:Nat→Nat} {x s:Nat} (hm:Gt.jZ (S x) s=false):bF n G S (x:Int) (G x) s=S:=by
 unfold bF
 rw[if_neg (fun q=>by have:=q.2;rw[show((x:Int)).toNat=x from rfl,hm] at this;cases this)]
theorem sz {np n q:Nat} {G:List (List En)} (hl:G.length=np+1) {p:Nat} (hp:p<np) {id:Nat} (hi:id<n) {k:Ke.K} (hr:Ke.ay k=true) (hno: ∀z,eT G z→z.1≠id) (z:En):
  eT (dD np n q (gh G) (p:Int) (id:Int) k) z↔z=(id,k)∨eT G z:=by
 have hw:aH n (gh G) 0 (id:Int)=none:=dE n _ (gh G) 0 (fun i x hx _=>aZ.2 (fun y hy=>hno y ⟨i,x.M,fW hx,hy⟩))
 have hc:iT np n (gh G) (p:Int) (id:Int) k=0:=by
  unfold iT
  rw[if_neg (by unfold om;rintro((q|q)|q|q|q);omega;omega;omega;omega;rw[hr] at q;cases q),hw]
  rfl
 have hal:ix np n q (gh G) p<G.length:=by
  rw[hl]
  unfold ix
  split<;>omega
 have hx:G[ix np n q (gh G) p]? =some (G[ix np n q (gh G) p]'hal):=List.getElem?_eq_getElem _
 have hg:dD np n q (gh G) (p:Int) (id:Int) k=G.set (ix np n q (gh G) p) (Go.Proofs.YtjlbmmiomfpgiaaGreatDoor.put (id,k) (MM (gh G) (ix np n q (gh G) p))):=by
  unfold dD
  rw[if_pos hc,cD]
  rfl
 rw[hg]
 generalize ix np n q (gh G) p=j at*
 generalize G[j]=X at hx
 rw[bZ (gQ hx)]
 constructor
 ·rintro⟨i,M,hM,hz⟩
  by_cases e:i=j
  ·subst e
   rw[List.getElem?_set_self hal] at hM
   injection hM with hM
   subst hM
   exact(cN.1 hz).imp (fun q=>q) (fun q=>⟨_,X,hx,q⟩)
  ·rw[List.getElem?_set_ne (fun q=>e q.symm)] at hM
   exact .inr ⟨i,M,hM,hz⟩
 ·rintro(rfl|⟨i,M,hM,hz⟩)
  ·exact⟨j,_,List.getElem?_set_self hal,cN.2 (.inl rfl)⟩
  ·by_cases e:i=j
   ·subst e
    rw[hx] at hM
    injection hM with hM
    subst hM
    exact⟨i,_,List.getElem?_set_self hal,cN.2 (.inr hz)⟩
   ·exact⟨i,M,by rw[List.getElem?_set_ne (fun q=>e q.symm)];exact hM,hz⟩
theorem vJ {np n q:Nat} {G:List (List En)} (p id:Int) (k:Ke.K):(dD np n q (gh G) p id k).length=G.length:=by
 unfold dD
 split
 ·rw[List.length_set,cD]
 ·rw[cD]
theorem iY {w:World} {O:Nat→Prop} {pb n np q T:Nat} {G:List (List En)} (h:PQ w O pb n np q T G) {p d:Int} (hb:(bb np (gh G) p d).isSome=true):
  ∃(x:Nat) (k:Ke.K),x<n∧bI (gh G) (bb np (gh G) p d)=(x:Int)∧eT G (x,k)∧(∀z,eT G z→Ke.up z.2 k=false)∧ ∀z,eT (eE np (gh G) p d) z↔eT G z∧z.1≠x:=by
 obtain⟨c,hc⟩:=Option.isSome_iff_exists.1 hb
 obtain⟨z,e1,e2,hz,hw,hs⟩:=h.B6 hc
 obtain⟨_,_,y,z',M',hy,hM⟩:=lA hc
 have hzz:z'=z:=by
  have q1:bI (gh G) (some c)=(z'.1:Int):=by show nu (MM (gh G) c)=_;rw[bZ hy,hM];rfl
  have q2:bK (gh G) (some c)=z'.2:=by show fN (MM (gh G) c)=_;rw[bZ hy,hM];rfl
  rw[e1] at q1
  rw[e2] at q2
  exact Prod.ext (by omega) q2.symm
 subst hzz
 have hcl:c<G.length:=(List.getElem?_eq_some_iff.1 (fW hy)).1
 have hG:G[c]? =some (z'::M'):=by rw[←hM];exact fW hy
 have hg:eE np (gh G) p d=G.set c M':=by unfold eE;rw[hc,cD];show G.set c (MM (gh G) c).tail=_;rw[bZ hy,hM];rfl
 refine⟨z'.1,z'.2,hz,by rw[hc];exact e1,⟨c,_,hG,by simp⟩,?_,?_⟩
 ·rintro y ⟨i,M2,hM2,hy2⟩
  have hk:fN (MM (gh G) c)=z'.2:=by rw[bZ hy,hM];rfl
  cases hM3:M2 with
  |nil=>rw[hM3] at hy2;cases hy2
  |cons y0 M4=>
   have h0:Ke.up y0.2 z'.2=false:=by rw[←hk];exact sg h.len hc (by rw[←hM3];exact hM2)
   rw[hM3] at hy2
   rcases List.mem_cons.1 hy2 with e|e
   ·rw[e];exact h0
   ·have hf:=h.rS hM2
    rw[hM3] at hf
    exact iK ((List.pairwise_cons.1 hf).1 y e) h0
 ·intro y
  constructor
  ·intro hy2
   refine⟨wj y hy2,?_⟩
   obtain⟨i,M2,hM2,hy3⟩:=hy2
   exact aZ.1 (dd hw hz (gQ hM2)) y hy3
  ·rintro⟨⟨i,M2,hM2,hy2⟩,hne⟩
   rw[hg]
   by_cases e:i=c
   ·subst e
    rw[hG] at hM2
    injection hM2 with hM2
    subst hM2
    rcases List.mem_cons.1 hy2 with q|q
    ·rw[q] at hne;exact absurd rfl hne
    ·exact⟨i,M',List.getElem?_set_self hcl,q⟩
   ·exact⟨i,M2,by rw[List.getElem?_set_ne (fun q=>e q.symm)];exact hM2,hy2⟩
theorem sE {np:Nat} {G:List (List En)} (hl:G.length=np+1) {p d:Int} (hp:0≤p∧p<(np:Int)) (hb:(bb np (gh G) p d).isSome=false) (z:En): ¬eT G z:=by
 rintro⟨i,M,hM,hz⟩
 have h1:=Aj hl hp d
 rw[hb] at h1
 have h2:=of_decide_eq_false h1.symm
 have hs:=dG (y:=⟨0,0,0,0,0,0,[]⟩) (gQ hM)
 simp only[List.length_nil] at hs
 have:0<M.length:=List.length_pos_of_mem hz
 omega
theorem yI {np:Nat} {G:List (List En)} (p d:Int):(eE np (gh G) p d).length=G.length:=by
 unfold eE
 split
 ·rw[cD]
 ·rw[List.length_set,cD]
theorem ue {M:Mc} {n c:Nat} (hc:c<n) (h: ∀x,x<c→M.S x≠0) (h0:M.S c=0):cm M n=some c:=by
 have e:Gt.pl M.S true n c=[]:=by
  cases hp:Gt.pl M.S true n c with
  |nil=>rfl
  |cons y l=>
   have:=(mj (S:=M.S) (fr:=true) c (by omega) y).1 (by rw[hp];simp)
   exact absurd (by simpa using this.2) (h y.val this.1)
 have e2:=Gt.eD (S:=M.S) (fr:=true) hc (by simp[h0])
 rw[e] at e2
 obtain⟨t,ht⟩:=Gt.oN M.S true n (c+1) (n-(c+1))
 rw[e2,show c+1+(n-(c+1))=n by omega] at ht
 unfold cm
 rw[←ht]
 rfl
end Go.Proofs.YtjlbmmiomfpgiaaGreatDoor
namespace Go.Proofs.YtjlbmmiomfpgiaaGreatDoor
open Go.RowKit Go.Lib Go.Shelf
attribute [local go_sem ↓] Go.wp_at_zero Go.wp_at_succ
def Al (w wr:World) (ad:Ad) (P n q T:Nat) (M:Mc):Prop:=(∃lab,ax wr lab ad P n q T M∧ ∀k,lab k≠0→w.heap.size≤k)∧Below w.heap.size w wr
section
variable {w wr w':World} {ad:Ad} {P n q T T':Nat} {M M':Mc}
theorem Al.goes (h:Al w wr ad P n q T M) {lab:Nat→Nat} (hi: ∀k,lab k≠0→w.heap.size≤k) (g:aw wr w' lab ad P n q T' M'):Al w w' ad P n q T' M':=by
 obtain⟨_,hb⟩:=h
 obtain⟨lab',hi',hl,hf⟩:=g
 refine⟨⟨lab',hi',fun k hk=> ?_⟩,hb.trans ⟨hf.os,hf.tape,hf.output,hf.size,fun k hk=>hf.block k (Nat.lt_of_lt_of_le hk hb.size) (fun q=>by have:=hi k q;omega)⟩⟩
 rcases Nat.lt_or_ge k wr.heap.size with q|q
 ·exact hi k (by rw[←hl.old k q];exact hk)
 ·exact Nat.le_trans hb.size q
theorem Al.call (h:Al w wr ad P n q T M) {f:Nat} {args:Array Value} {R:Ending→World→Prop} (hc: ∀lab,ax wr lab ad P n q T M→Calls Tryz.prog f args wr fun e w'=>R e w'∧aw wr w' lab ad P n q T' M'):Calls Tryz.prog f args wr fun e w'=>R e w'∧Al w w' ad P n q T' M':=by
 have h0:=h
 obtain⟨⟨lab,hi,hl⟩,hb⟩:=h
 exact(hc lab hi).mono (fun e w' ⟨r,g⟩=>⟨r,h0.goes hl g⟩)
theorem Al.below (h:Al w wr ad P n q T M) (hb:Below wr.heap.size wr w'):Al w w' ad P n q T M:=by
 have h0:=h
 obtain⟨⟨lab,hi,hl⟩,_⟩:=h
 exact h0.goes hl (hi.stay hb)
theorem Al.pq (h:Al w wr ad P n q T M): ∃O,PQ wr O ad.pb n P q T M.pl:=by
 obtain⟨⟨lab,hi,hl⟩,hb⟩:=h
 obtain⟨O,p,_⟩:=hi.pl
 exact⟨O,p⟩
theorem Al.mJ (h:Al w wr ad P n q T M):Below w.heap.size w wr:=h.2
end
section
variable {w wr w':World} {ad:Ad} {P n q T T':Nat} {M M':Mc}
theorem Az (P n q m qu ag:Nat) (hP:1≤P∧P≤64) (hn:1≤n∧n≤1024) (hq:1≤q∧q≤256) (hm:m≤32) (hqu:1≤qu∧qu<18446744073709551616) (hag:1≤ag∧ag<18446744073709551616) (w:World) (ht:Gt.j5 w):
  Calls Tryz.prog 10 #[.agg #[.int .i64 (P:Int),.int .i64 (n:Int),.int .i64 (q:Int),.int .i64 (m:Int),.int .u64 (qu:Int),.int .u64 (ag:Int)]] w fun e w'=> ∃a,e= .returned (.pointer (some ⟨a.m,0,none⟩))∧Al w w' a P n q 0 (fR P n m qu ag):=
 (fG P n q m qu ag hP hn hq hm hqu hag w ht).mono (fun e w' ⟨a,lab,he,hi,hl,hb⟩=>⟨a,he,⟨lab,hi,hl⟩,hb⟩)
theorem Al.iC (h:Al w wr ad P n q T M) (ap:Option Addr) (len cap:Nat) (O R:Nat→Int) (hp:Ex.lK wr ap len O R) (hr:Ex.Rt len O R) (hf:M.pr.length<16):
  Calls Tryz.prog 17 #[.pointer (some ⟨ad.m,0,none⟩),.slice ap len cap] wr fun e w'=>e= .returned (.tuple #[.int .i64 (M.pr.length:Int),.int .i64 0])∧Al w w' ad P n q T {M with pr:=M.pr++[⟨len,O,R⟩]}:=
 h.call (R:=fun e _=>e= .returned (.tuple #[.int .i64 (M.pr.length:Int),.int .i64 0])) (fun lab hi=>hi.iC ap len cap O R hp hr hf)
end
def oV (P:Nat) (p:Pm):Mc:={fR P 8 4 50 50 with pr:=[p]}
theorem q9 (w:World) (ht:Gt.j5 w) (P:Nat) (hP:1≤P∧P≤64) (ap:Option Addr) (len cap:Nat) (O R:Nat→Int) (hp:Ex.lK w ap len O R) (hr:Ex.Rt len O R):
  Calls Tryz.prog 28 #[.int .i64 (P:Int),.slice ap len cap] w fun e w'=> ∃ad,e= .returned (.pointer (some ⟨ad.m,0,none⟩))∧Al w w' ad P 8 8 0 (oV P ⟨len,O,R⟩):=by
 have HN:Hid (Calls Tryz.prog 10 #[.agg #[.int .i64 (P:Int),.int .i64 8,.int .i64 8,.int .i64 4,.int .u64 50,.int .u64 50]] w fun e w'=> ∃a,e= .returned (.pointer (some ⟨a.m,0,none⟩))∧Al w w' a P 8 8 0 (fR P 8 4 50 50)):=Az P 8 8 4 50 50 hP (by decide) (by decide) (by decide) (by decide) (by decide) w ht
 have HL:Hid (∀V ad,Al w V ad P 8 8 0 (fR P 8 4 50 50)→Calls Tryz.prog 17 #[.pointer (some ⟨ad.m,0,none⟩),.slice ap len cap] V fun e w'=>e= .returned (.tuple #[.int .i64 0,.int .i64 0])∧Al w w' ad P 8 8 0 (oV P ⟨len,O,R⟩)):=fun V ad h=>h.iC ap len cap O R (hp.below h.mJ) hr (by show 0<16;decide)
 clear hp hr ht
 go_enter Tryz.func28,Tryz.ntmps28
 go_wp2_with (first
  |(go_at_call 10;refine(HN.out).mono ?_;rintro e w1 ⟨ad,rfl,hA⟩;have HA:=aa hA;clear hA)
  |(go_at_call 17;refine(HL.out _ ad HA.out).mono ?_;rintro e w2 ⟨rfl,hA2⟩;have HA2:=aa hA2;clear hA2))
 go_ret
 exact⟨ad,rfl,HA2.out⟩
end Go.Proofs.YtjlbmmiomfpgiaaGreatDoor
namespace Go.Proofs.YtjlbmmiomfpgiaaGreatDoor
open Go.RowKit Go.Lib
section
variable {n P c m:Nat} {lv:Nat→Nat} {M:Mc}
theorem qF {M:Mc} {t:Tr} (hn:M.nw=0) (hs:t.sn=0) (hl:t.lv<256):bS M t=(t.lv:Int):=by
 unfold bS Ag.qP
 split
 ·rfl
 ·have e:Ag.gY (M.nw:Int) (t.sn:Int)=0:=by rw[hn,hs];decide
  rw[e,Int.zero_ediv]
  split<;>omega
theorem oL (i:Int):Cb.jY [] i=⟨0,0,0,0⟩:=by unfold Cb.jY;split<;>rfl
end
end Go.Proofs.YtjlbmmiomfpgiaaGreatDoor
namespace Go.Proofs.YtjlbmmiomfpgiaaGreatDoor
open Go.RowKit Go.Lib Go.Shelf
attribute [local go_sem ↓] Go.wp_at_zero Go.wp_at_succ
theorem zh: ∀(l:List Ev) (i:Nat) (e:Ev),l[i]? =some e→(bX l)[i*6]? =some (.int .i64 e.k)
 |[],i,e,h=>by simp at h
 |y::l,0,e,h=>by simp at h;subst h;rfl
 |y::l,i+1,e,h=>by
  have:=zh l i e (by simpa using h)
  have e0:bX (y::l)=dj y++bX l:=rfl
  rw[e0,List.getElem?_append_right (by show(dj y).length≤_;simp[dj];omega)]
  have e1:(i+1)*6-(dj y).length=i*6:=by simp[dj];omega
  rw[e1]
  exact this
theorem jX.at {w:World} {base:Nat} {v:Value} {l:List Ev} (h:jX w base v l) {i:Nat} {e:Ev} (hi:l[i]? =some e): ∃b c,v= .slice (some ⟨b,0,none⟩) l.length c∧w.cell? ⟨b,i*6,none⟩=some (.int .i64 e.k):=by
 have hl:=(List.getElem?_eq_some_iff.1 hi).1
 rcases h.2 with ⟨_,e0⟩|⟨b,c,cur,e1,h0,hg,hrow⟩
 ·omega
 ·refine⟨b,c,e1,?_⟩
  have hu:(bX l)[i*6]? =some (.int .i64 e.k):=zh l i e hi
  rw[←hrow.2.2.2,List.getElem?_take] at hu
  split at hu
  ·simp only[World.cell?,hg]
   simpa using hu
  ·cases hu
def xO (j:Nat):Int:=9
def xR (j:Nat):Int:=0
theorem CW:Ex.Rt 1 xO xR:=by
 refine⟨0,.inr (.inr (.inr ⟨by decide,by decide,?_,.inr rfl,rfl,rfl⟩))⟩
 intro i hi
 show Ex.sL ((1:Nat):Int) 9 0=true
 decide
theorem Bh (w:World):Ex.lK (w.alloc (.cells #[.int .i64 9,.int .i64 0] 64)) (some ⟨w.heap.size,0,none⟩) 1 xO xR:=by
 refine .inr ⟨w.heap.size,0,rfl,by simp,fun j hj=> ?_⟩
 match j,hj with
 |0,_=>exact⟨aT _ _ _ 0 _ rfl,aT _ _ _ 1 _ rfl⟩
theorem yt (g:Pi.Md) (t:Int) (k:Ke.K) (x:Nat):((Pi.eK g t k).2.T[x]?).map (·.u)=(g.T[x]?).map (·.u):=by
 unfold Pi.eK
 split
 ·split
  ·rename_i y hy
   show((g.T.set t.toNat ⟨k,y.u⟩)[x]?).map (·.u)=_
   by_cases e:t.toNat=x
   ·rw[e] at hy⊢
    rw[List.getElem?_set_self (List.getElem?_eq_some_iff.1 hy).1,hy]
    rfl
   ·rw[List.getElem?_set_ne e]
  ·rfl
 ·rfl
theorem wN (n:Nat) (M:Mc) (x:Nat): ∀(l:List Nat) (g:Pi.Md),((l.foldl (eJ n M) g).T[x]?).map (·.u)=(g.T[x]?).map (·.u)
 |[],g=>rfl
 |y::l,g=>by rw[List.foldl_cons,wN n M x l];exact yt _ _ _ _
theorem vZ (M:Mc) (n x:Nat):((settle M n).gr.T[x]?).map (·.u)=(M.gr.T[x]?).map (·.u):=wN n M x _ _
theorem xF (g:Pi.Md) (t:Int) (k:Ke.K):(Pi.eK g t k).2.L=g.L:=by
 unfold Pi.eK
 split
 ·split<;>rfl
 ·rfl
theorem uy (n:Nat) (M:Mc): ∀(l:List Nat) (g:Pi.Md),(l.foldl (eJ n M) g).L=g.L
 |[],g=>rfl
 |y::l,g=>by rw[List.foldl_cons,uy n M l];exact xF _ _ _
theorem kZ (M:Mc) (n:Nat):(settle M n).gr.L=M.gr.L:=uy n M _ _
section
variable {w wr w':World} {ad:Ad} {P n q T T':Nat} {M M':Mc} {K:Nat→Prop}
end
section
variable {w wr w':World} {ad:Ad} {T:Nat} {M M1:Mc} {K:Nat→Prop} {s:Nat} {p:Pm}
end
end Go.Proofs.YtjlbmmiomfpgiaaGreatDoor
namespace Go.Proofs.YtjlbmmiomfpgiaaGreatDoor
open Go.RowKit Go.Lib Go.Shelf
noncomputable def rB (n pr x:Nat) (M:Mc) (l:List Ev) (ar:Int):Mc×List Ev×Bool:=
 if (Pi.bu M.gr (M.th x).p ar).1.2≠0 then(bf M x ar,l++[⟨6,(pr:Int),(M.th x).p,(M.th x).g,2,(Pi.bu M.gr (M.th x).p ar).1.2⟩],false)
 else if (Pi.bu M.gr (M.th x).p ar).1.1=true then(bf M x ar,l++[⟨5,(pr:Int),(M.th x).p,(M.th x).g,2,0⟩]++[⟨8,(pr:Int),(M.th x).p,(M.th x).g,ar,0⟩],false)
 else(fa {bf M x ar with S:=bF n M.G M.S (M.th x).p (M.th x).g 3} pr (-1),l++[⟨5,(pr:Int),(M.th x).p,(M.th x).g,2,0⟩]++[⟨7,(pr:Int),(M.th x).p,(M.th x).g,ar,0⟩],true)
section
variable {w W:World} {lab labk:Nat→Nat} {a:Ad} {P n q T T':Nat} {M M':Mc} {sb pr:Nat} {l l':List Ev} {O:Nat→Prop}
end
theorem Au (P n q:Nat) (M:Mc) (pr x:Nat):((df P n q M pr x).pc pr).r= -1:=by
 unfold df fa
 simp only[Gt.aj]
section
variable {w W:World} {lab labk:Nat→Nat} {a:Ad} {P n q T T':Nat} {M M':Mc} {sb pr:Nat} {l l':List Ev} {O:Nat→Prop}
end
end Go.Proofs.YtjlbmmiomfpgiaaGreatDoor
namespace Go.Proofs.YtjlbmmiomfpgiaaGreatDoor
open Go.RowKit
def jG (M:Mc) (x:Nat):Prop:= ∃k,eT M.pl (x,k)
def Uo (M:Mc) (x:Nat):Option Int:=(M.gr.T[x]?).map (·.u)
theorem rH {n:Nat} {G:List (List En)} {x:Nat} {k:Ke.K} (y:Nat):(∃k',eT (cG n (gh G) (x:Int) k) (y,k'))↔ ∃k',eT G (y,k'):=by
 unfold cG
 split
 case isFalse=>rw[cD]
 case isTrue=>
  rw[cD]
  generalize wV n (gh G) (x:Int)=i
  cases hi:G[i]? with
  |none=>rw[List.set_eq_of_length_le (List.getElem?_eq_none_iff.1 hi)]
  |some X=>
   rw[bZ (gQ hi)]
   have hil:=(List.getElem?_eq_some_iff.1 hi).1
   have hids: ∀y,(∃k',(y,k')∈ft n X (x:Int) k)↔ ∃k',(y,k')∈X:=by
    intro y
    unfold ft
    split
    case isFalse=>exact Iff.rfl
    case isTrue hc=>
     split
     case isTrue=>exact Iff.rfl
     case isFalse=>
      have hk:(keyOf X ((x:Int)).toNat).isSome=true:=by
       unfold ie at hc
       split at hc
       ·cases hc
       ·split at hc
        ·assumption
        ·cases hc
      rw[show((x:Int)).toNat=x by omega] at hk⊢
      have hin: ∃k',(x,k')∈X:=by
       apply Classical.byContradiction
       intro hno
       have:keyOf X x=none:=aZ.2 (fun z hz e=>hno ⟨z.2,by rw[←e];exact hz⟩)
       rw[this] at hk
       cases hk
      constructor
      ·rintro⟨k',hk'⟩
       rcases cN.1 hk' with q|q
       ·injection q with q1 q2
        rw[q1]
        exact hin
       ·exact⟨k',(fw.1 q).1⟩
      ·rintro⟨k',hk'⟩
       by_cases e:y=x
       ·exact⟨k,cN.2 (.inl (by rw[e]))⟩
       ·exact⟨k',cN.2 (.inr (fw.2 ⟨hk',e⟩))⟩
   constructor
   ·rintro⟨k',j,Y,hj,hm⟩
    by_cases e:j=i
    ·subst e
     rw[List.getElem?_set_self hil] at hj
     injection hj with hj
     subst hj
     obtain⟨k2,h2⟩:=(hids y).1 ⟨k',hm⟩
     exact⟨k2,_,X,hi,h2⟩
    ·rw[List.getElem?_set_ne (fun q=>e q.symm)] at hj
     exact⟨k',j,Y,hj,hm⟩
   ·rintro⟨k',j,Y,hj,hm⟩
    by_cases e:j=i
    ·subst e
     rw[hi] at hj
     injection hj with hj
     subst hj
     obtain⟨k2,h2⟩:=(hids y).2 ⟨k',hm⟩
     exact⟨k2,_,_,List.getElem?_set_self hil,h2⟩
    ·exact⟨k',j,Y,by rw[List.getElem?_set_ne (fun q=>e q.symm)];exact hj,hm⟩
theorem wX {n:Nat} {G:List (List En)} {x:Int} {k:Ke.K}:(cG n (gh G) x k).length=G.length:=by
 unfold cG
 split
 ·rw[List.length_set,cD]
 ·rw[cD]
theorem iZ (n:Nat) (M:Mc) (g:Pi.Md) (y:Nat): ∀(l:List Nat) (G:List (List En)),((∃k',eT (l.foldl (eW n M g) G) (y,k'))↔ ∃k',eT G (y,k'))∧(l.foldl (eW n M g) G).length=G.length
 |[],G=>⟨Iff.rfl,rfl⟩
 |x::l,G=>by
  obtain⟨h1,h2⟩:=iZ n M g y l (eW n M g G x)
  have h3:((∃k',eT (eW n M g G x) (y,k'))↔ ∃k',eT G (y,k'))∧(eW n M g G x).length=G.length:=by
   unfold eW
   split
   ·exact⟨rH y,wX⟩
   ·exact⟨Iff.rfl,rfl⟩
  rw[List.foldl_cons]
  exact⟨h1.trans h3.1,h2.trans h3.2⟩
theorem qG (g:Pi.Md) (t:Int) (k:Ke.K) (h: ∀y∈g.T,Ke.ay y.k=true): ∀y∈(Pi.eK g t k).2.T,Ke.ay y.k=true:=by
 unfold Pi.eK
 split
 case isFalse=>exact h
 case isTrue hc=>
  split
  case h_2=>exact h
  case h_1 x hx=>
   intro y hy
   rcases List.mem_or_eq_of_mem_set hy with q|q
   ·exact h y q
   ·rw[q]
    simp only[Bool.and_eq_true] at hc
    exact hc.2
theorem vH (g:Pi.Md) (t:Int) (k:Ke.K):(Pi.eK g t k).2.T.length=g.T.length:=by
 unfold Pi.eK
 split
 ·split
  ·exact List.length_set
  ·rfl
 ·rfl
theorem eI (n:Nat) (M:Mc): ∀(l:List Nat) (g:Pi.Md),(∀y∈g.T,Ke.ay y.k=true)→(∀y∈(l.foldl (eJ n M) g).T,Ke.ay y.k=true)
 |[],g,h=>h
 |x::l,g,h=>eI n M l _ (qG g _ _ h)
theorem mh (n:Nat) (M:Mc): ∀(l:List Nat) (g:Pi.Md),(l.foldl (eJ n M) g).T.length=g.T.length
 |[],g=>rfl
 |x::l,g=>(mh n M l _).trans (vH g _ _)
structure Kd (M R:Mc):Prop where
 qu:R.qu=M.qu
 ag:R.ag=M.ag
 pr:R.pr=M.pr
 pc:R.pc=M.pc
 th:R.th=M.th
 G:R.G=M.G
 S:R.S=M.S
 sv:R.sv=M.sv
 nw:R.nw=M.nw
 wh:R.wh=M.wh
 L:R.gr.L=M.gr.L
 U: ∀x,Uo R x=Uo M x
 tl:R.gr.T.length=M.gr.T.length
 kr:(∀y∈M.gr.T,Ke.ay y.k=true)→ ∀y∈R.gr.T,Ke.ay y.k=true
 ip: ∀x,jG R x↔jG M x
 pl:R.pl.length=M.pl.length
theorem dh (M:Mc) (n:Nat):Kd M (settle M n):=
 ⟨rfl,rfl,rfl,rfl,rfl,rfl,rfl,rfl,rfl,rfl,kZ M n,fun x=>vZ M n x,mh n M _ _,fun h=>eI n M _ _ h,fun x=>(iZ n M _ x _ _).1,(iZ n M _ 0 _ _).2⟩
theorem td {k k':Ke.K} (h:Ke.ay k=true) (h':Ke.ay k'=true):Ke.ay (Ke.dr k k')=true:=by
 unfold Ke.dr
 split<;>assumption
theorem pN {T:List Pi.Th} {L:List Pi.Lk} (h: ∀x∈T,Ke.ay x.k=true): ∀m t,Ke.ay (Pi.kf T L m t)=true
 |m,t=>by
  have h0:Ke.ay (Pi.eU T t)=true:=by
   unfold Pi.eU
   cases e:T[t]? with
   |none=>rfl
   |some x=>exact h x (List.mem_of_getElem? e)
  cases m with
  |zero=>exact h0
  |succ m=>
   unfold Pi.kf
   have: ∀(l:List Nat) (k:Ke.K),Ke.ay k=true→Ke.ay (l.foldl (fun k x=>Ke.dr k (Pi.kf T L m x)) k)=true:=fun l=>by
    induction l with
    |nil=>exact fun k hk=>hk
    |cons x l ih=>exact fun k hk=>ih _ (td hk (pN h m x))
   exact this _ _ h0
theorem fq {T:List Pi.Th} {L:List Pi.Lk} (h: ∀x∈T,Ke.ay x.k=true) (t:Int):Ke.ay (Pi.aR T L t)=true:=by
 unfold Pi.aR
 split
 ·unfold Pi.keyOf
  split
  ·exact pN h _ _
  ·rfl
 ·rfl
structure Cw (n:Nat) (M R:Mc) (x:Nat):Prop where
 qu:R.qu=M.qu
 ag:R.ag=M.ag
 pr:R.pr=M.pr
 pc:R.pc=M.pc
 th:R.th=Gt.au M.th x {M.th x with sn:=M.nw,lf:=0}
 G:R.G=M.G
 S:R.S=Gt.au M.S x 1
 sv:R.sv=if M.S x=2 then M.sv else Cb.iq M.sv (M.th x).sv M.nw
 nw:R.nw=M.nw
 wh:R.wh=M.wh
 L:R.gr.L=M.gr.L
 U: ∀y,Uo R y=Uo M y
 tl:R.gr.T.length=M.gr.T.length
 kr: ∀y∈R.gr.T,Ke.ay y.k=true
 ip: ∀y,jG R y↔y=x∨jG M y
 pl:R.pl.length=M.pl.length
theorem sW {s:Nat} (h:s=2∨s=3∨s=4):Gt.jZ s 1=true:=by rcases h with rfl|rfl|rfl<;>rfl
theorem dX {P n q:Nat} {M:Mc} {x p:Nat} (hx:x<n) (hp:p<P) (hpl:M.pl.length=P+1) (hkr: ∀y∈M.gr.T,Ke.ay y.k=true) (hS:M.S x=1∨M.S x=2∨M.S x=3∨M.S x=4) (htp:(M.th x).p=(x:Int)) (htg:(M.th x).g=M.G x) (hno: ¬jG M x):Cw n M (ready P n q M x (p:Int)) x:=by
 have hs0:M.S x≠0:=by omega
 have hst:cU M n (M.th x)=M.S x:=iD hx htp htg hs0
 have hmv:bF n M.G M.S (M.th x).p (M.th x).g 1=Gt.au M.S x 1:=by
  rw[htp,htg]
  rcases hS with h|h
  ·rw[wR (by rw[h];rfl)]
   funext j
   by_cases e:j=x
   ·rw[e,Gt.aj,h]
   ·rw[Gt.af _ _ _ _ e]
  ·exact dY hx hs0 (sW h)
 have h1:bU n M x={M with S:=Gt.au M.S x 1,th:=Gt.au M.th x {M.th x with sn:=M.nw,lf:=0}}:=by unfold bU;rw[hmv]
 have h2:a8 n M x={M with S:=Gt.au M.S x 1,th:=Gt.au M.th x {M.th x with sn:=M.nw,lf:=0},sv:=if M.S x=2 then M.sv else Cb.iq M.sv (M.th x).sv M.nw}:=by
  unfold a8
  rw[hst,h1]
  split<;>rfl
 have k:=dh (a8 n M x) n
 rw[h2] at k
 have hR3:bN n M x=settle {M with S:=Gt.au M.S x 1,th:=Gt.au M.th x {M.th x with sn:=M.nw,lf:=0},sv:=if M.S x=2 then M.sv else Cb.iq M.sv (M.th x).sv M.nw} n:=by unfold bN;rw[h2]
 unfold ready
 rw[hR3]
 generalize settle {M with S:=Gt.au M.S x 1,th:=Gt.au M.th x {M.th x with sn:=M.nw,lf:=0},sv:=if M.S x=2 then M.sv else Cb.iq M.sv (M.th x).sv M.nw} n=R3 at*
 have hkr3:=k.kr hkr
 refine⟨k.qu,k.ag,k.pr,k.pc,k.th,k.G,k.S,k.sv,k.nw,k.wh,k.L,k.U,k.tl,hkr3,fun y=> ?_,(vJ _ _ _).trans k.pl⟩
 have hno3: ∀z,eT R3.pl z→z.1≠x:=fun z hz e=>hno ((k.ip x).1 ⟨z.2,by rw[←e];exact hz⟩)
 have hpi:=sz (q:=q) (np:=P) (n:=n) (k.pl.trans hpl) hp hx (fq (L:=R3.gr.L) hkr3 (x:Int)) hno3
 constructor
 ·rintro⟨k',hk'⟩
  rcases(hpi (y,k')).1 hk' with q|q
  ·injection q with q1 q2
   exact .inl q1
  ·exact .inr ((k.ip y).1 ⟨k',q⟩)
 ·rintro(rfl|q)
  ·exact⟨_,(hpi _).2 (.inl rfl)⟩
  ·obtain⟨k',hk'⟩:=(k.ip y).2 q
   exact⟨k',(hpi _).2 (.inr hk')⟩
structure zC (P:Nat) (M:Mc) (x:Nat):Prop where
 p:(M.th x).p=(x:Int)
 g:(M.th x).g=M.G x
 pg: ∃k:Nat,k<M.pr.length∧(M.th x).pg=(k:Int)
 pc: ∃p:Nat,p<P∧(M.th x).pc=(p:Int)
theorem zC.cg {P:Nat} {M R:Mc} {x:Nat} (t:zC P M x) (h1:R.th x=M.th x) (h2:R.G x=M.G x) (h3:R.pr=M.pr):zC P R x:=
 ⟨by rw[h1];exact t.p,by rw[h1,h2];exact t.g,by rw[h1,h3];exact t.pg,by rw[h1];exact t.pc⟩
structure Iv (P n B:Nat) (D:List Nat) (M:Mc):Prop where
 tl:M.gr.T.length=n
 pl:M.pl.length=P+1
 kr: ∀y∈M.gr.T,Ke.ay y.k=true
 qu:1≤M.qu
 sl: ∀p,p<P→(M.pc p).s<M.qu
 r1: ∀p,p<P→(M.pc p).r= -1∨ ∃x:Nat,x<n∧(M.pc p).r=(x:Int)∧M.S x=2
 r2: ∀x,x<n→M.S x=2→ ∃p,p<P∧(M.pc p).r=(x:Int)
 r3: ∀p p',p<P→p'<P→(M.pc p).r=(M.pc p').r→(M.pc p).r≠ -1→p=p'
 th: ∀x,x<n→M.S x≠0→zC P M x
 st: ∀x,x<n→M.S x≤4
 rd: ∀x,jG M x↔x<n∧M.S x=1
 bl: ∀x,x<n→(M.S x=3↔Uo M x≠some (-1))
 sp: ∀x,x<n→(M.S x=4↔(∃it∈M.wh,it.i=x)∨x∈D)
 wl: ∀it∈M.wh,it.i<n
 wt: ∀(m:Nat) y,M.gr.L[m]? =some y→ ∀t∈y.l,t<n∧Uo M t=some (m:Int)
 nd: ∀y∈M.gr.L,y.l.Nodup
 l32:M.gr.L.length≤32
 gb: ∀x,x<n→M.G x≤B
section
variable {P n q B:Nat} {D:List Nat} {M R:Mc}
theorem Iv.kd (h:Iv P n B D M) (k:Kd M R):Iv P n B D R:=
 ⟨k.tl.trans h.tl,k.pl.trans h.pl,k.kr h.kr,by rw[k.qu];exact h.qu,by rw[k.pc,k.qu];exact h.sl,by rw[k.pc,k.S];exact h.r1,by rw[k.pc,k.S];exact h.r2,by rw[k.pc];exact h.r3,
  fun x hx hs=>(by rw[k.S] at hs;have t:=h.th x hx hs;exact⟨by rw[k.th];exact t.p,by rw[k.th,k.G];exact t.g,by rw[k.th,k.pr];exact t.pg,by rw[k.th];exact t.pc⟩),by rw[k.S];exact h.st,
  fun x=>by rw[k.ip,k.S];exact h.rd x,fun x hx=>by rw[k.S,k.U];exact h.bl x hx,by rw[k.S,k.wh];exact h.sp,by rw[k.wh];exact h.wl,
  fun m y hy t ht=>by rw[k.L] at hy;rw[k.U];exact h.wt m y hy t ht,by rw[k.L];exact h.nd,by rw[k.L];exact h.l32,by rw[k.G];exact h.gb⟩
theorem Iv.settle (h:Iv P n B D M):Iv P n B D (Go.Proofs.YtjlbmmiomfpgiaaGreatDoor.settle M n):=h.kd (dh M n)
theorem Iv.more (h:Iv P n B D M) {B':Nat} (hb:B≤B'):Iv P n B' D M:=⟨h.tl,h.pl,h.kr,h.qu,h.sl,h.r1,h.r2,h.r3,h.th,h.st,h.rd,h.bl,h.sp,h.wl,h.wt,h.nd,h.l32,fun x hx=>Nat.le_trans (h.gb x hx) hb⟩
theorem Iv.zy (h:Iv P n B D M) (x:Nat) (t:Tr) (h1:t.p=(M.th x).p) (h2:t.g=(M.th x).g) (h3:t.pg=(M.th x).pg) (h4:t.pc=(M.th x).pc):Iv P n B D {M with th:=Gt.au M.th x t}:=by
 refine⟨h.tl,h.pl,h.kr,h.qu,h.sl,h.r1,h.r2,h.r3,fun y hy hs=> ?_,h.st,h.rd,h.bl,h.sp,h.wl,h.wt,h.nd,h.l32,h.gb⟩
 have t0:=h.th y hy hs
 by_cases e:y=x
 ·subst e
  exact⟨by show(Gt.au M.th y t y).p=_;rw[Gt.aj,h1];exact t0.p,by show(Gt.au M.th y t y).g=_;rw[Gt.aj,h2];exact t0.g,by show∃k:Nat,k<M.pr.length∧(Gt.au M.th y t y).pg=_;rw[Gt.aj,h3];exact t0.pg,by show∃p:Nat,p<P∧(Gt.au M.th y t y).pc=_;rw[Gt.aj,h4];exact t0.pc⟩
 ·exact⟨by show(Gt.au M.th x t y).p=_;rw[Gt.af _ _ _ _ e];exact t0.p,by show(Gt.au M.th x t y).g=_;rw[Gt.af _ _ _ _ e];exact t0.g,by show∃k:Nat,k<M.pr.length∧(Gt.au M.th x t y).pg=_;rw[Gt.af _ _ _ _ e];exact t0.pg,by show∃p:Nat,p<P∧(Gt.au M.th x t y).pc=_;rw[Gt.af _ _ _ _ e];exact t0.pc⟩
theorem Iv.leave (h:Iv P n B D M) {pr x s:Nat} (hp:pr<P) (hx:x<n) (hr:(M.pc pr).r=(x:Int)) (hs:s≤4) (hs2:s≠2)
  (hS:R.S=Gt.au M.S x s) (hpc:R.pc=Gt.au M.pc pr {M.pc pr with r:= -1}) (hqu:R.qu=M.qu) (htl:R.gr.T.length=n) (hpl:R.pl.length=P+1) (hkr: ∀y∈R.gr.T,Ke.ay y.k=true)
  (hth: ∀y,y<n→R.S y≠0→zC P R y) (hrd: ∀y,jG R y↔(y=x∧s=1)∨jG M y) (hbl: ∀y,y<n→y≠x→Uo R y=Uo M y) (hblx:s=3↔Uo R x≠some (-1))
  (hwh: ∀y,y<n→((∃it∈R.wh,it.i=y)↔(y=x∧s=4)∨ ∃it∈M.wh,it.i=y)) (hwl: ∀it∈R.wh,it.i<n) (hwt: ∀(m:Nat) y,R.gr.L[m]? =some y→ ∀t∈y.l,t<n∧Uo R t=some (m:Int)) (hnd: ∀y∈R.gr.L,y.l.Nodup) (hl:R.gr.L.length≤32) (hG:R.G=M.G):Iv P n B D R:=by
 have hx2:M.S x=2:=by
  rcases h.r1 pr hp with q|⟨y,_,q1,q2⟩
  ·omega
  ·have:y=x:=by omega
   rw[←this];exact q2
 have es: ∀y,y≠x→R.S y=M.S y:=fun y e=>by rw[hS,Gt.af _ _ _ _ e]
 have ex:R.S x=s:=by rw[hS,Gt.aj]
 have ep: ∀p,p≠pr→R.pc p=M.pc p:=fun p e=>by rw[hpc,Gt.af _ _ _ _ e]
 have epr:R.pc pr={M.pc pr with r:= -1}:=by rw[hpc,Gt.aj]
 refine⟨htl,hpl,hkr,by rw[hqu];exact h.qu,fun p hp'=> ?_,fun p hp'=> ?_,fun y hy hy2=> ?_,fun p p' hp' hp'' e hne=> ?_,hth,fun y hy=> ?_,fun y=> ?_,fun y hy=> ?_,fun y hy=> ?_,hwl,hwt,hnd,hl,by rw[hG];exact h.gb⟩
 ·rw[hqu]
  by_cases e:p=pr
  ·rw[e,epr];exact h.sl pr hp
  ·rw[ep p e];exact h.sl p hp'
 ·by_cases e:p=pr
  ·exact .inl (by rw[e,epr])
  ·rw[ep p e]
   rcases h.r1 p hp' with q|⟨y,q1,q2,q3⟩
   ·exact .inl q
   ·refine .inr ⟨y,q1,q2,?_⟩
    rw[es y (fun e2=>e (h.r3 p pr hp' hp (by rw[q2,hr,e2]) (by omega)))]
    exact q3
 ·by_cases e:y=x
  ·rw[e,ex] at hy2;exact absurd hy2 hs2
  ·rw[es y e] at hy2
   obtain⟨p,q1,q2⟩:=h.r2 y hy hy2
   refine⟨p,q1,?_⟩
   rw[ep p (fun e2=>e (by rw[e2,hr] at q2;omega))]
   exact q2
 ·by_cases e1:p=pr
  ·rw[e1,epr] at hne;exact absurd rfl hne
  ·by_cases e2:p'=pr
   ·rw[e,e2,epr] at hne;exact absurd rfl hne
   ·rw[ep p e1,ep p' e2] at e
    rw[ep p e1] at hne
    exact h.r3 p p' hp' hp'' e hne
 ·by_cases e:y=x
  ·rw[e,ex];exact hs
  ·rw[es y e];exact h.st y hy
 ·rw[hrd,h.rd]
  by_cases e:y=x
  ·subst e
   rw[ex,hx2]
   constructor
   ·rintro(⟨_,q⟩|⟨_,q⟩)
    ·exact⟨hx,q⟩
    ·omega
   ·rintro⟨_,q⟩
    exact .inl ⟨rfl,q⟩
  ·rw[es y e]
   constructor
   ·rintro(⟨q,_⟩|q)
    ·exact absurd q e
    ·exact q
   ·exact .inr
 ·by_cases e:y=x
  ·subst e;rw[ex];exact hblx
  ·rw[es y e,hbl y hy e];exact h.bl y hy
 ·rw[hwh y hy]
  have hm:=h.sp y hy
  by_cases e:y=x
  ·subst e
   rw[ex]
   constructor
   ·intro q;exact .inl (.inl ⟨rfl,q⟩)
   ·rintro((⟨_,q⟩|q)|q)
    ·exact q
    ·have:=hm.2 (.inl q);omega
    ·have:=hm.2 (.inr q);omega
  ·rw[es y e,hm]
   constructor
   ·rintro(q|q)
    ·exact .inl (.inr q)
    ·exact .inr q
   ·rintro((⟨q,_⟩|q)|q)
    ·exact absurd q e
    ·exact .inl q
    ·exact .inr q
theorem Iv.Dr (h:Iv P n B D M) {N:Mc} {x:Nat} {D':List Nat} (hx:x<n) (hN:Cw n N R x)
  (e1:N.qu=M.qu) (e2:N.pr=M.pr) (e3:N.pc=M.pc) (e5: ∀y,y<n→y≠x→N.S y=M.S y∧N.G y=M.G y∧N.th y=M.th y) (htx:zC P N x) (hns:M.S x≠2) (hgx:N.G x≤B)
  (htl:N.gr.T.length=n) (hpl:N.pl.length=P+1) (hrd: ∀y,y≠x→(jG N y↔jG M y)) (hU: ∀y,y<n→y≠x→Uo N y=Uo M y) (hUx:Uo N x=some (-1))
  (hwh:N.wh=M.wh) (hwx: ¬ ∃it∈M.wh,it.i=x) (hD: ∀y,y∈D'↔y∈D∧y≠x) (hwt: ∀(m:Nat) y,N.gr.L[m]? =some y→ ∀t∈y.l,t<n∧Uo N t=some (m:Int)) (hnd: ∀y∈N.gr.L,y.l.Nodup) (hl:N.gr.L.length≤32):Iv P n B D' R:=by
 have es: ∀y,y<n→y≠x→R.S y=M.S y:=fun y hy e=>by rw[hN.S,Gt.af _ _ _ _ e];exact(e5 y hy e).1
 have ex:R.S x=1:=by rw[hN.S,Gt.aj]
 have epc:R.pc=M.pc:=hN.pc.trans e3
 refine⟨hN.tl.trans htl,hN.pl.trans hpl,hN.kr,by rw[hN.qu,e1];exact h.qu,by rw[epc,hN.qu,e1];exact h.sl,fun p hp=> ?_,fun y hy hy2=> ?_,by rw[epc];exact h.r3,fun y hy hs=> ?_,fun y hy=> ?_,fun y=> ?_,fun y hy=> ?_,fun y hy=> ?_,by rw[hN.wh,hwh];exact h.wl,
  fun m y hy t ht=>by rw[hN.L] at hy;rw[hN.U];exact hwt m y hy t ht,by rw[hN.L];exact hnd,by rw[hN.L];exact hl,fun y hy=> ?_⟩
 ·rw[epc]
  rcases h.r1 p hp with q|⟨y,q1,q2,q3⟩
  ·exact .inl q
  ·exact .inr ⟨y,q1,q2,by rw[es y q1 (fun e=>hns (by rw[←e];exact q3))];exact q3⟩
 ·rw[epc]
  by_cases e:y=x
  ·rw[e,ex] at hy2;cases hy2
  ·rw[es y hy e] at hy2;exact h.r2 y hy hy2
 ·by_cases e:y=x
  ·subst e
   exact⟨by rw[hN.th,Gt.aj];exact htx.p,by rw[hN.th,Gt.aj,hN.G];exact htx.g,by rw[hN.th,Gt.aj,hN.pr];exact htx.pg,by rw[hN.th,Gt.aj];exact htx.pc⟩
  ·rw[es y hy e] at hs
   have t0:=h.th y hy hs
   obtain⟨_,g2,g3⟩:=e5 y hy e
   exact⟨by rw[hN.th,Gt.af _ _ _ _ e,g3];exact t0.p,by rw[hN.th,Gt.af _ _ _ _ e,hN.G,g3,g2];exact t0.g,by rw[hN.th,Gt.af _ _ _ _ e,hN.pr,g3,e2];exact t0.pg,by rw[hN.th,Gt.af _ _ _ _ e,g3];exact t0.pc⟩
 ·by_cases e:y=x
  ·rw[e,ex];omega
  ·rw[es y hy e];exact h.st y hy
 ·rw[hN.ip]
  by_cases e:y=x
  ·subst e
   exact⟨fun _=>⟨hx,ex⟩,fun _=> .inl rfl⟩
  ·rw[hrd y e,h.rd]
   constructor
   ·rintro(q|⟨q1,q2⟩)
    ·exact absurd q e
    ·exact⟨q1,by rw[es y q1 e];exact q2⟩
   ·rintro⟨q1,q2⟩
    rw[es y q1 e] at q2
    exact .inr ⟨q1,q2⟩
 ·by_cases e:y=x
  ·subst e
   rw[ex,hN.U,hUx]
   constructor
   ·intro q;cases q
   ·intro q;exact absurd rfl q
  ·rw[es y hy e,hN.U,hU y hy e];exact h.bl y hy
 ·rw[hN.wh,hwh,hD]
  by_cases e:y=x
  ·subst e
   rw[ex]
   constructor
   ·intro q;cases q
   ·rintro(q|⟨_,q⟩)
    ·exact absurd q hwx
    ·exact absurd rfl q
  ·rw[es y hy e,h.sp y hy]
   constructor
   ·rintro(q|q)
    ·exact .inl q
    ·exact .inr ⟨q,e⟩
   ·rintro(q|⟨q,_⟩)
    ·exact .inl q
    ·exact .inr q
 ·rw[hN.G]
  by_cases e:y=x
  ·rw[e];exact hgx
  ·rw[(e5 y hy e).2.1];exact h.gb y hy
end
section
variable {P n q B:Nat} {D:List Nat} {M R:Mc}
theorem Iv.run (h:Iv P n B D M) {pr x:Nat} (hp:pr<P) (hr:(M.pc pr).r=(x:Int)):x<n∧M.S x=2:=by
 rcases h.r1 pr hp with q|⟨y,q0,q1,q2⟩
 ·omega
 ·have:y=x:=by omega
  rw[←this];exact⟨q0,q2⟩
theorem Iv.A9 (h:Iv P n B D M) {x:Nat} (hx:x<n) (hs:M.S x≠3):Uo M x=some (-1):=by
 apply Classical.byContradiction
 intro q
 exact hs ((h.bl x hx).2 q)
theorem Iv.zv (h:Iv P n B D M) {x:Nat} (hs:M.S x≠1): ¬jG M x:=fun q=>hs ((h.rd x).1 q).2
theorem Iv.Df (h:Iv P n B D M) {x:Nat} (hx:x<n) (hs:M.S x≠4):(¬ ∃it∈M.wh,it.i=x)∧x ∉ D:=⟨fun q=>hs ((h.sp x hx).2 (.inl q)),fun q=>hs ((h.sp x hx).2 (.inr q))⟩
theorem Iv.back (h:Iv P n B D M) {pr x:Nat} (hp:pr<P) (hr:(M.pc pr).r=(x:Int)):Iv P n B D (df P n q M pr x):=by
 obtain⟨hx,hx2⟩:=h.run hp hr
 have t0:=h.th x hx (by omega)
 have k:=dX (q:=q) hx hp h.pl h.kr (.inr (.inl hx2)) t0.p t0.g (h.zv (by omega))
 have hu:=h.A9 hx (by omega)
 unfold df
 generalize ready P n q M x (pr:Int)=R1 at k
 have hU: ∀y,Uo (fa R1 pr (-1)) y=Uo M y:=k.U
 refine h.leave (R:=fa R1 pr (-1)) hp hx hr (by omega) (by omega) k.S (by show Gt.au R1.pc pr _=_;rw[k.pc]) k.qu (k.tl.trans h.tl) (k.pl.trans h.pl) k.kr (fun y hy hs=> ?_) (fun y=> ?_) (fun y hy e=>hU y) ?_ (fun y hy=> ?_) (by show∀it∈R1.wh,_;rw[k.wh];exact h.wl) (fun m y hy t ht=> ?_) (by show∀y∈R1.gr.L,_;rw[k.L];exact h.nd) (by show R1.gr.L.length≤32;rw[k.L];exact h.l32) k.G
 ·have hs':R1.S y≠0:=hs
  by_cases e:y=x
  ·subst e
   exact⟨by show(R1.th y).p=_;rw[k.th,Gt.aj];exact t0.p,by show(R1.th y).g=R1.G y;rw[k.th,Gt.aj,k.G];exact t0.g,by show∃j:Nat,j<R1.pr.length∧(R1.th y).pg=_;rw[k.th,Gt.aj,k.pr];exact t0.pg,by show∃j:Nat,j<P∧(R1.th y).pc=_;rw[k.th,Gt.aj];exact t0.pc⟩
  ·rw[k.S,Gt.af _ _ _ _ e] at hs'
   have t1:=h.th y hy hs'
   exact⟨by show(R1.th y).p=_;rw[k.th,Gt.af _ _ _ _ e];exact t1.p,by show(R1.th y).g=R1.G y;rw[k.th,Gt.af _ _ _ _ e,k.G];exact t1.g,by show∃j:Nat,j<R1.pr.length∧(R1.th y).pg=_;rw[k.th,Gt.af _ _ _ _ e,k.pr];exact t1.pg,by show∃j:Nat,j<P∧(R1.th y).pc=_;rw[k.th,Gt.af _ _ _ _ e];exact t1.pc⟩
 ·have:=k.ip y
  show jG R1 y↔_
  rw[this]
  constructor
  ·rintro(q|q)
   ·exact .inl ⟨q,rfl⟩
   ·exact .inr q
  ·rintro(⟨q,_⟩|q)
   ·exact .inl q
   ·exact .inr q
 ·rw[hU x,hu]
  constructor
  ·intro q;cases q
  ·intro q;exact absurd rfl q
 ·show(∃it∈R1.wh,_)↔_
  rw[k.wh]
  constructor
  ·exact .inr
  ·rintro(⟨_,q⟩|q)
   ·cases q
   ·exact q
 ·have hy':R1.gr.L[m]? =some y:=hy
  rw[k.L] at hy'
  rw[hU t]
  exact h.wt m y hy' t ht
theorem Iv.yX (h:Iv P n B D M) {w:World} {O:Nat→Prop} {pb T pr x:Nat} {d:Int} (hpq:PQ w O pb n P q T M.pl) (hp:pr<P) (hr:(M.pc pr).r= -1) (hb:(bb P (gh M.pl) (pr:Int) d).isSome=true) (hbi:bI (gh M.pl) (bb P (gh M.pl) (pr:Int) d)=(x:Int)):Iv P n B D (bj P n M pr x d):=by
 obtain⟨y,k,hx,hbi2,hent,_,htk⟩:=iY hpq hb
 have e0:y=x:=by rw[hbi] at hbi2;omega
 subst e0
 have hS1:M.S y=1:=((h.rd y).1 ⟨k,hent⟩).2
 have t0:=h.th y hx (by omega)
 have hmv:bF n M.G M.S (M.th y).p (M.th y).g 2=Gt.au M.S y 2:=by rw[t0.p,t0.g];exact dY hx (by omega) (by rw[hS1];rfl)
 have hip: ∀z,jG (bj P n M pr y d) z↔jG M z∧z≠y:=fun z=>by
  show(∃k,eT (eE P (gh M.pl) (pr:Int) d) (z,k))↔_
  constructor
  ·rintro⟨k',hk'⟩
   have:=(htk _).1 hk'
   exact⟨⟨k',this.1⟩,this.2⟩
  ·rintro⟨⟨k',hk'⟩,e⟩
   exact⟨k',(htk _).2 ⟨hk',e⟩⟩
 have eS:(bj P n M pr y d).S=Gt.au M.S y 2:=hmv
 have es: ∀z,z≠y→(bj P n M pr y d).S z=M.S z:=fun z e=>by rw[eS,Gt.af _ _ _ _ e]
 have ex:(bj P n M pr y d).S y=2:=by rw[eS,Gt.aj]
 have ep: ∀p,p≠pr→(bj P n M pr y d).pc p=M.pc p:=fun p e=>by show Gt.au M.pc pr _ p=_;rw[Gt.af _ _ _ _ e]
 have epr:(bj P n M pr y d).pc pr=⟨(y:Int),0,false⟩:=by show Gt.au M.pc pr _ pr=_;rw[Gt.aj]
 have et: ∀z,z≠y→(bj P n M pr y d).th z=M.th z:=fun z e=>by show Gt.au M.th y _ z=_;rw[Gt.af _ _ _ _ e]
 have ety:(bj P n M pr y d).th y={M.th y with pc:=(pr:Int),lf:=(bS M (M.th y)).toNat}:=by show Gt.au M.th y _ y=_;rw[Gt.aj]
 refine⟨h.tl,(yI _ _).trans h.pl,h.kr,h.qu,fun p hp'=> ?_,fun p hp'=> ?_,fun z hz hz2=> ?_,fun p p' hp' hp'' e hne=> ?_,fun z hz hs=> ?_,fun z hz=> ?_,fun z=> ?_,fun z hz=> ?_,fun z hz=> ?_,h.wl,h.wt,h.nd,h.l32,h.gb⟩
 ·by_cases e:p=pr
  ·rw[e,epr];exact h.qu
  ·rw[ep p e];exact h.sl p hp'
 ·by_cases e:p=pr
  ·exact .inr ⟨y,hx,by rw[e,epr],ex⟩
  ·rw[ep p e]
   rcases h.r1 p hp' with q|⟨z,q1,q2,q3⟩
   ·exact .inl q
   ·exact .inr ⟨z,q1,q2,by rw[es z (fun e2=>by rw[e2] at q3;omega)];exact q3⟩
 ·by_cases e:z=y
  ·exact⟨pr,hp,by rw[epr,e]⟩
  ·rw[es z e] at hz2
   obtain⟨p,q1,q2⟩:=h.r2 z hz hz2
   exact⟨p,q1,by rw[ep p (fun e2=>by rw[e2,hr] at q2;omega)];exact q2⟩
 ·have gE: ∀p,p<P→p≠pr→((bj P n M pr y d).pc p).r≠(y:Int):=fun p hp1 e1 q=>by
   rw[ep p e1] at q
   have:=(h.run hp1 q).2
   omega
  by_cases e1:p=pr
  ·by_cases e2:p'=pr
   ·rw[e1,e2]
   ·exact absurd (by rw[←e,e1,epr]) (gE p' hp'' e2)
  ·by_cases e2:p'=pr
   ·exact absurd (by rw[e,e2,epr]) (gE p hp' e1)
   ·rw[ep p e1,ep p' e2] at e
    rw[ep p e1] at hne
    exact h.r3 p p' hp' hp'' e hne
 ·by_cases e:z=y
  ·subst e
   exact⟨by rw[ety];exact t0.p,by rw[ety];exact t0.g,by rw[ety];exact t0.pg,by rw[ety];exact⟨pr,hp,rfl⟩⟩
  ·rw[es z e] at hs
   have t1:=h.th z hz hs
   exact⟨by rw[et z e];exact t1.p,by rw[et z e];exact t1.g,by rw[et z e];exact t1.pg,by rw[et z e];exact t1.pc⟩
 ·by_cases e:z=y
  ·rw[e,ex];omega
  ·rw[es z e];exact h.st z hz
 ·rw[hip z]
  by_cases e:z=y
  ·subst e
   rw[ex]
   constructor
   ·rintro⟨_,q⟩;exact absurd rfl q
   ·rintro⟨_,q⟩;cases q
  ·rw[es z e,←h.rd z]
   exact⟨fun q=>q.1,fun q=>⟨q,e⟩⟩
 ·show _↔Uo M z≠some (-1)
  by_cases e:z=y
  ·subst e
   rw[ex,h.A9 hx (by omega)]
   constructor
   ·intro q;cases q
   ·intro q;exact absurd rfl q
  ·rw[es z e];exact h.bl z hz
 ·by_cases e:z=y
  ·subst e
   rw[ex]
   have:=h.Df hx (by omega)
   constructor
   ·intro q;cases q
   ·rintro(q|q)
    ·exact absurd q this.1
    ·exact absurd q this.2
  ·rw[es z e];exact h.sp z hz
theorem Iv.tw (h:Iv P n B D M) {L':List Pi.Lk} (hl:L'.length=M.gr.L.length) (hy: ∀(m:Nat) y,L'[m]? =some y→ ∃y0,M.gr.L[m]? =some y0∧y.l=y0.l):Iv P n B D {M with gr:=⟨M.gr.T,L'⟩}:=by
 refine⟨h.tl,h.pl,h.kr,h.qu,h.sl,h.r1,h.r2,h.r3,fun x hx hs=>(h.th x hx hs).cg rfl rfl rfl,h.st,h.rd,h.bl,h.sp,h.wl,fun m y hm t ht=> ?_,fun y hm=> ?_,by show L'.length≤32;rw[hl];exact h.l32,h.gb⟩
 ·obtain⟨y0,q1,q2⟩:=hy m y hm
  exact h.wt m y0 q1 t (by rw[←q2];exact ht)
 ·obtain⟨m,hm⟩:=List.getElem?_of_mem hm
  obtain⟨y0,q1,q2⟩:=hy m y hm
  rw[q2]
  exact h.nd y0 (List.mem_of_getElem? q1)
theorem vU {L:List Pi.Lk} {m:Nat} {y:Pi.Lk} (hm:L[m]? =some y) (u:Int): ∀(j:Nat) z,(L.set m ⟨u,y.l⟩)[j]? =some z→ ∃z0,L[j]? =some z0∧z.l=z0.l:=fun j z hz=>by
 by_cases e:m=j
 ·subst e
  rw[List.getElem?_set_self (List.getElem?_eq_some_iff.1 hm).1] at hz
  injection hz with hz
  exact⟨y,hm,by rw[←hz]⟩
 ·rw[List.getElem?_set_ne e] at hz
  exact⟨z,hz,rfl⟩
theorem Iv.free (h:Iv P n B D M) {m:Nat} {y:Pi.Lk} (hm:M.gr.L[m]? =some y) (u:Int):Iv P n B D {M with gr:=⟨M.gr.T,M.gr.L.set m ⟨u,y.l⟩⟩}:=h.tw List.length_set (vU hm u)
end
section
variable {P n q B:Nat} {D:List Nat} {M R:Mc}
theorem ra {g:Pi.Md} {t m:Int} (h: ¬Pi.dq g.T g.L t m≠0):(0≤t∧t<(g.T.length:Int))∧0≤m∧m<(g.L.length:Int):=by
 have h0:Pi.dq g.T g.L t m=0:=by omega
 unfold Pi.dq at h0
 split at h0
 ·rename_i hc
  simp only[Bool.and_eq_true] at hc
  unfold Pi.jT Pi.oz at hc
  exact⟨by simpa using hc.1,by simpa using hc.2⟩
 ·cases h0
theorem ta (g:Pi.Md) (t m:Int):((Pi.bu g t m).1.2≠0∧(Pi.bu g t m).2=g)∨(∃y,g.L[m.toNat]? =some y∧(Pi.bu g t m).1=(true,0)∧(Pi.bu g t m).2=⟨g.T,g.L.set m.toNat ⟨t,y.l⟩⟩)∨
  ∃(x:Pi.Th) (y:Pi.Lk),g.T[t.toNat]? =some x∧g.L[m.toNat]? =some y∧0≤m∧(Pi.bu g t m).1=(false,0)∧(Pi.bu g t m).2=⟨g.T.set t.toNat ⟨x.k,m⟩,g.L.set m.toNat ⟨y.h,y.l++[t.toNat]⟩⟩:=by
 unfold Pi.bu
 split
 ·rename_i hme
  exact .inl ⟨hme,rfl⟩
 ·rename_i hme
  obtain⟨⟨t0,t1⟩,m0,m1⟩:=ra hme
  have hx:g.T[t.toNat]? =some (g.T[t.toNat]'(by omega)):=List.getElem?_eq_getElem _
  have hy:g.L[m.toNat]? =some (g.L[m.toNat]'(by omega)):=List.getElem?_eq_getElem _
  rw[hx,hy]
  dsimp only
  split
  ·exact .inl ⟨(by decide:(7:Int)≠0),rfl⟩
  ·split
   ·exact .inr (.inl ⟨_,rfl,rfl,rfl⟩)
   ·split
    ·exact .inl ⟨(by decide:(8:Int)≠0),rfl⟩
    ·exact .inr (.inr ⟨_,_,rfl,rfl,m0,rfl,rfl⟩)
theorem Iv.lock (h:Iv P n B D M) {pr x:Nat} (hp:pr<P) (hr:(M.pc pr).r=(x:Int)) (l:List Ev) (ar:Int):Iv P n B D (rB n pr x M l ar).1:=by
 obtain⟨hx,hx2⟩:=h.run hp hr
 have t0:=h.th x hx (by omega)
 have hu:=h.A9 hx (by omega)
 unfold rB bf
 rcases ta M.gr (M.th x).p ar with ⟨e1,e2⟩|⟨y,hy,e1,e2⟩|⟨z,y,hz,hy,h0,e1,e2⟩
 ·rw[if_pos e1]
  show Iv P n B D {M with gr:=_}
  rw[e2]
  exact h
 ·rw[e1,if_neg (by simp),if_pos rfl]
  show Iv P n B D {M with gr:=_}
  rw[e2]
  exact h.free hy _
 ·rw[e1,if_neg (by simp),if_neg (by simp)]
  show Iv P n B D (fa {{M with gr:=(Pi.bu M.gr (M.th x).p ar).2} with S:=bF n M.G M.S (M.th x).p (M.th x).g 3} pr (-1))
  rw[e2]
  have hmv:bF n M.G M.S (M.th x).p (M.th x).g 3=Gt.au M.S x 3:=by rw[t0.p,t0.g];exact dY hx (by omega) (by rw[hx2];rfl)
  rw[hmv]
  have ex:(M.th x).p.toNat=x:=by rw[t0.p];omega
  rw[ex] at hz⊢
  obtain⟨m,rfl⟩:=Int.eq_ofNat_of_zero_le h0
  rw[show((m:Int)).toNat=m by omega] at hy⊢
  have hxt:x<M.gr.T.length:=by rw[h.tl];exact hx
  have hmlt:=(List.getElem?_eq_some_iff.1 hy).1
  have hUx:((M.gr.T.set x ⟨z.k,(m:Int)⟩)[x]?).map (·.u)=some ((m:Int)):=by rw[List.getElem?_set_self hxt];rfl
  have hUo: ∀y,y≠x→((M.gr.T.set x ⟨z.k,(m:Int)⟩)[y]?).map (·.u)=Uo M y:=fun y e=>by rw[List.getElem?_set_ne (fun q=>e q.symm)];rfl
  have hnx: ∀(j:Nat) u,M.gr.L[j]? =some u→x ∉ u.l:=fun j u hj q=>by
   have:=(h.wt j u hj x q).2
   rw[hu] at this
   injection this with this
   omega
  refine h.leave (s:=3) hp hx hr (by omega) (by omega) rfl rfl rfl (List.length_set.trans h.tl) h.pl (fun u hu'=> ?_) (fun v hv hs=>(h.th v hv (fun e=>hs ?_)).cg rfl rfl rfl) (fun v=>⟨.inr,fun q=>q.elim (fun q=>by omega) id⟩) (fun v hv e=>hUo v e) ?_ (fun v hv=>⟨.inr,fun q=>q.elim (fun q=>by omega) id⟩) h.wl (fun j u hj t ht=> ?_) (fun u hu'=> ?_) (by show(M.gr.L.set _ _).length≤32;rw[List.length_set];exact h.l32) rfl
  ·rcases List.mem_or_eq_of_mem_set hu' with q|q
   ·exact h.kr u q
   ·rw[q];exact h.kr z (List.mem_of_getElem? hz)
  ·show Gt.au M.S x 3 v=0
   by_cases e2:v=x
   ·rw[e2] at e;omega
   ·rw[Gt.af _ _ _ _ e2];exact e
  ·constructor
   ·intro _ q
    have q':((M.gr.T.set x ⟨z.k,(m:Int)⟩)[x]?).map (·.u)=some (-1):=q
    rw[hUx] at q'
    injection q' with q'
    omega
   ·intro _;rfl
  ·have hj':(M.gr.L.set m ⟨y.h,y.l++[x]⟩)[j]? =some u:=hj
   show t<n∧((M.gr.T.set x ⟨z.k,(m:Int)⟩)[t]?).map (·.u)=some (j:Int)
   by_cases e:m=j
   ·subst e
    rw[List.getElem?_set_self hmlt] at hj'
    injection hj' with hj'
    subst hj'
    rcases List.mem_append.1 ht with q|q
    ·obtain⟨q1,q2⟩:=h.wt m y hy t q
     exact⟨q1,by rw[hUo t (fun e=>hnx m y hy (e▸q))];exact q2⟩
    ·have e2:t=x:=by simpa using q
     subst e2
     exact⟨hx,hUx⟩
   ·rw[List.getElem?_set_ne e] at hj'
    obtain⟨q1,q2⟩:=h.wt j u hj' t ht
    exact⟨q1,by rw[hUo t (fun e=>hnx j u hj' (e▸ht))];exact q2⟩
  ·have hu2:u∈M.gr.L.set m ⟨y.h,y.l++[x]⟩:=hu'
   rcases List.mem_or_eq_of_mem_set hu2 with q|q
   ·exact h.nd u q
   ·rw[q]
    show(y.l++[x]).Nodup
    rw[List.nodup_append]
    refine⟨h.nd y (List.mem_of_getElem? hy),by simp,fun a ha b hb e=> ?_⟩
    have:b=x:=by simpa using hb
    exact hnx m y hy (by rw[←this,←e];exact ha)
theorem free_spec {M:Mc} {n y:Nat} (h:cm M n=some y):y<n∧M.S y=0:=by
 refine⟨mE h,?_⟩
 unfold cm at h
 cases hl:(Gt.pl M.S true n n).head? with
 |none=>rw[hl] at h;cases h
 |some z=>
  rw[hl] at h
  injection h with h
  have:=(mj n (Nat.le_refl _) z).1 (List.mem_of_mem_head? hl)
  rw[←h]
  simpa using this.2
theorem Iv.zR (h:Iv P n B D M) {y p:Nat} (hp:p<P) (hf:cm M n=some y) (pg:Int) (lv:Nat) (sv:Int) (hpg:gS M pg=true):Iv P n (B+1) D (dv P n q M y (p:Int) (cC pg lv sv)):=by
 obtain⟨hy,hy0⟩:=free_spec hf
 unfold gS at hpg
 simp only[Bool.and_eq_true,decide_eq_true_eq] at hpg
 obtain⟨k,rfl⟩:=Int.eq_ofNat_of_zero_le hpg.1
 have hk:k<M.pr.length:=by have:=hpg.2;omega
 have hB:=h.more (Nat.le_succ B)
 have hnw:=h.Df hy (by omega)
 have hni:=h.zv (x:=y) (by omega)
 have hu:=h.A9 hy (by omega)
 unfold dv
 have hS:({cM M y with th:=Gt.au M.th y {cC (k:Int) lv sv with p:=(y:Int),g:=M.G y+1}}:Mc).S y=1:=by show Gt.au M.S y 1 y=1;rw[Gt.aj]
 have htp:(({cM M y with th:=Gt.au M.th y {cC (k:Int) lv sv with p:=(y:Int),g:=M.G y+1}}:Mc).th y)={cC (k:Int) lv sv with p:=(y:Int),g:=M.G y+1}:=by show Gt.au M.th y _ y=_;rw[Gt.aj]
 have hGy:({cM M y with th:=Gt.au M.th y {cC (k:Int) lv sv with p:=(y:Int),g:=M.G y+1}}:Mc).G y=M.G y+1:=by show Gt.au M.G y _ y=_;rw[Gt.aj]
 have kk:=dX (P:=P) (n:=n) (q:=q) (M:={cM M y with th:=Gt.au M.th y {cC (k:Int) lv sv with p:=(y:Int),g:=M.G y+1}}) hy hp h.pl h.kr (.inl hS) (by rw[htp]) (by rw[htp,hGy]) hni
 refine hB.Dr hy kk rfl rfl rfl (fun v hv e=>⟨?_,?_,?_⟩) ⟨by rw[htp],by rw[htp,hGy],⟨k,hk,by rw[htp];rfl⟩,⟨0,by omega,by rw[htp];rfl⟩⟩ (by omega) (by rw[hGy];have:=h.gb y hy;omega) h.tl h.pl (fun _ _=>Iff.rfl) (fun _ _ _=>rfl) hu rfl hnw.1 (fun x=>⟨fun q=>⟨q,fun e=>hnw.2 (e▸q)⟩,fun q=>q.1⟩) h.wt h.nd h.l32
 ·show Gt.au M.S y 1 v=_;rw[Gt.af _ _ _ _ e]
 ·show Gt.au M.G y _ v=_;rw[Gt.af _ _ _ _ e]
 ·show Gt.au M.th y _ v=_;rw[Gt.af _ _ _ _ e]
theorem vX (P n q:Nat) (M:Mc) (x:Nat) (p:Int):(ready P n q M x p).pc=M.pc:=by unfold ready bN a8 bU settle;split<;>rfl
end
section
variable {P n q B:Nat} {D:List Nat} {M R:Mc}
theorem Iv.load (h:Iv P n B D M) (p:Pm):Iv P n B D {M with pr:=M.pr++[p]}:=by
 refine⟨h.tl,h.pl,h.kr,h.qu,h.sl,h.r1,h.r2,h.r3,fun y hy hs=> ?_,h.st,h.rd,h.bl,h.sp,h.wl,h.wt,h.nd,h.l32,h.gb⟩
 have t:=h.th y hy hs
 obtain⟨k,hk,e⟩:=t.pg
 exact⟨t.p,t.g,⟨k,by show k<(M.pr++[p]).length;rw[List.length_append];omega,e⟩,t.pc⟩
theorem Iv.new (P n m qu ag:Nat) (hm:m≤32) (hq:1≤qu):Iv P n 0 [] (fR P n m qu ag):=by
 have hL: ∀(j:Nat) y,(fR P n m qu ag).gr.L[j]? =some y→y.l=[]:=fun j y hy=>by
  have:=List.mem_of_getElem? hy
  have:y∈List.replicate m (⟨-1,[]⟩:Pi.Lk):=this
  rw[List.eq_of_mem_replicate this]
 refine⟨List.length_replicate,List.length_replicate,fun y hy=> ?_,hq,fun p _=>hq,fun p _=> .inl rfl,fun x _ h=>(by cases h),fun p p' _ _ _ hne=>absurd rfl hne,fun x _ h=>absurd rfl h,fun x _=>Nat.zero_le _,fun x=> ?_,fun x hx=> ?_,fun x hx=> ?_,fun it hit=>(by cases hit),fun j y hy t ht=> ?_,fun y hy=> ?_,by show(List.replicate m _).length≤32;rw[List.length_replicate];exact hm,fun x _=>Nat.le_refl _⟩
 ·have:y∈List.replicate n (⟨Ke.aP 0,-1⟩:Pi.Th):=hy
  rw[List.eq_of_mem_replicate this]
  rfl
 ·constructor
  ·rintro⟨k,i,X,hX,hm⟩
   have:X∈List.replicate (P+1) ([]:List En):=List.mem_of_getElem? hX
   rw[List.eq_of_mem_replicate this] at hm
   cases hm
  ·rintro⟨_,h⟩
   cases h
 ·have e:Uo (fR P n m qu ag) x=some (-1):=by
   show((List.replicate n (⟨Ke.aP 0,-1⟩:Pi.Th))[x]?).map (·.u)=_
   rw[List.getElem?_replicate,if_pos hx]
   rfl
  rw[e]
  constructor
  ·intro q;cases q
  ·intro q;exact absurd rfl q
 ·constructor
  ·intro q;cases q
  ·rintro(⟨it,hit,_⟩|q)
   ·cases hit
   ·cases q
 ·rw[hL j y hy] at ht
  cases ht
 ·obtain⟨j,hj⟩:=List.getElem?_of_mem hy
  rw[hL j y hj]
  exact List.nodup_nil
end
end Go.Proofs.YtjlbmmiomfpgiaaGreatDoor
namespace Go.Proofs.YtjlbmmiomfpgiaaGreatDoor
open Go.RowKit Go.Lib Go.Deep Go.ChangeShapes Go.WideShapes
theorem CB {z:Int} (h:(Lit.int .u8 z).wf=true): ∃n:Nat,z=n∧n<256:=by
 simp[Lit.wf,IntKind.min,IntKind.max,IntKind.bits,IntKind.signed] at h
 exact⟨z.toNat,by omega,by omega⟩
section
variable {H:Type} {enc:TypeId×Value→H} {w:World} {base:Nat} {spare:Nat→Bool} {held:Bool}
end
end Go.Proofs.YtjlbmmiomfpgiaaGreatDoor
namespace Go.Proofs.YtjlbmmiomfpgiaaGreatDoor
open Go.RowKit Go.Lib Go.Shelf
attribute [local go_sem ↓] Go.wp_at_zero Go.wp_at_succ
theorem wH (P n q:Nat) (M:Mc) (x:Nat) (pg:Int) (lv:Nat) (sv:Int):(bW P n q M x pg lv sv).gr.L=M.gr.L:=by
 unfold bW
 rw[kZ]
 show(bN n _ x).gr.L=_
 unfold bN
 rw[kZ]
 unfold a8 bU cM
 split<;>rfl
section
variable {w wr w':World} {ad:Ad} {P n q T T' B:Nat} {M M':Mc} {K:Nat→Prop}
end
section
variable {w wr w':World} {ad:Ad} {P n q T B s:Nat} {M:Mc}
theorem mB.goes {lab:Nat→Nat} {v:Value} {a:Ad} (h:mB w w' lab a P n q T M v):aw w w' lab a P n q T M:=by
 obtain⟨l,h1,h2,h3,_⟩:=h
 exact⟨l,h1,h2,h3⟩
theorem Al.is (h:Al w wr ad P n q T M): ∃lab,ax wr lab ad P n q T M:=by
 obtain⟨⟨lab,hi,_⟩,_⟩:=h
 exact⟨lab,hi⟩
theorem Al.qm (h:Al w wr ad P n q T M) (hG:wW M n) (pg:Int) (lv:Nat) (hlv:lv<256) (sv:Int) (hn:n≤8) (hT:T≤999999000) (hno:fF M pg sv=false) {x:Nat} (hf:cm M n=some x):
  Calls Tryz.prog 19 #[.pointer (some ⟨ad.m,0,none⟩),.int .i64 pg,.int .u8 (lv:Int),.int .i64 sv] wr fun e w'=>(∃v,e= .returned (.tuple #[v,.int .i64 0]))∧Al w w' ad P n q (T+20) (bW P n q M x pg lv sv):=
 h.call (R:=fun e _=> ∃v,e= .returned (.tuple #[v,.int .i64 0])) (fun lab hi=>(hi.qp (by omega) hG pg lv hlv sv hno x hf).mono (fun e w' ⟨v,he,_,hg⟩=>⟨⟨v,he⟩,hg.goes.oT (by omega)⟩))
end
end Go.Proofs.YtjlbmmiomfpgiaaGreatDoor
namespace Go.Proofs.YtjlbmmiomfpgiaaGreatDoor
open Go.RowKit
def Uq (G:List (List En)):Prop:= ∀(i j:Nat) (X Y:List En) (y z:En),G[i]? =some X→G[j]? =some Y→y∈X→z∈Y→y.1=z.1→i=j∧y=z
section
variable {n:Nat} {G:List (List En)} {x:Nat} {k:Ke.K}
theorem pJ {X:List En} {id:Nat} (h:(keyOf X id).isSome=true): ∃k',(id,k')∈X:=by
 apply Classical.byContradiction
 intro hno
 have:keyOf X id=none:=aZ.2 (fun z hz e=>hno ⟨z.2,by rw[←e];exact hz⟩)
 rw[this] at h
 cases h
theorem Uq.un (hu:Uq G):Un (gh G):=by
 intro i j X Y id hX hY h1 h2
 obtain⟨k1,q1⟩:=pJ h1
 obtain⟨k2,q2⟩:=pJ h2
 exact(hu i j X.M Y.M (id,k1) (id,k2) (fW hX) (fW hY) q1 q2 rfl).1
theorem sr (hx:x<n) (hr:Ke.ay k=true) (hu:Uq G):(cG n (gh G) (x:Int) k=G∧ ¬ ∃k',eT G (x,k'))∨ ∃(i:Nat) (X Y:List En),G[i]? =some X∧(∃k',(x,k')∈X)∧cG n (gh G) (x:Int) k=G.set i Y∧ ∀z,z∈Y↔(z∈X∧z.1≠x)∨z=(x,k):=by
 have hnb: ¬om n (x:Int) k:=by unfold om;rintro(q|q|q);omega;omega;rw[hr] at q;cases q
 by_cases hE: ∃k',eT G (x,k')
 ·right
  obtain⟨k',i,X,hX,hm⟩:=hE
  have hks:(keyOf X x).isSome=true:=by
   cases e:keyOf X x with
   |some _=>rfl
   |none=>exact absurd rfl (aZ.1 e _ hm)
  have hw:=fZ n (gh G) hu.un i _ (gQ hX) x hx hks
  have hc:dO n (gh G) (x:Int) k=0:=by unfold dO;rw[if_neg hnb,hw];rfl
  have ha:wV n (gh G) (x:Int)=i:=by unfold wV;rw[hw];simp
  refine⟨i,X,ft n X (x:Int) k,hX,⟨k',hm⟩,?_,fun z=> ?_⟩
  ·unfold cG
   rw[if_pos hc,cD,ha,bZ (gQ hX)]
  ·have hcc:ie n X (x:Int) k=0:=by unfold ie;rw[if_neg hnb,show((x:Int)).toNat=x from rfl,if_pos hks]
   unfold ft
   rw[if_pos hcc,show((x:Int)).toNat=x from rfl]
   split
   case isTrue hk=>
    have hin:(x,k)∈X:=by
     unfold keyOf at hk
     cases hf:X.find? (fun y=>y.1==x) with
     |none=>rw[hf] at hk;cases hk
     |some y=>
      have hy:=List.mem_of_find?_eq_some hf
      have hx1:y.1=x:=by have:=List.find?_some hf;simpa using this
      rw[hf] at hk
      have hk2:y.2=k:=by injection hk
      rw[←hx1,←hk2]
      exact hy
    constructor
    ·intro hz
     by_cases e:z.1=x
     ·exact .inr (hu i i X X z (x,k) hX hX hz hin e).2
     ·exact .inl ⟨hz,e⟩
    ·rintro(⟨hz,_⟩|rfl)
     ·exact hz
     ·exact hin
   case isFalse=>
    rw[cN,fw]
    exact⟨fun q=>q.elim .inr .inl,fun q=>q.elim .inr .inl⟩
 ·left
  refine⟨?_,hE⟩
  have hw:aH n (gh G) 0 (x:Int)=none:=dE n _ (gh G) 0 (fun i X hX _=>aZ.2 (fun y hy e=>hE ⟨y.2,i,X.M,fW hX,by have e':y.1=x:=e;rw[←e'];exact hy⟩))
  have hc: ¬dO n (gh G) (x:Int) k=0:=by unfold dO;rw[if_neg hnb,hw];simp
  unfold cG
  rw[if_neg hc,cD]
theorem xQ (hx:x<n) (hr:Ke.ay k=true) (hu:Uq G) (z:En):eT (cG n (gh G) (x:Int) k) z↔(eT G z∧z.1≠x)∨(z=(x,k)∧ ∃k',eT G (x,k')):=by
 rcases sr hx hr hu with ⟨e,hE⟩|⟨i,X,Y,hX,hin,e,hY⟩
 ·rw[e]
  constructor
  ·intro h
   exact .inl ⟨h,fun q=>hE ⟨z.2,by rw[←q];exact h⟩⟩
  ·rintro(h|⟨_,h⟩)
   ·exact h.1
   ·exact absurd h hE
 ·rw[e]
  have hil:=(List.getElem?_eq_some_iff.1 hX).1
  obtain⟨k0,hk0⟩:=hin
  constructor
  ·rintro⟨j,Z,hZ,hz⟩
   by_cases ej:j=i
   ·subst ej
    rw[List.getElem?_set_self hil] at hZ
    injection hZ with hZ
    subst hZ
    rcases(hY z).1 hz with q|q
    ·exact .inl ⟨⟨j,X,hX,q.1⟩,q.2⟩
    ·exact .inr ⟨q,k0,j,X,hX,hk0⟩
   ·rw[List.getElem?_set_ne (fun q=>ej q.symm)] at hZ
    exact .inl ⟨⟨j,Z,hZ,hz⟩,fun q=>ej (hu j i Z X z (x,k0) hZ hX hz hk0 q).1⟩
  ·rintro(⟨⟨j,Z,hZ,hz⟩,hne⟩|⟨rfl,_⟩)
   ·by_cases ej:j=i
    ·subst ej
     rw[hX] at hZ
     injection hZ with hZ
     subst hZ
     exact⟨j,Y,List.getElem?_set_self hil,(hY z).2 (.inl ⟨hz,hne⟩)⟩
    ·exact⟨j,Z,by rw[List.getElem?_set_ne (fun q=>ej q.symm)];exact hZ,hz⟩
   ·exact⟨i,Y,List.getElem?_set_self hil,(hY _).2 (.inr rfl)⟩
theorem Uq.Ds (hu:Uq G) (hx:x<n) (hr:Ke.ay k=true):Uq (cG n (gh G) (x:Int) k):=by
 rcases sr hx hr hu with ⟨e,hE⟩|⟨i,X,Y,hX,hin,e,hY⟩
 ·rw[e];exact hu
 ·rw[e]
  have hil:=(List.getElem?_eq_some_iff.1 hX).1
  obtain⟨k0,hk0⟩:=hin
  have back: ∀(j:Nat) (Z:List En) (z:En),(G.set i Y)[j]? =some Z→z∈Z→(∃Z',G[j]? =some Z'∧z∈Z'∧z.1≠x)∨(j=i∧z=(x,k)):=fun j Z z hZ hz=>by
   by_cases ej:j=i
   ·subst ej
    rw[List.getElem?_set_self hil] at hZ
    injection hZ with hZ
    subst hZ
    rcases(hY z).1 hz with q|q
    ·exact .inl ⟨X,hX,q.1,q.2⟩
    ·exact .inr ⟨rfl,q⟩
   ·rw[List.getElem?_set_ne (fun q=>ej q.symm)] at hZ
    exact .inl ⟨Z,hZ,hz,fun q=>ej (hu j i Z X z (x,k0) hZ hX hz hk0 q).1⟩
  intro a b A B y z hA hB hy hz e1
  rcases back a A y hA hy with ⟨A',h1,h2,h3⟩|⟨h1,h2⟩
  ·rcases back b B z hB hz with ⟨B',g1,g2,g3⟩|⟨g1,g2⟩
   ·exact hu a b A' B' y z h1 g1 h2 g2 e1
   ·rw[g2] at e1;exact absurd e1 h3
  ·rcases back b B z hB hz with ⟨B',g1,g2,g3⟩|⟨g1,g2⟩
   ·rw[h2] at e1;exact absurd e1.symm g3
   ·exact⟨by rw[h1,g1],by rw[h2,g2]⟩
theorem gA (M:Mc) (g:Pi.Md) (hk: ∀t:Int,Ke.ay (Pi.aR g.T g.L t)=true): ∀(l:List Nat) (G:List (List En)),(∀x∈l,x<n)→l.Nodup→Uq G→Uq (l.foldl (eW n M g) G)∧ ∀z:En,eT (l.foldl (eW n M g) G) z↔(eT G z∧ ¬(z.1∈l∧cU M n (M.th z.1)=1))∨((z.1∈l∧cU M n (M.th z.1)=1)∧z.2=Pi.aR g.T g.L (z.1:Int)∧ ∃k',eT G (z.1,k'))
 |[],G,_,_,hu=>⟨hu,fun z=>⟨fun h=> .inl ⟨h,fun q=>by cases q.1⟩,fun h=>h.elim (fun q=>q.1) (fun q=>by cases q.1.1)⟩⟩
 |x::l,G,hl,hn,hu=>by
  obtain⟨hxl,hnl⟩:=List.nodup_cons.1 hn
  have hx:=hl x (by simp)
  have hl': ∀y∈l,y<n:=fun y hy=>hl y (List.mem_cons_of_mem _ hy)
  rw[List.foldl_cons]
  by_cases hs:cU M n (M.th x)=1
  ·have e:eW n M g G x=cG n (gh G) (x:Int) (Pi.aR g.T g.L (x:Int)):=by unfold eW;rw[if_pos hs]
   obtain⟨h1,h2⟩:=gA M g hk l (eW n M g G x) hl' hnl (by rw[e];exact hu.Ds hx (hk _))
   refine⟨h1,fun z=>(h2 z).trans ?_⟩
   rw[e]
   have hc:=fun z=>xQ hx (hk (x:Int)) hu z
   have hid: ∀y,(∃k',eT (cG n (gh G) (x:Int) (Pi.aR g.T g.L (x:Int))) (y,k'))↔ ∃k',eT G (y,k'):=fun y=>rH y
   by_cases ex:z.1=x
   ·have nl: ¬z.1∈l:=by rw[ex];exact hxl
    constructor
    ·rintro(⟨q,_⟩|⟨q,_⟩)
     ·rcases(hc z).1 q with ⟨_,q2⟩|⟨q1,q2⟩
      ·exact absurd ex q2
      ·exact .inr ⟨⟨by rw[ex];simp,by rw[ex];exact hs⟩,by rw[q1],by rw[ex];exact q2⟩
     ·exact absurd q.1 nl
    ·rintro(⟨_,q⟩|⟨q,q1,q2⟩)
     ·exact absurd ⟨by rw[ex];simp,by rw[ex];exact hs⟩ q
     ·refine .inl ⟨(hc z).2 (.inr ⟨?_,by rw[ex] at q2;exact q2⟩),fun q=>nl q.1⟩
      rw[←ex,←q1]
   ·have hz:eT (cG n (gh G) (x:Int) (Pi.aR g.T g.L (x:Int))) z↔eT G z:=by
     rw[hc z]
     constructor
     ·rintro(q|⟨q,_⟩)
      ·exact q.1
      ·rw[q] at ex;exact absurd rfl ex
     ·intro q;exact .inl ⟨q,ex⟩
    rw[hz,hid z.1]
    have:z.1∈x::l↔z.1∈l:=by rw[List.mem_cons];exact⟨fun q=>q.resolve_left ex,.inr⟩
    rw[this]
  ·have e:eW n M g G x=G:=by unfold eW;rw[if_neg hs]
   rw[e]
   obtain⟨h1,h2⟩:=gA M g hk l G hl' hnl hu
   refine⟨h1,fun z=>(h2 z).trans ?_⟩
   have:(z.1∈x::l∧cU M n (M.th z.1)=1)↔(z.1∈l∧cU M n (M.th z.1)=1):=by
    rw[List.mem_cons]
    constructor
    ·rintro⟨q|q,q2⟩
     ·rw[q] at q2;exact absurd q2 hs
     ·exact⟨q,q2⟩
    ·rintro⟨q,q2⟩;exact⟨.inr q,q2⟩
   rw[this]
theorem kH {M:Mc} (hu:Uq M.pl) (hkr: ∀y∈M.gr.T,Ke.ay y.k=true) (hnd:(bc M n).Nodup) (hr: ∀x,jG M x→x<n∧M.S x≠0∧cU M n (M.th x)=1):
  Uq (settle M n).pl∧ ∀z:En,eT (settle M n).pl z↔jG M z.1∧z.2=Pi.aR (settle M n).gr.T (settle M n).gr.L (z.1:Int):=by
 have hk: ∀t:Int,Ke.ay (Pi.aR (fM M n).T (fM M n).L t)=true:=fun t=>fq (eI n M _ _ hkr) t
 obtain⟨h1,h2⟩:=gA (n:=n) M (fM M n) hk (bc M n) M.pl (fun x hx=>(dK.1 hx).1) hnd hu
 refine⟨h1,fun z=>(h2 z).trans ?_⟩
 constructor
 ·rintro(⟨q1,q2⟩|⟨_,q2,q3⟩)
  ·obtain⟨a,b,c⟩:=hr z.1 ⟨z.2,q1⟩
   exact absurd ⟨dK.2 ⟨a,b⟩,c⟩ q2
  ·exact⟨q3,q2⟩
 ·rintro⟨q1,q2⟩
  obtain⟨a,b,c⟩:=hr z.1 q1
  exact .inr ⟨⟨dK.2 ⟨a,b⟩,c⟩,q2,q1⟩
end
section
variable {P n q B:Nat} {D:List Nat} {G:List (List En)} {M:Mc}
theorem Uq.none (h: ∀z,¬eT G z):Uq G:=fun i j X Y y z hX hY hy hz e=>absurd ⟨i,X,hX,hy⟩ (h y)
theorem Uq.sub (hu:Uq G) {i:Nat} {X Y:List En} (hX:G[i]? =some X) (hs: ∀z∈Y,z∈X):Uq (G.set i Y):=by
 have hil:=(List.getElem?_eq_some_iff.1 hX).1
 have back: ∀(j:Nat) (Z:List En) (z:En),(G.set i Y)[j]? =some Z→z∈Z→ ∃Z',G[j]? =some Z'∧z∈Z':=fun j Z z hZ hz=>by
  by_cases ej:j=i
  ·subst ej
   rw[List.getElem?_set_self hil] at hZ
   injection hZ with hZ
   subst hZ
   exact⟨X,hX,hs z hz⟩
  ·rw[List.getElem?_set_ne (fun q=>ej q.symm)] at hZ
   exact⟨Z,hZ,hz⟩
 intro a b A B y z hA hB hy hz e
 obtain⟨A',h1,h2⟩:=back a A y hA hy
 obtain⟨B',g1,g2⟩:=back b B z hB hz
 exact hu a b A' B' y z h1 g1 h2 g2 e
theorem Uq.take (hu:Uq G) (p d:Int):Uq (eE P (gh G) p d):=by
 unfold eE
 split
 ·rw[cD];exact hu
 ·rename_i c hc
  rw[cD]
  cases hi:G[c]? with
  |none=>rw[List.set_eq_of_length_le (List.getElem?_eq_none_iff.1 hi)];exact hu
  |some X=>
   rw[bZ (gQ hi)]
   exact hu.sub hi (fun z hz=>List.mem_of_mem_tail hz)
theorem Uq.put (hu:Uq G) (p:Int) {id:Nat} {k:Ke.K} (hno: ∀z,eT G z→z.1≠id):Uq (dD P n q (gh G) p (id:Int) k):=by
 unfold dD
 split
 case isFalse=>rw[cD];exact hu
 case isTrue=>
  rw[cD]
  generalize ix P n q (gh G) p.toNat=i
  cases hi:G[i]? with
  |none=>rw[List.set_eq_of_length_le (List.getElem?_eq_none_iff.1 hi)];exact hu
  |some X=>
   rw[bZ (gQ hi),show((id:Int)).toNat=id from rfl]
   have hil:=(List.getElem?_eq_some_iff.1 hi).1
   have back: ∀(j:Nat) (Z:List En) (z:En),(G.set i (Go.Proofs.YtjlbmmiomfpgiaaGreatDoor.put (id,k) X))[j]? =some Z→z∈Z→(∃Z',G[j]? =some Z'∧z∈Z')∨(j=i∧z=(id,k)):=fun j Z z hZ hz=>by
    by_cases ej:j=i
    ·subst ej
     rw[List.getElem?_set_self hil] at hZ
     injection hZ with hZ
     subst hZ
     rcases cN.1 hz with q|q
     ·exact .inr ⟨rfl,q⟩
     ·exact .inl ⟨X,hi,q⟩
    ·rw[List.getElem?_set_ne (fun q=>ej q.symm)] at hZ
     exact .inl ⟨Z,hZ,hz⟩
   intro a b A B y z hA hB hy hz e
   rcases back a A y hA hy with ⟨A',h1,h2⟩|⟨h1,h2⟩
   ·rcases back b B z hB hz with ⟨B',g1,g2⟩|⟨g1,g2⟩
    ·exact hu a b A' B' y z h1 g1 h2 g2 e
    ·rw[g2] at e;exact absurd e (hno y ⟨a,A',h1,h2⟩)
   ·rcases back b B z hB hz with ⟨B',g1,g2⟩|⟨g1,g2⟩
    ·rw[h2] at e;exact absurd e.symm (hno z ⟨b,B',g1,g2⟩)
    ·exact⟨by rw[h1,g1],by rw[h2,g2]⟩
structure Ab (M:Mc) (x v:Nat):Prop where
 lv:(M.th x).lv=v
 sn:(M.th x).sn=0
 lf:(M.th x).lf≤v
 v:v<256
theorem uN {x v:Nat} (hx:x<n) (hnw:M.nw=0) (hsv:M.sv=[]) (t:zC P M x) (h:Ab M x v) (hS:M.S x≠0):de M n (M.th x)=Ke.aP (v:Int):=by
 unfold de
 rw[hsv,oL,if_neg (by simp),iD hx t.p t.g hS]
 split
 ·rw[qF hnw h.sn (by rw[h.lv];exact h.v),h.lv]
 ·split
  ·rw[h.lv]
   have:=h.lf
   rw[show max ((v:Int)) ((M.th x).lf:Int)=(v:Int) by omega]
  ·rw[h.lv]
structure Tk (P n B:Nat) (aJ:Nat→Nat) (M:Mc):Prop where
 iv:Iv P n B [] M
 uq:Uq M.pl
 kk: ∀z,eT M.pl z→z.2=Pi.aR M.gr.T M.gr.L (z.1:Int)
 ow: ∀x,x<n→M.S x≠0→Pi.eU M.gr.T x=Ke.aP (aJ x:Int)
 lv: ∀x,x<n→M.S x≠0→Ab M x (aJ x)
 nw:M.nw=0
 sv:M.sv=[]
theorem qo {S:Nat→Nat} {fr:Bool} {n:Nat}: ∀k,k≤n→(Gt.pl S fr n k).Nodup
 |0,_=>by simp[Gt.pl]
 |k+1,hk=>by
  by_cases hs:(S k==0)=fr
  ·rw[Gt.eD (by omega) hs,List.nodup_append]
   refine⟨qo k (by omega),by simp,fun a ha b hb e=> ?_⟩
   simp at hb
   subst hb e
   have:=((mj k (by omega) _).1 ha).1
   simp at this
  ·rw[Gt.iI hs];exact qo k (by omega)
theorem mY (M:Mc) (n:Nat):(bc M n).Nodup:=by
 unfold bc
 exact List.Pairwise.map _ (fun (a b:Fin n) (h:a≠b) e=>h (Fin.ext e)) (qo n (Nat.le_refl _))
theorem Tk.of {aJ:Nat→Nat} (h:Iv P n B [] M) (hu:Uq M.pl) (hl: ∀x,x<n→M.S x≠0→Ab M x (aJ x)) (hnw:M.nw=0) (hsv:M.sv=[]):Tk P n B aJ (settle M n):=by
 have kd:=dh M n
 obtain⟨h1,h2⟩:=kH (n:=n) hu h.kr (mY M n) (fun x hx=>by
  obtain⟨a,b⟩:=(h.rd x).1 hx
  have t:=h.th x a (by omega)
  exact⟨a,by omega,by rw[iD a t.p t.g (by omega)];exact b⟩)
 obtain⟨b1,b2,b3⟩:=jn n M (fun x=>de M n (M.th x)) (bc M n) M.gr (fun x hx=>by
  obtain⟨a,b⟩:=dK.1 hx
  refine⟨by rw[h.tl];exact a,rfl,?_⟩
  rw[uN a hnw hsv (h.th x a b) (hl x a b) b]
  rfl)
 refine⟨h.settle,h1,fun z hz=>((h2 z).1 hz).2,fun x hx hs=> ?_,fun x hx hs=> ?_,hnw,hsv⟩
 ·rw[kd.S] at hs
  have:=b3 x (.inl (dK.2 ⟨hx,hs⟩))
  rw[uN hx hnw hsv (h.th x hx hs) (hl x hx hs) hs] at this
  exact this
 ·have q:=hl x hx (by rw[kd.S] at hs;exact hs)
  exact⟨q.lv,q.sn,q.lf,q.v⟩
end
section
variable {P n q B:Nat} {aJ:Nat→Nat} {M:Mc}
theorem sU (hu:Uq M.pl) (hkr: ∀y∈M.gr.T,Ke.ay y.k=true):Uq (settle M n).pl:=
 (gA (n:=n) M (fM M n) (fun t=>fq (eI n M _ _ hkr) t) (bc M n) M.pl (fun x hx=>(dK.1 hx).1) (mY M n) hu).1
theorem jD (n:Nat) (M:Mc) (x:Nat):(a8 n M x).pl=M.pl:=by unfold a8 bU;split<;>rfl
theorem mQ (n:Nat) (M:Mc) (x:Nat):(a8 n M x).gr=M.gr:=by unfold a8 bU;split<;>rfl
theorem qx (n:Nat) (M:Mc) (x y:Nat):jG (bN n M x) y↔jG M y:=by
 have h:=(iZ n (a8 n M x) (fM (a8 n M x) n) y (bc (a8 n M x) n) (a8 n M x).pl).1
 have e:=jD n M x
 unfold jG
 rw[e] at h
 refine Iff.trans ?_ h
 show(∃k,eT (settle (a8 n M x) n).pl (y,k))↔_
 unfold settle
 rw[e]
theorem o6 (hu:Uq M.pl) (hkr: ∀y∈M.gr.T,Ke.ay y.k=true) {x:Nat} (hno: ¬jG M x) (p:Int):Uq (ready P n q M x p).pl:=by
 have h3:Uq (bN n M x).pl:=sU (M:=a8 n M x) (by rw[jD];exact hu) (by rw[mQ];exact hkr)
 exact h3.put p (fun z hz e=>hno ((qx n M x x).1 ⟨z.2,by
  have h2:eT (bN n M x).pl (z.1,z.2):=hz
  rw[e] at h2
  exact h2⟩))
theorem vh {x v:Nat} (hx:x<n) (hnw:M.nw=0) (hsv:M.sv=[]) (tp:(M.th x).p=(x:Int)) (tg:(M.th x).g=M.G x) (h:Ab M x v) (hS:M.S x≠0):de M n (M.th x)=Ke.aP (v:Int):=by
 unfold de
 rw[hsv,oL,if_neg (by simp),iD hx tp tg hS]
 split
 ·rw[qF hnw h.sn (by rw[h.lv];exact h.v),h.lv]
 ·split
  ·rw[h.lv]
   have:=h.lf
   rw[show max ((v:Int)) ((M.th x).lf:Int)=(v:Int) by omega]
  ·rw[h.lv]
theorem oX (i:Int) (w:Nat):Cb.iq [] i w=[]:=by unfold Cb.iq;split<;>rfl
theorem vO {x p:Nat} (k:Cw n M (ready P n q M x (p:Int)) x) (hu:Uq M.pl) (htl:M.gr.T.length=n) (hkr: ∀y∈M.gr.T,Ke.ay y.k=true) (hno: ¬jG M x) (hpl:M.pl.length=P+1) (hp:p<P) (hx:x<n)
  (hS1: ∀y,jG M y→y<n∧M.S y=1) (hth: ∀y,y<n→(ready P n q M x (p:Int)).S y≠0→((ready P n q M x (p:Int)).th y).p=(y:Int)∧((ready P n q M x (p:Int)).th y).g=(ready P n q M x (p:Int)).G y)
  (hlv: ∀y,y<n→(ready P n q M x (p:Int)).S y≠0→Ab (ready P n q M x (p:Int)) y (aJ y)) (hnw:M.nw=0) (hsv:M.sv=[]):
  (∀z,eT (ready P n q M x (p:Int)).pl z→z.2=Pi.aR (ready P n q M x (p:Int)).gr.T (ready P n q M x (p:Int)).gr.L (z.1:Int))∧ ∀y,y<n→(ready P n q M x (p:Int)).S y≠0→Pi.eU (ready P n q M x (p:Int)).gr.T y=Ke.aP (aJ y:Int):=by
 obtain⟨R,eR⟩: ∃R,ready P n q M x (p:Int)=R:=⟨_,rfl⟩
 obtain⟨N,eN⟩: ∃N,a8 n M x=N:=⟨_,rfl⟩
 have e1:R.S=N.S∧R.th=N.th∧R.G=N.G∧R.sv=N.sv∧R.nw=N.nw∧R.gr=fM N n:=by rw[←eR,←eN];exact⟨rfl,rfl,rfl,rfl,rfl,rfl⟩
 have e2:R.pl=dD P n q (gh (settle N n).pl) (p:Int) (x:Int) (Pi.aR (settle N n).gr.T (settle N n).gr.L (x:Int)):=by rw[←eR,←eN];rfl
 have eg:(settle N n).gr=R.gr:=by rw[e1.2.2.2.2.2];rfl
 have npl:N.pl=M.pl:=by rw[←eN];exact jD n M x
 have ngr:N.gr=M.gr:=by rw[←eN];exact mQ n M x
 rw[eR] at k hth hlv⊢
 have nS:N.S=Gt.au M.S x 1:=by rw[←e1.1];exact k.S
 have nnw:N.nw=0:=by rw[←e1.2.2.2.2.1,k.nw];exact hnw
 have nsv:N.sv=[]:=by
  rw[←e1.2.2.2.1,k.sv,hsv]
  split
  ·rfl
  ·exact oX _ _
 have nlv: ∀y,y<n→N.S y≠0→Ab N y (aJ y):=fun y hy hs=>by
  have:=hlv y hy (by rw[e1.1];exact hs)
  exact⟨by rw[←e1.2.1];exact this.lv,by rw[←e1.2.1];exact this.sn,by rw[←e1.2.1];exact this.lf,this.v⟩
 have nth: ∀y,y<n→N.S y≠0→(N.th y).p=(y:Int)∧(N.th y).g=N.G y:=fun y hy hs=>by
  have:=hth y hy (by rw[e1.1];exact hs)
  rw[e1.2.1,e1.2.2.1] at this
  exact this
 have zv: ∀y,jG N y→y<n∧N.S y≠0∧cU N n (N.th y)=1:=fun y hy=>by
  have hy':jG M y:=by unfold jG at hy⊢;rw[←npl];exact hy
  obtain⟨a,b⟩:=hS1 y hy'
  have hyx:y≠x:=fun e=>hno (e▸hy')
  have hs:N.S y=1:=by rw[nS,Gt.af _ _ _ _ hyx];exact b
  obtain⟨c,d⟩:=nth y a (by omega)
  exact⟨a,by omega,by rw[iD a c d (by omega)];exact hs⟩
 have nkr: ∀y∈N.gr.T,Ke.ay y.k=true:=by rw[ngr];exact hkr
 obtain⟨h1,h2⟩:=kH (n:=n) (M:=N) (by rw[npl];exact hu) nkr (mY N n) zv
 have kdN:=dh N n
 constructor
 ·intro z hz
  rw[e2] at hz
  have hno': ∀z,eT (settle N n).pl z→z.1≠x:=fun z hz e=>by
   have:=((h2 z).1 hz).1
   rw[e] at this
   unfold jG at this
   rw[npl] at this
   exact hno this
  rcases(sz (by rw[kdN.pl,npl];exact hpl) hp hx (fq (kdN.kr nkr) _) hno' z).1 hz with q|q
  ·rw[q,←eg]
  ·rw[((h2 z).1 q).2,eg]
 ·intro y hy hs
  rw[e1.1] at hs
  obtain⟨b1,b2,b3⟩:=jn n N (fun x=>de N n (N.th x)) (bc N n) N.gr (fun x hx=>by
   obtain⟨a,b⟩:=dK.1 hx
   obtain⟨c,d⟩:=nth x a b
   refine⟨by rw[ngr,htl];exact a,rfl,?_⟩
   rw[vh a nnw nsv c d (nlv x a b) b]
   rfl)
  have:=b3 y (.inl (dK.2 ⟨hy,hs⟩))
  obtain⟨c,d⟩:=nth y hy hs
  rw[vh hy nnw nsv c d (nlv y hy hs) hs] at this
  rw[e1.2.2.2.2.2]
  exact this
theorem Tk.start (h:Tk P n B aJ M) (hP:1≤P) {x:Nat} (hf:cm M n=some x) (pg:Int) (hno:fF M pg (-1)=false) (hv:aJ x<256):Tk P n (B+1) aJ (bW P n q M x pg (aJ x) (-1)):=by
 obtain⟨hx,hx0⟩:=free_spec hf
 have hpg:gS M pg=true:=by
  unfold fF at hno
  cases hc:gS M pg with
  |true=>rfl
  |false=>rw[hc] at hno;simp at hno
 have hI:=h.iv.zR (q:=q) (p:=0) (by omega) hf pg (aJ x) (-1) hpg
 have hni:=h.iv.zv (x:=x) (by omega)
 unfold bW
 have hS:({cM M x with th:=Gt.au M.th x {cC pg (aJ x) (-1) with p:=(x:Int),g:=M.G x+1}}:Mc).S x=1:=Gt.aj M.S x 1
 have k:=dX (P:=P) (n:=n) (q:=q) (M:={cM M x with th:=Gt.au M.th x {cC pg (aJ x) (-1) with p:=(x:Int),g:=M.G x+1}}) (p:=0) hx (by omega) h.iv.pl h.iv.kr (.inl hS) (congrArg Tr.p (Gt.aj M.th x _)) ((congrArg Tr.g (Gt.aj M.th x _)).trans (Gt.aj M.G x _).symm) hni
 have hI':Iv P n (B+1) [] (dv P n q M x 0 (cC pg (aJ x) (-1))):=hI
 refine Tk.of hI' ?_ (fun y hy hs=> ?_) ?_ ?_
 ·exact o6 (M:={cM M x with th:=Gt.au M.th x {cC pg (aJ x) (-1) with p:=(x:Int),g:=M.G x+1}}) h.uq h.iv.kr hni _
 ·have e:(dv P n q M x 0 (cC pg (aJ x) (-1))).th y=Gt.au (Gt.au M.th x {cC pg (aJ x) (-1) with p:=(x:Int),g:=M.G x+1}) x {(Gt.au M.th x {cC pg (aJ x) (-1) with p:=(x:Int),g:=M.G x+1}) x with sn:=M.nw,lf:=0} y:=congrFun k.th y
  have eS:(dv P n q M x 0 (cC pg (aJ x) (-1))).S y=Gt.au (Gt.au M.S x 1) x 1 y:=congrFun k.S y
  by_cases exy:y=x
  ·subst exy
   rw[Gt.aj,Gt.aj] at e
   exact⟨by rw[e];rfl,by rw[e];exact h.nw,by rw[e];exact Nat.zero_le _,hv⟩
  ·rw[Gt.af _ _ _ _ exy,Gt.af _ _ _ _ exy] at e
   rw[eS,Gt.af _ _ _ _ exy,Gt.af _ _ _ _ exy] at hs
   have q:=h.lv y hy hs
   exact⟨by rw[e];exact q.lv,by rw[e];exact q.sn,by rw[e];exact q.lf,q.v⟩
 ·exact k.nw.trans h.nw
 ·refine k.sv.trans ?_
  show(if Gt.au M.S x 1 x=2 then M.sv else Cb.iq M.sv _ _)=[]
  rw[Gt.aj,if_neg (by decide),h.sv]
  exact oX _ _
theorem Tk.yX (h:Tk P n B aJ M) {w:World} {O:Nat→Prop} {pb T pr x:Nat} {d:Int} (hpq:PQ w O pb n P q T M.pl) (hp:pr<P) (hr:(M.pc pr).r= -1) (hb:(bb P (gh M.pl) (pr:Int) d).isSome=true) (hbi:bI (gh M.pl) (bb P (gh M.pl) (pr:Int) d)=(x:Int)):Tk P n B aJ (settle (bj P n M pr x d) n):=by
 have hI:=h.iv.yX hpq hp hr hb hbi
 obtain⟨y,k,hx,hbi2,hent,_⟩:=iY hpq hb
 have e0:y=x:=by rw[hbi] at hbi2;omega
 subst e0
 have hS1:M.S y=1:=((h.iv.rd y).1 ⟨k,hent⟩).2
 have t0:=h.iv.th y hx (by omega)
 have hmv:(bj P n M pr y d).S=Gt.au M.S y 2:=by
  show bF n M.G M.S (M.th y).p (M.th y).g 2=_
  rw[t0.p,t0.g]
  exact dY hx (by omega) (by rw[hS1];rfl)
 refine Tk.of hI (h.uq.take (pr:Int) d) (fun z hz hs=> ?_) h.nw h.sv
 by_cases e:z=y
 ·subst e
  have q:=h.lv z hz (by omega)
  have eth:(bj P n M pr z d).th z={M.th z with pc:=(pr:Int),lf:=(bS M (M.th z)).toNat}:=Gt.aj M.th z _
  have ea:=qF h.nw q.sn (by rw[q.lv];exact q.v)
  exact⟨by rw[eth];exact q.lv,by rw[eth];exact q.sn,by rw[eth];show(bS M (M.th z)).toNat≤_;rw[ea,q.lv];omega,q.v⟩
 ·rw[hmv,Gt.af _ _ _ _ e] at hs
  have q:=h.lv z hz hs
  have eth:(bj P n M pr y d).th z=M.th z:=Gt.af _ _ _ _ e
  exact⟨by rw[eth];exact q.lv,by rw[eth];exact q.sn,by rw[eth];exact q.lf,q.v⟩
theorem Tk.back (h:Tk P n B aJ M) {pr x:Nat} (hp:pr<P) (hr:(M.pc pr).r=(x:Int)):Tk P n B aJ (df P n q M pr x):=by
 obtain⟨hx,hx2⟩:=h.iv.run hp hr
 have t0:=h.iv.th x hx (by omega)
 have hni:=h.iv.zv (x:=x) (by omega)
 have k:=dX (q:=q) hx hp h.iv.pl h.iv.kr (.inr (.inl hx2)) t0.p t0.g hni
 have hI:=h.iv.back (q:=q) hp hr
 have hlv: ∀y,y<n→(ready P n q M x (pr:Int)).S y≠0→Ab (ready P n q M x (pr:Int)) y (aJ y):=fun y hy hs=>by
  by_cases e:y=x
  ·subst e
   have q1:=h.lv y hy (by omega)
   have e1:(ready P n q M y (pr:Int)).th y={M.th y with sn:=M.nw,lf:=0}:=by rw[k.th,Gt.aj]
   exact⟨by rw[e1];exact q1.lv,by rw[e1];exact h.nw,by rw[e1];exact Nat.zero_le _,q1.v⟩
  ·rw[k.S,Gt.af _ _ _ _ e] at hs
   have q1:=h.lv y hy hs
   have e1:(ready P n q M x (pr:Int)).th y=M.th y:=by rw[k.th,Gt.af _ _ _ _ e]
   exact⟨by rw[e1];exact q1.lv,by rw[e1];exact q1.sn,by rw[e1];exact q1.lf,q1.v⟩
 obtain⟨k1,k2⟩:=vO (aJ:=aJ) k h.uq h.iv.tl h.iv.kr hni h.iv.pl hp hx (fun y hy=>(h.iv.rd y).1 hy) (fun y hy hs=>by
  have t:=hI.th y hy hs
  exact⟨t.p,t.g⟩) hlv h.nw h.sv
 refine⟨hI,o6 h.uq h.iv.kr hni _,k1,k2,fun y hy hs=>(by have q:=hlv y hy hs;exact⟨q.lv,q.sn,q.lf,q.v⟩),k.nw.trans h.nw,?_⟩
 show(ready P n q M x (pr:Int)).sv=[]
 rw[k.sv,if_pos hx2]
 exact h.sv
theorem Tk.same (h:Tk P n B aJ M) {R:Mc} (hI:Iv P n B [] R) (hpl:R.pl=M.pl) (hS: ∀x,x<n→R.S x≠0→M.S x≠0) (hth: ∀x,(R.th x).lv=(M.th x).lv∧(R.th x).sn=(M.th x).sn∧(R.th x).lf=(M.th x).lf) (hnw:R.nw=M.nw) (hsv:R.sv=M.sv):Tk P n B aJ (settle R n):=
 Tk.of hI (by rw[hpl];exact h.uq) (fun x hx hs=>by
  have q:=h.lv x hx (hS x hx hs)
  obtain⟨a,b,c⟩:=hth x
  exact⟨a.trans q.lv,b.trans q.sn,by rw[c];exact q.lf,q.v⟩) (hnw.trans h.nw) (hsv.trans h.sv)
end
theorem uA {w:World} {O:Nat→Prop} {pb n np q T:Nat} {G:List (List En)} (h:PQ w O pb n np q T G) {p d:Int} (hb:(bb np (gh G) p d).isSome=true):
  ∃z:En,z.1<n∧bI (gh G) (bb np (gh G) p d)=(z.1:Int)∧bK (gh G) (bb np (gh G) p d)=z.2∧eT G z∧ ∀y,eT G y→Ke.up y.2 z.2=false:=by
 obtain⟨x,k,hx,hbi,hent,hup,_⟩:=iY h hb
 obtain⟨c,hc⟩:=Option.isSome_iff_exists.1 hb
 obtain⟨z,e1,e2,hz,hw,hs⟩:=h.B6 hc
 obtain⟨_,_,y,z',M',hy,hM⟩:=lA hc
 have q1:bI (gh G) (some c)=(z'.1:Int):=by show nu (MM (gh G) c)=_;rw[bZ hy,hM];rfl
 have q2:bK (gh G) (some c)=z'.2:=by show fN (MM (gh G) c)=_;rw[bZ hy,hM];rfl
 have hG:G[c]? =some (z'::M'):=by rw[←hM];exact fW hy
 have hE:eT G z':=⟨c,_,hG,by simp⟩
 have hx1:z'.1=x:=by rw[hc,q1] at hbi;omega
 have hn:z'.1<n:=by rw[hx1];exact hx
 refine⟨z',hn,by rw[hc];exact q1,by rw[hc];exact q2,hE,fun y' hy'=> ?_⟩
 obtain⟨i,M2,hM2,hy2⟩:=hy'
 have hk:fN (MM (gh G) c)=z'.2:=by rw[bZ hy,hM];rfl
 cases hM3:M2 with
 |nil=>rw[hM3] at hy2;cases hy2
 |cons y0 M4=>
  have h0:Ke.up y0.2 z'.2=false:=by rw[←hk];exact sg h.len hc (by rw[←hM3];exact hM2)
  rw[hM3] at hy2
  rcases List.mem_cons.1 hy2 with e|e
  ·rw[e];exact h0
  ·have hf:=h.rS hM2
   rw[hM3] at hf
   exact iK ((List.pairwise_cons.1 hf).1 y' e) h0
theorem kF (a b:Nat):Ke.up (Ke.aP (a:Int)) (Ke.aP (b:Int))=decide (b<a):=by
 unfold Ke.up Ke.aP
 simp
section
variable {P n q B:Nat} {aJ:Nat→Nat} {M:Mc}
theorem Tk.key (h:Tk P n B aJ M) (ha:Pi.gH M.gr.L) {x:Nat} (hx:x<n) (hs:M.S x≠0) (hb:Pi.behind M.gr.L x=[]):Pi.aR M.gr.T M.gr.L (x:Int)=Ke.aP (aJ x:Int):=by
 rw[qI ha (by rw[h.iv.tl];exact hx) hb]
 exact h.ow x hx hs
theorem Tk.C3 (h:Tk P n B aJ M) (ha:Pi.gH M.gr.L) {x y:Nat} (hx:x<n) (hy:y<n) (hs:M.S x≠0) (hsy:M.S y≠0) (hb:Pi.behind M.gr.L x=[y]) (hby:Pi.behind M.gr.L y=[]) (hl:aJ x<aJ y):Pi.aR M.gr.T M.gr.L (x:Int)=Ke.aP (aJ y:Int):=by
 have hT:=h.iv.tl
 have e1:Pi.aR M.gr.T M.gr.L (x:Int)=Pi.keyOf M.gr.T M.gr.L x:=by
  unfold Pi.aR Pi.jT
  rw[if_pos (by simp[hT,hx])]
  rfl
 have e2:Pi.keyOf M.gr.T M.gr.L y=Ke.aP (aJ y:Int):=by
  rw[Pi.iz ha,hby]
  exact h.ow y hy hsy
 rw[e1,Pi.iz ha,hb]
 show Ke.dr (Pi.eU M.gr.T x) (Pi.keyOf M.gr.T M.gr.L y)=_
 rw[e2,h.ow x hx hs]
 unfold Ke.dr
 rw[kF,if_pos (by simpa using hl)]
theorem Tk.Bw (h:Tk P n B aJ M) {p:Nat} (hp:p<P) {x:Nat} (hx:x<n) (hs:M.S x=1) (d:Int):(bb P (gh M.pl) (p:Int) d).isSome=true:=by
 cases hb:(bb P (gh M.pl) (p:Int) d).isSome with
 |true=>rfl
 |false=>
  obtain⟨k,hk⟩:=(h.iv.rd x).2 ⟨hx,hs⟩
  exact absurd hk (sE h.iv.pl ⟨by omega,by omega⟩ hb _)
theorem Tk.Ct (h:Tk P n B aJ M) {w:World} {O:Nat→Prop} {pb T:Nat} (hpq:PQ w O pb n P q T M.pl) (hs: ∀x,x<n→M.S x≠1) (p d:Int):(bb P (gh M.pl) p d).isSome=false:=by
 cases hb:(bb P (gh M.pl) p d).isSome with
 |false=>rfl
 |true=>
  obtain⟨x,k,hx,_,he,_⟩:=iY hpq hb
  exact absurd ((h.iv.rd x).1 ⟨k,he⟩).2 (hs x hx)
theorem Tk.lS (h:Tk P n B aJ M) {w:World} {O:Nat→Prop} {pb T:Nat} (hpq:PQ w O pb n P q T M.pl) {p:Nat} (hp:p<P) (d:Int) {x:Nat} (hx:x<n) (hs:M.S x=1)
  (hup: ∀y,y<n→M.S y=1→y≠x→Ke.up (Pi.aR M.gr.T M.gr.L (x:Int)) (Pi.aR M.gr.T M.gr.L (y:Int))=true):
  (bb P (gh M.pl) (p:Int) d).isSome=true∧bI (gh M.pl) (bb P (gh M.pl) (p:Int) d)=(x:Int)∧bK (gh M.pl) (bb P (gh M.pl) (p:Int) d)=Pi.aR M.gr.T M.gr.L (x:Int):=by
 have hb:=h.Bw hp hx hs d
 obtain⟨z,hz,e1,e2,he,hu⟩:=uA hpq hb
 obtain⟨k,hk⟩:=(h.iv.rd x).2 ⟨hx,hs⟩
 have hzx:z.1=x:=by
  apply Classical.byContradiction
  intro hne
  have q1:=hu (x,k) hk
  have q2:=hup z.1 hz ((h.iv.rd z.1).1 ⟨z.2,he⟩).2 hne
  have q3:=h.kk _ hk
  have q4:=h.kk _ he
  rw[q4] at q1
  have q5:k=Pi.aR M.gr.T M.gr.L (x:Int):=q3
  rw[q5] at q1
  have q6:Ke.up (Pi.aR M.gr.T M.gr.L (x:Int)) (Pi.aR M.gr.T M.gr.L (z.1:Int))=false:=q1
  rw[q2] at q6
  cases q6
 exact⟨hb,by rw[e1,hzx],by rw[e2,h.kk _ he,hzx]⟩
end
theorem jq {g:Pi.Md} {t m:Nat} {x:Pi.Th} {y:Pi.Lk} (hx:g.T[t]? =some x) (hy:g.L[m]? =some y) (hu:x.u= -1) (hh:y.h= -1):Pi.bu g (t:Int) (m:Int)=((true,0),⟨g.T,g.L.set m ⟨(t:Int),y.l⟩⟩):=by
 have ht:=(List.getElem?_eq_some_iff.1 hx).1
 have hm:=(List.getElem?_eq_some_iff.1 hy).1
 have he:Pi.dq g.T g.L (t:Int) (m:Int)=0:=by
  unfold Pi.dq Pi.iJ Pi.jT Pi.oz
  rw[show((t:Int)).toNat=t from rfl,hx]
  simp[ht,hm,hu]
 unfold Pi.bu
 rw[if_neg (by rw[he];simp),show((t:Int)).toNat=t from rfl,show((m:Int)).toNat=m from rfl,hx,hy]
 simp only
 rw[if_neg (by rw[hh];omega),if_pos hh]
theorem pS {g:Pi.Md} {t m h:Nat} {x:Pi.Th} {y:Pi.Lk} (hx:g.T[t]? =some x) (hy:g.L[m]? =some y) (hu:x.u= -1) (hh:y.h=(h:Int)) (hne:h≠t) (hl: ¬Pi.cT g.L h t):Pi.bu g (t:Int) (m:Int)=((false,0),⟨g.T.set t ⟨x.k,(m:Int)⟩,g.L.set m ⟨y.h,y.l++[t]⟩⟩):=by
 have ht:=(List.getElem?_eq_some_iff.1 hx).1
 have hm:=(List.getElem?_eq_some_iff.1 hy).1
 have he:Pi.dq g.T g.L (t:Int) (m:Int)=0:=by
  unfold Pi.dq Pi.iJ Pi.jT Pi.oz
  rw[show((t:Int)).toNat=t from rfl,hx]
  simp[ht,hm,hu]
 unfold Pi.bu
 rw[if_neg (by rw[he];simp),show((t:Int)).toNat=t from rfl,show((m:Int)).toNat=m from rfl,hx,hy]
 simp only
 rw[if_neg (by rw[hh];omega),if_neg (by rw[hh];omega),if_neg (by rw[hh];exact hl)]
section
variable {P n q B:Nat} {M:Mc}
structure zU (M R:Mc) (x:Nat):Prop where
 S: ∀y,y≠x→R.S y=M.S y
 th: ∀y,y≠x→R.th y=M.th y
 pr:R.pr=M.pr
theorem gV (h:Iv P n B [] M) (hP:1≤P) {x:Nat} (hf:cm M n=some x) (pg:Int) (lv:Nat):zU M (bW P n q M x pg lv (-1)) x∧(bW P n q M x pg lv (-1)).S x=1∧(bW P n q M x pg lv (-1)).pc=M.pc∧(bW P n q M x pg lv (-1)).gr.L=M.gr.L∧((bW P n q M x pg lv (-1)).th x).pg=pg∧((bW P n q M x pg lv (-1)).th x).ia=0∧((bW P n q M x pg lv (-1)).th x).il=0:=by
 obtain⟨hx,hx0⟩:=free_spec hf
 have hni:=h.zv (x:=x) (by omega)
 have hS:({cM M x with th:=Gt.au M.th x {cC pg lv (-1) with p:=(x:Int),g:=M.G x+1}}:Mc).S x=1:=Gt.aj M.S x 1
 have k:=dX (P:=P) (n:=n) (q:=q) (M:={cM M x with th:=Gt.au M.th x {cC pg lv (-1) with p:=(x:Int),g:=M.G x+1}}) (p:=0) hx (by omega) h.pl h.kr (.inl hS) (congrArg Tr.p (Gt.aj M.th x _)) ((congrArg Tr.g (Gt.aj M.th x _)).trans (Gt.aj M.G x _).symm) hni
 have kd:=dh (dv P n q M x 0 (cC pg lv (-1))) n
 have e:bW P n q M x pg lv (-1)=settle (dv P n q M x 0 (cC pg lv (-1))) n:=rfl
 have eth: ∀y,(bW P n q M x pg lv (-1)).th y=Gt.au (Gt.au M.th x {cC pg lv (-1) with p:=(x:Int),g:=M.G x+1}) x {(Gt.au M.th x {cC pg lv (-1) with p:=(x:Int),g:=M.G x+1}) x with sn:=M.nw,lf:=0} y:=fun y=>congrFun k.th y
 have eS: ∀y,(bW P n q M x pg lv (-1)).S y=Gt.au (Gt.au M.S x 1) x 1 y:=fun y=>congrFun k.S y
 have ex:(bW P n q M x pg lv (-1)).th x={cC pg lv (-1) with p:=(x:Int),g:=M.G x+1,sn:=M.nw,lf:=0}:=by
  rw[eth,Gt.aj,Gt.aj]
 refine⟨⟨fun y hy=> ?_,fun y hy=> ?_,k.pr⟩,?_,k.pc,wH P n q M x pg lv (-1),?_,?_,?_⟩
 ·rw[eS,Gt.af _ _ _ _ hy,Gt.af _ _ _ _ hy]
 ·rw[eth,Gt.af _ _ _ _ hy,Gt.af _ _ _ _ hy]
 ·rw[eS,Gt.aj]
 ·rw[ex];rfl
 ·rw[ex];rfl
 ·rw[ex];rfl
theorem lU {pr x:Nat} (t:zC P M x) (hx:x<n) (hs:M.S x=1) (d:Int):zU M (settle (bj P n M pr x d) n) x∧(settle (bj P n M pr x d) n).S x=2∧(settle (bj P n M pr x d) n).pc pr=⟨(x:Int),0,false⟩∧(settle (bj P n M pr x d) n).gr.L=M.gr.L∧((settle (bj P n M pr x d) n).th x).pg=(M.th x).pg∧((settle (bj P n M pr x d) n).th x).ia=(M.th x).ia∧((settle (bj P n M pr x d) n).th x).il=(M.th x).il:=by
 have kd:=dh (bj P n M pr x d) n
 have hmv:(bj P n M pr x d).S=Gt.au M.S x 2:=by
  show bF n M.G M.S (M.th x).p (M.th x).g 2=_
  rw[t.p,t.g]
  exact dY hx (by omega) (by rw[hs];rfl)
 have eth:(settle (bj P n M pr x d) n).th x={M.th x with pc:=(pr:Int),lf:=(bS M (M.th x)).toNat}:=Gt.aj M.th x _
 refine⟨⟨fun y hy=> ?_,fun y hy=>Gt.af _ _ _ _ hy,rfl⟩,?_,Gt.aj M.pc pr _,kd.L,by rw[eth],by rw[eth],by rw[eth]⟩
 ·rw[kd.S,hmv,Gt.af _ _ _ _ hy]
 ·rw[kd.S,hmv,Gt.aj]
theorem ud (h:Iv P n B [] M) {pr x:Nat} (hp:pr<P) (hr:(M.pc pr).r=(x:Int)):zU M (df P n q M pr x) x∧(df P n q M pr x).S x=1∧((df P n q M pr x).pc pr).r= -1∧(df P n q M pr x).gr.L=M.gr.L∧((df P n q M pr x).th x).pg=(M.th x).pg∧((df P n q M pr x).th x).ia=(M.th x).ia∧((df P n q M pr x).th x).il=(M.th x).il:=by
 obtain⟨hx,hx2⟩:=h.run hp hr
 have t0:=h.th x hx (by omega)
 have k:=dX (q:=q) hx hp h.pl h.kr (.inr (.inl hx2)) t0.p t0.g (h.zv (by omega))
 have eth:(df P n q M pr x).th x={M.th x with sn:=M.nw,lf:=0}:=by
  show(ready P n q M x (pr:Int)).th x=_
  rw[k.th,Gt.aj]
 refine⟨⟨fun y hy=> ?_,fun y hy=> ?_,k.pr⟩,?_,Au P n q M pr x,k.L,by rw[eth],by rw[eth],by rw[eth]⟩
 ·show(ready P n q M x (pr:Int)).S y=_
  rw[k.S,Gt.af _ _ _ _ hy]
 ·show(ready P n q M x (pr:Int)).th y=_
  rw[k.th,Gt.af _ _ _ _ hy]
 ·show(ready P n q M x (pr:Int)).S x=_
  rw[k.S,Gt.aj]
end
def iO (j:Nat):Int:=if j=0 then 2 else if j=1 then 1 else if j=2 then 3 else 9
def iR (j:Nat):Int:=if j=1 then 2 else 0
def pI:Pm:=⟨4,iO,iR⟩
def fz (M:Mc) (x:Nat):Prop:=(M.th x).pg=0∧(M.th x).ia=0∧(M.th x).il=0
structure Ih (B:Nat) (aJ:Nat→Nat) (s0 s1 s2:Nat) (r h:Int) (l:List Nat) (M:Mc):Prop where
 tk:Tk 1 8 B aJ M
 s0:M.S 0=s0
 s1:M.S 1=s1
 s2:M.S 2=s2
 so: ∀x,3≤x→x<8→M.S x=0
 r:(M.pc 0).r=r
 m:(M.pc 0).m=false
 L:M.gr.L=⟨h,l⟩::Pi.ic 3
 pr:M.pr=[pI,⟨1,xO,xR⟩]
theorem fx (h:Int) (l:List Nat) (x:Nat):Pi.behind (⟨h,l⟩::Pi.ic 3) x=if h=(x:Int) then l else []:=by
 have h1: ¬(-1:Int)=(x:Int):=by omega
 unfold Pi.behind Pi.ic
 by_cases e:h=(x:Int)
 ·rw[if_pos e]
  simp[List.replicate,e,h1]
 ·rw[if_neg e]
  simp[List.replicate,e,h1]
theorem kD {h:Int} {l:List Nat} {t s:Nat} (e:Pi.Edge (⟨h,l⟩::Pi.ic 3) t s):t∈l∧h=(s:Int):=by
 obtain⟨y,hy,h1,h2⟩:=e
 rcases List.mem_cons.1 hy with q|q
 ·rw[q] at h1 h2;exact⟨h1,h2⟩
 ·have:y=⟨-1,[]⟩:=List.eq_of_mem_replicate q
  rw[this] at h1
  cases h1
theorem tv (h:Int):Pi.gH (⟨h,[]⟩::Pi.ic 3):=⟨0,fun _=>0,fun _=>Nat.le_refl _,fun t s e=>by have:=(kD e).1;cases this⟩
theorem ox:Pi.gH (⟨0,[1]⟩::Pi.ic 3):=⟨1,fun x=>if x=1 then 0 else 1,fun x=>by show(if x=1 then 0 else 1)≤1;split<;>omega,fun t s e=>by
 obtain⟨q1,q2⟩:=kD e
 have ht:t=1:=by simpa using q1
 have hs:s=0:=by omega
 subst ht hs
 decide⟩
section
variable {B:Nat} {aJ:Nat→Nat} {s0 s1 s2:Nat} {r h:Int} {l:List Nat} {M:Mc}
theorem Ih.free {x:Nat} (i:Ih B aJ s0 s1 s2 r h l M) (hx:x<8) (hb: ∀y,y<x→M.S y≠0) (h0:M.S x=0):cm M 8=some x:=ue hx hb h0
theorem Ih.no (i:Ih B aJ s0 s1 s2 r h l M) (pg:Int) (hp:pg=0∨pg=1):fF M pg (-1)=false:=by
 unfold fF gS
 rw[i.pr,i.tk.sv]
 rcases hp with e|e<;>rw[e]<;>rfl
theorem Ih.AP (i:Ih B aJ 0 0 0 r h l M) (hv:aJ 0<256):cm M 8=some 0∧Ih (B+1) aJ 1 0 0 r h l (bW 1 8 8 M 0 0 (aJ 0) (-1))∧fz (bW 1 8 8 M 0 0 (aJ 0) (-1)) 0:=by
 have hf:=i.free (x:=0) (by decide) (fun y hy=>absurd hy (by omega)) i.s0
 obtain⟨k,kS,kp,kL,kf⟩:=gV (q:=8) i.tk.iv (by decide) hf 0 (aJ 0)
 exact⟨hf,⟨i.tk.start (by decide) hf 0 (i.no 0 (.inl rfl)) hv,kS,(k.S 1 (by decide)).trans i.s1,(k.S 2 (by decide)).trans i.s2,fun x h3 h8=>(k.S x (by omega)).trans (i.so x h3 h8),by rw[kp];exact i.r,by rw[kp];exact i.m,kL.trans i.L,k.pr.trans i.pr⟩,kf⟩
theorem Ih.oj (i:Ih B aJ s0 0 0 r h l M) (hs:s0≠0) (hv:aJ 1<256):cm M 8=some 1∧Ih (B+1) aJ s0 1 0 r h l (bW 1 8 8 M 1 0 (aJ 1) (-1))∧fz (bW 1 8 8 M 1 0 (aJ 1) (-1)) 1:=by
 have hf:=i.free (x:=1) (by decide) (fun y hy=>by rw[show y=0 by omega,i.s0];exact hs) i.s1
 obtain⟨k,kS,kp,kL,kf⟩:=gV (q:=8) i.tk.iv (by decide) hf 0 (aJ 1)
 exact⟨hf,⟨i.tk.start (by decide) hf 0 (i.no 0 (.inl rfl)) hv,(k.S 0 (by decide)).trans i.s0,kS,(k.S 2 (by decide)).trans i.s2,fun x h3 h8=>(k.S x (by omega)).trans (i.so x h3 h8),by rw[kp];exact i.r,by rw[kp];exact i.m,kL.trans i.L,k.pr.trans i.pr⟩,kf⟩
theorem Ih.zX (i:Ih B aJ s0 s1 0 r h l M) (hs:s0≠0) (hs1:s1≠0) (hv:aJ 2<256):cm M 8=some 2∧Ih (B+1) aJ s0 s1 1 r h l (bW 1 8 8 M 2 1 (aJ 2) (-1)):=by
 have hf:=i.free (x:=2) (by decide) (fun y hy=>by
  rcases(show y=0∨y=1 by omega) with e|e
  ·rw[e,i.s0];exact hs
  ·rw[e,i.s1];exact hs1) i.s2
 obtain⟨k,kS,kp,kL,kf⟩:=gV (q:=8) i.tk.iv (by decide) hf 1 (aJ 2)
 exact⟨hf,i.tk.start (by decide) hf 1 (i.no 1 (.inr rfl)) hv,(k.S 0 (by decide)).trans i.s0,(k.S 1 (by decide)).trans i.s1,kS,fun x h3 h8=>(k.S x (by omega)).trans (i.so x h3 h8),by rw[kp];exact i.r,by rw[kp];exact i.m,kL.trans i.L,k.pr.trans i.pr⟩
theorem Ih.key (i:Ih B aJ s0 s1 s2 r h [] M) {x:Nat} (hx:x<8) (hs:M.S x≠0):Pi.aR M.gr.T M.gr.L (x:Int)=Ke.aP (aJ x:Int):=
 i.tk.key (by rw[i.L];exact tv h) hx hs (by rw[i.L,fx];split<;>rfl)
theorem Ih.BK (i:Ih B aJ s0 s1 s2 r 0 [1] M) {x:Nat} (hx:x<8) (hs:M.S x≠0) (h0:x≠0):Pi.aR M.gr.T M.gr.L (x:Int)=Ke.aP (aJ x:Int):=
 i.tk.key (by rw[i.L];exact ox) hx hs (by rw[i.L,fx,if_neg (by omega)])
theorem Ih.Bv (i:Ih B aJ s0 s1 s2 r 0 [1] M) (hs:s0≠0) (hs1:s1≠0) (hl:aJ 0<aJ 1):Pi.aR M.gr.T M.gr.L ((0:Nat):Int)=Ke.aP (aJ 1:Int):=
 i.tk.C3 (y:=1) (by rw[i.L];exact ox) (by decide) (by decide) (by rw[i.s0];exact hs) (by rw[i.s1];exact hs1) (by rw[i.L,fx];rfl) (by rw[i.L,fx];rfl) hl
theorem Ih.at (i:Ih B aJ s0 s1 s2 r h l M) {y:Nat} (hy:y<8) (hs:M.S y=1):(y=0∧s0=1)∨(y=1∧s1=1)∨(y=2∧s2=1):=by
 rcases(show y=0∨y=1∨y=2∨3≤y by omega) with e|e|e|e
 ·exact .inl ⟨e,by subst e;exact i.s0.symm.trans hs⟩
 ·exact .inr (.inl ⟨e,by subst e;exact i.s1.symm.trans hs⟩)
 ·exact .inr (.inr ⟨e,by subst e;exact i.s2.symm.trans hs⟩)
 ·rw[i.so y e hy] at hs;cases hs
theorem Ih.zw (i:Ih B aJ 1 s1 s2 (-1) h l M) {w:World} {O:Nat→Prop} {pb T:Nat} (hpq:PQ w O pb 8 1 8 T M.pl) (d:Int) (hup: ∀y,y<8→M.S y=1→y≠0→Ke.up (Pi.aR M.gr.T M.gr.L ((0:Nat):Int)) (Pi.aR M.gr.T M.gr.L (y:Int))=true):
  ((bb 1 (gh M.pl) ((0:Nat):Int) d).isSome=true∧bI (gh M.pl) (bb 1 (gh M.pl) ((0:Nat):Int) d)=((0:Nat):Int))∧Ih B aJ 2 s1 s2 0 h l (settle (bj 1 8 M 0 0 d) 8)∧(fz M 0→fz (settle (bj 1 8 M 0 0 d) 8) 0):=by
 obtain⟨hb,hbi,_⟩:=i.tk.lS hpq (p:=0) (by decide) d (x:=0) (by decide) i.s0 hup
 have t:=i.tk.iv.th 0 (by decide) (by rw[i.s0];decide)
 obtain⟨k,kS,kp,kL,k1,k2,k3⟩:=lU (n:=8) (pr:=0) t (by decide) i.s0 d
 exact⟨⟨hb,hbi⟩,⟨i.tk.yX hpq (by decide) i.r hb hbi,kS,(k.S 1 (by decide)).trans i.s1,(k.S 2 (by decide)).trans i.s2,fun x h3 h8=>(k.S x (by omega)).trans (i.so x h3 h8),by rw[kp];rfl,by rw[kp],kL.trans i.L,k.pr.trans i.pr⟩,fun ⟨f1,f2,f3⟩=>⟨k1.trans f1,k2.trans f2,k3.trans f3⟩⟩
theorem Ih.Br (i:Ih B aJ s0 1 s2 (-1) h l M) {w:World} {O:Nat→Prop} {pb T:Nat} (hpq:PQ w O pb 8 1 8 T M.pl) (d:Int) (hup: ∀y,y<8→M.S y=1→y≠1→Ke.up (Pi.aR M.gr.T M.gr.L ((1:Nat):Int)) (Pi.aR M.gr.T M.gr.L (y:Int))=true):
  ((bb 1 (gh M.pl) ((0:Nat):Int) d).isSome=true∧bI (gh M.pl) (bb 1 (gh M.pl) ((0:Nat):Int) d)=((1:Nat):Int))∧Ih B aJ s0 2 s2 1 h l (settle (bj 1 8 M 0 1 d) 8)∧(fz M 1→fz (settle (bj 1 8 M 0 1 d) 8) 1):=by
 obtain⟨hb,hbi,_⟩:=i.tk.lS hpq (p:=0) (by decide) d (x:=1) (by decide) i.s1 hup
 have t:=i.tk.iv.th 1 (by decide) (by rw[i.s1];decide)
 obtain⟨k,kS,kp,kL,k1,k2,k3⟩:=lU (n:=8) (pr:=0) t (by decide) i.s1 d
 exact⟨⟨hb,hbi⟩,⟨i.tk.yX hpq (by decide) i.r hb hbi,(k.S 0 (by decide)).trans i.s0,kS,(k.S 2 (by decide)).trans i.s2,fun x h3 h8=>(k.S x (by omega)).trans (i.so x h3 h8),by rw[kp];rfl,by rw[kp],kL.trans i.L,k.pr.trans i.pr⟩,fun ⟨f1,f2,f3⟩=>⟨k1.trans f1,k2.trans f2,k3.trans f3⟩⟩
theorem Ih.back (i:Ih B aJ 2 s1 s2 0 h l M):Ih B aJ 1 s1 s2 (-1) h l (df 1 8 8 M 0 0)∧(fz M 1→fz (df 1 8 8 M 0 0) 1):=by
 obtain⟨k,kS,kp,kL,_⟩:=ud (q:=8) i.tk.iv (pr:=0) (x:=0) (by decide) i.r
 refine⟨⟨i.tk.back (by decide) i.r,kS,(k.S 1 (by decide)).trans i.s1,(k.S 2 (by decide)).trans i.s2,fun x h3 h8=>(k.S x (by omega)).trans (i.so x h3 h8),kp,?_,kL.trans i.L,k.pr.trans i.pr⟩,fun f=> ?_⟩
 ·show(Gt.au (ready 1 8 8 M 0 0).pc 0 _ 0).m=false
  rw[Gt.aj]
  show((ready 1 8 8 M 0 0).pc 0).m=false
  rw[vX]
  exact i.m
 ·unfold fz
  rw[k.th 1 (by decide)]
  exact f
theorem Ih.Di (i:Ih B aJ 2 s1 s2 0 (-1) [] M) (u v:Int):(Pi.bu (dt M 0 u v).gr ((dt M 0 u v).th 0).p 0).1=(true,0)∧Ih B aJ 2 s1 s2 0 0 [] (settle (bf (dt M 0 u v) 0 0) 8):=by
 have hI:Iv 1 8 B [] (dt M 0 u v):=i.tk.iv.zy 0 _ rfl rfl rfl rfl
 have t:=hI.th 0 (by decide) (by show M.S 0≠0;rw[i.s0];decide)
 have hu:=hI.A9 (x:=0) (by decide) (by show M.S 0≠3;rw[i.s0];decide)
 unfold Uo at hu
 cases hx:(dt M 0 u v).gr.T[0]? with
 |none=>rw[hx] at hu;cases hu
 |some x=>
  rw[hx] at hu
  have hu':x.u= -1:=by injection hu
  have hL:(dt M 0 u v).gr.L[0]? =some ⟨-1,[]⟩:=by show M.gr.L[0]? =_;rw[i.L];rfl
  have e:=jq (m:=0) hx hL hu' rfl
  have ep:((dt M 0 u v).th 0).p=((0:Nat):Int):=t.p
  have e':Pi.bu (dt M 0 u v).gr ((dt M 0 u v).th 0).p 0=((true,0),⟨(dt M 0 u v).gr.T,(dt M 0 u v).gr.L.set 0 ⟨((0:Nat):Int),[]⟩⟩):=by rw[ep];exact e
  have hI2:Iv 1 8 B [] (bf (dt M 0 u v) 0 0):=by
   have:=hI.lock (pr:=0) (x:=0) (by decide) i.r [] 0
   unfold rB at this
   rw[e'] at this
   exact this
  have kd:=dh (bf (dt M 0 u v) 0 0) 8
  refine⟨by rw[e'],⟨i.tk.same hI2 rfl (fun x _ h=>h) (fun x=> ?_) rfl rfl,by rw[kd.S];exact i.s0,by rw[kd.S];exact i.s1,by rw[kd.S];exact i.s2,by rw[kd.S];exact i.so,by rw[kd.pc];exact i.r,by rw[kd.pc];exact i.m,?_,by rw[kd.pr];exact i.pr⟩⟩
  ·show((Gt.au M.th 0 _ x).lv=_∧(Gt.au M.th 0 _ x).sn=_∧(Gt.au M.th 0 _ x).lf=_)
   by_cases ex:x=0
   ·subst ex;rw[Gt.aj];exact⟨rfl,rfl,rfl⟩
   ·rw[Gt.af _ _ _ _ ex];exact⟨rfl,rfl,rfl⟩
  ·rw[kd.L]
   show(Pi.bu (dt M 0 u v).gr ((dt M 0 u v).th 0).p 0).2.L=_
   rw[e']
   show M.gr.L.set 0 _=_
   rw[i.L]
   rfl
theorem Ih.wait (i:Ih B aJ 1 2 s2 1 0 [] M) (u v:Int):(Pi.bu (dt M 1 u v).gr ((dt M 1 u v).th 1).p 0).1=(false,0)∧Ih B aJ 1 3 s2 (-1) 0 [1] (settle (fa {bf (dt M 1 u v) 1 0 with S:=bF 8 (dt M 1 u v).G (dt M 1 u v).S ((dt M 1 u v).th 1).p ((dt M 1 u v).th 1).g 3} 0 (-1)) 8):=by
 have hI:Iv 1 8 B [] (dt M 1 u v):=i.tk.iv.zy 1 _ rfl rfl rfl rfl
 have t:=hI.th 1 (by decide) (by show M.S 1≠0;rw[i.s1];decide)
 have hu:=hI.A9 (x:=1) (by decide) (by show M.S 1≠3;rw[i.s1];decide)
 unfold Uo at hu
 cases hx:(dt M 1 u v).gr.T[1]? with
 |none=>rw[hx] at hu;cases hu
 |some x=>
  rw[hx] at hu
  have hu':x.u= -1:=by injection hu
  have hL:(dt M 1 u v).gr.L[0]? =some ⟨0,[]⟩:=by show M.gr.L[0]? =_;rw[i.L];rfl
  have hnl: ¬Pi.cT (dt M 1 u v).gr.L 0 1:=by
   intro q
   cases q with
   |on e _=>
    have hLL:(dt M 1 u v).gr.L=⟨0,[]⟩::Pi.ic 3:=i.L
    rw[hLL] at e
    have:=(kD e).1
    cases this
  have e:=pS (m:=0) (h:=0) hx hL hu' rfl (by decide) hnl
  have ep:((dt M 1 u v).th 1).p=((1:Nat):Int):=t.p
  have e':Pi.bu (dt M 1 u v).gr ((dt M 1 u v).th 1).p 0=((false,0),⟨(dt M 1 u v).gr.T.set 1 ⟨x.k,((0:Nat):Int)⟩,(dt M 1 u v).gr.L.set 0 ⟨0,[]++[1]⟩⟩):=by rw[ep];exact e
  have hmv:bF 8 (dt M 1 u v).G (dt M 1 u v).S ((dt M 1 u v).th 1).p ((dt M 1 u v).th 1).g 3=Gt.au M.S 1 3:=by
   rw[t.p,t.g]
   exact dY (by decide) (by show M.S 1≠0;rw[i.s1];decide) (by show Gt.jZ (M.S 1) 3=true;rw[i.s1];rfl)
  have hI2:Iv 1 8 B [] (fa {bf (dt M 1 u v) 1 0 with S:=bF 8 (dt M 1 u v).G (dt M 1 u v).S ((dt M 1 u v).th 1).p ((dt M 1 u v).th 1).g 3} 0 (-1)):=by
   have:=hI.lock (pr:=0) (x:=1) (by decide) i.r [] 0
   unfold rB at this
   rw[e',if_neg (by simp),if_neg (by simp)] at this
   exact this
  rw[hmv] at hI2⊢
  have kd:=dh (fa {bf (dt M 1 u v) 1 0 with S:=Gt.au M.S 1 3} 0 (-1)) 8
  refine⟨by rw[e'],⟨i.tk.same hI2 rfl (fun x hx h=> ?_) (fun x=> ?_) rfl rfl,?_,?_,?_,fun x h3 h8=> ?_,?_,?_,?_,by rw[kd.pr];exact i.pr⟩⟩
  ·by_cases ex:x=1
   ·rw[ex,i.s1];decide
   ·have h':Gt.au M.S 1 3 x≠0:=h
    rw[Gt.af _ _ _ _ ex] at h'
    exact h'
  ·show((Gt.au M.th 1 _ x).lv=_∧(Gt.au M.th 1 _ x).sn=_∧(Gt.au M.th 1 _ x).lf=_)
   by_cases ex:x=1
   ·subst ex;rw[Gt.aj];exact⟨rfl,rfl,rfl⟩
   ·rw[Gt.af _ _ _ _ ex];exact⟨rfl,rfl,rfl⟩
  ·rw[kd.S];show Gt.au M.S 1 3 0=1;rw[Gt.af _ _ _ _ (by decide)];exact i.s0
  ·rw[kd.S];show Gt.au M.S 1 3 1=3;rw[Gt.aj]
  ·rw[kd.S];show Gt.au M.S 1 3 2=s2;rw[Gt.af _ _ _ _ (by decide)];exact i.s2
  ·rw[kd.S];show Gt.au M.S 1 3 x=0;rw[Gt.af _ _ _ _ (by omega)];exact i.so x h3 h8
  ·rw[kd.pc];exact congrArg Pc.r (Gt.aj M.pc 0 _)
  ·rw[kd.pc];exact(congrArg Pc.m (Gt.aj M.pc 0 _)).trans i.m
  ·rw[kd.L]
   show(Pi.bu (dt M 1 u v).gr ((dt M 1 u v).th 1).p 0).2.L=_
   rw[e']
   show M.gr.L.set 0 _=_
   rw[i.L]
   rfl
end
end Go.Proofs.YtjlbmmiomfpgiaaGreatDoor
namespace Go.Proofs.YtjlbmmiomfpgiaaGreatDoor
open Go.RowKit Go.Lib Go.Shelf
theorem oI {P:Program} {f:FuncId} {args:Array Value} {w:World} {R:Ending→World→Prop} (h:Calls P f args w R): ∃e w',R e w':=by
 obtain⟨e,w',_,hr,_⟩:=h []
 exact⟨e,w',hr⟩
section
variable {w wr w':World} {ad:Ad} {T B:Nat} {M M1:Mc} {aJ:Nat→Nat} {s0 s1 s2:Nat}
theorem Al.Dd (h:Al w wr ad 1 8 8 T M) {x:Nat} (hx:x<8) (hr:(M.pc 0).r=(x:Int)) (p:Pm) (hpr:M.pr[0]? =some p) (f:fz M x) (hg:(bb 1 (gh M.pl) ((0:Nat):Int) 0).isSome=false∨((bb 1 (gh M.pl) ((0:Nat):Int) 0).isSome=true∧gives 1 M 0 0=false))
  (op ar ia':Int) (eO:De p 0=op) (eR:C8 p 0=ar) (eN:Dl p 0=ia') (eL:Dk p 0 0=0) (ok:Bool) (l:List Ev) (hT:T≤100000)
  (hdo: ∀lab V O,SG wr V lab ad 1 8 8 T (dt M x ia' 0) wr.heap.size 0 [] O→Calls Tryz.prog 125 #[.pointer (some ⟨wr.heap.size,0,none⟩),.pointer (some ⟨ad.th,x*10,none⟩),.agg #[.int .i64 op,.int .i64 ar]] V fun e w'=>e=jR ok∧SX wr V w' lab ad 1 8 8 T M1 wr.heap.size 0 l O):
  Calls Tryz.prog 13 #[.pointer (some ⟨ad.m,0,none⟩),.int .i64 0,.int .u64 0] wr fun e w'=>(∃v,e= .returned (.tuple #[v,.int .i64 0])∧jX w' wr.heap.size v l)∧Al w w' ad 1 8 8 (T+8) (settle M1 8):=by
 have hk:0<1:=by decide
 have hd:(0:Int)≤0∧(0:Int)<18446744073709551616:=by decide
 obtain⟨hpg,hia,hil⟩:=f
 refine h.call (R:=fun e w'=> ∃v,e= .returned (.tuple #[v,.int .i64 0])∧jX w' wr.heap.size v l) (fun lab hi=> ?_)
 have hgo: ∀W1 O V,SX wr W1 V lab ad 1 8 8 T M wr.heap.size 0 [] O→Calls Tryz.prog 76 #[.pointer (some ⟨wr.heap.size,0,none⟩)] V fun e w'=>e=jR ok∧SX wr W1 w' lab ad 1 8 8 T M1 wr.heap.size 0 l O:=fun W1 O V hV=>
  hV.yK (ok:=ok) (bz:=false) (by simp) hk x hx hr 0 p hpr (by rw[hpg];rfl) op ar ia' 0 (by decide) T M1 l (fun ap cap V' hp hrt hbl=>by
   have:=xZ (cap:=cap) hp hrt 0 0 (by decide) V' hbl
   rw[eO,eR,eN,eL] at this
   rw[hia,hil]
   exact this) (fun q=>by cases q) (fun _ V' O' hs'=>hdo lab V' O' hs')
 refine(hi.kY (pr:=0) (T':=T) (M':=M1) (l:=l) hk 0 (by omega) (fun W1 O hs=> ?_)).mono (fun e w' ⟨v,he,hev,g⟩=>⟨⟨v,he,hev⟩,g.goes⟩)
 have hgw:Calls Tryz.prog 74 #[.pointer (some ⟨wr.heap.size,0,none⟩),.int .u64 0] W1 fun e w'=>e= .returned (.tuple #[])∧SX wr W1 w' lab ad 1 8 8 T M wr.heap.size 0 [] O:=by
  rcases hg with hb|⟨hb,hgv⟩
  ·exact hs.sx.jU hk 0 hd (.inr hb)
  ·exact hs.sx.nP hk 0 hd x hx hr hb hgv
 cases ok with
 |true=>exact xI (P1:=fun V=>SX wr W1 V lab ad 1 8 8 T M wr.heap.size 0 [] O) (P2:=fun V=>SX wr W1 V lab ad 1 8 8 T M wr.heap.size 0 [] O) hgw (fun V hV=>hV.iV hk 0 (by rw[hr];omega)) (fun V hV=>hgo W1 O V hV)
 |false=>exact uT (P1:=fun V=>SX wr W1 V lab ad 1 8 8 T M wr.heap.size 0 [] O) (P2:=fun V=>SX wr W1 V lab ad 1 8 8 T M wr.heap.size 0 [] O) hgw (fun V hV=>hV.iV hk 0 (by rw[hr];omega)) (fun V hV=>hgo W1 O V hV)
theorem Al.nu (h:Al w wr ad 1 8 8 T M) (hr:(M.pc 0).r= -1) {x:Nat} (hx:x<8) (hb:(bb 1 (gh M.pl) ((0:Nat):Int) 0).isSome=true) (hbi:bI (gh M.pl) (bb 1 (gh M.pl) ((0:Nat):Int) 0)=(x:Int)) (hT:T≤100000):
  Calls Tryz.prog 13 #[.pointer (some ⟨ad.m,0,none⟩),.int .i64 0,.int .u64 0] wr fun e w'=>(∃v ev,e= .returned (.tuple #[v,.int .i64 0])∧jX w' wr.heap.size v [ev]∧ev.k=3∧ev.x=(M.th x).p)∧Al w w' ad 1 8 8 (T+9) (settle (bj 1 8 M 0 x 0) 8):=by
 have hk:0<1:=by decide
 have hd:(0:Int)≤0∧(0:Int)<18446744073709551616:=by decide
 exact h.call (R:=fun e w'=> ∃v ev,e= .returned (.tuple #[v,.int .i64 0])∧jX w' wr.heap.size v [ev]∧ev.k=3∧ev.x=(M.th x).p) (fun lab hi=>(hi.kY (pr:=0) (T':=T+1) hk 0 (by omega) (fun W1 O hs=>mK (P1:=fun V=>SX wr W1 V lab ad 1 8 8 T M wr.heap.size 0 [] O) (hs.sx.jU hk 0 hd (.inl hr)) (fun V hV=>hV.gK (by simp) hk 0 hd hr hb x hx hbi))).mono (fun e w' ⟨v,he,hev,g⟩=>⟨⟨v,_,he,hev,rfl,rfl⟩,g.goes⟩))
theorem Al.CX (h:Al w wr ad 1 8 8 T M) (i:Ih B aJ 2 1 0 0 0 [] M) (hl:aJ 0<aJ 1) (hT:T≤100000):
  Calls Tryz.prog 13 #[.pointer (some ⟨ad.m,0,none⟩),.int .i64 0,.int .u64 0] wr fun e w'=>(∃v,e= .returned (.tuple #[v,.int .i64 0]))∧ ∃M',Al w w' ad 1 8 8 (T+18) M'∧Ih B aJ 1 2 0 1 0 [] M'∧(fz M 1→fz M' 1):=by
 have hk:0<1:=by decide
 have hd:(0:Int)≤0∧(0:Int)<18446744073709551616:=by decide
 have hr:(M.pc 0).r=((0:Nat):Int):=i.r
 obtain⟨O,hpq⟩:=h.pq
 have k1:=i.key (x:=1) (by decide) (by rw[i.s1];decide)
 have k0:=i.key (x:=0) (by decide) (by rw[i.s0];decide)
 obtain⟨hb,_,hbk⟩:=i.tk.lS hpq (p:=0) (by decide) 0 (x:=1) (by decide) i.s1 (fun y hy hs hne=>by
  rcases i.at hy hs with ⟨_,q⟩|⟨q,_⟩|⟨_,q⟩
  ·cases q
  ·exact absurd q hne
  ·cases q)
 have hgv:gives 1 M 0 0=true:=by
  unfold gives
  rw[hbk,i.r,k1]
  have k0':Pi.aR M.gr.T M.gr.L 0=Ke.aP (aJ 0:Int):=k0
  rw[k0',kF]
  simp[hl]
 obtain⟨i2,f2⟩:=i.back
 obtain⟨lab0,hi0⟩:=h.is
 obtain⟨O0,hS0⟩:=SG.start hi0 0
 obtain⟨e0,w0,_,hx0⟩:=oI (hS0.sx.ld (by simp) (by omega) hk 0 hd 0 (by decide) hr hb hgv)
 obtain⟨lk,ii⟩:=hx0.i
 obtain⟨O',hpq2,_⟩:=ii.pl
 have k1b:=i2.key (x:=1) (by decide) (by rw[i2.s1];decide)
 have k0b:=i2.key (x:=0) (by decide) (by rw[i2.s0];decide)
 obtain⟨⟨hb2,hbi2⟩,i3,f3⟩:=i2.Br hpq2 0 (fun y hy hs hne=>by
  rcases i2.at hy hs with ⟨q,_⟩|⟨q,_⟩|⟨_,q⟩
  ·rw[q,k1b,k0b,kF];simpa using hl
  ·exact absurd q hne
  ·cases q)
 refine(h.call (R:=fun e w'=> ∃v,e= .returned (.tuple #[v,.int .i64 0])) (T':=T+18) (M':=settle (bj 1 8 (df 1 8 8 M 0 0) 0 1 0) 8) (fun lab hi=>(hi.kY (pr:=0) (T':=T+8+1+1) hk 0 (by omega) (fun W1 O hs=>mK (hs.sx.ld (by simp) (by omega) hk 0 hd 0 (by decide) hr hb hgv) (fun V hV=>hV.gK (by simp) hk 0 hd i2.r hb2 1 (by decide) hbi2))).mono (fun e w' ⟨v,he,hev,g⟩=>⟨⟨v,he⟩,g.goes⟩))).mono ?_
 rintro e w' ⟨hv,hA⟩
 exact⟨hv,_,hA,i3,fun f=>f3 (f2 f)⟩
end
attribute [local go_sem ↓] Go.wp_at_zero Go.wp_at_succ
theorem Cs:Ex.Rt 4 iO iR:=by
 refine⟨0,.inr (.inr (.inr ⟨by decide,by decide,?_,.inr rfl,rfl,rfl⟩))⟩
 intro i hi
 match i,hi with
 |0,_=>decide
 |1,_=>decide
 |2,_=>decide
 |3,_=>decide
theorem BH (w:World):Ex.lK (w.alloc (.cells #[.int .i64 2,.int .i64 0,.int .i64 1,.int .i64 2,.int .i64 3,.int .i64 0,.int .i64 9,.int .i64 0] 64)) (some ⟨w.heap.size,0,none⟩) 4 iO iR:=by
 refine .inr ⟨w.heap.size,0,rfl,by simp,fun j hj=> ?_⟩
 match j,hj with
 |0,_=>exact⟨aT _ _ _ 0 _ rfl,aT _ _ _ 1 _ rfl⟩
 |1,_=>exact⟨aT _ _ _ 2 _ rfl,aT _ _ _ 3 _ rfl⟩
 |2,_=>exact⟨aT _ _ _ 4 _ rfl,aT _ _ _ 5 _ rfl⟩
 |3,_=>exact⟨aT _ _ _ 6 _ rfl,aT _ _ _ 7 _ rfl⟩
def mI:Mc:={oV 1 pI with pr:=[pI]++[⟨1,xO,xR⟩]}
theorem AG (aJ:Nat→Nat):Ih 0 aJ 0 0 0 (-1) (-1) [] mI:=by
 have hI:Iv 1 8 0 [] mI:=((Iv.new 1 8 4 50 50 (by decide) (by decide)).load pI).load ⟨1,xO,xR⟩
 have hno: ∀z,¬eT mI.pl z:=fun z hz=>by
  have h2:=((hI.rd z.1).1 ⟨z.2,hz⟩).2
  have h3:mI.S z.1=0:=rfl
  rw[h3] at h2
  cases h2
 exact⟨⟨hI,Uq.none hno,fun z hz=>absurd hz (hno z),fun x _ h=>absurd rfl h,fun x _ h=>absurd rfl h,rfl,rfl⟩,rfl,rfl,rfl,fun _ _ _=>rfl,rfl,rfl,rfl,rfl⟩
section
variable {w wr w':World} {ad:Ad} {T B:Nat} {M:Mc} {aJ:Nat→Nat} {s0 s1 s2:Nat} {r h:Int} {l:List Nat}
theorem Ih.wW (i:Ih B aJ s0 s1 s2 r h l M) (hB:B+1<4294967296):Go.Proofs.YtjlbmmiomfpgiaaGreatDoor.wW M 8:=fun x hx=>by have:=i.tk.iv.gb x hx;omega
theorem Al.CM (h:Al w wr ad 1 8 8 T M) (i:Ih B aJ 2 0 0 0 (-1) [] M) (f:fz M 0) (hT:T≤100000):
  Calls Tryz.prog 13 #[.pointer (some ⟨ad.m,0,none⟩),.int .i64 0,.int .u64 0] wr fun e w'=>(∃v,e= .returned (.tuple #[v,.int .i64 0]))∧ ∃M',Al w w' ad 1 8 8 (T+8) M'∧Ih B aJ 2 0 0 0 0 [] M':=by
 obtain⟨O,hpq⟩:=h.pq
 obtain⟨he,i2⟩:=i.Di 1 0
 have hb:=i.tk.Ct hpq (fun x hx q=>by
  rcases i.at hx q with ⟨_,q⟩|⟨_,q⟩|⟨_,q⟩<;>cases q) ((0:Nat):Int) 0
 refine(h.Dd (x:=0) (M1:=bf (dt M 0 1 0) 0 0) (by decide) i.r pI (by rw[i.pr];rfl) f (.inl hb) 2 0 1 rfl rfl rfl rfl false ([]++[⟨5,((0:Nat):Int),((dt M 0 1 0).th 0).p,((dt M 0 1 0).th 0).g,2,0⟩]++[⟨8,((0:Nat):Int),((dt M 0 1 0).th 0).p,((dt M 0 1 0).th 0).g,0,0⟩]) hT (fun lab V O hs=>hs.rK 0 0 false (fun V' hs'=>(hs'.u9 (by simp) (by decide) 0 (by decide) 2 0 he).mono (fun e w' ⟨he,hg⟩=>⟨he,hg⟩)))).mono ?_
 rintro e w' ⟨⟨v,he,_⟩,hA⟩
 exact⟨⟨v,he⟩,_,hA,i2⟩
theorem Al.Bf (h:Al w wr ad 1 8 8 T M) (i:Ih B aJ 1 2 0 1 0 [] M) (f:fz M 1) (hl:aJ 0<aJ 1) (hT:T≤100000):
  Calls Tryz.prog 13 #[.pointer (some ⟨ad.m,0,none⟩),.int .i64 0,.int .u64 0] wr fun e w'=> ∃b c,e= .returned (.tuple #[.slice (some ⟨b,0,none⟩) 2 c,.int .i64 0])∧w'.cell? ⟨b,6,none⟩=some (.int .i64 7)∧ ∃M',Al w w' ad 1 8 8 (T+8) M'∧Ih B aJ 1 3 0 (-1) 0 [1] M':=by
 obtain⟨O,hpq⟩:=h.pq
 obtain⟨he,i2⟩:=i.wait 1 0
 have k1:=i.key (x:=1) (by decide) (by rw[i.s1];decide)
 have k0:=i.key (x:=0) (by decide) (by rw[i.s0];decide)
 obtain⟨hb,_,hbk⟩:=i.tk.lS hpq (p:=0) (by decide) 0 (x:=0) (by decide) i.s0 (fun y hy hs hne=>by
  rcases i.at hy hs with ⟨q,_⟩|⟨_,q⟩|⟨_,q⟩
  ·exact absurd q hne
  ·cases q
  ·cases q)
 have hgv:gives 1 M 0 0=false:=by
  unfold gives
  rw[hbk,i.r,i.m,k0]
  have k1':Pi.aR M.gr.T M.gr.L 1=Ke.aP (aJ 1:Int):=k1
  rw[k1',kF]
  simp
  omega
 refine(h.Dd (x:=1) (M1:=fa {bf (dt M 1 1 0) 1 0 with S:=bF 8 (dt M 1 1 0).G (dt M 1 1 0).S ((dt M 1 1 0).th 1).p ((dt M 1 1 0).th 1).g 3} 0 (-1)) (by decide) i.r pI (by rw[i.pr];rfl) f (.inr ⟨hb,hgv⟩) 2 0 1 rfl rfl rfl rfl true ([]++[⟨5,((0:Nat):Int),((dt M 1 1 0).th 1).p,((dt M 1 1 0).th 1).g,2,0⟩]++[⟨7,((0:Nat):Int),((dt M 1 1 0).th 1).p,((dt M 1 1 0).th 1).g,0,0⟩]) hT (fun lab V O hs=>hs.rK 1 0 true (fun V' hs'=>(hs'.js (by simp) (by decide) 1 (by decide) 2 0 he).mono (fun e w' ⟨he,hg⟩=>⟨he,hg⟩)))).mono ?_
 rintro e w' ⟨⟨v,he,hev⟩,hA⟩
 obtain⟨b,c,rfl,hc⟩:=hev.at (i:=1) rfl
 exact⟨b,c,he,hc,_,hA,i2⟩
end
section
variable {w wr w':World} {ad:Ad} {T B:Nat} {M:Mc} {aJ:Nat→Nat}
theorem Ih.Bp (i:Ih B aJ 2 3 1 0 0 [1] M):bc M 8=[0,1,2]:=by
 have h0:=i.s0
 have h1:=i.s1
 have h2:=i.s2
 have h3:=i.so 3 (by decide) (by decide)
 have h4:=i.so 4 (by decide) (by decide)
 have h5:=i.so 5 (by decide) (by decide)
 have h6:=i.so 6 (by decide) (by decide)
 have h7:=i.so 7 (by decide) (by decide)
 unfold bc
 rw[Gt.iI (by rw[h7];decide),Gt.iI (by rw[h6];decide),Gt.iI (by rw[h5];decide),Gt.iI (by rw[h4];decide),Gt.iI (by rw[h3];decide),Gt.eD (by decide) (by rw[h2];decide),Gt.eD (by decide) (by rw[h1];decide),Gt.eD (by decide) (by rw[h0];decide)]
 rfl
theorem Al.CI (h:Al w wr ad 1 8 8 T M) (i:Ih B aJ 2 3 1 0 0 [1] M) (hl:aJ 0<aJ 1):Calls Tryz.prog 23 #[.pointer (some ⟨ad.m,0,none⟩)] wr fun e w'=> ∃b c,e= .returned (.slice (some ⟨b,0,none⟩) 3 c)∧(w'.cell? ⟨b,3,none⟩=some (.bool false)∧w'.cell? ⟨b,4,none⟩=some (.int .u64 0)∧w'.cell? ⟨b,5,none⟩=some (.int .u8 (aJ 1:Int)))∧(w'.cell? ⟨b,25,none⟩=some (.bool false)∧w'.cell? ⟨b,26,none⟩=some (.int .u64 0)∧w'.cell? ⟨b,27,none⟩=some (.int .u8 (aJ 2:Int)))∧Al w w' ad 1 8 8 T M∧Below wr.heap.size wr w':=by
 obtain⟨lab,hi⟩:=h.is
 refine hi.threads.mono ?_
 rintro e w' ⟨v,rfl,hr,hb⟩
 rw[i.Bp] at hr
 rcases hr.2 with ⟨_,e0⟩|⟨b,c,cur,e1,h0,hg,hrow⟩
 ·simp at e0
 ·have hc: ∀(k:Nat) (u:Value),(gP M 8 [0,1,2])[k]? =some u→w'.cell? ⟨b,k,none⟩=some u:=fun k u hu=>by
   rw[←hrow.2.2.2,List.getElem?_take] at hu
   split at hu
   ·simp only[World.cell?,hg]
    simpa using hu
   ·cases hu
  have k0:Pi.aR M.gr.T M.gr.L ((0:Nat):Int)=Ke.aP (aJ 1:Int):=i.Bv (by decide) (by decide) hl
  have k2:Pi.aR M.gr.T M.gr.L ((2:Nat):Int)=Ke.aP (aJ 2:Int):=i.BK (by decide) (by rw[i.s2];decide) (by decide)
  refine⟨b,c,by rw[e1];rfl,⟨hc 3 _ ?_,hc 4 _ ?_,hc 5 _ ?_⟩,⟨hc 25 _ ?_,hc 26 _ ?_,hc 27 _ ?_⟩,h.below hb,hb⟩
  ·show some (Value.bool (Pi.aR M.gr.T M.gr.L ((0:Nat):Int)).e)=_;rw[k0];rfl
  ·show some (Value.int .u64 (Pi.aR M.gr.T M.gr.L ((0:Nat):Int)).d)=_;rw[k0];rfl
  ·show some (Value.int .u8 (Pi.aR M.gr.T M.gr.L ((0:Nat):Int)).l)=_;rw[k0];rfl
  ·show some (Value.bool (Pi.aR M.gr.T M.gr.L ((2:Nat):Int)).e)=_;rw[k2];rfl
  ·show some (Value.int .u64 (Pi.aR M.gr.T M.gr.L ((2:Nat):Int)).d)=_;rw[k2];rfl
  ·show some (Value.int .u8 (Pi.aR M.gr.T M.gr.L ((2:Nat):Int)).l)=_;rw[k2];rfl
end
theorem xv (x y:Int) (w:World):(Instr.build 64 #[(0,.int .i64 x),(1,.int .i64 y)]).run Tryz.prog w= .ok (.agg #[.int .i64 x,.int .i64 y]) w:=run_build w 64 _ _ (by kernel_rfl)
theorem jX.CT {w:World} {base:Nat} {v:Value} {ev:Ev} (h:jX w base v [ev]): ∃b c,v= .slice (some ⟨b,0,none⟩) 1 c∧w.cell? ⟨b,0,none⟩=some (.int .i64 ev.k)∧w.cell? ⟨b,2,none⟩=some (.int .i64 ev.x):=by
 rcases h.2 with ⟨_,e0⟩|⟨b,c,cur,e1,h0,hg,hrow⟩
 ·simp at e0
 ·have hc: ∀(k:Nat) (u:Value),(bX [ev])[k]? =some u→w.cell? ⟨b,k,none⟩=some u:=fun k u hu=>by
   rw[←hrow.2.2.2,List.getElem?_take] at hu
   split at hu
   ·simp only[World.cell?,hg]
    simpa using hu
   ·cases hu
  exact⟨b,c,e1,hc 0 _ rfl,hc 2 _ rfl⟩
theorem jt (a b c:Nat) (ha:a<256) (hb:b<256) (hc:c<256) (w:World) (ht:Gt.j5 w):
  Calls Tryz.prog 7 #[.int .u8 (a:Int),.int .u8 (b:Int),.int .u8 (c:Int)] w fun e w'=>e= .returned (.bool true)∧Below w.heap.size w w':=by
 obtain⟨lo,elo⟩: ∃lo,lo=a%80:=⟨_,rfl⟩
 obtain⟨mi,emi⟩: ∃mi,mi=80+b%80:=⟨_,rfl⟩
 obtain⟨hi,ehi⟩: ∃hi,hi=160+c%90:=⟨_,rfl⟩
 have hlo:(a:Int)%80=(lo:Int):=by omega
 have hmi:80+(b:Int)%80=(mi:Int):=by omega
 have hhi:160+(c:Int)%90=(hi:Int):=by omega
 obtain⟨aJ,hlev⟩: ∃aJ:Nat→Nat,aJ 0=lo∧aJ 1=hi∧aJ 2=mi:=⟨fun x=>if x=0 then lo else if x=1 then hi else mi,rfl,rfl,rfl⟩
 have hb01:aJ 0<aJ 1:=by omega
 have hb21:aJ 2<aJ 1:=by omega
 have hv:aJ 0<256∧aJ 1<256∧aJ 2<256:=by omega
 have HMA:Hid (Calls Tryz.prog 28 #[.int .i64 1,.slice (some ⟨w.heap.size,0,none⟩) 4 4] (w.alloc (.cells #[.int .i64 2,.int .i64 0,.int .i64 1,.int .i64 2,.int .i64 3,.int .i64 0,.int .i64 9,.int .i64 0] 64)) fun e w'=> ∃ad,e= .returned (.pointer (some ⟨ad.m,0,none⟩))∧Al w w' ad 1 8 8 0 (oV 1 pI)):=by
  have hb0:Below w.heap.size w (w.alloc (.cells #[.int .i64 2,.int .i64 0,.int .i64 1,.int .i64 2,.int .i64 3,.int .i64 0,.int .i64 9,.int .i64 0] 64)):=(Below.refl _ _).alloc (Nat.le_refl _) _
  refine(q9 _ (ht.below hb0) 1 (by decide) (some ⟨w.heap.size,0,none⟩) 4 4 iO iR (BH w) Cs).mono ?_
  rintro e w' ⟨ad,he,⟨lab,hi,hl⟩,hb'⟩
  have hs:=hb0.size
  exact⟨ad,he,⟨lab,hi,fun k hk=>Nat.le_trans hs (hl k hk)⟩,bt hb0 hb'⟩
 have HL:Hid (∀V ad,Al w V ad 1 8 8 0 (oV 1 pI)→Calls Tryz.prog 17 #[.pointer (some ⟨ad.m,0,none⟩),.slice (some ⟨V.heap.size,0,none⟩) 1 1] (V.alloc (.cells #[.int .i64 9,.int .i64 0] 64)) fun e w'=>e= .returned (.tuple #[.int .i64 1,.int .i64 0])∧Al w w' ad 1 8 8 0 mI):=fun V ad h=>(h.below ((Below.refl V.heap.size V).alloc (Nat.le_refl _) _)).iC (some ⟨V.heap.size,0,none⟩) 1 1 xO xR (Bh V) CW (by show 1<16;decide)
 have HS0:Hid (∀V ad,Al w V ad 1 8 8 0 mI→Calls Tryz.prog 19 #[.pointer (some ⟨ad.m,0,none⟩),.int .i64 0,.int .u8 (lo:Int),.int .i64 (-1)] V fun e w'=> ∃(v:Value) (M':Mc),e= .returned (.tuple #[v,.int .i64 0])∧Al w w' ad 1 8 8 20 M'∧Ih 1 aJ 1 0 0 (-1) (-1) [] M'∧fz M' 0):=fun V ad h=>by
  have i:=AG aJ
  obtain⟨hf,i2,f2⟩:=i.AP hv.1
  rw[←hlev.1]
  refine(h.qm (i.wW (by decide)) 0 (aJ 0) hv.1 (-1) (by decide) (by decide) (i.no 0 (.inl rfl)) hf).mono ?_
  rintro e w' ⟨⟨v,rfl⟩,hA⟩
  exact⟨v,_,rfl,hA,i2,f2⟩
 have HD0:Hid (∀V ad M,Al w V ad 1 8 8 20 M→Ih 1 aJ 1 0 0 (-1) (-1) [] M→fz M 0→Calls Tryz.prog 13 #[.pointer (some ⟨ad.m,0,none⟩),.int .i64 0,.int .u64 0] V fun e w'=> ∃(v:Value) (M':Mc),e= .returned (.tuple #[v,.int .i64 0])∧Al w w' ad 1 8 8 29 M'∧Ih 1 aJ 2 0 0 0 (-1) [] M'∧fz M' 0):=fun V ad M h i f=>by
  obtain⟨O,hpq⟩:=h.pq
  obtain⟨⟨q1,q2⟩,i2,f2⟩:=i.zw hpq 0 (fun y hy hs hne=>by
   rcases i.at hy hs with ⟨q,_⟩|⟨_,q⟩|⟨_,q⟩
   ·exact absurd q hne
   ·cases q
   ·cases q)
  refine(h.nu i.r (x:=0) (by decide) q1 q2 (by decide)).mono ?_
  rintro e w' ⟨⟨v,ev,he,_⟩,hA⟩
  exact⟨v,_,he,hA,i2,f2 f⟩
 have HG:Hid (∀V ad M,Al w V ad 1 8 8 29 M→Ih 1 aJ 2 0 0 0 (-1) [] M→fz M 0→Calls Tryz.prog 13 #[.pointer (some ⟨ad.m,0,none⟩),.int .i64 0,.int .u64 0] V fun e w'=> ∃(v:Value) (M':Mc),e= .returned (.tuple #[v,.int .i64 0])∧Al w w' ad 1 8 8 37 M'∧Ih 1 aJ 2 0 0 0 0 [] M'):=fun V ad M h i f=>by
  refine(h.CM i f (by decide)).mono ?_
  rintro e w' ⟨⟨v,he⟩,M',hA,i2⟩
  exact⟨v,M',he,hA,i2⟩
 have HS1:Hid (∀V ad M,Al w V ad 1 8 8 37 M→Ih 1 aJ 2 0 0 0 0 [] M→Calls Tryz.prog 19 #[.pointer (some ⟨ad.m,0,none⟩),.int .i64 0,.int .u8 (hi:Int),.int .i64 (-1)] V fun e w'=> ∃(v:Value) (M':Mc),e= .returned (.tuple #[v,.int .i64 0])∧Al w w' ad 1 8 8 57 M'∧Ih 2 aJ 2 1 0 0 0 [] M'∧fz M' 1):=fun V ad M h i=>by
  obtain⟨hf,i2,f2⟩:=i.oj (by decide) hv.2.1
  rw[←hlev.2.1]
  refine(h.qm (i.wW (by decide)) 0 (aJ 1) hv.2.1 (-1) (by decide) (by decide) (i.no 0 (.inl rfl)) hf).mono ?_
  rintro e w' ⟨⟨v,rfl⟩,hA⟩
  exact⟨v,_,rfl,hA,i2,f2⟩
 have HP:Hid (∀V ad M,Al w V ad 1 8 8 57 M→Ih 2 aJ 2 1 0 0 0 [] M→fz M 1→Calls Tryz.prog 13 #[.pointer (some ⟨ad.m,0,none⟩),.int .i64 0,.int .u64 0] V fun e w'=> ∃(v:Value) (M':Mc),e= .returned (.tuple #[v,.int .i64 0])∧Al w w' ad 1 8 8 75 M'∧Ih 2 aJ 1 2 0 1 0 [] M'∧fz M' 1):=fun V ad M h i f=>by
  refine(h.CX i hb01 (by decide)).mono ?_
  rintro e w' ⟨⟨v,he⟩,M',hA,i2,f2⟩
  exact⟨v,M',he,hA,i2,f2 f⟩
 have HW:Hid (∀V ad M,Al w V ad 1 8 8 75 M→Ih 2 aJ 1 2 0 1 0 [] M→fz M 1→Calls Tryz.prog 13 #[.pointer (some ⟨ad.m,0,none⟩),.int .i64 0,.int .u64 0] V fun e w'=> ∃b c,e= .returned (.tuple #[.slice (some ⟨b,0,none⟩) 2 c,.int .i64 0])∧w'.cell? ⟨b,6,none⟩=some (.int .i64 7)∧ ∃M',Al w w' ad 1 8 8 83 M'∧Ih 2 aJ 1 3 0 (-1) 0 [1] M'):=fun V ad M h i f=>h.Bf i f hb01 (by decide)
 have HS2:Hid (∀V ad M,Al w V ad 1 8 8 83 M→Ih 2 aJ 1 3 0 (-1) 0 [1] M→Calls Tryz.prog 19 #[.pointer (some ⟨ad.m,0,none⟩),.int .i64 1,.int .u8 (mi:Int),.int .i64 (-1)] V fun e w'=> ∃(v:Value) (M':Mc),e= .returned (.tuple #[v,.int .i64 0])∧Al w w' ad 1 8 8 103 M'∧Ih 3 aJ 1 3 1 (-1) 0 [1] M'):=fun V ad M h i=>by
  obtain⟨hf,i2⟩:=i.zX (by decide) (by decide) hv.2.2
  rw[←hlev.2.2]
  refine(h.qm (i.wW (by decide)) 1 (aJ 2) hv.2.2 (-1) (by decide) (by decide) (i.no 1 (.inr rfl)) hf).mono ?_
  rintro e w' ⟨⟨v,rfl⟩,hA⟩
  exact⟨v,_,rfl,hA,i2⟩
 have HD8:Hid (∀V ad M,Al w V ad 1 8 8 103 M→Ih 3 aJ 1 3 1 (-1) 0 [1] M→Calls Tryz.prog 13 #[.pointer (some ⟨ad.m,0,none⟩),.int .i64 0,.int .u64 0] V fun e w'=> ∃b c,e= .returned (.tuple #[.slice (some ⟨b,0,none⟩) 1 c,.int .i64 0])∧w'.cell? ⟨b,0,none⟩=some (.int .i64 3)∧w'.cell? ⟨b,2,none⟩=some (.int .i64 0)∧ ∃M',Al w w' ad 1 8 8 112 M'∧Ih 3 aJ 2 3 1 0 0 [1] M'):=fun V ad M h i=>by
  obtain⟨O,hpq⟩:=h.pq
  have k0:Pi.aR M.gr.T M.gr.L ((0:Nat):Int)=Ke.aP (aJ 1:Int):=i.Bv (by decide) (by decide) hb01
  have k2:Pi.aR M.gr.T M.gr.L ((2:Nat):Int)=Ke.aP (aJ 2:Int):=i.BK (by decide) (by rw[i.s2];decide) (by decide)
  obtain⟨⟨q1,q2⟩,i2,_⟩:=i.zw hpq 0 (fun y hy hs hne=>by
   rcases i.at hy hs with ⟨q,_⟩|⟨_,q⟩|⟨q,_⟩
   ·exact absurd q hne
   ·cases q
   ·rw[q,k0,k2,kF];simpa using hb21)
  have t:=i.tk.iv.th 0 (by decide) (by rw[i.s0];decide)
  refine(h.nu i.r (x:=0) (by decide) q1 q2 (by decide)).mono ?_
  rintro e w' ⟨⟨v,ev,he,hev,e1,e2⟩,hA⟩
  obtain⟨b,c,rfl,c0,c2⟩:=hev.CT
  rw[e1] at c0
  rw[e2,t.p] at c2
  exact⟨b,c,he,c0,c2,_,hA,i2⟩
 have HT:Hid (∀V ad M b0,Al w V ad 1 8 8 112 M→Ih 3 aJ 2 3 1 0 0 [1] M→V.cell? ⟨b0,0,none⟩=some (.int .i64 3)→V.cell? ⟨b0,2,none⟩=some (.int .i64 0)→Calls Tryz.prog 23 #[.pointer (some ⟨ad.m,0,none⟩)] V fun e w'=> ∃b c,e= .returned (.slice (some ⟨b,0,none⟩) 3 c)∧(w'.cell? ⟨b,3,none⟩=some (.bool false)∧w'.cell? ⟨b,4,none⟩=some (.int .u64 0)∧w'.cell? ⟨b,5,none⟩=some (.int .u8 (hi:Int)))∧(w'.cell? ⟨b,25,none⟩=some (.bool false)∧w'.cell? ⟨b,26,none⟩=some (.int .u64 0)∧w'.cell? ⟨b,27,none⟩=some (.int .u8 (mi:Int)))∧(w'.cell? ⟨b0,0,none⟩=some (.int .i64 3)∧w'.cell? ⟨b0,2,none⟩=some (.int .i64 0))∧Al w w' ad 1 8 8 112 M):=fun V ad M b0 h i c0 c2=>by
  rw[←hlev.2.1,←hlev.2.2]
  refine(h.CI i hb01).mono ?_
  rintro e w' ⟨b,c,he,p1,p2,hA,hbw⟩
  have hlt:b0<V.heap.size:=World.block_lt_of_cell? V _ c0
  exact⟨b,c,he,p1,p2,⟨(World.cell?_of_block (hbw.block b0 hlt)).trans c0,(World.cell?_of_block (hbw.block b0 hlt)).trans c2⟩,hA⟩
 have HO:Hid (∀V ad M,Al w V ad 1 8 8 112 M→Ih 3 aJ 2 3 1 0 0 [1] M→Calls Tryz.prog 25 #[.pointer (some ⟨ad.m,0,none⟩),.int .i64 0] V fun e w'=>e= .returned (.int .i64 0)∧w'=V):=fun V ad M h i=>by
  obtain⟨lab,hi⟩:=h.is
  refine(hi.owner 0).mono ?_
  rintro e w' ⟨rfl,hw⟩
  refine⟨?_,hw⟩
  rw[i.L]
  rfl
 have HF:Hid (∀V (l:Int),Calls Tryz.prog 30 #[.int .u8 l] V fun e w'=>e= .returned (.agg #[.bool false,.int .u64 0,.int .u8 l])∧Below V.heap.size V w'):=fun V l=>Ke.ir V l
 have hbi:=xv
 clear ht elo emi ehi hb01 hb21 hv hlev
 go_enter Tryz.func7,Tryz.ntmps7
 go_wp2_with (go_at_call 28;refine(HMA.out).mono ?_;rintro e w1 ⟨ad,rfl,hA⟩;have HA:=aa hA;clear hA)
 go_wp2_with (go_at_call 17;refine(HL.out w1 ad HA.out).mono ?_;rintro e w2 ⟨rfl,hA2⟩;have HA2:=aa hA2;clear hA2)
 go_wp2_with (go_at_call 19;refine(HS0.out w2 ad HA2.out).mono ?_;rintro e w3 ⟨v3,M3,rfl,hA3,hI3,hf3⟩;have HA3:=aa hA3;have HI3:=aa hI3;have HF3:=aa hf3;clear hA3 hI3 hf3)
 go_wp2_with (go_at_call 13;refine(HD0.out w3 ad M3 HA3.out HI3.out HF3.out).mono ?_;rintro e w4 ⟨v4,M4,rfl,hA4,hI4,hf4⟩;have HA4:=aa hA4;have HI4:=aa hI4;have HF4:=aa hf4;clear hA4 hI4 hf4)
 go_wp2_with (go_at_call 13;refine(HG.out w4 ad M4 HA4.out HI4.out HF4.out).mono ?_;rintro e w5 ⟨v5,M5,rfl,hA5,hI5⟩;have HA5:=aa hA5;have HI5:=aa hI5;clear hA5 hI5)
 go_wp2_with (go_at_call 19;refine(HS1.out w5 ad M5 HA5.out HI5.out).mono ?_;rintro e w6 ⟨v6,M6,rfl,hA6,hI6,hf6⟩;have HA6:=aa hA6;have HI6:=aa hI6;have HF6:=aa hf6;clear hA6 hI6 hf6)
 go_wp2_with (go_at_call 13;refine(HP.out w6 ad M6 HA6.out HI6.out HF6.out).mono ?_;rintro e w7 ⟨v7,M7,rfl,hA7,hI7,hf7⟩;have HA7:=aa hA7;have HI7:=aa hI7;have HF7:=aa hf7;clear hA7 hI7 hf7)
 go_wp2_with (go_at_call 13;refine(HW.out w7 ad M7 HA7.out HI7.out HF7.out).mono ?_;rintro e w8 ⟨b8,c8,rfl,hc8,M8,hA8,hI8⟩;have HA8:=aa hA8;have HI8:=aa hI8;clear hA8 hI8)
 go_wp2_with (go_at_call 19;refine(HS2.out w8 ad M8 HA8.out HI8.out).mono ?_;rintro e w9 ⟨v9,M9,rfl,hA9,hI9⟩;have HA9:=aa hA9;have HI9:=aa hI9;clear hA9 hI9)
 go_wp2_with (go_at_call 13;refine(HD8.out w9 ad M9 HA9.out HI9.out).mono ?_;rintro e x1 ⟨b9,c9,rfl,hc0,hc2,M10,hA10,hI10⟩;have HA10:=aa hA10;have HI10:=aa hI10;clear hA10 hI10)
 go_wp2_with (go_at_call 23;refine(HT.out x1 ad M10 b9 HA10.out HI10.out (by assumption) (by assumption)).mono ?_;rintro e x2 ⟨b10,c10,rfl,⟨t3,t4,t5⟩,⟨t6,t7,t8⟩,⟨t0,t2⟩,hA11⟩;have HA11:=aa hA11;clear hA11)
 have hl9:b9<x2.heap.size:=World.block_lt_of_cell? x2 _ t0
 have hl10:b10<x2.heap.size:=World.block_lt_of_cell? x2 _ t3
 have HF2:Hid (∀V (l:Int),Below x2.heap.size x2 V→Calls Tryz.prog 30 #[.int .u8 l] V fun e V'=>e= .returned (.agg #[.bool false,.int .u64 0,.int .u8 l])∧Below x2.heap.size x2 V'∧V'.cell? ⟨b9,0,none⟩=some (.int .i64 3)∧V'.cell? ⟨b9,2,none⟩=some (.int .i64 0)∧V'.cell? ⟨b10,3,none⟩=some (.bool false)∧V'.cell? ⟨b10,4,none⟩=some (.int .u64 0)∧V'.cell? ⟨b10,5,none⟩=some (.int .u8 (hi:Int))∧V'.cell? ⟨b10,25,none⟩=some (.bool false)∧V'.cell? ⟨b10,26,none⟩=some (.int .u64 0)∧V'.cell? ⟨b10,27,none⟩=some (.int .u8 (mi:Int))):=fun V l hV=>(HF.out V l).mono (fun e V' ⟨he,hb⟩=>by
  have hbb:=bt hV hb
  have e9:=hbb.block b9 hl9
  have e:=hbb.block b10 hl10
  exact⟨he,hbb,(World.cell?_of_block e9).trans t0,(World.cell?_of_block e9).trans t2,(World.cell?_of_block e).trans t3,(World.cell?_of_block e).trans t4,(World.cell?_of_block e).trans t5,(World.cell?_of_block e).trans t6,(World.cell?_of_block e).trans t7,(World.cell?_of_block e).trans t8⟩)
 have HO2:Hid (∀V,Below x2.heap.size x2 V→Calls Tryz.prog 25 #[.pointer (some ⟨ad.m,0,none⟩),.int .i64 0] V fun e w'=>e= .returned (.int .i64 0)∧w'=V):=fun V hV=>HO.out V ad M10 (HA11.out.below hV) HI10.out
 clear hl9 hl10
 go_region_held3 (fun V=>V.cell? ⟨b9,0,none⟩=some (.int .i64 3)∧V.cell? ⟨b9,2,none⟩=some (.int .i64 0)∧V.cell? ⟨b10,3,none⟩=some (.bool false)∧V.cell? ⟨b10,4,none⟩=some (.int .u64 0)∧V.cell? ⟨b10,5,none⟩=some (.int .u8 (hi:Int))∧V.cell? ⟨b10,25,none⟩=some (.bool false)∧V.cell? ⟨b10,26,none⟩=some (.int .u64 0)∧V.cell? ⟨b10,27,none⟩=some (.int .u8 (mi:Int)))
  (go_keep)
  (first
   |(go_at_call 30;refine(HF2.out _ _ (by exact bq (Below.refl _ _))).mono ?_;rintro e x3 ⟨rfl,hb3,y0,y2,y3,y4,y5,y6,y7,y8⟩;have HB3:=aa hb3;clear hb3)
   |(go_at_call 30;refine(HF2.out _ _ (by exact HB3.out)).mono ?_;rintro e x4 ⟨rfl,hb4,z0,z2,z3,z4,z5,z6,z7,z8⟩;have HB4:=aa hb4;clear hb4)
   |(go_at_call 25;refine(HO2.out _ (by exact HB4.out)).mono ?_;rintro e x5 ⟨rfl,hw5⟩;replace hw5:=hw5.symm;subst hw5))
 all_goals go_wp2
 all_goals go_ret
 all_goals exact⟨rfl,bt HA11.out.mJ HB4.out⟩
end Go.Proofs.YtjlbmmiomfpgiaaGreatDoor
