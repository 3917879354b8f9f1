/- YtjlbmmiomfpgiaaGreatDoorGs: of the texts Bb1 Bb2 Bb3 Bb4 Bb5 Bb6 Bb7 Bd1 Bd2 Bd3 Be1 Be2 Be3 Ca1 Bf8 Bf9 Bg1 Bg2 Bg3 Bg4 Bg5 Bg6 Bg7 Bg8 Bg9 Bh1 Bi2 Bi1 Bi3 Bi4 Bj1 Bj2 Bj3 Bj4 Bj5 Bj6 Bj7 Bj8 Bj9 Bk1 Bl1 Bl2 Bl3 Bl4 Bl5 what is wanted. -/
import Derived.Test.YtjlbmmiomfpgiaaGreatDoorG0
import Derived.Test.YtjlbmmiomfpgiaaGreatDoorGq
import Derived.ProofKit
import Derived.OpenShut
import Derived.Deep.Slices
import Derived.Deep.Strs
import Derived.ChangeOld
import Derived.ChangeSame
import Derived.Test.YtjlbmmiomfpgiaaGreatDoorGt
import Derived.Test.YtjlbmmiomfpgiaaGreatDoorGl
set_option maxHeartbeats 16000000
set_option maxRecDepth 100000
set_option linter.unusedVariables false
set_option linter.unusedSimpArgs false
namespace Go.Proofs.YtjlbmmiomfpgiaaGreatDoor
open Go.RowKit Go.Lib
theorem jd {a b c:Ke.K} (h:Ke.up a b=false) (k:Ke.up b c=false):Ke.up a c=false:=by
 obtain⟨ae,ad,al⟩:=a
 obtain⟨be,bd,bl⟩:=b
 obtain⟨ce,cd,cl⟩:=c
 cases ae<;>cases be<;>cases ce<;>simp_all [Ke.up]<;>omega
theorem Ci {a b:Ke.K} (h:Ke.up a b=true):Ke.up b a=false:=by
 obtain⟨ae,ad,al⟩:=a
 obtain⟨be,bd,bl⟩:=b
 cases ae<;>cases be<;>simp_all [Ke.up]<;>omega
theorem ja (a:Ke.K):Ke.up a a=false:=by simp[Ke.up]
theorem ov (H:List Hd): ∀(l:List Nat) (b:Option Nat),(∀c0,b=some c0→ ∃c,l.foldl (cw H) b=some c∧Ke.up (gj (MM H c0)) (gj (MM H c))=false)∧ ∀x∈l,∀y M,MM H x=y::M→ ∃c,l.foldl (cw H) b=some c∧Ke.up y.2 (gj (MM H c))=false
 |[],b=>⟨fun c0 hc=>⟨c0,hc,ja _⟩,fun x hx=>by cases hx⟩
 |x::l,b=>by
  have A: ∀c0,b=some c0→ ∃c1,cw H b x=some c1∧Ke.up (gj (MM H c0)) (gj (MM H c1))=false:=by
   intro c0 hc
   subst hc
   unfold cw
   cases hM:MM H x with
   |nil=>exact⟨c0,rfl,ja _⟩
   |cons y M=>
    simp only
    cases hu:Ke.up y.2 (gj (MM H c0)) with
    |true=>
     refine⟨x,rfl,?_⟩
     rw[hM]
     exact Ci hu
    |false=>exact⟨c0,rfl,ja _⟩
  have B: ∀y M,MM H x=y::M→ ∃c1,cw H b x=some c1∧Ke.up y.2 (gj (MM H c1))=false:=by
   intro y M hM
   unfold cw
   rw[hM]
   cases b with
   |none=>exact⟨x,rfl,by rw[hM];exact ja _⟩
   |some c0=>
    simp only
    cases hu:Ke.up y.2 (gj (MM H c0)) with
    |true=>exact⟨x,rfl,by rw[hM];exact ja _⟩
    |false=>exact⟨c0,rfl,hu⟩
  obtain⟨i1,i2⟩:=ov H l (cw H b x)
  refine⟨fun c0 hc=> ?_,fun z hz y M hM=> ?_⟩
  ·obtain⟨c1,e1,n1⟩:=A c0 hc
   obtain⟨c,e2,n2⟩:=i1 c1 e1
   exact⟨c,e2,jd n1 n2⟩
  ·rcases List.mem_cons.1 hz with rfl|hz
   ·obtain⟨c1,e1,n1⟩:=B y M hM
    obtain⟨c,e2,n2⟩:=i1 c1 e1
    exact⟨c,e2,jd n1 n2⟩
   ·exact i2 z hz y M hM
theorem qE {np p d x:Nat} (hp:p<np) (hx:x≤np):x∈cV np p d:=by
 unfold cV dY
 by_cases h1:x=p
 ·rw[h1];simp
 by_cases h2:x=np
 ·rw[h2];simp
 refine List.mem_cons_of_mem _ (List.mem_cons_of_mem _ (List.mem_filter.2 ⟨List.mem_map.2 ⟨(x+2*np-(p+1+d%np))%np,List.mem_range.2 (Nat.mod_lt _ (by omega)),?_⟩,by simpa using h1⟩))
 unfold kF
 have hm:d%np<np:=Nat.mod_lt _ (by omega)
 rw[Nat.add_mod_mod]
 have e:p+1+d%np+(x+2*np-(p+1+d%np))=x+np*2:=by omega
 rw[e,Nat.add_mul_mod_self_left]
 exact Nat.mod_eq_of_lt (by omega)
theorem Cz (G:List (List En)) (c:Nat) (M:List En):gh (G.set c M)=(gh G).set c ⟨0,0,0,0,0,0,M⟩:=by unfold gh;rw[List.map_set]
theorem gE {G:List (List En)} {c:Nat} {x:Hd} (h:(gh G)[c]? =some x):G[c]? =some x.M:=by
 have:=nN h
 rw[cF] at this
 exact this
section
variable {w:World} {O:Nat→Prop} {pb n np q T:Nat} {G:List (List En)}
theorem PQ.nd (h:PQ w O pb n np q T G) {c:Nat} {x:Hd} (hx:(gh G)[c]? =some x):(x.M.map (·.1)).Nodup∧(∀y∈x.M,y.1<n)∧ ∀y∈x.M,Ke.aA y.2=true:=by
 obtain⟨h1,h2,_,h4⟩:=h.at (gE hx)
 exact⟨h1,h2,h4⟩
theorem PQ.D1 (h:PQ w O pb n np q T G) {p d:Int} {c:Nat} (hb:bb np (gh G) p d=some c): ∃z:En,bI (gh G) (some c)=(z.1:Int)∧bK (gh G) (some c)=z.2∧z.1<n∧aM n (gh (eP np (gh G) p d)) 0 (z.1:Int)=none∧cI (gh (eP np (gh G) p d))+1=cI (gh G):=by
 obtain⟨_,_,x,z,M',hx,hM⟩:=mj hb
 obtain⟨hnd,hrn,_⟩:=h.nd hx
 have e1:bI (gh G) (some c)=(z.1:Int):=by show q7 (MM (gh G) c)=_;rw[bW hx,hM];rfl
 have e2:bK (gh G) (some c)=z.2:=by show gj (MM (gh G) c)=_;rw[bW hx,hM];rfl
 have hg:eP np (gh G) p d=G.set c M':=by unfold eP;rw[hb,cF];show G.set c (MM (gh G) c).tail=_;rw[bW hx,hM];rfl
 have hcut:cut z.1 x.M=M':=by rw[hM];exact lT (by rw[←hM];exact hnd)
 have hzk:(keyOf x.M z.1).isSome=true:=by rw[gL];exact⟨z,by rw[hM];simp,rfl⟩
 rw[hg,Cz]
 obtain⟨_,u2⟩:=mY (n:=n) (y:=⟨0,0,0,0,0,0,M'⟩) h.un hx (id:=z.1) hcut.symm hzk
 have hs:=dR (y:=⟨0,0,0,0,0,0,M'⟩) hx
 refine⟨z,e1,e2,hrn z (by rw[hM];simp),?_,?_⟩
 ·rw[u2]
  unfold gz
  rw[if_pos rfl]
 ·have:x.M.length=M'.length+1:=by rw[hM];rfl
  simp only at hs
  omega
end
theorem ix {G:List (List En)} {i:Nat} {M:List En} (h:G[i]? =some M):(gh G)[i]? =some ⟨0,0,0,0,0,0,M⟩:=by unfold gh;rw[List.getElem?_map,h];rfl
theorem tS {np:Nat} {G:List (List En)} {p d:Int} {c:Nat} (hl:G.length=np+1) (hb:bb np (gh G) p d=some c) {i:Nat} {y:En} {M:List En} (hM:G[i]? =some (y::M)):Ke.up y.2 (gj (MM (gh G) c))=false:=by
 obtain⟨hp,h,_⟩:=mj hb
 have hil:i≤np:=by have:=(List.getElem?_eq_some_iff.1 hM).1;omega
 obtain⟨_,t2⟩:=ov (gh G) (cV np p.toNat d.toNat) none
 obtain⟨c',e1,n1⟩:=t2 i (qE (by omega) hil) y M (bW (ix hM))
 have h':(cV np p.toNat d.toNat).foldl (cw (gh G)) none=some c:=h
 rw[h'] at e1
 injection e1 with e1
 rw[e1]
 exact n1
theorem Ck {np:Nat} {G:List (List En)} (hl:G.length=np+1) {p:Int} (hp:0≤p∧p<(np:Int)) (d:Int):(bb np (gh G) p d).isSome=decide (0<cI (gh G)):=by
 cases hb:bb np (gh G) p d with
 |some c=>
  obtain⟨_,_,x,z,M',hx,hM⟩:=mj hb
  have hs:=dR (y:=⟨0,0,0,0,0,0,[]⟩) hx
  have e:x.M.length=M'.length+1:=by rw[hM];rfl
  simp only[List.length_nil] at hs
  exact(decide_eq_true (by omega)).symm
 |none=>
  refine(decide_eq_false (fun hpos=> ?_)).symm
  have key: ∀(i:Nat) (M:List En),G[i]? =some M→M=[]:=fun i M hM=>by
   cases M with
   |nil=>rfl
   |cons y M=>
    exfalso
    have hil:i≤np:=by have:=(List.getElem?_eq_some_iff.1 hM).1;omega
    obtain⟨_,t2⟩:=ov (gh G) (cV np p.toNat d.toNat) none
    obtain⟨c',e1,_⟩:=t2 i (qE (by omega) hil) y M (bW (ix hM))
    unfold bb at hb
    rw[if_pos hp] at hb
    unfold gT at hb
    rw[hb] at e1
    cases e1
  have:=ld (H:=gh G) (fun i x hx=>key i x.M (gE hx))
  omega
def kq (M:List En):Prop:=M.Pairwise (fun a b=>Ke.up b.2 a.2=false)
theorem nH (R:List (Nat×Nat)): ∀k,kq (fy R k)
 |0=>List.Pairwise.nil
 |k+1=>by
  unfold kq
  rw[fy,List.pairwise_append]
  refine⟨?_,nH R k,?_⟩
  ·refine List.Pairwise.imp_of_mem (R:=fun _ _=>True) ?_ (List.pairwise_of_forall (fun _ _=>trivial))
   intro a b ha hb _
   rw[(jr.1 ha).2,(jr.1 hb).2,tJ]
   simp
  ·intro a ha b hb
   obtain⟨j,hj,_,e⟩:=gY.1 hb
   rw[(jr.1 ha).2,e,tJ]
   simp
   omega
theorem wN (L:List Ph.Item) (h:Ph.mD L):kq (dl L):=by
 unfold kq dl
 rw[List.pairwise_map]
 refine List.Pairwise.imp ?_ h
 intro a b hab
 rw[Bw]
 unfold Ph.ah at hab
 simp
 omega
theorem vo (R:List (Nat×Nat)) (L:List Ph.Item) (h:Ph.mD L):kq (all R L):=by
 unfold kq all
 rw[List.pairwise_append]
 refine⟨wN L h,nH R 256,?_⟩
 intro a ha b hb
 obtain⟨d,s,_,e⟩:=sD.1 ha
 obtain⟨j,_,_,e'⟩:=gY.1 hb
 rw[e,e']
 exact Be _ _
theorem cJ.tD {w:World} {sb qb gq hb gh n most turn:Nat} {M:List En} (h:cJ w sb qb gq hb gh n most turn M):kq M:=by
 obtain⟨R,L,hS,hI⟩:=h
 rw[←hI.eq]
 exact vo R L hS.h.uw.srt
theorem PQ.tD {w:World} {O:Nat→Prop} {pb n np q T:Nat} {G:List (List En)} (h:PQ w O pb n np q T G) {i:Nat} {M:List En} (hi:G[i]? =some M):kq M:=by
 obtain⟨base,lo,mb,v,H,hQ,hG,hO⟩:=h
 rw[←hG] at hi
 simp only[Ms,List.getElem?_map] at hi
 cases hx:H[i]? with
 |none=>rw[hx] at hi;cases hi
 |some x=>
  rw[hx] at hi
  injection hi with hi
  subst hi
  exact cJ.tD (hQ.p.sets.it i x hx)
def fs (G:List (List En)) (z:En):Prop:= ∃(i:Nat) (M:List En),G[i]? =some M∧z∈M
section
variable {w:World} {O:Nat→Prop} {pb n np q T:Nat} {G:List (List En)}
theorem yw {p d:Int}: ∀z,fs (eP np (gh G) p d) z→fs G z:=by
 rintro z ⟨i,M,hM,hz⟩
 unfold eP at hM
 cases hb:bb np (gh G) p d with
 |none=>rw[hb,cF] at hM;exact⟨i,M,hM,hz⟩
 |some c=>
  rw[hb,cF] at hM
  simp only at hM
  rcases Nat.decEq i c with e|e
  ·rw[List.getElem?_set_ne (fun q=>e q.symm)] at hM
   exact⟨i,M,hM,hz⟩
  ·subst e
   obtain⟨_,_,x,z',M',hx,hM'⟩:=mj hb
   have hil:i<G.length:=(List.getElem?_eq_some_iff.1 (gE hx)).1
   rw[List.getElem?_set_self hil,bW hx] at hM
   injection hM with hM
   subst hM
   exact⟨i,x.M,gE hx,List.mem_of_mem_tail hz⟩
end
theorem r4 {T:List Pi.Th} {L:List Pi.Lk} (ha:Pi.pF L) {t:Nat} (ht:t<T.length) (hb:Pi.behind L t=[]):Pi.bu T L (t:Int)=Pi.fF T t:=by
 unfold Pi.bu Pi.mN
 rw[if_pos (by simpa using ht),show((t:Int)).toNat=t from rfl,Pi.pL ha,hb]
 rfl
theorem jM (n:Nat) (M:Mc) (κ:Nat→Ke.K): ∀(l:List Nat) (g:Pi.Md),(∀x∈l,x<g.T.length∧cB M n (M.th x)=κ x∧Ke.aA (κ x)=true)→(l.foldl (ff n M) g).T.length=g.T.length∧(l.foldl (ff n M) g).L=g.L∧ ∀x,(x∈l∨Pi.fF g.T x=κ x)→Pi.fF (l.foldl (ff n M) g).T x=κ x
 |[],g,_=>⟨rfl,rfl,fun x h=>h.elim (fun q=>by cases q) id⟩
 |y::l,g,h=>by
  obtain⟨hy,ho,hr⟩:=h y (by simp)
  have e:ff n M g y=⟨g.T.set y ⟨κ y,(g.T[y]'hy).u⟩,g.L⟩:=by
   unfold ff Pi.fh
   rw[ho,if_pos (by simp[Pi.mN,hr,hy]),show((y:Int)).toNat=y from rfl,List.getElem?_eq_getElem hy]
  rw[List.foldl_cons,e]
  obtain⟨h1,h2,h3⟩:=jM n M κ l ⟨g.T.set y ⟨κ y,(g.T[y]'hy).u⟩,g.L⟩ (fun x hx=>by have:=h x (by simp[hx]);simpa using this)
  refine⟨by rw[h1];simp,h2,fun x hx=>h3 x ?_⟩
  by_cases exy:x=y
  ·subst exy
   refine .inr ?_
   simp[Pi.fF,hy]
  ·rcases hx with hx|hx
   ·rcases List.mem_cons.1 hx with q|q
    ·exact absurd q exy
    ·exact .inl q
   ·refine .inr ?_
    show Pi.fF (g.T.set y _) x=_
    unfold Pi.fF at hx⊢
    rw[List.getElem?_set_ne (fun q=>exy q.symm)]
    exact hx
theorem nC {S:Nat→Nat} {fr:Bool} {n:Nat}: ∀k,k≤n→ ∀x:Fin n,x∈Gt.pl S fr n k↔x.val<k∧(S x.val==0)=fr
 |0,_,x=>by simp[Gt.pl]
 |k+1,hk,x=>by
  have ih:=nC (S:=S) (fr:=fr) k (by omega) x
  by_cases hs:(S k==0)=fr
  ·rw[Gt.gI (by omega) hs,List.mem_append,ih,List.mem_singleton]
   constructor
   ·rintro(h|h)
    ·exact⟨by omega,h.2⟩
    ·subst h;exact⟨Nat.lt_succ_self _,hs⟩
   ·rintro⟨h1,h2⟩
    rcases Nat.lt_succ_iff_lt_or_eq.1 h1 with h|h
    ·exact .inl ⟨h,h2⟩
    ·exact .inr (Fin.ext h)
  ·rw[Gt.tu hs,ih]
   constructor
   ·rintro⟨h1,h2⟩;exact⟨by omega,h2⟩
   ·rintro⟨h1,h2⟩
    rcases Nat.lt_succ_iff_lt_or_eq.1 h1 with h|h
    ·exact⟨h,h2⟩
    ·rw[h] at h2;exact absurd h2 hs
theorem dV {M:Mc} {n x:Nat}:x∈bV M n↔x<n∧M.S x≠0:=by
 unfold bV
 rw[List.mem_map]
 constructor
 ·rintro⟨y,hy,rfl⟩
  have:=(nC n (Nat.le_refl _) y).1 hy
  exact⟨this.1,by simpa using this.2⟩
 ·rintro⟨h1,h2⟩
  exact⟨⟨x,h1⟩,(nC n (Nat.le_refl _) _).2 ⟨h1,by simpa using h2⟩,rfl⟩
theorem pQ {n:Nat} {G S:Nat→Nat} {x:Nat} (hx:x<n) (hs:S x≠0):Gt.hasB n G S (x:Int) (G x)=true:=by
 unfold Gt.hasB
 simp[hx,hs]
theorem oO {M:Mc} {n x:Nat} {t:Tr} (hx:x<n) (hp:t.p=(x:Int)) (hg:t.g=M.G x) (hs:M.S x≠0):dC M n t=M.S x:=by
 unfold dC
 rw[hp,hg,pQ hx hs]
 rfl
theorem jL {n:Nat} {G S:Nat→Nat} {x s:Nat} (hx:x<n) (hs:S x≠0) (hm:Gt.lA (S x) s=true):dp n G S (x:Int) (G x) s=Gt.aw S x s:=by
 unfold dp
 rw[if_pos ⟨pQ hx hs,hm⟩]
 rfl
theorem y4 {n:Nat} {G S:Nat→Nat} {x s:Nat} (hm:Gt.lA (S x) s=false):dp n G S (x:Int) (G x) s=S:=by
 unfold dp
 rw[if_neg (fun q=>by have:=q.2;rw[show((x:Int)).toNat=x from rfl,hm] at this;cases this)]
theorem ud {np n q:Nat} {G:List (List En)} (hl:G.length=np+1) {p:Nat} (hp:p<np) {id:Nat} (hi:id<n) {k:Ke.K} (hr:Ke.aA k=true) (hno: ∀z,fs G z→z.1≠id) (z:En):
  fs (dM np n q (gh G) (p:Int) (id:Int) k) z↔z=(id,k)∨fs G z:=by
 have hw:aM n (gh G) 0 (id:Int)=none:=dP n _ (gh G) 0 (fun i x hx _=>bc.2 (fun y hy=>hno y ⟨i,x.M,gE hx,hy⟩))
 have hc:jm np n (gh G) (p:Int) (id:Int) k=0:=by
  unfold jm
  rw[if_neg (by unfold py;rintro((q|q)|q|q|q);omega;omega;omega;omega;rw[hr] at q;cases q),hw]
  rfl
 have hal:iU np n q (gh G) p<G.length:=by
  rw[hl]
  unfold iU
  split<;>omega
 have hx:G[iU np n q (gh G) p]? =some (G[iU np n q (gh G) p]'hal):=List.getElem?_eq_getElem _
 have hg:dM np n q (gh G) (p:Int) (id:Int) k=G.set (iU np n q (gh G) p) (Go.Proofs.YtjlbmmiomfpgiaaGreatDoor.put (id,k) (MM (gh G) (iU np n q (gh G) p))):=by
  unfold dM
  rw[if_pos hc,cF]
  rfl
 rw[hg]
 generalize iU np n q (gh G) p=j at*
 generalize G[j]=X at hx
 rw[bW (ix hx)]
 constructor
 ·rintro⟨i,M,hM,hz⟩
  by_cases e:i=j
  ·subst e
   rw[List.getElem?_set_self hal] at hM
   injection hM with hM
   subst hM
   exact(cM.1 hz).imp (fun q=>q) (fun q=>⟨_,X,hx,q⟩)
  ·rw[List.getElem?_set_ne (fun q=>e q.symm)] at hM
   exact .inr ⟨i,M,hM,hz⟩
 ·rintro(rfl|⟨i,M,hM,hz⟩)
  ·exact⟨j,_,List.getElem?_set_self hal,cM.2 (.inl rfl)⟩
  ·by_cases e:i=j
   ·subst e
    rw[hx] at hM
    injection hM with hM
    subst hM
    exact⟨i,_,List.getElem?_set_self hal,cM.2 (.inr hz)⟩
   ·exact⟨i,M,by rw[List.getElem?_set_ne (fun q=>e q.symm)];exact hM,hz⟩
theorem xW {np n q:Nat} {G:List (List En)} (p id:Int) (k:Ke.K):(dM np n q (gh G) p id k).length=G.length:=by
 unfold dM
 split
 ·rw[List.length_set,cF]
 ·rw[cF]
theorem qK {w:World} {O:Nat→Prop} {pb n np q T:Nat} {G:List (List En)} (h:PQ w O pb n np q T G) {p d:Int} (hb:(bb np (gh G) p d).isSome=true):
  ∃(x:Nat) (k:Ke.K),x<n∧bI (gh G) (bb np (gh G) p d)=(x:Int)∧fs G (x,k)∧(∀z,fs G z→Ke.up z.2 k=false)∧ ∀z,fs (eP np (gh G) p d) z↔fs G z∧z.1≠x:=by
 obtain⟨c,hc⟩:=Option.isSome_iff_exists.1 hb
 obtain⟨z,e1,e2,hz,hw,hs⟩:=h.D1 hc
 obtain⟨_,_,y,z',M',hy,hM⟩:=mj hc
 have hzz:z'=z:=by
  have q1:bI (gh G) (some c)=(z'.1:Int):=by show q7 (MM (gh G) c)=_;rw[bW hy,hM];rfl
  have q2:bK (gh G) (some c)=z'.2:=by show gj (MM (gh G) c)=_;rw[bW hy,hM];rfl
  rw[e1] at q1
  rw[e2] at q2
  exact Prod.ext (by omega) q2.symm
 subst hzz
 have hcl:c<G.length:=(List.getElem?_eq_some_iff.1 (gE hy)).1
 have hG:G[c]? =some (z'::M'):=by rw[←hM];exact gE hy
 have hg:eP np (gh G) p d=G.set c M':=by unfold eP;rw[hc,cF];show G.set c (MM (gh G) c).tail=_;rw[bW hy,hM];rfl
 refine⟨z'.1,z'.2,hz,by rw[hc];exact e1,⟨c,_,hG,by simp⟩,?_,?_⟩
 ·rintro y ⟨i,M2,hM2,hy2⟩
  have hk:gj (MM (gh G) c)=z'.2:=by rw[bW hy,hM];rfl
  cases hM3:M2 with
  |nil=>rw[hM3] at hy2;cases hy2
  |cons y0 M4=>
   have h0:Ke.up y0.2 z'.2=false:=by rw[←hk];exact tS h.len hc (by rw[←hM3];exact hM2)
   rw[hM3] at hy2
   rcases List.mem_cons.1 hy2 with e|e
   ·rw[e];exact h0
   ·have hf:=h.tD hM2
    rw[hM3] at hf
    exact jd ((List.pairwise_cons.1 hf).1 y e) h0
 ·intro y
  constructor
  ·intro hy2
   refine⟨yw y hy2,?_⟩
   obtain⟨i,M2,hM2,hy3⟩:=hy2
   exact bc.1 (di hw hz (ix hM2)) y hy3
  ·rintro⟨⟨i,M2,hM2,hy2⟩,hne⟩
   rw[hg]
   by_cases e:i=c
   ·subst e
    rw[hG] at hM2
    injection hM2 with hM2
    subst hM2
    rcases List.mem_cons.1 hy2 with q|q
    ·rw[q] at hne;exact absurd rfl hne
    ·exact⟨i,M',List.getElem?_set_self hcl,q⟩
   ·exact⟨i,M2,by rw[List.getElem?_set_ne (fun q=>e q.symm)];exact hM2,hy2⟩
theorem uj {np:Nat} {G:List (List En)} (hl:G.length=np+1) {p d:Int} (hp:0≤p∧p<(np:Int)) (hb:(bb np (gh G) p d).isSome=false) (z:En): ¬fs G z:=by
 rintro⟨i,M,hM,hz⟩
 have h1:=Ck hl hp d
 rw[hb] at h1
 have h2:=of_decide_eq_false h1.symm
 have hs:=dR (y:=⟨0,0,0,0,0,0,[]⟩) (ix hM)
 simp only[List.length_nil] at hs
 have:0<M.length:=List.length_pos_of_mem hz
 omega
theorem AP {np:Nat} {G:List (List En)} (p d:Int):(eP np (gh G) p d).length=G.length:=by
 unfold eP
 split
 ·rw[cF]
 ·rw[List.length_set,cF]
theorem nY {M:Mc} {n c:Nat} (hc:c<n) (h: ∀x,x<c→M.S x≠0) (h0:M.S c=0):cj M n=some c:=by
 have e:Gt.pl M.S true n c=[]:=by
  cases hp:Gt.pl M.S true n c with
  |nil=>rfl
  |cons y l=>
   have:=(nC (S:=M.S) (fr:=true) c (by omega) y).1 (by rw[hp];simp)
   exact absurd (by simpa using this.2) (h y.val this.1)
 have e2:=Gt.gI (S:=M.S) (fr:=true) hc (by simp[h0])
 rw[e] at e2
 obtain⟨t,ht⟩:=Gt.pR M.S true n (c+1) (n-(c+1))
 rw[e2,show c+1+(n-(c+1))=n by omega] at ht
 unfold cj
 rw[←ht]
 rfl
end Go.Proofs.YtjlbmmiomfpgiaaGreatDoor
namespace Go.Proofs.YtjlbmmiomfpgiaaGreatDoor
open Go.RowKit Go.Lib Go.Shelf
attribute [local go_sem ↓] Go.wp_at_zero Go.wp_at_succ
def Al (w wr:World) (ad:Ad) (P n q T:Nat) (M:Mc):Prop:=(∃lab,ax wr lab ad P n q T M∧ ∀k,lab k≠0→w.heap.size≤k)∧Below w.heap.size w wr
section
variable {w wr w':World} {ad:Ad} {P n q T T':Nat} {M M':Mc}
theorem Al.goes (h:Al w wr ad P n q T M) {lab:Nat→Nat} (hi: ∀k,lab k≠0→w.heap.size≤k) (g:az wr w' lab ad P n q T' M'):Al w w' ad P n q T' M':=by
 obtain⟨_,hb⟩:=h
 obtain⟨lab',hi',hl,hf⟩:=g
 refine⟨⟨lab',hi',fun k hk=> ?_⟩,hb.trans ⟨hf.os,hf.tape,hf.output,hf.size,fun k hk=>hf.block k (Nat.lt_of_lt_of_le hk hb.size) (fun q=>by have:=hi k q;omega)⟩⟩
 rcases Nat.lt_or_ge k wr.heap.size with q|q
 ·exact hi k (by rw[←hl.old k q];exact hk)
 ·exact Nat.le_trans hb.size q
theorem Al.call (h:Al w wr ad P n q T M) {f:Nat} {args:Array Value} {R:Ending→World→Prop} (hc: ∀lab,ax wr lab ad P n q T M→Calls Tryz.prog f args wr fun e w'=>R e w'∧az wr w' lab ad P n q T' M'):Calls Tryz.prog f args wr fun e w'=>R e w'∧Al w w' ad P n q T' M':=by
 have h0:=h
 obtain⟨⟨lab,hi,hl⟩,hb⟩:=h
 exact(hc lab hi).mono (fun e w' ⟨r,g⟩=>⟨r,h0.goes hl g⟩)
theorem Al.mQ (h:Al w wr ad P n q T M):Below w.heap.size w wr:=h.2
end
section
variable {w wr w':World} {ad:Ad} {P n q T T':Nat} {M M':Mc}
theorem CB (P n q m qu ag:Nat) (hP:1≤P∧P≤64) (hn:1≤n∧n≤1024) (hq:1≤q∧q≤256) (hm:m≤32) (hqu:1≤qu∧qu<18446744073709551616) (hag:1≤ag∧ag<18446744073709551616) (w:World) (ht:Gt.kH w):
  Calls Tryz.prog 10 #[.agg #[.int .i64 (P:Int),.int .i64 (n:Int),.int .i64 (q:Int),.int .i64 (m:Int),.int .u64 (qu:Int),.int .u64 (ag:Int)]] w fun e w'=> ∃a,e= .returned (.pointer (some ⟨a.m,0,none⟩))∧Al w w' a P n q 0 (gx P n m qu ag):=
 (fU P n q m qu ag hP hn hq hm hqu hag w ht).mono (fun e w' ⟨a,lab,he,hi,hl,hb⟩=>⟨a,he,⟨lab,hi,hl⟩,hb⟩)
theorem Al.lD (h:Al w wr ad P n q T M) (ap:Option Addr) (len cap:Nat) (O R:Nat→Int) (hp:Ex.mJ wr ap len O R) (hr:Ex.Rt len O R) (hf:M.pr.length<16):
  Calls Tryz.prog 17 #[.pointer (some ⟨ad.m,0,none⟩),.slice ap len cap] wr fun e w'=>e= .returned (.tuple #[.int .i64 (M.pr.length:Int),.int .i64 0])∧Al w w' ad P n q T {M with pr:=M.pr++[⟨len,O,R⟩]}:=
 h.call (R:=fun e _=>e= .returned (.tuple #[.int .i64 (M.pr.length:Int),.int .i64 0])) (fun lab hi=>hi.lD ap len cap O R hp hr hf)
end
def kj (P:Nat) (p:Pm):Mc:={gx P 8 4 50 50 with pr:=[p]}
theorem sE (w:World) (ht:Gt.kH w) (P:Nat) (hP:1≤P∧P≤64) (ap:Option Addr) (len cap:Nat) (O R:Nat→Int) (hp:Ex.mJ w ap len O R) (hr:Ex.Rt len O R):
  Calls Tryz.prog 28 #[.int .i64 (P:Int),.slice ap len cap] w fun e w'=> ∃ad,e= .returned (.pointer (some ⟨ad.m,0,none⟩))∧Al w w' ad P 8 8 0 (kj P ⟨len,O,R⟩):=by
 have HN:Hid (Calls Tryz.prog 10 #[.agg #[.int .i64 (P:Int),.int .i64 8,.int .i64 8,.int .i64 4,.int .u64 50,.int .u64 50]] w fun e w'=> ∃a,e= .returned (.pointer (some ⟨a.m,0,none⟩))∧Al w w' a P 8 8 0 (gx P 8 4 50 50)):=CB P 8 8 4 50 50 hP (by decide) (by decide) (by decide) (by decide) (by decide) w ht
 have HL:Hid (∀V ad,Al w V ad P 8 8 0 (gx P 8 4 50 50)→Calls Tryz.prog 17 #[.pointer (some ⟨ad.m,0,none⟩),.slice ap len cap] V fun e w'=>e= .returned (.tuple #[.int .i64 0,.int .i64 0])∧Al w w' ad P 8 8 0 (kj P ⟨len,O,R⟩)):=fun V ad h=>h.lD ap len cap O R (hp.below h.mQ) hr (by show 0<16;decide)
 clear hp hr ht
 go_enter Tryz.func28,Tryz.ntmps28
 go_wp2_with (first
  |(go_at_call 10;refine(HN.out).mono ?_;rintro e w1 ⟨ad,rfl,hA⟩;have HA:=aa hA;clear hA)
  |(go_at_call 17;refine(HL.out _ ad HA.out).mono ?_;rintro e w2 ⟨rfl,hA2⟩;have HA2:=aa hA2;clear hA2))
 go_ret
 exact⟨ad,rfl,HA2.out⟩
theorem Aw (g:Pi.Md) (t:Int) (k:Ke.K) (x:Nat):((Pi.fh g t k).2.T[x]?).map (·.u)=(g.T[x]?).map (·.u):=by
 unfold Pi.fh
 split
 ·split
  ·rename_i y hy
   show((g.T.set t.toNat ⟨k,y.u⟩)[x]?).map (·.u)=_
   by_cases e:t.toNat=x
   ·rw[e] at hy⊢
    rw[List.getElem?_set_self (List.getElem?_eq_some_iff.1 hy).1,hy]
    rfl
   ·rw[List.getElem?_set_ne e]
  ·rfl
 ·rfl
theorem yW (n:Nat) (M:Mc) (x:Nat): ∀(l:List Nat) (g:Pi.Md),((l.foldl (ff n M) g).T[x]?).map (·.u)=(g.T[x]?).map (·.u)
 |[],g=>rfl
 |y::l,g=>by rw[List.foldl_cons,yW n M x l];exact Aw _ _ _ _
theorem yn (M:Mc) (n x:Nat):((settle M n).gr.T[x]?).map (·.u)=(M.gr.T[x]?).map (·.u):=yW n M x _ _
theorem zM (g:Pi.Md) (t:Int) (k:Ke.K):(Pi.fh g t k).2.L=g.L:=by
 unfold Pi.fh
 split
 ·split<;>rfl
 ·rfl
theorem wz (n:Nat) (M:Mc): ∀(l:List Nat) (g:Pi.Md),(l.foldl (ff n M) g).L=g.L
 |[],g=>rfl
 |y::l,g=>by rw[List.foldl_cons,wz n M l];exact zM _ _ _
theorem lV (M:Mc) (n:Nat):(settle M n).gr.L=M.gr.L:=wz n M _ _
section
variable {w wr w':World} {ad:Ad} {P n q T T':Nat} {M M':Mc} {K:Nat→Prop}
end
section
variable {w wr w':World} {ad:Ad} {T:Nat} {M M1:Mc} {K:Nat→Prop} {s:Nat} {p:Pm}
end
end Go.Proofs.YtjlbmmiomfpgiaaGreatDoor
namespace Go.Proofs.YtjlbmmiomfpgiaaGreatDoor
open Go.RowKit Go.Lib Go.Shelf
section
variable {w wr w':World} {ad:Ad} {P n q T:Nat} {M:Mc} {K:Nat→Prop}
theorem fw.below (h:fw w wr ad P n q T M K) (hb:Below wr.heap.size wr w') {K':Nat→Prop} (hk: ∀k,K' k→K k∨(wr.heap.size≤k∧k<w'.heap.size)):fw w w' ad P n q T M K':=by
 obtain⟨⟨lab,hi,h1,h2⟩,hw⟩:=h
 refine⟨⟨lab,hi.below hb,h1,fun k q=> ?_⟩,bt hw hb⟩
 rcases hk k q with r|r
 ·exact⟨(h2 k r).1,Nat.lt_of_lt_of_le (h2 k r).2 hb.size⟩
 ·exact⟨hi.fresh r.1,r.2⟩
end
end Go.Proofs.YtjlbmmiomfpgiaaGreatDoor
namespace Go.Proofs.YtjlbmmiomfpgiaaGreatDoor.Cb
open Go.RowKit Go.Lib
section
variable {w w':World} {base s P:Nat} {v:Value} {L:List bL}
theorem vb (h:cE w base s P v L) (b p:Nat) (hr:fo b p=true) (hl:L.length<32) (hq: ¬P*232792560<cW L+asks ⟨b,p,0,0⟩):Calls Tryz.prog 37 #[.pointer (some ⟨s,0,none⟩),.int .u64 (b:Int),.int .u64 (p:Int)] w fun e w'=>e= .returned (.tuple #[.int .i64 (L.length:Int),.int .i64 0])∧(∃v',cE w' base s P v' (L++[⟨b,p,0,0⟩])∧ ∀k,v'.ownBlock=some k→v.ownBlock=some k∨w.heap.size≤k)∧Fr (fun k=>k=s∨some k=v.ownBlock) w w':=by
 have HR:=aa (fun w=>cm w b p)
 simp only[hr] at HR
 have hok:=(nV b p).1 hr
 have HK:=aa (fun w=>oR w ⟨b,p,0,0⟩ hok)
 have HS:Hid (∀w1,Below w.heap.size w w1→Calls Tryz.prog 71 #[.pointer (some ⟨s,0,none⟩)] w1 fun e w'=>e= .returned (.int .u64 (cW L:Int))∧Below w1.heap.size w1 w'):=fun w1 hb=>yO (h.below hb)
 obtain⟨a,cap,rfl,_,_⟩:=h.form
 have c0:=h.c0
 have c1:=h.c1
 have hs:=h.lt
 have n1: ¬(L.length:Int)=32:=by omega
 have n2: ¬L.length=32:=by omega
 have q1:=iF h.f.all
 have q2:=kN hok
 have q3:=h.f.p2
 have HI:Hid (w.cell? ⟨s,0,none⟩=some (.int .u64 (P:Int))∧w.cell? ⟨s,1,none⟩=some (.slice a L.length cap)):=⟨c0,c1⟩
 generalize asks ⟨b,p,0,0⟩=q at HK hq q2
 generalize cW L=z at HS hq q1
 have e1:IntKind.u64.wrap ((z:Int)+(q:Int))=((z+q:Nat):Int):=by rw[lz _ (by omega) (by omega)];simp
 have e2:IntKind.u64.wrap ((P:Int)*232792560)=((P*232792560:Nat):Int):=by rw[lz _ (by omega) (by omega)];simp
 have e3: ¬((P*232792560:Nat):Int)<((z+q:Nat):Int):=by omega
 have HPP:=aa h
 clear h hr hq q1 q2 q3
 go_enter Tryz.func37,Tryz.ntmps37
 go_wp2_with (go_at_call 70;refine(HR.out _).mono ?_;rintro e w1 ⟨rfl,c,rfl⟩)
 go_region_held3 (fun w'=>w'.cell? ⟨w.heap.size,0,none⟩=some (.int .u64 (b:Int))∧w'.cell? ⟨w.heap.size,1,none⟩=some (.int .u64 (p:Int))∧w'.cell? ⟨s,0,none⟩=some (.int .u64 (P:Int))∧w'.cell? ⟨s,1,none⟩=some (.slice a L.length cap)∧Below w.heap.size w w')
  (first|exact yK HI.out|exact Bl (by assumption) hb)
  (first
   |(go_at_call 71;refine(HS.out _ (xg (by assumption))).mono ?_;rintro e w1 ⟨rfl,hb⟩)
   |(go_at_call 72;refine(HK.out _).mono ?_;rintro e w1 ⟨rfl,c',hw⟩;have hb:=pH hw;clear hw))
 rename_i hS
 obtain⟨t0,t1,t2,t3,hbw⟩:=hS
 have hs1:s<w1.heap.size:=Nat.lt_of_lt_of_le hs hbw.size
 have c1a: ∀o,(w1.alloc o).cell? ⟨s,1,none⟩=some (.slice a L.length cap):=fun o=>(Below.cell ((Below.refl w1.heap.size w1).alloc (Nat.le_refl _) o) hs1).trans t3
 have HEND:=aa (HPP.out.more ⟨b,p,0,0⟩ hok hl hbw (o:= .cells (iX ⟨b,p,0,0⟩).toArray 165))
 have HOW:Hid (∀W:World,W.heap=(w1.alloc (.cells (iX ⟨b,p,0,0⟩).toArray 165)).heap→W.ownsRow base 165 4 (.slice a L.length cap) L.length (aK L)):=fun W hW=>((HPP.out.below (hbw.alloc hbw.size _)).eI hW).own
 have HNW:Hid (∀W:World,W.heap=(w1.alloc (.cells (iX ⟨b,p,0,0⟩).toArray 165)).heap→ ∀j u,(iX ⟨b,p,0,0⟩)[j]? =some u→W.cell? ((⟨w1.heap.size,0,none⟩:Addr).add j)=some u):=fun W hW=>gM hW
 have HBS:Hid (∀W:World,W.heap=(w1.alloc (.cells (iX ⟨b,p,0,0⟩).toArray 165)).heap→base≤W.heap.size):=fun W hW=>((HPP.out.below (hbw.alloc hbw.size _)).eI hW).bs
 have hszw:=hbw.size
 have HLOC:Hid (∀(v1:Value) (m:Nat),(v1.ownBlock=(Value.slice a L.length cap).ownBlock∨v1.ownBlock=some m)→w1.heap.size≤m→ ∀k,v1.ownBlock=some k→(Value.slice a L.length cap).ownBlock=some k∨w.heap.size≤k):=fun v1 m hat hm k hk=>by
  rcases hat with q|q
  ·exact .inl (q▸hk)
  ·rw[q] at hk
   injection hk with hk
   exact .inr (by omega)
 clear hszw
 obtain⟨i0,hi0,hz0,hz1,hz2⟩:=info_parts ri
 clear HPP hbw hok HI HS HK HR
 go_wp2
 refine wp_region_held_drew (S:=(fun _=>True)) (by kernel_rfl) ?_ (fun hHeld=> ?_)
 ·trivial
 refine aH 0 (v:= ?_) rfl ?v0 ?_
 case v0=>(intro w hSw;(try dsimp only at hSw);go_simp;try with_reducible rfl)
 try simp only[aq]
 refine aH 1 (v:= ?_) rfl ?v1 ?_
 case v1=>(intro w hSw;(try dsimp only at hSw);go_simp;try with_reducible rfl)
 try simp only[aq]
 refine aH 2 (v:= ?_) rfl ?v2 ?_
 case v2=>(intro w hSw;(try dsimp only at hSw);go_simp;try with_reducible rfl)
 try simp only[aq]
 refine aH 3 (v:= ?_) rfl ?v3 ?_
 case v3=>(intro w hSw;(try dsimp only at hSw);go_simp;try with_reducible rfl)
 try simp only[aq]
 refine wpAnyH_ready (rs:=[4,5]) (by kernel_rfl) (by simp) ?_
 refine AllReadyH.cons rfl (fun K hK=> ?_) (AllReadyH.cons rfl (fun K hK=> ?_) AllReadyH.nil)
 ·skip
  go_simp
  refine hK.out _ _ ?_ (fun hHeld=> ?_)
  ·trivial
  clear hK K
  try simp only[aq]
  refine a8 5 rfl (fun K hK=> ?_)
  go_simp
  refine hK.out _ _ ?_ (fun hHeld=> ?_)
  ·trivial
  clear hK K
  try simp only[aq]
  refine aH 6 (v:= ?_) rfl ?v6 ?_
  case v6=>(intro w hSw;(try dsimp only at hSw);go_simp;try with_reducible rfl)
  try simp only[aq]
  refine a8 7 rfl (fun K hK=> ?_)
  go_simp
  refine hK.out _ _ ?_ (fun hHeld=> ?_)
  ·trivial
  clear hK K
  try simp only[aq]
  refine a8 8 rfl (fun K hK=> ?_)
  refine bf _ (by rfl) _ _ _ (by rfl) base 165 i0 (.agg #[.int .u64 0,.int .u64 0,.int .u64 0,.int .u64 0]) 4 32 Tryz.underlying135 hi0 hz0 hz1 hz2 rfl (by omega) (.slice a L.length cap) L.length (aK L) (by rfl) (HOW.out _ rfl) ⟨w1.heap.size,0,none⟩ 1 1 (iX ⟨b,p,0,0⟩) (by rfl) rfl (HNW.out _ rfl) (lF _) (by unfold maxLen;omega) (by omega) (HBS.out _ rfl) ?_
  intro v1 w2 ho1 hg1 hat1
  obtain⟨y1,y2,hP,hF⟩:=HEND.out _ _ _ hg1 ho1 rfl rfl rfl rfl
  obtain⟨a1,d1,rfl⟩:=aG ho1
  have HX:=aa (And.intro (And.intro hP (HLOC.out _ _ hat1 (by simp))) hF)
  clear hP hF ho1 hg1 hat1
  refine hK.out _ _ ?_ (fun hHeld=> ?_)
  ·trivial
  clear hK K
  try simp only[aq]
  refine aH 9 (v:= ?_) rfl ?v9 ?_
  case v9=>(intro w hSw;(try dsimp only at hSw);go_simp;try with_reducible rfl)
  try simp only[aq]
  refine aH 10 (v:= ?_) rfl ?v10 ?_
  case v10=>(intro w hSw;(try dsimp only at hSw);go_simp;try with_reducible rfl)
  try simp only[aq]
  refine a8 11 rfl (fun K hK=> ?_)
  go_simp
  refine hK.out _ _ ?_ (fun hHeld=> ?_)
  ·trivial
  clear hK K
  try simp only[aq]
  refine wpAnyH_done (by kernel_rfl) ?_ _
  go_wp2
  go_ret2
  exact⟨by first|rfl|simp|(simp;omega),⟨_,HX.out.1.1,HX.out.1.2⟩,HX.out.2⟩
 ·skip
  go_simp
  refine hK.out _ _ ?_ (fun hHeld=> ?_)
  ·trivial
  clear hK K
  try simp only[aq]
  refine aH 6 (v:= ?_) rfl ?v6 ?_
  case v6=>(intro w hSw;(try dsimp only at hSw);go_simp;try with_reducible rfl)
  try simp only[aq]
  refine wpAnyH_ready (rs:=[4,7]) (by kernel_rfl) (by simp) ?_
  refine AllReadyH.cons rfl (fun K hK=> ?_) (AllReadyH.cons rfl (fun K hK=> ?_) AllReadyH.nil)
  ·skip
   go_simp
   refine hK.out _ _ ?_ (fun hHeld=> ?_)
   ·trivial
   clear hK K
   try simp only[aq]
   refine a8 7 rfl (fun K hK=> ?_)
   go_simp
   refine hK.out _ _ ?_ (fun hHeld=> ?_)
   ·trivial
   clear hK K
   try simp only[aq]
   refine a8 8 rfl (fun K hK=> ?_)
   refine bf _ (by rfl) _ _ _ (by rfl) base 165 i0 (.agg #[.int .u64 0,.int .u64 0,.int .u64 0,.int .u64 0]) 4 32 Tryz.underlying135 hi0 hz0 hz1 hz2 rfl (by omega) (.slice a L.length cap) L.length (aK L) (by rfl) (HOW.out _ rfl) ⟨w1.heap.size,0,none⟩ 1 1 (iX ⟨b,p,0,0⟩) (by rfl) rfl (HNW.out _ rfl) (lF _) (by unfold maxLen;omega) (by omega) (HBS.out _ rfl) ?_
   intro v1 w2 ho1 hg1 hat1
   obtain⟨y1,y2,hP,hF⟩:=HEND.out _ _ _ hg1 ho1 rfl rfl rfl rfl
   obtain⟨a1,d1,rfl⟩:=aG ho1
   have HX:=aa (And.intro (And.intro hP (HLOC.out _ _ hat1 (by simp))) hF)
   clear hP hF ho1 hg1 hat1
   refine hK.out _ _ ?_ (fun hHeld=> ?_)
   ·trivial
   clear hK K
   try simp only[aq]
   refine aH 9 (v:= ?_) rfl ?v9 ?_
   case v9=>(intro w hSw;(try dsimp only at hSw);go_simp;try with_reducible rfl)
   try simp only[aq]
   refine aH 10 (v:= ?_) rfl ?v10 ?_
   case v10=>(intro w hSw;(try dsimp only at hSw);go_simp;try with_reducible rfl)
   try simp only[aq]
   refine a8 11 rfl (fun K hK=> ?_)
   go_simp
   refine hK.out _ _ ?_ (fun hHeld=> ?_)
   ·trivial
   clear hK K
   try simp only[aq]
   refine wpAnyH_done (by kernel_rfl) ?_ _
   go_wp2
   go_ret2
   exact⟨by first|rfl|simp|(simp;omega),⟨_,HX.out.1.1,HX.out.1.2⟩,HX.out.2⟩
  ·skip
   go_simp
   refine hK.out _ _ ?_ (fun hHeld=> ?_)
   ·trivial
   clear hK K
   try simp only[aq]
   refine a8 4 rfl (fun K hK=> ?_)
   go_simp
   refine hK.out _ _ ?_ (fun hHeld=> ?_)
   ·trivial
   clear hK K
   try simp only[aq]
   refine a8 8 rfl (fun K hK=> ?_)
   refine bf _ (by rfl) _ _ _ (by rfl) base 165 i0 (.agg #[.int .u64 0,.int .u64 0,.int .u64 0,.int .u64 0]) 4 32 Tryz.underlying135 hi0 hz0 hz1 hz2 rfl (by omega) (.slice a L.length cap) L.length (aK L) (by rfl) (HOW.out _ rfl) ⟨w1.heap.size,0,none⟩ 1 1 (iX ⟨b,p,0,0⟩) (by rfl) rfl (HNW.out _ rfl) (lF _) (by unfold maxLen;omega) (by omega) (HBS.out _ rfl) ?_
   intro v1 w2 ho1 hg1 hat1
   obtain⟨y1,y2,hP,hF⟩:=HEND.out _ _ _ hg1 ho1 rfl rfl rfl rfl
   obtain⟨a1,d1,rfl⟩:=aG ho1
   have HX:=aa (And.intro (And.intro hP (HLOC.out _ _ hat1 (by simp))) hF)
   clear hP hF ho1 hg1 hat1
   refine hK.out _ _ ?_ (fun hHeld=> ?_)
   ·trivial
   clear hK K
   try simp only[aq]
   refine aH 9 (v:= ?_) rfl ?v9 ?_
   case v9=>(intro w hSw;(try dsimp only at hSw);go_simp;try with_reducible rfl)
   try simp only[aq]
   refine aH 10 (v:= ?_) rfl ?v10 ?_
   case v10=>(intro w hSw;(try dsimp only at hSw);go_simp;try with_reducible rfl)
   try simp only[aq]
   refine a8 11 rfl (fun K hK=> ?_)
   go_simp
   refine hK.out _ _ ?_ (fun hHeld=> ?_)
   ·trivial
   clear hK K
   try simp only[aq]
   refine wpAnyH_done (by kernel_rfl) ?_ _
   go_wp2
   go_ret2
   exact⟨by first|rfl|simp|(simp;omega),⟨_,HX.out.1.1,HX.out.1.2⟩,HX.out.2⟩
theorem rS (h:cE w base s P v L) (b p:Nat):Calls Tryz.prog 37 #[.pointer (some ⟨s,0,none⟩),.int .u64 (b:Int),.int .u64 (p:Int)] w fun e w'=>e= .returned (.tuple #[.int .i64 (mM P L b p:Int),.int .i64 (kD P L b p:Int)])∧(∃v',cE w' base s P v' (qP P L b p)∧ ∀k,v'.ownBlock=some k→v.ownBlock=some k∨w.heap.size≤k)∧Fr (fun k=>k=s∨some k=v.ownBlock) w w':=by
 unfold mM qP kD
 cases hr:fo b p with
 |false=>exact(qz h b p hr).mono (fun e w' hq=>⟨by rw[hq.1];simp,⟨v,by simp;exact h.below hq.2,fun k hk=> .inl hk⟩,Fr.aC hq.2⟩)
 |true=>
  by_cases hl:L.length=32
  ·exact(rZ h b p hr hl).mono (fun e w' hq=>⟨by rw[hq.1];simp[hl],⟨v,by simp[hl];exact h.below hq.2,fun k hk=> .inl hk⟩,Fr.aC hq.2⟩)
  ·have h32:=h.f.len
   by_cases hq:P*232792560<cW L+asks ⟨b,p,0,0⟩
   ·exact(sI h b p hr (by omega) hq).mono (fun e w' hh=>⟨by rw[hh.1];simp[hl,hq],⟨v,by simp[hl,hq];exact h.below hh.2,fun k hk=> .inl hk⟩,Fr.aC hh.2⟩)
   ·exact(vb h b p hr (by omega) hq).mono (fun e w' hh=>⟨by rw[hh.1];simp[hl,hq],by simp[hl,hq];exact hh.2.1,hh.2.2⟩)
end
end Go.Proofs.YtjlbmmiomfpgiaaGreatDoor.Cb
namespace Go.Proofs.YtjlbmmiomfpgiaaGreatDoor
open Go.RowKit Go.Lib Go.Shelf
attribute [local go_sem ↓] Go.wp_at_zero Go.wp_at_succ
section
variable {w W w':World} {lab labk:Nat→Nat} {a:Ad} {P n q T:Nat} {M:Mc}
open Classical in
theorem ax.C7 (h:ax W labk a P n q T M) (b p:Nat):
  Calls Tryz.prog 37 #[.pointer (some ⟨a.sb,0,none⟩),.int .u64 (b:Int),.int .u64 (p:Int)] W fun e w'=>e= .returned (.tuple #[.int .i64 (Cb.mM P M.sv b p:Int),.int .i64 (Cb.kD P M.sv b p:Int)])∧az W w' labk a P n q T {M with sv:=Cb.qP P M.sv b p}:=by
 obtain⟨base,v,hp,hl⟩:=h.sv
 refine(Cb.rS hp b p).mono ?_
 rintro e w' ⟨rfl,⟨v',hp',hv'⟩,hf⟩
 have h6:Fr (fun k=>labk k=6) W w':=(zN hf).to (fun k _ hk=>hk.elim (fun e=>by rw[e];exact h.lsb) (fun e=>hl k e.symm))
 have hL:mF W w' labk (fun k=>if v'.ownBlock=some k then 6 else labk k):=by
  refine⟨fun k hk=> ?_,fun k hk=> ?_⟩
  ·by_cases e:v'.ownBlock=some k
   ·simp only[e,if_true]
    rcases hv' k e with q|q
    ·exact(hl k q).symm
    ·omega
   ·simp only[e,if_false]
  ·by_cases e:v'.ownBlock=some k
   ·exact(Cb.ay hp'.own e).2.1
   ·simp only[e,if_false] at hk
    exact Nat.lt_of_lt_of_le (h.lt k hk) h6.size
 exact⟨rfl,_,h.tw hL h6 hp' (fun k hk=>by simp only[hk,if_true]),hL,h6.to (fun k _ hk=>by rw[hk];decide)⟩
theorem ax.admit (h:ax w lab a P n q T M) (b p:Nat):
  Calls Tryz.prog 12 #[.pointer (some ⟨a.m,0,none⟩),.int .u64 (b:Int),.int .u64 (p:Int)] w fun e w'=>e= .returned (.tuple #[.int .i64 (Cb.mM P M.sv b p:Int),.int .i64 (Cb.kD P M.sv b p:Int)])∧az w w' lab a P n q T {M with sv:=Cb.qP P M.sv b p}:=by
 have c6:=h.co.c6
 have HA:Hid (∀V,V.heap=w.heap→V.os=w.os→V.tape=w.tape→V.output=w.output→Calls Tryz.prog 37 #[.pointer (some ⟨a.sb,0,none⟩),.int .u64 (b:Int),.int .u64 (p:Int)] V fun e w'=>e= .returned (.tuple #[.int .i64 (Cb.mM P M.sv b p:Int),.int .i64 (Cb.kD P M.sv b p:Int)])∧az w w' lab a P n q T {M with sv:=Cb.qP P M.sv b p}):=fun V e1 e2 e3 e4=>by
  have hb:Below w.heap.size w V:=ak (Below.refl _ _) e1 e2 e3 e4
  exact((h.below hb).C7 b p).mono (fun e w' hq=>⟨hq.1,hq.2.ahead hb⟩)
 clear h
 generalize Cb.mM P M.sv b p=an at*
 generalize Cb.kD P M.sv b p=ac at*
 go_enter Tryz.func12,Tryz.ntmps12
 go_wp2_with (go_at_call 37;refine(HA.out w rfl rfl rfl rfl).mono ?_;rintro e w1 ⟨rfl,hg⟩;have HG:=aa hg;clear hg)
 go_ret2
 exact⟨rfl,HG.out⟩
end
end Go.Proofs.YtjlbmmiomfpgiaaGreatDoor
namespace Go.Proofs.YtjlbmmiomfpgiaaGreatDoor
open Go.RowKit Go.Lib Go.Shelf
theorem Cw (P n q:Nat) (M:Mc) (pr x:Nat):((dj P n q M pr x).pc pr).r= -1:=by
 unfold dj mK
 simp only[Gt.aj]
section
variable {w W:World} {lab labk:Nat→Nat} {a:Ad} {P n q T T':Nat} {M M':Mc} {sb pr:Nat} {l l':List Ev} {O:Nat→Prop}
end
end Go.Proofs.YtjlbmmiomfpgiaaGreatDoor
namespace Go.Proofs.YtjlbmmiomfpgiaaGreatDoor
open Go.RowKit
def j5 (M:Mc) (x:Nat):Prop:= ∃k,fs M.pl (x,k)
def Uo (M:Mc) (x:Nat):Option Int:=(M.gr.T[x]?).map (·.u)
theorem ti {n:Nat} {G:List (List En)} {x:Nat} {k:Ke.K} (y:Nat):(∃k',fs (cH n (gh G) (x:Int) k) (y,k'))↔ ∃k',fs G (y,k'):=by
 unfold cH
 split
 case isFalse=>rw[cF]
 case isTrue=>
  rw[cF]
  generalize zf n (gh G) (x:Int)=i
  cases hi:G[i]? with
  |none=>rw[List.set_eq_of_length_le (List.getElem?_eq_none_iff.1 hi)]
  |some X=>
   rw[bW (ix hi)]
   have hil:=(List.getElem?_eq_some_iff.1 hi).1
   have hids: ∀y,(∃k',(y,k')∈cK n X (x:Int) k)↔ ∃k',(y,k')∈X:=by
    intro y
    unfold cK
    split
    case isFalse=>exact Iff.rfl
    case isTrue hc=>
     split
     case isTrue=>exact Iff.rfl
     case isFalse=>
      have hk:(keyOf X ((x:Int)).toNat).isSome=true:=by
       unfold fE at hc
       split at hc
       ·cases hc
       ·split at hc
        ·assumption
        ·cases hc
      rw[show((x:Int)).toNat=x by omega] at hk⊢
      have hin: ∃k',(x,k')∈X:=by
       apply Classical.byContradiction
       intro hno
       have:keyOf X x=none:=bc.2 (fun z hz e=>hno ⟨z.2,by rw[←e];exact hz⟩)
       rw[this] at hk
       cases hk
      constructor
      ·rintro⟨k',hk'⟩
       rcases cM.1 hk' with q|q
       ·injection q with q1 q2
        rw[q1]
        exact hin
       ·exact⟨k',(fN.1 q).1⟩
      ·rintro⟨k',hk'⟩
       by_cases e:y=x
       ·exact⟨k,cM.2 (.inl (by rw[e]))⟩
       ·exact⟨k',cM.2 (.inr (fN.2 ⟨hk',e⟩))⟩
   constructor
   ·rintro⟨k',j,Y,hj,hm⟩
    by_cases e:j=i
    ·subst e
     rw[List.getElem?_set_self hil] at hj
     injection hj with hj
     subst hj
     obtain⟨k2,h2⟩:=(hids y).1 ⟨k',hm⟩
     exact⟨k2,_,X,hi,h2⟩
    ·rw[List.getElem?_set_ne (fun q=>e q.symm)] at hj
     exact⟨k',j,Y,hj,hm⟩
   ·rintro⟨k',j,Y,hj,hm⟩
    by_cases e:j=i
    ·subst e
     rw[hi] at hj
     injection hj with hj
     subst hj
     obtain⟨k2,h2⟩:=(hids y).2 ⟨k',hm⟩
     exact⟨k2,_,_,List.getElem?_set_self hil,h2⟩
    ·exact⟨k',j,Y,by rw[List.getElem?_set_ne (fun q=>e q.symm)];exact hj,hm⟩
theorem zi {n:Nat} {G:List (List En)} {x:Int} {k:Ke.K}:(cH n (gh G) x k).length=G.length:=by
 unfold cH
 split
 ·rw[List.length_set,cF]
 ·rw[cF]
theorem ju (n:Nat) (M:Mc) (g:Pi.Md) (y:Nat): ∀(l:List Nat) (G:List (List En)),((∃k',fs (l.foldl (fv n M g) G) (y,k'))↔ ∃k',fs G (y,k'))∧(l.foldl (fv n M g) G).length=G.length
 |[],G=>⟨Iff.rfl,rfl⟩
 |x::l,G=>by
  obtain⟨h1,h2⟩:=ju n M g y l (fv n M g G x)
  have h3:((∃k',fs (fv n M g G x) (y,k'))↔ ∃k',fs G (y,k'))∧(fv n M g G x).length=G.length:=by
   unfold fv
   split
   ·exact⟨ti y,zi⟩
   ·exact⟨Iff.rfl,rfl⟩
  rw[List.foldl_cons]
  exact⟨h1.trans h3.1,h2.trans h3.2⟩
theorem rY (g:Pi.Md) (t:Int) (k:Ke.K) (h: ∀y∈g.T,Ke.aA y.k=true): ∀y∈(Pi.fh g t k).2.T,Ke.aA y.k=true:=by
 unfold Pi.fh
 split
 case isFalse=>exact h
 case isTrue hc=>
  split
  case h_2=>exact h
  case h_1 x hx=>
   intro y hy
   rcases List.mem_or_eq_of_mem_set hy with q|q
   ·exact h y q
   ·rw[q]
    simp only[Bool.and_eq_true] at hc
    exact hc.2
theorem xV (g:Pi.Md) (t:Int) (k:Ke.K):(Pi.fh g t k).2.T.length=g.T.length:=by
 unfold Pi.fh
 split
 ·split
  ·exact List.length_set
  ·rfl
 ·rfl
theorem fe (n:Nat) (M:Mc): ∀(l:List Nat) (g:Pi.Md),(∀y∈g.T,Ke.aA y.k=true)→(∀y∈(l.foldl (ff n M) g).T,Ke.aA y.k=true)
 |[],g,h=>h
 |x::l,g,h=>fe n M l _ (rY g _ _ h)
theorem nB (n:Nat) (M:Mc): ∀(l:List Nat) (g:Pi.Md),(l.foldl (ff n M) g).T.length=g.T.length
 |[],g=>rfl
 |x::l,g=>(nB n M l _).trans (xV g _ _)
structure Kd (M R:Mc):Prop where
 qu:R.qu=M.qu
 ag:R.ag=M.ag
 pr:R.pr=M.pr
 pc:R.pc=M.pc
 th:R.th=M.th
 G:R.G=M.G
 S:R.S=M.S
 sv:R.sv=M.sv
 nw:R.nw=M.nw
 wh:R.wh=M.wh
 L:R.gr.L=M.gr.L
 U: ∀x,Uo R x=Uo M x
 tl:R.gr.T.length=M.gr.T.length
 kr:(∀y∈M.gr.T,Ke.aA y.k=true)→ ∀y∈R.gr.T,Ke.aA y.k=true
 ip: ∀x,j5 R x↔j5 M x
 pl:R.pl.length=M.pl.length
theorem dm (M:Mc) (n:Nat):Kd M (settle M n):=
 ⟨rfl,rfl,rfl,rfl,rfl,rfl,rfl,rfl,rfl,rfl,lV M n,fun x=>yn M n x,nB n M _ _,fun h=>fe n M _ _ h,fun x=>(ju n M _ x _ _).1,(ju n M _ 0 _ _).2⟩
theorem uJ {k k':Ke.K} (h:Ke.aA k=true) (h':Ke.aA k'=true):Ke.aA (Ke.dE k k')=true:=by
 unfold Ke.dE
 split<;>assumption
theorem qV {T:List Pi.Th} {L:List Pi.Lk} (h: ∀x∈T,Ke.aA x.k=true): ∀m t,Ke.aA (Pi.kf T L m t)=true
 |m,t=>by
  have h0:Ke.aA (Pi.fF T t)=true:=by
   unfold Pi.fF
   cases e:T[t]? with
   |none=>rfl
   |some x=>exact h x (List.mem_of_getElem? e)
  cases m with
  |zero=>exact h0
  |succ m=>
   unfold Pi.kf
   have: ∀(l:List Nat) (k:Ke.K),Ke.aA k=true→Ke.aA (l.foldl (fun k x=>Ke.dE k (Pi.kf T L m x)) k)=true:=fun l=>by
    induction l with
    |nil=>exact fun k hk=>hk
    |cons x l ih=>exact fun k hk=>ih _ (uJ hk (qV h m x))
   exact this _ _ h0
theorem fK {T:List Pi.Th} {L:List Pi.Lk} (h: ∀x∈T,Ke.aA x.k=true) (t:Int):Ke.aA (Pi.bu T L t)=true:=by
 unfold Pi.bu
 split
 ·unfold Pi.keyOf
  split
  ·exact qV h _ _
  ·rfl
 ·rfl
structure Eu (n:Nat) (M R:Mc) (x:Nat):Prop where
 qu:R.qu=M.qu
 ag:R.ag=M.ag
 pr:R.pr=M.pr
 pc:R.pc=M.pc
 th:R.th=Gt.aw M.th x {M.th x with sn:=M.nw,lf:=0}
 G:R.G=M.G
 S:R.S=Gt.aw M.S x 1
 sv:R.sv=if M.S x=2 then M.sv else Cb.jC M.sv (M.th x).sv M.nw
 nw:R.nw=M.nw
 wh:R.wh=M.wh
 L:R.gr.L=M.gr.L
 U: ∀y,Uo R y=Uo M y
 tl:R.gr.T.length=M.gr.T.length
 kr: ∀y∈R.gr.T,Ke.aA y.k=true
 ip: ∀y,j5 R y↔y=x∨j5 M y
 pl:R.pl.length=M.pl.length
theorem uG {s:Nat} (h:s=2∨s=3∨s=4):Gt.lA s 1=true:=by rcases h with rfl|rfl|rfl<;>rfl
theorem eD {P n q:Nat} {M:Mc} {x p:Nat} (hx:x<n) (hp:p<P) (hpl:M.pl.length=P+1) (hkr: ∀y∈M.gr.T,Ke.aA y.k=true) (hS:M.S x=1∨M.S x=2∨M.S x=3∨M.S x=4) (htp:(M.th x).p=(x:Int)) (htg:(M.th x).g=M.G x) (hno: ¬j5 M x):Eu n M (ready P n q M x (p:Int)) x:=by
 have hs0:M.S x≠0:=by omega
 have hst:dC M n (M.th x)=M.S x:=oO hx htp htg hs0
 have hmv:dp n M.G M.S (M.th x).p (M.th x).g 1=Gt.aw M.S x 1:=by
  rw[htp,htg]
  rcases hS with h|h
  ·rw[y4 (by rw[h];rfl)]
   funext j
   by_cases e:j=x
   ·rw[e,Gt.aj,h]
   ·rw[Gt.af _ _ _ _ e]
  ·exact jL hx hs0 (uG h)
 have h1:bS n M x={M with S:=Gt.aw M.S x 1,th:=Gt.aw M.th x {M.th x with sn:=M.nw,lf:=0}}:=by unfold bS;rw[hmv]
 have h2:bn n M x={M with S:=Gt.aw M.S x 1,th:=Gt.aw M.th x {M.th x with sn:=M.nw,lf:=0},sv:=if M.S x=2 then M.sv else Cb.jC M.sv (M.th x).sv M.nw}:=by
  unfold bn
  rw[hst,h1]
  split<;>rfl
 have k:=dm (bn n M x) n
 rw[h2] at k
 have hR3:bJ n M x=settle {M with S:=Gt.aw M.S x 1,th:=Gt.aw M.th x {M.th x with sn:=M.nw,lf:=0},sv:=if M.S x=2 then M.sv else Cb.jC M.sv (M.th x).sv M.nw} n:=by unfold bJ;rw[h2]
 unfold ready
 rw[hR3]
 generalize settle {M with S:=Gt.aw M.S x 1,th:=Gt.aw M.th x {M.th x with sn:=M.nw,lf:=0},sv:=if M.S x=2 then M.sv else Cb.jC M.sv (M.th x).sv M.nw} n=R3 at*
 have hkr3:=k.kr hkr
 refine⟨k.qu,k.ag,k.pr,k.pc,k.th,k.G,k.S,k.sv,k.nw,k.wh,k.L,k.U,k.tl,hkr3,fun y=> ?_,(xW _ _ _).trans k.pl⟩
 have hno3: ∀z,fs R3.pl z→z.1≠x:=fun z hz e=>hno ((k.ip x).1 ⟨z.2,by rw[←e];exact hz⟩)
 have hpi:=ud (q:=q) (np:=P) (n:=n) (k.pl.trans hpl) hp hx (fK (L:=R3.gr.L) hkr3 (x:Int)) hno3
 constructor
 ·rintro⟨k',hk'⟩
  rcases(hpi (y,k')).1 hk' with q|q
  ·injection q with q1 q2
   exact .inl q1
  ·exact .inr ((k.ip y).1 ⟨k',q⟩)
 ·rintro(rfl|q)
  ·exact⟨_,(hpi _).2 (.inl rfl)⟩
  ·obtain⟨k',hk'⟩:=(k.ip y).2 q
   exact⟨k',(hpi _).2 (.inr hk')⟩
structure CY (P:Nat) (M:Mc) (x:Nat):Prop where
 p:(M.th x).p=(x:Int)
 g:(M.th x).g=M.G x
 pg: ∃k:Nat,k<M.pr.length∧(M.th x).pg=(k:Int)
 pc: ∃p:Nat,p<P∧(M.th x).pc=(p:Int)
theorem CY.cg {P:Nat} {M R:Mc} {x:Nat} (t:CY P M x) (h1:R.th x=M.th x) (h2:R.G x=M.G x) (h3:R.pr=M.pr):CY P R x:=
 ⟨by rw[h1];exact t.p,by rw[h1,h2];exact t.g,by rw[h1,h3];exact t.pg,by rw[h1];exact t.pc⟩
structure Iv (P n B:Nat) (D:List Nat) (M:Mc):Prop where
 tl:M.gr.T.length=n
 pl:M.pl.length=P+1
 kr: ∀y∈M.gr.T,Ke.aA y.k=true
 qu:1≤M.qu
 sl: ∀p,p<P→(M.pc p).s<M.qu
 r1: ∀p,p<P→(M.pc p).r= -1∨ ∃x:Nat,x<n∧(M.pc p).r=(x:Int)∧M.S x=2
 r2: ∀x,x<n→M.S x=2→ ∃p,p<P∧(M.pc p).r=(x:Int)
 r3: ∀p p',p<P→p'<P→(M.pc p).r=(M.pc p').r→(M.pc p).r≠ -1→p=p'
 th: ∀x,x<n→M.S x≠0→CY P M x
 st: ∀x,x<n→M.S x≤4
 rd: ∀x,j5 M x↔x<n∧M.S x=1
 bl: ∀x,x<n→(M.S x=3↔Uo M x≠some (-1))
 sp: ∀x,x<n→(M.S x=4↔(∃it∈M.wh,it.i=x)∨x∈D)
 wl: ∀it∈M.wh,it.i<n
 wt: ∀(m:Nat) y,M.gr.L[m]? =some y→ ∀t∈y.l,t<n∧Uo M t=some (m:Int)
 nd: ∀y∈M.gr.L,y.l.Nodup
 l32:M.gr.L.length≤32
 gb: ∀x,x<n→M.G x≤B
section
variable {P n q B:Nat} {D:List Nat} {M R:Mc}
theorem Iv.kd (h:Iv P n B D M) (k:Kd M R):Iv P n B D R:=
 ⟨k.tl.trans h.tl,k.pl.trans h.pl,k.kr h.kr,by rw[k.qu];exact h.qu,by rw[k.pc,k.qu];exact h.sl,by rw[k.pc,k.S];exact h.r1,by rw[k.pc,k.S];exact h.r2,by rw[k.pc];exact h.r3,
  fun x hx hs=>(by rw[k.S] at hs;have t:=h.th x hx hs;exact⟨by rw[k.th];exact t.p,by rw[k.th,k.G];exact t.g,by rw[k.th,k.pr];exact t.pg,by rw[k.th];exact t.pc⟩),by rw[k.S];exact h.st,
  fun x=>by rw[k.ip,k.S];exact h.rd x,fun x hx=>by rw[k.S,k.U];exact h.bl x hx,by rw[k.S,k.wh];exact h.sp,by rw[k.wh];exact h.wl,
  fun m y hy t ht=>by rw[k.L] at hy;rw[k.U];exact h.wt m y hy t ht,by rw[k.L];exact h.nd,by rw[k.L];exact h.l32,by rw[k.G];exact h.gb⟩
theorem Iv.settle (h:Iv P n B D M):Iv P n B D (Go.Proofs.YtjlbmmiomfpgiaaGreatDoor.settle M n):=h.kd (dm M n)
theorem Iv.more (h:Iv P n B D M) {B':Nat} (hb:B≤B'):Iv P n B' D M:=⟨h.tl,h.pl,h.kr,h.qu,h.sl,h.r1,h.r2,h.r3,h.th,h.st,h.rd,h.bl,h.sp,h.wl,h.wt,h.nd,h.l32,fun x hx=>Nat.le_trans (h.gb x hx) hb⟩
theorem Iv.BI (h:Iv P n B D M) (x:Nat) (t:Tr) (h1:t.p=(M.th x).p) (h2:t.g=(M.th x).g) (h3:t.pg=(M.th x).pg) (h4:t.pc=(M.th x).pc):Iv P n B D {M with th:=Gt.aw M.th x t}:=by
 refine⟨h.tl,h.pl,h.kr,h.qu,h.sl,h.r1,h.r2,h.r3,fun y hy hs=> ?_,h.st,h.rd,h.bl,h.sp,h.wl,h.wt,h.nd,h.l32,h.gb⟩
 have t0:=h.th y hy hs
 by_cases e:y=x
 ·subst e
  exact⟨by show(Gt.aw M.th y t y).p=_;rw[Gt.aj,h1];exact t0.p,by show(Gt.aw M.th y t y).g=_;rw[Gt.aj,h2];exact t0.g,by show∃k:Nat,k<M.pr.length∧(Gt.aw M.th y t y).pg=_;rw[Gt.aj,h3];exact t0.pg,by show∃p:Nat,p<P∧(Gt.aw M.th y t y).pc=_;rw[Gt.aj,h4];exact t0.pc⟩
 ·exact⟨by show(Gt.aw M.th x t y).p=_;rw[Gt.af _ _ _ _ e];exact t0.p,by show(Gt.aw M.th x t y).g=_;rw[Gt.af _ _ _ _ e];exact t0.g,by show∃k:Nat,k<M.pr.length∧(Gt.aw M.th x t y).pg=_;rw[Gt.af _ _ _ _ e];exact t0.pg,by show∃p:Nat,p<P∧(Gt.aw M.th x t y).pc=_;rw[Gt.af _ _ _ _ e];exact t0.pc⟩
theorem Iv.leave (h:Iv P n B D M) {pr x s:Nat} (hp:pr<P) (hx:x<n) (hr:(M.pc pr).r=(x:Int)) (hs:s≤4) (hs2:s≠2)
  (hS:R.S=Gt.aw M.S x s) (hpc:R.pc=Gt.aw M.pc pr {M.pc pr with r:= -1}) (hqu:R.qu=M.qu) (htl:R.gr.T.length=n) (hpl:R.pl.length=P+1) (hkr: ∀y∈R.gr.T,Ke.aA y.k=true)
  (hth: ∀y,y<n→R.S y≠0→CY P R y) (hrd: ∀y,j5 R y↔(y=x∧s=1)∨j5 M y) (hbl: ∀y,y<n→y≠x→Uo R y=Uo M y) (hblx:s=3↔Uo R x≠some (-1))
  (hwh: ∀y,y<n→((∃it∈R.wh,it.i=y)↔(y=x∧s=4)∨ ∃it∈M.wh,it.i=y)) (hwl: ∀it∈R.wh,it.i<n) (hwt: ∀(m:Nat) y,R.gr.L[m]? =some y→ ∀t∈y.l,t<n∧Uo R t=some (m:Int)) (hnd: ∀y∈R.gr.L,y.l.Nodup) (hl:R.gr.L.length≤32) (hG:R.G=M.G):Iv P n B D R:=by
 have hx2:M.S x=2:=by
  rcases h.r1 pr hp with q|⟨y,_,q1,q2⟩
  ·omega
  ·have:y=x:=by omega
   rw[←this];exact q2
 have es: ∀y,y≠x→R.S y=M.S y:=fun y e=>by rw[hS,Gt.af _ _ _ _ e]
 have ex:R.S x=s:=by rw[hS,Gt.aj]
 have ep: ∀p,p≠pr→R.pc p=M.pc p:=fun p e=>by rw[hpc,Gt.af _ _ _ _ e]
 have epr:R.pc pr={M.pc pr with r:= -1}:=by rw[hpc,Gt.aj]
 refine⟨htl,hpl,hkr,by rw[hqu];exact h.qu,fun p hp'=> ?_,fun p hp'=> ?_,fun y hy hy2=> ?_,fun p p' hp' hp'' e hne=> ?_,hth,fun y hy=> ?_,fun y=> ?_,fun y hy=> ?_,fun y hy=> ?_,hwl,hwt,hnd,hl,by rw[hG];exact h.gb⟩
 ·rw[hqu]
  by_cases e:p=pr
  ·rw[e,epr];exact h.sl pr hp
  ·rw[ep p e];exact h.sl p hp'
 ·by_cases e:p=pr
  ·exact .inl (by rw[e,epr])
  ·rw[ep p e]
   rcases h.r1 p hp' with q|⟨y,q1,q2,q3⟩
   ·exact .inl q
   ·refine .inr ⟨y,q1,q2,?_⟩
    rw[es y (fun e2=>e (h.r3 p pr hp' hp (by rw[q2,hr,e2]) (by omega)))]
    exact q3
 ·by_cases e:y=x
  ·rw[e,ex] at hy2;exact absurd hy2 hs2
  ·rw[es y e] at hy2
   obtain⟨p,q1,q2⟩:=h.r2 y hy hy2
   refine⟨p,q1,?_⟩
   rw[ep p (fun e2=>e (by rw[e2,hr] at q2;omega))]
   exact q2
 ·by_cases e1:p=pr
  ·rw[e1,epr] at hne;exact absurd rfl hne
  ·by_cases e2:p'=pr
   ·rw[e,e2,epr] at hne;exact absurd rfl hne
   ·rw[ep p e1,ep p' e2] at e
    rw[ep p e1] at hne
    exact h.r3 p p' hp' hp'' e hne
 ·by_cases e:y=x
  ·rw[e,ex];exact hs
  ·rw[es y e];exact h.st y hy
 ·rw[hrd,h.rd]
  by_cases e:y=x
  ·subst e
   rw[ex,hx2]
   constructor
   ·rintro(⟨_,q⟩|⟨_,q⟩)
    ·exact⟨hx,q⟩
    ·omega
   ·rintro⟨_,q⟩
    exact .inl ⟨rfl,q⟩
  ·rw[es y e]
   constructor
   ·rintro(⟨q,_⟩|q)
    ·exact absurd q e
    ·exact q
   ·exact .inr
 ·by_cases e:y=x
  ·subst e;rw[ex];exact hblx
  ·rw[es y e,hbl y hy e];exact h.bl y hy
 ·rw[hwh y hy]
  have hm:=h.sp y hy
  by_cases e:y=x
  ·subst e
   rw[ex]
   constructor
   ·intro q;exact .inl (.inl ⟨rfl,q⟩)
   ·rintro((⟨_,q⟩|q)|q)
    ·exact q
    ·have:=hm.2 (.inl q);omega
    ·have:=hm.2 (.inr q);omega
  ·rw[es y e,hm]
   constructor
   ·rintro(q|q)
    ·exact .inl (.inr q)
    ·exact .inr q
   ·rintro((⟨q,_⟩|q)|q)
    ·exact absurd q e
    ·exact .inl q
    ·exact .inr q
theorem Iv.Fu (h:Iv P n B D M) {N:Mc} {x:Nat} {D':List Nat} (hx:x<n) (hN:Eu n N R x)
  (e1:N.qu=M.qu) (e2:N.pr=M.pr) (e3:N.pc=M.pc) (e5: ∀y,y<n→y≠x→N.S y=M.S y∧N.G y=M.G y∧N.th y=M.th y) (htx:CY P N x) (hns:M.S x≠2) (hgx:N.G x≤B)
  (htl:N.gr.T.length=n) (hpl:N.pl.length=P+1) (hrd: ∀y,y≠x→(j5 N y↔j5 M y)) (hU: ∀y,y<n→y≠x→Uo N y=Uo M y) (hUx:Uo N x=some (-1))
  (hwh:N.wh=M.wh) (hwx: ¬ ∃it∈M.wh,it.i=x) (hD: ∀y,y∈D'↔y∈D∧y≠x) (hwt: ∀(m:Nat) y,N.gr.L[m]? =some y→ ∀t∈y.l,t<n∧Uo N t=some (m:Int)) (hnd: ∀y∈N.gr.L,y.l.Nodup) (hl:N.gr.L.length≤32):Iv P n B D' R:=by
 have es: ∀y,y<n→y≠x→R.S y=M.S y:=fun y hy e=>by rw[hN.S,Gt.af _ _ _ _ e];exact(e5 y hy e).1
 have ex:R.S x=1:=by rw[hN.S,Gt.aj]
 have epc:R.pc=M.pc:=hN.pc.trans e3
 refine⟨hN.tl.trans htl,hN.pl.trans hpl,hN.kr,by rw[hN.qu,e1];exact h.qu,by rw[epc,hN.qu,e1];exact h.sl,fun p hp=> ?_,fun y hy hy2=> ?_,by rw[epc];exact h.r3,fun y hy hs=> ?_,fun y hy=> ?_,fun y=> ?_,fun y hy=> ?_,fun y hy=> ?_,by rw[hN.wh,hwh];exact h.wl,
  fun m y hy t ht=>by rw[hN.L] at hy;rw[hN.U];exact hwt m y hy t ht,by rw[hN.L];exact hnd,by rw[hN.L];exact hl,fun y hy=> ?_⟩
 ·rw[epc]
  rcases h.r1 p hp with q|⟨y,q1,q2,q3⟩
  ·exact .inl q
  ·exact .inr ⟨y,q1,q2,by rw[es y q1 (fun e=>hns (by rw[←e];exact q3))];exact q3⟩
 ·rw[epc]
  by_cases e:y=x
  ·rw[e,ex] at hy2;cases hy2
  ·rw[es y hy e] at hy2;exact h.r2 y hy hy2
 ·by_cases e:y=x
  ·subst e
   exact⟨by rw[hN.th,Gt.aj];exact htx.p,by rw[hN.th,Gt.aj,hN.G];exact htx.g,by rw[hN.th,Gt.aj,hN.pr];exact htx.pg,by rw[hN.th,Gt.aj];exact htx.pc⟩
  ·rw[es y hy e] at hs
   have t0:=h.th y hy hs
   obtain⟨_,g2,g3⟩:=e5 y hy e
   exact⟨by rw[hN.th,Gt.af _ _ _ _ e,g3];exact t0.p,by rw[hN.th,Gt.af _ _ _ _ e,hN.G,g3,g2];exact t0.g,by rw[hN.th,Gt.af _ _ _ _ e,hN.pr,g3,e2];exact t0.pg,by rw[hN.th,Gt.af _ _ _ _ e,g3];exact t0.pc⟩
 ·by_cases e:y=x
  ·rw[e,ex];omega
  ·rw[es y hy e];exact h.st y hy
 ·rw[hN.ip]
  by_cases e:y=x
  ·subst e
   exact⟨fun _=>⟨hx,ex⟩,fun _=> .inl rfl⟩
  ·rw[hrd y e,h.rd]
   constructor
   ·rintro(q|⟨q1,q2⟩)
    ·exact absurd q e
    ·exact⟨q1,by rw[es y q1 e];exact q2⟩
   ·rintro⟨q1,q2⟩
    rw[es y q1 e] at q2
    exact .inr ⟨q1,q2⟩
 ·by_cases e:y=x
  ·subst e
   rw[ex,hN.U,hUx]
   constructor
   ·intro q;cases q
   ·intro q;exact absurd rfl q
  ·rw[es y hy e,hN.U,hU y hy e];exact h.bl y hy
 ·rw[hN.wh,hwh,hD]
  by_cases e:y=x
  ·subst e
   rw[ex]
   constructor
   ·intro q;cases q
   ·rintro(q|⟨_,q⟩)
    ·exact absurd q hwx
    ·exact absurd rfl q
  ·rw[es y hy e,h.sp y hy]
   constructor
   ·rintro(q|q)
    ·exact .inl q
    ·exact .inr ⟨q,e⟩
   ·rintro(q|⟨q,_⟩)
    ·exact .inl q
    ·exact .inr q
 ·rw[hN.G]
  by_cases e:y=x
  ·rw[e];exact hgx
  ·rw[(e5 y hy e).2.1];exact h.gb y hy
end
section
variable {P n q B:Nat} {D:List Nat} {M R:Mc}
theorem Iv.run (h:Iv P n B D M) {pr x:Nat} (hp:pr<P) (hr:(M.pc pr).r=(x:Int)):x<n∧M.S x=2:=by
 rcases h.r1 pr hp with q|⟨y,q0,q1,q2⟩
 ·omega
 ·have:y=x:=by omega
  rw[←this];exact⟨q0,q2⟩
theorem Iv.EJ (h:Iv P n B D M) {x:Nat} (hx:x<n) (hs:M.S x≠3):Uo M x=some (-1):=by
 apply Classical.byContradiction
 intro q
 exact hs ((h.bl x hx).2 q)
theorem Iv.AO (h:Iv P n B D M) {x:Nat} (hs:M.S x≠1): ¬j5 M x:=fun q=>hs ((h.rd x).1 q).2
theorem Iv.Fa (h:Iv P n B D M) {x:Nat} (hx:x<n) (hs:M.S x≠4):(¬ ∃it∈M.wh,it.i=x)∧x ∉ D:=⟨fun q=>hs ((h.sp x hx).2 (.inl q)),fun q=>hs ((h.sp x hx).2 (.inr q))⟩
theorem Iv.back (h:Iv P n B D M) {pr x:Nat} (hp:pr<P) (hr:(M.pc pr).r=(x:Int)):Iv P n B D (dj P n q M pr x):=by
 obtain⟨hx,hx2⟩:=h.run hp hr
 have t0:=h.th x hx (by omega)
 have k:=eD (q:=q) hx hp h.pl h.kr (.inr (.inl hx2)) t0.p t0.g (h.AO (by omega))
 have hu:=h.EJ hx (by omega)
 unfold dj
 generalize ready P n q M x (pr:Int)=R1 at k
 have hU: ∀y,Uo (mK R1 pr (-1)) y=Uo M y:=k.U
 refine h.leave (R:=mK R1 pr (-1)) hp hx hr (by omega) (by omega) k.S (by show Gt.aw R1.pc pr _=_;rw[k.pc]) k.qu (k.tl.trans h.tl) (k.pl.trans h.pl) k.kr (fun y hy hs=> ?_) (fun y=> ?_) (fun y hy e=>hU y) ?_ (fun y hy=> ?_) (by show∀it∈R1.wh,_;rw[k.wh];exact h.wl) (fun m y hy t ht=> ?_) (by show∀y∈R1.gr.L,_;rw[k.L];exact h.nd) (by show R1.gr.L.length≤32;rw[k.L];exact h.l32) k.G
 ·have hs':R1.S y≠0:=hs
  by_cases e:y=x
  ·subst e
   exact⟨by show(R1.th y).p=_;rw[k.th,Gt.aj];exact t0.p,by show(R1.th y).g=R1.G y;rw[k.th,Gt.aj,k.G];exact t0.g,by show∃j:Nat,j<R1.pr.length∧(R1.th y).pg=_;rw[k.th,Gt.aj,k.pr];exact t0.pg,by show∃j:Nat,j<P∧(R1.th y).pc=_;rw[k.th,Gt.aj];exact t0.pc⟩
  ·rw[k.S,Gt.af _ _ _ _ e] at hs'
   have t1:=h.th y hy hs'
   exact⟨by show(R1.th y).p=_;rw[k.th,Gt.af _ _ _ _ e];exact t1.p,by show(R1.th y).g=R1.G y;rw[k.th,Gt.af _ _ _ _ e,k.G];exact t1.g,by show∃j:Nat,j<R1.pr.length∧(R1.th y).pg=_;rw[k.th,Gt.af _ _ _ _ e,k.pr];exact t1.pg,by show∃j:Nat,j<P∧(R1.th y).pc=_;rw[k.th,Gt.af _ _ _ _ e];exact t1.pc⟩
 ·have:=k.ip y
  show j5 R1 y↔_
  rw[this]
  constructor
  ·rintro(q|q)
   ·exact .inl ⟨q,rfl⟩
   ·exact .inr q
  ·rintro(⟨q,_⟩|q)
   ·exact .inl q
   ·exact .inr q
 ·rw[hU x,hu]
  constructor
  ·intro q;cases q
  ·intro q;exact absurd rfl q
 ·show(∃it∈R1.wh,_)↔_
  rw[k.wh]
  constructor
  ·exact .inr
  ·rintro(⟨_,q⟩|q)
   ·cases q
   ·exact q
 ·have hy':R1.gr.L[m]? =some y:=hy
  rw[k.L] at hy'
  rw[hU t]
  exact h.wt m y hy' t ht
theorem Iv.Bc (h:Iv P n B D M) {w:World} {O:Nat→Prop} {pb T pr x:Nat} {d:Int} (hpq:PQ w O pb n P q T M.pl) (hp:pr<P) (hr:(M.pc pr).r= -1) (hb:(bb P (gh M.pl) (pr:Int) d).isSome=true) (hbi:bI (gh M.pl) (bb P (gh M.pl) (pr:Int) d)=(x:Int)):Iv P n B D (bB P n M pr x d):=by
 obtain⟨y,k,hx,hbi2,hent,_,htk⟩:=qK hpq hb
 have e0:y=x:=by rw[hbi] at hbi2;omega
 subst e0
 have hS1:M.S y=1:=((h.rd y).1 ⟨k,hent⟩).2
 have t0:=h.th y hx (by omega)
 have hmv:dp n M.G M.S (M.th y).p (M.th y).g 2=Gt.aw M.S y 2:=by rw[t0.p,t0.g];exact jL hx (by omega) (by rw[hS1];rfl)
 have hip: ∀z,j5 (bB P n M pr y d) z↔j5 M z∧z≠y:=fun z=>by
  show(∃k,fs (eP P (gh M.pl) (pr:Int) d) (z,k))↔_
  constructor
  ·rintro⟨k',hk'⟩
   have:=(htk _).1 hk'
   exact⟨⟨k',this.1⟩,this.2⟩
  ·rintro⟨⟨k',hk'⟩,e⟩
   exact⟨k',(htk _).2 ⟨hk',e⟩⟩
 have eS:(bB P n M pr y d).S=Gt.aw M.S y 2:=hmv
 have es: ∀z,z≠y→(bB P n M pr y d).S z=M.S z:=fun z e=>by rw[eS,Gt.af _ _ _ _ e]
 have ex:(bB P n M pr y d).S y=2:=by rw[eS,Gt.aj]
 have ep: ∀p,p≠pr→(bB P n M pr y d).pc p=M.pc p:=fun p e=>by show Gt.aw M.pc pr _ p=_;rw[Gt.af _ _ _ _ e]
 have epr:(bB P n M pr y d).pc pr=⟨(y:Int),0,false⟩:=by show Gt.aw M.pc pr _ pr=_;rw[Gt.aj]
 have et: ∀z,z≠y→(bB P n M pr y d).th z=M.th z:=fun z e=>by show Gt.aw M.th y _ z=_;rw[Gt.af _ _ _ _ e]
 have ety:(bB P n M pr y d).th y={M.th y with pc:=(pr:Int),lf:=(bH M (M.th y)).toNat}:=by show Gt.aw M.th y _ y=_;rw[Gt.aj]
 refine⟨h.tl,(AP _ _).trans h.pl,h.kr,h.qu,fun p hp'=> ?_,fun p hp'=> ?_,fun z hz hz2=> ?_,fun p p' hp' hp'' e hne=> ?_,fun z hz hs=> ?_,fun z hz=> ?_,fun z=> ?_,fun z hz=> ?_,fun z hz=> ?_,h.wl,h.wt,h.nd,h.l32,h.gb⟩
 ·by_cases e:p=pr
  ·rw[e,epr];exact h.qu
  ·rw[ep p e];exact h.sl p hp'
 ·by_cases e:p=pr
  ·exact .inr ⟨y,hx,by rw[e,epr],ex⟩
  ·rw[ep p e]
   rcases h.r1 p hp' with q|⟨z,q1,q2,q3⟩
   ·exact .inl q
   ·exact .inr ⟨z,q1,q2,by rw[es z (fun e2=>by rw[e2] at q3;omega)];exact q3⟩
 ·by_cases e:z=y
  ·exact⟨pr,hp,by rw[epr,e]⟩
  ·rw[es z e] at hz2
   obtain⟨p,q1,q2⟩:=h.r2 z hz hz2
   exact⟨p,q1,by rw[ep p (fun e2=>by rw[e2,hr] at q2;omega)];exact q2⟩
 ·have fu: ∀p,p<P→p≠pr→((bB P n M pr y d).pc p).r≠(y:Int):=fun p hp1 e1 q=>by
   rw[ep p e1] at q
   have:=(h.run hp1 q).2
   omega
  by_cases e1:p=pr
  ·by_cases e2:p'=pr
   ·rw[e1,e2]
   ·exact absurd (by rw[←e,e1,epr]) (fu p' hp'' e2)
  ·by_cases e2:p'=pr
   ·exact absurd (by rw[e,e2,epr]) (fu p hp' e1)
   ·rw[ep p e1,ep p' e2] at e
    rw[ep p e1] at hne
    exact h.r3 p p' hp' hp'' e hne
 ·by_cases e:z=y
  ·subst e
   exact⟨by rw[ety];exact t0.p,by rw[ety];exact t0.g,by rw[ety];exact t0.pg,by rw[ety];exact⟨pr,hp,rfl⟩⟩
  ·rw[es z e] at hs
   have t1:=h.th z hz hs
   exact⟨by rw[et z e];exact t1.p,by rw[et z e];exact t1.g,by rw[et z e];exact t1.pg,by rw[et z e];exact t1.pc⟩
 ·by_cases e:z=y
  ·rw[e,ex];omega
  ·rw[es z e];exact h.st z hz
 ·rw[hip z]
  by_cases e:z=y
  ·subst e
   rw[ex]
   constructor
   ·rintro⟨_,q⟩;exact absurd rfl q
   ·rintro⟨_,q⟩;cases q
  ·rw[es z e,←h.rd z]
   exact⟨fun q=>q.1,fun q=>⟨q,e⟩⟩
 ·show _↔Uo M z≠some (-1)
  by_cases e:z=y
  ·subst e
   rw[ex,h.EJ hx (by omega)]
   constructor
   ·intro q;cases q
   ·intro q;exact absurd rfl q
  ·rw[es z e];exact h.bl z hz
 ·by_cases e:z=y
  ·subst e
   rw[ex]
   have:=h.Fa hx (by omega)
   constructor
   ·intro q;cases q
   ·rintro(q|q)
    ·exact absurd q this.1
    ·exact absurd q this.2
  ·rw[es z e];exact h.sp z hz
end
section
variable {P n q B:Nat} {D:List Nat} {M R:Mc}
theorem free_spec {M:Mc} {n y:Nat} (h:cj M n=some y):y<n∧M.S y=0:=by
 refine⟨nO h,?_⟩
 unfold cj at h
 cases hl:(Gt.pl M.S true n n).head? with
 |none=>rw[hl] at h;cases h
 |some z=>
  rw[hl] at h
  injection h with h
  have:=(nC n (Nat.le_refl _) z).1 (List.mem_of_mem_head? hl)
  rw[←h]
  simpa using this.2
theorem Iv.B4 (h:Iv P n B D M) {y p:Nat} (hp:p<P) (hf:cj M n=some y) (pg:Int) (lv:Nat) (sv:Int) (hpg:iz M pg=true):Iv P n (B+1) D (fp P n q M y (p:Int) (dx pg lv sv)):=by
 obtain⟨hy,hy0⟩:=free_spec hf
 unfold iz at hpg
 simp only[Bool.and_eq_true,decide_eq_true_eq] at hpg
 obtain⟨k,rfl⟩:=Int.eq_ofNat_of_zero_le hpg.1
 have hk:k<M.pr.length:=by have:=hpg.2;omega
 have hB:=h.more (Nat.le_succ B)
 have hnw:=h.Fa hy (by omega)
 have hni:=h.AO (x:=y) (by omega)
 have hu:=h.EJ hy (by omega)
 unfold fp
 have hS:({dh M y with th:=Gt.aw M.th y {dx (k:Int) lv sv with p:=(y:Int),g:=M.G y+1}}:Mc).S y=1:=by show Gt.aw M.S y 1 y=1;rw[Gt.aj]
 have htp:(({dh M y with th:=Gt.aw M.th y {dx (k:Int) lv sv with p:=(y:Int),g:=M.G y+1}}:Mc).th y)={dx (k:Int) lv sv with p:=(y:Int),g:=M.G y+1}:=by show Gt.aw M.th y _ y=_;rw[Gt.aj]
 have hGy:({dh M y with th:=Gt.aw M.th y {dx (k:Int) lv sv with p:=(y:Int),g:=M.G y+1}}:Mc).G y=M.G y+1:=by show Gt.aw M.G y _ y=_;rw[Gt.aj]
 have kk:=eD (P:=P) (n:=n) (q:=q) (M:={dh M y with th:=Gt.aw M.th y {dx (k:Int) lv sv with p:=(y:Int),g:=M.G y+1}}) hy hp h.pl h.kr (.inl hS) (by rw[htp]) (by rw[htp,hGy]) hni
 refine hB.Fu hy kk rfl rfl rfl (fun v hv e=>⟨?_,?_,?_⟩) ⟨by rw[htp],by rw[htp,hGy],⟨k,hk,by rw[htp];rfl⟩,⟨0,by omega,by rw[htp];rfl⟩⟩ (by omega) (by rw[hGy];have:=h.gb y hy;omega) h.tl h.pl (fun _ _=>Iff.rfl) (fun _ _ _=>rfl) hu rfl hnw.1 (fun x=>⟨fun q=>⟨q,fun e=>hnw.2 (e▸q)⟩,fun q=>q.1⟩) h.wt h.nd h.l32
 ·show Gt.aw M.S y 1 v=_;rw[Gt.af _ _ _ _ e]
 ·show Gt.aw M.G y _ v=_;rw[Gt.af _ _ _ _ e]
 ·show Gt.aw M.th y _ v=_;rw[Gt.af _ _ _ _ e]
theorem qJ (P n q:Nat) (M:Mc) (x:Nat) (p:Int):(ready P n q M x p).pc=M.pc:=by unfold ready bJ bn bS settle;split<;>rfl
end
section
variable {P n q B:Nat} {D:List Nat} {M R:Mc}
theorem Iv.mE (h:Iv P n B D M) {p:Nat} (hp:p<P):Iv P n B D (Go.Proofs.YtjlbmmiomfpgiaaGreatDoor.mE M p):=by
 unfold Go.Proofs.YtjlbmmiomfpgiaaGreatDoor.mE
 split
 ·exact h
 ·rename_i hr
  obtain⟨x,hx,hrx,_⟩:=(h.r1 p hp).resolve_left hr
  have hf:Iv P n B D (j9 M (M.pc p).r.toNat (M.th (M.pc p).r.toNat).ia (cD (M.th (M.pc p).r.toNat).il)):=h.BI _ _ rfl rfl rfl rfl
  generalize j9 M (M.pc p).r.toNat (M.th (M.pc p).r.toNat).ia (cD (M.th (M.pc p).r.toNat).il)=N at hf
  have hcr:(countP (N.pc p) N.qu).r=(N.pc p).r:=by unfold countP;split<;>rfl
  have hcs:(countP (N.pc p) N.qu).s<N.qu:=by
   have:=hf.sl p hp
   have:=hf.qu
   unfold countP
   split
   ·show 0<N.qu;omega
   ·show(N.pc p).s+1<N.qu;omega
  have er: ∀p',((Gt.aw N.pc p (countP (N.pc p) N.qu)) p').r=(N.pc p').r:=fun p'=>by
   by_cases e:p'=p
   ·rw[e,Gt.aj];exact hcr
   ·rw[Gt.af _ _ _ _ e]
  refine⟨hf.tl,hf.pl,hf.kr,hf.qu,fun p' hp'=> ?_,fun p' hp'=> ?_,fun y hy h2=> ?_,fun p1 p2 h1 h2 e hne=> ?_,fun y hy hs=>(hf.th y hy hs).cg rfl rfl rfl,hf.st,hf.rd,hf.bl,hf.sp,hf.wl,hf.wt,hf.nd,hf.l32,hf.gb⟩
  ·show((Gt.aw N.pc p (countP (N.pc p) N.qu)) p').s<N.qu
   by_cases e:p'=p
   ·rw[e,Gt.aj];exact hcs
   ·rw[Gt.af _ _ _ _ e];exact hf.sl p' hp'
  ·rcases hf.r1 p' hp' with q|⟨x,q1,q2,q3⟩
   ·exact .inl ((er p').trans q)
   ·exact .inr ⟨x,q1,(er p').trans q2,q3⟩
  ·obtain⟨p',q1,q2⟩:=hf.r2 y hy h2
   exact⟨p',q1,(er p').trans q2⟩
  ·have e':((Gt.aw N.pc p (countP (N.pc p) N.qu)) p1).r=((Gt.aw N.pc p (countP (N.pc p) N.qu)) p2).r:=e
   have hne':((Gt.aw N.pc p (countP (N.pc p) N.qu)) p1).r≠ -1:=hne
   rw[er,er] at e'
   rw[er] at hne'
   exact hf.r3 p1 p2 h1 h2 e' hne'
theorem Iv.Bf (h:Iv P n B D M) (sv:List Cb.bL):Iv P n B D {M with sv:=sv}:=
 ⟨h.tl,h.pl,h.kr,h.qu,h.sl,h.r1,h.r2,h.r3,fun y hy hs=>(h.th y hy hs).cg rfl rfl rfl,h.st,h.rd,h.bl,h.sp,h.wl,h.wt,h.nd,h.l32,h.gb⟩
theorem Iv.aV (h:Iv P n B [] M):Iv P n B (eh M) (Go.Proofs.YtjlbmmiomfpgiaaGreatDoor.aV M):=by
 refine⟨h.tl,h.pl,h.kr,h.qu,h.sl,h.r1,h.r2,h.r3,fun y hy hs=>(h.th y hy hs).cg rfl rfl rfl,h.st,h.rd,h.bl,fun x hx=> ?_,fun it hit=> ?_,h.wt,h.nd,h.l32,h.gb⟩
 ·rw[show(Go.Proofs.YtjlbmmiomfpgiaaGreatDoor.aV M).S x=M.S x from rfl,h.sp x hx]
  unfold Go.Proofs.YtjlbmmiomfpgiaaGreatDoor.aV eh Wh.late Wh.due
  dsimp only
  constructor
  ·rintro(⟨it,hit,e⟩|q)
   ·by_cases ht:it.t≤max (Cb.dO M.nw 1) M.nw
    ·exact .inr (List.mem_map.2 ⟨it,List.mem_filter.2 ⟨hit,by simpa using ht⟩,e⟩)
    ·exact .inl ⟨it,List.mem_filter.2 ⟨hit,by simpa using ht⟩,e⟩
   ·cases q
  ·rintro(⟨it,hit,e⟩|q)
   ·exact .inl ⟨it,(List.mem_filter.1 hit).1,e⟩
   ·obtain⟨it,hit,e⟩:=List.mem_map.1 q
    exact .inl ⟨it,(List.mem_filter.1 hit).1,e⟩
 ·exact h.wl it (List.mem_filter.1 hit).1
theorem Iv.load (h:Iv P n B D M) (p:Pm):Iv P n B D {M with pr:=M.pr++[p]}:=by
 refine⟨h.tl,h.pl,h.kr,h.qu,h.sl,h.r1,h.r2,h.r3,fun y hy hs=> ?_,h.st,h.rd,h.bl,h.sp,h.wl,h.wt,h.nd,h.l32,h.gb⟩
 have t:=h.th y hy hs
 obtain⟨k,hk,e⟩:=t.pg
 exact⟨t.p,t.g,⟨k,by show k<(M.pr++[p]).length;rw[List.length_append];omega,e⟩,t.pc⟩
theorem Iv.new (P n m qu ag:Nat) (hm:m≤32) (hq:1≤qu):Iv P n 0 [] (gx P n m qu ag):=by
 have hL: ∀(j:Nat) y,(gx P n m qu ag).gr.L[j]? =some y→y.l=[]:=fun j y hy=>by
  have:=List.mem_of_getElem? hy
  have:y∈List.replicate m (⟨-1,[]⟩:Pi.Lk):=this
  rw[List.eq_of_mem_replicate this]
 refine⟨List.length_replicate,List.length_replicate,fun y hy=> ?_,hq,fun p _=>hq,fun p _=> .inl rfl,fun x _ h=>(by cases h),fun p p' _ _ _ hne=>absurd rfl hne,fun x _ h=>absurd rfl h,fun x _=>Nat.zero_le _,fun x=> ?_,fun x hx=> ?_,fun x hx=> ?_,fun it hit=>(by cases hit),fun j y hy t ht=> ?_,fun y hy=> ?_,by show(List.replicate m _).length≤32;rw[List.length_replicate];exact hm,fun x _=>Nat.le_refl _⟩
 ·have:y∈List.replicate n (⟨Ke.aW 0,-1⟩:Pi.Th):=hy
  rw[List.eq_of_mem_replicate this]
  rfl
 ·constructor
  ·rintro⟨k,i,X,hX,hm⟩
   have:X∈List.replicate (P+1) ([]:List En):=List.mem_of_getElem? hX
   rw[List.eq_of_mem_replicate this] at hm
   cases hm
  ·rintro⟨_,h⟩
   cases h
 ·have e:Uo (gx P n m qu ag) x=some (-1):=by
   show((List.replicate n (⟨Ke.aW 0,-1⟩:Pi.Th))[x]?).map (·.u)=_
   rw[List.getElem?_replicate,if_pos hx]
   rfl
  rw[e]
  constructor
  ·intro q;cases q
  ·intro q;exact absurd rfl q
 ·constructor
  ·intro q;cases q
  ·rintro(⟨it,hit,_⟩|q)
   ·cases hit
   ·cases q
 ·rw[hL j y hy] at ht
  cases ht
 ·obtain⟨j,hj⟩:=List.getElem?_of_mem hy
  rw[hL j y hj]
  exact List.nodup_nil
end
section
variable {w wr w':World} {lab:Nat→Nat} {a:Ad} {P n q T T' B:Nat} {M M':Mc}
theorem Iv.Fm (hI:Iv P n B [] M):Eg P n M:=⟨fun p hp=>by rcases hI.r1 p hp with q|⟨x,q1,q2,_⟩;exact .inl q;exact .inr ⟨x,q1,q2⟩,hI.sl⟩
end
end Go.Proofs.YtjlbmmiomfpgiaaGreatDoor
namespace Go.Proofs.YtjlbmmiomfpgiaaGreatDoor
open Go.RowKit Go.Lib Go.Deep Go.ChangeShapes Go.WideShapes
theorem Fp {z:Int} (h:(Lit.int .u8 z).wf=true): ∃n:Nat,z=n∧n<256:=by
 simp[Lit.wf,IntKind.min,IntKind.max,IntKind.bits,IntKind.signed] at h
 exact⟨z.toNat,by omega,by omega⟩
section
variable {H:Type} {enc:TypeId×Value→H} {w:World} {base:Nat} {spare:Nat→Bool} {held:Bool}
end
end Go.Proofs.YtjlbmmiomfpgiaaGreatDoor
namespace Go.Proofs.YtjlbmmiomfpgiaaGreatDoor
open Go.RowKit Go.Lib Go.Shelf
attribute [local go_sem ↓] Go.wp_at_zero Go.wp_at_succ
theorem yQ (P n q:Nat) (M:Mc) (x:Nat) (pg:Int) (lv:Nat) (sv:Int):(dH P n q M x pg lv sv).gr.L=M.gr.L:=by
 unfold dH
 rw[lV]
 show(bJ n _ x).gr.L=_
 unfold bJ
 rw[lV]
 unfold bn bS dh
 split<;>rfl
section
variable {w wr w':World} {ad:Ad} {P n q T T' B:Nat} {M M':Mc} {K:Nat→Prop}
end
section
variable {w wr w':World} {ad:Ad} {P n q T B s:Nat} {M:Mc}
theorem eX.goes {lab:Nat→Nat} {v:Value} {a:Ad} (h:eX w w' lab a P n q T M v):az w w' lab a P n q T M:=by
 obtain⟨l,h1,h2,h3,_⟩:=h
 exact⟨l,h1,h2,h3⟩
theorem Al.xc (h:Al w wr ad P n q T M) (hG:Ea M n) (pg:Int) (lv:Nat) (hlv:lv<256) (sv:Int) (hn:n≤8) (hT:T≤999999000) (hno:js M pg sv=false) {x:Nat} (hf:cj M n=some x):
  Calls Tryz.prog 19 #[.pointer (some ⟨ad.m,0,none⟩),.int .i64 pg,.int .u8 (lv:Int),.int .i64 sv] wr fun e w'=>(∃v,e= .returned (.tuple #[v,.int .i64 0]))∧Al w w' ad P n q (T+20) (dH P n q M x pg lv sv):=
 h.call (R:=fun e _=> ∃v,e= .returned (.tuple #[v,.int .i64 0])) (fun lab hi=>(hi.rE (by omega) hG pg lv hlv sv hno x hf).mono (fun e w' ⟨v,he,_,hg⟩=>⟨⟨v,he⟩,hg.goes.ki (by omega)⟩))
end
end Go.Proofs.YtjlbmmiomfpgiaaGreatDoor
namespace Go.Proofs.YtjlbmmiomfpgiaaGreatDoor
open Go.RowKit
def Uq (G:List (List En)):Prop:= ∀(i j:Nat) (X Y:List En) (y z:En),G[i]? =some X→G[j]? =some Y→y∈X→z∈Y→y.1=z.1→i=j∧y=z
section
variable {n:Nat} {G:List (List En)} {x:Nat} {k:Ke.K}
theorem qO {X:List En} {id:Nat} (h:(keyOf X id).isSome=true): ∃k',(id,k')∈X:=by
 apply Classical.byContradiction
 intro hno
 have:keyOf X id=none:=bc.2 (fun z hz e=>hno ⟨z.2,by rw[←e];exact hz⟩)
 rw[this] at h
 cases h
theorem Uq.un (hu:Uq G):Un (gh G):=by
 intro i j X Y id hX hY h1 h2
 obtain⟨k1,q1⟩:=qO h1
 obtain⟨k2,q2⟩:=qO h2
 exact(hu i j X.M Y.M (id,k1) (id,k2) (gE hX) (gE hY) q1 q2 rfl).1
theorem tY (hx:x<n) (hr:Ke.aA k=true) (hu:Uq G):(cH n (gh G) (x:Int) k=G∧ ¬ ∃k',fs G (x,k'))∨ ∃(i:Nat) (X Y:List En),G[i]? =some X∧(∃k',(x,k')∈X)∧cH n (gh G) (x:Int) k=G.set i Y∧ ∀z,z∈Y↔(z∈X∧z.1≠x)∨z=(x,k):=by
 have hnb: ¬py n (x:Int) k:=by unfold py;rintro(q|q|q);omega;omega;rw[hr] at q;cases q
 by_cases hE: ∃k',fs G (x,k')
 ·right
  obtain⟨k',i,X,hX,hm⟩:=hE
  have hks:(keyOf X x).isSome=true:=by
   cases e:keyOf X x with
   |some _=>rfl
   |none=>exact absurd rfl (bc.1 e _ hm)
  have hw:=gJ n (gh G) hu.un i _ (ix hX) x hx hks
  have hc:dZ n (gh G) (x:Int) k=0:=by unfold dZ;rw[if_neg hnb,hw];rfl
  have ha:zf n (gh G) (x:Int)=i:=by unfold zf;rw[hw];simp
  refine⟨i,X,cK n X (x:Int) k,hX,⟨k',hm⟩,?_,fun z=> ?_⟩
  ·unfold cH
   rw[if_pos hc,cF,ha,bW (ix hX)]
  ·have hcc:fE n X (x:Int) k=0:=by unfold fE;rw[if_neg hnb,show((x:Int)).toNat=x from rfl,if_pos hks]
   unfold cK
   rw[if_pos hcc,show((x:Int)).toNat=x from rfl]
   split
   case isTrue hk=>
    have hin:(x,k)∈X:=by
     unfold keyOf at hk
     cases hf:X.find? (fun y=>y.1==x) with
     |none=>rw[hf] at hk;cases hk
     |some y=>
      have hy:=List.mem_of_find?_eq_some hf
      have hx1:y.1=x:=by have:=List.find?_some hf;simpa using this
      rw[hf] at hk
      have hk2:y.2=k:=by injection hk
      rw[←hx1,←hk2]
      exact hy
    constructor
    ·intro hz
     by_cases e:z.1=x
     ·exact .inr (hu i i X X z (x,k) hX hX hz hin e).2
     ·exact .inl ⟨hz,e⟩
    ·rintro(⟨hz,_⟩|rfl)
     ·exact hz
     ·exact hin
   case isFalse=>
    rw[cM,fN]
    exact⟨fun q=>q.elim .inr .inl,fun q=>q.elim .inr .inl⟩
 ·left
  refine⟨?_,hE⟩
  have hw:aM n (gh G) 0 (x:Int)=none:=dP n _ (gh G) 0 (fun i X hX _=>bc.2 (fun y hy e=>hE ⟨y.2,i,X.M,gE hX,by have e':y.1=x:=e;rw[←e'];exact hy⟩))
  have hc: ¬dZ n (gh G) (x:Int) k=0:=by unfold dZ;rw[if_neg hnb,hw];simp
  unfold cH
  rw[if_neg hc,cF]
theorem zY (hx:x<n) (hr:Ke.aA k=true) (hu:Uq G) (z:En):fs (cH n (gh G) (x:Int) k) z↔(fs G z∧z.1≠x)∨(z=(x,k)∧ ∃k',fs G (x,k')):=by
 rcases tY hx hr hu with ⟨e,hE⟩|⟨i,X,Y,hX,hin,e,hY⟩
 ·rw[e]
  constructor
  ·intro h
   exact .inl ⟨h,fun q=>hE ⟨z.2,by rw[←q];exact h⟩⟩
  ·rintro(h|⟨_,h⟩)
   ·exact h.1
   ·exact absurd h hE
 ·rw[e]
  have hil:=(List.getElem?_eq_some_iff.1 hX).1
  obtain⟨k0,hk0⟩:=hin
  constructor
  ·rintro⟨j,Z,hZ,hz⟩
   by_cases ej:j=i
   ·subst ej
    rw[List.getElem?_set_self hil] at hZ
    injection hZ with hZ
    subst hZ
    rcases(hY z).1 hz with q|q
    ·exact .inl ⟨⟨j,X,hX,q.1⟩,q.2⟩
    ·exact .inr ⟨q,k0,j,X,hX,hk0⟩
   ·rw[List.getElem?_set_ne (fun q=>ej q.symm)] at hZ
    exact .inl ⟨⟨j,Z,hZ,hz⟩,fun q=>ej (hu j i Z X z (x,k0) hZ hX hz hk0 q).1⟩
  ·rintro(⟨⟨j,Z,hZ,hz⟩,hne⟩|⟨rfl,_⟩)
   ·by_cases ej:j=i
    ·subst ej
     rw[hX] at hZ
     injection hZ with hZ
     subst hZ
     exact⟨j,Y,List.getElem?_set_self hil,(hY z).2 (.inl ⟨hz,hne⟩)⟩
    ·exact⟨j,Z,by rw[List.getElem?_set_ne (fun q=>ej q.symm)];exact hZ,hz⟩
   ·exact⟨i,Y,List.getElem?_set_self hil,(hY _).2 (.inr rfl)⟩
theorem Uq.Fw (hu:Uq G) (hx:x<n) (hr:Ke.aA k=true):Uq (cH n (gh G) (x:Int) k):=by
 rcases tY hx hr hu with ⟨e,hE⟩|⟨i,X,Y,hX,hin,e,hY⟩
 ·rw[e];exact hu
 ·rw[e]
  have hil:=(List.getElem?_eq_some_iff.1 hX).1
  obtain⟨k0,hk0⟩:=hin
  have back: ∀(j:Nat) (Z:List En) (z:En),(G.set i Y)[j]? =some Z→z∈Z→(∃Z',G[j]? =some Z'∧z∈Z'∧z.1≠x)∨(j=i∧z=(x,k)):=fun j Z z hZ hz=>by
   by_cases ej:j=i
   ·subst ej
    rw[List.getElem?_set_self hil] at hZ
    injection hZ with hZ
    subst hZ
    rcases(hY z).1 hz with q|q
    ·exact .inl ⟨X,hX,q.1,q.2⟩
    ·exact .inr ⟨rfl,q⟩
   ·rw[List.getElem?_set_ne (fun q=>ej q.symm)] at hZ
    exact .inl ⟨Z,hZ,hz,fun q=>ej (hu j i Z X z (x,k0) hZ hX hz hk0 q).1⟩
  intro a b A B y z hA hB hy hz e1
  rcases back a A y hA hy with ⟨A',h1,h2,h3⟩|⟨h1,h2⟩
  ·rcases back b B z hB hz with ⟨B',g1,g2,g3⟩|⟨g1,g2⟩
   ·exact hu a b A' B' y z h1 g1 h2 g2 e1
   ·rw[g2] at e1;exact absurd e1 h3
  ·rcases back b B z hB hz with ⟨B',g1,g2,g3⟩|⟨g1,g2⟩
   ·rw[h2] at e1;exact absurd e1.symm g3
   ·exact⟨by rw[h1,g1],by rw[h2,g2]⟩
theorem gU (M:Mc) (g:Pi.Md) (hk: ∀t:Int,Ke.aA (Pi.bu g.T g.L t)=true): ∀(l:List Nat) (G:List (List En)),(∀x∈l,x<n)→l.Nodup→Uq G→Uq (l.foldl (fv n M g) G)∧ ∀z:En,fs (l.foldl (fv n M g) G) z↔(fs G z∧ ¬(z.1∈l∧dC M n (M.th z.1)=1))∨((z.1∈l∧dC M n (M.th z.1)=1)∧z.2=Pi.bu g.T g.L (z.1:Int)∧ ∃k',fs G (z.1,k'))
 |[],G,_,_,hu=>⟨hu,fun z=>⟨fun h=> .inl ⟨h,fun q=>by cases q.1⟩,fun h=>h.elim (fun q=>q.1) (fun q=>by cases q.1.1)⟩⟩
 |x::l,G,hl,hn,hu=>by
  obtain⟨hxl,hnl⟩:=List.nodup_cons.1 hn
  have hx:=hl x (by simp)
  have hl': ∀y∈l,y<n:=fun y hy=>hl y (List.mem_cons_of_mem _ hy)
  rw[List.foldl_cons]
  by_cases hs:dC M n (M.th x)=1
  ·have e:fv n M g G x=cH n (gh G) (x:Int) (Pi.bu g.T g.L (x:Int)):=by unfold fv;rw[if_pos hs]
   obtain⟨h1,h2⟩:=gU M g hk l (fv n M g G x) hl' hnl (by rw[e];exact hu.Fw hx (hk _))
   refine⟨h1,fun z=>(h2 z).trans ?_⟩
   rw[e]
   have hc:=fun z=>zY hx (hk (x:Int)) hu z
   have hid: ∀y,(∃k',fs (cH n (gh G) (x:Int) (Pi.bu g.T g.L (x:Int))) (y,k'))↔ ∃k',fs G (y,k'):=fun y=>ti y
   by_cases ex:z.1=x
   ·have nl: ¬z.1∈l:=by rw[ex];exact hxl
    constructor
    ·rintro(⟨q,_⟩|⟨q,_⟩)
     ·rcases(hc z).1 q with ⟨_,q2⟩|⟨q1,q2⟩
      ·exact absurd ex q2
      ·exact .inr ⟨⟨by rw[ex];simp,by rw[ex];exact hs⟩,by rw[q1],by rw[ex];exact q2⟩
     ·exact absurd q.1 nl
    ·rintro(⟨_,q⟩|⟨q,q1,q2⟩)
     ·exact absurd ⟨by rw[ex];simp,by rw[ex];exact hs⟩ q
     ·refine .inl ⟨(hc z).2 (.inr ⟨?_,by rw[ex] at q2;exact q2⟩),fun q=>nl q.1⟩
      rw[←ex,←q1]
   ·have hz:fs (cH n (gh G) (x:Int) (Pi.bu g.T g.L (x:Int))) z↔fs G z:=by
     rw[hc z]
     constructor
     ·rintro(q|⟨q,_⟩)
      ·exact q.1
      ·rw[q] at ex;exact absurd rfl ex
     ·intro q;exact .inl ⟨q,ex⟩
    rw[hz,hid z.1]
    have:z.1∈x::l↔z.1∈l:=by rw[List.mem_cons];exact⟨fun q=>q.resolve_left ex,.inr⟩
    rw[this]
  ·have e:fv n M g G x=G:=by unfold fv;rw[if_neg hs]
   rw[e]
   obtain⟨h1,h2⟩:=gU M g hk l G hl' hnl hu
   refine⟨h1,fun z=>(h2 z).trans ?_⟩
   have:(z.1∈x::l∧dC M n (M.th z.1)=1)↔(z.1∈l∧dC M n (M.th z.1)=1):=by
    rw[List.mem_cons]
    constructor
    ·rintro⟨q|q,q2⟩
     ·rw[q] at q2;exact absurd q2 hs
     ·exact⟨q,q2⟩
    ·rintro⟨q,q2⟩;exact⟨.inr q,q2⟩
   rw[this]
theorem lG {M:Mc} (hu:Uq M.pl) (hkr: ∀y∈M.gr.T,Ke.aA y.k=true) (hnd:(bV M n).Nodup) (hr: ∀x,j5 M x→x<n∧M.S x≠0∧dC M n (M.th x)=1):
  Uq (settle M n).pl∧ ∀z:En,fs (settle M n).pl z↔j5 M z.1∧z.2=Pi.bu (settle M n).gr.T (settle M n).gr.L (z.1:Int):=by
 have hk: ∀t:Int,Ke.aA (Pi.bu (gi M n).T (gi M n).L t)=true:=fun t=>fK (fe n M _ _ hkr) t
 obtain⟨h1,h2⟩:=gU (n:=n) M (gi M n) hk (bV M n) M.pl (fun x hx=>(dV.1 hx).1) hnd hu
 refine⟨h1,fun z=>(h2 z).trans ?_⟩
 constructor
 ·rintro(⟨q1,q2⟩|⟨_,q2,q3⟩)
  ·obtain⟨a,b,c⟩:=hr z.1 ⟨z.2,q1⟩
   exact absurd ⟨dV.2 ⟨a,b⟩,c⟩ q2
  ·exact⟨q3,q2⟩
 ·rintro⟨q1,q2⟩
  obtain⟨a,b,c⟩:=hr z.1 q1
  exact .inr ⟨⟨dV.2 ⟨a,b⟩,c⟩,q2,q1⟩
end
section
variable {P n q B:Nat} {D:List Nat} {G:List (List En)} {M:Mc}
theorem Uq.none (h: ∀z,¬fs G z):Uq G:=fun i j X Y y z hX hY hy hz e=>absurd ⟨i,X,hX,hy⟩ (h y)
theorem Uq.sub (hu:Uq G) {i:Nat} {X Y:List En} (hX:G[i]? =some X) (hs: ∀z∈Y,z∈X):Uq (G.set i Y):=by
 have hil:=(List.getElem?_eq_some_iff.1 hX).1
 have back: ∀(j:Nat) (Z:List En) (z:En),(G.set i Y)[j]? =some Z→z∈Z→ ∃Z',G[j]? =some Z'∧z∈Z':=fun j Z z hZ hz=>by
  by_cases ej:j=i
  ·subst ej
   rw[List.getElem?_set_self hil] at hZ
   injection hZ with hZ
   subst hZ
   exact⟨X,hX,hs z hz⟩
  ·rw[List.getElem?_set_ne (fun q=>ej q.symm)] at hZ
   exact⟨Z,hZ,hz⟩
 intro a b A B y z hA hB hy hz e
 obtain⟨A',h1,h2⟩:=back a A y hA hy
 obtain⟨B',g1,g2⟩:=back b B z hB hz
 exact hu a b A' B' y z h1 g1 h2 g2 e
theorem Uq.take (hu:Uq G) (p d:Int):Uq (eP P (gh G) p d):=by
 unfold eP
 split
 ·rw[cF];exact hu
 ·rename_i c hc
  rw[cF]
  cases hi:G[c]? with
  |none=>rw[List.set_eq_of_length_le (List.getElem?_eq_none_iff.1 hi)];exact hu
  |some X=>
   rw[bW (ix hi)]
   exact hu.sub hi (fun z hz=>List.mem_of_mem_tail hz)
theorem Uq.put (hu:Uq G) (p:Int) {id:Nat} {k:Ke.K} (hno: ∀z,fs G z→z.1≠id):Uq (dM P n q (gh G) p (id:Int) k):=by
 unfold dM
 split
 case isFalse=>rw[cF];exact hu
 case isTrue=>
  rw[cF]
  generalize iU P n q (gh G) p.toNat=i
  cases hi:G[i]? with
  |none=>rw[List.set_eq_of_length_le (List.getElem?_eq_none_iff.1 hi)];exact hu
  |some X=>
   rw[bW (ix hi),show((id:Int)).toNat=id from rfl]
   have hil:=(List.getElem?_eq_some_iff.1 hi).1
   have back: ∀(j:Nat) (Z:List En) (z:En),(G.set i (Go.Proofs.YtjlbmmiomfpgiaaGreatDoor.put (id,k) X))[j]? =some Z→z∈Z→(∃Z',G[j]? =some Z'∧z∈Z')∨(j=i∧z=(id,k)):=fun j Z z hZ hz=>by
    by_cases ej:j=i
    ·subst ej
     rw[List.getElem?_set_self hil] at hZ
     injection hZ with hZ
     subst hZ
     rcases cM.1 hz with q|q
     ·exact .inr ⟨rfl,q⟩
     ·exact .inl ⟨X,hi,q⟩
    ·rw[List.getElem?_set_ne (fun q=>ej q.symm)] at hZ
     exact .inl ⟨Z,hZ,hz⟩
   intro a b A B y z hA hB hy hz e
   rcases back a A y hA hy with ⟨A',h1,h2⟩|⟨h1,h2⟩
   ·rcases back b B z hB hz with ⟨B',g1,g2⟩|⟨g1,g2⟩
    ·exact hu a b A' B' y z h1 g1 h2 g2 e
    ·rw[g2] at e;exact absurd e (hno y ⟨a,A',h1,h2⟩)
   ·rcases back b B z hB hz with ⟨B',g1,g2⟩|⟨g1,g2⟩
    ·rw[h2] at e;exact absurd e.symm (hno z ⟨b,B',g1,g2⟩)
    ·exact⟨by rw[h1,g1],by rw[h2,g2]⟩
theorem rD {S:Nat→Nat} {fr:Bool} {n:Nat}: ∀k,k≤n→(Gt.pl S fr n k).Nodup
 |0,_=>by simp[Gt.pl]
 |k+1,hk=>by
  by_cases hs:(S k==0)=fr
  ·rw[Gt.gI (by omega) hs,List.nodup_append]
   refine⟨rD k (by omega),by simp,fun a ha b hb e=> ?_⟩
   simp at hb
   subst hb e
   have:=((nC k (by omega) _).1 ha).1
   simp at this
  ·rw[Gt.tu hs];exact rD k (by omega)
theorem oy (M:Mc) (n:Nat):(bV M n).Nodup:=by
 unfold bV
 exact List.Pairwise.map _ (fun (a b:Fin n) (h:a≠b) e=>h (Fin.ext e)) (rD n (Nat.le_refl _))
end
section
variable {P n q B:Nat} {fy:Nat→Nat} {M:Mc}
theorem uD (hu:Uq M.pl) (hkr: ∀y∈M.gr.T,Ke.aA y.k=true):Uq (settle M n).pl:=
 (gU (n:=n) M (gi M n) (fun t=>fK (fe n M _ _ hkr) t) (bV M n) M.pl (fun x hx=>(dV.1 hx).1) (oy M n) hu).1
theorem j3 (n:Nat) (M:Mc) (x:Nat):(bn n M x).pl=M.pl:=by unfold bn bS;split<;>rfl
theorem og (n:Nat) (M:Mc) (x:Nat):(bn n M x).gr=M.gr:=by unfold bn bS;split<;>rfl
theorem rK (n:Nat) (M:Mc) (x y:Nat):j5 (bJ n M x) y↔j5 M y:=by
 have h:=(ju n (bn n M x) (gi (bn n M x) n) y (bV (bn n M x) n) (bn n M x).pl).1
 have e:=j3 n M x
 unfold j5
 rw[e] at h
 refine Iff.trans ?_ h
 show(∃k,fs (settle (bn n M x) n).pl (y,k))↔_
 unfold settle
 rw[e]
theorem qe (hu:Uq M.pl) (hkr: ∀y∈M.gr.T,Ke.aA y.k=true) {x:Nat} (hno: ¬j5 M x) (p:Int):Uq (ready P n q M x p).pl:=by
 have h3:Uq (bJ n M x).pl:=uD (M:=bn n M x) (by rw[j3];exact hu) (by rw[og];exact hkr)
 exact h3.put p (fun z hz e=>hno ((rK n M x x).1 ⟨z.2,by
  have h2:fs (bJ n M x).pl (z.1,z.2):=hz
  rw[e] at h2
  exact h2⟩))
end
theorem wC {w:World} {O:Nat→Prop} {pb n np q T:Nat} {G:List (List En)} (h:PQ w O pb n np q T G) {p d:Int} (hb:(bb np (gh G) p d).isSome=true):
  ∃z:En,z.1<n∧bI (gh G) (bb np (gh G) p d)=(z.1:Int)∧bK (gh G) (bb np (gh G) p d)=z.2∧fs G z∧ ∀y,fs G y→Ke.up y.2 z.2=false:=by
 obtain⟨x,k,hx,hbi,hent,hup,_⟩:=qK h hb
 obtain⟨c,hc⟩:=Option.isSome_iff_exists.1 hb
 obtain⟨z,e1,e2,hz,hw,hs⟩:=h.D1 hc
 obtain⟨_,_,y,z',M',hy,hM⟩:=mj hc
 have q1:bI (gh G) (some c)=(z'.1:Int):=by show q7 (MM (gh G) c)=_;rw[bW hy,hM];rfl
 have q2:bK (gh G) (some c)=z'.2:=by show gj (MM (gh G) c)=_;rw[bW hy,hM];rfl
 have hG:G[c]? =some (z'::M'):=by rw[←hM];exact gE hy
 have hE:fs G z':=⟨c,_,hG,by simp⟩
 have hx1:z'.1=x:=by rw[hc,q1] at hbi;omega
 have hn:z'.1<n:=by rw[hx1];exact hx
 refine⟨z',hn,by rw[hc];exact q1,by rw[hc];exact q2,hE,fun y' hy'=> ?_⟩
 obtain⟨i,M2,hM2,hy2⟩:=hy'
 have hk:gj (MM (gh G) c)=z'.2:=by rw[bW hy,hM];rfl
 cases hM3:M2 with
 |nil=>rw[hM3] at hy2;cases hy2
 |cons y0 M4=>
  have h0:Ke.up y0.2 z'.2=false:=by rw[←hk];exact tS h.len hc (by rw[←hM3];exact hM2)
  rw[hM3] at hy2
  rcases List.mem_cons.1 hy2 with e|e
  ·rw[e];exact h0
  ·have hf:=h.tD hM2
   rw[hM3] at hf
   exact jd ((List.pairwise_cons.1 hf).1 y' e) h0
section
variable {P n q B:Nat} {fy:Nat→Nat} {M:Mc}
end
section
variable {P n q B:Nat} {M:Mc}
structure Et (M R:Mc) (x:Nat):Prop where
 S: ∀y,y≠x→R.S y=M.S y
 th: ∀y,y≠x→R.th y=M.th y
 pr:R.pr=M.pr
theorem mV {pr x:Nat} (t:CY P M x) (hx:x<n) (hs:M.S x=1) (d:Int):Et M (settle (bB P n M pr x d) n) x∧(settle (bB P n M pr x d) n).S x=2∧(settle (bB P n M pr x d) n).pc pr=⟨(x:Int),0,false⟩∧(settle (bB P n M pr x d) n).gr.L=M.gr.L∧((settle (bB P n M pr x d) n).th x).pg=(M.th x).pg∧((settle (bB P n M pr x d) n).th x).ia=(M.th x).ia∧((settle (bB P n M pr x d) n).th x).il=(M.th x).il:=by
 have kd:=dm (bB P n M pr x d) n
 have hmv:(bB P n M pr x d).S=Gt.aw M.S x 2:=by
  show dp n M.G M.S (M.th x).p (M.th x).g 2=_
  rw[t.p,t.g]
  exact jL hx (by omega) (by rw[hs];rfl)
 have eth:(settle (bB P n M pr x d) n).th x={M.th x with pc:=(pr:Int),lf:=(bH M (M.th x)).toNat}:=Gt.aj M.th x _
 refine⟨⟨fun y hy=> ?_,fun y hy=>Gt.af _ _ _ _ hy,rfl⟩,?_,Gt.aj M.pc pr _,kd.L,by rw[eth],by rw[eth],by rw[eth]⟩
 ·rw[kd.S,hmv,Gt.af _ _ _ _ hy]
 ·rw[kd.S,hmv,Gt.aj]
end
theorem rT (h:Int) (l:List Nat) (x:Nat):Pi.behind (⟨h,l⟩::Pi.jT 3) x=if h=(x:Int) then l else []:=by
 have h1: ¬(-1:Int)=(x:Int):=by omega
 unfold Pi.behind Pi.jT
 by_cases e:h=(x:Int)
 ·rw[if_pos e]
  simp[List.replicate,e,h1]
 ·rw[if_neg e]
  simp[List.replicate,e,h1]
theorem wZ {h:Int} {l:List Nat} {t s:Nat} (e:Pi.Edge (⟨h,l⟩::Pi.jT 3) t s):t∈l∧h=(s:Int):=by
 obtain⟨y,hy,h1,h2⟩:=e
 rcases List.mem_cons.1 hy with q|q
 ·rw[q] at h1 h2;exact⟨h1,h2⟩
 ·have:y=⟨-1,[]⟩:=List.eq_of_mem_replicate q
  rw[this] at h1
  cases h1
theorem uT (h:Int):Pi.pF (⟨h,[]⟩::Pi.jT 3):=⟨0,fun _=>0,fun _=>Nat.le_refl _,fun t s e=>by have:=(wZ e).1;cases this⟩
section
variable {B:Nat} {fy:Nat→Nat} {s0 s1 s2:Nat} {r h:Int} {l:List Nat} {M:Mc}
end
end Go.Proofs.YtjlbmmiomfpgiaaGreatDoor
namespace Go.Proofs.YtjlbmmiomfpgiaaGreatDoor
open Go.RowKit Go.Lib Go.Shelf
theorem pM {P:Program} {f:FuncId} {args:Array Value} {w:World} {R:Ending→World→Prop} (h:Calls P f args w R): ∃e w',R e w':=by
 obtain⟨e,w',_,hr,_⟩:=h []
 exact⟨e,w',hr⟩
section
variable {w wr w':World} {ad:Ad} {T B:Nat} {M M1:Mc} {fy:Nat→Nat} {s0 s1 s2:Nat}
end
attribute [local go_sem ↓] Go.wp_at_zero Go.wp_at_succ
theorem zE (x y:Int) (w:World):(Instr.build 64 #[(0,.int .i64 x),(1,.int .i64 y)]).run Tryz.prog w= .ok (.agg #[.int .i64 x,.int .i64 y]) w:=run_build w 64 _ _ (by kernel_rfl)
theorem iN.EW {w:World} {base:Nat} {v:Value} {ev:Ev} (h:iN w base v [ev]): ∃b c,v= .slice (some ⟨b,0,none⟩) 1 c∧w.cell? ⟨b,0,none⟩=some (.int .i64 ev.k)∧w.cell? ⟨b,2,none⟩=some (.int .i64 ev.x):=by
 rcases h.2 with ⟨_,e0⟩|⟨b,c,cur,e1,h0,hg,hrow⟩
 ·simp at e0
 ·have hc: ∀(k:Nat) (u:Value),(cQ [ev])[k]? =some u→w.cell? ⟨b,k,none⟩=some u:=fun k u hu=>by
   rw[←hrow.2.2.2,List.getElem?_take] at hu
   split at hu
   ·simp only[World.cell?,hg]
    simpa using hu
   ·cases hu
  exact⟨b,c,e1,hc 0 _ rfl,hc 2 _ rfl⟩
end Go.Proofs.YtjlbmmiomfpgiaaGreatDoor
namespace Go.Proofs.YtjlbmmiomfpgiaaGreatDoor
open Go.RowKit
section
variable {P n q B:Nat} {M:Mc}
theorem lC (M:Mc) (n:Nat) (t:Tr):Ke.aA (cB M n t)=true:=by
 unfold cB
 split
 ·rfl
 ·split
  ·rfl
  ·split<;>rfl
structure Tq (P n B:Nat) (M:Mc):Prop where
 iv:Iv P n B [] M
 uq:Uq M.pl
 kk: ∀z,fs M.pl z→z.2=Pi.bu M.gr.T M.gr.L (z.1:Int)
 ow: ∀x,x<n→M.S x≠0→Pi.fF M.gr.T x=cB M n (M.th x)
theorem Tq.of (h:Iv P n B [] M) (hu:Uq M.pl):Tq P n B (settle M n):=by
 have kd:=dm M n
 obtain⟨h1,h2⟩:=lG (n:=n) hu h.kr (oy M n) (fun x hx=>by
  obtain⟨a,b⟩:=(h.rd x).1 hx
  have t:=h.th x a (by omega)
  exact⟨a,by omega,by rw[oO a t.p t.g (by omega)];exact b⟩)
 obtain⟨b1,b2,b3⟩:=jM n M (fun x=>cB M n (M.th x)) (bV M n) M.gr (fun x hx=>⟨by rw[h.tl];exact(dV.1 hx).1,rfl,lC M n _⟩)
 exact⟨h.settle,h1,fun z hz=>((h2 z).1 hz).2,fun x hx hs=>b3 x (.inl (dV.2 ⟨hx,by rw[kd.S] at hs;exact hs⟩))⟩
theorem Tq.start (h:Tq P n B M) (hP:1≤P) {x:Nat} (hf:cj M n=some x) (pg:Int) (lv:Nat) (sv:Int) (hpg:iz M pg=true):Tq P n (B+1) (dH P n q M x pg lv sv):=by
 obtain⟨hx,hx0⟩:=free_spec hf
 have hI':Iv P n (B+1) [] (fp P n q M x 0 (dx pg lv sv)):=h.iv.B4 (q:=q) (p:=0) (by omega) hf pg lv sv hpg
 have hni:=h.iv.AO (x:=x) (by omega)
 exact Tq.of hI' (qe (M:={dh M x with th:=Gt.aw M.th x {dx pg lv sv with p:=(x:Int),g:=M.G x+1}}) h.uq h.iv.kr hni _)
theorem Tq.Bc (h:Tq P n B M) {w:World} {O:Nat→Prop} {pb T pr x:Nat} {d:Int} (hpq:PQ w O pb n P q T M.pl) (hp:pr<P) (hr:(M.pc pr).r= -1) (hb:(bb P (gh M.pl) (pr:Int) d).isSome=true) (hbi:bI (gh M.pl) (bb P (gh M.pl) (pr:Int) d)=(x:Int)):Tq P n B (settle (bB P n M pr x d) n):=
 Tq.of (h.iv.Bc hpq hp hr hb hbi) (h.uq.take (pr:Int) d)
theorem vg {x p:Nat} (k:Eu n M (ready P n q M x (p:Int)) x) (hu:Uq M.pl) (htl:M.gr.T.length=n) (hkr: ∀y∈M.gr.T,Ke.aA y.k=true) (hno: ¬j5 M x) (hpl:M.pl.length=P+1) (hp:p<P) (hx:x<n)
  (hS1: ∀y,j5 M y→y<n∧M.S y=1) (hth: ∀y,y<n→(ready P n q M x (p:Int)).S y≠0→((ready P n q M x (p:Int)).th y).p=(y:Int)∧((ready P n q M x (p:Int)).th y).g=(ready P n q M x (p:Int)).G y):
  (∀z,fs (ready P n q M x (p:Int)).pl z→z.2=Pi.bu (ready P n q M x (p:Int)).gr.T (ready P n q M x (p:Int)).gr.L (z.1:Int))∧ ∀y,y<n→(ready P n q M x (p:Int)).S y≠0→Pi.fF (ready P n q M x (p:Int)).gr.T y=cB (ready P n q M x (p:Int)) n ((ready P n q M x (p:Int)).th y):=by
 obtain⟨R,eR⟩: ∃R,ready P n q M x (p:Int)=R:=⟨_,rfl⟩
 obtain⟨N,eN⟩: ∃N,bn n M x=N:=⟨_,rfl⟩
 have e1:R.S=N.S∧R.th=N.th∧R.G=N.G∧R.gr=gi N n∧ ∀y,cB R n (R.th y)=cB N n (N.th y):=by rw[←eR,←eN];exact⟨rfl,rfl,rfl,rfl,fun _=>rfl⟩
 have e2:R.pl=dM P n q (gh (settle N n).pl) (p:Int) (x:Int) (Pi.bu (settle N n).gr.T (settle N n).gr.L (x:Int)):=by rw[←eR,←eN];rfl
 have eg:(settle N n).gr=R.gr:=by rw[e1.2.2.2.1];rfl
 have npl:N.pl=M.pl:=by rw[←eN];exact j3 n M x
 have ngr:N.gr=M.gr:=by rw[←eN];exact og n M x
 rw[eR] at k hth⊢
 have nS:N.S=Gt.aw M.S x 1:=by rw[←e1.1];exact k.S
 have nth: ∀y,y<n→N.S y≠0→(N.th y).p=(y:Int)∧(N.th y).g=N.G y:=fun y hy hs=>by
  have:=hth y hy (by rw[e1.1];exact hs)
  rw[e1.2.1,e1.2.2.1] at this
  exact this
 have AO: ∀y,j5 N y→y<n∧N.S y≠0∧dC N n (N.th y)=1:=fun y hy=>by
  have hy':j5 M y:=by unfold j5 at hy⊢;rw[←npl];exact hy
  obtain⟨a,b⟩:=hS1 y hy'
  have hyx:y≠x:=fun e=>hno (e▸hy')
  have hs:N.S y=1:=by rw[nS,Gt.af _ _ _ _ hyx];exact b
  obtain⟨c,d⟩:=nth y a (by omega)
  exact⟨a,by omega,by rw[oO a c d (by omega)];exact hs⟩
 have nkr: ∀y∈N.gr.T,Ke.aA y.k=true:=by rw[ngr];exact hkr
 obtain⟨h1,h2⟩:=lG (n:=n) (M:=N) (by rw[npl];exact hu) nkr (oy N n) AO
 have kdN:=dm N n
 constructor
 ·intro z hz
  rw[e2] at hz
  have hno': ∀z,fs (settle N n).pl z→z.1≠x:=fun z hz e=>by
   have:=((h2 z).1 hz).1
   rw[e] at this
   unfold j5 at this
   rw[npl] at this
   exact hno this
  rcases(ud (by rw[kdN.pl,npl];exact hpl) hp hx (fK (kdN.kr nkr) _) hno' z).1 hz with q|q
  ·rw[q,←eg]
  ·rw[((h2 z).1 q).2,eg]
 ·intro y hy hs
  rw[e1.1] at hs
  obtain⟨b1,b2,b3⟩:=jM n N (fun x=>cB N n (N.th x)) (bV N n) N.gr (fun x hx=>⟨by rw[ngr,htl];exact(dV.1 hx).1,rfl,lC N n _⟩)
  rw[e1.2.2.2.2,e1.2.2.2.1]
  exact b3 y (.inl (dV.2 ⟨hy,hs⟩))
theorem Tq.back (h:Tq P n B M) {pr x:Nat} (hp:pr<P) (hr:(M.pc pr).r=(x:Int)):Tq P n B (dj P n q M pr x):=by
 obtain⟨hx,hx2⟩:=h.iv.run hp hr
 have t0:=h.iv.th x hx (by omega)
 have hni:=h.iv.AO (x:=x) (by omega)
 have k:=eD (q:=q) hx hp h.iv.pl h.iv.kr (.inr (.inl hx2)) t0.p t0.g hni
 have hI:=h.iv.back (q:=q) hp hr
 obtain⟨k1,k2⟩:=vg k h.uq h.iv.tl h.iv.kr hni h.iv.pl hp hx (fun y hy=>(h.iv.rd y).1 hy) (fun y hy hs=>by
  have t:=hI.th y hy hs
  exact⟨t.p,t.g⟩)
 exact⟨hI,qe h.uq h.iv.kr hni _,k1,k2⟩
theorem Tq.same (h:Tq P n B M) {R:Mc} (hI:Iv P n B [] R) (hpl:R.pl=M.pl):Tq P n B (settle R n):=Tq.of hI (by rw[hpl];exact h.uq)
theorem Tq.key (h:Tq P n B M) (ha:Pi.pF M.gr.L) {x:Nat} (hx:x<n) (hs:M.S x≠0) (hb:Pi.behind M.gr.L x=[]):Pi.bu M.gr.T M.gr.L (x:Int)=cB M n (M.th x):=by
 rw[r4 ha (by rw[h.iv.tl];exact hx) hb]
 exact h.ow x hx hs
theorem Iv.Dx (h:Iv P n B [] M) {p:Nat} (hp:p<P) {x:Nat} (hx:x<n) (hs:M.S x=1) (d:Int):(bb P (gh M.pl) (p:Int) d).isSome=true:=by
 cases hb:(bb P (gh M.pl) (p:Int) d).isSome with
 |true=>rfl
 |false=>
  obtain⟨k,hk⟩:=(h.rd x).2 ⟨hx,hs⟩
  exact absurd hk (uj h.pl ⟨by omega,by omega⟩ hb _)
theorem Tq.mS (h:Tq P n B M) {w:World} {O:Nat→Prop} {pb T:Nat} (hpq:PQ w O pb n P q T M.pl) {p:Nat} (hp:p<P) (d:Int) {x:Nat} (hx:x<n) (hs:M.S x=1)
  (hup: ∀y,y<n→M.S y=1→y≠x→Ke.up (Pi.bu M.gr.T M.gr.L (x:Int)) (Pi.bu M.gr.T M.gr.L (y:Int))=true):
  (bb P (gh M.pl) (p:Int) d).isSome=true∧bI (gh M.pl) (bb P (gh M.pl) (p:Int) d)=(x:Int)∧bK (gh M.pl) (bb P (gh M.pl) (p:Int) d)=Pi.bu M.gr.T M.gr.L (x:Int):=by
 have hb:=h.iv.Dx hp hx hs d
 obtain⟨z,hz,e1,e2,he,hu⟩:=wC hpq hb
 obtain⟨k,hk⟩:=(h.iv.rd x).2 ⟨hx,hs⟩
 have hzx:z.1=x:=by
  apply Classical.byContradiction
  intro hne
  have q1:=hu (x,k) hk
  have q2:=hup z.1 hz ((h.iv.rd z.1).1 ⟨z.2,he⟩).2 hne
  have q3:=h.kk _ hk
  have q4:=h.kk _ he
  rw[q4] at q1
  have q5:k=Pi.bu M.gr.T M.gr.L (x:Int):=q3
  rw[q5] at q1
  have q6:Ke.up (Pi.bu M.gr.T M.gr.L (x:Int)) (Pi.bu M.gr.T M.gr.L (z.1:Int))=false:=q1
  rw[q2] at q6
  cases q6
 exact⟨hb,by rw[e1,hzx],by rw[e2,h.kk _ he,hzx]⟩
theorem km (h:Iv P n B [] M) (hP:1≤P) {x:Nat} (hf:cj M n=some x) (pg:Int) (lv:Nat) (sv:Int) {R:Mc} (eR:R=dH P n q M x pg lv sv):(R.S=Gt.aw M.S x 1∧R.pc=M.pc∧R.gr.L=M.gr.L∧R.pr=M.pr∧R.qu=M.qu∧R.ag=M.ag∧R.nw=M.nw∧R.wh=M.wh)∧R.sv=Cb.jC M.sv sv M.nw∧(∀y,y≠x→R.th y=M.th y)∧R.th x={dx pg lv sv with p:=(x:Int),g:=M.G x+1,sn:=M.nw,lf:=0}:=by
 obtain⟨hx,hx0⟩:=free_spec hf
 have hni:=h.AO (x:=x) (by omega)
 have hS:({dh M x with th:=Gt.aw M.th x {dx pg lv sv with p:=(x:Int),g:=M.G x+1}}:Mc).S x=1:=Gt.aj M.S x 1
 have k:=eD (P:=P) (n:=n) (q:=q) (M:={dh M x with th:=Gt.aw M.th x {dx pg lv sv with p:=(x:Int),g:=M.G x+1}}) (p:=0) hx (by omega) h.pl h.kr (.inl hS) (congrArg Tr.p (Gt.aj M.th x _)) ((congrArg Tr.g (Gt.aj M.th x _)).trans (Gt.aj M.G x _).symm) hni
 have eth: ∀y,R.th y=Gt.aw (Gt.aw M.th x {dx pg lv sv with p:=(x:Int),g:=M.G x+1}) x {(Gt.aw M.th x {dx pg lv sv with p:=(x:Int),g:=M.G x+1}) x with sn:=M.nw,lf:=0} y:=fun y=>by rw[eR];exact congrFun k.th y
 have eS: ∀y,R.S y=Gt.aw (Gt.aw M.S x 1) x 1 y:=fun y=>by rw[eR];exact congrFun k.S y
 refine⟨⟨funext fun y=> ?_,by rw[eR];exact k.pc,by rw[eR];exact yQ P n q M x pg lv sv,by rw[eR];exact k.pr,by rw[eR];exact k.qu,by rw[eR];exact k.ag,by rw[eR];exact k.nw,by rw[eR];exact k.wh⟩,?_,fun y hy=> ?_,?_⟩
 ·rw[eS]
  by_cases e:y=x
  ·rw[e,Gt.aj,Gt.aj]
  ·rw[Gt.af _ _ _ _ e]
 ·have e:R.sv=if Gt.aw M.S x 1 x=2 then M.sv else Cb.jC M.sv (Gt.aw M.th x {dx pg lv sv with p:=(x:Int),g:=M.G x+1} x).sv M.nw:=by rw[eR];exact k.sv
  rw[e,Gt.aj,Gt.aj,if_neg (by decide)]
  rfl
 ·rw[eth,Gt.af _ _ _ _ hy,Gt.af _ _ _ _ hy]
 ·rw[eth,Gt.aj,Gt.aj]
end
def tO (j:Nat):Int:=if j=0 then 1 else 9
def tR (j:Nat):Int:=if j=0 then 1000 else 0
def pT:Pm:=⟨2,tO,tR⟩
structure Tt (B z0 z1:Nat) (rr:Int) (b l d tm:Nat) (M:Mc):Prop where
 tq:Tq 1 8 B M
 s0:M.S 0=z0
 s1:M.S 1=z1
 so: ∀x,2≤x→x<8→M.S x=0
 r:(M.pc 0).r=rr
 m:(M.pc 0).m=false
 s:(M.pc 0).s≤tm
 qu:M.qu=50
 ag:M.ag=50
 L:M.gr.L=⟨-1,[]⟩::Pi.jT 3
 pr:M.pr=[pT]
 sv:M.sv=[⟨b,20,l,d⟩]
 wh:M.wh=[]
 nw:M.nw=tm
 hn:tm≤20
 t0:z0≠0→(M.th 0).lv=1∧(M.th 0).sv=0∧(M.th 0).lf≤1
 t1:z1≠0→(M.th 1).lv=9∧(M.th 1).sv= -1∧(M.th 1).lf≤9
def fx (M:Mc) (u v:Int):Prop:=(M.th 0).pg=0∧(M.th 0).ia=u∧(M.th 0).il=v
theorem jt {M:Mc} {t:Tr} (ha:M.ag=50) (hn:M.nw≤20) (hl:t.lv<200):bH M t=(t.lv:Int):=by
 unfold bH Ag.si
 rw[ha,if_neg (by decide)]
 have h0:Ag.ij (M.nw:Int) (t.sn:Int)/((50:Nat):Int)=0:=by
  unfold Ag.ij
  split
  ·rfl
  ·omega
 rw[h0,if_pos (by omega)]
 omega
section
variable {B:Nat} {s0 s1:Nat} {r:Int} {b l d nw:Nat} {M:Mc}
theorem Tt.ya (i:Tt B s0 s1 r b l d nw M) {x:Nat} (hx:x<8) (hs:M.S x≠0):Pi.bu M.gr.T M.gr.L (x:Int)=cB M 8 (M.th x):=
 i.tq.key (by rw[i.L];exact uT _) hx hs (by rw[i.L,rT];split<;>rfl)
theorem Tt.xd (i:Tt B s0 s1 r b l d nw M) (hs:s0≠0):Pi.bu M.gr.T M.gr.L ((0:Nat):Int)=if 0<l then Ke.bQ (d:Int) else Ke.aW ((1:Nat):Int):=by
 rw[i.ya (by decide) (by rw[i.s0];exact hs)]
 obtain⟨e1,e2,e3⟩:=i.t0 hs
 have ea:Cb.iC M.sv (M.th 0).sv=⟨b,20,l,d⟩:=by rw[i.sv,e2];rfl
 unfold cB
 rw[ea]
 by_cases hl:0<l
 ·rw[if_pos hl,if_pos hl]
 ·rw[if_neg hl,if_neg hl,jt i.ag (by rw[i.nw];exact i.hn) (by omega),e1]
  split
  ·rfl
  ·split
   ·rw[show max (((1:Nat):Int)) ((M.th 0).lf:Int)=((1:Nat):Int) by omega]
   ·rfl
theorem Tt.AX (i:Tt B s0 s1 r b l d nw M) (hs:s1≠0):Pi.bu M.gr.T M.gr.L ((1:Nat):Int)=Ke.aW ((9:Nat):Int):=by
 rw[i.ya (by decide) (by rw[i.s1];exact hs)]
 obtain⟨e1,e2,e3⟩:=i.t1 hs
 have ea:Cb.iC M.sv (M.th 1).sv=⟨0,0,0,0⟩:=by rw[i.sv,e2];rfl
 unfold cB
 rw[ea,if_neg (by simp),jt i.ag (by rw[i.nw];exact i.hn) (by omega),e1]
 split
 ·rfl
 ·split
  ·rw[show max (((9:Nat):Int)) ((M.th 1).lf:Int)=((9:Nat):Int) by omega]
  ·rfl
theorem Tt.at (i:Tt B s0 s1 r b l d nw M) {y:Nat} (hy:y<8) (hs:M.S y=1):(y=0∧s0=1)∨(y=1∧s1=1):=by
 rcases(show y=0∨y=1∨2≤y by omega) with e|e|e
 ·exact .inl ⟨e,by subst e;exact i.s0.symm.trans hs⟩
 ·exact .inr ⟨e,by subst e;exact i.s1.symm.trans hs⟩
 ·rw[i.so y e hy] at hs;cases hs
theorem Tt.pg (i:Tt B s0 s1 r b l d nw M):iz M 0=true:=by unfold iz;rw[i.pr];rfl
theorem Tt.no (i:Tt B s0 s1 r b l d nw M) (sv:Int) (hs:sv=0∨sv= -1):js M 0 sv=false:=by
 unfold js
 rw[i.pg,i.sv]
 rcases hs with e|e<;>rw[e]<;>rfl
theorem Tt.CU (i:Tt B 0 0 r b 0 0 0 M):cj M 8=some 0∧Tt (B+1) 1 0 r b b 20 0 (dH 1 8 8 M 0 0 1 0)∧fx (dH 1 8 8 M 0 0 1 0) 0 0:=by
 have hf:cj M 8=some 0:=nY (by decide) (fun y hy=>absurd hy (by omega)) i.s0
 have hq:=i.tq.start (q:=8) (by decide) hf 0 1 0 i.pg
 obtain⟨R,eR⟩: ∃R,R=dH 1 8 8 M 0 0 1 0:=⟨_,rfl⟩
 obtain⟨⟨kS,kpc,kL,kpr,kqu,kag,knw,kwh⟩,ksv,kth,kx⟩:=km (q:=8) i.tq.iv (by decide) hf 0 1 0 eR
 rw[←eR] at hq⊢
 refine⟨hf,⟨hq,by rw[kS,Gt.aj],?_,fun x h2 h8=> ?_,by rw[kpc];exact i.r,by rw[kpc];exact i.m,by rw[kpc];exact i.s,kqu.trans i.qu,kag.trans i.ag,kL.trans i.L,kpr.trans i.pr,?_,kwh.trans i.wh,knw.trans i.nw,by decide,fun _=> ?_,fun q=>absurd rfl q⟩,?_⟩
 ·rw[kS,Gt.af _ _ _ _ (by decide)];exact i.s1
 ·rw[kS,Gt.af _ _ _ _ (by omega)];exact i.so x h2 h8
 ·rw[ksv,i.sv,i.nw]
  rfl
 ·rw[kx];exact⟨rfl,rfl,Nat.zero_le _⟩
 ·unfold fx;rw[kx];exact⟨rfl,rfl,rfl⟩
theorem Tt.px (i:Tt B 1 0 r b l d nw M):cj M 8=some 1∧Tt (B+1) 1 1 r b l d nw (dH 1 8 8 M 1 0 9 (-1))∧ ∀u v,fx M u v→fx (dH 1 8 8 M 1 0 9 (-1)) u v:=by
 have hf:cj M 8=some 1:=nY (by decide) (fun y hy=>by rw[show y=0 by omega,i.s0];decide) i.s1
 have hq:=i.tq.start (q:=8) (by decide) hf 0 9 (-1) i.pg
 obtain⟨R,eR⟩: ∃R,R=dH 1 8 8 M 1 0 9 (-1):=⟨_,rfl⟩
 obtain⟨⟨kS,kpc,kL,kpr,kqu,kag,knw,kwh⟩,ksv,kth,kx⟩:=km (q:=8) i.tq.iv (by decide) hf 0 9 (-1) eR
 rw[←eR] at hq⊢
 have k0:=kth 0 (by decide)
 refine⟨hf,⟨hq,?_,by rw[kS,Gt.aj],fun x h2 h8=> ?_,by rw[kpc];exact i.r,by rw[kpc];exact i.m,by rw[kpc];exact i.s,kqu.trans i.qu,kag.trans i.ag,kL.trans i.L,kpr.trans i.pr,?_,kwh.trans i.wh,knw.trans i.nw,i.hn,fun _=> ?_,fun _=> ?_⟩,fun u v q=> ?_⟩
 ·rw[kS,Gt.af _ _ _ _ (by decide)];exact i.s0
 ·rw[kS,Gt.af _ _ _ _ (by omega)];exact i.so x h2 h8
 ·rw[ksv,i.sv]
  rfl
 ·rw[k0];exact i.t0 (by decide)
 ·rw[kx];exact⟨rfl,rfl,Nat.zero_le _⟩
 ·unfold fx;rw[k0];exact q
theorem Tt.BG (i:Tt B 1 s1 (-1) b l d nw M) {w:World} {O:Nat→Prop} {pb T:Nat} (hpq:PQ w O pb 8 1 8 T M.pl) (hup:s1=1→0<l):
  ((bb 1 (gh M.pl) ((0:Nat):Int) 0).isSome=true∧bI (gh M.pl) (bb 1 (gh M.pl) ((0:Nat):Int) 0)=((0:Nat):Int))∧Tt B 2 s1 0 b l d nw (settle (bB 1 8 M 0 0 0) 8)∧ ∀u v,fx M u v→fx (settle (bB 1 8 M 0 0 0) 8) u v:=by
 obtain⟨hb,hbi,_⟩:=i.tq.mS hpq (p:=0) (by decide) 0 (x:=0) (by decide) i.s0 (fun y hy hs hne=>by
  rcases i.at hy hs with ⟨q,_⟩|⟨q,q1⟩
  ·exact absurd q hne
  ·rw[q,i.xd (by decide),i.AX (by omega),if_pos (hup q1)];rfl)
 have t:=i.tq.iv.th 0 (by decide) (by rw[i.s0];decide)
 obtain⟨k,kS,kp,kL,k1,k2,k3⟩:=mV (n:=8) (pr:=0) t (by decide) i.s0 0
 have eth:(settle (bB 1 8 M 0 0 0) 8).th 0={M.th 0 with pc:=((0:Nat):Int),lf:=(bH M (M.th 0)).toNat}:=Gt.aj M.th 0 _
 obtain⟨e1,e2,e3⟩:=i.t0 (by decide)
 refine⟨⟨hb,hbi⟩,⟨i.tq.Bc hpq (by decide) i.r hb hbi,kS,(k.S 1 (by decide)).trans i.s1,fun x h2 h8=>(k.S x (by omega)).trans (i.so x h2 h8),by rw[kp];rfl,by rw[kp],by rw[kp];exact Nat.zero_le _,i.qu,i.ag,kL.trans i.L,k.pr.trans i.pr,i.sv,i.wh,i.nw,i.hn,fun _=> ?_,fun q=> ?_⟩,fun u v ⟨f1,f2,f3⟩=>⟨k1.trans f1,k2.trans f2,k3.trans f3⟩⟩
 ·rw[eth]
  refine⟨e1,e2,?_⟩
  show(bH M (M.th 0)).toNat≤1
  rw[jt i.ag (by rw[i.nw];exact i.hn) (by omega),e1]
  decide
 ·rw[k.th 1 (by decide)];exact i.t1 q
theorem Tt.Dt (i:Tt B 1 1 (-1) b 0 d nw M) {w:World} {O:Nat→Prop} {pb T:Nat} (hpq:PQ w O pb 8 1 8 T M.pl):
  ((bb 1 (gh M.pl) ((0:Nat):Int) 0).isSome=true∧bI (gh M.pl) (bb 1 (gh M.pl) ((0:Nat):Int) 0)=((1:Nat):Int))∧Tt B 1 2 1 b 0 d nw (settle (bB 1 8 M 0 1 0) 8):=by
 obtain⟨hb,hbi,_⟩:=i.tq.mS hpq (p:=0) (by decide) 0 (x:=1) (by decide) i.s1 (fun y hy hs hne=>by
  rcases i.at hy hs with ⟨q,_⟩|⟨q,_⟩
  ·rw[q,i.xd (by decide),i.AX (by decide),if_neg (by decide)];rfl
  ·exact absurd q hne)
 have t:=i.tq.iv.th 1 (by decide) (by rw[i.s1];decide)
 obtain⟨k,kS,kp,kL,k1,k2,k3⟩:=mV (n:=8) (pr:=0) t (by decide) i.s1 0
 have eth:(settle (bB 1 8 M 0 1 0) 8).th 1={M.th 1 with pc:=((0:Nat):Int),lf:=(bH M (M.th 1)).toNat}:=Gt.aj M.th 1 _
 obtain⟨e1,e2,e3⟩:=i.t1 (by decide)
 refine⟨⟨hb,hbi⟩,⟨i.tq.Bc hpq (by decide) i.r hb hbi,(k.S 0 (by decide)).trans i.s0,kS,fun x h2 h8=>(k.S x (by omega)).trans (i.so x h2 h8),by rw[kp];rfl,by rw[kp],by rw[kp];exact Nat.zero_le _,i.qu,i.ag,kL.trans i.L,k.pr.trans i.pr,i.sv,i.wh,i.nw,i.hn,fun q=> ?_,fun _=> ?_⟩⟩
 ·rw[k.th 0 (by decide)];exact i.t0 q
 ·rw[eth]
  refine⟨e1,e2,?_⟩
  show(bH M (M.th 1)).toNat≤9
  rw[jt i.ag (by rw[i.nw];exact i.hn) (by omega),e1]
  decide
theorem Tt.DL (i:Tt B 2 s1 0 b l d nw M):Tt B 1 s1 (-1) b l d nw (dj 1 8 8 M 0 0):=by
 obtain⟨hx,hx2⟩:=i.tq.iv.run (pr:=0) (x:=0) (by decide) i.r
 have t0:=i.tq.iv.th 0 hx (by omega)
 have k:=eD (q:=8) hx (show 0<1 by decide) i.tq.iv.pl i.tq.iv.kr (.inr (.inl hx2)) t0.p t0.g (i.tq.iv.AO (by omega))
 have ep:(dj 1 8 8 M 0 0).pc 0={M.pc 0 with r:= -1}:=by
  show Gt.aw (ready 1 8 8 M 0 ((0:Nat):Int)).pc 0 {(ready 1 8 8 M 0 ((0:Nat):Int)).pc 0 with r:= -1} 0=_
  rw[Gt.aj,qJ]
 refine⟨i.tq.back (by decide) i.r,?_,?_,fun x h2 h8=> ?_,by rw[ep],by rw[ep];exact i.m,by rw[ep];exact i.s,k.qu.trans i.qu,k.ag.trans i.ag,k.L.trans i.L,k.pr.trans i.pr,?_,k.wh.trans i.wh,k.nw.trans i.nw,i.hn,fun _=> ?_,fun q=> ?_⟩
 ·show(ready 1 8 8 M 0 ((0:Nat):Int)).S 0=1
  rw[k.S,Gt.aj]
 ·show(ready 1 8 8 M 0 ((0:Nat):Int)).S 1=s1
  rw[k.S,Gt.af _ _ _ _ (by decide)];exact i.s1
 ·show(ready 1 8 8 M 0 ((0:Nat):Int)).S x=0
  rw[k.S,Gt.af _ _ _ _ (by omega)];exact i.so x h2 h8
 ·show(ready 1 8 8 M 0 ((0:Nat):Int)).sv=_
  rw[k.sv,if_pos hx2];exact i.sv
 ·obtain⟨e1,e2,e3⟩:=i.t0 (by decide)
  show((ready 1 8 8 M 0 ((0:Nat):Int)).th 0).lv=1∧((ready 1 8 8 M 0 ((0:Nat):Int)).th 0).sv=0∧((ready 1 8 8 M 0 ((0:Nat):Int)).th 0).lf≤1
  rw[k.th,Gt.aj]
  exact⟨e1,e2,Nat.zero_le _⟩
 ·show((ready 1 8 8 M 0 ((0:Nat):Int)).th 1).lv=9∧((ready 1 8 8 M 0 ((0:Nat):Int)).th 1).sv= -1∧((ready 1 8 8 M 0 ((0:Nat):Int)).th 1).lf≤9
  rw[k.th,Gt.af _ _ _ _ (by decide)]
  exact i.t1 q
theorem Tt.DO (i:Tt B s0 2 1 b l d nw M):Tt B s0 1 (-1) b l d nw (dj 1 8 8 M 0 1):=by
 obtain⟨hx,hx2⟩:=i.tq.iv.run (pr:=0) (x:=1) (by decide) i.r
 have t0:=i.tq.iv.th 1 hx (by omega)
 have k:=eD (q:=8) hx (show 0<1 by decide) i.tq.iv.pl i.tq.iv.kr (.inr (.inl hx2)) t0.p t0.g (i.tq.iv.AO (by omega))
 have ep:(dj 1 8 8 M 0 1).pc 0={M.pc 0 with r:= -1}:=by
  show Gt.aw (ready 1 8 8 M 1 ((0:Nat):Int)).pc 0 {(ready 1 8 8 M 1 ((0:Nat):Int)).pc 0 with r:= -1} 0=_
  rw[Gt.aj,qJ]
 refine⟨i.tq.back (by decide) i.r,?_,?_,fun x h2 h8=> ?_,by rw[ep],by rw[ep];exact i.m,by rw[ep];exact i.s,k.qu.trans i.qu,k.ag.trans i.ag,k.L.trans i.L,k.pr.trans i.pr,?_,k.wh.trans i.wh,k.nw.trans i.nw,i.hn,fun q=> ?_,fun _=> ?_⟩
 ·show(ready 1 8 8 M 1 ((0:Nat):Int)).S 0=s0
  rw[k.S,Gt.af _ _ _ _ (by decide)];exact i.s0
 ·show(ready 1 8 8 M 1 ((0:Nat):Int)).S 1=1
  rw[k.S,Gt.aj]
 ·show(ready 1 8 8 M 1 ((0:Nat):Int)).S x=0
  rw[k.S,Gt.af _ _ _ _ (by omega)];exact i.so x h2 h8
 ·show(ready 1 8 8 M 1 ((0:Nat):Int)).sv=_
  rw[k.sv,if_pos hx2];exact i.sv
 ·show((ready 1 8 8 M 1 ((0:Nat):Int)).th 0).lv=1∧((ready 1 8 8 M 1 ((0:Nat):Int)).th 0).sv=0∧((ready 1 8 8 M 1 ((0:Nat):Int)).th 0).lf≤1
  rw[k.th,Gt.af _ _ _ _ (by decide)]
  exact i.t0 q
 ·obtain⟨e1,e2,e3⟩:=i.t1 (by decide)
  show((ready 1 8 8 M 1 ((0:Nat):Int)).th 1).lv=9∧((ready 1 8 8 M 1 ((0:Nat):Int)).th 1).sv= -1∧((ready 1 8 8 M 1 ((0:Nat):Int)).th 1).lf≤9
  rw[k.th,Gt.aj]
  exact⟨e1,e2,Nat.zero_le _⟩
theorem Tt.frame (i:Tt B 2 s1 r b l d nw M) (u v:Int):Tt B 2 s1 r b l d nw (settle (j9 M 0 u v) 8):=by
 have kd:=dm (j9 M 0 u v) 8
 have e0:(j9 M 0 u v).th 0={M.th 0 with ia:=u,il:=v}:=Gt.aj M.th 0 _
 have e1:(j9 M 0 u v).th 1=M.th 1:=Gt.af M.th 0 {M.th 0 with ia:=u,il:=v} 1 (by decide)
 refine⟨i.tq.same (i.tq.iv.BI 0 _ rfl rfl rfl rfl) rfl,i.s0,i.s1,i.so,i.r,i.m,i.s,i.qu,i.ag,kd.L.trans i.L,i.pr,i.sv,i.wh,i.nw,i.hn,fun q=> ?_,fun q=> ?_⟩
 ·rw[kd.th,e0];exact i.t0 q
 ·rw[kd.th,e1];exact i.t1 q
theorem Tt.stay (i:Tt B s0 s1 r b l d nw M):Tt B s0 s1 r b l d nw (settle M 8):=by
 have kd:=dm M 8
 exact⟨i.tq.same i.tq.iv rfl,i.s0,i.s1,i.so,i.r,i.m,i.s,i.qu,i.ag,kd.L.trans i.L,i.pr,i.sv,i.wh,i.nw,i.hn,i.t0,i.t1⟩
theorem nr (hw:M.wh=[]):fa 1 8 8 M=settle (lp (mE (aV M) 0)) 8:=by
 unfold fa qU eh
 rw[hw]
 rfl
theorem xN {x:Nat} (hr:(M.pc 0).r=(x:Int)):mE (aV M) 0={iK (j9 (aV M) x (M.th x).ia (cD (M.th x).il)) 0 with sv:=Cb.cK M.sv (M.th x).sv}:=by
 unfold mE
 have h1:((aV M).pc 0).r=(x:Int):=hr
 rw[if_neg (by rw[h1];omega),h1,Int.toNat_natCast]
 rfl
theorem Tt.DD (i:Tt B s0 s1 r b l d nw M):Tq 1 8 B (fa 1 8 8 M):=by
 have hD:eh M=[]:=by unfold eh;rw[i.wh];rfl
 have h1:=i.tq.iv.aV
 rw[hD] at h1
 have h2:=(h1.mE (p:=0) (by decide)).Bf ((mE (aV M) 0).sv.map (Cb.fZ (mE (aV M) 0).nw))
 rw[nr i.wh]
 refine Tq.of h2 ?_
 show Uq (mE (aV M) 0).pl
 have:(mE (aV M) 0).pl=M.pl:=by unfold mE;split<;>rfl
 rw[this]
 exact i.tq.uq
theorem Tt.tick {x:Nat} (i:Tt B s0 s1 (x:Int) b l d nw M) (hn:nw<20) (l' d':Nat) (hsv:(Cb.cK [⟨b,20,l,d⟩] (M.th x).sv).map (Cb.fZ (nw+1))=[⟨b,20,l',d'⟩]):Tt B s0 s1 (x:Int) b l' d' (nw+1) (fa 1 8 8 M)∧ ∀y,(fa 1 8 8 M).th y=if y=x then{M.th x with il:=cD (M.th x).il} else M.th y:=by
 have hq:=i.DD
 have eW:=xN i.r
 have eT:fa 1 8 8 M=settle (lp (mE (aV M) 0)) 8:=nr i.wh
 have enw:(aV M).nw=nw+1:=by
  show max (Cb.dO M.nw 1) M.nw=nw+1
  rw[i.nw]
  unfold Cb.dO
  rw[if_pos (by omega)]
  omega
 rw[eW] at eT
 obtain⟨N,eN⟩: ∃N,N=lp {iK (j9 (aV M) x (M.th x).ia (cD (M.th x).il)) 0 with sv:=Cb.cK M.sv (M.th x).sv}:=⟨_,rfl⟩
 rw[←eN] at eT
 have kd:=dm N 8
 have n1:N.S=M.S:=by rw[eN];rfl
 have n2:N.pc=Gt.aw M.pc 0 (countP (M.pc 0) M.qu):=by rw[eN];rfl
 have n3:N.th=Gt.aw M.th x {M.th x with ia:=(M.th x).ia,il:=cD (M.th x).il}:=by rw[eN];rfl
 have n4:N.gr=M.gr:=by rw[eN];rfl
 have n5:N.nw=nw+1:=by rw[eN];exact enw
 have n6:N.sv=(Cb.cK M.sv (M.th x).sv).map (Cb.fZ (aV M).nw):=by rw[eN];rfl
 have n7:N.wh=[]:=by
  rw[eN]
  show Wh.late _ M.wh=[]
  rw[i.wh];rfl
 have ec:countP (M.pc 0) M.qu={M.pc 0 with s:=(M.pc 0).s+1}:=by
  unfold countP
  have:=i.s
  rw[i.qu,if_neg (by omega)]
 have n8:N.pc 0={M.pc 0 with s:=(M.pc 0).s+1}:=by rw[n2,Gt.aj,ec]
 have hth: ∀y,N.th y=if y=x then{M.th x with il:=cD (M.th x).il} else M.th y:=fun y=>by
  rw[n3]
  by_cases e:y=x
  ·rw[if_pos e,e,Gt.aj]
  ·rw[if_neg e,Gt.af _ _ _ _ e]
 have hk: ∀y,(N.th y).lv=(M.th y).lv∧(N.th y).sv=(M.th y).sv∧(N.th y).lf=(M.th y).lf:=fun y=>by
  rw[hth]
  by_cases e:y=x
  ·rw[if_pos e,e];exact⟨rfl,rfl,rfl⟩
  ·rw[if_neg e];exact⟨rfl,rfl,rfl⟩
 rw[eT] at hq⊢
 refine⟨⟨hq,by rw[kd.S,n1];exact i.s0,by rw[kd.S,n1];exact i.s1,by rw[kd.S,n1];exact i.so,by rw[kd.pc,n8];exact i.r,by rw[kd.pc,n8];exact i.m,?_,?_,?_,?_,?_,?_,kd.wh.trans n7,kd.nw.trans n5,by omega,fun q=> ?_,fun q=> ?_⟩,fun y=>by rw[kd.th];exact hth y⟩
 ·rw[kd.pc,n8]
  have:=i.s
  show(M.pc 0).s+1≤nw+1
  omega
 ·rw[kd.qu,eN];exact i.qu
 ·rw[kd.ag,eN];exact i.ag
 ·rw[kd.L,n4];exact i.L
 ·rw[kd.pr,eN];exact i.pr
 ·rw[kd.sv,n6,i.sv,enw];exact hsv
 ·obtain⟨q1,q2,q3⟩:=hk 0
  rw[kd.th,q1,q2,q3];exact i.t0 q
 ·obtain⟨q1,q2,q3⟩:=hk 1
  rw[kd.th,q1,q2,q3];exact i.t1 q
theorem Tt.vS (i:Tt B 2 s1 0 b (l+1) 20 nw M) (hn:nw<19):Tt B 2 s1 0 b l 20 (nw+1) (fa 1 8 8 M)∧ ∀u v,fx M u v→fx (fa 1 8 8 M) u (cD v):=by
 obtain⟨e1,e2,e3⟩:=i.t0 (by decide)
 obtain⟨h1,h2⟩:=Tt.tick (x:=0) i (by omega) l 20 (by
  have c:Cb.cK [⟨b,20,l+1,20⟩] 0=[⟨b,20,l,20⟩]:=by
   unfold Cb.cK
   rw[if_pos ⟨rfl,by show 1≤l+1;omega⟩]
   rfl
  have r:Cb.fZ (nw+1) ⟨b,20,l,20⟩=⟨b,20,l,20⟩:=by
   unfold Cb.fZ
   rw[if_neg]
   unfold Cb.gC
   simp
   omega
  rw[e2,c]
  show [_]=[_]
  rw[r])
 refine⟨h1,fun u v ⟨f1,f2,f3⟩=> ?_⟩
 unfold fx
 rw[h2,if_pos rfl]
 exact⟨f1,f2,by show cD (M.th 0).il=_;rw[f3]⟩
theorem Tt.xR (i:Tt B s0 2 1 b 0 20 nw M) (hn:nw<19):Tt B s0 2 1 b 0 20 (nw+1) (fa 1 8 8 M):=by
 obtain⟨e1,e2,e3⟩:=i.t1 (by decide)
 exact(Tt.tick (x:=1) i (by omega) 0 20 (by
  have r:Cb.fZ (nw+1) ⟨b,20,0,20⟩=⟨b,20,0,20⟩:=by
   unfold Cb.fZ
   rw[if_neg]
   unfold Cb.gC
   simp
   omega
  rw[e2]
  show [_]=[_]
  rw[r])).1
theorem Tt.DP (i:Tt B s0 2 1 b 0 20 19 M):Tt B s0 2 1 b b 40 20 (fa 1 8 8 M):=by
 obtain⟨e1,e2,e3⟩:=i.t1 (by decide)
 exact(Tt.tick (x:=1) i (by omega) b 40 (by
  rw[e2]
  rfl)).1
end
end Go.Proofs.YtjlbmmiomfpgiaaGreatDoor
namespace Go.Proofs.YtjlbmmiomfpgiaaGreatDoor
open Go.RowKit Go.Lib Go.Shelf
theorem ax.yC {W:World} {labk:Nat→Nat} {a:Ad} {P n q T:Nat} {M:Mc} (h:ax W labk a P n q T M) (tm:Nat) (ht:tm<18446744073709551616) (hq:max tm M.nw/64=M.nw/64):
  Calls Tryz.prog 42 #[.pointer (some ⟨a.wb,0,none⟩),.int .u64 (tm:Int)] W fun e w'=> ∃v,e= .returned v∧w'.ownsRow W.heap.size 3 1 v (Wh.due (max tm M.nw) M.wh).length (Wh.iv (Wh.ai (Wh.due (max tm M.nw) M.wh)))∧eX W w' labk a P n q T {M with nw:=max tm M.nw,wh:=Wh.late (max tm M.nw) M.wh} v:=by
 refine(Wh.ou h.wh tm ht hq).mono ?_
 rintro e w' ⟨⟨v,rfl,hv⟩,hw,hf⟩
 have h9:Fr (fun k=>labk k=9) W w':=(E5 hf).to (fun k _ hk=>h.lw k hk)
 exact⟨v,rfl,hv,labk,h.EV (h.same h9) h9 hw,h.same h9,h9.to (fun k _ hk=>by rw[hk];decide),fun k hk=>h.fresh (Pi.ay hv hk).1⟩
section
variable {w wr w':World} {ad:Ad} {T B:Nat} {M M1:Mc} {s0 s1:Nat} {r:Int} {b l d nw:Nat} {K:Nat→Prop}
def AK (w wr w':World) (ad:Ad) (T:Nat) (M:Mc) (K:Nat→Prop):Prop:=fw w w' ad 1 8 8 T M K∧ ∀k,K k→w'.heap[k]? =wr.heap[k]?
theorem fw.qi (h:fw w wr ad 1 8 8 T M K) {T':Nat} {M':Mc} {f:Nat} {args:Array Value} {R:Ending→World→Prop} (hc: ∀lab,ax wr lab ad 1 8 8 T M→Calls Tryz.prog f args wr fun e w'=>R e w'∧az wr w' lab ad 1 8 8 T' M'):Calls Tryz.prog f args wr fun e w'=>R e w'∧AK w wr w' ad T' M' K:=by
 obtain⟨⟨lab,hi,h1,h2⟩,hb⟩:=h
 refine(hc lab hi).mono ?_
 rintro e w' ⟨hr,lab',hi',hl,hf⟩
 refine⟨hr,⟨⟨lab',hi',fun k hk=> ?_,fun k hk=>⟨(hl.old k (h2 k hk).2).trans (h2 k hk).1,Nat.lt_of_lt_of_le (h2 k hk).2 hf.size⟩⟩,hb.trans ⟨hf.os,hf.tape,hf.output,hf.size,fun k hk=>hf.block k (Nat.lt_of_lt_of_le hk hb.size) (fun q=>by have:=h1 k q;omega)⟩⟩,fun k hk=>hf.block k (h2 k hk).2 (fun q=>q (h2 k hk).1)⟩
 rcases Nat.lt_or_ge k wr.heap.size with q|q
 ·exact h1 k (by rw[←hl.old k q];exact hk)
 ·exact Nat.le_trans hb.size q
theorem fw.is (h:fw w wr ad 1 8 8 T M K): ∃lab,ax wr lab ad 1 8 8 T M:=by
 obtain⟨⟨lab,hi,_⟩,_⟩:=h
 exact⟨lab,hi⟩
theorem Al.E6 (h:Al w wr ad 1 8 8 T M):fw w wr ad 1 8 8 T M (fun _=>False):=by
 obtain⟨⟨lab,hi,hl⟩,hb⟩:=h
 exact⟨⟨lab,hi,hl,fun _ q=>q.elim⟩,hb⟩
theorem fw.Bz (h:fw w wr ad 1 8 8 T M K) (hI:Iv 1 8 B [] M) (hn:M.nw<60) (hT:T≤999999000):
  Calls Tryz.prog 16 #[.pointer (some ⟨ad.m,0,none⟩)] wr fun e w'=>(∃v,e= .returned v)∧AK w wr w' ad (T+80) (fa 1 8 8 M) K:=by
 have ha:Cb.dO M.nw 1=M.nw+1:=by unfold Cb.dO;rw[if_pos (by omega)]
 exact h.qi (R:=fun e _=> ∃v,e= .returned v) (fun lab hi=>(hi.zO (by decide) (fun V labk i=>i.yC (Cb.dO M.nw 1) (by rw[ha];omega) (by rw[ha];omega)) hI.Fm (by omega)).mono (fun e w' ⟨v,he,_,hg⟩=>⟨⟨v,he⟩,hg.goes⟩))
theorem fw.Cv (h:fw w wr ad 1 8 8 T M K) (b p:Nat):
  Calls Tryz.prog 12 #[.pointer (some ⟨ad.m,0,none⟩),.int .u64 (b:Int),.int .u64 (p:Int)] wr fun e w'=>e= .returned (.tuple #[.int .i64 (Cb.mM 1 M.sv b p:Int),.int .i64 (Cb.kD 1 M.sv b p:Int)])∧AK w wr w' ad T {M with sv:=Cb.qP 1 M.sv b p} K:=
 h.qi (R:=fun e _=>e= .returned (.tuple #[.int .i64 (Cb.mM 1 M.sv b p:Int),.int .i64 (Cb.kD 1 M.sv b p:Int)])) (fun lab hi=>hi.admit b p)
theorem fw.Fb (h:fw w wr ad 1 8 8 T M K) {x:Nat} (hx:x<8) (hr:(M.pc 0).r=(x:Int)) (hg:(bb 1 (gh M.pl) ((0:Nat):Int) 0).isSome=true∧gives 1 M 0 0=false) (ok:Bool) (l:List Ev) (hT:T≤100000)
  (hgo: ∀lab W1 O V,SX wr W1 V lab ad 1 8 8 T M wr.heap.size 0 [] O→Calls Tryz.prog 76 #[.pointer (some ⟨wr.heap.size,0,none⟩)] V fun e w'=>e=qw ok∧SX wr W1 w' lab ad 1 8 8 T M1 wr.heap.size 0 l O):
  Calls Tryz.prog 13 #[.pointer (some ⟨ad.m,0,none⟩),.int .i64 0,.int .u64 0] wr fun e w'=>(∃v,e= .returned (.tuple #[v,.int .i64 0])∧iN w' wr.heap.size v l)∧AK w wr w' ad (T+8) (settle M1 8) K:=by
 have hk:0<1:=by decide
 have hd:(0:Int)≤0∧(0:Int)<18446744073709551616:=by decide
 refine h.qi (R:=fun e w'=> ∃v,e= .returned (.tuple #[v,.int .i64 0])∧iN w' wr.heap.size v l) (fun lab hi=> ?_)
 refine(hi.lU (pr:=0) (T':=T) (M':=M1) (l:=l) hk 0 (by omega) (fun W1 O hs=> ?_)).mono (fun e w' ⟨v,he,hev,g⟩=>⟨⟨v,he,hev⟩,g.goes⟩)
 have hgw:=hs.sx.pd hk 0 hd x hx hr hg.1 hg.2
 cases ok with
 |true=>exact zS (P1:=fun V=>SX wr W1 V lab ad 1 8 8 T M wr.heap.size 0 [] O) (P2:=fun V=>SX wr W1 V lab ad 1 8 8 T M wr.heap.size 0 [] O) hgw (fun V hV=>hV.jo hk 0 (by rw[hr];omega)) (fun V hV=>hgo lab W1 O V hV)
 |false=>exact wW (P1:=fun V=>SX wr W1 V lab ad 1 8 8 T M wr.heap.size 0 [] O) (P2:=fun V=>SX wr W1 V lab ad 1 8 8 T M wr.heap.size 0 [] O) hgw (fun V hV=>hV.jo hk 0 (by rw[hr];omega)) (fun V hV=>hgo lab W1 O V hV)
theorem fw.DW (h:fw w wr ad 1 8 8 T M K) {x y:Nat} (hx:x<8) (hy:y<8) (hr:(M.pc 0).r=(x:Int)) (hg:(bb 1 (gh M.pl) ((0:Nat):Int) 0).isSome=true∧gives 1 M 0 0=true) (hT:T≤100000) {Q:Mc→Prop}
  (hd2: ∀(w:World) O T,PQ w O ad.pb 8 1 8 T (dj 1 8 8 M 0 x).pl→((bb 1 (gh (dj 1 8 8 M 0 x).pl) ((0:Nat):Int) 0).isSome=true∧bI (gh (dj 1 8 8 M 0 x).pl) (bb 1 (gh (dj 1 8 8 M 0 x).pl) ((0:Nat):Int) 0)=(y:Int))∧Q (settle (bB 1 8 (dj 1 8 8 M 0 x) 0 y 0) 8)):
  Calls Tryz.prog 13 #[.pointer (some ⟨ad.m,0,none⟩),.int .i64 0,.int .u64 0] wr fun e w'=>(∃v,e= .returned (.tuple #[v,.int .i64 0]))∧ ∃M',AK w wr w' ad (T+18) M' K∧Q M':=by
 have hk:0<1:=by decide
 have hd:(0:Int)≤0∧(0:Int)<18446744073709551616:=by decide
 obtain⟨lab0,hi0⟩:=h.is
 obtain⟨O0,hS0⟩:=SG.start hi0 0
 obtain⟨e0,w0,_,hx0⟩:=pM (hS0.sx.lW (by simp) (by omega) hk 0 hd x hx hr hg.1 hg.2)
 obtain⟨lk,ii⟩:=hx0.i
 obtain⟨O',hpq2,_⟩:=ii.pl
 obtain⟨⟨hb2,hbi2⟩,hQ⟩:=hd2 _ _ _ hpq2
 have hr2:((dj 1 8 8 M 0 x).pc 0).r= -1:=Cw 1 8 8 M 0 x
 refine(h.qi (R:=fun e w'=> ∃v,e= .returned (.tuple #[v,.int .i64 0])) (T':=T+18) (M':=settle (bB 1 8 (dj 1 8 8 M 0 x) 0 y 0) 8) (fun lab hi=>(hi.lU (pr:=0) (T':=T+8+1+1) hk 0 (by omega) (fun W1 O hs=>nU (hs.sx.lW (by simp) (by omega) hk 0 hd x hx hr hg.1 hg.2) (fun V hV=>hV.ik (by simp) hk 0 hd hr2 hb2 y hy hbi2))).mono (fun e w' ⟨v,he,hev,g⟩=>⟨⟨v,he⟩,g.goes⟩))).mono ?_
 rintro e w' ⟨hv,hA⟩
 exact⟨hv,_,hA,hQ⟩
theorem Tt.BM (i:Tt B 2 1 0 b l d nw M) {w:World} {O:Nat→Prop} {pb T:Nat} (hpq:PQ w O pb 8 1 8 T M.pl):(bb 1 (gh M.pl) ((0:Nat):Int) 0).isSome=true∧bK (gh M.pl) (bb 1 (gh M.pl) ((0:Nat):Int) 0)=Ke.aW ((9:Nat):Int):=by
 obtain⟨hb,_,hbk⟩:=i.tq.mS hpq (p:=0) (by decide) 0 (x:=1) (by decide) i.s1 (fun y hy hs hne=>by
  rcases i.at hy hs with ⟨_,q⟩|⟨q,_⟩
  ·cases q
  ·exact absurd q hne)
 exact⟨hb,hbk.trans (i.AX (by decide))⟩
theorem Tt.stays (i:Tt B 2 1 0 b (l+1) d nw M) {w:World} {O:Nat→Prop} {pb T:Nat} (hpq:PQ w O pb 8 1 8 T M.pl):(bb 1 (gh M.pl) ((0:Nat):Int) 0).isSome=true∧gives 1 M 0 0=false:=by
 obtain⟨hb,hbk⟩:=i.BM hpq
 refine⟨hb,?_⟩
 have k0:Pi.bu M.gr.T M.gr.L 0=_:=i.xd (by decide)
 unfold gives
 rw[hbk,i.r,k0,i.m,if_pos (by omega)]
 rfl
theorem Tt.CL (i:Tt B 2 1 0 b 0 d nw M) {w:World} {O:Nat→Prop} {pb T:Nat} (hpq:PQ w O pb 8 1 8 T M.pl):(bb 1 (gh M.pl) ((0:Nat):Int) 0).isSome=true∧gives 1 M 0 0=true:=by
 obtain⟨hb,hbk⟩:=i.BM hpq
 refine⟨hb,?_⟩
 have k0:Pi.bu M.gr.T M.gr.L 0=_:=i.xd (by decide)
 unfold gives
 rw[hbk,i.r,k0,if_neg (by decide)]
 rfl
theorem Tt.C8 (i:Tt B 1 2 1 b (l+1) d nw M) {w:World} {O:Nat→Prop} {pb T:Nat} (hpq:PQ w O pb 8 1 8 T M.pl):(bb 1 (gh M.pl) ((0:Nat):Int) 0).isSome=true∧gives 1 M 0 0=true:=by
 obtain⟨hb,_,hbk⟩:=i.tq.mS hpq (p:=0) (by decide) 0 (x:=0) (by decide) i.s0 (fun y hy hs hne=>by
  rcases i.at hy hs with ⟨q,_⟩|⟨_,q⟩
  ·exact absurd q hne
  ·cases q)
 refine⟨hb,?_⟩
 have k0:=i.xd (by decide)
 have k1:Pi.bu M.gr.T M.gr.L 1=_:=i.AX (by decide)
 unfold gives
 rw[hbk,i.r,k0,k1,if_pos (by omega)]
 rfl
theorem fw.B9 (h:fw w wr ad 1 8 8 T M K) (i:Tt B 1 1 (-1) b (l+1) d nw M) (hT:T≤100000):
  Calls Tryz.prog 13 #[.pointer (some ⟨ad.m,0,none⟩),.int .i64 0,.int .u64 0] wr fun e w'=>(∃v,e= .returned (.tuple #[v,.int .i64 0]))∧ ∃M',AK w wr w' ad (T+9) M' K∧Tt B 2 1 0 b (l+1) d nw M'∧ ∀u v,fx M u v→fx M' u v:=by
 obtain⟨O,hpq⟩:=h.pq
 obtain⟨⟨q1,q2⟩,i2,f2⟩:=i.BG hpq (fun _=>by omega)
 have hk:0<1:=by decide
 have hd:(0:Int)≤0∧(0:Int)<18446744073709551616:=by decide
 refine(h.qi (R:=fun e w'=> ∃v,e= .returned (.tuple #[v,.int .i64 0])) (T':=T+9) (fun lab hi=>(hi.lU (pr:=0) (T':=T+1) hk 0 (by omega) (fun W1 O hs=>nU (P1:=fun V=>SX wr W1 V lab ad 1 8 8 T M wr.heap.size 0 [] O) (hs.sx.qR hk 0 hd (.inl i.r)) (fun V hV=>hV.ik (by simp) hk 0 hd i.r q1 0 (by decide) q2))).mono (fun e w' ⟨v,he,hev,g⟩=>⟨⟨v,he⟩,g.goes⟩))).mono ?_
 rintro e w' ⟨hv,hA⟩
 exact⟨hv,_,hA,i2,f2⟩
theorem fw.yT (h:fw w wr ad 1 8 8 T M K) (i:Tt B 2 1 0 b (l+1) d nw M) (f:fx M 0 0) (hT:T≤100000):
  Calls Tryz.prog 13 #[.pointer (some ⟨ad.m,0,none⟩),.int .i64 0,.int .u64 0] wr fun e w'=>(∃v,e= .returned (.tuple #[v,.int .i64 0]))∧ ∃M',AK w wr w' ad (T+8) M' K∧Tt B 2 1 0 b (l+1) d nw M'∧fx M' 1 1000:=by
 obtain⟨O,hpq⟩:=h.pq
 obtain⟨hpg,hia,hil⟩:=f
 refine(h.Fb (x:=0) (by decide) i.r (i.stays hpq) true [⟨5,((0:Nat):Int),((j9 M 0 1 1000).th 0).p,((j9 M 0 1 1000).th 0).g,1,0⟩] (M1:=j9 M 0 1 1000) hT (fun lab W1 O V hV=>hV.tW (ok:=true) (bz:=false) (by simp) (by decide) 0 (by decide) i.r 0 pT (by rw[i.pr];rfl) (by rw[hpg];rfl) 1 1000 1 1000 (by decide) T (j9 M 0 1 1000) _ (fun ap cap V' hp hrt hbl=>by
   have:=Af (cap:=cap) hp hrt 0 0 (by decide) V' hbl
   rw[hia,hil]
   exact this) (fun q=>by cases q) (fun _ V' O' hs'=>hs'.xG (by simp) 0 (by decide) 1 1000 (by decide) (by decide) (by decide) (by decide) (by decide) (by decide) (by decide)))).mono ?_
 rintro e w' ⟨⟨v,he,_⟩,hA⟩
 refine⟨⟨v,he⟩,_,hA,i.frame 1 1000,?_⟩
 have e0:(settle (j9 M 0 1 1000) 8).th 0={M.th 0 with ia:=1,il:=1000}:=Gt.aj M.th 0 _
 unfold fx
 rw[e0]
 exact⟨hpg,rfl,rfl⟩
theorem fw.busy (h:fw w wr ad 1 8 8 T M K) (i:Tt B 2 1 0 b (l+1) d nw M) {k:Int} (f:fx M 1 k) (hk0:0<k∧k≤1000) (hT:T≤100000):
  Calls Tryz.prog 13 #[.pointer (some ⟨ad.m,0,none⟩),.int .i64 0,.int .u64 0] wr fun e w'=>(∃v ev,e= .returned (.tuple #[v,.int .i64 0])∧iN w' wr.heap.size v [ev]∧ev.k=2)∧ ∃M',AK w wr w' ad (T+8) M' K∧Tt B 2 1 0 b (l+1) d nw M'∧fx M' 1 k:=by
 obtain⟨O,hpq⟩:=h.pq
 obtain⟨hpg,hia,hil⟩:=f
 refine(h.Fb (x:=0) (by decide) i.r (i.stays hpq) false [⟨2,((0:Nat):Int),(M.th 0).p,(M.th 0).g,0,0⟩] (M1:=M) hT (fun lab W1 O V hV=>hV.tW (ok:=false) (bz:=true) (by simp) (by decide) 0 (by decide) i.r 0 pT (by rw[i.pr];rfl) (by rw[hpg];rfl) 0 0 1 k (by omega) T M _ (fun ap cap V' hp hrt hbl=>by
   rw[hia,hil]
   exact vv 1 k hk0.1 V' hbl) (fun _=>⟨rfl,rfl,rfl,rfl⟩) (fun q=>by cases q))).mono ?_
 rintro e w' ⟨⟨v,he,hev⟩,hA⟩
 exact⟨⟨v,_,he,hev,rfl⟩,_,hA,i.stay,hpg,hia,hil⟩
theorem fw.EL (h:fw w wr ad 1 8 8 T M K) (i:Tt B 2 1 0 b 0 d nw M) (hT:T≤100000):
  Calls Tryz.prog 13 #[.pointer (some ⟨ad.m,0,none⟩),.int .i64 0,.int .u64 0] wr fun e w'=>(∃v,e= .returned (.tuple #[v,.int .i64 0]))∧ ∃M',AK w wr w' ad (T+18) M' K∧Tt B 1 2 1 b 0 d nw M':=by
 obtain⟨O,hpq⟩:=h.pq
 exact h.DW (x:=0) (y:=1) (by decide) (by decide) i.r (i.CL hpq) hT (Q:=fun M'=>Tt B 1 2 1 b 0 d nw M') (fun w O T q=>i.DL.Dt q)
theorem fw.EZ (h:fw w wr ad 1 8 8 T M K) (i:Tt B 1 2 1 b (l+1) d nw M) (hT:T≤100000):
  Calls Tryz.prog 13 #[.pointer (some ⟨ad.m,0,none⟩),.int .i64 0,.int .u64 0] wr fun e w'=>(∃v,e= .returned (.tuple #[v,.int .i64 0]))∧ ∃M',AK w wr w' ad (T+18) M' K∧Tt B 2 1 0 b (l+1) d nw M':=by
 obtain⟨O,hpq⟩:=h.pq
 exact h.DW (x:=1) (y:=0) (by decide) (by decide) i.r (i.C8 hpq) hT (Q:=fun M'=>Tt B 2 1 0 b (l+1) d nw M') (fun w O T q=>by
  obtain⟨a,c,_⟩:=i.DO.BG q (fun _=>by omega)
  exact⟨a,c⟩)
theorem fw.al (h:fw w wr ad 1 8 8 T M K):Al w wr ad 1 8 8 T M:=by
 obtain⟨⟨lab,hi,hl,_⟩,hb⟩:=h
 exact⟨⟨lab,hi,hl⟩,hb⟩
theorem fw.Fh (h:fw w wr ad 1 8 8 T M K):wr.cell? ⟨ad.wb,0,none⟩=some (.int .u64 (M.nw:Int)):=by
 obtain⟨lab,hi⟩:=h.is
 obtain⟨ct,F,L,fr,A,B,E,T,s,hr,_⟩:=hi.wh
 exact hr.tn
theorem fw.Dj (h:fw w wr ad 1 8 8 T M K) (i:Iv 1 8 B [] M) {x:Nat} (hr:(M.pc 0).r=(x:Int)):
  Calls Tryz.prog 21 #[.pointer (some ⟨ad.m,0,none⟩),.int .i64 0] wr fun e w'=>(∃g:Int,e= .returned (.tuple #[.agg #[.int .i64 (x:Int),.int .u32 g],.bool true]))∧Below wr.heap.size wr w':=by
 obtain⟨lab,hi⟩:=h.is
 obtain⟨hx,hx2⟩:=i.run (pr:=0) (by decide) hr
 have t:=i.th x hx (by omega)
 refine(hi.wy 0 (by decide) x hx hr).mono ?_
 rintro e w' ⟨rfl,hb⟩
 rw[t.p]
 exact⟨⟨_,rfl⟩,hb⟩
theorem fw.Dn (h:fw w wr ad 1 8 8 T M K) (i:Tt B s0 s1 r b l d nw M):
  Calls Tryz.prog 15 #[.pointer (some ⟨ad.m,0,none⟩),.int .i64 0] wr fun e w'=>e= .returned (.int .u64 (l:Int))∧Below wr.heap.size wr w':=by
 obtain⟨lab,hi⟩:=h.is
 refine(hi.left 0).mono ?_
 rintro e w' ⟨rfl,hb⟩
 rw[i.sv]
 exact⟨rfl,hb⟩
theorem fw.Ez (h:fw w wr ad 1 8 8 T M K):Calls Tryz.prog 22 #[.pointer (some ⟨ad.m,0,none⟩)] wr fun e w'=>e= .returned (.int .u64 (M.nw:Int))∧w'=wr:=by
 obtain⟨lab,hi⟩:=h.is
 exact hi.now
end
attribute [local go_sem ↓] Go.wp_at_zero Go.wp_at_succ
theorem EN:Ex.Rt 2 tO tR:=by
 refine⟨0,.inr (.inr (.inr ⟨by decide,by decide,?_,.inr rfl,rfl,rfl⟩))⟩
 intro i hi
 match i,hi with
 |0,_=>decide
 |1,_=>decide
theorem Dz (w:World):Ex.mJ (w.alloc (.cells #[.int .i64 1,.int .i64 1000,.int .i64 9,.int .i64 0] 64)) (some ⟨w.heap.size,0,none⟩) 2 tO tR:=by
 refine .inr ⟨w.heap.size,0,rfl,by simp,fun j hj=> ?_⟩
 match j,hj with
 |0,_=>exact⟨aU _ _ _ 0 _ rfl,aU _ _ _ 1 _ rfl⟩
 |1,_=>exact⟨aU _ _ _ 2 _ rfl,aU _ _ _ 3 _ rfl⟩
def mT (b:Nat):Mc:={kj 1 pT with sv:=[⟨b,20,0,0⟩]}
theorem CV (b:Nat):Tt 0 0 0 (-1) b 0 0 0 (mT b):=by
 have hI:Iv 1 8 0 [] (mT b):=((Iv.new 1 8 4 50 50 (by decide) (by decide)).load pT).Bf _
 have hno: ∀z,¬fs (mT b).pl z:=fun z hz=>by
  have h2:=((hI.rd z.1).1 ⟨z.2,hz⟩).2
  have h3:(mT b).S z.1=0:=rfl
  rw[h3] at h2
  cases h2
 exact⟨⟨hI,Uq.none hno,fun z hz=>absurd hz (hno z),fun x _ h=>absurd rfl h⟩,rfl,rfl,fun _ _ _=>rfl,rfl,rfl,Nat.le_refl _,rfl,rfl,rfl,rfl,rfl,rfl,rfl,by decide,fun q=>absurd rfl q,fun q=>absurd rfl q⟩
theorem D9: ∀b,b<20→1≤b→Cb.kD 1 [] b 20=0:=by decide
def PK (w V:World) (ad:Ad) (k:Nat) (M:Mc) (K:Nat→Prop):Prop:= ∃T,T≤k∧fw w V ad 1 8 8 T M K
def Lp (b j:Nat) (M:Mc):Prop:=Tt 2 2 1 0 b (b-j) 20 j M∧fx M 1 (1000-(j:Int))
def Lq (b j:Nat) (M:Mc):Prop:=(j<20→Tt 2 1 2 1 b 0 20 j M)∧(j=20→Tt 2 1 2 1 b b 40 20 M)
theorem Lq.nw {b j:Nat} {M:Mc} (h:Lq b j M) (hj:j≤20):M.nw=j:=by
 by_cases e:j<20
 ·exact(h.1 e).nw
 ·have:j=20:=by omega
  rw[(h.2 this).nw,this]
def Aa (b:Nat) (wr:World):Nat:=((wr.cell? ⟨b,0,none⟩).map (fun v=>(RowKit.intOf v).toNat)).getD 0
theorem zr {b j:Nat} {wr:World} (h:wr.cell? ⟨b,0,none⟩=some (.int .u64 (j:Int))):Aa b wr=j:=by
 unfold Aa
 rw[h]
 rfl
section
variable {w V:World} {ad:Ad} {k j b:Nat} {M:Mc} {K:Nat→Prop}
theorem PK.busy (h:PK w V ad k M K) (hl:Lp b j M) (hj:j<b) (hb:b≤19) (hk:k≤90000):
  Calls Tryz.prog 13 #[.pointer (some ⟨ad.m,0,none⟩),.int .i64 0,.int .u64 0] V fun e w'=> ∃r c,e= .returned (.tuple #[.slice (some ⟨r,0,none⟩) 1 c,.int .i64 0])∧w'.cell? ⟨r,0,none⟩=some (.int .i64 2)∧ ∃M',PK w w' ad (k+8) M' K∧Lp b j M':=by
 obtain⟨T,hT,hA⟩:=h
 obtain⟨i,f⟩:=hl
 obtain⟨l,el⟩: ∃l,b-j=l+1:=⟨b-j-1,by omega⟩
 rw[el] at i
 refine(hA.busy i f (by omega) (by omega)).mono ?_
 rintro e w' ⟨⟨v,ev,rfl,hev,hk2⟩,M',⟨hA',_⟩,i',f'⟩
 obtain⟨r,c,rfl,c0,_⟩:=hev.EW
 rw[hk2] at c0
 exact⟨r,c,rfl,c0,M',⟨T+8,by omega,hA'⟩,by rw[el];exact i',f'⟩
theorem PK.vS (h:PK w V ad k M K) (hl:Lp b j M) (hj:j<b) (hb:b≤19) (hk:k≤90000):
  Calls Tryz.prog 16 #[.pointer (some ⟨ad.m,0,none⟩)] V fun e w'=> ∃(v:Value) (M':Mc),e= .returned v∧PK w w' ad (k+80) M' K∧Lp b (j+1) M':=by
 obtain⟨T,hT,hA⟩:=h
 obtain⟨i,f⟩:=hl
 obtain⟨l,el⟩: ∃l,b-j=l+1:=⟨b-j-1,by omega⟩
 have el2:b-(j+1)=l:=by omega
 rw[el] at i
 obtain⟨i',f'⟩:=i.vS (by omega)
 refine(hA.Bz i.tq.iv (by rw[i.nw];omega) (by omega)).mono ?_
 rintro e w' ⟨⟨v,rfl⟩,hA',_⟩
 have hf:=f' _ _ f
 have hL:cD (1000-(j:Int))=1000-((j+1:Nat):Int):=by unfold cD;rw[if_pos (by omega)];omega
 rw[hL] at hf
 exact⟨v,_,rfl,⟨T+80,by omega,hA'⟩,by rw[el2];exact i',hf⟩
theorem PK.xR (h:PK w V ad k M K) (hl:Lq b j M) (hj:j<20) (hk:k≤90000):
  Calls Tryz.prog 16 #[.pointer (some ⟨ad.m,0,none⟩)] V fun e w'=> ∃(v:Value) (M':Mc),e= .returned v∧PK w w' ad (k+80) M' K∧Lq b (j+1) M'∧ ∀x,K x→w'.heap[x]? =V.heap[x]? :=by
 obtain⟨T,hT,hA⟩:=h
 have i:=hl.1 hj
 refine(hA.Bz i.tq.iv (by rw[i.nw];omega) (by omega)).mono ?_
 rintro e w' ⟨⟨v,rfl⟩,hA',hK⟩
 refine⟨v,_,rfl,⟨T+80,by omega,hA'⟩,⟨fun q=>i.xR (by omega),fun q=> ?_⟩,hK⟩
 obtain rfl:j=19:=by omega
 exact i.DP
theorem PK.below (h:PK w V ad k M K) {V':World} (hb:Below V.heap.size V V') {K':Nat→Prop} (hk: ∀k,K' k→K k∨(V.heap.size≤k∧k<V'.heap.size)):PK w V' ad k M K':=by
 obtain⟨T,hT,hA⟩:=h
 exact⟨T,hT,hA.below hb hk⟩
theorem PK.runs {B x:Nat} (h:PK w V ad k M K) (i:Iv 1 8 B [] M) (hr:(M.pc 0).r=(x:Int)):
  Calls Tryz.prog 21 #[.pointer (some ⟨ad.m,0,none⟩),.int .i64 0] V fun e w'=> ∃g:Int,e= .returned (.tuple #[.agg #[.int .i64 (x:Int),.int .u32 g],.bool true])∧PK w w' ad k M K∧Below V.heap.size V w':=by
 obtain⟨T,hT,hA⟩:=h
 refine(hA.Dj i hr).mono ?_
 rintro e w' ⟨⟨g,rfl⟩,hb⟩
 exact⟨g,rfl,⟨T,hT,hA.below hb (fun k q=> .inl q)⟩,hb⟩
theorem PK.mQ (h:PK w V ad k M K):Below w.heap.size w V:=by
 obtain⟨T,hT,hA⟩:=h
 exact hA.mQ
theorem PK.mono (h:PK w V ad k M K) {k':Nat} (hk:k≤k'):PK w V ad k' M K:=by
 obtain⟨T,hT,hA⟩:=h
 exact⟨T,Nat.le_trans hT hk,hA⟩
theorem PK.now (h:PK w V ad k M K) (hl:Lq b j M) (hj:j≤20):Calls Tryz.prog 22 #[.pointer (some ⟨ad.m,0,none⟩)] V fun e w'=>e= .returned (.int .u64 (j:Int))∧w'=V:=by
 obtain⟨T,hT,hA⟩:=h
 refine hA.Ez.mono ?_
 rintro e w' ⟨rfl,hw⟩
 rw[hl.nw hj]
 exact⟨rfl,hw⟩
theorem PK.at (h:PK w V ad k M K) (hl:Lq b j M) (hj:j≤20):Aa ad.wb V=j:=by
 obtain⟨T,hT,hA⟩:=h
 rw[zr hA.Fh]
 exact hl.nw hj
theorem PK.left {B s0 s1:Nat} {r:Int} {l d nw:Nat} (h:PK w V ad k M K) (i:Tt B s0 s1 r b l d nw M):
  Calls Tryz.prog 15 #[.pointer (some ⟨ad.m,0,none⟩),.int .i64 0] V fun e w'=>e= .returned (.int .u64 (l:Int))∧Below V.heap.size V w':=by
 obtain⟨T,hT,hA⟩:=h
 exact hA.Dn i
end
theorem je (x:Nat) (hx:x<256) (w:World) (ht:Gt.kH w):
  Calls Tryz.prog 8 #[.int .u8 (x:Int)] w fun e w'=>e= .returned (.bool true)∧Below w.heap.size w w':=by
 obtain⟨b,eb⟩: ∃b,b=x%19+1:=⟨_,rfl⟩
 have hb:1≤b∧b≤19:=by omega
 have hw1:IntKind.u64.wrap (x:Int)=(x:Int):=by simp[IntKind.wrap,IntKind.bits,IntKind.signed];omega
 have hbx:(x:Int)%19+1=(b:Int):=by omega
 obtain⟨c,ec⟩: ∃c,b=c+1:=⟨b-1,by omega⟩
 have EC:=aa ec
 have HB:=aa hb
 have HMA:Hid (Calls Tryz.prog 28 #[.int .i64 1,.slice (some ⟨w.heap.size,0,none⟩) 2 2] (w.alloc (.cells #[.int .i64 1,.int .i64 1000,.int .i64 9,.int .i64 0] 64)) fun e w'=> ∃ad,e= .returned (.pointer (some ⟨ad.m,0,none⟩))∧Al w w' ad 1 8 8 0 (kj 1 pT)):=by
  have hb0:Below w.heap.size w (w.alloc (.cells #[.int .i64 1,.int .i64 1000,.int .i64 9,.int .i64 0] 64)):=(Below.refl _ _).alloc (Nat.le_refl _) _
  refine(sE _ (ht.below hb0) 1 (by decide) (some ⟨w.heap.size,0,none⟩) 2 2 tO tR (Dz w) EN).mono ?_
  rintro e w' ⟨ad,he,⟨lab,hi,hl⟩,hb'⟩
  have hs:=hb0.size
  exact⟨ad,he,⟨lab,hi,fun k hk=>Nat.le_trans hs (hl k hk)⟩,bt hb0 hb'⟩
 have HAD:Hid (∀V ad,Al w V ad 1 8 8 0 (kj 1 pT)→Calls Tryz.prog 12 #[.pointer (some ⟨ad.m,0,none⟩),.int .u64 (b:Int),.int .u64 20] V fun e w'=>e= .returned (.tuple #[.int .i64 0,.int .i64 0])∧Al w w' ad 1 8 8 0 (mT b)):=fun V ad h=>by
  have e1:Cb.kD 1 (kj 1 pT).sv b 20=0:=D9 b (by omega) hb.1
  have e2:Cb.mM 1 (kj 1 pT).sv b 20=0:=by unfold Cb.mM;rw[e1];rfl
  have e3:Cb.qP 1 (kj 1 pT).sv b 20=[⟨b,20,0,0⟩]:=by unfold Cb.qP;rw[e1];rfl
  refine(h.E6.Cv b 20).mono ?_
  rintro e w' ⟨rfl,hA,_⟩
  rw[e1,e2]
  rw[e3] at hA
  exact⟨rfl,hA.al⟩
 have HS0:Hid (∀V ad,Al w V ad 1 8 8 0 (mT b)→Calls Tryz.prog 19 #[.pointer (some ⟨ad.m,0,none⟩),.int .i64 0,.int .u8 1,.int .i64 0] V fun e w'=> ∃(v:Value) (M':Mc),e= .returned (.tuple #[v,.int .i64 0])∧Al w w' ad 1 8 8 20 M'∧Tt 1 1 0 (-1) b b 20 0 M'∧fx M' 0 0):=fun V ad h=>by
  have i:=CV b
  obtain⟨hf,i2,f2⟩:=i.CU
  refine(h.xc (fun x hx=>by have:=i.tq.iv.gb x hx;omega) 0 1 (by decide) 0 (by decide) (by decide) (i.no 0 (.inl rfl)) hf).mono ?_
  rintro e w' ⟨⟨v,rfl⟩,hA⟩
  exact⟨v,_,rfl,hA,i2,f2⟩
 have HS1:Hid (∀V ad M,Al w V ad 1 8 8 20 M→Tt 1 1 0 (-1) b b 20 0 M→fx M 0 0→Calls Tryz.prog 19 #[.pointer (some ⟨ad.m,0,none⟩),.int .i64 0,.int .u8 9,.int .i64 (-1)] V fun e w'=> ∃(v:Value) (M':Mc),e= .returned (.tuple #[v,.int .i64 0])∧PK w w' ad 40 M' (fun _=>False)∧Tt 2 1 1 (-1) b b 20 0 M'∧fx M' 0 0):=fun V ad M h i f=>by
  obtain⟨hf,i2,f2⟩:=i.px
  refine(h.xc (fun x hx=>by have:=i.tq.iv.gb x hx;omega) 0 9 (by decide) (-1) (by decide) (by decide) (i.no (-1) (.inr rfl)) hf).mono ?_
  rintro e w' ⟨⟨v,rfl⟩,hA⟩
  exact⟨v,_,rfl,⟨40,Nat.le_refl _,hA.E6⟩,i2,f2 _ _ f⟩
 have HD:Hid (∀V ad M,PK w V ad 40 M (fun _=>False)→Tt 2 1 1 (-1) b b 20 0 M→fx M 0 0→Calls Tryz.prog 13 #[.pointer (some ⟨ad.m,0,none⟩),.int .i64 0,.int .u64 0] V fun e w'=> ∃(v:Value) (M':Mc),e= .returned (.tuple #[v,.int .i64 0])∧PK w w' ad 49 M' (fun _=>False)∧Tt 2 2 1 0 b b 20 0 M'∧fx M' 0 0):=fun V ad M h i f=>by
  have i':Tt 2 1 1 (-1) b (c+1) 20 0 M:=by rw[←ec];exact i
  obtain⟨T,hT,hA⟩:=h
  refine(hA.B9 i' (by omega)).mono ?_
  rintro e w' ⟨⟨v,rfl⟩,M',⟨hA',_⟩,i2,f2⟩
  rw[←ec] at i2
  exact⟨v,M',rfl,⟨T+9,by omega,hA'⟩,i2,f2 _ _ f⟩
 have HC:Hid (∀V ad M,PK w V ad 49 M (fun _=>False)→Tt 2 2 1 0 b b 20 0 M→fx M 0 0→Calls Tryz.prog 13 #[.pointer (some ⟨ad.m,0,none⟩),.int .i64 0,.int .u64 0] V fun e w'=> ∃(v:Value) (M':Mc),e= .returned (.tuple #[v,.int .i64 0])∧PK w w' ad (57+88*0) M' (fun _=>False)∧Lp b 0 M'):=fun V ad M h i f=>by
  have i':Tt 2 2 1 0 b (c+1) 20 0 M:=by rw[←ec];exact i
  obtain⟨T,hT,hA⟩:=h
  refine(hA.yT i' f (by omega)).mono ?_
  rintro e w' ⟨⟨v,rfl⟩,M',⟨hA',_⟩,i2,f2⟩
  rw[←ec] at i2
  exact⟨v,M',rfl,⟨T+8,by omega,hA'⟩,i2,f2⟩
 have HP0:Hid (∀V ad k M,k≤9000→PK w V ad k M (fun _=>False)→Lp b b M→Calls Tryz.prog 13 #[.pointer (some ⟨ad.m,0,none⟩),.int .i64 0,.int .u64 0] V fun e w'=> ∃(v:Value) (M':Mc),e= .returned (.tuple #[v,.int .i64 0])∧PK w w' ad 10000 M' (fun _=>False)∧Tt 2 1 2 1 b 0 20 b M'):=fun V ad k M hk h i=>by
  have i':Tt 2 2 1 0 b 0 20 b M:=by have:=i.1;rw[Nat.sub_self] at this;exact this
  obtain⟨T,hT,hA⟩:=h
  refine(hA.EL i' (by omega)).mono ?_
  rintro e w' ⟨⟨v,rfl⟩,M',⟨hA',_⟩,i2⟩
  exact⟨v,M',rfl,⟨T+18,by omega,hA'⟩,i2⟩
 have HP1:Hid (∀V ad M K,PK w V ad 90000 M K→Lq b 20 M→Calls Tryz.prog 13 #[.pointer (some ⟨ad.m,0,none⟩),.int .i64 0,.int .u64 0] V fun e w'=> ∃(v:Value) (M':Mc),e= .returned (.tuple #[v,.int .i64 0])∧PK w w' ad 90018 M' K∧Tt 2 2 1 0 b b 40 20 M'∧ ∀x,K x→w'.heap[x]? =V.heap[x]?):=fun V ad M K h i=>by
  have i':Tt 2 1 2 1 b (c+1) 40 20 M:=by rw[←ec];exact i.2 rfl
  obtain⟨T,hT,hA⟩:=h
  refine(hA.EZ i' (by omega)).mono ?_
  rintro e w' ⟨⟨v,rfl⟩,M',⟨hA',hK⟩,i2⟩
  rw[←ec] at i2
  exact⟨v,M',rfl,⟨T+18,by omega,hA'⟩,i2,hK⟩
 have hbi:=zE
 clear ht eb ec hx hb
 go_enter Tryz.func8,Tryz.ntmps8
 go_wp2_with (go_at_call 28;refine(HMA.out).mono ?_;rintro e w1 ⟨ad,rfl,hA⟩;have HA:=aa hA;clear hA HMA)
 go_wp2_with (go_at_call 12;refine(HAD.out w1 ad HA.out).mono ?_;rintro e w2 ⟨rfl,hA2⟩;have HA2:=aa hA2;clear hA2 HAD)
 go_wp2_with (go_at_call 19;refine(HS0.out w2 ad HA2.out).mono ?_;rintro e w3 ⟨v3,M3,rfl,hA3,hI3,hf3⟩;have HA3:=aa hA3;have HI3:=aa hI3;have HF3:=aa hf3;clear hA3 hI3 hf3 HS0)
 go_wp2_with (go_at_call 19;refine(HS1.out w3 ad M3 HA3.out HI3.out HF3.out).mono ?_;rintro e w4 ⟨v4,M4,rfl,hA4,hI4,hf4⟩;have HA4:=aa hA4;have HI4:=aa hI4;have HF4:=aa hf4;clear hA4 hI4 hf4 HS1)
 go_wp2_with (go_at_call 13;refine(HD.out w4 ad M4 HA4.out HI4.out HF4.out).mono ?_;rintro e w5 ⟨v5,M5,rfl,hA5,hI5,hf5⟩;have HA5:=aa hA5;have HI5:=aa hI5;have HF5:=aa hf5;clear hA5 hI5 hf5 HD)
 go_wp2_with (go_at_call 21;refine(HA5.out.runs (x:=0) HI5.out.tq.iv HI5.out.r).mono ?_;rintro e w6 ⟨g6,rfl,hA6,hb6⟩;have HA6:=aa hA6;clear hA6 hb6)
 go_wp2_with (go_at_call 13;refine(HC.out _ ad M5 (HA6.out.below ((Below.refl _ _).alloc (Nat.le_refl _) _) (fun k q=>q.elim)) HI5.out HF5.out).mono ?_;rintro e w7 ⟨v7,M7,rfl,hA7,hI7⟩;have HA7:=aa hA7;have HI7:=aa hI7;clear hA7 hI7 HC)
 go_loopw [9] (fun iv wr=> ∃(j:Nat) (M:Mc),j≤b∧iv= .int .u64 j∧PK w wr ad (57+88*j) M (fun _=>False)∧Lp b j M) (fun iv _=>b-(RowKit.intOf iv).toNat)
 case atStart=>exact⟨0,M7,by omega,rfl,HA7.out,HI7.out⟩
 case round=>
  obtain⟨j,M,hjb,rfl,hA8,hI8⟩:=hrel
  have HA8:=aa hA8
  have HI8:=aa hI8
  have hbb:=HB.out
  clear hA8 hI8 HA7 HI7
  by_cases hjl:j<b
  ·have hjl':(j:Int)<(b:Int):=by omega
   go_wp2_with (go_at_call 13;refine(HA8.out.busy HI8.out hjl hbb.2 (by omega)).mono ?_;rintro e w8 ⟨r8,c8,rfl,hc8,M8,hA9,hI9⟩;have HA9:=aa hA9;have HI9:=aa hI9;clear hA9 hI9)
   go_wp2_with (go_at_call 16;refine(HA9.out.vS HI9.out hjl hbb.2 (by omega)).mono ?_;rintro e w9 ⟨v9,M9,rfl,hA10,hI10⟩;have HA10:=aa hA10;have HI10:=aa hI10;clear hA10 hI10)
   go_roundw
   case rel=>exact⟨j+1,M9,by omega,by go_num,by have:=HA10.out;rw[show 57+88*(j+1)=57+88*j+8+80 by omega];exact this,HI10.out⟩
   case measure=>simp[RowKit.intOf];omega
  ·have hjl': ¬(j:Int)<(b:Int):=by omega
   have ej:j=b:=by omega
   rw[ej] at HI8 HA8 hjl'⊢
   clear ej hjb hjl
   go_wp2_with (go_at_call 13;refine(HP0.out _ ad _ M (by omega) HA8.out HI8.out).mono ?_;rintro e w8 ⟨v8,M8,rfl,hA9,hI9⟩;have HA9:=aa hA9;have HI9:=aa hI9;clear hA9 hI9)
   go_wp2_with (go_at_call 21;refine(HA9.out.runs (x:=1) HI9.out.tq.iv HI9.out.r).mono ?_;rintro e w9 ⟨g9,rfl,hA10,hb10⟩;have HA10:=aa hA10;clear hA10 hb10)
   have HA11:Hid (PK w (w9.alloc (.cells #[.int .i64 1,.int .u32 g9] 51)) ad 10000 M8 (fun k=>k=w9.heap.size)):=HA10.out.below ((Below.refl _ _).alloc (Nat.le_refl _) _) (fun k q=> .inr (by rw[q];simp))
   have HX11:Hid ((w9.alloc (.cells #[.int .i64 1,.int .u32 g9] 51)).cell? ⟨w9.heap.size,0,none⟩=some (.int .i64 1)):=aU _ _ _ 0 _ rfl
   have HQ0:Hid (Lq b b M8):=⟨fun _=>HI9.out,fun q=>by omega⟩
   generalize (w9.alloc (.cells #[.int .i64 1,.int .u32 g9] 51))=W11 at*
   obtain⟨ib,hib⟩: ∃ib,w9.heap.size=ib:=⟨_,rfl⟩
   rw[hib] at HA11 HX11⊢
   clear hib HA10 HA9 HI9 HA8 HI8 HP0
   go_loopw [] (fun wr=> ∃(j:Nat) (M:Mc),j≤20∧PK w wr ad (10000+80*j) M (fun k=>k=ib)∧Lq b j M∧wr.cell? ⟨ib,0,none⟩=some (.int .i64 1)) (fun wr=>20-Aa ad.wb wr)
   case atStart=>exact⟨b,M8,by omega,HA11.out.mono (by omega),HQ0.out,HX11.out⟩
   case round=>
    obtain⟨j,M2,hj,hA12,hQ12,hx12⟩:=hrel
    have HA12:=aa hA12
    have HQ12:=aa hQ12
    have HX12:=aa hx12
    clear hA12 hQ12 hx12 HA11 HX11 HQ0
    by_cases hjl:j<20
    ·have hjl':(j:Int)<20:=by omega
     go_wp2_with (go_at_call 22;refine(HA12.out.now HQ12.out hj).mono ?_;rintro e w12 ⟨rfl,hw⟩;subst hw)
     go_wp2_with (go_at_call 16;refine(HA12.out.xR HQ12.out hjl (by omega)).mono ?_;rintro e w13 ⟨v13,M13,rfl,hA13,hQ13,hK13⟩;have HA13:=aa hA13;have HQ13:=aa hQ13;have HK13:=aa hK13;clear hA13 hQ13 hK13)
     go_roundw
     case rel=>exact⟨j+1,M13,by omega,HA13.out.mono (by omega),HQ13.out,(World.cell?_of_block (HK13.out ib rfl)).trans HX12.out⟩
     case measure=>
      have e1:=HA12.out.at HQ12.out hj
      have e2:=HA13.out.at HQ13.out (by omega)
      rw[e1,e2]
      omega
    ·have ej:j=20:=by omega
     have hjl': ¬(j:Int)<20:=by omega
     have HQ20:Hid (Lq b 20 M2):=by rw[←ej];exact HQ12.out
     go_wp2_with (go_at_call 22;refine(HA12.out.now HQ12.out hj).mono ?_;rintro e w12 ⟨rfl,hw⟩;subst hw)
     go_wp2_with (go_at_call 13;refine(HP1.out _ ad M2 _ (HA12.out.mono (by omega)) HQ20.out).mono ?_;rintro e w13 ⟨v13,M13,rfl,hA13,hI13,hK13⟩;have HA13:=aa hA13;have HI13:=aa hI13;have HX13:=aa ((World.cell?_of_block (hK13 ib rfl)).trans HX12.out);clear hA13 hI13 hK13)
     go_wp2_with (go_at_call 21;refine(HA13.out.runs (x:=0) HI13.out.tq.iv HI13.out.r).mono ?_;rintro e w14 ⟨g14,rfl,hA14,hb14⟩;have HA14:=aa hA14;have hx14:=(World.cell?_of_block (hb14.block ib (World.block_lt_of_cell? _ _ HX13.out))).trans HX13.out;have hl14:ib<w14.heap.size:=World.block_lt_of_cell? _ _ hx14;clear hA14 hb14)
     go_wp2_with (go_at_call 15;refine((HA14.out.below ((Below.refl _ _).alloc (Nat.le_refl _) (.cells #[.int .i64 0,.int .u32 g14] 51)) (K':=fun _=>False) (fun k q=>q.elim)).left HI13.out).mono ?_;rintro e w15 ⟨rfl,hb15⟩;have HB15:=aa (bt (HA14.out.below ((Below.refl _ _).alloc (Nat.le_refl _) (.cells #[.int .i64 0,.int .u32 g14] 51)) (K':=fun _=>False) (fun k q=>q.elim)).mQ hb15);clear hb15)
     go_ret
     exact⟨rfl,HB15.out⟩
end Go.Proofs.YtjlbmmiomfpgiaaGreatDoor
