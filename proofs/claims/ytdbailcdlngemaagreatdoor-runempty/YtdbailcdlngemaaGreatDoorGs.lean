/- YtdbailcdlngemaaGreatDoorGs: of the texts Bb1 Bb2 Bb3 Bb4 Bb5 Bb6 Bb7 Bd1 Bd2 Bd3 Be1 Be2 Be3 Ca1 Bf8 Bf9 Bg1 Bg2 Bg3 Bg4 Bg5 Bg6 Bg7 Bg8 Bg9 Bi2 Bi1 Bj1 Bj2 Bj3 Bj4 Bj5 Bl1 what is wanted. -/
import Derived.Test.YtdbailcdlngemaaGreatDoorGq
import Derived.ProofKit
import Derived.OpenShut
import Derived.Deep.Slices
import Derived.Deep.Strs
import Derived.ChangeOld
import Derived.ChangeSame
import Derived.Test.YtdbailcdlngemaaGreatDoorGt
import Derived.Test.YtdbailcdlngemaaGreatDoorGl
set_option maxHeartbeats 16000000
set_option maxRecDepth 100000
set_option linter.unusedVariables false
set_option linter.unusedSimpArgs false
namespace Go.Proofs.YtdbailcdlngemaaGreatDoor
open Go.RowKit Go.Lib
theorem mI {a b c:Ke.K} (h:Ke.up a b=false) (k:Ke.up b c=false):Ke.up a c=false:=by
 obtain⟨ae,ad,al⟩:=a
 obtain⟨be,bd,bl⟩:=b
 obtain⟨ce,cd,cl⟩:=c
 cases ae<;>cases be<;>cases ce<;>simp_all [Ke.up]<;>omega
theorem EH {a b:Ke.K} (h:Ke.up a b=true):Ke.up b a=false:=by
 obtain⟨ae,ad,al⟩:=a
 obtain⟨be,bd,bl⟩:=b
 cases ae<;>cases be<;>simp_all [Ke.up]<;>omega
theorem jG (a:Ke.K):Ke.up a a=false:=by simp[Ke.up]
theorem o9 (H:List Hd): ∀(l:List Nat) (b:Option Nat),(∀c0,b=some c0→ ∃c,l.foldl (cI H) b=some c∧Ke.up (iQ (MM H c0)) (iQ (MM H c))=false)∧ ∀x∈l,∀y M,MM H x=y::M→ ∃c,l.foldl (cI H) b=some c∧Ke.up y.2 (iQ (MM H c))=false
 |[],b=>⟨fun c0 hc=>⟨c0,hc,jG _⟩,fun x hx=>by cases hx⟩
 |x::l,b=>by
  have A: ∀c0,b=some c0→ ∃c1,cI H b x=some c1∧Ke.up (iQ (MM H c0)) (iQ (MM H c1))=false:=by
   intro c0 hc
   subst hc
   unfold cI
   cases hM:MM H x with
   |nil=>exact⟨c0,rfl,jG _⟩
   |cons y M=>
    simp only
    cases hu:Ke.up y.2 (iQ (MM H c0)) with
    |true=>
     refine⟨x,rfl,?_⟩
     rw[hM]
     exact EH hu
    |false=>exact⟨c0,rfl,jG _⟩
  have B: ∀y M,MM H x=y::M→ ∃c1,cI H b x=some c1∧Ke.up y.2 (iQ (MM H c1))=false:=by
   intro y M hM
   unfold cI
   rw[hM]
   cases b with
   |none=>exact⟨x,rfl,by rw[hM];exact jG _⟩
   |some c0=>
    simp only
    cases hu:Ke.up y.2 (iQ (MM H c0)) with
    |true=>exact⟨x,rfl,by rw[hM];exact jG _⟩
    |false=>exact⟨c0,rfl,hu⟩
  obtain⟨i1,i2⟩:=o9 H l (cI H b x)
  refine⟨fun c0 hc=> ?_,fun z hz y M hM=> ?_⟩
  ·obtain⟨c1,e1,n1⟩:=A c0 hc
   obtain⟨c,e2,n2⟩:=i1 c1 e1
   exact⟨c,e2,mI n1 n2⟩
  ·rcases List.mem_cons.1 hz with rfl|hz
   ·obtain⟨c1,e1,n1⟩:=B y M hM
    obtain⟨c,e2,n2⟩:=i1 c1 e1
    exact⟨c,e2,mI n1 n2⟩
   ·exact i2 z hz y M hM
theorem rK {np p d x:Nat} (hp:p<np) (hx:x≤np):x∈dq np p d:=by
 unfold dq eN
 by_cases h1:x=p
 ·rw[h1];simp
 by_cases h2:x=np
 ·rw[h2];simp
 refine List.mem_cons_of_mem _ (List.mem_cons_of_mem _ (List.mem_filter.2 ⟨List.mem_map.2 ⟨(x+2*np-(p+1+d%np))%np,List.mem_range.2 (Nat.mod_lt _ (by omega)),?_⟩,by simpa using h1⟩))
 unfold ly
 have hm:d%np<np:=Nat.mod_lt _ (by omega)
 rw[Nat.add_mod_mod]
 have e:p+1+d%np+(x+2*np-(p+1+d%np))=x+np*2:=by omega
 rw[e,Nat.add_mul_mod_self_left]
 exact Nat.mod_eq_of_lt (by omega)
theorem E6 (G:List (List En)) (c:Nat) (M:List En):gh (G.set c M)=(gh G).set c ⟨0,0,0,0,0,0,M⟩:=by unfold gh;rw[List.map_set]
theorem jc {G:List (List En)} {c:Nat} {x:Hd} (h:(gh G)[c]? =some x):G[c]? =some x.M:=by
 have:=oI h
 rw[dt] at this
 exact this
section
variable {w:World} {O:Nat→Prop} {pb n np q T:Nat} {G:List (List En)}
theorem PQ.nd (h:PQ w O pb n np q T G) {c:Nat} {x:Hd} (hx:(gh G)[c]? =some x):(x.M.map (·.1)).Nodup∧(∀y∈x.M,y.1<n)∧ ∀y∈x.M,Ke.aB y.2=true:=by
 obtain⟨h1,h2,_,h4⟩:=h.at (jc hx)
 exact⟨h1,h2,h4⟩
theorem PQ.Ic (h:PQ w O pb n np q T G) {p d:Int} {c:Nat} (hb:bb np (gh G) p d=some c): ∃z:En,bI (gh G) (some c)=(z.1:Int)∧bK (gh G) (some c)=z.2∧z.1<n∧aP n (gh (im np (gh G) p d)) 0 (z.1:Int)=none∧cW (gh (im np (gh G) p d))+1=cW (gh G):=by
 obtain⟨_,_,x,z,M',hx,hM⟩:=oP hb
 obtain⟨hnd,hrn,_⟩:=h.nd hx
 have e1:bI (gh G) (some c)=(z.1:Int):=by show sG (MM (gh G) c)=_;rw[cK hx,hM];rfl
 have e2:bK (gh G) (some c)=z.2:=by show iQ (MM (gh G) c)=_;rw[cK hx,hM];rfl
 have hg:im np (gh G) p d=G.set c M':=by unfold im;rw[hb,dt];show G.set c (MM (gh G) c).tail=_;rw[cK hx,hM];rfl
 have hcut:cut z.1 x.M=M':=by rw[hM];exact mQ (by rw[←hM];exact hnd)
 have hzk:(keyOf x.M z.1).isSome=true:=by rw[ix];exact⟨z,by rw[hM];simp,rfl⟩
 rw[hg,E6]
 obtain⟨_,u2⟩:=nX (n:=n) (y:=⟨0,0,0,0,0,0,M'⟩) h.un hx (id:=z.1) hcut.symm hzk
 have hs:=eD (y:=⟨0,0,0,0,0,0,M'⟩) hx
 refine⟨z,e1,e2,hrn z (by rw[hM];simp),?_,?_⟩
 ·rw[u2]
  unfold gU
  rw[if_pos rfl]
 ·have:x.M.length=M'.length+1:=by rw[hM];rfl
  simp only at hs
  omega
end
theorem jM {G:List (List En)} {i:Nat} {M:List En} (h:G[i]? =some M):(gh G)[i]? =some ⟨0,0,0,0,0,0,M⟩:=by unfold gh;rw[List.getElem?_map,h];rfl
theorem CY {np:Nat} {G:List (List En)} {p d:Int} {c:Nat} (hl:G.length=np+1) (hb:bb np (gh G) p d=some c) {i:Nat} {y:En} {M:List En} (hM:G[i]? =some (y::M)):Ke.up y.2 (iQ (MM (gh G) c))=false:=by
 obtain⟨hp,h,_⟩:=oP hb
 have hil:i≤np:=by have:=(List.getElem?_eq_some_iff.1 hM).1;omega
 obtain⟨_,t2⟩:=o9 (gh G) (dq np p.toNat d.toNat) none
 obtain⟨c',e1,n1⟩:=t2 i (rK (by omega) hil) y M (cK (jM hM))
 have h':(dq np p.toNat d.toNat).foldl (cI (gh G)) none=some c:=h
 rw[h'] at e1
 injection e1 with e1
 rw[e1]
 exact n1
theorem EI {np:Nat} {G:List (List En)} (hl:G.length=np+1) {p:Int} (hp:0≤p∧p<(np:Int)) (d:Int):(bb np (gh G) p d).isSome=decide (0<cW (gh G)):=by
 cases hb:bb np (gh G) p d with
 |some c=>
  obtain⟨_,_,x,z,M',hx,hM⟩:=oP hb
  have hs:=eD (y:=⟨0,0,0,0,0,0,[]⟩) hx
  have e:x.M.length=M'.length+1:=by rw[hM];rfl
  simp only[List.length_nil] at hs
  exact(decide_eq_true (by omega)).symm
 |none=>
  refine(decide_eq_false (fun hpos=> ?_)).symm
  have key: ∀(i:Nat) (M:List En),G[i]? =some M→M=[]:=fun i M hM=>by
   cases M with
   |nil=>rfl
   |cons y M=>
    exfalso
    have hil:i≤np:=by have:=(List.getElem?_eq_some_iff.1 hM).1;omega
    obtain⟨_,t2⟩:=o9 (gh G) (dq np p.toNat d.toNat) none
    obtain⟨c',e1,_⟩:=t2 i (rK (by omega) hil) y M (cK (jM hM))
    unfold bb at hb
    rw[if_pos hp] at hb
    unfold iK at hb
    rw[hb] at e1
    cases e1
  have:=lU (H:=gh G) (fun i x hx=>key i x.M (jc hx))
  omega
def lj (M:List En):Prop:=M.Pairwise (fun a b=>Ke.up b.2 a.2=false)
theorem oB (R:List (Nat×Nat)): ∀k,lj (gJ R k)
 |0=>List.Pairwise.nil
 |k+1=>by
  unfold lj
  rw[gJ,List.pairwise_append]
  refine⟨?_,oB R k,?_⟩
  ·refine List.Pairwise.imp_of_mem (R:=fun _ _=>True) ?_ (List.pairwise_of_forall (fun _ _=>trivial))
   intro a b ha hb _
   rw[(jW.1 ha).2,(jW.1 hb).2,vk]
   simp
  ·intro a ha b hb
   obtain⟨j,hj,_,e⟩:=iR.1 hb
   rw[(jW.1 ha).2,e,vk]
   simp
   omega
theorem yC (L:List Ph.Item) (h:Ph.wU L):lj (dl L):=by
 unfold lj dl
 rw[List.pairwise_map]
 refine List.Pairwise.imp ?_ h
 intro a b hab
 rw[DM]
 unfold Ph.ah at hab
 simp
 omega
theorem xa (R:List (Nat×Nat)) (L:List Ph.Item) (h:Ph.wU L):lj (all R L):=by
 unfold lj all
 rw[List.pairwise_append]
 refine⟨yC L h,oB R 256,?_⟩
 intro a ha b hb
 obtain⟨d,s,_,e⟩:=uc.1 ha
 obtain⟨j,_,_,e'⟩:=iR.1 hb
 rw[e,e']
 exact Dw _ _
theorem cY.zI {w:World} {sb qb gq hb gh n most turn:Nat} {M:List En} (h:cY w sb qb gq hb gh n most turn M):lj M:=by
 obtain⟨R,L,hS,hI⟩:=h
 rw[←hI.eq]
 exact xa R L hS.h.pd.srt
theorem PQ.zI {w:World} {O:Nat→Prop} {pb n np q T:Nat} {G:List (List En)} (h:PQ w O pb n np q T G) {i:Nat} {M:List En} (hi:G[i]? =some M):lj M:=by
 obtain⟨base,lo,mb,v,H,hQ,hG,hO⟩:=h
 rw[←hG] at hi
 simp only[Ms,List.getElem?_map] at hi
 cases hx:H[i]? with
 |none=>rw[hx] at hi;cases hi
 |some x=>
  rw[hx] at hi
  injection hi with hi
  subst hi
  exact cY.zI (hQ.p.sets.it i x hx)
def gY (G:List (List En)) (z:En):Prop:= ∃(i:Nat) (M:List En),G[i]? =some M∧z∈M
section
variable {w:World} {O:Nat→Prop} {pb n np q T:Nat} {G:List (List En)}
theorem Av {p d:Int}: ∀z,gY (im np (gh G) p d) z→gY G z:=by
 rintro z ⟨i,M,hM,hz⟩
 unfold im at hM
 cases hb:bb np (gh G) p d with
 |none=>rw[hb,dt] at hM;exact⟨i,M,hM,hz⟩
 |some c=>
  rw[hb,dt] at hM
  simp only at hM
  rcases Nat.decEq i c with e|e
  ·rw[List.getElem?_set_ne (fun q=>e q.symm)] at hM
   exact⟨i,M,hM,hz⟩
  ·subst e
   obtain⟨_,_,x,z',M',hx,hM'⟩:=oP hb
   have hil:i<G.length:=(List.getElem?_eq_some_iff.1 (jc hx)).1
   rw[List.getElem?_set_self hil,cK hx] at hM
   injection hM with hM
   subst hM
   exact⟨i,x.M,jc hx,List.mem_of_mem_tail hz⟩
end
theorem ov (n:Nat) (M:Mc) (κ:Nat→Ke.K): ∀(l:List Nat) (g:Pi.Md),(∀x∈l,x<g.T.length∧dQ M n (M.th x)=κ x∧Ke.aB (κ x)=true)→(l.foldl (fB n M) g).T.length=g.T.length∧(l.foldl (fB n M) g).L=g.L∧ ∀x,(x∈l∨Pi.gO g.T x=κ x)→Pi.gO (l.foldl (fB n M) g).T x=κ x
 |[],g,_=>⟨rfl,rfl,fun x h=>h.elim (fun q=>by cases q) id⟩
 |y::l,g,h=>by
  obtain⟨hy,ho,hr⟩:=h y (by simp)
  have e:fB n M g y=⟨g.T.set y ⟨κ y,(g.T[y]'hy).u⟩,g.L⟩:=by
   unfold fB Pi.fD
   rw[ho,if_pos (by simp[Pi.oN,hr,hy]),show((y:Int)).toNat=y from rfl,List.getElem?_eq_getElem hy]
  rw[List.foldl_cons,e]
  obtain⟨h1,h2,h3⟩:=ov n M κ l ⟨g.T.set y ⟨κ y,(g.T[y]'hy).u⟩,g.L⟩ (fun x hx=>by have:=h x (by simp[hx]);simpa using this)
  refine⟨by rw[h1];simp,h2,fun x hx=>h3 x ?_⟩
  by_cases exy:x=y
  ·subst exy
   refine .inr ?_
   simp[Pi.gO,hy]
  ·rcases hx with hx|hx
   ·rcases List.mem_cons.1 hx with q|q
    ·exact absurd q exy
    ·exact .inl q
   ·refine .inr ?_
    show Pi.gO (g.T.set y _) x=_
    unfold Pi.gO at hx⊢
    rw[List.getElem?_set_ne (fun q=>exy q.symm)]
    exact hx
theorem ox {S:Nat→Nat} {fr:Bool} {n:Nat}: ∀k,k≤n→ ∀x:Fin n,x∈Gt.pl S fr n k↔x.val<k∧(S x.val==0)=fr
 |0,_,x=>by simp[Gt.pl]
 |k+1,hk,x=>by
  have ih:=ox (S:=S) (fr:=fr) k (by omega) x
  by_cases hs:(S k==0)=fr
  ·rw[Gt.ij (by omega) hs,List.mem_append,ih,List.mem_singleton]
   constructor
   ·rintro(h|h)
    ·exact⟨by omega,h.2⟩
    ·subst h;exact⟨Nat.lt_succ_self _,hs⟩
   ·rintro⟨h1,h2⟩
    rcases Nat.lt_succ_iff_lt_or_eq.1 h1 with h|h
    ·exact .inl ⟨h,h2⟩
    ·exact .inr (Fin.ext h)
  ·rw[Gt.uS hs,ih]
   constructor
   ·rintro⟨h1,h2⟩;exact⟨by omega,h2⟩
   ·rintro⟨h1,h2⟩
    rcases Nat.lt_succ_iff_lt_or_eq.1 h1 with h|h
    ·exact⟨h,h2⟩
    ·rw[h] at h2;exact absurd h2 hs
theorem fW {M:Mc} {n x:Nat}:x∈ck M n↔x<n∧M.S x≠0:=by
 unfold ck
 rw[List.mem_map]
 constructor
 ·rintro⟨y,hy,rfl⟩
  have:=(ox n (Nat.le_refl _) y).1 hy
  exact⟨this.1,by simpa using this.2⟩
 ·rintro⟨h1,h2⟩
  exact⟨⟨x,h1⟩,(ox n (Nat.le_refl _) _).2 ⟨h1,by simpa using h2⟩,rfl⟩
theorem qC {n:Nat} {G S:Nat→Nat} {x:Nat} (hx:x<n) (hs:S x≠0):Gt.hasB n G S (x:Int) (G x)=true:=by
 unfold Gt.hasB
 simp[hx,hs]
theorem uJ {M:Mc} {n x:Nat} {t:Tr} (hx:x<n) (hp:t.p=(x:Int)) (hg:t.g=M.G x) (hs:M.S x≠0):dU M n t=M.S x:=by
 unfold dU
 rw[hp,hg,qC hx hs]
 rfl
theorem wA {n:Nat} {G S:Nat→Nat} {x s:Nat} (hx:x<n) (hs:S x≠0) (hm:Gt.mu (S x) s=true):dR n G S (x:Int) (G x) s=Gt.ax S x s:=by
 unfold dR
 rw[if_pos ⟨qC hx hs,hm⟩]
 rfl
theorem A7 {n:Nat} {G S:Nat→Nat} {x s:Nat} (hm:Gt.mu (S x) s=false):dR n G S (x:Int) (G x) s=S:=by
 unfold dR
 rw[if_neg (fun q=>by have:=q.2;rw[show((x:Int)).toNat=x from rfl,hm] at this;cases this)]
theorem Dq {np n q:Nat} {G:List (List En)} (hl:G.length=np+1) {p:Nat} (hp:p<np) {id:Nat} (hi:id<n) {k:Ke.K} (hr:Ke.aB k=true) (hno: ∀z,gY G z→z.1≠id) (z:En):
  gY (eM np n q (gh G) (p:Int) (id:Int) k) z↔z=(id,k)∨gY G z:=by
 have hw:aP n (gh G) 0 (id:Int)=none:=eu n _ (gh G) 0 (fun i x hx _=>bz.2 (fun y hy=>hno y ⟨i,x.M,jc hx,hy⟩))
 have hc:jR np n (gh G) (p:Int) (id:Int) k=0:=by
  unfold jR
  rw[if_neg (by unfold kQ;rintro((q|q)|q|q|q);omega;omega;omega;omega;rw[hr] at q;cases q),hw]
  rfl
 have hal:jz np n q (gh G) p<G.length:=by
  rw[hl]
  unfold jz
  split<;>omega
 have hx:G[jz np n q (gh G) p]? =some (G[jz np n q (gh G) p]'hal):=List.getElem?_eq_getElem _
 have hg:eM np n q (gh G) (p:Int) (id:Int) k=G.set (jz np n q (gh G) p) (Go.Proofs.YtdbailcdlngemaaGreatDoor.put (id,k) (MM (gh G) (jz np n q (gh G) p))):=by
  unfold eM
  rw[if_pos hc,dt]
  rfl
 rw[hg]
 generalize jz np n q (gh G) p=j at*
 generalize G[j]=X at hx
 rw[cK (jM hx)]
 constructor
 ·rintro⟨i,M,hM,hz⟩
  by_cases e:i=j
  ·subst e
   rw[List.getElem?_set_self hal] at hM
   injection hM with hM
   subst hM
   exact(df.1 hz).imp (fun q=>q) (fun q=>⟨_,X,hx,q⟩)
  ·rw[List.getElem?_set_ne (fun q=>e q.symm)] at hM
   exact .inr ⟨i,M,hM,hz⟩
 ·rintro(rfl|⟨i,M,hM,hz⟩)
  ·exact⟨j,_,List.getElem?_set_self hal,df.2 (.inl rfl)⟩
  ·by_cases e:i=j
   ·subst e
    rw[hx] at hM
    injection hM with hM
    subst hM
    exact⟨i,_,List.getElem?_set_self hal,df.2 (.inr hz)⟩
   ·exact⟨i,M,by rw[List.getElem?_set_ne (fun q=>e q.symm)];exact hM,hz⟩
theorem zW {np n q:Nat} {G:List (List En)} (p id:Int) (k:Ke.K):(eM np n q (gh G) p id k).length=G.length:=by
 unfold eM
 split
 ·rw[List.length_set,dt]
 ·rw[dt]
theorem Aq {w:World} {O:Nat→Prop} {pb n np q T:Nat} {G:List (List En)} (h:PQ w O pb n np q T G) {p d:Int} (hb:(bb np (gh G) p d).isSome=true):
  ∃(x:Nat) (k:Ke.K),x<n∧bI (gh G) (bb np (gh G) p d)=(x:Int)∧gY G (x,k)∧(∀z,gY G z→Ke.up z.2 k=false)∧ ∀z,gY (im np (gh G) p d) z↔gY G z∧z.1≠x:=by
 obtain⟨c,hc⟩:=Option.isSome_iff_exists.1 hb
 obtain⟨z,e1,e2,hz,hw,hs⟩:=h.Ic hc
 obtain⟨_,_,y,z',M',hy,hM⟩:=oP hc
 have hzz:z'=z:=by
  have q1:bI (gh G) (some c)=(z'.1:Int):=by show sG (MM (gh G) c)=_;rw[cK hy,hM];rfl
  have q2:bK (gh G) (some c)=z'.2:=by show iQ (MM (gh G) c)=_;rw[cK hy,hM];rfl
  rw[e1] at q1
  rw[e2] at q2
  exact Prod.ext (by omega) q2.symm
 subst hzz
 have hcl:c<G.length:=(List.getElem?_eq_some_iff.1 (jc hy)).1
 have hG:G[c]? =some (z'::M'):=by rw[←hM];exact jc hy
 have hg:im np (gh G) p d=G.set c M':=by unfold im;rw[hc,dt];show G.set c (MM (gh G) c).tail=_;rw[cK hy,hM];rfl
 refine⟨z'.1,z'.2,hz,by rw[hc];exact e1,⟨c,_,hG,by simp⟩,?_,?_⟩
 ·rintro y ⟨i,M2,hM2,hy2⟩
  have hk:iQ (MM (gh G) c)=z'.2:=by rw[cK hy,hM];rfl
  cases hM3:M2 with
  |nil=>rw[hM3] at hy2;cases hy2
  |cons y0 M4=>
   have h0:Ke.up y0.2 z'.2=false:=by rw[←hk];exact CY h.len hc (by rw[←hM3];exact hM2)
   rw[hM3] at hy2
   rcases List.mem_cons.1 hy2 with e|e
   ·rw[e];exact h0
   ·have hf:=h.zI hM2
    rw[hM3] at hf
    exact mI ((List.pairwise_cons.1 hf).1 y e) h0
 ·intro y
  constructor
  ·intro hy2
   refine⟨Av y hy2,?_⟩
   obtain⟨i,M2,hM2,hy3⟩:=hy2
   exact bz.1 (dz hw hz (jM hM2)) y hy3
  ·rintro⟨⟨i,M2,hM2,hy2⟩,hne⟩
   rw[hg]
   by_cases e:i=c
   ·subst e
    rw[hG] at hM2
    injection hM2 with hM2
    subst hM2
    rcases List.mem_cons.1 hy2 with q|q
    ·rw[q] at hne;exact absurd rfl hne
    ·exact⟨i,M',List.getElem?_set_self hcl,q⟩
   ·exact⟨i,M2,by rw[List.getElem?_set_ne (fun q=>e q.symm)];exact hM2,hy2⟩
theorem vJ {np:Nat} {G:List (List En)} (hl:G.length=np+1) {p d:Int} (hp:0≤p∧p<(np:Int)) (hb:(bb np (gh G) p d).isSome=false) (z:En): ¬gY G z:=by
 rintro⟨i,M,hM,hz⟩
 have h1:=EI hl hp d
 rw[hb] at h1
 have h2:=of_decide_eq_false h1.symm
 have hs:=eD (y:=⟨0,0,0,0,0,0,[]⟩) (jM hM)
 simp only[List.length_nil] at hs
 have:0<M.length:=List.length_pos_of_mem hz
 omega
theorem xK {M:Mc} {n c:Nat} (hc:c<n) (h: ∀x,x<c→M.S x≠0) (h0:M.S c=0):db M n=some c:=by
 have e:Gt.pl M.S true n c=[]:=by
  cases hp:Gt.pl M.S true n c with
  |nil=>rfl
  |cons y l=>
   have:=(ox (S:=M.S) (fr:=true) c (by omega) y).1 (by rw[hp];simp)
   exact absurd (by simpa using this.2) (h y.val this.1)
 have e2:=Gt.ij (S:=M.S) (fr:=true) hc (by simp[h0])
 rw[e] at e2
 obtain⟨t,ht⟩:=Gt.qD M.S true n (c+1) (n-(c+1))
 rw[e2,show c+1+(n-(c+1))=n by omega] at ht
 unfold db
 rw[←ht]
 rfl
end Go.Proofs.YtdbailcdlngemaaGreatDoor
namespace Go.Proofs.YtdbailcdlngemaaGreatDoor
open Go.RowKit Go.Lib Go.Shelf
attribute [local go_sem ↓] Go.wp_at_zero Go.wp_at_succ
theorem CH (g:Pi.Md) (t:Int) (k:Ke.K) (x:Nat):((Pi.fD g t k).2.T[x]?).map (·.u)=(g.T[x]?).map (·.u):=by
 unfold Pi.fD
 split
 ·split
  ·rename_i y hy
   show((g.T.set t.toNat ⟨k,y.u⟩)[x]?).map (·.u)=_
   by_cases e:t.toNat=x
   ·rw[e] at hy⊢
    rw[List.getElem?_set_self (List.getElem?_eq_some_iff.1 hy).1,hy]
    rfl
   ·rw[List.getElem?_set_ne e]
  ·rfl
 ·rfl
theorem AW (n:Nat) (M:Mc) (x:Nat): ∀(l:List Nat) (g:Pi.Md),((l.foldl (fB n M) g).T[x]?).map (·.u)=(g.T[x]?).map (·.u)
 |[],g=>rfl
 |y::l,g=>by rw[List.foldl_cons,AW n M x l];exact CH _ _ _ _
theorem Am (M:Mc) (n x:Nat):((settle M n).gr.T[x]?).map (·.u)=(M.gr.T[x]?).map (·.u):=AW n M x _ _
theorem BQ (g:Pi.Md) (t:Int) (k:Ke.K):(Pi.fD g t k).2.L=g.L:=by
 unfold Pi.fD
 split
 ·split<;>rfl
 ·rfl
theorem ym (n:Nat) (M:Mc): ∀(l:List Nat) (g:Pi.Md),(l.foldl (fB n M) g).L=g.L
 |[],g=>rfl
 |y::l,g=>by rw[List.foldl_cons,ym n M l];exact BQ _ _ _
theorem mS (M:Mc) (n:Nat):(settle M n).gr.L=M.gr.L:=ym n M _ _
section
variable {w wr w':World} {ad:Ad} {P n q T T':Nat} {M M':Mc} {K:Nat→Prop}
end
section
variable {w wr w':World} {ad:Ad} {T:Nat} {M M1:Mc} {K:Nat→Prop} {s:Nat} {p:Pm}
end
end Go.Proofs.YtdbailcdlngemaaGreatDoor
namespace Go.Proofs.YtdbailcdlngemaaGreatDoor
open Go.RowKit Go.Lib Go.Shelf
section
variable {w wr w':World} {ad:Ad} {P n q T:Nat} {M:Mc} {K:Nat→Prop}
theorem pN.below (h:pN w wr ad P n q T M K) (hb:Below wr.heap.size wr w') {K':Nat→Prop} (hk: ∀k,K' k→K k∨(wr.heap.size≤k∧k<w'.heap.size)):pN w w' ad P n q T M K':=by
 obtain⟨⟨lab,hi,h1,h2⟩,hw⟩:=h
 refine⟨⟨lab,hi.below hb,h1,fun k q=> ?_⟩,bt hw hb⟩
 rcases hk k q with r|r
 ·exact⟨(h2 k r).1,Nat.lt_of_lt_of_le (h2 k r).2 hb.size⟩
 ·exact⟨hi.fresh r.1,r.2⟩
end
end Go.Proofs.YtdbailcdlngemaaGreatDoor
namespace Go.Proofs.YtdbailcdlngemaaGreatDoor
open Go.RowKit
def sa (M:Mc) (x:Nat):Prop:= ∃k,gY M.pl (x,k)
def Uo (M:Mc) (x:Nat):Option Int:=(M.gr.T[x]?).map (·.u)
theorem uM {n:Nat} {G:List (List En)} {x:Nat} {k:Ke.K} (y:Nat):(∃k',gY (cU n (gh G) (x:Int) k) (y,k'))↔ ∃k',gY G (y,k'):=by
 unfold cU
 split
 case isFalse=>rw[dt]
 case isTrue=>
  rw[dt]
  generalize Bc n (gh G) (x:Int)=i
  cases hi:G[i]? with
  |none=>rw[List.set_eq_of_length_le (List.getElem?_eq_none_iff.1 hi)]
  |some X=>
   rw[cK (jM hi)]
   have hil:=(List.getElem?_eq_some_iff.1 hi).1
   have hids: ∀y,(∃k',(y,k')∈gj n X (x:Int) k)↔ ∃k',(y,k')∈X:=by
    intro y
    unfold gj
    split
    case isFalse=>exact Iff.rfl
    case isTrue hc=>
     split
     case isTrue=>exact Iff.rfl
     case isFalse=>
      have hk:(keyOf X ((x:Int)).toNat).isSome=true:=by
       unfold jn at hc
       split at hc
       ·cases hc
       ·split at hc
        ·assumption
        ·cases hc
      rw[show((x:Int)).toNat=x by omega] at hk⊢
      have hin: ∃k',(x,k')∈X:=by
       apply Classical.byContradiction
       intro hno
       have:keyOf X x=none:=bz.2 (fun z hz e=>hno ⟨z.2,by rw[←e];exact hz⟩)
       rw[this] at hk
       cases hk
      constructor
      ·rintro⟨k',hk'⟩
       rcases df.1 hk' with q|q
       ·injection q with q1 q2
        rw[q1]
        exact hin
       ·exact⟨k',(gx.1 q).1⟩
      ·rintro⟨k',hk'⟩
       by_cases e:y=x
       ·exact⟨k,df.2 (.inl (by rw[e]))⟩
       ·exact⟨k',df.2 (.inr (gx.2 ⟨hk',e⟩))⟩
   constructor
   ·rintro⟨k',j,Y,hj,hm⟩
    by_cases e:j=i
    ·subst e
     rw[List.getElem?_set_self hil] at hj
     injection hj with hj
     subst hj
     obtain⟨k2,h2⟩:=(hids y).1 ⟨k',hm⟩
     exact⟨k2,_,X,hi,h2⟩
    ·rw[List.getElem?_set_ne (fun q=>e q.symm)] at hj
     exact⟨k',j,Y,hj,hm⟩
   ·rintro⟨k',j,Y,hj,hm⟩
    by_cases e:j=i
    ·subst e
     rw[hi] at hj
     injection hj with hj
     subst hj
     obtain⟨k2,h2⟩:=(hids y).2 ⟨k',hm⟩
     exact⟨k2,_,_,List.getElem?_set_self hil,h2⟩
    ·exact⟨k',j,Y,by rw[List.getElem?_set_ne (fun q=>e q.symm)];exact hj,hm⟩
theorem Bg {n:Nat} {G:List (List En)} {x:Int} {k:Ke.K}:(cU n (gh G) x k).length=G.length:=by
 unfold cU
 split
 ·rw[List.length_set,dt]
 ·rw[dt]
theorem jY (n:Nat) (M:Mc) (g:Pi.Md) (y:Nat): ∀(l:List Nat) (G:List (List En)),((∃k',gY (l.foldl (fN n M g) G) (y,k'))↔ ∃k',gY G (y,k'))∧(l.foldl (fN n M g) G).length=G.length
 |[],G=>⟨Iff.rfl,rfl⟩
 |x::l,G=>by
  obtain⟨h1,h2⟩:=jY n M g y l (fN n M g G x)
  have h3:((∃k',gY (fN n M g G x) (y,k'))↔ ∃k',gY G (y,k'))∧(fN n M g G x).length=G.length:=by
   unfold fN
   split
   ·exact⟨uM y,Bg⟩
   ·exact⟨Iff.rfl,rfl⟩
  rw[List.foldl_cons]
  exact⟨h1.trans h3.1,h2.trans h3.2⟩
theorem tI (g:Pi.Md) (t:Int) (k:Ke.K) (h: ∀y∈g.T,Ke.aB y.k=true): ∀y∈(Pi.fD g t k).2.T,Ke.aB y.k=true:=by
 unfold Pi.fD
 split
 case isFalse=>exact h
 case isTrue hc=>
  split
  case h_2=>exact h
  case h_1 x hx=>
   intro y hy
   rcases List.mem_or_eq_of_mem_set hy with q|q
   ·exact h y q
   ·rw[q]
    simp only[Bool.and_eq_true] at hc
    exact hc.2
theorem zV (g:Pi.Md) (t:Int) (k:Ke.K):(Pi.fD g t k).2.T.length=g.T.length:=by
 unfold Pi.fD
 split
 ·split
  ·exact List.length_set
  ·rfl
 ·rfl
theorem fy (n:Nat) (M:Mc): ∀(l:List Nat) (g:Pi.Md),(∀y∈g.T,Ke.aB y.k=true)→(∀y∈(l.foldl (fB n M) g).T,Ke.aB y.k=true)
 |[],g,h=>h
 |x::l,g,h=>fy n M l _ (tI g _ _ h)
theorem ou (n:Nat) (M:Mc): ∀(l:List Nat) (g:Pi.Md),(l.foldl (fB n M) g).T.length=g.T.length
 |[],g=>rfl
 |x::l,g=>(ou n M l _).trans (zV g _ _)
structure Kd (M R:Mc):Prop where
 qu:R.qu=M.qu
 ag:R.ag=M.ag
 pr:R.pr=M.pr
 pc:R.pc=M.pc
 th:R.th=M.th
 G:R.G=M.G
 S:R.S=M.S
 sv:R.sv=M.sv
 nw:R.nw=M.nw
 wh:R.wh=M.wh
 L:R.gr.L=M.gr.L
 U: ∀x,Uo R x=Uo M x
 tl:R.gr.T.length=M.gr.T.length
 kr:(∀y∈M.gr.T,Ke.aB y.k=true)→ ∀y∈R.gr.T,Ke.aB y.k=true
 ip: ∀x,sa R x↔sa M x
 pl:R.pl.length=M.pl.length
theorem kI (M:Mc) (n:Nat):Kd M (settle M n):=
 ⟨rfl,rfl,rfl,rfl,rfl,rfl,rfl,rfl,rfl,rfl,mS M n,fun x=>Am M n x,ou n M _ _,fun h=>fy n M _ _ h,fun x=>(jY n M _ x _ _).1,(jY n M _ 0 _ _).2⟩
theorem wq {k k':Ke.K} (h:Ke.aB k=true) (h':Ke.aB k'=true):Ke.aB (Ke.dO k k')=true:=by
 unfold Ke.dO
 split<;>assumption
theorem r5 {T:List Pi.Th} {L:List Pi.Lk} (h: ∀x∈T,Ke.aB x.k=true): ∀m t,Ke.aB (Pi.kf T L m t)=true
 |m,t=>by
  have h0:Ke.aB (Pi.gO T t)=true:=by
   unfold Pi.gO
   cases e:T[t]? with
   |none=>rfl
   |some x=>exact h x (List.mem_of_getElem? e)
  cases m with
  |zero=>exact h0
  |succ m=>
   unfold Pi.kf
   have: ∀(l:List Nat) (k:Ke.K),Ke.aB k=true→Ke.aB (l.foldl (fun k x=>Ke.dO k (Pi.kf T L m x)) k)=true:=fun l=>by
    induction l with
    |nil=>exact fun k hk=>hk
    |cons x l ih=>exact fun k hk=>ih _ (wq hk (r5 h m x))
   exact this _ _ h0
theorem ji {T:List Pi.Th} {L:List Pi.Lk} (h: ∀x∈T,Ke.aB x.k=true) (t:Int):Ke.aB (Pi.di T L t)=true:=by
 unfold Pi.di
 split
 ·unfold Pi.keyOf
  split
  ·exact r5 h _ _
  ·rfl
 ·rfl
structure Ii (n:Nat) (M R:Mc) (x:Nat):Prop where
 qu:R.qu=M.qu
 ag:R.ag=M.ag
 pr:R.pr=M.pr
 pc:R.pc=M.pc
 th:R.th=Gt.ax M.th x {M.th x with sn:=M.nw,lf:=0}
 G:R.G=M.G
 S:R.S=Gt.ax M.S x 1
 sv:R.sv=if M.S x=2 then M.sv else Cb.ki M.sv (M.th x).sv M.nw
 nw:R.nw=M.nw
 wh:R.wh=M.wh
 L:R.gr.L=M.gr.L
 U: ∀y,Uo R y=Uo M y
 tl:R.gr.T.length=M.gr.T.length
 kr: ∀y∈R.gr.T,Ke.aB y.k=true
 ip: ∀y,sa R y↔y=x∨sa M y
 pl:R.pl.length=M.pl.length
theorem wj {s:Nat} (h:s=2∨s=3∨s=4):Gt.mu s 1=true:=by rcases h with rfl|rfl|rfl<;>rfl
theorem og {P n q:Nat} {M:Mc} {x p:Nat} (hx:x<n) (hp:p<P) (hpl:M.pl.length=P+1) (hkr: ∀y∈M.gr.T,Ke.aB y.k=true) (hS:M.S x=1∨M.S x=2∨M.S x=3∨M.S x=4) (htp:(M.th x).p=(x:Int)) (htg:(M.th x).g=M.G x) (hno: ¬sa M x):Ii n M (ready P n q M x (p:Int)) x:=by
 have hs0:M.S x≠0:=by omega
 have hst:dU M n (M.th x)=M.S x:=uJ hx htp htg hs0
 have hmv:dR n M.G M.S (M.th x).p (M.th x).g 1=Gt.ax M.S x 1:=by
  rw[htp,htg]
  rcases hS with h|h
  ·rw[A7 (by rw[h];rfl)]
   funext j
   by_cases e:j=x
   ·rw[e,Gt.aj,h]
   ·rw[Gt.ai _ _ _ _ e]
  ·exact wA hx hs0 (wj h)
 have h1:cB n M x={M with S:=Gt.ax M.S x 1,th:=Gt.ax M.th x {M.th x with sn:=M.nw,lf:=0}}:=by unfold cB;rw[hmv]
 have h2:bU n M x={M with S:=Gt.ax M.S x 1,th:=Gt.ax M.th x {M.th x with sn:=M.nw,lf:=0},sv:=if M.S x=2 then M.sv else Cb.ki M.sv (M.th x).sv M.nw}:=by
  unfold bU
  rw[hst,h1]
  split<;>rfl
 have k:=kI (bU n M x) n
 rw[h2] at k
 have hR3:cf n M x=settle {M with S:=Gt.ax M.S x 1,th:=Gt.ax M.th x {M.th x with sn:=M.nw,lf:=0},sv:=if M.S x=2 then M.sv else Cb.ki M.sv (M.th x).sv M.nw} n:=by unfold cf;rw[h2]
 unfold ready
 rw[hR3]
 generalize settle {M with S:=Gt.ax M.S x 1,th:=Gt.ax M.th x {M.th x with sn:=M.nw,lf:=0},sv:=if M.S x=2 then M.sv else Cb.ki M.sv (M.th x).sv M.nw} n=R3 at*
 have hkr3:=k.kr hkr
 refine⟨k.qu,k.ag,k.pr,k.pc,k.th,k.G,k.S,k.sv,k.nw,k.wh,k.L,k.U,k.tl,hkr3,fun y=> ?_,(zW _ _ _).trans k.pl⟩
 have hno3: ∀z,gY R3.pl z→z.1≠x:=fun z hz e=>hno ((k.ip x).1 ⟨z.2,by rw[←e];exact hz⟩)
 have hpi:=Dq (q:=q) (np:=P) (n:=n) (k.pl.trans hpl) hp hx (ji (L:=R3.gr.L) hkr3 (x:Int)) hno3
 constructor
 ·rintro⟨k',hk'⟩
  rcases(hpi (y,k')).1 hk' with q|q
  ·injection q with q1 q2
   exact .inl q1
  ·exact .inr ((k.ip y).1 ⟨k',q⟩)
 ·rintro(rfl|q)
  ·exact⟨_,(hpi _).2 (.inl rfl)⟩
  ·obtain⟨k',hk'⟩:=(k.ip y).2 q
   exact⟨k',(hpi _).2 (.inr hk')⟩
structure Io (P:Nat) (M:Mc) (x:Nat):Prop where
 p:(M.th x).p=(x:Int)
 g:(M.th x).g=M.G x
 pg: ∃k:Nat,k<M.pr.length∧(M.th x).pg=(k:Int)
 pc: ∃p:Nat,p<P∧(M.th x).pc=(p:Int)
structure Iv (P n B:Nat) (D:List Nat) (M:Mc):Prop where
 tl:M.gr.T.length=n
 pl:M.pl.length=P+1
 kr: ∀y∈M.gr.T,Ke.aB y.k=true
 qu:1≤M.qu
 sl: ∀p,p<P→(M.pc p).s<M.qu
 r1: ∀p,p<P→(M.pc p).r= -1∨ ∃x:Nat,x<n∧(M.pc p).r=(x:Int)∧M.S x=2
 r2: ∀x,x<n→M.S x=2→ ∃p,p<P∧(M.pc p).r=(x:Int)
 r3: ∀p p',p<P→p'<P→(M.pc p).r=(M.pc p').r→(M.pc p).r≠ -1→p=p'
 th: ∀x,x<n→M.S x≠0→Io P M x
 st: ∀x,x<n→M.S x≤4
 rd: ∀x,sa M x↔x<n∧M.S x=1
 bl: ∀x,x<n→(M.S x=3↔Uo M x≠some (-1))
 sp: ∀x,x<n→(M.S x=4↔(∃it∈M.wh,it.i=x)∨x∈D)
 wl: ∀it∈M.wh,it.i<n
 wt: ∀(m:Nat) y,M.gr.L[m]? =some y→ ∀t∈y.l,t<n∧Uo M t=some (m:Int)
 nd: ∀y∈M.gr.L,y.l.Nodup
 l32:M.gr.L.length≤32
 gb: ∀x,x<n→M.G x≤B
section
variable {P n q B:Nat} {D:List Nat} {M R:Mc}
theorem Iv.kd (h:Iv P n B D M) (k:Kd M R):Iv P n B D R:=
 ⟨k.tl.trans h.tl,k.pl.trans h.pl,k.kr h.kr,by rw[k.qu];exact h.qu,by rw[k.pc,k.qu];exact h.sl,by rw[k.pc,k.S];exact h.r1,by rw[k.pc,k.S];exact h.r2,by rw[k.pc];exact h.r3,
  fun x hx hs=>(by rw[k.S] at hs;have t:=h.th x hx hs;exact⟨by rw[k.th];exact t.p,by rw[k.th,k.G];exact t.g,by rw[k.th,k.pr];exact t.pg,by rw[k.th];exact t.pc⟩),by rw[k.S];exact h.st,
  fun x=>by rw[k.ip,k.S];exact h.rd x,fun x hx=>by rw[k.S,k.U];exact h.bl x hx,by rw[k.S,k.wh];exact h.sp,by rw[k.wh];exact h.wl,
  fun m y hy t ht=>by rw[k.L] at hy;rw[k.U];exact h.wt m y hy t ht,by rw[k.L];exact h.nd,by rw[k.L];exact h.l32,by rw[k.G];exact h.gb⟩
theorem Iv.settle (h:Iv P n B D M):Iv P n B D (Go.Proofs.YtdbailcdlngemaaGreatDoor.settle M n):=h.kd (kI M n)
theorem Iv.more (h:Iv P n B D M) {B':Nat} (hb:B≤B'):Iv P n B' D M:=⟨h.tl,h.pl,h.kr,h.qu,h.sl,h.r1,h.r2,h.r3,h.th,h.st,h.rd,h.bl,h.sp,h.wl,h.wt,h.nd,h.l32,fun x hx=>Nat.le_trans (h.gb x hx) hb⟩
theorem Iv.Iz (h:Iv P n B D M) {N:Mc} {x:Nat} {D':List Nat} (hx:x<n) (hN:Ii n N R x)
  (e1:N.qu=M.qu) (e2:N.pr=M.pr) (e3:N.pc=M.pc) (e5: ∀y,y<n→y≠x→N.S y=M.S y∧N.G y=M.G y∧N.th y=M.th y) (htx:Io P N x) (hns:M.S x≠2) (hgx:N.G x≤B)
  (htl:N.gr.T.length=n) (hpl:N.pl.length=P+1) (hrd: ∀y,y≠x→(sa N y↔sa M y)) (hU: ∀y,y<n→y≠x→Uo N y=Uo M y) (hUx:Uo N x=some (-1))
  (hwh:N.wh=M.wh) (hwx: ¬ ∃it∈M.wh,it.i=x) (hD: ∀y,y∈D'↔y∈D∧y≠x) (hwt: ∀(m:Nat) y,N.gr.L[m]? =some y→ ∀t∈y.l,t<n∧Uo N t=some (m:Int)) (hnd: ∀y∈N.gr.L,y.l.Nodup) (hl:N.gr.L.length≤32):Iv P n B D' R:=by
 have es: ∀y,y<n→y≠x→R.S y=M.S y:=fun y hy e=>by rw[hN.S,Gt.ai _ _ _ _ e];exact(e5 y hy e).1
 have ex:R.S x=1:=by rw[hN.S,Gt.aj]
 have epc:R.pc=M.pc:=hN.pc.trans e3
 refine⟨hN.tl.trans htl,hN.pl.trans hpl,hN.kr,by rw[hN.qu,e1];exact h.qu,by rw[epc,hN.qu,e1];exact h.sl,fun p hp=> ?_,fun y hy hy2=> ?_,by rw[epc];exact h.r3,fun y hy hs=> ?_,fun y hy=> ?_,fun y=> ?_,fun y hy=> ?_,fun y hy=> ?_,by rw[hN.wh,hwh];exact h.wl,
  fun m y hy t ht=>by rw[hN.L] at hy;rw[hN.U];exact hwt m y hy t ht,by rw[hN.L];exact hnd,by rw[hN.L];exact hl,fun y hy=> ?_⟩
 ·rw[epc]
  rcases h.r1 p hp with q|⟨y,q1,q2,q3⟩
  ·exact .inl q
  ·exact .inr ⟨y,q1,q2,by rw[es y q1 (fun e=>hns (by rw[←e];exact q3))];exact q3⟩
 ·rw[epc]
  by_cases e:y=x
  ·rw[e,ex] at hy2;cases hy2
  ·rw[es y hy e] at hy2;exact h.r2 y hy hy2
 ·by_cases e:y=x
  ·subst e
   exact⟨by rw[hN.th,Gt.aj];exact htx.p,by rw[hN.th,Gt.aj,hN.G];exact htx.g,by rw[hN.th,Gt.aj,hN.pr];exact htx.pg,by rw[hN.th,Gt.aj];exact htx.pc⟩
  ·rw[es y hy e] at hs
   have t0:=h.th y hy hs
   obtain⟨_,g2,g3⟩:=e5 y hy e
   exact⟨by rw[hN.th,Gt.ai _ _ _ _ e,g3];exact t0.p,by rw[hN.th,Gt.ai _ _ _ _ e,hN.G,g3,g2];exact t0.g,by rw[hN.th,Gt.ai _ _ _ _ e,hN.pr,g3,e2];exact t0.pg,by rw[hN.th,Gt.ai _ _ _ _ e,g3];exact t0.pc⟩
 ·by_cases e:y=x
  ·rw[e,ex];omega
  ·rw[es y hy e];exact h.st y hy
 ·rw[hN.ip]
  by_cases e:y=x
  ·subst e
   exact⟨fun _=>⟨hx,ex⟩,fun _=> .inl rfl⟩
  ·rw[hrd y e,h.rd]
   constructor
   ·rintro(q|⟨q1,q2⟩)
    ·exact absurd q e
    ·exact⟨q1,by rw[es y q1 e];exact q2⟩
   ·rintro⟨q1,q2⟩
    rw[es y q1 e] at q2
    exact .inr ⟨q1,q2⟩
 ·by_cases e:y=x
  ·subst e
   rw[ex,hN.U,hUx]
   constructor
   ·intro q;cases q
   ·intro q;exact absurd rfl q
  ·rw[es y hy e,hN.U,hU y hy e];exact h.bl y hy
 ·rw[hN.wh,hwh,hD]
  by_cases e:y=x
  ·subst e
   rw[ex]
   constructor
   ·intro q;cases q
   ·rintro(q|⟨_,q⟩)
    ·exact absurd q hwx
    ·exact absurd rfl q
  ·rw[es y hy e,h.sp y hy]
   constructor
   ·rintro(q|q)
    ·exact .inl q
    ·exact .inr ⟨q,e⟩
   ·rintro(q|⟨q,_⟩)
    ·exact .inl q
    ·exact .inr q
 ·rw[hN.G]
  by_cases e:y=x
  ·rw[e];exact hgx
  ·rw[(e5 y hy e).2.1];exact h.gb y hy
end
section
variable {P n q B:Nat} {D:List Nat} {M R:Mc}
theorem Iv.Iu (h:Iv P n B D M) {x:Nat} (hx:x<n) (hs:M.S x≠3):Uo M x=some (-1):=by
 apply Classical.byContradiction
 intro q
 exact hs ((h.bl x hx).2 q)
theorem Iv.H6 (h:Iv P n B D M) {x:Nat} (hs:M.S x≠1): ¬sa M x:=fun q=>hs ((h.rd x).1 q).2
theorem Iv.Iy (h:Iv P n B D M) {x:Nat} (hx:x<n) (hs:M.S x≠4):(¬ ∃it∈M.wh,it.i=x)∧x ∉ D:=⟨fun q=>hs ((h.sp x hx).2 (.inl q)),fun q=>hs ((h.sp x hx).2 (.inr q))⟩
end
section
variable {P n q B:Nat} {D:List Nat} {M R:Mc}
theorem free_spec {M:Mc} {n y:Nat} (h:db M n=some y):y<n∧M.S y=0:=by
 refine⟨oJ h,?_⟩
 unfold db at h
 cases hl:(Gt.pl M.S true n n).head? with
 |none=>rw[hl] at h;cases h
 |some z=>
  rw[hl] at h
  injection h with h
  have:=(ox n (Nat.le_refl _) z).1 (List.mem_of_mem_head? hl)
  rw[←h]
  simpa using this.2
theorem Iv.yl (h:Iv P n B D M) {y p:Nat} (hp:p<P) (hf:db M n=some y) (pg:Int) (lv:Nat) (sv:Int) (hpg:je M pg=true):Iv P n (B+1) D (fH P n q M y (p:Int) (dJ pg lv sv)):=by
 obtain⟨hy,hy0⟩:=free_spec hf
 unfold je at hpg
 simp only[Bool.and_eq_true,decide_eq_true_eq] at hpg
 obtain⟨k,rfl⟩:=Int.eq_ofNat_of_zero_le hpg.1
 have hk:k<M.pr.length:=by have:=hpg.2;omega
 have hB:=h.more (Nat.le_succ B)
 have hnw:=h.Iy hy (by omega)
 have hni:=h.H6 (x:=y) (by omega)
 have hu:=h.Iu hy (by omega)
 unfold fH
 have hS:({dy M y with th:=Gt.ax M.th y {dJ (k:Int) lv sv with p:=(y:Int),g:=M.G y+1}}:Mc).S y=1:=by show Gt.ax M.S y 1 y=1;rw[Gt.aj]
 have htp:(({dy M y with th:=Gt.ax M.th y {dJ (k:Int) lv sv with p:=(y:Int),g:=M.G y+1}}:Mc).th y)={dJ (k:Int) lv sv with p:=(y:Int),g:=M.G y+1}:=by show Gt.ax M.th y _ y=_;rw[Gt.aj]
 have hGy:({dy M y with th:=Gt.ax M.th y {dJ (k:Int) lv sv with p:=(y:Int),g:=M.G y+1}}:Mc).G y=M.G y+1:=by show Gt.ax M.G y _ y=_;rw[Gt.aj]
 have kk:=og (P:=P) (n:=n) (q:=q) (M:={dy M y with th:=Gt.ax M.th y {dJ (k:Int) lv sv with p:=(y:Int),g:=M.G y+1}}) hy hp h.pl h.kr (.inl hS) (by rw[htp]) (by rw[htp,hGy]) hni
 refine hB.Iz hy kk rfl rfl rfl (fun v hv e=>⟨?_,?_,?_⟩) ⟨by rw[htp],by rw[htp,hGy],⟨k,hk,by rw[htp];rfl⟩,⟨0,by omega,by rw[htp];rfl⟩⟩ (by omega) (by rw[hGy];have:=h.gb y hy;omega) h.tl h.pl (fun _ _=>Iff.rfl) (fun _ _ _=>rfl) hu rfl hnw.1 (fun x=>⟨fun q=>⟨q,fun e=>hnw.2 (e▸q)⟩,fun q=>q.1⟩) h.wt h.nd h.l32
 ·show Gt.ax M.S y 1 v=_;rw[Gt.ai _ _ _ _ e]
 ·show Gt.ax M.G y _ v=_;rw[Gt.ai _ _ _ _ e]
 ·show Gt.ax M.th y _ v=_;rw[Gt.ai _ _ _ _ e]
end
section
variable {P n q B:Nat} {D:List Nat} {M R:Mc}
theorem Iv.start (h:Iv P n B D M) (hP:1≤P) {x:Nat} (hf:db M n=some x) (pg:Int) (lv:Nat) (sv:Int) (hno:jX M pg sv=false):Iv P n (B+1) D (gB P n q M x pg lv sv):=by
 unfold gB
 have hpg:je M pg=true:=by
  unfold jX at hno
  cases hc:je M pg with
  |true=>rfl
  |false=>rw[hc] at hno;simp at hno
 exact(h.yl (p:=0) (by omega) hf pg lv sv hpg).settle
theorem Iv.load (h:Iv P n B D M) (p:Pm):Iv P n B D {M with pr:=M.pr++[p]}:=by
 refine⟨h.tl,h.pl,h.kr,h.qu,h.sl,h.r1,h.r2,h.r3,fun y hy hs=> ?_,h.st,h.rd,h.bl,h.sp,h.wl,h.wt,h.nd,h.l32,h.gb⟩
 have t:=h.th y hy hs
 obtain⟨k,hk,e⟩:=t.pg
 exact⟨t.p,t.g,⟨k,by show k<(M.pr++[p]).length;rw[List.length_append];omega,e⟩,t.pc⟩
theorem Iv.new (P n m qu ag:Nat) (hm:m≤32) (hq:1≤qu):Iv P n 0 [] (dP P n m qu ag):=by
 have hL: ∀(j:Nat) y,(dP P n m qu ag).gr.L[j]? =some y→y.l=[]:=fun j y hy=>by
  have:=List.mem_of_getElem? hy
  have:y∈List.replicate m (⟨-1,[]⟩:Pi.Lk):=this
  rw[List.eq_of_mem_replicate this]
 refine⟨List.length_replicate,List.length_replicate,fun y hy=> ?_,hq,fun p _=>hq,fun p _=> .inl rfl,fun x _ h=>(by cases h),fun p p' _ _ _ hne=>absurd rfl hne,fun x _ h=>absurd rfl h,fun x _=>Nat.zero_le _,fun x=> ?_,fun x hx=> ?_,fun x hx=> ?_,fun it hit=>(by cases hit),fun j y hy t ht=> ?_,fun y hy=> ?_,by show(List.replicate m _).length≤32;rw[List.length_replicate];exact hm,fun x _=>Nat.le_refl _⟩
 ·have:y∈List.replicate n (⟨Ke.br 0,-1⟩:Pi.Th):=hy
  rw[List.eq_of_mem_replicate this]
  rfl
 ·constructor
  ·rintro⟨k,i,X,hX,hm⟩
   have:X∈List.replicate (P+1) ([]:List En):=List.mem_of_getElem? hX
   rw[List.eq_of_mem_replicate this] at hm
   cases hm
  ·rintro⟨_,h⟩
   cases h
 ·have e:Uo (dP P n m qu ag) x=some (-1):=by
   show((List.replicate n (⟨Ke.br 0,-1⟩:Pi.Th))[x]?).map (·.u)=_
   rw[List.getElem?_replicate,if_pos hx]
   rfl
  rw[e]
  constructor
  ·intro q;cases q
  ·intro q;exact absurd rfl q
 ·constructor
  ·intro q;cases q
  ·rintro(⟨it,hit,_⟩|q)
   ·cases hit
   ·cases q
 ·rw[hL j y hy] at ht
  cases ht
 ·obtain⟨j,hj⟩:=List.getElem?_of_mem hy
  rw[hL j y hj]
  exact List.nodup_nil
end
end Go.Proofs.YtdbailcdlngemaaGreatDoor
namespace Go.Proofs.YtdbailcdlngemaaGreatDoor
open Go.RowKit Go.Lib Go.Shelf
attribute [local go_sem ↓] Go.wp_at_zero Go.wp_at_succ
theorem AN (P n q:Nat) (M:Mc) (x:Nat) (pg:Int) (lv:Nat) (sv:Int):(gB P n q M x pg lv sv).gr.L=M.gr.L:=by
 unfold gB
 rw[mS]
 show(cf n _ x).gr.L=_
 unfold cf
 rw[mS]
 unfold bU cB dy
 split<;>rfl
section
variable {w wr w':World} {ad:Ad} {P n q T T' B:Nat} {M M':Mc} {K:Nat→Prop}
end
end Go.Proofs.YtdbailcdlngemaaGreatDoor
namespace Go.Proofs.YtdbailcdlngemaaGreatDoor
open Go.RowKit
def Uq (G:List (List En)):Prop:= ∀(i j:Nat) (X Y:List En) (y z:En),G[i]? =some X→G[j]? =some Y→y∈X→z∈Y→y.1=z.1→i=j∧y=z
section
variable {n:Nat} {G:List (List En)} {x:Nat} {k:Ke.K}
theorem rV {X:List En} {id:Nat} (h:(keyOf X id).isSome=true): ∃k',(id,k')∈X:=by
 apply Classical.byContradiction
 intro hno
 have:keyOf X id=none:=bz.2 (fun z hz e=>hno ⟨z.2,by rw[←e];exact hz⟩)
 rw[this] at h
 cases h
theorem Uq.un (hu:Uq G):Un (gh G):=by
 intro i j X Y id hX hY h1 h2
 obtain⟨k1,q1⟩:=rV h1
 obtain⟨k2,q2⟩:=rV h2
 exact(hu i j X.M Y.M (id,k1) (id,k2) (jc hX) (jc hY) q1 q2 rfl).1
theorem vA (hx:x<n) (hr:Ke.aB k=true) (hu:Uq G):(cU n (gh G) (x:Int) k=G∧ ¬ ∃k',gY G (x,k'))∨ ∃(i:Nat) (X Y:List En),G[i]? =some X∧(∃k',(x,k')∈X)∧cU n (gh G) (x:Int) k=G.set i Y∧ ∀z,z∈Y↔(z∈X∧z.1≠x)∨z=(x,k):=by
 have hnb: ¬kQ n (x:Int) k:=by unfold kQ;rintro(q|q|q);omega;omega;rw[hr] at q;cases q
 by_cases hE: ∃k',gY G (x,k')
 ·right
  obtain⟨k',i,X,hX,hm⟩:=hE
  have hks:(keyOf X x).isSome=true:=by
   cases e:keyOf X x with
   |some _=>rfl
   |none=>exact absurd rfl (bz.1 e _ hm)
  have hw:=iq n (gh G) hu.un i _ (jM hX) x hx hks
  have hc:eO n (gh G) (x:Int) k=0:=by unfold eO;rw[if_neg hnb,hw];rfl
  have ha:Bc n (gh G) (x:Int)=i:=by unfold Bc;rw[hw];simp
  refine⟨i,X,gj n X (x:Int) k,hX,⟨k',hm⟩,?_,fun z=> ?_⟩
  ·unfold cU
   rw[if_pos hc,dt,ha,cK (jM hX)]
  ·have hcc:jn n X (x:Int) k=0:=by unfold jn;rw[if_neg hnb,show((x:Int)).toNat=x from rfl,if_pos hks]
   unfold gj
   rw[if_pos hcc,show((x:Int)).toNat=x from rfl]
   split
   case isTrue hk=>
    have hin:(x,k)∈X:=by
     unfold keyOf at hk
     cases hf:X.find? (fun y=>y.1==x) with
     |none=>rw[hf] at hk;cases hk
     |some y=>
      have hy:=List.mem_of_find?_eq_some hf
      have hx1:y.1=x:=by have:=List.find?_some hf;simpa using this
      rw[hf] at hk
      have hk2:y.2=k:=by injection hk
      rw[←hx1,←hk2]
      exact hy
    constructor
    ·intro hz
     by_cases e:z.1=x
     ·exact .inr (hu i i X X z (x,k) hX hX hz hin e).2
     ·exact .inl ⟨hz,e⟩
    ·rintro(⟨hz,_⟩|rfl)
     ·exact hz
     ·exact hin
   case isFalse=>
    rw[df,gx]
    exact⟨fun q=>q.elim .inr .inl,fun q=>q.elim .inr .inl⟩
 ·left
  refine⟨?_,hE⟩
  have hw:aP n (gh G) 0 (x:Int)=none:=eu n _ (gh G) 0 (fun i X hX _=>bz.2 (fun y hy e=>hE ⟨y.2,i,X.M,jc hX,by have e':y.1=x:=e;rw[←e'];exact hy⟩))
  have hc: ¬eO n (gh G) (x:Int) k=0:=by unfold eO;rw[if_neg hnb,hw];simp
  unfold cU
  rw[if_neg hc,dt]
theorem Cc (hx:x<n) (hr:Ke.aB k=true) (hu:Uq G) (z:En):gY (cU n (gh G) (x:Int) k) z↔(gY G z∧z.1≠x)∨(z=(x,k)∧ ∃k',gY G (x,k')):=by
 rcases vA hx hr hu with ⟨e,hE⟩|⟨i,X,Y,hX,hin,e,hY⟩
 ·rw[e]
  constructor
  ·intro h
   exact .inl ⟨h,fun q=>hE ⟨z.2,by rw[←q];exact h⟩⟩
  ·rintro(h|⟨_,h⟩)
   ·exact h.1
   ·exact absurd h hE
 ·rw[e]
  have hil:=(List.getElem?_eq_some_iff.1 hX).1
  obtain⟨k0,hk0⟩:=hin
  constructor
  ·rintro⟨j,Z,hZ,hz⟩
   by_cases ej:j=i
   ·subst ej
    rw[List.getElem?_set_self hil] at hZ
    injection hZ with hZ
    subst hZ
    rcases(hY z).1 hz with q|q
    ·exact .inl ⟨⟨j,X,hX,q.1⟩,q.2⟩
    ·exact .inr ⟨q,k0,j,X,hX,hk0⟩
   ·rw[List.getElem?_set_ne (fun q=>ej q.symm)] at hZ
    exact .inl ⟨⟨j,Z,hZ,hz⟩,fun q=>ej (hu j i Z X z (x,k0) hZ hX hz hk0 q).1⟩
  ·rintro(⟨⟨j,Z,hZ,hz⟩,hne⟩|⟨rfl,_⟩)
   ·by_cases ej:j=i
    ·subst ej
     rw[hX] at hZ
     injection hZ with hZ
     subst hZ
     exact⟨j,Y,List.getElem?_set_self hil,(hY z).2 (.inl ⟨hz,hne⟩)⟩
    ·exact⟨j,Z,by rw[List.getElem?_set_ne (fun q=>ej q.symm)];exact hZ,hz⟩
   ·exact⟨i,Y,List.getElem?_set_self hil,(hY _).2 (.inr rfl)⟩
theorem Uq.IB (hu:Uq G) (hx:x<n) (hr:Ke.aB k=true):Uq (cU n (gh G) (x:Int) k):=by
 rcases vA hx hr hu with ⟨e,hE⟩|⟨i,X,Y,hX,hin,e,hY⟩
 ·rw[e];exact hu
 ·rw[e]
  have hil:=(List.getElem?_eq_some_iff.1 hX).1
  obtain⟨k0,hk0⟩:=hin
  have back: ∀(j:Nat) (Z:List En) (z:En),(G.set i Y)[j]? =some Z→z∈Z→(∃Z',G[j]? =some Z'∧z∈Z'∧z.1≠x)∨(j=i∧z=(x,k)):=fun j Z z hZ hz=>by
   by_cases ej:j=i
   ·subst ej
    rw[List.getElem?_set_self hil] at hZ
    injection hZ with hZ
    subst hZ
    rcases(hY z).1 hz with q|q
    ·exact .inl ⟨X,hX,q.1,q.2⟩
    ·exact .inr ⟨rfl,q⟩
   ·rw[List.getElem?_set_ne (fun q=>ej q.symm)] at hZ
    exact .inl ⟨Z,hZ,hz,fun q=>ej (hu j i Z X z (x,k0) hZ hX hz hk0 q).1⟩
  intro a b A B y z hA hB hy hz e1
  rcases back a A y hA hy with ⟨A',h1,h2,h3⟩|⟨h1,h2⟩
  ·rcases back b B z hB hz with ⟨B',g1,g2,g3⟩|⟨g1,g2⟩
   ·exact hu a b A' B' y z h1 g1 h2 g2 e1
   ·rw[g2] at e1;exact absurd e1 h3
  ·rcases back b B z hB hz with ⟨B',g1,g2,g3⟩|⟨g1,g2⟩
   ·rw[h2] at e1;exact absurd e1.symm g3
   ·exact⟨by rw[h1,g1],by rw[h2,g2]⟩
theorem iM (M:Mc) (g:Pi.Md) (hk: ∀t:Int,Ke.aB (Pi.di g.T g.L t)=true): ∀(l:List Nat) (G:List (List En)),(∀x∈l,x<n)→l.Nodup→Uq G→Uq (l.foldl (fN n M g) G)∧ ∀z:En,gY (l.foldl (fN n M g) G) z↔(gY G z∧ ¬(z.1∈l∧dU M n (M.th z.1)=1))∨((z.1∈l∧dU M n (M.th z.1)=1)∧z.2=Pi.di g.T g.L (z.1:Int)∧ ∃k',gY G (z.1,k'))
 |[],G,_,_,hu=>⟨hu,fun z=>⟨fun h=> .inl ⟨h,fun q=>by cases q.1⟩,fun h=>h.elim (fun q=>q.1) (fun q=>by cases q.1.1)⟩⟩
 |x::l,G,hl,hn,hu=>by
  obtain⟨hxl,hnl⟩:=List.nodup_cons.1 hn
  have hx:=hl x (by simp)
  have hl': ∀y∈l,y<n:=fun y hy=>hl y (List.mem_cons_of_mem _ hy)
  rw[List.foldl_cons]
  by_cases hs:dU M n (M.th x)=1
  ·have e:fN n M g G x=cU n (gh G) (x:Int) (Pi.di g.T g.L (x:Int)):=by unfold fN;rw[if_pos hs]
   obtain⟨h1,h2⟩:=iM M g hk l (fN n M g G x) hl' hnl (by rw[e];exact hu.IB hx (hk _))
   refine⟨h1,fun z=>(h2 z).trans ?_⟩
   rw[e]
   have hc:=fun z=>Cc hx (hk (x:Int)) hu z
   have hid: ∀y,(∃k',gY (cU n (gh G) (x:Int) (Pi.di g.T g.L (x:Int))) (y,k'))↔ ∃k',gY G (y,k'):=fun y=>uM y
   by_cases ex:z.1=x
   ·have nl: ¬z.1∈l:=by rw[ex];exact hxl
    constructor
    ·rintro(⟨q,_⟩|⟨q,_⟩)
     ·rcases(hc z).1 q with ⟨_,q2⟩|⟨q1,q2⟩
      ·exact absurd ex q2
      ·exact .inr ⟨⟨by rw[ex];simp,by rw[ex];exact hs⟩,by rw[q1],by rw[ex];exact q2⟩
     ·exact absurd q.1 nl
    ·rintro(⟨_,q⟩|⟨q,q1,q2⟩)
     ·exact absurd ⟨by rw[ex];simp,by rw[ex];exact hs⟩ q
     ·refine .inl ⟨(hc z).2 (.inr ⟨?_,by rw[ex] at q2;exact q2⟩),fun q=>nl q.1⟩
      rw[←ex,←q1]
   ·have hz:gY (cU n (gh G) (x:Int) (Pi.di g.T g.L (x:Int))) z↔gY G z:=by
     rw[hc z]
     constructor
     ·rintro(q|⟨q,_⟩)
      ·exact q.1
      ·rw[q] at ex;exact absurd rfl ex
     ·intro q;exact .inl ⟨q,ex⟩
    rw[hz,hid z.1]
    have:z.1∈x::l↔z.1∈l:=by rw[List.mem_cons];exact⟨fun q=>q.resolve_left ex,.inr⟩
    rw[this]
  ·have e:fN n M g G x=G:=by unfold fN;rw[if_neg hs]
   rw[e]
   obtain⟨h1,h2⟩:=iM M g hk l G hl' hnl hu
   refine⟨h1,fun z=>(h2 z).trans ?_⟩
   have:(z.1∈x::l∧dU M n (M.th z.1)=1)↔(z.1∈l∧dU M n (M.th z.1)=1):=by
    rw[List.mem_cons]
    constructor
    ·rintro⟨q|q,q2⟩
     ·rw[q] at q2;exact absurd q2 hs
     ·exact⟨q,q2⟩
    ·rintro⟨q,q2⟩;exact⟨.inr q,q2⟩
   rw[this]
theorem tf {M:Mc} (hu:Uq M.pl) (hkr: ∀y∈M.gr.T,Ke.aB y.k=true) (hnd:(ck M n).Nodup) (hr: ∀x,sa M x→x<n∧M.S x≠0∧dU M n (M.th x)=1):
  Uq (settle M n).pl∧ ∀z:En,gY (settle M n).pl z↔sa M z.1∧z.2=Pi.di (settle M n).gr.T (settle M n).gr.L (z.1:Int):=by
 have hk: ∀t:Int,Ke.aB (Pi.di (ik M n).T (ik M n).L t)=true:=fun t=>ji (fy n M _ _ hkr) t
 obtain⟨h1,h2⟩:=iM (n:=n) M (ik M n) hk (ck M n) M.pl (fun x hx=>(fW.1 hx).1) hnd hu
 refine⟨h1,fun z=>(h2 z).trans ?_⟩
 constructor
 ·rintro(⟨q1,q2⟩|⟨_,q2,q3⟩)
  ·obtain⟨a,b,c⟩:=hr z.1 ⟨z.2,q1⟩
   exact absurd ⟨fW.2 ⟨a,b⟩,c⟩ q2
  ·exact⟨q3,q2⟩
 ·rintro⟨q1,q2⟩
  obtain⟨a,b,c⟩:=hr z.1 q1
  exact .inr ⟨⟨fW.2 ⟨a,b⟩,c⟩,q2,q1⟩
end
section
variable {P n q B:Nat} {D:List Nat} {G:List (List En)} {M:Mc}
theorem Uq.put (hu:Uq G) (p:Int) {id:Nat} {k:Ke.K} (hno: ∀z,gY G z→z.1≠id):Uq (eM P n q (gh G) p (id:Int) k):=by
 unfold eM
 split
 case isFalse=>rw[dt];exact hu
 case isTrue=>
  rw[dt]
  generalize jz P n q (gh G) p.toNat=i
  cases hi:G[i]? with
  |none=>rw[List.set_eq_of_length_le (List.getElem?_eq_none_iff.1 hi)];exact hu
  |some X=>
   rw[cK (jM hi),show((id:Int)).toNat=id from rfl]
   have hil:=(List.getElem?_eq_some_iff.1 hi).1
   have back: ∀(j:Nat) (Z:List En) (z:En),(G.set i (Go.Proofs.YtdbailcdlngemaaGreatDoor.put (id,k) X))[j]? =some Z→z∈Z→(∃Z',G[j]? =some Z'∧z∈Z')∨(j=i∧z=(id,k)):=fun j Z z hZ hz=>by
    by_cases ej:j=i
    ·subst ej
     rw[List.getElem?_set_self hil] at hZ
     injection hZ with hZ
     subst hZ
     rcases df.1 hz with q|q
     ·exact .inr ⟨rfl,q⟩
     ·exact .inl ⟨X,hi,q⟩
    ·rw[List.getElem?_set_ne (fun q=>ej q.symm)] at hZ
     exact .inl ⟨Z,hZ,hz⟩
   intro a b A B y z hA hB hy hz e
   rcases back a A y hA hy with ⟨A',h1,h2⟩|⟨h1,h2⟩
   ·rcases back b B z hB hz with ⟨B',g1,g2⟩|⟨g1,g2⟩
    ·exact hu a b A' B' y z h1 g1 h2 g2 e
    ·rw[g2] at e;exact absurd e (hno y ⟨a,A',h1,h2⟩)
   ·rcases back b B z hB hz with ⟨B',g1,g2⟩|⟨g1,g2⟩
    ·rw[h2] at e;exact absurd e.symm (hno z ⟨b,B',g1,g2⟩)
    ·exact⟨by rw[h1,g1],by rw[h2,g2]⟩
theorem sQ {S:Nat→Nat} {fr:Bool} {n:Nat}: ∀k,k≤n→(Gt.pl S fr n k).Nodup
 |0,_=>by simp[Gt.pl]
 |k+1,hk=>by
  by_cases hs:(S k==0)=fr
  ·rw[Gt.ij (by omega) hs,List.nodup_append]
   refine⟨sQ k (by omega),by simp,fun a ha b hb e=> ?_⟩
   simp at hb
   subst hb e
   have:=((ox k (by omega) _).1 ha).1
   simp at this
  ·rw[Gt.uS hs];exact sQ k (by omega)
theorem ur (M:Mc) (n:Nat):(ck M n).Nodup:=by
 unfold ck
 exact List.Pairwise.map _ (fun (a b:Fin n) (h:a≠b) e=>h (Fin.ext e)) (sQ n (Nat.le_refl _))
end
section
variable {P n q B:Nat} {gJ:Nat→Nat} {M:Mc}
theorem wc (hu:Uq M.pl) (hkr: ∀y∈M.gr.T,Ke.aB y.k=true):Uq (settle M n).pl:=
 (iM (n:=n) M (ik M n) (fun t=>ji (fy n M _ _ hkr) t) (ck M n) M.pl (fun x hx=>(fW.1 hx).1) (ur M n) hu).1
theorem oU (n:Nat) (M:Mc) (x:Nat):(bU n M x).pl=M.pl:=by unfold bU cB;split<;>rfl
theorem xO (n:Nat) (M:Mc) (x:Nat):(bU n M x).gr=M.gr:=by unfold bU cB;split<;>rfl
theorem te (n:Nat) (M:Mc) (x y:Nat):sa (cf n M x) y↔sa M y:=by
 have h:=(jY n (bU n M x) (ik (bU n M x) n) y (ck (bU n M x) n) (bU n M x).pl).1
 have e:=oU n M x
 unfold sa
 rw[e] at h
 refine Iff.trans ?_ h
 show(∃k,gY (settle (bU n M x) n).pl (y,k))↔_
 unfold settle
 rw[e]
theorem zC (hu:Uq M.pl) (hkr: ∀y∈M.gr.T,Ke.aB y.k=true) {x:Nat} (hno: ¬sa M x) (p:Int):Uq (ready P n q M x p).pl:=by
 have h3:Uq (cf n M x).pl:=wc (M:=bU n M x) (by rw[oU];exact hu) (by rw[xO];exact hkr)
 exact h3.put p (fun z hz e=>hno ((te n M x x).1 ⟨z.2,by
  have h2:gY (cf n M x).pl (z.1,z.2):=hz
  rw[e] at h2
  exact h2⟩))
end
section
variable {P n q B:Nat} {M:Mc}
theorem sP (M:Mc) (n:Nat) (t:Tr):Ke.aB (dQ M n t)=true:=by
 unfold dQ
 split
 ·rfl
 ·split
  ·rfl
  ·split<;>rfl
structure Tq (P n B:Nat) (M:Mc):Prop where
 iv:Iv P n B [] M
 uq:Uq M.pl
 kk: ∀z,gY M.pl z→z.2=Pi.di M.gr.T M.gr.L (z.1:Int)
 ow: ∀x,x<n→M.S x≠0→Pi.gO M.gr.T x=dQ M n (M.th x)
theorem Tq.of (h:Iv P n B [] M) (hu:Uq M.pl):Tq P n B (settle M n):=by
 have kd:=kI M n
 obtain⟨h1,h2⟩:=tf (n:=n) hu h.kr (ur M n) (fun x hx=>by
  obtain⟨a,b⟩:=(h.rd x).1 hx
  have t:=h.th x a (by omega)
  exact⟨a,by omega,by rw[uJ a t.p t.g (by omega)];exact b⟩)
 obtain⟨b1,b2,b3⟩:=ov n M (fun x=>dQ M n (M.th x)) (ck M n) M.gr (fun x hx=>⟨by rw[h.tl];exact(fW.1 hx).1,rfl,sP M n _⟩)
 exact⟨h.settle,h1,fun z hz=>((h2 z).1 hz).2,fun x hx hs=>b3 x (.inl (fW.2 ⟨hx,by rw[kd.S] at hs;exact hs⟩))⟩
theorem Tq.start (h:Tq P n B M) (hP:1≤P) {x:Nat} (hf:db M n=some x) (pg:Int) (lv:Nat) (sv:Int) (hpg:je M pg=true):Tq P n (B+1) (gB P n q M x pg lv sv):=by
 obtain⟨hx,hx0⟩:=free_spec hf
 have hI':Iv P n (B+1) [] (fH P n q M x 0 (dJ pg lv sv)):=h.iv.yl (q:=q) (p:=0) (by omega) hf pg lv sv hpg
 have hni:=h.iv.H6 (x:=x) (by omega)
 exact Tq.of hI' (zC (M:={dy M x with th:=Gt.ax M.th x {dJ pg lv sv with p:=(x:Int),g:=M.G x+1}}) h.uq h.iv.kr hni _)
theorem Iv.F9 (h:Iv P n B [] M) {p:Nat} (hp:p<P) {x:Nat} (hx:x<n) (hs:M.S x=1) (d:Int):(bb P (gh M.pl) (p:Int) d).isSome=true:=by
 cases hb:(bb P (gh M.pl) (p:Int) d).isSome with
 |true=>rfl
 |false=>
  obtain⟨k,hk⟩:=(h.rd x).2 ⟨hx,hs⟩
  exact absurd hk (vJ h.pl ⟨by omega,by omega⟩ hb _)
theorem qO (h:Iv P n B [] M) (hP:1≤P) {x:Nat} (hf:db M n=some x) (pg:Int) (lv:Nat) (sv:Int) {R:Mc} (eR:R=gB P n q M x pg lv sv):(R.S=Gt.ax M.S x 1∧R.pc=M.pc∧R.gr.L=M.gr.L∧R.pr=M.pr∧R.qu=M.qu∧R.ag=M.ag∧R.nw=M.nw∧R.wh=M.wh)∧R.sv=Cb.ki M.sv sv M.nw∧(∀y,y≠x→R.th y=M.th y)∧R.th x={dJ pg lv sv with p:=(x:Int),g:=M.G x+1,sn:=M.nw,lf:=0}:=by
 obtain⟨hx,hx0⟩:=free_spec hf
 have hni:=h.H6 (x:=x) (by omega)
 have hS:({dy M x with th:=Gt.ax M.th x {dJ pg lv sv with p:=(x:Int),g:=M.G x+1}}:Mc).S x=1:=Gt.aj M.S x 1
 have k:=og (P:=P) (n:=n) (q:=q) (M:={dy M x with th:=Gt.ax M.th x {dJ pg lv sv with p:=(x:Int),g:=M.G x+1}}) (p:=0) hx (by omega) h.pl h.kr (.inl hS) (congrArg Tr.p (Gt.aj M.th x _)) ((congrArg Tr.g (Gt.aj M.th x _)).trans (Gt.aj M.G x _).symm) hni
 have eth: ∀y,R.th y=Gt.ax (Gt.ax M.th x {dJ pg lv sv with p:=(x:Int),g:=M.G x+1}) x {(Gt.ax M.th x {dJ pg lv sv with p:=(x:Int),g:=M.G x+1}) x with sn:=M.nw,lf:=0} y:=fun y=>by rw[eR];exact congrFun k.th y
 have eS: ∀y,R.S y=Gt.ax (Gt.ax M.S x 1) x 1 y:=fun y=>by rw[eR];exact congrFun k.S y
 refine⟨⟨funext fun y=> ?_,by rw[eR];exact k.pc,by rw[eR];exact AN P n q M x pg lv sv,by rw[eR];exact k.pr,by rw[eR];exact k.qu,by rw[eR];exact k.ag,by rw[eR];exact k.nw,by rw[eR];exact k.wh⟩,?_,fun y hy=> ?_,?_⟩
 ·rw[eS]
  by_cases e:y=x
  ·rw[e,Gt.aj,Gt.aj]
  ·rw[Gt.ai _ _ _ _ e]
 ·have e:R.sv=if Gt.ax M.S x 1 x=2 then M.sv else Cb.ki M.sv (Gt.ax M.th x {dJ pg lv sv with p:=(x:Int),g:=M.G x+1} x).sv M.nw:=by rw[eR];exact k.sv
  rw[e,Gt.aj,Gt.aj,if_neg (by decide)]
  rfl
 ·rw[eth,Gt.ai _ _ _ _ hy,Gt.ai _ _ _ _ hy]
 ·rw[eth,Gt.aj,Gt.aj]
end
end Go.Proofs.YtdbailcdlngemaaGreatDoor
