/- YtjlbmmiomfpgiaaGreatDoorGs: of the texts Bb1 Bb2 Bb3 Bb4 Bb5 Bb6 Bb7 Bd1 Bd2 Bd3 Be1 Bf8 Bf9 Bg1 Bg2 Bg3 Bg4 Bg5 Bg6 Bg7 Bg8 Bg9 Bh1 Bi2 Bi1 Bi3 Bi4 Bi5 what is wanted. -/
import Derived.Test.YtjlbmmiomfpgiaaGreatDoorG0
import Derived.Test.YtjlbmmiomfpgiaaGreatDoorGq
import Derived.ProofKit
import Derived.OpenShut
import Derived.Deep.Slices
import Derived.Deep.Strs
import Derived.ChangeOld
import Derived.ChangeSame
import Derived.Test.YtjlbmmiomfpgiaaGreatDoorGt
set_option maxHeartbeats 16000000
set_option maxRecDepth 100000
set_option linter.unusedVariables false
set_option linter.unusedSimpArgs false
namespace Go.Proofs.YtjlbmmiomfpgiaaGreatDoor
open Go.RowKit Go.Lib
theorem nr {a b c:Ke.K} (h:Ke.up a b=false) (k:Ke.up b c=false):Ke.up a c=false:=by
 obtain⟨ae,ad,al⟩:=a
 obtain⟨be,bd,bl⟩:=b
 obtain⟨ce,cd,cl⟩:=c
 cases ae<;>cases be<;>cases ce<;>simp_all [Ke.up]<;>omega
theorem Ey {a b:Ke.K} (h:Ke.up a b=true):Ke.up b a=false:=by
 obtain⟨ae,ad,al⟩:=a
 obtain⟨be,bd,bl⟩:=b
 cases ae<;>cases be<;>simp_all [Ke.up]<;>omega
theorem jC (a:Ke.K):Ke.up a a=false:=by simp[Ke.up]
theorem pH (H:List Hd): ∀(l:List Nat) (b:Option Nat),(∀c0,b=some c0-> ∃c,l.foldl (cI H) b=some c/\Ke.up (iO (MM H c0)) (iO (MM H c))=false)/\ ∀x∈l,∀y M,MM H x=y::M-> ∃c,l.foldl (cI H) b=some c/\Ke.up y.2 (iO (MM H c))=false
 |[],b=>⟨fun c0 hc=>⟨c0,hc,jC _⟩,fun x hx=>by cases hx⟩
 |x::l,b=>by
  have A: ∀c0,b=some c0-> ∃c1,cI H b x=some c1/\Ke.up (iO (MM H c0)) (iO (MM H c1))=false:=by
   intro c0 hc
   subst hc
   unfold cI
   cases hM:MM H x with
   |nil=>exact⟨c0,rfl,jC _⟩
   |cons y M=>
    simp only
    cases hu:Ke.up y.2 (iO (MM H c0)) with
    |true=>
     refine⟨x,rfl,?_⟩
     rw[hM]
     exact Ey hu
    |false=>exact⟨c0,rfl,jC _⟩
  have B: ∀y M,MM H x=y::M-> ∃c1,cI H b x=some c1/\Ke.up y.2 (iO (MM H c1))=false:=by
   intro y M hM
   unfold cI
   rw[hM]
   cases b with
   |none=>exact⟨x,rfl,by rw[hM];exact jC _⟩
   |some c0=>
    simp only
    cases hu:Ke.up y.2 (iO (MM H c0)) with
    |true=>exact⟨x,rfl,by rw[hM];exact jC _⟩
    |false=>exact⟨c0,rfl,hu⟩
  obtain⟨i1,i2⟩:=pH H l (cI H b x)
  refine⟨fun c0 hc=> ?_,fun z hz y M hM=> ?_⟩
  ·obtain⟨c1,e1,n1⟩:=A c0 hc
   obtain⟨c,e2,n2⟩:=i1 c1 e1
   exact⟨c,e2,nr n1 n2⟩
  ·rcases List.mem_cons.1 hz with rfl|hz
   ·obtain⟨c1,e1,n1⟩:=B y M hM
    obtain⟨c,e2,n2⟩:=i1 c1 e1
    exact⟨c,e2,nr n1 n2⟩
   ·exact i2 z hz y M hM
theorem rQ {np p d x:Nat} (hp:p<np) (hx:x<=np):x∈dp np p d:=by
 unfold dp fo
 by_cases h1:x=p
 ·rw[h1];simp
 by_cases h2:x=np
 ·rw[h2];simp
 refine yW0 _ (yW0 _ (List.mem_filter.2 ⟨List.mem_map.2 ⟨(x+2*np-(p+1+d%np))%np,List.mem_range.2 (Nat.mod_lt _ (by omega)),?_⟩,by simpa using h1⟩))
 unfold lP
 have hm:d%np<np:=Nat.mod_lt _ (by omega)
 rw[Nat.add_mod_mod]
 have e:p+1+d%np+(x+2*np-(p+1+d%np))=x+np*2:=by omega
 rw[e,Nat.add_mul_mod_self_left]
 exact Nat.mod_eq_of_lt (by omega)
theorem D3 (G:List (List En)) (c:Nat) (M:List En):gh (G.set c M)=(gh G).set c ⟨0,0,0,0,0,0,M⟩:=by unfold gh;rw[List.map_set]
theorem lH {G:List (List En)} {c:Nat} {x:Hd} (h:(gh G)[c]? =some x):G[c]? =some x.M:=by
 have:=ox h
 rw[cM] at this
 exact this
theorem EY (G:List (List En)):(gh G).length=G.length:=by unfold gh;simp
section
variable {w:World} {O:Nat->Prop} {pb n np q T:Nat} {G:List (List En)}
theorem PQ.nd (h:PQ w O pb n np q T G) {c:Nat} {x:Hd} (hx:(gh G)[c]? =some x):(x.M.map (·.1)).Nodup/\(∀y∈x.M,y.1<n)/\ ∀y∈x.M,Ke.aK y.2=true:=by
 obtain⟨h1,h2,_,h4⟩:=h.at (lH hx)
 exact⟨h1,h2,h4⟩
theorem PQ.G6 (h:PQ w O pb n np q T G) {p d:Int} {c:Nat} (hb:bb np (gh G) p d=some c): ∃z:En,bI (gh G) (some c)=(z.1:Int)/\bK (gh G) (some c)=z.2/\z.1<n/\aO n (gh (gj np (gh G) p d)) 0 (z.1:Int)=none/\cR (gh (gj np (gh G) p d))+1=cR (gh G):=by
 obtain⟨_,_,x,z,M',hx,hM⟩:=oU hb
 obtain⟨hnd,hrn,_⟩:=h.nd hx
 have e1:bI (gh G) (some c)=(z.1:Int):=by show ti (MM (gh G) c)=_;rw[bU hx,hM];rfl
 have e2:bK (gh G) (some c)=z.2:=by show iO (MM (gh G) c)=_;rw[bU hx,hM];rfl
 have hg:gj np (gh G) p d=G.set c M':=by unfold gj;rw[hb,cM];show G.set c (MM (gh G) c).tail=_;rw[bU hx,hM];rfl
 have hcut:cut z.1 x.M=M':=by rw[hM];exact nJ (by rw[←hM];exact hnd)
 have hzk:(keyOf x.M z.1).isSome=true:=by rw[iD];exact⟨z,by rw[hM];simp,rfl⟩
 rw[hg,D3]
 obtain⟨_,u2⟩:=oC (n:=n) (y:=⟨0,0,0,0,0,0,M'⟩) h.un hx (id:=z.1) hcut.symm hzk
 have hs:=eQ (y:=⟨0,0,0,0,0,0,M'⟩) hx
 refine⟨z,e1,e2,hrn z (by rw[hM];simp),?_,?_⟩
 ·rw[u2]
  unfold cS
  rw[if_pos rfl]
 ·have:x.M.length=M'.length+1:=by rw[hM];rfl
  simp only at hs
  omega
end
theorem hZ {G:List (List En)} {i:Nat} {M:List En} (h:G[i]? =some M):(gh G)[i]? =some ⟨0,0,0,0,0,0,M⟩:=by unfold gh;rw[List.getElem?_map,h];rfl
theorem C3 {np:Nat} {G:List (List En)} {p d:Int} {c:Nat} (hl:G.length=np+1) (hb:bb np (gh G) p d=some c) {i:Nat} {y:En} {M:List En} (hM:G[i]? =some (y::M)):Ke.up y.2 (iO (MM (gh G) c))=false:=by
 obtain⟨hp,h,_⟩:=oU hb
 have hil:i<=np:=by have:=(zY0.1 hM).1;omega
 obtain⟨_,t2⟩:=pH (gh G) (dp np p.toNat d.toNat) none
 obtain⟨c',e1,n1⟩:=t2 i (rQ (by omega) hil) y M (bU (hZ hM))
 have h':(dp np p.toNat d.toNat).foldl (cI (gh G)) none=some c:=h
 rw[h'] at e1
 injection e1 with e1
 rw[e1]
 exact n1
theorem D6 {np:Nat} {G:List (List En)} (hl:G.length=np+1) {p:Int} (hp:0<=p/\p<(np:Int)) (d:Int):(bb np (gh G) p d).isSome=decide (0<cR (gh G)):=by
 cases hb:bb np (gh G) p d with
 |some c=>
  obtain⟨_,_,x,z,M',hx,hM⟩:=oU hb
  have hs:=eQ (y:=⟨0,0,0,0,0,0,[]⟩) hx
  have e:x.M.length=M'.length+1:=by rw[hM];rfl
  simp only[List.length_nil] at hs
  exact(decide_eq_true (by omega)).symm
 |none=>
  refine(decide_eq_false (fun hpos=> ?_)).symm
  have key: ∀(i:Nat) (M:List En),G[i]? =some M->M=[]:=fun i M hM=>by
   cases M with
   |nil=>rfl
   |cons y M=>
    exfalso
    have hil:i<=np:=by have:=(zY0.1 hM).1;omega
    obtain⟨_,t2⟩:=pH (gh G) (dp np p.toNat d.toNat) none
    obtain⟨c',e1,_⟩:=t2 i (rQ (by omega) hil) y M (bU (hZ hM))
    unfold bb at hb
    rw[if_pos hp] at hb
    unfold iR at hb
    rw[hb] at e1
    cases e1
  have:=nK (H:=gh G) (fun i x hx=>key i x.M (lH hx))
  omega
def kY (M:List En):Prop:=M.Pairwise (fun a b=>Ke.up b.2 a.2=false)
theorem oy (R:List (Nat×Nat)): ∀k,kY (fL R k)
 |0=>List.Pairwise.nil
 |k+1=>by
  unfold kY
  rw[fL,List.pairwise_append]
  refine⟨?_,oy R k,?_⟩
  ·refine List.Pairwise.imp_of_mem (R:=fun _ _=>True) ?_ (List.pairwise_of_forall (fun _ _=>trivial))
   intro a b ha hb _
   rw[(jX.1 ha).2,(jX.1 hb).2,uI]
   simp
  ·intro a ha b hb
   obtain⟨j,hj,_,e⟩:=iK.1 hb
   rw[(jX.1 ha).2,e,uI]
   simp
   omega
theorem AJ (L:List Ph.Item) (h:Ph.ji L):kY (dl L):=by
 unfold kY dl
 rw[List.pairwise_map]
 refine List.Pairwise.imp ?_ h
 intro a b hab
 rw[Dh]
 unfold Ph.ah at hab
 simp
 omega
theorem xw (R:List (Nat×Nat)) (L:List Ph.Item) (h:Ph.ji L):kY (all R L):=by
 unfold kY all
 rw[List.pairwise_append]
 refine⟨AJ L h,oy R 256,?_⟩
 intro a ha b hb
 obtain⟨d,s,_,e⟩:=tE.1 ha
 obtain⟨j,_,_,e'⟩:=iK.1 hb
 rw[e,e']
 exact DD _ _
theorem cT.AZ {w:World} {sb qb gq hb gh n most turn:Nat} {M:List En} (h:cT w sb qb gq hb gh n most turn M):kY M:=by
 obtain⟨R,L,hS,hI⟩:=h
 rw[←hI.eq]
 exact xw R L hS.h.sI.srt
theorem PQ.AZ {w:World} {O:Nat->Prop} {pb n np q T:Nat} {G:List (List En)} (h:PQ w O pb n np q T G) {i:Nat} {M:List En} (hi:G[i]? =some M):kY M:=by
 obtain⟨base,lo,mb,v,H,hQ,hG,hO⟩:=h
 rw[←hG] at hi
 simp only[Ms,List.getElem?_map] at hi
 cases hx:H[i]? with
 |none=>rw[hx] at hi;cases hi
 |some x=>
  rw[hx] at hi
  injection hi with hi
  subst hi
  exact cT.AZ (hQ.p.sets.it i x hx)
def nC (G:List (List En)) (z:En):Prop:= ∃(i:Nat) (M:List En),G[i]? =some M/\z∈M
section
variable {w:World} {O:Nat->Prop} {pb n np q T:Nat} {G:List (List En)}
theorem zu {p d:Int}: ∀z,nC (gj np (gh G) p d) z->nC G z:=by
 rintro z ⟨i,M,hM,hz⟩
 unfold gj at hM
 cases hb:bb np (gh G) p d with
 |none=>rw[hb,cM] at hM;exact⟨i,M,hM,hz⟩
 |some c=>
  rw[hb,cM] at hM
  simp only at hM
  rcases Nat.decEq i c with e|e
  ·rw[List.getElem?_set_ne (fun q=>e q.symm)] at hM
   exact⟨i,M,hM,hz⟩
  ·subst e
   obtain⟨_,_,x,z',M',hx,hM'⟩:=oU hb
   have hil:i<G.length:=(zY0.1 (lH hx)).1
   rw[List.getElem?_set_self hil,bU hx] at hM
   injection hM with hM
   subst hM
   exact⟨i,x.M,lH hx,List.mem_of_mem_tail hz⟩
end
theorem yD {n:Nat} {G:List (List En)} {x:Nat} {k:Ke.K} (h: ∀z,nC G z->z.1=x->z.2=k):dJ n (gh G) (x:Int) k=G:=by
 unfold dJ
 split
 case isFalse=>exact cM G
 generalize ye n (gh G) (x:Int)=i
 rw[cM]
 cases hi:G[i]? with
 |none=>exact List.set_eq_of_length_le (List.getElem?_eq_none_iff.1 hi)
 |some M=>
  rw[bU (hZ hi)]
  have e:dq n M (x:Int) k=M:=by
   unfold dq
   split
   case isFalse=>rfl
   case isTrue hc=>
    split
    case isTrue=>rfl
    case isFalse hk=>
     exfalso
     unfold gI at hc
     split at hc
     ·cases hc
     split at hc
     case isFalse=>cases hc
     case isTrue hs=>
      rw[show((x:Int)).toNat=x from rfl] at hk hs
      unfold keyOf at hk hs
      cases hf:M.find? (fun y=>y.1==x) with
      |none=>rw[hf] at hs;cases hs
      |some y=>
       have hy:=List.mem_of_find?_eq_some hf
       have hx:y.1=x:=by have:=List.find?_some hf;simpa using this
       rw[hf] at hk
       exact hk (by rw[←h y ⟨i,M,hi,hy⟩ hx];rfl)
  show G.set i (dq n M (x:Int) k)=G
  rw[e]
  obtain⟨hl,he⟩:=zY0.1 hi
  rw[←he]
  exact List.set_getElem_self hl
theorem pe {S:Nat->Nat} {fr:Bool} {n:Nat}: ∀k,k<=n-> ∀x:Fin n,x∈Gt.pl S fr n k↔x.val<k/\(S x.val==0)=fr
 |0,_,x=>by simp[Gt.pl]
 |k+1,hk,x=>by
  have ih:=pe (S:=S) (fr:=fr) k (by omega) x
  by_cases hs:(S k==0)=fr
  ·rw[Gt.ik (by omega) hs,List.mem_append,ih,List.mem_singleton]
   constructor
   ·rintro(h|h)
    ·exact⟨by omega,h.2⟩
    ·subst h;exact⟨Nat.lt_succ_self _,hs⟩
   ·rintro⟨h1,h2⟩
    rcases Nat.lt_succ_iff_lt_or_eq.1 h1 with h|h
    ·exact .inl ⟨h,h2⟩
    ·exact .inr (Fin.ext h)
  ·rw[Gt.uq hs,ih]
   constructor
   ·rintro⟨h1,h2⟩;exact⟨by omega,h2⟩
   ·rintro⟨h1,h2⟩
    rcases Nat.lt_succ_iff_lt_or_eq.1 h1 with h|h
    ·exact⟨h,h2⟩
    ·rw[h] at h2;exact absurd h2 hs
theorem qZ {M:Mc} {n x:Nat}:x∈bL M n↔x<n/\M.S x≠0:=by
 unfold bL
 rw[List.mem_map]
 constructor
 ·rintro⟨y,hy,rfl⟩
  have:=(pe n (i8 _) y).1 hy
  exact⟨this.1,by simpa using this.2⟩
 ·rintro⟨h1,h2⟩
  exact⟨⟨x,h1⟩,(pe n (i8 _) _).2 ⟨h1,by simpa using h2⟩,rfl⟩
theorem o9 {α β:Type} (f:β->α->β) (b:β): ∀l:List α,(∀x∈l,f b x=b)->l.foldl f b=b
 |[],_=>rfl
 |x::l,h=>by rw[List.foldl_cons,h x (by simp)];exact o9 f b l (fun y hy=>h y (by simp[hy]))
theorem rZ {n:Nat} {G S:Nat->Nat} {x:Nat} (hx:x<n) (hs:S x≠0):Gt.hasB n G S (x:Int) (G x)=true:=by
 unfold Gt.hasB
 simp[hx,hs]
theorem vb {M:Mc} {n x:Nat} {t:Tr} (hx:x<n) (hp:t.p=(x:Int)) (hg:t.g=M.G x) (hs:M.S x≠0):eX M n t=M.S x:=by
 unfold eX
 rw[hp,hg,rZ hx hs]
 rfl
theorem fu {n:Nat} {G S:Nat->Nat} {x s:Nat} (hx:x<n) (hs:S x≠0) (hm:Gt.ml (S x) s=true):bP n G S (x:Int) (G x) s=Gt.au S x s:=by
 unfold bP
 rw[if_pos ⟨rZ hx hs,hm⟩]
 rfl
theorem xV {n:Nat} {G S:Nat->Nat} {x s:Nat} (hm:Gt.ml (S x) s=false):bP n G S (x:Int) (G x) s=S:=by
 unfold bP
 rw[if_neg (fun q=>by have:=q.2;rw[show((x:Int)).toNat=x from rfl,hm] at this;cases this)]
theorem CM {np n q:Nat} {G:List (List En)} (hl:G.length=np+1) {p:Nat} (hp:p<np) {id:Nat} (hi:id<n) {k:Ke.K} (hr:Ke.aK k=true) (hno: ∀z,nC G z->z.1≠id) (z:En):
  nC (eT np n q (gh G) (p:Int) (id:Int) k) z↔z=(id,k)\/nC G z:=by
 have hw:aO n (gh G) 0 (id:Int)=none:=eH n _ (gh G) 0 (fun i x hx _=>bF.2 (fun y hy=>hno y ⟨i,x.M,lH hx,hy⟩))
 have hc:ic np n (gh G) (p:Int) (id:Int) k=0:=by
  unfold ic
  rw[if_neg (by unfold qa;rintro((q|q)|q|q|q);omega;omega;omega;omega;rw[hr] at q;cases q),hw]
  rfl
 have hal:jn np n q (gh G) p<G.length:=by
  rw[hl]
  unfold jn
  split<;>omega
 have hx:G[jn np n q (gh G) p]? =some (G[jn np n q (gh G) p]'hal):=yV0 _
 have hg:eT np n q (gh G) (p:Int) (id:Int) k=G.set (jn np n q (gh G) p) (Go.Proofs.YtjlbmmiomfpgiaaGreatDoor.put (id,k) (MM (gh G) (jn np n q (gh G) p))):=by
  unfold eT
  rw[if_pos hc,cM]
  rfl
 rw[hg]
 generalize jn np n q (gh G) p=j at*
 generalize G[j]=X at hx
 rw[bU (hZ hx)]
 constructor
 ·rintro⟨i,M,hM,hz⟩
  by_cases e:i=j
  ·subst e
   rw[List.getElem?_set_self hal] at hM
   injection hM with hM
   subst hM
   exact(dN.1 hz).imp (fun q=>q) (fun q=>⟨_,X,hx,q⟩)
  ·rw[List.getElem?_set_ne (fun q=>e q.symm)] at hM
   exact .inr ⟨i,M,hM,hz⟩
 ·rintro(rfl|⟨i,M,hM,hz⟩)
  ·exact⟨j,_,List.getElem?_set_self hal,dN.2 (.inl rfl)⟩
  ·by_cases e:i=j
   ·subst e
    rw[hx] at hM
    injection hM with hM
    subst hM
    exact⟨i,_,List.getElem?_set_self hal,dN.2 (.inr hz)⟩
   ·exact⟨i,M,by rw[List.getElem?_set_ne (fun q=>e q.symm)];exact hM,hz⟩
theorem xG {np n q:Nat} {G:List (List En)} (p id:Int) (k:Ke.K):(eT np n q (gh G) p id k).length=G.length:=by
 unfold eT
 split
 ·rw[List.length_set,cM]
 ·rw[cM]
theorem nI {w:World} {O:Nat->Prop} {pb n np q T:Nat} {G:List (List En)} (h:PQ w O pb n np q T G) {p d:Int} (hb:(bb np (gh G) p d).isSome=true):
  ∃(x:Nat) (k:Ke.K),x<n/\bI (gh G) (bb np (gh G) p d)=(x:Int)/\nC G (x,k)/\(∀z,nC G z->Ke.up z.2 k=false)/\ ∀z,nC (gj np (gh G) p d) z↔nC G z/\z.1≠x:=by
 obtain⟨c,hc⟩:=Option.isSome_iff_exists.1 hb
 obtain⟨z,e1,e2,hz,hw,hs⟩:=h.G6 hc
 obtain⟨_,_,y,z',M',hy,hM⟩:=oU hc
 have hzz:z'=z:=by
  have q1:bI (gh G) (some c)=(z'.1:Int):=by show ti (MM (gh G) c)=_;rw[bU hy,hM];rfl
  have q2:bK (gh G) (some c)=z'.2:=by show iO (MM (gh G) c)=_;rw[bU hy,hM];rfl
  rw[e1] at q1
  rw[e2] at q2
  exact Prod.ext (by omega) q2.symm
 subst hzz
 have hcl:c<G.length:=(zY0.1 (lH hy)).1
 have hG:G[c]? =some (z'::M'):=by rw[←hM];exact lH hy
 have hg:gj np (gh G) p d=G.set c M':=by unfold gj;rw[hc,cM];show G.set c (MM (gh G) c).tail=_;rw[bU hy,hM];rfl
 refine⟨z'.1,z'.2,hz,by rw[hc];exact e1,⟨c,_,hG,by simp⟩,?_,?_⟩
 ·rintro y ⟨i,M2,hM2,hy2⟩
  have hk:iO (MM (gh G) c)=z'.2:=by rw[bU hy,hM];rfl
  cases hM3:M2 with
  |nil=>rw[hM3] at hy2;cases hy2
  |cons y0 M4=>
   have h0:Ke.up y0.2 z'.2=false:=by rw[←hk];exact C3 h.len hc (by rw[←hM3];exact hM2)
   rw[hM3] at hy2
   rcases List.mem_cons.1 hy2 with e|e
   ·rw[e];exact h0
   ·have hf:=h.AZ hM2
    rw[hM3] at hf
    exact nr ((List.pairwise_cons.1 hf).1 y e) h0
 ·intro y
  constructor
  ·intro hy2
   refine⟨zu y hy2,?_⟩
   obtain⟨i,M2,hM2,hy3⟩:=hy2
   exact bF.1 (dD hw hz (hZ hM2)) y hy3
  ·rintro⟨⟨i,M2,hM2,hy2⟩,hne⟩
   rw[hg]
   by_cases e:i=c
   ·subst e
    rw[hG] at hM2
    injection hM2 with hM2
    subst hM2
    rcases List.mem_cons.1 hy2 with q|q
    ·rw[q] at hne;exact absurd rfl hne
    ·exact⟨i,M',List.getElem?_set_self hcl,q⟩
   ·exact⟨i,M2,by rw[List.getElem?_set_ne (fun q=>e q.symm)];exact hM2,hy2⟩
theorem kF {np:Nat} {G:List (List En)} (hl:G.length=np+1) {p d:Int} (hp:0<=p/\p<(np:Int)) (hb:(bb np (gh G) p d).isSome=false) (z:En): ¬nC G z:=by
 rintro⟨i,M,hM,hz⟩
 have h1:=D6 hl hp d
 rw[hb] at h1
 have h2:=of_decide_eq_false h1.symm
 have hs:=eQ (y:=⟨0,0,0,0,0,0,[]⟩) (hZ hM)
 simp only[List.length_nil] at hs
 have:0<M.length:=List.length_pos_of_mem hz
 omega
theorem C4 {np:Nat} {G:List (List En)} (p d:Int):(gj np (gh G) p d).length=G.length:=by
 unfold gj
 split
 ·rw[cM]
 ·rw[List.length_set,cM]
theorem xo {M:Mc} {n c:Nat} (hc:c<n) (h: ∀x,x<c->M.S x≠0) (h0:M.S c=0):cV M n=some c:=by
 have e:Gt.pl M.S true n c=[]:=by
  cases hp:Gt.pl M.S true n c with
  |nil=>rfl
  |cons y l=>
   have:=(pe (S:=M.S) (fr:=true) c (by omega) y).1 (by rw[hp];simp)
   exact absurd (by simpa using this.2) (h y.val this.1)
 have e2:=Gt.ik (S:=M.S) (fr:=true) hc (by simp[h0])
 rw[e] at e2
 obtain⟨t,ht⟩:=Gt.rj M.S true n (c+1) (n-(c+1))
 rw[e2,show c+1+(n-(c+1))=n by omega] at ht
 unfold cV
 rw[←ht]
 rfl
end Go.Proofs.YtjlbmmiomfpgiaaGreatDoor
namespace Go.Proofs.YtjlbmmiomfpgiaaGreatDoor
open Go.RowKit Go.Lib Go.Shelf
attribute [local go_sem ↓] Go.wp_at_zero Go.wp_at_succ
def Al (w wr:World) (ad:Ad) (P n q T:Nat) (M:Mc):Prop:=(∃lab,ay wr lab ad P n q T M/\ ∀k,lab k≠0->w.heap.size<=k)/\Below w.heap.size w wr
section
variable {w wr w':World} {ad:Ad} {P n q T T':Nat} {M M':Mc}
theorem Al.goes (h:Al w wr ad P n q T M) {lab:Nat->Nat} (hi: ∀k,lab k≠0->w.heap.size<=k) (g:aA wr w' lab ad P n q T' M'):Al w w' ad P n q T' M':=by
 obtain⟨_,hb⟩:=h
 obtain⟨lab',hi',hl,hf⟩:=g
 refine⟨⟨lab',hi',fun k hk=> ?_⟩,hb.trans ⟨hf.os,hf.tape,hf.output,hf.size,fun k hk=>hf.block k (zW0 hk hb.size) (fun q=>by have:=hi k q;omega)⟩⟩
 rcases Nat.lt_or_ge k wr.heap.size with q|q
 ·exact hi k (by rw[←hl.old k q];exact hk)
 ·exact yX0 hb.size q
theorem Al.call (h:Al w wr ad P n q T M) {f:Nat} {args:Array Value} {R:Ending->World->Prop} (hc: ∀lab,ay wr lab ad P n q T M->Calls Tryz.prog f args wr fun e w'=>R e w'/\aA wr w' lab ad P n q T' M'):Calls Tryz.prog f args wr fun e w'=>R e w'/\Al w w' ad P n q T' M':=by
 have h0:=h
 obtain⟨⟨lab,hi,hl⟩,hb⟩:=h
 exact(hc lab hi).mono (fun e w' ⟨r,g⟩=>⟨r,h0.goes hl g⟩)
theorem Al.below (h:Al w wr ad P n q T M) (hb:Below wr.heap.size wr w'):Al w w' ad P n q T M:=by
 have h0:=h
 obtain⟨⟨lab,hi,hl⟩,_⟩:=h
 exact h0.goes hl (hi.stay hb)
theorem Al.pq (h:Al w wr ad P n q T M): ∃O,PQ wr O ad.pb n P q T M.pl:=by
 obtain⟨⟨lab,hi,hl⟩,hb⟩:=h
 obtain⟨O,p,_⟩:=hi.pl
 exact⟨O,p⟩
theorem Al.nZ (h:Al w wr ad P n q T M):Below w.heap.size w wr:=h.2
end
section
variable {w wr w':World} {ad:Ad} {P n q T T':Nat} {M M':Mc}
theorem zR (P n q m qu ag:Nat) (hP:1<=P/\P<=64) (hn:1<=n/\n<=1024) (hq:1<=q/\q<=256) (hm:m<=32) (hqu:1<=qu/\qu<18446744073709551616) (hag:1<=ag/\ag<18446744073709551616) (w:World) (ht:Gt.lQ w):
  Calls Tryz.prog 10 #[.agg #[.int .i64 (P:Int),.int .i64 (n:Int),.int .i64 (q:Int),.int .i64 (m:Int),.int .u64 (qu:Int),.int .u64 (ag:Int)]] w fun e w'=> ∃a,e= .returned (.pointer (some ⟨a.m,0,none⟩))/\Al w w' a P n q 0 (eI P n m qu ag):=
 (gJ P n q m qu ag hP hn hq hm hqu hag w ht).mono (fun e w' ⟨a,lab,he,hi,hl,hb⟩=>⟨a,he,⟨lab,hi,hl⟩,hb⟩)
theorem Al.jV (h:Al w wr ad P n q T M) (ap:Option Addr) (len cap:Nat) (O R:Nat->Int) (hp:Ex.lB wr ap len O R) (hr:Ex.Rt len O R) (hf:M.pr.length<16):
  Calls Tryz.prog 17 #[.pointer (some ⟨ad.m,0,none⟩),.slice ap len cap] wr fun e w'=>e= .returned (.tuple #[.int .i64 (M.pr.length:Int),.int .i64 0])/\Al w w' ad P n q T {M with pr:=M.pr++[⟨len,O,R⟩]}:=
 h.call (R:=fun e _=>e= .returned (.tuple #[.int .i64 (M.pr.length:Int),.int .i64 0])) (fun lab hi=>hi.jV ap len cap O R hp hr hf)
end
section
variable {w wr w':World} {ad:Ad} {P n q T T':Nat} {M M':Mc} {K:Nat->Prop}
theorem AQ {T:List Pi.Th} {L:List Pi.Lk} (h: ∀y∈L,y.h= -1) (x:Nat):Pi.lA T L (x:Int)=[]:=by
 unfold Pi.lA
 split
 ·unfold Pi.dx Pi.dg
  rw[List.map_eq_nil_iff,List.filter_eq_nil_iff]
  intro m _
  cases hm:L[m]? with
  |none=>simp
  |some y=>
   have:=h y (zV0 hm)
   simp[this]
 ·rfl
end
theorem Dz: ∀(l:List Ev) (i:Nat) (e:Ev),l[i]? =some e->(ck l)[i*6]? =some (.int .i64 e.k)
 |[],i,e,h=>by simp at h
 |y::l,0,e,h=>by simp at h;subst h;rfl
 |y::l,i+1,e,h=>by
  have:=Dz l i e (by simpa using h)
  have e0:ck (y::l)=cG y++ck l:=rfl
  rw[e0,zU0 (by show(cG y).length<=_;simp[cG];omega)]
  have e1:(i+1)*6-(cG y).length=i*6:=by simp[cG];omega
  rw[e1]
  exact this
theorem i7.at {w:World} {base:Nat} {v:Value} {l:List Ev} (h:i7 w base v l) {i:Nat} {e:Ev} (hi:l[i]? =some e): ∃b c,v= .slice (some ⟨b,0,none⟩) l.length c/\w.cell? ⟨b,i*6,none⟩=some (.int .i64 e.k):=by
 have hl:=(zY0.1 hi).1
 rcases h.2 with ⟨_,e0⟩|⟨b,c,cur,e1,h0,hg,hrow⟩
 ·omega
 ·refine⟨b,c,e1,?_⟩
  have hu:(ck l)[i*6]? =some (.int .i64 e.k):=Dz l i e hi
  rw[←hrow.2.2.2,List.getElem?_take] at hu
  split at hu
  ·simp only[World.cell?,hg]
   simpa using hu
  ·cases hu
def xO (j:Nat):Int:=9
def xR (j:Nat):Int:=0
theorem GC:Ex.Rt 1 xO xR:=by
 refine⟨0,.inr (.inr (.inr ⟨by decide,by decide,?_,.inr rfl,rfl,rfl⟩))⟩
 intro i hi
 show Ex.si ((1:Nat):Int) 9 0=true
 decide
theorem Fw (w:World):Ex.lB (w.alloc (.cells #[.int .i64 9,.int .i64 0] 64)) (some ⟨w.heap.size,0,none⟩) 1 xO xR:=by
 refine .inr ⟨w.heap.size,0,rfl,by simp,fun j hj=> ?_⟩
 match j,hj with
 |0,_=>exact⟨aT _ _ _ 0 _ rfl,aT _ _ _ 1 _ rfl⟩
theorem Al.k {w wr:World} {ad:Ad} {P n q T:Nat} {M:Mc} (h:Al w wr ad P n q T M):lU w wr ad P n q T M (fun _=>False):=by
 obtain⟨⟨lab,hi,hl⟩,hb⟩:=h
 exact⟨⟨lab,hi,hl,fun k q=>q.elim⟩,hb⟩
theorem lU.less {w wr:World} {ad:Ad} {P n q T:Nat} {M:Mc} {K K':Nat->Prop} (h:lU w wr ad P n q T M K) (hk: ∀k,K' k->K k):lU w wr ad P n q T M K':=by
 obtain⟨⟨lab,hi,hl,hz⟩,hb⟩:=h
 exact⟨⟨lab,hi,hl,fun k q=>hz k (hk k q)⟩,hb⟩
theorem CW (g:Pi.Md) (t:Int) (k:Ke.K) (x:Nat):((Pi.gd g t k).2.T[x]?).map (·.u)=(g.T[x]?).map (·.u):=by
 unfold Pi.gd
 split
 ·split
  ·rename_i y hy
   show((g.T.set t.toNat ⟨k,y.u⟩)[x]?).map (·.u)=_
   by_cases e:t.toNat=x
   ·rw[e] at hy⊢
    rw[List.getElem?_set_self (zY0.1 hy).1,hy]
    rfl
   ·rw[List.getElem?_set_ne e]
  ·rfl
 ·rfl
theorem zU (n:Nat) (M:Mc) (x:Nat): ∀(l:List Nat) (g:Pi.Md),((l.foldl (jx n M) g).T[x]?).map (·.u)=(g.T[x]?).map (·.u)
 |[],g=>rfl
 |y::l,g=>by rw[List.foldl_cons,zU n M x l];exact CW _ _ _ _
theorem AB (M:Mc) (n x:Nat):((settle M n).gr.T[x]?).map (·.u)=(M.gr.T[x]?).map (·.u):=zU n M x _ _
theorem BW (g:Pi.Md) (t:Int) (k:Ke.K):(Pi.gd g t k).2.L=g.L:=by
 unfold Pi.gd
 split
 ·split<;>rfl
 ·rfl
theorem Aq (n:Nat) (M:Mc): ∀(l:List Nat) (g:Pi.Md),(l.foldl (jx n M) g).L=g.L
 |[],g=>rfl
 |y::l,g=>by rw[List.foldl_cons,Aq n M l];exact BW _ _ _
theorem jP (M:Mc) (n:Nat):(settle M n).gr.L=M.gr.L:=Aq n M _ _
section
variable {w wr w':World} {ad:Ad} {P n q T T':Nat} {M M':Mc} {K:Nat->Prop}
end
section
variable {w wr w':World} {ad:Ad} {T:Nat} {M M1:Mc} {K:Nat->Prop} {s:Nat} {p:Pm}
end
end Go.Proofs.YtjlbmmiomfpgiaaGreatDoor
namespace Go.Proofs.YtjlbmmiomfpgiaaGreatDoor
open Go.RowKit Go.Lib Go.Shelf
noncomputable def DG (n pr x:Nat) (M:Mc) (l:List Ev) (ar:Int):Mc×List Ev×Bool:=
 if (Pi.gQ M.gr (M.th x).p ar).1.2≠0 then(u6 M x ar,l++[⟨6,(pr:Int),(M.th x).p,(M.th x).g,2,(Pi.gQ M.gr (M.th x).p ar).1.2⟩],false)
 else if (Pi.gQ M.gr (M.th x).p ar).1.1=true then(u6 M x ar,l++[⟨5,(pr:Int),(M.th x).p,(M.th x).g,2,0⟩]++[⟨8,(pr:Int),(M.th x).p,(M.th x).g,ar,0⟩],false)
 else(lS {u6 M x ar with S:=bP n M.G M.S (M.th x).p (M.th x).g 3} pr (-1),l++[⟨5,(pr:Int),(M.th x).p,(M.th x).g,2,0⟩]++[⟨7,(pr:Int),(M.th x).p,(M.th x).g,ar,0⟩],true)
section
variable {w W:World} {lab labk:Nat->Nat} {a:Ad} {P n q T T':Nat} {M M':Mc} {sb pr:Nat} {l l':List Ev} {O:Nat->Prop}
end
end Go.Proofs.YtjlbmmiomfpgiaaGreatDoor
namespace Go.Proofs.YtjlbmmiomfpgiaaGreatDoor
open Go.RowKit
def vA (M:Mc) (x:Nat):Prop:= ∃k,nC M.pl (x,k)
def Uo (M:Mc) (x:Nat):Option Int:=(M.gr.T[x]?).map (·.u)
theorem Cg {n:Nat} {G:List (List En)} {x:Nat} {k:Ke.K} (y:Nat):(∃k',nC (dJ n (gh G) (x:Int) k) (y,k'))↔ ∃k',nC G (y,k'):=by
 unfold dJ
 split
 case isFalse=>rw[cM]
 case isTrue=>
  rw[cM]
  generalize ye n (gh G) (x:Int)=i
  cases hi:G[i]? with
  |none=>rw[List.set_eq_of_length_le (List.getElem?_eq_none_iff.1 hi)]
  |some X=>
   rw[bU (hZ hi)]
   have hil:=(zY0.1 hi).1
   have hids: ∀y,(∃k',(y,k')∈dq n X (x:Int) k)↔ ∃k',(y,k')∈X:=by
    intro y
    unfold dq
    split
    case isFalse=>exact Iff.rfl
    case isTrue hc=>
     split
     case isTrue=>exact Iff.rfl
     case isFalse=>
      have hk:(keyOf X ((x:Int)).toNat).isSome=true:=by
       unfold gI at hc
       split at hc
       ·cases hc
       ·split at hc
        ·assumption
        ·cases hc
      rw[show((x:Int)).toNat=x by omega] at hk⊢
      have hin: ∃k',(x,k')∈X:=by
       apply Classical.byContradiction
       intro hno
       have:keyOf X x=none:=bF.2 (fun z hz e=>hno ⟨z.2,by rw[←e];exact hz⟩)
       rw[this] at hk
       cases hk
      constructor
      ·rintro⟨k',hk'⟩
       rcases dN.1 hk' with q|q
       ·injection q with q1 q2
        rw[q1]
        exact hin
       ·exact⟨k',(iE.1 q).1⟩
      ·rintro⟨k',hk'⟩
       by_cases e:y=x
       ·exact⟨k,dN.2 (.inl (by rw[e]))⟩
       ·exact⟨k',dN.2 (.inr (iE.2 ⟨hk',e⟩))⟩
   constructor
   ·rintro⟨k',j,Y,hj,hm⟩
    by_cases e:j=i
    ·subst e
     rw[List.getElem?_set_self hil] at hj
     injection hj with hj
     subst hj
     obtain⟨k2,h2⟩:=(hids y).1 ⟨k',hm⟩
     exact⟨k2,_,X,hi,h2⟩
    ·rw[List.getElem?_set_ne (fun q=>e q.symm)] at hj
     exact⟨k',j,Y,hj,hm⟩
   ·rintro⟨k',j,Y,hj,hm⟩
    by_cases e:j=i
    ·subst e
     rw[hi] at hj
     injection hj with hj
     subst hj
     obtain⟨k2,h2⟩:=(hids y).2 ⟨k',hm⟩
     exact⟨k2,_,_,List.getElem?_set_self hil,h2⟩
    ·exact⟨k',j,Y,by rw[List.getElem?_set_ne (fun q=>e q.symm)];exact hj,hm⟩
theorem Cy {n:Nat} {G:List (List En)} {x:Int} {k:Ke.K}:(dJ n (gh G) x k).length=G.length:=by
 unfold dJ
 split
 ·rw[List.length_set,cM]
 ·rw[cM]
theorem mR (n:Nat) (M:Mc) (g:Pi.Md) (y:Nat): ∀(l:List Nat) (G:List (List En)),((∃k',nC (l.foldl (iA n M g) G) (y,k'))↔ ∃k',nC G (y,k'))/\(l.foldl (iA n M g) G).length=G.length
 |[],G=>⟨Iff.rfl,rfl⟩
 |x::l,G=>by
  obtain⟨h1,h2⟩:=mR n M g y l (iA n M g G x)
  have h3:((∃k',nC (iA n M g G x) (y,k'))↔ ∃k',nC G (y,k'))/\(iA n M g G x).length=G.length:=by
   unfold iA
   split
   ·exact⟨Cg y,Cy⟩
   ·exact⟨Iff.rfl,rfl⟩
  rw[List.foldl_cons]
  exact⟨h1.trans h3.1,h2.trans h3.2⟩
theorem sA (g:Pi.Md) (t:Int) (k:Ke.K) (h: ∀y∈g.T,Ke.aK y.k=true): ∀y∈(Pi.gd g t k).2.T,Ke.aK y.k=true:=by
 unfold Pi.gd
 split
 case isFalse=>exact h
 case isTrue hc=>
  split
  case h_2=>exact h
  case h_1 x hx=>
   intro y hy
   rcases List.mem_or_eq_of_mem_set hy with q|q
   ·exact h y q
   ·rw[q]
    simp only[Bool.and_eq_true] at hc
    exact hc.2
theorem xM (g:Pi.Md) (t:Int) (k:Ke.K):(Pi.gd g t k).2.T.length=g.T.length:=by
 unfold Pi.gd
 split
 ·split
  ·exact List.length_set
  ·rfl
 ·rfl
theorem lr (n:Nat) (M:Mc): ∀(l:List Nat) (g:Pi.Md),(∀y∈g.T,Ke.aK y.k=true)->(∀y∈(l.foldl (jx n M) g).T,Ke.aK y.k=true)
 |[],g,h=>h
 |x::l,g,h=>lr n M l _ (sA g _ _ h)
theorem oW (n:Nat) (M:Mc): ∀(l:List Nat) (g:Pi.Md),(l.foldl (jx n M) g).T.length=g.T.length
 |[],g=>rfl
 |x::l,g=>(oW n M l _).trans (xM g _ _)
structure Kd (M R:Mc):Prop where
 qu:R.qu=M.qu
 ag:R.ag=M.ag
 pr:R.pr=M.pr
 pc:R.pc=M.pc
 th:R.th=M.th
 G:R.G=M.G
 S:R.S=M.S
 sv:R.sv=M.sv
 nw:R.nw=M.nw
 wh:R.wh=M.wh
 L:R.gr.L=M.gr.L
 U: ∀x,Uo R x=Uo M x
 tl:R.gr.T.length=M.gr.T.length
 kr:(∀y∈M.gr.T,Ke.aK y.k=true)-> ∀y∈R.gr.T,Ke.aK y.k=true
 ip: ∀x,vA R x↔vA M x
 pl:R.pl.length=M.pl.length
theorem eo (M:Mc) (n:Nat):Kd M (settle M n):=
 ⟨rfl,rfl,rfl,rfl,rfl,rfl,rfl,rfl,rfl,rfl,jP M n,fun x=>AB M n x,oW n M _ _,fun h=>lr n M _ _ h,fun x=>(mR n M _ x _ _).1,(mR n M _ 0 _ _).2⟩
theorem wG {k k':Ke.K} (h:Ke.aK k=true) (h':Ke.aK k'=true):Ke.aK (Ke.dU k k')=true:=by
 unfold Ke.dU
 split<;>assumption
theorem rC {T:List Pi.Th} {L:List Pi.Lk} (h: ∀x∈T,Ke.aK x.k=true): ∀m t,Ke.aK (Pi.kf T L m t)=true
 |m,t=>by
  have h0:Ke.aK (Pi.lN T t)=true:=by
   unfold Pi.lN
   cases e:T[t]? with
   |none=>rfl
   |some x=>exact h x (zV0 e)
  cases m with
  |zero=>exact h0
  |succ m=>
   unfold Pi.kf
   have: ∀(l:List Nat) (k:Ke.K),Ke.aK k=true->Ke.aK (l.foldl (fun k x=>Ke.dU k (Pi.kf T L m x)) k)=true:=fun l=>by
    induction l with
    |nil=>exact fun k hk=>hk
    |cons x l ih=>exact fun k hk=>ih _ (wG hk (rC h m x))
   exact this _ _ h0
theorem mT {T:List Pi.Th} {L:List Pi.Lk} (h: ∀x∈T,Ke.aK x.k=true) (t:Int):Ke.aK (Pi.cQ T L t)=true:=by
 unfold Pi.cQ
 split
 ·unfold Pi.keyOf
  split
  ·exact rC h _ _
  ·rfl
 ·rfl
structure F7 (n:Nat) (M R:Mc) (x:Nat):Prop where
 qu:R.qu=M.qu
 ag:R.ag=M.ag
 pr:R.pr=M.pr
 pc:R.pc=M.pc
 th:R.th=Gt.au M.th x {M.th x with sn:=M.nw,lf:=0}
 G:R.G=M.G
 S:R.S=Gt.au M.S x 1
 sv:R.sv=if M.S x=2 then M.sv else Cb.jk M.sv (M.th x).sv M.nw
 nw:R.nw=M.nw
 wh:R.wh=M.wh
 L:R.gr.L=M.gr.L
 U: ∀y,Uo R y=Uo M y
 tl:R.gr.T.length=M.gr.T.length
 kr: ∀y∈R.gr.T,Ke.aK y.k=true
 ip: ∀y,vA R y↔y=x\/vA M y
 pl:R.pl.length=M.pl.length
theorem xc {s:Nat} (h:s=2\/s=3\/s=4):Gt.ml s 1=true:=by rcases h with rfl|rfl|rfl<;>rfl
theorem iS {P n q:Nat} {M:Mc} {x p:Nat} (hx:x<n) (hp:p<P) (hpl:M.pl.length=P+1) (hkr: ∀y∈M.gr.T,Ke.aK y.k=true) (hS:M.S x=1\/M.S x=2\/M.S x=3\/M.S x=4) (htp:(M.th x).p=(x:Int)) (htg:(M.th x).g=M.G x) (hno: ¬vA M x):F7 n M (ready P n q M x (p:Int)) x:=by
 have hs0:M.S x≠0:=by omega
 have hst:eX M n (M.th x)=M.S x:=vb hx htp htg hs0
 have hmv:bP n M.G M.S (M.th x).p (M.th x).g 1=Gt.au M.S x 1:=by
  rw[htp,htg]
  rcases hS with h|h
  ·rw[xV (by rw[h];rfl)]
   funext j
   by_cases e:j=x
   ·rw[e,Gt.aj,h]
   ·rw[Gt.af _ _ _ _ e]
  ·exact fu hx hs0 (xc h)
 have h1:cB n M x={M with S:=Gt.au M.S x 1,th:=Gt.au M.th x {M.th x with sn:=M.nw,lf:=0}}:=by unfold cB;rw[hmv]
 have h2:cW n M x={M with S:=Gt.au M.S x 1,th:=Gt.au M.th x {M.th x with sn:=M.nw,lf:=0},sv:=if M.S x=2 then M.sv else Cb.jk M.sv (M.th x).sv M.nw}:=by
  unfold cW
  rw[hst,h1]
  split<;>rfl
 have k:=eo (cW n M x) n
 rw[h2] at k
 have hR3:bu n M x=settle {M with S:=Gt.au M.S x 1,th:=Gt.au M.th x {M.th x with sn:=M.nw,lf:=0},sv:=if M.S x=2 then M.sv else Cb.jk M.sv (M.th x).sv M.nw} n:=by unfold bu;rw[h2]
 unfold ready
 rw[hR3]
 generalize settle {M with S:=Gt.au M.S x 1,th:=Gt.au M.th x {M.th x with sn:=M.nw,lf:=0},sv:=if M.S x=2 then M.sv else Cb.jk M.sv (M.th x).sv M.nw} n=R3 at*
 have hkr3:=k.kr hkr
 refine⟨k.qu,k.ag,k.pr,k.pc,k.th,k.G,k.S,k.sv,k.nw,k.wh,k.L,k.U,k.tl,hkr3,fun y=> ?_,(xG _ _ _).trans k.pl⟩
 have hno3: ∀z,nC R3.pl z->z.1≠x:=fun z hz e=>hno ((k.ip x).1 ⟨z.2,by rw[←e];exact hz⟩)
 have hpi:=CM (q:=q) (np:=P) (n:=n) (k.pl.trans hpl) hp hx (mT (L:=R3.gr.L) hkr3 (x:Int)) hno3
 constructor
 ·rintro⟨k',hk'⟩
  rcases(hpi (y,k')).1 hk' with q|q
  ·injection q with q1 q2
   exact .inl q1
  ·exact .inr ((k.ip y).1 ⟨k',q⟩)
 ·rintro(rfl|q)
  ·exact⟨_,(hpi _).2 (.inl rfl)⟩
  ·obtain⟨k',hk'⟩:=(k.ip y).2 q
   exact⟨k',(hpi _).2 (.inr hk')⟩
structure Fl (P:Nat) (M:Mc) (x:Nat):Prop where
 p:(M.th x).p=(x:Int)
 g:(M.th x).g=M.G x
 pg: ∃k:Nat,k<M.pr.length/\(M.th x).pg=(k:Int)
 pc: ∃p:Nat,p<P/\(M.th x).pc=(p:Int)
theorem Fl.cg {P:Nat} {M R:Mc} {x:Nat} (t:Fl P M x) (h1:R.th x=M.th x) (h2:R.G x=M.G x) (h3:R.pr=M.pr):Fl P R x:=
 ⟨by rw[h1];exact t.p,by rw[h1,h2];exact t.g,by rw[h1,h3];exact t.pg,by rw[h1];exact t.pc⟩
structure Iv (P n B:Nat) (D:List Nat) (M:Mc):Prop where
 tl:M.gr.T.length=n
 pl:M.pl.length=P+1
 kr: ∀y∈M.gr.T,Ke.aK y.k=true
 qu:1<=M.qu
 sl: ∀p,p<P->(M.pc p).s<M.qu
 r1: ∀p,p<P->(M.pc p).r= -1\/ ∃x:Nat,x<n/\(M.pc p).r=(x:Int)/\M.S x=2
 r2: ∀x,x<n->M.S x=2-> ∃p,p<P/\(M.pc p).r=(x:Int)
 r3: ∀p p',p<P->p'<P->(M.pc p).r=(M.pc p').r->(M.pc p).r≠ -1->p=p'
 th: ∀x,x<n->M.S x≠0->Fl P M x
 st: ∀x,x<n->M.S x<=4
 rd: ∀x,vA M x↔x<n/\M.S x=1
 bl: ∀x,x<n->(M.S x=3↔Uo M x≠some (-1))
 sp: ∀x,x<n->(M.S x=4↔(∃it∈M.wh,it.i=x)\/x∈D)
 wl: ∀it∈M.wh,it.i<n
 wt: ∀(m:Nat) y,M.gr.L[m]? =some y-> ∀t∈y.l,t<n/\Uo M t=some (m:Int)
 nd: ∀y∈M.gr.L,y.l.Nodup
 l32:M.gr.L.length<=32
 gb: ∀x,x<n->M.G x<=B
section
variable {P n q B:Nat} {D:List Nat} {M R:Mc}
theorem Iv.kd (h:Iv P n B D M) (k:Kd M R):Iv P n B D R:=
 ⟨k.tl.trans h.tl,k.pl.trans h.pl,k.kr h.kr,by rw[k.qu];exact h.qu,by rw[k.pc,k.qu];exact h.sl,by rw[k.pc,k.S];exact h.r1,by rw[k.pc,k.S];exact h.r2,by rw[k.pc];exact h.r3,
  fun x hx hs=>(by rw[k.S] at hs;have t:=h.th x hx hs;exact⟨by rw[k.th];exact t.p,by rw[k.th,k.G];exact t.g,by rw[k.th,k.pr];exact t.pg,by rw[k.th];exact t.pc⟩),by rw[k.S];exact h.st,
  fun x=>by rw[k.ip,k.S];exact h.rd x,fun x hx=>by rw[k.S,k.U];exact h.bl x hx,by rw[k.S,k.wh];exact h.sp,by rw[k.wh];exact h.wl,
  fun m y hy t ht=>by rw[k.L] at hy;rw[k.U];exact h.wt m y hy t ht,by rw[k.L];exact h.nd,by rw[k.L];exact h.l32,by rw[k.G];exact h.gb⟩
theorem Iv.settle (h:Iv P n B D M):Iv P n B D (Go.Proofs.YtjlbmmiomfpgiaaGreatDoor.settle M n):=h.kd (eo M n)
theorem Iv.more (h:Iv P n B D M) {B':Nat} (hb:B<=B'):Iv P n B' D M:=⟨h.tl,h.pl,h.kr,h.qu,h.sl,h.r1,h.r2,h.r3,h.th,h.st,h.rd,h.bl,h.sp,h.wl,h.wt,h.nd,h.l32,fun x hx=>yX0 (h.gb x hx) hb⟩
theorem Iv.DC (h:Iv P n B D M) (x:Nat) (t:Tr) (h1:t.p=(M.th x).p) (h2:t.g=(M.th x).g) (h3:t.pg=(M.th x).pg) (h4:t.pc=(M.th x).pc):Iv P n B D {M with th:=Gt.au M.th x t}:=by
 refine⟨h.tl,h.pl,h.kr,h.qu,h.sl,h.r1,h.r2,h.r3,fun y hy hs=> ?_,h.st,h.rd,h.bl,h.sp,h.wl,h.wt,h.nd,h.l32,h.gb⟩
 have t0:=h.th y hy hs
 by_cases e:y=x
 ·subst e
  exact⟨by show(Gt.au M.th y t y).p=_;rw[Gt.aj,h1];exact t0.p,by show(Gt.au M.th y t y).g=_;rw[Gt.aj,h2];exact t0.g,by show∃k:Nat,k<M.pr.length/\(Gt.au M.th y t y).pg=_;rw[Gt.aj,h3];exact t0.pg,by show∃p:Nat,p<P/\(Gt.au M.th y t y).pc=_;rw[Gt.aj,h4];exact t0.pc⟩
 ·exact⟨by show(Gt.au M.th x t y).p=_;rw[Gt.af _ _ _ _ e];exact t0.p,by show(Gt.au M.th x t y).g=_;rw[Gt.af _ _ _ _ e];exact t0.g,by show∃k:Nat,k<M.pr.length/\(Gt.au M.th x t y).pg=_;rw[Gt.af _ _ _ _ e];exact t0.pg,by show∃p:Nat,p<P/\(Gt.au M.th x t y).pc=_;rw[Gt.af _ _ _ _ e];exact t0.pc⟩
theorem Iv.leave (h:Iv P n B D M) {pr x s:Nat} (hp:pr<P) (hx:x<n) (hr:(M.pc pr).r=(x:Int)) (hs:s<=4) (hs2:s≠2)
  (hS:R.S=Gt.au M.S x s) (hpc:R.pc=Gt.au M.pc pr {M.pc pr with r:= -1}) (hqu:R.qu=M.qu) (htl:R.gr.T.length=n) (hpl:R.pl.length=P+1) (hkr: ∀y∈R.gr.T,Ke.aK y.k=true)
  (hth: ∀y,y<n->R.S y≠0->Fl P R y) (hrd: ∀y,vA R y↔(y=x/\s=1)\/vA M y) (hbl: ∀y,y<n->y≠x->Uo R y=Uo M y) (hblx:s=3↔Uo R x≠some (-1))
  (hwh: ∀y,y<n->((∃it∈R.wh,it.i=y)↔(y=x/\s=4)\/ ∃it∈M.wh,it.i=y)) (hwl: ∀it∈R.wh,it.i<n) (hwt: ∀(m:Nat) y,R.gr.L[m]? =some y-> ∀t∈y.l,t<n/\Uo R t=some (m:Int)) (hnd: ∀y∈R.gr.L,y.l.Nodup) (hl:R.gr.L.length<=32) (hG:R.G=M.G):Iv P n B D R:=by
 have hx2:M.S x=2:=by
  rcases h.r1 pr hp with q|⟨y,_,q1,q2⟩
  ·omega
  ·have:y=x:=by omega
   rw[←this];exact q2
 have es: ∀y,y≠x->R.S y=M.S y:=fun y e=>by rw[hS,Gt.af _ _ _ _ e]
 have ex:R.S x=s:=by rw[hS,Gt.aj]
 have ep: ∀p,p≠pr->R.pc p=M.pc p:=fun p e=>by rw[hpc,Gt.af _ _ _ _ e]
 have epr:R.pc pr={M.pc pr with r:= -1}:=by rw[hpc,Gt.aj]
 refine⟨htl,hpl,hkr,by rw[hqu];exact h.qu,fun p hp'=> ?_,fun p hp'=> ?_,fun y hy hy2=> ?_,fun p p' hp' hp'' e hne=> ?_,hth,fun y hy=> ?_,fun y=> ?_,fun y hy=> ?_,fun y hy=> ?_,hwl,hwt,hnd,hl,by rw[hG];exact h.gb⟩
 ·rw[hqu]
  by_cases e:p=pr
  ·rw[e,epr];exact h.sl pr hp
  ·rw[ep p e];exact h.sl p hp'
 ·by_cases e:p=pr
  ·exact .inl (by rw[e,epr])
  ·rw[ep p e]
   rcases h.r1 p hp' with q|⟨y,q1,q2,q3⟩
   ·exact .inl q
   ·refine .inr ⟨y,q1,q2,?_⟩
    rw[es y (fun e2=>e (h.r3 p pr hp' hp (by rw[q2,hr,e2]) (by omega)))]
    exact q3
 ·by_cases e:y=x
  ·rw[e,ex] at hy2;exact absurd hy2 hs2
  ·rw[es y e] at hy2
   obtain⟨p,q1,q2⟩:=h.r2 y hy hy2
   refine⟨p,q1,?_⟩
   rw[ep p (fun e2=>e (by rw[e2,hr] at q2;omega))]
   exact q2
 ·by_cases e1:p=pr
  ·rw[e1,epr] at hne;exact absurd rfl hne
  ·by_cases e2:p'=pr
   ·rw[e,e2,epr] at hne;exact absurd rfl hne
   ·rw[ep p e1,ep p' e2] at e
    rw[ep p e1] at hne
    exact h.r3 p p' hp' hp'' e hne
 ·by_cases e:y=x
  ·rw[e,ex];exact hs
  ·rw[es y e];exact h.st y hy
 ·rw[hrd,h.rd]
  by_cases e:y=x
  ·subst e
   rw[ex,hx2]
   constructor
   ·rintro(⟨_,q⟩|⟨_,q⟩)
    ·exact⟨hx,q⟩
    ·omega
   ·rintro⟨_,q⟩
    exact .inl ⟨rfl,q⟩
  ·rw[es y e]
   constructor
   ·rintro(⟨q,_⟩|q)
    ·exact absurd q e
    ·exact q
   ·exact .inr
 ·by_cases e:y=x
  ·subst e;rw[ex];exact hblx
  ·rw[es y e,hbl y hy e];exact h.bl y hy
 ·rw[hwh y hy]
  have hm:=h.sp y hy
  by_cases e:y=x
  ·subst e
   rw[ex]
   constructor
   ·intro q;exact .inl (.inl ⟨rfl,q⟩)
   ·rintro((⟨_,q⟩|q)|q)
    ·exact q
    ·have:=hm.2 (.inl q);omega
    ·have:=hm.2 (.inr q);omega
  ·rw[es y e,hm]
   constructor
   ·rintro(q|q)
    ·exact .inl (.inr q)
    ·exact .inr q
   ·rintro((⟨q,_⟩|q)|q)
    ·exact absurd q e
    ·exact .inl q
    ·exact .inr q
theorem Iv.Hh (h:Iv P n B D M) {N:Mc} {x:Nat} {D':List Nat} (hx:x<n) (hN:F7 n N R x)
  (e1:N.qu=M.qu) (e2:N.pr=M.pr) (e3:N.pc=M.pc) (e5: ∀y,y<n->y≠x->N.S y=M.S y/\N.G y=M.G y/\N.th y=M.th y) (htx:Fl P N x) (hns:M.S x≠2) (hgx:N.G x<=B)
  (htl:N.gr.T.length=n) (hpl:N.pl.length=P+1) (hrd: ∀y,y≠x->(vA N y↔vA M y)) (hU: ∀y,y<n->y≠x->Uo N y=Uo M y) (hUx:Uo N x=some (-1))
  (hwh:N.wh=M.wh) (hwx: ¬ ∃it∈M.wh,it.i=x) (hD: ∀y,y∈D'↔y∈D/\y≠x) (hwt: ∀(m:Nat) y,N.gr.L[m]? =some y-> ∀t∈y.l,t<n/\Uo N t=some (m:Int)) (hnd: ∀y∈N.gr.L,y.l.Nodup) (hl:N.gr.L.length<=32):Iv P n B D' R:=by
 have es: ∀y,y<n->y≠x->R.S y=M.S y:=fun y hy e=>by rw[hN.S,Gt.af _ _ _ _ e];exact(e5 y hy e).1
 have ex:R.S x=1:=by rw[hN.S,Gt.aj]
 have epc:R.pc=M.pc:=hN.pc.trans e3
 refine⟨hN.tl.trans htl,hN.pl.trans hpl,hN.kr,by rw[hN.qu,e1];exact h.qu,by rw[epc,hN.qu,e1];exact h.sl,fun p hp=> ?_,fun y hy hy2=> ?_,by rw[epc];exact h.r3,fun y hy hs=> ?_,fun y hy=> ?_,fun y=> ?_,fun y hy=> ?_,fun y hy=> ?_,by rw[hN.wh,hwh];exact h.wl,
  fun m y hy t ht=>by rw[hN.L] at hy;rw[hN.U];exact hwt m y hy t ht,by rw[hN.L];exact hnd,by rw[hN.L];exact hl,fun y hy=> ?_⟩
 ·rw[epc]
  rcases h.r1 p hp with q|⟨y,q1,q2,q3⟩
  ·exact .inl q
  ·exact .inr ⟨y,q1,q2,by rw[es y q1 (fun e=>hns (by rw[←e];exact q3))];exact q3⟩
 ·rw[epc]
  by_cases e:y=x
  ·rw[e,ex] at hy2;cases hy2
  ·rw[es y hy e] at hy2;exact h.r2 y hy hy2
 ·by_cases e:y=x
  ·subst e
   exact⟨by rw[hN.th,Gt.aj];exact htx.p,by rw[hN.th,Gt.aj,hN.G];exact htx.g,by rw[hN.th,Gt.aj,hN.pr];exact htx.pg,by rw[hN.th,Gt.aj];exact htx.pc⟩
  ·rw[es y hy e] at hs
   have t0:=h.th y hy hs
   obtain⟨_,g2,g3⟩:=e5 y hy e
   exact⟨by rw[hN.th,Gt.af _ _ _ _ e,g3];exact t0.p,by rw[hN.th,Gt.af _ _ _ _ e,hN.G,g3,g2];exact t0.g,by rw[hN.th,Gt.af _ _ _ _ e,hN.pr,g3,e2];exact t0.pg,by rw[hN.th,Gt.af _ _ _ _ e,g3];exact t0.pc⟩
 ·by_cases e:y=x
  ·rw[e,ex];omega
  ·rw[es y hy e];exact h.st y hy
 ·rw[hN.ip]
  by_cases e:y=x
  ·subst e
   exact⟨fun _=>⟨hx,ex⟩,fun _=> .inl rfl⟩
  ·rw[hrd y e,h.rd]
   constructor
   ·rintro(q|⟨q1,q2⟩)
    ·exact absurd q e
    ·exact⟨q1,by rw[es y q1 e];exact q2⟩
   ·rintro⟨q1,q2⟩
    rw[es y q1 e] at q2
    exact .inr ⟨q1,q2⟩
 ·by_cases e:y=x
  ·subst e
   rw[ex,hN.U,hUx]
   constructor
   ·intro q;cases q
   ·intro q;exact absurd rfl q
  ·rw[es y hy e,hN.U,hU y hy e];exact h.bl y hy
 ·rw[hN.wh,hwh,hD]
  by_cases e:y=x
  ·subst e
   rw[ex]
   constructor
   ·intro q;cases q
   ·rintro(q|⟨_,q⟩)
    ·exact absurd q hwx
    ·exact absurd rfl q
  ·rw[es y hy e,h.sp y hy]
   constructor
   ·rintro(q|q)
    ·exact .inl q
    ·exact .inr ⟨q,e⟩
   ·rintro(q|⟨q,_⟩)
    ·exact .inl q
    ·exact .inr q
 ·rw[hN.G]
  by_cases e:y=x
  ·rw[e];exact hgx
  ·rw[(e5 y hy e).2.1];exact h.gb y hy
end
section
variable {P n q B:Nat} {D:List Nat} {M R:Mc}
theorem Iv.run (h:Iv P n B D M) {pr x:Nat} (hp:pr<P) (hr:(M.pc pr).r=(x:Int)):x<n/\M.S x=2:=by
 rcases h.r1 pr hp with q|⟨y,q0,q1,q2⟩
 ·omega
 ·have:y=x:=by omega
  rw[←this];exact⟨q0,q2⟩
theorem Iv.FD (h:Iv P n B D M) {x:Nat} (hx:x<n) (hs:M.S x≠3):Uo M x=some (-1):=by
 apply Classical.byContradiction
 intro q
 exact hs ((h.bl x hx).2 q)
theorem Iv.G1 (h:Iv P n B D M) {x:Nat} (hs:M.S x≠1): ¬vA M x:=fun q=>hs ((h.rd x).1 q).2
theorem Iv.GF (h:Iv P n B D M) {x:Nat} (hx:x<n) (hs:M.S x≠4):(¬ ∃it∈M.wh,it.i=x)/\x ∉ D:=⟨fun q=>hs ((h.sp x hx).2 (.inl q)),fun q=>hs ((h.sp x hx).2 (.inr q))⟩
theorem Iv.BM (h:Iv P n B D M) {w:World} {O:Nat->Prop} {pb T pr x:Nat} {d:Int} (hpq:PQ w O pb n P q T M.pl) (hp:pr<P) (hr:(M.pc pr).r= -1) (hb:(bb P (gh M.pl) (pr:Int) d).isSome=true) (hbi:bI (gh M.pl) (bb P (gh M.pl) (pr:Int) d)=(x:Int)):Iv P n B D (dd P n M pr x d):=by
 obtain⟨y,k,hx,hbi2,hent,_,htk⟩:=nI hpq hb
 have e0:y=x:=by rw[hbi] at hbi2;omega
 subst e0
 have hS1:M.S y=1:=((h.rd y).1 ⟨k,hent⟩).2
 have t0:=h.th y hx (by omega)
 have hmv:bP n M.G M.S (M.th y).p (M.th y).g 2=Gt.au M.S y 2:=by rw[t0.p,t0.g];exact fu hx (by omega) (by rw[hS1];rfl)
 have hip: ∀z,vA (dd P n M pr y d) z↔vA M z/\z≠y:=fun z=>by
  show(∃k,nC (gj P (gh M.pl) (pr:Int) d) (z,k))↔_
  constructor
  ·rintro⟨k',hk'⟩
   have:=(htk _).1 hk'
   exact⟨⟨k',this.1⟩,this.2⟩
  ·rintro⟨⟨k',hk'⟩,e⟩
   exact⟨k',(htk _).2 ⟨hk',e⟩⟩
 have eS:(dd P n M pr y d).S=Gt.au M.S y 2:=hmv
 have es: ∀z,z≠y->(dd P n M pr y d).S z=M.S z:=fun z e=>by rw[eS,Gt.af _ _ _ _ e]
 have ex:(dd P n M pr y d).S y=2:=by rw[eS,Gt.aj]
 have ep: ∀p,p≠pr->(dd P n M pr y d).pc p=M.pc p:=fun p e=>by show Gt.au M.pc pr _ p=_;rw[Gt.af _ _ _ _ e]
 have epr:(dd P n M pr y d).pc pr=⟨(y:Int),0,false⟩:=by show Gt.au M.pc pr _ pr=_;rw[Gt.aj]
 have et: ∀z,z≠y->(dd P n M pr y d).th z=M.th z:=fun z e=>by show Gt.au M.th y _ z=_;rw[Gt.af _ _ _ _ e]
 have ety:(dd P n M pr y d).th y={M.th y with pc:=(pr:Int),lf:=(cJ M (M.th y)).toNat}:=by show Gt.au M.th y _ y=_;rw[Gt.aj]
 refine⟨h.tl,(C4 _ _).trans h.pl,h.kr,h.qu,fun p hp'=> ?_,fun p hp'=> ?_,fun z hz hz2=> ?_,fun p p' hp' hp'' e hne=> ?_,fun z hz hs=> ?_,fun z hz=> ?_,fun z=> ?_,fun z hz=> ?_,fun z hz=> ?_,h.wl,h.wt,h.nd,h.l32,h.gb⟩
 ·by_cases e:p=pr
  ·rw[e,epr];exact h.qu
  ·rw[ep p e];exact h.sl p hp'
 ·by_cases e:p=pr
  ·exact .inr ⟨y,hx,by rw[e,epr],ex⟩
  ·rw[ep p e]
   rcases h.r1 p hp' with q|⟨z,q1,q2,q3⟩
   ·exact .inl q
   ·exact .inr ⟨z,q1,q2,by rw[es z (fun e2=>by rw[e2] at q3;omega)];exact q3⟩
 ·by_cases e:z=y
  ·exact⟨pr,hp,by rw[epr,e]⟩
  ·rw[es z e] at hz2
   obtain⟨p,q1,q2⟩:=h.r2 z hz hz2
   exact⟨p,q1,by rw[ep p (fun e2=>by rw[e2,hr] at q2;omega)];exact q2⟩
 ·have ft: ∀p,p<P->p≠pr->((dd P n M pr y d).pc p).r≠(y:Int):=fun p hp1 e1 q=>by
   rw[ep p e1] at q
   have:=(h.run hp1 q).2
   omega
  by_cases e1:p=pr
  ·by_cases e2:p'=pr
   ·rw[e1,e2]
   ·exact absurd (by rw[←e,e1,epr]) (ft p' hp'' e2)
  ·by_cases e2:p'=pr
   ·exact absurd (by rw[e,e2,epr]) (ft p hp' e1)
   ·rw[ep p e1,ep p' e2] at e
    rw[ep p e1] at hne
    exact h.r3 p p' hp' hp'' e hne
 ·by_cases e:z=y
  ·subst e
   exact⟨by rw[ety];exact t0.p,by rw[ety];exact t0.g,by rw[ety];exact t0.pg,by rw[ety];exact⟨pr,hp,rfl⟩⟩
  ·rw[es z e] at hs
   have t1:=h.th z hz hs
   exact⟨by rw[et z e];exact t1.p,by rw[et z e];exact t1.g,by rw[et z e];exact t1.pg,by rw[et z e];exact t1.pc⟩
 ·by_cases e:z=y
  ·rw[e,ex];omega
  ·rw[es z e];exact h.st z hz
 ·rw[hip z]
  by_cases e:z=y
  ·subst e
   rw[ex]
   constructor
   ·rintro⟨_,q⟩;exact absurd rfl q
   ·rintro⟨_,q⟩;cases q
  ·rw[es z e,←h.rd z]
   exact⟨fun q=>q.1,fun q=>⟨q,e⟩⟩
 ·show _↔Uo M z≠some (-1)
  by_cases e:z=y
  ·subst e
   rw[ex,h.FD hx (by omega)]
   constructor
   ·intro q;cases q
   ·intro q;exact absurd rfl q
  ·rw[es z e];exact h.bl z hz
 ·by_cases e:z=y
  ·subst e
   rw[ex]
   have:=h.GF hx (by omega)
   constructor
   ·intro q;cases q
   ·rintro(q|q)
    ·exact absurd q this.1
    ·exact absurd q this.2
  ·rw[es z e];exact h.sp z hz
theorem Iv.oe (h:Iv P n B D M) {L':List Pi.Lk} (hl:L'.length=M.gr.L.length) (hy: ∀(m:Nat) y,L'[m]? =some y-> ∃y0,M.gr.L[m]? =some y0/\y.l=y0.l):Iv P n B D {M with gr:=⟨M.gr.T,L'⟩}:=by
 refine⟨h.tl,h.pl,h.kr,h.qu,h.sl,h.r1,h.r2,h.r3,fun x hx hs=>(h.th x hx hs).cg rfl rfl rfl,h.st,h.rd,h.bl,h.sp,h.wl,fun m y hm t ht=> ?_,fun y hm=> ?_,by show L'.length<=32;rw[hl];exact h.l32,h.gb⟩
 ·obtain⟨y0,q1,q2⟩:=hy m y hm
  exact h.wt m y0 q1 t (by rw[←q2];exact ht)
 ·obtain⟨m,hm⟩:=List.getElem?_of_mem hm
  obtain⟨y0,q1,q2⟩:=hy m y hm
  rw[q2]
  exact h.nd y0 (zV0 q1)
theorem yn {L:List Pi.Lk} {m:Nat} {y:Pi.Lk} (hm:L[m]? =some y) (u:Int): ∀(j:Nat) z,(L.set m ⟨u,y.l⟩)[j]? =some z-> ∃z0,L[j]? =some z0/\z.l=z0.l:=fun j z hz=>by
 by_cases e:m=j
 ·subst e
  rw[List.getElem?_set_self (zY0.1 hm).1] at hz
  injection hz with hz
  exact⟨y,hm,by rw[←hz]⟩
 ·rw[List.getElem?_set_ne e] at hz
  exact⟨z,hz,rfl⟩
theorem Iv.free (h:Iv P n B D M) {m:Nat} {y:Pi.Lk} (hm:M.gr.L[m]? =some y) (u:Int):Iv P n B D {M with gr:=⟨M.gr.T,M.gr.L.set m ⟨u,y.l⟩⟩}:=h.oe List.length_set (yn hm u)
end
section
variable {P n q B:Nat} {D:List Nat} {M R:Mc}
theorem td {g:Pi.Md} {t m:Int} (h: ¬Pi.sU g.T g.L t m≠0):(0<=t/\t<(g.T.length:Int))/\0<=m/\m<(g.L.length:Int):=by
 have h0:Pi.sU g.T g.L t m=0:=by omega
 unfold Pi.sU at h0
 split at h0
 ·rename_i hc
  simp only[Bool.and_eq_true] at hc
  unfold Pi.lT Pi.zM at hc
  exact⟨by simpa using hc.1,by simpa using hc.2⟩
 ·cases h0
theorem vV (g:Pi.Md) (t m:Int):((Pi.gQ g t m).1.2≠0/\(Pi.gQ g t m).2=g)\/(∃y,g.L[m.toNat]? =some y/\(Pi.gQ g t m).1=(true,0)/\(Pi.gQ g t m).2=⟨g.T,g.L.set m.toNat ⟨t,y.l⟩⟩)\/
  ∃(x:Pi.Th) (y:Pi.Lk),g.T[t.toNat]? =some x/\g.L[m.toNat]? =some y/\0<=m/\(Pi.gQ g t m).1=(false,0)/\(Pi.gQ g t m).2=⟨g.T.set t.toNat ⟨x.k,m⟩,g.L.set m.toNat ⟨y.h,y.l++[t.toNat]⟩⟩:=by
 unfold Pi.gQ
 split
 ·rename_i hme
  exact .inl ⟨hme,rfl⟩
 ·rename_i hme
  obtain⟨⟨t0,t1⟩,m0,m1⟩:=td hme
  have hx:g.T[t.toNat]? =some (g.T[t.toNat]'(by omega)):=yV0 _
  have hy:g.L[m.toNat]? =some (g.L[m.toNat]'(by omega)):=yV0 _
  rw[hx,hy]
  dsimp only
  split
  ·exact .inl ⟨(by decide:(7:Int)≠0),rfl⟩
  ·split
   ·exact .inr (.inl ⟨_,rfl,rfl,rfl⟩)
   ·split
    ·exact .inl ⟨(by decide:(8:Int)≠0),rfl⟩
    ·exact .inr (.inr ⟨_,_,rfl,rfl,m0,rfl,rfl⟩)
theorem Iv.lock (h:Iv P n B D M) {pr x:Nat} (hp:pr<P) (hr:(M.pc pr).r=(x:Int)) (l:List Ev) (ar:Int):Iv P n B D (DG n pr x M l ar).1:=by
 obtain⟨hx,hx2⟩:=h.run hp hr
 have t0:=h.th x hx (by omega)
 have hu:=h.FD hx (by omega)
 unfold DG u6
 rcases vV M.gr (M.th x).p ar with ⟨e1,e2⟩|⟨y,hy,e1,e2⟩|⟨z,y,hz,hy,h0,e1,e2⟩
 ·rw[if_pos e1]
  show Iv P n B D {M with gr:=_}
  rw[e2]
  exact h
 ·rw[e1,if_neg (by simp),if_pos rfl]
  show Iv P n B D {M with gr:=_}
  rw[e2]
  exact h.free hy _
 ·rw[e1,if_neg (by simp),if_neg (by simp)]
  show Iv P n B D (lS {{M with gr:=(Pi.gQ M.gr (M.th x).p ar).2} with S:=bP n M.G M.S (M.th x).p (M.th x).g 3} pr (-1))
  rw[e2]
  have hmv:bP n M.G M.S (M.th x).p (M.th x).g 3=Gt.au M.S x 3:=by rw[t0.p,t0.g];exact fu hx (by omega) (by rw[hx2];rfl)
  rw[hmv]
  have ex:(M.th x).p.toNat=x:=by rw[t0.p];omega
  rw[ex] at hz⊢
  obtain⟨m,rfl⟩:=Int.eq_ofNat_of_zero_le h0
  rw[show((m:Int)).toNat=m by omega] at hy⊢
  have hxt:x<M.gr.T.length:=by rw[h.tl];exact hx
  have hmlt:=(zY0.1 hy).1
  have hUx:((M.gr.T.set x ⟨z.k,(m:Int)⟩)[x]?).map (·.u)=some ((m:Int)):=by rw[List.getElem?_set_self hxt];rfl
  have hUo: ∀y,y≠x->((M.gr.T.set x ⟨z.k,(m:Int)⟩)[y]?).map (·.u)=Uo M y:=fun y e=>by rw[List.getElem?_set_ne (fun q=>e q.symm)];rfl
  have hnx: ∀(j:Nat) u,M.gr.L[j]? =some u->x ∉ u.l:=fun j u hj q=>by
   have:=(h.wt j u hj x q).2
   rw[hu] at this
   injection this with this
   omega
  refine h.leave (s:=3) hp hx hr (by omega) (by omega) rfl rfl rfl (List.length_set.trans h.tl) h.pl (fun u hu'=> ?_) (fun v hv hs=>(h.th v hv (fun e=>hs ?_)).cg rfl rfl rfl) (fun v=>⟨.inr,fun q=>q.elim (fun q=>by omega) id⟩) (fun v hv e=>hUo v e) ?_ (fun v hv=>⟨.inr,fun q=>q.elim (fun q=>by omega) id⟩) h.wl (fun j u hj t ht=> ?_) (fun u hu'=> ?_) (by show(M.gr.L.set _ _).length<=32;rw[List.length_set];exact h.l32) rfl
  ·rcases List.mem_or_eq_of_mem_set hu' with q|q
   ·exact h.kr u q
   ·rw[q];exact h.kr z (zV0 hz)
  ·show Gt.au M.S x 3 v=0
   by_cases e2:v=x
   ·rw[e2] at e;omega
   ·rw[Gt.af _ _ _ _ e2];exact e
  ·constructor
   ·intro _ q
    have q':((M.gr.T.set x ⟨z.k,(m:Int)⟩)[x]?).map (·.u)=some (-1):=q
    rw[hUx] at q'
    injection q' with q'
    omega
   ·intro _;rfl
  ·have hj':(M.gr.L.set m ⟨y.h,y.l++[x]⟩)[j]? =some u:=hj
   show t<n/\((M.gr.T.set x ⟨z.k,(m:Int)⟩)[t]?).map (·.u)=some (j:Int)
   by_cases e:m=j
   ·subst e
    rw[List.getElem?_set_self hmlt] at hj'
    injection hj' with hj'
    subst hj'
    rcases List.mem_append.1 ht with q|q
    ·obtain⟨q1,q2⟩:=h.wt m y hy t q
     exact⟨q1,by rw[hUo t (fun e=>hnx m y hy (e▸q))];exact q2⟩
    ·have e2:t=x:=by simpa using q
     subst e2
     exact⟨hx,hUx⟩
   ·rw[List.getElem?_set_ne e] at hj'
    obtain⟨q1,q2⟩:=h.wt j u hj' t ht
    exact⟨q1,by rw[hUo t (fun e=>hnx j u hj' (e▸ht))];exact q2⟩
  ·have hu2:u∈M.gr.L.set m ⟨y.h,y.l++[x]⟩:=hu'
   rcases List.mem_or_eq_of_mem_set hu2 with q|q
   ·exact h.nd u q
   ·rw[q]
    show(y.l++[x]).Nodup
    rw[List.nodup_append]
    refine⟨h.nd y (zV0 hy),by simp,fun a ha b hb e=> ?_⟩
    have:b=x:=by simpa using hb
    exact hnx m y hy (by rw[←this,←e];exact ha)
theorem free_spec {M:Mc} {n y:Nat} (h:cV M n=some y):y<n/\M.S y=0:=by
 refine⟨oD h,?_⟩
 unfold cV at h
 cases hl:(Gt.pl M.S true n n).head? with
 |none=>rw[hl] at h;cases h
 |some z=>
  rw[hl] at h
  injection h with h
  have:=(pe n (i8 _) z).1 (List.mem_of_mem_head? hl)
  rw[←h]
  simpa using this.2
theorem Iv.DW (h:Iv P n B D M) {y p:Nat} (hp:p<P) (hf:cV M n=some y) (pg:Int) (lv:Nat) (sv:Int) (hpg:jY M pg=true):Iv P n (B+1) D (gL P n q M y (p:Int) (fa pg lv sv)):=by
 obtain⟨hy,hy0⟩:=free_spec hf
 unfold jY at hpg
 simp only[Bool.and_eq_true,decide_eq_true_eq] at hpg
 obtain⟨k,rfl⟩:=Int.eq_ofNat_of_zero_le hpg.1
 have hk:k<M.pr.length:=by have:=hpg.2;omega
 have hB:=h.more (Nat.le_succ B)
 have hnw:=h.GF hy (by omega)
 have hni:=h.G1 (x:=y) (by omega)
 have hu:=h.FD hy (by omega)
 unfold gL
 have hS:({di M y with th:=Gt.au M.th y {fa (k:Int) lv sv with p:=(y:Int),g:=M.G y+1}}:Mc).S y=1:=by show Gt.au M.S y 1 y=1;rw[Gt.aj]
 have htp:(({di M y with th:=Gt.au M.th y {fa (k:Int) lv sv with p:=(y:Int),g:=M.G y+1}}:Mc).th y)={fa (k:Int) lv sv with p:=(y:Int),g:=M.G y+1}:=by show Gt.au M.th y _ y=_;rw[Gt.aj]
 have hGy:({di M y with th:=Gt.au M.th y {fa (k:Int) lv sv with p:=(y:Int),g:=M.G y+1}}:Mc).G y=M.G y+1:=by show Gt.au M.G y _ y=_;rw[Gt.aj]
 have kk:=iS (P:=P) (n:=n) (q:=q) (M:={di M y with th:=Gt.au M.th y {fa (k:Int) lv sv with p:=(y:Int),g:=M.G y+1}}) hy hp h.pl h.kr (.inl hS) (by rw[htp]) (by rw[htp,hGy]) hni
 refine hB.Hh hy kk rfl rfl rfl (fun v hv e=>⟨?_,?_,?_⟩) ⟨by rw[htp],by rw[htp,hGy],⟨k,hk,by rw[htp];rfl⟩,⟨0,by omega,by rw[htp];rfl⟩⟩ (by omega) (by rw[hGy];have:=h.gb y hy;omega) h.tl h.pl (fun _ _=>Iff.rfl) (fun _ _ _=>rfl) hu rfl hnw.1 (fun x=>⟨fun q=>⟨q,fun e=>hnw.2 (e▸q)⟩,fun q=>q.1⟩) h.wt h.nd h.l32
 ·show Gt.au M.S y 1 v=_;rw[Gt.af _ _ _ _ e]
 ·show Gt.au M.G y _ v=_;rw[Gt.af _ _ _ _ e]
 ·show Gt.au M.th y _ v=_;rw[Gt.af _ _ _ _ e]
theorem Iv.sleep (h:Iv P n B D M) {pr x:Nat} (hp:pr<P) (hr:(M.pc pr).r=(x:Int)) (k:Nat):Iv P n B D (fC n M pr x k):=by
 obtain⟨hx,hx2⟩:=h.run hp hr
 have t0:=h.th x hx (by omega)
 have hu:=h.FD hx (by omega)
 have hnw:=h.GF hx (by omega)
 have hmv:bP n M.G M.S (M.th x).p (M.th x).g 4=Gt.au M.S x 4:=by rw[t0.p,t0.g];exact fu hx (by omega) (by rw[hx2];rfl)
 unfold fC q8
 rw[hmv,t0.p]
 have hno: ∀z∈M.wh,z.i≠x:=fun z hz e=>hnw.1 ⟨z,hz,e⟩
 have hw:Wh.gY n M.wh (x:Int) (Cb.dr M.nw k)=Wh.ins ⟨x,Cb.dr M.nw k⟩ M.wh:=by
  unfold Wh.gY
  have hc:Wh.dR n M.wh (x:Int)=0:=by unfold Wh.dR;rw[if_neg (by omega),Wh.iJ.2 hno];rfl
  rw[if_pos hc]
  simp
 rw[hw]
 refine h.leave (s:=4) hp hx hr (by omega) (by omega) rfl rfl rfl h.tl h.pl h.kr (fun v hv hs=>(h.th v hv (fun e=>hs ?_)).cg rfl rfl rfl) (fun v=>⟨.inr,fun q=>q.elim (fun q=>by omega) id⟩) (fun v hv e=>rfl) ?_ (fun v hv=> ?_) (fun it hit=> ?_) h.wt h.nd h.l32 rfl
 ·show Gt.au M.S x 4 v=0
  by_cases e2:v=x
  ·rw[e2] at e;omega
  ·rw[Gt.af _ _ _ _ e2];exact e
 ·constructor
  ·intro q;cases q
  ·intro q;exact absurd hu q
 ·constructor
  ·rintro⟨it,hit,e⟩
   rcases Wh.cj.1 hit with q|q
   ·exact .inl ⟨by rw[←e,q],rfl⟩
   ·exact .inr ⟨it,q,e⟩
  ·rintro(⟨e,_⟩|⟨it,hit,e⟩)
   ·exact⟨_,Wh.cj.2 (.inl rfl),e.symm⟩
   ·exact⟨it,Wh.cj.2 (.inr hit),e⟩
 ·rcases Wh.cj.1 hit with q|q
  ·rw[q];exact hx
  ·exact h.wl it q
end
section
variable {P n q B:Nat} {D:List Nat} {M R:Mc}
theorem Iv.oR (h:Iv P n B D M) {p:Nat} (hp:p<P):Iv P n B D (Go.Proofs.YtjlbmmiomfpgiaaGreatDoor.oR M p):=by
 unfold Go.Proofs.YtjlbmmiomfpgiaaGreatDoor.oR
 split
 ·exact h
 ·rename_i hr
  obtain⟨x,hx,hrx,_⟩:=(h.r1 p hp).resolve_left hr
  have hf:Iv P n B D (gi M (M.pc p).r.toNat (M.th (M.pc p).r.toNat).ia (eV (M.th (M.pc p).r.toNat).il)):=h.DC _ _ rfl rfl rfl rfl
  generalize gi M (M.pc p).r.toNat (M.th (M.pc p).r.toNat).ia (eV (M.th (M.pc p).r.toNat).il)=N at hf
  have hcr:(countP (N.pc p) N.qu).r=(N.pc p).r:=by unfold countP;split<;>rfl
  have hcs:(countP (N.pc p) N.qu).s<N.qu:=by
   have:=hf.sl p hp
   have:=hf.qu
   unfold countP
   split
   ·show 0<N.qu;omega
   ·show(N.pc p).s+1<N.qu;omega
  have er: ∀p',((Gt.au N.pc p (countP (N.pc p) N.qu)) p').r=(N.pc p').r:=fun p'=>by
   by_cases e:p'=p
   ·rw[e,Gt.aj];exact hcr
   ·rw[Gt.af _ _ _ _ e]
  refine⟨hf.tl,hf.pl,hf.kr,hf.qu,fun p' hp'=> ?_,fun p' hp'=> ?_,fun y hy h2=> ?_,fun p1 p2 h1 h2 e hne=> ?_,fun y hy hs=>(hf.th y hy hs).cg rfl rfl rfl,hf.st,hf.rd,hf.bl,hf.sp,hf.wl,hf.wt,hf.nd,hf.l32,hf.gb⟩
  ·show((Gt.au N.pc p (countP (N.pc p) N.qu)) p').s<N.qu
   by_cases e:p'=p
   ·rw[e,Gt.aj];exact hcs
   ·rw[Gt.af _ _ _ _ e];exact hf.sl p' hp'
  ·rcases hf.r1 p' hp' with q|⟨x,q1,q2,q3⟩
   ·exact .inl ((er p').trans q)
   ·exact .inr ⟨x,q1,(er p').trans q2,q3⟩
  ·obtain⟨p',q1,q2⟩:=hf.r2 y hy h2
   exact⟨p',q1,(er p').trans q2⟩
  ·have e':((Gt.au N.pc p (countP (N.pc p) N.qu)) p1).r=((Gt.au N.pc p (countP (N.pc p) N.qu)) p2).r:=e
   have hne':((Gt.au N.pc p (countP (N.pc p) N.qu)) p1).r≠ -1:=hne
   rw[er,er] at e'
   rw[er] at hne'
   exact hf.r3 p1 p2 h1 h2 e' hne'
theorem Iv.dj (h:Iv P n B D M): ∀j,j<=P->Iv P n B D (Go.Proofs.YtjlbmmiomfpgiaaGreatDoor.dj M j)
 |0,_=>h
 |j+1,hj=>(Iv.dj h j (by omega)).oR (by omega)
theorem Iv.FO (h:Iv P n B D M) (sv:List Cb.cE):Iv P n B D {M with sv:=sv}:=
 ⟨h.tl,h.pl,h.kr,h.qu,h.sl,h.r1,h.r2,h.r3,fun y hy hs=>(h.th y hy hs).cg rfl rfl rfl,h.st,h.rd,h.bl,h.sp,h.wl,h.wt,h.nd,h.l32,h.gb⟩
theorem Iv.aN (h:Iv P n B [] M):Iv P n B (dV M) (Go.Proofs.YtjlbmmiomfpgiaaGreatDoor.aN M):=by
 refine⟨h.tl,h.pl,h.kr,h.qu,h.sl,h.r1,h.r2,h.r3,fun y hy hs=>(h.th y hy hs).cg rfl rfl rfl,h.st,h.rd,h.bl,fun x hx=> ?_,fun it hit=> ?_,h.wt,h.nd,h.l32,h.gb⟩
 ·rw[show(Go.Proofs.YtjlbmmiomfpgiaaGreatDoor.aN M).S x=M.S x from rfl,h.sp x hx]
  unfold Go.Proofs.YtjlbmmiomfpgiaaGreatDoor.aN dV Wh.late Wh.due
  dsimp only
  constructor
  ·rintro(⟨it,hit,e⟩|q)
   ·by_cases ht:it.t<=max (Cb.dr M.nw 1) M.nw
    ·exact .inr (List.mem_map.2 ⟨it,List.mem_filter.2 ⟨hit,by simpa using ht⟩,e⟩)
    ·exact .inl ⟨it,List.mem_filter.2 ⟨hit,by simpa using ht⟩,e⟩
   ·cases q
  ·rintro(⟨it,hit,e⟩|q)
   ·exact .inl ⟨it,(List.mem_filter.1 hit).1,e⟩
   ·obtain⟨it,hit,e⟩:=List.mem_map.1 q
    exact .inl ⟨it,(List.mem_filter.1 hit).1,e⟩
 ·exact h.wl it (List.mem_filter.1 hit).1
theorem Iv.Hr (h:Iv P n B D M) (hn:D.Nodup) (hw: ∀x∈D,x<n/\ ¬ ∃it∈M.wh,it.i=x) (l:List Ev):Iv P n B [] (D.foldl (kM P n q) (M,l)).1:=by
 induction D generalizing M l with
 |nil=>exact h
 |cons x D ih=>
  rw[List.foldl_cons]
  obtain⟨hx,hxw⟩:=hw x (by simp)
  obtain⟨hxD,hnD⟩:=List.nodup_cons.1 hn
  have hx4:M.S x=4:=(h.sp x hx).2 (.inr (by simp))
  have t0:=h.th x hx (by omega)
  obtain⟨px,hpx,epx⟩:=t0.pc
  have hu:=h.FD hx (by omega)
  have k:=iS (q:=q) hx hpx h.pl h.kr (.inr (.inr (.inr hx4))) t0.p t0.g (h.G1 (by omega))
  have hR:Iv P n B D (ready P n q M x (px:Int)):=h.Hh hx k rfl rfl rfl (fun _ _ _=>⟨rfl,rfl,rfl⟩) t0 (by omega) (h.gb x hx) h.tl h.pl (fun _ _=>Iff.rfl) (fun _ _ _=>rfl) hu rfl hxw (fun y=>⟨fun q=>⟨yW0 _ q,fun e=>hxD (e▸q)⟩,fun q=>(List.mem_cons.1 q.1).resolve_left q.2⟩) h.wt h.nd h.l32
  unfold kM
  dsimp only
  rw[epx]
  exact ih hR hnD (fun y hy=>⟨(hw y (yW0 _ hy)).1,by rw[k.wh];exact(hw y (yW0 _ hy)).2⟩) _
theorem pa {α β:Type} {f:α->β}: ∀{l:List α},(l.map f).Nodup-> ∀{a b:α},a∈l->b∈l->f a=f b->a=b
 |[],_,_,_,ha,_,_=>by cases ha
 |x::l,h,a,b,ha,hb,e=>by
  rw[List.map_cons,List.nodup_cons] at h
  rcases List.mem_cons.1 ha with p|p
  ·rcases List.mem_cons.1 hb with q|q
   ·rw[p,q]
   ·exact absurd (List.mem_map.2 ⟨b,q,by rw[←e,p]⟩) h.1
  ·rcases List.mem_cons.1 hb with q|q
   ·exact absurd (List.mem_map.2 ⟨a,p,by rw[e,q]⟩) h.1
   ·exact pa h.2 p q e
theorem Aw (M:Mc): ∀j,(dj M j).wh=M.wh/\(dj M j).nw=M.nw/\(dj M j).pr=M.pr/\(dj M j).S=M.S
 |0=>⟨rfl,rfl,rfl,rfl⟩
 |j+1=>by
  obtain⟨h1,h2,h3,h4⟩:=Aw M j
  have:(oR (dj M j) j).wh=(dj M j).wh/\(oR (dj M j) j).nw=(dj M j).nw/\(oR (dj M j) j).pr=(dj M j).pr/\(oR (dj M j) j).S=(dj M j).S:=by unfold oR;split<;>exact⟨rfl,rfl,rfl,rfl⟩
  exact⟨this.1.trans h1,this.2.1.trans h2,this.2.2.1.trans h3,this.2.2.2.trans h4⟩
theorem Iv.tick (h:Iv P n B [] M) (hwn:(M.wh.map (·.i)).Nodup):Iv P n B [] (dM P n q M):=by
 unfold dM mJ
 have h1:=(h.aN.dj P (i8 _)).FO ((Go.Proofs.YtjlbmmiomfpgiaaGreatDoor.dj (Go.Proofs.YtjlbmmiomfpgiaaGreatDoor.aN M) P).sv.map (Cb.lL (Go.Proofs.YtjlbmmiomfpgiaaGreatDoor.dj (Go.Proofs.YtjlbmmiomfpgiaaGreatDoor.aN M) P).nw))
 refine(Iv.Hr (M:=my (Go.Proofs.YtjlbmmiomfpgiaaGreatDoor.dj (Go.Proofs.YtjlbmmiomfpgiaaGreatDoor.aN M) P)) h1 ?_ (fun x hx=>⟨?_,?_⟩) _).settle
 ·unfold dV Wh.due
  exact hwn.sublist (List.Sublist.map _ List.filter_sublist)
 ·unfold dV Wh.due at hx
  obtain⟨it,hit,rfl⟩:=List.mem_map.1 hx
  exact h.wl it (List.mem_filter.1 hit).1
 ·rintro⟨it,hit,e⟩
  have hit':it∈(Go.Proofs.YtjlbmmiomfpgiaaGreatDoor.dj (Go.Proofs.YtjlbmmiomfpgiaaGreatDoor.aN M) P).wh:=hit
  rw[(Aw _ P).1] at hit'
  unfold Go.Proofs.YtjlbmmiomfpgiaaGreatDoor.aN Wh.late at hit'
  dsimp only at hit'
  unfold dV Wh.due at hx
  obtain⟨it2,hit2,e2⟩:=List.mem_map.1 hx
  have q1:=List.mem_filter.1 hit'
  have q2:=List.mem_filter.1 hit2
  have:it=it2:=pa hwn q1.1 q2.1 (by rw[e,e2])
  rw[this] at q1
  have a1:=q1.2
  have a2:=q2.2
  rw[a2] at a1
  cases a1
theorem Iv.start (h:Iv P n B D M) (hP:1<=P) {x:Nat} (hf:cV M n=some x) (pg:Int) (lv:Nat) (sv:Int) (hno:gF M pg sv=false):Iv P n (B+1) D (cU P n q M x pg lv sv):=by
 unfold cU
 have hpg:jY M pg=true:=by
  unfold gF at hno
  cases hc:jY M pg with
  |true=>rfl
  |false=>rw[hc] at hno;simp at hno
 exact(h.DW (p:=0) (by omega) hf pg lv sv hpg).settle
theorem Iv.load (h:Iv P n B D M) (p:Pm):Iv P n B D {M with pr:=M.pr++[p]}:=by
 refine⟨h.tl,h.pl,h.kr,h.qu,h.sl,h.r1,h.r2,h.r3,fun y hy hs=> ?_,h.st,h.rd,h.bl,h.sp,h.wl,h.wt,h.nd,h.l32,h.gb⟩
 have t:=h.th y hy hs
 obtain⟨k,hk,e⟩:=t.pg
 exact⟨t.p,t.g,⟨k,by show k<(M.pr++[p]).length;rw[List.length_append];omega,e⟩,t.pc⟩
theorem Iv.new (P n m qu ag:Nat) (hm:m<=32) (hq:1<=qu):Iv P n 0 [] (eI P n m qu ag):=by
 have hL: ∀(j:Nat) y,(eI P n m qu ag).gr.L[j]? =some y->y.l=[]:=fun j y hy=>by
  have:=zV0 hy
  have:y∈List.replicate m (⟨-1,[]⟩:Pi.Lk):=this
  rw[List.eq_of_mem_replicate this]
 refine⟨List.length_replicate,List.length_replicate,fun y hy=> ?_,hq,fun p _=>hq,fun p _=> .inl rfl,fun x _ h=>(by cases h),fun p p' _ _ _ hne=>absurd rfl hne,fun x _ h=>absurd rfl h,fun x _=>Nat.zero_le _,fun x=> ?_,fun x hx=> ?_,fun x hx=> ?_,fun it hit=>(by cases hit),fun j y hy t ht=> ?_,fun y hy=> ?_,by show(List.replicate m _).length<=32;rw[List.length_replicate];exact hm,fun x _=>i8 _⟩
 ·have:y∈List.replicate n (⟨Ke.bc 0,-1⟩:Pi.Th):=hy
  rw[List.eq_of_mem_replicate this]
  rfl
 ·constructor
  ·rintro⟨k,i,X,hX,hm⟩
   have:X∈List.replicate (P+1) ([]:List En):=zV0 hX
   rw[List.eq_of_mem_replicate this] at hm
   cases hm
  ·rintro⟨_,h⟩
   cases h
 ·have e:Uo (eI P n m qu ag) x=some (-1):=by
   show((List.replicate n (⟨Ke.bc 0,-1⟩:Pi.Th))[x]?).map (·.u)=_
   rw[List.getElem?_replicate,if_pos hx]
   rfl
  rw[e]
  constructor
  ·intro q;cases q
  ·intro q;exact absurd rfl q
 ·constructor
  ·intro q;cases q
  ·rintro(⟨it,hit,_⟩|q)
   ·cases hit
   ·cases q
 ·rw[hL j y hy] at ht
  cases ht
 ·obtain⟨j,hj⟩:=List.getElem?_of_mem hy
  rw[hL j y hj]
  exact List.nodup_nil
end
section
variable {w wr w':World} {lab:Nat->Nat} {a:Ad} {P n q T T' B:Nat} {M M':Mc}
theorem Iv.Ht (hI:Iv P n B [] M):Gh P n M:=⟨fun p hp=>by rcases hI.r1 p hp with q|⟨x,q1,q2,_⟩;exact .inl q;exact .inr ⟨x,q1,q2⟩,hI.sl⟩
end
end Go.Proofs.YtjlbmmiomfpgiaaGreatDoor
namespace Go.Proofs.YtjlbmmiomfpgiaaGreatDoor
open Go.RowKit Go.Lib Go.Deep Go.ChangeShapes Go.WideShapes
structure Dx where
 k:Int
 p:Int
 d:Nat
 ca:Option Addr
 len:Nat
 cc:Nat
 O:Nat->Int
 R:Nat->Int
 b:Nat
 e:Nat
 g:Int
 l:Nat
 s:Int
structure GM (w:World) (lb o:Nat) (x:Dx):Prop where
 c0:w.cell? ⟨lb,o,none⟩=some (.int .i64 x.k)
 c1:w.cell? ⟨lb,o+1,none⟩=some (.int .i64 x.p)
 c2:w.cell? ⟨lb,o+2,none⟩=some (.int .u64 (x.d:Int))
 c3:w.cell? ⟨lb,o+3,none⟩=some (.slice x.ca x.len x.cc)
 c4:w.cell? ⟨lb,o+4,none⟩=some (.int .u64 (x.b:Int))
 c5:w.cell? ⟨lb,o+5,none⟩=some (.int .u64 (x.e:Int))
 c6:w.cell? ⟨lb,o+6,none⟩=some (.int .i64 x.g)
 c7:w.cell? ⟨lb,o+7,none⟩=some (.int .u8 (x.l:Int))
 c8:w.cell? ⟨lb,o+8,none⟩=some (.int .i64 x.s)
 d:x.d<18446744073709551616
 l:x.l<256
 n:x.len<9223372036854775808
 cp:x.len<=x.cc/\x.cc<9223372036854775808
 pr:Ex.lB w x.ca x.len x.O x.R
def GJ (w:World) (a:Option Addr) (len:Nat) (X:Nat->Dx):Prop:=len=0\/ ∃lb off,a=some ⟨lb,off,none⟩/\lb<w.heap.size/\ ∀j,j<len->GM w lb (off+j*9) (X j)
theorem Fc {z:Int} (h:(Lit.int .u64 z).wf=true): ∃n:Nat,z=n/\n<18446744073709551616:=by
 simp[Lit.wf,IntKind.min,IntKind.max,IntKind.bits,IntKind.signed] at h
 exact⟨z.toNat,by omega,by omega⟩
theorem DM {z:Int} (h:(Lit.int .u8 z).wf=true): ∃n:Nat,z=n/\n<256:=by
 simp[Lit.wf,IntKind.min,IntKind.max,IntKind.bits,IntKind.signed] at h
 exact⟨z.toNat,by omega,by omega⟩
section
variable {H:Type} {enc:TypeId×Value->H} {w:World} {base:Nat} {spare:Nat->Bool} {held:Bool}
theorem CZ:Tryz.prog.cellsOf 37=9:=by kernel_rfl
theorem Db:Tryz.prog.cellsOf 24=7:=by kernel_rfl
theorem lV:Tryz.prog.cellsOf 3=1:=by kernel_rfl
theorem po:Tryz.prog.cellsOf 25=1:=by kernel_rfl
theorem fB:Tryz.prog.cellsOf 5=1:=by kernel_rfl
theorem CP:Tryz.prog.cellsOf 35=1:=by kernel_rfl
theorem CN:Tryz.prog.cellsOf 22=1:=by kernel_rfl
theorem zN {fuel:Nat} {c0 c1 c2 c3 c4 c5 c6 c7 c8:Value} {x:DataW H×List MemPlace} (h:DataW.trod enc Tryz.prog w base spare held fuel 37 [c0,c1,c2,c3,c4,c5,c6,c7,c8]=some x):
  ∃y:Dx,c0= .int .i64 y.k/\c1= .int .i64 y.p/\c2= .int .u64 (y.d:Int)/\c3= .slice y.ca y.len y.cc/\c4= .int .u64 (y.b:Int)/\c5= .int .u64 (y.e:Int)/\c6= .int .i64 y.g/\c7= .int .u8 (y.l:Int)/\c8= .int .i64 y.s/\y.d<18446744073709551616/\y.l<256/\y.len<9223372036854775808/\(y.len<=y.cc/\y.cc<9223372036854775808)/\Ex.lB w y.ca y.len y.O y.R:=by
 obtain⟨xs,n,_,_,_,hl,hf⟩:=DataW.trod_struct Tryz.underlying37 h
 match xs,hl with
 |[y0,y1,y2,y3,y4,y5,y6,y7,y8],_=>
  obtain⟨z0,e0,_,w0⟩:=DataW.trod_int Tryz.underlying3 (by simpa [lV] using hf 0 _ rfl)
  obtain⟨z1,e1,_,w1⟩:=DataW.trod_int Tryz.underlying3 (by simpa [lV] using hf 1 _ rfl)
  obtain⟨z2,e2,_,w2⟩:=DataW.trod_int Tryz.underlying25 (by simpa [po] using hf 2 _ rfl)
  obtain⟨z4,e4,_,w4⟩:=DataW.trod_int Tryz.underlying25 (by simpa [po] using hf 4 _ rfl)
  obtain⟨z5,e5,_,w5⟩:=DataW.trod_int Tryz.underlying25 (by simpa [po] using hf 5 _ rfl)
  obtain⟨z6,e6,_,w6⟩:=DataW.trod_int Tryz.underlying3 (by simpa [lV] using hf 6 _ rfl)
  obtain⟨z7,e7,_,w7⟩:=DataW.trod_int Tryz.underlying5 (by simpa [fB] using hf 7 _ rfl)
  obtain⟨z8,e8,_,w8⟩:=DataW.trod_int Tryz.underlying3 (by simpa [lV] using hf 8 _ rfl)
  have h3:DataW.trod enc Tryz.prog w base spare held n 35 [c3]=some y3:=by simpa [CP] using hf 3 _ rfl
  simp at e0 e1 e2 e4 e5 e6 e7 e8
  obtain⟨n2,rfl,q2⟩:=Fc w2
  obtain⟨n4,rfl,q4⟩:=Fc w4
  obtain⟨n5,rfl,q5⟩:=Fc w5
  obtain⟨n7,rfl,q7⟩:=DM w7
  obtain⟨ca,len,cc,rfl⟩: ∃ca len cc,c3= .slice ca len cc:=by
   rcases open_slice Tryz.underlying35 h3 with ⟨hcs,_⟩|⟨a',len',cap',m,n',D,Pl,hcs,_⟩
   ·simp at hcs
    exact⟨_,_,_,hcs⟩
   ·simp at hcs
    exact⟨_,_,_,hcs⟩
  obtain⟨l1,l2,l3,O,R,hp⟩:=Ex.xX (a:=ca) (len:=len) (cap:=cc) (by simpa [Value.cells] using h3)
  exact⟨⟨z0,z1,n2,ca,len,cc,O,R,n4,n5,z6,n7,z8⟩,e0,e1,e2,rfl,e4,e5,e6,e7,e8,q2,q7,l1,⟨l2,l3⟩,hp⟩
theorem AA {fuel:Nat} {a:Option Addr} {len cap:Nat} {x:DataW H×List MemPlace}
  (h:DataW.trod enc Tryz.prog w base spare held fuel 22 (Value.slice a len cap).cells.toList=some x):len<9223372036854775808/\len<=cap/\ ∃X:Nat->Dx,GJ w a len X:=by
 rcases open_slice Tryz.underlying22 h with ⟨hcs,_⟩|⟨a',len',cap',m,n,D,Pl,hcs,hbb,hl,hm,hmm,hx,hel⟩
 ·simp[Value.cells] at hcs
  obtain⟨rfl,rfl,rfl⟩:=hcs
  exact⟨by omega,by omega,fun _=>⟨0,0,0,none,0,0,fun _=>0,fun _=>0,0,0,0,0,0⟩,.inl rfl⟩
 ·simp[Value.cells] at hcs
  obtain⟨rfl,rfl,rfl⟩:=hcs
  have hlm:len<=m:=by rw[hmm];split<;>omega
  refine⟨by unfold maxLen at hm;omega,hl,?_⟩
  have hone: ∀i,i<len-> ∃y:Dx,(w.cell? (a'.add (i*9))=some (.int .i64 y.k)/\w.cell? ((a'.add (i*9)).add 1)=some (.int .i64 y.p)/\w.cell? ((a'.add (i*9)).add 2)=some (.int .u64 (y.d:Int))/\w.cell? ((a'.add (i*9)).add 3)=some (.slice y.ca y.len y.cc)/\w.cell? ((a'.add (i*9)).add 4)=some (.int .u64 (y.b:Int))/\w.cell? ((a'.add (i*9)).add 5)=some (.int .u64 (y.e:Int))/\w.cell? ((a'.add (i*9)).add 6)=some (.int .i64 y.g)/\w.cell? ((a'.add (i*9)).add 7)=some (.int .u8 (y.l:Int))/\w.cell? ((a'.add (i*9)).add 8)=some (.int .i64 y.s))/\y.d<18446744073709551616/\y.l<256/\y.len<9223372036854775808/\(y.len<=y.cc/\y.cc<9223372036854775808)/\Ex.lB w y.ca y.len y.O y.R:=by
   intro i hi'
   obtain⟨cs',h1,h2⟩:=hel i (by omega)
   rw[CZ] at h1
   obtain⟨_,hlen,hc⟩:=World.cells?_some h1
   match cs',hlen with
   |[c0,c1,c2,c3,c4,c5,c6,c7,c8],_=>
    obtain⟨y,rfl,rfl,rfl,rfl,rfl,rfl,rfl,rfl,rfl,q⟩:=zN h2
    have a0:=hc 0 (by omega)
    have az: ∀x:Addr,x.add 0=x:=fun x=>by unfold Addr.add;split<;>simp_all
    rw[az] at a0
    exact⟨y,⟨a0,hc 1 (by omega),hc 2 (by omega),hc 3 (by omega),hc 4 (by omega),hc 5 (by omega),hc 6 (by omega),hc 7 (by omega),hc 8 (by omega)⟩,q⟩
  obtain⟨f,hf⟩: ∃f:Nat->Dx,∀i,i<len->(w.cell? (a'.add (i*9))=some (.int .i64 (f i).k)/\w.cell? ((a'.add (i*9)).add 1)=some (.int .i64 (f i).p)/\w.cell? ((a'.add (i*9)).add 2)=some (.int .u64 ((f i).d:Int))/\w.cell? ((a'.add (i*9)).add 3)=some (.slice (f i).ca (f i).len (f i).cc)/\w.cell? ((a'.add (i*9)).add 4)=some (.int .u64 ((f i).b:Int))/\w.cell? ((a'.add (i*9)).add 5)=some (.int .u64 ((f i).e:Int))/\w.cell? ((a'.add (i*9)).add 6)=some (.int .i64 (f i).g)/\w.cell? ((a'.add (i*9)).add 7)=some (.int .u8 ((f i).l:Int))/\w.cell? ((a'.add (i*9)).add 8)=some (.int .i64 (f i).s))/\(f i).d<18446744073709551616/\(f i).l<256/\(f i).len<9223372036854775808/\((f i).len<=(f i).cc/\(f i).cc<9223372036854775808)/\Ex.lB w (f i).ca (f i).len (f i).O (f i).R:=
   ⟨fun i=>if hi:i<len then(hone i hi).choose else⟨0,0,0,none,0,0,fun _=>0,fun _=>0,0,0,0,0,0⟩,fun i hi=>by simp only[dif_pos hi];exact(hone i hi).choose_spec⟩
  refine⟨f,?_⟩
  by_cases h0:len=0
  ·exact .inl h0
  ·right
   obtain⟨b,off,spot⟩:=a'
   obtain⟨⟨g0,_⟩,_⟩:=hf 0 (by omega)
   have hspot:spot=none:=by
    have:=World.cell?_spot g0
    simpa [Addr.add] using this
   subst hspot
   have hlt:b<w.heap.size:=by
    have:=zX0 w _ g0
    simpa [Addr.add] using this
   refine⟨b,off,rfl,hlt,fun j hj=> ?_⟩
   obtain⟨⟨g0,g1,g2,g3,g4,g5,g6,g7,g8⟩,q1,q2,q3,q4,q5⟩:=hf j hj
   simp only[Go.WideShapes.add_plain] at g0 g1 g2 g3 g4 g5 g6 g7 g8
   exact⟨g0,g1,g2,g3,g4,g5,g6,g7,g8,q1,q2,q3,q4,q5⟩
theorem Br {r:Reach} {b0:Nat} {v:Value} {d:DataW H} {p:List MemPlace} (hv:Value.okWide Tryz.prog w r b0 24 v) (h:DataW.Trod enc Tryz.prog w base spare held 24 v d p):
  ∃(x0 x1 x2 x3 x4 x5:Nat) (a:Option Addr) (len cap:Nat) (X:Nat->Dx),v= .agg #[.int .u8 (x0:Int),.int .u8 (x1:Int),.int .u8 (x2:Int),.int .u8 (x3:Int),.int .u8 (x4:Int),.int .u8 (x5:Int),.slice a len cap]/\(x0<256/\x1<256/\x2<256/\x3<256/\x4<256/\x5<256)/\len<9223372036854775808/\GJ w a len X:=by
 obtain⟨cs,rfl,hsz⟩:=okWide_struct Tryz.underlying24 hv
 rw[Db] at hsz
 obtain⟨l⟩:=cs
 match l,hsz with
 |[c0,c1,c2,c3,c4,c5,c6],_=>
  obtain⟨fuel,hf0⟩:=h
  have hf1:DataW.trod enc Tryz.prog w base spare held fuel 24 [c0,c1,c2,c3,c4,c5,c6]=some (d,p):=by simpa [Value.cells] using hf0
  obtain⟨xs,n,_,_,_,hl,hf⟩:=DataW.trod_struct Tryz.underlying24 hf1
  match xs,hl with
  |[y0,y1,y2,y3,y4,y5,y6],_=>
   obtain⟨z0,e0,_,w0⟩:=DataW.trod_int Tryz.underlying5 (by simpa [fB] using hf 0 _ rfl)
   obtain⟨z1,e1,_,w1⟩:=DataW.trod_int Tryz.underlying5 (by simpa [fB] using hf 1 _ rfl)
   obtain⟨z2,e2,_,w2⟩:=DataW.trod_int Tryz.underlying5 (by simpa [fB] using hf 2 _ rfl)
   obtain⟨z3,e3,_,w3⟩:=DataW.trod_int Tryz.underlying5 (by simpa [fB] using hf 3 _ rfl)
   obtain⟨z4,e4,_,w4⟩:=DataW.trod_int Tryz.underlying5 (by simpa [fB] using hf 4 _ rfl)
   obtain⟨z5,e5,_,w5⟩:=DataW.trod_int Tryz.underlying5 (by simpa [fB] using hf 5 _ rfl)
   have h6:DataW.trod enc Tryz.prog w base spare held n 22 [c6]=some y6:=by simpa [CN] using hf 6 _ rfl
   simp at e0 e1 e2 e3 e4 e5
   obtain⟨n0,rfl,q0⟩:=DM w0
   obtain⟨n1,rfl,q1⟩:=DM w1
   obtain⟨n2,rfl,q2⟩:=DM w2
   obtain⟨n3,rfl,q3⟩:=DM w3
   obtain⟨n4,rfl,q4⟩:=DM w4
   obtain⟨n5,rfl,q5⟩:=DM w5
   obtain⟨a,len,cap,rfl⟩: ∃ca len cc,c6= .slice ca len cc:=by
    rcases open_slice Tryz.underlying22 h6 with ⟨hcs,_⟩|⟨a',len',cap',m,n',D,Pl,hcs,_⟩
    ·simp at hcs
     exact⟨_,_,_,hcs⟩
    ·simp at hcs
     exact⟨_,_,_,hcs⟩
   obtain⟨l1,l2,X,hX⟩:=AA (a:=a) (len:=len) (cap:=cap) (by simpa [Value.cells] using h6)
   exact⟨n0,n1,n2,n3,n4,n5,a,len,cap,X,by rw[e0,e1,e2,e3,e4,e5],⟨q0,q1,q2,q3,q4,q5⟩,l1,hX⟩
end
end Go.Proofs.YtjlbmmiomfpgiaaGreatDoor
namespace Go.Proofs.YtjlbmmiomfpgiaaGreatDoor
open Go.RowKit
structure One (P n B s:Nat) (M:Mc):Prop where
 iv:Iv P n B [] M
 s0:M.S 0=s
 so: ∀x,0<x->x<n->M.S x=0
 sv:M.sv=[]
 pc:(M.th 0).pc=0
section
variable {P n q B s:Nat} {M:Mc}
theorem One.yq (h:One P n B s M) (hs:s≠1): ∀z,¬nC M.pl z:=fun z hz=>by
 obtain⟨hn,h1⟩:=(h.iv.rd z.1).1 ⟨z.2,hz⟩
 by_cases e:z.1=0
 ·rw[e,h.s0] at h1;exact hs h1
 ·rw[h.so z.1 (by omega) hn] at h1;cases h1
theorem One.F5 (h:One P n B s M) (hs:s≠1) {w:World} {O:Nat->Prop} {pb T:Nat} (hpq:PQ w O pb n P q T M.pl) (p d:Int):(bb P (gh M.pl) p d).isSome=false:=by
 cases hb:(bb P (gh M.pl) p d).isSome with
 |false=>rfl
 |true=>
  obtain⟨x,k,_,_,he,_⟩:=nI hpq hb
  exact absurd he (h.yq hs _)
theorem ug (i:Int) (w:Nat):Cb.jk [] i w=[]:=by unfold Cb.jk;split<;>rfl
theorem oJ (P n q m qu ag:Nat) (p:Pm) (hP:1<=P) (hn:1<=n) (hm:m<=32) (hq:1<=qu) (lv:Nat) {M0:Mc} (e0:M0={eI P n m qu ag with pr:=[p]}):
  (gF M0 0 (-1)=false/\cV M0 n=some 0)/\One P n 1 1 (cU P n q M0 0 0 lv (-1))/\(cU P n q M0 0 0 lv (-1)).wh=[]/\(cU P n q M0 0 0 lv (-1)).nw=0/\(cU P n q M0 0 0 lv (-1)).pr=[p]/\(((cU P n q M0 0 0 lv (-1)).th 0).pg=0/\((cU P n q M0 0 0 lv (-1)).th 0).ia=0/\((cU P n q M0 0 0 lv (-1)).th 0).il=0)/\ ∀p,((cU P n q M0 0 0 lv (-1)).pc p).r= -1:=by
 have hI0:Iv P n 0 [] M0:=by rw[e0];exact(Iv.new P n m qu ag hm hq).load p
 have hno:gF M0 0 (-1)=false:=by rw[e0];rfl
 have hf:cV M0 n=some 0:=xo (by omega) (fun x hx=>absurd hx (by omega)) (by rw[e0];rfl)
 have hI1:=hI0.start (q:=q) hP hf 0 lv (-1) hno
 have k:F7 n {di M0 0 with th:=Gt.au M0.th 0 {fa 0 lv (-1) with p:=((0:Nat):Int),g:=M0.G 0+1}} (ready P n q {di M0 0 with th:=Gt.au M0.th 0 {fa 0 lv (-1) with p:=((0:Nat):Int),g:=M0.G 0+1}} 0 ((0:Nat):Int)) 0:=by
  refine iS (p:=0) (by omega) (by omega) hI0.pl hI0.kr (.inl ?_) ?_ ?_ ?_
  ·show Gt.au M0.S 0 1 0=1
   rw[Gt.aj]
  ·exact congrArg Tr.p (Gt.aj M0.th 0 _)
  ·exact(congrArg Tr.g (Gt.aj M0.th 0 _)).trans (Gt.aj M0.G 0 _).symm
  ·exact hI0.G1 (by rw[e0];exact(by decide:(0:Nat)≠1))
 have kd:=eo (ready P n q {di M0 0 with th:=Gt.au M0.th 0 {fa 0 lv (-1) with p:=((0:Nat):Int),g:=M0.G 0+1}} 0 ((0:Nat):Int)) n
 have e2:cU P n q M0 0 0 lv (-1)=settle (ready P n q {di M0 0 with th:=Gt.au M0.th 0 {fa 0 lv (-1) with p:=((0:Nat):Int),g:=M0.G 0+1}} 0 ((0:Nat):Int)) n:=rfl
 have hth:(cU P n q M0 0 0 lv (-1)).th 0={fa 0 lv (-1) with p:=((0:Nat):Int),g:=M0.G 0+1,sn:=M0.nw,lf:=0}:=by
  rw[e2,kd.th,k.th,Gt.aj]
  show({Gt.au M0.th 0 {fa 0 lv (-1) with p:=((0:Nat):Int),g:=M0.G 0+1} 0 with sn:=M0.nw,lf:=0}:Tr)=_
  rw[Gt.aj]
 refine⟨⟨hno,hf⟩,⟨hI1,?_,fun x h0 hx=> ?_,?_,by rw[hth];rfl⟩,?_,?_,?_,⟨by rw[hth];rfl,by rw[hth];rfl,by rw[hth];rfl⟩,fun p=> ?_⟩
 ·rw[e2,kd.S,k.S,Gt.aj]
 ·rw[e2,kd.S,k.S,Gt.af _ _ _ _ (by omega)]
  show Gt.au M0.S 0 1 x=0
  rw[Gt.af _ _ _ _ (by omega),e0]
  rfl
 ·rw[e2,kd.sv,k.sv]
  show(if Gt.au M0.S 0 1 0=2 then M0.sv else Cb.jk M0.sv _ _)=[]
  rw[Gt.aj,if_neg (by decide),e0]
  exact ug _ _
 ·rw[e2,kd.wh,k.wh,e0];rfl
 ·rw[e2,kd.nw,k.nw,e0];rfl
 ·rw[e2,kd.pr,k.pr,e0];rfl
 ·rw[e2,kd.pc,k.pc,e0];rfl
theorem One.zZ (h:One P n B 1 M) (hP:1<=P) (hn:1<=n) {w:World} {O:Nat->Prop} {pb T:Nat} (hpq:PQ w O pb n P q T M.pl) (d:Int):
  (bb P (gh M.pl) ((0:Nat):Int) d).isSome=true/\bI (gh M.pl) (bb P (gh M.pl) ((0:Nat):Int) d)=((0:Nat):Int):=by
 have hb:(bb P (gh M.pl) ((0:Nat):Int) d).isSome=true:=by
  cases hb:(bb P (gh M.pl) ((0:Nat):Int) d).isSome with
  |true=>rfl
  |false=>
   obtain⟨k,hk⟩:=(h.iv.rd 0).2 ⟨by omega,h.s0⟩
   exact absurd hk (kF h.iv.pl ⟨by omega,by omega⟩ hb _)
 obtain⟨x,k,hx,hbi,hent,_⟩:=nI hpq hb
 have hx0:x=0:=by
  have h1:=((h.iv.rd x).1 ⟨k,hent⟩).2
  rcases Nat.eq_zero_or_pos x with q|q
  ·exact q
  ·rw[h.so x q hx] at h1;cases h1
 rw[hx0] at hbi
 exact⟨hb,hbi⟩
theorem One.BM (h:One P n B 1 M) (hP:1<=P) (hn:1<=n) {w:World} {O:Nat->Prop} {pb T:Nat} (hpq:PQ w O pb n P q T M.pl) (hr:(M.pc 0).r= -1) (d:Int) {N:Mc} (e:N=settle (dd P n M 0 0 d) n):
  One P n B 2 N/\N.wh=M.wh/\N.nw=M.nw/\N.pr=M.pr/\((N.th 0).pg=(M.th 0).pg/\(N.th 0).ia=(M.th 0).ia/\(N.th 0).il=(M.th 0).il)/\(N.pc 0).r=0:=by
 obtain⟨hb,hbi⟩:=h.zZ hP hn hpq d
 have hI:Iv P n B [] N:=by rw[e];exact(h.iv.BM hpq (by omega) hr hb hbi).settle
 have t0:=h.iv.th 0 (by omega) (by rw[h.s0];decide)
 have hmv:(dd P n M 0 0 d).S=Gt.au M.S 0 2:=by
  show bP n M.G M.S (M.th 0).p (M.th 0).g 2=_
  rw[t0.p,t0.g]
  exact fu (by omega) (by rw[h.s0];decide) (by rw[h.s0];rfl)
 have kd:=eo (dd P n M 0 0 d) n
 have hth:N.th 0={M.th 0 with pc:=((0:Nat):Int),lf:=(cJ M (M.th 0)).toNat}:=by
  rw[e,kd.th]
  exact Gt.aj M.th 0 _
 refine⟨⟨hI,?_,fun x h0 hx=> ?_,by rw[e,kd.sv];exact h.sv,by rw[hth];rfl⟩,by rw[e,kd.wh];rfl,by rw[e,kd.nw];rfl,by rw[e,kd.pr];rfl,⟨by rw[hth],by rw[hth],by rw[hth]⟩,?_⟩
 ·rw[e,kd.S,hmv,Gt.aj]
 ·rw[e,kd.S,hmv,Gt.af _ _ _ _ (by omega)]
  exact h.so x h0 hx
 ·rw[e,kd.pc]
  show(Gt.au M.pc 0 _ 0).r=0
  rw[Gt.aj]
  rfl
theorem One.sleep (h:One P n B 2 M) (hP:1<=P) (hn:1<=n) (hr:(M.pc 0).r=0) (u v:Int) (k:Nat) (hw:M.wh=[]) {N:Mc} (e:N=settle (fC n (gi M 0 u v) 0 0 k) n):
  One P n B 4 N/\N.wh=[⟨0,Cb.dr M.nw k⟩]/\N.nw=M.nw:=by
 have hI':Iv P n B [] (gi M 0 u v):=h.iv.DC 0 _ rfl rfl rfl rfl
 have hI:Iv P n B [] N:=by rw[e];exact(hI'.sleep (by omega) hr k).settle
 have t0:=hI'.th 0 (by omega) (by show M.S 0≠0;rw[h.s0];decide)
 have hs0:(gi M 0 u v).S 0=2:=h.s0
 have hmv:(fC n (gi M 0 u v) 0 0 k).S=Gt.au M.S 0 4:=by
  show bP n (gi M 0 u v).G (gi M 0 u v).S ((gi M 0 u v).th 0).p ((gi M 0 u v).th 0).g 4=_
  rw[t0.p,t0.g]
  exact fu (by omega) (by rw[hs0];decide) (by rw[hs0];rfl)
 have kd:=eo (fC n (gi M 0 u v) 0 0 k) n
 refine⟨⟨hI,?_,fun x h0 hx=> ?_,by rw[e,kd.sv];exact h.sv,?_⟩,?_,by rw[e,kd.nw];rfl⟩
 ·rw[e,kd.S,hmv,Gt.aj]
 ·rw[e,kd.S,hmv,Gt.af _ _ _ _ (by omega)]
  exact h.so x h0 hx
 ·rw[e,kd.th]
  show(Gt.au M.th 0 _ 0).pc=0
  rw[Gt.aj]
  exact h.pc
 ·rw[e,kd.wh]
  show Wh.gY n M.wh ((gi M 0 u v).th 0).p (Cb.dr M.nw k)=_
  rw[hw,t0.p]
  unfold Wh.gY
  have hc:Wh.dR n [] ((0:Nat):Int)=0:=by unfold Wh.dR;rw[if_neg (by omega),Wh.iJ.2 (fun z hz=>by cases hz)];rfl
  rw[if_pos hc]
  rfl
theorem One.wk (h:One P n B 4 M): ∀j,j<=P->dj (aN M) j=aN M
 |0,_=>rfl
 |j+1,hj=>by
  show oR (dj (aN M) j) j=_
  rw[h.wk j (by omega)]
  unfold oR
  rw[if_pos]
  rcases h.iv.r1 j (by omega) with q|⟨x,hx,_,hs⟩
  ·exact q
  ·exfalso
   rcases Nat.eq_zero_or_pos x with q|q
   ·rw[q,h.s0] at hs;cases hs
   ·rw[h.so x q hx] at hs;cases hs
theorem wC {G:List (List En)} (hG: ∀z,¬nC G z) (hl:G.length=P+1) (hP:1<=P) (hn:1<=n) (hq:1<=q) {k:Ke.K} (hr:Ke.aK k=true):(eT P n q (gh G) 0 0 k)[0]? =some [(0,k)]:=by
 have hw:aO n (gh G) 0 ((0:Nat):Int)=none:=eH n _ (gh G) 0 (fun i x hx _=>bF.2 (fun y hy=>absurd ⟨i,x.M,lH hx,hy⟩ (hG y)))
 have hc:ic P n (gh G) 0 0 k=0:=by
  unfold ic
  rw[if_neg (by unfold qa;rintro((q|q)|q|q|q);omega;omega;omega;omega;rw[hr] at q;cases q),if_neg (by rw[show aO n (gh G) 0 0=none from hw];simp)]
 have hx:G[0]? =some (G[0]'(by omega)):=yV0 _
 have hM:MM (gh G) 0=[]:=by
  rw[bU (hZ hx)]
  cases hE:G[0]'(by omega) with
  |nil=>rfl
  |cons y Y=>exact absurd ⟨0,y::Y,by rw[hx,hE],by simp⟩ (hG y)
 have ha:jn P n q (gh G) (0:Int).toNat=0:=by
  unfold jn
  rw[show(0:Int).toNat=0 from rfl,hM,if_pos (by simp;omega)]
 unfold eT
 rw[if_pos hc,cM,ha,hM,List.getElem?_set_self (by omega)]
 rfl
theorem xv {G:List (List En)} {k k':Ke.K} (h:G[0]? =some [(0,k)]): ∃k2,(dJ n (gh G) 0 k')[0]? =some [(0,k2)]:=by
 unfold dJ
 split
 case isFalse=>exact⟨k,by rw[cM];exact h⟩
 case isTrue hc=>
  have hn: ¬qa n 0 k':=fun q=>by unfold gk at hc;rw[if_pos q] at hc;cases hc
  have hn1:1<=n:=by unfold qa at hn;omega
  obtain⟨X,hX⟩: ∃X,G=[(0,k)]::X:=by
   cases G with
   |nil=>cases h
   |cons a X=>exact⟨X,by injection h with h;rw[h]⟩
  have ha:ye n (gh G) 0=0:=by
   rw[hX]
   unfold ye gh
   rw[List.map_cons]
   unfold aO
   rw[if_pos (by rw[if_pos (by omega)];rfl)]
   rfl
  rw[ha,bU (hZ h),cM,hX,List.set_cons_zero]
  have: ∃k2,dq n [(0,k)] 0 k'=[(0,k2)]:=by
   unfold dq
   split
   ·split
    ·exact⟨k,rfl⟩
    ·exact⟨k',rfl⟩
   ·exact⟨k,rfl⟩
  obtain⟨k2,e2⟩:=this
  exact⟨k2,by rw[←e2];rfl⟩
theorem nH (M:Mc) (g:Pi.Md): ∀(l:List Nat) (G:List (List En)),(∀x∈l,x=0)->(∃k,G[0]? =some [(0,k)])-> ∃k,(l.foldl (iA n M g) G)[0]? =some [(0,k)]
 |[],G,_,h=>h
 |x::l,G,hl,h=>by
  rw[List.foldl_cons]
  refine nH M g l _ (fun y hy=>hl y (yW0 _ hy)) ?_
  rw[hl x (by simp)]
  unfold iA
  split
  ·obtain⟨k,hk⟩:=h
   exact xv hk
  ·exact h
theorem One.tick (h:One P n B 4 M) (hP:1<=P) (hn:1<=n) (hq:1<=q) {k i:Nat} (hw:M.wh=[⟨0,k⟩]) (hi:M.nw=i) (hi2:i<1000000):
  (i+1<k->One P n B 4 (dM P n q M)/\(dM P n q M).wh=[⟨0,k⟩]/\(dM P n q M).nw=i+1)/\(k=i+1->One P n B 1 (dM P n q M)/\(ez (gh (dM P n q M).pl) 0).length=1):=by
 have hI:=h.iv.tick (q:=q) (by rw[hw];simp)
 have hnw:max (Cb.dr M.nw 1) M.nw=i+1:=by
  rw[hi]
  unfold Cb.dr
  rw[if_pos (by omega)]
  omega
 have hA:dj (aN M) P=aN M:=h.wk P (i8 _)
 have eA:(aN M).nw=i+1:=hnw
 have eD:dV M=if k<=i+1 then [0] else []:=by
  unfold dV Wh.due
  rw[hnw,hw]
  by_cases c:k<=i+1
  ·rw[if_pos c];simp[c]
  ·rw[if_neg c];simp[c]
 have eR:my (aN M)=aN M:=by
  unfold my
  have:(aN M).sv=[]:=h.sv
  rw[this]
  show({aN M with sv:=[]}:Mc)=_
  rw[←this]
 have eW:(aN M).wh=if k<=i+1 then [] else [⟨0,k⟩]:=by
  show Wh.late _ M.wh=_
  unfold Wh.late
  rw[hnw,hw]
  by_cases c:k<=i+1
  ·rw[if_pos c];simp[c]
  ·rw[if_neg c];simp[c]
 constructor
 ·intro hk
  have e:dM P n q M=settle (aN M) n:=by
   unfold dM mJ
   rw[eD,if_neg (by omega),hA,eR]
   rfl
  have kd:=eo (aN M) n
  refine⟨⟨hI,by rw[e,kd.S];exact h.s0,fun x h0 hx=>by rw[e,kd.S];exact h.so x h0 hx,by rw[e,kd.sv];exact h.sv,by rw[e,kd.th];exact h.pc⟩,?_,by rw[e,kd.nw];exact eA⟩
  rw[e,kd.wh,eW,if_neg (by omega)]
 ·intro hk
  have e:dM P n q M=settle (ready P n q (aN M) 0 0) n:=by
   unfold dM mJ
   rw[eD,if_pos (by omega),hA,eR]
   show settle (ready P n q (aN M) 0 ((aN M).th 0).pc) n=_
   rw[show((aN M).th 0).pc=0 from h.pc]
  have hno: ∀z,¬nC (aN M).pl z:=h.yq (by decide)
  have t0:=h.iv.th 0 (by omega) (by rw[h.s0];decide)
  have k0:F7 n (aN M) (ready P n q (aN M) 0 ((0:Nat):Int)) 0:=iS (p:=0) (by omega) (by omega) h.iv.pl h.iv.kr (.inr (.inr (.inr h.s0))) t0.p t0.g (fun ⟨k,q⟩=>hno _ q)
  have k0':F7 n (aN M) (ready P n q (aN M) 0 0) 0:=k0
  have kd:=eo (ready P n q (aN M) 0 0) n
  have hS:(dM P n q M).S=Gt.au M.S 0 1:=by rw[e,kd.S,k0'.S];rfl
  have ho: ∀x,0<x->x<n->(dM P n q M).S x=0:=fun x h0 hx=>by rw[hS,Gt.af _ _ _ _ (by omega)];exact h.so x h0 hx
  refine⟨⟨hI,by rw[hS,Gt.aj],ho,?_,?_⟩,?_⟩
  ·rw[e,kd.sv,k0'.sv]
   show(if M.S 0=2 then M.sv else Cb.jk M.sv _ _)=[]
   rw[h.s0,if_neg (by decide),h.sv]
   exact ug _ _
  ·rw[e,kd.th,k0'.th,Gt.aj]
   exact h.pc
  ·have h3:(bu n (aN M) 0).pl=(aN M).pl:=by
    have e2:(cW n (aN M) 0).pl=(aN M).pl:=by unfold cW cB;split<;>rfl
    unfold bu settle
    dsimp only
    rw[e2]
    refine o9 _ _ _ (fun x _=> ?_)
    unfold iA
    split
    ·exact yD (fun z hz=>absurd hz (hno z))
    ·rfl
   have hkr: ∀y∈(bu n (aN M) 0).gr.T,Ke.aK y.k=true:=k0'.kr
   have h4:(ready P n q (aN M) 0 0).pl[0]? =some [(0,Pi.cQ (bu n (aN M) 0).gr.T (bu n (aN M) 0).gr.L ((0:Nat):Int))]:=by
    show(eT P n q (gh (bu n (aN M) 0).pl) 0 ((0:Nat):Int) _)[0]? =_
    rw[h3]
    exact wC hno h.iv.pl hP hn hq (mT hkr _)
   have h5: ∃k,(dM P n q M).pl[0]? =some [(0,k)]:=by
    rw[e]
    refine nH _ _ _ _ (fun x hx=> ?_) ⟨_,h4⟩
    obtain⟨hx,hs⟩:=qZ.1 hx
    rcases Nat.eq_zero_or_pos x with q|q
    ·exact q
    ·have:=ho x q hx
     rw[e,kd.S] at this
     exact absurd this hs
   obtain⟨k2,h5⟩:=h5
   have hl:0<(gh (dM P n q M).pl).length:=by
    rw[EY]
    exact(zY0.1 h5).1
   unfold ez
   rw[if_pos (by omega),show(0:Int).toNat=0 from rfl,bU (hZ h5)]
   rfl
theorem One.none (h:One P n B s M) (hs:s≠1):ez (gh M.pl) 0=[]:=by
 unfold ez
 split
 ·cases hE:M.pl[0]? with
  |none=>
   unfold MM gh
   rw[List.getElem?_map,show(0:Int).toNat=0 from rfl,hE]
   rfl
  |some X=>
   rw[show(0:Int).toNat=0 from rfl,bU (hZ hE)]
   cases X with
   |nil=>rfl
   |cons y Y=>exact absurd ⟨0,y::Y,hE,by simp⟩ (h.yq hs y)
 ·rfl
theorem xU {S:Nat->Nat} {fr:Bool} {n:Nat}: ∀k,k<=n->(Gt.pl S fr n k).Nodup
 |0,_=>by simp[Gt.pl]
 |k+1,hk=>by
  by_cases hs:(S k==0)=fr
  ·rw[Gt.ik (by omega) hs,List.nodup_append]
   refine⟨xU k (by omega),by simp,fun a ha b hb e=> ?_⟩
   simp at hb
   subst hb e
   have:=((pe k (by omega) _).1 ha).1
   simp at this
  ·rw[Gt.uq hs];exact xU k (by omega)
theorem One.live (h:One P n B s M) (hs:s≠0) (hn:1<=n):bL M n=[0]:=by
 have h1: ∀x,x∈bL M n↔x=0:=fun x=>by
  rw[qZ]
  constructor
  ·rintro⟨hx,h0⟩
   rcases Nat.eq_zero_or_pos x with q|q
   ·exact q
   ·exact absurd (h.so x q hx) h0
  ·rintro rfl
   exact⟨by omega,by rw[h.s0];exact hs⟩
 have h2:(bL M n).Nodup:=by
  unfold bL
  exact List.Pairwise.map _ (fun (a b:Fin n) (h:a≠b) e=>h (Fin.ext e)) (xU n (i8 _))
 cases hE:bL M n with
 |nil=>have:=(h1 0).2 rfl;rw[hE] at this;cases this
 |cons x l=>
  rw[hE] at h1 h2
  have hx:=(h1 x).1 (by simp)
  cases l with
  |nil=>rw[hx]
  |cons y l=>
   have hy:=(h1 y).1 (by simp)
   rw[hx,hy] at h2
   simp at h2
end
end Go.Proofs.YtjlbmmiomfpgiaaGreatDoor
namespace Go.Proofs.YtjlbmmiomfpgiaaGreatDoor
open Go.RowKit Go.Lib Go.Shelf
attribute [local go_sem ↓] Go.wp_at_zero Go.wp_at_succ
theorem yV (P n q:Nat) (M:Mc) (x:Nat) (pg:Int) (lv:Nat) (sv:Int):(cU P n q M x pg lv sv).gr.L=M.gr.L:=by
 unfold cU
 rw[jP]
 show(bu n _ x).gr.L=_
 unfold bu
 rw[jP]
 unfold cW cB di
 split<;>rfl
section
variable {w wr w':World} {ad:Ad} {P n q T T' B:Nat} {M M':Mc} {K:Nat->Prop}
theorem lU.Ge (h:lU w wr ad P n q T M K) (ho:One P n B 1 M) (hr:(M.pc 0).r= -1) (d:Int) (hd:0<=d/\d<18446744073709551616) (hT:T<=100000):
  Calls Tryz.prog 13 #[.pointer (some ⟨ad.m,0,none⟩),.int .i64 0,.int .u64 d] wr fun e w'=> ∃v ev,e= .returned (.tuple #[v,.int .i64 0])/\i7 w' wr.heap.size v [ev]/\ev.k=3/\(lU w w' ad P n q (T+1+n) (settle (dd P n M 0 0 d) n) (fun k=>K k\/v.ownBlock=some k)/\ ∀k,K k->w'.heap[k]? =wr.heap[k]?):=by
 obtain⟨O,hq⟩:=h.pq
 have hn:=hq.n1
 have hk:0<P:=hq.qS.1
 obtain⟨hb,hbi⟩:=ho.zZ hk hn.1 hq d
 have:=h.call (R:=fun e w' v=>e= .returned (.tuple #[v,.int .i64 0])) (fun lab hi=>(hi.jJ (pr:=0) (T':=T+1) hk d (by omega) (fun W1 O hs=>oQ (P1:=fun V=>SX wr W1 V lab ad P n q T M wr.heap.size 0 [] O) (hs.sx.fJ hk d hd (.inl hr)) (fun V hV=>hV.ja (by simp) hk d hd hr hb 0 (by omega) hbi))).mono (fun e w' ⟨v,he,hev,g⟩=>⟨v,he,hev,g⟩))
 refine this.mono ?_
 rintro e w' ⟨v,he,hev,g⟩
 exact⟨v,_,he,hev,rfl,g⟩
theorem lU.F1 (h:lU w wr ad P n q T M K) (ho:One P n B 2 M) (hr:(M.pc 0).r=0) (p:Pm) (hpr:M.pr=[p]) (hf:(M.th 0).pg=0/\(M.th 0).ia=0/\(M.th 0).il=0) (hL: ∀y∈M.gr.L,y.h= -1) (hp0:0<p.len) (hO:p.O 0=9) (d:Int) (hd:0<=d/\d<18446744073709551616) (hT:T<=100000):
  Calls Tryz.prog 13 #[.pointer (some ⟨ad.m,0,none⟩),.int .i64 0,.int .u64 d] wr fun e w'=> ∃v M' e1 e2,e= .returned (.tuple #[v,.int .i64 0])/\i7 w' wr.heap.size v [e1,e2]/\e1.k=5/\e2.k=10/\(lU w w' ad P n q (T+n) M' (fun k=>K k\/v.ownBlock=some k)/\ ∀k,K k->w'.heap[k]? =wr.heap[k]?):=by
 obtain⟨O,hq⟩:=h.pq
 have hn:=hq.n1
 have hk:0<P:=hq.qS.1
 have hx:0<n:=hn.1
 have hb:=ho.F5 (by decide) hq ((0:Nat):Int) d
 have t0:=ho.iv.th 0 (by omega) (by rw[ho.s0];decide)
 obtain⟨hpg,hia,hil⟩:=hf
 have eO:Gm p 0=9:=by unfold Gm Ex.FW Ex.Cs;rw[if_pos (by simp;omega)];exact hO
 have hlt:nL p 0 0<9223372036854775808:=by
  have:nL p 0 0=0:=by
   unfold nL Ex.Fp Ex.BD
   split
   ·rw[if_neg (by show¬p.O 0=1;rw[hO];decide)]
   ·rfl
  rw[this];decide
 have:=h.call (R:=fun e w' v=>e= .returned (.tuple #[v,.int .i64 0])) (fun lab hi=>(hi.jJ (pr:=0) (T':=T) (M':=lG n (gi M 0 (pL p 0) (nL p 0 0)) 0 0) (l:=[⟨5,((0:Nat):Int),(M.th 0).p,(M.th 0).g,9,0⟩]++[⟨10,((0:Nat):Int),((0:Nat):Int),((gi M 0 (pL p 0) (nL p 0 0)).th 0).g,0,0⟩]) hk d (by omega) (fun W1 O hs=>uO (P1:=fun V=>SX wr W1 V lab ad P n q T M wr.heap.size 0 [] O) (P2:=fun V=>SX wr W1 V lab ad P n q T M wr.heap.size 0 [] O) (hs.sx.fJ hk d hd (.inr hb)) (fun V hV=>hV.j9 hk d (by rw[hr];decide)) (fun V hV=>by
   have hg:=hV.ur (ok:=true) (bz:=false) (by simp) hk 0 hx hr 0 p (by rw[hpr];rfl) (by rw[hpg];rfl) 9 (Gs p 0) (pL p 0) (nL p 0 0) hlt T (lG n (gi M 0 (pL p 0) (nL p 0 0)) 0 0) ([⟨5,((0:Nat):Int),(M.th 0).p,(M.th 0).g,9,0⟩]++[⟨10,((0:Nat):Int),((0:Nat):Int),((gi M 0 (pL p 0) (nL p 0 0)).th 0).g,0,0⟩]) (fun ap cap V' hp hrt hbl=>by
    have:=vh (cap:=cap) hp hrt 0 0 (by decide) V' hbl
    rw[eO] at this
    rw[hia,hil]
    exact this) (fun q=>by cases q) (fun _ V' O' hs'=>by
    have eth:((gi M 0 (pL p 0) (nL p 0 0)).th 0).p=(M.th 0).p/\((gi M 0 (pL p 0) (nL p 0 0)).th 0).g=(M.th 0).g:=by unfold gi;show(Gt.au M.th 0 _ 0).p=_/\(Gt.au M.th 0 _ 0).g=_;rw[Gt.aj];exact⟨rfl,rfl⟩
    have he:=hs'.Bt (by simp) 0 hx (Gs p 0) (T':=T) (M':=lG n (gi M 0 (pL p 0) (nL p 0 0)) 0 0) (l':=[⟨5,((0:Nat):Int),(M.th 0).p,(M.th 0).g,9,0⟩]++[⟨10,((0:Nat):Int),((0:Nat):Int),((gi M 0 (pL p 0) (nL p 0 0)).th 0).g,0,0⟩]) (fun W0 V'' hV''=>hV''.call (R:=fun e=>e= .returned (.tuple #[])) (fun O'' s''=>by
     have:=s''.vW (by simp) hk 0 hx (by rw[eth.1,t0.p]) (AQ hL 0)
     rw[eth.1,t0.p,eth.2] at this⊢
     exact this))
    exact he)
   exact hg))).mono (fun e w' ⟨v,he,hev,g⟩=>⟨v,he,hev,g⟩))
 refine this.mono ?_
 rintro e w' ⟨v,he,hev,g⟩
 exact⟨v,_,_,_,he,hev,rfl,rfl,g⟩
end
def Hc (M:Mc):Prop:=One 1 2 1 1 M/\M.pr=[⟨1,xO,xR⟩]/\((M.th 0).pg=0/\(M.th 0).ia=0/\(M.th 0).il=0)/\(M.pc 0).r= -1/\ ∀y∈M.gr.L,y.h= -1
def Hl (M:Mc):Prop:=One 1 2 1 2 M/\M.pr=[⟨1,xO,xR⟩]/\((M.th 0).pg=0/\(M.th 0).ia=0/\(M.th 0).il=0)/\(M.pc 0).r=0/\ ∀y∈M.gr.L,y.h= -1
theorem AR (w:World) (ht:Gt.lQ w):Calls Tryz.prog 20 #[] w fun e w'=>e= .returned (.bool true)/\Below w.heap.size w w':=by
 have HN:Hid (Calls Tryz.prog 10 #[.agg #[.int .i64 1,.int .i64 2,.int .i64 2,.int .i64 1,.int .u64 4,.int .u64 9]] w fun e w'=> ∃a,e= .returned (.pointer (some ⟨a.m,0,none⟩))/\Al w w' a 1 2 2 0 (eI 1 2 1 4 9)):=zR 1 2 2 1 4 9 (by decide) (by decide) (by decide) (by decide) (by decide) (by decide) w ht
 have HL:Hid (∀V ad,Al w V ad 1 2 2 0 (eI 1 2 1 4 9)->Calls Tryz.prog 17 #[.pointer (some ⟨ad.m,0,none⟩),.slice (some ⟨V.heap.size,0,none⟩) 1 1] (V.alloc (.cells #[.int .i64 9,.int .i64 0] 64)) fun e w'=>e= .returned (.tuple #[.int .i64 0,.int .i64 0])/\Al w w' ad 1 2 2 0 {eI 1 2 1 4 9 with pr:=[⟨1,xO,xR⟩]}):=fun V ad h=>(h.below ((z9 V.heap.size V).alloc (i8 _) _)).jV (some ⟨V.heap.size,0,none⟩) 1 1 xO xR (Fw V) GC (by show 0<16;decide)
 have HS:Hid (∀V ad,Al w V ad 1 2 2 0 {eI 1 2 1 4 9 with pr:=[⟨1,xO,xR⟩]}->Calls Tryz.prog 19 #[.pointer (some ⟨ad.m,0,none⟩),.int .i64 0,.int .u8 5,.int .i64 (-1)] V fun e w'=> ∃b c M',e= .returned (.tuple #[.slice (some ⟨b,0,none⟩) 1 c,.int .i64 0])/\w'.cell? ⟨b,0,none⟩=some (.int .i64 9)/\lU w w' ad 1 2 2 5 M' (fun k=>k=b)/\Hc M'):=fun V ad h=>by
  obtain⟨⟨hno,hf⟩,o1,_,_,o4,o5,o6⟩:=oJ 1 2 2 1 4 9 ⟨1,xO,xR⟩ (by decide) (by decide) (by decide) (by decide) 5 rfl
  have:=h.k.call (R:=fun e w' v=>e= .returned (.tuple #[v,.int .i64 0])) (fun lab hi=>(hi.mK (by decide) (fun x _=>(by decide:0+1<4294967296)) 0 5 (by decide) (-1) hno 0 hf).mono (fun e w' ⟨v,he,hv,g⟩=>⟨v,he,hv,g⟩))
  refine this.mono ?_
  rintro e w' ⟨v,rfl,hev,⟨hA,_⟩⟩
  obtain⟨b,c,rfl,hc⟩:=hev.at (i:=0) rfl
  exact⟨b,c,_,rfl,hc,hA.less (fun k hk=> .inr (by rw[hk];rfl)),o1,o4,o5,o6 0,fun y hy=>by
   rw[yV] at hy
   have:y∈List.replicate 1 (⟨-1,[]⟩:Pi.Lk):=hy
   rw[List.eq_of_mem_replicate this]⟩
 have HD:Hid (∀V ad M b,lU w V ad 1 2 2 5 M (fun k=>k=b)->Hc M->V.cell? ⟨b,0,none⟩=some (.int .i64 9)->Calls Tryz.prog 13 #[.pointer (some ⟨ad.m,0,none⟩),.int .i64 0,.int .u64 0] V fun e w'=> ∃b2 c2 M',e= .returned (.tuple #[.slice (some ⟨b2,0,none⟩) 1 c2,.int .i64 0])/\w'.cell? ⟨b2,0,none⟩=some (.int .i64 3)/\lU w w' ad 1 2 2 8 M' (fun k=>k=b\/k=b2)/\Hl M'/\w'.cell? ⟨b,0,none⟩=some (.int .i64 9)):=fun V ad M b h ⟨o1,o2,o3,o4,o5⟩ hc9=>by
  obtain⟨O,hpq⟩:=h.pq
  obtain⟨p1,_,_,p4,p5,p6⟩:=o1.BM (by decide) (by decide) hpq o4 0 rfl
  refine(h.Ge o1 o4 0 (by decide) (by decide)).mono ?_
  rintro e w' ⟨v,ev,rfl,hev,hk,⟨hA,hkp⟩⟩
  obtain⟨b2,c2,rfl,hc⟩:=hev.at (i:=0) rfl
  rw[hk] at hc
  exact⟨b2,c2,_,rfl,hc,hA.less (fun k hk=>hk.imp id (fun q=>by rw[q];rfl)),⟨p1,p4.trans o2,⟨p5.1.trans o3.1,p5.2.1.trans o3.2.1,p5.2.2.trans o3.2.2⟩,p6,fun y hy=>o5 y (by rw[jP] at hy;exact hy)⟩,(zZ0 (hkp b rfl)).trans hc9⟩
 have HE:Hid (∀V ad M b b2,lU w V ad 1 2 2 8 M (fun k=>k=b\/k=b2)->Hl M->V.cell? ⟨b,0,none⟩=some (.int .i64 9)->V.cell? ⟨b2,0,none⟩=some (.int .i64 3)->Calls Tryz.prog 13 #[.pointer (some ⟨ad.m,0,none⟩),.int .i64 0,.int .u64 0] V fun e w'=> ∃b3 c3,e= .returned (.tuple #[.slice (some ⟨b3,0,none⟩) 2 c3,.int .i64 0])/\w'.cell? ⟨b3,6,none⟩=some (.int .i64 10)/\w'.cell? ⟨b,0,none⟩=some (.int .i64 9)/\w'.cell? ⟨b2,0,none⟩=some (.int .i64 3)/\Below w.heap.size w w'):=fun V ad M b b2 h ⟨o1,o2,o3,o4,o5⟩ hc9 hc3=>by
  refine(h.F1 o1 o4 ⟨1,xO,xR⟩ o2 o3 o5 (by decide) rfl 0 (by decide) (by decide)).mono ?_
  rintro e w' ⟨v,M',e1,e2,rfl,hev,_,hk,⟨hA,hkp⟩⟩
  obtain⟨b3,c3,rfl,hc⟩:=hev.at (i:=1) rfl
  rw[hk] at hc
  exact⟨b3,c3,rfl,hc,(zZ0 (hkp b (.inl rfl))).trans hc9,(zZ0 (hkp b2 (.inr rfl))).trans hc3,hA.nZ⟩
 clear ht
 go_enter Tryz.func20,Tryz.ntmps20
 go_wp2_with (first
  |(go_at_call 10;refine(HN.out).mono ?_;rintro e w1 ⟨ad,rfl,hA⟩;have HA:=aa hA;clear hA)
  |(go_at_call 17;refine(HL.out _ ad HA.out).mono ?_;rintro e w2 ⟨rfl,hA2⟩;have HA2:=aa hA2;clear hA2)
  |(go_at_call 19;refine(HS.out _ ad HA2.out).mono ?_;rintro e w3 ⟨b,c,M3,rfl,hc9,hA3,hR3⟩;have HA3:=aa hA3;have HR3:=aa hR3;have HC9:=aa hc9;clear hA3 hR3 hc9)
  |(go_at_call 13;refine(HD.out w3 ad M3 b HA3.out HR3.out HC9.out).mono ?_;rintro e w4 ⟨b2,c2,M4,rfl,hc3,hA4,hR4,hc9⟩;have HA4:=aa hA4;have HR4:=aa hR4;have HC9b:=aa hc9;have HC3:=aa hc3;clear hA4 hR4 hc9 hc3)
  |(go_at_call 13;refine(HE.out w4 ad M4 b b2 HA4.out HR4.out HC9b.out HC3.out).mono ?_;rintro e w5 ⟨b3,c3,rfl,hc10,hc9,hc3,hbel⟩;have HBL:=aa hbel;clear hbel))
 go_ret
 exact⟨rfl,HBL.out⟩
theorem Ct (a b c d e f:Int) (w:World):(Instr.build 30 #[(0,.int .i64 a),(1,.int .i64 b),(2,.int .i64 c),(3,.int .i64 d),(4,.int .u64 e),(5,.int .u64 f)]).run Tryz.prog w= .ok (.agg #[.int .i64 a,.int .i64 b,.int .i64 c,.int .i64 d,.int .u64 e,.int .u64 f]) w:=run_build w 30 _ _ (by kernel_rfl)
theorem F4 {x:Nat} (h:x<9223372036854775808):IntKind.i64.wrap (x:Int)=(x:Int):=by simp[IntKind.wrap,IntKind.bits,IntKind.signed];omega
theorem Hj {x:Nat} (h:x<18446744073709551616):IntKind.u64.wrap (x:Int)=(x:Int):=by simp[IntKind.wrap,IntKind.bits,IntKind.signed];omega
theorem vE (x0 x1 x2 x3 x4 x5:Nat) (h0:x0<256) (h1:x1<256) (h2:x2<256) (h3:x3<256) (h4:x4<256) (h5:x5<256) (v:Value) (w:World):
  Calls Tryz.prog 11 #[.agg #[.int .u8 (x0:Int),.int .u8 (x1:Int),.int .u8 (x2:Int),.int .u8 (x3:Int),.int .u8 (x4:Int),.int .u8 (x5:Int),v]] w fun e w'=>e= .returned (.agg #[.int .i64 ((x0%4+1:Nat):Int),.int .i64 ((x1%8+1:Nat):Int),.int .i64 ((x2%3+1:Nat):Int),.int .i64 ((x3%5:Nat):Int),.int .u64 ((x4%5+1:Nat):Int),.int .u64 ((x5%9+1:Nat):Int)])/\Below w.heap.size w w':=by
 have hbi:=Ct
 have a0:IntKind.i64.wrap (x0:Int)=(x0:Int):=F4 (by omega)
 have a1:IntKind.i64.wrap (x1:Int)=(x1:Int):=F4 (by omega)
 have a2:IntKind.i64.wrap (x2:Int)=(x2:Int):=F4 (by omega)
 have a3:IntKind.i64.wrap (x3:Int)=(x3:Int):=F4 (by omega)
 have a4:IntKind.u64.wrap (x4:Int)=(x4:Int):=Hj (by omega)
 have a5:IntKind.u64.wrap (x5:Int)=(x5:Int):=Hj (by omega)
 go_enter Tryz.func11,Tryz.ntmps11
 go_wp2
 simp[bodyPost,results,Tryz.results11,go_sem]
 exact((z9 _ _).alloc (i8 _) _).alloc (by simp) _
def Af (j:Nat):Int:=if j=0 then 5 else 9
def zx (k j:Nat):Int:=if j=0 then(k:Int) else 0
theorem Fq (k:Nat) (hk:1<=k/\k<=20):Ex.Rt 2 Af (zx k):=by
 refine⟨0,.inr (.inr (.inr ⟨by decide,by decide,?_,.inr rfl,rfl,rfl⟩))⟩
 intro i hi
 match i,hi with
 |0,_=>
  show Ex.si ((2:Nat):Int) 5 (k:Int)=true
  unfold Ex.si Ex.lo Ex.hi
  simp
  exact⟨rfl,by omega,by omega⟩
 |1,_=>
  show Ex.si ((2:Nat):Int) 9 0=true
  decide
theorem E3 (w:World) (k:Nat):Ex.lB (w.alloc (.cells #[.int .i64 5,.int .i64 (k:Int),.int .i64 9,.int .i64 0] 64)) (some ⟨w.heap.size,0,none⟩) 2 Af (zx k):=by
 refine .inr ⟨w.heap.size,0,rfl,by simp,fun j hj=> ?_⟩
 match j,hj with
 |0,_=>exact⟨aT _ _ _ 0 _ rfl,aT _ _ _ 1 _ rfl⟩
 |1,_=>exact⟨aT _ _ _ 2 _ rfl,aT _ _ _ 3 _ rfl⟩
section
variable {w wr w':World} {ad:Ad} {P n q T B s:Nat} {M:Mc}
theorem fF.goes {lab:Nat->Nat} {v:Value} {a:Ad} (h:fF w w' lab a P n q T M v):aA w w' lab a P n q T M:=by
 obtain⟨l,h1,h2,h3,_⟩:=h
 exact⟨l,h1,h2,h3⟩
theorem Al.is (h:Al w wr ad P n q T M): ∃lab,ay wr lab ad P n q T M:=by
 obtain⟨⟨lab,hi,_⟩,_⟩:=h
 exact⟨lab,hi⟩
theorem Al.fD (h:Al w wr ad P n q T M) {T':Nat} (hT:T<=T'):Al w wr ad P n q T' M:=by
 obtain⟨⟨lab,hi,hl⟩,hb⟩:=h
 exact⟨⟨lab,hi.fD hT,hl⟩,hb⟩
theorem Al.Fb (h:Al w wr ad P n q T M) (hG:Gw M n) (pg:Int) (lv:Nat) (hlv:lv<256) (sv:Int) (hn:n<=8) (hT:T<=999999000) (hno:gF M pg sv=false) {x:Nat} (hf:cV M n=some x):
  Calls Tryz.prog 19 #[.pointer (some ⟨ad.m,0,none⟩),.int .i64 pg,.int .u8 (lv:Int),.int .i64 sv] wr fun e w'=>(∃v,e= .returned (.tuple #[v,.int .i64 0]))/\Al w w' ad P n q (T+20) (cU P n q M x pg lv sv):=
 h.call (R:=fun e _=> ∃v,e= .returned (.tuple #[v,.int .i64 0])) (fun lab hi=>(hi.mK (by omega) hG pg lv hlv sv hno x hf).mono (fun e w' ⟨v,he,_,hg⟩=>⟨⟨v,he⟩,hg.goes.fD (by omega)⟩))
theorem Al.j8 (h:Al w wr ad P n q T M) (ho:One P n B 1 M) (hr:(M.pc 0).r= -1) (d:Int) (hd:0<=d/\d<18446744073709551616) (hn:n<=8) (hT:T<=999999000):
  Calls Tryz.prog 13 #[.pointer (some ⟨ad.m,0,none⟩),.int .i64 0,.int .u64 d] wr fun e w'=>(∃v,e= .returned (.tuple #[v,.int .i64 0]))/\Al w w' ad P n q (T+20) (settle (dd P n M 0 0 d) n):=by
 obtain⟨O,hq⟩:=h.pq
 have hn1:=hq.n1
 have hk:0<P:=hq.qS.1
 obtain⟨hb,hbi⟩:=ho.zZ hk hn1.1 hq d
 exact h.call (R:=fun e _=> ∃v,e= .returned (.tuple #[v,.int .i64 0])) (fun lab hi=>(hi.jJ (pr:=0) (T':=T+1) hk d (by omega) (fun W1 O hs=>oQ (P1:=fun V=>SX wr W1 V lab ad P n q T M wr.heap.size 0 [] O) (hs.sx.fJ hk d hd (.inl hr)) (fun V hV=>hV.ja (by simp) hk d hd hr hb 0 (by omega) hbi))).mono (fun e w' ⟨v,he,hev,g⟩=>⟨⟨v,he⟩,g.goes.fD (by omega)⟩))
theorem Al.GL (h:Al w wr ad P n q T M) (ho:One P n B 2 M) (hr:(M.pc 0).r=0) (p:Pm) (hpr:M.pr=[p]) (hf:(M.th 0).pg=0/\(M.th 0).ia=0/\(M.th 0).il=0) (k:Nat) (hk1:k<9223372036854775808) (eO:Gm p 0=5) (eR:Gs p 0=(k:Int)) (hlt:nL p 0 0<9223372036854775808) (d:Int) (hd:0<=d/\d<18446744073709551616) (hn:n<=8) (hT:T<=999999000):
  Calls Tryz.prog 13 #[.pointer (some ⟨ad.m,0,none⟩),.int .i64 0,.int .u64 d] wr fun e w'=>(∃v,e= .returned (.tuple #[v,.int .i64 0]))/\Al w w' ad P n q (T+20) (settle (fC n (gi M 0 (pL p 0) (nL p 0 0)) 0 0 k) n):=by
 obtain⟨O,hq⟩:=h.pq
 have hn1:=hq.n1
 have hk:0<P:=hq.qS.1
 have hb:=ho.F5 (by decide) hq ((0:Nat):Int) d
 obtain⟨hpg,hia,hil⟩:=hf
 refine h.call (R:=fun e _=> ∃v,e= .returned (.tuple #[v,.int .i64 0])) (fun lab hi=>(hi.jJ (pr:=0) (T':=T) (M':=fC n (gi M 0 (pL p 0) (nL p 0 0)) 0 0 k) (l:=[]++[⟨5,((0:Nat):Int),((gi M 0 (pL p 0) (nL p 0 0)).th 0).p,((gi M 0 (pL p 0) (nL p 0 0)).th 0).g,5,0⟩]) hk d (by omega) (fun W1 O hs=>uO (P1:=fun V=>SX wr W1 V lab ad P n q T M wr.heap.size 0 [] O) (P2:=fun V=>SX wr W1 V lab ad P n q T M wr.heap.size 0 [] O) (hs.sx.fJ hk d hd (.inr hb)) (fun V hV=>hV.j9 hk d (by rw[hr];decide)) (fun V hV=> ?_))).mono (fun e w' ⟨v,he,hev,g⟩=>⟨⟨v,he⟩,g.goes.fD (by omega)⟩))
 exact hV.ur (ok:=true) (bz:=false) (by simp) hk 0 (by omega) hr 0 p (by rw[hpr];rfl) (by rw[hpg];rfl) 5 (k:Int) (pL p 0) (nL p 0 0) hlt T (fC n (gi M 0 (pL p 0) (nL p 0 0)) 0 0 k) ([]++[⟨5,((0:Nat):Int),((gi M 0 (pL p 0) (nL p 0 0)).th 0).p,((gi M 0 (pL p 0) (nL p 0 0)).th 0).g,5,0⟩]) (fun ap cap V' hp hrt hbl=>by
   have:=vh (cap:=cap) hp hrt 0 0 (by decide) V' hbl
   rw[eO,eR] at this
   rw[hia,hil]
   exact this) (fun q=>by cases q) (fun _ V' O' hs'=>by
   have he:=hs'.zq (by simp) hk 0 (by omega) k hk1
   exact he)
theorem Al.aN (h:Al w wr ad P n q T M) (hI:Iv P n B [] M) (hn:n<=8) (hT:T<=999999000):
  Calls Tryz.prog 16 #[.pointer (some ⟨ad.m,0,none⟩)] wr fun e w'=>(∃v,e= .returned v)/\Al w w' ad P n q (T+80) (dM P n q M):=by
 have ht:(n+1)*n<=72:=by
  have:=Nat.mul_le_mul (show n+1<=9 by omega) hn
  omega
 exact h.call (R:=fun e _=> ∃v,e= .returned v) (fun lab hi=>(hi.tick (by omega) hI.Ht (by omega)).mono (fun e w' ⟨v,he,_,hg⟩=>⟨⟨v,he⟩,hg.goes.fD (by omega)⟩))
theorem Al.wait (h:Al w wr ad P n q T M) (i:Int):Calls Tryz.prog 24 #[.pointer (some ⟨ad.m,0,none⟩),.int .i64 i] wr fun e w'=>(∃a c,e= .returned (.slice a (ez (gh M.pl) i).length c))/\Al w w' ad P n q T M/\Below wr.heap.size wr w':=by
 obtain⟨lab,hi⟩:=h.is
 refine(hi.waiting i).mono ?_
 rintro e w' ⟨v,rfl,hl,hb⟩
 obtain⟨a,c,rfl⟩:=Cb.aE hl
 exact⟨⟨a,c,rfl⟩,h.below hb,hb⟩
theorem Al.G8 (h:Al w wr ad P n q T M) (ho:One P n B s M) (hs:s≠0) (hn:1<=n):Calls Tryz.prog 23 #[.pointer (some ⟨ad.m,0,none⟩)] wr fun e w'=> ∃b c,e= .returned (.slice (some ⟨b,0,none⟩) 1 c)/\w'.cell? ⟨b,2,none⟩=some (.int .i64 (s:Int))/\Al w w' ad P n q T M:=by
 obtain⟨lab,hi⟩:=h.is
 refine hi.threads.mono ?_
 rintro e w' ⟨v,rfl,hr,hb⟩
 rw[ho.live hs hn] at hr
 rcases hr.2 with ⟨_,e0⟩|⟨b,c,cur,e1,h0,hg,hrow⟩
 ·simp at e0
 ·have hc: ∀(k:Nat) (u:Value),(i6 M n [0])[k]? =some u->w'.cell? ⟨b,k,none⟩=some u:=fun k u hu=>by
   rw[←hrow.2.2.2,List.getElem?_take] at hu
   split at hu
   ·simp only[World.cell?,hg]
    simpa using hu
   ·cases hu
  have t0:=ho.iv.th 0 (by omega) (by rw[ho.s0];exact hs)
  refine⟨b,c,by rw[e1];rfl,hc 2 _ ?_,h.below hb⟩
  show some (Value.int .i64 (eX M n (M.th 0):Int))=_
  rw[vb (by omega) t0.p t0.g (by rw[ho.s0];exact hs),ho.s0]
end
theorem BI (x y:Int) (w:World):(Instr.build 64 #[(0,.int .i64 x),(1,.int .i64 y)]).run Tryz.prog w= .ok (.agg #[.int .i64 x,.int .i64 y]) w:=run_build w 64 _ _ (by kernel_rfl)
def Hn (P n k:Nat) (M:Mc):Prop:=One P n 1 1 M/\M.wh=[]/\M.nw=0/\M.pr=[⟨2,Af,zx k⟩]/\((M.th 0).pg=0/\(M.th 0).ia=0/\(M.th 0).il=0)/\ ∀p,(M.pc p).r= -1
def Hm (P n k:Nat) (M:Mc):Prop:=One P n 1 2 M/\M.wh=[]/\M.nw=0/\M.pr=[⟨2,Af,zx k⟩]/\((M.th 0).pg=0/\(M.th 0).ia=0/\(M.th 0).il=0)/\(M.pc 0).r=0
def DB (P n k i:Nat) (M:Mc):Prop:=(i<k->One P n 1 4 M/\M.wh=[⟨0,k⟩]/\M.nw=i)/\(i=k->One P n 1 1 M/\(ez (gh M.pl) 0).length=1)
theorem kD (x0 x1 x2 x3 x4 x5:Nat) (h0:x0<256) (h1:x1<256) (h2:x2<256) (h3:x3<256) (h4:x4<256) (h5:x5<256) (v:Value) (y:Nat) (hy:y<256) (w:World) (ht:Gt.lQ w):
  Calls Tryz.prog 5 #[.agg #[.int .u8 (x0:Int),.int .u8 (x1:Int),.int .u8 (x2:Int),.int .u8 (x3:Int),.int .u8 (x4:Int),.int .u8 (x5:Int),v],.int .u8 (y:Int)] w fun e w'=>e= .returned (.bool true)/\Below w.heap.size w w':=by
 obtain⟨P,eP⟩: ∃P,P=x0%4+1:=⟨_,rfl⟩
 obtain⟨n,en⟩: ∃n,n=x1%8+1:=⟨_,rfl⟩
 obtain⟨q,eq⟩: ∃q,q=x2%3+1:=⟨_,rfl⟩
 obtain⟨m,em⟩: ∃m,m=x3%5:=⟨_,rfl⟩
 obtain⟨qu,equ⟩: ∃qu,qu=x4%5+1:=⟨_,rfl⟩
 obtain⟨ag,eag⟩: ∃ag,ag=x5%9+1:=⟨_,rfl⟩
 have hP:1<=P/\P<=64:=by omega
 have hn:1<=n/\n<=8:=by omega
 have hq:1<=q/\q<=256:=by omega
 have hm:m<=32:=by omega
 have hqu:1<=qu/\qu<18446744073709551616:=by omega
 have hag:1<=ag/\ag<18446744073709551616:=by omega
 have HCF:Hid (∀V,Below w.heap.size w V->Calls Tryz.prog 11 #[.agg #[.int .u8 (x0:Int),.int .u8 (x1:Int),.int .u8 (x2:Int),.int .u8 (x3:Int),.int .u8 (x4:Int),.int .u8 (x5:Int),v]] V fun e w'=>e= .returned (.agg #[.int .i64 (P:Int),.int .i64 (n:Int),.int .i64 (q:Int),.int .i64 (m:Int),.int .u64 (qu:Int),.int .u64 (ag:Int)])/\Below w.heap.size w w'):=by
  rw[eP,en,eq,em,equ,eag]
  exact fun V hb=>(vE x0 x1 x2 x3 x4 x5 h0 h1 h2 h3 h4 h5 v V).mono (fun e w' ⟨he,hb'⟩=>⟨he,bt hb hb'⟩)
 clear eP en eq em equ eag h0 h1 h2 h3 h4 h5
 obtain⟨k,ek⟩: ∃k,k=y%20+1:=⟨_,rfl⟩
 have hk:1<=k/\k<=20:=by omega
 have ek':(y:Int)%20+1=(k:Int):=by omega
 clear ek
 have hwy:IntKind.i64.wrap (y:Int)=(y:Int):=F4 (by omega)
 have HN:Hid (∀V,Below w.heap.size w V->Calls Tryz.prog 10 #[.agg #[.int .i64 (P:Int),.int .i64 (n:Int),.int .i64 (q:Int),.int .i64 (m:Int),.int .u64 (qu:Int),.int .u64 (ag:Int)]] V fun e w'=> ∃a,e= .returned (.pointer (some ⟨a.m,0,none⟩))/\Al w w' a P n q 0 (eI P n m qu ag)):=fun V hb=>by
  refine(zR P n q m qu ag hP ⟨hn.1,by omega⟩ hq hm hqu hag V (ht.below hb)).mono ?_
  rintro e w' ⟨a,he,⟨lab,hi,hl⟩,hb'⟩
  have hs:=hb.size
  exact⟨a,he,⟨lab,hi,fun k hk=>yX0 hs (hl k hk)⟩,bt hb hb'⟩
 have HL:Hid (∀V ad,Al w V ad P n q 0 (eI P n m qu ag)->Calls Tryz.prog 17 #[.pointer (some ⟨ad.m,0,none⟩),.slice (some ⟨V.heap.size,0,none⟩) 2 2] (V.alloc (.cells #[.int .i64 5,.int .i64 (k:Int),.int .i64 9,.int .i64 0] 64)) fun e w'=>e= .returned (.tuple #[.int .i64 0,.int .i64 0])/\Al w w' ad P n q 0 {eI P n m qu ag with pr:=[⟨2,Af,zx k⟩]}):=fun V ad h=>(h.below ((z9 V.heap.size V).alloc (i8 _) _)).jV (some ⟨V.heap.size,0,none⟩) 2 2 Af (zx k) (E3 V k) (Fq k hk) (by show 0<16;decide)
 have HS:Hid (∀V ad,Al w V ad P n q 0 {eI P n m qu ag with pr:=[⟨2,Af,zx k⟩]}->Calls Tryz.prog 19 #[.pointer (some ⟨ad.m,0,none⟩),.int .i64 0,.int .u8 5,.int .i64 (-1)] V fun e w'=> ∃(v:Value) (M':Mc),e= .returned (.tuple #[v,.int .i64 0])/\Al w w' ad P n q 20 M'/\Hn P n k M'):=fun V ad h=>by
  obtain⟨hc,o1,o2,o3,o4,o5,o6⟩:=oJ P n q m qu ag ⟨2,Af,zx k⟩ hP.1 hn.1 hm hqu.1 5 rfl
  refine(h.Fb (fun x _=>(by decide:0+1<4294967296)) 0 5 (by decide) (-1) hn.2 (by decide) hc.1 hc.2).mono ?_
  rintro e w' ⟨⟨v,rfl⟩,hA⟩
  exact⟨v,_,rfl,hA,o1,o2,o3,o4,o5,o6⟩
 have HD:Hid (∀V ad M,Al w V ad P n q 20 M->Hn P n k M->Calls Tryz.prog 13 #[.pointer (some ⟨ad.m,0,none⟩),.int .i64 0,.int .u64 0] V fun e w'=> ∃(v:Value) (M':Mc),e= .returned (.tuple #[v,.int .i64 0])/\Al w w' ad P n q 40 M'/\Hm P n k M'):=fun V ad M h ⟨o1,o2,o3,o4,o5,o6⟩=>by
  obtain⟨O,hpq⟩:=h.pq
  obtain⟨p1,p2,p3,p4,p5,p6⟩:=o1.BM hP.1 hn.1 hpq (o6 0) 0 rfl
  refine(h.j8 o1 (o6 0) 0 (by decide) hn.2 (by decide)).mono ?_
  rintro e w' ⟨⟨v,rfl⟩,hA⟩
  exact⟨v,_,rfl,hA,p1,p2.trans o2,p3.trans o3,p4.trans o4,⟨p5.1.trans o5.1,p5.2.1.trans o5.2.1,p5.2.2.trans o5.2.2⟩,p6⟩
 have HE:Hid (∀V ad M,Al w V ad P n q 40 M->Hm P n k M->Calls Tryz.prog 13 #[.pointer (some ⟨ad.m,0,none⟩),.int .i64 0,.int .u64 0] V fun e w'=> ∃(v:Value) (M':Mc),e= .returned (.tuple #[v,.int .i64 0])/\Al w w' ad P n q 650 M'/\DB P n k 0 M'):=fun V ad M h ⟨o1,o2,o3,o4,o5,o6⟩=>by
  obtain⟨p1,p2,p3⟩:=o1.sleep hP.1 hn.1 o6 (pL ⟨2,Af,zx k⟩ 0) (nL ⟨2,Af,zx k⟩ 0 0) k o2 rfl
  refine(h.GL o1 o6 ⟨2,Af,zx k⟩ o4 o5 k (by omega) rfl rfl (by show(0:Int)<9223372036854775808;decide) 0 (by decide) hn.2 (by decide)).mono ?_
  rintro e w' ⟨⟨v,rfl⟩,hA⟩
  have ew:Cb.dr M.nw k=k:=by rw[o3];unfold Cb.dr;rw[if_pos (by omega)];omega
  rw[ew] at p2
  exact⟨v,_,rfl,hA.fD (by decide),fun _=>⟨p1,p2,p3.trans o3⟩,fun e=>by omega⟩
 have HT1:Hid (∀V ad T M i,i<k->Al w V ad P n q T M->DB P n k i M->Calls Tryz.prog 23 #[.pointer (some ⟨ad.m,0,none⟩)] V fun e w'=> ∃b c,e= .returned (.slice (some ⟨b,0,none⟩) 1 c)/\w'.cell? ⟨b,2,none⟩=some (.int .i64 4)/\Al w w' ad P n q T M):=fun V ad T M i hi h hs=>h.G8 (hs.1 hi).1 (by decide) hn.1
 have HT2:Hid (∀V ad T M,Al w V ad P n q T M->DB P n k k M->Calls Tryz.prog 23 #[.pointer (some ⟨ad.m,0,none⟩)] V fun e w'=> ∃b c,e= .returned (.slice (some ⟨b,0,none⟩) 1 c)/\w'.cell? ⟨b,2,none⟩=some (.int .i64 1)/\Al w w' ad P n q T M):=fun V ad T M h hs=>h.G8 (hs.2 rfl).1 (by decide) hn.1
 have HW1:Hid (∀V ad T M i,i<k->Al w V ad P n q T M->DB P n k i M->Calls Tryz.prog 24 #[.pointer (some ⟨ad.m,0,none⟩),.int .i64 0] V fun e w'=> ∃a c,e= .returned (.slice a 0 c)/\Al w w' ad P n q T M):=fun V ad T M i hi h hs=>by
  refine(h.wait 0).mono ?_
  rintro e w' ⟨⟨a,c,rfl⟩,hA,_⟩
  exact⟨a,c,by rw[(hs.1 hi).1.none (by decide)];rfl,hA⟩
 have HW2:Hid (∀V ad T M,Al w V ad P n q T M->DB P n k k M->Calls Tryz.prog 24 #[.pointer (some ⟨ad.m,0,none⟩),.int .i64 0] V fun e w'=> ∃a c,e= .returned (.slice a 1 c)/\Al w w' ad P n q T M):=fun V ad T M h hs=>by
  refine(h.wait 0).mono ?_
  rintro e w' ⟨⟨a,c,rfl⟩,hA,_⟩
  exact⟨a,c,by rw[(hs.2 rfl).2],hA⟩
 have HTK:Hid (∀V ad M i,i<k->Al w V ad P n q (650+80*i) M->DB P n k i M->Calls Tryz.prog 16 #[.pointer (some ⟨ad.m,0,none⟩)] V fun e w'=> ∃(v:Value) (M':Mc),e= .returned v/\Al w w' ad P n q (650+80*(i+1)) M'/\DB P n k (i+1) M'):=fun V ad M i hi h hs=>by
  obtain⟨o1,o2,o3⟩:=hs.1 hi
  obtain⟨t1,t2⟩:=o1.tick hP.1 hn.1 hq.1 o2 o3 (by omega)
  refine(h.aN o1.iv hn.2 (by omega)).mono ?_
  rintro e w' ⟨⟨v,rfl⟩,hA⟩
  exact⟨v,_,rfl,hA.fD (by omega),t1,fun e=>t2 e.symm⟩
 have HLV:Hid (∀V,Below w.heap.size w V->Calls Tryz.prog 20 #[] V fun e w'=>e= .returned (.bool true)/\Below V.heap.size V w'):=fun V hb=>AR V (ht.below hb)
 have hbi:=BI
 clear ht
 go_enter Tryz.func5,Tryz.ntmps5
 go_wp2_with (first
  |(go_at_call 11;refine(HCF.out _ ((z9 _ _).alloc (i8 _) _)).mono ?_;rintro e w1 ⟨rfl,hb1⟩;have HB1:=aa hb1;clear hb1)
  |(go_at_call 10;refine(HN.out w1 HB1.out).mono ?_;rintro e w2 ⟨ad,rfl,hA⟩;have HA:=aa hA;clear hA)
  |(go_at_call 17;refine(HL.out w2 ad HA.out).mono ?_;rintro e w3 ⟨rfl,hA3⟩;have HA3:=aa hA3;clear hA3)
  |(go_at_call 19;refine(HS.out _ ad HA3.out).mono ?_;rintro e w4 ⟨v4,M4,rfl,hA4,hS4⟩;have HA4:=aa hA4;have HS4:=aa hS4;clear hA4 hS4)
  |(go_at_call 13;refine(HD.out w4 ad M4 HA4.out HS4.out).mono ?_;rintro e w5 ⟨v5,M5,rfl,hA5,hS5⟩;have HA5:=aa hA5;have HS5:=aa hS5;clear hA5 hS5)
  |(go_at_call 13;refine(HE.out w5 ad M5 HA5.out HS5.out).mono ?_;rintro e w6 ⟨v6,M6,rfl,hA6,hS6⟩;have HA6:=aa hA6;have HS6:=aa hS6;clear hA6 hS6))
 go_loopw [9] (fun iv wr=> ∃(i:Nat) (M:Mc),i<=k/\iv= .int .i64 i/\Al w wr ad P n q (650+80*i) M/\DB P n k i M) (fun iv _=>k-(RowKit.intOf iv).toNat)
 case atStart=>exact⟨0,M6,by omega,rfl,HA6.out,HS6.out⟩
 case round=>
  obtain⟨i,M,hik,rfl,hA7,hS7⟩:=hrel
  have HA7:=aa hA7
  have HS7:=aa hS7
  clear hA7 hS7 HA6 HS6
  by_cases hil:i<k
  ·have hil':(i:Int)<(k:Int):=by omega
   go_wp2_with (first
    |(go_at_call 23;refine(HT1.out wr ad _ M i hil HA7.out HS7.out).mono ?_;rintro e w7 ⟨b,c,rfl,hc4,hA8⟩;have HA8:=aa hA8;clear hA8)
    |(go_at_call 24;refine(HW1.out w7 ad _ M i hil HA8.out HS7.out).mono ?_;rintro e w8 ⟨a9,c9,rfl,hA9⟩;have HA9:=aa hA9;clear hA9)
    |(go_at_call 16;refine(HTK.out w8 ad M i hil HA9.out HS7.out).mono ?_;rintro e w9 ⟨v9,M9,rfl,hA10,hS10⟩;have HA10:=aa hA10;have HS10:=aa hS10;clear hA10 hS10))
   go_roundw
   case rel=>exact⟨i+1,M9,by omega,by go_num,HA10.out,HS10.out⟩
   case measure=>simp[RowKit.intOf];omega
  ·have hil': ¬(i:Int)<(k:Int):=by omega
   obtain rfl:i=k:=by omega
   go_wp2_with (first
    |(go_at_call 23;refine(HT2.out wr ad _ M HA7.out HS7.out).mono ?_;rintro e w7 ⟨b,c,rfl,hc1,hA8⟩;have hl8:=aa (zX0 w7 _ hc1);have HC1:=aa hc1;have HA8:=aa hA8;clear hA8 hc1)
    |(go_at_call 20;refine(HLV.out w7 HA8.out.nZ).mono ?_;rintro e w8 ⟨rfl,hb8⟩;have hc2:w8.cell? ⟨b,2,none⟩=some (.int .i64 1):=(zZ0 (hb8.block b hl8.out)).trans HC1.out;have HA9:=aa (HA8.out.below hb8);clear hb8)
    |(go_at_call 24;refine(HW2.out w8 ad _ M HA9.out HS7.out).mono ?_;rintro e w9 ⟨a9,c9,rfl,hA10⟩;have HA10:=aa hA10;clear hA10))
   go_ret
   exact⟨rfl,HA10.out.nZ⟩
end Go.Proofs.YtjlbmmiomfpgiaaGreatDoor
