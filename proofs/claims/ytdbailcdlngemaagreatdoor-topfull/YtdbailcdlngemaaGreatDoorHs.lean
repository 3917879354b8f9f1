/- YtdbailcdlngemaaGreatDoorHs: of the texts Bb1 Bb2 Bb3 Bb4 Bb5 Bb6 Bb7 Bd1 Bd2 Bd3 Be1 Be2 Be3 Ca1 Bf8 Bf9 Bg1 Bg2 Bg3 Bg4 Bg5 Bg6 Bg7 Bg8 Bg9 Bi2 Bi1 Bj1 Bj2 Bj3 Bj4 Bj5 Bl1 what is wanted. -/
import Derived.Test.YtdbailcdlngemaaGreatDoorHq
import Derived.ProofKit
import Derived.OpenShut
import Derived.Deep.Slices
import Derived.Deep.Strs
import Derived.ChangeOld
import Derived.ChangeSame
import Derived.Test.YtdbailcdlngemaaGreatDoorHt
import Derived.Test.YtdbailcdlngemaaGreatDoorHl
set_option maxHeartbeats 16000000
set_option maxRecDepth 100000
set_option linter.unusedVariables false
set_option linter.unusedSimpArgs false
namespace Go.Proofs.YtdbailcdlngemaaGreatDoor
open Go.RowKit Go.Lib
theorem jx {a b c:Ke.K} (h:Ke.up a b=false) (k:Ke.up b c=false):Ke.up a c=false:=by
 obtain⟨ae,ad,al⟩:=a
 obtain⟨be,bd,bl⟩:=b
 obtain⟨ce,cd,cl⟩:=c
 cases ae<;>cases be<;>cases ce<;>simp_all [Ke.up]<;>omega
theorem DH {a b:Ke.K} (h:Ke.up a b=true):Ke.up b a=false:=by
 obtain⟨ae,ad,al⟩:=a
 obtain⟨be,bd,bl⟩:=b
 cases ae<;>cases be<;>simp_all [Ke.up]<;>omega
theorem ju (a:Ke.K):Ke.up a a=false:=by simp[Ke.up]
theorem oU (H:List Hd): ∀(l:List Nat) (b:Option Nat),(∀c0,b=some c0→ ∃c,l.foldl (cF H) b=some c∧Ke.up (gF (MM H c0)) (gF (MM H c))=false)∧ ∀x∈l,∀y M,MM H x=y::M→ ∃c,l.foldl (cF H) b=some c∧Ke.up y.2 (gF (MM H c))=false
 |[],b=>⟨fun c0 hc=>⟨c0,hc,ju _⟩,fun x hx=>by cases hx⟩
 |x::l,b=>by
  have A: ∀c0,b=some c0→ ∃c1,cF H b x=some c1∧Ke.up (gF (MM H c0)) (gF (MM H c1))=false:=by
   intro c0 hc
   subst hc
   unfold cF
   cases hM:MM H x with
   |nil=>exact⟨c0,rfl,ju _⟩
   |cons y M=>
    simp only
    cases hu:Ke.up y.2 (gF (MM H c0)) with
    |true=>
     refine⟨x,rfl,?_⟩
     rw[hM]
     exact DH hu
    |false=>exact⟨c0,rfl,ju _⟩
  have B: ∀y M,MM H x=y::M→ ∃c1,cF H b x=some c1∧Ke.up y.2 (gF (MM H c1))=false:=by
   intro y M hM
   unfold cF
   rw[hM]
   cases b with
   |none=>exact⟨x,rfl,by rw[hM];exact ju _⟩
   |some c0=>
    simp only
    cases hu:Ke.up y.2 (gF (MM H c0)) with
    |true=>exact⟨x,rfl,by rw[hM];exact ju _⟩
    |false=>exact⟨c0,rfl,hu⟩
  obtain⟨i1,i2⟩:=oU H l (cF H b x)
  refine⟨fun c0 hc=> ?_,fun z hz y M hM=> ?_⟩
  ·obtain⟨c1,e1,n1⟩:=A c0 hc
   obtain⟨c,e2,n2⟩:=i1 c1 e1
   exact⟨c,e2,jx n1 n2⟩
  ·rcases List.mem_cons.1 hz with rfl|hz
   ·obtain⟨c1,e1,n1⟩:=B y M hM
    obtain⟨c,e2,n2⟩:=i1 c1 e1
    exact⟨c,e2,jx n1 n2⟩
   ·exact i2 z hz y M hM
theorem rm {np p d x:Nat} (hp:p<np) (hx:x≤np):x∈di np p d:=by
 unfold di eD
 by_cases h1:x=p
 ·rw[h1];simp
 by_cases h2:x=np
 ·rw[h2];simp
 refine List.mem_cons_of_mem _ (List.mem_cons_of_mem _ (List.mem_filter.2 ⟨List.mem_map.2 ⟨(x+2*np-(p+1+d%np))%np,List.mem_range.2 (Nat.mod_lt _ (by omega)),?_⟩,by simpa using h1⟩))
 unfold lr
 have hm:d%np<np:=Nat.mod_lt _ (by omega)
 rw[Nat.add_mod_mod]
 have e:p+1+d%np+(x+2*np-(p+1+d%np))=x+np*2:=by omega
 rw[e,Nat.add_mul_mod_self_left]
 exact Nat.mod_eq_of_lt (by omega)
theorem DZ (G:List (List En)) (c:Nat) (M:List En):gh (G.set c M)=(gh G).set c ⟨0,0,0,0,0,0,M⟩:=by unfold gh;rw[List.map_set]
theorem kW {G:List (List En)} {c:Nat} {x:Hd} (h:(gh G)[c]? =some x):G[c]? =some x.M:=by
 have:=oD h
 rw[dZ] at this
 exact this
section
variable {w:World} {O:Nat→Prop} {pb n np q T:Nat} {G:List (List En)}
theorem PQ.nd (h:PQ w O pb n np q T G) {c:Nat} {x:Hd} (hx:(gh G)[c]? =some x):(x.M.map (·.1)).Nodup∧(∀y∈x.M,y.1<n)∧ ∀y∈x.M,Ke.aJ y.2=true:=by
 obtain⟨h1,h2,_,h4⟩:=h.at (kW hx)
 exact⟨h1,h2,h4⟩
theorem PQ.FF (h:PQ w O pb n np q T G) {p d:Int} {c:Nat} (hb:bb np (gh G) p d=some c): ∃z:En,bI (gh G) (some c)=(z.1:Int)∧bK (gh G) (some c)=z.2∧z.1<n∧aN n (gh (gW np (gh G) p d)) 0 (z.1:Int)=none∧cS (gh (gW np (gh G) p d))+1=cS (gh G):=by
 obtain⟨_,_,x,z,M',hx,hM⟩:=mY hb
 obtain⟨hnd,hrn,_⟩:=h.nd hx
 have e1:bI (gh G) (some c)=(z.1:Int):=by show rL (MM (gh G) c)=_;rw[cm hx,hM];rfl
 have e2:bK (gh G) (some c)=z.2:=by show gF (MM (gh G) c)=_;rw[cm hx,hM];rfl
 have hg:gW np (gh G) p d=G.set c M':=by unfold gW;rw[hb,dZ];show G.set c (MM (gh G) c).tail=_;rw[cm hx,hM];rfl
 have hcut:cut z.1 x.M=M':=by rw[hM];exact mQ (by rw[←hM];exact hnd)
 have hzk:(keyOf x.M z.1).isSome=true:=by rw[gZ];exact⟨z,by rw[hM];simp,rfl⟩
 rw[hg,DZ]
 obtain⟨_,u2⟩:=nW (n:=n) (y:=⟨0,0,0,0,0,0,M'⟩) h.un hx (id:=z.1) hcut.symm hzk
 have hs:=dX (y:=⟨0,0,0,0,0,0,M'⟩) hx
 refine⟨z,e1,e2,hrn z (by rw[hM];simp),?_,?_⟩
 ·rw[u2]
  unfold gM
  rw[if_pos rfl]
 ·have:x.M.length=M'.length+1:=by rw[hM];rfl
  simp only at hs
  omega
end
theorem mN {G:List (List En)} {i:Nat} {M:List En} (h:G[i]? =some M):(gh G)[i]? =some ⟨0,0,0,0,0,0,M⟩:=by unfold gh;rw[List.getElem?_map,h];rfl
theorem uF {np:Nat} {G:List (List En)} {p d:Int} {c:Nat} (hl:G.length=np+1) (hb:bb np (gh G) p d=some c) {i:Nat} {y:En} {M:List En} (hM:G[i]? =some (y::M)):Ke.up y.2 (gF (MM (gh G) c))=false:=by
 obtain⟨hp,h,_⟩:=mY hb
 have hil:i≤np:=by have:=(List.getElem?_eq_some_iff.1 hM).1;omega
 obtain⟨_,t2⟩:=oU (gh G) (di np p.toNat d.toNat) none
 obtain⟨c',e1,n1⟩:=t2 i (rm (by omega) hil) y M (cm (mN hM))
 have h':(di np p.toNat d.toNat).foldl (cF (gh G)) none=some c:=h
 rw[h'] at e1
 injection e1 with e1
 rw[e1]
 exact n1
theorem DI {np:Nat} {G:List (List En)} (hl:G.length=np+1) {p:Int} (hp:0≤p∧p<(np:Int)) (d:Int):(bb np (gh G) p d).isSome=decide (0<cS (gh G)):=by
 cases hb:bb np (gh G) p d with
 |some c=>
  obtain⟨_,_,x,z,M',hx,hM⟩:=mY hb
  have hs:=dX (y:=⟨0,0,0,0,0,0,[]⟩) hx
  have e:x.M.length=M'.length+1:=by rw[hM];rfl
  simp only[List.length_nil] at hs
  exact(decide_eq_true (by omega)).symm
 |none=>
  refine(decide_eq_false (fun hpos=> ?_)).symm
  have key: ∀(i:Nat) (M:List En),G[i]? =some M→M=[]:=fun i M hM=>by
   cases M with
   |nil=>rfl
   |cons y M=>
    exfalso
    have hil:i≤np:=by have:=(List.getElem?_eq_some_iff.1 hM).1;omega
    obtain⟨_,t2⟩:=oU (gh G) (di np p.toNat d.toNat) none
    obtain⟨c',e1,_⟩:=t2 i (rm (by omega) hil) y M (cm (mN hM))
    unfold bb at hb
    rw[if_pos hp] at hb
    unfold iA at hb
    rw[hb] at e1
    cases e1
  have:=lW (H:=gh G) (fun i x hx=>key i x.M (kW hx))
  omega
def kR (M:List En):Prop:=M.Pairwise (fun a b=>Ke.up b.2 a.2=false)
theorem ow (R:List (Nat×Nat)): ∀k,kR (gA R k)
 |0=>List.Pairwise.nil
 |k+1=>by
  unfold kR
  rw[gA,List.pairwise_append]
  refine⟨?_,ow R k,?_⟩
  ·refine List.Pairwise.imp_of_mem (R:=fun _ _=>True) ?_ (List.pairwise_of_forall (fun _ _=>trivial))
   intro a b ha hb _
   rw[(jK.1 ha).2,(jK.1 hb).2,uz]
   simp
  ·intro a ha b hb
   obtain⟨j,hj,_,e⟩:=iG.1 hb
   rw[(jK.1 ha).2,e,uz]
   simp
   omega
theorem xE (L:List Ph.Item) (h:Ph.vV L):kR (dl L):=by
 unfold kR dl
 rw[List.pairwise_map]
 refine List.Pairwise.imp ?_ h
 intro a b hab
 rw[CQ]
 unfold Ph.ah at hab
 simp
 omega
theorem wc (R:List (Nat×Nat)) (L:List Ph.Item) (h:Ph.vV L):kR (all R L):=by
 unfold kR all
 rw[List.pairwise_append]
 refine⟨xE L h,ow R 256,?_⟩
 intro a ha b hb
 obtain⟨d,s,_,e⟩:=tw.1 ha
 obtain⟨j,_,_,e'⟩:=iG.1 hb
 rw[e,e']
 exact Cv _ _
theorem cT.ur {w:World} {sb qb gq hb gh n most turn:Nat} {M:List En} (h:cT w sb qb gq hb gh n most turn M):kR M:=by
 obtain⟨R,L,hS,hI⟩:=h
 rw[←hI.eq]
 exact wc R L hS.h.qa.srt
theorem PQ.ur {w:World} {O:Nat→Prop} {pb n np q T:Nat} {G:List (List En)} (h:PQ w O pb n np q T G) {i:Nat} {M:List En} (hi:G[i]? =some M):kR M:=by
 obtain⟨base,lo,mb,v,H,hQ,hG,hO⟩:=h
 rw[←hG] at hi
 simp only[Ms,List.getElem?_map] at hi
 cases hx:H[i]? with
 |none=>rw[hx] at hi;cases hi
 |some x=>
  rw[hx] at hi
  injection hi with hi
  subst hi
  exact cT.ur (hQ.p.sets.it i x hx)
def lL (G:List (List En)) (z:En):Prop:= ∃(i:Nat) (M:List En),G[i]? =some M∧z∈M
section
variable {w:World} {O:Nat→Prop} {pb n np q T:Nat} {G:List (List En)}
theorem zw {p d:Int}: ∀z,lL (gW np (gh G) p d) z→lL G z:=by
 rintro z ⟨i,M,hM,hz⟩
 unfold gW at hM
 cases hb:bb np (gh G) p d with
 |none=>rw[hb,dZ] at hM;exact⟨i,M,hM,hz⟩
 |some c=>
  rw[hb,dZ] at hM
  simp only at hM
  rcases Nat.decEq i c with e|e
  ·rw[List.getElem?_set_ne (fun q=>e q.symm)] at hM
   exact⟨i,M,hM,hz⟩
  ·subst e
   obtain⟨_,_,x,z',M',hx,hM'⟩:=mY hb
   have hil:i<G.length:=(List.getElem?_eq_some_iff.1 (kW hx)).1
   rw[List.getElem?_set_self hil,cm hx] at hM
   injection hM with hM
   subst hM
   exact⟨i,x.M,kW hx,List.mem_of_mem_tail hz⟩
end
theorem sM {L:List Pi.Lk} (h: ∀y∈L,y.l=[]) (t:Nat):Pi.behind L t=[]:=by
 unfold Pi.behind
 rw[List.flatMap_eq_nil_iff]
 intro y hy
 exact h y (List.mem_filter.1 hy).1
theorem zJ {L:List Pi.Lk} (h: ∀y∈L,y.l=[]):Pi.rQ L:=
 ⟨0,fun _=>0,fun _=>Nat.le_refl _,fun t s e=>by obtain⟨y,hy,ht,_⟩:=e;rw[h y hy] at ht;cases ht⟩
theorem sP {T:List Pi.Th} {L:List Pi.Lk} (ha:Pi.rQ L) {t:Nat} (ht:t<T.length) (hb:Pi.behind L t=[]):Pi.dc T L (t:Int)=Pi.iM T t:=by
 unfold Pi.dc Pi.lq
 rw[if_pos (by simpa using ht),show((t:Int)).toNat=t from rfl,Pi.qk ha,hb]
 rfl
theorem ot (n:Nat) (M:Mc) (κ:Nat→Ke.K): ∀(l:List Nat) (g:Pi.Md),(∀x∈l,x<g.T.length∧dH M n (M.th x)=κ x∧Ke.aJ (κ x)=true)→(l.foldl (fa n M) g).T.length=g.T.length∧(l.foldl (fa n M) g).L=g.L∧ ∀x,(x∈l∨Pi.iM g.T x=κ x)→Pi.iM (l.foldl (fa n M) g).T x=κ x
 |[],g,_=>⟨rfl,rfl,fun x h=>h.elim (fun q=>by cases q) id⟩
 |y::l,g,h=>by
  obtain⟨hy,ho,hr⟩:=h y (by simp)
  have e:fa n M g y=⟨g.T.set y ⟨κ y,(g.T[y]'hy).u⟩,g.L⟩:=by
   unfold fa Pi.fu
   rw[ho,if_pos (by simp[Pi.lq,hr,hy]),show((y:Int)).toNat=y from rfl,List.getElem?_eq_getElem hy]
  rw[List.foldl_cons,e]
  obtain⟨h1,h2,h3⟩:=ot n M κ l ⟨g.T.set y ⟨κ y,(g.T[y]'hy).u⟩,g.L⟩ (fun x hx=>by have:=h x (by simp[hx]);simpa using this)
  refine⟨by rw[h1];simp,h2,fun x hx=>h3 x ?_⟩
  by_cases exy:x=y
  ·subst exy
   refine .inr ?_
   simp[Pi.iM,hy]
  ·rcases hx with hx|hx
   ·rcases List.mem_cons.1 hx with q|q
    ·exact absurd q exy
    ·exact .inl q
   ·refine .inr ?_
    show Pi.iM (g.T.set y _) x=_
    unfold Pi.iM at hx⊢
    rw[List.getElem?_set_ne (fun q=>exy q.symm)]
    exact hx
theorem yJ {n:Nat} {G:List (List En)} {x:Nat} {k:Ke.K} (h: ∀z,lL G z→z.1=x→z.2=k):dU n (gh G) (x:Int) k=G:=by
 unfold dU
 split
 case isFalse=>exact dZ G
 generalize BL n (gh G) (x:Int)=i
 rw[dZ]
 cases hi:G[i]? with
 |none=>exact List.set_eq_of_length_le (List.getElem?_eq_none_iff.1 hi)
 |some M=>
  rw[cm (mN hi)]
  have e:fI n M (x:Int) k=M:=by
   unfold fI
   split
   case isFalse=>rfl
   case isTrue hc=>
    split
    case isTrue=>rfl
    case isFalse hk=>
     exfalso
     unfold jC at hc
     split at hc
     ·cases hc
     split at hc
     case isFalse=>cases hc
     case isTrue hs=>
      rw[show((x:Int)).toNat=x from rfl] at hk hs
      unfold keyOf at hk hs
      cases hf:M.find? (fun y=>y.1==x) with
      |none=>rw[hf] at hs;cases hs
      |some y=>
       have hy:=List.mem_of_find?_eq_some hf
       have hx:y.1=x:=by have:=List.find?_some hf;simpa using this
       rw[hf] at hk
       exact hk (by rw[←h y ⟨i,M,hi,hy⟩ hx];rfl)
  show G.set i (fI n M (x:Int) k)=G
  rw[e]
  obtain⟨hl,he⟩:=List.getElem?_eq_some_iff.1 hi
  rw[←he]
  exact List.set_getElem_self hl
theorem qy {S:Nat→Nat} {fr:Bool} {n:Nat}: ∀k,k≤n→ ∀x:Fin n,x∈Gt.pl S fr n k↔x.val<k∧(S x.val==0)=fr
 |0,_,x=>by simp[Gt.pl]
 |k+1,hk,x=>by
  have ih:=qy (S:=S) (fr:=fr) k (by omega) x
  by_cases hs:(S k==0)=fr
  ·rw[Gt.jf (by omega) hs,List.mem_append,ih,List.mem_singleton]
   constructor
   ·rintro(h|h)
    ·exact⟨by omega,h.2⟩
    ·subst h;exact⟨Nat.lt_succ_self _,hs⟩
   ·rintro⟨h1,h2⟩
    rcases Nat.lt_succ_iff_lt_or_eq.1 h1 with h|h
    ·exact .inl ⟨h,h2⟩
    ·exact .inr (Fin.ext h)
  ·rw[Gt.yk hs,ih]
   constructor
   ·rintro⟨h1,h2⟩;exact⟨by omega,h2⟩
   ·rintro⟨h1,h2⟩
    rcases Nat.lt_succ_iff_lt_or_eq.1 h1 with h|h
    ·exact⟨h,h2⟩
    ·rw[h] at h2;exact absurd h2 hs
theorem nu {M:Mc} {n x:Nat}:x∈cK M n↔x<n∧M.S x≠0:=by
 unfold cK
 rw[List.mem_map]
 constructor
 ·rintro⟨y,hy,rfl⟩
  have:=(qy n (Nat.le_refl _) y).1 hy
  exact⟨this.1,by simpa using this.2⟩
 ·rintro⟨h1,h2⟩
  exact⟨⟨x,h1⟩,(qy n (Nat.le_refl _) _).2 ⟨h1,by simpa using h2⟩,rfl⟩
theorem oy {α β:Type} (f:β→α→β) (b:β): ∀l:List α,(∀x∈l,f b x=b)→l.foldl f b=b
 |[],_=>rfl
 |x::l,h=>by rw[List.foldl_cons,h x (by simp)];exact oy f b l (fun y hy=>h y (by simp[hy]))
theorem fY {n:Nat} {M:Mc} {κ:Nat→Ke.K} (hlen:M.gr.T.length=n) (hnl: ∀y∈M.gr.L,y.l=[]) (ho: ∀x,x<n→M.S x≠0→dH M n (M.th x)=κ x∧Ke.aJ (κ x)=true) (he: ∀z,lL M.pl z→z.2=κ z.1):
  ∃g,settle M n={M with gr:=g}∧g.T.length=n∧g.L=M.gr.L∧ ∀x,x<n→M.S x≠0→Pi.dc g.T g.L (x:Int)=κ x:=by
 obtain⟨h1,h2,h3⟩:=ot n M κ (cK M n) M.gr (fun x hx=>by
  obtain⟨q1,q2⟩:=nu.1 hx
  exact⟨by rw[hlen];exact q1,(ho x q1 q2).1,(ho x q1 q2).2⟩)
 have hk: ∀x,x<n→M.S x≠0→Pi.dc (gV M n).T (gV M n).L (x:Int)=κ x:=fun x q1 q2=>by
  have hnl': ∀y∈(gV M n).L,y.l=[]:=by
   intro y hy
   exact hnl y (by rw[←h2];exact hy)
  rw[sP (zJ hnl') (by show x<((cK M n).foldl (fa n M) M.gr).T.length;rw[h1,hlen];exact q1) (sM hnl' x)]
  exact h3 x (.inl (nu.2 ⟨q1,q2⟩))
 refine⟨gV M n,?_,h1.trans hlen,h2,hk⟩
 unfold settle
 have e:(cK M n).foldl (iN n M (gV M n)) M.pl=M.pl:=oy _ _ _ (fun x hx=>by
  obtain⟨q1,q2⟩:=nu.1 hx
  unfold iN
  split
  ·rw[hk x q1 q2]
   exact yJ (fun z hz ez=>by rw[he z hz,ez])
  ·rfl)
 rw[e]
theorem mh {n:Nat} {G S:Nat→Nat} {x:Nat} (hx:x<n) (hs:S x≠0):Gt.hasB n G S (x:Int) (G x)=true:=by
 unfold Gt.hasB
 simp[hx,hs]
theorem tX {M:Mc} {n x:Nat} {t:Tr} (hx:x<n) (hp:t.p=(x:Int)) (hg:t.g=M.G x) (hs:M.S x≠0):fB M n t=M.S x:=by
 unfold fB
 rw[hp,hg,mh hx hs]
 rfl
theorem vz {n:Nat} {G S:Nat→Nat} {x s:Nat} (hx:x<n) (hs:S x≠0) (hm:Gt.nM (S x) s=true):dG n G S (x:Int) (G x) s=Gt.aw S x s:=by
 unfold dG
 rw[if_pos ⟨mh hx hs,hm⟩]
 rfl
theorem zX {n:Nat} {G S:Nat→Nat} {x s:Nat} (hm:Gt.nM (S x) s=false):dG n G S (x:Int) (G x) s=S:=by
 unfold dG
 rw[if_neg (fun q=>by have:=q.2;rw[show((x:Int)).toNat=x from rfl,hm] at this;cases this)]
theorem Co {np n q:Nat} {G:List (List En)} (hl:G.length=np+1) {p:Nat} (hp:p<np) {id:Nat} (hi:id<n) {k:Ke.K} (hr:Ke.aJ k=true) (hno: ∀z,lL G z→z.1≠id) (z:En):
  lL (fG np n q (gh G) (p:Int) (id:Int) k) z↔z=(id,k)∨lL G z:=by
 have hw:aN n (gh G) 0 (id:Int)=none:=fo n _ (gh G) 0 (fun i x hx _=>bX.2 (fun y hy=>hno y ⟨i,x.M,kW hx,hy⟩))
 have hc:jG np n (gh G) (p:Int) (id:Int) k=0:=by
  unfold jG
  rw[if_neg (by unfold nH;rintro((q|q)|q|q|q);omega;omega;omega;omega;rw[hr] at q;cases q),hw]
  rfl
 have hal:j6 np n q (gh G) p<G.length:=by
  rw[hl]
  unfold j6
  split<;>omega
 have hx:G[j6 np n q (gh G) p]? =some (G[j6 np n q (gh G) p]'hal):=List.getElem?_eq_getElem _
 have hg:fG np n q (gh G) (p:Int) (id:Int) k=G.set (j6 np n q (gh G) p) (Go.Proofs.YtdbailcdlngemaaGreatDoor.put (id,k) (MM (gh G) (j6 np n q (gh G) p))):=by
  unfold fG
  rw[if_pos hc,dZ]
  rfl
 rw[hg]
 generalize j6 np n q (gh G) p=j at*
 generalize G[j]=X at hx
 rw[cm (mN hx)]
 constructor
 ·rintro⟨i,M,hM,hz⟩
  by_cases e:i=j
  ·subst e
   rw[List.getElem?_set_self hal] at hM
   injection hM with hM
   subst hM
   exact(dC.1 hz).imp (fun q=>q) (fun q=>⟨_,X,hx,q⟩)
  ·rw[List.getElem?_set_ne (fun q=>e q.symm)] at hM
   exact .inr ⟨i,M,hM,hz⟩
 ·rintro(rfl|⟨i,M,hM,hz⟩)
  ·exact⟨j,_,List.getElem?_set_self hal,dC.2 (.inl rfl)⟩
  ·by_cases e:i=j
   ·subst e
    rw[hx] at hM
    injection hM with hM
    subst hM
    exact⟨i,_,List.getElem?_set_self hal,dC.2 (.inr hz)⟩
   ·exact⟨i,M,by rw[List.getElem?_set_ne (fun q=>e q.symm)];exact hM,hz⟩
theorem ry {w:World} {O:Nat→Prop} {pb n np q T:Nat} {G:List (List En)} (h:PQ w O pb n np q T G) {p d:Int} (hb:(bb np (gh G) p d).isSome=true):
  ∃(x:Nat) (k:Ke.K),x<n∧bI (gh G) (bb np (gh G) p d)=(x:Int)∧lL G (x,k)∧(∀z,lL G z→Ke.up z.2 k=false)∧ ∀z,lL (gW np (gh G) p d) z↔lL G z∧z.1≠x:=by
 obtain⟨c,hc⟩:=Option.isSome_iff_exists.1 hb
 obtain⟨z,e1,e2,hz,hw,hs⟩:=h.FF hc
 obtain⟨_,_,y,z',M',hy,hM⟩:=mY hc
 have hzz:z'=z:=by
  have q1:bI (gh G) (some c)=(z'.1:Int):=by show rL (MM (gh G) c)=_;rw[cm hy,hM];rfl
  have q2:bK (gh G) (some c)=z'.2:=by show gF (MM (gh G) c)=_;rw[cm hy,hM];rfl
  rw[e1] at q1
  rw[e2] at q2
  exact Prod.ext (by omega) q2.symm
 subst hzz
 have hcl:c<G.length:=(List.getElem?_eq_some_iff.1 (kW hy)).1
 have hG:G[c]? =some (z'::M'):=by rw[←hM];exact kW hy
 have hg:gW np (gh G) p d=G.set c M':=by unfold gW;rw[hc,dZ];show G.set c (MM (gh G) c).tail=_;rw[cm hy,hM];rfl
 refine⟨z'.1,z'.2,hz,by rw[hc];exact e1,⟨c,_,hG,by simp⟩,?_,?_⟩
 ·rintro y ⟨i,M2,hM2,hy2⟩
  have hk:gF (MM (gh G) c)=z'.2:=by rw[cm hy,hM];rfl
  cases hM3:M2 with
  |nil=>rw[hM3] at hy2;cases hy2
  |cons y0 M4=>
   have h0:Ke.up y0.2 z'.2=false:=by rw[←hk];exact uF h.len hc (by rw[←hM3];exact hM2)
   rw[hM3] at hy2
   rcases List.mem_cons.1 hy2 with e|e
   ·rw[e];exact h0
   ·have hf:=h.ur hM2
    rw[hM3] at hf
    exact jx ((List.pairwise_cons.1 hf).1 y e) h0
 ·intro y
  constructor
  ·intro hy2
   refine⟨zw y hy2,?_⟩
   obtain⟨i,M2,hM2,hy3⟩:=hy2
   exact bX.1 (dt hw hz (mN hM2)) y hy3
  ·rintro⟨⟨i,M2,hM2,hy2⟩,hne⟩
   rw[hg]
   by_cases e:i=c
   ·subst e
    rw[hG] at hM2
    injection hM2 with hM2
    subst hM2
    rcases List.mem_cons.1 hy2 with q|q
    ·rw[q] at hne;exact absurd rfl hne
    ·exact⟨i,M',List.getElem?_set_self hcl,q⟩
   ·exact⟨i,M2,by rw[List.getElem?_set_ne (fun q=>e q.symm)];exact hM2,hy2⟩
theorem uV {np:Nat} {G:List (List En)} (hl:G.length=np+1) {p d:Int} (hp:0≤p∧p<(np:Int)) (hb:(bb np (gh G) p d).isSome=false) (z:En): ¬lL G z:=by
 rintro⟨i,M,hM,hz⟩
 have h1:=DI hl hp d
 rw[hb] at h1
 have h2:=of_decide_eq_false h1.symm
 have hs:=dX (y:=⟨0,0,0,0,0,0,[]⟩) (mN hM)
 simp only[List.length_nil] at hs
 have:0<M.length:=List.length_pos_of_mem hz
 omega
def jX (f:Nat→Bool):Nat→Nat
 |0=>0
 |c+1=>jX f c+(if f c then 1 else 0)
theorem jL {f g:Nat→Bool}: ∀c,(∀i,i<c→f i=true→g i=true)→jX f c≤jX g c
 |0,_=>Nat.le_refl _
 |c+1,h=>by
  have:=jL c (fun i hi=>h i (by omega))
  have hc:=h c (by omega)
  unfold jX
  cases hf:f c with
  |false=>simp;omega
  |true=>rw[hc hf];simp;omega
theorem sO {f g:Nat→Bool} {x:Nat}: ∀c,(∀i,i<c→f i=true→g i=true)→x<c→f x=false→g x=true→jX f c<jX g c
 |0,_,h,_,_=>by omega
 |c+1,h,hx,hf,hg=>by
  unfold jX
  by_cases e:x=c
  ·subst e
   have:=jL x (fun i hi=>h i (by omega))
   rw[hf,hg];simp;omega
  ·have:=sO c (fun i hi=>h i (by omega)) (by omega) hf hg
   have hc:=h c (by omega)
   cases hf':f c with
   |false=>simp;omega
   |true=>rw[hc hf'];simp;omega
theorem vk {f g:Nat→Bool} (c:Nat) (h: ∀i,i<c→f i=g i):jX f c=jX g c:=
 Nat.le_antisymm (jL c (fun i hi q=>by rw[←h i hi];exact q)) (jL c (fun i hi q=>by rw[h i hi];exact q))
theorem ub {f g:Nat→Bool} {x:Nat}: ∀c,(∀i,i<c→i≠x→g i=f i)→x<c→f x=false→g x=true→jX g c=jX f c+1
 |0,_,h,_,_=>by omega
 |c+1,h,hx,hf,hg=>by
  unfold jX
  by_cases e:x=c
  ·subst e
   have:=vk (f:=f) (g:=g) x (fun i hi=>(h i (by omega) (by omega)).symm)
   rw[hf,hg];simp;omega
  ·have:=ub c (fun i hi=>h i (by omega)) (by omega) hf hg
   rw[h c (by omega) (fun q=>e q.symm)]
   omega
theorem Cm {f:Nat→Bool}: ∀c,(∀i,i<c→f i=true)→jX f c=c
 |0,_=>rfl
 |c+1,h=>by unfold jX;rw[Cm c (fun i hi=>h i (by omega)),h c (by omega)];rfl
theorem qB {f:Nat→Bool}: ∀c,(∀i,i<c→f i=false)→jX f c=0
 |0,_=>rfl
 |c+1,h=>by unfold jX;rw[qB c (fun i hi=>h i (by omega)),h c (by omega)];rfl
theorem oK {M:Mc} {n c:Nat} (hc:c<n) (h: ∀x,x<c→M.S x≠0) (h0:M.S c=0):cD M n=some c:=by
 have e:Gt.pl M.S true n c=[]:=by
  cases hp:Gt.pl M.S true n c with
  |nil=>rfl
  |cons y l=>
   have:=(qy (S:=M.S) (fr:=true) c (by omega) y).1 (by rw[hp];simp)
   exact absurd (by simpa using this.2) (h y.val this.1)
 have e2:=Gt.jf (S:=M.S) (fr:=true) hc (by simp[h0])
 rw[e] at e2
 obtain⟨t,ht⟩:=Gt.qo M.S true n (c+1) (n-(c+1))
 rw[e2,show c+1+(n-(c+1))=n by omega] at ht
 unfold cD
 rw[←ht]
 rfl
structure CB (t:Tr) (x v:Nat):Prop where
 p:t.p=(x:Int)
 g:t.g=1
 lv:t.lv=v
 lf:t.lf≤v
 sv:t.sv= -1
 sn:t.sn=0
structure Rm (n P:Nat) (lv:Nat→Nat) (c m:Nat) (M:Mc):Prop where
 c8:c≤n
 nw:M.nw=0
 sv:M.sv=[]
 pr:M.pr.length=1
 tl:M.gr.T.length=n
 nol: ∀y∈M.gr.L,y.l=[]
 hd: ∀y∈M.gr.L,y.h= -1
 np: ∀x,x<c→(M.th x).pg=0∧(M.th x).ia=0∧(M.th x).il=0
 old: ∀x,c≤x→x<n→M.S x=0∧M.G x=0
 st: ∀x,x<c→(M.S x=1∨M.S x=2)∧M.G x=1
 th: ∀x,x<c→CB (M.th x) x (lv x)
 kN: ∀x,x<c→lv x<256
 en: ∀z,lL M.pl z→z.1<c∧M.S z.1=1∧z.2=Ke.aV (lv z.1:Int)
 ne: ∀x,x<c→M.S x=1→lL M.pl (x,Ke.aV (lv x:Int))
 pm: ∀p,m≤p→p<P→(M.pc p).r= -1
 pc: ∀p,p<m→ ∃x,x<c∧(M.pc p).r=(x:Int)∧M.S x=2
 cn:jX (fun i=>M.S i==2) c=m
 top: ∀x y,x<c→y<c→M.S x=2→M.S y=1→lv y≤lv x
section
variable {n P c m:Nat} {lv:Nat→Nat} {M:Mc}
theorem yW {M:Mc} {t:Tr} (hn:M.nw=0) (hs:t.sn=0) (hl:t.lv<256):cB M t=(t.lv:Int):=by
 unfold cB Ag.td
 split
 ·rfl
 ·have e:Ag.jb (M.nw:Int) (t.sn:Int)=0:=by rw[hn,hs];decide
  rw[e,Int.zero_ediv]
  split<;>omega
theorem xH (i:Int):Cb.ll [] i=⟨0,0,0,0⟩:=by unfold Cb.ll;split<;>rfl
theorem yE {M:Mc} {n x v:Nat} (hx:x<n) (hn:M.nw=0) (hsv:M.sv=[]) (h:CB (M.th x) x v) (hv:v<256) (hG:M.G x=1) (hS:M.S x=1∨M.S x=2):dH M n (M.th x)=Ke.aV (v:Int):=by
 unfold dH
 rw[hsv,xH,if_neg (by simp),tX hx h.p (by rw[h.g,hG]) (by omega)]
 rcases hS with e|e
 ·rw[if_pos e,yW hn h.sn (by rw[h.lv];exact hv),h.lv]
 ·rw[if_neg (by omega),if_pos e,h.lv]
  have:=h.lf
  rw[show max ((v:Int)) ((M.th x).lf:Int)=(v:Int) by omega]
theorem Rm.own (h:Rm n P lv c m M) {x:Nat} (hx:x<c):dH M n (M.th x)=Ke.aV (lv x:Int):=
 yE (by have:=h.c8;omega) h.nw h.sv (h.th x hx) (h.kN x hx) (h.st x hx).2 (h.st x hx).1
theorem Rm.gr (h:Rm n P lv c m M) {g:Pi.Md} (h1:g.T.length=n) (h2:g.L=M.gr.L):Rm n P lv c m {M with gr:=g}:=
 ⟨h.c8,h.nw,h.sv,h.pr,h1,fun y hy=>h.nol y (by rw[←h2];exact hy),fun y hy=>h.hd y (by rw[←h2];exact hy),h.np,h.old,h.st,h.th,h.kN,h.en,h.ne,h.pm,h.pc,h.cn,h.top⟩
theorem Rm.settle (h:Rm n P lv c m M):Rm n P lv c m (Go.Proofs.YtdbailcdlngemaaGreatDoor.settle M n):=by
 obtain⟨g,e,h1,h2,_⟩:=fY (κ:=fun x=>Ke.aV (lv x:Int)) h.tl h.nol (fun x hx hs=>by
  have hc:x<c:=by
   rcases Nat.lt_or_ge x c with q|q
   ·exact q
   ·exact absurd (h.old x q hx).1 hs
  exact⟨h.own hc,rfl⟩) (fun z hz=>(h.en z hz).2.2)
 rw[e]
 exact h.gr h1 h2
theorem Rm.start {q:Nat} (h:Rm n P lv c 0 M) (hP:1≤P) (hpl:M.pl.length=P+1) (hc:c<n) (hv:lv c<256):Rm n P lv (c+1) 0 (gS P n q M c 0 (lv c) (-1)):=by
 have hno: ∀x,x<c→M.S x=1:=fun x hx=>by
  rcases(h.st x hx).1 with e|e
  ·exact e
  ·exfalso
   have:=sO (f:=fun _=>false) (g:=fun i=>M.S i==2) (x:=x) c (fun i _ q=>by cases q) hx rfl (by simp[e])
   rw[h.cn] at this
   omega
 unfold gS
 refine Rm.settle ?_
 obtain⟨e0,e0'⟩:=h.old c (Nat.le_refl _) hc
 unfold fU
 generalize hM1:({gv M c with th:=Gt.aw M.th c {mv 0 (lv c) (-1) with p:=(c:Int),g:=M.G c+1}}:Mc)=M1
 have t1:M1.th c=⟨(c:Int),1,0,lv c,0,-1,0,0,0,0⟩:=by
  rw[←hM1]
  show Gt.aw M.th c _ c=_
  rw[Gt.aj,e0']
  rfl
 have s1:M1.S c=1:=by rw[←hM1];exact Gt.aj _ _ _
 have g1:M1.G c=1:=by rw[←hM1];show Gt.aw M.G c _ c=1;rw[Gt.aj,e0']
 have hm:dG n M1.G M1.S (M1.th c).p (M1.th c).g 1=M1.S:=by
  have:=zX (n:=n) (G:=M1.G) (S:=M1.S) (x:=c) (s:=1) (by rw[s1];decide)
  rw[t1]
  rw[g1] at this
  exact this
 have hst:fB M1 n (M1.th c)=1:=by
  rw[tX (x:=c) hc (by rw[t1]) (by rw[t1,g1]) (by rw[s1];omega),s1]
 have hsv1:M1.sv=[]:=by rw[←hM1];exact h.sv
 have hnw1:M1.nw=0:=by rw[←hM1];exact h.nw
 have hr2:dE n M1 c={M1 with th:=Gt.aw M1.th c {M1.th c with sn:=0,lf:=0}}:=by
  unfold dE cP
  rw[hst,if_neg (by omega),hm,hsv1,hnw1]
  have:Cb.oT [] (M1.th c).sv 0=[]:=by unfold Cb.oT;split<;>rfl
  rw[this]
 have hR2: ∃g,cJ n M1 c={{M1 with th:=Gt.aw M1.th c {M1.th c with sn:=0,lf:=0}} with gr:=g}∧g.T.length=n∧g.L=M.gr.L∧Pi.dc g.T g.L (c:Int)=Ke.aV (lv c:Int):=by
  unfold cJ
  rw[hr2]
  have A: ∀x,x<n→Gt.aw M.S c 1 x≠0→x<c∨x=c:=fun x hx hs=>by
   by_cases e:x=c
   ·exact .inr e
   ·rw[Gt.af _ _ _ _ e] at hs
    rcases Nat.lt_or_ge x c with q|q
    ·exact .inl q
    ·exact absurd (h.old x q hx).1 hs
  obtain⟨g,e,h1,h2,h3⟩:=fY (n:=n) (M:={M1 with th:=Gt.aw M1.th c {M1.th c with sn:=0,lf:=0}}) (κ:=fun x=>Ke.aV (lv x:Int)) (by rw[←hM1];exact h.tl) (by rw[←hM1];exact h.nol) (fun x hx hs=>by
   refine⟨?_,rfl⟩
   rw[←hM1] at hs
   rcases A x hx hs with q|q
   ·refine yE hx hnw1 hsv1 ?_ (h.kN x q) ?_ ?_
    ·show CB (Gt.aw M1.th c _ x) x (lv x)
     rw[Gt.af _ _ _ _ (by omega),←hM1]
     show CB (Gt.aw M.th c _ x) x (lv x)
     rw[Gt.af _ _ _ _ (by omega)]
     exact h.th x q
    ·rw[←hM1];show Gt.aw M.G c _ x=1;rw[Gt.af _ _ _ _ (by omega)];exact(h.st x q).2
    ·rw[←hM1];show Gt.aw M.S c _ x=1∨Gt.aw M.S c _ x=2;rw[Gt.af _ _ _ _ (by omega)];exact(h.st x q).1
   ·subst q
    refine yE hx hnw1 hsv1 ?_ hv g1 (.inl s1)
    show CB (Gt.aw M1.th x _ x) x (lv x)
    rw[Gt.aj,t1]
    exact⟨rfl,rfl,rfl,Nat.zero_le _,rfl,rfl⟩) (fun z hz=>by
   rw[←hM1] at hz
   exact(h.en z hz).2.2)
  refine⟨g,e,h1,by rw[h2,←hM1];rfl,h3 c hc (by rw[show({M1 with th:=Gt.aw M1.th c {M1.th c with sn:=0,lf:=0}}:Mc).S=M1.S from rfl,s1];omega)⟩
 obtain⟨g,e3,h1,h2,hk⟩:=hR2
 unfold ready
 rw[e3]
 show Rm n P lv (c+1) 0 {{{M1 with th:=Gt.aw M1.th c {M1.th c with sn:=0,lf:=0}} with gr:=g} with pl:=fG P n q (gh M1.pl) 0 (c:Int) (Pi.dc g.T g.L (c:Int))}
 rw[hk]
 have hpl1:M1.pl=M.pl:=by rw[←hM1];rfl
 rw[hpl1]
 have hput:=fun z=>Co (q:=q) hpl (p:=0) (by omega) (id:=c) (n:=n) hc (k:=Ke.aV (lv c:Int)) rfl (fun z hz=>by have:=(h.en z hz).1;omega) z
 have S1: ∀x,x≠c→M1.S x=M.S x:=fun x hx=>by rw[←hM1];exact Gt.af _ _ _ _ hx
 have G1: ∀x,x≠c→M1.G x=M.G x:=fun x hx=>by rw[←hM1];exact Gt.af _ _ _ _ hx
 refine⟨by omega,hnw1,hsv1,by rw[←hM1];exact h.pr,h1,fun y hy=>h.nol y (by rw[←h2];exact hy),fun y hy=>h.hd y (by rw[←h2];exact hy),?_,?_,?_,?_,?_,?_,?_,?_,?_,?_,?_⟩
 ·intro x hx
  show(Gt.aw M1.th c _ x).pg=0∧(Gt.aw M1.th c _ x).ia=0∧(Gt.aw M1.th c _ x).il=0
  by_cases e:x=c
  ·subst e;rw[Gt.aj,t1];exact⟨rfl,rfl,rfl⟩
  ·rw[Gt.af _ _ _ _ e,←hM1]
   show(Gt.aw M.th c _ x).pg=0∧(Gt.aw M.th c _ x).ia=0∧(Gt.aw M.th c _ x).il=0
   rw[Gt.af _ _ _ _ e]
   exact h.np x (by omega)
 ·intro x hx hx8
  exact⟨(S1 x (by omega)).trans (h.old x (by omega) hx8).1,(G1 x (by omega)).trans (h.old x (by omega) hx8).2⟩
 ·intro x hx
  by_cases e:x=c
  ·subst e;exact⟨.inl s1,g1⟩
  ·show(M1.S x=1∨M1.S x=2)∧M1.G x=1
   rw[S1 x e,G1 x e];exact h.st x (by omega)
 ·intro x hx
  show CB (Gt.aw M1.th c _ x) x (lv x)
  by_cases e:x=c
  ·subst e;rw[Gt.aj,t1];exact⟨rfl,rfl,rfl,Nat.zero_le _,rfl,rfl⟩
  ·rw[Gt.af _ _ _ _ e,←hM1]
   show CB (Gt.aw M.th c _ x) x (lv x)
   rw[Gt.af _ _ _ _ e]
   exact h.th x (by omega)
 ·intro x hx
  by_cases e:x=c
  ·subst e;exact hv
  ·exact h.kN x (by omega)
 ·intro z hz
  rcases(hput z).1 hz with q|q
  ·subst q;exact⟨by simp,s1,rfl⟩
  ·obtain⟨a1,a2,a3⟩:=h.en z q
   exact⟨by omega,(S1 _ (by omega)).trans a2,a3⟩
 ·intro x hx hs
  by_cases e:x=c
  ·subst e;exact(hput _).2 (.inl rfl)
  ·exact(hput _).2 (.inr (h.ne x (by omega) ((S1 x e).symm.trans hs)))
 ·intro p hp hp2
  show(M1.pc p).r= -1
  rw[←hM1];exact h.pm p hp hp2
 ·intro p hp;omega
 ·refine qB _ (fun i hi=> ?_)
  show(M1.S i==2)=false
  by_cases e:i=c
  ·subst e;rw[s1];rfl
  ·rw[S1 i e,hno i (by omega)];rfl
 ·intro x y hx hy hs _
  exfalso
  have hs':M1.S x=2:=hs
  by_cases e:x=c
  ·subst e;rw[s1] at hs';omega
  ·rw[S1 x e,hno x (by omega)] at hs';omega
theorem Rm.free (h:Rm n P lv c m M) (hc:c<n):cD M n=some c:=
 oK hc (fun x hx=>by have:=(h.st x hx).1;omega) (h.old c (Nat.le_refl _) hc).1
theorem Rm.wS (h:Rm n P lv c m M):Go.Proofs.YtdbailcdlngemaaGreatDoor.wS M n:=fun x hx=>by
 rcases Nat.lt_or_ge x c with q|q
 ·rw[(h.st x q).2];omega
 ·rw[(h.old x q hx).2];omega
theorem Rm.ET {w:World} {O:Nat→Prop} {pb q T:Nat} (h:Rm n P lv c m M) (hq:PQ w O pb n P q T M.pl) (hm:m<P) (d:Int) (hb:(bb P (gh M.pl) (m:Int) d).isSome=true):
  ∃x:Nat,x<n∧bI (gh M.pl) (bb P (gh M.pl) (m:Int) d)=(x:Int)∧x<c∧Rm n P lv c (m+1) (eW P n M m x d):=by
 obtain⟨x,k,hx,hbi,hE,htop,htk⟩:=ry hq hb
 obtain⟨hxc,hxs,hxk⟩:=h.en _ hE
 refine⟨x,hx,hbi,hxc,?_⟩
 have hxc':x<c:=hxc
 have hxs':M.S x=1:=hxs
 obtain rfl:k=Ke.aV (lv x:Int):=hxk
 have hok:=h.th x hxc'
 have hmv:dG n M.G M.S (M.th x).p (M.th x).g 2=Gt.aw M.S x 2:=by
  have:=vz (n:=n) (G:=M.G) (S:=M.S) (x:=x) (s:=2) hx (by omega) (by rw[hxs'];decide)
  rw[hok.p,hok.g]
  rw[(h.st x hxc').2] at this
  exact this
 have hag:(cB M (M.th x)).toNat=lv x:=by
  rw[yW h.nw hok.sn (by rw[hok.lv];exact h.kN x hxc'),hok.lv]
  rfl
 unfold eW mP kY E8
 rw[hmv,hag]
 refine⟨h.c8,h.nw,h.sv,h.pr,h.tl,h.nol,h.hd,?_,?_,?_,?_,h.kN,?_,?_,?_,?_,?_,?_⟩
 ·intro y hy
  show(Gt.aw M.th x _ y).pg=0∧(Gt.aw M.th x _ y).ia=0∧(Gt.aw M.th x _ y).il=0
  by_cases e:y=x
  ·subst e;rw[Gt.aj];exact h.np y hy
  ·rw[Gt.af _ _ _ _ e];exact h.np y hy
 ·intro y hy hy8
  show Gt.aw M.S x 2 y=0∧M.G y=0
  rw[Gt.af _ _ _ _ (by omega)]
  exact h.old y hy hy8
 ·intro y hy
  show(Gt.aw M.S x 2 y=1∨Gt.aw M.S x 2 y=2)∧M.G y=1
  by_cases e:y=x
  ·subst e;rw[Gt.aj];exact⟨.inr rfl,(h.st y hy).2⟩
  ·rw[Gt.af _ _ _ _ e];exact h.st y hy
 ·intro y hy
  show CB (Gt.aw M.th x _ y) y (lv y)
  by_cases e:y=x
  ·subst e;rw[Gt.aj];exact⟨hok.p,hok.g,hok.lv,Nat.le_refl _,hok.sv,hok.sn⟩
  ·rw[Gt.af _ _ _ _ e];exact h.th y hy
 ·intro z hz
  obtain⟨q1,q2⟩:=(htk z).1 hz
  obtain⟨a1,a2,a3⟩:=h.en z q1
  refine⟨a1,?_,a3⟩
  show Gt.aw M.S x 2 z.1=1
  rw[Gt.af _ _ _ _ q2];exact a2
 ·intro y hy hs
  have hs':Gt.aw M.S x 2 y=1:=hs
  by_cases e:y=x
  ·subst e;rw[Gt.aj] at hs';omega
  ·rw[Gt.af _ _ _ _ e] at hs'
   exact(htk _).2 ⟨h.ne y hy hs',e⟩
 ·intro p hp hp2
  show(Gt.aw M.pc m _ p).r= -1
  rw[Gt.af _ _ _ _ (by omega)]
  exact h.pm p (by omega) hp2
 ·intro p hp
  show∃y,y<c∧(Gt.aw M.pc m _ p).r=(y:Int)∧Gt.aw M.S x 2 y=2
  by_cases e:p=m
  ·subst e
   rw[Gt.aj]
   exact⟨x,hxc',rfl,Gt.aj _ _ _⟩
  ·rw[Gt.af _ _ _ _ e]
   obtain⟨y,a1,a2,a3⟩:=h.pc p (by omega)
   refine⟨y,a1,a2,?_⟩
   by_cases e2:y=x
   ·subst e2;exact Gt.aj _ _ _
   ·rw[Gt.af _ _ _ _ e2];exact a3
 ·have:=ub (f:=fun i=>M.S i==2) (g:=fun i=>Gt.aw M.S x 2 i==2) (x:=x) c (fun i _ hi=>by show(Gt.aw M.S x 2 i==2)=_;rw[Gt.af _ _ _ _ hi]) hxc' (by simp[hxs']) (by show(Gt.aw M.S x 2 x==2)=true;rw[Gt.aj];rfl)
  rw[h.cn] at this
  exact this
 ·intro y z hy hz h1 h2
  have h1':Gt.aw M.S x 2 y=2:=h1
  have h2':Gt.aw M.S x 2 z=1:=h2
  have ez:z≠x:=fun e=>by subst e;rw[Gt.aj] at h2';omega
  rw[Gt.af _ _ _ _ ez] at h2'
  by_cases e:y=x
  ·subst e
   have:=htop _ (h.ne z hz h2')
   simp[Ke.up,Ke.aV] at this
   omega
  ·rw[Gt.af _ _ _ _ e] at h1'
   exact h.top y z hy hz h1' h2'
end
end Go.Proofs.YtdbailcdlngemaaGreatDoor
namespace Go.Proofs.YtdbailcdlngemaaGreatDoor
open Go.RowKit Go.Lib Go.Shelf
attribute [local go_sem ↓] Go.wp_at_zero Go.wp_at_succ
theorem vR (P n q:Nat) (M:Mc) (x:Nat) (pg:Int) (lv:Nat) (sv:Int):(gS P n q M x pg lv sv).pr=M.pr:=by
 unfold gS fU ready cJ dE cP settle gv
 split<;>rfl
section
variable {w wr w':World} {ad:Ad} {P n q T T':Nat} {M M':Mc} {K:Nat→Prop}
theorem yU {T:List Pi.Th} {L:List Pi.Lk} (h: ∀y∈L,y.h= -1) (x:Nat):Pi.jy T L (x:Int)=[]:=by
 unfold Pi.jy
 split
 ·unfold Pi.dp Pi.df
  rw[List.map_eq_nil_iff,List.filter_eq_nil_iff]
  intro m _
  cases hm:L[m]? with
  |none=>simp
  |some y=>
   have:=h y (List.mem_of_getElem? hm)
   simp[this]
 ·rfl
end
theorem DT (P n m qu ag:Nat) (lv:Nat→Nat) (p:Pm):Rm n P lv 0 0 {gJ P n m qu ag with pr:=[p]}:=by
 refine⟨Nat.zero_le _,rfl,rfl,rfl,by simp[gJ,Pi.yD,Pi.rD],?_,?_,fun x hx=>by omega,fun x _ _=>⟨rfl,rfl⟩,fun x hx=>by omega,fun x hx=>by omega,fun x hx=>by omega,?_,fun x hx=>by omega,fun p _ _=>rfl,fun p hp=>by omega,rfl,fun x y hx=>by omega⟩
 ·intro y hy
  have:y=⟨-1,[]⟩:=List.eq_of_mem_replicate hy
  rw[this]
 ·intro y hy
  have:y=⟨-1,[]⟩:=List.eq_of_mem_replicate hy
  rw[this]
 ·rintro z ⟨i,M,hM,hz⟩
  have:M=[]:=by
   have hM':(List.replicate (P+1) ([]:List En))[i]? =some M:=hM
   rw[List.getElem?_replicate] at hM'
   split at hM'
   ·injection hM' with q;exact q.symm
   ·cases hM'
  rw[this] at hz
  cases hz
theorem BJ (g:Pi.Md) (t:Int) (k:Ke.K) (x:Nat):((Pi.fu g t k).2.T[x]?).map (·.u)=(g.T[x]?).map (·.u):=by
 unfold Pi.fu
 split
 ·split
  ·rename_i y hy
   show((g.T.set t.toNat ⟨k,y.u⟩)[x]?).map (·.u)=_
   by_cases e:t.toNat=x
   ·rw[e] at hy⊢
    rw[List.getElem?_set_self (List.getElem?_eq_some_iff.1 hy).1,hy]
    rfl
   ·rw[List.getElem?_set_ne e]
  ·rfl
 ·rfl
theorem zT (n:Nat) (M:Mc) (x:Nat): ∀(l:List Nat) (g:Pi.Md),((l.foldl (fa n M) g).T[x]?).map (·.u)=(g.T[x]?).map (·.u)
 |[],g=>rfl
 |y::l,g=>by rw[List.foldl_cons,zT n M x l];exact BJ _ _ _ _
theorem zp (M:Mc) (n x:Nat):((settle M n).gr.T[x]?).map (·.u)=(M.gr.T[x]?).map (·.u):=zT n M x _ _
theorem AQ (g:Pi.Md) (t:Int) (k:Ke.K):(Pi.fu g t k).2.L=g.L:=by
 unfold Pi.fu
 split
 ·split<;>rfl
 ·rfl
theorem xj (n:Nat) (M:Mc): ∀(l:List Nat) (g:Pi.Md),(l.foldl (fa n M) g).L=g.L
 |[],g=>rfl
 |y::l,g=>by rw[List.foldl_cons,xj n M l];exact AQ _ _ _
theorem yO (M:Mc) (n:Nat):(settle M n).gr.L=M.gr.L:=xj n M _ _
section
variable {w wr w':World} {ad:Ad} {P n q T T':Nat} {M M':Mc} {K:Nat→Prop}
end
section
variable {w wr w':World} {ad:Ad} {T:Nat} {M M1:Mc} {K:Nat→Prop} {s:Nat} {p:Pm}
end
end Go.Proofs.YtdbailcdlngemaaGreatDoor
namespace Go.Proofs.YtdbailcdlngemaaGreatDoor
open Go.RowKit Go.Lib Go.Shelf
section
variable {w wr w':World} {ad:Ad} {P n q T:Nat} {M:Mc} {K:Nat→Prop}
theorem pT.below (h:pT w wr ad P n q T M K) (hb:Below wr.heap.size wr w') {K':Nat→Prop} (hk: ∀k,K' k→K k∨(wr.heap.size≤k∧k<w'.heap.size)):pT w w' ad P n q T M K':=by
 obtain⟨⟨lab,hi,h1,h2⟩,hw⟩:=h
 refine⟨⟨lab,hi.below hb,h1,fun k q=> ?_⟩,bt hw hb⟩
 rcases hk k q with r|r
 ·exact⟨(h2 k r).1,Nat.lt_of_lt_of_le (h2 k r).2 hb.size⟩
 ·exact⟨hi.fresh r.1,r.2⟩
end
end Go.Proofs.YtdbailcdlngemaaGreatDoor
namespace Go.Proofs.YtdbailcdlngemaaGreatDoor
open Go.RowKit
def GM (M:Mc) (x:Nat):Prop:= ∃k,lL M.pl (x,k)
def Uo (M:Mc) (x:Nat):Option Int:=(M.gr.T[x]?).map (·.u)
theorem AN {n:Nat} {G:List (List En)} {x:Nat} {k:Ke.K} (y:Nat):(∃k',lL (dU n (gh G) (x:Int) k) (y,k'))↔ ∃k',lL G (y,k'):=by
 unfold dU
 split
 case isFalse=>rw[dZ]
 case isTrue=>
  rw[dZ]
  generalize BL n (gh G) (x:Int)=i
  cases hi:G[i]? with
  |none=>rw[List.set_eq_of_length_le (List.getElem?_eq_none_iff.1 hi)]
  |some X=>
   rw[cm (mN hi)]
   have hil:=(List.getElem?_eq_some_iff.1 hi).1
   have hids: ∀y,(∃k',(y,k')∈fI n X (x:Int) k)↔ ∃k',(y,k')∈X:=by
    intro y
    unfold fI
    split
    case isFalse=>exact Iff.rfl
    case isTrue hc=>
     split
     case isTrue=>exact Iff.rfl
     case isFalse=>
      have hk:(keyOf X ((x:Int)).toNat).isSome=true:=by
       unfold jC at hc
       split at hc
       ·cases hc
       ·split at hc
        ·assumption
        ·cases hc
      rw[show((x:Int)).toNat=x by omega] at hk⊢
      have hin: ∃k',(x,k')∈X:=by
       apply Classical.byContradiction
       intro hno
       have:keyOf X x=none:=bX.2 (fun z hz e=>hno ⟨z.2,by rw[←e];exact hz⟩)
       rw[this] at hk
       cases hk
      constructor
      ·rintro⟨k',hk'⟩
       rcases dC.1 hk' with q|q
       ·injection q with q1 q2
        rw[q1]
        exact hin
       ·exact⟨k',(iB.1 q).1⟩
      ·rintro⟨k',hk'⟩
       by_cases e:y=x
       ·exact⟨k,dC.2 (.inl (by rw[e]))⟩
       ·exact⟨k',dC.2 (.inr (iB.2 ⟨hk',e⟩))⟩
   constructor
   ·rintro⟨k',j,Y,hj,hm⟩
    by_cases e:j=i
    ·subst e
     rw[List.getElem?_set_self hil] at hj
     injection hj with hj
     subst hj
     obtain⟨k2,h2⟩:=(hids y).1 ⟨k',hm⟩
     exact⟨k2,_,X,hi,h2⟩
    ·rw[List.getElem?_set_ne (fun q=>e q.symm)] at hj
     exact⟨k',j,Y,hj,hm⟩
   ·rintro⟨k',j,Y,hj,hm⟩
    by_cases e:j=i
    ·subst e
     rw[hi] at hj
     injection hj with hj
     subst hj
     obtain⟨k2,h2⟩:=(hids y).2 ⟨k',hm⟩
     exact⟨k2,_,_,List.getElem?_set_self hil,h2⟩
    ·exact⟨k',j,Y,by rw[List.getElem?_set_ne (fun q=>e q.symm)];exact hj,hm⟩
theorem Ai {n:Nat} {G:List (List En)} {x:Int} {k:Ke.K}:(dU n (gh G) x k).length=G.length:=by
 unfold dU
 split
 ·rw[List.length_set,dZ]
 ·rw[dZ]
theorem nr (n:Nat) (M:Mc) (g:Pi.Md) (y:Nat): ∀(l:List Nat) (G:List (List En)),((∃k',lL (l.foldl (iN n M g) G) (y,k'))↔ ∃k',lL G (y,k'))∧(l.foldl (iN n M g) G).length=G.length
 |[],G=>⟨Iff.rfl,rfl⟩
 |x::l,G=>by
  obtain⟨h1,h2⟩:=nr n M g y l (iN n M g G x)
  have h3:((∃k',lL (iN n M g G x) (y,k'))↔ ∃k',lL G (y,k'))∧(iN n M g G x).length=G.length:=by
   unfold iN
   split
   ·exact⟨AN y,Ai⟩
   ·exact⟨Iff.rfl,rfl⟩
  rw[List.foldl_cons]
  exact⟨h1.trans h3.1,h2.trans h3.2⟩
theorem sN (g:Pi.Md) (t:Int) (k:Ke.K) (h: ∀y∈g.T,Ke.aJ y.k=true): ∀y∈(Pi.fu g t k).2.T,Ke.aJ y.k=true:=by
 unfold Pi.fu
 split
 case isFalse=>exact h
 case isTrue hc=>
  split
  case h_2=>exact h
  case h_1 x hx=>
   intro y hy
   rcases List.mem_or_eq_of_mem_set hy with q|q
   ·exact h y q
   ·rw[q]
    simp only[Bool.and_eq_true] at hc
    exact hc.2
theorem yR (g:Pi.Md) (t:Int) (k:Ke.K):(Pi.fu g t k).2.T.length=g.T.length:=by
 unfold Pi.fu
 split
 ·split
  ·exact List.length_set
  ·rfl
 ·rfl
theorem kZ (n:Nat) (M:Mc): ∀(l:List Nat) (g:Pi.Md),(∀y∈g.T,Ke.aJ y.k=true)→(∀y∈(l.foldl (fa n M) g).T,Ke.aJ y.k=true)
 |[],g,h=>h
 |x::l,g,h=>kZ n M l _ (sN g _ _ h)
theorem oo (n:Nat) (M:Mc): ∀(l:List Nat) (g:Pi.Md),(l.foldl (fa n M) g).T.length=g.T.length
 |[],g=>rfl
 |x::l,g=>(oo n M l _).trans (yR g _ _)
structure Kd (M R:Mc):Prop where
 qu:R.qu=M.qu
 ag:R.ag=M.ag
 pr:R.pr=M.pr
 pc:R.pc=M.pc
 th:R.th=M.th
 G:R.G=M.G
 S:R.S=M.S
 sv:R.sv=M.sv
 nw:R.nw=M.nw
 wh:R.wh=M.wh
 L:R.gr.L=M.gr.L
 U: ∀x,Uo R x=Uo M x
 tl:R.gr.T.length=M.gr.T.length
 kr:(∀y∈M.gr.T,Ke.aJ y.k=true)→ ∀y∈R.gr.T,Ke.aJ y.k=true
 ip: ∀x,GM R x↔GM M x
 pl:R.pl.length=M.pl.length
theorem vZ (M:Mc) (n:Nat):Kd M (settle M n):=
 ⟨rfl,rfl,rfl,rfl,rfl,rfl,rfl,rfl,rfl,rfl,yO M n,fun x=>zp M n x,oo n M _ _,fun h=>kZ n M _ _ h,fun x=>(nr n M _ x _ _).1,(nr n M _ 0 _ _).2⟩
section
variable {P n q B:Nat} {D:List Nat} {M R:Mc}
theorem free_spec {M:Mc} {n y:Nat} (h:cD M n=some y):y<n∧M.S y=0:=by
 refine⟨oE h,?_⟩
 unfold cD at h
 cases hl:(Gt.pl M.S true n n).head? with
 |none=>rw[hl] at h;cases h
 |some z=>
  rw[hl] at h
  injection h with h
  have:=(qy n (Nat.le_refl _) z).1 (List.mem_of_mem_head? hl)
  rw[←h]
  simpa using this.2
end
theorem xm {w:World} {O:Nat→Prop} {pb n np q T:Nat} {G:List (List En)} (h:PQ w O pb n np q T G) {p d:Int} (hb:(bb np (gh G) p d).isSome=true):
  ∃z:En,z.1<n∧bI (gh G) (bb np (gh G) p d)=(z.1:Int)∧bK (gh G) (bb np (gh G) p d)=z.2∧lL G z∧ ∀y,lL G y→Ke.up y.2 z.2=false:=by
 obtain⟨x,k,hx,hbi,hent,hup,_⟩:=ry h hb
 obtain⟨c,hc⟩:=Option.isSome_iff_exists.1 hb
 obtain⟨z,e1,e2,hz,hw,hs⟩:=h.FF hc
 obtain⟨_,_,y,z',M',hy,hM⟩:=mY hc
 have q1:bI (gh G) (some c)=(z'.1:Int):=by show rL (MM (gh G) c)=_;rw[cm hy,hM];rfl
 have q2:bK (gh G) (some c)=z'.2:=by show gF (MM (gh G) c)=_;rw[cm hy,hM];rfl
 have hG:G[c]? =some (z'::M'):=by rw[←hM];exact kW hy
 have hE:lL G z':=⟨c,_,hG,by simp⟩
 have hx1:z'.1=x:=by rw[hc,q1] at hbi;omega
 have hn:z'.1<n:=by rw[hx1];exact hx
 refine⟨z',hn,by rw[hc];exact q1,by rw[hc];exact q2,hE,fun y' hy'=> ?_⟩
 obtain⟨i,M2,hM2,hy2⟩:=hy'
 have hk:gF (MM (gh G) c)=z'.2:=by rw[cm hy,hM];rfl
 cases hM3:M2 with
 |nil=>rw[hM3] at hy2;cases hy2
 |cons y0 M4=>
  have h0:Ke.up y0.2 z'.2=false:=by rw[←hk];exact uF h.len hc (by rw[←hM3];exact hM2)
  rw[hM3] at hy2
  rcases List.mem_cons.1 hy2 with e|e
  ·rw[e];exact h0
  ·have hf:=h.ur hM2
   rw[hM3] at hf
   exact jx ((List.pairwise_cons.1 hf).1 y' e) h0
theorem DG (a b:Nat):Ke.up (Ke.aV (a:Int)) (Ke.aV (b:Int))=decide (b<a):=by
 unfold Ke.up Ke.aV
 simp
section
variable {P n q B:Nat} {gA:Nat→Nat} {M:Mc}
end
end Go.Proofs.YtdbailcdlngemaaGreatDoor
