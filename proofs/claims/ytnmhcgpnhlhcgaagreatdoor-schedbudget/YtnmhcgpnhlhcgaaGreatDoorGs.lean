/- YtnmhcgpnhlhcgaaGreatDoorGs: of the texts Bb1 Bb2 Bb3 Bb4 Bb5 Bb6 Bb7 Bd1 Bd2 Bd3 Be1 Be2 Be3 Ca1 Bf8 Bf9 Bg1 Bg2 Bg3 Bg4 Bg5 Bg6 Bg7 Bg8 Bg9 Bi2 Bi1 Bj1 Bj2 Bj3 Bj4 Bj5 Bl1 what is wanted. -/
import Derived.Test.YtnmhcgpnhlhcgaaGreatDoorG0
import Derived.Test.YtnmhcgpnhlhcgaaGreatDoorGq
import Derived.ProofKit
import Derived.OpenShut
import Derived.Deep.Slices
import Derived.Deep.Strs
import Derived.ChangeOld
import Derived.ChangeSame
import Derived.Test.YtnmhcgpnhlhcgaaGreatDoorGt
import Derived.Test.YtnmhcgpnhlhcgaaGreatDoorGl
set_option maxHeartbeats 16000000
set_option maxRecDepth 100000
set_option linter.unusedVariables false
set_option linter.unusedSimpArgs false
namespace Go.Proofs.YtnmhcgpnhlhcgaaGreatDoor
open Go.RowKit Go.Lib
theorem nu_trans {a b c:Ke.K} (h:Ke.up a b=false) (k:Ke.up b c=false):Ke.up a c=false:=by
 grind[Ke.up]
theorem up_asy {a b:Ke.K} (h:Ke.up a b=true):Ke.up b a=false:=by
 grind[Ke.up]
theorem nu_refl (a:Ke.K):Ke.up a a=false:=by simp[Ke.up]
theorem bst_top (H:List Hd): ∀(l:List Nat) (b:Option Nat),(∀c0,b=some c0→ ∃c,l.foldl (bstep H) b=some c∧Ke.up (tkK (MM H c0)) (tkK (MM H c))=false)∧ ∀x∈l,∀y M,MM H x=y::M→ ∃c,l.foldl (bstep H) b=some c∧Ke.up y.2 (tkK (MM H c))=false
 |[],b=>⟨fun c0 hc=>⟨c0,hc,nu_refl _⟩,fun x hx=>by cases hx⟩
 |x::l,b=>by
  have A: ∀c0,b=some c0→ ∃c1,bstep H b x=some c1∧Ke.up (tkK (MM H c0)) (tkK (MM H c1))=false:=by
   grind[bstep,tkK,up_asy]
  have B: ∀y M,MM H x=y::M→ ∃c1,bstep H b x=some c1∧Ke.up y.2 (tkK (MM H c1))=false:=by
   grind[bstep,Ke.up,tkK]
  obtain⟨i1,i2⟩:=bst_top H l (bstep H b x)
  refine⟨fun c0 hc=> ?_,fun z hz y M hM=> ?_⟩
  ·grind[nu_trans]
  ·rcases List.mem_cons.1 hz with rfl|hz
   ·grind[nu_trans]
   grind
theorem ords_mem {np p d x:Nat} (hp:p<np) (hx:x≤np):x∈ords np p d:=by
 unfold ords ordsU
 by_cases h1:x=p
 ·grind
 by_cases h2:x=np
 ·grind
 refine List.mem_cons_of_mem _ (List.mem_cons_of_mem _ (List.mem_filter.2 ⟨List.mem_map.2 ⟨(x+2*np-(p+1+d%np))%np,List.mem_range.2 (Nat.mod_lt _ (by omega)),?_⟩,by grind⟩))
 unfold plOf
 have hm:d%np<np:=Nat.mod_lt _ (by omega)
 rw[Nat.add_mod_mod]
 have e:p+1+d%np+(x+2*np-(p+1+d%np))=x+np*2:=by omega
 rw[e,Nat.add_mul_mod_self_left]
 exact Nat.mod_eq_of_lt (by omega)
theorem gh_set (G:List (List En)) (c:Nat) (M:List En):gh (G.set c M)=(gh G).set c ⟨0,0,0,0,0,0,M⟩:=by unfold gh;simp
theorem gh_at {G:List (List En)} {c:Nat} {x:Hd} (h:(gh G)[c]? =some x):G[c]? =some x.M:=by
 grind[Ms_at,Ms_gh]
section
variable {w:World} {O:Nat→Prop} {pb n np q T:Nat} {G:List (List En)}
theorem PQ.nd (h:PQ w O pb n np q T G) {c:Nat} {x:Hd} (hx:(gh G)[c]? =some x):(x.M.map (·.1)).Nodup∧(∀y∈x.M,y.1<n)∧ ∀y∈x.M,Ke.rightK y.2=true:=by
 obtain⟨h1,h2,_,h4⟩:=h.at (gh_at hx)
 grind
theorem PQ.took (h:PQ w O pb n np q T G) {p d:Int} {c:Nat} (hb:bb np (gh G) p d=some c): ∃z:En,bI (gh G) (some c)=(z.1:Int)∧bK (gh G) (some c)=z.2∧z.1<n∧whereF n (gh (ptkG np (gh G) p d)) 0 (z.1:Int)=none∧sumH (gh (ptkG np (gh G) p d))+1=sumH (gh G):=by
 obtain⟨_,_,x,z,M',hx,hM⟩:=bb_at hb
 obtain⟨hnd,hrn,_⟩:=h.nd hx
 have e1:bI (gh G) (some c)=(z.1:Int):=by show tkI (MM (gh G) c)=_;rw[MM_at hx,hM];rfl
 have e2:bK (gh G) (some c)=z.2:=by show tkK (MM (gh G) c)=_;rw[MM_at hx,hM];rfl
 have hg:ptkG np (gh G) p d=G.set c M':=by grind[ptkG,Ms_gh,MM_at]
 have hcut:cut z.1 x.M=M':=by grind[cut_head]
 have hzk:(keyOf x.M z.1).isSome=true:=by rw[has_iff];grind
 rw[hg,gh_set]
 obtain⟨_,u2⟩:=where_cut (n:=n) (y:=⟨0,0,0,0,0,0,M'⟩) h.un hx (id:=z.1) hcut.symm hzk
 have hs:=sumH_set (y:=⟨0,0,0,0,0,0,M'⟩) hx
 refine⟨z,e1,e2,(by grind),?_,?_⟩
 ·rw[u2]
  unfold setF
  simp
 grind
end
theorem gh_of {G:List (List En)} {i:Nat} {M:List En} (h:G[i]? =some M):(gh G)[i]? =some ⟨0,0,0,0,0,0,M⟩:=by unfold gh;grind
theorem bb_over {np:Nat} {G:List (List En)} {p d:Int} {c:Nat} (hl:G.length=np+1) (hb:bb np (gh G) p d=some c) {i:Nat} {y:En} {M:List En} (hM:G[i]? =some (y::M)):Ke.up y.2 (tkK (MM (gh G) c))=false:=by
 obtain⟨hp,h,_⟩:=bb_at hb
 have hil:i≤np:=by grind
 obtain⟨_,t2⟩:=bst_top (gh G) (ords np p.toNat d.toNat) none
 obtain⟨c',e1,n1⟩:=t2 i (ords_mem (by omega) hil) y M (MM_at (gh_of hM))
 have h':(ords np p.toNat d.toNat).foldl (bstep (gh G)) none=some c:=h
 grind
theorem bb_any {np:Nat} {G:List (List En)} (hl:G.length=np+1) {p:Int} (hp:0≤p∧p<(np:Int)) (d:Int):(bb np (gh G) p d).isSome=decide (0<sumH (gh G)):=by
 cases hb:bb np (gh G) p d with
 |some c=>
  obtain⟨_,_,x,z,M',hx,hM⟩:=bb_at hb
  have hs:=sumH_set (y:=⟨0,0,0,0,0,0,[]⟩) hx
  grind
 |none=>
  refine(decide_eq_false (fun hpos=> ?_)).symm
  have key: ∀(i:Nat) (M:List En),G[i]? =some M→M=[]:=fun i M hM=>by
   cases M with
   |nil=>rfl
   |cons y M=>
    exfalso
    have hil:i≤np:=by grind
    obtain⟨_,t2⟩:=bst_top (gh G) (ords np p.toNat d.toNat) none
    obtain⟨c',e1,_⟩:=t2 i (ords_mem (by omega) hil) y M (MM_at (gh_of hM))
    unfold bb at hb
    rw[if_pos hp] at hb
    unfold bst at hb
    grind
  have:=sumH_nil (H:=gh G) (fun i x hx=>key i x.M (gh_at hx))
  omega
def Falls (M:List En):Prop:=M.Pairwise (fun a b=>Ke.up b.2 a.2=false)
theorem falls_lev (R:List (Nat×Nat)): ∀k,Falls (lev R k)
 |0=>List.Pairwise.nil
 |k+1=>by
  unfold Falls
  rw[lev,List.pairwise_append]
  refine⟨?_,falls_lev R k,?_⟩
  ·refine List.Pairwise.imp_of_mem (R:=fun _ _=>True) ?_ (List.pairwise_of_forall (by simp))
   intro a b ha hb _
   rw[(mem_lvs.1 ha).2,(mem_lvs.1 hb).2,up_ff]
   simp
  ·intro a ha b hb
   obtain⟨j,hj,_,e⟩:=mem_lev.1 hb
   rw[(mem_lvs.1 ha).2,e,up_ff]
   grind
theorem falls_dl (L:List Ph.Item) (h:Ph.Srt L):Falls (dl L):=by
 unfold Falls dl
 rw[List.pairwise_map]
 refine List.Pairwise.imp ?_ h
 grind[up_dd,Ph.ah]
theorem falls_all (R:List (Nat×Nat)) (L:List Ph.Item) (h:Ph.Srt L):Falls (all R L):=by
 unfold Falls all
 rw[List.pairwise_append]
 refine⟨falls_dl L h,falls_lev R 256,?_⟩
 intro a ha b hb
 obtain⟨d,s,_,e⟩:=mem_dl.1 ha
 obtain⟨j,_,_,e'⟩:=mem_lev.1 hb
 rw[e,e']
 rfl
theorem IsS.falls {w:World} {sb qb gq hb gh n most turn:Nat} {M:List En} (h:IsS w sb qb gq hb gh n most turn M):Falls M:=by
 obtain⟨R,L,hS,hI⟩:=h
 rw[←hI.eq]
 exact falls_all R L hS.h.good.srt
theorem PQ.falls {w:World} {O:Nat→Prop} {pb n np q T:Nat} {G:List (List En)} (h:PQ w O pb n np q T G) {i:Nat} {M:List En} (hi:G[i]? =some M):Falls M:=by
 obtain⟨base,lo,mb,v,H,hQ,hG,hO⟩:=h
 rw[←hG] at hi
 simp only[Ms,List.getElem?_map] at hi
 cases hx:H[i]? with
 |none=>rw[hx] at hi;cases hi
 |some x=>
  rw[hx] at hi
  injection hi with hi
  subst hi
  exact IsS.falls (hQ.p.sets.it i x hx)
def Ent (G:List (List En)) (z:En):Prop:= ∃(i:Nat) (M:List En),G[i]? =some M∧z∈M
section
variable {w:World} {O:Nat→Prop} {pb n np q T:Nat} {G:List (List En)}
theorem took_sub {p d:Int}: ∀z,Ent (ptkG np (gh G) p d) z→Ent G z:=by
 rintro z ⟨i,M,hM,hz⟩
 unfold ptkG at hM
 cases hb:bb np (gh G) p d with
 |none=>rw[hb,Ms_gh] at hM;exact⟨i,M,hM,hz⟩
 |some c=>
  rw[hb,Ms_gh] at hM
  simp only at hM
  rcases Nat.decEq i c with e|e
  ·rw[List.getElem?_set_ne (by omega)] at hM
   exact⟨i,M,hM,hz⟩
  ·subst e
   obtain⟨_,_,x,z',M',hx,hM'⟩:=bb_at hb
   have hil:=(List.getElem?_eq_some_iff.1 (gh_at hx)).1
   rw[List.getElem?_set_self hil,MM_at hx] at hM
   injection hM with hM
   subst hM
   exact⟨i,x.M,gh_at hx,(by grind)⟩
end
theorem pl_in {S:Nat→Nat} {fr:Bool} {n:Nat}: ∀k,k≤n→ ∀x:Fin n,x∈Gt.pl S fr n k↔x.val<k∧(S x.val==0)=fr
 |0,_,x=>by simp[Gt.pl]
 |k+1,hk,x=>by
  have ih:=pl_in (S:=S) (fr:=fr) k (by omega) x
  by_cases hs:(S k==0)=fr
  ·grind[Gt.pl_yes]
  grind[Gt.pl_no]
theorem liveL_in {M:Mc} {n x:Nat}:x∈liveL M n↔x<n∧M.S x≠0:=by
 unfold liveL
 rw[List.mem_map]
 constructor
 ·rintro⟨y,hy,rfl⟩
  have:=(pl_in n lzr y).1 hy
  grind
 ·rintro⟨h1,h2⟩
  exact⟨⟨x,h1⟩,(pl_in n lzr _).2 (by grind),rfl⟩
theorem hasB_yes {n:Nat} {G S:Nat→Nat} {x:Nat} (hx:x<n) (hs:S x≠0):Gt.hasB n G S (x:Int) (G x)=true:=by
 unfold Gt.hasB
 grind
theorem stOf_at {M:Mc} {n x:Nat} {t:Tr} (hx:x<n) (hp:t.p=(x:Int)) (hg:t.g=M.G x) (hs:M.S x≠0):stOf M n t=M.S x:=by
 grind[stOf,hasB_yes]
theorem moveS_yes {n:Nat} {G S:Nat→Nat} {x s:Nat} (hx:x<n) (hs:S x≠0) (hm:Gt.mayB (S x) s=true):moveS n G S (x:Int) (G x) s=upd S x s:=by
 unfold moveS
 rw[if_pos ⟨hasB_yes hx hs,hm⟩]
 rfl
theorem moveS_no {n:Nat} {G S:Nat→Nat} {x s:Nat} (hm:Gt.mayB (S x) s=false):moveS n G S (x:Int) (G x) s=S:=by
 unfold moveS
 grind
theorem put_iff {np n q:Nat} {G:List (List En)} (hl:G.length=np+1) {p:Nat} (hp:p<np) {id:Nat} (hi:id<n) {k:Ke.K} (hr:Ke.rightK k=true) (hno: ∀z,Ent G z→z.1≠id) (z:En):
  Ent (pputG np n q (gh G) (p:Int) (id:Int) k) z↔z=(id,k)∨Ent G z:=by
 have hw:whereF n (gh G) 0 (id:Int)=none:=whereF_none n _ (gh G) 0 (fun i x hx _=>keyOf_none.2 (fun y hy=>hno y ⟨i,x.M,gh_at hx,hy⟩))
 have hc:pputC np n (gh G) (p:Int) (id:Int) k=0:=by
  unfold pputC
  rw[if_neg (by unfold Bad;grind),hw]
  rfl
 have hal:aPut np n q (gh G) p<G.length:=by
  grind[aPut]
 have hx:G[aPut np n q (gh G) p]? =some (G[aPut np n q (gh G) p]'hal):=List.getElem?_eq_getElem _
 have hg:pputG np n q (gh G) (p:Int) (id:Int) k=G.set (aPut np n q (gh G) p) (Go.Proofs.YtnmhcgpnhlhcgaaGreatDoor.put (id,k) (MM (gh G) (aPut np n q (gh G) p))):=by
  unfold pputG
  rw[if_pos hc,Ms_gh]
  rfl
 rw[hg]
 generalize aPut np n q (gh G) p=j at*
 generalize G[j]=X at hx
 rw[MM_at (gh_of hx)]
 constructor
 ·rintro⟨i,M,hM,hz⟩
  by_cases e:i=j
  ·subst e
   rw[List.getElem?_set_self hal] at hM
   injection hM with hM
   subst hM
   exact(mem_put.1 hz).imp (fun q=>q) (fun q=>⟨_,X,hx,q⟩)
  ·rw[List.getElem?_set_ne (by omega)] at hM
   exact .inr ⟨i,M,hM,hz⟩
 ·rintro(rfl|⟨i,M,hM,hz⟩)
  ·exact⟨j,_,List.getElem?_set_self hal,mem_put.2 (.inl rfl)⟩
  ·by_cases e:i=j
   ·subst e
    rw[hx] at hM
    injection hM with hM
    subst hM
    exact⟨i,_,List.getElem?_set_self hal,mem_put.2 (.inr hz)⟩
   ·exact⟨i,M,by grind,hz⟩
theorem pput_len {np n q:Nat} {G:List (List En)} (p id:Int) (k:Ke.K):(pputG np n q (gh G) p id k).length=G.length:=by
 grind[pputG,Ms_gh]
theorem take_iff {w:World} {O:Nat→Prop} {pb n np q T:Nat} {G:List (List En)} (h:PQ w O pb n np q T G) {p d:Int} (hb:(bb np (gh G) p d).isSome=true):
  ∃(x:Nat) (k:Ke.K),x<n∧bI (gh G) (bb np (gh G) p d)=(x:Int)∧Ent G (x,k)∧(∀z,Ent G z→Ke.up z.2 k=false)∧ ∀z,Ent (ptkG np (gh G) p d) z↔Ent G z∧z.1≠x:=by
 obtain⟨c,hc⟩:=Option.isSome_iff_exists.1 hb
 obtain⟨z,e1,e2,hz,hw,hs⟩:=h.took hc
 obtain⟨_,_,y,z',M',hy,hM⟩:=bb_at hc
 have hzz:z'=z:=by
  grind[bI,tkI,MM_at,bK,tkK]
 subst hzz
 have hcl:=(List.getElem?_eq_some_iff.1 (gh_at hy)).1
 have hG:G[c]? =some (z'::M'):=by rw[←hM];exact gh_at hy
 have hg:ptkG np (gh G) p d=G.set c M':=by grind[ptkG,Ms_gh,MM_at]
 refine⟨z'.1,z'.2,hz,by grind,⟨c,_,hG,by simp⟩,?_,?_⟩
 ·rintro y ⟨i,M2,hM2,hy2⟩
  have hk:tkK (MM (gh G) c)=z'.2:=by assumption
  cases hM3:M2 with
  |nil=>grind
  |cons y0 M4=>
   have h0:Ke.up y0.2 z'.2=false:=by grind[bb_over,PQ.len]
   rw[hM3] at hy2
   rcases List.mem_cons.1 hy2 with e|e
   ·grind
   ·have hf:=h.falls hM2
    rw[hM3] at hf
    exact nu_trans ((List.pairwise_cons.1 hf).1 y e) h0
 ·intro y
  constructor
  ·intro hy2
   refine⟨took_sub y hy2,?_⟩
   obtain⟨i,M2,hM2,hy3⟩:=hy2
   exact keyOf_none.1 (whereF_no hw hz (gh_of hM2)) y hy3
  ·rintro⟨⟨i,M2,hM2,hy2⟩,hne⟩
   rw[hg]
   by_cases e:i=c
   ·subst e
    rw[hG] at hM2
    injection hM2 with hM2
    subst hM2
    rcases List.mem_cons.1 hy2 with q|q
    ·exact mK
    ·exact⟨i,M',List.getElem?_set_self hcl,q⟩
   ·exact⟨i,M2,by grind,hy2⟩
theorem take_none {np:Nat} {G:List (List En)} (hl:G.length=np+1) {p d:Int} (hp:0≤p∧p<(np:Int)) (hb:(bb np (gh G) p d).isSome=false) (z:En): ¬Ent G z:=by
 rintro⟨i,M,hM,hz⟩
 have h1:=bb_any hl hp d
 rw[hb] at h1
 have h2:=of_decide_eq_false h1.symm
 have hs:=sumH_set (y:=⟨0,0,0,0,0,0,[]⟩) (gh_of hM)
 grind
theorem ptk_none {np:Nat} {G:List (List En)} {p d:Int} (hb:(bb np (gh G) p d).isSome=false):ptkG np (gh G) p d=G:=by
 grind[ptkG,Ms_gh]
theorem ptk_len {np:Nat} {G:List (List En)} (p d:Int):(ptkG np (gh G) p d).length=G.length:=by
 grind[ptkG,Ms_gh]
theorem freeOf_at {M:Mc} {n c:Nat} (hc:c<n) (h: ∀x,x<c→M.S x≠0) (h0:M.S c=0):freeOf M n=some c:=by
 have e:Gt.pl M.S true n c=[]:=by
  cases hp:Gt.pl M.S true n c with
  |nil=>rfl
  |cons y l=>
   have:=(pl_in (S:=M.S) (fr:=true) c (by omega) y).1 (by grind)
   grind
 have e2:=Gt.pl_yes (S:=M.S) (fr:=true) hc (by simp[h0])
 rw[e] at e2
 obtain⟨t,ht⟩:=Gt.pl_le M.S true n (c+1) (n-(c+1))
 grind[freeOf]
end Go.Proofs.YtnmhcgpnhlhcgaaGreatDoor
namespace Go.Proofs.YtnmhcgpnhlhcgaaGreatDoor
open Go.RowKit Go.Lib Go.Shelf
attribute [local go_sem ↓] Go.wp_at_zero Go.wp_at_succ
def Al (w wr:World) (ad:Ad) (P n q T:Nat) (M:Mc):Prop:=(∃lab,IsMc wr lab ad P n q T M∧ ∀k,lab k≠0→w.heap.size≤k)∧vBw w wr
section
variable {w wr w':World} {ad:Ad} {P n q T T':Nat} {M M':Mc}
theorem Al.goes (h:Al w wr ad P n q T M) {lab:Nat→Nat} (hi: ∀k,lab k≠0→w.heap.size≤k) (g:Goes wr w' lab ad P n q T' M'):Al w w' ad P n q T' M':=by
 obtain⟨_,hb⟩:=h
 obtain⟨lab',hi',hl,hf⟩:=g
 refine⟨⟨lab',hi',fun k hk=> ?_⟩,hb.trans ⟨hf.os,hf.tape,hf.output,hf.size,fun k hk=>hf.block k (Nat.lt_of_lt_of_le hk hb.size) (by grind)⟩⟩
 rcases Nat.lt_or_ge k wr.heap.size with q|q
 ·grind[Lab.old]
 ·exact Nat.le_trans hb.size q
theorem Al.call (h:Al w wr ad P n q T M) {f:Nat} {args:Array Value} {R:Ending→World→Prop} (hc: ∀lab,IsMc wr lab ad P n q T M→vCa f args wr fun e w'=>R e w'∧Goes wr w' lab ad P n q T' M'):vCa f args wr fun e w'=>R e w'∧Al w w' ad P n q T' M':=by
 have h0:=h
 obtain⟨⟨lab,hi,hl⟩,hb⟩:=h
 grind[Calls.mono,Al.goes]
theorem Al.below (h:Al w wr ad P n q T M) (hb:vBw wr w'):Al w w' ad P n q T M:=by
 have h0:=h
 obtain⟨⟨lab,hi,hl⟩,_⟩:=h
 exact h0.goes hl (hi.stay hb)
end
section
variable {w wr w':World} {ad:Ad} {P n q T T':Nat} {M M':Mc}
theorem new_al (P n q m qu ag:Nat) (hP:1≤P∧P≤64) (hn:1≤n∧n≤1024) (hq:1≤q∧q≤256) (hm:m≤32) (hqu:1≤qu∧qu<18446744073709551616) (hag:1≤ag∧ag<18446744073709551616) (w:World) (ht:Gt.Tab w):
  vCa 11 #[.agg #[vI6 (P:Int),vI6 (n:Int),vI6 (q:Int),vI6 (m:Int),vU6 (qu:Int),vU6 (ag:Int)]] w fun e w'=> ∃a,e= .returned (vPt a.m)∧Al w w' a P n q 0 (newMc P n m qu ag):=
 (new_ok P n q m qu ag hP hn hq hm hqu hag w ht).mono (fun e w' ⟨a,lab,he,hi,hl,hb⟩=>⟨a,he,(by grind),hb⟩)
theorem Al.load_yes (h:Al w wr ad P n q T M) (ap:Option Addr) (len cap:Nat) (O R:Nat→Int) (hp:Ex.Prg wr ap len O R) (hr:Ex.Rt len O R) (hf:M.pr.length<16):
  vCa 18 #[vPt ad.m,.slice ap len cap] wr fun e w'=>e=vRt #[vI6 (M.pr.length:Int),vI6 0]∧Al w w' ad P n q T {M with pr:=M.pr++[⟨len,O,R⟩]}:=
 h.call (R:=fun e _=>e=vRt #[vI6 (M.pr.length:Int),vI6 0]) (fun lab hi=>hi.load_yes ap len cap O R hp hr hf)
end
section
variable {w wr w':World} {ad:Ad} {P n q T T':Nat} {M M':Mc} {K:Nat→Prop}
theorem held_nil {T:List Pi.Th} {L:List Pi.Lk} (h: ∀y∈L,y.h= -1) (x:Nat):Pi.heldA T L (x:Int)=[]:=by
 unfold Pi.heldA
 split
 ·unfold Pi.heldOf Pi.heldTo
  simp_all
 ·rfl
end
theorem ev_at: ∀(l:List Ev) (i:Nat) (e:Ev),l[i]? =some e→(evCells l)[i*6]? =some (vI6 e.k)
 |[],i,e,h=>by simp at h
 |y::l,0,e,h=>by exact mK
 |y::l,i+1,e,h=>by
  have:=ev_at l i e (by grind)
  have e0:evCells (y::l)=evOne y++evCells l:=rfl
  grind[evOne]
theorem EvL.at {w:World} {base:Nat} {v:Value} {l:List Ev} (h:EvL w base v l) {i:Nat} {e:Ev} (hi:l[i]? =some e): ∃b c,v= .slice (some (vA0 b)) l.length c∧w.cell? (vAt b (i*6))=some (vI6 e.k):=by
 have hl:=(List.getElem?_eq_some_iff.1 hi).1
 rcases h.2 with ⟨_,e0⟩|⟨b,c,cur,e1,h0,hg,hrow⟩
 ·omega
 ·refine⟨b,c,e1,?_⟩
  have hu:=ev_at l i e hi
  rw[←hrow.2.2.2,List.getElem?_take] at hu
  split at hu
  ·simp only[World.cell?,hg]
   grind
  omega
def xO (j:Nat):Int:=9
def xR (j:Nat):Int:=0
theorem x_rt:Ex.Rt 1 xO xR:=by
 refine⟨0,.inr (.inr (.inr ⟨by decide,by decide,?_,.inr rfl,rfl,rfl⟩))⟩
 decide
theorem x_prg (w:World):Ex.Prg (w.alloc (.cells #[vI6 9,vI6 0] 83)) (some (vA0 w.heap.size)) 1 xO xR:=by
 refine .inr ⟨w.heap.size,0,rfl,by simp,fun j hj=> ?_⟩
 match j,hj with
 |0,_=>exact⟨newc _ _ _ 0 _ rfl,newc _ _ _ 1 _ rfl⟩
theorem Al.k {w wr:World} {ad:Ad} {P n q T:Nat} {M:Mc} (h:Al w wr ad P n q T M):AlK w wr ad P n q T M (fun _=>False):=by
 obtain⟨⟨lab,hi,hl⟩,hb⟩:=h
 exact⟨⟨lab,hi,hl,fun k q=>q.elim⟩,hb⟩
theorem AlK.less {w wr:World} {ad:Ad} {P n q T:Nat} {M:Mc} {K K':Nat→Prop} (h:AlK w wr ad P n q T M K) (hk: ∀k,K' k→K k):AlK w wr ad P n q T M K':=by
 exact mK
theorem baseR_u (g:Pi.Md) (t:Int) (k:Ke.K) (x:Nat):((Pi.baseR g t k).2.T[x]?).map (·.u)=(g.T[x]?).map (·.u):=by
 unfold Pi.baseR
 grind
theorem fold_u (n:Nat) (M:Mc) (x:Nat): ∀(l:List Nat) (g:Pi.Md),((l.foldl (base1 n M) g).T[x]?).map (·.u)=(g.T[x]?).map (·.u)
 |[],g=>rfl
 |y::l,g=>by rw[List.foldl_cons,fold_u n M x l];exact baseR_u _ _ _ _
theorem settle_u (M:Mc) (n x:Nat):((settle M n).gr.T[x]?).map (·.u)=(M.gr.T[x]?).map (·.u):=fold_u n M x _ _
theorem baseR_L (g:Pi.Md) (t:Int) (k:Ke.K):(Pi.baseR g t k).2.L=g.L:=by
 unfold Pi.baseR
 grind
theorem fold_L (n:Nat) (M:Mc): ∀(l:List Nat) (g:Pi.Md),(l.foldl (base1 n M) g).L=g.L
 |[],g=>rfl
 |y::l,g=>by rw[List.foldl_cons,fold_L n M l];exact baseR_L _ _ _
theorem settle_L (M:Mc) (n:Nat):(settle M n).gr.L=M.gr.L:=fold_L n M _ _
section
variable {w wr w':World} {ad:Ad} {P n q T T':Nat} {M M':Mc} {K:Nat→Prop}
end
section
variable {w wr w':World} {ad:Ad} {T:Nat} {M M1:Mc} {K:Nat→Prop} {s:Nat} {p:Pm}
end
end Go.Proofs.YtnmhcgpnhlhcgaaGreatDoor
namespace Go.Proofs.YtnmhcgpnhlhcgaaGreatDoor
open Go.RowKit Go.Lib Go.Shelf
section
variable {w wr w':World} {ad:Ad} {P n q T:Nat} {M:Mc} {K:Nat→Prop}
theorem AlK.below (h:AlK w wr ad P n q T M K) (hb:vBw wr w') {K':Nat→Prop} (hk: ∀k,K' k→K k∨(wr.heap.size≤k∧k<w'.heap.size)):AlK w w' ad P n q T M K':=by
 obtain⟨⟨lab,hi,h1,h2⟩,hw⟩:=h
 refine⟨⟨lab,hi.below hb,h1,fun k q=> ?_⟩,bt hw hb⟩
 rcases hk k q with r|r
 ·exact⟨(h2 k r).1,Nat.lt_of_lt_of_le (h2 k r).2 hb.size⟩
 ·exact⟨hi.fresh r.1,r.2⟩
end
end Go.Proofs.YtnmhcgpnhlhcgaaGreatDoor
namespace Go.Proofs.YtnmhcgpnhlhcgaaGreatDoor.Cb
open Go.RowKit Go.Lib
section
variable {w w':World} {base s P:Nat} {v:Value} {L:List Srv}
theorem admit_okV (h : Pep w base s P v L) (b p : Nat) (hr : rightB b p = true) (hl : L.length < 32) (hq : ¬ P * 232792560 < sumOf L + asks ⟨b, p, 0, 0⟩) : vCa 39 #[vPt s, vU6 (b : Int), vU6 (p : Int)] w fun e w' => e = vRt #[vI6 (L.length : Int), vI6 0] ∧ (∃ v', Pep w' base s P v' (L ++ [⟨b, p, 0, 0⟩]) ∧ ∀ k, v'.ownBlock = some k → v.ownBlock = some k ∨ w.heap.size ≤ k) ∧ Fr (fun k => k = s ∨ some k = v.ownBlock) w w' := by
 have HR := veil (fun w => right_ok w b p)
 simp only [hr] at HR
 have hok := (right_iff b p).1 hr
 have HK := veil (fun w => asks_ok w ⟨b, p, 0, 0⟩ hok)
 have HS := veil fun w1 (hb : vBw w w1) => sum_ok (h.below hb)
 obtain ⟨a, cap, rfl, _, _⟩ := h.form
 have c0 := h.c0
 have c1 := h.c1
 have hs := h.lt
 have n1 : ¬ (L.length : Int) = 32 := by omega
 have n2 : ¬ L.length = 32 := by omega
 have q1 := sum_le h.f.all
 have q2 := asks_le hok
 have q3 := h.f.p2
 have HI : Hid (w.cell? (vA0 s) = some (vU6 (P : Int)) ∧ w.cell? (vAt s 1) = some (.slice a L.length cap)) := ⟨c0, c1⟩
 generalize asks ⟨b, p, 0, 0⟩ = q at HK hq q2
 generalize sumOf L = z at HS hq q1
 have e1 : IntKind.u64.wrap ((z : Int) + (q : Int)) = ((z + q : Nat) : Int) := by rw [wrapU _ (by omega) (by omega)]; simp
 have e2 : IntKind.u64.wrap ((P : Int) * 232792560) = ((P * 232792560 : Nat) : Int) := by rw [wrapU _ (by omega) (by omega)]; simp
 have e3 : ¬ ((P * 232792560 : Nat) : Int) < ((z + q : Nat) : Int) := by omega
 have HPP := veil h
 clear h hr hq q1 q2 q3
 refine ge ?_
 go_wp2_with (go_at_call 71; refine (HR.out _).mono ?_; rintro e w1 ⟨rfl, c, rfl⟩)
 go_region_held3 (fun w' => w'.cell? (vA0 w.heap.size) = some (vU6 (b : Int)) ∧ w'.cell? (vAt w.heap.size 1) = some (vU6 (p : Int)) ∧ w'.cell? (vA0 s) = some (vU6 (P : Int)) ∧ w'.cell? (vAt s 1) = some (.slice a L.length cap) ∧ vBw w w')
  (first | exact tstart HI.out | exact keepc (by omega) hb)
  (first
   | (go_at_call 72; refine (HS.out _ (keepb (by assumption))).mono ?_; rintro e w1 ⟨rfl, hb⟩)
   | (go_at_call 73; refine (HK.out _).mono ?_; rintro e w1 ⟨rfl, c', hw⟩; have hb := below_ad hw; clear hw))
 rename_i hS
 obtain ⟨t0, t1, t2, t3, hbw⟩ := hS
 have hs1 := Nat.lt_of_lt_of_le hs hbw.size
 have c1a := fun o => (Below.cell ((Below.refl w1.heap.size w1).alloc lzr o) hs1).trans t3
 have HEND := veil (HPP.out.more ⟨b, p, 0, 0⟩ hok hl hbw (o := .cells (pone ⟨b, p, 0, 0⟩).toArray 184))
 have HOW : Hid (∀ W : World, W.heap = (w1.alloc (.cells (pone ⟨b, p, 0, 0⟩).toArray 184)).heap → W.ownsRow base 184 4 (.slice a L.length cap) L.length (pcells L)) := fun W hW => ((HPP.out.below (hbw.alloc hbw.size _)).like hW).own
 have HNW : Hid (∀ W : World, W.heap = (w1.alloc (.cells (pone ⟨b, p, 0, 0⟩).toArray 184)).heap → ∀ j u, (pone ⟨b, p, 0, 0⟩)[j]? = some u → W.cell? (((vA0 w1.heap.size) : Addr).add j) = some u) := fun W hW => news_of hW
 have HBS : Hid (∀ W : World, W.heap = (w1.alloc (.cells (pone ⟨b, p, 0, 0⟩).toArray 184)).heap → base ≤ W.heap.size) := fun W hW => ((HPP.out.below (hbw.alloc hbw.size _)).like hW).bs
 have hszw := hbw.size
 have HLOC : Hid (∀ (v1 : Value) (m : Nat), (v1.ownBlock = (Value.slice a L.length cap).ownBlock ∨ v1.ownBlock = some m) → w1.heap.size ≤ m → ∀ k, v1.ownBlock = some k → (Value.slice a L.length cap).ownBlock = some k ∨ w.heap.size ≤ k) := fun v1 m hat hm k hk => by
  grind
 clear hszw
 obtain ⟨i0, hi0, hz0, hz1, hz2⟩ := info_parts infoServer
 clear HPP hbw hok HI HS HK HR
 go_wp2
 refine wp_region_held_drew (S := (fun _ => True)) (by rfl) ?_ (fun hHeld => ?_)
 ·trivial
 refine st ?_
 repeat' first
  | refine dn ?_
  | refine tk ?_
  | refine rd ?_
  | exact opZ
  | refine opN ?_
  | refine opS ?_ ?_
  | (refine opY 8 (fun K hK => ?_)
     refine step_append_ev _ (by rfl) _ _ _ (by rfl) base 184 i0 (.agg #[vU6 0, vU6 0, vU6 0, vU6 0]) 4 32 Tryz.underlying153 hi0 hz0 hz1 hz2 rfl (by omega) (.slice a L.length cap) L.length (pcells L) (by rfl) (HOW.out _ rfl) (vA0 w1.heap.size) 1 1 (pone ⟨b, p, 0, 0⟩) (by rfl) rfl (HNW.out _ rfl) (pone_one _) (by unfold maxLen; omega) (by omega) (HBS.out _ rfl) ?_
     intro v1 w2 ho1 hg1 hat1
     obtain ⟨y1, y2, hP, hF⟩ := HEND.out _ _ _ hg1 ho1 rfl rfl rfl rfl
     obtain ⟨a1, d1, rfl⟩ := owns_slice ho1
     have HX := veil (And.intro (And.intro hP (HLOC.out _ _ hat1 (by simp))) hF)
     clear hP hF ho1 hg1 hat1
     refine hK.out _ _ ?_ (fun hHeld => ?_)
     ·trivial
     clear hK K
     try simp only [puX])
  | (refine opY _ (fun K hK => ?_)
     go_simp
     refine hK.out _ _ ?_ (fun hHeld => ?_)
     ·trivial
     clear hK K
     try simp only [puX])
 all_goals
  refine ⟨?_⟩
  go_wp2
  go_ret2
  exact ⟨by rfl, ⟨_, HX.out.1.1, HX.out.1.2⟩, HX.out.2⟩
theorem admit_allV (h:Pep w base s P v L) (b p:Nat):vCa 39 #[vPt s,vU6 (b:Int),vU6 (p:Int)] w fun e w'=>e=vRt #[vI6 (admN P L b p:Int),vI6 (admC P L b p:Int)]∧(∃v',Pep w' base s P v' (admL P L b p)∧ ∀k,v'.ownBlock=some k→v.ownBlock=some k∨w.heap.size≤k)∧Fr (fun k=>k=s∨some k=v.ownBlock) w w':=by
 unfold admN admL admC
 cases hr:rightB b p with
 |false=>exact(admit_range h b p hr).mono (fun e w' hq=>⟨by grind,⟨v,by simp;exact h.below hq.2,fun k hk=> .inl hk⟩,Fr.of_below' hq.2⟩)
 |true=>
  by_cases hl:L.length=32
  ·exact(admit_full h b p hr hl).mono (fun e w' hq=>⟨by grind,⟨v,by simp[hl];exact h.below hq.2,fun k hk=> .inl hk⟩,Fr.of_below' hq.2⟩)
  ·have h32:=h.f.len
   by_cases hq:P*232792560<sumOf L+asks ⟨b,p,0,0⟩
   ·exact(admit_load h b p hr (by omega) hq).mono (fun e w' hh=>⟨by grind,⟨v,by simp[hl,hq];exact h.below hh.2,fun k hk=> .inl hk⟩,Fr.of_below' hh.2⟩)
   ·exact(admit_okV h b p hr (by omega) hq).mono (by grind)
end
end Go.Proofs.YtnmhcgpnhlhcgaaGreatDoor.Cb
namespace Go.Proofs.YtnmhcgpnhlhcgaaGreatDoor
open Go.RowKit Go.Lib Go.Shelf
attribute [local go_sem ↓] Go.wp_at_zero Go.wp_at_succ
section
variable {w W w':World} {lab labk:Nat→Nat} {a:Ad} {P n q T:Nat} {M:Mc}
open Classical in
theorem IsMc.admitS (h:IsMc W labk a P n q T M) (b p:Nat):
  vCa 39 #[vPt a.sb,vU6 (b:Int),vU6 (p:Int)] W fun e w'=>e=vRt #[vI6 (Cb.admN P M.sv b p:Int),vI6 (Cb.admC P M.sv b p:Int)]∧Goes W w' labk a P n q T {M with sv:=Cb.admL P M.sv b p}:=by
 obtain⟨base,v,hp,hl⟩:=h.sv
 refine(Cb.admit_allV hp b p).mono ?_
 rintro e w' ⟨rfl,⟨v',hp',hv'⟩,hf⟩
 have h6:Fr (fun k=>labk k=6) W w':=(ofCb hf).to (fun k _ hk=>hk.elim (fun e=>by rw[e];exact h.lsb) (fun e=>hl k e.symm))
 have hL:Lab W w' labk (fun k=>if v'.ownBlock=some k then 6 else labk k):=by
  refine⟨fun k hk=> ?_,fun k hk=> ?_⟩
  ·grind
  ·by_cases e:v'.ownBlock=some k
   ·exact(ownsRow_blk hp'.own e).2.1
   ·simp only[e,if_false] at hk
    exact Nat.lt_of_lt_of_le (h.lt k hk) h6.size
 exact⟨rfl,_,h.toSrv hL h6 hp' (fun k hk=>by grind),hL,h6.to (fun k _ hk=>by omega)⟩
theorem IsMc.admit (h:IsMc w lab a P n q T M) (b p:Nat):
  vCa 13 #[vPt a.m,vU6 (b:Int),vU6 (p:Int)] w fun e w'=>e=vRt #[vI6 (Cb.admN P M.sv b p:Int),vI6 (Cb.admC P M.sv b p:Int)]∧Goes w w' lab a P n q T {M with sv:=Cb.admL P M.sv b p}:=by
 have c6:=h.co.c6
 have HA:Hid (∀V,V.heap=w.heap→V.os=w.os→V.tape=w.tape→V.output=w.output→vCa 39 #[vPt a.sb,vU6 (b:Int),vU6 (p:Int)] V fun e w'=>e=vRt #[vI6 (Cb.admN P M.sv b p:Int),vI6 (Cb.admC P M.sv b p:Int)]∧Goes w w' lab a P n q T {M with sv:=Cb.admL P M.sv b p}):=fun V e1 e2 e3 e4=>by
  have hb:vBw w V:=below_post bzR e1 e2 e3 e4
  exact((h.below hb).admitS b p).mono (fun e w' hq=>⟨hq.1,hq.2.ahead hb⟩)
 clear h
 generalize Cb.admN P M.sv b p=an at*
 generalize Cb.admC P M.sv b p=ac at*
 refine ge ?_
 go_wp2_with (go_at_call 39;refine cH (HA.out w rfl rfl rfl rfl) fun w1 HG=> ?_)
 go_ret2
 exact⟨rfl,HG.out⟩
end
section
variable {w W:World} {lab labk:Nat→Nat} {a:Ad} {P n q T T':Nat} {M M':Mc} {sb pr:Nat} {l l':List Ev} {O:Nat→Prop}
theorem SG.do_spawn_no (h:SG w W lab a P n q T M sb pr l O) (hl:l.length≤9000) (x:Nat) (hx:x<n) (ar rc:Int) (hrc:rc≠0) (re:Ev)
  (hk: ∀V,SG w V lab a P n q T M sb pr l O→vCa 168 #[vPt sb,.pointer (some (vAt a.th (x*10))),vI6 ar] V fun e w'=>e=vRt #[.agg #[vI6 re.k,vI6 re.p,vI6 re.x,vU3 (re.g:Int),vI6 re.r,vI6 re.e],vI6 rc]∧SX w V w' lab a P n q T M sb pr l O):
  vCa 126 #[vPt sb,.pointer (some (vAt a.th (x*10))),.agg #[vI6 4,vI6 ar]] W fun e w'=>e= .panicked pOver∧SX w W w' lab a P n q T M sb pr (l++[⟨6,(pr:Int),(M.th x).p,(M.th x).g,4,rc⟩]) O:=by
 have hb0:vBw W (W.alloc (.cells #[vI6 4,vI6 ar] 83)):=bzA
 have hs0:=h.below hb0
 have hno: ¬O W.heap.size:=fun q=>by have:=h.lt q;omega
 have HB0:=veil hb0
 have k0:=newc W #[vI6 4,vI6 ar] 83 0 _ rfl
 have k1:=newc W #[vI6 4,vI6 ar] 83 1 _ rfl
 have HKB:Hid (∀V T' M' l',SX w (W.alloc (.cells #[vI6 4,vI6 ar] 83)) V lab a P n q T' M' sb pr l' O→V.cell? (vA0 W.heap.size)=some (vI6 4)∧V.cell? (vAt W.heap.size 1)=some (vI6 ar)):=fun V T' M' l' hg=>⟨hg.keep hno k0,hg.keep hno k1⟩
 have HK:=veil (hk _ hs0)
 have HR:Hid (∀V,SX w (W.alloc (.cells #[vI6 4,vI6 ar] 83)) V lab a P n q T M sb pr l O→vCa 166 #[vPt sb,.pointer (some (vAt a.th (x*10))),.agg #[vI6 4,vI6 ar],vI6 rc] V fun e w'=>e= .panicked pOver∧SX w (W.alloc (.cells #[vI6 4,vI6 ar] 83)) w' lab a P n q T M sb pr (l++[⟨6,(pr:Int),(M.th x).p,(M.th x).g,4,rc⟩]) O):=fun V hV=>hV.ran_no (by omega) x hx 4 ar rc hrc
 clear h hs0 hb0 hno hk
 refine ge ?_
 go_wp2_with (first
  |(go_at_call 168;refine(HK.out).mono ?_;rintro e w1 ⟨rfl,hg⟩;have HG:=veil (hg.more (balloc bzR (.cells #[vI6 re.k,vI6 re.p,vI6 re.x,vU3 (re.g:Int),vI6 re.r,vI6 re.e] 80)));have kb:=HKB.out _ _ _ _ HG.out;have kb0:=kb.1;have kb1:=kb.2;clear hg kb)
  |(go_at_call 166;refine cH (HR.out _ (by exact HG.out)) fun w2 HG2=> ?_))
 simp[bodyPost]
 first|exact⟨rfl,HG2.out.ahead HB0.out⟩|exact HG2.out.ahead HB0.out
theorem SG.do_spawn (h : SG w W lab a P n q T M sb pr l O) (hl : l.length ≤ 9000) (x : Nat) (hx : x < n) (ar : Int) (re : Ev)
  (hk : ∀ V, SG w V lab a P n q T M sb pr l O → vCa 168 #[vPt sb, .pointer (some (vAt a.th (x * 10))), vI6 ar] V fun e w' => e = vRt #[.agg #[vI6 re.k, vI6 re.p, vI6 re.x, vU3 (re.g : Int), vI6 re.r, vI6 re.e], vI6 0] ∧ SX w V w' lab a P n q T' M' sb pr l O) :
  vCa 126 #[vPt sb, .pointer (some (vAt a.th (x * 10))), .agg #[vI6 4, vI6 ar]] W fun e w' => e = vRt #[] ∧ SX w W w' lab a P n q T' M' sb pr (l ++ [⟨5, (pr : Int), (M'.th x).p, (M'.th x).g, 4, 0⟩] ++ [re]) O := by
 have hb0 : vBw W (W.alloc (.cells #[vI6 4, vI6 ar] 83)) := bzA
 have hs0 := h.below hb0
 have hno : ¬ O W.heap.size := fun q => by have := h.lt q; omega
 have HB0 := veil hb0
 have k0 := newc W #[vI6 4, vI6 ar] 83 0 _ rfl
 have k1 := newc W #[vI6 4, vI6 ar] 83 1 _ rfl
 have HKB : Hid (∀ V T' M' l', SX w (W.alloc (.cells #[vI6 4, vI6 ar] 83)) V lab a P n q T' M' sb pr l' O → V.cell? (vA0 W.heap.size) = some (vI6 4) ∧ V.cell? (vAt W.heap.size 1) = some (vI6 ar)) := fun V T' M' l' hg => ⟨hg.keep hno k0, hg.keep hno k1⟩
 have HK := veil (hk _ hs0)
 have hl1 : (l ++ [(⟨5, (pr : Int), (M'.th x).p, (M'.th x).g, 4, 0⟩ : Ev)]).length ≤ 9001 := by grind
 obtain ⟨i0, hi0, hz0, hz1, hz2⟩ := Cb.info_parts infoEv
 clear h hs0 hb0 hno hk
 refine ge ?_
 go_upto_region 11 with (go_at_call 168; refine (HK.out).mono ?_; rintro e w1 ⟨rfl, hg⟩; have HG := veil hg; have kb := HKB.out _ _ _ _ (hg.more (balloc bzR (.cells #[vI6 re.k, vI6 re.p, vI6 re.x, vU3 (re.g : Int), vI6 re.r, vI6 re.e] 80))); have kb0 := kb.1; have kb1 := kb.2; clear hg kb)
 obtain ⟨O1, hs1, hback1⟩ := HG.out.base
 have HBK1 := veil hback1
 have hbno : ¬ O1 w1.heap.size := fun q => by have := hs1.lt q; omega
 have hB1 : vBw w1 (w1.alloc (.cells #[vI6 re.k, vI6 re.p, vI6 re.x, vU3 (re.g : Int), vI6 re.r, vI6 re.e] 80)) := bzA
 have hsB := (hs1.below hB1).sx
 have m0 := newc w1 #[vI6 re.k, vI6 re.p, vI6 re.x, vU3 (re.g : Int), vI6 re.r, vI6 re.e] 80 0 _ rfl
 have m1 := newc w1 #[vI6 re.k, vI6 re.p, vI6 re.x, vU3 (re.g : Int), vI6 re.r, vI6 re.e] 80 1 _ rfl
 have m2 := newc w1 #[vI6 re.k, vI6 re.p, vI6 re.x, vU3 (re.g : Int), vI6 re.r, vI6 re.e] 80 2 _ rfl
 have m3 := newc w1 #[vI6 re.k, vI6 re.p, vI6 re.x, vU3 (re.g : Int), vI6 re.r, vI6 re.e] 80 3 _ rfl
 have m4 := newc w1 #[vI6 re.k, vI6 re.p, vI6 re.x, vU3 (re.g : Int), vI6 re.r, vI6 re.e] 80 4 _ rfl
 have m5 := newc w1 #[vI6 re.k, vI6 re.p, vI6 re.x, vU3 (re.g : Int), vI6 re.r, vI6 re.e] 80 5 _ rfl
 have HB1 := veil hB1
 generalize hBW : w1.alloc (.cells #[vI6 re.k, vI6 re.p, vI6 re.x, vU3 (re.g : Int), vI6 re.r, vI6 re.e] 80) = B at *
 obtain ⟨bb, hbb⟩ : ∃ bb, w1.heap.size = bb := ⟨_, rfl⟩
 have HBB := veil hbb
 have HLTB : Hid (w1.heap.size < B.heap.size) := by unfold Hid; rw [← hBW]; simp
 rw [hbb] at hbno m0 m1 m2 m3 m4 m5 ⊢
 have HMK : Hid (∀ V T' M' l', SX w B V lab a P n q T' M' sb pr l' O1 → V.cell? (vA0 bb) = some (vI6 re.k) ∧ V.cell? (vAt bb 1) = some (vI6 re.p) ∧ V.cell? (vAt bb 2) = some (vI6 re.x) ∧ V.cell? (vAt bb 3) = some (vU3 (re.g : Int)) ∧ V.cell? (vAt bb 4) = some (vI6 re.r) ∧ V.cell? (vAt bb 5) = some (vI6 re.e)) := fun V T' M' l' hg => ⟨hg.keep hbno m0, hg.keep hbno m1, hg.keep hbno m2, hg.keep hbno m3, hg.keep hbno m4, hg.keep hbno m5⟩
 have HBNO := veil hbno
 have HR := veil (hsB.ran_ok (by omega) x hx 4 ar)
 clear hs1 hsB hbb hBW hB1 hback1 hbno m0 m1 m2 m3 m4 m5
 obtain ⟨l1, hl1e⟩ : ∃ l1, l ++ [(⟨5, (pr : Int), (M'.th x).p, (M'.th x).g, 4, 0⟩ : Ev)] = l1 := ⟨_, rfl⟩
 rw [hl1e] at HR hl1
 have HL1 := veil hl1e
 clear hl1e
 go_upto_region 12 with (go_at_call 166; refine cH HR.out fun w2 HG2 => ?_)
 obtain ⟨O2, hs2, hf2, ho2⟩ := HG2.out
 obtain ⟨e0, e1, e2, e3, e4, e5⟩ := HMK.out _ _ _ _ HG2.out
 have hback2 : ∀ Wc T' M' l', SX w w2 Wc lab a P n q T' M' sb pr l' O2 → SX w B Wc lab a P n q T' M' sb pr l' O1 := fun Wc T' M' l' ⟨O3, h1, h2, h3⟩ => ⟨O3, h1, hf2.then h2 (fun k hk q => ho2 k hk q), fun k hk q => ho2 k hk (h3 k (Nat.lt_of_lt_of_le hk hf2.size) q)⟩
 have hbbB : bb < B.heap.size := by have := HBB.out; have := HLTB.out; omega
 have hbno2 : ¬ O2 bb := fun q => HBNO.out (ho2 bb hbbB q)
 obtain ⟨labk, v, s0, hO⟩ := hs2
 have c3 := s0.c3
 have hv := s0.hv
 have hk := s0.hk
 have nsb : ¬ sb = bb := fun e => hbno2 ((hO bb).2 (.inr (.inl e.symm)))
 have hki : ∀ k, v.ownBlock = some k → k ≠ bb := fun k e q => hbno2 ((hO bb).2 (.inr (.inr (q ▸ e))))
 obtain ⟨ad, cap, rfl⟩ := Cb.owns_slice hv
 have hb1 : vBw w2 (w2.alloc (.cells #[vI6 re.k, vI6 re.p, vI6 re.x, vU3 (re.g : Int), vI6 re.r, vI6 re.e] 80)).drew := ((Below.refl _ w2).alloc lzr _).drew
 have s1 := s0.below hb1
 have q31 := kc hb1 c3
 have f0 := kc hb1 e0
 have f1 := kc hb1 e1
 have f2 := kc hb1 e2
 have f3 := kc hb1 e3
 have f4 := kc hb1 e4
 have f5 := kc hb1 e5
 have HOW : Hid ((w2.alloc (.cells #[vI6 re.k, vI6 re.p, vI6 re.x, vU3 (re.g : Int), vI6 re.r, vI6 re.e] 80)).drew.ownsRow w.heap.size 80 6 (.slice ad l1.length cap) l1.length (evCells l1)) := s1.hv
 have HNW : Hid (∀ j u, (evOne re)[j]? = some u → (w2.alloc (.cells #[vI6 re.k, vI6 re.p, vI6 re.x, vU3 (re.g : Int), vI6 re.r, vI6 re.e] 80)).drew.cell? (((vA0 w2.heap.size) : Addr).add j) = some u) := Cb.news_of (w1 := w2) (c := evOne re) rfl
 have HBS : Hid (w.heap.size ≤ (w2.alloc (.cells #[vI6 re.k, vI6 re.p, vI6 re.x, vU3 (re.g : Int), vI6 re.r, vI6 re.e] 80)).drew.heap.size) := s1.at_.f.size
 generalize hW1 : (w2.alloc (.cells #[vI6 re.k, vI6 re.p, vI6 re.x, vU3 (re.g : Int), vI6 re.r, vI6 re.e] 80)).drew = W1 at *
 have HEND : Hid (∀ v1 w3, w3.ownsRow w.heap.size 80 6 v1 (l1.length + 1) (evCells l1 ++ evOne re) → W1.grownBy w3 (Value.slice ad l1.length cap).ownBlock → (v1.ownBlock = (Value.slice ad l1.length cap).ownBlock ∨ v1.ownBlock = some W1.heap.size) → (SX w B (w3.setCell (vAt sb 3) v1) lab a P n q T' M' sb pr (l1 ++ [re]) O1 ∧ w3.cell? (vAt sb 3) = some (.slice ad l1.length cap) ∧ w3.frozen? (vAt sb 3) = false) ∧ w3.cell? (vA0 bb) = some (vI6 re.k) ∧ w3.cell? (vAt bb 1) = some (vI6 re.p) ∧ w3.cell? (vAt bb 2) = some (vI6 re.x) ∧ w3.cell? (vAt bb 3) = some (vU3 (re.g : Int)) ∧ w3.cell? (vAt bb 4) = some (vI6 re.r) ∧ w3.cell? (vAt bb 5) = some (vI6 re.e)) := fun v1 w3 ho hg hat => by
  refine ⟨⟨hback2 _ _ _ _ (((s1.told ho hg hat).1 O2 hO).ahead hb1), (s1.told ho hg hat).2⟩, ?_⟩
  have e2 := hg.block bb (World.block_lt_of_cell? W1 _ f0) (fun e => hki bb e.symm rfl)
  exact ⟨(World.cell?_of_block e2).trans f0, (World.cell?_of_block e2).trans f1, (World.cell?_of_block e2).trans f2, (World.cell?_of_block e2).trans f3, (World.cell?_of_block e2).trans f4, (World.cell?_of_block e2).trans f5⟩
 have HW1 := veil hW1
 clear hW1 hv hk hki s0 s1 hb1 hO hback2 hf2 ho2 hbno2 HG2 HMK kb0 kb1
 refine wp_region_held_drew (S := (fun w' => w'.cell? (vA0 bb) = some (vI6 re.k) ∧ w'.cell? (vAt bb 1) = some (vI6 re.p) ∧ w'.cell? (vAt bb 2) = some (vI6 re.x) ∧ w'.cell? (vAt bb 3) = some (vU3 (re.g : Int)) ∧ w'.cell? (vAt bb 4) = some (vI6 re.r) ∧ w'.cell? (vAt bb 5) = some (vI6 re.e))) (by rfl) ?_ (fun hHeld => ?_)
 ·simp_all
 refine st ?_
 repeat' first
  | refine dn ?_
  | refine tk ?_
  | refine rd ?_
  | exact opZ
  | refine opN ?_
  | refine opS ?_ ?_
  | (refine opY 6 (fun K hK => ?_)
     go_simp
     rw [HW1.out]
     refine hK.out _ _ ?_ (fun hHeld => ?_)
     ·grind
     clear hK K
     try simp only [puX])
  | (refine opY 7 (fun K hK => ?_)
     refine step_append_ev _ (by rfl) _ _ _ (by rfl) w.heap.size 80 i0 (.agg #[vI6 0, vI6 0, vI6 0, vU3 0, vI6 0, vI6 0]) 6 48 Tryz.underlying38 hi0 hz0 hz1 hz2 rfl (by omega) (.slice ad l1.length cap) l1.length (evCells l1) (by rfl) HOW.out (vA0 w2.heap.size) 1 1 (evOne re) (by rfl) rfl HNW.out (evOne_one _) (by unfold maxLen; omega) (by omega) HBS.out ?_
     intro v1 w3 ho1 hg1 hat1
     obtain ⟨⟨hsg, y1, y2⟩, hS2⟩ := HEND.out _ _ ho1 hg1 hat1
     obtain ⟨a1, d1, rfl⟩ := Cb.owns_slice ho1
     have HX := veil hsg
     clear hsg ho1 hg1 hat1
     refine hK.out _ _ ?_ (fun hHeld => ?_)
     ·exact hS2
     clear hK K
     try simp only [puX])
  | (refine opY _ (fun K hK => ?_)
     go_simp
     refine hK.out _ _ ?_ (fun hHeld => ?_)
     ·omega
     clear hK K
     try simp only [puX])
  | (refine opY _ (fun K hK => ?_)
     go_simp
     refine hK.out _ _ ?_ (fun hHeld => ?_)
     ·exact ⟨(Gt.set_other _ _ _ _ _ _ (fun q => nsb q.1)).trans hS2.1, (Gt.set_other _ _ _ _ _ _ (fun q => nsb q.1)).trans hS2.2.1, (Gt.set_other _ _ _ _ _ _ (fun q => nsb q.1)).trans hS2.2.2.1, (Gt.set_other _ _ _ _ _ _ (fun q => nsb q.1)).trans hS2.2.2.2.1, (Gt.set_other _ _ _ _ _ _ (fun q => nsb q.1)).trans hS2.2.2.2.2.1, (Gt.set_other _ _ _ _ _ _ (fun q => nsb q.1)).trans hS2.2.2.2.2.2⟩
     clear hK K
     try simp only [puX])
 all_goals
  refine ⟨?_⟩
  go_wp2
  go_end0
  rw [HL1.out]
  exact ⟨rfl, (HBK1.out _ _ _ _ (HX.out.ahead HB1.out)).ahead HB0.out⟩
end
section
variable {w W W0:World} {lab labk:Nat→Nat} {a:Ad} {P n q T T':Nat} {M M':Mc} {sb pr:Nat} {l l':List Ev} {O O0:Nat→Prop}
noncomputable def grM (P n q pr:Nat) (s:Mc×List Ev) (un lk:Int):Mc×List Ev:=
 if un= -1 then s else(ready P n q s.1 un.toNat (s.1.th un.toNat).pc,s.2++[⟨8,(pr:Int),(s.1.th un.toNat).p,(s.1.th un.toNat).g,lk,0⟩])
noncomputable def rel1 (P n q pr x:Nat) (s:Mc×List Ev) (lk:Int):Mc×List Ev:=
 grM P n q pr ({s.1 with gr:=(Pi.unlR s.1.gr (x:Int) lk).2},s.2) (Pi.unlR s.1.gr (x:Int) lk).1.1 lk
noncomputable def relL (P n q pr x:Nat) (M:Mc) (l:List Ev) (ls:List Int):Mc×List Ev:=ls.foldl (rel1 P n q pr x) (M,l)
theorem grM_len (P n q pr:Nat) (s:Mc×List Ev) (un lk:Int):(grM P n q pr s un lk).2.length≤s.2.length+1:=by
 unfold grM
 grind
theorem relL_len (P n q pr x:Nat): ∀(ls:List Int) (s:Mc×List Ev),(ls.foldl (rel1 P n q pr x) s).2.length≤s.2.length+ls.length
 |[],s=>lzr
 |y::ls,s=>by
  have h1:=relL_len P n q pr x ls (rel1 P n q pr x s y)
  have h2:(rel1 P n q pr x s y).2.length≤s.2.length+1:=grM_len P n q pr _ _ _
  grind
theorem fold_takeI {β:Type} (f:β→Int→β) (b:β) {l:List Int} {j:Nat} {x:Int} (h:l[j]? =some x):(l.take (j+1)).foldl f b=f ((l.take j).foldl f b) x:=by
 rw[List.take_add_one,h,List.foldl_append];rfl
theorem SX.grant_any (h:SX w W0 W lab a P n q T M sb pr l O0) (hl:l.length≤10000) (hT:T+n≤1000000000) (un lk:Int) (hu:un= -1∨ ∃y:Nat,y<n∧un=(y:Int)):
  vCa 167 #[vPt sb,vI6 un,vI6 lk] W fun e w'=>e=vRt #[]∧SX w W0 w' lab a P n q (T+n+1) (grM P n q pr (M,l) un lk).1 sb pr (grM P n q pr (M,l) un lk).2 O0:=by
 unfold grM
 rcases hu with rfl|⟨y,hy,rfl⟩
 ·rw[if_pos rfl]
  exact(h.grant_none lk).mono (fun e w' hq=>⟨hq.1,hq.2.moreT (by omega)⟩)
 ·rw[if_neg (by omega),show((y:Int)).toNat=y by omega]
  exact h.grant hl hT y hy lk
theorem held_cells {V w1:World} {v:Value} {ls:List Int} (h:Pi.IL w1 V.heap.size v ls): ∃ad cap,v= .slice ad ls.length cap∧ ∀(j:Nat) (x:Int),ls[j]? =some x→ ∃rb,ad=some (vA0 rb)∧V.heap.size≤rb∧w1.cell? (vAt rb j)=some (vI6 x):=by
 rcases h with ⟨hl,⟨hv,hz⟩|⟨g,cap,cells,hv,h3,h4,h5⟩⟩
 ·grind
 ·refine⟨some (vA0 g),cap,hv,fun j x hx=>⟨g,rfl,h3,?_⟩⟩
  have hu:(ls.map (fun x=>Value.int .i64 x))[j]? =some (vI6 x):=by grind
  have hu2:=hu
  rw[←h5.2.2.2,List.getElem?_take] at hu2
  split at hu2
  ·simp only[World.cell?,h4]
   grind
  grind
def exitN (n:Nat) (N:Mc) (pr x g:Nat):Mc:=setR {N with S:=relS n N.G N.S (x:Int) g,th:=upd N.th x noTr} pr (-1)
theorem SG.exit_all (h:SG w W lab a P n q T M sb pr l O) (hl:l.length≤8000) (hp:pr<P) (x:Nat) (hx:x<n) (g:Nat) (ls:List Int) (hh:Pi.heldA M.gr.T M.gr.L (x:Int)=ls) (h32:ls.length≤32) (hT:T+(n+1)*32≤1000000000)
  (hu: ∀(j:Nat) (lk:Int),ls[j]? =some lk→(Pi.unlR (relL P n q pr x M l (ls.take j)).1.gr (x:Int) lk).1.1= -1∨ ∃y:Nat,y<n∧(Pi.unlR (relL P n q pr x M l (ls.take j)).1.gr (x:Int) lk).1.1=(y:Int)):
  vCa 171 #[vPt sb,.agg #[vI6 (x:Int),vU3 (g:Int)]] W fun e w'=>e=vRt #[]∧SX w W w' lab a P n q (T+(n+1)*32) (exitN n (relL P n q pr x M l ls).1 pr x g) sb pr ((relL P n q pr x M l ls).2++[⟨10,(pr:Int),(x:Int),g,0,0⟩]) O:=by
 unfold relL at hu⊢
 obtain⟨S0,hS0⟩: ∃S0,ls.foldl (rel1 P n q pr x) (M,l)=S0:=⟨_,rfl⟩
 rw[hS0]
 obtain⟨N,LN⟩:=S0
 dsimp only
 obtain⟨TT,hTT⟩: ∃TT,T+(n+1)*32=TT:=⟨_,rfl⟩
 rw[hTT] at hT⊢
 have HS0:=veil hS0
 have HTT:=veil hTT
 clear hS0 hTT
 have hprl:a.pr<W.heap.size:=World.block_lt_of_cell? W _ (h.sx.pc hp).c0
 have hthl:a.th<W.heap.size:=World.block_lt_of_cell? W _ (h.sx.tr hx).c0
 have hb0:vBw W (W.alloc (.cells #[vI6 (x:Int),vU3 (g:Int)] 76)):=bzA
 have hs0:=h.below hb0
 have h0:=hs0.sx
 have hno: ¬O W.heap.size:=fun q=>by have:=h.lt q;omega
 have HB0:=veil hb0
 have k0:=newc W #[vI6 (x:Int),vU3 (g:Int)] 76 0 _ rfl
 have k1:=newc W #[vI6 (x:Int),vU3 (g:Int)] 76 1 _ rfl
 generalize hW:W.alloc (.cells #[vI6 (x:Int),vU3 (g:Int)] 76)=B at*
 have HW:=veil hW
 clear hW
 obtain⟨bx,hbx⟩: ∃bx,W.heap.size=bx:=⟨_,rfl⟩
 have HBX:=veil hbx
 rw[hbx] at hno k0 k1
 clear hbx
 have HKB:Hid (∀V T' M' l',SX w B V lab a P n q T' M' sb pr l' O→V.cell? (vA0 bx)=some (vI6 (x:Int))∧V.cell? (vAt bx 1)=some (vU3 (g:Int))∧V.cell? (vA0 sb)=some (vPt a.m)∧V.cell? (vAt sb 2)=some (.pointer (some (vAt a.pr (pr*3))))∧V.cell? (vAt a.m 7)=some (vPt a.gb)∧V.cell? (vAt a.m 5)=some (vPt a.tb)∧V.cell? (vAt a.m 4)=some (.slice (some (vA0 a.th)) n a.xt)):=fun V T' M' l' hg=>⟨hg.keep hno k0,hg.keep hno k1,hg.c0,hg.c2,hg.core.c7,hg.core.c5,hg.core.c4⟩
 have HSB:=veil hs0
 have hbxB:bx<B.heap.size:=World.block_lt_of_cell? B _ k0
 have HH:Hid (∀V,vBw B V→vCa 198 #[vPt a.gb,vI6 (x:Int)] V fun e w'=> ∃ad cap,e= .returned (.slice ad ls.length cap)∧vBw B w'∧ ∀(j:Nat) (y:Int),ls[j]? =some y→ ∃rb,ad=some (vA0 rb)∧B.heap.size≤rb∧w'.cell? (vAt rb j)=some (vI6 y)):=fun V hV=>by
  obtain⟨lk,v0,sp,_⟩:=HSB.out.below hV
  refine(sp.at_.i.held (x:Int)).mono ?_
  rintro e w' ⟨v,rfl,hil,hb⟩
  rw[hh] at hil
  obtain⟨ad,cap,rfl,hc⟩:=held_cells hil
  exact⟨ad,cap,rfl,bt hV hb,fun j y hy=>(by obtain⟨rb,e,h1,h2⟩:=hc j y hy;exact⟨rb,e,Nat.le_trans hV.size h1,h2⟩)⟩
 have HOB:Hid (∀k,O k→k<B.heap.size):=fun k hk=>HSB.out.lt hk
 have H0:=veil h0
 obtain⟨b0,b1,c0,c2,c7,c5,c4⟩:=HKB.out _ _ _ _ h0
 have hbt:=buildTh
 clear h hs0 h0 hb0 hno hh
 refine ge ?_
 go_wp2
 rw[HW.out,HBX.out]
 go_region_held3 (fun w'=>w'.cell? (vA0 sb)=some (vPt a.m)∧w'.cell? (vAt a.m 7)=some (vPt a.gb)∧w'.cell? (vA0 bx)=some (vI6 (x:Int)))
  (first|(have hk:=HKB.out _ _ _ _ HG.out;grind)|go_keep)
  (first
   |(go_at_call 198;refine(HH.out _ (by exact below_post bzR rfl rfl rfl rfl)).mono ?_;rintro e w1 ⟨ad,cc,rfl,hbw,hrow⟩;have HS1:=veil (HSB.out.below hbw);have HG:=veil ((HSB.out.below hbw).sx.ahead hbw);have HROW:=veil hrow;have HBW:=veil hbw;clear hbw hrow))
 rename_i hHeld
 clear hHeld HSB HH
 obtain⟨d0,d1,e0,e2,e7,e5,e4⟩:=HKB.out _ _ _ _ HG.out
 have HKC:Hid (∀V T' M' l',SX w w1 V lab a P n q T' M' sb pr l' O→V.cell? (vA0 bx)=some (vI6 (x:Int))∧V.cell? (vAt bx 1)=some (vU3 (g:Int))∧V.cell? (vA0 sb)=some (vPt a.m)∧V.cell? (vAt sb 2)=some (.pointer (some (vAt a.pr (pr*3))))∧V.cell? (vAt a.m 7)=some (vPt a.gb)∧V.cell? (vAt a.m 5)=some (vPt a.tb)∧V.cell? (vAt a.m 4)=some (.slice (some (vA0 a.th)) n a.xt)):=fun V T' M' l' hV=>HKB.out V T' M' l' (hV.ahead HBW.out)
 have HRC:Hid (∀V T' M' l' (j:Nat) (y:Int),ls[j]? =some y→SX w w1 V lab a P n q T' M' sb pr l' O→ ∃rb,ad=some (vA0 rb)∧V.cell? (vAt rb j)=some (vI6 y)):=fun V T' M' l' j y hy hV=>by
  obtain⟨rb,e,h1,h2⟩:=HROW.out j y hy
  exact⟨rb,e,hV.keep (fun q=>by have:=HOB.out rb q;omega) h2⟩
 have HUL:Hid (∀V T' N l' (lk:Int),SX w w1 V lab a P n q T' N sb pr l' O→vCa 165 #[vPt a.gb,vI6 (x:Int),vI6 lk] V fun e w'=>e=vRt #[vI6 (Pi.unlR N.gr (x:Int) lk).1.1,vI6 (Pi.unlR N.gr (x:Int) lk).1.2]∧SX w w1 w' lab a P n q T' {N with gr:=(Pi.unlR N.gr (x:Int) lk).2} sb pr l' O):=fun V T' N l' lk hV=>hV.lift (R:=fun e=>e=vRt #[vI6 (Pi.unlR N.gr (x:Int) lk).1.1,vI6 (Pi.unlR N.gr (x:Int) lk).1.2]) (fun _ i=>i.unlock (x:Int) lk)
 have HU:=veil hu
 have HLN:=veil (fun (k:List Int)=>relL_len P n q pr x k (M,l))
 clear hu HKB
 go_wp2
 go_loopw [19] (fun kv wr=> ∃(j:Nat),j≤ls.length∧kv=vI6 j∧SX w w1 wr lab a P n q (T+(n+1)*j) ((ls.take j).foldl (rel1 P n q pr x) (M,l)).1 sb pr ((ls.take j).foldl (rel1 P n q pr x) (M,l)).2 O) (fun kv _=>ls.length-(RowKit.intOf kv).toNat)
 case atStart=>exact⟨0,by omega,rfl,HS1.out.sx⟩
 case round=>
  obtain⟨j,hj,rfl,hxr⟩:=hrel
  have hln:=HLN.out (ls.take j)
  rw[List.length_take] at hln
  clear HS1 HG d0 d1 e0 e2 e7 e5 e4
  by_cases hjl:j<ls.length
  ·have hjl':(j:Int)<(ls.length:Int):=by omega
   obtain⟨lk,hlk⟩: ∃lk,ls[j]? =some lk:=⟨ls[j],List.getElem?_eq_getElem hjl⟩
   have huj:=HU.out j lk hlk
   have HNX:Hid ((ls.take (j+1)).foldl (rel1 P n q pr x) (M,l)=rel1 P n q pr x ((ls.take j).foldl (rel1 P n q pr x) (M,l)) lk):=fold_takeI _ _ hlk
   have HTJ:Hid (T+(n+1)*(j+1)=T+(n+1)*j+n+1):=by unfold Hid;grind
   have hTj:T+(n+1)*j+n≤1000000000:=by have:=Nat.mul_le_mul_left (n+1) (show j+1≤32 by omega);rw[Nat.mul_succ] at this;have:=HTT.out;omega
   generalize T+(n+1)*j=TJ at*
   generalize (ls.take j).foldl (rel1 P n q pr x) (M,l)=S at*
   obtain⟨N,LJ⟩:=S
   dsimp only at hxr hln huj
   have hll:LJ.length≤9000:=by omega
   obtain⟨rb,rfl,hrc⟩:=HRC.out _ _ _ _ j lk hlk hxr
   obtain⟨d0,d1,e0,e2,e7,e5,e4⟩:=HKC.out _ _ _ _ hxr
   have HUJ:=veil (fun V hV=>HUL.out V TJ N LJ lk hV)
   have HR1:Hid (rel1 P n q pr x (N,LJ) lk=grM P n q pr ({N with gr:=(Pi.unlR N.gr (x:Int) lk).2},LJ) (Pi.unlR N.gr (x:Int) lk).1.1 lk):=rfl
   generalize (Pi.unlR N.gr (x:Int) lk).1.1=un at*
   generalize (Pi.unlR N.gr (x:Int) lk).1.2=ue at*
   generalize {N with gr:=(Pi.unlR N.gr (x:Int) lk).2}=N1 at*
   have HGR:Hid (∀V,SX w w1 V lab a P n q TJ N1 sb pr LJ O→vCa 167 #[vPt sb,vI6 un,vI6 lk] V fun e w'=>e=vRt #[]∧SX w w1 w' lab a P n q (TJ+n+1) (grM P n q pr (N1,LJ) un lk).1 sb pr (grM P n q pr (N1,LJ) un lk).2 O):=fun V hV=>hV.grant_any (by omega) hTj un lk huj
   have HXR:=veil hxr
   clear hxr hln huj
   go_upto_region 4 with fail
   go_region_held3 (fun w'=>w'.cell? (vA0 sb)=some (vPt a.m)∧w'.cell? (vAt a.m 7)=some (vPt a.gb)∧w'.cell? (vA0 bx)=some (vI6 (x:Int)))
    (first|(have hk:=HKC.out _ _ _ _ HU2.out;grind)|go_keep)
    (first
     |(go_at_call 165;refine cH (HUJ.out _ (by exact SX.like HXR.out rfl rfl rfl rfl)) fun w2 HU2=> ?_))
   rename_i hHeld
   clear hHeld
   go_wp2_with (go_at_call 167;refine cH (HGR.out _ (by exact SX.like HU2.out rfl rfl rfl rfl)) fun w3 HG3=> ?_)
   go_roundw
   case rel=>exact⟨j+1,by omega,by go_num,by rw[HNX.out,HTJ.out,HR1.out];exact HG3.out⟩
   case measure=>simp[RowKit.intOf];omega
  ·have hjl': ¬(j:Int)<(ls.length:Int):=by omega
   have hjj:j=ls.length:=by omega
   subst hjj
   rw[List.take_length] at hxr hln
   have hTT:T+(n+1)*ls.length≤TT:=by have:=Nat.mul_le_mul_left (n+1) h32;have:=HTT.out;omega
   replace hxr:=hxr.moreT hTT
   rw[HS0.out] at hxr hln
   dsimp only at hxr hln
   have HG:=veil hxr
   obtain⟨d0,d1,e0,e2,e7,e5,e4⟩:=HKC.out _ _ _ _ hxr
   have HRL:Hid (∀V,SX w w1 V lab a P n q TT N sb pr LN O→vCa 199 #[vPt a.tb,.agg #[vI6 (x:Int),vU3 (g:Int)]] V fun e w'=>(∃c:Int,e= .returned (vI6 c))∧SX w w1 w' lab a P n q TT {N with S:=relS n N.G N.S (x:Int) g} sb pr LN O):=fun V hV=>hV.lift (R:=fun e=> ∃c:Int,e= .returned (vI6 c)) (fun _ i=>i.release (x:Int) g)
   have HTN:Hid (∀V,SX w w1 V lab a P n q TT {N with S:=relS n N.G N.S (x:Int) g} sb pr LN O→(∃t,TrAt V a.th (x*10) t)∧(∀o,V.frozen? (vAt a.th o)=false)∧SX w w1 (tenW V a.th (x*10) noTr) lab a P n q TT {N with S:=relS n N.G N.S (x:Int) g,th:=upd N.th x noTr} sb pr LN O):=fun V hV=>⟨⟨_,hV.tr hx⟩,hV.tfz,hV.goes (fun _ i=>i.tenG hx noTr noTr_ok)⟩
   have HSR:Hid (∀V,SX w w1 V lab a P n q TT {N with S:=relS n N.G N.S (x:Int) g,th:=upd N.th x noTr} sb pr LN O→(∃r:Int,V.cell? (vAt a.pr (pr*3))=some (vI6 r))∧V.frozen? (vAt a.pr (pr*3))=false∧SX w w1 (V.setCell (vAt a.pr (pr*3)) (vI6 (-1))) lab a P n q TT (exitN n N pr x g) sb pr LN O):=fun V hV=>⟨⟨_,(hV.pc hp).c0⟩,hV.pfz _,hV.setRun hp (-1)⟩
   have HTL:Hid (∀V,SX w w1 V lab a P n q TT (exitN n N pr x g) sb pr LN O→vCa 120 #[vPt sb,vI6 10,.agg #[vI6 (x:Int),vU3 (g:Int)],vI6 0] V fun e w'=>e=vRt #[]∧SX w w1 w' lab a P n q TT (exitN n N pr x g) sb pr (LN++[⟨10,(pr:Int),(x:Int),g,0,0⟩]) O):=fun V hV=>hV.tell (by omega) 10 (x:Int) g 0
   have HKB:=veil (fun V T' M' l' hV=>HKC.out V T' M' l' hV)
   clear hxr hln hTT
   go_wp2
   go_region_held3 (fun w'=>w'.cell? (vA0 sb)=some (vPt a.m)∧w'.cell? (vAt a.m 5)=some (vPt a.tb)∧w'.cell? (vA0 bx)=some (vI6 (x:Int))∧w'.cell? (vAt bx 1)=some (vU3 (g:Int)))
    (first|(have hk:=HKB.out _ _ _ _ HG2.out;grind)|go_keep)
    (first
     |(go_at_call 199;refine(HRL.out _ (by exact SX.like HG.out rfl rfl rfl rfl)).mono ?_;rintro e w2 ⟨⟨cr,rfl⟩,hg⟩;have HG2:=veil hg;clear hg))
   rename_i hHeld
   clear hHeld
   obtain⟨p0,p1,u0,u2,u7,u5,u4⟩:=HKB.out _ _ _ _ HG2.out
   obtain⟨⟨t0,⟨y0,y1,y2,y3,y4,y5,y6,y7,y8,y9⟩⟩,yf,hten⟩:=HTN.out _ HG2.out
   have HTEN:=veil hten
   clear hten d0 d1 e0 e2 e7 e5 e4
   obtain⟨w3,hw3⟩: ∃w3,tenW w2 a.th (x*10) noTr=w3:=⟨_,rfl⟩
   rw[hw3] at HTEN
   have HW3:Hid (((((((((((w2.setCell (vAt a.th (x*10)) (vI6 0)).setCell (vAt a.th (x*10+1)) (vU3 0)).setCell (vAt a.th (x*10+2)) (vI6 0)).setCell (vAt a.th (x*10+3)) (vU8 0)).setCell (vAt a.th (x*10+4)) (vU8 0)).setCell (vAt a.th (x*10+5)) (vI6 0)).setCell (vAt a.th (x*10+6)) (vI6 0)).setCell (vAt a.th (x*10+7)) (vI6 0)).setCell (vAt a.th (x*10+8)) (vI6 0)).setCell (vAt a.th (x*10+9)) (vU6 0))=w3):=hw3
   clear hw3 hbt
   obtain⟨n1,n2,n3,n4⟩:=HG2.out.sep
   have hbxv:=HBX.out
   have n5: ¬a.th=bx:=by omega
   have n6: ¬bx=a.th:=by omega
   clear hbxv
   go_wp2
   go_region_held3 (fun w'=>w'.cell? (vA0 sb)=some (vPt a.m)∧w'.cell? (vAt a.m 4)=some (.slice (some (vA0 a.th)) n a.xt)∧w'.cell? (vA0 bx)=some (vI6 (x:Int)))
    (go_keep)
    (first|fail)
   rename_i hHeld
   clear hHeld
   rw[HW3.out]
   clear HW3 y0 y1 y2 y3 y4 y5 y6 y7 y8 y9 yf p0 p1 u0 u2 u7 u5 u4 n1 n2 n3 n4 n5 n6
   have hT4:SX w w1 w3 lab a P n q TT {N with S:=relS n N.G N.S (x:Int) g,th:=upd N.th x noTr} sb pr LN O:=HTEN.out
   obtain⟨p0,p1,u0,u2,u7,u5,u4⟩:=HKB.out _ _ _ _ hT4
   obtain⟨⟨r,z0⟩,z1,hz⟩:=HSR.out _ hT4
   have HZ:=veil hz
   have hz':=HKB.out _ _ _ _ hz
   have v0:=hz'.1
   have v1:=hz'.2.1
   have hbxv:=HBX.out
   have n7: ¬a.pr=bx:=by omega
   have n8: ¬bx=a.pr:=by omega
   clear hz hz' hT4 hbxv
   go_wp2_with (go_at_call 120;refine cH (HTL.out _ (by exact SX.like HZ.out rfl rfl rfl rfl)) fun w5 HG5=> ?_)
   go_end0
   exact⟨rfl,(HG5.out.ahead HBW.out).ahead HB0.out⟩
end
end Go.Proofs.YtnmhcgpnhlhcgaaGreatDoor
namespace Go.Proofs.YtnmhcgpnhlhcgaaGreatDoor
open Go.RowKit Go.Lib Go.Shelf
noncomputable def lockD (n pr x:Nat) (M:Mc) (l:List Ev) (ar:Int):Mc×List Ev×Bool:=
 if (Pi.lockR M.gr (M.th x).p ar).1.2≠0 then(lockM M x ar,l++[⟨6,(pr:Int),(M.th x).p,(M.th x).g,2,(Pi.lockR M.gr (M.th x).p ar).1.2⟩],false)
 else if (Pi.lockR M.gr (M.th x).p ar).1.1=true then(lockM M x ar,l++[⟨5,(pr:Int),(M.th x).p,(M.th x).g,2,0⟩]++[⟨8,(pr:Int),(M.th x).p,(M.th x).g,ar,0⟩],false)
 else(setR {lockM M x ar with S:=moveS n M.G M.S (M.th x).p (M.th x).g 3} pr (-1),l++[⟨5,(pr:Int),(M.th x).p,(M.th x).g,2,0⟩]++[⟨7,(pr:Int),(M.th x).p,(M.th x).g,ar,0⟩],true)
noncomputable def unlD (P n q pr x:Nat) (M:Mc) (l:List Ev) (ar:Int):Mc×List Ev×Bool:=
 if (Pi.unlR M.gr (M.th x).p ar).1.2≠0 then(unlM M x ar,l++[⟨6,(pr:Int),(M.th x).p,(M.th x).g,3,(Pi.unlR M.gr (M.th x).p ar).1.2⟩],false)
 else((grM P n q pr (unlM M x ar,l++[⟨5,(pr:Int),(M.th x).p,(M.th x).g,3,0⟩]) (Pi.unlR M.gr (M.th x).p ar).1.1 ar).1,(grM P n q pr (unlM M x ar,l++[⟨5,(pr:Int),(M.th x).p,(M.th x).g,3,0⟩]) (Pi.unlR M.gr (M.th x).p ar).1.1 ar).2,true)
noncomputable def spwM (P n q pr x:Nat) (M:Mc) (y:Nat) (ar:Int):Mc:=beginM P n q M y (pr:Int) (newTr ar (M.th x).lv (-1))
noncomputable def spwD (P n q pr x:Nat) (M:Mc) (l:List Ev) (ar:Int):Mc×List Ev×Bool:=
 if hasPg M ar=false then(M,l++[⟨6,(pr:Int),(M.th x).p,(M.th x).g,4,2⟩],false)
 else match freeOf M n with
  |none=>(M,l++[⟨6,(pr:Int),(M.th x).p,(M.th x).g,4,4⟩],false)
  |some y=>(spwM P n q pr x M y ar,l++[⟨5,(pr:Int),((spwM P n q pr x M y ar).th x).p,((spwM P n q pr x M y ar).th x).g,4,0⟩]++[⟨9,(pr:Int),(y:Int),M.G y+1,ar,0⟩],true)
noncomputable def extD (P n q pr x:Nat) (M:Mc) (l:List Ev):Mc×List Ev×Bool:=
 (exitN n (relL P n q pr x M (l++[⟨5,(pr:Int),(M.th x).p,(M.th x).g,9,0⟩]) (Pi.heldA M.gr.T M.gr.L (x:Int))).1 pr x (M.th x).g,(relL P n q pr x M (l++[⟨5,(pr:Int),(M.th x).p,(M.th x).g,9,0⟩]) (Pi.heldA M.gr.T M.gr.L (x:Int))).2++[⟨10,(pr:Int),(x:Int),(M.th x).g,0,0⟩],true)
noncomputable def doD (P n q pr x:Nat) (M:Mc) (l:List Ev) (op ar:Int):Mc×List Ev×Bool:=
 if op=2 then lockD n pr x M l ar
 else if op=3 then unlD P n q pr x M l ar
 else if op=4 then spwD P n q pr x M l ar
 else if op=5 then(sleepM n M pr x ar.toNat,l++[⟨5,(pr:Int),(M.th x).p,(M.th x).g,5,0⟩],true)
 else if op=6 then(backM P n q M pr x,l++[⟨5,(pr:Int),(M.th x).p,(M.th x).g,6,0⟩],true)
 else if op=7 then(prioM M x ar.toNat,l++[⟨5,(pr:Int),(M.th x).p,(M.th x).g,7,0⟩],true)
 else if op=9 then extD P n q pr x M l
 else(M,l++[⟨5,(pr:Int),(M.th x).p,(M.th x).g,op,0⟩],true)
def tmx (n:Nat):Nat:=(n+1)*32+n+1
section
variable {w W:World} {lab labk:Nat→Nat} {a:Ad} {P n q T T':Nat} {M M':Mc} {sb pr:Nat} {l l':List Ev} {O:Nat→Prop}
structure DoOk (P n q pr x:Nat) (M:Mc) (l:List Ev) (op ar:Int):Prop where
 ln:l.length≤100
 hp:pr<P
 hx:x<n
 r:(M.pc pr).r=(x:Int)
 p:(M.th x).p=(x:Int)
 g:gok M n
 a5:op=5→0≤ar∧ar<9223372036854775808
 a7:op=7→0≤ar∧ar<256
 ul:(Pi.unlR M.gr (M.th x).p ar).1.1= -1∨ ∃y:Nat,y<n∧(Pi.unlR M.gr (M.th x).p ar).1.1=(y:Int)
 h32:(Pi.heldA M.gr.T M.gr.L (x:Int)).length≤32
 ex: ∀(l:List Ev) (j:Nat) (lk:Int),(Pi.heldA M.gr.T M.gr.L (x:Int))[j]? =some lk→(Pi.unlR (relL P n q pr x M l ((Pi.heldA M.gr.T M.gr.L (x:Int)).take j)).1.gr (x:Int) lk).1.1= -1∨ ∃y:Nat,y<n∧(Pi.unlR (relL P n q pr x M l ((Pi.heldA M.gr.T M.gr.L (x:Int)).take j)).1.gr (x:Int) lk).1.1=(y:Int)
theorem SG.do_any (h:SG w W lab a P n q T M sb pr l O) (op ar:Int) (x:Nat) (hd:DoOk P n q pr x M l op ar) (hT:T+tmx n≤1000000000):
  vCa 126 #[vPt sb,.pointer (some (vAt a.th (x*10))),.agg #[vI6 op,vI6 ar]] W fun e w'=>e=endOf (doD P n q pr x M l op ar).2.2∧SX w W w' lab a P n q (T+tmx n) (doD P n q pr x M l op ar).1 sb pr (doD P n q pr x M l op ar).2.1 O:=by
 have hl:=hd.ln
 have hx:=hd.hx
 have hp:=hd.hp
 have hT1:T+n≤1000000000:=by unfold tmx at hT;omega
 have hT2:T≤T+tmx n:=by omega
 have hT3:T+n+1≤T+tmx n:=by unfold tmx;omega
 have hT4:T+(n+1)*32≤T+tmx n:=by unfold tmx;omega
 unfold doD
 by_cases e2:op=2
 ·subst e2
  rw[if_pos rfl]
  unfold lockD
  by_cases c1:(Pi.lockR M.gr (M.th x).p ar).1.2≠0
  ·rw[if_pos c1]
   exact(h.do_lock x ar false (fun V hV=>(hV.lock_no (by omega) hp x hx 2 ar c1).mono (fun e w' hq=>⟨hq.1,hq.2⟩))).mono (fun e w' hq=>⟨hq.1,hq.2.moreT hT2⟩)
  ·rw[if_neg c1]
   have c1':(Pi.lockR M.gr (M.th x).p ar).1.2=0:=by omega
   by_cases c2:(Pi.lockR M.gr (M.th x).p ar).1.1=true
   ·rw[if_pos c2]
    exact(h.do_lock x ar false (fun V hV=>(hV.lock_got (by omega) hp x hx 2 ar (Prod.ext c2 c1')).mono (fun e w' hq=>⟨hq.1,hq.2⟩))).mono (fun e w' hq=>⟨hq.1,hq.2.moreT hT2⟩)
   ·rw[if_neg c2]
    exact(h.do_lock x ar true (fun V hV=>(hV.lock_wait (by omega) hp x hx 2 ar (Prod.ext (by grind) c1')).mono (fun e w' hq=>⟨hq.1,hq.2⟩))).mono (fun e w' hq=>⟨hq.1,hq.2.moreT hT2⟩)
 rw[if_neg e2]
 by_cases e3:op=3
 ·subst e3
  rw[if_pos rfl]
  unfold unlD
  by_cases c1:(Pi.unlR M.gr (M.th x).p ar).1.2≠0
  ·rw[if_pos c1]
   exact(h.do_unlock_no (by omega) x hx ar _ _ rfl rfl c1).mono (fun e w' hq=>⟨hq.1,hq.2.moreT hT2⟩)
  ·rw[if_neg c1]
   have c1':(Pi.unlR M.gr (M.th x).p ar).1.2=0:=by omega
   exact(h.do_unlock (by omega) x hx ar _ rfl c1' (fun W0 V hV=>hV.grant_any (by grind) hT1 _ ar hd.ul)).mono (fun e w' hq=>⟨hq.1,hq.2.moreT hT3⟩)
 rw[if_neg e3]
 by_cases e4:op=4
 ·subst e4
  rw[if_pos rfl]
  unfold spwD
  cases c1:hasPg M ar with
  |false=>
   rw[if_pos rfl]
   exact(h.do_spawn_no (by omega) x hx ar 2 (by decide) ⟨0,0,0,0,0,0⟩ (fun V hV=>hV.spawn_no x ar c1)).mono (fun e w' hq=>⟨hq.1,hq.2.moreT hT2⟩)
  |true=>
   rw[if_neg (by simp)]
   cases c2:freeOf M n with
   |none=>
    exact(h.do_spawn_no (by omega) x hx ar 4 (by decide) ⟨0,0,0,0,0,0⟩ (fun V hV=>hV.spawn_of x hx ar c1 ⟨0,0,0,0,0,0⟩ 4 (fun W0 V' hV'=>hV'.liftB (R:=fun e=>e=vRt #[.agg #[vI6 0,vI6 0,vI6 0,vU3 0,vI6 0,vI6 0],vI6 4]) (fun _ i=>i.begin_no hd.g (pr:Int) (newTr ar (M.th x).lv (-1)) c2)))).mono (fun e w' hq=>⟨hq.1,hq.2.moreT hT2⟩)
   |some y=>
    refine(h.do_spawn (T':=T+n+1) (M':=spwM P n q pr x M y ar) (by omega) x hx ar ⟨9,(pr:Int),(y:Int),M.G y+1,ar,0⟩ (fun V hV=>hV.spawn_of x hx ar c1 ⟨9,(pr:Int),(y:Int),M.G y+1,ar,0⟩ 0 (fun W0 V' hV'=> ?_))).mono (fun e w' hq=>⟨hq.1,hq.2.moreT hT3⟩)
    have tok:(newTr ar (M.th x).lv (-1)).ok:=by
     obtain⟨lk,i⟩:=hV'.i
     exact newTr_ok _ _ _ (i.th.ok x hx).lv
    exact hV'.lift (R:=fun e=>e=vRt #[.agg #[vI6 9,vI6 (pr:Int),vI6 (y:Int),vU3 ((M.G y+1:Nat):Int),vI6 ar,vI6 0],vI6 0]) (fun _ i=>i.begin_yes hT1 hd.g (pr:Int) (newTr ar (M.th x).lv (-1)) tok y c2)
 rw[if_neg e4]
 by_cases e5:op=5
 ·subst e5
  rw[if_pos rfl]
  obtain⟨h5,h5'⟩:=hd.a5 rfl
  obtain⟨k,rfl⟩:=Int.eq_ofNat_of_zero_le h5
  exact(h.do_sleep (by omega) hp x hx k (by omega)).mono (fun e w' hq=>⟨hq.1,hq.2.moreT hT2⟩)
 rw[if_neg e5]
 by_cases e6:op=6
 ·subst e6
  rw[if_pos rfl]
  exact(h.do_yield (by omega) x hx hp hT1 hd.r ar).mono (fun e w' hq=>⟨hq.1,hq.2.moreT hT3⟩)
 rw[if_neg e6]
 by_cases e7:op=7
 ·subst e7
  rw[if_pos rfl]
  obtain⟨h7,h7'⟩:=hd.a7 rfl
  obtain⟨k,rfl⟩:=Int.eq_ofNat_of_zero_le h7
  exact(h.do_prio (by omega) x hx _ k (by omega) (by simp[IntKind.wrap,IntKind.bits,IntKind.signed];omega)).mono (fun e w' hq=>⟨hq.1,hq.2.moreT hT2⟩)
 rw[if_neg e7]
 by_cases e9:op=9
 ·subst e9
  rw[if_pos rfl]
  unfold extD
  refine(h.do_exit (T':=T+(n+1)*32) (by omega) x hx ar (fun W0 V hV=> ?_)).mono (fun e w' hq=>⟨hq.1,hq.2.moreT hT4⟩)
  have hc:=hV.call (R:=fun e=>e=vRt #[]) (fun O1 hs=>hs.exit_all (by grind) hp x hx (M.th x).g _ rfl hd.h32 (by omega) (fun j lk hj=>hd.ex _ j lk hj))
  have e:(M.th x).p=(x:Int):=hd.p
  simp only[e] at hc⊢
  exact hc
 rw[if_neg e9]
 exact(h.do_other (by omega) x hx op ar e2 e3 e4 e5 e6 e7 e9).mono (fun e w' hq=>⟨hq.1,hq.2.moreT hT2⟩)
end
noncomputable def progOf (M:Mc) (x:Nat):Pm:=(M.pr[(M.th x).pg.toNat]?).getD ⟨0,fun _=>0,fun _=>0⟩
noncomputable def frmM (M:Mc) (x:Nat):Mc:=frM M x (exN (progOf M x) (M.th x).ia) (exL (progOf M x) (M.th x).ia (M.th x).il)
noncomputable def gonD (P n q pr x:Nat) (M:Mc) (l:List Ev):Mc×List Ev×Bool:=
 if 0<(M.th x).il then(M,l++[⟨2,(pr:Int),(M.th x).p,(M.th x).g,0,0⟩],false)
 else doD P n q pr x (frmM M x) l (exO (progOf M x) (M.th x).ia) (exR (progOf M x) (M.th x).ia)
noncomputable def gvB (P pr:Nat) (M:Mc) (d:Int):Bool:=decide ((M.pc pr).r≠ -1)&&(bb P (gh M.pl) (pr:Int) d).isSome&&gives P M pr d
noncomputable def gvM (P n q pr:Nat) (M:Mc) (d:Int):Mc:=if gvB P pr M d then backM P n q M pr (M.pc pr).r.toNat else M
noncomputable def gvL (P pr:Nat) (M:Mc) (d:Int):List Ev:=if gvB P pr M d then [⟨4,(pr:Int),(M.th (M.pc pr).r.toNat).p,(M.th (M.pc pr).r.toNat).g,0,0⟩] else []
noncomputable def tkD (P n pr:Nat) (M:Mc) (l:List Ev) (d:Int):Mc×List Ev:=
 if (bb P (gh M.pl) (pr:Int) d).isSome then(dispM P n M pr (bI (gh M.pl) (bb P (gh M.pl) (pr:Int) d)).toNat d,l++[⟨3,(pr:Int),(M.th (bI (gh M.pl) (bb P (gh M.pl) (pr:Int) d)).toNat).p,(M.th (bI (gh M.pl) (bb P (gh M.pl) (pr:Int) d)).toNat).g,bA (bb P (gh M.pl) (pr:Int) d),0⟩])
 else(tkM P M pr d,l++[⟨1,(pr:Int),0,0,0,0⟩])
noncomputable def actD (P n q pr:Nat) (M:Mc) (d:Int):Mc×List Ev:=
 if ((gvM P n q pr M d).pc pr).r= -1 then tkD P n pr (gvM P n q pr M d) (gvL P pr M d) d
 else((gonD P n q pr (M.pc pr).r.toNat M []).1,(gonD P n q pr (M.pc pr).r.toNat M []).2.1)
noncomputable def stpM (P n q pr:Nat) (M:Mc) (d:Int):Mc:=settle (actD P n q pr M d).1 n
noncomputable def stpL (P n q pr:Nat) (M:Mc) (d:Int):List Ev:=(actD P n q pr M d).2
theorem back_r (P n q:Nat) (M:Mc) (pr x:Nat):((backM P n q M pr x).pc pr).r= -1:=by
 unfold backM setR
 grind[upd]
structure StOk (P n q pr:Nat) (M:Mc):Prop where
 r:(M.pc pr).r= -1∨ ∃x:Nat,x<n∧(M.pc pr).r=(x:Int)
 pg: ∀x:Nat,(M.pc pr).r=(x:Int)→ ∃g:Nat,g<M.pr.length∧(M.th x).pg=(g:Int)
 dk: ∀x:Nat,(M.pc pr).r=(x:Int)→ ¬0<(M.th x).il→DoOk P n q pr x (frmM M x) [] (exO (progOf M x) (M.th x).ia) (exR (progOf M x) (M.th x).ia)
 il: ∀x:Nat,(M.pc pr).r=(x:Int)→exL (progOf M x) (M.th x).ia (M.th x).il<9223372036854775808
def tms (n:Nat):Nat:=n+2+tmx n+n
section
variable {w W:World} {lab labk:Nat→Nat} {a:Ad} {P n q T T':Nat} {M M':Mc} {sb pr:Nat} {l l':List Ev} {O:Nat→Prop}
theorem SG.goOn_any (h:SG w W lab a P n q T M sb pr l O) (hl:l=[]) (hp:pr<P) (x:Nat) (hx:x<n) (hr:(M.pc pr).r=(x:Int)) (hs:StOk P n q pr M) (hT:T+tmx n≤1000000000):
  vCa 77 #[vPt sb] W fun e w'=>e=endOf (gonD P n q pr x M l).2.2∧SX w W w' lab a P n q (T+tmx n) (gonD P n q pr x M l).1 sb pr (gonD P n q pr x M l).2.1 O:=by
 subst hl
 obtain⟨g,hg,hpg⟩:=hs.pg x hr
 have hgp:M.pr[g]? =some (M.pr[g]):=List.getElem?_eq_getElem hg
 have hpo:progOf M x=M.pr[g]:=by
  unfold progOf
  grind
 by_cases hb:0<(M.th x).il
 ·have e:gonD P n q pr x M []=(M,[]++[⟨2,(pr:Int),(M.th x).p,(M.th x).g,0,0⟩],false):=by unfold gonD;grind
  rw[e]
  obtain⟨lk,i⟩:=h.sx.i
  refine(h.sx.goOn_of (by simp) hp x hx hr g _ hgp hpg 0 0 (M.th x).ia (M.th x).il (i.th.ok x hx).il true false T M _ (fun ap cap V _ _ hV=>exec_busy _ _ hb V hV) (fun _=>⟨rfl,rfl,rfl,rfl⟩) (fun q=>by cases q)).mono (fun e w' hq=>⟨hq.1,hq.2.moreT (by omega)⟩)
 ·have e:gonD P n q pr x M []=doD P n q pr x (frmM M x) [] (exO (progOf M x) (M.th x).ia) (exR (progOf M x) (M.th x).ia):=by unfold gonD;grind
  rw[e]
  have hdo:=hs.dk x hr hb
  have hil:=hs.il x hr
  unfold frmM at hdo⊢
  rw[hpo] at hdo hil⊢
  refine(h.sx.goOn_of (by simp) hp x hx hr g _ hgp hpg (exO M.pr[g] (M.th x).ia) (exR M.pr[g] (M.th x).ia) (exN M.pr[g] (M.th x).ia) (exL M.pr[g] (M.th x).ia (M.th x).il) hil false _ _ _ _ (fun ap cap V hpr hrt hV=>exec_ok hpr hrt _ _ hb V hV) (fun q=>by cases q) (fun _ V O' hV=>hV.do_any _ _ x hdo hT))
theorem gives_parts {P:Nat} {M:Mc} {d:Int} (h:gvB P pr M d=true):(M.pc pr).r≠ -1∧(bb P (gh M.pl) (pr:Int) d).isSome=true∧gives P M pr d=true:=by
 unfold gvB at h
 grind
theorem SG.give_any (h:SG w W lab a P n q T M sb pr [] O) (hp:pr<P) (d:Int) (hd:0≤d∧d<18446744073709551616) (hs:StOk P n q pr M) (hT:T+n≤1000000000):
  vCa 75 #[vPt sb,vU6 d] W fun e w'=>e=vRt #[]∧SX w W w' lab a P n q (T+n+1) (gvM P n q pr M d) sb pr (gvL P pr M d) O:=by
 unfold gvM gvL
 cases hg:gvB P pr M d with
 |true=>
  rw[if_pos rfl,if_pos rfl]
  obtain⟨g1,g2,g3⟩:=gives_parts hg
  obtain⟨x,hx,hr⟩:=hs.r.resolve_left g1
  rw[hr,show((x:Int)).toNat=x by omega]
  exact h.sx.giveWay_go (by simp) hT hp d hd x hx hr g2 g3
 |false=>
  rw[if_neg (by simp),if_neg (by simp)]
  rcases hs.r with hr|⟨x,hx,hr⟩
  ·exact(h.sx.giveWay_not hp d hd (.inl hr)).mono (fun e w' hq=>⟨hq.1,hq.2.moreT (by omega)⟩)
  ·cases hb:(bb P (gh M.pl) (pr:Int) d).isSome with
   |false=>exact(h.sx.giveWay_not hp d hd (.inr hb)).mono (fun e w' hq=>⟨hq.1,hq.2.moreT (by omega)⟩)
   |true=>
    have hgf:gives P M pr d=false:=by
     unfold gvB at hg
     grind
    exact(h.sx.giveWay_stay hp d hd x hx hr hb hgf).mono (fun e w' hq=>⟨hq.1,hq.2.moreT (by omega)⟩)
theorem SG.act_any (h:SG w W lab a P n q T M sb pr [] O) (hp:pr<P) (d:Int) (hd:0≤d∧d<18446744073709551616) (hs:StOk P n q pr M) (hT:T+n+2+tmx n≤1000000000):
  vCa 41 #[vPt sb,vU6 d] W fun e w'=>e=vRt #[]∧SX w W w' lab a P n q (T+n+2+tmx n) (actD P n q pr M d).1 sb pr (actD P n q pr M d).2 O:=by
 have hgv:=h.give_any hp d hd hs (by omega)
 have hl1:(gvL P pr M d).length≤1:=by unfold gvL;grind
 unfold actD
 by_cases hr:((gvM P n q pr M d).pc pr).r= -1
 ·rw[if_pos hr]
  refine act_takes hgv (fun V hV=> ?_)
  unfold tkD
  cases hb:(bb P (gh (gvM P n q pr M d).pl) (pr:Int) d).isSome with
  |false=>
   rw[if_neg (by simp)]
   exact(hV.takeOne_idle (by omega) hp d hd hr hb).mono (fun e w' hq=>⟨hq.1,hq.2.moreT (by omega)⟩)
  |true=>
   rw[if_pos rfl]
   obtain⟨lk,i⟩:=hV.i
   obtain⟨O',hpq,_⟩:=i.pl
   obtain⟨x,k,hx,hbi,_⟩:=take_iff hpq hb
   rw[hbi,show((x:Int)).toNat=x by omega]
   exact(hV.takeOne_takes (by omega) hp d hd hr hb x hx hbi).mono (fun e w' hq=>⟨hq.1,hq.2.moreT (by omega)⟩)
 ·rw[if_neg hr]
  have hng:gvB P pr M d=false:=by
   cases hg:gvB P pr M d with
   |false=>rfl
   |true=>exact absurd (by unfold gvM;rw[if_pos hg];exact back_r _ _ _ _ _ _) hr
  have e1:gvM P n q pr M d=M:=by unfold gvM;grind
  have e2:gvL P pr M d=[]:=by unfold gvL;grind
  rw[e1,e2] at hgv
  rw[e1] at hr
  obtain⟨x,hx,hrx⟩:=hs.r.resolve_left hr
  rw[hrx,show((x:Int)).toNat=x by omega]
  have hgo:=fun V (hV:SX w W V lab a P n q (T+n+1) M sb pr [] O)=>hV.call (R:=fun e=>e=endOf (gonD P n q pr x M []).2.2) (fun O1 hs1=>hs1.goOn_any rfl hp x hx hrx hs (by omega))
  cases ho:(gonD P n q pr x M []).2.2 with
  |false=>
   rw[ho] at hgo
   exact(act_goes hgv (fun V hV=>hV.takeOne_runs hp d hr) hgo).mono (fun e w' hq=>⟨hq.1,hq.2.moreT (by omega)⟩)
  |true=>
   rw[ho] at hgo
   exact(act_all hgv (fun V hV=>hV.takeOne_runs hp d hr) hgo).mono (fun e w' hq=>⟨hq.1,hq.2.moreT (by omega)⟩)
theorem IsMc.step_any (h:IsMc w lab a P n q T M) (hp:pr<P) (d:Int) (hd:0≤d∧d<18446744073709551616) (hs:StOk P n q pr M) (hT:T+tms n≤1000000000):
  vCa 14 #[vPt a.m,vI6 (pr:Int),vU6 d] w fun e w'=> ∃v,e=vRt #[v,vI6 0]∧EvL w' w.heap.size v (stpL P n q pr M d)∧GoesV w w' lab a P n q (T+tms n) (stpM P n q pr M d) v:=by
 have hT':T+tms n=T+n+2+tmx n+n:=by unfold tms;omega
 rw[hT'] at hT⊢
 exact h.step_ofV hp d hT (fun W1 O hS=>hS.act_any hp d hd hs (by omega))
end
end Go.Proofs.YtnmhcgpnhlhcgaaGreatDoor
namespace Go.Proofs.YtnmhcgpnhlhcgaaGreatDoor
open Go.RowKit
def InP (M:Mc) (x:Nat):Prop:= ∃k,Ent M.pl (x,k)
def Uo (M:Mc) (x:Nat):Option Int:=(M.gr.T[x]?).map (·.u)
theorem chg_ids {n:Nat} {G:List (List En)} {x:Nat} {k:Ke.K} (y:Nat):(∃k',Ent (pchgG n (gh G) (x:Int) k) (y,k'))↔ ∃k',Ent G (y,k'):=by
 unfold pchgG
 split
 case isFalse=>rw[Ms_gh]
 case isTrue=>
  rw[Ms_gh]
  generalize aOf n (gh G) (x:Int)=i
  cases hi:G[i]? with
  |none=>rw[List.set_eq_of_length_le (List.getElem?_eq_none_iff.1 hi)]
  |some X=>
   rw[MM_at (gh_of hi)]
   have hil:=(List.getElem?_eq_some_iff.1 hi).1
   have hids: ∀y,(∃k',(y,k')∈chgL n X (x:Int) k)↔ ∃k',(y,k')∈X:=by
    intro y
    unfold chgL
    split
    case isFalse=>rfl
    case isTrue hc=>
     split
     case isTrue=>rfl
     case isFalse=>
      have hk:(keyOf X ((x:Int)).toNat).isSome=true:=by
       unfold chgC at hc
       grind
      rw[show((x:Int)).toNat=x by omega] at hk⊢
      have hin: ∃k',(x,k')∈X:=by
       apply Classical.byContradiction
       intro hno
       have:keyOf X x=none:=keyOf_none.2 (fun z hz e=>hno ⟨z.2,by grind⟩)
       grind
      constructor
      ·rintro⟨k',hk'⟩
       rcases mem_put.1 hk' with q|q
       ·grind
       ·exact⟨k',(mem_cut.1 q).1⟩
      ·rintro⟨k',hk'⟩
       by_cases e:y=x
       ·exact⟨k,mem_put.2 (.inl (by rw[e]))⟩
       ·exact⟨k',mem_put.2 (.inr (mem_cut.2 ⟨hk',e⟩))⟩
   constructor
   ·rintro⟨k',j,Y,hj,hm⟩
    by_cases e:j=i
    ·subst e
     rw[List.getElem?_set_self hil] at hj
     injection hj with hj
     subst hj
     obtain⟨k2,h2⟩:=(hids y).1 ⟨k',hm⟩
     exact⟨k2,_,X,hi,h2⟩
    ·rw[List.getElem?_set_ne (fun q=>e q.symm)] at hj
     exact⟨k',j,Y,hj,hm⟩
   ·rintro⟨k',j,Y,hj,hm⟩
    by_cases e:j=i
    ·subst e
     rw[hi] at hj
     injection hj with hj
     subst hj
     obtain⟨k2,h2⟩:=(hids y).2 ⟨k',hm⟩
     exact⟨k2,_,_,List.getElem?_set_self hil,h2⟩
    ·exact⟨k',j,Y,by grind,hm⟩
theorem chg_len {n:Nat} {G:List (List En)} {x:Int} {k:Ke.K}:(pchgG n (gh G) x k).length=G.length:=by
 unfold pchgG
 split
 ·rw[List.length_set,Ms_gh]
 ·rw[Ms_gh]
theorem chgs_ids (n:Nat) (M:Mc) (g:Pi.Md) (y:Nat): ∀(l:List Nat) (G:List (List En)),((∃k',Ent (l.foldl (chg1 n M g) G) (y,k'))↔ ∃k',Ent G (y,k'))∧(l.foldl (chg1 n M g) G).length=G.length
 |[],G=>⟨Iff.rfl,rfl⟩
 |x::l,G=>by
  obtain⟨h1,h2⟩:=chgs_ids n M g y l (chg1 n M g G x)
  have h3:((∃k',Ent (chg1 n M g G x) (y,k'))↔ ∃k',Ent G (y,k'))∧(chg1 n M g G x).length=G.length:=by
   unfold chg1
   split
   ·exact⟨chg_ids y,chg_len⟩
   simp
  grind
theorem base_right (g:Pi.Md) (t:Int) (k:Ke.K) (h: ∀y∈g.T,Ke.rightK y.k=true): ∀y∈(Pi.baseR g t k).2.T,Ke.rightK y.k=true:=by
 unfold Pi.baseR
 grind
theorem base_len (g:Pi.Md) (t:Int) (k:Ke.K):(Pi.baseR g t k).2.T.length=g.T.length:=by
 unfold Pi.baseR
 grind
theorem bases_right (n:Nat) (M:Mc): ∀(l:List Nat) (g:Pi.Md),(∀y∈g.T,Ke.rightK y.k=true)→(∀y∈(l.foldl (base1 n M) g).T,Ke.rightK y.k=true)
 |[],g,h=>h
 |x::l,g,h=>bases_right n M l _ (base_right g _ _ h)
theorem bases_len (n:Nat) (M:Mc): ∀(l:List Nat) (g:Pi.Md),(l.foldl (base1 n M) g).T.length=g.T.length
 |[],g=>rfl
 |x::l,g=>(bases_len n M l _).trans (base_len g _ _)
structure Kd (M R:Mc):Prop where
 qu:R.qu=M.qu
 ag:R.ag=M.ag
 pr:R.pr=M.pr
 pc:R.pc=M.pc
 th:R.th=M.th
 G:R.G=M.G
 S:R.S=M.S
 sv:R.sv=M.sv
 nw:R.nw=M.nw
 wh:R.wh=M.wh
 L:R.gr.L=M.gr.L
 U: ∀x,Uo R x=Uo M x
 tl:R.gr.T.length=M.gr.T.length
 kr:(∀y∈M.gr.T,Ke.rightK y.k=true)→ ∀y∈R.gr.T,Ke.rightK y.k=true
 ip: ∀x,InP R x↔InP M x
 pl:R.pl.length=M.pl.length
theorem settle_kd (M:Mc) (n:Nat):Kd M (settle M n):=
 ⟨rfl,rfl,rfl,rfl,rfl,rfl,rfl,rfl,rfl,rfl,settle_L M n,fun x=>settle_u M n x,bases_len n M _ _,fun h=>bases_right n M _ _ h,fun x=>(chgs_ids n M _ x _ _).1,(chgs_ids n M _ 0 _ _).2⟩
theorem max_right {k k':Ke.K} (h:Ke.rightK k=true) (h':Ke.rightK k'=true):Ke.rightK (Ke.maxK k k')=true:=by
 unfold Ke.maxK
 grind
theorem kf_right {T:List Pi.Th} {L:List Pi.Lk} (h: ∀x∈T,Ke.rightK x.k=true): ∀m t,Ke.rightK (Pi.kf T L m t)=true
 |m,t=>by
  have h0:Ke.rightK (Pi.ownK T t)=true:=by
   unfold Pi.ownK
   cases e:T[t]? with
   |none=>rfl
   |some x=>grind
  cases m with
  |zero=>exact h0
  |succ m=>
   unfold Pi.kf
   have: ∀(l:List Nat) (k:Ke.K),Ke.rightK k=true→Ke.rightK (l.foldl (fun k x=>Ke.maxK k (Pi.kf T L m x)) k)=true:=fun l=>by
    induction l with
    |nil=>simp
    |cons x l ih=>exact fun k hk=>ih _ (max_right hk (kf_right h m x))
   grind
theorem keyA_right {T:List Pi.Th} {L:List Pi.Lk} (h: ∀x∈T,Ke.rightK x.k=true) (t:Int):Ke.rightK (Pi.keyA T L t)=true:=by
 unfold Pi.keyA
 split
 ·unfold Pi.keyOf
  split
  ·exact kf_right h _ _
  ·rfl
 ·rfl
structure Rdd (n:Nat) (M R:Mc) (x:Nat):Prop where
 qu:R.qu=M.qu
 ag:R.ag=M.ag
 pr:R.pr=M.pr
 pc:R.pc=M.pc
 th:R.th=upd M.th x {M.th x with sn:=M.nw,lf:=0}
 G:R.G=M.G
 S:R.S=upd M.S x 1
 sv:R.sv=if M.S x=2 then M.sv else Cb.wakL M.sv (M.th x).sv M.nw
 nw:R.nw=M.nw
 wh:R.wh=M.wh
 L:R.gr.L=M.gr.L
 U: ∀y,Uo R y=Uo M y
 tl:R.gr.T.length=M.gr.T.length
 kr: ∀y∈R.gr.T,Ke.rightK y.k=true
 ip: ∀y,InP R y↔y=x∨InP M y
 pl:R.pl.length=M.pl.length
theorem may_ready {s:Nat} (h:s=2∨s=3∨s=4):Gt.mayB s 1=true:=by rcases h with rfl|rfl|rfl<;>rfl
theorem ready_rdd {P n q:Nat} {M:Mc} {x p:Nat} (hx:x<n) (hp:p<P) (hpl:M.pl.length=P+1) (hkr: ∀y∈M.gr.T,Ke.rightK y.k=true) (hS:M.S x=1∨M.S x=2∨M.S x=3∨M.S x=4) (htp:(M.th x).p=(x:Int)) (htg:(M.th x).g=M.G x) (hno: ¬InP M x):Rdd n M (ready P n q M x (p:Int)) x:=by
 have hs0:M.S x≠0:=by omega
 have hst:stOf M n (M.th x)=M.S x:=stOf_at hx htp htg hs0
 have hmv:moveS n M.G M.S (M.th x).p (M.th x).g 1=upd M.S x 1:=by
  rw[htp,htg]
  rcases hS with h|h
  ·rw[moveS_no (by rw[h];rfl)]
   grind[upd]
  ·exact moveS_yes hx hs0 (may_ready h)
 have h1:ready1 n M x={M with S:=upd M.S x 1,th:=upd M.th x {M.th x with sn:=M.nw,lf:=0}}:=by unfold ready1;rw[hmv]
 have h2:ready2 n M x={M with S:=upd M.S x 1,th:=upd M.th x {M.th x with sn:=M.nw,lf:=0},sv:=if M.S x=2 then M.sv else Cb.wakL M.sv (M.th x).sv M.nw}:=by
  unfold ready2
  grind
 have k:=settle_kd (ready2 n M x) n
 rw[h2] at k
 have hR3:ready3 n M x=settle {M with S:=upd M.S x 1,th:=upd M.th x {M.th x with sn:=M.nw,lf:=0},sv:=if M.S x=2 then M.sv else Cb.wakL M.sv (M.th x).sv M.nw} n:=by unfold ready3;rw[h2]
 unfold ready
 rw[hR3]
 generalize settle {M with S:=upd M.S x 1,th:=upd M.th x {M.th x with sn:=M.nw,lf:=0},sv:=if M.S x=2 then M.sv else Cb.wakL M.sv (M.th x).sv M.nw} n=R3 at*
 have hkr3:=k.kr hkr
 refine⟨k.qu,k.ag,k.pr,k.pc,k.th,k.G,k.S,k.sv,k.nw,k.wh,k.L,k.U,k.tl,hkr3,fun y=> ?_,(pput_len _ _ _).trans k.pl⟩
 have hno3: ∀z,Ent R3.pl z→z.1≠x:=fun z hz e=>hno ((k.ip x).1 ⟨z.2,by rw[←e];exact hz⟩)
 have hpi:=put_iff (q:=q) (np:=P) (n:=n) (k.pl.trans hpl) hp hx (keyA_right (L:=R3.gr.L) hkr3 (x:Int)) hno3
 constructor
 ·rintro⟨k',hk'⟩
  rcases(hpi (y,k')).1 hk' with q|q
  ·grind
  ·exact .inr ((k.ip y).1 ⟨k',q⟩)
 ·rintro(rfl|q)
  ·exact⟨_,(hpi _).2 (.inl rfl)⟩
  ·obtain⟨k',hk'⟩:=(k.ip y).2 q
   exact⟨k',(hpi _).2 (.inr hk')⟩
structure Thk (P:Nat) (M:Mc) (x:Nat):Prop where
 p:(M.th x).p=(x:Int)
 g:(M.th x).g=M.G x
 pg: ∃k:Nat,k<M.pr.length∧(M.th x).pg=(k:Int)
 pc: ∃p:Nat,p<P∧(M.th x).pc=(p:Int)
theorem Thk.cg {P:Nat} {M R:Mc} {x:Nat} (t:Thk P M x) (h1:R.th x=M.th x) (h2:R.G x=M.G x) (h3:R.pr=M.pr):Thk P R x:=
 ⟨by rw[h1];exact t.p,by rw[h1,h2];exact t.g,by rw[h1,h3];exact t.pg,by rw[h1];exact t.pc⟩
structure Iv (P n B:Nat) (D:List Nat) (M:Mc):Prop where
 tl:M.gr.T.length=n
 pl:M.pl.length=P+1
 kr: ∀y∈M.gr.T,Ke.rightK y.k=true
 qu:1≤M.qu
 sl: ∀p,p<P→(M.pc p).s<M.qu
 r1: ∀p,p<P→(M.pc p).r= -1∨ ∃x:Nat,x<n∧(M.pc p).r=(x:Int)∧M.S x=2
 r2: ∀x,x<n→M.S x=2→ ∃p,p<P∧(M.pc p).r=(x:Int)
 r3: ∀p p',p<P→p'<P→(M.pc p).r=(M.pc p').r→(M.pc p).r≠ -1→p=p'
 th: ∀x,x<n→M.S x≠0→Thk P M x
 st: ∀x,x<n→M.S x≤4
 rd: ∀x,InP M x↔x<n∧M.S x=1
 bl: ∀x,x<n→(M.S x=3↔Uo M x≠some (-1))
 sp: ∀x,x<n→(M.S x=4↔(∃it∈M.wh,it.i=x)∨x∈D)
 wl: ∀it∈M.wh,it.i<n
 wt: ∀(m:Nat) y,M.gr.L[m]? =some y→ ∀t∈y.l,t<n∧Uo M t=some (m:Int)
 nd: ∀y∈M.gr.L,y.l.Nodup
 l32:M.gr.L.length≤32
 gb: ∀x,x<n→M.G x≤B
section
variable {P n q B:Nat} {D:List Nat} {M R:Mc}
theorem Iv.kd (h:Iv P n B D M) (k:Kd M R):Iv P n B D R:=
 ⟨k.tl.trans h.tl,k.pl.trans h.pl,k.kr h.kr,by rw[k.qu];exact h.qu,by rw[k.pc,k.qu];exact h.sl,by rw[k.pc,k.S];exact h.r1,by rw[k.pc,k.S];exact h.r2,by rw[k.pc];exact h.r3,
  fun x hx hs=>(by rw[k.S] at hs;have t:=h.th x hx hs;exact⟨by rw[k.th];exact t.p,by rw[k.th,k.G];exact t.g,by rw[k.th,k.pr];exact t.pg,by rw[k.th];exact t.pc⟩),by rw[k.S];exact h.st,
  fun x=>by rw[k.ip,k.S];exact h.rd x,fun x hx=>by rw[k.S,k.U];exact h.bl x hx,by rw[k.S,k.wh];exact h.sp,by rw[k.wh];exact h.wl,
  fun m y hy t ht=>by rw[k.L] at hy;rw[k.U];exact h.wt m y hy t ht,by rw[k.L];exact h.nd,by rw[k.L];exact h.l32,by rw[k.G];exact h.gb⟩
theorem Iv.settle (h:Iv P n B D M):Iv P n B D (Go.Proofs.YtnmhcgpnhlhcgaaGreatDoor.settle M n):=h.kd (settle_kd M n)
theorem Iv.more (h:Iv P n B D M) {B':Nat} (hb:B≤B'):Iv P n B' D M:=⟨h.tl,h.pl,h.kr,h.qu,h.sl,h.r1,h.r2,h.r3,h.th,h.st,h.rd,h.bl,h.sp,h.wl,h.wt,h.nd,h.l32,fun x hx=>Nat.le_trans (h.gb x hx) hb⟩
theorem Iv.setTh (h:Iv P n B D M) (x:Nat) (t:Tr) (h1:t.p=(M.th x).p) (h2:t.g=(M.th x).g) (h3:t.pg=(M.th x).pg) (h4:t.pc=(M.th x).pc):Iv P n B D {M with th:=upd M.th x t}:=by
 refine⟨h.tl,h.pl,h.kr,h.qu,h.sl,h.r1,h.r2,h.r3,fun y hy hs=> ?_,h.st,h.rd,h.bl,h.sp,h.wl,h.wt,h.nd,h.l32,h.gb⟩
 have t0:=h.th y hy hs
 by_cases e:y=x
 ·subst e
  exact⟨by show(upd M.th y t y).p=_;rw[upd_same,h1];exact t0.p,by show(upd M.th y t y).g=_;rw[upd_same,h2];exact t0.g,by show∃k:Nat,k<M.pr.length∧(upd M.th y t y).pg=_;rw[upd_same,h3];exact t0.pg,by show∃p:Nat,p<P∧(upd M.th y t y).pc=_;rw[upd_same,h4];exact t0.pc⟩
 ·exact⟨by show(upd M.th x t y).p=_;rw[upd_other _ _ _ _ e];exact t0.p,by show(upd M.th x t y).g=_;rw[upd_other _ _ _ _ e];exact t0.g,by show∃k:Nat,k<M.pr.length∧(upd M.th x t y).pg=_;rw[upd_other _ _ _ _ e];exact t0.pg,by show∃p:Nat,p<P∧(upd M.th x t y).pc=_;rw[upd_other _ _ _ _ e];exact t0.pc⟩
theorem Iv.leave (h:Iv P n B D M) {pr x s:Nat} (hp:pr<P) (hx:x<n) (hr:(M.pc pr).r=(x:Int)) (hs:s≤4) (hs2:s≠2)
  (hS:R.S=upd M.S x s) (hpc:R.pc=upd M.pc pr {M.pc pr with r:= -1}) (hqu:R.qu=M.qu) (htl:R.gr.T.length=n) (hpl:R.pl.length=P+1) (hkr: ∀y∈R.gr.T,Ke.rightK y.k=true)
  (hth: ∀y,y<n→R.S y≠0→Thk P R y) (hrd: ∀y,InP R y↔(y=x∧s=1)∨InP M y) (hbl: ∀y,y<n→y≠x→Uo R y=Uo M y) (hblx:s=3↔Uo R x≠some (-1))
  (hwh: ∀y,y<n→((∃it∈R.wh,it.i=y)↔(y=x∧s=4)∨ ∃it∈M.wh,it.i=y)) (hwl: ∀it∈R.wh,it.i<n) (hwt: ∀(m:Nat) y,R.gr.L[m]? =some y→ ∀t∈y.l,t<n∧Uo R t=some (m:Int)) (hnd: ∀y∈R.gr.L,y.l.Nodup) (hl:R.gr.L.length≤32) (hG:R.G=M.G):Iv P n B D R:=by
 have hx2:M.S x=2:=by
  rcases h.r1 pr hp with q|⟨y,_,q1,q2⟩
  ·omega
  grind
 have es: ∀y,y≠x→R.S y=M.S y:=fun y e=>by rw[hS,upd_other _ _ _ _ e]
 have ex:R.S x=s:=by rw[hS,upd_same]
 have ep: ∀p,p≠pr→R.pc p=M.pc p:=fun p e=>by rw[hpc,upd_other _ _ _ _ e]
 have epr:R.pc pr={M.pc pr with r:= -1}:=by rw[hpc,upd_same]
 refine⟨htl,hpl,hkr,by rw[hqu];exact h.qu,fun p hp'=> ?_,fun p hp'=> ?_,fun y hy hy2=> ?_,fun p p' hp' hp'' e hne=> ?_,hth,fun y hy=> ?_,fun y=> ?_,fun y hy=> ?_,fun y hy=> ?_,hwl,hwt,hnd,hl,by rw[hG];exact h.gb⟩
 ·rw[hqu]
  by_cases e:p=pr
  ·rw[e,epr];exact h.sl pr hp
  ·rw[ep p e];exact h.sl p hp'
 ·by_cases e:p=pr
  ·grind
  ·rw[ep p e]
   rcases h.r1 p hp' with q|⟨y,q1,q2,q3⟩
   ·omega
   ·refine .inr ⟨y,q1,q2,?_⟩
    rw[es y (fun e2=>e (h.r3 p pr hp' hp (by omega) (by omega)))]
    exact q3
 ·by_cases e:y=x
  ·grind
  ·rw[es y e] at hy2
   obtain⟨p,q1,q2⟩:=h.r2 y hy hy2
   grind
 ·by_cases e1:p=pr
  ·grind
  ·by_cases e2:p'=pr
   ·grind
   ·rw[ep p e1,ep p' e2] at e
    rw[ep p e1] at hne
    exact h.r3 p p' hp' hp'' e hne
 ·by_cases e:y=x
  ·grind
  ·rw[es y e];exact h.st y hy
 ·rw[hrd,h.rd]
  grind
 ·by_cases e:y=x
  ·grind
  ·rw[es y e,hbl y hy e];exact h.bl y hy
 ·rw[hwh y hy]
  have hm:=h.sp y hy
  grind
theorem Iv.rdy (h:Iv P n B D M) {N:Mc} {x:Nat} {D':List Nat} (hx:x<n) (hN:Rdd n N R x)
  (e1:N.qu=M.qu) (e2:N.pr=M.pr) (e3:N.pc=M.pc) (e5: ∀y,y<n→y≠x→N.S y=M.S y∧N.G y=M.G y∧N.th y=M.th y) (htx:Thk P N x) (hns:M.S x≠2) (hgx:N.G x≤B)
  (htl:N.gr.T.length=n) (hpl:N.pl.length=P+1) (hrd: ∀y,y≠x→(InP N y↔InP M y)) (hU: ∀y,y<n→y≠x→Uo N y=Uo M y) (hUx:Uo N x=some (-1))
  (hwh:N.wh=M.wh) (hwx: ¬ ∃it∈M.wh,it.i=x) (hD: ∀y,y∈D'↔y∈D∧y≠x) (hwt: ∀(m:Nat) y,N.gr.L[m]? =some y→ ∀t∈y.l,t<n∧Uo N t=some (m:Int)) (hnd: ∀y∈N.gr.L,y.l.Nodup) (hl:N.gr.L.length≤32):Iv P n B D' R:=by
 have es: ∀y,y<n→y≠x→R.S y=M.S y:=fun y hy e=>by rw[hN.S,upd_other _ _ _ _ e];grind
 have ex:R.S x=1:=by rw[hN.S,upd_same]
 have epc:R.pc=M.pc:=hN.pc.trans e3
 refine⟨hN.tl.trans htl,hN.pl.trans hpl,hN.kr,by rw[hN.qu,e1];exact h.qu,by rw[epc,hN.qu,e1];exact h.sl,fun p hp=> ?_,fun y hy hy2=> ?_,by rw[epc];exact h.r3,fun y hy hs=> ?_,fun y hy=> ?_,fun y=> ?_,fun y hy=> ?_,fun y hy=> ?_,by rw[hN.wh,hwh];exact h.wl,
  fun m y hy t ht=>by rw[hN.L] at hy;rw[hN.U];grind,by rw[hN.L];exact hnd,by rw[hN.L];exact hl,fun y hy=> ?_⟩
 ·rw[epc]
  rcases h.r1 p hp with q|⟨y,q1,q2,q3⟩
  ·omega
  grind
 ·rw[epc]
  by_cases e:y=x
  ·grind
  ·rw[es y hy e] at hy2;exact h.r2 y hy hy2
 ·by_cases e:y=x
  ·subst e
   exact⟨by rw[hN.th,upd_same];exact htx.p,by rw[hN.th,upd_same,hN.G];exact htx.g,by rw[hN.th,upd_same,hN.pr];exact htx.pg,by rw[hN.th,upd_same];exact htx.pc⟩
  ·rw[es y hy e] at hs
   have t0:=h.th y hy hs
   obtain⟨_,g2,g3⟩:=e5 y hy e
   exact⟨by rw[hN.th,upd_other _ _ _ _ e,g3];exact t0.p,by rw[hN.th,upd_other _ _ _ _ e,hN.G,g3,g2];exact t0.g,by rw[hN.th,upd_other _ _ _ _ e,hN.pr,g3,e2];exact t0.pg,by rw[hN.th,upd_other _ _ _ _ e,g3];exact t0.pc⟩
 ·by_cases e:y=x
  ·grind
  ·rw[es y hy e];exact h.st y hy
 ·rw[hN.ip]
  by_cases e:y=x
  ·grind
  ·rw[hrd y e,h.rd]
   grind
 ·by_cases e:y=x
  ·subst e
   rw[ex,hN.U,hUx]
   simp
  ·rw[es y hy e,hN.U,hU y hy e];exact h.bl y hy
 ·rw[hN.wh,hwh,hD]
  by_cases e:y=x
  ·grind
  ·rw[es y hy e,h.sp y hy]
   grind
 ·rw[hN.G]
  by_cases e:y=x
  ·grind
  ·rw[(e5 y hy e).2.1];exact h.gb y hy
end
section
variable {P n q B:Nat} {D:List Nat} {M R:Mc}
theorem Iv.run (h:Iv P n B D M) {pr x:Nat} (hp:pr<P) (hr:(M.pc pr).r=(x:Int)):x<n∧M.S x=2:=by
 rcases h.r1 pr hp with q|⟨y,q0,q1,q2⟩
 ·omega
 grind
theorem Iv.uno (h:Iv P n B D M) {x:Nat} (hx:x<n) (hs:M.S x≠3):Uo M x=some (-1):=by
 apply Classical.byContradiction
 intro q
 exact hs ((h.bl x hx).2 q)
theorem Iv.nin (h:Iv P n B D M) {x:Nat} (hs:M.S x≠1): ¬InP M x:=fun q=>hs ((h.rd x).1 q).2
theorem Iv.nwh (h:Iv P n B D M) {x:Nat} (hx:x<n) (hs:M.S x≠4):(¬ ∃it∈M.wh,it.i=x)∧x ∉ D:=⟨fun q=>hs ((h.sp x hx).2 (.inl q)),fun q=>hs ((h.sp x hx).2 (.inr q))⟩
theorem Iv.back (h:Iv P n B D M) {pr x:Nat} (hp:pr<P) (hr:(M.pc pr).r=(x:Int)):Iv P n B D (backM P n q M pr x):=by
 obtain⟨hx,hx2⟩:=h.run hp hr
 have t0:=h.th x hx (by omega)
 have k:=ready_rdd (q:=q) hx hp h.pl h.kr (.inr (.inl hx2)) t0.p t0.g (h.nin (by omega))
 have hu:=h.uno hx (by omega)
 unfold backM
 generalize ready P n q M x (pr:Int)=R1 at k
 have hU: ∀y,Uo (setR R1 pr (-1)) y=Uo M y:=k.U
 refine h.leave (R:=setR R1 pr (-1)) hp hx hr (by omega) (by omega) k.S (by show upd R1.pc pr _=_;rw[k.pc]) k.qu (k.tl.trans h.tl) (k.pl.trans h.pl) k.kr (fun y hy hs=> ?_) (fun y=> ?_) (fun y hy e=>hU y) ?_ (fun y hy=> ?_) (by show∀it∈R1.wh,_;rw[k.wh];exact h.wl) (fun m y hy t ht=> ?_) (by show∀y∈R1.gr.L,_;rw[k.L];exact h.nd) (by show R1.gr.L.length≤32;rw[k.L];exact h.l32) k.G
 ·have hs':R1.S y≠0:=hs
  by_cases e:y=x
  ·subst e
   exact⟨by show(R1.th y).p=_;rw[k.th,upd_same];exact t0.p,by show(R1.th y).g=R1.G y;rw[k.th,upd_same,k.G];exact t0.g,by show∃j:Nat,j<R1.pr.length∧(R1.th y).pg=_;rw[k.th,upd_same,k.pr];exact t0.pg,by show∃j:Nat,j<P∧(R1.th y).pc=_;rw[k.th,upd_same];exact t0.pc⟩
  ·rw[k.S,upd_other _ _ _ _ e] at hs'
   have t1:=h.th y hy hs'
   exact⟨by show(R1.th y).p=_;rw[k.th,upd_other _ _ _ _ e];exact t1.p,by show(R1.th y).g=R1.G y;rw[k.th,upd_other _ _ _ _ e,k.G];exact t1.g,by show∃j:Nat,j<R1.pr.length∧(R1.th y).pg=_;rw[k.th,upd_other _ _ _ _ e,k.pr];exact t1.pg,by show∃j:Nat,j<P∧(R1.th y).pc=_;rw[k.th,upd_other _ _ _ _ e];exact t1.pc⟩
 ·have:=k.ip y
  show InP R1 y↔_
  grind
 ·grind
 ·show(∃it∈R1.wh,_)↔_
  rw[k.wh]
  simp
 ·have hy':R1.gr.L[m]? =some y:=hy
  rw[k.L] at hy'
  rw[hU t]
  exact h.wt m y hy' t ht
theorem Iv.idle (h:Iv P n B D M) {pr:Nat} {d:Int} (hb:(bb P (gh M.pl) (pr:Int) d).isSome=false):Iv P n B D (tkM P M pr d):=by
 unfold tkM
 rw[ptk_none hb]
 exact h
theorem Iv.disp (h:Iv P n B D M) {w:World} {O:Nat→Prop} {pb T pr x:Nat} {d:Int} (hpq:PQ w O pb n P q T M.pl) (hp:pr<P) (hr:(M.pc pr).r= -1) (hb:(bb P (gh M.pl) (pr:Int) d).isSome=true) (hbi:bI (gh M.pl) (bb P (gh M.pl) (pr:Int) d)=(x:Int)):Iv P n B D (dispM P n M pr x d):=by
 obtain⟨y,k,hx,hbi2,hent,_,htk⟩:=take_iff hpq hb
 have e0:y=x:=by omega
 subst e0
 have hS1:M.S y=1:=((h.rd y).1 ⟨k,hent⟩).2
 have t0:=h.th y hx (by omega)
 have hmv:moveS n M.G M.S (M.th y).p (M.th y).g 2=upd M.S y 2:=by rw[t0.p,t0.g];exact moveS_yes hx (by omega) (by rw[hS1];rfl)
 have hip: ∀z,InP (dispM P n M pr y d) z↔InP M z∧z≠y:=fun z=>by
  show(∃k,Ent (ptkG P (gh M.pl) (pr:Int) d) (z,k))↔_
  constructor
  ·rintro⟨k',hk'⟩
   have:=(htk _).1 hk'
   exact⟨⟨k',this.1⟩,this.2⟩
  ·rintro⟨⟨k',hk'⟩,e⟩
   grind
 have eS:(dispM P n M pr y d).S=upd M.S y 2:=hmv
 have es: ∀z,z≠y→(dispM P n M pr y d).S z=M.S z:=fun z e=>by rw[eS,upd_other _ _ _ _ e]
 have ex:(dispM P n M pr y d).S y=2:=by rw[eS,upd_same]
 have ep: ∀p,p≠pr→(dispM P n M pr y d).pc p=M.pc p:=fun p e=>by show upd M.pc pr _ p=_;grind[upd]
 have epr:(dispM P n M pr y d).pc pr=⟨(y:Int),0,false⟩:=by show upd M.pc pr _ pr=_;grind[upd]
 have et: ∀z,z≠y→(dispM P n M pr y d).th z=M.th z:=fun z e=>by show upd M.th y _ z=_;grind[upd]
 have ety:(dispM P n M pr y d).th y={M.th y with pc:=(pr:Int),lf:=(agedOf M (M.th y)).toNat}:=by show upd M.th y _ y=_;grind[upd]
 refine⟨h.tl,(ptk_len _ _).trans h.pl,h.kr,h.qu,fun p hp'=> ?_,fun p hp'=> ?_,fun z hz hz2=> ?_,fun p p' hp' hp'' e hne=> ?_,fun z hz hs=> ?_,fun z hz=> ?_,fun z=> ?_,fun z hz=> ?_,fun z hz=> ?_,h.wl,h.wt,h.nd,h.l32,h.gb⟩
 ·by_cases e:p=pr
  ·rw[e,epr];exact h.qu
  ·rw[ep p e];exact h.sl p hp'
 ·by_cases e:p=pr
  ·grind
  ·rw[ep p e]
   rcases h.r1 p hp' with q|⟨z,q1,q2,q3⟩
   ·omega
   grind
 ·by_cases e:z=y
  ·grind
  ·rw[es z e] at hz2
   obtain⟨p,q1,q2⟩:=h.r2 z hz hz2
   grind
 ·have far: ∀p,p<P→p≠pr→((dispM P n M pr y d).pc p).r≠(y:Int):=fun p hp1 e1 q=>by
   rw[ep p e1] at q
   have:=(h.run hp1 q).2
   omega
  by_cases e1:p=pr
  ·grind
  ·by_cases e2:p'=pr
   ·grind
   ·rw[ep p e1,ep p' e2] at e
    rw[ep p e1] at hne
    exact h.r3 p p' hp' hp'' e hne
 ·by_cases e:z=y
  ·subst e
   exact⟨by rw[ety];exact t0.p,by rw[ety];exact t0.g,by rw[ety];exact t0.pg,by grind⟩
  ·rw[es z e] at hs
   have t1:=h.th z hz hs
   exact⟨by rw[et z e];exact t1.p,by rw[et z e];exact t1.g,by rw[et z e];exact t1.pg,by rw[et z e];exact t1.pc⟩
 ·by_cases e:z=y
  ·grind
  ·rw[es z e];exact h.st z hz
 ·rw[hip z]
  by_cases e:z=y
  ·grind
  ·rw[es z e,←h.rd z]
   grind
 ·show _↔Uo M z≠some (-1)
  by_cases e:z=y
  ·subst e
   rw[ex,h.uno hx (by omega)]
   simp
  ·rw[es z e];exact h.bl z hz
 ·by_cases e:z=y
  ·subst e
   rw[ex]
   have:=h.nwh hx (by omega)
   constructor
   ·omega
   ·rintro(q|q)
    ·exact absurd q this.1
    grind
  ·rw[es z e];exact h.sp z hz
theorem Iv.frm (h:Iv P n B D M) (x:Nat):Iv P n B D (frmM M x):=h.setTh x _ rfl rfl rfl rfl
theorem Iv.prio (h:Iv P n B D M) (x v:Nat):Iv P n B D (prioM M x v):=h.setTh x _ rfl rfl rfl rfl
theorem Iv.setL (h:Iv P n B D M) {L':List Pi.Lk} (hl:L'.length=M.gr.L.length) (hy: ∀(m:Nat) y,L'[m]? =some y→ ∃y0,M.gr.L[m]? =some y0∧y.l=y0.l):Iv P n B D {M with gr:=⟨M.gr.T,L'⟩}:=by
 refine⟨h.tl,h.pl,h.kr,h.qu,h.sl,h.r1,h.r2,h.r3,fun x hx hs=>(h.th x hx hs).cg rfl rfl rfl,h.st,h.rd,h.bl,h.sp,h.wl,fun m y hm t ht=> ?_,fun y hm=> ?_,by show L'.length≤32;rw[hl];exact h.l32,h.gb⟩
 ·obtain⟨y0,q1,q2⟩:=hy m y hm
  exact h.wt m y0 q1 t (by grind)
 ·obtain⟨m,hm⟩:=List.getElem?_of_mem hm
  obtain⟨y0,q1,q2⟩:=hy m y hm
  rw[q2]
  exact h.nd y0 (List.mem_of_getElem? q1)
theorem set_line {L:List Pi.Lk} {m:Nat} {y:Pi.Lk} (hm:L[m]? =some y) (u:Int): ∀(j:Nat) z,(L.set m ⟨u,y.l⟩)[j]? =some z→ ∃z0,L[j]? =some z0∧z.l=z0.l:=fun j z hz=>by
 grind
theorem unl_ways (g:Pi.Md) (t m:Int):((Pi.unlR g t m).1.1= -1∧(Pi.unlR g t m).2=g)∨(∃y,g.L[m.toNat]? =some y∧(Pi.unlR g t m).1=(-1,0)∧(Pi.unlR g t m).2=⟨g.T,g.L.set m.toNat ⟨-1,y.l⟩⟩)∨
  ∃(y:Pi.Lk) (i z:Nat),g.L[m.toNat]? =some y∧y.l[i]? =some z∧(Pi.unlR g t m).1=((z:Int),0)∧(Pi.unlR g t m).2=⟨(match g.T[z]? with|some u=>g.T.set z ⟨u.k,-1⟩|none=>g.T),g.L.set m.toNat ⟨(z:Int),y.l.eraseIdx i⟩⟩:=by
 unfold Pi.unlR
 grind
theorem erase_no: ∀(l:List Nat) (i z:Nat),l.Nodup→l[i]? =some z→z ∉ l.eraseIdx i
 |[],i,z,_,h=>by simp at h
 |x::l,0,z,hn,h=>by
  grind
 |x::l,i+1,z,hn,h=>by
  have hz:l[i]? =some z:=by grind
  intro q
  rcases List.mem_cons.1 q with q|q
  ·grind
  ·exact erase_no l i z (List.nodup_cons.1 hn).2 hz q
theorem Iv.free (h:Iv P n B D M) {m:Nat} {y:Pi.Lk} (hm:M.gr.L[m]? =some y) (u:Int):Iv P n B D {M with gr:=⟨M.gr.T,M.gr.L.set m ⟨u,y.l⟩⟩}:=h.setL List.length_set (set_line hm u)
theorem Iv.grant (h:Iv P n B D M) (hp1:1≤P) (t m:Int) (pr:Nat) (l:List Ev) (lk:Int):Iv P n B D (grM P n q pr ({M with gr:=(Pi.unlR M.gr t m).2},l) (Pi.unlR M.gr t m).1.1 lk).1:=by
 unfold grM
 rcases unl_ways M.gr t m with ⟨e1,e2⟩|⟨y,hy,e1,e2⟩|⟨y,i,z,hy,hz,e1,e2⟩
 ·rw[if_pos e1,e2]
  exact h
 ·rw[e1,e2,if_pos rfl]
  exact h.free hy (-1)
 ·rw[e1,if_neg (by omega),e2]
  show Iv P n B D (ready P n q _ ((z:Int)).toNat (M.th ((z:Int)).toNat).pc)
  rw[show((z:Int)).toNat=z by omega]
  have hzm:z∈y.l:=List.mem_of_getElem? hz
  obtain⟨hzn,hzu⟩:=h.wt _ y hy z hzm
  have hz3:M.S z=3:=(h.bl z hzn).2 (by grind)
  have t0:=h.th z hzn (by omega)
  obtain⟨pz,hpz,epz⟩:=t0.pc
  rw[epz]
  have hzt:z<M.gr.T.length:=by rw[h.tl];exact hzn
  have hgt:M.gr.T[z]? =some (M.gr.T[z]):=List.getElem?_eq_getElem hzt
  have hT:(match M.gr.T[z]? with|some u=>M.gr.T.set z ⟨u.k,-1⟩|none=>M.gr.T)=M.gr.T.set z ⟨(M.gr.T[z]).k,-1⟩:=by rw[hgt]
  rw[hT]
  have hUz: ∀x,x≠z→((M.gr.T.set z ⟨(M.gr.T[z]).k,-1⟩)[x]?).map (·.u)=Uo M x:=fun x e=>by rw[List.getElem?_set_ne (fun q=>e q.symm)];rfl
  have hUzz:((M.gr.T.set z ⟨(M.gr.T[z]).k,-1⟩)[z]?).map (·.u)=some (-1):=by grind
  have hmlt:=(List.getElem?_eq_some_iff.1 hy).1
  have hndy:=h.nd y (List.mem_of_getElem? hy)
  have hwt: ∀(j:Nat) u,(M.gr.L.set m.toNat ⟨(z:Int),y.l.eraseIdx i⟩)[j]? =some u→ ∀t∈u.l,t<n∧((M.gr.T.set z ⟨(M.gr.T[z]).k,-1⟩)[t]?).map (·.u)=some (j:Int):=fun j u hu t ht=>by
   by_cases e:m.toNat=j
   ·subst e
    rw[List.getElem?_set_self hmlt] at hu
    injection hu with hu
    subst hu
    have ht':t∈y.l.eraseIdx i:=ht
    have hte:t≠z:=fun e=>erase_no y.l i z hndy hz (e▸ht')
    obtain⟨q1,q2⟩:=h.wt _ y hy t (List.mem_of_mem_eraseIdx ht')
    grind
   ·rw[List.getElem?_set_ne e] at hu
    obtain⟨q1,q2⟩:=h.wt j u hu t ht
    grind
  have hnd: ∀u∈M.gr.L.set m.toNat ⟨(z:Int),y.l.eraseIdx i⟩,u.l.Nodup:=fun u hu=>by
   rcases List.mem_or_eq_of_mem_set hu with q|q
   ·exact h.nd u q
   grind
  have hkr: ∀u∈M.gr.T.set z ⟨(M.gr.T[z]).k,-1⟩,Ke.rightK u.k=true:=fun u hu=>by
   rcases List.mem_or_eq_of_mem_set hu with q|q
   ·exact h.kr u q
   ·rw[q]
    show Ke.rightK (M.gr.T[z]).k=true
    exact h.kr _ (List.getElem_mem hzt)
  have k:=ready_rdd (q:=q) (M:={M with gr:=⟨M.gr.T.set z ⟨(M.gr.T[z]).k,-1⟩,M.gr.L.set m.toNat ⟨(z:Int),y.l.eraseIdx i⟩⟩}) hzn hpz h.pl hkr (.inr (.inr (.inl hz3))) t0.p t0.g (h.nin (by omega))
  have hnw:=h.nwh hzn (by omega)
  exact h.rdy hzn k rfl rfl rfl (fun _ _ _=>⟨rfl,rfl,rfl⟩) (t0.cg rfl rfl rfl) (by omega) (h.gb z hzn) (List.length_set.trans h.tl) h.pl (fun _ _=>Iff.rfl) (fun x hx e=>hUz x e) hUzz rfl hnw.1 (fun x=>⟨fun q=>⟨q,fun e=>hnw.2 (e▸q)⟩,fun q=>q.1⟩) hwt hnd (by show(M.gr.L.set _ _).length≤32;rw[List.length_set];exact h.l32)
end
section
variable {P n q B:Nat} {D:List Nat} {M R:Mc}
theorem may_in {g:Pi.Md} {t m:Int} (h: ¬Pi.mayE g.T g.L t m≠0):(0≤t∧t<(g.T.length:Int))∧0≤m∧m<(g.L.length:Int):=by
 have h0:Pi.mayE g.T g.L t m=0:=by omega
 unfold Pi.mayE at h0
 split at h0
 ·rename_i hc
  simp only[Bool.and_eq_true] at hc
  unfold Pi.inT Pi.inL at hc
  grind
 omega
theorem lock_ways (g:Pi.Md) (t m:Int):((Pi.lockR g t m).1.2≠0∧(Pi.lockR g t m).2=g)∨(∃y,g.L[m.toNat]? =some y∧(Pi.lockR g t m).1=(true,0)∧(Pi.lockR g t m).2=⟨g.T,g.L.set m.toNat ⟨t,y.l⟩⟩)∨
  ∃(x:Pi.Th) (y:Pi.Lk),g.T[t.toNat]? =some x∧g.L[m.toNat]? =some y∧0≤m∧(Pi.lockR g t m).1=(false,0)∧(Pi.lockR g t m).2=⟨g.T.set t.toNat ⟨x.k,m⟩,g.L.set m.toNat ⟨y.h,y.l++[t.toNat]⟩⟩:=by
 unfold Pi.lockR
 split
 ·grind
 ·rename_i hme
  obtain⟨⟨t0,t1⟩,m0,m1⟩:=may_in hme
  grind
theorem Iv.lock (h:Iv P n B D M) {pr x:Nat} (hp:pr<P) (hr:(M.pc pr).r=(x:Int)) (l:List Ev) (ar:Int):Iv P n B D (lockD n pr x M l ar).1:=by
 obtain⟨hx,hx2⟩:=h.run hp hr
 have t0:=h.th x hx (by omega)
 have hu:=h.uno hx (by omega)
 unfold lockD lockM
 rcases lock_ways M.gr (M.th x).p ar with ⟨e1,e2⟩|⟨y,hy,e1,e2⟩|⟨z,y,hz,hy,h0,e1,e2⟩
 ·rw[if_pos e1]
  show Iv P n B D {M with gr:=_}
  rw[e2]
  exact h
 ·rw[e1,if_neg (by simp),if_pos rfl]
  show Iv P n B D {M with gr:=_}
  rw[e2]
  exact h.free hy _
 ·rw[e1,if_neg (by simp),if_neg (by simp)]
  show Iv P n B D (setR {{M with gr:=(Pi.lockR M.gr (M.th x).p ar).2} with S:=moveS n M.G M.S (M.th x).p (M.th x).g 3} pr (-1))
  rw[e2]
  have hmv:moveS n M.G M.S (M.th x).p (M.th x).g 3=upd M.S x 3:=by rw[t0.p,t0.g];exact moveS_yes hx (by omega) (by rw[hx2];rfl)
  rw[hmv]
  have ex:(M.th x).p.toNat=x:=by rw[t0.p];omega
  rw[ex] at hz⊢
  obtain⟨m,rfl⟩:=Int.eq_ofNat_of_zero_le h0
  rw[show((m:Int)).toNat=m by omega] at hy⊢
  have hxt:x<M.gr.T.length:=by grind
  have hmlt:=(List.getElem?_eq_some_iff.1 hy).1
  have hUx:((M.gr.T.set x ⟨z.k,(m:Int)⟩)[x]?).map (·.u)=some ((m:Int)):=by grind
  have hUo: ∀y,y≠x→((M.gr.T.set x ⟨z.k,(m:Int)⟩)[y]?).map (·.u)=Uo M y:=fun y e=>by rw[List.getElem?_set_ne (fun q=>e q.symm)];rfl
  have hnx: ∀(j:Nat) u,M.gr.L[j]? =some u→x ∉ u.l:=fun j u hj q=>by
   have:=(h.wt j u hj x q).2
   grind
  refine h.leave (s:=3) hp hx hr (by omega) (by omega) rfl rfl rfl (List.length_set.trans h.tl) h.pl (fun u hu'=> ?_) (fun v hv hs=>(h.th v hv (fun e=>hs ?_)).cg rfl rfl rfl) (fun v=>⟨.inr,fun q=>q.elim (fun q=>by omega) id⟩) (fun v hv e=>hUo v e) ?_ (fun v hv=>⟨.inr,fun q=>q.elim (fun q=>by omega) id⟩) h.wl (fun j u hj t ht=> ?_) (fun u hu'=> ?_) (by show(M.gr.L.set _ _).length≤32;rw[List.length_set];exact h.l32) rfl
  ·rcases List.mem_or_eq_of_mem_set hu' with q|q
   ·exact h.kr u q
   ·rw[q];exact h.kr z (List.mem_of_getElem? hz)
  ·show upd M.S x 3 v=0
   grind[upd]
  ·constructor
   ·intro _ q
    have q':((M.gr.T.set x ⟨z.k,(m:Int)⟩)[x]?).map (·.u)=some (-1):=q
    grind
   omega
  ·have hj':(M.gr.L.set m ⟨y.h,y.l++[x]⟩)[j]? =some u:=hj
   show t<n∧((M.gr.T.set x ⟨z.k,(m:Int)⟩)[t]?).map (·.u)=some (j:Int)
   by_cases e:m=j
   ·subst e
    rw[List.getElem?_set_self hmlt] at hj'
    injection hj' with hj'
    subst hj'
    rcases List.mem_append.1 ht with q|q
    ·obtain⟨q1,q2⟩:=h.wt m y hy t q
     grind
    grind
   ·rw[List.getElem?_set_ne e] at hj'
    obtain⟨q1,q2⟩:=h.wt j u hj' t ht
    grind
  ·have hu2:u∈M.gr.L.set m ⟨y.h,y.l++[x]⟩:=hu'
   rcases List.mem_or_eq_of_mem_set hu2 with q|q
   ·exact h.nd u q
   ·rw[q]
    show(y.l++[x]).Nodup
    rw[List.nodup_append]
    refine⟨h.nd y (List.mem_of_getElem? hy),by simp,fun a ha b hb e=> ?_⟩
    grind
theorem Iv.unl (h:Iv P n B D M) (hp1:1≤P) {pr x:Nat} (l:List Ev) (ar:Int):Iv P n B D (unlD P n q pr x M l ar).1:=by
 unfold unlD unlM
 split
 ·rename_i hne
  show Iv P n B D {M with gr:=_}
  rcases unl_ways M.gr (M.th x).p ar with ⟨e1,e2⟩|⟨y,hy,e1,e2⟩|⟨y,i,z,hy,hz,e1,e2⟩
  ·rw[e2];exact h
  ·rw[e1] at hne;exact absurd rfl hne
  ·rw[e1] at hne;exact absurd rfl hne
 ·exact h.grant hp1 (M.th x).p ar pr _ ar
theorem free_spec {M:Mc} {n y:Nat} (h:freeOf M n=some y):y<n∧M.S y=0:=by
 refine⟨freeOf_lt h,?_⟩
 unfold freeOf at h
 cases hl:(Gt.pl M.S true n n).head? with
 |none=>grind
 |some z=>
  rw[hl] at h
  injection h with h
  have:=(pl_in n lzr z).1 (List.mem_of_mem_head? hl)
  grind
theorem Iv.begin_ (h:Iv P n B D M) {y p:Nat} (hp:p<P) (hf:freeOf M n=some y) (pg:Int) (lv:Nat) (sv:Int) (hpg:hasPg M pg=true):Iv P n (B+1) D (beginM P n q M y (p:Int) (newTr pg lv sv)):=by
 obtain⟨hy,hy0⟩:=free_spec hf
 unfold hasPg at hpg
 simp only[Bool.and_eq_true,decide_eq_true_eq] at hpg
 obtain⟨k,rfl⟩:=Int.eq_ofNat_of_zero_le hpg.1
 have hk:k<M.pr.length:=by omega
 have hB:=h.more (Nat.le_succ B)
 have hnw:=h.nwh hy (by omega)
 have hni:=h.nin (x:=y) (by omega)
 have hu:=h.uno hy (by omega)
 unfold beginM
 have hS:({allocM M y with th:=upd M.th y {newTr (k:Int) lv sv with p:=(y:Int),g:=M.G y+1}}:Mc).S y=1:=by show upd M.S y 1 y=1;grind[upd]
 have htp:(({allocM M y with th:=upd M.th y {newTr (k:Int) lv sv with p:=(y:Int),g:=M.G y+1}}:Mc).th y)={newTr (k:Int) lv sv with p:=(y:Int),g:=M.G y+1}:=by grind[upd]
 have hGy:({allocM M y with th:=upd M.th y {newTr (k:Int) lv sv with p:=(y:Int),g:=M.G y+1}}:Mc).G y=M.G y+1:=by show upd M.G y _ y=_;grind[upd]
 have kk:=ready_rdd (P:=P) (n:=n) (q:=q) (M:={allocM M y with th:=upd M.th y {newTr (k:Int) lv sv with p:=(y:Int),g:=M.G y+1}}) hy hp h.pl h.kr (.inl hS) (by rw[htp]) (by grind) hni
 refine hB.rdy hy kk rfl rfl rfl (fun v hv e=>⟨?_,?_,?_⟩) ⟨by rw[htp],by grind,⟨k,hk,by rw[htp];rfl⟩,⟨0,by omega,by rw[htp];rfl⟩⟩ (by omega) (by rw[hGy];have:=h.gb y hy;omega) h.tl h.pl (fun _ _=>Iff.rfl) (fun _ _ _=>rfl) hu rfl hnw.1 (fun x=>⟨fun q=>⟨q,fun e=>hnw.2 (e▸q)⟩,fun q=>q.1⟩) h.wt h.nd h.l32
 ·show upd M.S y 1 v=_;grind[upd]
 ·show upd M.G y _ v=_;grind[upd]
 grind[upd]
theorem Iv.spw (h:Iv P n B D M) {pr x:Nat} (hp:pr<P) (l:List Ev) (ar:Int):Iv P n (B+1) D (spwD P n q pr x M l ar).1:=by
 unfold spwD
 cases hc:hasPg M ar with
 |false=>rw[if_pos rfl];exact h.more (Nat.le_succ B)
 |true=>
  rw[if_neg (by simp)]
  cases hf:freeOf M n with
  |none=>exact h.more (Nat.le_succ B)
  |some y=>exact h.begin_ hp hf ar _ (-1) hc
theorem Iv.sleep (h:Iv P n B D M) {pr x:Nat} (hp:pr<P) (hr:(M.pc pr).r=(x:Int)) (k:Nat):Iv P n B D (sleepM n M pr x k):=by
 obtain⟨hx,hx2⟩:=h.run hp hr
 have t0:=h.th x hx (by omega)
 have hu:=h.uno hx (by omega)
 have hnw:=h.nwh hx (by omega)
 have hmv:moveS n M.G M.S (M.th x).p (M.th x).g 4=upd M.S x 4:=by rw[t0.p,t0.g];exact moveS_yes hx (by omega) (by rw[hx2];rfl)
 unfold sleepM slpM
 rw[hmv,t0.p]
 have hno: ∀z∈M.wh,z.i≠x:=fun z hz e=>hnw.1 ⟨z,hz,e⟩
 have hw:Wh.setS n M.wh (x:Int) (Cb.addN M.nw k)=Wh.ins ⟨x,Cb.addN M.nw k⟩ M.wh:=by
  unfold Wh.setS
  have hc:Wh.setC n M.wh (x:Int)=0:=by unfold Wh.setC;rw[if_neg (by omega),Wh.tmOf_none.2 hno];rfl
  grind
 rw[hw]
 refine h.leave (s:=4) hp hx hr (by omega) (by omega) rfl rfl rfl h.tl h.pl h.kr (fun v hv hs=>(h.th v hv (fun e=>hs ?_)).cg rfl rfl rfl) (fun v=>⟨.inr,fun q=>q.elim (fun q=>by omega) id⟩) (fun v hv e=>rfl) ?_ (fun v hv=> ?_) (fun it hit=> ?_) h.wt h.nd h.l32 rfl
 ·show upd M.S x 4 v=0
  grind[upd]
 ·constructor
  ·omega
  ·intro q;exact absurd hu q
 ·constructor
  ·rintro⟨it,hit,e⟩
   rcases Wh.mem_ins.1 hit with q|q
   ·grind
   grind
  ·rintro(⟨e,_⟩|⟨it,hit,e⟩)
   ·exact⟨_,Wh.mem_ins.2 (.inl rfl),e.symm⟩
   ·exact⟨it,Wh.mem_ins.2 (.inr hit),e⟩
 ·rcases Wh.mem_ins.1 hit with q|q
  ·grind
  ·exact h.wl it q
theorem ready_pc (P n q:Nat) (M:Mc) (x:Nat) (p:Int):(ready P n q M x p).pc=M.pc:=by unfold ready ready3 ready2 ready1 settle;grind
theorem ready_G (P n q:Nat) (M:Mc) (x:Nat) (p:Int):(ready P n q M x p).G=M.G:=by unfold ready ready3 ready2 ready1 settle;grind
theorem grM_pc (P n q pr:Nat) (s:Mc×List Ev) (un lk:Int):(grM P n q pr s un lk).1.pc=s.1.pc∧(grM P n q pr s un lk).1.G=s.1.G:=by
 unfold grM
 split
 ·simp
 ·exact⟨ready_pc _ _ _ _ _ _,ready_G _ _ _ _ _ _⟩
theorem rel_keeps (h:Iv P n B D M) (hp1:1≤P) (pr x:Nat): ∀(ls:List Int) (l:List Ev),Iv P n B D (relL P n q pr x M l ls).1∧(relL P n q pr x M l ls).1.pc=M.pc∧(relL P n q pr x M l ls).1.G=M.G:=by
 have key: ∀(ls:List Int) (s:Mc×List Ev),Iv P n B D s.1→Iv P n B D (ls.foldl (rel1 P n q pr x) s).1∧(ls.foldl (rel1 P n q pr x) s).1.pc=s.1.pc∧(ls.foldl (rel1 P n q pr x) s).1.G=s.1.G:=by
  intro ls
  induction ls with
  |nil=>simp
  |cons y ls ih=>
   intro s hs
   rw[List.foldl_cons]
   obtain⟨i1,i2,i3⟩:=ih (rel1 P n q pr x s y) (hs.grant hp1 (x:Int) y pr s.2 y)
   have hk:=grM_pc P n q pr ({s.1 with gr:=(Pi.unlR s.1.gr (x:Int) y).2},s.2) (Pi.unlR s.1.gr (x:Int) y).1.1 y
   exact⟨i1,i2.trans hk.1,i3.trans hk.2⟩
 exact fun ls l=>key ls (M,l) h
theorem Iv.exit_ (h:Iv P n B D M) {pr x g:Nat} (hp:pr<P) (hr:(M.pc pr).r=(x:Int)) (hg:g=M.G x):Iv P n B D (exitN n M pr x g):=by
 obtain⟨hx,hx2⟩:=h.run hp hr
 have hu:=h.uno hx (by omega)
 have hnw:=h.nwh hx (by omega)
 have hrl:relS n M.G M.S (x:Int) g=upd M.S x 0:=by unfold relS;rw[hg,if_pos (hasB_yes hx (by omega))];rfl
 unfold exitN
 rw[hrl]
 refine h.leave (s:=0) hp hx hr (by omega) (by omega) rfl rfl rfl h.tl h.pl h.kr (fun v hv hs=> ?_) (fun v=>⟨.inr,fun q=>q.elim (fun q=>by omega) id⟩) (fun v hv e=>rfl) ?_ (fun v hv=>⟨.inr,fun q=>q.elim (fun q=>by omega) id⟩) h.wl h.wt h.nd h.l32 rfl
 ·have hs':upd M.S x 0 v≠0:=hs
  by_cases e2:v=x
  ·rw[e2,upd_same] at hs';exact absurd rfl hs'
  ·rw[upd_other _ _ _ _ e2] at hs'
   exact(h.th v hv hs').cg (by show upd M.th x noTr v=_;grind[upd]) rfl rfl
 ·constructor
  ·omega
  ·intro q;exact absurd hu q
theorem Iv.ext (h:Iv P n B D M) (hp1:1≤P) {pr x:Nat} (hp:pr<P) (hr:(M.pc pr).r=(x:Int)) (l:List Ev):Iv P n B D (extD P n q pr x M l).1:=by
 obtain⟨hx,hx2⟩:=h.run hp hr
 have t0:=h.th x hx (by omega)
 unfold extD
 obtain⟨i1,i2,i3⟩:=rel_keeps (q:=q) h hp1 pr x (Pi.heldA M.gr.T M.gr.L (x:Int)) (l++[⟨5,(pr:Int),(M.th x).p,(M.th x).g,9,0⟩])
 exact i1.exit_ hp (by grind) (by rw[i3];exact t0.g)
theorem Iv.doD (h:Iv P n B D M) (hp1:1≤P) {pr x:Nat} (hp:pr<P) (hr:(M.pc pr).r=(x:Int)) (l:List Ev) (op ar:Int):Iv P n (B+1) D (Go.Proofs.YtnmhcgpnhlhcgaaGreatDoor.doD P n q pr x M l op ar).1:=by
 have hB: ∀{R:Mc},Iv P n B D R→Iv P n (B+1) D R:=fun i=>i.more (Nat.le_succ B)
 unfold Go.Proofs.YtnmhcgpnhlhcgaaGreatDoor.doD
 split
 ·exact hB (h.lock hp hr l ar)
 ·split
  ·exact hB (h.unl hp1 l ar)
  ·split
   ·exact h.spw hp l ar
   ·split
    ·exact hB (h.sleep hp hr _)
    ·split
     ·exact hB (h.back hp hr)
     ·split
      ·exact hB (h.prio x _)
      ·split
       ·exact hB (h.ext hp1 hp hr l)
       ·exact hB h
theorem Iv.gon (h:Iv P n B D M) (hp1:1≤P) {pr x:Nat} (hp:pr<P) (hr:(M.pc pr).r=(x:Int)) (l:List Ev):Iv P n (B+1) D (gonD P n q pr x M l).1:=by
 unfold gonD
 split
 ·exact h.more (Nat.le_succ B)
 ·exact(h.frm x).doD hp1 hp hr l _ _
end
section
variable {P n q B:Nat} {D:List Nat} {M R:Mc}
theorem held_len (T:List Pi.Th) (L:List Pi.Lk) (t:Int):(Pi.heldA T L t).length≤L.length:=by
 unfold Pi.heldA
 split
 ·unfold Pi.heldOf Pi.heldTo
  grind
 simp
theorem Iv.unl_lt (h:Iv P n B D M) (t m:Int):(Pi.unlR M.gr t m).1.1= -1∨ ∃y:Nat,y<n∧(Pi.unlR M.gr t m).1.1=(y:Int):=by
 rcases unl_ways M.gr t m with ⟨e1,e2⟩|⟨y,hy,e1,e2⟩|⟨y,i,z,hy,hz,e1,e2⟩
 ·omega
 ·grind
 ·exact .inr ⟨z,(h.wt _ y hy z (List.mem_of_getElem? hz)).1,by rw[e1]⟩
theorem rt_at {p:Pm} (h:Ex.Rt p.len p.O p.R) {i:Nat} (hi:i<p.len):Ex.okI p.len (p.O i) (p.R i)=true:=by
 obtain⟨y,h⟩:=h
 rcases h with ⟨_,h2,_⟩|⟨_,_,j,_,_,_,h6,_⟩|⟨_,_,_,_,_,h6,_⟩|⟨_,_,h3,_⟩
 ·cases h2
 ·cases h6
 ·cases h6
 grind
theorem ex_at {p:Pm} (h:Ex.Rt p.len p.O p.R) (ia:Int):(exO p ia=9∧exR p ia=0)∨(Ex.lo (exO p ia)≤exR p ia∧exR p ia≤Ex.hi p.len (exO p ia)):=by
 unfold exO exR Ex.stO Ex.stR
 cases hc:Ex.inP true p.len ia with
 |false=>simp
 |true=>
  right
  rw[if_pos rfl,if_pos rfl]
  unfold Ex.inP at hc
  simp only[Bool.true_and,decide_eq_true_eq] at hc
  have:=rt_at h (i:=ia.toNat) (by omega)
  unfold Ex.okI at this
  grind
theorem ex5 {p:Pm} (h:Ex.Rt p.len p.O p.R) (ia:Int) (e:exO p ia=5):0≤exR p ia∧exR p ia<9223372036854775808:=by
 rcases ex_at h ia with q|⟨q1,q2⟩
 ·omega
 ·rw[e] at q1 q2
  have e1:Ex.lo 5=1:=rfl
  have e2:Ex.hi p.len 5=65536:=rfl
  omega
theorem ex7 {p:Pm} (h:Ex.Rt p.len p.O p.R) (ia:Int) (e:exO p ia=7):0≤exR p ia∧exR p ia<256:=by
 rcases ex_at h ia with q|⟨q1,q2⟩
 ·omega
 ·rw[e] at q1 q2
  have e1:Ex.lo 7=0:=rfl
  have e2:Ex.hi p.len 7=255:=rfl
  omega
theorem exL_lt {p:Pm} (h:Ex.Rt p.len p.O p.R) (ia il:Int) (hl:il<9223372036854775808):exL p ia il<9223372036854775808:=by
 unfold exL Ex.stL
 split
 ·rename_i hc
  unfold Ex.inP at hc
  simp only[Bool.true_and,decide_eq_true_eq] at hc
  have hk:=rt_at h (i:=ia.toNat) (by omega)
  unfold Ex.okI at hk
  simp only[Bool.and_eq_true,decide_eq_true_eq] at hk
  unfold Ex.lfI
  split
  ·rename_i e
   have h2:=hk.2.2
   rw[e,show Ex.hi p.len 1=65536 from rfl] at h2
   omega
  omega
 omega
theorem Iv.stOk (h:Iv P n B D M) (hB:B+1<4294967296) {w:World} {lab:Nat→Nat} {a:Ad} {T:Nat} (i:IsMc w lab a P n q T M) {pr:Nat} (hp:pr<P):StOk P n q pr M:=by
 have hP:=i.hP
 have hpr: ∀x:Nat,(M.pc pr).r=(x:Int)→Ex.Rt (progOf M x).len (progOf M x).O (progOf M x).R:=fun x hr=>by
  obtain⟨hx,hx2⟩:=h.run hp hr
  obtain⟨k,hk,hpg⟩:=(h.th x hx (by omega)).pg
  obtain⟨v,vs,_,hpp⟩:=i.pg
  unfold progOf
  rw[hpg,show((k:Int)).toNat=k by omega,List.getElem?_eq_getElem hk]
  exact hpp.ok _ (List.getElem_mem hk)
 refine⟨?_,fun x hr=> ?_,fun x hr hil=> ?_,fun x hr=> ?_⟩
 ·rcases h.r1 pr hp with q|⟨x,q1,q2,_⟩
  ·omega
  grind
 ·obtain⟨hx,hx2⟩:=h.run hp hr
  exact(h.th x hx (by omega)).pg
 ·obtain⟨hx,hx2⟩:=h.run hp hr
  have hf:=h.frm x
  have t0:=h.th x hx (by omega)
  refine⟨by simp,hp,hx,hr,?_,fun y hy=> ?_,ex5 (hpr x hr) _,ex7 (hpr x hr) _,hf.unl_lt _ _,Nat.le_trans (held_len _ _ _) h.l32,fun l j lk _=> ?_⟩
  ·exact(hf.th x hx (by show M.S x≠0;omega)).p
  ·have:=h.gb y hy
   show M.G y+1<_
   omega
  ·exact(rel_keeps (q:=q) hf hP.1 pr x _ l).1.unl_lt _ _
 ·obtain⟨hx,hx2⟩:=h.run hp hr
  exact exL_lt (hpr x hr) _ _ (i.th.ok x hx).il
theorem Iv.act (h:Iv P n B D M) {w:World} {lab:Nat→Nat} {a:Ad} {T:Nat} (i:IsMc w lab a P n q T M) {pr:Nat} (hp:pr<P) (d:Int) (hpq: ∀M',M'=gvM P n q pr M d→ ∃w O pb T,PQ w O pb n P q T M'.pl):Iv P n (B+1) D (actD P n q pr M d).1:=by
 have hP:=i.hP
 have hg:Iv P n B D (gvM P n q pr M d):=by
  unfold gvM
  split
  ·rename_i hg
   obtain⟨x,hx,hr,_⟩:=(h.r1 pr hp).resolve_left (gives_parts hg).1
   rw[hr,show((x:Int)).toNat=x by omega]
   exact h.back hp hr
  ·exact h
 unfold actD
 split
 ·rename_i hr
  unfold tkD
  split
  ·rename_i hb
   obtain⟨w2,O2,pb2,T2,hq2⟩:=hpq _ rfl
   obtain⟨x,k,hx,hbi,_⟩:=take_iff hq2 hb
   rw[hbi,show((x:Int)).toNat=x by omega]
   exact(hg.disp hq2 hp hr hb hbi).more (Nat.le_succ B)
  ·rename_i hb
   exact(hg.idle (by grind)).more (Nat.le_succ B)
 ·rename_i hr
  have e1:gvM P n q pr M d=M:=by
   unfold gvM
   split
   ·rename_i hg2
    exact absurd (by unfold gvM;rw[if_pos hg2];exact back_r _ _ _ _ _ _) hr
   ·rfl
  rw[e1] at hr
  obtain⟨x,hx,hrx,_⟩:=(h.r1 pr hp).resolve_left hr
  rw[hrx,show((x:Int)).toNat=x by omega]
  exact h.gon hP.1 hp hrx []
theorem Iv.wk1 (h:Iv P n B D M) {p:Nat} (hp:p<P):Iv P n B D (Go.Proofs.YtnmhcgpnhlhcgaaGreatDoor.wk1 M p):=by
 unfold Go.Proofs.YtnmhcgpnhlhcgaaGreatDoor.wk1
 split
 ·exact h
 ·rename_i hr
  obtain⟨x,hx,hrx,_⟩:=(h.r1 p hp).resolve_left hr
  have hf:Iv P n B D (frM M (M.pc p).r.toNat (M.th (M.pc p).r.toNat).ia (tickL (M.th (M.pc p).r.toNat).il)):=h.setTh _ _ rfl rfl rfl rfl
  generalize frM M (M.pc p).r.toNat (M.th (M.pc p).r.toNat).ia (tickL (M.th (M.pc p).r.toNat).il)=N at hf
  have hcr:(countP (N.pc p) N.qu).r=(N.pc p).r:=by unfold countP;grind
  have hcs:(countP (N.pc p) N.qu).s<N.qu:=by
   have:=hf.sl p hp
   have:=hf.qu
   unfold countP
   grind
  have er: ∀p',((upd N.pc p (countP (N.pc p) N.qu)) p').r=(N.pc p').r:=fun p'=>by
   grind[upd]
  refine⟨hf.tl,hf.pl,hf.kr,hf.qu,fun p' hp'=> ?_,fun p' hp'=> ?_,fun y hy h2=> ?_,fun p1 p2 h1 h2 e hne=> ?_,fun y hy hs=>(hf.th y hy hs).cg rfl rfl rfl,hf.st,hf.rd,hf.bl,hf.sp,hf.wl,hf.wt,hf.nd,hf.l32,hf.gb⟩
  ·show((upd N.pc p (countP (N.pc p) N.qu)) p').s<N.qu
   by_cases e:p'=p
   ·grind[upd]
   ·rw[upd_other _ _ _ _ e];exact hf.sl p' hp'
  ·rcases hf.r1 p' hp' with q|⟨x,q1,q2,q3⟩
   ·exact .inl ((er p').trans q)
   ·exact .inr ⟨x,q1,(er p').trans q2,q3⟩
  ·obtain⟨p',q1,q2⟩:=hf.r2 y hy h2
   exact⟨p',q1,(er p').trans q2⟩
  ·have e':((upd N.pc p (countP (N.pc p) N.qu)) p1).r=((upd N.pc p (countP (N.pc p) N.qu)) p2).r:=e
   have hne':((upd N.pc p (countP (N.pc p) N.qu)) p1).r≠ -1:=hne
   rw[er,er] at e'
   rw[er] at hne'
   exact hf.r3 p1 p2 h1 h2 e' hne'
theorem Iv.wkM (h:Iv P n B D M): ∀j,j≤P→Iv P n B D (Go.Proofs.YtnmhcgpnhlhcgaaGreatDoor.wkM M j)
 |0,_=>h
 |j+1,hj=>(Iv.wkM h j (by omega)).wk1 (by omega)
theorem Iv.setSv (h:Iv P n B D M) (sv:List Cb.Srv):Iv P n B D {M with sv:=sv}:=
 ⟨h.tl,h.pl,h.kr,h.qu,h.sl,h.r1,h.r2,h.r3,fun y hy hs=>(h.th y hy hs).cg rfl rfl rfl,h.st,h.rd,h.bl,h.sp,h.wl,h.wt,h.nd,h.l32,h.gb⟩
theorem Iv.tickA (h:Iv P n B [] M):Iv P n B (tickD M) (Go.Proofs.YtnmhcgpnhlhcgaaGreatDoor.tickA M):=by
 refine⟨h.tl,h.pl,h.kr,h.qu,h.sl,h.r1,h.r2,h.r3,fun y hy hs=>(h.th y hy hs).cg rfl rfl rfl,h.st,h.rd,h.bl,fun x hx=> ?_,fun it hit=> ?_,h.wt,h.nd,h.l32,h.gb⟩
 ·rw[show(Go.Proofs.YtnmhcgpnhlhcgaaGreatDoor.tickA M).S x=M.S x from rfl,h.sp x hx]
  unfold Go.Proofs.YtnmhcgpnhlhcgaaGreatDoor.tickA tickD Wh.late Wh.due
  grind
 ·exact h.wl it (List.mem_filter.1 hit).1
theorem Iv.wok (h:Iv P n B D M) (hn:D.Nodup) (hw: ∀x∈D,x<n∧ ¬ ∃it∈M.wh,it.i=x) (l:List Ev):Iv P n B [] (D.foldl (wok1 P n q) (M,l)).1:=by
 induction D generalizing M l with
 |nil=>exact h
 |cons x D ih=>
  rw[List.foldl_cons]
  obtain⟨hx,hxw⟩:=hw x (by simp)
  obtain⟨hxD,hnD⟩:=List.nodup_cons.1 hn
  have hx4:M.S x=4:=(h.sp x hx).2 (.inr (by simp))
  have t0:=h.th x hx (by omega)
  obtain⟨px,hpx,epx⟩:=t0.pc
  have hu:=h.uno hx (by omega)
  have k:=ready_rdd (q:=q) hx hpx h.pl h.kr (.inr (.inr (.inr hx4))) t0.p t0.g (h.nin (by omega))
  have hR:Iv P n B D (ready P n q M x (px:Int)):=h.rdy hx k rfl rfl rfl (fun _ _ _=>⟨rfl,rfl,rfl⟩) t0 (by omega) (h.gb x hx) h.tl h.pl (fun _ _=>Iff.rfl) (fun _ _ _=>rfl) hu rfl hxw (fun y=>⟨fun q=>⟨List.mem_cons_of_mem _ q,fun e=>hxD (e▸q)⟩,fun q=>(List.mem_cons.1 q.1).resolve_left q.2⟩) h.wt h.nd h.l32
  unfold wok1
  dsimp only
  rw[epx]
  exact ih hR hnD (fun y hy=>⟨(hw y (List.mem_cons_of_mem _ hy)).1,by rw[k.wh];grind⟩) _
theorem nodup_inj {α β:Type} {f:α→β}: ∀{l:List α},(l.map f).Nodup→ ∀{a b:α},a∈l→b∈l→f a=f b→a=b
 |[],_,_,_,ha,_,_=>by cases ha
 |x::l,h,a,b,ha,hb,e=>by
  rw[List.map_cons,List.nodup_cons] at h
  rcases List.mem_cons.1 ha with p|p
  ·grind
  ·rcases List.mem_cons.1 hb with q|q
   ·grind
   ·exact nodup_inj h.2 p q e
theorem wkM_wh (M:Mc): ∀j,(wkM M j).wh=M.wh∧(wkM M j).nw=M.nw∧(wkM M j).pr=M.pr∧(wkM M j).S=M.S
 |0=>⟨rfl,rfl,rfl,rfl⟩
 |j+1=>by
  obtain⟨h1,h2,h3,h4⟩:=wkM_wh M j
  have:(wk1 (wkM M j) j).wh=(wkM M j).wh∧(wk1 (wkM M j) j).nw=(wkM M j).nw∧(wk1 (wkM M j) j).pr=(wkM M j).pr∧(wk1 (wkM M j) j).S=(wkM M j).S:=by unfold wk1;split<;>exact⟨rfl,rfl,rfl,rfl⟩
  exact⟨this.1.trans h1,this.2.1.trans h2,this.2.2.1.trans h3,this.2.2.2.trans h4⟩
theorem Iv.tick (h:Iv P n B [] M) (hwn:(M.wh.map (·.i)).Nodup):Iv P n B [] (tickM P n q M):=by
 unfold tickM tickW
 have h1:=(h.tickA.wkM P lzr).setSv ((Go.Proofs.YtnmhcgpnhlhcgaaGreatDoor.wkM (Go.Proofs.YtnmhcgpnhlhcgaaGreatDoor.tickA M) P).sv.map (Cb.refS (Go.Proofs.YtnmhcgpnhlhcgaaGreatDoor.wkM (Go.Proofs.YtnmhcgpnhlhcgaaGreatDoor.tickA M) P).nw))
 refine(Iv.wok (M:=tickR (Go.Proofs.YtnmhcgpnhlhcgaaGreatDoor.wkM (Go.Proofs.YtnmhcgpnhlhcgaaGreatDoor.tickA M) P)) h1 ?_ (fun x hx=>⟨?_,?_⟩) _).settle
 ·unfold tickD Wh.due
  grind
 ·unfold tickD Wh.due at hx
  obtain⟨it,hit,rfl⟩:=List.mem_map.1 hx
  exact h.wl it (List.mem_filter.1 hit).1
 ·rintro⟨it,hit,e⟩
  have hit':it∈(Go.Proofs.YtnmhcgpnhlhcgaaGreatDoor.wkM (Go.Proofs.YtnmhcgpnhlhcgaaGreatDoor.tickA M) P).wh:=hit
  rw[(wkM_wh _ P).1] at hit'
  unfold Go.Proofs.YtnmhcgpnhlhcgaaGreatDoor.tickA Wh.late at hit'
  dsimp only at hit'
  unfold tickD Wh.due at hx
  obtain⟨it2,hit2,e2⟩:=List.mem_map.1 hx
  have q1:=List.mem_filter.1 hit'
  have q2:=List.mem_filter.1 hit2
  have:it=it2:=nodup_inj hwn q1.1 q2.1 (by omega)
  grind
theorem Iv.start (h:Iv P n B D M) (hP:1≤P) {x:Nat} (hf:freeOf M n=some x) (pg:Int) (lv:Nat) (sv:Int) (hno:startNo M pg sv=false):Iv P n (B+1) D (startM P n q M x pg lv sv):=by
 unfold startM
 have hpg:hasPg M pg=true:=by
  unfold startNo at hno
  grind
 exact(h.begin_ (p:=0) (by omega) hf pg lv sv hpg).settle
theorem Iv.load (h:Iv P n B D M) (p:Pm):Iv P n B D {M with pr:=M.pr++[p]}:=by
 refine⟨h.tl,h.pl,h.kr,h.qu,h.sl,h.r1,h.r2,h.r3,fun y hy hs=> ?_,h.st,h.rd,h.bl,h.sp,h.wl,h.wt,h.nd,h.l32,h.gb⟩
 have t:=h.th y hy hs
 obtain⟨k,hk,e⟩:=t.pg
 exact⟨t.p,t.g,⟨k,by grind,e⟩,t.pc⟩
theorem Iv.new (P n m qu ag:Nat) (hm:m≤32) (hq:1≤qu):Iv P n 0 [] (newMc P n m qu ag):=by
 have hL: ∀(j:Nat) y,(newMc P n m qu ag).gr.L[j]? =some y→y.l=[]:=fun j y hy=>by
  have:=List.mem_of_getElem? hy
  have:y∈List.replicate m (⟨-1,[]⟩:Pi.Lk):=this
  grind
 refine⟨List.length_replicate,List.length_replicate,fun y hy=> ?_,hq,fun p _=>hq,fun p _=> .inl rfl,fun x _ h=>(by cases h),fun p p' _ _ _ hne=>absurd rfl hne,fun x _ h=>absurd rfl h,fun x _=>Nat.zero_le _,fun x=> ?_,fun x hx=> ?_,fun x hx=> ?_,fun it hit=>(by cases hit),fun j y hy t ht=> ?_,fun y hy=> ?_,by show(List.replicate m _).length≤32;grind,fun x _=>lzr⟩
 ·have:y∈List.replicate n (⟨Ke.fixK 0,-1⟩:Pi.Th):=hy
  rw[List.eq_of_mem_replicate this]
  rfl
 ·constructor
  ·rintro⟨k,i,X,hX,hm⟩
   have:X∈List.replicate (P+1) ([]:List En):=List.mem_of_getElem? hX
   grind
  ·rintro⟨_,h⟩
   cases h
 ·have e:Uo (newMc P n m qu ag) x=some (-1):=by
   show((List.replicate n (⟨Ke.fixK 0,-1⟩:Pi.Th))[x]?).map (·.u)=_
   grind
  rw[e]
  constructor
  ·intro q;cases q
  simp
 ·constructor
  ·intro q;cases q
  ·rintro(⟨it,hit,_⟩|q)
   ·cases hit
   grind
 ·grind
 ·obtain⟨j,hj⟩:=List.getElem?_of_mem hy
  grind
end
theorem Calls_some {P:Program} {f:FuncId} {args:Array Value} {w:World} {R:Ending→World→Prop} (h:Calls P f args w R): ∃e w',R e w':=by
 obtain⟨e,w',_,hr,_⟩:=h []
 grind
noncomputable def sM (P n q:Nat) (M:Mc) (p d:Int):Mc:=if hasPc P p then stpM P n q p.toNat M d else M
noncomputable def sL (P n q:Nat) (M:Mc) (p d:Int):List Ev:=if hasPc P p then stpL P n q p.toNat M d else []
def sC (P:Nat) (p:Int):Int:=if hasPc P p then 0 else 2
def gC (M:Mc) (n:Nat) (pg sv:Int):Int:=if startNo M pg sv then 2 else match freeOf M n with|none=>4|some _=>0
noncomputable def gM (P n q:Nat) (M:Mc) (pg:Int) (lv:Nat) (sv:Int):Mc:=if startNo M pg sv then M else match freeOf M n with|none=>M|some x=>startM P n q M x pg lv sv
def gL (M:Mc) (n:Nat) (pg sv:Int):List Ev:=if startNo M pg sv then [] else match freeOf M n with|none=>[]|some x=>[⟨9,0,(x:Int),M.G x+1,pg,0⟩]
open Classical in
noncomputable def lM (M:Mc) (p:Pm):Mc:=if Ex.Rt p.len p.O p.R∧M.pr.length<16 then{M with pr:=M.pr++[p]} else M
section
variable {w wr w':World} {lab:Nat→Nat} {a:Ad} {P n q T T' B:Nat} {M M':Mc}
theorem GoesV.nil (h:Goes w w' lab a P n q T M):GoesV w w' lab a P n q T M (.slice none 0 0):=by
 obtain⟨l,h1,h2,h3⟩:=h
 exact⟨l,h1,h2,h3,fun k e=>by cases e⟩
theorem IsMc.stay0 (h:IsMc w lab a P n q T M) (hb:vBw w w') (hT:T≤T'):Goes w w' lab a P n q T' M:=((h.goes).more hb).moreT hT
theorem hasPc_nat {P:Nat} {p:Int} (h:hasPc P p=true): ∃k:Nat,p=(k:Int)∧k<P:=by
 unfold hasPc at h
 simp only[Bool.and_eq_true,decide_eq_true_eq] at h
 obtain⟨k,rfl⟩:=Int.eq_ofNat_of_zero_le h.1
 grind
theorem IsMc.step_all (h:IsMc w lab a P n q T M) (hI:Iv P n B [] M) (hB:B+1<4294967296) (p d:Int) (hd:0≤d∧d<18446744073709551616) (hT:T+tms n≤1000000000):
  vCa 14 #[vPt a.m,vI6 p,vU6 d] w fun e w'=> ∃v,e=vRt #[v,vI6 (sC P p)]∧EvL w' w.heap.size v (sL P n q M p d)∧GoesV w w' lab a P n q (T+tms n) (sM P n q M p d) v:=by
 unfold sC sL sM
 cases hp:hasPc P p with
 |false=>
  refine(h.step_no p d hp).mono ?_
  rintro e w' ⟨rfl,rfl⟩
  exact⟨_,rfl,EvL.nil _ _,GoesV.nil (h.stay0 bzR (by omega))⟩
 |true=>
  obtain⟨k,rfl,hk⟩:=hasPc_nat hp
  rw[if_pos rfl,if_pos rfl,if_pos rfl,show((k:Int)).toNat=k by omega]
  exact h.step_any hk d hd (hI.stOk hB h hk) hT
theorem Iv.step (hI:Iv P n B [] M) (hB:B+1<4294967296) (h:IsMc w lab a P n q T M) (p d:Int) (hd:0≤d∧d<18446744073709551616) (hT:T+n≤1000000000):Iv P n (B+1) [] (sM P n q M p d):=by
 unfold sM
 cases hp:hasPc P p with
 |false=>exact hI.more (Nat.le_succ B)
 |true=>
  obtain⟨k,rfl,hk⟩:=hasPc_nat hp
  rw[if_pos rfl,show((k:Int)).toNat=k by omega]
  unfold stpM
  refine(hI.act h hk d (fun M' hM=> ?_)).settle
  subst hM
  obtain⟨O,hS⟩:=SG.start h k
  obtain⟨e,w2,_,hx⟩:=Calls_some (hS.give_any hk d hd (hI.stOk hB h hk) hT)
  obtain⟨lk,i⟩:=hx.i
  obtain⟨O',hpq,_⟩:=i.pl
  grind
theorem IsMc.start_all (h:IsMc w lab a P n q T M) (hI:Iv P n B [] M) (hB:B+1<4294967296) (pg:Int) (lv:Nat) (hlv:lv<256) (sv:Int) (hT:T+n+1+n≤1000000000):
  vCa 20 #[vPt a.m,vI6 pg,vU8 (lv:Int),vI6 sv] w fun e w'=> ∃v,e=vRt #[v,vI6 (gC M n pg sv)]∧EvL w' w.heap.size v (gL M n pg sv)∧GoesV w w' lab a P n q (T+n+1+n) (gM P n q M pg lv sv) v:=by
 have hG:gok M n:=fun x hx=>by have:=hI.gb x hx;omega
 unfold gC gL gM
 cases hno:startNo M pg sv with
 |true=>
  refine(h.start_no pg (lv:Int) sv hno).mono ?_
  rintro e w' ⟨rfl,rfl⟩
  exact⟨_,rfl,EvL.nil _ _,GoesV.nil (h.stay0 bzR (by omega))⟩
 |false=>
  rw[if_neg (by simp),if_neg (by simp),if_neg (by simp)]
  cases hf:freeOf M n with
  |none=>
   refine(h.start_full hG pg lv sv hno hf).mono ?_
   rintro e w' ⟨rfl,hb⟩
   exact⟨_,rfl,EvL.nil _ _,GoesV.nil (h.stay0 hb (by omega))⟩
  |some x=>exact h.start_yesV hT hG pg lv hlv sv hno x hf
theorem Iv.startAll (hI:Iv P n B [] M) (hP:1≤P) (pg:Int) (lv:Nat) (sv:Int):Iv P n (B+1) [] (gM P n q M pg lv sv):=by
 unfold gM
 cases hno:startNo M pg sv with
 |true=>exact hI.more (Nat.le_succ B)
 |false=>
  rw[if_neg (by simp)]
  cases hf:freeOf M n with
  |none=>exact hI.more (Nat.le_succ B)
  |some x=>exact hI.start hP hf pg lv sv hno
theorem IsMc.load_all (h:IsMc w lab a P n q T M) (h16:M.pr.length≤16) (ap:Option Addr) (len cap:Nat) (hlen:len<9223372036854775808) (O R:Nat→Int) (hp:Ex.Prg w ap len O R):
  vCa 18 #[vPt a.m,.slice ap len cap] w fun e w'=>(∃x y:Int,e=vRt #[vI6 x,vI6 y])∧Goes w w' lab a P n q T (lM M ⟨len,O,R⟩):=by
 unfold lM
 by_cases hr:Ex.Rt len O R
 ·by_cases hl:M.pr.length<16
  ·rw[if_pos ⟨hr,hl⟩]
   exact(h.load_yes ap len cap O R hp hr hl).mono (fun e w' hq=>⟨⟨_,_,hq.1⟩,hq.2⟩)
  ·rw[if_neg (fun q=>hl q.2)]
   exact(h.load_full ap len cap O R hp hr (by omega)).mono (fun e w' hq=>⟨⟨_,_,hq.1⟩,h.stay0 hq.2 lzr⟩)
 ·rw[if_neg (fun q=>hr q.1)]
  obtain⟨x,y,hc⟩:=Ex.chk_total len O R
  have hx:x≠0:=fun e=>hr ⟨y,by rw[←e];exact hc⟩
  exact(h.load_bad ap len cap hlen O R hp hc hx).mono (fun e w' hq=>⟨⟨_,_,hq.1⟩,h.stay0 hq.2 lzr⟩)
theorem Iv.loadAll (hI:Iv P n B [] M) (p:Pm):Iv P n B [] (lM M p):=by
 unfold lM
 split
 ·exact hI.load p
 ·exact hI
theorem Iv.rok (hI:Iv P n B [] M):Rok P n M:=⟨fun p hp=>by rcases hI.r1 p hp with q|⟨x,q1,q2,_⟩;exact .inl q;grind,hI.sl⟩
end
structure One (P n B s:Nat) (M:Mc):Prop where
 iv:Iv P n B [] M
 s0:M.S 0=s
 so: ∀x,0<x→x<n→M.S x=0
 sv:M.sv=[]
 pc:(M.th 0).pc=0
section
variable {P n q B s:Nat} {M:Mc}
theorem One.noent (h:One P n B s M) (hs:s≠1): ∀z,¬Ent M.pl z:=fun z hz=>by
 obtain⟨hn,h1⟩:=(h.iv.rd z.1).1 ⟨z.2,hz⟩
 by_cases e:z.1=0
 ·rw[e,h.s0] at h1;omega
 ·rw[h.so z.1 (by omega) hn] at h1;cases h1
theorem One.bbno (h:One P n B s M) (hs:s≠1) {w:World} {O:Nat→Prop} {pb T:Nat} (hpq:PQ w O pb n P q T M.pl) (p d:Int):(bb P (gh M.pl) p d).isSome=false:=by
 cases hb:(bb P (gh M.pl) p d).isSome with
 |false=>rfl
 |true=>
  obtain⟨x,k,_,_,he,_⟩:=take_iff hpq hb
  exact absurd he (h.noent hs _)
theorem one_start (P n q m qu ag:Nat) (p:Pm) (hP:1≤P) (hn:1≤n) (hm:m≤32) (hq:1≤qu) (lv:Nat) {M0:Mc} (e0:M0={newMc P n m qu ag with pr:=[p]}):
  (startNo M0 0 (-1)=false∧freeOf M0 n=some 0)∧One P n 1 1 (startM P n q M0 0 0 lv (-1))∧(startM P n q M0 0 0 lv (-1)).wh=[]∧(startM P n q M0 0 0 lv (-1)).nw=0∧(startM P n q M0 0 0 lv (-1)).pr=[p]∧(((startM P n q M0 0 0 lv (-1)).th 0).pg=0∧((startM P n q M0 0 0 lv (-1)).th 0).ia=0∧((startM P n q M0 0 0 lv (-1)).th 0).il=0)∧ ∀p,((startM P n q M0 0 0 lv (-1)).pc p).r= -1:=by
 have hI0:Iv P n 0 [] M0:=by rw[e0];exact(Iv.new P n m qu ag hm hq).load p
 have hno:startNo M0 0 (-1)=false:=by rw[e0];rfl
 have hf:freeOf M0 n=some 0:=freeOf_at (by omega) (fun x hx=>absurd hx (by omega)) (by rw[e0];rfl)
 have hI1:=hI0.start (q:=q) hP hf 0 lv (-1) hno
 have k:Rdd n {allocM M0 0 with th:=upd M0.th 0 {newTr 0 lv (-1) with p:=((0:Nat):Int),g:=M0.G 0+1}} (ready P n q {allocM M0 0 with th:=upd M0.th 0 {newTr 0 lv (-1) with p:=((0:Nat):Int),g:=M0.G 0+1}} 0 ((0:Nat):Int)) 0:=by
  refine ready_rdd (p:=0) (by omega) (by omega) hI0.pl hI0.kr (.inl ?_) ?_ ?_ ?_
  ·rfl
  ·rfl
  ·rfl
  ·exact hI0.nin (by rw[e0];exact(by decide:(0:Nat)≠1))
 have kd:=settle_kd (ready P n q {allocM M0 0 with th:=upd M0.th 0 {newTr 0 lv (-1) with p:=((0:Nat):Int),g:=M0.G 0+1}} 0 ((0:Nat):Int)) n
 have e2:startM P n q M0 0 0 lv (-1)=settle (ready P n q {allocM M0 0 with th:=upd M0.th 0 {newTr 0 lv (-1) with p:=((0:Nat):Int),g:=M0.G 0+1}} 0 ((0:Nat):Int)) n:=rfl
 have hth:(startM P n q M0 0 0 lv (-1)).th 0={newTr 0 lv (-1) with p:=((0:Nat):Int),g:=M0.G 0+1,sn:=M0.nw,lf:=0}:=by
  rw[e2,kd.th,k.th,upd_same]
  rfl
 refine⟨⟨hno,hf⟩,⟨hI1,?_,fun x h0 hx=> ?_,?_,by rw[hth];rfl⟩,?_,?_,?_,⟨by rw[hth];rfl,by rw[hth];rfl,by rw[hth];rfl⟩,fun p=> ?_⟩
 ·rw[e2,kd.S,k.S,upd_same]
 ·rw[e2,kd.S,k.S,upd_other _ _ _ _ (by omega)]
  show upd M0.S 0 1 x=0
  rw[upd_other _ _ _ _ (by omega),e0]
  rfl
 ·rw[e2,kd.sv,k.sv]
  show(if upd M0.S 0 1 0=2 then M0.sv else Cb.wakL M0.sv _ _)=[]
  rw[upd_same,if_neg (by decide),e0]
  rfl
 ·rw[e2,kd.wh,k.wh,e0];rfl
 ·rw[e2,kd.nw,k.nw,e0];rfl
 ·rw[e2,kd.pr,k.pr,e0];rfl
 ·rw[e2,kd.pc,k.pc,e0];rfl
theorem One.bbyes (h:One P n B 1 M) (hP:1≤P) (hn:1≤n) {w:World} {O:Nat→Prop} {pb T:Nat} (hpq:PQ w O pb n P q T M.pl) (d:Int):
  (bb P (gh M.pl) ((0:Nat):Int) d).isSome=true∧bI (gh M.pl) (bb P (gh M.pl) ((0:Nat):Int) d)=((0:Nat):Int):=by
 have hb:(bb P (gh M.pl) ((0:Nat):Int) d).isSome=true:=by
  cases hb:(bb P (gh M.pl) ((0:Nat):Int) d).isSome with
  |true=>rfl
  |false=>
   obtain⟨k,hk⟩:=(h.iv.rd 0).2 ⟨by omega,h.s0⟩
   exact absurd hk (take_none h.iv.pl ⟨by omega,by omega⟩ hb _)
 obtain⟨x,k,hx,hbi,hent,_⟩:=take_iff hpq hb
 have hx0:x=0:=by
  have h1:=((h.iv.rd x).1 ⟨k,hent⟩).2
  rcases Nat.eq_zero_or_pos x with q|q
  ·exact q
  ·rw[h.so x q hx] at h1;cases h1
 grind
theorem One.disp (h:One P n B 1 M) (hP:1≤P) (hn:1≤n) {w:World} {O:Nat→Prop} {pb T:Nat} (hpq:PQ w O pb n P q T M.pl) (hr:(M.pc 0).r= -1) (d:Int) {N:Mc} (e:N=settle (dispM P n M 0 0 d) n):
  One P n B 2 N∧N.wh=M.wh∧N.nw=M.nw∧N.pr=M.pr∧((N.th 0).pg=(M.th 0).pg∧(N.th 0).ia=(M.th 0).ia∧(N.th 0).il=(M.th 0).il)∧(N.pc 0).r=0:=by
 obtain⟨hb,hbi⟩:=h.bbyes hP hn hpq d
 have hI:Iv P n B [] N:=by rw[e];exact(h.iv.disp hpq (by omega) hr hb hbi).settle
 have t0:=h.iv.th 0 (by omega) (by rw[h.s0];decide)
 have hmv:(dispM P n M 0 0 d).S=upd M.S 0 2:=by
  show moveS n M.G M.S (M.th 0).p (M.th 0).g 2=_
  rw[t0.p,t0.g]
  exact moveS_yes (by omega) (by rw[h.s0];decide) (by rw[h.s0];rfl)
 have kd:=settle_kd (dispM P n M 0 0 d) n
 have hth:N.th 0={M.th 0 with pc:=((0:Nat):Int),lf:=(agedOf M (M.th 0)).toNat}:=by
  rw[e,kd.th]
  rfl
 refine⟨⟨hI,?_,fun x h0 hx=> ?_,by rw[e,kd.sv];exact h.sv,by grind⟩,by rw[e,kd.wh];rfl,by rw[e,kd.nw];rfl,by rw[e,kd.pr];rfl,⟨by rw[hth],by rw[hth],by rw[hth]⟩,?_⟩
 ·rw[e,kd.S,hmv,upd_same]
 ·rw[e,kd.S,hmv,upd_other _ _ _ _ (by omega)]
  exact h.so x h0 hx
 ·rw[e,kd.pc]
  rfl
end
end Go.Proofs.YtnmhcgpnhlhcgaaGreatDoor
namespace Go.Proofs.YtnmhcgpnhlhcgaaGreatDoor
open Go.RowKit Go.Lib Go.Shelf
attribute [local go_sem ↓] Go.wp_at_zero Go.wp_at_succ
theorem startM_L (P n q:Nat) (M:Mc) (x:Nat) (pg:Int) (lv:Nat) (sv:Int):(startM P n q M x pg lv sv).gr.L=M.gr.L:=by
 unfold startM
 rw[settle_L]
 show(ready3 n _ x).gr.L=_
 unfold ready3
 rw[settle_L]
 unfold ready2 ready1 allocM
 grind
section
variable {w wr w':World} {ad:Ad} {P n q T T' B:Nat} {M M':Mc} {K:Nat→Prop}
theorem AlK.dispO (h:AlK w wr ad P n q T M K) (ho:One P n B 1 M) (hr:(M.pc 0).r= -1) (d:Int) (hd:0≤d∧d<18446744073709551616) (hT:T≤100000):
  vCa 14 #[vPt ad.m,vI6 0,vU6 d] wr fun e w'=> ∃v ev,e=vRt #[v,vI6 0]∧EvL w' wr.heap.size v [ev]∧ev.k=3∧(AlK w w' ad P n q (T+1+n) (settle (dispM P n M 0 0 d) n) (fun k=>K k∨v.ownBlock=some k)∧ ∀k,K k→w'.heap[k]? =wr.heap[k]?):=by
 obtain⟨O,hq⟩:=h.pq
 have hn:=hq.n1
 have hk:0<P:=hq.np1.1
 obtain⟨hb,hbi⟩:=ho.bbyes hk hn.1 hq d
 have:=h.call (R:=fun e w' v=>e=vRt #[v,vI6 0]) (fun lab hi=>(hi.step_ofV (pr:=0) (T':=T+1) hk d (by omega) (fun W1 O hs=>act_takes (P1:=fun V=>SX wr W1 V lab ad P n q T M wr.heap.size 0 [] O) (hs.sx.giveWay_not hk d hd (.inl hr)) (fun V hV=>hV.takeOne_takes (by simp) hk d hd hr hb 0 (by omega) hbi))).mono (fun e w' ⟨v,he,hev,g⟩=>⟨v,he,hev,g⟩))
 refine this.mono ?_
 grind
theorem AlK.exitO (h:AlK w wr ad P n q T M K) (ho:One P n B 2 M) (hr:(M.pc 0).r=0) (p:Pm) (hpr:M.pr=[p]) (hf:(M.th 0).pg=0∧(M.th 0).ia=0∧(M.th 0).il=0) (hL: ∀y∈M.gr.L,y.h= -1) (hp0:0<p.len) (hO:p.O 0=9) (d:Int) (hd:0≤d∧d<18446744073709551616) (hT:T≤100000):
  vCa 14 #[vPt ad.m,vI6 0,vU6 d] wr fun e w'=> ∃v M' e1 e2,e=vRt #[v,vI6 0]∧EvL w' wr.heap.size v [e1,e2]∧e1.k=5∧e2.k=10∧(AlK w w' ad P n q (T+n) M' (fun k=>K k∨v.ownBlock=some k)∧ ∀k,K k→w'.heap[k]? =wr.heap[k]?):=by
 obtain⟨O,hq⟩:=h.pq
 have hn:=hq.n1
 have hk:0<P:=hq.np1.1
 have hx:0<n:=hn.1
 have hb:=ho.bbno (by decide) hq ((0:Nat):Int) d
 have t0:=ho.iv.th 0 (by omega) (by rw[ho.s0];decide)
 obtain⟨hpg,hia,hil⟩:=hf
 have eO:exO p 0=9:=by unfold exO Ex.stO Ex.inP;grind
 have hlt:exL p 0 0<9223372036854775808:=by
  have:exL p 0 0=0:=by
   unfold exL Ex.stL Ex.lfI
   grind
  omega
 have:=h.call (R:=fun e w' v=>e=vRt #[v,vI6 0]) (fun lab hi=>(hi.step_ofV (pr:=0) (T':=T) (M':=exitM n (frM M 0 (exN p 0) (exL p 0 0)) 0 0) (l:=[⟨5,((0:Nat):Int),(M.th 0).p,(M.th 0).g,9,0⟩]++[⟨10,((0:Nat):Int),((0:Nat):Int),((frM M 0 (exN p 0) (exL p 0 0)).th 0).g,0,0⟩]) hk d (by omega) (fun W1 O hs=>act_all (P1:=fun V=>SX wr W1 V lab ad P n q T M wr.heap.size 0 [] O) (P2:=fun V=>SX wr W1 V lab ad P n q T M wr.heap.size 0 [] O) (hs.sx.giveWay_not hk d hd (.inr hb)) (fun V hV=>hV.takeOne_runs hk d (by omega)) (fun V hV=>by
   have hg:=hV.goOn_of (ok:=true) (bz:=false) (by simp) hk 0 hx hr 0 p (by grind) (by omega) 9 (exR p 0) (exN p 0) (exL p 0 0) hlt T (exitM n (frM M 0 (exN p 0) (exL p 0 0)) 0 0) ([⟨5,((0:Nat):Int),(M.th 0).p,(M.th 0).g,9,0⟩]++[⟨10,((0:Nat):Int),((0:Nat):Int),((frM M 0 (exN p 0) (exL p 0 0)).th 0).g,0,0⟩]) (fun ap cap V' hp hrt hbl=>by
    have:=exec_ok (cap:=cap) hp hrt 0 0 (by decide) V' hbl
    rw[eO] at this
    rw[hia,hil]
    exact this) (fun q=>by cases q) (fun _ V' O' hs'=>by
    have eth:((frM M 0 (exN p 0) (exL p 0 0)).th 0).p=(M.th 0).p∧((frM M 0 (exN p 0) (exL p 0 0)).th 0).g=(M.th 0).g:=by unfold frM;grind[upd]
    have he:=hs'.do_exit (by simp) 0 hx (exR p 0) (T':=T) (M':=exitM n (frM M 0 (exN p 0) (exL p 0 0)) 0 0) (l':=[⟨5,((0:Nat):Int),(M.th 0).p,(M.th 0).g,9,0⟩]++[⟨10,((0:Nat):Int),((0:Nat):Int),((frM M 0 (exN p 0) (exL p 0 0)).th 0).g,0,0⟩]) (fun W0 V'' hV''=>hV''.call (R:=fun e=>e=vRt #[]) (fun O'' s''=>by
     have:=s''.exit_none (by simp) hk 0 hx (by rw[eth.1,t0.p]) (held_nil hL 0)
     rw[eth.1,t0.p,eth.2] at this⊢
     exact this))
    exact he)
   exact hg))).mono (fun e w' ⟨v,he,hev,g⟩=>⟨v,he,hev,g⟩))
 refine this.mono ?_
 grind
end
def Lv1 (M:Mc):Prop:=One 1 2 1 1 M∧M.pr=[⟨1,xO,xR⟩]∧((M.th 0).pg=0∧(M.th 0).ia=0∧(M.th 0).il=0)∧(M.pc 0).r= -1∧ ∀y∈M.gr.L,y.h= -1
def Lv2 (M:Mc):Prop:=One 1 2 1 2 M∧M.pr=[⟨1,xO,xR⟩]∧((M.th 0).pg=0∧(M.th 0).ia=0∧(M.th 0).il=0)∧(M.pc 0).r=0∧ ∀y∈M.gr.L,y.h= -1
theorem live1_ok (w:World) (ht:Gt.Tab w):vQ 21 #[] w (.bool true):=by
 have HN:Hid (vCa 11 #[.agg #[vI6 1,vI6 2,vI6 2,vI6 1,vU6 4,vU6 9]] w fun e w'=> ∃a,e= .returned (vPt a.m)∧Al w w' a 1 2 2 0 (newMc 1 2 1 4 9)):=new_al 1 2 2 1 4 9 (by decide) (by decide) (by decide) (by decide) (by decide) (by decide) w ht
 have HL:Hid (∀V ad,Al w V ad 1 2 2 0 (newMc 1 2 1 4 9)→vCa 18 #[vPt ad.m,.slice (some (vA0 V.heap.size)) 1 1] (V.alloc (.cells #[vI6 9,vI6 0] 83)) fun e w'=>e=vRt #[vI6 0,vI6 0]∧Al w w' ad 1 2 2 0 {newMc 1 2 1 4 9 with pr:=[⟨1,xO,xR⟩]}):=fun V ad h=>(h.below ((Below.refl V.heap.size V).alloc lzr _)).load_yes (some (vA0 V.heap.size)) 1 1 xO xR (x_prg V) x_rt (by show 0<16;decide)
 have HS:Hid (∀V ad,Al w V ad 1 2 2 0 {newMc 1 2 1 4 9 with pr:=[⟨1,xO,xR⟩]}→vCa 20 #[vPt ad.m,vI6 0,vU8 5,vI6 (-1)] V fun e w'=> ∃b c M',e=vRt #[.slice (some (vA0 b)) 1 c,vI6 0]∧w'.cell? (vA0 b)=some (vI6 9)∧AlK w w' ad 1 2 2 5 M' (fun k=>k=b)∧Lv1 M'):=fun V ad h=>by
  obtain⟨⟨hno,hf⟩,o1,_,_,o4,o5,o6⟩:=one_start 1 2 2 1 4 9 ⟨1,xO,xR⟩ (by decide) (by decide) (by decide) (by decide) 5 rfl
  have:=h.k.call (R:=fun e w' v=>e=vRt #[v,vI6 0]) (fun lab hi=>(hi.start_yesV (by decide) (fun x _=>(by decide:0+1<4294967296)) 0 5 (by decide) (-1) hno 0 hf).mono (fun e w' ⟨v,he,hv,g⟩=>⟨v,he,hv,g⟩))
  refine this.mono ?_
  rintro e w' ⟨v,rfl,hev,⟨hA,_⟩⟩
  obtain⟨b,c,rfl,hc⟩:=hev.at (i:=0) rfl
  exact⟨b,c,_,rfl,hc,hA.less (fun k hk=> .inr (by rw[hk];rfl)),o1,o4,o5,o6 0,fun y hy=>by
   rw[startM_L] at hy
   have:y∈List.replicate 1 (⟨-1,[]⟩:Pi.Lk):=hy
   rw[List.eq_of_mem_replicate this]⟩
 have HD:Hid (∀V ad M b,AlK w V ad 1 2 2 5 M (fun k=>k=b)→Lv1 M→V.cell? (vA0 b)=some (vI6 9)→vCa 14 #[vPt ad.m,vI6 0,vU6 0] V fun e w'=> ∃b2 c2 M',e=vRt #[.slice (some (vA0 b2)) 1 c2,vI6 0]∧w'.cell? (vA0 b2)=some (vI6 3)∧AlK w w' ad 1 2 2 8 M' (fun k=>k=b∨k=b2)∧Lv2 M'∧w'.cell? (vA0 b)=some (vI6 9)):=fun V ad M b h ⟨o1,o2,o3,o4,o5⟩ hc9=>by
  obtain⟨O,hpq⟩:=h.pq
  obtain⟨p1,_,_,p4,p5,p6⟩:=o1.disp (by decide) (by decide) hpq o4 0 rfl
  refine(h.dispO o1 o4 0 (by decide) (by decide)).mono ?_
  rintro e w' ⟨v,ev,rfl,hev,hk,⟨hA,hkp⟩⟩
  obtain⟨b2,c2,rfl,hc⟩:=hev.at (i:=0) rfl
  rw[hk] at hc
  exact⟨b2,c2,_,rfl,hc,hA.less (fun k hk=>hk.imp id (fun q=>by rw[q];rfl)),⟨p1,p4.trans o2,⟨p5.1.trans o3.1,p5.2.1.trans o3.2.1,p5.2.2.trans o3.2.2⟩,p6,fun y hy=>o5 y (by rw[settle_L] at hy;exact hy)⟩,(World.cell?_of_block (hkp b rfl)).trans hc9⟩
 have HE:Hid (∀V ad M b b2,AlK w V ad 1 2 2 8 M (fun k=>k=b∨k=b2)→Lv2 M→V.cell? (vA0 b)=some (vI6 9)→V.cell? (vA0 b2)=some (vI6 3)→vCa 14 #[vPt ad.m,vI6 0,vU6 0] V fun e w'=> ∃b3 c3,e=vRt #[.slice (some (vA0 b3)) 2 c3,vI6 0]∧w'.cell? (vAt b3 6)=some (vI6 10)∧w'.cell? (vA0 b)=some (vI6 9)∧w'.cell? (vA0 b2)=some (vI6 3)∧vBw w w'):=fun V ad M b b2 h ⟨o1,o2,o3,o4,o5⟩ hc9 hc3=>by
  refine(h.exitO o1 o4 ⟨1,xO,xR⟩ o2 o3 o5 (by decide) rfl 0 (by decide) (by decide)).mono ?_
  rintro e w' ⟨v,M',e1,e2,rfl,hev,_,hk,⟨hA,hkp⟩⟩
  obtain⟨b3,c3,rfl,hc⟩:=hev.at (i:=1) rfl
  rw[hk] at hc
  exact⟨b3,c3,rfl,hc,(World.cell?_of_block (hkp b (.inl rfl))).trans hc9,(World.cell?_of_block (hkp b2 (.inr rfl))).trans hc3,hA.bel⟩
 clear ht
 refine ge ?_
 go_wp2_with (first
  |(go_at_call 11;refine(HN.out).mono ?_;rintro e w1 ⟨ad,rfl,hA⟩;have HA:=veil hA;clear hA)
  |(go_at_call 18;refine cH (HL.out _ ad HA.out) fun w2 HA2=> ?_)
  |(go_at_call 20;refine(HS.out _ ad HA2.out).mono ?_;rintro e w3 ⟨b,c,M3,rfl,hc9,hA3,hR3⟩;have HA3:=veil hA3;have HR3:=veil hR3;have HC9:=veil hc9;clear hA3 hR3 hc9)
  |(go_at_call 14;refine(HD.out w3 ad M3 b HA3.out HR3.out HC9.out).mono ?_;rintro e w4 ⟨b2,c2,M4,rfl,hc3,hA4,hR4,hc9⟩;have HA4:=veil hA4;have HR4:=veil hR4;have HC9b:=veil hc9;have HC3:=veil hc3;clear hA4 hR4 hc9 hc3)
  |(go_at_call 14;refine(HE.out w4 ad M4 b b2 HA4.out HR4.out HC9b.out HC3.out).mono ?_;rintro e w5 ⟨b3,c3,rfl,hc10,hc9,hc3,hbel⟩;have HBL:=veil hbel;clear hbel))
 go_ret
 exact⟨rfl,HBL.out⟩
end Go.Proofs.YtnmhcgpnhlhcgaaGreatDoor
namespace Go.Proofs.YtnmhcgpnhlhcgaaGreatDoor
open Go.RowKit
section
variable {P n q B:Nat} {D:List Nat} {G:List (List En)} {M:Mc}
theorem pl_nd2 {S:Nat→Nat} {fr:Bool} {n:Nat}: ∀k,k≤n→(Gt.pl S fr n k).Nodup
 |0,_=>by simp[Gt.pl]
 |k+1,hk=>by
  by_cases hs:(S k==0)=fr
  ·rw[Gt.pl_yes (by omega) hs,List.nodup_append]
   refine⟨pl_nd2 k (by omega),by simp,fun a ha b hb e=> ?_⟩
   simp at hb
   subst hb e
   have:=((pl_in k (by omega) _).1 ha).1
   grind
  ·rw[Gt.pl_no hs];exact pl_nd2 k (by omega)
theorem live_nd (M:Mc) (n:Nat):(liveL M n).Nodup:=by
 unfold liveL
 exact List.Pairwise.map _ (fun (a b:Fin n) (h:a≠b) e=>h (Fin.ext e)) (pl_nd2 n lzr)
end
end Go.Proofs.YtnmhcgpnhlhcgaaGreatDoor
