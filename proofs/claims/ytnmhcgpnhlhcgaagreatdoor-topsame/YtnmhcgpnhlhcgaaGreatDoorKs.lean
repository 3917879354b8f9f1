/- YtnmhcgpnhlhcgaaGreatDoorKs: of the texts Bb1 Bb2 Bb3 Bb4 Bb5 Bb6 Bb7 Bd1 Bd2 Bd3 Be1 Be2 Be3 Ca1 Bf8 Bf9 Bg1 Bg2 Bg3 Bg4 Bg5 Bg6 Bg7 Bg8 Bg9 Bi2 Bi1 Bj1 Bj2 Bj3 Bj4 Bj5 Bl1 what is wanted. -/
import Derived.Test.YtnmhcgpnhlhcgaaGreatDoorK0
import Derived.Test.YtnmhcgpnhlhcgaaGreatDoorKq
import Derived.ProofKit
import Derived.OpenShut
import Derived.Deep.Slices
import Derived.Deep.Strs
import Derived.ChangeOld
import Derived.ChangeSame
import Derived.Test.YtnmhcgpnhlhcgaaGreatDoorKt
import Derived.Test.YtnmhcgpnhlhcgaaGreatDoorKl
set_option maxHeartbeats 16000000
set_option maxRecDepth 100000
set_option linter.unusedVariables false
set_option linter.defProp false
set_option linter.unusedSimpArgs false
namespace Go.Proofs.YtnmhcgpnhlhcgaaGreatDoor
open Go.RowKit Go.Lib
theorem qq {a b c:Ke.K} (h:Ke.up a b=false) (k:Ke.up b c=false):Ke.up a c=false:=by
 grind[Ke.up]
theorem Ma {a b:Ke.K} (h:Ke.up a b=true):Ke.up b a=false:=by
 grind[Ke.up]
def IC (a:Ke.K):Ke.up a a=false:=by simp[Ke.up]
def zL (H:List Hd): ∀(l:List Nat) (b:Option Nat),(∀a,b=some a-> ∃c,l.foldl (dL H) b=some c/\Ke.up (oK (MM H a)) (oK (MM H c))=false)/\ ∀x∈l,∀y M,MM H x=y::M-> ∃c,l.foldl (dL H) b=some c/\Ke.up y.2 (oK (MM H c))=false
 |[],b=>⟨fun a e=>⟨a,e,IC _⟩,fun x f=>by cases f⟩
 |x::l,b=>by
  have A: ∀a,b=some a-> ∃d,dL H b x=some d/\Ke.up (oK (MM H a)) (oK (MM H d))=false:=by
   grind[dL,oK,Ma]
  have B: ∀y M,MM H x=y::M-> ∃d,dL H b x=some d/\Ke.up y.2 (oK (MM H d))=false:=by
   grind[dL,Ke.up,oK]
  obtain⟨h,g⟩:=zL H l (dL H b x)
  refine⟨fun a e=> ?_,fun z hz y M i=> ?_⟩
  ·grind[qq]
  ·rcases List.mem_cons.1 hz with rfl|hz
   ·grind[qq]
   grind
def F7 {np p d x:Nat} (b:p<np) (a:x<=np):x∈gy np p d:=by
 unfold gy gD
 by_cases g:x=p
 ·grind
 by_cases f:x=np
 ·grind
 refine List.mem_cons_of_mem _ (List.mem_cons_of_mem _ (List.mem_filter.2 ⟨List.mem_map.2 ⟨(x+2*np-(p+1+d%np))%np,List.mem_range.2 (Nat.mod_lt _ z_),?_⟩,y_⟩))
 unfold qY
 have c:d%np<np:=Nat.mod_lt _ z_
 rw[Nat.add_mod_mod]
 have e:p+1+d%np+(x+2*np-(p+1+d%np))=x+np*2:=z_
 rw[e,Nat.add_mul_mod_self_left]
 exact Nat.mod_eq_of_lt z_
def MC (G:List (List En)) (c:Nat) (M:List En):gh (G.set c M)=(gh G).set c ⟨0,0,0,0,0,0,M⟩:=by unfold gh;simp
def sI {G:List (List En)} {c:Nat} {x:Hd} (h:(gh G)[c]? =some x):G[c]? =some x.M:=by
 grind[sA,fy]
section
variable {w:World} {O:Nat->Prop} {b n a q T:Nat} {G:List (List En)}
theorem PQ.nd (h:PQ w O b n a q T G) {c:Nat} {x:Hd} (d:(gh G)[c]? =some x):(x.M.map (·.1)).Nodup/\(∀y∈x.M,y.1<n)/\ ∀y∈x.M,Ke.aN y.2=true:=by
 obtain⟨g,f,_,e⟩:=h.at (sI d)
 grind
def PQ.PY (h:PQ w O b n a q T G) {p d:Int} {c:Nat} (o:bb a (gh G) p d=some c): ∃z:En,bI (gh G) (some c)=(z.1:Int)/\bK (gh G) (some c)=z.2/\z.1<n/\aV n (gh (iw a (gh G) p d)) 0 (z.1:Int)=none/\dR (gh (iw a (gh G) p d))+1=dR (gh G):=by
 obtain⟨_,_,x,z,M',e,i⟩:=wS o
 obtain⟨l,k,_⟩:=h.nd e
 have s:bI (gh G) (some c)=(z.1:Int):=by show KE (MM (gh G) c)=_;rw[eR e,i];rfl
 have r:bK (gh G) (some c)=z.2:=by show oK (MM (gh G) c)=_;rw[eR e,i];rfl
 have m:iw a (gh G) p d=G.set c M':=by grind[iw,fy,eR]
 have f:cut z.1 x.M=M':=by grind[qB]
 have g:(keyOf x.M z.1).isSome=true:=by rw[jY];grind
 rw[m,MC]
 obtain⟨_,j⟩:=rM (n:=n) (y:=⟨0,0,0,0,0,0,M'⟩) h.un e (id:=z.1) f.symm g
 have t:=iX (y:=⟨0,0,0,0,0,0,M'⟩) e
 refine⟨z,s,r,y_,?_,?_⟩
 ·rw[j]
  unfold dJ
  simp
 grind
end
def AP {G:List (List En)} {i:Nat} {M:List En} (h:G[i]? =some M):(gh G)[i]? =some ⟨0,0,0,0,0,0,M⟩:=by unfold gh;grind
theorem JP {np:Nat} {G:List (List En)} {p d:Int} {c:Nat} (k:G.length=np+1) (e:bb np (gh G) p d=some c) {i:Nat} {y:En} {M:List En} (f:G[i]? =some (y::M)):Ke.up y.2 (oK (MM (gh G) c))=false:=by
 obtain⟨j,h,_⟩:=wS e
 have a:i<=np:=y_
 obtain⟨_,b⟩:=zL (gh G) (gy np p.toNat d.toNat) none
 obtain⟨n,m,g⟩:=b i (F7 z_ a) y M (eR (AP f))
 have l:(gy np p.toNat d.toNat).foldl (dL (gh G)) none=some c:=h
 grind
def oz (M:List En):Prop:=M.Pairwise (fun a b=>Ke.up b.2 a.2=false)
def sg (R:List (Nat×Nat)): ∀k,oz (jZ R k)
 |0=>List.Pairwise.nil
 |k+1=>by
  unfold oz
  rw[jZ,List.pairwise_append]
  refine⟨?_,sg R k,?_⟩
  ·refine List.Pairwise.imp_of_mem (R:=fun _ _=>True) ?_ (List.pairwise_of_forall q_)
   intro a b d c _
   rw[(mN.1 d).2,(mN.1 c).2,AV]
   simp
  ·intro a d b c
   obtain⟨j,f,_,e⟩:=kI.1 c
   rw[(mN.1 d).2,e,AV]
   grind
def D5 (L:List Ph.Item) (h:Ph.lB L):oz (dl L):=by
 unfold oz dl
 rw[List.pairwise_map]
 refine List.Pairwise.imp ?_ h
 grind[KU,Ph.ah]
def CA (R:List (Nat×Nat)) (L:List Ph.Item) (h:Ph.lB L):oz (all R L):=by
 unfold oz all
 rw[List.pairwise_append]
 refine⟨D5 L h,sg R 256,?_⟩
 intro a f b c
 obtain⟨d,s,_,e⟩:=zC.1 f
 obtain⟨j,_,_,g⟩:=kI.1 c
 rw[e,g]
 rfl
def dM.Fy {w:World} {c d i e gh n b a:Nat} {M:List En} (h:dM w c d i e gh n b a M):oz M:=by
 obtain⟨R,L,f,g⟩:=h
 rw[<-g.eq]
 exact CA R L f.h.tu.srt
def PQ.Fy {w:World} {O:Nat->Prop} {c n d q T:Nat} {G:List (List En)} (h:PQ w O c n d q T G) {i:Nat} {M:List En} (hi:G[i]? =some M):oz M:=by
 obtain⟨b,lo,g,v,H,e,f,j⟩:=h
 rw[<-f] at hi
 simp only[Ms,List.getElem?_map] at hi
 cases a:H[i]? with
 |none=>rw[a] at hi;cases hi
 |some x=>
  rw[a] at hi
  injection hi with hi
  subst hi
  exact dM.Fy (e.p.sets.it i x a)
def uE (G:List (List En)) (z:En):Prop:= ∃(i:Nat) (M:List En),G[i]? =some M/\z∈M
section
variable {w:World} {O:Nat->Prop} {b n a q T:Nat} {G:List (List En)}
def GC {p d:Int}: ∀z,uE (iw a (gh G) p d) z->uE G z:=by
 rintro z ⟨i,M,f,hz⟩
 unfold iw at f
 cases j:bb a (gh G) p d with
 |none=>rw[j,fy] at f;exact⟨i,M,f,hz⟩
 |some c=>
  rw[j,fy] at f
  simp only at f
  rcases Nat.decEq i c with e|e
  ·rw[List.getElem?_set_ne z_] at f
   exact⟨i,M,f,hz⟩
  ·subst e
   obtain⟨_,_,x,l,m,g,k⟩:=wS j
   have h:=(i6.1 (sI g)).1
   rw[List.getElem?_set_self h,eR g] at f
   injection f with f
   subst f
   exact⟨i,x.M,sI g,y_⟩
end
def KH {S:Nat->Nat} {fr:Bool} {n:Nat}: ∀k,k<=n-> ∀x:Fin n,x∈Gt.pl S fr n k↔x.val<k/\(S x.val==0)=fr
 |0,_,x=>by simp[Gt.pl]
 |k+1,c,x=>by
  have a:=KH (S:=S) (fr:=fr) k z_ x
  by_cases b:(S k==0)=fr
  ·grind[Gt.nW]
  grind[Gt.EZ]
theorem pU {n:Nat} {G S:Nat->Nat} {x:Nat} (a:x<n) (b:S x≠0):Gt.hasB n G S (x:Int) (G x)=true:=by
 unfold Gt.hasB
 grind
def Iu {M:Mc} {n x:Nat} {t:Tr} (a:x<n) (c:t.p=(x:Int)) (d:t.g=M.G x) (b:M.S x≠0):iM M n t=M.S x:=by
 grind[iM,pU]
def kj {n:Nat} {G S:Nat->Nat} {x s:Nat} (a:x<n) (b:S x≠0) (c:Gt.ry (S x) s=true):cJ n G S (x:Int) (G x) s=ay S x s:=by
 unfold cJ
 rw[if_pos ⟨pU a b,c⟩]
 rfl
def Hb {n:Nat} {G S:Nat->Nat} {x s:Nat} (a:Gt.ry (S x) s=false):cJ n G S (x:Int) (G x) s=S:=by
 unfold cJ
 grind
def Km {np n q:Nat} {G:List (List En)} (hl:G.length=np+1) {p:Nat} (hp:p<np) {id:Nat} (hi:id<n) {k:Ke.K} (hr:Ke.aN k=true) (hno: ∀z,uE G z->z.1≠id) (z:En):
  uE (iy np n q (gh G) (p:Int) (id:Int) k) z↔z=(id,k)\/uE G z:=by
 have hw:aV n (gh G) 0 (id:Int)=none:=iB n _ (gh G) 0 (fun i x hx _=>cw.2 (fun y hy=>hno y ⟨i,x.M,sI hx,hy⟩))
 have hc:mE np n (gh G) (p:Int) (id:Int) k=0:=by
  unfold mE
  rw[if_neg (by unfold nU;grind),hw]
  rfl
 have hal:nA np n q (gh G) p<G.length:=by
  grind[nA]
 have hx:G[nA np n q (gh G) p]? =some (G[nA np n q (gh G) p]'hal):=zX0 _
 have hg:iy np n q (gh G) (p:Int) (id:Int) k=G.set (nA np n q (gh G) p) (Go.Proofs.YtnmhcgpnhlhcgaaGreatDoor.put (id,k) (MM (gh G) (nA np n q (gh G) p))):=by
  unfold iy
  rw[if_pos hc,fy]
  rfl
 rw[hg]
 generalize nA np n q (gh G) p=j at*
 generalize G[j]=X at hx
 rw[eR (AP hx)]
 constructor
 ·rintro⟨i,M,hM,hz⟩
  by_cases e:i=j
  ·subst e
   rw[List.getElem?_set_self hal] at hM
   injection hM with hM
   subst hM
   exact(fh.1 hz).imp (fun q=>q) (fun q=>⟨_,X,hx,q⟩)
  ·rw[List.getElem?_set_ne z_] at hM
   exact .inr ⟨i,M,hM,hz⟩
 ·rintro(rfl|⟨i,M,hM,hz⟩)
  ·exact⟨j,_,List.getElem?_set_self hal,fh.2 (.inl rfl)⟩
  ·by_cases e:i=j
   ·subst e
    rw[hx] at hM
    injection hM with hM
    subst hM
    exact⟨i,_,List.getElem?_set_self hal,fh.2 (.inr hz)⟩
   ·exact⟨i,M,y_,hz⟩
def FW {np n q:Nat} {G:List (List En)} (p a:Int) (k:Ke.K):(iy np n q (gh G) p a k).length=G.length:=by
 grind[iy,fy]
def qN {w:World} {O:Nat->Prop} {B n g q T:Nat} {G:List (List En)} (h:PQ w O B n g q T G) {p d:Int} (E:(bb g (gh G) p d).isSome=true):
  ∃(x:Nat) (k:Ke.K),x<n/\bI (gh G) (bb g (gh G) p d)=(x:Int)/\uE G (x,k)/\(∀z,uE G z->Ke.up z.2 k=false)/\ ∀z,uE (iw g (gh G) p d) z↔uE G z/\z.1≠x:=by
 obtain⟨c,u⟩:=Option.isSome_iff_exists.1 E
 obtain⟨z,M,L,hz,hw,I⟩:=h.PY u
 obtain⟨_,_,y,f,M',s,F⟩:=wS u
 have m:f=z:=by
  grind[bI,KE,eR,bK,oK]
 subst m
 have r:=(i6.1 (sI s)).1
 have v:G[c]? =some (f::M'):=by rw[<-F];exact sI s
 have D:iw g (gh G) p d=G.set c M':=by grind[iw,fy,eR]
 refine⟨f.1,f.2,hz,y_,⟨c,_,v,q_⟩,?_,?_⟩
 ·rintro y ⟨i,l,b,a⟩
  have J:oK (MM (gh G) c)=f.2:=by assumption
  cases j:l with
  |nil=>grind
  |cons A N=>
   have H:Ke.up A.2 f.2=false:=by grind[JP,PQ.len]
   rw[j] at a
   rcases List.mem_cons.1 a with e|e
   ·grind
   ·have t:=h.Fy b
    rw[j] at t
    exact qq ((List.pairwise_cons.1 t).1 y e) H
 ·intro y
  constructor
  ·intro a
   refine⟨GC y a,?_⟩
   obtain⟨i,l,b,o⟩:=a
   exact cw.1 (eT hw hz (AP b)) y o
  ·rintro⟨⟨i,l,b,a⟩,C⟩
   rw[D]
   by_cases e:i=c
   ·subst e
    rw[v] at b
    injection b with b
    subst b
    rcases List.mem_cons.1 a with q|q
    ·exact mK
    ·exact⟨i,M',List.getElem?_set_self r,q⟩
   ·exact⟨i,l,y_,a⟩
def Ge {a:Nat} {G:List (List En)} {p d:Int} (b:(bb a (gh G) p d).isSome=false):iw a (gh G) p d=G:=by
 grind[iw,fy]
def JV {a:Nat} {G:List (List En)} (p d:Int):(iw a (gh G) p d).length=G.length:=by
 grind[iw,fy]
end Go.Proofs.YtnmhcgpnhlhcgaaGreatDoor
namespace Go.Proofs.YtnmhcgpnhlhcgaaGreatDoor
open Go.RowKit Go.Lib Go.Deep Go.ChangeShapes Go.WideShapes
def Qj (w:World) (a:Option Addr) (c:Nat) (D:Nat->Nat):Prop:=
 c=0\/ ∃d b,a=some (af d b)/\d<w.heap.size/\ ∀j,j<c->D j<256/\w.cell? (af d (b+j))=some (aA (D j:Int))
def Ox {z:Int} (h:(Lit.int .u8 z).wf=true): ∃n:Nat,z=n/\n<256:=by
 simp[Lit.wf,IntKind.min,IntKind.max,IntKind.bits,IntKind.signed] at h
 exact⟨z.toNat,z_,z_⟩
section
variable {H:Type} {enc:TypeId×Value->H} {w:World} {b:Nat} {a:Nat->Bool} {c:Bool}
theorem FM:Tryz.prog.cellsOf 5=1:=by rfl
def Gu {t:Nat} {e:Option Addr} {g l:Nat} {x:DataW H×List MemPlace}
  (h:DataW.trod enc Tryz.prog w b a c t 51 (Value.slice e g l).cells.toList=some x):g<9223372036854775808/\g<=l/\l<9223372036854775808/\ ∃D,Qj w e g D:=by
 rcases open_slice Tryz.underlying51 h with ⟨j,_⟩|⟨I,B,G,m,n,D,Pl,j,R,P,C,N,W,z⟩
 ·simp[Value.cells] at j
  obtain⟨rfl,rfl,rfl⟩:=j
  exact⟨z_,z_,z_,fun _=>0,.inl rfl⟩
 ·simp[Value.cells] at j
  obtain⟨rfl,rfl,rfl⟩:=j
  have O:g<=m:=y_
  refine⟨by unfold maxLen at C;omega,P,by unfold maxLen at C;omega,?_⟩
  have p: ∀i,i<g-> ∃r:Nat,r<256/\w.cell? (I.add (i*1))=some (aA r):=by
   intro i s
   obtain⟨A,E,S⟩:=z i z_
   rw[FM] at E
   obtain⟨_,q,Q⟩:=World.cells?_some E
   match A,q with
   |[X],_=>
    obtain⟨U,F,_,J⟩:=DataW.trod_int Tryz.underlying5 S
    simp at F
    subst F
    obtain⟨V,rfl,M⟩:=Ox J
    have Z:=Q 0 z_
    have Y: ∀x:Addr,x.add 0=x:=fun x=>by rfl
    grind
  obtain⟨f,y⟩:=yL p
  refine⟨f,?_⟩
  by_cases T:g=0
  ·exact .inl T
  ·right
   obtain⟨d,u,o⟩:=I
   have k:o=none:=by
    have:=World.cell?_spot (y 0 z_).2
    assumption
   subst k
   have v:d<w.heap.size:=by
    have:=i7 w _ (y 0 z_).2
    assumption
   refine⟨d,u,rfl,v,fun i s=> ?_⟩
   obtain⟨M,L⟩:=y i s
   simp only[Go.WideShapes.add_plain,Nat.mul_one] at L
   grind
end
end Go.Proofs.YtnmhcgpnhlhcgaaGreatDoor
namespace Go.Proofs.YtnmhcgpnhlhcgaaGreatDoor
open Go.RowKit Go.Lib Go.Shelf
attribute [local go_sem ↓] Go.wp_at_zero Go.wp_at_succ
def Al (w wr:World) (b:Ad) (P n q T:Nat) (M:Mc):Prop:=(∃a,ax wr a b P n q T M/\ ∀k,a k≠0->w.heap.size<=k)/\aC w wr
section
variable {w wr c:World} {b:Ad} {P n q T a:Nat} {M d:Mc}
end
section
variable {w wr a:World} {c:Ad} {P n q T b:Nat} {M d:Mc}
def MI (P n q m g h:Nat) (u:1<=P/\P<=64) (p:1<=n/\n<=1024) (o:1<=q/\q<=256) (r:m<=32) (i:1<=g/\g<18446744073709551616) (j:1<=h/\h<18446744073709551616) (w:World) (l:Gt.pv w):
  aB 11 #[.agg #[ab P,ab n,ab q,ab m,aj g,aj h]] w fun e a=> ∃f,e= .returned (ak f.m)/\Al w a f P n q 0 (gz P n m g h):=
 (ig P n q m g h u p o r i j w l).mono (fun e a ⟨f,k,s,hi,v,t⟩=>⟨f,s,y_,t⟩)
end
def Al.k {w wr:World} {b:Ad} {P n q T:Nat} {M:Mc} (h:Al w wr b P n q T M):nQ w wr b P n q T M (fun _=>False):=by
 obtain⟨⟨a,hi,c⟩,d⟩:=h
 exact⟨⟨a,hi,c,fun k q=>q.elim⟩,d⟩
def Jw (g:Pi.Md) (t:Int) (k:Ke.K) (x:Nat):((Pi.jc g t k).2.T[x]?).map (·.u)=(g.T[x]?).map (·.u):=by
 unfold Pi.jc
 grind
def G7 (n:Nat) (M:Mc) (x:Nat): ∀(l:List Nat) (g:Pi.Md),((l.foldl (mO n M) g).T[x]?).map (·.u)=(g.T[x]?).map (·.u)
 |[],g=>rfl
 |y::l,g=>by rw[List.foldl_cons,G7 n M x l];exact Jw _ _ _ _
def Gp (M:Mc) (n x:Nat):((settle M n).gr.T[x]?).map (·.u)=(M.gr.T[x]?).map (·.u):=G7 n M x _ _
def IB (g:Pi.Md) (t:Int) (k:Ke.K):(Pi.jc g t k).2.L=g.L:=by
 unfold Pi.jc
 grind
def DI (n:Nat) (M:Mc): ∀(l:List Nat) (g:Pi.Md),(l.foldl (mO n M) g).L=g.L
 |[],g=>rfl
 |y::l,g=>by rw[List.foldl_cons,DI n M l];exact IB _ _ _
def FQ (M:Mc) (n:Nat):(settle M n).gr.L=M.gr.L:=DI n M _ _
section
variable {w wr c:World} {b:Ad} {P n q T a:Nat} {M d:Mc} {K:Nat->Prop}
end
section
variable {w wr c:World} {b:Ad} {T:Nat} {M a:Mc} {K:Nat->Prop} {s:Nat} {p:Pm}
end
end Go.Proofs.YtnmhcgpnhlhcgaaGreatDoor
namespace Go.Proofs.YtnmhcgpnhlhcgaaGreatDoor
open Go.RowKit Go.Lib Go.Shelf
section
variable {w wr w':World} {a:Ad} {P n q T:Nat} {M:Mc} {K:Nat->Prop}
def nQ.below (h:nQ w wr a P n q T M K) (c:aC wr w') {K':Nat->Prop} (e: ∀k,K' k->K k\/(wr.heap.size<=k/\k<w'.heap.size)):nQ w w' a P n q T M K':=by
 obtain⟨⟨b,hi,f,d⟩,hw⟩:=h
 refine⟨⟨b,hi.below c,f,fun k q=> ?_⟩,bt hw c⟩
 rcases e k q with r|r
 ·exact⟨(d k r).1,i8 (d k r).2 c.size⟩
 ·exact⟨hi.fresh r.1,r.2⟩
end
end Go.Proofs.YtnmhcgpnhlhcgaaGreatDoor
namespace Go.Proofs.YtnmhcgpnhlhcgaaGreatDoor.Cb
open Go.RowKit Go.Lib
section
variable {w w':World} {a s P:Nat} {v:Value} {L:List ck}
def Cs (h:dy w a s P v L) (b p:Nat) (N:iI b p=true) (hl:L.length<32) (O: ¬P*232792560<fA L+asks ⟨b,p,0,0⟩):aB 39 #[ak s,aj b,aj p] w fun e w'=>e=aS #[ab L.length,ab 0]/\(∃v',dy w' a s P v' (L++[⟨b,p,0,0⟩])/\ ∀k,v'.ownBlock=some k->v.ownBlock=some k\/w.heap.size<=k)/\Fr (fun k=>k=s\/some k=v.ownBlock) w w':=by
 have U:=aa (fun w=>cf w b p)
 simp only[N] at U
 have n:=(sK b p).1 N
 have Y:=aa (fun w=>tP w ⟨b,p,0,0⟩ n)
 have T:=aa fun l (G:aC w l)=>GY (h.below G)
 obtain⟨d,i,rfl,_,_⟩:=h.form
 have c0:=h.c0
 have c1:=h.c1
 have hs:=h.lt
 have n1: ¬(L.length:Int)=32:=z_
 have n2: ¬L.length=32:=z_
 have q1:=lx h.f.all
 have q2:=o0 n
 have q3:=h.f.p2
 have HI:Hid (w.cell? (ao s)=some (aj P)/\w.cell? (af s 1)=some (.slice d L.length i)):=⟨c0,c1⟩
 generalize asks ⟨b,p,0,0⟩=q at Y O q2
 generalize fA L=z at T O q1
 have e1:IntKind.u64.wrap ((z:Int)+q)=((z+q:Nat):Int):=by rw[pZ _ z_ z_];simp
 have e2:IntKind.u64.wrap ((P:Int)*232792560)=((P*232792560:Nat):Int):=by rw[pZ _ z_ z_];simp
 have e3: ¬((P*232792560:Nat):Int)<((z+q:Nat):Int):=z_
 have r:=aa h
 clear h N O q1 q2 q3
 refine ge ?_
 go_wp2_with (go_at_call 71;refine(U.out _).mono ?_;rintro e l ⟨rfl,c,rfl⟩)
 go_region_held3 (fun w'=>w'.cell? (ao w.heap.size)=some (aj b)/\w'.cell? (af w.heap.size 1)=some (aj p)/\w'.cell? (ao s)=some (aj P)/\w'.cell? (af s 1)=some (.slice d L.length i)/\aC w w')
  (first|exact GV HI.out|exact KJ z_ G)
  (first
   |(go_at_call 72;refine(T.out _ (KF (by assumption))).mono ?_;rintro e l ⟨rfl,G⟩)
   |(go_at_call 73;refine(Y.out _).mono ?_;rintro e l ⟨rfl,c',hw⟩;have G:=uX hw;clear hw))
 rename_i hS
 obtain⟨t0,t1,t2,t3,g⟩:=hS
 have M:=i8 hs g.size
 have a2:=fun o=>(Below.cell ((i4 l.heap.size l).alloc aT o) M).trans t3
 have F:=aa (r.out.more ⟨b,p,0,0⟩ n hl g (o:= .cells (qc ⟨b,p,0,0⟩).toArray 184))
 have V:Hid (∀W:World,W.heap=(l.alloc (.cells (qc ⟨b,p,0,0⟩).toArray 184)).heap->W.ownsRow a 184 4 (.slice d L.length i) L.length (aP L)):=fun W C=>((r.out.below (g.alloc g.size _)).dc C).own
 have X:Hid (∀W:World,W.heap=(l.alloc (.cells (qc ⟨b,p,0,0⟩).toArray 184)).heap-> ∀j u,(qc ⟨b,p,0,0⟩)[j]? =some u->W.cell? (((ao l.heap.size):Addr).add j)=some u):=fun W C=>gG C
 have Z:Hid (∀W:World,W.heap=(l.alloc (.cells (qc ⟨b,p,0,0⟩).toArray 184)).heap->a<=W.heap.size):=fun W C=>((r.out.below (g.alloc g.size _)).dc C).bs
 have A:=g.size
 have E:Hid (∀(y:Value) (m:Nat),(y.ownBlock=(Value.slice d L.length i).ownBlock\/y.ownBlock=some m)->l.heap.size<=m-> ∀k,y.ownBlock=some k->(Value.slice d L.length i).ownBlock=some k\/w.heap.size<=k):=fun y m a0 hm k hk=>by
  grind
 clear A
 obtain⟨i0,Q,J,I,H⟩:=info_parts xN
 clear r g n HI T Y U
 go_wp2
 refine wp_region_held_drew (S:=(fun _=>True)) (by rfl) ?_ (fun hHeld=> ?_)
 ·trivial
 refine st ?_
 repeat' first
  |refine dn ?_
  |refine tk ?_
  |refine rd ?_
  |exact oA
  |refine oE ?_
  |refine oC ?_ ?_
  | (refine dU 8 (fun K D=> ?_)
     refine cC _ (by rfl) _ _ _ (by rfl) a 184 i0 (.agg #[aj 0,aj 0,aj 0,aj 0]) 4 32 Tryz.underlying153 Q J I H rfl z_ (.slice d L.length i) L.length (aP L) (by rfl) (V.out _ rfl) (ao l.heap.size) 1 1 (qc ⟨b,p,0,0⟩) (by rfl) rfl (X.out _ rfl) (ET _) (by unfold maxLen;omega) z_ (Z.out _ rfl) ?_
     intro y w2 x B t
     obtain⟨y1,y2,hP,hF⟩:=F.out _ _ _ B x rfl rfl rfl rfl
     obtain⟨a1,d1,rfl⟩:=aJ x
     have R:=aa (And.intro (And.intro hP (E.out _ _ t q_)) hF)
     clear hP hF x B t
     refine D.out _ _ ?_ (fun hHeld=> ?_)
     ·trivial
     clear D K
     try simp only[cV])
  | (refine dU _ (fun K D=> ?_)
     go_simp
     refine D.out _ _ ?_ (fun hHeld=> ?_)
     ·trivial
     clear D K
     try simp only[cV])
 all_goals
  refine⟨?_⟩
  go_wp2
  go_ret2
  exact⟨by rfl,⟨_,R.out.1.1,R.out.1.2⟩,R.out.2⟩
def yM (h:dy w a s P v L) (b p:Nat):aB 39 #[ak s,aj b,aj p] w fun e w'=>e=aS #[ab (yT P L b p:Int),ab (pH P L b p:Int)]/\(∃j,dy w' a s P j (zo P L b p)/\ ∀k,j.ownBlock=some k->v.ownBlock=some k\/w.heap.size<=k)/\Fr (fun k=>k=s\/some k=v.ownBlock) w w':=by
 unfold yT zo pH
 cases g:iI b p with
 |false=>exact(wB h b p g).mono (fun e w' c=>⟨y_,⟨v,by simp;exact h.below c.2,fun k d=> .inl d⟩,Fr.aF c.2⟩)
 |true=>
  by_cases i:L.length=32
  ·exact(yX h b p g i).mono (fun e w' c=>⟨y_,⟨v,by simp[i];exact h.below c.2,fun k d=> .inl d⟩,Fr.aF c.2⟩)
  ·have m:=h.f.len
   by_cases c:P*232792560<fA L+asks ⟨b,p,0,0⟩
   ·exact(zH h b p g z_ c).mono (fun e w' l=>⟨y_,⟨v,by simp[i,c];exact h.below l.2,fun k d=> .inl d⟩,Fr.aF l.2⟩)
   ·exact(Cs h b p g z_ c).mono y_
end
end Go.Proofs.YtnmhcgpnhlhcgaaGreatDoor.Cb
namespace Go.Proofs.YtnmhcgpnhlhcgaaGreatDoor
open Go.RowKit Go.Lib Go.Shelf
attribute [local go_sem ↓] Go.wp_at_zero Go.wp_at_succ
section
variable {w W w':World} {c b:Nat->Nat} {a:Ad} {P n q T:Nat} {M:Mc}
open Classical in
def ax.Np (h:ax W b a P n q T M) (d p:Nat):
  aB 39 #[ak a.sb,aj d,aj p] W fun e w'=>e=aS #[ab (Cb.yT P M.sv d p:Int),ab (Cb.pH P M.sv d p:Int)]/\aD W w' b a P n q T {M with sv:=Cb.zo P M.sv d p}:=by
 obtain⟨m,v,r,s⟩:=h.sv
 refine(Cb.yM r d p).mono ?_
 rintro e w' ⟨rfl,⟨j,g,o⟩,t⟩
 have i:Fr (fun k=>b k=6) W w':=(IE t).to (fun k _ f=>f.elim (fun e=>by rw[e];exact h.lsb) (fun e=>s k e.symm))
 have l:oS W w' b (fun k=>if j.ownBlock=some k then 6 else b k):=by
  refine⟨fun k f=> ?_,fun k f=> ?_⟩
  ·grind
  ·by_cases e:j.ownBlock=some k
   ·exact(au g.own e).2.1
   ·simp only[e,if_false] at f
    exact i8 (h.lt k f) i.size
 exact⟨rfl,_,h.AF l i g (fun k f=>by grind),l,i.to (fun k _ f=>by omega)⟩
def ax.admit (h:ax w c a P n q T M) (d p:Nat):
  aB 13 #[ak a.m,aj d,aj p] w fun e w'=>e=aS #[ab (Cb.yT P M.sv d p:Int),ab (Cb.pH P M.sv d p:Int)]/\aD w w' c a P n q T {M with sv:=Cb.zo P M.sv d p}:=by
 have t:=h.co.c6
 have r:Hid (∀V,V.heap=w.heap->V.os=w.os->V.tape=w.tape->V.output=w.output->aB 39 #[ak a.sb,aj d,aj p] V fun e w'=>e=aS #[ab (Cb.yT P M.sv d p:Int),ab (Cb.pH P M.sv d p:Int)]/\aD w w' c a P n q T {M with sv:=Cb.zo P M.sv d p}):=fun V l k j i=>by
  have g:aC w V:=aK cj l k j i
  exact((h.below g).Np d p).mono (fun e w' f=>⟨f.1,f.2.ahead g⟩)
 clear h
 generalize Cb.yT P M.sv d p=u at*
 generalize Cb.pH P M.sv d p=v at*
 refine ge ?_
 go_wp2_with (go_at_call 39;refine cH (r.out w rfl rfl rfl rfl) fun s o=> ?_)
 go_ret2
 exact⟨rfl,o.out⟩
end
section
variable {w W:World} {b j:Nat->Nat} {a:Ad} {P n q T T':Nat} {M M':Mc} {d e:Nat} {l i:List Ev} {O:Nat->Prop}
def SG.oG (h:SG w W b a P n q T M d e l O) (X:l.length<=9000) (x:Nat) (L:x<n) (m t:Int) (C:t≠0) (f:Ev)
  (E: ∀V,SG w V b a P n q T M d e l O->aB 168 #[ak d,.pointer (some (af a.th (x*10))),ab m] V fun c u=>c=aS #[.agg #[ab f.k,ab f.p,ab f.x,aM f.g,ab f.r,ab f.e],ab t]/\SX w V u b a P n q T M d e l O):
  aB 126 #[ak d,.pointer (some (af a.th (x*10))),.agg #[ab 4,ab m]] W fun c u=>c= .panicked ed/\SX w W u b a P n q T M d e (l++[⟨6,(e:Int),(M.th x).p,(M.th x).g,4,t⟩]) O:=by
 have s:aC W (W.alloc (.cells #[ab 4,ab m] 83)):=bq
 have v:=h.below s
 have o: ¬O W.heap.size:=fun q=>by have:=h.lt q;omega
 have A:=aa s
 have J:=bB W #[ab 4,ab m] 83 0 _ rfl
 have I:=bB W #[ab 4,ab m] 83 1 _ rfl
 have D:Hid (∀V T' M' i,SX w (W.alloc (.cells #[ab 4,ab m] 83)) V b a P n q T' M' d e i O->V.cell? (ao W.heap.size)=some (ab 4)/\V.cell? (af W.heap.size 1)=some (ab m)):=fun V T' M' i y=>⟨y.keep o J,y.keep o I⟩
 have R:=aa (E _ v)
 have Q:Hid (∀V,SX w (W.alloc (.cells #[ab 4,ab m] 83)) V b a P n q T M d e l O->aB 166 #[ak d,.pointer (some (af a.th (x*10))),.agg #[ab 4,ab m],ab t] V fun c u=>c= .panicked ed/\SX w (W.alloc (.cells #[ab 4,ab m] 83)) u b a P n q T M d e (l++[⟨6,(e:Int),(M.th x).p,(M.th x).g,4,t⟩]) O):=fun V N=>N.qT z_ x L 4 m t C
 clear h v s o E
 refine ge ?_
 go_wp2_with (first
  |(go_at_call 168;refine(R.out).mono ?_;rintro c U ⟨rfl,y⟩;have F:=aa (y.more (da cj (.cells #[ab f.k,ab f.p,ab f.x,aM f.g,ab f.r,ab f.e] 80)));have B:=D.out _ _ _ _ F.out;have H:=B.1;have G:=B.2;clear y B)
  |(go_at_call 166;refine cH (Q.out _ (by exact F.out)) fun S z=> ?_))
 simp[bodyPost]
 first|exact⟨rfl,z.out.ahead A.out⟩|exact z.out.ahead A.out
def SG.Gs (h:SG w W b a P n q T M d e l O) (hl:l.length<=9000) (x:Nat) (hx:x<n) (Y:Int) (s:Ev)
  (R: ∀V,SG w V b a P n q T M d e l O->aB 168 #[ak d,.pointer (some (af a.th (x*10))),ab Y] V fun o N=>o=aS #[.agg #[ab s.k,ab s.p,ab s.x,aM s.g,ab s.r,ab s.e],ab 0]/\SX w V N b a P n q T' M' d e l O):
  aB 126 #[ak d,.pointer (some (af a.th (x*10))),.agg #[ab 4,ab Y]] W fun o N=>o=aS #[]/\SX w W N b a P n q T' M' d e (l++[⟨5,(e:Int),(M'.th x).p,(M'.th x).g,4,0⟩]++[s]) O:=by
 have a5:aC W (W.alloc (.cells #[ab 4,ab Y] 83)):=bq
 have b0:=h.below a5
 have a2: ¬O W.heap.size:=fun q=>by have:=h.lt q;omega
 have e6:=aa a5
 have k0:=bB W #[ab 4,ab Y] 83 0 _ rfl
 have k1:=bB W #[ab 4,ab Y] 83 1 _ rfl
 have d6:Hid (∀V T' M' i,SX w (W.alloc (.cells #[ab 4,ab Y] 83)) V b a P n q T' M' d e i O->V.cell? (ao W.heap.size)=some (ab 4)/\V.cell? (af W.heap.size 1)=some (ab Y)):=fun V T' M' i z=>⟨z.keep a2 k0,z.keep a2 k1⟩
 have HK:=aa (R _ b0)
 have c9:(l++[(⟨5,(e:Int),(M'.th x).p,(M'.th x).g,4,0⟩:Ev)]).length<=9001:=y_
 obtain⟨i0,d0,c7,c6,c5⟩:=Cb.info_parts nI
 clear h b0 a5 a2 R
 refine ge ?_
 go_upto_region 11 with (go_at_call 168;refine(HK.out).mono ?_;rintro o w1 ⟨rfl,z⟩;have HG:=aa z;have kb:=d6.out _ _ _ _ (z.more (da cj (.cells #[ab s.k,ab s.p,ab s.x,aM s.g,ab s.r,ab s.e] 80)));have c4:=kb.1;have c2:=kb.2;clear z kb)
 obtain⟨O1,Z,E⟩:=HG.out.base
 have c1:=aa E
 have t: ¬O1 w1.heap.size:=fun q=>by have:=Z.lt q;omega
 have a6:aC w1 (w1.alloc (.cells #[ab s.k,ab s.p,ab s.x,aM s.g,ab s.r,ab s.e] 80)):=bq
 have a9:=(Z.below a6).sx
 have m0:=bB w1 #[ab s.k,ab s.p,ab s.x,aM s.g,ab s.r,ab s.e] 80 0 _ rfl
 have m1:=bB w1 #[ab s.k,ab s.p,ab s.x,aM s.g,ab s.r,ab s.e] 80 1 _ rfl
 have m2:=bB w1 #[ab s.k,ab s.p,ab s.x,aM s.g,ab s.r,ab s.e] 80 2 _ rfl
 have m3:=bB w1 #[ab s.k,ab s.p,ab s.x,aM s.g,ab s.r,ab s.e] 80 3 _ rfl
 have m4:=bB w1 #[ab s.k,ab s.p,ab s.x,aM s.g,ab s.r,ab s.e] 80 4 _ rfl
 have m5:=bB w1 #[ab s.k,ab s.p,ab s.x,aM s.g,ab s.r,ab s.e] 80 5 _ rfl
 have d9:=aa a6
 generalize b6:w1.alloc (.cells #[ab s.k,ab s.p,ab s.x,aM s.g,ab s.r,ab s.e] 80)=B at*
 obtain⟨bb,a4⟩: ∃bb,w1.heap.size=bb:=⟨_,rfl⟩
 have d8:=aa a4
 have b8:Hid (w1.heap.size<B.heap.size):=by unfold Hid;rw[<-b6];simp
 rw[a4] at t m0 m1 m2 m3 m4 m5|-
 have b7:Hid (∀V T' M' i,SX w B V b a P n q T' M' d e i O1->V.cell? (ao bb)=some (ab s.k)/\V.cell? (af bb 1)=some (ab s.p)/\V.cell? (af bb 2)=some (ab s.x)/\V.cell? (af bb 3)=some (aM s.g)/\V.cell? (af bb 4)=some (ab s.r)/\V.cell? (af bb 5)=some (ab s.e)):=fun V T' M' i z=>⟨z.keep t m0,z.keep t m1,z.keep t m2,z.keep t m3,z.keep t m4,z.keep t m5⟩
 have c0:=aa t
 have HR:=aa (a9.ie z_ x hx 4 Y)
 clear Z a9 a4 b6 a6 E t m0 m1 m2 m3 m4 m5
 obtain⟨l1,I⟩: ∃l1,l++[(⟨5,(e:Int),(M'.th x).p,(M'.th x).g,4,0⟩:Ev)]=l1:=⟨_,rfl⟩
 rw[I] at HR c9
 have d5:=aa I
 clear I
 go_upto_region 12 with (go_at_call 166;refine cH HR.out fun H a7=> ?_)
 obtain⟨O2,c8,a3,Q⟩:=a7.out
 obtain⟨e0,e1,X,e3,e4,e5⟩:=b7.out _ _ _ _ a7.out
 have D: ∀Wc T' M' i,SX w H Wc b a P n q T' M' d e i O2->SX w B Wc b a P n q T' M' d e i O1:=fun Wc T' M' i ⟨O3,h1,h2,h3⟩=>⟨O3,h1,a3.then h2 (fun k R q=>Q k R q),fun k R q=>Q k R (h3 k (i8 R a3.size) q)⟩
 have b3:bb<B.heap.size:=by have:=d8.out;have:=b8.out;omega
 have A: ¬O2 bb:=fun q=>c0.out (Q bb b3 q)
 obtain⟨j,v,s0,hO⟩:=c8
 have c3:=s0.c3
 have hv:=s0.hv
 have R:=s0.hk
 have G: ¬d=bb:=fun o=>A ((hO bb).2 (.inr (.inl o.symm)))
 have b1: ∀k,v.ownBlock=some k->k≠bb:=fun k o q=>A ((hO bb).2 (.inr (.inr (q▸o))))
 obtain⟨ad,L,rfl⟩:=Cb.aJ hv
 have y:aC H (H.alloc (.cells #[ab s.k,ab s.p,ab s.x,aM s.g,ab s.r,ab s.e] 80)).drew:=((i4 _ H).alloc aT _).drew
 have s1:=s0.below y
 have e7:=kc y c3
 have f0:=kc y e0
 have f1:=kc y e1
 have f2:=kc y X
 have f3:=kc y e3
 have f4:=kc y e4
 have f5:=kc y e5
 have d3:Hid ((H.alloc (.cells #[ab s.k,ab s.p,ab s.x,aM s.g,ab s.r,ab s.e] 80)).drew.ownsRow w.heap.size 80 6 (.slice ad l1.length L) l1.length (bF l1)):=s1.hv
 have d4:Hid (∀m u,(cD s)[m]? =some u->(H.alloc (.cells #[ab s.k,ab s.p,ab s.x,aM s.g,ab s.r,ab s.e] 80)).drew.cell? (((ao H.heap.size):Addr).add m)=some u):=Cb.gG (w1:=H) (c:=cD s) rfl
 have d7:Hid (w.heap.size<=(H.alloc (.cells #[ab s.k,ab s.p,ab s.x,aM s.g,ab s.r,ab s.e] 80)).drew.heap.size):=s1.at_.f.size
 generalize b5:(H.alloc (.cells #[ab s.k,ab s.p,ab s.x,aM s.g,ab s.r,ab s.e] 80)).drew=W1 at*
 have b9:Hid (∀v1 F,F.ownsRow w.heap.size 80 6 v1 (l1.length+1) (bF l1++cD s)->W1.grownBy F (Value.slice ad l1.length L).ownBlock->(v1.ownBlock=(Value.slice ad l1.length L).ownBlock\/v1.ownBlock=some W1.heap.size)->(SX w B (F.setCell (af d 3) v1) b a P n q T' M' d e (l1++[s]) O1/\F.cell? (af d 3)=some (.slice ad l1.length L)/\F.frozen? (af d 3)=false)/\F.cell? (ao bb)=some (ab s.k)/\F.cell? (af bb 1)=some (ab s.p)/\F.cell? (af bb 2)=some (ab s.x)/\F.cell? (af bb 3)=some (aM s.g)/\F.cell? (af bb 4)=some (ab s.r)/\F.cell? (af bb 5)=some (ab s.e)):=fun v1 F ho z b4=>by
  refine⟨⟨D _ _ _ _ (((s1.told ho z b4).1 O2 hO).ahead y),(s1.told ho z b4).2⟩,?_⟩
  have X:=z.block bb (i7 W1 _ f0) (fun o=>b1 bb o.symm rfl)
  exact⟨(i5 X).trans f0,(i5 X).trans f1,(i5 X).trans f2,(i5 X).trans f3,(i5 X).trans f4,(i5 X).trans f5⟩
 have d2:=aa b5
 clear b5 hv R b1 s0 s1 y hO D a3 Q A a7 b7 c4 c2
 refine wp_region_held_drew (S:=(fun N=>N.cell? (ao bb)=some (ab s.k)/\N.cell? (af bb 1)=some (ab s.p)/\N.cell? (af bb 2)=some (ab s.x)/\N.cell? (af bb 3)=some (aM s.g)/\N.cell? (af bb 4)=some (ab s.r)/\N.cell? (af bb 5)=some (ab s.e))) (by rfl) ?_ (fun hHeld=> ?_)
 ·simp_all
 refine st ?_
 repeat' first
  |refine dn ?_
  |refine tk ?_
  |refine rd ?_
  |exact oA
  |refine oE ?_
  |refine oC ?_ ?_
  | (refine dU 6 (fun K J=> ?_)
     go_simp
     rw[d2.out]
     refine J.out _ _ ?_ (fun hHeld=> ?_)
     ·grind
     clear J K
     try simp only[cV])
  | (refine dU 7 (fun K J=> ?_)
     refine cC _ (by rfl) _ _ _ (by rfl) w.heap.size 80 i0 (.agg #[ab 0,ab 0,ab 0,aM 0,ab 0,ab 0]) 6 48 Tryz.underlying38 d0 c7 c6 c5 rfl z_ (.slice ad l1.length L) l1.length (bF l1) (by rfl) d3.out (ao H.heap.size) 1 1 (cD s) (by rfl) rfl d4.out (eV _) (by unfold maxLen;omega) z_ d7.out ?_
     intro v1 F a0 b2 U
     obtain⟨⟨a8,y1,y2⟩,C⟩:=b9.out _ _ a0 b2 U
     obtain⟨a1,d1,rfl⟩:=Cb.aJ a0
     have HX:=aa a8
     clear a8 a0 b2 U
     refine J.out _ _ ?_ (fun hHeld=> ?_)
     ·exact C
     clear J K
     try simp only[cV])
  | (refine dU _ (fun K J=> ?_)
     go_simp
     refine J.out _ _ ?_ (fun hHeld=> ?_)
     ·omega
     clear J K
     try simp only[cV])
  | (refine dU _ (fun K J=> ?_)
     go_simp
     refine J.out _ _ ?_ (fun hHeld=> ?_)
     ·exact⟨(Gt.aw _ _ _ _ _ _ (fun q=>G q.1)).trans C.1,(Gt.aw _ _ _ _ _ _ (fun q=>G q.1)).trans C.2.1,(Gt.aw _ _ _ _ _ _ (fun q=>G q.1)).trans C.2.2.1,(Gt.aw _ _ _ _ _ _ (fun q=>G q.1)).trans C.2.2.2.1,(Gt.aw _ _ _ _ _ _ (fun q=>G q.1)).trans C.2.2.2.2.1,(Gt.aw _ _ _ _ _ _ (fun q=>G q.1)).trans C.2.2.2.2.2⟩
     clear J K
     try simp only[cV])
 all_goals
  refine⟨?_⟩
  go_wp2
  go_end0
  rw[d5.out]
  exact⟨rfl,(c1.out _ _ _ _ (HX.out.ahead d9.out)).ahead e6.out⟩
end
section
variable {w W f:World} {c i:Nat->Nat} {a:Ad} {P n q T T':Nat} {M M':Mc} {d b:Nat} {l e:List Ev} {O O0:Nat->Prop}
noncomputable def sr (P n q b:Nat) (s:Mc×List Ev) (h lk:Int):Mc×List Ev:=
 if h= -1 then s else(ready P n q s.1 h.toNat (s.1.th h.toNat).pc,s.2++[⟨8,(b:Int),(s.1.th h.toNat).p,(s.1.th h.toNat).g,lk,0⟩])
noncomputable def iZ (P n q b x:Nat) (s:Mc×List Ev) (lk:Int):Mc×List Ev:=
 sr P n q b ({s.1 with gr:=(Pi.bM s.1.gr (x:Int) lk).2},s.2) (Pi.bM s.1.gr (x:Int) lk).1.1 lk
noncomputable def oe (P n q b x:Nat) (M:Mc) (l:List Ev) (g:List Int):Mc×List Ev:=g.foldl (iZ P n q b x) (M,l)
def Iq (P n q b:Nat) (s:Mc×List Ev) (g lk:Int):(sr P n q b s g lk).2.length<=s.2.length+1:=by
 unfold sr
 grind
def uS (P n q b x:Nat): ∀(g:List Int) (s:Mc×List Ev),(g.foldl (iZ P n q b x) s).2.length<=s.2.length+g.length
 |[],s=>aT
 |y::g,s=>by
  have j:=uS P n q b x g (iZ P n q b x s y)
  have h:(iZ P n q b x s y).2.length<=s.2.length+1:=Iq P n q b _ _ _
  grind
def za {β:Type} (g:β->Int->β) (k:β) {l:List Int} {j:Nat} {x:Int} (h:l[j]? =some x):(l.take (j+1)).foldl g k=g ((l.take j).foldl g k) x:=by
 rw[List.take_add_one,h,List.foldl_append];rfl
def SX.sq (h:SX w f W c a P n q T M d b l O0) (r:l.length<=10000) (s:T+n<=1000000000) (j lk:Int) (p:j= -1\/ ∃y:Nat,y<n/\j=(y:Int)):
  aB 167 #[ak d,ab j,ab lk] W fun g k=>g=aS #[]/\SX w f k c a P n q (T+n+1) (sr P n q b (M,l) j lk).1 d b (sr P n q b (M,l) j lk).2 O0:=by
 unfold sr
 rcases p with rfl|⟨y,o,rfl⟩
 ·rw[if_pos rfl]
  exact(h.x5 lk).mono (fun g k m=>⟨m.1,m.2.bZ z_⟩)
 ·rw[if_neg z_,show((y:Int)).toNat=y by omega]
  exact h.rU r s y o lk
def xC {V s:World} {v:Value} {o:List Int} (h:Pi.IL s V.heap.size v o): ∃u k,v= .slice u o.length k/\ ∀(j:Nat) (x:Int),o[j]? =some x-> ∃p,u=some (ao p)/\V.heap.size<=p/\s.cell? (af p j)=some (ab x):=by
 rcases h with ⟨D,⟨t,hz⟩|⟨g,k,r,t,B,A,z⟩⟩
 ·grind
 ·refine⟨some (ao g),k,t,fun j x C=>⟨g,rfl,B,?_⟩⟩
  have y:(o.map (fun x=>Value.int .i64 x))[j]? =some (ab x):=y_
  have m:=y
  rw[<-z.2.2.2,List.getElem?_take] at m
  split at m
  ·simp only[World.cell?,A]
   grind
  grind
def pC (n:Nat) (N:Mc) (b x g:Nat):Mc:=jz {N with S:=pO n N.G N.S (x:Int) g,th:=ay N.th x iq} b (-1)
def SG.FH (h:SG w W c a P n q T M d b l O) (hl:l.length<=8000) (hp:b<P) (x:Nat) (hx:x<n) (g:Nat) (D:List Int) (hh:Pi.gW M.gr.T M.gr.L (x:Int)=D) (d5:D.length<=32) (hT:T+(n+1)*32<=1000000000)
  (hu: ∀(j:Nat) (lk:Int),D[j]? =some lk->(Pi.bM (oe P n q b x M l (D.take j)).1.gr (x:Int) lk).1.1= -1\/ ∃y:Nat,y<n/\(Pi.bM (oe P n q b x M l (D.take j)).1.gr (x:Int) lk).1.1=(y:Int)):
  aB 171 #[ak d,.agg #[ab x,aM g]] W fun s z=>s=aS #[]/\SX w W z c a P n q (T+(n+1)*32) (pC n (oe P n q b x M l D).1 b x g) d b ((oe P n q b x M l D).2++[⟨10,(b:Int),(x:Int),g,0,0⟩]) O:=by
 unfold oe at hu|-
 obtain⟨S0,b4⟩: ∃S0,D.foldl (iZ P n q b x) (M,l)=S0:=⟨_,rfl⟩
 rw[b4]
 obtain⟨N,LN⟩:=S0
 dsimp only
 obtain⟨TT,I⟩: ∃TT,T+(n+1)*32=TT:=⟨_,rfl⟩
 rw[I] at hT|-
 have e8:=aa b4
 have c1:=aa I
 clear b4 I
 have g0:a.pr<W.heap.size:=i7 W _ (h.sx.pc hp).c0
 have f9:a.th<W.heap.size:=i7 W _ (h.sx.tr hx).c0
 have b2:aC W (W.alloc (.cells #[ab x,aM g] 76)):=bq
 have a7:=h.below b2
 have h0:=a7.sx
 have Z: ¬O W.heap.size:=fun q=>by have:=h.lt q;omega
 have f8:=aa b2
 have k0:=bB W #[ab x,aM g] 76 0 _ rfl
 have k1:=bB W #[ab x,aM g] 76 1 _ rfl
 generalize hW:W.alloc (.cells #[ab x,aM g] 76)=B at*
 have HW:=aa hW
 clear hW
 obtain⟨bx,a9⟩: ∃bx,W.heap.size=bx:=⟨_,rfl⟩
 have b6:=aa a9
 rw[a9] at Z k0 k1
 clear a9
 have E:Hid (∀V T' M' e,SX w B V c a P n q T' M' d b e O->V.cell? (ao bx)=some (ab x)/\V.cell? (af bx 1)=some (aM g)/\V.cell? (ao d)=some (ak a.m)/\V.cell? (af d 2)=some (.pointer (some (af a.pr (b*3))))/\V.cell? (af a.m 7)=some (ak a.gb)/\V.cell? (af a.m 5)=some (ak a.tb)/\V.cell? (af a.m 4)=some (.slice (some (ao a.th)) n a.xt)):=fun V T' M' e Y=>⟨Y.keep Z k0,Y.keep Z k1,Y.c0,Y.c2,Y.core.c7,Y.core.c5,Y.core.c4⟩
 have X:=aa a7
 have g1:bx<B.heap.size:=i7 B _ k0
 have HH:Hid (∀V,aC B V->aB 198 #[ak a.gb,ab x] V fun s z=> ∃ad b5,s= .returned (.slice ad D.length b5)/\aC B z/\ ∀(j:Nat) (y:Int),D[j]? =some y-> ∃J,ad=some (ao J)/\B.heap.size<=J/\z.cell? (af J j)=some (ab y)):=fun V C=>by
  obtain⟨lk,v0,sp,_⟩:=X.out.below C
  refine(sp.at_.i.held (x:Int)).mono ?_
  rintro s z ⟨v,rfl,b8,hb⟩
  rw[hh] at b8
  obtain⟨ad,b5,rfl,hc⟩:=xC b8
  exact⟨ad,b5,rfl,bt C hb,fun j y hy=>(by obtain⟨J,s,h1,h2⟩:=hc j y hy;exact⟨J,s,zY0 C.size h1,h2⟩)⟩
 have f2:Hid (∀k,O k->k<B.heap.size):=fun k hk=>X.out.lt hk
 have H0:=aa h0
 obtain⟨b0,b1,c0,c2,c7,c5,c4⟩:=E.out _ _ _ _ h0
 have d3:=Hl
 clear h a7 h0 b2 Z hh
 refine ge ?_
 go_wp2
 rw[HW.out,b6.out]
 go_region_held3 (fun z=>z.cell? (ao d)=some (ak a.m)/\z.cell? (af a.m 7)=some (ak a.gb)/\z.cell? (ao bx)=some (ab x))
  (first|(have hk:=E.out _ _ _ _ HG.out;grind)|go_keep)
  (first
   |(go_at_call 198;refine(HH.out _ (by exact aK cj rfl rfl rfl rfl)).mono ?_;rintro s F ⟨ad,cc,rfl,U,a2⟩;have c3:=aa (X.out.below U);have HG:=aa ((X.out.below U).sx.ahead U);have c6:=aa a2;have c8:=aa U;clear U a2))
 rename_i hHeld
 clear hHeld X HH
 obtain⟨d0,d1,e0,e2,e7,e5,e4⟩:=E.out _ _ _ _ HG.out
 have a0:Hid (∀V T' M' e,SX w F V c a P n q T' M' d b e O->V.cell? (ao bx)=some (ab x)/\V.cell? (af bx 1)=some (aM g)/\V.cell? (ao d)=some (ak a.m)/\V.cell? (af d 2)=some (.pointer (some (af a.pr (b*3))))/\V.cell? (af a.m 7)=some (ak a.gb)/\V.cell? (af a.m 5)=some (ak a.tb)/\V.cell? (af a.m 4)=some (.slice (some (ao a.th)) n a.xt)):=fun V T' M' e C=>E.out V T' M' e (C.ahead c8.out)
 have f0:Hid (∀V T' M' e (j:Nat) (y:Int),D[j]? =some y->SX w F V c a P n q T' M' d b e O-> ∃J,ad=some (ao J)/\V.cell? (af J j)=some (ab y)):=fun V T' M' e j y hy C=>by
  obtain⟨J,s,h1,h2⟩:=c6.out j y hy
  exact⟨J,s,C.keep (fun q=>by have:=f2.out J q;omega) h2⟩
 have d7:Hid (∀V T' N e (lk:Int),SX w F V c a P n q T' N d b e O->aB 165 #[ak a.gb,ab x,ab lk] V fun s z=>s=aS #[ab (Pi.bM N.gr (x:Int) lk).1.1,ab (Pi.bM N.gr (x:Int) lk).1.2]/\SX w F z c a P n q T' {N with gr:=(Pi.bM N.gr (x:Int) lk).2} d b e O):=fun V T' N e lk C=>C.lift (R:=fun s=>s=aS #[ab (Pi.bM N.gr (x:Int) lk).1.1,ab (Pi.bM N.gr (x:Int) lk).1.2]) (fun _ p=>p.unlock (x:Int) lk)
 have HU:=aa hu
 have f4:=aa (fun (k:List Int)=>uS P n q b x k (M,l))
 clear hu E
 go_wp2
 go_loopw [19] (fun kv wr=> ∃(j:Nat),j<=D.length/\kv=ab j/\SX w F wr c a P n q (T+(n+1)*j) ((D.take j).foldl (iZ P n q b x) (M,l)).1 d b ((D.take j).foldl (iZ P n q b x) (M,l)).2 O) (fun kv _=>D.length-(RowKit.intOf kv).toNat)
 case atStart=>exact⟨0,z_,rfl,c3.out.sx⟩
 case round=>
  obtain⟨j,hj,rfl,A⟩:=hrel
  have H:=f4.out (D.take j)
  rw[List.length_take] at H
  clear c3 HG d0 d1 e0 e2 e7 e5 e4
  by_cases c9:j<D.length
  ·have b7:(j:Int)<D.length:=by omega
   obtain⟨lk,a8⟩: ∃lk,D[j]? =some lk:=⟨D[j],zX0 c9⟩
   have a6:=HU.out j lk a8
   have f3:Hid ((D.take (j+1)).foldl (iZ P n q b x) (M,l)=iZ P n q b x ((D.take j).foldl (iZ P n q b x) (M,l)) lk):=za _ _ a8
   have e3:Hid (T+(n+1)*(j+1)=T+(n+1)*j+n+1):=by unfold Hid;grind
   have d4:T+(n+1)*j+n<=1000000000:=by have:=Nat.mul_le_mul_left (n+1) (show j+1<=32 by omega);rw[Nat.mul_succ] at this;have:=c1.out;omega
   generalize T+(n+1)*j=TJ at*
   generalize (D.take j).foldl (iZ P n q b x) (M,l)=S at*
   obtain⟨N,LJ⟩:=S
   dsimp only at A H a6
   have g3:LJ.length<=9000:=z_
   obtain⟨J,rfl,g2⟩:=f0.out _ _ _ _ j lk a8 A
   obtain⟨d0,d1,e0,e2,e7,e5,e4⟩:=a0.out _ _ _ _ A
   have d8:=aa (fun V C=>d7.out V TJ N LJ lk C)
   have f1:Hid (iZ P n q b x (N,LJ) lk=sr P n q b ({N with gr:=(Pi.bM N.gr (x:Int) lk).2},LJ) (Pi.bM N.gr (x:Int) lk).1.1 lk):=rfl
   generalize (Pi.bM N.gr (x:Int) lk).1.1=un at*
   generalize (Pi.bM N.gr (x:Int) lk).1.2=ue at*
   generalize {N with gr:=(Pi.bM N.gr (x:Int) lk).2}=N1 at*
   have f5:Hid (∀V,SX w F V c a P n q TJ N1 d b LJ O->aB 167 #[ak d,ab un,ab lk] V fun s z=>s=aS #[]/\SX w F z c a P n q (TJ+n+1) (sr P n q b (N1,LJ) un lk).1 d b (sr P n q b (N1,LJ) un lk).2 O):=fun V C=>C.sq z_ d4 un lk a6
   have d6:=aa A
   clear A H a6
   go_upto_region 4 with fail
   go_region_held3 (fun z=>z.cell? (ao d)=some (ak a.m)/\z.cell? (af a.m 7)=some (ak a.gb)/\z.cell? (ao bx)=some (ab x))
    (first|(have hk:=a0.out _ _ _ _ HU2.out;grind)|go_keep)
    (first
     |(go_at_call 165;refine cH (d8.out _ (by exact SX.dc d6.out rfl rfl rfl rfl)) fun w2 HU2=> ?_))
   rename_i hHeld
   clear hHeld
   go_wp2_with (go_at_call 167;refine cH (f5.out _ (by exact SX.dc HU2.out rfl rfl rfl rfl)) fun w3 f7=> ?_)
   go_roundw
   case rel=>exact⟨j+1,z_,by go_num,by rw[f3.out,e3.out,f1.out];exact f7.out⟩
   case measure=>simp[RowKit.intOf];omega
  ·have b7: ¬(j:Int)<D.length:=by omega
   have d2:j=D.length:=z_
   subst d2
   rw[List.take_length] at A H
   have I:T+(n+1)*D.length<=TT:=by have:=Nat.mul_le_mul_left (n+1) d5;have:=c1.out;omega
   replace A:=A.bZ I
   rw[e8.out] at A H
   dsimp only at A H
   have HG:=aa A
   obtain⟨d0,d1,e0,e2,e7,e5,e4⟩:=a0.out _ _ _ _ A
   have e9:Hid (∀V,SX w F V c a P n q TT N d b LN O->aB 199 #[ak a.tb,.agg #[ab x,aM g]] V fun s z=>(∃u:Int,s= .returned (ab u))/\SX w F z c a P n q TT {N with S:=pO n N.G N.S (x:Int) g} d b LN O):=fun V C=>C.lift (R:=fun s=> ∃u:Int,s= .returned (ab u)) (fun _ p=>p.release (x:Int) g)
   have d9:Hid (∀V,SX w F V c a P n q TT {N with S:=pO n N.G N.S (x:Int) g} d b LN O->(∃t,bC V a.th (x*10) t)/\(∀o,V.frozen? (af a.th o)=false)/\SX w F (kL V a.th (x*10) iq) c a P n q TT {N with S:=pO n N.G N.S (x:Int) g,th:=ay N.th x iq} d b LN O):=fun V C=>⟨⟨_,C.tr hx⟩,C.Gb,C.goes (fun _ p=>p.Pt hx iq Jb)⟩
   have e6:Hid (∀V,SX w F V c a P n q TT {N with S:=pO n N.G N.S (x:Int) g,th:=ay N.th x iq} d b LN O->(∃r:Int,V.cell? (af a.pr (b*3))=some (ab r))/\V.frozen? (af a.pr (b*3))=false/\SX w F (V.setCell (af a.pr (b*3)) (ab (-1))) c a P n q TT (pC n N b x g) d b LN O):=fun V C=>⟨⟨_,(C.pc hp).c0⟩,C.yS _,C.qJ hp (-1)⟩
   have e1:Hid (∀V,SX w F V c a P n q TT (pC n N b x g) d b LN O->aB 120 #[ak d,ab 10,.agg #[ab x,aM g],ab 0] V fun s z=>s=aS #[]/\SX w F z c a P n q TT (pC n N b x g) d b (LN++[⟨10,(b:Int),(x:Int),g,0,0⟩]) O):=fun V C=>C.tell z_ 10 (x:Int) g 0
   have E:=aa (fun V T' M' e C=>a0.out V T' M' e C)
   clear A H I
   go_wp2
   go_region_held3 (fun z=>z.cell? (ao d)=some (ak a.m)/\z.cell? (af a.m 5)=some (ak a.tb)/\z.cell? (ao bx)=some (ab x)/\z.cell? (af bx 1)=some (aM g))
    (first|(have hk:=E.out _ _ _ _ HG2.out;grind)|go_keep)
    (first
     |(go_at_call 199;refine(e9.out _ (by exact SX.dc HG.out rfl rfl rfl rfl)).mono ?_;rintro s w2 ⟨⟨cr,rfl⟩,Y⟩;have HG2:=aa Y;clear Y))
   rename_i hHeld
   clear hHeld
   obtain⟨p0,p1,u0,u2,u7,u5,u4⟩:=E.out _ _ _ _ HG2.out
   obtain⟨⟨t0,⟨y0,y1,y2,y3,y4,y5,y6,y7,y8,y9⟩⟩,yf,a1⟩:=d9.out _ HG2.out
   have a3:=aa a1
   clear a1 d0 d1 e0 e2 e7 e5 e4
   obtain⟨w3,a5⟩: ∃w3,kL w2 a.th (x*10) iq=w3:=⟨_,rfl⟩
   rw[a5] at a3
   have b9:Hid (((((((((((w2.setCell (af a.th (x*10)) (ab 0)).setCell (af a.th (x*10+1)) (aM 0)).setCell (af a.th (x*10+2)) (ab 0)).setCell (af a.th (x*10+3)) (aA 0)).setCell (af a.th (x*10+4)) (aA 0)).setCell (af a.th (x*10+5)) (ab 0)).setCell (af a.th (x*10+6)) (ab 0)).setCell (af a.th (x*10+7)) (ab 0)).setCell (af a.th (x*10+8)) (ab 0)).setCell (af a.th (x*10+9)) (aj 0))=w3):=a5
   clear a5 d3
   obtain⟨n1,n2,n3,n4⟩:=HG2.out.sep
   have Q:=b6.out
   have n5: ¬a.th=bx:=z_
   have n6: ¬bx=a.th:=z_
   clear Q
   go_wp2
   go_region_held3 (fun z=>z.cell? (ao d)=some (ak a.m)/\z.cell? (af a.m 4)=some (.slice (some (ao a.th)) n a.xt)/\z.cell? (ao bx)=some (ab x))
    (go_keep)
    (first|fail)
   rename_i hHeld
   clear hHeld
   rw[b9.out]
   clear b9 y0 y1 y2 y3 y4 y5 y6 y7 y8 y9 yf p0 p1 u0 u2 u7 u5 u4 n1 n2 n3 n4 n5 n6
   have b3:SX w F w3 c a P n q TT {N with S:=pO n N.G N.S (x:Int) g,th:=ay N.th x iq} d b LN O:=a3.out
   obtain⟨p0,p1,u0,u2,u7,u5,u4⟩:=E.out _ _ _ _ b3
   obtain⟨⟨r,z0⟩,z1,hz⟩:=e6.out _ b3
   have HZ:=aa hz
   have a4:=E.out _ _ _ _ hz
   have v0:=a4.1
   have v1:=a4.2.1
   have Q:=b6.out
   have n7: ¬a.pr=bx:=z_
   have n8: ¬bx=a.pr:=z_
   clear hz a4 b3 Q
   go_wp2_with (go_at_call 120;refine cH (e1.out _ (by exact SX.dc HZ.out rfl rfl rfl rfl)) fun w5 f6=> ?_)
   go_end0
   exact⟨rfl,(f6.out.ahead c8.out).ahead f8.out⟩
end
end Go.Proofs.YtnmhcgpnhlhcgaaGreatDoor
namespace Go.Proofs.YtnmhcgpnhlhcgaaGreatDoor
open Go.RowKit Go.Lib Go.Shelf
noncomputable def rW (n b x:Nat) (M:Mc) (l:List Ev) (a:Int):Mc×List Ev×Bool:=
 if (Pi.cU M.gr (M.th x).p a).1.2≠0 then(dE M x a,l++[⟨6,(b:Int),(M.th x).p,(M.th x).g,2,(Pi.cU M.gr (M.th x).p a).1.2⟩],false)
 else if (Pi.cU M.gr (M.th x).p a).1.1=true then(dE M x a,l++[⟨5,(b:Int),(M.th x).p,(M.th x).g,2,0⟩]++[⟨8,(b:Int),(M.th x).p,(M.th x).g,a,0⟩],false)
 else(jz {dE M x a with S:=cJ n M.G M.S (M.th x).p (M.th x).g 3} b (-1),l++[⟨5,(b:Int),(M.th x).p,(M.th x).g,2,0⟩]++[⟨7,(b:Int),(M.th x).p,(M.th x).g,a,0⟩],true)
noncomputable def Cd (P n q b x:Nat) (M:Mc) (l:List Ev) (a:Int):Mc×List Ev×Bool:=
 if (Pi.bM M.gr (M.th x).p a).1.2≠0 then(yD M x a,l++[⟨6,(b:Int),(M.th x).p,(M.th x).g,3,(Pi.bM M.gr (M.th x).p a).1.2⟩],false)
 else((sr P n q b (yD M x a,l++[⟨5,(b:Int),(M.th x).p,(M.th x).g,3,0⟩]) (Pi.bM M.gr (M.th x).p a).1.1 a).1,(sr P n q b (yD M x a,l++[⟨5,(b:Int),(M.th x).p,(M.th x).g,3,0⟩]) (Pi.bM M.gr (M.th x).p a).1.1 a).2,true)
noncomputable def Jv (P n q a x:Nat) (M:Mc) (y:Nat) (b:Int):Mc:=iJ P n q M y (a:Int) (gA b (M.th x).lv (-1))
noncomputable def Bv (P n q a x:Nat) (M:Mc) (l:List Ev) (b:Int):Mc×List Ev×Bool:=
 if iF M b=false then(M,l++[⟨6,(a:Int),(M.th x).p,(M.th x).g,4,2⟩],false)
 else match cM M n with
  |none=>(M,l++[⟨6,(a:Int),(M.th x).p,(M.th x).g,4,4⟩],false)
  |some y=>(Jv P n q a x M y b,l++[⟨5,(a:Int),((Jv P n q a x M y b).th x).p,((Jv P n q a x M y b).th x).g,4,0⟩]++[⟨9,(a:Int),(y:Int),M.G y+1,b,0⟩],true)
noncomputable def Ca (P n q a x:Nat) (M:Mc) (l:List Ev):Mc×List Ev×Bool:=
 (pC n (oe P n q a x M (l++[⟨5,(a:Int),(M.th x).p,(M.th x).g,9,0⟩]) (Pi.gW M.gr.T M.gr.L (x:Int))).1 a x (M.th x).g,(oe P n q a x M (l++[⟨5,(a:Int),(M.th x).p,(M.th x).g,9,0⟩]) (Pi.gW M.gr.T M.gr.L (x:Int))).2++[⟨10,(a:Int),(x:Int),(M.th x).g,0,0⟩],true)
noncomputable def Ah (P n q a x:Nat) (M:Mc) (l:List Ev) (b c:Int):Mc×List Ev×Bool:=
 if b=2 then rW n a x M l c
 else if b=3 then Cd P n q a x M l c
 else if b=4 then Bv P n q a x M l c
 else if b=5 then(nJ n M a x c.toNat,l++[⟨5,(a:Int),(M.th x).p,(M.th x).g,5,0⟩],true)
 else if b=6 then(jr P n q M a x,l++[⟨5,(a:Int),(M.th x).p,(M.th x).g,6,0⟩],true)
 else if b=7 then(pI M x c.toNat,l++[⟨5,(a:Int),(M.th x).p,(M.th x).g,7,0⟩],true)
 else if b=9 then Ca P n q a x M l
 else(M,l++[⟨5,(a:Int),(M.th x).p,(M.th x).g,b,0⟩],true)
def zn (n:Nat):Nat:=(n+1)*32+n+1
section
variable {w W:World} {b d:Nat->Nat} {a:Ad} {P n q T T':Nat} {M M':Mc} {c pr:Nat} {l e:List Ev} {O:Nat->Prop}
structure Of (P n q pr x:Nat) (M:Mc) (l:List Ev) (op ar:Int):Prop where
 ln:l.length<=100
 hp:pr<P
 hx:x<n
 r:(M.pc pr).r=(x:Int)
 p:(M.th x).p=(x:Int)
 g:Lj M n
 a5:op=5->0<=ar/\ar<9223372036854775808
 a7:op=7->0<=ar/\ar<256
 ul:(Pi.bM M.gr (M.th x).p ar).1.1= -1\/ ∃y:Nat,y<n/\(Pi.bM M.gr (M.th x).p ar).1.1=(y:Int)
 h32:(Pi.gW M.gr.T M.gr.L (x:Int)).length<=32
 ex: ∀(l:List Ev) (j:Nat) (lk:Int),(Pi.gW M.gr.T M.gr.L (x:Int))[j]? =some lk->(Pi.bM (oe P n q pr x M l ((Pi.gW M.gr.T M.gr.L (x:Int)).take j)).1.gr (x:Int) lk).1.1= -1\/ ∃y:Nat,y<n/\(Pi.bM (oe P n q pr x M l ((Pi.gW M.gr.T M.gr.L (x:Int)).take j)).1.gr (x:Int) lk).1.1=(y:Int)
def SG.Ni (h:SG w W b a P n q T M c pr l O) (z o:Int) (x:Nat) (A:Of P n q pr x M l z o) (hT:T+zn n<=1000000000):
  aB 126 #[ak c,.pointer (some (af a.th (x*10))),.agg #[ab z,ab o]] W fun f t=>f=mA (Ah P n q pr x M l z o).2.2/\SX w W t b a P n q (T+zn n) (Ah P n q pr x M l z o).1 c pr (Ah P n q pr x M l z o).2.1 O:=by
 have hl:=A.ln
 have u:=A.hx
 have H:=A.hp
 have F:T+n<=1000000000:=by unfold zn at hT;omega
 have s:T<=T+zn n:=z_
 have E:T+n+1<=T+zn n:=by unfold zn;omega
 have L:T+(n+1)*32<=T+zn n:=by unfold zn;omega
 unfold Ah
 by_cases Z:z=2
 ·subst Z
  rw[if_pos rfl]
  unfold rW
  by_cases B:(Pi.cU M.gr (M.th x).p o).1.2≠0
  ·rw[if_pos B]
   exact(h.tO x o false (fun V v=>(v.Ik z_ H x u 2 o B).mono (fun f t m=>⟨m.1,m.2⟩))).mono (fun f t m=>⟨m.1,m.2.bZ s⟩)
  ·rw[if_neg B]
   have D:(Pi.cU M.gr (M.th x).p o).1.2=0:=z_
   by_cases I:(Pi.cU M.gr (M.th x).p o).1.1=true
   ·rw[if_pos I]
    exact(h.tO x o false (fun V v=>(v.EM z_ H x u 2 o (Prod.ext I D)).mono (fun f t m=>⟨m.1,m.2⟩))).mono (fun f t m=>⟨m.1,m.2.bZ s⟩)
   ·rw[if_neg I]
    exact(h.tO x o true (fun V v=>(v.nH z_ H x u 2 o (Prod.ext y_ D)).mono (fun f t m=>⟨m.1,m.2⟩))).mono (fun f t m=>⟨m.1,m.2.bZ s⟩)
 rw[if_neg Z]
 by_cases Y:z=3
 ·subst Y
  rw[if_pos rfl]
  unfold Cd
  by_cases B:(Pi.bM M.gr (M.th x).p o).1.2≠0
  ·rw[if_pos B]
   exact(h.tR z_ x u o _ _ rfl rfl B).mono (fun f t m=>⟨m.1,m.2.bZ s⟩)
  ·rw[if_neg B]
   have D:(Pi.bM M.gr (M.th x).p o).1.2=0:=z_
   exact(h.Cj z_ x u o _ rfl D (fun W0 V v=>v.sq y_ F _ o A.ul)).mono (fun f t m=>⟨m.1,m.2.bZ E⟩)
 rw[if_neg Y]
 by_cases X:z=4
 ·subst X
  rw[if_pos rfl]
  unfold Bv
  cases B:iF M o with
  |false=>
   rw[if_pos rfl]
   exact(h.oG z_ x u o 2 x_ ⟨0,0,0,0,0,0⟩ (fun V v=>v.FG x o B)).mono (fun f t m=>⟨m.1,m.2.bZ s⟩)
  |true=>
   rw[if_neg q_]
   cases I:cM M n with
   |none=>
    exact(h.oG z_ x u o 4 x_ ⟨0,0,0,0,0,0⟩ (fun V v=>v.uP x u o B ⟨0,0,0,0,0,0⟩ 4 (fun W0 V' C=>C.Kx (R:=fun f=>f=aS #[.agg #[ab 0,ab 0,ab 0,aM 0,ab 0,ab 0],ab 4]) (fun _ i=>i.xk A.g (pr:Int) (gA o (M.th x).lv (-1)) I)))).mono (fun f t m=>⟨m.1,m.2.bZ s⟩)
   |some y=>
    refine(h.Gs (T':=T+n+1) (M':=Jv P n q pr x M y o) z_ x u o ⟨9,(pr:Int),(y:Int),M.G y+1,o,0⟩ (fun V v=>v.uP x u o B ⟨9,(pr:Int),(y:Int),M.G y+1,o,0⟩ 0 (fun W0 V' C=> ?_))).mono (fun f t m=>⟨m.1,m.2.bZ E⟩)
    have J:(gA o (M.th x).lv (-1)).ok:=by
     obtain⟨lk,i⟩:=C.i
     exact xf _ _ _ (i.th.ok x u).lv
    exact C.lift (R:=fun f=>f=aS #[.agg #[ab 9,ab pr,ab y,aM ((M.G y+1:Nat):Int),ab o,ab 0],ab 0]) (fun _ i=>i.su F A.g (pr:Int) (gA o (M.th x).lv (-1)) J y I)
 rw[if_neg X]
 by_cases U:z=5
 ·subst U
  rw[if_pos rfl]
  obtain⟨h5,a1⟩:=A.a5 rfl
  obtain⟨k,rfl⟩:=yY0 h5
  exact(h.G6 z_ H x u k z_).mono (fun f t m=>⟨m.1,m.2.bZ s⟩)
 rw[if_neg U]
 by_cases S:z=6
 ·subst S
  rw[if_pos rfl]
  exact(h.Eb z_ x u H F A.r o).mono (fun f t m=>⟨m.1,m.2.bZ E⟩)
 rw[if_neg S]
 by_cases Q:z=7
 ·subst Q
  rw[if_pos rfl]
  obtain⟨h7,a0⟩:=A.a7 rfl
  obtain⟨k,rfl⟩:=yY0 h7
  exact(h.JW z_ x u _ k z_ (by simp[IntKind.wrap,IntKind.bits,IntKind.signed];omega)).mono (fun f t m=>⟨m.1,m.2.bZ s⟩)
 rw[if_neg Q]
 by_cases N:z=9
 ·subst N
  rw[if_pos rfl]
  unfold Ca
  refine(h.Ht (T':=T+(n+1)*32) z_ x u o (fun W0 V v=> ?_)).mono (fun f t m=>⟨m.1,m.2.bZ L⟩)
  have hc:=v.call (R:=fun f=>f=aS #[]) (fun O1 hs=>hs.FH y_ H x u (M.th x).g _ rfl A.h32 z_ (fun j lk hj=>A.ex _ j lk hj))
  have f:(M.th x).p=(x:Int):=A.p
  simp only[f] at hc|-
  exact hc
 rw[if_neg N]
 exact(h.Fj z_ x u z o Z Y X U S Q N).mono (fun f t m=>⟨m.1,m.2.bZ s⟩)
end
noncomputable def eM (M:Mc) (x:Nat):Pm:=(M.pr[(M.th x).pg.toNat]?).getD ⟨0,fun _=>0,fun _=>0⟩
noncomputable def C5 (M:Mc) (x:Nat):Mc:=xw M x (PS (eM M x) (M.th x).ia) (NA (eM M x) (M.th x).ia (M.th x).il)
noncomputable def lu (P n q pr x:Nat) (M:Mc) (l:List Ev):Mc×List Ev×Bool:=
 if 0<(M.th x).il then(M,l++[⟨2,(pr:Int),(M.th x).p,(M.th x).g,0,0⟩],false)
 else Ah P n q pr x (C5 M x) l (Fm (eM M x) (M.th x).ia) (B7 (eM M x) (M.th x).ia)
noncomputable def Kv (P a:Nat) (M:Mc) (d:Int):Bool:=decide ((M.pc a).r≠ -1)&&(bb P (gh M.pl) (a:Int) d).isSome&&gives P M a d
noncomputable def vx (P n q a:Nat) (M:Mc) (d:Int):Mc:=if Kv P a M d then jr P n q M a (M.pc a).r.toNat else M
noncomputable def Jf (P pr:Nat) (M:Mc) (d:Int):List Ev:=if Kv P pr M d then [⟨4,(pr:Int),(M.th (M.pc pr).r.toNat).p,(M.th (M.pc pr).r.toNat).g,0,0⟩] else []
noncomputable def NW (P n pr:Nat) (M:Mc) (l:List Ev) (d:Int):Mc×List Ev:=
 if (bb P (gh M.pl) (pr:Int) d).isSome then(fV P n M pr (bI (gh M.pl) (bb P (gh M.pl) (pr:Int) d)).toNat d,l++[⟨3,(pr:Int),(M.th (bI (gh M.pl) (bb P (gh M.pl) (pr:Int) d)).toNat).p,(M.th (bI (gh M.pl) (bb P (gh M.pl) (pr:Int) d)).toNat).g,bA (bb P (gh M.pl) (pr:Int) d),0⟩])
 else(EP P M pr d,l++[⟨1,(pr:Int),0,0,0,0⟩])
noncomputable def rC (P n q pr:Nat) (M:Mc) (d:Int):Mc×List Ev:=
 if ((vx P n q pr M d).pc pr).r= -1 then NW P n pr (vx P n q pr M d) (Jf P pr M d) d
 else((lu P n q pr (M.pc pr).r.toNat M []).1,(lu P n q pr (M.pc pr).r.toNat M []).2.1)
noncomputable def Mh (P n q a:Nat) (M:Mc) (d:Int):Mc:=settle (rC P n q a M d).1 n
noncomputable def Ml (P n q pr:Nat) (M:Mc) (d:Int):List Ev:=(rC P n q pr M d).2
def Fu (P n q:Nat) (M:Mc) (a x:Nat):((jr P n q M a x).pc a).r= -1:=by
 unfold jr jz
 grind[ay]
structure DL (P n q pr:Nat) (M:Mc):Prop where
 r:(M.pc pr).r= -1\/ ∃x:Nat,x<n/\(M.pc pr).r=(x:Int)
 pg: ∀x:Nat,(M.pc pr).r=(x:Int)-> ∃g:Nat,g<M.pr.length/\(M.th x).pg=(g:Int)
 dk: ∀x:Nat,(M.pc pr).r=(x:Int)-> ¬0<(M.th x).il->Of P n q pr x (C5 M x) [] (Fm (eM M x) (M.th x).ia) (B7 (eM M x) (M.th x).ia)
 il: ∀x:Nat,(M.pc pr).r=(x:Int)->NA (eM M x) (M.th x).ia (M.th x).il<9223372036854775808
def IW (n:Nat):Nat:=n+2+zn n+n
section
variable {w W:World} {c e:Nat->Nat} {a:Ad} {P n q T g:Nat} {M i:Mc} {d b:Nat} {l f:List Ev} {O:Nat->Prop}
def SG.Fz (h:SG w W c a P n q T M d b l O) (J:l=[]) (I:b<P) (x:Nat) (z:x<n) (s:(M.pc b).r=(x:Int)) (A:DL P n q b M) (N:T+zn n<=1000000000):
  aB 77 #[ak d] W fun m G=>m=mA (lu P n q b x M l).2.2/\SX w W G c a P n q (T+zn n) (lu P n q b x M l).1 d b (lu P n q b x M l).2.1 O:=by
 subst J
 obtain⟨k,L,t⟩:=A.pg x s
 have v:M.pr[k]? =some (M.pr[k]):=zX0 L
 have D:eM M x=M.pr[k]:=by
  unfold eM
  grind
 by_cases E:0<(M.th x).il
 ·have m:lu P n q b x M []=(M,[]++[⟨2,(b:Int),(M.th x).p,(M.th x).g,0,0⟩],false):=by unfold lu;grind
  rw[m]
  obtain⟨lk,j⟩:=h.sx.i
  refine(h.sx.Bc q_ I x z s k _ v t 0 0 (M.th x).ia (M.th x).il (j.th.ok x z).il true false T M _ (fun Q F V _ _ y=>CI _ _ E V y) (fun _=>⟨rfl,rfl,rfl,rfl⟩) (fun q=>by cases q)).mono (fun m G H=>⟨H.1,H.2.bZ z_⟩)
 ·have m:lu P n q b x M []=Ah P n q b x (C5 M x) [] (Fm (eM M x) (M.th x).ia) (B7 (eM M x) (M.th x).ia):=by unfold lu;grind
  rw[m]
  have o:=A.dk x s E
  have u:=A.il x s
  unfold C5 at o|-
  rw[D] at o u|-
  refine(h.sx.Bc q_ I x z s k _ v t (Fm M.pr[k] (M.th x).ia) (B7 M.pr[k] (M.th x).ia) (PS M.pr[k] (M.th x).ia) (NA M.pr[k] (M.th x).ia (M.th x).il) u false _ _ _ _ (fun Q F V C B y=>Ja C B _ _ E V y) (fun q=>by cases q) (fun _ V R y=>y.Ni _ _ x o N))
def ov {P:Nat} {M:Mc} {j:Int} (h:Kv P b M j=true):(M.pc b).r≠ -1/\(bb P (gh M.pl) (b:Int) j).isSome=true/\gives P M b j=true:=by
 unfold Kv at h
 grind
def SG.wz (h:SG w W c a P n q T M d b [] O) (s:b<P) (k:Int) (t:0<=k/\k<18446744073709551616) (y:DL P n q b M) (B:T+n<=1000000000):
  aB 75 #[ak d,aj k] W fun j p=>j=aS #[]/\SX w W p c a P n q (T+n+1) (vx P n q b M k) d b (Jf P b M k) O:=by
 unfold vx Jf
 cases z:Kv P b M k with
 |true=>
  rw[if_pos rfl,if_pos rfl]
  obtain⟨E,D,C⟩:=ov z
  obtain⟨x,u,o⟩:=y.r.resolve_left E
  rw[o,show((x:Int)).toNat=x by omega]
  exact h.sx.yR q_ B s k t x u o D C
 |false=>
  rw[if_neg q_,if_neg q_]
  rcases y.r with o|⟨x,u,o⟩
  ·exact(h.sx.oI s k t (.inl o)).mono (fun j p m=>⟨m.1,m.2.bZ z_⟩)
  ·cases A:(bb P (gh M.pl) (b:Int) k).isSome with
   |false=>exact(h.sx.oI s k t (.inr A)).mono (fun j p m=>⟨m.1,m.2.bZ z_⟩)
   |true=>
    have v:gives P M b k=false:=by
     unfold Kv at z
     grind
    exact(h.sx.uf s k t x u o A v).mono (fun j p m=>⟨m.1,m.2.bZ z_⟩)
def SG.Im (h:SG w W c a P n q T M d b [] O) (y:b<P) (o:Int) (G:0<=o/\o<18446744073709551616) (E:DL P n q b M) (U:T+n+2+zn n<=1000000000):
  aB 41 #[ak d,aj o] W fun m z=>m=aS #[]/\SX w W z c a P n q (T+n+2+zn n) (rC P n q b M o).1 d b (rC P n q b M o).2 O:=by
 have t:=h.wz y o G E z_
 have N:(Jf P b M o).length<=1:=by unfold Jf;grind
 unfold rC
 by_cases s:((vx P n q b M o).pc b).r= -1
 ·rw[if_pos s]
  refine CX t (fun V v=> ?_)
  unfold NW
  cases H:(bb P (gh (vx P n q b M o).pl) (b:Int) o).isSome with
  |false=>
   rw[if_neg q_]
   exact(v.tM z_ y o G s H).mono (fun m z p=>⟨p.1,p.2.bZ z_⟩)
  |true=>
   rw[if_pos rfl]
   obtain⟨lk,j⟩:=v.i
   obtain⟨Y,F,_⟩:=j.pl
   obtain⟨x,k,C,B,_⟩:=qN F H
   rw[B,show((x:Int)).toNat=x by omega]
   exact(v.rr z_ y o G s H x C B).mono (fun m z p=>⟨p.1,p.2.bZ z_⟩)
 ·rw[if_neg s]
  have L:Kv P b M o=false:=by
   cases Q:Kv P b M o with
   |false=>rfl
   |true=>exact absurd (by unfold vx;rw[if_pos Q];exact Fu _ _ _ _ _ _) s
  have J:vx P n q b M o=M:=by unfold vx;grind
  have S:Jf P b M o=[]:=by unfold Jf;grind
  rw[J,S] at t
  rw[J] at s
  obtain⟨x,C,A⟩:=E.r.resolve_left s
  rw[A,show((x:Int)).toNat=x by omega]
  have u:=fun V (v:SX w W V c a P n q (T+n+1) M d b [] O)=>v.call (R:=fun m=>m=mA (lu P n q b x M []).2.2) (fun X D=>D.Fz rfl y x C A E z_)
  cases I:(lu P n q b x M []).2.2 with
  |false=>
   rw[I] at u
   exact(Eu t (fun V v=>v.mJ y o s) u).mono (fun m z p=>⟨p.1,p.2.bZ z_⟩)
  |true=>
   rw[I] at u
   exact(IK t (fun V v=>v.mJ y o s) u).mono (fun m z p=>⟨p.1,p.2.bZ z_⟩)
def ax.pN (h:ax w c a P n q T M) (r:b<P) (k:Int) (u:0<=k/\k<18446744073709551616) (t:DL P n q b M) (s:T+IW n<=1000000000):
  aB 14 #[ak a.m,ab b,aj k] w fun j p=> ∃v,j=aS #[v,ab 0]/\fK p w.heap.size v (Ml P n q b M k)/\dF w p c a P n q (T+IW n) (Mh P n q b M k) v:=by
 have o:T+IW n=T+n+2+zn n+n:=by unfold IW;omega
 rw[o] at s|-
 exact h.FN r k s (fun y O x=>x.Im r k u t z_)
end
end Go.Proofs.YtnmhcgpnhlhcgaaGreatDoor
namespace Go.Proofs.YtnmhcgpnhlhcgaaGreatDoor
open Go.RowKit
def zP (M:Mc) (x:Nat):Prop:= ∃k,uE M.pl (x,k)
def Uo (M:Mc) (x:Nat):Option Int:=(M.gr.T[x]?).map (·.u)
def Iy {n:Nat} {G:List (List En)} {x:Nat} {k:Ke.K} (y:Nat):(∃a,uE (gU n (gh G) (x:Int) k) (y,a))↔ ∃a,uE G (y,a):=by
 unfold gU
 split
 case isFalse=>rw[fy]
 case isTrue=>
  rw[fy]
  generalize K3 n (gh G) (x:Int)=i
  cases hi:G[i]? with
  |none=>rw[List.set_eq_of_length_le (List.getElem?_eq_none_iff.1 hi)]
  |some X=>
   rw[eR (AP hi)]
   have g:=(i6.1 hi).1
   have c: ∀y,(∃a,(y,a)∈fk n X (x:Int) k)↔ ∃a,(y,a)∈X:=by
    intro y
    unfold fk
    split
    case isFalse=>rfl
    case isTrue hc=>
     split
     case isTrue=>rfl
     case isFalse=>
      have o:(keyOf X ((x:Int)).toNat).isSome=true:=by
       unfold jA at hc
       grind
      rw[show((x:Int)).toNat=x by omega] at o|-
      have p: ∃a,(x,a)∈X:=by
       apply Classical.byContradiction
       intro l
       have:keyOf X x=none:=cw.2 (fun z hz e=>l ⟨z.2,y_⟩)
       grind
      constructor
      ·rintro⟨a,d⟩
       rcases fh.1 d with q|q
       ·grind
       ·exact⟨a,(ku.1 q).1⟩
      ·rintro⟨a,d⟩
       by_cases e:y=x
       ·exact⟨k,fh.2 (.inl (by rw[e]))⟩
       ·exact⟨a,fh.2 (.inr (ku.2 ⟨d,e⟩))⟩
   constructor
   ·rintro⟨a,j,Y,b,f⟩
    by_cases e:j=i
    ·subst e
     rw[List.getElem?_set_self g] at b
     injection b with b
     subst b
     obtain⟨h,m⟩:=(c y).1 ⟨a,f⟩
     exact⟨h,_,X,hi,m⟩
    ·rw[List.getElem?_set_ne (fun q=>e q.symm)] at b
     exact⟨a,j,Y,b,f⟩
   ·rintro⟨a,j,Y,b,f⟩
    by_cases e:j=i
    ·subst e
     rw[hi] at b
     injection b with b
     subst b
     obtain⟨h,m⟩:=(c y).2 ⟨a,f⟩
     exact⟨h,_,_,List.getElem?_set_self g,m⟩
    ·exact⟨a,j,Y,y_,f⟩
def Hn {n:Nat} {G:List (List En)} {x:Int} {k:Ke.K}:(gU n (gh G) x k).length=G.length:=by
 unfold gU
 split
 ·rw[List.length_set,fy]
 ·rw[fy]
def qX (n:Nat) (M:Mc) (g:Pi.Md) (y:Nat): ∀(l:List Nat) (G:List (List En)),((∃a,uE (l.foldl (mX n M g) G) (y,a))↔ ∃a,uE G (y,a))/\(l.foldl (mX n M g) G).length=G.length
 |[],G=>⟨Iff.rfl,rfl⟩
 |x::l,G=>by
  obtain⟨d,c⟩:=qX n M g y l (mX n M g G x)
  have b:((∃a,uE (mX n M g G x) (y,a))↔ ∃a,uE G (y,a))/\(mX n M g G x).length=G.length:=by
   unfold mX
   split
   ·exact⟨Iy y,Hn⟩
   simp
  grind
def yW (g:Pi.Md) (t:Int) (k:Ke.K) (h: ∀y∈g.T,Ke.aN y.k=true): ∀y∈(Pi.jc g t k).2.T,Ke.aN y.k=true:=by
 unfold Pi.jc
 grind
def FU (g:Pi.Md) (t:Int) (k:Ke.K):(Pi.jc g t k).2.T.length=g.T.length:=by
 unfold Pi.jc
 grind
def oH (n:Nat) (M:Mc): ∀(l:List Nat) (g:Pi.Md),(∀y∈g.T,Ke.aN y.k=true)->(∀y∈(l.foldl (mO n M) g).T,Ke.aN y.k=true)
 |[],g,h=>h
 |x::l,g,h=>oH n M l _ (yW g _ _ h)
def r6 (n:Nat) (M:Mc): ∀(l:List Nat) (g:Pi.Md),(l.foldl (mO n M) g).T.length=g.T.length
 |[],g=>rfl
 |x::l,g=>(r6 n M l _).trans (FU g _ _)
structure Kd (M R:Mc):Prop where
 qu:R.qu=M.qu
 ag:R.ag=M.ag
 pr:R.pr=M.pr
 pc:R.pc=M.pc
 th:R.th=M.th
 G:R.G=M.G
 S:R.S=M.S
 sv:R.sv=M.sv
 nw:R.nw=M.nw
 wh:R.wh=M.wh
 L:R.gr.L=M.gr.L
 U: ∀x,Uo R x=Uo M x
 tl:R.gr.T.length=M.gr.T.length
 kr:(∀y∈M.gr.T,Ke.aN y.k=true)-> ∀y∈R.gr.T,Ke.aN y.k=true
 ip: ∀x,zP R x↔zP M x
 pl:R.pl.length=M.pl.length
def sy (M:Mc) (n:Nat):Kd M (settle M n):=
 ⟨rfl,rfl,rfl,rfl,rfl,rfl,rfl,rfl,rfl,rfl,FQ M n,fun x=>Gp M n x,r6 n M _ _,fun h=>oH n M _ _ h,fun x=>(qX n M _ x _ _).1,(qX n M _ 0 _ _).2⟩
def BW {k a:Ke.K} (h:Ke.aN k=true) (b:Ke.aN a=true):Ke.aN (Ke.ir k a)=true:=by
 unfold Ke.ir
 grind
def xh {T:List Pi.Th} {L:List Pi.Lk} (h: ∀x∈T,Ke.aN x.k=true): ∀m t,Ke.aN (Pi.kf T L m t)=true
 |m,t=>by
  have c:Ke.aN (Pi.oQ T t)=true:=by
   unfold Pi.oQ
   cases e:T[t]? with
   |none=>rfl
   |some x=>grind
  cases m with
  |zero=>exact c
  |succ m=>
   unfold Pi.kf
   have: ∀(l:List Nat) (k:Ke.K),Ke.aN k=true->Ke.aN (l.foldl (fun k x=>Ke.ir k (Pi.kf T L m x)) k)=true:=fun l=>by
    induction l with
    |nil=>simp
    |cons x l a=>exact fun k b=>a _ (BW b (xh h m x))
   grind
def xG {T:List Pi.Th} {L:List Pi.Lk} (h: ∀x∈T,Ke.aN x.k=true) (t:Int):Ke.aN (Pi.jo T L t)=true:=by
 unfold Pi.jo
 split
 ·unfold Pi.keyOf
  split
  ·exact xh h _ _
  ·rfl
 ·rfl
structure P9 (n:Nat) (M R:Mc) (x:Nat):Prop where
 qu:R.qu=M.qu
 ag:R.ag=M.ag
 pr:R.pr=M.pr
 pc:R.pc=M.pc
 th:R.th=ay M.th x {M.th x with sn:=M.nw,lf:=0}
 G:R.G=M.G
 S:R.S=ay M.S x 1
 sv:R.sv=if M.S x=2 then M.sv else Cb.pD M.sv (M.th x).sv M.nw
 nw:R.nw=M.nw
 wh:R.wh=M.wh
 L:R.gr.L=M.gr.L
 U: ∀y,Uo R y=Uo M y
 tl:R.gr.T.length=M.gr.T.length
 kr: ∀y∈R.gr.T,Ke.aN y.k=true
 ip: ∀y,zP R y↔y=x\/zP M y
 pl:R.pl.length=M.pl.length
def BO {s:Nat} (h:s=2\/s=3\/s=4):Gt.ry s 1=true:=by rcases h with rfl|rfl|rfl<;>rfl
def ka {P n q:Nat} {M:Mc} {x p:Nat} (m:x<n) (A:p<P) (o:M.pl.length=P+1) (t: ∀y∈M.gr.T,Ke.aN y.k=true) (B:M.S x=1\/M.S x=2\/M.S x=3\/M.S x=4) (d:(M.th x).p=(x:Int)) (f:(M.th x).g=M.G x) (r: ¬zP M x):P9 n M (ready P n q M x (p:Int)) x:=by
 have i:M.S x≠0:=z_
 have w:iM M n (M.th x)=M.S x:=Iu m d f i
 have s:cJ n M.G M.S (M.th x).p (M.th x).g 1=ay M.S x 1:=by
  rw[d,f]
  rcases B with h|h
  ·rw[Hb (by rw[h];rfl)]
   grind[ay]
  ·exact kj m i (BO h)
 have C:cY n M x={M with S:=ay M.S x 1,th:=ay M.th x {M.th x with sn:=M.nw,lf:=0}}:=by unfold cY;rw[s]
 have v:dt n M x={M with S:=ay M.S x 1,th:=ay M.th x {M.th x with sn:=M.nw,lf:=0},sv:=if M.S x=2 then M.sv else Cb.pD M.sv (M.th x).sv M.nw}:=by
  unfold dt
  grind
 have k:=sy (dt n M x) n
 rw[v] at k
 have u:cZ n M x=settle {M with S:=ay M.S x 1,th:=ay M.th x {M.th x with sn:=M.nw,lf:=0},sv:=if M.S x=2 then M.sv else Cb.pD M.sv (M.th x).sv M.nw} n:=by unfold cZ;rw[v]
 unfold ready
 rw[u]
 generalize settle {M with S:=ay M.S x 1,th:=ay M.th x {M.th x with sn:=M.nw,lf:=0},sv:=if M.S x=2 then M.sv else Cb.pD M.sv (M.th x).sv M.nw} n=R3 at*
 have a:=k.kr t
 refine⟨k.qu,k.ag,k.pr,k.pc,k.th,k.G,k.S,k.sv,k.nw,k.wh,k.L,k.U,k.tl,a,fun y=> ?_,(FW _ _ _).trans k.pl⟩
 have j: ∀z,uE R3.pl z->z.1≠x:=fun z hz e=>r ((k.ip x).1 ⟨z.2,by rw[<-e];exact hz⟩)
 have b:=Km (q:=q) (np:=P) (n:=n) (k.pl.trans o) A m (xG (L:=R3.gr.L) a (x:Int)) j
 constructor
 ·rintro⟨l,c⟩
  rcases(b (y,l)).1 c with q|q
  ·grind
  ·exact .inr ((k.ip y).1 ⟨l,q⟩)
 ·rintro(rfl|q)
  ·exact⟨_,(b _).2 (.inl rfl)⟩
  ·obtain⟨l,c⟩:=(k.ip y).2 q
   exact⟨l,(b _).2 (.inr c)⟩
structure NG (P:Nat) (M:Mc) (x:Nat):Prop where
 p:(M.th x).p=(x:Int)
 g:(M.th x).g=M.G x
 pg: ∃k:Nat,k<M.pr.length/\(M.th x).pg=(k:Int)
 pc: ∃p:Nat,p<P/\(M.th x).pc=(p:Int)
def NG.cg {P:Nat} {M R:Mc} {x:Nat} (t:NG P M x) (a:R.th x=M.th x) (c:R.G x=M.G x) (b:R.pr=M.pr):NG P R x:=
 ⟨by rw[a];exact t.p,by rw[a,c];exact t.g,by rw[a,b];exact t.pg,by rw[a];exact t.pc⟩
structure Iv (P n B:Nat) (D:List Nat) (M:Mc):Prop where
 tl:M.gr.T.length=n
 pl:M.pl.length=P+1
 kr: ∀y∈M.gr.T,Ke.aN y.k=true
 qu:1<=M.qu
 sl: ∀p,p<P->(M.pc p).s<M.qu
 r1: ∀p,p<P->(M.pc p).r= -1\/ ∃x:Nat,x<n/\(M.pc p).r=(x:Int)/\M.S x=2
 r2: ∀x,x<n->M.S x=2-> ∃p,p<P/\(M.pc p).r=(x:Int)
 r3: ∀p p',p<P->p'<P->(M.pc p).r=(M.pc p').r->(M.pc p).r≠ -1->p=p'
 th: ∀x,x<n->M.S x≠0->NG P M x
 st: ∀x,x<n->M.S x<=4
 rd: ∀x,zP M x↔x<n/\M.S x=1
 bl: ∀x,x<n->(M.S x=3↔Uo M x≠some (-1))
 sp: ∀x,x<n->(M.S x=4↔(∃it∈M.wh,it.i=x)\/x∈D)
 wl: ∀it∈M.wh,it.i<n
 wt: ∀(m:Nat) y,M.gr.L[m]? =some y-> ∀t∈y.l,t<n/\Uo M t=some (m:Int)
 nd: ∀y∈M.gr.L,y.l.Nodup
 l32:M.gr.L.length<=32
 gb: ∀x,x<n->M.G x<=B
section
variable {P n q B:Nat} {D:List Nat} {M R:Mc}
def Iv.kd (h:Iv P n B D M) (k:Kd M R):Iv P n B D R:=
 ⟨k.tl.trans h.tl,k.pl.trans h.pl,k.kr h.kr,by rw[k.qu];exact h.qu,by rw[k.pc,k.qu];exact h.sl,by rw[k.pc,k.S];exact h.r1,by rw[k.pc,k.S];exact h.r2,by rw[k.pc];exact h.r3,
  fun x a c=>(by rw[k.S] at c;have t:=h.th x a c;exact⟨by rw[k.th];exact t.p,by rw[k.th,k.G];exact t.g,by rw[k.th,k.pr];exact t.pg,by rw[k.th];exact t.pc⟩),by rw[k.S];exact h.st,
  fun x=>by rw[k.ip,k.S];exact h.rd x,fun x a=>by rw[k.S,k.U];exact h.bl x a,by rw[k.S,k.wh];exact h.sp,by rw[k.wh];exact h.wl,
  fun m y b t d=>by rw[k.L] at b;rw[k.U];exact h.wt m y b t d,by rw[k.L];exact h.nd,by rw[k.L];exact h.l32,by rw[k.G];exact h.gb⟩
theorem Iv.settle (h:Iv P n B D M):Iv P n B D (Go.Proofs.YtnmhcgpnhlhcgaaGreatDoor.settle M n):=h.kd (sy M n)
theorem Iv.more (h:Iv P n B D M) {a:Nat} (c:B<=a):Iv P n a D M:=⟨h.tl,h.pl,h.kr,h.qu,h.sl,h.r1,h.r2,h.r3,h.th,h.st,h.rd,h.bl,h.sp,h.wl,h.wt,h.nd,h.l32,fun x b=>zY0 (h.gb x b) c⟩
def Iv.GQ (h:Iv P n B D M) (x:Nat) (t:Tr) (j:t.p=(M.th x).p) (i:t.g=(M.th x).g) (f:t.pg=(M.th x).pg) (d:t.pc=(M.th x).pc):Iv P n B D {M with th:=ay M.th x t}:=by
 refine⟨h.tl,h.pl,h.kr,h.qu,h.sl,h.r1,h.r2,h.r3,fun y b c=> ?_,h.st,h.rd,h.bl,h.sp,h.wl,h.wt,h.nd,h.l32,h.gb⟩
 have a:=h.th y b c
 by_cases e:y=x
 ·subst e
  exact⟨by show(ay M.th y t y).p=_;rw[aE,j];exact a.p,by show(ay M.th y t y).g=_;rw[aE,i];exact a.g,by show∃k:Nat,k<M.pr.length/\(ay M.th y t y).pg=_;rw[aE,f];exact a.pg,by show∃p:Nat,p<P/\(ay M.th y t y).pc=_;rw[aE,d];exact a.pc⟩
 ·exact⟨by show(ay M.th x t y).p=_;rw[aq _ _ _ _ e];exact a.p,by show(ay M.th x t y).g=_;rw[aq _ _ _ _ e];exact a.g,by show∃k:Nat,k<M.pr.length/\(ay M.th x t y).pg=_;rw[aq _ _ _ _ e];exact a.pg,by show∃p:Nat,p<P/\(ay M.th x t y).pc=_;rw[aq _ _ _ _ e];exact a.pc⟩
def Iv.leave (h:Iv P n B D M) {a x s:Nat} (Q:a<P) (hx:x<n) (hr:(M.pc a).r=(x:Int)) (hs:s<=4) (a1:s≠2)
  (Z:R.S=ay M.S x s) (j:R.pc=ay M.pc a {M.pc a with r:= -1}) (g:R.qu=M.qu) (I:R.gr.T.length=n) (O:R.pl.length=P+1) (V: ∀y∈R.gr.T,Ke.aN y.k=true)
  (J: ∀y,y<n->R.S y≠0->NG P R y) (N: ∀y,zP R y↔(y=x/\s=1)\/zP M y) (W: ∀y,y<n->y≠x->Uo R y=Uo M y) (Y:s=3↔Uo R x≠some (-1))
  (H: ∀y,y<n->((∃d∈R.wh,d.i=y)↔(y=x/\s=4)\/ ∃d∈M.wh,d.i=y)) (F: ∀d∈R.wh,d.i<n) (E: ∀(m:Nat) y,R.gr.L[m]? =some y-> ∀t∈y.l,t<n/\Uo R t=some (m:Int)) (U: ∀y∈R.gr.L,y.l.Nodup) (hl:R.gr.L.length<=32) (hG:R.G=M.G):Iv P n B D R:=by
 have a0:M.S x=2:=by
  rcases h.r1 a Q with q|⟨y,_,A,z⟩
  ·omega
  grind
 have w: ∀y,y≠x->R.S y=M.S y:=fun y e=>by rw[Z,aq _ _ _ _ e]
 have ex:R.S x=s:=by rw[Z,aE]
 have v: ∀p,p≠a->R.pc p=M.pc p:=fun p e=>by rw[j,aq _ _ _ _ e]
 have X:R.pc a={M.pc a with r:= -1}:=by rw[j,aE]
 refine⟨I,O,V,by rw[g];exact h.qu,fun p b=> ?_,fun p b=> ?_,fun y c f=> ?_,fun p C b o e u=> ?_,J,fun y c=> ?_,fun y=> ?_,fun y c=> ?_,fun y c=> ?_,F,E,U,hl,by rw[hG];exact h.gb⟩
 ·rw[g]
  by_cases e:p=a
  ·rw[e,X];exact h.sl a Q
  ·rw[v p e];exact h.sl p b
 ·by_cases e:p=a
  ·grind
  ·rw[v p e]
   rcases h.r1 p b with q|⟨y,A,z,q3⟩
   ·omega
   ·refine .inr ⟨y,A,z,?_⟩
    rw[w y (fun e2=>e (h.r3 p a b Q z_ z_))]
    exact q3
 ·by_cases e:y=x
  ·grind
  ·rw[w y e] at f
   obtain⟨p,A,z⟩:=h.r2 y c f
   grind
 ·by_cases e1:p=a
  ·grind
  ·by_cases e2:C=a
   ·grind
   ·rw[v p e1,v C e2] at e
    rw[v p e1] at u
    exact h.r3 p C b o e u
 ·by_cases e:y=x
  ·grind
  ·rw[w y e];exact h.st y c
 ·rw[N,h.rd]
  grind
 ·by_cases e:y=x
  ·grind
  ·rw[w y e,W y c e];exact h.bl y c
 ·rw[H y c]
  have hm:=h.sp y c
  grind
def Iv.Dk (h:Iv P n B D M) {N:Mc} {x:Nat} {F:List Nat} (hx:x<n) (a:P9 n N R x)
  (E:N.qu=M.qu) (e2:N.pr=M.pr) (e3:N.pc=M.pc) (C: ∀y,y<n->y≠x->N.S y=M.S y/\N.G y=M.G y/\N.th y=M.th y) (c:NG P N x) (Q:M.S x≠2) (W:N.G x<=B)
  (s:N.gr.T.length=n) (v:N.pl.length=P+1) (u: ∀y,y≠x->(zP N y↔zP M y)) (X: ∀y,y<n->y≠x->Uo N y=Uo M y) (z:Uo N x=some (-1))
  (j:N.wh=M.wh) (I: ¬ ∃H∈M.wh,H.i=x) (Y: ∀y,y∈F↔y∈D/\y≠x) (J: ∀(m:Nat) y,N.gr.L[m]? =some y-> ∀t∈y.l,t<n/\Uo N t=some (m:Int)) (w: ∀y∈N.gr.L,y.l.Nodup) (V:N.gr.L.length<=32):Iv P n B F R:=by
 have k: ∀y,y<n->y≠x->R.S y=M.S y:=fun y b e=>by rw[a.S,aq _ _ _ _ e];grind
 have ex:R.S x=1:=by rw[a.S,aE]
 have d:R.pc=M.pc:=a.pc.trans e3
 refine⟨a.tl.trans s,a.pl.trans v,a.kr,by rw[a.qu,E];exact h.qu,by rw[d,a.qu,E];exact h.sl,fun p O=> ?_,fun y b f=> ?_,by rw[d];exact h.r3,fun y b A=> ?_,fun y b=> ?_,fun y=> ?_,fun y b=> ?_,fun y b=> ?_,by rw[a.wh,j];exact h.wl,
  fun m y b t ht=>by rw[a.L] at b;rw[a.U];grind,by rw[a.L];exact w,by rw[a.L];exact V,fun y b=> ?_⟩
 ·rw[d]
  rcases h.r1 p O with q|⟨y,q1,q2,q3⟩
  ·omega
  grind
 ·rw[d]
  by_cases e:y=x
  ·grind
  ·rw[k y b e] at f;exact h.r2 y b f
 ·by_cases e:y=x
  ·subst e
   exact⟨by rw[a.th,aE];exact c.p,by rw[a.th,aE,a.G];exact c.g,by rw[a.th,aE,a.pr];exact c.pg,by rw[a.th,aE];exact c.pc⟩
  ·rw[k y b e] at A
   have o:=h.th y b A
   obtain⟨_,Z,r⟩:=C y b e
   exact⟨by rw[a.th,aq _ _ _ _ e,r];exact o.p,by rw[a.th,aq _ _ _ _ e,a.G,r,Z];exact o.g,by rw[a.th,aq _ _ _ _ e,a.pr,r,e2];exact o.pg,by rw[a.th,aq _ _ _ _ e,r];exact o.pc⟩
 ·by_cases e:y=x
  ·grind
  ·rw[k y b e];exact h.st y b
 ·rw[a.ip]
  by_cases e:y=x
  ·grind
  ·rw[u y e,h.rd]
   grind
 ·by_cases e:y=x
  ·subst e
   rw[ex,a.U,z]
   simp
  ·rw[k y b e,a.U,X y b e];exact h.bl y b
 ·rw[a.wh,j,Y]
  by_cases e:y=x
  ·grind
  ·rw[k y b e,h.sp y b]
   grind
 ·rw[a.G]
  by_cases e:y=x
  ·grind
  ·rw[(C y b e).2.1];exact h.gb y b
end
section
variable {P n q B:Nat} {D:List Nat} {M R:Mc}
def Iv.run (h:Iv P n B D M) {a x:Nat} (b:a<P) (f:(M.pc a).r=(x:Int)):x<n/\M.S x=2:=by
 rcases h.r1 a b with q|⟨y,e,d,c⟩
 ·omega
 grind
def Iv.Mm (h:Iv P n B D M) {x:Nat} (a:x<n) (b:M.S x≠3):Uo M x=some (-1):=by
 apply Classical.byContradiction
 intro q
 exact b ((h.bl x a).2 q)
def Iv.O9 (h:Iv P n B D M) {x:Nat} (a:M.S x≠1): ¬zP M x:=fun q=>a ((h.rd x).1 q).2
def Iv.Om (h:Iv P n B D M) {x:Nat} (a:x<n) (b:M.S x≠4):(¬ ∃c∈M.wh,c.i=x)/\x ∉ D:=⟨fun q=>b ((h.sp x a).2 (.inl q)),fun q=>b ((h.sp x a).2 (.inr q))⟩
def Iv.back (h:Iv P n B D M) {b x:Nat} (u:b<P) (v:(M.pc b).r=(x:Int)):Iv P n B D (jr P n q M b x):=by
 obtain⟨o,s⟩:=h.run u v
 have c:=h.th x o z_
 have k:=ka (q:=q) o u h.pl h.kr (.inr (.inl s)) c.p c.g (h.O9 z_)
 have E:=h.Mm o z_
 unfold jr
 generalize ready P n q M x (b:Int)=a at k
 have w: ∀y,Uo (jz a b (-1)) y=Uo M y:=k.U
 refine h.leave (R:=jz a b (-1)) u o v z_ z_ k.S (by show ay a.pc b _=_;rw[k.pc]) k.qu (k.tl.trans h.tl) (k.pl.trans h.pl) k.kr (fun y f C=> ?_) (fun y=> ?_) (fun y f e=>w y) ?_ (fun y f=> ?_) (by show∀z∈a.wh,_;rw[k.wh];exact h.wl) (fun m y f t A=> ?_) (by show∀y∈a.gr.L,_;rw[k.L];exact h.nd) (by show a.gr.L.length<=32;rw[k.L];exact h.l32) k.G
 ·have i:a.S y≠0:=C
  by_cases e:y=x
  ·subst e
   exact⟨by show(a.th y).p=_;rw[k.th,aE];exact c.p,by show(a.th y).g=a.G y;rw[k.th,aE,k.G];exact c.g,by show∃j:Nat,j<a.pr.length/\(a.th y).pg=_;rw[k.th,aE,k.pr];exact c.pg,by show∃j:Nat,j<P/\(a.th y).pc=_;rw[k.th,aE];exact c.pc⟩
  ·rw[k.S,aq _ _ _ _ e] at i
   have l:=h.th y f i
   exact⟨by show(a.th y).p=_;rw[k.th,aq _ _ _ _ e];exact l.p,by show(a.th y).g=a.G y;rw[k.th,aq _ _ _ _ e,k.G];exact l.g,by show∃j:Nat,j<a.pr.length/\(a.th y).pg=_;rw[k.th,aq _ _ _ _ e,k.pr];exact l.pg,by show∃j:Nat,j<P/\(a.th y).pc=_;rw[k.th,aq _ _ _ _ e];exact l.pc⟩
 ·have:=k.ip y
  show zP a y↔_
  grind
 ·grind
 ·show(∃z∈a.wh,_)↔_
  rw[k.wh]
  simp
 ·have d:a.gr.L[m]? =some y:=f
  rw[k.L] at d
  rw[w t]
  exact h.wt m y d t A
def Iv.idle (h:Iv P n B D M) {a:Nat} {d:Int} (b:(bb P (gh M.pl) (a:Int) d).isSome=false):Iv P n B D (EP P M a d):=by
 unfold EP
 rw[Ge b]
 exact h
def Iv.P5 (h:Iv P n B D M) {w:World} {O:Nat->Prop} {pb T a x:Nat} {d:Int} (H:PQ w O pb n P q T M.pl) (hp:a<P) (hr:(M.pc a).r= -1) (hb:(bb P (gh M.pl) (a:Int) d).isSome=true) (a0:bI (gh M.pl) (bb P (gh M.pl) (a:Int) d)=(x:Int)):Iv P n B D (fV P n M a x d):=by
 obtain⟨y,k,v,W,t,_,F⟩:=qN H hb
 have e0:y=x:=z_
 subst e0
 have N:M.S y=1:=((h.rd y).1 ⟨k,t⟩).2
 have j:=h.th y v z_
 have J:cJ n M.G M.S (M.th y).p (M.th y).g 2=ay M.S y 2:=by rw[j.p,j.g];exact kj v z_ (by rw[N];rfl)
 have L: ∀z,zP (fV P n M a y d) z↔zP M z/\z≠y:=fun z=>by
  show(∃k,uE (iw P (gh M.pl) (a:Int) d) (z,k))↔_
  constructor
  ·rintro⟨U,s⟩
   have:=(F _).1 s
   exact⟨⟨U,this.1⟩,this.2⟩
  ·rintro⟨⟨U,s⟩,e⟩
   grind
 have Y:(fV P n M a y d).S=ay M.S y 2:=J
 have f: ∀z,z≠y->(fV P n M a y d).S z=M.S z:=fun z e=>by rw[Y,aq _ _ _ _ e]
 have X:(fV P n M a y d).S y=2:=by rw[Y,aE]
 have i: ∀p,p≠a->(fV P n M a y d).pc p=M.pc p:=fun p e=>by show ay M.pc a _ p=_;grind[ay]
 have Q:(fV P n M a y d).pc a=⟨(y:Int),0,false⟩:=by show ay M.pc a _ a=_;grind[ay]
 have A: ∀z,z≠y->(fV P n M a y d).th z=M.th z:=fun z e=>by show ay M.th y _ z=_;grind[ay]
 have c:(fV P n M a y d).th y={M.th y with pc:=(a:Int),lf:=(dC M (M.th y)).toNat}:=by show ay M.th y _ y=_;grind[ay]
 refine⟨h.tl,(JV _ _).trans h.pl,h.kr,h.qu,fun p b=> ?_,fun p b=> ?_,fun z hz l=> ?_,fun p E b m e o=> ?_,fun z hz V=> ?_,fun z hz=> ?_,fun z=> ?_,fun z hz=> ?_,fun z hz=> ?_,h.wl,h.wt,h.nd,h.l32,h.gb⟩
 ·by_cases e:p=a
  ·rw[e,Q];exact h.qu
  ·rw[i p e];exact h.sl p b
 ·by_cases e:p=a
  ·grind
  ·rw[i p e]
   rcases h.r1 p b with q|⟨z,q1,Z,q3⟩
   ·omega
   grind
 ·by_cases e:z=y
  ·grind
  ·rw[f z e] at l
   obtain⟨p,q1,Z⟩:=h.r2 z hz l
   grind
 ·have fM: ∀p,p<P->p≠a->((fV P n M a y d).pc p).r≠(y:Int):=fun p I C q=>by
   rw[i p C] at q
   have:=(h.run I q).2
   omega
  by_cases C:p=a
  ·grind
  ·by_cases e2:E=a
   ·grind
   ·rw[i p C,i E e2] at e
    rw[i p C] at o
    exact h.r3 p E b m e o
 ·by_cases e:z=y
  ·subst e
   exact⟨by rw[c];exact j.p,by rw[c];exact j.g,by rw[c];exact j.pg,y_⟩
  ·rw[f z e] at V
   have u:=h.th z hz V
   exact⟨by rw[A z e];exact u.p,by rw[A z e];exact u.g,by rw[A z e];exact u.pg,by rw[A z e];exact u.pc⟩
 ·by_cases e:z=y
  ·grind
  ·rw[f z e];exact h.st z hz
 ·rw[L z]
  by_cases e:z=y
  ·grind
  ·rw[f z e,<-h.rd z]
   grind
 ·show _↔Uo M z≠some (-1)
  by_cases e:z=y
  ·subst e
   rw[X,h.Mm v z_]
   simp
  ·rw[f z e];exact h.bl z hz
 ·by_cases e:z=y
  ·subst e
   rw[X]
   have:=h.Om v z_
   constructor
   ·omega
   ·rintro(q|q)
    ·exact absurd q this.1
    grind
  ·rw[f z e];exact h.sp z hz
def Iv.Qg (h:Iv P n B D M) (x:Nat):Iv P n B D (C5 M x):=h.GQ x _ rfl rfl rfl rfl
def Iv.prio (h:Iv P n B D M) (x v:Nat):Iv P n B D (pI M x v):=h.GQ x _ rfl rfl rfl rfl
def Iv.rA (h:Iv P n B D M) {c:List Pi.Lk} (j:c.length=M.gr.L.length) (f: ∀(m:Nat) y,c[m]? =some y-> ∃a,M.gr.L[m]? =some a/\y.l=a.l):Iv P n B D {M with gr:=⟨M.gr.T,c⟩}:=by
 refine⟨h.tl,h.pl,h.kr,h.qu,h.sl,h.r1,h.r2,h.r3,fun x g i=>(h.th x g i).cg rfl rfl rfl,h.st,h.rd,h.bl,h.sp,h.wl,fun m y b t k=> ?_,fun y b=> ?_,by show c.length<=32;rw[j];exact h.l32,h.gb⟩
 ·obtain⟨a,d,e⟩:=f m y b
  exact h.wt m a d t y_
 ·obtain⟨m,b⟩:=List.getElem?_of_mem b
  obtain⟨a,d,e⟩:=f m y b
  rw[e]
  exact h.nd a (i9 d)
def Gf {L:List Pi.Lk} {m:Nat} {y:Pi.Lk} (b:L[m]? =some y) (u:Int): ∀(j:Nat) z,(L.set m ⟨u,y.l⟩)[j]? =some z-> ∃a,L[j]? =some a/\z.l=a.l:=fun j z hz=>by
 grind
def qm (g:Pi.Md) (t m:Int):((Pi.bM g t m).1.1= -1/\(Pi.bM g t m).2=g)\/(∃y,g.L[m.toNat]? =some y/\(Pi.bM g t m).1=(-1,0)/\(Pi.bM g t m).2=⟨g.T,g.L.set m.toNat ⟨-1,y.l⟩⟩)\/
  ∃(y:Pi.Lk) (i z:Nat),g.L[m.toNat]? =some y/\y.l[i]? =some z/\(Pi.bM g t m).1=((z:Int),0)/\(Pi.bM g t m).2=⟨(match g.T[z]? with|some u=>g.T.set z ⟨u.k,-1⟩|none=>g.T),g.L.set m.toNat ⟨(z:Int),y.l.eraseIdx i⟩⟩:=by
 unfold Pi.bM
 grind
def wu: ∀(l:List Nat) (i z:Nat),l.Nodup->l[i]? =some z->z ∉ l.eraseIdx i
 |[],i,z,_,h=>by simp at h
 |x::l,0,z,a,h=>by
  grind
 |x::l,i+1,z,a,h=>by
  have hz:l[i]? =some z:=y_
  intro q
  rcases List.mem_cons.1 q with q|q
  ·grind
  ·exact wu l i z (yV0.1 a).2 hz q
def Iv.free (h:Iv P n B D M) {m:Nat} {y:Pi.Lk} (a:M.gr.L[m]? =some y) (u:Int):Iv P n B D {M with gr:=⟨M.gr.T,M.gr.L.set m ⟨u,y.l⟩⟩}:=h.rA List.length_set (Gf a u)
def Iv.rU (h:Iv P n B D M) (a0:1<=P) (t m:Int) (X:Nat) (l:List Ev) (lk:Int):Iv P n B D (sr P n q X ({M with gr:=(Pi.bM M.gr t m).2},l) (Pi.bM M.gr t m).1.1 lk).1:=by
 unfold sr
 rcases qm M.gr t m with ⟨A,w⟩|⟨y,c,A,w⟩|⟨y,i,z,c,hz,A,w⟩
 ·rw[if_pos A,w]
  exact h
 ·rw[A,w,if_pos rfl]
  exact h.free c (-1)
 ·rw[A,if_neg z_,w]
  show Iv P n B D (ready P n q _ ((z:Int)).toNat (M.th ((z:Int)).toNat).pc)
  rw[show((z:Int)).toNat=z by omega]
  have E:z∈y.l:=i9 hz
  obtain⟨a,Y⟩:=h.wt _ y c z E
  have F:M.S z=3:=(h.bl z a).2 y_
  have C:=h.th z a z_
  obtain⟨pz,H,Q⟩:=C.pc
  rw[Q]
  have d:z<M.gr.T.length:=by rw[h.tl];exact a
  have N:M.gr.T[z]? =some (M.gr.T[z]):=zX0 d
  have hT:(match M.gr.T[z]? with|some u=>M.gr.T.set z ⟨u.k,-1⟩|none=>M.gr.T)=M.gr.T.set z ⟨(M.gr.T[z]).k,-1⟩:=by rw[N]
  rw[hT]
  have O: ∀x,x≠z->((M.gr.T.set z ⟨(M.gr.T[z]).k,-1⟩)[x]?).map (·.u)=Uo M x:=fun x e=>by rw[List.getElem?_set_ne (fun q=>e q.symm)];rfl
  have v:((M.gr.T.set z ⟨(M.gr.T[z]).k,-1⟩)[z]?).map (·.u)=some (-1):=y_
  have s:=(i6.1 c).1
  have r:=h.nd y (i9 c)
  have G: ∀(j:Nat) u,(M.gr.L.set m.toNat ⟨(z:Int),y.l.eraseIdx i⟩)[j]? =some u-> ∀t∈u.l,t<n/\((M.gr.T.set z ⟨(M.gr.T[z]).k,-1⟩)[t]?).map (·.u)=some (j:Int):=fun j u b t U=>by
   by_cases e:m.toNat=j
   ·subst e
    rw[List.getElem?_set_self s] at b
    injection b with b
    subst b
    have f:t∈y.l.eraseIdx i:=U
    have Z:t≠z:=fun e=>wu y.l i z r hz (e▸f)
    obtain⟨W,V⟩:=h.wt _ y c t (List.mem_of_mem_eraseIdx f)
    grind
   ·rw[List.getElem?_set_ne e] at b
    obtain⟨W,V⟩:=h.wt j u b t U
    grind
  have I: ∀u∈M.gr.L.set m.toNat ⟨(z:Int),y.l.eraseIdx i⟩,u.l.Nodup:=fun u b=>by
   rcases yZ0 b with q|q
   ·exact h.nd u q
   grind
  have J: ∀u∈M.gr.T.set z ⟨(M.gr.T[z]).k,-1⟩,Ke.aN u.k=true:=fun u b=>by
   rcases yZ0 b with q|q
   ·exact h.kr u q
   ·rw[q]
    show Ke.aN (M.gr.T[z]).k=true
    exact h.kr _ (List.getElem_mem d)
  have k:=ka (q:=q) (M:={M with gr:=⟨M.gr.T.set z ⟨(M.gr.T[z]).k,-1⟩,M.gr.L.set m.toNat ⟨(z:Int),y.l.eraseIdx i⟩⟩}) a H h.pl J (.inr (.inr (.inl F))) C.p C.g (h.O9 z_)
  have o:=h.Om a z_
  exact h.Dk a k rfl rfl rfl (fun _ _ _=>⟨rfl,rfl,rfl⟩) (C.cg rfl rfl rfl) z_ (h.gb z a) (List.length_set.trans h.tl) h.pl (fun _ _=>Iff.rfl) (fun x hx e=>O x e) v rfl o.1 (fun x=>⟨fun q=>⟨q,fun e=>o.2 (e▸q)⟩,fun q=>q.1⟩) G I (by show(M.gr.L.set _ _).length<=32;rw[List.length_set];exact h.l32)
end
section
variable {P n q B:Nat} {D:List Nat} {M R:Mc}
def zD {g:Pi.Md} {t m:Int} (h: ¬Pi.eo g.T g.L t m≠0):(0<=t/\t<(g.T.length:Int))/\0<=m/\m<(g.L.length:Int):=by
 have b:Pi.eo g.T g.L t m=0:=z_
 unfold Pi.eo at b
 split at b
 ·rename_i a
  simp only[Bool.and_eq_true] at a
  unfold Pi.oR Pi.uR at a
  grind
 omega
def BV (g:Pi.Md) (t m:Int):((Pi.cU g t m).1.2≠0/\(Pi.cU g t m).2=g)\/(∃y,g.L[m.toNat]? =some y/\(Pi.cU g t m).1=(true,0)/\(Pi.cU g t m).2=⟨g.T,g.L.set m.toNat ⟨t,y.l⟩⟩)\/
  ∃(x:Pi.Th) (y:Pi.Lk),g.T[t.toNat]? =some x/\g.L[m.toNat]? =some y/\0<=m/\(Pi.cU g t m).1=(false,0)/\(Pi.cU g t m).2=⟨g.T.set t.toNat ⟨x.k,m⟩,g.L.set m.toNat ⟨y.h,y.l++[t.toNat]⟩⟩:=by
 unfold Pi.cU
 split
 ·grind
 ·rename_i a
  obtain⟨⟨c,b⟩,e,d⟩:=zD a
  grind
theorem Iv.lock (h:Iv P n B D M) {A x:Nat} (W:A<P) (V:(M.pc A).r=(x:Int)) (l:List Ev) (Q:Int):Iv P n B D (rW n A x M l Q).1:=by
 obtain⟨C,F⟩:=h.run W V
 have E:=h.th x C z_
 have hu:=h.Mm C z_
 unfold rW dE
 rcases BV M.gr (M.th x).p Q with ⟨w,o⟩|⟨y,f,w,o⟩|⟨z,y,hz,f,h0,w,o⟩
 ·rw[if_pos w]
  show Iv P n B D {M with gr:=_}
  rw[o]
  exact h
 ·rw[w,if_neg q_,if_pos rfl]
  show Iv P n B D {M with gr:=_}
  rw[o]
  exact h.free f _
 ·rw[w,if_neg q_,if_neg q_]
  show Iv P n B D (jz {{M with gr:=(Pi.cU M.gr (M.th x).p Q).2} with S:=cJ n M.G M.S (M.th x).p (M.th x).g 3} A (-1))
  rw[o]
  have J:cJ n M.G M.S (M.th x).p (M.th x).g 3=ay M.S x 3:=by rw[E.p,E.g];exact kj C z_ (by rw[F];rfl)
  rw[J]
  have ex:(M.th x).p.toNat=x:=by rw[E.p];omega
  rw[ex] at hz|-
  obtain⟨m,rfl⟩:=yY0 h0
  rw[show((m:Int)).toNat=m by omega] at f|-
  have Z:x<M.gr.T.length:=y_
  have i:=(i6.1 f).1
  have a1:((M.gr.T.set x ⟨z.k,(m:Int)⟩)[x]?).map (·.u)=some ((m:Int)):=y_
  have O: ∀y,y≠x->((M.gr.T.set x ⟨z.k,(m:Int)⟩)[y]?).map (·.u)=Uo M y:=fun y e=>by rw[List.getElem?_set_ne (fun q=>e q.symm)];rfl
  have a0: ∀(j:Nat) u,M.gr.L[j]? =some u->x ∉ u.l:=fun j u N q=>by
   have:=(h.wt j u N x q).2
   grind
  refine h.leave (s:=3) W C V z_ z_ rfl rfl rfl (List.length_set.trans h.tl) h.pl (fun u d=> ?_) (fun v H hs=>(h.th v H (fun e=>hs ?_)).cg rfl rfl rfl) (fun v=>⟨.inr,fun q=>q.elim (fun q=>by omega) id⟩) (fun v H e=>O v e) ?_ (fun v H=>⟨.inr,fun q=>q.elim (fun q=>by omega) id⟩) h.wl (fun j u N t U=> ?_) (fun u d=> ?_) (by show(M.gr.L.set _ _).length<=32;rw[List.length_set];exact h.l32) rfl
  ·rcases yZ0 d with q|q
   ·exact h.kr u q
   ·rw[q];exact h.kr z (i9 hz)
  ·show ay M.S x 3 v=0
   grind[ay]
  ·constructor
   ·intro _ q
    have q':((M.gr.T.set x ⟨z.k,(m:Int)⟩)[x]?).map (·.u)=some (-1):=q
    grind
   omega
  ·have c:(M.gr.L.set m ⟨y.h,y.l++[x]⟩)[j]? =some u:=N
   show t<n/\((M.gr.T.set x ⟨z.k,(m:Int)⟩)[t]?).map (·.u)=some (j:Int)
   by_cases e:m=j
   ·subst e
    rw[List.getElem?_set_self i] at c
    injection c with c
    subst c
    rcases List.mem_append.1 U with q|q
    ·obtain⟨Y,X⟩:=h.wt m y f t q
     grind
    grind
   ·rw[List.getElem?_set_ne e] at c
    obtain⟨Y,X⟩:=h.wt j u c t U
    grind
  ·have I:u∈M.gr.L.set m ⟨y.h,y.l++[x]⟩:=d
   rcases yZ0 I with q|q
   ·exact h.nd u q
   ·rw[q]
    show(y.l++[x]).Nodup
    rw[List.nodup_append]
    refine⟨h.nd y (i9 f),q_,fun a ha b hb e=> ?_⟩
    grind
def Iv.QA (h:Iv P n B D M) (d:1<=P) {f x:Nat} (l:List Ev) (c:Int):Iv P n B D (Cd P n q f x M l c).1:=by
 unfold Cd yD
 split
 ·rename_i a
  show Iv P n B D {M with gr:=_}
  rcases qm M.gr (M.th x).p c with ⟨b,e⟩|⟨y,g,b,e⟩|⟨y,i,z,g,hz,b,e⟩
  ·rw[e];exact h
  ·rw[b] at a;exact absurd rfl a
  ·rw[b] at a;exact absurd rfl a
 ·exact h.rU d (M.th x).p c f _ c
def free_spec {M:Mc} {n y:Nat} (h:cM M n=some y):y<n/\M.S y=0:=by
 refine⟨sB h,?_⟩
 unfold cM at h
 cases a:(Gt.pl M.S true n n).head? with
 |none=>grind
 |some z=>
  rw[a] at h
  injection h with h
  have:=(KH n aT z).1 (List.mem_of_mem_head? a)
  grind
def Iv.DG (h:Iv P n B D M) {y p:Nat} (t:p<P) (w:cM M n=some y) (m:Int) (d:Nat) (c:Int) (b:iF M m=true):Iv P n (B+1) D (iJ P n q M y (p:Int) (gA m d c)):=by
 obtain⟨f,r⟩:=free_spec w
 unfold iF at b
 simp only[Bool.and_eq_true,decide_eq_true_eq] at b
 obtain⟨k,rfl⟩:=yY0 b.1
 have u:k<M.pr.length:=z_
 have A:=h.more (Nat.le_succ B)
 have i:=h.Om f z_
 have j:=h.O9 (x:=y) z_
 have s:=h.Mm f z_
 unfold iJ
 have z:({ic M y with th:=ay M.th y {gA (k:Int) d c with p:=(y:Int),g:=M.G y+1}}:Mc).S y=1:=by show ay M.S y 1 y=1;grind[ay]
 have a:(({ic M y with th:=ay M.th y {gA (k:Int) d c with p:=(y:Int),g:=M.G y+1}}:Mc).th y)={gA (k:Int) d c with p:=(y:Int),g:=M.G y+1}:=by grind[ay]
 have l:({ic M y with th:=ay M.th y {gA (k:Int) d c with p:=(y:Int),g:=M.G y+1}}:Mc).G y=M.G y+1:=by show ay M.G y _ y=_;grind[ay]
 have o:=ka (P:=P) (n:=n) (q:=q) (M:={ic M y with th:=ay M.th y {gA (k:Int) d c with p:=(y:Int),g:=M.G y+1}}) f t h.pl h.kr (.inl z) (by rw[a]) y_ j
 refine A.Dk f o rfl rfl rfl (fun v C e=>⟨?_,?_,?_⟩) ⟨by rw[a],y_,⟨k,u,by rw[a];rfl⟩,⟨0,z_,by rw[a];rfl⟩⟩ z_ (by rw[l];have:=h.gb y f;omega) h.tl h.pl (fun _ _=>Iff.rfl) (fun _ _ _=>rfl) s rfl i.1 (fun x=>⟨fun q=>⟨q,fun e=>i.2 (e▸q)⟩,fun q=>q.1⟩) h.wt h.nd h.l32
 ·show ay M.S y 1 v=_;grind[ay]
 ·show ay M.G y _ v=_;grind[ay]
 grind[ay]
def Iv.Qu (h:Iv P n B D M) {b x:Nat} (c:b<P) (l:List Ev) (a:Int):Iv P n (B+1) D (Bv P n q b x M l a).1:=by
 unfold Bv
 cases e:iF M a with
 |false=>rw[if_pos rfl];exact h.more (Nat.le_succ B)
 |true=>
  rw[if_neg q_]
  cases d:cM M n with
  |none=>exact h.more (Nat.le_succ B)
  |some y=>exact h.DG c d a _ (-1) e
def Iv.sleep (h:Iv P n B D M) {f x:Nat} (w:f<P) (u:(M.pc f).r=(x:Int)) (k:Nat):Iv P n B D (nJ n M f x k):=by
 obtain⟨b,j⟩:=h.run w u
 have d:=h.th x b z_
 have y:=h.Mm b z_
 have m:=h.Om b z_
 have t:cJ n M.G M.S (M.th x).p (M.th x).g 4=ay M.S x 4:=by rw[d.p,d.g];exact kj b z_ (by rw[j];rfl)
 unfold nJ wM
 rw[t,d.p]
 have o: ∀z∈M.wh,z.i≠x:=fun z hz e=>m.1 ⟨z,hz,e⟩
 have hw:Wh.kO n M.wh (x:Int) (Cb.fC M.nw k)=Wh.ins ⟨x,Cb.fC M.nw k⟩ M.wh:=by
  unfold Wh.kO
  have C:Wh.fQ n M.wh (x:Int)=0:=by unfold Wh.fQ;rw[if_neg z_,Wh.nY.2 o];rfl
  grind
 rw[hw]
 refine h.leave (s:=4) w b u z_ z_ rfl rfl rfl h.tl h.pl h.kr (fun v l A=>(h.th v l (fun e=>A ?_)).cg rfl rfl rfl) (fun v=>⟨.inr,fun q=>q.elim (fun q=>by omega) id⟩) (fun v l e=>rfl) ?_ (fun v l=> ?_) (fun c a=> ?_) h.wt h.nd h.l32 rfl
 ·show ay M.S x 4 v=0
  grind[ay]
 ·constructor
  ·omega
  ·intro q;exact absurd y q
 ·constructor
  ·rintro⟨c,a,e⟩
   rcases Wh.cQ.1 a with q|q
   ·grind
   grind
  ·rintro(⟨e,_⟩|⟨c,a,e⟩)
   ·exact⟨_,Wh.cQ.2 (.inl rfl),e.symm⟩
   ·exact⟨c,Wh.cQ.2 (.inr a),e⟩
 ·rcases Wh.cQ.1 a with q|q
  ·grind
  ·exact h.wl c q
def Gj (P n q:Nat) (M:Mc) (x:Nat) (p:Int):(ready P n q M x p).pc=M.pc:=by unfold ready cZ dt cY settle;grind
def J2 (P n q:Nat) (M:Mc) (x:Nat) (p:Int):(ready P n q M x p).G=M.G:=by unfold ready cZ dt cY settle;grind
def Mg (P n q b:Nat) (s:Mc×List Ev) (a lk:Int):(sr P n q b s a lk).1.pc=s.1.pc/\(sr P n q b s a lk).1.G=s.1.G:=by
 unfold sr
 split
 ·simp
 ·exact⟨Gj _ _ _ _ _ _,J2 _ _ _ _ _ _⟩
def sc (h:Iv P n B D M) (d:1<=P) (b x:Nat): ∀(a:List Int) (l:List Ev),Iv P n B D (oe P n q b x M l a).1/\(oe P n q b x M l a).1.pc=M.pc/\(oe P n q b x M l a).1.G=M.G:=by
 have c: ∀(a:List Int) (s:Mc×List Ev),Iv P n B D s.1->Iv P n B D (a.foldl (iZ P n q b x) s).1/\(a.foldl (iZ P n q b x) s).1.pc=s.1.pc/\(a.foldl (iZ P n q b x) s).1.G=s.1.G:=by
  intro a
  induction a with
  |nil=>simp
  |cons y a f=>
   intro s k
   rw[List.foldl_cons]
   obtain⟨j,i,g⟩:=f (iZ P n q b x s y) (k.rU d (x:Int) y b s.2 y)
   have e:=Mg P n q b ({s.1 with gr:=(Pi.bM s.1.gr (x:Int) y).2},s.2) (Pi.bM s.1.gr (x:Int) y).1.1 y
   exact⟨j,i.trans e.1,g.trans e.2⟩
 exact fun a l=>c a (M,l) h
def Iv.N3 (h:Iv P n B D M) {c x g:Nat} (j:c<P) (i:(M.pc c).r=(x:Int)) (t:g=M.G x):Iv P n B D (pC n M c x g):=by
 obtain⟨b,l⟩:=h.run j i
 have m:=h.Mm b z_
 have p:=h.Om b z_
 have f:pO n M.G M.S (x:Int) g=ay M.S x 0:=by unfold pO;rw[t,if_pos (pU b z_)];rfl
 unfold pC
 rw[f]
 refine h.leave (s:=0) j b i z_ z_ rfl rfl rfl h.tl h.pl h.kr (fun v d o=> ?_) (fun v=>⟨.inr,fun q=>q.elim (fun q=>by omega) id⟩) (fun v d e=>rfl) ?_ (fun v d=>⟨.inr,fun q=>q.elim (fun q=>by omega) id⟩) h.wl h.wt h.nd h.l32 rfl
 ·have a:ay M.S x 0 v≠0:=o
  by_cases k:v=x
  ·rw[k,aE] at a;exact absurd rfl a
  ·rw[aq _ _ _ _ k] at a
   exact(h.th v d a).cg (by show ay M.th x iq v=_;grind[ay]) rfl rfl
 ·constructor
  ·omega
  ·intro q;exact absurd m q
def Iv.ext (h:Iv P n B D M) (b:1<=P) {a x:Nat} (c:a<P) (k:(M.pc a).r=(x:Int)) (l:List Ev):Iv P n B D (Ca P n q a x M l).1:=by
 obtain⟨j,i⟩:=h.run c k
 have d:=h.th x j z_
 unfold Ca
 obtain⟨f,m,e⟩:=sc (q:=q) h b a x (Pi.gW M.gr.T M.gr.L (x:Int)) (l++[⟨5,(a:Int),(M.th x).p,(M.th x).g,9,0⟩])
 exact f.N3 c y_ (by rw[e];exact d.g)
def Iv.Ah (h:Iv P n B D M) (b:1<=P) {f x:Nat} (c:f<P) (d:(M.pc f).r=(x:Int)) (l:List Ev) (g e:Int):Iv P n (B+1) D (Go.Proofs.YtnmhcgpnhlhcgaaGreatDoor.Ah P n q f x M l g e).1:=by
 have a: ∀{R:Mc},Iv P n B D R->Iv P n (B+1) D R:=fun i=>i.more (Nat.le_succ B)
 unfold Go.Proofs.YtnmhcgpnhlhcgaaGreatDoor.Ah
 split
 ·exact a (h.lock c d l e)
 ·split
  ·exact a (h.QA b l e)
  ·split
   ·exact h.Qu c l e
   ·split
    ·exact a (h.sleep c d _)
    ·split
     ·exact a (h.back c d)
     ·split
      ·exact a (h.prio x _)
      ·split
       ·exact a (h.ext b c d l)
       ·exact a h
def Iv.Qy (h:Iv P n B D M) (b:1<=P) {a x:Nat} (d:a<P) (c:(M.pc a).r=(x:Int)) (l:List Ev):Iv P n (B+1) D (lu P n q a x M l).1:=by
 unfold lu
 split
 ·exact h.more (Nat.le_succ B)
 ·exact(h.Qg x).Ah b d c l _ _
end
section
variable {P n q B:Nat} {D:List Nat} {M R:Mc}
def wj (T:List Pi.Th) (L:List Pi.Lk) (t:Int):(Pi.gW T L t).length<=L.length:=by
 unfold Pi.gW
 split
 ·unfold Pi.fq Pi.eu
  grind
 simp
def Iv.FK (h:Iv P n B D M) (t m:Int):(Pi.bM M.gr t m).1.1= -1\/ ∃y:Nat,y<n/\(Pi.bM M.gr t m).1.1=(y:Int):=by
 rcases qm M.gr t m with ⟨a,c⟩|⟨y,b,a,c⟩|⟨y,i,z,b,hz,a,c⟩
 ·omega
 ·grind
 ·exact .inr ⟨z,(h.wt _ y b z (i9 hz)).1,by rw[a]⟩
def KI {p:Pm} (h:Ex.Rt p.len p.O p.R) {i:Nat} (hi:i<p.len):Ex.uN p.len (p.O i) (p.R i)=true:=by
 obtain⟨y,h⟩:=h
 rcases h with ⟨_,b,_⟩|⟨_,_,j,_,_,_,a,_⟩|⟨_,_,_,_,_,a,_⟩|⟨_,_,c,_⟩
 ·cases b
 ·cases a
 ·cases a
 grind
def Lg {p:Pm} (h:Ex.Rt p.len p.O p.R) (a:Int):(Fm p a=9/\B7 p a=0)\/(Ex.lo (Fm p a)<=B7 p a/\B7 p a<=Ex.hi p.len (Fm p a)):=by
 unfold Fm B7 Ex.OL Ex.Ov
 cases b:Ex.D3 true p.len a with
 |false=>simp
 |true=>
  right
  rw[if_pos rfl,if_pos rfl]
  unfold Ex.D3 at b
  simp only[Bool.true_and,decide_eq_true_eq] at b
  have:=KI h (i:=a.toNat) z_
  unfold Ex.uN at this
  grind
def QC {p:Pm} (h:Ex.Rt p.len p.O p.R) (a:Int) (e:Fm p a=5):0<=B7 p a/\B7 p a<9223372036854775808:=by
 rcases Lg h a with q|⟨c,b⟩
 ·omega
 ·rw[e] at c b
  have f:Ex.lo 5=1:=rfl
  have d:Ex.hi p.len 5=65536:=rfl
  omega
def Qv {p:Pm} (h:Ex.Rt p.len p.O p.R) (a:Int) (e:Fm p a=7):0<=B7 p a/\B7 p a<256:=by
 rcases Lg h a with q|⟨c,b⟩
 ·omega
 ·rw[e] at c b
  have f:Ex.lo 7=0:=rfl
  have d:Ex.hi p.len 7=255:=rfl
  omega
def Mp {p:Pm} (h:Ex.Rt p.len p.O p.R) (c b:Int) (g:b<9223372036854775808):NA p c b<9223372036854775808:=by
 unfold NA Ex.Oa
 split
 ·rename_i d
  unfold Ex.D3 at d
  simp only[Bool.true_and,decide_eq_true_eq] at d
  have a:=KI h (i:=c.toNat) z_
  unfold Ex.uN at a
  simp only[Bool.and_eq_true,decide_eq_true_eq] at a
  unfold Ex.NB
  split
  ·rename_i e
   have f:=a.2.2
   rw[e,show Ex.hi p.len 1=65536 from rfl] at f
   omega
  omega
 omega
def Iv.OR (h:Iv P n B D M) (J:B+1<4294967296) {w:World} {m:Nat->Nat} {a:Ad} {T:Nat} (i:ax w m a P n q T M) {g:Nat} (f:g<P):DL P n q g M:=by
 have C:=i.hP
 have e: ∀x:Nat,(M.pc g).r=(x:Int)->Ex.Rt (eM M x).len (eM M x).O (eM M x).R:=fun x b=>by
  obtain⟨c,d⟩:=h.run f b
  obtain⟨k,u,s⟩:=(h.th x c z_).pg
  obtain⟨v,E,_,o⟩:=i.pg
  unfold eM
  rw[s,show((k:Int)).toNat=k by omega,zX0 u]
  exact o.ok _ (List.getElem_mem u)
 refine⟨?_,fun x b=> ?_,fun x b A=> ?_,fun x b=> ?_⟩
 ·rcases h.r1 g f with q|⟨x,I,H,_⟩
  ·omega
  grind
 ·obtain⟨c,d⟩:=h.run f b
  exact(h.th x c z_).pg
 ·obtain⟨c,d⟩:=h.run f b
  have t:=h.Qg x
  have F:=h.th x c z_
  refine⟨q_,f,c,b,?_,fun y z=> ?_,QC (e x b) _,Qv (e x b) _,t.FK _ _,zY0 (wj _ _ _) h.l32,fun l j lk _=> ?_⟩
  ·exact(t.th x c (by show M.S x≠0;omega)).p
  ·have:=h.gb y z
   show M.G y+1<_
   omega
  ·exact(sc (q:=q) t C.1 g x _ l).1.FK _ _
 ·obtain⟨c,d⟩:=h.run f b
  exact Mp (e x b) _ _ (i.th.ok x c).il
def Iv.act (h:Iv P n B D M) {w:World} {m:Nat->Nat} {a:Ad} {T:Nat} (i:ax w m a P n q T M) {c:Nat} (g:c<P) (d:Int) (o: ∀t,t=vx P n q c M d-> ∃w O v T,PQ w O v n P q T t.pl):Iv P n (B+1) D (rC P n q c M d).1:=by
 have y:=i.hP
 have l:Iv P n B D (vx P n q c M d):=by
  unfold vx
  split
  ·rename_i l
   obtain⟨x,s,b,_⟩:=(h.r1 c g).resolve_left (ov l).1
   rw[b,show((x:Int)).toNat=x by omega]
   exact h.back g b
  ·exact h
 unfold rC
 split
 ·rename_i b
  unfold NW
  split
  ·rename_i r
   obtain⟨A,E,u,C,f⟩:=o _ rfl
   obtain⟨x,k,s,j,_⟩:=qN f r
   rw[j,show((x:Int)).toNat=x by omega]
   exact(l.P5 f g b r j).more (Nat.le_succ B)
  ·rename_i r
   exact(l.idle y_).more (Nat.le_succ B)
 ·rename_i b
  have z:vx P n q c M d=M:=by
   unfold vx
   split
   ·rename_i p
    exact absurd (by unfold vx;rw[if_pos p];exact Fu _ _ _ _ _ _) b
   ·rfl
  rw[z] at b
  obtain⟨x,s,e,_⟩:=(h.r1 c g).resolve_left b
  rw[e,show((x:Int)).toNat=x by omega]
  exact h.Qy y.1 g e []
def Iv.rn (h:Iv P n B D M) {p:Nat} (t:p<P):Iv P n B D (Go.Proofs.YtnmhcgpnhlhcgaaGreatDoor.rn M p):=by
 unfold Go.Proofs.YtnmhcgpnhlhcgaaGreatDoor.rn
 split
 ·exact h
 ·rename_i A
  obtain⟨x,G,z,_⟩:=(h.r1 p t).resolve_left A
  have a:Iv P n B D (xw M (M.pc p).r.toNat (M.th (M.pc p).r.toNat).ia (fU (M.th (M.pc p).r.toNat).il)):=h.GQ _ _ rfl rfl rfl rfl
  generalize xw M (M.pc p).r.toNat (M.th (M.pc p).r.toNat).ia (fU (M.th (M.pc p).r.toNat).il)=N at a
  have E:(countP (N.pc p) N.qu).r=(N.pc p).r:=by unfold countP;grind
  have C:(countP (N.pc p) N.qu).s<N.qu:=by
   have:=a.sl p t
   have:=a.qu
   unfold countP
   grind
  have f: ∀b,((ay N.pc p (countP (N.pc p) N.qu)) b).r=(N.pc b).r:=fun b=>by
   grind[ay]
  refine⟨a.tl,a.pl,a.kr,a.qu,fun b d=> ?_,fun b d=> ?_,fun y k m=> ?_,fun j o F m e l=> ?_,fun y k w=>(a.th y k w).cg rfl rfl rfl,a.st,a.rd,a.bl,a.sp,a.wl,a.wt,a.nd,a.l32,a.gb⟩
  ·show((ay N.pc p (countP (N.pc p) N.qu)) b).s<N.qu
   by_cases e:b=p
   ·grind[ay]
   ·rw[aq _ _ _ _ e];exact a.sl b d
  ·rcases a.r1 b d with q|⟨x,i,g,v⟩
   ·exact .inl ((f b).trans q)
   ·exact .inr ⟨x,i,(f b).trans g,v⟩
  ·obtain⟨b,i,g⟩:=a.r2 y k m
   exact⟨b,i,(f b).trans g⟩
  ·have u:((ay N.pc p (countP (N.pc p) N.qu)) j).r=((ay N.pc p (countP (N.pc p) N.qu)) o).r:=e
   have c:((ay N.pc p (countP (N.pc p) N.qu)) j).r≠ -1:=l
   rw[f,f] at u
   rw[f] at c
   exact a.r3 j o F m u c
def Iv.dK (h:Iv P n B D M): ∀j,j<=P->Iv P n B D (Go.Proofs.YtnmhcgpnhlhcgaaGreatDoor.dK M j)
 |0,_=>h
 |j+1,a=>(Iv.dK h j z_).rn z_
def Iv.NS (h:Iv P n B D M) (sv:List Cb.ck):Iv P n B D {M with sv:=sv}:=
 ⟨h.tl,h.pl,h.kr,h.qu,h.sl,h.r1,h.r2,h.r3,fun y a b=>(h.th y a b).cg rfl rfl rfl,h.st,h.rd,h.bl,h.sp,h.wl,h.wt,h.nd,h.l32,h.gb⟩
def Iv.bH (h:Iv P n B [] M):Iv P n B (fu M) (Go.Proofs.YtnmhcgpnhlhcgaaGreatDoor.bH M):=by
 refine⟨h.tl,h.pl,h.kr,h.qu,h.sl,h.r1,h.r2,h.r3,fun y c e=>(h.th y c e).cg rfl rfl rfl,h.st,h.rd,h.bl,fun x d=> ?_,fun b a=> ?_,h.wt,h.nd,h.l32,h.gb⟩
 ·rw[show(Go.Proofs.YtnmhcgpnhlhcgaaGreatDoor.bH M).S x=M.S x from rfl,h.sp x d]
  unfold Go.Proofs.YtnmhcgpnhlhcgaaGreatDoor.bH fu Wh.late Wh.due
  grind
 ·exact h.wl b (List.mem_filter.1 a).1
def Iv.QD (h:Iv P n B D M) (w:D.Nodup) (hw: ∀x∈D,x<n/\ ¬ ∃s∈M.wh,s.i=x) (l:List Ev):Iv P n B [] (D.foldl (kM P n q) (M,l)).1:=by
 induction D generalizing M l with
 |nil=>exact h
 |cons x D t=>
  rw[List.foldl_cons]
  obtain⟨a,c⟩:=hw x q_
  obtain⟨d,m⟩:=yV0.1 w
  have f:M.S x=4:=(h.sp x a).2 (.inr q_)
  have b:=h.th x a z_
  obtain⟨r,j,o⟩:=b.pc
  have v:=h.Mm a z_
  have k:=ka (q:=q) a j h.pl h.kr (.inr (.inr (.inr f))) b.p b.g (h.O9 z_)
  have z:Iv P n B D (ready P n q M x (r:Int)):=h.Dk a k rfl rfl rfl (fun _ _ _=>⟨rfl,rfl,rfl⟩) b z_ (h.gb x a) h.tl h.pl (fun _ _=>Iff.rfl) (fun _ _ _=>rfl) v rfl c (fun y=>⟨fun q=>⟨List.mem_cons_of_mem _ q,fun e=>d (e▸q)⟩,fun q=>(List.mem_cons.1 q.1).resolve_left q.2⟩) h.wt h.nd h.l32
  unfold kM
  dsimp only
  rw[o]
  exact t z m (fun y u=>⟨(hw y (List.mem_cons_of_mem _ u)).1,by rw[k.wh];grind⟩) _
def rR {α β:Type} {f:α->β}: ∀{l:List α},(l.map f).Nodup-> ∀{a b:α},a∈l->b∈l->f a=f b->a=b
 |[],_,_,_,c,_,_=>by cases c
 |x::l,h,a,b,c,d,e=>by
  rw[List.map_cons,yV0] at h
  rcases List.mem_cons.1 c with p|p
  ·grind
  ·rcases List.mem_cons.1 d with q|q
   ·grind
   ·exact rR h.2 p q e
def Eo (M:Mc): ∀j,(dK M j).wh=M.wh/\(dK M j).nw=M.nw/\(dK M j).pr=M.pr/\(dK M j).S=M.S
 |0=>⟨rfl,rfl,rfl,rfl⟩
 |j+1=>by
  obtain⟨d,c,b,a⟩:=Eo M j
  have:(rn (dK M j) j).wh=(dK M j).wh/\(rn (dK M j) j).nw=(dK M j).nw/\(rn (dK M j) j).pr=(dK M j).pr/\(rn (dK M j) j).S=(dK M j).S:=by unfold rn;split<;>exact⟨rfl,rfl,rfl,rfl⟩
  exact⟨this.1.trans d,this.2.1.trans c,this.2.2.1.trans b,this.2.2.2.trans a⟩
def Iv.tick (h:Iv P n B [] M) (g:(M.wh.map (·.i)).Nodup):Iv P n B [] (mz P n q M):=by
 unfold mz oJ
 have l:=(h.bH.dK P aT).NS ((Go.Proofs.YtnmhcgpnhlhcgaaGreatDoor.dK (Go.Proofs.YtnmhcgpnhlhcgaaGreatDoor.bH M) P).sv.map (Cb.pP (Go.Proofs.YtnmhcgpnhlhcgaaGreatDoor.dK (Go.Proofs.YtnmhcgpnhlhcgaaGreatDoor.bH M) P).nw))
 refine(Iv.QD (M:=ve (Go.Proofs.YtnmhcgpnhlhcgaaGreatDoor.dK (Go.Proofs.YtnmhcgpnhlhcgaaGreatDoor.bH M) P)) l ?_ (fun x f=>⟨?_,?_⟩) _).settle
 ·unfold fu Wh.due
  grind
 ·unfold fu Wh.due at f
  obtain⟨d,b,rfl⟩:=List.mem_map.1 f
  exact h.wl d (List.mem_filter.1 b).1
 ·rintro⟨d,b,e⟩
  have a:d∈(Go.Proofs.YtnmhcgpnhlhcgaaGreatDoor.dK (Go.Proofs.YtnmhcgpnhlhcgaaGreatDoor.bH M) P).wh:=b
  rw[(Eo _ P).1] at a
  unfold Go.Proofs.YtnmhcgpnhlhcgaaGreatDoor.bH Wh.late at a
  dsimp only at a
  unfold fu Wh.due at f
  obtain⟨it2,c,m⟩:=List.mem_map.1 f
  have k:=List.mem_filter.1 a
  have j:=List.mem_filter.1 c
  have:d=it2:=rR g k.1 j.1 z_
  grind
def Iv.start (h:Iv P n B D M) (f:1<=P) {x:Nat} (e:cM M n=some x) (a:Int) (d:Nat) (sv:Int) (c:dZ M a sv=false):Iv P n (B+1) D (qG P n q M x a d sv):=by
 unfold qG
 have b:iF M a=true:=by
  unfold dZ at c
  grind
 exact(h.DG (p:=0) z_ e a d sv b).settle
def Iv.load (h:Iv P n B D M) (p:Pm):Iv P n B D {M with pr:=M.pr++[p]}:=by
 refine⟨h.tl,h.pl,h.kr,h.qu,h.sl,h.r1,h.r2,h.r3,fun y a b=> ?_,h.st,h.rd,h.bl,h.sp,h.wl,h.wt,h.nd,h.l32,h.gb⟩
 have t:=h.th y a b
 obtain⟨k,c,e⟩:=t.pg
 exact⟨t.p,t.g,⟨k,y_,e⟩,t.pc⟩
def Iv.new (P n m qu ag:Nat) (o:m<=32) (d:1<=qu):Iv P n 0 [] (gz P n m qu ag):=by
 have z: ∀(j:Nat) y,(gz P n m qu ag).gr.L[j]? =some y->y.l=[]:=fun j y b=>by
  have:=i9 b
  have:y∈List.replicate m (⟨-1,[]⟩:Pi.Lk):=this
  grind
 refine⟨List.length_replicate,List.length_replicate,fun y b=> ?_,d,fun p _=>d,fun p _=> .inl rfl,fun x _ h=>(by cases h),fun p s _ _ _ c=>absurd rfl c,fun x _ h=>absurd rfl h,fun x _=>Nat.zero_le _,fun x=> ?_,fun x g=> ?_,fun x g=> ?_,fun f a=>(by cases a),fun j y b t v=> ?_,fun y b=> ?_,by show(List.replicate m _).length<=32;grind,fun x _=>aT⟩
 ·have:y∈List.replicate n (⟨Ke.bP 0,-1⟩:Pi.Th):=b
  rw[List.eq_of_mem_replicate this]
  rfl
 ·constructor
  ·rintro⟨k,i,X,r,o⟩
   have:X∈List.replicate (P+1) ([]:List En):=i9 r
   grind
  ·rintro⟨_,h⟩
   cases h
 ·have e:Uo (gz P n m qu ag) x=some (-1):=by
   show((List.replicate n (⟨Ke.bP 0,-1⟩:Pi.Th))[x]?).map (·.u)=_
   grind
  rw[e]
  constructor
  ·intro q;cases q
  simp
 ·constructor
  ·intro q;cases q
  ·rintro(⟨f,a,_⟩|q)
   ·cases a
   grind
 ·grind
 ·obtain⟨j,w⟩:=List.getElem?_of_mem b
  grind
end
def lp {P:Program} {f:FuncId} {a:Array Value} {w:World} {R:Ending->World->Prop} (h:Calls P f a w R): ∃e w',R e w':=by
 obtain⟨e,w',_,b,_⟩:=h []
 grind
noncomputable def sM (P n q:Nat) (M:Mc) (p d:Int):Mc:=if gB P p then Mh P n q p.toNat M d else M
noncomputable def sL (P n q:Nat) (M:Mc) (p d:Int):List Ev:=if gB P p then Ml P n q p.toNat M d else []
def sC (P:Nat) (p:Int):Int:=if gB P p then 0 else 2
def gC (M:Mc) (n:Nat) (pg sv:Int):Int:=if dZ M pg sv then 2 else match cM M n with|none=>4|some _=>0
noncomputable def gM (P n q:Nat) (M:Mc) (pg:Int) (a:Nat) (sv:Int):Mc:=if dZ M pg sv then M else match cM M n with|none=>M|some x=>qG P n q M x pg a sv
def gL (M:Mc) (n:Nat) (pg sv:Int):List Ev:=if dZ M pg sv then [] else match cM M n with|none=>[]|some x=>[⟨9,0,(x:Int),M.G x+1,pg,0⟩]
open Classical in
noncomputable def lM (M:Mc) (p:Pm):Mc:=if Ex.Rt p.len p.O p.R/\M.pr.length<16 then{M with pr:=M.pr++[p]} else M
section
variable {w wr c:World} {b:Nat->Nat} {a:Ad} {P n q T T' B:Nat} {M M':Mc}
def dF.nil (h:aD w c b a P n q T M):dF w c b a P n q T M (.slice none 0 0):=by
 obtain⟨l,g,f,d⟩:=h
 exact⟨l,g,f,d,fun k e=>by cases e⟩
def ax.r4 (h:ax w b a P n q T M) (d:aC w c) (e:T<=T'):aD w c b a P n q T' M:=((h.goes).more d).bZ e
def sP {P:Nat} {p:Int} (h:gB P p=true): ∃k:Nat,p=(k:Int)/\k<P:=by
 unfold gB at h
 simp only[Bool.and_eq_true,decide_eq_true_eq] at h
 obtain⟨k,rfl⟩:=yY0 h.1
 grind
def ax.vK (h:ax w b a P n q T M) (l:Iv P n B [] M) (o:B+1<4294967296) (p d:Int) (i:0<=d/\d<18446744073709551616) (j:T+IW n<=1000000000):
  aB 14 #[ak a.m,ab p,aj d] w fun e c=> ∃v,e=aS #[v,ab (sC P p)]/\fK c w.heap.size v (sL P n q M p d)/\dF w c b a P n q (T+IW n) (sM P n q M p d) v:=by
 unfold sC sL sM
 cases f:gB P p with
 |false=>
  refine(h.uq p d f).mono ?_
  rintro e c ⟨rfl,rfl⟩
  exact⟨_,rfl,fK.nil _ _,dF.nil (h.r4 cj z_)⟩
 |true=>
  obtain⟨k,rfl,g⟩:=sP f
  rw[if_pos rfl,if_pos rfl,if_pos rfl,show((k:Int)).toNat=k by omega]
  exact h.pN g d i (l.OR o h g) j
def Iv.step (g:Iv P n B [] M) (u:B+1<4294967296) (h:ax w b a P n q T M) (p d:Int) (o:0<=d/\d<18446744073709551616) (r:T+n<=1000000000):Iv P n (B+1) [] (sM P n q M p d):=by
 unfold sM
 cases m:gB P p with
 |false=>exact g.more (Nat.le_succ B)
 |true=>
  obtain⟨k,rfl,f⟩:=sP m
  rw[if_pos rfl,show((k:Int)).toNat=k by omega]
  unfold Mh
  refine(g.act h f d (fun M' t=> ?_)).settle
  subst t
  obtain⟨O,s⟩:=SG.start h k
  obtain⟨e,v,_,j⟩:=lp (s.wz f d o (g.OR u h f) r)
  obtain⟨lk,i⟩:=j.i
  obtain⟨x,l,_⟩:=i.pl
  grind
def ax.sJ (h:ax w b a P n q T M) (p:Iv P n B [] M) (r:B+1<4294967296) (pg:Int) (f:Nat) (g:f<256) (sv:Int) (o:T+n+1+n<=1000000000):
  aB 20 #[ak a.m,ab pg,aA f,ab sv] w fun e c=> ∃v,e=aS #[v,ab (gC M n pg sv)]/\fK c w.heap.size v (gL M n pg sv)/\dF w c b a P n q (T+n+1+n) (gM P n q M pg f sv) v:=by
 have j:Lj M n:=fun x k=>by have:=p.gb x k;omega
 unfold gC gL gM
 cases d:dZ M pg sv with
 |true=>
  refine(h.EK pg (f:Int) sv d).mono ?_
  rintro e c ⟨rfl,rfl⟩
  exact⟨_,rfl,fK.nil _ _,dF.nil (h.r4 cj z_)⟩
 |false=>
  rw[if_neg q_,if_neg q_,if_neg q_]
  cases i:cM M n with
  |none=>
   refine(h.yH j pg f sv d i).mono ?_
   rintro e c ⟨rfl,l⟩
   exact⟨_,rfl,fK.nil _ _,dF.nil (h.r4 l z_)⟩
  |some x=>exact h.ym o j pg f g sv d x i
def Iv.xu (e:Iv P n B [] M) (h:1<=P) (pg:Int) (f:Nat) (sv:Int):Iv P n (B+1) [] (gM P n q M pg f sv):=by
 unfold gM
 cases d:dZ M pg sv with
 |true=>exact e.more (Nat.le_succ B)
 |false=>
  rw[if_neg q_]
  cases g:cM M n with
  |none=>exact e.more (Nat.le_succ B)
  |some x=>exact e.start h g pg f sv d
def ax.EC (h:ax w b a P n q T M) (s:M.pr.length<=16) (k:Option Addr) (d f:Nat) (j:d<9223372036854775808) (O R:Nat->Int) (l:Ex.lJ w k d O R):
  aB 18 #[ak a.m,.slice k d f] w fun e c=>(∃x y:Int,e=aS #[ab x,ab y])/\aD w c b a P n q T (lM M ⟨d,O,R⟩):=by
 unfold lM
 by_cases i:Ex.Rt d O R
 ·by_cases o:M.pr.length<16
  ·rw[if_pos ⟨i,o⟩]
   exact(h.vB k d f O R l i o).mono (fun e c g=>⟨⟨_,_,g.1⟩,g.2⟩)
  ·rw[if_neg (fun q=>o q.2)]
   exact(h.sQ k d f O R l i z_).mono (fun e c g=>⟨⟨_,_,g.1⟩,h.r4 g.2 aT⟩)
 ·rw[if_neg (fun q=>i q.1)]
  obtain⟨x,y,p⟩:=Ex.r7 d O R
  have r:x≠0:=fun e=>i ⟨y,by rw[<-e];exact p⟩
  exact(h.Gi k d f j O R l p r).mono (fun e c g=>⟨⟨_,_,g.1⟩,h.r4 g.2 aT⟩)
def Iv.zY (d:Iv P n B [] M) (p:Pm):Iv P n B [] (lM M p):=by
 unfold lM
 split
 ·exact d.load p
 ·exact d
def Iv.Qr (d:Iv P n B [] M):Ny P n M:=⟨fun p e=>by rcases d.r1 p e with q|⟨x,g,f,_⟩;exact .inl q;grind,d.sl⟩
end
end Go.Proofs.YtnmhcgpnhlhcgaaGreatDoor
