/- YtnmhcgpnhlhcgaaGreatDoorKc: of the texts S1 S2 S3a S3 S3r S4p S4 S4r S4s S5 S6 S7 S7r S8r what is wanted. -/
import Derived.Test.YtnmhcgpnhlhcgaaGreatDoorK0
import Derived.Test.YtnmhcgpnhlhcgaaGreatDoorKa
import Derived.Deep.DeepCutAuto
import Derived.OrdersHeld
set_option maxHeartbeats 16000000
set_option maxRecDepth 100000
set_option linter.unusedVariables false
set_option linter.defProp false
set_option linter.unusedSimpArgs false
namespace Go.Proofs.YtnmhcgpnhlhcgaaGreatDoor.Ex
open Go.RowKit Go.Lib
def be:Nat->Nat->List Nat
 |0,_=>[]
 |k+1,n=>(n/256^k%256)::be k n
def dQ (l:List Nat):Nat:=l.foldl (fun a x=>a*256+x) 0
theorem gQ: ∀k n,(be k n).length=k
 |0,_=>rfl
 |k+1,n=>by simp[be,gQ k n]
def jW: ∀k n,∀y∈be k n,y<256
 |0,_=>by simp[be]
 |k+1,n=>by
  intro y a
  simp only[be,List.mem_cons] at a
  rcases a with rfl|a
  ·omega
  ·exact jW k n y a
theorem uH: ∀k n a,(be k n).foldl (fun a x=>a*256+x) a=a*256^k+n%256^k
 |0,n,a=>by simp[be,Nat.mod_one]
 |k+1,n,a=>by
  simp only[be,List.foldl_cons,uH k n]
  have b:n%256^(k+1)=256^k*(n/256^k%256)+n%256^k:=by
   rw[Nat.pow_succ,Nat.mod_mul]
   omega
  grind
theorem ug {k n:Nat} (h:n<256^k):dQ (be k n)=n:=by
 grind[Ex.dQ,Ex.uH,Nat.mod_eq_of_lt]
def vA: ∀(l:List Nat) (a:Nat),(∀y∈l,y<256)->l.foldl (fun a x=>a*256+x) a<(a+1)*256^l.length
 |[],a,_=>by simp
 |x::l,a,h=>by
  have c:=h x q_
  have b:=vA l (a*256+x) y_
  simp only[List.foldl_cons,List.length_cons,Nat.pow_succ]
  refine i8 b ?_
  rw[Nat.mul_comm (256^l.length) 256,<-Nat.mul_assoc]
  exact Nat.mul_le_mul_right _ z_
def mR {l:List Nat} (h: ∀y∈l,y<256):dQ l<256^l.length:=by
 have:=vA l 0 h
 simpa [dQ] using this
def we: ∀(l:List Nat) (a:Nat),(∀y∈l,y<256)->be l.length (l.foldl (fun a x=>a*256+x) a)=l
 |[],a,_=>rfl
 |x::l,a,h=>by
  have i:=h x q_
  have c: ∀y∈l,y<256:=fun y g=>y_
  have e:=we l (a*256+x) c
  simp only[List.foldl_cons,List.length_cons,be]
  rw[e]
  congr 1
  have d: ∀(l:List Nat) (b:Nat),(∀y∈l,y<256)->l.foldl (fun a x=>a*256+x) b=b*256^l.length+l.foldl (fun a x=>a*256+x) 0:=by
   intro l
   induction l with
   |nil=>simp
   |cons y l f=>
    grind
  rw[d l (a*256+x) c]
  have j:l.foldl (fun a x=>a*256+x) 0<256^l.length:=mR c
  grind[Nat.mul_comm,Nat.mul_add_div,Nat.div_eq_of_lt]
def pk {l:List Nat} {k:Nat} (a:l.length=k) (h: ∀y∈l,y<256):be k (dQ l)=l:=by
 subst a
 exact we l 0 h
def cO (c:List (Int×Int)) (i:Nat):Int:=(c.getD i (0,0)).1
def cR (c:List (Int×Int)) (i:Nat):Int:=(c.getD i (0,0)).2
def uK (c:List (Int×Int)):Prop:=Rt c.length (cO c) (cR c)
def jE (c:List (Int×Int)):List Nat:=gH c.length (cO c) (cR c) c.length
def ji (l:List Nat):List (Int×Int):=(List.range (l.getD 0 0)).map (fun i=>(mL (fun j=>l.getD j 0) i,jx (fun j=>l.getD j 0) i))
structure En where
 d:Int
 p:Int
 dr:Nat
 n:Int
 code:List (Int×Int)
 bu:Nat
 pe:Nat
 pr:Int
 lv:Nat
 sv:Int
structure zf (x:En):Prop where
 dr:x.dr<18446744073709551616
 bu:x.bu<18446744073709551616
 pe:x.pe<18446744073709551616
 lv:x.lv<256
def dB (p:Int) (a:Nat):En:=⟨1,p,a,0,[],0,0,0,0,0⟩
def dg (n:Int):En:=⟨2,0,0,n,[],0,0,0,0,0⟩
def cK (c:List (Int×Int)):En:=⟨3,0,0,0,c,0,0,0,0,0⟩
def cT (b a:Nat):En:=⟨4,0,0,0,[],b,a,0,0,0⟩
def bV (a:Int) (b:Nat) (sv:Int):En:=⟨5,0,0,0,[],0,0,a,b,sv⟩
def bj (x:En):Prop:=
 (x=dB x.p x.dr/\0<=x.p/\x.p<=255)\/(x=dg x.n/\1<=x.n/\x.n<=65535)\/(x=cK x.code/\uK x.code)\/(x=cT x.bu x.pe)\/
 (x=bV x.pr x.lv x.sv/\0<=x.pr/\x.pr<=255/\ -1<=x.sv/\x.sv<=254)
def bytes (x:En):List Nat:=
 if x.d=1 then 1::x.p.toNat::be 8 x.dr
 else if x.d=2 then 2::be 2 x.n.toNat
 else if x.d=3 then 3::jE x.code
 else if x.d=4 then 4::(be 8 x.bu++be 8 x.pe)
 else [5,x.pr.toNat,x.lv,(x.sv+1).toNat]
theorem gZ (p dr):bytes (dB p dr)=1::p.toNat::be 8 dr:=rfl
theorem im (n):bytes (dg n)=2::be 2 n.toNat:=rfl
theorem gY (c):bytes (cK c)=3::jE c:=rfl
theorem fR (b p):bytes (cT b p)=4::(be 8 b++be 8 p):=rfl
theorem fX (p l s):bytes (bV p l s)=[5,p.toNat,l,(s+1).toNat]:=rfl
def eN (a c b:Nat):Nat:=
 if a=1 then 10 else if a=2 then 3 else if a=3 then(if 2<=b then 2+4*c else 2) else if a=4 then 17 else if a=5 then 4 else 1
def sz (l:List Nat):Nat:=eN (l.getD 0 0) (l.getD 1 0) l.length
open Classical in
noncomputable def pX (l:List Nat):List (Int×Int):=if l.length=1+4*l.getD 0 0/\uK (ji l) then ji l else []
noncomputable def iK (l:List Nat):En:=
 if l.getD 0 0=1 then dB (l.getD 1 0:Int) (dQ (l.drop 2))
 else if l.getD 0 0=2 then dg (dQ (l.drop 1):Int)
 else if l.getD 0 0=3 then cK (pX (l.drop 1))
 else if l.getD 0 0=4 then cT (dQ ((l.drop 1).take 8)) (dQ (l.drop 9))
 else if l.getD 0 0=5 then bV (l.getD 1 0:Int) (l.getD 2 0) ((l.getD 3 0:Int)-1)
 else⟨(l.getD 0 0:Int),0,0,0,[],0,0,0,0,0⟩
def fY (l:List Nat):(ji l).length=l.getD 0 0:=by simp[ji]
def kB (l:List Nat) {i:Nat} (h:i<l.getD 0 0):cO (ji l) i=mL (fun j=>l.getD j 0) i/\cR (ji l) i=jx (fun j=>l.getD j 0) i:=by
 have:(ji l).getD i (0,0)=(mL (fun j=>l.getD j 0) i,jx (fun j=>l.getD j 0) i):=by
  have a:=List.getElem?_range h
  unfold ji
  grind
 unfold cO cR
 grind
def vW {a:Nat} {O R b R':Nat->Int} (h:Rt a O R) (f: ∀i,i<a->O i=b i/\R i=R' i):Rt a b R':=by
 obtain⟨y,c⟩:=h
 obtain⟨e,d,j,g,rfl⟩:=c.zero
 refine⟨0,.inr (.inr (.inr ⟨e,d,fun i hi=> ?_,?_,rfl,rfl⟩))⟩
 ·grind
 grind
def eU {c:List (Int×Int)} (h:uK c):1<=c.length/\c.length<=64/\ ∀i,i<c.length->1<=cO c i/\cO c i<=9/\0<=cR c i/\cR c i<=65536:=by
 obtain⟨y,a⟩:=h
 obtain⟨e,d,b,f,rfl⟩:=a.zero
 exact⟨e,d,fun i hi=>qU z_ (b i hi)⟩
def fT (c:List (Int×Int)):(jE c).length=1+4*c.length:=cP _ _ _ _
def lF (c:List (Int×Int)):(jE c).getD 0 0=c.length:=qh _ _ _ _
def yU {c:List (Int×Int)} (h:uK c): ∀y∈jE c,y<256:=by
 obtain⟨_,a,b⟩:=eU h
 exact qw a _ y_
theorem K4 {c d:List (Int×Int)} (a:c.length=d.length) (h: ∀i,i<c.length->cO c i=cO d i/\cR c i=cR d i):c=d:=by
 grind[List.ext_getElem,Ex.cO,Ex.cR]
def ID {c:List (Int×Int)} (h:uK c):ji (jE c)=c:=by
 obtain⟨k,j,e⟩:=eU h
 have a:=lF c
 refine K4 (by rw[fY,a]) (fun i hi=> ?_)
 rw[fY,a] at hi
 obtain⟨d,b⟩:=kB (jE c) (i:=i) z_
 rw[d,b]
 obtain⟨m,l,g,f⟩:=e i hi
 exact Ll hi z_ g f
def JX {l:List Nat} (o:l.length=1+4*l.getD 0 0) (t: ∀y∈l,y<256):jE (ji l)=l:=by
 have p: ∀j,j<1+4*l.getD 0 0->(fun j=>l.getD j 0) j<256:=by
  simp_all
 have m:=EW (X:=fun j=>l.getD j 0) (l.getD 0 0) p
 have s:enc ((fun j=>l.getD j 0) 0) (mL fun j=>l.getD j 0) (jx fun j=>l.getD j 0) (l.getD 0 0)=dG (gH (l.getD 0 0) (mL fun j=>l.getD j 0) (jx fun j=>l.getD j 0) (l.getD 0 0)):=
  rh _ (fun i hi=>by unfold mL;omega)
 rw[s] at m
 have c: ∀a b:List Nat,dG a=dG b->a=b:=by
  intro a
  induction a with
  |nil=>intro b h;cases b with
   |nil=>rfl
   |cons _ _=>simp[dG] at h
  |cons x a d=>intro b h;cases b with
   |nil=>simp[dG] at h
   |cons y b=>
    simp only[dG,List.map_cons,List.cons.injEq,Value.int.injEq,true_and] at h
    rw[d b h.2,show x=y by omega]
 have r:=c _ _ m
 have q:jE (ji l)=gH (l.getD 0 0) (mL fun j=>l.getD j 0) (jx fun j=>l.getD j 0) (l.getD 0 0):=by
  unfold jE
  rw[fY]
  have e: ∀(n k:Nat) (O R g f:Nat->Int),(∀i,i<k->O i=g i/\R i=f i)->gH n O R k=gH n g f k:=by
   intro n k O R g f
   induction k with
   |zero=>intro _;rfl
   |succ k d=>
    intro h
    simp only[gH]
    rw[d y_,(h k z_).1,(h k z_).2]
  exact e _ _ _ _ _ _ (fun i hi=>kB l hi)
 rw[q,r]
 apply List.ext_getElem (by simp[o])
 grind
theorem vj {x:En} (h:bj x) (hw:zf x):iK (bytes x)=x:=by
 obtain⟨g,f,d,c⟩:=hw
 rcases h with ⟨e,a,b⟩|⟨e,a,b⟩|⟨e,a⟩|e|⟨e,a,b,j,i⟩
 ·rw[e,gZ]
  have:iK (1::x.p.toNat::be 8 x.dr)=dB (x.p.toNat:Int) (dQ (be 8 x.dr)):=rfl
  grind[Ex.ug]
 ·rw[e,im]
  have:iK (2::be 2 x.n.toNat)=dg (dQ (be 2 x.n.toNat):Int):=rfl
  grind[Ex.ug]
 ·rw[e,gY]
  have:iK (3::jE x.code)=cK (pX (jE x.code)):=rfl
  rw[this]
  unfold pX
  rw[fT,lF,ID a,if_pos ⟨rfl,a⟩]
 ·rw[e,fR]
  have:iK (4::(be 8 x.bu++be 8 x.pe))=cT (dQ ((be 8 x.bu++be 8 x.pe).take 8)) (dQ ((be 8 x.bu++be 8 x.pe).drop 8)):=rfl
  grind[Ex.gQ,Ex.ug]
 ·rw[e,fX]
  have:iK [5,x.pr.toNat,x.lv,(x.sv+1).toNat]=bV (x.pr.toNat:Int) x.lv (((x.sv+1).toNat:Int)-1):=rfl
  grind
def vH {x:En} (h:bj x) (hw:zf x): ∀y∈bytes x,y<256:=by
 obtain⟨i,g,f,d⟩:=hw
 rcases h with ⟨e,b,c⟩|⟨e,b,c⟩|⟨e,b⟩|e|⟨e,b,c,k,j⟩
 ·rw[e,gZ]
  intro y a
  simp only[List.mem_cons] at a
  rcases a with rfl|rfl|a
  ·omega
  ·omega
  ·exact jW _ _ y a
 ·rw[e,im]
  intro y a
  simp only[List.mem_cons] at a
  rcases a with rfl|a
  ·omega
  ·exact jW _ _ y a
 ·rw[e,gY]
  intro y a
  simp only[List.mem_cons] at a
  rcases a with rfl|a
  ·omega
  ·exact yU b y a
 ·rw[e,fR]
  intro y a
  simp only[List.mem_cons,List.mem_append] at a
  rcases a with rfl|a|a
  ·omega
  ·exact jW _ _ y a
  ·exact jW _ _ y a
 grind[Ex.fX]
theorem pG {x:En} (h:bj x) (hw:zf x) (r:List Nat):sz (bytes x++r)=(bytes x).length:=by
 rcases h with ⟨e,a,d⟩|⟨e,a,d⟩|⟨e,a⟩|e|⟨e,a,d,j,i⟩
 ·rw[e,gZ];rfl
 ·rw[e,im];rfl
 ·rw[e,gY]
  have b:=fT x.code
  have c:=lF x.code
  cases g:jE x.code with
  |nil=>grind
  |cons y f=>
   rw[g] at b c
   simp only[List.length_cons] at b
   have:y=x.code.length:=c
   subst this
   show eN 3 x.code.length (3::x.code.length::f++r).length=_
   unfold eN
   grind
 ·rw[e,fR];rfl
 ·rw[e,fX];rfl
theorem j5 {x:En}:0<(bytes x).length:=by
 unfold bytes
 grind
def F9 {x:En} (h:bj x):(bytes x).length<=258:=by
 rcases h with ⟨e,a,b⟩|⟨e,a,b⟩|⟨e,a⟩|e|⟨e,a,b,d,c⟩
 ·rw[e,gZ];simp[gQ]
 ·rw[e,im];simp[gQ]
 ·rw[e,gY]
  have:=(eU a).2.1
  simp[fT];omega
 ·rw[e,fR];simp[gQ]
 ·rw[e,fX];simp
def ft {l:List Nat} {j:Nat} (h:j<l.length):l.getD j 0∈l:=y_
theorem Eg {l:List Nat} (h:2<=l.length):l=l.getD 0 0::l.getD 1 0::l.drop 2:=by
 match l,h with
 |a::b::r,_=>rfl
theorem pW {l:List Nat} (h:1<=l.length):l=l.getD 0 0::l.drop 1:=by
 match l,h with
 |a::r,_=>rfl
def dm {l:List Nat} (h: ∀y∈l,y<256) (k:Nat):(∀y∈l.take k,y<256)/\ ∀y∈l.drop k,y<256:=y_
theorem wO: ¬uK []:=fun h=>by have:=(eU h).1;grind
def Gz {l:List Nat} (o: ∀y∈l,y<256) (i:l.length=sz l) (h:bj (iK l)):bytes (iK l)=l:=by
 by_cases t:l.getD 0 0=1
 ·have e:iK l=dB (l.getD 1 0:Int) (dQ (l.drop 2)):=by unfold iK;grind
  have g:l.length=10:=by rw[i];unfold sz eN;grind
  rw[e,gZ,Int.toNat_natCast,pk (by simp[g]) y_]
  grind[Ex.Eg]
 by_cases s:l.getD 0 0=2
 ·have e:iK l=dg (dQ (l.drop 1):Int):=by unfold iK;grind
  have g:l.length=3:=by rw[i];unfold sz eN;grind
  rw[e,im,Int.toNat_natCast,pk (by simp[g]) y_]
  grind[Ex.pW]
 by_cases r:l.getD 0 0=3
 ·have e:iK l=cK (pX (l.drop 1)):=by unfold iK;grind
  have m: ¬pX (l.drop 1)=[]:=by
   intro q
   rw[e] at h
   rcases h with ⟨f,_⟩|⟨f,_⟩|⟨_,h⟩|f|⟨f,_⟩
   ·simp[cK,dB] at f
   ·simp[cK,dg] at f
   ·have k:uK (pX (l.drop 1)):=h
    grind[Ex.wO]
   ·simp[cK,cT] at f
   grind[Ex.cK,Ex.bV]
  have j:(l.drop 1).length=1+4*(l.drop 1).getD 0 0/\uK (ji (l.drop 1)):=by
   unfold pX at m
   grind
  have n:pX (l.drop 1)=ji (l.drop 1):=by unfold pX;grind
  rw[e,n,gY,JX j.1 y_]
  grind[Ex.pW]
 by_cases j:l.getD 0 0=4
 ·have e:iK l=cT (dQ ((l.drop 1).take 8)) (dQ (l.drop 9)):=by unfold iK;grind
  have g:l.length=17:=by rw[i];unfold sz eN;grind
  rw[e,fR,pk (by simp[g]) y_,pk (by simp[g]) y_]
  grind[List.take_append_drop,Ex.pW]
 by_cases p:l.getD 0 0=5
 ·have e:iK l=bV (l.getD 1 0:Int) (l.getD 2 0) ((l.getD 3 0:Int)-1):=by unfold iK;grind
  have g:l.length=4:=by rw[i];unfold sz eN;grind
  rw[e,fX,Int.toNat_natCast]
  match l,g with
  |[a,b,c,d],_=>
   grind
 ·have e:iK l=⟨(l.getD 0 0:Int),0,0,0,[],0,0,0,0,0⟩:=by unfold iK;grind
  rw[e] at h
  rcases h with ⟨f,_⟩|⟨f,_⟩|⟨f,_⟩|f|⟨f,_⟩
  ·have q:((l.getD 0 0:Nat):Int)=1:=congrArg En.d f
   omega
  ·grind
  ·have q:((l.getD 0 0:Nat):Int)=3:=congrArg En.d f
   omega
  ·have q:((l.getD 0 0:Nat):Int)=4:=congrArg En.d f
   omega
  ·have q:((l.getD 0 0:Nat):Int)=5:=congrArg En.d f
   omega
def Oj {l:List Nat} (d: ∀y∈l,y<256) (b:l.length=sz l):zf (iK l):=by
 have a: ∀m:List Nat,(∀y∈m,y<256)->m.length<=8->dQ m<18446744073709551616:=by
  intro m k b
  have h:=mR k
  have:256^m.length<=256^8:=Nat.pow_le_pow_right z_ b
  omega
 unfold iK
 by_cases j:l.getD 0 0=1
 ·have c:l.length=10:=by rw[b];unfold sz eN;grind
  rw[if_pos j]
  exact⟨a _ (dm d 2).2 (by simp[c]),by simp[dB],by simp[dB],by simp[dB]⟩
 rw[if_neg j]
 by_cases i:l.getD 0 0=2
 ·rw[if_pos i];exact⟨by simp[dg],by simp[dg],by simp[dg],by simp[dg]⟩
 rw[if_neg i]
 by_cases g:l.getD 0 0=3
 ·rw[if_pos g];exact⟨by simp[cK],by simp[cK],by simp[cK],by simp[cK]⟩
 rw[if_neg g]
 by_cases f:l.getD 0 0=4
 ·have c:l.length=17:=by rw[b];unfold sz eN;grind
  rw[if_pos f]
  exact⟨by simp[cT],a _ (dm (dm d 1).2 8).1 (by simp[c]),a _ (dm d 9).2 (by simp[c]),by simp[cT]⟩
 rw[if_neg f]
 by_cases e:l.getD 0 0=5
 ·have c:l.length=4:=by rw[b];unfold sz eN;grind
  rw[if_pos e]
  exact⟨by simp[bV],by simp[bV],by simp[bV],d _ (ft z_)⟩
 rw[if_neg e]
 exact⟨q_,q_,q_,q_⟩
def all (L:List En):List Nat:=L.flatMap bytes
def gu (L:List En):Prop:= ∀x∈L,bj x/\zf x
def P4 (r:List Nat):Prop:= ∀x t,bj x->zf x->r≠bytes x++t
def Good (l:List Nat) (L:List En):Prop:=gu L/\l=all L
def nU (l:List Nat) (L:List En):Prop:=gu L/\ ∃r,r≠[]/\P4 r/\l=all L++r
theorem all_nil:all []=[]:=rfl
theorem all_cons (x:En) (L:List En):all (x::L)=bytes x++all L:=rfl
theorem uC (L:List En) (x:En):all (L++[x])=all L++bytes x:=by simp[all]
def kG {x y:En} {r s:List Nat} (d:bj x) (b:zf x) (c:bj y) (a:zf y) (h:bytes x++r=bytes y++s):x=y/\r=s:=by
 grind[Ex.pG,List.append_inj,Ex.vj]
def El: ∀{l:List Nat} {L M:List En},Good l L->Good l M->L=M:=by
 intro l L
 induction L generalizing l with
 |nil=>
  rintro M ⟨_,rfl⟩ ⟨a,h⟩
  cases M with
  |nil=>rfl
  |cons y M=>
   rw[all_cons,all_nil] at h
   have e:=congrArg List.length h
   grind[Ex.j5]
 |cons x L c=>
  rintro M ⟨b,rfl⟩ ⟨a,h⟩
  cases M with
  |nil=>
   rw[all_cons,all_nil] at h
   have e:=congrArg List.length h
   grind[Ex.j5]
  |cons y M=>
   rw[all_cons,all_cons] at h
   obtain⟨rfl,d⟩:=kG (b x q_).1 (b x q_).2 (a y q_).1 (a y q_).2 h
   rw[c (M:=M) ⟨fun z hz=>b z (by simp[hz]),rfl⟩ ⟨fun z hz=>a z (by simp[hz]),d⟩]
def wI: ∀{l:List Nat} {L M:List En},Good l L->nU l M->False:=by
 intro l L
 induction L generalizing l with
 |nil=>
  rintro M ⟨_,rfl⟩ ⟨b,r,c,_,h⟩
  have g:=congrArg List.length h
  have e:r.length≠0:=fun q=>y_
  grind[Ex.all_nil]
 |cons x L f=>
  rintro M ⟨a,rfl⟩ ⟨b,r,c,d,h⟩
  cases M with
  |nil=>
   rw[all_cons,all_nil,List.nil_append] at h
   exact d x _ (a x q_).1 (a x q_).2 h.symm
  |cons y M=>
   rw[all_cons,all_cons,List.append_assoc] at h
   obtain⟨rfl,e⟩:=kG (a x q_).1 (a x q_).2 (b y q_).1 (b y q_).2 h
   exact f (M:=M) ⟨fun z hz=>a z (by simp[hz]),rfl⟩ ⟨fun z hz=>b z (by simp[hz]),r,c,d,e⟩
theorem Js: ∀{l:List Nat} {L M:List En},nU l L->nU l M->L=M:=by
 intro l L
 induction L generalizing l with
 |nil=>
  rintro M ⟨_,r,f,d,j⟩ ⟨b,s,e,a,h⟩
  cases M with
  |nil=>rfl
  |cons y M=>
   rw[j,all_cons,all_nil,List.nil_append,List.append_assoc] at h
   exact(d y _ (b y q_).1 (b y q_).2 h).elim
 |cons x L g=>
  rintro M ⟨c,r,f,d,rfl⟩ ⟨b,s,e,a,h⟩
  cases M with
  |nil=>
   rw[all_cons,all_nil,List.nil_append,List.append_assoc] at h
   exact(a x _ (c x q_).1 (c x q_).2 h.symm).elim
  |cons y M=>
   rw[all_cons,all_cons,List.append_assoc,List.append_assoc] at h
   obtain⟨rfl,i⟩:=kG (c x q_).1 (c x q_).2 (b y q_).1 (b y q_).2 h
   rw[g (M:=M) ⟨fun z hz=>c z (by simp[hz]),r,f,d,rfl⟩ ⟨fun z hz=>b z (by simp[hz]),s,e,a,i⟩]
def EV {r:List Nat} (h:r.length<sz r):P4 r:=by
 rintro x t a hw rfl
 grind[Ex.pG]
theorem KW (b a:Nat):eN 3 b a=if 2<=a then 2+4*b else 2:=rfl
theorem yx {c:Nat} (h:c≠3) (d b a len':Nat):eN c d a=eN c b len':=by
 unfold eN
 grind
def wZ (b a len:Nat):1<=eN b a len:=by
 unfold eN
 grind
theorem AA {r:List Nat} (h:sz r<=r.length):sz (r.take (sz r))=sz r:=by
 have c: ∀k j,j<k->(r.take k).getD j 0=r.getD j 0:=fun k j f=>by grind
 have e:1<=sz r:=wZ _ _ _
 have a:sz r=eN (r.getD 0 0) (r.getD 1 0) r.length:=rfl
 generalize sz r=k at h e a
 show eN ((r.take k).getD 0 0) ((r.take k).getD 1 0) (r.take k).length=k
 rw[c k 0 z_,List.length_take,Nat.min_eq_left h]
 by_cases b:r.getD 0 0=3
 ·rw[b,KW] at a
  have d:2<=k:=y_
  rw[c k 1 z_,b,KW,if_pos d]
  grind
 grind[Ex.yx]
def Ds {r:List Nat} (h:sz r<=r.length) (b: ¬bj (iK (r.take (sz r)))):P4 r:=by
 rintro x t a hw rfl
 grind[Ex.pG,Ex.vj]
def JU {r:List Nat} (c: ∀y∈r,y<256) (h:sz r<=r.length) (b:bj (iK (r.take (sz r)))):zf (iK (r.take (sz r)))/\r=bytes (iK (r.take (sz r)))++r.drop (sz r):=by
 have a:(r.take (sz r)).length=sz (r.take (sz r)):=by grind[Ex.AA]
 refine⟨Oj y_ a,?_⟩
 rw[Gz y_ a b,List.take_append_drop]
def MB (a b c d:Int) (w:World):(Op.equalIn 10000 83 (.agg #[ab a,ab b]) (.agg #[ab c,ab d])).run Tryz.prog w= .ok (a==c&&b==d) w:=by
 have i:=Tryz.underlying81
 have k:=Tryz.isAgg81
 have g:=Tryz.sizeOf81
 have h:=Tryz.underlying3
 have j:=Tryz.isAgg3
 have f:=Tryz.sizeOf3
 have e:Tryz.prog.underlying 83=some (.struct (Tryz.prog.fieldsOf 83)):=by rfl
 rw[show(10000:Nat)=9999+1 from rfl,run_equalIn_agg w 9999 83 _ _ e q_]
 simp only[Program.fieldsOf,Tryz.underlying83]
 go_simp
 grind
def PH (a b c d:Int) (w:World):(Op.equal 83 (.agg #[ab a,ab b]) (.agg #[ab c,ab d])).run Tryz.prog w= .ok (a==c&&b==d) w:=MB _ _ _ _ w
@[go_sem high] theorem QB (a b c d : Int) (w : World) : (binOp .neq 83 (.agg #[ab a, ab b]) (.agg #[ab c, ab d])).run Tryz.prog w = .ok (.bool (!(a == c && b == d))) w := by
 simp[binOp,go_sem,PH]
def qe (w:World) (a:Option Addr) (c:List (Int×Int)):Prop:=lJ w a c.length (cO c) (cR c)
def qe.below {w w':World} {a:Option Addr} {c:List (Int×Int)} (h:qe w a c) (b:aC w w'):qe w' a c:=lJ.below h b
def lY (w:World) (a:Option Addr):qe w a []:= .inl rfl
def Pn {c d:List (Int×Int)} (a:c.length=d.length) (h:c≠d): ∃j,j<c.length/\(∀i,i<j->cO c i=cO d i/\cR c i=cR d i)/\ ¬(cO c j=cO d j/\cR c j=cR d j):=by
 rcases nG (fun i=>decide (cO c i=cO d i/\cR c i=cR d i)) c.length with q|⟨j,f,e,b⟩
 ·grind[Ex.K4]
 grind
def so (w:World) (a b:Nat):(w.drewN a).drewN b=w.drewN (a+b):=q_
theorem Ng (w:World) (a b:Option Addr) (d c h g:Nat) (i:d≠c):
  aB 152 #[.slice a d h,.slice b c g] w fun e f=>e= .returned (.bool false)/\ ∃q,f=w.drewN q:=by
 have j:((d:Int) !=(c:Int))=true:=y_
 refine ge ?_
 go_wp2
 go_ret
 exact⟨rfl,0,rfl⟩
def An (w:World) (r m p l len C B:Nat) (O R k h:Nat->Int) (J:Nat) (x:J<=len) (u:len<9223372036854775808)
  (g: ∀j,j<len->w.cell? (af r (m+j*2))=some (ab (O j))/\w.cell? (af r (m+j*2+1))=some (ab (R j))) (f: ∀j,j<len->w.cell? (af p (l+j*2))=some (ab (k j))/\w.cell? (af p (l+j*2+1))=some (ab (h j)))
  (t: ∀i,i<J->O i=k i/\R i=h i) (v:J<len-> ¬(O J=k J/\R J=h J)):
  aB 152 #[.slice (some (af r m)) len C,.slice (some (af p l)) len B] w fun e y=>e= .returned (.bool (decide (J=len)))/\ ∃q,y=w.drewN q:=by
 have F:=aa g
 have E:=aa f
 have D:=aa t
 have S:=aa v
 have Q:=aa x
 clear g f t v x
 refine ge ?_
 go_wp2
 go_loopw [13] (fun i wr=> ∃j q:Nat,j<=J/\i=ab j/\wr=w.drewN q) (fun i _=>len-(intOf i).toNat)
 case atStart=>exact⟨0,0,z_,rfl,rfl⟩
 case round=>
  obtain⟨j,q,n,rfl,rfl⟩:=hrel
  by_cases c:j<len
  ·obtain⟨M,L⟩:=F.out j c
   obtain⟨I,H⟩:=E.out j c
   have b:(j:Int)<len:=z_
   by_cases a:j<J
   ·obtain⟨A,z⟩:=D.out j a
    have P:(O j==k j)=true:=y_
    have N:(R j==h j)=true:=y_
    have d:=aa a
    clear A z a n
    go_wp2
    go_quiet (fail)
    go_wp2
    go_roundw
    case rel=>exact⟨j+1,_,d.out,by go_num,rfl⟩
    case measure=>simp[intOf];omega
   ·have o:j=J:=by omega
    have s:Hid (decide (J=len)=false):=by
     grind[decide_eq_false]
    have G:((O j==k j)&&(R j==h j))=false:=by
     grind[RowKit.Hid.out]
    clear a n o
    go_wp2
    go_quiet (fail)
    go_wp2
    go_ret
    exact⟨by rw[s.out];rfl,_,by first|rfl|exact so _ _ _⟩
  ·have b: ¬(j:Int)<len:=by omega
   have s:Hid (decide (J=len)=true):=by
    grind[RowKit.Hid.out]
   clear n
   go_wp2
   go_ret
   exact⟨by rw[s.out];rfl,_,by first|rfl|exact so _ _ _⟩
def IJ (w:World) (a b:Option Addr) (f d:Nat):
  aB 152 #[.slice a 0 f,.slice b 0 d] w fun e c=>e= .returned (.bool true)/\ ∃q,c=w.drewN q:=by
 refine ge ?_
 go_wp2
 go_loopw [13] (fun i wr=>i=ab 0/\wr=w) (fun i _=>0)
 case atStart=>simp
 case round=>
  obtain⟨rfl,rfl⟩:=hrel
  go_wp2
  go_ret
  exact⟨rfl,0,rfl⟩
def MS (w:World) (a b:Option Addr) (c d:List (Int×Int)) (n m:Nat) (z:qe w a c) (y:qe w b d) (t:c.length<9223372036854775808):
  aB 152 #[.slice a c.length n,.slice b d.length m] w fun e l=> ∃B:Bool,e= .returned (.bool B)/\(B=true↔c=d)/\ ∃q,l=w.drewN q:=by
 by_cases f:c.length=d.length
 ·by_cases p:c.length=0
  ·have E:=List.length_eq_zero_iff.1 p
   have D:=List.length_eq_zero_iff.1 (f▸p)
   subst E D
   exact(IJ w a b n m).mono fun e l ⟨i,o⟩=>y_
  ·rcases z with h|⟨v,s,rfl,_,k⟩
   ·exact absurd h p
   rcases y with h|⟨u,r,rfl,_,g⟩
   ·omega
   by_cases i:c=d
   ·subst i
    exact(An w v s u r c.length n m _ _ _ _ c.length aT t k g q_ q_).mono fun e l ⟨i,o⟩=>y_
   ·obtain⟨j,F,C,A⟩:=Pn f i
    rw[<-f] at g|-
    refine(An w v s u r c.length n m _ _ _ _ j z_ t k g C (fun _=>A)).mono fun e l ⟨x,o⟩=>⟨false,?_,by simp[i],o⟩
    rw[x,show decide (j=c.length)=false by grind]
 ·grind[Ex.Ng]
def j3 (w:World) (n a b:Int):vS 108 #[ab n,ab a,ab b] w (.bool (decide (a<=n/\n<=b))):=by
 by_cases d:a<=n
 ·by_cases c:n<=b
  ·refine ge ?_
   go_wp2
   go_ret
   simp_all
  ·refine ge ?_
   go_wp2
   go_ret
   simp_all
 ·refine ge ?_
  go_wp2
  go_ret
  exact⟨by simp;omega,rfl⟩
def dz (w:World) (c b:Array Value) (t a:TypeId):aC w ((w.alloc (.cells c t)).alloc (.cells b a)):=bq.alloc q_ _
def LQ (x y:En):x=y↔x.d=y.d/\x.p=y.p/\(x.dr:Int)=y.dr/\x.n=y.n/\x.code=y.code/\(x.bu:Int)=y.bu/\(x.pe:Int)=y.pe/\x.pr=y.pr/\(x.lv:Int)=y.lv/\x.sv=y.sv:=by
 cases x
 cases y
 grind
def lU (w:World) (x y:En) (a b:Option Addr) (j i:Nat) (g:qe w a x.code) (f:qe w b y.code) (k:x.code.length<9223372036854775808):
  aB 109 #[.agg #[ab x.d,ab x.p,aj x.dr,ab x.n,.slice a x.code.length j,aj x.bu,aj x.pe,ab x.pr,aA x.lv,ab x.sv],.agg #[ab y.d,ab y.p,aj y.dr,ab y.n,.slice b y.code.length i,aj y.bu,aj y.pe,ab y.pr,aA y.lv,ab y.sv]] w fun e w'=> ∃B:Bool,e= .returned (.bool B)/\(B=true↔x=y)/\aC w w':=by
 have l:=aa fun W (h:aC w W)=>MS W a b x.code y.code j i (g.below h) (f.below h) k
 clear g f
 refine ge ?_
 go_wp2_with (go_at_call 152;refine(l.out _ (dz w _ _ _ _)).mono ?_;rintro e o ⟨B,rfl,c,q,rfl⟩;have m:=aa c;clear c)
 all_goals go_ret
 all_goals refine⟨_,rfl,?_,?_⟩
 all_goals first
  |exact below_drewN (dz w _ _ _ _) _
  |exact dz w _ _ _ _
  | (try have c:=m.out
     rw[LQ]
     simp_all)
def aX {w a:World} {c:Array Value} {t:TypeId} {B:Nat} (b:Below B (w.alloc (.cells c t)) a) (i:Nat) (u:Value) (e:c[i]? =some u) (d:w.heap.size<B:=by simp):a.cell? (af w.heap.size i)=some u:=by
 rw[b.cell (p:=(af w.heap.size i)) d]
 simp_all
def Gm {x:En} (a:x.d=1):bj x↔x=dB x.p x.dr/\0<=x.p/\x.p<=255:=by
 refine⟨fun h=> ?_,fun h=> .inl h⟩
 rcases h with ⟨e,b,c⟩|⟨e,b,c⟩|⟨e,b⟩|e|⟨e,b,c,g,f⟩
 ·grind
 ·exact absurd (a.symm.trans (show x.d=2 from congrArg En.d e)) x_
 ·exact absurd (a.symm.trans (show x.d=3 from congrArg En.d e)) x_
 ·exact absurd (a.symm.trans (show x.d=4 from congrArg En.d e)) x_
 ·exact absurd (a.symm.trans (show x.d=5 from congrArg En.d e)) x_
def ES {x:En} (a:x.d=2):bj x↔x=dg x.n/\1<=x.n/\x.n<=65535:=by
 refine⟨fun h=> ?_,fun h=> .inr (.inl h)⟩
 rcases h with ⟨e,b,c⟩|⟨e,b,c⟩|⟨e,b⟩|e|⟨e,b,c,g,f⟩
 ·exact absurd (a.symm.trans (show x.d=1 from congrArg En.d e)) x_
 ·grind
 ·exact absurd (a.symm.trans (show x.d=3 from congrArg En.d e)) x_
 ·exact absurd (a.symm.trans (show x.d=4 from congrArg En.d e)) x_
 ·exact absurd (a.symm.trans (show x.d=5 from congrArg En.d e)) x_
def FR {x:En} (a:x.d=3):bj x↔x=cK x.code/\uK x.code:=by
 refine⟨fun h=> ?_,fun h=> .inr (.inr (.inl h))⟩
 rcases h with ⟨e,b,c⟩|⟨e,b,c⟩|⟨e,b⟩|e|⟨e,b,c,g,f⟩
 ·exact absurd (a.symm.trans (show x.d=1 from congrArg En.d e)) x_
 ·exact absurd (a.symm.trans (show x.d=2 from congrArg En.d e)) x_
 ·grind
 ·exact absurd (a.symm.trans (show x.d=4 from congrArg En.d e)) x_
 ·exact absurd (a.symm.trans (show x.d=5 from congrArg En.d e)) x_
def FT {x:En} (a:x.d=4):bj x↔x=cT x.bu x.pe:=by
 refine⟨fun h=> ?_,fun h=> .inr (.inr (.inr (.inl h)))⟩
 rcases h with ⟨e,b,c⟩|⟨e,b,c⟩|⟨e,b⟩|e|⟨e,b,c,g,f⟩
 ·exact absurd (a.symm.trans (show x.d=1 from congrArg En.d e)) x_
 ·exact absurd (a.symm.trans (show x.d=2 from congrArg En.d e)) x_
 ·exact absurd (a.symm.trans (show x.d=3 from congrArg En.d e)) x_
 ·exact e
 ·exact absurd (a.symm.trans (show x.d=5 from congrArg En.d e)) x_
def EY {x:En} (a:x.d=5):bj x↔x=bV x.pr x.lv x.sv/\0<=x.pr/\x.pr<=255/\ -1<=x.sv/\x.sv<=254:=by
 refine⟨fun h=> ?_,fun h=> .inr (.inr (.inr (.inr h)))⟩
 rcases h with ⟨e,b,c⟩|⟨e,b,c⟩|⟨e,b⟩|e|⟨e,b,c,g,f⟩
 ·exact absurd (a.symm.trans (show x.d=1 from congrArg En.d e)) x_
 ·exact absurd (a.symm.trans (show x.d=2 from congrArg En.d e)) x_
 ·exact absurd (a.symm.trans (show x.d=3 from congrArg En.d e)) x_
 ·exact absurd (a.symm.trans (show x.d=4 from congrArg En.d e)) x_
 grind
def xc {x:En} (g:x.d≠1) (f:x.d≠2) (c:x.d≠3) (b:x.d≠4) (a:x.d≠5): ¬bj x:=by
 rintro(⟨e,_⟩|⟨e,_⟩|⟨e,_⟩|e|⟨e,_⟩)
 ·exact g (congrArg En.d e)
 ·exact f (congrArg En.d e)
 ·exact c (congrArg En.d e)
 ·exact b (congrArg En.d e)
 ·exact a (congrArg En.d e)
@[go_sem] theorem PK (p a : Int) (w : World) : (Instr.build 86 #[(0, ab 1), (1, ab p), (2, aj a)]).run Tryz.prog w = .ok (.agg #[ab 1, ab p, aj a, ab 0, .slice none 0 0, aj 0, aj 0, ab 0, aA 0, ab 0]) w := run_build w 86 _ _ (by rfl)
@[go_sem] theorem PB (n : Int) (w : World) : (Instr.build 86 #[(0, ab 2), (3, ab n)]).run Tryz.prog w = .ok (.agg #[ab 2, ab 0, aj 0, ab n, .slice none 0 0, aj 0, aj 0, ab 0, aA 0, ab 0]) w := run_build w 86 _ _ (by rfl)
@[go_sem] theorem Py (a : Option Addr) (l c : Nat) (w : World) : (Instr.build 86 #[(0, ab 3), (4, .slice a l c)]).run Tryz.prog w = .ok (.agg #[ab 3, ab 0, aj 0, ab 0, .slice a l c, aj 0, aj 0, ab 0, aA 0, ab 0]) w := run_build w 86 _ _ (by rfl)
@[go_sem] theorem PA (b p : Int) (w : World) : (Instr.build 86 #[(0, ab 4), (5, aj b), (6, aj p)]).run Tryz.prog w = .ok (.agg #[ab 4, ab 0, aj 0, ab 0, .slice none 0 0, aj b, aj p, ab 0, aA 0, ab 0]) w := run_build w 86 _ _ (by rfl)
@[go_sem] theorem PN (p l s : Int) (w : World) : (Instr.build 86 #[(0, ab 5), (7, ab p), (8, aA l), (9, ab s)]).run Tryz.prog w = .ok (.agg #[ab 5, ab 0, aj 0, ab 0, .slice none 0 0, aj 0, aj 0, ab p, aA l, ab s]) w := run_build w 86 _ _ (by rfl)
theorem Co (w:World) (p:Int) (c:Nat) (n:Int) (b:List (Int×Int)) (i g:Nat) (f:Int) (h:Nat) (d:Int) (a:Option Addr) (m:Nat) (r:qe w a b) (s:b.length<9223372036854775808):
  aB 64 #[.agg #[ab 1,ab p,aj c,ab n,.slice a b.length m,aj i,aj g,ab f,aA h,ab d]] w fun e w'=> ∃B:Bool,e= .returned (.bool B)/\(B=true↔bj (⟨1,p,c,n,b,i,g,f,h,d⟩:En))/\aC w w':=by
 have u:Hid (∀W,aC w W->aB 109 #[.agg #[ab 1,ab p,aj c,ab n,.slice a b.length m,aj i,aj g,ab f,aA h,ab d],.agg #[ab 1,ab p,aj c,ab 0,.slice none 0 0,aj 0,aj 0,ab 0,aA 0,ab 0]] W fun e w'=> ∃B:Bool,e= .returned (.bool B)/\(B=true↔(⟨1,p,c,n,b,i,g,f,h,d⟩:En)=dB p c)/\aC W w'):=fun W t=>lU W (⟨1,p,c,n,b,i,g,f,h,d⟩:En) (dB p c) a none m 0 (r.below t) (lY _ _) s
 have o:Hid (∀W,aB 108 #[ab p,ab 0,ab 255] W fun e w'=> ∃B:Bool,e= .returned (.bool B)/\(B=true↔0<=p/\p<=255)/\w'=W):=fun W=>(j3 W p 0 255).mono fun e w' ⟨D,C⟩=>y_
 clear r
 have E:=aa (Gm (x:=(⟨1,p,c,n,b,i,g,f,h,d⟩:En)) rfl)
 refine ge ?_
 go_wp2_with (first
  |(go_at_call 108;refine(o.out _).mono ?_;rintro e A ⟨G,rfl,l,hw⟩;replace hw:=hw.symm;subst hw;have y:=aa l;clear l)
  |(go_at_call 109;refine(u.out _ bq).mono ?_;rintro e z ⟨F,rfl,k,j⟩;have v:=aa k;have q:=aa j;clear k j))
 all_goals go_ret
 all_goals refine⟨_,rfl,?_,?_⟩
 all_goals first
  |exact bq.trans (q.out.mono q_)
  |exact bq
  |grind[RowKit.Hid.out]
theorem CV (w:World) (p:Int) (h:Nat) (n:Int) (b:List (Int×Int)) (i f:Nat) (d:Int) (g:Nat) (c:Int) (a:Option Addr) (m:Nat) (r:qe w a b) (s:b.length<9223372036854775808):
  aB 64 #[.agg #[ab 2,ab p,aj h,ab n,.slice a b.length m,aj i,aj f,ab d,aA g,ab c]] w fun e w'=> ∃B:Bool,e= .returned (.bool B)/\(B=true↔bj (⟨2,p,h,n,b,i,f,d,g,c⟩:En))/\aC w w':=by
 have u:Hid (∀W,aC w W->aB 109 #[.agg #[ab 2,ab p,aj h,ab n,.slice a b.length m,aj i,aj f,ab d,aA g,ab c],.agg #[ab 2,ab 0,aj 0,ab n,.slice none 0 0,aj 0,aj 0,ab 0,aA 0,ab 0]] W fun e w'=> ∃B:Bool,e= .returned (.bool B)/\(B=true↔(⟨2,p,h,n,b,i,f,d,g,c⟩:En)=dg n)/\aC W w'):=fun W t=>lU W (⟨2,p,h,n,b,i,f,d,g,c⟩:En) (dg n) a none m 0 (r.below t) (lY _ _) s
 have o:Hid (∀W,aB 108 #[ab n,ab 1,ab 65535] W fun e w'=> ∃B:Bool,e= .returned (.bool B)/\(B=true↔1<=n/\n<=65535)/\w'=W):=fun W=>(j3 W n 1 65535).mono fun e w' ⟨D,C⟩=>y_
 clear r
 have E:=aa (ES (x:=(⟨2,p,h,n,b,i,f,d,g,c⟩:En)) rfl)
 refine ge ?_
 go_wp2_with (first
  |(go_at_call 108;refine(o.out _).mono ?_;rintro e A ⟨G,rfl,l,hw⟩;replace hw:=hw.symm;subst hw;have y:=aa l;clear l)
  |(go_at_call 109;refine(u.out _ bq).mono ?_;rintro e z ⟨F,rfl,k,j⟩;have v:=aa k;have q:=aa j;clear k j))
 all_goals go_ret
 all_goals refine⟨_,rfl,?_,?_⟩
 all_goals first
  |exact bq.trans (q.out.mono q_)
  |exact bq
  |grind[RowKit.Hid.out]
theorem BK (w:World) (p:Int) (k:Nat) (n:Int) (b:List (Int×Int)) (l i:Nat) (h:Int) (j:Nat) (g:Int) (a:Option Addr) (f:Nat) (r:qe w a b) (z:b.length<9223372036854775808):
  aB 64 #[.agg #[ab 3,ab p,aj k,ab n,.slice a b.length f,aj l,aj i,ab h,aA j,ab g]] w fun e w'=> ∃B:Bool,e= .returned (.bool B)/\(B=true↔bj (⟨3,p,k,n,b,l,i,h,j,g⟩:En))/\aC w w':=by
 have E:Hid (∀W,aC w W->aB 109 #[.agg #[ab 3,ab p,aj k,ab n,.slice a b.length f,aj l,aj i,ab h,aA j,ab g],.agg #[ab 3,ab 0,aj 0,ab 0,.slice a b.length f,aj 0,aj 0,ab 0,aA 0,ab 0]] W fun e w'=> ∃B:Bool,e= .returned (.bool B)/\(B=true↔(⟨3,p,k,n,b,l,i,h,j,g⟩:En)=cK b)/\aC W w'):=fun W c=>lU W (⟨3,p,k,n,b,l,i,h,j,g⟩:En) (cK b) a a f f (r.below c) (r.below c) z
 have G:Hid (∀W,aC w W->aB 51 #[.slice a b.length f] W fun e w'=> ∃x y:Int,e=aS #[ab x,ab y]/\(x=0↔uK b)/\aC W w'):=fun W c=>(pE W a b.length f z (cO b) (cR b) (r.below c)).mono fun e w' ⟨x,y,C,s,D⟩=>⟨x,y,C,⟨fun q=>⟨y,by rw[<-q];exact s⟩,fun ⟨S,q⟩=>(s.one q).1.symm⟩,D⟩
 clear r
 have F:=aa (FR (x:=(⟨3,p,k,n,b,l,i,h,j,g⟩:En)) rfl)
 refine ge ?_
 go_wp2_with (first
  |(go_at_call 51;refine(G.out _ bq).mono ?_;rintro e U ⟨x,y,rfl,A,c⟩;have v:=aa A;have d:=aa c;have R:=aX c 0 _ rfl;have Q:=aX c 1 _ rfl;have P:=aX c 2 _ rfl;have O:=aX c 3 _ rfl;have N:=aX c 4 _ rfl;have M:=aX c 5 _ rfl;have L:=aX c 6 _ rfl;have J:=aX c 7 _ rfl;have I:=aX c 8 _ rfl;have H:=aX c 9 _ rfl;clear A c)
  |(go_at_call 109;refine(E.out _ (bq.trans (d.out.mono q_))).mono ?_;rintro e T ⟨V,rfl,o,m⟩;have u:=aa o;have t:=aa m;clear o m))
 all_goals go_ret
 all_goals refine⟨_,rfl,?_,?_⟩
 all_goals first
  |exact(bq.trans (d.out.mono q_)).trans (t.out.mono (zY0 (Nat.le_succ _) (by have:=d.out.size;simp_all)))
  |exact bq.trans (d.out.mono q_)
  | (rw [F.out]
     have C:=v.out
     try have s:=u.out
     simp_all)
theorem CB (w:World) (p:Int) (i:Nat) (n:Int) (b:List (Int×Int)) (d c:Nat) (g:Int) (h:Nat) (f:Int) (a:Option Addr) (l:Nat) (o:qe w a b) (q:b.length<9223372036854775808):
  aB 64 #[.agg #[ab 4,ab p,aj i,ab n,.slice a b.length l,aj d,aj c,ab g,aA h,ab f]] w fun e w'=> ∃B:Bool,e= .returned (.bool B)/\(B=true↔bj (⟨4,p,i,n,b,d,c,g,h,f⟩:En))/\aC w w':=by
 have s:Hid (∀W,aC w W->aB 109 #[.agg #[ab 4,ab p,aj i,ab n,.slice a b.length l,aj d,aj c,ab g,aA h,ab f],.agg #[ab 4,ab 0,aj 0,ab 0,.slice none 0 0,aj d,aj c,ab 0,aA 0,ab 0]] W fun e w'=> ∃B:Bool,e= .returned (.bool B)/\(B=true↔(⟨4,p,i,n,b,d,c,g,h,f⟩:En)=cT d c)/\aC W w'):=fun W r=>lU W (⟨4,p,i,n,b,d,c,g,h,f⟩:En) (cT d c) a none l 0 (o.below r) (lY _ _) q
 clear o
 have v:=aa (FT (x:=(⟨4,p,i,n,b,d,c,g,h,f⟩:En)) rfl)
 refine ge ?_
 go_wp2_with (go_at_call 109;refine(s.out _ bq).mono ?_;rintro e u ⟨y,rfl,k,j⟩;have t:=aa k;have m:=aa j;clear k j)
 all_goals go_ret
 all_goals refine⟨_,rfl,?_,?_⟩
 all_goals first
  |exact bq.trans (m.out.mono q_)
  |exact bq
  |grind[RowKit.Hid.out]
theorem Dh (w:World) (p:Int) (h:Nat) (n:Int) (b:List (Int×Int)) (i g:Nat) (d:Int) (f:Nat) (c:Int) (a:Option Addr) (s:Nat) (A:qe w a b) (D:b.length<9223372036854775808):
  aB 64 #[.agg #[ab 5,ab p,aj h,ab n,.slice a b.length s,aj i,aj g,ab d,aA f,ab c]] w fun e w'=> ∃B:Bool,e= .returned (.bool B)/\(B=true↔bj (⟨5,p,h,n,b,i,g,d,f,c⟩:En))/\aC w w':=by
 have F:Hid (∀W,aC w W->aB 109 #[.agg #[ab 5,ab p,aj h,ab n,.slice a b.length s,aj i,aj g,ab d,aA f,ab c],.agg #[ab 5,ab 0,aj 0,ab 0,.slice none 0 0,aj 0,aj 0,ab d,aA f,ab c]] W fun e w'=> ∃B:Bool,e= .returned (.bool B)/\(B=true↔(⟨5,p,h,n,b,i,g,d,f,c⟩:En)=bV d f c)/\aC W w'):=fun W E=>lU W (⟨5,p,h,n,b,i,g,d,f,c⟩:En) (bV d f c) a none s 0 (A.below E) (lY _ _) D
 have o:Hid (∀W,aB 108 #[ab d,ab 0,ab 255] W fun e w'=> ∃B:Bool,e= .returned (.bool B)/\(B=true↔0<=d/\d<=255)/\w'=W):=fun W=>(j3 W d 0 255).mono fun e w' ⟨r,q⟩=>⟨_,r,q_,q⟩
 have t:Hid (∀W,aB 108 #[ab c,ab (-1),ab 254] W fun e w'=> ∃B:Bool,e= .returned (.bool B)/\(B=true↔(-1)<=c/\c<=254)/\w'=W):=fun W=>(j3 W c (-1) 254).mono fun e w' ⟨r,q⟩=>⟨_,r,q_,q⟩
 clear A
 have G:=aa (EY (x:=(⟨5,p,h,n,b,i,g,d,f,c⟩:En)) rfl)
 refine ge ?_
 go_wp2_with (first
  |(go_at_call 108;refine(o.out _).mono ?_;rintro e C ⟨M,rfl,m,hw⟩;replace hw:=hw.symm;subst hw;have z:=aa m;clear m o)
  |(go_at_call 108;refine(t.out _).mono ?_;rintro e C ⟨J,rfl,k,hw⟩;replace hw:=hw.symm;subst hw;have v:=aa k;clear k)
  |(go_at_call 109;refine(F.out _ bq).mono ?_;rintro e H ⟨L,rfl,l,j⟩;have y:=aa l;have u:=aa j;clear l j))
 all_goals go_ret
 all_goals refine⟨_,rfl,?_,?_⟩
 all_goals first
  |exact bq.trans (u.out.mono q_)
  |exact bq
  | (rw [G.out]
     try have r:=z.out
     try have q:=y.out
     try have I:=v.out
     grind)
theorem BM (w:World) (d:Int) (q:d≠1) (o:d≠2) (m:d≠3) (l:d≠4) (k:d≠5) (p:Int) (i:Nat) (n:Int) (b:List (Int×Int)) (j g:Nat) (f:Int) (h:Nat) (c:Int) (a:Option Addr) (r:Nat):
  aB 64 #[.agg #[ab d,ab p,aj i,ab n,.slice a b.length r,aj j,aj g,ab f,aA h,ab c]] w fun e w'=> ∃B:Bool,e= .returned (.bool B)/\(B=true↔bj (⟨d,p,i,n,b,j,g,f,h,c⟩:En))/\aC w w':=by
 have s:=aa (xc (x:=(⟨d,p,i,n,b,j,g,f,h,c⟩:En)) q o m l k)
 have z:(d==1)=false:=y_
 have y:(d==2)=false:=y_
 have v:(d==3)=false:=y_
 have u:(d==4)=false:=y_
 have t:(d==5)=false:=y_
 clear q o m l k
 refine ge ?_
 go_wp2
 go_ret
 exact⟨false,rfl,by simp[s.out],bq⟩
def sj (w:World) (x:En) (a:Option Addr) (c:Nat) (k:qe w a x.code) (j:x.code.length<9223372036854775808):
  aB 64 #[.agg #[ab x.d,ab x.p,aj x.dr,ab x.n,.slice a x.code.length c,aj x.bu,aj x.pe,ab x.pr,aA x.lv,ab x.sv]] w fun e w'=> ∃B:Bool,e= .returned (.bool B)/\(B=true↔bj x)/\aC w w':=by
 obtain⟨d,p,m,n,b,o,h,g,i,f⟩:=x
 by_cases l:d=1
 ·grind[Ex.Co]
 grind[Ex.CV,Ex.BK,Ex.CB,Ex.Dh,Ex.BM]
def Bx (W:World) (k:Nat) (c:Array Value) (t:TypeId):Prop:=W.heap[k]? =some (.cells c t (0,0))
section
variable {W W':World} {k:Nat} {c:Array Value} {t:TypeId}
def jN (w:World) (c:Array Value) (t:TypeId):Bx (w.alloc (.cells c t)) w.heap.size c t:=(MapKept.heap_alloc w _).1
theorem Bx.lt (h:Bx W k c t):k<W.heap.size:=(zW0.1 h).1
def Bx.alloc (h:Bx W k c t) (o:Obj):Bx (W.alloc o) k c t:=(zU0 _ _ _ h.lt).trans h
def Bx.below (h:Bx W k c t) {B:Nat} (b:Below B W W') (a:k<B):Bx W' k c t:=(b.block k a).trans h
def Bx.grown (h:Bx W k c t) {a:Option Nat} (b:W.grownBy W' a) (d:a≠some k):Bx W' k c t:=(b.block k h.lt y_).trans h
theorem Bx.cell (h:Bx W k c t) (i:Nat) (u:Value) (a:c[i]? =some u):W.cell? (af k i)=some u:=by
 unfold World.cell?
 rw[show W.heap[((af k i):Addr).block]? =_ from h]
 exact a
def yk {a:Nat} {e:TypeId} {s:Nat} {v:Value} {n:Nat} {d:List Value} (f:W.ownsRow a e s v n d) (h:Bx W k c t) (m:e≠t):v.ownBlock≠some k:=by
 intro b
 rcases f.2 with ⟨rfl,_⟩|⟨g,j,i,rfl,o,l,_⟩
 ·simp[Value.ownBlock] at b
 ·simp[Value.ownBlock] at b
  grind[Ex.Bx]
def qA {a:Nat} {e:TypeId} {s:Nat} {v:Value} {n:Nat} {b:List Value} (d:W.ownsRow a e s v n b):v.ownBlock≠some W.heap.size:=fun f=>by
 have:=(d.lt _ f).2
 omega
end
def ik (w a:World):Prop:= ∀k c t,t≠5->Bx w k c t->Bx a k c t
theorem ik.refl (w:World):ik w w:=fun _ _ _ _ h=>h
def ik.alloc {w w':World} (h:ik w w') (o:Obj):ik w (w'.alloc o):=fun k c t b a=>(h k c t b a).alloc o
def ik.grown {w w' w'':World} (h:ik w w') {base:Nat} {s:Nat} {v:Value} {n:Nat} {d:List Value} (e:w'.ownsRow base 5 s v n d) (f:w'.grownBy w'' v.ownBlock):ik w w'':=fun k c t b a=>(h k c t b a).grown f (yk e (h k c t b a) y_)
theorem Kw: ∀(k N j:Nat),j<k->(be k N)[j]? =some (N/256^(k-1-j)%256)
 |k+1,N,0,_=>by simp[be]
 |k+1,N,j+1,h=>by
  have:=Kw k N j z_
  grind[Ex.be]
def I7 {k N j m:Nat} (h:j<k) (a:m=k-1-j):dG ((be k N).take (j+1))=dG ((be k N).take j)++[bo (N/256^m)]:=by
 grind[Ex.Kw,List.take_add_one,Ex.dG,Ex.bo]
def LD (k N:Nat):(be k N).take k=be k N:=List.take_of_length_le (by rw[gQ];omega)
def mV (w:World) (c:Nat) (v:Value) (n:Nat) (B:List Value) (S:n<1000000) (h:w.ownsRow c 5 1 v n B) (C:c<=w.heap.size) (N:Nat) (U:N<18446744073709551616) (k:Nat) (y:k<=8):
  aB 110 #[v,aj N,ab k] w fun e w'=> ∃q,e= .returned q/\w'.ownsRow c 5 1 q (n+k) (B++dG (be k N))/\Below c w w'/\ik w w':=by
 obtain⟨E,hi,x,t,r⟩:=info_parts gJ
 have Q:=aa h
 clear h
 refine ge ?_
 go_wp2
 go_loopw [0,7] (fun s i wr=> ∃(j:Nat),j<=k/\i=ab ((k:Int)-1-j)/\wr.ownsRow c 5 1 s (n+j) (B++dG ((be k N).take j))/\Below c w wr/\c<=wr.heap.size/\ik w wr) (fun _ i _=>(intOf i+1).toNat)
 case atStart=>exact⟨0,z_,q_,by simpa [dG] using Q.out,cj,C,ik.refl _⟩
 case round=>
  obtain⟨j,T,rfl,M,P,g,H⟩:=hrel
  have d:=aa M
  have D:=aa P
  have p:=aa H
  clear M P Q H
  by_cases I:j<k
  ·obtain⟨m,R,O,G⟩: ∃m:Nat,m<8/\m=k-1-j/\(k:Int)-1-(j:Int)=m:=⟨k-1-j,z_,rfl,z_⟩
   have F:=aa (I7 (N:=N) I O)
   have z:Hid (j+1<=k/\(k:Int)-1-((j+1:Nat):Int)=(m:Int)-1):=⟨z_,z_⟩
   rw[G]
   clear O G
   have:m=0\/m=1\/m=2\/m=3\/m=4\/m=5\/m=6\/m=7:=z_
   rcases this with rfl|rfl|rfl|rfl|rfl|rfl|rfl|rfl
   ·go_wp2_with (at_builtin;refine wpList_append_own _ rfl _ _ 51 rfl c 5 E (aA 0) 1 1 Tryz.underlying51 hi x t r rfl x_ _ _ _ rfl (World.ownsRow.alloc d.out _) (ao wr.heap.size) 1 1 [_] rfl rfl (cell_one_new _ _ _) (by simp[Value.oneCell']) (by unfold maxLen;omega) z_ (by simp;omega) ?_;intro q A b a _;have l:=aa b;have o:=aa ((D.out.alloc g _).grown a (zY0 g q_) (fun k y=>(d.out.lt k y).1));have f:=aa ((p.out.alloc _).grown (World.ownsRow.alloc d.out _) a);clear b a)
    refine⟨⟨j+1,z.out.1,by rw[z.out.2];rfl,?_,o.out,zY0 C o.out.size,f.out⟩,x_⟩
    rw[F.out,<-List.append_assoc]
    refine Eq.mp (congrArg (fun u=>A.ownsRow c 5 1 q (n+j+1) (B++dG (List.take j (be k N))++[u])) ?_) l.out
    unfold bo
    simp
   ·go_wp2_with (at_builtin;refine wpList_append_own _ rfl _ _ 51 rfl c 5 E (aA 0) 1 1 Tryz.underlying51 hi x t r rfl x_ _ _ _ rfl (World.ownsRow.alloc d.out _) (ao wr.heap.size) 1 1 [_] rfl rfl (cell_one_new _ _ _) (by simp[Value.oneCell']) (by unfold maxLen;omega) z_ (by simp;omega) ?_;intro q A b a _;have l:=aa b;have o:=aa ((D.out.alloc g _).grown a (zY0 g q_) (fun k y=>(d.out.lt k y).1));have f:=aa ((p.out.alloc _).grown (World.ownsRow.alloc d.out _) a);clear b a)
    refine⟨⟨j+1,z.out.1,by rw[z.out.2];rfl,?_,o.out,zY0 C o.out.size,f.out⟩,x_⟩
    rw[F.out,<-List.append_assoc]
    refine Eq.mp (congrArg (fun u=>A.ownsRow c 5 1 q (n+j+1) (B++dG (List.take j (be k N))++[u])) ?_) l.out
    rfl
   ·go_wp2_with (at_builtin;refine wpList_append_own _ rfl _ _ 51 rfl c 5 E (aA 0) 1 1 Tryz.underlying51 hi x t r rfl x_ _ _ _ rfl (World.ownsRow.alloc d.out _) (ao wr.heap.size) 1 1 [_] rfl rfl (cell_one_new _ _ _) (by simp[Value.oneCell']) (by unfold maxLen;omega) z_ (by simp;omega) ?_;intro q A b a _;have l:=aa b;have o:=aa ((D.out.alloc g _).grown a (zY0 g q_) (fun k y=>(d.out.lt k y).1));have f:=aa ((p.out.alloc _).grown (World.ownsRow.alloc d.out _) a);clear b a)
    refine⟨⟨j+1,z.out.1,by rw[z.out.2];rfl,?_,o.out,zY0 C o.out.size,f.out⟩,x_⟩
    rw[F.out,<-List.append_assoc]
    refine Eq.mp (congrArg (fun u=>A.ownsRow c 5 1 q (n+j+1) (B++dG (List.take j (be k N))++[u])) ?_) l.out
    rfl
   ·go_wp2_with (at_builtin;refine wpList_append_own _ rfl _ _ 51 rfl c 5 E (aA 0) 1 1 Tryz.underlying51 hi x t r rfl x_ _ _ _ rfl (World.ownsRow.alloc d.out _) (ao wr.heap.size) 1 1 [_] rfl rfl (cell_one_new _ _ _) (by simp[Value.oneCell']) (by unfold maxLen;omega) z_ (by simp;omega) ?_;intro q A b a _;have l:=aa b;have o:=aa ((D.out.alloc g _).grown a (zY0 g q_) (fun k y=>(d.out.lt k y).1));have f:=aa ((p.out.alloc _).grown (World.ownsRow.alloc d.out _) a);clear b a)
    refine⟨⟨j+1,z.out.1,by rw[z.out.2];rfl,?_,o.out,zY0 C o.out.size,f.out⟩,x_⟩
    rw[F.out,<-List.append_assoc]
    refine Eq.mp (congrArg (fun u=>A.ownsRow c 5 1 q (n+j+1) (B++dG (List.take j (be k N))++[u])) ?_) l.out
    rfl
   ·go_wp2_with (at_builtin;refine wpList_append_own _ rfl _ _ 51 rfl c 5 E (aA 0) 1 1 Tryz.underlying51 hi x t r rfl x_ _ _ _ rfl (World.ownsRow.alloc d.out _) (ao wr.heap.size) 1 1 [_] rfl rfl (cell_one_new _ _ _) (by simp[Value.oneCell']) (by unfold maxLen;omega) z_ (by simp;omega) ?_;intro q A b a _;have l:=aa b;have o:=aa ((D.out.alloc g _).grown a (zY0 g q_) (fun k y=>(d.out.lt k y).1));have f:=aa ((p.out.alloc _).grown (World.ownsRow.alloc d.out _) a);clear b a)
    refine⟨⟨j+1,z.out.1,by rw[z.out.2];rfl,?_,o.out,zY0 C o.out.size,f.out⟩,x_⟩
    rw[F.out,<-List.append_assoc]
    refine Eq.mp (congrArg (fun u=>A.ownsRow c 5 1 q (n+j+1) (B++dG (List.take j (be k N))++[u])) ?_) l.out
    rfl
   ·go_wp2_with (at_builtin;refine wpList_append_own _ rfl _ _ 51 rfl c 5 E (aA 0) 1 1 Tryz.underlying51 hi x t r rfl x_ _ _ _ rfl (World.ownsRow.alloc d.out _) (ao wr.heap.size) 1 1 [_] rfl rfl (cell_one_new _ _ _) (by simp[Value.oneCell']) (by unfold maxLen;omega) z_ (by simp;omega) ?_;intro q A b a _;have l:=aa b;have o:=aa ((D.out.alloc g _).grown a (zY0 g q_) (fun k y=>(d.out.lt k y).1));have f:=aa ((p.out.alloc _).grown (World.ownsRow.alloc d.out _) a);clear b a)
    refine⟨⟨j+1,z.out.1,by rw[z.out.2];rfl,?_,o.out,zY0 C o.out.size,f.out⟩,x_⟩
    rw[F.out,<-List.append_assoc]
    refine Eq.mp (congrArg (fun u=>A.ownsRow c 5 1 q (n+j+1) (B++dG (List.take j (be k N))++[u])) ?_) l.out
    rfl
   ·go_wp2_with (at_builtin;refine wpList_append_own _ rfl _ _ 51 rfl c 5 E (aA 0) 1 1 Tryz.underlying51 hi x t r rfl x_ _ _ _ rfl (World.ownsRow.alloc d.out _) (ao wr.heap.size) 1 1 [_] rfl rfl (cell_one_new _ _ _) (by simp[Value.oneCell']) (by unfold maxLen;omega) z_ (by simp;omega) ?_;intro q A b a _;have l:=aa b;have o:=aa ((D.out.alloc g _).grown a (zY0 g q_) (fun k y=>(d.out.lt k y).1));have f:=aa ((p.out.alloc _).grown (World.ownsRow.alloc d.out _) a);clear b a)
    refine⟨⟨j+1,z.out.1,by rw[z.out.2];rfl,?_,o.out,zY0 C o.out.size,f.out⟩,x_⟩
    rw[F.out,<-List.append_assoc]
    refine Eq.mp (congrArg (fun u=>A.ownsRow c 5 1 q (n+j+1) (B++dG (List.take j (be k N))++[u])) ?_) l.out
    rfl
   ·go_wp2_with (at_builtin;refine wpList_append_own _ rfl _ _ 51 rfl c 5 E (aA 0) 1 1 Tryz.underlying51 hi x t r rfl x_ _ _ _ rfl (World.ownsRow.alloc d.out _) (ao wr.heap.size) 1 1 [_] rfl rfl (cell_one_new _ _ _) (by simp[Value.oneCell']) (by unfold maxLen;omega) z_ (by simp;omega) ?_;intro q A b a _;have l:=aa b;have o:=aa ((D.out.alloc g _).grown a (zY0 g q_) (fun k y=>(d.out.lt k y).1));have f:=aa ((p.out.alloc _).grown (World.ownsRow.alloc d.out _) a);clear b a)
    refine⟨⟨j+1,z.out.1,by rw[z.out.2];rfl,?_,o.out,zY0 C o.out.size,f.out⟩,x_⟩
    rw[F.out,<-List.append_assoc]
    refine Eq.mp (congrArg (fun u=>A.ownsRow c 5 1 q (n+j+1) (B++dG (List.take j (be k N))++[u])) ?_) l.out
    unfold bo
    grind
  ·obtain rfl:j=k:=by omega
   rw[show(j:Int)-1-(j:Int)= -1 by omega]
   have L:=d.out
   rw[LD] at L
   have J:=aa L
   clear L
   go_wp2
   go_ret
   exact⟨_,rfl,J.out,D.out,p.out⟩
def m9 {W:World} {a:Nat} {e:TypeId} {s:Nat} {v:Value} {n c:Nat} {b xs':List Value} (f:W.ownsRow a e s v n b) (g:n=c) (d:b=xs'):W.ownsRow a e s v c xs':=by
 subst g d
 exact f
def rP (w:World) (l:List Value) (t:TypeId): ∀j u,l[j]? =some u->(w.alloc (.cells l.toArray t)).cell? (((ao w.heap.size):Addr).add j)=some u:=by
 intro j u a
 exact World.news_of_block (cs:=l.toArray) ((MapKept.heap_alloc w _).1) j u z_
def eE (w:World) (o:Obj) (v:Value) (t:TypeId): ∀j u,[v][j]? =some u->((w.alloc o).alloc (.cells #[v] t)).cell? (((ao (w.heap.size+1)):Addr).add j)=some u:=by
 have:=cell_one_new (w.alloc o) v t
 simp_all
def uD (b:List Nat): ∀u∈dG b,u.oneCell'=true:=by
 intro u a
 simp only[dG,List.mem_map] at a
 obtain⟨x,_,rfl⟩:=a
 rfl
def yI (a b:List Nat):dG (a++b)=dG a++dG b:=by simp[dG]
def xU (a:List Nat):(dG a).length=a.length:=by simp[dG]
def Ek (w:World) (b:Nat) (v:Value) (n:Nat) (J:List Value) (hn:n<900000) (h:w.ownsRow b 5 1 v n J) (E:b<=w.heap.size) (a:Option Addr) (A:Nat) (p c:Nat) (hp:p<256) (D:c<18446744073709551616):
  aB 65 #[v,.agg #[ab 1,ab p,aj c,ab 0,.slice a 0 A,aj 0,aj 0,ab 0,aA 0,ab 0]] w fun e w'=> ∃g,e= .returned g/\w'.ownsRow b 5 1 g (n+(1::p::be 8 c).length) (J++dG (1::p::be 8 c))/\Below b w w':=by
 obtain⟨L,hi,m,l,j⟩:=info_parts gJ
 have U:=aa h
 have I:Hid (∀(o:Obj) (f:World),((w.alloc (.cells #[ab 1,ab p,aj c,ab 0,.slice a 0 A,aj 0,aj 0,ab 0,aA 0,ab 0] 86)).alloc o).grownBy f v.ownBlock->Bx f w.heap.size #[ab 1,ab p,aj c,ab 0,.slice a 0 A,aj 0,aj 0,ab 0,aA 0,ab 0] 86/\Below b w f/\b<=f.heap.size):=by
  intro o f M
  have N:=(((i4 b w).alloc E (.cells #[ab 1,ab p,aj c,ab 0,.slice a 0 A,aj 0,aj 0,ab 0,aA 0,ab 0] 86)).alloc (by simp;omega) o).grown M (by simp;omega) (fun k C=>(h.lt k C).1)
  exact⟨((jN w #[ab 1,ab p,aj c,ab 0,.slice a 0 A,aj 0,aj 0,ab 0,aA 0,ab 0] 86).alloc o).grown M (qA h),N,zY0 E N.size⟩
 clear h
 have T:Hid (∀W g d,W.ownsRow b 5 1 g (n+1+1) d->b<=W.heap.size->aB 110 #[g,aj c,ab 8] W fun e w'=> ∃B,e= .returned B/\w'.ownsRow b 5 1 B (n+1+1+8) (d++dG (be 8 c))/\Below b W w'/\ik W w'):=fun W g d S R=>mV W b g _ d z_ S R c D 8 z_
 refine ge ?_
 go_wp2_with (first
  |(go_at_call 110;refine(T.out _ _ _ HO2.out hs2).mono ?_;rintro e V ⟨Y,rfl,r,u,y⟩;have G:=aa r;have H:=aa (HL2.out.trans u);clear r u y)
  |(at_builtin;refine wpList_append_own _ rfl _ _ 51 rfl b 5 L (aA 0) 1 1 q_ hi m l j rfl x_ _ _ _ rfl (World.ownsRow.alloc HO1.out _) (ao f.heap.size) 1 1 [_] rfl rfl (cell_one_new _ _ _) (by simp[Value.oneCell']) (by unfold maxLen;omega) z_ (by simp;omega) ?_;intro B X s i _;have HO2:=aa s;have F:=aa ((HX1.out.alloc _).grown i (yk HO1.out HX1.out x_));have HL2:=aa ((HL1.out.alloc hs1 _).grown i (by simp;omega) (fun k C=>(HO1.out.lt k C).1));have hs2:=zY0 E HL2.out.size;have O:=F.out.cell 2 _ rfl;clear s i)
  |(at_builtin;refine wpList_append_own _ rfl _ _ 51 rfl b 5 L (aA 0) 1 1 q_ hi m l j rfl x_ _ _ _ rfl (World.ownsRow.alloc (World.ownsRow.alloc U.out _) _) (ao (w.heap.size+1)) 1 1 [_] rfl rfl (eE _ _ _ _) x_ (by unfold maxLen;omega) z_ (by simp;omega) ?_;intro Z f t z _;have HO1:=aa t;obtain⟨q,x,hs1⟩:=I.out _ _ z;have HX1:=aa q;have HL1:=aa x;have Q:=HX1.out.cell 0 _ rfl;have P:=HX1.out.cell 1 _ rfl;clear t z q x))
 go_ret
 refine⟨_,rfl,m9 G.out (by rfl) ?_,H.out⟩
 simp[dG]
def DR (w:World) (b:Nat) (v:Value) (n:Nat) (B:List Value) (S:n<900000) (h:w.ownsRow b 5 1 v n B) (F:b<=w.heap.size) (a:Option Addr) (r:Nat) (k:Nat) (D:k<65536):
  aB 65 #[v,.agg #[ab 2,ab 0,aj 0,ab k,.slice a 0 r,aj 0,aj 0,ab 0,aA 0,ab 0]] w fun e w'=> ∃d,e= .returned d/\w'.ownsRow b 5 1 d (n+(2::be 2 k).length) (B++dG (2::be 2 k))/\Below b w w':=by
 obtain⟨J,hi,x,u,t⟩:=info_parts gJ
 have O:=aa h
 have A:Hid (∀(o:Obj) (f:World),((w.alloc (.cells #[ab 2,ab 0,aj 0,ab k,.slice a 0 r,aj 0,aj 0,ab 0,aA 0,ab 0] 86)).alloc o).grownBy f v.ownBlock->Bx f w.heap.size #[ab 2,ab 0,aj 0,ab k,.slice a 0 r,aj 0,aj 0,ab 0,aA 0,ab 0] 86/\Below b w f/\b<=f.heap.size):=by
  intro o f E
  have G:=(((i4 b w).alloc F (.cells #[ab 2,ab 0,aj 0,ab k,.slice a 0 r,aj 0,aj 0,ab 0,aA 0,ab 0] 86)).alloc (by simp;omega) o).grown E (by simp;omega) (fun k D=>(h.lt k D).1)
  exact⟨((jN w #[ab 2,ab 0,aj 0,ab k,.slice a 0 r,aj 0,aj 0,ab 0,aA 0,ab 0] 86).alloc o).grown E (qA h),G,zY0 F G.size⟩
 clear h
 have N:Hid (∀W d c,W.ownsRow b 5 1 d (n+1) c->b<=W.heap.size->aB 110 #[d,aj k,ab 2] W fun e w'=> ∃C,e= .returned C/\w'.ownsRow b 5 1 C (n+1+2) (c++dG (be 2 k))/\Below b W w'/\ik W w'):=fun W d c M L=>mV W b d _ c z_ M L k z_ 2 z_
 refine ge ?_
 go_wp2_with (first
  |(go_at_call 110;refine(N.out _ _ _ HO1.out hs1).mono ?_;rintro e P ⟨Q,rfl,i,l,p⟩;have y:=aa i;have z:=aa (HL1.out.trans l);clear i l p)
  |(at_builtin;refine wpList_append_own _ rfl _ _ 51 rfl b 5 J (aA 0) 1 1 q_ hi x u t rfl x_ _ _ _ rfl (World.ownsRow.alloc (World.ownsRow.alloc O.out _) _) (ao (w.heap.size+1)) 1 1 [_] rfl rfl (eE _ _ _ _) x_ (by unfold maxLen;omega) z_ (by simp;omega) ?_;intro R f j q _;have HO1:=aa j;obtain⟨g,m,hs1⟩:=A.out _ _ q;have s:=aa g;have HL1:=aa m;have I:=s.out.cell 0 _ rfl;have H:=s.out.cell 3 _ rfl;clear j q g m))
 go_ret
 refine⟨_,rfl,m9 y.out (by rfl) ?_,z.out⟩
 simp[dG]
def G5 (w:World) (c:Nat) (v:Value) (n:Nat) (P:List Value) (hn:n<900000) (h:w.ownsRow c 5 1 v n P) (J:c<=w.heap.size) (a:Option Addr) (m:Nat) (b:List (Int×Int)) (G:uK b) (T: ∀W,Below c w W->qe W a b):
  aB 65 #[v,.agg #[ab 3,ab 0,aj 0,ab 0,.slice a b.length m,aj 0,aj 0,ab 0,aA 0,ab 0]] w fun e w'=> ∃F,e= .returned F/\w'.ownsRow c 5 1 F (n+(3::jE b).length) (P++dG (3::jE b))/\Below c w w':=by
 obtain⟨Q,hi,s,r,q⟩:=info_parts gJ
 have HO:=aa h
 have O:Hid (∀(o:Obj) (p:World),((w.alloc (.cells #[ab 3,ab 0,aj 0,ab 0,.slice a b.length m,aj 0,aj 0,ab 0,aA 0,ab 0] 86)).alloc o).grownBy p v.ownBlock->Bx p w.heap.size #[ab 3,ab 0,aj 0,ab 0,.slice a b.length m,aj 0,aj 0,ab 0,aA 0,ab 0] 86/\Below c w p/\c<=p.heap.size):=by
  intro o p S
  have U:=(((i4 c w).alloc J (.cells #[ab 3,ab 0,aj 0,ab 0,.slice a b.length m,aj 0,aj 0,ab 0,aA 0,ab 0] 86)).alloc (by simp;omega) o).grown S (by simp;omega) (fun k H=>(h.lt k H).1)
  exact⟨((jN w #[ab 3,ab 0,aj 0,ab 0,.slice a b.length m,aj 0,aj 0,ab 0,aA 0,ab 0] 86).alloc o).grown S (qA h),U,zY0 J U.size⟩
 clear h
 have R:=(eU G).2.1
 have HE:Hid (∀W,Below c w W->aB 111 #[.slice a b.length m] W fun e w'=> ∃g f,e=aS #[.slice (some (ao g)) (1+4*b.length) f,ab 0]/\(∀j u,(dG (jE b))[j]? =some u->w'.cell? (((ao g):Addr).add j)=some u)/\aC W w'):=by
  intro W I
  refine(xE W a b.length m z_ (cO b) (cR b) (T W I) G).mono fun e w' Y=> ?_
  obtain⟨F,Z,d,D⟩:=Y
  rw[rh _ (fun i hi=>by have:=(eU G).2.2 i hi;omega)] at d
  rcases d.2 with ⟨_,h0⟩|⟨g,f,a0,rfl,_⟩
  ·omega
  ·exact⟨g,f,Z,d.cells rfl,D⟩
 have M:Hid ((dG (jE b)).length=(1+4*b.length)*1):=by
  show _=_
  rw[xU,fT]
  omega
 clear T
 refine ge ?_
 go_wp2_with (first
  |(at_builtin;refine wpList_append_own _ rfl _ _ 51 rfl c 5 Q (aA 0) 1 1 q_ hi s r q rfl x_ _ _ _ rfl (HO2.out) (ao g) (1+4*b.length) f (dG (jE b)) rfl M.out HN2.out (uD _) (by unfold maxLen;omega) z_ (hs2) ?_;intro v3 w3 x B _;have L:=aa x;have N:=aa (HL2.out.grown B hs2 (fun k H=>(HO2.out.lt k H).1));clear x B)
  |(go_at_call 111;refine(HE.out _ HL1.out).mono ?_;rintro e w2 ⟨g,f,rfl,z,l⟩;have HN2:=aa z;have HL2:=aa (HL1.out.trans (l.mono hs1));have hs2:=zY0 J HL2.out.size;have HO2:=aa (gP HO1.out l);clear z l)
  |(at_builtin;refine wpList_append_own _ rfl _ _ 51 rfl c 5 Q (aA 0) 1 1 q_ hi s r q rfl x_ _ _ _ rfl (World.ownsRow.alloc (World.ownsRow.alloc HO.out _) _) (ao (w.heap.size+1)) 1 1 [_] rfl rfl (eE _ _ _ _) x_ (by unfold maxLen;omega) z_ (by simp;omega) ?_;intro v1 p y C _;have HO1:=aa y;obtain⟨t,A,hs1⟩:=O.out _ _ C;have E:=aa t;have HL1:=aa A;have X:=E.out.cell 0 _ rfl;have V:=E.out.cell 4 _ rfl;clear y C t A))
 go_ret
 refine⟨_,rfl,m9 L.out (by simp[fT];omega) ?_,N.out⟩
 simp[dG]
def DX (w:World) (b:Nat) (v:Value) (n:Nat) (M:List Value) (hn:n<900000) (h:w.ownsRow b 5 1 v n M) (H:b<=w.heap.size) (a:Option Addr) (z:Nat) (g f:Nat) (G:g<18446744073709551616) (E:f<18446744073709551616):
  aB 65 #[v,.agg #[ab 4,ab 0,aj 0,ab 0,.slice a 0 z,aj g,aj f,ab 0,aA 0,ab 0]] w fun e w'=> ∃d,e= .returned d/\w'.ownsRow b 5 1 d (n+(4::(be 8 g++be 8 f)).length) (M++dG (4::(be 8 g++be 8 f)))/\Below b w w':=by
 obtain⟨U,hi,C,B,A⟩:=info_parts gJ
 have Y:=aa h
 have L:Hid (∀(o:Obj) (j:World),((w.alloc (.cells #[ab 4,ab 0,aj 0,ab 0,.slice a 0 z,aj g,aj f,ab 0,aA 0,ab 0] 86)).alloc o).grownBy j v.ownBlock->Bx j w.heap.size #[ab 4,ab 0,aj 0,ab 0,.slice a 0 z,aj g,aj f,ab 0,aA 0,ab 0] 86/\Below b w j/\b<=j.heap.size):=by
  intro o j N
  have O:=(((i4 b w).alloc H (.cells #[ab 4,ab 0,aj 0,ab 0,.slice a 0 z,aj g,aj f,ab 0,aA 0,ab 0] 86)).alloc (by simp;omega) o).grown N (by simp;omega) (fun k V=>(h.lt k V).1)
  exact⟨((jN w #[ab 4,ab 0,aj 0,ab 0,.slice a 0 z,aj g,aj f,ab 0,aA 0,ab 0] 86).alloc o).grown N (qA h),O,zY0 H O.size⟩
 clear h
 have P:Hid (∀W d c,W.ownsRow b 5 1 d (n+1) c->b<=W.heap.size->aB 110 #[d,aj g,ab 8] W fun e w'=> ∃l,e= .returned l/\w'.ownsRow b 5 1 l (n+1+8) (c++dG (be 8 g))/\Below b W w'/\ik W w'):=fun W d c F D=>mV W b d _ c z_ F D g G 8 z_
 have X:Hid (∀W d c,W.ownsRow b 5 1 d (n+1+8) c->b<=W.heap.size->aB 110 #[d,aj f,ab 8] W fun e w'=> ∃l,e= .returned l/\w'.ownsRow b 5 1 l (n+1+8+8) (c++dG (be 8 f))/\Below b W w'/\ik W w'):=fun W d c F D=>mV W b d _ c z_ F D f E 8 z_
 refine ge ?_
 go_wp2_with (first
  |(go_at_call 110;refine(X.out _ _ _ HO2.out hs2).mono ?_;rintro e Z ⟨v3,rfl,p,s,x⟩;have I:=aa p;have J:=aa (HL2.out.trans s);clear p s x)
  |(go_at_call 110;refine(P.out _ _ _ HO1.out hs1).mono ?_;rintro e w2 ⟨l,rfl,q,t,i⟩;have HO2:=aa q;have HL2:=aa (HL1.out.trans t);have hs2:=zY0 H HL2.out.size;have Q:=(i _ _ _ x_ HX1.out).cell 6 _ rfl;clear q t i P)
  |(at_builtin;refine wpList_append_own _ rfl _ _ 51 rfl b 5 U (aA 0) 1 1 q_ hi C B A rfl x_ _ _ _ rfl (World.ownsRow.alloc (World.ownsRow.alloc Y.out _) _) (ao (w.heap.size+1)) 1 1 [_] rfl rfl (eE _ _ _ _) x_ (by unfold maxLen;omega) z_ (by simp;omega) ?_;intro v1 j r y _;have HO1:=aa r;obtain⟨m,u,hs1⟩:=L.out _ _ y;have HX1:=aa m;have HL1:=aa u;have T:=HX1.out.cell 0 _ rfl;have S:=HX1.out.cell 5 _ rfl;have R:=HX1.out.cell 6 _ rfl;clear r y m u))
 go_ret
 refine⟨_,rfl,m9 I.out (by rfl) ?_,J.out⟩
 simp[dG]
def Fg (w:World) (b:Nat) (v:Value) (n:Nat) (C:List Value) (U:n<900000) (h:w.ownsRow b 5 1 v n C) (G:b<=w.heap.size) (a:Option Addr) (x:Nat) (c d s:Nat) (N:c<256) (O:d<256) (T:s<256):
  aB 65 #[v,.agg #[ab 5,ab 0,aj 0,ab 0,.slice a 0 x,aj 0,aj 0,ab c,aA d,ab ((s:Int)-1)]] w fun e w'=> ∃D,e= .returned D/\w'.ownsRow b 5 1 D (n+([5,c,d,s]).length) (C++dG ([5,c,d,s]))/\Below b w w':=by
 obtain⟨E,hi,l,j,i⟩:=info_parts gJ
 have P:=aa h
 have B:Hid (∀(o:Obj) (g:World),((w.alloc (.cells #[ab 5,ab 0,aj 0,ab 0,.slice a 0 x,aj 0,aj 0,ab c,aA d,ab ((s:Int)-1)] 86)).alloc o).grownBy g v.ownBlock->Bx g w.heap.size #[ab 5,ab 0,aj 0,ab 0,.slice a 0 x,aj 0,aj 0,ab c,aA d,ab ((s:Int)-1)] 86/\Below b w g/\b<=g.heap.size):=by
  intro o g F
  have H:=(((i4 b w).alloc G (.cells #[ab 5,ab 0,aj 0,ab 0,.slice a 0 x,aj 0,aj 0,ab c,aA d,ab ((s:Int)-1)] 86)).alloc (by simp;omega) o).grown F (by simp;omega) (fun k y=>(h.lt k y).1)
  exact⟨((jN w #[ab 5,ab 0,aj 0,ab 0,.slice a 0 x,aj 0,aj 0,ab c,aA d,ab ((s:Int)-1)] 86).alloc o).grown F (qA h),H,zY0 G H.size⟩
 clear h
 refine ge ?_
 go_wp2_with (first
  |(at_builtin;refine wpList_append_own _ rfl _ _ 51 rfl b 5 E (aA 0) 1 1 q_ hi l j i rfl x_ _ _ _ rfl (World.ownsRow.alloc HO1.out _) (ao g.heap.size) 3 3 [aA c,aA d,aA s] rfl rfl (rP _ [aA c,aA d,aA s] _) (by simp[Value.oneCell']) (by unfold maxLen;omega) z_ (by simp;omega) ?_;intro R Q p t _;have z:=aa p;have A:=aa ((HL1.out.alloc hs1 _).grown t (by simp;omega) (fun k y=>(HO1.out.lt k y).1));clear p t)
  |(at_builtin;refine wpList_append_own _ rfl _ _ 51 rfl b 5 E (aA 0) 1 1 q_ hi l j i rfl x_ _ _ _ rfl (World.ownsRow.alloc (World.ownsRow.alloc P.out _) _) (ao (w.heap.size+1)) 1 1 [_] rfl rfl (eE _ _ _ _) x_ (by unfold maxLen;omega) z_ (by simp;omega) ?_;intro S g q u _;have HO1:=aa q;obtain⟨m,r,hs1⟩:=B.out _ _ u;have f:=aa m;have HL1:=aa r;have M:=f.out.cell 0 _ rfl;have L:=f.out.cell 7 _ rfl;have J:=f.out.cell 8 _ rfl;have I:=f.out.cell 9 _ rfl;clear q u m r))
 go_ret
 refine⟨_,rfl,m9 z.out q_ ?_,A.out⟩
 simp[dG]
def IG (w:World) (b:Nat) (v:Value) (n:Nat) (f:List Value) (i:n<900000) (h:w.ownsRow b 5 1 v n f) (j:b<=w.heap.size) (x:En) (a:Option Addr) (g:Nat) (G:bj x) (hw:zf x) (B: ∀W,Below b w W->qe W a x.code):
  aB 65 #[v,.agg #[ab x.d,ab x.p,aj x.dr,ab x.n,.slice a x.code.length g,aj x.bu,aj x.pe,ab x.pr,aA x.lv,ab x.sv]] w fun e w'=> ∃y,e= .returned y/\w'.ownsRow b 5 1 y (n+(bytes x).length) (f++dG (bytes x))/\Below b w w':=by
 obtain⟨u,t,r,o⟩:=hw
 obtain⟨d,p,J,D,m,L,C,A,E,z⟩:=x
 simp only at u t r o B
 rcases G with ⟨e,c,l⟩|⟨e,c,l⟩|⟨e,c⟩|e|⟨e,c,l,I,H⟩
 ·simp only[dB,En.mk.injEq] at e c l
  obtain⟨rfl,-,-,rfl,rfl,rfl,rfl,rfl,rfl,rfl⟩:=e
  obtain⟨p,rfl⟩:=yY0 c
  exact Ek w b v n f i h j a g p J z_ u
 ·simp only[dg,En.mk.injEq] at e c l
  obtain⟨rfl,rfl,rfl,-,rfl,rfl,rfl,rfl,rfl,rfl⟩:=e
  obtain⟨k,rfl⟩:=yY0 (show 0<=D by omega)
  exact DR w b v n f i h j a g k z_
 ·simp only[cK,En.mk.injEq] at e c
  obtain⟨rfl,rfl,rfl,rfl,-,rfl,rfl,rfl,rfl,rfl⟩:=e
  exact G5 w b v n f i h j a g m c B
 ·simp only[cT,En.mk.injEq] at e
  obtain⟨rfl,rfl,rfl,rfl,rfl,-,-,rfl,rfl,rfl⟩:=e
  exact DX w b v n f i h j a g L C t r
 ·simp only[bV,En.mk.injEq] at e c l I H
  obtain⟨rfl,rfl,rfl,rfl,rfl,rfl,rfl,-,-,-⟩:=e
  obtain⟨A,rfl⟩:=yY0 c
  obtain⟨s,F⟩: ∃s:Nat,z=(s:Int)-1:=⟨(z+1).toNat,z_⟩
  subst F
  have q:=Fg w b v n f i h j a g A E s z_ o z_
  grind[Ex.bytes]
structure JC (w:World) (lb o:Nat) (x:En) (ca:Option Addr) (cc:Nat):Prop where
 c0:w.cell? (af lb o)=some (ab x.d)
 c1:w.cell? (af lb (o+1))=some (ab x.p)
 c2:w.cell? (af lb (o+2))=some (aj x.dr)
 c3:w.cell? (af lb (o+3))=some (ab x.n)
 c4:w.cell? (af lb (o+4))=some (.slice ca x.code.length cc)
 c5:w.cell? (af lb (o+5))=some (aj x.bu)
 c6:w.cell? (af lb (o+6))=some (aj x.pe)
 c7:w.cell? (af lb (o+7))=some (ab x.pr)
 c8:w.cell? (af lb (o+8))=some (aA x.lv)
 c9:w.cell? (af lb (o+9))=some (ab x.sv)
 vC:qe w ca x.code
 len:x.code.length<9223372036854775808
 cap:x.code.length<=64\/(x.code.length<=cc/\cc<9223372036854775808)
 wf:zf x
def JC.below {w w':World} {lb o:Nat} {x:En} {d:Option Addr} {c:Nat} (h:JC w lb o x d c) (b:lb<w.heap.size) (a:aC w w'):JC w' lb o x d c where
 c0:=(a.cell (p:=(af lb o)) b).trans h.c0
 c1:=(a.cell (p:=(af lb (o+1))) b).trans h.c1
 c2:=(a.cell (p:=(af lb (o+2))) b).trans h.c2
 c3:=(a.cell (p:=(af lb (o+3))) b).trans h.c3
 c4:=(a.cell (p:=(af lb (o+4))) b).trans h.c4
 c5:=(a.cell (p:=(af lb (o+5))) b).trans h.c5
 c6:=(a.cell (p:=(af lb (o+6))) b).trans h.c6
 c7:=(a.cell (p:=(af lb (o+7))) b).trans h.c7
 c8:=(a.cell (p:=(af lb (o+8))) b).trans h.c8
 c9:=(a.cell (p:=(af lb (o+9))) b).trans h.c9
 vC:=h.vC.below a
 len:=h.len
 cap:=h.cap
 wf:=h.wf
def M8 (w:World) (a:Option Addr) (L:List En):Prop:=
 L=[]\/ ∃c b,a=some (af c b)/\c<w.heap.size/\ ∀j x,L[j]? =some x-> ∃e d,JC w c (b+j*10) x e d
def M8.below {w w':World} {a:Option Addr} {L:List En} (h:M8 w a L) (d:aC w w'):M8 w' a L:=by
 rcases h with h|⟨e,b,rfl,c,f⟩
 ·exact .inl h
 ·exact .inr ⟨e,b,rfl,i8 c d.size,fun j x g=>by
   obtain⟨k,i,q⟩:=f j x g
   exact⟨k,i,q.below c d⟩⟩
def DK: ∀(L:List En),(∀x∈L,bj x)->(all L).length<=258*L.length
 |[],_=>by decide
 |x::L,h=>by
  have b:=F9 (h x q_)
  have a:=DK L y_
  grind[Ex.all_cons]
def take_one {L:List En} {j:Nat} {x:En} (h:L[j]? =some x):L.take (j+1)=L.take j++[x]:=by
 grind[List.take_add_one]
def JT (w:World) (L:List En) (e:Ending) (w':World):Prop:=
 aC w w'/\(((∀x∈L,bj x)/\ ∃v,e=aS #[v,ab 0]/\w'.ownsRow w.heap.size 5 1 v (all L).length (dG (all L)))\/((¬ ∀x∈L,bj x)/\e=aS #[.slice none 0 0,ab 3]))
def rm (w:World) (x:En) (a:Option Addr) (b:Nat) (f:qe w a x.code) (c:x.code.length<9223372036854775808) (h:bj x):
  vQ 64 #[.agg #[ab x.d,ab x.p,aj x.dr,ab x.n,.slice a x.code.length b,aj x.bu,aj x.pe,ab x.pr,aA x.lv,ab x.sv]] w (.bool true):=(sj w x a b f c).mono fun e g ⟨B,i,k,j⟩=>by
 grind
def rO (w:World) (x:En) (a:Option Addr) (b:Nat) (f:qe w a x.code) (c:x.code.length<9223372036854775808) (h: ¬bj x):
  vQ 64 #[.agg #[ab x.d,ab x.p,aj x.dr,ab x.n,.slice a x.code.length b,aj x.bu,aj x.pe,ab x.pr,aA x.lv,ab x.sv]] w (.bool false):=(sj w x a b f c).mono fun e g ⟨B,i,k,j⟩=>by
 grind
def J6 (w:World) (a:Option Addr) (L:List En) (G:Nat) (hL:L.length<=3000) (R:M8 w a L):
  aB 31 #[.slice a L.length G] w (JT w L):=by
 have HE:=aa R
 clear R
 refine ge ?_
 go_wp2
 go_loopw [4,9] (fun s i wr=> ∃(j:Nat),j<=L.length/\i=ab j/\(∀x∈L.take j,bj x)/\wr.ownsRow w.heap.size 5 1 s (all (L.take j)).length (dG (all (L.take j)))/\aC w wr) (fun _ i _=>L.length-(intOf i).toNat)
 case atStart=>exact⟨0,z_,rfl,q_,World.ownsRow_nil _ _ _ _,cj⟩
 case round=>
  obtain⟨j,hj,rfl,d,f,b⟩:=hrel
  by_cases v:j<L.length
  ·have u:(j:Int)<L.length:=by omega
   obtain⟨x,o⟩: ∃x,L[j]? =some x:=⟨L[j],zX0 v⟩
   rcases HE.out with Z|⟨lb,U,rfl,C,D⟩
   ·subst Z;simp at v
   ·obtain⟨H,F,k⟩:=D j x o
    have g:=k.below C b
    have y0:=g.c0
    have y1:=g.c1
    have y2:=g.c2
    have y3:=g.c3
    have y4:=g.c4
    have y5:=g.c5
    have y6:=g.c6
    have y7:=g.c7
    have y8:=g.c8
    have y9:=g.c9
    have O:=aa f
    have p:=aa b
    have m:=b.size
    have J:=aa fun (V:bj x) W Q B r (Y:B<900000) (X:W.ownsRow w.heap.size 5 1 Q B r) (c:aC w W)=>IG W w.heap.size Q B r Y X c.size x H F V g.wf (fun W' E=>k.vC.below (c.trans E))
    have HN:Hid ((all (L.take j)).length<900000):=by
     have q:=DK (L.take j) d
     have q2:(L.take j).length<=j:=y_
     show _<_
     omega
    have S:=aa d
    have n:=aa (take_one o)
    have HX:=aa o
    by_cases h:bj x
    ·have M:=aa (fun W c=>rm W x H F (k.vC.below (w':=W) c) g.len h)
     have I:=aa (J.out h)
     have l:Hid (∀y∈L.take (j+1),bj y):=by
      show∀y∈L.take (j+1),bj y
      rw[n.out]
      grind
     clear f b d g k D o J h
     go_wp2_with (first
      |(go_at_call 65;refine(I.out _ _ _ _ HN.out HO1.out HB1.out).mono ?_;rintro e w2 ⟨v2,rfl,t,A⟩;have N:=aa t;have P:=aa (HB1.out.trans A);clear t A)
      |(go_at_call 64;refine(M.out _ (p.out.alloc m _)).mono ?_;rintro e T ⟨rfl,c⟩;have HB1:=aa ((p.out.alloc m _).trans (c.mono (by simp;omega)));have HO1:=aa (gP (World.ownsRow.alloc O.out _) c);have z0:=aX c 0 _ rfl;have z1:=aX c 1 _ rfl;have z2:=aX c 2 _ rfl;have z3:=aX c 3 _ rfl;have z4:=aX c 4 _ rfl;have z5:=aX c 5 _ rfl;have z6:=aX c 6 _ rfl;have z7:=aX c 7 _ rfl;have z8:=aX c 8 _ rfl;have z9:=aX c 9 _ rfl;clear c))
     refine⟨⟨j+1,z_,by go_num,l.out,m9 N.out ?_ ?_,P.out⟩,by simp[intOf];omega⟩
     ·rw[n.out,uC,List.length_append]
     ·rw[n.out,uC,yI]
    ·have M:=aa (fun W c=>rO W x H F (k.vC.below (w':=W) c) g.len h)
     have l:Hid (¬ ∀y∈L,bj y):=fun q=>h (q x (i9 o))
     clear f b d g k D o J h
     go_wp2_with (go_at_call 64;refine(M.out _ (p.out.alloc m _)).mono ?_;rintro e T ⟨rfl,c⟩;have HB1:=aa ((p.out.alloc m _).trans (c.mono (by simp;omega)));clear c)
     go_ret2
     exact⟨HB1.out,.inr ⟨l.out,rfl⟩⟩
  ·have u: ¬(j:Int)<L.length:=by omega
   have z:j=L.length:=z_
   rw[z,List.take_length] at d f
   have S:=aa d
   have O:=aa f
   have p:=aa b
   clear d f b z
   go_wp2
   go_ret2
   exact⟨p.out,.inl ⟨S.out,_,rfl,O.out⟩⟩
def bX {B:Nat} {w a:World} (h:Below B w a):Below B w a.drew:=⟨h.os,h.tape,h.output,h.size,h.block⟩
end Go.Proofs.YtnmhcgpnhlhcgaaGreatDoor.Ex
