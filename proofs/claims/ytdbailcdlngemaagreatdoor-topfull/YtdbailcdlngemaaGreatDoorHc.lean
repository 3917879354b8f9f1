/- YtdbailcdlngemaaGreatDoorHc: of the texts S1 S2 S3a S3 S3r S4p S4 S4r S4s S5 S6 S7 S7r S8r what is wanted. -/
import Derived.Test.YtdbailcdlngemaaGreatDoorHa
import Derived.Deep.DeepCutAuto
import Derived.OrdersHeld
set_option maxHeartbeats 16000000
set_option maxRecDepth 100000
set_option linter.unusedVariables false
set_option linter.unusedSimpArgs false
namespace Go.Proofs.YtdbailcdlngemaaGreatDoor.Ex
open Go.RowKit Go.Lib
def be:Nat→Nat→List Nat
 |0,_=>[]
 |k+1,n=>(n/256^k%256)::be k n
def cC (l:List Nat):Nat:=l.foldl (fun a x=>a*256+x) 0
theorem bV: ∀k n,(be k n).length=k
 |0,_=>rfl
 |k+1,n=>by simp[be,bV k n]
theorem gX: ∀k n,∀y∈be k n,y<256
 |0,_=>by simp[be]
 |k+1,n=>by
  intro y hy
  simp only[be,List.mem_cons] at hy
  rcases hy with rfl|hy
  ·exact Nat.mod_lt _ (by omega)
  ·exact gX k n y hy
theorem pX: ∀k n a,(be k n).foldl (fun a x=>a*256+x) a=a*256^k+n%256^k
 |0,n,a=>by simp[be,Nat.mod_one]
 |k+1,n,a=>by
  simp only[be,List.foldl_cons,pX k n]
  have h1:n%256^(k+1)=256^k*(n/256^k%256)+n%256^k:=by
   rw[Nat.pow_succ,Nat.mod_mul]
   omega
  rw[h1,Nat.pow_succ,Nat.add_mul,Nat.mul_assoc,Nat.mul_comm 256 (256^k),Nat.mul_comm (256^k) (n/256^k%256)]
  omega
theorem lM {k n:Nat} (h:n<256^k):cC (be k n)=n:=by
 unfold cC
 rw[pX,Nat.mod_eq_of_lt h]
 omega
theorem qz: ∀(l:List Nat) (a:Nat),(∀y∈l,y<256)→l.foldl (fun a x=>a*256+x) a<(a+1)*256^l.length
 |[],a,_=>by simp
 |x::l,a,h=>by
  have h1:=h x (by simp)
  have h2:=qz l (a*256+x) (fun y hy=>h y (by simp[hy]))
  simp only[List.foldl_cons,List.length_cons,Nat.pow_succ]
  refine Nat.lt_of_lt_of_le h2 ?_
  rw[Nat.mul_comm (256^l.length) 256,←Nat.mul_assoc]
  exact Nat.mul_le_mul_right _ (by omega)
theorem jP {l:List Nat} (h: ∀y∈l,y<256):cC l<256^l.length:=by
 have:=qz l 0 h
 simpa [cC] using this
theorem qS: ∀(l:List Nat) (a:Nat),(∀y∈l,y<256)→be l.length (l.foldl (fun a x=>a*256+x) a)=l
 |[],a,_=>rfl
 |x::l,a,h=>by
  have hx:=h x (by simp)
  have hl: ∀y∈l,y<256:=fun y hy=>h y (by simp[hy])
  have h1:=qS l (a*256+x) hl
  simp only[List.foldl_cons,List.length_cons,be]
  rw[h1]
  congr 1
  have h2: ∀(l:List Nat) (b:Nat),(∀y∈l,y<256)→l.foldl (fun a x=>a*256+x) b=b*256^l.length+l.foldl (fun a x=>a*256+x) 0:=by
   intro l
   induction l with
   |nil=>intro b _;simp
   |cons y l ih=>
    intro b hb
    have hb': ∀z∈l,z<256:=fun z hz=>hb z (by simp[hz])
    simp only[List.foldl_cons,List.length_cons,Nat.pow_succ]
    rw[ih (b*256+y) hb',ih (0*256+y) hb']
    rw[Nat.add_mul,Nat.mul_assoc,Nat.mul_comm 256 (256^l.length)]
    simp only[Nat.zero_mul,Nat.zero_add]
    omega
  rw[h2 l (a*256+x) hl]
  have h3:l.foldl (fun a x=>a*256+x) 0<256^l.length:=jP hl
  rw[Nat.mul_comm,Nat.mul_add_div (Nat.pos_of_ne_zero (by simp)),Nat.div_eq_of_lt h3]
  omega
theorem lP {l:List Nat} {k:Nat} (hk:l.length=k) (h: ∀y∈l,y<256):be k (cC l)=l:=by
 subst hk
 exact qS l 0 h
def cO (c:List (Int×Int)) (i:Nat):Int:=(c.getD i (0,0)).1
def cR (c:List (Int×Int)) (i:Nat):Int:=(c.getD i (0,0)).2
def rK (c:List (Int×Int)):Prop:=Rt c.length (cO c) (cR c)
def gE (c:List (Int×Int)):List Nat:=eH c.length (cO c) (cR c) c.length
def fZ (l:List Nat):List (Int×Int):=(List.range (l.getD 0 0)).map (fun i=>(jI (fun j=>l.getD j 0) i,fE (fun j=>l.getD j 0) i))
structure En where
 d:Int
 p:Int
 dr:Nat
 n:Int
 code:List (Int×Int)
 bu:Nat
 pe:Nat
 pr:Int
 lv:Nat
 sv:Int
structure pV (x:En):Prop where
 dr:x.dr<18446744073709551616
 bu:x.bu<18446744073709551616
 pe:x.pe<18446744073709551616
 lv:x.lv<256
def bo (p:Int) (dr:Nat):En:=⟨1,p,dr,0,[],0,0,0,0,0⟩
def cW (n:Int):En:=⟨2,0,0,n,[],0,0,0,0,0⟩
def ck (c:List (Int×Int)):En:=⟨3,0,0,0,c,0,0,0,0,0⟩
def cI (bu pe:Nat):En:=⟨4,0,0,0,[],bu,pe,0,0,0⟩
def cg (pr:Int) (lv:Nat) (sv:Int):En:=⟨5,0,0,0,[],0,0,pr,lv,sv⟩
def aU (x:En):Prop:=
 (x=bo x.p x.dr∧0≤x.p∧x.p≤255)∨(x=cW x.n∧1≤x.n∧x.n≤65535)∨(x=ck x.code∧rK x.code)∨(x=cI x.bu x.pe)∨
 (x=cg x.pr x.lv x.sv∧0≤x.pr∧x.pr≤255∧ -1≤x.sv∧x.sv≤254)
def bytes (x:En):List Nat:=
 if x.d=1 then 1::x.p.toNat::be 8 x.dr
 else if x.d=2 then 2::be 2 x.n.toNat
 else if x.d=3 then 3::gE x.code
 else if x.d=4 then 4::(be 8 x.bu++be 8 x.pe)
 else [5,x.pr.toNat,x.lv,(x.sv+1).toNat]
theorem eY (p dr):bytes (bo p dr)=1::p.toNat::be 8 dr:=rfl
theorem ff (n):bytes (cW n)=2::be 2 n.toNat:=rfl
theorem eX (c):bytes (ck c)=3::gE c:=rfl
theorem dQ (b p):bytes (cI b p)=4::(be 8 b++be 8 p):=rfl
theorem dW (p l s):bytes (cg p l s)=[5,p.toNat,l,(s+1).toNat]:=rfl
def dh (b0 b1 len:Nat):Nat:=
 if b0=1 then 10 else if b0=2 then 3 else if b0=3 then(if 2≤len then 2+4*b1 else 2) else if b0=4 then 17 else if b0=5 then 4 else 1
def sz (l:List Nat):Nat:=dh (l.getD 0 0) (l.getD 1 0) l.length
open Classical in
noncomputable def lC (l:List Nat):List (Int×Int):=if l.length=1+4*l.getD 0 0∧rK (fZ l) then fZ l else []
noncomputable def eM (l:List Nat):En:=
 if l.getD 0 0=1 then bo (l.getD 1 0:Int) (cC (l.drop 2))
 else if l.getD 0 0=2 then cW (cC (l.drop 1):Int)
 else if l.getD 0 0=3 then ck (lC (l.drop 1))
 else if l.getD 0 0=4 then cI (cC ((l.drop 1).take 8)) (cC (l.drop 9))
 else if l.getD 0 0=5 then cg (l.getD 1 0:Int) (l.getD 2 0) ((l.getD 3 0:Int)-1)
 else⟨(l.getD 0 0:Int),0,0,0,[],0,0,0,0,0⟩
theorem dY (l:List Nat):(fZ l).length=l.getD 0 0:=by simp[fZ]
theorem iC (l:List Nat) {i:Nat} (h:i<l.getD 0 0):cO (fZ l) i=jI (fun j=>l.getD j 0) i∧cR (fZ l) i=fE (fun j=>l.getD j 0) i:=by
 have:(fZ l).getD i (0,0)=(jI (fun j=>l.getD j 0) i,fE (fun j=>l.getD j 0) i):=by
  have h':(List.range (l.getD 0 0))[i]? =some i:=List.getElem?_range h
  unfold fZ
  rw[List.getD_eq_getElem?_getD,List.getElem?_map,h']
  rfl
 unfold cO cR
 rw[this]
 exact⟨rfl,rfl⟩
theorem qN {len:Nat} {O R O' R':Nat→Int} (h:Rt len O R) (he: ∀i,i<len→O i=O' i∧R i=R' i):Rt len O' R':=by
 obtain⟨y,hy⟩:=h
 obtain⟨h1,h2,h3,h4,rfl⟩:=hy.zero
 refine⟨0,.inr (.inr (.inr ⟨h1,h2,fun i hi=> ?_,?_,rfl,rfl⟩))⟩
 ·rw[←(he i hi).1,←(he i hi).2];exact h3 i hi
 ·rw[←(he (len-1) (by omega)).1];exact h4
theorem du {c:List (Int×Int)} (h:rK c):1≤c.length∧c.length≤64∧ ∀i,i<c.length→1≤cO c i∧cO c i≤9∧0≤cR c i∧cR c i≤65536:=by
 obtain⟨y,hy⟩:=h
 obtain⟨h1,h2,h3,h4,rfl⟩:=hy.zero
 exact⟨h1,h2,fun i hi=>nh (by omega) (h3 i hi)⟩
theorem dS (c:List (Int×Int)):(gE c).length=1+4*c.length:=br _ _ _ _
theorem jg (c:List (Int×Int)):(gE c).getD 0 0=c.length:=my _ _ _ _
theorem sL {c:List (Int×Int)} (h:rK c): ∀y∈gE c,y<256:=by
 obtain⟨_,h2,h3⟩:=du h
 exact mJ h2 _ (fun i hi=>(h3 i hi).2.1)
theorem CU {c d:List (Int×Int)} (hl:c.length=d.length) (h: ∀i,i<c.length→cO c i=cO d i∧cR c i=cR d i):c=d:=by
 apply List.ext_getElem hl
 intro i h1 h2
 have:=h i h1
 simp only[cO,cR,List.getD,List.getElem?_eq_getElem h1,List.getElem?_eq_getElem h2,Option.getD_some] at this
 exact Prod.ext this.1 this.2
theorem AR {c:List (Int×Int)} (h:rK c):fZ (gE c)=c:=by
 obtain⟨h1,h2,h3⟩:=du h
 have hf:=jg c
 refine CU (by rw[dY,hf]) (fun i hi=> ?_)
 rw[dY,hf] at hi
 obtain⟨q1,q2⟩:=iC (gE c) (i:=i) (by rw[hf];exact hi)
 rw[q1,q2]
 obtain⟨b1,b2,b3,b4⟩:=h3 i hi
 exact Da hi (by omega) b3 b4
theorem B7 {l:List Nat} (hl:l.length=1+4*l.getD 0 0) (hs: ∀y∈l,y<256):gE (fZ l)=l:=by
 have hX: ∀j,j<1+4*l.getD 0 0→(fun j=>l.getD j 0) j<256:=by
  intro j hj
  have:l.getD j 0∈l:=by simp[List.getD,List.getElem?_eq_getElem (show j<l.length by omega)]
  exact hs _ this
 have h1:=ye (X:=fun j=>l.getD j 0) (l.getD 0 0) hX
 have h2:enc ((fun j=>l.getD j 0) 0) (jI fun j=>l.getD j 0) (fE fun j=>l.getD j 0) (l.getD 0 0)=dz (eH (l.getD 0 0) (jI fun j=>l.getD j 0) (fE fun j=>l.getD j 0) (l.getD 0 0)):=
  nC _ (fun i hi=>by unfold jI;omega)
 rw[h2] at h1
 have inj: ∀a b:List Nat,dz a=dz b→a=b:=by
  intro a
  induction a with
  |nil=>intro b h;cases b with
   |nil=>rfl
   |cons _ _=>simp[dz] at h
  |cons x a ih=>intro b h;cases b with
   |nil=>simp[dz] at h
   |cons y b=>
    simp only[dz,List.map_cons,List.cons.injEq,Value.int.injEq,true_and] at h
    rw[ih b h.2,show x=y by omega]
 have h3:=inj _ _ h1
 have h4:gE (fZ l)=eH (l.getD 0 0) (jI fun j=>l.getD j 0) (fE fun j=>l.getD j 0) (l.getD 0 0):=by
  unfold gE
  rw[dY]
  have gen: ∀(n k:Nat) (O R O' R':Nat→Int),(∀i,i<k→O i=O' i∧R i=R' i)→eH n O R k=eH n O' R' k:=by
   intro n k O R O' R'
   induction k with
   |zero=>intro _;rfl
   |succ k ih=>
    intro h
    simp only[eH]
    rw[ih (fun i hi=>h i (by omega)),(h k (by omega)).1,(h k (by omega)).2]
  exact gen _ _ _ _ _ _ (fun i hi=>iC l hi)
 rw[h4,h3]
 apply List.ext_getElem (by simp[hl])
 intro i i1 i2
 simp only[List.getElem_map,List.getElem_range]
 simp[List.getD,List.getElem?_eq_getElem i2]
theorem ml {x:En} (h:aU x) (hw:pV x):eM (bytes x)=x:=by
 obtain⟨w1,w2,w3,w4⟩:=hw
 rcases h with ⟨e,h1,h2⟩|⟨e,h1,h2⟩|⟨e,h1⟩|e|⟨e,h1,h2,h3,h4⟩
 ·rw[e,eY]
  have:eM (1::x.p.toNat::be 8 x.dr)=bo (x.p.toNat:Int) (cC (be 8 x.dr)):=rfl
  rw[this,lM (by simpa using w1),Int.toNat_of_nonneg h1]
 ·rw[e,ff]
  have:eM (2::be 2 x.n.toNat)=cW (cC (be 2 x.n.toNat):Int):=rfl
  rw[this,lM (by simp;omega),Int.toNat_of_nonneg (by omega)]
 ·rw[e,eX]
  have:eM (3::gE x.code)=ck (lC (gE x.code)):=rfl
  rw[this]
  unfold lC
  rw[dS,jg,AR h1,if_pos ⟨rfl,h1⟩]
 ·rw[e,dQ]
  have:eM (4::(be 8 x.bu++be 8 x.pe))=cI (cC ((be 8 x.bu++be 8 x.pe).take 8)) (cC ((be 8 x.bu++be 8 x.pe).drop 8)):=rfl
  rw[this,List.take_left' (bV _ _),List.drop_left' (bV _ _),lM (by simpa using w2),lM (by simpa using w3)]
 ·rw[e,dW]
  have:eM [5,x.pr.toNat,x.lv,(x.sv+1).toNat]=cg (x.pr.toNat:Int) x.lv (((x.sv+1).toNat:Int)-1):=rfl
  rw[this,Int.toNat_of_nonneg h1,Int.toNat_of_nonneg (by omega),show x.sv+1-1=x.sv by omega]
theorem qF {x:En} (h:aU x) (hw:pV x): ∀y∈bytes x,y<256:=by
 obtain⟨w1,w2,w3,w4⟩:=hw
 rcases h with ⟨e,h1,h2⟩|⟨e,h1,h2⟩|⟨e,h1⟩|e|⟨e,h1,h2,h3,h4⟩
 ·rw[e,eY]
  intro y hy
  simp only[List.mem_cons] at hy
  rcases hy with rfl|rfl|hy
  ·omega
  ·omega
  ·exact gX _ _ y hy
 ·rw[e,ff]
  intro y hy
  simp only[List.mem_cons] at hy
  rcases hy with rfl|hy
  ·omega
  ·exact gX _ _ y hy
 ·rw[e,eX]
  intro y hy
  simp only[List.mem_cons] at hy
  rcases hy with rfl|hy
  ·omega
  ·exact sL h1 y hy
 ·rw[e,dQ]
  intro y hy
  simp only[List.mem_cons,List.mem_append] at hy
  rcases hy with rfl|hy|hy
  ·omega
  ·exact gX _ _ y hy
  ·exact gX _ _ y hy
 ·rw[e,dW]
  intro y hy
  simp only[List.mem_cons,List.not_mem_nil,or_false] at hy
  rcases hy with rfl|rfl|rfl|rfl<;>omega
theorem jk {x:En} (h:aU x) (hw:pV x) (r:List Nat):sz (bytes x++r)=(bytes x).length:=by
 rcases h with ⟨e,h1,h2⟩|⟨e,h1,h2⟩|⟨e,h1⟩|e|⟨e,h1,h2,h3,h4⟩
 ·rw[e,eY];simp[bV];rfl
 ·rw[e,ff];simp[bV];rfl
 ·rw[e,eX]
  have hl:=dS x.code
  have hf:=jg x.code
  cases hc:gE x.code with
  |nil=>rw[hc] at hl;simp at hl;omega
  |cons y ys=>
   rw[hc] at hl hf
   simp only[List.length_cons] at hl
   have:y=x.code.length:=hf
   subst this
   show dh 3 x.code.length (3::x.code.length::ys++r).length=_
   unfold dh
   rw[if_neg (by decide),if_neg (by decide),if_pos rfl,if_pos (by simp)]
   simp
   omega
 ·rw[e,dQ];simp[bV];rfl
 ·rw[e,dW];rfl
theorem nZ {x:En}:0<(bytes x).length:=by
 unfold bytes
 repeat' split
 all_goals simp
theorem ze {x:En} (h:aU x):(bytes x).length≤258:=by
 rcases h with ⟨e,h1,h2⟩|⟨e,h1,h2⟩|⟨e,h1⟩|e|⟨e,h1,h2,h3,h4⟩
 ·rw[e,eY];simp[bV]
 ·rw[e,ff];simp[bV]
 ·rw[e,eX]
  have:=(du h1).2.1
  simp[dS];omega
 ·rw[e,dQ];simp[bV]
 ·rw[e,dW];simp
theorem cV {l:List Nat} {j:Nat} (h:j<l.length):l.getD j 0∈l:=by simp[List.getD,List.getElem?_eq_getElem h]
theorem xK {l:List Nat} (h:2≤l.length):l=l.getD 0 0::l.getD 1 0::l.drop 2:=by
 match l,h with
 |a::b::r,_=>rfl
theorem mj {l:List Nat} (h:1≤l.length):l=l.getD 0 0::l.drop 1:=by
 match l,h with
 |a::r,_=>rfl
theorem aW {l:List Nat} (h: ∀y∈l,y<256) (k:Nat):(∀y∈l.take k,y<256)∧ ∀y∈l.drop k,y<256:=⟨fun y hy=>h y (List.mem_of_mem_take hy),fun y hy=>h y (List.mem_of_mem_drop hy)⟩
theorem rq: ¬rK []:=fun h=>by have:=(du h).1;simp at this
theorem zv {l:List Nat} (hs: ∀y∈l,y<256) (hl:l.length=sz l) (hr:aU (eM l)):bytes (eM l)=l:=by
 by_cases h1:l.getD 0 0=1
 ·have e:eM l=bo (l.getD 1 0:Int) (cC (l.drop 2)):=by unfold eM;rw[if_pos h1]
  have hk:l.length=10:=by rw[hl];unfold sz dh;rw[if_pos h1]
  rw[e,eY,Int.toNat_natCast,lP (by simp[hk]) (aW hs 2).2]
  conv=>rhs;rw[xK (l:=l) (by omega)]
  rw[h1]
 by_cases h2:l.getD 0 0=2
 ·have e:eM l=cW (cC (l.drop 1):Int):=by unfold eM;rw[if_neg h1,if_pos h2]
  have hk:l.length=3:=by rw[hl];unfold sz dh;rw[if_neg h1,if_pos h2]
  rw[e,ff,Int.toNat_natCast,lP (by simp[hk]) (aW hs 1).2]
  conv=>rhs;rw[mj (l:=l) (by omega)]
  rw[h2]
 by_cases h3:l.getD 0 0=3
 ·have e:eM l=ck (lC (l.drop 1)):=by unfold eM;rw[if_neg h1,if_neg h2,if_pos h3]
  have hc: ¬lC (l.drop 1)=[]:=by
   intro q
   rw[e] at hr
   rcases hr with ⟨e',_⟩|⟨e',_⟩|⟨_,hr⟩|e'|⟨e',_⟩
   ·simp[ck,bo] at e'
   ·simp[ck,cW] at e'
   ·have hr':rK (lC (l.drop 1)):=hr
    rw[q] at hr'
    exact rq hr'
   ·simp[ck,cI] at e'
   ·simp[ck,cg] at e'
  have h4:(l.drop 1).length=1+4*(l.drop 1).getD 0 0∧rK (fZ (l.drop 1)):=by
   unfold lC at hc
   split at hc
   ·assumption
   ·exact absurd rfl hc
  have e2:lC (l.drop 1)=fZ (l.drop 1):=by unfold lC;rw[if_pos h4]
  rw[e,e2,eX,B7 h4.1 (aW hs 1).2]
  conv=>rhs;rw[mj (l:=l) (by rw[hl];unfold sz dh;rw[if_neg h1,if_neg h2,if_pos h3];split<;>omega)]
  rw[h3]
 by_cases h4:l.getD 0 0=4
 ·have e:eM l=cI (cC ((l.drop 1).take 8)) (cC (l.drop 9)):=by unfold eM;rw[if_neg h1,if_neg h2,if_neg h3,if_pos h4]
  have hk:l.length=17:=by rw[hl];unfold sz dh;rw[if_neg h1,if_neg h2,if_neg h3,if_pos h4]
  rw[e,dQ,lP (by simp[hk]) (aW (aW hs 1).2 8).1,lP (by simp[hk]) (aW hs 9).2]
  have h9:l.drop 9=(l.drop 1).drop 8:=by rw[List.drop_drop]
  rw[h9,List.take_append_drop]
  conv=>rhs;rw[mj (l:=l) (by omega)]
  rw[h4]
 by_cases h5:l.getD 0 0=5
 ·have e:eM l=cg (l.getD 1 0:Int) (l.getD 2 0) ((l.getD 3 0:Int)-1):=by unfold eM;rw[if_neg h1,if_neg h2,if_neg h3,if_neg h4,if_pos h5]
  have hk:l.length=4:=by rw[hl];unfold sz dh;rw[if_neg h1,if_neg h2,if_neg h3,if_neg h4,if_pos h5]
  rw[e,dW,Int.toNat_natCast]
  match l,hk with
  |[a,b,c,d],_=>
   have:a=5:=h5
   subst this
   show [5,b,c,((d:Int)-1+1).toNat]=[5,b,c,d]
   rw[show((d:Int)-1+1).toNat=d by omega]
 ·have e:eM l=⟨(l.getD 0 0:Int),0,0,0,[],0,0,0,0,0⟩:=by unfold eM;rw[if_neg h1,if_neg h2,if_neg h3,if_neg h4,if_neg h5]
  rw[e] at hr
  rcases hr with ⟨e',_⟩|⟨e',_⟩|⟨e',_⟩|e'|⟨e',_⟩
  ·have q:((l.getD 0 0:Nat):Int)=1:=congrArg En.d e'
   omega
  ·have q:((l.getD 0 0:Nat):Int)=2:=congrArg En.d e'
   omega
  ·have q:((l.getD 0 0:Nat):Int)=3:=congrArg En.d e'
   omega
  ·have q:((l.getD 0 0:Nat):Int)=4:=congrArg En.d e'
   omega
  ·have q:((l.getD 0 0:Nat):Int)=5:=congrArg En.d e'
   omega
theorem Fj {l:List Nat} (hs: ∀y∈l,y<256) (hl:l.length=sz l):pV (eM l):=by
 have key: ∀m:List Nat,(∀y∈m,y<256)→m.length≤8→cC m<18446744073709551616:=by
  intro m hm hl
  have h:=jP hm
  have:256^m.length≤256^8:=Nat.pow_le_pow_right (by omega) hl
  omega
 unfold eM
 by_cases h1:l.getD 0 0=1
 ·have hk:l.length=10:=by rw[hl];unfold sz dh;rw[if_pos h1]
  rw[if_pos h1]
  exact⟨key _ (aW hs 2).2 (by simp[hk]),by simp[bo],by simp[bo],by simp[bo]⟩
 rw[if_neg h1]
 by_cases h2:l.getD 0 0=2
 ·rw[if_pos h2];exact⟨by simp[cW],by simp[cW],by simp[cW],by simp[cW]⟩
 rw[if_neg h2]
 by_cases h3:l.getD 0 0=3
 ·rw[if_pos h3];exact⟨by simp[ck],by simp[ck],by simp[ck],by simp[ck]⟩
 rw[if_neg h3]
 by_cases h4:l.getD 0 0=4
 ·have hk:l.length=17:=by rw[hl];unfold sz dh;rw[if_neg h1,if_neg h2,if_neg h3,if_pos h4]
  rw[if_pos h4]
  exact⟨by simp[cI],key _ (aW (aW hs 1).2 8).1 (by simp[hk]),key _ (aW hs 9).2 (by simp[hk]),by simp[cI]⟩
 rw[if_neg h4]
 by_cases h5:l.getD 0 0=5
 ·have hk:l.length=4:=by rw[hl];unfold sz dh;rw[if_neg h1,if_neg h2,if_neg h3,if_neg h4,if_pos h5]
  rw[if_pos h5]
  exact⟨by simp[cg],by simp[cg],by simp[cg],hs _ (cV (by omega))⟩
 rw[if_neg h5]
 exact⟨by simp,by simp,by simp,by simp⟩
def all (L:List En):List Nat:=L.flatMap bytes
def gL (L:List En):Prop:= ∀x∈L,aU x∧pV x
def GK (r:List Nat):Prop:= ∀x t,aU x→pV x→r≠bytes x++t
def Good (l:List Nat) (L:List En):Prop:=gL L∧l=all L
def nH (l:List Nat) (L:List En):Prop:=gL L∧ ∃r,r≠[]∧GK r∧l=all L++r
theorem all_nil:all []=[]:=rfl
theorem all_cons (x:En) (L:List En):all (x::L)=bytes x++all L:=rfl
theorem pS (L:List En) (x:En):all (L++[x])=all L++bytes x:=by simp[all]
theorem oI {x y:En} {r s:List Nat} (hx:aU x) (hx':pV x) (hy:aU y) (hy':pV y) (h:bytes x++r=bytes y++s):x=y∧r=s:=by
 have h1:=jk hx hx' r
 have h2:=jk hy hy' s
 rw[h] at h1
 have hl:(bytes x).length=(bytes y).length:=by omega
 obtain⟨e1,e2⟩:=List.append_inj h hl
 refine⟨?_,e2⟩
 rw[←ml hx hx',←ml hy hy',e1]
theorem xN: ∀{l:List Nat} {L M:List En},Good l L→Good l M→L=M:=by
 intro l L
 induction L generalizing l with
 |nil=>
  rintro M ⟨_,rfl⟩ ⟨hM,h⟩
  cases M with
  |nil=>rfl
  |cons y M=>
   rw[all_cons,all_nil] at h
   have h1:=congrArg List.length h
   have h2:=nZ (x:=y)
   rw[List.length_append,List.length_nil] at h1
   omega
 |cons x L ih=>
  rintro M ⟨hL,rfl⟩ ⟨hM,h⟩
  cases M with
  |nil=>
   rw[all_cons,all_nil] at h
   have h1:=congrArg List.length h
   have h2:=nZ (x:=x)
   rw[List.length_append,List.length_nil] at h1
   omega
  |cons y M=>
   rw[all_cons,all_cons] at h
   obtain⟨rfl,h2⟩:=oI (hL x (by simp)).1 (hL x (by simp)).2 (hM y (by simp)).1 (hM y (by simp)).2 h
   rw[ih (M:=M) ⟨fun z hz=>hL z (by simp[hz]),rfl⟩ ⟨fun z hz=>hM z (by simp[hz]),h2⟩]
theorem yY: ∀{l:List Nat} {L M:List En},Good l L→nH l M→False:=by
 intro l L
 induction L generalizing l with
 |nil=>
  rintro M ⟨_,rfl⟩ ⟨hM,r,hr,_,h⟩
  have h1:=congrArg List.length h
  have h2:r.length≠0:=fun q=>hr (List.length_eq_zero_iff.1 q)
  rw[List.length_append,all_nil,List.length_nil] at h1
  omega
 |cons x L ih=>
  rintro M ⟨hL,rfl⟩ ⟨hM,r,hr,hn,h⟩
  cases M with
  |nil=>
   rw[all_cons,all_nil,List.nil_append] at h
   exact hn x _ (hL x (by simp)).1 (hL x (by simp)).2 h.symm
  |cons y M=>
   rw[all_cons,all_cons,List.append_assoc] at h
   obtain⟨rfl,h2⟩:=oI (hL x (by simp)).1 (hL x (by simp)).2 (hM y (by simp)).1 (hM y (by simp)).2 h
   exact ih (M:=M) ⟨fun z hz=>hL z (by simp[hz]),rfl⟩ ⟨fun z hz=>hM z (by simp[hz]),r,hr,hn,h2⟩
theorem yd {r:List Nat} (h:r.length<sz r):GK r:=by
 rintro x t hx hw rfl
 rw[jk hx hw] at h
 simp at h
 omega
theorem CS (b1 len:Nat):dh 3 b1 len=if 2≤len then 2+4*b1 else 2:=rfl
theorem su {b0:Nat} (h:b0≠3) (b1 b1' len len':Nat):dh b0 b1 len=dh b0 b1' len':=by
 unfold dh
 rw[if_neg h,if_neg h]
theorem rC (b0 b1 len:Nat):1≤dh b0 b1 len:=by
 unfold dh
 repeat' split
 all_goals omega
theorem ud {r:List Nat} (h:sz r≤r.length):sz (r.take (sz r))=sz r:=by
 have h0: ∀k j,j<k→(r.take k).getD j 0=r.getD j 0:=fun k j hj=>by simp[List.getD,List.getElem?_take_of_lt hj]
 have h1:1≤sz r:=rC _ _ _
 have hk2:sz r=dh (r.getD 0 0) (r.getD 1 0) r.length:=rfl
 generalize sz r=k at h h1 hk2
 show dh ((r.take k).getD 0 0) ((r.take k).getD 1 0) (r.take k).length=k
 rw[h0 k 0 (by omega),List.length_take,Nat.min_eq_left h]
 by_cases h3:r.getD 0 0=3
 ·rw[h3,CS] at hk2
  have h2:2≤k:=by rw[hk2];split<;>omega
  rw[h0 k 1 (by omega),h3,CS,if_pos h2]
  rw[if_pos (show 2≤r.length by omega)] at hk2
  exact hk2.symm
 ·rw[hk2]
  exact su h3 _ _ _ _
theorem xa {r:List Nat} (h:sz r≤r.length) (hn: ¬aU (eM (r.take (sz r)))):GK r:=by
 rintro x t hx hw rfl
 rw[jk hx hw,List.take_left' rfl,ml hx hw] at hn
 exact hn hx
theorem B6 {r:List Nat} (hs: ∀y∈r,y<256) (h:sz r≤r.length) (hy:aU (eM (r.take (sz r)))):pV (eM (r.take (sz r)))∧r=bytes (eM (r.take (sz r)))++r.drop (sz r):=by
 have hl:(r.take (sz r)).length=sz (r.take (sz r)):=by rw[ud h,List.length_take,Nat.min_eq_left h]
 refine⟨Fj (aW hs _).1 hl,?_⟩
 rw[zv (aW hs _).1 hl hy,List.take_append_drop]
theorem DY (a b c d:Int) (w:World):(Op.equalIn 10000 48 (.agg #[.int .i64 a,.int .i64 b]) (.agg #[.int .i64 c,.int .i64 d])).run Tryz.prog w= .ok (a==c&&b==d) w:=by
 have u3:=Tryz.underlying46
 have a3:=Tryz.isAgg46
 have z3:=Tryz.sizeOf46
 have u4:=Tryz.underlying3
 have a4:=Tryz.isAgg3
 have z4:=Tryz.sizeOf3
 have hS:Tryz.prog.underlying 48=some (.struct (Tryz.prog.fieldsOf 48)):=by kernel_rfl
 rw[show(10000:Nat)=9999+1 from rfl,run_equalIn_agg w 9999 48 _ _ hS (by kernel_rfl)]
 simp only[Program.fieldsOf,Tryz.underlying48]
 go_simp
 by_cases h1:a=c<;>by_cases h2:b=d<;>simp[h1,h2]
theorem Gr (a b c d:Int) (w:World):(Op.equal 48 (.agg #[.int .i64 a,.int .i64 b]) (.agg #[.int .i64 c,.int .i64 d])).run Tryz.prog w= .ok (a==c&&b==d) w:=DY _ _ _ _ w
@[go_sem high] theorem G0 (a b c d : Int) (w : World) : (binOp .neq 48 (.agg #[.int .i64 a, .int .i64 b]) (.agg #[.int .i64 c, .int .i64 d])).run Tryz.prog w = .ok (.bool (!(a == c && b == d))) w := by
 simp[binOp,go_sem,Gr]
def lE (w:World) (a:Option Addr) (c:List (Int×Int)):Prop:=jW w a c.length (cO c) (cR c)
theorem lE.below {w w':World} {a:Option Addr} {c:List (Int×Int)} (h:lE w a c) (hb:Below w.heap.size w w'):lE w' a c:=jW.below h hb
theorem js (w:World) (a:Option Addr):lE w a []:= .inl rfl
theorem F7 {c d:List (Int×Int)} (hl:c.length=d.length) (h:c≠d): ∃j,j<c.length∧(∀i,i<j→cO c i=cO d i∧cR c i=cR d i)∧ ¬(cO c j=cO d j∧cR c j=cR d j):=by
 rcases kl (fun i=>decide (cO c i=cO d i∧cR c i=cR d i)) c.length with q|⟨j,h1,h2,h3⟩
 ·exact(h (CU hl (fun i hi=>by simpa using q i hi))).elim
 ·exact⟨j,h1,fun i hi=>by simpa using h2 i hi,by simpa using h3⟩
theorem oB (w:World) (a b:Nat):(w.drewN a).drewN b=w.drewN (a+b):=by simp[World.drewN,Nat.add_assoc]
theorem Em (w:World) (a b:Option Addr) (la lb ca cb:Nat) (hl:la≠lb):
  Calls Tryz.prog 62 #[.slice a la ca,.slice b lb cb] w fun e w'=>e= .returned (.bool false)∧ ∃q,w'=w.drewN q:=by
 have h1:((la:Int) !=(lb:Int))=true:=by simpa using (show¬(la:Int)=(lb:Int) by omega)
 go_enter Tryz.func62,Tryz.ntmps62
 go_wp2
 go_ret
 exact⟨rfl,0,rfl⟩
theorem tR (w:World) (ga oa gb ob len ca cb:Nat) (O R O' R':Nat→Int) (J:Nat) (hJ:J≤len) (hlen:len<9223372036854775808)
  (hca: ∀j,j<len→w.cell? ⟨ga,oa+j*2,none⟩=some (.int .i64 (O j))∧w.cell? ⟨ga,oa+j*2+1,none⟩=some (.int .i64 (R j))) (hcb: ∀j,j<len→w.cell? ⟨gb,ob+j*2,none⟩=some (.int .i64 (O' j))∧w.cell? ⟨gb,ob+j*2+1,none⟩=some (.int .i64 (R' j)))
  (hs: ∀i,i<J→O i=O' i∧R i=R' i) (hd:J<len→ ¬(O J=O' J∧R J=R' J)):
  Calls Tryz.prog 62 #[.slice (some ⟨ga,oa,none⟩) len ca,.slice (some ⟨gb,ob,none⟩) len cb] w fun e w'=>e= .returned (.bool (decide (J=len)))∧ ∃q,w'=w.drewN q:=by
 have HA:=aa hca
 have HB:=aa hcb
 have HS:=aa hs
 have HD:=aa hd
 have HJ:=aa hJ
 clear hca hcb hs hd hJ
 go_enter Tryz.func62,Tryz.ntmps62
 go_wp2
 go_loopw [13] (fun i wr=> ∃j q:Nat,j≤J∧i= .int .i64 j∧wr=w.drewN q) (fun i _=>len-(intOf i).toNat)
 case atStart=>exact⟨0,0,by omega,rfl,rfl⟩
 case round=>
  obtain⟨j,q,hj,rfl,rfl⟩:=hrel
  by_cases hjl:j<len
  ·obtain⟨e1,e2⟩:=HA.out j hjl
   obtain⟨e3,e4⟩:=HB.out j hjl
   have hjl':(j:Int)<(len:Int):=by omega
   by_cases hjJ:j<J
   ·obtain⟨q1,q2⟩:=HS.out j hjJ
    have b1:(O j==O' j)=true:=by simpa using q1
    have b2:(R j==R' j)=true:=by simpa using q2
    have hjJ':=aa hjJ
    clear q1 q2 hjJ hj
    go_wp2
    go_quiet (fail)
    go_wp2
    go_roundw
    case rel=>exact⟨j+1,_,hjJ'.out,by go_num,rfl⟩
    case measure=>simp[intOf];omega
   ·have hJe:j=J:=by omega
    have HN:Hid (decide (J=len)=false):=by
     have q: ¬J=len:=by omega
     exact aa (decide_eq_false q)
    have hn:((O j==O' j)&&(R j==R' j))=false:=by
     have:=HD.out (by omega)
     rw[←hJe] at this
     simpa using this
    clear hjJ hj hJe
    go_wp2
    go_quiet (fail)
    go_wp2
    go_ret
    exact⟨by rw[HN.out];rfl,_,by first|rfl|exact oB _ _ _⟩
  ·have hjl': ¬(j:Int)<(len:Int):=by omega
   have HN:Hid (decide (J=len)=true):=by
    have q1:=HJ.out
    have q:J=len:=by omega
    exact aa (decide_eq_true q)
   clear hj
   go_wp2
   go_ret
   exact⟨by rw[HN.out];rfl,_,by first|rfl|exact oB _ _ _⟩
theorem AY (w:World) (a b:Option Addr) (ca cb:Nat):
  Calls Tryz.prog 62 #[.slice a 0 ca,.slice b 0 cb] w fun e w'=>e= .returned (.bool true)∧ ∃q,w'=w.drewN q:=by
 go_enter Tryz.func62,Tryz.ntmps62
 go_wp2
 go_loopw [13] (fun i wr=>i= .int .i64 0∧wr=w) (fun i _=>0)
 case atStart=>exact⟨rfl,rfl⟩
 case round=>
  obtain⟨rfl,rfl⟩:=hrel
  go_wp2
  go_ret
  exact⟨rfl,0,rfl⟩
theorem D8 (w:World) (a b:Option Addr) (c d:List (Int×Int)) (ca cb:Nat) (hc:lE w a c) (hd:lE w b d) (hl:c.length<9223372036854775808):
  Calls Tryz.prog 62 #[.slice a c.length ca,.slice b d.length cb] w fun e w'=> ∃B:Bool,e= .returned (.bool B)∧(B=true↔c=d)∧ ∃q,w'=w.drewN q:=by
 by_cases hlen:c.length=d.length
 ·by_cases h0:c.length=0
  ·have e1:c=[]:=List.length_eq_zero_iff.1 h0
   have e2:d=[]:=List.length_eq_zero_iff.1 (hlen▸h0)
   subst e1 e2
   exact(AY w a b ca cb).mono fun e w' ⟨he,hq⟩=>⟨true,he,by simp,hq⟩
  ·rcases hc with h|⟨ga,oa,rfl,_,hca⟩
   ·exact absurd h h0
   rcases hd with h|⟨gb,ob,rfl,_,hcb⟩
   ·omega
   by_cases he:c=d
   ·subst he
    exact(tR w ga oa gb ob c.length ca cb _ _ _ _ c.length (Nat.le_refl _) hl hca hcb (fun _ _=>⟨rfl,rfl⟩) (fun h=>by omega)).mono fun e w' ⟨he,hq⟩=>⟨true,by simpa using he,by simp,hq⟩
   ·obtain⟨j,h1,h2,h3⟩:=F7 hlen he
    rw[←hlen] at hcb⊢
    refine(tR w ga oa gb ob c.length ca cb _ _ _ _ j (by omega) hl hca hcb h2 (fun _=>h3)).mono fun e w' ⟨hh,hq⟩=>⟨false,?_,by simp[he],hq⟩
    rw[hh,show decide (j=c.length)=false by simp;omega]
 ·exact(Em w a b _ _ ca cb hlen).mono fun e w' ⟨he,hq⟩=>⟨false,he,⟨fun h=>(by cases h),fun h=>(hlen (by rw[h])).elim⟩,hq⟩
theorem ie (w:World) (n a b:Int):Calls Tryz.prog 40 #[.int .i64 n,.int .i64 a,.int .i64 b] w fun e w'=>e= .returned (.bool (decide (a≤n∧n≤b)))∧w'=w:=by
 by_cases h1:a≤n
 ·by_cases h2:n≤b
  ·go_enter Tryz.func40,Tryz.ntmps40
   go_wp2
   go_ret
   exact⟨by simp[h1,h2],rfl⟩
  ·go_enter Tryz.func40,Tryz.ntmps40
   go_wp2
   go_ret
   exact⟨by simp[h2],rfl⟩
 ·go_enter Tryz.func40,Tryz.ntmps40
  go_wp2
  go_ret
  exact⟨by simp;omega,rfl⟩
theorem cM (w:World) (c c':Array Value) (t t':TypeId):Below w.heap.size w ((w.alloc (.cells c t)).alloc (.cells c' t')):=((Below.refl _ _).alloc (Nat.le_refl _) _).alloc (by simp) _
theorem Dw (x y:En):x=y↔x.d=y.d∧x.p=y.p∧(x.dr:Int)=(y.dr:Int)∧x.n=y.n∧x.code=y.code∧(x.bu:Int)=(y.bu:Int)∧(x.pe:Int)=(y.pe:Int)∧x.pr=y.pr∧(x.lv:Int)=(y.lv:Int)∧x.sv=y.sv:=by
 cases x
 cases y
 simp only[En.mk.injEq]
 constructor
 ·rintro⟨rfl,rfl,rfl,rfl,rfl,rfl,rfl,rfl,rfl,rfl⟩
  simp
 ·rintro⟨h1,h2,h3,h4,h5,h6,h7,h8,h9,h10⟩
  exact⟨h1,h2,by omega,h4,h5,by omega,by omega,h8,by omega,h10⟩
theorem jo (w : World) (x y : En) (a b : Option Addr) (ca cb : Nat) (hx : lE w a x.code) (hy : lE w b y.code) (hl : x.code.length < 9223372036854775808) :
  Calls Tryz.prog 41 #[.agg #[.int .i64 x.d, .int .i64 x.p, .int .u64 (x.dr : Int), .int .i64 x.n, .slice a x.code.length ca, .int .u64 (x.bu : Int), .int .u64 (x.pe : Int), .int .i64 x.pr, .int .u8 (x.lv : Int), .int .i64 x.sv], .agg #[.int .i64 y.d, .int .i64 y.p, .int .u64 (y.dr : Int), .int .i64 y.n, .slice b y.code.length cb, .int .u64 (y.bu : Int), .int .u64 (y.pe : Int), .int .i64 y.pr, .int .u8 (y.lv : Int), .int .i64 y.sv]] w fun e w' => ∃ B : Bool, e = .returned (.bool B) ∧ (B = true ↔ x = y) ∧ Below w.heap.size w w' := by
 have HE : Hid (∀ W, Below w.heap.size w W → Calls Tryz.prog 62 #[.slice a x.code.length ca, .slice b y.code.length cb] W fun e w' => ∃ B : Bool, e = .returned (.bool B) ∧ (B = true ↔ x.code = y.code) ∧ ∃ q, w' = W.drewN q) := fun W hb => D8 W a b x.code y.code ca cb (hx.below hb) (hy.below hb) hl
 clear hx hy
 go_enter Tryz.func41, Tryz.ntmps41
 go_wp2_with (go_at_call 62; refine (HE.out _ (cM w _ _ _ _)).mono ?_; rintro e w1 ⟨B, rfl, hB, q, rfl⟩; have HB := aa hB; clear hB)
 all_goals go_ret
 all_goals refine ⟨_, rfl, ?_, ?_⟩
 all_goals first
  | exact below_drewN (cM w _ _ _ _) _
  | exact cM w _ _ _ _
  | (try have hB := HB.out
     rw [Dw]
     simp_all)
theorem aO {w w1:World} {c:Array Value} {t:TypeId} {B:Nat} (hb:Below B (w.alloc (.cells c t)) w1) (i:Nat) (u:Value) (hu:c[i]? =some u) (hB:w.heap.size<B:=by simp):w1.cell? ⟨w.heap.size,i,none⟩=some u:=by
 rw[hb.cell (p:=⟨w.heap.size,i,none⟩) hB]
 unfold World.cell?
 simp only[(MapKept.heap_alloc w _).1]
 exact hu
theorem zo {x:En} (hd:x.d=1):aU x↔x=bo x.p x.dr∧0≤x.p∧x.p≤255:=by
 refine⟨fun h=> ?_,fun h=> .inl h⟩
 rcases h with ⟨e,h1,h2⟩|⟨e,h1,h2⟩|⟨e,h1⟩|e|⟨e,h1,h2,h3,h4⟩
 ·exact⟨e,h1,h2⟩
 ·exact absurd (hd.symm.trans (show x.d=2 from congrArg En.d e)) (by decide)
 ·exact absurd (hd.symm.trans (show x.d=3 from congrArg En.d e)) (by decide)
 ·exact absurd (hd.symm.trans (show x.d=4 from congrArg En.d e)) (by decide)
 ·exact absurd (hd.symm.trans (show x.d=5 from congrArg En.d e)) (by decide)
theorem ya {x:En} (hd:x.d=2):aU x↔x=cW x.n∧1≤x.n∧x.n≤65535:=by
 refine⟨fun h=> ?_,fun h=> .inr (.inl h)⟩
 rcases h with ⟨e,h1,h2⟩|⟨e,h1,h2⟩|⟨e,h1⟩|e|⟨e,h1,h2,h3,h4⟩
 ·exact absurd (hd.symm.trans (show x.d=1 from congrArg En.d e)) (by decide)
 ·exact⟨e,h1,h2⟩
 ·exact absurd (hd.symm.trans (show x.d=3 from congrArg En.d e)) (by decide)
 ·exact absurd (hd.symm.trans (show x.d=4 from congrArg En.d e)) (by decide)
 ·exact absurd (hd.symm.trans (show x.d=5 from congrArg En.d e)) (by decide)
theorem yP {x:En} (hd:x.d=3):aU x↔x=ck x.code∧rK x.code:=by
 refine⟨fun h=> ?_,fun h=> .inr (.inr (.inl h))⟩
 rcases h with ⟨e,h1,h2⟩|⟨e,h1,h2⟩|⟨e,h1⟩|e|⟨e,h1,h2,h3,h4⟩
 ·exact absurd (hd.symm.trans (show x.d=1 from congrArg En.d e)) (by decide)
 ·exact absurd (hd.symm.trans (show x.d=2 from congrArg En.d e)) (by decide)
 ·exact⟨e,h1⟩
 ·exact absurd (hd.symm.trans (show x.d=4 from congrArg En.d e)) (by decide)
 ·exact absurd (hd.symm.trans (show x.d=5 from congrArg En.d e)) (by decide)
theorem yQ {x:En} (hd:x.d=4):aU x↔x=cI x.bu x.pe:=by
 refine⟨fun h=> ?_,fun h=> .inr (.inr (.inr (.inl h)))⟩
 rcases h with ⟨e,h1,h2⟩|⟨e,h1,h2⟩|⟨e,h1⟩|e|⟨e,h1,h2,h3,h4⟩
 ·exact absurd (hd.symm.trans (show x.d=1 from congrArg En.d e)) (by decide)
 ·exact absurd (hd.symm.trans (show x.d=2 from congrArg En.d e)) (by decide)
 ·exact absurd (hd.symm.trans (show x.d=3 from congrArg En.d e)) (by decide)
 ·exact e
 ·exact absurd (hd.symm.trans (show x.d=5 from congrArg En.d e)) (by decide)
theorem yh {x:En} (hd:x.d=5):aU x↔x=cg x.pr x.lv x.sv∧0≤x.pr∧x.pr≤255∧ -1≤x.sv∧x.sv≤254:=by
 refine⟨fun h=> ?_,fun h=> .inr (.inr (.inr (.inr h)))⟩
 rcases h with ⟨e,h1,h2⟩|⟨e,h1,h2⟩|⟨e,h1⟩|e|⟨e,h1,h2,h3,h4⟩
 ·exact absurd (hd.symm.trans (show x.d=1 from congrArg En.d e)) (by decide)
 ·exact absurd (hd.symm.trans (show x.d=2 from congrArg En.d e)) (by decide)
 ·exact absurd (hd.symm.trans (show x.d=3 from congrArg En.d e)) (by decide)
 ·exact absurd (hd.symm.trans (show x.d=4 from congrArg En.d e)) (by decide)
 ·exact⟨e,h1,h2,h3,h4⟩
theorem rF {x:En} (h1:x.d≠1) (h2:x.d≠2) (h3:x.d≠3) (h4:x.d≠4) (h5:x.d≠5): ¬aU x:=by
 rintro(⟨e,_⟩|⟨e,_⟩|⟨e,_⟩|e|⟨e,_⟩)
 ·exact h1 (congrArg En.d e)
 ·exact h2 (congrArg En.d e)
 ·exact h3 (congrArg En.d e)
 ·exact h4 (congrArg En.d e)
 ·exact h5 (congrArg En.d e)
@[go_sem] theorem Gu (p dr : Int) (w : World) : (Instr.build 51 #[(0, .int .i64 1), (1, .int .i64 p), (2, .int .u64 dr)]).run Tryz.prog w = .ok (.agg #[.int .i64 1, .int .i64 p, .int .u64 dr, .int .i64 0, .slice none 0 0, .int .u64 0, .int .u64 0, .int .i64 0, .int .u8 0, .int .i64 0]) w := run_build w 51 _ _ (by kernel_rfl)
@[go_sem] theorem Gp (n : Int) (w : World) : (Instr.build 51 #[(0, .int .i64 2), (3, .int .i64 n)]).run Tryz.prog w = .ok (.agg #[.int .i64 2, .int .i64 0, .int .u64 0, .int .i64 n, .slice none 0 0, .int .u64 0, .int .u64 0, .int .i64 0, .int .u8 0, .int .i64 0]) w := run_build w 51 _ _ (by kernel_rfl)
@[go_sem] theorem Gl (a : Option Addr) (l c : Nat) (w : World) : (Instr.build 51 #[(0, .int .i64 3), (4, .slice a l c)]).run Tryz.prog w = .ok (.agg #[.int .i64 3, .int .i64 0, .int .u64 0, .int .i64 0, .slice a l c, .int .u64 0, .int .u64 0, .int .i64 0, .int .u8 0, .int .i64 0]) w := run_build w 51 _ _ (by kernel_rfl)
@[go_sem] theorem Gn (b p : Int) (w : World) : (Instr.build 51 #[(0, .int .i64 4), (5, .int .u64 b), (6, .int .u64 p)]).run Tryz.prog w = .ok (.agg #[.int .i64 4, .int .i64 0, .int .u64 0, .int .i64 0, .slice none 0 0, .int .u64 b, .int .u64 p, .int .i64 0, .int .u8 0, .int .i64 0]) w := run_build w 51 _ _ (by kernel_rfl)
@[go_sem] theorem Gz (p l s : Int) (w : World) : (Instr.build 51 #[(0, .int .i64 5), (7, .int .i64 p), (8, .int .u8 l), (9, .int .i64 s)]).run Tryz.prog w = .ok (.agg #[.int .i64 5, .int .i64 0, .int .u64 0, .int .i64 0, .slice none 0 0, .int .u64 0, .int .u64 0, .int .i64 p, .int .u8 l, .int .i64 s]) w := run_build w 51 _ _ (by kernel_rfl)
theorem vK (w : World) (p : Int) (dr : Nat) (n : Int) (code : List (Int × Int)) (bu pe : Nat) (pr : Int) (lv : Nat) (sv : Int) (a : Option Addr) (ca : Nat) (hc : lE w a code) (hl : code.length < 9223372036854775808) :
  Calls Tryz.prog 21 #[.agg #[.int .i64 1, .int .i64 p, .int .u64 (dr : Int), .int .i64 n, .slice a code.length ca, .int .u64 (bu : Int), .int .u64 (pe : Int), .int .i64 pr, .int .u8 (lv : Int), .int .i64 sv]] w fun e w' => ∃ B : Bool, e = .returned (.bool B) ∧ (B = true ↔ aU (⟨1, p, dr, n, code, bu, pe, pr, lv, sv⟩ : En)) ∧ Below w.heap.size w w' := by
 have HS : Hid (∀ W, Below w.heap.size w W → Calls Tryz.prog 41 #[.agg #[.int .i64 1, .int .i64 p, .int .u64 (dr : Int), .int .i64 n, .slice a code.length ca, .int .u64 (bu : Int), .int .u64 (pe : Int), .int .i64 pr, .int .u8 (lv : Int), .int .i64 sv], .agg #[.int .i64 1, .int .i64 p, .int .u64 (dr : Int), .int .i64 0, .slice none 0 0, .int .u64 0, .int .u64 0, .int .i64 0, .int .u8 0, .int .i64 0]] W fun e w' => ∃ B : Bool, e = .returned (.bool B) ∧ (B = true ↔ (⟨1, p, dr, n, code, bu, pe, pr, lv, sv⟩ : En) = bo p dr) ∧ Below W.heap.size W w') := fun W hb => jo W (⟨1, p, dr, n, code, bu, pe, pr, lv, sv⟩ : En) (bo p dr) a none ca 0 (hc.below hb) (js _ _) hl
 have HW0 : Hid (∀ W, Calls Tryz.prog 40 #[.int .i64 p, .int .i64 0, .int .i64 255] W fun e w' => ∃ B : Bool, e = .returned (.bool B) ∧ (B = true ↔ 0 ≤ p ∧ p ≤ 255) ∧ w' = W) := fun W => (ie W p 0 255).mono fun e w' ⟨h1, h2⟩ => ⟨_, h1, by simp, h2⟩
 clear hc
 have HR := aa (zo (x := (⟨1, p, dr, n, code, bu, pe, pr, lv, sv⟩ : En)) rfl)
 go_enter Tryz.func21, Tryz.ntmps21
 go_wp2_with (first
  | (go_at_call 40; refine (HW0.out _).mono ?_; rintro e w1 ⟨B1, rfl, hB1, hw⟩; replace hw := hw.symm; subst hw; have HB1 := aa hB1; clear hB1)
  | (go_at_call 41; refine (HS.out _ ((Below.refl _ _).alloc (Nat.le_refl _) _)).mono ?_; rintro e w2 ⟨B2, rfl, hB2, hb2⟩; have HB2 := aa hB2; have HL2 := aa hb2; clear hB2 hb2))
 all_goals go_ret
 all_goals refine ⟨_, rfl, ?_, ?_⟩
 all_goals first
  | exact ((Below.refl _ _).alloc (Nat.le_refl _) _).trans (HL2.out.mono (by simp))
  | exact ((Below.refl _ _).alloc (Nat.le_refl _) _)
  | (rw [HR.out]
     try have h1 := HB1.out
     try have h2 := HB2.out
     try have h3 := HB3.out
     first
       | (simp_all; done)
       | (simp_all; intros; omega))
theorem wA (w : World) (p : Int) (dr : Nat) (n : Int) (code : List (Int × Int)) (bu pe : Nat) (pr : Int) (lv : Nat) (sv : Int) (a : Option Addr) (ca : Nat) (hc : lE w a code) (hl : code.length < 9223372036854775808) :
  Calls Tryz.prog 21 #[.agg #[.int .i64 2, .int .i64 p, .int .u64 (dr : Int), .int .i64 n, .slice a code.length ca, .int .u64 (bu : Int), .int .u64 (pe : Int), .int .i64 pr, .int .u8 (lv : Int), .int .i64 sv]] w fun e w' => ∃ B : Bool, e = .returned (.bool B) ∧ (B = true ↔ aU (⟨2, p, dr, n, code, bu, pe, pr, lv, sv⟩ : En)) ∧ Below w.heap.size w w' := by
 have HS : Hid (∀ W, Below w.heap.size w W → Calls Tryz.prog 41 #[.agg #[.int .i64 2, .int .i64 p, .int .u64 (dr : Int), .int .i64 n, .slice a code.length ca, .int .u64 (bu : Int), .int .u64 (pe : Int), .int .i64 pr, .int .u8 (lv : Int), .int .i64 sv], .agg #[.int .i64 2, .int .i64 0, .int .u64 0, .int .i64 n, .slice none 0 0, .int .u64 0, .int .u64 0, .int .i64 0, .int .u8 0, .int .i64 0]] W fun e w' => ∃ B : Bool, e = .returned (.bool B) ∧ (B = true ↔ (⟨2, p, dr, n, code, bu, pe, pr, lv, sv⟩ : En) = cW n) ∧ Below W.heap.size W w') := fun W hb => jo W (⟨2, p, dr, n, code, bu, pe, pr, lv, sv⟩ : En) (cW n) a none ca 0 (hc.below hb) (js _ _) hl
 have HW0 : Hid (∀ W, Calls Tryz.prog 40 #[.int .i64 n, .int .i64 1, .int .i64 65535] W fun e w' => ∃ B : Bool, e = .returned (.bool B) ∧ (B = true ↔ 1 ≤ n ∧ n ≤ 65535) ∧ w' = W) := fun W => (ie W n 1 65535).mono fun e w' ⟨h1, h2⟩ => ⟨_, h1, by simp, h2⟩
 clear hc
 have HR := aa (ya (x := (⟨2, p, dr, n, code, bu, pe, pr, lv, sv⟩ : En)) rfl)
 go_enter Tryz.func21, Tryz.ntmps21
 go_wp2_with (first
  | (go_at_call 40; refine (HW0.out _).mono ?_; rintro e w1 ⟨B1, rfl, hB1, hw⟩; replace hw := hw.symm; subst hw; have HB1 := aa hB1; clear hB1)
  | (go_at_call 41; refine (HS.out _ ((Below.refl _ _).alloc (Nat.le_refl _) _)).mono ?_; rintro e w2 ⟨B2, rfl, hB2, hb2⟩; have HB2 := aa hB2; have HL2 := aa hb2; clear hB2 hb2))
 all_goals go_ret
 all_goals refine ⟨_, rfl, ?_, ?_⟩
 all_goals first
  | exact ((Below.refl _ _).alloc (Nat.le_refl _) _).trans (HL2.out.mono (by simp))
  | exact ((Below.refl _ _).alloc (Nat.le_refl _) _)
  | (rw [HR.out]
     try have h1 := HB1.out
     try have h2 := HB2.out
     try have h3 := HB3.out
     first
       | (simp_all; done)
       | (simp_all; intros; omega))
theorem vj (w : World) (p : Int) (dr : Nat) (n : Int) (code : List (Int × Int)) (bu pe : Nat) (pr : Int) (lv : Nat) (sv : Int) (a : Option Addr) (ca : Nat) (hc : lE w a code) (hl : code.length < 9223372036854775808) :
  Calls Tryz.prog 21 #[.agg #[.int .i64 3, .int .i64 p, .int .u64 (dr : Int), .int .i64 n, .slice a code.length ca, .int .u64 (bu : Int), .int .u64 (pe : Int), .int .i64 pr, .int .u8 (lv : Int), .int .i64 sv]] w fun e w' => ∃ B : Bool, e = .returned (.bool B) ∧ (B = true ↔ aU (⟨3, p, dr, n, code, bu, pe, pr, lv, sv⟩ : En)) ∧ Below w.heap.size w w' := by
 have HS : Hid (∀ W, Below w.heap.size w W → Calls Tryz.prog 41 #[.agg #[.int .i64 3, .int .i64 p, .int .u64 (dr : Int), .int .i64 n, .slice a code.length ca, .int .u64 (bu : Int), .int .u64 (pe : Int), .int .i64 pr, .int .u8 (lv : Int), .int .i64 sv], .agg #[.int .i64 3, .int .i64 0, .int .u64 0, .int .i64 0, .slice a code.length ca, .int .u64 0, .int .u64 0, .int .i64 0, .int .u8 0, .int .i64 0]] W fun e w' => ∃ B : Bool, e = .returned (.bool B) ∧ (B = true ↔ (⟨3, p, dr, n, code, bu, pe, pr, lv, sv⟩ : En) = ck code) ∧ Below W.heap.size W w') := fun W hb => jo W (⟨3, p, dr, n, code, bu, pe, pr, lv, sv⟩ : En) (ck code) a a ca ca (hc.below hb) (hc.below hb) hl
 have HK : Hid (∀ W, Below w.heap.size w W → Calls Tryz.prog 42 #[.slice a code.length ca] W fun e w' => ∃ x y : Int, e = .returned (.tuple #[.int .i64 x, .int .i64 y]) ∧ (x = 0 ↔ rK code) ∧ Below W.heap.size W w') := fun W hb => (lU W a code.length ca hl (cO code) (cR code) (hc.below hb)).mono fun e w' ⟨x, y, h1, h2, h3⟩ => ⟨x, y, h1, ⟨fun q => ⟨y, by rw [← q]; exact h2⟩, fun ⟨y', q⟩ => (h2.one q).1.symm⟩, h3⟩
 clear hc
 have HR := aa (yP (x := (⟨3, p, dr, n, code, bu, pe, pr, lv, sv⟩ : En)) rfl)
 go_enter Tryz.func21, Tryz.ntmps21
 go_wp2_with (first
  | (go_at_call 42; refine (HK.out _ ((Below.refl _ _).alloc (Nat.le_refl _) _)).mono ?_; rintro e w1 ⟨x, y, rfl, hk, hb⟩; have HB1 := aa hk; have HL1 := aa hb; have y0 := aO hb 0 _ rfl; have y1 := aO hb 1 _ rfl; have y2 := aO hb 2 _ rfl; have y3 := aO hb 3 _ rfl; have y4 := aO hb 4 _ rfl; have y5 := aO hb 5 _ rfl; have y6 := aO hb 6 _ rfl; have y7 := aO hb 7 _ rfl; have y8 := aO hb 8 _ rfl; have y9 := aO hb 9 _ rfl; clear hk hb)
  | (go_at_call 41; refine (HS.out _ (((Below.refl _ _).alloc (Nat.le_refl _) _).trans (HL1.out.mono (by simp)))).mono ?_; rintro e w2 ⟨B2, rfl, hB2, hb2⟩; have HB2 := aa hB2; have HL2 := aa hb2; clear hB2 hb2))
 all_goals go_ret
 all_goals refine ⟨_, rfl, ?_, ?_⟩
 all_goals first
  | exact (((Below.refl _ _).alloc (Nat.le_refl _) _).trans (HL1.out.mono (by simp))).trans (HL2.out.mono (Nat.le_trans (Nat.le_succ _) (by have := HL1.out.size; simpa using this)))
  | exact ((Below.refl _ _).alloc (Nat.le_refl _) _).trans (HL1.out.mono (by simp))
  | (rw [HR.out]
     have h1 := HB1.out
     try have h2 := HB2.out
     simp_all)
theorem we (w : World) (p : Int) (dr : Nat) (n : Int) (code : List (Int × Int)) (bu pe : Nat) (pr : Int) (lv : Nat) (sv : Int) (a : Option Addr) (ca : Nat) (hc : lE w a code) (hl : code.length < 9223372036854775808) :
  Calls Tryz.prog 21 #[.agg #[.int .i64 4, .int .i64 p, .int .u64 (dr : Int), .int .i64 n, .slice a code.length ca, .int .u64 (bu : Int), .int .u64 (pe : Int), .int .i64 pr, .int .u8 (lv : Int), .int .i64 sv]] w fun e w' => ∃ B : Bool, e = .returned (.bool B) ∧ (B = true ↔ aU (⟨4, p, dr, n, code, bu, pe, pr, lv, sv⟩ : En)) ∧ Below w.heap.size w w' := by
 have HS : Hid (∀ W, Below w.heap.size w W → Calls Tryz.prog 41 #[.agg #[.int .i64 4, .int .i64 p, .int .u64 (dr : Int), .int .i64 n, .slice a code.length ca, .int .u64 (bu : Int), .int .u64 (pe : Int), .int .i64 pr, .int .u8 (lv : Int), .int .i64 sv], .agg #[.int .i64 4, .int .i64 0, .int .u64 0, .int .i64 0, .slice none 0 0, .int .u64 (bu : Int), .int .u64 (pe : Int), .int .i64 0, .int .u8 0, .int .i64 0]] W fun e w' => ∃ B : Bool, e = .returned (.bool B) ∧ (B = true ↔ (⟨4, p, dr, n, code, bu, pe, pr, lv, sv⟩ : En) = cI bu pe) ∧ Below W.heap.size W w') := fun W hb => jo W (⟨4, p, dr, n, code, bu, pe, pr, lv, sv⟩ : En) (cI bu pe) a none ca 0 (hc.below hb) (js _ _) hl
 clear hc
 have HR := aa (yQ (x := (⟨4, p, dr, n, code, bu, pe, pr, lv, sv⟩ : En)) rfl)
 go_enter Tryz.func21, Tryz.ntmps21
 go_wp2_with (go_at_call 41; refine (HS.out _ ((Below.refl _ _).alloc (Nat.le_refl _) _)).mono ?_; rintro e w2 ⟨B2, rfl, hB2, hb2⟩; have HB2 := aa hB2; have HL2 := aa hb2; clear hB2 hb2)
 all_goals go_ret
 all_goals refine ⟨_, rfl, ?_, ?_⟩
 all_goals first
  | exact ((Below.refl _ _).alloc (Nat.le_refl _) _).trans (HL2.out.mono (by simp))
  | exact ((Below.refl _ _).alloc (Nat.le_refl _) _)
  | (rw [HR.out]
     try have h1 := HB1.out
     try have h2 := HB2.out
     try have h3 := HB3.out
     first
       | (simp_all; done)
       | (simp_all; intros; omega))
theorem wQ (w : World) (p : Int) (dr : Nat) (n : Int) (code : List (Int × Int)) (bu pe : Nat) (pr : Int) (lv : Nat) (sv : Int) (a : Option Addr) (ca : Nat) (hc : lE w a code) (hl : code.length < 9223372036854775808) :
  Calls Tryz.prog 21 #[.agg #[.int .i64 5, .int .i64 p, .int .u64 (dr : Int), .int .i64 n, .slice a code.length ca, .int .u64 (bu : Int), .int .u64 (pe : Int), .int .i64 pr, .int .u8 (lv : Int), .int .i64 sv]] w fun e w' => ∃ B : Bool, e = .returned (.bool B) ∧ (B = true ↔ aU (⟨5, p, dr, n, code, bu, pe, pr, lv, sv⟩ : En)) ∧ Below w.heap.size w w' := by
 have HS : Hid (∀ W, Below w.heap.size w W → Calls Tryz.prog 41 #[.agg #[.int .i64 5, .int .i64 p, .int .u64 (dr : Int), .int .i64 n, .slice a code.length ca, .int .u64 (bu : Int), .int .u64 (pe : Int), .int .i64 pr, .int .u8 (lv : Int), .int .i64 sv], .agg #[.int .i64 5, .int .i64 0, .int .u64 0, .int .i64 0, .slice none 0 0, .int .u64 0, .int .u64 0, .int .i64 pr, .int .u8 (lv : Int), .int .i64 sv]] W fun e w' => ∃ B : Bool, e = .returned (.bool B) ∧ (B = true ↔ (⟨5, p, dr, n, code, bu, pe, pr, lv, sv⟩ : En) = cg pr lv sv) ∧ Below W.heap.size W w') := fun W hb => jo W (⟨5, p, dr, n, code, bu, pe, pr, lv, sv⟩ : En) (cg pr lv sv) a none ca 0 (hc.below hb) (js _ _) hl
 have HW0 : Hid (∀ W, Calls Tryz.prog 40 #[.int .i64 pr, .int .i64 0, .int .i64 255] W fun e w' => ∃ B : Bool, e = .returned (.bool B) ∧ (B = true ↔ 0 ≤ pr ∧ pr ≤ 255) ∧ w' = W) := fun W => (ie W pr 0 255).mono fun e w' ⟨h1, h2⟩ => ⟨_, h1, by simp, h2⟩
 have HW1 : Hid (∀ W, Calls Tryz.prog 40 #[.int .i64 sv, .int .i64 (-1), .int .i64 254] W fun e w' => ∃ B : Bool, e = .returned (.bool B) ∧ (B = true ↔ (-1) ≤ sv ∧ sv ≤ 254) ∧ w' = W) := fun W => (ie W sv (-1) 254).mono fun e w' ⟨h1, h2⟩ => ⟨_, h1, by simp, h2⟩
 clear hc
 have HR := aa (yh (x := (⟨5, p, dr, n, code, bu, pe, pr, lv, sv⟩ : En)) rfl)
 go_enter Tryz.func21, Tryz.ntmps21
 go_wp2_with (first
  | (go_at_call 40; refine (HW0.out _).mono ?_; rintro e w1 ⟨B1, rfl, hB1, hw⟩; replace hw := hw.symm; subst hw; have HB1 := aa hB1; clear hB1 HW0)
  | (go_at_call 40; refine (HW1.out _).mono ?_; rintro e w1 ⟨B3, rfl, hB3, hw⟩; replace hw := hw.symm; subst hw; have HB3 := aa hB3; clear hB3)
  | (go_at_call 41; refine (HS.out _ ((Below.refl _ _).alloc (Nat.le_refl _) _)).mono ?_; rintro e w2 ⟨B2, rfl, hB2, hb2⟩; have HB2 := aa hB2; have HL2 := aa hb2; clear hB2 hb2))
 all_goals go_ret
 all_goals refine ⟨_, rfl, ?_, ?_⟩
 all_goals first
  | exact ((Below.refl _ _).alloc (Nat.le_refl _) _).trans (HL2.out.mono (by simp))
  | exact ((Below.refl _ _).alloc (Nat.le_refl _) _)
  | (rw [HR.out]
     try have h1 := HB1.out
     try have h2 := HB2.out
     try have h3 := HB3.out
     first
       | (simp_all; done)
       | (simp_all; intros; omega))
theorem vo (w:World) (d:Int) (h1:d≠1) (h2:d≠2) (h3:d≠3) (h4:d≠4) (h5:d≠5) (p:Int) (dr:Nat) (n:Int) (code:List (Int×Int)) (bu pe:Nat) (pr:Int) (lv:Nat) (sv:Int) (a:Option Addr) (ca:Nat):
  Calls Tryz.prog 21 #[.agg #[.int .i64 d,.int .i64 p,.int .u64 (dr:Int),.int .i64 n,.slice a code.length ca,.int .u64 (bu:Int),.int .u64 (pe:Int),.int .i64 pr,.int .u8 (lv:Int),.int .i64 sv]] w fun e w'=> ∃B:Bool,e= .returned (.bool B)∧(B=true↔aU (⟨d,p,dr,n,code,bu,pe,pr,lv,sv⟩:En))∧Below w.heap.size w w':=by
 have HR:=aa (rF (x:=(⟨d,p,dr,n,code,bu,pe,pr,lv,sv⟩:En)) h1 h2 h3 h4 h5)
 have b1:(d==1)=false:=by simpa using h1
 have b2:(d==2)=false:=by simpa using h2
 have b3:(d==3)=false:=by simpa using h3
 have b4:(d==4)=false:=by simpa using h4
 have b5:(d==5)=false:=by simpa using h5
 clear h1 h2 h3 h4 h5
 go_enter Tryz.func21,Tryz.ntmps21
 go_wp2
 go_ret
 exact⟨false,rfl,by simp[HR.out],(Below.refl _ _).alloc (Nat.le_refl _) _⟩
theorem oz (w:World) (x:En) (a:Option Addr) (ca:Nat) (hc:lE w a x.code) (hl:x.code.length<9223372036854775808):
  Calls Tryz.prog 21 #[.agg #[.int .i64 x.d,.int .i64 x.p,.int .u64 (x.dr:Int),.int .i64 x.n,.slice a x.code.length ca,.int .u64 (x.bu:Int),.int .u64 (x.pe:Int),.int .i64 x.pr,.int .u8 (x.lv:Int),.int .i64 x.sv]] w fun e w'=> ∃B:Bool,e= .returned (.bool B)∧(B=true↔aU x)∧Below w.heap.size w w':=by
 obtain⟨d,p,dr,n,code,bu,pe,pr,lv,sv⟩:=x
 by_cases h1:d=1
 ·subst h1;exact vK w p dr n code bu pe pr lv sv a ca hc hl
 by_cases h2:d=2
 ·subst h2;exact wA w p dr n code bu pe pr lv sv a ca hc hl
 by_cases h3:d=3
 ·subst h3;exact vj w p dr n code bu pe pr lv sv a ca hc hl
 by_cases h4:d=4
 ·subst h4;exact we w p dr n code bu pe pr lv sv a ca hc hl
 by_cases h5:d=5
 ·subst h5;exact wQ w p dr n code bu pe pr lv sv a ca hc hl
 exact vo w d h1 h2 h3 h4 h5 p dr n code bu pe pr lv sv a ca
def Bx (W:World) (k:Nat) (c:Array Value) (t:TypeId):Prop:=W.heap[k]? =some (.cells c t (0,0))
section
variable {W W':World} {k:Nat} {c:Array Value} {t:TypeId}
theorem gP (w:World) (c:Array Value) (t:TypeId):Bx (w.alloc (.cells c t)) w.heap.size c t:=(MapKept.heap_alloc w _).1
theorem Bx.lt (h:Bx W k c t):k<W.heap.size:=(Array.getElem?_eq_some_iff.1 h).1
theorem Bx.alloc (h:Bx W k c t) (o:Obj):Bx (W.alloc o) k c t:=(Below.heap_alloc _ _ _ h.lt).trans h
theorem Bx.below (h:Bx W k c t) {B:Nat} (hb:Below B W W') (hk:k<B):Bx W' k c t:=(hb.block k hk).trans h
theorem Bx.grown (h:Bx W k c t) {row:Option Nat} (hg:W.grownBy W' row) (hr:row≠some k):Bx W' k c t:=(hg.block k h.lt (fun e=>hr e.symm)).trans h
theorem Bx.cell (h:Bx W k c t) (i:Nat) (u:Value) (hu:c[i]? =some u):W.cell? ⟨k,i,none⟩=some u:=by
 unfold World.cell?
 rw[show W.heap[(⟨k,i,none⟩:Addr).block]? =_ from h]
 exact hu
theorem sj {base:Nat} {e:TypeId} {s:Nat} {v:Value} {n:Nat} {xs:List Value} (ho:W.ownsRow base e s v n xs) (h:Bx W k c t) (he:e≠t):v.ownBlock≠some k:=by
 intro hk
 rcases ho.2 with ⟨rfl,_⟩|⟨g,cap,cur,rfl,hb,hg,_⟩
 ·simp[Value.ownBlock] at hk
 ·simp[Value.ownBlock] at hk
  subst hk
  unfold Bx at h
  rw[hg] at h
  injection h with h
  injection h with _ h _
  exact he h
theorem mO {base:Nat} {e:TypeId} {s:Nat} {v:Value} {n:Nat} {xs:List Value} (ho:W.ownsRow base e s v n xs):v.ownBlock≠some W.heap.size:=fun hk=>by
 have:=(ho.lt _ hk).2
 omega
end
def fe (w w':World):Prop:= ∀k c t,t≠5→Bx w k c t→Bx w' k c t
theorem fe.refl (w:World):fe w w:=fun _ _ _ _ h=>h
theorem fe.alloc {w w':World} (h:fe w w') (o:Obj):fe w (w'.alloc o):=fun k c t ht hx=>(h k c t ht hx).alloc o
theorem fe.grown {w w' w'':World} (h:fe w w') {base:Nat} {s:Nat} {v:Value} {n:Nat} {xs:List Value} (ho:w'.ownsRow base 5 s v n xs) (hg:w'.grownBy w'' v.ownBlock):fe w w'':=fun k c t ht hx=>(h k c t ht hx).grown hg (sj ho (h k c t ht hx) (fun q=>ht q.symm))
theorem Cu: ∀(k N j:Nat),j<k→(be k N)[j]? =some (N/256^(k-1-j)%256)
 |k+1,N,0,_=>by simp[be]
 |k+1,N,j+1,h=>by
  have:=Cu k N j (by omega)
  simp only[be,List.getElem?_cons_succ,this]
  rw[show k+1-1-(j+1)=k-1-j by omega]
theorem Bj {k N j m:Nat} (h:j<k) (hm:m=k-1-j):dz ((be k N).take (j+1))=dz ((be k N).take j)++[aM (N/256^m)]:=by
 have h1:=Cu k N j h
 rw[List.take_add_one,h1,hm]
 simp[dz,aM]
theorem Dp (k N:Nat):(be k N).take k=be k N:=List.take_of_length_le (by rw[bV];omega)
theorem jT (w:World) (base:Nat) (v:Value) (n:Nat) (xs:List Value) (hn:n<1000000) (h:w.ownsRow base 5 1 v n xs) (hb:base≤w.heap.size) (N:Nat) (hN:N<18446744073709551616) (k:Nat) (hk:k≤8):
  Calls Tryz.prog 43 #[v,.int .u64 (N:Int),.int .i64 (k:Int)] w fun e w'=> ∃v',e= .returned v'∧w'.ownsRow base 5 1 v' (n+k) (xs++dz (be k N))∧Below base w w'∧fe w w':=by
 obtain⟨i0,hi,hz0,hz1,hz2⟩:=info_parts fs
 have HO:=aa h
 clear h
 go_enter Tryz.func43,Tryz.ntmps43
 go_wp2
 go_loopw [0,7] (fun s i wr=> ∃(j:Nat),j≤k∧i= .int .i64 ((k:Int)-1-j)∧wr.ownsRow base 5 1 s (n+j) (xs++dz ((be k N).take j))∧Below base w wr∧base≤wr.heap.size∧fe w wr) (fun _ i _=>(intOf i+1).toNat)
 case atStart=>exact⟨0,by omega,by simp,by simpa [dz] using HO.out,Below.refl _ _,hb,fe.refl _⟩
 case round=>
  obtain⟨j,hj,rfl,ho,hg,hsz,hkp⟩:=hrel
  have HO1:=aa ho
  have HB:=aa hg
  have HKP:=aa hkp
  clear ho hg HO hkp
  by_cases hjk:j<k
  ·obtain⟨m,hm8,hm,hm'⟩: ∃m:Nat,m<8∧m=k-1-j∧(k:Int)-1-(j:Int)=(m:Int):=⟨k-1-j,by omega,rfl,by omega⟩
   have HT:=aa (Bj (N:=N) hjk hm)
   have HM:Hid (j+1≤k∧(k:Int)-1-((j+1:Nat):Int)=(m:Int)-1):=⟨by omega,by omega⟩
   rw[hm']
   clear hm hm'
   have:m=0∨m=1∨m=2∨m=3∨m=4∨m=5∨m=6∨m=7:=by omega
   rcases this with rfl|rfl|rfl|rfl|rfl|rfl|rfl|rfl
   ·go_wp2_with (at_builtin;refine wpList_append_own _ rfl _ _ 43 rfl base 5 i0 (.int .u8 0) 1 1 Tryz.underlying43 hi hz0 hz1 hz2 rfl (by decide) _ _ _ rfl (World.ownsRow.alloc HO1.out _) ⟨wr.heap.size,0,none⟩ 1 1 [_] rfl rfl (cell_one_new _ _ _) (by simp[Value.oneCell']) (by unfold maxLen;omega) (by omega) (by simp;omega) ?_;intro v' w1 hown' hgrow _;have HO2:=aa hown';have HG:=aa ((HB.out.alloc hsz _).grown hgrow (Nat.le_trans hsz (by simp)) (fun k hk=>(HO1.out.lt k hk).1));have HKP2:=aa ((HKP.out.alloc _).grown (World.ownsRow.alloc HO1.out _) hgrow);clear hown' hgrow)
    refine⟨⟨j+1,HM.out.1,by rw[HM.out.2];rfl,?_,HG.out,Nat.le_trans hb HG.out.size,HKP2.out⟩,by decide⟩
    rw[HT.out,←List.append_assoc]
    refine Eq.mp (congrArg (fun u=>w1.ownsRow base 5 1 v' (n+j+1) (xs++dz (List.take j (be k N))++[u])) ?_) HO2.out
    unfold aM
    rw[show(256:Nat)^0=1 from rfl]
    first|(congr 1;done)|(congr 1;omega)
   ·go_wp2_with (at_builtin;refine wpList_append_own _ rfl _ _ 43 rfl base 5 i0 (.int .u8 0) 1 1 Tryz.underlying43 hi hz0 hz1 hz2 rfl (by decide) _ _ _ rfl (World.ownsRow.alloc HO1.out _) ⟨wr.heap.size,0,none⟩ 1 1 [_] rfl rfl (cell_one_new _ _ _) (by simp[Value.oneCell']) (by unfold maxLen;omega) (by omega) (by simp;omega) ?_;intro v' w1 hown' hgrow _;have HO2:=aa hown';have HG:=aa ((HB.out.alloc hsz _).grown hgrow (Nat.le_trans hsz (by simp)) (fun k hk=>(HO1.out.lt k hk).1));have HKP2:=aa ((HKP.out.alloc _).grown (World.ownsRow.alloc HO1.out _) hgrow);clear hown' hgrow)
    refine⟨⟨j+1,HM.out.1,by rw[HM.out.2];rfl,?_,HG.out,Nat.le_trans hb HG.out.size,HKP2.out⟩,by decide⟩
    rw[HT.out,←List.append_assoc]
    refine Eq.mp (congrArg (fun u=>w1.ownsRow base 5 1 v' (n+j+1) (xs++dz (List.take j (be k N))++[u])) ?_) HO2.out
    unfold aM
    rw[show(256:Nat)^1=256 from rfl]
    first|(congr 1;done)|(congr 1;omega)
   ·go_wp2_with (at_builtin;refine wpList_append_own _ rfl _ _ 43 rfl base 5 i0 (.int .u8 0) 1 1 Tryz.underlying43 hi hz0 hz1 hz2 rfl (by decide) _ _ _ rfl (World.ownsRow.alloc HO1.out _) ⟨wr.heap.size,0,none⟩ 1 1 [_] rfl rfl (cell_one_new _ _ _) (by simp[Value.oneCell']) (by unfold maxLen;omega) (by omega) (by simp;omega) ?_;intro v' w1 hown' hgrow _;have HO2:=aa hown';have HG:=aa ((HB.out.alloc hsz _).grown hgrow (Nat.le_trans hsz (by simp)) (fun k hk=>(HO1.out.lt k hk).1));have HKP2:=aa ((HKP.out.alloc _).grown (World.ownsRow.alloc HO1.out _) hgrow);clear hown' hgrow)
    refine⟨⟨j+1,HM.out.1,by rw[HM.out.2];rfl,?_,HG.out,Nat.le_trans hb HG.out.size,HKP2.out⟩,by decide⟩
    rw[HT.out,←List.append_assoc]
    refine Eq.mp (congrArg (fun u=>w1.ownsRow base 5 1 v' (n+j+1) (xs++dz (List.take j (be k N))++[u])) ?_) HO2.out
    unfold aM
    rw[show(256:Nat)^2=65536 from rfl]
    first|(congr 1;done)|(congr 1;omega)
   ·go_wp2_with (at_builtin;refine wpList_append_own _ rfl _ _ 43 rfl base 5 i0 (.int .u8 0) 1 1 Tryz.underlying43 hi hz0 hz1 hz2 rfl (by decide) _ _ _ rfl (World.ownsRow.alloc HO1.out _) ⟨wr.heap.size,0,none⟩ 1 1 [_] rfl rfl (cell_one_new _ _ _) (by simp[Value.oneCell']) (by unfold maxLen;omega) (by omega) (by simp;omega) ?_;intro v' w1 hown' hgrow _;have HO2:=aa hown';have HG:=aa ((HB.out.alloc hsz _).grown hgrow (Nat.le_trans hsz (by simp)) (fun k hk=>(HO1.out.lt k hk).1));have HKP2:=aa ((HKP.out.alloc _).grown (World.ownsRow.alloc HO1.out _) hgrow);clear hown' hgrow)
    refine⟨⟨j+1,HM.out.1,by rw[HM.out.2];rfl,?_,HG.out,Nat.le_trans hb HG.out.size,HKP2.out⟩,by decide⟩
    rw[HT.out,←List.append_assoc]
    refine Eq.mp (congrArg (fun u=>w1.ownsRow base 5 1 v' (n+j+1) (xs++dz (List.take j (be k N))++[u])) ?_) HO2.out
    unfold aM
    rw[show(256:Nat)^3=16777216 from rfl]
    first|(congr 1;done)|(congr 1;omega)
   ·go_wp2_with (at_builtin;refine wpList_append_own _ rfl _ _ 43 rfl base 5 i0 (.int .u8 0) 1 1 Tryz.underlying43 hi hz0 hz1 hz2 rfl (by decide) _ _ _ rfl (World.ownsRow.alloc HO1.out _) ⟨wr.heap.size,0,none⟩ 1 1 [_] rfl rfl (cell_one_new _ _ _) (by simp[Value.oneCell']) (by unfold maxLen;omega) (by omega) (by simp;omega) ?_;intro v' w1 hown' hgrow _;have HO2:=aa hown';have HG:=aa ((HB.out.alloc hsz _).grown hgrow (Nat.le_trans hsz (by simp)) (fun k hk=>(HO1.out.lt k hk).1));have HKP2:=aa ((HKP.out.alloc _).grown (World.ownsRow.alloc HO1.out _) hgrow);clear hown' hgrow)
    refine⟨⟨j+1,HM.out.1,by rw[HM.out.2];rfl,?_,HG.out,Nat.le_trans hb HG.out.size,HKP2.out⟩,by decide⟩
    rw[HT.out,←List.append_assoc]
    refine Eq.mp (congrArg (fun u=>w1.ownsRow base 5 1 v' (n+j+1) (xs++dz (List.take j (be k N))++[u])) ?_) HO2.out
    unfold aM
    rw[show(256:Nat)^4=4294967296 from rfl]
    first|(congr 1;done)|(congr 1;omega)
   ·go_wp2_with (at_builtin;refine wpList_append_own _ rfl _ _ 43 rfl base 5 i0 (.int .u8 0) 1 1 Tryz.underlying43 hi hz0 hz1 hz2 rfl (by decide) _ _ _ rfl (World.ownsRow.alloc HO1.out _) ⟨wr.heap.size,0,none⟩ 1 1 [_] rfl rfl (cell_one_new _ _ _) (by simp[Value.oneCell']) (by unfold maxLen;omega) (by omega) (by simp;omega) ?_;intro v' w1 hown' hgrow _;have HO2:=aa hown';have HG:=aa ((HB.out.alloc hsz _).grown hgrow (Nat.le_trans hsz (by simp)) (fun k hk=>(HO1.out.lt k hk).1));have HKP2:=aa ((HKP.out.alloc _).grown (World.ownsRow.alloc HO1.out _) hgrow);clear hown' hgrow)
    refine⟨⟨j+1,HM.out.1,by rw[HM.out.2];rfl,?_,HG.out,Nat.le_trans hb HG.out.size,HKP2.out⟩,by decide⟩
    rw[HT.out,←List.append_assoc]
    refine Eq.mp (congrArg (fun u=>w1.ownsRow base 5 1 v' (n+j+1) (xs++dz (List.take j (be k N))++[u])) ?_) HO2.out
    unfold aM
    rw[show(256:Nat)^5=1099511627776 from rfl]
    first|(congr 1;done)|(congr 1;omega)
   ·go_wp2_with (at_builtin;refine wpList_append_own _ rfl _ _ 43 rfl base 5 i0 (.int .u8 0) 1 1 Tryz.underlying43 hi hz0 hz1 hz2 rfl (by decide) _ _ _ rfl (World.ownsRow.alloc HO1.out _) ⟨wr.heap.size,0,none⟩ 1 1 [_] rfl rfl (cell_one_new _ _ _) (by simp[Value.oneCell']) (by unfold maxLen;omega) (by omega) (by simp;omega) ?_;intro v' w1 hown' hgrow _;have HO2:=aa hown';have HG:=aa ((HB.out.alloc hsz _).grown hgrow (Nat.le_trans hsz (by simp)) (fun k hk=>(HO1.out.lt k hk).1));have HKP2:=aa ((HKP.out.alloc _).grown (World.ownsRow.alloc HO1.out _) hgrow);clear hown' hgrow)
    refine⟨⟨j+1,HM.out.1,by rw[HM.out.2];rfl,?_,HG.out,Nat.le_trans hb HG.out.size,HKP2.out⟩,by decide⟩
    rw[HT.out,←List.append_assoc]
    refine Eq.mp (congrArg (fun u=>w1.ownsRow base 5 1 v' (n+j+1) (xs++dz (List.take j (be k N))++[u])) ?_) HO2.out
    unfold aM
    rw[show(256:Nat)^6=281474976710656 from rfl]
    first|(congr 1;done)|(congr 1;omega)
   ·go_wp2_with (at_builtin;refine wpList_append_own _ rfl _ _ 43 rfl base 5 i0 (.int .u8 0) 1 1 Tryz.underlying43 hi hz0 hz1 hz2 rfl (by decide) _ _ _ rfl (World.ownsRow.alloc HO1.out _) ⟨wr.heap.size,0,none⟩ 1 1 [_] rfl rfl (cell_one_new _ _ _) (by simp[Value.oneCell']) (by unfold maxLen;omega) (by omega) (by simp;omega) ?_;intro v' w1 hown' hgrow _;have HO2:=aa hown';have HG:=aa ((HB.out.alloc hsz _).grown hgrow (Nat.le_trans hsz (by simp)) (fun k hk=>(HO1.out.lt k hk).1));have HKP2:=aa ((HKP.out.alloc _).grown (World.ownsRow.alloc HO1.out _) hgrow);clear hown' hgrow)
    refine⟨⟨j+1,HM.out.1,by rw[HM.out.2];rfl,?_,HG.out,Nat.le_trans hb HG.out.size,HKP2.out⟩,by decide⟩
    rw[HT.out,←List.append_assoc]
    refine Eq.mp (congrArg (fun u=>w1.ownsRow base 5 1 v' (n+j+1) (xs++dz (List.take j (be k N))++[u])) ?_) HO2.out
    unfold aM
    rw[show(256:Nat)^7=72057594037927936 from rfl]
    first|(congr 1;done)|(congr 1;omega)
  ·obtain rfl:j=k:=by omega
   rw[show(j:Int)-1-(j:Int)= -1 by omega]
   have HF:=HO1.out
   rw[Dp] at HF
   have HF2:=aa HF
   clear HF
   go_wp2
   go_ret
   exact⟨_,rfl,HF2.out,HB.out,HKP.out⟩
theorem jZ {W:World} {base:Nat} {e:TypeId} {s:Nat} {v:Value} {n n':Nat} {xs xs':List Value} (ho:W.ownsRow base e s v n xs) (hn:n=n') (hx:xs=xs'):W.ownsRow base e s v n' xs':=by
 subst hn hx
 exact ho
theorem fH (w:World) (l:List Value) (t:TypeId): ∀j u,l[j]? =some u→(w.alloc (.cells l.toArray t)).cell? ((⟨w.heap.size,0,none⟩:Addr).add j)=some u:=by
 intro j u hu
 exact World.news_of_block (cs:=l.toArray) ((MapKept.heap_alloc w _).1) j u (by simpa using hu)
theorem dj (w:World) (o:Obj) (v:Value) (t:TypeId): ∀j u,[v][j]? =some u→((w.alloc o).alloc (.cells #[v] t)).cell? ((⟨w.heap.size+1,0,none⟩:Addr).add j)=some u:=by
 have:=cell_one_new (w.alloc o) v t
 rw[show(w.alloc o).heap.size=w.heap.size+1 by simp] at this
 exact this
theorem Ct (ys:List Nat): ∀u∈dz ys,u.oneCell'=true:=by
 intro u hu
 simp only[dz,List.mem_map] at hu
 obtain⟨x,_,rfl⟩:=hu
 rfl
theorem sE (a b:List Nat):dz (a++b)=dz a++dz b:=by simp[dz]
theorem r8 (a:List Nat):(dz a).length=a.length:=by simp[dz]
theorem xM (w:World) (base:Nat) (v:Value) (n:Nat) (xs:List Value) (hn:n<900000) (h:w.ownsRow base 5 1 v n xs) (hb:base≤w.heap.size) (a:Option Addr) (ca:Nat) (p dr:Nat) (hp:p<256) (hdr:dr<18446744073709551616):
  Calls Tryz.prog 22 #[v,.agg #[.int .i64 1,.int .i64 (p:Int),.int .u64 (dr:Int),.int .i64 0,.slice a 0 ca,.int .u64 0,.int .u64 0,.int .i64 0,.int .u8 0,.int .i64 0]] w fun e w'=> ∃v',e= .returned v'∧w'.ownsRow base 5 1 v' (n+(1::p::be 8 dr).length) (xs++dz (1::p::be 8 dr))∧Below base w w':=by
 obtain⟨i0,hi,hz0,hz1,hz2⟩:=info_parts fs
 have HO:=aa h
 have HG0:Hid (∀(o:Obj) (w1:World),((w.alloc (.cells #[.int .i64 1,.int .i64 (p:Int),.int .u64 (dr:Int),.int .i64 0,.slice a 0 ca,.int .u64 0,.int .u64 0,.int .i64 0,.int .u8 0,.int .i64 0] 51)).alloc o).grownBy w1 v.ownBlock→Bx w1 w.heap.size #[.int .i64 1,.int .i64 (p:Int),.int .u64 (dr:Int),.int .i64 0,.slice a 0 ca,.int .u64 0,.int .u64 0,.int .i64 0,.int .u8 0,.int .i64 0] 51∧Below base w w1∧base≤w1.heap.size):=by
  intro o w1 hg
  have hB:Below base w w1:=(((Below.refl base w).alloc hb (.cells #[.int .i64 1,.int .i64 (p:Int),.int .u64 (dr:Int),.int .i64 0,.slice a 0 ca,.int .u64 0,.int .u64 0,.int .i64 0,.int .u8 0,.int .i64 0] 51)).alloc (by simp;omega) o).grown hg (by simp;omega) (fun k hk=>(h.lt k hk).1)
  exact⟨((gP w #[.int .i64 1,.int .i64 (p:Int),.int .u64 (dr:Int),.int .i64 0,.slice a 0 ca,.int .u64 0,.int .u64 0,.int .i64 0,.int .u8 0,.int .i64 0] 51).alloc o).grown hg (mO h),hB,Nat.le_trans hb hB.size⟩
 clear h
 have HT:Hid (∀W v' xs',W.ownsRow base 5 1 v' (n+1+1) xs'→base≤W.heap.size→Calls Tryz.prog 43 #[v',.int .u64 (dr:Int),.int .i64 8] W fun e w'=> ∃v2,e= .returned v2∧w'.ownsRow base 5 1 v2 (n+1+1+8) (xs'++dz (be 8 dr))∧Below base W w'∧fe W w'):=fun W v' xs' hh hs=>jT W base v' _ xs' (by omega) hh hs dr hdr 8 (by omega)
 go_enter Tryz.func22,Tryz.ntmps22
 go_wp2_with (first
  |(go_at_call 43;refine(HT.out _ _ _ HO2.out hs2).mono ?_;rintro e w3 ⟨v3,rfl,ho3,hl3,hkp3⟩;have HO3:=aa ho3;have HL3:=aa (HL2.out.trans hl3);clear ho3 hl3 hkp3)
  |(at_builtin;refine wpList_append_own _ rfl _ _ 43 rfl base 5 i0 (.int .u8 0) 1 1 Tryz.underlying43 hi hz0 hz1 hz2 rfl (by decide) _ _ _ rfl (World.ownsRow.alloc HO1.out _) ⟨w1.heap.size,0,none⟩ 1 1 [_] rfl rfl (cell_one_new _ _ _) (by simp[Value.oneCell']) (by unfold maxLen;omega) (by omega) (by simp;omega) ?_;intro v2 w2 ho2 hg2 _;have HO2:=aa ho2;have HX2:=aa ((HX1.out.alloc _).grown hg2 (sj HO1.out HX1.out (by decide)));have HL2:=aa ((HL1.out.alloc hs1 _).grown hg2 (by simp;omega) (fun k hk=>(HO1.out.lt k hk).1));have hs2:=Nat.le_trans hb HL2.out.size;have y22:=HX2.out.cell 2 _ rfl;clear ho2 hg2)
  |(at_builtin;refine wpList_append_own _ rfl _ _ 43 rfl base 5 i0 (.int .u8 0) 1 1 Tryz.underlying43 hi hz0 hz1 hz2 rfl (by decide) _ _ _ rfl (World.ownsRow.alloc (World.ownsRow.alloc HO.out _) _) ⟨w.heap.size+1,0,none⟩ 1 1 [_] rfl rfl (dj _ _ _ _) (by simp[Value.oneCell']) (by unfold maxLen;omega) (by omega) (by simp;omega) ?_;intro v1 w1 ho1 hg1 _;have HO1:=aa ho1;obtain⟨hx1,hl1,hs1⟩:=HG0.out _ _ hg1;have HX1:=aa hx1;have HL1:=aa hl1;have y01:=HX1.out.cell 0 _ rfl;have y11:=HX1.out.cell 1 _ rfl;clear ho1 hg1 hx1 hl1))
 go_ret
 refine⟨_,rfl,jZ HO3.out (by simp[bV]) ?_,HL3.out⟩
 simp[dz]
theorem xu (w:World) (base:Nat) (v:Value) (n:Nat) (xs:List Value) (hn:n<900000) (h:w.ownsRow base 5 1 v n xs) (hb:base≤w.heap.size) (a:Option Addr) (ca:Nat) (k:Nat) (hk:k<65536):
  Calls Tryz.prog 22 #[v,.agg #[.int .i64 2,.int .i64 0,.int .u64 0,.int .i64 (k:Int),.slice a 0 ca,.int .u64 0,.int .u64 0,.int .i64 0,.int .u8 0,.int .i64 0]] w fun e w'=> ∃v',e= .returned v'∧w'.ownsRow base 5 1 v' (n+(2::be 2 k).length) (xs++dz (2::be 2 k))∧Below base w w':=by
 obtain⟨i0,hi,hz0,hz1,hz2⟩:=info_parts fs
 have HO:=aa h
 have HG0:Hid (∀(o:Obj) (w1:World),((w.alloc (.cells #[.int .i64 2,.int .i64 0,.int .u64 0,.int .i64 (k:Int),.slice a 0 ca,.int .u64 0,.int .u64 0,.int .i64 0,.int .u8 0,.int .i64 0] 51)).alloc o).grownBy w1 v.ownBlock→Bx w1 w.heap.size #[.int .i64 2,.int .i64 0,.int .u64 0,.int .i64 (k:Int),.slice a 0 ca,.int .u64 0,.int .u64 0,.int .i64 0,.int .u8 0,.int .i64 0] 51∧Below base w w1∧base≤w1.heap.size):=by
  intro o w1 hg
  have hB:Below base w w1:=(((Below.refl base w).alloc hb (.cells #[.int .i64 2,.int .i64 0,.int .u64 0,.int .i64 (k:Int),.slice a 0 ca,.int .u64 0,.int .u64 0,.int .i64 0,.int .u8 0,.int .i64 0] 51)).alloc (by simp;omega) o).grown hg (by simp;omega) (fun k hk=>(h.lt k hk).1)
  exact⟨((gP w #[.int .i64 2,.int .i64 0,.int .u64 0,.int .i64 (k:Int),.slice a 0 ca,.int .u64 0,.int .u64 0,.int .i64 0,.int .u8 0,.int .i64 0] 51).alloc o).grown hg (mO h),hB,Nat.le_trans hb hB.size⟩
 clear h
 have HT:Hid (∀W v' xs',W.ownsRow base 5 1 v' (n+1) xs'→base≤W.heap.size→Calls Tryz.prog 43 #[v',.int .u64 (k:Int),.int .i64 2] W fun e w'=> ∃v2,e= .returned v2∧w'.ownsRow base 5 1 v2 (n+1+2) (xs'++dz (be 2 k))∧Below base W w'∧fe W w'):=fun W v' xs' hh hs=>jT W base v' _ xs' (by omega) hh hs k (by omega) 2 (by omega)
 go_enter Tryz.func22,Tryz.ntmps22
 go_wp2_with (first
  |(go_at_call 43;refine(HT.out _ _ _ HO1.out hs1).mono ?_;rintro e w3 ⟨v3,rfl,ho3,hl3,hkp3⟩;have HO3:=aa ho3;have HL3:=aa (HL1.out.trans hl3);clear ho3 hl3 hkp3)
  |(at_builtin;refine wpList_append_own _ rfl _ _ 43 rfl base 5 i0 (.int .u8 0) 1 1 Tryz.underlying43 hi hz0 hz1 hz2 rfl (by decide) _ _ _ rfl (World.ownsRow.alloc (World.ownsRow.alloc HO.out _) _) ⟨w.heap.size+1,0,none⟩ 1 1 [_] rfl rfl (dj _ _ _ _) (by simp[Value.oneCell']) (by unfold maxLen;omega) (by omega) (by simp;omega) ?_;intro v1 w1 ho1 hg1 _;have HO1:=aa ho1;obtain⟨hx1,hl1,hs1⟩:=HG0.out _ _ hg1;have HX1:=aa hx1;have HL1:=aa hl1;have y01:=HX1.out.cell 0 _ rfl;have y31:=HX1.out.cell 3 _ rfl;clear ho1 hg1 hx1 hl1))
 go_ret
 refine⟨_,rfl,jZ HO3.out (by simp[bV]) ?_,HL3.out⟩
 simp[dz]
theorem zS (w:World) (base:Nat) (v:Value) (n:Nat) (xs:List Value) (hn:n<900000) (h:w.ownsRow base 5 1 v n xs) (hb:base≤w.heap.size) (a:Option Addr) (ca:Nat) (code:List (Int×Int)) (hr:rK code) (hc: ∀W,Below base w W→lE W a code):
  Calls Tryz.prog 22 #[v,.agg #[.int .i64 3,.int .i64 0,.int .u64 0,.int .i64 0,.slice a code.length ca,.int .u64 0,.int .u64 0,.int .i64 0,.int .u8 0,.int .i64 0]] w fun e w'=> ∃v',e= .returned v'∧w'.ownsRow base 5 1 v' (n+(3::gE code).length) (xs++dz (3::gE code))∧Below base w w':=by
 obtain⟨i0,hi,hz0,hz1,hz2⟩:=info_parts fs
 have HO:=aa h
 have HG0:Hid (∀(o:Obj) (w1:World),((w.alloc (.cells #[.int .i64 3,.int .i64 0,.int .u64 0,.int .i64 0,.slice a code.length ca,.int .u64 0,.int .u64 0,.int .i64 0,.int .u8 0,.int .i64 0] 51)).alloc o).grownBy w1 v.ownBlock→Bx w1 w.heap.size #[.int .i64 3,.int .i64 0,.int .u64 0,.int .i64 0,.slice a code.length ca,.int .u64 0,.int .u64 0,.int .i64 0,.int .u8 0,.int .i64 0] 51∧Below base w w1∧base≤w1.heap.size):=by
  intro o w1 hg
  have hB:Below base w w1:=(((Below.refl base w).alloc hb (.cells #[.int .i64 3,.int .i64 0,.int .u64 0,.int .i64 0,.slice a code.length ca,.int .u64 0,.int .u64 0,.int .i64 0,.int .u8 0,.int .i64 0] 51)).alloc (by simp;omega) o).grown hg (by simp;omega) (fun k hk=>(h.lt k hk).1)
  exact⟨((gP w #[.int .i64 3,.int .i64 0,.int .u64 0,.int .i64 0,.slice a code.length ca,.int .u64 0,.int .u64 0,.int .i64 0,.int .u8 0,.int .i64 0] 51).alloc o).grown hg (mO h),hB,Nat.le_trans hb hB.size⟩
 clear h
 have hlen:=(du hr).2.1
 have HE:Hid (∀W,Below base w W→Calls Tryz.prog 44 #[.slice a code.length ca] W fun e w'=> ∃g cap,e= .returned (.tuple #[.slice (some ⟨g,0,none⟩) (1+4*code.length) cap,.int .i64 0])∧(∀j u,(dz (gE code))[j]? =some u→w'.cell? ((⟨g,0,none⟩:Addr).add j)=some u)∧Below W.heap.size W w'):=by
  intro W hbW
  refine(rO W a code.length ca (by omega) (cO code) (cR code) (hc W hbW) hr).mono fun e w' hh=> ?_
  obtain⟨v',he,hrow,hbel⟩:=hh
  rw[nC _ (fun i hi=>by have:=(du hr).2.2 i hi;omega)] at hrow
  rcases hrow.2 with ⟨_,h0⟩|⟨g,cap,cur,rfl,_⟩
  ·omega
  ·exact⟨g,cap,he,hrow.cells rfl,hbel⟩
 have HLE:Hid ((dz (gE code)).length=(1+4*code.length)*1):=by
  show _=_
  rw[r8,dS]
  omega
 clear hc
 go_enter Tryz.func22,Tryz.ntmps22
 go_wp2_with (first
  |(at_builtin;refine wpList_append_own _ rfl _ _ 43 rfl base 5 i0 (.int .u8 0) 1 1 Tryz.underlying43 hi hz0 hz1 hz2 rfl (by decide) _ _ _ rfl (HO2.out) ⟨g,0,none⟩ (1+4*code.length) cap (dz (gE code)) rfl HLE.out HN2.out (Ct _) (by unfold maxLen;omega) (by omega) (hs2) ?_;intro v3 w3 ho3 hg3 _;have HO3:=aa ho3;have HL3:=aa (HL2.out.grown hg3 hs2 (fun k hk=>(HO2.out.lt k hk).1));clear ho3 hg3)
  |(go_at_call 44;refine(HE.out _ HL1.out).mono ?_;rintro e w2 ⟨g,cap,rfl,hn2,hl2⟩;have HN2:=aa hn2;have HL2:=aa (HL1.out.trans (hl2.mono hs1));have hs2:=Nat.le_trans hb HL2.out.size;have HO2:=aa (eN HO1.out hl2);clear hn2 hl2)
  |(at_builtin;refine wpList_append_own _ rfl _ _ 43 rfl base 5 i0 (.int .u8 0) 1 1 Tryz.underlying43 hi hz0 hz1 hz2 rfl (by decide) _ _ _ rfl (World.ownsRow.alloc (World.ownsRow.alloc HO.out _) _) ⟨w.heap.size+1,0,none⟩ 1 1 [_] rfl rfl (dj _ _ _ _) (by simp[Value.oneCell']) (by unfold maxLen;omega) (by omega) (by simp;omega) ?_;intro v1 w1 ho1 hg1 _;have HO1:=aa ho1;obtain⟨hx1,hl1,hs1⟩:=HG0.out _ _ hg1;have HX1:=aa hx1;have HL1:=aa hl1;have y01:=HX1.out.cell 0 _ rfl;have y41:=HX1.out.cell 4 _ rfl;clear ho1 hg1 hx1 hl1))
 go_ret
 refine⟨_,rfl,jZ HO3.out (by simp[dS];omega) ?_,HL3.out⟩
 simp[dz]
theorem xA (w:World) (base:Nat) (v:Value) (n:Nat) (xs:List Value) (hn:n<900000) (h:w.ownsRow base 5 1 v n xs) (hb:base≤w.heap.size) (a:Option Addr) (ca:Nat) (bu pe:Nat) (hbu:bu<18446744073709551616) (hpe:pe<18446744073709551616):
  Calls Tryz.prog 22 #[v,.agg #[.int .i64 4,.int .i64 0,.int .u64 0,.int .i64 0,.slice a 0 ca,.int .u64 (bu:Int),.int .u64 (pe:Int),.int .i64 0,.int .u8 0,.int .i64 0]] w fun e w'=> ∃v',e= .returned v'∧w'.ownsRow base 5 1 v' (n+(4::(be 8 bu++be 8 pe)).length) (xs++dz (4::(be 8 bu++be 8 pe)))∧Below base w w':=by
 obtain⟨i0,hi,hz0,hz1,hz2⟩:=info_parts fs
 have HO:=aa h
 have HG0:Hid (∀(o:Obj) (w1:World),((w.alloc (.cells #[.int .i64 4,.int .i64 0,.int .u64 0,.int .i64 0,.slice a 0 ca,.int .u64 (bu:Int),.int .u64 (pe:Int),.int .i64 0,.int .u8 0,.int .i64 0] 51)).alloc o).grownBy w1 v.ownBlock→Bx w1 w.heap.size #[.int .i64 4,.int .i64 0,.int .u64 0,.int .i64 0,.slice a 0 ca,.int .u64 (bu:Int),.int .u64 (pe:Int),.int .i64 0,.int .u8 0,.int .i64 0] 51∧Below base w w1∧base≤w1.heap.size):=by
  intro o w1 hg
  have hB:Below base w w1:=(((Below.refl base w).alloc hb (.cells #[.int .i64 4,.int .i64 0,.int .u64 0,.int .i64 0,.slice a 0 ca,.int .u64 (bu:Int),.int .u64 (pe:Int),.int .i64 0,.int .u8 0,.int .i64 0] 51)).alloc (by simp;omega) o).grown hg (by simp;omega) (fun k hk=>(h.lt k hk).1)
  exact⟨((gP w #[.int .i64 4,.int .i64 0,.int .u64 0,.int .i64 0,.slice a 0 ca,.int .u64 (bu:Int),.int .u64 (pe:Int),.int .i64 0,.int .u8 0,.int .i64 0] 51).alloc o).grown hg (mO h),hB,Nat.le_trans hb hB.size⟩
 clear h
 have HT:Hid (∀W v' xs',W.ownsRow base 5 1 v' (n+1) xs'→base≤W.heap.size→Calls Tryz.prog 43 #[v',.int .u64 (bu:Int),.int .i64 8] W fun e w'=> ∃v2,e= .returned v2∧w'.ownsRow base 5 1 v2 (n+1+8) (xs'++dz (be 8 bu))∧Below base W w'∧fe W w'):=fun W v' xs' hh hs=>jT W base v' _ xs' (by omega) hh hs bu hbu 8 (by omega)
 have HU:Hid (∀W v' xs',W.ownsRow base 5 1 v' (n+1+8) xs'→base≤W.heap.size→Calls Tryz.prog 43 #[v',.int .u64 (pe:Int),.int .i64 8] W fun e w'=> ∃v2,e= .returned v2∧w'.ownsRow base 5 1 v2 (n+1+8+8) (xs'++dz (be 8 pe))∧Below base W w'∧fe W w'):=fun W v' xs' hh hs=>jT W base v' _ xs' (by omega) hh hs pe hpe 8 (by omega)
 go_enter Tryz.func22,Tryz.ntmps22
 go_wp2_with (first
  |(go_at_call 43;refine(HU.out _ _ _ HO2.out hs2).mono ?_;rintro e w3 ⟨v3,rfl,ho3,hl3,hkp3⟩;have HO3:=aa ho3;have HL3:=aa (HL2.out.trans hl3);clear ho3 hl3 hkp3)
  |(go_at_call 43;refine(HT.out _ _ _ HO1.out hs1).mono ?_;rintro e w2 ⟨v2,rfl,ho2,hl2,hkp2⟩;have HO2:=aa ho2;have HL2:=aa (HL1.out.trans hl2);have hs2:=Nat.le_trans hb HL2.out.size;have y62:=(hkp2 _ _ _ (by decide) HX1.out).cell 6 _ rfl;clear ho2 hl2 hkp2 HT)
  |(at_builtin;refine wpList_append_own _ rfl _ _ 43 rfl base 5 i0 (.int .u8 0) 1 1 Tryz.underlying43 hi hz0 hz1 hz2 rfl (by decide) _ _ _ rfl (World.ownsRow.alloc (World.ownsRow.alloc HO.out _) _) ⟨w.heap.size+1,0,none⟩ 1 1 [_] rfl rfl (dj _ _ _ _) (by simp[Value.oneCell']) (by unfold maxLen;omega) (by omega) (by simp;omega) ?_;intro v1 w1 ho1 hg1 _;have HO1:=aa ho1;obtain⟨hx1,hl1,hs1⟩:=HG0.out _ _ hg1;have HX1:=aa hx1;have HL1:=aa hl1;have y01:=HX1.out.cell 0 _ rfl;have y51:=HX1.out.cell 5 _ rfl;have y61:=HX1.out.cell 6 _ rfl;clear ho1 hg1 hx1 hl1))
 go_ret
 refine⟨_,rfl,jZ HO3.out (by simp[bV]) ?_,HL3.out⟩
 simp[dz]
theorem yv (w:World) (base:Nat) (v:Value) (n:Nat) (xs:List Value) (hn:n<900000) (h:w.ownsRow base 5 1 v n xs) (hb:base≤w.heap.size) (a:Option Addr) (ca:Nat) (pr lv s:Nat) (hpr:pr<256) (hlv:lv<256) (hs:s<256):
  Calls Tryz.prog 22 #[v,.agg #[.int .i64 5,.int .i64 0,.int .u64 0,.int .i64 0,.slice a 0 ca,.int .u64 0,.int .u64 0,.int .i64 (pr:Int),.int .u8 (lv:Int),.int .i64 ((s:Int)-1)]] w fun e w'=> ∃v',e= .returned v'∧w'.ownsRow base 5 1 v' (n+([5,pr,lv,s]).length) (xs++dz ([5,pr,lv,s]))∧Below base w w':=by
 obtain⟨i0,hi,hz0,hz1,hz2⟩:=info_parts fs
 have HO:=aa h
 have HG0:Hid (∀(o:Obj) (w1:World),((w.alloc (.cells #[.int .i64 5,.int .i64 0,.int .u64 0,.int .i64 0,.slice a 0 ca,.int .u64 0,.int .u64 0,.int .i64 (pr:Int),.int .u8 (lv:Int),.int .i64 ((s:Int)-1)] 51)).alloc o).grownBy w1 v.ownBlock→Bx w1 w.heap.size #[.int .i64 5,.int .i64 0,.int .u64 0,.int .i64 0,.slice a 0 ca,.int .u64 0,.int .u64 0,.int .i64 (pr:Int),.int .u8 (lv:Int),.int .i64 ((s:Int)-1)] 51∧Below base w w1∧base≤w1.heap.size):=by
  intro o w1 hg
  have hB:Below base w w1:=(((Below.refl base w).alloc hb (.cells #[.int .i64 5,.int .i64 0,.int .u64 0,.int .i64 0,.slice a 0 ca,.int .u64 0,.int .u64 0,.int .i64 (pr:Int),.int .u8 (lv:Int),.int .i64 ((s:Int)-1)] 51)).alloc (by simp;omega) o).grown hg (by simp;omega) (fun k hk=>(h.lt k hk).1)
  exact⟨((gP w #[.int .i64 5,.int .i64 0,.int .u64 0,.int .i64 0,.slice a 0 ca,.int .u64 0,.int .u64 0,.int .i64 (pr:Int),.int .u8 (lv:Int),.int .i64 ((s:Int)-1)] 51).alloc o).grown hg (mO h),hB,Nat.le_trans hb hB.size⟩
 clear h
 go_enter Tryz.func22,Tryz.ntmps22
 go_wp2_with (first
  |(at_builtin;refine wpList_append_own _ rfl _ _ 43 rfl base 5 i0 (.int .u8 0) 1 1 Tryz.underlying43 hi hz0 hz1 hz2 rfl (by decide) _ _ _ rfl (World.ownsRow.alloc HO1.out _) ⟨w1.heap.size,0,none⟩ 3 3 [.int .u8 (pr:Int),.int .u8 (lv:Int),.int .u8 (s:Int)] rfl rfl (fH _ [.int .u8 (pr:Int),.int .u8 (lv:Int),.int .u8 (s:Int)] _) (by simp[Value.oneCell']) (by unfold maxLen;omega) (by omega) (by simp;omega) ?_;intro v2 w2 ho2 hg2 _;have HO2:=aa ho2;have HL2:=aa ((HL1.out.alloc hs1 _).grown hg2 (by simp;omega) (fun k hk=>(HO1.out.lt k hk).1));clear ho2 hg2)
  |(at_builtin;refine wpList_append_own _ rfl _ _ 43 rfl base 5 i0 (.int .u8 0) 1 1 Tryz.underlying43 hi hz0 hz1 hz2 rfl (by decide) _ _ _ rfl (World.ownsRow.alloc (World.ownsRow.alloc HO.out _) _) ⟨w.heap.size+1,0,none⟩ 1 1 [_] rfl rfl (dj _ _ _ _) (by simp[Value.oneCell']) (by unfold maxLen;omega) (by omega) (by simp;omega) ?_;intro v1 w1 ho1 hg1 _;have HO1:=aa ho1;obtain⟨hx1,hl1,hs1⟩:=HG0.out _ _ hg1;have HX1:=aa hx1;have HL1:=aa hl1;have y01:=HX1.out.cell 0 _ rfl;have y71:=HX1.out.cell 7 _ rfl;have y81:=HX1.out.cell 8 _ rfl;have y91:=HX1.out.cell 9 _ rfl;clear ho1 hg1 hx1 hl1))
 go_ret
 refine⟨_,rfl,jZ HO2.out (by simp) ?_,HL2.out⟩
 simp[dz]
theorem AV (w:World) (base:Nat) (v:Value) (n:Nat) (xs:List Value) (hn:n<900000) (h:w.ownsRow base 5 1 v n xs) (hb:base≤w.heap.size) (x:En) (a:Option Addr) (ca:Nat) (hr:aU x) (hw:pV x) (hc: ∀W,Below base w W→lE W a x.code):
  Calls Tryz.prog 22 #[v,.agg #[.int .i64 x.d,.int .i64 x.p,.int .u64 (x.dr:Int),.int .i64 x.n,.slice a x.code.length ca,.int .u64 (x.bu:Int),.int .u64 (x.pe:Int),.int .i64 x.pr,.int .u8 (x.lv:Int),.int .i64 x.sv]] w fun e w'=> ∃v',e= .returned v'∧w'.ownsRow base 5 1 v' (n+(bytes x).length) (xs++dz (bytes x))∧Below base w w':=by
 obtain⟨w1,w2,w3,w4⟩:=hw
 obtain⟨d,p,dr,nn,code,bu,pe,pr,lv,sv⟩:=x
 simp only at w1 w2 w3 w4 hc
 rcases hr with ⟨e,h1,h2⟩|⟨e,h1,h2⟩|⟨e,h1⟩|e|⟨e,h1,h2,h3,h4⟩
 ·simp only[bo,En.mk.injEq] at e h1 h2
  obtain⟨rfl,-,-,rfl,rfl,rfl,rfl,rfl,rfl,rfl⟩:=e
  obtain⟨p,rfl⟩:=Int.eq_ofNat_of_zero_le h1
  exact xM w base v n xs hn h hb a ca p dr (by omega) w1
 ·simp only[cW,En.mk.injEq] at e h1 h2
  obtain⟨rfl,rfl,rfl,-,rfl,rfl,rfl,rfl,rfl,rfl⟩:=e
  obtain⟨k,rfl⟩:=Int.eq_ofNat_of_zero_le (show 0≤nn by omega)
  exact xu w base v n xs hn h hb a ca k (by omega)
 ·simp only[ck,En.mk.injEq] at e h1
  obtain⟨rfl,rfl,rfl,rfl,-,rfl,rfl,rfl,rfl,rfl⟩:=e
  exact zS w base v n xs hn h hb a ca code h1 hc
 ·simp only[cI,En.mk.injEq] at e
  obtain⟨rfl,rfl,rfl,rfl,rfl,-,-,rfl,rfl,rfl⟩:=e
  exact xA w base v n xs hn h hb a ca bu pe w2 w3
 ·simp only[cg,En.mk.injEq] at e h1 h2 h3 h4
  obtain⟨rfl,rfl,rfl,rfl,rfl,rfl,rfl,-,-,-⟩:=e
  obtain⟨pr,rfl⟩:=Int.eq_ofNat_of_zero_le h1
  obtain⟨s,hs⟩: ∃s:Nat,sv=(s:Int)-1:=⟨(sv+1).toNat,by omega⟩
  subst hs
  have q:=yv w base v n xs hn h hb a ca pr lv s (by omega) w4 (by omega)
  have e:bytes ⟨5,0,0,0,[],0,0,(pr:Int),lv,(s:Int)-1⟩=[5,pr,lv,s]:=by
   show [5,((pr:Int)).toNat,lv,((s:Int)-1+1).toNat]=_
   rw[Int.toNat_natCast,show((s:Int)-1+1).toNat=s by omega]
  rw[e]
  exact q
structure BP (w:World) (lb o:Nat) (x:En) (ca:Option Addr) (cc:Nat):Prop where
 c0:w.cell? ⟨lb,o,none⟩=some (.int .i64 x.d)
 c1:w.cell? ⟨lb,o+1,none⟩=some (.int .i64 x.p)
 c2:w.cell? ⟨lb,o+2,none⟩=some (.int .u64 (x.dr:Int))
 c3:w.cell? ⟨lb,o+3,none⟩=some (.int .i64 x.n)
 c4:w.cell? ⟨lb,o+4,none⟩=some (.slice ca x.code.length cc)
 c5:w.cell? ⟨lb,o+5,none⟩=some (.int .u64 (x.bu:Int))
 c6:w.cell? ⟨lb,o+6,none⟩=some (.int .u64 (x.pe:Int))
 c7:w.cell? ⟨lb,o+7,none⟩=some (.int .i64 x.pr)
 c8:w.cell? ⟨lb,o+8,none⟩=some (.int .u8 (x.lv:Int))
 c9:w.cell? ⟨lb,o+9,none⟩=some (.int .i64 x.sv)
 qC:lE w ca x.code
 len:x.code.length<9223372036854775808
 cap:x.code.length≤64∨(x.code.length≤cc∧cc<9223372036854775808)
 wf:pV x
theorem BP.below {w w':World} {lb o:Nat} {x:En} {ca:Option Addr} {cc:Nat} (h:BP w lb o x ca cc) (hl:lb<w.heap.size) (hb:Below w.heap.size w w'):BP w' lb o x ca cc where
 c0:=(hb.cell (p:=⟨lb,o,none⟩) hl).trans h.c0
 c1:=(hb.cell (p:=⟨lb,o+1,none⟩) hl).trans h.c1
 c2:=(hb.cell (p:=⟨lb,o+2,none⟩) hl).trans h.c2
 c3:=(hb.cell (p:=⟨lb,o+3,none⟩) hl).trans h.c3
 c4:=(hb.cell (p:=⟨lb,o+4,none⟩) hl).trans h.c4
 c5:=(hb.cell (p:=⟨lb,o+5,none⟩) hl).trans h.c5
 c6:=(hb.cell (p:=⟨lb,o+6,none⟩) hl).trans h.c6
 c7:=(hb.cell (p:=⟨lb,o+7,none⟩) hl).trans h.c7
 c8:=(hb.cell (p:=⟨lb,o+8,none⟩) hl).trans h.c8
 c9:=(hb.cell (p:=⟨lb,o+9,none⟩) hl).trans h.c9
 qC:=h.qC.below hb
 len:=h.len
 cap:=h.cap
 wf:=h.wf
def F1 (w:World) (a:Option Addr) (L:List En):Prop:=
 L=[]∨ ∃lb off,a=some ⟨lb,off,none⟩∧lb<w.heap.size∧ ∀j x,L[j]? =some x→ ∃ca cc,BP w lb (off+j*10) x ca cc
theorem rS: ∀(L:List En),(∀x∈L,aU x)→(all L).length≤258*L.length
 |[],_=>by simp[all]
 |x::L,h=>by
  have h1:=ze (h x (by simp))
  have h2:=rS L (fun y hy=>h y (by simp[hy]))
  rw[all_cons,List.length_append,List.length_cons]
  omega
theorem take_one {L:List En} {j:Nat} {x:En} (h:L[j]? =some x):L.take (j+1)=L.take j++[x]:=by
 rw[List.take_add_one,h]
 rfl
def Ea (w:World) (L:List En) (e:Ending) (w':World):Prop:=
 Below w.heap.size w w'∧(((∀x∈L,aU x)∧ ∃v,e= .returned (.tuple #[v,.int .i64 0])∧w'.ownsRow w.heap.size 5 1 v (all L).length (dz (all L)))∨((¬ ∀x∈L,aU x)∧e= .returned (.tuple #[.slice none 0 0,.int .i64 3])))
theorem nG (w:World) (x:En) (a:Option Addr) (ca:Nat) (hc:lE w a x.code) (hl:x.code.length<9223372036854775808) (hr:aU x):
  Calls Tryz.prog 21 #[.agg #[.int .i64 x.d,.int .i64 x.p,.int .u64 (x.dr:Int),.int .i64 x.n,.slice a x.code.length ca,.int .u64 (x.bu:Int),.int .u64 (x.pe:Int),.int .i64 x.pr,.int .u8 (x.lv:Int),.int .i64 x.sv]] w fun e w'=>e= .returned (.bool true)∧Below w.heap.size w w':=(oz w x a ca hc hl).mono fun e w' ⟨B,he,hB,hb⟩=>by
 obtain rfl:B=true:=hB.2 hr
 exact⟨he,hb⟩
theorem nY (w:World) (x:En) (a:Option Addr) (ca:Nat) (hc:lE w a x.code) (hl:x.code.length<9223372036854775808) (hr: ¬aU x):
  Calls Tryz.prog 21 #[.agg #[.int .i64 x.d,.int .i64 x.p,.int .u64 (x.dr:Int),.int .i64 x.n,.slice a x.code.length ca,.int .u64 (x.bu:Int),.int .u64 (x.pe:Int),.int .i64 x.pr,.int .u8 (x.lv:Int),.int .i64 x.sv]] w fun e w'=>e= .returned (.bool false)∧Below w.heap.size w w':=(oz w x a ca hc hl).mono fun e w' ⟨B,he,hB,hb⟩=>by
 obtain rfl:B=false:=by
  cases B
  ·rfl
  ·exact absurd (hB.1 rfl) hr
 exact⟨he,hb⟩
theorem Ce (w:World) (a:Option Addr) (L:List En) (cap:Nat) (hL:L.length≤3000) (hE:F1 w a L):
  Calls Tryz.prog 12 #[.slice a L.length cap] w (Ea w L):=by
 have HE:=aa hE
 clear hE
 go_enter Tryz.func12,Tryz.ntmps12
 go_wp2
 go_loopw [4,9] (fun s i wr=> ∃(j:Nat),j≤L.length∧i= .int .i64 j∧(∀x∈L.take j,aU x)∧wr.ownsRow w.heap.size 5 1 s (all (L.take j)).length (dz (all (L.take j)))∧Below w.heap.size w wr) (fun _ i _=>L.length-(intOf i).toNat)
 case atStart=>exact⟨0,by omega,rfl,by simp,World.ownsRow_nil _ _ _ _,Below.refl _ _⟩
 case round=>
  obtain⟨j,hj,rfl,hall,hown,hbel⟩:=hrel
  by_cases hjl:j<L.length
  ·have hjl':(j:Int)<(L.length:Int):=by omega
   obtain⟨x,hx⟩: ∃x,L[j]? =some x:=⟨L[j],List.getElem?_eq_getElem hjl⟩
   rcases HE.out with h0|⟨lb,off,rfl,hlb,hc⟩
   ·subst h0;simp at hjl
   ·obtain⟨ca,cc,he0⟩:=hc j x hx
    have he:=he0.below hlb hbel
    have y0:=he.c0
    have y1:=he.c1
    have y2:=he.c2
    have y3:=he.c3
    have y4:=he.c4
    have y5:=he.c5
    have y6:=he.c6
    have y7:=he.c7
    have y8:=he.c8
    have y9:=he.c9
    have HO:=aa hown
    have HB:=aa hbel
    have hsz:=hbel.size
    have HT:Hid (aU x→ ∀W v' n' xs',n'<900000→W.ownsRow w.heap.size 5 1 v' n' xs'→Below w.heap.size w W→Calls Tryz.prog 22 #[v',.agg #[.int .i64 x.d,.int .i64 x.p,.int .u64 (x.dr:Int),.int .i64 x.n,.slice ca x.code.length cc,.int .u64 (x.bu:Int),.int .u64 (x.pe:Int),.int .i64 x.pr,.int .u8 (x.lv:Int),.int .i64 x.sv]] W fun e w'=> ∃v2,e= .returned v2∧w'.ownsRow w.heap.size 5 1 v2 (n'+(bytes x).length) (xs'++dz (bytes x))∧Below w.heap.size W w'):=
     fun hr W v' n' xs' hn ho hb=>AV W w.heap.size v' n' xs' hn ho hb.size x ca cc hr he.wf (fun W' hb'=>he0.qC.below (hb.trans hb'))
    have HN:Hid ((all (L.take j)).length<900000):=by
     have q:=rS (L.take j) hall
     have q2:(L.take j).length≤j:=by simp;omega
     show _<_
     omega
    have HA:=aa hall
    have HTK:=aa (take_one hx)
    have HX:=aa hx
    by_cases hrt:aU x
    ·have HR:=aa (fun W hb=>nG W x ca cc (he0.qC.below (w':=W) hb) he.len hrt)
     have HTR:=aa (HT.out hrt)
     have HALL:Hid (∀y∈L.take (j+1),aU y):=by
      show∀y∈L.take (j+1),aU y
      rw[HTK.out]
      intro y hy
      rcases List.mem_append.1 hy with hy|hy
      ·exact hall y hy
      ·obtain rfl:y=x:=by simpa using hy
       exact hrt
     clear hown hbel hall he he0 hc hx HT hrt
     go_wp2_with (first
      |(go_at_call 22;refine(HTR.out _ _ _ _ HN.out HO1.out HB1.out).mono ?_;rintro e w2 ⟨v2,rfl,ho2,hb2⟩;have HO2:=aa ho2;have HB2:=aa (HB1.out.trans hb2);clear ho2 hb2)
      |(go_at_call 21;refine(HR.out _ (HB.out.alloc hsz _)).mono ?_;rintro e w1 ⟨rfl,hb⟩;have HB1:=aa ((HB.out.alloc hsz _).trans (hb.mono (by simp;omega)));have HO1:=aa (eN (World.ownsRow.alloc HO.out _) hb);have z0:=aO hb 0 _ rfl;have z1:=aO hb 1 _ rfl;have z2:=aO hb 2 _ rfl;have z3:=aO hb 3 _ rfl;have z4:=aO hb 4 _ rfl;have z5:=aO hb 5 _ rfl;have z6:=aO hb 6 _ rfl;have z7:=aO hb 7 _ rfl;have z8:=aO hb 8 _ rfl;have z9:=aO hb 9 _ rfl;clear hb))
     refine⟨⟨j+1,by omega,by go_num,HALL.out,jZ HO2.out ?_ ?_,HB2.out⟩,by simp[intOf];omega⟩
     ·rw[HTK.out,pS,List.length_append]
     ·rw[HTK.out,pS,sE]
    ·have HR:=aa (fun W hb=>nY W x ca cc (he0.qC.below (w':=W) hb) he.len hrt)
     have HALL:Hid (¬ ∀y∈L,aU y):=fun q=>hrt (q x (List.mem_of_getElem? hx))
     clear hown hbel hall he he0 hc hx HT hrt
     go_wp2_with (go_at_call 21;refine(HR.out _ (HB.out.alloc hsz _)).mono ?_;rintro e w1 ⟨rfl,hb⟩;have HB1:=aa ((HB.out.alloc hsz _).trans (hb.mono (by simp;omega)));clear hb)
     go_ret2
     exact⟨HB1.out,.inr ⟨HALL.out,rfl⟩⟩
  ·have hjl': ¬(j:Int)<(L.length:Int):=by omega
   have hj2:j=L.length:=by omega
   rw[hj2,List.take_length] at hall hown
   have HA:=aa hall
   have HO:=aa hown
   have HB:=aa hbel
   clear hall hown hbel hj2
   go_wp2
   go_ret2
   exact⟨HB.out,.inl ⟨HA.out,_,rfl,HO.out⟩⟩
theorem bC {B:Nat} {w w':World} (h:Below B w w'):Below B w w'.drew:=⟨h.os,h.tape,h.output,h.size,h.block⟩
end Go.Proofs.YtdbailcdlngemaaGreatDoor.Ex
