/- YtdbailcdlngemaaGreatDoorGc: of the texts S1 S2 S3a S3 S3r S4p S4 S4r S4s S5 S6 S7 S7r S8r what is wanted. -/
import Derived.Test.YtdbailcdlngemaaGreatDoorG0
import Derived.Test.YtdbailcdlngemaaGreatDoorGa
import Derived.Deep.DeepCutAuto
import Derived.OrdersHeld
set_option maxHeartbeats 16000000
set_option maxRecDepth 100000
set_option linter.unusedVariables false
set_option linter.unusedSimpArgs false
namespace Go.Proofs.YtdbailcdlngemaaGreatDoor.Ex
open Go.RowKit Go.Lib
def be:Nat→Nat→List Nat
 |0,_=>[]
 |k+1,n=>(n/256^k%256)::be k n
def cG (l:List Nat):Nat:=l.foldl (fun a x=>a*256+x) 0
theorem bw: ∀k n,(be k n).length=k
 |0,_=>rfl
 |k+1,n=>by simp[be,bw k n]
theorem ir: ∀k n,∀y∈be k n,y<256
 |0,_=>by simp[be]
 |k+1,n=>by
  intro y hy
  simp only[be,List.mem_cons] at hy
  rcases hy with rfl|hy
  ·exact Nat.mod_lt _ (by omega)
  ·exact ir k n y hy
theorem qi: ∀k n a,(be k n).foldl (fun a x=>a*256+x) a=a*256^k+n%256^k
 |0,n,a=>by simp[be,Nat.mod_one]
 |k+1,n,a=>by
  simp only[be,List.foldl_cons,qi k n]
  have h1:n%256^(k+1)=256^k*(n/256^k%256)+n%256^k:=by
   rw[Nat.pow_succ,Nat.mod_mul]
   omega
  rw[h1,Nat.pow_succ,Nat.add_mul,Nat.mul_assoc,Nat.mul_comm 256 (256^k),Nat.mul_comm (256^k) (n/256^k%256)]
  omega
theorem lL {k n:Nat} (h:n<256^k):cG (be k n)=n:=by
 unfold cG
 rw[qi,Nat.mod_eq_of_lt h]
 omega
theorem qM: ∀(l:List Nat) (a:Nat),(∀y∈l,y<256)→l.foldl (fun a x=>a*256+x) a<(a+1)*256^l.length
 |[],a,_=>by simp
 |x::l,a,h=>by
  have h1:=h x (by simp)
  have h2:=qM l (a*256+x) (fun y hy=>h y (by simp[hy]))
  simp only[List.foldl_cons,List.length_cons,Nat.pow_succ]
  refine Nat.lt_of_lt_of_le h2 ?_
  rw[Nat.mul_comm (256^l.length) 256,←Nat.mul_assoc]
  exact Nat.mul_le_mul_right _ (by omega)
theorem j4 {l:List Nat} (h: ∀y∈l,y<256):cG l<256^l.length:=by
 have:=qM l 0 h
 simpa [cG] using this
theorem rp: ∀(l:List Nat) (a:Nat),(∀y∈l,y<256)→be l.length (l.foldl (fun a x=>a*256+x) a)=l
 |[],a,_=>rfl
 |x::l,a,h=>by
  have hx:=h x (by simp)
  have hl: ∀y∈l,y<256:=fun y hy=>h y (by simp[hy])
  have h1:=rp l (a*256+x) hl
  simp only[List.foldl_cons,List.length_cons,be]
  rw[h1]
  congr 1
  have h2: ∀(l:List Nat) (b:Nat),(∀y∈l,y<256)→l.foldl (fun a x=>a*256+x) b=b*256^l.length+l.foldl (fun a x=>a*256+x) 0:=by
   intro l
   induction l with
   |nil=>intro b _;simp
   |cons y l ih=>
    intro b hb
    have hb': ∀z∈l,z<256:=fun z hz=>hb z (by simp[hz])
    simp only[List.foldl_cons,List.length_cons,Nat.pow_succ]
    rw[ih (b*256+y) hb',ih (0*256+y) hb']
    rw[Nat.add_mul,Nat.mul_assoc,Nat.mul_comm 256 (256^l.length)]
    simp only[Nat.zero_mul,Nat.zero_add]
    omega
  rw[h2 l (a*256+x) hl]
  have h3:l.foldl (fun a x=>a*256+x) 0<256^l.length:=j4 hl
  rw[Nat.mul_comm,Nat.mul_add_div (Nat.pos_of_ne_zero (by simp)),Nat.div_eq_of_lt h3]
  omega
theorem lO {l:List Nat} {k:Nat} (hk:l.length=k) (h: ∀y∈l,y<256):be k (cG l)=l:=by
 subst hk
 exact rp l 0 h
def cO (c:List (Int×Int)) (i:Nat):Int:=(c.getD i (0,0)).1
def cR (c:List (Int×Int)) (i:Nat):Int:=(c.getD i (0,0)).2
def qg (c:List (Int×Int)):Prop:=Rt c.length (cO c) (cR c)
def gI (c:List (Int×Int)):List Nat:=eV c.length (cO c) (cR c) c.length
def gy (l:List Nat):List (Int×Int):=(List.range (l.getD 0 0)).map (fun i=>(jU (fun j=>l.getD j 0) i,fO (fun j=>l.getD j 0) i))
structure En where
 d:Int
 p:Int
 dr:Nat
 n:Int
 code:List (Int×Int)
 bu:Nat
 pe:Nat
 pr:Int
 lv:Nat
 sv:Int
structure r9 (x:En):Prop where
 dr:x.dr<18446744073709551616
 bu:x.bu<18446744073709551616
 pe:x.pe<18446744073709551616
 lv:x.lv<256
def cM (p:Int) (dr:Nat):En:=⟨1,p,dr,0,[],0,0,0,0,0⟩
def cN (n:Int):En:=⟨2,0,0,n,[],0,0,0,0,0⟩
def cA (c:List (Int×Int)):En:=⟨3,0,0,0,c,0,0,0,0,0⟩
def cw (bu pe:Nat):En:=⟨4,0,0,0,[],bu,pe,0,0,0⟩
def bV (pr:Int) (lv:Nat) (sv:Int):En:=⟨5,0,0,0,[],0,0,pr,lv,sv⟩
def aI (x:En):Prop:=
 (x=cM x.p x.dr∧0≤x.p∧x.p≤255)∨(x=cN x.n∧1≤x.n∧x.n≤65535)∨(x=cA x.code∧qg x.code)∨(x=cw x.bu x.pe)∨
 (x=bV x.pr x.lv x.sv∧0≤x.pr∧x.pr≤255∧ -1≤x.sv∧x.sv≤254)
def bytes (x:En):List Nat:=
 if x.d=1 then 1::x.p.toNat::be 8 x.dr
 else if x.d=2 then 2::be 2 x.n.toNat
 else if x.d=3 then 3::gI x.code
 else if x.d=4 then 4::(be 8 x.bu++be 8 x.pe)
 else [5,x.pr.toNat,x.lv,(x.sv+1).toNat]
theorem dY (p dr):bytes (cM p dr)=1::p.toNat::be 8 dr:=rfl
theorem ed (n):bytes (cN n)=2::be 2 n.toNat:=rfl
theorem dX (c):bytes (cA c)=3::gI c:=rfl
theorem dA (b p):bytes (cw b p)=4::(be 8 b++be 8 p):=rfl
theorem dC (p l s):bytes (bV p l s)=[5,p.toNat,l,(s+1).toNat]:=rfl
def dp (b0 b1 len:Nat):Nat:=
 if b0=1 then 10 else if b0=2 then 3 else if b0=3 then(if 2≤len then 2+4*b1 else 2) else if b0=4 then 17 else if b0=5 then 4 else 1
def sz (l:List Nat):Nat:=dp (l.getD 0 0) (l.getD 1 0) l.length
open Classical in
noncomputable def lD (l:List Nat):List (Int×Int):=if l.length=1+4*l.getD 0 0∧qg (gy l) then gy l else []
noncomputable def eZ (l:List Nat):En:=
 if l.getD 0 0=1 then cM (l.getD 1 0:Int) (cG (l.drop 2))
 else if l.getD 0 0=2 then cN (cG (l.drop 1):Int)
 else if l.getD 0 0=3 then cA (lD (l.drop 1))
 else if l.getD 0 0=4 then cw (cG ((l.drop 1).take 8)) (cG (l.drop 9))
 else if l.getD 0 0=5 then bV (l.getD 1 0:Int) (l.getD 2 0) ((l.getD 3 0:Int)-1)
 else⟨(l.getD 0 0:Int),0,0,0,[],0,0,0,0,0⟩
theorem eE (l:List Nat):(gy l).length=l.getD 0 0:=by simp[gy]
theorem iL (l:List Nat) {i:Nat} (h:i<l.getD 0 0):cO (gy l) i=jU (fun j=>l.getD j 0) i∧cR (gy l) i=fO (fun j=>l.getD j 0) i:=by
 have:(gy l).getD i (0,0)=(jU (fun j=>l.getD j 0) i,fO (fun j=>l.getD j 0) i):=by
  have h':(List.range (l.getD 0 0))[i]? =some i:=List.getElem?_range h
  unfold gy
  rw[List.getD_eq_getElem?_getD,List.getElem?_map,h']
  rfl
 unfold cO cR
 rw[this]
 exact⟨rfl,rfl⟩
theorem rh {len:Nat} {O R O' R':Nat→Int} (h:Rt len O R) (he: ∀i,i<len→O i=O' i∧R i=R' i):Rt len O' R':=by
 obtain⟨y,hy⟩:=h
 obtain⟨h1,h2,h3,h4,rfl⟩:=hy.zero
 refine⟨0,.inr (.inr (.inr ⟨h1,h2,fun i hi=> ?_,?_,rfl,rfl⟩))⟩
 ·rw[←(he i hi).1,←(he i hi).2];exact h3 i hi
 ·rw[←(he (len-1) (by omega)).1];exact h4
theorem dB {c:List (Int×Int)} (h:qg c):1≤c.length∧c.length≤64∧ ∀i,i<c.length→1≤cO c i∧cO c i≤9∧0≤cR c i∧cR c i≤65536:=by
 obtain⟨y,hy⟩:=h
 obtain⟨h1,h2,h3,h4,rfl⟩:=hy.zero
 exact⟨h1,h2,fun i hi=>nr (by omega) (h3 i hi)⟩
theorem eo (c:List (Int×Int)):(gI c).length=1+4*c.length:=bx _ _ _ _
theorem jq (c:List (Int×Int)):(gI c).getD 0 0=c.length:=mz _ _ _ _
theorem tG {c:List (Int×Int)} (h:qg c): ∀y∈gI c,y<256:=by
 obtain⟨_,h2,h3⟩:=dB h
 exact mL h2 _ (fun i hi=>(h3 i hi).2.1)
theorem DR {c d:List (Int×Int)} (hl:c.length=d.length) (h: ∀i,i<c.length→cO c i=cO d i∧cR c i=cR d i):c=d:=by
 apply List.ext_getElem hl
 intro i h1 h2
 have:=h i h1
 simp only[cO,cR,List.getD,List.getElem?_eq_getElem h1,List.getElem?_eq_getElem h2,Option.getD_some] at this
 exact Prod.ext this.1 this.2
theorem BR {c:List (Int×Int)} (h:qg c):gy (gI c)=c:=by
 obtain⟨h1,h2,h3⟩:=dB h
 have hf:=jq c
 refine DR (by rw[eE,hf]) (fun i hi=> ?_)
 rw[eE,hf] at hi
 obtain⟨q1,q2⟩:=iL (gI c) (i:=i) (by rw[hf];exact hi)
 rw[q1,q2]
 obtain⟨b1,b2,b3,b4⟩:=h3 i hi
 exact D4 hi (by omega) b3 b4
theorem C6 {l:List Nat} (hl:l.length=1+4*l.getD 0 0) (hs: ∀y∈l,y<256):gI (gy l)=l:=by
 have hX: ∀j,j<1+4*l.getD 0 0→(fun j=>l.getD j 0) j<256:=by
  intro j hj
  have:l.getD j 0∈l:=by simp[List.getD,List.getElem?_eq_getElem (show j<l.length by omega)]
  exact hs _ this
 have h1:=zo (X:=fun j=>l.getD j 0) (l.getD 0 0) hX
 have h2:enc ((fun j=>l.getD j 0) 0) (jU fun j=>l.getD j 0) (fO fun j=>l.getD j 0) (l.getD 0 0)=dw (eV (l.getD 0 0) (jU fun j=>l.getD j 0) (fO fun j=>l.getD j 0) (l.getD 0 0)):=
  nE _ (fun i hi=>by unfold jU;omega)
 rw[h2] at h1
 have inj: ∀a b:List Nat,dw a=dw b→a=b:=by
  intro a
  induction a with
  |nil=>intro b h;cases b with
   |nil=>rfl
   |cons _ _=>simp[dw] at h
  |cons x a ih=>intro b h;cases b with
   |nil=>simp[dw] at h
   |cons y b=>
    simp only[dw,List.map_cons,List.cons.injEq,Value.int.injEq,true_and] at h
    rw[ih b h.2,show x=y by omega]
 have h3:=inj _ _ h1
 have h4:gI (gy l)=eV (l.getD 0 0) (jU fun j=>l.getD j 0) (fO fun j=>l.getD j 0) (l.getD 0 0):=by
  unfold gI
  rw[eE]
  have gen: ∀(n k:Nat) (O R O' R':Nat→Int),(∀i,i<k→O i=O' i∧R i=R' i)→eV n O R k=eV n O' R' k:=by
   intro n k O R O' R'
   induction k with
   |zero=>intro _;rfl
   |succ k ih=>
    intro h
    simp only[eV]
    rw[ih (fun i hi=>h i (by omega)),(h k (by omega)).1,(h k (by omega)).2]
  exact gen _ _ _ _ _ _ (fun i hi=>iL l hi)
 rw[h4,h3]
 apply List.ext_getElem (by simp[hl])
 intro i i1 i2
 simp only[List.getElem_map,List.getElem_range]
 simp[List.getD,List.getElem?_eq_getElem i2]
theorem mj {x:En} (h:aI x) (hw:r9 x):eZ (bytes x)=x:=by
 obtain⟨w1,w2,w3,w4⟩:=hw
 rcases h with ⟨e,h1,h2⟩|⟨e,h1,h2⟩|⟨e,h1⟩|e|⟨e,h1,h2,h3,h4⟩
 ·rw[e,dY]
  have:eZ (1::x.p.toNat::be 8 x.dr)=cM (x.p.toNat:Int) (cG (be 8 x.dr)):=rfl
  rw[this,lL (by simpa using w1),Int.toNat_of_nonneg h1]
 ·rw[e,ed]
  have:eZ (2::be 2 x.n.toNat)=cN (cG (be 2 x.n.toNat):Int):=rfl
  rw[this,lL (by simp;omega),Int.toNat_of_nonneg (by omega)]
 ·rw[e,dX]
  have:eZ (3::gI x.code)=cA (lD (gI x.code)):=rfl
  rw[this]
  unfold lD
  rw[eo,jq,BR h1,if_pos ⟨rfl,h1⟩]
 ·rw[e,dA]
  have:eZ (4::(be 8 x.bu++be 8 x.pe))=cw (cG ((be 8 x.bu++be 8 x.pe).take 8)) (cG ((be 8 x.bu++be 8 x.pe).drop 8)):=rfl
  rw[this,List.take_left' (bw _ _),List.drop_left' (bw _ _),lL (by simpa using w2),lL (by simpa using w3)]
 ·rw[e,dC]
  have:eZ [5,x.pr.toNat,x.lv,(x.sv+1).toNat]=bV (x.pr.toNat:Int) x.lv (((x.sv+1).toNat:Int)-1):=rfl
  rw[this,Int.toNat_of_nonneg h1,Int.toNat_of_nonneg (by omega),show x.sv+1-1=x.sv by omega]
theorem qQ {x:En} (h:aI x) (hw:r9 x): ∀y∈bytes x,y<256:=by
 obtain⟨w1,w2,w3,w4⟩:=hw
 rcases h with ⟨e,h1,h2⟩|⟨e,h1,h2⟩|⟨e,h1⟩|e|⟨e,h1,h2,h3,h4⟩
 ·rw[e,dY]
  intro y hy
  simp only[List.mem_cons] at hy
  rcases hy with rfl|rfl|hy
  ·omega
  ·omega
  ·exact ir _ _ y hy
 ·rw[e,ed]
  intro y hy
  simp only[List.mem_cons] at hy
  rcases hy with rfl|hy
  ·omega
  ·exact ir _ _ y hy
 ·rw[e,dX]
  intro y hy
  simp only[List.mem_cons] at hy
  rcases hy with rfl|hy
  ·omega
  ·exact tG h1 y hy
 ·rw[e,dA]
  intro y hy
  simp only[List.mem_cons,List.mem_append] at hy
  rcases hy with rfl|hy|hy
  ·omega
  ·exact ir _ _ y hy
  ·exact ir _ _ y hy
 ·rw[e,dC]
  intro y hy
  simp only[List.mem_cons,List.not_mem_nil,or_false] at hy
  rcases hy with rfl|rfl|rfl|rfl<;>omega
theorem jv {x:En} (h:aI x) (hw:r9 x) (r:List Nat):sz (bytes x++r)=(bytes x).length:=by
 rcases h with ⟨e,h1,h2⟩|⟨e,h1,h2⟩|⟨e,h1⟩|e|⟨e,h1,h2,h3,h4⟩
 ·rw[e,dY];simp[bw];rfl
 ·rw[e,ed];simp[bw];rfl
 ·rw[e,dX]
  have hl:=eo x.code
  have hf:=jq x.code
  cases hc:gI x.code with
  |nil=>rw[hc] at hl;simp at hl;omega
  |cons y ys=>
   rw[hc] at hl hf
   simp only[List.length_cons] at hl
   have:y=x.code.length:=hf
   subst this
   show dp 3 x.code.length (3::x.code.length::ys++r).length=_
   unfold dp
   rw[if_neg (by decide),if_neg (by decide),if_pos rfl,if_pos (by simp)]
   simp
   omega
 ·rw[e,dA];simp[bw];rfl
 ·rw[e,dC];rfl
theorem kv {x:En}:0<(bytes x).length:=by
 unfold bytes
 repeat' split
 all_goals simp
theorem rL {x:En} (h:aI x):(bytes x).length≤258:=by
 rcases h with ⟨e,h1,h2⟩|⟨e,h1,h2⟩|⟨e,h1⟩|e|⟨e,h1,h2,h3,h4⟩
 ·rw[e,dY];simp[bw]
 ·rw[e,ed];simp[bw]
 ·rw[e,dX]
  have:=(dB h1).2.1
  simp[eo];omega
 ·rw[e,dA];simp[bw]
 ·rw[e,dC];simp
theorem dc {l:List Nat} {j:Nat} (h:j<l.length):l.getD j 0∈l:=by simp[List.getD,List.getElem?_eq_getElem h]
theorem yK {l:List Nat} (h:2≤l.length):l=l.getD 0 0::l.getD 1 0::l.drop 2:=by
 match l,h with
 |a::b::r,_=>rfl
theorem mi {l:List Nat} (h:1≤l.length):l=l.getD 0 0::l.drop 1:=by
 match l,h with
 |a::r,_=>rfl
theorem aW {l:List Nat} (h: ∀y∈l,y<256) (k:Nat):(∀y∈l.take k,y<256)∧ ∀y∈l.drop k,y<256:=⟨fun y hy=>h y (List.mem_of_mem_take hy),fun y hy=>h y (List.mem_of_mem_drop hy)⟩
theorem rO: ¬qg []:=fun h=>by have:=(dB h).1;simp at this
theorem Au {l:List Nat} (hs: ∀y∈l,y<256) (hl:l.length=sz l) (hr:aI (eZ l)):bytes (eZ l)=l:=by
 by_cases h1:l.getD 0 0=1
 ·have e:eZ l=cM (l.getD 1 0:Int) (cG (l.drop 2)):=by unfold eZ;rw[if_pos h1]
  have hk:l.length=10:=by rw[hl];unfold sz dp;rw[if_pos h1]
  rw[e,dY,Int.toNat_natCast,lO (by simp[hk]) (aW hs 2).2]
  conv=>rhs;rw[yK (l:=l) (by omega)]
  rw[h1]
 by_cases h2:l.getD 0 0=2
 ·have e:eZ l=cN (cG (l.drop 1):Int):=by unfold eZ;rw[if_neg h1,if_pos h2]
  have hk:l.length=3:=by rw[hl];unfold sz dp;rw[if_neg h1,if_pos h2]
  rw[e,ed,Int.toNat_natCast,lO (by simp[hk]) (aW hs 1).2]
  conv=>rhs;rw[mi (l:=l) (by omega)]
  rw[h2]
 by_cases h3:l.getD 0 0=3
 ·have e:eZ l=cA (lD (l.drop 1)):=by unfold eZ;rw[if_neg h1,if_neg h2,if_pos h3]
  have hc: ¬lD (l.drop 1)=[]:=by
   intro q
   rw[e] at hr
   rcases hr with ⟨e',_⟩|⟨e',_⟩|⟨_,hr⟩|e'|⟨e',_⟩
   ·simp[cA,cM] at e'
   ·simp[cA,cN] at e'
   ·have hr':qg (lD (l.drop 1)):=hr
    rw[q] at hr'
    exact rO hr'
   ·simp[cA,cw] at e'
   ·simp[cA,bV] at e'
  have h4:(l.drop 1).length=1+4*(l.drop 1).getD 0 0∧qg (gy (l.drop 1)):=by
   unfold lD at hc
   split at hc
   ·assumption
   ·exact absurd rfl hc
  have e2:lD (l.drop 1)=gy (l.drop 1):=by unfold lD;rw[if_pos h4]
  rw[e,e2,dX,C6 h4.1 (aW hs 1).2]
  conv=>rhs;rw[mi (l:=l) (by rw[hl];unfold sz dp;rw[if_neg h1,if_neg h2,if_pos h3];split<;>omega)]
  rw[h3]
 by_cases h4:l.getD 0 0=4
 ·have e:eZ l=cw (cG ((l.drop 1).take 8)) (cG (l.drop 9)):=by unfold eZ;rw[if_neg h1,if_neg h2,if_neg h3,if_pos h4]
  have hk:l.length=17:=by rw[hl];unfold sz dp;rw[if_neg h1,if_neg h2,if_neg h3,if_pos h4]
  rw[e,dA,lO (by simp[hk]) (aW (aW hs 1).2 8).1,lO (by simp[hk]) (aW hs 9).2]
  have h9:l.drop 9=(l.drop 1).drop 8:=by rw[List.drop_drop]
  rw[h9,List.take_append_drop]
  conv=>rhs;rw[mi (l:=l) (by omega)]
  rw[h4]
 by_cases h5:l.getD 0 0=5
 ·have e:eZ l=bV (l.getD 1 0:Int) (l.getD 2 0) ((l.getD 3 0:Int)-1):=by unfold eZ;rw[if_neg h1,if_neg h2,if_neg h3,if_neg h4,if_pos h5]
  have hk:l.length=4:=by rw[hl];unfold sz dp;rw[if_neg h1,if_neg h2,if_neg h3,if_neg h4,if_pos h5]
  rw[e,dC,Int.toNat_natCast]
  match l,hk with
  |[a,b,c,d],_=>
   have:a=5:=h5
   subst this
   show [5,b,c,((d:Int)-1+1).toNat]=[5,b,c,d]
   rw[show((d:Int)-1+1).toNat=d by omega]
 ·have e:eZ l=⟨(l.getD 0 0:Int),0,0,0,[],0,0,0,0,0⟩:=by unfold eZ;rw[if_neg h1,if_neg h2,if_neg h3,if_neg h4,if_neg h5]
  rw[e] at hr
  rcases hr with ⟨e',_⟩|⟨e',_⟩|⟨e',_⟩|e'|⟨e',_⟩
  ·have q:((l.getD 0 0:Nat):Int)=1:=congrArg En.d e'
   omega
  ·have q:((l.getD 0 0:Nat):Int)=2:=congrArg En.d e'
   omega
  ·have q:((l.getD 0 0:Nat):Int)=3:=congrArg En.d e'
   omega
  ·have q:((l.getD 0 0:Nat):Int)=4:=congrArg En.d e'
   omega
  ·have q:((l.getD 0 0:Nat):Int)=5:=congrArg En.d e'
   omega
theorem Gq {l:List Nat} (hs: ∀y∈l,y<256) (hl:l.length=sz l):r9 (eZ l):=by
 have key: ∀m:List Nat,(∀y∈m,y<256)→m.length≤8→cG m<18446744073709551616:=by
  intro m hm hl
  have h:=j4 hm
  have:256^m.length≤256^8:=Nat.pow_le_pow_right (by omega) hl
  omega
 unfold eZ
 by_cases h1:l.getD 0 0=1
 ·have hk:l.length=10:=by rw[hl];unfold sz dp;rw[if_pos h1]
  rw[if_pos h1]
  exact⟨key _ (aW hs 2).2 (by simp[hk]),by simp[cM],by simp[cM],by simp[cM]⟩
 rw[if_neg h1]
 by_cases h2:l.getD 0 0=2
 ·rw[if_pos h2];exact⟨by simp[cN],by simp[cN],by simp[cN],by simp[cN]⟩
 rw[if_neg h2]
 by_cases h3:l.getD 0 0=3
 ·rw[if_pos h3];exact⟨by simp[cA],by simp[cA],by simp[cA],by simp[cA]⟩
 rw[if_neg h3]
 by_cases h4:l.getD 0 0=4
 ·have hk:l.length=17:=by rw[hl];unfold sz dp;rw[if_neg h1,if_neg h2,if_neg h3,if_pos h4]
  rw[if_pos h4]
  exact⟨by simp[cw],key _ (aW (aW hs 1).2 8).1 (by simp[hk]),key _ (aW hs 9).2 (by simp[hk]),by simp[cw]⟩
 rw[if_neg h4]
 by_cases h5:l.getD 0 0=5
 ·have hk:l.length=4:=by rw[hl];unfold sz dp;rw[if_neg h1,if_neg h2,if_neg h3,if_neg h4,if_pos h5]
  rw[if_pos h5]
  exact⟨by simp[bV],by simp[bV],by simp[bV],hs _ (dc (by omega))⟩
 rw[if_neg h5]
 exact⟨by simp,by simp,by simp,by simp⟩
def all (L:List En):List Nat:=L.flatMap bytes
def gT (L:List En):Prop:= ∀x∈L,aI x∧r9 x
def G3 (r:List Nat):Prop:= ∀x t,aI x→r9 x→r≠bytes x++t
def Good (l:List Nat) (L:List En):Prop:=gT L∧l=all L
def kQ (l:List Nat) (L:List En):Prop:=gT L∧ ∃r,r≠[]∧G3 r∧l=all L++r
theorem all_nil:all []=[]:=rfl
theorem all_cons (x:En) (L:List En):all (x::L)=bytes x++all L:=rfl
theorem qe (L:List En) (x:En):all (L++[x])=all L++bytes x:=by simp[all]
theorem kN {x y:En} {r s:List Nat} (hx:aI x) (hx':r9 x) (hy:aI y) (hy':r9 y) (h:bytes x++r=bytes y++s):x=y∧r=s:=by
 have h1:=jv hx hx' r
 have h2:=jv hy hy' s
 rw[h] at h1
 have hl:(bytes x).length=(bytes y).length:=by omega
 obtain⟨e1,e2⟩:=List.append_inj h hl
 refine⟨?_,e2⟩
 rw[←mj hx hx',←mj hy hy',e1]
theorem yM: ∀{l:List Nat} {L M:List En},Good l L→Good l M→L=M:=by
 intro l L
 induction L generalizing l with
 |nil=>
  rintro M ⟨_,rfl⟩ ⟨hM,h⟩
  cases M with
  |nil=>rfl
  |cons y M=>
   rw[all_cons,all_nil] at h
   have h1:=congrArg List.length h
   have h2:=kv (x:=y)
   rw[List.length_append,List.length_nil] at h1
   omega
 |cons x L ih=>
  rintro M ⟨hL,rfl⟩ ⟨hM,h⟩
  cases M with
  |nil=>
   rw[all_cons,all_nil] at h
   have h1:=congrArg List.length h
   have h2:=kv (x:=x)
   rw[List.length_append,List.length_nil] at h1
   omega
  |cons y M=>
   rw[all_cons,all_cons] at h
   obtain⟨rfl,h2⟩:=kN (hL x (by simp)).1 (hL x (by simp)).2 (hM y (by simp)).1 (hM y (by simp)).2 h
   rw[ih (M:=M) ⟨fun z hz=>hL z (by simp[hz]),rfl⟩ ⟨fun z hz=>hM z (by simp[hz]),h2⟩]
theorem rJ: ∀{l:List Nat} {L M:List En},Good l L→kQ l M→False:=by
 intro l L
 induction L generalizing l with
 |nil=>
  rintro M ⟨_,rfl⟩ ⟨hM,r,hr,_,h⟩
  have h1:=congrArg List.length h
  have h2:r.length≠0:=fun q=>hr (List.length_eq_zero_iff.1 q)
  rw[List.length_append,all_nil,List.length_nil] at h1
  omega
 |cons x L ih=>
  rintro M ⟨hL,rfl⟩ ⟨hM,r,hr,hn,h⟩
  cases M with
  |nil=>
   rw[all_cons,all_nil,List.nil_append] at h
   exact hn x _ (hL x (by simp)).1 (hL x (by simp)).2 h.symm
  |cons y M=>
   rw[all_cons,all_cons,List.append_assoc] at h
   obtain⟨rfl,h2⟩:=kN (hL x (by simp)).1 (hL x (by simp)).2 (hM y (by simp)).1 (hM y (by simp)).2 h
   exact ih (M:=M) ⟨fun z hz=>hL z (by simp[hz]),rfl⟩ ⟨fun z hz=>hM z (by simp[hz]),r,hr,hn,h2⟩
theorem CC: ∀{l:List Nat} {L M:List En},kQ l L→kQ l M→L=M:=by
 intro l L
 induction L generalizing l with
 |nil=>
  rintro M ⟨_,r,hr,hn,h0⟩ ⟨hM,s,hs,hn2,h⟩
  cases M with
  |nil=>rfl
  |cons y M=>
   rw[h0,all_cons,all_nil,List.nil_append,List.append_assoc] at h
   exact(hn y _ (hM y (by simp)).1 (hM y (by simp)).2 h).elim
 |cons x L ih=>
  rintro M ⟨hL,r,hr,hn,rfl⟩ ⟨hM,s,hs,hn2,h⟩
  cases M with
  |nil=>
   rw[all_cons,all_nil,List.nil_append,List.append_assoc] at h
   exact(hn2 x _ (hL x (by simp)).1 (hL x (by simp)).2 h.symm).elim
  |cons y M=>
   rw[all_cons,all_cons,List.append_assoc,List.append_assoc] at h
   obtain⟨rfl,h2⟩:=kN (hL x (by simp)).1 (hL x (by simp)).2 (hM y (by simp)).1 (hM y (by simp)).2 h
   rw[ih (M:=M) ⟨fun z hz=>hL z (by simp[hz]),r,hr,hn,rfl⟩ ⟨fun z hz=>hM z (by simp[hz]),s,hs,hn2,h2⟩]
theorem zk {r:List Nat} (h:r.length<sz r):G3 r:=by
 rintro x t hx hw rfl
 rw[jv hx hw] at h
 simp at h
 omega
theorem DO (b1 len:Nat):dp 3 b1 len=if 2≤len then 2+4*b1 else 2:=rfl
theorem sZ {b0:Nat} (h:b0≠3) (b1 b1' len len':Nat):dp b0 b1 len=dp b0 b1' len':=by
 unfold dp
 rw[if_neg h,if_neg h]
theorem rW (b0 b1 len:Nat):1≤dp b0 b1 len:=by
 unfold dp
 repeat' split
 all_goals omega
theorem uQ {r:List Nat} (h:sz r≤r.length):sz (r.take (sz r))=sz r:=by
 have h0: ∀k j,j<k→(r.take k).getD j 0=r.getD j 0:=fun k j hj=>by simp[List.getD,List.getElem?_take_of_lt hj]
 have h1:1≤sz r:=rW _ _ _
 have hk2:sz r=dp (r.getD 0 0) (r.getD 1 0) r.length:=rfl
 generalize sz r=k at h h1 hk2
 show dp ((r.take k).getD 0 0) ((r.take k).getD 1 0) (r.take k).length=k
 rw[h0 k 0 (by omega),List.length_take,Nat.min_eq_left h]
 by_cases h3:r.getD 0 0=3
 ·rw[h3,DO] at hk2
  have h2:2≤k:=by rw[hk2];split<;>omega
  rw[h0 k 1 (by omega),h3,DO,if_pos h2]
  rw[if_pos (show 2≤r.length by omega)] at hk2
  exact hk2.symm
 ·rw[hk2]
  exact sZ h3 _ _ _ _
theorem xY {r:List Nat} (h:sz r≤r.length) (hn: ¬aI (eZ (r.take (sz r)))):G3 r:=by
 rintro x t hx hw rfl
 rw[jv hx hw,List.take_left' rfl,mj hx hw] at hn
 exact hn hx
theorem C5 {r:List Nat} (hs: ∀y∈r,y<256) (h:sz r≤r.length) (hy:aI (eZ (r.take (sz r)))):r9 (eZ (r.take (sz r)))∧r=bytes (eZ (r.take (sz r)))++r.drop (sz r):=by
 have hl:(r.take (sz r)).length=sz (r.take (sz r)):=by rw[uQ h,List.length_take,Nat.min_eq_left h]
 refine⟨Gq (aW hs _).1 hl,?_⟩
 rw[Au (aW hs _).1 hl hy,List.take_append_drop]
theorem E4 (a b c d:Int) (w:World):(Op.equalIn 10000 48 (.agg #[.int .i64 a,.int .i64 b]) (.agg #[.int .i64 c,.int .i64 d])).run Tryz.prog w= .ok (a==c&&b==d) w:=by
 have u3:=Tryz.underlying46
 have a3:=Tryz.isAgg46
 have z3:=Tryz.sizeOf46
 have u4:=Tryz.underlying3
 have a4:=Tryz.isAgg3
 have z4:=Tryz.sizeOf3
 have hS:Tryz.prog.underlying 48=some (.struct (Tryz.prog.fieldsOf 48)):=by kernel_rfl
 rw[show(10000:Nat)=9999+1 from rfl,run_equalIn_agg w 9999 48 _ _ hS (by kernel_rfl)]
 simp only[Program.fieldsOf,Tryz.underlying48]
 go_simp
 by_cases h1:a=c<;>by_cases h2:b=d<;>simp[h1,h2]
theorem Hr (a b c d:Int) (w:World):(Op.equal 48 (.agg #[.int .i64 a,.int .i64 b]) (.agg #[.int .i64 c,.int .i64 d])).run Tryz.prog w= .ok (a==c&&b==d) w:=E4 _ _ _ _ w
@[go_sem high] theorem IA (a b c d : Int) (w : World) : (binOp .neq 48 (.agg #[.int .i64 a, .int .i64 b]) (.agg #[.int .i64 c, .int .i64 d])).run Tryz.prog w = .ok (.bool (!(a == c && b == d))) w := by
 simp[binOp,go_sem,Hr]
def iZ (w:World) (a:Option Addr) (c:List (Int×Int)):Prop:=nJ w a c.length (cO c) (cR c)
theorem iZ.below {w w':World} {a:Option Addr} {c:List (Int×Int)} (h:iZ w a c) (hb:Below w.heap.size w w'):iZ w' a c:=nJ.below h hb
theorem lE (w:World) (a:Option Addr):iZ w a []:= .inl rfl
theorem G9 {c d:List (Int×Int)} (hl:c.length=d.length) (h:c≠d): ∃j,j<c.length∧(∀i,i<j→cO c i=cO d i∧cR c i=cR d i)∧ ¬(cO c j=cO d j∧cR c j=cR d j):=by
 rcases oy (fun i=>decide (cO c i=cO d i∧cR c i=cR d i)) c.length with q|⟨j,h1,h2,h3⟩
 ·exact(h (DR hl (fun i hi=>by simpa using q i hi))).elim
 ·exact⟨j,h1,fun i hi=>by simpa using h2 i hi,by simpa using h3⟩
theorem oE (w:World) (a b:Nat):(w.drewN a).drewN b=w.drewN (a+b):=by simp[World.drewN,Nat.add_assoc]
theorem FD (w:World) (a b:Option Addr) (la lb ca cb:Nat) (hl:la≠lb):
  Calls Tryz.prog 62 #[.slice a la ca,.slice b lb cb] w fun e w'=>e= .returned (.bool false)∧ ∃q,w'=w.drewN q:=by
 have h1:((la:Int) !=(lb:Int))=true:=by simpa using (show¬(la:Int)=(lb:Int) by omega)
 go_enter Tryz.func62,Tryz.ntmps62
 go_wp2
 go_ret
 exact⟨rfl,0,rfl⟩
theorem uD (w:World) (ga oa gb ob len ca cb:Nat) (O R O' R':Nat→Int) (J:Nat) (hJ:J≤len) (hlen:len<9223372036854775808)
  (hca: ∀j,j<len→w.cell? ⟨ga,oa+j*2,none⟩=some (.int .i64 (O j))∧w.cell? ⟨ga,oa+j*2+1,none⟩=some (.int .i64 (R j))) (hcb: ∀j,j<len→w.cell? ⟨gb,ob+j*2,none⟩=some (.int .i64 (O' j))∧w.cell? ⟨gb,ob+j*2+1,none⟩=some (.int .i64 (R' j)))
  (hs: ∀i,i<J→O i=O' i∧R i=R' i) (hd:J<len→ ¬(O J=O' J∧R J=R' J)):
  Calls Tryz.prog 62 #[.slice (some ⟨ga,oa,none⟩) len ca,.slice (some ⟨gb,ob,none⟩) len cb] w fun e w'=>e= .returned (.bool (decide (J=len)))∧ ∃q,w'=w.drewN q:=by
 have HA:=aa hca
 have HB:=aa hcb
 have HS:=aa hs
 have HD:=aa hd
 have HJ:=aa hJ
 clear hca hcb hs hd hJ
 go_enter Tryz.func62,Tryz.ntmps62
 go_wp2
 go_loopw [13] (fun i wr=> ∃j q:Nat,j≤J∧i= .int .i64 j∧wr=w.drewN q) (fun i _=>len-(intOf i).toNat)
 case atStart=>exact⟨0,0,by omega,rfl,rfl⟩
 case round=>
  obtain⟨j,q,hj,rfl,rfl⟩:=hrel
  by_cases hjl:j<len
  ·obtain⟨e1,e2⟩:=HA.out j hjl
   obtain⟨e3,e4⟩:=HB.out j hjl
   have hjl':(j:Int)<(len:Int):=by omega
   by_cases hjJ:j<J
   ·obtain⟨q1,q2⟩:=HS.out j hjJ
    have b1:(O j==O' j)=true:=by simpa using q1
    have b2:(R j==R' j)=true:=by simpa using q2
    have hjJ':=aa hjJ
    clear q1 q2 hjJ hj
    go_wp2
    go_quiet (fail)
    go_wp2
    go_roundw
    case rel=>exact⟨j+1,_,hjJ'.out,by go_num,rfl⟩
    case measure=>simp[intOf];omega
   ·have hJe:j=J:=by omega
    have HN:Hid (decide (J=len)=false):=by
     have q: ¬J=len:=by omega
     exact aa (decide_eq_false q)
    have hn:((O j==O' j)&&(R j==R' j))=false:=by
     have:=HD.out (by omega)
     rw[←hJe] at this
     simpa using this
    clear hjJ hj hJe
    go_wp2
    go_quiet (fail)
    go_wp2
    go_ret
    exact⟨by rw[HN.out];rfl,_,by first|rfl|exact oE _ _ _⟩
  ·have hjl': ¬(j:Int)<(len:Int):=by omega
   have HN:Hid (decide (J=len)=true):=by
    have q1:=HJ.out
    have q:J=len:=by omega
    exact aa (decide_eq_true q)
   clear hj
   go_wp2
   go_ret
   exact⟨by rw[HN.out];rfl,_,by first|rfl|exact oE _ _ _⟩
theorem BX (w:World) (a b:Option Addr) (ca cb:Nat):
  Calls Tryz.prog 62 #[.slice a 0 ca,.slice b 0 cb] w fun e w'=>e= .returned (.bool true)∧ ∃q,w'=w.drewN q:=by
 go_enter Tryz.func62,Tryz.ntmps62
 go_wp2
 go_loopw [13] (fun i wr=>i= .int .i64 0∧wr=w) (fun i _=>0)
 case atStart=>exact⟨rfl,rfl⟩
 case round=>
  obtain⟨rfl,rfl⟩:=hrel
  go_wp2
  go_ret
  exact⟨rfl,0,rfl⟩
theorem Fo (w:World) (a b:Option Addr) (c d:List (Int×Int)) (ca cb:Nat) (hc:iZ w a c) (hd:iZ w b d) (hl:c.length<9223372036854775808):
  Calls Tryz.prog 62 #[.slice a c.length ca,.slice b d.length cb] w fun e w'=> ∃B:Bool,e= .returned (.bool B)∧(B=true↔c=d)∧ ∃q,w'=w.drewN q:=by
 by_cases hlen:c.length=d.length
 ·by_cases h0:c.length=0
  ·have e1:c=[]:=List.length_eq_zero_iff.1 h0
   have e2:d=[]:=List.length_eq_zero_iff.1 (hlen▸h0)
   subst e1 e2
   exact(BX w a b ca cb).mono fun e w' ⟨he,hq⟩=>⟨true,he,by simp,hq⟩
  ·rcases hc with h|⟨ga,oa,rfl,_,hca⟩
   ·exact absurd h h0
   rcases hd with h|⟨gb,ob,rfl,_,hcb⟩
   ·omega
   by_cases he:c=d
   ·subst he
    exact(uD w ga oa gb ob c.length ca cb _ _ _ _ c.length (Nat.le_refl _) hl hca hcb (fun _ _=>⟨rfl,rfl⟩) (fun h=>by omega)).mono fun e w' ⟨he,hq⟩=>⟨true,by simpa using he,by simp,hq⟩
   ·obtain⟨j,h1,h2,h3⟩:=G9 hlen he
    rw[←hlen] at hcb⊢
    refine(uD w ga oa gb ob c.length ca cb _ _ _ _ j (by omega) hl hca hcb h2 (fun _=>h3)).mono fun e w' ⟨hh,hq⟩=>⟨false,?_,by simp[he],hq⟩
    rw[hh,show decide (j=c.length)=false by simp;omega]
 ·exact(FD w a b _ _ ca cb hlen).mono fun e w' ⟨he,hq⟩=>⟨false,he,⟨fun h=>(by cases h),fun h=>(hlen (by rw[h])).elim⟩,hq⟩
theorem iB (w:World) (n a b:Int):Calls Tryz.prog 40 #[.int .i64 n,.int .i64 a,.int .i64 b] w fun e w'=>e= .returned (.bool (decide (a≤n∧n≤b)))∧w'=w:=by
 by_cases h1:a≤n
 ·by_cases h2:n≤b
  ·go_enter Tryz.func40,Tryz.ntmps40
   go_wp2
   go_ret
   exact⟨by simp[h1,h2],rfl⟩
  ·go_enter Tryz.func40,Tryz.ntmps40
   go_wp2
   go_ret
   exact⟨by simp[h2],rfl⟩
 ·go_enter Tryz.func40,Tryz.ntmps40
  go_wp2
  go_ret
  exact⟨by simp;omega,rfl⟩
theorem bD (w:World) (c c':Array Value) (t t':TypeId):Below w.heap.size w ((w.alloc (.cells c t)).alloc (.cells c' t')):=((Below.refl _ _).alloc (Nat.le_refl _) _).alloc (by simp) _
theorem Et (x y:En):x=y↔x.d=y.d∧x.p=y.p∧(x.dr:Int)=(y.dr:Int)∧x.n=y.n∧x.code=y.code∧(x.bu:Int)=(y.bu:Int)∧(x.pe:Int)=(y.pe:Int)∧x.pr=y.pr∧(x.lv:Int)=(y.lv:Int)∧x.sv=y.sv:=by
 cases x
 cases y
 simp only[En.mk.injEq]
 constructor
 ·rintro⟨rfl,rfl,rfl,rfl,rfl,rfl,rfl,rfl,rfl,rfl⟩
  simp
 ·rintro⟨h1,h2,h3,h4,h5,h6,h7,h8,h9,h10⟩
  exact⟨h1,h2,by omega,h4,h5,by omega,by omega,h8,by omega,h10⟩
theorem jB (w : World) (x y : En) (a b : Option Addr) (ca cb : Nat) (hx : iZ w a x.code) (hy : iZ w b y.code) (hl : x.code.length < 9223372036854775808) :
  Calls Tryz.prog 41 #[.agg #[.int .i64 x.d, .int .i64 x.p, .int .u64 (x.dr : Int), .int .i64 x.n, .slice a x.code.length ca, .int .u64 (x.bu : Int), .int .u64 (x.pe : Int), .int .i64 x.pr, .int .u8 (x.lv : Int), .int .i64 x.sv], .agg #[.int .i64 y.d, .int .i64 y.p, .int .u64 (y.dr : Int), .int .i64 y.n, .slice b y.code.length cb, .int .u64 (y.bu : Int), .int .u64 (y.pe : Int), .int .i64 y.pr, .int .u8 (y.lv : Int), .int .i64 y.sv]] w fun e w' => ∃ B : Bool, e = .returned (.bool B) ∧ (B = true ↔ x = y) ∧ Below w.heap.size w w' := by
 have HE : Hid (∀ W, Below w.heap.size w W → Calls Tryz.prog 62 #[.slice a x.code.length ca, .slice b y.code.length cb] W fun e w' => ∃ B : Bool, e = .returned (.bool B) ∧ (B = true ↔ x.code = y.code) ∧ ∃ q, w' = W.drewN q) := fun W hb => Fo W a b x.code y.code ca cb (hx.below hb) (hy.below hb) hl
 clear hx hy
 go_enter Tryz.func41, Tryz.ntmps41
 go_wp2_with (go_at_call 62; refine (HE.out _ (bD w _ _ _ _)).mono ?_; rintro e w1 ⟨B, rfl, hB, q, rfl⟩; have HB := aa hB; clear hB)
 all_goals go_ret
 all_goals refine ⟨_, rfl, ?_, ?_⟩
 all_goals first
  | exact below_drewN (bD w _ _ _ _) _
  | exact bD w _ _ _ _
  | (try have hB := HB.out
     rw [Et]
     simp_all)
theorem ak {w w1:World} {c:Array Value} {t:TypeId} {B:Nat} (hb:Below B (w.alloc (.cells c t)) w1) (i:Nat) (u:Value) (hu:c[i]? =some u) (hB:w.heap.size<B:=by simp):w1.cell? ⟨w.heap.size,i,none⟩=some u:=by
 rw[hb.cell (p:=⟨w.heap.size,i,none⟩) hB]
 unfold World.cell?
 simp only[(MapKept.heap_alloc w _).1]
 exact hu
theorem Al {x:En} (hd:x.d=1):aI x↔x=cM x.p x.dr∧0≤x.p∧x.p≤255:=by
 refine⟨fun h=> ?_,fun h=> .inl h⟩
 rcases h with ⟨e,h1,h2⟩|⟨e,h1,h2⟩|⟨e,h1⟩|e|⟨e,h1,h2,h3,h4⟩
 ·exact⟨e,h1,h2⟩
 ·exact absurd (hd.symm.trans (show x.d=2 from congrArg En.d e)) (by decide)
 ·exact absurd (hd.symm.trans (show x.d=3 from congrArg En.d e)) (by decide)
 ·exact absurd (hd.symm.trans (show x.d=4 from congrArg En.d e)) (by decide)
 ·exact absurd (hd.symm.trans (show x.d=5 from congrArg En.d e)) (by decide)
theorem zj {x:En} (hd:x.d=2):aI x↔x=cN x.n∧1≤x.n∧x.n≤65535:=by
 refine⟨fun h=> ?_,fun h=> .inr (.inl h)⟩
 rcases h with ⟨e,h1,h2⟩|⟨e,h1,h2⟩|⟨e,h1⟩|e|⟨e,h1,h2,h3,h4⟩
 ·exact absurd (hd.symm.trans (show x.d=1 from congrArg En.d e)) (by decide)
 ·exact⟨e,h1,h2⟩
 ·exact absurd (hd.symm.trans (show x.d=3 from congrArg En.d e)) (by decide)
 ·exact absurd (hd.symm.trans (show x.d=4 from congrArg En.d e)) (by decide)
 ·exact absurd (hd.symm.trans (show x.d=5 from congrArg En.d e)) (by decide)
theorem zT {x:En} (hd:x.d=3):aI x↔x=cA x.code∧qg x.code:=by
 refine⟨fun h=> ?_,fun h=> .inr (.inr (.inl h))⟩
 rcases h with ⟨e,h1,h2⟩|⟨e,h1,h2⟩|⟨e,h1⟩|e|⟨e,h1,h2,h3,h4⟩
 ·exact absurd (hd.symm.trans (show x.d=1 from congrArg En.d e)) (by decide)
 ·exact absurd (hd.symm.trans (show x.d=2 from congrArg En.d e)) (by decide)
 ·exact⟨e,h1⟩
 ·exact absurd (hd.symm.trans (show x.d=4 from congrArg En.d e)) (by decide)
 ·exact absurd (hd.symm.trans (show x.d=5 from congrArg En.d e)) (by decide)
theorem zU {x:En} (hd:x.d=4):aI x↔x=cw x.bu x.pe:=by
 refine⟨fun h=> ?_,fun h=> .inr (.inr (.inr (.inl h)))⟩
 rcases h with ⟨e,h1,h2⟩|⟨e,h1,h2⟩|⟨e,h1⟩|e|⟨e,h1,h2,h3,h4⟩
 ·exact absurd (hd.symm.trans (show x.d=1 from congrArg En.d e)) (by decide)
 ·exact absurd (hd.symm.trans (show x.d=2 from congrArg En.d e)) (by decide)
 ·exact absurd (hd.symm.trans (show x.d=3 from congrArg En.d e)) (by decide)
 ·exact e
 ·exact absurd (hd.symm.trans (show x.d=5 from congrArg En.d e)) (by decide)
theorem zp {x:En} (hd:x.d=5):aI x↔x=bV x.pr x.lv x.sv∧0≤x.pr∧x.pr≤255∧ -1≤x.sv∧x.sv≤254:=by
 refine⟨fun h=> ?_,fun h=> .inr (.inr (.inr (.inr h)))⟩
 rcases h with ⟨e,h1,h2⟩|⟨e,h1,h2⟩|⟨e,h1⟩|e|⟨e,h1,h2,h3,h4⟩
 ·exact absurd (hd.symm.trans (show x.d=1 from congrArg En.d e)) (by decide)
 ·exact absurd (hd.symm.trans (show x.d=2 from congrArg En.d e)) (by decide)
 ·exact absurd (hd.symm.trans (show x.d=3 from congrArg En.d e)) (by decide)
 ·exact absurd (hd.symm.trans (show x.d=4 from congrArg En.d e)) (by decide)
 ·exact⟨e,h1,h2,h3,h4⟩
theorem lu {x:En} (h1:x.d≠1) (h2:x.d≠2) (h3:x.d≠3) (h4:x.d≠4) (h5:x.d≠5): ¬aI x:=by
 rintro(⟨e,_⟩|⟨e,_⟩|⟨e,_⟩|e|⟨e,_⟩)
 ·exact h1 (congrArg En.d e)
 ·exact h2 (congrArg En.d e)
 ·exact h3 (congrArg En.d e)
 ·exact h4 (congrArg En.d e)
 ·exact h5 (congrArg En.d e)
@[go_sem] theorem Ht (p dr : Int) (w : World) : (Instr.build 51 #[(0, .int .i64 1), (1, .int .i64 p), (2, .int .u64 dr)]).run Tryz.prog w = .ok (.agg #[.int .i64 1, .int .i64 p, .int .u64 dr, .int .i64 0, .slice none 0 0, .int .u64 0, .int .u64 0, .int .i64 0, .int .u8 0, .int .i64 0]) w := run_build w 51 _ _ (by kernel_rfl)
@[go_sem] theorem Hp (n : Int) (w : World) : (Instr.build 51 #[(0, .int .i64 2), (3, .int .i64 n)]).run Tryz.prog w = .ok (.agg #[.int .i64 2, .int .i64 0, .int .u64 0, .int .i64 n, .slice none 0 0, .int .u64 0, .int .u64 0, .int .i64 0, .int .u8 0, .int .i64 0]) w := run_build w 51 _ _ (by kernel_rfl)
@[go_sem] theorem Hm (a : Option Addr) (l c : Nat) (w : World) : (Instr.build 51 #[(0, .int .i64 3), (4, .slice a l c)]).run Tryz.prog w = .ok (.agg #[.int .i64 3, .int .i64 0, .int .u64 0, .int .i64 0, .slice a l c, .int .u64 0, .int .u64 0, .int .i64 0, .int .u8 0, .int .i64 0]) w := run_build w 51 _ _ (by kernel_rfl)
@[go_sem] theorem Ho (b p : Int) (w : World) : (Instr.build 51 #[(0, .int .i64 4), (5, .int .u64 b), (6, .int .u64 p)]).run Tryz.prog w = .ok (.agg #[.int .i64 4, .int .i64 0, .int .u64 0, .int .i64 0, .slice none 0 0, .int .u64 b, .int .u64 p, .int .i64 0, .int .u8 0, .int .i64 0]) w := run_build w 51 _ _ (by kernel_rfl)
@[go_sem] theorem Hz (p l s : Int) (w : World) : (Instr.build 51 #[(0, .int .i64 5), (7, .int .i64 p), (8, .int .u8 l), (9, .int .i64 s)]).run Tryz.prog w = .ok (.agg #[.int .i64 5, .int .i64 0, .int .u64 0, .int .i64 0, .slice none 0 0, .int .u64 0, .int .u64 0, .int .i64 p, .int .u8 l, .int .i64 s]) w := run_build w 51 _ _ (by kernel_rfl)
theorem wL (w : World) (p : Int) (dr : Nat) (n : Int) (code : List (Int × Int)) (bu pe : Nat) (pr : Int) (lv : Nat) (sv : Int) (a : Option Addr) (ca : Nat) (hc : iZ w a code) (hl : code.length < 9223372036854775808) :
  Calls Tryz.prog 21 #[.agg #[.int .i64 1, .int .i64 p, .int .u64 (dr : Int), .int .i64 n, .slice a code.length ca, .int .u64 (bu : Int), .int .u64 (pe : Int), .int .i64 pr, .int .u8 (lv : Int), .int .i64 sv]] w fun e w' => ∃ B : Bool, e = .returned (.bool B) ∧ (B = true ↔ aI (⟨1, p, dr, n, code, bu, pe, pr, lv, sv⟩ : En)) ∧ Below w.heap.size w w' := by
 have HS : Hid (∀ W, Below w.heap.size w W → Calls Tryz.prog 41 #[.agg #[.int .i64 1, .int .i64 p, .int .u64 (dr : Int), .int .i64 n, .slice a code.length ca, .int .u64 (bu : Int), .int .u64 (pe : Int), .int .i64 pr, .int .u8 (lv : Int), .int .i64 sv], .agg #[.int .i64 1, .int .i64 p, .int .u64 (dr : Int), .int .i64 0, .slice none 0 0, .int .u64 0, .int .u64 0, .int .i64 0, .int .u8 0, .int .i64 0]] W fun e w' => ∃ B : Bool, e = .returned (.bool B) ∧ (B = true ↔ (⟨1, p, dr, n, code, bu, pe, pr, lv, sv⟩ : En) = cM p dr) ∧ Below W.heap.size W w') := fun W hb => jB W (⟨1, p, dr, n, code, bu, pe, pr, lv, sv⟩ : En) (cM p dr) a none ca 0 (hc.below hb) (lE _ _) hl
 have HW0 : Hid (∀ W, Calls Tryz.prog 40 #[.int .i64 p, .int .i64 0, .int .i64 255] W fun e w' => ∃ B : Bool, e = .returned (.bool B) ∧ (B = true ↔ 0 ≤ p ∧ p ≤ 255) ∧ w' = W) := fun W => (iB W p 0 255).mono fun e w' ⟨h1, h2⟩ => ⟨_, h1, by simp, h2⟩
 clear hc
 have HR := aa (Al (x := (⟨1, p, dr, n, code, bu, pe, pr, lv, sv⟩ : En)) rfl)
 go_enter Tryz.func21, Tryz.ntmps21
 go_wp2_with (first
  | (go_at_call 40; refine (HW0.out _).mono ?_; rintro e w1 ⟨B1, rfl, hB1, hw⟩; replace hw := hw.symm; subst hw; have HB1 := aa hB1; clear hB1)
  | (go_at_call 41; refine (HS.out _ ((Below.refl _ _).alloc (Nat.le_refl _) _)).mono ?_; rintro e w2 ⟨B2, rfl, hB2, hb2⟩; have HB2 := aa hB2; have HL2 := aa hb2; clear hB2 hb2))
 all_goals go_ret
 all_goals refine ⟨_, rfl, ?_, ?_⟩
 all_goals first
  | exact ((Below.refl _ _).alloc (Nat.le_refl _) _).trans (HL2.out.mono (by simp))
  | exact ((Below.refl _ _).alloc (Nat.le_refl _) _)
  | (rw [HR.out]
     try have h1 := HB1.out
     try have h2 := HB2.out
     try have h3 := HB3.out
     first
       | (simp_all; done)
       | (simp_all; intros; omega))
theorem xx (w : World) (p : Int) (dr : Nat) (n : Int) (code : List (Int × Int)) (bu pe : Nat) (pr : Int) (lv : Nat) (sv : Int) (a : Option Addr) (ca : Nat) (hc : iZ w a code) (hl : code.length < 9223372036854775808) :
  Calls Tryz.prog 21 #[.agg #[.int .i64 2, .int .i64 p, .int .u64 (dr : Int), .int .i64 n, .slice a code.length ca, .int .u64 (bu : Int), .int .u64 (pe : Int), .int .i64 pr, .int .u8 (lv : Int), .int .i64 sv]] w fun e w' => ∃ B : Bool, e = .returned (.bool B) ∧ (B = true ↔ aI (⟨2, p, dr, n, code, bu, pe, pr, lv, sv⟩ : En)) ∧ Below w.heap.size w w' := by
 have HS : Hid (∀ W, Below w.heap.size w W → Calls Tryz.prog 41 #[.agg #[.int .i64 2, .int .i64 p, .int .u64 (dr : Int), .int .i64 n, .slice a code.length ca, .int .u64 (bu : Int), .int .u64 (pe : Int), .int .i64 pr, .int .u8 (lv : Int), .int .i64 sv], .agg #[.int .i64 2, .int .i64 0, .int .u64 0, .int .i64 n, .slice none 0 0, .int .u64 0, .int .u64 0, .int .i64 0, .int .u8 0, .int .i64 0]] W fun e w' => ∃ B : Bool, e = .returned (.bool B) ∧ (B = true ↔ (⟨2, p, dr, n, code, bu, pe, pr, lv, sv⟩ : En) = cN n) ∧ Below W.heap.size W w') := fun W hb => jB W (⟨2, p, dr, n, code, bu, pe, pr, lv, sv⟩ : En) (cN n) a none ca 0 (hc.below hb) (lE _ _) hl
 have HW0 : Hid (∀ W, Calls Tryz.prog 40 #[.int .i64 n, .int .i64 1, .int .i64 65535] W fun e w' => ∃ B : Bool, e = .returned (.bool B) ∧ (B = true ↔ 1 ≤ n ∧ n ≤ 65535) ∧ w' = W) := fun W => (iB W n 1 65535).mono fun e w' ⟨h1, h2⟩ => ⟨_, h1, by simp, h2⟩
 clear hc
 have HR := aa (zj (x := (⟨2, p, dr, n, code, bu, pe, pr, lv, sv⟩ : En)) rfl)
 go_enter Tryz.func21, Tryz.ntmps21
 go_wp2_with (first
  | (go_at_call 40; refine (HW0.out _).mono ?_; rintro e w1 ⟨B1, rfl, hB1, hw⟩; replace hw := hw.symm; subst hw; have HB1 := aa hB1; clear hB1)
  | (go_at_call 41; refine (HS.out _ ((Below.refl _ _).alloc (Nat.le_refl _) _)).mono ?_; rintro e w2 ⟨B2, rfl, hB2, hb2⟩; have HB2 := aa hB2; have HL2 := aa hb2; clear hB2 hb2))
 all_goals go_ret
 all_goals refine ⟨_, rfl, ?_, ?_⟩
 all_goals first
  | exact ((Below.refl _ _).alloc (Nat.le_refl _) _).trans (HL2.out.mono (by simp))
  | exact ((Below.refl _ _).alloc (Nat.le_refl _) _)
  | (rw [HR.out]
     try have h1 := HB1.out
     try have h2 := HB2.out
     try have h3 := HB3.out
     first
       | (simp_all; done)
       | (simp_all; intros; omega))
theorem vY (w : World) (p : Int) (dr : Nat) (n : Int) (code : List (Int × Int)) (bu pe : Nat) (pr : Int) (lv : Nat) (sv : Int) (a : Option Addr) (ca : Nat) (hc : iZ w a code) (hl : code.length < 9223372036854775808) :
  Calls Tryz.prog 21 #[.agg #[.int .i64 3, .int .i64 p, .int .u64 (dr : Int), .int .i64 n, .slice a code.length ca, .int .u64 (bu : Int), .int .u64 (pe : Int), .int .i64 pr, .int .u8 (lv : Int), .int .i64 sv]] w fun e w' => ∃ B : Bool, e = .returned (.bool B) ∧ (B = true ↔ aI (⟨3, p, dr, n, code, bu, pe, pr, lv, sv⟩ : En)) ∧ Below w.heap.size w w' := by
 have HS : Hid (∀ W, Below w.heap.size w W → Calls Tryz.prog 41 #[.agg #[.int .i64 3, .int .i64 p, .int .u64 (dr : Int), .int .i64 n, .slice a code.length ca, .int .u64 (bu : Int), .int .u64 (pe : Int), .int .i64 pr, .int .u8 (lv : Int), .int .i64 sv], .agg #[.int .i64 3, .int .i64 0, .int .u64 0, .int .i64 0, .slice a code.length ca, .int .u64 0, .int .u64 0, .int .i64 0, .int .u8 0, .int .i64 0]] W fun e w' => ∃ B : Bool, e = .returned (.bool B) ∧ (B = true ↔ (⟨3, p, dr, n, code, bu, pe, pr, lv, sv⟩ : En) = cA code) ∧ Below W.heap.size W w') := fun W hb => jB W (⟨3, p, dr, n, code, bu, pe, pr, lv, sv⟩ : En) (cA code) a a ca ca (hc.below hb) (hc.below hb) hl
 have HK : Hid (∀ W, Below w.heap.size w W → Calls Tryz.prog 42 #[.slice a code.length ca] W fun e w' => ∃ x y : Int, e = .returned (.tuple #[.int .i64 x, .int .i64 y]) ∧ (x = 0 ↔ qg code) ∧ Below W.heap.size W w') := fun W hb => (lS W a code.length ca hl (cO code) (cR code) (hc.below hb)).mono fun e w' ⟨x, y, h1, h2, h3⟩ => ⟨x, y, h1, ⟨fun q => ⟨y, by rw [← q]; exact h2⟩, fun ⟨y', q⟩ => (h2.one q).1.symm⟩, h3⟩
 clear hc
 have HR := aa (zT (x := (⟨3, p, dr, n, code, bu, pe, pr, lv, sv⟩ : En)) rfl)
 go_enter Tryz.func21, Tryz.ntmps21
 go_wp2_with (first
  | (go_at_call 42; refine (HK.out _ ((Below.refl _ _).alloc (Nat.le_refl _) _)).mono ?_; rintro e w1 ⟨x, y, rfl, hk, hb⟩; have HB1 := aa hk; have HL1 := aa hb; have y0 := ak hb 0 _ rfl; have y1 := ak hb 1 _ rfl; have y2 := ak hb 2 _ rfl; have y3 := ak hb 3 _ rfl; have y4 := ak hb 4 _ rfl; have y5 := ak hb 5 _ rfl; have y6 := ak hb 6 _ rfl; have y7 := ak hb 7 _ rfl; have y8 := ak hb 8 _ rfl; have y9 := ak hb 9 _ rfl; clear hk hb)
  | (go_at_call 41; refine (HS.out _ (((Below.refl _ _).alloc (Nat.le_refl _) _).trans (HL1.out.mono (by simp)))).mono ?_; rintro e w2 ⟨B2, rfl, hB2, hb2⟩; have HB2 := aa hB2; have HL2 := aa hb2; clear hB2 hb2))
 all_goals go_ret
 all_goals refine ⟨_, rfl, ?_, ?_⟩
 all_goals first
  | exact (((Below.refl _ _).alloc (Nat.le_refl _) _).trans (HL1.out.mono (by simp))).trans (HL2.out.mono (Nat.le_trans (Nat.le_succ _) (by have := HL1.out.size; simpa using this)))
  | exact ((Below.refl _ _).alloc (Nat.le_refl _) _).trans (HL1.out.mono (by simp))
  | (rw [HR.out]
     have h1 := HB1.out
     try have h2 := HB2.out
     simp_all)
theorem xc (w : World) (p : Int) (dr : Nat) (n : Int) (code : List (Int × Int)) (bu pe : Nat) (pr : Int) (lv : Nat) (sv : Int) (a : Option Addr) (ca : Nat) (hc : iZ w a code) (hl : code.length < 9223372036854775808) :
  Calls Tryz.prog 21 #[.agg #[.int .i64 4, .int .i64 p, .int .u64 (dr : Int), .int .i64 n, .slice a code.length ca, .int .u64 (bu : Int), .int .u64 (pe : Int), .int .i64 pr, .int .u8 (lv : Int), .int .i64 sv]] w fun e w' => ∃ B : Bool, e = .returned (.bool B) ∧ (B = true ↔ aI (⟨4, p, dr, n, code, bu, pe, pr, lv, sv⟩ : En)) ∧ Below w.heap.size w w' := by
 have HS : Hid (∀ W, Below w.heap.size w W → Calls Tryz.prog 41 #[.agg #[.int .i64 4, .int .i64 p, .int .u64 (dr : Int), .int .i64 n, .slice a code.length ca, .int .u64 (bu : Int), .int .u64 (pe : Int), .int .i64 pr, .int .u8 (lv : Int), .int .i64 sv], .agg #[.int .i64 4, .int .i64 0, .int .u64 0, .int .i64 0, .slice none 0 0, .int .u64 (bu : Int), .int .u64 (pe : Int), .int .i64 0, .int .u8 0, .int .i64 0]] W fun e w' => ∃ B : Bool, e = .returned (.bool B) ∧ (B = true ↔ (⟨4, p, dr, n, code, bu, pe, pr, lv, sv⟩ : En) = cw bu pe) ∧ Below W.heap.size W w') := fun W hb => jB W (⟨4, p, dr, n, code, bu, pe, pr, lv, sv⟩ : En) (cw bu pe) a none ca 0 (hc.below hb) (lE _ _) hl
 clear hc
 have HR := aa (zU (x := (⟨4, p, dr, n, code, bu, pe, pr, lv, sv⟩ : En)) rfl)
 go_enter Tryz.func21, Tryz.ntmps21
 go_wp2_with (go_at_call 41; refine (HS.out _ ((Below.refl _ _).alloc (Nat.le_refl _) _)).mono ?_; rintro e w2 ⟨B2, rfl, hB2, hb2⟩; have HB2 := aa hB2; have HL2 := aa hb2; clear hB2 hb2)
 all_goals go_ret
 all_goals refine ⟨_, rfl, ?_, ?_⟩
 all_goals first
  | exact ((Below.refl _ _).alloc (Nat.le_refl _) _).trans (HL2.out.mono (by simp))
  | exact ((Below.refl _ _).alloc (Nat.le_refl _) _)
  | (rw [HR.out]
     try have h1 := HB1.out
     try have h2 := HB2.out
     try have h3 := HB3.out
     first
       | (simp_all; done)
       | (simp_all; intros; omega))
theorem xR (w : World) (p : Int) (dr : Nat) (n : Int) (code : List (Int × Int)) (bu pe : Nat) (pr : Int) (lv : Nat) (sv : Int) (a : Option Addr) (ca : Nat) (hc : iZ w a code) (hl : code.length < 9223372036854775808) :
  Calls Tryz.prog 21 #[.agg #[.int .i64 5, .int .i64 p, .int .u64 (dr : Int), .int .i64 n, .slice a code.length ca, .int .u64 (bu : Int), .int .u64 (pe : Int), .int .i64 pr, .int .u8 (lv : Int), .int .i64 sv]] w fun e w' => ∃ B : Bool, e = .returned (.bool B) ∧ (B = true ↔ aI (⟨5, p, dr, n, code, bu, pe, pr, lv, sv⟩ : En)) ∧ Below w.heap.size w w' := by
 have HS : Hid (∀ W, Below w.heap.size w W → Calls Tryz.prog 41 #[.agg #[.int .i64 5, .int .i64 p, .int .u64 (dr : Int), .int .i64 n, .slice a code.length ca, .int .u64 (bu : Int), .int .u64 (pe : Int), .int .i64 pr, .int .u8 (lv : Int), .int .i64 sv], .agg #[.int .i64 5, .int .i64 0, .int .u64 0, .int .i64 0, .slice none 0 0, .int .u64 0, .int .u64 0, .int .i64 pr, .int .u8 (lv : Int), .int .i64 sv]] W fun e w' => ∃ B : Bool, e = .returned (.bool B) ∧ (B = true ↔ (⟨5, p, dr, n, code, bu, pe, pr, lv, sv⟩ : En) = bV pr lv sv) ∧ Below W.heap.size W w') := fun W hb => jB W (⟨5, p, dr, n, code, bu, pe, pr, lv, sv⟩ : En) (bV pr lv sv) a none ca 0 (hc.below hb) (lE _ _) hl
 have HW0 : Hid (∀ W, Calls Tryz.prog 40 #[.int .i64 pr, .int .i64 0, .int .i64 255] W fun e w' => ∃ B : Bool, e = .returned (.bool B) ∧ (B = true ↔ 0 ≤ pr ∧ pr ≤ 255) ∧ w' = W) := fun W => (iB W pr 0 255).mono fun e w' ⟨h1, h2⟩ => ⟨_, h1, by simp, h2⟩
 have HW1 : Hid (∀ W, Calls Tryz.prog 40 #[.int .i64 sv, .int .i64 (-1), .int .i64 254] W fun e w' => ∃ B : Bool, e = .returned (.bool B) ∧ (B = true ↔ (-1) ≤ sv ∧ sv ≤ 254) ∧ w' = W) := fun W => (iB W sv (-1) 254).mono fun e w' ⟨h1, h2⟩ => ⟨_, h1, by simp, h2⟩
 clear hc
 have HR := aa (zp (x := (⟨5, p, dr, n, code, bu, pe, pr, lv, sv⟩ : En)) rfl)
 go_enter Tryz.func21, Tryz.ntmps21
 go_wp2_with (first
  | (go_at_call 40; refine (HW0.out _).mono ?_; rintro e w1 ⟨B1, rfl, hB1, hw⟩; replace hw := hw.symm; subst hw; have HB1 := aa hB1; clear hB1 HW0)
  | (go_at_call 40; refine (HW1.out _).mono ?_; rintro e w1 ⟨B3, rfl, hB3, hw⟩; replace hw := hw.symm; subst hw; have HB3 := aa hB3; clear hB3)
  | (go_at_call 41; refine (HS.out _ ((Below.refl _ _).alloc (Nat.le_refl _) _)).mono ?_; rintro e w2 ⟨B2, rfl, hB2, hb2⟩; have HB2 := aa hB2; have HL2 := aa hb2; clear hB2 hb2))
 all_goals go_ret
 all_goals refine ⟨_, rfl, ?_, ?_⟩
 all_goals first
  | exact ((Below.refl _ _).alloc (Nat.le_refl _) _).trans (HL2.out.mono (by simp))
  | exact ((Below.refl _ _).alloc (Nat.le_refl _) _)
  | (rw [HR.out]
     try have h1 := HB1.out
     try have h2 := HB2.out
     try have h3 := HB3.out
     first
       | (simp_all; done)
       | (simp_all; intros; omega))
theorem we (w:World) (d:Int) (h1:d≠1) (h2:d≠2) (h3:d≠3) (h4:d≠4) (h5:d≠5) (p:Int) (dr:Nat) (n:Int) (code:List (Int×Int)) (bu pe:Nat) (pr:Int) (lv:Nat) (sv:Int) (a:Option Addr) (ca:Nat):
  Calls Tryz.prog 21 #[.agg #[.int .i64 d,.int .i64 p,.int .u64 (dr:Int),.int .i64 n,.slice a code.length ca,.int .u64 (bu:Int),.int .u64 (pe:Int),.int .i64 pr,.int .u8 (lv:Int),.int .i64 sv]] w fun e w'=> ∃B:Bool,e= .returned (.bool B)∧(B=true↔aI (⟨d,p,dr,n,code,bu,pe,pr,lv,sv⟩:En))∧Below w.heap.size w w':=by
 have HR:=aa (lu (x:=(⟨d,p,dr,n,code,bu,pe,pr,lv,sv⟩:En)) h1 h2 h3 h4 h5)
 have b1:(d==1)=false:=by simpa using h1
 have b2:(d==2)=false:=by simpa using h2
 have b3:(d==3)=false:=by simpa using h3
 have b4:(d==4)=false:=by simpa using h4
 have b5:(d==5)=false:=by simpa using h5
 clear h1 h2 h3 h4 h5
 go_enter Tryz.func21,Tryz.ntmps21
 go_wp2
 go_ret
 exact⟨false,rfl,by simp[HR.out],(Below.refl _ _).alloc (Nat.le_refl _) _⟩
theorem oC (w:World) (x:En) (a:Option Addr) (ca:Nat) (hc:iZ w a x.code) (hl:x.code.length<9223372036854775808):
  Calls Tryz.prog 21 #[.agg #[.int .i64 x.d,.int .i64 x.p,.int .u64 (x.dr:Int),.int .i64 x.n,.slice a x.code.length ca,.int .u64 (x.bu:Int),.int .u64 (x.pe:Int),.int .i64 x.pr,.int .u8 (x.lv:Int),.int .i64 x.sv]] w fun e w'=> ∃B:Bool,e= .returned (.bool B)∧(B=true↔aI x)∧Below w.heap.size w w':=by
 obtain⟨d,p,dr,n,code,bu,pe,pr,lv,sv⟩:=x
 by_cases h1:d=1
 ·subst h1;exact wL w p dr n code bu pe pr lv sv a ca hc hl
 by_cases h2:d=2
 ·subst h2;exact xx w p dr n code bu pe pr lv sv a ca hc hl
 by_cases h3:d=3
 ·subst h3;exact vY w p dr n code bu pe pr lv sv a ca hc hl
 by_cases h4:d=4
 ·subst h4;exact xc w p dr n code bu pe pr lv sv a ca hc hl
 by_cases h5:d=5
 ·subst h5;exact xR w p dr n code bu pe pr lv sv a ca hc hl
 exact we w d h1 h2 h3 h4 h5 p dr n code bu pe pr lv sv a ca
def dE (x:En):Prop:=(x.d=1∨x.p=0∧(x.dr:Int)=0)∧(x.d=2∨x.n=0)∧(x.d=3∨(x.code.length:Int)=0)∧(x.d=4∨(x.bu:Int)=0∧(x.pe:Int)=0)∧(x.d=5∨x.pr=0∧(x.lv:Int)=0∧x.sv=0)
theorem iA (w:World) (x:En) (a:Option Addr) (ca:Nat):
  Calls Tryz.prog 67 #[.agg #[.int .i64 x.d,.int .i64 x.p,.int .u64 (x.dr:Int),.int .i64 x.n,.slice a x.code.length ca,.int .u64 (x.bu:Int),.int .u64 (x.pe:Int),.int .i64 x.pr,.int .u8 (x.lv:Int),.int .i64 x.sv]] w fun e w'=> ∃B:Bool,e= .returned (.bool B)∧(B=true↔dE x)∧Below w.heap.size w w':=by
 obtain⟨q1,eq1⟩: ∃q,(x.d==1)=q:=⟨_,rfl⟩
 obtain⟨q2,eq2⟩: ∃q,(x.d==2)=q:=⟨_,rfl⟩
 obtain⟨q3,eq3⟩: ∃q,(x.d==3)=q:=⟨_,rfl⟩
 obtain⟨q4,eq4⟩: ∃q,(x.d==4)=q:=⟨_,rfl⟩
 obtain⟨q5,eq5⟩: ∃q,(x.d==5)=q:=⟨_,rfl⟩
 obtain⟨kp,ekp⟩: ∃q,(x.p==0)=q:=⟨_,rfl⟩
 obtain⟨kd,ekd⟩: ∃q,((x.dr:Int)==0)=q:=⟨_,rfl⟩
 obtain⟨kn,ekn⟩: ∃q,(x.n==0)=q:=⟨_,rfl⟩
 obtain⟨kc,ekc⟩: ∃q,((x.code.length:Int)==0)=q:=⟨_,rfl⟩
 obtain⟨kb,ekb⟩: ∃q,((x.bu:Int)==0)=q:=⟨_,rfl⟩
 obtain⟨ke,eke⟩: ∃q,((x.pe:Int)==0)=q:=⟨_,rfl⟩
 obtain⟨kr,ekr⟩: ∃q,(x.pr==0)=q:=⟨_,rfl⟩
 obtain⟨kl,ekl⟩: ∃q,((x.lv:Int)==0)=q:=⟨_,rfl⟩
 obtain⟨ks,eks⟩: ∃q,(x.sv==0)=q:=⟨_,rfl⟩
 have HR:Hid (((q1||(kp&&kd))&&(q2||kn)&&(q3||kc)&&(q4||(kb&&ke))&&(q5||(kr&&kl&&ks)))=true↔dE x):=by
  refine aa ?_
  unfold dE
  rw[←eq1,←eq2,←eq3,←eq4,←eq5,←ekp,←ekd,←ekn,←ekc,←ekb,←eke,←ekr,←ekl,←eks]
  simp only[Bool.and_eq_true,Bool.or_eq_true,beq_iff_eq,and_assoc]
 go_enter Tryz.func67,Tryz.ntmps67
 go_upto_region 1 with fail
 go_cut [3] (fun s W=>W=w.alloc (.cells #[.int .i64 x.d,.int .i64 x.p,.int .u64 (x.dr:Int),.int .i64 x.n,.slice a x.code.length ca,.int .u64 (x.bu:Int),.int .u64 (x.pe:Int),.int .i64 x.pr,.int .u8 (x.lv:Int),.int .i64 x.sv] 79)∧s= .bool (q1||(kp&&kd)))
 case first=>
  go_wp2_with fail
  all_goals (go_meet;exact⟨rfl,by simp_all⟩)
 obtain⟨rfl,rfl⟩:=hcut
 generalize hg3:(q1||(kp&&kd))=g3 at*
 have HG3:=aa hg3
 clear hg3
 go_upto_region 2 with fail
 go_cut [4] (fun s W=>W=w.alloc (.cells #[.int .i64 x.d,.int .i64 x.p,.int .u64 (x.dr:Int),.int .i64 x.n,.slice a x.code.length ca,.int .u64 (x.bu:Int),.int .u64 (x.pe:Int),.int .i64 x.pr,.int .u8 (x.lv:Int),.int .i64 x.sv] 79)∧s= .bool (q2||kn))
 case first=>
  go_wp2_with fail
  all_goals (go_meet;exact⟨rfl,by simp_all⟩)
 obtain⟨rfl,rfl⟩:=hcut
 generalize hg4:(q2||kn)=g4 at*
 have HG4:=aa hg4
 clear hg4
 go_upto_region 3 with fail
 go_cut [5] (fun s W=>W=w.alloc (.cells #[.int .i64 x.d,.int .i64 x.p,.int .u64 (x.dr:Int),.int .i64 x.n,.slice a x.code.length ca,.int .u64 (x.bu:Int),.int .u64 (x.pe:Int),.int .i64 x.pr,.int .u8 (x.lv:Int),.int .i64 x.sv] 79)∧s= .bool (q3||kc))
 case first=>
  go_wp2_with fail
  all_goals (go_meet;exact⟨rfl,by simp_all⟩)
 obtain⟨rfl,rfl⟩:=hcut
 generalize hg5:(q3||kc)=g5 at*
 have HG5:=aa hg5
 clear hg5
 go_upto_region 4 with fail
 go_cut [6] (fun s W=>W=w.alloc (.cells #[.int .i64 x.d,.int .i64 x.p,.int .u64 (x.dr:Int),.int .i64 x.n,.slice a x.code.length ca,.int .u64 (x.bu:Int),.int .u64 (x.pe:Int),.int .i64 x.pr,.int .u8 (x.lv:Int),.int .i64 x.sv] 79)∧s= .bool (q4||(kb&&ke)))
 case first=>
  go_wp2_with fail
  all_goals (go_meet;exact⟨rfl,by simp_all⟩)
 obtain⟨rfl,rfl⟩:=hcut
 generalize hg6:(q4||(kb&&ke))=g6 at*
 have HG6:=aa hg6
 clear hg6
 go_upto_region 5 with fail
 go_cut [7] (fun s W=>W=w.alloc (.cells #[.int .i64 x.d,.int .i64 x.p,.int .u64 (x.dr:Int),.int .i64 x.n,.slice a x.code.length ca,.int .u64 (x.bu:Int),.int .u64 (x.pe:Int),.int .i64 x.pr,.int .u8 (x.lv:Int),.int .i64 x.sv] 79)∧s= .bool (q5||(kr&&kl&&ks)))
 case first=>
  go_wp2_with fail
  all_goals (go_meet;exact⟨rfl,by simp_all⟩)
 obtain⟨rfl,rfl⟩:=hcut
 generalize hg7:(q5||(kr&&kl&&ks))=g7 at*
 have HG7:=aa hg7
 clear hg7
 go_wp2
 all_goals go_ret
 all_goals refine⟨_,rfl,?_,(Below.refl _ _).alloc (Nat.le_refl _) _⟩
 all_goals (have hr:=HR.out;simp_all)
def qd (P:Prop) (w:World) (e:Ending) (w':World):Prop:= ∃B:Bool,e= .returned (.bool B)∧(B=true↔P)∧Below w.heap.size w w'
theorem fp (x:En):aI x↔dE x∧((x.d=1∧0≤x.p∧x.p≤255)∨(x.d=2∧1≤x.n∧x.n≤65535)∨(x.d=3∧qg x.code)∨x.d=4∨(x.d=5∧0≤x.pr∧x.pr≤255∧ -1≤x.sv∧x.sv≤254)):=by
 constructor
 ·rintro(⟨e,h1,h2⟩|⟨e,h1,h2⟩|⟨e,h1⟩|e|⟨e,h1,h2,h3,h4⟩)
  ·refine⟨?_,.inl ⟨congrArg En.d e,h1,h2⟩⟩
   rw[e]
   simp[dE,cM]
  ·refine⟨?_,.inr (.inl ⟨congrArg En.d e,h1,h2⟩)⟩
   rw[e]
   simp[dE,cN]
  ·refine⟨?_,.inr (.inr (.inl ⟨congrArg En.d e,h1⟩))⟩
   rw[e]
   simp[dE,cA]
  ·refine⟨?_,.inr (.inr (.inr (.inl (congrArg En.d e))))⟩
   rw[e]
   simp[dE,cw]
  ·refine⟨?_,.inr (.inr (.inr (.inr ⟨congrArg En.d e,h1,h2,h3,h4⟩)))⟩
   rw[e]
   simp[dE,bV]
 ·obtain⟨d,p,dr,n,code,bu,pe,pr,lv,sv⟩:=x
  rintro⟨⟨b1,b2,b3,b4,b5⟩,h⟩
  simp only at b1 b2 b3 b4 b5 h
  rcases h with ⟨rfl,h1,h2⟩|⟨rfl,h1,h2⟩|⟨rfl,h1⟩|rfl|⟨rfl,h1,h2,h3,h4⟩
  ·refine .inl ⟨?_,h1,h2⟩
   simp_all [cM]
  ·refine .inr (.inl ⟨?_,h1,h2⟩)
   simp_all [cN]
  ·refine .inr (.inr (.inl ⟨?_,h1⟩))
   simp_all [cA]
  ·refine .inr (.inr (.inr (.inl ?_)))
   simp_all [cw]
  ·refine .inr (.inr (.inr (.inr ⟨?_,h1,h2,h3,h4⟩)))
   simp_all [bV]
theorem tx (w : World) (p : Int) (dr : Nat) (n : Int) (code : List (Int × Int)) (bu pe : Nat) (pr : Int) (lv : Nat) (sv : Int) (a : Option Addr) (ca : Nat) (hc : iZ w a code) (hl : code.length < 9223372036854775808) :
  Calls Tryz.prog 45 #[.agg #[.int .i64 1, .int .i64 p, .int .u64 (dr : Int), .int .i64 n, .slice a code.length ca, .int .u64 (bu : Int), .int .u64 (pe : Int), .int .i64 pr, .int .u8 (lv : Int), .int .i64 sv]] w fun e w' => ∃ B : Bool, e = .returned (.bool B) ∧ (B = true ↔ aI (⟨1, p, dr, n, code, bu, pe, pr, lv, sv⟩ : En)) ∧ Below w.heap.size w w' := by
 change Calls _ _ _ _ (fun e w' => qd (aI (⟨1, p, dr, n, code, bu, pe, pr, lv, sv⟩ : En)) w e w')
 have HBA : Hid (∀ W, Calls Tryz.prog 67 #[.agg #[.int .i64 1, .int .i64 p, .int .u64 (dr : Int), .int .i64 n, .slice a code.length ca, .int .u64 (bu : Int), .int .u64 (pe : Int), .int .i64 pr, .int .u8 (lv : Int), .int .i64 sv]] W fun e w' => ∃ B : Bool, e = .returned (.bool B) ∧ (B = true ↔ dE (⟨1, p, dr, n, code, bu, pe, pr, lv, sv⟩ : En)) ∧ Below W.heap.size W w') := fun W => iA W (⟨1, p, dr, n, code, bu, pe, pr, lv, sv⟩ : En) a ca
 have HR := aa (fp (⟨1, p, dr, n, code, bu, pe, pr, lv, sv⟩ : En))
 clear hc
 generalize dE _ = BE at HBA HR
 go_enter Tryz.func45, Tryz.ntmps45
 go_wp2_with (go_at_call 67; refine (HBA.out _).mono ?_; rintro e w1 ⟨B1, rfl, hB1, hb⟩; have HB1 := aa hB1; have HL1 := aa (((Below.refl _ _).alloc (Nat.le_refl _) _).trans (hb.mono (by simp))); have y0 := ak hb 0 _ rfl; have y1 := ak hb 1 _ rfl; have y2 := ak hb 2 _ rfl; have y3 := ak hb 3 _ rfl; have y4 := ak hb 4 _ rfl; have y5 := ak hb 5 _ rfl; have y6 := ak hb 6 _ rfl; have y7 := ak hb 7 _ rfl; have y8 := ak hb 8 _ rfl; have y9 := ak hb 9 _ rfl; clear hB1 hb)
 all_goals go_ret
 all_goals refine ⟨_, rfl, ?_, ?_⟩
 all_goals first
  | exact HL1.out
  | (rw [HR.out]
     have h1 := HB1.out
     try have h2 := HB2.out
     first
       | (simp_all; done)
       | (simp_all; intros; omega))
theorem tB (w : World) (p : Int) (dr : Nat) (n : Int) (code : List (Int × Int)) (bu pe : Nat) (pr : Int) (lv : Nat) (sv : Int) (a : Option Addr) (ca : Nat) (hc : iZ w a code) (hl : code.length < 9223372036854775808) :
  Calls Tryz.prog 45 #[.agg #[.int .i64 2, .int .i64 p, .int .u64 (dr : Int), .int .i64 n, .slice a code.length ca, .int .u64 (bu : Int), .int .u64 (pe : Int), .int .i64 pr, .int .u8 (lv : Int), .int .i64 sv]] w fun e w' => ∃ B : Bool, e = .returned (.bool B) ∧ (B = true ↔ aI (⟨2, p, dr, n, code, bu, pe, pr, lv, sv⟩ : En)) ∧ Below w.heap.size w w' := by
 change Calls _ _ _ _ (fun e w' => qd (aI (⟨2, p, dr, n, code, bu, pe, pr, lv, sv⟩ : En)) w e w')
 have HBA : Hid (∀ W, Calls Tryz.prog 67 #[.agg #[.int .i64 2, .int .i64 p, .int .u64 (dr : Int), .int .i64 n, .slice a code.length ca, .int .u64 (bu : Int), .int .u64 (pe : Int), .int .i64 pr, .int .u8 (lv : Int), .int .i64 sv]] W fun e w' => ∃ B : Bool, e = .returned (.bool B) ∧ (B = true ↔ dE (⟨2, p, dr, n, code, bu, pe, pr, lv, sv⟩ : En)) ∧ Below W.heap.size W w') := fun W => iA W (⟨2, p, dr, n, code, bu, pe, pr, lv, sv⟩ : En) a ca
 have HR := aa (fp (⟨2, p, dr, n, code, bu, pe, pr, lv, sv⟩ : En))
 clear hc
 generalize dE _ = BE at HBA HR
 go_enter Tryz.func45, Tryz.ntmps45
 go_wp2_with (go_at_call 67; refine (HBA.out _).mono ?_; rintro e w1 ⟨B1, rfl, hB1, hb⟩; have HB1 := aa hB1; have HL1 := aa (((Below.refl _ _).alloc (Nat.le_refl _) _).trans (hb.mono (by simp))); have y0 := ak hb 0 _ rfl; have y1 := ak hb 1 _ rfl; have y2 := ak hb 2 _ rfl; have y3 := ak hb 3 _ rfl; have y4 := ak hb 4 _ rfl; have y5 := ak hb 5 _ rfl; have y6 := ak hb 6 _ rfl; have y7 := ak hb 7 _ rfl; have y8 := ak hb 8 _ rfl; have y9 := ak hb 9 _ rfl; clear hB1 hb)
 all_goals go_ret
 all_goals refine ⟨_, rfl, ?_, ?_⟩
 all_goals first
  | exact HL1.out
  | (rw [HR.out]
     have h1 := HB1.out
     try have h2 := HB2.out
     first
       | (simp_all; done)
       | (simp_all; intros; omega))
theorem sB (w : World) (p : Int) (dr : Nat) (n : Int) (code : List (Int × Int)) (bu pe : Nat) (pr : Int) (lv : Nat) (sv : Int) (a : Option Addr) (ca : Nat) (hc : iZ w a code) (hl : code.length < 9223372036854775808) :
  Calls Tryz.prog 45 #[.agg #[.int .i64 3, .int .i64 p, .int .u64 (dr : Int), .int .i64 n, .slice a code.length ca, .int .u64 (bu : Int), .int .u64 (pe : Int), .int .i64 pr, .int .u8 (lv : Int), .int .i64 sv]] w fun e w' => ∃ B : Bool, e = .returned (.bool B) ∧ (B = true ↔ aI (⟨3, p, dr, n, code, bu, pe, pr, lv, sv⟩ : En)) ∧ Below w.heap.size w w' := by
 change Calls _ _ _ _ (fun e w' => qd (aI (⟨3, p, dr, n, code, bu, pe, pr, lv, sv⟩ : En)) w e w')
 have HBA : Hid (∀ W, Calls Tryz.prog 67 #[.agg #[.int .i64 3, .int .i64 p, .int .u64 (dr : Int), .int .i64 n, .slice a code.length ca, .int .u64 (bu : Int), .int .u64 (pe : Int), .int .i64 pr, .int .u8 (lv : Int), .int .i64 sv]] W fun e w' => ∃ B : Bool, e = .returned (.bool B) ∧ (B = true ↔ dE (⟨3, p, dr, n, code, bu, pe, pr, lv, sv⟩ : En)) ∧ Below W.heap.size W w') := fun W => iA W (⟨3, p, dr, n, code, bu, pe, pr, lv, sv⟩ : En) a ca
 have HR := aa (fp (⟨3, p, dr, n, code, bu, pe, pr, lv, sv⟩ : En))
 have HK : Hid (∀ W, Below w.heap.size w W → Calls Tryz.prog 68 #[.slice a code.length ca] W fun e w' => ∃ x y : Int, e = .returned (.tuple #[.int .i64 x, .int .i64 y]) ∧ (x = 0 ↔ qg code) ∧ Below W.heap.size W w') := fun W hb => (oS W a code.length ca hl (cO code) (cR code) (hc.below hb)).mono fun e w' ⟨x, y, h1, h2, h3⟩ => ⟨x, y, h1, ⟨fun q => ⟨y, by rw [← q]; exact h2⟩, fun ⟨y', q⟩ => (h2.one q).1.symm⟩, h3⟩
 generalize dE _ = BE at HBA HR
 clear hc
 go_enter Tryz.func45, Tryz.ntmps45
 go_wp2_with (first
  | (go_at_call 67; refine (HBA.out _).mono ?_; rintro e w1 ⟨B1, rfl, hB1, hb⟩; have HB1 := aa hB1; have HL1 := aa (((Below.refl _ _).alloc (Nat.le_refl _) _).trans (hb.mono (by simp))); have y0 := ak hb 0 _ rfl; have y1 := ak hb 1 _ rfl; have y2 := ak hb 2 _ rfl; have y3 := ak hb 3 _ rfl; have y4 := ak hb 4 _ rfl; have y5 := ak hb 5 _ rfl; have y6 := ak hb 6 _ rfl; have y7 := ak hb 7 _ rfl; have y8 := ak hb 8 _ rfl; have y9 := ak hb 9 _ rfl; clear hB1 hb)
  | (go_at_call 68; refine (HK.out _ HL1.out).mono ?_; rintro e w2 ⟨x, y, rfl, hk, hb⟩; have HB2 := aa hk; have HL2 := aa (HL1.out.trans (hb.mono HL1.out.size)); clear hk hb))
 all_goals go_ret
 all_goals refine ⟨_, rfl, ?_, ?_⟩
 all_goals first
  | exact HL1.out
  | exact HL2.out
  | (rw [HR.out]
     have h1 := HB1.out
     try have h2 := HB2.out
     first
       | (simp_all; done)
       | (simp_all; intros; omega))
theorem tJ (w : World) (p : Int) (dr : Nat) (n : Int) (code : List (Int × Int)) (bu pe : Nat) (pr : Int) (lv : Nat) (sv : Int) (a : Option Addr) (ca : Nat) (hc : iZ w a code) (hl : code.length < 9223372036854775808) :
  Calls Tryz.prog 45 #[.agg #[.int .i64 4, .int .i64 p, .int .u64 (dr : Int), .int .i64 n, .slice a code.length ca, .int .u64 (bu : Int), .int .u64 (pe : Int), .int .i64 pr, .int .u8 (lv : Int), .int .i64 sv]] w fun e w' => ∃ B : Bool, e = .returned (.bool B) ∧ (B = true ↔ aI (⟨4, p, dr, n, code, bu, pe, pr, lv, sv⟩ : En)) ∧ Below w.heap.size w w' := by
 change Calls _ _ _ _ (fun e w' => qd (aI (⟨4, p, dr, n, code, bu, pe, pr, lv, sv⟩ : En)) w e w')
 have HBA : Hid (∀ W, Calls Tryz.prog 67 #[.agg #[.int .i64 4, .int .i64 p, .int .u64 (dr : Int), .int .i64 n, .slice a code.length ca, .int .u64 (bu : Int), .int .u64 (pe : Int), .int .i64 pr, .int .u8 (lv : Int), .int .i64 sv]] W fun e w' => ∃ B : Bool, e = .returned (.bool B) ∧ (B = true ↔ dE (⟨4, p, dr, n, code, bu, pe, pr, lv, sv⟩ : En)) ∧ Below W.heap.size W w') := fun W => iA W (⟨4, p, dr, n, code, bu, pe, pr, lv, sv⟩ : En) a ca
 have HR := aa (fp (⟨4, p, dr, n, code, bu, pe, pr, lv, sv⟩ : En))
 clear hc
 generalize dE _ = BE at HBA HR
 go_enter Tryz.func45, Tryz.ntmps45
 go_wp2_with (go_at_call 67; refine (HBA.out _).mono ?_; rintro e w1 ⟨B1, rfl, hB1, hb⟩; have HB1 := aa hB1; have HL1 := aa (((Below.refl _ _).alloc (Nat.le_refl _) _).trans (hb.mono (by simp))); have y0 := ak hb 0 _ rfl; have y1 := ak hb 1 _ rfl; have y2 := ak hb 2 _ rfl; have y3 := ak hb 3 _ rfl; have y4 := ak hb 4 _ rfl; have y5 := ak hb 5 _ rfl; have y6 := ak hb 6 _ rfl; have y7 := ak hb 7 _ rfl; have y8 := ak hb 8 _ rfl; have y9 := ak hb 9 _ rfl; clear hB1 hb)
 all_goals go_ret
 all_goals refine ⟨_, rfl, ?_, ?_⟩
 all_goals first
  | exact HL1.out
  | (rw [HR.out]
     have h1 := HB1.out
     try have h2 := HB2.out
     first
       | (simp_all; done)
       | (simp_all; intros; omega))
theorem sE (w : World) (p : Int) (dr : Nat) (n : Int) (code : List (Int × Int)) (bu pe : Nat) (pr : Int) (lv : Nat) (sv : Int) (a : Option Addr) (ca : Nat) (hc : iZ w a code) (hl : code.length < 9223372036854775808) :
  Calls Tryz.prog 45 #[.agg #[.int .i64 5, .int .i64 p, .int .u64 (dr : Int), .int .i64 n, .slice a code.length ca, .int .u64 (bu : Int), .int .u64 (pe : Int), .int .i64 pr, .int .u8 (lv : Int), .int .i64 sv]] w fun e w' => ∃ B : Bool, e = .returned (.bool B) ∧ (B = true ↔ aI (⟨5, p, dr, n, code, bu, pe, pr, lv, sv⟩ : En)) ∧ Below w.heap.size w w' := by
 change Calls _ _ _ _ (fun e w' => qd (aI (⟨5, p, dr, n, code, bu, pe, pr, lv, sv⟩ : En)) w e w')
 have HBA : Hid (∀ W, Calls Tryz.prog 67 #[.agg #[.int .i64 5, .int .i64 p, .int .u64 (dr : Int), .int .i64 n, .slice a code.length ca, .int .u64 (bu : Int), .int .u64 (pe : Int), .int .i64 pr, .int .u8 (lv : Int), .int .i64 sv]] W fun e w' => ∃ B : Bool, e = .returned (.bool B) ∧ (B = true ↔ dE (⟨5, p, dr, n, code, bu, pe, pr, lv, sv⟩ : En)) ∧ Below W.heap.size W w') := fun W => iA W (⟨5, p, dr, n, code, bu, pe, pr, lv, sv⟩ : En) a ca
 have HR := aa (fp (⟨5, p, dr, n, code, bu, pe, pr, lv, sv⟩ : En))
 clear hc
 generalize dE _ = BE at HBA HR
 go_enter Tryz.func45, Tryz.ntmps45
 go_wp2_with (go_at_call 67; refine (HBA.out _).mono ?_; rintro e w1 ⟨B1, rfl, hB1, hb⟩; have HB1 := aa hB1; have HL1 := aa (((Below.refl _ _).alloc (Nat.le_refl _) _).trans (hb.mono (by simp))); have y0 := ak hb 0 _ rfl; have y1 := ak hb 1 _ rfl; have y2 := ak hb 2 _ rfl; have y3 := ak hb 3 _ rfl; have y4 := ak hb 4 _ rfl; have y5 := ak hb 5 _ rfl; have y6 := ak hb 6 _ rfl; have y7 := ak hb 7 _ rfl; have y8 := ak hb 8 _ rfl; have y9 := ak hb 9 _ rfl; clear hB1 hb)
 all_goals go_ret
 all_goals refine ⟨_, rfl, ?_, ?_⟩
 all_goals first
  | exact HL1.out
  | (rw [HR.out]
     have h1 := HB1.out
     try have h2 := HB2.out
     first
       | (simp_all; done)
       | (simp_all; intros; omega))
theorem ta (w:World) (d:Int) (h1:d≠1) (h2:d≠2) (h3:d≠3) (h4:d≠4) (h5:d≠5) (p:Int) (dr:Nat) (n:Int) (code:List (Int×Int)) (bu pe:Nat) (pr:Int) (lv:Nat) (sv:Int) (a:Option Addr) (ca:Nat):
  Calls Tryz.prog 45 #[.agg #[.int .i64 d,.int .i64 p,.int .u64 (dr:Int),.int .i64 n,.slice a code.length ca,.int .u64 (bu:Int),.int .u64 (pe:Int),.int .i64 pr,.int .u8 (lv:Int),.int .i64 sv]] w fun e w'=> ∃B:Bool,e= .returned (.bool B)∧(B=true↔aI (⟨d,p,dr,n,code,bu,pe,pr,lv,sv⟩:En))∧Below w.heap.size w w':=by
 change Calls _ _ _ _ (fun e w'=>qd (aI (⟨d,p,dr,n,code,bu,pe,pr,lv,sv⟩:En)) w e w')
 have HR:=aa (lu (x:=(⟨d,p,dr,n,code,bu,pe,pr,lv,sv⟩:En)) h1 h2 h3 h4 h5)
 have HBA:Hid (∀W,Calls Tryz.prog 67 #[.agg #[.int .i64 d,.int .i64 p,.int .u64 (dr:Int),.int .i64 n,.slice a code.length ca,.int .u64 (bu:Int),.int .u64 (pe:Int),.int .i64 pr,.int .u8 (lv:Int),.int .i64 sv]] W fun e w'=> ∃B:Bool,e= .returned (.bool B)∧(B=true↔dE (⟨d,p,dr,n,code,bu,pe,pr,lv,sv⟩:En))∧Below W.heap.size W w'):=fun W=>iA W (⟨d,p,dr,n,code,bu,pe,pr,lv,sv⟩:En) a ca
 have b1:(d==1)=false:=by simpa using h1
 have b2:(d==2)=false:=by simpa using h2
 have b3:(d==3)=false:=by simpa using h3
 have b4:(d==4)=false:=by simpa using h4
 have b5:(d==5)=false:=by simpa using h5
 clear h1 h2 h3 h4 h5
 go_enter Tryz.func45,Tryz.ntmps45
 go_wp2_with (go_at_call 67;refine(HBA.out _).mono ?_;rintro e w1 ⟨B1,rfl,hB1,hb⟩;have HB1:=aa hB1;have HL1:=aa (((Below.refl _ _).alloc (Nat.le_refl _) _).trans (hb.mono (by simp)));have y0:=ak hb 0 _ rfl;have y1:=ak hb 1 _ rfl;have y2:=ak hb 2 _ rfl;have y3:=ak hb 3 _ rfl;have y4:=ak hb 4 _ rfl;have y5:=ak hb 5 _ rfl;have y6:=ak hb 6 _ rfl;have y7:=ak hb 7 _ rfl;have y8:=ak hb 8 _ rfl;have y9:=ak hb 9 _ rfl;clear hB1 hb)
 all_goals go_ret
 all_goals exact⟨false,rfl,by simp[HR.out],HL1.out⟩
theorem l9 (w:World) (x:En) (a:Option Addr) (ca:Nat) (hc:iZ w a x.code) (hl:x.code.length<9223372036854775808):
  Calls Tryz.prog 45 #[.agg #[.int .i64 x.d,.int .i64 x.p,.int .u64 (x.dr:Int),.int .i64 x.n,.slice a x.code.length ca,.int .u64 (x.bu:Int),.int .u64 (x.pe:Int),.int .i64 x.pr,.int .u8 (x.lv:Int),.int .i64 x.sv]] w fun e w'=> ∃B:Bool,e= .returned (.bool B)∧(B=true↔aI x)∧Below w.heap.size w w':=by
 obtain⟨d,p,dr,n,code,bu,pe,pr,lv,sv⟩:=x
 by_cases h1:d=1
 ·subst h1;exact tx w p dr n code bu pe pr lv sv a ca hc hl
 by_cases h2:d=2
 ·subst h2;exact tB w p dr n code bu pe pr lv sv a ca hc hl
 by_cases h3:d=3
 ·subst h3;exact sB w p dr n code bu pe pr lv sv a ca hc hl
 by_cases h4:d=4
 ·subst h4;exact tJ w p dr n code bu pe pr lv sv a ca hc hl
 by_cases h5:d=5
 ·subst h5;exact sE w p dr n code bu pe pr lv sv a ca hc hl
 exact ta w d h1 h2 h3 h4 h5 p dr n code bu pe pr lv sv a ca
def Bx (W:World) (k:Nat) (c:Array Value) (t:TypeId):Prop:=W.heap[k]? =some (.cells c t (0,0))
section
variable {W W':World} {k:Nat} {c:Array Value} {t:TypeId}
theorem mE (w:World) (c:Array Value) (t:TypeId):Bx (w.alloc (.cells c t)) w.heap.size c t:=(MapKept.heap_alloc w _).1
theorem Bx.lt (h:Bx W k c t):k<W.heap.size:=(Array.getElem?_eq_some_iff.1 h).1
theorem Bx.alloc (h:Bx W k c t) (o:Obj):Bx (W.alloc o) k c t:=(Below.heap_alloc _ _ _ h.lt).trans h
theorem Bx.below (h:Bx W k c t) {B:Nat} (hb:Below B W W') (hk:k<B):Bx W' k c t:=(hb.block k hk).trans h
theorem Bx.grown (h:Bx W k c t) {row:Option Nat} (hg:W.grownBy W' row) (hr:row≠some k):Bx W' k c t:=(hg.block k h.lt (fun e=>hr e.symm)).trans h
theorem Bx.cell (h:Bx W k c t) (i:Nat) (u:Value) (hu:c[i]? =some u):W.cell? ⟨k,i,none⟩=some u:=by
 unfold World.cell?
 rw[show W.heap[(⟨k,i,none⟩:Addr).block]? =_ from h]
 exact hu
theorem mw {base:Nat} {e:TypeId} {s:Nat} {v:Value} {n:Nat} {xs:List Value} (ho:W.ownsRow base e s v n xs) (h:Bx W k c t) (he:e≠t):v.ownBlock≠some k:=by
 intro hk
 rcases ho.2 with ⟨rfl,_⟩|⟨g,cap,cur,rfl,hb,hg,_⟩
 ·simp[Value.ownBlock] at hk
 ·simp[Value.ownBlock] at hk
  subst hk
  unfold Bx at h
  rw[hg] at h
  injection h with h
  injection h with _ h _
  exact he h
end
theorem Dv: ∀(k N j:Nat),j<k→(be k N)[j]? =some (N/256^(k-1-j)%256)
 |k+1,N,0,_=>by simp[be]
 |k+1,N,j+1,h=>by
  have:=Dv k N j (by omega)
  simp only[be,List.getElem?_cons_succ,this]
  rw[show k+1-1-(j+1)=k-1-j by omega]
theorem Cj {k N j m:Nat} (h:j<k) (hm:m=k-1-j):dw ((be k N).take (j+1))=dw ((be k N).take j)++[a6 (N/256^m)]:=by
 have h1:=Dv k N j h
 rw[List.take_add_one,h1,hm]
 simp[dw,a6]
theorem Ei (k N:Nat):(be k N).take k=be k N:=List.take_of_length_le (by rw[bw];omega)
theorem yu (w:World) (N:Nat) (hN:N<18446744073709551616):
  Calls Tryz.prog 69 #[.int .u64 (N:Int)] w fun e w'=> ∃v',e= .returned v'∧w'.ownsRow w.heap.size 5 1 v' 8 (dw (be 8 N))∧Below w.heap.size w w':=by
 obtain⟨i0,hi,hz0,hz1,hz2⟩:=info_parts fA
 go_enter Tryz.func69,Tryz.ntmps69
 go_wp2
 go_loopw [3,4] (fun s i wr=> ∃(j:Nat),j≤8∧i= .int .i64 (j:Int)∧wr.ownsRow w.heap.size 5 1 s j (dw ((be 8 N).take j))∧Below w.heap.size w wr∧w.heap.size≤wr.heap.size) (fun _ i _=>8-(intOf i).toNat)
 case atStart=>exact⟨0,by omega,rfl,by simpa [dw] using World.ownsRow_nil _ _ _ _,Below.refl _ _,Nat.le_refl _⟩
 case round=>
  obtain⟨j,hj,rfl,ho,hg,hsz⟩:=hrel
  have HO1:=aa ho
  have HB:=aa hg
  clear ho hg
  by_cases hjk:j<8
  ·have HT:=aa (Cj (N:=N) (m:=7-j) hjk (by omega))
   have:j=0∨j=1∨j=2∨j=3∨j=4∨j=5∨j=6∨j=7:=by omega
   rcases this with rfl|rfl|rfl|rfl|rfl|rfl|rfl|rfl
   ·go_wp2_with (at_builtin;refine wpList_append_own _ rfl _ _ 43 rfl w.heap.size 5 i0 (.int .u8 0) 1 1 Tryz.underlying43 hi hz0 hz1 hz2 rfl (by decide) _ _ _ rfl (World.ownsRow.alloc HO1.out _) ⟨wr.heap.size,0,none⟩ 1 1 [_] rfl rfl (cell_one_new _ _ _) (by simp[Value.oneCell']) (by unfold maxLen;omega) (by omega) (by simp;omega) ?_;intro v' w1 hown' hgrow _;have HO2:=aa hown';have HG:=aa ((HB.out.alloc hsz _).grown hgrow (Nat.le_trans hsz (by simp)) (fun k hk=>(HO1.out.lt k hk).1));clear hown' hgrow)
    refine⟨⟨0+1,by omega,rfl,?_,HG.out,HG.out.size⟩,by decide⟩
    rw[HT.out]
    refine Eq.mp (congrArg (fun u=>w1.ownsRow w.heap.size 5 1 v' (0+1) (dw (List.take 0 (be 8 N))++[u])) ?_) HO2.out
    unfold a6
    rw[show(256:Nat)^(7-0)=72057594037927936 from rfl]
    first|(congr 1;done)|(congr 1;omega)
   ·go_wp2_with (at_builtin;refine wpList_append_own _ rfl _ _ 43 rfl w.heap.size 5 i0 (.int .u8 0) 1 1 Tryz.underlying43 hi hz0 hz1 hz2 rfl (by decide) _ _ _ rfl (World.ownsRow.alloc HO1.out _) ⟨wr.heap.size,0,none⟩ 1 1 [_] rfl rfl (cell_one_new _ _ _) (by simp[Value.oneCell']) (by unfold maxLen;omega) (by omega) (by simp;omega) ?_;intro v' w1 hown' hgrow _;have HO2:=aa hown';have HG:=aa ((HB.out.alloc hsz _).grown hgrow (Nat.le_trans hsz (by simp)) (fun k hk=>(HO1.out.lt k hk).1));clear hown' hgrow)
    refine⟨⟨1+1,by omega,rfl,?_,HG.out,HG.out.size⟩,by decide⟩
    rw[HT.out]
    refine Eq.mp (congrArg (fun u=>w1.ownsRow w.heap.size 5 1 v' (1+1) (dw (List.take 1 (be 8 N))++[u])) ?_) HO2.out
    unfold a6
    rw[show(256:Nat)^(7-1)=281474976710656 from rfl]
    first|(congr 1;done)|(congr 1;omega)
   ·go_wp2_with (at_builtin;refine wpList_append_own _ rfl _ _ 43 rfl w.heap.size 5 i0 (.int .u8 0) 1 1 Tryz.underlying43 hi hz0 hz1 hz2 rfl (by decide) _ _ _ rfl (World.ownsRow.alloc HO1.out _) ⟨wr.heap.size,0,none⟩ 1 1 [_] rfl rfl (cell_one_new _ _ _) (by simp[Value.oneCell']) (by unfold maxLen;omega) (by omega) (by simp;omega) ?_;intro v' w1 hown' hgrow _;have HO2:=aa hown';have HG:=aa ((HB.out.alloc hsz _).grown hgrow (Nat.le_trans hsz (by simp)) (fun k hk=>(HO1.out.lt k hk).1));clear hown' hgrow)
    refine⟨⟨2+1,by omega,rfl,?_,HG.out,HG.out.size⟩,by decide⟩
    rw[HT.out]
    refine Eq.mp (congrArg (fun u=>w1.ownsRow w.heap.size 5 1 v' (2+1) (dw (List.take 2 (be 8 N))++[u])) ?_) HO2.out
    unfold a6
    rw[show(256:Nat)^(7-2)=1099511627776 from rfl]
    first|(congr 1;done)|(congr 1;omega)
   ·go_wp2_with (at_builtin;refine wpList_append_own _ rfl _ _ 43 rfl w.heap.size 5 i0 (.int .u8 0) 1 1 Tryz.underlying43 hi hz0 hz1 hz2 rfl (by decide) _ _ _ rfl (World.ownsRow.alloc HO1.out _) ⟨wr.heap.size,0,none⟩ 1 1 [_] rfl rfl (cell_one_new _ _ _) (by simp[Value.oneCell']) (by unfold maxLen;omega) (by omega) (by simp;omega) ?_;intro v' w1 hown' hgrow _;have HO2:=aa hown';have HG:=aa ((HB.out.alloc hsz _).grown hgrow (Nat.le_trans hsz (by simp)) (fun k hk=>(HO1.out.lt k hk).1));clear hown' hgrow)
    refine⟨⟨3+1,by omega,rfl,?_,HG.out,HG.out.size⟩,by decide⟩
    rw[HT.out]
    refine Eq.mp (congrArg (fun u=>w1.ownsRow w.heap.size 5 1 v' (3+1) (dw (List.take 3 (be 8 N))++[u])) ?_) HO2.out
    unfold a6
    rw[show(256:Nat)^(7-3)=4294967296 from rfl]
    first|(congr 1;done)|(congr 1;omega)
   ·go_wp2_with (at_builtin;refine wpList_append_own _ rfl _ _ 43 rfl w.heap.size 5 i0 (.int .u8 0) 1 1 Tryz.underlying43 hi hz0 hz1 hz2 rfl (by decide) _ _ _ rfl (World.ownsRow.alloc HO1.out _) ⟨wr.heap.size,0,none⟩ 1 1 [_] rfl rfl (cell_one_new _ _ _) (by simp[Value.oneCell']) (by unfold maxLen;omega) (by omega) (by simp;omega) ?_;intro v' w1 hown' hgrow _;have HO2:=aa hown';have HG:=aa ((HB.out.alloc hsz _).grown hgrow (Nat.le_trans hsz (by simp)) (fun k hk=>(HO1.out.lt k hk).1));clear hown' hgrow)
    refine⟨⟨4+1,by omega,rfl,?_,HG.out,HG.out.size⟩,by decide⟩
    rw[HT.out]
    refine Eq.mp (congrArg (fun u=>w1.ownsRow w.heap.size 5 1 v' (4+1) (dw (List.take 4 (be 8 N))++[u])) ?_) HO2.out
    unfold a6
    rw[show(256:Nat)^(7-4)=16777216 from rfl]
    first|(congr 1;done)|(congr 1;omega)
   ·go_wp2_with (at_builtin;refine wpList_append_own _ rfl _ _ 43 rfl w.heap.size 5 i0 (.int .u8 0) 1 1 Tryz.underlying43 hi hz0 hz1 hz2 rfl (by decide) _ _ _ rfl (World.ownsRow.alloc HO1.out _) ⟨wr.heap.size,0,none⟩ 1 1 [_] rfl rfl (cell_one_new _ _ _) (by simp[Value.oneCell']) (by unfold maxLen;omega) (by omega) (by simp;omega) ?_;intro v' w1 hown' hgrow _;have HO2:=aa hown';have HG:=aa ((HB.out.alloc hsz _).grown hgrow (Nat.le_trans hsz (by simp)) (fun k hk=>(HO1.out.lt k hk).1));clear hown' hgrow)
    refine⟨⟨5+1,by omega,rfl,?_,HG.out,HG.out.size⟩,by decide⟩
    rw[HT.out]
    refine Eq.mp (congrArg (fun u=>w1.ownsRow w.heap.size 5 1 v' (5+1) (dw (List.take 5 (be 8 N))++[u])) ?_) HO2.out
    unfold a6
    rw[show(256:Nat)^(7-5)=65536 from rfl]
    first|(congr 1;done)|(congr 1;omega)
   ·go_wp2_with (at_builtin;refine wpList_append_own _ rfl _ _ 43 rfl w.heap.size 5 i0 (.int .u8 0) 1 1 Tryz.underlying43 hi hz0 hz1 hz2 rfl (by decide) _ _ _ rfl (World.ownsRow.alloc HO1.out _) ⟨wr.heap.size,0,none⟩ 1 1 [_] rfl rfl (cell_one_new _ _ _) (by simp[Value.oneCell']) (by unfold maxLen;omega) (by omega) (by simp;omega) ?_;intro v' w1 hown' hgrow _;have HO2:=aa hown';have HG:=aa ((HB.out.alloc hsz _).grown hgrow (Nat.le_trans hsz (by simp)) (fun k hk=>(HO1.out.lt k hk).1));clear hown' hgrow)
    refine⟨⟨6+1,by omega,rfl,?_,HG.out,HG.out.size⟩,by decide⟩
    rw[HT.out]
    refine Eq.mp (congrArg (fun u=>w1.ownsRow w.heap.size 5 1 v' (6+1) (dw (List.take 6 (be 8 N))++[u])) ?_) HO2.out
    unfold a6
    rw[show(256:Nat)^(7-6)=256 from rfl]
    first|(congr 1;done)|(congr 1;omega)
   ·go_wp2_with (at_builtin;refine wpList_append_own _ rfl _ _ 43 rfl w.heap.size 5 i0 (.int .u8 0) 1 1 Tryz.underlying43 hi hz0 hz1 hz2 rfl (by decide) _ _ _ rfl (World.ownsRow.alloc HO1.out _) ⟨wr.heap.size,0,none⟩ 1 1 [_] rfl rfl (cell_one_new _ _ _) (by simp[Value.oneCell']) (by unfold maxLen;omega) (by omega) (by simp;omega) ?_;intro v' w1 hown' hgrow _;have HO2:=aa hown';have HG:=aa ((HB.out.alloc hsz _).grown hgrow (Nat.le_trans hsz (by simp)) (fun k hk=>(HO1.out.lt k hk).1));clear hown' hgrow)
    refine⟨⟨7+1,by omega,rfl,?_,HG.out,HG.out.size⟩,by decide⟩
    rw[HT.out]
    refine Eq.mp (congrArg (fun u=>w1.ownsRow w.heap.size 5 1 v' (7+1) (dw (List.take 7 (be 8 N))++[u])) ?_) HO2.out
    unfold a6
    rw[show(256:Nat)^(7-7)=1 from rfl]
    first|(congr 1;done)|(congr 1;omega)
  ·obtain rfl:j=8:=by omega
   have HF:=HO1.out
   rw[Ei] at HF
   have HF2:=aa HF
   clear HF
   go_wp2
   go_ret
   exact⟨_,rfl,HF2.out,HB.out⟩
theorem kh {W:World} {base:Nat} {e:TypeId} {s:Nat} {v:Value} {n n':Nat} {xs xs':List Value} (ho:W.ownsRow base e s v n xs) (hn:n=n') (hx:xs=xs'):W.ownsRow base e s v n' xs':=by
 subst hn hx
 exact ho
theorem ku (w:World) (l:List Value) (t:TypeId): ∀j u,l[j]? =some u→(w.alloc (.cells l.toArray t)).cell? ((⟨w.heap.size,0,none⟩:Addr).add j)=some u:=by
 intro j u hu
 exact World.news_of_block (cs:=l.toArray) ((MapKept.heap_alloc w _).1) j u (by simpa using hu)
theorem j8 (ys:List Nat): ∀u∈dw ys,u.oneCell'=true:=by
 intro u hu
 simp only[dw,List.mem_map] at hu
 obtain⟨x,_,rfl⟩:=hu
 rfl
theorem ts (a b:List Nat):dw (a++b)=dw a++dw b:=by simp[dw]
theorem jk (a:List Nat):(dw a).length=a.length:=by simp[dw]
structure CM (w:World) (lb o:Nat) (x:En) (ca:Option Addr) (cc:Nat):Prop where
 c0:w.cell? ⟨lb,o,none⟩=some (.int .i64 x.d)
 c1:w.cell? ⟨lb,o+1,none⟩=some (.int .i64 x.p)
 c2:w.cell? ⟨lb,o+2,none⟩=some (.int .u64 (x.dr:Int))
 c3:w.cell? ⟨lb,o+3,none⟩=some (.int .i64 x.n)
 c4:w.cell? ⟨lb,o+4,none⟩=some (.slice ca x.code.length cc)
 c5:w.cell? ⟨lb,o+5,none⟩=some (.int .u64 (x.bu:Int))
 c6:w.cell? ⟨lb,o+6,none⟩=some (.int .u64 (x.pe:Int))
 c7:w.cell? ⟨lb,o+7,none⟩=some (.int .i64 x.pr)
 c8:w.cell? ⟨lb,o+8,none⟩=some (.int .u8 (x.lv:Int))
 c9:w.cell? ⟨lb,o+9,none⟩=some (.int .i64 x.sv)
 qP:iZ w ca x.code
 len:x.code.length<9223372036854775808
 cap:x.code.length≤64∨(x.code.length≤cc∧cc<9223372036854775808)
 wf:r9 x
theorem CM.below {w w':World} {lb o:Nat} {x:En} {ca:Option Addr} {cc:Nat} (h:CM w lb o x ca cc) (hl:lb<w.heap.size) (hb:Below w.heap.size w w'):CM w' lb o x ca cc where
 c0:=(hb.cell (p:=⟨lb,o,none⟩) hl).trans h.c0
 c1:=(hb.cell (p:=⟨lb,o+1,none⟩) hl).trans h.c1
 c2:=(hb.cell (p:=⟨lb,o+2,none⟩) hl).trans h.c2
 c3:=(hb.cell (p:=⟨lb,o+3,none⟩) hl).trans h.c3
 c4:=(hb.cell (p:=⟨lb,o+4,none⟩) hl).trans h.c4
 c5:=(hb.cell (p:=⟨lb,o+5,none⟩) hl).trans h.c5
 c6:=(hb.cell (p:=⟨lb,o+6,none⟩) hl).trans h.c6
 c7:=(hb.cell (p:=⟨lb,o+7,none⟩) hl).trans h.c7
 c8:=(hb.cell (p:=⟨lb,o+8,none⟩) hl).trans h.c8
 c9:=(hb.cell (p:=⟨lb,o+9,none⟩) hl).trans h.c9
 qP:=h.qP.below hb
 len:=h.len
 cap:=h.cap
 wf:=h.wf
def Ib (w:World) (a:Option Addr) (L:List En):Prop:=
 L=[]∨ ∃lb off,a=some ⟨lb,off,none⟩∧lb<w.heap.size∧ ∀j x,L[j]? =some x→ ∃ca cc,CM w lb (off+j*10) x ca cc
theorem yn: ∀(L:List En),(∀x∈L,aI x)→(all L).length≤258*L.length
 |[],_=>by simp[all]
 |x::L,h=>by
  have h1:=rL (h x (by simp))
  have h2:=yn L (fun y hy=>h y (by simp[hy]))
  rw[all_cons,List.length_append,List.length_cons]
  omega
theorem take_one {L:List En} {j:Nat} {x:En} (h:L[j]? =some x):L.take (j+1)=L.take j++[x]:=by
 rw[List.take_add_one,h]
 rfl
def Fs (w:World) (L:List En) (e:Ending) (w':World):Prop:=
 Below w.heap.size w w'∧(((∀x∈L,aI x)∧ ∃v,e= .returned (.tuple #[v,.int .i64 0])∧w'.ownsRow w.heap.size 5 1 v (all L).length (dw (all L)))∨((¬ ∀x∈L,aI x)∧e= .returned (.tuple #[.slice none 0 0,.int .i64 3])))
theorem ug (w:World) (x:En) (a:Option Addr) (ca:Nat) (hc:iZ w a x.code) (hl:x.code.length<9223372036854775808) (hr:aI x):
  Calls Tryz.prog 21 #[.agg #[.int .i64 x.d,.int .i64 x.p,.int .u64 (x.dr:Int),.int .i64 x.n,.slice a x.code.length ca,.int .u64 (x.bu:Int),.int .u64 (x.pe:Int),.int .i64 x.pr,.int .u8 (x.lv:Int),.int .i64 x.sv]] w fun e w'=>e= .returned (.bool true)∧Below w.heap.size w w':=(oC w x a ca hc hl).mono fun e w' ⟨B,he,hB,hb⟩=>by
 obtain rfl:B=true:=hB.2 hr
 exact⟨he,hb⟩
theorem vW (w:World) (x:En) (a:Option Addr) (ca:Nat) (hc:iZ w a x.code) (hl:x.code.length<9223372036854775808) (hr: ¬aI x):
  Calls Tryz.prog 21 #[.agg #[.int .i64 x.d,.int .i64 x.p,.int .u64 (x.dr:Int),.int .i64 x.n,.slice a x.code.length ca,.int .u64 (x.bu:Int),.int .u64 (x.pe:Int),.int .i64 x.pr,.int .u8 (x.lv:Int),.int .i64 x.sv]] w fun e w'=>e= .returned (.bool false)∧Below w.heap.size w w':=(oC w x a ca hc hl).mono fun e w' ⟨B,he,hB,hb⟩=>by
 obtain rfl:B=false:=by
  cases B
  ·rfl
  ·exact absurd (hB.1 rfl) hr
 exact⟨he,hb⟩
theorem bn {B:Nat} {w w':World} (h:Below B w w'):Below B w w'.drew:=⟨h.os,h.tape,h.output,h.size,h.block⟩
theorem dN (w:World) (o:Obj) (v:Value) (t:TypeId):((w.alloc o).alloc (.cells #[v] t)).ownsRow w.heap.size t 1 (.slice (some ⟨w.heap.size+1,0,none⟩) 1 1) 1 [v]:=by
 have h:=ve (w.alloc o) w.heap.size (by simp) v t
 rw[show(w.alloc o).heap.size=w.heap.size+1 by simp] at h
 exact h
theorem lY (W:World) (N:Nat) (hN:N<18446744073709551616):
  Calls Tryz.prog 69 #[.int .u64 (N:Int)] W fun e w'=> ∃g cap,e= .returned (.slice (some ⟨g,0,none⟩) 8 cap)∧(∀j u,(dw (be 8 N))[j]? =some u→w'.cell? ((⟨g,0,none⟩:Addr).add j)=some u)∧Below W.heap.size W w':=
 (yu W N hN).mono fun e w' ⟨v,he,ho,hb⟩=>by
  rcases ho.2 with ⟨_,h0⟩|⟨g,cap,cur,rfl,_⟩
  ·omega
  ·exact⟨g,cap,he,ho.cells rfl,hb⟩
theorem pX (N:Nat):(dw (be 8 N)).length=8*1:=by rw[jk,bw]
theorem CU (w:World) (a:Option Addr) (ca:Nat) (p dr:Nat) (hp:p<256) (hdr:dr<18446744073709551616):
  Calls Tryz.prog 46 #[.agg #[.int .i64 1,.int .i64 (p:Int),.int .u64 (dr:Int),.int .i64 0,.slice a 0 ca,.int .u64 0,.int .u64 0,.int .i64 0,.int .u8 0,.int .i64 0]] w fun e w'=> ∃v',e= .returned v'∧w'.ownsRow w.heap.size 5 1 v' (1::p::be 8 dr).length (dw (1::p::be 8 dr))∧Below w.heap.size w w':=by
 obtain⟨i0,hi,hz0,hz1,hz2⟩:=info_parts fA
 have HE8:=aa (fun W=>lY W dr hdr)
 have hwr:IntKind.u8.wrap (p:Int)=(p:Int):=by rw[rv];omega
 obtain⟨W0,hW0⟩: ∃W,W=(w.alloc (.cells #[.int .i64 1,.int .i64 (p:Int),.int .u64 (dr:Int),.int .i64 0,.slice a 0 ca,.int .u64 0,.int .u64 0,.int .i64 0,.int .u8 0,.int .i64 0] 79)).alloc (.cells #[.int .u8 1] 5):=⟨_,rfl⟩
 have HB0:Hid (Below w.heap.size w W0):=by rw[hW0];exact bD w _ _ _ _
 have BX0:Hid (Bx W0 w.heap.size #[.int .i64 1,.int .i64 (p:Int),.int .u64 (dr:Int),.int .i64 0,.slice a 0 ca,.int .u64 0,.int .u64 0,.int .i64 0,.int .u8 0,.int .i64 0] 79):=by rw[hW0];exact(mE w _ _).alloc _
 have OW0:Hid (W0.ownsRow w.heap.size 5 1 (.slice (some ⟨w.heap.size+1,0,none⟩) 1 1) 1 [.int .u8 1]):=by rw[hW0];exact dN w _ _ _
 have hs0:=HB0.out.size
 have HW0:=aa hW0
 clear hW0
 go_enter Tryz.func46,Tryz.ntmps46
 go_wp2_with fail
 rw[←HW0.out]
 clear HW0
 refine wp_region_held_drew (S:=(fun W=>W.cell? ⟨w.heap.size,1,none⟩=some (.int .i64 (p:Int))∧W.cell? ⟨w.heap.size,2,none⟩=some (.int .u64 (dr:Int)))) (by kernel_rfl) ⟨BX0.out.cell 1 _ rfl,BX0.out.cell 2 _ rfl⟩ (fun hHeld=> ?_)
 refine aF 0 (v:= ?_) rfl ?v0 ?_
 case v0=>(intro w hSw;(try dsimp only at hSw);go_simp;try with_reducible rfl)
 try simp only[ao]
 refine aF 1 (v:= ?_) rfl ?v1 ?_
 case v1=>(intro w hSw;(try dsimp only at hSw);go_simp;try with_reducible rfl)
 try simp only[ao]
 refine aF 2 (v:= ?_) rfl ?v2 ?_
 case v2=>(intro w hSw;(try dsimp only at hSw);go_simp;try with_reducible rfl)
 try simp only[ao]
 refine aF 3 (v:= ?_) rfl ?v3 ?_
 case v3=>(intro w hSw;(try dsimp only at hSw);go_simp;try with_reducible rfl)
 try simp only[ao]
 refine aF 6 (v:= ?_) rfl ?v6 ?_
 case v6=>(intro w hSw;(try dsimp only at hSw);go_simp;try with_reducible rfl)
 try simp only[ao]
 refine aF 7 (v:= ?_) rfl ?v7 ?_
 case v7=>(intro w hSw;(try dsimp only at hSw);go_simp;try with_reducible rfl)
 try simp only[ao]
 refine bc 4 rfl (fun K hK=> ?_)
 go_simp
 refine hK.out _ _ ?_ (fun hHeld=> ?_)
 ·exact⟨(BX0.out.alloc _).cell 1 _ rfl,(BX0.out.alloc _).cell 2 _ rfl⟩
 clear hK K
 try simp only[ao]
 refine bc 5 rfl (fun K hK=> ?_)
 refine aK _ (by rfl) _ _ _ (by rfl) w.heap.size 5 i0 (.int .u8 0) 1 1 Tryz.underlying43 hi hz0 hz1 hz2 rfl (by omega) (.slice (some ⟨w.heap.size+1,0,none⟩) 1 1) 1 _ (by rfl) (fP (World.ownsRow.alloc OW0.out _) rfl) ⟨W0.heap.size,0,none⟩ 1 1 [.int .u8 (p:Int)] (by rfl) rfl (cell_one_new W0 _ _) (by simp[Value.oneCell']) (by unfold maxLen;omega) (by omega) (by simp;omega) ?_
 intro v5 w5 ho5 hg5
 have OW5:=aa ho5
 have BX5:=aa (Bx.grown (show Bx (W0.alloc (.cells #[.int .u8 (p:Int)] 5)).drew _ _ _ from BX0.out.alloc _) hg5 (mw OW0.out BX0.out (by decide)))
 have HB5:=aa ((bn (HB0.out.alloc hs0 _)).grown hg5 (by simp;omega) (fun k hk=>(OW0.out.lt k hk).1))
 have hs5:=HB5.out.size
 clear ho5 hg5
 refine hK.out _ _ ?_ (fun hHeld=> ?_)
 ·exact⟨BX5.out.cell 1 _ rfl,BX5.out.cell 2 _ rfl⟩
 clear hK K
 try simp only[ao]
 refine bc 8 rfl (fun K hK=> ?_)
 go_simp
 refine(HE8.out _).mono ?_
 rintro e w8 ⟨g8,c8,rfl,hn8,hb8⟩
 have N8:=aa hn8
 have OW8:=aa (cF OW5.out hb8)
 have BX8:=aa (BX5.out.below hb8 BX5.out.lt)
 have HB8:=aa (HB5.out.trans (hb8.mono hs5))
 have hs8:=HB8.out.size
 clear hn8 hb8
 dsimp only
 refine hK.out _ _ ?_ (fun hHeld=> ?_)
 ·exact⟨BX8.out.cell 1 _ rfl,BX8.out.cell 2 _ rfl⟩
 clear hK K
 try simp only[ao]
 refine bc 9 rfl (fun K hK=> ?_)
 refine aK _ (by rfl) _ _ _ (by rfl) w.heap.size 5 i0 (.int .u8 0) 1 1 Tryz.underlying43 hi hz0 hz1 hz2 rfl (by omega) v5 (1+1) _ (by rfl) (OW8.out) ⟨g8,0,none⟩ 8 c8 (dw (be 8 dr)) (by rfl) (pX _) N8.out (j8 _) (by unfold maxLen;omega) (by omega) (hs8) ?_
 intro v9 w9 ho9 hg9
 have OW9:=aa ho9
 have BX9:=aa (BX8.out.grown hg9 (mw OW8.out BX8.out (by decide)))
 have HB9:=aa (HB8.out.grown hg9 hs8 (fun k hk=>(OW8.out.lt k hk).1))
 clear ho9 hg9
 refine hK.out _ _ ?_ (fun hHeld=> ?_)
 ·exact⟨BX9.out.cell 1 _ rfl,BX9.out.cell 2 _ rfl⟩
 clear hK K
 try simp only[ao]
 refine aF 10 (v:= ?_) rfl ?v10 ?_
 case v10=>(intro w hSw;(try dsimp only at hSw);go_simp;try with_reducible rfl)
 try simp only[ao]
 refine wpAnyH_done (by kernel_rfl) ?_ _
 skip
 go_wp2
 go_ret
 refine⟨_,rfl,kh OW9.out (by simp[bw]) ?_,HB9.out⟩
 simp[dw]
theorem CX (w:World) (a:Option Addr) (ca:Nat) (bu pe:Nat) (hbu:bu<18446744073709551616) (hpe:pe<18446744073709551616):
  Calls Tryz.prog 46 #[.agg #[.int .i64 4,.int .i64 0,.int .u64 0,.int .i64 0,.slice a 0 ca,.int .u64 (bu:Int),.int .u64 (pe:Int),.int .i64 0,.int .u8 0,.int .i64 0]] w fun e w'=> ∃v',e= .returned v'∧w'.ownsRow w.heap.size 5 1 v' (4::(be 8 bu++be 8 pe)).length (dw (4::(be 8 bu++be 8 pe)))∧Below w.heap.size w w':=by
 obtain⟨i0,hi,hz0,hz1,hz2⟩:=info_parts fA
 have HE3:=aa (fun W=>lY W bu hbu)
 have HE8:=aa (fun W=>lY W pe hpe)
 obtain⟨W0,hW0⟩: ∃W,W=(w.alloc (.cells #[.int .i64 4,.int .i64 0,.int .u64 0,.int .i64 0,.slice a 0 ca,.int .u64 (bu:Int),.int .u64 (pe:Int),.int .i64 0,.int .u8 0,.int .i64 0] 79)).alloc (.cells #[.int .u8 4] 5):=⟨_,rfl⟩
 have HB0:Hid (Below w.heap.size w W0):=by rw[hW0];exact bD w _ _ _ _
 have BX0:Hid (Bx W0 w.heap.size #[.int .i64 4,.int .i64 0,.int .u64 0,.int .i64 0,.slice a 0 ca,.int .u64 (bu:Int),.int .u64 (pe:Int),.int .i64 0,.int .u8 0,.int .i64 0] 79):=by rw[hW0];exact(mE w _ _).alloc _
 have OW0:Hid (W0.ownsRow w.heap.size 5 1 (.slice (some ⟨w.heap.size+1,0,none⟩) 1 1) 1 [.int .u8 4]):=by rw[hW0];exact dN w _ _ _
 have hs0:=HB0.out.size
 have HW0:=aa hW0
 clear hW0
 go_enter Tryz.func46,Tryz.ntmps46
 go_wp2_with fail
 rw[←HW0.out]
 clear HW0
 refine wp_region_held_drew (S:=(fun W=>W.cell? ⟨w.heap.size,5,none⟩=some (.int .u64 (bu:Int))∧W.cell? ⟨w.heap.size,6,none⟩=some (.int .u64 (pe:Int)))) (by kernel_rfl) ⟨BX0.out.cell 5 _ rfl,BX0.out.cell 6 _ rfl⟩ (fun hHeld=> ?_)
 refine aF 0 (v:= ?_) rfl ?v0 ?_
 case v0=>(intro w hSw;(try dsimp only at hSw);go_simp;try with_reducible rfl)
 try simp only[ao]
 refine aF 1 (v:= ?_) rfl ?v1 ?_
 case v1=>(intro w hSw;(try dsimp only at hSw);go_simp;try with_reducible rfl)
 try simp only[ao]
 refine aF 2 (v:= ?_) rfl ?v2 ?_
 case v2=>(intro w hSw;(try dsimp only at hSw);go_simp;try with_reducible rfl)
 try simp only[ao]
 refine aF 5 (v:= ?_) rfl ?v5 ?_
 case v5=>(intro w hSw;(try dsimp only at hSw);go_simp;try with_reducible rfl)
 try simp only[ao]
 refine aF 6 (v:= ?_) rfl ?v6 ?_
 case v6=>(intro w hSw;(try dsimp only at hSw);go_simp;try with_reducible rfl)
 try simp only[ao]
 refine bc 3 rfl (fun K hK=> ?_)
 go_simp
 refine(HE3.out _).mono ?_
 rintro e w3 ⟨g3,c3,rfl,hn3,hb3⟩
 have N3:=aa hn3
 have OW3:=aa (cF (fP (w':=W0.drew) OW0.out rfl) hb3)
 have BX3:=aa (Bx.below (show Bx W0.drew _ _ _ from BX0.out) hb3 BX0.out.lt)
 have HB3:=aa ((bn HB0.out).trans (hb3.mono hs0))
 have hs3:=HB3.out.size
 clear hn3 hb3
 dsimp only
 refine hK.out _ _ ?_ (fun hHeld=> ?_)
 ·exact⟨BX3.out.cell 5 _ rfl,BX3.out.cell 6 _ rfl⟩
 clear hK K
 try simp only[ao]
 refine bc 4 rfl (fun K hK=> ?_)
 refine aK _ (by rfl) _ _ _ (by rfl) w.heap.size 5 i0 (.int .u8 0) 1 1 Tryz.underlying43 hi hz0 hz1 hz2 rfl (by omega) (.slice (some ⟨w.heap.size+1,0,none⟩) 1 1) 1 _ (by rfl) (OW3.out) ⟨g3,0,none⟩ 8 c3 (dw (be 8 bu)) (by rfl) (pX _) N3.out (j8 _) (by unfold maxLen;omega) (by omega) (hs3) ?_
 intro v5 w5 ho5 hg5
 have OW5:=aa ho5
 have BX5:=aa (BX3.out.grown hg5 (mw OW3.out BX3.out (by decide)))
 have HB5:=aa (HB3.out.grown hg5 hs3 (fun k hk=>(OW3.out.lt k hk).1))
 have hs5:=HB5.out.size
 clear ho5 hg5
 refine hK.out _ _ ?_ (fun hHeld=> ?_)
 ·exact⟨BX5.out.cell 5 _ rfl,BX5.out.cell 6 _ rfl⟩
 clear hK K
 try simp only[ao]
 refine bc 7 rfl (fun K hK=> ?_)
 go_simp
 refine(HE8.out _).mono ?_
 rintro e w8 ⟨g8,c8,rfl,hn8,hb8⟩
 have N8:=aa hn8
 have OW8:=aa (cF OW5.out hb8)
 have BX8:=aa (BX5.out.below hb8 BX5.out.lt)
 have HB8:=aa (HB5.out.trans (hb8.mono hs5))
 have hs8:=HB8.out.size
 clear hn8 hb8
 dsimp only
 refine hK.out _ _ ?_ (fun hHeld=> ?_)
 ·exact⟨BX8.out.cell 5 _ rfl,BX8.out.cell 6 _ rfl⟩
 clear hK K
 try simp only[ao]
 refine bc 8 rfl (fun K hK=> ?_)
 refine aK _ (by rfl) _ _ _ (by rfl) w.heap.size 5 i0 (.int .u8 0) 1 1 Tryz.underlying43 hi hz0 hz1 hz2 rfl (by omega) v5 (1+8) _ (by rfl) (OW8.out) ⟨g8,0,none⟩ 8 c8 (dw (be 8 pe)) (by rfl) (pX _) N8.out (j8 _) (by unfold maxLen;omega) (by omega) (hs8) ?_
 intro v9 w9 ho9 hg9
 have OW9:=aa ho9
 have BX9:=aa (BX8.out.grown hg9 (mw OW8.out BX8.out (by decide)))
 have HB9:=aa (HB8.out.grown hg9 hs8 (fun k hk=>(OW8.out.lt k hk).1))
 clear ho9 hg9
 refine hK.out _ _ ?_ (fun hHeld=> ?_)
 ·exact⟨BX9.out.cell 5 _ rfl,BX9.out.cell 6 _ rfl⟩
 clear hK K
 try simp only[ao]
 refine aF 9 (v:= ?_) rfl ?v9 ?_
 case v9=>(intro w hSw;(try dsimp only at hSw);go_simp;try with_reducible rfl)
 try simp only[ao]
 refine wpAnyH_done (by kernel_rfl) ?_ _
 skip
 go_wp2
 go_ret
 refine⟨_,rfl,kh OW9.out (by simp[bw]) ?_,HB9.out⟩
 simp[dw]
theorem BV (w:World) (a:Option Addr) (ca:Nat) (k:Nat) (hk:k<65536):
  Calls Tryz.prog 46 #[.agg #[.int .i64 2,.int .i64 0,.int .u64 0,.int .i64 (k:Int),.slice a 0 ca,.int .u64 0,.int .u64 0,.int .i64 0,.int .u8 0,.int .i64 0]] w fun e w'=> ∃v',e= .returned v'∧w'.ownsRow w.heap.size 5 1 v' (2::be 2 k).length (dw (2::be 2 k))∧Below w.heap.size w w':=by
 obtain⟨i0,hi,hz0,hz1,hz2⟩:=info_parts fA
 have HB0:Hid (Below w.heap.size w ((w.alloc (.cells #[.int .i64 2,.int .i64 0,.int .u64 0,.int .i64 (k:Int),.slice a 0 ca,.int .u64 0,.int .u64 0,.int .i64 0,.int .u8 0,.int .i64 0] 79)).alloc (.cells #[.int .u8 2] 5))):=bD w _ _ _ _
 have OW0:Hid (((w.alloc (.cells #[.int .i64 2,.int .i64 0,.int .u64 0,.int .i64 (k:Int),.slice a 0 ca,.int .u64 0,.int .u64 0,.int .i64 0,.int .u8 0,.int .i64 0] 79)).alloc (.cells #[.int .u8 2] 5)).ownsRow w.heap.size 5 1 (.slice (some ⟨w.heap.size+1,0,none⟩) 1 1) 1 [.int .u8 2]):=dN w _ _ _
 have HN:Hid (∀(W:World) (l:List Value),W.heap.size=w.heap.size+2→ ∀j u,l[j]? =some u→(W.alloc (.cells l.toArray 5)).cell? ((⟨w.heap.size+2,0,none⟩:Addr).add j)=some u):=by
  intro W l hW
  rw[←hW]
  exact ku W l _
 go_enter Tryz.func46,Tryz.ntmps46
 go_wp2_with (at_builtin;refine wpList_append_own _ rfl _ _ 43 rfl w.heap.size 5 i0 (.int .u8 0) 1 1 Tryz.underlying43 hi hz0 hz1 hz2 rfl (by decide) _ _ _ rfl (World.ownsRow.alloc OW0.out _) ⟨w.heap.size+2,0,none⟩ 2 2 [.int .u8 ((k/256:Nat):Int),.int .u8 ((k%256:Nat):Int)] rfl rfl (HN.out _ [.int .u8 ((k/256:Nat):Int),.int .u8 ((k%256:Nat):Int)] (by simp)) (by simp[Value.oneCell']) (by unfold maxLen;omega) (by omega) (by simp;omega) ?_;intro v2 w2 ho2 hg2 _;have HO2:=aa ho2;have HL2:=aa ((HB0.out.alloc HB0.out.size _).grown hg2 (by simp;omega) (fun k hk=>(OW0.out.lt k hk).1));clear ho2 hg2)
 go_ret
 refine⟨_,rfl,kh HO2.out (by simp[bw]) ?_,HL2.out⟩
 simp[dw,be]
 omega
theorem Bf (w:World) (a:Option Addr) (ca:Nat) (pr lv s:Nat) (hpr:pr<256) (hlv:lv<256) (hs:s<256):
  Calls Tryz.prog 46 #[.agg #[.int .i64 5,.int .i64 0,.int .u64 0,.int .i64 0,.slice a 0 ca,.int .u64 0,.int .u64 0,.int .i64 (pr:Int),.int .u8 (lv:Int),.int .i64 ((s:Int)-1)]] w fun e w'=> ∃v',e= .returned v'∧w'.ownsRow w.heap.size 5 1 v' ([5,pr,lv,s]).length (dw ([5,pr,lv,s]))∧Below w.heap.size w w':=by
 obtain⟨i0,hi,hz0,hz1,hz2⟩:=info_parts fA
 have HB0:Hid (Below w.heap.size w ((w.alloc (.cells #[.int .i64 5,.int .i64 0,.int .u64 0,.int .i64 0,.slice a 0 ca,.int .u64 0,.int .u64 0,.int .i64 (pr:Int),.int .u8 (lv:Int),.int .i64 ((s:Int)-1)] 79)).alloc (.cells #[.int .u8 5] 5))):=bD w _ _ _ _
 have OW0:Hid (((w.alloc (.cells #[.int .i64 5,.int .i64 0,.int .u64 0,.int .i64 0,.slice a 0 ca,.int .u64 0,.int .u64 0,.int .i64 (pr:Int),.int .u8 (lv:Int),.int .i64 ((s:Int)-1)] 79)).alloc (.cells #[.int .u8 5] 5)).ownsRow w.heap.size 5 1 (.slice (some ⟨w.heap.size+1,0,none⟩) 1 1) 1 [.int .u8 5]):=dN w _ _ _
 have HN:Hid (∀(W:World) (l:List Value),W.heap.size=w.heap.size+2→ ∀j u,l[j]? =some u→(W.alloc (.cells l.toArray 5)).cell? ((⟨w.heap.size+2,0,none⟩:Addr).add j)=some u):=by
  intro W l hW
  rw[←hW]
  exact ku W l _
 go_enter Tryz.func46,Tryz.ntmps46
 go_wp2_with (at_builtin;refine wpList_append_own _ rfl _ _ 43 rfl w.heap.size 5 i0 (.int .u8 0) 1 1 Tryz.underlying43 hi hz0 hz1 hz2 rfl (by decide) _ _ _ rfl (World.ownsRow.alloc OW0.out _) ⟨w.heap.size+2,0,none⟩ 3 3 [.int .u8 (pr:Int),.int .u8 (lv:Int),.int .u8 (s:Int)] rfl rfl (HN.out _ [.int .u8 (pr:Int),.int .u8 (lv:Int),.int .u8 (s:Int)] (by simp)) (by simp[Value.oneCell']) (by unfold maxLen;omega) (by omega) (by simp;omega) ?_;intro v2 w2 ho2 hg2 _;have HO2:=aa ho2;have HL2:=aa ((HB0.out.alloc HB0.out.size _).grown hg2 (by simp;omega) (fun k hk=>(OW0.out.lt k hk).1));clear ho2 hg2)
 go_ret
 refine⟨_,rfl,kh HO2.out (by simp) ?_,HL2.out⟩
 simp[dw]
theorem B4 (w:World) (a:Option Addr) (ca:Nat) (code:List (Int×Int)) (hr:qg code) (hc:iZ w a code):
  Calls Tryz.prog 46 #[.agg #[.int .i64 3,.int .i64 0,.int .u64 0,.int .i64 0,.slice a code.length ca,.int .u64 0,.int .u64 0,.int .i64 0,.int .u8 0,.int .i64 0]] w fun e w'=> ∃v',e= .returned v'∧w'.ownsRow w.heap.size 5 1 v' (3::gI code).length (dw (3::gI code))∧Below w.heap.size w w':=by
 obtain⟨i0,hi,hz0,hz1,hz2⟩:=info_parts fA
 have HB0:Hid (Below w.heap.size w ((w.alloc (.cells #[.int .i64 3,.int .i64 0,.int .u64 0,.int .i64 0,.slice a code.length ca,.int .u64 0,.int .u64 0,.int .i64 0,.int .u8 0,.int .i64 0] 79)).alloc (.cells #[.int .u8 3] 5))):=bD w _ _ _ _
 have OW0:Hid (((w.alloc (.cells #[.int .i64 3,.int .i64 0,.int .u64 0,.int .i64 0,.slice a code.length ca,.int .u64 0,.int .u64 0,.int .i64 0,.int .u8 0,.int .i64 0] 79)).alloc (.cells #[.int .u8 3] 5)).ownsRow w.heap.size 5 1 (.slice (some ⟨w.heap.size+1,0,none⟩) 1 1) 1 [.int .u8 3]):=dN w _ _ _
 have hlen:=(dB hr).2.1
 have HE:Hid (∀W,Below w.heap.size w W→Calls Tryz.prog 70 #[.slice a code.length ca] W fun e w'=> ∃g cap,e= .returned (.tuple #[.slice (some ⟨g,0,none⟩) (1+4*code.length) cap,.int .i64 0])∧(∀j u,(dw (gI code))[j]? =some u→w'.cell? ((⟨g,0,none⟩:Addr).add j)=some u)∧Below W.heap.size W w'):=by
  intro W hbW
  refine(qF W a code.length ca (by omega) (cO code) (cR code) (hc.below hbW) hr).mono fun e w' hh=> ?_
  obtain⟨v',he,hrow,hbel⟩:=hh
  rw[nE _ (fun i hi=>by have:=(dB hr).2.2 i hi;omega)] at hrow
  rcases hrow.2 with ⟨_,h0⟩|⟨g,cap,cur,rfl,_⟩
  ·omega
  ·exact⟨g,cap,he,hrow.cells rfl,hbel⟩
 have HLE:Hid ((dw (gI code)).length=(1+4*code.length)*1):=by
  show _=_
  rw[jk,eo]
  omega
 clear hc
 go_enter Tryz.func46,Tryz.ntmps46
 go_wp2_with (first
  |(at_builtin;refine wpList_append_own _ rfl _ _ 43 rfl w.heap.size 5 i0 (.int .u8 0) 1 1 Tryz.underlying43 hi hz0 hz1 hz2 rfl (by decide) _ _ _ rfl (HO2.out) ⟨g,0,none⟩ (1+4*code.length) cap (dw (gI code)) rfl HLE.out HN2.out (j8 _) (by unfold maxLen;omega) (by omega) (HL2.out.size) ?_;intro v3 w3 ho3 hg3 _;have HO3:=aa ho3;have HL3:=aa (HL2.out.grown hg3 HL2.out.size (fun k hk=>(HO2.out.lt k hk).1));clear ho3 hg3)
  |(go_at_call 70;refine(HE.out _ HB0.out).mono ?_;rintro e w2 ⟨g,cap,rfl,hn2,hl2⟩;have HN2:=aa hn2;have HL2:=aa (HB0.out.trans (hl2.mono HB0.out.size));have HO2:=aa (cF OW0.out hl2);clear hn2 hl2))
 go_ret
 refine⟨_,rfl,kh HO3.out (by simp[eo];omega) ?_,HL3.out⟩
 simp[dw]
theorem E9 (w:World) (x:En) (a:Option Addr) (ca:Nat) (hr:aI x) (hw:r9 x) (hc:iZ w a x.code):
  Calls Tryz.prog 46 #[.agg #[.int .i64 x.d,.int .i64 x.p,.int .u64 (x.dr:Int),.int .i64 x.n,.slice a x.code.length ca,.int .u64 (x.bu:Int),.int .u64 (x.pe:Int),.int .i64 x.pr,.int .u8 (x.lv:Int),.int .i64 x.sv]] w fun e w'=> ∃v',e= .returned v'∧w'.ownsRow w.heap.size 5 1 v' (bytes x).length (dw (bytes x))∧Below w.heap.size w w':=by
 obtain⟨w1,w2,w3,w4⟩:=hw
 obtain⟨d,p,dr,nn,code,bu,pe,pr,lv,sv⟩:=x
 simp only at w1 w2 w3 w4 hc
 rcases hr with ⟨e,h1,h2⟩|⟨e,h1,h2⟩|⟨e,h1⟩|e|⟨e,h1,h2,h3,h4⟩
 ·simp only[cM,En.mk.injEq] at e h1 h2
  obtain⟨rfl,-,-,rfl,rfl,rfl,rfl,rfl,rfl,rfl⟩:=e
  obtain⟨p,rfl⟩:=Int.eq_ofNat_of_zero_le h1
  exact CU w a ca p dr (by omega) w1
 ·simp only[cN,En.mk.injEq] at e h1 h2
  obtain⟨rfl,rfl,rfl,-,rfl,rfl,rfl,rfl,rfl,rfl⟩:=e
  obtain⟨k,rfl⟩:=Int.eq_ofNat_of_zero_le (show 0≤nn by omega)
  exact BV w a ca k (by omega)
 ·simp only[cA,En.mk.injEq] at e h1
  obtain⟨rfl,rfl,rfl,rfl,-,rfl,rfl,rfl,rfl,rfl⟩:=e
  exact B4 w a ca code h1 hc
 ·simp only[cw,En.mk.injEq] at e
  obtain⟨rfl,rfl,rfl,rfl,rfl,-,-,rfl,rfl,rfl⟩:=e
  exact CX w a ca bu pe w2 w3
 ·simp only[bV,En.mk.injEq] at e h1 h2 h3 h4
  obtain⟨rfl,rfl,rfl,rfl,rfl,rfl,rfl,-,-,-⟩:=e
  obtain⟨pr,rfl⟩:=Int.eq_ofNat_of_zero_le h1
  obtain⟨s,hs⟩: ∃s:Nat,sv=(s:Int)-1:=⟨(sv+1).toNat,by omega⟩
  subst hs
  have q:=Bf w a ca pr lv s (by omega) w4 (by omega)
  have e:bytes ⟨5,0,0,0,[],0,0,(pr:Int),lv,(s:Int)-1⟩=[5,pr,lv,s]:=by
   show [5,((pr:Int)).toNat,lv,((s:Int)-1+1).toNat]=_
   rw[Int.toNat_natCast,show((s:Int)-1+1).toNat=s by omega]
  rw[e]
  exact q
theorem qG (w:World) (x:En) (a:Option Addr) (ca:Nat) (hc:iZ w a x.code) (hl:x.code.length<9223372036854775808) (hr:aI x):
  Calls Tryz.prog 45 #[.agg #[.int .i64 x.d,.int .i64 x.p,.int .u64 (x.dr:Int),.int .i64 x.n,.slice a x.code.length ca,.int .u64 (x.bu:Int),.int .u64 (x.pe:Int),.int .i64 x.pr,.int .u8 (x.lv:Int),.int .i64 x.sv]] w fun e w'=>e= .returned (.bool true)∧Below w.heap.size w w':=(l9 w x a ca hc hl).mono fun e w' ⟨B,he,hB,hb⟩=>by
 obtain rfl:B=true:=hB.2 hr
 exact⟨he,hb⟩
theorem sI (w:World) (x:En) (a:Option Addr) (ca:Nat) (hc:iZ w a x.code) (hl:x.code.length<9223372036854775808) (hr: ¬aI x):
  Calls Tryz.prog 45 #[.agg #[.int .i64 x.d,.int .i64 x.p,.int .u64 (x.dr:Int),.int .i64 x.n,.slice a x.code.length ca,.int .u64 (x.bu:Int),.int .u64 (x.pe:Int),.int .i64 x.pr,.int .u8 (x.lv:Int),.int .i64 x.sv]] w fun e w'=>e= .returned (.bool false)∧Below w.heap.size w w':=(l9 w x a ca hc hl).mono fun e w' ⟨B,he,hB,hb⟩=>by
 obtain rfl:B=false:=by
  cases B
  ·rfl
  ·exact absurd (hB.1 rfl) hr
 exact⟨he,hb⟩
theorem Eg (W:World) (x:En) (a:Option Addr) (ca:Nat) (hr:aI x) (hw:r9 x) (hc:iZ W a x.code):
  Calls Tryz.prog 46 #[.agg #[.int .i64 x.d,.int .i64 x.p,.int .u64 (x.dr:Int),.int .i64 x.n,.slice a x.code.length ca,.int .u64 (x.bu:Int),.int .u64 (x.pe:Int),.int .i64 x.pr,.int .u8 (x.lv:Int),.int .i64 x.sv]] W fun e w'=> ∃g cap,e= .returned (.slice (some ⟨g,0,none⟩) (bytes x).length cap)∧(∀j u,(dw (bytes x))[j]? =some u→w'.cell? ((⟨g,0,none⟩:Addr).add j)=some u)∧Below W.heap.size W w':=
 (E9 W x a ca hr hw hc).mono fun e w' ⟨v,he,ho,hb⟩=>by
  have:=kv (x:=x)
  rcases ho.2 with ⟨_,h0⟩|⟨g,cap,cur,rfl,_⟩
  ·omega
  ·exact⟨g,cap,he,ho.cells rfl,hb⟩
theorem zA (w:World) (a:Option Addr) (L:List En) (cap:Nat) (hL:L.length≤3000) (hE:Ib w a L):
  Calls Tryz.prog 23 #[.slice a L.length cap] w (Fs w L):=by
 obtain⟨i0,hi,hz0,hz1,hz2⟩:=info_parts fA
 have HE:=aa hE
 clear hE
 go_enter Tryz.func23,Tryz.ntmps23
 go_wp2
 go_loopw [4,5] (fun s i wr=> ∃(j:Nat),j≤L.length∧i= .int .i64 j∧(∀x∈L.take j,aI x)∧wr.ownsRow w.heap.size 5 1 s (all (L.take j)).length (dw (all (L.take j)))∧Below w.heap.size w wr) (fun _ i _=>L.length-(intOf i).toNat)
 case atStart=>exact⟨0,by omega,rfl,by simp,World.ownsRow_nil _ _ _ _,Below.refl _ _⟩
 case round=>
  obtain⟨j,hj,rfl,hall,hown,hbel⟩:=hrel
  by_cases hjl:j<L.length
  ·have hjl':(j:Int)<(L.length:Int):=by omega
   obtain⟨x,hx⟩: ∃x,L[j]? =some x:=⟨L[j],List.getElem?_eq_getElem hjl⟩
   rcases HE.out with h0|⟨lb,off,rfl,hlb,hc⟩
   ·subst h0;simp at hjl
   ·obtain⟨ca,cc,he0⟩:=hc j x hx
    have he:=he0.below hlb hbel
    have y0:=he.c0
    have y1:=he.c1
    have y2:=he.c2
    have y3:=he.c3
    have y4:=he.c4
    have y5:=he.c5
    have y6:=he.c6
    have y7:=he.c7
    have y8:=he.c8
    have y9:=he.c9
    have HO:=aa hown
    have HB:=aa hbel
    have hsz:=hbel.size
    have HN:Hid ((all (L.take j)).length<900000):=by
     have q:=yn (L.take j) hall
     have q2:(L.take j).length≤j:=by simp;omega
     show _<_
     omega
    have HTK:=aa (take_one hx)
    have HEA:=aa (fun W (hb:Below w.heap.size w W)=>he0.below hlb hb)
    by_cases hrt:aI x
    ·have HR:=aa (fun W hb=>qG W x ca cc (he0.qP.below (w':=W) hb) he.len hrt)
     have HT:=aa (fun W hb=>Eg W x ca cc hrt he.wf (he0.qP.below (w':=W) hb))
     have hbl:=rL hrt
     have HALL:Hid (∀y∈L.take (j+1),aI y):=by
      show∀y∈L.take (j+1),aI y
      rw[HTK.out]
      intro y hy
      rcases List.mem_append.1 hy with hy|hy
      ·exact hall y hy
      ·obtain rfl:y=x:=by simpa using hy
       exact hrt
     have HLE:Hid ((dw (bytes x)).length=(bytes x).length*1):=by
      show _=_
      rw[jk,Nat.mul_one]
     have HNN:Hid ((all (L.take j)).length+(bytes x).length<1000000):=by
      have:=HN.out
      show _<_
      omega
     clear hown hbel hall he he0 hc hx hrt hbl
     go_wp2_with (first
      |(at_builtin;refine wpList_append_own _ rfl _ _ 43 rfl w.heap.size 5 i0 (.int .u8 0) 1 1 Tryz.underlying43 hi hz0 hz1 hz2 rfl (by decide) _ _ _ rfl HO2.out ⟨g2,0,none⟩ (bytes x).length c2 (dw (bytes x)) rfl HLE.out HN2.out (j8 _) (by have:=HNN.out;unfold maxLen;omega) (by have:=HNN.out;omega) HB2.out.size ?_;intro v3 w3 ho3 hg3 _;have HO3:=aa ho3;have HB3:=aa (HB2.out.grown hg3 HB2.out.size (fun k hk=>(HO2.out.lt k hk).1));clear ho3 hg3)
      |(go_at_call 46;refine(HT.out _ HB1.out).mono ?_;rintro e w2 ⟨g2,c2,rfl,hn2,hb2⟩;have HN2:=aa hn2;have HO2:=aa (cF HO1.out hb2);have HB2:=aa (HB1.out.trans (hb2.mono HB1.out.size));clear hn2 hb2)
      |(go_at_call 45;refine(HR.out _ HB.out).mono ?_;rintro e w1 ⟨rfl,hb⟩;have HB1:=aa (HB.out.trans (hb.mono hsz));have HO1:=aa (cF HO.out hb);have he1:=HEA.out _ HB1.out;have z0:=he1.c0;have z1:=he1.c1;have z2:=he1.c2;have z3:=he1.c3;have z4:=he1.c4;have z5:=he1.c5;have z6:=he1.c6;have z7:=he1.c7;have z8:=he1.c8;have z9:=he1.c9;clear hb he1))
     refine⟨⟨j+1,by omega,by go_num,HALL.out,kh HO3.out ?_ ?_,HB3.out⟩,by simp[intOf];omega⟩
     ·rw[HTK.out,qe,List.length_append]
     ·rw[HTK.out,qe,ts]
    ·have HR:=aa (fun W hb=>sI W x ca cc (he0.qP.below (w':=W) hb) he.len hrt)
     have HALL:Hid (¬ ∀y∈L,aI y):=fun q=>hrt (q x (List.mem_of_getElem? hx))
     clear hown hbel hall he he0 hc hx hrt
     go_wp2_with (go_at_call 45;refine(HR.out _ HB.out).mono ?_;rintro e w1 ⟨rfl,hb⟩;have HB1:=aa (HB.out.trans (hb.mono hsz));clear hb)
     go_ret2
     exact⟨HB1.out,.inr ⟨HALL.out,rfl⟩⟩
  ·have hjl': ¬(j:Int)<(L.length:Int):=by omega
   have hj2:j=L.length:=by omega
   rw[hj2,List.take_length] at hall hown
   have HA:=aa hall
   have HO:=aa hown
   have HB:=aa hbel
   clear hall hown hbel hj2
   go_wp2
   go_ret2
   exact⟨HB.out,.inl ⟨HA.out,_,rfl,HO.out⟩⟩
end Go.Proofs.YtdbailcdlngemaaGreatDoor.Ex
