/- YtdbailcdlngemaaGreatDoorGf: of the texts F1 W4 W7 F2 F3 F4 F5 F6 F7 W10 Xe0 Xe9 what is wanted. -/
import Derived.Laws.FloatArith
import Derived.Test.YtdbailcdlngemaaGreatDoorRows
import Derived.WalkKit
import Derived.WalkSpells
import Derived.WalkLawsBesides
import Derived.StillTactics
import Derived.RowKit3
import Derived.Laws.StructEq
import Derived.Below
import Derived.ProofKit
import Derived.OpenShut
import Derived.Laws.IdiomArrays
import Derived.WideShapes
import Derived.ChangeOld
import Derived.Deep.Strs
import Derived.Deep.Slices
set_option maxHeartbeats 16000000
set_option maxRecDepth 100000
set_option linter.unusedVariables false
set_option linter.unusedSimpArgs false
namespace Go.Proofs.YtdbailcdlngemaaGreatDoor.Fl
open Go
def nO (x:Nat):Prop:=(Ieee.double.read x).isNaN=false
theorem gP:Ieee.double.signWeight=9223372036854775808:=by decide+kernel
theorem fs:Ieee.double.binade=4503599627370496:=by decide+kernel
theorem gw:Ieee.double.infRung=9218868437227405312:=by decide+kernel
theorem oK:Ieee.double.leastPlace= -1074:=by decide+kernel
theorem td (d:Ieee.Datum) (h:d.isNaN=false):d.order d=some .eq:=by
 cases d with
 |number s m i=>simp[Ieee.Datum.order,compare,compareOfLessAndEq]
 |infinity s=>simp[Ieee.Datum.order,compare,compareOfLessAndEq]
 |nan s t=>simp[Ieee.Datum.isNaN] at h
theorem lV (d d':Ieee.Datum) (h:d.isNaN=true):d.order d'=none:=by
 cases d with
 |number s m i=>simp[Ieee.Datum.isNaN] at h
 |infinity s=>simp[Ieee.Datum.isNaN] at h
 |nan s t=>simp[Ieee.Datum.order]
theorem nC (x:Nat) (h:nO x):FloatKind.f64.format.order x x=some .eq:=td _ h
theorem mO (x y:Nat) (h: ¬nO x):FloatKind.f64.format.order x y=none:=
 lV _ _ (by unfold nO at h;show(Ieee.double.read x).isNaN=true;simpa using h)
theorem nI (neg:Bool) (rung:Nat) (h:rung≤9218868437227405312):nO (Ieee.double.word neg rung):=by
 have e:Ieee.double.word neg rung%9223372036854775808=rung:=by
  unfold Ieee.Format.word;rw[gP];split<;>omega
 unfold nO Ieee.Format.read
 simp only[gP,fs,gw,e]
 split
 ·rfl
 ·split
  ·rfl
  ·rw[if_pos (by omega)];rfl
theorem oH (d:Ieee.Datum) (h:d.isNaN=false):nO (Ieee.double.write d):=by
 cases d with
 |number s m i=>
  unfold Ieee.Format.write Ieee.Format.nearest
  dsimp only
  split
  ·exact nI _ _ (by omega)
  ·exact nI _ _ (by rw[gw];exact Nat.min_le_right _ _)
 |infinity s=>exact nI _ _ (by rw[gw];exact Nat.le_refl _)
 |nan s t=>simp[Ieee.Datum.isNaN] at h
theorem pA {k:Nat} {x y d:Ieee.Datum} (h:x.quotient k y=some d):d.isNaN=false:=by
 unfold Ieee.Datum.quotient at h
 split at h
 all_goals first|(cases h;done)|skip
 all_goals first|(cases h;rfl)|skip
 split at h
 ·split at h
  ·cases h
  ·cases h;rfl
 ·cases h;rfl
theorem Dh {x y r:Nat} (h:floatBits .quo .f64 x y=some r):nO r:=by
 have h':(((Ieee.double.read x).quotient (Ieee.double.fractionBits+2) (Ieee.double.read y)).map Ieee.double.write)=some r:=h
 rw[Option.map_eq_some_iff] at h'
 obtain⟨d,hd,rfl⟩:=h'
 exact oH d (pA hd)
theorem rj:Ieee.double.read 4607182418800017408= .number false 4503599627370496 (-52):=by decide+kernel
theorem Fm (x:Nat) (h:nO x): ∃q,floatBits .quo .f64 4607182418800017408 x=some q:=by
 show∃q,(((Ieee.double.read 4607182418800017408).quotient (Ieee.double.fractionBits+2) (Ieee.double.read x)).map Ieee.double.write)=some q
 rw[rj]
 unfold nO at h
 cases hx:Ieee.double.read x with
 |number s m i=>
  unfold Ieee.Datum.quotient
  dsimp only
  split
  ·exact⟨_,rfl⟩
  ·exact⟨_,rfl⟩
 |infinity s=>exact⟨_,rfl⟩
 |nan s t=>rw[hx] at h;simp[Ieee.Datum.isNaN] at h
def jS (w:World) (x y:Nat):Nat:=Question.cut (.nanBits .f64 x y) (w.tape w.drawn (.nanBits .f64 x y))
theorem kR (w:World) (x y:Nat): ¬nO (jS w x y):=by
 unfold jS nO
 simp only[Question.cut]
 generalize w.tape w.drawn (.nanBits .f64 x y)=t
 have h1:t%2<2:=Nat.mod_lt _ (by decide)
 have h2:t/2%(2^52-1)<2^52-1:=Nat.mod_lt _ (by decide)
 generalize t%2=a at*
 generalize t/2%(2^52-1)=b at*
 simp only[show(2:Nat)^63=9223372036854775808 from rfl,show(2:Nat)^52-1=4503599627370495 from rfl] at*
 have e:(a*9223372036854775808+9218868437227405312+1+b)%9223372036854775808=9218868437227405312+1+b:=by omega
 unfold Ieee.Format.read
 simp only[gP,fs,gw,e]
 rw[if_neg (by omega),if_neg (by omega),if_neg (by omega)]
 simp[Ieee.Datum.isNaN]
section
variable {P:Program} (w:World)
theorem fK (t:TypeId) (x y:Nat) (h:floatBits .quo .f64 x y=none):(binOp .quo t (.float .f64 x) (.float .f64 y)).run P w= .ok (.float .f64 (jS w x y)) w.drew:=by
 have h':FloatKind.f64.format.div x y=none:=h
 simp[binOp,Op.floatArith,h',choose,jS]
 rfl
end
end Go.Proofs.YtdbailcdlngemaaGreatDoor.Fl
namespace Go.Proofs.YtdbailcdlngemaaGreatDoor.Fl
open Go.RowKit Go.Lib
def cj (x:Nat):Nat:=if (FloatKind.f64.format.order x 4607182418800017408==some .gt)=true then 4607182418800017408 else if (FloatKind.f64.format.order x 0==some .gt)=true then x else 0
theorem xv (x:Nat) (w:World):
  Calls Tryz.prog 24 #[.float .f64 x] w fun e w'=>e= .returned (.float .f64 (cj x))∧w'=w:=by
 unfold cj
 by_cases h1:(FloatKind.f64.format.order x 4607182418800017408==some .gt)=true
 ·rw[if_pos h1]
  go_enter Tryz.func24,Tryz.ntmps24
  go_wp2
  go_ret
  exact⟨rfl,rfl⟩
 ·rw[if_neg h1]
  have h1':(FloatKind.f64.format.order x 4607182418800017408==some .gt)=false:=by simpa using h1
  clear h1
  by_cases h2:(FloatKind.f64.format.order x 0==some .gt)=true
  ·rw[if_pos h2]
   go_enter Tryz.func24,Tryz.ntmps24
   go_wp2
   go_ret
   exact⟨rfl,rfl⟩
  ·rw[if_neg h2]
   have h2':(FloatKind.f64.format.order x 0==some .gt)=false:=by simpa using h2
   clear h2
   go_enter Tryz.func24,Tryz.ntmps24
   go_wp2
   go_ret
   exact⟨rfl,rfl⟩
theorem tC (x:Nat) (w:World):
  Calls Tryz.prog 25 #[.float .f64 x] w fun e w'=>e= .returned (.float .f64 (cj x))∧w'=w:=by
 unfold cj
 by_cases h1:(FloatKind.f64.format.order x 4607182418800017408==some .gt)=true
 ·rw[if_pos h1]
  go_enter Tryz.func25,Tryz.ntmps25
  go_wp2
  go_ret
  exact⟨rfl,rfl⟩
 ·rw[if_neg h1]
  have h1':(FloatKind.f64.format.order x 4607182418800017408==some .gt)=false:=by simpa using h1
  clear h1
  by_cases h2:(FloatKind.f64.format.order x 0==some .gt)=true
  ·rw[if_pos h2]
   go_enter Tryz.func25,Tryz.ntmps25
   go_wp2
   go_ret
   exact⟨rfl,rfl⟩
  ·rw[if_neg h2]
   have h2':(FloatKind.f64.format.order x 0==some .gt)=false:=by simpa using h2
   clear h2
   go_enter Tryz.func25,Tryz.ntmps25
   go_wp2
   go_ret
   exact⟨rfl,rfl⟩
theorem ya:nO 0:=by unfold nO;decide+kernel
theorem rH (r:Nat) (w:World) (h:nO r):
  Calls Tryz.prog 7 #[.float .f64 r,.float .f64 r] w fun e w'=>e= .returned (.bool true)∧w'=w:=by
 have hs:(FloatKind.f64.format.order r r==some .eq)=true:=by rw[nC r h];rfl
 have hs':(FloatKind.f64.format.order r r !=some .eq)=false:=by rw[nC r h];rfl
 obtain⟨q,hq⟩:=Fm r h
 have hrun: ∀w,(binOp .quo 25 (.float .f64 4607182418800017408) (.float .f64 r)).run Tryz.prog w= .ok (.float .f64 q) w:=fun w=>run_float_arith w .quo 25 .f64 _ _ _ hq
 have hqs:(FloatKind.f64.format.order q q==some .eq)=true:=by rw[nC q (Dh hq)];rfl
 clear hq
 by_cases hz:(FloatKind.f64.format.order r 0==some .eq)=true
 ·have hz':(FloatKind.f64.format.order r 0 !=some .eq)=false:=by simpa using hz
  clear hz
  go_enter Tryz.func7,Tryz.ntmps7
  go_wp2
  go_ret
  exact⟨rfl,rfl⟩
 ·have hz':(FloatKind.f64.format.order r 0 !=some .eq)=true:=by simpa using hz
  clear hz
  go_enter Tryz.func7,Tryz.ntmps7
  go_wp2
  go_ret
  exact⟨rfl,rfl⟩
theorem yV (p q:Int) (r:Nat) (w:World) (h:floatBits .quo .f64 (floatOfInt .f64 p) (floatOfInt .f64 q)=some r):
  Calls Tryz.prog 14 #[.int .u64 p,.int .u64 q] w fun e w'=>e= .returned (.float .f64 r)∧w'=w:=by
 have hrun: ∀w,(binOp .quo 25 (.float .f64 (floatOfInt .f64 p)) (.float .f64 (floatOfInt .f64 q))).run Tryz.prog w= .ok (.float .f64 r) w:=fun w=>run_float_arith w .quo 25 .f64 _ _ _ h
 clear h
 go_enter Tryz.func14,Tryz.ntmps14
 go_wp2
 go_ret
 exact⟨rfl,rfl⟩
theorem wu (p q:Int) (r:Nat) (w:World) (h:floatBits .quo .f64 (floatOfInt .f64 p) (floatOfInt .f64 q)=some r):
  Calls Tryz.prog 16 #[.int .u64 p,.int .u64 q] w fun e w'=>e= .returned (.float .f64 r)∧w'=w:=by
 have hrun: ∀w,(binOp .quo 25 (.float .f64 (floatOfInt .f64 p)) (.float .f64 (floatOfInt .f64 q))).run Tryz.prog w= .ok (.float .f64 r) w:=fun w=>run_float_arith w .quo 25 .f64 _ _ _ h
 clear h
 go_enter Tryz.func16,Tryz.ntmps16
 go_wp2
 go_ret
 exact⟨rfl,rfl⟩
end Go.Proofs.YtdbailcdlngemaaGreatDoor.Fl
namespace Go.Proofs.YtdbailcdlngemaaGreatDoor.Fl
open Go
theorem oQ:Ieee.double.read 0= .number false 0 (-1074):=by decide+kernel
theorem wO (x:Nat) (h:(FloatKind.f64.format.order x 0==some .gt)=true):(Ieee.double.read x= .infinity false)∨ ∃m i,m≠0∧Ieee.double.read x= .number false m i:=by
 have h'':FloatKind.f64.format.order x 0=some .gt:=by simpa using h
 have h':(Ieee.double.read x).order (Ieee.double.read 0)=some .gt:=h''
 rw[oQ] at h'
 cases hx:Ieee.double.read x with
 |number s m i=>
  rw[hx] at h'
  simp only[Ieee.Datum.order,Option.some.injEq] at h'
  have hg:Ieee.signed false 0 ((-1074:Int)-min i (-1074)).toNat<Ieee.signed s m (i-min i (-1074)).toNat:=by
   rw[Int.compare_eq_gt] at h'
   exact h'
  simp only[Ieee.signed,Nat.shiftLeft_eq] at hg
  right
  cases s with
  |true=>
   simp only[if_true,Bool.false_eq_true,if_false,Nat.zero_mul] at hg
   omega
  |false=>
   refine⟨m,i,?_,rfl⟩
   rintro rfl
   simp at hg
 |infinity s=>
  rw[hx] at h'
  cases s with
  |true=>simp[Ieee.Datum.order] at h'
  |false=>exact .inl rfl
 |nan s t=>
  rw[hx] at h'
  simp[Ieee.Datum.order] at h'
def wF (u v:Nat):Nat:=u/v+(if v<2*(u%v)∨(v=2*(u%v)∧u/v%2=1) then 1 else 0)
theorem zO (u v:Nat):u/v≤wF u v:=by unfold wF;split<;>omega
theorem xV (u v:Nat):wF u v≤u/v+1:=by unfold wF;split<;>omega
theorem AQ (u1 v1 u2 v2:Nat) (h1:0<v1) (h2:0<v2) (h:u1*v2≤u2*v1):wF u1 v1≤wF u2 v2:=by
 have hq:u1/v1≤u2/v2:=by
  rw[Nat.le_div_iff_mul_le h2]
  have a:u1/v1*v1≤u1:=Nat.div_mul_le_self u1 v1
  have b:u1/v1*v2*v1≤u2*v1:=by
   calc u1/v1*v2*v1=u1/v1*v1*v2:=by rw[Nat.mul_right_comm]
    _≤u1*v2:=Nat.mul_le_mul_right _ a
    _≤u2*v1:=h
  exact Nat.le_of_mul_le_mul_right b h1
 by_cases hlt:u1/v1<u2/v2
 ·have a:=xV u1 v1
  have b:=zO u2 v2
  omega
 ·have e:u1/v1=u2/v2:=by omega
  have e1:u1=u1/v1*v1+u1%v1:=by rw[Nat.mul_comm];exact(Nat.div_add_mod u1 v1).symm
  have e2:u2=u2/v2*v2+u2%v2:=by rw[Nat.mul_comm];exact(Nat.div_add_mod u2 v2).symm
  have hr:u1%v1*v2≤u2%v2*v1:=by
   rw[e1,e2,←e,Nat.add_mul,Nat.add_mul,Nat.mul_right_comm (u1/v1) v2 v1] at h
   omega
  have step: ∀c:Nat,v1+c≤2*(u1%v1)→(c=0→v2≤2*(u2%v2))∧(1≤c→v2<2*(u2%v2)):=by
   intro c hc
   have k1:(v1+c)*v2≤2*(u1%v1)*v2:=Nat.mul_le_mul_right _ hc
   have k2:2*(u1%v1)*v2≤2*(u2%v2)*v1:=by rw[Nat.mul_assoc,Nat.mul_assoc];omega
   have k3:(v1+c)*v2≤2*(u2%v2)*v1:=Nat.le_trans k1 k2
   rw[Nat.add_mul] at k3
   refine⟨fun hc0=> ?_,fun hc1=> ?_⟩
   ·subst hc0
    rw[Nat.zero_mul,Nat.add_zero,Nat.mul_comm v1 v2] at k3
    exact Nat.le_of_mul_le_mul_right k3 h1
   ·have k4:v2*v1<2*(u2%v2)*v1:=by
     have:0<c*v2:=Nat.mul_pos (by omega) h2
     rw[Nat.mul_comm v2 v1];omega
    exact Nat.lt_of_mul_lt_mul_right k4
  unfold wF
  rw[e]
  by_cases c1:v1<2*(u1%v1)
  ·have:=(step 1 (by omega)).2 (Nat.le_refl _)
   rw[if_pos (Or.inl c1),if_pos (Or.inl this)]
   exact Nat.le_refl _
  ·by_cases c2:v1=2*(u1%v1)∧u2/v2%2=1
   ·have:=(step 0 (by omega)).1 rfl
    rw[if_pos (Or.inr c2),if_pos (by omega)]
    exact Nat.le_refl _
   ·rw[if_neg (by omega)]
    omega
theorem BF (neg:Bool) (n d:Nat):Ieee.Toward.even.cut neg n d=wF n (2^d):=by
 unfold Ieee.Toward.cut wF
 dsimp only
 have key: ∀g:Nat,(decide (g<2*(n%g))||(g==2*(n%g)&&n/g%2==1)).toNat=if g<2*(n%g)∨(g=2*(n%g)∧n/g%2=1) then 1 else 0:=by
  intro g
  by_cases h:g<2*(n%g)∨(g=2*(n%g)∧n/g%2=1)
  ·rw[if_pos h]
   have:(decide (g<2*(n%g))||(g==2*(n%g)&&n/g%2==1))=true:=by simpa using h
   rw[this];rfl
  ·rw[if_neg h]
   have:(decide (g<2*(n%g))||(g==2*(n%g)&&n/g%2==1))=false:=by
    rw[Bool.eq_false_iff];intro hc;exact h (by simpa using hc)
   rw[this];rfl
 rw[key,Nat.one_shiftLeft]
 by_cases hd:d≤n.log2+2
 ·rw[Nat.min_eq_left hd]
 ·rw[Nat.min_eq_right (by omega)]
  have h1:n<2^(n.log2+1):=Nat.lt_log2_self
  have h2:2^(n.log2+2)=2*2^(n.log2+1):=by rw[show n.log2+2=(n.log2+1)+1 from rfl,Nat.pow_succ,Nat.mul_comm]
  have h3:2^(n.log2+2)≤2^d:=Nat.pow_le_pow_right (by decide) (by omega)
  generalize 2^(n.log2+1)=Q at*
  generalize 2^(n.log2+2)=Q2 at*
  generalize 2^d=Q3 at*
  have a1:n/Q2=0:=Nat.div_eq_of_lt (by omega)
  have a2:n/Q3=0:=Nat.div_eq_of_lt (by omega)
  have a3:n%Q2=n:=Nat.mod_eq_of_lt (by omega)
  have a4:n%Q3=n:=Nat.mod_eq_of_lt (by omega)
  rw[a1,a2,a3,a4,if_neg (by omega),if_neg (by omega)]
def bH (e:Nat) (p:Int):Int:=max (p+e-52) (-1074)
def iw (a n:Nat) (D:Int):Nat:=wF (a*2^(-D).toNat) (n*2^D.toNat)
def bq (a n:Nat) (p:Int):Nat:=(bH (a/n).log2 p+1074).toNat*4503599627370496+iw a n (bH (a/n).log2 p-p)
theorem gF (m:Nat) (p:Int) (hm:m≠0):Ieee.double.write (.number false m p)=min (bq m 1 p) 9218868437227405312:=by
 have hf:Ieee.double.fractionBits=52:=rfl
 unfold Ieee.Format.write Ieee.Format.nearest
 simp only[if_neg hm,oK,fs,gw,hf,BF,Nat.shiftLeft_eq]
 unfold Ieee.Format.word bq iw
 rw[if_neg (by decide),Nat.div_one]
 have e1:max (p+(m.log2:Int)-((52:Nat):Int)) (-1074)=bH m.log2 p:=rfl
 rw[e1]
 generalize bH m.log2 p=L
 rw[show(L- -1074).toNat=(L+1074).toNat by omega,show(-(L-p)).toNat=(p-L).toNat by omega,Nat.one_mul]
theorem zQ (a n:Nat) (hn:0<n) (h:n≤a):n*2^(a/n).log2≤a∧a<n*2^((a/n).log2+1):=by
 have h0:a/n≠0:=by
  have:=(Nat.le_div_iff_mul_le hn).2 (by omega:1*n≤a)
  omega
 refine⟨?_,?_⟩
 ·have:=(Nat.le_div_iff_mul_le hn).1 (Nat.log2_self_le h0)
  rw[Nat.mul_comm];exact this
 ·have:=(Nat.div_lt_iff_lt_mul hn).1 (Nat.lt_log2_self (n:=a/n))
  rw[Nat.mul_comm];exact this
theorem EF {x y:Nat} (h:2^x<2^y):x<y:=(Nat.pow_lt_pow_iff_right (by decide)).1 h
theorem zB (a1 n1 a2 n2 e1 e2 s t:Nat) (k1:0<n1) (b1:n1*2^e1≤a1) (b2:a2<n2*2^(e2+1)) (h:a1*n2*2^s≤a2*n1*2^t):e1+s≤e2+t:=by
 have q1:n1*2^e1*n2*2^s≤a1*n2*2^s:=Nat.mul_le_mul_right _ (Nat.mul_le_mul_right _ b1)
 have q2:a2*n1*2^t<n2*2^(e2+1)*n1*2^t:=
  Nat.mul_lt_mul_of_pos_right (Nat.mul_lt_mul_of_pos_right b2 k1) (Nat.two_pow_pos _)
 have q3:n1*2^e1*n2*2^s<n2*2^(e2+1)*n1*2^t:=by omega
 have e3:n1*2^e1*n2*2^s=(n1*n2)*2^(e1+s):=by
  rw[Nat.pow_add]
  simp only[Nat.mul_assoc,Nat.mul_left_comm,Nat.mul_comm]
 have e4:n2*2^(e2+1)*n1*2^t=(n1*n2)*2^(e2+1+t):=by
  rw[Nat.pow_add 2 (e2+1) t]
  simp only[Nat.mul_assoc,Nat.mul_left_comm,Nat.mul_comm]
 rw[e3,e4] at q3
 have:=EF (Nat.lt_of_mul_lt_mul_left q3)
 omega
theorem Cv (a n e:Nat) (D:Int) (hn:0<n) (b:a<n*2^(e+1)) (hD:(e:Int)-52≤D):iw a n D≤9007199254740992:=by
 unfold iw
 have h:=xV (a*2^(-D).toNat) (n*2^D.toNat)
 have hv:0<n*2^D.toNat:=Nat.mul_pos hn (Nat.two_pow_pos _)
 have h2:a*2^(-D).toNat/(n*2^D.toNat)<9007199254740992:=by
  rw[Nat.div_lt_iff_lt_mul hv]
  have q1:a*2^(-D).toNat<n*2^(e+1)*2^(-D).toNat:=Nat.mul_lt_mul_of_pos_right b (Nat.two_pow_pos _)
  have q2:n*2^(e+1)*2^(-D).toNat≤9007199254740992*(n*2^D.toNat):=by
   have e5:9007199254740992*(n*2^D.toNat)=n*2^(53+D.toNat):=by
    rw[Nat.pow_add,Nat.mul_left_comm]
   rw[e5,Nat.mul_assoc,←Nat.pow_add]
   exact Nat.mul_le_mul_left _ (Nat.pow_le_pow_right (by decide) (by omega))
  omega
 omega
theorem Bs (a n e:Nat) (D:Int) (hn:0<n) (b:n*2^e≤a) (hD:(e:Int)-52=D):4503599627370496≤iw a n D:=by
 unfold iw
 have h:=zO (a*2^(-D).toNat) (n*2^D.toNat)
 have hv:0<n*2^D.toNat:=Nat.mul_pos hn (Nat.two_pow_pos _)
 have h2:4503599627370496≤a*2^(-D).toNat/(n*2^D.toNat):=by
  rw[Nat.le_div_iff_mul_le hv]
  have q1:n*2^e*2^(-D).toNat≤a*2^(-D).toNat:=Nat.mul_le_mul_right _ b
  have q2:4503599627370496*(n*2^D.toNat)=n*2^e*2^(-D).toNat:=by
   have e5:4503599627370496*(n*2^D.toNat)=n*2^(52+D.toNat):=by
    rw[Nat.pow_add,Nat.mul_left_comm]
   rw[e5,Nat.mul_assoc,←Nat.pow_add]
   congr 2
   omega
  omega
 omega
theorem iz (a1 n1 a2 n2:Nat) (p1 p2 c:Int) (k1:0<n1) (k2:0<n2) (h1:n1≤a1) (h2:n2≤a2) (c1:c≤p1) (c2:c≤p2)
  (h:a1*n2*2^(p1-c).toNat≤a2*n1*2^(p2-c).toNat):bq a1 n1 p1≤bq a2 n2 p2:=by
 obtain⟨b1,d1⟩:=zQ a1 n1 k1 h1
 obtain⟨b2,d2⟩:=zQ a2 n2 k2 h2
 unfold bq
 generalize (a1/n1).log2=e1 at*
 generalize (a2/n2).log2=e2 at*
 have hm:=zB a1 n1 a2 n2 e1 e2 _ _ k1 b1 d2 h
 have hL:bH e1 p1≤bH e2 p2:=by unfold bH;omega
 by_cases hlt:bH e1 p1<bH e2 p2
 ·have x1:=Cv a1 n1 e1 (bH e1 p1-p1) k1 d1 (by unfold bH;omega)
  have x2:=Bs a2 n2 e2 (bH e2 p2-p2) k2 b2 (by unfold bH at*;omega)
  have hlo: -1074≤bH e1 p1:=by unfold bH;omega
  generalize bH e1 p1=L1 at*
  generalize bH e2 p2=L2 at*
  have x3:(L1+1074).toNat+1≤(L2+1074).toNat:=by omega
  have x4:((L1+1074).toNat+1)*4503599627370496≤(L2+1074).toNat*4503599627370496:=Nat.mul_le_mul_right _ x3
  omega
 ·have e:bH e1 p1=bH e2 p2:=by omega
  rw[e]
  generalize bH e2 p2=L at*
  apply Nat.add_le_add_left
  unfold iw
  apply AQ
  ·exact Nat.mul_pos k1 (Nat.two_pow_pos _)
  ·exact Nat.mul_pos k2 (Nat.two_pow_pos _)
  ·-- both sides by the same power of two
   have f: ∀(x y:Nat) (s t:Nat),x*2^s*(y*2^t)=x*y*2^(s+t):=by
    intro x y s t;rw[Nat.pow_add];simp only[Nat.mul_assoc,Nat.mul_left_comm]
   rw[f,f]
   have hx: ∃z1 z2:Nat,(-(L-p1)).toNat+(L-p2).toNat+z1=(p1-c).toNat+z2∧(-(L-p2)).toNat+(L-p1).toNat+z1=(p2-c).toNat+z2:=by
    refine⟨(p1-c).toNat+(p2-c).toNat,(-(L-p1)).toNat+(L-p2).toNat+(p2-c).toNat,by omega,by omega⟩
   obtain⟨z1,z2,y1,y2⟩:=hx
   have g:a1*n2*2^(p1-c).toNat*2^z2≤a2*n1*2^(p2-c).toNat*2^z2:=Nat.mul_le_mul_right _ h
   rw[Nat.mul_assoc,←Nat.pow_add,←y1,Nat.mul_assoc (a2*n1),←Nat.pow_add,←y2,Nat.pow_add,Nat.pow_add 2 _ z1,←Nat.mul_assoc,←Nat.mul_assoc] at g
   exact Nat.le_of_mul_le_mul_right g (Nat.two_pow_pos _)
def vm (r:Nat):Nat:=if r<4503599627370496 then r else 4503599627370496+r%4503599627370496
def vp (r:Nat):Nat:=if r<4503599627370496 then 0 else r/4503599627370496-1
def val (r:Nat):Nat:=vm r*2^vp r
theorem fQ (r:Nat) (h:r<9218868437227405312):Ieee.double.read r= .number false (vm r) (-1074+(vp r:Int)):=by
 have e1:r%9223372036854775808=r:=by omega
 have e2:r/9223372036854775808=0:=by omega
 unfold Ieee.Format.read vm vp
 simp only[gP,fs,gw,oK,e1,e2]
 by_cases hr:r<4503599627370496
 ·rw[if_pos hr,if_pos hr,if_pos hr];rfl
 ·rw[if_neg hr,if_pos h,if_neg hr,if_neg hr];rfl
theorem GP (r:Nat):vm r<9007199254740992:=by unfold vm;split<;>omega
theorem AV (r1 r2:Nat) (h:r1≤r2):val r1≤val r2:=by
 unfold val vm vp
 by_cases h1:r1<4503599627370496
 ·by_cases h2:r2<4503599627370496
  ·simp only[if_pos h1,if_pos h2];omega
  ·simp only[if_pos h1,if_neg h2]
   have:0<2^(r2/4503599627370496-1):=Nat.two_pow_pos _
   calc r1*2^0≤4503599627370496+r2%4503599627370496:=by omega
    _≤(4503599627370496+r2%4503599627370496)*2^(r2/4503599627370496-1):=Nat.le_mul_of_pos_right _ this
 ·have h2: ¬r2<4503599627370496:=by omega
  simp only[if_neg h1,if_neg h2]
  by_cases hb:r1/4503599627370496=r2/4503599627370496
  ·rw[hb]
   exact Nat.mul_le_mul_right _ (by omega)
  ·have hlt:r1/4503599627370496<r2/4503599627370496:=by omega
   have hb1:1≤r1/4503599627370496:=by omega
   generalize r1/4503599627370496=q1 at*
   generalize r2/4503599627370496=q2 at*
   have s1:(4503599627370496+r1%4503599627370496)*2^(q1-1)≤4503599627370496*2^q1:=by
    have e:2^q1=2*2^(q1-1):=by rw[show q1=(q1-1)+1 by omega,Nat.pow_succ];simp[Nat.mul_comm]
    rw[e,←Nat.mul_assoc]
    exact Nat.mul_le_mul_right _ (by omega)
   have s2:4503599627370496*2^q1≤(4503599627370496+r2%4503599627370496)*2^(q2-1):=
    Nat.mul_le_mul (by omega) (Nat.pow_le_pow_right (by decide) (by omega))
   exact Nat.le_trans s1 s2
theorem Ee (a n d:Nat) (hn':0<n) (hd:1≤d):wF (2*(a/n)+(a%n !=0).toNat) (2^(d+1))=wF a (n*2^d):=by
 obtain⟨e,rfl⟩: ∃e,d=e+1:=⟨d-1,by omega⟩
 have hb:((a%n !=0).toNat=0∧a%n=0)∨((a%n !=0).toNat=1∧0<a%n):=by
  by_cases h:a%n=0
  ·left;simp[h]
  ·right
   have:(a%n !=0)=true:=by simp[h]
   rw[this];exact⟨rfl,by omega⟩
 generalize (a%n !=0).toNat=b at*
 have ha:a=n*(a/n)+a%n:=(Nat.div_add_mod a n).symm
 have hr:a%n<n:=Nat.mod_lt _ hn'
 have dd:a/(n*2^(e+1))=a/n/2^(e+1):=by rw[Nat.div_div_eq_div_mul]
 have dm:a%(n*2^(e+1))=n*(a/n%2^(e+1))+a%n:=by
  rw[Nat.mod_mul];omega
 have p2:2^(e+1+1)=2*2^(e+1):=by rw[Nat.pow_succ,Nat.mul_comm]
 have p1:2^(e+1)=2*2^e:=by rw[Nat.pow_succ,Nat.mul_comm]
 unfold wF
 rw[dd,dm]
 generalize a/n=Q at*
 generalize a%n=R at*
 have s1:(2*Q+b)/2^(e+1+1)=Q/2^(e+1):=by
  rw[p2,←Nat.div_div_eq_div_mul]
  congr 1
  omega
 have s2:(2*Q+b)%2^(e+1+1)=2*(Q%2^(e+1))+b:=by
  rw[p2,Nat.mod_mul]
  have x1:(2*Q+b)%2=b:=by omega
  have x2:(2*Q+b)/2=Q:=by omega
  rw[x1,x2];omega
 rw[s1,s2]
 have hq:Q%2^(e+1)<2^(e+1):=Nat.mod_lt _ (Nat.two_pow_pos _)
 generalize Q/2^(e+1)=K
 generalize Q%2^(e+1)=M at*
 rw[p2,p1] at*
 generalize 2^e=H at*
 have c1:(2*(2*H)<2*(2*M+b))↔(n*(2*H)<2*(n*M+R)):=by
  constructor
  ·intro h
   by_cases hm:H<M
   ·have:n*(H+1)≤n*M:=Nat.mul_le_mul_left _ hm
    rw[Nat.mul_add] at this
    rw[Nat.mul_left_comm]
    omega
   ·have hm:H=M:=by omega
    subst hm
    rw[Nat.mul_left_comm]
    omega
  ·intro h
   rw[Nat.mul_left_comm] at h
   by_cases hm:H≤M
   ·by_cases he:H=M
    ·subst he;omega
    ·omega
   ·exfalso
    have:n*(M+1)≤n*H:=Nat.mul_le_mul_left _ (by omega)
    rw[Nat.mul_add] at this
    omega
 have c2:(2*(2*H)=2*(2*M+b))↔(n*(2*H)=2*(n*M+R)):=by
  constructor
  ·intro h
   have hb0:b=0:=by omega
   have hM:H=M:=by omega
   subst hM
   rw[Nat.mul_left_comm]
   omega
  ·intro h
   rw[Nat.mul_left_comm] at h
   have hx:n*H=n*M+R:=by omega
   by_cases hm:H≤M
   ·have:n*H≤n*M:=Nat.mul_le_mul_left _ hm
    have hR:R=0:=by omega
    have he:n*H=n*M:=by omega
    have:=Nat.eq_of_mul_eq_mul_left hn' he
    omega
   ·exfalso
    have:n*(M+1)≤n*H:=Nat.mul_le_mul_left _ (by omega)
    rw[Nat.mul_add] at this
    omega
 simp only[c1,c2]
theorem tw (Q b:Nat) (hQ:1≤Q) (hb:b≤1):(2*Q+b).log2=Q.log2+1:=by
 have h0:Q≠0:=by omega
 have h1:=Nat.log2_self_le h0
 have h2:=Nat.lt_log2_self (n:=Q)
 refine(Nat.log2_eq_iff (by omega)).2 ⟨?_,?_⟩
 ·rw[Nat.pow_succ];omega
 ·rw[Nat.pow_succ];omega
theorem yJ (x y m n:Nat) (i j:Int) (hx:Ieee.double.read x= .number false m i) (hy:Ieee.double.read y= .number false n j) (hm:m≠0) (hn:n≠0) (hl:m.log2≤53):
  floatBits .quo .f64 x y=some (min (bq (m*2^(54+n.log2-m.log2)) n (i-j-((54+n.log2-m.log2:Nat):Int))) 9218868437227405312):=by
 have hf:Ieee.double.fractionBits=52:=rfl
 show(((Ieee.double.read x).quotient (Ieee.double.fractionBits+2) (Ieee.double.read y)).map Ieee.double.write)=_
 rw[hx,hy]
 simp only[Ieee.Datum.quotient,if_neg hn,Option.map_some,Option.some.injEq,hf]
 rw[show(52+2+n.log2-m.log2)=54+n.log2-m.log2 from rfl]
 generalize hk:54+n.log2-m.log2=k
 rw[Nat.shiftLeft_eq]
 have hn0:0<n:=by omega
 have hQ:9007199254740992≤m*2^k/n:=by
  rw[Nat.le_div_iff_mul_le hn0]
  have q1:=Nat.log2_self_le hm
  have q2:=Nat.lt_log2_self (n:=n)
  have q3:2^m.log2*2^k≤m*2^k:=Nat.mul_le_mul_right _ q1
  rw[←Nat.pow_add,show m.log2+k=53+(n.log2+1) by omega,Nat.pow_add] at q3
  generalize 2^(n.log2+1)=N at*
  omega
 have hb:(m*2^k%n !=0).toNat≤1:=by cases (m*2^k%n !=0)<;>decide
 have hM:2*(m*2^k/n)+(m*2^k%n !=0).toNat≠0:=by omega
 have hst:=fun d hd=>Ee (m*2^k) n d hn0 hd
 have hlog:=tw (m*2^k/n) _ (by omega) hb
 have he:53≤(m*2^k/n).log2:=(Nat.le_log2 (by omega)).2 (by omega)
 have fin: ∀p:Int,Ieee.double.write (.number (false^^false) (2*(m*2^k/n)+(m*2^k%n !=0).toNat) (p-1))=min (bq (m*2^k) n p) 9218868437227405312:=by
  intro p
  show Ieee.double.write (.number false (2*(m*2^k/n)+(m*2^k%n !=0).toNat) (p-1))=_
  rw[gF _ _ hM]
  have er:bq (2*(m*2^k/n)+(m*2^k%n !=0).toNat) 1 (p-1)=bq (m*2^k) n p:=by
   unfold bq iw
   rw[Nat.div_one,hlog]
   have eL:bH ((m*2^k/n).log2+1) (p-1)=bH (m*2^k/n).log2 p:=by unfold bH;omega
   rw[eL]
   have hD:1≤bH (m*2^k/n).log2 p-p:=by unfold bH;omega
   generalize bH (m*2^k/n).log2 p=L at*
   have z1:(-(L-(p-1))).toNat=0:=by omega
   have z2:(-(L-p)).toNat=0:=by omega
   have z3:(L-(p-1)).toNat=(L-p).toNat+1:=by omega
   rw[z1,z2,z3,Nat.pow_zero,Nat.mul_one,Nat.mul_one,Nat.one_mul,hst (L-p).toNat (by omega)]
  rw[er]
 exact fin _
theorem ye (m1 m2 s1 s2 z t1 t2:Nat) (h:m1*2^s1≤m2*2^s2) (e1:t1=s1+z) (e2:t2=s2+z):m1*2^t1≤m2*2^t2:=by
 subst e1 e2
 rw[Nat.pow_add,Nat.pow_add,←Nat.mul_assoc,←Nat.mul_assoc]
 exact Nat.mul_le_mul_right _ h
theorem xN (a:Nat):floatOfInt .f64 (a:Int)=Ieee.double.write (.number false a 0):=by
 show Ieee.double.write (.number (decide ((a:Int)<0)) (a:Int).natAbs 0)=_
 rw[show decide ((a:Int)<0)=false by simp,Int.natAbs_natCast]
theorem Bk:bq 18446744073709551616 1 0=4895412794951729152:=by decide+kernel
theorem tp (a:Nat) (ha:a≠0) (h:a<18446744073709551616):bq a 1 0≤4895412794951729152:=by
 rw[←Bk]
 exact iz a 1 _ 1 0 0 0 (by decide) (by decide) (by omega) (by decide) (by omega) (by omega) (by simp;omega)
theorem zn (a:Nat) (ha:a≠0) (h:a<18446744073709551616):floatOfInt .f64 (a:Int)=bq a 1 0:=by
 rw[xN,gF a 0 ha]
 have:=tp a ha h
 omega
theorem AU (a b:Nat) (ha:a≠0) (h:a≤b):bq a 1 0≤bq b 1 0:=
 iz a 1 b 1 0 0 0 (by decide) (by decide) (by omega) (by omega) (by omega) (by omega) (by simp;omega)
theorem qm:bq 1 1 0=4607182418800017408:=by decide+kernel
theorem BJ (a:Nat) (ha:a≠0):4607182418800017408≤bq a 1 0:=by
 rw[←qm];exact AU 1 a (by decide) (by omega)
theorem yw (r:Nat) (h:1≤r):vm r≠0:=by unfold vm;split<;>omega
theorem zL (r:Nat):(vm r).log2≤53:=by
 by_cases h:vm r=0
 ·rw[h];decide
 ·have:=(Nat.log2_lt h).2 (show vm r<2^53 by have:=GP r;omega)
  omega
theorem AA (y n:Nat) (j:Int) (hy:Ieee.double.read y= .number false n j) (hn:n≠0):floatBits .quo .f64 0 y=some 0:=by
 show(((Ieee.double.read 0).quotient (Ieee.double.fractionBits+2) (Ieee.double.read y)).map Ieee.double.write)=_
 rw[oQ,hy]
 simp only[Ieee.Datum.quotient,if_neg hn,Option.map_some,Option.some.injEq,Nat.zero_shiftLeft,Nat.zero_div,Nat.zero_mod]
 unfold Ieee.Format.write Ieee.Format.nearest
 rfl
theorem qz (a:Nat) (ha:a≠0) (h:a<18446744073709551616):Ieee.double.read (floatOfInt .f64 (a:Int))= .number false (vm (bq a 1 0)) (-1074+(vp (bq a 1 0):Int)):=by
 rw[zn a ha h]
 exact fQ _ (by have:=tp a ha h;omega)
def GG (n:Nat):Nat:=2^n
def U:Nat:=GG 1074
theorem DA (n:Nat) (h:n=1074):2^n=U:=by
 unfold U
 rw[←h]
 rfl
theorem CS (m n:Nat) (h:m+n=1074):2^m*2^n=U:=by rw[←Nat.pow_add];exact DA _ h
theorem val_one:val 4607182418800017408=U:=by decide+kernel
theorem val_zero:val 0=0:=by decide
theorem qX: ∀k:Fin 200,val (bq (k.val+1) 1 0)=(k.val+1)*U:=by decide+kernel
theorem vO (x:Nat) (hx:x<18446744073709551616) (h0:(FloatKind.f64.format.order x 0==some .gt)=true) (h1:(FloatKind.f64.format.order x 4607182418800017408==some .gt)=false):
  x<9218868437227405312∧val x≤U:=by
 have h1'':FloatKind.f64.format.order x 4607182418800017408≠some .gt:=by simpa using h1
 have h1':(Ieee.double.read x).order (Ieee.double.read 4607182418800017408)≠some .gt:=h1''
 rw[rj] at h1'
 rcases wO x h0 with e|⟨m,i,hm,e⟩
 ·rw[e] at h1'
  simp[Ieee.Datum.order] at h1'
 ·-- the sign's bit is not set, and the rung is below infinity's
  have hs:x<9218868437227405312:=by
   have e':=e
   unfold Ieee.Format.read at e'
   simp only[gP,fs,gw] at e'
   by_cases hneg:x<9223372036854775808
   ·have e1:x%9223372036854775808=x:=by omega
    rw[e1] at e'
    split at e'
    ·omega
    ·split at e'
     ·assumption
     ·split at e'<;>cases e'
   ·have e2:(x/9223372036854775808%2==1)=true:=by
     have:x/9223372036854775808=1:=by omega
     rw[this];rfl
    rw[e2] at e'
    split at e'
    ·cases e'
    ·split at e'
     ·cases e'
     ·split at e'<;>cases e'
  refine⟨hs,?_⟩
  rw[fQ x hs] at h1'
  simp only[Ieee.Datum.order,ne_eq,Option.some.injEq,Int.compare_eq_gt,Ieee.signed,Bool.false_eq_true,if_false,Nat.shiftLeft_eq,Int.ofNat_lt,Nat.not_lt] at h1'
  unfold val
  generalize vm x=a at*
  generalize vp x=b at*
  obtain⟨q,hq⟩: ∃q:Nat,q=1022:=⟨_,rfl⟩
  have h3:=ye a 4503599627370496 _ _ (min (b:Int) 1022).toNat b q h1' (by omega) (by omega)
  have h4:4503599627370496*2^q=U:=CS 52 q (by omega)
  omega
theorem rB (x:Nat) (hx:x<18446744073709551616):cj x<9218868437227405312∧val (cj x)≤U:=by
 unfold cj
 split
 ·exact⟨by decide,by rw[val_one];exact Nat.le_refl _⟩
 ·rename_i h1
  split
  ·rename_i h0
   exact vO x hx h0 (by simpa using h1)
  ·exact⟨by decide,by rw[val_zero];exact Nat.zero_le _⟩
theorem qW (T z k:Nat) (h0:T≠0) (hT:T*2^z≤(k+1)*U):bq T 1 (-1074+(z:Int))≤bq (k+1) 1 0:=by
 obtain⟨c,hc⟩: ∃c:Int,c= -1074:=⟨_,rfl⟩
 have e1:(-1074+(z:Int)-c).toNat=z:=by omega
 have e2:2^((0:Int)-c).toNat=U:=DA _ (by omega)
 have h:=iz T 1 (k+1) 1 (-1074+(z:Int)) 0 c (by decide) (by decide) (by omega) (by omega) (by omega) (by omega)
 rw[e1,e2,Nat.mul_one,Nat.mul_one] at h
 exact h hT
theorem qE (x y k:Nat) (hx:x<9218868437227405312) (hy:y<9218868437227405312) (hk:k<200) (hv:val x+val y≤(k+1)*U):
  ∃r,floatBits .add .f64 x y=some r∧r<9218868437227405312∧val r≤(k+1)*U:=by
 have hvk:val (bq (k+1) 1 0)=(k+1)*U:=qX ⟨k,hk⟩
 show∃r,(((Ieee.double.read x).sum (Ieee.double.read y)).map Ieee.double.write)=some r∧_
 rw[fQ x hx,fQ y hy]
 simp only[Ieee.Datum.sum,Option.map_some,Option.some.injEq,Ieee.signed,Bool.false_eq_true,if_false,Nat.shiftLeft_eq,Bool.false_and]
 unfold val at hv
 generalize vm x=a at*
 generalize vm y=b at*
 generalize vp x=s at*
 generalize vp y=t at*
 refine⟨_,rfl,?_⟩
 have hT: ∃T:Nat,((a*2^(-1074+(s:Int)-min (-1074+(s:Int)) (-1074+(t:Int))).toNat:Nat):Int)+((b*2^(-1074+(t:Int)-min (-1074+(s:Int)) (-1074+(t:Int))).toNat:Nat):Int)=(T:Int)∧T*2^(min s t)≤(k+1)*U:=by
  refine⟨a*2^(s-min s t)+b*2^(t-min s t),?_,?_⟩
  ·rw[show(-1074+(s:Int)-min (-1074+(s:Int)) (-1074+(t:Int))).toNat=s-min s t by omega,show(-1074+(t:Int)-min (-1074+(s:Int)) (-1074+(t:Int))).toNat=t-min s t by omega]
   exact(Int.natCast_add _ _).symm
  ·rw[Nat.add_mul,Nat.mul_assoc,Nat.mul_assoc,←Nat.pow_add,←Nat.pow_add,show s-min s t+min s t=s by omega,show t-min s t+min s t=t by omega]
   exact hv
 obtain⟨T,eT,hT⟩:=hT
 rw[eT]
 have hbase:min (-1074+(s:Int)) (-1074+(t:Int))= -1074+((min s t:Nat):Int):=by omega
 rw[hbase]
 generalize min s t=z at*
 by_cases h0:T=0
 ·subst h0
  have e:Ieee.double.write (.number (if (((0:Nat):Int)=0) then false else decide (((0:Nat):Int)<0)) ((0:Nat):Int).natAbs (-1074+(z:Int)))=0:=by
   rw[if_pos (by rfl)]
   unfold Ieee.Format.write Ieee.Format.nearest
   rfl
  rw[e,val_zero]
  exact⟨by decide,Nat.zero_le _⟩
 ·have e:Ieee.double.write (.number (if ((T:Int)=0) then false else decide ((T:Int)<0)) (T:Int).natAbs (-1074+(z:Int)))=min (bq T 1 (-1074+(z:Int))) 9218868437227405312:=by
   rw[if_neg (by omega),show decide ((T:Int)<0)=false by simp,Int.natAbs_natCast,gF T _ h0]
  rw[e]
  have hm:=qW T z k h0 hT
  have hb:=tp (k+1) (by omega) (by omega)
  have hlt:bq T 1 (-1074+(z:Int))<9218868437227405312:=Nat.lt_of_le_of_lt hm (Nat.lt_of_le_of_lt hb (by decide))
  rw[Nat.min_eq_left (Nat.le_of_lt hlt)]
  refine⟨hlt,?_⟩
  rw[←hvk]
  exact AV _ _ hm
def dL (l:List Nat):Nat:=l.foldl (fun s x=>(floatBits .add .f64 s (cj x)).getD 0) 0
theorem oj (l:List Nat) (x:Nat):dL (l++[x])=(floatBits .add .f64 (dL l) (cj x)).getD 0:=by
 unfold dL;rw[List.foldl_append];rfl
theorem qc: ∀(k:Nat) (l:List Nat),l.length=k→k≤200→(∀x∈l,x<18446744073709551616)→dL l<9218868437227405312∧val (dL l)≤k*U
 |0,l,hl,_,_=>by
  have:l=[]:=List.length_eq_zero_iff.1 hl
  subst this
  exact⟨by decide,by show val 0≤_;rw[val_zero];exact Nat.zero_le _⟩
 |k+1,l,hl,hk,hx=>by
  obtain⟨l',x,rfl⟩: ∃l' x,l=l'++[x]:=⟨l.dropLast,l.getLast (by intro h;subst h;simp at hl),(List.dropLast_concat_getLast _).symm⟩
  have hl':l'.length=k:=by simp at hl;exact hl
  obtain⟨i1,i2⟩:=qc k l' hl' (by omega) (fun y hy=>hx y (by simp[hy]))
  obtain⟨c1,c2⟩:=rB x (hx x (by simp))
  obtain⟨r,e,r1,r2⟩:=qE (dL l') (cj x) k i1 c1 (by omega) (by rw[Nat.add_mul,Nat.one_mul];exact Nat.add_le_add i2 c2)
  rw[oj,e]
  exact⟨r1,r2⟩
theorem oW (l:List Nat) (x:Nat) (hl:l.length<200) (hx: ∀y∈l,y<18446744073709551616) (hx':x<18446744073709551616):
  floatBits .add .f64 (dL l) (cj x)=some (dL (l++[x])):=by
 obtain⟨i1,i2⟩:=qc l.length l rfl (by omega) hx
 obtain⟨c1,c2⟩:=rB x hx'
 obtain⟨r,e,r1,r2⟩:=qE (dL l) (cj x) l.length i1 c1 (by omega) (by rw[Nat.add_mul,Nat.one_mul];exact Nat.add_le_add i2 c2)
 rw[oj,e]
 rfl
theorem Dg (l:List Nat) (h0:l≠[]) (hl:l.length≤200) (hx: ∀y∈l,y<18446744073709551616):
  ∃r,floatBits .quo .f64 (dL l) (floatOfInt .f64 (l.length:Int))=some r∧r≤4607182418800017408:=by
 obtain⟨i1,i2⟩:=qc l.length l rfl hl hx
 have hn:l.length≠0:=by intro h;exact h0 (List.length_eq_zero_iff.1 h)
 generalize l.length=n at*
 generalize dL l=s at*
 have hrn:=qz n hn (by omega)
 have hvn:vm (bq n 1 0)≠0:=yw _ (by have:=BJ n hn;omega)
 have hval:val (bq n 1 0)=n*U:=by
  have:=qX ⟨n-1,by omega⟩
  simp only[show n-1+1=n by omega] at this
  exact this
 by_cases hs:s=0
 ·subst hs
  exact⟨0,AA _ _ _ hrn hvn,by decide⟩
 ·have hvs:vm s≠0:=yw s (by omega)
  refine⟨_,yJ _ _ _ _ _ _ (fQ s i1) hrn hvs hvn (zL _),?_⟩
  rw[←hval] at i2
  unfold val at i2
  have hl1:=zL s
  generalize vm (bq n 1 0)=N at*
  generalize vp (bq n 1 0)=j at*
  generalize vm s=m at*
  generalize vp s=i at*
  have big:N≤m*2^(54+N.log2-m.log2):=by
   have q1:=Nat.log2_self_le hvs
   have q2:=Nat.lt_log2_self (n:=N)
   have q3:2^m.log2*2^(54+N.log2-m.log2)≤m*2^(54+N.log2-m.log2):=Nat.mul_le_mul_right _ q1
   rw[←Nat.pow_add,show m.log2+(54+N.log2-m.log2)=53+(N.log2+1) by omega,Nat.pow_add] at q3
   generalize 2^(N.log2+1)=Q at*
   omega
  generalize 54+N.log2-m.log2=k at*
  have hm:bq (m*2^k) N (-1074+(i:Int)-(-1074+(j:Int))-(k:Int))≤bq 1 1 0:=by
   refine iz _ N 1 1 _ _ (min (-1074+(i:Int)-(-1074+(j:Int))-(k:Int)) (-(j:Int))) (by omega) (by decide) big (by decide) (by omega) (by omega) ?_
   generalize hc:min (-1074+(i:Int)-(-1074+(j:Int))-(k:Int)) (-(j:Int))=c
   rw[Nat.mul_one,Nat.one_mul,Nat.mul_assoc,←Nat.pow_add]
   exact ye m N i j (-(j:Int)-c).toNat _ _ i2 (by omega) (by omega)
  rw[qm] at hm
  exact Nat.le_trans (Nat.min_le_left _ _) hm
end Go.Proofs.YtdbailcdlngemaaGreatDoor.Fl
namespace Go.Proofs.YtdbailcdlngemaaGreatDoor.Fl
open Go.RowKit Go.Lib
theorem ml (zs:List Nat) (k:Nat) (h:k<zs.length):zs.take (k+1)=zs.take k++[zs.getD k 0]:=by
 rw[List.take_succ_eq_append_getElem h]
 simp[List.getD,List.getElem?_eq_getElem h]
theorem Dp (b off cap:Nat) (zs:List Nat) (r:Nat) (w:World) (hl:zs.length≤200) (h0:1≤zs.length) (hx: ∀y∈zs,y<18446744073709551616)
  (hc: ∀i,i<zs.length→w.cell? ⟨b,off+i,none⟩=some (.float .f64 (zs.getD i 0)))
  (HQ:Hid (floatBits .quo .f64 (dL zs) (floatOfInt .f64 (zs.length:Int))=some r)):
  Calls Tryz.prog 15 #[.slice (some ⟨b,off,none⟩) zs.length cap] w fun e w'=>e= .returned (.float .f64 r)∧w'=w:=by
 have hrun: ∀w,(binOp .quo 25 (.float .f64 (dL zs)) (.float .f64 (floatOfInt .f64 (zs.length:Int)))).run Tryz.prog w= .ok (.float .f64 r) w:=fun w=>run_float_arith w .quo 25 .f64 _ _ _ HQ.out
 go_enter Tryz.func15,Tryz.ntmps15
 go_wp2
 go_loop [3,8] (fun s i=> ∃k:Nat,k≤zs.length∧i= .int .i64 k∧s= .float .f64 (dL (zs.take k))) (fun _ i=>zs.length-(intOf i).toNat)
 case atStart=>exact⟨0,by omega,rfl,rfl⟩
 case round=>
  obtain⟨k,hk,rfl,rfl⟩:=hrel
  by_cases hlt:k<zs.length
  ·have hcell:=hc k hlt
   have hadd: ∀w,(binOp .add 25 (.float .f64 (dL (zs.take k))) (.float .f64 (cj (zs.getD k 0)))).run Tryz.prog w= .ok (.float .f64 (dL (zs.take (k+1)))) w:=fun w=>
    run_float_arith w .add 25 .f64 _ _ _ (by
     rw[ml zs k hlt]
     exact oW _ _ (by rw[List.length_take];omega) (fun y hy=>hx y (List.mem_of_mem_take hy)) (by
      have:zs.getD k 0=zs[k]:=by simp[List.getD,List.getElem?_eq_getElem hlt]
      rw[this];exact hx _ (List.getElem_mem hlt)))
   clear hc hrun
   generalize hz:zs.getD k 0=z at*
   clear hz
   go_wp2_with (go_at_call 24;refine(xv _ _).mono ?_;rintro e w' ⟨rfl,rfl⟩)
   go_round
   case rel=>exact⟨k+1,by omega,by go_num,rfl⟩
   case measure=>simp[intOf];omega
  ·have hk':k=zs.length:=by omega
   subst hk'
   rw[List.take_length]
   clear hc
   go_wp2
   go_ret
   exact⟨rfl,rfl⟩
theorem yd (b off cap:Nat) (zs:List Nat) (r:Nat) (w:World) (hl:zs.length≤200) (h0:1≤zs.length) (hx: ∀y∈zs,y<18446744073709551616)
  (hc: ∀i,i<zs.length→w.cell? ⟨b,off+i,none⟩=some (.float .f64 (zs.getD i 0)))
  (HQ:Hid (floatBits .quo .f64 (dL zs) (floatOfInt .f64 (zs.length:Int))=some r)):
  Calls Tryz.prog 17 #[.slice (some ⟨b,off,none⟩) zs.length cap] w fun e w'=>e= .returned (.float .f64 r)∧w'=w:=by
 have hrun: ∀w,(binOp .quo 25 (.float .f64 (dL zs)) (.float .f64 (floatOfInt .f64 (zs.length:Int)))).run Tryz.prog w= .ok (.float .f64 r) w:=fun w=>run_float_arith w .quo 25 .f64 _ _ _ HQ.out
 go_enter Tryz.func17,Tryz.ntmps17
 go_wp2
 go_loop [3,4] (fun s i=> ∃k:Nat,k≤zs.length∧i= .int .i64 k∧s= .float .f64 (dL (zs.take k))) (fun _ i=>zs.length-(intOf i).toNat)
 case atStart=>exact⟨0,by omega,rfl,rfl⟩
 case round=>
  obtain⟨k,hk,rfl,rfl⟩:=hrel
  by_cases hlt:k<zs.length
  ·have hcell:=hc k hlt
   have hadd: ∀w,(binOp .add 25 (.float .f64 (dL (zs.take k))) (.float .f64 (cj (zs.getD k 0)))).run Tryz.prog w= .ok (.float .f64 (dL (zs.take (k+1)))) w:=fun w=>
    run_float_arith w .add 25 .f64 _ _ _ (by
     rw[ml zs k hlt]
     exact oW _ _ (by rw[List.length_take];omega) (fun y hy=>hx y (List.mem_of_mem_take hy)) (by
      have:zs.getD k 0=zs[k]:=by simp[List.getD,List.getElem?_eq_getElem hlt]
      rw[this];exact hx _ (List.getElem_mem hlt)))
   clear hc hrun
   generalize hz:zs.getD k 0=z at*
   clear hz
   go_wp2_with (go_at_call 25;refine(tC _ _).mono ?_;rintro e w' ⟨rfl,rfl⟩)
   go_round
   case rel=>exact⟨k+1,by omega,by go_num,rfl⟩
   case measure=>simp[intOf];omega
  ·have hk':k=zs.length:=by omega
   subst hk'
   rw[List.take_length]
   clear hc
   go_wp2
   go_ret
   exact⟨rfl,rfl⟩
theorem re (w:World) (x y:Nat):jS w x y<18446744073709551616:=by
 unfold jS
 simp only[Question.cut]
 generalize w.tape w.drawn (.nanBits .f64 x y)=t
 have h1:t%2<2:=Nat.mod_lt _ (by decide)
 have h2:t/2%(2^52-1)<2^52-1:=Nat.mod_lt _ (by decide)
 generalize t%2=a at*
 generalize t/2%(2^52-1)=b at*
 simp only[show(2:Nat)^63=9223372036854775808 from rfl,show(2:Nat)^52-1=4503599627370495 from rfl] at*
 omega
def Ct (x y:Nat):Option Nat:=floatBits .quo .f64 (floatOfInt .f64 (x:Int)) (floatOfInt .f64 (y:Int))
def BA (x y r:Nat):Prop:=r<18446744073709551616∧(Ct x y=some r∨(Ct x y=none∧ ¬nO r))
def cS (d:Nat×Nat):Nat:=((Ct d.1 d.2).map cj).getD 0
theorem BA.Dy {x y r:Nat} (h:BA x y r):cj r=cS (x,y):=by
 unfold cS
 rcases h.2 with e|⟨e,hn⟩
 ·show _=((Ct x y).map cj).getD 0
  rw[e]
  rfl
 ·show _=((Ct x y).map cj).getD 0
  rw[e]
  unfold cj
  rw[mO r _ hn,mO r _ hn]
  rfl
theorem oT (x y:Nat) (w:World):Calls Tryz.prog 14 #[.int .u64 (x:Int),.int .u64 (y:Int)] w fun e w'=> ∃r,e= .returned (.float .f64 r)∧BA x y r∧Below w.heap.size w w':=by
 cases h:Ct x y with
 |some r=>
  refine(yV _ _ r w h).mono ?_
  rintro e w' ⟨rfl,rfl⟩
  exact⟨r,rfl,⟨by have:=floatBits_wf h;simpa [Lit.wf] using this,.inl h⟩,Below.refl _ _⟩
 |none=>
  have hrun: ∀w,(binOp .quo 25 (.float .f64 (floatOfInt .f64 (x:Int))) (.float .f64 (floatOfInt .f64 (y:Int)))).run Tryz.prog w= .ok (.float .f64 (jS w (floatOfInt .f64 (x:Int)) (floatOfInt .f64 (y:Int)))) w.drew:=fun w=>fK w 25 _ _ h
  have H:=(show Hid (Ct x y=none) from h)
  clear h
  go_enter Tryz.func14,Tryz.ntmps14
  go_wp2
  go_ret
  exact⟨_,rfl,⟨re _ _ _,.inr ⟨H.out,kR _ _ _⟩⟩,(Below.refl _ _).drew⟩
theorem tF (x y:Nat) (w:World):Calls Tryz.prog 16 #[.int .u64 (x:Int),.int .u64 (y:Int)] w fun e w'=> ∃r,e= .returned (.float .f64 r)∧BA x y r∧Below w.heap.size w w':=by
 cases h:Ct x y with
 |some r=>
  refine(wu _ _ r w h).mono ?_
  rintro e w' ⟨rfl,rfl⟩
  exact⟨r,rfl,⟨by have:=floatBits_wf h;simpa [Lit.wf] using this,.inl h⟩,Below.refl _ _⟩
 |none=>
  have hrun: ∀w,(binOp .quo 25 (.float .f64 (floatOfInt .f64 (x:Int))) (.float .f64 (floatOfInt .f64 (y:Int)))).run Tryz.prog w= .ok (.float .f64 (jS w (floatOfInt .f64 (x:Int)) (floatOfInt .f64 (y:Int)))) w.drew:=fun w=>fK w 25 _ _ h
  have H:=(show Hid (Ct x y=none) from h)
  clear h
  go_enter Tryz.func16,Tryz.ntmps16
  go_wp2
  go_ret
  exact⟨_,rfl,⟨re _ _ _,.inr ⟨H.out,kR _ _ _⟩⟩,(Below.refl _ _).drew⟩
def FW (l:List Nat):Nat:=l.foldl (fun s c=>(floatBits .add .f64 s c).getD 0) 0
theorem AY (l:List Nat):dL l=FW (l.map cj):=by
 unfold dL FW
 rw[List.foldl_map]
theorem Ez (n r:Nat) (h0:1≤n) (hn:n≤200) (hr:r≤4607182418800017408): ∃s,floatBits .mul .f64 r (floatOfInt .f64 (n:Int))=some s∧nO s:=by
 have e1:=fQ r (by omega)
 have e2:=qz n (by omega) (by omega)
 have h:floatBits .mul .f64 r (floatOfInt .f64 (n:Int))=((Ieee.double.read r).product (Ieee.double.read (floatOfInt .f64 (n:Int)))).map Ieee.double.write:=rfl
 rw[h,e1,e2]
 exact⟨_,rfl,oH _ rfl⟩
theorem Gk (l:List Nat) (h0:1≤l.length) (hl:l.length≤200) (hx: ∀y∈l,y<18446744073709551616): ∃r s,floatBits .quo .f64 (dL l) (floatOfInt .f64 (l.length:Int))=some r∧floatBits .mul .f64 r (floatOfInt .f64 (l.length:Int))=some s∧nO s:=by
 obtain⟨r,e,hr⟩:=Dg l (by intro h;subst h;simp at h0) hl hx
 obtain⟨s,e2,hs⟩:=Ez l.length r h0 hl hr
 exact⟨r,s,e,e2,hs⟩
end Go.Proofs.YtdbailcdlngemaaGreatDoor.Fl
namespace Go.Proofs.YtdbailcdlngemaaGreatDoor.Fl
open Go.RowKit Go.Lib Go.Deep Go.ChangeShapes Go.WideShapes
theorem tA {n:Nat} {α:Type} [Inhabited α] {p:Nat→α→Prop} (h: ∀i,i<n→ ∃x,p i x): ∃f:Nat→α,∀i,i<n→p i (f i):=
 ⟨fun i=>if hi:i<n then(h i hi).choose else default,fun i hi=>by simp only[dif_pos hi];exact(h i hi).choose_spec⟩
def qt (w:World) (a:Option Addr) (len:Nat) (D:Nat→Nat×Nat):Prop:=
 len=0∨ ∃lb off,a=some ⟨lb,off,none⟩∧lb<w.heap.size∧ ∀j,j<len→((D j).1<18446744073709551616∧(D j).2<18446744073709551616)∧w.cell? ⟨lb,off+j*2,none⟩=some (.int .u64 ((D j).1:Int))∧w.cell? ⟨lb,off+j*2+1,none⟩=some (.int .u64 ((D j).2:Int))
theorem yZ {z:Int} (h:(Lit.int .u64 z).wf=true): ∃n:Nat,z=n∧n<18446744073709551616:=⟨z.toNat,by have:=bounds_u64 h;omega,by have:=bounds_u64 h;omega⟩
section
variable {H:Type} {enc:TypeId×Value→H} {w:World} {base:Nat} {spare:Nat→Bool} {held:Bool}
theorem wZ:Tryz.prog.cellsOf 64=2:=by kernel_rfl
theorem yc:Tryz.prog.cellsOf 39=1:=by kernel_rfl
theorem vR {fuel:Nat} {e t:TypeId} {k:IntKind} {c0 c1:Value} {x:DataW H×List MemPlace} (ht:Tryz.prog.underlying t=some (.array 2 e)) (he:Tryz.prog.underlying e=some (.int k)) (hc:Tryz.prog.cellsOf e=1) (h:DataW.trod enc Tryz.prog w base spare held fuel t [c0,c1]=some x):
  ∃(a b:Int),c0= .int k a∧c1= .int k b∧(Lit.int k a).wf=true∧(Lit.int k b).wf=true:=by
 cases fuel with
 |zero=>simp[DataW.trod] at h
 |succ n=>
  unfold DataW.trod at h
  rw[ht] at h
  have r2:List.range 2=[0,1]:=rfl
  simp[r2,hc] at h
  obtain⟨_,hf⟩:=h
  cases h0:DataW.trod enc Tryz.prog w base spare held n e [c0] with
  |none=>simp[h0] at hf
  |some y0=>
   cases h1:DataW.trod enc Tryz.prog w base spare held n e [c1] with
   |none=>simp[h0,h1] at hf
   |some y1=>
    obtain⟨a,e0,_,w0⟩:=DataW.trod_int he h0
    obtain⟨b,e1,_,w1⟩:=DataW.trod_int he h1
    simp at e0 e1
    exact⟨a,b,e0,e1,w0,w1⟩
theorem se {fuel:Nat} {a:Option Addr} {len cap:Nat} {x:DataW H×List MemPlace}
  (h:DataW.trod enc Tryz.prog w base spare held fuel 22 (Value.slice a len cap).cells.toList=some x):len<9223372036854775808∧len≤cap∧cap<9223372036854775808∧ ∃D,qt w a len D:=by
 rcases open_slice Tryz.underlying22 h with ⟨hcs,_⟩|⟨a',len',cap',m,n,D,Pl,hcs,hbb,hl,hm,hmm,hx,ja⟩
 ·simp[Value.cells] at hcs
  obtain⟨rfl,rfl,rfl⟩:=hcs
  exact⟨by omega,by omega,by omega,fun _=>(0,0),.inl rfl⟩
 ·simp[Value.cells] at hcs
  obtain⟨rfl,rfl,rfl⟩:=hcs
  have hlm:len≤m:=by rw[hmm];split<;>omega
  refine⟨by unfold maxLen at hm;omega,hl,by unfold maxLen at hm;omega,?_⟩
  have hone: ∀i,i<len→ ∃r:Nat×Nat,(r.1<18446744073709551616∧r.2<18446744073709551616)∧w.cell? (a'.add (i*2))=some (.int .u64 (r.1:Int))∧w.cell? ((a'.add (i*2)).add 1)=some (.int .u64 (r.2:Int)):=by
   intro i hi'
   obtain⟨cs',h1,h2⟩:=ja i (by omega)
   rw[wZ] at h1
   obtain⟨_,hlen,hc⟩:=World.cells?_some h1
   match cs',hlen with
   |[c0,c1],_=>
    obtain⟨z0,z1,rfl,rfl,w0,w1⟩:=vR Tryz.underlying64 Tryz.underlying39 yc h2
    obtain⟨n0,rfl,q0⟩:=yZ w0
    obtain⟨n1,rfl,q1⟩:=yZ w1
    have a0:=hc 0 (by omega)
    have az: ∀x:Addr,x.add 0=x:=fun x=>by unfold Addr.add;split<;>simp_all
    rw[az] at a0
    exact⟨(n0,n1),⟨q0,q1⟩,a0,hc 1 (by omega)⟩
  obtain⟨f,hf⟩:=tA hone
  refine⟨f,?_⟩
  by_cases h0:len=0
  ·exact .inl h0
  ·right
   obtain⟨b,off,spot⟩:=a'
   have hspot:spot=none:=by
    have:=World.cell?_spot (hf 0 (by omega)).2.1
    simpa [Addr.add] using this
   subst hspot
   have hlt:b<w.heap.size:=by
    have:=World.block_lt_of_cell? w _ (hf 0 (by omega)).2.1
    simpa [Addr.add] using this
   refine⟨b,off,rfl,hlt,fun i hi'=> ?_⟩
   obtain⟨q0,q1,q2⟩:=hf i hi'
   simp only[Go.WideShapes.add_plain] at q1 q2
   exact⟨q0,q1,q2⟩
end
end Go.Proofs.YtdbailcdlngemaaGreatDoor.Fl
