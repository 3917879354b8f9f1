/- YtnmhcgpnhlhcgaaGreatDoorKf: of the texts F1 what is wanted. -/
import Derived.Test.YtnmhcgpnhlhcgaaGreatDoorK0
import Derived.Laws.FloatArith
import Derived.Test.YtnmhcgpnhlhcgaaGreatDoorRows
set_option maxHeartbeats 16000000
set_option maxRecDepth 100000
set_option linter.unusedVariables false
set_option linter.defProp false
set_option linter.unusedSimpArgs false
namespace Go.Proofs.YtnmhcgpnhlhcgaaGreatDoor.Fl
open Go
def PD (x:Nat):Prop:=(Ieee.double.read x).isNaN=false
theorem Dv:Ieee.double.signWeight=9223372036854775808:=by rfl
theorem zs:Ieee.double.binade=4503599627370496:=by rfl
theorem Iz:Ieee.double.infRung=9218868437227405312:=by rfl
def wF (w:World) (x y:Nat):Nat:=Question.cut (.nanBits .f64 x y) (w.tape w.drawn (.nanBits .f64 x y))
def Di (w:World) (x y:Nat): ¬PD (wF w x y):=by
 unfold wF PD
 simp only[Question.cut]
 generalize w.tape w.drawn (.nanBits .f64 x y)=t
 have d:t%2<2:=z_
 have c:t/2%(2^52-1)<2^52-1:=z_
 generalize t%2=a at*
 generalize t/2%(2^52-1)=b at*
 simp only[show(2:Nat)^63=9223372036854775808 from rfl,show(2:Nat)^52-1=4503599627370495 from rfl] at*
 have e:(a*9223372036854775808+9218868437227405312+1+b)%9223372036854775808=9218868437227405312+1+b:=z_
 unfold Ieee.Format.read
 simp only[Dv,zs,Iz,e]
 rw[if_neg z_,if_neg z_,if_neg z_]
 simp[Ieee.Datum.isNaN]
section
variable {P:Program} (w:World)
def rH (t:TypeId) (x y:Nat) (h:floatBits .quo .f64 x y=none):(binOp .quo t (.float .f64 x) (.float .f64 y)).run P w= .ok (.float .f64 (wF w x y)) w.drew:=by
 have a:FloatKind.f64.format.div x y=none:=h
 simp[binOp,Op.floatArith,a,choose,wF]
 rfl
end
end Go.Proofs.YtnmhcgpnhlhcgaaGreatDoor.Fl
