/- YtdbailcdlngemaaGreatDoorHf: of the texts F1 W4 W7 F2 F3 F4 F5 F6 F7 W10 Xe0 Xe9 what is wanted. -/
import Derived.Laws.FloatArith
import Derived.Test.YtdbailcdlngemaaGreatDoorRows
import Derived.WalkKit
import Derived.WalkSpells
import Derived.WalkLawsBesides
import Derived.StillTactics
import Derived.RowKit3
import Derived.Laws.StructEq
import Derived.Below
import Derived.ProofKit
import Derived.OpenShut
import Derived.Laws.IdiomArrays
import Derived.WideShapes
import Derived.ChangeOld
import Derived.Deep.Strs
import Derived.Deep.Slices
set_option maxHeartbeats 16000000
set_option maxRecDepth 100000
set_option linter.unusedVariables false
set_option linter.unusedSimpArgs false
namespace Go.Proofs.YtdbailcdlngemaaGreatDoor.Fl
open Go
def FU (x:Nat):Prop:=(Ieee.double.read x).isNaN=false
theorem xd:Ieee.double.signWeight=9223372036854775808:=by decide+kernel
theorem ti:Ieee.double.binade=4503599627370496:=by decide+kernel
theorem AO:Ieee.double.infRung=9218868437227405312:=by decide+kernel
def rj (w:World) (x y:Nat):Nat:=Question.cut (.nanBits .f64 x y) (w.tape w.drawn (.nanBits .f64 x y))
theorem wR (w:World) (x y:Nat): ¬FU (rj w x y):=by
 unfold rj FU
 simp only[Question.cut]
 generalize w.tape w.drawn (.nanBits .f64 x y)=t
 have h1:t%2<2:=Nat.mod_lt _ (by decide)
 have h2:t/2%(2^52-1)<2^52-1:=Nat.mod_lt _ (by decide)
 generalize t%2=a at*
 generalize t/2%(2^52-1)=b at*
 simp only[show(2:Nat)^63=9223372036854775808 from rfl,show(2:Nat)^52-1=4503599627370495 from rfl] at*
 have e:(a*9223372036854775808+9218868437227405312+1+b)%9223372036854775808=9218868437227405312+1+b:=by omega
 unfold Ieee.Format.read
 simp only[xd,ti,AO,e]
 rw[if_neg (by omega),if_neg (by omega),if_neg (by omega)]
 simp[Ieee.Datum.isNaN]
section
variable {P:Program} (w:World)
theorem nQ (t:TypeId) (x y:Nat) (h:floatBits .quo .f64 x y=none):(binOp .quo t (.float .f64 x) (.float .f64 y)).run P w= .ok (.float .f64 (rj w x y)) w.drew:=by
 have h':FloatKind.f64.format.div x y=none:=h
 simp[binOp,Op.floatArith,h',choose,rj]
 rfl
end
end Go.Proofs.YtdbailcdlngemaaGreatDoor.Fl
