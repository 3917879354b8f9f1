/-
  The walks of num's calls and of the documents's calls for sums and differences, over any numbers that fit: each call answers the plain function named beside it and leaves the world as it was.
-/
import Derived.Test.YtbefehoegmmgpaaRows
import Derived.WalkKit
import Derived.WalkSpells
import Derived.WalkLawsBesides
import Derived.StillTactics
import Derived.Laws.FloatArith
import Derived.RowKit3
namespace Go.Proofs.Ytbefehoegmmgpaa.Bq
open Go.RowKit

def addN (a b : Int) : Int := if 18446744073709551615 < a + b then 18446744073709551615 else a + b
def subN (a b : Int) : Int := if a < b then 0 else a - b

theorem addN_bd (a b : Int) (a0 : 0 ≤ a) (b0 : 0 ≤ b) : 0 ≤ addN a b ∧ addN a b ≤ 18446744073709551615 := by
  unfold addN; split <;> omega
theorem subN_bd (a b : Int) (a0 : 0 ≤ a) (a1 : a ≤ 18446744073709551615) (b0 : 0 ≤ b) : 0 ≤ subN a b ∧ subN a b ≤ 18446744073709551615 := by
  unfold subN; split <;> omega
end Go.Proofs.Ytbefehoegmmgpaa.Bq
