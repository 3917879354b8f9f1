/-
  The walks of num's calls and of the documents's calls for sums and differences, over any numbers that fit: each call answers the plain function named beside it and leaves the world as it was.
-/
import Derived.Test.YtlfejgjhamcahaaRows
import Derived.WalkKit
import Derived.WalkSpells
import Derived.WalkLawsBesides
import Derived.StillTactics
import Derived.Laws.FloatArith
import Derived.RowKit3
namespace Go.Proofs.Ytlfejgjhamcahaa.Ag
open Go.RowKit

def addN (a b : Int) : Int := if 18446744073709551615 < a + b then 18446744073709551615 else a + b
def subN (a b : Int) : Int := if a < b then 0 else a - b

theorem sub_any (a b : Int) (w : World) (a0 : 0 ≤ a) (a1 : a ≤ 18446744073709551615) (b0 : 0 ≤ b) (b1 : b ≤ 18446744073709551615) :
    Calls Try.prog 61 #[.int .u64 a, .int .u64 b] w fun e w' => e = .returned (.int .u64 (subN a b)) ∧ w' = w := by
  unfold subN
  by_cases h : a < b
  · rw [if_pos h]
    go_enter Try.func61, Try.ntmps61
    go_wp2
    go_ret
    exact ⟨rfl, rfl⟩
  · rw [if_neg h]
    have h' : b ≤ a := by omega
    go_enter Try.func61, Try.ntmps61
    go_wp2
    go_ret
    exact ⟨rfl, rfl⟩

theorem addN_bd (a b : Int) (a0 : 0 ≤ a) (b0 : 0 ≤ b) : 0 ≤ addN a b ∧ addN a b ≤ 18446744073709551615 := by
  unfold addN; split <;> omega
theorem subN_bd (a b : Int) (a0 : 0 ≤ a) (a1 : a ≤ 18446744073709551615) (b0 : 0 ≤ b) : 0 ≤ subN a b ∧ subN a b ≤ 18446744073709551615 := by
  unfold subN; split <;> omega
end Go.Proofs.Ytlfejgjhamcahaa.Ag
