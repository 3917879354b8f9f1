/-
  The walk of 'live', which answers true and only makes memory.
-/
import Derived.Test.YtjhhhmeoahbagadW3
namespace Go.Proofs.Ytjhhhmeoahbagad
open Go.RowKit Go.Lib

abbrev one : Nat := 4607182418800017408
theorem share_half (w : World) :
    Calls Try.prog 11 #[.int .u64 1, .int .u64 2] w fun e w' => e = .returned (.float .f64 4602678819172646912) ∧ w' = w := by
  have e1 : floatOfInt .f64 1 = 4607182418800017408 := by decide +kernel
  have e2 : floatOfInt .f64 2 = 4611686018427387904 := by decide +kernel
  have e3 : ∀ w, (binOp .quo 35 (.float .f64 4607182418800017408) (.float .f64 4611686018427387904)).run Try.prog w = .ok (.float .f64 4602678819172646912) w := fun w => run_float_arith w .quo 35 .f64 _ _ _ (by decide +kernel)
  go_enter Try.func11, Try.ntmps11
  go_wp2
  go_ret
  exact ⟨rfl, rfl⟩
theorem clamp_seven (w : World) :
    Calls Try.prog 13 #[.float .f64 4619567317775286272] w fun e w' => e = .returned (.float .f64 4607182418800017408) ∧ w' = w := by
  have e1 : (FloatKind.f64.format.order 4619567317775286272 4607182418800017408 == some .gt) = true := by decide +kernel
  go_enter Try.func13, Try.ntmps13
  go_wp2
  go_ret
  exact ⟨rfl, rfl⟩
end Go.Proofs.Ytjhhhmeoahbagad
