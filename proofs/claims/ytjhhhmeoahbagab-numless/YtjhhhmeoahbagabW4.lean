/-
  The walk of 'live', which answers true and only makes memory.
-/
import Derived.Test.YtjhhhmeoahbagabW3
namespace Go.Proofs.Ytjhhhmeoahbagab
open Go.RowKit Go.Lib

abbrev one : Nat := 4607182418800017408
theorem share_half (w : World) :
    Calls Try.prog 14 #[.int .u64 1, .int .u64 2] w fun e w' => e = .returned (.float .f64 4602678819172646912) ∧ w' = w := by
  have e1 : floatOfInt .f64 1 = 4607182418800017408 := by decide +kernel
  have e2 : floatOfInt .f64 2 = 4611686018427387904 := by decide +kernel
  have e3 : ∀ w, (binOp .quo 34 (.float .f64 4607182418800017408) (.float .f64 4611686018427387904)).run Try.prog w = .ok (.float .f64 4602678819172646912) w := fun w => run_float_arith w .quo 34 .f64 _ _ _ (by decide +kernel)
  go_enter Try.func14, Try.ntmps14
  go_wp2
  go_ret
  exact ⟨rfl, rfl⟩
theorem clamp_seven (w : World) :
    Calls Try.prog 23 #[.float .f64 4619567317775286272] w fun e w' => e = .returned (.float .f64 4607182418800017408) ∧ w' = w := by
  have e1 : (FloatKind.f64.format.order 4619567317775286272 4607182418800017408 == some .gt) = true := by decide +kernel
  go_enter Try.func23, Try.ntmps23
  go_wp2
  go_ret
  exact ⟨rfl, rfl⟩
set_option maxHeartbeats 1000000 in
theorem live_any (w : World) :
    Calls Try.prog 11 #[] w fun e w' => e = .returned (.bool true) ∧ ∃ c d : Array Value, w' = (w.alloc (.cells c 26)).alloc (.cells d 23) := by
  have k1 : addN 18446744073709551615 1 = 18446744073709551615 := by decide +kernel
  have k2 : hiN 18446744073709551615 2 = 1 := by decide +kernel
  have k3 : loN 18446744073709551615 2 = 18446744073709551614 := by decide +kernel
  have k4 : hiBit 1 0 0 0 = 0 := by decide +kernel
  have e1 : (FloatKind.f64.format.order 4607182418800017408 4607182418800017408 == some .eq) = true := by decide +kernel
  have e2 : (FloatKind.f64.format.order 4602678819172646912 4602678819172646912 == some .eq) = true := by decide +kernel
  go_enter Try.func11, Try.ntmps11
  go_wp2_with (first
    | (go_at_call 22; refine (add_any 18446744073709551615 1 _ (by decide) (by decide) (by decide) (by decide)).mono ?_; rintro e w' ⟨rfl, rfl⟩)
    | (go_at_call 10; refine (mul_any 18446744073709551615 2 _ (by decide) (by decide) (by decide) (by decide)).mono ?_; rintro e w' ⟨rfl, c, rfl⟩)
    | (go_at_call 23; refine (clamp_seven _).mono ?_; rintro e w' ⟨rfl, rfl⟩)
    | (go_at_call 12; refine (highest_any 1 0 0 0 _ ⟨by decide, by decide⟩ ⟨by decide, by decide⟩ ⟨by decide, by decide⟩ ⟨by decide, by decide⟩).mono ?_; rintro e w' ⟨rfl, d, rfl⟩)
    | (go_at_call 14; refine (share_half _).mono ?_; rintro e w' ⟨rfl, rfl⟩))
  go_ret
  exact ⟨rfl, _, _, rfl⟩
end Go.Proofs.Ytjhhhmeoahbagab
