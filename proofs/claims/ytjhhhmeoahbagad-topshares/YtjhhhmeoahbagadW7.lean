/-
  The walks of shares, of what is clamped, and of 'Same', over any bits.
-/
import Derived.Test.YtjhhhmeoahbagadW4
import Derived.Test.YtjhhhmeoahbagadF1
namespace Go.Proofs.Ytjhhhmeoahbagad
open Go.RowKit Go.Lib

/-- A float between 0 and 1. -/
def clampN (x : Nat) : Nat := if (FloatKind.f64.format.order x 4607182418800017408 == some .gt) = true then 4607182418800017408 else if (FloatKind.f64.format.order x 0 == some .gt) = true then x else 0

theorem clamp_any (x : Nat) (w : World) :
    Calls Try.prog 13 #[.float .f64 x] w fun e w' => e = .returned (.float .f64 (clampN x)) ∧ w' = w := by
  unfold clampN
  by_cases h1 : (FloatKind.f64.format.order x 4607182418800017408 == some .gt) = true
  · rw [if_pos h1]
    go_enter Try.func13, Try.ntmps13
    go_wp2
    go_ret
    exact ⟨rfl, rfl⟩
  · rw [if_neg h1]
    have h1' : (FloatKind.f64.format.order x 4607182418800017408 == some .gt) = false := by simpa using h1
    clear h1
    by_cases h2 : (FloatKind.f64.format.order x 0 == some .gt) = true
    · rw [if_pos h2]
      go_enter Try.func13, Try.ntmps13
      go_wp2
      go_ret
      exact ⟨rfl, rfl⟩
    · rw [if_neg h2]
      have h2' : (FloatKind.f64.format.order x 0 == some .gt) = false := by simpa using h2
      clear h2
      go_enter Try.func13, Try.ntmps13
      go_wp2
      go_ret
      exact ⟨rfl, rfl⟩

theorem num_lit1 : Num 4607182418800017408 := by unfold Num; rw [read_one]; rfl
theorem num_lit0 : Num 0 := by unfold Num; decide +kernel
/-- What is clamped is a number. -/
theorem clampN_num (x : Nat) : Num (clampN x) := by
  unfold clampN
  split
  · exact num_lit1
  · split
    · rename_i h
      apply Classical.byContradiction
      intro hn
      rw [nan_self x 0 hn] at h
      simp at h
    · exact num_lit0

theorem share_ok (p q : Int) (r : Nat) (w : World) (h : floatBits .quo .f64 (floatOfInt .f64 p) (floatOfInt .f64 q) = some r) :
    Calls Try.prog 11 #[.int .u64 p, .int .u64 q] w fun e w' => e = .returned (.float .f64 r) ∧ w' = w := by
  have hrun : ∀ w, (binOp .quo 35 (.float .f64 (floatOfInt .f64 p)) (.float .f64 (floatOfInt .f64 q))).run Try.prog w = .ok (.float .f64 r) w := fun w => run_float_arith w .quo 35 .f64 _ _ _ h
  clear h
  go_enter Try.func11, Try.ntmps11
  go_wp2
  go_ret
  exact ⟨rfl, rfl⟩
theorem share_nan (p q : Int) (w : World) (h : floatBits .quo .f64 (floatOfInt .f64 p) (floatOfInt .f64 q) = none) :
    Calls Try.prog 11 #[.int .u64 p, .int .u64 q] w fun e w' => ∃ r, e = .returned (.float .f64 r) ∧ ¬ Num r ∧ w' = w.drew := by
  have hrun : ∀ w, (binOp .quo 35 (.float .f64 (floatOfInt .f64 p)) (.float .f64 (floatOfInt .f64 q))).run Try.prog w = .ok (.float .f64 (nanOf w (floatOfInt .f64 p) (floatOfInt .f64 q))) w.drew := fun w => run_float_nan w 35 _ _ h
  clear h
  go_enter Try.func11, Try.ntmps11
  go_wp2
  go_ret
  exact ⟨_, rfl, nanOf_nan _ _ _, rfl⟩
end Go.Proofs.Ytjhhhmeoahbagad
