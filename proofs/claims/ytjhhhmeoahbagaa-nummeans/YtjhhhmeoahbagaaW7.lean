/-
  The walks of shares, of what is clamped, and of 'Same', over any bits.
-/
import Derived.Test.YtjhhhmeoahbagaaW4
import Derived.Test.YtjhhhmeoahbagaaF1
namespace Go.Proofs.Ytjhhhmeoahbagaa
open Go.RowKit Go.Lib

/-- A float between 0 and 1. -/
def clampN (x : Nat) : Nat := if (FloatKind.f64.format.order x 4607182418800017408 == some .gt) = true then 4607182418800017408 else if (FloatKind.f64.format.order x 0 == some .gt) = true then x else 0

theorem clamp_any (x : Nat) (w : World) :
    Calls Try.prog 21 #[.float .f64 x] w fun e w' => e = .returned (.float .f64 (clampN x)) ∧ w' = w := by
  unfold clampN
  by_cases h1 : (FloatKind.f64.format.order x 4607182418800017408 == some .gt) = true
  · rw [if_pos h1]
    go_enter Try.func21, Try.ntmps21
    go_wp2
    go_ret
    exact ⟨rfl, rfl⟩
  · rw [if_neg h1]
    have h1' : (FloatKind.f64.format.order x 4607182418800017408 == some .gt) = false := by simpa using h1
    clear h1
    by_cases h2 : (FloatKind.f64.format.order x 0 == some .gt) = true
    · rw [if_pos h2]
      go_enter Try.func21, Try.ntmps21
      go_wp2
      go_ret
      exact ⟨rfl, rfl⟩
    · rw [if_neg h2]
      have h2' : (FloatKind.f64.format.order x 0 == some .gt) = false := by simpa using h2
      clear h2
      go_enter Try.func21, Try.ntmps21
      go_wp2
      go_ret
      exact ⟨rfl, rfl⟩

theorem rclamp_any (x : Nat) (w : World) :
    Calls Try.prog 22 #[.float .f64 x] w fun e w' => e = .returned (.float .f64 (clampN x)) ∧ w' = w := by
  unfold clampN
  by_cases h1 : (FloatKind.f64.format.order x 4607182418800017408 == some .gt) = true
  · rw [if_pos h1]
    go_enter Try.func22, Try.ntmps22
    go_wp2
    go_ret
    exact ⟨rfl, rfl⟩
  · rw [if_neg h1]
    have h1' : (FloatKind.f64.format.order x 4607182418800017408 == some .gt) = false := by simpa using h1
    clear h1
    by_cases h2 : (FloatKind.f64.format.order x 0 == some .gt) = true
    · rw [if_pos h2]
      go_enter Try.func22, Try.ntmps22
      go_wp2
      go_ret
      exact ⟨rfl, rfl⟩
    · rw [if_neg h2]
      have h2' : (FloatKind.f64.format.order x 0 == some .gt) = false := by simpa using h2
      clear h2
      go_enter Try.func22, Try.ntmps22
      go_wp2
      go_ret
      exact ⟨rfl, rfl⟩

theorem num_lit1 : Num 4607182418800017408 := by unfold Num; rw [read_one]; rfl
theorem num_lit0 : Num 0 := by unfold Num; decide +kernel
/-- What is clamped is a number. -/
theorem clampN_num (x : Nat) : Num (clampN x) := by
  unfold clampN
  split
  · exact num_lit1
  · split
    · rename_i h
      apply Classical.byContradiction
      intro hn
      rw [nan_self x 0 hn] at h
      simp at h
    · exact num_lit0

theorem same_num (r : Nat) (w : World) (h : Num r) :
    Calls Try.prog 18 #[.float .f64 r, .float .f64 r] w fun e w' => e = .returned (.bool true) ∧ w' = w := by
  have hs : (FloatKind.f64.format.order r r == some .eq) = true := by rw [num_self r h]; rfl
  have hs' : (FloatKind.f64.format.order r r != some .eq) = false := by rw [num_self r h]; rfl
  obtain ⟨q, hq⟩ := one_by r h
  have hrun : ∀ w, (binOp .quo 32 (.float .f64 4607182418800017408) (.float .f64 r)).run Try.prog w = .ok (.float .f64 q) w := fun w => run_float_arith w .quo 32 .f64 _ _ _ hq
  have hqs : (FloatKind.f64.format.order q q == some .eq) = true := by rw [num_self q (quo_num hq)]; rfl
  clear hq
  by_cases hz : (FloatKind.f64.format.order r 0 == some .eq) = true
  · have hz' : (FloatKind.f64.format.order r 0 != some .eq) = false := by simpa using hz
    clear hz
    go_enter Try.func18, Try.ntmps18
    go_wp2
    go_ret
    exact ⟨rfl, rfl⟩
  · have hz' : (FloatKind.f64.format.order r 0 != some .eq) = true := by simpa using hz
    clear hz
    go_enter Try.func18, Try.ntmps18
    go_wp2
    go_ret
    exact ⟨rfl, rfl⟩

theorem same_nan (r s : Nat) (w : World) (h : ¬ Num r) (h' : ¬ Num s) :
    Calls Try.prog 18 #[.float .f64 r, .float .f64 s] w fun e w' => e = .returned (.bool true) ∧ w' = w := by
  have hr : (FloatKind.f64.format.order r r != some .eq) = true := by rw [nan_self r r h]; rfl
  have hs : (FloatKind.f64.format.order s s != some .eq) = true := by rw [nan_self s s h']; rfl
  go_enter Try.func18, Try.ntmps18
  go_wp2
  go_ret
  exact ⟨rfl, rfl⟩

theorem same_any (r s : Nat) (w : World) (h : (r = s ∧ Num r) ∨ (¬ Num r ∧ ¬ Num s)) :
    Calls Try.prog 18 #[.float .f64 r, .float .f64 s] w fun e w' => e = .returned (.bool true) ∧ w' = w := by
  rcases h with ⟨rfl, h⟩ | ⟨h, h'⟩
  · exact same_num r w h
  · exact same_nan r s w h h'

theorem share_ok (p q : Int) (r : Nat) (w : World) (h : floatBits .quo .f64 (floatOfInt .f64 p) (floatOfInt .f64 q) = some r) :
    Calls Try.prog 19 #[.int .u64 p, .int .u64 q] w fun e w' => e = .returned (.float .f64 r) ∧ w' = w := by
  have hrun : ∀ w, (binOp .quo 32 (.float .f64 (floatOfInt .f64 p)) (.float .f64 (floatOfInt .f64 q))).run Try.prog w = .ok (.float .f64 r) w := fun w => run_float_arith w .quo 32 .f64 _ _ _ h
  clear h
  go_enter Try.func19, Try.ntmps19
  go_wp2
  go_ret
  exact ⟨rfl, rfl⟩
theorem rshare_ok (p q : Int) (r : Nat) (w : World) (h : floatBits .quo .f64 (floatOfInt .f64 p) (floatOfInt .f64 q) = some r) :
    Calls Try.prog 20 #[.int .u64 p, .int .u64 q] w fun e w' => e = .returned (.float .f64 r) ∧ w' = w := by
  have hrun : ∀ w, (binOp .quo 32 (.float .f64 (floatOfInt .f64 p)) (.float .f64 (floatOfInt .f64 q))).run Try.prog w = .ok (.float .f64 r) w := fun w => run_float_arith w .quo 32 .f64 _ _ _ h
  clear h
  go_enter Try.func20, Try.ntmps20
  go_wp2
  go_ret
  exact ⟨rfl, rfl⟩
theorem share_nan (p q : Int) (w : World) (h : floatBits .quo .f64 (floatOfInt .f64 p) (floatOfInt .f64 q) = none) :
    Calls Try.prog 19 #[.int .u64 p, .int .u64 q] w fun e w' => ∃ r, e = .returned (.float .f64 r) ∧ ¬ Num r ∧ w' = w.drew := by
  have hrun : ∀ w, (binOp .quo 32 (.float .f64 (floatOfInt .f64 p)) (.float .f64 (floatOfInt .f64 q))).run Try.prog w = .ok (.float .f64 (nanOf w (floatOfInt .f64 p) (floatOfInt .f64 q))) w.drew := fun w => run_float_nan w 32 _ _ h
  clear h
  go_enter Try.func19, Try.ntmps19
  go_wp2
  go_ret
  exact ⟨_, rfl, nanOf_nan _ _ _, rfl⟩
theorem rshare_nan (p q : Int) (w : World) (h : floatBits .quo .f64 (floatOfInt .f64 p) (floatOfInt .f64 q) = none) :
    Calls Try.prog 20 #[.int .u64 p, .int .u64 q] w fun e w' => ∃ r, e = .returned (.float .f64 r) ∧ ¬ Num r ∧ w' = w.drew := by
  have hrun : ∀ w, (binOp .quo 32 (.float .f64 (floatOfInt .f64 p)) (.float .f64 (floatOfInt .f64 q))).run Try.prog w = .ok (.float .f64 (nanOf w (floatOfInt .f64 p) (floatOfInt .f64 q))) w.drew := fun w => run_float_nan w 32 _ _ h
  clear h
  go_enter Try.func20, Try.ntmps20
  go_wp2
  go_ret
  exact ⟨_, rfl, nanOf_nan _ _ _, rfl⟩
end Go.Proofs.Ytjhhhmeoahbagaa
