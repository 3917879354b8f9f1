/-
  age: AgeLevels's walk.
-/
import Derived.Test.YtfbgnijjdkfbdaaA13
namespace Go.Proofs.Ytfbgnijjdkfbdaa
open Go.RowKit
set_option linter.unusedVariables false

theorem below_of {w w' : World} (h : w' = w) : Below w.heap.size w w' := by rw [h]; exact Below.refl _ _
set_option maxRecDepth 100000 in
set_option maxHeartbeats 4000000 in
theorem levels_walk (b s n p : Int) (w : World) (h : Lv b ∧ Tm s ∧ Tm n ∧ Tm p) :
    Calls Try.prog 3 #[.agg #[.int .u8 b, .int .u64 s, .int .u64 n, .int .u64 p]] w fun e w' => e = .returned (.bool true) ∧ Below w.heap.size w w' := by
  obtain ⟨hb, hs, hn, hp⟩ := h
  have HV := veil (fun w => live_b w)
  have HG := veil lev_b
  have HRL := veil (fun w => rlevel_ok b s n p w hb hs hn hp)
  have HRN := veil (fun w => rnext_ok b s n p w hb hs hn hp)
  by_cases hN : Never b s n p
  · have HN := veil (fun w => next_no b s n p w hb hs hn hp hN)
    rw [if_pos hN, decide_eq_true hN] at HRN
    go_enter Try.func3, Try.ntmps3
    go_wp2_with first | (go_at_call 10; refine (HN.out _).mono ?_; rintro e w1 ⟨rfl, rfl⟩) | (go_at_call 11; refine (HRN.out _).mono ?_; rintro e w1 ⟨rfl, hw⟩; replace hw := hw.symm; subst hw)
    go_region_held3 (fun w' => (w'.cell? ⟨w.heap.size, 0, none⟩ = some (.int .u8 b) ∧ w'.cell? ⟨w.heap.size, 1, none⟩ = some (.int .u64 s) ∧ w'.cell? ⟨w.heap.size, 2, none⟩ = some (.int .u64 n) ∧ w'.cell? ⟨w.heap.size, 3, none⟩ = some (.int .u64 p)) ∧ Below w.heap.size w w')
      (first | exact kp1x hb1 (by assumption) | exact kp1d (by assumption) | (refine ⟨by simp [go_sem], ?_⟩; repeat' (first | exact Below.refl _ _ | refine Below.drew ?_ | refine below_drewN ?_ _ | refine Below.alloc ?_ (by simp; try omega) _)))
      (first | (go_at_call 12; refine (HV.out _).mono ?_; rintro e w1 ⟨rfl, hb1⟩) | (go_at_call 13; refine (HG.out _ _ _ _ _ (by assumption) (by assumption) (by assumption) (by assumption)).mono ?_; rintro e w1 ⟨rfl, hb1⟩) | (go_at_call 14; refine (HRL.out _).mono ?_; rintro e w1 ⟨rfl, hw⟩; have hb1 := below_of hw; clear hw))
    go_wp2
    go_ret
    exact ⟨rfl, (show _ ∧ _ by assumption).2⟩
  · have HN := veil (fun w => next_yes b s n p w hb hs hn hp hN)
    rw [if_neg hN, decide_eq_false hN] at HRN
    generalize fromN s n + restN s n p = t at *
    go_enter Try.func3, Try.ntmps3
    go_wp2_with first | (go_at_call 10; refine (HN.out _).mono ?_; rintro e w1 ⟨rfl, rfl⟩) | (go_at_call 11; refine (HRN.out _).mono ?_; rintro e w1 ⟨rfl, hw⟩; replace hw := hw.symm; subst hw)
    go_region_held3 (fun w' => (w'.cell? ⟨w.heap.size, 0, none⟩ = some (.int .u8 b) ∧ w'.cell? ⟨w.heap.size, 1, none⟩ = some (.int .u64 s) ∧ w'.cell? ⟨w.heap.size, 2, none⟩ = some (.int .u64 n) ∧ w'.cell? ⟨w.heap.size, 3, none⟩ = some (.int .u64 p)) ∧ Below w.heap.size w w')
      (first | exact kp1x hb1 (by assumption) | exact kp1d (by assumption) | (refine ⟨by simp [go_sem], ?_⟩; repeat' (first | exact Below.refl _ _ | refine Below.drew ?_ | refine below_drewN ?_ _ | refine Below.alloc ?_ (by simp; try omega) _)))
      (first | (go_at_call 12; refine (HV.out _).mono ?_; rintro e w1 ⟨rfl, hb1⟩) | (go_at_call 13; refine (HG.out _ _ _ _ _ (by assumption) (by assumption) (by assumption) (by assumption)).mono ?_; rintro e w1 ⟨rfl, hb1⟩) | (go_at_call 14; refine (HRL.out _).mono ?_; rintro e w1 ⟨rfl, hw⟩; have hb1 := below_of hw; clear hw))
    go_wp2
    go_ret
    exact ⟨rfl, (show _ ∧ _ by assumption).2⟩
end Go.Proofs.Ytfbgnijjdkfbdaa
