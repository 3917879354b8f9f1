/-
  age: AgeSteps's walk.
-/
import Derived.Test.YtfbgnijjdkfbdaaA6
namespace Go.Proofs.Ytfbgnijjdkfbdaa
open Go.RowKit
set_option linter.unusedVariables false

set_option maxRecDepth 100000 in
set_option maxHeartbeats 4000000 in
theorem steps_walk (b f q k : Int) (w : World) (hb : Lv b) (hf : Tm f) (hq : 0 ≤ q ∧ q < 4294967296) (hk : 0 ≤ k ∧ k < 4294967296) :
    Calls Try.prog 7 #[.int .u8 b, .int .u64 f, .agg #[.int .u32 q, .int .u32 k]] w fun e w' => e = .returned (.bool true) ∧ Below w.heap.size w w' := by
  have HV := veil (fun w => live_b w)
  have HG := veil lev_b
  have HL := veil level_b
  obtain ⟨q0, q1⟩ := hq
  obtain ⟨k0, k1⟩ := hk
  obtain ⟨f0, f1⟩ := hf
  obtain ⟨b0, b1⟩ := id hb
  have hr0 : 0 ≤ k % 300 := by omega
  have hr1 : k % 300 < 300 := by omega
  have key : ∀ P : Int, 1 ≤ P → P < 4294967296 → (0 ≤ k % 300 * P ∧ k % 300 * P ≤ 1288490188500) ∧ levN b (f / 4) (f / 4 + k % 300 * P) P = if b + k % 300 < 255 then b + k % 300 else 255 := by
    intro P h1 h2
    refine ⟨⟨Int.mul_nonneg hr0 (by omega), ?_⟩, levN_steps b (f / 4) P (k % 300) hb (by omega) hr0⟩
    have h3 : k % 300 * P ≤ 300 * P := Int.mul_le_mul_of_nonneg_right (by omega) (by omega)
    omega
  have h1 : Tm (f / 4) := ⟨by omega, by omega⟩
  by_cases hq0 : q = 0
  · subst hq0
    obtain ⟨⟨m0, m1⟩, e1⟩ := key 1 (by omega) (by omega)
    rw [Int.mul_one] at m0 m1 e1
    have h2 : Tm (f / 4 + k % 300) := ⟨by omega, by omega⟩
    have h3 : Tm 1 := ⟨by omega, by omega⟩
    by_cases c : 255 < b + k % 300
    · rw [if_neg (by omega)] at e1
      go_enter Try.func7, Try.ntmps7
      go_wp2
      go_quiet (fail)
      have HB0 : Hid (Below w.heap.size w ((w.alloc (.cells #[.int .u32 0, .int .u32 k] 34)).drewN nq)) := below_drewN ((Below.refl _ _).alloc (Nat.le_refl _) _) _
      go_wp2_with first | (go_at_call 12; refine (HV.out _).mono ?_; rintro e w1 ⟨rfl, hb1⟩; replace hb1 := kb HB0.out hb1; clear HB0; have HB0 := veil hb1; clear hb1) | (go_at_call 15; refine (HL.out _ _ _ _ _ (by assumption) (by assumption) (by assumption) (by assumption)).mono ?_; rintro e w1 ⟨rfl, hb1⟩; replace hb1 := kb HB0.out hb1; clear HB0; have HB0 := veil hb1; clear hb1)
      go_ret
      exact ⟨rfl, HB0.out⟩
    · have e1' : levN b (f / 4) (f / 4 + k % 300) 1 = b + k % 300 := by rw [e1]; split <;> omega
      clear e1
      go_enter Try.func7, Try.ntmps7
      go_wp2
      go_quiet (fail)
      have HB0 : Hid (Below w.heap.size w ((w.alloc (.cells #[.int .u32 0, .int .u32 k] 34)).drewN nq)) := below_drewN ((Below.refl _ _).alloc (Nat.le_refl _) _) _
      go_wp2_with first | (go_at_call 12; refine (HV.out _).mono ?_; rintro e w1 ⟨rfl, hb1⟩; replace hb1 := kb HB0.out hb1; clear HB0; have HB0 := veil hb1; clear hb1) | (go_at_call 15; refine (HL.out _ _ _ _ _ (by assumption) (by assumption) (by assumption) (by assumption)).mono ?_; rintro e w1 ⟨rfl, hb1⟩; replace hb1 := kb HB0.out hb1; clear HB0; have HB0 := veil hb1; clear hb1)
      go_ret
      exact ⟨rfl, HB0.out⟩
  · skip
    obtain ⟨⟨m0, m1⟩, e1⟩ := key q (by omega) (by omega)
    have h2 : Tm (f / 4 + k % 300 * q) := ⟨by omega, by omega⟩
    have h3 : Tm q := ⟨by omega, by omega⟩
    by_cases c : 255 < b + k % 300
    · rw [if_neg (by omega)] at e1
      go_enter Try.func7, Try.ntmps7
      go_wp2
      go_quiet (fail)
      have HB0 : Hid (Below w.heap.size w ((w.alloc (.cells #[.int .u32 q, .int .u32 k] 34)).drewN nq)) := below_drewN ((Below.refl _ _).alloc (Nat.le_refl _) _) _
      go_wp2_with first | (go_at_call 12; refine (HV.out _).mono ?_; rintro e w1 ⟨rfl, hb1⟩; replace hb1 := kb HB0.out hb1; clear HB0; have HB0 := veil hb1; clear hb1) | (go_at_call 15; refine (HL.out _ _ _ _ _ (by assumption) (by assumption) (by assumption) (by assumption)).mono ?_; rintro e w1 ⟨rfl, hb1⟩; replace hb1 := kb HB0.out hb1; clear HB0; have HB0 := veil hb1; clear hb1)
      go_ret
      exact ⟨rfl, HB0.out⟩
    · have e1' : levN b (f / 4) (f / 4 + k % 300 * q) q = b + k % 300 := by rw [e1]; split <;> omega
      clear e1
      go_enter Try.func7, Try.ntmps7
      go_wp2
      go_quiet (fail)
      have HB0 : Hid (Below w.heap.size w ((w.alloc (.cells #[.int .u32 q, .int .u32 k] 34)).drewN nq)) := below_drewN ((Below.refl _ _).alloc (Nat.le_refl _) _) _
      go_wp2_with first | (go_at_call 12; refine (HV.out _).mono ?_; rintro e w1 ⟨rfl, hb1⟩; replace hb1 := kb HB0.out hb1; clear HB0; have HB0 := veil hb1; clear hb1) | (go_at_call 15; refine (HL.out _ _ _ _ _ (by assumption) (by assumption) (by assumption) (by assumption)).mono ?_; rintro e w1 ⟨rfl, hb1⟩; replace hb1 := kb HB0.out hb1; clear HB0; have HB0 := veil hb1; clear hb1)
      go_ret
      exact ⟨rfl, HB0.out⟩
end Go.Proofs.Ytfbgnijjdkfbdaa
