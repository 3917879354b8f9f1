/-
  age: what levels do, in numbers; the laws' walks.
-/
import Derived.Test.YtfbgnijjdkfbdaaA4
namespace Go.Proofs.Ytfbgnijjdkfbdaa
open Go.RowKit
set_option linter.unusedVariables false

theorem levN_zero (b s n : Int) : levN b s n 0 = b := by simp [levN]
theorem levN_ahead (b s n p : Int) (hb : Lv b) (h : n ≤ s) : levN b s n p = b := by
  unfold levN Lv at *
  have e : subN n s = 0 := by unfold subN; split <;> omega
  rw [e]
  simp
  omega
theorem levN_top (s n p : Int) (hs : Tm s) (hn : Tm n) (hp : Tm p) : levN 255 s n p = 255 := by
  unfold levN
  have h := (subN_bd n s hn.1 hn.2 hs.1).1
  have h2 : 0 ≤ subN n s / p := Int.ediv_nonneg h hp.1
  split
  · rfl
  · rw [if_neg (by omega)]
theorem levN_ge (b s n p : Int) (hb : Lv b) (hs : Tm s) (hn : Tm n) (hp : Tm p) : b ≤ levN b s n p := by
  unfold levN Lv at *
  have h := (subN_bd n s hn.1 hn.2 hs.1).1
  have h2 : 0 ≤ subN n s / p := Int.ediv_nonneg h hp.1
  split
  · omega
  · split <;> omega
theorem levN_mono (b s n n' p : Int) (hb : Lv b) (hp : Tm p) (h : n ≤ n') : levN b s n p ≤ levN b s n' p := by
  unfold levN Lv at *
  have h1 : subN n s ≤ subN n' s := by unfold subN; split <;> split <;> omega
  by_cases h0 : p = 0
  · simp [h0]
  have h2 := Int.ediv_le_ediv (show 0 < p by have := hp.1; omega) h1
  rw [if_neg h0, if_neg h0]
  split <;> split <;> omega
theorem levN_up (b b' s n p : Int) (hb : Lv b) (hb' : Lv b') (hs : Tm s) (hn : Tm n) (hp : Tm p) (h : b ≤ b') : levN b s n p ≤ levN b' s n p := by
  unfold levN Lv at *
  have h := (subN_bd n s hn.1 hn.2 hs.1).1
  have h2 : 0 ≤ subN n s / p := Int.ediv_nonneg h hp.1
  split
  · omega
  · split <;> split <;> omega
theorem levN_shift (b s n p m : Int) : levN b (s + m) (n + m) p = levN b s n p := by
  unfold levN
  have e : subN (n + m) (s + m) = subN n s := by unfold subN; split <;> split <;> omega
  rw [e]
theorem levN_steps (b s p k : Int) (hb : Lv b) (hp : 0 < p) (hk : 0 ≤ k) : levN b s (s + k * p) p = if b + k < 255 then b + k else 255 := by
  unfold levN Lv at *
  have h0 : 0 ≤ k * p := Int.mul_nonneg hk (by omega)
  have e : subN (s + k * p) s = k * p := by unfold subN; split <;> omega
  rw [e, Int.mul_ediv_cancel _ (by omega), if_neg (by omega)]
  split <;> split <;> omega
/-- The time at which a level rises, told by how often it has risen. -/
theorem rise_eq (s n p : Int) (hp : 0 < p) : fromN s n + restN s n p = s + (subN n s / p + 1) * p := by
  have hx : fromN s n = s + subN n s := by unfold fromN subN; split <;> split <;> omega
  unfold restN
  rw [hx]
  have h := Int.mul_ediv_add_emod (subN n s) p
  have h2 : (subN n s / p + 1) * p = p * (subN n s / p) + p := by rw [Int.add_mul, Int.mul_comm]; omega
  rw [h2]
  omega
theorem stays_any (b s n p m : Int) (hb : Lv b) (hs : Tm s) (hn : Tm n) (hp : Tm p) (h : ¬ Never b s n p) (h1 : n ≤ m) (h2 : m < fromN s n + restN s n p) : levN b s m p = levN b s n p := by
  have hp0 : ¬ p = 0 := fun e => h (.inl e)
  have hp1 : 0 < p := by have := hp.1; omega
  rw [rise_eq s n p hp1] at h2
  have h0 := (subN_bd n s hn.1 hn.2 hs.1).1
  have e : subN m s / p = subN n s / p := by
    have ha : subN n s ≤ subN m s := by unfold subN; split <;> split <;> omega
    have hb := Int.ediv_le_ediv hp1 ha
    have hc : subN m s < (subN n s / p + 1) * p := by
      have : 0 < (subN n s / p + 1) * p := Int.mul_pos (by have := Int.ediv_nonneg h0 hp.1; omega) hp1
      generalize (subN n s / p + 1) * p = z at *
      unfold subN
      split <;> omega
    have hd := (Int.ediv_lt_iff_lt_mul hp1).mpr hc
    omega
  unfold levN
  rw [e]
theorem rises_one (b s n p : Int) (hb : Lv b) (hs : Tm s) (hn : Tm n) (hp : Tm p) (h : ¬ Never b s n p) : levN b s (fromN s n + restN s n p) p = levN b s n p + 1 := by
  have hp0 : ¬ p = 0 := fun e => h (.inl e)
  have hp1 : 0 < p := by have := hp.1; omega
  have hl : ¬ levN b s n p = 255 := fun e => h (.inr (.inl e))
  have h0 := Int.ediv_nonneg (subN_bd n s hn.1 hn.2 hs.1).1 hp.1
  rw [rise_eq s n p hp1, levN_steps b s p _ hb hp1 (by omega)]
  unfold levN Lv at *
  rw [if_neg hp0] at hl ⊢
  split at hl
  · rename_i hq
    rw [if_pos hq]
    split <;> omega
  · omega
theorem rise_gt (b s n p : Int) (hp : Tm p) (h : ¬ Never b s n p) : n < fromN s n + restN s n p ∧ fromN s n + restN s n p ≤ 18446744073709551615 := by
  have hp0 : ¬ p = 0 := fun e => h (.inl e)
  have hr : ¬ 18446744073709551615 - fromN s n < restN s n p := fun e => h (.inr (.inr e))
  have hp1 : 0 < p := by have := hp.1; omega
  have := Int.emod_lt_of_pos (subN n s) hp1
  refine ⟨?_, by omega⟩
  unfold fromN restN
  split <;> omega

end Go.Proofs.Ytfbgnijjdkfbdaa
