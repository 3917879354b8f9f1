/-
  Whole numbers as floats, and their shares, of no program.
-/
import Derived.Test.YtjhhhmeoahbagadF5
namespace Go.Proofs.Ytjhhhmeoahbagad
open Go

theorem int_write (a : Nat) : floatOfInt .f64 (a : Int) = Ieee.double.write (.number false a 0) := by
  show Ieee.double.write (.number (decide ((a : Int) < 0)) (a : Int).natAbs 0) = _
  rw [show decide ((a : Int) < 0) = false by simp, Int.natAbs_natCast]
theorem int_top : rungOf 18446744073709551616 1 0 = 4895412794951729152 := by decide +kernel
theorem int_bd (a : Nat) (ha : a ≠ 0) (h : a < 18446744073709551616) : rungOf a 1 0 ≤ 4895412794951729152 := by
  rw [← int_top]
  exact rung_mono a 1 _ 1 0 0 0 (by decide) (by decide) (by omega) (by decide) (by omega) (by omega) (by simp; omega)
theorem int_rung (a : Nat) (ha : a ≠ 0) (h : a < 18446744073709551616) : floatOfInt .f64 (a : Int) = rungOf a 1 0 := by
  rw [int_write, nearest_rung a 0 ha]
  have := int_bd a ha h
  omega
theorem int_mono (a b : Nat) (ha : a ≠ 0) (h : a ≤ b) : rungOf a 1 0 ≤ rungOf b 1 0 :=
  rung_mono a 1 b 1 0 0 0 (by decide) (by decide) (by omega) (by omega) (by omega) (by omega) (by simp; omega)
theorem one_rung : rungOf 1 1 0 = 4607182418800017408 := by decide +kernel
theorem int_pos (a : Nat) (ha : a ≠ 0) : 4607182418800017408 ≤ rungOf a 1 0 := by
  rw [← one_rung]; exact int_mono 1 a (by decide) (by omega)
theorem vm_pos (r : Nat) (h : 1 ≤ r) : vm r ≠ 0 := by unfold vm; split <;> omega
theorem vm_log (r : Nat) : (vm r).log2 ≤ 53 := by
  by_cases h : vm r = 0
  · rw [h]; decide
  · have := (Nat.log2_lt h).2 (show vm r < 2 ^ 53 by have := vm_lt r; omega)
    omega

theorem zero_float : floatOfInt .f64 0 = 0 := by decide +kernel
theorem quo_zero (y n : Nat) (j : Int) (hy : Ieee.double.read y = .number false n j) (hn : n ≠ 0) : floatBits .quo .f64 0 y = some 0 := by
  show (((Ieee.double.read 0).quotient (Ieee.double.fractionBits + 2) (Ieee.double.read y)).map Ieee.double.write) = _
  rw [read_zero, hy]
  simp only [Ieee.Datum.quotient, if_neg hn, Option.map_some, Option.some.injEq, Nat.zero_shiftLeft, Nat.zero_div, Nat.zero_mod]
  unfold Ieee.Format.write Ieee.Format.nearest
  rfl

theorem read_int (a : Nat) (ha : a ≠ 0) (h : a < 18446744073709551616) : Ieee.double.read (floatOfInt .f64 (a : Int)) = .number false (vm (rungOf a 1 0)) (-1074 + (vp (rungOf a 1 0) : Int)) := by
  rw [int_rung a ha h]
  exact read_fin _ (by have := int_bd a ha h; omega)

theorem min_le_min (x y : Nat) (h : x ≤ y) : min x 9218868437227405312 ≤ min y 9218868437227405312 ∧ min y 9218868437227405312 ≤ 9218868437227405312 := by omega

/-- A greater part of a whole is not a less share. -/
theorem share_le (a b n : Nat) (hab : a ≤ b) (hb : b < 18446744073709551616) (hn : n ≠ 0) (hn' : n < 18446744073709551616) :
    ∃ r1 r2, floatBits .quo .f64 (floatOfInt .f64 (a : Int)) (floatOfInt .f64 (n : Int)) = some r1 ∧ floatBits .quo .f64 (floatOfInt .f64 (b : Int)) (floatOfInt .f64 (n : Int)) = some r2 ∧ r1 ≤ r2 ∧ r2 ≤ 9218868437227405312 := by
  have hrn := read_int n hn hn'
  have hvn : vm (rungOf n 1 0) ≠ 0 := vm_pos _ (by have := int_pos n hn; omega)
  by_cases hb0 : b = 0
  · have ha0 : a = 0 := by omega
    subst hb0 ha0
    have e : floatBits .quo .f64 (floatOfInt .f64 ((0 : Nat) : Int)) (floatOfInt .f64 (n : Int)) = some 0 := by
      rw [show ((0 : Nat) : Int) = 0 from rfl, zero_float]; exact quo_zero _ _ _ hrn hvn
    exact ⟨0, 0, e, e, Nat.le_refl _, by decide⟩
  · have hrb := read_int b hb0 hb
    have hvb : vm (rungOf b 1 0) ≠ 0 := vm_pos _ (by have := int_pos b hb0; omega)
    have q2 := quo_rung _ _ _ _ _ _ hrb hrn hvb hvn (vm_log _)
    by_cases ha0 : a = 0
    · subst ha0
      refine ⟨0, _, ?_, q2, Nat.zero_le _, Nat.min_le_right _ _⟩
      rw [show ((0 : Nat) : Int) = 0 from rfl, zero_float]; exact quo_zero _ _ _ hrn hvn
    · have hra := read_int a ha0 (by omega)
      have hva : vm (rungOf a 1 0) ≠ 0 := vm_pos _ (by have := int_pos a ha0; omega)
      have q1 := quo_rung _ _ _ _ _ _ hra hrn hva hvn (vm_log _)
      have hv := val_mono _ _ (int_mono a b ha0 hab)
      unfold val at hv
      have hm := quo_mono (vm (rungOf a 1 0)) (vm (rungOf b 1 0)) (vm (rungOf n 1 0)) (-1074 + (vp (rungOf a 1 0) : Int)) (-1074 + (vp (rungOf b 1 0) : Int)) (-1074 + (vp (rungOf n 1 0) : Int)) hva hvb hvn (vm_log _) (vm_log _) (by omega) (by omega)
        (by rw [show (-1074 + (vp (rungOf a 1 0) : Int) + 1074).toNat = vp (rungOf a 1 0) by omega, show (-1074 + (vp (rungOf b 1 0) : Int) + 1074).toNat = vp (rungOf b 1 0) by omega]; exact hv)
      obtain ⟨k1, k2⟩ := min_le_min _ _ hm
      exact ⟨_, _, q1, q2, k1, k2⟩

theorem rnd_exact (m : Nat) (hm : 0 < m) : rnd (m * 18014398509481984) (m * 4) = 4503599627370496 := by
  unfold rnd
  have e : m * 18014398509481984 = m * 4 * 4503599627370496 := by omega
  have hp : 0 < m * 4 := by omega
  rw [e, Nat.mul_div_cancel_left _ hp, Nat.mul_mod_right]
  rw [if_neg (by omega)]

theorem share_self (n : Nat) (hn : n ≠ 0) (hn' : n < 18446744073709551616) :
    floatBits .quo .f64 (floatOfInt .f64 (n : Int)) (floatOfInt .f64 (n : Int)) = some 4607182418800017408 := by
  have hrn := read_int n hn hn'
  have hvn : vm (rungOf n 1 0) ≠ 0 := vm_pos _ (by have := int_pos n hn; omega)
  rw [quo_rung _ _ _ _ _ _ hrn hrn hvn hvn (vm_log _)]
  generalize vm (rungOf n 1 0) = m at *
  generalize (vp (rungOf n 1 0) : Int) = q
  have hm : 0 < m := by omega
  rw [show 54 + m.log2 - m.log2 = 54 by omega]
  have e : rungOf (m * 2 ^ 54) m (-1074 + q - (-1074 + q) - ((54 : Nat) : Int)) = 4607182418800017408 := by
    unfold rungOf keepOf
    rw [Nat.mul_div_cancel_left _ hm, Nat.log2_two_pow]
    have eL : lastOf 54 (-1074 + q - (-1074 + q) - ((54 : Nat) : Int)) = -52 := by unfold lastOf; omega
    rw [eL]
    have z1 : (-52 - (-1074 + q - (-1074 + q) - ((54 : Nat) : Int))).toNat = 2 := by omega
    have z2 : (-(-52 - (-1074 + q - (-1074 + q) - ((54 : Nat) : Int)))).toNat = 0 := by omega
    rw [z1, z2]
    have := rnd_exact m hm
    rw [show m * 2 ^ 54 * 2 ^ 0 = m * 18014398509481984 by omega, show m * 2 ^ 2 = m * 4 from rfl, this]
    decide
  rw [e]
  rfl
end Go.Proofs.Ytjhhhmeoahbagad
