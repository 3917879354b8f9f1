/-
  What words stand for, of no program: a greater rung is a greater number; sums of floats up to 1, and their mean, keep their bounds.
-/
import Derived.Test.YtjhhhmeoahbagadF3
namespace Go.Proofs.Ytjhhhmeoahbagad
open Go

def vm (r : Nat) : Nat := if r < 4503599627370496 then r else 4503599627370496 + r % 4503599627370496
def vp (r : Nat) : Nat := if r < 4503599627370496 then 0 else r / 4503599627370496 - 1
/-- The number that a rung stands for, in units of the least one. -/
def val (r : Nat) : Nat := vm r * 2 ^ vp r

theorem read_fin (r : Nat) (h : r < 9218868437227405312) : Ieee.double.read r = .number false (vm r) (-1074 + (vp r : Int)) := by
  have e1 : r % 9223372036854775808 = r := by omega
  have e2 : r / 9223372036854775808 = 0 := by omega
  unfold Ieee.Format.read vm vp
  simp only [dbl_sign, dbl_binade, dbl_inf, dbl_least, e1, e2]
  by_cases hr : r < 4503599627370496
  · rw [if_pos hr, if_pos hr, if_pos hr]; rfl
  · rw [if_neg hr, if_pos h, if_neg hr, if_neg hr]; rfl
theorem read_inf : Ieee.double.read 9218868437227405312 = .infinity false := by decide +kernel

theorem vm_lt (r : Nat) : vm r < 9007199254740992 := by unfold vm; split <;> omega

theorem val_mono (r1 r2 : Nat) (h : r1 ≤ r2) : val r1 ≤ val r2 := by
  unfold val vm vp
  by_cases h1 : r1 < 4503599627370496
  · by_cases h2 : r2 < 4503599627370496
    · simp only [if_pos h1, if_pos h2]; omega
    · simp only [if_pos h1, if_neg h2]
      have : 0 < 2 ^ (r2 / 4503599627370496 - 1) := Nat.two_pow_pos _
      calc r1 * 2 ^ 0 ≤ 4503599627370496 + r2 % 4503599627370496 := by omega
        _ ≤ (4503599627370496 + r2 % 4503599627370496) * 2 ^ (r2 / 4503599627370496 - 1) := Nat.le_mul_of_pos_right _ this
  · have h2 : ¬ r2 < 4503599627370496 := by omega
    simp only [if_neg h1, if_neg h2]
    by_cases hb : r1 / 4503599627370496 = r2 / 4503599627370496
    · rw [hb]
      exact Nat.mul_le_mul_right _ (by omega)
    · have hlt : r1 / 4503599627370496 < r2 / 4503599627370496 := by omega
      have hb1 : 1 ≤ r1 / 4503599627370496 := by omega
      generalize r1 / 4503599627370496 = q1 at *
      generalize r2 / 4503599627370496 = q2 at *
      have s1 : (4503599627370496 + r1 % 4503599627370496) * 2 ^ (q1 - 1) ≤ 4503599627370496 * 2 ^ q1 := by
        have e : 2 ^ q1 = 2 * 2 ^ (q1 - 1) := by rw [show q1 = (q1 - 1) + 1 by omega, Nat.pow_succ]; simp [Nat.mul_comm]
        rw [e, ← Nat.mul_assoc]
        exact Nat.mul_le_mul_right _ (by omega)
      have s2 : 4503599627370496 * 2 ^ q1 ≤ (4503599627370496 + r2 % 4503599627370496) * 2 ^ (q2 - 1) :=
        Nat.mul_le_mul (by omega) (Nat.pow_le_pow_right (by decide) (by omega))
      exact Nat.le_trans s1 s2

theorem order_le (r1 r2 : Nat) (h : r1 ≤ r2) (h2 : r2 ≤ 9218868437227405312) : (FloatKind.f64.format.order r1 r2 == some .lt || FloatKind.f64.format.order r1 r2 == some .eq) = true := by
  have key : FloatKind.f64.format.order r1 r2 = some .lt ∨ FloatKind.f64.format.order r1 r2 = some .eq := by
    show (Ieee.double.read r1).order (Ieee.double.read r2) = _ ∨ (Ieee.double.read r1).order (Ieee.double.read r2) = _
    by_cases e2 : r2 = 9218868437227405312
    · subst e2
      rw [read_inf]
      by_cases e1 : r1 = 9218868437227405312
      · subst e1; rw [read_inf]; right; simp [Ieee.Datum.order, compare, compareOfLessAndEq]
      · rw [read_fin r1 (by omega)]; left; simp [Ieee.Datum.order]
    · rw [read_fin r1 (by omega), read_fin r2 (by omega)]
      simp only [Ieee.Datum.order, Ieee.signed, Bool.false_eq_true, if_false, Option.some.injEq, Int.compare_eq_lt, Int.compare_eq_eq]
      have hv := val_mono r1 r2 h
      unfold val at hv
      rw [Nat.shiftLeft_eq, Nat.shiftLeft_eq]
      have hle : vm r1 * 2 ^ (-1074 + (vp r1 : Int) - min (-1074 + (vp r1 : Int)) (-1074 + (vp r2 : Int))).toNat ≤ vm r2 * 2 ^ (-1074 + (vp r2 : Int) - min (-1074 + (vp r1 : Int)) (-1074 + (vp r2 : Int))).toNat := by
        generalize vm r1 = m1 at *
        generalize vm r2 = m2 at *
        generalize vp r1 = p1 at *
        generalize vp r2 = p2 at *
        have x1 : (-1074 + (p1 : Int) - min (-1074 + (p1 : Int)) (-1074 + (p2 : Int))).toNat = p1 - min p1 p2 := by omega
        have x2 : (-1074 + (p2 : Int) - min (-1074 + (p1 : Int)) (-1074 + (p2 : Int))).toNat = p2 - min p1 p2 := by omega
        rw [x1, x2]
        have z1 : 2 ^ p1 = 2 ^ (p1 - min p1 p2) * 2 ^ min p1 p2 := by rw [← Nat.pow_add]; congr 1; omega
        have z2 : 2 ^ p2 = 2 ^ (p2 - min p1 p2) * 2 ^ min p1 p2 := by rw [← Nat.pow_add]; congr 1; omega
        rw [z1, z2, ← Nat.mul_assoc, ← Nat.mul_assoc] at hv
        exact Nat.le_of_mul_le_mul_right hv (Nat.two_pow_pos _)
      omega
  rcases key with k | k <;> rw [k] <;> rfl

theorem order_ge0 (r : Nat) (h : r ≤ 9218868437227405312) : (FloatKind.f64.format.order r 0 == some .gt || FloatKind.f64.format.order r 0 == some .eq) = true := by
  by_cases h0 : r = 0
  · subst h0; decide +kernel
  · have := gt_word r (by omega) h
    have e : Ieee.double.word false r = r := rfl
    rw [e] at this
    rw [this]; rfl
end Go.Proofs.Ytjhhhmeoahbagad
