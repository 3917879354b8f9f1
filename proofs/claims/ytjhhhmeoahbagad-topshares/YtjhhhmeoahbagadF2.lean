/-
  Facts on the bits of floats, of no program: one by a float above 0 and not above 1 is above 0.
-/
import Derived.Test.YtjhhhmeoahbagadF1
namespace Go.Proofs.Ytjhhhmeoahbagad
open Go

theorem read_zero : Ieee.double.read 0 = .number false 0 (-1074) := by decide +kernel
theorem pos_of_gt (x : Nat) (h : (FloatKind.f64.format.order x 0 == some .gt) = true) : (Ieee.double.read x = .infinity false) ∨ ∃ m i, m ≠ 0 ∧ Ieee.double.read x = .number false m i := by
  have h'' : FloatKind.f64.format.order x 0 = some .gt := by simpa using h
  have h' : (Ieee.double.read x).order (Ieee.double.read 0) = some .gt := h''
  rw [read_zero] at h'
  cases hx : Ieee.double.read x with
  | number s m i =>
    rw [hx] at h'
    simp only [Ieee.Datum.order, Option.some.injEq] at h'
    have hg : Ieee.signed false 0 ((-1074 : Int) - min i (-1074)).toNat < Ieee.signed s m (i - min i (-1074)).toNat := by
      rw [Int.compare_eq_gt] at h'
      exact h'
    simp only [Ieee.signed, Nat.shiftLeft_eq] at hg
    right
    cases s with
    | true =>
      simp only [if_true, Bool.false_eq_true, if_false, Nat.zero_mul] at hg
      omega
    | false =>
      refine ⟨m, i, ?_, rfl⟩
      rintro rfl
      simp at hg
  | infinity s =>
    rw [hx] at h'
    cases s with
    | true => simp [Ieee.Datum.order] at h'
    | false => exact .inl rfl
  | nan s t =>
    rw [hx] at h'
    simp [Ieee.Datum.order] at h'

theorem gt_word (rung : Nat) (h1 : 1 ≤ rung) (h2 : rung ≤ 9218868437227405312) : FloatKind.f64.format.order (Ieee.double.word false rung) 0 = some .gt := by
  show (Ieee.double.read (Ieee.double.word false rung)).order (Ieee.double.read 0) = some .gt
  rw [read_zero]
  have e : Ieee.double.word false rung = rung := rfl
  rw [e]
  have e1 : rung % 9223372036854775808 = rung := by omega
  have e2 : rung / 9223372036854775808 = 0 := by omega
  unfold Ieee.Format.read
  simp only [dbl_sign, dbl_binade, dbl_inf, dbl_least, e1, e2]
  split
  · simp only [Ieee.Datum.order, Option.some.injEq, Int.compare_eq_gt]
    simp [Ieee.signed]
    omega
  · split
    · simp only [Ieee.Datum.order, Option.some.injEq, Int.compare_eq_gt]
      simp only [Ieee.signed, Bool.false_eq_true, if_false, show ((0 % 2 == 1) = true) = False from by decide]
      rw [Int.ofNat_lt, Nat.shiftLeft_eq, Nat.shiftLeft_eq, Nat.zero_mul]
      exact Nat.mul_pos (by omega) (Nat.two_pow_pos _)
    · rw [if_pos (by omega)]
      simp [Ieee.Datum.order]

theorem le_one_log (m : Nat) (i : Int) (hm : m ≠ 0) (h : Ieee.Datum.order (.number false m i) (.number false 4503599627370496 (-52)) ≠ some .gt) : i + m.log2 ≤ 0 := by
  simp only [Ieee.Datum.order, ne_eq, Option.some.injEq, Int.compare_eq_gt] at h
  have hl := Nat.log2_self_le hm
  simp only [Ieee.signed, Nat.shiftLeft_eq] at h
  by_cases hi : i ≤ -52
  · have e : min i (-52) = i := by omega
    rw [e] at h
    have e1 : (i - i).toNat = 0 := by omega
    rw [e1] at h
    have h3 : m ≤ 2 ^ (-i).toNat := by
      have e2 : (2 : Nat) ^ (-i).toNat = 4503599627370496 * 2 ^ ((-52 : Int) - i).toNat := by
        rw [show (-i).toNat = 52 + ((-52 : Int) - i).toNat by omega, Nat.pow_add]
      rw [e2]
      have h4 : ¬ ((4503599627370496 * 2 ^ ((-52 : Int) - i).toNat : Nat) : Int) < ((m * 2 ^ 0 : Nat) : Int) := by simpa using h
      omega
    have h5 : 2 ^ m.log2 ≤ 2 ^ (-i).toNat := Nat.le_trans hl h3
    have h6 := (Nat.pow_le_pow_iff_right (by decide : 1 < 2)).1 h5
    omega
  · have e : min i (-52) = -52 := by omega
    rw [e] at h
    have e1 : ((-52 : Int) - -52).toNat = 0 := by omega
    rw [e1] at h
    have h4 : m * 2 ^ (i - -52).toNat ≤ 4503599627370496 := by
      have h5 : ¬ ((4503599627370496 * 2 ^ 0 : Nat) : Int) < ((m * 2 ^ (i - -52).toNat : Nat) : Int) := by simpa using h
      omega
    have h5 : 2 ^ m.log2 * 2 ^ (i - -52).toNat ≤ 2 ^ 52 := Nat.le_trans (Nat.mul_le_mul_right _ hl) h4
    rw [← Nat.pow_add] at h5
    have h6 := (Nat.pow_le_pow_iff_right (by decide : 1 < 2)).1 h5
    omega

theorem near_pos (M : Nat) (p : Int) (hM : M ≠ 0) (hp : -1073 ≤ p + (M.log2 : Int) - 52) : ∃ r, 1 ≤ r ∧ r ≤ 9218868437227405312 ∧ Ieee.double.write (.number false M p) = Ieee.double.word false r := by
  have hf : Ieee.double.fractionBits = 52 := rfl
  refine ⟨_, ?_, ?_, by unfold Ieee.Format.write Ieee.Format.nearest; simp only [if_neg hM]; rfl⟩
  · simp only [dbl_least, dbl_binade, dbl_inf, hf]
    generalize M.log2 = L at *
    generalize Ieee.Toward.cut _ _ _ _ = K
    have hlast : -1073 ≤ max (p + (L : Int) - ((52 : Nat) : Int)) (-1074) := by omega
    generalize max (p + (L : Int) - ((52 : Nat) : Int)) (-1074) = T at *
    have : 1 ≤ (T - -1074).toNat := by omega
    have h7 : 1 * 4503599627370496 ≤ (T - -1074).toNat * 4503599627370496 := Nat.mul_le_mul_right _ this
    omega
  · rw [dbl_inf]; exact Nat.min_le_right _ _

theorem quo_digits (m : Nat) (hm : m ≠ 0) : 9007199254740992 ≤ 4503599627370496 <<< (m.log2 + 2) / m := by
  have hlt := Nat.lt_log2_self (n := m)
  rw [Nat.le_div_iff_mul_le (by omega), Nat.shiftLeft_eq]
  rw [show m.log2 + 2 = (m.log2 + 1) + 1 from rfl, Nat.pow_succ]
  generalize 2 ^ (m.log2 + 1) = Q at *
  omega

theorem inv_pos (x q : Nat) (h0 : (FloatKind.f64.format.order x 0 == some .gt) = true) (h1 : (FloatKind.f64.format.order x 4607182418800017408 == some .gt) = false) (hq : floatBits .quo .f64 4607182418800017408 x = some q) :
    (FloatKind.f64.format.order q 0 == some .gt) = true := by
  have h1'' : FloatKind.f64.format.order x 4607182418800017408 ≠ some .gt := by simpa using h1
  have h1' : (Ieee.double.read x).order (Ieee.double.read 4607182418800017408) ≠ some .gt := h1''
  have hq' : (((Ieee.double.read 4607182418800017408).quotient (Ieee.double.fractionBits + 2) (Ieee.double.read x)).map Ieee.double.write) = some q := hq
  rw [read_one] at h1' hq'
  rcases pos_of_gt x h0 with hx | ⟨m, i, hm, hx⟩
  · rw [hx] at h1'
    simp [Ieee.Datum.order] at h1'
  · rw [hx] at h1' hq'
    have hl := le_one_log m i hm h1'
    have hD := quo_digits m hm
    simp only [Ieee.Datum.quotient, if_neg hm, Option.map_some, Option.some.injEq] at hq'
    have hlog : Nat.log2 4503599627370496 = 52 := by decide +kernel
    have hf : Ieee.double.fractionBits = 52 := rfl
    rw [hlog, hf] at hq'
    have em : 52 + 2 + m.log2 - 52 = m.log2 + 2 := by omega
    rw [em] at hq'
    generalize 4503599627370496 <<< (m.log2 + 2) / m = D at *
    generalize ((4503599627370496 <<< (m.log2 + 2) % m != 0)).toNat = b at *
    have hM : 2 * D + b ≠ 0 := by omega
    have hML : 54 ≤ (2 * D + b).log2 := (Nat.le_log2 hM).2 (by omega)
    obtain ⟨r, r1, r2, hr⟩ := near_pos (2 * D + b) (-52 - i - ((m.log2 + 2 : Nat) : Int) - 1) hM (by rw [Int.natCast_add]; omega)
    have e : q = Ieee.double.word false r := by rw [← hq', ← hr]; rfl
    rw [e, gt_word r r1 r2]
    rfl
end Go.Proofs.Ytjhhhmeoahbagad
