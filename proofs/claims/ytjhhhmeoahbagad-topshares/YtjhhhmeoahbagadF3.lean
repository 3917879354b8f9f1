/-
  Rounding of floats, of no program: the float nearest to a greater number is not less, also where the number is a quotient.
-/
import Derived.Test.YtjhhhmeoahbagadF2
namespace Go.Proofs.Ytjhhhmeoahbagad
open Go

/-- u / v as a whole number, to the nearest and, between two, the even one. -/
def rnd (u v : Nat) : Nat := u / v + (if v < 2 * (u % v) ∨ (v = 2 * (u % v) ∧ u / v % 2 = 1) then 1 else 0)

theorem rnd_ge (u v : Nat) : u / v ≤ rnd u v := by unfold rnd; split <;> omega
theorem rnd_le (u v : Nat) : rnd u v ≤ u / v + 1 := by unfold rnd; split <;> omega

theorem rnd_mono (u1 v1 u2 v2 : Nat) (h1 : 0 < v1) (h2 : 0 < v2) (h : u1 * v2 ≤ u2 * v1) : rnd u1 v1 ≤ rnd u2 v2 := by
  have hq : u1 / v1 ≤ u2 / v2 := by
    rw [Nat.le_div_iff_mul_le h2]
    have a : u1 / v1 * v1 ≤ u1 := Nat.div_mul_le_self u1 v1
    have b : u1 / v1 * v2 * v1 ≤ u2 * v1 := by
      calc u1 / v1 * v2 * v1 = u1 / v1 * v1 * v2 := by rw [Nat.mul_right_comm]
        _ ≤ u1 * v2 := Nat.mul_le_mul_right _ a
        _ ≤ u2 * v1 := h
    exact Nat.le_of_mul_le_mul_right b h1
  by_cases hlt : u1 / v1 < u2 / v2
  · have a := rnd_le u1 v1
    have b := rnd_ge u2 v2
    omega
  · have e : u1 / v1 = u2 / v2 := by omega
    have e1 : u1 = u1 / v1 * v1 + u1 % v1 := by rw [Nat.mul_comm]; exact (Nat.div_add_mod u1 v1).symm
    have e2 : u2 = u2 / v2 * v2 + u2 % v2 := by rw [Nat.mul_comm]; exact (Nat.div_add_mod u2 v2).symm
    have hr : u1 % v1 * v2 ≤ u2 % v2 * v1 := by
      rw [e1, e2, ← e, Nat.add_mul, Nat.add_mul, Nat.mul_right_comm (u1 / v1) v2 v1] at h
      omega
    have step : ∀ c : Nat, v1 + c ≤ 2 * (u1 % v1) → (c = 0 → v2 ≤ 2 * (u2 % v2)) ∧ (1 ≤ c → v2 < 2 * (u2 % v2)) := by
      intro c hc
      have k1 : (v1 + c) * v2 ≤ 2 * (u1 % v1) * v2 := Nat.mul_le_mul_right _ hc
      have k2 : 2 * (u1 % v1) * v2 ≤ 2 * (u2 % v2) * v1 := by rw [Nat.mul_assoc, Nat.mul_assoc]; omega
      have k3 : (v1 + c) * v2 ≤ 2 * (u2 % v2) * v1 := Nat.le_trans k1 k2
      rw [Nat.add_mul] at k3
      refine ⟨fun hc0 => ?_, fun hc1 => ?_⟩
      · subst hc0
        rw [Nat.zero_mul, Nat.add_zero, Nat.mul_comm v1 v2] at k3
        exact Nat.le_of_mul_le_mul_right k3 h1
      · have k4 : v2 * v1 < 2 * (u2 % v2) * v1 := by
          have : 0 < c * v2 := Nat.mul_pos (by omega) h2
          rw [Nat.mul_comm v2 v1]; omega
        exact Nat.lt_of_mul_lt_mul_right k4
    unfold rnd
    rw [e]
    by_cases c1 : v1 < 2 * (u1 % v1)
    · have := (step 1 (by omega)).2 (Nat.le_refl _)
      rw [if_pos (Or.inl c1), if_pos (Or.inl this)]
      exact Nat.le_refl _
    · by_cases c2 : v1 = 2 * (u1 % v1) ∧ u2 / v2 % 2 = 1
      · have := (step 0 (by omega)).1 rfl
        rw [if_pos (Or.inr c2), if_pos (by omega)]
        exact Nat.le_refl _
      · rw [if_neg (by omega)]
        omega

theorem cut_rnd (neg : Bool) (n d : Nat) : Ieee.Toward.even.cut neg n d = rnd n (2 ^ d) := by
  unfold Ieee.Toward.cut rnd
  dsimp only
  have key : ∀ g : Nat, (decide (g < 2 * (n % g)) || (g == 2 * (n % g) && n / g % 2 == 1)).toNat = if g < 2 * (n % g) ∨ (g = 2 * (n % g) ∧ n / g % 2 = 1) then 1 else 0 := by
    intro g
    by_cases h : g < 2 * (n % g) ∨ (g = 2 * (n % g) ∧ n / g % 2 = 1)
    · rw [if_pos h]
      have : (decide (g < 2 * (n % g)) || (g == 2 * (n % g) && n / g % 2 == 1)) = true := by simpa using h
      rw [this]; rfl
    · rw [if_neg h]
      have : (decide (g < 2 * (n % g)) || (g == 2 * (n % g) && n / g % 2 == 1)) = false := by
        rw [Bool.eq_false_iff]; intro hc; exact h (by simpa using hc)
      rw [this]; rfl
  rw [key, Nat.one_shiftLeft]
  by_cases hd : d ≤ n.log2 + 2
  · rw [Nat.min_eq_left hd]
  · rw [Nat.min_eq_right (by omega)]
    have h1 : n < 2 ^ (n.log2 + 1) := Nat.lt_log2_self
    have h2 : 2 ^ (n.log2 + 2) = 2 * 2 ^ (n.log2 + 1) := by rw [show n.log2 + 2 = (n.log2 + 1) + 1 from rfl, Nat.pow_succ, Nat.mul_comm]
    have h3 : 2 ^ (n.log2 + 2) ≤ 2 ^ d := Nat.pow_le_pow_right (by decide) (by omega)
    generalize 2 ^ (n.log2 + 1) = Q at *
    generalize 2 ^ (n.log2 + 2) = Q2 at *
    generalize 2 ^ d = Q3 at *
    have a1 : n / Q2 = 0 := Nat.div_eq_of_lt (by omega)
    have a2 : n / Q3 = 0 := Nat.div_eq_of_lt (by omega)
    have a3 : n % Q2 = n := Nat.mod_eq_of_lt (by omega)
    have a4 : n % Q3 = n := Nat.mod_eq_of_lt (by omega)
    rw [a1, a2, a3, a4, if_neg (by omega), if_neg (by omega)]

def lastOf (e : Nat) (p : Int) : Int := max (p + e - 52) (-1074)
def keepOf (a n : Nat) (D : Int) : Nat := rnd (a * 2 ^ (-D).toNat) (n * 2 ^ D.toNat)
/-- The rung nearest to a / n * 2 ^ p, had the format no end. -/
def rungOf (a n : Nat) (p : Int) : Nat := (lastOf (a / n).log2 p + 1074).toNat * 4503599627370496 + keepOf a n (lastOf (a / n).log2 p - p)

theorem nearest_rung (m : Nat) (p : Int) (hm : m ≠ 0) : Ieee.double.write (.number false m p) = min (rungOf m 1 p) 9218868437227405312 := by
  have hf : Ieee.double.fractionBits = 52 := rfl
  unfold Ieee.Format.write Ieee.Format.nearest
  simp only [if_neg hm, dbl_least, dbl_binade, dbl_inf, hf, cut_rnd, Nat.shiftLeft_eq]
  unfold Ieee.Format.word rungOf keepOf
  rw [if_neg (by decide), Nat.div_one]
  have e1 : max (p + (m.log2 : Int) - ((52 : Nat) : Int)) (-1074) = lastOf m.log2 p := rfl
  rw [e1]
  generalize lastOf m.log2 p = L
  rw [show (L - -1074).toNat = (L + 1074).toNat by omega, show (-(L - p)).toNat = (p - L).toNat by omega, Nat.one_mul]

theorem log_bd (a n : Nat) (hn : 0 < n) (h : n ≤ a) : n * 2 ^ (a / n).log2 ≤ a ∧ a < n * 2 ^ ((a / n).log2 + 1) := by
  have h0 : a / n ≠ 0 := by
    have := (Nat.le_div_iff_mul_le hn).2 (by omega : 1 * n ≤ a)
    omega
  refine ⟨?_, ?_⟩
  · have := (Nat.le_div_iff_mul_le hn).1 (Nat.log2_self_le h0)
    rw [Nat.mul_comm]; exact this
  · have := (Nat.div_lt_iff_lt_mul hn).1 (Nat.lt_log2_self (n := a / n))
    rw [Nat.mul_comm]; exact this

theorem exp_le {x y : Nat} (h : 2 ^ x < 2 ^ y) : x < y := (Nat.pow_lt_pow_iff_right (by decide)).1 h

theorem mag_mono (a1 n1 a2 n2 e1 e2 s t : Nat) (k1 : 0 < n1) (b1 : n1 * 2 ^ e1 ≤ a1) (b2 : a2 < n2 * 2 ^ (e2 + 1)) (h : a1 * n2 * 2 ^ s ≤ a2 * n1 * 2 ^ t) : e1 + s ≤ e2 + t := by
  have q1 : n1 * 2 ^ e1 * n2 * 2 ^ s ≤ a1 * n2 * 2 ^ s := Nat.mul_le_mul_right _ (Nat.mul_le_mul_right _ b1)
  have q2 : a2 * n1 * 2 ^ t < n2 * 2 ^ (e2 + 1) * n1 * 2 ^ t :=
    Nat.mul_lt_mul_of_pos_right (Nat.mul_lt_mul_of_pos_right b2 k1) (Nat.two_pow_pos _)
  have q3 : n1 * 2 ^ e1 * n2 * 2 ^ s < n2 * 2 ^ (e2 + 1) * n1 * 2 ^ t := by omega
  have e3 : n1 * 2 ^ e1 * n2 * 2 ^ s = (n1 * n2) * 2 ^ (e1 + s) := by
    rw [Nat.pow_add]
    simp only [Nat.mul_assoc, Nat.mul_left_comm, Nat.mul_comm]
  have e4 : n2 * 2 ^ (e2 + 1) * n1 * 2 ^ t = (n1 * n2) * 2 ^ (e2 + 1 + t) := by
    rw [Nat.pow_add 2 (e2 + 1) t]
    simp only [Nat.mul_assoc, Nat.mul_left_comm, Nat.mul_comm]
  rw [e3, e4] at q3
  have := exp_le (Nat.lt_of_mul_lt_mul_left q3)
  omega

theorem keep_hi (a n e : Nat) (D : Int) (hn : 0 < n) (b : a < n * 2 ^ (e + 1)) (hD : (e : Int) - 52 ≤ D) : keepOf a n D ≤ 9007199254740992 := by
  unfold keepOf
  have h := rnd_le (a * 2 ^ (-D).toNat) (n * 2 ^ D.toNat)
  have hv : 0 < n * 2 ^ D.toNat := Nat.mul_pos hn (Nat.two_pow_pos _)
  have h2 : a * 2 ^ (-D).toNat / (n * 2 ^ D.toNat) < 9007199254740992 := by
    rw [Nat.div_lt_iff_lt_mul hv]
    have q1 : a * 2 ^ (-D).toNat < n * 2 ^ (e + 1) * 2 ^ (-D).toNat := Nat.mul_lt_mul_of_pos_right b (Nat.two_pow_pos _)
    have q2 : n * 2 ^ (e + 1) * 2 ^ (-D).toNat ≤ 9007199254740992 * (n * 2 ^ D.toNat) := by
      have e5 : 9007199254740992 * (n * 2 ^ D.toNat) = n * 2 ^ (53 + D.toNat) := by
        rw [Nat.pow_add, Nat.mul_left_comm]
      rw [e5, Nat.mul_assoc, ← Nat.pow_add]
      exact Nat.mul_le_mul_left _ (Nat.pow_le_pow_right (by decide) (by omega))
    omega
  omega

theorem keep_lo (a n e : Nat) (D : Int) (hn : 0 < n) (b : n * 2 ^ e ≤ a) (hD : (e : Int) - 52 = D) : 4503599627370496 ≤ keepOf a n D := by
  unfold keepOf
  have h := rnd_ge (a * 2 ^ (-D).toNat) (n * 2 ^ D.toNat)
  have hv : 0 < n * 2 ^ D.toNat := Nat.mul_pos hn (Nat.two_pow_pos _)
  have h2 : 4503599627370496 ≤ a * 2 ^ (-D).toNat / (n * 2 ^ D.toNat) := by
    rw [Nat.le_div_iff_mul_le hv]
    have q1 : n * 2 ^ e * 2 ^ (-D).toNat ≤ a * 2 ^ (-D).toNat := Nat.mul_le_mul_right _ b
    have q2 : 4503599627370496 * (n * 2 ^ D.toNat) = n * 2 ^ e * 2 ^ (-D).toNat := by
      have e5 : 4503599627370496 * (n * 2 ^ D.toNat) = n * 2 ^ (52 + D.toNat) := by
        rw [Nat.pow_add, Nat.mul_left_comm]
      rw [e5, Nat.mul_assoc, ← Nat.pow_add]
      congr 2
      omega
    omega
  omega

theorem rung_mono (a1 n1 a2 n2 : Nat) (p1 p2 c : Int) (k1 : 0 < n1) (k2 : 0 < n2) (h1 : n1 ≤ a1) (h2 : n2 ≤ a2) (c1 : c ≤ p1) (c2 : c ≤ p2)
    (h : a1 * n2 * 2 ^ (p1 - c).toNat ≤ a2 * n1 * 2 ^ (p2 - c).toNat) : rungOf a1 n1 p1 ≤ rungOf a2 n2 p2 := by
  obtain ⟨b1, d1⟩ := log_bd a1 n1 k1 h1
  obtain ⟨b2, d2⟩ := log_bd a2 n2 k2 h2
  unfold rungOf
  generalize (a1 / n1).log2 = e1 at *
  generalize (a2 / n2).log2 = e2 at *
  have hm := mag_mono a1 n1 a2 n2 e1 e2 _ _ k1 b1 d2 h
  have hL : lastOf e1 p1 ≤ lastOf e2 p2 := by unfold lastOf; omega
  by_cases hlt : lastOf e1 p1 < lastOf e2 p2
  · have x1 := keep_hi a1 n1 e1 (lastOf e1 p1 - p1) k1 d1 (by unfold lastOf; omega)
    have x2 := keep_lo a2 n2 e2 (lastOf e2 p2 - p2) k2 b2 (by unfold lastOf at *; omega)
    have hlo : -1074 ≤ lastOf e1 p1 := by unfold lastOf; omega
    generalize lastOf e1 p1 = L1 at *
    generalize lastOf e2 p2 = L2 at *
    have x3 : (L1 + 1074).toNat + 1 ≤ (L2 + 1074).toNat := by omega
    have x4 : ((L1 + 1074).toNat + 1) * 4503599627370496 ≤ (L2 + 1074).toNat * 4503599627370496 := Nat.mul_le_mul_right _ x3
    omega
  · have e : lastOf e1 p1 = lastOf e2 p2 := by omega
    rw [e]
    generalize lastOf e2 p2 = L at *
    apply Nat.add_le_add_left
    unfold keepOf
    apply rnd_mono
    · exact Nat.mul_pos k1 (Nat.two_pow_pos _)
    · exact Nat.mul_pos k2 (Nat.two_pow_pos _)
    · -- both sides by the same power of two
      have f : ∀ (x y : Nat) (s t : Nat), x * 2 ^ s * (y * 2 ^ t) = x * y * 2 ^ (s + t) := by
        intro x y s t; rw [Nat.pow_add]; simp only [Nat.mul_assoc, Nat.mul_left_comm]
      rw [f, f]
      -- the exponents differ as p1 - c and p2 - c do
      have hx : ∃ z1 z2 : Nat, (-(L - p1)).toNat + (L - p2).toNat + z1 = (p1 - c).toNat + z2 ∧ (-(L - p2)).toNat + (L - p1).toNat + z1 = (p2 - c).toNat + z2 := by
        refine ⟨(p1 - c).toNat + (p2 - c).toNat, (-(L - p1)).toNat + (L - p2).toNat + (p2 - c).toNat, by omega, by omega⟩
      obtain ⟨z1, z2, y1, y2⟩ := hx
      have g : a1 * n2 * 2 ^ (p1 - c).toNat * 2 ^ z2 ≤ a2 * n1 * 2 ^ (p2 - c).toNat * 2 ^ z2 := Nat.mul_le_mul_right _ h
      rw [Nat.mul_assoc, ← Nat.pow_add, ← y1, Nat.mul_assoc (a2 * n1), ← Nat.pow_add, ← y2, Nat.pow_add, Nat.pow_add 2 _ z1, ← Nat.mul_assoc, ← Nat.mul_assoc] at g
      exact Nat.le_of_mul_le_mul_right g (Nat.two_pow_pos _)
end Go.Proofs.Ytjhhhmeoahbagad
