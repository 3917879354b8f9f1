/-
  Shares and means of floats, of no program: a greater part has not a less share; a sum of so many floats up to 1 is at most so many, and their mean at most 1.
-/
import Derived.Test.YtjhhhmeoahbagadF4
namespace Go.Proofs.Ytjhhhmeoahbagad
open Go

/-- The quotient's rung is the one nearest to the quotient itself. -/
theorem sticky (a n d : Nat) (hn' : 0 < n) (hd : 1 ≤ d) : rnd (2 * (a / n) + (a % n != 0).toNat) (2 ^ (d + 1)) = rnd a (n * 2 ^ d) := by
  obtain ⟨e, rfl⟩ : ∃ e, d = e + 1 := ⟨d - 1, by omega⟩
  have hb : ((a % n != 0).toNat = 0 ∧ a % n = 0) ∨ ((a % n != 0).toNat = 1 ∧ 0 < a % n) := by
    by_cases h : a % n = 0
    · left; simp [h]
    · right
      have : (a % n != 0) = true := by simp [h]
      rw [this]; exact ⟨rfl, by omega⟩
  generalize (a % n != 0).toNat = b at *
  have ha : a = n * (a / n) + a % n := (Nat.div_add_mod a n).symm
  have hr : a % n < n := Nat.mod_lt _ hn'
  have dd : a / (n * 2 ^ (e + 1)) = a / n / 2 ^ (e + 1) := by rw [Nat.div_div_eq_div_mul]
  have dm : a % (n * 2 ^ (e + 1)) = n * (a / n % 2 ^ (e + 1)) + a % n := by
    rw [Nat.mod_mul]; omega
  have p2 : 2 ^ (e + 1 + 1) = 2 * 2 ^ (e + 1) := by rw [Nat.pow_succ, Nat.mul_comm]
  have p1 : 2 ^ (e + 1) = 2 * 2 ^ e := by rw [Nat.pow_succ, Nat.mul_comm]
  unfold rnd
  rw [dd, dm]
  generalize a / n = Q at *
  generalize a % n = R at *
  have s1 : (2 * Q + b) / 2 ^ (e + 1 + 1) = Q / 2 ^ (e + 1) := by
    rw [p2, ← Nat.div_div_eq_div_mul]
    congr 1
    omega
  have s2 : (2 * Q + b) % 2 ^ (e + 1 + 1) = 2 * (Q % 2 ^ (e + 1)) + b := by
    rw [p2, Nat.mod_mul]
    have x1 : (2 * Q + b) % 2 = b := by omega
    have x2 : (2 * Q + b) / 2 = Q := by omega
    rw [x1, x2]; omega
  rw [s1, s2]
  have hq : Q % 2 ^ (e + 1) < 2 ^ (e + 1) := Nat.mod_lt _ (Nat.two_pow_pos _)
  generalize Q / 2 ^ (e + 1) = K
  generalize Q % 2 ^ (e + 1) = M at *
  rw [p2, p1] at *
  generalize 2 ^ e = H at *
  -- 2 * 2 * H against 2 * (2 * M + b); n * (2 * H) against 2 * (n * M + R)
  have c1 : (2 * (2 * H) < 2 * (2 * M + b)) ↔ (n * (2 * H) < 2 * (n * M + R)) := by
    constructor
    · intro h
      by_cases hm : H < M
      · have : n * (H + 1) ≤ n * M := Nat.mul_le_mul_left _ hm
        rw [Nat.mul_add] at this
        rw [Nat.mul_left_comm]
        omega
      · have hm : H = M := by omega
        subst hm
        rw [Nat.mul_left_comm]
        omega
    · intro h
      rw [Nat.mul_left_comm] at h
      by_cases hm : H ≤ M
      · by_cases he : H = M
        · subst he; omega
        · omega
      · exfalso
        have : n * (M + 1) ≤ n * H := Nat.mul_le_mul_left _ (by omega)
        rw [Nat.mul_add] at this
        omega
  have c2 : (2 * (2 * H) = 2 * (2 * M + b)) ↔ (n * (2 * H) = 2 * (n * M + R)) := by
    constructor
    · intro h
      have hb0 : b = 0 := by omega
      have hM : H = M := by omega
      subst hM
      rw [Nat.mul_left_comm]
      omega
    · intro h
      rw [Nat.mul_left_comm] at h
      have hx : n * H = n * M + R := by omega
      by_cases hm : H ≤ M
      · have : n * H ≤ n * M := Nat.mul_le_mul_left _ hm
        have hR : R = 0 := by omega
        have he : n * H = n * M := by omega
        have := Nat.eq_of_mul_eq_mul_left hn' he
        omega
      · exfalso
        have : n * (M + 1) ≤ n * H := Nat.mul_le_mul_left _ (by omega)
        rw [Nat.mul_add] at this
        omega
  simp only [c1, c2]

theorem log_double (Q b : Nat) (hQ : 1 ≤ Q) (hb : b ≤ 1) : (2 * Q + b).log2 = Q.log2 + 1 := by
  have h0 : Q ≠ 0 := by omega
  have h1 := Nat.log2_self_le h0
  have h2 := Nat.lt_log2_self (n := Q)
  refine (Nat.log2_eq_iff (by omega)).2 ⟨?_, ?_⟩
  · rw [Nat.pow_succ]; omega
  · rw [Nat.pow_succ]; omega

/-- The bits of a quotient of two numbers above 0. -/
theorem quo_rung (x y m n : Nat) (i j : Int) (hx : Ieee.double.read x = .number false m i) (hy : Ieee.double.read y = .number false n j) (hm : m ≠ 0) (hn : n ≠ 0) (hl : m.log2 ≤ 53) :
    floatBits .quo .f64 x y = some (min (rungOf (m * 2 ^ (54 + n.log2 - m.log2)) n (i - j - ((54 + n.log2 - m.log2 : Nat) : Int))) 9218868437227405312) := by
  have hf : Ieee.double.fractionBits = 52 := rfl
  show (((Ieee.double.read x).quotient (Ieee.double.fractionBits + 2) (Ieee.double.read y)).map Ieee.double.write) = _
  rw [hx, hy]
  simp only [Ieee.Datum.quotient, if_neg hn, Option.map_some, Option.some.injEq, hf]
  rw [show (52 + 2 + n.log2 - m.log2) = 54 + n.log2 - m.log2 from rfl]
  generalize hk : 54 + n.log2 - m.log2 = k
  rw [Nat.shiftLeft_eq]
  have hn0 : 0 < n := by omega
  have hQ : 9007199254740992 ≤ m * 2 ^ k / n := by
    rw [Nat.le_div_iff_mul_le hn0]
    have q1 := Nat.log2_self_le hm
    have q2 := Nat.lt_log2_self (n := n)
    have q3 : 2 ^ m.log2 * 2 ^ k ≤ m * 2 ^ k := Nat.mul_le_mul_right _ q1
    rw [← Nat.pow_add, show m.log2 + k = 53 + (n.log2 + 1) by omega, Nat.pow_add] at q3
    generalize 2 ^ (n.log2 + 1) = N at *
    omega
  have hb : (m * 2 ^ k % n != 0).toNat ≤ 1 := by cases (m * 2 ^ k % n != 0) <;> decide
  have hM : 2 * (m * 2 ^ k / n) + (m * 2 ^ k % n != 0).toNat ≠ 0 := by omega
  have hst := fun d hd => sticky (m * 2 ^ k) n d hn0 hd
  have hlog := log_double (m * 2 ^ k / n) _ (by omega) hb
  have he : 53 ≤ (m * 2 ^ k / n).log2 := (Nat.le_log2 (by omega)).2 (by omega)
  have fin : ∀ p : Int, Ieee.double.write (.number (false ^^ false) (2 * (m * 2 ^ k / n) + (m * 2 ^ k % n != 0).toNat) (p - 1)) = min (rungOf (m * 2 ^ k) n p) 9218868437227405312 := by
    intro p
    show Ieee.double.write (.number false (2 * (m * 2 ^ k / n) + (m * 2 ^ k % n != 0).toNat) (p - 1)) = _
    rw [nearest_rung _ _ hM]
    have er : rungOf (2 * (m * 2 ^ k / n) + (m * 2 ^ k % n != 0).toNat) 1 (p - 1) = rungOf (m * 2 ^ k) n p := by
      unfold rungOf keepOf
      rw [Nat.div_one, hlog]
      have eL : lastOf ((m * 2 ^ k / n).log2 + 1) (p - 1) = lastOf (m * 2 ^ k / n).log2 p := by unfold lastOf; omega
      rw [eL]
      have hD : 1 ≤ lastOf (m * 2 ^ k / n).log2 p - p := by unfold lastOf; omega
      generalize lastOf (m * 2 ^ k / n).log2 p = L at *
      have z1 : (-(L - (p - 1))).toNat = 0 := by omega
      have z2 : (-(L - p)).toNat = 0 := by omega
      have z3 : (L - (p - 1)).toNat = (L - p).toNat + 1 := by omega
      rw [z1, z2, z3, Nat.pow_zero, Nat.mul_one, Nat.mul_one, Nat.one_mul, hst (L - p).toNat (by omega)]
    rw [er]
  exact fin _

theorem pow_up (m1 m2 s1 s2 z t1 t2 : Nat) (h : m1 * 2 ^ s1 ≤ m2 * 2 ^ s2) (e1 : t1 = s1 + z) (e2 : t2 = s2 + z) : m1 * 2 ^ t1 ≤ m2 * 2 ^ t2 := by
  subst e1 e2
  rw [Nat.pow_add, Nat.pow_add, ← Nat.mul_assoc, ← Nat.mul_assoc]
  exact Nat.mul_le_mul_right _ h

/-- A greater part by the same whole: the rung of the quotient is not less. -/
theorem quo_mono (m1 m2 n : Nat) (i1 i2 j : Int) (hm1 : m1 ≠ 0) (hm2 : m2 ≠ 0) (hn : n ≠ 0) (l1 : m1.log2 ≤ 53) (l2 : m2.log2 ≤ 53) (g1 : -1074 ≤ i1) (g2 : -1074 ≤ i2)
    (h : m1 * 2 ^ (i1 + 1074).toNat ≤ m2 * 2 ^ (i2 + 1074).toNat) :
    rungOf (m1 * 2 ^ (54 + n.log2 - m1.log2)) n (i1 - j - ((54 + n.log2 - m1.log2 : Nat) : Int)) ≤ rungOf (m2 * 2 ^ (54 + n.log2 - m2.log2)) n (i2 - j - ((54 + n.log2 - m2.log2 : Nat) : Int)) := by
  have big : ∀ m : Nat, m ≠ 0 → m.log2 ≤ 53 → n ≤ m * 2 ^ (54 + n.log2 - m.log2) := by
    intro m hm hl
    have q1 := Nat.log2_self_le hm
    have q2 := Nat.lt_log2_self (n := n)
    have q3 : 2 ^ m.log2 * 2 ^ (54 + n.log2 - m.log2) ≤ m * 2 ^ (54 + n.log2 - m.log2) := Nat.mul_le_mul_right _ q1
    rw [← Nat.pow_add, show m.log2 + (54 + n.log2 - m.log2) = 53 + (n.log2 + 1) by omega, Nat.pow_add] at q3
    generalize 2 ^ (n.log2 + 1) = N at *
    omega
  have b1 := big m1 hm1 l1
  have b2 := big m2 hm2 l2
  generalize 54 + n.log2 - m1.log2 = k1 at *
  generalize 54 + n.log2 - m2.log2 = k2 at *
  refine rung_mono _ n _ n _ _ (min (min (i1 - j - (k1 : Int)) (i2 - j - (k2 : Int))) (-1074 - j)) (by omega) (by omega) b1 b2 (by omega) (by omega) ?_
  generalize hc : min (min (i1 - j - (k1 : Int)) (i2 - j - (k2 : Int))) (-1074 - j) = c
  have hc1 : c ≤ i1 - j - (k1 : Int) := by omega
  have hc2 : c ≤ i2 - j - (k2 : Int) := by omega
  have hc3 : c ≤ -1074 - j := by omega
  have f : ∀ (m k : Nat) (s : Nat), m * 2 ^ k * n * 2 ^ s = m * 2 ^ (k + s) * n := by
    intro m k s; rw [Nat.pow_add]; simp only [Nat.mul_assoc, Nat.mul_comm]
  rw [f, f]
  apply Nat.mul_le_mul_right
  exact pow_up m1 m2 _ _ (-1074 - j - c).toNat _ _ h (by omega) (by omega)
end Go.Proofs.Ytjhhhmeoahbagad
