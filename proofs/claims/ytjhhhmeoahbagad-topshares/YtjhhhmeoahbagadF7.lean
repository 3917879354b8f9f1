/-
  Sums of clamped floats and their mean, of no program: a sum of so many is at most so many, the mean is from 0 to 1.
-/
import Derived.Test.YtjhhhmeoahbagadF6
import Derived.Test.YtjhhhmeoahbagadW7
namespace Go.Proofs.Ytjhhhmeoahbagad
open Go

/-- One, in units of the least number. -/
def twoTo (n : Nat) : Nat := 2 ^ n
def U : Nat := twoTo 1074
theorem U_pow (n : Nat) (h : n = 1074) : 2 ^ n = U := by
  unfold U
  rw [← h]
  rfl
theorem U_split (m n : Nat) (h : m + n = 1074) : 2 ^ m * 2 ^ n = U := by rw [← Nat.pow_add]; exact U_pow _ h
theorem val_one : val 4607182418800017408 = U := by decide +kernel
theorem val_zero : val 0 = 0 := by decide
theorem val_ints : ∀ k : Fin 200, val (rungOf (k.val + 1) 1 0) = (k.val + 1) * U := by decide +kernel

/-- A word above 0 and not above 1 is a rung whose number is at most 1. -/
theorem up_to_one (x : Nat) (hx : x < 18446744073709551616) (h0 : (FloatKind.f64.format.order x 0 == some .gt) = true) (h1 : (FloatKind.f64.format.order x 4607182418800017408 == some .gt) = false) :
    x < 9218868437227405312 ∧ val x ≤ U := by
  have h1'' : FloatKind.f64.format.order x 4607182418800017408 ≠ some .gt := by simpa using h1
  have h1' : (Ieee.double.read x).order (Ieee.double.read 4607182418800017408) ≠ some .gt := h1''
  rw [read_one] at h1'
  rcases pos_of_gt x h0 with e | ⟨m, i, hm, e⟩
  · rw [e] at h1'
    simp [Ieee.Datum.order] at h1'
  · -- the sign's bit is not set, and the rung is below infinity's
    have hs : x < 9218868437227405312 := by
      have e' := e
      unfold Ieee.Format.read at e'
      simp only [dbl_sign, dbl_binade, dbl_inf] at e'
      by_cases hneg : x < 9223372036854775808
      · have e1 : x % 9223372036854775808 = x := by omega
        rw [e1] at e'
        split at e'
        · omega
        · split at e'
          · assumption
          · split at e' <;> cases e'
      · have e2 : (x / 9223372036854775808 % 2 == 1) = true := by
          have : x / 9223372036854775808 = 1 := by omega
          rw [this]; rfl
        rw [e2] at e'
        split at e'
        · cases e'
        · split at e'
          · cases e'
          · split at e' <;> cases e'
    refine ⟨hs, ?_⟩
    rw [read_fin x hs] at h1'
    simp only [Ieee.Datum.order, ne_eq, Option.some.injEq, Int.compare_eq_gt, Ieee.signed, Bool.false_eq_true, if_false, Nat.shiftLeft_eq, Int.ofNat_lt, Nat.not_lt] at h1'
    unfold val
    generalize vm x = a at *
    generalize vp x = b at *
    obtain ⟨q, hq⟩ : ∃ q : Nat, q = 1022 := ⟨_, rfl⟩
    have h3 := pow_up a 4503599627370496 _ _ (min (b : Int) 1022).toNat b q h1' (by omega) (by omega)
    have h4 : 4503599627370496 * 2 ^ q = U := U_split 52 q (by omega)
    omega

theorem clamp_le (x : Nat) (hx : x < 18446744073709551616) : clampN x < 9218868437227405312 ∧ val (clampN x) ≤ U := by
  unfold clampN
  split
  · exact ⟨by decide, by rw [val_one]; exact Nat.le_refl _⟩
  · rename_i h1
    split
    · rename_i h0
      exact up_to_one x hx h0 (by simpa using h1)
    · exact ⟨by decide, by rw [val_zero]; exact Nat.zero_le _⟩

theorem rung_le_int (T z k : Nat) (h0 : T ≠ 0) (hT : T * 2 ^ z ≤ (k + 1) * U) : rungOf T 1 (-1074 + (z : Int)) ≤ rungOf (k + 1) 1 0 := by
  obtain ⟨c, hc⟩ : ∃ c : Int, c = -1074 := ⟨_, rfl⟩
  have e1 : (-1074 + (z : Int) - c).toNat = z := by omega
  have e2 : 2 ^ ((0 : Int) - c).toNat = U := U_pow _ (by omega)
  have h := rung_mono T 1 (k + 1) 1 (-1074 + (z : Int)) 0 c (by decide) (by decide) (by omega) (by omega) (by omega) (by omega)
  rw [e1, e2, Nat.mul_one, Nat.mul_one] at h
  exact h hT

theorem add_step (x y k : Nat) (hx : x < 9218868437227405312) (hy : y < 9218868437227405312) (hk : k < 200) (hv : val x + val y ≤ (k + 1) * U) :
    ∃ r, floatBits .add .f64 x y = some r ∧ r < 9218868437227405312 ∧ val r ≤ (k + 1) * U := by
  have hvk : val (rungOf (k + 1) 1 0) = (k + 1) * U := val_ints ⟨k, hk⟩
  show ∃ r, (((Ieee.double.read x).sum (Ieee.double.read y)).map Ieee.double.write) = some r ∧ _
  rw [read_fin x hx, read_fin y hy]
  simp only [Ieee.Datum.sum, Option.map_some, Option.some.injEq, Ieee.signed, Bool.false_eq_true, if_false, Nat.shiftLeft_eq, Bool.false_and]
  unfold val at hv
  generalize vm x = a at *
  generalize vm y = b at *
  generalize vp x = s at *
  generalize vp y = t at *
  refine ⟨_, rfl, ?_⟩
  have hT : ∃ T : Nat, ((a * 2 ^ (-1074 + (s : Int) - min (-1074 + (s : Int)) (-1074 + (t : Int))).toNat : Nat) : Int) + ((b * 2 ^ (-1074 + (t : Int) - min (-1074 + (s : Int)) (-1074 + (t : Int))).toNat : Nat) : Int) = (T : Int) ∧ T * 2 ^ (min s t) ≤ (k + 1) * U := by
    refine ⟨a * 2 ^ (s - min s t) + b * 2 ^ (t - min s t), ?_, ?_⟩
    · rw [show (-1074 + (s : Int) - min (-1074 + (s : Int)) (-1074 + (t : Int))).toNat = s - min s t by omega, show (-1074 + (t : Int) - min (-1074 + (s : Int)) (-1074 + (t : Int))).toNat = t - min s t by omega]
      exact (Int.natCast_add _ _).symm
    · rw [Nat.add_mul, Nat.mul_assoc, Nat.mul_assoc, ← Nat.pow_add, ← Nat.pow_add, show s - min s t + min s t = s by omega, show t - min s t + min s t = t by omega]
      exact hv
  obtain ⟨T, eT, hT⟩ := hT
  rw [eT]
  have hbase : min (-1074 + (s : Int)) (-1074 + (t : Int)) = -1074 + ((min s t : Nat) : Int) := by omega
  rw [hbase]
  generalize min s t = z at *
  by_cases h0 : T = 0
  · subst h0
    have e : Ieee.double.write (.number (if (((0 : Nat) : Int) = 0) then false else decide (((0 : Nat) : Int) < 0)) ((0 : Nat) : Int).natAbs (-1074 + (z : Int))) = 0 := by
      rw [if_pos (by rfl)]
      unfold Ieee.Format.write Ieee.Format.nearest
      rfl
    rw [e, val_zero]
    exact ⟨by decide, Nat.zero_le _⟩
  · have e : Ieee.double.write (.number (if ((T : Int) = 0) then false else decide ((T : Int) < 0)) (T : Int).natAbs (-1074 + (z : Int))) = min (rungOf T 1 (-1074 + (z : Int))) 9218868437227405312 := by
      rw [if_neg (by omega), show decide ((T : Int) < 0) = false by simp, Int.natAbs_natCast, nearest_rung T _ h0]
    rw [e]
    have hm := rung_le_int T z k h0 hT
    have hb := int_bd (k + 1) (by omega) (by omega)
    have hlt : rungOf T 1 (-1074 + (z : Int)) < 9218868437227405312 := Nat.lt_of_le_of_lt hm (Nat.lt_of_le_of_lt hb (by decide))
    rw [Nat.min_eq_left (Nat.le_of_lt hlt)]
    refine ⟨hlt, ?_⟩
    rw [← hvk]
    exact val_mono _ _ hm

/-- The sum of what is clamped. -/
def sumF (l : List Nat) : Nat := l.foldl (fun s x => (floatBits .add .f64 s (clampN x)).getD 0) 0
theorem sumF_snoc (l : List Nat) (x : Nat) : sumF (l ++ [x]) = (floatBits .add .f64 (sumF l) (clampN x)).getD 0 := by
  unfold sumF; rw [List.foldl_append]; rfl
theorem sumF_bd : ∀ (k : Nat) (l : List Nat), l.length = k → k ≤ 200 → (∀ x ∈ l, x < 18446744073709551616) → sumF l < 9218868437227405312 ∧ val (sumF l) ≤ k * U
  | 0, l, hl, _, _ => by
    have : l = [] := List.length_eq_zero_iff.1 hl
    subst this
    exact ⟨by decide, by show val 0 ≤ _; rw [val_zero]; exact Nat.zero_le _⟩
  | k + 1, l, hl, hk, hx => by
    obtain ⟨l', x, rfl⟩ : ∃ l' x, l = l' ++ [x] := ⟨l.dropLast, l.getLast (by intro h; subst h; simp at hl), (List.dropLast_concat_getLast _).symm⟩
    have hl' : l'.length = k := by simp at hl; exact hl
    obtain ⟨i1, i2⟩ := sumF_bd k l' hl' (by omega) (fun y hy => hx y (by simp [hy]))
    obtain ⟨c1, c2⟩ := clamp_le x (hx x (by simp))
    obtain ⟨r, e, r1, r2⟩ := add_step (sumF l') (clampN x) k i1 c1 (by omega) (by rw [Nat.add_mul, Nat.one_mul]; exact Nat.add_le_add i2 c2)
    rw [sumF_snoc, e]
    exact ⟨r1, r2⟩
theorem sumF_step (l : List Nat) (x : Nat) (hl : l.length < 200) (hx : ∀ y ∈ l, y < 18446744073709551616) (hx' : x < 18446744073709551616) :
    floatBits .add .f64 (sumF l) (clampN x) = some (sumF (l ++ [x])) := by
  obtain ⟨i1, i2⟩ := sumF_bd l.length l rfl (by omega) hx
  obtain ⟨c1, c2⟩ := clamp_le x hx'
  obtain ⟨r, e, r1, r2⟩ := add_step (sumF l) (clampN x) l.length i1 c1 (by omega) (by rw [Nat.add_mul, Nat.one_mul]; exact Nat.add_le_add i2 c2)
  rw [sumF_snoc, e]
  rfl

theorem mean_bd (l : List Nat) (h0 : l ≠ []) (hl : l.length ≤ 200) (hx : ∀ y ∈ l, y < 18446744073709551616) :
    ∃ r, floatBits .quo .f64 (sumF l) (floatOfInt .f64 (l.length : Int)) = some r ∧ r ≤ 4607182418800017408 := by
  obtain ⟨i1, i2⟩ := sumF_bd l.length l rfl hl hx
  have hn : l.length ≠ 0 := by intro h; exact h0 (List.length_eq_zero_iff.1 h)
  generalize l.length = n at *
  generalize sumF l = s at *
  have hrn := read_int n hn (by omega)
  have hvn : vm (rungOf n 1 0) ≠ 0 := vm_pos _ (by have := int_pos n hn; omega)
  have hval : val (rungOf n 1 0) = n * U := by
    have := val_ints ⟨n - 1, by omega⟩
    simp only [show n - 1 + 1 = n by omega] at this
    exact this
  by_cases hs : s = 0
  · subst hs
    exact ⟨0, quo_zero _ _ _ hrn hvn, by decide⟩
  · have hvs : vm s ≠ 0 := vm_pos s (by omega)
    refine ⟨_, quo_rung _ _ _ _ _ _ (read_fin s i1) hrn hvs hvn (vm_log _), ?_⟩
    rw [← hval] at i2
    unfold val at i2
    have hl1 := vm_log s
    generalize vm (rungOf n 1 0) = N at *
    generalize vp (rungOf n 1 0) = j at *
    generalize vm s = m at *
    generalize vp s = i at *
    have big : N ≤ m * 2 ^ (54 + N.log2 - m.log2) := by
      have q1 := Nat.log2_self_le hvs
      have q2 := Nat.lt_log2_self (n := N)
      have q3 : 2 ^ m.log2 * 2 ^ (54 + N.log2 - m.log2) ≤ m * 2 ^ (54 + N.log2 - m.log2) := Nat.mul_le_mul_right _ q1
      rw [← Nat.pow_add, show m.log2 + (54 + N.log2 - m.log2) = 53 + (N.log2 + 1) by omega, Nat.pow_add] at q3
      generalize 2 ^ (N.log2 + 1) = Q at *
      omega
    generalize 54 + N.log2 - m.log2 = k at *
    have hm : rungOf (m * 2 ^ k) N (-1074 + (i : Int) - (-1074 + (j : Int)) - (k : Int)) ≤ rungOf 1 1 0 := by
      refine rung_mono _ N 1 1 _ _ (min (-1074 + (i : Int) - (-1074 + (j : Int)) - (k : Int)) (-(j : Int))) (by omega) (by decide) big (by decide) (by omega) (by omega) ?_
      generalize hc : min (-1074 + (i : Int) - (-1074 + (j : Int)) - (k : Int)) (-(j : Int)) = c
      rw [Nat.mul_one, Nat.one_mul, Nat.mul_assoc, ← Nat.pow_add]
      exact pow_up m N i j (-(j : Int) - c).toNat _ _ i2 (by omega) (by omega)
    rw [one_rung] at hm
    exact Nat.le_trans (Nat.min_le_left _ _) hm
end Go.Proofs.Ytjhhhmeoahbagad
