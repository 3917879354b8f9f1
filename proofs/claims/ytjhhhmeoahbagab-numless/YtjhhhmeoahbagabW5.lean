/-
  The walk of the document's product, bit by bit: it is the product's two words.
-/
import Derived.Test.YtjhhhmeoahbagabW4
namespace Go.Proofs.Ytjhhhmeoahbagab
open Go.RowKit Go.Lib

/-- The product of a and of what is left of b above the lowest k bits. -/
def part (a b k : Nat) : Nat := a * (b / 2 ^ k)
def hiP (a b k : Nat) : Int := ((part a b k / 18446744073709551616 : Nat) : Int)
def loP (a b k : Nat) : Int := ((part a b k % 18446744073709551616 : Nat) : Int)

theorem part_step (a b k : Nat) (h : 1 ≤ k) : part a b (k - 1) = 2 * part a b k + a * (b / 2 ^ (k - 1) % 2) := by
  obtain ⟨j, rfl⟩ : ∃ j, k = j + 1 := ⟨k - 1, by omega⟩
  unfold part
  simp only [Nat.add_sub_cancel]
  have e : b / 2 ^ (j + 1) = b / 2 ^ j / 2 := by rw [Nat.pow_succ, Nat.div_div_eq_div_mul]
  rw [e]
  generalize b / 2 ^ j = c
  have hc : c = 2 * (c / 2) + c % 2 := by omega
  conv => lhs; rw [hc]
  rw [Nat.mul_add, ← Nat.mul_assoc, Nat.mul_comm a 2, Nat.mul_assoc]
theorem part_lt (a b k : Nat) (ha : a < 18446744073709551616) (hb : b < 18446744073709551616) : part a b k < 340282366920938463463374607431768211456 := by
  unfold part
  have h1 : b / 2 ^ k ≤ b := Nat.div_le_self _ _
  have h2 : a * (b / 2 ^ k) ≤ 18446744073709551615 * 18446744073709551615 := Nat.mul_le_mul (by omega) (by omega)
  omega
theorem or_step (h l : Nat) (hh : h < 9223372036854775808) (hl : l < 18446744073709551616) :
    bits .or .u64 (IntKind.u64.wrap ((h : Int) * 2)) ((l : Int) / 9223372036854775808) = ((2 * h + l / 9223372036854775808 : Nat) : Int) := by
  have e1 : IntKind.u64.wrap ((h : Int) * 2) = ((2 * h : Nat) : Int) := by rw [IntKind.wrap_u64]; omega
  have e2 : (l : Int) / 9223372036854775808 = ((l / 9223372036854775808 : Nat) : Int) := by omega
  rw [e1, e2, bits_or_u64_nat _ _ (by omega) (by omega)]
  have e3 := Nat.shiftLeft_add_eq_or_of_lt (a := h) (b := l / 9223372036854775808) (i := 1) (by omega)
  rw [Nat.shiftLeft_eq, Nat.pow_one, Nat.mul_comm] at e3
  rw [← e3]
theorem bit_nat (b k : Nat) (hb : b < 18446744073709551616) : bits .and .u64 ((b : Int) / 2 ^ (k - 1)) 1 = ((b / 2 ^ (k - 1) % 2 : Nat) : Int) := by
  have e : ((b : Int) / 2 ^ (k - 1)) = ((b / 2 ^ (k - 1) : Nat) : Int) := by simp
  have h1 : b / 2 ^ (k - 1) ≤ b := Nat.div_le_self _ _
  rw [e]
  generalize b / 2 ^ (k - 1) = c at *
  rw [and_one_u64 _ (by omega) (by omega)]
  omega
theorem bit_is (b k : Nat) (hb : b < 18446744073709551616) (h : (bits .and .u64 ((b : Int) / 2 ^ (k - 1)) 1 == 1) = true) : b / 2 ^ (k - 1) % 2 = 1 := by
  rw [bit_nat b k hb, beq_iff_eq] at h
  generalize b / 2 ^ (k - 1) = c at *
  omega
theorem bit_not (b k : Nat) (hb : b < 18446744073709551616) (h : (bits .and .u64 ((b : Int) / 2 ^ (k - 1)) 1 == 1) = false) : b / 2 ^ (k - 1) % 2 = 0 := by
  rw [bit_nat b k hb] at h
  generalize b / 2 ^ (k - 1) = c at *
  rcases Nat.mod_two_eq_zero_or_one c with e | e
  · exact e
  · rw [e] at h; simp at h

theorem step_over (a b k : Nat) (ha : a < 18446744073709551616) (hb : b < 18446744073709551616) (hk : 1 ≤ k) (h1 : (bits .and .u64 ((b : Int) / 2 ^ (k - 1)) 1 == 1) = true)
    (h2 : IntKind.u64.wrap (IntKind.u64.wrap (loP a b k * 2) + a) < IntKind.u64.wrap (loP a b k * 2)) :
    IntKind.u64.wrap (bits .or .u64 (IntKind.u64.wrap (hiP a b k * 2)) (loP a b k / 9223372036854775808) + 1) = hiP a b (k - 1) ∧ IntKind.u64.wrap (IntKind.u64.wrap (loP a b k * 2) + a) = loP a b (k - 1) := by
  have hb1 := bit_is b k hb h1
  have hs := part_step a b k hk
  have hp := part_lt a b (k - 1) ha hb
  rw [hb1, Nat.mul_one] at hs
  unfold hiP loP at *
  rw [hs] at hp ⊢
  generalize part a b k = V at *
  rw [or_step _ _ (by omega) (by omega)]
  simp only [IntKind.wrap_u64] at *
  omega
theorem step_in (a b k : Nat) (ha : a < 18446744073709551616) (hb : b < 18446744073709551616) (hk : 1 ≤ k) (h1 : (bits .and .u64 ((b : Int) / 2 ^ (k - 1)) 1 == 1) = true)
    (h2 : IntKind.u64.wrap (loP a b k * 2) ≤ IntKind.u64.wrap (IntKind.u64.wrap (loP a b k * 2) + a)) :
    bits .or .u64 (IntKind.u64.wrap (hiP a b k * 2)) (loP a b k / 9223372036854775808) = hiP a b (k - 1) ∧ IntKind.u64.wrap (IntKind.u64.wrap (loP a b k * 2) + a) = loP a b (k - 1) := by
  have hb1 := bit_is b k hb h1
  have hs := part_step a b k hk
  have hp := part_lt a b (k - 1) ha hb
  rw [hb1, Nat.mul_one] at hs
  unfold hiP loP at *
  rw [hs] at hp ⊢
  generalize part a b k = V at *
  rw [or_step _ _ (by omega) (by omega)]
  simp only [IntKind.wrap_u64] at *
  omega
theorem step_no (a b k : Nat) (ha : a < 18446744073709551616) (hb : b < 18446744073709551616) (hk : 1 ≤ k) (h1 : (bits .and .u64 ((b : Int) / 2 ^ (k - 1)) 1 == 1) = false) :
    bits .or .u64 (IntKind.u64.wrap (hiP a b k * 2)) (loP a b k / 9223372036854775808) = hiP a b (k - 1) ∧ IntKind.u64.wrap (loP a b k * 2) = loP a b (k - 1) := by
  have hb1 := bit_not b k hb h1
  have hs := part_step a b k hk
  have hp := part_lt a b (k - 1) ha hb
  rw [hb1, Nat.mul_zero, Nat.add_zero] at hs
  unfold hiP loP at *
  rw [hs] at hp ⊢
  generalize part a b k = V at *
  rw [or_step _ _ (by omega) (by omega)]
  simp only [IntKind.wrap_u64] at *
  omega
theorem at_start (a b : Nat) (hb : b < 18446744073709551616) : hiP a b 64 = 0 ∧ loP a b 64 = 0 := by
  have e : b / 2 ^ 64 = 0 := Nat.div_eq_of_lt (by simpa using hb)
  unfold hiP loP part
  rw [e]; simp
theorem at_end (a b : Nat) : hiP a b 0 = hiN a b ∧ loP a b 0 = loN a b := by
  unfold hiP loP hiN loN part
  simp

end Go.Proofs.Ytjhhhmeoahbagab
