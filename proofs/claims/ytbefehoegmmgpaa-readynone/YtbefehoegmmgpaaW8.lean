/-
  The walk of the document's highest bit, from the top down: it is that of num.Highest.
-/
import Derived.Test.YtbefehoegmmgpaaW3
namespace Go.Proofs.Ytbefehoegmmgpaa.Bq
open Go.RowKit Go.Lib

theorem bl_log : ∀ (n x : Nat), x < 2 ^ n → n ≤ 64 → x ≠ 0 → 2 ^ (Lib.bitLen x - 1) ≤ x ∧ x < 2 ^ (Lib.bitLen x) ∧ 1 ≤ Lib.bitLen x
  | 0, x, h, _, h0 => by simp at h; omega
  | n + 1, x, h, hn, h0 => by
    have hx : x < 2 ^ 64 := Nat.lt_of_lt_of_le h (Nat.pow_le_pow_right (by decide) hn)
    have e := Lib.bitLen_half x h0 hx
    by_cases h1 : x / 2 = 0
    · have hx1 : x = 1 := by omega
      subst hx1
      decide
    · obtain ⟨a, b, c⟩ := bl_log n (x / 2) (by rw [Nat.pow_succ] at h; omega) (by omega) h1
      rw [e]
      obtain ⟨L, hL⟩ : ∃ L, Lib.bitLen (x / 2) = L + 1 := ⟨Lib.bitLen (x / 2) - 1, by omega⟩
      rw [hL] at a b ⊢
      simp only [Nat.add_sub_cancel] at a
      have e1 : 1 + (L + 1) - 1 = L + 1 := by omega
      have e2 : 1 + (L + 1) = L + 1 + 1 := by omega
      rw [e1, e2, Nat.pow_succ, Nat.pow_succ, Nat.pow_succ] at *
      generalize 2 ^ L = Q at *
      omega
theorem bl (x : Int) (h : W64 x) (h0 : x ≠ 0) : 2 ^ (Lib.bitLen x.toNat - 1) ≤ x.toNat ∧ x.toNat < 2 ^ (Lib.bitLen x.toNat) ∧ 1 ≤ Lib.bitLen x.toNat := by
  obtain ⟨l, m⟩ := h
  exact bl_log 64 x.toNat (by simp; omega) (by omega) (by omega)
theorem bl_one (x : Int) (h : W64 x) (h0 : x ≠ 0) : x / 2 ^ (Lib.bitLen x.toNat - 1) = 1 := by
  obtain ⟨a, b, c⟩ := bl x h h0
  have e : x = (x.toNat : Int) := by have := h.1; omega
  have d : x.toNat / 2 ^ (Lib.bitLen x.toNat - 1) = 1 := by
    have e2 : Lib.bitLen x.toNat = Lib.bitLen x.toNat - 1 + 1 := by omega
    rw [e2, Nat.pow_succ] at b
    generalize Lib.bitLen x.toNat - 1 = q at *
    have hq : 0 < 2 ^ q := Nat.two_pow_pos q
    apply Nat.div_eq_of_lt_le <;> omega
  have f : ((x.toNat / 2 ^ (Lib.bitLen x.toNat - 1) : Nat) : Int) = 1 := by rw [d]; rfl
  rw [Int.natCast_ediv, Int.natCast_pow] at f
  rw [← e] at f
  exact f
theorem bl_above (x : Int) (h : W64 x) (m : Nat) (hm : Lib.bitLen x.toNat ≤ m) (h0 : x ≠ 0) : x / 2 ^ m = 0 := by
  obtain ⟨a, b, c⟩ := bl x h h0
  have hx : x.toNat < 2 ^ m := Nat.lt_of_lt_of_le b (Nat.pow_le_pow_right (by decide) hm)
  have e : x = (x.toNat : Int) := by have := h.1; omega
  have f : ((x.toNat / 2 ^ m : Nat) : Int) = 0 := by rw [Nat.div_eq_of_lt hx]; rfl
  rw [Int.natCast_ediv, Int.natCast_pow] at f
  rw [← e] at f
  exact f
theorem bit_yes (x : Int) (h : W64 x) (m : Nat) (hb : (bits .and .u64 (x / 2 ^ m) 1 == 1) = true) : x ≠ 0 ∧ m < Lib.bitLen x.toNat := by
  have h0 : x ≠ 0 := by
    rintro rfl
    simp at hb
    revert hb; decide +kernel
  refine ⟨h0, ?_⟩
  apply Classical.byContradiction
  intro hn
  rw [bl_above x h m (by omega) h0] at hb
  revert hb; decide +kernel
theorem bit_no (x : Int) (h : W64 x) (h0 : x ≠ 0) (m : Nat) (hb : (bits .and .u64 (x / 2 ^ m) 1 == 1) = false) : m ≠ Lib.bitLen x.toNat - 1 := by
  rintro rfl
  rw [bl_one x h h0] at hb
  revert hb; decide +kernel

theorem hiBit_eq (w0 w1 w2 w3 : Int) : hiBit w0 w1 w2 w3 = if w0 = 0 ∧ w1 = 0 ∧ w2 = 0 ∧ w3 = 0 then -1 else hiOf w3 192 (hiOf w2 128 (hiOf w1 64 (hiOf w0 0 0))) := rfl
theorem hi_bd (w0 w1 w2 w3 : Int) (b0 : W64 w0) (b1 : W64 w1) (b2 : W64 w2) (b3 : W64 w3) : -1 ≤ hiBit w0 w1 w2 w3 ∧ hiBit w0 w1 w2 w3 ≤ 255 := by
  have l0 := len_bd w0 b0.1 b0.2; have l1 := len_bd w1 b1.1 b1.2; have l2 := len_bd w2 b2.1 b2.2; have l3 := len_bd w3 b3.1 b3.2
  rw [hiBit_eq]
  unfold hiOf
  split
  · omega
  · (repeat' split) <;> omega
theorem hi_ge (w0 w1 w2 w3 : Int) (b0 : W64 w0) (b1 : W64 w1) (b2 : W64 w2) (b3 : W64 w3) : (w0 ≠ 0 → 0 + (Lib.bitLen w0.toNat : Int) - 1 ≤ hiBit w0 w1 w2 w3) ∧ (w1 ≠ 0 → 64 + (Lib.bitLen w1.toNat : Int) - 1 ≤ hiBit w0 w1 w2 w3) ∧ (w2 ≠ 0 → 128 + (Lib.bitLen w2.toNat : Int) - 1 ≤ hiBit w0 w1 w2 w3) ∧ (w3 ≠ 0 → 192 + (Lib.bitLen w3.toNat : Int) - 1 ≤ hiBit w0 w1 w2 w3) := by
  have l0 := len_bd w0 b0.1 b0.2; have l1 := len_bd w1 b1.1 b1.2; have l2 := len_bd w2 b2.1 b2.2; have l3 := len_bd w3 b3.1 b3.2
  have k0 : w0 ≠ 0 → 1 ≤ (Lib.bitLen w0.toNat : Int) := fun h => by have := (bl w0 b0 h).2.2; omega
  have k1 : w1 ≠ 0 → 1 ≤ (Lib.bitLen w1.toNat : Int) := fun h => by have := (bl w1 b1 h).2.2; omega
  have k2 : w2 ≠ 0 → 1 ≤ (Lib.bitLen w2.toNat : Int) := fun h => by have := (bl w2 b2 h).2.2; omega
  have k3 : w3 ≠ 0 → 1 ≤ (Lib.bitLen w3.toNat : Int) := fun h => by have := (bl w3 b3 h).2.2; omega
  rw [hiBit_eq]
  unfold hiOf
  split
  · omega
  · (repeat' split) <;> omega
theorem hi_at (w0 w1 w2 w3 : Int) (b0 : W64 w0) (b1 : W64 w1) (b2 : W64 w2) (b3 : W64 w3) (m : Int) (m0 : 0 ≤ m) (m1 : m < 64) : (hiBit w0 w1 w2 w3 = 0 + m → w0 ≠ 0 ∧ (Lib.bitLen w0.toNat : Int) - 1 = m) ∧ (hiBit w0 w1 w2 w3 = 64 + m → w1 ≠ 0 ∧ (Lib.bitLen w1.toNat : Int) - 1 = m) ∧ (hiBit w0 w1 w2 w3 = 128 + m → w2 ≠ 0 ∧ (Lib.bitLen w2.toNat : Int) - 1 = m) ∧ (hiBit w0 w1 w2 w3 = 192 + m → w3 ≠ 0 ∧ (Lib.bitLen w3.toNat : Int) - 1 = m) := by
  have l0 := len_bd w0 b0.1 b0.2; have l1 := len_bd w1 b1.1 b1.2; have l2 := len_bd w2 b2.1 b2.2; have l3 := len_bd w3 b3.1 b3.2
  have k0 : w0 ≠ 0 → 1 ≤ (Lib.bitLen w0.toNat : Int) := fun h => by have := (bl w0 b0 h).2.2; omega
  have k1 : w1 ≠ 0 → 1 ≤ (Lib.bitLen w1.toNat : Int) := fun h => by have := (bl w1 b1 h).2.2; omega
  have k2 : w2 ≠ 0 → 1 ≤ (Lib.bitLen w2.toNat : Int) := fun h => by have := (bl w2 b2 h).2.2; omega
  have k3 : w3 ≠ 0 → 1 ≤ (Lib.bitLen w3.toNat : Int) := fun h => by have := (bl w3 b3 h).2.2; omega
  rw [hiBit_eq]
  unfold hiOf
  split
  · omega
  · (repeat' split) <;> omega

end Go.Proofs.Ytbefehoegmmgpaa.Bq
