/-
  The walks of Push, Mask, Len, Top and Pop over ids and levels.
-/
import Derived.Test.YtbefehoegmmgpaaQ7
import Derived.Deep.QuietTactic
import Derived.BigQuiet
namespace Go.Proofs.Ytbefehoegmmgpaa.Bq
open Go.RowKit Go.Lib

/-! The highest bit of the mask, by its bits. -/
theorem bl_nat (x : Nat) (h : x < 18446744073709551616) (h0 : x ≠ 0) : 2 ^ (Lib.bitLen x - 1) ≤ x ∧ x < 2 ^ Lib.bitLen x ∧ 1 ≤ Lib.bitLen x := by
  exact bl_log 64 x h (by omega) h0
theorem bit_set (x k : Nat) (h : x < 18446744073709551616) (hb : x.testBit k = true) : x ≠ 0 ∧ k < Lib.bitLen x := by
  have h0 : x ≠ 0 := by rintro rfl; simp at hb
  refine ⟨h0, ?_⟩
  apply Classical.byContradiction
  intro hn
  have h1 := (bl_nat x h h0).2.1
  have : x < 2 ^ k := Nat.lt_of_lt_of_le h1 (Nat.pow_le_pow_right (by decide) (by omega))
  rw [Nat.testBit_lt_two_pow this] at hb
  cases hb
theorem bit_top (x : Nat) (h : x < 18446744073709551616) (h0 : x ≠ 0) : x.testBit (Lib.bitLen x - 1) = true := by
  obtain ⟨a, b, c⟩ := bl_nat x h h0
  rw [Nat.testBit_eq_decide_div_mod_eq]
  have e2 : Lib.bitLen x = Lib.bitLen x - 1 + 1 := by omega
  rw [e2, Nat.pow_succ] at b
  generalize Lib.bitLen x - 1 = q at *
  have hq : 0 < 2 ^ q := Nat.two_pow_pos q
  have d : x / 2 ^ q = 1 := by apply Nat.div_eq_of_lt_le <;> omega
  rw [d]
  rfl
theorem w64_nat (x : Nat) (h : x < 18446744073709551616) : W64 (x : Int) := ⟨by omega, by omega⟩

theorem hi_bits (m : Nat → Nat) (mlt : ∀ i, i < 4 → m i < 18446744073709551616) :
    (∀ k, k < 256 → (m (k / 64)).testBit (k % 64) = true → (k : Int) ≤ hiBit (m 0) (m 1) (m 2) (m 3)) ∧
    (∀ k : Nat, k < 256 → hiBit (m 0) (m 1) (m 2) (m 3) = (k : Int) → (m (k / 64)).testBit (k % 64) = true) := by
  have b0 := w64_nat _ (mlt 0 (by omega)); have b1 := w64_nat _ (mlt 1 (by omega)); have b2 := w64_nat _ (mlt 2 (by omega)); have b3 := w64_nat _ (mlt 3 (by omega))
  have hge := hi_ge (m 0) (m 1) (m 2) (m 3) b0 b1 b2 b3
  simp only [Int.toNat_natCast] at hge
  constructor
  · intro k hk hb
    have hj : k / 64 = 0 ∨ k / 64 = 1 ∨ k / 64 = 2 ∨ k / 64 = 3 := by omega
    obtain ⟨n0, nl⟩ := bit_set _ _ (mlt (k / 64) (by omega)) hb
    rcases hj with e | e | e | e <;> rw [e] at n0 nl
    · have := hge.1 (by omega); omega
    · have := hge.2.1 (by omega); omega
    · have := hge.2.2.1 (by omega); omega
    · have := hge.2.2.2 (by omega); omega
  · intro k hk hH
    have hat := hi_at (m 0) (m 1) (m 2) (m 3) b0 b1 b2 b3 ((k % 64 : Nat) : Int) (by omega) (by omega)
    simp only [Int.toNat_natCast] at hat
    have hj : k / 64 = 0 ∨ k / 64 = 1 ∨ k / 64 = 2 ∨ k / 64 = 3 := by omega
    rcases hj with e | e | e | e <;> rw [e]
    · obtain ⟨n0, nl⟩ := hat.1 (by omega)
      rw [show k % 64 = Lib.bitLen (m 0) - 1 by omega]; exact bit_top _ (mlt 0 (by omega)) (by omega)
    · obtain ⟨n0, nl⟩ := hat.2.1 (by omega)
      rw [show k % 64 = Lib.bitLen (m 1) - 1 by omega]; exact bit_top _ (mlt 1 (by omega)) (by omega)
    · obtain ⟨n0, nl⟩ := hat.2.2.1 (by omega)
      rw [show k % 64 = Lib.bitLen (m 2) - 1 by omega]; exact bit_top _ (mlt 2 (by omega)) (by omega)
    · obtain ⟨n0, nl⟩ := hat.2.2.2 (by omega)
      rw [show k % 64 = Lib.bitLen (m 3) - 1 by omega]; exact bit_top _ (mlt 3 (by omega)) (by omega)

/-- The highest level that has one. -/
def Best (R : List (Nat × Nat)) (lv : Nat) : Prop := lv < 256 ∧ QL R lv ≠ [] ∧ ∀ k, k < 256 → lv < k → QL R k = []

theorem hi_best {n : Nat} {F L m : Nat → Nat} {c : Nat} {A B V : Nat → Nat} {T : Nat → Bool} {R : List (Nat × Nat)} (h : Inv n F L m c A B V T R) {lv : Nat} (hb : Best R lv) : hiBit (m 0) (m 1) (m 2) (m 3) = (lv : Int) := by
  obtain ⟨h1, h2, h3⟩ := hb
  obtain ⟨g1, g2⟩ := hi_bits m h.mlt
  have hbd := hi_bd (m 0) (m 1) (m 2) (m 3) (w64_nat _ (h.mlt 0 (by omega))) (w64_nat _ (h.mlt 1 (by omega))) (w64_nat _ (h.mlt 2 (by omega))) (w64_nat _ (h.mlt 3 (by omega)))
  have hle := g1 lv h1 (by rw [h.bit lv h1]; cases hq : QL R lv with | nil => exact absurd hq h2 | cons x xs => rfl)
  apply Classical.byContradiction
  intro hne
  obtain ⟨k, hk⟩ : ∃ k : Nat, hiBit (m 0) (m 1) (m 2) (m 3) = (k : Int) := ⟨(hiBit (m 0) (m 1) (m 2) (m 3)).toNat, by omega⟩
  have hb := g2 k (by omega) hk
  rw [h.bit k (by omega), h3 k (by omega) (by omega)] at hb
  simp at hb
theorem hi_nobody {n : Nat} {F L m : Nat → Nat} {c : Nat} {A B V : Nat → Nat} {T : Nat → Bool} (h : Inv n F L m c A B V T []) : hiBit (m 0) (m 1) (m 2) (m 3) = -1 := by
  obtain ⟨g1, g2⟩ := hi_bits m h.mlt
  have hbd := hi_bd (m 0) (m 1) (m 2) (m 3) (w64_nat _ (h.mlt 0 (by omega))) (w64_nat _ (h.mlt 1 (by omega))) (w64_nat _ (h.mlt 2 (by omega))) (w64_nat _ (h.mlt 3 (by omega)))
  apply Classical.byContradiction
  intro hne
  obtain ⟨k, hk⟩ : ∃ k : Nat, hiBit (m 0) (m 1) (m 2) (m 3) = (k : Int) := ⟨(hiBit (m 0) (m 1) (m 2) (m 3)).toNat, by omega⟩
  have hb := g2 k (by omega) hk
  rw [h.bit k (by omega)] at hb
  simp [QL] at hb

section
variable {w : World} {b g n : Nat} {F L : Nat → Nat} {M : Nat → Int} {c : Nat} {A B V : Nat → Nat} {T : Nat → Bool}
theorem mask_rep (h : Rep w b g n F L M c A B V T) :
    Calls Try.prog 76 #[.pointer (some ⟨b, 0, none⟩)] w fun e w' => e = .returned (.agg #[.int .u64 (M 0), .int .u64 (M 1), .int .u64 (M 2), .int .u64 (M 3)]) ∧ ∃ d : Array Value, w' = w.alloc (.cells d 85) := by
  have e0 : w.cell? ⟨b, 512, none⟩ = some (.int .u64 (M 0)) := h.msk 0 (by omega)
  have e1 : w.cell? ⟨b, 513, none⟩ = some (.int .u64 (M 1)) := h.msk 1 (by omega)
  have e2 : w.cell? ⟨b, 514, none⟩ = some (.int .u64 (M 2)) := h.msk 2 (by omega)
  have e3 : w.cell? ⟨b, 515, none⟩ = some (.int .u64 (M 3)) := h.msk 3 (by omega)
  have zb := h.lt_b
  have yb : ¬ b = w.heap.size := by omega
  clear h
  go_enter Try.func76, Try.ntmps76
  go_wp2
  simp [bodyPost, results, Try.results76, go_sem]
  exact ⟨_, rfl⟩
theorem len_rep (h : Rep w b g n F L M c A B V T) :
    Calls Try.prog 38 #[.pointer (some ⟨b, 0, none⟩)] w fun e w' => e = .returned (.int .i64 c) ∧ w' = w := by
  have e0 := h.cn
  clear h
  go_enter Try.func38, Try.ntmps38
  go_wp2
  go_ret
  exact ⟨rfl, rfl⟩
theorem may_yes (h : Rep w b g n F L M c A B V T) (id : Nat) (hn : n ≤ 1024) (hid : id < n) :
    Calls Try.prog 68 #[.pointer (some ⟨b, 0, none⟩), .int .i64 id] w fun e w' => e = .returned (.bool true) ∧ w' = w := by
  obtain ⟨cp, e0⟩ := h.sl
  clear h
  go_enter Try.func68, Try.ntmps68
  go_wp2
  go_ret
  exact ⟨by simp, rfl⟩
end
end Go.Proofs.Ytbefehoegmmgpaa.Bq
