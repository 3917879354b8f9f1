/-
  age: the document's Next.
-/
import Derived.Test.YtfbgnijjdkfbdaaA6
namespace Go.Proofs.Ytfbgnijjdkfbdaa
open Go.RowKit
set_option linter.unusedVariables false

theorem lev_at (b s p k : Int) (hb : Lv b) (hp : 0 < p) (hk : 0 ≤ k) : levN b s (s + k * p) p = if b + k < 255 then b + k else 255 := levN_steps b s p k hb hp hk

theorem wrapU (x : Int) (h0 : 0 ≤ x) (h1 : x ≤ 18446744073709551615) : IntKind.u64.wrap x = x := by
  simp [IntKind.wrap, IntKind.bits, IntKind.signed]
  omega
theorem over_ne (k p : Int) (h0 : 0 ≤ k) (hp : 0 < p) (h : 18446744073709551615 < k * p) : ¬ IntKind.u64.wrap ((IntKind.u64.wrap (k * p)).tdiv p) = k := by
  have e : IntKind.u64.wrap (k * p) = k * p % 18446744073709551616 := by simp [IntKind.wrap, IntKind.bits, IntKind.signed]
  have h2 : 0 ≤ k * p % 18446744073709551616 := Int.emod_nonneg _ (by decide)
  have h3 : k * p % 18446744073709551616 < 18446744073709551616 := Int.emod_lt_of_pos _ (by decide)
  rw [e, Int.tdiv_eq_ediv_of_nonneg h2]
  generalize k * p % 18446744073709551616 = x at *
  obtain ⟨q0, q1⟩ := quo_bd x p h2 (by omega) (by omega)
  rw [wrapU _ q0 q1]
  intro q
  have h4 := Int.ediv_mul_le x (show p ≠ 0 by omega)
  rw [q] at h4
  omega
set_option maxRecDepth 100000 in
set_option maxHeartbeats 2000000 in
theorem rnext_ok (b s n p : Int) (w : World) (hb : Lv b) (hs : Tm s) (hn : Tm n) (hp : Tm p) :
    Calls Try.prog 11 #[.int .u8 b, .int .u64 s, .int .u64 n, .int .u64 p] w fun e w' => (e = .returned (.tuple #[.int .u64 (if Never b s n p then 0 else fromN s n + restN s n p), .bool (!decide (Never b s n p))])) ∧ w' = w := by
  have HL := veil rlevel_ok
  obtain ⟨s0, s1⟩ := id hs
  obtain ⟨n0, n1⟩ := id hn
  obtain ⟨p0, p1⟩ := id hp
  by_cases hp0 : p = 0
  · have hN : Never b s n p := .inl hp0
    rw [if_pos hN, decide_eq_true hN]
    subst hp0
    go_enter Try.func11, Try.ntmps11
    go_wp2_with (go_at_call 14; refine (HL.out _ _ _ _ _ (by assumption) (by assumption) (by assumption) (by assumption)).mono ?_; rintro e w1 ⟨rfl, hw⟩; replace hw := hw.symm; subst hw)
    go_ret2
    exact ⟨rfl, rfl⟩
  have hp1 : 0 < p := by omega
  have hpb : (p == 0) = false := by simp [hp0]
  by_cases hl : levN b s n p = 255
  · have hN : Never b s n p := .inr (.inl hl)
    rw [if_pos hN, decide_eq_true hN]
    have hlb : (levN b s n p == 255) = true := by simp [hl]
    go_enter Try.func11, Try.ntmps11
    go_wp2_with (go_at_call 14; refine (HL.out _ _ _ _ _ (by assumption) (by assumption) (by assumption) (by assumption)).mono ?_; rintro e w1 ⟨rfl, hw⟩; replace hw := hw.symm; subst hw)
    go_ret2
    exact ⟨rfl, rfl⟩
  have hlb : (levN b s n p == 255) = false := by simp [hl]
  have hlv := levN_lv b s n p hb hn hs hp
  have hx := subN_bd n s n0 n1 s0
  have hr0 := Int.ediv_nonneg hx.1 p0
  have hre := rise_eq s n p hp1
  have hlr : levN b s n p = b + subN n s / p ∧ subN n s / p < 255 - b := by
    unfold levN at hl ⊢
    rw [if_neg hp0] at hl ⊢
    split at hl
    · rename_i h; rw [if_pos h]; exact ⟨rfl, h⟩
    · exact absurd rfl hl
  have hNe : Never b s n p ↔ 18446744073709551615 - s < (subN n s / p + 1) * p := by
    unfold Never
    constructor
    · rintro (h | h | h)
      · exact absurd h hp0
      · exact absurd h hl
      · omega
    · intro h; exact .inr (.inr (by omega))
  have hgt : ∀ k : Int, 0 ≤ k → k ≤ subN n s / p → ¬ (n < s + k * p ∧ levN b s n p < levN b s (s + k * p) p) := by
    intro k hk0 hk ⟨h1, h2⟩
    have : levN b s (s + k * p) p ≤ levN b s n p := by
      rw [lev_at b s p k hb hp1 hk0]
      split <;> omega
    omega
  have hlt : n < s + (subN n s / p + 1) * p ∧ levN b s n p < levN b s (s + (subN n s / p + 1) * p) p := by
    constructor
    · have h1 := Int.lt_ediv_add_one_mul_self (subN n s) hp1
      generalize (subN n s / p + 1) * p = z at *
      unfold subN at h1
      split at h1 <;> omega
    · rw [lev_at b s p _ hb hp1 (by omega)]
      split <;> omega
  have ht : (if Never b s n p then (0 : Int) else fromN s n + restN s n p) = if 18446744073709551615 - s < (subN n s / p + 1) * p then 0 else s + (subN n s / p + 1) * p := by
    rw [hre]
    by_cases h : Never b s n p
    · rw [if_pos h, if_pos (hNe.1 h)]
    · rw [if_neg h, if_neg (fun e => h (hNe.2 e))]
  have hd : decide (Never b s n p) = decide (18446744073709551615 - s < (subN n s / p + 1) * p) := by simp only [hNe]
  rw [ht, hd]
  have hrr : subN n s / p < 255 := by have := hb.1; omega
  clear ht hd hNe hre hl
  generalize hR : subN n s / p = r at *
  have HGT := veil hgt
  have HLT := veil hlt
  have HLR := veil hlr
  clear hgt hlt hlr hR
  generalize hV : levN b s n p = v at *
  have HHV := veil hV
  clear hV hx
  obtain ⟨v0, v1⟩ := id hlv
  go_enter Try.func11, Try.ntmps11
  go_wp2_with (go_at_call 14; refine (HL.out _ _ _ _ _ (by assumption) (by assumption) (by assumption) (by assumption)).mono ?_; rw [HHV.out]; rintro e w1 ⟨rfl, hw⟩; replace hw := hw.symm; subst hw)
  go_loopw [11] (fun i wr => wr = w ∧ ∃ k : Nat, i = .int .u64 (k : Int) ∧ 1 ≤ k ∧ (k : Int) ≤ r + 1) (fun i _ => 300 - (intOf i).toNat)
  case atStart => exact ⟨rfl, 1, rfl, by omega, by omega⟩
  case round =>
    obtain ⟨rfl, k, rfl, k1, k2⟩ := hrel
    have k3 : (k : Int) ≤ 256 := by omega
    have hm0 : 0 ≤ (k : Int) * p := Int.mul_nonneg (by omega) p0
    have hdiv : (k : Int) * p / p = (k : Int) := Int.mul_ediv_cancel _ hp0
    by_cases hov : 18446744073709551615 < (k : Int) * p
    · have hN : 18446744073709551615 - s < (r + 1) * p := by
        have : (k : Int) * p ≤ (r + 1) * p := Int.mul_le_mul_of_nonneg_right k2 p0
        omega
      have hne := over_ne (k : Int) p (by omega) hp1 hov
      go_wp2
      go_ret2
      refine ⟨?_, rfl⟩
      simp 
    · have w1 := wrapU ((k : Int) * p) hm0 (by omega)
      have w2 : IntKind.u64.wrap (((k : Int) * p).tdiv p) = (k : Int) := by rw [Int.tdiv_eq_ediv_of_nonneg hm0, hdiv]; exact wrapU _ (by omega) (by omega)
      by_cases hex : 18446744073709551615 - s < (k : Int) * p
      · have hN : 18446744073709551615 - s < (r + 1) * p := by
          have : (k : Int) * p ≤ (r + 1) * p := Int.mul_le_mul_of_nonneg_right k2 p0
          omega
        go_wp2
        go_ret2
        refine ⟨?_, rfl⟩
        simp 
      · by_cases hk : (k : Int) = r + 1
        · have w3 := wrapU (s + (k : Int) * p) (by omega) (by omega)
          obtain ⟨t1, t2⟩ : n < s + (k : Int) * p ∧ v < levN b s (s + (k : Int) * p) p := by rw [hk]; exact HLT.out
          have hT : Tm (s + (k : Int) * p) := ⟨by omega, by omega⟩
          have hN : ¬ 18446744073709551615 - s < (r + 1) * p := by rw [← hk]; exact hex
          have HK := veil hk
          clear hk
          go_wp2_with (go_at_call 14; refine (HL.out _ _ _ _ _ (by assumption) (by assumption) (by assumption) (by assumption)).mono ?_; rintro e w1 ⟨rfl, hw⟩; replace hw := hw.symm; subst hw)
          go_ret2
          refine ⟨?_, rfl⟩
          simp [HK.out]
        · have w3 := wrapU (s + (k : Int) * p) (by omega) (by omega)
          have hT : Tm (s + (k : Int) * p) := ⟨by omega, by omega⟩
          have hno := HGT.out (k : Int) (by omega) (by omega)
          by_cases t1 : n < s + (k : Int) * p
          · have t2 : ¬ v < levN b s (s + (k : Int) * p) p := fun q => hno ⟨t1, q⟩
            go_wp2_with (go_at_call 14; refine (HL.out _ _ _ _ _ (by assumption) (by assumption) (by assumption) (by assumption)).mono ?_; rintro e w1 ⟨rfl, hw⟩; replace hw := hw.symm; subst hw)
            go_roundw
            case rel => exact ⟨trivial, k + 1, by go_num, by omega, by omega⟩
            case measure => simp [intOf]; omega
          · go_wp2
            go_roundw
            case rel => exact ⟨trivial, k + 1, by go_num, by omega, by omega⟩
            case measure => simp [intOf]; omega
end Go.Proofs.Ytfbgnijjdkfbdaa
