/-
  age: AgeTop's walk.
-/
import Derived.Test.YtfbgnijjdkfbdaaA6
namespace Go.Proofs.Ytfbgnijjdkfbdaa
open Go.RowKit
set_option linter.unusedVariables false

set_option maxRecDepth 100000 in
set_option maxHeartbeats 4000000 in
theorem top_walk (b s q : Int) (w : World) (hb : Lv b) (hs : 0 ≤ s ∧ s < 4294967296) (hq : 0 ≤ q ∧ q < 4294967296) :
    Calls Try.prog 9 #[.int .u8 b, .int .u32 s, .int .u32 q] w fun e w' => e = .returned (.bool true) ∧ Below w.heap.size w w' := by
  have HV := veil (fun w => live_b w)
  have HG := veil lev_b
  have HL := veil level_b
  obtain ⟨s0, s1⟩ := hs
  obtain ⟨q0, q1⟩ := hq
  have hs : Tm s := ⟨by omega, by omega⟩
  have hp : Tm (q + 1) := ⟨by omega, by omega⟩
  have hn : Tm (s + 255 * (q + 1)) := ⟨by omega, by omega⟩
  have hM : Tm 18446744073709551615 := ⟨by omega, by omega⟩
  have e1 : levN b s (s + 255 * (q + 1)) (q + 1) = 255 := by
    rw [levN_steps b s (q + 1) 255 hb (by omega) (by omega), if_neg (by have := hb.1; omega)]
  have e2 : levN b s 18446744073709551615 (q + 1) = 255 := by
    have h1 := levN_mono b s (s + 255 * (q + 1)) 18446744073709551615 (q + 1) hb hp (by omega)
    have h2 := (levN_lv b s 18446744073709551615 (q + 1) hb hM hs hp).2
    omega
  have HN := veil (fun w => next_no b s (s + 255 * (q + 1)) (q + 1) w hb hs hn hp (.inr (.inl e1)))
  have HB0 : Hid (Below w.heap.size w (((w.alloc (.cells #[.int .u64 0] 22)).alloc (.cells #[.bool false] 4)).alloc (.cells #[] 38))) := (((Below.refl _ _).alloc (Nat.le_refl _) _).alloc (by simp) _).alloc (by simp; omega) _
  go_enter Try.func9, Try.ntmps9
  go_wp2_with first | (go_at_call 10; refine (HN.out _).mono ?_; rintro e w1 ⟨rfl, rfl⟩) | (go_at_call 12; refine (HV.out _).mono ?_; rintro e w1 ⟨rfl, hb1⟩; replace hb1 := kb HB0.out hb1; clear HB0; have HB0 := veil hb1; clear hb1) | (go_at_call 15; refine (HL.out _ _ _ _ _ (by assumption) (by assumption) (by assumption) (by assumption)).mono ?_; rintro e w1 ⟨rfl, hb1⟩; replace hb1 := kb HB0.out hb1; clear HB0; have HB0 := veil hb1; clear hb1)
  go_ret
  exact ⟨rfl, HB0.out⟩
end Go.Proofs.Ytfbgnijjdkfbdaa
