/- slices.Sort of at most twelve times: its own call. -/
import Derived.Test.YtjmbadadelelfaaWb1
namespace Go.Proofs.Ytjmbadadelelfaa
open Go.RowKit
set_option linter.unusedVariables false
set_option linter.unusedSimpArgs false
attribute [local go_sem ↓] Go.wp_at_zero Go.wp_at_succ
set_option maxRecDepth 100000 in
set_option maxHeartbeats 4000000 in
theorem len64_ok (x : Int) (h0 : 0 ≤ x) (h : x ≤ 12) (W : World) : Calls Try.prog 76 #[.int .u64 x] W fun e w' => (∃ q : Int, e = .returned (.int .i64 q)) ∧ w' = W := by
  have hx : x = 0 ∨ x = 1 ∨ x = 2 ∨ x = 3 ∨ x = 4 ∨ x = 5 ∨ x = 6 ∨ x = 7 ∨ x = 8 ∨ x = 9 ∨ x = 10 ∨ x = 11 ∨ x = 12 := by omega
  rcases hx with rfl | rfl | rfl | rfl | rfl | rfl | rfl | rfl | rfl | rfl | rfl | rfl | rfl <;>
  · go_enter Try.func76, Try.ntmps76
    go_wp2
    go_ret
    exact ⟨⟨_, rfl⟩, rfl⟩
set_option maxRecDepth 100000 in
theorem len_bits (x : Int) (h0 : 0 ≤ x) (h : x ≤ 12) (W : World) : Calls Try.prog 64 #[.int .u64 x] W fun e w' => (∃ q : Int, e = .returned (.int .i64 q)) ∧ w' = W := by
  have H := veil (len64_ok x h0 h)
  go_enter Try.func64, Try.ntmps64
  go_wp2_with (first
    | (go_at_call 76; refine (H.out _).mono ?_; rintro e w1 ⟨⟨q, rfl⟩, hw⟩; subst hw))
  go_ret
  exact ⟨⟨_, rfl⟩, rfl⟩
set_option maxRecDepth 100000 in
theorem sorts12 : Sorts 12 := by
  intro W r cap n D h hn hinj
  have HP := veil (fun q => pdq_ok W r cap n D q h hn hinj)
  have HB := veil (len_bits (n : Int) (by omega) (by omega))
  have hw : IntKind.u64.wrap (n : Int) = (n : Int) := by rw [IntKind.wrap_u64]; omega
  clear h hinj
  go_enter Try.func58, Try.ntmps58
  go_wp2_with (first
    | (go_at_call 64; refine (HB.out _).mono ?_; rintro e w1 ⟨⟨q, rfl⟩, hw⟩; replace hw := hw.symm; subst hw)
    | (go_at_call 63; refine (HP.out _).mono ?_; rintro e w2 ⟨rfl, hx⟩; have HX := veil hx; clear hx))
  go_end0
  exact ⟨rfl, HX.out⟩
set_option maxRecDepth 100000 in
theorem sort_nil (W : World) : Calls Try.prog 58 #[.slice none 0 0] W fun e w' => e = .returned (.tuple #[]) ∧ w' = W := by
  have HB := veil (len_bits 0 (by omega) (by omega))
  have HI : Hid (∀ W, Calls Try.prog 66 #[.slice none 0 0, .int .i64 0, .int .i64 0] W fun e w' => e = .returned (.tuple #[]) ∧ w' = W) := by
    show ∀ W, _
    intro W
    go_enter Try.func66, Try.ntmps66
    go_wp2
    go_loopw [6] (fun iv wr => iv = .int .i64 1 ∧ wr = W) (fun _ _ => 0)
    case atStart => exact ⟨rfl, rfl⟩
    case round =>
      obtain ⟨rfl, rfl⟩ := hrel
      go_wp2
      go_end0
      exact ⟨rfl, rfl⟩
  have HP : Hid (∀ q W, Calls Try.prog 63 #[.slice none 0 0, .int .i64 0, .int .i64 0, .int .i64 q] W fun e w' => e = .returned (.tuple #[]) ∧ w' = W) := by
    show ∀ q W, _
    intro q W
    go_enter Try.func63, Try.ntmps63
    go_wp2
    go_loopw [1, 2] (fun av bv wr => av = .int .i64 0 ∧ bv = .int .i64 0 ∧ wr = W) (fun _ _ _ => 0)
    case atStart => exact ⟨rfl, rfl, rfl⟩
    case round =>
      obtain ⟨rfl, rfl, rfl⟩ := hrel
      go_wp2_with (first
        | (go_at_call 66; refine (HI.out _).mono ?_; rintro e w1 ⟨rfl, hw⟩; replace hw := hw.symm; subst hw))
      simp [bodyPost, results, Try.results63, go_sem]
  go_enter Try.func58, Try.ntmps58
  go_wp2_with (first
    | (go_at_call 64; refine (HB.out _).mono ?_; rintro e w1 ⟨⟨q, rfl⟩, hw⟩; replace hw := hw.symm; subst hw)
    | (go_at_call 63; refine (HP.out _ _).mono ?_; rintro e w2 ⟨rfl, hw⟩; replace hw := hw.symm; subst hw))
  go_end0
  exact ⟨rfl, rfl⟩
end Go.Proofs.Ytjmbadadelelfaa
