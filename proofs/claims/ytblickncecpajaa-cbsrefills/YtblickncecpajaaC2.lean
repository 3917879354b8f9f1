/- The program's small calls. -/
import Derived.Test.YtblickncecpajaaC1
import Derived.Lib.BitFns
namespace Go.Proofs.Ytblickncecpajaa
open Go.RowKit Go.Lib
set_option linter.unusedVariables false

theorem wrapU (z : Int) (h0 : 0 ≤ z) (h1 : z < 18446744073709551616) : IntKind.u64.wrap z = z := by
  unfold IntKind.wrap
  simp [IntKind.bits, IntKind.signed]
  omega
def rightB (b p : Nat) : Bool := decide (1 ≤ b ∧ b ≤ p ∧ 232792560 % p = 0)
theorem right_ok (w : World) (b p : Nat) : Calls Try.prog 35 #[.agg #[.int .u64 (b : Int), .int .u64 (p : Int)]] w fun e w' => e = .returned (.bool (rightB b p)) ∧ ∃ c, w' = w.alloc (.cells c 67) := by
  unfold rightB
  by_cases h1 : 1 ≤ b
  · have g1 : (1 : Int) ≤ (b : Int) := by omega
    by_cases h2 : b ≤ p
    · have g2 : (b : Int) ≤ (p : Int) := by omega
      have g3 : ¬ (p : Int) = 0 := by omega
      have g4 : ((232792560 % (p : Int)) == 0) = decide (232792560 % p = 0) := by
        have e : ((232792560 % p : Nat) : Int) = 232792560 % (p : Int) := by simp
        rw [Bool.eq_iff_iff, beq_iff_eq, decide_eq_true_iff, ← e, Int.natCast_eq_zero]
      go_enter Try.func35, Try.ntmps35
      go_wp2
      go_ret
      exact ⟨by simp [h1, h2], _, rfl⟩
    · have g2 : ¬ (b : Int) ≤ (p : Int) := by omega
      go_enter Try.func35, Try.ntmps35
      go_wp2
      go_ret
      exact ⟨by simp , _, rfl⟩
  · have g1 : ¬ (1 : Int) ≤ (b : Int) := by omega
    go_enter Try.func35, Try.ntmps35
    go_wp2
    go_ret
    exact ⟨by simp , _, rfl⟩
theorem asks_ok (w : World) (x : Srv) (hx : x.ok) : Calls Try.prog 36 #[.agg #[.int .u64 (x.b : Int), .int .u64 (x.p : Int)]] w fun e w' => e = .returned (.int .u64 (asks x : Int)) ∧ ∃ c, w' = (w.alloc (.cells c 67)).drew := by
  have g3 : ¬ (x.p : Int) = 0 := by have := hx.pos; omega
  have g5 : ¬ x.p = 0 := by have := hx.pos; omega
  have g4 : IntKind.u64.wrap ((x.b : Int) * IntKind.u64.wrap (Int.tdiv 232792560 (x.p : Int))) = (asks x : Int) := by
    have h := asks_le hx
    have e1 : Int.tdiv 232792560 (x.p : Int) = ((232792560 / x.p : Nat) : Int) := by rw [Int.tdiv_eq_ediv_of_nonneg (by decide)]; simp
    have e2 : 232792560 / x.p ≤ 232792560 := Nat.div_le_self _ _
    have e3 : IntKind.u64.wrap ((232792560 / x.p : Nat) : Int) = ((232792560 / x.p : Nat) : Int) := by
      generalize 232792560 / x.p = q at e2
      exact wrapU _ (by omega) (by omega)
    have e : (asks x : Int) = (x.b : Int) * ((232792560 / x.p : Nat) : Int) := by unfold asks; simp
    rw [e1, e3, ← e]
    exact wrapU _ (by omega) (by omega)
  go_enter Try.func36, Try.ntmps36
  go_wp2
  go_region_held3 (fun w' => w'.cell? ⟨w.heap.size, 0, none⟩ = some (.int .u64 (x.b : Int)) ∧ w'.cell? ⟨w.heap.size, 1, none⟩ = some (.int .u64 (x.p : Int)))
    (simp [go_sem])
    (first | fail)
  go_wp2
  go_ret
  exact ⟨by simp, _, rfl⟩
theorem new_ok (w : World) (P : Nat) (h1 : 1 ≤ P) (h2 : P ≤ 64) : Calls Try.prog 13 #[.int .i64 (P : Int)] w fun e w' => e = .returned (.pointer (some ⟨w.heap.size, 0, none⟩)) ∧ w' = w.alloc (.cells #[.int .u64 (P : Int), .slice none 0 0] 65) := by
  have g1 : ¬ (P : Int) < 1 := by omega
  have g2 : ¬ (64 : Int) < (P : Int) := by omega
  have g3 : (P : Int) % 18446744073709551616 = P := by omega
  go_enter Try.func13, Try.ntmps13
  go_wp2
  go_ret
  exact ⟨rfl, rfl⟩
theorem over_ok (w : World) (x : Srv) (now : Nat) : Calls Try.prog 38 #[.agg #[.int .u64 (x.b : Int), .int .u64 (x.p : Int), .int .u64 (x.l : Int), .int .u64 (x.d : Int)], .int .u64 (now : Int)] w fun e w' => e = .returned (.bool (decide (x.d ≤ now))) ∧ ∃ c, w' = w.alloc (.cells c 69) := by
  go_enter Try.func38, Try.ntmps38
  go_wp2
  go_ret
  exact ⟨by simp, _, rfl⟩
theorem sleeps_ok (w : World) (x : Srv) : Calls Try.prog 51 #[.agg #[.int .u64 (x.b : Int), .int .u64 (x.p : Int), .int .u64 (x.l : Int), .int .u64 (x.d : Int)]] w fun e w' => e = .returned (.bool (x.d == 0)) ∧ ∃ c, w' = w.alloc (.cells c 69) := by
  go_enter Try.func51, Try.ntmps51
  go_wp2
  go_ret
  refine ⟨?_, _, rfl⟩
  have h : (((x.d : Nat) : Int) == 0) = (x.d == 0) := by rw [Bool.eq_iff_iff]; simp
  simp [h]
end Go.Proofs.Ytblickncecpajaa
