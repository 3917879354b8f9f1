/-
  prog: what Next gives, held against each other; Check with a known answer.
-/
import Derived.Test.YtnnpbbiiapipaaaO9
namespace Go.Proofs.Ytnnpbbiiapipaaa
open Go.RowKit Go.Lib
set_option linter.unusedVariables false

theorem below_drewN {B : Nat} {w w' : World} (h : Below B w w') (q : Nat) : Below B w (w'.drewN q) := ⟨h.os, h.tape, h.output, h.size, h.block⟩
theorem Nx.below {w w' : World} {base : Nat} {v : Value} : ∀ {o : Option Int}, Nx w base v o → Below w.heap.size w w' → Nx w' base v o
  | none, h, _ => h
  | some x, ⟨b, h1, h2, h3, h4⟩, hb => ⟨b, h1, Nat.lt_of_lt_of_le h2 hb.size, h3, (hb.cell (p := ⟨b, 0, none⟩) h2).trans h4⟩
theorem check_known (w : World) (a : Option Addr) (len cap : Nat) (hlen : len < 9223372036854775808) (O R : Nat → Int) (hp : Prg w a len O R) (x y : Int) (h : Chk len O R x y) :
    Calls Try.prog 25 #[.slice a len cap] w fun e w' => e = .returned (.tuple #[.int .i64 x, .int .i64 y]) ∧ Below w.heap.size w w' :=
  (check_ok w a len cap hlen O R hp).mono fun e w' ⟨x', y', he, hc, hb⟩ => by
    obtain ⟨rfl, rfl⟩ := h.one hc
    exact ⟨he, hb⟩
theorem rcheck_known (w : World) (a : Option Addr) (len cap : Nat) (hlen : len < 9223372036854775808) (O R : Nat → Int) (hp : Prg w a len O R) (x y : Int) (h : Chk len O R x y) :
    Calls Try.prog 27 #[.slice a len cap] w fun e w' => e = .returned (.tuple #[.int .i64 x, .int .i64 y]) ∧ Below w.heap.size w w' :=
  (rcheck_ok w a len cap hlen O R hp).mono fun e w' ⟨x', y', he, hc, hb⟩ => by
    obtain ⟨rfl, rfl⟩ := h.one hc
    exact ⟨he, hb⟩
theorem first_bad (f : Nat → Bool) : ∀ n, (∀ i, i < n → f i = true) ∨ ∃ j, j < n ∧ (∀ i, i < j → f i = true) ∧ f j = false
  | 0 => .inl (fun i hi => by omega)
  | n + 1 => by
    rcases first_bad f n with h | ⟨j, h1, h2, h3⟩
    · cases hk : f n with
      | true =>
        refine .inl (fun i hi => ?_)
        by_cases q : i = n
        · rw [q]; exact hk
        · exact h i (by omega)
      | false => exact .inr ⟨n, by omega, h, hk⟩
    · exact .inr ⟨j, by omega, h2, h3⟩
/-- Check has an answer. -/
theorem chk_total (len : Nat) (O R : Nat → Int) : ∃ x y, Chk len O R x y := by
  by_cases h1 : len < 1 ∨ 64 < len
  · exact ⟨3, 0, .inl ⟨h1, rfl, rfl⟩⟩
  · rcases first_bad (fun i => okI len (O i) (R i)) len with h2 | ⟨j, hj, h2, h3⟩
    · by_cases h3 : O (len - 1) = 8 ∨ O (len - 1) = 9
      · exact ⟨0, 0, .inr (.inr (.inr ⟨by omega, by omega, h2, h3, rfl, rfl⟩))⟩
      · exact ⟨3, _, .inr (.inr (.inl ⟨by omega, by omega, h2, fun q => h3 (.inl q), fun q => h3 (.inr q), rfl, rfl⟩))⟩
    · exact ⟨3, _, .inr (.inl ⟨by omega, by omega, j, hj, h2, h3, rfl, rfl⟩)⟩
end Go.Proofs.Ytnnpbbiiapipaaa
