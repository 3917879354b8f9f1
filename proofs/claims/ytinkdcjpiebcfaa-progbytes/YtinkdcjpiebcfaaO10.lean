/-
  prog: what Next gives, held against each other; Check with a known answer.
-/
import Derived.Test.YtinkdcjpiebcfaaO9
namespace Go.Proofs.Ytinkdcjpiebcfaa
open Go.RowKit Go.Lib
set_option linter.unusedVariables false

theorem below_drewN {B : Nat} {w w' : World} (h : Below B w w') (q : Nat) : Below B w (w'.drewN q) := ⟨h.os, h.tape, h.output, h.size, h.block⟩
set_option maxHeartbeats 1000000 in
theorem same_walk (w : World) (ga gb len ca cb : Nat) (xs : Nat → Int) (hl : len ≤ 1024)
    (hca : ∀ j, j < len → w.cell? ⟨ga, j, none⟩ = some (.int .i64 (xs j))) (hcb : ∀ j, j < len → w.cell? ⟨gb, j, none⟩ = some (.int .i64 (xs j))) :
    Calls Try.prog 21 #[.slice (some ⟨ga, 0, none⟩) len ca, .slice (some ⟨gb, 0, none⟩) len cb] w fun e w' => e = .returned (.bool true) ∧ ∃ q, w' = w.drewN q := by
  have HA := veil hca
  have HB := veil hcb
  clear hca hcb
  go_enter Try.func21, Try.ntmps21
  go_wp2
  go_loopw [5] (fun i wr => ∃ j q : Nat, j ≤ len ∧ i = .int .i64 j ∧ wr = w.drewN q) (fun i _ => len - (intOf i).toNat)
  case atStart => exact ⟨0, 0, by omega, rfl, rfl⟩
  case round =>
    obtain ⟨j, q, hj, rfl, rfl⟩ := hrel
    by_cases hjl : j < len
    · have e1 := HA.out j hjl
      have e2 := HB.out j hjl
      go_wp2
      go_quiet (fail)
      go_wp2
      go_roundw
      case rel => exact ⟨j + 1, _, by omega, by go_num, rfl⟩
      case measure => simp [intOf]; omega
    · go_wp2
      go_ret
      exact ⟨rfl, _, rfl⟩
theorem same_empty (w : World) (a b : Option Addr) (ca cb : Nat) :
    Calls Try.prog 21 #[.slice a 0 ca, .slice b 0 cb] w fun e w' => e = .returned (.bool true) ∧ ∃ q, w' = w.drewN q := by
  go_enter Try.func21, Try.ntmps21
  go_wp2
  go_loopw [5] (fun i wr => i = .int .i64 0 ∧ wr = w) (fun i _ => 0)
  case atStart => exact ⟨rfl, rfl⟩
  case round =>
    obtain ⟨rfl, rfl⟩ := hrel
    go_wp2
    go_ret
    exact ⟨rfl, 0, rfl⟩
theorem Nx.below {w w' : World} {base : Nat} {v : Value} : ∀ {o : Option Int}, Nx w base v o → Below w.heap.size w w' → Nx w' base v o
  | none, h, _ => h
  | some x, ⟨b, h1, h2, h3, h4⟩, hb => ⟨b, h1, Nat.lt_of_lt_of_le h2 hb.size, h3, (hb.cell (p := ⟨b, 0, none⟩) h2).trans h4⟩
theorem same_nx (w : World) (b1 b2 : Nat) (v1 v2 : Value) : ∀ o : Option Int, Nx w b1 v1 o → Nx w b2 v2 o →
    Calls Try.prog 21 #[v1, v2] w fun e w' => e = .returned (.bool true) ∧ Below w.heap.size w w'
  | none, h1, h2 => by
    obtain rfl : v1 = .slice none 0 0 := h1
    obtain rfl : v2 = .slice none 0 0 := h2
    exact (same_empty w none none 0 0).mono fun e w' ⟨he, q, hw⟩ => ⟨he, by rw [hw]; exact below_drewN (Below.refl _ _) q⟩
  | some x, ⟨p1, _, _, h3, h4⟩, ⟨p2, _, _, g3, g4⟩ => by
    subst h3 g3
    refine (same_walk w p1 p2 1 1 1 (fun _ => x) (by omega) (fun j hj => ?_) (fun j hj => ?_)).mono fun e w' ⟨he, q, hw⟩ => ⟨he, by rw [hw]; exact below_drewN (Below.refl _ _) q⟩
    · obtain rfl : j = 0 := by omega
      exact h4
    · obtain rfl : j = 0 := by omega
      exact g4

theorem check_known (w : World) (a : Option Addr) (len cap : Nat) (hlen : len < 9223372036854775808) (O R : Nat → Int) (hp : Prg w a len O R) (x y : Int) (h : Chk len O R x y) :
    Calls Try.prog 13 #[.slice a len cap] w fun e w' => e = .returned (.tuple #[.int .i64 x, .int .i64 y]) ∧ Below w.heap.size w w' :=
  (check_ok w a len cap hlen O R hp).mono fun e w' ⟨x', y', he, hc, hb⟩ => by
    obtain ⟨rfl, rfl⟩ := h.one hc
    exact ⟨he, hb⟩
theorem rcheck_known (w : World) (a : Option Addr) (len cap : Nat) (hlen : len < 9223372036854775808) (O R : Nat → Int) (hp : Prg w a len O R) (x y : Int) (h : Chk len O R x y) :
    Calls Try.prog 14 #[.slice a len cap] w fun e w' => e = .returned (.tuple #[.int .i64 x, .int .i64 y]) ∧ Below w.heap.size w w' :=
  (rcheck_ok w a len cap hlen O R hp).mono fun e w' ⟨x', y', he, hc, hb⟩ => by
    obtain ⟨rfl, rfl⟩ := h.one hc
    exact ⟨he, hb⟩
theorem first_bad (f : Nat → Bool) : ∀ n, (∀ i, i < n → f i = true) ∨ ∃ j, j < n ∧ (∀ i, i < j → f i = true) ∧ f j = false
  | 0 => .inl (fun i hi => by omega)
  | n + 1 => by
    rcases first_bad f n with h | ⟨j, h1, h2, h3⟩
    · cases hk : f n with
      | true =>
        refine .inl (fun i hi => ?_)
        by_cases q : i = n
        · rw [q]; exact hk
        · exact h i (by omega)
      | false => exact .inr ⟨n, by omega, h, hk⟩
    · exact .inr ⟨j, by omega, h2, h3⟩
/-- Check has an answer. -/
theorem chk_total (len : Nat) (O R : Nat → Int) : ∃ x y, Chk len O R x y := by
  by_cases h1 : len < 1 ∨ 64 < len
  · exact ⟨3, 0, .inl ⟨h1, rfl, rfl⟩⟩
  · rcases first_bad (fun i => okI len (O i) (R i)) len with h2 | ⟨j, hj, h2, h3⟩
    · by_cases h3 : O (len - 1) = 8 ∨ O (len - 1) = 9
      · exact ⟨0, 0, .inr (.inr (.inr ⟨by omega, by omega, h2, h3, rfl, rfl⟩))⟩
      · exact ⟨3, _, .inr (.inr (.inl ⟨by omega, by omega, h2, fun q => h3 (.inl q), fun q => h3 (.inr q), rfl, rfl⟩))⟩
    · exact ⟨3, _, .inr (.inl ⟨by omega, by omega, j, hj, h2, h3, rfl, rfl⟩)⟩
end Go.Proofs.Ytinkdcjpiebcfaa
