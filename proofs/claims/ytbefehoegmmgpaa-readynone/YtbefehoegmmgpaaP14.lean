/-
  The order of nodes; join of any two trees, whichever comes to the top.
-/
import Derived.Test.YtbefehoegmmgpaaP13
import Derived.Test.YtbefehoegmmgpaaP11
namespace Go.Proofs.Ytbefehoegmmgpaa.Ph
open Go.RowKit

/-- a may stand above b: b is not before it. -/
def Le (D S I : Nat → Nat) (a b : Nat) : Prop := bef (D b) (S b) (I b) (D a) (S a) (I a) = false
theorem le_iff {D S I : Nat → Nat} {a b : Nat} : Le D S I a b ↔ D a < D b ∨ (D a = D b ∧ (S a < S b ∨ (S a = S b ∧ I a ≤ I b))) := by
  rw [Le, bef]
  by_cases h1 : D b = D a
  · rw [if_pos h1]
    by_cases h2 : S b = S a
    · rw [if_pos h2, decide_eq_false_iff_not]; omega
    · rw [if_neg h2, decide_eq_false_iff_not]; omega
  · rw [if_neg h1, decide_eq_false_iff_not]; omega
theorem le_trans {D S I : Nat → Nat} (a b c : Nat) (h1 : Le D S I a b) (h2 : Le D S I b c) : Le D S I a c := by
  rw [le_iff] at *; omega
theorem le_of_before {D S I : Nat → Nat} {a b : Nat} (h : bef (D a) (S a) (I a) (D b) (S b) (I b) = true) : Le D S I a b := by
  rw [le_iff]
  rw [bef] at h
  by_cases h1 : D a = D b
  · rw [if_pos h1] at h
    by_cases h2 : S a = S b
    · rw [if_pos h2, decide_eq_true_eq] at h; omega
    · rw [if_neg h2, decide_eq_true_eq] at h; omega
  · rw [if_neg h1, decide_eq_true_eq] at h; omega

section
variable {w : World} {b g n rt ct : Nat} {D S I C A B : Nat → Nat} {T : Nat → Bool}
theorem join_any (h : Rep w b g n rt ct D S I C A B T) (p q : Nat) (hp : 1 ≤ p) (hpn : p ≤ n) (hq : 1 ≤ q) (hqn : q ≤ n) (hf : C p ≤ n) (hg : C q ≤ n) (hfq : C p ≠ q) (hgp : C q ≠ p) :
    Calls Try.prog 79 #[.pointer (some ⟨b, 0, none⟩), .int .i64 p, .int .i64 q] w fun e w' => ∃ u v : Nat, ((u = p ∧ v = q) ∨ (u = q ∧ v = p)) ∧ Le D S I u v ∧ e = .returned (.int .i64 u) ∧
      Rep w' b g n rt ct D S I (joC C u v) (joA C A u v) (joB C B u v) T ∧ Only b g w w' := by
  cases hb : bef (D q) (S q) (I q) (D p) (S p) (I p) with
  | false =>
    refine (join_keep h p q hp hpn hq hqn hf hfq hb).mono ?_
    rintro e w' ⟨he, hr, ho⟩
    exact ⟨p, q, .inl ⟨rfl, rfl⟩, hb, he, hr, ho⟩
  | true =>
    refine (join_swap h q p hq hqn hp hpn hg hgp hb).mono ?_
    rintro e w' ⟨he, hr, ho⟩
    exact ⟨q, p, .inr ⟨rfl, rfl⟩, le_of_before hb, he, hr, ho⟩
end
end Go.Proofs.Ytbefehoegmmgpaa.Ph
