/-
  The places that are given out, counted; a slice of ids that was answered.
-/
import Derived.Test.YtfhnepoegdhjmaaDoorT14
namespace Go.Proofs.YtfhnepoegdhjmaaDoor
open Go.RowKit Go.Lib
set_option linter.unusedVariables false

theorem pl_congr {S S' : Nat → Nat} {fr : Bool} {n : Nat} : ∀ k, (∀ j, j < k → (S j == 0) = (S' j == 0)) → pl S fr n k = pl S' fr n k
  | 0, _ => rfl
  | k + 1, h => by
    rw [pl, pl, pl_congr k (fun j hj => h j (by omega)), h k (by omega)]
theorem pl_drop {S : Nat → Nat} {n x : Nat} (hx : S x ≠ 0) : ∀ k, k ≤ n → x < k → (pl (upd S x 0) false n k).length + 1 = (pl S false n k).length
  | 0, _, h => by omega
  | k + 1, hk, h => by
    by_cases e : x = k
    · subst e
      rw [pl_no (S := upd S x 0) (by rw [upd_same]; simp), pl_yes (S := S) (by omega) (by simpa using hx)]
      rw [pl_congr (S' := S) x (fun j hj => by rw [upd_other _ _ _ _ (by omega)])]
      simp
    · have ih := pl_drop (n := n) hx k (by omega) (by omega)
      by_cases hs : (S k == 0) = false
      · rw [pl_yes (S := upd S x 0) (by omega) (by rw [upd_other _ _ _ _ (fun q => e q.symm)]; exact hs), pl_yes (S := S) (by omega) hs]
        simp
        omega
      · rw [pl_no (S := upd S x 0) (by rw [upd_other _ _ _ _ (fun q => e q.symm)]; exact hs), pl_no (S := S) hs]
        exact ih
theorem pl_add {S : Nat → Nat} {n x v : Nat} (hx : S x = 0) (hv : v ≠ 0) : ∀ k, k ≤ n → x < k → (pl (upd S x v) false n k).length = (pl S false n k).length + 1
  | 0, _, h => by omega
  | k + 1, hk, h => by
    by_cases e : x = k
    · subst e
      rw [pl_yes (S := upd S x v) (by omega) (by rw [upd_same]; simpa using hv), pl_no (S := S) (by simp [hx])]
      rw [pl_congr (S' := S) x (fun j hj => by rw [upd_other _ _ _ _ (by omega)])]
      simp
    · have ih := pl_add (n := n) hx hv k (by omega) (by omega)
      by_cases hs : (S k == 0) = false
      · rw [pl_yes (S := upd S x v) (by omega) (by rw [upd_other _ _ _ _ (fun q => e q.symm)]; exact hs), pl_yes (S := S) (by omega) hs]
        simp
        omega
      · rw [pl_no (S := upd S x v) (by rw [upd_other _ _ _ _ (fun q => e q.symm)]; exact hs), pl_no (S := S) hs]
        exact ih
theorem pl_all {S : Nat → Nat} {n : Nat} : ∀ k, k ≤ n → (∀ j, j < k → S j ≠ 0) → (pl S false n k).length = k
  | 0, _, _ => rfl
  | k + 1, hk, h => by
    rw [pl_yes (by omega) (by simpa using h k (by omega)), List.length_append, pl_all k (by omega) (fun j hj => h j (by omega))]
    rfl
theorem pl_below {S : Nat → Nat} {fr : Bool} {n : Nat} {y : Fin n} : ∀ k, k ≤ n → y ∈ pl S fr n k → y.val < k ∧ (S y.val == 0) = fr
  | 0, _, h => by simp [pl] at h
  | k + 1, hk, h => by
    by_cases hs : (S k == 0) = fr
    · rw [pl_yes (by omega) hs, List.mem_append] at h
      rcases h with h | h
      · have := pl_below k (by omega) h
        exact ⟨by omega, this.2⟩
      · simp at h
        subst h
        exact ⟨by simp, hs⟩
    · rw [pl_no hs] at h
      have := pl_below k (by omega) h
      exact ⟨by omega, this.2⟩
theorem pl_nodup {S : Nat → Nat} {fr : Bool} {n : Nat} : ∀ k, k ≤ n → (pl S fr n k).Nodup
  | 0, _ => by simp [pl]
  | k + 1, hk => by
    by_cases hs : (S k == 0) = fr
    · rw [pl_yes (by omega) hs, List.nodup_append]
      refine ⟨pl_nodup k (by omega), by simp, ?_⟩
      intro a ha b hb e
      simp at hb
      subst hb e
      have := (pl_below k (by omega) ha).1
      simp at this
    · rw [pl_no hs]; exact pl_nodup k (by omega)

/-- A slice of ids that was answered: its block lies at or beyond base. -/
def IdsAt (w : World) (base : Nat) (v : Value) (k : Nat) (xs : List Value) : Prop := xs.length = k * 2 ∧ ∃ a c, v = .slice a k c ∧ (k = 0 ∨ ∃ g, a = some ⟨g, 0, none⟩ ∧ base ≤ g ∧ g < w.heap.size ∧ ∀ j, j < k * 2 → w.cell? ⟨g, j, none⟩ = xs[j]?)
theorem idsAt_of {w : World} {base : Nat} {v : Value} {k : Nat} {xs : List Value} (h : w.ownsRow base 25 2 v k xs) : IdsAt w base v k xs := by
  refine ⟨h.1, ?_⟩
  rcases h.2 with ⟨e, e0⟩ | ⟨g, cap, cur, e, h0, hg, _⟩
  · exact ⟨none, 0, by rw [e, e0], .inl e0⟩
  · refine ⟨_, cap, e, .inr ⟨g, rfl, h0, (Array.getElem?_eq_some_iff.1 hg).1, fun j hj => ?_⟩⟩
    subst e
    exact h.cellAt j (by omega)
theorem IdsAt.frame {w w' : World} {base : Nat} {v : Value} {k : Nat} {xs : List Value} {X : Nat → Prop} (h : IdsAt w base v k xs) (hf : Fr X w w') (hX : ∀ g, base ≤ g → ¬ X g) : IdsAt w' base v k xs := by
  obtain ⟨hl, a, c, hv, h0 | ⟨g, ha, hb, hg, hc⟩⟩ := h
  · exact ⟨hl, a, c, hv, .inl h0⟩
  · exact ⟨hl, a, c, hv, .inr ⟨g, ha, hb, Nat.lt_of_lt_of_le hg hf.size, fun j hj => (hf.cell (a := ⟨g, j, none⟩) hg (hX g hb)).trans (hc j hj)⟩⟩
theorem IdsAt.below {w w' : World} {base : Nat} {v : Value} {k : Nat} {xs : List Value} (h : IdsAt w base v k xs) (hb : Below w.heap.size w w') : IdsAt w' base v k xs := h.frame (X := fun _ => False) (Fr.of_below' hb) (fun _ _ => id)
end Go.Proofs.YtfhnepoegdhjmaaDoor
