/- The least of all times; all canceled. -/
import Derived.Test.YtjmbadadelelfaaWd1
namespace Go.Proofs.Ytjmbadadelelfaa
open Go.RowKit Go.Lib
set_option linter.unusedVariables false
set_option linter.unusedSimpArgs false
set_option maxRecDepth 100000
/-- The least time of the ids below i. -/
def Low (S : List It) (i : Nat) (l : Nat) (some_ : Bool) : Prop := (some_ = false ∧ l = 0 ∧ ∀ x ∈ S, ¬ x.i < i) ∨ (some_ = true ∧ ∃ x ∈ S, x.i < i ∧ l = x.t ∧ ∀ y ∈ S, y.i < i → x.t ≤ y.t)
section
variable {w : World} {b g mb n nw : Nat} {S : List It} {i l : Nat} {q : Bool}
theorem Low.none (h : Low S i l q) (hx : ∀ x ∈ S, x.i ≠ i) : Low S (i + 1) l q := by
  rcases h with ⟨h1, h2, h3⟩ | ⟨h1, x, hx1, h2, h3, h4⟩
  · exact .inl ⟨h1, h2, fun x hx' q => by have := h3 x hx'; have := hx x hx'; omega⟩
  · exact .inr ⟨h1, x, hx1, by omega, h3, fun y hy q => h4 y hy (by have := hx y hy; omega)⟩
theorem Low.keep (h : Low S i l true) (hn : (S.map (·.i)).Nodup) {t : Nat} (hx : (⟨i, t⟩ : It) ∈ S) (ht : ¬ t < l) : Low S (i + 1) l true := by
  rcases h with ⟨h1, _⟩ | ⟨h1, x, hx1, h2, h3, h4⟩
  · cases h1
  · refine .inr ⟨rfl, x, hx1, by omega, h3, fun y hy q => ?_⟩
    by_cases e : y.i = i
    · have := nd_eq hn hy hx e
      rw [this]
      show x.t ≤ t
      omega
    · exact h4 y hy (by omega)
theorem Low.take (h : Low S i l q) (hn : (S.map (·.i)).Nodup) {t : Nat} (hx : (⟨i, t⟩ : It) ∈ S) (ht : q = true → t < l) : Low S (i + 1) t true := by
  refine .inr ⟨rfl, ⟨i, t⟩, hx, by show i < i + 1; omega, rfl, fun y hy hyi => ?_⟩
  by_cases e : y.i = i
  · rw [nd_eq hn hy hx e]; exact Nat.le_refl _
  · show t ≤ y.t
    rcases h with ⟨_, _, h3⟩ | ⟨h1, x, _, _, h3, h4⟩
    · exact absurd (show y.i < i by omega) (h3 y hy)
    · have := h4 y hy (by omega)
      have := ht h1
      omega
theorem Low.end (h : Low S i l q) (hs : Srt S) (hi : ∀ x ∈ S, x.i < i) : nxT S = l ∧ nxB S = q := by
  match S, h, hs, hi with
  | [], h, _, _ =>
    rcases h with ⟨h1, h2, _⟩ | ⟨_, x, hx, _⟩
    · exact ⟨h2.symm, h1.symm⟩
    · cases hx
  | y :: S, h, hs, hi =>
    rcases h with ⟨_, _, h3⟩ | ⟨h1, x, hx, _, h3, h4⟩
    · exact absurd (hi y (by simp)) (h3 y (by simp))
    · refine ⟨?_, h1.symm⟩
      have e1 := head_le hs x hx
      have e2 := h4 y (by simp) (hi y (by simp))
      show y.t = l
      omega
/-- Those that are not canceled yet. -/
def from_ (S : List It) (i : Nat) : List It := S.filter (fun x => decide (i ≤ x.i))
theorem from_zero (S : List It) : from_ S 0 = S := List.filter_eq_self.2 (by simp)
theorem from_end (h : ∀ x ∈ S, x.i < i) : from_ S i = [] := List.filter_eq_nil_iff.2 (fun x hx => by have := h x hx; simp; omega)
theorem from_step (n : Nat) (h : ∀ x ∈ S, x.i < n) (i : Nat) : canS n (from_ S i) (i : Int) = from_ S (i + 1) := by
  have e : rem i (from_ S i) = from_ S (i + 1) := by
    unfold rem from_
    rw [List.filter_filter]
    congr 1
    funext x
    rw [Bool.eq_iff_iff]
    simp
    omega
  unfold canS
  by_cases hc : canC n (from_ S i) (i : Int) = 0
  · rw [if_pos hc]
    exact e
  · rw [if_neg hc, ← e]
    symm
    refine rem_none (fun x hx e' => hc ?_)
    have hx2 := (List.mem_filter.1 hx).1
    have hlt := h x hx2
    unfold canC
    rw [if_neg (by omega)]
    cases hz : tmOf (from_ S i) (i : Int) with
    | none => exact absurd e' (tmOf_none.1 hz x hx)
    | some t => rfl
end
end Go.Proofs.Ytjmbadadelelfaa
