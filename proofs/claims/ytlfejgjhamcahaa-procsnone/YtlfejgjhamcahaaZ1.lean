/-
  All processors' sets: how they lie; New.
-/
import Derived.Test.YtlfejgjhamcahaaY10
import Derived.Test.YtlfejgjhamcahaaZ0
import Derived.Test.YtlfejgjhamcahaaX0
import Derived.Deep.RegionHeld3
namespace Go.Proofs.Ytlfejgjhamcahaa
open Go.RowKit Go.Lib
attribute [local go_sem ↓] Go.wp_at_zero Go.wp_at_succ

/-- A place's set. -/
structure Hd where
  sb : Nat
  qb : Nat
  gq : Nat
  hb : Nat
  gh : Nat
  turn : Nat
  M : List En
def Hd.own (h : Hd) (k : Nat) : Prop := OwnS h.sb h.qb h.gq h.hb h.gh k
def Hd.is (h : Hd) (w : World) (n most : Nat) : Prop := IsS w h.sb h.qb h.gq h.hb h.gh n most h.turn h.M
def ptrs (H : List Hd) : List Value := H.map (fun h => .pointer (some ⟨h.sb, 0, none⟩))
/-- The places' sets, each with room for what mo says, lie from lo on, apart of one another. -/
structure Sets (w : World) (lo n : Nat) (mo : Nat → Nat) (H : List Hd) : Prop where
  it : ∀ (i : Nat) (h : Hd), H[i]? = some h → h.is w n (mo i)
  low : ∀ (i : Nat) (h : Hd), H[i]? = some h → ∀ k, h.own k → lo ≤ k
  apart : ∀ (i j : Nat) (h h' : Hd), H[i]? = some h → H[j]? = some h' → i ≠ j → ∀ k, h.own k → ¬ h'.own k
section
variable {w w' : World} {lo n : Nat} {mo : Nat → Nat} {H : List Hd}
theorem Hd.is.blocks {h : Hd} {most : Nat} (q : h.is w n most) : ∀ k, h.own k → k < w.heap.size := IsS.blocks q
theorem Sets.nil (w : World) (lo n : Nat) (mo : Nat → Nat) : Sets w lo n mo [] := ⟨by simp, by simp, by simp⟩
theorem Sets.below (h : Sets w lo n mo H) (hb : Below w.heap.size w w') : Sets w' lo n mo H := ⟨fun i x hx => IsS.below (h.it i x hx) hb, h.low, h.apart⟩
theorem Sets.frame {S : Nat → Prop} (h : Sets w lo n mo H) (hf : Fr S w w') (hn : ∀ (i : Nat) (x : Hd), H[i]? = some x → ∀ k, x.own k → ¬ S k) : Sets w' lo n mo H := ⟨fun i x hx => IsS.frame (h.it i x hx) hf (hn i x hx), h.low, h.apart⟩
theorem Sets.snoc (h : Sets w lo n mo H) {x : Hd} (hx : x.is w n (mo H.length)) (h1 : ∀ k, x.own k → lo ≤ k) (h2 : ∀ (i : Nat) (y : Hd), H[i]? = some y → ∀ k, y.own k → ¬ x.own k) : Sets w lo n mo (H ++ [x]) := by
  have key : ∀ i y, (H ++ [x])[i]? = some y → H[i]? = some y ∨ (i = H.length ∧ y = x) := by
    intro i y hy
    rcases Nat.lt_or_ge i H.length with q | q
    · rw [List.getElem?_append_left q] at hy
      exact .inl hy
    · rw [List.getElem?_append_right q] at hy
      rcases Nat.eq_zero_or_pos (i - H.length) with e | e
      · rw [e] at hy
        simp at hy
        exact .inr ⟨by omega, hy.symm⟩
      · rw [List.getElem?_eq_none (by simp; omega)] at hy
        cases hy
  refine ⟨fun i y hy => ?_, fun i y hy => ?_, fun i j y z hy hz hne => ?_⟩
  · rcases key i y hy with q | ⟨rfl, rfl⟩
    · exact h.it i y q
    · exact hx
  · rcases key i y hy with q | ⟨rfl, rfl⟩
    · exact h.low i y q
    · exact h1
  · rcases key i y hy with q | ⟨rfl, rfl⟩
    · rcases key j z hz with q' | ⟨rfl, rfl⟩
      · exact h.apart i j y z q q' hne
      · exact h2 i y q
    · rcases key j z hz with q' | ⟨e, rfl⟩
      · exact fun k hk hk' => h2 j z q' k hk' hk
      · exact absurd e.symm hne
/-- A set that is put anew in its place: all the others are as they were. -/
theorem Sets.set (h : Sets w lo n mo H) {i : Nat} {x y : Hd} (hx : H[i]? = some x) (hf : Fr x.own w w') (hy : y.is w' n (mo i)) (he : ∀ k, y.own k ↔ x.own k) : Sets w' lo n mo (H.set i y) := by
  have hi : i < H.length := (List.getElem?_eq_some_iff.1 hx).1
  have key : ∀ j z, (H.set i y)[j]? = some z → (j = i ∧ z = y) ∨ (j ≠ i ∧ H[j]? = some z) := by
    intro j z hz
    rcases Nat.decEq j i with q | q
    · rw [List.getElem?_set_ne (fun e => q e.symm)] at hz
      exact .inr ⟨q, hz⟩
    · subst q
      rw [List.getElem?_set_self hi] at hz
      exact .inl ⟨rfl, (Option.some.inj hz).symm⟩
  refine ⟨fun j z hz => ?_, fun j z hz k hk => ?_, fun j l z z' hz hz' hne k hk => ?_⟩
  · rcases key j z hz with ⟨rfl, rfl⟩ | ⟨q, q'⟩
    · exact hy
    · exact IsS.frame (h.it j z q') hf (h.apart j i z x q' hx q)
  · rcases key j z hz with ⟨rfl, rfl⟩ | ⟨q, q'⟩
    · exact h.low j x hx k ((he k).1 hk)
    · exact h.low j z q' k hk
  · rcases key j z hz with ⟨rfl, rfl⟩ | ⟨q, q'⟩
    · rcases key l z' hz' with ⟨rfl, rfl⟩ | ⟨r, r'⟩
      · exact absurd rfl hne
      · exact h.apart j l x z' hx r' hne k ((he k).1 hk)
    · rcases key l z' hz' with ⟨rfl, rfl⟩ | ⟨r, r'⟩
      · exact fun q2 => h.apart j l z x q' hx hne k hk ((he k).1 q2)
      · exact h.apart j l z z' q' r' hne k hk
end
end Go.Proofs.Ytlfejgjhamcahaa
