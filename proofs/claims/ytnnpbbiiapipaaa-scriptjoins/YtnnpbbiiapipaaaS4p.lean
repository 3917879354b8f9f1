/-
  script: which entries are right, by their Do; a box behind a call.
-/
import Derived.Test.YtnnpbbiiapipaaaS3a
namespace Go.Proofs.Ytnnpbbiiapipaaa
open Go.RowKit Go.Lib
set_option linter.unusedVariables false
theorem box_cell {w w1 : World} {c : Array Value} {t : TypeId} {B : Nat} (hb : Below B (w.alloc (.cells c t)) w1) (i : Nat) (u : Value) (hu : c[i]? = some u) (hB : w.heap.size < B := by simp) : w1.cell? ⟨w.heap.size, i, none⟩ = some u := by
  rw [hb.cell (p := ⟨w.heap.size, i, none⟩) hB]
  unfold World.cell?
  simp only [(MapKept.heap_alloc w _).1]
  exact hu
theorem right_d1 {x : En} (hd : x.d = 1) : RightE x ↔ x = mkStep x.p x.dr ∧ 0 ≤ x.p ∧ x.p ≤ 255 := by
  refine ⟨fun h => ?_, fun h => .inl h⟩
  rcases h with ⟨e, h1, h2⟩ | ⟨e, h1, h2⟩ | ⟨e, h1⟩ | e | ⟨e, h1, h2, h3, h4⟩
  · exact ⟨e, h1, h2⟩
  · exact absurd (hd.symm.trans (show x.d = 2 from congrArg En.d e)) (by decide)
  · exact absurd (hd.symm.trans (show x.d = 3 from congrArg En.d e)) (by decide)
  · exact absurd (hd.symm.trans (show x.d = 4 from congrArg En.d e)) (by decide)
  · exact absurd (hd.symm.trans (show x.d = 5 from congrArg En.d e)) (by decide)
theorem right_d2 {x : En} (hd : x.d = 2) : RightE x ↔ x = mkTick x.n ∧ 1 ≤ x.n ∧ x.n ≤ 65535 := by
  refine ⟨fun h => ?_, fun h => .inr (.inl h)⟩
  rcases h with ⟨e, h1, h2⟩ | ⟨e, h1, h2⟩ | ⟨e, h1⟩ | e | ⟨e, h1, h2, h3, h4⟩
  · exact absurd (hd.symm.trans (show x.d = 1 from congrArg En.d e)) (by decide)
  · exact ⟨e, h1, h2⟩
  · exact absurd (hd.symm.trans (show x.d = 3 from congrArg En.d e)) (by decide)
  · exact absurd (hd.symm.trans (show x.d = 4 from congrArg En.d e)) (by decide)
  · exact absurd (hd.symm.trans (show x.d = 5 from congrArg En.d e)) (by decide)
theorem right_d3 {x : En} (hd : x.d = 3) : RightE x ↔ x = mkLoad x.code ∧ RtC x.code := by
  refine ⟨fun h => ?_, fun h => .inr (.inr (.inl h))⟩
  rcases h with ⟨e, h1, h2⟩ | ⟨e, h1, h2⟩ | ⟨e, h1⟩ | e | ⟨e, h1, h2, h3, h4⟩
  · exact absurd (hd.symm.trans (show x.d = 1 from congrArg En.d e)) (by decide)
  · exact absurd (hd.symm.trans (show x.d = 2 from congrArg En.d e)) (by decide)
  · exact ⟨e, h1⟩
  · exact absurd (hd.symm.trans (show x.d = 4 from congrArg En.d e)) (by decide)
  · exact absurd (hd.symm.trans (show x.d = 5 from congrArg En.d e)) (by decide)
theorem right_d4 {x : En} (hd : x.d = 4) : RightE x ↔ x = mkAdmit x.bu x.pe := by
  refine ⟨fun h => ?_, fun h => .inr (.inr (.inr (.inl h)))⟩
  rcases h with ⟨e, h1, h2⟩ | ⟨e, h1, h2⟩ | ⟨e, h1⟩ | e | ⟨e, h1, h2, h3, h4⟩
  · exact absurd (hd.symm.trans (show x.d = 1 from congrArg En.d e)) (by decide)
  · exact absurd (hd.symm.trans (show x.d = 2 from congrArg En.d e)) (by decide)
  · exact absurd (hd.symm.trans (show x.d = 3 from congrArg En.d e)) (by decide)
  · exact e
  · exact absurd (hd.symm.trans (show x.d = 5 from congrArg En.d e)) (by decide)
theorem right_d5 {x : En} (hd : x.d = 5) : RightE x ↔ x = mkStart x.pr x.lv x.sv ∧ 0 ≤ x.pr ∧ x.pr ≤ 255 ∧ -1 ≤ x.sv ∧ x.sv ≤ 254 := by
  refine ⟨fun h => ?_, fun h => .inr (.inr (.inr (.inr h)))⟩
  rcases h with ⟨e, h1, h2⟩ | ⟨e, h1, h2⟩ | ⟨e, h1⟩ | e | ⟨e, h1, h2, h3, h4⟩
  · exact absurd (hd.symm.trans (show x.d = 1 from congrArg En.d e)) (by decide)
  · exact absurd (hd.symm.trans (show x.d = 2 from congrArg En.d e)) (by decide)
  · exact absurd (hd.symm.trans (show x.d = 3 from congrArg En.d e)) (by decide)
  · exact absurd (hd.symm.trans (show x.d = 4 from congrArg En.d e)) (by decide)
  · exact ⟨e, h1, h2, h3, h4⟩
theorem right_none' {x : En} (h1 : x.d ≠ 1) (h2 : x.d ≠ 2) (h3 : x.d ≠ 3) (h4 : x.d ≠ 4) (h5 : x.d ≠ 5) : ¬ RightE x := by
  rintro (⟨e, _⟩ | ⟨e, _⟩ | ⟨e, _⟩ | e | ⟨e, _⟩)
  · exact h1 (congrArg En.d e)
  · exact h2 (congrArg En.d e)
  · exact h3 (congrArg En.d e)
  · exact h4 (congrArg En.d e)
  · exact h5 (congrArg En.d e)
end Go.Proofs.Ytnnpbbiiapipaaa
