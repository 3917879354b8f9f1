/-
  script: Same walked: what both need.
-/
import Derived.Test.YtnnpbbiiapipaaaS2
namespace Go.Proofs.Ytnnpbbiiapipaaa
open Go.RowKit Go.Lib
set_option linter.unusedVariables false
theorem below_two (w : World) (c c' : Array Value) (t t' : TypeId) : Below w.heap.size w ((w.alloc (.cells c t)).alloc (.cells c' t')) := ((Below.refl _ _).alloc (Nat.le_refl _) _).alloc (by simp) _
theorem en_iff (x y : En) : x = y ↔ x.d = y.d ∧ x.p = y.p ∧ (x.dr : Int) = (y.dr : Int) ∧ x.n = y.n ∧ x.code = y.code ∧ (x.bu : Int) = (y.bu : Int) ∧ (x.pe : Int) = (y.pe : Int) ∧ x.pr = y.pr ∧ (x.lv : Int) = (y.lv : Int) ∧ x.sv = y.sv := by
  cases x
  cases y
  simp only [En.mk.injEq]
  constructor
  · rintro ⟨rfl, rfl, rfl, rfl, rfl, rfl, rfl, rfl, rfl, rfl⟩
    simp
  · rintro ⟨h1, h2, h3, h4, h5, h6, h7, h8, h9, h10⟩
    exact ⟨h1, h2, by omega, h4, h5, by omega, by omega, h8, by omega, h10⟩
end Go.Proofs.Ytnnpbbiiapipaaa
