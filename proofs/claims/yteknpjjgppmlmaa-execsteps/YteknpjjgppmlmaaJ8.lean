/-
  exec: the laws on one step.
-/
import Derived.Test.YteknpjjgppmlmaaJ7
namespace Go.Proofs.Yteknpjjgppmlmaa
open Go.RowKit Go.Lib
set_option linter.unusedVariables false

theorem Two.below {W W' : World} {b : Nat} {x y : Value} (h : Two W b x y) (hb : Below W.heap.size W W') : Two W' b x y := h.same (hb.block _ h.lt)
theorem Two.alloc {W : World} {b : Nat} {x y : Value} (h : Two W b x y) (o : Obj) : Two (W.alloc o) b x y := h.below ((Below.refl _ _).alloc (Nat.le_refl _) _)
theorem Two.new1 (W : World) (o : Obj) (x y : Value) (t : TypeId) : Two ((W.alloc o).alloc (.cells #[x, y] t)) (W.heap.size + 1) x y := by
  have := Two.new (W.alloc o) x y t
  rwa [World.size_alloc] at this
theorem Two.new2 (W : World) (o o' : Obj) (x y : Value) (t : TypeId) : Two (((W.alloc o).alloc o').alloc (.cells #[x, y] t)) (W.heap.size + 1 + 1) x y := by
  have := Two.new1 (W.alloc o) o' x y t
  rwa [World.size_alloc] at this
theorem rt_bool (m : Nat) (O R : Nat → Int) : ∃ r : Bool, r = true ↔ Rt m O R := by
  by_cases h : Rt m O R
  · exact ⟨true, by simp [h]⟩
  · exact ⟨false, by simp [h]⟩
end Go.Proofs.Yteknpjjgppmlmaa
