/-
  prog: Next walked, and the document's.
-/
import Derived.Test.YtnnpbbiiapipaaaO7
namespace Go.Proofs.Ytnnpbbiiapipaaa
open Go.RowKit Go.Lib
set_option linter.unusedVariables false

theorem size_alloc (w : World) (o : Obj) : (w.alloc o).heap.size = w.heap.size + 1 := by simp

/-- What Next answers: a slice of none or one. -/
def Nx (w : World) (base : Nat) (v : Value) : Option Int → Prop
  | none => v = .slice none 0 0
  | some x => ∃ b, base ≤ b ∧ b < w.heap.size ∧ v = .slice (some ⟨b, 0, none⟩) 1 1 ∧ w.cell? ⟨b, 0, none⟩ = some (.int .i64 x)
open Classical in
noncomputable def nextOf (len : Nat) (O R : Nat → Int) (at_ : Int) : Option Int :=
  if Rt len O R ∧ 0 ≤ at_ ∧ at_ < len then (if O at_.toNat = 9 then none else if O at_.toNat = 8 then some (R at_.toNat) else some (at_ + 1)) else none

end Go.Proofs.Ytnnpbbiiapipaaa
