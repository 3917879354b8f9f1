/- What comes in: a key, three keys, two bytes. -/
import Derived.Test.YtbefehoegmmgpaaChecked
import Derived.WalkKit
import Derived.ProofKit
import Derived.OpenShut
import Derived.RowKit3
import Derived.Lib.SmallJoins
import Derived.Laws.IdiomArrays
import Derived.WideShapes
import Derived.Deep.Strs
namespace Go.Proofs.Ytbefehoegmmgpaa.Ke
open Go.ChangeShapes Go.WideShapes Go.ChangeAt Go.RowKit Go.Deep
set_option linter.unusedVariables false

def Hid (p : Prop) : Prop := p
theorem veil {p : Prop} (h : p) : Hid p := h
theorem Hid.out {p : Prop} (h : Hid p) : p := h

section
variable {H : Type} {enc : TypeId × Value → H} {w : World} {base : Nat} {spare : Nat → Bool} {held : Bool}
theorem cellsKey : Try.prog.cellsOf 34 = 3 := by kernel_rfl
theorem cellsU8 : Try.prog.cellsOf 5 = 1 := by kernel_rfl
theorem cellsU64 : Try.prog.cellsOf 32 = 1 := by kernel_rfl
theorem cellsBool : Try.prog.cellsOf 4 = 1 := by kernel_rfl
theorem key_cells {fuel : Nat} {c0 c1 c2 : Value} {x : DataW H × List MemPlace} (h : DataW.trod enc Try.prog w base spare held fuel 34 [c0, c1, c2] = some x) :
    ∃ (e : Bool) (d l : Int), c0 = .bool e ∧ c1 = .int .u64 d ∧ c2 = .int .u8 l ∧ (Lit.int .u64 d).wf = true ∧ (Lit.int .u8 l).wf = true := by
  obtain ⟨y0, y1, y2, n, _, _, h0, h1, h2⟩ := trod_struct3 Try.underlying34 h
  obtain ⟨e, e0, _⟩ := DataW.trod_bool Try.underlying4 (by simpa [cellsBool] using h0)
  obtain ⟨d, e1, _, w1⟩ := DataW.trod_int Try.underlying32 (by simpa [cellsU64] using h1)
  obtain ⟨l, e2, _, w2⟩ := DataW.trod_int Try.underlying5 (by simpa [cellsU8] using h2)
  simp at e0 e1 e2
  exact ⟨e, d, l, e0, e1, e2, w1, w2⟩
set_option maxRecDepth 100000 in
theorem open_key {r : Reach} {b0 : Nat} {v : Value} {d : DataW H} {p : List MemPlace} (hv : Value.okWide Try.prog w r b0 34 v) (h : DataW.Trod enc Try.prog w base spare held 34 v d p) :
    ∃ (e : Bool) (d l : Int), v = .agg #[.bool e, .int .u64 d, .int .u8 l] ∧ (Lit.int .u64 d).wf = true ∧ (Lit.int .u8 l).wf = true := by
  obtain ⟨cs, rfl, hsz⟩ := okWide_struct Try.underlying34 hv
  rw [cellsKey] at hsz
  obtain ⟨l⟩ := cs
  match l, hsz with
  | [c0, c1, c2], _ =>
    obtain ⟨fuel, hf⟩ := h
    obtain ⟨e, d, l, rfl, rfl, rfl, w0, w1⟩ := key_cells (c0 := c0) (c1 := c1) (c2 := c2) (by simpa [Value.cells] using hf)
    exact ⟨e, d, l, rfl, w0, w1⟩
end

end Go.Proofs.Ytbefehoegmmgpaa.Ke
