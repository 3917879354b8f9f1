/- What comes in: a key, three keys, two bytes. -/
import Derived.Test.YtfpodglfkjlhkaaChecked
import Derived.WalkKit
import Derived.ProofKit
import Derived.OpenShut
import Derived.RowKit3
import Derived.Lib.SmallJoins
import Derived.Laws.IdiomArrays
import Derived.WideShapes
import Derived.Deep.Strs
namespace Go.Proofs.Ytfpodglfkjlhkaa
open Go.ChangeShapes Go.WideShapes Go.ChangeAt Go.RowKit Go.Deep
set_option linter.unusedVariables false

def Hid (p : Prop) : Prop := p
theorem veil {p : Prop} (h : p) : Hid p := h
theorem Hid.out {p : Prop} (h : Hid p) : p := h

section
variable {H : Type} {enc : TypeId × Value → H} {w : World} {base : Nat} {spare : Nat → Bool} {held : Bool}
theorem cellsKey : Try.prog.cellsOf 24 = 3 := by kernel_rfl
theorem cellsKey3 : Try.prog.cellsOf 36 = 9 := by kernel_rfl
theorem cellsTwo8 : Try.prog.cellsOf 38 = 2 := by kernel_rfl
theorem cellsU8 : Try.prog.cellsOf 5 = 1 := by kernel_rfl
theorem cellsU64 : Try.prog.cellsOf 22 = 1 := by kernel_rfl
theorem cellsBool : Try.prog.cellsOf 4 = 1 := by kernel_rfl
theorem key_cells {fuel : Nat} {c0 c1 c2 : Value} {x : DataW H × List MemPlace} (h : DataW.trod enc Try.prog w base spare held fuel 24 [c0, c1, c2] = some x) :
    ∃ (e : Bool) (d l : Int), c0 = .bool e ∧ c1 = .int .u64 d ∧ c2 = .int .u8 l ∧ (Lit.int .u64 d).wf = true ∧ (Lit.int .u8 l).wf = true := by
  obtain ⟨y0, y1, y2, n, _, _, h0, h1, h2⟩ := trod_struct3 Try.underlying24 h
  obtain ⟨e, e0, _⟩ := DataW.trod_bool Try.underlying4 (by simpa [cellsBool] using h0)
  obtain ⟨d, e1, _, w1⟩ := DataW.trod_int Try.underlying22 (by simpa [cellsU64] using h1)
  obtain ⟨l, e2, _, w2⟩ := DataW.trod_int Try.underlying5 (by simpa [cellsU8] using h2)
  simp at e0 e1 e2
  exact ⟨e, d, l, e0, e1, e2, w1, w2⟩
theorem open_key {r : Reach} {b0 : Nat} {v : Value} {d : DataW H} {p : List MemPlace} (hv : Value.okWide Try.prog w r b0 24 v) (h : DataW.Trod enc Try.prog w base spare held 24 v d p) :
    ∃ (e : Bool) (d l : Int), v = .agg #[.bool e, .int .u64 d, .int .u8 l] ∧ (Lit.int .u64 d).wf = true ∧ (Lit.int .u8 l).wf = true := by
  obtain ⟨cs, rfl, hsz⟩ := okWide_struct Try.underlying24 hv
  rw [cellsKey] at hsz
  obtain ⟨l⟩ := cs
  match l, hsz with
  | [c0, c1, c2], _ =>
    obtain ⟨fuel, hf⟩ := h
    obtain ⟨e, d, l, rfl, rfl, rfl, w0, w1⟩ := key_cells (c0 := c0) (c1 := c1) (c2 := c2) (by simpa [Value.cells] using hf)
    exact ⟨e, d, l, rfl, w0, w1⟩
theorem open_two8 {r : Reach} {b0 : Nat} {v : Value} {d : DataW H} {p : List MemPlace} (hv : Value.okWide Try.prog w r b0 38 v) (h : DataW.Trod enc Try.prog w base spare held 38 v d p) :
    ∃ (a b : Int), v = .agg #[.int .u8 a, .int .u8 b] ∧ (Lit.int .u8 a).wf = true ∧ (Lit.int .u8 b).wf = true := by
  obtain ⟨cs, rfl, hsz, _⟩ : ∃ cs, v = .agg cs ∧ cs.size = Try.prog.cellsOf 38 ∧ Row.okWide Try.prog w r b0 38 cs := by
    simpa [Value.okWide, Try.underlying38] using hv
  rw [cellsTwo8] at hsz
  obtain ⟨l⟩ := cs
  match l, hsz with
  | [c0, c1], _ =>
    obtain ⟨fuel, hf⟩ := h
    cases fuel with
    | zero => simp [DataW.trod] at hf
    | succ n =>
      unfold DataW.trod at hf
      rw [Try.underlying38] at hf
      have r2 : List.range 2 = [0, 1] := rfl
      simp [r2, cellsU8, Value.cells] at hf
      obtain ⟨_, hf⟩ := hf
      cases h0 : DataW.trod enc Try.prog w base spare held n 5 [c0] with
      | none => simp [h0] at hf
      | some y0 =>
        cases h1 : DataW.trod enc Try.prog w base spare held n 5 [c1] with
        | none => simp [h0, h1] at hf
        | some y1 =>
          obtain ⟨a, e0, _, w0⟩ := DataW.trod_int Try.underlying5 h0
          obtain ⟨b, e1, _, w1⟩ := DataW.trod_int Try.underlying5 h1
          simp at e0 e1
          subst e0 e1
          exact ⟨a, b, rfl, w0, w1⟩
theorem open_key3 {r : Reach} {b0 : Nat} {v : Value} {d : DataW H} {p : List MemPlace} (hv : Value.okWide Try.prog w r b0 36 v) (h : DataW.Trod enc Try.prog w base spare held 36 v d p) :
    ∃ (e0 : Bool) (d0 l0 : Int) (e1 : Bool) (d1 l1 : Int) (e2 : Bool) (d2 l2 : Int), v = .agg #[.bool e0, .int .u64 d0, .int .u8 l0, .bool e1, .int .u64 d1, .int .u8 l1, .bool e2, .int .u64 d2, .int .u8 l2] ∧
      ((Lit.int .u64 d0).wf = true ∧ (Lit.int .u8 l0).wf = true) ∧ ((Lit.int .u64 d1).wf = true ∧ (Lit.int .u8 l1).wf = true) ∧ ((Lit.int .u64 d2).wf = true ∧ (Lit.int .u8 l2).wf = true) := by
  obtain ⟨cs, rfl, hsz, _⟩ : ∃ cs, v = .agg cs ∧ cs.size = Try.prog.cellsOf 36 ∧ Row.okWide Try.prog w r b0 36 cs := by
    simpa [Value.okWide, Try.underlying36] using hv
  rw [cellsKey3] at hsz
  obtain ⟨l⟩ := cs
  match l, hsz with
  | [c0, c1, c2, c3, c4, c5, c6, c7, c8], _ =>
    obtain ⟨fuel, hf⟩ := h
    cases fuel with
    | zero => simp [DataW.trod] at hf
    | succ n =>
      unfold DataW.trod at hf
      rw [Try.underlying36] at hf
      have r3 : List.range 3 = [0, 1, 2] := rfl
      simp [r3, cellsKey, Value.cells] at hf
      obtain ⟨_, hf⟩ := hf
      cases h0 : DataW.trod enc Try.prog w base spare held n 24 [c0, c1, c2] with
      | none => simp [h0] at hf
      | some y0 =>
        cases h1 : DataW.trod enc Try.prog w base spare held n 24 [c3, c4, c5] with
        | none => simp [h0, h1] at hf
        | some y1 =>
          cases h2 : DataW.trod enc Try.prog w base spare held n 24 [c6, c7, c8] with
          | none => simp [h0, h1, h2] at hf
          | some y2 =>
            obtain ⟨e0, d0, l0, rfl, rfl, rfl, w0⟩ := key_cells h0
            obtain ⟨e1, d1, l1, rfl, rfl, rfl, w1⟩ := key_cells h1
            obtain ⟨e2, d2, l2, rfl, rfl, rfl, w2⟩ := key_cells h2
            exact ⟨e0, d0, l0, e1, d1, l1, e2, d2, l2, rfl, w0, w1, w2⟩
end

end Go.Proofs.Ytfpodglfkjlhkaa
