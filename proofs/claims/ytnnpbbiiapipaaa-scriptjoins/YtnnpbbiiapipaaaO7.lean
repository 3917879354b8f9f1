/-
  What a walk is told of instructions, programs and bytes that came in.
-/
import Derived.Test.YtnnpbbiiapipaaaO6
import Derived.ProofKit
import Derived.Deep.Slices
import Derived.Deep.Strs
import Derived.ChangeOld
import Derived.OpenShut
namespace Go.Proofs.Ytnnpbbiiapipaaa
open Go.RowKit Go.Lib Go.Deep Go.ChangeShapes Go.WideShapes Go.ChangeAt

/-- A slice of bytes: its cells. -/
def Byt (w : World) (a : Option Addr) (len : Nat) (X : Nat → Nat) : Prop :=
  len = 0 ∨ ∃ lb off, a = some ⟨lb, off, none⟩ ∧ lb < w.heap.size ∧ ∀ j, j < len → w.cell? ⟨lb, off + j, none⟩ = some (.int .u8 (X j : Int)) ∧ X j < 256
theorem Byt.below {w w' : World} {a : Option Addr} {len : Nat} {X : Nat → Nat} (h : Byt w a len X) (hb : Below w.heap.size w w') : Byt w' a len X := by
  rcases h with h | ⟨lb, off, rfl, hlb, hc⟩
  · exact .inl h
  · exact .inr ⟨lb, off, rfl, Nat.lt_of_lt_of_le hlb hb.size, fun j hj => ⟨(hb.cell (p := ⟨lb, off + j, none⟩) hlb).trans (hc j hj).1, (hc j hj).2⟩⟩

section
variable {H : Type} {enc : TypeId × Value → H} {w : World} {base : Nat} {spare : Nat → Bool} {held : Bool}
theorem cellsInstr : Try.prog.cellsOf 64 = 2 := by kernel_rfl
theorem cellsOp : Try.prog.cellsOf 62 = 1 := by kernel_rfl
theorem cellsInt : Try.prog.cellsOf 3 = 1 := by kernel_rfl
theorem cellsU8 : Try.prog.cellsOf 5 = 1 := by kernel_rfl
theorem instr_cells {fuel : Nat} {c0 c1 : Value} {x : DataW H × List MemPlace} (h : DataW.trod enc Try.prog w base spare held fuel 64 [c0, c1] = some x) :
    ∃ (p q : Int), c0 = .int .i64 p ∧ c1 = .int .i64 q ∧ (Lit.int .i64 p).wf = true ∧ (Lit.int .i64 q).wf = true := by
  obtain ⟨y0, y1, n, _, _, h0, h1⟩ := trod_struct2 Try.underlying64 h
  obtain ⟨p, e0, _, w0⟩ := DataW.trod_int Try.underlying62 (by simpa [cellsOp] using h0)
  obtain ⟨q, e1, _, w1⟩ := DataW.trod_int Try.underlying3 (by simpa [cellsInt] using h1)
  simp at e0 e1
  exact ⟨p, q, e0, e1, w0, w1⟩
theorem open_instr {r : Reach} {b0 : Nat} {v : Value} {d : DataW H} {p : List MemPlace} (hv : Value.okWide Try.prog w r b0 64 v) (h : DataW.Trod enc Try.prog w base spare held 64 v d p) :
    ∃ (p q : Int), v = .agg #[.int .i64 p, .int .i64 q] ∧ (Lit.int .i64 p).wf = true ∧ (Lit.int .i64 q).wf = true := by
  obtain ⟨cs, rfl, hsz⟩ := okWide_struct Try.underlying64 hv
  rw [cellsInstr] at hsz
  obtain ⟨l⟩ := cs
  match l, hsz with
  | [c0, c1], _ =>
    obtain ⟨fuel, hf⟩ := h
    obtain ⟨p, q, rfl, rfl, w0, w1⟩ := instr_cells (c0 := c0) (c1 := c1) (by simpa [Value.cells] using hf)
    exact ⟨p, q, rfl, w0, w1⟩
theorem open_prg {fuel : Nat} {a : Option Addr} {len cap : Nat} {x : DataW H × List MemPlace}
    (h : DataW.trod enc Try.prog w base spare held fuel 34 (Value.slice a len cap).cells.toList = some x) : len < 9223372036854775808 ∧ len ≤ cap ∧ cap < 9223372036854775808 ∧ ∃ (O R : Nat → Int), Prg w a len O R := by
  rcases open_slice Try.underlying34 h with ⟨hcs, _⟩ | ⟨a', len', cap', m, n, D, Pl, hcs, hbb, hl, hm, hmm, hx, hel⟩
  · simp [Value.cells] at hcs
    obtain ⟨rfl, rfl, rfl⟩ := hcs
    exact ⟨by omega, by omega, by omega, fun _ => 0, fun _ => 0, .inl rfl⟩
  · simp [Value.cells] at hcs
    obtain ⟨rfl, rfl, rfl⟩ := hcs
    have hlm : len ≤ m := by rw [hmm]; split <;> omega
    refine ⟨by unfold maxLen at hm; omega, hl, by unfold maxLen at hm; omega, ?_⟩
    have hone : ∀ i, i < len → ∃ r : Int × Int, w.cell? (a'.add (i * 2)) = some (.int .i64 r.1) ∧ w.cell? ((a'.add (i * 2)).add 1) = some (.int .i64 r.2) := by
      intro i hi'
      obtain ⟨cs', h1, h2⟩ := hel i (by omega)
      rw [cellsInstr] at h1
      obtain ⟨_, hlen, hc⟩ := World.cells?_some h1
      match cs', hlen with
      | [c0, c1], _ =>
        obtain ⟨p, q, rfl, rfl, _⟩ := instr_cells h2
        have a0 := hc 0 (by omega)
        have az : ∀ x : Addr, x.add 0 = x := fun x => by unfold Addr.add; split <;> simp_all
        rw [az] at a0
        exact ⟨(p, q), a0, hc 1 (by omega)⟩
    obtain ⟨f, hf⟩ := choose_lt hone
    refine ⟨fun i => (f i).1, fun i => (f i).2, ?_⟩
    by_cases h0 : len = 0
    · exact .inl h0
    · right
      obtain ⟨b, off, spot⟩ := a'
      have hspot : spot = none := by
        have := World.cell?_spot (hf 0 (by omega)).1
        simpa [Addr.add] using this
      subst hspot
      have hlt : b < w.heap.size := by
        have := World.block_lt_of_cell? w _ (hf 0 (by omega)).1
        simpa [Addr.add] using this
      refine ⟨b, off, rfl, hlt, fun i hi' => ?_⟩
      obtain ⟨q1, q2⟩ := hf i hi'
      simp only [Go.WideShapes.add_plain] at q1 q2
      exact ⟨q1, q2⟩
theorem open_byt {fuel : Nat} {a : Option Addr} {len cap : Nat} {x : DataW H × List MemPlace}
    (h : DataW.trod enc Try.prog w base spare held fuel 24 (Value.slice a len cap).cells.toList = some x) : len < 9223372036854775808 ∧ len ≤ cap ∧ cap < 9223372036854775808 ∧ ∃ (X : Nat → Nat), Byt w a len X := by
  rcases open_slice Try.underlying24 h with ⟨hcs, _⟩ | ⟨a', len', cap', m, n, D, Pl, hcs, hbb, hl, hm, hmm, hx, hel⟩
  · simp [Value.cells] at hcs
    obtain ⟨rfl, rfl, rfl⟩ := hcs
    exact ⟨by omega, by omega, by omega, fun _ => 0, .inl rfl⟩
  · simp [Value.cells] at hcs
    obtain ⟨rfl, rfl, rfl⟩ := hcs
    have hlm : len ≤ m := by rw [hmm]; split <;> omega
    refine ⟨by unfold maxLen at hm; omega, hl, by unfold maxLen at hm; omega, ?_⟩
    have hone : ∀ i, i < len → ∃ r : Nat, w.cell? (a'.add (i * 1)) = some (.int .u8 (r : Int)) ∧ r < 256 := by
      intro i hi'
      obtain ⟨cs', h1, h2⟩ := hel i (by omega)
      rw [cellsU8] at h1
      obtain ⟨_, hlen, hc⟩ := World.cells?_some h1
      match cs', hlen with
      | [c0], _ =>
        obtain ⟨z, e, _, w2⟩ := DataW.trod_int Try.underlying5 h2
        simp at e
        subst e
        have hz : 0 ≤ z ∧ z < 256 := by
          simp [Lit.wf, IntKind.min, IntKind.max, IntKind.bits, IntKind.signed] at w2
          omega
        have a0 := hc 0 (by omega)
        have az : ∀ x : Addr, x.add 0 = x := fun x => by unfold Addr.add; split <;> simp_all
        rw [az] at a0
        exact ⟨z.toNat, by rw [a0]; simp [Int.toNat_of_nonneg hz.1], by omega⟩
    obtain ⟨f, hf⟩ := choose_lt hone
    refine ⟨f, ?_⟩
    by_cases h0 : len = 0
    · exact .inl h0
    · right
      obtain ⟨b, off, spot⟩ := a'
      have hspot : spot = none := by
        have := World.cell?_spot (hf 0 (by omega)).1
        simpa [Addr.add] using this
      subst hspot
      have hlt : b < w.heap.size := by
        have := World.block_lt_of_cell? w _ (hf 0 (by omega)).1
        simpa [Addr.add] using this
      refine ⟨b, off, rfl, hlt, fun i hi' => ?_⟩
      obtain ⟨q1, q2⟩ := hf i hi'
      simp only [Go.WideShapes.add_plain, Nat.mul_one] at q1
      exact ⟨q1, q2⟩
end
end Go.Proofs.Ytnnpbbiiapipaaa
