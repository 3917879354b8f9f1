/- What comes in: a deed, some deeds, bytes. -/
import Derived.Test.YtbhkgbhgofefjaaI34
import Derived.ProofKit
import Derived.OpenShut
import Derived.RowKit3
import Derived.Laws.IdiomArrays
import Derived.WideShapes
import Derived.ChangeOld
import Derived.Deep.Strs
import Derived.Deep.Slices
namespace Go.Proofs.Ytbhkgbhgofefjaa
open Go.RowKit Go.Lib Go.Deep Go.ChangeShapes Go.WideShapes Go.ChangeAt
set_option linter.unusedVariables false
theorem choose_lt' {n : Nat} {α : Type} [Inhabited α] {p : Nat → α → Prop} (h : ∀ i, i < n → ∃ x, p i x) : ∃ f : Nat → α, ∀ i, i < n → p i (f i) :=
  ⟨fun i => if hi : i < n then (h i hi).choose else default, fun i hi => by simp only [dif_pos hi]; exact (h i hi).choose_spec⟩
/-- A deed. -/
structure Dp where
  k : Int
  p : Int
  i : Int
  e : Bool
  d : Int
  l : Int
deriving Inhabited
def Dp.ok (x : Dp) : Prop := (Lit.int .i64 x.p).wf = true ∧ (Lit.int .i64 x.i).wf = true ∧ (Lit.int .u64 x.d).wf = true ∧ (Lit.int .u8 x.l).wf = true
def Dp.ky (x : Dp) : K := ⟨x.e, x.d, x.l⟩
theorem Dp.ok.k {x : Dp} (h : x.ok) : x.ky.ok := by
  have h1 := bounds_u64 h.2.2.1
  have h2 := bounds_u8 h.2.2.2
  simp only [K.ok, Dp.ky]
  omega
def Dps (w : World) (a : Option Addr) (len : Nat) (D : Nat → Dp) : Prop :=
  len = 0 ∨ ∃ lb off, a = some ⟨lb, off, none⟩ ∧ lb < w.heap.size ∧ ∀ j, j < len → (D j).ok ∧ w.cell? ⟨lb, off + j * 6, none⟩ = some (.int .i64 (D j).k) ∧ w.cell? ⟨lb, off + j * 6 + 1, none⟩ = some (.int .i64 (D j).p) ∧ w.cell? ⟨lb, off + j * 6 + 2, none⟩ = some (.int .i64 (D j).i) ∧ w.cell? ⟨lb, off + j * 6 + 3, none⟩ = some (.bool (D j).e) ∧ w.cell? ⟨lb, off + j * 6 + 4, none⟩ = some (.int .u64 (D j).d) ∧ w.cell? ⟨lb, off + j * 6 + 5, none⟩ = some (.int .u8 (D j).l)
theorem Dps.below {w w' : World} {a : Option Addr} {len : Nat} {D : Nat → Dp} (h : Dps w a len D) (hb : Below w.heap.size w w') : Dps w' a len D := by
  rcases h with h | ⟨lb, off, rfl, hlb, hc⟩
  · exact .inl h
  · refine .inr ⟨lb, off, rfl, Nat.lt_of_lt_of_le hlb hb.size, fun j hj => ?_⟩
    obtain ⟨h0, h1, h2, h3, h4, h5, h6⟩ := hc j hj
    exact ⟨h0, (hb.cell (p := ⟨lb, _, none⟩) hlb).trans h1, (hb.cell (p := ⟨lb, _, none⟩) hlb).trans h2, (hb.cell (p := ⟨lb, _, none⟩) hlb).trans h3, (hb.cell (p := ⟨lb, _, none⟩) hlb).trans h4, (hb.cell (p := ⟨lb, _, none⟩) hlb).trans h5, (hb.cell (p := ⟨lb, _, none⟩) hlb).trans h6⟩
section
variable {H : Type} {enc : TypeId × Value → H} {w : World} {base : Nat} {spare : Nat → Bool} {held : Bool}
theorem cellsDeed : Try.prog.cellsOf 38 = 6 := by kernel_rfl
theorem cellsI : Try.prog.cellsOf 3 = 1 := by kernel_rfl
theorem deed_cells {fuel : Nat} {c0 c1 c2 c3 c4 c5 : Value} {x : DataW H × List MemPlace} (h : DataW.trod enc Try.prog w base spare held fuel 38 [c0, c1, c2, c3, c4, c5] = some x) :
    ∃ d : Dp, d.ok ∧ c0 = .int .i64 d.k ∧ c1 = .int .i64 d.p ∧ c2 = .int .i64 d.i ∧ c3 = .bool d.e ∧ c4 = .int .u64 d.d ∧ c5 = .int .u8 d.l := by
  obtain ⟨xs, n, _, _, _, hl, hf⟩ := DataW.trod_struct Try.underlying38 h
  match xs, hl with
  | [y0, y1, y2, y3], _ =>
    obtain ⟨z0, e0, _, w0⟩ := DataW.trod_int Try.underlying3 (by simpa [cellsI] using hf 0 _ rfl)
    obtain ⟨z1, e1, _, w1⟩ := DataW.trod_int Try.underlying3 (by simpa [cellsI] using hf 1 _ rfl)
    obtain ⟨z2, e2, _, w2⟩ := DataW.trod_int Try.underlying3 (by simpa [cellsI] using hf 2 _ rfl)
    obtain ⟨e, d, l, rfl, rfl, rfl, w3, w4⟩ := key_cells (c0 := c3) (c1 := c4) (c2 := c5) (by simpa [cellsKey] using hf 3 _ rfl)
    simp at e0 e1 e2
    exact ⟨⟨z0, z1, z2, e, d, l⟩, ⟨w1, w2, w3, w4⟩, e0, e1, e2, rfl, rfl, rfl⟩
set_option maxRecDepth 100000 in
theorem open_deed {r : Reach} {b0 : Nat} {v : Value} {d : DataW H} {p : List MemPlace} (hv : Value.okWide Try.prog w r b0 38 v) (h : DataW.Trod enc Try.prog w base spare held 38 v d p) :
    ∃ x : Dp, v = .agg #[.int .i64 x.k, .int .i64 x.p, .int .i64 x.i, .bool x.e, .int .u64 x.d, .int .u8 x.l] ∧ x.ok := by
  obtain ⟨cs, rfl, hsz⟩ := okWide_struct Try.underlying38 hv
  rw [cellsDeed] at hsz
  obtain ⟨l⟩ := cs
  match l, hsz with
  | [c0, c1, c2, c3, c4, c5], _ =>
    obtain ⟨fuel, hf⟩ := h
    obtain ⟨x, hx, rfl, rfl, rfl, rfl, rfl, rfl⟩ := deed_cells (c0 := c0) (c1 := c1) (c2 := c2) (c3 := c3) (c4 := c4) (c5 := c5) (by simpa [Value.cells] using hf)
    exact ⟨x, rfl, hx⟩
theorem open_deeds {fuel : Nat} {a : Option Addr} {len cap : Nat} {x : DataW H × List MemPlace}
    (h : DataW.trod enc Try.prog w base spare held fuel 22 (Value.slice a len cap).cells.toList = some x) : len < 9223372036854775808 ∧ len ≤ cap ∧ cap < 9223372036854775808 ∧ ∃ D, Dps w a len D := by
  rcases open_slice Try.underlying22 h with ⟨hcs, _⟩ | ⟨a', len', cap', m, n, D, Pl, hcs, hbb, hl, hm, hmm, hx, hel⟩
  · simp [Value.cells] at hcs
    obtain ⟨rfl, rfl, rfl⟩ := hcs
    exact ⟨by omega, by omega, by omega, fun _ => default, .inl rfl⟩
  · simp [Value.cells] at hcs
    obtain ⟨rfl, rfl, rfl⟩ := hcs
    have hlm : len ≤ m := by rw [hmm]; split <;> omega
    refine ⟨by unfold maxLen at hm; omega, hl, by unfold maxLen at hm; omega, ?_⟩
    have hone : ∀ i, i < len → ∃ r : Dp, r.ok ∧ w.cell? (a'.add (i * 6)) = some (.int .i64 r.k) ∧ w.cell? ((a'.add (i * 6)).add 1) = some (.int .i64 r.p) ∧ w.cell? ((a'.add (i * 6)).add 2) = some (.int .i64 r.i) ∧ w.cell? ((a'.add (i * 6)).add 3) = some (.bool r.e) ∧ w.cell? ((a'.add (i * 6)).add 4) = some (.int .u64 r.d) ∧ w.cell? ((a'.add (i * 6)).add 5) = some (.int .u8 r.l) := by
      intro i hi'
      obtain ⟨cs', h1, h2⟩ := hel i (by omega)
      rw [cellsDeed] at h1
      obtain ⟨_, hlen, hc⟩ := World.cells?_some h1
      match cs', hlen with
      | [c0, c1, c2, c3, c4, c5], _ =>
        obtain ⟨d, hd, rfl, rfl, rfl, rfl, rfl, rfl⟩ := deed_cells h2
        have a0 := hc 0 (by omega)
        have az : ∀ x : Addr, x.add 0 = x := fun x => by unfold Addr.add; split <;> simp_all
        rw [az] at a0
        exact ⟨d, hd, a0, hc 1 (by omega), hc 2 (by omega), hc 3 (by omega), hc 4 (by omega), hc 5 (by omega)⟩
    obtain ⟨f, hf⟩ := choose_lt' hone
    refine ⟨f, ?_⟩
    by_cases h0 : len = 0
    · exact .inl h0
    · right
      obtain ⟨b, off, spot⟩ := a'
      have hspot : spot = none := by
        have := World.cell?_spot (hf 0 (by omega)).2.1
        simpa [Addr.add] using this
      subst hspot
      have hlt : b < w.heap.size := by
        have := World.block_lt_of_cell? w _ (hf 0 (by omega)).2.1
        simpa [Addr.add] using this
      refine ⟨b, off, rfl, hlt, fun i hi' => ?_⟩
      obtain ⟨q0, q1, q2, q3, q4, q5, q6⟩ := hf i hi'
      simp only [Go.WideShapes.add_plain] at q1 q2 q3 q4 q5 q6
      exact ⟨q0, q1, q2, q3, q4, q5, q6⟩
end
end Go.Proofs.Ytbhkgbhgofefjaa
