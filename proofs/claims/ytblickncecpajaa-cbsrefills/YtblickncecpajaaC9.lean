/- What comes in: a deed, some deeds, pairs of numbers, two bytes. -/
import Derived.Test.YtblickncecpajaaC8
import Derived.OpenShut
import Derived.RowKit3
import Derived.Laws.IdiomArrays
import Derived.WideShapes
import Derived.ChangeOld
import Derived.Deep.Strs
import Derived.Deep.Slices
namespace Go.Proofs.Ytblickncecpajaa
open Go.RowKit Go.Lib Go.Deep Go.ChangeShapes Go.WideShapes Go.ChangeAt
theorem choose_lt' {n : Nat} {α : Type} [Inhabited α] {p : Nat → α → Prop} (h : ∀ i, i < n → ∃ x, p i x) : ∃ f : Nat → α, ∀ i, i < n → p i (f i) :=
  ⟨fun i => if hi : i < n then (h i hi).choose else default, fun i hi => by simp only [dif_pos hi]; exact (h i hi).choose_spec⟩
/-- A deed. -/
structure Dd where
  k : Int
  i : Int
  b : Nat
  p : Nat
  n : Nat
deriving Inhabited
def Dd.ok (x : Dd) : Prop := (-9223372036854775808 ≤ x.i ∧ x.i ≤ 9223372036854775807) ∧ x.b < 18446744073709551616 ∧ x.p < 18446744073709551616 ∧ x.n < 18446744073709551616
def Dds (w : World) (a : Option Addr) (len : Nat) (D : Nat → Dd) : Prop :=
  len = 0 ∨ ∃ lb off, a = some ⟨lb, off, none⟩ ∧ lb < w.heap.size ∧ ∀ j, j < len → (D j).ok ∧ w.cell? ⟨lb, off + j * 5, none⟩ = some (.int .i64 (D j).k) ∧ w.cell? ⟨lb, off + j * 5 + 1, none⟩ = some (.int .i64 (D j).i) ∧ w.cell? ⟨lb, off + j * 5 + 2, none⟩ = some (.int .u64 ((D j).b : Int)) ∧ w.cell? ⟨lb, off + j * 5 + 3, none⟩ = some (.int .u64 ((D j).p : Int)) ∧ w.cell? ⟨lb, off + j * 5 + 4, none⟩ = some (.int .u64 ((D j).n : Int))
theorem Dds.below {w w' : World} {a : Option Addr} {len : Nat} {D : Nat → Dd} (h : Dds w a len D) (hb : Below w.heap.size w w') : Dds w' a len D := by
  rcases h with h | ⟨lb, off, rfl, hlb, hc⟩
  · exact .inl h
  · refine .inr ⟨lb, off, rfl, Nat.lt_of_lt_of_le hlb hb.size, fun j hj => ?_⟩
    obtain ⟨h0, h1, h2, h3, h4, h5⟩ := hc j hj
    exact ⟨h0, (hb.cell (p := ⟨lb, _, none⟩) hlb).trans h1, (hb.cell (p := ⟨lb, _, none⟩) hlb).trans h2, (hb.cell (p := ⟨lb, _, none⟩) hlb).trans h3, (hb.cell (p := ⟨lb, _, none⟩) hlb).trans h4, (hb.cell (p := ⟨lb, _, none⟩) hlb).trans h5⟩
/-- Pairs of numbers. -/
def Prs (w : World) (a : Option Addr) (len : Nat) (D : Nat → Nat × Nat) : Prop :=
  len = 0 ∨ ∃ lb off, a = some ⟨lb, off, none⟩ ∧ lb < w.heap.size ∧ ∀ j, j < len → ((D j).1 < 18446744073709551616 ∧ (D j).2 < 18446744073709551616) ∧ w.cell? ⟨lb, off + j * 2, none⟩ = some (.int .u64 ((D j).1 : Int)) ∧ w.cell? ⟨lb, off + j * 2 + 1, none⟩ = some (.int .u64 ((D j).2 : Int))
theorem Prs.below {w w' : World} {a : Option Addr} {len : Nat} {D : Nat → Nat × Nat} (h : Prs w a len D) (hb : Below w.heap.size w w') : Prs w' a len D := by
  rcases h with h | ⟨lb, off, rfl, hlb, hc⟩
  · exact .inl h
  · refine .inr ⟨lb, off, rfl, Nat.lt_of_lt_of_le hlb hb.size, fun j hj => ?_⟩
    obtain ⟨h0, h1, h2⟩ := hc j hj
    exact ⟨h0, (hb.cell (p := ⟨lb, _, none⟩) hlb).trans h1, (hb.cell (p := ⟨lb, _, none⟩) hlb).trans h2⟩
theorem nat_of {z : Int} (h : (Lit.int .u64 z).wf = true) : ∃ n : Nat, z = n ∧ n < 18446744073709551616 := ⟨z.toNat, by have := bounds_u64 h; omega, by have := bounds_u64 h; omega⟩
section
variable {H : Type} {enc : TypeId × Value → H} {w : World} {base : Nat} {spare : Nat → Bool} {held : Bool}
theorem cellsDeed : Try.prog.cellsOf 38 = 5 := by kernel_rfl
theorem cellsTwo8 : Try.prog.cellsOf 30 = 2 := by kernel_rfl
theorem cellsU8 : Try.prog.cellsOf 5 = 1 := by kernel_rfl
theorem cellsU64 : Try.prog.cellsOf 31 = 1 := by kernel_rfl
theorem cellsI : Try.prog.cellsOf 3 = 1 := by kernel_rfl
theorem deed_cells {fuel : Nat} {c0 c1 c2 c3 c4 : Value} {x : DataW H × List MemPlace} (h : DataW.trod enc Try.prog w base spare held fuel 38 [c0, c1, c2, c3, c4] = some x) :
    ∃ d : Dd, d.ok ∧ c0 = .int .i64 d.k ∧ c1 = .int .i64 d.i ∧ c2 = .int .u64 (d.b : Int) ∧ c3 = .int .u64 (d.p : Int) ∧ c4 = .int .u64 (d.n : Int) := by
  obtain ⟨xs, n, _, _, _, hl, hf⟩ := DataW.trod_struct Try.underlying38 h
  match xs, hl with
  | [y0, y1, y2, y3, y4], _ =>
    obtain ⟨z0, e0, _, w0⟩ := DataW.trod_int Try.underlying3 (by simpa [cellsI] using hf 0 _ rfl)
    obtain ⟨z1, e1, _, w1⟩ := DataW.trod_int Try.underlying3 (by simpa [cellsI] using hf 1 _ rfl)
    obtain ⟨z2, e2, _, w2⟩ := DataW.trod_int Try.underlying31 (by simpa [cellsU64] using hf 2 _ rfl)
    obtain ⟨z3, e3, _, w3⟩ := DataW.trod_int Try.underlying31 (by simpa [cellsU64] using hf 3 _ rfl)
    obtain ⟨z4, e4, _, w4⟩ := DataW.trod_int Try.underlying31 (by simpa [cellsU64] using hf 4 _ rfl)
    simp at e0 e1 e2 e3 e4
    obtain ⟨n2, rfl, q2⟩ := nat_of w2
    obtain ⟨n3, rfl, q3⟩ := nat_of w3
    obtain ⟨n4, rfl, q4⟩ := nat_of w4
    exact ⟨⟨z0, z1, n2, n3, n4⟩, ⟨bounds_i64 w1, q2, q3, q4⟩, e0, e1, e2, e3, e4⟩
theorem open_deed {r : Reach} {b0 : Nat} {v : Value} {d : DataW H} {p : List MemPlace} (hv : Value.okWide Try.prog w r b0 38 v) (h : DataW.Trod enc Try.prog w base spare held 38 v d p) :
    ∃ x : Dd, v = .agg #[.int .i64 x.k, .int .i64 x.i, .int .u64 (x.b : Int), .int .u64 (x.p : Int), .int .u64 (x.n : Int)] ∧ x.ok := by
  obtain ⟨cs, rfl, hsz⟩ := okWide_struct Try.underlying38 hv
  rw [cellsDeed] at hsz
  obtain ⟨l⟩ := cs
  match l, hsz with
  | [c0, c1, c2, c3, c4], _ =>
    obtain ⟨fuel, hf⟩ := h
    obtain ⟨x, hx, rfl, rfl, rfl, rfl, rfl⟩ := deed_cells (c0 := c0) (c1 := c1) (c2 := c2) (c3 := c3) (c4 := c4) (by simpa [Value.cells] using hf)
    exact ⟨x, rfl, hx⟩
theorem two_cells {fuel : Nat} {e t : TypeId} {k : IntKind} {c0 c1 : Value} {x : DataW H × List MemPlace} (ht : Try.prog.underlying t = some (.array 2 e)) (he : Try.prog.underlying e = some (.int k)) (hc : Try.prog.cellsOf e = 1) (h : DataW.trod enc Try.prog w base spare held fuel t [c0, c1] = some x) :
    ∃ (a b : Int), c0 = .int k a ∧ c1 = .int k b ∧ (Lit.int k a).wf = true ∧ (Lit.int k b).wf = true := by
  cases fuel with
  | zero => simp [DataW.trod] at h
  | succ n =>
    unfold DataW.trod at h
    rw [ht] at h
    have r2 : List.range 2 = [0, 1] := rfl
    simp [r2, hc] at h
    obtain ⟨_, hf⟩ := h
    cases h0 : DataW.trod enc Try.prog w base spare held n e [c0] with
    | none => simp [h0] at hf
    | some y0 =>
      cases h1 : DataW.trod enc Try.prog w base spare held n e [c1] with
      | none => simp [h0, h1] at hf
      | some y1 =>
        obtain ⟨a, e0, _, w0⟩ := DataW.trod_int he h0
        obtain ⟨b, e1, _, w1⟩ := DataW.trod_int he h1
        simp at e0 e1
        exact ⟨a, b, e0, e1, w0, w1⟩
theorem open_two8 {r : Reach} {b0 : Nat} {v : Value} {d : DataW H} {p : List MemPlace} (hv : Value.okWide Try.prog w r b0 30 v) (h : DataW.Trod enc Try.prog w base spare held 30 v d p) :
    ∃ (a b : Int), v = .agg #[.int .u8 a, .int .u8 b] ∧ (Lit.int .u8 a).wf = true ∧ (Lit.int .u8 b).wf = true := by
  obtain ⟨cs, rfl, hsz, _⟩ : ∃ cs, v = .agg cs ∧ cs.size = Try.prog.cellsOf 30 ∧ Row.okWide Try.prog w r b0 30 cs := by
    simpa [Value.okWide, Try.underlying30] using hv
  rw [cellsTwo8] at hsz
  obtain ⟨l⟩ := cs
  match l, hsz with
  | [c0, c1], _ =>
    obtain ⟨fuel, hf⟩ := h
    obtain ⟨a, b, rfl, rfl, w0, w1⟩ := two_cells Try.underlying30 Try.underlying5 cellsU8 (c0 := c0) (c1 := c1) (by simpa [Value.cells] using hf)
    exact ⟨a, b, rfl, w0, w1⟩
theorem open_deeds {fuel : Nat} {a : Option Addr} {len cap : Nat} {x : DataW H × List MemPlace}
    (h : DataW.trod enc Try.prog w base spare held fuel 22 (Value.slice a len cap).cells.toList = some x) : len < 9223372036854775808 ∧ len ≤ cap ∧ cap < 9223372036854775808 ∧ ∃ D, Dds w a len D := by
  rcases open_slice Try.underlying22 h with ⟨hcs, _⟩ | ⟨a', len', cap', m, n, D, Pl, hcs, hbb, hl, hm, hmm, hx, hel⟩
  · simp [Value.cells] at hcs
    obtain ⟨rfl, rfl, rfl⟩ := hcs
    exact ⟨by omega, by omega, by omega, fun _ => default, .inl rfl⟩
  · simp [Value.cells] at hcs
    obtain ⟨rfl, rfl, rfl⟩ := hcs
    have hlm : len ≤ m := by rw [hmm]; split <;> omega
    refine ⟨by unfold maxLen at hm; omega, hl, by unfold maxLen at hm; omega, ?_⟩
    have hone : ∀ i, i < len → ∃ r : Dd, r.ok ∧ w.cell? (a'.add (i * 5)) = some (.int .i64 r.k) ∧ w.cell? ((a'.add (i * 5)).add 1) = some (.int .i64 r.i) ∧ w.cell? ((a'.add (i * 5)).add 2) = some (.int .u64 (r.b : Int)) ∧ w.cell? ((a'.add (i * 5)).add 3) = some (.int .u64 (r.p : Int)) ∧ w.cell? ((a'.add (i * 5)).add 4) = some (.int .u64 (r.n : Int)) := by
      intro i hi'
      obtain ⟨cs', h1, h2⟩ := hel i (by omega)
      rw [cellsDeed] at h1
      obtain ⟨_, hlen, hc⟩ := World.cells?_some h1
      match cs', hlen with
      | [c0, c1, c2, c3, c4], _ =>
        obtain ⟨d, hd, rfl, rfl, rfl, rfl, rfl⟩ := deed_cells h2
        have a0 := hc 0 (by omega)
        have az : ∀ x : Addr, x.add 0 = x := fun x => by unfold Addr.add; split <;> simp_all
        rw [az] at a0
        exact ⟨d, hd, a0, hc 1 (by omega), hc 2 (by omega), hc 3 (by omega), hc 4 (by omega)⟩
    obtain ⟨f, hf⟩ := choose_lt' hone
    refine ⟨f, ?_⟩
    by_cases h0 : len = 0
    · exact .inl h0
    · right
      obtain ⟨b, off, spot⟩ := a'
      have hspot : spot = none := by
        have := World.cell?_spot (hf 0 (by omega)).2.1
        simpa [Addr.add] using this
      subst hspot
      have hlt : b < w.heap.size := by
        have := World.block_lt_of_cell? w _ (hf 0 (by omega)).2.1
        simpa [Addr.add] using this
      refine ⟨b, off, rfl, hlt, fun i hi' => ?_⟩
      obtain ⟨q0, q1, q2, q3, q4, q5⟩ := hf i hi'
      simp only [Go.WideShapes.add_plain] at q1 q2 q3 q4 q5
      exact ⟨q0, q1, q2, q3, q4, q5⟩
end
end Go.Proofs.Ytblickncecpajaa
