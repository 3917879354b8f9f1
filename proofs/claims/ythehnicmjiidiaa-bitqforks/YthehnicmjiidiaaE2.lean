/-
  What a walk is told of a slice of deeds that came in.
-/
import Derived.Test.YthehnicmjiidiaaE1
import Derived.ProofKit
import Derived.Deep.Slices
import Derived.Deep.Strs
import Derived.ChangeOld
namespace Go.Proofs.Ythehnicmjiidiaa
open Go.RowKit Go.Lib Go.Deep Go.ChangeShapes Go.WideShapes

section
variable {H : Type} {enc : TypeId × Value → H} {P : Program} {w : World} {base : Nat} {spare : Nat → Bool} {held : Bool}
theorem open_deeds {t e ti tb : TypeId} {f0 f1 f2 : Field} {fuel : Nat} {a : Option Addr} {len cap : Nat} {x : DataW H × List MemPlace} (ht : P.underlying t = some (.slice e)) (he : P.underlying e = some (.struct #[f0, f1, f2]))
    (k0 : f0.type = ti) (k1 : f1.type = ti) (k2 : f2.type = tb) (o0 : f0.offset = 0) (o1 : f1.offset = 1) (o2 : f2.offset = 2) (hi : P.underlying ti = some (.int .i64)) (hb : P.underlying tb = some (.int .u8)) (hci : P.cellsOf ti = 1) (hcb : P.cellsOf tb = 1) (hce : P.cellsOf e = 3)
    (h : DataW.trod enc P w base spare held fuel t (Value.slice a len cap).cells.toList = some x) : len < 9223372036854775808 ∧ ∃ (X Y : Nat → Int) (Z : Nat → Nat), Deeds w a len X Y Z := by
  rcases open_slice ht h with ⟨hcs, _⟩ | ⟨a', len', cap', m, n, D, Pl, hcs, hbb, hl, hm, hmm, hx, hel⟩
  · simp [Value.cells] at hcs
    obtain ⟨rfl, rfl, rfl⟩ := hcs
    exact ⟨by omega, fun _ => 0, fun _ => 0, fun _ => 0, .inl rfl⟩
  · simp [Value.cells] at hcs
    obtain ⟨rfl, rfl, rfl⟩ := hcs
    have hlm : len ≤ m := by rw [hmm]; split <;> omega
    refine ⟨by unfold maxLen at hm; omega, ?_⟩
    have hone : ∀ i, i < len → ∃ r : Int × Int × Nat, w.cell? (a'.add (i * 3)) = some (.int .i64 r.1) ∧ w.cell? ((a'.add (i * 3)).add 1) = some (.int .i64 r.2.1) ∧ w.cell? ((a'.add (i * 3)).add 2) = some (.int .u8 r.2.2) ∧ r.2.2 < 256 := by
      intro i hi'
      obtain ⟨cs', h1, h2⟩ := hel i (by omega)
      rw [hce] at h1
      obtain ⟨_, hlen, hc⟩ := World.cells?_some h1
      obtain ⟨y0, y1, y2, n', _, _, g0, g1, g2⟩ := trod_struct3 he h2
      match cs', hlen with
      | [c0, c1, c2], _ =>
        rw [k0, o0, hci] at g0
        rw [k1, o1, hci] at g1
        rw [k2, o2, hcb] at g2
        obtain ⟨z0, e0, _, _⟩ := DataW.trod_int hi g0
        obtain ⟨z1, e1, _, _⟩ := DataW.trod_int hi g1
        obtain ⟨z2, e2, _, w2⟩ := DataW.trod_int hb g2
        simp at e0 e1 e2
        subst e0 e1 e2
        have hz : 0 ≤ z2 ∧ z2 < 256 := by
          simp [Lit.wf, IntKind.min, IntKind.max, IntKind.bits, IntKind.signed] at w2
          omega
        have a0 := hc 0 (by omega)
        have az : ∀ x : Addr, x.add 0 = x := fun x => by unfold Addr.add; split <;> simp_all
        rw [az] at a0
        refine ⟨(z0, z1, z2.toNat), a0, hc 1 (by omega), ?_, by simp; omega⟩
        rw [hc 2 (by omega)]
        simp [Int.toNat_of_nonneg hz.1]
    obtain ⟨f, hf⟩ := choose_lt hone
    refine ⟨fun i => (f i).1, fun i => (f i).2.1, fun i => (f i).2.2, ?_⟩
    by_cases h0 : len = 0
    · exact .inl h0
    · right
      obtain ⟨b, off, spot⟩ := a'
      have hspot : spot = none := by
        have := World.cell?_spot (hf 0 (by omega)).1
        simpa [Addr.add] using this
      subst hspot
      have hlt : b < w.heap.size := by
        have := World.block_lt_of_cell? w _ (hf 0 (by omega)).1
        simpa [Addr.add] using this
      refine ⟨b, off, rfl, hlt, fun i hi' => ?_⟩
      obtain ⟨q1, q2, q3, q4⟩ := hf i hi'
      simp only [Go.WideShapes.add_plain] at q1 q2 q3
      exact ⟨q4, q1, q2, q3⟩
end
end Go.Proofs.Ythehnicmjiidiaa
