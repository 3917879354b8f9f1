/-
  What a walk is told of a slice of floats that came in.
-/
import Derived.Test.YtjhhhmeoahbagaaW10
import Derived.ProofKit
import Derived.Deep.Slices
namespace Go.Proofs.Ytjhhhmeoahbagaa
open Go.RowKit Go.Lib Go.Deep Go.ChangeShapes Go.WideShapes

/-- A slice of floats: its elements, and where they lie if there are any. -/
def IsF (w : World) (a : Option Addr) (len cap : Nat) (zs : List Nat) : Prop :=
  zs.length = len ∧ len ≤ cap ∧ cap ≤ maxLen ∧ (∀ y ∈ zs, y < 18446744073709551616) ∧ (0 < len → ∃ b off, a = some ⟨b, off, none⟩ ∧ ∀ i, i < len → w.cell? ⟨b, off + i, none⟩ = some (.float .f64 (zs.getD i 0)))

section
variable {H : Type} {enc : TypeId × Value → H} {P : Program} {w : World} {base : Nat} {spare : Nat → Bool} {held : Bool}
theorem trod_float {t : TypeId} {fuel : Nat} {cs : List Value} {x : DataW H × List MemPlace} (ht : P.underlying t = some (.float .f64)) (h : DataW.trod enc P w base spare held fuel t cs = some x) : ∃ n, cs = [.float .f64 n] ∧ (Lit.float .f64 n).wf = true := by
  cases fuel with
  | zero => simp [DataW.trod] at h
  | succ n =>
    unfold DataW.trod at h
    rw [ht] at h
    split at h <;> simp_all
theorem cells_one {x : Addr} {cs : List Value} (h : w.cells? base x 1 = some cs) : ∃ c, cs = [c] ∧ w.cell? x = some c := by
  unfold World.cells? at h
  split at h
  · cases hx : w.cell? x with
    | none => simp [List.range_succ, Addr.add, hx] at h
    | some c => 
      simp [List.range_succ, Addr.add, hx] at h
      exact ⟨c, h.symm, rfl⟩
  · cases h
theorem open_floats {t e : TypeId} {fuel : Nat} {a : Option Addr} {len cap : Nat} {x : DataW H × List MemPlace} (ht : P.underlying t = some (.slice e)) (he : P.underlying e = some (.float .f64)) (hce : P.cellsOf e = 1)
    (h : DataW.trod enc P w base spare held fuel t (Value.slice a len cap).cells.toList = some x) : ∃ zs, IsF w a len cap zs := by
  rcases open_slice ht h with ⟨hcs, _⟩ | ⟨a', len', cap', m, n, D, Pl, hcs, hb, hl, hm, hmm, hx, hel⟩
  · simp [Value.cells] at hcs
    obtain ⟨rfl, rfl, rfl⟩ := hcs
    exact ⟨[], rfl, Nat.le_refl _, Nat.zero_le _, by simp, by simp⟩
  · simp [Value.cells] at hcs
    obtain ⟨rfl, rfl, rfl⟩ := hcs
    have hlm : len ≤ m := by rw [hmm]; split <;> omega
    have hone : ∀ i, i < len → ∃ n : Nat, w.cell? (a'.add i) = some (.float .f64 n) ∧ n < 18446744073709551616 := by
      intro i hi
      obtain ⟨cs', h1, h2⟩ := hel i (by omega)
      rw [hce, Nat.mul_one] at h1
      obtain ⟨c, rfl, hc⟩ := cells_one h1
      obtain ⟨n, hn, hw⟩ := trod_float he h2
      simp at hn
      subst hn
      exact ⟨n, hc, by simpa [Lit.wf] using hw⟩
    obtain ⟨f, hf⟩ := choose_lt hone
    refine ⟨(List.range len).map f, by simp, hl, hm, ?_, ?_⟩
    · intro y hy
      simp at hy
      obtain ⟨i, hi, rfl⟩ := hy
      exact (hf i hi).2
    · intro hp
      obtain ⟨b, off, spot⟩ := a'
      have hspot : spot = none := by simpa [Addr.add] using World.cell?_spot (hf 0 hp).1
      subst hspot
      refine ⟨b, off, rfl, fun i hi => ?_⟩
      rw [← Go.WideShapes.add_plain, (hf i hi).1]
      simp [List.getD, hi]
end
end Go.Proofs.Ytjhhhmeoahbagaa
