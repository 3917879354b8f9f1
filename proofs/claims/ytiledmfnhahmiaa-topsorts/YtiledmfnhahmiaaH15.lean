/-
  Numbers that come in; what TopSorts makes of two heaps.
-/
import Derived.Test.YtiledmfnhahmiaaH14
namespace Go.Proofs.Ytiledmfnhahmiaa
open Go.RowKit Go.Lib Go.Deep Go.ChangeShapes Go.WideShapes Go.ChangeAt

def U16s (w : World) (a : Option Addr) (len : Nat) (D : Nat → Nat) : Prop :=
  len = 0 ∨ ∃ lb off, a = some ⟨lb, off, none⟩ ∧ lb < w.heap.size ∧ ∀ j, j < len → D j < 65536 ∧ w.cell? ⟨lb, off + j, none⟩ = some (.int .u16 (D j : Int))
theorem u16_of {z : Int} (h : (Lit.int .u16 z).wf = true) : ∃ n : Nat, z = n ∧ n < 65536 := by
  simp [Lit.wf, IntKind.min, IntKind.max, IntKind.bits, IntKind.signed] at h
  exact ⟨z.toNat, by omega, by omega⟩
section
variable {H : Type} {enc : TypeId × Value → H} {w : World} {base : Nat} {spare : Nat → Bool} {held : Bool}
theorem cellsU16 : Try.prog.cellsOf 53 = 1 := by kernel_rfl
theorem open_u16s {fuel : Nat} {a : Option Addr} {len cap : Nat} {x : DataW H × List MemPlace}
    (h : DataW.trod enc Try.prog w base spare held fuel 52 (Value.slice a len cap).cells.toList = some x) : len < 9223372036854775808 ∧ len ≤ cap ∧ cap < 9223372036854775808 ∧ ∃ D, U16s w a len D := by
  rcases open_slice Try.underlying52 h with ⟨hcs, _⟩ | ⟨a', len', cap', m, n, D, Pl, hcs, hbb, hl, hm, hmm, hx, hel⟩
  · simp [Value.cells] at hcs
    obtain ⟨rfl, rfl, rfl⟩ := hcs
    exact ⟨by omega, by omega, by omega, fun _ => 0, .inl rfl⟩
  · simp [Value.cells] at hcs
    obtain ⟨rfl, rfl, rfl⟩ := hcs
    have hlm : len ≤ m := by rw [hmm]; split <;> omega
    refine ⟨by unfold maxLen at hm; omega, hl, by unfold maxLen at hm; omega, ?_⟩
    have hone : ∀ i, i < len → ∃ r : Nat, r < 65536 ∧ w.cell? (a'.add (i * 1)) = some (.int .u16 (r : Int)) := by
      intro i hi'
      obtain ⟨cs', h1, h2⟩ := hel i (by omega)
      rw [cellsU16] at h1
      obtain ⟨_, hlen, hc⟩ := World.cells?_some h1
      match cs', hlen with
      | [c0], _ =>
        obtain ⟨z0, e0, _, w0⟩ := DataW.trod_int Try.underlying53 h2
        simp at e0
        subst e0
        obtain ⟨n0, rfl, q0⟩ := u16_of w0
        have a0 := hc 0 (by omega)
        have az : ∀ x : Addr, x.add 0 = x := fun x => by unfold Addr.add; split <;> simp_all
        rw [az] at a0
        exact ⟨n0, q0, a0⟩
    obtain ⟨f, hf⟩ := choose_lt' hone
    refine ⟨f, ?_⟩
    by_cases h0 : len = 0
    · exact .inl h0
    · right
      obtain ⟨b, off, spot⟩ := a'
      have hspot : spot = none := by
        have := World.cell?_spot (hf 0 (by omega)).2
        simpa [Addr.add] using this
      subst hspot
      have hlt : b < w.heap.size := by
        have := World.block_lt_of_cell? w _ (hf 0 (by omega)).2
        simpa [Addr.add] using this
      refine ⟨b, off, rfl, hlt, fun i hi' => ?_⟩
      obtain ⟨q0, q1⟩ := hf i hi'
      simp only [Go.WideShapes.add_plain, Nat.mul_one] at q1
      exact ⟨q0, q1⟩
end
/-- What was put in first, and what it was changed to. -/
def upI (D : Nat → Nat) (i : Nat) : Item := (i, D i, 0)
def dnI (D : Nat → Nat) (i : Nat) : Item := (i, 65535 - D i, 1000 - i)
/-- The ids of the changed ones come the other way round. -/
theorem other_way {D : Nat → Nat} {n : Nat} (hD : ∀ i, i < n → D i < 65536) (hn : n ≤ 64) {L M : List Item} (hL : Srt L) (hM : Srt M) (h1 : ∀ it, it ∈ L ↔ ∃ i, i < n ∧ it = upI D i) (h2 : ∀ it, it ∈ M ↔ ∃ i, i < n ∧ it = dnI D i) : idsL M = (idsL L).reverse := by
  have key : M = (L.map (fun it => dnI D it.1)).reverse := by
    refine srt_uniq hM ?_ (fun x => ?_)
    · unfold Srt
      rw [List.pairwise_reverse, List.pairwise_map]
      refine List.Pairwise.imp_of_mem ?_ hL
      intro a b ha hb hab
      obtain ⟨i, hi, rfl⟩ := (h1 a).1 ha
      obtain ⟨j, hj, rfl⟩ := (h1 b).1 hb
      have := hD i hi
      have := hD j hj
      change ah (dnI D j) (dnI D i)
      simp only [ah, dnI, upI] at hab ⊢
      omega
    · rw [List.mem_reverse, List.mem_map, h2]
      constructor
      · rintro ⟨i, hi, rfl⟩
        exact ⟨upI D i, (h1 _).2 ⟨i, hi, rfl⟩, rfl⟩
      · rintro ⟨a, ha, rfl⟩
        obtain ⟨i, hi, rfl⟩ := (h1 a).1 ha
        exact ⟨i, hi, rfl⟩
  rw [key]
  unfold idsL
  rw [List.map_reverse, List.map_map]
  rfl
end Go.Proofs.Ytiledmfnhahmiaa
