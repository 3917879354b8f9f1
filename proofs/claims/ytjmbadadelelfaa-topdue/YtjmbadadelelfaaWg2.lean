/- A heap by times and a wheel hold the same, in the same order. -/
import Derived.Test.YtjmbadadelelfaaWf11
import Derived.Test.YtjmbadadelelfaaMi
import Derived.ProofKit
import Derived.OpenShut
import Derived.WideShapes
import Derived.ChangeOld
import Derived.Deep.Slices
namespace Go.Proofs.Ytjmbadadelelfaa
open Go.RowKit Go.Lib Go.Deep Go.ChangeShapes Go.WideShapes Go.ChangeAt
set_option linter.unusedVariables false
set_option linter.unusedSimpArgs false
def toIt (x : Ph.Item) : It := ⟨x.1, x.2.1⟩
/-- Numbered as they came, all ahead of j. -/
def NumTo (j : Nat) (L : List Ph.Item) : Prop := ∀ x ∈ L, x.2.2 = x.1 ∧ x.1 < j
theorem srt_times : ∀ {L : List Ph.Item} {y : Ph.Item}, Ph.Srt (y :: L) → ∀ z ∈ L, y.2.1 ≤ z.2.1 := fun h z hz => by
  have := (List.pairwise_cons.1 h).1 z hz
  unfold Ph.ah at this
  omega
theorem ins_same (j d : Nat) : ∀ (L : List Ph.Item), Ph.Srt L → NumTo j L → ins ⟨j, d⟩ (L.map toIt) = (Ph.ins (j, d, j) L).map toIt
  | [], _, _ => rfl
  | y :: L, hs, hn => by
    have hy := hn y (by simp)
    have ht := srt_times hs
    have ih := ins_same j d L (List.pairwise_cons.1 hs).2 (fun x hx => hn x (by simp [hx]))
    rw [Ph.ins]
    by_cases hah : Ph.ah (j, d, j) y
    · rw [if_pos hah]
      have hd : d < y.2.1 := by
        unfold Ph.ah at hah
        simp only at hah
        omega
      unfold ins
      have e1 : ((y :: L).map toIt).filter (fun z => decide (z.t ≤ d)) = [] := by
        rw [List.filter_eq_nil_iff]
        intro z hz
        obtain ⟨u, hu, rfl⟩ := List.mem_map.1 hz
        have : y.2.1 ≤ u.2.1 := by
          rcases List.mem_cons.1 hu with rfl | hu
          · exact Nat.le_refl _
          · exact ht u hu
        show ¬ (decide (u.2.1 ≤ d) = true)
        rw [decide_eq_true_eq]
        omega
      have e2 : ((y :: L).map toIt).filter (fun z => !decide (z.t ≤ d)) = (y :: L).map toIt := by
        rw [List.filter_eq_self]
        intro z hz
        obtain ⟨u, hu, rfl⟩ := List.mem_map.1 hz
        have : y.2.1 ≤ u.2.1 := by
          rcases List.mem_cons.1 hu with rfl | hu
          · exact Nat.le_refl _
          · exact ht u hu
        show (!decide (u.2.1 ≤ d)) = true
        rw [decide_eq_false (by omega)]
        rfl
      show ((y :: L).map toIt).filter (fun z => decide (z.t ≤ d)) ++ _ :: ((y :: L).map toIt).filter (fun z => !decide (z.t ≤ d)) = _
      rw [e1, e2]
      rfl
    · rw [if_neg hah]
      have hd : y.2.1 ≤ d := by
        unfold Ph.ah at hah
        simp only at hah
        omega
      rw [List.map_cons, List.map_cons, ← ih]
      unfold ins
      simp [toIt, hd]
theorem NumTo.ins {j d : Nat} {L : List Ph.Item} (h : NumTo j L) : NumTo (j + 1) (Ph.ins (j, d, j) L) := fun x hx => by
  rcases Ph.mem_ins.1 hx with rfl | hx
  · exact ⟨rfl, Nat.lt_succ_self _⟩
  · exact ⟨(h x hx).1, Nat.lt_succ_of_lt (h x hx).2⟩
/-- Both, side by side. -/
structure TD (w wr : World) (hb hg b g mb nw : Nat) (L : List Ph.Item) (S : List It) : Prop where
  h : Ph.IsH wr hb hg 64 L
  s : IsW wr b g mb 64 nw S
  ap : ∀ k, O3 b g mb k → k ≠ hb ∧ k ≠ hg
  lh : w.heap.size ≤ hb ∧ w.heap.size ≤ hg
  lw : ∀ k, O3 b g mb k → w.heap.size ≤ k
  bel : Below w.heap.size w wr
section
variable {w wr w' : World} {hb hg b g mb nw nw' : Nat} {L L' : List Ph.Item} {S S' : List It}
theorem TD.heap (t : TD w wr hb hg b g mb nw L S) (h : Ph.IsH w' hb hg 64 L') (o : Ph.Only hb hg wr w') : TD w w' hb hg b g mb nw L' S := by
  have hf : Fr (fun k => k = hb ∨ k = hg) wr w' := ⟨o.os, o.tape, o.output, o.size, fun k hk hn => o.block k hk (fun e => hn (.inl e)) (fun e => hn (.inr e))⟩
  exact ⟨h, t.s.frame hf (fun k hk q => q.elim (t.ap k hk).1 (t.ap k hk).2), t.ap, t.lh, t.lw, t.bel.trans (hf.below t.bel.size (fun k q => q.elim (fun e => e ▸ t.lh.1) (fun e => e ▸ t.lh.2)))⟩
theorem TD.wheel (t : TD w wr hb hg b g mb nw L S) (s : IsW w' b g mb 64 nw' S') (f : Fr (O3 b g mb) wr w') : TD w w' hb hg b g mb nw' L S' := by
  have hbl := t.h.blocks
  exact ⟨t.h.kept (f.block _ hbl.1 (fun q => (t.ap _ q).1 rfl)) (f.block _ hbl.2.1 (fun q => (t.ap _ q).2 rfl)), s, t.ap, t.lh, t.lw, t.bel.trans (f.below t.bel.size t.lw)⟩
theorem TD.more (t : TD w wr hb hg b g mb nw L S) (hb' : Below wr.heap.size wr w') : TD w w' hb hg b g mb nw L S :=
  ⟨t.h.below hb', t.s.below hb', t.ap, t.lh, t.lw, t.bel.trans (hb'.mono t.bel.size)⟩
end
theorem setC_new {n j : Nat} {S : List It} (hj : j < n) (h : ∀ x ∈ S, x.i ≠ j) : setC n S (j : Int) = 0 := by
  unfold setC
  rw [if_neg (by omega), tmOf_none.2 h]
  rfl
theorem setS_new {n j t : Nat} {S : List It} (hj : j < n) (h : ∀ x ∈ S, x.i ≠ j) : setS n S (j : Int) t = ins ⟨j, t⟩ S := by
  unfold setS
  rw [if_pos (setC_new hj h)]
  simp
/-! A slice of uint16. -/
def U16s (w : World) (a : Option Addr) (len : Nat) (D : Nat → Nat) : Prop :=
  len = 0 ∨ ∃ lb off, a = some ⟨lb, off, none⟩ ∧ lb < w.heap.size ∧ ∀ j, j < len → D j < 65536 ∧ w.cell? ⟨lb, off + j, none⟩ = some (.int .u16 (D j : Int))
theorem u16_of {z : Int} (h : (Lit.int .u16 z).wf = true) : ∃ n : Nat, z = n ∧ n < 65536 := by
  simp [Lit.wf, IntKind.min, IntKind.max, IntKind.bits, IntKind.signed] at h
  exact ⟨z.toNat, by omega, by omega⟩
section
variable {H : Type} {enc : TypeId × Value → H} {w : World} {base : Nat} {spare : Nat → Bool} {held : Bool}
theorem cellsU16 : Try.prog.cellsOf 58 = 1 := by kernel_rfl
theorem open_u16s {fuel : Nat} {a : Option Addr} {len cap : Nat} {x : DataW H × List MemPlace}
    (h : DataW.trod enc Try.prog w base spare held fuel 57 (Value.slice a len cap).cells.toList = some x) : len < 9223372036854775808 ∧ len ≤ cap ∧ cap < 9223372036854775808 ∧ ∃ D, U16s w a len D := by
  rcases open_slice Try.underlying57 h with ⟨hcs, _⟩ | ⟨a', len', cap', m, n, D, Pl, hcs, hbb, hl, hm, hmm, hx, hel⟩
  · simp [Value.cells] at hcs
    obtain ⟨rfl, rfl, rfl⟩ := hcs
    exact ⟨by omega, by omega, by omega, fun _ => 0, .inl rfl⟩
  · simp [Value.cells] at hcs
    obtain ⟨rfl, rfl, rfl⟩ := hcs
    have hlm : len ≤ m := by rw [hmm]; split <;> omega
    refine ⟨by unfold maxLen at hm; omega, hl, by unfold maxLen at hm; omega, ?_⟩
    have hone : ∀ i, i < len → ∃ r : Nat, r < 65536 ∧ w.cell? (a'.add (i * 1)) = some (.int .u16 (r : Int)) := by
      intro i hi'
      obtain ⟨cs', h1, h2⟩ := hel i (by omega)
      rw [cellsU16] at h1
      obtain ⟨_, hlen, hc⟩ := World.cells?_some h1
      match cs', hlen with
      | [c0], _ =>
        obtain ⟨z0, e0, _, w0⟩ := DataW.trod_int Try.underlying58 h2
        simp at e0
        subst e0
        obtain ⟨n0, rfl, q0⟩ := u16_of w0
        have a0 := hc 0 (by omega)
        have az : ∀ x : Addr, x.add 0 = x := fun x => by unfold Addr.add; split <;> simp_all
        rw [az] at a0
        exact ⟨n0, q0, a0⟩
    obtain ⟨f, hf⟩ := choose_lt' hone
    refine ⟨f, ?_⟩
    by_cases h0 : len = 0
    · exact .inl h0
    · right
      obtain ⟨b, off, spot⟩ := a'
      have hspot : spot = none := by
        have := World.cell?_spot (hf 0 (by omega)).2
        simpa [Addr.add] using this
      subst hspot
      have hlt : b < w.heap.size := by
        have := World.block_lt_of_cell? w _ (hf 0 (by omega)).2
        simpa [Addr.add] using this
      refine ⟨b, off, rfl, hlt, fun i hi' => ?_⟩
      obtain ⟨q0, q1⟩ := hf i hi'
      simp only [Go.WideShapes.add_plain, Nat.mul_one] at q1
      exact ⟨q0, q1⟩
end

end Go.Proofs.Ytjmbadadelelfaa
