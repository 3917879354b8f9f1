/-
  All processors' sets as they are made: one more; New.
-/
import Derived.Test.YtlfejgjhamcahaaZ1
import Derived.Maps.AppendAt
import Derived.OrdersHeld
import Derived.Carry
namespace Go.Proofs.Ytlfejgjhamcahaa
open Go.RowKit Go.Lib
attribute [local go_sem ↓] Go.wp_at_zero Go.wp_at_succ

/-- The places' sets while they are made. -/
structure Bld (w0 wr : World) (n : Nat) (mo : Nat → Nat) (v : Value) (H : List Hd) : Prop where
  blk : wr.heap[w0.heap.size + 1]? = some (.cells #[v, .map (some w0.heap.size), .int .i64 (n : Int)] 77 (0, 0))
  row : wr.ownsRow (w0.heap.size + 2) 73 1 v H.length (ptrs H)
  sets : Sets wr (w0.heap.size + 2) n mo H
  fresh : ∀ (i : Nat) (h : Hd), H[i]? = some h → h.M = [] ∧ h.turn = 0
  map : IsM wr w0.heap.size (fun _ => none) 0
  sep : ∀ (i : Nat) (h : Hd), H[i]? = some h → ∀ k, h.own k → v.ownBlock ≠ some k
  bel : Below w0.heap.size w0 wr
  big : w0.heap.size + 2 ≤ wr.heap.size
theorem Dc.own_ge {w : World} {base : Nat} {e : TypeId} {size : Nat} {v : Value} {n : Nat} {xs : List Value} (h : w.ownsRow base e size v n xs) : ∀ k, v.ownBlock = some k → base ≤ k ∧ k < w.heap.size := by
  intro k hk
  rcases h.2 with ⟨rfl, _⟩ | ⟨g, cap, cur, rfl, hb, hg, _⟩
  · simp [Value.ownBlock] at hk
  · simp [Value.ownBlock] at hk
    subst hk
    exact ⟨hb, (Array.getElem?_eq_some_iff.1 hg).1⟩
section
variable {w0 wr w1 w3 : World} {n : Nat} {mo : Nat → Nat} {v v' : Value} {H : List Hd} {x : Hd}
theorem Bld.cell (h : Bld w0 wr n mo v H) {W : World} (hW : Below wr.heap.size wr W) : W.cell? ⟨w0.heap.size + 1, 0, none⟩ = some v := by
  rw [hW.cell (p := ⟨w0.heap.size + 1, 0, none⟩) (by have := h.big; show w0.heap.size + 1 < _; omega)]
  unfold World.cell?
  simp only [h.blk]
  rfl
theorem Bld.rowB (h : Bld w0 wr n mo v H) {W : World} (hW : Below wr.heap.size wr W) : W.ownsRow (w0.heap.size + 2) 73 1 v H.length (ptrs H) :=
  Dc.owns_fr h.row (Dc.Fr.of_below' (S := fun _ => False) hW) (fun _ _ _ q => q)
/-- One more. -/
theorem Bld.step (h : Bld w0 wr n mo v H) (hx : x.is w1 n (mo H.length)) (hx0 : x.M = [] ∧ x.turn = 0) (ho : ∀ k, x.own k → wr.heap.size ≤ k) (hb : Below wr.heap.size wr w1)
    (o : Obj) (hr : w3.ownsRow (w0.heap.size + 2) 73 1 v' (H.length + 1) (ptrs H ++ [.pointer (some ⟨x.sb, 0, none⟩)])) (hg : (w1.alloc o).grownBy w3 v.ownBlock) (hat : v'.ownBlock = v.ownBlock ∨ v'.ownBlock = some (w1.alloc o).heap.size) :
    w3.cell? ⟨w0.heap.size + 1, 0, none⟩ = some v ∧ w3.frozen? ⟨w0.heap.size + 1, 0, none⟩ = false ∧ Bld w0 (w3.setCell ⟨w0.heap.size + 1, 0, none⟩ v') n mo v' (H ++ [x]) := by
  have hbig := h.big
  have hbs := hb.size
  have hz : (w1.alloc o).heap.size = w1.heap.size + 1 := by simp
  have hvb := Dc.own_ge h.row
  have hxs := hx.blocks
  -- from wr to w3: only the row's block may have turned
  have hf1 : Fr (fun k => some k = v.ownBlock) wr (w1.alloc o) := Fr.of_below' (hb.alloc hbs o)
  have hf2 : Fr (fun k => some k = v.ownBlock) (w1.alloc o) w3 := ⟨hg.os, hg.tape, hg.output, hg.size, hg.block⟩
  have hf3 := hf1.trans hf2
  have hpn : ¬ (some (w0.heap.size + 1) = v.ownBlock) := fun e => by have := (hvb _ e.symm).1; omega
  have hmn : ¬ (some w0.heap.size = v.ownBlock) := fun e => by have := (hvb _ e.symm).1; omega
  have hblk : w3.heap[w0.heap.size + 1]? = some (.cells #[v, .map (some w0.heap.size), .int .i64 (n : Int)] 77 (0, 0)) := by
    rw [hf3.block _ (by omega) hpn]; exact h.blk
  have hv'ge := Dc.own_ge hr
  have hv'pb : v'.ownBlock ≠ some (w0.heap.size + 1) := fun e => by have := (hv'ge _ e).1; omega
  -- and to the end: the block of Procs too
  have hf4 : Fr (fun k => some k = v.ownBlock ∨ k = w0.heap.size + 1) wr (w3.setCell ⟨w0.heap.size + 1, 0, none⟩ v') := (hf3.wide (fun k _ q => .inl q)).setCell (a := ⟨w0.heap.size + 1, 0, none⟩) (.inr rfl) _
  have hx3 : Fr (fun k => some k = v.ownBlock ∨ k = w0.heap.size + 1) w1 (w3.setCell ⟨w0.heap.size + 1, 0, none⟩ v') := ((((Fr.refl _ _).alloc o).trans hf2).wide (fun k _ q => .inl q)).setCell (a := ⟨w0.heap.size + 1, 0, none⟩) (.inr rfl) _
  refine ⟨by unfold World.cell?; simp only [hblk]; rfl, by unfold World.frozen?; simp only [hblk]; rfl, ?_⟩
  refine ⟨Go.Joins.block_setCell hblk v', ?_, ?_, ?_, ?_, ?_, ?_, ?_⟩
  · rw [List.length_append]
    have e : ptrs (H ++ [x]) = ptrs H ++ [.pointer (some ⟨x.sb, 0, none⟩)] := by unfold ptrs; rw [List.map_append]; rfl
    rw [e]
    exact ownsRow_setCell_other hr hv'pb v'
  · refine Sets.snoc (h.sets.frame hf4 ?_) (IsS.frame hx hx3 ?_) (fun k hk => by have := ho k hk; omega) ?_
    · rintro i y hy k hk (q | q)
      · exact h.sep i y hy k hk q.symm
      · have := h.sets.low i y hy k hk; omega
    · rintro k hk (q | q)
      · have := (hvb k q.symm).2; have := ho k hk; omega
      · have := ho k hk; omega
    · intro i y hy k hk hk'
      have := (h.sets.it i y hy).blocks k hk
      have := ho k hk'
      omega
  · intro i y hy
    rcases Nat.lt_or_ge i H.length with q | q
    · rw [List.getElem?_append_left q] at hy
      exact h.fresh i y hy
    · rw [List.getElem?_append_right q] at hy
      rcases Nat.eq_zero_or_pos (i - H.length) with e | e
      · rw [e] at hy
        simp at hy
        rw [← hy]
        exact hx0
      · rw [List.getElem?_eq_none (by simp; omega)] at hy
        cases hy
  · exact h.map.block (hf4.block _ (by omega) (by rintro (q | q); exact hmn q; omega))
  · intro i y hy k hk e
    have hkl : k < w1.heap.size := by
      rcases Nat.lt_or_ge i H.length with q | q
      · rw [List.getElem?_append_left q] at hy
        have := (h.sets.it i y hy).blocks k hk
        omega
      · rw [List.getElem?_append_right q] at hy
        rcases Nat.eq_zero_or_pos (i - H.length) with e' | e'
        · rw [e'] at hy
          simp at hy
          rw [← hy] at hk
          exact hxs k hk
        · rw [List.getElem?_eq_none (by simp; omega)] at hy
          cases hy
    rcases hat with q | q
    · rw [q] at e
      rcases Nat.lt_or_ge i H.length with r | r
      · rw [List.getElem?_append_left r] at hy
        exact h.sep i y hy k hk e
      · rw [List.getElem?_append_right r] at hy
        rcases Nat.eq_zero_or_pos (i - H.length) with e' | e'
        · rw [e'] at hy
          simp at hy
          rw [← hy] at hk
          have := ho k hk
          have := (hvb k e).2
          omega
        · rw [List.getElem?_eq_none (by simp; omega)] at hy
          cases hy
    · rw [q] at e
      injection e with e
      omega
  · exact h.bel.trans (hf4.below (by omega) (by
      rintro k (q | q)
      · have := (hvb k q.symm).1; omega
      · omega))
  · have := hf4.size
    omega
end
end Go.Proofs.Ytlfejgjhamcahaa
