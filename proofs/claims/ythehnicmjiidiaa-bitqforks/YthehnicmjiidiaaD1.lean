/-
  The document's queue: how it lies in memory, and what stays as it is behind a call.
-/
import Derived.Test.YthehnicmjiidiaaQ11
import Derived.Laws.OwnMore
import Derived.Maps.AppendAt
import Derived.Deep.AppendLies
import Derived.Deep.RegionHeld3
import Derived.Lib.SmallJoins
import Derived.OneCell
namespace Go.Proofs.Ythehnicmjiidiaa
open Go.RowKit Go.Lib

/-- A frame: blocks that were there and do not belong to S are as they were. -/
structure Fr (S : Nat → Prop) (w w' : World) : Prop where
  os : w'.os = w.os
  tape : w'.tape = w.tape
  output : w'.output = w.output
  size : w.heap.size ≤ w'.heap.size
  block : ∀ k, k < w.heap.size → ¬ S k → w'.heap[k]? = w.heap[k]?
section
variable {S S' : Nat → Prop} {w w' w'' : World}
theorem Fr.refl (S : Nat → Prop) (w : World) : Fr S w w := ⟨rfl, rfl, rfl, Nat.le_refl _, fun _ _ _ => rfl⟩
theorem Fr.wide (h : Fr S w w') (hs : ∀ k, k < w.heap.size → S k → S' k) : Fr S' w w' := ⟨h.os, h.tape, h.output, h.size, fun k hk hn => h.block k hk (fun q => hn (hs k hk q))⟩
theorem Fr.trans (h : Fr S w w') (h' : Fr S w' w'') : Fr S w w'' :=
  ⟨h'.os.trans h.os, h'.tape.trans h.tape, h'.output.trans h.output, Nat.le_trans h.size h'.size, fun k hk hn => (h'.block k (Nat.lt_of_lt_of_le hk h.size) hn).trans (h.block k hk hn)⟩
theorem Fr.alloc (h : Fr S w w') (o : Obj) : Fr S w (w'.alloc o) :=
  ⟨h.os, h.tape, h.output, Nat.le_trans h.size (by simp), fun k hk hn => (Below.heap_alloc _ _ _ (Nat.lt_of_lt_of_le hk h.size)).trans (h.block k hk hn)⟩
theorem Fr.setCell (h : Fr S w w') {a : Addr} (hb : S a.block) (u : Value) : Fr S w (w'.setCell a u) :=
  ⟨h.os, h.tape, h.output, by simpa using h.size, fun k hk hn => (Below.heap_setCell _ _ _ _ (fun e => hn (by rw [e]; exact hb))).trans (h.block k hk hn)⟩
theorem Fr.drewN (h : Fr S w w') (q : Nat) : Fr S w (w'.drewN q) := ⟨h.os, h.tape, h.output, h.size, h.block⟩
theorem Fr.cell (h : Fr S w w') {a : Addr} (hk : a.block < w.heap.size) (hn : ¬ S a.block) : w'.cell? a = w.cell? a := World.cell?_of_block (h.block _ hk hn)
theorem Fr.frozen (h : Fr S w w') {a : Addr} (hk : a.block < w.heap.size) (hn : ¬ S a.block) : w'.frozen? a = w.frozen? a := World.frozen?_of_block (h.block _ hk hn)
theorem Fr.of_below {B : Nat} (h : Below B w w') : Fr (fun k => B ≤ k) w w' := ⟨h.os, h.tape, h.output, h.size, fun k _ hn => h.block k (by omega)⟩
theorem Fr.of_below' (h : Below w.heap.size w w') : Fr S w w' := ⟨h.os, h.tape, h.output, h.size, fun k hk _ => h.block k hk⟩
theorem Fr.below {B : Nat} (h : Fr S w w') (hb : B ≤ w.heap.size) (hs : ∀ k, S k → B ≤ k) : Below B w w' := ⟨h.os, h.tape, h.output, h.size, fun k hk => h.block k (by omega) (fun q => by have := hs k q; omega)⟩
theorem Fr.of_only {b g : Nat} (h : Only b g w w') : Fr (fun k => k = b ∨ k = g) w w' := ⟨h.os, h.tape, h.output, h.size, fun k hk hn => h.block k hk (fun e => hn (.inl e)) (fun e => hn (.inr e))⟩
theorem Fr.of_grown {row : Option Nat} (h : w.grownBy w' row) : Fr (fun k => some k = row) w w' := ⟨h.os, h.tape, h.output, h.size, h.block⟩
theorem Fr.grown {row : Option Nat} (h : Fr S w w') : (∀ k, k < w.heap.size → S k → some k = row) → w.grownBy w' row := fun hs => ⟨h.os, h.tape, h.output, h.size, fun k hk hn => h.block k hk (fun q => hn (hs k hk q))⟩
end

theorem IsQ.frame {S : Nat → Prop} {w w' : World} {b g n : Nat} {R : List (Nat × Nat)} (h : IsQ w b g n R) (hf : Fr S w w') (h1 : ¬ S b) (h2 : ¬ S g) : IsQ w' b g n R :=
  h.kept (hf.block b h.blocks.1 h1) (hf.block g h.blocks.2.1 h2)

/-! The cells of some pairs. -/
def itemCells (R : List (Nat × Nat)) : List Value := R.flatMap (fun it => [Value.int .i64 (it.1 : Int), .int .u8 (it.2 : Int)])
theorem itemCells_nil : itemCells [] = [] := rfl
theorem itemCells_cons (it : Nat × Nat) (R : List (Nat × Nat)) : itemCells (it :: R) = .int .i64 (it.1 : Int) :: .int .u8 (it.2 : Int) :: itemCells R := rfl
theorem itemCells_append (R1 R2 : List (Nat × Nat)) : itemCells (R1 ++ R2) = itemCells R1 ++ itemCells R2 := by unfold itemCells; rw [List.flatMap_append]
theorem itemCells_length : ∀ R, (itemCells R).length = R.length * 2
  | [] => rfl
  | it :: R => by rw [itemCells_cons]; simp [itemCells_length R]; omega
theorem itemCells_at : ∀ (R : List (Nat × Nat)) (i : Nat) (it : Nat × Nat), R[i]? = some it → (itemCells R)[i * 2]? = some (.int .i64 (it.1 : Int)) ∧ (itemCells R)[i * 2 + 1]? = some (.int .u8 (it.2 : Int))
  | [], i, it, h => by simp at h
  | x :: R, 0, it, h => by
    simp at h
    subst h
    exact ⟨rfl, rfl⟩
  | x :: R, i + 1, it, h => by
    have := itemCells_at R i it (by simpa using h)
    rw [itemCells_cons, show (i + 1) * 2 = i * 2 + 2 by omega]
    exact this
theorem itemCells_one (R : List (Nat × Nat)) : ∀ u ∈ itemCells R, u.oneCell' = true := by
  intro u hu
  unfold itemCells at hu
  rw [List.mem_flatMap] at hu
  obtain ⟨it, _, h⟩ := hu
  simp at h
  rcases h with rfl | rfl <;> rfl

/-- The document's queue at block rb, its slice v: R are its ids and levels, as they were pushed. -/
structure IsRef (w : World) (base rb n : Nat) (v : Value) (R : List (Nat × Nat)) : Prop where
  nle : n ≤ 1024
  rng : ∀ it ∈ R, it.1 < n ∧ it.2 < 256
  ids : (R.map (·.1)).Nodup
  blk : w.heap[rb]? = some (.cells #[.int .i64 (n : Int), v] 69 (0, 0))
  own : w.ownsRow base 71 2 v R.length (itemCells R)
  ne : v.ownBlock ≠ some rb
  bs : base ≤ w.heap.size

section
variable {w w' : World} {base rb n : Nat} {v : Value} {R : List (Nat × Nat)}
theorem IsRef.lt (h : IsRef w base rb n v R) : rb < w.heap.size := (Array.getElem?_eq_some_iff.1 h.blk).1
theorem IsRef.c0 (h : IsRef w base rb n v R) : w.cell? ⟨rb, 0, none⟩ = some (.int .i64 (n : Int)) := by rw [cell_of_row w rb 0 _ _ _ h.blk]; rfl
theorem IsRef.c1 (h : IsRef w base rb n v R) : w.cell? ⟨rb, 1, none⟩ = some v := by rw [cell_of_row w rb 1 _ _ _ h.blk]; rfl
theorem IsRef.len_le (h : IsRef w base rb n v R) : R.length ≤ 1024 := by
  have := nodup_le n (R.map (·.1)) h.ids (fun x hx => by obtain ⟨it, a, rfl⟩ := List.mem_map.1 hx; exact (h.rng it a).1)
  rw [List.length_map] at this
  have := h.nle
  omega
theorem IsRef.form (h : IsRef w base rb n v R) : ∃ a cap, v = .slice a R.length cap ∧ R.length ≤ cap ∧ cap ≤ maxLen := by
  rcases h.own.2 with ⟨e, e0⟩ | ⟨g, cap, cur, e, _, _, h1, h2, _⟩
  · exact ⟨none, 0, by rw [e, e0], by omega, by simp [maxLen]⟩
  · exact ⟨_, cap, e, h1, h2⟩
theorem IsRef.cells (h : IsRef w base rb n v R) (hR : R ≠ []) : ∃ g cap, v = .slice (some ⟨g, 0, none⟩) R.length cap ∧ R.length ≤ cap ∧ cap ≤ maxLen ∧ g < w.heap.size ∧ base ≤ g ∧
    (∀ j it, R[j]? = some it → w.cell? ⟨g, j * 2, none⟩ = some (.int .i64 (it.1 : Int)) ∧ w.cell? ⟨g, j * 2 + 1, none⟩ = some (.int .u8 (it.2 : Int))) := by
  have hpos : 0 < R.length := List.length_pos_iff.2 hR
  rcases h.own.2 with ⟨e, e0⟩ | ⟨g, cap, cur, e, h0, hg, h1, h2, _⟩
  · omega
  · refine ⟨g, cap, e, h1, h2, (Array.getElem?_eq_some_iff.1 hg).1, h0, fun j it hj => ?_⟩
    have hown := h.own
    subst e
    have hjl : j < R.length := (List.getElem?_eq_some_iff.1 hj).1
    rw [hown.cellAt (j * 2) (by omega), hown.cellAt (j * 2 + 1) (by omega)]
    exact itemCells_at R j it hj
theorem IsRef.frame {S : Nat → Prop} (h : IsRef w base rb n v R) (hf : Fr S w w') (h1 : ¬ S rb) (h2 : ∀ k, v.ownBlock = some k → ¬ S k) : IsRef w' base rb n v R where
  nle := h.nle
  rng := h.rng
  ids := h.ids
  blk := (hf.block rb h.lt h1).trans h.blk
  own := by
    have hl := h.own.lt
    refine ⟨h.own.1, ?_⟩
    rcases h.own.2 with hn | ⟨g, cap, cur, rfl, hb, hgg, rest⟩
    · exact .inl hn
    · refine .inr ⟨g, cap, cur, rfl, hb, ?_, rest⟩
      rw [hf.block g (Array.getElem?_eq_some_iff.1 hgg).1 (h2 g rfl)]
      exact hgg
  ne := h.ne
  bs := Nat.le_trans h.bs hf.size
end

theorem IsRef.stored {w1 : World} {base rb n : Nat} {v0 v' : Value} {R' : List (Nat × Nat)} (hb : w1.heap[rb]? = some (.cells #[.int .i64 (n : Int), v0] 69 (0, 0)))
    (hown : w1.ownsRow base 71 2 v' R'.length (itemCells R')) (hne : v'.ownBlock ≠ some rb) (hn : n ≤ 1024) (hr : ∀ it ∈ R', it.1 < n ∧ it.2 < 256) (hi : (R'.map (·.1)).Nodup) (hbs : base ≤ w1.heap.size) :
    IsRef (w1.setCell ⟨rb, 1, none⟩ v') base rb n v' R' :=
  ⟨hn, hr, hi, Go.Joins.block_setCell hb v', ownsRow_setCell_other hown hne v', hne, by simpa using hbs⟩
theorem ownsRow_base {w : World} {base base' : Nat} {e : TypeId} {size : Nat} {v : Value} {n : Nat} {xs : List Value} (h : w.ownsRow base e size v n xs) (hb : base' ≤ base) : w.ownsRow base' e size v n xs := by
  refine ⟨h.1, ?_⟩
  rcases h.2 with hn | ⟨g, cap, cur, e, h0, rest⟩
  · exact .inl hn
  · exact .inr ⟨g, cap, cur, e, Nat.le_trans hb h0, rest⟩

/-! Splits of lists of pairs. -/
theorem split_uniq : ∀ (R1 S1 : List (Nat × Nat)) (id lv lv' : Nat) (R2 S2 : List (Nat × Nat)), ((R1 ++ (id, lv) :: R2).map (·.1)).Nodup → R1 ++ (id, lv) :: R2 = S1 ++ (id, lv') :: S2 → R1 = S1 ∧ lv = lv' ∧ R2 = S2
  | [], [], id, lv, lv', R2, S2, _, h => by simp at h; exact ⟨rfl, h.1, h.2⟩
  | [], s :: S1, id, lv, lv', R2, S2, hn, h => by
    simp at h hn
    obtain ⟨rfl, rfl⟩ := h
    have := hn.1 lv'
    simp at this
  | r :: R1, [], id, lv, lv', R2, S2, hn, h => by
    simp at h hn
    obtain ⟨rfl, rfl⟩ := h
    have := hn.1.2.1
    simp at this
  | r :: R1, s :: S1, id, lv, lv', R2, S2, hn, h => by
    simp only [List.cons_append, List.cons.injEq] at h
    simp only [List.cons_append, List.map_cons, List.nodup_cons] at hn
    obtain ⟨a, b, c⟩ := split_uniq R1 S1 id lv lv' R2 S2 hn.2 h.2
    exact ⟨by rw [h.1, a], b, c⟩
theorem mem_split (R : List (Nat × Nat)) (id : Nat) (h : ∃ it ∈ R, it.1 = id) : ∃ R1 lv R2, R = R1 ++ (id, lv) :: R2 := by
  obtain ⟨⟨i, lv⟩, hm, rfl⟩ := h
  obtain ⟨s, t, rfl⟩ := List.append_of_mem hm
  exact ⟨s, lv, t, rfl⟩
end Go.Proofs.Ythehnicmjiidiaa
