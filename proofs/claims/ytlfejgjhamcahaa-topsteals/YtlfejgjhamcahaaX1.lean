/-
  The document's set: how it lies in memory; New, at.
-/
import Derived.Test.YtlfejgjhamcahaaX0
namespace Go.Proofs.Ytlfejgjhamcahaa.Dc
open Go.RowKit Go.Lib

/-! The cells of some items. -/
def itemCells (R : List En) : List Value := R.flatMap (fun it => [Value.int .i64 (it.1 : Int), .bool it.2.e, .int .u64 it.2.d, .int .u8 it.2.l])
theorem itemCells_cons (it : En) (R : List En) : itemCells (it :: R) = .int .i64 (it.1 : Int) :: .bool it.2.e :: .int .u64 it.2.d :: .int .u8 it.2.l :: itemCells R := rfl
theorem itemCells_append (R1 R2 : List En) : itemCells (R1 ++ R2) = itemCells R1 ++ itemCells R2 := by unfold itemCells; rw [List.flatMap_append]
theorem itemCells_length : ∀ R, (itemCells R).length = R.length * 4
  | [] => rfl
  | it :: R => by rw [itemCells_cons]; simp [itemCells_length R]; omega
theorem itemCells_at : ∀ (R : List En) (i : Nat) (it : En), R[i]? = some it → (itemCells R)[i * 4]? = some (.int .i64 (it.1 : Int)) ∧ (itemCells R)[i * 4 + 1]? = some (.bool it.2.e) ∧ (itemCells R)[i * 4 + 2]? = some (.int .u64 it.2.d) ∧ (itemCells R)[i * 4 + 3]? = some (.int .u8 it.2.l)
  | [], i, it, h => by simp at h
  | x :: R, 0, it, h => by
    simp at h
    subst h
    exact ⟨rfl, rfl, rfl, rfl⟩
  | x :: R, i + 1, it, h => by
    have := itemCells_at R i it (by simpa using h)
    rw [itemCells_cons, show (i + 1) * 4 = i * 4 + 4 by omega]
    exact this
theorem itemCells_one (R : List En) : ∀ u ∈ itemCells R, u.oneCell' = true := by
  intro u hu
  unfold itemCells at hu
  rw [List.mem_flatMap] at hu
  obtain ⟨it, _, h⟩ := hu
  simp at h
  rcases h with rfl | rfl | rfl | rfl <;> rfl

/-- The document's set at block rb, its slice v: R are its items, in order. -/
structure IsR (w : World) (base rb n most : Nat) (v : Value) (R : List En) : Prop where
  nle : n ≤ 1024
  mle : most ≤ n
  len : R.length ≤ most
  nd : (R.map (·.1)).Nodup
  rng : ∀ y ∈ R, y.1 < n
  blk : w.heap[rb]? = some (.cells #[.int .i64 (n : Int), .int .i64 (most : Int), v] 103 (0, 0))
  own : w.ownsRow base 112 4 v R.length (itemCells R)
  ne : v.ownBlock ≠ some rb
  bs : base ≤ w.heap.size

section
variable {w w' : World} {base rb n most : Nat} {v : Value} {R : List En}
theorem IsR.lt (h : IsR w base rb n most v R) : rb < w.heap.size := (Array.getElem?_eq_some_iff.1 h.blk).1
theorem cell_of_row (w : World) (b i : Nat) (c : Array Value) (t : TypeId) (f : Nat × Nat) (h : w.heap[b]? = some (.cells c t f)) : w.cell? ⟨b, i, none⟩ = c[i]? := by
  unfold World.cell?
  simp [h]
theorem IsR.c0 (h : IsR w base rb n most v R) : w.cell? ⟨rb, 0, none⟩ = some (.int .i64 (n : Int)) := by rw [cell_of_row w rb 0 _ _ _ h.blk]; rfl
theorem IsR.c1 (h : IsR w base rb n most v R) : w.cell? ⟨rb, 1, none⟩ = some (.int .i64 (most : Int)) := by rw [cell_of_row w rb 1 _ _ _ h.blk]; rfl
theorem IsR.c2 (h : IsR w base rb n most v R) : w.cell? ⟨rb, 2, none⟩ = some v := by rw [cell_of_row w rb 2 _ _ _ h.blk]; rfl
theorem IsR.len_le (h : IsR w base rb n most v R) : R.length ≤ 1024 := Nat.le_trans h.len (Nat.le_trans h.mle h.nle)
theorem IsR.form (h : IsR w base rb n most v R) : ∃ a cap, v = .slice a R.length cap ∧ R.length ≤ cap ∧ cap ≤ maxLen := by
  rcases h.own.2 with ⟨e, e0⟩ | ⟨g, cap, cur, e, _, _, h1, h2, _⟩
  · exact ⟨none, 0, by rw [e, e0], by omega, by simp [maxLen]⟩
  · exact ⟨_, cap, e, h1, h2⟩
theorem IsR.cells (h : IsR w base rb n most v R) (hR : R ≠ []) : ∃ g cap, v = .slice (some ⟨g, 0, none⟩) R.length cap ∧ R.length ≤ cap ∧ cap ≤ maxLen ∧ g < w.heap.size ∧ base ≤ g ∧
    (∀ j it, R[j]? = some it → w.cell? ⟨g, j * 4, none⟩ = some (.int .i64 (it.1 : Int)) ∧ w.cell? ⟨g, j * 4 + 1, none⟩ = some (.bool it.2.e) ∧ w.cell? ⟨g, j * 4 + 2, none⟩ = some (.int .u64 it.2.d) ∧ w.cell? ⟨g, j * 4 + 3, none⟩ = some (.int .u8 it.2.l)) := by
  have hpos : 0 < R.length := List.length_pos_iff.2 hR
  rcases h.own.2 with ⟨e, e0⟩ | ⟨g, cap, cur, e, h0, hg, h1, h2, _⟩
  · omega
  · refine ⟨g, cap, e, h1, h2, (Array.getElem?_eq_some_iff.1 hg).1, h0, fun j it hj => ?_⟩
    have hown := h.own
    subst e
    have hjl : j < R.length := (List.getElem?_eq_some_iff.1 hj).1
    rw [hown.cellAt (j * 4) (by omega), hown.cellAt (j * 4 + 1) (by omega), hown.cellAt (j * 4 + 2) (by omega), hown.cellAt (j * 4 + 3) (by omega)]
    exact itemCells_at R j it hj
theorem IsR.frame {S : Nat → Prop} (h : IsR w base rb n most v R) (hf : Fr S w w') (h1 : ¬ S rb) (h2 : ∀ k, v.ownBlock = some k → ¬ S k) : IsR w' base rb n most v R where
  nle := h.nle
  mle := h.mle
  len := h.len
  nd := h.nd
  rng := h.rng
  blk := (hf.block rb h.lt h1).trans h.blk
  own := by
    refine ⟨h.own.1, ?_⟩
    rcases h.own.2 with hn | ⟨g, cap, cur, rfl, hb, hgg, rest⟩
    · exact .inl hn
    · refine .inr ⟨g, cap, cur, rfl, hb, ?_, rest⟩
      rw [hf.block g (Array.getElem?_eq_some_iff.1 hgg).1 (h2 g rfl)]
      exact hgg
  ne := h.ne
  bs := Nat.le_trans h.bs hf.size
theorem IsR.drewN (h : IsR w base rb n most v R) (q : Nat) : IsR (w.drewN q) base rb n most v R := h.frame (S := fun _ => False) ((Fr.refl _ _).drewN q) (fun q => q) (fun _ _ q => q)
theorem IsR.below (h : IsR w base rb n most v R) (hb : Below w.heap.size w w') : IsR w' base rb n most v R := h.frame (S := fun _ => False) (Fr.of_below' hb) (fun q => q) (fun _ _ q => q)
theorem IsR.stored {w1 : World} {v0 v' : Value} {R' : List En} (hb : w1.heap[rb]? = some (.cells #[.int .i64 (n : Int), .int .i64 (most : Int), v0] 103 (0, 0)))
    (hown : w1.ownsRow base 112 4 v' R'.length (itemCells R')) (hne : v'.ownBlock ≠ some rb) (hn : n ≤ 1024) (hm : most ≤ n) (hl : R'.length ≤ most) (hnd : (R'.map (·.1)).Nodup) (hr : ∀ y ∈ R', y.1 < n) (hbs : base ≤ w1.heap.size) :
    IsR (w1.setCell ⟨rb, 2, none⟩ v') base rb n most v' R' :=
  ⟨hn, hm, hl, hnd, hr, Go.Joins.block_setCell hb v', ownsRow_setCell_other hown hne v', hne, by simpa using hbs⟩
end
theorem infoItem : (Try.prog.info? 112).map (fun i => (i.zero, i.size, i.bytes)) = some (some (.agg #[.int .i64 0, .bool false, .int .u64 0, .int .u8 0]), 4, 32) := by kernel_rfl

set_option maxHeartbeats 1000000 in
theorem at_walk (w : World) (rb g len cap J : Nat) (id : Int) (ids : Nat → Nat)
    (c1 : w.cell? ⟨rb, 2, none⟩ = some (.slice (some ⟨g, 0, none⟩) len cap)) (hl : len ≤ 1024) (hJ : J ≤ len)
    (hc : ∀ j, j < len → w.cell? ⟨g, j * 4, none⟩ = some (.int .i64 (ids j)))
    (hno : ∀ j, j < J → ¬ (ids j : Int) = id) (hyes : J < len → (ids J : Int) = id) :
    Calls Try.prog 87 #[.pointer (some ⟨rb, 0, none⟩), .int .i64 id] w fun e w' => e = .returned (.int .i64 (if J < len then (J : Int) else -1)) ∧ w' = w := by
  have HC := veil hc
  have HN := veil hno
  have HY := veil hyes
  clear hc hno hyes
  generalize hr : (if J < len then (J : Int) else -1) = r
  go_enter Try.func87, Try.ntmps87
  go_wp2
  go_loopw [5] (fun i wr => ∃ j : Nat, j ≤ J ∧ i = .int .i64 j ∧ wr = w) (fun i _ => len - (intOf i).toNat)
  case atStart => exact ⟨0, by omega, rfl, rfl⟩
  case round =>
    obtain ⟨j, hj, rfl, rfl⟩ := hrel
    by_cases hjl : j < len
    · have e0 := HC.out j hjl
      by_cases hjJ : j < J
      · have e1 := HN.out j hjJ
        go_wp2
        go_roundw
        case rel => exact ⟨j + 1, by omega, by go_num, by first | rfl | trivial⟩
        case measure => simp [intOf]; omega
      · have hjJ' : j = J := by omega
        subst hjJ'
        have e1 := HY.out hjl
        go_wp2
        go_ret
        rw [if_pos hjl] at hr; subst hr; exact ⟨rfl, rfl⟩
    · have hjl' : ¬ J < len := by omega
      go_wp2
      go_ret
      rw [if_neg hjl'] at hr; subst hr; exact ⟨rfl, rfl⟩

theorem at_empty (w : World) (rb cap : Nat) (a : Option Addr) (id : Int)
    (c1 : w.cell? ⟨rb, 2, none⟩ = some (.slice a 0 cap)) :
    Calls Try.prog 87 #[.pointer (some ⟨rb, 0, none⟩), .int .i64 id] w fun e w' => e = .returned (.int .i64 (-1)) ∧ w' = w := by
  go_enter Try.func87, Try.ntmps87
  go_wp2
  go_loopw [5] (fun i wr => i = .int .i64 0 ∧ wr = w) (fun i _ => 0)
  case atStart => exact ⟨rfl, rfl⟩
  case round =>
    obtain ⟨rfl, rfl⟩ := hrel
    go_wp2
    go_ret
    exact ⟨rfl, rfl⟩

theorem rnew_ok (n most : Nat) (w : World) (h1 : 1 ≤ n) (h2 : n ≤ 1024) (h3 : 1 ≤ most) (h4 : most ≤ n) :
    Calls Try.prog 62 #[.int .i64 n, .int .i64 most] w fun e w' => e = .returned (.pointer (some ⟨w.heap.size, 0, none⟩)) ∧ IsR w' w.heap.size w.heap.size n most (.slice none 0 0) [] ∧ Below w.heap.size w w' := by
  have hr : IsR (w.alloc (.cells #[.int .i64 (n : Int), .int .i64 (most : Int), .slice none 0 0] 103)) w.heap.size w.heap.size n most (.slice none 0 0) [] :=
    ⟨h2, h4, by simp, by simp, by simp, heap_alloc_new w _, World.ownsRow_nil _ _ _ _, by simp [Value.ownBlock], by simp⟩
  have HR := veil hr
  clear hr
  go_enter Try.func62, Try.ntmps62
  go_wp2
  go_ret
  exact ⟨rfl, HR.out, (Below.refl _ _).alloc (Nat.le_refl _) _⟩

section
variable {w : World} {base rb n most : Nat} {v : Value} {R : List En}
theorem rat_none (h : IsR w base rb n most v R) (id : Int) (hno : ∀ it ∈ R, ¬ (it.1 : Int) = id) :
    Calls Try.prog 87 #[.pointer (some ⟨rb, 0, none⟩), .int .i64 id] w fun e w' => e = .returned (.int .i64 (-1)) ∧ w' = w := by
  by_cases hR : R = []
  · subst hR
    obtain ⟨a, cap, rfl, _⟩ := h.form
    exact at_empty w rb cap a id h.c2
  · obtain ⟨g, cap, rfl, h1, h2, h3, h4, h5⟩ := h.cells hR
    have := at_walk w rb g R.length cap R.length id (fun j => (R.getD j (0, ⟨false, 0, 0⟩)).1) h.c2 h.len_le (Nat.le_refl _) (fun j hj => by
      have e : R[j]? = some (R.getD j (0, ⟨false, 0, 0⟩)) := by simp [List.getD, hj]
      exact (h5 j _ e).1) (fun j hj => hno _ (by simp [List.getD, hj])) (fun q => absurd q (Nat.lt_irrefl _))
    rw [if_neg (Nat.lt_irrefl _)] at this
    exact this
theorem rat_some {R1 R2 : List En} {k : Nat} {x : Ke.K} (h : IsR w base rb n most v (R1 ++ (k, x) :: R2)) :
    Calls Try.prog 87 #[.pointer (some ⟨rb, 0, none⟩), .int .i64 (k : Int)] w fun e w' => e = .returned (.int .i64 (R1.length : Int)) ∧ w' = w := by
  obtain ⟨g, cap, rfl, h1, h2, h3, h4, h5⟩ := h.cells (by simp)
  have hlt : R1.length < (R1 ++ (k, x) :: R2).length := by simp
  have hid := h.nd
  rw [List.map_append, List.nodup_append] at hid
  have := at_walk w rb g (R1 ++ (k, x) :: R2).length cap R1.length k (fun j => ((R1 ++ (k, x) :: R2).getD j (0, ⟨false, 0, 0⟩)).1) h.c2 h.len_le (Nat.le_of_lt hlt) (fun j hj => by
      have e : (R1 ++ (k, x) :: R2)[j]? = some ((R1 ++ (k, x) :: R2).getD j (0, ⟨false, 0, 0⟩)) := by rw [List.getD, List.getElem?_eq_getElem hj]; rfl
      exact (h5 j _ e).1) (fun j hj q => by
      have e : (R1 ++ (k, x) :: R2).getD j (0, ⟨false, 0, 0⟩) ∈ R1 := by rw [List.getD, List.getElem?_append_left hj]; simp [hj]
      exact hid.2.2 _ (List.mem_map_of_mem (f := (·.1)) e) k (by simp) (by simpa using Int.ofNat.inj q)) (fun _ => by simp [List.getD])
  rw [if_pos hlt] at this
  exact this
end

end Go.Proofs.Ytlfejgjhamcahaa.Dc
