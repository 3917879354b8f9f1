/-
  The document's heap: how it lies in memory; its at, ahead, put, out.
-/
import Derived.Test.YtiledmfnhahmiaaH4
namespace Go.Proofs.Ytiledmfnhahmiaa
open Go.RowKit Go.Lib

/-! The cells of some items. -/
def itemCells (R : List Item) : List Value := R.flatMap (fun it => [Value.int .i64 (it.1 : Int), .int .u64 (it.2.1 : Int), .int .u64 (it.2.2 : Int)])
theorem itemCells_cons (it : Item) (R : List Item) : itemCells (it :: R) = .int .i64 (it.1 : Int) :: .int .u64 (it.2.1 : Int) :: .int .u64 (it.2.2 : Int) :: itemCells R := rfl
theorem itemCells_append (R1 R2 : List Item) : itemCells (R1 ++ R2) = itemCells R1 ++ itemCells R2 := by unfold itemCells; rw [List.flatMap_append]
theorem itemCells_length : ∀ R, (itemCells R).length = R.length * 3
  | [] => rfl
  | it :: R => by rw [itemCells_cons]; simp [itemCells_length R]; omega
theorem itemCells_at : ∀ (R : List Item) (i : Nat) (it : Item), R[i]? = some it → (itemCells R)[i * 3]? = some (.int .i64 (it.1 : Int)) ∧ (itemCells R)[i * 3 + 1]? = some (.int .u64 (it.2.1 : Int)) ∧ (itemCells R)[i * 3 + 2]? = some (.int .u64 (it.2.2 : Int))
  | [], i, it, h => by simp at h
  | x :: R, 0, it, h => by
    simp at h
    subst h
    exact ⟨rfl, rfl, rfl⟩
  | x :: R, i + 1, it, h => by
    have := itemCells_at R i it (by simpa using h)
    rw [itemCells_cons, show (i + 1) * 3 = i * 3 + 3 by omega]
    exact this
theorem itemCells_one (R : List Item) : ∀ u ∈ itemCells R, u.oneCell' = true := by
  intro u hu
  unfold itemCells at hu
  rw [List.mem_flatMap] at hu
  obtain ⟨it, _, h⟩ := hu
  simp at h
  rcases h with rfl | rfl | rfl <;> rfl

/-- The document's heap at block rb, its slice v: R are its items, in order. -/
structure IsR (w : World) (base rb n : Nat) (v : Value) (R : List Item) : Prop where
  nle : n ≤ 1024
  good : Good n R
  blk : w.heap[rb]? = some (.cells #[.int .i64 (n : Int), v] 69 (0, 0))
  own : w.ownsRow base 71 3 v R.length (itemCells R)
  ne : v.ownBlock ≠ some rb
  bs : base ≤ w.heap.size

section
variable {w w' : World} {base rb n : Nat} {v : Value} {R : List Item}
theorem IsR.lt (h : IsR w base rb n v R) : rb < w.heap.size := (Array.getElem?_eq_some_iff.1 h.blk).1
theorem cell_of_row (w : World) (b i : Nat) (c : Array Value) (t : TypeId) (f : Nat × Nat) (h : w.heap[b]? = some (.cells c t f)) : w.cell? ⟨b, i, none⟩ = c[i]? := by
  unfold World.cell?
  simp [h]
theorem IsR.c0 (h : IsR w base rb n v R) : w.cell? ⟨rb, 0, none⟩ = some (.int .i64 (n : Int)) := by rw [cell_of_row w rb 0 _ _ _ h.blk]; rfl
theorem IsR.c1 (h : IsR w base rb n v R) : w.cell? ⟨rb, 1, none⟩ = some v := by rw [cell_of_row w rb 1 _ _ _ h.blk]; rfl
theorem IsR.len_le (h : IsR w base rb n v R) : R.length ≤ 1024 := Nat.le_trans h.good.len h.nle
theorem IsR.form (h : IsR w base rb n v R) : ∃ a cap, v = .slice a R.length cap ∧ R.length ≤ cap ∧ cap ≤ maxLen := by
  rcases h.own.2 with ⟨e, e0⟩ | ⟨g, cap, cur, e, _, _, h1, h2, _⟩
  · exact ⟨none, 0, by rw [e, e0], by omega, by simp [maxLen]⟩
  · exact ⟨_, cap, e, h1, h2⟩
theorem IsR.cells (h : IsR w base rb n v R) (hR : R ≠ []) : ∃ g cap, v = .slice (some ⟨g, 0, none⟩) R.length cap ∧ R.length ≤ cap ∧ cap ≤ maxLen ∧ g < w.heap.size ∧ base ≤ g ∧
    (∀ j it, R[j]? = some it → w.cell? ⟨g, j * 3, none⟩ = some (.int .i64 (it.1 : Int)) ∧ w.cell? ⟨g, j * 3 + 1, none⟩ = some (.int .u64 (it.2.1 : Int)) ∧ w.cell? ⟨g, j * 3 + 2, none⟩ = some (.int .u64 (it.2.2 : Int))) := by
  have hpos : 0 < R.length := List.length_pos_iff.2 hR
  rcases h.own.2 with ⟨e, e0⟩ | ⟨g, cap, cur, e, h0, hg, h1, h2, _⟩
  · omega
  · refine ⟨g, cap, e, h1, h2, (Array.getElem?_eq_some_iff.1 hg).1, h0, fun j it hj => ?_⟩
    have hown := h.own
    subst e
    have hjl : j < R.length := (List.getElem?_eq_some_iff.1 hj).1
    rw [hown.cellAt (j * 3) (by omega), hown.cellAt (j * 3 + 1) (by omega), hown.cellAt (j * 3 + 2) (by omega)]
    exact itemCells_at R j it hj
theorem IsR.frame {S : Nat → Prop} (h : IsR w base rb n v R) (hf : Fr S w w') (h1 : ¬ S rb) (h2 : ∀ k, v.ownBlock = some k → ¬ S k) : IsR w' base rb n v R where
  nle := h.nle
  good := h.good
  blk := (hf.block rb h.lt h1).trans h.blk
  own := by
    refine ⟨h.own.1, ?_⟩
    rcases h.own.2 with hn | ⟨g, cap, cur, rfl, hb, hgg, rest⟩
    · exact .inl hn
    · refine .inr ⟨g, cap, cur, rfl, hb, ?_, rest⟩
      rw [hf.block g (Array.getElem?_eq_some_iff.1 hgg).1 (h2 g rfl)]
      exact hgg
  ne := h.ne
  bs := Nat.le_trans h.bs hf.size
theorem IsR.drewN (h : IsR w base rb n v R) (q : Nat) : IsR (w.drewN q) base rb n v R := h.frame (S := fun _ => False) ((Fr.refl _ _).drewN q) (fun q => q) (fun _ _ q => q)
theorem IsR.below (h : IsR w base rb n v R) (hb : Below w.heap.size w w') : IsR w' base rb n v R := h.frame (S := fun _ => False) (Fr.of_below' hb) (fun q => q) (fun _ _ q => q)
theorem IsR.stored {w1 : World} {v0 v' : Value} {R' : List Item} (hb : w1.heap[rb]? = some (.cells #[.int .i64 (n : Int), v0] 69 (0, 0)))
    (hown : w1.ownsRow base 71 3 v' R'.length (itemCells R')) (hne : v'.ownBlock ≠ some rb) (hn : n ≤ 1024) (hr : Good n R') (hbs : base ≤ w1.heap.size) :
    IsR (w1.setCell ⟨rb, 1, none⟩ v') base rb n v' R' :=
  ⟨hn, hr, Go.Joins.block_setCell hb v', ownsRow_setCell_other hown hne v', hne, by simpa using hbs⟩
end
theorem infoItem : (Try.prog.info? 71).map (fun i => (i.zero, i.size, i.bytes)) = some (some (.agg #[.int .i64 0, .int .u64 0, .int .u64 0]), 3, 24) := by kernel_rfl

set_option maxHeartbeats 1000000 in
theorem at_walk (w : World) (rb g len cap J : Nat) (id : Int) (ids : Nat → Nat)
    (c1 : w.cell? ⟨rb, 1, none⟩ = some (.slice (some ⟨g, 0, none⟩) len cap)) (hl : len ≤ 1024) (hJ : J ≤ len)
    (hc : ∀ j, j < len → w.cell? ⟨g, j * 3, none⟩ = some (.int .i64 (ids j)))
    (hno : ∀ j, j < J → ¬ (ids j : Int) = id) (hyes : J < len → (ids J : Int) = id) :
    Calls Try.prog 40 #[.pointer (some ⟨rb, 0, none⟩), .int .i64 id] w fun e w' => e = .returned (.int .i64 (if J < len then (J : Int) else -1)) ∧ w' = w := by
  have HC := veil hc
  have HN := veil hno
  have HY := veil hyes
  clear hc hno hyes
  generalize hr : (if J < len then (J : Int) else -1) = r
  go_enter Try.func40, Try.ntmps40
  go_wp2
  go_loopw [5] (fun i wr => ∃ j : Nat, j ≤ J ∧ i = .int .i64 j ∧ wr = w) (fun i _ => len - (intOf i).toNat)
  case atStart => exact ⟨0, by omega, rfl, rfl⟩
  case round =>
    obtain ⟨j, hj, rfl, rfl⟩ := hrel
    by_cases hjl : j < len
    · have e0 := HC.out j hjl
      by_cases hjJ : j < J
      · have e1 := HN.out j hjJ
        go_wp2
        go_roundw
        case rel => exact ⟨j + 1, by omega, by go_num, by first | rfl | trivial⟩
        case measure => simp [intOf]; omega
      · have hjJ' : j = J := by omega
        subst hjJ'
        have e1 := HY.out hjl
        go_wp2
        go_ret
        rw [if_pos hjl] at hr; subst hr; exact ⟨rfl, rfl⟩
    · have hjl' : ¬ J < len := by omega
      go_wp2
      go_ret
      rw [if_neg hjl'] at hr; subst hr; exact ⟨rfl, rfl⟩

theorem at_empty (w : World) (rb cap : Nat) (a : Option Addr) (id : Int)
    (c1 : w.cell? ⟨rb, 1, none⟩ = some (.slice a 0 cap)) :
    Calls Try.prog 40 #[.pointer (some ⟨rb, 0, none⟩), .int .i64 id] w fun e w' => e = .returned (.int .i64 (-1)) ∧ w' = w := by
  go_enter Try.func40, Try.ntmps40
  go_wp2
  go_loopw [5] (fun i wr => i = .int .i64 0 ∧ wr = w) (fun i _ => 0)
  case atStart => exact ⟨rfl, rfl⟩
  case round =>
    obtain ⟨rfl, rfl⟩ := hrel
    go_wp2
    go_ret
    exact ⟨rfl, rfl⟩

theorem rnew_ok (n : Nat) (w : World) (h1 : 1 ≤ n) (h2 : n ≤ 1024) :
    Calls Try.prog 27 #[.int .i64 n] w fun e w' => e = .returned (.pointer (some ⟨w.heap.size, 0, none⟩)) ∧ IsR w' w.heap.size w.heap.size n (.slice none 0 0) [] ∧ Below w.heap.size w w' := by
  have hr : IsR (w.alloc (.cells #[.int .i64 (n : Int), .slice none 0 0] 69)) w.heap.size w.heap.size n (.slice none 0 0) [] :=
    ⟨h2, Good.nil n, heap_alloc_new w _, World.ownsRow_nil _ _ _ _, by simp [Value.ownBlock], by simp⟩
  have HR := veil hr
  clear hr
  go_enter Try.func27, Try.ntmps27
  go_wp2
  go_ret
  exact ⟨rfl, HR.out, (Below.refl _ _).alloc (Nat.le_refl _) _⟩

section
variable {w : World} {base rb n : Nat} {v : Value} {R : List Item}
theorem rat_none (h : IsR w base rb n v R) (id : Int) (hno : ∀ it ∈ R, ¬ (it.1 : Int) = id) :
    Calls Try.prog 40 #[.pointer (some ⟨rb, 0, none⟩), .int .i64 id] w fun e w' => e = .returned (.int .i64 (-1)) ∧ w' = w := by
  by_cases hR : R = []
  · subst hR
    obtain ⟨a, cap, rfl, _⟩ := h.form
    exact at_empty w rb cap a id h.c1
  · obtain ⟨g, cap, rfl, h1, h2, h3, h4, h5⟩ := h.cells hR
    have := at_walk w rb g R.length cap R.length id (fun j => (R.getD j (0, 0, 0)).1) h.c1 h.len_le (Nat.le_refl _) (fun j hj => by
      have e : R[j]? = some (R.getD j (0, 0, 0)) := by simp [List.getD, hj]
      exact (h5 j _ e).1) (fun j hj => hno _ (by simp [List.getD, hj])) (fun q => absurd q (Nat.lt_irrefl _))
    rw [if_neg (Nat.lt_irrefl _)] at this
    exact this
theorem rat_some {R1 R2 : List Item} {k d s : Nat} (h : IsR w base rb n v (R1 ++ (k, d, s) :: R2)) :
    Calls Try.prog 40 #[.pointer (some ⟨rb, 0, none⟩), .int .i64 (k : Int)] w fun e w' => e = .returned (.int .i64 (R1.length : Int)) ∧ w' = w := by
  obtain ⟨g, cap, rfl, h1, h2, h3, h4, h5⟩ := h.cells (by simp)
  have hlt : R1.length < (R1 ++ (k, d, s) :: R2).length := by simp
  have hid := h.good.ids
  rw [List.map_append, List.nodup_append] at hid
  have := at_walk w rb g (R1 ++ (k, d, s) :: R2).length cap R1.length k (fun j => ((R1 ++ (k, d, s) :: R2).getD j (0, 0, 0)).1) h.c1 h.len_le (Nat.le_of_lt hlt) (fun j hj => by
      have e : (R1 ++ (k, d, s) :: R2)[j]? = some ((R1 ++ (k, d, s) :: R2).getD j (0, 0, 0)) := by rw [List.getD, List.getElem?_eq_getElem hj]; rfl
      exact (h5 j _ e).1) (fun j hj q => by
      have e : (R1 ++ (k, d, s) :: R2).getD j (0, 0, 0) ∈ R1 := by rw [List.getD, List.getElem?_append_left hj]; simp [hj]
      exact hid.2.2 _ (List.mem_map_of_mem (f := (·.1)) e) k (by simp) (by simpa using Int.ofNat.inj q)) (fun _ => by simp [List.getD])
  rw [if_pos hlt] at this
  exact this
end

theorem bef_ah (d1 s1 i1 d2 s2 i2 : Nat) : bef d1 s1 i1 d2 s2 i2 = decide (ah (i1, d1, s1) (i2, d2, s2)) := by
  unfold bef ah
  by_cases h1 : d1 = d2
  · by_cases h2 : s1 = s2
    · simp [h1, h2]
    · simp [h1, h2]
  · simp [h1]
set_option maxHeartbeats 1000000 in
theorem ahead_bef (d1 s1 i1 d2 s2 i2 : Nat) (w : World) :
    Calls Try.prog 48 #[.agg #[.int .i64 i1, .int .u64 d1, .int .u64 s1], .agg #[.int .i64 i2, .int .u64 d2, .int .u64 s2]] w fun e w' => e = .returned (.bool (bef d1 s1 i1 d2 s2 i2)) ∧ Below w.heap.size w w' := by
  generalize hb : bef d1 s1 i1 d2 s2 i2 = bb
  unfold bef at hb
  by_cases h1 : d1 = d2
  · rw [if_pos h1] at hb
    by_cases h2 : s1 = s2
    · rw [if_pos h2] at hb
      subst h1 h2
      go_enter Try.func48, Try.ntmps48
      go_wp2
      go_ret
      exact ⟨by rw [← hb]; simp, ((Below.refl _ _).alloc (Nat.le_refl _) _).alloc (by simp) _⟩
    · rw [if_neg h2] at hb
      have h2' : ¬ (s1 : Int) = (s2 : Int) := by omega
      subst h1
      go_enter Try.func48, Try.ntmps48
      go_wp2
      go_ret
      exact ⟨by rw [← hb]; simp, ((Below.refl _ _).alloc (Nat.le_refl _) _).alloc (by simp) _⟩
  · rw [if_neg h1] at hb
    have h1' : ¬ (d1 : Int) = (d2 : Int) := by omega
    go_enter Try.func48, Try.ntmps48
    go_wp2
    go_ret
    exact ⟨by rw [← hb]; simp, ((Below.refl _ _).alloc (Nat.le_refl _) _).alloc (by simp) _⟩
theorem ahead_ok (a b : Item) (w : World) :
    Calls Try.prog 48 #[.agg #[.int .i64 (a.1 : Int), .int .u64 (a.2.1 : Int), .int .u64 (a.2.2 : Int)], .agg #[.int .i64 (b.1 : Int), .int .u64 (b.2.1 : Int), .int .u64 (b.2.2 : Int)]] w fun e w' => e = .returned (.bool (decide (ah a b))) ∧ Below w.heap.size w w' := by
  have := ahead_bef a.2.1 a.2.2 a.1 b.2.1 b.2.2 b.1 w
  rw [bef_ah] at this
  exact this
end Go.Proofs.Ytiledmfnhahmiaa
