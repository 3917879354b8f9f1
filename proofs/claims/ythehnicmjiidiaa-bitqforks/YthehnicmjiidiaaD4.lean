/-
  The walks of the document's queue: Push, out.
-/
import Derived.Test.YthehnicmjiidiaaD3
namespace Go.Proofs.Ythehnicmjiidiaa
open Go.RowKit Go.Lib

theorem push_nodup {R : List (Nat × Nat)} {id lv : Nat} (hn : (R.map (·.1)).Nodup) (hid : ∀ it ∈ R, it.1 ≠ id) : ((R ++ [(id, lv)]).map (·.1)).Nodup := by
  rw [List.map_append, List.nodup_append]
  refine ⟨hn, by simp, ?_⟩
  intro a ha b hb
  obtain ⟨it, hit, rfl⟩ := List.mem_map.1 ha
  simp at hb
  subst hb
  exact hid it hit

section
variable {w : World} {base rb n : Nat} {v : Value} {R : List (Nat × Nat)}
theorem rpush_range (h : IsRef w base rb n v R) (lv : Nat) (id : Int) (hi : id < 0 ∨ (n : Int) ≤ id) :
    Calls Try.prog 39 #[.pointer (some ⟨rb, 0, none⟩), .int .u8 lv, .int .i64 id] w fun e w' => e = .returned (.int .i64 2) ∧ w' = w := by
  have e0 := h.c0
  clear h
  by_cases h0 : id < 0
  all_goals
    go_enter Try.func39, Try.ntmps39
    go_wp2
    go_ret
    exact ⟨rfl, rfl⟩
theorem rpush_known {R1 R2 : List (Nat × Nat)} {k l0 : Nat} (h : IsRef w base rb n v (R1 ++ (k, l0) :: R2)) (lv : Nat) :
    Calls Try.prog 39 #[.pointer (some ⟨rb, 0, none⟩), .int .u8 lv, .int .i64 (k : Int)] w fun e w' => e = .returned (.int .i64 5) ∧ w' = w := by
  have e0 := h.c0
  have hk := (h.rng (k, l0) (by simp)).1
  have hn := h.nle
  have HA := veil (rat_some h)
  clear h
  go_enter Try.func39, Try.ntmps39
  go_wp2_with (go_at_call 43; refine (HA.out).mono ?_; rintro e w1 ⟨rfl, hw⟩; subst hw)
  go_ret
  exact ⟨rfl, rfl⟩

set_option maxHeartbeats 1000000 in
theorem rpush_ok (h : IsRef w base rb n v R) (id lv : Nat) (hi : id < n) (hlv : lv < 256) (hid : ∀ it ∈ R, it.1 ≠ id) :
    Calls Try.prog 39 #[.pointer (some ⟨rb, 0, none⟩), .int .u8 lv, .int .i64 id] w fun e w' => e = .returned (.int .i64 0) ∧ (∃ v', IsRef w' base rb n v' (R ++ [(id, lv)])) ∧ Fr (fun k => k = rb ∨ some k = v.ownBlock) w w' := by
  obtain ⟨i0, hi0, hz0, hz1, hz2⟩ := info_parts infoItem
  have e0 := h.c0
  have e1 := h.c1
  have hn := h.nle
  have hlen := h.len_le
  have hrb := h.lt
  have hne := h.ne
  have hbs := h.bs
  have yb : ¬ rb = w.heap.size := by omega
  have f1 : w.frozen? ⟨rb, 1, none⟩ = false := by unfold World.frozen?; simp [h.blk]
  have HA := veil (rat_none h id (fun it hit q => hid it hit (by omega)))
  have HO := veil h.own
  have HF : Hid (∀ (w1 : World) (g cap : Nat), w1.ownsRow base 71 2 (.slice (some ⟨g, 0, none⟩) (R.length + 1) cap) (R.length + 1) (itemCells R ++ [.int .i64 (id : Int), .int .u8 (lv : Int)]) → (w.alloc (.cells #[.int .i64 (id : Int), .int .u8 (lv : Int)] 71)).grownBy w1 v.ownBlock → (v.ownBlock = some g ∨ g = w.heap.size + 1) →
      (∃ v', IsRef (w1.setCell ⟨rb, 1, none⟩ (.slice (some ⟨g, 0, none⟩) (R.length + 1) cap)) base rb n v' (R ++ [(id, lv)])) ∧ Fr (fun k => k = rb ∨ some k = v.ownBlock) w (w1.setCell ⟨rb, 1, none⟩ (.slice (some ⟨g, 0, none⟩) (R.length + 1) cap))) := by
    intro w1 g cap hown hg hat
    have hfr : Fr (fun k => k = rb ∨ some k = v.ownBlock) w w1 := by
      have a1 : Fr (fun k => k = rb ∨ some k = v.ownBlock) (w.alloc (.cells #[.int .i64 (id : Int), .int .u8 (lv : Int)] 71)) w1 := (Fr.of_grown hg).wide (fun k _ q => .inr q)
      exact ((Fr.refl _ _).alloc _).trans a1
    have hb1 : w1.heap[rb]? = some (.cells #[.int .i64 (n : Int), v] 69 (0, 0)) := by
      rw [hg.block rb (by simp; omega) (fun q => hne q.symm), Below.heap_alloc _ _ _ hrb]
      exact h.blk
    refine ⟨⟨_, IsRef.stored hb1 (by rw [itemCells_append, List.length_append]; exact hown) ?_ hn ?_ (push_nodup h.ids hid) (Nat.le_trans hbs hfr.size)⟩, hfr.setCell (.inl rfl) _⟩
    · intro q
      simp [Value.ownBlock] at q
      subst q
      rcases hat with q | q
      · exact hne q
      · omega
    · intro it hit
      rcases List.mem_append.1 hit with q | q
      · exact h.rng it q
      · simp at q
        subst q
        exact ⟨hi, hlv⟩
  have hv0 := h.form
  clear h hid
  go_enter Try.func39, Try.ntmps39
  go_wp2_with (first
    | (go_at_call 43; refine (HA.out).mono ?_; rintro e w1 ⟨rfl, hw⟩; replace hw := hw.symm; subst hw)
    | (at_builtin; refine wpList_append_lies _ rfl _ _ _ rfl base 71 i0 (.agg #[.int .i64 0, .int .u8 0]) 2 16 Try.underlying67 hi0 hz0 hz1 hz2 rfl (by omega) v R.length (itemCells R) (by rfl) (HO.out.alloc _) ⟨w.heap.size, 0, none⟩ 1 1 [.int .i64 (id : Int), .int .u8 (lv : Int)] (by rfl) rfl (World.news_of_block (cs := #[.int .i64 (id : Int), .int .u8 (lv : Int)]) (t := 71) (fr := (0, 0)) (heap_alloc_new w _)) (by simp [Value.oneCell']) (by omega) (by unfold maxLen; omega) (by omega) (by simp; omega) (w.heap.size + 1) (by simp) ?_; intro g cap w1 hown1 hgrow hat hlt; have HX := veil (HF.out w1 g cap hown1 hgrow hat); have f2 : w1.frozen? ⟨rb, 1, none⟩ = false := (hgrow.frozen_far _ (by simp; omega) (fun q => hne q.symm)).trans ((World.frozen?_alloc_past _ _ _ hrb).trans f1); have e2 : w1.cell? ⟨rb, 1, none⟩ = some v := (hgrow.cell_far _ (by simp; omega) (fun q => hne q.symm)).trans (by rw [World.cell?_alloc_lt _ _ _ (by simpa using hrb)]; exact e1); clear hown1 hgrow hat hlt))
  go_ret
  exact ⟨rfl, HX.out.1, HX.out.2⟩
end
end Go.Proofs.Ythehnicmjiidiaa
