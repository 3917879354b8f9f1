/-
  'live' of the sets; a nil set's calls; sizes that may not be.
-/
import Derived.Test.YtfadckkebfgheaaY5
namespace Go.Proofs.Ytfadckkebfgheaa
open Go.RowKit
set_option linter.unusedVariables false
attribute [local go_sem ↓] Go.wp_at_zero Go.wp_at_succ

set_option maxHeartbeats 2000000 in
theorem live_ready (w : World) :
    Calls Try.prog 12 #[] w fun e w' => e = .returned (.bool true) ∧ Below w.heap.size w w' := by
  have HN := veil (snew_ok 4 4 w (by decide) (by decide) (by decide) (by decide))
  have HP1 : Hid (∀ (W : World) (sb qb gq hb gh : Nat), St W sb qb gq hb gh 4 4 0 [] [] → Calls Try.prog 20 #[.pointer (some ⟨sb, 0, none⟩), .int .i64 1, .agg #[.bool false, .int .u64 0, .int .u8 3]] W fun e w' => e = .returned (.int .i64 0) ∧ St w' sb qb gq hb gh 4 4 1 [(1, 3)] [] ∧ Fr (fun k => k = sb ∨ k = qb ∨ k = gq) W w') := fun W sb qb gq hb gh h => sPut_level h (by decide) 1 3 (by decide) (by decide) (by simp) (by simp) (by decide) (by decide)
  have HP2 : Hid (∀ (W : World) (sb qb gq hb gh : Nat), St W sb qb gq hb gh 4 4 1 [(1, 3)] [] → Calls Try.prog 20 #[.pointer (some ⟨sb, 0, none⟩), .int .i64 2, .agg #[.bool true, .int .u64 9, .int .u8 0]] W fun e w' => e = .returned (.int .i64 0) ∧ St w' sb qb gq hb gh 4 4 2 [(1, 3)] [(2, 9, 1)] ∧ Fr (fun k => k = sb ∨ k = hb ∨ k = gh) W w') := fun W sb qb gq hb gh h => sPut_dead h (by decide) 2 9 (by decide) (by simp) (by simp) (by decide) (by decide)
  have HT : Hid (∀ (W : World) (sb qb gq hb gh : Nat), St W sb qb gq hb gh 4 4 2 [(1, 3)] [(2, 9, 1)] → Calls Try.prog 15 #[.pointer (some ⟨sb, 0, none⟩)] W fun e w' => e = .returned (.tuple #[.int .i64 2, .agg #[.bool true, .int .u64 9, .int .u8 0], .bool true]) ∧ St w' sb qb gq hb gh 4 4 2 [(1, 3)] [] ∧ Fr (fun k => k = hb ∨ k = gh) W w') := fun W sb qb gq hb gh h => stake_heap h (by simp)
  have HLn : Hid (∀ (W : World) (sb qb gq hb gh : Nat), St W sb qb gq hb gh 4 4 2 [(1, 3)] [] → Calls Try.prog 17 #[.pointer (some ⟨sb, 0, none⟩)] W fun e w' => e = .returned (.int .i64 1) ∧ Below W.heap.size W w') := fun W sb qb gq hb gh h => slen_ok h (by decide)
  go_enter Try.func12, Try.ntmps12
  go_wp2_with (first
    | (go_at_call 26; refine (HN.out).mono ?_; rintro e w1 ⟨sb, qb, gq, hb, gh, rfl, g1, g2, g3, g4, g5, hs, hb1⟩; have HS1 := veil hs; have HB1 := veil hb1; clear hs hb1)
    | (go_at_call 20; refine (HP2.out _ sb qb gq hb gh HS2.out).mono ?_; rintro e w3 ⟨rfl, hs, hf⟩; have HS3 := veil hs; have HB3 := veil (HB2.out.trans (hf.below HB2.out.size (by rintro k (q | q | q) <;> omega))); clear hs hf)
    | (go_at_call 20; refine (HP1.out _ sb qb gq hb gh HS1.out).mono ?_; rintro e w2 ⟨rfl, hs, hf⟩; have HS2 := veil hs; have HB2 := veil (HB1.out.trans (hf.below HB1.out.size (by rintro k (q | q | q) <;> omega))); clear hs hf)
    | (go_at_call 15; refine (HT.out _ sb qb gq hb gh HS3.out).mono ?_; rintro e w4 ⟨rfl, hs, hf⟩; have HS4 := veil hs; have HB4 := veil (HB3.out.trans (hf.below HB3.out.size (by rintro k (q | q) <;> omega))); have hz4 := HB4.out.size; clear hs hf)
    | (go_at_call 17; refine (HLn.out _ sb qb gq hb gh (HS4.out.below ((Below.refl _ _).alloc (Nat.le_refl _) _))).mono ?_; rintro e w5 ⟨rfl, hb5⟩; have HB5 := veil ((HB4.out.alloc hz4 _).trans (hb5.mono (by simp; omega))); clear hb5))
  go_ret
  exact ⟨rfl, HB5.out⟩
theorem top_nil (w : World) :
    Calls Try.prog 24 #[.pointer none] w fun e w' => e = .returned (.tuple #[.int .i64 0, .agg #[.bool false, .int .u64 0, .int .u8 0], .bool false]) ∧ Below w.heap.size w w' := by
  go_enter Try.func24, Try.ntmps24
  go_wp2
  refine bodyPost_ret (v := .tuple #[.int .i64 0, .agg #[.bool false, .int .u64 0, .int .u8 0], .bool false]) ?_ rfl ?_
  · simp [results, Try.f24, go_sem]
  · refine ⟨rfl, ?_⟩
    first
      | exact (((((Below.refl _ _).alloc (Nat.le_refl _) _).setCell (p := ⟨w.heap.size, 0, none⟩) (Nat.le_refl _) _).setCell (p := ⟨w.heap.size, 1, none⟩) (Nat.le_refl _) _).setCell (p := ⟨w.heap.size, 2, none⟩) (Nat.le_refl _) _)
      | exact (((((Below.refl _ _).alloc (Nat.le_refl _) _).setCell (p := ⟨w.heap.size, 0, none⟩) (Nat.le_refl _) _).setCell (p := ⟨w.heap.size, 1, none⟩) (Nat.le_refl _) _).setCell (p := ⟨w.heap.size, 2, none⟩) (Nat.le_refl _) _).drew
      | exact (Below.refl _ _).alloc (Nat.le_refl _) _
      | exact ((Below.refl _ _).alloc (Nat.le_refl _) _).drew
theorem key_nil (id : Int) (w : World) :
    Calls Try.prog 18 #[.pointer none, .int .i64 id] w fun e w' => e = .returned (.tuple #[.agg #[.bool false, .int .u64 0, .int .u8 0], .bool false]) ∧ Below w.heap.size w w' := by
  go_enter Try.func18, Try.ntmps18
  go_wp2
  refine bodyPost_ret (v := .tuple #[.agg #[.bool false, .int .u64 0, .int .u8 0], .bool false]) ?_ rfl ?_
  · simp [results, Try.f18, go_sem]
  · refine ⟨rfl, ?_⟩
    first
      | exact (((((Below.refl _ _).alloc (Nat.le_refl _) _).setCell (p := ⟨w.heap.size, 0, none⟩) (Nat.le_refl _) _).setCell (p := ⟨w.heap.size, 1, none⟩) (Nat.le_refl _) _).setCell (p := ⟨w.heap.size, 2, none⟩) (Nat.le_refl _) _)
      | exact (((((Below.refl _ _).alloc (Nat.le_refl _) _).setCell (p := ⟨w.heap.size, 0, none⟩) (Nat.le_refl _) _).setCell (p := ⟨w.heap.size, 1, none⟩) (Nat.le_refl _) _).setCell (p := ⟨w.heap.size, 2, none⟩) (Nat.le_refl _) _).drew
      | exact (Below.refl _ _).alloc (Nat.le_refl _) _
set_option maxHeartbeats 1000000 in
theorem take_nil (w : World) :
    Calls Try.prog 15 #[.pointer none] w fun e w' => e = .returned (.tuple #[.int .i64 0, .agg #[.bool false, .int .u64 0, .int .u8 0], .bool false]) ∧ Below w.heap.size w w' := by
  have hz : (w.alloc (.cells #[.bool false, .int .u64 0, .int .u8 0] 34)).heap.size = w.heap.size + 1 := by simp
  have HZ := veil hz
  clear hz
  go_enter Try.func15, Try.ntmps15
  go_wp2_with (go_at_call 24; refine (top_nil _).mono ?_; rintro e w1 ⟨rfl, hb1⟩; have HB := veil (((Below.refl w.heap.size w).alloc (Nat.le_refl _) (.cells #[.bool false, .int .u64 0, .int .u8 0] 34)).trans (hb1.mono (by simp))); have hz1 : w.heap.size + 1 ≤ w1.heap.size := (by rw [← HZ.out]; exact hb1.size); have k0 : w1.cell? ⟨w.heap.size, 0, none⟩ = some (.bool false) := (hb1.cell (p := ⟨w.heap.size, 0, none⟩) (by simp)).trans (Ph.cell_new _ _ _ _); have k1 : w1.cell? ⟨w.heap.size, 1, none⟩ = some (.int .u64 0) := (hb1.cell (p := ⟨w.heap.size, 1, none⟩) (by simp)).trans (Ph.cell_new _ _ _ _); have k2 : w1.cell? ⟨w.heap.size, 2, none⟩ = some (.int .u8 0) := (hb1.cell (p := ⟨w.heap.size, 2, none⟩) (by simp)).trans (Ph.cell_new _ _ _ _); have f0 : w1.frozen? ⟨w.heap.size, 0, none⟩ = false := (World.frozen?_of_block (a := ⟨w.heap.size, 0, none⟩) (hb1.block w.heap.size (by simp))).trans (Ph.frozen_new _ _ _ _); have f1 : w1.frozen? ⟨w.heap.size, 1, none⟩ = false := (World.frozen?_of_block (a := ⟨w.heap.size, 1, none⟩) (hb1.block w.heap.size (by simp))).trans (Ph.frozen_new _ _ _ _); have f2 : w1.frozen? ⟨w.heap.size, 2, none⟩ = false := (World.frozen?_of_block (a := ⟨w.heap.size, 2, none⟩) (hb1.block w.heap.size (by simp))).trans (Ph.frozen_new _ _ _ _); clear hb1)
  have K0 : (w1.alloc (.cells #[.bool false, .int .u64 0, .int .u8 0] 34)).cell? ⟨w.heap.size, 0, none⟩ = some (.bool false) := by rw [World.cell?_alloc_lt _ _ _ (by simp; omega)]; exact k0
  have G0 : (w1.alloc (.cells #[.bool false, .int .u64 0, .int .u8 0] 34)).frozen? ⟨w.heap.size, 0, none⟩ = false := (World.frozen?_alloc_past _ _ _ (by omega)).trans f0
  have K1 : (w1.alloc (.cells #[.bool false, .int .u64 0, .int .u8 0] 34)).cell? ⟨w.heap.size, 1, none⟩ = some (.int .u64 0) := by rw [World.cell?_alloc_lt _ _ _ (by simp; omega)]; exact k1
  have G1 : (w1.alloc (.cells #[.bool false, .int .u64 0, .int .u8 0] 34)).frozen? ⟨w.heap.size, 1, none⟩ = false := (World.frozen?_alloc_past _ _ _ (by omega)).trans f1
  have K2 : (w1.alloc (.cells #[.bool false, .int .u64 0, .int .u8 0] 34)).cell? ⟨w.heap.size, 2, none⟩ = some (.int .u8 0) := by rw [World.cell?_alloc_lt _ _ _ (by simp; omega)]; exact k2
  have G2 : (w1.alloc (.cells #[.bool false, .int .u64 0, .int .u8 0] 34)).frozen? ⟨w.heap.size, 2, none⟩ = false := (World.frozen?_alloc_past _ _ _ (by omega)).trans f2
  clear k0 k1 k2 f0 f1 f2
  have y0 : ¬ w1.heap.size = w.heap.size := by omega
  have y1 : ¬ w.heap.size = w1.heap.size := by omega
  go_region_held3 (fun w' => w'.cell? ⟨w1.heap.size, 0, none⟩ = some (.bool false) ∧ w'.cell? ⟨w1.heap.size, 1, none⟩ = some (.int .u64 0) ∧ w'.cell? ⟨w1.heap.size, 2, none⟩ = some (.int .u8 0))
    (first | go_keep)
    (fail)
  go_wp2
  refine bodyPost_ret (v := .tuple #[.int .i64 0, .agg #[.bool false, .int .u64 0, .int .u8 0], .bool false]) ?_ rfl ?_
  · simp [results, Try.f15, go_sem, K0, K1, K2]
  · refine ⟨rfl, ?_⟩
    exact (((((HB.out.alloc (by omega) _).setCell (p := ⟨w.heap.size, 0, none⟩) (Nat.le_refl _) _).setCell (p := ⟨w.heap.size, 1, none⟩) (Nat.le_refl _) _).setCell (p := ⟨w.heap.size, 2, none⟩) (Nat.le_refl _) _)).drew
theorem len_nil (w : World) : Calls Try.prog 17 #[.pointer none] w fun e w' => e = .returned (.int .i64 0) ∧ w' = w := by
  go_enter Try.func17, Try.ntmps17
  go_wp2
  go_ret
  exact ⟨rfl, rfl⟩
theorem fork_nil (w : World) : Calls Try.prog 21 #[.pointer none] w fun e w' => e = .returned (.pointer none) ∧ w' = w := by
  go_enter Try.func21, Try.ntmps21
  go_wp2
  go_ret
  exact ⟨rfl, rfl⟩
theorem list_nil (w : World) : Calls Try.prog 14 #[.pointer none] w fun e w' => e = .returned (.slice none 0 0) ∧ w' = w := by
  go_enter Try.func14, Try.ntmps14
  go_wp2
  go_ret
  exact ⟨rfl, rfl⟩
theorem remove_nil (id : Int) (w : World) : Calls Try.prog 25 #[.pointer none, .int .i64 id] w fun e w' => e = .returned (.int .i64 1) ∧ w' = w := by
  go_enter Try.func25, Try.ntmps25
  go_wp2
  go_ret
  exact ⟨rfl, rfl⟩
theorem may_nil (id d l : Int) (e : Bool) (w : World) : Calls Try.prog 41 #[.pointer none, .int .i64 id, .agg #[.bool e, .int .u64 d, .int .u8 l]] w fun e w' => e = .returned (.int .i64 1) ∧ Below w.heap.size w w' := by
  go_enter Try.func41, Try.ntmps41
  go_wp2
  go_ret
  exact ⟨rfl, (Below.refl _ _).alloc (Nat.le_refl _) _⟩
theorem put_nil (id d l : Int) (e : Bool) (w : World) : Calls Try.prog 20 #[.pointer none, .int .i64 id, .agg #[.bool e, .int .u64 d, .int .u8 l]] w fun e w' => e = .returned (.int .i64 1) ∧ Below w.heap.size w w' := by
  go_enter Try.func20, Try.ntmps20
  go_wp2_with (go_at_call 41; refine (may_nil _ _ _ _ _).mono ?_; rintro e w1 ⟨rfl, hb⟩; have HB := veil (((Below.refl w.heap.size w).alloc (Nat.le_refl _) _).trans (hb.mono (by simp))); clear hb)
  go_ret
  exact ⟨rfl, HB.out⟩
theorem change_nil (id d l : Int) (e : Bool) (w : World) : Calls Try.prog 19 #[.pointer none, .int .i64 id, .agg #[.bool e, .int .u64 d, .int .u8 l]] w fun e w' => e = .returned (.int .i64 1) ∧ Below w.heap.size w w' := by
  go_enter Try.func19, Try.ntmps19
  go_wp2_with (go_at_call 41; refine (may_nil _ _ _ _ _).mono ?_; rintro e w1 ⟨rfl, hb⟩; have HB := veil (((Below.refl w.heap.size w).alloc (Nat.le_refl _) _).trans (hb.mono (by simp))); clear hb)
  go_ret
  exact ⟨rfl, HB.out⟩
theorem new_not (n most : Int) (w : World) (h : n < 1 ∨ 1024 < n ∨ most < 1 ∨ n < most) :
    Calls Try.prog 26 #[.int .i64 n, .int .i64 most] w fun e w' => e = .returned (.pointer none) ∧ Below w.heap.size w w' := by
  have key : (decide (n < 1) || decide (1024 < n) || decide (most < 1) || decide (n < most)) = true := by simp; omega
  by_cases h1 : n < 1
  · go_enter Try.func26, Try.ntmps26
    go_wp2
    go_ret
    exact ⟨rfl, Below.refl _ _⟩
  · by_cases h2 : 1024 < n
    · go_enter Try.func26, Try.ntmps26
      go_wp2
      go_ret
      exact ⟨rfl, Below.refl _ _⟩
    · by_cases h3 : most < 1
      · go_enter Try.func26, Try.ntmps26
        go_wp2
        go_ret
        exact ⟨rfl, Below.refl _ _⟩
      · have h4 : n < most := by omega
        go_enter Try.func26, Try.ntmps26
        go_wp2
        go_ret
        exact ⟨rfl, Below.refl _ _⟩
end Go.Proofs.Ytfadckkebfgheaa
