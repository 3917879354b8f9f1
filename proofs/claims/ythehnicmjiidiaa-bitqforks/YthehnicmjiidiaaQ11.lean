/-
  The walks of a nil queue's calls, of New where it may not be, and of 'live'.
-/
import Derived.Test.YthehnicmjiidiaaQ10
namespace Go.Proofs.Ythehnicmjiidiaa
open Go.RowKit Go.Lib

theorem new_not (n : Int) (w : World) (h : n < 1 ∨ 1024 < n) :
    Calls Try.prog 26 #[.int .i64 n] w fun e w' => e = .returned (.pointer none) ∧ w' = w := by
  by_cases h1 : n < 1
  · go_enter Try.func26, Try.ntmps26
    go_wp2
    go_ret
    exact ⟨rfl, rfl⟩
  · have h2 : 1024 < n := by omega
    go_enter Try.func26, Try.ntmps26
    go_wp2
    go_ret
    exact ⟨rfl, rfl⟩
theorem push_nil (lv id : Int) (w : World) :
    Calls Try.prog 22 #[.pointer none, .int .u8 lv, .int .i64 id] w fun e w' => e = .returned (.int .i64 1) ∧ w' = w := by
  go_enter Try.func22, Try.ntmps22
  go_wp2
  go_ret
  exact ⟨rfl, rfl⟩
theorem remove_nil (id : Int) (w : World) :
    Calls Try.prog 20 #[.pointer none, .int .i64 id] w fun e w' => e = .returned (.int .i64 1) ∧ w' = w := by
  go_enter Try.func20, Try.ntmps20
  go_wp2
  go_ret
  exact ⟨rfl, rfl⟩
theorem level_nil (id : Int) (w : World) :
    Calls Try.prog 19 #[.pointer none, .int .i64 id] w fun e w' => e = .returned (.tuple #[.int .u8 0, .bool false]) ∧ w' = w := by
  go_enter Try.func19, Try.ntmps19
  go_wp2
  go_ret2
  exact ⟨rfl, rfl⟩
theorem mask_nil (w : World) :
    Calls Try.prog 15 #[.pointer none] w fun e w' => e = .returned (.agg #[.int .u64 0, .int .u64 0, .int .u64 0, .int .u64 0]) ∧ ∃ d : Array Value, w' = w.alloc (.cells d 37) := by
  go_enter Try.func15, Try.ntmps15
  go_wp2
  simp [bodyPost, results, Try.results15, go_sem]
  exact ⟨_, rfl⟩
theorem len_nil (w : World) :
    Calls Try.prog 13 #[.pointer none] w fun e w' => e = .returned (.int .i64 0) ∧ w' = w := by
  go_enter Try.func13, Try.ntmps13
  go_wp2
  go_ret
  exact ⟨rfl, rfl⟩
theorem fork_nil (w : World) :
    Calls Try.prog 23 #[.pointer none] w fun e w' => e = .returned (.pointer none) ∧ w' = w := by
  go_enter Try.func23, Try.ntmps23
  go_wp2
  go_ret
  exact ⟨rfl, rfl⟩
theorem list_nil (lv : Int) (w : World) :
    Calls Try.prog 17 #[.pointer none, .int .u8 lv] w fun e w' => e = .returned (.slice none 0 0) ∧ w' = w := by
  go_enter Try.func17, Try.ntmps17
  go_wp2
  go_ret
  exact ⟨rfl, rfl⟩
theorem w64_zero : W64 0 := ⟨by decide, by decide⟩
theorem hi_zero : hiBit 0 0 0 0 = -1 := by decide +kernel
theorem top_nil (w : World) :
    Calls Try.prog 16 #[.pointer none] w fun e w' => e = .returned (.tuple #[.int .u8 0, .int .i64 0, .bool false]) ∧ ∃ d d2 : Array Value, w' = (w.alloc (.cells d 37)).alloc (.cells d2 37) := by
  have hz := hi_zero
  go_enter Try.func16, Try.ntmps16
  go_wp2_with (first
    | (go_at_call 15; refine (mask_nil _).mono ?_; rintro e w' ⟨rfl, d, hw⟩; subst hw)
    | (go_at_call 34; refine (highest_any 0 0 0 0 _ w64_zero w64_zero w64_zero w64_zero).mono ?_; rintro e w' ⟨rfl, d2, hw⟩; subst hw))
  go_ret3
  exact ⟨rfl, _, _, rfl⟩
theorem pop_nil (w : World) :
    Calls Try.prog 14 #[.pointer none] w fun e w' => e = .returned (.tuple #[.int .u8 0, .int .i64 0, .bool false]) ∧ ∃ d d2 : Array Value, w' = (w.alloc (.cells d 37)).alloc (.cells d2 37) := by
  go_enter Try.func14, Try.ntmps14
  go_wp2_with (go_at_call 16; refine (top_nil _).mono ?_; rintro e w' ⟨rfl, d, d2, hw⟩; subst hw)
  go_ret3
  exact ⟨rfl, _, _, rfl⟩

theorem best_live : Best [(1, 5), (2, 9), (3, 5)] 9 := by
  refine ⟨by decide, by decide, fun k hk hlt => ?_⟩
  rw [show ([(1, 5), (2, 9), (3, 5)] : List (Nat × Nat)) = ([] ++ [(1, 5)] ++ [(2, 9)]) ++ [(3, 5)] from rfl, QL_snoc, if_neg (by omega), QL_snoc, if_neg (by omega), QL_snoc, if_neg (by omega)]
  rfl

set_option maxHeartbeats 1000000 in
theorem live_queue (w : World) :
    Calls Try.prog 11 #[] w fun e w' => e = .returned (.bool true) ∧ Below w.heap.size w w' := by
  have hN : Calls Try.prog 26 #[.int .i64 4] w fun e w' => e = .returned (.pointer (some ⟨w.heap.size + 1, 0, none⟩)) ∧ IsQ w' (w.heap.size + 1) w.heap.size 4 [] ∧ Below w.heap.size w w' := new_ok 4 w (by decide) (by decide)
  have HN := veil hN
  clear hN
  go_enter Try.func11, Try.ntmps11
  go_wp2_with fail
  refine (HN.out).mono ?_
  rintro e w0 ⟨rfl, hq0, hb0⟩
  have P1 : Calls Try.prog 22 #[.pointer (some ⟨w.heap.size + 1, 0, none⟩), .int .u8 5, .int .i64 1] w0 fun e w' => e = .returned (.int .i64 0) ∧ IsQ w' (w.heap.size + 1) w.heap.size 4 [(1, 5)] ∧ Only (w.heap.size + 1) w.heap.size w0 w' :=
    push_ok w0 _ _ 4 [] 1 5 hq0 (by decide) (by decide) (by simp)
  have HP1 := veil P1
  have HB0 := veil hb0
  clear P1 hq0 hb0 HN
  go_wp2_with fail
  refine (HP1.out).mono ?_
  rintro e w1 ⟨rfl, hq1, ho1⟩
  have P2 : Calls Try.prog 22 #[.pointer (some ⟨w.heap.size + 1, 0, none⟩), .int .u8 9, .int .i64 2] w1 fun e w' => e = .returned (.int .i64 0) ∧ IsQ w' (w.heap.size + 1) w.heap.size 4 [(1, 5), (2, 9)] ∧ Only (w.heap.size + 1) w.heap.size w1 w' :=
    push_ok w1 _ _ 4 [(1, 5)] 2 9 hq1 (by decide) (by decide) (by simp)
  have HB1 := veil (HB0.out.trans (ho1.below (Nat.le_succ _) (Nat.le_refl _) HB0.out.size))
  have HP2 := veil P2
  clear P2 hq1 ho1 HP1
  go_wp2_with fail
  refine (HP2.out).mono ?_
  rintro e w2 ⟨rfl, hq2, ho2⟩
  have P3 : Calls Try.prog 22 #[.pointer (some ⟨w.heap.size + 1, 0, none⟩), .int .u8 5, .int .i64 3] w2 fun e w' => e = .returned (.int .i64 0) ∧ IsQ w' (w.heap.size + 1) w.heap.size 4 [(1, 5), (2, 9), (3, 5)] ∧ Only (w.heap.size + 1) w.heap.size w2 w' :=
    push_ok w2 _ _ 4 [(1, 5), (2, 9)] 3 5 hq2 (by decide) (by decide) (by simp)
  have HB2 := veil (HB1.out.trans (ho2.below (Nat.le_succ _) (Nat.le_refl _) HB1.out.size))
  have HP3 := veil P3
  clear P3 hq2 ho2 HP2
  go_wp2_with fail
  refine (HP3.out).mono ?_
  rintro e w3 ⟨rfl, hq3, ho3⟩
  have P4 : Calls Try.prog 14 #[.pointer (some ⟨w.heap.size + 1, 0, none⟩)] w3 fun e w' => e = .returned (.tuple #[.int .u8 9, .int .i64 2, .bool true]) ∧ (∃ R, R.length = 2 ∧ IsQ w' (w.heap.size + 1) w.heap.size 4 R) ∧ Only (w.heap.size + 1) w.heap.size w3 w' :=
    (pop_some w3 _ _ 4 [(1, 5), (2, 9), (3, 5)] 2 9 [] hq3 best_live (by decide)).mono (by
      rintro e w' ⟨he, ⟨R1, R2, hR, hq⟩, ho⟩
      refine ⟨he, ⟨R1 ++ R2, ?_, hq⟩, ho⟩
      have := congrArg List.length hR
      simp at this ⊢
      omega)
  have HB3 := veil (HB2.out.trans (ho3.below (Nat.le_succ _) (Nat.le_refl _) HB2.out.size))
  have HP4 := veil P4
  clear P4 hq3 ho3 HP3
  go_wp2_with fail
  refine (HP4.out).mono ?_
  rintro e w4 ⟨rfl, ⟨R, hl, hq4⟩, ho4⟩
  have P5 : Calls Try.prog 13 #[.pointer (some ⟨w.heap.size + 1, 0, none⟩)] w4 fun e w' => e = .returned (.int .i64 2) ∧ w' = w4 := by
    have := len_is w4 _ _ _ R hq4
    rw [hl] at this
    exact this
  have HB4 := veil (HB3.out.trans (ho4.below (Nat.le_succ _) (Nat.le_refl _) HB3.out.size))
  have HP5 := veil P5
  clear P5 hq4 ho4 HP4 hl
  go_wp2_with fail
  refine (HP5.out).mono ?_
  rintro e w5 ⟨rfl, hw⟩
  subst hw
  go_wp2
  go_ret
  exact ⟨rfl, HB4.out⟩
end Go.Proofs.Ythehnicmjiidiaa
