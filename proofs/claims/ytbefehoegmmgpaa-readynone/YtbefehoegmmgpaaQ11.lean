/-
  The walks of a nil queue's calls, of New where it may not be, and of 'live'.
-/
import Derived.Test.YtbefehoegmmgpaaQ10
namespace Go.Proofs.Ytbefehoegmmgpaa.Bq
open Go.RowKit Go.Lib

theorem new_not (n : Int) (w : World) (h : n < 1 ∨ 1024 < n) :
    Calls Try.prog 52 #[.int .i64 n] w fun e w' => e = .returned (.pointer none) ∧ w' = w := by
  by_cases h1 : n < 1
  · go_enter Try.func52, Try.ntmps52
    go_wp2
    go_ret
    exact ⟨rfl, rfl⟩
  · have h2 : 1024 < n := by omega
    go_enter Try.func52, Try.ntmps52
    go_wp2
    go_ret
    exact ⟨rfl, rfl⟩
theorem push_nil (lv id : Int) (w : World) :
    Calls Try.prog 74 #[.pointer none, .int .u8 lv, .int .i64 id] w fun e w' => e = .returned (.int .i64 1) ∧ w' = w := by
  go_enter Try.func74, Try.ntmps74
  go_wp2
  go_ret
  exact ⟨rfl, rfl⟩
theorem remove_nil (id : Int) (w : World) :
    Calls Try.prog 50 #[.pointer none, .int .i64 id] w fun e w' => e = .returned (.int .i64 1) ∧ w' = w := by
  go_enter Try.func50, Try.ntmps50
  go_wp2
  go_ret
  exact ⟨rfl, rfl⟩
theorem level_nil (id : Int) (w : World) :
    Calls Try.prog 57 #[.pointer none, .int .i64 id] w fun e w' => e = .returned (.tuple #[.int .u8 0, .bool false]) ∧ w' = w := by
  go_enter Try.func57, Try.ntmps57
  go_wp2
  go_ret2
  exact ⟨rfl, rfl⟩
theorem mask_nil (w : World) :
    Calls Try.prog 76 #[.pointer none] w fun e w' => e = .returned (.agg #[.int .u64 0, .int .u64 0, .int .u64 0, .int .u64 0]) ∧ ∃ d : Array Value, w' = w.alloc (.cells d 85) := by
  go_enter Try.func76, Try.ntmps76
  go_wp2
  simp [bodyPost, results, Try.results76, go_sem]
  exact ⟨_, rfl⟩
theorem len_nil (w : World) :
    Calls Try.prog 38 #[.pointer none] w fun e w' => e = .returned (.int .i64 0) ∧ w' = w := by
  go_enter Try.func38, Try.ntmps38
  go_wp2
  go_ret
  exact ⟨rfl, rfl⟩
theorem fork_nil (w : World) :
    Calls Try.prog 43 #[.pointer none] w fun e w' => e = .returned (.pointer none) ∧ w' = w := by
  go_enter Try.func43, Try.ntmps43
  go_wp2
  go_ret
  exact ⟨rfl, rfl⟩
theorem list_nil (lv : Int) (w : World) :
    Calls Try.prog 37 #[.pointer none, .int .u8 lv] w fun e w' => e = .returned (.slice none 0 0) ∧ w' = w := by
  go_enter Try.func37, Try.ntmps37
  go_wp2
  go_ret
  exact ⟨rfl, rfl⟩
theorem w64_zero : W64 0 := ⟨by decide, by decide⟩
theorem hi_zero : hiBit 0 0 0 0 = -1 := by decide +kernel
theorem top_nil (w : World) :
    Calls Try.prog 67 #[.pointer none] w fun e w' => e = .returned (.tuple #[.int .u8 0, .int .i64 0, .bool false]) ∧ ∃ d d2 : Array Value, w' = (w.alloc (.cells d 85)).alloc (.cells d2 85) := by
  have hz := hi_zero
  go_enter Try.func67, Try.ntmps67
  go_wp2_with (first
    | (go_at_call 76; refine (mask_nil _).mono ?_; rintro e w' ⟨rfl, d, hw⟩; subst hw)
    | (go_at_call 75; refine (highest_any 0 0 0 0 _ w64_zero w64_zero w64_zero w64_zero).mono ?_; rintro e w' ⟨rfl, d2, hw⟩; subst hw))
  go_ret3
  exact ⟨rfl, _, _, rfl⟩
theorem best_live : Best [(1, 5), (2, 9), (3, 5)] 9 := by
  refine ⟨by decide, by decide, fun k hk hlt => ?_⟩
  rw [show ([(1, 5), (2, 9), (3, 5)] : List (Nat × Nat)) = ([] ++ [(1, 5)] ++ [(2, 9)]) ++ [(3, 5)] from rfl, QL_snoc, if_neg (by omega), QL_snoc, if_neg (by omega), QL_snoc, if_neg (by omega)]
  rfl

end Go.Proofs.Ytbefehoegmmgpaa.Bq
