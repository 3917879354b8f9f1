/-
  The walks of both calls that hold two products against each other: each tells whether the first is less.
-/
import Derived.Test.YtjhhhmeoahbagabW5
namespace Go.Proofs.Ytjhhhmeoahbagab
open Go.RowKit Go.Lib

theorem mul_w (a b : Int) (w : World) (ha : W64 a) (hb : W64 b) :
    Calls Try.prog 10 #[.int .u64 a, .int .u64 b] w fun e w' => e = .returned (.agg #[.int .u64 (hiN a b), .int .u64 (loN a b)]) ∧ ∃ c : Array Value, w' = w.alloc (.cells c 26) :=
  mul_any a b w ha.1 ha.2 hb.1 hb.2

def lessN (a b c d : Int) : Bool := decide (a * b < c * d)
theorem less_hi (a b c d : Int) (h : hiN a b < hiN c d) : lessN a b c d = true := by
  unfold lessN hiN at *; generalize a * b = x at *; generalize c * d = y at *; simp; omega
theorem less_hi' (a b c d : Int) (h : hiN c d < hiN a b) : lessN a b c d = false := by
  unfold lessN hiN at *; generalize a * b = x at *; generalize c * d = y at *; simp; omega
theorem less_lo (a b c d : Int) (h : hiN a b = hiN c d) : lessN a b c d = decide (loN a b < loN c d) := by
  unfold lessN hiN loN at *; generalize a * b = x at *; generalize c * d = y at *
  rw [Bool.eq_iff_iff]; simp; omega

set_option maxHeartbeats 1000000 in
theorem less_any (a b c d : Int) (w : World) (ha : W64 a) (hb : W64 b) (hc : W64 c) (hd : W64 d) :
    Calls Try.prog 9 #[.int .u64 a, .int .u64 b, .int .u64 c, .int .u64 d] w fun e w' => e = .returned (.bool (lessN a b c d)) ∧ ∃ c1 c2 c3 c4 : Array Value, w' = (((w.alloc (.cells c1 26)).alloc (.cells c2 26)).alloc (.cells c3 26)).alloc (.cells c4 26) := by
  obtain ⟨a0, a1⟩ := ha; obtain ⟨b0, b1⟩ := hb; obtain ⟨c0, c1⟩ := hc; obtain ⟨d0, d1⟩ := hd
  rcases Int.lt_trichotomy (hiN a b) (hiN c d) with h | h | h
  · rw [less_hi a b c d h]
    have h' : (hiN a b == hiN c d) = false := by simp; omega
    go_enter Try.func9, Try.ntmps9
    go_wp2_with (go_at_call 10; refine (mul_any _ _ _ (by assumption) (by assumption) (by assumption) (by assumption)).mono ?_; rintro e w' ⟨rfl, c, rfl⟩)
    go_ret
    exact ⟨rfl, _, _, _, _, rfl⟩
  · rw [less_lo a b c d h]
    have h' : (hiN a b == hiN c d) = true := by simp [h]
    clear h
    by_cases hl : loN a b < loN c d
    all_goals
      go_enter Try.func9, Try.ntmps9
      go_wp2_with (go_at_call 10; refine (mul_any _ _ _ (by assumption) (by assumption) (by assumption) (by assumption)).mono ?_; rintro e w' ⟨rfl, c, rfl⟩)
      go_ret
      refine ⟨?_, _, _, _, _, rfl⟩
      simp [hl]
  · rw [less_hi' a b c d h]
    have h' : (hiN a b == hiN c d) = false := by simp; omega
    have h2 : ¬ hiN a b < hiN c d := by omega
    go_enter Try.func9, Try.ntmps9
    go_wp2_with (go_at_call 10; refine (mul_any _ _ _ (by assumption) (by assumption) (by assumption) (by assumption)).mono ?_; rintro e w' ⟨rfl, c, rfl⟩)
    go_ret
    refine ⟨?_, _, _, _, _, rfl⟩
    simp; omega

end Go.Proofs.Ytjhhhmeoahbagab
