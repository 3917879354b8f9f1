/-
  live: what must be whatever is asked.
-/
import Derived.Test.YtlfejgjhamcahaaZ21
namespace Go.Proofs.Ytlfejgjhamcahaa
open Go.RowKit Go.Lib
set_option linter.unusedVariables false
attribute [local go_sem ↓] Go.wp_at_zero Go.wp_at_succ

theorem lv1 : pputC 2 4 (gh [[], [], []]) 0 1 ⟨false, 0, 4⟩ = 0 ∧ pputG 2 4 2 (gh [[], [], []]) 0 1 ⟨false, 0, 4⟩ = [[(1, ⟨false, 0, 4⟩)], [], []] := by decide +kernel
theorem lv2 : pputC 2 4 (gh [[(1, ⟨false, 0, 4⟩)], [], []]) 1 2 ⟨false, 0, 6⟩ = 0 ∧ pputG 2 4 2 (gh [[(1, ⟨false, 0, 4⟩)], [], []]) 1 2 ⟨false, 0, 6⟩ = [[(1, ⟨false, 0, 4⟩)], [(2, ⟨false, 0, 6⟩)], []] := by decide +kernel
theorem lv3 : bb 2 (gh [[(1, ⟨false, 0, 4⟩)], [(2, ⟨false, 0, 6⟩)], []]) 0 0 = some 1 := by decide +kernel
def LvS (w W : World) (O : Nat → Prop) (pb T : Nat) (G : List (List En)) : Prop := PQ W O pb 4 2 2 T G ∧ (∀ k, O k → w.heap.size ≤ k) ∧ Below w.heap.size w W
theorem LvS.below {w W W' : World} {O : Nat → Prop} {pb T : Nat} {G : List (List En)} (h : LvS w W O pb T G) (hb : Below W.heap.size W W') : LvS w W' O pb T G := ⟨h.1.below hb, h.2.1, h.2.2.trans (hb.mono h.2.2.size)⟩
set_option maxHeartbeats 4000000 in
set_option maxRecDepth 20000 in
theorem live_procs (w : World) : Calls Try.prog 15 #[] w fun e w' => e = .returned (.bool true) ∧ Below w.heap.size w w' := by
  have HN := veil (pnew_pq 2 4 2 w (by omega) (by omega) (by omega))
  have HP1 : Hid (∀ W O pb, LvS w W O pb 0 [[], [], []] → Calls Try.prog 26 #[.pointer (some ⟨pb, 0, none⟩), .int .i64 0, .int .i64 1, .agg #[.bool false, .int .u64 0, .int .u8 4]] W fun e w' => e = .returned (.int .i64 0) ∧ LvS w w' O pb 1 [[(1, ⟨false, 0, 4⟩)], [], []]) := fun W O pb h => by
    have := h.1.put (by omega) 0 1 ⟨false, 0, 4⟩ (by simp [Ke.K.ok])
    rw [lv1.1, lv1.2] at this
    refine this.mono ?_
    rintro e w' ⟨rfl, q1, q2⟩
    exact ⟨rfl, q1, h.2.1, h.2.2.trans (q2.below h.2.2.size h.2.1)⟩
  have HP2 : Hid (∀ W O pb, LvS w W O pb 1 [[(1, ⟨false, 0, 4⟩)], [], []] → Calls Try.prog 26 #[.pointer (some ⟨pb, 0, none⟩), .int .i64 1, .int .i64 2, .agg #[.bool false, .int .u64 0, .int .u8 6]] W fun e w' => e = .returned (.int .i64 0) ∧ LvS w w' O pb 2 [[(1, ⟨false, 0, 4⟩)], [(2, ⟨false, 0, 6⟩)], []]) := fun W O pb h => by
    have := h.1.put (by omega) 1 2 ⟨false, 0, 6⟩ (by simp [Ke.K.ok])
    rw [lv2.1, lv2.2] at this
    refine this.mono ?_
    rintro e w' ⟨rfl, q1, q2⟩
    exact ⟨rfl, q1, h.2.1, h.2.2.trans (q2.below h.2.2.size h.2.1)⟩
  have HBE : Hid (∀ W O pb, LvS w W O pb 2 [[(1, ⟨false, 0, 4⟩)], [(2, ⟨false, 0, 6⟩)], []] → Calls Try.prog 17 #[.pointer (some ⟨pb, 0, none⟩), .int .i64 0, .int .u64 0] W fun e w' => e = .returned (.tuple #[.int .i64 2, .agg #[.bool false, .int .u64 0, .int .u8 6], .int .i64 1, .bool true]) ∧ Below w.heap.size w w') := fun W O pb h => by
    have := h.1.best 0 0 (by omega)
    rw [lv3] at this
    refine this.mono ?_
    rintro e w' ⟨rfl, q1⟩
    exact ⟨rfl, h.2.2.trans (q1.mono h.2.2.size)⟩
  go_enter Try.func15, Try.ntmps15
  go_wp2_with (first
    | (go_at_call 31; refine (HN.out).mono ?_; rintro e w1 ⟨O, rfl, hq, ho, hb⟩; have HS1 := veil (show LvS w w1 O _ 0 [[], [], []] from ⟨hq, ho, hb⟩); clear hq ho hb)
    | (go_at_call 26; have hh := HS2.out; clear hh; refine (HP2.out _ O _ (by exact HS2.out)).mono ?_; rintro e w3 ⟨rfl, hs⟩; have HS3 := veil hs; clear hs)
    | (go_at_call 26; refine (HP1.out _ O _ (by exact HS1.out)).mono ?_; rintro e w2 ⟨rfl, hs⟩; have HS2 := veil hs; clear hs)
    | (go_at_call 17; refine (HBE.out _ O _ (by exact HS3.out)).mono ?_; rintro e w4 ⟨rfl, hb4⟩; have HB4 := veil hb4; clear hb4))
  go_ret
  exact ⟨by simp, HB4.out.alloc HB4.out.size _⟩
end Go.Proofs.Ytlfejgjhamcahaa
