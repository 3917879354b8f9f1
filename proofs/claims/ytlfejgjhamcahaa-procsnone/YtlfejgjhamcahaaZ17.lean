/-
  Best and Take where there is no such processor.
-/
import Derived.Test.YtlfejgjhamcahaaZ16
namespace Go.Proofs.Ytlfejgjhamcahaa
open Go.RowKit Go.Shelf
set_option linter.unusedVariables false
attribute [local go_sem] Oper.semAt_some

set_option maxRecDepth 100000 in
set_option maxHeartbeats 2000000 in
theorem pbest_no (w : World) (a : Option Addr) (p d : Int) (hh : ∀ W, Below w.heap.size w W → Calls Try.prog 41 #[.pointer a, .int .i64 p] W fun e w' => e = .returned (.bool false) ∧ w' = W) :
    Calls Try.prog 17 #[.pointer a, .int .i64 p, .int .u64 d] w fun e w' => e = .returned (.tuple #[.int .i64 0, .agg #[.bool false, .int .u64 0, .int .u8 0], .int .i64 0, .bool false]) ∧ Below w.heap.size w w' := by
  refine (callsIn_wide (n := 6)).1 ?_
  have HHAS := veil (fun W hW => (callsIn_wide (n := 5)).2 (hh W hW))
  clear hh
  refine callsIn_of_wp_marks Try.func17 rfl trivial ?_ rfl
  simp only [Try.ntmps17, List.size_toArray, List.length_cons, List.length_nil, Nat.reduceAdd, Nat.reduceSub, Array.replicate_succ, Array.replicate_zero, List.push_toArray, List.append_toArray, List.nil_append, List.cons_append]
  have hB5 : Below w.heap.size w (((((w.alloc (.cells #[.pointer a] 28)).alloc (.cells #[.int .i64 0] 3)).alloc (.cells #[.bool false, .int .u64 0, .int .u8 0] 25)).alloc (.cells #[.int .i64 0] 3)).alloc (.cells #[.bool false] 4)) := (((((Below.refl _ w).alloc (Nat.le_refl _) _).alloc (by simp) _).alloc (by simp; omega) _).alloc (by simp; omega) _).alloc (by simp; omega) _
  have HB5 := veil hB5
  clear hB5
  gi_wp2
  refine wpIn_wide.2 (wp_scope_straight ((wpIn_wide (n := 6)).1 ?_))
  gi_wp2_with (first
    | (refine ⟨trivial, ?_⟩; gi_at_call 41; refine (HHAS.out _ HB5.out).mono ?_; rintro e w1 ⟨rfl, hw1⟩; replace hw1 := hw1.symm; subst hw1))
  try simp only [Exit.noGoto]
  refine ⟨_, ?_, rfl, HB5.out⟩
  simp [results, Try.f17, go_sem]
end Go.Proofs.Ytlfejgjhamcahaa
