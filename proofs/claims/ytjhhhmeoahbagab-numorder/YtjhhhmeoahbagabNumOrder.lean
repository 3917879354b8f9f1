/-
  For every two parts and every whole NumOrder answers true: a greater part of a whole is not a less share, a whole's share of itself is 1, that of nothing 0, and a share of nothing at all is above every number of use. No condition.
-/
import Derived.Test.YtjhhhmeoahbagabRows
import Derived.Test.YtjhhhmeoahbagabW9
import Derived.WalkKit
import Derived.ProofKit
import Derived.OpenShut
import Derived.RowKit3
import Derived.Laws.Cover2
import Derived.Laws.IdiomArrays
namespace Go.Proofs.Ytjhhhmeoahbagab.numOrder
open Go.ChangeShapes Go.WideShapes Go.ChangeAt Go.RowKit
set_option linter.unusedVariables false

theorem own : ownKnob Try.prog.godebug = none := by kernel_rfl
open Go.Lib
set_option maxHeartbeats 1000000 in
theorem by_zero (a0 a1 : Int) (w : World) : Calls Try.prog 6 #[.int .u64 a0, .int .u64 a1, .int .u64 0] w fun e w' => e = .returned (.bool true) ∧ Grown w w' := by
  have e1 : floatBits .quo .f64 (floatOfInt .f64 1) (floatOfInt .f64 0) = some 9218868437227405312 := by decide +kernel
  have HQ : Hid (_ = _) := e1
  clear e1
  have e2 : (FloatKind.f64.format.order 9218868437227405312 9094988921128908188 == some .gt) = true := by decide +kernel
  by_cases h : a1 < a0
  all_goals
    go_enter Try.func6, Try.ntmps6
    go_wp2_with (first
      | (go_at_call 11; refine (live_any _).mono ?_; rintro e w' ⟨rfl, c, d, rfl⟩)
      | (go_at_call 14; refine (share_ok _ _ _ _ HQ.out).mono ?_; rintro e w' ⟨rfl, rfl⟩))
    go_ret
    exact ⟨rfl, by with_reducible repeat (first | apply Grown.alloc | apply Grown.drew | exact Grown.refl _)⟩

set_option maxHeartbeats 1000000 in
theorem walk (a0 : Int) (a1 : Int) (a2 : Int) (w0 : (Lit.int .u64 a0).wf = true) (w1 : (Lit.int .u64 a1).wf = true) (w2 : (Lit.int .u64 a2).wf = true) (w : World) :
    Calls Try.prog 6 #[.int .u64 a0, .int .u64 a1, .int .u64 a2] w fun e w' => e = .returned (.bool true) ∧ Grown w w' := by
  obtain ⟨l0, m0⟩ := bounds_u64 w0
  obtain ⟨l1, m1⟩ := bounds_u64 w1
  obtain ⟨l2, m2⟩ := bounds_u64 w2
  by_cases hz : a2 = 0
  · subst hz
    exact by_zero a0 a1 w
  · have hz' : (a2 == 0) = false := by simp [hz]
    have q0 : 1 ≤ a2 := by omega
    have e1 := shareW_self a2 q0 m2
    have e2 := shareW_zero a2 q0 m2
    have g1 : (FloatKind.f64.format.order 4607182418800017408 4607182418800017408 == some .eq) = true := by decide +kernel
    have g2 : (FloatKind.f64.format.order 0 0 == some .eq) = true := by decide +kernel
    clear hz
    by_cases h : a1 < a0
    · have hs := shareW_le a1 a0 a2 l1 (by omega) m0 q0 m2
      go_enter Try.func6, Try.ntmps6
      go_wp2_with (first
        | (go_at_call 11; refine (live_any _).mono ?_; rintro e w' ⟨rfl, c, d, rfl⟩)
        | (go_at_call 14; refine (share_w _ _ _ (by omega) (by omega) (by omega) (by omega)).mono ?_; rintro e w' ⟨rfl, rfl⟩))
      go_ret
      exact ⟨rfl, by with_reducible repeat (first | apply Grown.alloc | apply Grown.drew | exact Grown.refl _)⟩
    · have hs := shareW_le a0 a1 a2 l0 (by omega) m1 q0 m2
      go_enter Try.func6, Try.ntmps6
      go_wp2_with (first
        | (go_at_call 11; refine (live_any _).mono ?_; rintro e w' ⟨rfl, c, d, rfl⟩)
        | (go_at_call 14; refine (share_w _ _ _ (by omega) (by omega) (by omega) (by omega)).mono ?_; rintro e w' ⟨rfl, rfl⟩))
      go_ret
      exact ⟨rfl, by with_reducible repeat (first | apply Grown.alloc | apply Grown.drew | exact Grown.refl _)⟩

set_option maxHeartbeats 1000000 in
set_option maxRecDepth 100000 in
theorem lifted (os : Os) (started : os.Started) (H : Type) (enc : TypeId × Value → H) :
    ReturnsInHanded {} Try.checked os 6 .any (Rows.numOrderSpec.pre6 enc Try.prog Try.f6 Rows.numOrderRow.domain false) (Rows.numOrderSpec.post enc Try.prog Try.f6 false true false false) := by
  refine returnsInHanded_of_change (C := Try.checked) own started (by kernel_rfl) Try.func6
    (ChangeSpec.witness6 (enc := enc) (C := Try.checked) false ⟨#[], #[.int .u64 0, .int .u64 0, .int .u64 0], []⟩ 8 (by kernel_rfl) (by kernel_rfl) (by kernel_rfl) (by kernel_rfl)) ?_
  intro W base args ds gs before hval0 hW hcnd _
  have hval : ∀ (j : Nat) t v, Try.f6.params[j]? = some t → args[j]? = some v → Value.okWide Try.prog W .any base t v := hval0
  have hW' := hW
  obtain ⟨p, q, hA0, hV, rfl, hfz, hnd⟩ := hW
  have hA : DataW.TrodAll enc Try.prog W 0 (fun _ => true) true Try.f6.params.toList args.toList ds p := hA0
  rw [Try.params6] at hA hval
  obtain ⟨v0, vs0, d0, ds0, p0, q0, hargs, rfl, rfl, h0, r0⟩ := trodAll_cons hA
  obtain ⟨v1, vs1, d1, ds1, p1, q1, rfl, rfl, rfl, h1, r1⟩ := trodAll_cons r0
  obtain ⟨v2, vs2, d2, ds2, p2, q2, rfl, rfl, rfl, h2, r2⟩ := trodAll_cons r1
  obtain ⟨rfl, rfl, rfl⟩ := trodAll_nil r2
  obtain rfl : args = #[v0, v1, v2] := by cases args; simp_all
  obtain ⟨rfl, rfl⟩ := trodVars_none hV
  obtain ⟨a0, rfl, rfl, rfl, w0⟩ := open_int Try.underlying22 (hval 0 22 v0 rfl rfl) h0
  obtain ⟨a1, rfl, rfl, rfl, w1⟩ := open_int Try.underlying22 (hval 1 22 v1 rfl rfl) h1
  obtain ⟨a2, rfl, rfl, rfl, w2⟩ := open_int Try.underlying22 (hval 2 22 v2 rfl rfl) h2
  clear hA0 hval0
  simp only [List.append_nil] at hW'
  refine (walk a0 a1 a2 w0 w1 w2 W).mono fun e W' ⟨he, hg⟩ => ?_
  subst he
  exact ⟨_, rfl, post_of_same (pa := []) (pv := []) hW' (fun _ _ _ => (trodAll_cons_mk (shut_bool Try.underlying4 _) trodAll_mk0)) (fun sp _ => (trodAll_cons_mk (shut_int Try.underlying22 w0) (trodAll_cons_mk (shut_int Try.underlying22 w1) (trodAll_cons_mk (shut_int Try.underlying22 w2) trodAll_mk0)))) (fun _ _ => rfl) rfl
    (hg.frame _) hg.2.1 (ok_one (by kernel_rfl) rfl (okWide_bool_mk Try.underlying4 _))⟩

theorem over : Rows.numOrderRow.holds Try.pinned (OpenSpec.ofChange Rows.numOrderSpec) :=
  OpenClaim.holds_of_wide 6 Try.f6 rfl rfl rfl rfl rfl rfl rfl ⟨rfl, rfl, rfl, rfl, rfl⟩ rfl rfl rfl rfl rfl (by kernel_rfl) Try.func6 (by kernel_rfl)
    (of_decide_eq_true (by kernel_rfl)) (by unfold Func.isWrapper; first | (rw [if_pos (by decide +kernel)]; kernel_rfl) | (rw [if_neg (by decide +kernel)]; exact ⟨rfl, rfl⟩))
    (fun os started H enc _ => lifted os started H enc)
end Go.Proofs.Ytjhhhmeoahbagab.numOrder
namespace Go.Proofs.Ytjhhhmeoahbagab
/-- The statement. -/
theorem numOrder_holds : Rows.NumOrderSaid := numOrder.over
#print axioms numOrder_holds
end Go.Proofs.Ytjhhhmeoahbagab
