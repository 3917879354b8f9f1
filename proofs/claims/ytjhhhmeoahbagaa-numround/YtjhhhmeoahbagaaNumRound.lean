/-
  For every two times NumRound answers true: a sum is not below both, a difference not above the first, and what was added can be taken away again unless the sum is the last time. No condition.
-/
import Derived.Test.YtjhhhmeoahbagaaRows
import Derived.Test.YtjhhhmeoahbagaaW4
import Derived.WalkKit
import Derived.ProofKit
import Derived.OpenShut
namespace Go.Proofs.Ytjhhhmeoahbagaa.numRound
open Go.ChangeShapes Go.WideShapes Go.ChangeAt Go.RowKit
set_option linter.unusedVariables false      -- a walk need not use every 'w<i>' (that an integer argument fits its kind)

theorem own : ownKnob Try.prog.godebug = none := by kernel_rfl

open Go.Lib
theorem walk (a0 : Int) (a1 : Int) (w0 : (Lit.int .u64 a0).wf = true) (w1 : (Lit.int .u64 a1).wf = true) (w : World) :
    Calls Try.prog 5 #[.int .u64 a0, .int .u64 a1] w fun e w' => e = .returned (.bool true) ∧ Grown w w' := by
  obtain ⟨l0, m0⟩ := bounds_u64 w0
  obtain ⟨l1, m1⟩ := bounds_u64 w1
  have hs := addN_bd a0 a1 l0 l1
  have hd := subN_bd a0 a1 l0 m0 l1
  have hc : addN a1 a0 = addN a0 a1 := by unfold addN; rw [Int.add_comm]
  have hge0 : a0 ≤ addN a0 a1 := by unfold addN; split <;> omega
  have hge1 : a1 ≤ addN a0 a1 := by unfold addN; split <;> omega
  have hle : subN a0 a1 ≤ a0 := by unfold subN; split <;> omega
  have hback : ((addN a0 a1 == 18446744073709551615) = true) ∨ ((addN a0 a1 == 18446744073709551615) = false ∧ (subN (addN a0 a1) a1 == a0) = true) := by
    unfold subN addN
    by_cases h : 18446744073709551615 < a0 + a1
    · left; simp [h]
    · by_cases h2 : a0 + a1 = 18446744073709551615
      · left; simp [h2]
      · right; simp [h]; refine ⟨h2, ?_⟩; omega
  have hforth : (a0 < a1) ∨ (¬ a0 < a1 ∧ (addN (subN a0 a1) a1 == a0) = true) := by
    unfold subN addN
    by_cases h : a0 < a1
    · left; exact h
    · right; simp [h]; omega
  obtain ⟨s0, s1⟩ := hs
  obtain ⟨d0, d1⟩ := hd
  have HC : Hid (addN a1 a0 = addN a0 a1) := hc
  clear hc
  rcases hback with hb | ⟨hb, hb'⟩ <;> rcases hforth with hf | ⟨hf, hf'⟩
  all_goals
    go_enter Try.func5, Try.ntmps5
    go_wp2_with (first
      | (go_at_call 9; refine (live_any _).mono ?_; rintro e w' ⟨rfl, c, d, rfl⟩)
      | (go_at_call 10; refine (add_any _ _ _ (by omega) (by omega) (by omega) (by omega)).mono ?_; rintro e w' ⟨rfl, rfl⟩)
      | (go_at_call 12; refine (sub_any _ _ _ (by omega) (by omega) (by omega) (by omega)).mono ?_; rintro e w' ⟨rfl, rfl⟩))
    go_ret
    refine ⟨?_, by repeat (first | exact Grown.refl _ | apply Grown.drew | apply Grown.alloc)⟩
    simp [HC.out]

set_option maxRecDepth 100000 in
theorem lifted (os : Os) (started : os.Started) (H : Type) (enc : TypeId × Value → H) :
    ReturnsInHanded {} Try.checked os 5 .any (Rows.numRoundSpec.pre6 enc Try.prog Try.f5 Rows.numRoundRow.domain false) (Rows.numRoundSpec.post enc Try.prog Try.f5 false true false false) := by
  refine returnsInHanded_of_change (C := Try.checked) own started (by kernel_rfl) Try.func5
    (ChangeSpec.witness6 (enc := enc) (C := Try.checked) false ⟨#[], #[.int .u64 0, .int .u64 0], []⟩ 8 (by kernel_rfl) (by kernel_rfl) (by kernel_rfl) (by kernel_rfl)) ?_
  intro W base args ds gs before hval0 hW hcnd _
  have hval : ∀ (j : Nat) t v, Try.f5.params[j]? = some t → args[j]? = some v → Value.okWide Try.prog W .any base t v := hval0
  have hW' := hW
  obtain ⟨p, q, hA0, hV, rfl, hfz, hnd⟩ := hW
  have hA : DataW.TrodAll enc Try.prog W 0 (fun _ => true) true Try.f5.params.toList args.toList ds p := hA0
  rw [Try.params5] at hA hval
  obtain ⟨v0, vs0, d0, ds0, p0, q0, hargs, rfl, rfl, h0, r0⟩ := trodAll_cons hA
  obtain ⟨v1, vs1, d1, ds1, p1, q1, rfl, rfl, rfl, h1, r1⟩ := trodAll_cons r0
  obtain ⟨rfl, rfl, rfl⟩ := trodAll_nil r1
  obtain rfl : args = #[v0, v1] := by cases args; simp_all
  obtain ⟨rfl, rfl⟩ := trodVars_none hV
  obtain ⟨a0, rfl, rfl, rfl, w0⟩ := open_int Try.underlying22 (hval 0 22 v0 rfl rfl) h0
  obtain ⟨a1, rfl, rfl, rfl, w1⟩ := open_int Try.underlying22 (hval 1 22 v1 rfl rfl) h1
  clear hA0 hval0
  simp only [List.append_nil] at hW'
  refine (walk a0 a1 w0 w1 W).mono fun e W' ⟨he, hg⟩ => ?_
  subst he
  exact ⟨_, rfl, post_of_same (pa := []) (pv := []) hW' (fun _ _ _ => (trodAll_cons_mk (shut_bool Try.underlying4 _) trodAll_mk0)) (fun sp _ => (trodAll_cons_mk (shut_int Try.underlying22 w0) (trodAll_cons_mk (shut_int Try.underlying22 w1) trodAll_mk0))) (fun _ _ => rfl) rfl
    (hg.frame _) hg.2.1 (ok_one (by kernel_rfl) rfl (okWide_bool_mk Try.underlying4 _))⟩

theorem over : Rows.numRoundRow.holds Try.pinned (OpenSpec.ofChange Rows.numRoundSpec) :=
  OpenClaim.holds_of_wide 5 Try.f5 rfl rfl rfl rfl rfl rfl rfl ⟨rfl, rfl, rfl, rfl, rfl⟩ rfl rfl rfl rfl rfl (by kernel_rfl) Try.func5 (by kernel_rfl)
    (of_decide_eq_true (by kernel_rfl)) (by unfold Func.isWrapper; first | (rw [if_pos (by decide +kernel)]; kernel_rfl) | (rw [if_neg (by decide +kernel)]; exact ⟨rfl, rfl⟩))
    (fun os started H enc _ => lifted os started H enc)

theorem proved : Rows.NumRoundSaid :=
  over
end Go.Proofs.Ytjhhhmeoahbagaa.numRound
namespace Go.Proofs.Ytjhhhmeoahbagaa
/-- The statement. -/
theorem numRound_holds : Rows.NumRoundSaid := numRound.proved
#print axioms numRound_holds
end Go.Proofs.Ytjhhhmeoahbagaa
