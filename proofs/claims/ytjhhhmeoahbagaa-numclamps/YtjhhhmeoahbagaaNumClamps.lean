/-
  For every float NumClamps answers true: what is clamped is from 0 to 1, never -0, and of what is there already it is itself. No condition.
-/
import Derived.Test.YtjhhhmeoahbagaaRows
import Derived.Test.YtjhhhmeoahbagaaW7
import Derived.Test.YtjhhhmeoahbagaaF2
import Derived.WalkKit
import Derived.ProofKit
import Derived.OpenShut
import Derived.RowKit3
import Derived.Laws.Cover2
import Derived.Laws.IdiomArrays
namespace Go.Proofs.Ytjhhhmeoahbagaa.numClamps
open Go.ChangeShapes Go.WideShapes Go.ChangeAt Go.RowKit
set_option linter.unusedVariables false

theorem own : ownKnob Try.prog.godebug = none := by kernel_rfl
open Go.Lib
theorem run_inv {c q : Nat} (h : floatBits .quo .f64 4607182418800017408 c = some q) : ∀ w, (binOp .quo 32 (.float .f64 4607182418800017408) (.float .f64 c)).run Try.prog w = .ok (.float .f64 q) w :=
  fun w => run_float_arith w .quo 32 .f64 _ _ _ h
theorem not_le_of_gt (x y : Nat) (h : (FloatKind.f64.format.order x y == some .gt) = true) : (FloatKind.f64.format.order x y == some .lt || FloatKind.f64.format.order x y == some .eq) = false := by
  have h' : FloatKind.f64.format.order x y = some .gt := by simpa using h
  rw [h']; rfl
theorem order_some (d d' : Ieee.Datum) (h : d.isNaN = false) (h' : d'.isNaN = false) : ∃ o, d.order d' = some o := by
  cases d <;> cases d' <;> simp [Ieee.Datum.order, Ieee.Datum.isNaN] at *
theorem le_of_not_gt (x y : Nat) (hx : Num x) (hy : Num y) (h : (FloatKind.f64.format.order x y == some .gt) = false) : (FloatKind.f64.format.order x y == some .lt || FloatKind.f64.format.order x y == some .eq) = true := by
  obtain ⟨o, ho⟩ := order_some _ _ hx hy
  have ho' : FloatKind.f64.format.order x y = some o := ho
  rw [ho'] at h ⊢
  cases o
  · rfl
  · rfl
  · exact absurd h (by decide)

set_option maxHeartbeats 1000000 in
theorem walk (a0 : Nat) (w0 : (Lit.float .f64 a0).wf = true) (w : World) :
    Calls Try.prog 7 #[.float .f64 a0] w fun e w' => e = .returned (.bool true) ∧ Grown w w' := by
  have hc := clampN_num a0
  by_cases h1 : (FloatKind.f64.format.order a0 4607182418800017408 == some .gt) = true
  · have ec : clampN a0 = 4607182418800017408 := by unfold clampN; rw [if_pos h1]
    have e2 : clampN 4607182418800017408 = 4607182418800017408 := by unfold clampN; decide +kernel
    have g1 : (FloatKind.f64.format.order 4607182418800017408 0 == some .gt || FloatKind.f64.format.order 4607182418800017408 0 == some .eq) = true := by decide +kernel
    have g2 : (FloatKind.f64.format.order 4607182418800017408 4607182418800017408 == some .lt || FloatKind.f64.format.order 4607182418800017408 4607182418800017408 == some .eq) = true := by decide +kernel
    have g3 := run_inv (c := 4607182418800017408) (q := 4607182418800017408) (by decide +kernel)
    have g4 : (FloatKind.f64.format.order 4607182418800017408 0 == some .gt) = true := by decide +kernel
    have g5 := not_le_of_gt a0 _ h1
    have HN := num_lit1
    go_enter Try.func7, Try.ntmps7
    go_wp2_with (first
      | (go_at_call 9; refine (live_any _).mono ?_; rintro e w' ⟨rfl, c, d, rfl⟩)
      | (go_at_call 21; refine (clamp_any _ _).mono ?_; rintro e w' ⟨rfl, rfl⟩)
      | (go_at_call 18; refine (same_num _ _ HN).mono ?_; rintro e w' ⟨rfl, rfl⟩))
    all_goals
      go_ret
      exact ⟨rfl, by with_reducible repeat (first | apply Grown.alloc | apply Grown.drew | exact Grown.refl _)⟩
  · have h1' : (FloatKind.f64.format.order a0 4607182418800017408 == some .gt) = false := by simpa using h1
    clear h1
    by_cases h0 : (FloatKind.f64.format.order a0 0 == some .gt) = true
    · have ec : clampN a0 = a0 := by unfold clampN; rw [if_neg (by rw [h1']; decide), if_pos h0]
      have HN : Num a0 := by rw [← ec]; exact hc
      obtain ⟨q, hq⟩ := one_by a0 HN
      have g1 : (FloatKind.f64.format.order a0 0 == some .gt || FloatKind.f64.format.order a0 0 == some .eq) = true := by rw [h0]; rfl
      have g2 := le_of_not_gt a0 _ HN num_lit1 h1'
      have g3 := run_inv hq
      have g4 := inv_pos a0 q h0 h1' hq
      have g6 : (FloatKind.f64.format.order a0 a0 == some .eq) = true := by rw [num_self a0 HN]; rfl
      clear hq
      go_enter Try.func7, Try.ntmps7
      go_wp2_with (first
        | (go_at_call 9; refine (live_any _).mono ?_; rintro e w' ⟨rfl, c, d, rfl⟩)
        | (go_at_call 21; refine (clamp_any _ _).mono ?_; rintro e w' ⟨rfl, rfl⟩)
        | (go_at_call 18; refine (same_num _ _ HN).mono ?_; rintro e w' ⟨rfl, rfl⟩))
      all_goals
        go_ret
        exact ⟨rfl, by with_reducible repeat (first | apply Grown.alloc | apply Grown.drew | exact Grown.refl _)⟩
    · have h0' : (FloatKind.f64.format.order a0 0 == some .gt) = false := by simpa using h0
      clear h0
      have ec : clampN a0 = 0 := by unfold clampN; rw [if_neg (by rw [h1']; decide), if_neg (by rw [h0']; decide)]
      have e2 : clampN 0 = 0 := by unfold clampN; decide +kernel
      have HN := num_lit0
      have g1 : (FloatKind.f64.format.order 0 0 == some .gt || FloatKind.f64.format.order 0 0 == some .eq) = true := by decide +kernel
      have g2 : (FloatKind.f64.format.order 0 4607182418800017408 == some .lt || FloatKind.f64.format.order 0 4607182418800017408 == some .eq) = true := by decide +kernel
      have g3 := run_inv (c := 0) (q := 9218868437227405312) (by decide +kernel)
      have g4 : (FloatKind.f64.format.order 9218868437227405312 0 == some .gt) = true := by decide +kernel
      go_enter Try.func7, Try.ntmps7
      go_wp2_with (first
        | (go_at_call 9; refine (live_any _).mono ?_; rintro e w' ⟨rfl, c, d, rfl⟩)
        | (go_at_call 21; refine (clamp_any _ _).mono ?_; rintro e w' ⟨rfl, rfl⟩)
        | (go_at_call 18; refine (same_num _ _ HN).mono ?_; rintro e w' ⟨rfl, rfl⟩))
      all_goals
        go_ret
        exact ⟨rfl, by with_reducible repeat (first | apply Grown.alloc | apply Grown.drew | exact Grown.refl _)⟩

set_option maxHeartbeats 1000000 in
set_option maxRecDepth 100000 in
theorem lifted (os : Os) (started : os.Started) (H : Type) (enc : TypeId × Value → H) :
    ReturnsInHanded {} Try.checked os 7 .any (Rows.numClampsSpec.pre6 enc Try.prog Try.f7 Rows.numClampsRow.domain false) (Rows.numClampsSpec.post enc Try.prog Try.f7 false true false false) := by
  refine returnsInHanded_of_change (C := Try.checked) own started (by kernel_rfl) Try.func7
    (ChangeSpec.witness6 (enc := enc) (C := Try.checked) false ⟨#[], #[.float .f64 0], []⟩ 8 (by kernel_rfl) (by kernel_rfl) (by kernel_rfl) (by kernel_rfl)) ?_
  intro W base args ds gs before hval0 hW hcnd _
  have hval : ∀ (j : Nat) t v, Try.f7.params[j]? = some t → args[j]? = some v → Value.okWide Try.prog W .any base t v := hval0
  have hW' := hW
  obtain ⟨p, q, hA0, hV, rfl, hfz, hnd⟩ := hW
  have hA : DataW.TrodAll enc Try.prog W 0 (fun _ => true) true Try.f7.params.toList args.toList ds p := hA0
  rw [Try.params7] at hA hval
  obtain ⟨v0, vs0, d0, ds0, p0, q0, hargs, rfl, rfl, h0, r0⟩ := trodAll_cons hA
  obtain ⟨rfl, rfl, rfl⟩ := trodAll_nil r0
  obtain rfl : args = #[v0] := by cases args; simp_all
  obtain ⟨rfl, rfl⟩ := trodVars_none hV
  obtain ⟨a0, rfl, rfl, rfl, w0⟩ := open_float Try.underlying32 (hval 0 32 v0 rfl rfl) h0
  clear hA0 hval0
  simp only [List.append_nil] at hW'
  refine (walk a0 w0 W).mono fun e W' ⟨he, hg⟩ => ?_
  subst he
  exact ⟨_, rfl, post_of_same (pa := []) (pv := []) hW' (fun _ _ _ => (trodAll_cons_mk (shut_bool Try.underlying4 _) trodAll_mk0)) (fun sp _ => (trodAll_cons_mk (shut_float Try.underlying32 w0) trodAll_mk0)) (fun _ _ => rfl) rfl
    (hg.frame _) hg.2.1 (ok_one (by kernel_rfl) rfl (okWide_bool_mk Try.underlying4 _))⟩

theorem over : Rows.numClampsRow.holds Try.pinned (OpenSpec.ofChange Rows.numClampsSpec) :=
  OpenClaim.holds_of_wide 7 Try.f7 rfl rfl rfl rfl rfl rfl rfl ⟨rfl, rfl, rfl, rfl, rfl⟩ rfl rfl rfl rfl rfl (by kernel_rfl) Try.func7 (by kernel_rfl)
    (of_decide_eq_true (by kernel_rfl)) (by unfold Func.isWrapper; first | (rw [if_pos (by decide +kernel)]; kernel_rfl) | (rw [if_neg (by decide +kernel)]; exact ⟨rfl, rfl⟩))
    (fun os started H enc _ => lifted os started H enc)
end Go.Proofs.Ytjhhhmeoahbagaa.numClamps
namespace Go.Proofs.Ytjhhhmeoahbagaa
/-- The statement. -/
theorem numClamps_holds : Rows.NumClampsSaid := numClamps.over
#print axioms numClamps_holds
end Go.Proofs.Ytjhhhmeoahbagaa
