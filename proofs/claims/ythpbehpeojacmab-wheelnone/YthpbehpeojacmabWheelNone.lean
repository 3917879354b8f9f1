/-
  For every deed and number WheelNone answers true: a nil wheel answers so, and sizes that may not be are refused. No condition.
-/
import Derived.Test.YthpbehpeojacmabRows
import Derived.Test.YthpbehpeojacmabV7
import Derived.WalkKit
import Derived.ProofKit
import Derived.OpenShut
import Derived.RowKit3
import Derived.Laws.Cover2
import Derived.Laws.IdiomArrays
import Derived.ChangeOld
import Derived.Below
import Derived.Carry
import Derived.Lib.SmallJoins
namespace Go.Proofs.Ythpbehpeojacmab.wheelNone
open Go.ChangeShapes Go.WideShapes Go.ChangeAt Go.RowKit
set_option linter.unusedVariables false

theorem own : ownKnob Try.prog.godebug = none := by kernel_rfl
theorem laidOut : laidOutB Try.prog = true := by kernel_rfl
theorem cells0 : Try.prog.cellsOf 24 = 3 := by kernel_rfl
theorem dbox {w w5 : World} {x0 x1 x2 : Int} (h : Below (w.alloc (.cells #[.int .i64 x0, .int .i64 x1, .int .u64 x2] 24)).heap.size (w.alloc (.cells #[.int .i64 x0, .int .i64 x1, .int .u64 x2] 24)) w5) :
    w5.cell? ⟨w.heap.size, 1, none⟩ = some (.int .i64 x1) ∧ w5.cell? ⟨w.heap.size, 2, none⟩ = some (.int .u64 x2) ∧ Below w.heap.size w w5 := by
  refine ⟨?_, ?_, ((Below.refl _ _).alloc (Nat.le_refl _) _).trans (h.mono (by simp))⟩
  · rw [h.cell (p := ⟨w.heap.size, 1, none⟩) (by simp), cell_new]; rfl
  · rw [h.cell (p := ⟨w.heap.size, 2, none⟩) (by simp), cell_new]; rfl

set_option maxHeartbeats 1000000 in
theorem walk (a0x0 a0x1 a0x2 : Int) (a1 : Int) (w : World) (w0x0 : (Lit.int .i64 a0x0).wf = true) (w0x1 : (Lit.int .i64 a0x1).wf = true) (w0x2 : (Lit.int .u64 a0x2).wf = true) (w1 : (Lit.int .i64 a1).wf = true) :
    Calls Try.prog 3 #[.agg #[.int .i64 a0x0, .int .i64 a0x1, .int .u64 a0x2], .int .i64 a1] w fun e w' => e = .returned (.bool true) ∧ Below w.heap.size w w' := by
  obtain ⟨l1, m1⟩ := bounds_i64 w1
  by_cases hn : a1 < 1 ∨ 1024 < a1
  · have HN := veil (fun w => new_not a1 w hn)
    have hd : (decide (a1 < 1) || decide (1024 < a1)) = true := by rcases hn with h | h <;> simp [h]
    by_cases hn1 : a1 < 1
    all_goals
      clear hn
      go_enter Try.func3, Try.ntmps3
      go_wp2_with (first
        | (go_at_call 8; refine (at_nil _ _).mono ?_; rintro e w1 ⟨rfl, hw⟩; replace hw := hw.symm; subst hw)
        | (go_at_call 9; refine (next_nil _).mono ?_; rintro e w1 ⟨rfl, hw⟩; replace hw := hw.symm; subst hw)
        | (go_at_call 10; refine (live_wheel _).mono ?_; rintro e w5 ⟨rfl, hb5⟩; obtain ⟨c1, c2, hb⟩ := dbox hb5; have HB5 := veil hb; clear hb5 hb)
        | (go_at_call 11; refine (set_nil _ _ _).mono ?_; rintro e w1 ⟨rfl, hw⟩; replace hw := hw.symm; subst hw)
        | (go_at_call 12; refine (cancel_nil _ _).mono ?_; rintro e w1 ⟨rfl, hw⟩; replace hw := hw.symm; subst hw)
        | (go_at_call 13; refine (advance_nil _ _).mono ?_; rintro e w1 ⟨rfl, hw⟩; replace hw := hw.symm; subst hw)
        | (go_at_call 14; refine (now_nil _).mono ?_; rintro e w1 ⟨rfl, hw⟩; replace hw := hw.symm; subst hw)
        | (go_at_call 15; refine (len_nil _).mono ?_; rintro e w1 ⟨rfl, hw⟩; replace hw := hw.symm; subst hw)
        | (go_at_call 16; refine (fork_nil _).mono ?_; rintro e w1 ⟨rfl, hw⟩; replace hw := hw.symm; subst hw)
        | (go_at_call 17; refine (HN.out _).mono ?_; rintro e w1 ⟨rfl, hw⟩; replace hw := hw.symm; subst hw))
      go_ret
      exact ⟨rfl, HB5.out⟩
  · have hN : ∀ w, Calls Try.prog 17 #[.int .i64 a1] w fun e w' => (∃ b, e = .returned (.pointer (some ⟨b, 0, none⟩))) ∧ Below w.heap.size w w' := by
      intro w
      obtain ⟨N, rfl⟩ := Int.eq_ofNat_of_zero_le (show 0 ≤ a1 by omega)
      refine (new_ok N w (by omega) (by omega)).mono ?_
      rintro e w' ⟨he, _, hb⟩
      exact ⟨⟨_, he⟩, hb⟩
    have HN := veil hN
    have n1 : ¬ a1 < 1 := by omega
    have n2 : ¬ 1024 < a1 := by omega
    clear hN hn
    go_enter Try.func3, Try.ntmps3
    go_wp2_with (first
        | (go_at_call 8; refine (at_nil _ _).mono ?_; rintro e w1 ⟨rfl, hw⟩; replace hw := hw.symm; subst hw)
        | (go_at_call 9; refine (next_nil _).mono ?_; rintro e w1 ⟨rfl, hw⟩; replace hw := hw.symm; subst hw)
        | (go_at_call 10; refine (live_wheel _).mono ?_; rintro e w5 ⟨rfl, hb5⟩; obtain ⟨c1, c2, hb⟩ := dbox hb5; have HB5 := veil hb; clear hb5 hb)
        | (go_at_call 11; refine (set_nil _ _ _).mono ?_; rintro e w1 ⟨rfl, hw⟩; replace hw := hw.symm; subst hw)
        | (go_at_call 12; refine (cancel_nil _ _).mono ?_; rintro e w1 ⟨rfl, hw⟩; replace hw := hw.symm; subst hw)
        | (go_at_call 13; refine (advance_nil _ _).mono ?_; rintro e w1 ⟨rfl, hw⟩; replace hw := hw.symm; subst hw)
        | (go_at_call 14; refine (now_nil _).mono ?_; rintro e w1 ⟨rfl, hw⟩; replace hw := hw.symm; subst hw)
        | (go_at_call 15; refine (len_nil _).mono ?_; rintro e w1 ⟨rfl, hw⟩; replace hw := hw.symm; subst hw)
        | (go_at_call 16; refine (fork_nil _).mono ?_; rintro e w1 ⟨rfl, hw⟩; replace hw := hw.symm; subst hw)
        | (go_at_call 17; refine (HN.out _).mono ?_; rintro e w6 ⟨⟨bq, rfl⟩, hb6⟩; have HB6 := veil hb6; clear hb6))
    go_ret
    exact ⟨by simp; omega, HB5.out.trans (HB6.out.mono HB5.out.size)⟩

set_option maxHeartbeats 1000000 in
set_option maxRecDepth 100000 in
theorem lifted (os : Os) (started : os.Started) (H : Type) (enc : TypeId × Value → H) :
    ReturnsInHanded {} Try.checked os 3 .any (Rows.wheelNoneSpec.pre6 enc Try.prog Try.f3 Rows.wheelNoneRow.domain false) (Rows.wheelNoneSpec.post enc Try.prog Try.f3 false true false false) := by
  refine returnsInHanded_of_change (C := Try.checked) own started (by kernel_rfl) Try.func3
    (ChangeSpec.witness6 (enc := enc) (C := Try.checked) false ⟨#[], #[.agg #[.int .i64 0, .int .i64 0, .int .u64 0], .int .i64 0], []⟩ 8 (by kernel_rfl) (by kernel_rfl) (by kernel_rfl) (by kernel_rfl)) ?_
  intro W base args ds gs before hval0 hW hcnd _
  have hval : ∀ (j : Nat) t v, Try.f3.params[j]? = some t → args[j]? = some v → Value.okWide Try.prog W .any base t v := hval0
  have hW' := hW
  obtain ⟨p, q, hA0, hV, rfl, hfz, hnd⟩ := hW
  have hA : DataW.TrodAll enc Try.prog W 0 (fun _ => true) true Try.f3.params.toList args.toList ds p := hA0
  rw [Try.params3] at hA hval
  obtain ⟨v0, vs0, d0, ds0, p0, q0, hargs, rfl, rfl, h0, r0⟩ := trodAll_cons hA
  obtain ⟨v1, vs1, d1, ds1, p1, q1, rfl, rfl, rfl, h1, r1⟩ := trodAll_cons r0
  obtain ⟨rfl, rfl, rfl⟩ := trodAll_nil r1
  obtain rfl : args = #[v0, v1] := by cases args; simp_all
  obtain ⟨rfl, rfl⟩ := trodVars_none hV
  have k0 := h0
  have lt0 : ∀ x ∈ p0, x.block < W.heap.size := by obtain ⟨m, hm⟩ := k0; exact DataW.trod_lt m _ _ _ hm
  obtain ⟨c00, c01, c02, y00, y01, y02, m0, rfl, rfl, rfl, hy00, hy01, hy02⟩ := Go.Joins.open_agg3 Try.underlying24 (by kernel_rfl) cells0 (hval 0 24 v0 rfl rfl) h0
  obtain ⟨a0x0, e00, rfl, w0x0⟩ := DataW.trod_int Try.underlying3 hy00
  obtain ⟨a0x1, e01, rfl, w0x1⟩ := DataW.trod_int Try.underlying3 hy01
  obtain ⟨a0x2, e02, rfl, w0x2⟩ := DataW.trod_int Try.underlying22 hy02
  simp at e00 e01 e02
  subst e00 e01 e02
  have k1 := h1
  have lt1 : ∀ x ∈ p1, x.block < W.heap.size := by obtain ⟨m, hm⟩ := k1; exact DataW.trod_lt m _ _ _ hm
  obtain ⟨a1, rfl, rfl, rfl, w1⟩ := open_int Try.underlying3 (hval 1 3 v1 rfl rfl) h1
  clear hA0 hval0
  refine (walk a0x0 a0x1 a0x2 a1 W w0x0 w0x1 w0x2 w1).mono fun e W' ⟨he, bel⟩ => ?_
  subst he
  exact ⟨_, rfl, _, _, _, [], _, [], hW', trodAll_mk1 (shut_bool Try.underlying4 _), (trodAll_cons_mk (Below.trod laidOut (by kernel_rfl) (of_decide_eq_true (by kernel_rfl)) k0 bel lt0) (trodAll_cons_mk (Below.trod laidOut (by kernel_rfl) (of_decide_eq_true (by kernel_rfl)) k1 bel lt1) trodAll_mk0)), rfl, bel.frame _, fun h => by cases h⟩

theorem over : Rows.wheelNoneRow.holds Try.pinned (OpenSpec.ofChange Rows.wheelNoneSpec) :=
  OpenClaim.holds_of_wide 3 Try.f3 rfl rfl rfl rfl rfl rfl rfl ⟨rfl, rfl, rfl, rfl, rfl⟩ rfl rfl rfl rfl rfl (by kernel_rfl) Try.func3 (by kernel_rfl)
    (of_decide_eq_true (by kernel_rfl)) (by unfold Func.isWrapper; first | (rw [if_pos (by decide +kernel)]; kernel_rfl) | (rw [if_neg (by decide +kernel)]; exact ⟨rfl, rfl⟩))
    (fun os started H enc _ => lifted os started H enc)
end Go.Proofs.Ythpbehpeojacmab.wheelNone
namespace Go.Proofs.Ythpbehpeojacmab
/-- The statement. -/
theorem wheelNone_holds : Rows.WheelNoneSaid := wheelNone.over
#print axioms wheelNone_holds
end Go.Proofs.Ythpbehpeojacmab
