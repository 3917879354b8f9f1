/-
  ScriptDecodes: what bytes say, or the error, and where they are wrong, are as the document says, and the bytes stay, for every bytes. No condition.
-/
import Derived.Test.YtnnpbbiiapipaaaRows
import Derived.Test.YtnnpbbiiapipaaaS21
import Derived.WalkKit
import Derived.ProofKit
import Derived.OpenShut
import Derived.RowKit3
import Derived.Laws.Cover2
import Derived.Laws.IdiomArrays
import Derived.ChangeOld
import Derived.Below
import Derived.Carry
import Derived.Lib.SmallJoins
namespace Go.Proofs.Ytnnpbbiiapipaaa.scriptDecodes
open Go.ChangeShapes Go.WideShapes Go.ChangeAt Go.RowKit
set_option linter.unusedVariables false

theorem own : ownKnob Try.prog.godebug = none := by kernel_rfl
theorem laidOut : laidOutB Try.prog = true := by kernel_rfl

set_option maxHeartbeats 1000000 in
theorem walk (a0 : Option Addr) (len0 cap0 : Nat) (X0 : Nat → Nat) (w : World) (n0 : len0 < 9223372036854775808) (c0 : len0 ≤ cap0) (m0 : cap0 < 9223372036854775808) (w0 : Byt w a0 len0 X0) :
    Calls Try.prog 4 #[.slice a0 len0 cap0] w fun e w' => e = .returned (.bool true) ∧ Below w.heap.size w w' := by
  cases a0 with
  | none =>
    have h0 : len0 = 0 := by
      rcases w0 with h | ⟨_, _, h, _⟩
      · exact h
      · cases h
    subst h0
    rcases good_or_bad 0 [] (Nat.le_refl _) with ⟨L, hL⟩ | ⟨L, hL⟩
    · exact decodes_none_good w cap0 m0 X0 [] rfl L hL
    · exact decodes_none_bad w cap0 m0 X0 [] rfl L hL
  | some a =>
    by_cases h : 2000 < len0
    · rcases good_or_bad _ ((List.range 2000).map X0) (Nat.le_refl _) with ⟨L, hL⟩ | ⟨L, hL⟩
      · exact decodes_cut_good w a len0 cap0 h c0 m0 X0 w0 _ rfl L hL
      · exact decodes_cut_bad w a len0 cap0 h c0 m0 X0 w0 _ rfl L hL
    · rcases good_or_bad _ ((List.range len0).map X0) (Nat.le_refl _) with ⟨L, hL⟩ | ⟨L, hL⟩
      · exact decodes_some_good w a len0 cap0 (by omega) c0 m0 X0 w0 _ rfl L hL
      · exact decodes_some_bad w a len0 cap0 (by omega) c0 m0 X0 w0 _ rfl L hL

set_option maxHeartbeats 1000000 in
set_option maxRecDepth 100000 in
theorem lifted (os : Os) (started : os.Started) (H : Type) (enc : TypeId × Value → H) :
    ReturnsInHanded {} Try.checked os 4 .any (Rows.scriptDecodesSpec.pre6 enc Try.prog Try.f4 Rows.scriptDecodesRow.domain false) (Rows.scriptDecodesSpec.post enc Try.prog Try.f4 false true false false) := by
  refine returnsInHanded_of_change (C := Try.checked) own started (by kernel_rfl) Try.func4
    (ChangeSpec.witness6 (enc := enc) (C := Try.checked) false ⟨#[], #[.slice none 0 0], []⟩ 8 (by kernel_rfl) (by kernel_rfl) (by kernel_rfl) (by kernel_rfl)) ?_
  intro W base args ds gs before hval0 hW hcnd _
  have hval : ∀ (j : Nat) t v, Try.f4.params[j]? = some t → args[j]? = some v → Value.okWide Try.prog W .any base t v := hval0
  have hW' := hW
  obtain ⟨p, q, hA0, hV, rfl, hfz, hnd⟩ := hW
  have hA : DataW.TrodAll enc Try.prog W 0 (fun _ => true) true Try.f4.params.toList args.toList ds p := hA0
  rw [Try.params4] at hA hval
  obtain ⟨v0, vs0, d0, ds0, p0', q0', hargs, rfl, rfl, h0, r0⟩ := trodAll_cons hA
  obtain ⟨rfl, rfl, rfl⟩ := trodAll_nil r0
  obtain rfl : args = #[v0] := by cases args; simp_all
  obtain ⟨rfl, rfl⟩ := trodVars_none hV
  have kk0 := h0
  have lt0 : ∀ x ∈ p0', x.block < W.heap.size := by obtain ⟨m, hm⟩ := kk0; exact DataW.trod_lt m _ _ _ hm
  obtain ⟨a0, len0, cap0, rfl⟩ := okWide_slice Try.underlying24 (hval 0 24 v0 rfl rfl)
  obtain ⟨n0, c0, m0, X0, w0⟩ : len0 < 9223372036854775808 ∧ len0 ≤ cap0 ∧ cap0 < 9223372036854775808 ∧ ∃ (X : Nat → Nat), Byt W a0 len0 X := by
    obtain ⟨fuel, hf⟩ := h0
    exact open_byt hf
  clear hA0 hval0
  refine (walk a0 len0 cap0 X0 W n0 c0 m0 w0).mono fun e W' ⟨he, bel⟩ => ?_
  subst he
  exact ⟨_, rfl, _, _, _, [], _, [], hW', trodAll_mk1 (shut_bool Try.underlying4 _), (trodAll_cons_mk (Below.trod laidOut (by kernel_rfl) (of_decide_eq_true (by kernel_rfl)) kk0 bel lt0) trodAll_mk0), rfl, bel.frame _, fun h => by cases h⟩

theorem over : Rows.scriptDecodesRow.holds Try.pinned (OpenSpec.ofChange Rows.scriptDecodesSpec) :=
  OpenClaim.holds_of_wide 4 Try.f4 rfl rfl rfl rfl rfl rfl rfl ⟨rfl, rfl, rfl, rfl, rfl⟩ rfl rfl rfl rfl rfl (by kernel_rfl) Try.func4 (by kernel_rfl)
    (of_decide_eq_true (by kernel_rfl)) (by unfold Func.isWrapper; first | (rw [if_pos (by decide +kernel)]; kernel_rfl) | (rw [if_neg (by decide +kernel)]; exact ⟨rfl, rfl⟩))
    (fun os started H enc _ => lifted os started H enc)
end Go.Proofs.Ytnnpbbiiapipaaa.scriptDecodes
namespace Go.Proofs.Ytnnpbbiiapipaaa
/-- The statement. -/
theorem scriptDecodes_holds : Rows.ScriptDecodesSaid := scriptDecodes.over
#print axioms scriptDecodes_holds
end Go.Proofs.Ytnnpbbiiapipaaa
