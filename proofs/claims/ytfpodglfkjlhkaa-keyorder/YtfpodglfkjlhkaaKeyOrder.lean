/-
  KeyOrder: more urgent than more urgent is more urgent, and the more urgent of three right keys does not hang on the order, for every three keys. No condition.
-/
import Derived.Test.YtfpodglfkjlhkaaRows
import Derived.Test.YtfpodglfkjlhkaaK9
import Derived.WalkKit
import Derived.ProofKit
import Derived.OpenShut
import Derived.RowKit3
import Derived.Laws.Cover2
import Derived.Laws.IdiomArrays
import Derived.ChangeOld
import Derived.Below
import Derived.Carry
import Derived.Lib.SmallJoins
namespace Go.Proofs.Ytfpodglfkjlhkaa.keyOrder
open Go.ChangeShapes Go.WideShapes Go.ChangeAt Go.RowKit
set_option linter.unusedVariables false

theorem own : ownKnob Try.prog.godebug = none := by kernel_rfl
theorem laidOut : laidOutB Try.prog = true := by kernel_rfl

set_option maxHeartbeats 1000000 in
theorem walk (e0x0 : Bool) (d0x0 l0x0 : Int) (e0x1 : Bool) (d0x1 l0x1 : Int) (e0x2 : Bool) (d0x2 l0x2 : Int) (w : World) (w0x0 : (Lit.int .u64 d0x0).wf = true ∧ (Lit.int .u8 l0x0).wf = true) (w0x1 : (Lit.int .u64 d0x1).wf = true ∧ (Lit.int .u8 l0x1).wf = true) (w0x2 : (Lit.int .u64 d0x2).wf = true ∧ (Lit.int .u8 l0x2).wf = true) :
    Calls Try.prog 6 #[.agg #[.bool e0x0, .int .u64 d0x0, .int .u8 l0x0, .bool e0x1, .int .u64 d0x1, .int .u8 l0x1, .bool e0x2, .int .u64 d0x2, .int .u8 l0x2]] w fun e w' => e = .returned (.bool true) ∧ Below w.heap.size w w' := by
  exact order_walk w ⟨e0x0, d0x0, l0x0⟩ ⟨e0x1, d0x1, l0x1⟩ ⟨e0x2, d0x2, l0x2⟩

set_option maxHeartbeats 1000000 in
set_option maxRecDepth 100000 in
theorem lifted (os : Os) (started : os.Started) (H : Type) (enc : TypeId × Value → H) :
    ReturnsInHanded {} Try.checked os 6 .any (Rows.keyOrderSpec.pre6 enc Try.prog Try.f6 Rows.keyOrderRow.domain false) (Rows.keyOrderSpec.post enc Try.prog Try.f6 false true false false) := by
  refine returnsInHanded_of_change (C := Try.checked) own started (by kernel_rfl) Try.func6
    (ChangeSpec.witness6 (enc := enc) (C := Try.checked) false ⟨#[], #[.agg #[.bool false, .int .u64 0, .int .u8 0, .bool false, .int .u64 0, .int .u8 0, .bool false, .int .u64 0, .int .u8 0]], []⟩ 8 (by kernel_rfl) (by kernel_rfl) (by kernel_rfl) (by kernel_rfl)) ?_
  intro W base args ds gs before hval0 hW hcnd _
  have hval : ∀ (j : Nat) t v, Try.f6.params[j]? = some t → args[j]? = some v → Value.okWide Try.prog W .any base t v := hval0
  have hW' := hW
  obtain ⟨p, q, hA0, hV, rfl, hfz, hnd⟩ := hW
  have hA : DataW.TrodAll enc Try.prog W 0 (fun _ => true) true Try.f6.params.toList args.toList ds p := hA0
  rw [Try.params6] at hA hval
  obtain ⟨v0, vs0, d0, ds0, p0', q0', hargs, rfl, rfl, h0, r0⟩ := trodAll_cons hA
  obtain ⟨rfl, rfl, rfl⟩ := trodAll_nil r0
  obtain rfl : args = #[v0] := by cases args; simp_all
  obtain ⟨rfl, rfl⟩ := trodVars_none hV
  have kk0 := h0
  have lt0 : ∀ x ∈ p0', x.block < W.heap.size := by obtain ⟨m, hm⟩ := kk0; exact DataW.trod_lt m _ _ _ hm
  obtain ⟨e0x0, d0x0, l0x0, e0x1, d0x1, l0x1, e0x2, d0x2, l0x2, rfl, w0x0, w0x1, w0x2⟩ := open_key3 (hval 0 36 v0 rfl rfl) h0
  clear hA0 hval0
  refine (walk e0x0 d0x0 l0x0 e0x1 d0x1 l0x1 e0x2 d0x2 l0x2 W w0x0 w0x1 w0x2).mono fun e W' ⟨he, bel⟩ => ?_
  subst he
  exact ⟨_, rfl, _, _, _, [], _, [], hW', trodAll_mk1 (shut_bool Try.underlying4 _), (trodAll_cons_mk (Below.trod laidOut (by kernel_rfl) (of_decide_eq_true (by kernel_rfl)) kk0 bel lt0) trodAll_mk0), rfl, bel.frame _, fun h => by cases h⟩

theorem over : Rows.keyOrderRow.holds Try.pinned (OpenSpec.ofChange Rows.keyOrderSpec) :=
  OpenClaim.holds_of_wide 6 Try.f6 rfl rfl rfl rfl rfl rfl rfl ⟨rfl, rfl, rfl, rfl, rfl⟩ rfl rfl rfl rfl rfl (by kernel_rfl) Try.func6 (by kernel_rfl)
    (of_decide_eq_true (by kernel_rfl)) (by unfold Func.isWrapper; first | (rw [if_pos (by decide +kernel)]; kernel_rfl) | (rw [if_neg (by decide +kernel)]; exact ⟨rfl, rfl⟩))
    (fun os started H enc _ => lifted os started H enc)
end Go.Proofs.Ytfpodglfkjlhkaa.keyOrder
namespace Go.Proofs.Ytfpodglfkjlhkaa
/-- The statement. -/
theorem keyOrder_holds : Rows.KeyOrderSaid := keyOrder.over
#print axioms keyOrder_holds
end Go.Proofs.Ytfpodglfkjlhkaa
