/-
  ScriptBare: an entry that has what its Do does not name is not right, and without it it is, for every entry. No condition.
-/
import Derived.Test.YtnnpbbiiapipaaaRows
import Derived.Test.YtnnpbbiiapipaaaS23
import Derived.WalkKit
import Derived.ProofKit
import Derived.OpenShut
import Derived.RowKit3
import Derived.Laws.Cover2
import Derived.Laws.IdiomArrays
import Derived.ChangeOld
import Derived.Below
import Derived.Carry
import Derived.Lib.SmallJoins
namespace Go.Proofs.Ytnnpbbiiapipaaa.scriptBare
open Go.ChangeShapes Go.WideShapes Go.ChangeAt Go.RowKit
set_option linter.unusedVariables false

theorem own : ownKnob Try.prog.godebug = none := by kernel_rfl
theorem laidOut : laidOutB Try.prog = true := by kernel_rfl

set_option maxHeartbeats 1000000 in
theorem walk (x0 : En) (a0 : Option Addr) (cap0 : Nat) (w : World) (w0 : Cod w a0 x0.code) (n0 : x0.code.length < 9223372036854775808) (c0 : x0.code.length ≤ cap0 ∧ cap0 < 9223372036854775808) (f0 : WfE x0) (d0 : (Lit.int .i64 x0.d).wf = true) :
    Calls Try.prog 9 #[.agg #[.int .i64 x0.d, .int .i64 x0.p, .int .u64 (x0.dr : Int), .int .i64 x0.n, .slice a0 x0.code.length cap0, .int .u64 (x0.bu : Int), .int .u64 (x0.pe : Int), .int .i64 x0.pr, .int .u8 (x0.lv : Int), .int .i64 x0.sv]] w fun e w' => e = .returned (.bool true) ∧ Below w.heap.size w w' := by
  exact bare_walk w x0 a0 cap0 w0 n0 d0

set_option maxHeartbeats 1000000 in
set_option maxRecDepth 100000 in
theorem lifted (os : Os) (started : os.Started) (H : Type) (enc : TypeId × Value → H) :
    ReturnsInHanded {} Try.checked os 9 .any (Rows.scriptBareSpec.pre6 enc Try.prog Try.f9 Rows.scriptBareRow.domain false) (Rows.scriptBareSpec.post enc Try.prog Try.f9 false true false false) := by
  refine returnsInHanded_of_change (C := Try.checked) own started (by kernel_rfl) Try.func9
    (ChangeSpec.witness6 (enc := enc) (C := Try.checked) false ⟨#[], #[.agg #[.int .i64 0, .int .i64 0, .int .u64 0, .int .i64 0, .slice none 0 0, .int .u64 0, .int .u64 0, .int .i64 0, .int .u8 0, .int .i64 0]], []⟩ 8 (by kernel_rfl) (by kernel_rfl) (by kernel_rfl) (by kernel_rfl)) ?_
  intro W base args ds gs before hval0 hW hcnd _
  have hval : ∀ (j : Nat) t v, Try.f9.params[j]? = some t → args[j]? = some v → Value.okWide Try.prog W .any base t v := hval0
  have hW' := hW
  obtain ⟨p, q, hA0, hV, rfl, hfz, hnd⟩ := hW
  have hA : DataW.TrodAll enc Try.prog W 0 (fun _ => true) true Try.f9.params.toList args.toList ds p := hA0
  rw [Try.params9] at hA hval
  obtain ⟨v0, vs0, d0, ds0, p0', q0', hargs, rfl, rfl, h0, r0⟩ := trodAll_cons hA
  obtain ⟨rfl, rfl, rfl⟩ := trodAll_nil r0
  obtain rfl : args = #[v0] := by cases args; simp_all
  obtain ⟨rfl, rfl⟩ := trodVars_none hV
  have kk0 := h0
  have lt0 : ∀ x ∈ p0', x.block < W.heap.size := by obtain ⟨m, hm⟩ := kk0; exact DataW.trod_lt m _ _ _ hm
  obtain ⟨x0, a0, cap0, rfl, w0, n0, c0, f0, e0⟩ := open_entry (hval 0 36 v0 rfl rfl) h0
  clear hA0 hval0
  refine (walk x0 a0 cap0 W w0 n0 c0 f0 e0).mono fun e W' ⟨he, bel⟩ => ?_
  subst he
  exact ⟨_, rfl, _, _, _, [], _, [], hW', trodAll_mk1 (shut_bool Try.underlying4 _), (trodAll_cons_mk (Below.trod laidOut (by kernel_rfl) (of_decide_eq_true (by kernel_rfl)) kk0 bel lt0) trodAll_mk0), rfl, bel.frame _, fun h => by cases h⟩

theorem over : Rows.scriptBareRow.holds Try.pinned (OpenSpec.ofChange Rows.scriptBareSpec) :=
  OpenClaim.holds_of_wide 9 Try.f9 rfl rfl rfl rfl rfl rfl rfl ⟨rfl, rfl, rfl, rfl, rfl⟩ rfl rfl rfl rfl rfl (by kernel_rfl) Try.func9 (by kernel_rfl)
    (of_decide_eq_true (by kernel_rfl)) (by unfold Func.isWrapper; first | (rw [if_pos (by decide +kernel)]; kernel_rfl) | (rw [if_neg (by decide +kernel)]; exact ⟨rfl, rfl⟩))
    (fun os started H enc _ => lifted os started H enc)
end Go.Proofs.Ytnnpbbiiapipaaa.scriptBare
namespace Go.Proofs.Ytnnpbbiiapipaaa
/-- The statement. -/
theorem scriptBare_holds : Rows.ScriptBareSaid := scriptBare.over
#print axioms scriptBare_holds
end Go.Proofs.Ytnnpbbiiapipaaa
