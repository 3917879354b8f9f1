/-
  For every four numbers NumProducts answers true: num's product, and which of two products is less, are those of the document. No condition.
-/
import Derived.Test.YtjhhhmeoahbagaaRows
import Derived.Test.YtjhhhmeoahbagaaW6
import Derived.Deep.RegionHeld3
import Derived.WalkKit
import Derived.ProofKit
import Derived.OpenShut
import Derived.RowKit3
import Derived.Laws.Cover2
import Derived.Laws.IdiomArrays
namespace Go.Proofs.Ytjhhhmeoahbagaa.numProducts
open Go.ChangeShapes Go.WideShapes Go.ChangeAt Go.RowKit
set_option linter.unusedVariables false

theorem own : ownKnob Try.prog.godebug = none := by kernel_rfl
theorem cells0e : Try.prog.cellsOf 22 = 1 := by kernel_rfl
theorem cells0 : Try.prog.cellsOf 26 = 4 := by kernel_rfl
theorem list4 {α : Type} (l : List α) (h : (⟨l⟩ : Array α).size = 4) : ∃ a b c d, l = [a, b, c, d] := by
  match l, h with
  | [a, b, c, d], _ => exact ⟨a, b, c, d, rfl⟩
open Go.Lib

set_option maxHeartbeats 1000000 in
theorem walk (a0x0 a0x1 a0x2 a0x3 : Int) (w0x0 : (Lit.int .u64 a0x0).wf = true) (w0x1 : (Lit.int .u64 a0x1).wf = true) (w0x2 : (Lit.int .u64 a0x2).wf = true) (w0x3 : (Lit.int .u64 a0x3).wf = true) (w : World) :
    Calls Try.prog 4 #[.agg #[.int .u64 a0x0, .int .u64 a0x1, .int .u64 a0x2, .int .u64 a0x3]] w fun e w' => e = .returned (.bool true) ∧ Grown w w' := by
  obtain ⟨l0, m0⟩ := bounds_u64 w0x0
  obtain ⟨l1, m1⟩ := bounds_u64 w0x1
  obtain ⟨l2, m2⟩ := bounds_u64 w0x2
  obtain ⟨l3, m3⟩ := bounds_u64 w0x3
  go_enter Try.func4, Try.ntmps4
  go_wp2
  go_region_held3 (fun w' => w'.cell? ⟨w.heap.size, 0, none⟩ = some (.int .u64 a0x0) ∧ w'.cell? ⟨w.heap.size, 1, none⟩ = some (.int .u64 a0x1) ∧ w'.cell? ⟨w.heap.size, 2, none⟩ = some (.int .u64 a0x2) ∧ w'.cell? ⟨w.heap.size, 3, none⟩ = some (.int .u64 a0x3)) (simp [go_sem, World.cell?_alloc_past])
    (first
      | (go_at_call 9; refine (live_any _).mono ?_; rintro e w' ⟨rfl, c, d, rfl⟩)
      | (go_at_call 14; refine (mul_any _ _ _ l0 m0 l1 m1).mono ?_; rintro e w' ⟨rfl, o1, rfl⟩)
      | (go_at_call 15; refine (rmul_any _ _ _ l0 m0 l1 m1).mono ?_; rintro e w' ⟨rfl, o1, o2, rfl⟩)
      | (go_at_call 16; refine (less_any _ _ _ _ _ ⟨l0, m0⟩ ⟨l1, m1⟩ ⟨l2, m2⟩ ⟨l3, m3⟩).mono ?_; rintro e w' ⟨rfl, o1, o2, o3, o4, rfl⟩)
      | (go_at_call 17; refine (rless_any _ _ _ _ _ ⟨l0, m0⟩ ⟨l1, m1⟩ ⟨l2, m2⟩ ⟨l3, m3⟩).mono ?_; rintro e w' ⟨rfl, o1, o2, o3, o4, o5, o6, rfl⟩))
  go_wp2
  go_ret
  exact ⟨rfl, by with_reducible repeat (first | apply Grown.alloc | apply Grown.drew | exact Grown.refl _)⟩

set_option maxHeartbeats 1000000 in
set_option maxRecDepth 100000 in
theorem lifted (os : Os) (started : os.Started) (H : Type) (enc : TypeId × Value → H) :
    ReturnsInHanded {} Try.checked os 4 .any (Rows.numProductsSpec.pre6 enc Try.prog Try.f4 Rows.numProductsRow.domain false) (Rows.numProductsSpec.post enc Try.prog Try.f4 false true false false) := by
  refine returnsInHanded_of_change (C := Try.checked) own started (by kernel_rfl) Try.func4
    (ChangeSpec.witness6 (enc := enc) (C := Try.checked) false ⟨#[], #[.agg #[.int .u64 0, .int .u64 0, .int .u64 0, .int .u64 0]], []⟩ 8 (by kernel_rfl) (by kernel_rfl) (by kernel_rfl) (by kernel_rfl)) ?_
  intro W base args ds gs before hval0 hW hcnd _
  have hval : ∀ (j : Nat) t v, Try.f4.params[j]? = some t → args[j]? = some v → Value.okWide Try.prog W .any base t v := hval0
  have hW' := hW
  obtain ⟨p, q, hA0, hV, rfl, hfz, hnd⟩ := hW
  have hA : DataW.TrodAll enc Try.prog W 0 (fun _ => true) true Try.f4.params.toList args.toList ds p := hA0
  rw [Try.params4] at hA hval
  obtain ⟨v0, vs0, d0, ds0, p0, q0, hargs, rfl, rfl, h0, r0⟩ := trodAll_cons hA
  obtain ⟨rfl, rfl, rfl⟩ := trodAll_nil r0
  obtain rfl : args = #[v0] := by cases args; simp_all
  obtain ⟨rfl, rfl⟩ := trodVars_none hV
  obtain ⟨cs0, rfl, hsz0, _⟩ : ∃ cs, v0 = .agg cs ∧ cs.size = Try.prog.cellsOf 26 ∧ Row.okWide Try.prog W .any base 26 cs := by
    have := hval 0 26 v0 rfl rfl
    simpa [Value.okWide, Try.underlying26] using this
  rw [cells0] at hsz0
  obtain ⟨l0⟩ := cs0
  obtain ⟨c00, c01, c02, c03, rfl⟩ := list4 l0 hsz0
  obtain ⟨fuel0, hf0⟩ := h0
  obtain ⟨y00, y01, y02, y03, m0, hx0, hy00, hy01, hy02, hy03⟩ := trod_array4 Try.underlying26 cells0e hf0
  obtain ⟨a0x0, e00, rfl, w0x0⟩ := DataW.trod_int Try.underlying22 hy00
  obtain ⟨a0x1, e01, rfl, w0x1⟩ := DataW.trod_int Try.underlying22 hy01
  obtain ⟨a0x2, e02, rfl, w0x2⟩ := DataW.trod_int Try.underlying22 hy02
  obtain ⟨a0x3, e03, rfl, w0x3⟩ := DataW.trod_int Try.underlying22 hy03
  simp at e00 e01 e02 e03
  subst e00 e01 e02 e03
  simp only [Prod.mk.injEq] at hx0
  obtain ⟨rfl, rfl⟩ := hx0
  clear hA0 hval0
  simp only [List.append_nil] at hW'
  refine (walk a0x0 a0x1 a0x2 a0x3 w0x0 w0x1 w0x2 w0x3 W).mono fun e W' ⟨he, hg⟩ => ?_
  subst he
  exact ⟨_, rfl, post_of_same (pa := []) (pv := []) hW' (fun _ _ _ => (trodAll_cons_mk (shut_bool Try.underlying4 _) trodAll_mk0)) (fun sp _ => (trodAll_cons_mk (show DataW.Trod enc Try.prog W' 0 sp true 26 (.agg #[.int .u64 a0x0, .int .u64 a0x1, .int .u64 a0x2, .int .u64 a0x3]) (DataW.agg [.lit (.int .u64 a0x0), .lit (.int .u64 a0x1), .lit (.int .u64 a0x2), .lit (.int .u64 a0x3)]) [] from ⟨2, by simp [DataW.trod, Value.cells, Try.underlying26, Try.underlying22, cells0, cells0e, w0x0, w0x1, w0x2, w0x3, show List.range 4 = [0, 1, 2, 3] from rfl]⟩) trodAll_mk0)) (fun _ _ => rfl) rfl
    (hg.frame _) hg.2.1 (ok_one (by kernel_rfl) rfl (okWide_bool_mk Try.underlying4 _))⟩

theorem over : Rows.numProductsRow.holds Try.pinned (OpenSpec.ofChange Rows.numProductsSpec) :=
  OpenClaim.holds_of_wide 4 Try.f4 rfl rfl rfl rfl rfl rfl rfl ⟨rfl, rfl, rfl, rfl, rfl⟩ rfl rfl rfl rfl rfl (by kernel_rfl) Try.func4 (by kernel_rfl)
    (of_decide_eq_true (by kernel_rfl)) (by unfold Func.isWrapper; first | (rw [if_pos (by decide +kernel)]; kernel_rfl) | (rw [if_neg (by decide +kernel)]; exact ⟨rfl, rfl⟩))
    (fun os started H enc _ => lifted os started H enc)
end Go.Proofs.Ytjhhhmeoahbagaa.numProducts
namespace Go.Proofs.Ytjhhhmeoahbagaa
/-- The statement. -/
theorem numProducts_holds : Rows.NumProductsSaid := numProducts.over
#print axioms numProducts_holds
end Go.Proofs.Ytjhhhmeoahbagaa
