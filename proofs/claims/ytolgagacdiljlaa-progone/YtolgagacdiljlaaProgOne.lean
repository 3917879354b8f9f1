/-
  ProgOne: an instruction ahead of an Exit is judged by itself.
-/
import Derived.Test.YtolgagacdiljlaaRows
import Derived.Test.YtolgagacdiljlaaO11
import Derived.WalkKit
import Derived.ProofKit
import Derived.OpenShut
import Derived.RowKit3
import Derived.Laws.Cover2
import Derived.Laws.IdiomArrays
import Derived.ChangeOld
import Derived.Below
import Derived.Carry
import Derived.Lib.SmallJoins
namespace Go.Proofs.Ytolgagacdiljlaa.progOne
open Go.ChangeShapes Go.WideShapes Go.ChangeAt Go.RowKit
set_option linter.unusedVariables false

theorem own : ownKnob Try.prog.godebug = none := by kernel_rfl
theorem laidOut : laidOutB Try.prog = true := by kernel_rfl

set_option maxHeartbeats 1000000 in
theorem walk (p0 q0 : Int) (w : World) (w0 : (Lit.int .i64 p0).wf = true) (u0 : (Lit.int .i64 q0).wf = true) :
    Calls Try.prog 10 #[.agg #[.int .i64 p0, .int .i64 q0]] w fun e w' => e = .returned (.bool true) ∧ Below w.heap.size w w' := by
  obtain ⟨x, x', y', k1, k2, hcs⟩ := one_cases p0 q0
  have HL := veil live_ok
  have H1 := veil (fun W => check_known (W.alloc (.cells #[.int .i64 p0, .int .i64 q0, .int .i64 9, .int .i64 0] 42)) (some ⟨W.heap.size, 0, none⟩) 2 2 (by omega) _ _ (prg_one W p0 q0 _ (Below.refl _ _)) x 0 k1)
  have H2 := veil (fun W w1 hb => rcheck_known w1 (some ⟨W.heap.size, 0, none⟩) 2 2 (by omega) _ _ (prg_one W p0 q0 w1 hb) x 0 k1)
  have H3 := veil (fun W => check_known (W.alloc (.cells #[.int .i64 9, .int .i64 0, .int .i64 p0, .int .i64 q0, .int .i64 9, .int .i64 0] 42)) (some ⟨W.heap.size, 0, none⟩) 3 3 (by omega) _ _ (prg_two W p0 q0 _ (Below.refl _ _)) x' y' k2)
  clear k1 k2
  have H1' := veil (H1.out (w.alloc (.cells #[.int .i64 p0, .int .i64 q0] 42)))
  have H2' := veil (H2.out (w.alloc (.cells #[.int .i64 p0, .int .i64 q0] 42)))
  rw [size_alloc] at H1' H2'
  clear H1 H2
  have HC : Hid (∀ w1, Below (w.heap.size + 2) ((w.alloc (.cells #[.int .i64 p0, .int .i64 q0] 42)).alloc (.cells #[.int .i64 p0, .int .i64 q0, .int .i64 9, .int .i64 0] 42)) w1 → w1.cell? ⟨w.heap.size, 0, none⟩ = some (.int .i64 p0) ∧ w1.cell? ⟨w.heap.size, 1, none⟩ = some (.int .i64 q0) ∧ Below w.heap.size w w1) := by
    intro w1 hb
    have hz : ∀ i, w1.cell? ⟨w.heap.size, i, none⟩ = (w.alloc (.cells #[.int .i64 p0, .int .i64 q0] 42)).cell? ⟨w.heap.size, i, none⟩ := fun i => (hb.cell (p := ⟨w.heap.size, i, none⟩) (by simp)).trans (by
      have hb2 := (Below.refl (w.heap.size + 1) (w.alloc (.cells #[.int .i64 p0, .int .i64 q0] 42))).alloc (by simp) (.cells #[.int .i64 p0, .int .i64 q0, .int .i64 9, .int .i64 0] 42)
      exact hb2.cell (p := ⟨w.heap.size, i, none⟩) (by simp))
    refine ⟨(hz 0).trans (by unfold World.cell?; simp only [(MapKept.heap_alloc w _).1]; rfl), (hz 1).trans (by unfold World.cell?; simp only [(MapKept.heap_alloc w _).1]; rfl), ?_⟩
    exact (((Below.refl _ _).alloc (Nat.le_refl _) _).alloc (by simp) _).trans (hb.mono (by omega))
  rcases hcs with ⟨rfl, rfl, rfl⟩ | ⟨rfl, rfl, rfl⟩ | ⟨rfl, rfl, rfl, rfl⟩
  all_goals
    go_enter Try.func10, Try.ntmps10
    go_wp2_with (first
      | (go_at_call 13; refine (H1'.out).mono ?_; rintro e w1 ⟨rfl, hb⟩; simp only [size_alloc] at hb; have HB := veil hb; clear hb H1')
      | (go_at_call 14; refine (H2'.out _ HB.out).mono ?_; rintro e w2 ⟨rfl, hb⟩; have HB2 := veil (HB.out.trans (hb.mono (by have := HB.out.size; simpa using this))); obtain ⟨y1, y2, hb2⟩ := HC.out _ HB2.out; have HB3 := veil hb2; clear hb hb2 H2')
      | (go_at_call 13; refine (H3.out w2).mono ?_; rintro e w3 ⟨rfl, hb⟩; have HB4 := veil hb; have hs2 := HB3.out.size; have y3 := (hb.cell (p := ⟨w.heap.size, 0, none⟩) (by simp; have := HB2.out.size; simp at this; omega)).trans (((Below.refl w2.heap.size w2).alloc (Nat.le_refl _) _).cell (p := ⟨w.heap.size, 0, none⟩) (by have := HB2.out.size; simp at this; simp; omega) |>.trans y1); clear hb H3)
      | (go_at_call 15; refine (HL.out _).mono ?_; rintro e w4 ⟨rfl, hb⟩; have HB5 := veil hb; have y4 := (hb.cell (p := ⟨w.heap.size, 0, none⟩) (World.block_lt_of_cell? w3 _ y3)).trans y3; clear hb HL))
    go_ret
    exact ⟨rfl, (HB3.out.trans ((((Below.refl _ _).alloc (Nat.le_refl _) _).trans (HB4.out.mono (by simp))).mono HB3.out.size)).trans (HB5.out.mono (by have := HB3.out.size; have := HB4.out.size; simp at this; omega))⟩

set_option maxHeartbeats 1000000 in
set_option maxRecDepth 100000 in
theorem lifted (os : Os) (started : os.Started) (H : Type) (enc : TypeId × Value → H) :
    ReturnsInHanded {} Try.checked os 10 .any (Rows.progOneSpec.pre6 enc Try.prog Try.f10 Rows.progOneRow.domain false) (Rows.progOneSpec.post enc Try.prog Try.f10 false true false false) := by
  refine returnsInHanded_of_change (C := Try.checked) own started (by kernel_rfl) Try.func10
    (ChangeSpec.witness6 (enc := enc) (C := Try.checked) false ⟨#[], #[.agg #[.int .i64 0, .int .i64 0]], []⟩ 8 (by kernel_rfl) (by kernel_rfl) (by kernel_rfl) (by kernel_rfl)) ?_
  intro W base args ds gs before hval0 hW hcnd _
  have hval : ∀ (j : Nat) t v, Try.f10.params[j]? = some t → args[j]? = some v → Value.okWide Try.prog W .any base t v := hval0
  have hW' := hW
  obtain ⟨p, q, hA0, hV, rfl, hfz, hnd⟩ := hW
  have hA : DataW.TrodAll enc Try.prog W 0 (fun _ => true) true Try.f10.params.toList args.toList ds p := hA0
  rw [Try.params10] at hA hval
  obtain ⟨v0, vs0, d0, ds0, p0', q0', hargs, rfl, rfl, h0, r0⟩ := trodAll_cons hA
  obtain ⟨rfl, rfl, rfl⟩ := trodAll_nil r0
  obtain rfl : args = #[v0] := by cases args; simp_all
  obtain ⟨rfl, rfl⟩ := trodVars_none hV
  have kk0 := h0
  have lt0 : ∀ x ∈ p0', x.block < W.heap.size := by obtain ⟨m, hm⟩ := kk0; exact DataW.trod_lt m _ _ _ hm
  obtain ⟨p0, q0, rfl, w0, u0⟩ := open_instr (hval 0 42 v0 rfl rfl) h0
  clear hA0 hval0
  refine (walk p0 q0 W w0 u0).mono fun e W' ⟨he, bel⟩ => ?_
  subst he
  exact ⟨_, rfl, _, _, _, [], _, [], hW', trodAll_mk1 (shut_bool Try.underlying4 _), (trodAll_cons_mk (Below.trod laidOut (by kernel_rfl) (of_decide_eq_true (by kernel_rfl)) kk0 bel lt0) trodAll_mk0), rfl, bel.frame _, fun h => by cases h⟩

theorem over : Rows.progOneRow.holds Try.pinned (OpenSpec.ofChange Rows.progOneSpec) :=
  OpenClaim.holds_of_wide 10 Try.f10 rfl rfl rfl rfl rfl rfl rfl ⟨rfl, rfl, rfl, rfl, rfl⟩ rfl rfl rfl rfl rfl (by kernel_rfl) Try.func10 (by kernel_rfl)
    (of_decide_eq_true (by kernel_rfl)) (by unfold Func.isWrapper; first | (rw [if_pos (by decide +kernel)]; kernel_rfl) | (rw [if_neg (by decide +kernel)]; exact ⟨rfl, rfl⟩))
    (fun os started H enc _ => lifted os started H enc)
end Go.Proofs.Ytolgagacdiljlaa.progOne
namespace Go.Proofs.Ytolgagacdiljlaa
/-- The statement. -/
theorem progOne_holds : Rows.ProgOneSaid := progOne.over
#print axioms progOne_holds
end Go.Proofs.Ytolgagacdiljlaa
