/-
  ProgStays: from each place of a right program all that follow are places of it.
-/
import Derived.Test.YtolgagacdiljlaaRows
import Derived.Test.YtolgagacdiljlaaO10
import Derived.WalkKit
import Derived.ProofKit
import Derived.OpenShut
import Derived.RowKit3
import Derived.Laws.Cover2
import Derived.Laws.IdiomArrays
import Derived.ChangeOld
import Derived.Below
import Derived.Carry
import Derived.Lib.SmallJoins
namespace Go.Proofs.Ytolgagacdiljlaa.progStays
open Go.ChangeShapes Go.WideShapes Go.ChangeAt Go.RowKit
set_option linter.unusedVariables false

theorem own : ownKnob Try.prog.godebug = none := by kernel_rfl
theorem laidOut : laidOutB Try.prog = true := by kernel_rfl

set_option maxHeartbeats 1000000 in
theorem walk (a0 : Option Addr) (len0 cap0 : Nat) (O0 R0 : Nat → Int) (a1 : Int) (w : World) (n0 : len0 < 9223372036854775808) (c0 : len0 ≤ cap0) (m0 : cap0 < 9223372036854775808) (w0 : Prg w a0 len0 O0 R0) (w1 : (Lit.int .u8 a1).wf = true) :
    Calls Try.prog 7 #[.slice a0 len0 cap0, .int .u8 a1] w fun e w' => e = .returned (.bool true) ∧ Below w.heap.size w w' := by
  have hp := w0.cut (m := min len0 100) (by omega)
  have HF := veil (few_ok w a0 len0 cap0 n0 c0 O0 R0 w0)
  have HL := veil live_ok
  obtain ⟨A, rfl, hA⟩ : ∃ A : Nat, a1 = (A : Int) ∧ A < 256 := by
    have hz : 0 ≤ a1 ∧ a1 < 256 := by
      simp [Lit.wf, IntKind.min, IntKind.max, IntKind.bits, IntKind.signed] at w1
      omega
    exact ⟨a1.toNat, by omega, by omega⟩
  clear w0 w1
  have hm : min len0 100 < 9223372036854775808 := by omega
  generalize min len0 100 = m at HF hp hm
  by_cases hr : Rt m O0 R0
  · obtain ⟨y0, hy0⟩ := hr
    obtain ⟨hl1, hl2, hall, hlast, rfl⟩ := hy0.zero
    have HC := veil (check_known w a0 m cap0 hm O0 R0 hp 0 0 hy0)
    obtain ⟨j, hj, hjl⟩ : ∃ j, j = A % m ∧ j < m := ⟨_, rfl, Nat.mod_lt _ (by omega)⟩
    have hmod : Int.tmod (A : Int) (m : Int) = (j : Int) := by rw [hj]; rfl
    have hm0 : ¬ (m : Int) = 0 := by omega
    have HN := veil (fun w1 (hb : Below w.heap.size w w1) => next_some w1 a0 m cap0 hm O0 R0 (hp.below hb) j ⟨0, hy0⟩ hjl)
    have HP : Hid (∀ w1, Below w.heap.size w w1 → ∃ lb off, a0 = some ⟨lb, off, none⟩ ∧ w1.cell? ⟨lb, off + j * 2, none⟩ = some (.int .i64 (O0 j))) := by
      intro w1 hb
      rcases hp.below hb with h0 | ⟨lb, off, h1, _, hc⟩
      · omega
      · exact ⟨lb, off, h1, (hc j hjl).1⟩
    by_cases h9 : O0 j = 9
    · rw [if_pos h9] at HN
      have e9 : (O0 j == 9) = true := by simpa using h9
      clear hall hlast hy0 hj
      go_enter Try.func7, Try.ntmps7
      go_wp2_with (first
        | (go_at_call 12; refine (HF.out).mono ?_; rintro e w0 ⟨rfl, hw⟩; replace hw := hw.symm; subst hw)
        | (go_at_call 13; refine (HC.out).mono ?_; rintro e w1 ⟨rfl, hb⟩; have HB := veil hb; clear hb)
        | (go_at_call 22; refine (HN.out _ HB.out).mono ?_; rintro e w2 ⟨v, rfl, hv, hb⟩; obtain rfl : v = .slice none 0 0 := hv; have HB2 := veil (HB.out.trans (hb.mono HB.out.size)); clear hb))
      go_loopw [9] (fun i wr => i = .int .i64 0 ∧ wr = w2) (fun i _ => 0)
      case atStart => exact ⟨rfl, rfl⟩
      case round =>
        obtain ⟨rfl, rfl⟩ := hrel
        go_wp2_with (go_at_call 15; refine (HL.out _).mono ?_; rintro e w3 ⟨rfl, hb⟩; have HB3 := veil (HB2.out.trans (hb.mono HB2.out.size)); obtain ⟨lb, off, rfl, y1⟩ := HP.out _ HB3.out; clear hb)
        go_ret
        exact ⟨by simp, HB3.out⟩
    · rw [if_neg h9] at HN
      have e9 : (O0 j == 9) = false := by simpa using h9
      have HQ : Hid (∃ x : Int, 0 ≤ x ∧ x < m ∧ (if O0 j = 8 then some (R0 j) else some ((j : Int) + 1)) = some x) := by
        by_cases h8 : O0 j = 8
        · have hk := hall j hjl
          rw [h8] at hk
          simp [okI, known, lo, hi] at hk
          exact ⟨R0 j, by omega, by omega, if_pos h8⟩
        · refine ⟨(j : Int) + 1, by omega, ?_, if_neg h8⟩
          have : j ≠ m - 1 := fun q => by rw [← q] at hlast; omega
          omega
      obtain ⟨x, hx0, hx1, hx⟩ := HQ.out
      rw [hx] at HN
      have hx0' : ¬ x < 0 := by omega
      have hx1' : ¬ (m : Int) ≤ x := by omega
      clear hall hlast hy0 hj hx HQ
      go_enter Try.func7, Try.ntmps7
      go_wp2_with (first
        | (go_at_call 12; refine (HF.out).mono ?_; rintro e w0 ⟨rfl, hw⟩; replace hw := hw.symm; subst hw)
        | (go_at_call 13; refine (HC.out).mono ?_; rintro e w1 ⟨rfl, hb⟩; have HB := veil hb; clear hb)
        | (go_at_call 22; refine (HN.out _ HB.out).mono ?_; rintro e w2 ⟨v, rfl, hv, hb⟩; obtain ⟨bb, _, _, rfl, yc⟩ := hv; have HB2 := veil (HB.out.trans (hb.mono HB.out.size)); clear hb))
      go_loopw [9] (fun i wr => (i = .int .i64 0 ∨ i = .int .i64 1) ∧ wr = w2) (fun i _ => 1 - (intOf i).toNat)
      case atStart => exact ⟨.inl rfl, rfl⟩
      case round =>
        obtain ⟨hi, rfl⟩ := hrel
        rcases hi with rfl | rfl
        · go_wp2
          go_roundw
          case rel => exact ⟨.inr rfl, trivial⟩
          case measure => decide
        · go_wp2_with (go_at_call 15; refine (HL.out _).mono ?_; rintro e w3 ⟨rfl, hb⟩; have HB3 := veil (HB2.out.trans (hb.mono HB2.out.size)); obtain ⟨lb, off, rfl, y1⟩ := HP.out _ HB3.out; clear hb)
          go_ret
          exact ⟨by simp, HB3.out⟩
  · obtain ⟨x, y, hxy⟩ := chk_total m O0 R0
    have hx : x ≠ 0 := fun q => hr ⟨y, q ▸ hxy⟩
    obtain rfl := hxy.three hx
    have HC := veil (check_known w a0 m cap0 hm O0 R0 hp 3 y hxy)
    have HN := veil (fun w1 (hb : Below w.heap.size w w1) => next_none w1 a0 m cap0 hm O0 R0 (hp.below hb) (A : Int) (fun q => hr q.1))
    clear hr hxy hx hp
    go_enter Try.func7, Try.ntmps7
    go_wp2_with (first
      | (go_at_call 12; refine (HF.out).mono ?_; rintro e w0 ⟨rfl, hw⟩; replace hw := hw.symm; subst hw)
      | (go_at_call 13; refine (HC.out).mono ?_; rintro e w1 ⟨rfl, hb⟩; have HB := veil hb; clear hb)
      | (go_at_call 15; refine (HL.out _).mono ?_; rintro e w2 ⟨rfl, hb⟩; have HB2 := veil (HB.out.trans (hb.mono HB.out.size)); clear hb)
      | (go_at_call 22; refine (HN.out _ HB2.out).mono ?_; rintro e w3 ⟨rfl, hb⟩; have HB3 := veil (HB2.out.trans (hb.mono HB2.out.size)); clear hb))
    go_ret
    exact ⟨rfl, HB3.out⟩

set_option maxHeartbeats 1000000 in
set_option maxRecDepth 100000 in
theorem lifted (os : Os) (started : os.Started) (H : Type) (enc : TypeId × Value → H) :
    ReturnsInHanded {} Try.checked os 7 .any (Rows.progStaysSpec.pre6 enc Try.prog Try.f7 Rows.progStaysRow.domain false) (Rows.progStaysSpec.post enc Try.prog Try.f7 false true false false) := by
  refine returnsInHanded_of_change (C := Try.checked) own started (by kernel_rfl) Try.func7
    (ChangeSpec.witness6 (enc := enc) (C := Try.checked) false ⟨#[], #[.slice none 0 0, .int .u8 0], []⟩ 8 (by kernel_rfl) (by kernel_rfl) (by kernel_rfl) (by kernel_rfl)) ?_
  intro W base args ds gs before hval0 hW hcnd _
  have hval : ∀ (j : Nat) t v, Try.f7.params[j]? = some t → args[j]? = some v → Value.okWide Try.prog W .any base t v := hval0
  have hW' := hW
  obtain ⟨p, q, hA0, hV, rfl, hfz, hnd⟩ := hW
  have hA : DataW.TrodAll enc Try.prog W 0 (fun _ => true) true Try.f7.params.toList args.toList ds p := hA0
  rw [Try.params7] at hA hval
  obtain ⟨v0, vs0, d0, ds0, p0', q0', hargs, rfl, rfl, h0, r0⟩ := trodAll_cons hA
  obtain ⟨v1, vs1, d1, ds1, p1', q1', rfl, rfl, rfl, h1, r1⟩ := trodAll_cons r0
  obtain ⟨rfl, rfl, rfl⟩ := trodAll_nil r1
  obtain rfl : args = #[v0, v1] := by cases args; simp_all
  obtain ⟨rfl, rfl⟩ := trodVars_none hV
  have kk0 := h0
  have lt0 : ∀ x ∈ p0', x.block < W.heap.size := by obtain ⟨m, hm⟩ := kk0; exact DataW.trod_lt m _ _ _ hm
  obtain ⟨a0, len0, cap0, rfl⟩ := okWide_slice Try.underlying22 (hval 0 22 v0 rfl rfl)
  obtain ⟨n0, c0, m0, O0, R0, w0⟩ : len0 < 9223372036854775808 ∧ len0 ≤ cap0 ∧ cap0 < 9223372036854775808 ∧ ∃ (O R : Nat → Int), Prg W a0 len0 O R := by
    obtain ⟨fuel, hf⟩ := h0
    exact open_prg hf
  have kk1 := h1
  have lt1 : ∀ x ∈ p1', x.block < W.heap.size := by obtain ⟨m, hm⟩ := kk1; exact DataW.trod_lt m _ _ _ hm
  obtain ⟨a1, rfl, rfl, rfl, w1⟩ := open_int Try.underlying5 (hval 1 5 v1 rfl rfl) h1
  clear hA0 hval0
  refine (walk a0 len0 cap0 O0 R0 a1 W n0 c0 m0 w0 w1).mono fun e W' ⟨he, bel⟩ => ?_
  subst he
  exact ⟨_, rfl, _, _, _, [], _, [], hW', trodAll_mk1 (shut_bool Try.underlying4 _), (trodAll_cons_mk (Below.trod laidOut (by kernel_rfl) (of_decide_eq_true (by kernel_rfl)) kk0 bel lt0) (trodAll_cons_mk (Below.trod laidOut (by kernel_rfl) (of_decide_eq_true (by kernel_rfl)) kk1 bel lt1) trodAll_mk0)), rfl, bel.frame _, fun h => by cases h⟩

theorem over : Rows.progStaysRow.holds Try.pinned (OpenSpec.ofChange Rows.progStaysSpec) :=
  OpenClaim.holds_of_wide 7 Try.f7 rfl rfl rfl rfl rfl rfl rfl ⟨rfl, rfl, rfl, rfl, rfl⟩ rfl rfl rfl rfl rfl (by kernel_rfl) Try.func7 (by kernel_rfl)
    (of_decide_eq_true (by kernel_rfl)) (by unfold Func.isWrapper; first | (rw [if_pos (by decide +kernel)]; kernel_rfl) | (rw [if_neg (by decide +kernel)]; exact ⟨rfl, rfl⟩))
    (fun os started H enc _ => lifted os started H enc)
end Go.Proofs.Ytolgagacdiljlaa.progStays
namespace Go.Proofs.Ytolgagacdiljlaa
/-- The statement. -/
theorem progStays_holds : Rows.ProgStaysSaid := progStays.over
#print axioms progStays_holds
end Go.Proofs.Ytolgagacdiljlaa
