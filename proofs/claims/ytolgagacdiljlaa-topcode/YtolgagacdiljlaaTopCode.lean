/-
  TopCode: what bytes say is a right program, or none; from place to place one stays within it.
-/
import Derived.Test.YtolgagacdiljlaaRows
import Derived.Test.YtolgagacdiljlaaO21
import Derived.WalkKit
import Derived.ProofKit
import Derived.OpenShut
import Derived.RowKit3
import Derived.Laws.Cover2
import Derived.Laws.IdiomArrays
import Derived.ChangeOld
import Derived.Below
import Derived.Carry
import Derived.Lib.SmallJoins
namespace Go.Proofs.Ytolgagacdiljlaa.topCode
open Go.ChangeShapes Go.WideShapes Go.ChangeAt Go.RowKit
set_option linter.unusedVariables false

theorem own : ownKnob Try.prog.godebug = none := by kernel_rfl
theorem laidOut : laidOutB Try.prog = true := by kernel_rfl
theorem row_len {w : World} {base : Nat} {e : TypeId} {size : Nat} {v : Value} {n : Nat} {xs : List Value} (h : w.ownsRow base e size v n xs) : ∃ a c, v = .slice a n c := by
  rcases h.2 with ⟨rfl, rfl⟩ | ⟨g, cap, cur, rfl, _⟩
  · exact ⟨_, _, rfl⟩
  · exact ⟨_, _, rfl⟩
theorem exit_rt : Rt 1 (fun _ => 9) (fun _ => 0) := ⟨0, .inr (.inr (.inr ⟨by omega, by omega, fun i hi => okI_exit _, .inr rfl, rfl, rfl⟩))⟩

set_option maxHeartbeats 1000000 in
theorem walk (a0 : Option Addr) (len0 cap0 : Nat) (X0 : Nat → Nat) (a1 : Int) (w : World) (n0 : len0 < 9223372036854775808) (c0 : len0 ≤ cap0) (m0 : cap0 < 9223372036854775808) (w0 : Byt w a0 len0 X0) (w1 : (Lit.int .u8 a1).wf = true) :
    Calls Try.prog 11 #[.slice a0 len0 cap0, .int .u8 a1] w fun e w' => e = .returned (.bool true) ∧ Below w.heap.size w w' := by
  obtain ⟨A, rfl, hA⟩ : ∃ A : Nat, a1 = (A : Int) ∧ A < 256 := by
    have hz : 0 ≤ a1 ∧ a1 < 256 := by
      simp [Lit.wf, IntKind.min, IntKind.max, IntKind.bits, IntKind.signed] at w1
      omega
    exact ⟨a1.toNat, by omega, by omega⟩
  clear w1
  by_cases hyes : len0 = 1 + 4 * X0 0 ∧ Rt (X0 0) (deO X0) (deR X0)
  · obtain ⟨he2, hr2⟩ := hyes
    have hx0 : X0 0 < 256 := by
      rcases w0 with h | ⟨_, _, _, _, h⟩
      · omega
      · exact (h 0 (by omega)).2
    have HD := veil (decode_yes w a0 len0 cap0 X0 w0 c0 m0 hx0 he2 hr2)
    obtain ⟨y0, hy0⟩ := hr2
    obtain ⟨hl1, hl2, hall, hlast, rfl⟩ := hy0.zero
    have HC := veil (fun (w1 : World) (a : Option Addr) (cap : Nat) (hp : Prg w1 a (X0 0) (deO X0) (deR X0)) => check_known w1 a (X0 0) cap (by omega) _ _ hp 0 0 hy0)
    have HN := veil (fun (w1 : World) (a : Option Addr) (cap : Nat) (hp : Prg w1 a (X0 0) (deO X0) (deR X0)) (j : Nat) (hj : j < X0 0) => next_some w1 a (X0 0) cap (by omega) _ _ hp j ⟨0, hy0⟩ hj)
    have HQ : Hid (∀ j, j < X0 0 → deO X0 j ≠ 9 → ∃ x : Nat, x < X0 0 ∧ (if deO X0 j = 8 then some (deR X0 j) else some ((j : Int) + 1)) = some (x : Int)) := by
      intro j hjl h9
      by_cases h8 : deO X0 j = 8
      · have hk := hall j hjl
        rw [h8] at hk
        simp [okI, known, lo, hi] at hk
        exact ⟨(deR X0 j).toNat, by omega, by rw [if_pos h8, Int.toNat_of_nonneg (by omega)]⟩
      · refine ⟨j + 1, ?_, by rw [if_neg h8]; rfl⟩
        have : j ≠ X0 0 - 1 := fun q => by rw [← q] at hlast; omega
        omega
    clear hy0 hall hlast he2 w0
    generalize X0 0 = N at HD HC HN HQ hl1 hl2 hx0
    generalize deO X0 = O at HD HC HN HQ
    generalize deR X0 = R at HD HC HN HQ
    have hN0 : ((N : Int) == 0) = false := by simp; omega
    go_enter Try.func11, Try.ntmps11
    go_wp2_with (first
      | (go_at_call 18; refine (HD.out).mono ?_; rintro e w1 ⟨a2, c2, rfl, hp, hb⟩; have HP := veil hp; have HB := veil hb; clear hp hb HD)
      | (go_at_call 13; refine (HC.out _ _ _ HP.out).mono ?_; rintro e w2 ⟨rfl, hb⟩; have HP2 := veil (HP.out.below hb); have HB2 := veil (HB.out.trans (hb.mono HB.out.size)); clear hb HC))
    clear HP HB
    go_loopw [11, 12] (fun s i wr => ∃ (t k : Nat), t < N ∧ k ≤ A ∧ s = .int .i64 t ∧ i = .int .i64 k ∧ Below w2.heap.size w2 wr) (fun _ i _ => A - (intOf i).toNat)
    case atStart => exact ⟨0, 0, by omega, by omega, rfl, rfl, Below.refl _ _⟩
    case round =>
      obtain ⟨t, k, ht, hk, rfl, rfl, hbel⟩ := hrel
      have HBE := veil hbel
      clear hbel
      by_cases hkl : k < A
      · have hkl' : (k : Int) < (A : Int) := by omega
        have hpr := HP2.out.below HBE.out
        have HN2 := veil (HN.out wr a2 c2 hpr t ht)
        by_cases h9 : O t = 9
        · rw [if_pos h9] at HN2
          have e9 : (O t == 9) = true := by simpa using h9
          have HG : Hid (∀ W, Below wr.heap.size wr W → ∃ lb off, a2 = some ⟨lb, off, none⟩ ∧ W.cell? ⟨lb, off + t * 2, none⟩ = some (.int .i64 (O t))) := by
            intro W hb
            rcases hpr.below hb with h0 | ⟨lb, off, h1, _, hc⟩
            · omega
            · exact ⟨lb, off, h1, (hc t ht).1⟩
          clear hpr
          go_wp2_with (go_at_call 22; refine (HN2.out).mono ?_; rintro e w3 ⟨v, rfl, hv, hb⟩; obtain rfl : v = .slice none 0 0 := hv; obtain ⟨lb, off, rfl, y1⟩ := HG.out _ hb; have HB3 := veil (HB2.out.trans ((HBE.out.trans (hb.mono HBE.out.size)).mono HB2.out.size)); clear hb HG HN2)
          go_ret
          exact ⟨by simp, HB3.out⟩
        · rw [if_neg h9] at HN2
          obtain ⟨x, hx1, hx2⟩ := HQ.out t ht h9
          rw [hx2] at HN2
          have hxn : ¬ (N : Int) ≤ (x : Int) := by omega
          have hxz : ¬ (x : Int) < 0 := by omega
          clear hpr hx2
          go_wp2_with (go_at_call 22; refine (HN2.out).mono ?_; rintro e w3 ⟨v, rfl, hv, hb⟩; obtain ⟨bb, _, _, rfl, yc⟩ := hv; have HB3 := veil (HBE.out.trans (hb.mono HBE.out.size)); clear hb HN2)
          go_roundw
          case rel => exact ⟨x, k + 1, hx1, by omega, rfl, by go_num, HB3.out⟩
          case measure => simp [intOf]; omega
      · have hkl' : ¬ (k : Int) < (A : Int) := by omega
        go_wp2
        go_ret
        exact ⟨by simp, HB2.out.trans (HBE.out.mono HB2.out.size)⟩
  · have HD : Hid (Calls Try.prog 18 #[.slice a0 len0 cap0] w fun e w' => e = .returned (.tuple #[.slice none 0 0, .int .i64 3]) ∧ Below w.heap.size w w') := by
      by_cases he : len0 = 1 + 4 * X0 0
      · have hx0 : X0 0 < 256 := by
          rcases w0 with h | ⟨_, _, _, _, h⟩
          · omega
          · exact (h 0 (by omega)).2
        exact decode_wrong w a0 len0 cap0 X0 w0 c0 m0 hx0 he (fun q => hyes ⟨he, q⟩)
      · exact decode_cut w a0 len0 cap0 X0 w0 c0 m0 he
    have HE : Hid (∀ W : World, Calls Try.prog 16 #[.slice (some ⟨W.heap.size, 0, none⟩) 1 1] (W.alloc (.cells #[.int .i64 9, .int .i64 0] 42)) fun e w' => ∃ a c, e = .returned (.tuple #[.slice a 5 c, .int .i64 0]) ∧ Below (W.heap.size + 1) (W.alloc (.cells #[.int .i64 9, .int .i64 0] 42)) w') := by
      intro W
      refine (encode_yes _ (some ⟨W.heap.size, 0, none⟩) 1 1 (by omega) (fun _ => 9) (fun _ => 0) (.inr ⟨W.heap.size, 0, rfl, by simp, fun j hj => ?_⟩) exit_rt).mono ?_
      · obtain rfl : j = 0 := by omega
        exact ⟨by unfold World.cell?; simp only [(MapKept.heap_alloc W _).1]; rfl, by unfold World.cell?; simp only [(MapKept.heap_alloc W _).1]; rfl⟩
      · rintro e w' ⟨v, rfl, ho, hb⟩
        obtain ⟨a, c, rfl⟩ := row_len ho
        rw [size_alloc] at hb
        exact ⟨a, c, rfl, hb⟩
    clear hyes w0
    go_enter Try.func11, Try.ntmps11
    go_wp2_with (first
      | (go_at_call 18; refine (HD.out).mono ?_; rintro e w1 ⟨rfl, hb⟩; have HB := veil hb; clear hb HD)
      | (go_at_call 16; refine (HE.out _).mono ?_; rintro e w2 ⟨a2, c2, rfl, hb⟩; have HB2 := veil ((HB.out.alloc HB.out.size _).trans (hb.mono (by have := HB.out.size; omega))); clear hb))
    go_ret
    exact ⟨by simp, HB2.out⟩

set_option maxHeartbeats 1000000 in
set_option maxRecDepth 100000 in
theorem lifted (os : Os) (started : os.Started) (H : Type) (enc : TypeId × Value → H) :
    ReturnsInHanded {} Try.checked os 11 .any (Rows.topCodeSpec.pre6 enc Try.prog Try.f11 Rows.topCodeRow.domain false) (Rows.topCodeSpec.post enc Try.prog Try.f11 false true false false) := by
  refine returnsInHanded_of_change (C := Try.checked) own started (by kernel_rfl) Try.func11
    (ChangeSpec.witness6 (enc := enc) (C := Try.checked) false ⟨#[], #[.slice none 0 0, .int .u8 0], []⟩ 8 (by kernel_rfl) (by kernel_rfl) (by kernel_rfl) (by kernel_rfl)) ?_
  intro W base args ds gs before hval0 hW hcnd _
  have hval : ∀ (j : Nat) t v, Try.f11.params[j]? = some t → args[j]? = some v → Value.okWide Try.prog W .any base t v := hval0
  have hW' := hW
  obtain ⟨p, q, hA0, hV, rfl, hfz, hnd⟩ := hW
  have hA : DataW.TrodAll enc Try.prog W 0 (fun _ => true) true Try.f11.params.toList args.toList ds p := hA0
  rw [Try.params11] at hA hval
  obtain ⟨v0, vs0, d0, ds0, p0', q0', hargs, rfl, rfl, h0, r0⟩ := trodAll_cons hA
  obtain ⟨v1, vs1, d1, ds1, p1', q1', rfl, rfl, rfl, h1, r1⟩ := trodAll_cons r0
  obtain ⟨rfl, rfl, rfl⟩ := trodAll_nil r1
  obtain rfl : args = #[v0, v1] := by cases args; simp_all
  obtain ⟨rfl, rfl⟩ := trodVars_none hV
  have kk0 := h0
  have lt0 : ∀ x ∈ p0', x.block < W.heap.size := by obtain ⟨m, hm⟩ := kk0; exact DataW.trod_lt m _ _ _ hm
  obtain ⟨a0, len0, cap0, rfl⟩ := okWide_slice Try.underlying29 (hval 0 29 v0 rfl rfl)
  obtain ⟨n0, c0, m0, X0, w0⟩ : len0 < 9223372036854775808 ∧ len0 ≤ cap0 ∧ cap0 < 9223372036854775808 ∧ ∃ (X : Nat → Nat), Byt W a0 len0 X := by
    obtain ⟨fuel, hf⟩ := h0
    exact open_byt hf
  have kk1 := h1
  have lt1 : ∀ x ∈ p1', x.block < W.heap.size := by obtain ⟨m, hm⟩ := kk1; exact DataW.trod_lt m _ _ _ hm
  obtain ⟨a1, rfl, rfl, rfl, w1⟩ := open_int Try.underlying5 (hval 1 5 v1 rfl rfl) h1
  clear hA0 hval0
  refine (walk a0 len0 cap0 X0 a1 W n0 c0 m0 w0 w1).mono fun e W' ⟨he, bel⟩ => ?_
  subst he
  exact ⟨_, rfl, _, _, _, [], _, [], hW', trodAll_mk1 (shut_bool Try.underlying4 _), (trodAll_cons_mk (Below.trod laidOut (by kernel_rfl) (of_decide_eq_true (by kernel_rfl)) kk0 bel lt0) (trodAll_cons_mk (Below.trod laidOut (by kernel_rfl) (of_decide_eq_true (by kernel_rfl)) kk1 bel lt1) trodAll_mk0)), rfl, bel.frame _, fun h => by cases h⟩

theorem over : Rows.topCodeRow.holds Try.pinned (OpenSpec.ofChange Rows.topCodeSpec) :=
  OpenClaim.holds_of_wide 11 Try.f11 rfl rfl rfl rfl rfl rfl rfl ⟨rfl, rfl, rfl, rfl, rfl⟩ rfl rfl rfl rfl rfl (by kernel_rfl) Try.func11 (by kernel_rfl)
    (of_decide_eq_true (by kernel_rfl)) (by unfold Func.isWrapper; first | (rw [if_pos (by decide +kernel)]; kernel_rfl) | (rw [if_neg (by decide +kernel)]; exact ⟨rfl, rfl⟩))
    (fun os started H enc _ => lifted os started H enc)
end Go.Proofs.Ytolgagacdiljlaa.topCode
namespace Go.Proofs.Ytolgagacdiljlaa
/-- The statement. -/
theorem topCode_holds : Rows.TopCodeSaid := topCode.over
#print axioms topCode_holds
end Go.Proofs.Ytolgagacdiljlaa
