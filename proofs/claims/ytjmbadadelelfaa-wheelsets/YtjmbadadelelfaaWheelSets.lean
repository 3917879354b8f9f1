/-
  For every deeds, an id and a time WheelSets answers true: what is set is there at its time till it is due or canceled; it can't be set twice. No condition.
-/
import Derived.Test.YtjmbadadelelfaaRows
import Derived.Test.YtjmbadadelelfaaWd1
import Derived.WalkKit
import Derived.ProofKit
import Derived.OpenShut
import Derived.RowKit3
import Derived.Laws.Cover2
import Derived.Laws.IdiomArrays
import Derived.ChangeOld
import Derived.Below
import Derived.Carry
import Derived.Lib.SmallJoins
namespace Go.Proofs.Ytjmbadadelelfaa.wheelSets
open Go.ChangeShapes Go.WideShapes Go.ChangeAt Go.RowKit
set_option linter.unusedVariables false

theorem own : ownKnob Try.prog.godebug = none := by kernel_rfl
theorem laidOut : laidOutB Try.prog = true := by kernel_rfl
open Go.Lib
attribute [local go_sem ↓] Go.wp_at_zero Go.wp_at_succ
set_option maxRecDepth 100000 in
set_option maxHeartbeats 4000000 in
theorem way (m : Nat) (hm : m < 256) (a : Option Addr) (len cap : Nat) (D : Nat → Dd) (x : Dd) (hx : x.ok) (w : World) (hlen : len < 9223372036854775808) (hd : Dds w a len D) :
    Calls Try.prog 6 #[.int .u8 m, .slice a len cap, .agg #[.int .i64 x.k, .int .i64 x.i, .int .u64 (x.t : Int)]] w fun e w' => e = .returned (.bool true) ∧ Below w.heap.size w w' := by
  obtain ⟨wB, hwB⟩ : ∃ wB, wB = w.alloc (.cells #[.int .i64 x.k, .int .i64 x.i, .int .u64 (x.t : Int)] 44) := ⟨_, rfl⟩
  have hbb : Below w.heap.size w wB := by rw [hwB]; exact (Below.refl _ _).alloc (Nat.le_refl _) _
  have hq : w.heap.size < wB.heap.size := by rw [hwB]; simp
  have b1 : wB.cell? ⟨w.heap.size, 1, none⟩ = some (.int .i64 x.i) := by rw [hwB]; exact cell_new _ _ _ 1
  have b2 : wB.cell? ⟨w.heap.size, 2, none⟩ = some (.int .u64 (x.t : Int)) := by rw [hwB]; exact cell_new _ _ _ 2
  have HP := veil (play_ok wB m hm a len cap hlen D (hd.below hbb))
  have HBX : Hid (∀ W, Below wB.heap.size wB W → W.cell? ⟨w.heap.size, 1, none⟩ = some (.int .i64 x.i) ∧ W.cell? ⟨w.heap.size, 2, none⟩ = some (.int .u64 (x.t : Int))) := fun W hb => ⟨(hb.cell (p := ⟨w.heap.size, 1, none⟩) hq).trans b1, (hb.cell (p := ⟨w.heap.size, 2, none⟩) hq).trans b2⟩
  have HBB := veil hbb
  have hxt := hx.2
  have HWB := veil hwB
  clear hd hwB hbb b1 b2
  go_enter Try.func6, Try.ntmps6
  go_upto_region 1 with fail
  rw [← HWB.out]
  clear HWB
  go_upto_region 5 with (first
    | (go_at_call 11; refine (HP.out).mono ?_; rintro e w1 ⟨base, b, g, mb, rb, nw, S, rfl, hB, hL⟩; have HB1 := veil hB.sol; have HL1 := veil hL; clear hB hL)
    | (go_at_call 12; refine (live_ok _).mono ?_; rintro e w2 ⟨rfl, hb2⟩; have HB2 := veil (HB1.out.below hb2); have hl2 := HL1.out.trans (hb2.mono HL1.out.size); obtain ⟨c1, c2⟩ := HBX.out _ hl2; have HL2 := veil hl2; clear hb2 hl2)
    | (go_at_call 17; refine (at_ok HB2.out.p x.i).mono ?_; rintro e w3 ⟨rfl, hb3⟩; have HB3 := veil (HB2.out.below hb3); have hl3 := HL2.out.trans (hb3.mono HL2.out.size); obtain ⟨d1, d2⟩ := HBX.out _ hl3; have HL3 := veil hl3; clear hb3 hl3 HB2))
  clear HP HB1 HL1 HL2 c1 c2
  generalize m % 12 + 1 = n at *
  have hset := HB3.out.set x.i x.t hxt
  by_cases hc : setC n S x.i = 0
  · obtain ⟨f1, f2, f3, f4, f5, f6, f7⟩ := set_then HB3.out.p x.i x.t hc
    rw [hc] at hset
    rw [f1]
    generalize atT n S x.i = q0 at *
    have HS1 := veil hset
    have HA2 : Hid (∀ W, Sol W wB.heap.size b g mb n nw (setS n S x.i x.t) → Calls Try.prog 17 #[.pointer (some ⟨b, 0, none⟩), .int .i64 x.i] W fun e w' => e = .returned (.tuple #[.int .u64 (x.t : Int), .bool true]) ∧ Below W.heap.size W w') := fun W h => by have := at_ok h.p x.i; rw [f2, f3] at this; exact this
    have HS2 : Hid (∀ W, Sol W wB.heap.size b g mb n nw (setS n S x.i x.t) → Calls Try.prog 21 #[.pointer (some ⟨b, 0, none⟩), .int .i64 x.i, .int .u64 0] W fun e w' => e = .returned (.int .i64 5) ∧ Sol w' wB.heap.size b g mb n nw (setS n S x.i x.t) ∧ Below wB.heap.size W w') := fun W h => by have := h.set x.i 0 (by decide); rw [f4, f5] at this; exact this
    have HC1 : Hid (∀ W, Sol W wB.heap.size b g mb n nw (setS n S x.i x.t) → Calls Try.prog 22 #[.pointer (some ⟨b, 0, none⟩), .int .i64 x.i] W fun e w' => e = .returned (.int .i64 0) ∧ Sol w' wB.heap.size b g mb n nw (canS n (setS n S x.i x.t) x.i) ∧ Below wB.heap.size W w') := fun W h => by have := h.cancel x.i; rw [f6] at this; exact this
    have HC2 : Hid (∀ W, Sol W wB.heap.size b g mb n nw (canS n (setS n S x.i x.t) x.i) → Calls Try.prog 22 #[.pointer (some ⟨b, 0, none⟩), .int .i64 x.i] W fun e w' => e = .returned (.int .i64 6) ∧ Below wB.heap.size W w') := fun W h => by have := h.cancel x.i; rw [f7] at this; exact this.mono (fun _ _ q => ⟨q.1, q.2.2⟩)
    clear hset hc f1 f2 f3 f4 f5 f6 f7
    generalize canS n (setS n S x.i x.t) x.i = S2 at *
    generalize setS n S x.i x.t = S1 at *
    go_wp2_with (first
      | (go_at_call 17; refine (HA2.out _ HB4.out).mono ?_; rintro e w5 ⟨rfl, hb⟩; have HB5 := veil (HB4.out.below hb); have hl := HL4.out.trans (hb.mono HL4.out.size); obtain ⟨h1, h2⟩ := HBX.out _ hl; have HL5 := veil hl; clear hb hl)
      | (go_at_call 21; (have hh := HB5.out; clear hh); refine (HS2.out _ HB5.out).mono ?_; rintro e w6 ⟨rfl, hs, hb⟩; have HB6 := veil hs; have hl := HL5.out.trans hb; obtain ⟨i1, i2⟩ := HBX.out _ hl; have HL6 := veil hl; clear hb hl hs)
      | (go_at_call 21; refine (HS1.out).mono ?_; rintro e w4 ⟨rfl, hs, hb⟩; have HB4 := veil hs; have hl := HL3.out.trans hb; obtain ⟨g1, g2⟩ := HBX.out _ hl; have HL4 := veil hl; clear hb hl hs)
      | (go_at_call 22; (have hh := HB7.out; clear hh); refine (HC2.out _ HB7.out).mono ?_; rintro e w8 ⟨rfl, hb⟩; have HL8 := veil (HL7.out.trans hb); clear hb)
      | (go_at_call 22; refine (HC1.out _ HB6.out).mono ?_; rintro e w7 ⟨rfl, hs, hb⟩; have HB7 := veil hs; have hl := HL6.out.trans hb; obtain ⟨j1, j2⟩ := HBX.out _ hl; have HL7 := veil hl; clear hb hl hs))
    go_ret
    exact ⟨rfl, HBB.out.trans (HL8.out.mono HBB.out.size)⟩
  · have HS1 := veil hset
    have hcc := set_not HB3.out.p x.i hc
    clear hset hc
    generalize atT n S x.i = q0 at *
    rcases hcc with hcc | ⟨hcc, hb5⟩
    · rw [hcc] at HS1
      generalize atB n S x.i = q1 at *
      clear hcc
      go_wp2_with (go_at_call 21; refine (HS1.out).mono ?_; rintro e w4 ⟨rfl, hs, hb⟩; have HL4 := veil (HL3.out.trans hb); clear hb hs)
      go_ret
      exact ⟨rfl, HBB.out.trans (HL4.out.mono HBB.out.size)⟩
    · rw [hcc] at HS1
      rw [hb5]
      clear hcc hb5
      go_wp2_with (go_at_call 21; refine (HS1.out).mono ?_; rintro e w4 ⟨rfl, hs, hb⟩; have HL4 := veil (HL3.out.trans hb); clear hb hs)
      go_ret
      exact ⟨rfl, HBB.out.trans (HL4.out.mono HBB.out.size)⟩

set_option maxHeartbeats 1000000 in
theorem walk (a0 : Int) (a1 : Option Addr) (len1 cap1 : Nat) (D1 : Nat → Dd) (x2 : Dd) (w : World) (w0 : (Lit.int .u8 a0).wf = true) (n1 : len1 < 9223372036854775808) (c1 : len1 ≤ cap1) (m1 : cap1 < 9223372036854775808) (w1 : Dds w a1 len1 D1) (w2 : x2.ok) :
    Calls Try.prog 6 #[.int .u8 a0, .slice a1 len1 cap1, .agg #[.int .i64 x2.k, .int .i64 x2.i, .int .u64 (x2.t : Int)]] w fun e w' => e = .returned (.bool true) ∧ Below w.heap.size w w' := by
  obtain ⟨l0, m0⟩ := bounds_u8 w0
  obtain ⟨M, rfl⟩ := Int.eq_ofNat_of_zero_le l0
  exact way M (by omega) a1 len1 cap1 D1 x2 w2 w n1 w1

set_option maxHeartbeats 1000000 in
set_option maxRecDepth 100000 in
theorem lifted (os : Os) (started : os.Started) (H : Type) (enc : TypeId × Value → H) :
    ReturnsInHanded {} Try.checked os 6 .any (Rows.wheelSetsSpec.pre6 enc Try.prog Try.f6 Rows.wheelSetsRow.domain false) (Rows.wheelSetsSpec.post enc Try.prog Try.f6 false true false false) := by
  refine returnsInHanded_of_change (C := Try.checked) own started (by kernel_rfl) Try.func6
    (ChangeSpec.witness6 (enc := enc) (C := Try.checked) false ⟨#[], #[.int .u8 0, .slice none 0 0, .agg #[.int .i64 0, .int .i64 0, .int .u64 0]], []⟩ 8 (by kernel_rfl) (by kernel_rfl) (by kernel_rfl) (by kernel_rfl)) ?_
  intro W base args ds gs before hval0 hW hcnd _
  have hval : ∀ (j : Nat) t v, Try.f6.params[j]? = some t → args[j]? = some v → Value.okWide Try.prog W .any base t v := hval0
  have hW' := hW
  obtain ⟨p, q, hA0, hV, rfl, hfz, hnd⟩ := hW
  have hA : DataW.TrodAll enc Try.prog W 0 (fun _ => true) true Try.f6.params.toList args.toList ds p := hA0
  rw [Try.params6] at hA hval
  obtain ⟨v0, vs0, d0, ds0, p0', q0', hargs, rfl, rfl, h0, r0⟩ := trodAll_cons hA
  obtain ⟨v1, vs1, d1, ds1, p1', q1', rfl, rfl, rfl, h1, r1⟩ := trodAll_cons r0
  obtain ⟨v2, vs2, d2, ds2, p2', q2', rfl, rfl, rfl, h2, r2⟩ := trodAll_cons r1
  obtain ⟨rfl, rfl, rfl⟩ := trodAll_nil r2
  obtain rfl : args = #[v0, v1, v2] := by cases args; simp_all
  obtain ⟨rfl, rfl⟩ := trodVars_none hV
  have kk0 := h0
  have lt0 : ∀ x ∈ p0', x.block < W.heap.size := by obtain ⟨m, hm⟩ := kk0; exact DataW.trod_lt m _ _ _ hm
  obtain ⟨a0, rfl, rfl, rfl, w0⟩ := open_int Try.underlying5 (hval 0 5 v0 rfl rfl) h0
  have kk1 := h1
  have lt1 : ∀ x ∈ p1', x.block < W.heap.size := by obtain ⟨m, hm⟩ := kk1; exact DataW.trod_lt m _ _ _ hm
  obtain ⟨a1, len1, cap1, rfl⟩ := okWide_slice Try.underlying22 (hval 1 22 v1 rfl rfl)
  obtain ⟨n1, c1, m1, D1, w1⟩ : len1 < 9223372036854775808 ∧ len1 ≤ cap1 ∧ cap1 < 9223372036854775808 ∧ ∃ D, Dds W a1 len1 D := by
    obtain ⟨fuel, hf⟩ := h1
    exact open_deeds hf
  have kk2 := h2
  have lt2 : ∀ x ∈ p2', x.block < W.heap.size := by obtain ⟨m, hm⟩ := kk2; exact DataW.trod_lt m _ _ _ hm
  obtain ⟨x2, rfl, w2⟩ := open_deed (hval 2 44 v2 rfl rfl) h2
  clear hA0 hval0
  refine (walk a0 a1 len1 cap1 D1 x2 W w0 n1 c1 m1 w1 w2).mono fun e W' ⟨he, bel⟩ => ?_
  subst he
  exact ⟨_, rfl, _, _, _, [], _, [], hW', trodAll_mk1 (shut_bool Try.underlying4 _), (trodAll_cons_mk (Below.trod laidOut (by kernel_rfl) (of_decide_eq_true (by kernel_rfl)) kk0 bel lt0) (trodAll_cons_mk (Below.trod laidOut (by kernel_rfl) (of_decide_eq_true (by kernel_rfl)) kk1 bel lt1) (trodAll_cons_mk (Below.trod laidOut (by kernel_rfl) (of_decide_eq_true (by kernel_rfl)) kk2 bel lt2) trodAll_mk0))), rfl, bel.frame _, fun h => by cases h⟩

theorem over : Rows.wheelSetsRow.holds Try.pinned (OpenSpec.ofChange Rows.wheelSetsSpec) :=
  OpenClaim.holds_of_wide 6 Try.f6 rfl rfl rfl rfl rfl rfl rfl ⟨rfl, rfl, rfl, rfl, rfl⟩ rfl rfl rfl rfl rfl (by kernel_rfl) Try.func6 (by kernel_rfl)
    (of_decide_eq_true (by kernel_rfl)) (by unfold Func.isWrapper; first | (rw [if_pos (by decide +kernel)]; kernel_rfl) | (rw [if_neg (by decide +kernel)]; exact ⟨rfl, rfl⟩))
    (fun os started H enc _ => lifted os started H enc)
end Go.Proofs.Ytjmbadadelelfaa.wheelSets
namespace Go.Proofs.Ytjmbadadelelfaa
/-- The statement. -/
theorem wheelSets_holds : Rows.WheelSetsSaid := wheelSets.over
#print axioms wheelSets_holds
end Go.Proofs.Ytjmbadadelelfaa
