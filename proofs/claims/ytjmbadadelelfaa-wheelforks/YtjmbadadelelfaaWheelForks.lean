/-
  For every deeds, and more of them on the Fork, WheelForks answers true: what becomes of a Fork changes nothing. No condition.
-/
import Derived.Test.YtjmbadadelelfaaRows
import Derived.Test.YtjmbadadelelfaaWc7
import Derived.WalkKit
import Derived.ProofKit
import Derived.OpenShut
import Derived.RowKit3
import Derived.Laws.Cover2
import Derived.Laws.IdiomArrays
import Derived.ChangeOld
import Derived.Below
import Derived.Carry
import Derived.Lib.SmallJoins
namespace Go.Proofs.Ytjmbadadelelfaa.wheelForks
open Go.ChangeShapes Go.WideShapes Go.ChangeAt Go.RowKit
set_option linter.unusedVariables false

theorem own : ownKnob Try.prog.godebug = none := by kernel_rfl
theorem laidOut : laidOutB Try.prog = true := by kernel_rfl
open Go.Lib
attribute [local go_sem ↓] Go.wp_at_zero Go.wp_at_succ
set_option maxRecDepth 100000 in
set_option maxHeartbeats 4000000 in
theorem way (a : Option Addr) (len cap : Nat) (D : Nat → Dd) (a2 : Option Addr) (len2 cap2 : Nat) (D2 : Nat → Dd) (w : World) (hlen : len < 9223372036854775808) (hd : Dds w a len D) (hlen2 : len2 < 9223372036854775808) (hd2 : Dds w a2 len2 D2) :
    Calls Try.prog 7 #[.slice a len cap, .slice a2 len2 cap2] w fun e w' => e = .returned (.bool true) ∧ Below w.heap.size w w' := by
  have HP : Hid (Calls Try.prog 11 #[.int .u8 9, .slice a len cap] w (Played w 10)) := play_ok w 9 (by decide) a len cap hlen D hd
  have HD := veil hd2
  clear hd hd2
  go_enter Try.func7, Try.ntmps7
  go_wp2_with (first
    | (go_at_call 11; refine (HP.out).mono ?_; rintro e w1 ⟨base, b, g, mb, rb, nw, S, rfl, hB, hL⟩; have HB1 := veil hB; have HL1 := veil hL; clear hB hL)
    | (go_at_call 12; refine (live_ok _).mono ?_; rintro e w2 ⟨rfl, hb2⟩; have HB2 := veil (HB1.out.below hb2); have HL2 := veil (HL1.out.trans (hb2.mono HL1.out.size)); clear hb2)
    | (go_at_call 14; refine (fork_ok HB2.out.p).mono ?_; rintro e w3 ⟨b', g', mb', rfl, hlt, hq, hb⟩; have HQ := veil hq; have HLT := veil hlt; have HB3 := veil hb; clear hq hlt hb)
    | (go_at_call 23; refine (DW.fork (HB2.out.r.below HB3.out)).mono ?_; rintro e w4 ⟨rb', rfl, hd4, hb4⟩; have HD4 := veil hd4; have HB4 := veil hb4; clear hd4 hb4))
  have HF : Hid (Bth w4 w2.heap.size w3.heap.size b' g' mb' rb' 10 nw S) := ⟨HQ.out.below HB4.out, HD4.out, fun k hk => ⟨HLT.out k hk, HQ.out.blocks k hk⟩, HB3.out.size⟩
  have HW4 : Hid (Below w2.heap.size w2 w4) := HB3.out.trans (HB4.out.mono HB3.out.size)
  clear HQ HD4 HB3 HB4 HLT
  generalize w3.heap.size = base' at *
  go_loopw [10] (fun i wr => ∃ (j nw : Nat) (S : List It), j ≤ len2 ∧ i = .int .i64 j ∧ Bth wr w2.heap.size base' b' g' mb' rb' 10 nw S ∧ Below w2.heap.size w2 wr) (fun i _ => len2 - (intOf i).toNat)
  case atStart => exact ⟨0, _, _, by omega, rfl, HF.out, HW4.out⟩
  case round =>
    obtain ⟨j, nwf, Sf, hj, rfl, hB, hbel⟩ := hrel
    clear HF HW4
    by_cases hgo : j < len2 ∧ j < 30
    · have hjl' : (j : Int) < (len2 : Int) := by omega
      have hj30 : (j : Int) < 30 := by omega
      rcases HD.out with h0 | ⟨lb, off, rfl, hlb, hc⟩
      · omega
      · obtain ⟨z1, z2, z3, z4⟩ := hc j hgo.1
        have hbw := HL2.out.trans (hbel.mono HL2.out.size)
        have y2 := (hbw.cell (p := ⟨lb, off + j * 3, none⟩) hlb).trans z2
        have y3 := (hbw.cell (p := ⟨lb, off + j * 3 + 1, none⟩) hlb).trans z3
        have y4 := (hbw.cell (p := ⟨lb, off + j * 3 + 2, none⟩) hlb).trans z4
        have HO := veil (do_ok wr _ _ _ _ _ _ _ _ _ hB 12 sorts12 (by omega) (D2 j).k (D2 j).i (D2 j).t z1.2)
        have HL4 := veil hbel
        clear hc z1 z2 z3 z4 hB hbel hbw
        go_wp2_with (go_at_call 24; refine (HO.out).mono ?_; rintro e w5 ⟨rfl, hb3, hf3⟩; have HB3 := veil hb3; have HF3 := veil (HL4.out.trans hf3); clear hb3 hf3)
        go_roundw
        case rel =>
          obtain ⟨nw', S', hb'⟩ := HB3.out
          exact ⟨j + 1, nw', S', by omega, by go_num, hb', HF3.out⟩
        case measure => simp [intOf]; omega
    · have HBf := veil hB
      have HL4 := veil hbel
      have HBw := veil (HB2.out.below hbel)
      have hor : ¬ (j : Int) < (len2 : Int) ∨ ¬ (j : Int) < 30 := by omega
      clear hB hbel
      rcases hor with hor | hor
      · go_wp2_with (first
          | (go_at_call 13; (have hh := HLs.out; clear hh); refine (same_ok _ _ _ _ _ _ _ _ _ _ (HBf.out.below HLs.out) 1).mono ?_; rintro e w7 ⟨rfl, hb3⟩; have HLt := veil (HL4.out.trans ((HLs.out.trans (hb3.mono HLs.out.size)).mono HL4.out.size)); clear hb3)
          | (go_at_call 13; refine (same_ok _ _ _ _ _ _ _ _ _ _ HBw.out 1).mono ?_; rintro e w6 ⟨rfl, hb3⟩; have HLs := veil hb3; clear hb3))
        go_ret
        exact ⟨rfl, HL2.out.trans (HLt.out.mono HL2.out.size)⟩
      · by_cases hjl : (j : Int) < (len2 : Int)
        all_goals
          go_wp2_with (first
            | (go_at_call 13; (have hh := HLs.out; clear hh); refine (same_ok _ _ _ _ _ _ _ _ _ _ (HBf.out.below HLs.out) 1).mono ?_; rintro e w7 ⟨rfl, hb3⟩; have HLt := veil (HL4.out.trans ((HLs.out.trans (hb3.mono HLs.out.size)).mono HL4.out.size)); clear hb3)
            | (go_at_call 13; refine (same_ok _ _ _ _ _ _ _ _ _ _ HBw.out 1).mono ?_; rintro e w6 ⟨rfl, hb3⟩; have HLs := veil hb3; clear hb3))
          go_ret
          exact ⟨rfl, HL2.out.trans (HLt.out.mono HL2.out.size)⟩

set_option maxHeartbeats 1000000 in
theorem walk (a0 : Option Addr) (len0 cap0 : Nat) (D0 : Nat → Dd) (a1 : Option Addr) (len1 cap1 : Nat) (D1 : Nat → Dd) (w : World) (n0 : len0 < 9223372036854775808) (c0 : len0 ≤ cap0) (m0 : cap0 < 9223372036854775808) (w0 : Dds w a0 len0 D0) (n1 : len1 < 9223372036854775808) (c1 : len1 ≤ cap1) (m1 : cap1 < 9223372036854775808) (w1 : Dds w a1 len1 D1) :
    Calls Try.prog 7 #[.slice a0 len0 cap0, .slice a1 len1 cap1] w fun e w' => e = .returned (.bool true) ∧ Below w.heap.size w w' := by
  exact way a0 len0 cap0 D0 a1 len1 cap1 D1 w n0 w0 n1 w1

set_option maxHeartbeats 1000000 in
set_option maxRecDepth 100000 in
theorem lifted (os : Os) (started : os.Started) (H : Type) (enc : TypeId × Value → H) :
    ReturnsInHanded {} Try.checked os 7 .any (Rows.wheelForksSpec.pre6 enc Try.prog Try.f7 Rows.wheelForksRow.domain false) (Rows.wheelForksSpec.post enc Try.prog Try.f7 false true false false) := by
  refine returnsInHanded_of_change (C := Try.checked) own started (by kernel_rfl) Try.func7
    (ChangeSpec.witness6 (enc := enc) (C := Try.checked) false ⟨#[], #[.slice none 0 0, .slice none 0 0], []⟩ 8 (by kernel_rfl) (by kernel_rfl) (by kernel_rfl) (by kernel_rfl)) ?_
  intro W base args ds gs before hval0 hW hcnd _
  have hval : ∀ (j : Nat) t v, Try.f7.params[j]? = some t → args[j]? = some v → Value.okWide Try.prog W .any base t v := hval0
  have hW' := hW
  obtain ⟨p, q, hA0, hV, rfl, hfz, hnd⟩ := hW
  have hA : DataW.TrodAll enc Try.prog W 0 (fun _ => true) true Try.f7.params.toList args.toList ds p := hA0
  rw [Try.params7] at hA hval
  obtain ⟨v0, vs0, d0, ds0, p0', q0', hargs, rfl, rfl, h0, r0⟩ := trodAll_cons hA
  obtain ⟨v1, vs1, d1, ds1, p1', q1', rfl, rfl, rfl, h1, r1⟩ := trodAll_cons r0
  obtain ⟨rfl, rfl, rfl⟩ := trodAll_nil r1
  obtain rfl : args = #[v0, v1] := by cases args; simp_all
  obtain ⟨rfl, rfl⟩ := trodVars_none hV
  have kk0 := h0
  have lt0 : ∀ x ∈ p0', x.block < W.heap.size := by obtain ⟨m, hm⟩ := kk0; exact DataW.trod_lt m _ _ _ hm
  obtain ⟨a0, len0, cap0, rfl⟩ := okWide_slice Try.underlying22 (hval 0 22 v0 rfl rfl)
  obtain ⟨n0, c0, m0, D0, w0⟩ : len0 < 9223372036854775808 ∧ len0 ≤ cap0 ∧ cap0 < 9223372036854775808 ∧ ∃ D, Dds W a0 len0 D := by
    obtain ⟨fuel, hf⟩ := h0
    exact open_deeds hf
  have kk1 := h1
  have lt1 : ∀ x ∈ p1', x.block < W.heap.size := by obtain ⟨m, hm⟩ := kk1; exact DataW.trod_lt m _ _ _ hm
  obtain ⟨a1, len1, cap1, rfl⟩ := okWide_slice Try.underlying22 (hval 1 22 v1 rfl rfl)
  obtain ⟨n1, c1, m1, D1, w1⟩ : len1 < 9223372036854775808 ∧ len1 ≤ cap1 ∧ cap1 < 9223372036854775808 ∧ ∃ D, Dds W a1 len1 D := by
    obtain ⟨fuel, hf⟩ := h1
    exact open_deeds hf
  clear hA0 hval0
  refine (walk a0 len0 cap0 D0 a1 len1 cap1 D1 W n0 c0 m0 w0 n1 c1 m1 w1).mono fun e W' ⟨he, bel⟩ => ?_
  subst he
  exact ⟨_, rfl, _, _, _, [], _, [], hW', trodAll_mk1 (shut_bool Try.underlying4 _), (trodAll_cons_mk (Below.trod laidOut (by kernel_rfl) (of_decide_eq_true (by kernel_rfl)) kk0 bel lt0) (trodAll_cons_mk (Below.trod laidOut (by kernel_rfl) (of_decide_eq_true (by kernel_rfl)) kk1 bel lt1) trodAll_mk0)), rfl, bel.frame _, fun h => by cases h⟩

theorem over : Rows.wheelForksRow.holds Try.pinned (OpenSpec.ofChange Rows.wheelForksSpec) :=
  OpenClaim.holds_of_wide 7 Try.f7 rfl rfl rfl rfl rfl rfl rfl ⟨rfl, rfl, rfl, rfl, rfl⟩ rfl rfl rfl rfl rfl (by kernel_rfl) Try.func7 (by kernel_rfl)
    (of_decide_eq_true (by kernel_rfl)) (by unfold Func.isWrapper; first | (rw [if_pos (by decide +kernel)]; kernel_rfl) | (rw [if_neg (by decide +kernel)]; exact ⟨rfl, rfl⟩))
    (fun os started H enc _ => lifted os started H enc)
end Go.Proofs.Ytjmbadadelelfaa.wheelForks
namespace Go.Proofs.Ytjmbadadelelfaa
/-- The statement. -/
theorem wheelForks_holds : Rows.WheelForksSaid := wheelForks.over
#print axioms wheelForks_holds
end Go.Proofs.Ytjmbadadelelfaa
