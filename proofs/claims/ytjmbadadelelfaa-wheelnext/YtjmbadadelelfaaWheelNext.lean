/-
  For every deeds WheelNext answers true: the next time is the least of all that are set; canceled they are due no more. No condition.
-/
import Derived.Test.YtjmbadadelelfaaRows
import Derived.Test.YtjmbadadelelfaaWd2
import Derived.WalkKit
import Derived.ProofKit
import Derived.OpenShut
import Derived.RowKit3
import Derived.Laws.Cover2
import Derived.Laws.IdiomArrays
import Derived.ChangeOld
import Derived.Below
import Derived.Carry
import Derived.Lib.SmallJoins
namespace Go.Proofs.Ytjmbadadelelfaa.wheelNext
open Go.ChangeShapes Go.WideShapes Go.ChangeAt Go.RowKit
set_option linter.unusedVariables false

theorem own : ownKnob Try.prog.godebug = none := by kernel_rfl
theorem laidOut : laidOutB Try.prog = true := by kernel_rfl
open Go.Lib
attribute [local go_sem ↓] Go.wp_at_zero Go.wp_at_succ
set_option maxRecDepth 100000 in
set_option maxHeartbeats 8000000 in
theorem way (m : Nat) (hm : m < 256) (a : Option Addr) (len cap : Nat) (D : Nat → Dd) (w : World) (hlen : len < 9223372036854775808) (hd : Dds w a len D) :
    Calls Try.prog 8 #[.int .u8 m, .slice a len cap] w fun e w' => e = .returned (.bool true) ∧ Below w.heap.size w w' := by
  have HP := veil (play_ok w m hm a len cap hlen D hd)
  have hn12 : m % 12 + 1 ≤ 12 := by omega
  clear hd
  generalize m % 12 + 1 = n at *
  go_enter Try.func8, Try.ntmps8
  go_wp2_with (first
    | (go_at_call 11; refine (HP.out).mono ?_; rintro e w1 ⟨base, b, g, mb, rb, nw, S, rfl, hB, hL⟩; have HB1 := veil hB.sol; have HL1 := veil hL; clear hB hL)
    | (go_at_call 12; refine (live_ok _).mono ?_; rintro e w2 ⟨rfl, hb2⟩; have HB2 := veil (HB1.out.below hb2); have HL2 := veil (HL1.out.trans (hb2.mono HL1.out.size)); clear hb2))
  have HFA := veil HB2.out.p.facts
  clear HB1 HL1 HP
  go_loopw [8, 9, 10] (fun lv sv iv wr => ∃ (i l : Nat) (q : Bool), i ≤ 12 ∧ iv = .int .i64 (i : Int) ∧ lv = .int .u64 (l : Int) ∧ sv = .bool q ∧ Low S i l q ∧ Sol wr w.heap.size b g mb n nw S ∧ Below w.heap.size w wr) (fun _ _ iv _ => 12 - (intOf iv).toNat)
  case atStart => exact ⟨0, 0, false, by omega, rfl, rfl, rfl, .inl ⟨rfl, rfl, fun x _ q => by omega⟩, HB2.out, HL2.out⟩
  case round =>
    obtain ⟨i, l, q, hi, rfl, rfl, rfl, hlow, hsol, hbel⟩ := hrel
    clear HB2 HL2
    have HS := veil hsol
    have HB := veil hbel
    have HLow := veil hlow
    by_cases hi12 : i < 12
    · have hi' : (i : Int) < 12 := by omega
      have hat := at_ok hsol.p (i : Int)
      cases hx : atB n S (i : Int) with
      | false =>
        rw [hx] at hat
        have HA := veil hat
        have HNX : Hid (Low S (i + 1) l q) := hlow.none (fun x hx' e => by
          have h1 := HFA.out.2.2.1 x hx'
          unfold atB at hx
          rw [if_pos (by omega)] at hx
          cases hz : tmOf S (i : Int) with
          | none => exact tmOf_none.1 hz x hx' e
          | some t => rw [hz] at hx; cases hx)
        generalize atT n S (i : Int) = tt at *
        clear hat hx hlow hsol hbel
        go_wp2_with (go_at_call 17; refine (HA.out).mono ?_; rintro e w4 ⟨rfl, hb⟩; have HS4 := veil (HS.out.below hb); have HB4 := veil (HB.out.trans (hb.mono HB.out.size)); clear hb)
        go_roundw
        case rel => exact ⟨i + 1, l, q, by omega, by go_num, rfl, rfl, HNX.out, HS4.out, HB4.out⟩
        case measure => simp [intOf]; omega
      | true =>
        rw [hx] at hat
        have hin : (0 : Int) ≤ (i : Int) ∧ (i : Int) < (n : Int) := by
          apply Classical.byContradiction
          intro hc
          unfold atB at hx
          rw [if_neg hc] at hx
          cases hx
        obtain ⟨t, ht⟩ : ∃ t, tmOf S (i : Int) = some t := by
          unfold atB at hx
          rw [if_pos hin] at hx
          exact Option.isSome_iff_exists.1 hx
        have htt : atT n S (i : Int) = t := by unfold atT; rw [if_pos hin, ht]; rfl
        rw [htt] at hat
        have HA := veil hat
        have hmem := (tmOf_some HFA.out.2.1).1 ht
        by_cases hup : q = true ∧ ¬ t < l
        · obtain ⟨rfl, hup⟩ := hup
          have hup' : ¬ (t : Int) < (l : Int) := by omega
          have HNX := veil (hlow.keep HFA.out.2.1 hmem hup)
          clear hat hx hlow hsol hbel ht htt hmem
          go_wp2_with (go_at_call 17; refine (HA.out).mono ?_; rintro e w4 ⟨rfl, hb⟩; have HS4 := veil (HS.out.below hb); have HB4 := veil (HB.out.trans (hb.mono HB.out.size)); clear hb)
          go_roundw
          case rel => exact ⟨i + 1, l, true, by omega, by go_num, rfl, rfl, HNX.out, HS4.out, HB4.out⟩
          case measure => simp [intOf]; omega
        · have HNX := veil (hlow.take HFA.out.2.1 hmem (fun hq => by
            apply Classical.byContradiction
            intro hc
            exact hup ⟨hq, hc⟩))
          have hq : q = false ∨ (q = true ∧ (t : Int) < (l : Int)) := by
            cases q
            · exact .inl rfl
            · exact .inr ⟨rfl, by
                apply Classical.byContradiction
                intro hc
                exact hup ⟨rfl, by omega⟩⟩
          clear hat hx hlow hsol hbel ht htt hmem hup HLow
          rcases hq with rfl | ⟨rfl, hlt⟩
          all_goals
            go_wp2_with (go_at_call 17; refine (HA.out).mono ?_; rintro e w4 ⟨rfl, hb⟩; have HS4 := veil (HS.out.below hb); have HB4 := veil (HB.out.trans (hb.mono HB.out.size)); clear hb)
            go_roundw
            case rel => exact ⟨i + 1, t, true, by omega, by go_num, rfl, rfl, HNX.out, HS4.out, HB4.out⟩
            case measure => simp [intOf]; omega
    · have hi' : ¬ (i : Int) < 12 := by omega
      obtain ⟨e1, e2⟩ := hlow.end HFA.out.1 (fun x hx => by have := HFA.out.2.2.1 x hx; omega)
      have hnx := next_ok hsol.p
      rw [e1, e2] at hnx
      have HN := veil hnx
      clear hlow hsol hbel HLow hnx e1 e2
      go_wp2_with (go_at_call 19; refine (HN.out).mono ?_; rintro e w5 ⟨rfl, hb⟩; have HS5 := veil (HS.out.below hb); have HB5 := veil (HB.out.trans (hb.mono HB.out.size)); clear hb)
      clear HS HB HN
      go_loopw [15] (fun iv wr => ∃ (j : Nat), j ≤ 12 ∧ iv = .int .i64 (j : Int) ∧ Sol wr w.heap.size b g mb n nw (from_ S j) ∧ Below w.heap.size w wr) (fun iv _ => 12 - (intOf iv).toNat)
      case atStart => exact ⟨0, by omega, rfl, by rw [from_zero]; exact HS5.out, HB5.out⟩
      case round =>
        obtain ⟨j, hj, rfl, hsol, hbel⟩ := hrel
        clear HS5 HB5
        have HB := veil hbel
        by_cases hj12 : j < 12
        · have hj' : (j : Int) < 12 := by omega
          have hcn := hsol.cancel (j : Int)
          rw [from_step n HFA.out.2.2.1 j] at hcn
          have HC := veil hcn
          clear hcn hsol hbel
          generalize canC n (from_ S j) (j : Int) = cc at *
          go_wp2_with (go_at_call 22; refine (HC.out).mono ?_; rintro e w6 ⟨rfl, hs, hb⟩; have HS6 := veil hs; have HB6 := veil (HB.out.trans hb); clear hb hs)
          go_roundw
          case rel => exact ⟨j + 1, by omega, by go_num, HS6.out, HB6.out⟩
          case measure => simp [intOf]; omega
        · have hj' : ¬ (j : Int) < 12 := by omega
          have hnil : from_ S j = [] := from_end (fun x hx => by have := HFA.out.2.2.1 x hx; omega)
          rw [hnil] at hsol
          have HS := veil hsol
          have hnw := HFA.out.2.2.2.2.1
          have HN2 : Hid (Calls Try.prog 19 #[.pointer (some ⟨b, 0, none⟩)] wr fun e w' => e = .returned (.tuple #[.int .u64 0, .bool false]) ∧ Below wr.heap.size wr w') := next_ok hsol.p
          have HE2 : Hid (∀ W, Sol W w.heap.size b g mb n nw [] → Calls Try.prog 15 #[.pointer (some ⟨b, 0, none⟩)] W fun e w' => e = .returned (.int .i64 0) ∧ w' = W) := fun W h => len_ok h.p
          have HA2 : Hid (∀ W, Sol W w.heap.size b g mb n nw [] → Calls Try.prog 16 #[.pointer (some ⟨b, 0, none⟩), .int .u64 18446744073709551615] W fun e w' => (∃ v, e = .returned v ∧ w'.ownsRow W.heap.size 3 1 v 0 []) ∧ Sol w' w.heap.size b g mb n 18446744073709551615 [] ∧ Below w.heap.size W w') := fun W h => by
            have := h.advance hn12 18446744073709551615 (by decide)
            rw [Nat.max_eq_left (by omega)] at this
            exact this
          have HO2 : Hid (∀ W, Sol W w.heap.size b g mb n 18446744073709551615 [] → Calls Try.prog 18 #[.pointer (some ⟨b, 0, none⟩)] W fun e w' => e = .returned (.int .u64 18446744073709551615) ∧ w' = W) := fun W h => now_ok h.p
          clear hsol hbel hnil HFA
          go_wp2_with (first
            | (go_at_call 19; refine (HN2.out).mono ?_; rintro e w7 ⟨rfl, hb⟩; have HS7 := veil (HS.out.below hb); have HB7 := veil (HB.out.trans (hb.mono HB.out.size)); clear hb)
            | (go_at_call 15; refine (HE2.out _ HS7.out).mono ?_; rintro e wx ⟨rfl, hw⟩; replace hw := hw.symm; subst hw)
            | (go_at_call 16; refine (HA2.out _ HS7.out).mono ?_; rintro e w8 ⟨⟨v, rfl, ho⟩, hs, hb⟩; obtain ⟨a8, c8, rfl⟩ := own_slice ho; have HS8 := veil hs; have HB8 := veil (HB7.out.trans hb); clear hb hs ho)
            | (go_at_call 18; refine (HO2.out _ HS8.out).mono ?_; rintro e wx ⟨rfl, hw⟩; replace hw := hw.symm; subst hw))
          go_ret
          exact ⟨rfl, HB8.out⟩

set_option maxHeartbeats 1000000 in
theorem walk (a0 : Int) (a1 : Option Addr) (len1 cap1 : Nat) (D1 : Nat → Dd) (w : World) (w0 : (Lit.int .u8 a0).wf = true) (n1 : len1 < 9223372036854775808) (c1 : len1 ≤ cap1) (m1 : cap1 < 9223372036854775808) (w1 : Dds w a1 len1 D1) :
    Calls Try.prog 8 #[.int .u8 a0, .slice a1 len1 cap1] w fun e w' => e = .returned (.bool true) ∧ Below w.heap.size w w' := by
  obtain ⟨l0, m0⟩ := bounds_u8 w0
  obtain ⟨M, rfl⟩ := Int.eq_ofNat_of_zero_le l0
  exact way M (by omega) a1 len1 cap1 D1 w n1 w1

set_option maxHeartbeats 1000000 in
set_option maxRecDepth 100000 in
theorem lifted (os : Os) (started : os.Started) (H : Type) (enc : TypeId × Value → H) :
    ReturnsInHanded {} Try.checked os 8 .any (Rows.wheelNextSpec.pre6 enc Try.prog Try.f8 Rows.wheelNextRow.domain false) (Rows.wheelNextSpec.post enc Try.prog Try.f8 false true false false) := by
  refine returnsInHanded_of_change (C := Try.checked) own started (by kernel_rfl) Try.func8
    (ChangeSpec.witness6 (enc := enc) (C := Try.checked) false ⟨#[], #[.int .u8 0, .slice none 0 0], []⟩ 8 (by kernel_rfl) (by kernel_rfl) (by kernel_rfl) (by kernel_rfl)) ?_
  intro W base args ds gs before hval0 hW hcnd _
  have hval : ∀ (j : Nat) t v, Try.f8.params[j]? = some t → args[j]? = some v → Value.okWide Try.prog W .any base t v := hval0
  have hW' := hW
  obtain ⟨p, q, hA0, hV, rfl, hfz, hnd⟩ := hW
  have hA : DataW.TrodAll enc Try.prog W 0 (fun _ => true) true Try.f8.params.toList args.toList ds p := hA0
  rw [Try.params8] at hA hval
  obtain ⟨v0, vs0, d0, ds0, p0', q0', hargs, rfl, rfl, h0, r0⟩ := trodAll_cons hA
  obtain ⟨v1, vs1, d1, ds1, p1', q1', rfl, rfl, rfl, h1, r1⟩ := trodAll_cons r0
  obtain ⟨rfl, rfl, rfl⟩ := trodAll_nil r1
  obtain rfl : args = #[v0, v1] := by cases args; simp_all
  obtain ⟨rfl, rfl⟩ := trodVars_none hV
  have kk0 := h0
  have lt0 : ∀ x ∈ p0', x.block < W.heap.size := by obtain ⟨m, hm⟩ := kk0; exact DataW.trod_lt m _ _ _ hm
  obtain ⟨a0, rfl, rfl, rfl, w0⟩ := open_int Try.underlying5 (hval 0 5 v0 rfl rfl) h0
  have kk1 := h1
  have lt1 : ∀ x ∈ p1', x.block < W.heap.size := by obtain ⟨m, hm⟩ := kk1; exact DataW.trod_lt m _ _ _ hm
  obtain ⟨a1, len1, cap1, rfl⟩ := okWide_slice Try.underlying22 (hval 1 22 v1 rfl rfl)
  obtain ⟨n1, c1, m1, D1, w1⟩ : len1 < 9223372036854775808 ∧ len1 ≤ cap1 ∧ cap1 < 9223372036854775808 ∧ ∃ D, Dds W a1 len1 D := by
    obtain ⟨fuel, hf⟩ := h1
    exact open_deeds hf
  clear hA0 hval0
  refine (walk a0 a1 len1 cap1 D1 W w0 n1 c1 m1 w1).mono fun e W' ⟨he, bel⟩ => ?_
  subst he
  exact ⟨_, rfl, _, _, _, [], _, [], hW', trodAll_mk1 (shut_bool Try.underlying4 _), (trodAll_cons_mk (Below.trod laidOut (by kernel_rfl) (of_decide_eq_true (by kernel_rfl)) kk0 bel lt0) (trodAll_cons_mk (Below.trod laidOut (by kernel_rfl) (of_decide_eq_true (by kernel_rfl)) kk1 bel lt1) trodAll_mk0)), rfl, bel.frame _, fun h => by cases h⟩

theorem over : Rows.wheelNextRow.holds Try.pinned (OpenSpec.ofChange Rows.wheelNextSpec) :=
  OpenClaim.holds_of_wide 8 Try.f8 rfl rfl rfl rfl rfl rfl rfl ⟨rfl, rfl, rfl, rfl, rfl⟩ rfl rfl rfl rfl rfl (by kernel_rfl) Try.func8 (by kernel_rfl)
    (of_decide_eq_true (by kernel_rfl)) (by unfold Func.isWrapper; first | (rw [if_pos (by decide +kernel)]; kernel_rfl) | (rw [if_neg (by decide +kernel)]; exact ⟨rfl, rfl⟩))
    (fun os started H enc _ => lifted os started H enc)
end Go.Proofs.Ytjmbadadelelfaa.wheelNext
namespace Go.Proofs.Ytjmbadadelelfaa
/-- The statement. -/
theorem wheelNext_holds : Rows.WheelNextSaid := wheelNext.over
#print axioms wheelNext_holds
end Go.Proofs.Ytjmbadadelelfaa
