/-
  For every deeds, and more of them on the Fork, BitqForks answers true: what becomes of a Fork changes nothing of the queue that it came of; both tell what the document's queues tell. No condition.
-/
import Derived.Test.YthehnicmjiidiaaRows
import Derived.Test.YthehnicmjiidiaaG4
import Derived.WalkKit
import Derived.ProofKit
import Derived.OpenShut
import Derived.RowKit3
import Derived.Laws.Cover2
import Derived.Laws.IdiomArrays
import Derived.ChangeOld
import Derived.Below
import Derived.Carry
import Derived.Lib.SmallJoins
namespace Go.Proofs.Ythehnicmjiidiaa.bitqForks
open Go.ChangeShapes Go.WideShapes Go.ChangeAt Go.RowKit
set_option linter.unusedVariables false

theorem own : ownKnob Try.prog.godebug = none := by kernel_rfl
theorem laidOut : laidOutB Try.prog = true := by kernel_rfl
open Go.Lib
set_option maxHeartbeats 8000000 in
theorem way (a : Option Addr) (len cap : Nat) (X Y : Nat → Int) (Z : Nat → Nat) (a' : Option Addr) (len' cap' : Nat) (X' Y' : Nat → Int) (Z' : Nat → Nat) (w : World) (hlen : len < 9223372036854775808) (hd : Deeds w a len X Y Z) (hlen' : len' < 9223372036854775808) (hd' : Deeds w a' len' X' Y' Z') :
    Calls Try.prog 8 #[.slice a len cap, .slice a' len' cap'] w fun e w' => e = .returned (.bool true) ∧ Below w.heap.size w w' := by
  have HP := veil (play_ok w 9 (by decide) a len cap hlen X Y Z hd)
  have HD := veil hd'
  clear hd hd'
  go_enter Try.func8, Try.ntmps8
  go_wp2_with (first
    | (go_at_call 10; refine (HP.out).mono ?_; rintro e w1 ⟨b, g, rb, base, v, R, rfl, h1, h2, h3, h4, hB, hL⟩; have HB := veil hB; have HL := veil hL; clear hB hL HP)
    | (go_at_call 11; refine (live_queue _).mono ?_; rintro e w2 ⟨rfl, hb2⟩; have HB2 := veil (HB.out.below hb2); have HL2 := veil (HL.out.trans (hb2.mono HL.out.size)); have hsz2 := Nat.le_trans HL.out.size hb2.size; clear hb2 HB HL)
    | (go_at_call 23; refine (fork_ok _ b g _ R HB2.out.q).mono ?_; rintro e w3 ⟨bf, gf, rfl, hbf, hgf, hqf, hb3⟩; have HQF := veil hqf; have HB3 := veil (HB2.out.below hb3); have HW3 := veil hb3; clear hqf hb3)
    | (go_at_call 24; refine (rfork_ok HB3.out.r).mono ?_; rintro e w4 ⟨rbf, vf, rfl, hrbf, hrf, hb4⟩; have HRF := veil hrf; have HQF4 := veil (HQF.out.below hb4); have HBL := veil (HQF.out.blocks); have HW4 := veil (HW3.out.trans (hb4.mono HW3.out.size)); have hsz4 := hb4.size; have hsz3 := HW3.out.size; clear hrf hb4))
  have HFG : Hid (Both w4 w3.heap.size bf gf rbf (9 % 12 + 1) vf R) := by
    have := HBL.out
    exact ⟨HQF4.out, HRF.out, this.1, this.2.1, by omega, by omega⟩
  have HQR := HB2
  clear HQF HB3 HRF HQF4 HBL HB2 HW3
  have HLW : Hid (∀ wr, Below w2.heap.size w2 wr → Below w.heap.size w wr) := fun wr hb => HL2.out.trans (hb.mono hsz2)
  have HSM : Hid (∀ w5 w6, Below w2.heap.size w2 w5 → Below w5.heap.size w5 w6 → Below w2.heap.size w2 w6) := fun w5 w6 q1 q2 => q1.trans (q2.mono q1.size)
  have HDC : Hid (∀ wr j, Below w2.heap.size w2 wr → j < len' → ∃ lb off, a' = some ⟨lb, off, none⟩ ∧ Z' j < 256 ∧ wr.cell? ⟨lb, off + j * 3, none⟩ = some (.int .i64 (X' j)) ∧ wr.cell? ⟨lb, off + j * 3 + 1, none⟩ = some (.int .i64 (Y' j)) ∧ wr.cell? ⟨lb, off + j * 3 + 2, none⟩ = some (.int .u8 (Z' j))) := by
    intro wr j hb hj
    rcases HD.out.below (HLW.out wr hb) with h0 | ⟨lb, off, ha, _, hc⟩
    · omega
    · exact ⟨lb, off, ha, hc j hj⟩
  have hw23 : w2.heap.size ≤ w3.heap.size := hsz3
  have hrb2 : w2.heap.size ≤ rbf := by omega
  clear HL2 HD hsz4 hsz3 hlen
  generalize 9 % 12 + 1 = N at *
  go_loopw [10] (fun i wr => ∃ (j : Nat) (vv : Value) (RR : List (Nat × Nat)), j ≤ len' ∧ j ≤ 30 ∧ i = .int .i64 j ∧ Both wr w3.heap.size bf gf rbf N vv RR ∧ Below w2.heap.size w2 wr) (fun i _ => len' - (intOf i).toNat)
  case atStart => exact ⟨0, vf, R, by omega, by omega, rfl, HFG.out, HW4.out⟩
  case round =>
    obtain ⟨j, vv, RR, hj, hj30, rfl, hB, hbel⟩ := hrel
    by_cases hjl : j < len' ∧ j < 30
    · obtain ⟨hjl, hj3⟩ := hjl
      obtain ⟨lb, off, rfl, hz, y1, y2, y3⟩ := HDC.out wr j hbel hjl
      have HO := veil (do_ok wr _ _ _ _ _ vv RR hB (X' j) (Y' j) (Z' j) hz)
      have HS := veil (fun w'' hf => hB.step (w'' := w'') (Nat.le_refl _) hbel hbf hgf hrb2 hw23 hf)
      have hji : (j : Int) < (len' : Int) := by omega
      clear hB hbel
      go_wp2_with (go_at_call 25; refine (HO.out).mono ?_; rintro e w5 ⟨rfl, hb5, hf5⟩; have HB5 := veil hb5; have HF5 := veil (HS.out _ hf5); clear hb5 hf5)
      go_roundw
      case rel =>
        obtain ⟨v5, R5, hb'⟩ := HB5.out
        exact ⟨j + 1, v5, R5, by omega, by omega, by go_num, hb', HF5.out⟩
      case measure => simp [intOf]; omega
    · have HB5 := veil hB
      have HL5 := veil hbel
      have hex : ¬ (j : Int) < (len' : Int) ∨ ((j : Int) < (len' : Int) ∧ ¬ (j : Int) < 30) := by omega
      clear hB hbel hjl
      rcases hex with hex | ⟨hex, hex2⟩
      all_goals
        go_wp2
        go_loopw [11] (fun i wr2 => ∃ k : Nat, k ≤ len' ∧ k ≤ 30 ∧ i = .int .i64 k ∧ Both wr2 w3.heap.size bf gf rbf N vv RR ∧ Below w2.heap.size w2 wr2) (fun i _ => len' - (intOf i).toNat)
        case atStart => exact ⟨0, by omega, by omega, rfl, HB5.out, HL5.out⟩
        case round =>
          obtain ⟨k, hk, hk30, rfl, hB, hbel⟩ := hrel
          by_cases hkl : k < len' ∧ k < 30
          · obtain ⟨hkl, hk3⟩ := hkl
            obtain ⟨lb, off, hae, hz, y1, y2, y3⟩ := HDC.out _ k hbel hkl
            subst hae
            have HQ6 := veil (HQR.out.below hbel)
            have HB6 := veil hB
            have HL6 := veil hbel
            have hki : (k : Int) < (len' : Int) := by omega
            clear hB hbel
            go_wp2_with (go_at_call 12; first
              | (refine (same_ok _ _ _ _ _ _ vv RR HB7.out (X' k) (Y' k) (Z' k) hz).mono ?_; rintro e w8 ⟨rfl, hb8⟩; have HB8 := veil (HB7.out.below hb8); have HL8 := veil (HSM.out _ _ HL7.out hb8); clear hb8)
              | (refine (same_ok _ _ _ _ _ _ v R HQ6.out (X' k) (Y' k) (Z' k) hz).mono ?_; rintro e w7 ⟨rfl, hb7⟩; have HB7 := veil (HB6.out.below hb7); have HL7 := veil (HSM.out _ _ HL6.out hb7); obtain ⟨lb', off', hae', _, z1, z2, z3⟩ := HDC.out w7 k HL7.out hkl; simp only [Option.some.injEq, Addr.mk.injEq, and_true] at hae'; obtain ⟨rfl, rfl⟩ := hae'; clear hb7))
            go_roundw
            case rel => exact ⟨k + 1, by omega, by omega, by go_num, HB8.out, HL8.out⟩
            case measure => simp [intOf]; omega
          · have HL6 := veil (HLW.out _ hbel)
            have hex3 : ¬ (k : Int) < (len' : Int) ∨ ((k : Int) < (len' : Int) ∧ ¬ (k : Int) < 30) := by omega
            clear hB hbel hkl
            rcases hex3 with hex3 | ⟨hex3, hex4⟩
            all_goals
              go_wp2
              go_ret
              exact ⟨rfl, HL6.out⟩

set_option maxHeartbeats 1000000 in
theorem walk (a0 : Option Addr) (len0 cap0 : Nat) (X0 Y0 : Nat → Int) (Z0 : Nat → Nat) (a1 : Option Addr) (len1 cap1 : Nat) (X1 Y1 : Nat → Int) (Z1 : Nat → Nat) (w : World) (n0 : len0 < 9223372036854775808) (w0 : Deeds w a0 len0 X0 Y0 Z0) (n1 : len1 < 9223372036854775808) (w1 : Deeds w a1 len1 X1 Y1 Z1) :
    Calls Try.prog 8 #[.slice a0 len0 cap0, .slice a1 len1 cap1] w fun e w' => e = .returned (.bool true) ∧ Below w.heap.size w w' := by
  exact way a0 len0 cap0 X0 Y0 Z0 a1 len1 cap1 X1 Y1 Z1 w n0 w0 n1 w1

set_option maxHeartbeats 1000000 in
set_option maxRecDepth 100000 in
theorem lifted (os : Os) (started : os.Started) (H : Type) (enc : TypeId × Value → H) :
    ReturnsInHanded {} Try.checked os 8 .any (Rows.bitqForksSpec.pre6 enc Try.prog Try.f8 Rows.bitqForksRow.domain false) (Rows.bitqForksSpec.post enc Try.prog Try.f8 false true false false) := by
  refine returnsInHanded_of_change (C := Try.checked) own started (by kernel_rfl) Try.func8
    (ChangeSpec.witness6 (enc := enc) (C := Try.checked) false ⟨#[], #[.slice none 0 0, .slice none 0 0], []⟩ 8 (by kernel_rfl) (by kernel_rfl) (by kernel_rfl) (by kernel_rfl)) ?_
  intro W base args ds gs before hval0 hW hcnd _
  have hval : ∀ (j : Nat) t v, Try.f8.params[j]? = some t → args[j]? = some v → Value.okWide Try.prog W .any base t v := hval0
  have hW' := hW
  obtain ⟨p, q, hA0, hV, rfl, hfz, hnd⟩ := hW
  have hA : DataW.TrodAll enc Try.prog W 0 (fun _ => true) true Try.f8.params.toList args.toList ds p := hA0
  rw [Try.params8] at hA hval
  obtain ⟨v0, vs0, d0, ds0, p0, q0, hargs, rfl, rfl, h0, r0⟩ := trodAll_cons hA
  obtain ⟨v1, vs1, d1, ds1, p1, q1, rfl, rfl, rfl, h1, r1⟩ := trodAll_cons r0
  obtain ⟨rfl, rfl, rfl⟩ := trodAll_nil r1
  obtain rfl : args = #[v0, v1] := by cases args; simp_all
  obtain ⟨rfl, rfl⟩ := trodVars_none hV
  have k0 := h0
  have lt0 : ∀ x ∈ p0, x.block < W.heap.size := by obtain ⟨m, hm⟩ := k0; exact DataW.trod_lt m _ _ _ hm
  obtain ⟨a0, len0, cap0, rfl⟩ := okWide_slice Try.underlying22 (hval 0 22 v0 rfl rfl)
  obtain ⟨n0, X0, Y0, Z0, w0⟩ : len0 < 9223372036854775808 ∧ ∃ (X Y : Nat → Int) (Z : Nat → Nat), Deeds W a0 len0 X Y Z := by
    obtain ⟨fuel, hf⟩ := h0
    exact open_deeds Try.underlying22 Try.underlying24 rfl rfl rfl rfl rfl rfl Try.underlying3 Try.underlying5 (by kernel_rfl) (by kernel_rfl) (by kernel_rfl) hf
  have k1 := h1
  have lt1 : ∀ x ∈ p1, x.block < W.heap.size := by obtain ⟨m, hm⟩ := k1; exact DataW.trod_lt m _ _ _ hm
  obtain ⟨a1, len1, cap1, rfl⟩ := okWide_slice Try.underlying22 (hval 1 22 v1 rfl rfl)
  obtain ⟨n1, X1, Y1, Z1, w1⟩ : len1 < 9223372036854775808 ∧ ∃ (X Y : Nat → Int) (Z : Nat → Nat), Deeds W a1 len1 X Y Z := by
    obtain ⟨fuel, hf⟩ := h1
    exact open_deeds Try.underlying22 Try.underlying24 rfl rfl rfl rfl rfl rfl Try.underlying3 Try.underlying5 (by kernel_rfl) (by kernel_rfl) (by kernel_rfl) hf
  clear hA0 hval0
  refine (walk a0 len0 cap0 X0 Y0 Z0 a1 len1 cap1 X1 Y1 Z1 W n0 w0 n1 w1).mono fun e W' ⟨he, bel⟩ => ?_
  subst he
  exact ⟨_, rfl, _, _, _, [], _, [], hW', trodAll_mk1 (shut_bool Try.underlying4 _), (trodAll_cons_mk (Below.trod laidOut (by kernel_rfl) (of_decide_eq_true (by kernel_rfl)) k0 bel lt0) (trodAll_cons_mk (Below.trod laidOut (by kernel_rfl) (of_decide_eq_true (by kernel_rfl)) k1 bel lt1) trodAll_mk0)), rfl, bel.frame _, fun h => by cases h⟩

theorem over : Rows.bitqForksRow.holds Try.pinned (OpenSpec.ofChange Rows.bitqForksSpec) :=
  OpenClaim.holds_of_wide 8 Try.f8 rfl rfl rfl rfl rfl rfl rfl ⟨rfl, rfl, rfl, rfl, rfl⟩ rfl rfl rfl rfl rfl (by kernel_rfl) Try.func8 (by kernel_rfl)
    (of_decide_eq_true (by kernel_rfl)) (by unfold Func.isWrapper; first | (rw [if_pos (by decide +kernel)]; kernel_rfl) | (rw [if_neg (by decide +kernel)]; exact ⟨rfl, rfl⟩))
    (fun os started H enc _ => lifted os started H enc)
end Go.Proofs.Ythehnicmjiidiaa.bitqForks
namespace Go.Proofs.Ythehnicmjiidiaa
/-- The statement. -/
theorem bitqForks_holds : Rows.BitqForksSaid := bitqForks.over
#print axioms bitqForks_holds
end Go.Proofs.Ythehnicmjiidiaa
