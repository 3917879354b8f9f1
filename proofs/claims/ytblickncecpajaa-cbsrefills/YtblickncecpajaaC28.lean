/-
  The walk of 'same', and of CbsPlays.
-/
import Derived.Test.YtblickncecpajaaC27
namespace Go.Proofs.Ytblickncecpajaa
open Go.RowKit Go.Lib
set_option linter.unusedVariables false
attribute [local go_sem ↓] Go.wp_at_zero Go.wp_at_succ
theorem bl_tr {w w1 w2 : World} (q1 : Below w.heap.size w w1) (q2 : Below w1.heap.size w1 w2) : Below w.heap.size w w2 := q1.trans (q2.mono q1.size)
set_option maxHeartbeats 4000000 in
theorem same_ok {w : World} {base s r P : Nat} {v u : Value} {L : List Srv} (h : Both w base s r P v u L) (k : Int) :
    Calls Try.prog 12 #[.pointer (some ⟨s, 0, none⟩), .pointer (some ⟨r, 0, none⟩), .int .i64 k] w fun e w' => e = .returned (.bool true) ∧ Below w.heap.size w w' := by
  have hl := h.p.f.len
  have HA := veil h
  clear h
  go_enter Try.func12, Try.ntmps12
  go_wp2
  go_loopw [7] (fun i wr => ∃ j : Nat, j ≤ L.length + 2 ∧ i = .int .i64 ((j : Int) - 1) ∧ Below w.heap.size w wr) (fun i _ => L.length + 2 - (intOf i + 1).toNat)
  case atStart => exact ⟨0, by omega, rfl, Below.refl _ _⟩
  case round =>
    obtain ⟨j, hj, rfl, hbel⟩ := hrel
    have HB := veil hbel
    have HB0 := veil (HA.out.below hbel)
    clear hbel
    by_cases hjl : j < L.length + 2
    · have hjl' : (j : Int) - 1 ≤ (L.length : Int) := by omega
      go_wp2_with (first
        | (go_at_call 29; refine (rlen_ok HB0.out.d).mono ?_; rintro e w1 ⟨rfl, hw⟩; replace hw := hw.symm; subst hw)
        | (go_at_call 18; refine (left_ok HB0.out.p _).mono ?_; rintro e w1 ⟨rfl, c1, hw⟩; have hb := below_a hw; clear hw; have HB1 := veil (HB0.out.below hb); have HL1 := veil (bl_tr HB.out hb); clear hb)
        | (go_at_call 30; refine (rleft_ok HB1.out.d _).mono ?_; rintro e w2 ⟨rfl, hw⟩; replace hw := hw.symm; subst hw)
        | (go_at_call 19; refine (deadline_ok HB1.out.p _).mono ?_; rintro e w2 ⟨rfl, c2, hw⟩; have hb := below_a hw; clear hw; have HB2 := veil (HB1.out.below hb); have HL2 := veil (bl_tr HL1.out hb); clear hb)
        | (go_at_call 31; refine (rdeadline_ok HB2.out.d _).mono ?_; rintro e w3 ⟨rfl, hw⟩; replace hw := hw.symm; subst hw)
        | (go_at_call 21; refine (active_ok HB2.out.p _).mono ?_; rintro e w3 ⟨rfl, c3, hw⟩; have hb := below_a hw; clear hw; have HB3 := veil (HB2.out.below hb); have HL3 := veil (bl_tr HL2.out hb); clear hb)
        | (go_at_call 32; refine (ractive_ok HB3.out.d _).mono ?_; rintro e w4 ⟨rfl, hw⟩; replace hw := hw.symm; subst hw))
      go_roundw
      case rel => exact ⟨j + 1, by omega, by go_num, HL3.out⟩
      case measure => simp [intOf]; omega
    · have hjl' : ¬ (j : Int) - 1 ≤ (L.length : Int) := by omega
      go_wp2_with (first
        | (go_at_call 29; refine (rlen_ok HB0.out.d).mono ?_; rintro e w1 ⟨rfl, hw⟩; replace hw := hw.symm; subst hw)
        | (go_at_call 20; refine (len_ok HB0.out.p).mono ?_; rintro e w1 ⟨rfl, hw⟩; replace hw := hw.symm; subst hw)
        | (go_at_call 33; refine (sum_ok HB0.out.p).mono ?_; rintro e w1 ⟨rfl, hb⟩; have HB1 := veil (HB0.out.below hb); have HL1 := veil (bl_tr HB.out hb); clear hb)
        | (go_at_call 34; refine (rsum_ok HB1.out.d).mono ?_; rintro e w2 ⟨rfl, hb⟩; have HB2 := veil (HB1.out.below hb); have HL2 := veil (bl_tr HL1.out hb); clear hb)
        | (go_at_call 18; refine (left_ok HB2.out.p _).mono ?_; rintro e w3 ⟨rfl, c3, hw⟩; have hb := below_a hw; clear hw; have HB3 := veil (HB2.out.below hb); have HL3 := veil (bl_tr HL2.out hb); clear hb)
        | (go_at_call 30; refine (rleft_ok HB3.out.d _).mono ?_; rintro e w4 ⟨rfl, hw⟩; replace hw := hw.symm; subst hw))
      go_ret
      exact ⟨by simp, HL3.out⟩
set_option maxHeartbeats 4000000 in
theorem plays_walk (m : Nat) (hm : m < 256) (a : Option Addr) (len cap : Nat) (D : Nat → Dd) (x : Int) (w : World) (hlen : len < 9223372036854775808) (hd : Dds w a len D) :
    Calls Try.prog 3 #[.int .u8 m, .slice a len cap, .int .i64 x] w fun e w' => e = .returned (.bool true) ∧ Below w.heap.size w w' := by
  have HP := veil (play_ok w m hm a len cap hlen D hd)
  clear hd
  go_enter Try.func3, Try.ntmps3
  go_wp2_with (first
    | (go_at_call 10; refine (HP.out).mono ?_; rintro e w1 ⟨s, r, P, v, u, L, rfl, hB, hL⟩; have HB := veil hB; have HL := veil hL; clear hB hL)
    | (go_at_call 11; refine (live_ok _).mono ?_; rintro e w2 ⟨rfl, hb2⟩; have HB2 := veil (HB.out.below hb2); have HL2 := veil (bl_tr HL.out hb2); clear hb2)
    | (go_at_call 12; refine (same_ok HB2.out x).mono ?_; rintro e w3 ⟨rfl, hb3⟩; have HL3 := veil (bl_tr HL2.out hb3); clear hb3))
  go_ret
  exact ⟨rfl, HL3.out⟩
end Go.Proofs.Ytblickncecpajaa
