/-
  The walk of CbsForks.
-/
import Derived.Test.YtblickncecpajaaC33
namespace Go.Proofs.Ytblickncecpajaa
open Go.RowKit Go.Lib
set_option linter.unusedVariables false
attribute [local go_sem ↓] Go.wp_at_zero Go.wp_at_succ
theorem Rep.weak {w : World} {b0 b1 s P : Nat} {v : Value} {L : List Srv} (h : Rep w b1 s P v L) (hb : b0 ≤ b1) : Rep w b0 s P v L := by
  refine ⟨h.blk, ⟨h.own.1, ?_⟩, Nat.le_trans hb h.bs, h.f⟩
  rcases h.own.2 with q | ⟨g, cap, cur, e, h0, rest⟩
  · exact .inl q
  · exact .inr ⟨g, cap, cur, e, Nat.le_trans hb h0, rest⟩
set_option maxHeartbeats 8000000 in
theorem forks_walk (a a2 : Option Addr) (len cap len2 cap2 : Nat) (D D2 : Nat → Dd) (w : World) (hlen : len < 9223372036854775808) (hlen2 : len2 < 9223372036854775808) (hd : Dds w a len D) (hd2 : Dds w a2 len2 D2) :
    Calls Try.prog 7 #[.slice a len cap, .slice a2 len2 cap2] w fun e w' => e = .returned (.bool true) ∧ Below w.heap.size w w' := by
  have HP : Hid (Calls Try.prog 10 #[.int .u8 1, .slice a len cap] w (Played w)) := play_ok w 1 (by omega) a len cap hlen D hd
  have HD := veil hd2
  clear hd hd2
  go_enter Try.func7, Try.ntmps7
  go_wp2_with (first
    | (go_at_call 10; refine (HP.out).mono ?_; rintro e w1 ⟨s, r, P, v, u, L, rfl, hB, hL⟩; have HB1 := veil hB; have HL1 := veil hL; clear hB hL HP)
    | (go_at_call 11; refine (live_ok _).mono ?_; rintro e w2 ⟨rfl, hb2⟩; have HB2 := veil (HB1.out.below hb2); have HL2 := veil (bl_tr HL1.out hb2); clear hb2 HB1 HL1)
    | (go_at_call 22; refine (fork_ok HB2.out.p).mono ?_; rintro e w3 ⟨f, vf, rfl, hf, hpf, hb3⟩; have HF3 := veil hpf; have HB3 := veil hb3; clear hb3 hpf)
    | (go_at_call 23; refine (rfork_ok (HB2.out.d.below HB3.out)).mono ?_; rintro e w4 ⟨g, ug, rfl, hg, hpg, hb4⟩; have HBB : Hid (Both w4 w2.heap.size f g P vf ug L) := (⟨HF3.out.below hb4, hpg.weak HB3.out.size, hf, Nat.le_trans HB3.out.size hg⟩); have HB4 := veil (bl_tr HB3.out hb4); clear hb4 hpg HF3 HB3))
  have hL2 := HL2.out.size
  go_loopw [10] (fun i wr => ∃ (j : Nat) (v' u' : Value) (L' : List Srv), j ≤ len2 ∧ j ≤ 30 ∧ i = .int .i64 j ∧ Both wr w2.heap.size f g P v' u' L' ∧ Below w2.heap.size w2 wr) (fun i _ => len2 - (intOf i).toNat)
  case atStart => exact ⟨0, _, _, _, by omega, by omega, rfl, HBB.out, HB4.out⟩
  case round =>
    clear HBB HB4
    obtain ⟨j, v', u', L', hj, hj1, rfl, hB, hbel⟩ := hrel
    have hall := HL2.out.trans (hbel.mono hL2)
    by_cases hjl : j < len2
    · have hjl' : (j : Int) < (len2 : Int) := by omega
      by_cases hj2 : j < 30
      · rcases HD.out with h0 | ⟨lb, off, rfl, hlb, hc⟩
        · omega
        · obtain ⟨hok, z2, z3, z4, z5, z6⟩ := hc j hjl
          have y2 := (hall.cell (p := ⟨lb, off + j * 5, none⟩) hlb).trans z2
          have y3 := (hall.cell (p := ⟨lb, off + j * 5 + 1, none⟩) hlb).trans z3
          have y4 := (hall.cell (p := ⟨lb, off + j * 5 + 2, none⟩) hlb).trans z4
          have y5 := (hall.cell (p := ⟨lb, off + j * 5 + 3, none⟩) hlb).trans z5
          have y6 := (hall.cell (p := ⟨lb, off + j * 5 + 4, none⟩) hlb).trans z6
          have HDO := veil (do_ok hB (D2 j) hok)
          have HS := veil hbel
          clear hc z2 z3 z4 z5 z6 hB hbel hall
          go_wp2_with (go_at_call 24; refine (HDO.out).mono ?_; rintro e w5 ⟨rfl, hd5⟩; have HD5 := veil hd5; clear hd5)
          go_roundw
          case rel =>
            obtain ⟨⟨v5, u5, L5, hb5⟩, hf5⟩ := HD5.out
            exact ⟨j + 1, v5, u5, L5, by omega, by omega, by go_num, hb5, HS.out.trans hf5⟩
          case measure => simp [intOf]; omega
      · have HSR := veil (HB2.out.below hbel)
        have HFG := veil hB
        have HA := veil hall
        clear hB hbel hall
        go_wp2_with (first
          | (go_at_call 12; refine (same_ok HFG2.out 0).mono ?_; rintro e w6 ⟨rfl, hb6⟩; have HA6 := veil (bl_tr HA5.out hb6); clear hb6)
          | (go_at_call 12; refine (same_ok HSR.out 0).mono ?_; rintro e w5 ⟨rfl, hb5⟩; have HFG2 := veil (HFG.out.below hb5); have HA5 := veil (bl_tr HA.out hb5); clear hb5))
        go_ret
        exact ⟨by simp, HA6.out⟩
    · have HSR := veil (HB2.out.below hbel)
      have HFG := veil hB
      have HA := veil hall
      have hjl' : ¬ (j : Int) < (len2 : Int) := by omega
      clear hB hbel hall
      go_wp2_with (first
        | (go_at_call 12; refine (same_ok HFG2.out 0).mono ?_; rintro e w6 ⟨rfl, hb6⟩; have HA6 := veil (bl_tr HA5.out hb6); clear hb6)
        | (go_at_call 12; refine (same_ok HSR.out 0).mono ?_; rintro e w5 ⟨rfl, hb5⟩; have HFG2 := veil (HFG.out.below hb5); have HA5 := veil (bl_tr HA.out hb5); clear hb5))
      go_ret
      exact ⟨by simp, HA6.out⟩
end Go.Proofs.Ytblickncecpajaa
