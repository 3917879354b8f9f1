/- PimutexForks' walk. -/
import Derived.Test.YtbhkgbhgofefjaaR18
import Derived.Test.YtbhkgbhgofefjaaR19
namespace Go.Proofs.Ytbhkgbhgofefjaa
open Go.RowKit
set_option linter.unusedVariables false
set_option maxHeartbeats 4000000 in
theorem Forks_walk (a : Option Addr) (len cap : Nat) (L : Nat → Dp) (hlen : len < 9223372036854775808) (a2 : Option Addr) (len2 cap2 : Nat) (L2 : Nat → Dp) (hlen2 : len2 < 9223372036854775808) (w : World) (hd : Dps w a len L) (hd2 : Dps w a2 len2 L2) :
    Calls Try.prog 9 #[.slice a len cap, .slice a2 len2 cap2] w fun e w' => e = .returned (.bool true) ∧ Below w.heap.size w w' := by
  have hp : Calls Try.prog 14 #[.int .u8 29, .slice a len cap] w (Played w 6 4) := play_ok w 29 (by decide) a len cap hlen L hd
  have HP := veil hp
  have HD := veil hd2
  clear hd hp hd2
  go_enter Try.func9, Try.ntmps9
  go_wp2_with (first
    | (go_at_call 14; refine (HP.out).mono ?_; rintro e w1 ⟨g, r, O, D, M, rfl, hB, hsz, hL⟩; have HB := veil hB; have HL := veil hL; have HSZ := veil hsz; clear hB hL hsz)
    | (go_at_call 15; refine (live_ok _).mono ?_; rintro e w2 ⟨rfl, hb2⟩; have HB2 := veil (HB.out.below hb2); have HL2 := veil (HL.out.trans (hb2.mono HL.out.size)); clear hb2)
    | (go_at_call 27; refine (HB2.out.p.fork).mono ?_; rintro e w3 ⟨f, Of, rfl, hPf, hb3⟩; have HB3 := veil (HB2.out.below hb3); have HL3 := veil (HL2.out.trans (hb3.mono HL2.out.size)); have HPf := veil hPf; have HS3 := veil hb3.size; clear hPf hb3)
    | (go_at_call 29; refine (HB3.out.r.fork (by have := HSZ.out.2; omega)).mono ?_; rintro e w4 ⟨h, Dh, rfl, hPh, hb4⟩; have HB4 := veil (HB3.out.below hb4); have HL4 := veil (HL3.out.trans (hb4.mono HL3.out.size)); have HF4 : Hid (Both w4 w2.heap.size Of Dh f h M) := ⟨HPf.out.below hb4, hPh.low HS3.out, fun k q1 q2 => by have := HPf.out.lt q1; have := hPh.ge q2; omega⟩; clear hPh hb4))
  have HO : Hid (∀ k, (O k ∨ D k) → k < w2.heap.size) := fun k hk => HB2.out.lt hk
  clear HB HB2 HB3 HPf HL HL3 HP
  go_loopw [10] (fun i wr => ∃ (j : Nat) (O' D' : Nat → Prop) (M' : Md), j ≤ len2 ∧ j ≤ 30 ∧ i = .int .i64 j ∧ Both wr w2.heap.size O' D' f h M' ∧ Both wr w.heap.size O D g r M ∧ Below w.heap.size w wr) (fun i _ => len2 - (intOf i).toNat)
  case atStart => exact ⟨0, _, _, _, by omega, by omega, rfl, HF4.out, HB4.out, HL4.out⟩
  case round =>
    obtain ⟨j, O', D', M', hj, hj1, rfl, hB, hG, hbel⟩ := hrel
    have HG := veil hG
    clear hG
    by_cases hjl : j < len2
    · have hjl' : (j : Int) < (len2 : Int) := by omega
      by_cases hj2 : j < 30
      · rcases HD.out with h0 | ⟨lb, off, rfl, hlb, hc⟩
        · omega
        · obtain ⟨hok, z2, z3, z4, z5, z6, z7⟩ := hc j hjl
          have y2 := (hbel.cell (p := ⟨lb, off + j * 6, none⟩) hlb).trans z2
          have y3 := (hbel.cell (p := ⟨lb, off + j * 6 + 1, none⟩) hlb).trans z3
          have y4 := (hbel.cell (p := ⟨lb, off + j * 6 + 2, none⟩) hlb).trans z4
          have y5 := (hbel.cell (p := ⟨lb, off + j * 6 + 3, none⟩) hlb).trans z5
          have y6 := (hbel.cell (p := ⟨lb, off + j * 6 + 4, none⟩) hlb).trans z6
          have y7 := (hbel.cell (p := ⟨lb, off + j * 6 + 5, none⟩) hlb).trans z7
          have HDO := veil (do_ok hB (L2 j) hok)
          have HBB := veil hB
          have HLL := veil hbel
          clear hc z2 z3 z4 z5 z6 z7 hB hbel
          go_wp2_with (go_at_call 30; refine (HDO.out).mono ?_; rintro e w5 ⟨rfl, hgn⟩; have HGN := veil hgn; clear hgn)
          go_roundw
          case rel =>
            obtain ⟨O3, D3, h1, h2, h3⟩ := HGN.out
            have hno : ∀ k, O k ∨ D k → ¬ (O' k ∨ D' k) := fun k q1 q2 => by have := HO.out k q1; have := HBB.out.ge q2; omega
            exact ⟨j + 1, O3, D3, _, by omega, by omega, by go_num, h1, ⟨HG.out.p.frame h2 (fun k q => hno k (.inl q)), HG.out.r.frame h2 (fun k q => hno k (.inr q)), HG.out.ap⟩, HLL.out.trans (h2.below HLL.out.size (fun k hk => Nat.le_trans HL2.out.size (HBB.out.ge hk)))⟩
          case measure => simp [intOf]; omega
      · have HB5 := veil hB
        have HL5 := veil hbel
        clear hB hbel
        go_wp2_with (first
          | (go_at_call 16; (have hh := HT.out; clear hh); refine (same_ok HB6.out).mono ?_; rintro e w7 ⟨rfl, hb⟩; have HL7 := veil (HL6.out.trans (hb.mono HL6.out.size)); clear hb)
          | (go_at_call 16; refine (same_ok HG.out).mono ?_; rintro e w6 ⟨rfl, hb⟩; have HB6 := veil (HB5.out.below hb); have HL6 := veil (HL5.out.trans (hb.mono HL5.out.size)); have HT := veil trivial; clear hb))
        go_ret
        exact ⟨rfl, HL7.out⟩
    · have hjl' : ¬ (j : Int) < (len2 : Int) := by omega
      have HB5 := veil hB
      have HL5 := veil hbel
      clear hB hbel
      go_wp2_with (first
        | (go_at_call 16; (have hh := HT.out; clear hh); refine (same_ok HB6.out).mono ?_; rintro e w7 ⟨rfl, hb⟩; have HL7 := veil (HL6.out.trans (hb.mono HL6.out.size)); clear hb)
        | (go_at_call 16; refine (same_ok HG.out).mono ?_; rintro e w6 ⟨rfl, hb⟩; have HB6 := veil (HB5.out.below hb); have HL6 := veil (HL5.out.trans (hb.mono HL5.out.size)); have HT := veil trivial; clear hb))
      go_ret
      exact ⟨rfl, HL7.out⟩
end Go.Proofs.Ytbhkgbhgofefjaa
