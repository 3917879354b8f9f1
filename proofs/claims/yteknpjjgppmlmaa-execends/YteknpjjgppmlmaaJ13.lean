/-
  exec: ExecEnds.
-/
import Derived.Test.YteknpjjgppmlmaaJ11
namespace Go.Proofs.Yteknpjjgppmlmaa
open Go.RowKit Go.Lib
set_option linter.unusedVariables false

theorem row_some {w : World} {base : Nat} {e : TypeId} {v : Value} {k : Nat} {xs : List Value} (h : w.ownsRow base e 2 v k xs) (hk : 0 < k) : ∃ g cap, v = .slice (some ⟨g, 0, none⟩) k cap ∧ k ≤ cap ∧ cap ≤ maxLen := by
  rcases h.2 with ⟨_, h0⟩ | ⟨g, cap, cur, rfl, _, _, h1, h2, _⟩
  · omega
  · exact ⟨g, cap, rfl, h1, h2⟩
/-- What the law asks of a run. -/
theorem ends_facts (f : Nat → Int) (B : Nat) (hB : 0 < B) : 0 < rlen f B ∧ (∀ i, i < rlen f B → i ≠ rlen f B - 1 → f i ≠ 9) ∧ (rlen f B = B ∨ f (rlen f B - 1) = 9) := by
  rcases rlen_cases f B with ⟨h1, h2⟩ | ⟨k, h1, h2, h3, h4⟩
  · exact ⟨by omega, fun i hi _ => spd_no h1 i (by omega), .inl h2⟩
  · refine ⟨by omega, fun i hi hne => spd_no h2 i (by omega), .inr ?_⟩
    rw [h4]
    exact h3
set_option maxHeartbeats 4000000 in
theorem ends_walk (w : World) (a : Option Addr) (len cap : Nat) (hl : len < 9223372036854775808) (hc : len ≤ cap) (O R : Nat → Int) (hp : Prg w a len O R) (A B : Nat) (hA : A < 256) (hB : B < 256) :
    Calls Try.prog 7 #[.slice a len cap, .int .u8 (A : Int), .int .u8 (B : Int)] w fun e w' => e = .returned (.bool true) ∧ Below w.heap.size w w' := by
  have HF := veil (fun w1 (hb : Below w.heap.size w w1) => few_ok w1 a len cap hl hc O R (hp.below hb))
  have hpm := hp.cut (m := min len 100) (by omega)
  have hm : min len 100 < 9223372036854775808 := by omega
  have HL := veil live_ok
  clear hp
  generalize (min len 100) = m at HF hpm hm
  obtain ⟨r, hr⟩ := rt_bool m O R
  obtain ⟨X, Y, hX, hY, hXY, hcase⟩ : ∃ X Y : Nat, X < 256 ∧ Y < 256 ∧ X ≤ Y ∧ ((A = X ∧ B = Y ∧ ¬ (B : Int) < (A : Int)) ∨ (B = X ∧ A = Y ∧ (B : Int) < (A : Int))) := by
    by_cases h : B < A
    · exact ⟨B, A, hB, hA, by omega, .inr ⟨rfl, rfl, by omega⟩⟩
    · exact ⟨A, B, hA, hB, by omega, .inl ⟨rfl, rfl, by omega⟩⟩
  by_cases h0 : Y = 0
  · subst h0
    obtain rfl : X = 0 := by omega
    have HR := veil (fun w1 => run_neg w1 a m cap 0 (by decide))
    obtain ⟨rfl, rfl⟩ : A = 0 ∧ B = 0 := by omega
    clear hcase hpm hr
    go_enter Try.func7, Try.ntmps7
    go_wp2_with (first
      | (go_at_call 10; refine (HF.out _ (Below.refl _ _)).mono ?_; rintro e w0 ⟨rfl, hw⟩; replace hw := hw.symm; subst hw)
      | (go_at_call 17; refine (HR.out w).mono ?_; rintro e w1 ⟨rfl, hb⟩; have HB1 := veil hb; clear hb)
      | (go_at_call 17; refine (HR.out w1).mono ?_; rintro e w2 ⟨rfl, hb⟩; have HB2 := veil (HB1.out.trans (hb.mono HB1.out.size)); clear hb)
      | (go_at_call 16; refine (psame_any _ _ _ 0 _ _ O R (by omega) (.inl rfl) (.inl rfl)).mono ?_; rintro e w3 ⟨rfl, hb⟩; have HB3 := veil (HB2.out.trans (hb.mono HB2.out.size)); clear hb))
    go_loopw [9] (fun i wr => i = .int .i64 0 ∧ wr = w3) (fun i _ => 0)
    case atStart => exact ⟨rfl, rfl⟩
    case round =>
      obtain ⟨rfl, rfl⟩ := hrel
      go_wp2_with (go_at_call 15; refine (HL.out _).mono ?_; rintro e w4 ⟨rfl, hb⟩; have HB4 := veil (HB3.out.trans (hb.mono HB3.out.size)); clear hb)
      go_ret
      exact ⟨rfl, HB4.out⟩
  · have HX := veil (fun w1 (hb : Below w.heap.size w w1) => run_ok w1 a m cap hm O R (hpm.below hb) r hr X (by omega))
    have HY := veil (fun w1 (hb : Below w.heap.size w w1) => run_ok w1 a m cap hm O R (hpm.below hb) r hr Y (by omega))
    obtain ⟨k0, k1, k2⟩ := ends_facts (ro r m O R) Y (by omega)
    have k3 := rlen_le (ro r m O R) Y
    have k4 := rlen_mono (ro r m O R) hXY
    generalize rlen (ro r m O R) X = kx at HX k4
    generalize rlen (ro r m O R) Y = ky at HY k0 k1 k2 k3 k4
    generalize ro r m O R = f at HX HY k1 k2
    generalize ra r m O R = g at HX HY
    have K1 := veil k1
    have K2 := veil k2
    have d1 : decide (ky < kx) = false := decide_eq_false (by omega)
    have d2 : decide (Y < ky) = false := decide_eq_false (by omega)
    clear hpm hr k1 k2
    rcases hcase with ⟨rfl, rfl, hlt⟩ | ⟨rfl, rfl, hlt⟩
    · go_enter Try.func7, Try.ntmps7
      go_wp2_with (first
        | (go_at_call 10; refine (HF.out _ (Below.refl _ _)).mono ?_; rintro e w0 ⟨rfl, hw⟩; replace hw := hw.symm; subst hw)
        | (go_at_call 17; refine (HX.out w (Below.refl _ _)).mono ?_; rintro e w1 ⟨v, rfl, ho, hb⟩; obtain ⟨a1, cap1, rfl, hp1⟩ := prg_any ho; have HB1 := veil hb; have HP1 := veil hp1; clear hb hp1 ho HX)
        | (go_at_call 17; refine (HY.out w1 HB1.out).mono ?_; rintro e w2 ⟨v, rfl, ho, hb⟩; have hpa := prg_any ho; obtain ⟨gb, cap2, rfl, hcp, hmx⟩ := row_some ho k0; have HB2 := veil (HB1.out.trans (hb.mono HB1.out.size)); have HP2 : Hid (Prg w2 (some ⟨gb, 0, none⟩) ky f g) := (by obtain ⟨a', c', he, hq⟩ := hpa; cases he; exact hq); have HP1' := veil (HP1.out.below hb); have b1 : ¬ (ky : Int) < (kx : Int) := (by omega); have b2 : (kx : Int) ≤ (cap2 : Int) := (by omega); clear hb ho hpa)
        | (go_at_call 16; refine (psame_any _ _ _ kx _ _ f g (by omega) HP1'.out (HP2.out.cut k4)).mono ?_; rintro e w3 ⟨rfl, hb⟩; have HB3 := veil (HB2.out.trans (hb.mono HB2.out.size)); have HP3 := veil (HP2.out.below hb); clear hb))
      go_loopw [9] (fun i wr => ∃ t : Nat, t ≤ ky ∧ i = .int .i64 (t : Int) ∧ Below w3.heap.size w3 wr) (fun i _ => ky - (intOf i).toNat)
      case atStart => exact ⟨0, by omega, rfl, Below.refl _ _⟩
      case round =>
        obtain ⟨t, ht, rfl, hbt⟩ := hrel
        have HBT := veil hbt
        by_cases htl : t < ky
        · have htl' : (t : Int) < (ky : Int) := by omega
          have hz : wr.cell? ⟨gb, t * 2, none⟩ = some (.int .i64 (f t)) := by
            rcases HP3.out.below hbt with q | ⟨lb, off, he, hlb, hc⟩
            · omega
            · cases he
              have := (hc t htl).1
              simpa using this
          clear hbt
          cases h9 : (f t == 9) with
          | true =>
            have htk : t = ky - 1 := Decidable.byContradiction fun q => K1.out t htl q (by simpa using h9)
            have htk' : ((t : Int) != (ky : Int) - 1) = false := by
              have : (t : Int) = (ky : Int) - 1 := by omega
              simp [this]
            clear htk
            go_wp2
            go_roundw
            case rel => exact ⟨t + 1, by omega, by go_num, HBT.out⟩
            case measure => simp [intOf]; omega
          | false =>
            go_wp2
            go_roundw
            case rel => exact ⟨t + 1, by omega, by go_num, HBT.out⟩
            case measure => simp [intOf]; omega
        · have htl' : ¬ (t : Int) < (ky : Int) := by omega
          obtain rfl : t = ky := by omega
          have hz : ∀ W, Below w3.heap.size w3 W → W.cell? ⟨gb, (t - 1) * 2, none⟩ = some (.int .i64 (f (t - 1))) := by
            intro W hbW
            rcases HP3.out.below hbW with q | ⟨lb, off, he, hlb, hc⟩
            · omega
            · cases he
              have := (hc (t - 1) (by omega)).1
              simpa using this
          have HZ := veil hz
          have e1 : (t : Int) - 1 = ((t - 1 : Nat) : Int) := by omega
          have e2 : 0 < (t : Int) := by omega
          have e3 : ((t - 1 : Nat) : Int) < (t : Int) := by omega
          clear hz hbt
          have hty : t = B ∨ (¬ t = B ∧ f (t - 1) = 9) := by
            by_cases q : t = B
            · exact .inl q
            · exact .inr ⟨q, K2.out.resolve_left q⟩
          rcases hty with hk | ⟨hne, hk⟩
          · subst hk
            go_wp2_with (go_at_call 15; refine (HL.out _).mono ?_; rintro e w4 ⟨rfl, hb⟩; have HB4 := veil (HBT.out.trans (hb.mono HBT.out.size)); clear hb)
            go_ret
            exact ⟨rfl, HB3.out.trans (HB4.out.mono HB3.out.size)⟩
          · have HK := veil hk
            clear hk
            go_wp2_with (go_at_call 15; refine (HL.out _).mono ?_; rintro e w4 ⟨rfl, hb⟩; have HB4 := veil (HBT.out.trans (hb.mono HBT.out.size)); have z4 := HZ.out _ HB4.out; rw [HK.out] at z4; clear hb)
            go_ret
            exact ⟨rfl, HB3.out.trans (HB4.out.mono HB3.out.size)⟩
    · go_enter Try.func7, Try.ntmps7
      go_wp2_with (first
        | (go_at_call 10; refine (HF.out _ (Below.refl _ _)).mono ?_; rintro e w0 ⟨rfl, hw⟩; replace hw := hw.symm; subst hw)
        | (go_at_call 17; refine (HX.out w (Below.refl _ _)).mono ?_; rintro e w1 ⟨v, rfl, ho, hb⟩; obtain ⟨a1, cap1, rfl, hp1⟩ := prg_any ho; have HB1 := veil hb; have HP1 := veil hp1; clear hb hp1 ho HX)
        | (go_at_call 17; refine (HY.out w1 HB1.out).mono ?_; rintro e w2 ⟨v, rfl, ho, hb⟩; have hpa := prg_any ho; obtain ⟨gb, cap2, rfl, hcp, hmx⟩ := row_some ho k0; have HB2 := veil (HB1.out.trans (hb.mono HB1.out.size)); have HP2 : Hid (Prg w2 (some ⟨gb, 0, none⟩) ky f g) := (by obtain ⟨a', c', he, hq⟩ := hpa; cases he; exact hq); have HP1' := veil (HP1.out.below hb); have b1 : ¬ (ky : Int) < (kx : Int) := (by omega); have b2 : (kx : Int) ≤ (cap2 : Int) := (by omega); clear hb ho hpa)
        | (go_at_call 16; refine (psame_any _ _ _ kx _ _ f g (by omega) HP1'.out (HP2.out.cut k4)).mono ?_; rintro e w3 ⟨rfl, hb⟩; have HB3 := veil (HB2.out.trans (hb.mono HB2.out.size)); have HP3 := veil (HP2.out.below hb); clear hb))
      go_loopw [9] (fun i wr => ∃ t : Nat, t ≤ ky ∧ i = .int .i64 (t : Int) ∧ Below w3.heap.size w3 wr) (fun i _ => ky - (intOf i).toNat)
      case atStart => exact ⟨0, by omega, rfl, Below.refl _ _⟩
      case round =>
        obtain ⟨t, ht, rfl, hbt⟩ := hrel
        have HBT := veil hbt
        by_cases htl : t < ky
        · have htl' : (t : Int) < (ky : Int) := by omega
          have hz : wr.cell? ⟨gb, t * 2, none⟩ = some (.int .i64 (f t)) := by
            rcases HP3.out.below hbt with q | ⟨lb, off, he, hlb, hc⟩
            · omega
            · cases he
              have := (hc t htl).1
              simpa using this
          clear hbt
          cases h9 : (f t == 9) with
          | true =>
            have htk : t = ky - 1 := Decidable.byContradiction fun q => K1.out t htl q (by simpa using h9)
            have htk' : ((t : Int) != (ky : Int) - 1) = false := by
              have : (t : Int) = (ky : Int) - 1 := by omega
              simp [this]
            clear htk
            go_wp2
            go_roundw
            case rel => exact ⟨t + 1, by omega, by go_num, HBT.out⟩
            case measure => simp [intOf]; omega
          | false =>
            go_wp2
            go_roundw
            case rel => exact ⟨t + 1, by omega, by go_num, HBT.out⟩
            case measure => simp [intOf]; omega
        · have htl' : ¬ (t : Int) < (ky : Int) := by omega
          obtain rfl : t = ky := by omega
          have hz : ∀ W, Below w3.heap.size w3 W → W.cell? ⟨gb, (t - 1) * 2, none⟩ = some (.int .i64 (f (t - 1))) := by
            intro W hbW
            rcases HP3.out.below hbW with q | ⟨lb, off, he, hlb, hc⟩
            · omega
            · cases he
              have := (hc (t - 1) (by omega)).1
              simpa using this
          have HZ := veil hz
          have e1 : (t : Int) - 1 = ((t - 1 : Nat) : Int) := by omega
          have e2 : 0 < (t : Int) := by omega
          have e3 : ((t - 1 : Nat) : Int) < (t : Int) := by omega
          clear hz hbt
          have hty : t = A ∨ (¬ t = A ∧ f (t - 1) = 9) := by
            by_cases q : t = A
            · exact .inl q
            · exact .inr ⟨q, K2.out.resolve_left q⟩
          rcases hty with hk | ⟨hne, hk⟩
          · subst hk
            go_wp2_with (go_at_call 15; refine (HL.out _).mono ?_; rintro e w4 ⟨rfl, hb⟩; have HB4 := veil (HBT.out.trans (hb.mono HBT.out.size)); clear hb)
            go_ret
            exact ⟨rfl, HB3.out.trans (HB4.out.mono HB3.out.size)⟩
          · have HK := veil hk
            clear hk
            go_wp2_with (go_at_call 15; refine (HL.out _).mono ?_; rintro e w4 ⟨rfl, hb⟩; have HB4 := veil (HBT.out.trans (hb.mono HBT.out.size)); have z4 := HZ.out _ HB4.out; rw [HK.out] at z4; clear hb)
            go_ret
            exact ⟨rfl, HB3.out.trans (HB4.out.mono HB3.out.size)⟩
end Go.Proofs.Yteknpjjgppmlmaa
