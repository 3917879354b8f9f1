/- CbsLoad, walked. -/
import Derived.Test.YtcidmknikepoaaaC10
namespace Go.Proofs.Ytcidmknikepoaaa
open Go.RowKit Go.Lib
set_option linter.unusedVariables false
theorem rem4 (n : Nat) : Int.tmod (n : Int) 4 = ((n % 4 : Nat) : Int) := by
  rw [Int.tmod_eq_emod_of_nonneg (by omega)]
  omega
theorem asks_wrap (x : Srv) (hx : x.ok) : IntKind.u64.wrap ((x.b : Int) * IntKind.u64.wrap (Int.tdiv 232792560 (x.p : Int))) = (asks x : Int) := by
  have h := asks_le hx
  have e1 : Int.tdiv 232792560 (x.p : Int) = ((232792560 / x.p : Nat) : Int) := by rw [Int.tdiv_eq_ediv_of_nonneg (by decide)]; simp
  have e2 : 232792560 / x.p ≤ 232792560 := Nat.div_le_self _ _
  have e3 : IntKind.u64.wrap ((232792560 / x.p : Nat) : Int) = ((232792560 / x.p : Nat) : Int) := by
    generalize 232792560 / x.p = q at e2
    exact wrapU _ (by omega) (by omega)
  have e : (asks x : Int) = (x.b : Int) * ((232792560 / x.p : Nat) : Int) := by unfold asks; simp
  rw [e1, e3, ← e]
  exact wrapU _ (by omega) (by omega)
set_option maxHeartbeats 4000000 in
set_option maxRecDepth 100000 in
theorem load_walk (w : World) (n : Nat) (hn : n < 256) (a : Option Addr) (len cap : Nat) (hlen : len < 9223372036854775808) (D : Nat → Nat × Nat) (hd : Prs w a len D) : Calls Try.prog 4 #[.int .u8 (n : Int), .slice a len cap] w fun e w' => e = .returned (.bool true) ∧ Below w.heap.size w w' := by
  have hr := rem4 n
  have hN : n % 4 < 4 := Nat.mod_lt _ (by decide)
  generalize n % 4 = N at hr hN
  have HN := veil (fun w => new_ok w (N + 1) (by omega) (by omega))
  have HD := veil hd
  clear hd
  have HL := veil live_ok
  have HP0 := veil (Pep.new w (N + 1) (by omega) (by omega) w.heap.size (Nat.le_refl _))
  have HB0 := veil (show Below w.heap.size w (w.alloc (.cells #[.int .u64 ((N + 1 : Nat) : Int), .slice none 0 0] 70)) from (Below.refl _ _).alloc (Nat.le_refl _) _)
  go_enter Try.func4, Try.ntmps4
  go_wp2_with (first
    | (go_at_call 16; refine (HN.out _).mono ?_; rintro e w1 ⟨rfl, rfl⟩))
  clear HN
  go_loopw [7, 8, 9] (fun sm mn i wr => ∃ (j : Nat) (v : Value) (L : List Srv), j ≤ len ∧ j ≤ 60 ∧ i = .int .i64 j ∧ sm = .int .u64 (sumOf L : Int) ∧ mn = .int .i64 (L.length : Int) ∧ sumOf L ≤ (N + 1) * 232792560 ∧ Pep wr w.heap.size w.heap.size (N + 1) v L ∧ Below w.heap.size w wr) (fun _ _ i _ => len - (intOf i).toNat)
  case atStart => exact ⟨0, _, [], by omega, by omega, rfl, rfl, rfl, by simp [sumOf], HP0.out, HB0.out⟩
  case round =>
    obtain ⟨j, v, L, hj, hj6, rfl, rfl, rfl, hsm, hp, hb⟩ := hrel
    have HP := veil hp
    have HB := veil hb
    have HM := veil hsm
    have hl32 := hp.f.len
    clear hp hb HP0 HB0 hsm
    have e9 : IntKind.u64.wrap (((N : Int) + 1) * 232792560) = (((N + 1) * 232792560 : Nat) : Int) := by rw [wrapU _ (by omega) (by omega)]; simp
    by_cases hjl : j < len ∧ j < 60
    · obtain ⟨hj1, hj2⟩ := hjl
      have hj1' : (j : Int) < (len : Int) := by omega
      have hj2' : (j : Int) < 60 := by omega
      rcases HD.out.below HB.out with q | ⟨lb, off, rfl, hlb, hc⟩
      · omega
      obtain ⟨⟨hb1, hb2⟩, y0, y1⟩ := hc j hj1
      clear hc
      generalize (D j).1 = b at hb1 y0
      generalize (D j).2 = p at hb2 y1
      have HPD : Hid (Pep wr.drew w.heap.size w.heap.size (N + 1) v L) := HP.out.like rfl
      have HBD : Hid (Below w.heap.size w wr.drew) := HB.out.drew
      cases hrb : rightB b p
      · have HA := veil (admit_range HPD.out b p hrb)
        have hnr : ¬ (1 ≤ b ∧ b ≤ p ∧ 232792560 % p = 0) := by unfold rightB at hrb; simpa using hrb
        by_cases q1 : 1 ≤ b
        · have q1' : (1 : Int) ≤ (b : Int) := by omega
          by_cases q2 : b ≤ p
          · have q2' : (b : Int) ≤ (p : Int) := by omega
            have q3 : ¬ (p : Int) = 0 := by omega
            have q4 : ¬ p = 0 := by omega
            have q5 : ((232792560 % (p : Int)) == 0) = false := by
              have e : ((232792560 % p : Nat) : Int) = 232792560 % (p : Int) := by simp
              rw [← e, natBeq]
              simp
              intro q
              exact hnr ⟨q1, q2, q⟩
            go_wp2
            go_region_held3 (fun w' => w'.cell? ⟨lb, off + j * 2, none⟩ = some (.int .u64 (b : Int)) ∧ w'.cell? ⟨lb, off + j * 2 + 1, none⟩ = some (.int .u64 (p : Int)))
              (first | exact ⟨y0, y1⟩ | go_keep)
              (first | fail)
            go_wp2_with (first
              | (go_at_call 17; refine (HA.out).mono ?_; rintro e w1 ⟨rfl, hb⟩; have HP1 := veil (HPD.out.below hb); have HB1 := veil (HBD.out.trans (hb.mono HBD.out.size)); clear hb)
              | (go_at_call 18; refine (sum_ok HP1.out).mono ?_; rintro e w2 ⟨rfl, hb⟩; have HP2 := veil (HP1.out.below hb); have HB2 := veil (HB1.out.trans (hb.mono HB1.out.size)); clear hb)
              | (go_at_call 20; refine (len_ok HP2.out).mono ?_; rintro e w3 ⟨rfl, hw⟩; replace hw := hw.symm; subst hw))
            go_roundw
            case rel => exact ⟨j + 1, _, L, by omega, by omega, by go_num, rfl, rfl, HM.out, HP2.out, HB2.out⟩
            case measure => simp [intOf]; omega
          · have q2' : ¬ (b : Int) ≤ (p : Int) := by omega
            go_wp2
            go_region_held3 (fun w' => w'.cell? ⟨lb, off + j * 2, none⟩ = some (.int .u64 (b : Int)) ∧ w'.cell? ⟨lb, off + j * 2 + 1, none⟩ = some (.int .u64 (p : Int)))
              (first | exact ⟨y0, y1⟩ | go_keep)
              (first | fail)
            go_wp2_with (first
              | (go_at_call 17; refine (HA.out).mono ?_; rintro e w1 ⟨rfl, hb⟩; have HP1 := veil (HPD.out.below hb); have HB1 := veil (HBD.out.trans (hb.mono HBD.out.size)); clear hb)
              | (go_at_call 18; refine (sum_ok HP1.out).mono ?_; rintro e w2 ⟨rfl, hb⟩; have HP2 := veil (HP1.out.below hb); have HB2 := veil (HB1.out.trans (hb.mono HB1.out.size)); clear hb)
              | (go_at_call 20; refine (len_ok HP2.out).mono ?_; rintro e w3 ⟨rfl, hw⟩; replace hw := hw.symm; subst hw))
            go_roundw
            case rel => exact ⟨j + 1, _, L, by omega, by omega, by go_num, rfl, rfl, HM.out, HP2.out, HB2.out⟩
            case measure => simp [intOf]; omega
        · have q1' : ¬ (1 : Int) ≤ (b : Int) := by omega
          go_wp2
          go_region_held3 (fun w' => w'.cell? ⟨lb, off + j * 2, none⟩ = some (.int .u64 (b : Int)) ∧ w'.cell? ⟨lb, off + j * 2 + 1, none⟩ = some (.int .u64 (p : Int)))
            (first | exact ⟨y0, y1⟩ | go_keep)
            (first | fail)
          go_wp2_with (first
            | (go_at_call 17; refine (HA.out).mono ?_; rintro e w1 ⟨rfl, hb⟩; have HP1 := veil (HPD.out.below hb); have HB1 := veil (HBD.out.trans (hb.mono HBD.out.size)); clear hb)
            | (go_at_call 18; refine (sum_ok HP1.out).mono ?_; rintro e w2 ⟨rfl, hb⟩; have HP2 := veil (HP1.out.below hb); have HB2 := veil (HB1.out.trans (hb.mono HB1.out.size)); clear hb)
            | (go_at_call 20; refine (len_ok HP2.out).mono ?_; rintro e w3 ⟨rfl, hw⟩; replace hw := hw.symm; subst hw))
          go_roundw
          case rel => exact ⟨j + 1, _, L, by omega, by omega, by go_num, rfl, rfl, HM.out, HP2.out, HB2.out⟩
          case measure => simp [intOf]; omega
      · have hok := (right_iff b p).1 hrb
        have hok2 := hok
        obtain ⟨q1, q2, q6, _⟩ := hok2
        have q1' : (1 : Int) ≤ (b : Int) := by simp at q1; omega
        have q2' : (b : Int) ≤ (p : Int) := by simp at q2; omega
        have q3 : ¬ (p : Int) = 0 := by omega
        have q4 : ¬ p = 0 := by omega
        have q5 : ((232792560 % (p : Int)) == 0) = true := by
          have e : ((232792560 % p : Nat) : Int) = 232792560 % (p : Int) := by simp
          rw [← e, natBeq]
          simp at q6
          simp [q6]
        have hal := asks_le hok
        have g4 : IntKind.u64.wrap ((b : Int) * IntKind.u64.wrap (Int.tdiv 232792560 (p : Int))) = (asks ⟨b, p, 0, 0⟩ : Int) := asks_wrap ⟨b, p, 0, 0⟩ hok
        have g4b : IntKind.u64.wrap ((b : Int) * (232792560 / (p : Int))) = (asks ⟨b, p, 0, 0⟩ : Int) := by
          have e : (asks ⟨b, p, 0, 0⟩ : Int) = (b : Int) * (232792560 / (p : Int)) := by unfold asks; simp
          rw [← e]
          exact wrapU _ (by omega) (by omega)
        have g5 : IntKind.u64.wrap ((sumOf L : Int) + (asks ⟨b, p, 0, 0⟩ : Int)) = (sumOf L : Int) + (asks ⟨b, p, 0, 0⟩ : Int) := by
          have := HM.out
          exact wrapU _ (by omega) (by omega)
        by_cases h32 : L.length = 32
        · have h32' : (32 : Int) ≤ (L.length : Int) := by omega
          have HA := veil (admit_full HPD.out b p hrb h32)
          go_wp2
          go_region_held3 (fun w' => w'.cell? ⟨lb, off + j * 2, none⟩ = some (.int .u64 (b : Int)) ∧ w'.cell? ⟨lb, off + j * 2 + 1, none⟩ = some (.int .u64 (p : Int)))
            (first | exact ⟨y0, y1⟩ | go_keep)
            (first | fail)
          go_wp2_with (first
            | (go_at_call 17; refine (HA.out).mono ?_; rintro e w1 ⟨rfl, hb⟩; have HP1 := veil (HPD.out.below hb); have HB1 := veil (HBD.out.trans (hb.mono HBD.out.size)); clear hb)
            | (go_at_call 18; refine (sum_ok HP1.out).mono ?_; rintro e w2 ⟨rfl, hb⟩; have HP2 := veil (HP1.out.below hb); have HB2 := veil (HB1.out.trans (hb.mono HB1.out.size)); clear hb)
            | (go_at_call 20; refine (len_ok HP2.out).mono ?_; rintro e w3 ⟨rfl, hw⟩; replace hw := hw.symm; subst hw))
          go_roundw
          case rel => exact ⟨j + 1, _, L, by omega, by omega, by go_num, rfl, by simp [h32], HM.out, HP2.out, HB2.out⟩
          case measure => simp [intOf]; omega
        · have h32' : ¬ (32 : Int) ≤ (L.length : Int) := by omega
          by_cases hq : (N + 1) * 232792560 < sumOf L + asks ⟨b, p, 0, 0⟩
          · have g6 : ¬ (sumOf L : Int) + (asks ⟨b, p, 0, 0⟩ : Int) ≤ ((N : Int) + 1) * 232792560 := by omega
            have HA := veil (admit_load HPD.out b p hrb (by omega) hq)
            go_wp2
            go_region_held3 (fun w' => w'.cell? ⟨lb, off + j * 2, none⟩ = some (.int .u64 (b : Int)) ∧ w'.cell? ⟨lb, off + j * 2 + 1, none⟩ = some (.int .u64 (p : Int)))
              (first | exact ⟨y0, y1⟩ | go_keep)
              (first | fail)
            go_wp2_with (first
              | (go_at_call 17; refine (HA.out).mono ?_; rintro e w1 ⟨rfl, hb⟩; have HP1 := veil (HPD.out.below hb); have HB1 := veil (HBD.out.trans (hb.mono HBD.out.size)); clear hb)
              | (go_at_call 18; refine (sum_ok HP1.out).mono ?_; rintro e w2 ⟨rfl, hb⟩; have HP2 := veil (HP1.out.below hb); have HB2 := veil (HB1.out.trans (hb.mono HB1.out.size)); clear hb)
              | (go_at_call 20; refine (len_ok HP2.out).mono ?_; rintro e w3 ⟨rfl, hw⟩; replace hw := hw.symm; subst hw))
            all_goals (first | (exfalso; simp only [Bool.not_eq_false', decide_eq_true_eq] at *; omega) | skip)
            go_roundw
            case rel => exact ⟨j + 1, _, L, by omega, by omega, by go_num, rfl, rfl, HM.out, HP2.out, HB2.out⟩
            case measure => simp [intOf]; omega
          · have g6 : (sumOf L : Int) + (asks ⟨b, p, 0, 0⟩ : Int) ≤ ((N : Int) + 1) * 232792560 := by omega
            have HA := veil (admit_ok HPD.out b p hrb (by omega) hq)
            have z1 : sumOf (L ++ [⟨b, p, 0, 0⟩]) = sumOf L + asks ⟨b, p, 0, 0⟩ := by simp [sumOf]
            have z2 : (L ++ [(⟨b, p, 0, 0⟩ : Srv)]).length = L.length + 1 := by simp
            have z3 : atL (L ++ [⟨b, p, 0, 0⟩]) (L.length : Int) = ⟨b, p, 0, 0⟩ := (atL_some (by simp)).1
            have z4 : decide (0 < (atL (L ++ [⟨b, p, 0, 0⟩]) (L.length : Int)).l) = false := by rw [z3]; rfl
            go_wp2
            go_region_held3 (fun w' => w'.cell? ⟨lb, off + j * 2, none⟩ = some (.int .u64 (b : Int)) ∧ w'.cell? ⟨lb, off + j * 2 + 1, none⟩ = some (.int .u64 (p : Int)))
              (first | exact ⟨y0, y1⟩ | go_keep)
              (first | fail)
            go_wp2_with (first
              | (go_at_call 17; refine (HA.out).mono ?_; rintro e w1 ⟨rfl, ⟨v1, hp⟩, hf⟩; have HP1 := veil hp; have HB1 := veil (HBD.out.trans (HPD.out.low (Nat.le_refl _) hf)); have HAc := veil (active_ok hp (L.length : Int)); clear hp hf)
              | (go_at_call 19; refine (HAc.out).mono ?_; rintro e w1' ⟨rfl, c, hw⟩; have hb := below_a hw; clear hw; have HP1' := veil (HP1.out.below hb); have HB1' := veil (HB1.out.trans (hb.mono HB1.out.size)); clear hb)
              | (go_at_call 18; refine (sum_ok HP1'.out).mono ?_; rintro e w2 ⟨rfl, hb⟩; have HP2 := veil (HP1'.out.below hb); have HB2 := veil (HB1'.out.trans (hb.mono HB1'.out.size)); clear hb)
              | (go_at_call 20; refine (len_ok HP2.out).mono ?_; rintro e w3 ⟨rfl, hw⟩; replace hw := hw.symm; subst hw))
            go_roundw
            case rel => exact ⟨j + 1, _, L ++ [⟨b, p, 0, 0⟩], by omega, by omega, by go_num, by rw [z1]; simp, by rw [z2]; first | rfl | simp | go_num, by rw [z1]; omega, HP2.out, HB2.out⟩
            case measure => simp [intOf]; omega
    · have g7 : (sumOf L : Int) ≤ ((N : Int) + 1) * 232792560 := by have := HM.out; omega
      by_cases hjl2 : j < len
      · have hj1' : (j : Int) < (len : Int) := by omega
        have hj2' : ¬ (j : Int) < 60 := by omega
        go_wp2_with (go_at_call 14; refine (HL.out _).mono ?_; rintro e w1 ⟨rfl, hb⟩; have HB1 := veil (HB.out.trans (hb.mono HB.out.size)); clear hb)
        go_ret
        exact ⟨by simp, HB1.out⟩
      · have hj1' : ¬ (j : Int) < (len : Int) := by omega
        go_wp2_with (go_at_call 14; refine (HL.out _).mono ?_; rintro e w1 ⟨rfl, hb⟩; have HB1 := veil (HB.out.trans (hb.mono HB.out.size)); clear hb)
        go_ret
        exact ⟨by simp, HB1.out⟩
end Go.Proofs.Ytcidmknikepoaaa
