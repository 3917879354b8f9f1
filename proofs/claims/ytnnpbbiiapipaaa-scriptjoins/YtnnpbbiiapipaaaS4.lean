/-
  script: Right walked.
-/
import Derived.Test.YtnnpbbiiapipaaaS3
import Derived.Test.YtnnpbbiiapipaaaS4p
namespace Go.Proofs.Ytnnpbbiiapipaaa
open Go.RowKit Go.Lib
set_option linter.unusedVariables false
@[go_sem] theorem build1 (p dr : Int) (w : World) : (Instr.build 36 #[(0, .int .i64 1), (1, .int .i64 p), (2, .int .u64 dr)]).run Try.prog w = .ok (.agg #[.int .i64 1, .int .i64 p, .int .u64 dr, .int .i64 0, .slice none 0 0, .int .u64 0, .int .u64 0, .int .i64 0, .int .u8 0, .int .i64 0]) w := run_build w 36 _ _ (by kernel_rfl)
@[go_sem] theorem build2 (n : Int) (w : World) : (Instr.build 36 #[(0, .int .i64 2), (3, .int .i64 n)]).run Try.prog w = .ok (.agg #[.int .i64 2, .int .i64 0, .int .u64 0, .int .i64 n, .slice none 0 0, .int .u64 0, .int .u64 0, .int .i64 0, .int .u8 0, .int .i64 0]) w := run_build w 36 _ _ (by kernel_rfl)
@[go_sem] theorem build3 (a : Option Addr) (l c : Nat) (w : World) : (Instr.build 36 #[(0, .int .i64 3), (4, .slice a l c)]).run Try.prog w = .ok (.agg #[.int .i64 3, .int .i64 0, .int .u64 0, .int .i64 0, .slice a l c, .int .u64 0, .int .u64 0, .int .i64 0, .int .u8 0, .int .i64 0]) w := run_build w 36 _ _ (by kernel_rfl)
@[go_sem] theorem build4 (b p : Int) (w : World) : (Instr.build 36 #[(0, .int .i64 4), (5, .int .u64 b), (6, .int .u64 p)]).run Try.prog w = .ok (.agg #[.int .i64 4, .int .i64 0, .int .u64 0, .int .i64 0, .slice none 0 0, .int .u64 b, .int .u64 p, .int .i64 0, .int .u8 0, .int .i64 0]) w := run_build w 36 _ _ (by kernel_rfl)
@[go_sem] theorem build5 (p l s : Int) (w : World) : (Instr.build 36 #[(0, .int .i64 5), (7, .int .i64 p), (8, .int .u8 l), (9, .int .i64 s)]).run Try.prog w = .ok (.agg #[.int .i64 5, .int .i64 0, .int .u64 0, .int .i64 0, .slice none 0 0, .int .u64 0, .int .u64 0, .int .i64 p, .int .u8 l, .int .i64 s]) w := run_build w 36 _ _ (by kernel_rfl)
set_option maxHeartbeats 2000000 in
theorem right1_ok (w : World) (p : Int) (dr : Nat) (n : Int) (code : List (Int × Int)) (bu pe : Nat) (pr : Int) (lv : Nat) (sv : Int) (a : Option Addr) (ca : Nat) (hc : Cod w a code) (hl : code.length < 9223372036854775808) :
    Calls Try.prog 14 #[.agg #[.int .i64 1, .int .i64 p, .int .u64 (dr : Int), .int .i64 n, .slice a code.length ca, .int .u64 (bu : Int), .int .u64 (pe : Int), .int .i64 pr, .int .u8 (lv : Int), .int .i64 sv]] w fun e w' => ∃ B : Bool, e = .returned (.bool B) ∧ (B = true ↔ RightE (⟨1, p, dr, n, code, bu, pe, pr, lv, sv⟩ : En)) ∧ Below w.heap.size w w' := by
  have HS : Hid (∀ W, Below w.heap.size w W → Calls Try.prog 21 #[.agg #[.int .i64 1, .int .i64 p, .int .u64 (dr : Int), .int .i64 n, .slice a code.length ca, .int .u64 (bu : Int), .int .u64 (pe : Int), .int .i64 pr, .int .u8 (lv : Int), .int .i64 sv], .agg #[.int .i64 1, .int .i64 p, .int .u64 (dr : Int), .int .i64 0, .slice none 0 0, .int .u64 0, .int .u64 0, .int .i64 0, .int .u8 0, .int .i64 0]] W fun e w' => ∃ B : Bool, e = .returned (.bool B) ∧ (B = true ↔ (⟨1, p, dr, n, code, bu, pe, pr, lv, sv⟩ : En) = mkStep p dr) ∧ Below W.heap.size W w') := fun W hb => same_ok W (⟨1, p, dr, n, code, bu, pe, pr, lv, sv⟩ : En) (mkStep p dr) a none ca 0 (hc.below hb) (cod_nil _ _) hl
  have HW0 : Hid (∀ W, Calls Try.prog 24 #[.int .i64 p, .int .i64 0, .int .i64 255] W fun e w' => ∃ B : Bool, e = .returned (.bool B) ∧ (B = true ↔ 0 ≤ p ∧ p ≤ 255) ∧ w' = W) := fun W => (within_ok W p 0 255).mono fun e w' ⟨h1, h2⟩ => ⟨_, h1, by simp, h2⟩
  clear hc
  have HR := veil (right_d1 (x := (⟨1, p, dr, n, code, bu, pe, pr, lv, sv⟩ : En)) rfl)
  go_enter Try.func14, Try.ntmps14
  go_wp2_with (first
    | (go_at_call 24; refine (HW0.out _).mono ?_; rintro e w1 ⟨B1, rfl, hB1, hw⟩; replace hw := hw.symm; subst hw; have HB1 := veil hB1; clear hB1)
    | (go_at_call 21; refine (HS.out _ ((Below.refl _ _).alloc (Nat.le_refl _) _)).mono ?_; rintro e w2 ⟨B2, rfl, hB2, hb2⟩; have HB2 := veil hB2; have HL2 := veil hb2; clear hB2 hb2))
  all_goals go_ret
  all_goals refine ⟨_, rfl, ?_, ?_⟩
  all_goals first
    | exact ((Below.refl _ _).alloc (Nat.le_refl _) _).trans (HL2.out.mono (by simp))
    | exact ((Below.refl _ _).alloc (Nat.le_refl _) _)
    | (rw [HR.out]
       try have h1 := HB1.out
       try have h2 := HB2.out
       try have h3 := HB3.out
       first
         | (simp_all; done)
         | (simp_all; intros; omega))
set_option maxHeartbeats 2000000 in
theorem right2_ok (w : World) (p : Int) (dr : Nat) (n : Int) (code : List (Int × Int)) (bu pe : Nat) (pr : Int) (lv : Nat) (sv : Int) (a : Option Addr) (ca : Nat) (hc : Cod w a code) (hl : code.length < 9223372036854775808) :
    Calls Try.prog 14 #[.agg #[.int .i64 2, .int .i64 p, .int .u64 (dr : Int), .int .i64 n, .slice a code.length ca, .int .u64 (bu : Int), .int .u64 (pe : Int), .int .i64 pr, .int .u8 (lv : Int), .int .i64 sv]] w fun e w' => ∃ B : Bool, e = .returned (.bool B) ∧ (B = true ↔ RightE (⟨2, p, dr, n, code, bu, pe, pr, lv, sv⟩ : En)) ∧ Below w.heap.size w w' := by
  have HS : Hid (∀ W, Below w.heap.size w W → Calls Try.prog 21 #[.agg #[.int .i64 2, .int .i64 p, .int .u64 (dr : Int), .int .i64 n, .slice a code.length ca, .int .u64 (bu : Int), .int .u64 (pe : Int), .int .i64 pr, .int .u8 (lv : Int), .int .i64 sv], .agg #[.int .i64 2, .int .i64 0, .int .u64 0, .int .i64 n, .slice none 0 0, .int .u64 0, .int .u64 0, .int .i64 0, .int .u8 0, .int .i64 0]] W fun e w' => ∃ B : Bool, e = .returned (.bool B) ∧ (B = true ↔ (⟨2, p, dr, n, code, bu, pe, pr, lv, sv⟩ : En) = mkTick n) ∧ Below W.heap.size W w') := fun W hb => same_ok W (⟨2, p, dr, n, code, bu, pe, pr, lv, sv⟩ : En) (mkTick n) a none ca 0 (hc.below hb) (cod_nil _ _) hl
  have HW0 : Hid (∀ W, Calls Try.prog 24 #[.int .i64 n, .int .i64 1, .int .i64 65535] W fun e w' => ∃ B : Bool, e = .returned (.bool B) ∧ (B = true ↔ 1 ≤ n ∧ n ≤ 65535) ∧ w' = W) := fun W => (within_ok W n 1 65535).mono fun e w' ⟨h1, h2⟩ => ⟨_, h1, by simp, h2⟩
  clear hc
  have HR := veil (right_d2 (x := (⟨2, p, dr, n, code, bu, pe, pr, lv, sv⟩ : En)) rfl)
  go_enter Try.func14, Try.ntmps14
  go_wp2_with (first
    | (go_at_call 24; refine (HW0.out _).mono ?_; rintro e w1 ⟨B1, rfl, hB1, hw⟩; replace hw := hw.symm; subst hw; have HB1 := veil hB1; clear hB1)
    | (go_at_call 21; refine (HS.out _ ((Below.refl _ _).alloc (Nat.le_refl _) _)).mono ?_; rintro e w2 ⟨B2, rfl, hB2, hb2⟩; have HB2 := veil hB2; have HL2 := veil hb2; clear hB2 hb2))
  all_goals go_ret
  all_goals refine ⟨_, rfl, ?_, ?_⟩
  all_goals first
    | exact ((Below.refl _ _).alloc (Nat.le_refl _) _).trans (HL2.out.mono (by simp))
    | exact ((Below.refl _ _).alloc (Nat.le_refl _) _)
    | (rw [HR.out]
       try have h1 := HB1.out
       try have h2 := HB2.out
       try have h3 := HB3.out
       first
         | (simp_all; done)
         | (simp_all; intros; omega))
set_option maxHeartbeats 2000000 in
theorem right3_ok (w : World) (p : Int) (dr : Nat) (n : Int) (code : List (Int × Int)) (bu pe : Nat) (pr : Int) (lv : Nat) (sv : Int) (a : Option Addr) (ca : Nat) (hc : Cod w a code) (hl : code.length < 9223372036854775808) :
    Calls Try.prog 14 #[.agg #[.int .i64 3, .int .i64 p, .int .u64 (dr : Int), .int .i64 n, .slice a code.length ca, .int .u64 (bu : Int), .int .u64 (pe : Int), .int .i64 pr, .int .u8 (lv : Int), .int .i64 sv]] w fun e w' => ∃ B : Bool, e = .returned (.bool B) ∧ (B = true ↔ RightE (⟨3, p, dr, n, code, bu, pe, pr, lv, sv⟩ : En)) ∧ Below w.heap.size w w' := by
  have HS : Hid (∀ W, Below w.heap.size w W → Calls Try.prog 21 #[.agg #[.int .i64 3, .int .i64 p, .int .u64 (dr : Int), .int .i64 n, .slice a code.length ca, .int .u64 (bu : Int), .int .u64 (pe : Int), .int .i64 pr, .int .u8 (lv : Int), .int .i64 sv], .agg #[.int .i64 3, .int .i64 0, .int .u64 0, .int .i64 0, .slice a code.length ca, .int .u64 0, .int .u64 0, .int .i64 0, .int .u8 0, .int .i64 0]] W fun e w' => ∃ B : Bool, e = .returned (.bool B) ∧ (B = true ↔ (⟨3, p, dr, n, code, bu, pe, pr, lv, sv⟩ : En) = mkLoad code) ∧ Below W.heap.size W w') := fun W hb => same_ok W (⟨3, p, dr, n, code, bu, pe, pr, lv, sv⟩ : En) (mkLoad code) a a ca ca (hc.below hb) (hc.below hb) hl
  have HK : Hid (∀ W, Below w.heap.size w W → Calls Try.prog 25 #[.slice a code.length ca] W fun e w' => ∃ x y : Int, e = .returned (.tuple #[.int .i64 x, .int .i64 y]) ∧ (x = 0 ↔ RtC code) ∧ Below W.heap.size W w') := fun W hb => (check_ok W a code.length ca hl (cO code) (cR code) (hc.below hb)).mono fun e w' ⟨x, y, h1, h2, h3⟩ => ⟨x, y, h1, ⟨fun q => ⟨y, by rw [← q]; exact h2⟩, fun ⟨y', q⟩ => (h2.one q).1.symm⟩, h3⟩
  clear hc
  have HR := veil (right_d3 (x := (⟨3, p, dr, n, code, bu, pe, pr, lv, sv⟩ : En)) rfl)
  go_enter Try.func14, Try.ntmps14
  go_wp2_with (first
    | (go_at_call 25; refine (HK.out _ ((Below.refl _ _).alloc (Nat.le_refl _) _)).mono ?_; rintro e w1 ⟨x, y, rfl, hk, hb⟩; have HB1 := veil hk; have HL1 := veil hb; have y0 := box_cell hb 0 _ rfl; have y1 := box_cell hb 1 _ rfl; have y2 := box_cell hb 2 _ rfl; have y3 := box_cell hb 3 _ rfl; have y4 := box_cell hb 4 _ rfl; have y5 := box_cell hb 5 _ rfl; have y6 := box_cell hb 6 _ rfl; have y7 := box_cell hb 7 _ rfl; have y8 := box_cell hb 8 _ rfl; have y9 := box_cell hb 9 _ rfl; clear hk hb)
    | (go_at_call 21; refine (HS.out _ (((Below.refl _ _).alloc (Nat.le_refl _) _).trans (HL1.out.mono (by simp)))).mono ?_; rintro e w2 ⟨B2, rfl, hB2, hb2⟩; have HB2 := veil hB2; have HL2 := veil hb2; clear hB2 hb2))
  all_goals go_ret
  all_goals refine ⟨_, rfl, ?_, ?_⟩
  all_goals first
    | exact (((Below.refl _ _).alloc (Nat.le_refl _) _).trans (HL1.out.mono (by simp))).trans (HL2.out.mono (Nat.le_trans (Nat.le_succ _) (by have := HL1.out.size; simpa using this)))
    | exact ((Below.refl _ _).alloc (Nat.le_refl _) _).trans (HL1.out.mono (by simp))
    | (rw [HR.out]
       have h1 := HB1.out
       try have h2 := HB2.out
       simp_all)
set_option maxHeartbeats 2000000 in
theorem right4_ok (w : World) (p : Int) (dr : Nat) (n : Int) (code : List (Int × Int)) (bu pe : Nat) (pr : Int) (lv : Nat) (sv : Int) (a : Option Addr) (ca : Nat) (hc : Cod w a code) (hl : code.length < 9223372036854775808) :
    Calls Try.prog 14 #[.agg #[.int .i64 4, .int .i64 p, .int .u64 (dr : Int), .int .i64 n, .slice a code.length ca, .int .u64 (bu : Int), .int .u64 (pe : Int), .int .i64 pr, .int .u8 (lv : Int), .int .i64 sv]] w fun e w' => ∃ B : Bool, e = .returned (.bool B) ∧ (B = true ↔ RightE (⟨4, p, dr, n, code, bu, pe, pr, lv, sv⟩ : En)) ∧ Below w.heap.size w w' := by
  have HS : Hid (∀ W, Below w.heap.size w W → Calls Try.prog 21 #[.agg #[.int .i64 4, .int .i64 p, .int .u64 (dr : Int), .int .i64 n, .slice a code.length ca, .int .u64 (bu : Int), .int .u64 (pe : Int), .int .i64 pr, .int .u8 (lv : Int), .int .i64 sv], .agg #[.int .i64 4, .int .i64 0, .int .u64 0, .int .i64 0, .slice none 0 0, .int .u64 (bu : Int), .int .u64 (pe : Int), .int .i64 0, .int .u8 0, .int .i64 0]] W fun e w' => ∃ B : Bool, e = .returned (.bool B) ∧ (B = true ↔ (⟨4, p, dr, n, code, bu, pe, pr, lv, sv⟩ : En) = mkAdmit bu pe) ∧ Below W.heap.size W w') := fun W hb => same_ok W (⟨4, p, dr, n, code, bu, pe, pr, lv, sv⟩ : En) (mkAdmit bu pe) a none ca 0 (hc.below hb) (cod_nil _ _) hl
  clear hc
  have HR := veil (right_d4 (x := (⟨4, p, dr, n, code, bu, pe, pr, lv, sv⟩ : En)) rfl)
  go_enter Try.func14, Try.ntmps14
  go_wp2_with (go_at_call 21; refine (HS.out _ ((Below.refl _ _).alloc (Nat.le_refl _) _)).mono ?_; rintro e w2 ⟨B2, rfl, hB2, hb2⟩; have HB2 := veil hB2; have HL2 := veil hb2; clear hB2 hb2)
  all_goals go_ret
  all_goals refine ⟨_, rfl, ?_, ?_⟩
  all_goals first
    | exact ((Below.refl _ _).alloc (Nat.le_refl _) _).trans (HL2.out.mono (by simp))
    | exact ((Below.refl _ _).alloc (Nat.le_refl _) _)
    | (rw [HR.out]
       try have h1 := HB1.out
       try have h2 := HB2.out
       try have h3 := HB3.out
       first
         | (simp_all; done)
         | (simp_all; intros; omega))
set_option maxHeartbeats 2000000 in
theorem right5_ok (w : World) (p : Int) (dr : Nat) (n : Int) (code : List (Int × Int)) (bu pe : Nat) (pr : Int) (lv : Nat) (sv : Int) (a : Option Addr) (ca : Nat) (hc : Cod w a code) (hl : code.length < 9223372036854775808) :
    Calls Try.prog 14 #[.agg #[.int .i64 5, .int .i64 p, .int .u64 (dr : Int), .int .i64 n, .slice a code.length ca, .int .u64 (bu : Int), .int .u64 (pe : Int), .int .i64 pr, .int .u8 (lv : Int), .int .i64 sv]] w fun e w' => ∃ B : Bool, e = .returned (.bool B) ∧ (B = true ↔ RightE (⟨5, p, dr, n, code, bu, pe, pr, lv, sv⟩ : En)) ∧ Below w.heap.size w w' := by
  have HS : Hid (∀ W, Below w.heap.size w W → Calls Try.prog 21 #[.agg #[.int .i64 5, .int .i64 p, .int .u64 (dr : Int), .int .i64 n, .slice a code.length ca, .int .u64 (bu : Int), .int .u64 (pe : Int), .int .i64 pr, .int .u8 (lv : Int), .int .i64 sv], .agg #[.int .i64 5, .int .i64 0, .int .u64 0, .int .i64 0, .slice none 0 0, .int .u64 0, .int .u64 0, .int .i64 pr, .int .u8 (lv : Int), .int .i64 sv]] W fun e w' => ∃ B : Bool, e = .returned (.bool B) ∧ (B = true ↔ (⟨5, p, dr, n, code, bu, pe, pr, lv, sv⟩ : En) = mkStart pr lv sv) ∧ Below W.heap.size W w') := fun W hb => same_ok W (⟨5, p, dr, n, code, bu, pe, pr, lv, sv⟩ : En) (mkStart pr lv sv) a none ca 0 (hc.below hb) (cod_nil _ _) hl
  have HW0 : Hid (∀ W, Calls Try.prog 24 #[.int .i64 pr, .int .i64 0, .int .i64 255] W fun e w' => ∃ B : Bool, e = .returned (.bool B) ∧ (B = true ↔ 0 ≤ pr ∧ pr ≤ 255) ∧ w' = W) := fun W => (within_ok W pr 0 255).mono fun e w' ⟨h1, h2⟩ => ⟨_, h1, by simp, h2⟩
  have HW1 : Hid (∀ W, Calls Try.prog 24 #[.int .i64 sv, .int .i64 (-1), .int .i64 254] W fun e w' => ∃ B : Bool, e = .returned (.bool B) ∧ (B = true ↔ (-1) ≤ sv ∧ sv ≤ 254) ∧ w' = W) := fun W => (within_ok W sv (-1) 254).mono fun e w' ⟨h1, h2⟩ => ⟨_, h1, by simp, h2⟩
  clear hc
  have HR := veil (right_d5 (x := (⟨5, p, dr, n, code, bu, pe, pr, lv, sv⟩ : En)) rfl)
  go_enter Try.func14, Try.ntmps14
  go_wp2_with (first
    | (go_at_call 24; refine (HW0.out _).mono ?_; rintro e w1 ⟨B1, rfl, hB1, hw⟩; replace hw := hw.symm; subst hw; have HB1 := veil hB1; clear hB1 HW0)
    | (go_at_call 24; refine (HW1.out _).mono ?_; rintro e w1 ⟨B3, rfl, hB3, hw⟩; replace hw := hw.symm; subst hw; have HB3 := veil hB3; clear hB3)
    | (go_at_call 21; refine (HS.out _ ((Below.refl _ _).alloc (Nat.le_refl _) _)).mono ?_; rintro e w2 ⟨B2, rfl, hB2, hb2⟩; have HB2 := veil hB2; have HL2 := veil hb2; clear hB2 hb2))
  all_goals go_ret
  all_goals refine ⟨_, rfl, ?_, ?_⟩
  all_goals first
    | exact ((Below.refl _ _).alloc (Nat.le_refl _) _).trans (HL2.out.mono (by simp))
    | exact ((Below.refl _ _).alloc (Nat.le_refl _) _)
    | (rw [HR.out]
       try have h1 := HB1.out
       try have h2 := HB2.out
       try have h3 := HB3.out
       first
         | (simp_all; done)
         | (simp_all; intros; omega))
set_option maxHeartbeats 2000000 in
theorem right0_ok (w : World) (d : Int) (h1 : d ≠ 1) (h2 : d ≠ 2) (h3 : d ≠ 3) (h4 : d ≠ 4) (h5 : d ≠ 5) (p : Int) (dr : Nat) (n : Int) (code : List (Int × Int)) (bu pe : Nat) (pr : Int) (lv : Nat) (sv : Int) (a : Option Addr) (ca : Nat) :
    Calls Try.prog 14 #[.agg #[.int .i64 d, .int .i64 p, .int .u64 (dr : Int), .int .i64 n, .slice a code.length ca, .int .u64 (bu : Int), .int .u64 (pe : Int), .int .i64 pr, .int .u8 (lv : Int), .int .i64 sv]] w fun e w' => ∃ B : Bool, e = .returned (.bool B) ∧ (B = true ↔ RightE (⟨d, p, dr, n, code, bu, pe, pr, lv, sv⟩ : En)) ∧ Below w.heap.size w w' := by
  have HR := veil (right_none' (x := (⟨d, p, dr, n, code, bu, pe, pr, lv, sv⟩ : En)) h1 h2 h3 h4 h5)
  have b1 : (d == 1) = false := by simpa using h1
  have b2 : (d == 2) = false := by simpa using h2
  have b3 : (d == 3) = false := by simpa using h3
  have b4 : (d == 4) = false := by simpa using h4
  have b5 : (d == 5) = false := by simpa using h5
  clear h1 h2 h3 h4 h5
  go_enter Try.func14, Try.ntmps14
  go_wp2
  go_ret
  exact ⟨false, rfl, by simp [HR.out], (Below.refl _ _).alloc (Nat.le_refl _) _⟩
theorem right_ok' (w : World) (x : En) (a : Option Addr) (ca : Nat) (hc : Cod w a x.code) (hl : x.code.length < 9223372036854775808) :
    Calls Try.prog 14 #[.agg #[.int .i64 x.d, .int .i64 x.p, .int .u64 (x.dr : Int), .int .i64 x.n, .slice a x.code.length ca, .int .u64 (x.bu : Int), .int .u64 (x.pe : Int), .int .i64 x.pr, .int .u8 (x.lv : Int), .int .i64 x.sv]] w fun e w' => ∃ B : Bool, e = .returned (.bool B) ∧ (B = true ↔ RightE x) ∧ Below w.heap.size w w' := by
  obtain ⟨d, p, dr, n, code, bu, pe, pr, lv, sv⟩ := x
  by_cases h1 : d = 1
  · subst h1; exact right1_ok w p dr n code bu pe pr lv sv a ca hc hl
  by_cases h2 : d = 2
  · subst h2; exact right2_ok w p dr n code bu pe pr lv sv a ca hc hl
  by_cases h3 : d = 3
  · subst h3; exact right3_ok w p dr n code bu pe pr lv sv a ca hc hl
  by_cases h4 : d = 4
  · subst h4; exact right4_ok w p dr n code bu pe pr lv sv a ca hc hl
  by_cases h5 : d = 5
  · subst h5; exact right5_ok w p dr n code bu pe pr lv sv a ca hc hl
  exact right0_ok w d h1 h2 h3 h4 h5 p dr n code bu pe pr lv sv a ca
end Go.Proofs.Ytnnpbbiiapipaaa
