/-
  script: the document's Right walked.
-/
import Derived.Test.YtnnpbbiiapipaaaS4r
namespace Go.Proofs.Ytnnpbbiiapipaaa
open Go.RowKit Go.Lib
set_option linter.unusedVariables false
/-- An answer of yes and no, kept shut. -/
def Ans (P : Prop) (w : World) (e : Ending) (w' : World) : Prop := ∃ B : Bool, e = .returned (.bool B) ∧ (B = true ↔ P) ∧ Below w.heap.size w w'
theorem right_bare (x : En) : RightE x ↔ BareE x ∧ ((x.d = 1 ∧ 0 ≤ x.p ∧ x.p ≤ 255) ∨ (x.d = 2 ∧ 1 ≤ x.n ∧ x.n ≤ 65535) ∨ (x.d = 3 ∧ RtC x.code) ∨ x.d = 4 ∨ (x.d = 5 ∧ 0 ≤ x.pr ∧ x.pr ≤ 255 ∧ -1 ≤ x.sv ∧ x.sv ≤ 254)) := by
  constructor
  · rintro (⟨e, h1, h2⟩ | ⟨e, h1, h2⟩ | ⟨e, h1⟩ | e | ⟨e, h1, h2, h3, h4⟩)
    · refine ⟨?_, .inl ⟨congrArg En.d e, h1, h2⟩⟩
      rw [e]
      simp [BareE, mkStep]
    · refine ⟨?_, .inr (.inl ⟨congrArg En.d e, h1, h2⟩)⟩
      rw [e]
      simp [BareE, mkTick]
    · refine ⟨?_, .inr (.inr (.inl ⟨congrArg En.d e, h1⟩))⟩
      rw [e]
      simp [BareE, mkLoad]
    · refine ⟨?_, .inr (.inr (.inr (.inl (congrArg En.d e))))⟩
      rw [e]
      simp [BareE, mkAdmit]
    · refine ⟨?_, .inr (.inr (.inr (.inr ⟨congrArg En.d e, h1, h2, h3, h4⟩)))⟩
      rw [e]
      simp [BareE, mkStart]
  · obtain ⟨d, p, dr, n, code, bu, pe, pr, lv, sv⟩ := x
    rintro ⟨⟨b1, b2, b3, b4, b5⟩, h⟩
    simp only at b1 b2 b3 b4 b5 h
    rcases h with ⟨rfl, h1, h2⟩ | ⟨rfl, h1, h2⟩ | ⟨rfl, h1⟩ | rfl | ⟨rfl, h1, h2, h3, h4⟩
    · refine .inl ⟨?_, h1, h2⟩
      simp_all [mkStep]
    · refine .inr (.inl ⟨?_, h1, h2⟩)
      simp_all [mkTick]
    · refine .inr (.inr (.inl ⟨?_, h1⟩))
      simp_all [mkLoad]
    · refine .inr (.inr (.inr (.inl ?_)))
      simp_all [mkAdmit]
    · refine .inr (.inr (.inr (.inr ⟨?_, h1, h2, h3, h4⟩)))
      simp_all [mkStart]
set_option maxHeartbeats 2000000 in
theorem rright1_ok (w : World) (p : Int) (dr : Nat) (n : Int) (code : List (Int × Int)) (bu pe : Nat) (pr : Int) (lv : Nat) (sv : Int) (a : Option Addr) (ca : Nat) (hc : Cod w a code) (hl : code.length < 9223372036854775808) :
    Calls Try.prog 15 #[.agg #[.int .i64 1, .int .i64 p, .int .u64 (dr : Int), .int .i64 n, .slice a code.length ca, .int .u64 (bu : Int), .int .u64 (pe : Int), .int .i64 pr, .int .u8 (lv : Int), .int .i64 sv]] w fun e w' => ∃ B : Bool, e = .returned (.bool B) ∧ (B = true ↔ RightE (⟨1, p, dr, n, code, bu, pe, pr, lv, sv⟩ : En)) ∧ Below w.heap.size w w' := by
  change Calls _ _ _ _ (fun e w' => Ans (RightE (⟨1, p, dr, n, code, bu, pe, pr, lv, sv⟩ : En)) w e w')
  have HBA : Hid (∀ W, Calls Try.prog 26 #[.agg #[.int .i64 1, .int .i64 p, .int .u64 (dr : Int), .int .i64 n, .slice a code.length ca, .int .u64 (bu : Int), .int .u64 (pe : Int), .int .i64 pr, .int .u8 (lv : Int), .int .i64 sv]] W fun e w' => ∃ B : Bool, e = .returned (.bool B) ∧ (B = true ↔ BareE (⟨1, p, dr, n, code, bu, pe, pr, lv, sv⟩ : En)) ∧ Below W.heap.size W w') := fun W => bare_ok W (⟨1, p, dr, n, code, bu, pe, pr, lv, sv⟩ : En) a ca
  have HR := veil (right_bare (⟨1, p, dr, n, code, bu, pe, pr, lv, sv⟩ : En))
  clear hc
  generalize BareE _ = BE at HBA HR
  go_enter Try.func15, Try.ntmps15
  go_wp2_with (go_at_call 26; refine (HBA.out _).mono ?_; rintro e w1 ⟨B1, rfl, hB1, hb⟩; have HB1 := veil hB1; have HL1 := veil (((Below.refl _ _).alloc (Nat.le_refl _) _).trans (hb.mono (by simp))); have y0 := box_cell hb 0 _ rfl; have y1 := box_cell hb 1 _ rfl; have y2 := box_cell hb 2 _ rfl; have y3 := box_cell hb 3 _ rfl; have y4 := box_cell hb 4 _ rfl; have y5 := box_cell hb 5 _ rfl; have y6 := box_cell hb 6 _ rfl; have y7 := box_cell hb 7 _ rfl; have y8 := box_cell hb 8 _ rfl; have y9 := box_cell hb 9 _ rfl; clear hB1 hb)
  all_goals go_ret
  all_goals refine ⟨_, rfl, ?_, ?_⟩
  all_goals first
    | exact HL1.out
    | (rw [HR.out]
       have h1 := HB1.out
       try have h2 := HB2.out
       first
         | (simp_all; done)
         | (simp_all; intros; omega))
set_option maxHeartbeats 2000000 in
theorem rright2_ok (w : World) (p : Int) (dr : Nat) (n : Int) (code : List (Int × Int)) (bu pe : Nat) (pr : Int) (lv : Nat) (sv : Int) (a : Option Addr) (ca : Nat) (hc : Cod w a code) (hl : code.length < 9223372036854775808) :
    Calls Try.prog 15 #[.agg #[.int .i64 2, .int .i64 p, .int .u64 (dr : Int), .int .i64 n, .slice a code.length ca, .int .u64 (bu : Int), .int .u64 (pe : Int), .int .i64 pr, .int .u8 (lv : Int), .int .i64 sv]] w fun e w' => ∃ B : Bool, e = .returned (.bool B) ∧ (B = true ↔ RightE (⟨2, p, dr, n, code, bu, pe, pr, lv, sv⟩ : En)) ∧ Below w.heap.size w w' := by
  change Calls _ _ _ _ (fun e w' => Ans (RightE (⟨2, p, dr, n, code, bu, pe, pr, lv, sv⟩ : En)) w e w')
  have HBA : Hid (∀ W, Calls Try.prog 26 #[.agg #[.int .i64 2, .int .i64 p, .int .u64 (dr : Int), .int .i64 n, .slice a code.length ca, .int .u64 (bu : Int), .int .u64 (pe : Int), .int .i64 pr, .int .u8 (lv : Int), .int .i64 sv]] W fun e w' => ∃ B : Bool, e = .returned (.bool B) ∧ (B = true ↔ BareE (⟨2, p, dr, n, code, bu, pe, pr, lv, sv⟩ : En)) ∧ Below W.heap.size W w') := fun W => bare_ok W (⟨2, p, dr, n, code, bu, pe, pr, lv, sv⟩ : En) a ca
  have HR := veil (right_bare (⟨2, p, dr, n, code, bu, pe, pr, lv, sv⟩ : En))
  clear hc
  generalize BareE _ = BE at HBA HR
  go_enter Try.func15, Try.ntmps15
  go_wp2_with (go_at_call 26; refine (HBA.out _).mono ?_; rintro e w1 ⟨B1, rfl, hB1, hb⟩; have HB1 := veil hB1; have HL1 := veil (((Below.refl _ _).alloc (Nat.le_refl _) _).trans (hb.mono (by simp))); have y0 := box_cell hb 0 _ rfl; have y1 := box_cell hb 1 _ rfl; have y2 := box_cell hb 2 _ rfl; have y3 := box_cell hb 3 _ rfl; have y4 := box_cell hb 4 _ rfl; have y5 := box_cell hb 5 _ rfl; have y6 := box_cell hb 6 _ rfl; have y7 := box_cell hb 7 _ rfl; have y8 := box_cell hb 8 _ rfl; have y9 := box_cell hb 9 _ rfl; clear hB1 hb)
  all_goals go_ret
  all_goals refine ⟨_, rfl, ?_, ?_⟩
  all_goals first
    | exact HL1.out
    | (rw [HR.out]
       have h1 := HB1.out
       try have h2 := HB2.out
       first
         | (simp_all; done)
         | (simp_all; intros; omega))
set_option maxHeartbeats 2000000 in
theorem rright3_ok (w : World) (p : Int) (dr : Nat) (n : Int) (code : List (Int × Int)) (bu pe : Nat) (pr : Int) (lv : Nat) (sv : Int) (a : Option Addr) (ca : Nat) (hc : Cod w a code) (hl : code.length < 9223372036854775808) :
    Calls Try.prog 15 #[.agg #[.int .i64 3, .int .i64 p, .int .u64 (dr : Int), .int .i64 n, .slice a code.length ca, .int .u64 (bu : Int), .int .u64 (pe : Int), .int .i64 pr, .int .u8 (lv : Int), .int .i64 sv]] w fun e w' => ∃ B : Bool, e = .returned (.bool B) ∧ (B = true ↔ RightE (⟨3, p, dr, n, code, bu, pe, pr, lv, sv⟩ : En)) ∧ Below w.heap.size w w' := by
  change Calls _ _ _ _ (fun e w' => Ans (RightE (⟨3, p, dr, n, code, bu, pe, pr, lv, sv⟩ : En)) w e w')
  have HBA : Hid (∀ W, Calls Try.prog 26 #[.agg #[.int .i64 3, .int .i64 p, .int .u64 (dr : Int), .int .i64 n, .slice a code.length ca, .int .u64 (bu : Int), .int .u64 (pe : Int), .int .i64 pr, .int .u8 (lv : Int), .int .i64 sv]] W fun e w' => ∃ B : Bool, e = .returned (.bool B) ∧ (B = true ↔ BareE (⟨3, p, dr, n, code, bu, pe, pr, lv, sv⟩ : En)) ∧ Below W.heap.size W w') := fun W => bare_ok W (⟨3, p, dr, n, code, bu, pe, pr, lv, sv⟩ : En) a ca
  have HR := veil (right_bare (⟨3, p, dr, n, code, bu, pe, pr, lv, sv⟩ : En))
  have HK : Hid (∀ W, Below w.heap.size w W → Calls Try.prog 27 #[.slice a code.length ca] W fun e w' => ∃ x y : Int, e = .returned (.tuple #[.int .i64 x, .int .i64 y]) ∧ (x = 0 ↔ RtC code) ∧ Below W.heap.size W w') := fun W hb => (rcheck_ok W a code.length ca hl (cO code) (cR code) (hc.below hb)).mono fun e w' ⟨x, y, h1, h2, h3⟩ => ⟨x, y, h1, ⟨fun q => ⟨y, by rw [← q]; exact h2⟩, fun ⟨y', q⟩ => (h2.one q).1.symm⟩, h3⟩
  generalize BareE _ = BE at HBA HR
  clear hc
  go_enter Try.func15, Try.ntmps15
  go_wp2_with (first
    | (go_at_call 26; refine (HBA.out _).mono ?_; rintro e w1 ⟨B1, rfl, hB1, hb⟩; have HB1 := veil hB1; have HL1 := veil (((Below.refl _ _).alloc (Nat.le_refl _) _).trans (hb.mono (by simp))); have y0 := box_cell hb 0 _ rfl; have y1 := box_cell hb 1 _ rfl; have y2 := box_cell hb 2 _ rfl; have y3 := box_cell hb 3 _ rfl; have y4 := box_cell hb 4 _ rfl; have y5 := box_cell hb 5 _ rfl; have y6 := box_cell hb 6 _ rfl; have y7 := box_cell hb 7 _ rfl; have y8 := box_cell hb 8 _ rfl; have y9 := box_cell hb 9 _ rfl; clear hB1 hb)
    | (go_at_call 27; refine (HK.out _ HL1.out).mono ?_; rintro e w2 ⟨x, y, rfl, hk, hb⟩; have HB2 := veil hk; have HL2 := veil (HL1.out.trans (hb.mono HL1.out.size)); clear hk hb))
  all_goals go_ret
  all_goals refine ⟨_, rfl, ?_, ?_⟩
  all_goals first
    | exact HL1.out
    | exact HL2.out
    | (rw [HR.out]
       have h1 := HB1.out
       try have h2 := HB2.out
       first
         | (simp_all; done)
         | (simp_all; intros; omega))
set_option maxHeartbeats 2000000 in
theorem rright4_ok (w : World) (p : Int) (dr : Nat) (n : Int) (code : List (Int × Int)) (bu pe : Nat) (pr : Int) (lv : Nat) (sv : Int) (a : Option Addr) (ca : Nat) (hc : Cod w a code) (hl : code.length < 9223372036854775808) :
    Calls Try.prog 15 #[.agg #[.int .i64 4, .int .i64 p, .int .u64 (dr : Int), .int .i64 n, .slice a code.length ca, .int .u64 (bu : Int), .int .u64 (pe : Int), .int .i64 pr, .int .u8 (lv : Int), .int .i64 sv]] w fun e w' => ∃ B : Bool, e = .returned (.bool B) ∧ (B = true ↔ RightE (⟨4, p, dr, n, code, bu, pe, pr, lv, sv⟩ : En)) ∧ Below w.heap.size w w' := by
  change Calls _ _ _ _ (fun e w' => Ans (RightE (⟨4, p, dr, n, code, bu, pe, pr, lv, sv⟩ : En)) w e w')
  have HBA : Hid (∀ W, Calls Try.prog 26 #[.agg #[.int .i64 4, .int .i64 p, .int .u64 (dr : Int), .int .i64 n, .slice a code.length ca, .int .u64 (bu : Int), .int .u64 (pe : Int), .int .i64 pr, .int .u8 (lv : Int), .int .i64 sv]] W fun e w' => ∃ B : Bool, e = .returned (.bool B) ∧ (B = true ↔ BareE (⟨4, p, dr, n, code, bu, pe, pr, lv, sv⟩ : En)) ∧ Below W.heap.size W w') := fun W => bare_ok W (⟨4, p, dr, n, code, bu, pe, pr, lv, sv⟩ : En) a ca
  have HR := veil (right_bare (⟨4, p, dr, n, code, bu, pe, pr, lv, sv⟩ : En))
  clear hc
  generalize BareE _ = BE at HBA HR
  go_enter Try.func15, Try.ntmps15
  go_wp2_with (go_at_call 26; refine (HBA.out _).mono ?_; rintro e w1 ⟨B1, rfl, hB1, hb⟩; have HB1 := veil hB1; have HL1 := veil (((Below.refl _ _).alloc (Nat.le_refl _) _).trans (hb.mono (by simp))); have y0 := box_cell hb 0 _ rfl; have y1 := box_cell hb 1 _ rfl; have y2 := box_cell hb 2 _ rfl; have y3 := box_cell hb 3 _ rfl; have y4 := box_cell hb 4 _ rfl; have y5 := box_cell hb 5 _ rfl; have y6 := box_cell hb 6 _ rfl; have y7 := box_cell hb 7 _ rfl; have y8 := box_cell hb 8 _ rfl; have y9 := box_cell hb 9 _ rfl; clear hB1 hb)
  all_goals go_ret
  all_goals refine ⟨_, rfl, ?_, ?_⟩
  all_goals first
    | exact HL1.out
    | (rw [HR.out]
       have h1 := HB1.out
       try have h2 := HB2.out
       first
         | (simp_all; done)
         | (simp_all; intros; omega))
set_option maxHeartbeats 2000000 in
theorem rright5_ok (w : World) (p : Int) (dr : Nat) (n : Int) (code : List (Int × Int)) (bu pe : Nat) (pr : Int) (lv : Nat) (sv : Int) (a : Option Addr) (ca : Nat) (hc : Cod w a code) (hl : code.length < 9223372036854775808) :
    Calls Try.prog 15 #[.agg #[.int .i64 5, .int .i64 p, .int .u64 (dr : Int), .int .i64 n, .slice a code.length ca, .int .u64 (bu : Int), .int .u64 (pe : Int), .int .i64 pr, .int .u8 (lv : Int), .int .i64 sv]] w fun e w' => ∃ B : Bool, e = .returned (.bool B) ∧ (B = true ↔ RightE (⟨5, p, dr, n, code, bu, pe, pr, lv, sv⟩ : En)) ∧ Below w.heap.size w w' := by
  change Calls _ _ _ _ (fun e w' => Ans (RightE (⟨5, p, dr, n, code, bu, pe, pr, lv, sv⟩ : En)) w e w')
  have HBA : Hid (∀ W, Calls Try.prog 26 #[.agg #[.int .i64 5, .int .i64 p, .int .u64 (dr : Int), .int .i64 n, .slice a code.length ca, .int .u64 (bu : Int), .int .u64 (pe : Int), .int .i64 pr, .int .u8 (lv : Int), .int .i64 sv]] W fun e w' => ∃ B : Bool, e = .returned (.bool B) ∧ (B = true ↔ BareE (⟨5, p, dr, n, code, bu, pe, pr, lv, sv⟩ : En)) ∧ Below W.heap.size W w') := fun W => bare_ok W (⟨5, p, dr, n, code, bu, pe, pr, lv, sv⟩ : En) a ca
  have HR := veil (right_bare (⟨5, p, dr, n, code, bu, pe, pr, lv, sv⟩ : En))
  clear hc
  generalize BareE _ = BE at HBA HR
  go_enter Try.func15, Try.ntmps15
  go_wp2_with (go_at_call 26; refine (HBA.out _).mono ?_; rintro e w1 ⟨B1, rfl, hB1, hb⟩; have HB1 := veil hB1; have HL1 := veil (((Below.refl _ _).alloc (Nat.le_refl _) _).trans (hb.mono (by simp))); have y0 := box_cell hb 0 _ rfl; have y1 := box_cell hb 1 _ rfl; have y2 := box_cell hb 2 _ rfl; have y3 := box_cell hb 3 _ rfl; have y4 := box_cell hb 4 _ rfl; have y5 := box_cell hb 5 _ rfl; have y6 := box_cell hb 6 _ rfl; have y7 := box_cell hb 7 _ rfl; have y8 := box_cell hb 8 _ rfl; have y9 := box_cell hb 9 _ rfl; clear hB1 hb)
  all_goals go_ret
  all_goals refine ⟨_, rfl, ?_, ?_⟩
  all_goals first
    | exact HL1.out
    | (rw [HR.out]
       have h1 := HB1.out
       try have h2 := HB2.out
       first
         | (simp_all; done)
         | (simp_all; intros; omega))
set_option maxHeartbeats 2000000 in
theorem rright0_ok (w : World) (d : Int) (h1 : d ≠ 1) (h2 : d ≠ 2) (h3 : d ≠ 3) (h4 : d ≠ 4) (h5 : d ≠ 5) (p : Int) (dr : Nat) (n : Int) (code : List (Int × Int)) (bu pe : Nat) (pr : Int) (lv : Nat) (sv : Int) (a : Option Addr) (ca : Nat) :
    Calls Try.prog 15 #[.agg #[.int .i64 d, .int .i64 p, .int .u64 (dr : Int), .int .i64 n, .slice a code.length ca, .int .u64 (bu : Int), .int .u64 (pe : Int), .int .i64 pr, .int .u8 (lv : Int), .int .i64 sv]] w fun e w' => ∃ B : Bool, e = .returned (.bool B) ∧ (B = true ↔ RightE (⟨d, p, dr, n, code, bu, pe, pr, lv, sv⟩ : En)) ∧ Below w.heap.size w w' := by
  change Calls _ _ _ _ (fun e w' => Ans (RightE (⟨d, p, dr, n, code, bu, pe, pr, lv, sv⟩ : En)) w e w')
  have HR := veil (right_none' (x := (⟨d, p, dr, n, code, bu, pe, pr, lv, sv⟩ : En)) h1 h2 h3 h4 h5)
  have HBA : Hid (∀ W, Calls Try.prog 26 #[.agg #[.int .i64 d, .int .i64 p, .int .u64 (dr : Int), .int .i64 n, .slice a code.length ca, .int .u64 (bu : Int), .int .u64 (pe : Int), .int .i64 pr, .int .u8 (lv : Int), .int .i64 sv]] W fun e w' => ∃ B : Bool, e = .returned (.bool B) ∧ (B = true ↔ BareE (⟨d, p, dr, n, code, bu, pe, pr, lv, sv⟩ : En)) ∧ Below W.heap.size W w') := fun W => bare_ok W (⟨d, p, dr, n, code, bu, pe, pr, lv, sv⟩ : En) a ca
  have b1 : (d == 1) = false := by simpa using h1
  have b2 : (d == 2) = false := by simpa using h2
  have b3 : (d == 3) = false := by simpa using h3
  have b4 : (d == 4) = false := by simpa using h4
  have b5 : (d == 5) = false := by simpa using h5
  clear h1 h2 h3 h4 h5
  go_enter Try.func15, Try.ntmps15
  go_wp2_with (go_at_call 26; refine (HBA.out _).mono ?_; rintro e w1 ⟨B1, rfl, hB1, hb⟩; have HB1 := veil hB1; have HL1 := veil (((Below.refl _ _).alloc (Nat.le_refl _) _).trans (hb.mono (by simp))); have y0 := box_cell hb 0 _ rfl; have y1 := box_cell hb 1 _ rfl; have y2 := box_cell hb 2 _ rfl; have y3 := box_cell hb 3 _ rfl; have y4 := box_cell hb 4 _ rfl; have y5 := box_cell hb 5 _ rfl; have y6 := box_cell hb 6 _ rfl; have y7 := box_cell hb 7 _ rfl; have y8 := box_cell hb 8 _ rfl; have y9 := box_cell hb 9 _ rfl; clear hB1 hb)
  all_goals go_ret
  all_goals exact ⟨false, rfl, by simp [HR.out], HL1.out⟩
theorem rright_ok' (w : World) (x : En) (a : Option Addr) (ca : Nat) (hc : Cod w a x.code) (hl : x.code.length < 9223372036854775808) :
    Calls Try.prog 15 #[.agg #[.int .i64 x.d, .int .i64 x.p, .int .u64 (x.dr : Int), .int .i64 x.n, .slice a x.code.length ca, .int .u64 (x.bu : Int), .int .u64 (x.pe : Int), .int .i64 x.pr, .int .u8 (x.lv : Int), .int .i64 x.sv]] w fun e w' => ∃ B : Bool, e = .returned (.bool B) ∧ (B = true ↔ RightE x) ∧ Below w.heap.size w w' := by
  obtain ⟨d, p, dr, n, code, bu, pe, pr, lv, sv⟩ := x
  by_cases h1 : d = 1
  · subst h1; exact rright1_ok w p dr n code bu pe pr lv sv a ca hc hl
  by_cases h2 : d = 2
  · subst h2; exact rright2_ok w p dr n code bu pe pr lv sv a ca hc hl
  by_cases h3 : d = 3
  · subst h3; exact rright3_ok w p dr n code bu pe pr lv sv a ca hc hl
  by_cases h4 : d = 4
  · subst h4; exact rright4_ok w p dr n code bu pe pr lv sv a ca hc hl
  by_cases h5 : d = 5
  · subst h5; exact rright5_ok w p dr n code bu pe pr lv sv a ca hc hl
  exact rright0_ok w d h1 h2 h3 h4 h5 p dr n code bu pe pr lv sv a ca
end Go.Proofs.Ytnnpbbiiapipaaa
