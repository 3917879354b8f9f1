/-
  For every size and every deeds BitqMask answers true: the highest bit of the mask is the top's level, and a bit is set just where a level has one. No condition.
-/
import Derived.Test.YthehnicmjiidiaaRows
import Derived.Test.YthehnicmjiidiaaE9
import Derived.WalkKit
import Derived.ProofKit
import Derived.OpenShut
import Derived.RowKit3
import Derived.Laws.Cover2
import Derived.Laws.IdiomArrays
import Derived.ChangeOld
import Derived.Below
import Derived.Carry
import Derived.Lib.SmallJoins
namespace Go.Proofs.Ythehnicmjiidiaa.bitqMask
open Go.ChangeShapes Go.WideShapes Go.ChangeAt Go.RowKit
set_option linter.unusedVariables false

theorem own : ownKnob Try.prog.godebug = none := by kernel_rfl
theorem laidOut : laidOutB Try.prog = true := by kernel_rfl
open Go.Lib
/-- How many stand at the levels below j. -/
def cnt (R : List (Nat × Nat)) : Nat → Nat
  | 0 => 0
  | j + 1 => cnt R j + (idsOf R j).length
theorem cnt_filter (R : List (Nat × Nat)) : ∀ j, cnt R j = (R.filter (fun it => decide (it.2 < j))).length
  | 0 => by rw [List.filter_eq_nil_iff.2 (fun it _ => by simp)]; rfl
  | j + 1 => by
    have e : (idsOf R j).length = (R.filter (fun it => it.2 == j)).length := by unfold idsOf QL; simp
    rw [cnt, cnt_filter R j, e]
    clear e
    induction R with
    | nil => rfl
    | cons it R ih =>
      simp only [List.filter_cons]
      by_cases h1 : it.2 < j
      · have h2 : ¬ it.2 = j := by omega
        have h3 : it.2 < j + 1 := by omega
        simp [h1, h2, h3] at ih ⊢
        omega
      · by_cases h2 : it.2 = j
        · have h3 : it.2 < j + 1 := by omega
          simp [h2] at ih ⊢
          omega
        · have h3 : ¬ it.2 < j + 1 := by omega
          simp [h1, h2, h3] at ih ⊢
          omega
theorem cnt_all (R : List (Nat × Nat)) (h : ∀ it ∈ R, it.2 < 256) : cnt R 256 = R.length := by
  rw [cnt_filter, List.filter_eq_self.2 (fun it hit => by simpa using h it hit)]
theorem cnt_le (R : List (Nat × Nat)) (j : Nat) : cnt R j ≤ R.length := by rw [cnt_filter]; exact List.length_filter_le _ _
theorem bit_is (x t : Nat) (hx : x < 18446744073709551616) : (bits .and .u64 ((x : Int) / 2 ^ t) 1 == 1) = x.testBit t := by
  have hd : x / 2 ^ t < 18446744073709551616 := Nat.lt_of_le_of_lt (Nat.div_le_self _ _) hx
  have e : ((x : Int) / 2 ^ t) = ((x / 2 ^ t : Nat) : Int) := by simp
  have e1 : (1 : Int) = ((1 : Nat) : Int) := rfl
  rw [e, e1, bits_and_u64_nat _ 1 hd (by decide), Nat.testBit_eq_decide_div_mod_eq, Nat.and_one_is_mod]
  by_cases h : x / 2 ^ t % 2 = 1
  · simp [h]
  · have h' : x / 2 ^ t % 2 = 0 := by omega
    simp [h']
theorem bit_ids {R : List (Nat × Nat)} {m : Nat → Nat} (h : MaskOf R m) (k : Nat) (hk : k < 256) : (m (k / 64)).testBit (k % 64) = decide (0 < (idsOf R k).length) := by
  rw [Bool.eq_iff_iff, h.2 k hk, decide_eq_true_iff]
  unfold idsOf
  rw [List.length_map]
  constructor
  · rintro ⟨it, a, b⟩
    exact List.length_pos_of_mem (mem_QL.2 ⟨it, a, b, rfl⟩)
  · intro q
    obtain ⟨s, hs⟩ := List.exists_mem_of_length_pos q
    obtain ⟨it, a, b, _⟩ := mem_QL.1 hs
    exact ⟨it, a, b⟩
theorem mask_hi {w : World} {b g n : Nat} {R : List (Nat × Nat)} (h : IsQ w b g n R) : ∃ m, MaskOf R m ∧ (∀ lv, Best R lv → hiBit (m 0) (m 1) (m 2) (m 3) = (lv : Int)) ∧ (R = [] → hiBit (m 0) (m 1) (m 2) (m 3) = -1) := by
  obtain ⟨hn, F, L, m, c, A, B, V, T, hr, hv⟩ := h
  exact ⟨m, inv_mask hv, fun lv hb => hi_best hv hb, fun e => by subst e; exact hi_nobody hv⟩
set_option maxHeartbeats 4000000 in
set_option maxRecDepth 100000 in
theorem way (m : Nat) (hm : m < 256) (a : Option Addr) (len cap : Nat) (X Y : Nat → Int) (Z : Nat → Nat) (w : World) (hlen : len < 9223372036854775808) (hd : Deeds w a len X Y Z) :
    Calls Try.prog 6 #[.int .u8 m, .slice a len cap] w fun e w' => e = .returned (.bool true) ∧ Below w.heap.size w w' := by
  have HP := veil (play_ok w m hm a len cap hlen X Y Z hd)
  clear hd
  generalize m % 12 + 1 = N at *
  go_enter Try.func6, Try.ntmps6
  go_wp2_with (go_at_call 10; refine (HP.out).mono ?_; rintro e w1 ⟨b, g, rb, base, v, R, rfl, h1, h2, h3, h4, hB, hL⟩; have HQ := veil hB.q; have HL := veil hL; clear hB hL h3 h4 HP)
  obtain ⟨M, hM, hbest, hnone⟩ := mask_hi HQ.out
  have htop : ∃ (l i : Nat) (ok : Bool), TopsQ N R l i ok ∧ l < 256 ∧ hiBit (M 0) (M 1) (M 2) (M 3) = (if ok then (l : Int) else -1) := by
    by_cases hR : R = []
    · exact ⟨0, 0, false, by subst hR; exact tops_nil N, by decide, hnone hR⟩
    · obtain ⟨lv, id, rest, hb, hq⟩ := best_exists R hR (fun it hit => (HQ.out.rng it hit).2)
      exact ⟨lv, id, true, tops_best hb hq, hb.1, hbest lv hb⟩
  obtain ⟨l, i, ok, hT, hl256, hhi⟩ := htop
  have HT := veil hT
  have HM := veil hM
  have HLn := veil (cnt_all R (fun it hit => (HQ.out.rng it hit).2))
  have hRl : R.length ≤ 1024 := by have := HQ.out.len_le; omega
  clear hT hM hbest hnone
  go_wp2_with (first
    | (go_at_call 11; refine (live_queue _).mono ?_; rintro e w2 ⟨rfl, hb2⟩; have HQ2 := veil (HQ.out.below hb2); have HL2 := veil (HL.out.trans (hb2.mono HL.out.size)); clear hb2 HQ HL)
    | (go_at_call 15; refine (mask_ok HQ2.out M HM.out).mono ?_; rintro e w3 ⟨rfl, hb3⟩; have HQ3 := veil ((HQ2.out.below hb3).below ((Below.refl w3.heap.size w3).alloc (Nat.le_refl _) (.cells #[.int .u64 (M 0), .int .u64 (M 1), .int .u64 (M 2), .int .u64 (M 3)] 37))); have HL3 := veil ((HL2.out.trans (hb3.mono HL2.out.size)).alloc (Nat.le_trans HL2.out.size hb3.size) (.cells #[.int .u64 (M 0), .int .u64 (M 1), .int .u64 (M 2), .int .u64 (M 3)] 37)); have hw3 := Nat.le_trans HL2.out.size hb3.size; clear hb3 HQ2 HL2))
  have HC3 : Hid (∀ k, k < 4 → (w3.alloc (.cells #[.int .u64 (M 0), .int .u64 (M 1), .int .u64 (M 2), .int .u64 (M 3)] 37)).cell? ⟨w3.heap.size, k, none⟩ = some (.int .u64 (M k))) := by
    intro k hk
    rw [cell_new]
    have : k = 0 ∨ k = 1 ∨ k = 2 ∨ k = 3 := by omega
    rcases this with rfl | rfl | rfl | rfl <;> rfl
  go_wp2_with (go_at_call 16; refine (HT.out _ b g HQ3.out).mono ?_; rintro e w4 ⟨rfl, hb4⟩; have HQ4 := veil (HQ3.out.below hb4); have HL4 := veil (HL3.out.trans (hb4.mono HL3.out.size)); have HC4 : Hid (∀ k, k < 4 → w4.cell? ⟨w3.heap.size, k, none⟩ = some (.int .u64 (M k))) := (fun k hk => (hb4.cell (p := ⟨w3.heap.size, k, none⟩) (by simp)).trans (HC3.out k hk)); clear hb4 HQ3 HL3 HC3)
  generalize w3.heap.size = sb at *
  go_loopw [12, 13] (fun mn i wr => ∃ j : Nat, j ≤ 256 ∧ i = .int .i64 j ∧ mn = .int .i64 (cnt R j) ∧ IsQ wr b g N R ∧ Below w.heap.size w wr ∧ (∀ k, k < 4 → wr.cell? ⟨sb, k, none⟩ = some (.int .u64 (M k)))) (fun _ i _ => 256 - (intOf i).toNat)
  case atStart => exact ⟨0, by omega, rfl, rfl, HQ4.out, HL4.out, HC4.out⟩
  case round =>
    obtain ⟨j, hj, rfl, rfl, hQ, hbel, hC⟩ := hrel
    by_cases hjl : j < 256
    · have hsb : sb < wr.heap.size := World.block_lt_of_cell? wr _ (hC 0 (by omega))
      have hbit := bit_is (M (j / 64)) (j % 64) (HM.out.1 _ (by omega))
      rw [bit_ids HM.out j hjl] at hbit
      have hcj : cnt R (j + 1) = cnt R j + (idsOf R j).length := rfl
      have hcl := cnt_le R j
      have hll := idsOf_len R j
      have HQ := veil hQ
      have HL := veil hbel
      have HC := veil hC
      have HLi := veil (list_il b g N j R wr hQ hjl)
      clear hQ hbel hC
      generalize idsOf R j = xs at *
      have HCJ := veil hcj
      clear hcj
      generalize cnt R j = c at *
      have HBit := veil hbit
      clear hbit hlen hm
      by_cases hx : 0 < xs.length
      all_goals
        go_wp2_with (go_at_call 17; refine (HLi.out).mono ?_; rintro e w5 ⟨v5, rfl, hil, hb5⟩; obtain ⟨a5, c5, rfl⟩ := hil.slice; have HQ5 := veil (HQ.out.below hb5); have HL5 := veil (HL.out.trans (hb5.mono HL.out.size)); have HC5 : Hid (∀ k, k < 4 → w5.cell? ⟨sb, k, none⟩ = some (.int .u64 (M k))) := (fun k hk => (hb5.cell (p := ⟨sb, k, none⟩) hsb).trans (HC.out k hk)); have e5 := HC5.out (j / 64) (by omega); clear hil hb5)
        all_goals first
          | (exfalso; rename_i hz; rw [HBit.out] at hz; simp [hx] at hz; done)
          | (go_roundw
             case rel => exact ⟨j + 1, by omega, by go_num, by rw [HCJ.out]; go_num, HQ5.out, HL5.out, HC5.out⟩
             case measure => simp [intOf]; omega)
    · have hj' : j = 256 := by omega
      subst hj'
      have hb0 := w64_nat _ (HM.out.1 0 (by omega)); have hb1 := w64_nat _ (HM.out.1 1 (by omega)); have hb2 := w64_nat _ (HM.out.1 2 (by omega)); have hb3 := w64_nat _ (HM.out.1 3 (by omega))
      have HH : Hid (∀ w, Calls Try.prog 18 #[.agg #[.int .u64 (M 0), .int .u64 (M 1), .int .u64 (M 2), .int .u64 (M 3)]] w fun e w' => e = .returned (.int .i64 (if ok then (l : Int) else -1)) ∧ Below w.heap.size w w') := by
        intro w
        have := rhighest_any (M 0) (M 1) (M 2) (M 3) w hb0 hb1 hb2 hb3
        rw [hhi] at this
        refine this.mono ?_
        rintro e w' ⟨he, c, rfl⟩
        exact ⟨he, (Below.refl _ _).alloc (Nat.le_refl _) _⟩
      have HQ := veil hQ
      have HL := veil hbel
      have c0 := hC 0 (by omega); have c1 := hC 1 (by omega); have c2 := hC 2 (by omega); have c3 := hC 3 (by omega)
      have hcnt := HLn.out
      clear hQ hbel hC hb0 hb1 hb2 hb3 hhi
      generalize cnt R 256 = c at *
      subst hcnt
      cases ok
      all_goals
        simp only [if_true, if_false, Bool.false_eq_true] at HH
        go_wp2_with (first
          | (go_at_call 13; refine (len_is _ b g N R HQ.out).mono ?_; rintro e w6 ⟨rfl, hw⟩; replace hw := hw.symm; subst hw)
          | (go_at_call 18; refine (HH.out _).mono ?_; rintro e w7 ⟨rfl, hb7⟩; have HL7 := veil (HL.out.trans (hb7.mono HL.out.size)); clear hb7))
        go_ret
        exact ⟨by simp, HL7.out⟩

set_option maxHeartbeats 1000000 in
theorem walk (a0 : Int) (a1 : Option Addr) (len1 cap1 : Nat) (X1 Y1 : Nat → Int) (Z1 : Nat → Nat) (w : World) (w0 : (Lit.int .u8 a0).wf = true) (n1 : len1 < 9223372036854775808) (w1 : Deeds w a1 len1 X1 Y1 Z1) :
    Calls Try.prog 6 #[.int .u8 a0, .slice a1 len1 cap1] w fun e w' => e = .returned (.bool true) ∧ Below w.heap.size w w' := by
  obtain ⟨l0, m0⟩ := bounds_u8 w0
  obtain ⟨M, rfl⟩ := Int.eq_ofNat_of_zero_le l0
  exact way M (by omega) a1 len1 cap1 X1 Y1 Z1 w n1 w1

set_option maxHeartbeats 1000000 in
set_option maxRecDepth 100000 in
theorem lifted (os : Os) (started : os.Started) (H : Type) (enc : TypeId × Value → H) :
    ReturnsInHanded {} Try.checked os 6 .any (Rows.bitqMaskSpec.pre6 enc Try.prog Try.f6 Rows.bitqMaskRow.domain false) (Rows.bitqMaskSpec.post enc Try.prog Try.f6 false true false false) := by
  refine returnsInHanded_of_change (C := Try.checked) own started (by kernel_rfl) Try.func6
    (ChangeSpec.witness6 (enc := enc) (C := Try.checked) false ⟨#[], #[.int .u8 0, .slice none 0 0], []⟩ 8 (by kernel_rfl) (by kernel_rfl) (by kernel_rfl) (by kernel_rfl)) ?_
  intro W base args ds gs before hval0 hW hcnd _
  have hval : ∀ (j : Nat) t v, Try.f6.params[j]? = some t → args[j]? = some v → Value.okWide Try.prog W .any base t v := hval0
  have hW' := hW
  obtain ⟨p, q, hA0, hV, rfl, hfz, hnd⟩ := hW
  have hA : DataW.TrodAll enc Try.prog W 0 (fun _ => true) true Try.f6.params.toList args.toList ds p := hA0
  rw [Try.params6] at hA hval
  obtain ⟨v0, vs0, d0, ds0, p0, q0, hargs, rfl, rfl, h0, r0⟩ := trodAll_cons hA
  obtain ⟨v1, vs1, d1, ds1, p1, q1, rfl, rfl, rfl, h1, r1⟩ := trodAll_cons r0
  obtain ⟨rfl, rfl, rfl⟩ := trodAll_nil r1
  obtain rfl : args = #[v0, v1] := by cases args; simp_all
  obtain ⟨rfl, rfl⟩ := trodVars_none hV
  have k0 := h0
  have lt0 : ∀ x ∈ p0, x.block < W.heap.size := by obtain ⟨m, hm⟩ := k0; exact DataW.trod_lt m _ _ _ hm
  obtain ⟨a0, rfl, rfl, rfl, w0⟩ := open_int Try.underlying5 (hval 0 5 v0 rfl rfl) h0
  have k1 := h1
  have lt1 : ∀ x ∈ p1, x.block < W.heap.size := by obtain ⟨m, hm⟩ := k1; exact DataW.trod_lt m _ _ _ hm
  obtain ⟨a1, len1, cap1, rfl⟩ := okWide_slice Try.underlying22 (hval 1 22 v1 rfl rfl)
  obtain ⟨n1, X1, Y1, Z1, w1⟩ : len1 < 9223372036854775808 ∧ ∃ (X Y : Nat → Int) (Z : Nat → Nat), Deeds W a1 len1 X Y Z := by
    obtain ⟨fuel, hf⟩ := h1
    exact open_deeds Try.underlying22 Try.underlying24 rfl rfl rfl rfl rfl rfl Try.underlying3 Try.underlying5 (by kernel_rfl) (by kernel_rfl) (by kernel_rfl) hf
  clear hA0 hval0
  refine (walk a0 a1 len1 cap1 X1 Y1 Z1 W w0 n1 w1).mono fun e W' ⟨he, bel⟩ => ?_
  subst he
  exact ⟨_, rfl, _, _, _, [], _, [], hW', trodAll_mk1 (shut_bool Try.underlying4 _), (trodAll_cons_mk (Below.trod laidOut (by kernel_rfl) (of_decide_eq_true (by kernel_rfl)) k0 bel lt0) (trodAll_cons_mk (Below.trod laidOut (by kernel_rfl) (of_decide_eq_true (by kernel_rfl)) k1 bel lt1) trodAll_mk0)), rfl, bel.frame _, fun h => by cases h⟩

theorem over : Rows.bitqMaskRow.holds Try.pinned (OpenSpec.ofChange Rows.bitqMaskSpec) :=
  OpenClaim.holds_of_wide 6 Try.f6 rfl rfl rfl rfl rfl rfl rfl ⟨rfl, rfl, rfl, rfl, rfl⟩ rfl rfl rfl rfl rfl (by kernel_rfl) Try.func6 (by kernel_rfl)
    (of_decide_eq_true (by kernel_rfl)) (by unfold Func.isWrapper; first | (rw [if_pos (by decide +kernel)]; kernel_rfl) | (rw [if_neg (by decide +kernel)]; exact ⟨rfl, rfl⟩))
    (fun os started H enc _ => lifted os started H enc)
end Go.Proofs.Ythehnicmjiidiaa.bitqMask
namespace Go.Proofs.Ythehnicmjiidiaa
/-- The statement. -/
theorem bitqMask_holds : Rows.BitqMaskSaid := bitqMask.over
#print axioms bitqMask_holds
end Go.Proofs.Ythehnicmjiidiaa
