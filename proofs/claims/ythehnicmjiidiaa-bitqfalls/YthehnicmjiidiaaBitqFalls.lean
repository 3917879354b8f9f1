/-
  For every size and every deeds BitqFalls answers true: what is popped one behind the other falls in level, and is all that was there, each once. No condition.
-/
import Derived.Test.YthehnicmjiidiaaRows
import Derived.Test.YthehnicmjiidiaaE4
import Derived.WalkKit
import Derived.ProofKit
import Derived.OpenShut
import Derived.RowKit3
import Derived.Laws.Cover2
import Derived.Laws.IdiomArrays
import Derived.ChangeOld
import Derived.Below
import Derived.Carry
import Derived.Lib.SmallJoins
namespace Go.Proofs.Ythehnicmjiidiaa.bitqFalls
open Go.ChangeShapes Go.WideShapes Go.ChangeAt Go.RowKit
set_option linter.unusedVariables false

theorem own : ownKnob Try.prog.godebug = none := by kernel_rfl
theorem laidOut : laidOutB Try.prog = true := by kernel_rfl
open Go.Lib
set_option maxHeartbeats 8000000 in
theorem way (m : Nat) (hm : m < 256) (a : Option Addr) (len cap : Nat) (X Y : Nat → Int) (Z : Nat → Nat) (w : World) (hlen : len < 9223372036854775808) (hd : Deeds w a len X Y Z) :
    Calls Try.prog 4 #[.int .u8 m, .slice a len cap] w fun e w' => e = .returned (.bool true) ∧ Below w.heap.size w w' := by
  have HP := veil (play_ok w m hm a len cap hlen X Y Z hd)
  clear hd
  have hN : m % 12 + 1 ≤ 12 := by omega
  generalize m % 12 + 1 = N at *
  go_enter Try.func4, Try.ntmps4
  go_wp2_with (go_at_call 10; refine (HP.out).mono ?_; rintro e w1 ⟨b, g, rb, base, v, R, rfl, h1, h2, h3, h4, hB, hL⟩; have HQ := veil hB.q; have HL := veil hL; clear hB hL h3 h4)
  have hmany : R.length ≤ 12 := by have := HQ.out.len_le; omega
  go_wp2_with (first
    | (go_at_call 11; refine (live_queue _).mono ?_; rintro e w2 ⟨rfl, hb2⟩; have HQ2 := veil (HQ.out.below hb2); have HL2 := veil (HL.out.trans (hb2.mono HL.out.size)); clear hb2)
    | (go_at_call 13; refine (len_is _ b g N R HQ2.out).mono ?_; rintro e w3 ⟨rfl, hw⟩; replace hw := hw.symm; subst hw))
  have hids := HQ2.out.ids
  have HS : Hid (IsQ (w2.alloc (.cells (Array.replicate 12 (.bool false)) 33)) b g N R ∧ Below w.heap.size w (w2.alloc (.cells (Array.replicate 12 (.bool false)) 33)) ∧ (∀ k, k < 12 → (w2.alloc (.cells (Array.replicate 12 (.bool false)) 33)).cell? ⟨w2.heap.size, k, none⟩ = some (.bool false)) ∧ (∀ k, (w2.alloc (.cells (Array.replicate 12 (.bool false)) 33)).frozen? ⟨w2.heap.size, k, none⟩ = false)) := by
    refine ⟨HQ2.out.below ((Below.refl _ _).alloc (Nat.le_refl _) _), HL2.out.alloc HL2.out.size _, fun k hk => ?_, fun k => frozen_new _ _ _ _⟩
    rw [cell_new]
    simp [hk]
  have hsb : b < w2.heap.size ∧ g < w2.heap.size := ⟨HQ2.out.blocks.1, HQ2.out.blocks.2.1⟩
  have hws : w.heap.size ≤ w2.heap.size := HL2.out.size
  clear HQ HL HQ2 HL2 HP
  generalize hK : R.length = K at *
  generalize w2.heap.size = sb at *
  have HI := veil hids
  have HK := veil hK
  clear hids hK
  go_loopw [10, 11] (fun la i wr => ∃ (j last : Nat) (Q : List (Nat × Nat)) (S : Nat → Bool), j ≤ K ∧ i = .int .i64 j ∧ la = .int .i64 last ∧ last ≤ 256 ∧ Q.length = K - j ∧ (∀ it ∈ Q, it.2 ≤ last ∧ S it.1 = false) ∧ IsQ wr b g N Q ∧ Below w.heap.size w wr ∧ (∀ k, k < 12 → wr.cell? ⟨sb, k, none⟩ = some (.bool (S k))) ∧ (∀ k, wr.frozen? ⟨sb, k, none⟩ = false)) (fun _ i _ => K - (intOf i).toNat)
  case atStart =>
    obtain ⟨s1, s2, s3, s4⟩ := HS.out
    refine ⟨0, 256, R, fun _ => false, by omega, rfl, rfl, by omega, by rw [HK.out]; omega, fun it hit => ⟨?_, rfl⟩, s1, s2, s3, s4⟩
    have := (s1.rng it hit).2
    omega
  case round =>
    obtain ⟨j, last, Q, S, hj, rfl, rfl, hla, hQl, hQa, hQ, hbel, hS, hF⟩ := hrel
    by_cases hjK : j < K
    · obtain ⟨lv, id, R1, R2, rfl, hlo, hhi, hlv, hid, hpop⟩ := pop_best N Q (by rintro rfl; simp at hQl; omega) hQ.ids hQ.rng
      have hthis := hQa (id, lv) (by simp)
      have hlast : lv ≤ last := hthis.1
      have hid12 : id < 12 := by omega
      have e0 := hS id hid12
      rw [hthis.2] at e0
      have f0 := hF id
      have HPo := veil (hpop wr b g hQ)
      have HN : Hid (∀ w4, IsQ w4 b g N (R1 ++ R2) → Fr (fun k => k = b ∨ k = g) wr w4 → (w4.cell? ⟨sb, id, none⟩ = some (.bool false) ∧ w4.frozen? ⟨sb, id, none⟩ = false ∧
          IsQ (w4.setCell ⟨sb, id, none⟩ (.bool true)) b g N (R1 ++ R2) ∧ Below w.heap.size w (w4.setCell ⟨sb, id, none⟩ (.bool true)) ∧ (∀ k, k < 12 → (w4.setCell ⟨sb, id, none⟩ (.bool true)).cell? ⟨sb, k, none⟩ = some (.bool (upd S id true k))) ∧ (∀ k, (w4.setCell ⟨sb, id, none⟩ (.bool true)).frozen? ⟨sb, k, none⟩ = false))) := by
        intro w4 hq4 hf4
        have hlt : sb < wr.heap.size := World.block_lt_of_cell? wr _ e0
        have hns : ¬ (sb = b ∨ sb = g) := by omega
        have hc : ∀ k, w4.cell? ⟨sb, k, none⟩ = wr.cell? ⟨sb, k, none⟩ := fun k => hf4.cell (a := ⟨sb, k, none⟩) hlt hns
        have hz : ∀ k, w4.frozen? ⟨sb, k, none⟩ = wr.frozen? ⟨sb, k, none⟩ := fun k => hf4.frozen (a := ⟨sb, k, none⟩) hlt hns
        have hfs : Fr (fun k => k = sb) w4 (w4.setCell ⟨sb, id, none⟩ (.bool true)) := Fr.setCell (S := fun k => k = sb) (a := ⟨sb, id, none⟩) (Fr.refl _ _) rfl _
        refine ⟨(hc id).trans e0, (hz id).trans f0, hq4.frame hfs (by omega) (by omega), ?_, fun k hk => ?_, fun k => ?_⟩
        · exact (below_fr hbel (Nat.le_refl _) hf4 h1 h2).trans (hfs.below (Nat.le_trans hbel.size hf4.size) (fun k q => by omega))
        · by_cases e : k = id
          · subst e
            rw [upd_same]
            exact set_same _ _ _ _ ((hc k).trans (hS k hk))
          · rw [upd_other _ _ _ _ e, set_other _ _ _ _ _ _ (by omega), hc]
            exact hS k hk
        · rw [World.frozen?_setCell, hz]
          exact hF k
      have HA : Hid (∀ it ∈ R1 ++ R2, it.2 ≤ lv ∧ upd S id true it.1 = false) := by
        intro it hit
        rcases List.mem_append.1 hit with q | q
        · rw [upd_other _ _ _ _ (hlo it q).2]
          exact ⟨Nat.le_of_lt (hlo it q).1, (hQa it (List.mem_append_left _ q)).2⟩
        · rw [upd_other _ _ _ _ (hhi it q).2]
          exact ⟨(hhi it q).1, (hQa it (List.mem_append_right _ (List.mem_cons_of_mem _ q))).2⟩
      have HLn : Hid ((R1 ++ R2).length = K - (j + 1)) := by
        have := hQl
        simp at this ⊢
        unfold Hid
        omega
      clear hQ hbel hS hF hQa hQl hlo hhi hpop hthis
      have g1 : ¬ (last : Int) < (lv : Int) := by omega
      have g2 : ¬ (id : Int) < 0 := by omega
      have g3 : ¬ (12 : Int) ≤ (id : Int) := by omega
      go_wp2_with (go_at_call 14; refine (HPo.out).mono ?_; rintro e w4 ⟨rfl, hq4, hf4⟩; obtain ⟨p1, p2, p3⟩ := HN.out _ hq4 hf4; have HX := veil p3; clear hq4 hf4 p3)
      go_roundw
      case rel => exact ⟨j + 1, lv, R1 ++ R2, upd S id true, by omega, by go_num, rfl, by omega, HLn.out, HA.out, HX.out.1, HX.out.2.1, HX.out.2.2.1, HX.out.2.2.2⟩
      case measure => simp [intOf]; omega
    · have hj' : j = K := by omega
      subst hj'
      have hR0 : Q = [] := List.length_eq_zero_iff.1 (by omega)
      subst hR0
      have HQ := veil hQ
      have HL := veil hbel
      clear hQ hbel hS hF hQa hQl
      go_wp2_with (first
        | (go_at_call 14; refine (pop_none _ b g N HQ.out).mono ?_; rintro e w5 ⟨rfl, hb5⟩; have HQ5 := veil (HQ.out.below hb5); have HL5 := veil (HL.out.trans (hb5.mono HL.out.size)); clear hb5)
        | (go_at_call 13; refine (len_is _ b g N [] HQ5.out).mono ?_; rintro e w6 ⟨rfl, hw⟩; replace hw := hw.symm; subst hw)
        | (go_at_call 15; refine (mask_empty _ b g N HQ5.out).mono ?_; rintro e w6 ⟨rfl, d6, hw⟩; subst hw))
      go_ret
      exact ⟨by simp, HL5.out.alloc HL5.out.size _⟩

set_option maxHeartbeats 1000000 in
theorem walk (a0 : Int) (a1 : Option Addr) (len1 cap1 : Nat) (X1 Y1 : Nat → Int) (Z1 : Nat → Nat) (w : World) (w0 : (Lit.int .u8 a0).wf = true) (n1 : len1 < 9223372036854775808) (w1 : Deeds w a1 len1 X1 Y1 Z1) :
    Calls Try.prog 4 #[.int .u8 a0, .slice a1 len1 cap1] w fun e w' => e = .returned (.bool true) ∧ Below w.heap.size w w' := by
  obtain ⟨l0, m0⟩ := bounds_u8 w0
  obtain ⟨M, rfl⟩ := Int.eq_ofNat_of_zero_le l0
  exact way M (by omega) a1 len1 cap1 X1 Y1 Z1 w n1 w1

set_option maxHeartbeats 1000000 in
set_option maxRecDepth 100000 in
theorem lifted (os : Os) (started : os.Started) (H : Type) (enc : TypeId × Value → H) :
    ReturnsInHanded {} Try.checked os 4 .any (Rows.bitqFallsSpec.pre6 enc Try.prog Try.f4 Rows.bitqFallsRow.domain false) (Rows.bitqFallsSpec.post enc Try.prog Try.f4 false true false false) := by
  refine returnsInHanded_of_change (C := Try.checked) own started (by kernel_rfl) Try.func4
    (ChangeSpec.witness6 (enc := enc) (C := Try.checked) false ⟨#[], #[.int .u8 0, .slice none 0 0], []⟩ 8 (by kernel_rfl) (by kernel_rfl) (by kernel_rfl) (by kernel_rfl)) ?_
  intro W base args ds gs before hval0 hW hcnd _
  have hval : ∀ (j : Nat) t v, Try.f4.params[j]? = some t → args[j]? = some v → Value.okWide Try.prog W .any base t v := hval0
  have hW' := hW
  obtain ⟨p, q, hA0, hV, rfl, hfz, hnd⟩ := hW
  have hA : DataW.TrodAll enc Try.prog W 0 (fun _ => true) true Try.f4.params.toList args.toList ds p := hA0
  rw [Try.params4] at hA hval
  obtain ⟨v0, vs0, d0, ds0, p0, q0, hargs, rfl, rfl, h0, r0⟩ := trodAll_cons hA
  obtain ⟨v1, vs1, d1, ds1, p1, q1, rfl, rfl, rfl, h1, r1⟩ := trodAll_cons r0
  obtain ⟨rfl, rfl, rfl⟩ := trodAll_nil r1
  obtain rfl : args = #[v0, v1] := by cases args; simp_all
  obtain ⟨rfl, rfl⟩ := trodVars_none hV
  have k0 := h0
  have lt0 : ∀ x ∈ p0, x.block < W.heap.size := by obtain ⟨m, hm⟩ := k0; exact DataW.trod_lt m _ _ _ hm
  obtain ⟨a0, rfl, rfl, rfl, w0⟩ := open_int Try.underlying5 (hval 0 5 v0 rfl rfl) h0
  have k1 := h1
  have lt1 : ∀ x ∈ p1, x.block < W.heap.size := by obtain ⟨m, hm⟩ := k1; exact DataW.trod_lt m _ _ _ hm
  obtain ⟨a1, len1, cap1, rfl⟩ := okWide_slice Try.underlying22 (hval 1 22 v1 rfl rfl)
  obtain ⟨n1, X1, Y1, Z1, w1⟩ : len1 < 9223372036854775808 ∧ ∃ (X Y : Nat → Int) (Z : Nat → Nat), Deeds W a1 len1 X Y Z := by
    obtain ⟨fuel, hf⟩ := h1
    exact open_deeds Try.underlying22 Try.underlying24 rfl rfl rfl rfl rfl rfl Try.underlying3 Try.underlying5 (by kernel_rfl) (by kernel_rfl) (by kernel_rfl) hf
  clear hA0 hval0
  refine (walk a0 a1 len1 cap1 X1 Y1 Z1 W w0 n1 w1).mono fun e W' ⟨he, bel⟩ => ?_
  subst he
  exact ⟨_, rfl, _, _, _, [], _, [], hW', trodAll_mk1 (shut_bool Try.underlying4 _), (trodAll_cons_mk (Below.trod laidOut (by kernel_rfl) (of_decide_eq_true (by kernel_rfl)) k0 bel lt0) (trodAll_cons_mk (Below.trod laidOut (by kernel_rfl) (of_decide_eq_true (by kernel_rfl)) k1 bel lt1) trodAll_mk0)), rfl, bel.frame _, fun h => by cases h⟩

theorem over : Rows.bitqFallsRow.holds Try.pinned (OpenSpec.ofChange Rows.bitqFallsSpec) :=
  OpenClaim.holds_of_wide 4 Try.f4 rfl rfl rfl rfl rfl rfl rfl ⟨rfl, rfl, rfl, rfl, rfl⟩ rfl rfl rfl rfl rfl (by kernel_rfl) Try.func4 (by kernel_rfl)
    (of_decide_eq_true (by kernel_rfl)) (by unfold Func.isWrapper; first | (rw [if_pos (by decide +kernel)]; kernel_rfl) | (rw [if_neg (by decide +kernel)]; exact ⟨rfl, rfl⟩))
    (fun os started H enc _ => lifted os started H enc)
end Go.Proofs.Ythehnicmjiidiaa.bitqFalls
namespace Go.Proofs.Ythehnicmjiidiaa
/-- The statement. -/
theorem bitqFalls_holds : Rows.BitqFallsSaid := bitqFalls.over
#print axioms bitqFalls_holds
end Go.Proofs.Ythehnicmjiidiaa
