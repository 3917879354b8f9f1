/-
  For every size and every deeds BitqFirst answers true: of the top level they are popped as they were pushed: its List, one by one. No condition.
-/
import Derived.Test.YthehnicmjiidiaaRows
import Derived.Test.YthehnicmjiidiaaE7
import Derived.WalkKit
import Derived.ProofKit
import Derived.OpenShut
import Derived.RowKit3
import Derived.Laws.Cover2
import Derived.Laws.IdiomArrays
import Derived.ChangeOld
import Derived.Below
import Derived.Carry
import Derived.Lib.SmallJoins
namespace Go.Proofs.Ythehnicmjiidiaa.bitqFirst
open Go.ChangeShapes Go.WideShapes Go.ChangeAt Go.RowKit
set_option linter.unusedVariables false

theorem own : ownKnob Try.prog.godebug = none := by kernel_rfl
theorem laidOut : laidOutB Try.prog = true := by kernel_rfl
open Go.Lib
set_option maxHeartbeats 8000000 in
theorem way (m : Nat) (hm : m < 256) (a : Option Addr) (len cap : Nat) (X Y : Nat → Int) (Z : Nat → Nat) (w : World) (hlen : len < 9223372036854775808) (hd : Deeds w a len X Y Z) :
    Calls Try.prog 5 #[.int .u8 m, .slice a len cap] w fun e w' => e = .returned (.bool true) ∧ Below w.heap.size w w' := by
  have HP := veil (play_ok w m hm a len cap hlen X Y Z hd)
  clear hd
  generalize m % 12 + 1 = N at *
  go_enter Try.func5, Try.ntmps5
  go_wp2_with (go_at_call 10; refine (HP.out).mono ?_; rintro e w1 ⟨b, g, rb, base, v, R, rfl, h1, h2, h3, h4, hB, hL⟩; have HQ := veil hB.q; have HL := veil hL; clear hB hL h3 h4)
  by_cases hR : R = []
  · subst hR
    go_wp2_with (first
      | (go_at_call 11; refine (live_queue _).mono ?_; rintro e w2 ⟨rfl, hb2⟩; have HQ2 := veil (HQ.out.below hb2); have HL2 := veil (HL.out.trans (hb2.mono HL.out.size)); clear hb2)
      | (go_at_call 16; refine (top_none _ b g N HQ2.out).mono ?_; rintro e w3 ⟨rfl, hb3⟩; have HQ3 := veil (HQ2.out.below hb3); have HL3 := veil (HL2.out.trans (hb3.mono HL2.out.size)); clear hb3)
      | (go_at_call 13; refine (len_is _ b g N [] HQ3.out).mono ?_; rintro e w6 ⟨rfl, hw⟩; replace hw := hw.symm; subst hw))
    go_ret
    exact ⟨by simp, HL3.out⟩
  · obtain ⟨lv, id0, rest0, hbest, hql⟩ := best_exists R hR (fun it hit => (HQ.out.rng it hit).2)
    have hlv := hbest.1
    have hnil : idsOf R lv ≠ [] := by unfold idsOf; rw [hql]; simp
    have hsp := (HQ.out.reads lv hlv).2.2
    have hll : (idsOf R lv).length ≤ 1024 := by
      unfold idsOf QL
      rw [List.length_map, List.length_map]
      have := List.length_filter_le (fun it : Nat × Nat => it.2 == lv) R
      have := HQ.out.len_le
      omega
    have hpos : 0 < (idsOf R lv).length := List.length_pos_iff.2 hnil
    go_wp2_with (first
      | (go_at_call 11; refine (live_queue _).mono ?_; rintro e w2 ⟨rfl, hb2⟩; have HQ2 := veil (HQ.out.below hb2); have HL2 := veil (HL.out.trans (hb2.mono HL.out.size)); clear hb2)
      | (go_at_call 16; refine (top_some _ b g N R id0 lv rest0 HQ2.out hbest hql).mono ?_; rintro e w3 ⟨rfl, hb3⟩; have HQ3 := veil (HQ2.out.below hb3); have HL3 := veil (HL2.out.trans (hb3.mono HL2.out.size)); clear hb3)
      | (go_at_call 17; refine (list_il b g N lv R _ HQ3.out hlv).mono ?_; rintro e w4 ⟨va, rfl, hil, hb4⟩; obtain ⟨ga, capa, rfl, ha1, ha2, ha3⟩ := hil.cells hnil; have HA := veil ha3; have HQ4 := veil (HQ3.out.below hb4); have HL4 := veil (HL3.out.trans (hb4.mono HL3.out.size)); have hbg := HQ3.out.blocks; clear hb4 hil ha3))
    have hids := HQ.out.ids
    generalize hLL : (idsOf R lv).length = L at *
    have HBest := veil hbest
    have HSP := veil hsp
    have hLq : (QL R lv).length = L := by rw [← hLL]; unfold idsOf; simp
    clear HQ HL HQ2 HL2 HQ3 HL3 hsp hbest HP
    go_loopw [12] (fun i wr => ∃ (j : Nat) (Q : List (Nat × Nat)), j ≤ L ∧ i = .int .i64 j ∧ QL Q lv = (QL R lv).drop j ∧ (∀ k, k < 256 → lv < k → QL Q k = []) ∧ IsQ wr b g N Q ∧ Below w.heap.size w wr ∧ (∀ t, t < L → wr.cell? ⟨ga, t, none⟩ = some (.int .i64 ((idsOf R lv).getD t 0)))) (fun i _ => L - (intOf i).toNat)
    case atStart => exact ⟨0, R, by omega, rfl, rfl, HBest.out.2.2, HQ4.out, HL4.out, HA.out⟩
    case round =>
      obtain ⟨j, Q, hj, rfl, hQ1, hQ2, hQ, hbel, hcell⟩ := hrel
      by_cases hjL : j < L
      · obtain ⟨s, hs⟩ : ∃ s, (QL R lv)[j]? = some s := ⟨_, List.getElem?_eq_getElem (by omega)⟩
        have hs1 := HSP.out s (List.mem_of_getElem? hs)
        obtain ⟨id, rfl⟩ : ∃ id, s = id + 1 := ⟨s - 1, by omega⟩
        have hdrop : QL Q lv = (id + 1) :: (QL R lv).drop (j + 1) := by
          rw [hQ1, List.drop_eq_getElem_cons (by omega)]
          congr 1
          have := List.getElem?_eq_getElem (l := QL R lv) (i := j) (by omega)
          rw [this] at hs
          exact Option.some.inj hs
        obtain ⟨Q', hpop, hq1, hq2⟩ := pop_head N Q hQ.ids lv id _ ⟨hlv, by rw [hdrop]; simp, hQ2⟩ hdrop
        have e0 := hcell j hjL
        have ev : (idsOf R lv).getD j 0 = (id : Int) := by
          unfold idsOf
          simp [List.getD, hs]
        rw [ev] at e0
        have HPo := veil (hpop wr b g hQ)
        have HN : Hid (∀ w5, Fr (fun k => k = b ∨ k = g) wr w5 → Below w.heap.size w w5 ∧ (∀ t, t < L → w5.cell? ⟨ga, t, none⟩ = some (.int .i64 ((idsOf R lv).getD t 0)))) := by
          intro w5 hf
          refine ⟨below_fr hbel (Nat.le_refl _) hf h1 h2, fun t ht => ?_⟩
          rw [hf.cell (a := ⟨ga, t, none⟩) (World.block_lt_of_cell? wr ⟨ga, t, none⟩ (hcell t ht)) (by simp; omega)]
          exact hcell t ht
        have HC : Hid (w = w → ∀ w5, Fr (fun k => k = b ∨ k = g) wr w5 → w5.cell? ⟨ga, j, none⟩ = some (.int .i64 id)) := by
          intro _ w5 hf
          rw [hf.cell (a := ⟨ga, j, none⟩) (World.block_lt_of_cell? wr _ e0) (by simp; omega)]
          exact e0
        have HQ1 := veil hq1
        have HQ2 : Hid (∀ k, k < 256 → lv < k → QL Q' k = []) := fun k hk hlk => by rw [hq2 k (by omega)]; exact hQ2 k hk hlk
        clear hQ1 hQ2 hQ hbel hcell hpop hq1 hq2 hdrop e0 hs hs1 ev
        go_wp2_with (go_at_call 14; refine (HPo.out).mono ?_; rintro e w5 ⟨rfl, hq5, hf5⟩; have HQ5 := veil hq5; have HX := veil (HN.out _ hf5); have e5 := HC.out rfl _ hf5; clear hq5 hf5)
        go_roundw
        case rel => exact ⟨j + 1, Q', by omega, by go_num, HQ1.out, HQ2.out, HQ5.out, HX.out.1, HX.out.2⟩
        case measure => simp [intOf]; omega
      · have hj' : j = L := by omega
        subst hj'
        have hempty : idsOf Q lv = [] := by unfold idsOf; rw [hQ1, List.drop_eq_nil_of_le (by omega)]; rfl
        have HQ6 := veil hQ
        have HL6 := veil hbel
        have HE := veil hempty
        clear hQ hbel hcell hQ1 hQ2 hempty
        go_wp2_with (go_at_call 17; refine (list_il b g N lv Q _ HQ6.out hlv).mono ?_; rintro e w7 ⟨vb, rfl, hil, hb7⟩; rw [HE.out] at hil; obtain ⟨a7, c7, rfl⟩ := hil.slice; have HL7 := veil (HL6.out.trans (hb7.mono HL6.out.size)); clear hil hb7)
        go_ret
        exact ⟨by simp, HL7.out⟩

set_option maxHeartbeats 1000000 in
theorem walk (a0 : Int) (a1 : Option Addr) (len1 cap1 : Nat) (X1 Y1 : Nat → Int) (Z1 : Nat → Nat) (w : World) (w0 : (Lit.int .u8 a0).wf = true) (n1 : len1 < 9223372036854775808) (w1 : Deeds w a1 len1 X1 Y1 Z1) :
    Calls Try.prog 5 #[.int .u8 a0, .slice a1 len1 cap1] w fun e w' => e = .returned (.bool true) ∧ Below w.heap.size w w' := by
  obtain ⟨l0, m0⟩ := bounds_u8 w0
  obtain ⟨M, rfl⟩ := Int.eq_ofNat_of_zero_le l0
  exact way M (by omega) a1 len1 cap1 X1 Y1 Z1 w n1 w1

set_option maxHeartbeats 1000000 in
set_option maxRecDepth 100000 in
theorem lifted (os : Os) (started : os.Started) (H : Type) (enc : TypeId × Value → H) :
    ReturnsInHanded {} Try.checked os 5 .any (Rows.bitqFirstSpec.pre6 enc Try.prog Try.f5 Rows.bitqFirstRow.domain false) (Rows.bitqFirstSpec.post enc Try.prog Try.f5 false true false false) := by
  refine returnsInHanded_of_change (C := Try.checked) own started (by kernel_rfl) Try.func5
    (ChangeSpec.witness6 (enc := enc) (C := Try.checked) false ⟨#[], #[.int .u8 0, .slice none 0 0], []⟩ 8 (by kernel_rfl) (by kernel_rfl) (by kernel_rfl) (by kernel_rfl)) ?_
  intro W base args ds gs before hval0 hW hcnd _
  have hval : ∀ (j : Nat) t v, Try.f5.params[j]? = some t → args[j]? = some v → Value.okWide Try.prog W .any base t v := hval0
  have hW' := hW
  obtain ⟨p, q, hA0, hV, rfl, hfz, hnd⟩ := hW
  have hA : DataW.TrodAll enc Try.prog W 0 (fun _ => true) true Try.f5.params.toList args.toList ds p := hA0
  rw [Try.params5] at hA hval
  obtain ⟨v0, vs0, d0, ds0, p0, q0, hargs, rfl, rfl, h0, r0⟩ := trodAll_cons hA
  obtain ⟨v1, vs1, d1, ds1, p1, q1, rfl, rfl, rfl, h1, r1⟩ := trodAll_cons r0
  obtain ⟨rfl, rfl, rfl⟩ := trodAll_nil r1
  obtain rfl : args = #[v0, v1] := by cases args; simp_all
  obtain ⟨rfl, rfl⟩ := trodVars_none hV
  have k0 := h0
  have lt0 : ∀ x ∈ p0, x.block < W.heap.size := by obtain ⟨m, hm⟩ := k0; exact DataW.trod_lt m _ _ _ hm
  obtain ⟨a0, rfl, rfl, rfl, w0⟩ := open_int Try.underlying5 (hval 0 5 v0 rfl rfl) h0
  have k1 := h1
  have lt1 : ∀ x ∈ p1, x.block < W.heap.size := by obtain ⟨m, hm⟩ := k1; exact DataW.trod_lt m _ _ _ hm
  obtain ⟨a1, len1, cap1, rfl⟩ := okWide_slice Try.underlying22 (hval 1 22 v1 rfl rfl)
  obtain ⟨n1, X1, Y1, Z1, w1⟩ : len1 < 9223372036854775808 ∧ ∃ (X Y : Nat → Int) (Z : Nat → Nat), Deeds W a1 len1 X Y Z := by
    obtain ⟨fuel, hf⟩ := h1
    exact open_deeds Try.underlying22 Try.underlying24 rfl rfl rfl rfl rfl rfl Try.underlying3 Try.underlying5 (by kernel_rfl) (by kernel_rfl) (by kernel_rfl) hf
  clear hA0 hval0
  refine (walk a0 a1 len1 cap1 X1 Y1 Z1 W w0 n1 w1).mono fun e W' ⟨he, bel⟩ => ?_
  subst he
  exact ⟨_, rfl, _, _, _, [], _, [], hW', trodAll_mk1 (shut_bool Try.underlying4 _), (trodAll_cons_mk (Below.trod laidOut (by kernel_rfl) (of_decide_eq_true (by kernel_rfl)) k0 bel lt0) (trodAll_cons_mk (Below.trod laidOut (by kernel_rfl) (of_decide_eq_true (by kernel_rfl)) k1 bel lt1) trodAll_mk0)), rfl, bel.frame _, fun h => by cases h⟩

theorem over : Rows.bitqFirstRow.holds Try.pinned (OpenSpec.ofChange Rows.bitqFirstSpec) :=
  OpenClaim.holds_of_wide 5 Try.f5 rfl rfl rfl rfl rfl rfl rfl ⟨rfl, rfl, rfl, rfl, rfl⟩ rfl rfl rfl rfl rfl (by kernel_rfl) Try.func5 (by kernel_rfl)
    (of_decide_eq_true (by kernel_rfl)) (by unfold Func.isWrapper; first | (rw [if_pos (by decide +kernel)]; kernel_rfl) | (rw [if_neg (by decide +kernel)]; exact ⟨rfl, rfl⟩))
    (fun os started H enc _ => lifted os started H enc)
end Go.Proofs.Ythehnicmjiidiaa.bitqFirst
namespace Go.Proofs.Ythehnicmjiidiaa
/-- The statement. -/
theorem bitqFirst_holds : Rows.BitqFirstSaid := bitqFirst.over
#print axioms bitqFirst_holds
end Go.Proofs.Ythehnicmjiidiaa
