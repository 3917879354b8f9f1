/-
  For every size and every deeds PheapRises answers true: what is taken one behind the other rises in the order, and is all that was there. No condition.
-/
import Derived.Test.YtiledmfnhahmiaaRows
import Derived.Test.YtiledmfnhahmiaaH14
import Derived.WalkKit
import Derived.ProofKit
import Derived.OpenShut
import Derived.RowKit3
import Derived.Laws.Cover2
import Derived.Laws.IdiomArrays
import Derived.ChangeOld
import Derived.Below
import Derived.Carry
import Derived.Lib.SmallJoins
namespace Go.Proofs.Ytiledmfnhahmiaa.pheapRises
open Go.ChangeShapes Go.WideShapes Go.ChangeAt Go.RowKit
set_option linter.unusedVariables false

theorem own : ownKnob Try.prog.godebug = none := by kernel_rfl
theorem laidOut : laidOutB Try.prog = true := by kernel_rfl
open Go.Lib
theorem cells_of {w : World} {base : Nat} {v : Value} {xs : List Int} (h : IL w base v xs) : ∃ g, ∀ j, j < xs.length → (∃ cap, v = .slice (some ⟨g, 0, none⟩) xs.length cap) ∧ g < w.heap.size ∧ base ≤ g ∧ w.cell? ⟨g, j, none⟩ = some (.int .i64 (xs.getD j 0)) := by
  by_cases hx : xs = []
  · exact ⟨0, fun j hj => by subst hx; simp at hj⟩
  · obtain ⟨g, cap, e, hb, hg, hc⟩ := h.cells hx
    exact ⟨g, fun j hj => ⟨⟨cap, e⟩, hg, hb, hc j hj⟩⟩
theorem drop_cons {L : List Item} {j : Nat} {it : Item} (h : L[j]? = some it) : L.drop j = it :: L.drop (j + 1) := by
  obtain ⟨hl, rfl⟩ := List.getElem?_eq_some_iff.1 h
  exact List.drop_eq_getElem_cons hl
theorem srt_at {L : List Item} (h : Srt L) {j : Nat} {p it : Item} (hp : L[j]? = some p) (hi : L[j + 1]? = some it) : ah p it := by
  obtain ⟨h1, rfl⟩ := List.getElem?_eq_some_iff.1 hp
  obtain ⟨h2, rfl⟩ := List.getElem?_eq_some_iff.1 hi
  exact List.pairwise_iff_getElem.1 h j (j + 1) h1 h2 (by omega)
theorem idsL_getD {L : List Item} {j : Nat} {it : Item} (h : L[j]? = some it) : (idsL L).getD j 0 = (it.1 : Int) := by
  unfold idsL
  rw [List.getD, List.getElem?_map, h]; rfl
set_option maxRecDepth 100000 in
set_option maxHeartbeats 4000000 in
theorem way (m : Nat) (hm : m < 256) (a : Option Addr) (len cap : Nat) (D : Nat → Dd) (w : World) (hlen : len < 9223372036854775808) (hd : Dds w a len D) :
    Calls Try.prog 4 #[.int .u8 m, .slice a len cap] w fun e w' => e = .returned (.bool true) ∧ Below w.heap.size w w' := by
  have HP := veil (play_ok w m hm a len cap hlen D hd)
  clear hd
  go_enter Try.func4, Try.ntmps4
  go_wp2_with (first
    | (go_at_call 11; refine (HP.out).mono ?_; rintro e w1 ⟨b, g, rb, base, v, L, rfl, h1, h2, h3, h4, hB, hL⟩; have HB := veil hB; have HL := veil hL; clear hB hL)
    | (go_at_call 12; refine (live_heap _).mono ?_; rintro e w2 ⟨rfl, hb2⟩; have HB2 := veil (HB.out.below hb2).q; have HL2 := veil (HL.out.trans (hb2.mono HL.out.size)); clear hb2)
    | (go_at_call 14; refine (hlist_ok HB2.out).mono ?_; rintro e w3 ⟨v3, rfl, hil, hb3⟩; obtain ⟨ga, hcs⟩ := cells_of hil; obtain ⟨a3, c3, rfl⟩ := hil.slice; have hil2 := idsL_len L; rw [hil2] at hcs ⊢; have HCS := veil hcs; have HB3 := veil (HB2.out.below hb3); have HL3 := veil (HL2.out.trans (hb3.mono HL2.out.size)); have hs3 := hb3.size; have hbl2 := HB2.out.blocks; clear hb3 hil hcs hil2)
    | (go_at_call 15; refine (hlen_ok HB3.out).mono ?_; rintro e w4 ⟨rfl, hw⟩; replace hw := hw.symm; subst hw))
  have hG := HB3.out.good
  have hln : L.length ≤ 1024 := Nat.le_trans hG.len HB3.out.nle
  have HG := veil hG
  have hbw : b < w2.heap.size := hbl2.1
  have hgw : g < w2.heap.size := hbl2.2.1
  clear hG HB HL HB2 HL2 HP
  generalize m % 16 + 1 = nn at *
  go_loopw [9, 10, 11] (fun dl sq i wr => ∃ (j d s : Nat), j ≤ L.length ∧ i = .int .i64 j ∧ dl = .int .u64 d ∧ sq = .int .u64 s ∧ (j = 0 → d = 0 ∧ s = 0) ∧ (∀ j0, j = j0 + 1 → ∃ p : Item, L[j0]? = some p ∧ p.2.1 = d ∧ p.2.2 = s) ∧ IsH wr b g nn (L.drop j) ∧ Fr (fun k => k = b ∨ k = g) w3 wr) (fun _ _ i _ => L.length - (intOf i).toNat)
  case atStart => exact ⟨0, 0, 0, by omega, rfl, rfl, rfl, fun _ => ⟨rfl, rfl⟩, fun j0 h => by omega, HB3.out, Fr.refl _ _⟩
  case round =>
    obtain ⟨j, d, s, hj, rfl, rfl, rfl, h0, hprev, hh, hfr⟩ := hrel
    have HH := veil hh
    have HFR := veil hfr
    have HPV := veil hprev
    have H0 := veil h0
    clear hh hprev h0
    by_cases hjl : j < L.length
    · obtain ⟨it, hit⟩ : ∃ it, L[j]? = some it := ⟨_, List.getElem?_eq_getElem hjl⟩
      obtain ⟨⟨c3', he3⟩, hga, hgb, y0⟩ := HCS.out j hjl
      have ha3 : a3 = some ⟨ga, 0, none⟩ := by injection he3
      clear he3
      subst ha3
      rw [idsL_getD hit] at y0
      have y00 := y0
      have hng : ¬ (ga = b ∨ ga = g) := by omega
      have y1 := (hfr.cell (a := ⟨ga, j, none⟩) hga hng).trans y0
      have hdr := drop_cons hit
      have HT := veil (show IsH wr b g nn (it :: L.drop (j + 1)) from hdr ▸ HH.out)
      have HGt := veil (hget_some HT.out it.1 it.2.1 it.2.2 (by simp))
      have HTk : Hid (∀ W, Below wr.heap.size wr W → Calls Try.prog 17 #[.pointer (some ⟨b, 0, none⟩)] W fun e w' => e = .returned (.tuple #[.int .i64 (it.1 : Int), .bool true]) ∧ IsH w' b g nn (L.drop (j + 1)) ∧ Only b g W w') := fun W hW => htake_ok (HT.out.below hW)
      have HIT := veil hit
      have hle : d ≤ it.2.1 := by
        cases j with
        | zero => have := (H0.out rfl).1; omega
        | succ j0 =>
          obtain ⟨p, hp, e1, e2⟩ := HPV.out j0 rfl
          have := srt_at HG.out.srt hp hit
          unfold ah at this
          omega
      have hord : ∀ j0 (p : Item), j = j0 + 1 → L[j0]? = some p → d = it.2.1 → (s < it.2.2 ∨ s = it.2.2 ∧ p.1 < it.1) := by
        intro j0 p e hp ed
        obtain ⟨p', hp', e1, e2⟩ := HPV.out j0 e
        rw [hp] at hp'
        injection hp' with hp'
        subst hp'
        subst e
        have := srt_at HG.out.srt hp hit
        unfold ah at this
        omega
      have HOR := veil hord
      clear hit hdr y0 hord hfr
      have HY := veil y00
      clear y00
      cases j with
      | zero =>
        by_cases hde : it.2.1 = d
        · subst hde
          clear hle
          go_wp2_with (first
            | (go_at_call 16; refine (HGt.out).mono ?_; rintro e w5 ⟨rfl, hb5⟩; have HT5 := veil (HTk.out _ hb5); have HF5 := veil (Fr.of_below' (S := fun k => k = b ∨ k = g) hb5); clear hb5)
            | (go_at_call 17; refine (HT5.out).mono ?_; rintro e w6 ⟨rfl, hq6, ho6⟩; have HF6 := veil ((HFR.out.trans HF5.out).trans (Fr.of_only ho6)); have HQ6 := veil hq6; have y6 := (HF6.out.cell (a := ⟨ga, 0, none⟩) hga hng).trans HY.out; clear hq6 ho6))
          go_quiet (fail)
          go_wp2
          go_roundw
          case rel =>
            exact ⟨0 + 1, it.2.1, it.2.2, by omega, by go_num, rfl, rfl, fun h => by omega, fun jx h => ⟨it, by rw [show jx = 0 by omega]; exact HIT.out, rfl, rfl⟩, HQ6.out.drewN _, HF6.out.drewN _⟩
          case measure => simp [intOf]; omega
        · have q1 : ¬ (it.2.1 : Int) < (d : Int) := by omega
          have q4 : ¬ it.2.1 < d := by omega
          have q2 : ¬ (it.2.1 : Int) = (d : Int) := by omega
          clear hle
          go_wp2_with (first
            | (go_at_call 16; refine (HGt.out).mono ?_; rintro e w5 ⟨rfl, hb5⟩; have HT5 := veil (HTk.out _ hb5); have HF5 := veil (Fr.of_below' (S := fun k => k = b ∨ k = g) hb5); clear hb5)
            | (go_at_call 17; refine (HT5.out).mono ?_; rintro e w6 ⟨rfl, hq6, ho6⟩; have HF6 := veil ((HFR.out.trans HF5.out).trans (Fr.of_only ho6)); have HQ6 := veil hq6; have y6 := (HF6.out.cell (a := ⟨ga, 0, none⟩) hga hng).trans HY.out; clear hq6 ho6))
          go_quiet (fail)
          go_wp2
          go_roundw
          case rel =>
            exact ⟨0 + 1, it.2.1, it.2.2, by omega, by go_num, rfl, rfl, fun h => by omega, fun jx h => ⟨it, by rw [show jx = 0 by omega]; exact HIT.out, rfl, rfl⟩, HQ6.out.drewN _, HF6.out.drewN _⟩
          case measure => simp [intOf]; omega
      | succ j0 =>
        obtain ⟨p, hp, hp1, hp2⟩ := HPV.out j0 rfl
        clear hp1 hp2
        obtain ⟨_, _, _, z0⟩ := HCS.out j0 (by omega)
        rw [idsL_getD hp] at z0
        have HZ := veil z0
        have hq0 : (0 : Int) < (j0 : Int) + 1 := by omega
        by_cases hde : it.2.1 = d
        · have hor := HOR.out j0 p rfl hp hde.symm
          subst hde
          clear z0 hp hle
          by_cases hse : it.2.2 = s
          · have hpl : ¬ (it.1 : Int) < (p.1 : Int) := by omega
            subst hse
            clear hor
            go_wp2_with (first
              | (go_at_call 16; refine (HGt.out).mono ?_; rintro e w5 ⟨rfl, hb5⟩; have HT5 := veil (HTk.out _ hb5); have HF5 := veil (Fr.of_below' (S := fun k => k = b ∨ k = g) hb5); clear hb5)
              | (go_at_call 17; refine (HT5.out).mono ?_; rintro e w6 ⟨rfl, hq6, ho6⟩; have HF6 := veil ((HFR.out.trans HF5.out).trans (Fr.of_only ho6)); have HQ6 := veil hq6; have y6 := (HF6.out.cell (a := ⟨ga, j0 + 1, none⟩) hga hng).trans HY.out; have z6 := (HF6.out.cell (a := ⟨ga, j0, none⟩) hga hng).trans HZ.out; clear hq6 ho6))
            go_quiet (fail)
            go_wp2
            go_roundw
            case rel =>
              exact ⟨(j0 + 1) + 1, it.2.1, it.2.2, by omega, by go_num, rfl, rfl, fun h => by omega, fun jx h => ⟨it, by rw [show jx = (j0 + 1) by omega]; exact HIT.out, rfl, rfl⟩, HQ6.out.drewN _, HF6.out.drewN _⟩
            case measure => simp [intOf]; omega
          · have q1 : ¬ (it.2.2 : Int) < (s : Int) := by omega
            have q4 : ¬ it.2.2 < s := by omega
            have q2 : ¬ (it.2.2 : Int) = (s : Int) := by omega
            have e1 : decide ((it.2.2 : Int) = (s : Int)) = false := decide_eq_false q2
            have e2 : decide (it.2.2 = s) = false := decide_eq_false hse
            have e3 : ((it.2.2 : Int) == (s : Int)) = false := by rw [beq_eq_false_iff_ne]; exact q2
            clear hor
            go_wp2_with (first
              | (go_at_call 16; refine (HGt.out).mono ?_; rintro e w5 ⟨rfl, hb5⟩; have HT5 := veil (HTk.out _ hb5); have HF5 := veil (Fr.of_below' (S := fun k => k = b ∨ k = g) hb5); clear hb5)
              | (go_at_call 17; refine (HT5.out).mono ?_; rintro e w6 ⟨rfl, hq6, ho6⟩; have HF6 := veil ((HFR.out.trans HF5.out).trans (Fr.of_only ho6)); have HQ6 := veil hq6; have y6 := (HF6.out.cell (a := ⟨ga, j0 + 1, none⟩) hga hng).trans HY.out; have z6 := (HF6.out.cell (a := ⟨ga, j0, none⟩) hga hng).trans HZ.out; clear hq6 ho6))
            go_quiet (fail)
            go_wp2
            go_roundw
            case rel =>
              exact ⟨(j0 + 1) + 1, it.2.1, it.2.2, by omega, by go_num, rfl, rfl, fun h => by omega, fun jx h => ⟨it, by rw [show jx = (j0 + 1) by omega]; exact HIT.out, rfl, rfl⟩, HQ6.out.drewN _, HF6.out.drewN _⟩
            case measure => simp [intOf]; omega
        · have q1 : ¬ (it.2.1 : Int) < (d : Int) := by omega
          have q4 : ¬ it.2.1 < d := by omega
          have q2 : ¬ (it.2.1 : Int) = (d : Int) := by omega
          have e1 : decide ((it.2.1 : Int) = (d : Int)) = false := decide_eq_false q2
          have e2 : decide (it.2.1 = d) = false := decide_eq_false hde
          have e3 : ((it.2.1 : Int) == (d : Int)) = false := by rw [beq_eq_false_iff_ne]; exact q2
          have e4 : decide ((it.2.1 : Int) < (d : Int)) = false := decide_eq_false q1
          have e5 : (it.2.1 == d) = false := by rw [beq_eq_false_iff_ne]; exact hde
          have e6 : decide ((0 : Int) < (j0 : Int) + 1) = true := decide_eq_true hq0
          clear z0 hp hle
          go_wp2_with (first
            | (go_at_call 16; refine (HGt.out).mono ?_; rintro e w5 ⟨rfl, hb5⟩; have HT5 := veil (HTk.out _ hb5); have HF5 := veil (Fr.of_below' (S := fun k => k = b ∨ k = g) hb5); clear hb5)
            | (go_at_call 17; refine (HT5.out).mono ?_; rintro e w6 ⟨rfl, hq6, ho6⟩; have HF6 := veil ((HFR.out.trans HF5.out).trans (Fr.of_only ho6)); have HQ6 := veil hq6; have y6 := (HF6.out.cell (a := ⟨ga, j0 + 1, none⟩) hga hng).trans HY.out; have z6 := (HF6.out.cell (a := ⟨ga, j0, none⟩) hga hng).trans HZ.out; clear hq6 ho6))
          go_quiet (fail)
          go_wp2
          go_roundw
          case rel =>
            exact ⟨(j0 + 1) + 1, it.2.1, it.2.2, by omega, by go_num, rfl, rfl, fun h => by omega, fun jx h => ⟨it, by rw [show jx = (j0 + 1) by omega]; exact HIT.out, rfl, rfl⟩, HQ6.out.drewN _, HF6.out.drewN _⟩
          case measure => simp [intOf]; omega
    · have hj' : j = L.length := by omega
      have hE : IsH wr b g nn [] := by have := HH.out; rw [hj', List.drop_length] at this; exact this
      have HE := veil hE
      have HW := veil (below_fr HL3.out (Nat.le_refl _) hfr h1 h2)
      have hjn : ¬ (j : Int) < (L.length : Int) := by omega
      clear hE hfr
      go_wp2_with (first
        | (go_at_call 18; refine (hmin_none HE.out).mono ?_; rintro e w5 ⟨rfl, hw⟩; replace hw := hw.symm; subst hw)
        | (go_at_call 15; refine (hlen_ok HE.out).mono ?_; rintro e w5 ⟨rfl, hw⟩; replace hw := hw.symm; subst hw))
      go_ret
      exact ⟨by simp, HW.out⟩

set_option maxHeartbeats 1000000 in
theorem walk (a0 : Int) (a1 : Option Addr) (len1 cap1 : Nat) (D1 : Nat → Dd) (w : World) (w0 : (Lit.int .u8 a0).wf = true) (n1 : len1 < 9223372036854775808) (c1 : len1 ≤ cap1) (m1 : cap1 < 9223372036854775808) (w1 : Dds w a1 len1 D1) :
    Calls Try.prog 4 #[.int .u8 a0, .slice a1 len1 cap1] w fun e w' => e = .returned (.bool true) ∧ Below w.heap.size w w' := by
  obtain ⟨l0, m0⟩ := bounds_u8 w0
  obtain ⟨M, rfl⟩ := Int.eq_ofNat_of_zero_le l0
  exact way M (by omega) a1 len1 cap1 D1 w n1 w1

set_option maxHeartbeats 1000000 in
set_option maxRecDepth 100000 in
theorem lifted (os : Os) (started : os.Started) (H : Type) (enc : TypeId × Value → H) :
    ReturnsInHanded {} Try.checked os 4 .any (Rows.pheapRisesSpec.pre6 enc Try.prog Try.f4 Rows.pheapRisesRow.domain false) (Rows.pheapRisesSpec.post enc Try.prog Try.f4 false true false false) := by
  refine returnsInHanded_of_change (C := Try.checked) own started (by kernel_rfl) Try.func4
    (ChangeSpec.witness6 (enc := enc) (C := Try.checked) false ⟨#[], #[.int .u8 0, .slice none 0 0], []⟩ 8 (by kernel_rfl) (by kernel_rfl) (by kernel_rfl) (by kernel_rfl)) ?_
  intro W base args ds gs before hval0 hW hcnd _
  have hval : ∀ (j : Nat) t v, Try.f4.params[j]? = some t → args[j]? = some v → Value.okWide Try.prog W .any base t v := hval0
  have hW' := hW
  obtain ⟨p, q, hA0, hV, rfl, hfz, hnd⟩ := hW
  have hA : DataW.TrodAll enc Try.prog W 0 (fun _ => true) true Try.f4.params.toList args.toList ds p := hA0
  rw [Try.params4] at hA hval
  obtain ⟨v0, vs0, d0, ds0, p0', q0', hargs, rfl, rfl, h0, r0⟩ := trodAll_cons hA
  obtain ⟨v1, vs1, d1, ds1, p1', q1', rfl, rfl, rfl, h1, r1⟩ := trodAll_cons r0
  obtain ⟨rfl, rfl, rfl⟩ := trodAll_nil r1
  obtain rfl : args = #[v0, v1] := by cases args; simp_all
  obtain ⟨rfl, rfl⟩ := trodVars_none hV
  have kk0 := h0
  have lt0 : ∀ x ∈ p0', x.block < W.heap.size := by obtain ⟨m, hm⟩ := kk0; exact DataW.trod_lt m _ _ _ hm
  obtain ⟨a0, rfl, rfl, rfl, w0⟩ := open_int Try.underlying5 (hval 0 5 v0 rfl rfl) h0
  have kk1 := h1
  have lt1 : ∀ x ∈ p1', x.block < W.heap.size := by obtain ⟨m, hm⟩ := kk1; exact DataW.trod_lt m _ _ _ hm
  obtain ⟨a1, len1, cap1, rfl⟩ := okWide_slice Try.underlying22 (hval 1 22 v1 rfl rfl)
  obtain ⟨n1, c1, m1, D1, w1⟩ : len1 < 9223372036854775808 ∧ len1 ≤ cap1 ∧ cap1 < 9223372036854775808 ∧ ∃ D, Dds W a1 len1 D := by
    obtain ⟨fuel, hf⟩ := h1
    exact open_deeds hf
  clear hA0 hval0
  refine (walk a0 a1 len1 cap1 D1 W w0 n1 c1 m1 w1).mono fun e W' ⟨he, bel⟩ => ?_
  subst he
  exact ⟨_, rfl, _, _, _, [], _, [], hW', trodAll_mk1 (shut_bool Try.underlying4 _), (trodAll_cons_mk (Below.trod laidOut (by kernel_rfl) (of_decide_eq_true (by kernel_rfl)) kk0 bel lt0) (trodAll_cons_mk (Below.trod laidOut (by kernel_rfl) (of_decide_eq_true (by kernel_rfl)) kk1 bel lt1) trodAll_mk0)), rfl, bel.frame _, fun h => by cases h⟩

theorem over : Rows.pheapRisesRow.holds Try.pinned (OpenSpec.ofChange Rows.pheapRisesSpec) :=
  OpenClaim.holds_of_wide 4 Try.f4 rfl rfl rfl rfl rfl rfl rfl ⟨rfl, rfl, rfl, rfl, rfl⟩ rfl rfl rfl rfl rfl (by kernel_rfl) Try.func4 (by kernel_rfl)
    (of_decide_eq_true (by kernel_rfl)) (by unfold Func.isWrapper; first | (rw [if_pos (by decide +kernel)]; kernel_rfl) | (rw [if_neg (by decide +kernel)]; exact ⟨rfl, rfl⟩))
    (fun os started H enc _ => lifted os started H enc)
end Go.Proofs.Ytiledmfnhahmiaa.pheapRises
namespace Go.Proofs.Ytiledmfnhahmiaa
/-- The statement. -/
theorem pheapRises_holds : Rows.PheapRisesSaid := pheapRises.over
#print axioms pheapRises_holds
end Go.Proofs.Ytiledmfnhahmiaa
