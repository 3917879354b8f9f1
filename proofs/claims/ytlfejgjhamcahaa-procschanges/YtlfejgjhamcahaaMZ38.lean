/-
  What Change and Remove leave, told by the places; the walk of ProcsChanges.
-/
import Derived.Test.YtlfejgjhamcahaaMZ36
namespace Go.Proofs.Ytlfejgjhamcahaa
open Go.RowKit Go.Lib
set_option linter.unusedVariables false
attribute [local go_sem ↓] Go.wp_at_zero Go.wp_at_succ

section
variable {w : World} {O : Nat → Prop} {pb n np q T : Nat} {G : List (List En)}
theorem PQ.changed (h : PQ w O pb n np q T G) (id : Int) (k : Ke.K) : whereF n (gh (pchgG n (gh G) id k)) 0 = whereF n (gh G) 0 ∧ sumH (gh (pchgG n (gh G) id k)) = sumH (gh G) := by
  unfold pchgG
  split
  · rename_i hc
    rw [Ms_gh, gh_set]
    cases hx : (gh G)[aOf n (gh G) id]? with
    | none =>
      rw [List.set_eq_of_length_le (by have := List.getElem?_eq_none_iff.1 hx; exact this)]
      exact ⟨rfl, rfl⟩
    | some x =>
      rw [MM_at hx]
      obtain ⟨hnd, _, _⟩ := h.nd hx
      obtain ⟨_, u2⟩ := where_same (n := n) (y := ⟨0, 0, 0, 0, 0, 0, chgL n x.M id k⟩) h.un hx (fun j => chgL_has n x.M id k j)
      have hs := sumH_set (y := ⟨0, 0, 0, 0, 0, 0, chgL n x.M id k⟩) hx
      have := chgL_len n hnd id k
      refine ⟨u2, ?_⟩
      simp only at hs
      omega
  · rw [Ms_gh]
    exact ⟨rfl, rfl⟩
theorem PQ.removed (h : PQ w O pb n np q T G) {id c : Int} (hw : whereF n (gh G) 0 id = some c) : premC n (gh G) id = 0 ∧ sumH (gh (premG n (gh G) id)) + 1 = sumH (gh G) := by
  obtain ⟨i, x, hx, hc, h1, h2, h3⟩ := whereF_inv n id (gh G) 0 c hw
  obtain ⟨j, rfl⟩ := Int.eq_ofNat_of_zero_le h1
  have e0 : premC n (gh G) (j : Int) = 0 := by unfold premC; rw [hw, if_neg (by omega)]; rfl
  have ha : aOf n (gh G) (j : Int) = i := by unfold aOf; rw [hw]; simp only [Option.getD_some]; omega
  refine ⟨e0, ?_⟩
  unfold premG
  rw [if_pos e0, ha, Ms_gh, gh_set, MM_at hx]
  obtain ⟨hnd, _, _⟩ := h.nd hx
  have hs : sumH ((gh G).set i ⟨0, 0, 0, 0, 0, 0, cut j x.M⟩) + x.M.length = sumH (gh G) + (cut j x.M).length := sumH_set hx
  obtain ⟨k', hk'⟩ := Option.isSome_iff_exists.1 h3
  have := len_cut hnd ((keyOf_some hnd).1 hk')
  show sumH ((gh G).set i ⟨0, 0, 0, 0, 0, 0, cut j x.M⟩) + 1 = sumH (gh G)
  simp only [Int.toNat_natCast] at this
  omega
end
set_option maxHeartbeats 8000000 in
set_option maxRecDepth 20000 in
theorem ProcsChanges_walk (m : Nat) (hm : m < 256) (a : Option Addr) (len cap : Nat) (L : Nat → Dp) (hlen : len < 9223372036854775808) (w : World) (hd : Dps w a len L) (x : Dp) (hx : x.ok) :
    Calls Try.prog 11 #[.int .u8 m, .slice a len cap, .agg #[.int .i64 x.k, .int .i64 x.p, .int .i64 x.i, .bool x.e, .int .u64 x.d, .int .u8 x.l, .int .u64 x.r]] w fun e w' => e = .returned (.bool true) ∧ Below w.heap.size w w' := by
  have wfi : (Lit.int .i64 x.i).wf = true := hx.2.1
  have hA : Below w.heap.size w (w.alloc (.cells #[.int .i64 x.k, .int .i64 x.p, .int .i64 x.i, .bool x.e, .int .u64 x.d, .int .u8 x.l, .int .u64 x.r] 27)) := (Below.refl _ _).alloc (Nat.le_refl _) _
  have HA := veil hA
  have HP := veil (play_ok (w.alloc (.cells #[.int .i64 x.k, .int .i64 x.p, .int .i64 x.i, .bool x.e, .int .u64 x.d, .int .u8 x.l, .int .u64 x.r] 27)) m hm a len cap hlen L (hd.below hA))
  have hblk : (w.alloc (.cells #[.int .i64 x.k, .int .i64 x.p, .int .i64 x.i, .bool x.e, .int .u64 x.d, .int .u8 x.l, .int .u64 x.r] 27)).heap[w.heap.size]? = some (.cells #[.int .i64 x.k, .int .i64 x.p, .int .i64 x.i, .bool x.e, .int .u64 x.d, .int .u8 x.l, .int .u64 x.r] 27 (0, 0)) := World.alloc_heap_new w _
  have HC : Hid (∀ W, Below (w.alloc (.cells #[.int .i64 x.k, .int .i64 x.p, .int .i64 x.i, .bool x.e, .int .u64 x.d, .int .u8 x.l, .int .u64 x.r] 27)).heap.size (w.alloc (.cells #[.int .i64 x.k, .int .i64 x.p, .int .i64 x.i, .bool x.e, .int .u64 x.d, .int .u8 x.l, .int .u64 x.r] 27)) W → W.cell? ⟨w.heap.size, 0, none⟩ = some (.int .i64 x.k) ∧ W.cell? ⟨w.heap.size, 1, none⟩ = some (.int .i64 x.p) ∧ W.cell? ⟨w.heap.size, 2, none⟩ = some (.int .i64 x.i) ∧ W.cell? ⟨w.heap.size, 3, none⟩ = some (.bool x.e) ∧ W.cell? ⟨w.heap.size, 4, none⟩ = some (.int .u64 x.d) ∧ W.cell? ⟨w.heap.size, 5, none⟩ = some (.int .u8 x.l) ∧ W.cell? ⟨w.heap.size, 6, none⟩ = some (.int .u64 x.r)) := fun W hW => by
    have hb := (hW.block _ (by simp)).trans hblk
    exact ⟨(blk_cell hb 0).1, (blk_cell hb 1).1, (blk_cell hb 2).1, (blk_cell hb 3).1, (blk_cell hb 4).1, (blk_cell hb 5).1, (blk_cell hb 6).1⟩
  clear hd hA hblk
  go_enter Try.func11, Try.ntmps11
  go_wp2_with (first
    | (go_at_call 14; refine (HP.out).mono ?_; rintro e w1 ⟨O, D, base, pb, rb, T, G, rfl, h1, h2, h3, ht, hB, hL⟩; have HB := veil hB; have HL := veil hL; have HO := veil h1; clear hB hL h1 h2 h3)
    | (go_at_call 15; refine (live_procs _).mono ?_; rintro e w2 ⟨rfl, hb2⟩; have HBB := veil (HB.out.below hb2); have HL2 := veil (HL.out.trans (hb2.mono HL.out.size)); obtain ⟨c0, c1, c2, c3, c4, c5, c6⟩ := HC.out _ HL2.out; clear hb2))
  have hsl := HBB.out.pq.sum_le
  have HN0 := veil HBB.out.pq.length
  have HW0 := veil (HBB.out.pq.where x.i wfi)
  have hCH := HBB.out.pq.change (by omega) x.i wfi ⟨x.e, x.d, x.l⟩ hx.k
  obtain ⟨hwg, hsg⟩ := HBB.out.pq.changed x.i ⟨x.e, x.d, x.l⟩
  have HW4 : Hid (∀ W, PQ W O pb 10 (m % 4 + 1) (m / 4 % 3 + 1) (T + 1) (pchgG 10 (gh G) x.i ⟨x.e, x.d, x.l⟩) → Calls Try.prog 23 #[.pointer (some ⟨pb, 0, none⟩), .int .i64 x.i] W fun e w' => e = .returned (.tuple #[.int .i64 ((whereF 10 (gh G) 0 x.i).getD 0), .bool (whereF 10 (gh G) 0 x.i).isSome]) ∧ w' = W) := fun W hW => by
    have := hW.where x.i wfi
    rw [hwg] at this
    exact this
  have HLG : Hid (∀ W, PQ W O pb 10 (m % 4 + 1) (m / 4 % 3 + 1) (T + 1) (pchgG 10 (gh G) x.i ⟨x.e, x.d, x.l⟩) → Calls Try.prog 24 #[.pointer (some ⟨pb, 0, none⟩)] W fun e w' => e = .returned (.int .i64 (sumH (gh G) : Int)) ∧ w' = W) := fun W hW => by
    have := hW.length
    rw [hsg] at this
    exact this
  have HRG : Hid (∀ W, PQ W O pb 10 (m % 4 + 1) (m / 4 % 3 + 1) (T + 1) (pchgG 10 (gh G) x.i ⟨x.e, x.d, x.l⟩) → (whereF 10 (gh G) 0 x.i).isSome = true → ∃ G2 s', s' + 1 = sumH (gh G) ∧ (∀ W, PQ W O pb 10 (m % 4 + 1) (m / 4 % 3 + 1) (T + 1) (pchgG 10 (gh G) x.i ⟨x.e, x.d, x.l⟩) → Calls Try.prog 30 #[.pointer (some ⟨pb, 0, none⟩), .int .i64 x.i] W fun e w' => e = .returned (.int .i64 0) ∧ PQ w' O pb 10 (m % 4 + 1) (m / 4 % 3 + 1) (T + 1 + 1) G2 ∧ Fr O W w') ∧ ∀ W, PQ W O pb 10 (m % 4 + 1) (m / 4 % 3 + 1) (T + 1 + 1) G2 → Calls Try.prog 24 #[.pointer (some ⟨pb, 0, none⟩)] W fun e w' => e = .returned (.int .i64 (s' : Int)) ∧ w' = W) := fun W hW hs => by
    obtain ⟨c, hc⟩ := Option.isSome_iff_exists.1 hs
    rw [← hwg] at hc
    obtain ⟨e0, e1⟩ := hW.removed hc
    refine ⟨premG 10 (gh (pchgG 10 (gh G) x.i ⟨x.e, x.d, x.l⟩)) x.i, sumH (gh (premG 10 (gh (pchgG 10 (gh G) x.i ⟨x.e, x.d, x.l⟩)) x.i)), ?_, fun W' hW' => ?_, fun W' hW' => hW'.length⟩
    · rw [← hsg]; exact e1
    · have := hW'.remove x.i wfi
      rw [e0] at this
      exact this
  have HCC : Hid ((whereF 10 (gh G) 0 x.i).isSome = true → pchgC 10 (gh G) x.i ⟨x.e, x.d, x.l⟩ = 0 ∨ pchgC 10 (gh G) x.i ⟨x.e, x.d, x.l⟩ = 2) := fun e => by
    unfold pchgC
    by_cases hb : Bad 10 x.i ⟨x.e, x.d, x.l⟩
    · rw [if_pos hb]; exact .inr rfl
    · rw [if_neg hb, if_pos e]; exact .inl rfl
  have HCD : Hid ((whereF 10 (gh G) 0 x.i).isSome = false → pchgC 10 (gh G) x.i ⟨x.e, x.d, x.l⟩ = 2 ∨ pchgC 10 (gh G) x.i ⟨x.e, x.d, x.l⟩ = 6) := fun e => by
    unfold pchgC
    by_cases hb : Bad 10 x.i ⟨x.e, x.d, x.l⟩
    · rw [if_pos hb]; exact .inl rfl
    · rw [if_neg hb, if_neg (by rw [e]; decide)]; exact .inr rfl
  have HCG : Hid (pchgC 10 (gh G) x.i ⟨x.e, x.d, x.l⟩ ≠ 0 → pchgG 10 (gh G) x.i ⟨x.e, x.d, x.l⟩ = G) := fun e => by unfold pchgG; rw [if_neg e, Ms_gh]
  clear hwg hsg
  generalize pchgG 10 (gh G) x.i ⟨x.e, x.d, x.l⟩ = G' at *
  generalize pchgC 10 (gh G) x.i ⟨x.e, x.d, x.l⟩ = cc at *
  have HCH := veil hCH
  clear hCH HN0
  have HN0 := veil HBB.out.pq.length
  generalize sumH (gh G) = s at *
  generalize (whereF 10 (gh G) 0 x.i).getD 0 = wa at *
  generalize (whereF 10 (gh G) 0 x.i).isSome = wo at *
  cases wo with
  | true =>
    rcases HCC.out rfl with rfl | rfl
    · clear HCC HCD HCG
      go_wp2_with (first
        | (go_at_call 24; have hh := HQ7.out; clear hh; refine (HLR.out _ HQ7.out).mono ?_; rintro e w8 ⟨rfl, hw⟩; replace hw := hw.symm; subst hw)
        | (go_at_call 24; have hh := HQ4.out; clear hh; refine (HLG.out _ HQ4.out).mono ?_; rintro e w8 ⟨rfl, hw⟩; replace hw := hw.symm; subst hw)
        | (go_at_call 24; refine (HN0.out).mono ?_; rintro e w8 ⟨rfl, hw⟩; replace hw := hw.symm; subst hw)
        | (go_at_call 23; have hh := HQ4.out; clear hh; refine (HW4.out _ HQ4.out).mono ?_; rintro e w8 ⟨rfl, hw⟩; replace hw := hw.symm; subst hw)
        | (go_at_call 23; refine (HW0.out).mono ?_; rintro e w8 ⟨rfl, hw⟩; replace hw := hw.symm; subst hw)
        | (go_at_call 29; refine (HCH.out).mono ?_; rintro e w4 ⟨rfl, hq4, hf4⟩; have HQ4 := veil hq4; have HL4 := veil (HL2.out.trans (hf4.below HL2.out.size HO.out)); obtain ⟨f0, f1, f2, f3, f4, f5, f6⟩ := HC.out _ HL4.out; obtain ⟨G2, s', hss, hrm, hlr⟩ := HRG.out _ HQ4.out (by first | rfl | trivial); have HRM := veil hrm; have HLR := veil hlr; have hsi : (s : Int) - 1 = (s' : Int) := (by omega); have hs0 : s' ≤ 66560 := (by omega); clear hrm hlr; clear hq4 hf4)
        | (go_at_call 30; refine (HRM.out _ HQ4.out).mono ?_; rintro e w7 ⟨rfl, hq7, hf7⟩; have HQ7 := veil hq7; have HL7 := veil (HL4.out.trans (hf7.below HL4.out.size HO.out)); clear hq7 hf7))
      go_ret
      exact ⟨by simp, HA.out.trans (HL7.out.mono HA.out.size)⟩
    · have hg := (HCG.out (by decide)).symm
      subst hg
      clear HCC HCD HCG
      go_wp2_with (first
        | (go_at_call 24; have hh := HQ7.out; clear hh; refine (HLR.out _ HQ7.out).mono ?_; rintro e w8 ⟨rfl, hw⟩; replace hw := hw.symm; subst hw)
        | (go_at_call 24; have hh := HQ5.out; clear hh; refine (HLG.out _ HQ5.out).mono ?_; rintro e w8 ⟨rfl, hw⟩; replace hw := hw.symm; subst hw)
        | (go_at_call 24; refine (HN0.out).mono ?_; rintro e w8 ⟨rfl, hw⟩; replace hw := hw.symm; subst hw)
        | (go_at_call 23; have hh := HQ4.out; clear hh; refine (HW4.out _ HQ4.out).mono ?_; rintro e w8 ⟨rfl, hw⟩; replace hw := hw.symm; subst hw)
        | (go_at_call 23; refine (HW0.out).mono ?_; rintro e w8 ⟨rfl, hw⟩; replace hw := hw.symm; subst hw)
        | (go_at_call 29; refine (HCH.out).mono ?_; rintro e w4 ⟨rfl, hq4, hf4⟩; have HQ4 := veil hq4; have HL4 := veil (HL2.out.trans (hf4.below HL2.out.size HO.out)); have HB4 := veil (show BothP w4 O D base pb rb 10 (m % 4 + 1) (m / 4 % 3 + 1) (T + 1) G from ⟨hq4, HBB.out.refOf hf4, HBB.out.ob⟩); obtain ⟨f0, f1, f2, f3, f4, f5, f6⟩ := HC.out _ HL4.out; obtain ⟨G2, s', hss, hrm, hlr⟩ := HRG.out _ HQ4.out (by first | rfl | trivial); have HRM := veil hrm; have HLR := veil hlr; have hsi : (s : Int) - 1 = (s' : Int) := (by omega); have hs0 : s' ≤ 66560 := (by omega); clear hrm hlr; clear hq4 hf4)
        | (go_at_call 16; refine (same_ok _ O D base pb rb _ _ _ (T + 1) G HB4.out x hx).mono ?_; rintro e w5 ⟨rfl, hb5⟩; have HQ5 := veil (HQ4.out.below hb5); have HL5 := veil (HL4.out.trans (hb5.mono HL4.out.size)); have d2 := (HC.out _ HL5.out).2.2.1; clear hb5)
        | (go_at_call 30; refine (HRM.out _ HQ5.out).mono ?_; rintro e w7 ⟨rfl, hq7, hf7⟩; have HQ7 := veil hq7; have HL7 := veil (HL5.out.trans (hf7.below HL5.out.size HO.out)); clear hq7 hf7))
      go_ret
      exact ⟨by simp, HA.out.trans (HL7.out.mono HA.out.size)⟩
  | false =>
    rcases HCD.out rfl with rfl | rfl
    · have hg := (HCG.out (by decide)).symm
      subst hg
      clear HCC HCD HCG HRG
      go_wp2_with (first
        | (go_at_call 24; have hh := HQ7.out; clear hh; refine (HLR.out _ HQ7.out).mono ?_; rintro e w8 ⟨rfl, hw⟩; replace hw := hw.symm; subst hw)
        | (go_at_call 24; have hh := HQ5.out; clear hh; refine (HLG.out _ HQ5.out).mono ?_; rintro e w8 ⟨rfl, hw⟩; replace hw := hw.symm; subst hw)
        | (go_at_call 24; refine (HN0.out).mono ?_; rintro e w8 ⟨rfl, hw⟩; replace hw := hw.symm; subst hw)
        | (go_at_call 23; have hh := HQ4.out; clear hh; refine (HW4.out _ HQ4.out).mono ?_; rintro e w8 ⟨rfl, hw⟩; replace hw := hw.symm; subst hw)
        | (go_at_call 23; refine (HW0.out).mono ?_; rintro e w8 ⟨rfl, hw⟩; replace hw := hw.symm; subst hw)
        | (go_at_call 29; refine (HCH.out).mono ?_; rintro e w4 ⟨rfl, hq4, hf4⟩; have HQ4 := veil hq4; have HL4 := veil (HL2.out.trans (hf4.below HL2.out.size HO.out)); have HB4 := veil (show BothP w4 O D base pb rb 10 (m % 4 + 1) (m / 4 % 3 + 1) (T + 1) G from ⟨hq4, HBB.out.refOf hf4, HBB.out.ob⟩); obtain ⟨f0, f1, f2, f3, f4, f5, f6⟩ := HC.out _ HL4.out; clear hq4 hf4)
        | (go_at_call 16; refine (same_ok _ O D base pb rb _ _ _ (T + 1) G HB4.out x hx).mono ?_; rintro e w5 ⟨rfl, hb5⟩; have HQ5 := veil (HQ4.out.below hb5); have HL5 := veil (HL4.out.trans (hb5.mono HL4.out.size)); have d2 := (HC.out _ HL5.out).2.2.1; clear hb5)
        | (go_at_call 30; fail; refine (HRM.out _ HQ5.out).mono ?_; rintro e w7 ⟨rfl, hq7, hf7⟩; have HQ7 := veil hq7; have HL7 := veil (HL5.out.trans (hf7.below HL5.out.size HO.out)); clear hq7 hf7))
      go_ret
      exact ⟨by simp, HA.out.trans (HL5.out.mono HA.out.size)⟩
    · have hg := (HCG.out (by decide)).symm
      subst hg
      clear HCC HCD HCG HRG
      go_wp2_with (first
        | (go_at_call 24; have hh := HQ7.out; clear hh; refine (HLR.out _ HQ7.out).mono ?_; rintro e w8 ⟨rfl, hw⟩; replace hw := hw.symm; subst hw)
        | (go_at_call 24; have hh := HQ5.out; clear hh; refine (HLG.out _ HQ5.out).mono ?_; rintro e w8 ⟨rfl, hw⟩; replace hw := hw.symm; subst hw)
        | (go_at_call 24; refine (HN0.out).mono ?_; rintro e w8 ⟨rfl, hw⟩; replace hw := hw.symm; subst hw)
        | (go_at_call 23; have hh := HQ4.out; clear hh; refine (HW4.out _ HQ4.out).mono ?_; rintro e w8 ⟨rfl, hw⟩; replace hw := hw.symm; subst hw)
        | (go_at_call 23; refine (HW0.out).mono ?_; rintro e w8 ⟨rfl, hw⟩; replace hw := hw.symm; subst hw)
        | (go_at_call 29; refine (HCH.out).mono ?_; rintro e w4 ⟨rfl, hq4, hf4⟩; have HQ4 := veil hq4; have HL4 := veil (HL2.out.trans (hf4.below HL2.out.size HO.out)); have HB4 := veil (show BothP w4 O D base pb rb 10 (m % 4 + 1) (m / 4 % 3 + 1) (T + 1) G from ⟨hq4, HBB.out.refOf hf4, HBB.out.ob⟩); obtain ⟨f0, f1, f2, f3, f4, f5, f6⟩ := HC.out _ HL4.out; clear hq4 hf4)
        | (go_at_call 16; refine (same_ok _ O D base pb rb _ _ _ (T + 1) G HB4.out x hx).mono ?_; rintro e w5 ⟨rfl, hb5⟩; have HQ5 := veil (HQ4.out.below hb5); have HL5 := veil (HL4.out.trans (hb5.mono HL4.out.size)); have d2 := (HC.out _ HL5.out).2.2.1; clear hb5)
        | (go_at_call 30; fail; refine (HRM.out _ HQ5.out).mono ?_; rintro e w7 ⟨rfl, hq7, hf7⟩; have HQ7 := veil hq7; have HL7 := veil (HL5.out.trans (hf7.below HL5.out.size HO.out)); clear hq7 hf7))
      go_ret
      exact ⟨by simp, HA.out.trans (HL5.out.mono HA.out.size)⟩
end Go.Proofs.Ytlfejgjhamcahaa
