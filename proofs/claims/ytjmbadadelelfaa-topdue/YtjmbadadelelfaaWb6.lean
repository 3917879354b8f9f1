/- The walk of Advance. -/
import Derived.Test.YtjmbadadelelfaaWb5
namespace Go.Proofs.Ytjmbadadelelfaa
open Go.RowKit
set_option linter.unusedVariables false
set_option linter.unusedSimpArgs false
attribute [local go_sem ↓] Go.wp_at_zero Go.wp_at_succ
section
variable {w : World} {b g mb n nw : Nat} {S : List It}
theorem cell_of_own {w : World} {base N : Nat} {av : Option Addr} {cv : Nat} {xs : List Nat} (h : w.ownsRow base 3 1 (.slice av N cv) N (iv xs)) (j : Nat) (hj : j < N) : ∃ r, av = some ⟨r, 0, none⟩ ∧ base ≤ r ∧ r < w.heap.size ∧ w.cell? ⟨r, j, none⟩ = some (.int .i64 ((xs.getD j 0 : Nat) - 1 : Int)) := by
  have hlen : xs.length = N := by have := h.1; rw [iv_len] at this; omega
  rcases h.2 with ⟨e, h0⟩ | ⟨r, cap, cur, e, hb, hg, hn, hc, hs, ht⟩
  · omega
  · cases e
    refine ⟨r, rfl, hb, (Array.getElem?_eq_some_iff.1 hg).1, ?_⟩
    have this : (cur.toList.take (N * 1))[j]? = (iv xs)[j]? := by rw [ht]
    rw [List.getElem?_take_of_lt (by omega), Array.getElem?_toList] at this
    unfold World.cell?
    simp only [hg]
    simp
    rw [this]
    unfold iv
    rw [List.getElem?_map, List.getElem?_eq_getElem (by omega)]
    simp [List.getElem?_eq_getElem (show j < xs.length by omega)]
set_option maxRecDepth 100000 in
set_option maxHeartbeats 8000000 in
theorem advance_ok (h : IsW w b g mb n nw S) (m : Nat) (hS : Sorts m) (hnm : n ≤ m) (to0 : Nat) (ht0 : to0 < 18446744073709551616) :
    Calls Try.prog 16 #[.pointer (some ⟨b, 0, none⟩), .int .u64 (to0 : Int)] w fun e w' => (∃ v, e = .returned v ∧ w'.ownsRow w.heap.size 3 1 v (due (max to0 nw) S).length (iv (spots (due (max to0 nw) S)))) ∧ IsW w' b g mb n (max to0 nw) (late (max to0 nw) S) ∧ Fr (O3 b g mb) w w' := by
  obtain ⟨ct, F, L, fr, A, B, E, T, s, hr, hm, hi, hbm, hgm, hn⟩ := h
  obtain ⟨to, hto⟩ : ∃ to, max to0 nw = to := ⟨_, rfl⟩
  rw [hto]
  have hle : nw ≤ to := by omega
  have ht : to < 18446744073709551616 := by have := hi.hw; omega
  have hmax : max (to0 : Int) (nw : Int) = (to : Int) := by omega
  have e0 := hr.tn
  have hbb := hr.lt_b
  have hgg := hr.lt_g
  have hmm := hm.lt
  have hdl : (due to S).length ≤ 1024 := by
    have h1 : (due to S).length ≤ S.length := List.length_filter_le _ _
    have h2 := hi.len_le
    omega
  have hdn : ∀ p ∈ spots (due to S), p ≤ n := fun p hp => by
    obtain ⟨y, hy, rfl⟩ := mem_spots.1 hp
    have := hi.lt y (mem_due.1 hy).1
    omega
  have hcl : ct = (due to S).length + (late to S).length := by rw [hi.hc, ← List.length_append, due_late hi.srt]
  have hmx : (if to0 < nw then (nw : Int) else (to0 : Int)) = (to : Int) := by split <;> omega
  have HT1 := veil (turn_ok to ht)
  have HT2 := veil (turn_ok nw hi.hw)
  have HD0 : Hid (∀ p ∈ spots (due to S), p ≠ 0) := spots_ne0
  have HLN : Hid (ct ≤ 1024) := by show ct ≤ 1024; rw [hi.hc]; have := hi.len_le; omega
  have HDN := veil hdn
  have HCL := veil hcl
  clear hdn hcl hmax
  by_cases htn : to / 64 = nw / 64
  · have hdu := due_near hi.srt hle htn
    have hsw := sweep_ok hr hi hn to (to % 64 + 1) ht (by rw [if_pos htn])
    rw [hdu] at hsw
    have HSW := veil hsw
    have hadv := hi.advance hle ht (swept_near hi htn)
    obtain ⟨F', hF'⟩ : ∃ F', cut0 (to % 64 + 1) F = F' := ⟨_, rfl⟩
    obtain ⟨L', hL'⟩ : ∃ L', cut0 (to % 64 + 1) L = L' := ⟨_, rfl⟩
    obtain ⟨fr', hfr'⟩ : ∃ fr', fr = fr' := ⟨_, rfl⟩
    rw [hF', hL'] at HSW hadv
    have HADV : Hid (Inv n to (late to S).length F' L' fr' (zAt A 0 (spots (due to S))) (zAt B 0 (spots (due to S))) (zAt E 0 (spots (due to S))) (zAt T false (spots (due to S))) (late to S)) := by rw [← hfr']; exact hadv
    have HM : Hid (IsM w mb fr' s) := by rw [← hfr']; exact hm
    have hq : ((nw / 64 : Nat) : Int) = ((to / 64 : Nat) : Int) := by omega
    rw [hq] at HT2
    clear hr hm hi hdu hsw hadv hq htn hto hF' hL' hfr'
    generalize ((to / 64 : Nat) : Int) = q1 at *
    go_enter Try.func16, Try.ntmps16
    go_upto_region 4 with fail

    clear hmx
    go_wp2_with (first
      | (go_at_call 40; refine (HSW.out).mono ?_; rintro e w1 ⟨⟨v1, rfl, ho1⟩, hr1, hon1⟩; obtain ⟨av, cv, rfl⟩ := own_slice ho1; have e1 := hr1.tn; have HOz := veil ho1; have HRz := veil hr1; have HMz := veil (Exists.intro s (HM.out.block (hon1.block mb hmm (fun e => hbm e.symm) (fun e => hgm e.symm)))); have HFz := veil (Fr.of_only (S := O3 b g mb) hon1 (.inl rfl) (.inr (.inl rfl))); clear ho1 hr1 hon1))
    go_region_held3 (fun w' => w'.cell? ⟨b, 0, none⟩ = some (.int .u64 (nw : Int))) (go_keep)
      (first
        | (go_at_call 41; first
            | (refine (HT1.out _).mono ?_; rintro e wx ⟨rfl, hw⟩; subst hw)
            | (refine (HT2.out _).mono ?_; rintro e wx ⟨rfl, hw⟩; subst hw)))
    go_wp2
    replace HOz : Hid (w1.drew.ownsRow w.heap.size 3 1 (.slice av (due to S).length cv) (due to S).length (iv (spots (due to S)))) := own_kept HOz.out (fun _ _ => rfl)
    replace HRz := veil HRz.out.drew
    replace HMz : Hid (∃ s', IsM w1.drew mb fr' s') := by obtain ⟨s', q⟩ := HMz.out; exact ⟨s', q.block rfl⟩
    replace HFz := veil HFz.out.drew
    clear e1 e0 HSW HT1 HT2 HM
    obtain ⟨ps, hps⟩ : ∃ ps, spots (due to S) = ps := ⟨_, rfl⟩
    have hpl : ps.length = (due to S).length := by rw [← hps, spots_len]
    obtain ⟨N, hN⟩ : ∃ N, (due to S).length = N := ⟨_, rfl⟩
    rw [hps] at HOz HADV HDN HD0
    have HPS := veil hps
    rw [hN] at HOz HCL hdl hpl ⊢
    have HPL := veil hpl
    have HNN := veil hN
    clear hpl hps hN
    obtain ⟨c', hc'⟩ : ∃ c', (late to S).length = c' := ⟨_, rfl⟩
    rw [hc'] at HADV HCL
    clear hc'
    go_loopw [34] (fun iv_ wr => ∃ j : Nat, j ≤ N ∧ iv_ = .int .i64 (j : Int) ∧ Rep wr b g n nw ct (.map (some mb)) F' L' (zAt A 0 (ps.take j)) (zAt B 0 (ps.take j)) (zAt E 0 (ps.take j)) (zAt T false (ps.take j)) ∧ (∃ s', IsM wr mb fr' s') ∧ Fr (O3 b g mb) w wr ∧ wr.ownsRow w.heap.size 3 1 (.slice av N cv) N (iv ps)) (fun i _ => N - (intOf i).toNat)
    case atStart => exact ⟨0, by omega, rfl, by rw [List.take_zero, zAt_nil, zAt_nil, zAt_nil, zAt_nil]; exact HRz.out, HMz.out, HFz.out, HOz.out⟩
    case round =>
      obtain ⟨j, hj, rfl, hrep, ⟨s2, hm2⟩, hfr, hown⟩ := hrel
      clear HRz HMz HFz HOz
      by_cases hjN : j < N
      · obtain ⟨r, rfl, hrb, hrl, hcell⟩ := cell_of_own hown j hjN
        have hjp : j < ps.length := by have := HPL.out; omega
        have hpj : ps.getD j 0 = ps[j] := by simp [List.getElem?_eq_getElem hjp]
        have hmem : ps[j] ∈ ps := List.getElem_mem _
        have hpn := HDN.out _ hmem
        obtain ⟨q, hq⟩ : ∃ q, ps[j] = q + 1 := ⟨ps[j] - 1, by have := HD0.out _ hmem; omega⟩
        rw [hpj, hq] at hcell
        rw [hq] at hpn
        have hcell' : wr.cell? ⟨r, j, none⟩ = some (.int .i64 (q : Int)) := by
          rw [hcell]
          congr 2
          omega
        have htk : ps.take (j + 1) = ps.take j ++ [q + 1] := by rw [List.take_succ_eq_append_getElem hjp, hq]
        have hnn := HNN.out
        obtain ⟨cp, en⟩ := hrep.en
        have n0 := hrep.ea (q + 1) hpn; have n1 := hrep.eb (q + 1) hpn; have n2 := hrep.ee (q + 1) hpn; have n3 := hrep.et (q + 1) hpn
        have fg := hrep.fg
        have hjN' : (j : Int) < (N : Int) := by omega
        have HREP : Hid (Rep ((((wr.setCell ⟨g, (q + 1) * 4, none⟩ (.int .i64 0)).setCell ⟨g, (q + 1) * 4 + 1, none⟩ (.int .i64 0)).setCell ⟨g, (q + 1) * 4 + 2, none⟩ (.int .u64 0)).setCell ⟨g, (q + 1) * 4 + 3, none⟩ (.bool false)) b g n nw ct (.map (some mb)) F' L' (zAt A 0 (ps.take (j + 1))) (zAt B 0 (ps.take (j + 1))) (zAt E 0 (ps.take (j + 1))) (zAt T false (ps.take (j + 1)))) := by
          rw [htk, zAt_more, zAt_more, zAt_more, zAt_more]
          exact (((hrep.setA (q + 1) hpn 0).setB (q + 1) hpn 0).setE (q + 1) hpn 0).setT (q + 1) hpn false
        have hK4 : ∀ k, k ≠ g → ((((wr.setCell ⟨g, (q + 1) * 4, none⟩ (.int .i64 0)).setCell ⟨g, (q + 1) * 4 + 1, none⟩ (.int .i64 0)).setCell ⟨g, (q + 1) * 4 + 2, none⟩ (.int .u64 0)).setCell ⟨g, (q + 1) * 4 + 3, none⟩ (.bool false)).heap[k]? = wr.heap[k]? := fun k hk => by rw [Below.heap_setCell _ _ _ _ hk, Below.heap_setCell _ _ _ _ hk, Below.heap_setCell _ _ _ _ hk, Below.heap_setCell _ _ _ _ hk]
        have HMS := veil (hm2.block (hK4 mb (fun e => hgm e.symm)))
        have HFS := veil ((((hfr.setCell (a := ⟨g, (q + 1) * 4, none⟩) (.inr (.inl rfl)) (.int .i64 0)).setCell (a := ⟨g, (q + 1) * 4 + 1, none⟩) (.inr (.inl rfl)) (.int .i64 0)).setCell (a := ⟨g, (q + 1) * 4 + 2, none⟩) (.inr (.inl rfl)) (.int .u64 0)).setCell (a := ⟨g, (q + 1) * 4 + 3, none⟩) (.inr (.inl rfl)) (.bool false))
        have HOS := veil (own_kept hown (fun k hk => hK4 k (by have := (own_ge hown hk).1; omega)))
        have ql : q + 1 < n + 1 := by omega
        have qb : q ≤ 1024 := by omega
        clear hrep hm2 hfr hown hcell hjp hpj hmem hpn hq htk hK4 HCL HADV HPL HNN HDN HD0
        go_wp2
        go_roundw
        case rel => exact ⟨j + 1, by omega, by go_num, HREP.out, ⟨_, HMS.out⟩, HFS.out, HOS.out⟩
        case measure => simp [intOf]; omega
      · obtain rfl : j = N := by omega
        have hjN' : ¬ (j : Int) < (j : Int) := by omega
        have hct := HCL.out
        have etc := hrep.tc
        have etn := hrep.tn
        have fb := hrep.fb
        have hps : ps.take j = ps := List.take_of_length_le (by have := HPL.out; omega)
        rw [hps] at hrep
        have hcb : ct ≤ 1024 + 1024 := by have := HLN.out; omega
        have hwc : IntKind.i64.wrap ((ct : Int) - (j : Int)) = (c' : Int) := by rw [show ((ct : Int) - (j : Int)) = (c' : Int) by omega]; simp [IntKind.wrap, IntKind.bits, IntKind.signed]; omega
        have hwc2 : (ct : Int) - (j : Int) = (c' : Int) := by omega
        have HREP : Hid (Rep ((wr.setCell ⟨b, 131, none⟩ (.int .i64 (c' : Int))).setCell ⟨b, 0, none⟩ (.int .u64 (to : Int))) b g n to c' (.map (some mb)) F' L' (zAt A 0 ps) (zAt B 0 ps) (zAt E 0 ps) (zAt T false ps)) := (hrep.setN c').setW to
        have hK4 : ∀ k, k ≠ b → ((wr.setCell ⟨b, 131, none⟩ (.int .i64 (c' : Int))).setCell ⟨b, 0, none⟩ (.int .u64 (to : Int))).heap[k]? = wr.heap[k]? := fun k hk => by rw [Below.heap_setCell _ _ _ _ hk, Below.heap_setCell _ _ _ _ hk]
        have HMS := veil (hm2.block (hK4 mb (fun e => hbm e.symm)))
        have HFS := veil ((hfr.setCell (a := ⟨b, 131, none⟩) (.inl rfl) (.int .i64 (c' : Int))).setCell (a := ⟨b, 0, none⟩) (.inl rfl) (.int .u64 (to : Int)))
        have HOS := veil (own_kept hown (fun k hk => hK4 k (by have := (own_ge hown hk).1; omega)))
        clear hrep hm2 hfr hown hps hK4 HCL HPL HDN HD0 hct
        go_wp2
        go_ret
        exact ⟨⟨_, rfl, by rw [HNN.out, HPS.out]; exact HOS.out⟩, ⟨c', F', L', fr', _, _, _, _, s2, HREP.out, HMS.out, HADV.out, hbm, hgm, hn⟩, HFS.out⟩
  · have htl : nw / 64 < to / 64 := by omega
    have HSW := veil (sweep_ok hr hi hn to 64 ht (by rw [if_neg htn]))
    have hz : ∀ X : Nat → Nat, ∀ W, Rep W b g n nw ct (.map (some mb)) (cut0 64 F) (cut0 64 L) A B E T → Rep W b g n nw ct (.map (some mb)) (fun _ => 0) (fun _ => 0) A B E T := fun _ W hW => by
      refine ⟨hW.bg, hW.en, hW.tn, hW.tm, hW.tc, fun x hx => ?_, fun x hx => ?_, hW.ea, hW.eb, hW.ee, hW.et, hW.fb, hW.fg⟩
      · have := hW.sf x hx; unfold cut0 at this; rwa [if_pos hx] at this
      · have := hW.sl x hx; unfold cut0 at this; rwa [if_pos hx] at this
    have HFE : Hid (∀ W, Rep W b g n nw ct (.map (some mb)) (cut0 64 F) (cut0 64 L) A B E T → IsM W mb fr s → Calls Try.prog 42 #[.pointer (some ⟨b, 0, none⟩), .int .u64 (to : Int)] W fun e w' => ∃ ls : List Nat, Hid (upTo nw S (nw / 64 * 64) 64 ++ dueL to nw S ls = due to S ∧ Swept n nw to F L fr (ffF to fr ls) (ffL to fr ls) (frL fr ls)) ∧ (∃ v, e = .returned v ∧ w'.ownsRow W.heap.size 3 1 v (dueL to nw S ls).length (iv (spots (dueL to nw S ls)))) ∧
      Rep w' b g n nw ct (.map (some mb)) (ffF to fr ls) (ffL to fr ls) A B E T ∧ (∃ s', IsM w' mb (frL fr ls) s') ∧ Fr (O3 b g mb) W w') := fun W h1 h2 => by
      refine (fetch_ok (hz F W h1) rfl rfl h2 hi hbm hgm hn m hS hnm to ht htl).mono ?_
      rintro e w' ⟨ls, q1, q2, q3⟩
      exact ⟨ls, ⟨due_far hi hle htl q1 q2, swept_far hi htl q2⟩, q3⟩
    have HI := veil hi
    have HM := veil hm
    have hneb : (((to / 64 : Nat) : Int) != ((nw / 64 : Nat) : Int)) = true := by simp; omega
    have hne : ¬ ((to / 64 : Nat) : Int) = ((nw / 64 : Nat) : Int) := by omega
    have HU1 : Hid ((upTo nw S (nw / 64 * 64) 64).length ≤ 1024) := by
      have h1 := upTo_len (nw := nw) hi.srt (nw / 64 * 64) 64
      have h2 := hi.len_le
      show _ ≤ 1024
      omega
    obtain ⟨U, hU⟩ : ∃ U, upTo nw S (nw / 64 * 64) 64 = U := ⟨_, rfl⟩
    rw [hU] at HSW HFE HU1
    clear hr hm hi htl htn hto hU hz
    generalize ((to / 64 : Nat) : Int) = q1 at *
    generalize ((nw / 64 : Nat) : Int) = q2 at *
    go_enter Try.func16, Try.ntmps16
    go_upto_region 4 with fail

    clear hmx
    go_wp2_with (first
      | (go_at_call 40; refine (HSW.out).mono ?_; rintro e w1 ⟨⟨v1, rfl, ho1⟩, hr1, hon1⟩; obtain ⟨av1, cv1, rfl⟩ := own_slice ho1; have e1 := hr1.tn; have HO1 := veil ho1; have HR1 := veil hr1; have HM1 := veil (HM.out.block (hon1.block mb hmm (fun e => hbm e.symm) (fun e => hgm e.symm))); have HF1 := veil (Fr.of_only (S := O3 b g mb) hon1 (.inl rfl) (.inr (.inl rfl))); clear ho1 hr1 hon1))
    go_region_held3 (fun w' => w'.cell? ⟨b, 0, none⟩ = some (.int .u64 (nw : Int))) (go_keep)
      (first
        | (go_at_call 41; first
            | (refine (HT1.out _).mono ?_; rintro e wx ⟨rfl, hw⟩; subst hw)
            | (refine (HT2.out _).mono ?_; rintro e wx ⟨rfl, hw⟩; subst hw)))
    have HO1d : Hid (w1.drew.ownsRow w.heap.size 3 1 (.slice av1 U.length cv1) U.length (iv (spots U))) := own_kept HO1.out (fun _ _ => rfl)
    have HR1d := veil HR1.out.drew
    have HM1d : Hid (IsM w1.drew mb fr s) := HM1.out.block rfl
    have HF1d := veil HF1.out.drew
    have hu1 := HU1.out
    have hw1 : w.heap.size ≤ w1.heap.size := HF1.out.size
    clear e1 e0 HSW HT1 HT2 HM HO1 HR1 HM1 HF1 HU1
    go_wp2_with (first
      | (go_at_call 42; refine (HFE.out _ HR1d.out HM1d.out).mono ?_; rintro e w2 ⟨ls, HX, ⟨v2, rfl, ho2⟩, hr2, hm2, hf2⟩; obtain ⟨av2, cv2, rfl⟩ := own_slice ho2; have HV2 : Hid (w2.ownsRow w.heap.size 3 1 (.slice av1 U.length cv1) U.length (iv (spots U))) := own_kept HO1d.out (fun k hk => hf2.block k (own_ge HO1d.out hk).2 (fun q => by have := (own_ge HO1d.out hk).1; rcases q with q | q | q <;> omega)); have HO2 := veil ho2; have HR2 := veil hr2; have HM2 := veil hm2; have HF2 := veil (HF1d.out.trans hf2); have hd2 : (dueL to nw S ls).length ≤ 1024 := (by have h1 := congrArg List.length HX.out.1; rw [List.length_append] at h1; omega); have hsz2 := hf2.size; clear ho2 hr2 hm2 hf2)
      | (at_builtin; (have hh := HV2.out; clear hh); refine wpList_append_rows _ rfl _ _ rfl w.heap.size _ _ _ _ _ _ _ rfl HV2.out rfl HO2.out (iv_one _) (by omega) (Nat.le_trans hw1 hsz2) ?_; intro v' w6 hown' hgrow; obtain ⟨av, cv, rfl⟩ := own_slice hown'; have hge : ∀ k, (Value.slice av1 U.length cv1).ownBlock = some k → w.heap.size ≤ k := (fun k hk => (own_ge HO1d.out hk).1); have HOx := veil hown'; have HRx := veil (HR2.out.kept (hgrow.block b HR2.out.lt_b (fun e => by have := hge b e.symm; omega)) (hgrow.block g HR2.out.lt_g (fun e => by have := hge g e.symm; omega))); have HMx : Hid (∃ s', IsM w6 mb (frL fr ls) s') := (by obtain ⟨s', q⟩ := HM2.out; exact ⟨s', q.block (hgrow.block mb q.lt (fun e => by have := hge mb e.symm; omega))⟩); have HFx : Hid (Fr (O3 b g mb) w w6) := ⟨hgrow.os.trans HF2.out.os, hgrow.tape.trans HF2.out.tape, hgrow.output.trans HF2.out.output, Nat.le_trans HF2.out.size hgrow.size, fun k hk hn => (hgrow.block k (Nat.lt_of_lt_of_le hk HF2.out.size) (fun e => by have := hge k e.symm; omega)).trans (HF2.out.block k hk hn)⟩; clear hown' hgrow hge))
    have hadv := HI.out.advance hle ht HX.out.2
    have hlenU : U.length + (dueL to nw S ls).length = (due to S).length := by rw [← HX.out.1, List.length_append]
    have HOz : Hid (w6.ownsRow w.heap.size 3 1 (.slice av (due to S).length cv) (due to S).length (iv (spots (due to S)))) := by
      have q := HOx.out
      rw [← iv_append, ← spots_append, HX.out.1, hlenU] at q
      exact q
    have hlenI : (U.length : Int) + ((dueL to nw S ls).length : Int) = ((due to S).length : Int) := by omega
    rw [hlenU, hlenI]
    clear hlenI
    obtain ⟨F', hF'⟩ : ∃ F', ffF to fr ls = F' := ⟨_, rfl⟩
    obtain ⟨L', hL'⟩ : ∃ L', ffL to fr ls = L' := ⟨_, rfl⟩
    obtain ⟨fr', hfr'⟩ : ∃ fr', frL fr ls = fr' := ⟨_, rfl⟩
    rw [hF', hL', hfr'] at hadv
    have HADV := veil hadv
    have HRz : Hid (Rep w6 b g n nw ct (.map (some mb)) F' L' A B E T) := by rw [← hF', ← hL']; exact HRx.out
    have HMz : Hid (∃ s', IsM w6 mb fr' s') := by rw [← hfr']; exact HMx.out
    have HFz := HFx
    clear hadv hlenU HOx HRx HMx HFx hF' hL' hfr' HX HI HFE HO1d HR1d HM1d HF1d hu1 hw1 hd2 hsz2 HV2 HO2 HR2 HM2 HF2 hne hneb
    obtain ⟨ps, hps⟩ : ∃ ps, spots (due to S) = ps := ⟨_, rfl⟩
    have hpl : ps.length = (due to S).length := by rw [← hps, spots_len]
    obtain ⟨N, hN⟩ : ∃ N, (due to S).length = N := ⟨_, rfl⟩
    rw [hps] at HOz HADV HDN HD0
    have HPS := veil hps
    rw [hN] at HOz HCL hdl hpl ⊢
    have HPL := veil hpl
    have HNN := veil hN
    clear hpl hps hN
    obtain ⟨c', hc'⟩ : ∃ c', (late to S).length = c' := ⟨_, rfl⟩
    rw [hc'] at HADV HCL
    clear hc'
    go_loopw [34] (fun iv_ wr => ∃ j : Nat, j ≤ N ∧ iv_ = .int .i64 (j : Int) ∧ Rep wr b g n nw ct (.map (some mb)) F' L' (zAt A 0 (ps.take j)) (zAt B 0 (ps.take j)) (zAt E 0 (ps.take j)) (zAt T false (ps.take j)) ∧ (∃ s', IsM wr mb fr' s') ∧ Fr (O3 b g mb) w wr ∧ wr.ownsRow w.heap.size 3 1 (.slice av N cv) N (iv ps)) (fun i _ => N - (intOf i).toNat)
    case atStart => exact ⟨0, by omega, rfl, by rw [List.take_zero, zAt_nil, zAt_nil, zAt_nil, zAt_nil]; exact HRz.out, HMz.out, HFz.out, HOz.out⟩
    case round =>
      obtain ⟨j, hj, rfl, hrep, ⟨s2, hm2⟩, hfr, hown⟩ := hrel
      clear HRz HMz HFz HOz
      by_cases hjN : j < N
      · obtain ⟨r, rfl, hrb, hrl, hcell⟩ := cell_of_own hown j hjN
        have hjp : j < ps.length := by have := HPL.out; omega
        have hpj : ps.getD j 0 = ps[j] := by simp [List.getElem?_eq_getElem hjp]
        have hmem : ps[j] ∈ ps := List.getElem_mem _
        have hpn := HDN.out _ hmem
        obtain ⟨q, hq⟩ : ∃ q, ps[j] = q + 1 := ⟨ps[j] - 1, by have := HD0.out _ hmem; omega⟩
        rw [hpj, hq] at hcell
        rw [hq] at hpn
        have hcell' : wr.cell? ⟨r, j, none⟩ = some (.int .i64 (q : Int)) := by
          rw [hcell]
          congr 2
          omega
        have htk : ps.take (j + 1) = ps.take j ++ [q + 1] := by rw [List.take_succ_eq_append_getElem hjp, hq]
        have hnn := HNN.out
        obtain ⟨cp, en⟩ := hrep.en
        have n0 := hrep.ea (q + 1) hpn; have n1 := hrep.eb (q + 1) hpn; have n2 := hrep.ee (q + 1) hpn; have n3 := hrep.et (q + 1) hpn
        have fg := hrep.fg
        have hjN' : (j : Int) < (N : Int) := by omega
        have HREP : Hid (Rep ((((wr.setCell ⟨g, (q + 1) * 4, none⟩ (.int .i64 0)).setCell ⟨g, (q + 1) * 4 + 1, none⟩ (.int .i64 0)).setCell ⟨g, (q + 1) * 4 + 2, none⟩ (.int .u64 0)).setCell ⟨g, (q + 1) * 4 + 3, none⟩ (.bool false)) b g n nw ct (.map (some mb)) F' L' (zAt A 0 (ps.take (j + 1))) (zAt B 0 (ps.take (j + 1))) (zAt E 0 (ps.take (j + 1))) (zAt T false (ps.take (j + 1)))) := by
          rw [htk, zAt_more, zAt_more, zAt_more, zAt_more]
          exact (((hrep.setA (q + 1) hpn 0).setB (q + 1) hpn 0).setE (q + 1) hpn 0).setT (q + 1) hpn false
        have hK4 : ∀ k, k ≠ g → ((((wr.setCell ⟨g, (q + 1) * 4, none⟩ (.int .i64 0)).setCell ⟨g, (q + 1) * 4 + 1, none⟩ (.int .i64 0)).setCell ⟨g, (q + 1) * 4 + 2, none⟩ (.int .u64 0)).setCell ⟨g, (q + 1) * 4 + 3, none⟩ (.bool false)).heap[k]? = wr.heap[k]? := fun k hk => by rw [Below.heap_setCell _ _ _ _ hk, Below.heap_setCell _ _ _ _ hk, Below.heap_setCell _ _ _ _ hk, Below.heap_setCell _ _ _ _ hk]
        have HMS := veil (hm2.block (hK4 mb (fun e => hgm e.symm)))
        have HFS := veil ((((hfr.setCell (a := ⟨g, (q + 1) * 4, none⟩) (.inr (.inl rfl)) (.int .i64 0)).setCell (a := ⟨g, (q + 1) * 4 + 1, none⟩) (.inr (.inl rfl)) (.int .i64 0)).setCell (a := ⟨g, (q + 1) * 4 + 2, none⟩) (.inr (.inl rfl)) (.int .u64 0)).setCell (a := ⟨g, (q + 1) * 4 + 3, none⟩) (.inr (.inl rfl)) (.bool false))
        have HOS := veil (own_kept hown (fun k hk => hK4 k (by have := (own_ge hown hk).1; omega)))
        have ql : q + 1 < n + 1 := by omega
        have qb : q ≤ 1024 := by omega
        clear hrep hm2 hfr hown hcell hjp hpj hmem hpn hq htk hK4 HCL HADV HPL HNN HDN HD0
        go_wp2
        go_roundw
        case rel => exact ⟨j + 1, by omega, by go_num, HREP.out, ⟨_, HMS.out⟩, HFS.out, HOS.out⟩
        case measure => simp [intOf]; omega
      · obtain rfl : j = N := by omega
        have hjN' : ¬ (j : Int) < (j : Int) := by omega
        have hct := HCL.out
        have etc := hrep.tc
        have etn := hrep.tn
        have fb := hrep.fb
        have hps : ps.take j = ps := List.take_of_length_le (by have := HPL.out; omega)
        rw [hps] at hrep
        have hcb : ct ≤ 1024 + 1024 := by have := HLN.out; omega
        have hwc : IntKind.i64.wrap ((ct : Int) - (j : Int)) = (c' : Int) := by rw [show ((ct : Int) - (j : Int)) = (c' : Int) by omega]; simp [IntKind.wrap, IntKind.bits, IntKind.signed]; omega
        have hwc2 : (ct : Int) - (j : Int) = (c' : Int) := by omega
        have HREP : Hid (Rep ((wr.setCell ⟨b, 131, none⟩ (.int .i64 (c' : Int))).setCell ⟨b, 0, none⟩ (.int .u64 (to : Int))) b g n to c' (.map (some mb)) F' L' (zAt A 0 ps) (zAt B 0 ps) (zAt E 0 ps) (zAt T false ps)) := (hrep.setN c').setW to
        have hK4 : ∀ k, k ≠ b → ((wr.setCell ⟨b, 131, none⟩ (.int .i64 (c' : Int))).setCell ⟨b, 0, none⟩ (.int .u64 (to : Int))).heap[k]? = wr.heap[k]? := fun k hk => by rw [Below.heap_setCell _ _ _ _ hk, Below.heap_setCell _ _ _ _ hk]
        have HMS := veil (hm2.block (hK4 mb (fun e => hbm e.symm)))
        have HFS := veil ((hfr.setCell (a := ⟨b, 131, none⟩) (.inl rfl) (.int .i64 (c' : Int))).setCell (a := ⟨b, 0, none⟩) (.inl rfl) (.int .u64 (to : Int)))
        have HOS := veil (own_kept hown (fun k hk => hK4 k (by have := (own_ge hown hk).1; omega)))
        clear hrep hm2 hfr hown hps hK4 HCL HPL HDN HD0 hct
        go_wp2
        go_ret
        exact ⟨⟨_, rfl, by rw [HNN.out, HPS.out]; exact HOS.out⟩, ⟨c', F', L', fr', _, _, _, _, s2, HREP.out, HMS.out, HADV.out, hbm, hgm, hn⟩, HFS.out⟩
end
end Go.Proofs.Ytjmbadadelelfaa
