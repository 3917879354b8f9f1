/-
  For every size, every deeds and every id PheapDeletes answers true: what is deleted is gone, all others stay in order. No condition.
-/
import Derived.Test.YtiledmfnhahmiaaRows
import Derived.Test.YtiledmfnhahmiaaH14
import Derived.WalkKit
import Derived.ProofKit
import Derived.OpenShut
import Derived.RowKit3
import Derived.Laws.Cover2
import Derived.Laws.IdiomArrays
import Derived.ChangeOld
import Derived.Below
import Derived.Carry
import Derived.Lib.SmallJoins
namespace Go.Proofs.Ytiledmfnhahmiaa.pheapDeletes
open Go.ChangeShapes Go.WideShapes Go.ChangeAt Go.RowKit
set_option linter.unusedVariables false

theorem own : ownKnob Try.prog.godebug = none := by kernel_rfl
theorem laidOut : laidOutB Try.prog = true := by kernel_rfl
open Go.Lib
def wanted (k : Int) (xs : List Int) : List Int := xs.filter (fun y => decide (y ≠ k))
theorem wanted_hit (k : Int) (xs : List Int) : wanted k (xs ++ [k]) = wanted k xs := by unfold wanted; simp
theorem wanted_miss (k x : Int) (xs : List Int) (h : ¬ x = k) : wanted k (xs ++ [x]) = wanted k xs ++ [x] := by unfold wanted; simp [h]
theorem wanted_len (k : Int) (xs : List Int) : (wanted k xs).length ≤ xs.length := List.length_filter_le _ _
theorem wanted_del {n : Nat} {L : List Item} (hg : Good n L) (x : Int) : wanted x (idsL L) = idsL (delL n L x) := by
  rcases ids_cases n L hg x with hi | ⟨k, d, s, rfl, hk, hm⟩ | ⟨k, rfl, hk, hm⟩
  · rw [delL_stay (by rw [delC_range hi]; decide)]
    unfold wanted idsL
    rw [List.filter_eq_self]
    intro y hy
    obtain ⟨it, hit, rfl⟩ := List.mem_map.1 hy
    have := hg.rng it hit
    simp only [decide_eq_true_eq]
    omega
  · rw [delL_ok (delC_yes hk hm)]
    unfold wanted idsL out
    rw [List.filter_map]
    congr 1
    apply List.filter_congr
    intro it _
    simp only [Function.comp, bne]
    by_cases e : it.1 = k
    · simp [e]
    · have : ¬ (it.1 : Int) = (k : Int) := by omega
      simp [e, this]
  · rw [delL_stay (by rw [delC_no hk hm]; decide)]
    unfold wanted idsL
    rw [List.filter_eq_self]
    intro y hy
    obtain ⟨it, hit, rfl⟩ := List.mem_map.1 hy
    have := hm it hit
    simp only [decide_eq_true_eq]
    omega
theorem del_zero {n : Nat} {L : List Item} (hg : Good n L) (x : Int) : decide (x ∈ idsL L) = decide (delC n L x = 0) := by
  rcases ids_cases n L hg x with hi | ⟨k, d, s, rfl, hk, hm⟩ | ⟨k, rfl, hk, hm⟩
  · rw [delC_range hi]
    simp only [show ¬ (2 : Int) = 0 by decide, decide_false, decide_eq_false_iff_not]
    intro h
    obtain ⟨it, hit, e⟩ := List.mem_map.1 h
    have := hg.rng it hit
    omega
  · rw [delC_yes hk hm]
    simp only [decide_true, decide_eq_true_eq]
    exact List.mem_map.2 ⟨_, hm, rfl⟩
  · rw [delC_no hk hm]
    simp only [show ¬ (6 : Int) = 0 by decide, decide_false, decide_eq_false_iff_not]
    intro h
    obtain ⟨it, hit, e⟩ := List.mem_map.1 h
    have := hm it hit
    omega
theorem cells_of {w : World} {base : Nat} {v : Value} {xs : List Int} (h : IL w base v xs) : ∃ g, ∀ j, j < xs.length → (∃ cap, v = .slice (some ⟨g, 0, none⟩) xs.length cap) ∧ g < w.heap.size ∧ w.cell? ⟨g, j, none⟩ = some (.int .i64 (xs.getD j 0)) := by
  by_cases hx : xs = []
  · exact ⟨0, fun j hj => by subst hx; simp at hj⟩
  · obtain ⟨g, cap, e, _, hg, hc⟩ := h.cells hx
    exact ⟨g, fun j hj => ⟨⟨cap, e⟩, hg, hc j hj⟩⟩
set_option maxHeartbeats 8000000 in
theorem way (m : Nat) (hm : m < 256) (a : Option Addr) (len cap : Nat) (D : Nat → Dd) (x : Int) (w : World) (hlen : len < 9223372036854775808) (hd : Dds w a len D) :
    Calls Try.prog 6 #[.int .u8 m, .slice a len cap, .int .i64 x] w fun e w' => e = .returned (.bool true) ∧ Below w.heap.size w w' := by
  have HP := veil (play_ok w m hm a len cap hlen D hd)
  clear hd
  go_enter Try.func6, Try.ntmps6
  go_wp2_with (first
    | (go_at_call 11; refine (HP.out).mono ?_; rintro e w1 ⟨b, g, rb, base, v, L, rfl, h1, h2, h3, h4, hB, hL⟩; have HB := veil hB; have HL := veil hL; clear hB hL)
    | (go_at_call 12; refine (live_heap _).mono ?_; rintro e w2 ⟨rfl, hb2⟩; have HB2 := veil (HB.out.below hb2).q; have HL2 := veil (HL.out.trans (hb2.mono HL.out.size)); clear hb2)
    | (go_at_call 14; refine (hlist_ok HB2.out).mono ?_; rintro e w3 ⟨v3, rfl, hil, hb3⟩; obtain ⟨ga, hcs⟩ := cells_of hil; have hI := hil; obtain ⟨a3, c3, rfl⟩ := hil.slice; have HCS := veil hcs; have HI3 := veil hI; have HB3 := veil (HB2.out.below hb3); have HL3 := veil (HL2.out.trans (hb3.mono HL2.out.size)); have hs3 := hb3.size; have hbl2 := HB2.out.blocks; clear hb3 hil hcs hI))
  obtain ⟨i0, hi0, hz0, hz1, hz2⟩ := info_parts infoInt
  have hG := HB3.out.good
  have hxl : (idsL L).length ≤ 1024 := by rw [idsL_len]; exact Nat.le_trans hG.len HB3.out.nle
  have HDZ := veil (del_zero hG x)
  have HWD := veil (wanted_del hG x)
  clear hG HB HL HB2 HL2 HP
  have HDel : Hid (∀ W, IsH W b g (m % 16 + 1) L → Calls Try.prog 22 #[.pointer (some ⟨b, 0, none⟩), .int .i64 x] W fun e w' => e = .returned (.int .i64 (delC (m % 16 + 1) L x)) ∧ IsH w' b g (m % 16 + 1) (delL (m % 16 + 1) L x) ∧ Fr (fun k => k = b ∨ k = g) W w') := fun W hh => hdelete_all hh x
  generalize delC (m % 16 + 1) L x = cc at *
  generalize delL (m % 16 + 1) L x = L2 at *
  generalize hxs : idsL L = xs at *
  have hs23 : w.heap.size ≤ w3.heap.size := HL3.out.size
  go_loopw [10, 12, 13] (fun o t i wr => ∃ j : Nat, j ≤ xs.length ∧ i = .int .i64 j ∧ IL wr w3.heap.size o (wanted x (xs.take j)) ∧ t = .bool (decide (x ∈ xs.take j)) ∧ Below w3.heap.size w3 wr) (fun _ _ i _ => xs.length - (intOf i).toNat)
  case atStart => exact ⟨0, by omega, rfl, World.ownsRow_nil _ _ _ _, by simp, Below.refl _ _⟩
  case round =>
    obtain ⟨j, hj, rfl, hil, rfl, hbel⟩ := hrel
    obtain ⟨ao, co, rfl⟩ := hil.slice
    have HIL := veil hil
    have HBE := veil hbel
    by_cases hjl : j < xs.length
    · obtain ⟨⟨c3', he3⟩, hga, y0⟩ := HCS.out j hjl
      injection he3 with he3 _ _
      subst he3
      have y1 := (hbel.cell (p := ⟨ga, j, none⟩) hga).trans y0
      have htk : xs.take (j + 1) = xs.take j ++ [xs.getD j 0] := by
        rw [List.take_add_one]
        simp [List.getD, hjl]
      have hlf : (wanted x (xs.take j)).length ≤ 1024 := by
        have := wanted_len x (xs.take j)
        have : (xs.take j).length ≤ xs.length := by rw [List.length_take]; omega
        omega
      have hsz := hbel.size
      have HTK := veil htk
      have HLF := veil hlf
      generalize xs.getD j 0 = y at *
      generalize hdec : decide (x ∈ xs.take j) = bt at *
      have HDE := veil hdec
      by_cases hx : y = x
      · clear hil hbel htk y0 hdec hlf
        subst hx
        go_wp2
        go_roundw
        case rel =>
          refine ⟨j + 1, by omega, by go_num, ?_, ?_, HBE.out⟩
          · rw [HTK.out, wanted_hit]; exact HIL.out
          · rw [HTK.out]; simp
        case measure => simp [intOf]; omega
      · clear hil hbel htk y0 hdec
        go_wp2_with (at_builtin; refine wpList_append_own _ rfl _ _ 30 rfl w3.heap.size 3 i0 (.int .i64 0) 1 8 Try.underlying30 hi0 hz0 hz1 hz2 rfl (by decide) _ _ _ rfl (World.ownsRow.alloc HIL.out _) ⟨wr.heap.size, 0, none⟩ 1 1 [.int .i64 y] rfl rfl (cell_one_new _ _ _) (by simp [Value.oneCell']) (by unfold maxLen; omega) (by omega) (by simp; omega) ?_; intro v' w6 hown' hgrow _; obtain ⟨a6, d6, rfl⟩ := owns_slice hown'; have HO := veil hown'; have HG := veil hgrow; clear hown' hgrow)
        refine ⟨⟨_, _, _, ⟨j + 1, by omega, by go_num, ?_, ?_, ?_⟩, rfl, rfl, rfl⟩, by simp [intOf]; omega⟩
        · rw [HTK.out, wanted_miss _ _ _ hx]
          have := HO.out
          unfold IL
          simpa using this
        · rw [HTK.out, ← HDE.out]
          have : ¬ x = y := fun e => hx e.symm
          simp [this]
        · exact (HBE.out.alloc (by simpa using HBE.out.size) _).grown HG.out (by simp; omega) (fun q hq => (World.ownsRow.lt HIL.out q hq).1)
    · have hj' : j = xs.length := by omega
      have hdz : decide (x ∈ xs.take j) = decide (cc = 0) := by rw [hj', List.take_length]; exact HDZ.out
      have hwl : wanted x (xs.take j) = idsL L2 := by rw [hj', List.take_length]; exact HWD.out
      rw [hdz]
      have key : ∀ S, S = idsL L2 → IL wr w3.heap.size (.slice ao (wanted x (xs.take j)).length co) S := fun S e => by rw [e, ← hwl]; exact hil
      have hi2 := key _ rfl
      have hwn : (wanted x (xs.take j)).length = L2.length := by rw [hwl, idsL_len]
      rw [hwn] at hi2 ⊢
      clear key hil HIL hwl hwn hdz HDZ HWD
      have HIW := veil hi2
      have HD := veil (HDel.out wr (HB3.out.below hbel))
      have hbw : b < w3.heap.size := by have := hbl2.1; omega
      have hgw : g < w3.heap.size := by have := hbl2.2.1; omega
      have HBW := veil (HL3.out.trans (hbel.mono hs23))
      clear hi2 hbel HDel
      have hjn : ¬ (j : Int) < (xs.length : Int) := by omega
      by_cases hcc : cc = 0
      · subst hcc
        go_wp2_with (first
          | (go_at_call 22; refine (HD.out).mono ?_; rintro e w7 ⟨rfl, hq7, hf7⟩; have HQ7 := veil hq7; have HI7 := veil (HIW.out.apart hf7 hbw hgw); have HB7 := veil (below_fr HBW.out (Nat.le_refl _) hf7 h1 h2); have hl2 : (idsL L2).length ≤ 1024 := (by rw [idsL_len]; exact Nat.le_trans hq7.good.len hq7.nle); clear hq7 hf7)
          | (go_at_call 14; refine (hlist_ok HQ7.out).mono ?_; rintro e w8 ⟨v8, rfl, hil, hb8⟩; have HQ8 := veil (HQ7.out.below hb8); have HI8 := veil hil; have HI7' := veil (HI7.out.below hb8); have HB8 := veil (HB7.out.trans (hb8.mono HB7.out.size)); clear hil hb8)
          | (go_at_call 21; refine (same_yes _ _ _ _ _ (idsL L2) hl2 HI8.out HI7'.out).mono ?_; rintro e w9 ⟨rfl, q, hw⟩; have HQ9 := veil (show IsH w9 _ _ _ _ by rw [hw]; exact HQ8.out.drewN _); have HB9 := veil (show Below w.heap.size w w9 by rw [hw]; exact below_drewN HB8.out _); clear hw)
          | (go_at_call 15; refine (hlen_ok HQ9.out).mono ?_; rintro e w10 ⟨rfl, hw⟩; replace hw := hw.symm; subst hw))
        go_ret
        exact ⟨by simp, HB9.out⟩
      · go_wp2_with (first
          | (go_at_call 22; refine (HD.out).mono ?_; rintro e w7 ⟨rfl, hq7, hf7⟩; have HQ7 := veil hq7; have HI7 := veil (HIW.out.apart hf7 hbw hgw); have HB7 := veil (below_fr HBW.out (Nat.le_refl _) hf7 h1 h2); have hl2 : (idsL L2).length ≤ 1024 := (by rw [idsL_len]; exact Nat.le_trans hq7.good.len hq7.nle); clear hq7 hf7)
          | (go_at_call 14; refine (hlist_ok HQ7.out).mono ?_; rintro e w8 ⟨v8, rfl, hil, hb8⟩; have HQ8 := veil (HQ7.out.below hb8); have HI8 := veil hil; have HI7' := veil (HI7.out.below hb8); have HB8 := veil (HB7.out.trans (hb8.mono HB7.out.size)); clear hil hb8)
          | (go_at_call 21; refine (same_yes _ _ _ _ _ (idsL L2) hl2 HI8.out HI7'.out).mono ?_; rintro e w9 ⟨rfl, q, hw⟩; have HQ9 := veil (show IsH w9 _ _ _ _ by rw [hw]; exact HQ8.out.drewN _); have HB9 := veil (show Below w.heap.size w w9 by rw [hw]; exact below_drewN HB8.out _); clear hw)
          | (go_at_call 15; refine (hlen_ok HQ9.out).mono ?_; rintro e w10 ⟨rfl, hw⟩; replace hw := hw.symm; subst hw))
        go_ret
        exact ⟨by simp [hcc], HB9.out⟩

set_option maxHeartbeats 1000000 in
theorem walk (a0 : Int) (a1 : Option Addr) (len1 cap1 : Nat) (D1 : Nat → Dd) (a2 : Int) (w : World) (w0 : (Lit.int .u8 a0).wf = true) (n1 : len1 < 9223372036854775808) (c1 : len1 ≤ cap1) (m1 : cap1 < 9223372036854775808) (w1 : Dds w a1 len1 D1) (w2 : (Lit.int .i64 a2).wf = true) :
    Calls Try.prog 6 #[.int .u8 a0, .slice a1 len1 cap1, .int .i64 a2] w fun e w' => e = .returned (.bool true) ∧ Below w.heap.size w w' := by
  obtain ⟨l0, m0⟩ := bounds_u8 w0
  obtain ⟨M, rfl⟩ := Int.eq_ofNat_of_zero_le l0
  exact way M (by omega) a1 len1 cap1 D1 a2 w n1 w1

set_option maxHeartbeats 1000000 in
set_option maxRecDepth 100000 in
theorem lifted (os : Os) (started : os.Started) (H : Type) (enc : TypeId × Value → H) :
    ReturnsInHanded {} Try.checked os 6 .any (Rows.pheapDeletesSpec.pre6 enc Try.prog Try.f6 Rows.pheapDeletesRow.domain false) (Rows.pheapDeletesSpec.post enc Try.prog Try.f6 false true false false) := by
  refine returnsInHanded_of_change (C := Try.checked) own started (by kernel_rfl) Try.func6
    (ChangeSpec.witness6 (enc := enc) (C := Try.checked) false ⟨#[], #[.int .u8 0, .slice none 0 0, .int .i64 0], []⟩ 8 (by kernel_rfl) (by kernel_rfl) (by kernel_rfl) (by kernel_rfl)) ?_
  intro W base args ds gs before hval0 hW hcnd _
  have hval : ∀ (j : Nat) t v, Try.f6.params[j]? = some t → args[j]? = some v → Value.okWide Try.prog W .any base t v := hval0
  have hW' := hW
  obtain ⟨p, q, hA0, hV, rfl, hfz, hnd⟩ := hW
  have hA : DataW.TrodAll enc Try.prog W 0 (fun _ => true) true Try.f6.params.toList args.toList ds p := hA0
  rw [Try.params6] at hA hval
  obtain ⟨v0, vs0, d0, ds0, p0', q0', hargs, rfl, rfl, h0, r0⟩ := trodAll_cons hA
  obtain ⟨v1, vs1, d1, ds1, p1', q1', rfl, rfl, rfl, h1, r1⟩ := trodAll_cons r0
  obtain ⟨v2, vs2, d2, ds2, p2', q2', rfl, rfl, rfl, h2, r2⟩ := trodAll_cons r1
  obtain ⟨rfl, rfl, rfl⟩ := trodAll_nil r2
  obtain rfl : args = #[v0, v1, v2] := by cases args; simp_all
  obtain ⟨rfl, rfl⟩ := trodVars_none hV
  have kk0 := h0
  have lt0 : ∀ x ∈ p0', x.block < W.heap.size := by obtain ⟨m, hm⟩ := kk0; exact DataW.trod_lt m _ _ _ hm
  obtain ⟨a0, rfl, rfl, rfl, w0⟩ := open_int Try.underlying5 (hval 0 5 v0 rfl rfl) h0
  have kk1 := h1
  have lt1 : ∀ x ∈ p1', x.block < W.heap.size := by obtain ⟨m, hm⟩ := kk1; exact DataW.trod_lt m _ _ _ hm
  obtain ⟨a1, len1, cap1, rfl⟩ := okWide_slice Try.underlying22 (hval 1 22 v1 rfl rfl)
  obtain ⟨n1, c1, m1, D1, w1⟩ : len1 < 9223372036854775808 ∧ len1 ≤ cap1 ∧ cap1 < 9223372036854775808 ∧ ∃ D, Dds W a1 len1 D := by
    obtain ⟨fuel, hf⟩ := h1
    exact open_deeds hf
  have kk2 := h2
  have lt2 : ∀ x ∈ p2', x.block < W.heap.size := by obtain ⟨m, hm⟩ := kk2; exact DataW.trod_lt m _ _ _ hm
  obtain ⟨a2, rfl, rfl, rfl, w2⟩ := open_int Try.underlying3 (hval 2 3 v2 rfl rfl) h2
  clear hA0 hval0
  refine (walk a0 a1 len1 cap1 D1 a2 W w0 n1 c1 m1 w1 w2).mono fun e W' ⟨he, bel⟩ => ?_
  subst he
  exact ⟨_, rfl, _, _, _, [], _, [], hW', trodAll_mk1 (shut_bool Try.underlying4 _), (trodAll_cons_mk (Below.trod laidOut (by kernel_rfl) (of_decide_eq_true (by kernel_rfl)) kk0 bel lt0) (trodAll_cons_mk (Below.trod laidOut (by kernel_rfl) (of_decide_eq_true (by kernel_rfl)) kk1 bel lt1) (trodAll_cons_mk (Below.trod laidOut (by kernel_rfl) (of_decide_eq_true (by kernel_rfl)) kk2 bel lt2) trodAll_mk0))), rfl, bel.frame _, fun h => by cases h⟩

theorem over : Rows.pheapDeletesRow.holds Try.pinned (OpenSpec.ofChange Rows.pheapDeletesSpec) :=
  OpenClaim.holds_of_wide 6 Try.f6 rfl rfl rfl rfl rfl rfl rfl ⟨rfl, rfl, rfl, rfl, rfl⟩ rfl rfl rfl rfl rfl (by kernel_rfl) Try.func6 (by kernel_rfl)
    (of_decide_eq_true (by kernel_rfl)) (by unfold Func.isWrapper; first | (rw [if_pos (by decide +kernel)]; kernel_rfl) | (rw [if_neg (by decide +kernel)]; exact ⟨rfl, rfl⟩))
    (fun os started H enc _ => lifted os started H enc)
end Go.Proofs.Ytiledmfnhahmiaa.pheapDeletes
namespace Go.Proofs.Ytiledmfnhahmiaa
/-- The statement. -/
theorem pheapDeletes_holds : Rows.PheapDeletesSaid := pheapDeletes.over
#print axioms pheapDeletes_holds
end Go.Proofs.Ytiledmfnhahmiaa
