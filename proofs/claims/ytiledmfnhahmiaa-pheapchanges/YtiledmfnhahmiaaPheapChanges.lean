/-
  For every size, every deeds and every change PheapChanges answers true: what is changed stands as if it were taken out and put anew. No condition.
-/
import Derived.Test.YtiledmfnhahmiaaRows
import Derived.Test.YtiledmfnhahmiaaH14
import Derived.WalkKit
import Derived.ProofKit
import Derived.OpenShut
import Derived.RowKit3
import Derived.Laws.Cover2
import Derived.Laws.IdiomArrays
import Derived.ChangeOld
import Derived.Below
import Derived.Carry
import Derived.Lib.SmallJoins
namespace Go.Proofs.Ytiledmfnhahmiaa.pheapChanges
open Go.ChangeShapes Go.WideShapes Go.ChangeAt Go.RowKit
set_option linter.unusedVariables false

theorem own : ownKnob Try.prog.godebug = none := by kernel_rfl
theorem laidOut : laidOutB Try.prog = true := by kernel_rfl
open Go.Lib
attribute [local go_sem ↓] Go.wp_at_zero Go.wp_at_succ
theorem box0 {w w' : World} {x : Dd} (h : Below (w.heap.size + 1) (w.alloc (.cells #[.int .i64 x.k, .int .i64 x.i, .int .u64 (x.d : Int), .int .u64 (x.s : Int)] 40)) w') : Below w.heap.size w w' := ((Below.refl _ _).alloc (Nat.le_refl _) _).trans (h.mono (by omega))
set_option maxHeartbeats 8000000 in
theorem way (m : Nat) (hm : m < 256) (a : Option Addr) (len cap : Nat) (D : Nat → Dd) (x : Dd) (w : World) (hlen : len < 9223372036854775808) (hd : Dds w a len D) :
    Calls Try.prog 5 #[.int .u8 m, .slice a len cap, .agg #[.int .i64 x.k, .int .i64 x.i, .int .u64 (x.d : Int), .int .u64 (x.s : Int)]] w fun e w' => e = .returned (.bool true) ∧ Below w.heap.size w w' := by
  have HP := veil (play_ok (w.alloc (.cells #[.int .i64 x.k, .int .i64 x.i, .int .u64 (x.d : Int), .int .u64 (x.s : Int)] 40)) m hm a len cap hlen D (hd.below ((Below.refl _ _).alloc (Nat.le_refl _) _)))
  have hsz : (w.alloc (.cells #[.int .i64 x.k, .int .i64 x.i, .int .u64 (x.d : Int), .int .u64 (x.s : Int)] 40)).heap.size = w.heap.size + 1 := by simp
  have HSZ := veil hsz
  have HW : Hid (∀ w1 w2, Below (w.heap.size + 1) (w.alloc (.cells #[.int .i64 x.k, .int .i64 x.i, .int .u64 (x.d : Int), .int .u64 (x.s : Int)] 40)) w1 → Below w1.heap.size w1 w2 → Below (w.heap.size + 1) (w.alloc (.cells #[.int .i64 x.k, .int .i64 x.i, .int .u64 (x.d : Int), .int .u64 (x.s : Int)] 40)) w2) := fun w1 w2 q1 q2 => q1.trans (q2.mono (Nat.le_trans (Nat.le_of_eq hsz.symm) q1.size))
  clear hd hsz
  go_enter Try.func5, Try.ntmps5
  go_wp2_with (first
    | (go_at_call 11; refine (HP.out).mono ?_; rintro e w1 ⟨b, g, rb, base, v, L, rfl, h1, h2, h3, h4, hB, hL⟩; rw [HSZ.out] at hL h1 h2; have HB := veil hB.q; have HL := veil hL; clear hB hL)
    | (go_at_call 12; refine (live_heap _).mono ?_; rintro e w2 ⟨rfl, hb2⟩; have HB2 := veil (HB.out.below hb2); have HL2 := veil (HW.out _ _ HL.out hb2); clear hb2)
    | (go_at_call 19; refine (hfork_ok HB2.out).mono ?_; rintro e w3 ⟨b', g', rfl, k1, k2, k3, k4⟩; have HF3 := veil k3; have HB3 := veil (HB2.out.below k4); have HL3 := veil (HW.out _ _ HL2.out k4); obtain ⟨d31, d32, d33⟩ := box_cells HL3.out; have hbl := HB2.out.blocks; have hs2 : w.heap.size + 1 ≤ w2.heap.size := (by rw [← HSZ.out]; exact HL2.out.size); clear k3 k4))
  have hG := HB3.out.good
  have HSS : Hid (w.heap.size + 1 ≤ (w.alloc (.cells #[.int .i64 x.k, .int .i64 x.i, .int .u64 (x.d : Int), .int .u64 (x.s : Int)] 40)).heap.size) := Nat.le_of_eq HSZ.out.symm
  have hcases : (∃ r : Int, (r = 2 ∨ r = 6) ∧ Calls Try.prog 20 #[.pointer (some ⟨b, 0, none⟩), .int .i64 x.i, .int .u64 (x.d : Int), .int .u64 (x.s : Int)] w3 fun e w' => e = .returned (.int .i64 r) ∧ w' = w3) ∨ (∃ k d0 s0 : Nat, x.i = k ∧ k < m % 16 + 1 ∧ (k, d0, s0) ∈ L) := by
    rcases ids_cases _ L hG x.i with hi | ⟨k, d0, s0, hk1, hk, hmem⟩ | ⟨k, hk1, hk, hno⟩
    · exact .inl ⟨2, .inl rfl, change_refused w3 b x.i x.d x.s 2 (by decide) (hdelete_range HB3.out x.i hi)⟩
    · exact .inr ⟨k, d0, s0, hk1, hk, hmem⟩
    · rw [hk1]; exact .inl ⟨6, .inr rfl, change_refused w3 b k x.d x.s 6 (by decide) (hdelete_none HB3.out k hk hno)⟩
  have hll : (idsL L).length ≤ 1024 := by rw [idsL_len]; exact Nat.le_trans hG.len HB3.out.nle
  have HLL := veil hll
  have hne1 : ¬ (b = b' ∨ b = g') := by have := hbl.1; omega
  have hne2 : ¬ (g = b' ∨ g = g') := by have := hbl.2.1; omega
  have hne3 : ¬ (b' = b ∨ b' = g) := by have := hbl.1; have := hbl.2.1; omega
  have hne4 : ¬ (g' = b ∨ g' = g) := by have := hbl.1; have := hbl.2.1; omega
  have N1 := veil hne1
  have N2 := veil hne2
  have N3 := veil hne3
  have N4 := veil hne4
  have k3 : w.heap.size + 1 ≤ b' := by omega
  have k4 : w.heap.size + 1 ≤ g' := by omega
  clear HB HL HP hll hne1 hne2 hne3 hne4 HB2 HL2
  rcases hcases with ⟨r, hr, hc⟩ | ⟨k, d0, s0, hk1, hk, hmem⟩
  · have HC := veil hc
    clear hc hG
    rcases hr with rfl | rfl
    all_goals
      go_wp2_with (first
        | (go_at_call 20; refine (HC.out).mono ?_; rintro e w4 ⟨rfl, hw⟩; replace hw := hw.symm; subst hw)
        | (go_at_call 14; refine (hlist_ok HF5.out).mono ?_; rintro e w6 ⟨v6, rfl, hil, hb⟩; have HI6 := veil hil; have HI5' := veil (HI5.out.below hb); have HL6 := veil (HW.out _ _ HL5.out hb); clear hil hb)
        | (go_at_call 14; refine (hlist_ok HB3.out).mono ?_; rintro e w5 ⟨v5, rfl, hil, hb⟩; have HI5 := veil hil; have HF5 := veil (HF3.out.below hb); have HL5 := veil (HW.out _ _ HL3.out hb); clear hil hb)
        | (go_at_call 21; refine (same_yes _ _ _ _ _ (idsL L) HLL.out HI5'.out HI6.out).mono ?_; rintro e w9 ⟨rfl, q, hw⟩; have HB9 := veil (box0 HL6.out); subst hw))
      go_ret
      exact ⟨rfl, below_drewN HB9.out _⟩
  · have hno : ∀ it ∈ out k L, it.1 ≠ k := fun it hit => (mem_out.1 hit).2
    have hgo := (hG.out k).ins (x := (k, x.d, x.s)) hk hno
    have HC := veil (hchange_ok HB3.out k x.d x.s d0 s0 hmem)
    rw [← hk1] at HC
    have HDel : Hid (∀ W, IsH W b' g' (m % 16 + 1) L → Calls Try.prog 22 #[.pointer (some ⟨b', 0, none⟩), .int .i64 x.i] W fun e w' => e = .returned (.int .i64 0) ∧ IsH w' b' g' (m % 16 + 1) (out k L) ∧ Only b' g' W w') := fun W hh => by rw [hk1]; exact hdelete_ok hh k d0 s0 hmem
    have HIns : Hid (∀ W, IsH W b' g' (m % 16 + 1) (out k L) → Calls Try.prog 23 #[.pointer (some ⟨b', 0, none⟩), .int .i64 x.i, .int .u64 (x.d : Int), .int .u64 (x.s : Int)] W fun e w' => e = .returned (.int .i64 0) ∧ IsH w' b' g' (m % 16 + 1) (ins (k, x.d, x.s) (out k L)) ∧ Only b' g' W w') := fun W hh => by rw [hk1]; exact hinsert_ok hh k x.d x.s hk hno
    have HGet : Hid (∀ W, IsH W b g (m % 16 + 1) (ins (k, x.d, x.s) (out k L)) → Calls Try.prog 16 #[.pointer (some ⟨b, 0, none⟩), .int .i64 x.i] W fun e w' => e = .returned (.tuple #[.int .u64 (x.d : Int), .int .u64 (x.s : Int), .bool true]) ∧ Below W.heap.size W w') := fun W hh => by rw [hk1]; exact hget_some hh k x.d x.s (mem_ins.2 (.inl rfl))
    have hl2 : (idsL (ins (k, x.d, x.s) (out k L))).length ≤ 1024 := by rw [idsL_len]; exact Nat.le_trans hgo.len HB3.out.nle
    have HL2 := veil hl2
    clear hl2 hgo hno hmem hk hk1 hG
    generalize ins (k, x.d, x.s) (out k L) = L2 at *
    generalize out k L = L1 at *
    generalize m % 16 + 1 = nn at *
    go_wp2_with (first
      | (go_at_call 20; refine (HC.out).mono ?_; rintro e w4 ⟨rfl, hq, ho⟩; have HQ4 := veil hq; have HF4 := veil (HF3.out.frame (Fr.of_only ho) N3.out N4.out); have HL4 := veil (below_fr HL3.out HSS.out (Fr.of_only ho) h1 h2); obtain ⟨d41, d42, d43⟩ := box_cells HL4.out; clear hq ho))
    go_region_held3 (fun w' => w'.cell? ⟨w.heap.size, 1, none⟩ = some (.int .i64 x.i) ∧ w'.cell? ⟨w.heap.size, 2, none⟩ = some (.int .u64 (x.d : Int)) ∧ w'.cell? ⟨w.heap.size, 3, none⟩ = some (.int .u64 (x.s : Int)))
      (first
        | go_keep
        | exact box_cells HL6.out
        | exact box_cells HL5.out)
      (first
        | (go_at_call 23; refine (HIns.out _ HF5.out).mono ?_; rintro e w6 ⟨rfl, hq, ho⟩; have HF6 := veil hq; have HQ6 := veil (HQ5.out.frame (Fr.of_only ho) N1.out N2.out); have HL6 := veil (below_fr HL5.out HSS.out (Fr.of_only ho) k3 k4); clear hq ho)
        | (go_at_call 22; refine (HDel.out _ (by exact HF4.out.like rfl)).mono ?_; rintro e w5 ⟨rfl, hq, ho⟩; have HF5 := veil hq; have HQ5 := veil ((HQ4.out.like (w' := w4.drew) rfl).frame (Fr.of_only ho) N1.out N2.out); have HL5 := veil (below_fr (show Below _ _ w4.drew from HL4.out.drew) HSS.out (Fr.of_only ho) k3 k4); clear hq ho))
    obtain ⟨d61, d62, d63⟩ := box_cells HL6.out
    go_wp2_with (first
      | (go_at_call 16; refine (HGet.out _ HQ6.out).mono ?_; rintro e w7 ⟨rfl, hb⟩; have HQ7 := veil (HQ6.out.below hb); have HF7 := veil (HF6.out.below hb); have HL7 := veil (HW.out _ _ HL6.out hb); obtain ⟨d71, d72, d73⟩ := box_cells HL7.out; clear hb)
      | (go_at_call 14; refine (hlist_ok HF8.out).mono ?_; rintro e w9 ⟨v9, rfl, hil, hb⟩; have HI9 := veil hil; have HI8' := veil (HI8.out.below hb); have HL9 := veil (HW.out _ _ HL8.out hb); clear hil hb)
      | (go_at_call 14; refine (hlist_ok HQ7.out).mono ?_; rintro e w8 ⟨v8, rfl, hil, hb⟩; have HI8 := veil hil; have HF8 := veil (HF7.out.below hb); have HL8 := veil (HW.out _ _ HL7.out hb); clear hil hb)
      | (go_at_call 21; refine (same_yes _ _ _ _ _ (idsL L2) HL2.out HI8'.out HI9.out).mono ?_; rintro e w10 ⟨rfl, q, hw⟩; have HB10 := veil (box0 HL9.out); subst hw))
    go_ret
    exact ⟨by simp, below_drewN HB10.out _⟩

set_option maxHeartbeats 1000000 in
theorem walk (a0 : Int) (a1 : Option Addr) (len1 cap1 : Nat) (D1 : Nat → Dd) (x2 : Dd) (w : World) (w0 : (Lit.int .u8 a0).wf = true) (n1 : len1 < 9223372036854775808) (c1 : len1 ≤ cap1) (m1 : cap1 < 9223372036854775808) (w1 : Dds w a1 len1 D1) (w2 : x2.ok) :
    Calls Try.prog 5 #[.int .u8 a0, .slice a1 len1 cap1, .agg #[.int .i64 x2.k, .int .i64 x2.i, .int .u64 (x2.d : Int), .int .u64 (x2.s : Int)]] w fun e w' => e = .returned (.bool true) ∧ Below w.heap.size w w' := by
  obtain ⟨l0, m0⟩ := bounds_u8 w0
  obtain ⟨M, rfl⟩ := Int.eq_ofNat_of_zero_le l0
  exact way M (by omega) a1 len1 cap1 D1 x2 w n1 w1

set_option maxHeartbeats 1000000 in
set_option maxRecDepth 100000 in
theorem lifted (os : Os) (started : os.Started) (H : Type) (enc : TypeId × Value → H) :
    ReturnsInHanded {} Try.checked os 5 .any (Rows.pheapChangesSpec.pre6 enc Try.prog Try.f5 Rows.pheapChangesRow.domain false) (Rows.pheapChangesSpec.post enc Try.prog Try.f5 false true false false) := by
  refine returnsInHanded_of_change (C := Try.checked) own started (by kernel_rfl) Try.func5
    (ChangeSpec.witness6 (enc := enc) (C := Try.checked) false ⟨#[], #[.int .u8 0, .slice none 0 0, .agg #[.int .i64 0, .int .i64 0, .int .u64 0, .int .u64 0]], []⟩ 8 (by kernel_rfl) (by kernel_rfl) (by kernel_rfl) (by kernel_rfl)) ?_
  intro W base args ds gs before hval0 hW hcnd _
  have hval : ∀ (j : Nat) t v, Try.f5.params[j]? = some t → args[j]? = some v → Value.okWide Try.prog W .any base t v := hval0
  have hW' := hW
  obtain ⟨p, q, hA0, hV, rfl, hfz, hnd⟩ := hW
  have hA : DataW.TrodAll enc Try.prog W 0 (fun _ => true) true Try.f5.params.toList args.toList ds p := hA0
  rw [Try.params5] at hA hval
  obtain ⟨v0, vs0, d0, ds0, p0', q0', hargs, rfl, rfl, h0, r0⟩ := trodAll_cons hA
  obtain ⟨v1, vs1, d1, ds1, p1', q1', rfl, rfl, rfl, h1, r1⟩ := trodAll_cons r0
  obtain ⟨v2, vs2, d2, ds2, p2', q2', rfl, rfl, rfl, h2, r2⟩ := trodAll_cons r1
  obtain ⟨rfl, rfl, rfl⟩ := trodAll_nil r2
  obtain rfl : args = #[v0, v1, v2] := by cases args; simp_all
  obtain ⟨rfl, rfl⟩ := trodVars_none hV
  have kk0 := h0
  have lt0 : ∀ x ∈ p0', x.block < W.heap.size := by obtain ⟨m, hm⟩ := kk0; exact DataW.trod_lt m _ _ _ hm
  obtain ⟨a0, rfl, rfl, rfl, w0⟩ := open_int Try.underlying5 (hval 0 5 v0 rfl rfl) h0
  have kk1 := h1
  have lt1 : ∀ x ∈ p1', x.block < W.heap.size := by obtain ⟨m, hm⟩ := kk1; exact DataW.trod_lt m _ _ _ hm
  obtain ⟨a1, len1, cap1, rfl⟩ := okWide_slice Try.underlying22 (hval 1 22 v1 rfl rfl)
  obtain ⟨n1, c1, m1, D1, w1⟩ : len1 < 9223372036854775808 ∧ len1 ≤ cap1 ∧ cap1 < 9223372036854775808 ∧ ∃ D, Dds W a1 len1 D := by
    obtain ⟨fuel, hf⟩ := h1
    exact open_deeds hf
  have kk2 := h2
  have lt2 : ∀ x ∈ p2', x.block < W.heap.size := by obtain ⟨m, hm⟩ := kk2; exact DataW.trod_lt m _ _ _ hm
  obtain ⟨x2, rfl, w2⟩ := open_deed (hval 2 40 v2 rfl rfl) h2
  clear hA0 hval0
  refine (walk a0 a1 len1 cap1 D1 x2 W w0 n1 c1 m1 w1 w2).mono fun e W' ⟨he, bel⟩ => ?_
  subst he
  exact ⟨_, rfl, _, _, _, [], _, [], hW', trodAll_mk1 (shut_bool Try.underlying4 _), (trodAll_cons_mk (Below.trod laidOut (by kernel_rfl) (of_decide_eq_true (by kernel_rfl)) kk0 bel lt0) (trodAll_cons_mk (Below.trod laidOut (by kernel_rfl) (of_decide_eq_true (by kernel_rfl)) kk1 bel lt1) (trodAll_cons_mk (Below.trod laidOut (by kernel_rfl) (of_decide_eq_true (by kernel_rfl)) kk2 bel lt2) trodAll_mk0))), rfl, bel.frame _, fun h => by cases h⟩

theorem over : Rows.pheapChangesRow.holds Try.pinned (OpenSpec.ofChange Rows.pheapChangesSpec) :=
  OpenClaim.holds_of_wide 5 Try.f5 rfl rfl rfl rfl rfl rfl rfl ⟨rfl, rfl, rfl, rfl, rfl⟩ rfl rfl rfl rfl rfl (by kernel_rfl) Try.func5 (by kernel_rfl)
    (of_decide_eq_true (by kernel_rfl)) (by unfold Func.isWrapper; first | (rw [if_pos (by decide +kernel)]; kernel_rfl) | (rw [if_neg (by decide +kernel)]; exact ⟨rfl, rfl⟩))
    (fun os started H enc _ => lifted os started H enc)
end Go.Proofs.Ytiledmfnhahmiaa.pheapChanges
namespace Go.Proofs.Ytiledmfnhahmiaa
/-- The statement. -/
theorem pheapChanges_holds : Rows.PheapChangesSaid := pheapChanges.over
#print axioms pheapChanges_holds
end Go.Proofs.Ytiledmfnhahmiaa
