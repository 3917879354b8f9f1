/-
  For every deeds, and two times, WheelSteps answers true: in two steps just that is answered which is in one; time never goes back. No condition.
-/
import Derived.Test.YtjmbadadelelfaaRows
import Derived.Test.YtjmbadadelelfaaWd4
import Derived.WalkKit
import Derived.ProofKit
import Derived.OpenShut
import Derived.RowKit3
import Derived.Laws.Cover2
import Derived.Laws.IdiomArrays
import Derived.ChangeOld
import Derived.Below
import Derived.Carry
import Derived.Lib.SmallJoins
namespace Go.Proofs.Ytjmbadadelelfaa.wheelSteps
open Go.ChangeShapes Go.WideShapes Go.ChangeAt Go.RowKit
set_option linter.unusedVariables false

theorem own : ownKnob Try.prog.godebug = none := by kernel_rfl
theorem laidOut : laidOutB Try.prog = true := by kernel_rfl
open Go.Lib
attribute [local go_sem ↓] Go.wp_at_zero Go.wp_at_succ
set_option maxRecDepth 100000 in
set_option maxHeartbeats 8000000 in
theorem way (m : Nat) (hm : m < 256) (a : Option Addr) (len cap : Nat) (D : Nat → Dd) (lo hi x y : Nat) (hlh : lo ≤ hi) (hhi : hi < 18446744073709551616) (hxy : (lo = x ∧ hi = y) ∨ (hi = x ∧ lo = y ∧ lo < hi)) (w : World) (hlen : len < 9223372036854775808) (hd : Dds w a len D) :
    Calls Try.prog 5 #[.int .u8 m, .slice a len cap, .agg #[.int .u64 (x : Int), .int .u64 (y : Int)]] w fun e w' => e = .returned (.bool true) ∧ Below w.heap.size w w' := by
  obtain ⟨wB, hwB⟩ : ∃ wB, wB = w.alloc (.cells #[.int .u64 (x : Int), .int .u64 (y : Int)] 40) := ⟨_, rfl⟩
  have hbb : Below w.heap.size w wB := by rw [hwB]; exact (Below.refl _ _).alloc (Nat.le_refl _) _
  have hq : w.heap.size < wB.heap.size := by rw [hwB]; simp
  have b1 : wB.cell? ⟨w.heap.size, 0, none⟩ = some (.int .u64 (x : Int)) := by rw [hwB]; exact cell_new _ _ _ 0
  have b2 : wB.cell? ⟨w.heap.size, 1, none⟩ = some (.int .u64 (y : Int)) := by rw [hwB]; exact cell_new _ _ _ 1
  have HP : Hid (∀ q, Calls Try.prog 11 #[.int .u8 m, .slice a len cap] (wB.drewN q) (Played (wB.drewN q) (m % 12 + 1))) := fun q => play_ok (wB.drewN q) m hm a len cap hlen D (hd.below (below_drewN hbb q))
  have HBB := veil hbb
  have HWB := veil hwB
  have hn12 : m % 12 + 1 ≤ 12 := by omega
  have hlo : lo < 18446744073709551616 := by omega
  clear hd hwB hbb
  generalize m % 12 + 1 = n at *
  go_enter Try.func5, Try.ntmps5
  go_upto_region 1 with fail
  rw [← HWB.out]
  clear HWB
  go_quiet (fail)
  go_upto_region 5 with (first
    | (go_at_call 11; refine (HP.out _).mono ?_; rintro e w1 ⟨base, b, g, mb, rb, nw, S, rfl, hB, hL⟩; have HB1 : Hid (Sol w1 w.heap.size b g mb n nw S) := ⟨hB.sol.p, fun k hk => Nat.le_trans (Nat.le_of_lt hq) (hB.sol.lo k hk)⟩; have HL1 := veil (HBB.out.trans ((below_drewN (Below.refl _ _) _).trans (hL.mono (Nat.le_refl _)) |>.mono HBB.out.size)); clear hB hL)
    | (go_at_call 12; refine (live_ok _).mono ?_; rintro e w2 ⟨rfl, hb2⟩; have HB2 := veil (HB1.out.below hb2); have HL2 := veil (HL1.out.trans (hb2.mono HL1.out.size)); clear hb2))
  have HFA := veil HB2.out.p.facts
  have hSn : S.length ≤ n := HFA.out.2.2.2.2.2.1
  have hnw := HFA.out.2.2.2.2.1
  have hT1 : max lo nw < 18446744073709551616 := by omega
  have hT12 : max lo nw ≤ max hi nw := by omega
  have hTT : max hi (max lo nw) = max hi nw := by omega
  have hTn : nw ≤ max hi nw := by omega
  obtain ⟨hdd, hdl⟩ := due_due HFA.out.1 hT12
  have hle1 : (due (max lo nw) S).length ≤ S.length := List.length_filter_le _ _
  have hle2 : (due (max hi nw) (late (max lo nw) S)).length ≤ S.length := Nat.le_trans (List.length_filter_le _ _) (List.length_filter_le _ _)
  have hle3 : (due (max hi nw) S).length ≤ S.length := List.length_filter_le _ _
  have hTn' : ¬ ((max hi nw : Nat) : Int) < (nw : Int) := by omega
  have hTn2 : (nw : Int) ≤ ((max hi nw : Nat) : Int) := by omega
  have HA2 : Hid (∀ W mid b' g' mb', Two W w.heap.size mid b g mb n (max lo nw) (late (max lo nw) S) b' g' mb' nw S → Calls Try.prog 16 #[.pointer (some ⟨b, 0, none⟩), .int .u64 (hi : Int)] W fun e w' => (∃ v, e = .returned v ∧ w'.ownsRow W.heap.size 3 1 v (due (max hi nw) (late (max lo nw) S)).length (iv (spots (due (max hi nw) (late (max lo nw) S))))) ∧ Two w' w.heap.size mid b g mb n (max hi nw) (late (max hi nw) S) b' g' mb' nw S ∧ Fr (O3 b g mb) W w' ∧ Below w.heap.size W w') := fun W mid b' g' mb' h => by
    have := h.advP hn12 hi hhi
    rw [hTT, hdl] at this
    exact this
  have HA1 : Hid (∀ W mid b' g' mb', Two W w.heap.size mid b g mb n nw S b' g' mb' nw S → Calls Try.prog 16 #[.pointer (some ⟨b, 0, none⟩), .int .u64 (lo : Int)] W fun e w' => (∃ v, e = .returned v ∧ w'.ownsRow W.heap.size 3 1 v (due (max lo nw) S).length (iv (spots (due (max lo nw) S)))) ∧ Two w' w.heap.size mid b g mb n (max lo nw) (late (max lo nw) S) b' g' mb' nw S ∧ Fr (O3 b g mb) W w' ∧ Below w.heap.size W w') := fun W mid b' g' mb' h => h.advP hn12 lo hlo
  have HA3 : Hid (∀ W mid b' g' mb', Two W w.heap.size mid b g mb n (max hi nw) (late (max hi nw) S) b' g' mb' nw S → Calls Try.prog 16 #[.pointer (some ⟨b', 0, none⟩), .int .u64 (hi : Int)] W fun e w' => (∃ v, e = .returned v ∧ w'.ownsRow W.heap.size 3 1 v (due (max hi nw) S).length (iv (spots (due (max hi nw) S)))) ∧ Two w' w.heap.size mid b g mb n (max hi nw) (late (max hi nw) S) b' g' mb' (max hi nw) (late (max hi nw) S) ∧ Fr (O3 b' g' mb') W w' ∧ Below w.heap.size W w') := fun W mid b' g' mb' h => (h.advQ hn12 hi hhi).mono (fun _ _ q => ⟨q.1, q.2.1, q.2.2.1, q.2.2.2.mono h.mid_le⟩)
  have HEQ := veil hdd
  clear hdd hdl hTT hT1 hT12 HP HB1 HL1 HBB HFA hTn
  generalize max hi nw = T2 at *
  generalize max lo nw = T1 at *
  generalize due T2 (late T1 S) = L2 at *
  generalize late T1 S = M1 at *
  generalize late T2 S = M2 at *
  generalize due T1 S = L1 at *
  generalize due T2 S = L3 at *
  rcases hxy with ⟨rfl, rfl⟩ | ⟨rfl, rfl, hlt⟩
  all_goals
    go_wp2_with (first
      | (go_at_call 14; refine (Two.fork HB2.out).mono ?_; rintro e w3 ⟨b', g', mb', rfl, hq, hb⟩; have HQ := veil hq; have HL3 := veil (HL2.out.trans (hb.mono HL2.out.size)); clear hq hb)
      | (go_at_call 16; (have hh := HT6.out; clear hh); refine (HA3.out _ _ _ _ _ HT6.out).mono ?_; rintro e w7 ⟨⟨v, rfl, ho⟩, ht, hf, hb⟩; obtain ⟨a7, c7, rfl⟩ := own_slice ho; have HO7 := veil ho; have HT7 := veil ht; have HL7 := veil (HL6.out.trans hb); have HV7 := veil (own_kept HO6.out (fun k hk => hf.block k (own_ge HO6.out hk).2 (fun q => by have := HQ.out.top k (.inr q); have := (own_ge HO6.out hk).1; omega))); clear ho ht hb hf)
      | (go_at_call 16; (have hh := HT4.out; clear hh); refine (HA2.out _ _ _ _ _ HT4.out).mono ?_; rintro e w5 ⟨⟨v, rfl, ho⟩, ht, hf, hb⟩; obtain ⟨a5, c5, rfl⟩ := own_slice ho; have HO5 := veil ho; have HT5 := veil ht; have HL5 := veil (HL4.out.trans hb); have hs5 := hf.size; have HV5 := veil (own_kept HO4.out (fun k hk => hf.block k (own_ge HO4.out hk).2 (fun q => by have := HQ.out.top k (.inl q); have := (own_ge HO4.out hk).1; omega))); clear ho ht hb hf)
      | (go_at_call 16; refine (HA1.out _ _ _ _ _ HQ.out).mono ?_; rintro e w4 ⟨⟨v, rfl, ho⟩, ht, hf, hb⟩; obtain ⟨a4, c4, rfl⟩ := own_slice ho; have HO4 := veil ho; have HT4 := veil ht; have HL4 := veil (HL3.out.trans hb); have hs4 := hf.size; clear ho ht hb hf)
      | (at_builtin; refine wpList_append_rows _ rfl _ _ rfl w3.heap.size _ _ _ _ _ _ _ rfl HV5.out rfl HO5.out (iv_one _) (by omega) (by omega) ?_; intro v' w6 hown' hgrow; rw [← iv_append, ← spots_append, ← List.length_append, HEQ.out] at hown'; obtain ⟨a6, c6, rfl⟩ := own_slice hown'; have HO6 := veil hown'; have HT6 := veil (HT5.out.frame (Fr.of_grown hgrow) (fun k hk u hu => by have := HQ.out.top u hu; have := (own_ge HO4.out hk.symm).1; omega)); have HL6 := veil (HL5.out.grown hgrow HL5.out.size (fun k hk => by have := (own_ge HO4.out hk).1; have := HL3.out.size; omega)); clear hown' hgrow)
      | (go_at_call 18; refine (now_ok HT7.out.p.p).mono ?_; rintro e wx ⟨rfl, hw⟩; replace hw := hw.symm; subst hw)
      | (go_at_call 18; refine (now_ok HT7.out.q.p).mono ?_; rintro e wx ⟨rfl, hw⟩; replace hw := hw.symm; subst hw)
      | (go_at_call 18; refine (now_ok HT6.out.q.p).mono ?_; rintro e wx ⟨rfl, hw⟩; replace hw := hw.symm; subst hw)
      | (go_at_call 15; refine (len_ok HT7.out.p.p).mono ?_; rintro e wx ⟨rfl, hw⟩; replace hw := hw.symm; subst hw)
      | (go_at_call 15; refine (len_ok HT7.out.q.p).mono ?_; rintro e wx ⟨rfl, hw⟩; replace hw := hw.symm; subst hw)
      | (go_at_call 20; refine (alike_yes _ _ _ _ _ L3 (by omega) HV7.out HO7.out).mono ?_; rintro e w8 ⟨rfl, hb⟩; have HL8 : Hid (Below w.heap.size w w8) := (by obtain ⟨q, rfl⟩ := hb; exact below_drewN HL7.out q); clear hb))
    go_ret
    exact ⟨rfl, HL8.out⟩

set_option maxHeartbeats 1000000 in
theorem walk (a0 : Int) (a1 : Option Addr) (len1 cap1 : Nat) (D1 : Nat → Dd) (p2 q2 : Int) (w : World) (w0 : (Lit.int .u8 a0).wf = true) (n1 : len1 < 9223372036854775808) (c1 : len1 ≤ cap1) (m1 : cap1 < 9223372036854775808) (w1 : Dds w a1 len1 D1) (w2 : (Lit.int .u64 p2).wf = true) (u2 : (Lit.int .u64 q2).wf = true) :
    Calls Try.prog 5 #[.int .u8 a0, .slice a1 len1 cap1, .agg #[.int .u64 p2, .int .u64 q2]] w fun e w' => e = .returned (.bool true) ∧ Below w.heap.size w w' := by
  obtain ⟨l0, m0⟩ := bounds_u8 w0
  obtain ⟨M, rfl⟩ := Int.eq_ofNat_of_zero_le l0
  obtain ⟨l2, m2⟩ := bounds_u64 w2
  obtain ⟨x, rfl⟩ := Int.eq_ofNat_of_zero_le l2
  obtain ⟨l3, m3⟩ := bounds_u64 u2
  obtain ⟨y, rfl⟩ := Int.eq_ofNat_of_zero_le l3
  by_cases h : x ≤ y
  · exact way M (by omega) a1 len1 cap1 D1 x y x y h (by omega) (.inl ⟨rfl, rfl⟩) w n1 w1
  · exact way M (by omega) a1 len1 cap1 D1 y x x y (by omega) (by omega) (.inr ⟨rfl, rfl, by omega⟩) w n1 w1

set_option maxHeartbeats 1000000 in
set_option maxRecDepth 100000 in
theorem lifted (os : Os) (started : os.Started) (H : Type) (enc : TypeId × Value → H) :
    ReturnsInHanded {} Try.checked os 5 .any (Rows.wheelStepsSpec.pre6 enc Try.prog Try.f5 Rows.wheelStepsRow.domain false) (Rows.wheelStepsSpec.post enc Try.prog Try.f5 false true false false) := by
  refine returnsInHanded_of_change (C := Try.checked) own started (by kernel_rfl) Try.func5
    (ChangeSpec.witness6 (enc := enc) (C := Try.checked) false ⟨#[], #[.int .u8 0, .slice none 0 0, .agg #[.int .u64 0, .int .u64 0]], []⟩ 8 (by kernel_rfl) (by kernel_rfl) (by kernel_rfl) (by kernel_rfl)) ?_
  intro W base args ds gs before hval0 hW hcnd _
  have hval : ∀ (j : Nat) t v, Try.f5.params[j]? = some t → args[j]? = some v → Value.okWide Try.prog W .any base t v := hval0
  have hW' := hW
  obtain ⟨p, q, hA0, hV, rfl, hfz, hnd⟩ := hW
  have hA : DataW.TrodAll enc Try.prog W 0 (fun _ => true) true Try.f5.params.toList args.toList ds p := hA0
  rw [Try.params5] at hA hval
  obtain ⟨v0, vs0, d0, ds0, p0', q0', hargs, rfl, rfl, h0, r0⟩ := trodAll_cons hA
  obtain ⟨v1, vs1, d1, ds1, p1', q1', rfl, rfl, rfl, h1, r1⟩ := trodAll_cons r0
  obtain ⟨v2, vs2, d2, ds2, p2', q2', rfl, rfl, rfl, h2, r2⟩ := trodAll_cons r1
  obtain ⟨rfl, rfl, rfl⟩ := trodAll_nil r2
  obtain rfl : args = #[v0, v1, v2] := by cases args; simp_all
  obtain ⟨rfl, rfl⟩ := trodVars_none hV
  have kk0 := h0
  have lt0 : ∀ x ∈ p0', x.block < W.heap.size := by obtain ⟨m, hm⟩ := kk0; exact DataW.trod_lt m _ _ _ hm
  obtain ⟨a0, rfl, rfl, rfl, w0⟩ := open_int Try.underlying5 (hval 0 5 v0 rfl rfl) h0
  have kk1 := h1
  have lt1 : ∀ x ∈ p1', x.block < W.heap.size := by obtain ⟨m, hm⟩ := kk1; exact DataW.trod_lt m _ _ _ hm
  obtain ⟨a1, len1, cap1, rfl⟩ := okWide_slice Try.underlying22 (hval 1 22 v1 rfl rfl)
  obtain ⟨n1, c1, m1, D1, w1⟩ : len1 < 9223372036854775808 ∧ len1 ≤ cap1 ∧ cap1 < 9223372036854775808 ∧ ∃ D, Dds W a1 len1 D := by
    obtain ⟨fuel, hf⟩ := h1
    exact open_deeds hf
  have kk2 := h2
  have lt2 : ∀ x ∈ p2', x.block < W.heap.size := by obtain ⟨m, hm⟩ := kk2; exact DataW.trod_lt m _ _ _ hm
  obtain ⟨p2, q2, rfl, w2, u2⟩ := open_two64 (hval 2 40 v2 rfl rfl) h2
  clear hA0 hval0
  refine (walk a0 a1 len1 cap1 D1 p2 q2 W w0 n1 c1 m1 w1 w2 u2).mono fun e W' ⟨he, bel⟩ => ?_
  subst he
  exact ⟨_, rfl, _, _, _, [], _, [], hW', trodAll_mk1 (shut_bool Try.underlying4 _), (trodAll_cons_mk (Below.trod laidOut (by kernel_rfl) (of_decide_eq_true (by kernel_rfl)) kk0 bel lt0) (trodAll_cons_mk (Below.trod laidOut (by kernel_rfl) (of_decide_eq_true (by kernel_rfl)) kk1 bel lt1) (trodAll_cons_mk (Below.trod laidOut (by kernel_rfl) (of_decide_eq_true (by kernel_rfl)) kk2 bel lt2) trodAll_mk0))), rfl, bel.frame _, fun h => by cases h⟩

theorem over : Rows.wheelStepsRow.holds Try.pinned (OpenSpec.ofChange Rows.wheelStepsSpec) :=
  OpenClaim.holds_of_wide 5 Try.f5 rfl rfl rfl rfl rfl rfl rfl ⟨rfl, rfl, rfl, rfl, rfl⟩ rfl rfl rfl rfl rfl (by kernel_rfl) Try.func5 (by kernel_rfl)
    (of_decide_eq_true (by kernel_rfl)) (by unfold Func.isWrapper; first | (rw [if_pos (by decide +kernel)]; kernel_rfl) | (rw [if_neg (by decide +kernel)]; exact ⟨rfl, rfl⟩))
    (fun os started H enc _ => lifted os started H enc)
end Go.Proofs.Ytjmbadadelelfaa.wheelSteps
namespace Go.Proofs.Ytjmbadadelelfaa
/-- The statement. -/
theorem wheelSteps_holds : Rows.WheelStepsSaid := wheelSteps.over
#print axioms wheelSteps_holds
end Go.Proofs.Ytjmbadadelelfaa
