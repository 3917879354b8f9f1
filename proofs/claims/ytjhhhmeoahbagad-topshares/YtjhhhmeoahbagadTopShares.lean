/-
  For every number of parts, all or nothing, TopShares answers true: the mean of so many equal shares is their share, of nothing and of all of it just so. No condition.
-/
import Derived.Test.YtjhhhmeoahbagadRows
import Derived.Test.YtjhhhmeoahbagadW10
import Derived.OwnWalk
import Derived.Deep.RegionWith
import Derived.WalkKit
import Derived.ProofKit
import Derived.OpenShut
import Derived.RowKit3
import Derived.Laws.Cover2
import Derived.Laws.IdiomArrays
import Derived.ChangeOld
import Derived.Below
import Derived.Carry
namespace Go.Proofs.Ytjhhhmeoahbagad.topShares
open Go.ChangeShapes Go.WideShapes Go.ChangeAt Go.RowKit
set_option linter.unusedVariables false

theorem own : ownKnob Try.prog.godebug = none := by kernel_rfl
theorem laidOut : laidOutB Try.prog = true := by kernel_rfl
open Go.Lib
theorem infoF : (Try.prog.info? 35).map (fun i => (i.zero, i.size, i.bytes)) = some (some (.float .f64 0), 1, 8) := by kernel_rfl
theorem clamp_nan (q : Nat) (h : ¬ Num q) : clampN q = 0 := by
  unfold clampN
  rw [nan_self q _ h, nan_self q _ h]
  rfl
theorem means_allWay : ∀ k : Fin 40, floatBits .quo .f64 (sumF (List.replicate (k.val + 1) 4607182418800017408)) (floatOfInt .f64 ((k.val + 1 : Nat) : Int)) = some 4607182418800017408 := by decide +kernel
theorem means_noneWay : ∀ k : Fin 40, floatBits .quo .f64 (sumF (List.replicate (k.val + 1) 0)) (floatOfInt .f64 ((k.val + 1 : Nat) : Int)) = some 0 := by decide +kernel

set_option maxHeartbeats 2000000 in
theorem allWay (a0 : Int) (w : World) (l0 : 0 ≤ a0) (m0 : a0 ≤ 255) :
    Calls Try.prog 4 #[.int .u8 a0, .bool true] w fun e w' => e = .returned (.bool true) ∧ Below w.heap.size w w' := by
  obtain ⟨K, hK⟩ : ∃ K : Nat, a0 % 40 + 1 = (K : Int) := ⟨(a0 % 40 + 1).toNat, by omega⟩
  have k1 : 1 ≤ K := by omega
  have k2 : K ≤ 40 := by omega
  have HM : Hid (floatBits .quo .f64 (sumF (List.replicate K 4607182418800017408)) (floatOfInt .f64 ((List.replicate K 4607182418800017408).length : Int)) = some 4607182418800017408) := by
    have := means_allWay ⟨K - 1, by omega⟩
    simp only [show K - 1 + 1 = K by omega] at this
    rw [List.length_replicate]
    exact this
  have HS : Hid (floatBits .quo .f64 (floatOfInt .f64 7) (floatOfInt .f64 7) = some 4607182418800017408) := by
    show _ = _
    decide +kernel
  have H8 : Hid (floatBits .quo .f64 (floatOfInt .f64 8) (floatOfInt .f64 7) = some 4607825790175356050) := by
    show _ = _
    decide +kernel
  have H0 : Hid (floatBits .quo .f64 (floatOfInt .f64 0) (floatOfInt .f64 0) = none) := by
    show _ = _
    decide +kernel
  have H1 : Hid (floatBits .quo .f64 (floatOfInt .f64 1) (floatOfInt .f64 0) = some 9218868437227405312) := by
    show _ = _
    decide +kernel
  have g1 : (FloatKind.f64.format.order 4607182418800017408 4607182418800017408 == some .eq) = true := by decide +kernel
  have g2 : clampN 4607825790175356050 = 4607182418800017408 := by unfold clampN; decide +kernel
  have g3 : clampN 9218868437227405312 = 4607182418800017408 := by unfold clampN; decide +kernel
  have g4 : (FloatKind.f64.format.order 4607182418800017408 4607182418800017408 == some .eq) = true := by decide +kernel
  have g5 : (FloatKind.f64.format.order 0 0 == some .eq) = true := by decide +kernel
  obtain ⟨i0, hi, hz0, hz1, hz2⟩ := info_parts infoF
  go_enter Try.func4, Try.ntmps4
  go_wp2
  go_loopw [8, 9] (fun v i wr => ∃ k : Nat, k ≤ K ∧ i = .int .i64 k ∧ wr.ownsRow w.heap.size 35 1 v k (List.replicate k (Value.float .f64 4607182418800017408)) ∧ Below w.heap.size w wr) (fun _ i _ => K - (intOf i).toNat)
  case atStart => exact ⟨0, by omega, rfl, World.ownsRow_nil _ _ _ _, Below.refl _ _⟩
  case round =>
    obtain ⟨k, hk, rfl, hown, hbel⟩ := hrel
    by_cases hlt : k < K
    · go_wp2_with (first
        | (go_at_call 11; refine (share_ok _ _ _ _ HS.out).mono ?_; rintro e w' ⟨rfl, rfl⟩)
        | (at_builtin; go_must (refine wpList_append_own _ rfl _ _ 36 rfl w.heap.size 35 i0 (.float .f64 0) 1 8 Try.underlying36 hi hz0 hz1 hz2 rfl (by decide) _ _ _ rfl (hown.alloc _) ⟨w'.heap.size, 0, none⟩ 1 1 [.float .f64 4607182418800017408] rfl rfl ?c1 ?c2 ?c3 ?c4 ?c5 ?_))
        | go_in)
      case c1 =>
        intro j u hj
        match j, hj with
        | 0, hj => simp at hj; subst hj; simp [Addr.add]
      case c2 => intro u hu; simp at hu; subst hu; rfl
      case c3 => unfold maxLen; omega
      case c4 => omega
      case c5 => have := hbel.size; simp; omega
      · intro v' w1 hown' hgrow _
        have hb1 : Below w.heap.size w w1 := (hbel.alloc hbel.size _).grown hgrow (by have := hbel.size; simp; omega) (fun k hk => (hown.lt k hk).1)
        rw [← List.replicate_succ'] at hown'
        clear hgrow hown hbel
        go_wp2
        go_roundw
        case rel => exact ⟨k + 1, by omega, by go_num, hown', hb1⟩
        case measure => simp [intOf]; omega
    · have hkK : k = K := by omega
      subst hkK
      have hex : ∃ g cap, u8 = Value.slice (some ⟨g, 0, none⟩) k cap := by
        rcases hown.2 with ⟨_, h0⟩ | ⟨g, cap, cur, hv, _⟩
        · omega
        · exact ⟨g, cap, hv⟩
      obtain ⟨g, cap, hv⟩ := hex
      subst hv
      have hmean : ∀ w', w' = wr → Calls Try.prog 12 #[.slice (some ⟨g, 0, none⟩) k cap] w' fun e w'' => e = .returned (.float .f64 4607182418800017408) ∧ w'' = w' := by
        rintro w' rfl
        have := mean_ok g 0 cap (List.replicate k 4607182418800017408) 4607182418800017408 w' (by rw [List.length_replicate]; omega) (by rw [List.length_replicate]; omega) (fun y hy => by rw [(List.mem_replicate.1 hy).2]; decide)
          (fun i hi => by
            rw [List.length_replicate] at hi
            rw [Nat.zero_add, hown.cellAt i (by omega)]
            simp [hi, List.getD]) HM
        rw [List.length_replicate] at this
        exact this
      have HMM : Hid _ := hmean
      have HB : Hid (Below w.heap.size w wr) := hbel
      clear hmean hown hbel
      go_wp2_with (first
        | (go_at_call 12; refine (HMM.out _ rfl).mono ?_; rintro e w' ⟨rfl, hw⟩; subst hw)
        | (go_at_call_of 11 (Value.int .u64 8); refine (share_ok _ _ _ _ H8.out).mono ?_; rintro e w' ⟨rfl, hw⟩; subst hw)
        | (go_at_call_of 11 (Value.int .u64 0); refine (share_nan _ _ _ H0.out).mono ?_; rintro e w' ⟨q, rfl, hq, hw⟩; subst hw; have hcl := clamp_nan q hq; clear hq)
        | (go_at_call_of 11 (Value.int .u64 1); refine (share_ok _ _ _ _ H1.out).mono ?_; rintro e w' ⟨rfl, hw⟩; subst hw)
        | (go_at_call 13; refine (clamp_any _ _).mono ?_; rintro e w' ⟨rfl, hw⟩; subst hw))
      go_ret
      exact ⟨rfl, HB.out.drew⟩

set_option maxHeartbeats 2000000 in
theorem noneWay (a0 : Int) (w : World) (l0 : 0 ≤ a0) (m0 : a0 ≤ 255) :
    Calls Try.prog 4 #[.int .u8 a0, .bool false] w fun e w' => e = .returned (.bool true) ∧ Below w.heap.size w w' := by
  obtain ⟨K, hK⟩ : ∃ K : Nat, a0 % 40 + 1 = (K : Int) := ⟨(a0 % 40 + 1).toNat, by omega⟩
  have k1 : 1 ≤ K := by omega
  have k2 : K ≤ 40 := by omega
  have HM : Hid (floatBits .quo .f64 (sumF (List.replicate K 0)) (floatOfInt .f64 ((List.replicate K 0).length : Int)) = some 0) := by
    have := means_noneWay ⟨K - 1, by omega⟩
    simp only [show K - 1 + 1 = K by omega] at this
    rw [List.length_replicate]
    exact this
  have HS : Hid (floatBits .quo .f64 (floatOfInt .f64 0) (floatOfInt .f64 7) = some 0) := by
    show _ = _
    decide +kernel
  have H8 : Hid (floatBits .quo .f64 (floatOfInt .f64 8) (floatOfInt .f64 7) = some 4607825790175356050) := by
    show _ = _
    decide +kernel
  have H0 : Hid (floatBits .quo .f64 (floatOfInt .f64 0) (floatOfInt .f64 0) = none) := by
    show _ = _
    decide +kernel
  have H1 : Hid (floatBits .quo .f64 (floatOfInt .f64 1) (floatOfInt .f64 0) = some 9218868437227405312) := by
    show _ = _
    decide +kernel
  have g1 : (FloatKind.f64.format.order 0 0 == some .eq) = true := by decide +kernel
  have g2 : clampN 4607825790175356050 = 4607182418800017408 := by unfold clampN; decide +kernel
  have g3 : clampN 9218868437227405312 = 4607182418800017408 := by unfold clampN; decide +kernel
  have g4 : (FloatKind.f64.format.order 4607182418800017408 4607182418800017408 == some .eq) = true := by decide +kernel
  have g5 : (FloatKind.f64.format.order 0 0 == some .eq) = true := by decide +kernel
  obtain ⟨i0, hi, hz0, hz1, hz2⟩ := info_parts infoF
  go_enter Try.func4, Try.ntmps4
  go_wp2
  go_loopw [8, 9] (fun v i wr => ∃ k : Nat, k ≤ K ∧ i = .int .i64 k ∧ wr.ownsRow w.heap.size 35 1 v k (List.replicate k (Value.float .f64 0)) ∧ Below w.heap.size w wr) (fun _ i _ => K - (intOf i).toNat)
  case atStart => exact ⟨0, by omega, rfl, World.ownsRow_nil _ _ _ _, Below.refl _ _⟩
  case round =>
    obtain ⟨k, hk, rfl, hown, hbel⟩ := hrel
    by_cases hlt : k < K
    · go_wp2_with (first
        | (go_at_call 11; refine (share_ok _ _ _ _ HS.out).mono ?_; rintro e w' ⟨rfl, rfl⟩)
        | (at_builtin; go_must (refine wpList_append_own _ rfl _ _ 36 rfl w.heap.size 35 i0 (.float .f64 0) 1 8 Try.underlying36 hi hz0 hz1 hz2 rfl (by decide) _ _ _ rfl (hown.alloc _) ⟨w'.heap.size, 0, none⟩ 1 1 [.float .f64 0] rfl rfl ?c1 ?c2 ?c3 ?c4 ?c5 ?_))
        | go_in)
      case c1 =>
        intro j u hj
        match j, hj with
        | 0, hj => simp at hj; subst hj; simp [Addr.add]
      case c2 => intro u hu; simp at hu; subst hu; rfl
      case c3 => unfold maxLen; omega
      case c4 => omega
      case c5 => have := hbel.size; simp; omega
      · intro v' w1 hown' hgrow _
        have hb1 : Below w.heap.size w w1 := (hbel.alloc hbel.size _).grown hgrow (by have := hbel.size; simp; omega) (fun k hk => (hown.lt k hk).1)
        rw [← List.replicate_succ'] at hown'
        clear hgrow hown hbel
        go_wp2
        go_roundw
        case rel => exact ⟨k + 1, by omega, by go_num, hown', hb1⟩
        case measure => simp [intOf]; omega
    · have hkK : k = K := by omega
      subst hkK
      have hex : ∃ g cap, u8 = Value.slice (some ⟨g, 0, none⟩) k cap := by
        rcases hown.2 with ⟨_, h0⟩ | ⟨g, cap, cur, hv, _⟩
        · omega
        · exact ⟨g, cap, hv⟩
      obtain ⟨g, cap, hv⟩ := hex
      subst hv
      have hmean : ∀ w', w' = wr → Calls Try.prog 12 #[.slice (some ⟨g, 0, none⟩) k cap] w' fun e w'' => e = .returned (.float .f64 0) ∧ w'' = w' := by
        rintro w' rfl
        have := mean_ok g 0 cap (List.replicate k 0) 0 w' (by rw [List.length_replicate]; omega) (by rw [List.length_replicate]; omega) (fun y hy => by rw [(List.mem_replicate.1 hy).2]; decide)
          (fun i hi => by
            rw [List.length_replicate] at hi
            rw [Nat.zero_add, hown.cellAt i (by omega)]
            simp [hi, List.getD]) HM
        rw [List.length_replicate] at this
        exact this
      have HMM : Hid _ := hmean
      have HB : Hid (Below w.heap.size w wr) := hbel
      clear hmean hown hbel
      go_wp2_with (first
        | (go_at_call 12; refine (HMM.out _ rfl).mono ?_; rintro e w' ⟨rfl, hw⟩; subst hw)
        | (go_at_call_of 11 (Value.int .u64 8); refine (share_ok _ _ _ _ H8.out).mono ?_; rintro e w' ⟨rfl, hw⟩; subst hw)
        | (go_at_call_of 11 (Value.int .u64 0); refine (share_nan _ _ _ H0.out).mono ?_; rintro e w' ⟨q, rfl, hq, hw⟩; subst hw; have hcl := clamp_nan q hq; clear hq)
        | (go_at_call_of 11 (Value.int .u64 1); refine (share_ok _ _ _ _ H1.out).mono ?_; rintro e w' ⟨rfl, hw⟩; subst hw)
        | (go_at_call 13; refine (clamp_any _ _).mono ?_; rintro e w' ⟨rfl, hw⟩; subst hw))
      go_ret
      exact ⟨rfl, HB.out.drew⟩

set_option maxHeartbeats 1000000 in
theorem walk (a0 : Int) (a1 : Bool) (w : World) (w0 : (Lit.int .u8 a0).wf = true) :
    Calls Try.prog 4 #[.int .u8 a0, .bool a1] w fun e w' => e = .returned (.bool true) ∧ Below w.heap.size w w' := by
  obtain ⟨l0, m0⟩ := bounds_u8 w0
  cases a1 with
  | true => exact allWay a0 w l0 m0
  | false => exact noneWay a0 w l0 m0

set_option maxHeartbeats 1000000 in
set_option maxRecDepth 100000 in
theorem lifted (os : Os) (started : os.Started) (H : Type) (enc : TypeId × Value → H) :
    ReturnsInHanded {} Try.checked os 4 .any (Rows.topSharesSpec.pre6 enc Try.prog Try.f4 Rows.topSharesRow.domain false) (Rows.topSharesSpec.post enc Try.prog Try.f4 false true false false) := by
  refine returnsInHanded_of_change (C := Try.checked) own started (by kernel_rfl) Try.func4
    (ChangeSpec.witness6 (enc := enc) (C := Try.checked) false ⟨#[], #[.int .u8 0, .bool false], []⟩ 8 (by kernel_rfl) (by kernel_rfl) (by kernel_rfl) (by kernel_rfl)) ?_
  intro W base args ds gs before hval0 hW hcnd _
  have hval : ∀ (j : Nat) t v, Try.f4.params[j]? = some t → args[j]? = some v → Value.okWide Try.prog W .any base t v := hval0
  have hW' := hW
  obtain ⟨p, q, hA0, hV, rfl, hfz, hnd⟩ := hW
  have hA : DataW.TrodAll enc Try.prog W 0 (fun _ => true) true Try.f4.params.toList args.toList ds p := hA0
  rw [Try.params4] at hA hval
  obtain ⟨v0, vs0, d0, ds0, p0, q0, hargs, rfl, rfl, h0, r0⟩ := trodAll_cons hA
  obtain ⟨v1, vs1, d1, ds1, p1, q1, rfl, rfl, rfl, h1, r1⟩ := trodAll_cons r0
  obtain ⟨rfl, rfl, rfl⟩ := trodAll_nil r1
  obtain rfl : args = #[v0, v1] := by cases args; simp_all
  obtain ⟨rfl, rfl⟩ := trodVars_none hV
  have k0 := h0
  have lt0 : ∀ x ∈ p0, x.block < W.heap.size := by obtain ⟨m, hm⟩ := k0; exact DataW.trod_lt m _ _ _ hm
  obtain ⟨a0, rfl, rfl, rfl, w0⟩ := open_int Try.underlying5 (hval 0 5 v0 rfl rfl) h0
  have k1 := h1
  have lt1 : ∀ x ∈ p1, x.block < W.heap.size := by obtain ⟨m, hm⟩ := k1; exact DataW.trod_lt m _ _ _ hm
  obtain ⟨a1, rfl, rfl, rfl⟩ := open_bool Try.underlying4 (hval 1 4 v1 rfl rfl) h1
  clear hA0 hval0
  refine (walk a0 a1 W w0).mono fun e W' ⟨he, bel⟩ => ?_
  subst he
  exact ⟨_, rfl, _, _, _, [], _, [], hW', trodAll_mk1 (shut_bool Try.underlying4 _), (trodAll_cons_mk (Below.trod laidOut (by kernel_rfl) (of_decide_eq_true (by kernel_rfl)) k0 bel lt0) (trodAll_cons_mk (Below.trod laidOut (by kernel_rfl) (of_decide_eq_true (by kernel_rfl)) k1 bel lt1) trodAll_mk0)), rfl, bel.frame _, fun h => by cases h⟩

theorem over : Rows.topSharesRow.holds Try.pinned (OpenSpec.ofChange Rows.topSharesSpec) :=
  OpenClaim.holds_of_wide 4 Try.f4 rfl rfl rfl rfl rfl rfl rfl ⟨rfl, rfl, rfl, rfl, rfl⟩ rfl rfl rfl rfl rfl (by kernel_rfl) Try.func4 (by kernel_rfl)
    (of_decide_eq_true (by kernel_rfl)) (by unfold Func.isWrapper; first | (rw [if_pos (by decide +kernel)]; kernel_rfl) | (rw [if_neg (by decide +kernel)]; exact ⟨rfl, rfl⟩))
    (fun os started H enc _ => lifted os started H enc)
end Go.Proofs.Ytjhhhmeoahbagad.topShares
namespace Go.Proofs.Ytjhhhmeoahbagad
/-- The statement. -/
theorem topShares_holds : Rows.TopSharesSaid := topShares.over
#print axioms topShares_holds
end Go.Proofs.Ytjhhhmeoahbagad
