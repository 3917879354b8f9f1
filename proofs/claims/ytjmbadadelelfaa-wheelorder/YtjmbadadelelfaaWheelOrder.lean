/-
  For every ids set at one time, WheelOrder answers true: due are they in the order in which they were set. No condition.
-/
import Derived.Test.YtjmbadadelelfaaRows
import Derived.Test.YtjmbadadelelfaaWd5
import Derived.WalkKit
import Derived.ProofKit
import Derived.OpenShut
import Derived.RowKit3
import Derived.Laws.Cover2
import Derived.Laws.IdiomArrays
import Derived.ChangeOld
import Derived.Below
import Derived.Carry
import Derived.Lib.SmallJoins
namespace Go.Proofs.Ytjmbadadelelfaa.wheelOrder
open Go.ChangeShapes Go.WideShapes Go.ChangeAt Go.RowKit
set_option linter.unusedVariables false

theorem own : ownKnob Try.prog.godebug = none := by kernel_rfl
theorem laidOut : laidOutB Try.prog = true := by kernel_rfl
open Go.Lib
attribute [local go_sem ↓] Go.wp_at_zero Go.wp_at_succ
set_option maxRecDepth 100000 in
set_option maxHeartbeats 8000000 in
theorem way (a : Option Addr) (len cap : Nat) (D : Nat → Nat) (t : Nat) (ht32 : t < 4294967296) (w : World) (hlen : len < 9223372036854775808) (hd : U8s w a len D) :
    Calls Try.prog 9 #[.slice a len cap, .int .u32 (t : Int)] w fun e w' => e = .returned (.bool true) ∧ Below w.heap.size w w' := by
  obtain ⟨i0, hii, hz0, hz1, hz2⟩ := info_parts infoInt
  have HN : Hid (Calls Try.prog 25 #[.int .i64 256] w fun e w' => ∃ b g mb, e = .returned (.pointer (some ⟨b, 0, none⟩)) ∧ (∀ k, O3 b g mb k → w.heap.size ≤ k ∧ k < w'.heap.size) ∧ IsW w' b g mb 256 0 [] ∧ Below w.heap.size w w') := new_isW 256 w (by decide) (by decide)
  have HD := veil hd
  have ht : t < 18446744073709551616 := by omega
  clear hd
  go_enter Try.func9, Try.ntmps9
  go_wp2_with (go_at_call 25; refine (HN.out).mono ?_; rintro e w1 ⟨b, g, mb, rfl, hlt, hW, hb⟩; have HLT := veil hlt; have HW1 : Hid (Sol w1 w.heap.size b g mb 256 0 []) := ⟨hW, fun k hk => (hlt k hk).1⟩; have HB1 := veil hb; clear hlt hW hb)
  obtain ⟨base1, hbase1⟩ : ∃ q, q = w1.heap.size := ⟨_, rfl⟩
  rw [← hbase1] at HLT
  have hb1 : w.heap.size ≤ base1 := by have := HB1.out.size; omega
  go_loopw [6, 7] (fun v iv_ wr => ∃ (j : Nat) (S : List It), j ≤ len ∧ iv_ = .int .i64 (j : Int) ∧ One t S ∧ Sol wr w.heap.size b g mb 256 0 S ∧ base1 ≤ wr.heap.size ∧ wr.ownsRow base1 3 1 v S.length (iv (spots S)) ∧ Below w.heap.size w wr) (fun _ i _ => len - (intOf i).toNat)
  case atStart => exact ⟨0, [], by omega, rfl, (fun x hx => (by cases hx)), HW1.out, by omega, World.ownsRow_nil _ _ _ _, HB1.out⟩
  case round =>
    obtain ⟨j, S, hj, rfl, hone, hsol, hbs, hown, hbel⟩ := hrel
    obtain ⟨av, cv, rfl⟩ := own_slice hown
    clear HW1 HB1 HN hbase1
    have hSn : S.length ≤ 256 := hsol.p.facts.2.2.2.2.2.1
    by_cases hgo : j < len ∧ j < 60
    · have hjl' : (j : Int) < (len : Int) := by omega
      have hj60 : (j : Int) < 60 := by omega
      rcases HD.out with h0 | ⟨lb, off, rfl, hlb, hc⟩
      · omega
      · obtain ⟨z1, z2⟩ := hc j hgo.1
        have y2 := (hbel.cell (p := ⟨lb, off + j, none⟩) hlb).trans z2
        have HCC : Hid (∀ W, Below w.heap.size w W → W.cell? ⟨lb, off + j, none⟩ = some (.int .u8 (D j : Int))) := fun W h => (h.cell (p := ⟨lb, off + j, none⟩) hlb).trans z2
        have hset := set_ok hsol.p (D j : Int) t ht
        have HO := veil hown
        have HB := veil hbel
        have HOne := veil hone
        have HS := veil hsol
        generalize D j = d at *
        by_cases hc0 : setC 256 S (d : Int) = 0
        · rw [hc0, hone.set d hc0] at hset
          have HSET := veil hset
          have HNX := veil (hone.ins d).2
          clear hset hc0 hc z2 hown hbel hone hsol
          go_wp2_with (first
            | (go_at_call 21; refine (HSET.out).mono ?_; rintro e w4 ⟨rfl, hw4, hf4⟩; have hbb := HB.out.trans (HS.out.fr hf4); have y4 := HCC.out _ hbb; have hs4 := hf4.size; have HW4 := veil hw4; have HB4 := veil hbb; have HO4 := veil (own_kept HO.out (fun k hk => hf4.block k (own_ge HO.out hk).2 (fun q => by have := (HLT.out k q).2; have := (own_ge HO.out hk).1; omega))); clear hw4 hf4 hbb)
            | (at_builtin; refine wpList_append_own _ rfl _ _ 33 rfl base1 3 i0 (.int .i64 0) 1 8 Try.underlying33 hii hz0 hz1 hz2 rfl (by decide) (.slice av S.length cv) S.length (iv (spots S)) rfl (by exact HO4.out.alloc _) ⟨w4.heap.size, 0, none⟩ 1 1 [.int .i64 (d : Int)] rfl rfl (cell_one _ _ _) (by simp [Value.oneCell']) (by unfold maxLen; omega) (by omega) (by simp; omega) ?_; intro v' w5 hown' hgrow _; have HG5 := veil hgrow; have HO5 := veil hown'; clear hgrow hown'))
          go_roundw
          case rel =>
            have hba : Below w4.heap.size w4 (w4.alloc (.cells #[.int .i64 (d : Int)] 3)) := (Below.refl _ _).alloc (Nat.le_refl _) _
            have hw5 := (HW4.out.below hba).frame (Fr.of_grown HG5.out) (fun k hk q => by
              have := (HLT.out k hk).2
              have := (own_ge HO4.out q.symm).1
              omega)
            refine ⟨j + 1, S ++ [⟨d, t⟩], by omega, by go_num, HNX.out, ⟨hw5, HS.out.lo⟩, Nat.le_trans (by omega) (Nat.le_trans hba.size HG5.out.size), ?_, ((HB4.out.alloc HB4.out.size _).grown HG5.out (by have := HB4.out.size; simp; omega) (fun k hk => by have := (own_ge HO4.out hk).1; omega))⟩
            rw [iv_snoc, List.length_append]
            exact HO5.out
          case measure => simp [intOf]; omega
        · rw [set_id hc0] at hset
          have HSET := veil hset
          clear hset hc z2 hown hbel hone hsol
          generalize setC 256 S (d : Int) = cc at *
          go_wp2_with (first
            | (go_at_call 21; refine (HSET.out).mono ?_; rintro e w4 ⟨rfl, hw4, hf4⟩; have HW4 := veil hw4; have HF4 := veil hf4; clear hw4 hf4))
          go_roundw
          case rel =>
            exact ⟨j + 1, S, by omega, by go_num, HOne.out, ⟨HW4.out, HS.out.lo⟩, Nat.le_trans hbs HF4.out.size, own_kept HO.out (fun k hk => HF4.out.block k (own_ge HO.out hk).2 (fun q => by have := (HLT.out k q).2; have := (own_ge HO.out hk).1; omega)), HB.out.trans (HS.out.fr HF4.out)⟩
          case measure => simp [intOf]; omega
    · have hor : ¬ (j : Int) < (len : Int) ∨ ((j : Int) < (len : Int) ∧ ¬ (j : Int) < 60) := by omega
      have HO := veil hown
      have HB := veil hbel
      have HS := veil hsol
      have HKEEP : Hid (∀ W W', Fr (O3 b g mb) W W' → W.ownsRow base1 3 1 (.slice av S.length cv) S.length (iv (spots S)) → W'.ownsRow base1 3 1 (.slice av S.length cv) S.length (iv (spots S))) := fun W W' hf ho => own_kept ho (fun k hk => hf.block k (own_ge ho hk).2 (fun q => by have := (HLT.out k q).2; have := (own_ge ho hk).1; omega))
      have HA1 : Hid (∀ W q, q ≤ t → Sol W w.heap.size b g mb 256 q S → Calls Try.prog 16 #[.pointer (some ⟨b, 0, none⟩), .int .u64 (t : Int)] W fun e w' => (∃ v, e = .returned v ∧ w'.ownsRow W.heap.size 3 1 v S.length (iv (spots S))) ∧ Fr (O3 b g mb) W w' ∧ Below w.heap.size W w') := fun W q hq h => by
        have := h.few hone t ht
        rw [hone.due (by omega)] at this
        exact this.mono (fun _ _ z => ⟨z.1, z.2.2, h.fr z.2.2⟩)
      have HSM : Hid (∀ W v1 v2 b1 b2, W.ownsRow b1 3 1 v1 S.length (iv (spots S)) → W.ownsRow b2 3 1 v2 S.length (iv (spots S)) → Calls Try.prog 26 #[v1, v2] W fun e w' => e = .returned (.bool true) ∧ ∃ q, w' = W.drewN q) := fun W v1 v2 b1 b2 h1 h2 => same_yes W b1 b2 v1 v2 (idl S) (by rw [idl_len]; omega) (IL_of h1) (IL_of h2)
      by_cases ht0 : 0 < t
      · have ht0' : (0 : Int) < (t : Int) := by omega
        have HA0 : Hid (∀ W, Sol W w.heap.size b g mb 256 0 S → Calls Try.prog 16 #[.pointer (some ⟨b, 0, none⟩), .int .u64 ((t : Int) - 1)] W fun e w' => (∃ a c, e = .returned (.slice a 0 c)) ∧ Sol w' w.heap.size b g mb 256 (t - 1) S ∧ Fr (O3 b g mb) W w' ∧ Below w.heap.size W w') := fun W h => by
          have := h.few hone (t - 1) (by omega)
          rw [show max (t - 1) 0 = t - 1 by omega, (hone.not (to := t - 1) (by omega)).1, (hone.not (to := t - 1) (by omega)).2, show ((t - 1 : Nat) : Int) = (t : Int) - 1 by omega] at this
          exact this.mono (fun _ _ ⟨⟨v, e, ho⟩, z2, z3⟩ => by obtain ⟨a, c, rfl⟩ := own_slice ho; exact ⟨⟨a, c, e⟩, z2, z3, h.fr z3⟩)
        clear hone hsol hown hbel
        rcases hor with hor | ⟨hor1, hor2⟩
        all_goals
          go_wp2_with (first
            | (go_at_call 16; (have hh := HS6.out; clear hh); refine (HA1.out _ _ (Nat.sub_le _ _) HS6.out).mono ?_; rintro e w7 ⟨⟨v, rfl, ho⟩, hf, hb⟩; obtain ⟨a7, c7, rfl⟩ := own_slice ho; have HO7 := veil ho; have HV7 := veil (HKEEP.out _ _ hf HV6.out); have HB7 := veil (HB6.out.trans hb); clear ho hf hb)
            | (go_at_call 16; refine (HA0.out _ HS.out).mono ?_; rintro e w5 ⟨⟨a5, c5, rfl⟩, hs, hf, hb⟩; have HS5 := veil hs; have HV5 := veil (HKEEP.out _ _ hf HO.out); have HB5 := veil (HB.out.trans hb); clear hs hf hb)
            | (go_at_call 12; refine (live_ok _).mono ?_; rintro e w6 ⟨rfl, hb⟩; have HS6 := veil (HS5.out.below hb); have HV6 := veil (own_below HV5.out hb); have HB6 := veil (HB5.out.trans (hb.mono HB5.out.size)); clear hb)
            | (go_at_call 26; refine (HSM.out _ _ _ _ _ HO7.out HV7.out).mono ?_; rintro e w8 ⟨rfl, hb⟩; have HL8 : Hid (Below w.heap.size w w8) := (by obtain ⟨q, rfl⟩ := hb; exact below_drewN HB7.out q); clear hb))
          go_ret
          exact ⟨rfl, HL8.out⟩
      · have ht0' : ¬ (0 : Int) < (t : Int) := by omega
        clear hone hsol hown hbel
        rcases hor with hor | ⟨hor1, hor2⟩
        all_goals
          go_wp2_with (first
            | (go_at_call 16; refine (HA1.out _ _ (Nat.zero_le _) HS6.out).mono ?_; rintro e w7 ⟨⟨v, rfl, ho⟩, hf, hb⟩; obtain ⟨a7, c7, rfl⟩ := own_slice ho; have HO7 := veil ho; have HV7 := veil (HKEEP.out _ _ hf HV6.out); have HB7 := veil (HB6.out.trans hb); clear ho hf hb)
            | (go_at_call 12; refine (live_ok _).mono ?_; rintro e w6 ⟨rfl, hb⟩; have HS6 := veil (HS.out.below hb); have HV6 := veil (own_below HO.out hb); have HB6 := veil (HB.out.trans (hb.mono HB.out.size)); clear hb)
            | (go_at_call 26; refine (HSM.out _ _ _ _ _ HO7.out HV7.out).mono ?_; rintro e w8 ⟨rfl, hb⟩; have HL8 : Hid (Below w.heap.size w w8) := (by obtain ⟨q, rfl⟩ := hb; exact below_drewN HB7.out q); clear hb))
          go_ret
          exact ⟨rfl, HL8.out⟩

set_option maxHeartbeats 1000000 in
theorem walk (a0 : Option Addr) (len0 cap0 : Nat) (D0 : Nat → Nat) (a1 : Int) (w : World) (n0 : len0 < 9223372036854775808) (c0 : len0 ≤ cap0) (m0 : cap0 < 9223372036854775808) (w0 : U8s w a0 len0 D0) (w1 : (Lit.int .u32 a1).wf = true) :
    Calls Try.prog 9 #[.slice a0 len0 cap0, .int .u32 a1] w fun e w' => e = .returned (.bool true) ∧ Below w.heap.size w w' := by
  obtain ⟨l1, m1⟩ := bounds_u32 w1
  obtain ⟨T, rfl⟩ := Int.eq_ofNat_of_zero_le l1
  exact way a0 len0 cap0 D0 T (by omega) w n0 w0

set_option maxHeartbeats 1000000 in
set_option maxRecDepth 100000 in
theorem lifted (os : Os) (started : os.Started) (H : Type) (enc : TypeId × Value → H) :
    ReturnsInHanded {} Try.checked os 9 .any (Rows.wheelOrderSpec.pre6 enc Try.prog Try.f9 Rows.wheelOrderRow.domain false) (Rows.wheelOrderSpec.post enc Try.prog Try.f9 false true false false) := by
  refine returnsInHanded_of_change (C := Try.checked) own started (by kernel_rfl) Try.func9
    (ChangeSpec.witness6 (enc := enc) (C := Try.checked) false ⟨#[], #[.slice none 0 0, .int .u32 0], []⟩ 8 (by kernel_rfl) (by kernel_rfl) (by kernel_rfl) (by kernel_rfl)) ?_
  intro W base args ds gs before hval0 hW hcnd _
  have hval : ∀ (j : Nat) t v, Try.f9.params[j]? = some t → args[j]? = some v → Value.okWide Try.prog W .any base t v := hval0
  have hW' := hW
  obtain ⟨p, q, hA0, hV, rfl, hfz, hnd⟩ := hW
  have hA : DataW.TrodAll enc Try.prog W 0 (fun _ => true) true Try.f9.params.toList args.toList ds p := hA0
  rw [Try.params9] at hA hval
  obtain ⟨v0, vs0, d0, ds0, p0', q0', hargs, rfl, rfl, h0, r0⟩ := trodAll_cons hA
  obtain ⟨v1, vs1, d1, ds1, p1', q1', rfl, rfl, rfl, h1, r1⟩ := trodAll_cons r0
  obtain ⟨rfl, rfl, rfl⟩ := trodAll_nil r1
  obtain rfl : args = #[v0, v1] := by cases args; simp_all
  obtain ⟨rfl, rfl⟩ := trodVars_none hV
  have kk0 := h0
  have lt0 : ∀ x ∈ p0', x.block < W.heap.size := by obtain ⟨m, hm⟩ := kk0; exact DataW.trod_lt m _ _ _ hm
  obtain ⟨a0, len0, cap0, rfl⟩ := okWide_slice Try.underlying53 (hval 0 53 v0 rfl rfl)
  obtain ⟨n0, c0, m0, D0, w0⟩ : len0 < 9223372036854775808 ∧ len0 ≤ cap0 ∧ cap0 < 9223372036854775808 ∧ ∃ D, U8s W a0 len0 D := by
    obtain ⟨fuel, hf⟩ := h0
    exact open_u8s hf
  have kk1 := h1
  have lt1 : ∀ x ∈ p1', x.block < W.heap.size := by obtain ⟨m, hm⟩ := kk1; exact DataW.trod_lt m _ _ _ hm
  obtain ⟨a1, rfl, rfl, rfl, w1⟩ := open_int Try.underlying54 (hval 1 54 v1 rfl rfl) h1
  clear hA0 hval0
  refine (walk a0 len0 cap0 D0 a1 W n0 c0 m0 w0 w1).mono fun e W' ⟨he, bel⟩ => ?_
  subst he
  exact ⟨_, rfl, _, _, _, [], _, [], hW', trodAll_mk1 (shut_bool Try.underlying4 _), (trodAll_cons_mk (Below.trod laidOut (by kernel_rfl) (of_decide_eq_true (by kernel_rfl)) kk0 bel lt0) (trodAll_cons_mk (Below.trod laidOut (by kernel_rfl) (of_decide_eq_true (by kernel_rfl)) kk1 bel lt1) trodAll_mk0)), rfl, bel.frame _, fun h => by cases h⟩

theorem over : Rows.wheelOrderRow.holds Try.pinned (OpenSpec.ofChange Rows.wheelOrderSpec) :=
  OpenClaim.holds_of_wide 9 Try.f9 rfl rfl rfl rfl rfl rfl rfl ⟨rfl, rfl, rfl, rfl, rfl⟩ rfl rfl rfl rfl rfl (by kernel_rfl) Try.func9 (by kernel_rfl)
    (of_decide_eq_true (by kernel_rfl)) (by unfold Func.isWrapper; first | (rw [if_pos (by decide +kernel)]; kernel_rfl) | (rw [if_neg (by decide +kernel)]; exact ⟨rfl, rfl⟩))
    (fun os started H enc _ => lifted os started H enc)
end Go.Proofs.Ytjmbadadelelfaa.wheelOrder
namespace Go.Proofs.Ytjmbadadelelfaa
/-- The statement. -/
theorem wheelOrder_holds : Rows.WheelOrderSaid := wheelOrder.over
#print axioms wheelOrder_holds
end Go.Proofs.Ytjmbadadelelfaa
