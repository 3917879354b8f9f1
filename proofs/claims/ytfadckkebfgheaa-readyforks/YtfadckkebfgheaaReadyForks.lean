/-
  For every deeds and every more of them on the Fork ReadyForks answers true: what becomes of a Fork changes nothing of the set. No condition.
-/
import Derived.Test.YtfadckkebfgheaaRows
import Derived.Test.YtfadckkebfgheaaY17
import Derived.Test.YtfadckkebfgheaaY19
import Derived.WalkKit
import Derived.ProofKit
import Derived.OpenShut
import Derived.RowKit3
import Derived.Laws.Cover2
import Derived.Laws.IdiomArrays
import Derived.ChangeOld
import Derived.Below
import Derived.Carry
import Derived.Lib.SmallJoins
namespace Go.Proofs.Ytfadckkebfgheaa.readyForks
open Go.ChangeShapes Go.WideShapes Go.ChangeAt Go.RowKit
set_option linter.unusedVariables false

theorem own : ownKnob Try.prog.godebug = none := by kernel_rfl
theorem laidOut : laidOutB Try.prog = true := by kernel_rfl
open Go.Lib
set_option maxHeartbeats 8000000 in
theorem way (a : Option Addr) (len cap : Nat) (D : Nat → Dq) (a2 : Option Addr) (len2 cap2 : Nat) (D2 : Nat → Dq) (w : World) (hlen : len < 9223372036854775808) (hd : Dqs w a len D) (hlen2 : len2 < 9223372036854775808) (hd2 : Dqs w a2 len2 D2) :
    Calls Try.prog 7 #[.slice a len cap, .slice a2 len2 cap2] w fun e w' => e = .returned (.bool true) ∧ Below w.heap.size w w' := by
  have HP := veil (play_ok w 9 (by decide) a len cap hlen D hd)
  have HD2 := veil hd2
  clear hd hd2
  go_enter Try.func7, Try.ntmps7
  go_wp2_with (first
    | (go_at_call 11; refine (HP.out).mono ?_; rintro e w1 ⟨base, sb, qb, gq, hb, gh, rb, turn, v, M, rfl, h1, h3, h4, ht, hB, hL⟩; have HB := veil hB; have HL := veil hL; clear hB hL)
    | (go_at_call 12; refine (live_ready _).mono ?_; rintro e w2 ⟨rfl, hb2⟩; have HB2 := veil (HB.out.below hb2); have HL2 := veil (HL.out.trans (hb2.mono HL.out.size)); clear hb2)
    | (go_at_call 21; refine (sfork_ok HB2.out.q).mono ?_; rintro e w3 ⟨sb', qb', gq', hb', gh', rfl, k1, k3, k4⟩; have HO3 := veil k1; have HF3 := veil k3; have HB3 := veil (HB2.out.below k4); have HW3 := veil k4; clear k1 k3 k4)
    | (go_at_call 22; refine (Dc.rfork_ok HB3.out.r).mono ?_; rintro e w4 ⟨rb', v', rfl, k5, k6, k7⟩; have HN4 := veil (show Both w4 w3.heap.size sb' qb' gq' hb' gh' rb' _ _ turn v' M from ⟨HF3.out.below k7, k6, HF3.out.blocks, fun k hk => by have := HF3.out.blocks k hk; omega⟩); have HW4 := veil (show Below w2.heap.size w2 w4 from HW3.out.trans (k7.mono HW3.out.size)); have k8 : w2.heap.size ≤ rb' := Nat.le_trans HW3.out.size k5; clear k6 k7))
  have hsw : w.heap.size ≤ w2.heap.size := HL2.out.size
  clear HB HL HB3 HW3 HF3 HP
  go_loopw [10] (fun i wr => ∃ (j tx : Nat) (vx : Value) (Lx : List En), j ≤ len2 ∧ j ≤ 30 ∧ tx ≤ 80 + j ∧ i = .int .i64 j ∧ Both wr w3.heap.size sb' qb' gq' hb' gh' rb' 10 (9 % 10 + 1) tx vx Lx ∧ Below w2.heap.size w2 wr) (fun i _ => len2 - (intOf i).toNat)
  case atStart => exact ⟨0, turn, _, _, by omega, by omega, by omega, rfl, HN4.out, HW4.out⟩
  case round =>
    obtain ⟨j, tx, vx, Lx, hj, hj1, htx, rfl, hB, hbel⟩ := hrel
    have HEnd : Hid (∀ W, Below wr.heap.size wr W → Both W base sb qb gq hb gh rb 10 (9 % 10 + 1) turn v M ∧ Both W w3.heap.size sb' qb' gq' hb' gh' rb' 10 (9 % 10 + 1) tx vx Lx ∧ Below w.heap.size w W) := fun W hW => ⟨HB2.out.below (hbel.trans (hW.mono hbel.size)), hB.below hW, HL2.out.trans ((hbel.trans (hW.mono hbel.size)).mono hsw)⟩
    by_cases hjl : j < len2
    · have hjl' : (j : Int) < (len2 : Int) := by omega
      by_cases hj2 : j < 30
      · rcases HD2.out with h0 | ⟨lb, off, rfl, hlb, hc⟩
        · omega
        · obtain ⟨hok, z2, z3, z4, z5, z6⟩ := hc j hjl
          have hbw : Below w.heap.size w wr := HL2.out.trans (hbel.mono hsw)
          have y2 := (hbw.cell (p := ⟨lb, off + j * 5, none⟩) hlb).trans z2
          have y3 := (hbw.cell (p := ⟨lb, off + j * 5 + 1, none⟩) hlb).trans z3
          have y4 := (hbw.cell (p := ⟨lb, off + j * 5 + 2, none⟩) hlb).trans z4
          have y5 := (hbw.cell (p := ⟨lb, off + j * 5 + 3, none⟩) hlb).trans z5
          have y6 := (hbw.cell (p := ⟨lb, off + j * 5 + 4, none⟩) hlb).trans z6
          have HDO := veil (do_ok wr _ _ _ _ _ _ _ _ _ tx vx Lx hB (by omega) (D2 j) hok)
          have HS := veil (fun w'' hf => hB.step (w'' := w'') (Nat.le_refl _) hbel HO3.out k8 hf)
          clear hc z2 z3 z4 z5 z6 hB hbel hbw HEnd
          go_wp2_with (go_at_call 23; refine (HDO.out).mono ?_; rintro e w5 ⟨rfl, hb5, hf5⟩; have HB5 := veil hb5; have HF5 := veil (HS.out _ hf5); clear hb5 hf5)
          go_roundw
          case rel =>
            obtain ⟨t', v5, L5, ht', hb'⟩ := HB5.out
            exact ⟨j + 1, t', v5, L5, by omega, by omega, by omega, by go_num, hb', HF5.out⟩
          case measure => simp [intOf]; omega
      · clear hB hbel
        have hj3 : ¬ (j : Int) < 30 := by omega
        go_wp2_with (go_at_call 13; first | (refine (same_ok _ base sb qb gq hb gh rb _ _ turn v M (HEnd.out _ (Below.refl _ _)).1 1).mono ?_; rintro e w6 ⟨rfl, hb6⟩; have HE6 := veil (HEnd.out _ hb6); clear hb6 HEnd) | (refine (same_ok _ w3.heap.size sb' qb' gq' hb' gh' rb' _ _ tx vx Lx HE6.out.2.1 1).mono ?_; rintro e w7 ⟨rfl, hb7⟩; have HE7 := veil (HE6.out.2.2.trans (hb7.mono HE6.out.2.2.size)); clear hb7))
        go_ret
        exact ⟨rfl, HE7.out⟩
    · have hjl' : ¬ (j : Int) < (len2 : Int) := by omega
      clear hB hbel
      go_wp2_with (go_at_call 13; first | (refine (same_ok _ base sb qb gq hb gh rb _ _ turn v M (HEnd.out _ (Below.refl _ _)).1 1).mono ?_; rintro e w6 ⟨rfl, hb6⟩; have HE6 := veil (HEnd.out _ hb6); clear hb6 HEnd) | (refine (same_ok _ w3.heap.size sb' qb' gq' hb' gh' rb' _ _ tx vx Lx HE6.out.2.1 1).mono ?_; rintro e w7 ⟨rfl, hb7⟩; have HE7 := veil (HE6.out.2.2.trans (hb7.mono HE6.out.2.2.size)); clear hb7))
      go_ret
      exact ⟨rfl, HE7.out⟩

set_option maxHeartbeats 1000000 in
theorem walk (a0 : Option Addr) (len0 cap0 : Nat) (D0 : Nat → Dq) (a1 : Option Addr) (len1 cap1 : Nat) (D1 : Nat → Dq) (w : World) (n0 : len0 < 9223372036854775808) (c0 : len0 ≤ cap0) (m0 : cap0 < 9223372036854775808) (w0 : Dqs w a0 len0 D0) (n1 : len1 < 9223372036854775808) (c1 : len1 ≤ cap1) (m1 : cap1 < 9223372036854775808) (w1 : Dqs w a1 len1 D1) :
    Calls Try.prog 7 #[.slice a0 len0 cap0, .slice a1 len1 cap1] w fun e w' => e = .returned (.bool true) ∧ Below w.heap.size w w' := by
  exact way a0 len0 cap0 D0 a1 len1 cap1 D1 w n0 w0 n1 w1

set_option maxHeartbeats 1000000 in
set_option maxRecDepth 100000 in
theorem lifted (os : Os) (started : os.Started) (H : Type) (enc : TypeId × Value → H) :
    ReturnsInHanded {} Try.checked os 7 .any (Rows.readyForksSpec.pre6 enc Try.prog Try.f7 Rows.readyForksRow.domain false) (Rows.readyForksSpec.post enc Try.prog Try.f7 false true false false) := by
  refine returnsInHanded_of_change (C := Try.checked) own started (by kernel_rfl) Try.func7
    (ChangeSpec.witness6 (enc := enc) (C := Try.checked) false ⟨#[], #[.slice none 0 0, .slice none 0 0], []⟩ 8 (by kernel_rfl) (by kernel_rfl) (by kernel_rfl) (by kernel_rfl)) ?_
  intro W base args ds gs before hval0 hW hcnd _
  have hval : ∀ (j : Nat) t v, Try.f7.params[j]? = some t → args[j]? = some v → Value.okWide Try.prog W .any base t v := hval0
  have hW' := hW
  obtain ⟨p, q, hA0, hV, rfl, hfz, hnd⟩ := hW
  have hA : DataW.TrodAll enc Try.prog W 0 (fun _ => true) true Try.f7.params.toList args.toList ds p := hA0
  rw [Try.params7] at hA hval
  obtain ⟨v0, vs0, d0, ds0, p0', q0', hargs, rfl, rfl, h0, r0⟩ := trodAll_cons hA
  obtain ⟨v1, vs1, d1, ds1, p1', q1', rfl, rfl, rfl, h1, r1⟩ := trodAll_cons r0
  obtain ⟨rfl, rfl, rfl⟩ := trodAll_nil r1
  obtain rfl : args = #[v0, v1] := by cases args; simp_all
  obtain ⟨rfl, rfl⟩ := trodVars_none hV
  have kk0 := h0
  have lt0 : ∀ x ∈ p0', x.block < W.heap.size := by obtain ⟨m, hm⟩ := kk0; exact DataW.trod_lt m _ _ _ hm
  obtain ⟨a0, len0, cap0, rfl⟩ := okWide_slice Try.underlying22 (hval 0 22 v0 rfl rfl)
  obtain ⟨n0, c0, m0, D0, w0⟩ : len0 < 9223372036854775808 ∧ len0 ≤ cap0 ∧ cap0 < 9223372036854775808 ∧ ∃ D, Dqs W a0 len0 D := by
    obtain ⟨fuel, hf⟩ := h0
    exact open_deeds hf
  have kk1 := h1
  have lt1 : ∀ x ∈ p1', x.block < W.heap.size := by obtain ⟨m, hm⟩ := kk1; exact DataW.trod_lt m _ _ _ hm
  obtain ⟨a1, len1, cap1, rfl⟩ := okWide_slice Try.underlying22 (hval 1 22 v1 rfl rfl)
  obtain ⟨n1, c1, m1, D1, w1⟩ : len1 < 9223372036854775808 ∧ len1 ≤ cap1 ∧ cap1 < 9223372036854775808 ∧ ∃ D, Dqs W a1 len1 D := by
    obtain ⟨fuel, hf⟩ := h1
    exact open_deeds hf
  clear hA0 hval0
  refine (walk a0 len0 cap0 D0 a1 len1 cap1 D1 W n0 c0 m0 w0 n1 c1 m1 w1).mono fun e W' ⟨he, bel⟩ => ?_
  subst he
  exact ⟨_, rfl, _, _, _, [], _, [], hW', trodAll_mk1 (shut_bool Try.underlying4 _), (trodAll_cons_mk (Below.trod laidOut (by kernel_rfl) (of_decide_eq_true (by kernel_rfl)) kk0 bel lt0) (trodAll_cons_mk (Below.trod laidOut (by kernel_rfl) (of_decide_eq_true (by kernel_rfl)) kk1 bel lt1) trodAll_mk0)), rfl, bel.frame _, fun h => by cases h⟩

theorem over : Rows.readyForksRow.holds Try.pinned (OpenSpec.ofChange Rows.readyForksSpec) :=
  OpenClaim.holds_of_wide 7 Try.f7 rfl rfl rfl rfl rfl rfl rfl ⟨rfl, rfl, rfl, rfl, rfl⟩ rfl rfl rfl rfl rfl (by kernel_rfl) Try.func7 (by kernel_rfl)
    (of_decide_eq_true (by kernel_rfl)) (by unfold Func.isWrapper; first | (rw [if_pos (by decide +kernel)]; kernel_rfl) | (rw [if_neg (by decide +kernel)]; exact ⟨rfl, rfl⟩))
    (fun os started H enc _ => lifted os started H enc)
end Go.Proofs.Ytfadckkebfgheaa.readyForks
namespace Go.Proofs.Ytfadckkebfgheaa
/-- The statement. -/
theorem readyForks_holds : Rows.ReadyForksSaid := readyForks.over
#print axioms readyForks_holds
end Go.Proofs.Ytfadckkebfgheaa
