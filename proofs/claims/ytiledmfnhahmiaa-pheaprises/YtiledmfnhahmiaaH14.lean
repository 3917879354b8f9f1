/-
  The walk of 'same': both heaps tell the same.
-/
import Derived.Test.YtiledmfnhahmiaaH13
import Derived.Deep.DrawnRows
namespace Go.Proofs.Ytiledmfnhahmiaa
open Go.RowKit Go.Lib
attribute [local go_sem ↓] Go.wp_at_zero Go.wp_at_succ

theorem below_fr {B b g : Nat} {w w' w'' : World} (h : Below B w w') (hB : B ≤ w.heap.size) (hf : Fr (fun k => k = b ∨ k = g) w' w'') (h1 : B ≤ b) (h2 : B ≤ g) : Below B w w'' := by
  refine h.trans (hf.below (Nat.le_trans hB h.size) ?_)
  rintro k (q | q) <;> omega

set_option maxHeartbeats 16000000 in
set_option maxRecDepth 100000 in
theorem same_ok (w : World) (base b g rb n : Nat) (v : Value) (L : List Item) (h : Both w base b g rb n v L) (x1 : Int) :
    Calls Try.prog 13 #[.pointer (some ⟨b, 0, none⟩), .pointer (some ⟨rb, 0, none⟩), .int .i64 x1] w fun e w' => e = .returned (.bool true) ∧ Below w.heap.size w w' := by
  have hll : (idsL L).length ≤ 1024 := by rw [idsL_len]; exact Nat.le_trans h.q.good.len h.q.nle
  have HA := veil h
  have HB0 : Hid (Below w.heap.size w w) := Below.refl _ _
  have HW : Hid (∀ w1 w2, Below w.heap.size w w1 → Below w1.heap.size w1 w2 → Below w.heap.size w w2) := fun w1 w2 q1 q2 => q1.trans (q2.mono q1.size)
  clear h
  go_enter Try.func13, Try.ntmps13
  go_wp2_with (first
    | (go_at_call 18; refine (hmin_all HA.out.q).mono ?_; rintro e w1 ⟨rfl, hb⟩; have HA1 := veil (HA.out.below hb); have HB1 := veil (HW.out _ _ HB0.out hb); clear hb HA HB0)
    | (go_at_call 28; refine (rmin_all HA1.out.r).mono ?_; rintro e w2 ⟨rfl, hw⟩; replace hw := hw.symm; subst hw)
    | (go_at_call 16; refine (hget_all HA1.out.q x1).mono ?_; rintro e w3 ⟨rfl, hb⟩; have HA3 := veil (HA1.out.below hb); have HB3 := veil (HW.out _ _ HB1.out hb); clear hb HA1 HB1)
    | (go_at_call 29; refine (rget_all HA3.out.r x1).mono ?_; rintro e w4 ⟨rfl, hb⟩; have HA4 := veil (HA3.out.below hb); have HB4 := veil (HW.out _ _ HB3.out hb); clear hb HA3 HB3)
    | (go_at_call 15; refine (hlen_ok HA4.out.q).mono ?_; rintro e w7 ⟨rfl, hw⟩; replace hw := hw.symm; subst hw)
    | (go_at_call 30; refine (rlen_ok HA4.out.r).mono ?_; rintro e w7 ⟨rfl, hw⟩; replace hw := hw.symm; subst hw)
    | (go_at_call 14; refine (hlist_ok HA4.out.q).mono ?_; rintro e w7 ⟨v7, rfl, hil, hb⟩; have HI7 := veil hil; have HA7 := veil (HA4.out.below hb); have HB7 := veil (HW.out _ _ HB4.out hb); clear hb hil)
    | (go_at_call 31; refine (rList_ok HA7.out.r).mono ?_; rintro e w8 ⟨v8, rfl, hil, hb⟩; have HI8 := veil hil; have HI7' := veil (HI7.out.below hb); have HB8 := veil (HW.out _ _ HB7.out hb); clear hb hil)
    | (go_at_call 21; refine (same_yes _ _ _ _ _ (idsL L) hll HI7'.out HI8.out).mono ?_; rintro e w9 ⟨rfl, q, hw⟩; have HB9 := veil (HW.out _ w9 HB8.out (by rw [hw]; exact below_drewN (Below.refl _ _) _)); clear hw))
  go_ret
  exact ⟨by simp, HB9.out⟩
end Go.Proofs.Ytiledmfnhahmiaa
