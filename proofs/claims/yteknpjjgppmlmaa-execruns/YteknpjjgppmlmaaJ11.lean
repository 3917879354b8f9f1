/-
  exec: ExecRuns, ExecEnds.
-/
import Derived.Test.YteknpjjgppmlmaaJ8
namespace Go.Proofs.Yteknpjjgppmlmaa
open Go.RowKit Go.Lib
set_option linter.unusedVariables false

theorem psame_empty (w : World) (a b : Option Addr) (ca cb : Nat) :
    Calls Try.prog 16 #[.slice a 0 ca, .slice b 0 cb] w fun e w' => e = .returned (.bool true) ∧ ∃ q, w' = w.drewN q := by
  go_enter Try.func16, Try.ntmps16
  go_wp2
  go_loopw [5] (fun i wr => i = .int .i64 0 ∧ wr = w) (fun i _ => 0)
  case atStart => exact ⟨rfl, rfl⟩
  case round =>
    obtain ⟨rfl, rfl⟩ := hrel
    go_wp2
    go_ret
    exact ⟨rfl, 0, rfl⟩
theorem psame_any (w : World) (a b : Option Addr) (k ca cb : Nat) (O R : Nat → Int) (hk : k ≤ 1024) (ha : Prg w a k O R) (hb : Prg w b k O R) :
    Calls Try.prog 16 #[.slice a k ca, .slice b k cb] w fun e w' => e = .returned (.bool true) ∧ Below w.heap.size w w' := by
  by_cases h0 : k = 0
  · subst h0
    exact (psame_empty w a b ca cb).mono fun e w' ⟨he, q, hw⟩ => ⟨he, by rw [hw]; exact below_drewN (Below.refl _ _) q⟩
  · rcases ha with q | ⟨lb, off, rfl, _, h1⟩
    · exact absurd q h0
    rcases hb with q | ⟨lb2, off2, rfl, _, h2⟩
    · exact absurd q h0
    exact (psame_walk w lb off lb2 off2 k ca cb O R hk h1 h2).mono fun e w' ⟨he, q, hw⟩ => ⟨he, by rw [hw]; exact below_drewN (Below.refl _ _) q⟩
theorem rlen_cases (f : Nat → Int) : ∀ n, (spd f n = false ∧ rlen f n = n) ∨ ∃ k, k < n ∧ spd f k = false ∧ f k = 9 ∧ rlen f n = k + 1
  | 0 => .inl ⟨rfl, rfl⟩
  | n + 1 => by
    rcases rlen_cases f n with ⟨h1, h2⟩ | ⟨k, h1, h2, h3, h4⟩
    · by_cases h9 : f n = 9
      · exact .inr ⟨n, by omega, h1, h9, by simp [rlen, h1]⟩
      · exact .inl ⟨by simp [spd, h1, h9], by simp [rlen, h1]⟩
    · refine .inr ⟨k, by omega, h2, h3, ?_⟩
      have : spd f n = true := by
        have := spd_up (f := f) (k := k + 1) (by simp [spd, h3]) (n - (k + 1))
        rwa [show k + 1 + (n - (k + 1)) = n by omega] at this
      simp [rlen, this, h4]
theorem spd_no {f : Nat → Int} : ∀ {k : Nat}, spd f k = false → ∀ i, i < k → f i ≠ 9
  | k + 1, h, i, hi => by
    simp [spd] at h
    by_cases q : i = k
    · rw [q]; exact h.2
    · exact spd_no h.1 i (by omega)
theorem rlen_le (f : Nat → Int) (n : Nat) : rlen f n ≤ n := by
  rcases rlen_cases f n with ⟨_, h⟩ | ⟨k, h1, _, _, h⟩ <;> omega
theorem rlen_mono (f : Nat → Int) {a b : Nat} (h : a ≤ b) : rlen f a ≤ rlen f b := by
  rcases rlen_cases f b with ⟨h1, h2⟩ | ⟨k, h1, h2, h3, h4⟩
  · have := rlen_le f a; omega
  · rcases rlen_cases f a with ⟨g1, g2⟩ | ⟨k', g1, g2, g3, g4⟩
    · have : ¬ k < a := fun q => spd_no g1 k q h3
      omega
    · have h5 : ¬ k < k' := fun q => spd_no g2 k q h3
      omega
set_option maxHeartbeats 4000000 in
theorem runs_walk (w : World) (a : Option Addr) (len cap : Nat) (hl : len < 9223372036854775808) (hc : len ≤ cap) (O R : Nat → Int) (hp : Prg w a len O R) (n : Int) :
    Calls Try.prog 4 #[.slice a len cap, .int .i64 n] w fun e w' => e = .returned (.bool true) ∧ Below w.heap.size w w' := by
  have HF := veil (fun w1 (hb : Below w.heap.size w w1) => few_ok w1 a len cap hl hc O R (hp.below hb))
  have hpm := hp.cut (m := min len 100) (by omega)
  have hm : min len 100 < 9223372036854775808 := by omega
  have HL := veil live_ok
  clear hp
  generalize (min len 100) = m at HF hpm hm
  by_cases hn : n < 0
  · have hn2 : ¬ 200 < n := by omega
    have HR := veil (fun w1 => run_neg w1 a m cap n (by omega))
    have HQ := veil (fun w1 => rrun_neg w1 a m cap n (by omega))
    go_enter Try.func4, Try.ntmps4
    go_wp2_with (first
      | (go_at_call 10; refine (HF.out _ (Below.refl _ _)).mono ?_; rintro e w0 ⟨rfl, hw⟩; replace hw := hw.symm; subst hw)
      | (go_at_call 15; refine (HL.out _).mono ?_; rintro e w1 ⟨rfl, hb⟩; have HB1 := veil hb; clear hb)
      | (go_at_call 17; refine (HR.out _).mono ?_; rintro e w2 ⟨rfl, hb⟩; have HB2 := veil (HB1.out.trans (hb.mono HB1.out.size)); clear hb)
      | (go_at_call 18; refine (HQ.out _).mono ?_; rintro e w3 ⟨rfl, hb⟩; have HB3 := veil (HB2.out.trans (hb.mono HB2.out.size)); clear hb)
      | (go_at_call 16; refine (psame_any _ _ _ 0 _ _ O R (by omega) (.inl rfl) (.inl rfl)).mono ?_; rintro e w4 ⟨rfl, hb⟩; have HB4 := veil (HB3.out.trans (hb.mono HB3.out.size)); clear hb))
    go_ret
    exact ⟨rfl, HB4.out⟩
  · obtain ⟨r, hr⟩ := rt_bool m O R
    obtain ⟨N, hN, hcase⟩ : ∃ N : Nat, N ≤ 200 ∧ ((n = N ∧ ¬ 200 < n) ∨ (200 < n ∧ N = 200)) := by
      by_cases h : 200 < n
      · exact ⟨200, by omega, .inr ⟨h, rfl⟩⟩
      · exact ⟨n.toNat, by omega, .inl ⟨by omega, h⟩⟩
    have HR := veil (fun w1 (hb : Below w.heap.size w w1) => run_ok w1 a m cap hm O R (hpm.below hb) r hr N (by omega))
    have HQ := veil (fun w1 (hb : Below w.heap.size w w1) => rrun_ok w1 a m cap hm O R (hpm.below hb) r hr N (by omega))
    have hk := rlen_le (ro r m O R) N
    generalize rlen (ro r m O R) N = k at HR HQ hk
    generalize ro r m O R = f at HR HQ
    generalize ra r m O R = g at HR HQ
    clear hpm hr
    rcases hcase with ⟨rfl, h2⟩ | ⟨h2, rfl⟩
    all_goals
      go_enter Try.func4, Try.ntmps4
      go_wp2_with (first
        | (go_at_call 10; refine (HF.out _ (Below.refl _ _)).mono ?_; rintro e w0 ⟨rfl, hw⟩; replace hw := hw.symm; subst hw)
        | (go_at_call 15; refine (HL.out _).mono ?_; rintro e w1 ⟨rfl, hb⟩; have HB1 := veil hb; clear hb)
        | (go_at_call 17; refine (HR.out _ HB1.out).mono ?_; rintro e w2 ⟨v, rfl, ho, hb⟩; obtain ⟨a2, cap2, rfl, hp2⟩ := prg_any ho; have HB2 := veil (HB1.out.trans (hb.mono HB1.out.size)); have HP2 := veil hp2; clear hb hp2 ho)
        | (go_at_call 18; refine (HQ.out _ HB2.out).mono ?_; rintro e w3 ⟨v, rfl, ho, hb⟩; obtain ⟨a3, cap3, rfl, hp3⟩ := prg_any ho; have HB3 := veil (HB2.out.trans (hb.mono HB2.out.size)); have HP3 := veil hp3; have HP2' := veil (HP2.out.below hb); clear hb hp3 ho)
        | (go_at_call 16; refine (psame_any _ _ _ k _ _ f g (by omega) HP2'.out HP3.out).mono ?_; rintro e w4 ⟨rfl, hb⟩; have HB4 := veil (HB3.out.trans (hb.mono HB3.out.size)); clear hb))
      go_ret
      exact ⟨rfl, HB4.out⟩
end Go.Proofs.Yteknpjjgppmlmaa
