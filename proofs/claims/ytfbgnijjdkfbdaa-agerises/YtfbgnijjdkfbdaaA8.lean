/-
  age: AgeRises's walk.
-/
import Derived.Test.YtfbgnijjdkfbdaaA6
namespace Go.Proofs.Ytfbgnijjdkfbdaa
open Go.RowKit
set_option linter.unusedVariables false

set_option maxRecDepth 100000 in
set_option maxHeartbeats 4000000 in
theorem rises_walk (b s n p m u : Int) (w : World) (h : Lv b ∧ Tm s ∧ Tm n ∧ Tm p) (hm : Tm m) (hu : Lv u) :
    Calls Try.prog 4 #[.agg #[.int .u8 b, .int .u64 s, .int .u64 n, .int .u64 p], .int .u64 m, .int .u8 u] w fun e w' => e = .returned (.bool true) ∧ Below w.heap.size w w' := by
  obtain ⟨hb, hs, hn, hp⟩ := h
  have HV := veil (fun w => live_b w)
  have HG := veil lev_b
  have HL := veil level_b
  have e1 := levN_ge b s n p hb hs hn hp
  obtain ⟨n0, n1⟩ := id hn
  obtain ⟨m0, m1⟩ := id hm
  obtain ⟨b0, b1⟩ := id hb
  obtain ⟨u0, u1⟩ := id hu
  by_cases c1 : 18446744073709551615 - n < m
  · have e2 := levN_mono b s n n p hb hp (by omega)
    by_cases c2 : b < u
    · have e3 := levN_up b u s n p hb hu hs hn hp (by omega)
      go_enter Try.func4, Try.ntmps4
      go_wp2
      go_region_held3 (fun w' => (w'.cell? ⟨w.heap.size, 0, none⟩ = some (.int .u8 b) ∧ w'.cell? ⟨w.heap.size, 1, none⟩ = some (.int .u64 s) ∧ w'.cell? ⟨w.heap.size, 2, none⟩ = some (.int .u64 n) ∧ w'.cell? ⟨w.heap.size, 3, none⟩ = some (.int .u64 p)) ∧ (w'.cell? ⟨w.heap.size + 1, 0, none⟩ = some (.int .u8 b) ∧ w'.cell? ⟨w.heap.size + 1, 1, none⟩ = some (.int .u64 s) ∧ w'.cell? ⟨w.heap.size + 1, 2, none⟩ = some (.int .u64 n) ∧ w'.cell? ⟨w.heap.size + 1, 3, none⟩ = some (.int .u64 p)) ∧ (w'.cell? ⟨w.heap.size + 2, 0, none⟩ = some (.int .u8 u) ∧ w'.cell? ⟨w.heap.size + 2, 1, none⟩ = some (.int .u64 s) ∧ w'.cell? ⟨w.heap.size + 2, 2, none⟩ = some (.int .u64 n) ∧ w'.cell? ⟨w.heap.size + 2, 3, none⟩ = some (.int .u64 p)) ∧ Below w.heap.size w w')
        (first | exact kp3x hb1 (by assumption) | exact kp3d (by assumption) | (refine ⟨by simp [go_sem], by simp [go_sem], by simp [go_sem], ?_⟩; repeat' (first | exact Below.refl _ _ | refine Below.drew ?_ | refine below_drewN ?_ _ | refine Below.alloc ?_ (by simp; try omega) _)))
        (first | (go_at_call 12; refine (HV.out _).mono ?_; rintro e w1 ⟨rfl, hb1⟩) | (go_at_call 13; refine (HG.out _ _ _ _ _ (by assumption) (by assumption) (by assumption) (by assumption)).mono ?_; rintro e w1 ⟨rfl, hb1⟩))
      go_wp2
      go_ret
      exact ⟨rfl, (show _ ∧ _ ∧ _ ∧ _ by assumption).2.2.2⟩
    · have e3 := levN_up b b s n p hb hb hs hn hp (by omega)
      have c2' : u ≤ b := by omega
      go_enter Try.func4, Try.ntmps4
      go_wp2
      go_region_held3 (fun w' => (w'.cell? ⟨w.heap.size, 0, none⟩ = some (.int .u8 b) ∧ w'.cell? ⟨w.heap.size, 1, none⟩ = some (.int .u64 s) ∧ w'.cell? ⟨w.heap.size, 2, none⟩ = some (.int .u64 n) ∧ w'.cell? ⟨w.heap.size, 3, none⟩ = some (.int .u64 p)) ∧ (w'.cell? ⟨w.heap.size + 1, 0, none⟩ = some (.int .u8 b) ∧ w'.cell? ⟨w.heap.size + 1, 1, none⟩ = some (.int .u64 s) ∧ w'.cell? ⟨w.heap.size + 1, 2, none⟩ = some (.int .u64 n) ∧ w'.cell? ⟨w.heap.size + 1, 3, none⟩ = some (.int .u64 p)) ∧ (w'.cell? ⟨w.heap.size + 2, 0, none⟩ = some (.int .u8 b) ∧ w'.cell? ⟨w.heap.size + 2, 1, none⟩ = some (.int .u64 s) ∧ w'.cell? ⟨w.heap.size + 2, 2, none⟩ = some (.int .u64 n) ∧ w'.cell? ⟨w.heap.size + 2, 3, none⟩ = some (.int .u64 p)) ∧ Below w.heap.size w w')
        (first | exact kp3x hb1 (by assumption) | exact kp3d (by assumption) | (refine ⟨by simp [go_sem], by simp [go_sem], by simp [go_sem], ?_⟩; repeat' (first | exact Below.refl _ _ | refine Below.drew ?_ | refine below_drewN ?_ _ | refine Below.alloc ?_ (by simp; try omega) _)))
        (first | (go_at_call 12; refine (HV.out _).mono ?_; rintro e w1 ⟨rfl, hb1⟩) | (go_at_call 13; refine (HG.out _ _ _ _ _ (by assumption) (by assumption) (by assumption) (by assumption)).mono ?_; rintro e w1 ⟨rfl, hb1⟩))
      go_wp2
      go_ret
      exact ⟨rfl, (show _ ∧ _ ∧ _ ∧ _ by assumption).2.2.2⟩
  · have e2 := levN_mono b s n (n + m) p hb hp (by omega)
    have hnm : Tm (n + m) := ⟨by omega, by omega⟩
    have c1' : m ≤ 18446744073709551615 - n := by omega
    by_cases c2 : b < u
    · have e3 := levN_up b u s n p hb hu hs hn hp (by omega)
      go_enter Try.func4, Try.ntmps4
      go_wp2
      go_region_held3 (fun w' => (w'.cell? ⟨w.heap.size, 0, none⟩ = some (.int .u8 b) ∧ w'.cell? ⟨w.heap.size, 1, none⟩ = some (.int .u64 s) ∧ w'.cell? ⟨w.heap.size, 2, none⟩ = some (.int .u64 n) ∧ w'.cell? ⟨w.heap.size, 3, none⟩ = some (.int .u64 p)) ∧ (w'.cell? ⟨w.heap.size + 1, 0, none⟩ = some (.int .u8 b) ∧ w'.cell? ⟨w.heap.size + 1, 1, none⟩ = some (.int .u64 s) ∧ w'.cell? ⟨w.heap.size + 1, 2, none⟩ = some (.int .u64 (n + m)) ∧ w'.cell? ⟨w.heap.size + 1, 3, none⟩ = some (.int .u64 p)) ∧ (w'.cell? ⟨w.heap.size + 2, 0, none⟩ = some (.int .u8 u) ∧ w'.cell? ⟨w.heap.size + 2, 1, none⟩ = some (.int .u64 s) ∧ w'.cell? ⟨w.heap.size + 2, 2, none⟩ = some (.int .u64 n) ∧ w'.cell? ⟨w.heap.size + 2, 3, none⟩ = some (.int .u64 p)) ∧ Below w.heap.size w w')
        (first | exact kp3x hb1 (by assumption) | exact kp3d (by assumption) | (refine ⟨by simp [go_sem], by simp [go_sem], by simp [go_sem], ?_⟩; repeat' (first | exact Below.refl _ _ | refine Below.drew ?_ | refine below_drewN ?_ _ | refine Below.alloc ?_ (by simp; try omega) _)))
        (first | (go_at_call 12; refine (HV.out _).mono ?_; rintro e w1 ⟨rfl, hb1⟩) | (go_at_call 13; refine (HG.out _ _ _ _ _ (by assumption) (by assumption) (by assumption) (by assumption)).mono ?_; rintro e w1 ⟨rfl, hb1⟩))
      go_wp2
      go_ret
      exact ⟨rfl, (show _ ∧ _ ∧ _ ∧ _ by assumption).2.2.2⟩
    · have e3 := levN_up b b s n p hb hb hs hn hp (by omega)
      have c2' : u ≤ b := by omega
      go_enter Try.func4, Try.ntmps4
      go_wp2
      go_region_held3 (fun w' => (w'.cell? ⟨w.heap.size, 0, none⟩ = some (.int .u8 b) ∧ w'.cell? ⟨w.heap.size, 1, none⟩ = some (.int .u64 s) ∧ w'.cell? ⟨w.heap.size, 2, none⟩ = some (.int .u64 n) ∧ w'.cell? ⟨w.heap.size, 3, none⟩ = some (.int .u64 p)) ∧ (w'.cell? ⟨w.heap.size + 1, 0, none⟩ = some (.int .u8 b) ∧ w'.cell? ⟨w.heap.size + 1, 1, none⟩ = some (.int .u64 s) ∧ w'.cell? ⟨w.heap.size + 1, 2, none⟩ = some (.int .u64 (n + m)) ∧ w'.cell? ⟨w.heap.size + 1, 3, none⟩ = some (.int .u64 p)) ∧ (w'.cell? ⟨w.heap.size + 2, 0, none⟩ = some (.int .u8 b) ∧ w'.cell? ⟨w.heap.size + 2, 1, none⟩ = some (.int .u64 s) ∧ w'.cell? ⟨w.heap.size + 2, 2, none⟩ = some (.int .u64 n) ∧ w'.cell? ⟨w.heap.size + 2, 3, none⟩ = some (.int .u64 p)) ∧ Below w.heap.size w w')
        (first | exact kp3x hb1 (by assumption) | exact kp3d (by assumption) | (refine ⟨by simp [go_sem], by simp [go_sem], by simp [go_sem], ?_⟩; repeat' (first | exact Below.refl _ _ | refine Below.drew ?_ | refine below_drewN ?_ _ | refine Below.alloc ?_ (by simp; try omega) _)))
        (first | (go_at_call 12; refine (HV.out _).mono ?_; rintro e w1 ⟨rfl, hb1⟩) | (go_at_call 13; refine (HG.out _ _ _ _ _ (by assumption) (by assumption) (by assumption) (by assumption)).mono ?_; rintro e w1 ⟨rfl, hb1⟩))
      go_wp2
      go_ret
      exact ⟨rfl, (show _ ∧ _ ∧ _ ∧ _ by assumption).2.2.2⟩
end Go.Proofs.Ytfbgnijjdkfbdaa
