/-
  age: AgeNever's walk.
-/
import Derived.Test.YtfbgnijjdkfbdaaA6
namespace Go.Proofs.Ytfbgnijjdkfbdaa
open Go.RowKit
set_option linter.unusedVariables false

set_option maxHeartbeats 2000000 in
theorem never_walk (b s n p : Int) (w : World) (h : Lv b ∧ Tm s ∧ Tm n ∧ Tm p) :
    Calls Try.prog 6 #[.agg #[.int .u8 b, .int .u64 s, .int .u64 n, .int .u64 p]] w fun e w' => e = .returned (.bool true) ∧ Below w.heap.size w w' := by
  obtain ⟨hb, hs, hn, hp⟩ := h
  have z : Tm 0 := ⟨by omega, by omega⟩
  have t255 : Lv 255 := ⟨by omega, by omega⟩
  have HN := veil (fun w => next_no b s n 0 w hb hs hn z (.inl rfl))
  have HV := veil (fun w => live_b w)
  have HG := veil lev_b
  have HL := veil level_b
  have e0 := levN_zero b s n
  have e1 := levN_top s n p hs hn hp
  by_cases hns : n ≤ s
  · have e2 := levN_ahead b s n p hb hns
    go_enter Try.func6, Try.ntmps6
    go_wp2_with (go_at_call 10; refine (HN.out _).mono ?_; rintro e w1 ⟨rfl, rfl⟩)
    go_region_held3 (fun w' => (w'.cell? ⟨w.heap.size, 0, none⟩ = some (.int .u8 b) ∧ w'.cell? ⟨w.heap.size, 1, none⟩ = some (.int .u64 s) ∧ w'.cell? ⟨w.heap.size, 2, none⟩ = some (.int .u64 n) ∧ w'.cell? ⟨w.heap.size, 3, none⟩ = some (.int .u64 p)) ∧ (w'.cell? ⟨w.heap.size + 1, 0, none⟩ = some (.int .u8 b) ∧ w'.cell? ⟨w.heap.size + 1, 1, none⟩ = some (.int .u64 s) ∧ w'.cell? ⟨w.heap.size + 1, 2, none⟩ = some (.int .u64 n) ∧ w'.cell? ⟨w.heap.size + 1, 3, none⟩ = some (.int .u64 0)) ∧ Below w.heap.size w w')
      (first | exact kp2x hb1 (by assumption) | exact kp2d (by assumption) | (refine ⟨by simp [go_sem], by simp [go_sem], ?_⟩; repeat' (first | exact Below.refl _ _ | refine Below.drew ?_ | refine below_drewN ?_ _ | refine Below.alloc ?_ (by simp; try omega) _)))
      (first | (go_at_call 13; refine (HG.out _ _ _ _ _ (by assumption) (by assumption) (by assumption) (by assumption)).mono ?_; rintro e w1 ⟨rfl, hb1⟩))
    have HSS := veil (p := (w1.cell? ⟨w.heap.size, 0, none⟩ = some (.int .u8 b) ∧ w1.cell? ⟨w.heap.size, 1, none⟩ = some (.int .u64 s) ∧ w1.cell? ⟨w.heap.size, 2, none⟩ = some (.int .u64 n) ∧ w1.cell? ⟨w.heap.size, 3, none⟩ = some (.int .u64 p)) ∧ (w1.cell? ⟨w.heap.size + 1, 0, none⟩ = some (.int .u8 b) ∧ w1.cell? ⟨w.heap.size + 1, 1, none⟩ = some (.int .u64 s) ∧ w1.cell? ⟨w.heap.size + 1, 2, none⟩ = some (.int .u64 n) ∧ w1.cell? ⟨w.heap.size + 1, 3, none⟩ = some (.int .u64 0)) ∧ Below w.heap.size w w1) (by assumption)
    go_wp2
    go_region_held3 (fun w' => (w'.cell? ⟨w.heap.size, 0, none⟩ = some (.int .u8 b) ∧ w'.cell? ⟨w.heap.size, 1, none⟩ = some (.int .u64 s) ∧ w'.cell? ⟨w.heap.size, 2, none⟩ = some (.int .u64 n) ∧ w'.cell? ⟨w.heap.size, 3, none⟩ = some (.int .u64 p)) ∧ (w'.cell? ⟨w.heap.size + 1, 0, none⟩ = some (.int .u8 b) ∧ w'.cell? ⟨w.heap.size + 1, 1, none⟩ = some (.int .u64 s) ∧ w'.cell? ⟨w.heap.size + 1, 2, none⟩ = some (.int .u64 n) ∧ w'.cell? ⟨w.heap.size + 1, 3, none⟩ = some (.int .u64 0)) ∧ Below w.heap.size w w')
      (first | exact kp2x hb1 (by assumption) | exact kp2d HSS.out | (refine ⟨by simp [go_sem], by simp [go_sem], ?_⟩; repeat' (first | exact Below.refl _ _ | refine Below.drew ?_ | refine below_drewN ?_ _ | refine Below.alloc ?_ (by simp; try omega) _)))
      (first | (go_at_call 12; refine (HV.out _).mono ?_; rintro e w1 ⟨rfl, hb1⟩) | (go_at_call 13; refine (HG.out _ _ _ _ _ (by assumption) (by assumption) (by assumption) (by assumption)).mono ?_; rintro e w1 ⟨rfl, hb1⟩) | (go_at_call 15; refine (HL.out _ _ _ _ _ (by assumption) (by assumption) (by assumption) (by assumption)).mono ?_; rintro e w1 ⟨rfl, hb1⟩))
    go_wp2
    go_ret
    exact ⟨rfl, (show _ ∧ _ ∧ _ by assumption).2.2⟩
  · have hnb : decide (n ≤ s) = false := by simp [hns]
    go_enter Try.func6, Try.ntmps6
    go_wp2_with (go_at_call 10; refine (HN.out _).mono ?_; rintro e w1 ⟨rfl, rfl⟩)
    go_quiet (fail)
    go_wp2
    go_region_held3 (fun w' => (w'.cell? ⟨w.heap.size, 0, none⟩ = some (.int .u8 b) ∧ w'.cell? ⟨w.heap.size, 1, none⟩ = some (.int .u64 s) ∧ w'.cell? ⟨w.heap.size, 2, none⟩ = some (.int .u64 n) ∧ w'.cell? ⟨w.heap.size, 3, none⟩ = some (.int .u64 p)) ∧ (w'.cell? ⟨w.heap.size + 1, 0, none⟩ = some (.int .u8 b) ∧ w'.cell? ⟨w.heap.size + 1, 1, none⟩ = some (.int .u64 s) ∧ w'.cell? ⟨w.heap.size + 1, 2, none⟩ = some (.int .u64 n) ∧ w'.cell? ⟨w.heap.size + 1, 3, none⟩ = some (.int .u64 0)) ∧ Below w.heap.size w w')
      (first | exact kp2x hb1 (by assumption) | exact kp2d (by assumption) | (refine ⟨by simp [go_sem], by simp [go_sem], ?_⟩; repeat' (first | exact Below.refl _ _ | refine Below.drew ?_ | refine below_drewN ?_ _ | refine Below.alloc ?_ (by simp; try omega) _)))
      (first | (go_at_call 12; refine (HV.out _).mono ?_; rintro e w1 ⟨rfl, hb1⟩) | (go_at_call 13; refine (HG.out _ _ _ _ _ (by assumption) (by assumption) (by assumption) (by assumption)).mono ?_; rintro e w1 ⟨rfl, hb1⟩) | (go_at_call 15; refine (HL.out _ _ _ _ _ (by assumption) (by assumption) (by assumption) (by assumption)).mono ?_; rintro e w1 ⟨rfl, hb1⟩))
    go_wp2
    go_ret
    exact ⟨rfl, (show _ ∧ _ ∧ _ by assumption).2.2⟩
end Go.Proofs.Ytfbgnijjdkfbdaa
