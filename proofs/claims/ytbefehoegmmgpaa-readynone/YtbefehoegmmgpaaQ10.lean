/-
  Small facts on lists and worlds that the statements on queues lean on.
-/
import Derived.Test.YtbefehoegmmgpaaQ9
namespace Go.Proofs.Ytbefehoegmmgpaa.Bq
open Go.RowKit Go.Lib

theorem best_exists (R : List (Nat × Nat)) (h : R ≠ []) (hr : ∀ it ∈ R, it.2 < 256) : ∃ lv id rest, Best R lv ∧ QL R lv = (id + 1) :: rest := by
  have key : ∀ k, k ≤ 256 → (∀ j, j < 256 → k ≤ j → QL R j = []) → ∃ lv, Best R lv := by
    intro k
    induction k with
    | zero =>
      intro _ hall
      cases R with
      | nil => exact absurd rfl h
      | cons it R =>
        have h1 := hall it.2 (hr it (by simp)) (Nat.zero_le _)
        have : it.1 + 1 ∈ QL (it :: R) it.2 := mem_QL.2 ⟨it, by simp, rfl, rfl⟩
        rw [h1] at this
        cases this
    | succ k ih =>
      intro hk hall
      by_cases e : QL R k = []
      · exact ih (by omega) (fun j hj hkj => by
          by_cases q : j = k
          · subst q; exact e
          · exact hall j hj (by omega))
      · exact ⟨k, by omega, e, fun j hj hkj => hall j hj (by omega)⟩
  obtain ⟨lv, hb⟩ := key 256 (Nat.le_refl _) (fun j hj hkj => by omega)
  cases hq : QL R lv with
  | nil => exact absurd hq hb.2.1
  | cons s rest =>
    have : 1 ≤ s := QL_pos (show s ∈ QL R lv by rw [hq]; simp)
    exact ⟨lv, s - 1, rest, hb, by rw [hq]; congr 1; omega⟩

theorem IsQ.rng {w : World} {b g n : Nat} {R : List (Nat × Nat)} (h : IsQ w b g n R) : ∀ it ∈ R, it.1 < n ∧ it.2 < 256 := by
  obtain ⟨hn, F, L, m, c, A, B, V, T, hr, hv⟩ := h
  exact hv.rng

/-- Mask and Highest, one behind the other, of a queue that has one. -/
theorem mask_best (w : World) (b g n : Nat) (R : List (Nat × Nat)) (lv : Nat) (h : IsQ w b g n R) (hb : Best R lv) :
    ∃ m0 m1 m2 m3 : Int, (Calls Try.prog 76 #[.pointer (some ⟨b, 0, none⟩)] w fun e w' => e = .returned (.agg #[.int .u64 m0, .int .u64 m1, .int .u64 m2, .int .u64 m3]) ∧ ∃ d : Array Value, w' = w.alloc (.cells d 85)) ∧
      ∀ w, Calls Try.prog 75 #[.agg #[.int .u64 m0, .int .u64 m1, .int .u64 m2, .int .u64 m3]] w fun e w' => e = .returned (.int .i64 lv) ∧ ∃ d : Array Value, w' = w.alloc (.cells d 85) := by
  obtain ⟨hn, F, L, m, c, A, B, V, T, hr, hv⟩ := h
  have hhi := hi_best hv hb
  refine ⟨m 0, m 1, m 2, m 3, mask_rep hr, fun w => ?_⟩
  have := highest_any (m 0) (m 1) (m 2) (m 3) w (w64_nat _ (hv.mlt 0 (by omega))) (w64_nat _ (hv.mlt 1 (by omega))) (w64_nat _ (hv.mlt 2 (by omega))) (w64_nat _ (hv.mlt 3 (by omega)))
  rw [hhi] at this
  exact this
/-- The same of one that has nobody. -/
theorem mask_none (w : World) (b g n : Nat) (h : IsQ w b g n []) :
    ∃ m0 m1 m2 m3 : Int, (Calls Try.prog 76 #[.pointer (some ⟨b, 0, none⟩)] w fun e w' => e = .returned (.agg #[.int .u64 m0, .int .u64 m1, .int .u64 m2, .int .u64 m3]) ∧ ∃ d : Array Value, w' = w.alloc (.cells d 85)) ∧
      ∀ w, Calls Try.prog 75 #[.agg #[.int .u64 m0, .int .u64 m1, .int .u64 m2, .int .u64 m3]] w fun e w' => e = .returned (.int .i64 (-1)) ∧ ∃ d : Array Value, w' = w.alloc (.cells d 85) := by
  obtain ⟨hn, F, L, m, c, A, B, V, T, hr, hv⟩ := h
  have hhi := hi_nobody hv
  refine ⟨m 0, m 1, m 2, m 3, mask_rep hr, fun w => ?_⟩
  have := highest_any (m 0) (m 1) (m 2) (m 3) w (w64_nat _ (hv.mlt 0 (by omega))) (w64_nat _ (hv.mlt 1 (by omega))) (w64_nat _ (hv.mlt 2 (by omega))) (w64_nat _ (hv.mlt 3 (by omega)))
  rw [hhi] at this
  exact this
theorem len_is (w : World) (b g n : Nat) (R : List (Nat × Nat)) (h : IsQ w b g n R) :
    Calls Try.prog 38 #[.pointer (some ⟨b, 0, none⟩)] w fun e w' => e = .returned (.int .i64 (R.length : Int)) ∧ w' = w := by
  obtain ⟨hn, F, L, m, c, A, B, V, T, hr, hv⟩ := h
  rw [← hv.cnt]
  exact len_rep hr

def RL (zs : Nat → Nat) (k : Nat) : List (Nat × Nat) := (List.range k).map (fun i => (i, zs i))
theorem RL_succ (zs : Nat → Nat) (k : Nat) : RL zs (k + 1) = RL zs k ++ [(k, zs k)] := by unfold RL; rw [List.range_succ, List.map_append]; rfl
theorem RL_len (zs : Nat → Nat) (k : Nat) : (RL zs k).length = k := by unfold RL; simp
theorem RL_mem (zs : Nat → Nat) (k : Nat) : ∀ it ∈ RL zs k, it.1 < k ∧ it.2 = zs it.1 := by
  intro it h
  unfold RL at h
  obtain ⟨i, a, rfl⟩ := List.mem_map.1 h
  exact ⟨List.mem_range.1 a, rfl⟩
end Go.Proofs.Ytbefehoegmmgpaa.Bq
