/-
  The mask of an empty queue; lists that lose their best one.
-/
import Derived.Test.YthehnicmjiidiaaE3
namespace Go.Proofs.Ythehnicmjiidiaa
open Go.RowKit Go.Lib

theorem nobits (x : Nat) (h : x < 18446744073709551616) (hb : ∀ k, k < 64 → x.testBit k = false) : x = 0 := by
  apply Nat.eq_of_testBit_eq
  intro k
  rw [Nat.zero_testBit]
  by_cases hk : k < 64
  · exact hb k hk
  · exact Nat.testBit_lt_two_pow (Nat.lt_of_lt_of_le (show x < 2 ^ 64 from h) (Nat.pow_le_pow_right (by decide) (by omega)))
theorem mask_empty (w : World) (b g n : Nat) (h : IsQ w b g n []) :
    Calls Try.prog 15 #[.pointer (some ⟨b, 0, none⟩)] w fun e w' => e = .returned (.agg #[.int .u64 0, .int .u64 0, .int .u64 0, .int .u64 0]) ∧ ∃ d : Array Value, w' = w.alloc (.cells d 37) := by
  obtain ⟨hn, F, L, m, c, A, B, V, T, hr, hv⟩ := h
  have hz : ∀ i, i < 4 → m i = 0 := fun i hi => nobits _ (hv.mlt i hi) (fun k hk => by
    have := hv.bit (i * 64 + k) (by omega)
    rw [show (i * 64 + k) / 64 = i by omega, show (i * 64 + k) % 64 = k by omega] at this
    rw [this]; rfl)
  have := mask_rep hr
  simp only [hz 0 (by omega), hz 1 (by omega), hz 2 (by omega), hz 3 (by omega)] at this
  exact this

/-- What a Pop of a queue that has somebody takes, in one word. -/
theorem pop_best (n : Nat) (R : List (Nat × Nat)) (hR : R ≠ []) (hids : (R.map (·.1)).Nodup) (hrng : ∀ it ∈ R, it.1 < n ∧ it.2 < 256) :
    ∃ (lv id : Nat) (R1 R2 : List (Nat × Nat)), R = R1 ++ (id, lv) :: R2 ∧ (∀ it ∈ R1, it.2 < lv ∧ it.1 ≠ id) ∧ (∀ it ∈ R2, it.2 ≤ lv ∧ it.1 ≠ id) ∧ lv < 256 ∧ id < n ∧ DoesQ 14 [] n R (.tuple #[.int .u8 lv, .int .i64 id, .bool true]) (R1 ++ R2) := by
  obtain ⟨lv, id, rest, hbest, hql⟩ := best_exists R hR (fun it hit => (hrng it hit).2)
  obtain ⟨R1, R2, rfl, hlo, hhi⟩ := best_split (fun it hit => (hrng it hit).2) hbest hql
  have hh := hids
  rw [List.map_append, List.nodup_append] at hh
  simp only [List.map_cons, List.nodup_cons] at hh
  refine ⟨lv, id, R1, R2, rfl, fun it hit => ⟨hlo it hit, fun e => ?_⟩, fun it hit => ⟨hhi it hit, fun e => ?_⟩, hbest.1, (hrng (id, lv) (by simp)).1, fun w b g h => (pop_some w b g n _ id lv rest h hbest hql).mono ?_⟩
  · exact hh.2.2 it.1 (List.mem_map_of_mem (f := (·.1)) hit) id (by simp) e
  · exact hh.2.1.1 (by rw [← e]; exact List.mem_map_of_mem (f := (·.1)) hit)
  · rintro e w' ⟨he, ⟨S1, S2, e1, hq⟩, ho⟩
    obtain ⟨rfl, _, rfl⟩ := split_uniq R1 S1 id lv lv R2 S2 hids e1
    exact ⟨he, hq, Fr.of_only ho⟩
end Go.Proofs.Ythehnicmjiidiaa
