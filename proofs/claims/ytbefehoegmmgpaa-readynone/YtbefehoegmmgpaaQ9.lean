/-
  The walks of Push, Top and Pop over ids and levels.
-/
import Derived.Test.YtbefehoegmmgpaaQ8
namespace Go.Proofs.Ytbefehoegmmgpaa.Bq
open Go.RowKit Go.Lib

theorem veil {p : Prop} (h : p) : Hid p := h
theorem IsQ.below {w w' : World} {b g n : Nat} {R : List (Nat × Nat)} (h : IsQ w b g n R) (hw : Below w.heap.size w w') : IsQ w' b g n R :=
  h.kept (hw.block b h.blocks.1) (hw.block g h.blocks.2.1)

set_option maxHeartbeats 1000000 in
theorem push_ok (w : World) (b g n : Nat) (R : List (Nat × Nat)) (id lv : Nat) (h : IsQ w b g n R) (hi : id < n) (hlv : lv < 256) (hid : ∀ it ∈ R, it.1 ≠ id) :
    Calls Try.prog 74 #[.pointer (some ⟨b, 0, none⟩), .int .u8 lv, .int .i64 id] w fun e w' => e = .returned (.int .i64 0) ∧ IsQ w' b g n (R ++ [(id, lv)]) ∧ Only b g w w' := by
  have HT := veil (tie_any w b g n R id lv h hi hlv hid)
  obtain ⟨hn, F, L, m, c, A, B, V, T, hr, hv⟩ := h
  have HM := veil (may_yes hr id hn hi)
  have ht : T (id + 1) = false := by
    cases hq : T (id + 1) with
    | false => rfl
    | true =>
      obtain ⟨it, a, e⟩ := (hv.there (id + 1) (by omega)).1 hq
      exact absurd (by omega) (hid it a)
  obtain ⟨cp, e0⟩ := hr.sl
  have e1 := hr.lt (id + 1) (by omega)
  rw [ht] at e1
  clear hr hv ht
  go_enter Try.func74, Try.ntmps74
  go_wp2_with (first
    | (go_at_call 68; refine (HM.out).mono ?_; rintro e w' ⟨rfl, hw⟩; subst hw)
    | (go_at_call 81; refine (HT.out).mono ?_; rintro e w' ⟨rfl, hq, ho⟩; have HQ := veil (hq); have HO := veil (ho); clear hq ho))
  go_ret
  exact ⟨rfl, HQ.out, HO.out⟩

set_option maxHeartbeats 1000000 in
theorem top_some (w : World) (b g n : Nat) (R : List (Nat × Nat)) (id lv : Nat) (rest : List Nat) (h : IsQ w b g n R) (hb : Best R lv) (hq : QL R lv = (id + 1) :: rest) :
    Calls Try.prog 67 #[.pointer (some ⟨b, 0, none⟩)] w fun e w' => e = .returned (.tuple #[.int .u8 lv, .int .i64 id, .bool true]) ∧ Below w.heap.size w w' := by
  obtain ⟨hn, F, L, m, c, A, B, V, T, hr, hv⟩ := h
  have hhi := hi_best hv hb
  have hlv := hb.1
  have HM := veil (mask_rep hr)
  have w0 := w64_nat _ (hv.mlt 0 (by omega)); have w1 := w64_nat _ (hv.mlt 1 (by omega)); have w2 := w64_nat _ (hv.mlt 2 (by omega)); have w3 := w64_nat _ (hv.mlt 3 (by omega))
  have hH : ∀ w, Calls Try.prog 75 #[.agg #[.int .u64 (m 0), .int .u64 (m 1), .int .u64 (m 2), .int .u64 (m 3)]] w fun e w' => e = .returned (.int .i64 lv) ∧ ∃ c : Array Value, w' = w.alloc (.cells c 85) := by
    intro w
    have := highest_any (m 0) (m 1) (m 2) (m 3) w w0 w1 w2 w3
    rw [hhi] at this
    exact this
  have HH := veil (hH)
  have e0 := hr.fst lv hlv
  rw [hv.hd lv hlv, hq] at e0
  have e0' : w.cell? ⟨b, lv, none⟩ = some (.int .i64 ((id : Int) + 1)) := e0
  have hidn : id + 1 ≤ n := (hv.spot_le (show id + 1 ∈ QL R lv by rw [hq]; simp)).1
  have zb := hr.lt_b
  have yb : ¬ b = w.heap.size := by omega
  have yb1 : ¬ b = w.heap.size + 1 := by omega
  clear hr hv hhi hH e0 w0 w1 w2 w3 hb hq
  go_enter Try.func67, Try.ntmps67
  go_wp2_with (first
    | (go_at_call 76; refine (HM.out).mono ?_; rintro e w' ⟨rfl, d, hw⟩; subst hw)
    | (go_at_call 75; refine (HH.out _).mono ?_; rintro e w' ⟨rfl, d2, hw⟩; subst hw))
  go_quiet (fail)
  go_wp2
  go_ret3
  exact ⟨rfl, below_drewN (((Below.refl _ _).alloc (Nat.le_refl _) _).alloc (by simp) _) _⟩

theorem head_split : ∀ (R : List (Nat × Nat)) (lv id : Nat) (rest : List Nat), QL R lv = (id + 1) :: rest → ∃ R1 R2, R = R1 ++ (id, lv) :: R2 ∧ QL R1 lv = []
  | [], _, _, _, h => by simp [QL] at h
  | (i, k) :: R, lv, id, rest, h => by
    rw [QL_cons] at h
    by_cases e : lv = k
    · subst e
      rw [if_pos rfl] at h
      simp only [List.cons.injEq] at h
      have : i = id := by omega
      subst this
      exact ⟨[], R, rfl, rfl⟩
    · rw [if_neg e] at h
      obtain ⟨R1, R2, e1, e2⟩ := head_split R lv id rest h
      exact ⟨(i, k) :: R1, R2, by rw [e1]; rfl, by rw [QL_cons, if_neg e]; exact e2⟩
theorem Only.of_below {b g : Nat} {w w' : World} (h : Below w.heap.size w w') : Only b g w w' := ⟨h.os, h.tape, h.output, h.size, fun k hk _ _ => h.block k hk⟩

end Go.Proofs.Ytbefehoegmmgpaa.Bq
