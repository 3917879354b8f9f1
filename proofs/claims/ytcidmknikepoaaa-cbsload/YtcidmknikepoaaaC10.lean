/- TopAdmits and CbsNone, walked. -/
import Derived.Test.YtcidmknikepoaaaC9
namespace Go.Proofs.Ytcidmknikepoaaa
open Go.RowKit Go.Lib
def full (i : Nat) : List Srv := List.replicate i ⟨20, 20, 0, 0⟩
theorem full_sum (i : Nat) : sumOf (full i) = i * 232792560 := by
  unfold full sumOf
  rw [List.map_replicate]
  have ha : asks ⟨20, 20, 0, 0⟩ = 232792560 := rfl
  rw [ha]
  induction i with
  | zero => rfl
  | succ i ih => rw [List.replicate_succ, List.sum_cons, ih]; omega
theorem full_yes (P i : Nat) (hP : P ≤ 8) (hi : i < P) : admN P (full i) 20 20 = i ∧ admC P (full i) 20 20 = 0 ∧ admL P (full i) 20 20 = full (i + 1) := by
  have hr : rightB 20 20 = true := rfl
  have ha : asks ⟨20, 20, 0, 0⟩ = 232792560 := rfl
  have hc : admC P (full i) 20 20 = 0 := by
    unfold admC
    rw [hr, ha, full_sum, if_neg (by simp), if_neg (by unfold full; simp; omega), if_neg (by omega)]
  refine ⟨by unfold admN; rw [hc, if_pos rfl]; unfold full; simp, hc, ?_⟩
  unfold admL
  rw [hc, if_pos rfl]
  unfold full
  rw [List.replicate_succ']
theorem full_no (P : Nat) (h1 : 1 ≤ P) (hP : P ≤ 8) : admN P (full P) 1 232792560 = 0 ∧ admC P (full P) 1 232792560 = 10 ∧ admL P (full P) 1 232792560 = full P := by
  have hr : rightB 1 232792560 = true := by unfold rightB; simp
  have ha : asks ⟨1, 232792560, 0, 0⟩ = 1 := rfl
  have hc : admC P (full P) 1 232792560 = 10 := by
    unfold admC
    rw [hr, ha, full_sum, if_neg (by simp), if_neg (by unfold full; simp; omega), if_pos (by omega)]
  exact ⟨by unfold admN; rw [hc]; rfl, hc, by unfold admL; rw [hc]; rfl⟩
theorem rem8 (n : Nat) : Int.tmod (n : Int) 8 = ((n % 8 : Nat) : Int) := by
  rw [Int.tmod_eq_emod_of_nonneg (by omega)]
  omega
set_option maxHeartbeats 1000000 in
set_option maxRecDepth 100000 in
theorem admits_walk (w : World) (n : Nat) (hn : n < 256) : Calls Try.prog 11 #[.int .u8 (n : Int)] w fun e w' => e = .returned (.bool true) ∧ Below w.heap.size w w' := by
  have hr := rem8 n
  have hN : n % 8 < 8 := Nat.mod_lt _ (by decide)
  generalize n % 8 = N at hr hN
  obtain ⟨P, hP⟩ : ∃ P, P = N + 1 := ⟨_, rfl⟩
  have h1 : 1 ≤ P := by omega
  have h2 : P ≤ 8 := by omega
  have HN := veil (fun w => new_ok w P h1 (by omega))
  have HA : Hid (∀ (W : World) (v : Value) (i : Nat), i < P → Pep W w.heap.size w.heap.size P v (full i) → Calls Try.prog 17 #[.pointer (some ⟨w.heap.size, 0, none⟩), .int .u64 20, .int .u64 20] W fun e w' => e = .returned (.tuple #[.int .i64 (i : Int), .int .i64 0]) ∧ (∃ v', Pep w' w.heap.size w.heap.size P v' (full (i + 1))) ∧ Below w.heap.size W w') := fun W v i hi h => by
    have q := (admit_all h 20 20).mono fun e w' ⟨a, b, c⟩ => And.intro a (And.intro b (h.low (Nat.le_refl _) c))
    obtain ⟨a1, a2, a3⟩ := full_yes P i h2 hi
    rwa [a1, a2, a3] at q
  have HL : Hid (∀ (W : World) (v : Value), Pep W w.heap.size w.heap.size P v (full P) → Calls Try.prog 17 #[.pointer (some ⟨w.heap.size, 0, none⟩), .int .u64 1, .int .u64 232792560] W fun e w' => e = .returned (.tuple #[.int .i64 0, .int .i64 10]) ∧ (∃ v', Pep w' w.heap.size w.heap.size P v' (full P)) ∧ Below w.heap.size W w') := fun W v h => by
    have q := (admit_all h 1 232792560).mono fun e w' ⟨a, b, c⟩ => And.intro a (And.intro b (h.low (Nat.le_refl _) c))
    obtain ⟨a1, a2, a3⟩ := full_no P h1 h2
    rwa [a1, a2, a3] at q
  have HS : Hid (∀ (W : World) (v : Value), Pep W w.heap.size w.heap.size P v (full P) → Calls Try.prog 18 #[.pointer (some ⟨w.heap.size, 0, none⟩)] W fun e w' => e = .returned (.int .u64 ((P * 232792560 : Nat) : Int)) ∧ Below W.heap.size W w') := fun W v h => by
    have q := sum_ok h
    rwa [full_sum] at q
  have e2 : IntKind.u64.wrap ((P : Int) * 232792560) = ((P * 232792560 : Nat) : Int) := by rw [wrapU _ (by omega) (by omega)]; simp
  have HP0 := veil (Pep.new w P h1 (by omega) w.heap.size (Nat.le_refl _))
  have HB0 := veil (show Below w.heap.size w (w.alloc (.cells #[.int .u64 (P : Int), .slice none 0 0] 70)) from (Below.refl _ _).alloc (Nat.le_refl _) _)
  subst hP
  go_enter Try.func11, Try.ntmps11
  go_wp2_with (first
    | (go_at_call 16; refine (HN.out _).mono ?_; rintro e w1 ⟨rfl, rfl⟩))
  clear HN
  go_loopw [5] (fun i wr => ∃ (j : Nat) (v : Value), j ≤ N + 1 ∧ i = .int .i64 j ∧ Pep wr w.heap.size w.heap.size (N + 1) v (full j) ∧ Below w.heap.size w wr) (fun i _ => N + 1 - (intOf i).toNat)
  case atStart => exact ⟨0, _, by omega, rfl, HP0.out, HB0.out⟩
  case round =>
    obtain ⟨j, v, hj, rfl, hp, hb⟩ := hrel
    have HP := veil hp
    have HB := veil hb
    clear hp hb HP0 HB0
    by_cases hjl : j < N + 1
    · have hjl' : (j : Int) < (N : Int) + 1 := by omega
      have HA1 := veil (HA.out _ _ j hjl HP.out)
      go_wp2_with (go_at_call 17; refine (HA1.out).mono ?_; rintro e w1 ⟨rfl, ⟨v1, hp⟩, hb⟩; have HP1 := veil hp; have HB1 := veil (HB.out.trans hb); clear hp hb)
      go_roundw
      case rel => exact ⟨j + 1, v1, by omega, by go_num, HP1.out, HB1.out⟩
      case measure => simp [intOf]; omega
    · have hjl' : ¬ (j : Int) < (N : Int) + 1 := by omega
      obtain rfl : j = N + 1 := by omega
      have e3 : IntKind.u64.wrap (((N : Int) + 1) * 232792560) = (((N + 1) * 232792560 : Nat) : Int) := by rw [wrapU _ (by omega) (by omega)]; simp
      go_wp2_with (first
        | (go_at_call 17; refine (HL.out _ _ HP.out).mono ?_; rintro e w1 ⟨rfl, ⟨v1, hp⟩, hb⟩; have HP1 := veil hp; have HB1 := veil (HB.out.trans hb); clear hp hb)
        | (go_at_call 18; refine (HS.out _ _ HP1.out).mono ?_; rintro e w2 ⟨rfl, hb⟩; have HB2 := veil (HB1.out.trans (hb.mono HB1.out.size)); clear hb))
      go_ret
      exact ⟨by simp, HB2.out⟩
theorem keep2c {w w1 w2 : World} {a0 a1 : Addr} {u0 u1 : Value} (h : w1.cell? a0 = some u0 ∧ w1.cell? a1 = some u1 ∧ Below w.heap.size w w1) (hb : Below w1.heap.size w1 w2) :
    w2.cell? a0 = some u0 ∧ w2.cell? a1 = some u1 ∧ Below w.heap.size w w2 := by
  obtain ⟨h0, h1, h4⟩ := h
  exact ⟨(hb.cell (World.block_lt_of_cell? w1 _ h0)).trans h0, (hb.cell (World.block_lt_of_cell? w1 _ h1)).trans h1, h4.trans (hb.mono h4.size)⟩
theorem new_any (w : World) (n : Int) : Calls Try.prog 16 #[.int .i64 n] w fun e w' => (∃ a, e = .returned (.pointer a) ∧ a.isNone = decide (n < 1 ∨ 64 < n)) ∧ Below w.heap.size w w' := by
  by_cases h : n < 1 ∨ 64 < n
  · refine (new_not w n h).mono ?_
    rintro e w' ⟨rfl, rfl⟩
    exact ⟨⟨none, rfl, by simp [h]⟩, Below.refl _ _⟩
  · obtain ⟨P, rfl⟩ : ∃ P : Nat, n = P := ⟨n.toNat, by omega⟩
    refine (new_ok w P (by omega) (by omega)).mono ?_
    rintro e w' ⟨rfl, rfl⟩
    exact ⟨⟨_, rfl, by simp [h]⟩, (Below.refl _ _).alloc (Nat.le_refl _) _⟩
set_option maxHeartbeats 4000000 in
theorem none_walk (w : World) (x : Dd) (n : Int) : Calls Try.prog 9 #[.agg #[.int .i64 x.k, .int .i64 x.i, .int .u64 (x.b : Int), .int .u64 (x.p : Int), .int .u64 (x.n : Int)], .int .i64 n] w fun e w' => e = .returned (.bool true) ∧ Below w.heap.size w w' := by
  have HA := veil admit_nil
  have HC := veil charge_nil
  have HL := veil live_ok
  have HW := veil wake_nil
  have HR := veil refill_nil
  have H1 := veil left_nil
  have H2 := veil deadline_nil
  have H3 := veil active_nil
  have H4 := veil sum_nil
  have H5 := veil len_nil
  have H6 := veil fork_nil
  have H7 := veil (fun w => new_any w n)
  have H0 : Hid (∀ w1, Below (w.heap.size + 1) (w.alloc (.cells #[.int .i64 x.k, .int .i64 x.i, .int .u64 (x.b : Int), .int .u64 (x.p : Int), .int .u64 (x.n : Int)] 44)) w1 → w1.cell? ⟨w.heap.size, 1, none⟩ = some (.int .i64 x.i) ∧ w1.cell? ⟨w.heap.size, 4, none⟩ = some (.int .u64 (x.n : Int)) ∧ Below w.heap.size w w1) := fun w1 hb =>
    ⟨(hb.cell (p := ⟨w.heap.size, 1, none⟩) (by simp)).trans (by unfold World.cell?; simp only [(MapKept.heap_alloc w _).1]; rfl), (hb.cell (p := ⟨w.heap.size, 4, none⟩) (by simp)).trans (by unfold World.cell?; simp only [(MapKept.heap_alloc w _).1]; rfl), ((Below.refl _ _).alloc (Nat.le_refl _) _).trans (hb.mono (by omega))⟩
  by_cases h1 : n < 1
  all_goals
    go_enter Try.func9, Try.ntmps9
    go_wp2_with (first
      | (go_at_call 17; refine (HA.out _ _ _).mono ?_; rintro e w1 ⟨rfl, rfl⟩)
      | (go_at_call 23; refine (HC.out _ _).mono ?_; rintro e w1 ⟨rfl, rfl⟩)
      | (go_at_call 14; refine (HL.out _).mono ?_; rintro e w1 ⟨rfl, hb⟩; have HT := veil (H0.out _ (by simpa using hb)); clear hb; obtain ⟨y1, y4, _⟩ := HT.out)
      | (go_at_call 21; refine (HW.out _ _ _).mono ?_; rintro e w1 ⟨rfl, hw⟩; replace hw := hw.symm; subst hw)
      | (go_at_call 22; refine (HR.out _ _).mono ?_; rintro e w1 ⟨rfl, hb⟩; replace HT := veil (keep2c HT.out hb); clear hb y1 y4; obtain ⟨y1, y4, _⟩ := HT.out)
      | (go_at_call 24; refine (H1.out _ _).mono ?_; rintro e w1 ⟨rfl, c, hw⟩; have hb := below_a hw; clear hw; replace HT := veil (keep2c HT.out hb); clear hb y1 y4; obtain ⟨y1, y4, _⟩ := HT.out)
      | (go_at_call 25; refine (H2.out _ _).mono ?_; rintro e w1 ⟨rfl, c, hw⟩; have hb := below_a hw; clear hw; replace HT := veil (keep2c HT.out hb); clear hb y1 y4; obtain ⟨y1, y4, _⟩ := HT.out)
      | (go_at_call 19; refine (H3.out _ _).mono ?_; rintro e w1 ⟨rfl, c, hw⟩; have hb := below_a hw; clear hw; replace HT := veil (keep2c HT.out hb); clear hb y1 y4; obtain ⟨y1, y4, _⟩ := HT.out)
      | (go_at_call 18; refine (H4.out _).mono ?_; rintro e w1 ⟨rfl, hw⟩; replace hw := hw.symm; subst hw)
      | (go_at_call 20; refine (H5.out _).mono ?_; rintro e w1 ⟨rfl, hw⟩; replace hw := hw.symm; subst hw)
      | (go_at_call 26; refine (H6.out _).mono ?_; rintro e w1 ⟨rfl, hw⟩; replace hw := hw.symm; subst hw)
      | (go_at_call 16; refine (H7.out _).mono ?_; rintro e w1 ⟨⟨an, rfl, han⟩, hb⟩; replace HT := veil (keep2c HT.out hb); clear hb y1 y4; obtain ⟨y1, y4, _⟩ := HT.out; cases an))
    all_goals go_ret
    all_goals exact ⟨by simp, HT.out.2.2⟩
end Go.Proofs.Ytcidmknikepoaaa
