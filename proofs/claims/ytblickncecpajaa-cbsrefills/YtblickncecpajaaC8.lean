/- live; what nil servers answer. -/
import Derived.Test.YtblickncecpajaaC7
namespace Go.Proofs.Ytblickncecpajaa
open Go.RowKit Go.Lib
theorem below_a {w w' : World} {c : Array Value} {t : TypeId} (h : w' = w.alloc (.cells c t)) : Below w.heap.size w w' := by rw [h]; exact (Below.refl _ _).alloc (Nat.le_refl _) _
theorem admit_nil (w : World) (b p : Int) : Calls Try.prog 14 #[.pointer none, .int .u64 b, .int .u64 p] w fun e w' => e = .returned (.tuple #[.int .i64 0, .int .i64 1]) ∧ w' = w := by
  go_enter Try.func14, Try.ntmps14
  go_wp2
  go_ret2
  exact ⟨rfl, rfl⟩
theorem wake_nil (w : World) (i n : Int) : Calls Try.prog 15 #[.pointer none, .int .i64 i, .int .u64 n] w fun e w' => e = .returned (.int .i64 1) ∧ w' = w := by
  go_enter Try.func15, Try.ntmps15
  go_wp2
  go_ret
  exact ⟨rfl, rfl⟩
theorem charge_nil (w : World) (i : Int) : Calls Try.prog 17 #[.pointer none, .int .i64 i] w fun e w' => e = .returned (.tuple #[.bool false, .int .i64 1]) ∧ w' = w := by
  go_enter Try.func17, Try.ntmps17
  go_wp2
  go_ret2
  exact ⟨rfl, rfl⟩
theorem sum_nil (w : World)  : Calls Try.prog 33 #[.pointer none] w fun e w' => e = .returned (.int .u64 0) ∧ w' = w := by
  go_enter Try.func33, Try.ntmps33
  go_wp2
  go_ret
  exact ⟨rfl, rfl⟩
theorem len_nil (w : World)  : Calls Try.prog 20 #[.pointer none] w fun e w' => e = .returned (.int .i64 0) ∧ w' = w := by
  go_enter Try.func20, Try.ntmps20
  go_wp2
  go_ret
  exact ⟨rfl, rfl⟩
theorem fork_nil (w : World)  : Calls Try.prog 22 #[.pointer none] w fun e w' => e = .returned (.pointer none) ∧ w' = w := by
  go_enter Try.func22, Try.ntmps22
  go_wp2
  go_ret
  exact ⟨rfl, rfl⟩
theorem at_nil (w : World) (i : Int) : Calls Try.prog 41 #[.pointer none, .int .i64 i] w fun e w' => e = .returned (.agg #[.int .u64 0, .int .u64 0, .int .u64 0, .int .u64 0]) ∧ ∃ c, w' = w.alloc (.cells c 69) := by
  go_enter Try.func41, Try.ntmps41
  go_wp2
  simp [bodyPost, results, Try.results41, go_sem]
  exact ⟨_, rfl⟩
theorem left_nil (w : World) (i : Int) : Calls Try.prog 18 #[.pointer none, .int .i64 i] w fun e w' => e = .returned (.int .u64 0) ∧ ∃ c, w' = w.alloc (.cells c 69) := by
  have HA := veil (fun w => at_nil w i)
  go_enter Try.func18, Try.ntmps18
  go_wp2_with (go_at_call 41; refine (HA.out _).mono ?_; rintro e w1 ⟨rfl, c, rfl⟩)
  go_ret
  exact ⟨rfl, _, rfl⟩
theorem deadline_nil (w : World) (i : Int) : Calls Try.prog 19 #[.pointer none, .int .i64 i] w fun e w' => e = .returned (.int .u64 0) ∧ ∃ c, w' = w.alloc (.cells c 69) := by
  have HA := veil (fun w => at_nil w i)
  go_enter Try.func19, Try.ntmps19
  go_wp2_with (go_at_call 41; refine (HA.out _).mono ?_; rintro e w1 ⟨rfl, c, rfl⟩)
  go_ret
  exact ⟨rfl, _, rfl⟩
theorem active_nil (w : World) (i : Int) : Calls Try.prog 21 #[.pointer none, .int .i64 i] w fun e w' => e = .returned (.bool false) ∧ ∃ c, w' = w.alloc (.cells c 69) := by
  have HA := veil (fun w => at_nil w i)
  go_enter Try.func21, Try.ntmps21
  go_wp2_with (go_at_call 41; refine (HA.out _).mono ?_; rintro e w1 ⟨rfl, c, rfl⟩)
  go_ret
  exact ⟨rfl, _, rfl⟩
theorem refill_nil (w : World) (n : Int) : Calls Try.prog 16 #[.pointer none, .int .u64 n] w fun e w' => e = .returned (.slice none 0 0) ∧ Below w.heap.size w w' := by
  go_enter Try.func16, Try.ntmps16
  go_wp2
  trace_state
  go_ret
  exact ⟨rfl, (Below.refl _ _).alloc (Nat.le_refl _) _ |>.alloc (by simp) _⟩
theorem new_not (w : World) (n : Int) (h : n < 1 ∨ 64 < n) : Calls Try.prog 13 #[.int .i64 n] w fun e w' => e = .returned (.pointer none) ∧ w' = w := by
  by_cases h1 : n < 1
  · go_enter Try.func13, Try.ntmps13
    go_wp2
    go_ret
    exact ⟨rfl, rfl⟩
  · have h2 : 64 < n := by omega
    go_enter Try.func13, Try.ntmps13
    go_wp2
    go_ret
    exact ⟨rfl, rfl⟩
set_option maxHeartbeats 1000000 in
theorem live_ok (w : World) : Calls Try.prog 11 #[] w fun e w' => e = .returned (.bool true) ∧ Below w.heap.size w w' := by
  have HN := veil (fun w => new_ok w 1 (by omega) (by omega))
  have HA : Hid (∀ (W : World) (v : Value) (L : List Srv) (b p : Nat), Pep W w.heap.size w.heap.size 1 v L → Calls Try.prog 14 #[.pointer (some ⟨w.heap.size, 0, none⟩), .int .u64 (b : Int), .int .u64 (p : Int)] W fun e w' => e = .returned (.tuple #[.int .i64 (admN 1 L b p : Int), .int .i64 (admC 1 L b p : Int)]) ∧ (∃ v', Pep w' w.heap.size w.heap.size 1 v' (admL 1 L b p)) ∧ Below w.heap.size W w') := fun W v L b p h => (admit_all h b p).mono fun e w' ⟨a, b, c⟩ => ⟨a, b, h.low (Nat.le_refl _) c⟩
  have HW : Hid (∀ (W : World) (v : Value) (L : List Srv), Pep W w.heap.size w.heap.size 1 v L → Calls Try.prog 15 #[.pointer (some ⟨w.heap.size, 0, none⟩), .int .i64 0, .int .u64 7] W fun e w' => e = .returned (.int .i64 (wakC L 0 : Int)) ∧ (∃ v', Pep w' w.heap.size w.heap.size 1 v' (wakL L 0 7)) ∧ Below w.heap.size W w') := fun W v L h => (wake_all h 0 7 (by omega)).mono fun e w' ⟨a, b, c⟩ => ⟨a, b, h.low (Nat.le_refl _) c⟩
  have e1 : admN 1 [] 1 2 = 0 ∧ admC 1 [] 1 2 = 0 ∧ admL 1 [] 1 2 = [⟨1, 2, 0, 0⟩] := ⟨rfl, rfl, rfl⟩
  have e2 : admN 1 [⟨1, 2, 0, 0⟩] 1 2 = 1 ∧ admC 1 [⟨1, 2, 0, 0⟩] 1 2 = 0 ∧ admL 1 [⟨1, 2, 0, 0⟩] 1 2 = [⟨1, 2, 0, 0⟩, ⟨1, 2, 0, 0⟩] := ⟨rfl, rfl, rfl⟩
  have e3 : admN 1 [⟨1, 2, 0, 0⟩, ⟨1, 2, 0, 0⟩] 1 20 = 0 ∧ admC 1 [⟨1, 2, 0, 0⟩, ⟨1, 2, 0, 0⟩] 1 20 = 10 ∧ admL 1 [⟨1, 2, 0, 0⟩, ⟨1, 2, 0, 0⟩] 1 20 = [⟨1, 2, 0, 0⟩, ⟨1, 2, 0, 0⟩] := ⟨rfl, rfl, rfl⟩
  have e4 : wakC [⟨1, 2, 0, 0⟩, ⟨1, 2, 0, 0⟩] 0 = 0 ∧ wakL [⟨1, 2, 0, 0⟩, ⟨1, 2, 0, 0⟩] 0 7 = [⟨1, 2, 1, 9⟩, ⟨1, 2, 0, 0⟩] := ⟨rfl, rfl⟩
  have H1 : Hid (∀ W v, Pep W w.heap.size w.heap.size 1 v [] → Calls Try.prog 14 #[.pointer (some ⟨w.heap.size, 0, none⟩), .int .u64 1, .int .u64 2] W fun e w' => e = .returned (.tuple #[.int .i64 0, .int .i64 0]) ∧ (∃ v', Pep w' w.heap.size w.heap.size 1 v' [⟨1, 2, 0, 0⟩]) ∧ Below w.heap.size W w') := fun W v h => by
    have := HA.out W v [] 1 2 h
    rwa [e1.1, e1.2.1, e1.2.2] at this
  have H2 : Hid (∀ W v, Pep W w.heap.size w.heap.size 1 v [⟨1, 2, 0, 0⟩] → Calls Try.prog 14 #[.pointer (some ⟨w.heap.size, 0, none⟩), .int .u64 1, .int .u64 2] W fun e w' => e = .returned (.tuple #[.int .i64 1, .int .i64 0]) ∧ (∃ v', Pep w' w.heap.size w.heap.size 1 v' [⟨1, 2, 0, 0⟩, ⟨1, 2, 0, 0⟩]) ∧ Below w.heap.size W w') := fun W v h => by
    have := HA.out W v _ 1 2 h
    rwa [e2.1, e2.2.1, e2.2.2] at this
  have H3 : Hid (∀ W v, Pep W w.heap.size w.heap.size 1 v [⟨1, 2, 0, 0⟩, ⟨1, 2, 0, 0⟩] → Calls Try.prog 14 #[.pointer (some ⟨w.heap.size, 0, none⟩), .int .u64 1, .int .u64 20] W fun e w' => e = .returned (.tuple #[.int .i64 0, .int .i64 10]) ∧ (∃ v', Pep w' w.heap.size w.heap.size 1 v' [⟨1, 2, 0, 0⟩, ⟨1, 2, 0, 0⟩]) ∧ Below w.heap.size W w') := fun W v h => by
    have := HA.out W v _ 1 20 h
    rwa [e3.1, e3.2.1, e3.2.2] at this
  have H4 : Hid (∀ W v, Pep W w.heap.size w.heap.size 1 v [⟨1, 2, 0, 0⟩, ⟨1, 2, 0, 0⟩] → Calls Try.prog 15 #[.pointer (some ⟨w.heap.size, 0, none⟩), .int .i64 0, .int .u64 7] W fun e w' => e = .returned (.int .i64 0) ∧ (∃ v', Pep w' w.heap.size w.heap.size 1 v' [⟨1, 2, 1, 9⟩, ⟨1, 2, 0, 0⟩]) ∧ Below w.heap.size W w') := fun W v h => by
    have := HW.out W v _ h
    rwa [e4.1, e4.2] at this
  have H5 : Hid (∀ W v, Pep W w.heap.size w.heap.size 1 v [⟨1, 2, 1, 9⟩, ⟨1, 2, 0, 0⟩] → Calls Try.prog 19 #[.pointer (some ⟨w.heap.size, 0, none⟩), .int .i64 0] W fun e w' => e = .returned (.int .u64 9) ∧ ∃ c, w' = W.alloc (.cells c 69)) := fun W v h => deadline_ok h 0
  have H6 : Hid (∀ W v, Pep W w.heap.size w.heap.size 1 v [⟨1, 2, 1, 9⟩, ⟨1, 2, 0, 0⟩] → Calls Try.prog 18 #[.pointer (some ⟨w.heap.size, 0, none⟩), .int .i64 0] W fun e w' => e = .returned (.int .u64 1) ∧ ∃ c, w' = W.alloc (.cells c 69)) := fun W v h => left_ok h 0
  have HP0 := veil (Pep.new w 1 (by omega) (by omega) w.heap.size (Nat.le_refl _))
  have HB0 := veil (show Below w.heap.size w (w.alloc (.cells #[.int .u64 ((1 : Nat) : Int), .slice none 0 0] 65)) from (Below.refl _ _).alloc (Nat.le_refl _) _)
  clear e1 e2 e3 e4 HA HW
  go_enter Try.func11, Try.ntmps11
  go_wp2_with (first
    | (go_at_call 13; refine (HN.out _).mono ?_; rintro e w1 ⟨rfl, rfl⟩)
    | (go_at_call 14; refine (H1.out _ _ HP0.out).mono ?_; rintro e w1 ⟨rfl, ⟨v1, hp⟩, hb⟩; have HP1 := veil hp; have HB1 := veil (HB0.out.trans hb); clear hp hb HP0 HB0 H1)
    | (go_at_call 14; refine (H2.out _ _ HP1.out).mono ?_; rintro e w2 ⟨rfl, ⟨v2, hp⟩, hb⟩; have HP2 := veil hp; have HB2 := veil (HB1.out.trans hb); clear hp hb HP1 HB1 H2)
    | (go_at_call 14; refine (H3.out _ _ HP2.out).mono ?_; rintro e w3 ⟨rfl, ⟨v3, hp⟩, hb⟩; have HP3 := veil hp; have HB3 := veil (HB2.out.trans hb); clear hp hb HP2 HB2 H3)
    | (go_at_call 15; refine (H4.out _ _ HP3.out).mono ?_; rintro e w4 ⟨rfl, ⟨v4, hp⟩, hb⟩; have HP4 := veil hp; have HB4 := veil (HB3.out.trans hb); clear hp hb HP3 HB3 H4)
    | (go_at_call 19; refine (H5.out _ _ HP4.out).mono ?_; rintro e w5 ⟨rfl, c5, hw⟩; have hb := below_a hw; clear hw; have HP5 := veil (HP4.out.below hb); have HB5 := veil (HB4.out.trans (hb.mono HB4.out.size)); clear hb HP4 HB4 H5)
    | (go_at_call 18; refine (H6.out _ _ HP5.out).mono ?_; rintro e w6 ⟨rfl, c6, hw⟩; have hb := below_a hw; clear hw; have HB6 := veil (HB5.out.trans (hb.mono HB5.out.size)); clear hb HB5 H6))
  go_ret
  exact ⟨rfl, HB6.out⟩
end Go.Proofs.Ytblickncecpajaa
