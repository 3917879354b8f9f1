/-
  'live' of the wheels; a nil wheel's calls.
-/
import Derived.Test.YthpbehpeojacmabV6
namespace Go.Proofs.Ythpbehpeojacmab
open Go.RowKit

def St1 (w : World) (b g : Nat) (fm : Value) : Prop := ∃ F L A B E T, Rep w b g 4 0 1 fm F L A B E T ∧ F 0 = 0 ∧ F 1 = 0 ∧ F 2 = 0 ∧ F 3 = 0 ∧ L 3 = 0 ∧ F 4 = 0 ∧ T 3 = false
def St2 (w : World) (b g : Nat) (fm : Value) : Prop := ∃ F L A B E T, Rep w b g 4 0 2 fm F L A B E T ∧ F 0 = 0 ∧ F 1 = 0 ∧ F 2 = 0 ∧ F 3 = 3 ∧ F 4 = 0 ∧ B 3 = 0
theorem step1 (w : World) (b g : Nat) (fm : Value) (h : Rep w b g 4 0 0 fm (fun _ => 0) (fun _ => 0) (fun _ => 0) (fun _ => 0) (fun _ => 0) (fun _ => false)) :
    Calls Try.prog 11 #[.pointer (some ⟨b, 0, none⟩), .int .i64 1, .int .u64 5] w fun e w' => e = .returned (.int .i64 0) ∧ St1 w' b g fm ∧ Only b g w w' := by
  refine Calls.mono (set_walk h 1 5 (by decide) (by decide) (by decide) (by decide) (by decide) (by decide) rfl rfl rfl) ?_
  rintro e w' ⟨he, hr, ho⟩
  exact ⟨he, ⟨_, _, _, _, _, _, hr, by simp [upd], by simp [upd], by simp [upd], by simp [upd], by simp [upd], by simp [upd], by simp [upd]⟩, ho⟩
theorem step2 (w : World) (b g : Nat) (fm : Value) (h : St1 w b g fm) :
    Calls Try.prog 11 #[.pointer (some ⟨b, 0, none⟩), .int .i64 2, .int .u64 3] w fun e w' => e = .returned (.int .i64 0) ∧ St2 w' b g fm ∧ Only b g w w' := by
  obtain ⟨F, L, A, B, E, T, hr, f0, f1, f2, f3, l3, f4, t3⟩ := h
  refine Calls.mono (set_walk hr 2 3 (by decide) (by decide) (by decide) (by decide) (by decide) (by decide) t3 f3 l3) ?_
  rintro e w' ⟨he, hr, ho⟩
  exact ⟨he, ⟨_, _, _, _, _, _, hr, by simp [upd, f0], by simp [upd, f1], by simp [upd, f2], by simp [upd], by simp [upd, f4], by simp [upd]⟩, ho⟩
theorem step3 (w : World) (b g : Nat) (fm : Value) (h : St2 w b g fm) :
    Calls Try.prog 13 #[.pointer (some ⟨b, 0, none⟩), .int .u64 4] w fun e w' => (∃ g5 c5, e = .returned (.slice (some ⟨g5, 0, none⟩) 1 c5) ∧ w'.cell? ⟨g5, 0, none⟩ = some (.int .i64 2)) ∧ (∃ F L A B E T, Rep w' b g 4 4 1 fm F L A B E T) ∧ Only b g w w' := by
  obtain ⟨F, L, A, B, E, T, hr, f0, f1, f2, f3, f4, b3⟩ := h
  exact advance_four hr (by decide) (by decide) 2 (by decide) f0 f1 f2 f3 f4 b3

set_option maxHeartbeats 2000000 in
theorem live_wheel (w : World) :
    Calls Try.prog 10 #[] w fun e w' => e = .returned (.bool true) ∧ Below w.heap.size w w' := by
  have hN : Calls Try.prog 17 #[.int .i64 4] w fun e w' => e = .returned (.pointer (some ⟨w.heap.size + 1 + 1, 0, none⟩)) ∧ Rep w' (w.heap.size + 1 + 1) (w.heap.size + 1) 4 0 0 (.map (some w.heap.size)) (fun _ => 0) (fun _ => 0) (fun _ => 0) (fun _ => 0) (fun _ => 0) (fun _ => false) ∧ Below w.heap.size w w' := new_ok 4 w (by decide) (by decide)
  have HN := veil hN
  have HC : Hid (∀ w1 w2, Below w.heap.size w w1 → Only (w.heap.size + 1 + 1) (w.heap.size + 1) w1 w2 → Below w.heap.size w w2) := fun w1 w2 h ho => h.trans (ho.below (by omega) (by omega) h.size)
  have HL5 : Hid (∀ w1, (∃ F L A B E T, Rep w1 (w.heap.size + 1 + 1) (w.heap.size + 1) 4 4 1 (.map (some w.heap.size)) F L A B E T) → Calls Try.prog 15 #[.pointer (some ⟨w.heap.size + 1 + 1, 0, none⟩)] w1 fun e w' => e = .returned (.int .i64 1) ∧ w' = w1) := by
    rintro w1 ⟨F, L, A, B, E, T, hr⟩
    exact len_walk hr
  have HN5 : Hid (∀ w1, (∃ F L A B E T, Rep w1 (w.heap.size + 1 + 1) (w.heap.size + 1) 4 4 1 (.map (some w.heap.size)) F L A B E T) → Calls Try.prog 14 #[.pointer (some ⟨w.heap.size + 1 + 1, 0, none⟩)] w1 fun e w' => e = .returned (.int .u64 4) ∧ w' = w1) := by
    rintro w1 ⟨F, L, A, B, E, T, hr⟩
    exact now_walk hr
  clear hN
  go_enter Try.func10, Try.ntmps10
  go_wp2_with (first
    | (go_at_call 17; refine (HN.out).mono ?_; rintro e w1 ⟨rfl, hr, hb⟩; have HR := veil hr; have HB := veil hb; clear hr hb)
    | (go_at_call 11; first
        | (refine (step2 _ _ _ _ H1.out).mono ?_; rintro e w3 ⟨rfl, hs, ho⟩; have H2 := veil hs; have HB2 := veil (HC.out _ _ HB1.out ho); clear hs ho)
        | (refine (step1 _ _ _ _ HR.out).mono ?_; rintro e w2 ⟨rfl, hs, ho⟩; have H1 := veil hs; have HB1 := veil (HC.out _ _ HB.out ho); clear hs ho))
    | (go_at_call 13; refine (step3 _ _ _ _ H2.out).mono ?_; rintro e w4 ⟨⟨g5, c5, rfl, hc⟩, hs, ho⟩; have H3 := veil hs; have HB3 := veil (HC.out _ _ HB2.out ho); clear hs ho)
    | (go_at_call 14; refine (HN5.out _ H3.out).mono ?_; rintro e w6 ⟨rfl, hw⟩; replace hw := hw.symm; subst hw)
    | (go_at_call 15; refine (HL5.out _ H3.out).mono ?_; rintro e w6 ⟨rfl, hw⟩; replace hw := hw.symm; subst hw))
  go_ret
  exact ⟨rfl, HB3.out⟩

theorem at_nil (id : Int) (w : World) :
    Calls Try.prog 8 #[.pointer none, .int .i64 id] w fun e w' => e = .returned (.tuple #[.int .u64 0, .bool false]) ∧ w' = w := by
  go_enter Try.func8, Try.ntmps8
  go_wp2
  go_ret2
  exact ⟨rfl, rfl⟩
theorem len_nil (w : World) :
    Calls Try.prog 15 #[.pointer none] w fun e w' => e = .returned (.int .i64 0) ∧ w' = w := by
  go_enter Try.func15, Try.ntmps15
  go_wp2
  go_ret
  exact ⟨rfl, rfl⟩
theorem next_nil (w : World) :
    Calls Try.prog 9 #[.pointer none] w fun e w' => e = .returned (.tuple #[.int .u64 0, .bool false]) ∧ w' = w := by
  go_enter Try.func9, Try.ntmps9
  go_wp2_with (go_at_call 15; refine (len_nil _).mono ?_; rintro e w1 ⟨rfl, hw⟩; replace hw := hw.symm; subst hw)
  go_ret2
  exact ⟨rfl, rfl⟩
theorem set_nil (id t : Int) (w : World) :
    Calls Try.prog 11 #[.pointer none, .int .i64 id, .int .u64 t] w fun e w' => e = .returned (.int .i64 1) ∧ w' = w := by
  go_enter Try.func11, Try.ntmps11
  go_wp2
  go_ret
  exact ⟨rfl, rfl⟩
theorem cancel_nil (id : Int) (w : World) :
    Calls Try.prog 12 #[.pointer none, .int .i64 id] w fun e w' => e = .returned (.int .i64 1) ∧ w' = w := by
  go_enter Try.func12, Try.ntmps12
  go_wp2
  go_ret
  exact ⟨rfl, rfl⟩
theorem advance_nil (t : Int) (w : World) :
    Calls Try.prog 13 #[.pointer none, .int .u64 t] w fun e w' => e = .returned (.slice none 0 0) ∧ w' = w := by
  go_enter Try.func13, Try.ntmps13
  go_wp2
  go_ret
  exact ⟨rfl, rfl⟩
theorem now_nil (w : World) :
    Calls Try.prog 14 #[.pointer none] w fun e w' => e = .returned (.int .u64 0) ∧ w' = w := by
  go_enter Try.func14, Try.ntmps14
  go_wp2
  go_ret
  exact ⟨rfl, rfl⟩
theorem fork_nil (w : World) :
    Calls Try.prog 16 #[.pointer none] w fun e w' => e = .returned (.pointer none) ∧ w' = w := by
  go_enter Try.func16, Try.ntmps16
  go_wp2
  go_ret
  exact ⟨rfl, rfl⟩
end Go.Proofs.Ythpbehpeojacmab
