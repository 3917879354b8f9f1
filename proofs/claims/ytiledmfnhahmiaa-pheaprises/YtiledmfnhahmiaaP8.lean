/-
  'live' of the heaps: three deeds, and what is taken.
-/
import Derived.Test.YtiledmfnhahmiaaP7
namespace Go.Proofs.Ytiledmfnhahmiaa
open Go.RowKit

def St1 (w : World) (b g : Nat) : Prop := ∃ D S I C A B T, Rep w b g 4 2 1 D S I C A B T ∧ D 2 = 9 ∧ S 2 = 0 ∧ I 2 = 1 ∧ C 2 = 0 ∧ C 3 = 0 ∧ T 2 = true ∧ T 3 = false
def St2 (w : World) (b g : Nat) : Prop := ∃ D S I C A B T, Rep w b g 4 3 2 D S I C A B T ∧ D 3 = 4 ∧ S 3 = 0 ∧ I 3 = 2 ∧ C 2 = 0 ∧ C 3 = 2 ∧ A 2 = 3 ∧ B 2 = 0 ∧ T 2 = true
def St3 (w : World) (b g : Nat) : Prop := ∃ D S I C A B T, Rep w b g 4 3 1 D S I C A B T ∧ D 3 = 4 ∧ S 3 = 0 ∧ I 3 = 2
def St4 (w : World) (b g : Nat) : Prop := ∃ D S I C A B T, Rep w b g 4 2 2 D S I C A B T ∧ I 2 = 1 ∧ C 2 = 3 ∧ B 3 = 0
def St5 (w : World) (b g : Nat) : Prop := ∃ D S I C A B T, Rep w b g 4 3 1 D S I C A B T

theorem step1 (w : World) (b g : Nat) (h : Rep w b g 4 0 0 (fun _ => 0) (fun _ => 0) (fun _ => 0) (fun _ => 0) (fun _ => 0) (fun _ => 0) (fun _ => false)) :
    Calls Try.prog 23 #[.pointer (some ⟨b, 0, none⟩), .int .i64 1, .int .u64 9, .int .u64 0] w fun e w' => e = .returned (.int .i64 0) ∧ St1 w' b g ∧ Only b g w w' := by
  refine insert_walk h 1 9 0 (by decide) (by decide) rfl (fun w' => St1 w' b g ∧ Only b g w w') ?_
  have hj : ∀ w1, Rep w1 b g 4 0 0 (upd (fun _ => 0) 2 9) (upd (fun _ => 0) 2 0) (upd (fun _ => 0) 2 1) (upd (fun _ => 0) 2 0) (upd (fun _ => 0) 2 0) (upd (fun _ => 0) 2 0) (upd (fun _ => false) 2 true) → Calls Try.prog 43 #[.pointer (some ⟨b, 0, none⟩), .int .i64 ((0 : Nat) : Int), .int .i64 (((1 : Nat) : Int) + 1)] w1 fun e w' => e = .returned (.int .i64 ((2 : Nat) : Int)) ∧ Rep w' b g 4 0 0 (upd (fun _ => 0) 2 9) (upd (fun _ => 0) 2 0) (upd (fun _ => 0) 2 1) (upd (fun _ => 0) 2 0) (upd (fun _ => 0) 2 0) (upd (fun _ => 0) 2 0) (upd (fun _ => false) 2 true) ∧ Only b g w1 w' := by
    intro w1 hr
    refine Calls.mono (join_left 2 w1 b) ?_
    rintro e w' ⟨he, rfl⟩
    exact ⟨he, hr, Only.refl _ _ _⟩
  refine (put_walk h 1 9 0 2 (by decide) (by decide) (by decide) hj).mono ?_
  rintro e w' ⟨he, hr, ho⟩
  exact ⟨he, ⟨_, _, _, _, _, _, _, hr, rfl, rfl, rfl, rfl, rfl, rfl, rfl⟩, ho⟩

theorem step2 (w : World) (b g : Nat) (h : St1 w b g) :
    Calls Try.prog 23 #[.pointer (some ⟨b, 0, none⟩), .int .i64 2, .int .u64 4, .int .u64 0] w fun e w' => e = .returned (.int .i64 0) ∧ St2 w' b g ∧ Only b g w w' := by
  obtain ⟨D, S, I, C, A, B, T, hr, d2, s2, i2, c2, c3, t2, t3⟩ := h
  refine insert_walk hr 2 4 0 (by decide) (by decide) t3 (fun w' => St2 w' b g ∧ Only b g w w') ?_
  have hj : ∀ w1, Rep w1 b g 4 2 1 (upd D 3 4) (upd S 3 0) (upd I 3 2) (upd C 3 0) (upd A 3 0) (upd B 3 0) (upd T 3 true) → Calls Try.prog 43 #[.pointer (some ⟨b, 0, none⟩), .int .i64 ((2 : Nat) : Int), .int .i64 (((2 : Nat) : Int) + 1)] w1 fun e w' => e = .returned (.int .i64 ((3 : Nat) : Int)) ∧ Rep w' b g 4 2 1 (upd D 3 4) (upd S 3 0) (upd I 3 2) (upd (upd C 3 0) 3 2) (upd (if (upd C 3 0) 3 = 0 then upd A 3 0 else upd (upd A 3 0) ((upd C 3 0) 3) 2) 2 3) (upd (upd B 3 0) 2 ((upd C 3 0) 3)) (upd T 3 true) ∧ Only b g w1 w' := by
    intro w1 hr1
    exact join_swap hr1 3 2 (by decide) (by decide) (by decide) (by decide) (by simp [upd]) (by simp [upd]) (by simp [upd, d2, bef])
  refine (put_walk hr 2 4 0 3 (by decide) (by decide) (by decide) hj).mono ?_
  rintro e w' ⟨he, hr, ho⟩
  exact ⟨he, ⟨_, _, _, _, _, _, _, hr, by simp [upd], by simp [upd], by simp [upd], by simp [upd, c2], by simp [upd], by simp [upd], by simp [upd], by simp [upd, t2]⟩, ho⟩

theorem step3 (w : World) (b g : Nat) (h : St2 w b g) :
    Calls Try.prog 20 #[.pointer (some ⟨b, 0, none⟩), .int .i64 1, .int .u64 3, .int .u64 0] w fun e w' => e = .returned (.int .i64 0) ∧ St4 w' b g ∧ Only b g w w' := by
  obtain ⟨D, S, I, C, A, B, T, hr, d3, s3, i3, c2, c3, a2, b2, t2⟩ := h
  refine change_walk w b 1 3 0 (fun w' => (∃ D S I C A B T, Rep w' b g 4 3 1 D S I C A B T ∧ D 3 = 4 ∧ S 3 = 0 ∧ I 3 = 2) ∧ Only b g w w') (fun w' => St4 w' b g ∧ Only b g w w') ?_ ?_
  · refine delete_walk hr 1 (by decide) (by decide) t2 _ ?_
    refine (remove_leaf (ct := 1) hr 2 3 (by decide) (by decide) (by decide) (by decide) (by decide) c2 a2 c3 b2).mono ?_
    rintro e w' ⟨he, hr', ho⟩
    exact ⟨he, ⟨_, _, _, _, _, _, _, hr', by simp [upd, d3], by simp [upd, s3], by simp [upd, i3]⟩, ho⟩
  · rintro w1 ⟨⟨D, S, I, C, A, B, T, hr1, d3, s3, i3⟩, ho1⟩
    have hj : ∀ w1, Rep w1 b g 4 3 1 (upd D 2 3) (upd S 2 0) (upd I 2 1) (upd C 2 0) (upd A 2 0) (upd B 2 0) (upd T 2 true) → Calls Try.prog 43 #[.pointer (some ⟨b, 0, none⟩), .int .i64 ((3 : Nat) : Int), .int .i64 (((1 : Nat) : Int) + 1)] w1 fun e w' => e = .returned (.int .i64 ((2 : Nat) : Int)) ∧ Rep w' b g 4 3 1 (upd D 2 3) (upd S 2 0) (upd I 2 1) (upd (upd C 2 0) 2 3) (upd (if (upd C 2 0) 2 = 0 then upd A 2 0 else upd (upd A 2 0) ((upd C 2 0) 2) 3) 3 2) (upd (upd B 2 0) 3 ((upd C 2 0) 2)) (upd T 2 true) ∧ Only b g w1 w' := by
      intro w1 hr1
      exact join_swap hr1 2 3 (by decide) (by decide) (by decide) (by decide) (by simp [upd]) (by simp [upd]) (by simp [upd, d3, bef])
    refine (put_walk hr1 1 3 0 2 (by decide) (by decide) (by decide) hj).mono ?_
    rintro e w' ⟨he, hr', ho⟩
    exact ⟨he, ⟨_, _, _, _, _, _, _, hr', by simp [upd], by simp [upd], by simp [upd]⟩, ho1.trans ho⟩

theorem step4 (w : World) (b g : Nat) (h : St4 w b g) :
    Calls Try.prog 17 #[.pointer (some ⟨b, 0, none⟩)] w fun e w' => e = .returned (.tuple #[.int .i64 1, .bool true]) ∧ St5 w' b g ∧ Only b g w w' := by
  obtain ⟨D, S, I, C, A, B, T, hr, i2, c2, b3⟩ := h
  have hrem : ∀ q, Calls Try.prog 33 #[.pointer (some ⟨b, 0, none⟩), .int .i64 ((I 2 : Int) + 1)] (w.drewN q) fun e w' => e = .returned (.tuple #[]) ∧ (St5 w' b g ∧ Only b g w w') := by
    intro q
    rw [i2]
    have hp : Calls Try.prog 41 #[.pointer (some ⟨b, 0, none⟩), .int .i64 (C 2 : Int)] (w.drewN q) fun e w' => e = .returned (.int .i64 ((3 : Nat) : Int)) ∧ Below (w.drewN q).heap.size (w.drewN q) w' := by
      rw [c2]
      exact pair_single (hr.drewN q) 3 (by decide) (by decide) b3
    refine (remove_root (ct := 1) (hr.drewN q) 2 3 rfl (by decide) (by decide) hp).mono ?_
    rintro e w' ⟨he, hr', ho⟩
    exact ⟨he, ⟨_, _, _, _, _, _, _, hr'⟩, ((Only.refl b g w).drewN q).trans ho⟩
  have := take_walk hr (by decide) (by decide) (by decide) (by rw [i2]) (fun w' => St5 w' b g ∧ Only b g w w') hrem
  rw [i2] at this
  exact this

theorem Only.chain {b g : Nat} {w0 w1 w2 : World} {z : Nat} (h : Below z w0 w1) (ho : Only b g w1 w2) (hb : z ≤ b) (hg : z ≤ g) (hz : z ≤ w0.heap.size) : Below z w0 w2 := h.trans (ho.below hb hg (Nat.le_trans hz h.size))

set_option maxHeartbeats 2000000 in
theorem live_heap (w : World) :
    Calls Try.prog 12 #[] w fun e w' => e = .returned (.bool true) ∧ Below w.heap.size w w' := by
  have hN : Calls Try.prog 26 #[.int .i64 4] w fun e w' => e = .returned (.pointer (some ⟨w.heap.size + 1, 0, none⟩)) ∧ Rep w' (w.heap.size + 1) w.heap.size 4 0 0 (fun _ => 0) (fun _ => 0) (fun _ => 0) (fun _ => 0) (fun _ => 0) (fun _ => 0) (fun _ => false) ∧ Below w.heap.size w w' := new_ok 4 w (by decide) (by decide)
  have HN := veil hN
  have HC : Hid (∀ w1 w2, Below w.heap.size w w1 → Only (w.heap.size + 1) w.heap.size w1 w2 → Below w.heap.size w w2) := fun w1 w2 h ho => Only.chain h ho (by omega) (by omega) (Nat.le_refl _)
  have HL5 : Hid (∀ w1, St5 w1 (w.heap.size + 1) w.heap.size → Calls Try.prog 15 #[.pointer (some ⟨w.heap.size + 1, 0, none⟩)] w1 fun e w' => e = .returned (.int .i64 1) ∧ w' = w1) := by
    rintro w1 ⟨D, S, I, C, A, B, T, hr⟩
    exact len_walk hr
  clear hN
  go_enter Try.func12, Try.ntmps12
  go_wp2_with (first
    | (go_at_call 26; refine (HN.out).mono ?_; rintro e w1 ⟨rfl, hr, hb⟩; have HR := veil hr; have HB := veil hb; clear hr hb)
    | (go_at_call 20; refine (step3 _ _ _ H2.out).mono ?_; rintro e w4 ⟨rfl, hs, ho⟩; have H3 := veil hs; have HB3 := veil (HC.out _ _ HB2.out ho); clear hs ho)
    | (go_at_call 23; first
        | (refine (step2 _ _ _ H1.out).mono ?_; rintro e w3 ⟨rfl, hs, ho⟩; have H2 := veil hs; have HB2 := veil (HC.out _ _ HB1.out ho); clear hs ho)
        | (refine (step1 _ _ _ HR.out).mono ?_; rintro e w2 ⟨rfl, hs, ho⟩; have H1 := veil hs; have HB1 := veil (HC.out _ _ HB.out ho); clear hs ho))
    | (go_at_call 17; refine (step4 _ _ _ H3.out).mono ?_; rintro e w5 ⟨rfl, hs, ho⟩; have H4 := veil hs; have HB4 := veil (HC.out _ _ HB3.out ho); clear hs ho)
    | (go_at_call 15; refine (HL5.out _ H4.out).mono ?_; rintro e w6 ⟨rfl, hw⟩; replace hw := hw.symm; subst hw))
  go_ret
  exact ⟨rfl, HB4.out⟩
end Go.Proofs.Ytiledmfnhahmiaa
