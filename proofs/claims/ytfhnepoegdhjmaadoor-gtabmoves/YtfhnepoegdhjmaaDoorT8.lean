/-
  The walks of the document's table: May, Release, State, Move.
-/
import Derived.Test.YtfhnepoegdhjmaaDoorT7
namespace Go.Proofs.YtfhnepoegdhjmaaDoor
open Go.RowKit Go.Lib
attribute [local go_sem ↓] Go.wp_at_zero Go.wp_at_succ

theorem rmay_ok (a b : Int) (w : World) :
    Calls Tryd.prog 15 #[.int .i64 a, .int .i64 b] w fun e w' => e = .returned (.bool (mayB a b)) ∧ w' = w := by
  by_cases h1 : a = 1
  · subst h1
    have hm : mayB 1 b = decide (b = 2) := by
      by_cases hb : b = 2
      · subst hb; rfl
      · rw [decide_eq_false hb]
        unfold mayB fol
        by_cases h3 : 0 ≤ b <;> by_cases h4 : b ≤ 4 <;> simp [h3, h4]
        omega
    rw [hm]
    go_enter Tryd.func15, Tryd.ntmps15
    go_wp2
    all_goals go_ret
    all_goals exact ⟨by simp [BEq.beq], rfl⟩
  by_cases h2 : a = 2
  · subst h2
    have hm : mayB 2 b = (decide (b = 1) || decide (b = 3) || decide (b = 4)) := by
      by_cases hb1 : b = 1
      · subst hb1; rfl
      · by_cases hb3 : b = 3
        · subst hb3; rfl
        · by_cases hb4 : b = 4
          · subst hb4; rfl
          · rw [decide_eq_false hb1, decide_eq_false hb3, decide_eq_false hb4]
            unfold mayB fol
            by_cases h3 : 0 ≤ b <;> by_cases h4 : b ≤ 4 <;> simp [h3, h4]
            omega
    rw [hm]
    go_enter Tryd.func15, Tryd.ntmps15
    go_wp2
    all_goals go_ret
    all_goals exact ⟨by simp [BEq.beq, *], rfl⟩
  by_cases h3 : a = 3 ∨ a = 4
  · have hm : mayB a b = decide (b = 1) := by
      by_cases hb : b = 1
      · subst hb; rcases h3 with rfl | rfl <;> rfl
      · rw [decide_eq_false hb]
        rcases h3 with rfl | rfl
        · unfold mayB fol
          by_cases h3 : 0 ≤ b <;> by_cases h4 : b ≤ 4 <;> simp [h3, h4]
          omega
        · unfold mayB fol
          by_cases h3 : 0 ≤ b <;> by_cases h4 : b ≤ 4 <;> simp [h3, h4]
          omega
    rw [hm]
    rcases h3 with rfl | rfl
    · go_enter Tryd.func15, Tryd.ntmps15
      go_wp2
      all_goals go_ret
      all_goals exact ⟨by simp [BEq.beq], rfl⟩
    · go_enter Tryd.func15, Tryd.ntmps15
      go_wp2
      all_goals go_ret
      all_goals exact ⟨by simp [BEq.beq], rfl⟩
  · have hm : mayB a b = false := by
      unfold mayB fol
      by_cases h5 : 0 ≤ a
      · obtain ⟨k, rfl⟩ := Int.eq_ofNat_of_zero_le h5
        have e1 : k ≠ 1 := by omega
        have e2 : k ≠ 2 := by omega
        have e3 : k ≠ 3 := by omega
        have e4 : k ≠ 4 := by omega
        simp [e1, e2, e3, e4]
      · simp [h5]
    rw [hm]
    have h4 : ¬ a = 4 := by omega
    have h3' : ¬ a = 3 := by omega
    go_enter Tryd.func15, Tryd.ntmps15
    go_wp2
    all_goals go_ret
    all_goals exact ⟨rfl, rfl⟩

section
variable {w : World} {rb sb gb n : Nat} {G S : Nat → Nat}
set_option maxHeartbeats 2000000 in
theorem rrelease_none (h : RefR w rb sb gb n G S) (p : Int) (q : Nat) (hh : hasB n G S p q = false) :
    Calls Tryd.prog 36 #[.pointer (some ⟨rb, 0, none⟩), .agg #[.int .i64 p, .int .u32 (q : Int)]] w fun e w' => e = .returned (.int .i64 6) ∧ Below w.heap.size w w' := by
  have HH := veil (rhas_ok (h.alloc (.cells #[.int .i64 p, .int .u32 (q : Int)] 25)) p q)
  rw [hh] at HH
  clear h
  go_enter Tryd.func36, Tryd.ntmps36
  go_wp2_with (go_at_call 38; refine (HH.out).mono ?_; rintro e w1 ⟨rfl, hb⟩; have HB := veil hb; clear hb)
  go_ret
  exact ⟨rfl, ((Below.refl _ _).alloc (Nat.le_refl _) _).trans (HB.out.mono (by simp))⟩
set_option maxHeartbeats 2000000 in
theorem rrelease_some (h : RefR w rb sb gb n G S) (x q : Nat) (hx : x < n) (hs : S x ≠ 0) (hg : G x = q) :
    Calls Tryd.prog 36 #[.pointer (some ⟨rb, 0, none⟩), .agg #[.int .i64 (x : Int), .int .u32 (q : Int)]] w fun e w' => e = .returned (.int .i64 0) ∧ RefR w' rb sb gb n G (upd S x 0) ∧ Fr (fun k => k = sb) w w' := by
  have HH := veil (rhas_ok (h.alloc (.cells #[.int .i64 (x : Int), .int .u32 (q : Int)] 25)) x q)
  rw [hasB_mk hx hs hg] at HH
  have HA : Hid (∀ w1, Below (w.alloc (.cells #[.int .i64 (x : Int), .int .u32 (q : Int)] 25)).heap.size (w.alloc (.cells #[.int .i64 (x : Int), .int .u32 (q : Int)] 25)) w1 →
      (RefR w1 rb sb gb n G S ∧ w1.cell? ⟨w.heap.size, 0, none⟩ = some (.int .i64 (x : Int)) ∧ Below w.heap.size w w1)) := by
    intro w1 hb
    refine ⟨(h.alloc _).below hb, ?_, ((Below.refl _ _).alloc (Nat.le_refl _) _).trans (hb.mono (by simp))⟩
    rw [hb.cell (p := ⟨w.heap.size, 0, none⟩) (by simp), cell_new]; rfl
  have hn2 := h.n2
  clear h
  go_enter Tryd.func36, Tryd.ntmps36
  go_wp2_with (go_at_call 38; refine (HH.out).mono ?_; rintro e w1 ⟨rfl, hb⟩; obtain ⟨hr1, c1, hb1⟩ := HA.out _ hb; obtain ⟨cp, c2⟩ := hr1.c0; have c3 := hr1.st x hx; have c4 := hr1.fs; have HR1 := veil hr1; have HB1 := veil hb1; clear hb hb1 hr1)
  go_region
  all_goals go_wp2
  go_ret
  exact ⟨rfl, (HR1.out.setS x hx 0).like rfl, ((Fr.of_below' HB1.out).setCell (S := fun k => k = sb) (a := ⟨sb, x, none⟩) rfl _).drew⟩
set_option maxHeartbeats 2000000 in
theorem rstate_none (h : RefR w rb sb gb n G S) (p : Int) (q : Nat) (hh : hasB n G S p q = false) :
    Calls Tryd.prog 27 #[.pointer (some ⟨rb, 0, none⟩), .agg #[.int .i64 p, .int .u32 (q : Int)]] w fun e w' => e = .returned (.tuple #[.int .i64 0, .bool false]) ∧ Below w.heap.size w w' := by
  have HH := veil (rhas_ok (h.alloc (.cells #[.int .i64 p, .int .u32 (q : Int)] 25)) p q)
  rw [hh] at HH
  clear h
  go_enter Tryd.func27, Tryd.ntmps27
  go_wp2_with (go_at_call 38; refine (HH.out).mono ?_; rintro e w1 ⟨rfl, hb⟩; have HB := veil hb; clear hb)
  go_ret2
  exact ⟨rfl, ((Below.refl _ _).alloc (Nat.le_refl _) _).trans (HB.out.mono (by simp))⟩
set_option maxHeartbeats 2000000 in
theorem rstate_some (h : RefR w rb sb gb n G S) (x q : Nat) (hx : x < n) (hs : S x ≠ 0) (hg : G x = q) :
    Calls Tryd.prog 27 #[.pointer (some ⟨rb, 0, none⟩), .agg #[.int .i64 (x : Int), .int .u32 (q : Int)]] w fun e w' => e = .returned (.tuple #[.int .i64 (S x : Int), .bool true]) ∧ Below w.heap.size w w' := by
  have HH := veil (rhas_ok (h.alloc (.cells #[.int .i64 (x : Int), .int .u32 (q : Int)] 25)) x q)
  rw [hasB_mk hx hs hg] at HH
  have HA : Hid (∀ w1, Below (w.alloc (.cells #[.int .i64 (x : Int), .int .u32 (q : Int)] 25)).heap.size (w.alloc (.cells #[.int .i64 (x : Int), .int .u32 (q : Int)] 25)) w1 →
      (RefR w1 rb sb gb n G S ∧ w1.cell? ⟨w.heap.size, 0, none⟩ = some (.int .i64 (x : Int)) ∧ Below w.heap.size w w1)) := by
    intro w1 hb
    refine ⟨(h.alloc _).below hb, ?_, ((Below.refl _ _).alloc (Nat.le_refl _) _).trans (hb.mono (by simp))⟩
    rw [hb.cell (p := ⟨w.heap.size, 0, none⟩) (by simp), cell_new]; rfl
  have hn2 := h.n2
  clear h
  go_enter Tryd.func27, Tryd.ntmps27
  go_wp2_with (go_at_call 38; refine (HH.out).mono ?_; rintro e w1 ⟨rfl, hb⟩; obtain ⟨hr1, c1, hb1⟩ := HA.out _ hb; obtain ⟨cp, c2⟩ := hr1.c0; have c3 := hr1.st x hx; have c4 := hr1.fs; have HR1 := veil hr1; have HB1 := veil hb1; clear hb hb1 hr1)
  go_quiet (fail)
  go_wp2
  go_ret2
  exact ⟨rfl, below_drewN HB1.out _⟩
set_option maxHeartbeats 2000000 in
theorem rmove_none (h : RefR w rb sb gb n G S) (p s : Int) (q : Nat) (hh : hasB n G S p q = false) :
    Calls Tryd.prog 37 #[.pointer (some ⟨rb, 0, none⟩), .agg #[.int .i64 p, .int .u32 (q : Int)], .int .i64 s] w fun e w' => e = .returned (.int .i64 6) ∧ Below w.heap.size w w' := by
  have HH := veil (rhas_ok (h.alloc (.cells #[.int .i64 p, .int .u32 (q : Int)] 25)) p q)
  rw [hh] at HH
  clear h
  go_enter Tryd.func37, Tryd.ntmps37
  go_wp2_with (go_at_call 38; refine (HH.out).mono ?_; rintro e w1 ⟨rfl, hb⟩; have HB := veil hb; clear hb)
  go_ret
  exact ⟨rfl, ((Below.refl _ _).alloc (Nat.le_refl _) _).trans (HB.out.mono (by simp))⟩
set_option maxHeartbeats 2000000 in
theorem rmove_state (h : RefR w rb sb gb n G S) (x q : Nat) (s : Int) (hx : x < n) (hs : S x ≠ 0) (hg : G x = q) (hm : mayB (S x) s = false) :
    Calls Tryd.prog 37 #[.pointer (some ⟨rb, 0, none⟩), .agg #[.int .i64 (x : Int), .int .u32 (q : Int)], .int .i64 s] w fun e w' => e = .returned (.int .i64 11) ∧ Below w.heap.size w w' := by
  have HH := veil (rhas_ok (h.alloc (.cells #[.int .i64 (x : Int), .int .u32 (q : Int)] 25)) x q)
  rw [hasB_mk hx hs hg] at HH
  have HA : Hid (∀ w1, Below (w.alloc (.cells #[.int .i64 (x : Int), .int .u32 (q : Int)] 25)).heap.size (w.alloc (.cells #[.int .i64 (x : Int), .int .u32 (q : Int)] 25)) w1 →
      (RefR w1 rb sb gb n G S ∧ w1.cell? ⟨w.heap.size, 0, none⟩ = some (.int .i64 (x : Int)) ∧ Below w.heap.size w w1)) := by
    intro w1 hb
    refine ⟨(h.alloc _).below hb, ?_, ((Below.refl _ _).alloc (Nat.le_refl _) _).trans (hb.mono (by simp))⟩
    rw [hb.cell (p := ⟨w.heap.size, 0, none⟩) (by simp), cell_new]; rfl
  have hn2 := h.n2
  clear h
  have HM : Hid (∀ w1, Calls Tryd.prog 15 #[.int .i64 (S x : Int), .int .i64 s] w1 fun e w' => e = .returned (.bool false) ∧ w' = w1) := fun w1 => by
    rw [← hm]; exact rmay_ok _ _ _
  go_enter Tryd.func37, Tryd.ntmps37
  go_wp2_with (go_at_call 38; refine (HH.out).mono ?_; rintro e w1 ⟨rfl, hb⟩; obtain ⟨hr1, c1, hb1⟩ := HA.out _ hb; obtain ⟨cp, c2⟩ := hr1.c0; have c3 := hr1.st x hx; have c4 := hr1.fs; have HR1 := veil hr1; have HB1 := veil hb1; clear hb hb1 hr1)
  go_quiet (first | (go_at_call 15; refine Calls.quiet_of_same (HM.out _)))
  go_wp2
  go_ret
  exact ⟨rfl, below_drewN HB1.out _⟩
set_option maxHeartbeats 2000000 in
theorem rmove_some (h : RefR w rb sb gb n G S) (x q s : Nat) (hx : x < n) (hs : S x ≠ 0) (hg : G x = q) (hm : mayB (S x) s = true) :
    Calls Tryd.prog 37 #[.pointer (some ⟨rb, 0, none⟩), .agg #[.int .i64 (x : Int), .int .u32 (q : Int)], .int .i64 (s : Int)] w fun e w' => e = .returned (.int .i64 0) ∧ RefR w' rb sb gb n G (upd S x s) ∧ Fr (fun k => k = sb) w w' := by
  have HH := veil (rhas_ok (h.alloc (.cells #[.int .i64 (x : Int), .int .u32 (q : Int)] 25)) x q)
  rw [hasB_mk hx hs hg] at HH
  have HA : Hid (∀ w1, Below (w.alloc (.cells #[.int .i64 (x : Int), .int .u32 (q : Int)] 25)).heap.size (w.alloc (.cells #[.int .i64 (x : Int), .int .u32 (q : Int)] 25)) w1 →
      (RefR w1 rb sb gb n G S ∧ w1.cell? ⟨w.heap.size, 0, none⟩ = some (.int .i64 (x : Int)) ∧ Below w.heap.size w w1)) := by
    intro w1 hb
    refine ⟨(h.alloc _).below hb, ?_, ((Below.refl _ _).alloc (Nat.le_refl _) _).trans (hb.mono (by simp))⟩
    rw [hb.cell (p := ⟨w.heap.size, 0, none⟩) (by simp), cell_new]; rfl
  have hn2 := h.n2
  clear h
  have HM : Hid (∀ w1, Calls Tryd.prog 15 #[.int .i64 (S x : Int), .int .i64 (s : Int)] w1 fun e w' => e = .returned (.bool true) ∧ w' = w1) := fun w1 => by
    rw [← hm]; exact rmay_ok _ _ _
  go_enter Tryd.func37, Tryd.ntmps37
  go_wp2_with (go_at_call 38; refine (HH.out).mono ?_; rintro e w1 ⟨rfl, hb⟩; obtain ⟨hr1, c1, hb1⟩ := HA.out _ hb; obtain ⟨cp, c2⟩ := hr1.c0; have c3 := hr1.st x hx; have c4 := hr1.fs; have HR1 := veil hr1; have HB1 := veil hb1; clear hb hb1 hr1)
  go_quiet (first | (go_at_call 15; refine Calls.quiet_of_same (HM.out _)))
  go_wp2
  go_region
  all_goals go_wp2
  go_ret
  exact ⟨rfl, (HR1.out.setS x hx s).like rfl, by
    have := ((Fr.of_below' HB1.out).setCell (S := fun k => k = sb) (a := ⟨sb, x, none⟩) rfl (.int .i64 (s : Int)))
    exact ⟨this.os, this.tape, this.output, this.size, this.block⟩⟩
end
end Go.Proofs.YtfhnepoegdhjmaaDoor
