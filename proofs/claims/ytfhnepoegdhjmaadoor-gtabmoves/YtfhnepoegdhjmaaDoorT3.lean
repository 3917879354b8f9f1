/-
  The walks of a table's own calls: Release, State; which state may follow which.
-/
import Derived.Test.YtfhnepoegdhjmaaDoorT2
namespace Go.Proofs.YtfhnepoegdhjmaaDoor
open Go.RowKit Go.Lib
set_option linter.unusedVariables false
attribute [local go_sem ↓] Go.wp_at_zero Go.wp_at_succ

theorem hasB_some {n : Nat} {G S : Nat → Nat} {p : Int} {q : Nat} (h : hasB n G S p q = true) : ∃ x : Nat, p = x ∧ x < n ∧ S x ≠ 0 ∧ G x = q := by
  unfold hasB at h
  simp only [Bool.and_eq_true, decide_eq_true_eq] at h
  obtain ⟨x, rfl⟩ := Int.eq_ofNat_of_zero_le h.1.1.1
  simp only [Int.toNat_natCast] at h
  exact ⟨x, rfl, by omega, h.1.2, h.2⟩
theorem hasB_mk {n : Nat} {G S : Nat → Nat} {x q : Nat} (hx : x < n) (hs : S x ≠ 0) (hg : G x = q) : hasB n G S x q = true := by
  unfold hasB
  simp only [Int.toNat_natCast, Bool.and_eq_true, decide_eq_true_eq]
  exact ⟨⟨⟨by omega, by omega⟩, hs⟩, hg⟩

section
variable {w : World} {b g n : Nat} {G S : Nat → Nat}
theorem Rep.setCellFr (h : Rep w b g n G S) {w1 w2 : World} (hb : Below w.heap.size w w1) (hf : Fr (fun k => k = g) w1 w2) : Fr (fun k => k = g) w w2 := (Fr.of_below' hb).trans hf

set_option maxHeartbeats 2000000 in
theorem release_none (h : Rep w b g n G S) (p : Int) (q : Nat) (hh : hasB n G S p q = false) :
    Calls Tryd.prog 17 #[.pointer (some ⟨b, 0, none⟩), .agg #[.int .i64 p, .int .u32 (q : Int)]] w fun e w' => e = .returned (.int .i64 6) ∧ Below w.heap.size w w' := by
  have HH := veil (has_ok (h.alloc (.cells #[.int .i64 p, .int .u32 (q : Int)] 25)) p q)
  rw [hh] at HH
  clear h
  go_enter Tryd.func17, Tryd.ntmps17
  go_wp2_with (go_at_call 33; refine (HH.out).mono ?_; rintro e w1 ⟨rfl, hb⟩; have HB := veil hb; clear hb)
  go_ret
  exact ⟨rfl, ((Below.refl _ _).alloc (Nat.le_refl _) _).trans (HB.out.mono (by simp))⟩
set_option maxHeartbeats 2000000 in
theorem release_some (h : Rep w b g n G S) (x q : Nat) (hx : x < n) (hs : S x ≠ 0) (hg : G x = q) :
    Calls Tryd.prog 17 #[.pointer (some ⟨b, 0, none⟩), .agg #[.int .i64 (x : Int), .int .u32 (q : Int)]] w fun e w' => e = .returned (.int .i64 0) ∧ Rep w' b g n G (upd S x 0) ∧ Fr (fun k => k = g) w w' := by
  have HH := veil (has_ok (h.alloc (.cells #[.int .i64 (x : Int), .int .u32 (q : Int)] 25)) x q)
  rw [hasB_mk hx hs hg] at HH
  have HA : Hid (∀ w1, Below (w.alloc (.cells #[.int .i64 (x : Int), .int .u32 (q : Int)] 25)).heap.size (w.alloc (.cells #[.int .i64 (x : Int), .int .u32 (q : Int)] 25)) w1 →
      (Rep w1 b g n G S ∧ w1.cell? ⟨w.heap.size, 0, none⟩ = some (.int .i64 (x : Int)) ∧ Below w.heap.size w w1)) := by
    intro w1 hb
    refine ⟨(h.alloc _).below hb, ?_, ((Below.refl _ _).alloc (Nat.le_refl _) _).trans (hb.mono (by simp))⟩
    rw [hb.cell (p := ⟨w.heap.size, 0, none⟩) (by simp), cell_new]; rfl
  have hn2 := h.n2
  clear h
  go_enter Tryd.func17, Tryd.ntmps17
  go_wp2_with (go_at_call 33; refine (HH.out).mono ?_; rintro e w1 ⟨rfl, hb⟩; obtain ⟨hr1, c1, hb1⟩ := HA.out _ hb; obtain ⟨cp, c2⟩ := hr1.sl; have c3 := hr1.st x hx; have c4 := hr1.fg; have HR1 := veil hr1; have HB1 := veil hb1; clear hb hb1 hr1)
  go_region
  all_goals go_wp2
  go_ret
  exact ⟨rfl, (HR1.out.setS x hx 0).like rfl, ((Fr.of_below' HB1.out).setCell (S := fun k => k = g) (a := ⟨g, x * 2 + 1, none⟩) rfl _).drew⟩
set_option maxHeartbeats 2000000 in
theorem state_none (h : Rep w b g n G S) (p : Int) (q : Nat) (hh : hasB n G S p q = false) :
    Calls Tryd.prog 18 #[.pointer (some ⟨b, 0, none⟩), .agg #[.int .i64 p, .int .u32 (q : Int)]] w fun e w' => e = .returned (.tuple #[.int .i64 0, .bool false]) ∧ Below w.heap.size w w' := by
  have HH := veil (has_ok (h.alloc (.cells #[.int .i64 p, .int .u32 (q : Int)] 25)) p q)
  rw [hh] at HH
  clear h
  go_enter Tryd.func18, Tryd.ntmps18
  go_wp2_with (go_at_call 33; refine (HH.out).mono ?_; rintro e w1 ⟨rfl, hb⟩; have HB := veil hb; clear hb)
  go_ret2
  exact ⟨rfl, ((Below.refl _ _).alloc (Nat.le_refl _) _).trans (HB.out.mono (by simp))⟩
set_option maxHeartbeats 2000000 in
theorem state_some (h : Rep w b g n G S) (x q : Nat) (hx : x < n) (hs : S x ≠ 0) (hg : G x = q) :
    Calls Tryd.prog 18 #[.pointer (some ⟨b, 0, none⟩), .agg #[.int .i64 (x : Int), .int .u32 (q : Int)]] w fun e w' => e = .returned (.tuple #[.int .i64 (S x : Int), .bool true]) ∧ Below w.heap.size w w' := by
  have HH := veil (has_ok (h.alloc (.cells #[.int .i64 (x : Int), .int .u32 (q : Int)] 25)) x q)
  rw [hasB_mk hx hs hg] at HH
  have HA : Hid (∀ w1, Below (w.alloc (.cells #[.int .i64 (x : Int), .int .u32 (q : Int)] 25)).heap.size (w.alloc (.cells #[.int .i64 (x : Int), .int .u32 (q : Int)] 25)) w1 →
      (Rep w1 b g n G S ∧ w1.cell? ⟨w.heap.size, 0, none⟩ = some (.int .i64 (x : Int)) ∧ Below w.heap.size w w1)) := by
    intro w1 hb
    refine ⟨(h.alloc _).below hb, ?_, ((Below.refl _ _).alloc (Nat.le_refl _) _).trans (hb.mono (by simp))⟩
    rw [hb.cell (p := ⟨w.heap.size, 0, none⟩) (by simp), cell_new]; rfl
  have hn2 := h.n2
  clear h
  go_enter Tryd.func18, Tryd.ntmps18
  go_wp2_with (go_at_call 33; refine (HH.out).mono ?_; rintro e w1 ⟨rfl, hb⟩; obtain ⟨hr1, c1, hb1⟩ := HA.out _ hb; obtain ⟨cp, c2⟩ := hr1.sl; have c3 := hr1.st x hx; have HB1 := veil hb1; clear hb hb1 hr1)
  go_quiet (fail)
  go_wp2
  go_ret2
  exact ⟨rfl, below_drewN HB1.out _⟩
end

/-- Which state may follow which. -/
def fol (i j : Nat) : Bool := (i == 1 && j == 2) || (i == 2 && (j == 1 || j == 3 || j == 4)) || ((i == 3 || i == 4) && j == 1)
def mayB (a b : Int) : Bool := decide (0 ≤ a) && decide (a ≤ 4) && decide (0 ≤ b) && decide (b ≤ 4) && fol a.toNat b.toNat
/-- The program's table of that. -/
def Tab (w : World) : Prop := ∀ i j, i < 5 → j < 5 → w.cell? ⟨0, i * 5 + j, none⟩ = some (.bool (fol i j))
theorem Tab.pos {w : World} (h : Tab w) : 0 < w.heap.size := World.block_lt_of_cell? w _ (h 0 0 (by omega) (by omega))
theorem Tab.frame {w w' : World} {X : Nat → Prop} (h : Tab w) (hf : Fr X w w') (h0 : ¬ X 0) : Tab w' := fun i j hi hj => (hf.cell (a := ⟨0, i * 5 + j, none⟩) h.pos h0).trans (h i j hi hj)
theorem Tab.below {w w' : World} (h : Tab w) (hf : Below w.heap.size w w') : Tab w' := fun i j hi hj => (hf.cell (p := ⟨0, i * 5 + j, none⟩) h.pos).trans (h i j hi hj)
theorem isState_yes (a : Int) (w : World) (h : 0 ≤ a ∧ a ≤ 4) :
    Calls Tryd.prog 31 #[.int .i64 a] w fun e w' => e = .returned (.bool true) ∧ w' = w := by
  have h1 := h.1
  have h2 := h.2
  go_enter Tryd.func31, Tryd.ntmps31
  go_wp2
  all_goals go_ret
  all_goals exact ⟨by simp , rfl⟩
theorem isState_no (a : Int) (w : World) (h : ¬ (0 ≤ a ∧ a ≤ 4)) :
    Calls Tryd.prog 31 #[.int .i64 a] w fun e w' => e = .returned (.bool false) ∧ w' = w := by
  by_cases h0 : 0 ≤ a
  · have h1 : ¬ a ≤ 4 := by omega
    go_enter Tryd.func31, Tryd.ntmps31
    go_wp2
    all_goals go_ret
    all_goals exact ⟨by simp , rfl⟩
  · go_enter Tryd.func31, Tryd.ntmps31
    go_wp2
    all_goals go_ret
    all_goals exact ⟨by simp, rfl⟩
set_option maxHeartbeats 2000000 in
theorem may_in (a b : Nat) (w : World) (h : Tab w) (ha : a < 5) (hb : b < 5) :
    Calls Tryd.prog 14 #[.int .i64 (a : Int), .int .i64 (b : Int)] w fun e w' => e = .returned (.bool (fol a b)) ∧ w' = w := by
  have e0 := h a b ha hb
  have H1 := veil (isState_yes (a : Int) w (by omega))
  have H2 := veil (isState_yes (b : Int) w (by omega))
  generalize hf : fol a b = f at *
  clear h hf
  go_enter Tryd.func14, Tryd.ntmps14
  go_wp2_with (first
    | (go_at_call 31; refine (H1.out).mono ?_; rintro e w1 ⟨rfl, hw⟩; replace hw := hw.symm; subst hw; clear H1)
    | (go_at_call 31; refine (H2.out).mono ?_; rintro e w1 ⟨rfl, hw⟩; replace hw := hw.symm; subst hw; clear H2))
  go_ret
  exact ⟨by simp, rfl⟩
set_option maxHeartbeats 2000000 in
theorem may_out (a b : Int) (w : World) (h : ¬ (0 ≤ a ∧ a ≤ 4 ∧ 0 ≤ b ∧ b ≤ 4)) :
    Calls Tryd.prog 14 #[.int .i64 a, .int .i64 b] w fun e w' => e = .returned (.bool false) ∧ w' = w := by
  by_cases ha : 0 ≤ a ∧ a ≤ 4
  · have H1 := veil (isState_yes a w ha)
    have H2 := veil (isState_no b w (by omega))
    clear h ha
    go_enter Tryd.func14, Tryd.ntmps14
    go_wp2_with (first
      | (go_at_call 31; refine (H1.out).mono ?_; rintro e w1 ⟨rfl, hw⟩; replace hw := hw.symm; subst hw; clear H1)
      | (go_at_call 31; refine (H2.out).mono ?_; rintro e w1 ⟨rfl, hw⟩; replace hw := hw.symm; subst hw; clear H2))
    go_ret
    exact ⟨by simp, rfl⟩
  · have H1 := veil (isState_no a w ha)
    clear h ha
    go_enter Tryd.func14, Tryd.ntmps14
    go_wp2_with (first
      | (go_at_call 31; refine (H1.out).mono ?_; rintro e w1 ⟨rfl, hw⟩; replace hw := hw.symm; subst hw; clear H1))
    go_ret
    exact ⟨by simp, rfl⟩
theorem may_ok (a b : Int) (w : World) (h : Tab w) :
    Calls Tryd.prog 14 #[.int .i64 a, .int .i64 b] w fun e w' => e = .returned (.bool (mayB a b)) ∧ w' = w := by
  by_cases hh : 0 ≤ a ∧ a ≤ 4 ∧ 0 ≤ b ∧ b ≤ 4
  · obtain ⟨x, rfl⟩ := Int.eq_ofNat_of_zero_le hh.1
    obtain ⟨y, rfl⟩ := Int.eq_ofNat_of_zero_le hh.2.2.1
    refine (may_in x y w h (by omega) (by omega)).mono ?_
    rintro e w' ⟨rfl, rfl⟩
    refine ⟨?_, rfl⟩
    unfold mayB
    rw [decide_eq_true hh.1, decide_eq_true hh.2.1, decide_eq_true hh.2.2.1, decide_eq_true hh.2.2.2]
    simp
  · refine (may_out a b w hh).mono ?_
    rintro e w' ⟨rfl, rfl⟩
    refine ⟨?_, rfl⟩
    have : mayB a b = false := by
      unfold mayB
      by_cases h1 : 0 ≤ a <;> by_cases h2 : a ≤ 4 <;> by_cases h3 : 0 ≤ b <;> by_cases h4 : b ≤ 4 <;> simp [h1, h2, h3, h4]
      exact absurd ⟨h1, h2, h3, h4⟩ hh
    rw [this]

section
variable {w : World} {b g n : Nat} {G S : Nat → Nat}
set_option maxHeartbeats 2000000 in
theorem move_none (h : Rep w b g n G S) (p s : Int) (q : Nat) (hh : hasB n G S p q = false) :
    Calls Tryd.prog 19 #[.pointer (some ⟨b, 0, none⟩), .agg #[.int .i64 p, .int .u32 (q : Int)], .int .i64 s] w fun e w' => e = .returned (.int .i64 6) ∧ Below w.heap.size w w' := by
  have HH := veil (has_ok (h.alloc (.cells #[.int .i64 p, .int .u32 (q : Int)] 25)) p q)
  rw [hh] at HH
  clear h
  go_enter Tryd.func19, Tryd.ntmps19
  go_wp2_with (go_at_call 33; refine (HH.out).mono ?_; rintro e w1 ⟨rfl, hb⟩; have HB := veil hb; clear hb)
  go_ret
  exact ⟨rfl, ((Below.refl _ _).alloc (Nat.le_refl _) _).trans (HB.out.mono (by simp))⟩
set_option maxHeartbeats 2000000 in
theorem move_state (h : Rep w b g n G S) (ht : Tab w) (x q : Nat) (s : Int) (hx : x < n) (hs : S x ≠ 0) (hg : G x = q) (hm : mayB (S x) s = false) :
    Calls Tryd.prog 19 #[.pointer (some ⟨b, 0, none⟩), .agg #[.int .i64 (x : Int), .int .u32 (q : Int)], .int .i64 s] w fun e w' => e = .returned (.int .i64 11) ∧ Below w.heap.size w w' := by
  have HH := veil (has_ok (h.alloc (.cells #[.int .i64 (x : Int), .int .u32 (q : Int)] 25)) x q)
  rw [hasB_mk hx hs hg] at HH
  have HA : Hid (∀ w1, Below (w.alloc (.cells #[.int .i64 (x : Int), .int .u32 (q : Int)] 25)).heap.size (w.alloc (.cells #[.int .i64 (x : Int), .int .u32 (q : Int)] 25)) w1 →
      (Rep w1 b g n G S ∧ w1.cell? ⟨w.heap.size, 0, none⟩ = some (.int .i64 (x : Int)) ∧ Below w.heap.size w w1 ∧ Tab w1)) := by
    intro w1 hb
    have hbb := ((Below.refl _ _).alloc (Nat.le_refl _) _).trans (hb.mono (by simp))
    refine ⟨(h.alloc _).below hb, ?_, hbb, ht.below hbb⟩
    rw [hb.cell (p := ⟨w.heap.size, 0, none⟩) (by simp), cell_new]; rfl
  have hn2 := h.n2
  have HM : Hid (∀ w1, Tab w1 → Calls Tryd.prog 14 #[.int .i64 (S x : Int), .int .i64 s] w1 fun e w' => e = .returned (.bool false) ∧ w' = w1) := fun w1 ht1 => by
    rw [← hm]; exact may_ok _ _ _ ht1
  clear h ht
  go_enter Tryd.func19, Tryd.ntmps19
  go_wp2_with (go_at_call 33; refine (HH.out).mono ?_; rintro e w1 ⟨rfl, hb⟩; obtain ⟨hr1, c1, hb1, ht1⟩ := HA.out _ hb; obtain ⟨cp, c2⟩ := hr1.sl; have c3 := hr1.st x hx; have HB1 := veil hb1; have HT1 := veil ht1; clear hb hb1 hr1 ht1)
  go_quiet (first | (go_at_call 14; refine Calls.quiet_of_same (HM.out _ ?_); exact (fun i j hi hj => HT1.out i j hi hj)))
  go_wp2
  go_ret
  exact ⟨rfl, below_drewN HB1.out _⟩
set_option maxHeartbeats 2000000 in
theorem move_some (h : Rep w b g n G S) (ht : Tab w) (x q : Nat) (s : Nat) (hx : x < n) (hs : S x ≠ 0) (hg : G x = q) (hm : mayB (S x) s = true) :
    Calls Tryd.prog 19 #[.pointer (some ⟨b, 0, none⟩), .agg #[.int .i64 (x : Int), .int .u32 (q : Int)], .int .i64 (s : Int)] w fun e w' => e = .returned (.int .i64 0) ∧ Rep w' b g n G (upd S x s) ∧ Fr (fun k => k = g) w w' := by
  have HH := veil (has_ok (h.alloc (.cells #[.int .i64 (x : Int), .int .u32 (q : Int)] 25)) x q)
  rw [hasB_mk hx hs hg] at HH
  have HA : Hid (∀ w1, Below (w.alloc (.cells #[.int .i64 (x : Int), .int .u32 (q : Int)] 25)).heap.size (w.alloc (.cells #[.int .i64 (x : Int), .int .u32 (q : Int)] 25)) w1 →
      (Rep w1 b g n G S ∧ w1.cell? ⟨w.heap.size, 0, none⟩ = some (.int .i64 (x : Int)) ∧ Below w.heap.size w w1 ∧ Tab w1)) := by
    intro w1 hb
    have hbb := ((Below.refl _ _).alloc (Nat.le_refl _) _).trans (hb.mono (by simp))
    refine ⟨(h.alloc _).below hb, ?_, hbb, ht.below hbb⟩
    rw [hb.cell (p := ⟨w.heap.size, 0, none⟩) (by simp), cell_new]; rfl
  have hn2 := h.n2
  have HM : Hid (∀ w1, Tab w1 → Calls Tryd.prog 14 #[.int .i64 (S x : Int), .int .i64 (s : Int)] w1 fun e w' => e = .returned (.bool true) ∧ w' = w1) := fun w1 ht1 => by
    rw [← hm]; exact may_ok _ _ _ ht1
  clear h ht
  go_enter Tryd.func19, Tryd.ntmps19
  go_wp2_with (go_at_call 33; refine (HH.out).mono ?_; rintro e w1 ⟨rfl, hb⟩; obtain ⟨hr1, c1, hb1, ht1⟩ := HA.out _ hb; obtain ⟨cp, c2⟩ := hr1.sl; have c3 := hr1.st x hx; have c4 := hr1.fg; have HR1 := veil hr1; have HB1 := veil hb1; have HT1 := veil ht1; clear hb hb1 hr1 ht1)
  go_quiet (first | (go_at_call 14; refine Calls.quiet_of_same (HM.out _ ?_); exact (fun i j hi hj => HT1.out i j hi hj)))
  go_wp2
  go_region
  all_goals go_wp2
  go_ret
  exact ⟨rfl, (HR1.out.setS x hx s).like rfl, by
    have := ((Fr.of_below' HB1.out).setCell (S := fun k => k = g) (a := ⟨g, x * 2 + 1, none⟩) rfl (.int .i64 (s : Int)))
    exact ⟨this.os, this.tape, this.output, this.size, this.block⟩⟩
end
end Go.Proofs.YtfhnepoegdhjmaaDoor
