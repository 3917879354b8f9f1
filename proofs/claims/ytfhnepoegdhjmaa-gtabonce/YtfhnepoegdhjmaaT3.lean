/-
  The walks of a table's own calls: Release, State; which state may follow which.
-/
import Derived.Test.YtfhnepoegdhjmaaT2
namespace Go.Proofs.Ytfhnepoegdhjmaa
open Go.RowKit Go.Lib
set_option linter.unusedVariables false
attribute [local go_sem ↓] Go.wp_at_zero Go.wp_at_succ

theorem hasB_some {n : Nat} {G S : Nat → Nat} {p : Int} {q : Nat} (h : hasB n G S p q = true) : ∃ x : Nat, p = x ∧ x < n ∧ S x ≠ 0 ∧ G x = q := by
  unfold hasB at h
  simp only [Bool.and_eq_true, decide_eq_true_eq] at h
  obtain ⟨x, rfl⟩ := Int.eq_ofNat_of_zero_le h.1.1.1
  simp only [Int.toNat_natCast] at h
  exact ⟨x, rfl, by omega, h.1.2, h.2⟩
theorem hasB_mk {n : Nat} {G S : Nat → Nat} {x q : Nat} (hx : x < n) (hs : S x ≠ 0) (hg : G x = q) : hasB n G S x q = true := by
  unfold hasB
  simp only [Int.toNat_natCast, Bool.and_eq_true, decide_eq_true_eq]
  exact ⟨⟨⟨by omega, by omega⟩, hs⟩, hg⟩

section
variable {w : World} {b g n : Nat} {G S : Nat → Nat}
theorem Rep.setCellFr (h : Rep w b g n G S) {w1 w2 : World} (hb : Below w.heap.size w w1) (hf : Fr (fun k => k = g) w1 w2) : Fr (fun k => k = g) w w2 := (Fr.of_below' hb).trans hf

set_option maxHeartbeats 2000000 in
theorem release_none (h : Rep w b g n G S) (p : Int) (q : Nat) (hh : hasB n G S p q = false) :
    Calls Try.prog 5 #[.pointer (some ⟨b, 0, none⟩), .agg #[.int .i64 p, .int .u32 (q : Int)]] w fun e w' => e = .returned (.int .i64 6) ∧ Below w.heap.size w w' := by
  have HH := veil (has_ok (h.alloc (.cells #[.int .i64 p, .int .u32 (q : Int)] 28)) p q)
  rw [hh] at HH
  clear h
  go_enter Try.func5, Try.ntmps5
  go_wp2_with (go_at_call 10; refine (HH.out).mono ?_; rintro e w1 ⟨rfl, hb⟩; have HB := veil hb; clear hb)
  go_ret
  exact ⟨rfl, ((Below.refl _ _).alloc (Nat.le_refl _) _).trans (HB.out.mono (by simp))⟩
set_option maxHeartbeats 2000000 in
theorem release_some (h : Rep w b g n G S) (x q : Nat) (hx : x < n) (hs : S x ≠ 0) (hg : G x = q) :
    Calls Try.prog 5 #[.pointer (some ⟨b, 0, none⟩), .agg #[.int .i64 (x : Int), .int .u32 (q : Int)]] w fun e w' => e = .returned (.int .i64 0) ∧ Rep w' b g n G (upd S x 0) ∧ Fr (fun k => k = g) w w' := by
  have HH := veil (has_ok (h.alloc (.cells #[.int .i64 (x : Int), .int .u32 (q : Int)] 28)) x q)
  rw [hasB_mk hx hs hg] at HH
  have HA : Hid (∀ w1, Below (w.alloc (.cells #[.int .i64 (x : Int), .int .u32 (q : Int)] 28)).heap.size (w.alloc (.cells #[.int .i64 (x : Int), .int .u32 (q : Int)] 28)) w1 →
      (Rep w1 b g n G S ∧ w1.cell? ⟨w.heap.size, 0, none⟩ = some (.int .i64 (x : Int)) ∧ Below w.heap.size w w1)) := by
    intro w1 hb
    refine ⟨(h.alloc _).below hb, ?_, ((Below.refl _ _).alloc (Nat.le_refl _) _).trans (hb.mono (by simp))⟩
    rw [hb.cell (p := ⟨w.heap.size, 0, none⟩) (by simp), cell_new]; rfl
  have hn2 := h.n2
  clear h
  go_enter Try.func5, Try.ntmps5
  go_wp2_with (go_at_call 10; refine (HH.out).mono ?_; rintro e w1 ⟨rfl, hb⟩; obtain ⟨hr1, c1, hb1⟩ := HA.out _ hb; obtain ⟨cp, c2⟩ := hr1.sl; have c3 := hr1.st x hx; have c4 := hr1.fg; have HR1 := veil hr1; have HB1 := veil hb1; clear hb hb1 hr1)
  go_region
  all_goals go_wp2
  go_ret
  exact ⟨rfl, (HR1.out.setS x hx 0).like rfl, ((Fr.of_below' HB1.out).setCell (S := fun k => k = g) (a := ⟨g, x * 2 + 1, none⟩) rfl _).drew⟩
set_option maxHeartbeats 2000000 in
theorem state_none (h : Rep w b g n G S) (p : Int) (q : Nat) (hh : hasB n G S p q = false) :
    Calls Try.prog 8 #[.pointer (some ⟨b, 0, none⟩), .agg #[.int .i64 p, .int .u32 (q : Int)]] w fun e w' => e = .returned (.tuple #[.int .i64 0, .bool false]) ∧ Below w.heap.size w w' := by
  have HH := veil (has_ok (h.alloc (.cells #[.int .i64 p, .int .u32 (q : Int)] 28)) p q)
  rw [hh] at HH
  clear h
  go_enter Try.func8, Try.ntmps8
  go_wp2_with (go_at_call 10; refine (HH.out).mono ?_; rintro e w1 ⟨rfl, hb⟩; have HB := veil hb; clear hb)
  go_ret2
  exact ⟨rfl, ((Below.refl _ _).alloc (Nat.le_refl _) _).trans (HB.out.mono (by simp))⟩
set_option maxHeartbeats 2000000 in
theorem state_some (h : Rep w b g n G S) (x q : Nat) (hx : x < n) (hs : S x ≠ 0) (hg : G x = q) :
    Calls Try.prog 8 #[.pointer (some ⟨b, 0, none⟩), .agg #[.int .i64 (x : Int), .int .u32 (q : Int)]] w fun e w' => e = .returned (.tuple #[.int .i64 (S x : Int), .bool true]) ∧ Below w.heap.size w w' := by
  have HH := veil (has_ok (h.alloc (.cells #[.int .i64 (x : Int), .int .u32 (q : Int)] 28)) x q)
  rw [hasB_mk hx hs hg] at HH
  have HA : Hid (∀ w1, Below (w.alloc (.cells #[.int .i64 (x : Int), .int .u32 (q : Int)] 28)).heap.size (w.alloc (.cells #[.int .i64 (x : Int), .int .u32 (q : Int)] 28)) w1 →
      (Rep w1 b g n G S ∧ w1.cell? ⟨w.heap.size, 0, none⟩ = some (.int .i64 (x : Int)) ∧ Below w.heap.size w w1)) := by
    intro w1 hb
    refine ⟨(h.alloc _).below hb, ?_, ((Below.refl _ _).alloc (Nat.le_refl _) _).trans (hb.mono (by simp))⟩
    rw [hb.cell (p := ⟨w.heap.size, 0, none⟩) (by simp), cell_new]; rfl
  have hn2 := h.n2
  clear h
  go_enter Try.func8, Try.ntmps8
  go_wp2_with (go_at_call 10; refine (HH.out).mono ?_; rintro e w1 ⟨rfl, hb⟩; obtain ⟨hr1, c1, hb1⟩ := HA.out _ hb; obtain ⟨cp, c2⟩ := hr1.sl; have c3 := hr1.st x hx; have HB1 := veil hb1; clear hb hb1 hr1)
  go_quiet (fail)
  go_wp2
  go_ret2
  exact ⟨rfl, below_drewN HB1.out _⟩
end

/-- Which state may follow which. -/
def fol (i j : Nat) : Bool := (i == 1 && j == 2) || (i == 2 && (j == 1 || j == 3 || j == 4)) || ((i == 3 || i == 4) && j == 1)
def mayB (a b : Int) : Bool := decide (0 ≤ a) && decide (a ≤ 4) && decide (0 ≤ b) && decide (b ≤ 4) && fol a.toNat b.toNat
/-- The program's table of that. -/
def Tab (w : World) : Prop := ∀ i j, i < 5 → j < 5 → w.cell? ⟨0, i * 5 + j, none⟩ = some (.bool (fol i j))
theorem Tab.pos {w : World} (h : Tab w) : 0 < w.heap.size := World.block_lt_of_cell? w _ (h 0 0 (by omega) (by omega))
theorem Tab.frame {w w' : World} {X : Nat → Prop} (h : Tab w) (hf : Fr X w w') (h0 : ¬ X 0) : Tab w' := fun i j hi hj => (hf.cell (a := ⟨0, i * 5 + j, none⟩) h.pos h0).trans (h i j hi hj)
theorem Tab.below {w w' : World} (h : Tab w) (hf : Below w.heap.size w w') : Tab w' := fun i j hi hj => (hf.cell (p := ⟨0, i * 5 + j, none⟩) h.pos).trans (h i j hi hj)
section
variable {w : World} {b g n : Nat} {G S : Nat → Nat}
end
end Go.Proofs.Ytfhnepoegdhjmaa
