/-
  The walks of a table's own calls: New, has, Release, State.
-/
import Derived.Test.YtfhnepoegdhjmaaT1
namespace Go.Proofs.Ytfhnepoegdhjmaa
open Go.RowKit Go.Lib
attribute [local go_sem ↓] Go.wp_at_zero Go.wp_at_succ

def slotZero : Value := .agg #[.int .u32 0, .int .i64 0]
def slotCells (n : Nat) : Array Value := madeCells slotZero.cells (n * 2)
theorem slot_at (n k : Nat) (h : k < n * 2) : (slotCells n)[k]? = some ((#[Value.int .u32 0, .int .i64 0] : Array Value)[k % 2]!) := by
  unfold slotCells madeCells slotZero
  simp [Value.cells, h]
theorem infoSlot : (Try.prog.info? 46).map (fun i => (i.zero, i.size, i.bytes)) = some (some slotZero, 2, 16) := by kernel_rfl

theorem new_rep (w : World) (n : Nat) (h1 : 1 ≤ n) (h2 : n ≤ 1024) :
    Rep ((w.alloc (.cells (slotCells n) 46)).alloc (.cells #[.slice (some ⟨w.heap.size, 0, none⟩) n n] 43)) (w.heap.size + 1) w.heap.size n (fun _ => 0) (fun _ => 0) := by
  have e : w.heap.size + 1 = (w.alloc (.cells (slotCells n) 46)).heap.size := by simp
  have hg : ∀ i, ((w.alloc (.cells (slotCells n) 46)).alloc (.cells #[.slice (some ⟨w.heap.size, 0, none⟩) n n] 43)).cell? ⟨w.heap.size, i, none⟩ = (slotCells n)[i]? := by
    intro i
    rw [← cell_new w (slotCells n) 46 i]
    simp only [World.cell?]
    rw [Below.heap_alloc _ _ _ (by simp)]
  refine ⟨h1, h2, by omega, ⟨n, by rw [e, cell_new]; rfl⟩, fun x hx => ?_, fun x hx => ?_, fun i => ?_⟩
  · rw [hg, slot_at n _ (by omega), show x * 2 % 2 = 0 by omega]; rfl
  · rw [hg, slot_at n _ (by omega), show (x * 2 + 1) % 2 = 1 by omega]; rfl
  · rw [← frozen_new w (slotCells n) 46 i]
    simp only [World.frozen?]
    rw [Below.heap_alloc _ _ _ (by simp)]

set_option maxHeartbeats 1000000 in
theorem new_ok (n : Nat) (w : World) (h1 : 1 ≤ n) (h2 : n ≤ 1024) :
    Calls Try.prog 4 #[.int .i64 n] w fun e w' => e = .returned (.pointer (some ⟨w.heap.size + 1, 0, none⟩)) ∧ Rep w' (w.heap.size + 1) w.heap.size n (fun _ => 0) (fun _ => 0) ∧ Below w.heap.size w w' := by
  obtain ⟨i0, hi, hz0, hz1, hz2⟩ := info_parts infoSlot
  have hmk : ∀ w, (Instr.makeSlice 41 (.int .i64 (n : Int)) (.int .i64 (n : Int))).run Try.prog w = .ok (.slice (some ⟨w.heap.size, 0, none⟩) n n) (w.alloc (.cells (slotCells n) 46)) := by
    intro w
    have := run_make w 41 46 i0 slotZero Try.underlying41 hi hz0 .i64 .i64 (n : Int) (n : Int) (by omega) (by omega) (by rw [hz2]; omega) (by omega)
    rw [hz1, show (n : Int).toNat = n by omega] at this
    exact this
  have HR := veil (new_rep w n h1 h2)
  clear hi hz0 hz1 hz2
  go_enter Try.func4, Try.ntmps4
  go_wp2
  go_ret
  exact ⟨rfl, HR.out, ((Below.refl _ _).alloc (Nat.le_refl _) _).alloc (by simp) _⟩
theorem new_not (n : Int) (w : World) (h : n < 1 ∨ 1024 < n) :
    Calls Try.prog 4 #[.int .i64 n] w fun e w' => e = .returned (.pointer none) ∧ w' = w := by
  by_cases h1 : n < 1
  · go_enter Try.func4, Try.ntmps4
    go_wp2
    go_ret
    exact ⟨rfl, rfl⟩
  · have h2 : 1024 < n := by omega
    go_enter Try.func4, Try.ntmps4
    go_wp2
    go_ret
    exact ⟨rfl, rfl⟩

section
variable {w : World} {b g n : Nat} {G S : Nat → Nat}
set_option maxHeartbeats 2000000 in
theorem has_ok (h : Rep w b g n G S) (p : Int) (q : Nat) :
    Calls Try.prog 10 #[.pointer (some ⟨b, 0, none⟩), .agg #[.int .i64 p, .int .u32 (q : Int)]] w fun e w' => e = .returned (.bool (hasB n G S p q)) ∧ Below w.heap.size w w' := by
  obtain ⟨cp, e0⟩ := h.sl
  have hn2 := h.n2
  have hbb := h.lt_b
  have hgg := h.lt_g
  have y1 : ¬ b = w.heap.size := by omega
  have y2 : ¬ g = w.heap.size := by omega
  by_cases h0 : p < 0
  · have hr : hasB n G S p q = false := by unfold hasB; simp; omega
    rw [hr]
    clear h
    go_enter Try.func10, Try.ntmps10
    go_wp2
    go_quiet (fail)
    go_wp2
    go_ret
    exact ⟨rfl, below_drewN ((Below.refl _ _).alloc (Nat.le_refl _) _) _⟩
  · by_cases h1 : (n : Int) ≤ p
    · have hr : hasB n G S p q = false := by unfold hasB; simp; omega
      rw [hr]
      clear h
      go_enter Try.func10, Try.ntmps10
      go_wp2
      go_quiet (fail)
      go_wp2
      go_ret
      exact ⟨rfl, below_drewN ((Below.refl _ _).alloc (Nat.le_refl _) _) _⟩
    · obtain ⟨x, rfl⟩ := Int.eq_ofNat_of_zero_le (show 0 ≤ p by omega)
      have hx : x < n := by omega
      have e1 := h.gn x hx
      have e2 := h.st x hx
      have hr : hasB n G S x q = (decide (¬ (S x : Int) = 0) && decide ((G x : Int) = q)) := by
        unfold hasB
        have : (x : Int) < n := by omega
        simp only [Int.toNat_natCast]
        rw [decide_eq_true (show (0 : Int) ≤ x by omega), decide_eq_true this]
        simp only [Bool.true_and]
        congr 1
        · exact decide_eq_decide.2 (by omega)
        · exact decide_eq_decide.2 (by omega)
      rw [hr]
      clear h hr
      go_enter Try.func10, Try.ntmps10
      go_wp2
      go_quiet (fail)
      go_wp2
      go_region
      all_goals go_wp2
      all_goals go_ret
      · rename_i hz
        exact ⟨by simp [hz], (below_drewN ((Below.refl _ _).alloc (Nat.le_refl _) _) _).alloc (by simp) _⟩
      · exact ⟨by simp [bne, BEq.beq], (below_drewN ((Below.refl _ _).alloc (Nat.le_refl _) _) _).alloc (by simp) _⟩
end
end Go.Proofs.Ytfhnepoegdhjmaa
