/-
  The walks of a heap's own calls: New, may, before, join.
-/
import Derived.Test.YtbefehoegmmgpaaP1
import Derived.Deep.RegionHeld3
import Derived.Deep.DrawnRows
import Derived.Lib.SmallJoins
namespace Go.Proofs.Ytbefehoegmmgpaa.Ph
open Go.RowKit
attribute [local go_sem ↓] Go.wp_at_zero Go.wp_at_succ

def nodeZero : Value := .agg #[.int .u64 0, .int .u64 0, .int .i64 0, .int .i64 0, .int .i64 0, .int .i64 0, .bool false]
def nodeCells (n : Nat) : Array Value := madeCells nodeZero.cells ((n + 1) * 7)
theorem cell_new (w : World) (c : Array Value) (t : TypeId) (i : Nat) : (w.alloc (.cells c t)).cell? ⟨w.heap.size, i, none⟩ = c[i]? := by
  unfold World.cell?
  simp only [(MapKept.heap_alloc w (.cells c t)).1]
  rfl
theorem frozen_new (w : World) (c : Array Value) (t : TypeId) (i : Nat) : (w.alloc (.cells c t)).frozen? ⟨w.heap.size, i, none⟩ = false := by
  unfold World.frozen?
  simp only [(MapKept.heap_alloc w (.cells c t)).1]
  simp
theorem node_at (n k : Nat) (h : k < (n + 1) * 7) : (nodeCells n)[k]? = some ((#[Value.int .u64 0, .int .u64 0, .int .i64 0, .int .i64 0, .int .i64 0, .int .i64 0, .bool false] : Array Value)[k % 7]!) := by
  unfold nodeCells madeCells nodeZero
  simp [Value.cells, h]
theorem infoNode : (Try.prog.info? 105).map (fun i => (i.zero, i.size, i.bytes)) = some (some nodeZero, 7, 56) := by kernel_rfl

theorem new_rep (w : World) (n : Nat) :
    Rep ((w.alloc (.cells (nodeCells n) 105)).alloc (.cells #[.slice (some ⟨w.heap.size, 0, none⟩) (n + 1) (n + 1), .int .i64 0, .int .i64 0] 91)) (w.heap.size + 1) w.heap.size n 0 0 (fun _ => 0) (fun _ => 0) (fun _ => 0) (fun _ => 0) (fun _ => 0) (fun _ => 0) (fun _ => false) := by
  have e : w.heap.size + 1 = (w.alloc (.cells (nodeCells n) 105)).heap.size := by simp
  have hb : ∀ i, ((w.alloc (.cells (nodeCells n) 105)).alloc (.cells #[.slice (some ⟨w.heap.size, 0, none⟩) (n + 1) (n + 1), .int .i64 0, .int .i64 0] 91)).cell? ⟨w.heap.size + 1, i, none⟩ = (#[.slice (some ⟨w.heap.size, 0, none⟩) (n + 1) (n + 1), .int .i64 0, .int .i64 0] : Array Value)[i]? := by
    intro i
    rw [e]; exact cell_new _ _ _ _
  have hg : ∀ i, ((w.alloc (.cells (nodeCells n) 105)).alloc (.cells #[.slice (some ⟨w.heap.size, 0, none⟩) (n + 1) (n + 1), .int .i64 0, .int .i64 0] 91)).cell? ⟨w.heap.size, i, none⟩ = (nodeCells n)[i]? := by
    intro i
    rw [← cell_new w (nodeCells n) 105 i]
    simp only [World.cell?]
    rw [Below.heap_alloc _ _ _ (by simp)]
  have fg : ∀ i, ((w.alloc (.cells (nodeCells n) 105)).alloc (.cells #[.slice (some ⟨w.heap.size, 0, none⟩) (n + 1) (n + 1), .int .i64 0, .int .i64 0] 91)).frozen? ⟨w.heap.size, i, none⟩ = false := by
    intro i
    rw [← frozen_new w (nodeCells n) 105 i]
    simp only [World.frozen?]
    rw [Below.heap_alloc _ _ _ (by simp)]
  refine ⟨by omega, ⟨n + 1, by rw [hb]; rfl⟩, by rw [hb]; rfl, by rw [hb]; rfl, fun x hx => ?_, fun x hx => ?_, fun x hx => ?_, fun x hx => ?_, fun x hx => ?_, fun x hx => ?_, fun x hx => ?_, fun o => by rw [e]; exact frozen_new _ _ _ _, fg⟩
  · rw [hg, node_at n _ (by omega), show x * 7 % 7 = 0 by omega]; rfl
  · rw [hg, node_at n _ (by omega), show (x * 7 + 1) % 7 = 1 by omega]; rfl
  · rw [hg, node_at n _ (by omega), show (x * 7 + 2) % 7 = 2 by omega]; rfl
  · rw [hg, node_at n _ (by omega), show (x * 7 + 3) % 7 = 3 by omega]; rfl
  · rw [hg, node_at n _ (by omega), show (x * 7 + 4) % 7 = 4 by omega]; rfl
  · rw [hg, node_at n _ (by omega), show (x * 7 + 5) % 7 = 5 by omega]; rfl
  · rw [hg, node_at n _ (by omega), show (x * 7 + 6) % 7 = 6 by omega]; rfl

set_option maxHeartbeats 1000000 in
theorem new_ok (n : Nat) (w : World) (h1 : 1 ≤ n) (h2 : n ≤ 1024) :
    Calls Try.prog 53 #[.int .i64 n] w fun e w' => e = .returned (.pointer (some ⟨w.heap.size + 1, 0, none⟩)) ∧ Rep w' (w.heap.size + 1) w.heap.size n 0 0 (fun _ => 0) (fun _ => 0) (fun _ => 0) (fun _ => 0) (fun _ => 0) (fun _ => 0) (fun _ => false) ∧ Below w.heap.size w w' := by
  obtain ⟨i0, hi, hz0, hz1, hz2⟩ := info_parts infoNode
  have hmk : ∀ w, (Instr.makeSlice 89 (.int .i64 ((n : Int) + 1)) (.int .i64 ((n : Int) + 1))).run Try.prog w = .ok (.slice (some ⟨w.heap.size, 0, none⟩) (n + 1) (n + 1)) (w.alloc (.cells (nodeCells n) 105)) := by
    intro w
    have := run_make w 89 105 i0 nodeZero Try.underlying89 hi hz0 .i64 .i64 ((n : Int) + 1) ((n : Int) + 1) (by omega) (by omega) (by rw [hz2]; omega) (by omega)
    rw [hz1, show ((n : Int) + 1).toNat = n + 1 by omega] at this
    exact this
  have HR := veil (new_rep w n)
  clear hi hz0 hz1 hz2
  go_enter Try.func53, Try.ntmps53
  go_wp2
  go_ret
  exact ⟨rfl, HR.out, ((Below.refl _ _).alloc (Nat.le_refl _) _).alloc (by simp) _⟩
theorem new_not (n : Int) (w : World) (h : n < 1 ∨ 1024 < n) :
    Calls Try.prog 53 #[.int .i64 n] w fun e w' => e = .returned (.pointer none) ∧ w' = w := by
  by_cases h1 : n < 1
  · go_enter Try.func53, Try.ntmps53
    go_wp2
    go_ret
    exact ⟨rfl, rfl⟩
  · have h2 : 1024 < n := by omega
    go_enter Try.func53, Try.ntmps53
    go_wp2
    go_ret
    exact ⟨rfl, rfl⟩

/-- Which of two is ahead: by deadlines, then by numbers, then by ids. -/
def bef (d1 s1 i1 d2 s2 i2 : Nat) : Bool := if d1 = d2 then (if s1 = s2 then decide (i1 < i2) else decide (s1 < s2)) else decide (d1 < d2)

set_option maxHeartbeats 1000000 in
theorem before_ok (d1 s1 i1 d2 s2 i2 : Nat) (w : World) :
    Calls Try.prog 83 #[.agg #[.int .u64 d1, .int .u64 s1, .int .i64 i1], .agg #[.int .u64 d2, .int .u64 s2, .int .i64 i2]] w fun e w' => e = .returned (.bool (bef d1 s1 i1 d2 s2 i2)) ∧ Below w.heap.size w w' := by
  generalize hb : bef d1 s1 i1 d2 s2 i2 = bb
  unfold bef at hb
  by_cases h1 : d1 = d2
  · rw [if_pos h1] at hb
    by_cases h2 : s1 = s2
    · rw [if_pos h2] at hb
      subst h1 h2
      go_enter Try.func83, Try.ntmps83
      go_wp2
      go_ret
      exact ⟨by rw [← hb]; simp, ((Below.refl _ _).alloc (Nat.le_refl _) _).alloc (by simp) _⟩
    · rw [if_neg h2] at hb
      have h2' : ¬ (s1 : Int) = (s2 : Int) := by omega
      subst h1
      go_enter Try.func83, Try.ntmps83
      go_wp2
      go_ret
      exact ⟨by rw [← hb]; simp, ((Below.refl _ _).alloc (Nat.le_refl _) _).alloc (by simp) _⟩
  · rw [if_neg h1] at hb
    have h1' : ¬ (d1 : Int) = (d2 : Int) := by omega
    go_enter Try.func83, Try.ntmps83
    go_wp2
    go_ret
    exact ⟨by rw [← hb]; simp, ((Below.refl _ _).alloc (Nat.le_refl _) _).alloc (by simp) _⟩
end Go.Proofs.Ytbefehoegmmgpaa.Ph
