/-
  The walks of New, Push, Mask, Len, Top and Pop over ids and levels.
-/
import Derived.Test.YtbefehoegmmgpaaQ6
import Derived.Test.YtbefehoegmmgpaaW8
import Derived.Laws.MakeOwn
import Derived.OwnWalk
namespace Go.Proofs.Ytbefehoegmmgpaa.Bq
open Go.RowKit Go.Lib

/-! A new queue. -/
def linkZero : Value := .agg #[.int .i64 0, .int .i64 0, .int .u8 0, .bool false]
def linkCells (n : Nat) : Array Value := madeCells linkZero.cells ((n + 1) * 4)
def zeroCells : Array Value := Array.replicate 512 (.int .i64 0) ++ (Array.replicate 4 (.int .u64 0) ++ #[.slice none 0 0, .int .i64 0])
def queueCells (g n : Nat) : Array Value := zeroCells.setIfInBounds 516 (.slice (some ⟨g, 0, none⟩) (n + 1) (n + 1))
theorem zero_size : zeroCells.size = 518 := by unfold zeroCells; simp

theorem cell_new (w : World) (c : Array Value) (t : TypeId) (i : Nat) : (w.alloc (.cells c t)).cell? ⟨w.heap.size, i, none⟩ = c[i]? := by
  unfold World.cell?
  simp only [(MapKept.heap_alloc w (.cells c t)).1]
  rfl
theorem frozen_new (w : World) (c : Array Value) (t : TypeId) (i : Nat) : (w.alloc (.cells c t)).frozen? ⟨w.heap.size, i, none⟩ = false := by
  unfold World.frozen?
  simp only [(MapKept.heap_alloc w (.cells c t)).1]
  simp
theorem link_at (n k : Nat) (h : k < (n + 1) * 4) : (linkCells n)[k]? = some ((#[Value.int .i64 0, .int .i64 0, .int .u8 0, .bool false] : Array Value)[k % 4]!) := by
  unfold linkCells madeCells linkZero
  simp [Value.cells, h]
theorem queue_lo (g n i : Nat) (h : i < 512) : (queueCells g n)[i]? = some (.int .i64 0) := by
  unfold queueCells
  rw [Array.getElem?_setIfInBounds_ne (by omega)]
  unfold zeroCells
  rw [Array.getElem?_append_left (by simpa using h)]
  simp [h]
theorem queue_mid (g n i : Nat) (h : i < 4) : (queueCells g n)[512 + i]? = some (.int .u64 0) := by
  unfold queueCells
  rw [Array.getElem?_setIfInBounds_ne (by omega)]
  unfold zeroCells
  rw [Array.getElem?_append_right (by simp)]
  simp only [Array.size_replicate, Nat.add_sub_cancel_left]
  rw [Array.getElem?_append_left (by simpa using h)]
  simp [h]
theorem queue_hi (g n : Nat) : (queueCells g n)[516]? = some (.slice (some ⟨g, 0, none⟩) (n + 1) (n + 1)) ∧ (queueCells g n)[517]? = some (.int .i64 0) := by
  unfold queueCells
  constructor
  · rw [Array.getElem?_setIfInBounds_self_of_lt (by rw [zero_size]; omega)]
  · rw [Array.getElem?_setIfInBounds_ne (by omega)]
    unfold zeroCells
    rw [Array.getElem?_append_right (by simp)]
    simp only [Array.size_replicate]
    rw [Array.getElem?_append_right (by simp)]
    simp

theorem infoLink : (Try.prog.info? 100).map (fun i => (i.zero, i.size, i.bytes)) = some (some linkZero, 4, 24) := by kernel_rfl
theorem zeroQ (w : World) : (zeroValue 88).run Try.prog w = .ok (.agg zeroCells) w := by kernel_rfl

theorem new_rep (w : World) (n : Nat) :
    Rep ((w.alloc (.cells (linkCells n) 100)).alloc (.cells (queueCells w.heap.size n) 88)) (w.heap.size + 1) w.heap.size n (fun _ => 0) (fun _ => 0) (fun _ => ((0 : Nat) : Int)) 0 (fun _ => 0) (fun _ => 0) (fun _ => 0) (fun _ => false) := by
  have hb : ∀ i, ((w.alloc (.cells (linkCells n) 100)).alloc (.cells (queueCells w.heap.size n) 88)).cell? ⟨w.heap.size + 1, i, none⟩ = (queueCells w.heap.size n)[i]? := by
    intro i
    have e : w.heap.size + 1 = (w.alloc (.cells (linkCells n) 100)).heap.size := by simp
    rw [e]; exact cell_new _ _ _ _
  have hg : ∀ i, ((w.alloc (.cells (linkCells n) 100)).alloc (.cells (queueCells w.heap.size n) 88)).cell? ⟨w.heap.size, i, none⟩ = (linkCells n)[i]? := by
    intro i
    rw [← cell_new w (linkCells n) 100 i]
    simp only [World.cell?]
    rw [Below.heap_alloc _ _ _ (by simp)]
  have fb : ∀ i, ((w.alloc (.cells (linkCells n) 100)).alloc (.cells (queueCells w.heap.size n) 88)).frozen? ⟨w.heap.size + 1, i, none⟩ = false := by
    intro i
    have e : w.heap.size + 1 = (w.alloc (.cells (linkCells n) 100)).heap.size := by simp
    rw [e]; exact frozen_new _ _ _ _
  have fg : ∀ i, ((w.alloc (.cells (linkCells n) 100)).alloc (.cells (queueCells w.heap.size n) 88)).frozen? ⟨w.heap.size, i, none⟩ = false := by
    intro i
    rw [← frozen_new w (linkCells n) 100 i]
    simp only [World.frozen?]
    rw [Below.heap_alloc _ _ _ (by simp)]
  refine ⟨by omega, fun i hi => ?_, fun i hi => ?_, fun i hi => ?_, ?_, ?_, fun s hs => ?_, fun s hs => ?_, fun s hs => ?_, fun s hs => ?_, fb, fg⟩
  · rw [hb, queue_lo _ _ _ (by omega)]; rfl
  · rw [hb, queue_lo _ _ _ (by omega)]; rfl
  · rw [hb, queue_mid _ _ _ hi]; rfl
  · exact ⟨n + 1, by rw [hb]; exact (queue_hi _ _).1⟩
  · rw [hb]; exact (queue_hi _ _).2
  · rw [hg, link_at n _ (by omega), show s * 4 % 4 = 0 by omega]; rfl
  · rw [hg, link_at n _ (by omega), show (s * 4 + 1) % 4 = 1 by omega]; rfl
  · rw [hg, link_at n _ (by omega), show (s * 4 + 2) % 4 = 2 by omega]; rfl
  · rw [hg, link_at n _ (by omega), show (s * 4 + 3) % 4 = 3 by omega]; rfl
theorem new_inv (n : Nat) : Inv n (fun _ => 0) (fun _ => 0) (fun _ => 0) 0 (fun _ => 0) (fun _ => 0) (fun _ => 0) (fun _ => false) [] where
  ids := by simp
  rng := by simp
  there := by simp
  lev := by simp
  nolev := by simp
  ch := fun _ _ => trivial
  hd := fun _ _ => rfl
  tl := fun _ _ => rfl
  bit := fun _ _ => by simp [QL]
  mlt := fun _ _ => by decide
  cnt := rfl

set_option maxHeartbeats 1000000 in
set_option maxRecDepth 100000 in
theorem new_ok (n : Nat) (w : World) (h1 : 1 ≤ n) (h2 : n ≤ 1024) :
    Calls Try.prog 52 #[.int .i64 n] w fun e w' => e = .returned (.pointer (some ⟨w.heap.size + 1, 0, none⟩)) ∧ IsQ w' (w.heap.size + 1) w.heap.size n [] ∧ Below w.heap.size w w' := by
  obtain ⟨i0, hi, hz0, hz1, hz2⟩ := info_parts infoLink
  have hmk : ∀ w, (Instr.makeSlice 86 (.int .i64 ((n : Int) + 1)) (.int .i64 ((n : Int) + 1))).run Try.prog w = .ok (.slice (some ⟨w.heap.size, 0, none⟩) (n + 1) (n + 1)) (w.alloc (.cells (linkCells n) 100)) := by
    intro w
    have := run_make w 86 100 i0 linkZero Try.underlying86 hi hz0 .i64 .i64 ((n : Int) + 1) ((n : Int) + 1) (by omega) (by omega) (by rw [hz2]; omega) (by omega)
    rw [hz1, show ((n : Int) + 1).toNat = n + 1 by omega] at this
    exact this
  have hzq := zeroQ
  have hzs := zero_size
  have hr := new_rep w n
  have HR : Hid _ := hr
  clear hr hi hz0 hz1 hz2
  go_enter Try.func52, Try.ntmps52
  go_wp2
  go_ret
  refine ⟨rfl, ⟨h2, _, _, fun _ => 0, _, _, _, _, _, HR.out, new_inv n⟩, ?_⟩
  exact ((Below.refl _ _).alloc (Nat.le_refl _) _).alloc (by simp) _
end Go.Proofs.Ytbefehoegmmgpaa.Bq
