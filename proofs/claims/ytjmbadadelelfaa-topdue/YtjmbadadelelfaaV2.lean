/-
  The walks of a wheel's own calls: New, turn, may.
-/
import Derived.Test.YtjmbadadelelfaaV1
import Derived.Deep.RegionHeld3
import Derived.Deep.DrawnRows
import Derived.Lib.SmallJoins
import Derived.Maps.Own
namespace Go.Proofs.Ytjmbadadelelfaa
open Go.RowKit
attribute [local go_sem ↓] Go.wp_at_zero Go.wp_at_succ

def entryZero : Value := .agg #[.int .i64 0, .int .i64 0, .int .u64 0, .bool false]
def entryCells (n : Nat) : Array Value := madeCells entryZero.cells ((n + 1) * 4)
theorem infoEntry : (Try.prog.info? 78).map (fun i => (i.zero, i.size, i.bytes)) = some (some entryZero, 4, 32) := by kernel_rfl
def zeroCells : Array Value := #[.int .u64 0] ++ (Array.replicate 128 (.int .i64 0) ++ #[.map none, .slice none 0 0, .int .i64 0])
theorem zero_size : zeroCells.size = 132 := by unfold zeroCells; simp
theorem zeroWh (w : World) : (zeroValue 74).run Try.prog w = .ok (.agg zeroCells) w := by kernel_rfl

theorem cell_new (w : World) (c : Array Value) (t : TypeId) (i : Nat) : (w.alloc (.cells c t)).cell? ⟨w.heap.size, i, none⟩ = c[i]? := by
  unfold World.cell?
  simp only [(MapKept.heap_alloc w (.cells c t)).1]
  rfl
theorem frozen_new (w : World) (c : Array Value) (t : TypeId) (i : Nat) : (w.alloc (.cells c t)).frozen? ⟨w.heap.size, i, none⟩ = false := by
  unfold World.frozen?
  simp only [(MapKept.heap_alloc w (.cells c t)).1]
  simp
theorem entry_at (n k : Nat) (h : k < (n + 1) * 4) : (entryCells n)[k]? = some ((#[Value.int .i64 0, .int .i64 0, .int .u64 0, .bool false] : Array Value)[k % 4]!) := by
  unfold entryCells madeCells entryZero
  simp [Value.cells, h]
def wheelCells (r g n : Nat) : Array Value := (zeroCells.setIfInBounds 129 (.map (some r))).setIfInBounds 130 (.slice (some ⟨g, 0, none⟩) (n + 1) (n + 1))
theorem wheel_lo (r g n i : Nat) (h1 : 1 ≤ i) (h2 : i ≤ 128) : (wheelCells r g n)[i]? = some (.int .i64 0) := by
  unfold wheelCells
  rw [Array.getElem?_setIfInBounds_ne (by omega), Array.getElem?_setIfInBounds_ne (by omega)]
  unfold zeroCells
  rw [Array.getElem?_append_right (by simp; omega), Array.getElem?_append_left (by simp; omega)]
  have hi : i - 1 < 128 := by omega
  simp [hi]
theorem wheel_0 (r g n : Nat) : (wheelCells r g n)[0]? = some (.int .u64 0) := by
  unfold wheelCells
  rw [Array.getElem?_setIfInBounds_ne (by omega), Array.getElem?_setIfInBounds_ne (by omega)]
  unfold zeroCells
  rw [Array.getElem?_append_left (by simp)]
  rfl
theorem wheel_129 (r g n : Nat) : (wheelCells r g n)[129]? = some (.map (some r)) := by
  unfold wheelCells
  rw [Array.getElem?_setIfInBounds_ne (by omega), Array.getElem?_setIfInBounds_self_of_lt (by rw [zero_size]; omega)]
theorem wheel_130 (r g n : Nat) : (wheelCells r g n)[130]? = some (.slice (some ⟨g, 0, none⟩) (n + 1) (n + 1)) := by
  unfold wheelCells
  rw [Array.getElem?_setIfInBounds_self_of_lt (by rw [Array.size_setIfInBounds, zero_size]; omega)]
theorem wheel_131 (r g n : Nat) : (wheelCells r g n)[131]? = some (.int .i64 0) := by
  unfold wheelCells
  rw [Array.getElem?_setIfInBounds_ne (by omega), Array.getElem?_setIfInBounds_ne (by omega)]
  unfold zeroCells
  rw [Array.getElem?_append_right (by simp), Array.getElem?_append_right (by simp)]
  simp
theorem new_rep (w : World) (n : Nat) :
    Rep (((w.alloc (.map #[] 0)).alloc (.cells (entryCells n) 78)).alloc (.cells (wheelCells w.heap.size (w.heap.size + 1) n) 74)) (w.heap.size + 1 + 1) (w.heap.size + 1) n 0 0 (.map (some w.heap.size)) (fun _ => 0) (fun _ => 0) (fun _ => 0) (fun _ => 0) (fun _ => 0) (fun _ => false) := by
  have e1 : w.heap.size + 1 = (w.alloc (.map #[] 0)).heap.size := by simp
  have e2 : w.heap.size + 1 + 1 = ((w.alloc (.map #[] 0)).alloc (.cells (entryCells n) 78)).heap.size := by simp
  have hb : ∀ i, (((w.alloc (.map #[] 0)).alloc (.cells (entryCells n) 78)).alloc (.cells (wheelCells w.heap.size (w.heap.size + 1) n) 74)).cell? ⟨w.heap.size + 1 + 1, i, none⟩ = (wheelCells w.heap.size (w.heap.size + 1) n)[i]? := by
    intro i
    rw [e2]; exact cell_new _ _ _ _
  have hg : ∀ i, (((w.alloc (.map #[] 0)).alloc (.cells (entryCells n) 78)).alloc (.cells (wheelCells w.heap.size (w.heap.size + 1) n) 74)).cell? ⟨w.heap.size + 1, i, none⟩ = (entryCells n)[i]? := by
    intro i
    rw [World.cell?_alloc_lt _ _ _ (by simp)]
    have := cell_new (w.alloc (.map #[] 0)) (entryCells n) 78 i
    rw [← e1] at this
    exact this
  have fb : ∀ i, (((w.alloc (.map #[] 0)).alloc (.cells (entryCells n) 78)).alloc (.cells (wheelCells w.heap.size (w.heap.size + 1) n) 74)).frozen? ⟨w.heap.size + 1 + 1, i, none⟩ = false := by
    intro i
    rw [e2]; exact frozen_new _ _ _ _
  have fg : ∀ i, (((w.alloc (.map #[] 0)).alloc (.cells (entryCells n) 78)).alloc (.cells (wheelCells w.heap.size (w.heap.size + 1) n) 74)).frozen? ⟨w.heap.size + 1, i, none⟩ = false := by
    intro i
    rw [World.frozen?_alloc_past _ _ _ (by simp)]
    have := frozen_new (w.alloc (.map #[] 0)) (entryCells n) 78 i
    rw [← e1] at this
    exact this
  refine ⟨by omega, ⟨n + 1, by rw [hb]; exact wheel_130 _ _ _⟩, by rw [hb]; exact wheel_0 _ _ _, by rw [hb]; exact wheel_129 _ _ _, by rw [hb]; exact wheel_131 _ _ _, fun x hx => ?_, fun x hx => ?_, fun x hx => ?_, fun x hx => ?_, fun x hx => ?_, fun x hx => ?_, fb, fg⟩
  · rw [hb, wheel_lo _ _ _ _ (by omega) (by omega)]; rfl
  · rw [hb, wheel_lo _ _ _ _ (by omega) (by omega)]; rfl
  · rw [hg, entry_at n _ (by omega), show x * 4 % 4 = 0 by omega]; rfl
  · rw [hg, entry_at n _ (by omega), show (x * 4 + 1) % 4 = 1 by omega]; rfl
  · rw [hg, entry_at n _ (by omega), show (x * 4 + 2) % 4 = 2 by omega]; rfl
  · rw [hg, entry_at n _ (by omega), show (x * 4 + 3) % 4 = 3 by omega]; rfl

set_option maxHeartbeats 2000000 in
set_option maxRecDepth 100000 in
theorem new_ok (n : Nat) (w : World) (h1 : 1 ≤ n) (h2 : n ≤ 1024) :
    Calls Try.prog 25 #[.int .i64 n] w fun e w' => e = .returned (.pointer (some ⟨w.heap.size + 1 + 1, 0, none⟩)) ∧ Rep w' (w.heap.size + 1 + 1) (w.heap.size + 1) n 0 0 (.map (some w.heap.size)) (fun _ => 0) (fun _ => 0) (fun _ => 0) (fun _ => 0) (fun _ => 0) (fun _ => false) ∧ Below w.heap.size w w' := by
  obtain ⟨i0, hi, hz0, hz1, hz2⟩ := info_parts infoEntry
  have hmk : ∀ w, (Instr.makeSlice 72 (.int .i64 ((n : Int) + 1)) (.int .i64 ((n : Int) + 1))).run Try.prog w = .ok (.slice (some ⟨w.heap.size, 0, none⟩) (n + 1) (n + 1)) (w.alloc (.cells (entryCells n) 78)) := by
    intro w
    have := run_make w 72 78 i0 entryZero Try.underlying72 hi hz0 .i64 .i64 ((n : Int) + 1) ((n : Int) + 1) (by omega) (by omega) (by rw [hz2]; omega) (by omega)
    rw [hz1, show ((n : Int) + 1).toNat = n + 1 by omega] at this
    exact this
  have HR := veil (new_rep w n)
  have hzw := zeroWh
  have hzs := zero_size
  have hmm := @run_makeMap Try.prog
  clear hi hz0 hz1 hz2
  go_enter Try.func25, Try.ntmps25
  go_wp2
  go_ret
  exact ⟨rfl, HR.out, (((Below.refl _ _).alloc (Nat.le_refl _) _).alloc (by simp) _).alloc (by simp; omega) _⟩
theorem new_not (n : Int) (w : World) (h : n < 1 ∨ 1024 < n) :
    Calls Try.prog 25 #[.int .i64 n] w fun e w' => e = .returned (.pointer none) ∧ w' = w := by
  by_cases h1 : n < 1
  · go_enter Try.func25, Try.ntmps25
    go_wp2
    go_ret
    exact ⟨rfl, rfl⟩
  · have h2 : 1024 < n := by omega
    go_enter Try.func25, Try.ntmps25
    go_wp2
    go_ret
    exact ⟨rfl, rfl⟩
theorem turn_ok (t : Nat) (ht : t < 18446744073709551616) (w : World) :
    Calls Try.prog 41 #[.int .u64 (t : Int)] w fun e w' => e = .returned (.int .u64 ((t / 64 : Nat) : Int)) ∧ w' = w := by
  have hw : IntKind.u64.wrap ((t : Int) / 64) = ((t / 64 : Nat) : Int) := by rw [IntKind.wrap_u64]; omega
  go_enter Try.func41, Try.ntmps41
  go_wp2
  go_ret
  exact ⟨by simp, rfl⟩
section
variable {w : World} {b g n nw ct : Nat} {fm : Value} {F L A B E : Nat → Nat} {T : Nat → Bool}
theorem may_yes (h : Rep w b g n nw ct fm F L A B E T) (id : Nat) (hn : n ≤ 1024) (hid : id < n) :
    Calls Try.prog 43 #[.pointer (some ⟨b, 0, none⟩), .int .i64 id] w fun e w' => e = .returned (.bool true) ∧ w' = w := by
  obtain ⟨cp, e0⟩ := h.en
  clear h
  go_enter Try.func43, Try.ntmps43
  go_wp2
  go_ret
  exact ⟨by simp, rfl⟩
theorem len_walk (h : Rep w b g n nw ct fm F L A B E T) :
    Calls Try.prog 15 #[.pointer (some ⟨b, 0, none⟩)] w fun e w' => e = .returned (.int .i64 (ct : Int)) ∧ w' = w := by
  have e2 := h.tc
  clear h
  go_enter Try.func15, Try.ntmps15
  go_wp2
  go_ret
  exact ⟨rfl, rfl⟩
theorem now_walk (h : Rep w b g n nw ct fm F L A B E T) :
    Calls Try.prog 18 #[.pointer (some ⟨b, 0, none⟩)] w fun e w' => e = .returned (.int .u64 (nw : Int)) ∧ w' = w := by
  have e2 := h.tn
  clear h
  go_enter Try.func18, Try.ntmps18
  go_wp2
  go_ret
  exact ⟨rfl, rfl⟩
end
end Go.Proofs.Ytjmbadadelelfaa
