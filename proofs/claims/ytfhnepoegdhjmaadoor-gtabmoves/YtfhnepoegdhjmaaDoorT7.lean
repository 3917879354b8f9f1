/-
  The document's table: how it lies in memory; New, has, May, Release, State, Move.
-/
import Derived.Test.YtfhnepoegdhjmaaDoorT6
namespace Go.Proofs.YtfhnepoegdhjmaaDoor
open Go.RowKit Go.Lib
set_option linter.unusedVariables false
attribute [local go_sem ↓] Go.wp_at_zero Go.wp_at_succ

/-- The document's table at block rb, its states at sb, its numbers at gb. -/
structure RefR (w : World) (rb sb gb n : Nat) (G S : Nat → Nat) : Prop where
  n1 : 1 ≤ n
  n2 : n ≤ 1024
  d1 : rb ≠ sb
  d2 : rb ≠ gb
  d3 : sb ≠ gb
  c0 : ∃ cp, w.cell? ⟨rb, 0, none⟩ = some (.slice (some ⟨sb, 0, none⟩) n cp)
  c1 : ∃ cp, w.cell? ⟨rb, 1, none⟩ = some (.slice (some ⟨gb, 0, none⟩) n cp)
  st : ∀ x, x < n → w.cell? ⟨sb, x, none⟩ = some (.int .i64 (S x : Int))
  gn : ∀ x, x < n → w.cell? ⟨gb, x, none⟩ = some (.int .u32 (G x : Int))
  fs : ∀ o, w.frozen? ⟨sb, o, none⟩ = false
  fg : ∀ o, w.frozen? ⟨gb, o, none⟩ = false
section
variable {w w' : World} {rb sb gb n : Nat} {G S : Nat → Nat}
theorem RefR.lt_r (h : RefR w rb sb gb n G S) : rb < w.heap.size := by obtain ⟨_, e⟩ := h.c0; exact World.block_lt_of_cell? w _ e
theorem RefR.lt_s (h : RefR w rb sb gb n G S) : sb < w.heap.size := World.block_lt_of_cell? w _ (h.st 0 h.n1)
theorem RefR.lt_g (h : RefR w rb sb gb n G S) : gb < w.heap.size := World.block_lt_of_cell? w _ (h.gn 0 h.n1)
theorem RefR.kept (h : RefR w rb sb gb n G S) (h1 : w'.heap[rb]? = w.heap[rb]?) (h2 : w'.heap[sb]? = w.heap[sb]?) (h3 : w'.heap[gb]? = w.heap[gb]?) : RefR w' rb sb gb n G S where
  n1 := h.n1
  n2 := h.n2
  d1 := h.d1
  d2 := h.d2
  d3 := h.d3
  c0 := h.c0.imp fun _ e => (World.cell?_of_block h1).trans e
  c1 := h.c1.imp fun _ e => (World.cell?_of_block h1).trans e
  st := fun x hx => (World.cell?_of_block h2).trans (h.st x hx)
  gn := fun x hx => (World.cell?_of_block h3).trans (h.gn x hx)
  fs := fun o => (World.frozen?_of_block h2).trans (h.fs o)
  fg := fun o => (World.frozen?_of_block h3).trans (h.fg o)
theorem RefR.frame {X : Nat → Prop} (h : RefR w rb sb gb n G S) (hf : Fr X w w') (h1 : ¬ X rb) (h2 : ¬ X sb) (h3 : ¬ X gb) : RefR w' rb sb gb n G S := h.kept (hf.block rb h.lt_r h1) (hf.block sb h.lt_s h2) (hf.block gb h.lt_g h3)
theorem RefR.below (h : RefR w rb sb gb n G S) (hf : Below w.heap.size w w') : RefR w' rb sb gb n G S := h.kept (hf.block rb h.lt_r) (hf.block sb h.lt_s) (hf.block gb h.lt_g)
theorem RefR.alloc (h : RefR w rb sb gb n G S) (o : Obj) : RefR (w.alloc o) rb sb gb n G S := h.below ((Below.refl _ _).alloc (Nat.le_refl _) _)
theorem RefR.like (h : RefR w rb sb gb n G S) (a : w'.heap = w.heap) : RefR w' rb sb gb n G S := h.kept (by rw [a]) (by rw [a]) (by rw [a])
theorem RefR.setS (h : RefR w rb sb gb n G S) (x : Nat) (hx : x < n) (v : Nat) : RefR (w.setCell ⟨sb, x, none⟩ (.int .i64 (v : Int))) rb sb gb n G (upd S x v) where
  n1 := h.n1
  n2 := h.n2
  d1 := h.d1
  d2 := h.d2
  d3 := h.d3
  c0 := h.c0.imp fun _ e => by rw [set_other _ _ _ _ _ _ (fun q => h.d1 q.1.symm)]; exact e
  c1 := h.c1.imp fun _ e => by rw [set_other _ _ _ _ _ _ (fun q => h.d1 q.1.symm)]; exact e
  st := fun y hy => by
    by_cases e : y = x
    · subst e; rw [upd_same]; exact set_same _ _ _ _ (h.st y hy)
    · rw [upd_other _ _ _ _ e, set_other _ _ _ _ _ _ (by omega)]; exact h.st y hy
  gn := fun y hy => by rw [set_other _ _ _ _ _ _ (fun q => h.d3 q.1)]; exact h.gn y hy
  fs := fun o => by rw [World.frozen?_setCell]; exact h.fs o
  fg := fun o => by rw [World.frozen?_setCell]; exact h.fg o
theorem RefR.setG (h : RefR w rb sb gb n G S) (x : Nat) (hx : x < n) (v : Nat) : RefR (w.setCell ⟨gb, x, none⟩ (.int .u32 (v : Int))) rb sb gb n (upd G x v) S where
  n1 := h.n1
  n2 := h.n2
  d1 := h.d1
  d2 := h.d2
  d3 := h.d3
  c0 := h.c0.imp fun _ e => by rw [set_other _ _ _ _ _ _ (fun q => h.d2 q.1.symm)]; exact e
  c1 := h.c1.imp fun _ e => by rw [set_other _ _ _ _ _ _ (fun q => h.d2 q.1.symm)]; exact e
  st := fun y hy => by rw [set_other _ _ _ _ _ _ (fun q => h.d3 q.1.symm)]; exact h.st y hy
  gn := fun y hy => by
    by_cases e : y = x
    · subst e; rw [upd_same]; exact set_same _ _ _ _ (h.gn y hy)
    · rw [upd_other _ _ _ _ e, set_other _ _ _ _ _ _ (by omega)]; exact h.gn y hy
  fs := fun o => by rw [World.frozen?_setCell]; exact h.fs o
  fg := fun o => by rw [World.frozen?_setCell]; exact h.fg o

theorem infoState : (Tryd.prog.info? 33).map (fun i => (i.zero, i.size, i.bytes)) = some (some (.int .i64 0), 1, 8) := by kernel_rfl
theorem infoGen : (Tryd.prog.info? 23).map (fun i => (i.zero, i.size, i.bytes)) = some (some (.int .u32 0), 1, 4) := by kernel_rfl
def zerosS (n : Nat) : Array Value := madeCells (Value.int .i64 0).cells (n * 1)
def zerosG (n : Nat) : Array Value := madeCells (Value.int .u32 0).cells (n * 1)
theorem zerosS_at (n k : Nat) (h : k < n) : (zerosS n)[k]? = some (.int .i64 0) := by
  unfold zerosS madeCells
  simp [Value.cells, h, Nat.mod_one]
theorem zerosG_at (n k : Nat) (h : k < n) : (zerosG n)[k]? = some (.int .u32 0) := by
  unfold zerosG madeCells
  simp [Value.cells, h, Nat.mod_one]
end
theorem three (w : World) (c1 c2 c3 : Array Value) (t1 t2 t3 : TypeId) : (∀ i, (((w.alloc (.cells c1 t1)).alloc (.cells c2 t2)).alloc (.cells c3 t3)).cell? ⟨w.heap.size, i, none⟩ = c1[i]?) ∧ (∀ i, (((w.alloc (.cells c1 t1)).alloc (.cells c2 t2)).alloc (.cells c3 t3)).cell? ⟨w.heap.size + 1, i, none⟩ = c2[i]?) ∧ (∀ i, (((w.alloc (.cells c1 t1)).alloc (.cells c2 t2)).alloc (.cells c3 t3)).cell? ⟨w.heap.size + 1 + 1, i, none⟩ = c3[i]?) ∧
    (∀ i, (((w.alloc (.cells c1 t1)).alloc (.cells c2 t2)).alloc (.cells c3 t3)).frozen? ⟨w.heap.size, i, none⟩ = false) ∧ (∀ i, (((w.alloc (.cells c1 t1)).alloc (.cells c2 t2)).alloc (.cells c3 t3)).frozen? ⟨w.heap.size + 1, i, none⟩ = false) := by
  have e1 : w.heap.size + 1 = (w.alloc (.cells c1 t1)).heap.size := by simp
  have e2 : w.heap.size + 1 + 1 = ((w.alloc (.cells c1 t1)).alloc (.cells c2 t2)).heap.size := by simp
  refine ⟨fun i => ?_, fun i => ?_, fun i => ?_, fun i => ?_, fun i => ?_⟩
  · rw [World.cell?_alloc_lt _ _ _ (by simp; omega), World.cell?_alloc_lt _ _ _ (by simp), cell_new]
  · rw [World.cell?_alloc_lt _ _ _ (by simp), e1, cell_new]
  · rw [e2, cell_new]
  · rw [World.frozen?_of_block (Below.heap_alloc _ _ _ (by simp; omega)), World.frozen?_of_block (Below.heap_alloc _ _ _ (by simp))]; exact frozen_new _ _ _ _
  · rw [World.frozen?_of_block (Below.heap_alloc _ _ _ (by simp)), e1]; exact frozen_new _ _ _ _

set_option maxHeartbeats 1000000 in
theorem rnew_ok (n : Nat) (w : World) (h1 : 1 ≤ n) (h2 : n ≤ 1024) :
    Calls Tryd.prog 26 #[.int .i64 n] w fun e w' => ∃ rb sb gb, e = .returned (.pointer (some ⟨rb, 0, none⟩)) ∧ w.heap.size ≤ rb ∧ w.heap.size ≤ sb ∧ w.heap.size ≤ gb ∧ RefR w' rb sb gb n (fun _ => 0) (fun _ => 0) ∧ Below w.heap.size w w' := by
  obtain ⟨i0, hi, hz0, hz1, hz2⟩ := info_parts infoState
  obtain ⟨j0, hj, hy0, hy1, hy2⟩ := info_parts infoGen
  have hmk : ∀ w, (Instr.makeSlice 71 (.int .i64 (n : Int)) (.int .i64 (n : Int))).run Tryd.prog w = .ok (.slice (some ⟨w.heap.size, 0, none⟩) n n) (w.alloc (.cells (zerosS n) 33)) := by
    intro w
    have := run_make w 71 33 i0 (.int .i64 0) Tryd.underlying71 hi hz0 .i64 .i64 (n : Int) (n : Int) (by omega) (by omega) (by rw [hz2]; omega) (by omega)
    rw [hz1, show (n : Int).toNat = n by omega] at this
    exact this
  have hmk2 : ∀ w, (Instr.makeSlice 72 (.int .i64 (n : Int)) (.int .i64 (n : Int))).run Tryd.prog w = .ok (.slice (some ⟨w.heap.size, 0, none⟩) n n) (w.alloc (.cells (zerosG n) 23)) := by
    intro w
    have := run_make w 72 23 j0 (.int .u32 0) Tryd.underlying72 hj hy0 .i64 .i64 (n : Int) (n : Int) (by omega) (by omega) (by rw [hy2]; omega) (by omega)
    rw [hy1, show (n : Int).toNat = n by omega] at this
    exact this
  clear hi hz0 hz1 hz2 hj hy0 hy1 hy2
  go_enter Tryd.func26, Tryd.ntmps26
  go_wp2
  go_region
  all_goals go_wp2
  all_goals go_ret
  · obtain ⟨q1, q2, q3, q4, q5⟩ := three w (zerosS n) (zerosG n) #[.slice (some ⟨w.heap.size, 0, none⟩) n n, .slice (some ⟨w.heap.size + 1, 0, none⟩) n n] 33 23 74
    refine ⟨w.heap.size + 1 + 1, w.heap.size, w.heap.size + 1, rfl, by omega, by omega, by omega, ⟨h1, h2, by omega, by omega, by omega, ⟨n, (q3 0)⟩, ⟨n, (q3 1)⟩, fun x hx => (q1 x).trans (zerosS_at n x hx), fun x hx => (q2 x).trans (zerosG_at n x hx), q4, q5⟩, ?_⟩
    exact ((((Below.refl _ _).drew.alloc (by simp) _).alloc (by simp) _).alloc (by simp; omega) _)
  · obtain ⟨q1, q2, q3, q4, q5⟩ := three w (zerosG n) (zerosS n) #[.slice (some ⟨w.heap.size + 1, 0, none⟩) n n, .slice (some ⟨w.heap.size, 0, none⟩) n n] 23 33 74
    refine ⟨w.heap.size + 1 + 1, w.heap.size + 1, w.heap.size, rfl, by omega, by omega, by omega, ⟨h1, h2, by omega, by omega, by omega, ⟨n, (q3 0)⟩, ⟨n, (q3 1)⟩, fun x hx => (q2 x).trans (zerosS_at n x hx), fun x hx => (q1 x).trans (zerosG_at n x hx), q5, q4⟩, ?_⟩
    exact ((((Below.refl _ _).drew.alloc (by simp) _).alloc (by simp) _).alloc (by simp; omega) _)

section
variable {w : World} {rb sb gb n : Nat} {G S : Nat → Nat}
set_option maxHeartbeats 2000000 in
theorem rhas_ok (h : RefR w rb sb gb n G S) (p : Int) (q : Nat) :
    Calls Tryd.prog 38 #[.pointer (some ⟨rb, 0, none⟩), .agg #[.int .i64 p, .int .u32 (q : Int)]] w fun e w' => e = .returned (.bool (hasB n G S p q)) ∧ Below w.heap.size w w' := by
  obtain ⟨cp, e0⟩ := h.c0
  obtain ⟨cq, e1⟩ := h.c1
  have hn2 := h.n2
  have hrr := h.lt_r
  have hss := h.lt_s
  have hgg := h.lt_g
  have y1 : ¬ rb = w.heap.size := by omega
  have y2 : ¬ sb = w.heap.size := by omega
  have y3 : ¬ gb = w.heap.size := by omega
  by_cases h0 : 0 ≤ p
  · by_cases h1 : p < (n : Int)
    · obtain ⟨x, rfl⟩ := Int.eq_ofNat_of_zero_le h0
      have hx : x < n := by omega
      have e2 := h.gn x hx
      have e3 := h.st x hx
      have hr : hasB n G S x q = (decide (¬ (S x : Int) = 0) && decide ((G x : Int) = q)) := by
        unfold hasB
        simp only [Int.toNat_natCast]
        rw [decide_eq_true (show (0 : Int) ≤ x by omega), decide_eq_true h1]
        simp only [Bool.true_and]
        congr 1
        · exact decide_eq_decide.2 (by omega)
        · exact decide_eq_decide.2 (by omega)
      rw [hr]
      clear h hr
      by_cases hz : (S x : Int) = 0
      · rw [hz] at e3
        go_enter Tryd.func38, Tryd.ntmps38
        go_wp2
        go_quiet (fail)
        go_wp2
        go_ret
        exact ⟨by simp [hz], below_drewN ((Below.refl _ _).alloc (Nat.le_refl _) _) _⟩
      · have hz2 : ((S x : Int) == 0) = false := by simpa using hz
        have hz3 : ((S x : Int) != 0) = true := by simpa using hz
        go_enter Tryd.func38, Tryd.ntmps38
        go_wp2
        go_quiet (fail)
        go_wp2
        go_ret
        refine ⟨?_, below_drewN ((Below.refl _ _).alloc (Nat.le_refl _) _) _⟩
        congr 2
        by_cases hq : (G x : Int) = q
        · simp [hq]; omega
        · simp [hq]
    · have hr : hasB n G S p q = false := by unfold hasB; simp; omega
      rw [hr]
      have hd : decide (p < (n : Int)) = false := decide_eq_false h1
      clear h
      go_enter Tryd.func38, Tryd.ntmps38
      go_wp2
      go_quiet (fail)
      go_wp2
      go_ret
      exact ⟨by simp, below_drewN ((Below.refl _ _).alloc (Nat.le_refl _) _) _⟩
  · have hr : hasB n G S p q = false := by unfold hasB; simp; omega
    rw [hr]
    have hd : decide (0 ≤ p) = false := decide_eq_false h0
    clear h
    go_enter Tryd.func38, Tryd.ntmps38
    go_wp2
    go_quiet (fail)
    go_wp2
    go_ret
    exact ⟨by simp, below_drewN ((Below.refl _ _).alloc (Nat.le_refl _) _) _⟩
end
end Go.Proofs.YtfhnepoegdhjmaaDoor
