/-
  prog: an instruction alone, ahead of an Exit (ProgOne).
-/
import Derived.Test.YtnnpbbiiapipaaaO10
namespace Go.Proofs.Ytnnpbbiiapipaaa
open Go.RowKit Go.Lib

def oneO (p : Int) (i : Nat) : Int := if i = 0 then p else 9
def oneR (q : Int) (i : Nat) : Int := if i = 0 then q else 0
def twoO (p : Int) (i : Nat) : Int := if i = 1 then p else 9
def twoR (q : Int) (i : Nat) : Int := if i = 1 then q else 0
theorem okI_exit (n : Int) : okI n 9 0 = true := by simp [okI, known, lo, hi]
theorem okI_other {n n' p q : Int} (h : p ≠ 8) : okI n p q = okI n' p q := by simp [okI, hi, h]
theorem one_yes {p q : Int} (h : okI 2 p q = true) : Chk 2 (oneO p) (oneR q) 0 0 := by
  refine .inr (.inr (.inr ⟨by omega, by omega, fun i hi => ?_, .inr rfl, rfl, rfl⟩))
  match i, hi with
  | 0, _ => exact h
  | 1, _ => exact okI_exit 2
theorem one_no {p q : Int} (h : okI 2 p q = false) : Chk 2 (oneO p) (oneR q) 3 0 :=
  .inr (.inl ⟨by omega, by omega, 0, by omega, fun i hi => by omega, h, rfl, rfl⟩)
theorem two_yes {p q : Int} (h : okI 3 p q = true) : Chk 3 (twoO p) (twoR q) 0 0 := by
  refine .inr (.inr (.inr ⟨by omega, by omega, fun i hi => ?_, .inr rfl, rfl, rfl⟩))
  match i, hi with
  | 0, _ => exact okI_exit 3
  | 1, _ => exact h
  | 2, _ => exact okI_exit 3
theorem two_no {p q : Int} (h : okI 3 p q = false) : Chk 3 (twoO p) (twoR q) 3 1 := by
  refine .inr (.inl ⟨by omega, by omega, 1, by omega, fun i hi => ?_, h, rfl, rfl⟩)
  match i, hi with
  | 0, _ => exact okI_exit 3
theorem one_cases (p q : Int) : ∃ x x' y', Chk 2 (oneO p) (oneR q) x 0 ∧ Chk 3 (twoO p) (twoR q) x' y' ∧ ((x = 0 ∧ x' = 0 ∧ y' = 0) ∨ (x = 3 ∧ x' = 3 ∧ y' = 1) ∨ (x = 3 ∧ x' = 0 ∧ y' = 0 ∧ p = 8)) := by
  cases h2 : okI 2 p q with
  | true =>
    have h3 : okI 3 p q = true := by
      by_cases h8 : p = 8
      · subst h8
        simp [okI, known, lo, hi] at h2 ⊢
        omega
      · rw [okI_other (n' := 2) h8]; exact h2
    exact ⟨0, 0, 0, one_yes h2, two_yes h3, .inl ⟨rfl, rfl, rfl⟩⟩
  | false =>
    cases h3 : okI 3 p q with
    | false => exact ⟨3, 3, 1, one_no h2, two_no h3, .inr (.inl ⟨rfl, rfl, rfl⟩)⟩
    | true =>
      have h8 : p = 8 := by
        apply Classical.byContradiction
        intro h8
        rw [okI_other (n' := 2) h8, h2] at h3
        cases h3
      exact ⟨3, 0, 0, one_no h2, two_yes h3, .inr (.inr ⟨rfl, rfl, rfl, h8⟩)⟩
theorem prg_one (w : World) (p q : Int) (w1 : World) (hb : Below (w.heap.size + 1) (w.alloc (.cells #[.int .i64 p, .int .i64 q, .int .i64 9, .int .i64 0] 64)) w1) : Prg w1 (some ⟨w.heap.size, 0, none⟩) 2 (oneO p) (oneR q) := by
  have hs := hb.size
  simp at hs
  refine .inr ⟨w.heap.size, 0, rfl, by omega, fun j hj => ?_⟩
  have hb' : ∀ i, w1.cell? ⟨w.heap.size, i, none⟩ = _ := fun i => hb.cell (p := ⟨w.heap.size, i, none⟩) (by simp)
  match j, hj with
  | 0, _ => exact ⟨(hb' _).trans (by unfold World.cell?; simp only [(MapKept.heap_alloc w _).1]; rfl), (hb' _).trans (by unfold World.cell?; simp only [(MapKept.heap_alloc w _).1]; rfl)⟩
  | 1, _ => exact ⟨(hb' _).trans (by unfold World.cell?; simp only [(MapKept.heap_alloc w _).1]; rfl), (hb' _).trans (by unfold World.cell?; simp only [(MapKept.heap_alloc w _).1]; rfl)⟩
theorem prg_two (w : World) (p q : Int) (w1 : World) (hb : Below (w.heap.size + 1) (w.alloc (.cells #[.int .i64 9, .int .i64 0, .int .i64 p, .int .i64 q, .int .i64 9, .int .i64 0] 64)) w1) : Prg w1 (some ⟨w.heap.size, 0, none⟩) 3 (twoO p) (twoR q) := by
  have hs := hb.size
  simp at hs
  refine .inr ⟨w.heap.size, 0, rfl, by omega, fun j hj => ?_⟩
  have hb' : ∀ i, w1.cell? ⟨w.heap.size, i, none⟩ = _ := fun i => hb.cell (p := ⟨w.heap.size, i, none⟩) (by simp)
  match j, hj with
  | 0, _ => exact ⟨(hb' _).trans (by unfold World.cell?; simp only [(MapKept.heap_alloc w _).1]; rfl), (hb' _).trans (by unfold World.cell?; simp only [(MapKept.heap_alloc w _).1]; rfl)⟩
  | 1, _ => exact ⟨(hb' _).trans (by unfold World.cell?; simp only [(MapKept.heap_alloc w _).1]; rfl), (hb' _).trans (by unfold World.cell?; simp only [(MapKept.heap_alloc w _).1]; rfl)⟩
  | 2, _ => exact ⟨(hb' _).trans (by unfold World.cell?; simp only [(MapKept.heap_alloc w _).1]; rfl), (hb' _).trans (by unfold World.cell?; simp only [(MapKept.heap_alloc w _).1]; rfl)⟩
end Go.Proofs.Ytnnpbbiiapipaaa
