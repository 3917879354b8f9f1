/-
  Fork of the ready set.
-/
import Derived.Test.YtlfejgjhamcahaaY10
import Derived.Test.YtlfejgjhamcahaaMe
import Derived.Test.YtlfejgjhamcahaaMi
import Derived.Deep.RegionHeld3
namespace Go.Proofs.Ytlfejgjhamcahaa
open Go.RowKit Go.Lib
attribute [local go_sem ↓] Go.wp_at_zero Go.wp_at_succ

theorem below_pre {B : Nat} {w0 w w' : World} (h : Below B w w') (a : w.heap = w0.heap) (b : w.os = w0.os) (c : w.tape = w0.tape) (d : w.output = w0.output) : Below B w0 w' :=
  ⟨h.os.trans b, h.tape.trans c, h.output.trans d, by rw [← a]; exact h.size, fun k hk => (h.block k hk).trans (by rw [a])⟩

set_option maxHeartbeats 4000000 in
set_option maxRecDepth 100000 in
theorem sfork_ok {w : World} {sb qb gq hb gh n most turn : Nat} {M : List En} (h : IsS w sb qb gq hb gh n most turn M) :
    Calls Try.prog 53 #[.pointer (some ⟨sb, 0, none⟩)] w fun e w' => ∃ sb' qb' gq' hb' gh', e = .returned (.pointer (some ⟨sb', 0, none⟩)) ∧ (∀ k, OwnS sb' qb' gq' hb' gh' k → w.heap.size ≤ k) ∧ IsS w' sb' qb' gq' hb' gh' n most turn M ∧ Below w.heap.size w w' := by
  obtain ⟨R, L, hS, hI⟩ := h
  have c0 := hS.c0
  have c1 := hS.c1
  have c2 := hS.c2
  have c3 := hS.c3
  have c4 := hS.c4
  have hlt := hS.lt
  have y0 : ¬ sb = w.heap.size := by omega
  have y1 : ¬ w.heap.size = sb := by omega
  have hA := (Below.refl w.heap.size w).alloc (Nat.le_refl _) (.cells #[.pointer (some ⟨qb, 0, none⟩), .pointer (some ⟨hb, 0, none⟩), .int .i64 (n : Int), .int .i64 (most : Int), .int .u64 (turn : Int)] 99)
  have HA := veil hA
  have HS0 := veil (hS.below hA)
  have hz : (w.alloc (.cells #[.pointer (some ⟨qb, 0, none⟩), .pointer (some ⟨hb, 0, none⟩), .int .i64 (n : Int), .int .i64 (most : Int), .int .u64 (turn : Int)] 99)).heap.size = w.heap.size + 1 := by simp
  have HN : Hid (∀ W, Below (w.alloc (.cells #[.pointer (some ⟨qb, 0, none⟩), .pointer (some ⟨hb, 0, none⟩), .int .i64 (n : Int), .int .i64 (most : Int), .int .u64 (turn : Int)] 99)).heap.size (w.alloc (.cells #[.pointer (some ⟨qb, 0, none⟩), .pointer (some ⟨hb, 0, none⟩), .int .i64 (n : Int), .int .i64 (most : Int), .int .u64 (turn : Int)] 99)) W → (∀ i, W.cell? ⟨w.heap.size, i, none⟩ = (#[.pointer (some ⟨qb, 0, none⟩), .pointer (some ⟨hb, 0, none⟩), .int .i64 (n : Int), .int .i64 (most : Int), .int .u64 (turn : Int)] : Array Value)[i]?) ∧ (∀ i, W.frozen? ⟨w.heap.size, i, none⟩ = false) ∧ St W sb qb gq hb gh n most turn R L) := fun W hW =>
    ⟨fun i => by rw [hW.cell (p := ⟨w.heap.size, i, none⟩) (by simp)]; exact Ph.cell_new _ _ _ _, fun i => by rw [World.frozen?_of_block (a := ⟨w.heap.size, i, none⟩) (hW.block w.heap.size (by simp))]; exact Ph.frozen_new _ _ _ _, HS0.out.below hW⟩
  have z0 := HS0.out.c0
  have z1 := HS0.out.c1
  have f0 := (HN.out _ (Below.refl _ _)).2.1 0
  have f1 := (HN.out _ (Below.refl _ _)).2.1 1
  have g0 := (HN.out _ (Below.refl _ _)).1 0
  have g1 := (HN.out _ (Below.refl _ _)).1 1
  simp only [List.getElem?_toArray, List.getElem?_cons_zero, List.getElem?_cons_succ] at g0 g1
  have HZ := veil hz
  clear hA hz
  have HI := veil hI
  clear hS hI
  go_enter Try.func53, Try.ntmps53
  go_wp2
  go_region_held3 (fun w' => w'.cell? ⟨sb, 0, none⟩ = some (.pointer (some ⟨qb, 0, none⟩)) ∧ w'.cell? ⟨sb, 1, none⟩ = some (.pointer (some ⟨hb, 0, none⟩)))
    (first
      | exact ⟨z0, z1⟩
      | exact ⟨x0, x1⟩
      | exact ⟨x2, x3⟩
      | go_keep)
    (first
      | (go_at_call 77; refine (Bq.fork_ok _ qb gq n R (by exact HS0.out.q.kept rfl rfl)).mono ?_; rintro e w1 ⟨qb', gq', rfl, k1, k2, hq1, hb1⟩; have HQ1 := veil hq1; have HB1 := veil (below_pre (w0 := w.alloc (.cells #[.pointer (some ⟨qb, 0, none⟩), .pointer (some ⟨hb, 0, none⟩), .int .i64 (n : Int), .int .i64 (most : Int), .int .u64 (turn : Int)] 99)) hb1 rfl rfl rfl rfl); have x0 := (HN.out _ HB1.out).2.2.c0; have x1 := (HN.out _ HB1.out).2.2.c1; clear hq1 hb1)
      | (go_at_call 78; refine (Ph.hfork_ok (HN.out _ HB1.out).2.2.h).mono ?_; rintro e w2 ⟨hb', gh', rfl, k3, k4, hh2, hb2⟩; have HH2 := veil hh2; have HQ2 := veil (HQ1.out.below hb2); have HB2 := veil (HB1.out.trans (hb2.mono HB1.out.size)); have x2 := (HN.out _ HB2.out).2.2.c0; have x3 := (HN.out _ HB2.out).2.2.c1; have u0 := (HN.out _ HB2.out).2.1 0; have u1 := (HN.out _ HB2.out).2.1 1; have u2 := (HN.out _ HB2.out).1 0; have u3 := (HN.out _ HB2.out).1 1; simp only [List.getElem?_toArray, List.getElem?_cons_zero, List.getElem?_cons_succ] at u2 u3; clear hh2 hb2))
  have b1 := HQ1.out.blocks
  have b2 := HQ2.out.blocks
  have b3 := HH2.out.blocks
  have hzz : (w.alloc (.cells #[.pointer (some ⟨qb, 0, none⟩), .pointer (some ⟨hb, 0, none⟩), .int .i64 (n : Int), .int .i64 (most : Int), .int .u64 (turn : Int)] 99)).heap.size = w.heap.size + 1 := HZ.out
  have k1' : w.heap.size + 1 ≤ qb' := by rw [← hzz]; exact k1
  have k2' : w.heap.size + 1 ≤ gq' := by rw [← hzz]; exact k2
  have s1 : w.heap.size + 1 ≤ w1.heap.size := by rw [← hzz]; exact HB1.out.size
  have HX : Hid (IsS ((w2.setCell ⟨w.heap.size, 0, none⟩ (.pointer (some ⟨qb', 0, none⟩))).setCell ⟨w.heap.size, 1, none⟩ (.pointer (some ⟨hb', 0, none⟩))) w.heap.size qb' gq' hb' gh' n most turn M) := by
    obtain ⟨q1, q2, _⟩ := HN.out _ HB2.out
    have q3 := q1 2
    have q4 := q1 3
    have q5 := q1 4
    simp only [List.getElem?_toArray, List.getElem?_cons_zero, List.getElem?_cons_succ] at q3 q4 q5
    have hk : ∀ k, k ≠ w.heap.size → ((w2.setCell ⟨w.heap.size, 0, none⟩ (.pointer (some ⟨qb', 0, none⟩))).setCell ⟨w.heap.size, 1, none⟩ (.pointer (some ⟨hb', 0, none⟩))).heap[k]? = w2.heap[k]? := fun k hk => (Below.heap_setCell _ _ _ _ (fun e => hk e)).trans (Below.heap_setCell _ _ _ _ (fun e => hk e))
    refine ⟨R, L, ⟨?_, ?_, ?_, ?_, ?_, fun o => ?_, HQ2.out.kept (hk _ (by omega)) (hk _ (by omega)), HH2.out.kept (hk _ (by omega)) (hk _ (by omega)), by omega⟩, HI.out⟩
    · rw [Ph.set_other _ _ _ _ _ _ (by omega), Ph.set_same _ _ _ _ u2]
    · exact Ph.set_same _ _ _ (.pointer (some ⟨hb, 0, none⟩)) (by rw [Ph.set_other _ _ _ _ _ _ (by omega)]; exact u3)
    · rw [Ph.set_other _ _ _ _ _ _ (by omega), Ph.set_other _ _ _ _ _ _ (by omega)]; exact q3
    · rw [Ph.set_other _ _ _ _ _ _ (by omega), Ph.set_other _ _ _ _ _ _ (by omega)]; exact q4
    · rw [Ph.set_other _ _ _ _ _ _ (by omega), Ph.set_other _ _ _ _ _ _ (by omega)]; exact q5
    · rw [World.frozen?_setCell, World.frozen?_setCell]; exact q2 o
  have HY : Hid (Below w.heap.size w ((w2.setCell ⟨w.heap.size, 0, none⟩ (.pointer (some ⟨qb', 0, none⟩))).setCell ⟨w.heap.size, 1, none⟩ (.pointer (some ⟨hb', 0, none⟩)))) :=
    ((HA.out.trans (HB2.out.mono (by rw [show (w.alloc (.cells #[.pointer (some ⟨qb, 0, none⟩), .pointer (some ⟨hb, 0, none⟩), .int .i64 (n : Int), .int .i64 (most : Int), .int .u64 (turn : Int)] 99)).drew.heap.size = w.heap.size + 1 from hzz]; omega))).setCell (p := ⟨w.heap.size, 0, none⟩) (Nat.le_refl _) _).setCell (p := ⟨w.heap.size, 1, none⟩) (Nat.le_refl _) _
  go_wp2
  go_ret
  refine ⟨_, qb', gq', hb', gh', rfl, ?_, HX.out, HY.out⟩
  intro k hk
  unfold OwnS Own at hk
  omega
end Go.Proofs.Ytlfejgjhamcahaa
