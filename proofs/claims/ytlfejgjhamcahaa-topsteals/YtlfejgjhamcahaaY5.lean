/-
  A set's Top, Remove and Take, where its heap has somebody; 'live'.
-/
import Derived.Test.YtlfejgjhamcahaaY4
namespace Go.Proofs.Ytlfejgjhamcahaa
open Go.RowKit
attribute [local go_sem ↓] Go.wp_at_zero Go.wp_at_succ

section
variable {w w' : World} {sb qb gq hb gh n most turn : Nat} {R R' : List (Nat × Nat)} {L L' : List Ph.Item}
theorem St.frame {S : Nat → Prop} (h : St w sb qb gq hb gh n most turn R L) (hf : Fr S w w') (n0 : ¬ S sb) (n1 : ¬ S qb) (n2 : ¬ S gq) (n3 : ¬ S hb) (n4 : ¬ S gh) : St w' sb qb gq hb gh n most turn R L := by
  have b1 := h.q.blocks
  have b2 := h.h.blocks
  exact ⟨(hf.cell (a := ⟨sb, 0, none⟩) h.lt n0).trans h.c0, (hf.cell (a := ⟨sb, 1, none⟩) h.lt n0).trans h.c1, (hf.cell (a := ⟨sb, 2, none⟩) h.lt n0).trans h.c2, (hf.cell (a := ⟨sb, 3, none⟩) h.lt n0).trans h.c3, (hf.cell (a := ⟨sb, 4, none⟩) h.lt n0).trans h.c4, fun o => (hf.frozen (a := ⟨sb, o, none⟩) h.lt n0).trans (h.fz o), h.q.kept (hf.block qb b1.1 n1) (hf.block gq b1.2.1 n2), h.h.kept (hf.block hb b2.1 n3) (hf.block gh b2.2.1 n4), h.ne⟩
theorem pfirst_heap {x : Ph.Item} (h : St w sb qb gq hb gh n most turn R (x :: L)) :
    Calls Try.prog 67 #[.agg #[.pointer (some ⟨qb, 0, none⟩), .pointer (some ⟨hb, 0, none⟩)]] w fun e w' => e = .returned (.tuple #[.int .i64 (x.1 : Int), .bool true]) ∧ Below w.heap.size w w' := by
  have hA := (Below.refl w.heap.size w).alloc (Nat.le_refl _) (.cells #[.pointer (some ⟨qb, 0, none⟩), .pointer (some ⟨hb, 0, none⟩)] 97)
  have HA := veil hA
  have HM := veil (Ph.hmin_ok (h.below hA).h)
  clear h hA
  go_enter Try.func67, Try.ntmps67
  go_wp2_with (go_at_call 88; refine (HM.out).mono ?_; rintro e w1 ⟨rfl, q, hw⟩; have HB := veil (below_drewN HA.out q); subst hw)
  go_ret2
  exact ⟨rfl, HB.out⟩
set_option maxHeartbeats 1000000 in
theorem sremove_heap (h : St w sb qb gq hb gh n most turn R L) (id d s : Nat) (hr : ∀ it ∈ R, it.1 ≠ id) (hl : (id, d, s) ∈ L) :
    Calls Try.prog 59 #[.pointer (some ⟨sb, 0, none⟩), .int .i64 (id : Int)] w fun e w' => e = .returned (.int .i64 0) ∧ St w' sb qb gq hb gh n most turn R (Ph.out id L) ∧ Fr (fun k => k = hb ∨ k = gh) w w' := by
  have hi := h.h.good.rng _ hl
  have c0 := h.c0
  have c1 := h.c1
  have HS := veil h
  have HR := veil (Bq.remove_none h.q hi hr)
  have HD := veil (Ph.hdelete_ok h.h id d s hl)
  clear h hr hl
  go_enter Try.func59, Try.ntmps59
  go_wp2_with (first
    | (go_at_call 83; refine (HR.out).mono ?_; rintro e w1 ⟨rfl, hw⟩; replace hw := hw.symm; subst hw)
    | (go_at_call 84; refine (HD.out).mono ?_; rintro e w2 ⟨rfl, hq, ho⟩; have HX := veil (HS.out.ofH hq (Fr.of_h ho)); have HF := veil (Fr.of_h ho); clear hq ho))
  go_ret
  exact ⟨rfl, HX.out, HF.out⟩
set_option maxHeartbeats 1000000 in
theorem stop_heap {x : Ph.Item} (h : St w sb qb gq hb gh n most turn R (x :: L)) (hr : ∀ it ∈ R, it.1 ≠ x.1) :
    Calls Try.prog 43 #[.pointer (some ⟨sb, 0, none⟩)] w fun e w' => e = .returned (.tuple #[.int .i64 (x.1 : Int), .agg #[.bool true, .int .u64 (x.2.1 : Int), .int .u8 0], .bool true]) ∧ Below w.heap.size w w' := by
  have hi := h.h.good.rng x (by simp)
  have hA := (Below.refl w.heap.size w).alloc (Nat.le_refl _) (.cells #[.bool false, .int .u64 0, .int .u8 0] 25)
  have hS := h.below hA
  have hz : (w.alloc (.cells #[.bool false, .int .u64 0, .int .u8 0] 25)).heap.size = w.heap.size + 1 := by simp
  have HZ := veil hz
  have c0 := hS.c0
  have c1 := hS.c1
  have HS := veil hS
  have HIR := veil hr
  have HB0 : Hid (∀ W, Below (w.heap.size + 1) (w.alloc (.cells #[.bool false, .int .u64 0, .int .u8 0] 25)) W → St W sb qb gq hb gh n most turn R (x :: L) ∧ (∀ i, W.cell? ⟨w.heap.size, i, none⟩ = (#[.bool false, .int .u64 0, .int .u8 0] : Array Value)[i]?) ∧ (∀ i, W.frozen? ⟨w.heap.size, i, none⟩ = false) ∧ w.heap.size + 1 ≤ W.heap.size ∧ Below w.heap.size w W) := fun W hW => by
    refine ⟨hS.below (by rw [hz]; exact hW), fun i => ?_, fun i => ?_, by rw [← hz]; exact hW.size, hA.trans (hW.mono (by omega))⟩
    · rw [hW.cell (p := ⟨w.heap.size, i, none⟩) (by simp), Ph.cell_new]
    · rw [World.frozen?_of_block (a := ⟨w.heap.size, i, none⟩) (hW.block w.heap.size (by omega)), Ph.frozen_new]
  clear h hr hS hA hz
  go_enter Try.func43, Try.ntmps43
  go_wp2_with (first
    | (go_at_call 67; refine (pfirst_heap HS.out).mono ?_; rintro e w1 ⟨rfl, hb1⟩; have HB1 := veil (show Below (w.heap.size + 1) _ w1 by rw [← HZ.out]; exact hb1); obtain ⟨hs1, _, _, hz1, _⟩ := HB0.out _ HB1.out; have HS1 := veil hs1; have c10 := hs1.c0; have c11 := hs1.c1; clear hb1 hs1)
    | (go_at_call 68; refine (pkey_dead HS1.out x.1 hi HIR.out x.2.1 x.2.2 (by simp)).mono ?_; rintro e w2 ⟨rfl, hb2⟩; have HB2 := veil (HB1.out.trans (hb2.mono hz1)); have HB2s := veil hb2; obtain ⟨_, kc, fc, hz2, hB2⟩ := HB0.out _ HB2.out; have HBW := veil hB2; have HB3 := veil (HB0.out _ (HB2.out.alloc hz2 (.cells #[.bool true, .int .u64 (x.2.1 : Int), .int .u8 0] 25))); have k0 := HB3.out.2.1 0; have k1 := HB3.out.2.1 1; have k2 := HB3.out.2.1 2; have f0 := HB3.out.2.2.1 0; have f1 := HB3.out.2.2.1 1; have f2 := HB3.out.2.2.1 2; clear hb2 kc fc hB2))
  have hsz2 : w.heap.size + 1 ≤ w2.heap.size := hz2
  have y0 : ¬ w2.heap.size = w.heap.size := by omega
  have y1 : ¬ w.heap.size = w2.heap.size := by omega
  go_region_held3 (fun w' => w'.cell? ⟨w2.heap.size, 0, none⟩ = some (.bool true) ∧ w'.cell? ⟨w2.heap.size, 1, none⟩ = some (.int .u64 (x.2.1 : Int)) ∧ w'.cell? ⟨w2.heap.size, 2, none⟩ = some (.int .u8 0))
    (first | go_keep)
    (fail)
  go_wp2
  refine bodyPost_ret (v := .tuple #[.int .i64 (x.1 : Int), .agg #[.bool true, .int .u64 (x.2.1 : Int), .int .u8 0], .bool true]) ?_ rfl ?_
  · simp [results, Try.f43, go_sem, k0, k1, k2]
  · refine ⟨rfl, ?_⟩
    exact ((((HBW.out.alloc (Nat.le_trans (Nat.le_succ _) hz2) _).setCell (p := ⟨w.heap.size, 0, none⟩) (Nat.le_refl _) _).setCell (p := ⟨w.heap.size, 1, none⟩) (Nat.le_refl _) _).setCell (p := ⟨w.heap.size, 2, none⟩) (Nat.le_refl _) _).drew
end
end Go.Proofs.Ytlfejgjhamcahaa
