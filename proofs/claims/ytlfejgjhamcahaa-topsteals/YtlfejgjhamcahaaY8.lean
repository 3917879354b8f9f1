/-
  A set's Top and Take, whatever is first; one of the queue.
-/
import Derived.Test.YtlfejgjhamcahaaY5
namespace Go.Proofs.Ytlfejgjhamcahaa
open Go.RowKit
attribute [local go_sem ↓] Go.wp_at_zero Go.wp_at_succ

def Own (qb gq hb gh : Nat) (k : Nat) : Prop := (k = qb ∨ k = gq) ∨ k = hb ∨ k = gh
section
variable {w w' : World} {sb qb gq hb gh n most turn : Nat} {R R' : List (Nat × Nat)} {L L' : List Ph.Item}
set_option maxHeartbeats 1000000 in
theorem pkey_level {R1 R2 : List (Nat × Nat)} {id lv : Nat} (h : St w sb qb gq hb gh n most turn (R1 ++ (id, lv) :: R2) L) :
    Calls Try.prog 68 #[.agg #[.pointer (some ⟨qb, 0, none⟩), .pointer (some ⟨hb, 0, none⟩)], .int .i64 (id : Int)] w fun e w' => e = .returned (.tuple #[.agg #[.bool false, .int .u64 0, .int .u8 (lv : Int)], .bool true]) ∧ Below w.heap.size w w' := by
  have hA := ((Below.refl w.heap.size w).alloc (Nat.le_refl _) (.cells #[.pointer (some ⟨qb, 0, none⟩), .pointer (some ⟨hb, 0, none⟩)] 97)).alloc (by simp) (.cells #[.bool false, .int .u64 0, .int .u8 0] 25)
  have HA := veil hA
  have HS := veil (h.below hA)
  have hz : ((w.alloc (.cells #[.pointer (some ⟨qb, 0, none⟩), .pointer (some ⟨hb, 0, none⟩)] 97)).alloc (.cells #[.bool false, .int .u64 0, .int .u8 0] 25)).heap.size = w.heap.size + 2 := by simp
  have HZ := veil hz
  have c1 : ((w.alloc (.cells #[.pointer (some ⟨qb, 0, none⟩), .pointer (some ⟨hb, 0, none⟩)] 97)).alloc (.cells #[.bool false, .int .u64 0, .int .u8 0] 25)).cell? ⟨w.heap.size, 1, none⟩ = some (.pointer (some ⟨hb, 0, none⟩)) := by
    rw [World.cell?_alloc_lt _ _ _ (by simp), Ph.cell_new]; rfl
  have CK : Hid (∀ i, ((w.alloc (.cells #[.pointer (some ⟨qb, 0, none⟩), .pointer (some ⟨hb, 0, none⟩)] 97)).alloc (.cells #[.bool false, .int .u64 0, .int .u8 0] 25)).cell? ⟨w.heap.size + 1, i, none⟩ = (#[.bool false, .int .u64 0, .int .u8 0] : Array Value)[i]?) := fun i => by
    rw [show w.heap.size + 1 = (w.alloc (.cells #[.pointer (some ⟨qb, 0, none⟩), .pointer (some ⟨hb, 0, none⟩)] 97)).heap.size by simp]; exact Ph.cell_new _ _ _ _
  have CF : Hid (∀ i, ((w.alloc (.cells #[.pointer (some ⟨qb, 0, none⟩), .pointer (some ⟨hb, 0, none⟩)] 97)).alloc (.cells #[.bool false, .int .u64 0, .int .u8 0] 25)).frozen? ⟨w.heap.size + 1, i, none⟩ = false) := fun i => by
    rw [show w.heap.size + 1 = (w.alloc (.cells #[.pointer (some ⟨qb, 0, none⟩), .pointer (some ⟨hb, 0, none⟩)] 97)).heap.size by simp]; exact Ph.frozen_new _ _ _ _
  have C1 := veil c1
  clear h hA hz c1
  go_enter Try.func68, Try.ntmps68
  go_wp2_with (first
    | (go_at_call 90; refine (Bq.level_some HS.out.q).mono ?_; rintro e w3 ⟨rfl, hb3⟩; have HB3 := veil hb3; clear hb3)
    | (go_at_call 33; refine (Ke.fixed_ok _ (lv : Int)).mono ?_; rintro e w2 ⟨rfl, hb2⟩; have HB2 := veil (HB3.out.trans (hb2.mono HB3.out.size)); have s2 := HB2.out.size; have k0 := (HB2.out.cell (p := ⟨w.heap.size + 1, 0, none⟩) (by rw [HZ.out]; simp)).trans (CK.out 0); have k1 := (HB2.out.cell (p := ⟨w.heap.size + 1, 1, none⟩) (by rw [HZ.out]; simp)).trans (CK.out 1); have k2 := (HB2.out.cell (p := ⟨w.heap.size + 1, 2, none⟩) (by rw [HZ.out]; simp)).trans (CK.out 2); have f0 := (World.frozen?_of_block (a := ⟨w.heap.size + 1, 0, none⟩) (HB2.out.block (w.heap.size + 1) (by rw [HZ.out]; simp))).trans (CF.out 0); have f1 := (World.frozen?_of_block (a := ⟨w.heap.size + 1, 1, none⟩) (HB2.out.block (w.heap.size + 1) (by rw [HZ.out]; simp))).trans (CF.out 1); have f2 := (World.frozen?_of_block (a := ⟨w.heap.size + 1, 2, none⟩) (HB2.out.block (w.heap.size + 1) (by rw [HZ.out]; simp))).trans (CF.out 2); have hW := veil ((HA.out.trans (HB2.out.mono (by rw [HZ.out]; omega)))); clear hb2))
  refine bodyPost_ret (v := .tuple #[.agg #[.bool false, .int .u64 0, .int .u8 (lv : Int)], .bool true]) ?_ rfl ?_
  · simp [results, Try.f68, go_sem, k0, k1, k2, Ke.fixK]
  · refine ⟨rfl, ?_⟩
    exact ((hW.out.setCell (p := ⟨w.heap.size + 1, 0, none⟩) (by simp) _).setCell (p := ⟨w.heap.size + 1, 1, none⟩) (by simp) _).setCell (p := ⟨w.heap.size + 1, 2, none⟩) (by simp) _

set_option maxHeartbeats 1000000 in
theorem stop_any (h : St w sb qb gq hb gh n most turn R L) (id : Nat) (k : Ke.K) (hF : ∀ W, St W sb qb gq hb gh n most turn R L → Calls Try.prog 67 #[.agg #[.pointer (some ⟨qb, 0, none⟩), .pointer (some ⟨hb, 0, none⟩)]] W fun e w' => e = .returned (.tuple #[.int .i64 (id : Int), .bool true]) ∧ Below W.heap.size W w') (hK : ∀ W, St W sb qb gq hb gh n most turn R L → Calls Try.prog 68 #[.agg #[.pointer (some ⟨qb, 0, none⟩), .pointer (some ⟨hb, 0, none⟩)], .int .i64 (id : Int)] W fun e w' => e = .returned (.tuple #[.agg #[.bool k.e, .int .u64 k.d, .int .u8 k.l], .bool true]) ∧ Below W.heap.size W w') :
    Calls Try.prog 43 #[.pointer (some ⟨sb, 0, none⟩)] w fun e w' => e = .returned (.tuple #[.int .i64 (id : Int), .agg #[.bool k.e, .int .u64 k.d, .int .u8 k.l], .bool true]) ∧ Below w.heap.size w w' := by
  have hA := (Below.refl w.heap.size w).alloc (Nat.le_refl _) (.cells #[.bool false, .int .u64 0, .int .u8 0] 25)
  have hS := h.below hA
  have hz : (w.alloc (.cells #[.bool false, .int .u64 0, .int .u8 0] 25)).heap.size = w.heap.size + 1 := by simp
  have HZ := veil hz
  have c0 := hS.c0
  have c1 := hS.c1
  have HS := veil hS
  have HFC := veil hF
  have HKC := veil hK
  have HB0 : Hid (∀ W, Below (w.heap.size + 1) (w.alloc (.cells #[.bool false, .int .u64 0, .int .u8 0] 25)) W → St W sb qb gq hb gh n most turn R L ∧ (∀ i, W.cell? ⟨w.heap.size, i, none⟩ = (#[.bool false, .int .u64 0, .int .u8 0] : Array Value)[i]?) ∧ (∀ i, W.frozen? ⟨w.heap.size, i, none⟩ = false) ∧ w.heap.size + 1 ≤ W.heap.size ∧ Below w.heap.size w W) := fun W hW => by
    refine ⟨hS.below (by rw [hz]; exact hW), fun i => ?_, fun i => ?_, by rw [← hz]; exact hW.size, hA.trans (hW.mono (by omega))⟩
    · rw [hW.cell (p := ⟨w.heap.size, i, none⟩) (by simp), Ph.cell_new]
    · rw [World.frozen?_of_block (a := ⟨w.heap.size, i, none⟩) (hW.block w.heap.size (by omega)), Ph.frozen_new]
  clear h hF hK hS hA hz
  go_enter Try.func43, Try.ntmps43
  go_wp2_with (first
    | (go_at_call 67; refine (HFC.out _ HS.out).mono ?_; rintro e w1 ⟨rfl, hb1⟩; have HB1 := veil (show Below (w.heap.size + 1) _ w1 by rw [← HZ.out]; exact hb1); obtain ⟨hs1, _, _, hz1, _⟩ := HB0.out _ HB1.out; have HS1 := veil hs1; have c10 := hs1.c0; have c11 := hs1.c1; clear hb1 hs1)
    | (go_at_call 68; refine (HKC.out _ HS1.out).mono ?_; rintro e w2 ⟨rfl, hb2⟩; have HB2 := veil (HB1.out.trans (hb2.mono hz1)); have HB2s := veil hb2; obtain ⟨_, kc, fc, hz2, hB2⟩ := HB0.out _ HB2.out; have HBW := veil hB2; have HB3 := veil (HB0.out _ (HB2.out.alloc hz2 (.cells #[.bool k.e, .int .u64 k.d, .int .u8 k.l] 25))); have k0 := HB3.out.2.1 0; have k1 := HB3.out.2.1 1; have k2 := HB3.out.2.1 2; have f0 := HB3.out.2.2.1 0; have f1 := HB3.out.2.2.1 1; have f2 := HB3.out.2.2.1 2; clear hb2 kc fc hB2))
  have hsz2 : w.heap.size + 1 ≤ w2.heap.size := hz2
  have y0 : ¬ w2.heap.size = w.heap.size := by omega
  have y1 : ¬ w.heap.size = w2.heap.size := by omega
  go_region_held3 (fun w' => w'.cell? ⟨w2.heap.size, 0, none⟩ = some (.bool k.e) ∧ w'.cell? ⟨w2.heap.size, 1, none⟩ = some (.int .u64 k.d) ∧ w'.cell? ⟨w2.heap.size, 2, none⟩ = some (.int .u8 k.l))
    (first | go_keep)
    (fail)
  go_wp2
  refine bodyPost_ret (v := .tuple #[.int .i64 (id : Int), .agg #[.bool k.e, .int .u64 k.d, .int .u8 k.l], .bool true]) ?_ rfl ?_
  · simp [results, Try.f43, go_sem, k0, k1, k2]
  · refine ⟨rfl, ?_⟩
    exact ((((HBW.out.alloc (Nat.le_trans (Nat.le_succ _) hz2) _).setCell (p := ⟨w.heap.size, 0, none⟩) (Nat.le_refl _) _).setCell (p := ⟨w.heap.size, 1, none⟩) (Nat.le_refl _) _).setCell (p := ⟨w.heap.size, 2, none⟩) (Nat.le_refl _) _).drew
theorem pfirst_queue {id lv : Nat} {rest : List Nat} (h : St w sb qb gq hb gh n most turn R []) (hbst : Bq.Best R lv) (hq : Bq.QL R lv = (id + 1) :: rest) :
    Calls Try.prog 67 #[.agg #[.pointer (some ⟨qb, 0, none⟩), .pointer (some ⟨hb, 0, none⟩)]] w fun e w' => e = .returned (.tuple #[.int .i64 (id : Int), .bool true]) ∧ Below w.heap.size w w' := by
  have hA := (Below.refl w.heap.size w).alloc (Nat.le_refl _) (.cells #[.pointer (some ⟨qb, 0, none⟩), .pointer (some ⟨hb, 0, none⟩)] 97)
  have HA := veil hA
  have HM := veil (Ph.hmin_none (h.below hA).h)
  have HT := veil (Bq.top_some _ qb gq n R id lv rest (h.below hA).q hbst hq)
  clear h hA hbst hq
  go_enter Try.func67, Try.ntmps67
  go_wp2_with (first
    | (go_at_call 88; refine (HM.out).mono ?_; rintro e w1 ⟨rfl, hw⟩; subst hw)
    | (go_at_call 89; refine (HT.out).mono ?_; rintro e w2 ⟨rfl, hw⟩; have HB := veil (HA.out.trans (hw.mono HA.out.size)); clear hw))
  go_ret2
  exact ⟨rfl, HB.out⟩
theorem pfirst_none (h : St w sb qb gq hb gh n most turn [] []) :
    Calls Try.prog 67 #[.agg #[.pointer (some ⟨qb, 0, none⟩), .pointer (some ⟨hb, 0, none⟩)]] w fun e w' => e = .returned (.tuple #[.int .i64 0, .bool false]) ∧ Below w.heap.size w w' := by
  have hA := (Below.refl w.heap.size w).alloc (Nat.le_refl _) (.cells #[.pointer (some ⟨qb, 0, none⟩), .pointer (some ⟨hb, 0, none⟩)] 97)
  have HA := veil hA
  have HM := veil (Ph.hmin_none (h.below hA).h)
  have HT := veil (Bq.top_none _ qb gq n (h.below hA).q)
  clear h hA
  go_enter Try.func67, Try.ntmps67
  go_wp2_with (first
    | (go_at_call 88; refine (HM.out).mono ?_; rintro e w1 ⟨rfl, hw⟩; subst hw)
    | (go_at_call 89; refine (HT.out).mono ?_; rintro e w2 ⟨rfl, hw⟩; have HB := veil (HA.out.trans (hw.mono HA.out.size)); clear hw))
  go_ret2
  exact ⟨rfl, HB.out⟩
set_option maxHeartbeats 1000000 in
theorem sremove_queue {R1 R2 : List (Nat × Nat)} {id lv : Nat} (h : St w sb qb gq hb gh n most turn (R1 ++ (id, lv) :: R2) L) :
    Calls Try.prog 59 #[.pointer (some ⟨sb, 0, none⟩), .int .i64 (id : Int)] w fun e w' => e = .returned (.int .i64 0) ∧ St w' sb qb gq hb gh n most turn (R1 ++ R2) L ∧ Fr (fun k => k = qb ∨ k = gq) w w' := by
  have c0 := h.c0
  have c1 := h.c1
  have HS := veil h
  have HR := veil (Bq.remove_some h.q)
  clear h
  go_enter Try.func59, Try.ntmps59
  go_wp2_with (first
    | (go_at_call 83; refine (HR.out).mono ?_; rintro e w2 ⟨rfl, hq, ho⟩; have HX := veil (HS.out.ofQ hq (Fr.of_q ho)); have HF := veil (Fr.of_q ho); clear hq ho))
  go_ret
  exact ⟨rfl, HX.out, HF.out⟩
theorem sremove_none (h : St w sb qb gq hb gh n most turn R L) (id : Nat) (hi : id < n) (hr : ∀ it ∈ R, it.1 ≠ id) (hl : ∀ it ∈ L, it.1 ≠ id) :
    Calls Try.prog 59 #[.pointer (some ⟨sb, 0, none⟩), .int .i64 (id : Int)] w fun e w' => e = .returned (.int .i64 6) ∧ w' = w := by
  have c0 := h.c0
  have c1 := h.c1
  have HR := veil (Bq.remove_none h.q hi hr)
  have HD := veil (Ph.hdelete_none h.h id hi hl)
  clear h hr hl
  go_enter Try.func59, Try.ntmps59
  go_wp2_with (first
    | (go_at_call 83; refine (HR.out).mono ?_; rintro e w1 ⟨rfl, hw⟩; replace hw := hw.symm; subst hw)
    | (go_at_call 84; refine (HD.out).mono ?_; rintro e w1 ⟨rfl, hw⟩; replace hw := hw.symm; subst hw))
  go_ret
  exact ⟨rfl, rfl⟩
theorem sremove_range (h : St w sb qb gq hb gh n most turn R L) (id : Int) (hi : id < 0 ∨ (n : Int) ≤ id) :
    Calls Try.prog 59 #[.pointer (some ⟨sb, 0, none⟩), .int .i64 id] w fun e w' => e = .returned (.int .i64 2) ∧ w' = w := by
  have c0 := h.c0
  have c1 := h.c1
  have HR := veil (Bq.remove_range h.q id hi)
  clear h hi
  go_enter Try.func59, Try.ntmps59
  go_wp2_with (first
    | (go_at_call 83; refine (HR.out).mono ?_; rintro e w1 ⟨rfl, hw⟩; replace hw := hw.symm; subst hw))
  go_ret
  exact ⟨rfl, rfl⟩
set_option maxHeartbeats 1000000 in
theorem stop_none (h : St w sb qb gq hb gh n most turn [] []) :
    Calls Try.prog 43 #[.pointer (some ⟨sb, 0, none⟩)] w fun e w' => e = .returned (.tuple #[.int .i64 0, .agg #[.bool false, .int .u64 0, .int .u8 0], .bool false]) ∧ Below w.heap.size w w' := by
  have hz : (w.alloc (.cells #[.bool false, .int .u64 0, .int .u8 0] 25)).heap.size = w.heap.size + 1 := by simp
  have HZ := veil hz
  have hS := h.below ((Below.refl w.heap.size w).alloc (Nat.le_refl _) (.cells #[.bool false, .int .u64 0, .int .u8 0] 25))
  have c0 := hS.c0
  have c1 := hS.c1
  have HS := veil hS
  clear hz h hS
  go_enter Try.func43, Try.ntmps43
  go_wp2_with (go_at_call 67; refine (pfirst_none HS.out).mono ?_; rintro e w1 ⟨rfl, hb1⟩; have HB := veil (((Below.refl w.heap.size w).alloc (Nat.le_refl _) (.cells #[.bool false, .int .u64 0, .int .u8 0] 25)).trans (hb1.mono (by simp))); have hz1 : w.heap.size + 1 ≤ w1.heap.size := (by rw [← HZ.out]; exact hb1.size); have k0 : w1.cell? ⟨w.heap.size, 0, none⟩ = some (.bool false) := (hb1.cell (p := ⟨w.heap.size, 0, none⟩) (by simp)).trans (Ph.cell_new _ _ _ _); have k1 : w1.cell? ⟨w.heap.size, 1, none⟩ = some (.int .u64 0) := (hb1.cell (p := ⟨w.heap.size, 1, none⟩) (by simp)).trans (Ph.cell_new _ _ _ _); have k2 : w1.cell? ⟨w.heap.size, 2, none⟩ = some (.int .u8 0) := (hb1.cell (p := ⟨w.heap.size, 2, none⟩) (by simp)).trans (Ph.cell_new _ _ _ _); have f0 : w1.frozen? ⟨w.heap.size, 0, none⟩ = false := (World.frozen?_of_block (a := ⟨w.heap.size, 0, none⟩) (hb1.block w.heap.size (by simp))).trans (Ph.frozen_new _ _ _ _); have f1 : w1.frozen? ⟨w.heap.size, 1, none⟩ = false := (World.frozen?_of_block (a := ⟨w.heap.size, 1, none⟩) (hb1.block w.heap.size (by simp))).trans (Ph.frozen_new _ _ _ _); have f2 : w1.frozen? ⟨w.heap.size, 2, none⟩ = false := (World.frozen?_of_block (a := ⟨w.heap.size, 2, none⟩) (hb1.block w.heap.size (by simp))).trans (Ph.frozen_new _ _ _ _); clear hb1)
  trace_state
  refine bodyPost_ret (v := .tuple #[.int .i64 0, .agg #[.bool false, .int .u64 0, .int .u8 0], .bool false]) ?_ rfl ?_
  · simp [results, Try.f43, go_sem, k0, k1, k2]
  · refine ⟨rfl, ?_⟩
    first
      | exact HB.out
      | exact ((HB.out.setCell (p := ⟨w.heap.size, 0, none⟩) (Nat.le_refl _) _).setCell (p := ⟨w.heap.size, 1, none⟩) (Nat.le_refl _) _).setCell (p := ⟨w.heap.size, 2, none⟩) (Nat.le_refl _) _
      | exact (((HB.out.setCell (p := ⟨w.heap.size, 0, none⟩) (Nat.le_refl _) _).setCell (p := ⟨w.heap.size, 1, none⟩) (Nat.le_refl _) _).setCell (p := ⟨w.heap.size, 2, none⟩) (Nat.le_refl _) _).drew
end
end Go.Proofs.Ytlfejgjhamcahaa
