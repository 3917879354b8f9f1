/-
  A set's Top and Take, whatever is first; one of the queue.
-/
import Derived.Test.YtfadckkebfgheaaY5
namespace Go.Proofs.Ytfadckkebfgheaa
open Go.RowKit
attribute [local go_sem ↓] Go.wp_at_zero Go.wp_at_succ

def Own (qb gq hb gh : Nat) (k : Nat) : Prop := (k = qb ∨ k = gq) ∨ k = hb ∨ k = gh
section
variable {w w' : World} {sb qb gq hb gh n most turn : Nat} {R R' : List (Nat × Nat)} {L L' : List Ph.Item}
set_option maxHeartbeats 1000000 in
theorem pkey_level {R1 R2 : List (Nat × Nat)} {id lv : Nat} (h : St w sb qb gq hb gh n most turn (R1 ++ (id, lv) :: R2) L) :
    Calls Try.prog 40 #[.agg #[.pointer (some ⟨qb, 0, none⟩), .pointer (some ⟨hb, 0, none⟩)], .int .i64 (id : Int)] w fun e w' => e = .returned (.tuple #[.agg #[.bool false, .int .u64 0, .int .u8 (lv : Int)], .bool true]) ∧ Below w.heap.size w w' := by
  have hA := ((Below.refl w.heap.size w).alloc (Nat.le_refl _) (.cells #[.pointer (some ⟨qb, 0, none⟩), .pointer (some ⟨hb, 0, none⟩)] 64)).alloc (by simp) (.cells #[.bool false, .int .u64 0, .int .u8 0] 34)
  have HA := veil hA
  have HS := veil (h.below hA)
  have hz : ((w.alloc (.cells #[.pointer (some ⟨qb, 0, none⟩), .pointer (some ⟨hb, 0, none⟩)] 64)).alloc (.cells #[.bool false, .int .u64 0, .int .u8 0] 34)).heap.size = w.heap.size + 2 := by simp
  have HZ := veil hz
  have c1 : ((w.alloc (.cells #[.pointer (some ⟨qb, 0, none⟩), .pointer (some ⟨hb, 0, none⟩)] 64)).alloc (.cells #[.bool false, .int .u64 0, .int .u8 0] 34)).cell? ⟨w.heap.size, 1, none⟩ = some (.pointer (some ⟨hb, 0, none⟩)) := by
    rw [World.cell?_alloc_lt _ _ _ (by simp), Ph.cell_new]; rfl
  have CK : Hid (∀ i, ((w.alloc (.cells #[.pointer (some ⟨qb, 0, none⟩), .pointer (some ⟨hb, 0, none⟩)] 64)).alloc (.cells #[.bool false, .int .u64 0, .int .u8 0] 34)).cell? ⟨w.heap.size + 1, i, none⟩ = (#[.bool false, .int .u64 0, .int .u8 0] : Array Value)[i]?) := fun i => by
    rw [show w.heap.size + 1 = (w.alloc (.cells #[.pointer (some ⟨qb, 0, none⟩), .pointer (some ⟨hb, 0, none⟩)] 64)).heap.size by simp]; exact Ph.cell_new _ _ _ _
  have CF : Hid (∀ i, ((w.alloc (.cells #[.pointer (some ⟨qb, 0, none⟩), .pointer (some ⟨hb, 0, none⟩)] 64)).alloc (.cells #[.bool false, .int .u64 0, .int .u8 0] 34)).frozen? ⟨w.heap.size + 1, i, none⟩ = false) := fun i => by
    rw [show w.heap.size + 1 = (w.alloc (.cells #[.pointer (some ⟨qb, 0, none⟩), .pointer (some ⟨hb, 0, none⟩)] 64)).heap.size by simp]; exact Ph.frozen_new _ _ _ _
  have C1 := veil c1
  clear h hA hz c1
  go_enter Try.func40, Try.ntmps40
  go_wp2_with (first
    | (go_at_call 57; refine (Bq.level_some HS.out.q).mono ?_; rintro e w3 ⟨rfl, hb3⟩; have HB3 := veil hb3; clear hb3)
    | (go_at_call 27; refine (Ke.fixed_ok _ (lv : Int)).mono ?_; rintro e w2 ⟨rfl, hb2⟩; have HB2 := veil (HB3.out.trans (hb2.mono HB3.out.size)); have s2 := HB2.out.size; have k0 := (HB2.out.cell (p := ⟨w.heap.size + 1, 0, none⟩) (by rw [HZ.out]; simp)).trans (CK.out 0); have k1 := (HB2.out.cell (p := ⟨w.heap.size + 1, 1, none⟩) (by rw [HZ.out]; simp)).trans (CK.out 1); have k2 := (HB2.out.cell (p := ⟨w.heap.size + 1, 2, none⟩) (by rw [HZ.out]; simp)).trans (CK.out 2); have f0 := (World.frozen?_of_block (a := ⟨w.heap.size + 1, 0, none⟩) (HB2.out.block (w.heap.size + 1) (by rw [HZ.out]; simp))).trans (CF.out 0); have f1 := (World.frozen?_of_block (a := ⟨w.heap.size + 1, 1, none⟩) (HB2.out.block (w.heap.size + 1) (by rw [HZ.out]; simp))).trans (CF.out 1); have f2 := (World.frozen?_of_block (a := ⟨w.heap.size + 1, 2, none⟩) (HB2.out.block (w.heap.size + 1) (by rw [HZ.out]; simp))).trans (CF.out 2); have hW := veil ((HA.out.trans (HB2.out.mono (by rw [HZ.out]; omega)))); clear hb2))
  refine bodyPost_ret (v := .tuple #[.agg #[.bool false, .int .u64 0, .int .u8 (lv : Int)], .bool true]) ?_ rfl ?_
  · simp [results, Try.f40, go_sem, k0, k1, k2, Ke.fixK]
  · refine ⟨rfl, ?_⟩
    exact ((hW.out.setCell (p := ⟨w.heap.size + 1, 0, none⟩) (by simp) _).setCell (p := ⟨w.heap.size + 1, 1, none⟩) (by simp) _).setCell (p := ⟨w.heap.size + 1, 2, none⟩) (by simp) _

set_option maxHeartbeats 1000000 in
theorem stop_any (h : St w sb qb gq hb gh n most turn R L) (id : Nat) (k : Ke.K) (hF : ∀ W, St W sb qb gq hb gh n most turn R L → Calls Try.prog 49 #[.agg #[.pointer (some ⟨qb, 0, none⟩), .pointer (some ⟨hb, 0, none⟩)]] W fun e w' => e = .returned (.tuple #[.int .i64 (id : Int), .bool true]) ∧ Below W.heap.size W w') (hK : ∀ W, St W sb qb gq hb gh n most turn R L → Calls Try.prog 40 #[.agg #[.pointer (some ⟨qb, 0, none⟩), .pointer (some ⟨hb, 0, none⟩)], .int .i64 (id : Int)] W fun e w' => e = .returned (.tuple #[.agg #[.bool k.e, .int .u64 k.d, .int .u8 k.l], .bool true]) ∧ Below W.heap.size W w') :
    Calls Try.prog 24 #[.pointer (some ⟨sb, 0, none⟩)] w fun e w' => e = .returned (.tuple #[.int .i64 (id : Int), .agg #[.bool k.e, .int .u64 k.d, .int .u8 k.l], .bool true]) ∧ Below w.heap.size w w' := by
  have hA := (Below.refl w.heap.size w).alloc (Nat.le_refl _) (.cells #[.bool false, .int .u64 0, .int .u8 0] 34)
  have hS := h.below hA
  have hz : (w.alloc (.cells #[.bool false, .int .u64 0, .int .u8 0] 34)).heap.size = w.heap.size + 1 := by simp
  have HZ := veil hz
  have c0 := hS.c0
  have c1 := hS.c1
  have HS := veil hS
  have HFC := veil hF
  have HKC := veil hK
  have HB0 : Hid (∀ W, Below (w.heap.size + 1) (w.alloc (.cells #[.bool false, .int .u64 0, .int .u8 0] 34)) W → St W sb qb gq hb gh n most turn R L ∧ (∀ i, W.cell? ⟨w.heap.size, i, none⟩ = (#[.bool false, .int .u64 0, .int .u8 0] : Array Value)[i]?) ∧ (∀ i, W.frozen? ⟨w.heap.size, i, none⟩ = false) ∧ w.heap.size + 1 ≤ W.heap.size ∧ Below w.heap.size w W) := fun W hW => by
    refine ⟨hS.below (by rw [hz]; exact hW), fun i => ?_, fun i => ?_, by rw [← hz]; exact hW.size, hA.trans (hW.mono (by omega))⟩
    · rw [hW.cell (p := ⟨w.heap.size, i, none⟩) (by simp), Ph.cell_new]
    · rw [World.frozen?_of_block (a := ⟨w.heap.size, i, none⟩) (hW.block w.heap.size (by omega)), Ph.frozen_new]
  clear h hF hK hS hA hz
  go_enter Try.func24, Try.ntmps24
  go_wp2_with (first
    | (go_at_call 49; refine (HFC.out _ HS.out).mono ?_; rintro e w1 ⟨rfl, hb1⟩; have HB1 := veil (show Below (w.heap.size + 1) _ w1 by rw [← HZ.out]; exact hb1); obtain ⟨hs1, _, _, hz1, _⟩ := HB0.out _ HB1.out; have HS1 := veil hs1; have c10 := hs1.c0; have c11 := hs1.c1; clear hb1 hs1)
    | (go_at_call 40; refine (HKC.out _ HS1.out).mono ?_; rintro e w2 ⟨rfl, hb2⟩; have HB2 := veil (HB1.out.trans (hb2.mono hz1)); have HB2s := veil hb2; obtain ⟨_, kc, fc, hz2, hB2⟩ := HB0.out _ HB2.out; have HBW := veil hB2; have HB3 := veil (HB0.out _ (HB2.out.alloc hz2 (.cells #[.bool k.e, .int .u64 k.d, .int .u8 k.l] 34))); have k0 := HB3.out.2.1 0; have k1 := HB3.out.2.1 1; have k2 := HB3.out.2.1 2; have f0 := HB3.out.2.2.1 0; have f1 := HB3.out.2.2.1 1; have f2 := HB3.out.2.2.1 2; clear hb2 kc fc hB2))
  have hsz2 : w.heap.size + 1 ≤ w2.heap.size := hz2
  have y0 : ¬ w2.heap.size = w.heap.size := by omega
  have y1 : ¬ w.heap.size = w2.heap.size := by omega
  go_region_held3 (fun w' => w'.cell? ⟨w2.heap.size, 0, none⟩ = some (.bool k.e) ∧ w'.cell? ⟨w2.heap.size, 1, none⟩ = some (.int .u64 k.d) ∧ w'.cell? ⟨w2.heap.size, 2, none⟩ = some (.int .u8 k.l))
    (first | go_keep)
    (fail)
  go_wp2
  refine bodyPost_ret (v := .tuple #[.int .i64 (id : Int), .agg #[.bool k.e, .int .u64 k.d, .int .u8 k.l], .bool true]) ?_ rfl ?_
  · simp [results, Try.f24, go_sem, k0, k1, k2]
  · refine ⟨rfl, ?_⟩
    exact ((((HBW.out.alloc (Nat.le_trans (Nat.le_succ _) hz2) _).setCell (p := ⟨w.heap.size, 0, none⟩) (Nat.le_refl _) _).setCell (p := ⟨w.heap.size, 1, none⟩) (Nat.le_refl _) _).setCell (p := ⟨w.heap.size, 2, none⟩) (Nat.le_refl _) _).drew
set_option maxHeartbeats 1000000 in
theorem stake_any (h : St w sb qb gq hb gh n most turn R L) (id : Nat) (k : Ke.K) (hT : ∀ W, St W sb qb gq hb gh n most turn R L → Calls Try.prog 24 #[.pointer (some ⟨sb, 0, none⟩)] W fun e w' => e = .returned (.tuple #[.int .i64 (id : Int), .agg #[.bool k.e, .int .u64 k.d, .int .u8 k.l], .bool true]) ∧ Below W.heap.size W w') (hR : ∀ W, St W sb qb gq hb gh n most turn R L → Calls Try.prog 25 #[.pointer (some ⟨sb, 0, none⟩), .int .i64 (id : Int)] W fun e w' => e = .returned (.int .i64 0) ∧ St w' sb qb gq hb gh n most turn R' L' ∧ Fr (Own qb gq hb gh) W w') :
    Calls Try.prog 15 #[.pointer (some ⟨sb, 0, none⟩)] w fun e w' => e = .returned (.tuple #[.int .i64 (id : Int), .agg #[.bool k.e, .int .u64 k.d, .int .u8 k.l], .bool true]) ∧ St w' sb qb gq hb gh n most turn R' L' ∧ Fr (Own qb gq hb gh) w w' := by
  have hA := (Below.refl w.heap.size w).alloc (Nat.le_refl _) (.cells #[.bool false, .int .u64 0, .int .u8 0] 34)
  have hS := h.below hA
  have hz : (w.alloc (.cells #[.bool false, .int .u64 0, .int .u8 0] 34)).heap.size = w.heap.size + 1 := by simp
  have HZ := veil hz
  have HT := veil (hT _ hS)
  have HB0 : Hid (∀ W, Below (w.heap.size + 1) (w.alloc (.cells #[.bool false, .int .u64 0, .int .u8 0] 34)) W → St W sb qb gq hb gh n most turn R L ∧ (∀ i, W.cell? ⟨w.heap.size, i, none⟩ = (#[.bool false, .int .u64 0, .int .u8 0] : Array Value)[i]?) ∧ (∀ i, W.frozen? ⟨w.heap.size, i, none⟩ = false) ∧ w.heap.size + 1 ≤ W.heap.size ∧ Below w.heap.size w W) := fun W hW => by
    refine ⟨hS.below (by rw [hz]; exact hW), fun i => ?_, fun i => ?_, by rw [← hz]; exact hW.size, hA.trans (hW.mono (by omega))⟩
    · rw [hW.cell (p := ⟨w.heap.size, i, none⟩) (by simp), Ph.cell_new]
    · rw [World.frozen?_of_block (a := ⟨w.heap.size, i, none⟩) (hW.block w.heap.size (by omega)), Ph.frozen_new]
  have HRm := veil hR
  have hnb : ¬ Own qb gq hb gh w.heap.size := by have := h.h.blocks; have := h.q.blocks; unfold Own; omega
  have HNS : Hid (¬ sb = w.heap.size ∧ ¬ qb = w.heap.size ∧ ¬ gq = w.heap.size ∧ ¬ hb = w.heap.size ∧ ¬ gh = w.heap.size) := by have := h.h.blocks; have := h.q.blocks; have := h.lt; unfold Hid; omega
  have NB := veil hnb
  clear h hT hR hS hA hz hnb
  go_enter Try.func15, Try.ntmps15
  go_wp2_with (first
    | (go_at_call 24; refine (HT.out).mono ?_; rintro e w1 ⟨rfl, hb1⟩; have HB1 := veil (show Below (w.heap.size + 1) _ w1 by rw [← HZ.out]; exact hb1); obtain ⟨_, _, _, hz1, _⟩ := HB0.out _ HB1.out; have HB2 := veil (HB0.out _ (HB1.out.alloc hz1 (.cells #[.bool k.e, .int .u64 k.d, .int .u8 k.l] 34))); have hn1 : ¬ Own qb gq hb gh w1.heap.size := (by have := (HB0.out _ HB1.out).1.q.blocks; have := (HB0.out _ HB1.out).1.h.blocks; unfold Own; omega); clear hb1)
    | (go_at_call 25; refine (HRm.out _ HB2.out.1).mono ?_; rintro e w2 ⟨rfl, hx, hf⟩; have HX := veil hx; have HF := veil hf; have k0 := (hf.cell (a := ⟨w.heap.size, 0, none⟩) (by simp; omega) NB.out).trans (HB2.out.2.1 0); have k1 := (hf.cell (a := ⟨w.heap.size, 1, none⟩) (by simp; omega) NB.out).trans (HB2.out.2.1 1); have k2 := (hf.cell (a := ⟨w.heap.size, 2, none⟩) (by simp; omega) NB.out).trans (HB2.out.2.1 2); have f0 := (hf.frozen (a := ⟨w.heap.size, 0, none⟩) (by simp; omega) NB.out).trans (HB2.out.2.2.1 0); have f1 := (hf.frozen (a := ⟨w.heap.size, 1, none⟩) (by simp; omega) NB.out).trans (HB2.out.2.2.1 1); have f2 := (hf.frozen (a := ⟨w.heap.size, 2, none⟩) (by simp; omega) NB.out).trans (HB2.out.2.2.1 2); have l0 := (hf.cell (a := ⟨w1.heap.size, 0, none⟩) (by simp) hn1).trans (Ph.cell_new _ _ _ _); have l1 := (hf.cell (a := ⟨w1.heap.size, 1, none⟩) (by simp) hn1).trans (Ph.cell_new _ _ _ _); have l2 := (hf.cell (a := ⟨w1.heap.size, 2, none⟩) (by simp) hn1).trans (Ph.cell_new _ _ _ _); clear hx hf))
  have y0 : ¬ w1.heap.size = w.heap.size := by omega
  have y1 : ¬ w.heap.size = w1.heap.size := by omega
  have HE : Hid (∀ (a b c : Value), St ((((w2.setCell ⟨w.heap.size, 0, none⟩ a).setCell ⟨w.heap.size, 1, none⟩ b).setCell ⟨w.heap.size, 2, none⟩ c).drew) sb qb gq hb gh n most turn R' L' ∧ Fr (Own qb gq hb gh) w ((((w2.setCell ⟨w.heap.size, 0, none⟩ a).setCell ⟨w.heap.size, 1, none⟩ b).setCell ⟨w.heap.size, 2, none⟩ c).drew)) := fun a b c => by
    have F1 : Fr (fun k => k = w.heap.size) w2 ((((w2.setCell ⟨w.heap.size, 0, none⟩ a).setCell ⟨w.heap.size, 1, none⟩ b).setCell ⟨w.heap.size, 2, none⟩ c).drewN 1) := (Fr.setCell (a := ⟨w.heap.size, 2, none⟩) (Fr.setCell (a := ⟨w.heap.size, 1, none⟩) (Fr.setCell (S := fun k => k = w.heap.size) (a := ⟨w.heap.size, 0, none⟩) (Fr.refl _ _) rfl a) rfl b) rfl c).drewN 1
    have F0 : Fr (fun k => Own qb gq hb gh k ∨ w.heap.size ≤ k) w w2 := (Fr.of_below' HB2.out.2.2.2.2).trans (HF.out.wide (fun k _ q => .inl q))
    refine ⟨HX.out.frame F1 HNS.out.1 HNS.out.2.1 HNS.out.2.2.1 HNS.out.2.2.2.1 HNS.out.2.2.2.2, ?_⟩
    exact (F0.trans (F1.wide (fun k _ q => .inr (by omega)))).wide (fun k hk q => q.elim (fun z => z) (fun h => by omega))
  go_region_held3 (fun w' => w'.cell? ⟨w1.heap.size, 0, none⟩ = some (.bool k.e) ∧ w'.cell? ⟨w1.heap.size, 1, none⟩ = some (.int .u64 k.d) ∧ w'.cell? ⟨w1.heap.size, 2, none⟩ = some (.int .u8 k.l))
    (first | go_keep)
    (fail)
  go_wp2
  refine bodyPost_ret (v := .tuple #[.int .i64 (id : Int), .agg #[.bool k.e, .int .u64 k.d, .int .u8 k.l], .bool true]) ?_ rfl ?_
  · simp [results, Try.f15, go_sem, k0, k1, k2]
  · exact ⟨rfl, (HE.out _ _ _).1, (HE.out _ _ _).2⟩

theorem pfirst_queue {id lv : Nat} {rest : List Nat} (h : St w sb qb gq hb gh n most turn R []) (hbst : Bq.Best R lv) (hq : Bq.QL R lv = (id + 1) :: rest) :
    Calls Try.prog 49 #[.agg #[.pointer (some ⟨qb, 0, none⟩), .pointer (some ⟨hb, 0, none⟩)]] w fun e w' => e = .returned (.tuple #[.int .i64 (id : Int), .bool true]) ∧ Below w.heap.size w w' := by
  have hA := (Below.refl w.heap.size w).alloc (Nat.le_refl _) (.cells #[.pointer (some ⟨qb, 0, none⟩), .pointer (some ⟨hb, 0, none⟩)] 64)
  have HA := veil hA
  have HM := veil (Ph.hmin_none (h.below hA).h)
  have HT := veil (Bq.top_some _ qb gq n R id lv rest (h.below hA).q hbst hq)
  clear h hA hbst hq
  go_enter Try.func49, Try.ntmps49
  go_wp2_with (first
    | (go_at_call 66; refine (HM.out).mono ?_; rintro e w1 ⟨rfl, hw⟩; subst hw)
    | (go_at_call 67; refine (HT.out).mono ?_; rintro e w2 ⟨rfl, hw⟩; have HB := veil (HA.out.trans (hw.mono HA.out.size)); clear hw))
  go_ret2
  exact ⟨rfl, HB.out⟩
theorem pfirst_none (h : St w sb qb gq hb gh n most turn [] []) :
    Calls Try.prog 49 #[.agg #[.pointer (some ⟨qb, 0, none⟩), .pointer (some ⟨hb, 0, none⟩)]] w fun e w' => e = .returned (.tuple #[.int .i64 0, .bool false]) ∧ Below w.heap.size w w' := by
  have hA := (Below.refl w.heap.size w).alloc (Nat.le_refl _) (.cells #[.pointer (some ⟨qb, 0, none⟩), .pointer (some ⟨hb, 0, none⟩)] 64)
  have HA := veil hA
  have HM := veil (Ph.hmin_none (h.below hA).h)
  have HT := veil (Bq.top_none _ qb gq n (h.below hA).q)
  clear h hA
  go_enter Try.func49, Try.ntmps49
  go_wp2_with (first
    | (go_at_call 66; refine (HM.out).mono ?_; rintro e w1 ⟨rfl, hw⟩; subst hw)
    | (go_at_call 67; refine (HT.out).mono ?_; rintro e w2 ⟨rfl, hw⟩; have HB := veil (HA.out.trans (hw.mono HA.out.size)); clear hw))
  go_ret2
  exact ⟨rfl, HB.out⟩
set_option maxHeartbeats 1000000 in
theorem sremove_queue {R1 R2 : List (Nat × Nat)} {id lv : Nat} (h : St w sb qb gq hb gh n most turn (R1 ++ (id, lv) :: R2) L) :
    Calls Try.prog 25 #[.pointer (some ⟨sb, 0, none⟩), .int .i64 (id : Int)] w fun e w' => e = .returned (.int .i64 0) ∧ St w' sb qb gq hb gh n most turn (R1 ++ R2) L ∧ Fr (fun k => k = qb ∨ k = gq) w w' := by
  have c0 := h.c0
  have c1 := h.c1
  have HS := veil h
  have HR := veil (Bq.remove_some h.q)
  clear h
  go_enter Try.func25, Try.ntmps25
  go_wp2_with (first
    | (go_at_call 50; refine (HR.out).mono ?_; rintro e w2 ⟨rfl, hq, ho⟩; have HX := veil (HS.out.ofQ hq (Fr.of_q ho)); have HF := veil (Fr.of_q ho); clear hq ho))
  go_ret
  exact ⟨rfl, HX.out, HF.out⟩
theorem sremove_none (h : St w sb qb gq hb gh n most turn R L) (id : Nat) (hi : id < n) (hr : ∀ it ∈ R, it.1 ≠ id) (hl : ∀ it ∈ L, it.1 ≠ id) :
    Calls Try.prog 25 #[.pointer (some ⟨sb, 0, none⟩), .int .i64 (id : Int)] w fun e w' => e = .returned (.int .i64 6) ∧ w' = w := by
  have c0 := h.c0
  have c1 := h.c1
  have HR := veil (Bq.remove_none h.q hi hr)
  have HD := veil (Ph.hdelete_none h.h id hi hl)
  clear h hr hl
  go_enter Try.func25, Try.ntmps25
  go_wp2_with (first
    | (go_at_call 50; refine (HR.out).mono ?_; rintro e w1 ⟨rfl, hw⟩; replace hw := hw.symm; subst hw)
    | (go_at_call 51; refine (HD.out).mono ?_; rintro e w1 ⟨rfl, hw⟩; replace hw := hw.symm; subst hw))
  go_ret
  exact ⟨rfl, rfl⟩
theorem sremove_range (h : St w sb qb gq hb gh n most turn R L) (id : Int) (hi : id < 0 ∨ (n : Int) ≤ id) :
    Calls Try.prog 25 #[.pointer (some ⟨sb, 0, none⟩), .int .i64 id] w fun e w' => e = .returned (.int .i64 2) ∧ w' = w := by
  have c0 := h.c0
  have c1 := h.c1
  have HR := veil (Bq.remove_range h.q id hi)
  clear h hi
  go_enter Try.func25, Try.ntmps25
  go_wp2_with (first
    | (go_at_call 50; refine (HR.out).mono ?_; rintro e w1 ⟨rfl, hw⟩; replace hw := hw.symm; subst hw))
  go_ret
  exact ⟨rfl, rfl⟩
set_option maxHeartbeats 1000000 in
theorem stop_none (h : St w sb qb gq hb gh n most turn [] []) :
    Calls Try.prog 24 #[.pointer (some ⟨sb, 0, none⟩)] w fun e w' => e = .returned (.tuple #[.int .i64 0, .agg #[.bool false, .int .u64 0, .int .u8 0], .bool false]) ∧ Below w.heap.size w w' := by
  have hz : (w.alloc (.cells #[.bool false, .int .u64 0, .int .u8 0] 34)).heap.size = w.heap.size + 1 := by simp
  have HZ := veil hz
  have hS := h.below ((Below.refl w.heap.size w).alloc (Nat.le_refl _) (.cells #[.bool false, .int .u64 0, .int .u8 0] 34))
  have c0 := hS.c0
  have c1 := hS.c1
  have HS := veil hS
  clear hz h hS
  go_enter Try.func24, Try.ntmps24
  go_wp2_with (go_at_call 49; refine (pfirst_none HS.out).mono ?_; rintro e w1 ⟨rfl, hb1⟩; have HB := veil (((Below.refl w.heap.size w).alloc (Nat.le_refl _) (.cells #[.bool false, .int .u64 0, .int .u8 0] 34)).trans (hb1.mono (by simp))); have hz1 : w.heap.size + 1 ≤ w1.heap.size := (by rw [← HZ.out]; exact hb1.size); have k0 : w1.cell? ⟨w.heap.size, 0, none⟩ = some (.bool false) := (hb1.cell (p := ⟨w.heap.size, 0, none⟩) (by simp)).trans (Ph.cell_new _ _ _ _); have k1 : w1.cell? ⟨w.heap.size, 1, none⟩ = some (.int .u64 0) := (hb1.cell (p := ⟨w.heap.size, 1, none⟩) (by simp)).trans (Ph.cell_new _ _ _ _); have k2 : w1.cell? ⟨w.heap.size, 2, none⟩ = some (.int .u8 0) := (hb1.cell (p := ⟨w.heap.size, 2, none⟩) (by simp)).trans (Ph.cell_new _ _ _ _); have f0 : w1.frozen? ⟨w.heap.size, 0, none⟩ = false := (World.frozen?_of_block (a := ⟨w.heap.size, 0, none⟩) (hb1.block w.heap.size (by simp))).trans (Ph.frozen_new _ _ _ _); have f1 : w1.frozen? ⟨w.heap.size, 1, none⟩ = false := (World.frozen?_of_block (a := ⟨w.heap.size, 1, none⟩) (hb1.block w.heap.size (by simp))).trans (Ph.frozen_new _ _ _ _); have f2 : w1.frozen? ⟨w.heap.size, 2, none⟩ = false := (World.frozen?_of_block (a := ⟨w.heap.size, 2, none⟩) (hb1.block w.heap.size (by simp))).trans (Ph.frozen_new _ _ _ _); clear hb1)
  trace_state
  refine bodyPost_ret (v := .tuple #[.int .i64 0, .agg #[.bool false, .int .u64 0, .int .u8 0], .bool false]) ?_ rfl ?_
  · simp [results, Try.f24, go_sem, k0, k1, k2]
  · refine ⟨rfl, ?_⟩
    first
      | exact HB.out
      | exact ((HB.out.setCell (p := ⟨w.heap.size, 0, none⟩) (Nat.le_refl _) _).setCell (p := ⟨w.heap.size, 1, none⟩) (Nat.le_refl _) _).setCell (p := ⟨w.heap.size, 2, none⟩) (Nat.le_refl _) _
      | exact (((HB.out.setCell (p := ⟨w.heap.size, 0, none⟩) (Nat.le_refl _) _).setCell (p := ⟨w.heap.size, 1, none⟩) (Nat.le_refl _) _).setCell (p := ⟨w.heap.size, 2, none⟩) (Nat.le_refl _) _).drew
set_option maxHeartbeats 1000000 in
theorem stake_none (h : St w sb qb gq hb gh n most turn [] []) :
    Calls Try.prog 15 #[.pointer (some ⟨sb, 0, none⟩)] w fun e w' => e = .returned (.tuple #[.int .i64 0, .agg #[.bool false, .int .u64 0, .int .u8 0], .bool false]) ∧ Below w.heap.size w w' := by
  have hz : (w.alloc (.cells #[.bool false, .int .u64 0, .int .u8 0] 34)).heap.size = w.heap.size + 1 := by simp
  have HZ := veil hz
  have HS := veil (h.below ((Below.refl w.heap.size w).alloc (Nat.le_refl _) (.cells #[.bool false, .int .u64 0, .int .u8 0] 34)))
  clear hz h
  go_enter Try.func15, Try.ntmps15
  go_wp2_with (go_at_call 24; refine (stop_none HS.out).mono ?_; rintro e w1 ⟨rfl, hb1⟩; have HB := veil (((Below.refl w.heap.size w).alloc (Nat.le_refl _) (.cells #[.bool false, .int .u64 0, .int .u8 0] 34)).trans (hb1.mono (by simp))); have hz1 : w.heap.size + 1 ≤ w1.heap.size := (by rw [← HZ.out]; exact hb1.size); have k0 : w1.cell? ⟨w.heap.size, 0, none⟩ = some (.bool false) := (hb1.cell (p := ⟨w.heap.size, 0, none⟩) (by simp)).trans (Ph.cell_new _ _ _ _); have k1 : w1.cell? ⟨w.heap.size, 1, none⟩ = some (.int .u64 0) := (hb1.cell (p := ⟨w.heap.size, 1, none⟩) (by simp)).trans (Ph.cell_new _ _ _ _); have k2 : w1.cell? ⟨w.heap.size, 2, none⟩ = some (.int .u8 0) := (hb1.cell (p := ⟨w.heap.size, 2, none⟩) (by simp)).trans (Ph.cell_new _ _ _ _); have f0 : w1.frozen? ⟨w.heap.size, 0, none⟩ = false := (World.frozen?_of_block (a := ⟨w.heap.size, 0, none⟩) (hb1.block w.heap.size (by simp))).trans (Ph.frozen_new _ _ _ _); have f1 : w1.frozen? ⟨w.heap.size, 1, none⟩ = false := (World.frozen?_of_block (a := ⟨w.heap.size, 1, none⟩) (hb1.block w.heap.size (by simp))).trans (Ph.frozen_new _ _ _ _); have f2 : w1.frozen? ⟨w.heap.size, 2, none⟩ = false := (World.frozen?_of_block (a := ⟨w.heap.size, 2, none⟩) (hb1.block w.heap.size (by simp))).trans (Ph.frozen_new _ _ _ _); clear hb1)
  have K0 : (w1.alloc (.cells #[.bool false, .int .u64 0, .int .u8 0] 34)).cell? ⟨w.heap.size, 0, none⟩ = some (.bool false) := by rw [World.cell?_alloc_lt _ _ _ (by simp; omega)]; exact k0
  have G0 : (w1.alloc (.cells #[.bool false, .int .u64 0, .int .u8 0] 34)).frozen? ⟨w.heap.size, 0, none⟩ = false := (World.frozen?_alloc_past _ _ _ (by omega)).trans f0
  have K1 : (w1.alloc (.cells #[.bool false, .int .u64 0, .int .u8 0] 34)).cell? ⟨w.heap.size, 1, none⟩ = some (.int .u64 0) := by rw [World.cell?_alloc_lt _ _ _ (by simp; omega)]; exact k1
  have G1 : (w1.alloc (.cells #[.bool false, .int .u64 0, .int .u8 0] 34)).frozen? ⟨w.heap.size, 1, none⟩ = false := (World.frozen?_alloc_past _ _ _ (by omega)).trans f1
  have K2 : (w1.alloc (.cells #[.bool false, .int .u64 0, .int .u8 0] 34)).cell? ⟨w.heap.size, 2, none⟩ = some (.int .u8 0) := by rw [World.cell?_alloc_lt _ _ _ (by simp; omega)]; exact k2
  have G2 : (w1.alloc (.cells #[.bool false, .int .u64 0, .int .u8 0] 34)).frozen? ⟨w.heap.size, 2, none⟩ = false := (World.frozen?_alloc_past _ _ _ (by omega)).trans f2
  clear k0 k1 k2 f0 f1 f2
  have y0 : ¬ w1.heap.size = w.heap.size := by omega
  have y1 : ¬ w.heap.size = w1.heap.size := by omega
  go_region_held3 (fun w' => w'.cell? ⟨w1.heap.size, 0, none⟩ = some (.bool false) ∧ w'.cell? ⟨w1.heap.size, 1, none⟩ = some (.int .u64 0) ∧ w'.cell? ⟨w1.heap.size, 2, none⟩ = some (.int .u8 0))
    (first | go_keep)
    (fail)
  go_wp2
  refine bodyPost_ret (v := .tuple #[.int .i64 0, .agg #[.bool false, .int .u64 0, .int .u8 0], .bool false]) ?_ rfl ?_
  · simp [results, Try.f15, go_sem, K0, K1, K2]
  · refine ⟨rfl, ?_⟩
    exact (((((HB.out.alloc (by omega) _).setCell (p := ⟨w.heap.size, 0, none⟩) (Nat.le_refl _) _).setCell (p := ⟨w.heap.size, 1, none⟩) (Nat.le_refl _) _).setCell (p := ⟨w.heap.size, 2, none⟩) (Nat.le_refl _) _)).drew
end
end Go.Proofs.Ytfadckkebfgheaa
