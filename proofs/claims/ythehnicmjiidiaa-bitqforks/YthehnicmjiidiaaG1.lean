/-
  The walk of 'same': both queues tell the same.
-/
import Derived.Test.YthehnicmjiidiaaE9
import Derived.Deep.DrawnRows
namespace Go.Proofs.Ythehnicmjiidiaa
open Go.RowKit Go.Lib
attribute [local go_sem ↓] Go.wp_at_zero Go.wp_at_succ

theorem Both.below {w w' : World} {base b g rb n : Nat} {v : Value} {R : List (Nat × Nat)} (h : Both w base b g rb n v R) (hb : Below w.heap.size w w') : Both w' base b g rb n v R := h.quiet (Fr.of_below' hb)
theorem Both.like {w w' : World} {base b g rb n : Nat} {v : Value} {R : List (Nat × Nat)} (h : Both w base b g rb n v R) (a : w'.heap = w.heap) : Both w' base b g rb n v R := by
  refine ⟨h.q.like a, ?_, h.hb, h.hg, h.nb, h.ng⟩
  have hr := h.r
  exact ⟨hr.nle, hr.rng, hr.ids, by rw [a]; exact hr.blk, ⟨hr.own.1, by rw [a]; exact hr.own.2⟩, hr.ne, by rw [a]; exact hr.bs⟩

theorem tops_both (n : Nat) (R : List (Nat × Nat)) (hrng : ∀ it ∈ R, it.2 < 256) :
    ∃ (l i : Nat) (ok : Bool), TopsQ n R l i ok ∧ ∀ (w : World) (base rb : Nat) (v : Value), IsRef w base rb n v R → Calls Try.prog 28 #[.pointer (some ⟨rb, 0, none⟩)] w fun e w' => e = .returned (.tuple #[.int .u8 l, .int .i64 i, .bool ok]) ∧ Below w.heap.size w w' := by
  by_cases hR : R = []
  · subst hR
    refine ⟨0, 0, false, tops_nil n, fun w base rb v h => (rTop_none h).mono ?_⟩
    rintro e w' ⟨he, rfl⟩
    exact ⟨he, Below.refl _ _⟩
  · obtain ⟨lv, id, rest, hb, hq⟩ := best_exists R hR hrng
    obtain ⟨R1, R2, rfl, hlo, hhi⟩ := best_split hrng hb hq
    refine ⟨lv, id, true, tops_best hb hq, fun w base rb v h => (rTop_some h hlo hhi).mono ?_⟩
    rintro e w' ⟨he, q, rfl⟩
    exact ⟨he, below_drewN (Below.refl _ _) _⟩
theorem levels_both (n : Nat) (R : List (Nat × Nat)) (hrng : ∀ it ∈ R, it.1 < n) (x : Int) :
    ∃ (l : Nat) (ok : Bool), (∀ (w : World) (b g : Nat), IsQ w b g n R → Calls Try.prog 19 #[.pointer (some ⟨b, 0, none⟩), .int .i64 x] w fun e w' => e = .returned (.tuple #[.int .u8 l, .bool ok]) ∧ Below w.heap.size w w') ∧
      (∀ (w : World) (base rb : Nat) (v : Value), IsRef w base rb n v R → Calls Try.prog 29 #[.pointer (some ⟨rb, 0, none⟩), .int .i64 x] w fun e w' => e = .returned (.tuple #[.int .u8 l, .bool ok]) ∧ Below w.heap.size w w') := by
  by_cases hi : x < 0 ∨ (n : Int) ≤ x
  · refine ⟨0, false, fun w b g h => (level_range h x hi).mono ?_, fun w base rb v h => (rLevel_none h x (fun it hit e => by have := hrng it hit; omega)).mono ?_⟩
    · rintro e w' ⟨he, rfl⟩
      exact ⟨he, Below.refl _ _⟩
    · rintro e w' ⟨he, rfl⟩
      exact ⟨he, Below.refl _ _⟩
  · obtain ⟨k, rfl⟩ := Int.eq_ofNat_of_zero_le (show 0 ≤ x by omega)
    have hk : k < n := by omega
    by_cases hm : ∃ it ∈ R, it.1 = k
    · obtain ⟨R1, l0, R2, rfl⟩ := mem_split R k hm
      refine ⟨l0, true, fun w b g h => level_some h, fun w base rb v h => (rLevel_some h).mono ?_⟩
      rintro e w' ⟨he, rfl⟩
      exact ⟨he, Below.refl _ _⟩
    · have hid : ∀ it ∈ R, it.1 ≠ k := fun it hit e => hm ⟨it, hit, e⟩
      refine ⟨0, false, fun w b g h => level_none h hk hid, fun w base rb v h => (rLevel_none h k (fun it hit e => hid it hit (by omega))).mono ?_⟩
      rintro e w' ⟨he, rfl⟩
      exact ⟨he, Below.refl _ _⟩

set_option maxHeartbeats 16000000 in
set_option maxRecDepth 100000 in
theorem same_ok (w : World) (base b g rb n : Nat) (v : Value) (R : List (Nat × Nat)) (h : Both w base b g rb n v R) (x0 x1 : Int) (lv : Nat) (hlv : lv < 256) :
    Calls Try.prog 12 #[.pointer (some ⟨b, 0, none⟩), .pointer (some ⟨rb, 0, none⟩), .agg #[.int .i64 x0, .int .i64 x1, .int .u8 lv]] w fun e w' => e = .returned (.bool true) ∧ Below w.heap.size w w' := by
  obtain ⟨l, i, ok, hT1, hT2⟩ := tops_both n R (fun it hit => (h.q.rng it hit).2)
  obtain ⟨l', ok', hL1, hL2⟩ := levels_both n R (fun it hit => (h.q.rng it hit).1) x1
  obtain ⟨m, hm⟩ := h.q.mask_ex
  have hll : (idsOf R lv).length ≤ 1024 := by have := idsOf_len R lv; have := h.q.len_le; omega
  have HT1 := veil hT1
  have HT2 := veil hT2
  have HL1 := veil hL1
  have HL2 := veil hL2
  have HM := veil hm
  have HA := veil (h.alloc (.cells #[.int .i64 x0, .int .i64 x1, .int .u8 lv] 24))
  have hsz : (w.alloc (.cells #[.int .i64 x0, .int .i64 x1, .int .u8 lv] 24)).heap.size = w.heap.size + 1 := by simp
  have HSZ := veil hsz
  have HB0 : Hid (Below (w.heap.size + 1) (w.alloc (.cells #[.int .i64 x0, .int .i64 x1, .int .u8 lv] 24)) (w.alloc (.cells #[.int .i64 x0, .int .i64 x1, .int .u8 lv] 24))) := Below.refl _ _
  have HW : Hid (∀ w1 w2, Below (w.heap.size + 1) (w.alloc (.cells #[.int .i64 x0, .int .i64 x1, .int .u8 lv] 24)) w1 → Below w1.heap.size w1 w2 → Below (w.heap.size + 1) (w.alloc (.cells #[.int .i64 x0, .int .i64 x1, .int .u8 lv] 24)) w2) := by
    intro w1 w2 q1 q2
    exact q1.trans (q2.mono (Nat.le_trans (Nat.le_of_eq hsz.symm) q1.size))
  clear h hT1 hT2 hL1 hL2 hm hsz
  go_enter Try.func12, Try.ntmps12
  go_wp2_with (first
    | (go_at_call 16; refine (HT1.out _ b g HA.out.q).mono ?_; rintro e w1 ⟨rfl, hb⟩; have HA1 := veil (HA.out.below hb); have HB1 := veil (HW.out _ _ HB0.out hb); clear hb HA HB0)
    | (go_at_call 28; refine (HT2.out _ base rb v HA1.out.r).mono ?_; rintro e w2 ⟨rfl, hb⟩; have HA2 := veil (HA1.out.below hb); have HB2 := veil (HW.out _ _ HB1.out hb); have c1 := (box_cells HB2.out).1; clear hb HA1 HB1)
    | (go_at_call 19; refine (HL1.out _ b g HA2.out.q).mono ?_; rintro e w3 ⟨rfl, hb⟩; have HA3 := veil (HA2.out.below hb); have HB3 := veil (HW.out _ _ HB2.out hb); have c2 := (box_cells HB3.out).1; clear hb HA2 HB2)
    | (go_at_call 29; refine (HL2.out _ base rb v HA3.out.r).mono ?_; rintro e w4 ⟨rfl, hb⟩; have HA4 := veil (HA3.out.below hb); have HB4 := veil (HW.out _ _ HB3.out hb); clear hb HA3 HB3))
  have c4 := (box_cells HB4.out).2
  clear c1 c2
  go_region_held3 (fun w' => w'.cell? ⟨w.heap.size, 2, none⟩ = some (.int .u8 lv))
    (first
      | go_keep
      | exact (box_cells HB5.out).2
      | exact (box_cells HB6.out).2
      | exact (box_cells HB7.out).2
      | exact (box_cells HB8.out).2
      | exact (box_cells HB9.out).2)
    (first
      | (go_at_call 15; refine (mask_ok (by exact HA4.out.q.like rfl) m HM.out).mono ?_; rintro e w5 ⟨rfl, hb⟩; have HA5 := veil ((HA4.out.like (w' := w4.drew) rfl).below hb); have HB5 := veil (HW.out _ _ (show Below _ _ w4.drew from HB4.out.drew) hb); clear hb)
      | (go_at_call 30; refine (rMask_ok HA5.out.r m HM.out).mono ?_; rintro e w6 ⟨rfl, hb⟩; have HA6 := veil (HA5.out.below hb); have HB6 := veil (HW.out _ _ HB5.out hb); clear hb)
      | (go_at_call 13; refine (len_is _ b g n R HA6.out.q).mono ?_; rintro e w7 ⟨rfl, hw⟩; replace hw := hw.symm; subst hw)
      | (go_at_call 31; refine (rLen_ok HA6.out.r).mono ?_; rintro e w7 ⟨rfl, hw⟩; replace hw := hw.symm; subst hw)
      | (go_at_call 17; refine (list_il b g n lv R _ HA6.out.q hlv).mono ?_; rintro e w7 ⟨v7, rfl, hil, hb⟩; have HI7 := veil hil; have HA7 := veil (HA6.out.below hb); have HB7 := veil (HW.out _ _ HB6.out hb); clear hb hil)
      | (go_at_call 32; refine (rList_ok HA7.out.r lv).mono ?_; rintro e w8 ⟨v8, rfl, hil, hb⟩; have HI8 := veil hil; have HI7' := veil (HI7.out.below hb); have HB8 := veil (HW.out _ _ HB7.out hb); clear hb hil)
      | (go_at_call 21; refine (same_yes _ _ _ _ _ (idsOf R lv) hll HI7'.out HI8.out).mono ?_; rintro e w9 ⟨rfl, q, hw⟩; have HB9 := veil (HW.out _ w9 HB8.out (by rw [hw]; exact below_drewN (Below.refl _ _) _)); clear hw))
  go_wp2
  go_ret
  exact ⟨by simp, below_box HB9.out⟩
end Go.Proofs.Ythehnicmjiidiaa
