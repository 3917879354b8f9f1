/-
  The walk of 'do': a deed on both heaps.
-/
import Derived.Test.YtiledmfnhahmiaaH11
namespace Go.Proofs.Ytiledmfnhahmiaa
open Go.RowKit Go.Lib
attribute [local go_sem ↓] Go.wp_at_zero Go.wp_at_succ

theorem box_cells {w w' : World} {x0 x1 : Int} {d s : Nat} (h : Below (w.heap.size + 1) (w.alloc (.cells #[.int .i64 x0, .int .i64 x1, .int .u64 (d : Int), .int .u64 (s : Int)] 40)) w') :
    w'.cell? ⟨w.heap.size, 1, none⟩ = some (.int .i64 x1) ∧ w'.cell? ⟨w.heap.size, 2, none⟩ = some (.int .u64 (d : Int)) ∧ w'.cell? ⟨w.heap.size, 3, none⟩ = some (.int .u64 (s : Int)) := by
  refine ⟨?_, ?_, ?_⟩
  · rw [h.cell (p := ⟨w.heap.size, 1, none⟩) (by simp), cell_new]; rfl
  · rw [h.cell (p := ⟨w.heap.size, 2, none⟩) (by simp), cell_new]; rfl
  · rw [h.cell (p := ⟨w.heap.size, 3, none⟩) (by simp), cell_new]; rfl
theorem box_fr {S : Nat → Prop} {w w1 w' : World} {x1 : Int} {d s : Nat} (h1 : w1.cell? ⟨w.heap.size, 1, none⟩ = some (.int .i64 x1) ∧ w1.cell? ⟨w.heap.size, 2, none⟩ = some (.int .u64 (d : Int)) ∧ w1.cell? ⟨w.heap.size, 3, none⟩ = some (.int .u64 (s : Int))) (hs : w.heap.size < w1.heap.size) (hf : Fr S w1 w') (hn : ¬ S w.heap.size) :
    w'.cell? ⟨w.heap.size, 1, none⟩ = some (.int .i64 x1) ∧ w'.cell? ⟨w.heap.size, 2, none⟩ = some (.int .u64 (d : Int)) ∧ w'.cell? ⟨w.heap.size, 3, none⟩ = some (.int .u64 (s : Int)) :=
  ⟨(hf.cell (a := ⟨w.heap.size, 1, none⟩) hs hn).trans h1.1, (hf.cell (a := ⟨w.heap.size, 2, none⟩) hs hn).trans h1.2.1, (hf.cell (a := ⟨w.heap.size, 3, none⟩) hs hn).trans h1.2.2⟩

set_option maxHeartbeats 4000000 in
theorem do_insert (w : World) (base b g rb n : Nat) (v : Value) (L : List Item) (h : Both w base b g rb n v L) (x1 : Int) (d s : Nat) :
    Calls Try.prog 25 #[.pointer (some ⟨b, 0, none⟩), .pointer (some ⟨rb, 0, none⟩), .agg #[.int .i64 0, .int .i64 x1, .int .u64 (d : Int), .int .u64 (s : Int)]] w fun e w' => e = .returned (.bool true) ∧ (∃ v', Both w' base b g rb n v' (insL n L x1 d s)) ∧ Fr (fun k => k = b ∨ k = g ∨ k = rb) w w' := by
  have HN := h.nots
  have nA : ¬ (w.heap.size = b ∨ w.heap.size = g) := by omega
  have nB : ¬ (w.heap.size = rb) := by omega
  clear HN
  have NA := veil nA
  have NB := veil nB
  clear nA nB
  have HA := veil (h.alloc (.cells #[.int .i64 0, .int .i64 x1, .int .u64 (d : Int), .int .u64 (s : Int)] 40))
  have HB := veil (box_cells (w := w) (w' := w.alloc (.cells #[.int .i64 0, .int .i64 x1, .int .u64 (d : Int), .int .u64 (s : Int)] 40)) (x0 := 0) (x1 := x1) (d := d) (s := s) (Below.refl _ _))
  have hsz : w.heap.size < (w.alloc (.cells #[.int .i64 0, .int .i64 x1, .int .u64 (d : Int), .int .u64 (s : Int)] 40)).heap.size := by simp
  have HSZ := veil hsz
  clear h hsz
  go_enter Try.func25, Try.ntmps25
  go_wp2
  go_region_held3 (fun w' => w'.cell? ⟨w.heap.size, 1, none⟩ = some (.int .i64 x1) ∧ w'.cell? ⟨w.heap.size, 2, none⟩ = some (.int .u64 (d : Int)) ∧ w'.cell? ⟨w.heap.size, 3, none⟩ = some (.int .u64 (s : Int)))
    (first
      | go_keep
      | exact box_fr HB.out HSZ.out HF1.out NA.out
      | exact box_fr (box_fr HB.out HSZ.out HF1.out NA.out) (Nat.lt_of_lt_of_le HSZ.out HF1.out.size) HF2.out NB.out)
    (first
      | (go_at_call 23; refine (hinsert_all (by exact HA.out.q.like rfl) x1 d s).mono ?_; rintro e w1 ⟨rfl, hq1, hf1⟩; have HF1 := veil (Fr.pre (w0 := w.alloc (.cells #[.int .i64 0, .int .i64 x1, .int .u64 (d : Int), .int .u64 (s : Int)] 40)) hf1 rfl rfl rfl rfl); have HQ1 := veil hq1; clear hq1 hf1)
      | (go_at_call 36; refine (rinsert_all (HA.out.refOf HF1.out) x1 d s).mono ?_; rintro e w2 ⟨rfl, hr2, hf2⟩; have HF2 := veil hf2; have HR2 := veil hr2; clear hr2 hf2))
  have HX := veil (HA.out.join1 HQ1.out HF1.out HR2.out HF2.out)
  clear HQ1 HF1 HR2 HF2 HA HB
  go_wp2
  go_ret
  exact ⟨by simp, HX.out.1, ((Fr.refl _ _).alloc _).trans HX.out.2⟩

set_option maxHeartbeats 4000000 in
theorem do_change (w : World) (base b g rb n : Nat) (v : Value) (L : List Item) (h : Both w base b g rb n v L) (x1 : Int) (d s : Nat) :
    Calls Try.prog 25 #[.pointer (some ⟨b, 0, none⟩), .pointer (some ⟨rb, 0, none⟩), .agg #[.int .i64 1, .int .i64 x1, .int .u64 (d : Int), .int .u64 (s : Int)]] w fun e w' => e = .returned (.bool true) ∧ (∃ v', Both w' base b g rb n v' (chgL n L x1 d s)) ∧ Fr (fun k => k = b ∨ k = g ∨ k = rb) w w' := by
  have HN := h.nots
  have nA : ¬ (w.heap.size = b ∨ w.heap.size = g) := by omega
  have nB : ¬ (w.heap.size = rb) := by omega
  clear HN
  have NA := veil nA
  have NB := veil nB
  clear nA nB
  have HA := veil (h.alloc (.cells #[.int .i64 1, .int .i64 x1, .int .u64 (d : Int), .int .u64 (s : Int)] 40))
  have HB := veil (box_cells (w := w) (w' := w.alloc (.cells #[.int .i64 1, .int .i64 x1, .int .u64 (d : Int), .int .u64 (s : Int)] 40)) (x0 := 1) (x1 := x1) (d := d) (s := s) (Below.refl _ _))
  have hsz : w.heap.size < (w.alloc (.cells #[.int .i64 1, .int .i64 x1, .int .u64 (d : Int), .int .u64 (s : Int)] 40)).heap.size := by simp
  have HSZ := veil hsz
  clear h hsz
  go_enter Try.func25, Try.ntmps25
  go_wp2
  go_region_held3 (fun w' => w'.cell? ⟨w.heap.size, 1, none⟩ = some (.int .i64 x1) ∧ w'.cell? ⟨w.heap.size, 2, none⟩ = some (.int .u64 (d : Int)) ∧ w'.cell? ⟨w.heap.size, 3, none⟩ = some (.int .u64 (s : Int)))
    (first
      | go_keep
      | exact box_fr HB.out HSZ.out HF1.out NA.out
      | exact box_fr (box_fr HB.out HSZ.out HF1.out NA.out) (Nat.lt_of_lt_of_le HSZ.out HF1.out.size) HF2.out NB.out)
    (first
      | (go_at_call 20; refine (hchange_all (by exact HA.out.q.like rfl) x1 d s).mono ?_; rintro e w1 ⟨rfl, hq1, hf1⟩; have HF1 := veil (Fr.pre (w0 := w.alloc (.cells #[.int .i64 1, .int .i64 x1, .int .u64 (d : Int), .int .u64 (s : Int)] 40)) hf1 rfl rfl rfl rfl); have HQ1 := veil hq1; clear hq1 hf1)
      | (go_at_call 37; refine (rchange_all (HA.out.refOf HF1.out) x1 d s).mono ?_; rintro e w2 ⟨rfl, hr2, hf2⟩; have HF2 := veil hf2; have HR2 := veil hr2; clear hr2 hf2))
  have HX := veil (HA.out.join1 HQ1.out HF1.out HR2.out HF2.out)
  clear HQ1 HF1 HR2 HF2 HA HB
  go_wp2
  go_ret
  exact ⟨by simp, HX.out.1, ((Fr.refl _ _).alloc _).trans HX.out.2⟩

set_option maxHeartbeats 4000000 in
theorem do_delete (w : World) (base b g rb n : Nat) (v : Value) (L : List Item) (h : Both w base b g rb n v L) (x1 : Int) (d s : Nat) :
    Calls Try.prog 25 #[.pointer (some ⟨b, 0, none⟩), .pointer (some ⟨rb, 0, none⟩), .agg #[.int .i64 2, .int .i64 x1, .int .u64 (d : Int), .int .u64 (s : Int)]] w fun e w' => e = .returned (.bool true) ∧ (∃ v', Both w' base b g rb n v' (delL n L x1)) ∧ Fr (fun k => k = b ∨ k = g ∨ k = rb) w w' := by
  have HN := h.nots
  have nA : ¬ (w.heap.size = b ∨ w.heap.size = g) := by omega
  have nB : ¬ (w.heap.size = rb) := by omega
  clear HN
  have NA := veil nA
  have NB := veil nB
  clear nA nB
  have HA := veil (h.alloc (.cells #[.int .i64 2, .int .i64 x1, .int .u64 (d : Int), .int .u64 (s : Int)] 40))
  have HB := veil (box_cells (w := w) (w' := w.alloc (.cells #[.int .i64 2, .int .i64 x1, .int .u64 (d : Int), .int .u64 (s : Int)] 40)) (x0 := 2) (x1 := x1) (d := d) (s := s) (Below.refl _ _))
  have hsz : w.heap.size < (w.alloc (.cells #[.int .i64 2, .int .i64 x1, .int .u64 (d : Int), .int .u64 (s : Int)] 40)).heap.size := by simp
  have HSZ := veil hsz
  clear h hsz
  go_enter Try.func25, Try.ntmps25
  go_wp2
  go_region_held3 (fun w' => w'.cell? ⟨w.heap.size, 1, none⟩ = some (.int .i64 x1) ∧ w'.cell? ⟨w.heap.size, 2, none⟩ = some (.int .u64 (d : Int)) ∧ w'.cell? ⟨w.heap.size, 3, none⟩ = some (.int .u64 (s : Int)))
    (first
      | go_keep
      | exact box_fr HB.out HSZ.out HF1.out NA.out
      | exact box_fr (box_fr HB.out HSZ.out HF1.out NA.out) (Nat.lt_of_lt_of_le HSZ.out HF1.out.size) HF2.out NB.out)
    (first
      | (go_at_call 22; refine (hdelete_all (by exact HA.out.q.like rfl) x1).mono ?_; rintro e w1 ⟨rfl, hq1, hf1⟩; have HF1 := veil (Fr.pre (w0 := w.alloc (.cells #[.int .i64 2, .int .i64 x1, .int .u64 (d : Int), .int .u64 (s : Int)] 40)) hf1 rfl rfl rfl rfl); have HQ1 := veil hq1; clear hq1 hf1)
      | (go_at_call 38; refine (rdelete_all (HA.out.refOf HF1.out) x1).mono ?_; rintro e w2 ⟨rfl, hr2, hf2⟩; have HF2 := veil hf2; have HR2 := veil hr2; clear hr2 hf2))
  have HX := veil (HA.out.join1 HQ1.out HF1.out HR2.out HF2.out)
  clear HQ1 HF1 HR2 HF2 HA HB
  go_wp2
  go_ret
  exact ⟨by simp, HX.out.1, ((Fr.refl _ _).alloc _).trans HX.out.2⟩

set_option maxHeartbeats 4000000 in
theorem do_take (w : World) (base b g rb n : Nat) (v : Value) (L : List Item) (h : Both w base b g rb n v L) (x1 : Int) (d s : Nat) :
    Calls Try.prog 25 #[.pointer (some ⟨b, 0, none⟩), .pointer (some ⟨rb, 0, none⟩), .agg #[.int .i64 3, .int .i64 x1, .int .u64 (d : Int), .int .u64 (s : Int)]] w fun e w' => e = .returned (.bool true) ∧ (∃ v', Both w' base b g rb n v' L.tail) ∧ Fr (fun k => k = b ∨ k = g ∨ k = rb) w w' := by
  have HA := veil (h.alloc (.cells #[.int .i64 3, .int .i64 x1, .int .u64 (d : Int), .int .u64 (s : Int)] 40))
  clear h
  go_enter Try.func25, Try.ntmps25
  go_wp2_with (first
      | (go_at_call 17; refine (htake_all HA.out.q).mono ?_; rintro e w1 ⟨rfl, hq1, hf1⟩; have HF1 := veil hf1; have HQ1 := veil hq1; clear hq1 hf1)
      | (go_at_call 39; refine (rtake_all (HA.out.refOf HF1.out)).mono ?_; rintro e w2 ⟨rfl, hr2, hf2⟩; have HX := veil (HA.out.join1 HQ1.out HF1.out hr2 hf2); clear hr2 hf2 HQ1 HF1 HA))
  go_ret
  exact ⟨by simp, HX.out.1, ((Fr.refl _ _).alloc _).trans HX.out.2⟩
theorem do_other (w : World) (base b g rb n : Nat) (v : Value) (L : List Item) (h : Both w base b g rb n v L) (x0 x1 : Int) (d s : Nat) (h0 : ¬ x0 = 0) (h1 : ¬ x0 = 1) (h2 : ¬ x0 = 2) (h3 : ¬ x0 = 3) :
    Calls Try.prog 25 #[.pointer (some ⟨b, 0, none⟩), .pointer (some ⟨rb, 0, none⟩), .agg #[.int .i64 x0, .int .i64 x1, .int .u64 (d : Int), .int .u64 (s : Int)]] w fun e w' => e = .returned (.bool true) ∧ (∃ v', Both w' base b g rb n v' L) ∧ Fr (fun k => k = b ∨ k = g ∨ k = rb) w w' := by
  have HA := veil (h.alloc (.cells #[.int .i64 x0, .int .i64 x1, .int .u64 (d : Int), .int .u64 (s : Int)] 40))
  clear h
  go_enter Try.func25, Try.ntmps25
  go_wp2
  go_ret
  exact ⟨rfl, ⟨v, HA.out⟩, (Fr.refl _ _).alloc _⟩
theorem do_ok (w : World) (base b g rb n : Nat) (v : Value) (L : List Item) (h : Both w base b g rb n v L) (x0 x1 : Int) (d s : Nat) :
    Calls Try.prog 25 #[.pointer (some ⟨b, 0, none⟩), .pointer (some ⟨rb, 0, none⟩), .agg #[.int .i64 x0, .int .i64 x1, .int .u64 (d : Int), .int .u64 (s : Int)]] w fun e w' => e = .returned (.bool true) ∧ (∃ v' L', Both w' base b g rb n v' L') ∧ Fr (fun k => k = b ∨ k = g ∨ k = rb) w w' := by
  have key : ∀ (L' : List Item), Calls Try.prog 25 #[.pointer (some ⟨b, 0, none⟩), .pointer (some ⟨rb, 0, none⟩), .agg #[.int .i64 x0, .int .i64 x1, .int .u64 (d : Int), .int .u64 (s : Int)]] w (fun e w' => e = .returned (.bool true) ∧ (∃ v', Both w' base b g rb n v' L') ∧ Fr (fun k => k = b ∨ k = g ∨ k = rb) w w') → Calls Try.prog 25 #[.pointer (some ⟨b, 0, none⟩), .pointer (some ⟨rb, 0, none⟩), .agg #[.int .i64 x0, .int .i64 x1, .int .u64 (d : Int), .int .u64 (s : Int)]] w (fun e w' => e = .returned (.bool true) ∧ (∃ v' L', Both w' base b g rb n v' L') ∧ Fr (fun k => k = b ∨ k = g ∨ k = rb) w w') := by
    intro L' hc
    refine hc.mono ?_
    rintro e w' ⟨he, ⟨v', hb⟩, hf⟩
    exact ⟨he, ⟨v', L', hb⟩, hf⟩
  by_cases h0 : x0 = 0
  · subst h0; exact key _ (do_insert w base b g rb n v L h x1 d s)
  by_cases h1 : x0 = 1
  · subst h1; exact key _ (do_change w base b g rb n v L h x1 d s)
  by_cases h2 : x0 = 2
  · subst h2; exact key _ (do_delete w base b g rb n v L h x1 d s)
  by_cases h3 : x0 = 3
  · subst h3; exact key _ (do_take w base b g rb n v L h x1 d s)
  exact key _ (do_other w base b g rb n v L h x0 x1 d s h0 h1 h2 h3)
end Go.Proofs.Ytiledmfnhahmiaa
