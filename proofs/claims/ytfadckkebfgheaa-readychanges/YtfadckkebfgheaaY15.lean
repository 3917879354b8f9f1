/-
  The walk of 'do': a deed on both sets.
-/
import Derived.Test.YtfadckkebfgheaaY14
namespace Go.Proofs.Ytfadckkebfgheaa
open Go.RowKit Go.Lib
set_option linter.unusedVariables false
attribute [local go_sem ↓] Go.wp_at_zero Go.wp_at_succ

theorem box_cells {w w' : World} {x0 x1 : Int} {k : Ke.K} (h : Below (w.heap.size + 1) (w.alloc (.cells #[.int .i64 x0, .int .i64 x1, .bool k.e, .int .u64 k.d, .int .u8 k.l] 41)) w') :
    w'.cell? ⟨w.heap.size, 1, none⟩ = some (.int .i64 x1) ∧ w'.cell? ⟨w.heap.size, 2, none⟩ = some (.bool k.e) ∧ w'.cell? ⟨w.heap.size, 3, none⟩ = some (.int .u64 k.d) ∧ w'.cell? ⟨w.heap.size, 4, none⟩ = some (.int .u8 k.l) := by
  refine ⟨?_, ?_, ?_, ?_⟩
  · rw [h.cell (p := ⟨w.heap.size, 1, none⟩) (by simp), Ph.cell_new]; rfl
  · rw [h.cell (p := ⟨w.heap.size, 2, none⟩) (by simp), Ph.cell_new]; rfl
  · rw [h.cell (p := ⟨w.heap.size, 3, none⟩) (by simp), Ph.cell_new]; rfl
  · rw [h.cell (p := ⟨w.heap.size, 4, none⟩) (by simp), Ph.cell_new]; rfl
theorem box_fr {S : Nat → Prop} {w w1 w' : World} {x1 : Int} {k : Ke.K} (h1 : w1.cell? ⟨w.heap.size, 1, none⟩ = some (.int .i64 x1) ∧ w1.cell? ⟨w.heap.size, 2, none⟩ = some (.bool k.e) ∧ w1.cell? ⟨w.heap.size, 3, none⟩ = some (.int .u64 k.d) ∧ w1.cell? ⟨w.heap.size, 4, none⟩ = some (.int .u8 k.l)) (hs : w.heap.size < w1.heap.size) (hf : Fr S w1 w') (hn : ¬ S w.heap.size) :
    w'.cell? ⟨w.heap.size, 1, none⟩ = some (.int .i64 x1) ∧ w'.cell? ⟨w.heap.size, 2, none⟩ = some (.bool k.e) ∧ w'.cell? ⟨w.heap.size, 3, none⟩ = some (.int .u64 k.d) ∧ w'.cell? ⟨w.heap.size, 4, none⟩ = some (.int .u8 k.l) :=
  ⟨(hf.cell (a := ⟨w.heap.size, 1, none⟩) hs hn).trans h1.1, (hf.cell (a := ⟨w.heap.size, 2, none⟩) hs hn).trans h1.2.1, (hf.cell (a := ⟨w.heap.size, 3, none⟩) hs hn).trans h1.2.2.1, (hf.cell (a := ⟨w.heap.size, 4, none⟩) hs hn).trans h1.2.2.2⟩
theorem Fr.pre {S : Nat → Prop} {w0 w w' : World} (h : Fr S w w') (a : w.heap = w0.heap) (b : w.os = w0.os) (c : w.tape = w0.tape) (d : w.output = w0.output) : Fr S w0 w' :=
  ⟨h.os.trans b, h.tape.trans c, h.output.trans d, by rw [← a]; exact h.size, fun k hk hn => (h.block k (by rw [a]; exact hk) hn).trans (by rw [a])⟩
theorem IsS.like {w w' : World} {sb qb gq hb gh n most turn : Nat} {M : List En} (h : IsS w sb qb gq hb gh n most turn M) (a : w'.heap = w.heap) : IsS w' sb qb gq hb gh n most turn M := by
  have hf : Fr (fun _ => False) w w := Fr.refl _ _
  obtain ⟨R, L, hS, hI⟩ := h
  exact ⟨R, L, ⟨by unfold World.cell?; rw [a]; exact hS.c0, by unfold World.cell?; rw [a]; exact hS.c1, by unfold World.cell?; rw [a]; exact hS.c2, by unfold World.cell?; rw [a]; exact hS.c3, by unfold World.cell?; rw [a]; exact hS.c4, fun q => by unfold World.frozen?; rw [a]; exact hS.fz q, hS.q.kept (by rw [a]) (by rw [a]), hS.h.kept (by rw [a]) (by rw [a]), hS.ne⟩, hI⟩
set_option maxHeartbeats 4000000 in
theorem do_put (w : World) (base sb qb gq hb gh rb n most turn : Nat) (v : Value) (M : List En) (h : Both w base sb qb gq hb gh rb n most turn v M) (ht : turn ≤ 1000) (x1 : Int) (k : Ke.K) (hk : k.ok) :
    Calls Try.prog 23 #[.pointer (some ⟨sb, 0, none⟩), .pointer (some ⟨rb, 0, none⟩), .agg #[.int .i64 0, .int .i64 x1, .bool k.e, .int .u64 k.d, .int .u8 k.l]] w fun e w' => e = .returned (.bool true) ∧ (∃ t v', t ≤ turn + 1 ∧ Both w' base sb qb gq hb gh rb n most t v' (putL n most M x1 k)) ∧ Fr (fun k => OwnS sb qb gq hb gh k ∨ k = rb) w w' := by
  have NA : Hid (¬ OwnS sb qb gq hb gh w.heap.size) := fun q => by have := h.lts _ (.inl q); omega
  have NB : Hid (¬ (w.heap.size = rb)) := fun q => by have := h.lts _ (.inr q); omega
  have HA := veil (h.below ((Below.refl _ _).alloc (Nat.le_refl _) (.cells #[.int .i64 0, .int .i64 x1, .bool k.e, .int .u64 k.d, .int .u8 k.l] 41)))
  have HB := veil (box_cells (w := w) (w' := w.alloc (.cells #[.int .i64 0, .int .i64 x1, .bool k.e, .int .u64 k.d, .int .u8 k.l] 41)) (x0 := 0) (x1 := x1) (k := k) (Below.refl _ _))
  have hsz : w.heap.size < (w.alloc (.cells #[.int .i64 0, .int .i64 x1, .bool k.e, .int .u64 k.d, .int .u8 k.l] 41)).heap.size := by simp
  have HSZ := veil hsz
  have HC : Hid ((w.alloc (.cells #[.int .i64 0, .int .i64 x1, .bool k.e, .int .u64 k.d, .int .u8 k.l] 41)).drew.cell? ⟨w.heap.size, 1, none⟩ = some (.int .i64 x1) ∧ (w.alloc (.cells #[.int .i64 0, .int .i64 x1, .bool k.e, .int .u64 k.d, .int .u8 k.l] 41)).drew.cell? ⟨w.heap.size, 2, none⟩ = some (.bool k.e) ∧ (w.alloc (.cells #[.int .i64 0, .int .i64 x1, .bool k.e, .int .u64 k.d, .int .u8 k.l] 41)).drew.cell? ⟨w.heap.size, 3, none⟩ = some (.int .u64 k.d) ∧ (w.alloc (.cells #[.int .i64 0, .int .i64 x1, .bool k.e, .int .u64 k.d, .int .u8 k.l] 41)).drew.cell? ⟨w.heap.size, 4, none⟩ = some (.int .u8 k.l)) := HB.out
  clear h hsz
  go_enter Try.func23, Try.ntmps23
  go_wp2
  go_region_held3 (fun w' => w'.cell? ⟨w.heap.size, 1, none⟩ = some (.int .i64 x1) ∧ w'.cell? ⟨w.heap.size, 2, none⟩ = some (.bool k.e) ∧ w'.cell? ⟨w.heap.size, 3, none⟩ = some (.int .u64 k.d) ∧ w'.cell? ⟨w.heap.size, 4, none⟩ = some (.int .u8 k.l))
    (first
      | exact HC.out
      | exact box_fr HB.out HSZ.out HF1.out NA.out
      | exact box_fr (box_fr HB.out HSZ.out HF1.out NA.out) (Nat.lt_of_lt_of_le HSZ.out HF1.out.size) HF2.out NB.out
      | go_keep)
    (first
      | (go_at_call 20; refine (sput_all (by exact HA.out.q.like rfl) ht x1 k hk).mono ?_; rintro e w1 ⟨rfl, hq1, hf1⟩; have HF1 := veil (Fr.pre (w0 := w.alloc (.cells #[.int .i64 0, .int .i64 x1, .bool k.e, .int .u64 k.d, .int .u8 k.l] 41)) hf1 rfl rfl rfl rfl); have HQ1 := veil hq1; clear hq1 hf1)
      | (go_at_call 45; refine (rput_all (HA.out.refOf HF1.out) x1 k).mono ?_; rintro e w2 ⟨rfl, hr2, hf2⟩; have HF2 := veil hf2; have HR2 := veil hr2; clear hr2 hf2))
  have HX := veil (HA.out.join HQ1.out HF1.out HR2.out HF2.out)
  clear HQ1 HF1 HR2 HF2 HA HB
  go_wp2
  go_ret
  exact ⟨by simp, HX.out.1, (Fr.of_below' ((Below.refl _ _).alloc (Nat.le_refl _) _)).trans HX.out.2⟩
set_option maxHeartbeats 4000000 in
theorem do_change (w : World) (base sb qb gq hb gh rb n most turn : Nat) (v : Value) (M : List En) (h : Both w base sb qb gq hb gh rb n most turn v M) (ht : turn ≤ 1000) (x1 : Int) (k : Ke.K) (hk : k.ok) :
    Calls Try.prog 23 #[.pointer (some ⟨sb, 0, none⟩), .pointer (some ⟨rb, 0, none⟩), .agg #[.int .i64 1, .int .i64 x1, .bool k.e, .int .u64 k.d, .int .u8 k.l]] w fun e w' => e = .returned (.bool true) ∧ (∃ t v', t ≤ turn + 1 ∧ Both w' base sb qb gq hb gh rb n most t v' (chgL n M x1 k)) ∧ Fr (fun k => OwnS sb qb gq hb gh k ∨ k = rb) w w' := by
  have NA : Hid (¬ OwnS sb qb gq hb gh w.heap.size) := fun q => by have := h.lts _ (.inl q); omega
  have NB : Hid (¬ (w.heap.size = rb)) := fun q => by have := h.lts _ (.inr q); omega
  have HA := veil (h.below ((Below.refl _ _).alloc (Nat.le_refl _) (.cells #[.int .i64 1, .int .i64 x1, .bool k.e, .int .u64 k.d, .int .u8 k.l] 41)))
  have HB := veil (box_cells (w := w) (w' := w.alloc (.cells #[.int .i64 1, .int .i64 x1, .bool k.e, .int .u64 k.d, .int .u8 k.l] 41)) (x0 := 1) (x1 := x1) (k := k) (Below.refl _ _))
  have hsz : w.heap.size < (w.alloc (.cells #[.int .i64 1, .int .i64 x1, .bool k.e, .int .u64 k.d, .int .u8 k.l] 41)).heap.size := by simp
  have HSZ := veil hsz
  have HC : Hid ((w.alloc (.cells #[.int .i64 1, .int .i64 x1, .bool k.e, .int .u64 k.d, .int .u8 k.l] 41)).drew.cell? ⟨w.heap.size, 1, none⟩ = some (.int .i64 x1) ∧ (w.alloc (.cells #[.int .i64 1, .int .i64 x1, .bool k.e, .int .u64 k.d, .int .u8 k.l] 41)).drew.cell? ⟨w.heap.size, 2, none⟩ = some (.bool k.e) ∧ (w.alloc (.cells #[.int .i64 1, .int .i64 x1, .bool k.e, .int .u64 k.d, .int .u8 k.l] 41)).drew.cell? ⟨w.heap.size, 3, none⟩ = some (.int .u64 k.d) ∧ (w.alloc (.cells #[.int .i64 1, .int .i64 x1, .bool k.e, .int .u64 k.d, .int .u8 k.l] 41)).drew.cell? ⟨w.heap.size, 4, none⟩ = some (.int .u8 k.l)) := HB.out
  clear h hsz
  go_enter Try.func23, Try.ntmps23
  go_wp2
  go_region_held3 (fun w' => w'.cell? ⟨w.heap.size, 1, none⟩ = some (.int .i64 x1) ∧ w'.cell? ⟨w.heap.size, 2, none⟩ = some (.bool k.e) ∧ w'.cell? ⟨w.heap.size, 3, none⟩ = some (.int .u64 k.d) ∧ w'.cell? ⟨w.heap.size, 4, none⟩ = some (.int .u8 k.l))
    (first
      | exact HC.out
      | exact box_fr HB.out HSZ.out HF1.out NA.out
      | exact box_fr (box_fr HB.out HSZ.out HF1.out NA.out) (Nat.lt_of_lt_of_le HSZ.out HF1.out.size) HF2.out NB.out
      | go_keep)
    (first
      | (go_at_call 19; refine (schange_all (by exact HA.out.q.like rfl) ht x1 k hk).mono ?_; rintro e w1 ⟨rfl, hq1, hf1⟩; have HF1 := veil (Fr.pre (w0 := w.alloc (.cells #[.int .i64 1, .int .i64 x1, .bool k.e, .int .u64 k.d, .int .u8 k.l] 41)) hf1 rfl rfl rfl rfl); have HQ1 := veil hq1; clear hq1 hf1)
      | (go_at_call 46; refine (rchange_all (HA.out.refOf HF1.out) x1 k).mono ?_; rintro e w2 ⟨rfl, hr2, hf2⟩; have HF2 := veil hf2; have HR2 := veil hr2; clear hr2 hf2))
  have HX := veil (HA.out.join HQ1.out HF1.out HR2.out HF2.out)
  clear HQ1 HF1 HR2 HF2 HA HB
  go_wp2
  go_ret
  exact ⟨by simp, HX.out.1, (Fr.of_below' ((Below.refl _ _).alloc (Nat.le_refl _) _)).trans HX.out.2⟩
set_option maxHeartbeats 4000000 in
theorem do_remove (w : World) (base sb qb gq hb gh rb n most turn : Nat) (v : Value) (M : List En) (h : Both w base sb qb gq hb gh rb n most turn v M) (ht : turn ≤ 1000) (x1 : Int) (k : Ke.K) (hk : k.ok) :
    Calls Try.prog 23 #[.pointer (some ⟨sb, 0, none⟩), .pointer (some ⟨rb, 0, none⟩), .agg #[.int .i64 2, .int .i64 x1, .bool k.e, .int .u64 k.d, .int .u8 k.l]] w fun e w' => e = .returned (.bool true) ∧ (∃ t v', t ≤ turn + 1 ∧ Both w' base sb qb gq hb gh rb n most t v' (remL n M x1)) ∧ Fr (fun k => OwnS sb qb gq hb gh k ∨ k = rb) w w' := by
  have NA : Hid (¬ OwnS sb qb gq hb gh w.heap.size) := fun q => by have := h.lts _ (.inl q); omega
  have NB : Hid (¬ (w.heap.size = rb)) := fun q => by have := h.lts _ (.inr q); omega
  have HA := veil (h.below ((Below.refl _ _).alloc (Nat.le_refl _) (.cells #[.int .i64 2, .int .i64 x1, .bool k.e, .int .u64 k.d, .int .u8 k.l] 41)))
  have HB := veil (box_cells (w := w) (w' := w.alloc (.cells #[.int .i64 2, .int .i64 x1, .bool k.e, .int .u64 k.d, .int .u8 k.l] 41)) (x0 := 2) (x1 := x1) (k := k) (Below.refl _ _))
  have hsz : w.heap.size < (w.alloc (.cells #[.int .i64 2, .int .i64 x1, .bool k.e, .int .u64 k.d, .int .u8 k.l] 41)).heap.size := by simp
  have HSZ := veil hsz
  have HC : Hid ((w.alloc (.cells #[.int .i64 2, .int .i64 x1, .bool k.e, .int .u64 k.d, .int .u8 k.l] 41)).drew.cell? ⟨w.heap.size, 1, none⟩ = some (.int .i64 x1) ∧ (w.alloc (.cells #[.int .i64 2, .int .i64 x1, .bool k.e, .int .u64 k.d, .int .u8 k.l] 41)).drew.cell? ⟨w.heap.size, 2, none⟩ = some (.bool k.e) ∧ (w.alloc (.cells #[.int .i64 2, .int .i64 x1, .bool k.e, .int .u64 k.d, .int .u8 k.l] 41)).drew.cell? ⟨w.heap.size, 3, none⟩ = some (.int .u64 k.d) ∧ (w.alloc (.cells #[.int .i64 2, .int .i64 x1, .bool k.e, .int .u64 k.d, .int .u8 k.l] 41)).drew.cell? ⟨w.heap.size, 4, none⟩ = some (.int .u8 k.l)) := HB.out
  clear h hsz
  go_enter Try.func23, Try.ntmps23
  go_wp2
  go_region_held3 (fun w' => w'.cell? ⟨w.heap.size, 1, none⟩ = some (.int .i64 x1) ∧ w'.cell? ⟨w.heap.size, 2, none⟩ = some (.bool k.e) ∧ w'.cell? ⟨w.heap.size, 3, none⟩ = some (.int .u64 k.d) ∧ w'.cell? ⟨w.heap.size, 4, none⟩ = some (.int .u8 k.l))
    (first
      | exact HC.out
      | exact box_fr HB.out HSZ.out HF1.out NA.out
      | exact box_fr (box_fr HB.out HSZ.out HF1.out NA.out) (Nat.lt_of_lt_of_le HSZ.out HF1.out.size) HF2.out NB.out
      | go_keep)
    (first
      | (go_at_call 25; refine (sremove_all (by exact HA.out.q.like rfl) x1).mono ?_; rintro e w1 ⟨rfl, hq1, hf1⟩; have HF1 := veil (Fr.pre (w0 := w.alloc (.cells #[.int .i64 2, .int .i64 x1, .bool k.e, .int .u64 k.d, .int .u8 k.l] 41)) hf1 rfl rfl rfl rfl); have HQ1 := veil hq1; clear hq1 hf1)
      | (go_at_call 47; refine (rremove_all (HA.out.refOf HF1.out) x1).mono ?_; rintro e w2 ⟨rfl, hr2, hf2⟩; have HF2 := veil hf2; have HR2 := veil hr2; clear hr2 hf2))
  have HX := veil (HA.out.join HQ1.out HF1.out HR2.out HF2.out)
  clear HQ1 HF1 HR2 HF2 HA HB
  go_wp2
  go_ret
  exact ⟨by simp, HX.out.1, (Fr.of_below' ((Below.refl _ _).alloc (Nat.le_refl _) _)).trans HX.out.2⟩
set_option maxHeartbeats 4000000 in
theorem do_take (w : World) (base sb qb gq hb gh rb n most turn : Nat) (v : Value) (M : List En) (h : Both w base sb qb gq hb gh rb n most turn v M) (x1 : Int) (k : Ke.K) :
    Calls Try.prog 23 #[.pointer (some ⟨sb, 0, none⟩), .pointer (some ⟨rb, 0, none⟩), .agg #[.int .i64 3, .int .i64 x1, .bool k.e, .int .u64 k.d, .int .u8 k.l]] w fun e w' => e = .returned (.bool true) ∧ (∃ t v', t ≤ turn + 1 ∧ Both w' base sb qb gq hb gh rb n most t v' M.tail) ∧ Fr (fun k => OwnS sb qb gq hb gh k ∨ k = rb) w w' := by
  have HA := veil (h.below ((Below.refl _ _).alloc (Nat.le_refl _) (.cells #[.int .i64 3, .int .i64 x1, .bool k.e, .int .u64 k.d, .int .u8 k.l] 41)))
  have hrb := h.r.lt
  have hsm : Ke.same (tkK M) (tkK M) = true := by rw [Ke.same_eq]; exact decide_eq_true rfl
  clear h
  go_enter Try.func23, Try.ntmps23
  go_wp2_with (first
      | (go_at_call 15; refine (stake_all HA.out.q).mono ?_; rintro e w1 ⟨rfl, hq1, hf1⟩; have hs1 : w.heap.size + 1 ≤ w1.heap.size := (by have := hf1.size; simpa using this); have HF1 := veil (hf1.trans (Fr.of_below' ((Below.refl _ _).alloc (Nat.le_refl _) (.cells #[.bool (tkK M).e, .int .u64 (tkK M).d, .int .u8 (tkK M).l] 34)))); obtain ⟨t1, ht1, hq1⟩ := hq1; have HQ1 := veil (hq1.below ((Below.refl _ _).alloc (Nat.le_refl _) (.cells #[.bool (tkK M).e, .int .u64 (tkK M).d, .int .u8 (tkK M).l] 34))); have yrb : ¬ w1.heap.size = rb := (by omega); clear hq1 hf1)
      | (go_at_call 48; refine (rtake_all (HA.out.refOf HF1.out)).mono ?_; rintro e w2 ⟨rfl, hr2, hf2⟩; have HX := veil (HA.out.join ⟨t1, ht1, HQ1.out⟩ HF1.out hr2 hf2); have hs2 : w1.heap.size + 1 ≤ w2.heap.size := (by have := hf2.size; simpa using this); have m0 := (hf2.cell (a := ⟨w1.heap.size, 0, none⟩) (by simp) yrb).trans (Ph.cell_new _ _ _ _); have m1 := (hf2.cell (a := ⟨w1.heap.size, 1, none⟩) (by simp) yrb).trans (Ph.cell_new _ _ _ _); have m2 := (hf2.cell (a := ⟨w1.heap.size, 2, none⟩) (by simp) yrb).trans (Ph.cell_new _ _ _ _); have z0 : ¬ w1.heap.size = w2.heap.size := (by omega); have z1 : ¬ w2.heap.size = w1.heap.size := (by omega); have p0 : (w2.alloc (.cells #[.bool (tkK M).e, .int .u64 (tkK M).d, .int .u8 (tkK M).l] 34)).cell? ⟨w1.heap.size, 0, none⟩ = some (.bool (tkK M).e) := (World.cell?_alloc_lt _ _ _ (by simp; omega)).trans m0; have p1 : (w2.alloc (.cells #[.bool (tkK M).e, .int .u64 (tkK M).d, .int .u8 (tkK M).l] 34)).cell? ⟨w1.heap.size, 1, none⟩ = some (.int .u64 (tkK M).d) := (World.cell?_alloc_lt _ _ _ (by simp; omega)).trans m1; have p2 : (w2.alloc (.cells #[.bool (tkK M).e, .int .u64 (tkK M).d, .int .u8 (tkK M).l] 34)).cell? ⟨w1.heap.size, 2, none⟩ = some (.int .u8 (tkK M).l) := (World.cell?_alloc_lt _ _ _ (by simp; omega)).trans m2; clear hr2 hf2))
  go_ret
  refine ⟨by simp, ?_, ?_⟩
  · obtain ⟨t2, v2, q1, q2⟩ := HX.out.1
    exact ⟨t2, v2, q1, q2.below ((Below.refl _ _).alloc (Nat.le_refl _) _)⟩
  · exact (Fr.of_below' ((Below.refl _ _).alloc (Nat.le_refl _) _)).trans (HX.out.2.trans (Fr.of_below' ((Below.refl _ _).alloc (Nat.le_refl _) _)))
theorem do_other (w : World) (base sb qb gq hb gh rb n most turn : Nat) (v : Value) (M : List En) (h : Both w base sb qb gq hb gh rb n most turn v M) (x0 x1 : Int) (k : Ke.K) (h0 : ¬ x0 = 0) (h1 : ¬ x0 = 1) (h2 : ¬ x0 = 2) (h3 : ¬ x0 = 3) :
    Calls Try.prog 23 #[.pointer (some ⟨sb, 0, none⟩), .pointer (some ⟨rb, 0, none⟩), .agg #[.int .i64 x0, .int .i64 x1, .bool k.e, .int .u64 k.d, .int .u8 k.l]] w fun e w' => e = .returned (.bool true) ∧ (∃ t v', t ≤ turn + 1 ∧ Both w' base sb qb gq hb gh rb n most t v' M) ∧ Fr (fun k => OwnS sb qb gq hb gh k ∨ k = rb) w w' := by
  have HA := veil (h.below ((Below.refl _ _).alloc (Nat.le_refl _) (.cells #[.int .i64 x0, .int .i64 x1, .bool k.e, .int .u64 k.d, .int .u8 k.l] 41)))
  clear h
  go_enter Try.func23, Try.ntmps23
  go_wp2
  go_ret
  exact ⟨rfl, ⟨turn, v, by omega, HA.out⟩, Fr.of_below' ((Below.refl _ _).alloc (Nat.le_refl _) _)⟩
end Go.Proofs.Ytfadckkebfgheaa
