/-
  The walk of 'do': a deed on both queues.
-/
import Derived.Test.YthehnicmjiidiaaD8
import Derived.Deep.DrawnRows
namespace Go.Proofs.Ythehnicmjiidiaa
open Go.RowKit Go.Lib
attribute [local go_sem ↓] Go.wp_at_zero Go.wp_at_succ

/-- Both queues hold the same, and lie apart. -/
structure Both (w : World) (base b g rb n : Nat) (v : Value) (R : List (Nat × Nat)) : Prop where
  q : IsQ w b g n R
  r : IsRef w base rb n v R
  hb : b < base
  hg : g < base
  nb : rb ≠ b
  ng : rb ≠ g
section
variable {w w' w'' : World} {base b g rb n : Nat} {v v' : Value} {R R' : List (Nat × Nat)}
theorem Both.row (h : Both w base b g rb n v R) (k : Nat) (hk : v.ownBlock = some k) : base ≤ k ∧ k < w.heap.size := h.r.own.lt k hk
theorem Both.frame {S : Nat → Prop} (h : Both w base b g rb n v R) (hf : Fr S w w') (h1 : ¬ S b) (h2 : ¬ S g) (h3 : ¬ S rb) (h4 : ∀ k, v.ownBlock = some k → ¬ S k) : Both w' base b g rb n v R :=
  ⟨h.q.frame hf h1 h2, h.r.frame hf h3 h4, h.hb, h.hg, h.nb, h.ng⟩
theorem Both.alloc (h : Both w base b g rb n v R) (o : Obj) : Both (w.alloc o) base b g rb n v R := h.frame (S := fun _ => False) ((Fr.refl _ _).alloc o) (fun q => q) (fun q => q) (fun q => q) (fun _ _ q => q)
theorem Both.drewN (h : Both w base b g rb n v R) (q : Nat) : Both (w.drewN q) base b g rb n v R := h.frame (S := fun _ => False) ((Fr.refl _ _).drewN q) (fun q => q) (fun q => q) (fun q => q) (fun _ _ q => q)
theorem Both.quiet (h : Both w base b g rb n v R) (hf : Fr (fun _ => False) w w') : Both w' base b g rb n v R := h.frame hf (fun q => q) (fun q => q) (fun q => q) (fun _ _ q => q)
/-- First the program's, then the document's. -/
theorem Both.join1 (h : Both w base b g rb n v R) (hq : IsQ w' b g n R') (hf : Fr (fun k => k = b ∨ k = g) w w') (hr : ∃ v', IsRef w'' base rb n v' R') (hf' : Fr (fun k => k = rb ∨ some k = v.ownBlock) w' w'') :
    (∃ v', Both w'' base b g rb n v' R') ∧ Fr (fun k => k = b ∨ k = g ∨ k = rb ∨ some k = v.ownBlock) w w'' := by
  obtain ⟨v', hr⟩ := hr
  have hrow := h.row
  have hb := h.hb
  have hg := h.hg
  refine ⟨⟨v', hq.frame hf' ?_ ?_, hr, hb, hg, h.nb, h.ng⟩, (hf.wide (fun k _ q => q.elim .inl (fun q => .inr (.inl q)))).trans (hf'.wide (fun k _ q => .inr (.inr q)))⟩
  · rintro (q | q)
    · exact h.nb q.symm
    · have := (hrow b q.symm).1; omega
  · rintro (q | q)
    · exact h.ng q.symm
    · have := (hrow g q.symm).1; omega
/-- First the document's, then the program's. -/
theorem Both.join2 (h : Both w base b g rb n v R) (hr : ∃ v', IsRef w' base rb n v' R') (hf : Fr (fun k => k = rb ∨ some k = v.ownBlock) w w') (hq : IsQ w'' b g n R') (hf' : Fr (fun k => k = b ∨ k = g) w' w'') :
    (∃ v', Both w'' base b g rb n v' R') ∧ Fr (fun k => k = b ∨ k = g ∨ k = rb ∨ some k = v.ownBlock) w w'' := by
  obtain ⟨v', hr⟩ := hr
  have hb := h.hb
  have hg := h.hg
  refine ⟨⟨v', hq, hr.frame hf' ?_ ?_, hb, hg, h.nb, h.ng⟩, (hf.wide (fun k _ q => .inr (.inr q))).trans (hf'.wide (fun k _ q => q.elim .inl (fun q => .inr (.inl q))))⟩
  · rintro (q | q)
    · exact h.nb q
    · exact h.ng q
  · rintro k hk (q | q) <;> (have := (hr.own.lt k hk).1; omega)
theorem Both.refOf (h : Both w base b g rb n v R) (hf : Fr (fun k => k = b ∨ k = g) w w') : IsRef w' base rb n v R := by
  refine h.r.frame hf ?_ ?_
  · rintro (q | q)
    · exact h.nb q
    · exact h.ng q
  · have hb := h.hb
    have hg := h.hg
    rintro k hk (q | q) <;> (have := (h.row k hk).1; omega)
theorem Both.queOf (h : Both w base b g rb n v R) (hf : Fr (fun k => k = rb ∨ some k = v.ownBlock) w w') : IsQ w' b g n R := by
  have hb := h.hb
  have hg := h.hg
  refine h.q.frame hf ?_ ?_
  · rintro (q | q)
    · exact h.nb q.symm
    · have := (h.row b q.symm).1; omega
  · rintro (q | q)
    · exact h.ng q.symm
    · have := (h.row g q.symm).1; omega
theorem Both.nots (h : Both w base b g rb n v R) : b < w.heap.size ∧ g < w.heap.size ∧ rb < w.heap.size ∧ ∀ k, v.ownBlock = some k → k < w.heap.size := ⟨h.q.blocks.1, h.q.blocks.2.1, h.r.lt, fun k hk => (h.row k hk).2⟩
end

theorem quiet_of {w w' : World} (a : w'.heap = w.heap) (b : w'.os = w.os) (c : w'.tape = w.tape) (d : w'.output = w.output) : Fr (fun _ => False) w w' := ⟨b, c, d, by rw [a]; exact Nat.le_refl _, fun k _ _ => by rw [a]⟩

theorem IsQ.like {w w' : World} {b g n : Nat} {R : List (Nat × Nat)} (h : IsQ w b g n R) (a : w'.heap = w.heap) : IsQ w' b g n R := h.kept (by rw [a]) (by rw [a])
theorem Fr.pre {S : Nat → Prop} {w0 w w' : World} (h : Fr S w w') (a : w.heap = w0.heap) (b : w.os = w0.os) (c : w.tape = w0.tape) (d : w.output = w0.output) : Fr S w0 w' := ((quiet_of a b c d).wide (fun _ _ q => q.elim)).trans h

set_option maxHeartbeats 4000000 in
theorem do_push (w : World) (base b g rb n : Nat) (v : Value) (R R' : List (Nat × Nat)) (h : Both w base b g rb n v R) (x1 r : Int) (lv : Nat)
    (hQ : DoesQ 22 [.int .u8 lv, .int .i64 x1] n R (.int .i64 r) R') (hR : DoesR 39 [.int .u8 lv, .int .i64 x1] n R (.int .i64 r) R') :
    Calls Try.prog 25 #[.pointer (some ⟨b, 0, none⟩), .pointer (some ⟨rb, 0, none⟩), .agg #[.int .i64 0, .int .i64 x1, .int .u8 lv]] w fun e w' => e = .returned (.bool true) ∧ (∃ v', Both w' base b g rb n v' R') ∧ Fr (fun k => k = b ∨ k = g ∨ k = rb ∨ some k = v.ownBlock) w w' := by
  have HN := h.nots
  have nA : ¬ (w.heap.size = b ∨ w.heap.size = g) := by omega
  have nB : ¬ (w.heap.size = rb ∨ some w.heap.size = v.ownBlock) := by
    rintro (q | q)
    · omega
    · have := HN.2.2.2 _ q.symm; omega
  clear HN
  have NA := veil nA
  have NB := veil nB
  clear nA nB
  have HA := veil (h.alloc (.cells #[.int .i64 0, .int .i64 x1, .int .u8 lv] 24))
  have C1 : Hid ((w.alloc (.cells #[.int .i64 0, .int .i64 x1, .int .u8 lv] 24)).cell? ⟨w.heap.size, 1, none⟩ = some (.int .i64 x1)) := by unfold Hid; rw [cell_new]; rfl
  have C2 : Hid ((w.alloc (.cells #[.int .i64 0, .int .i64 x1, .int .u8 lv] 24)).cell? ⟨w.heap.size, 2, none⟩ = some (.int .u8 lv)) := by unfold Hid; rw [cell_new]; rfl
  have HQ := veil hQ
  have HR := veil hR
  clear h hQ hR
  go_enter Try.func25, Try.ntmps25
  go_wp2
  go_region_held3 (fun w' => w'.cell? ⟨w.heap.size, 1, none⟩ = some (.int .i64 x1) ∧ w'.cell? ⟨w.heap.size, 2, none⟩ = some (.int .u8 lv))
    (first
      | go_keep
      | exact ⟨(HF1.out.cell (a := ⟨w.heap.size, 1, none⟩) (by simp) NA.out).trans C1.out, (HF1.out.cell (a := ⟨w.heap.size, 2, none⟩) (by simp) NA.out).trans C2.out⟩
      | exact ⟨(HF2.out.cell (a := ⟨w.heap.size, 1, none⟩) (Nat.lt_of_lt_of_le (by simp) HF1.out.size) NB.out).trans ((HF1.out.cell (a := ⟨w.heap.size, 1, none⟩) (by simp) NA.out).trans C1.out), (HF2.out.cell (a := ⟨w.heap.size, 2, none⟩) (Nat.lt_of_lt_of_le (by simp) HF1.out.size) NB.out).trans ((HF1.out.cell (a := ⟨w.heap.size, 2, none⟩) (by simp) NA.out).trans C2.out)⟩)
    (first
      | (go_at_call 22; refine (HQ.out _ b g (by exact HA.out.q.like rfl)).mono ?_; rintro e w1 ⟨rfl, hq1, hf1⟩; have HF1 := veil (Fr.pre (w0 := w.alloc (.cells #[.int .i64 0, .int .i64 x1, .int .u8 lv] 24)) hf1 rfl rfl rfl rfl); have HQ1 := veil hq1; clear hq1 hf1)
      | (go_at_call 39; refine (HR.out w1 base rb v (HA.out.refOf HF1.out)).mono ?_; rintro e w2 ⟨rfl, hr2, hf2⟩; have HF2 := veil hf2; have HR2 := veil hr2; clear hr2 hf2))
  have HX := veil (HA.out.join1 HQ1.out HF1.out HR2.out HF2.out)
  clear HQ1 HF1 HR2 HF2 HA
  go_wp2
  go_ret
  exact ⟨by simp, HX.out.1, ((Fr.refl _ _).alloc _).trans HX.out.2⟩

set_option maxHeartbeats 4000000 in
theorem do_remove (w : World) (base b g rb n : Nat) (v : Value) (R R' : List (Nat × Nat)) (h : Both w base b g rb n v R) (x1 r : Int) (lv : Nat)
    (hQ : DoesQ 20 [.int .i64 x1] n R (.int .i64 r) R') (hR : DoesR 41 [.int .i64 x1] n R (.int .i64 r) R') :
    Calls Try.prog 25 #[.pointer (some ⟨b, 0, none⟩), .pointer (some ⟨rb, 0, none⟩), .agg #[.int .i64 2, .int .i64 x1, .int .u8 lv]] w fun e w' => e = .returned (.bool true) ∧ (∃ v', Both w' base b g rb n v' R') ∧ Fr (fun k => k = b ∨ k = g ∨ k = rb ∨ some k = v.ownBlock) w w' := by
  have HN := h.nots
  have nA : ¬ (w.heap.size = b ∨ w.heap.size = g) := by omega
  have nB : ¬ (w.heap.size = rb ∨ some w.heap.size = v.ownBlock) := by
    rintro (q | q)
    · omega
    · have := HN.2.2.2 _ q.symm; omega
  clear HN
  have NA := veil nA
  have NB := veil nB
  clear nA nB
  have HA := veil (h.alloc (.cells #[.int .i64 2, .int .i64 x1, .int .u8 lv] 24))
  have C1 : Hid ((w.alloc (.cells #[.int .i64 2, .int .i64 x1, .int .u8 lv] 24)).cell? ⟨w.heap.size, 1, none⟩ = some (.int .i64 x1)) := by unfold Hid; rw [cell_new]; rfl
  have C2 : Hid ((w.alloc (.cells #[.int .i64 2, .int .i64 x1, .int .u8 lv] 24)).cell? ⟨w.heap.size, 2, none⟩ = some (.int .u8 lv)) := by unfold Hid; rw [cell_new]; rfl
  have HQ := veil hQ
  have HR := veil hR
  clear h hQ hR
  go_enter Try.func25, Try.ntmps25
  go_wp2
  go_region_held3 (fun w' => w'.cell? ⟨w.heap.size, 1, none⟩ = some (.int .i64 x1) ∧ w'.cell? ⟨w.heap.size, 2, none⟩ = some (.int .u8 lv))
    (first
      | go_keep
      | exact ⟨(HF1.out.cell (a := ⟨w.heap.size, 1, none⟩) (by simp) NA.out).trans C1.out, (HF1.out.cell (a := ⟨w.heap.size, 2, none⟩) (by simp) NA.out).trans C2.out⟩
      | exact ⟨(HF2.out.cell (a := ⟨w.heap.size, 1, none⟩) (Nat.lt_of_lt_of_le (by simp) HF1.out.size) NB.out).trans ((HF1.out.cell (a := ⟨w.heap.size, 1, none⟩) (by simp) NA.out).trans C1.out), (HF2.out.cell (a := ⟨w.heap.size, 2, none⟩) (Nat.lt_of_lt_of_le (by simp) HF1.out.size) NB.out).trans ((HF1.out.cell (a := ⟨w.heap.size, 2, none⟩) (by simp) NA.out).trans C2.out)⟩)
    (first
      | (go_at_call 20; refine (HQ.out _ b g (by exact HA.out.q.like rfl)).mono ?_; rintro e w1 ⟨rfl, hq1, hf1⟩; have HF1 := veil (Fr.pre (w0 := w.alloc (.cells #[.int .i64 2, .int .i64 x1, .int .u8 lv] 24)) hf1 rfl rfl rfl rfl); have HQ1 := veil hq1; clear hq1 hf1)
      | (go_at_call 41; refine (HR.out w1 base rb v (HA.out.refOf HF1.out)).mono ?_; rintro e w2 ⟨rfl, hr2, hf2⟩; have HF2 := veil hf2; have HR2 := veil hr2; clear hr2 hf2))
  have HX := veil (HA.out.join1 HQ1.out HF1.out HR2.out HF2.out)
  clear HQ1 HF1 HR2 HF2 HA
  go_wp2
  go_ret
  exact ⟨by simp, HX.out.1, ((Fr.refl _ _).alloc _).trans HX.out.2⟩

set_option maxHeartbeats 4000000 in
theorem do_pop (w : World) (base b g rb n : Nat) (v : Value) (R R' : List (Nat × Nat)) (h : Both w base b g rb n v R) (x1 : Int) (lv l i : Nat) (ok : Bool)
    (hQ : DoesQ 14 [] n R (.tuple #[.int .u8 l, .int .i64 i, .bool ok]) R') (hR : DoesR 40 [] n R (.tuple #[.int .u8 l, .int .i64 i, .bool ok]) R') :
    Calls Try.prog 25 #[.pointer (some ⟨b, 0, none⟩), .pointer (some ⟨rb, 0, none⟩), .agg #[.int .i64 1, .int .i64 x1, .int .u8 lv]] w fun e w' => e = .returned (.bool true) ∧ (∃ v', Both w' base b g rb n v' R') ∧ Fr (fun k => k = b ∨ k = g ∨ k = rb ∨ some k = v.ownBlock) w w' := by
  have HA := veil (h.alloc (.cells #[.int .i64 1, .int .i64 x1, .int .u8 lv] 24))
  have HQ := veil hQ
  have HR := veil hR
  clear h hQ hR
  go_enter Try.func25, Try.ntmps25
  go_wp2_with (first
      | (go_at_call 14; refine (HQ.out _ b g HA.out.q).mono ?_; rintro e w1 ⟨rfl, hq1, hf1⟩; have HF1 := veil hf1; have HQ1 := veil hq1; clear hq1 hf1)
      | (go_at_call 40; refine (HR.out w1 base rb v (HA.out.refOf HF1.out)).mono ?_; rintro e w2 ⟨rfl, hr2, hf2⟩; have HX := veil (HA.out.join1 HQ1.out HF1.out hr2 hf2); clear hr2 hf2 HQ1 HF1 HA))
  go_ret
  exact ⟨by simp, HX.out.1, ((Fr.refl _ _).alloc _).trans HX.out.2⟩
theorem do_other (w : World) (base b g rb n : Nat) (v : Value) (R : List (Nat × Nat)) (h : Both w base b g rb n v R) (x0 x1 : Int) (lv : Nat) (h0 : ¬ x0 = 0) (h1 : ¬ x0 = 1) (h2 : ¬ x0 = 2) :
    Calls Try.prog 25 #[.pointer (some ⟨b, 0, none⟩), .pointer (some ⟨rb, 0, none⟩), .agg #[.int .i64 x0, .int .i64 x1, .int .u8 lv]] w fun e w' => e = .returned (.bool true) ∧ (∃ v', Both w' base b g rb n v' R) ∧ Fr (fun k => k = b ∨ k = g ∨ k = rb ∨ some k = v.ownBlock) w w' := by
  have HA := veil (h.alloc (.cells #[.int .i64 x0, .int .i64 x1, .int .u8 lv] 24))
  clear h
  go_enter Try.func25, Try.ntmps25
  go_wp2
  go_ret
  exact ⟨rfl, ⟨v, HA.out⟩, (Fr.refl _ _).alloc _⟩
theorem do_ok (w : World) (base b g rb n : Nat) (v : Value) (R : List (Nat × Nat)) (h : Both w base b g rb n v R) (x0 x1 : Int) (lv : Nat) (hlv : lv < 256) :
    Calls Try.prog 25 #[.pointer (some ⟨b, 0, none⟩), .pointer (some ⟨rb, 0, none⟩), .agg #[.int .i64 x0, .int .i64 x1, .int .u8 lv]] w fun e w' => e = .returned (.bool true) ∧ (∃ v' R', Both w' base b g rb n v' R') ∧ Fr (fun k => k = b ∨ k = g ∨ k = rb ∨ some k = v.ownBlock) w w' := by
  by_cases h0 : x0 = 0
  · subst h0
    obtain ⟨r, R', _, hQ, hR⟩ := push_both n R h.q.ids lv x1 hlv
    refine (do_push w base b g rb n v R R' h x1 r lv hQ hR).mono ?_
    rintro e w' ⟨he, ⟨v', hb⟩, hf⟩
    exact ⟨he, ⟨v', R', hb⟩, hf⟩
  by_cases h1 : x0 = 1
  · subst h1
    obtain ⟨l, i, ok, R', _, hQ, hR⟩ := pop_both n R h.q.ids (fun it hit => (h.q.rng it hit).2)
    refine (do_pop w base b g rb n v R R' h x1 lv l i ok hQ hR).mono ?_
    rintro e w' ⟨he, ⟨v', hb⟩, hf⟩
    exact ⟨he, ⟨v', R', hb⟩, hf⟩
  by_cases h2 : x0 = 2
  · subst h2
    obtain ⟨r, R', _, hQ, hR⟩ := remove_both n R h.q.ids x1
    refine (do_remove w base b g rb n v R R' h x1 r lv hQ hR).mono ?_
    rintro e w' ⟨he, ⟨v', hb⟩, hf⟩
    exact ⟨he, ⟨v', R', hb⟩, hf⟩
  refine (do_other w base b g rb n v R h x0 x1 lv h0 h1 h2).mono ?_
  rintro e w' ⟨he, ⟨v', hb⟩, hf⟩
  exact ⟨he, ⟨v', R, hb⟩, hf⟩
end Go.Proofs.Ythehnicmjiidiaa
