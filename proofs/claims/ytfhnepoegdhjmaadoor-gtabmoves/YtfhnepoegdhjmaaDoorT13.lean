/-
  Both tables at once: what Alloc, Release and Move answer alike; a deed on both.
-/
import Derived.Test.YtfhnepoegdhjmaaDoorT12
namespace Go.Proofs.YtfhnepoegdhjmaaDoor
open Go.RowKit Go.Lib
set_option linter.unusedVariables false
attribute [local go_sem ↓] Go.wp_at_zero Go.wp_at_succ

/-- Both tables hold the same. -/
structure Both (w : World) (b g rb sb gb n : Nat) (G S : Nat → Nat) : Prop where
  p : Rep w b g n G S
  r : RefR w rb sb gb n G S
  t : Tab w
  s4 : ∀ j, j < n → S j ≤ 4
  e1 : b ≠ rb
  e2 : b ≠ sb
  e3 : b ≠ gb
  e4 : g ≠ rb
  e5 : g ≠ sb
  e6 : g ≠ gb
  z1 : 0 < g
  z2 : 0 < sb
  z3 : 0 < gb
section
variable {w w' w'' : World} {b g rb sb gb n : Nat} {G S G' S' : Nat → Nat}
theorem Both.frame {X : Nat → Prop} (h : Both w b g rb sb gb n G S) (hf : Fr X w w') (h1 : ¬ X b) (h2 : ¬ X g) (h3 : ¬ X rb) (h4 : ¬ X sb) (h5 : ¬ X gb) (h0 : ¬ X 0) : Both w' b g rb sb gb n G S :=
  { h with p := h.p.frame hf h1 h2, r := h.r.frame hf h3 h4 h5, t := h.t.frame hf h0 }
theorem Both.below (h : Both w b g rb sb gb n G S) (hf : Below w.heap.size w w') : Both w' b g rb sb gb n G S := h.frame (X := fun _ => False) (Fr.of_below' hf) id id id id id id
theorem Both.alloc (h : Both w b g rb sb gb n G S) (o : Obj) : Both (w.alloc o) b g rb sb gb n G S := h.below ((Below.refl _ _).alloc (Nat.le_refl _) _)
theorem Both.like (h : Both w b g rb sb gb n G S) (a : w'.heap = w.heap) : Both w' b g rb sb gb n G S :=
  { h with p := h.p.like a, r := h.r.like a, t := fun i j hi hj => by rw [show w'.cell? ⟨0, i * 5 + j, none⟩ = w.cell? ⟨0, i * 5 + j, none⟩ by unfold World.cell?; rw [a]]; exact h.t i j hi hj }
theorem Both.refOf (h : Both w b g rb sb gb n G S) (hf : Fr (fun k => k = g) w w') : RefR w' rb sb gb n G S := h.r.frame hf (fun q => h.e4 q.symm) (fun q => h.e5 q.symm) (fun q => h.e6 q.symm)
theorem Both.join (h : Both w b g rb sb gb n G S) (hs : ∀ j, j < n → S' j ≤ 4) (hp : Rep w' b g n G' S') (hf : Fr (fun k => k = g) w w') (hr : RefR w'' rb sb gb n G' S') (hf' : Fr (fun k => k = sb ∨ k = gb) w' w'') :
    Both w'' b g rb sb gb n G' S' ∧ Fr (fun k => k = g ∨ k = sb ∨ k = gb) w w'' := by
  have hne : ∀ k, (k = sb ∨ k = gb) → k ≠ b ∧ k ≠ g ∧ k ≠ 0 := by
    have := h.e2; have := h.e3; have := h.e5; have := h.e6; have := h.z2; have := h.z3
    omega
  refine ⟨{ h with p := hp.frame hf' (fun q => (hne _ q).1 rfl) (fun q => (hne _ q).2.1 rfl), r := hr, t := (h.t.frame hf (by have := h.z1; omega)).frame hf' (fun q => (hne _ q).2.2 rfl), s4 := hs }, (hf.wide (fun _ _ q => .inl q)).trans (hf'.wide (fun _ _ q => .inr q))⟩
end

/-- What a call makes of a table that holds G, S, and what it answers. -/
def DoesT (f : Nat) (args : List Value) (n : Nat) (G S : Nat → Nat) (x : Value) (G' S' : Nat → Nat) : Prop :=
  ∀ (w : World) (b g : Nat), Rep w b g n G S → Tab w → Calls Tryd.prog f (Value.pointer (some ⟨b, 0, none⟩) :: args).toArray w fun e w' => e = .returned x ∧ Rep w' b g n G' S' ∧ Fr (fun k => k = g) w w'
/-- The same of the document's. -/
def DoesR (f : Nat) (args : List Value) (n : Nat) (G S : Nat → Nat) (x : Value) (G' S' : Nat → Nat) : Prop :=
  ∀ (w : World) (rb sb gb : Nat), RefR w rb sb gb n G S → Calls Tryd.prog f (Value.pointer (some ⟨rb, 0, none⟩) :: args).toArray w fun e w' => e = .returned x ∧ RefR w' rb sb gb n G' S' ∧ Fr (fun k => k = sb ∨ k = gb) w w'

theorem upd_le {S : Nat → Nat} {n x v m : Nat} (h : ∀ j, j < n → S j ≤ m) (hv : v ≤ m) : ∀ j, j < n → upd S x v j ≤ m := by
  intro j hj
  unfold upd
  split
  · exact hv
  · exact h j hj
theorem alloc_both (n : Nat) (G S : Nat → Nat) (M : Nat) (hM : M + 1 < 4294967296) (hG : ∀ j, j < n → G j ≤ M) (hS : ∀ j, j < n → S j ≤ 4) :
    ∃ (p q e : Int) (G' S' : Nat → Nat), (∀ j, j < n → G' j ≤ M + 1) ∧ (∀ j, j < n → S' j ≤ 4) ∧ DoesT 24 [] n G S (.tuple #[.agg #[.int .i64 p, .int .u32 q], .int .i64 e]) G' S' ∧ DoesR 35 [] n G S (.tuple #[.agg #[.int .i64 p, .int .u32 q], .int .i64 e]) G' S' := by
  have hG1 : ∀ j, j < n → G j + 1 < 4294967296 := fun j hj => by have := hG j hj; omega
  rcases free_or S n with ⟨x, hx, hs, hf⟩ | hf
  · refine ⟨x, ((G x + 1 : Nat) : Int), 0, upd G x (G x + 1), upd S x 1, upd_le (fun j hj => by have := hG j hj; omega) (by have := hG x hx; omega), upd_le hS (by omega), ?_, ?_⟩
    · intro w b g h _
      exact alloc_some h hG1 x hx hs hf
    · intro w rb sb gb h
      exact ralloc_some h x hx hs hf (hG1 x hx)
  · refine ⟨0, 0, 4, G, S, fun j hj => by have := hG j hj; omega, hS, ?_, ?_⟩
    · intro w b g h _
      refine (alloc_full h hG1 hf).mono ?_
      rintro e w' ⟨he, hb⟩
      exact ⟨he, h.below hb, Fr.of_below' hb⟩
    · intro w rb sb gb h
      refine (ralloc_full h hf).mono ?_
      rintro e w' ⟨he, hb⟩
      exact ⟨he, h.below hb, Fr.of_below' hb⟩
theorem release_both (n : Nat) (G S : Nat → Nat) (hS : ∀ j, j < n → S j ≤ 4) (p : Int) (q : Nat) :
    ∃ (r : Int) (S' : Nat → Nat), (∀ j, j < n → S' j ≤ 4) ∧ DoesT 17 [.agg #[.int .i64 p, .int .u32 (q : Int)]] n G S (.int .i64 r) G S' ∧ DoesR 36 [.agg #[.int .i64 p, .int .u32 (q : Int)]] n G S (.int .i64 r) G S' := by
  by_cases hh : hasB n G S p q = true
  · obtain ⟨x, rfl, hx, hs, hg⟩ := hasB_some hh
    refine ⟨0, upd S x 0, upd_le hS (by omega), fun w b g h _ => release_some h x q hx hs hg, fun w rb sb gb h => (rrelease_some h x q hx hs hg).mono ?_⟩
    rintro e w' ⟨he, hr, hf⟩
    exact ⟨he, hr, hf.wide (fun _ _ q => .inl q)⟩
  · have hh' : hasB n G S p q = false := by simpa using hh
    refine ⟨6, S, hS, fun w b g h _ => (release_none h p q hh').mono ?_, fun w rb sb gb h => (rrelease_none h p q hh').mono ?_⟩
    · rintro e w' ⟨he, hb⟩
      exact ⟨he, h.below hb, Fr.of_below' hb⟩
    · rintro e w' ⟨he, hb⟩
      exact ⟨he, h.below hb, Fr.of_below' hb⟩
theorem may_bound {a s : Int} (h : mayB a s = true) : 0 ≤ s ∧ s ≤ 4 := by
  unfold mayB at h
  simp only [Bool.and_eq_true, decide_eq_true_eq] at h
  exact ⟨h.1.1.2, h.1.2⟩
theorem move_both (n : Nat) (G S : Nat → Nat) (hS : ∀ j, j < n → S j ≤ 4) (p s : Int) (q : Nat) :
    ∃ (r : Int) (S' : Nat → Nat), (∀ j, j < n → S' j ≤ 4) ∧ DoesT 19 [.agg #[.int .i64 p, .int .u32 (q : Int)], .int .i64 s] n G S (.int .i64 r) G S' ∧ DoesR 37 [.agg #[.int .i64 p, .int .u32 (q : Int)], .int .i64 s] n G S (.int .i64 r) G S' := by
  by_cases hh : hasB n G S p q = true
  · obtain ⟨x, rfl, hx, hs, hg⟩ := hasB_some hh
    by_cases hm : mayB (S x) s = true
    · obtain ⟨m0, m1⟩ := may_bound hm
      obtain ⟨y, rfl⟩ := Int.eq_ofNat_of_zero_le m0
      refine ⟨0, upd S x y, upd_le hS (by omega), fun w b g h ht => move_some h ht x q y hx hs hg hm, fun w rb sb gb h => (rmove_some h x q y hx hs hg hm).mono ?_⟩
      rintro e w' ⟨he, hr, hf⟩
      exact ⟨he, hr, hf.wide (fun _ _ q => .inl q)⟩
    · have hm' : mayB (S x) s = false := by simpa using hm
      refine ⟨11, S, hS, fun w b g h ht => (move_state h ht x q s hx hs hg hm').mono ?_, fun w rb sb gb h => (rmove_state h x q s hx hs hg hm').mono ?_⟩
      · rintro e w' ⟨he, hb⟩
        exact ⟨he, h.below hb, Fr.of_below' hb⟩
      · rintro e w' ⟨he, hb⟩
        exact ⟨he, h.below hb, Fr.of_below' hb⟩
  · have hh' : hasB n G S p q = false := by simpa using hh
    refine ⟨6, S, hS, fun w b g h _ => (move_none h p s q hh').mono ?_, fun w rb sb gb h => (rmove_none h p s q hh').mono ?_⟩
    · rintro e w' ⟨he, hb⟩
      exact ⟨he, h.below hb, Fr.of_below' hb⟩
    · rintro e w' ⟨he, hb⟩
      exact ⟨he, h.below hb, Fr.of_below' hb⟩
theorem quiet_of {w w' : World} (a : w'.heap = w.heap) (b : w'.os = w.os) (c : w'.tape = w.tape) (d : w'.output = w.output) : Fr (fun _ => False) w w' := ⟨b, c, d, by rw [a]; exact Nat.le_refl _, fun k _ _ => by rw [a]⟩
theorem Fr.pre {X : Nat → Prop} {w0 w w' : World} (h : Fr X w w') (a : w.heap = w0.heap) (b : w.os = w0.os) (c : w.tape = w0.tape) (d : w.output = w0.output) : Fr X w0 w' := ((quiet_of a b c d).wide (fun _ _ q => q.elim)).trans h

section
variable {w : World} {b g rb sb gb n : Nat} {G S G' S' : Nat → Nat}
set_option maxHeartbeats 4000000 in
theorem do_release (h : Both w b g rb sb gb n G S) (hs : ∀ j, j < n → S' j ≤ 4) (x1 s r : Int) (q : Nat)
    (hT : DoesT 17 [.agg #[.int .i64 x1, .int .u32 (q : Int)]] n G S (.int .i64 r) G' S') (hR : DoesR 36 [.agg #[.int .i64 x1, .int .u32 (q : Int)]] n G S (.int .i64 r) G' S') :
    Calls Tryd.prog 23 #[.pointer (some ⟨b, 0, none⟩), .pointer (some ⟨rb, 0, none⟩), .agg #[.int .i64 1, .int .i64 x1, .int .u32 (q : Int), .int .i64 s]] w fun e w' => e = .returned (.bool true) ∧ Both w' b g rb sb gb n G' S' ∧ Fr (fun k => k = g ∨ k = sb ∨ k = gb) w w' := by
  have l1 := h.p.lt_g
  have l2 := h.r.lt_s
  have l3 := h.r.lt_g
  have NA : Hid (¬ (w.heap.size = g)) := veil (by omega)
  have NB : Hid (¬ (w.heap.size = sb ∨ w.heap.size = gb)) := veil (by omega)
  have HA := veil (h.alloc (.cells #[.int .i64 1, .int .i64 x1, .int .u32 (q : Int), .int .i64 s] 45))
  have C1 : Hid ((w.alloc (.cells #[.int .i64 1, .int .i64 x1, .int .u32 (q : Int), .int .i64 s] 45)).cell? ⟨w.heap.size, 1, none⟩ = some (.int .i64 x1)) := by unfold Hid; rw [cell_new]; rfl
  have C2 : Hid ((w.alloc (.cells #[.int .i64 1, .int .i64 x1, .int .u32 (q : Int), .int .i64 s] 45)).cell? ⟨w.heap.size, 2, none⟩ = some (.int .u32 (q : Int))) := by unfold Hid; rw [cell_new]; rfl
  have HT := veil hT
  have HR := veil hR
  clear h hT hR
  go_enter Tryd.func23, Tryd.ntmps23
  go_wp2
  go_region_held3 (fun w' => w'.cell? ⟨w.heap.size, 1, none⟩ = some (.int .i64 x1) ∧ w'.cell? ⟨w.heap.size, 2, none⟩ = some (.int .u32 (q : Int)))
    (first
      | go_keep
      | exact ⟨(HF1.out.cell (a := ⟨w.heap.size, 1, none⟩) (by simp) NA.out).trans C1.out, (HF1.out.cell (a := ⟨w.heap.size, 2, none⟩) (by simp) NA.out).trans C2.out⟩
      | exact ⟨(HF2.out.cell (a := ⟨w.heap.size, 1, none⟩) (Nat.lt_of_lt_of_le (by simp) HF1.out.size) NB.out).trans ((HF1.out.cell (a := ⟨w.heap.size, 1, none⟩) (by simp) NA.out).trans C1.out), (HF2.out.cell (a := ⟨w.heap.size, 2, none⟩) (Nat.lt_of_lt_of_le (by simp) HF1.out.size) NB.out).trans ((HF1.out.cell (a := ⟨w.heap.size, 2, none⟩) (by simp) NA.out).trans C2.out)⟩)
    (first
      | (go_at_call 17; refine (HT.out _ b g (by exact HA.out.p.like rfl) (by exact HA.out.t)).mono ?_; rintro e w1 ⟨rfl, hq1, hf1⟩; have HF1 := veil (Fr.pre (w0 := w.alloc (.cells #[.int .i64 1, .int .i64 x1, .int .u32 (q : Int), .int .i64 s] 45)) hf1 rfl rfl rfl rfl); have HQ1 := veil hq1; clear hq1 hf1)
      | (go_at_call 36; refine (HR.out w1 rb sb gb (HA.out.refOf HF1.out)).mono ?_; rintro e w2 ⟨rfl, hr2, hf2⟩; have HF2 := veil hf2; have HR2 := veil hr2; clear hr2 hf2))
  have HX := veil (HA.out.join hs HQ1.out HF1.out HR2.out HF2.out)
  clear HQ1 HF1 HR2 HF2 HA
  go_wp2
  go_ret
  exact ⟨by simp, HX.out.1, ((Fr.refl _ _).alloc _).trans HX.out.2⟩
set_option maxHeartbeats 4000000 in
theorem do_move (h : Both w b g rb sb gb n G S) (hs : ∀ j, j < n → S' j ≤ 4) (x1 s r : Int) (q : Nat)
    (hT : DoesT 19 [.agg #[.int .i64 x1, .int .u32 (q : Int)], .int .i64 s] n G S (.int .i64 r) G' S') (hR : DoesR 37 [.agg #[.int .i64 x1, .int .u32 (q : Int)], .int .i64 s] n G S (.int .i64 r) G' S') :
    Calls Tryd.prog 23 #[.pointer (some ⟨b, 0, none⟩), .pointer (some ⟨rb, 0, none⟩), .agg #[.int .i64 2, .int .i64 x1, .int .u32 (q : Int), .int .i64 s]] w fun e w' => e = .returned (.bool true) ∧ Both w' b g rb sb gb n G' S' ∧ Fr (fun k => k = g ∨ k = sb ∨ k = gb) w w' := by
  have l1 := h.p.lt_g
  have l2 := h.r.lt_s
  have l3 := h.r.lt_g
  have NA : Hid (¬ (w.heap.size = g)) := veil (by omega)
  have NB : Hid (¬ (w.heap.size = sb ∨ w.heap.size = gb)) := veil (by omega)
  have HA := veil (h.alloc (.cells #[.int .i64 2, .int .i64 x1, .int .u32 (q : Int), .int .i64 s] 45))
  have C1 : Hid ((w.alloc (.cells #[.int .i64 2, .int .i64 x1, .int .u32 (q : Int), .int .i64 s] 45)).cell? ⟨w.heap.size, 1, none⟩ = some (.int .i64 x1)) := by unfold Hid; rw [cell_new]; rfl
  have C2 : Hid ((w.alloc (.cells #[.int .i64 2, .int .i64 x1, .int .u32 (q : Int), .int .i64 s] 45)).cell? ⟨w.heap.size, 2, none⟩ = some (.int .u32 (q : Int))) := by unfold Hid; rw [cell_new]; rfl
  have C3 : Hid ((w.alloc (.cells #[.int .i64 2, .int .i64 x1, .int .u32 (q : Int), .int .i64 s] 45)).cell? ⟨w.heap.size, 3, none⟩ = some (.int .i64 s)) := by unfold Hid; rw [cell_new]; rfl
  have HT := veil hT
  have HR := veil hR
  clear h hT hR
  go_enter Tryd.func23, Tryd.ntmps23
  go_wp2
  go_region_held3 (fun w' => w'.cell? ⟨w.heap.size, 1, none⟩ = some (.int .i64 x1) ∧ w'.cell? ⟨w.heap.size, 2, none⟩ = some (.int .u32 (q : Int)) ∧ w'.cell? ⟨w.heap.size, 3, none⟩ = some (.int .i64 s))
    (first
      | go_keep
      | exact ⟨(HF1.out.cell (a := ⟨w.heap.size, 1, none⟩) (by simp) NA.out).trans C1.out, (HF1.out.cell (a := ⟨w.heap.size, 2, none⟩) (by simp) NA.out).trans C2.out, (HF1.out.cell (a := ⟨w.heap.size, 3, none⟩) (by simp) NA.out).trans C3.out⟩
      | exact ⟨(HF2.out.cell (a := ⟨w.heap.size, 1, none⟩) (Nat.lt_of_lt_of_le (by simp) HF1.out.size) NB.out).trans ((HF1.out.cell (a := ⟨w.heap.size, 1, none⟩) (by simp) NA.out).trans C1.out), (HF2.out.cell (a := ⟨w.heap.size, 2, none⟩) (Nat.lt_of_lt_of_le (by simp) HF1.out.size) NB.out).trans ((HF1.out.cell (a := ⟨w.heap.size, 2, none⟩) (by simp) NA.out).trans C2.out), (HF2.out.cell (a := ⟨w.heap.size, 3, none⟩) (Nat.lt_of_lt_of_le (by simp) HF1.out.size) NB.out).trans ((HF1.out.cell (a := ⟨w.heap.size, 3, none⟩) (by simp) NA.out).trans C3.out)⟩)
    (first
      | (go_at_call 19; refine (HT.out _ b g (by exact HA.out.p.like rfl) (by exact HA.out.t)).mono ?_; rintro e w1 ⟨rfl, hq1, hf1⟩; have HF1 := veil (Fr.pre (w0 := w.alloc (.cells #[.int .i64 2, .int .i64 x1, .int .u32 (q : Int), .int .i64 s] 45)) hf1 rfl rfl rfl rfl); have HQ1 := veil hq1; clear hq1 hf1)
      | (go_at_call 37; refine (HR.out w1 rb sb gb (HA.out.refOf HF1.out)).mono ?_; rintro e w2 ⟨rfl, hr2, hf2⟩; have HF2 := veil hf2; have HR2 := veil hr2; clear hr2 hf2))
  have HX := veil (HA.out.join hs HQ1.out HF1.out HR2.out HF2.out)
  clear HQ1 HF1 HR2 HF2 HA
  go_wp2
  go_ret
  exact ⟨by simp, HX.out.1, ((Fr.refl _ _).alloc _).trans HX.out.2⟩
theorem do_other (h : Both w b g rb sb gb n G S) (x0 x1 s : Int) (q : Nat) (h0 : ¬ x0 = 0) (h1 : ¬ x0 = 1) (h2 : ¬ x0 = 2) :
    Calls Tryd.prog 23 #[.pointer (some ⟨b, 0, none⟩), .pointer (some ⟨rb, 0, none⟩), .agg #[.int .i64 x0, .int .i64 x1, .int .u32 (q : Int), .int .i64 s]] w fun e w' => e = .returned (.bool true) ∧ Both w' b g rb sb gb n G S ∧ Fr (fun k => k = g ∨ k = sb ∨ k = gb) w w' := by
  have HA := veil (h.alloc (.cells #[.int .i64 x0, .int .i64 x1, .int .u32 (q : Int), .int .i64 s] 45))
  clear h
  go_enter Tryd.func23, Tryd.ntmps23
  go_wp2
  go_ret
  exact ⟨rfl, HA.out, (Fr.refl _ _).alloc _⟩
set_option maxHeartbeats 4000000 in
theorem do_alloc (h : Both w b g rb sb gb n G S) (hs : ∀ j, j < n → S' j ≤ 4) (x1 s p1 q1 e1 : Int) (q : Nat)
    (hT : DoesT 24 [] n G S (.tuple #[.agg #[.int .i64 p1, .int .u32 q1], .int .i64 e1]) G' S') (hR : DoesR 35 [] n G S (.tuple #[.agg #[.int .i64 p1, .int .u32 q1], .int .i64 e1]) G' S') :
    Calls Tryd.prog 23 #[.pointer (some ⟨b, 0, none⟩), .pointer (some ⟨rb, 0, none⟩), .agg #[.int .i64 0, .int .i64 x1, .int .u32 (q : Int), .int .i64 s]] w fun e w' => e = .returned (.bool true) ∧ Both w' b g rb sb gb n G' S' ∧ Fr (fun k => k = g ∨ k = sb ∨ k = gb) w w' := by
  have HA := veil (h.alloc (.cells #[.int .i64 0, .int .i64 x1, .int .u32 (q : Int), .int .i64 s] 45))
  have HT := veil hT
  have HR := veil hR
  clear h hT hR
  go_enter Tryd.func23, Tryd.ntmps23
  go_wp2_with (first
    | (go_at_call 24; refine (HT.out _ b g HA.out.p HA.out.t).mono ?_; rintro e w1 ⟨rfl, hq1, hf1⟩; have HF1 := veil hf1; have HQ1 := veil hq1; clear hq1 hf1)
    | (go_at_call 35; refine (HR.out _ rb sb gb ((HA.out.refOf HF1.out).alloc _)).mono ?_; rintro e w2 ⟨rfl, hr2, hf2⟩; have HX := veil (HA.out.join hs (HQ1.out.alloc _) (HF1.out.alloc _) hr2 hf2); have k1 := (HA.out.refOf HF1.out).lt_s; have k2 := (HA.out.refOf HF1.out).lt_g; have c0 : w2.cell? ⟨w1.heap.size, 0, none⟩ = some (.int .i64 p1) := ((hf2.cell (a := ⟨w1.heap.size, 0, none⟩) (by simp) (by simp; omega)).trans (by rw [cell_new]; rfl)); have c1 : w2.cell? ⟨w1.heap.size, 1, none⟩ = some (.int .u32 q1) := ((hf2.cell (a := ⟨w1.heap.size, 1, none⟩) (by simp) (by simp; omega)).trans (by rw [cell_new]; rfl)); have y2 : ¬ w1.heap.size = w2.heap.size := (by have := hf2.size; simp at this; omega); have d0 := (World.cell?_alloc_lt w2 (.cells #[.int .i64 p1, .int .u32 q1] 25) ⟨w1.heap.size, 0, none⟩ (by have := hf2.size; simp at this ⊢; omega)).trans c0; have d1 := (World.cell?_alloc_lt w2 (.cells #[.int .i64 p1, .int .u32 q1] 25) ⟨w1.heap.size, 1, none⟩ (by have := hf2.size; simp at this ⊢; omega)).trans c1; clear hr2 hf2))
  go_ret
  exact ⟨by simp, HX.out.1.alloc _, (((Fr.refl _ _).alloc _).trans HX.out.2).alloc _⟩
end
end Go.Proofs.YtfhnepoegdhjmaaDoor
