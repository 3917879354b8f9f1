/-
  The walk of Alloc: the first place that is free.
-/
import Derived.Test.YtfhnepoegdhjmaaT5
namespace Go.Proofs.Ytfhnepoegdhjmaa
open Go.RowKit Go.Shelf
attribute [local go_sem] Oper.semAt_some

theorem ownFrom_rep {β : Type} {B b g n : Nat} (G S : β → Nat → Nat) (hb : b < B) (hg : g < B) : OwnFrom B (fun s W => Rep W b g n (G s) (S s)) := fun s W W' row hs hgr hr =>
  hs.kept (hgr.block b hs.lt_b (fun e => by have := (hr b e.symm).1; omega)) (hgr.block g hs.lt_g (fun e => by have := (hr g e.symm).1; omega))
theorem ownFrom_fr {β : Type} {B : Nat} {X : Nat → Prop} {w : World} (hB : w.heap.size ≤ B) : OwnFrom B (fun (_ : β) W => Fr X w W) := fun _ W W' row hs hgr hr =>
  ⟨hgr.os.trans hs.os, hgr.tape.trans hs.tape, hgr.output.trans hs.output, Nat.le_trans hs.size hgr.size, fun k hk hn => (hgr.block k (Nat.lt_of_lt_of_le hk hs.size) (fun e => by have := (hr k e.symm).1; omega)).trans (hs.block k hk hn)⟩
theorem fr_put {X : Nat → Prop} {w W : World} {D : Nat} (o' : Obj) (h : Fr X w W) (hD : w.heap.size ≤ D) : Fr X w (W.putObj D o') := by
  have hg := grownBy_putObj' W D o'
  exact ⟨hg.os.trans h.os, hg.tape.trans h.tape, hg.output.trans h.output, Nat.le_trans h.size hg.size, fun k hk hn => (hg.block k (Nat.lt_of_lt_of_le hk h.size) (fun e => by cases e; omega)).trans (h.block k hk hn)⟩
theorem rep_put {W : World} {b g n D : Nat} {G S : Nat → Nat} (o' : Obj) (h : Rep W b g n G S) (hb : b ≠ D) (hg : g ≠ D) : Rep (W.putObj D o') b g n G S := by
  have hgr := grownBy_putObj' W D o'
  exact h.kept (hgr.block b h.lt_b (fun e => by cases e; exact hb rfl)) (hgr.block g h.lt_g (fun e => by cases e; exact hg rfl))

/-- The cells of what Alloc answers. -/
structure Ans (W : World) (s : Nat) (p q e : Int) : Prop where
  c0 : W.cell? ⟨s + 1, 0, none⟩ = some (.int .i64 p)
  c1 : W.cell? ⟨s + 1, 1, none⟩ = some (.int .u32 q)
  c2 : W.cell? ⟨s + 1 + 1, 0, none⟩ = some (.int .i64 e)
  f0 : W.frozen? ⟨s + 1, 0, none⟩ = false
  f1 : W.frozen? ⟨s + 1, 1, none⟩ = false
  f2 : W.frozen? ⟨s + 1 + 1, 0, none⟩ = false
theorem Ans.kept {W W' : World} {row : Option Nat} {s : Nat} {p q e : Int} (h : Ans W s p q e) (hg : W.grownBy W' row) (hr : ∀ r, row = some r → ∃ o : Obj, W.heap[r]? = some o ∧ o.isCells = false) : Ans W' s p q e :=
  ⟨cell_kept h.c0 hg hr, cell_kept h.c1 hg hr, cell_kept h.c2 hg hr, (frozen_kept h.c0 hg hr).trans h.f0, (frozen_kept h.c1 hg hr).trans h.f1, (frozen_kept h.c2 hg hr).trans h.f2⟩

theorem Ans.far {W : World} {s g o : Nat} {p q e : Int} {v : Value} (h : Ans W s p q e) (h1 : g ≠ s + 1) (h2 : g ≠ s + 1 + 1) : Ans (W.setCell ⟨g, o, none⟩ v) s p q e :=
  ⟨by rw [set_other _ _ _ _ _ _ (by omega)]; exact h.c0, by rw [set_other _ _ _ _ _ _ (by omega)]; exact h.c1, by rw [set_other _ _ _ _ _ _ (by omega)]; exact h.c2, by rw [World.frozen?_setCell]; exact h.f0, by rw [World.frozen?_setCell]; exact h.f1, by rw [World.frozen?_setCell]; exact h.f2⟩
theorem Ans.store {W : World} {s : Nat} {p q e : Int} (h : Ans W s p q e) (p' q' e' : Int) : Ans (((W.setCell ⟨s + 1, 0, none⟩ (.int .i64 p')).setCell ⟨s + 1, 1, none⟩ (.int .u32 q')).setCell ⟨s + 1 + 1, 0, none⟩ (.int .i64 e')) s p' q' e' := by
  refine ⟨?_, ?_, ?_, ?_, ?_, ?_⟩
  · rw [set_other _ _ _ _ _ _ (by omega), set_other _ _ _ _ _ _ (by omega)]; exact set_same _ _ _ _ h.c0
  · rw [set_other _ _ _ _ _ _ (by omega)]; exact set_same _ _ _ _ (by rw [set_other _ _ _ _ _ _ (by omega)]; exact h.c1)
  · exact set_same _ _ _ _ (by rw [set_other _ _ _ _ _ _ (by omega), set_other _ _ _ _ _ _ (by omega)]; exact h.c2)
  · rw [World.frozen?_setCell, World.frozen?_setCell, World.frozen?_setCell]; exact h.f0
  · rw [World.frozen?_setCell, World.frozen?_setCell, World.frozen?_setCell]; exact h.f1
  · rw [World.frozen?_setCell, World.frozen?_setCell, World.frozen?_setCell]; exact h.f2
theorem Fr.setNew {X : Nat → Prop} {w w' : World} (h : Fr X w w') {a : Addr} (ha : w.heap.size ≤ a.block) (u : Value) : Fr X w (w'.setCell a u) :=
  ⟨h.os, h.tape, h.output, by simpa using h.size, fun k hk hn => (Below.heap_setCell _ _ _ _ (by omega)).trans (h.block k hk hn)⟩
theorem Rep.far {W : World} {b g n o k : Nat} {G S : Nat → Nat} {v : Value} (h : Rep W b g n G S) (h1 : b ≠ k) (h2 : g ≠ k) : Rep (W.setCell ⟨k, o, none⟩ v) b g n G S :=
  h.kept (Below.heap_setCell _ _ _ _ (by simpa using h1)) (Below.heap_setCell _ _ _ _ (by simpa using h2))

set_option maxRecDepth 100000 in
set_option maxHeartbeats 4000000 in
theorem alloc_in (b g n : Nat) (G S : Nat → Nat) (w : World) (hq : Rep w b g n G S) (hG : ∀ x, x < n → G x + 1 < 4294967296) :
    CallsIn Fence.wide 4 Try.prog 6 #[.pointer (some ⟨b, 0, none⟩)] w fun e W' =>
      (∃ x : Fin n, [x] <+: pl S true n n ∧ e = .returned (.tuple #[.agg #[.int .i64 (x.val : Int), .int .u32 ((G x.val + 1 : Nat) : Int)], .int .i64 0]) ∧ Rep W' b g n (upd G x.val (G x.val + 1)) (upd S x.val 1) ∧ Fr (fun k => k = g) w W') ∨
      (pl S true n n = [] ∧ e = .returned (.tuple #[.agg #[.int .i64 0, .int .u32 0], .int .i64 4]) ∧ Below w.heap.size w W') := by
  have hlb := hq.lt_b
  have hlg := hq.lt_g
  have hn := hq.n2
  obtain ⟨cp, hsl⟩ := hq.sl
  have HQ := veil hq
  have HG := veil hG
  clear hq hG
  refine callsIn_of_wp_marks Try.func6 rfl trivial ?_ rfl
  simp only [Try.ntmps6, List.size_toArray, List.length_cons, List.length_nil, Nat.reduceAdd, Nat.reduceSub, Array.replicate_succ, Array.replicate_zero, List.push_toArray, List.append_toArray, List.nil_append, List.cons_append]
  gi_wp2_with (refine ⟨trivial, ?_⟩; gi_at_call 11; refine (places_in _ b true _).mono ?_; rintro e w' ⟨rfl, rfl⟩)
  have bT := Boxed.new w 23 (.pointer (some ⟨b, 0, none⟩))
  obtain ⟨W0, hW0⟩ : ∃ W0, (((w.alloc (.cells #[.pointer (some ⟨b, 0, none⟩)] 23)).alloc (.cells #[.int .i64 0, .int .u32 0] 28)).alloc (.cells #[.int .i64 0] 32)) = W0 := ⟨_, rfl⟩
  have hs0 : W0.heap.size = w.heap.size + 1 + 1 + 1 := by rw [← hW0]; simp
  have hA0 : Ans W0 w.heap.size 0 0 0 := by
    rw [← hW0]
    have hw1 : w.heap.size + 1 = (w.alloc (.cells #[.pointer (some ⟨b, 0, none⟩)] 23)).heap.size := by simp
    have hw2 : w.heap.size + 1 + 1 = ((w.alloc (.cells #[.pointer (some ⟨b, 0, none⟩)] 23)).alloc (.cells #[.int .i64 0, .int .u32 0] 28)).heap.size := by simp
    have hc : ∀ k, (((w.alloc (.cells #[.pointer (some ⟨b, 0, none⟩)] 23)).alloc (.cells #[.int .i64 0, .int .u32 0] 28)).alloc (.cells #[.int .i64 0] 32)).cell? ⟨w.heap.size + 1, k, none⟩ = (#[.int .i64 0, .int .u32 0] : Array Value)[k]? := by
      intro k
      rw [World.cell?_alloc_lt _ _ _ (by simp), hw1, cell_new]
    have hf : ∀ k, (((w.alloc (.cells #[.pointer (some ⟨b, 0, none⟩)] 23)).alloc (.cells #[.int .i64 0, .int .u32 0] 28)).alloc (.cells #[.int .i64 0] 32)).frozen? ⟨w.heap.size + 1, k, none⟩ = false := by
      intro k
      rw [show (((w.alloc (.cells #[.pointer (some ⟨b, 0, none⟩)] 23)).alloc (.cells #[.int .i64 0, .int .u32 0] 28)).alloc (.cells #[.int .i64 0] 32)).frozen? ⟨w.heap.size + 1, k, none⟩ = ((w.alloc (.cells #[.pointer (some ⟨b, 0, none⟩)] 23)).alloc (.cells #[.int .i64 0, .int .u32 0] 28)).frozen? ⟨w.heap.size + 1, k, none⟩ from World.frozen?_of_block (Below.heap_alloc _ _ _ (by simp)), hw1]
      exact frozen_new _ _ _ _
    refine ⟨by rw [hc]; rfl, by rw [hc]; rfl, by rw [hw2, cell_new]; rfl, hf 0, hf 1, ?_⟩
    rw [hw2]; exact frozen_new _ _ _ _
  have hT0 : Boxed W0 w.heap.size 23 (.pointer (some ⟨b, 0, none⟩)) := by rw [← hW0]; exact (bT.alloc _).alloc _
  have hB00 : Below w.heap.size w W0 := by rw [← hW0]; exact (((Below.refl _ w).alloc (Nat.le_refl _) _).alloc (by simp) _).alloc (by simp; omega) _
  rw [hW0]
  have b1 := Boxed.new W0 23 (.pointer (some ⟨b, 0, none⟩))
  have b2 := Boxed.new (W0.alloc (.cells #[.pointer (some ⟨b, 0, none⟩)] 23)) 4 (.bool true)
  have hB0 : Below w.heap.size w ((W0.alloc (.cells #[.pointer (some ⟨b, 0, none⟩)] 23)).alloc (.cells #[.bool true] 4)) := (hB00.alloc (by omega) _).alloc (by simp; omega) _
  simp only [World.size_alloc, hs0] at b1 b2 ⊢
  refine wpIn_rangeFunc_ownG rfl (by decide) (gf := 12) (lb := #[.pointer (some ⟨w.heap.size + 1 + 1 + 1, 0, none⟩), .pointer (some ⟨w.heap.size + 1 + 1 + 1 + 1, 0, none⟩)]) rfl trivial (enters_of Try.func12 (by kernel_rfl) rfl)
    (places_stops 3 (by decide) (w.heap.size + 1 + 1 + 1) (w.heap.size + 1 + 1 + 1 + 1) w.heap.size b g n cp G S true _ (b1.alloc _) b2 ((hB0.cell (p := ⟨b, 0, none⟩) hlb).trans hsl) (HQ.out.reads.below hB0 hlg) hn hlb hlg hB0.size) kp_trans (kp_put hB0.size) (Below.refl _ _) (fun _ => rfl)
    (fun (pre : List (Fin n)) W => ((pre = [] ∧ Ans W w.heap.size 0 0 0) ∧ Boxed W w.heap.size 23 (.pointer (some ⟨b, 0, none⟩))) ∧ Below w.heap.size w W)
    (fun c (pre : List (Fin n)) W => ∃ x : Fin n, (c = .ret ∧ pre = [x]) ∧ Ans W w.heap.size (x.val : Int) ((G x.val + 1 : Nat) : Int) 0 ∧ Rep W b g n (upd G x.val (G x.val + 1)) (upd S x.val 1) ∧ Fr (fun k => k = g) w W)
    (OwnFrom.and (OwnFrom.and (fun _ _ _ _ hs hg hr => ⟨hs.1, hs.2.kept hg (fun r e => (hr r e).2)⟩) (Own.from (boxed_own w.heap.size 23 (fun _ : List (Fin n) => .pointer (some ⟨b, 0, none⟩))) _)) (ownFrom_below (Nat.le_refl _) hB0.size))
    (fun _ _ _ _ _ hs hg hr => by
      obtain ⟨x, h1, h2, h3, h4⟩ := hs
      exact ⟨x, h1, h2.kept hg (fun r e => (hr r e).2), ownFrom_rep (β := Unit) (B := ((W0.alloc (.cells #[.pointer (some ⟨b, 0, none⟩)] 23)).alloc (.cells #[.bool true] 4)).heap.size) (fun _ => upd G x.val (G x.val + 1)) (fun _ => upd S x.val 1) (by simp; omega) (by simp; omega) () _ _ _ h3 hg hr, ownFrom_fr (β := Unit) (X := fun k => k = g) (B := ((W0.alloc (.cells #[.pointer (some ⟨b, 0, none⟩)] 23)).alloc (.cells #[.bool true] 4)).heap.size) (w := w) hB0.size () _ _ _ h4 hg hr⟩)
    ⟨⟨⟨rfl, (hA0.kept (World.grownBy_alloc W0 _ none) (fun r e => by cases e)).kept (World.grownBy_alloc _ _ none) (fun r e => by cases e)⟩, (hT0.alloc _).alloc _⟩, hB0⟩
    (fun x => { tmps := #[.pointer (some ⟨b, 0, none⟩), .pointer (some ⟨w.heap.size, 0, none⟩), .pointer (some ⟨w.heap.size + 1, 0, none⟩), .pointer (some ⟨w.heap.size + 1 + 1, 0, none⟩), .int .i64 (x.val : Int), undef, .pointer (some ⟨b, 0, none⟩), .bool false, undef, .pointer (some ⟨b, 0, none⟩), .func (.func 12) #[] #[.pointer (some ⟨w.heap.size + 1 + 1 + 1, 0, none⟩), .pointer (some ⟨w.heap.size + 1 + 1 + 1 + 1, 0, none⟩)], .int .i64 (x.val : Int), undef, undef, undef, undef, undef, undef, undef, undef, undef, undef, undef, undef, undef, undef, undef, undef, undef, undef, undef, undef, undef], defers := [] }) ?assign ?body ?done ?stop
  case assign =>
    intro l x W K hK
    gi_wp2
    exact hK
  case body =>
    rintro l pre x W ⟨⟨⟨hpre, hA⟩, hbt⟩, hB⟩ hlt
    subst hpre
    have hct := hbt.cell
    have hxn := x.isLt
    have hx1 := HG.out x.val hxn
    have hsl1 := (hB.cell (p := ⟨b, 0, none⟩) hlb).trans hsl
    have hR : Rep W b g n G S := HQ.out.below hB
    have hg1 := hR.gn x.val hxn
    have hg2 := hR.st x.val hxn
    have hfg := hR.fg
    have HA := veil hA
    obtain ⟨a0, a1, a2, a3, a4, a5⟩ := hA
    have yg1 : ¬ g = w.heap.size := by omega
    have yg2 : ¬ g = w.heap.size + 1 := by omega
    have yg3 : ¬ g = w.heap.size + 1 + 1 := by omega
    have yb : ¬ b = g := hR.bg
    have HB := veil hB
    have HRR := veil hR
    clear hB hR hbt HG
    gi_wp2
    have e : ((G x.val : Int) + 1) = ((G x.val + 1 : Nat) : Int) := by omega
    rw [e]
    refine ⟨(((((KeepsOthers.setCell _ _ _).trans (KeepsOthers.setCell _ _ _)).trans (KeepsOthers.setCell _ _ _)).trans (KeepsOthers.setCell _ _ _)).trans (KeepsOthers.setCell _ _ _)).from _, x, ⟨rfl, rfl⟩, ((HA.out.far yg2 yg3).far yg2 yg3).store _ _ _, ?_, ?_⟩
    · exact (((((HRR.out.setG x.val hxn _).setS x.val hxn 1).far (by omega) (by omega)).far (by omega) (by omega)).far (by omega) (by omega))
    · exact (((((Fr.of_below' (S := fun k => k = g) HB.out).setCell (a := ⟨g, x.val * 2, none⟩) rfl _).setCell (a := ⟨g, x.val * 2 + 1, none⟩) rfl _).setNew (a := ⟨w.heap.size + 1, 0, none⟩) (by simp) _).setNew (a := ⟨w.heap.size + 1, 1, none⟩) (by simp) _).setNew (a := ⟨w.heap.size + 1 + 1, 0, none⟩) (by simp; omega) _
  case done =>
    rintro D ys W hD rfl ⟨⟨⟨hpre, hA⟩, hbt⟩, hB⟩ hK
    have HA := veil hA
    obtain ⟨a0, a1, a2, a3, a4, a5⟩ := hA
    have HP := veil hpre
    clear hpre
    gi_wp2
    have hK1 := (((KeepsOthers.setCell W ⟨w.heap.size + 1, 0, none⟩ (.int .i64 0)).trans (KeepsOthers.setCell _ ⟨w.heap.size + 1, 1, none⟩ (.int .u32 0))).trans (KeepsOthers.setCell _ ⟨w.heap.size + 1 + 1, 0, none⟩ (.int .i64 4))).same D _ hK rfl
    refine ⟨by simp, .inl ⟨_, _, rfl, run_takeDeferred hK1, ?_⟩⟩
    have hA5 := (HA.out.store 0 0 4).kept (grownBy_putObj' _ D (.deferred none)) (fun r e => by cases e; exact ⟨_, hK1, rfl⟩)
    have d0 := hA5.c0
    have d1 := hA5.c1
    have d2 := hA5.c2
    refine ⟨.tuple #[.agg #[.int .i64 0, .int .u32 0], .int .i64 4], ?_, .inr ⟨HP.out, rfl, ((((hB.setCell (p := ⟨w.heap.size + 1, 0, none⟩) (by simp) _).setCell (p := ⟨w.heap.size + 1, 1, none⟩) (by simp) _).setCell (p := ⟨w.heap.size + 1 + 1, 0, none⟩) (by simp; omega) _).trans (belowK_b (w := w) (Nat.le_refl _) _ D _ _ (by simp at hD; omega) hK1 rfl rfl))⟩⟩
    simp [results, Try.f6, go_sem, d0, d1, d2]
  case stop =>
    rintro D c pre W hD hsp ⟨x, ⟨rfl, rfl⟩, hA, hR, hF⟩ hK
    have hDw : w.heap.size + 1 + 1 + 1 ≤ D := by simp at hD; omega
    gi_wp2
    refine ⟨by simp, .inl ⟨_, _, rfl, run_takeDeferred hK, ?_⟩⟩
    have hA5 := hA.kept (grownBy_putObj' _ D (.deferred none)) (fun r e => by cases e; exact ⟨_, hK, rfl⟩)
    have d0 := hA5.c0
    have d1 := hA5.c1
    have d2 := hA5.c2
    refine ⟨.tuple #[.agg #[.int .i64 (x.val : Int), .int .u32 ((G x.val + 1 : Nat) : Int)], .int .i64 0], ?_, .inl ⟨x, hsp, rfl, rep_put _ hR (by omega) (by omega), fr_put _ hF (by omega)⟩⟩
    simp [results, Try.f6, go_sem, d0, d1, d2]
end Go.Proofs.Ytfhnepoegdhjmaa
