/- leads. -/
import Derived.Test.YtbhkgbhgofefjaaI12
namespace Go.Proofs.Ytbhkgbhgofefjaa
open Go.RowKit Go.Shelf
set_option linter.unusedVariables false
attribute [local go_sem] Oper.semAt_some
section
variable {w : World} {base s : Nat} {vt vl : Value} {V : List Value} {T : List Th} {L : List Lk}
set_option maxRecDepth 100000 in
set_option maxHeartbeats 2000000 in
theorem leads_in (h : IsG w base s vt vl V T L) (m t : Int) (ch : List Int) (hch : Chn T L m ch) :
    CallsIn Fence.wide 4 Try.prog 54 #[.pointer (some ⟨s, 0, none⟩), .int .i64 m, .int .i64 t] w fun e W' => e = .returned (.bool (decide (t ∈ ch))) ∧ Below w.heap.size w W' := by
  have HQ := veil h
  have hL := h.f.l2
  have hT := h.f.t2
  have HC := veil hch
  clear h hch
  refine callsIn_of_wp_marks Try.func54 rfl trivial ?_ rfl
  simp only [Try.ntmps54, List.size_toArray, List.length_cons, List.length_nil, Nat.reduceAdd, Nat.reduceSub, Array.replicate_succ, Array.replicate_zero, List.push_toArray, List.append_toArray, List.nil_append, List.cons_append]
  gi_wp2_with (first
    | (refine ⟨trivial, ?_⟩; gi_at_call 61; refine (holders_in _ s m _).mono ?_; rintro e w' ⟨rfl, rfl⟩))
  obtain ⟨a, cap, hvl, hrd⟩ := HQ.out.rdL
  obtain ⟨gt, ct, hvt, hrt⟩ := HQ.out.rdT
  have hsn := HQ.out.lt
  have hgt : gt < w.heap.size := (ownsRow_blk HQ.out.tho (k := gt) (by rw [hvt]; rfl)).2.1
  have hgn : ∀ g, a = some ⟨g, 0, none⟩ → g < w.heap.size := fun g e => (ownsRow_blk HQ.out.lko (k := g) (by rw [hvl, e]; rfl)).2.1
  have bt := Boxed.new w 3 (.int .i64 t)
  have br := Boxed.new (w.alloc (.cells #[.int .i64 t] 3)) 4 (.bool false)
  have bg := Boxed.new ((w.alloc (.cells #[.int .i64 t] 3)).alloc (.cells #[.bool false] 4)) 23 (.pointer (some ⟨s, 0, none⟩))
  have bm := Boxed.new (((w.alloc (.cells #[.int .i64 t] 3)).alloc (.cells #[.bool false] 4)).alloc (.cells #[.pointer (some ⟨s, 0, none⟩)] 23)) 3 (.int .i64 m)
  have hB0 : Below w.heap.size w ((((w.alloc (.cells #[.int .i64 t] 3)).alloc (.cells #[.bool false] 4)).alloc (.cells #[.pointer (some ⟨s, 0, none⟩)] 23)).alloc (.cells #[.int .i64 m] 3)) := ((((Below.refl _ w).alloc (Nat.le_refl _) _).alloc (by simp) _).alloc (by simp; omega) _).alloc (by simp; omega) _
  simp only [World.size_alloc] at br bg bm ⊢
  refine wpIn_rangeFunc_ownG rfl (by decide) (gf := 63) (lb := #[.pointer (some ⟨w.heap.size + 1 + 1 + 1, 0, none⟩), .pointer (some ⟨w.heap.size + 1 + 1, 0, none⟩)]) rfl trivial (enters_of Try.func63 (by kernel_rfl) rfl)
    (holders_stops 3 (by decide) (w.heap.size + 1 + 1 + 1) (w.heap.size + 1 + 1) w.heap.size s gt ct a cap T L m ch HC.out _ bm (bg.alloc _) (hrd.below hB0 hsn hgn) (hrt.below hB0 hsn hgt) hT hL hsn hgt hgn hB0.size) kg_trans (kg_put hB0.size) (Below.refl _ _) (fun _ => rfl)
    (fun (pre : List Int) W => (t ∉ pre) ∧ Boxed W w.heap.size 3 (.int .i64 t) ∧ Boxed W (w.heap.size + 1) 4 (.bool false) ∧ Below w.heap.size w W)
    (fun c (pre : List Int) W => (c = .ret ∧ t ∈ pre) ∧ Boxed W (w.heap.size + 1) 4 (.bool true) ∧ Below w.heap.size w W)
    (OwnFrom.and (ownFrom_pure _ _) (OwnFrom.and (Own.from (boxed_own w.heap.size 3 (fun _ : List Int => .int .i64 t)) _) (OwnFrom.and (Own.from (boxed_own (w.heap.size + 1) 4 (fun _ : List Int => .bool false)) _) (ownFrom_below (Nat.le_refl _) hB0.size))))
    (fun c => OwnFrom.and (ownFrom_pure _ _) (OwnFrom.and (Own.from (boxed_own (w.heap.size + 1) 4 (fun _ : List Int => .bool true)) _) (ownFrom_below (Nat.le_refl _) hB0.size)))
    ⟨by simp, ((bt.alloc _).alloc _).alloc _, (br.alloc _).alloc _, hB0⟩
    (fun x => { tmps := #[.pointer (some ⟨s, 0, none⟩), .int .i64 m, .int .i64 t, undef, undef, .pointer (some ⟨w.heap.size, 0, none⟩), .pointer (some ⟨w.heap.size + 1, 0, none⟩), .int .i64 x, .pointer (some ⟨s, 0, none⟩), .int .i64 m, .func (.func 63) #[] #[.pointer (some ⟨w.heap.size + 1 + 1 + 1, 0, none⟩), .pointer (some ⟨w.heap.size + 1 + 1, 0, none⟩)], .int .i64 x, undef, undef, undef], defers := [] }) ?assign ?body ?done ?stop
  case assign =>
    intro l x W K hK
    gi_wp2
    exact hK
  case body =>
    rintro l pre x W ⟨hp, hbt, hbr, hB⟩ hlt
    have hct := hbt.cell
    have hcr := hbr.cell
    have hfr := hbr.frozen
    have HP := veil hp
    have HBT := veil hbt
    have HBR := veil hbr
    have HB := veil hB
    clear hp hbt hbr hB
    by_cases hx : x = t
    · subst hx
      gi_wp2
      exact ⟨(KeepsOthers.setCell _ _ _).from _, ⟨rfl, by simp⟩, HBR.out.set _, HB.out.setCell (p := ⟨w.heap.size + 1, 0, none⟩) (by simp) _⟩
    · have hx' : (x == t) = false := by simp [hx]
      gi_wp2
      refine ⟨(KeepsOthers.refl _).from _, ⟨Below.refl _ _, id⟩, ?_, HBT.out, HBR.out, HB.out⟩
      have := HP.out
      simp [this, Ne.symm hx]
  case done =>
    rintro D ys W hD rfl ⟨hp, hbt, hbr, hB⟩ hK
    have hcr := hbr.cell
    have hfr := hbr.frozen
    have HBR := veil hbr
    have HP := veil hp
    have HB := veil hB
    clear hp hbt hbr hB
    gi_wp2
    have hK1 := (KeepsOthers.setCell W ⟨w.heap.size + 1, 0, none⟩ (.bool false)).same D _ hK rfl
    have hbr1 := HBR.out.set (.bool false)
    refine ⟨by simp, .inl ⟨_, _, rfl, run_takeDeferred hK1, ?_⟩⟩
    have hA5 := hbr1.kept (grownBy_putObj' _ D (.deferred none)) (fun e => by cases e; rw [show (W.setCell ⟨w.heap.size + 1, 0, none⟩ (.bool false)).heap[w.heap.size + 1]? = _ from hbr1] at hK1; cases hK1)
    have d0 := hA5.cell
    refine ⟨.bool false, ?_, ?_, (HB.out.setCell (p := ⟨w.heap.size + 1, 0, none⟩) (by simp) _).trans (belowK_b (w := w) (Nat.le_refl _) _ D _ _ (by simp at hD; omega) hK1 rfl rfl)⟩
    · simp [results, Try.f54, go_sem, d0]
    · rw [decide_eq_false HP.out]
  case stop =>
    rintro D c pre W hD hsp ⟨⟨rfl, hp⟩, hbr, hB⟩ hK
    have HP := veil (hsp.subset hp)
    gi_wp2
    refine ⟨by simp, .inl ⟨_, _, rfl, run_takeDeferred hK, ?_⟩⟩
    have hA5 := hbr.kept (grownBy_putObj' _ D (.deferred none)) (fun e => by cases e; rw [show W.heap[w.heap.size + 1]? = _ from hbr] at hK; cases hK)
    have d0 := hA5.cell
    refine ⟨.bool true, ?_, ?_, hB.trans (belowK_b (w := w) (Nat.le_refl _) W D _ _ (by simp at hD; omega) hK rfl rfl)⟩
    · simp [results, Try.f54, go_sem, d0]
    · rw [decide_eq_true HP.out]
theorem leads_ok (h : IsG w base s vt vl V T L) (j : Nat) (t : Nat) (y : Lk) (hy : L[j]? = some y) (i : Nat) (hi : y.h = (i : Int)) :
    ∃ b, (b = true ↔ Leads L i t) ∧ Calls Try.prog 54 #[.pointer (some ⟨s, 0, none⟩), .int .i64 (j : Int), .int .i64 (t : Int)] w fun e W' => e = .returned (.bool b) ∧ Below w.heap.size w W' := by
  obtain ⟨ch, hch⟩ := h.f.chain j y hy (by omega)
  refine ⟨decide ((t : Int) ∈ ch), ?_, callsIn_wide.1 (leads_in h (j : Int) (t : Int) ch hch)⟩
  rw [decide_eq_true_iff]
  exact hch.leads h.f j y i rfl hy hi t
end
end Go.Proofs.Ytbhkgbhgofefjaa
