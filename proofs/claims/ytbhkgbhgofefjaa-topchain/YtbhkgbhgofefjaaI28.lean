/- Lock: one more waits. -/
import Derived.Test.YtbhkgbhgofefjaaI27
namespace Go.Proofs.Ytbhkgbhgofefjaa
open Go.RowKit Go.Lib Go.Shelf
set_option linter.unusedVariables false
/-- The graph behind a call that may change it: another model, lines anew; nothing else has changed. -/
def Moved (w w' : World) (base s : Nat) (vt vl : Value) (V : List Value) (T : List Th) (L : List Lk) : Prop :=
  ∃ V', IsG w' base s vt vl V' T L ∧ Fr (own s vt vl V) w w' ∧ ∀ k, own s vt vl V' k → own s vt vl V k ∨ w.heap.size ≤ k
section
variable {w : World} {base s : Nat} {vt vl : Value} {V : List Value} {T : List Th} {L : List Lk}
theorem ints_snoc (l : List Nat) (i : Nat) : ints l ++ [Value.int .i64 (i : Int)] = ints (l ++ [i]) := by simp [ints]
theorem IsM.form (h : IsM w base s vt vl V T L) (ht : 1 ≤ T.length) : ∃ g cap, vt = .slice (some ⟨g, 0, none⟩) T.length cap ∧ w.cell? ⟨s, 0, none⟩ = some vt ∧ w.cell? ⟨s, 1, none⟩ = some vl ∧ (∀ k, w.frozen? ⟨g, k, none⟩ = false) ∧
    (∀ j x, T[j]? = some x → w.cell? ⟨g, j * 4, none⟩ = some (.bool x.k.e) ∧ w.cell? ⟨g, j * 4 + 1, none⟩ = some (.int .u64 x.k.d) ∧ w.cell? ⟨g, j * 4 + 2, none⟩ = some (.int .u8 x.k.l) ∧ w.cell? ⟨g, j * 4 + 3, none⟩ = some (.int .i64 x.u)) := by
  have hown := h.tho
  rcases h.tho.2 with ⟨e, e0⟩ | ⟨g, cap, cur, e, h0, hg, h1, h2, _⟩
  · omega
  · subst e
    refine ⟨g, cap, rfl, by unfold World.cell?; simp [h.blk], by unfold World.cell?; simp [h.blk], frozen_row hown, fun j x hj => ?_⟩
    have hjl : j < T.length := (List.getElem?_eq_some_iff.1 hj).1
    rw [hown.cellAt (j * 4) (by omega), hown.cellAt (j * 4 + 1) (by omega), hown.cellAt (j * 4 + 2) (by omega), hown.cellAt (j * 4 + 3) (by omega)]
    exact tcells_at T j x hj
theorem wait_mem {w1 w2 : World} {g cap gt ct i j : Nat} {x : Th} {y : Lk} {v v' : Value} {tmp : Obj} (hb : Below w.heap.size w w1) (h0 : IsG w base s (.slice (some ⟨gt, 0, none⟩) T.length ct) (.slice (some ⟨g, 0, none⟩) L.length cap) V T L) (hx : T[i]? = some x) (hy : L[j]? = some y) (hv : V[j]? = some v)
    (hown : w2.ownsRow base 3 1 v' (y.l.length + 1) (ints y.l ++ [.int .i64 (i : Int)])) (hgrow : (w1.alloc tmp).grownBy w2 v.ownBlock) (hat : v'.ownBlock = v.ownBlock ∨ v'.ownBlock = some (w1.alloc tmp).heap.size) (f : Fine (T.set i ⟨x.k, (j : Int)⟩) (L.set j ⟨y.h, y.l ++ [i]⟩)) :
    w2.cell? ⟨g, j * 2 + 1, none⟩ = some v ∧ w2.frozen? ⟨g, j * 2 + 1, none⟩ = false ∧
    (w2.setCell ⟨g, j * 2 + 1, none⟩ v').cell? ⟨s, 0, none⟩ = some (.slice (some ⟨gt, 0, none⟩) T.length ct) ∧ (w2.setCell ⟨g, j * 2 + 1, none⟩ v').cell? ⟨gt, i * 4 + 3, none⟩ = some (.int .i64 x.u) ∧ (w2.setCell ⟨g, j * 2 + 1, none⟩ v').frozen? ⟨gt, i * 4 + 3, none⟩ = false ∧
    Moved w ((w2.setCell ⟨g, j * 2 + 1, none⟩ v').setCell ⟨gt, i * 4 + 3, none⟩ (.int .i64 (j : Int))) base s (.slice (some ⟨gt, 0, none⟩) T.length ct) (.slice (some ⟨g, 0, none⟩) L.length cap) V (T.set i ⟨x.k, (j : Int)⟩) (L.set j ⟨y.h, y.l ++ [i]⟩) := by
  have h1 := h0.below hb
  have hm := h1.m
  have hj := (List.getElem?_eq_some_iff.1 hy).1
  rw [ints_snoc, show y.l.length + 1 = (y.l ++ [i]).length by simp] at hown
  have hkk : ∀ k, k < w1.heap.size → v.ownBlock ≠ some k → w2.heap[k]? = w1.heap[k]? := fun k hk hn => (hgrow.block k (by simp; omega) (fun e => hn e.symm)).trans (Below.heap_alloc _ _ _ hk)
  have hsz : w1.heap.size ≤ w2.heap.size := by have := hgrow.size; simp at this; omega
  have hat' : ∀ k, v'.ownBlock = some k → v.ownBlock = some k ∨ w1.heap.size ≤ k := by
    intro k hk
    rcases hat with q | q
    · exact .inl (q ▸ hk)
    · rw [q] at hk
      simp at hk
      exact .inr (by omega)
  obtain ⟨c, hc⟩ := hm.lb (k := g) rfl
  have hgv : v.ownBlock ≠ some g := fun q => by obtain ⟨c', hc'⟩ := hm.vb (List.mem_of_getElem? hv) q; rw [hc] at hc'; simp at hc'
  have hgl := (Array.getElem?_eq_some_iff.1 hc).1
  have hg2 := hkk g hgl hgv
  obtain ⟨g', cap', e, _, _, _, _, hfz, hce⟩ := h1.lform (by omega)
  simp at e
  obtain ⟨rfl, rfl⟩ := e
  have hm3 := hm.lined hy hv hsz hkk hown hat'
  have hm4 := hm3.waits hx (j : Int)
  obtain ⟨gt', ct', e, d0, _, dfz, dce⟩ := hm3.form h0.f.t1
  simp at e
  obtain ⟨rfl, rfl⟩ := e
  refine ⟨(World.cell?_of_block hg2).trans (hce j y v hy hv).2, ?_, d0, (dce i x hx).2.2.2, dfz _, V.set j v', hm4.g f, ?_, ?_⟩
  · have := hfz (j * 2 + 1)
    unfold World.frozen? at this ⊢
    rw [show (⟨g, j * 2 + 1, none⟩ : Addr).block = g from rfl] at this ⊢
    rw [hg2]
    exact this
  · have hf1 : Fr (own s (.slice (some ⟨gt, 0, none⟩) T.length ct) (.slice (some ⟨g, 0, none⟩) L.length cap) V) w w2 := by
      refine (Fr.of_below' hb).trans ⟨hgrow.os, hgrow.tape, hgrow.output, hsz, fun k hk hn => hkk k hk (fun q => hn (.inr (.inr (.inr ⟨v, List.mem_of_getElem? hv, q⟩))))⟩
    exact (hf1.setCell (a := ⟨g, j * 2 + 1, none⟩) (.inr (.inr (.inl rfl))) _).setCell (a := ⟨gt, i * 4 + 3, none⟩) (.inr (.inl rfl)) _
  · rintro k (q | q | q | ⟨u, hu, q⟩)
    · exact .inl (.inl q)
    · exact .inl (.inr (.inl q))
    · exact .inl (.inr (.inr (.inl q)))
    · rcases List.mem_or_eq_of_mem_set hu with r | rfl
      · exact .inl (.inr (.inr (.inr ⟨u, r, q⟩)))
      · rcases hat' k q with r | r
        · exact .inl (.inr (.inr (.inr ⟨v, List.mem_of_getElem? hv, r⟩)))
        · exact .inr (Nat.le_trans hb.size r)
set_option maxHeartbeats 1000000 in
theorem lock_wait (h : IsG w base s vt vl V T L) (i j : Nat) (he : mayE T L i j = 0) (x : Th) (hx : T[i]? = some x) (y : Lk) (hy : L[j]? = some y) (k : Nat) (ho : y.h = (k : Int)) (hk : k ≠ i) (hl : ¬ Leads L k i) : Calls Try.prog 28 #[.pointer (some ⟨s, 0, none⟩), .int .i64 (i : Int), .int .i64 (j : Int)] w fun e w' => e = .returned (.tuple #[.bool false, .int .i64 0]) ∧
    Moved w w' base s vt vl V (T.set i ⟨x.k, (j : Int)⟩) (L.set j ⟨y.h, y.l ++ [i]⟩) := by
  have HM := veil (may_ok h (i : Int) (j : Int))
  have hxu : x.u = -1 := by
    obtain ⟨i', j', x', y', e1, e2, _, _, e3, e4, _⟩ := may_yes he
    obtain rfl : i = i' := by omega
    rw [hx] at e3
    obtain rfl := Option.some.inj e3
    exact e4
  have HFi := veil (h.f.wait hx hxu hy ho hl)
  obtain ⟨b, hb, hc⟩ := leads_ok h j i y hy k ho
  obtain rfl : b = false := by
    cases b with
    | false => rfl
    | true => exact absurd (hb.1 rfl) hl
  have HL := veil hc
  clear hb hc hl
  rw [he] at HM
  have hi := (List.getElem?_eq_some_iff.1 hx).1
  have hi' : (i : Int) < (T.length : Int) := by omega
  have hj := (List.getElem?_eq_some_iff.1 hy).1
  have hj' : (j : Int) < (L.length : Int) := by omega
  obtain ⟨v, hv⟩ := h.line hj
  have hline := h.lin j y v hy hv
  have hll : y.l.length ≤ 1024 := by
    have hok := h.f.lk y (List.mem_of_getElem? hy)
    have := h.f.t2
    have hnd := hok.2.2.2.1
    have hsub : y.l ⊆ List.range T.length := fun t ht => List.mem_range.2 (hok.2.2.1 t ht)
    have := hnd.length_le_of_subset hsub
    simp at this
    omega
  obtain ⟨va, vc, rfl, hvc1, hvc2⟩ := form_of hline
  have HG := veil h
  obtain ⟨g, cap, rfl, hc1, hc2, hg, hgs, _, hc⟩ := h.lform (by omega)
  obtain ⟨gt, ct, rfl, ht1, ht2, _⟩ := h.tform
  obtain ⟨y0, y1⟩ := hc j y _ hy hv
  rw [ho] at y0
  have c1 := h.c1
  have hk1 : ((k : Int) == (i : Int)) = false := by simp; omega
  have hk2 : ((k : Int) == -1) = false := by simp
  have hk3 : ¬ (k : Int) = (i : Int) := by omega
  have hk4 : ¬ (k : Int) = -1 := by omega
  have hk5 : ¬ k = i := hk
  obtain ⟨i0, hi0, hz0, hz1, hz2⟩ := info_parts infoInt
  have HCe : Hid (∀ w1, Below w.heap.size w w1 → w1.cell? ⟨g, j * 2 + 1, none⟩ = some (.slice va y.l.length vc)) := fun w1 hb => (hb.cell (p := ⟨g, j * 2 + 1, none⟩) hg).trans y1
  have HXX := veil hx
  have HYY := veil hy
  have HVV := veil hv
  have HHO := veil ho
  clear hc he h hx hy ho hline hxu hv
  go_enter Try.func28, Try.ntmps28
  go_wp2_with (first
    | (go_at_call 49; refine (HM.out).mono ?_; rintro e w1 ⟨rfl, hw⟩; replace hw := hw.symm; subst hw)
    | (go_at_call 54; refine (HL.out).mono ?_; rintro e w1 ⟨rfl, hbw⟩; have z1 := HCe.out w1 hbw; have HG1 := veil (HG.out.below hbw); have HO1 := veil (HG1.out.lin j y _ HYY.out HVV.out); have hz1s := HG1.out.bs; replace hbw := veil hbw)
    | (at_builtin; refine wpList_append_own_at _ rfl _ _ 31 rfl base 3 i0 (.int .i64 0) 1 8 Try.underlying31 hi0 hz0 hz1 hz2 rfl (by decide) _ _ _ rfl (HO1.out.alloc _) ⟨w1.heap.size, 0, none⟩ 1 1 [.int .i64 (i : Int)] rfl rfl (cell_one_new _ _ _) (by simp [Value.oneCell']) (by unfold maxLen; omega) (by omega) (by simp; omega) ?_; intro v' w2 hown hgrow _ hat; obtain ⟨g', cap', rfl⟩ := ownsRow_succ hown; obtain ⟨p1, p2, p3, p4, p5, p6⟩ := wait_mem hbw.out HG.out HXX.out HYY.out HVV.out hown hgrow hat HFi.out; replace p6 := veil p6; clear hown hgrow hat))
  simp [bodyPost, results, Try.results28, go_sem]
  exact p6.out
end
end Go.Proofs.Ytbhkgbhgofefjaa
