/- Unlock. -/
import Derived.Test.YtbhkgbhgofefjaaI29
namespace Go.Proofs.Ytbhkgbhgofefjaa
open Go.RowKit Go.Lib Go.Shelf
set_option linter.unusedVariables false
section
variable {w : World} {base s : Nat} {vt vl : Value} {V : List Value} {T : List Th} {L : List Lk}
theorem IsM.lcell {g n cap : Nat} (h : IsM w base s vt (.slice (some ⟨g, 0, none⟩) n cap) V T L) (hn : n = L.length) {j : Nat} {y : Lk} {v : Value} (hy : L[j]? = some y) (hv : V[j]? = some v) :
    w.cell? ⟨g, j * 2, none⟩ = some (.int .i64 y.h) ∧ w.cell? ⟨g, j * 2 + 1, none⟩ = some v ∧ ∀ k, w.frozen? ⟨g, k, none⟩ = false := by
  subst hn
  have hj := (List.getElem?_eq_some_iff.1 hy).1
  have hz : ((L.map (·.h)).zip V)[j]? = some (y.h, v) := by rw [List.getElem?_zip_eq_some]; simp [hy, hv]
  have hlc := lcells_at _ j _ hz
  have hlko := h.lko
  exact ⟨by rw [hlko.cellAt (j * 2) (by omega)]; exact hlc.1, by rw [hlko.cellAt (j * 2 + 1) (by omega)]; exact hlc.2, frozen_row hlko⟩
theorem IsM.scell (h : IsM w base s vt vl V T L) : w.cell? ⟨s, 0, none⟩ = some vt ∧ w.cell? ⟨s, 1, none⟩ = some vl := ⟨by unfold World.cell?; simp [h.blk], by unfold World.cell?; simp [h.blk]⟩
theorem unlock_other (h : IsG w base s vt vl V T L) (i j : Nat) (he : mayE T L i j = 0) (y : Lk) (hy : L[j]? = some y) (ho : y.h ≠ (i : Int)) : Calls Try.prog 26 #[.pointer (some ⟨s, 0, none⟩), .int .i64 (i : Int), .int .i64 (j : Int)] w fun e w' => e = .returned (.tuple #[.int .i64 (-1), .int .i64 9]) ∧ w' = w := by
  have HM := veil (may_ok h (i : Int) (j : Int))
  rw [he] at HM
  have hj := (List.getElem?_eq_some_iff.1 hy).1
  have hj' : (j : Int) < (L.length : Int) := by omega
  obtain ⟨v, hv⟩ := h.line hj
  obtain ⟨g, cap, rfl, hc1, hc2, hg, hgs, _, hc⟩ := h.lform (by omega)
  obtain ⟨y0, y1⟩ := hc j y v hy hv
  have c1 := h.c1
  generalize y.h = z at y0 ho
  clear h hc he
  go_enter Try.func26, Try.ntmps26
  go_wp2_with (go_at_call 49; refine (HM.out).mono ?_; rintro e w1 ⟨rfl, hw⟩; replace hw := hw.symm; subst hw)
  simp [bodyPost, results, Try.results26, go_sem]
/-- What foremost tells of the line of a lock that is given up. -/
theorem fore_freed {g cap : Nat} (h : IsG w base s vt (.slice (some ⟨g, 0, none⟩) L.length cap) V T L) {i j : Nat} {x : Th} {y : Lk} {va : Option Addr} {vc : Nat} (hx : T[i]? = some x) (hu : x.u = -1) (hy : L[j]? = some y) (ho : y.h = (i : Int)) (hv : V[j]? = some (.slice va y.l.length vc)) :
    Calls Try.prog 50 #[.pointer (some ⟨s, 0, none⟩), .slice va y.l.length vc] (w.setCell ⟨g, j * 2, none⟩ (.int .i64 (-1))) fun e w' => e = .returned (.int .i64 (foreTo (keyOf T L) y.l y.l.length).1) ∧ Below (w.setCell ⟨g, j * 2, none⟩ (.int .i64 (-1))).heap.size (w.setCell ⟨g, j * 2, none⟩ (.int .i64 (-1))) w' := by
  have hm := h.m.hold hy (-1)
  have hj := (List.getElem?_eq_some_iff.1 hy).1
  obtain ⟨hvf, hks⟩ := h.f.freed hx hu hy ho
  obtain ⟨gt, ct, a, cap', _, e, hvw⟩ := hm.vw h.f.t1
  have hy1 : (L.set j ⟨-1, y.l⟩)[j]? = some ⟨-1, y.l⟩ := by simp [hj]
  obtain ⟨g', e1, _, y1, l1, l2, hce⟩ := hvw.ce j _ hy1
  have el : lineAt V j = (va, vc) := by unfold lineAt; rw [hv]
  rw [el] at l1 l2 hce
  have C := fore_v hvw hvf (Nat.le_refl _) y.l va vc (fun z hz => (h.f.lk y (List.mem_of_getElem? hy)).2.2.1 z hz) l1 l2 hce
  rw [foreTo_congr (g' := keyOf T L) hks y.l.length (Nat.le_refl _)] at C
  exact C
set_option maxHeartbeats 1000000 in
theorem unlock_free (h : IsG w base s vt vl V T L) (i j : Nat) (he : mayE T L i j = 0) (y : Lk) (hy : L[j]? = some y) (ho : y.h = (i : Int)) (hl : y.l = []) : Calls Try.prog 26 #[.pointer (some ⟨s, 0, none⟩), .int .i64 (i : Int), .int .i64 (j : Int)] w fun e w' => e = .returned (.tuple #[.int .i64 (-1), .int .i64 0]) ∧ Moved w w' base s vt vl V T (L.set j ⟨-1, y.l⟩) := by
  have HM := veil (may_ok h (i : Int) (j : Int))
  obtain ⟨i', j', x, y', e1, e2, hi, hj, hx, hu, hy'⟩ := may_yes he
  obtain rfl : i = i' := by omega
  obtain rfl : j = j' := by omega
  rw [he] at HM
  have hj' : (j : Int) < (L.length : Int) := by omega
  obtain ⟨v, hv⟩ := h.line hj
  have hline := h.lin j y v hy hv
  obtain ⟨va, vc, rfl, hvc1, hvc2⟩ := form_of hline
  obtain ⟨g, cap, rfl, hc1, hc2, hg, hgs, _, _⟩ := h.lform (by omega)
  have HF := veil (fore_freed h hx hu hy ho hv)
  have hl0 : y.l.length = 0 := by rw [hl]; rfl
  have ef : (foreTo (keyOf T L) y.l y.l.length).1 = -1 := by rw [hl0]; rfl
  rw [ef] at HF
  obtain ⟨y0, y1, fz⟩ := h.m.lcell rfl hy hv
  rw [ho] at y0
  have c1 := h.c1
  have hbase : IsG (w.setCell ⟨g, j * 2, none⟩ (.int .i64 (-1))) base s vt (.slice (some ⟨g, 0, none⟩) L.length cap) V T (L.set j ⟨-1, y.l⟩) := h.hold hy (-1) (h.f.give hy hl)
  have HB := veil hbase
  have HN := veil (show L.length = (L.set j ⟨-1, y.l⟩).length by simp)
  have HY1 := veil (show (L.set j ⟨-1, y.l⟩)[j]? = some ⟨-1, y.l⟩ by simp [hj])
  have HV := veil hv
  clear h hbase hline hy hy' hx he hv
  clear hl0 hl ef
  generalize y.l.length = vn at y1 HF HV hvc1
  go_enter Try.func26, Try.ntmps26
  go_wp2_with (first
    | (go_at_call 49; refine (HM.out).mono ?_; rintro e w1 ⟨rfl, hw⟩; replace hw := hw.symm; subst hw)
    | (go_at_call 50; refine (HF.out).mono ?_; rintro e w1 ⟨rfl, hb⟩; have z0 := ((HB.out.below hb).m.lcell HN.out HY1.out HV.out).1; replace hb := veil hb))
  simp [bodyPost, results, Try.results26, go_sem]
  refine ⟨V, HB.out.below hb.out, ?_, fun k q => .inl q⟩
  refine Fr.trans ((Fr.refl _ w).setCell (a := ⟨g, j * 2, none⟩) (.inr (.inr (.inl rfl))) _) (Fr.of_below' hb.out)
/-- The steps of memory when p in the line gets the lock. -/
theorem next_mem {g cap gt ct i j p q gg vc : Nat} {x z : Th} {y : Lk} (h : IsG w base s (.slice (some ⟨gt, 0, none⟩) T.length ct) (.slice (some ⟨g, 0, none⟩) L.length cap) V T L) (hy : L[j]? = some y) (hv : V[j]? = some (.slice (some ⟨gg, 0, none⟩) y.l.length vc)) (hq : y.l[p]? = some q) (hz : T[q]? = some z)
    {w2 : World} (hb : Below (w.setCell ⟨g, j * 2, none⟩ (.int .i64 (-1))).heap.size (w.setCell ⟨g, j * 2, none⟩ (.int .i64 (-1))) w2) :
    (w2.cell? ⟨g, j * 2, none⟩ = some (.int .i64 (-1)) ∧ w2.cell? ⟨g, j * 2 + 1, none⟩ = some (.slice (some ⟨gg, 0, none⟩) y.l.length vc) ∧ w2.cell? ⟨gg, p, none⟩ = some (.int .i64 (q : Int)) ∧ (∀ k, w2.frozen? ⟨g, k, none⟩ = false)) ∧
    Calls Try.prog 51 #[.slice (some ⟨gg, 0, none⟩) y.l.length vc, .int .i64 (p : Int), .int .i64 ((p : Int) + 1)] (w2.setCell ⟨g, j * 2, none⟩ (.int .i64 (q : Int))) fun e w4 => e = .returned (.slice (some ⟨gg, 0, none⟩) (y.l.eraseIdx p).length vc) ∧
      (w4.cell? ⟨g, j * 2 + 1, none⟩ = some (.slice (some ⟨gg, 0, none⟩) y.l.length vc) ∧ (∀ k, w4.frozen? ⟨g, k, none⟩ = false)) ∧
      ((w4.setCell ⟨g, j * 2 + 1, none⟩ (.slice (some ⟨gg, 0, none⟩) (y.l.eraseIdx p).length vc)).cell? ⟨s, 0, none⟩ = some (.slice (some ⟨gt, 0, none⟩) T.length ct) ∧
       (w4.setCell ⟨g, j * 2 + 1, none⟩ (.slice (some ⟨gg, 0, none⟩) (y.l.eraseIdx p).length vc)).cell? ⟨g, j * 2, none⟩ = some (.int .i64 (q : Int)) ∧
       (w4.setCell ⟨g, j * 2 + 1, none⟩ (.slice (some ⟨gg, 0, none⟩) (y.l.eraseIdx p).length vc)).cell? ⟨gt, q * 4 + 3, none⟩ = some (.int .i64 z.u) ∧
       (w4.setCell ⟨g, j * 2 + 1, none⟩ (.slice (some ⟨gg, 0, none⟩) (y.l.eraseIdx p).length vc)).frozen? ⟨gt, q * 4 + 3, none⟩ = false) ∧
      ((w4.setCell ⟨g, j * 2 + 1, none⟩ (.slice (some ⟨gg, 0, none⟩) (y.l.eraseIdx p).length vc)).setCell ⟨gt, q * 4 + 3, none⟩ (.int .i64 (-1))).cell? ⟨g, j * 2, none⟩ = some (.int .i64 (q : Int)) ∧
      Moved w ((w4.setCell ⟨g, j * 2 + 1, none⟩ (.slice (some ⟨gg, 0, none⟩) (y.l.eraseIdx p).length vc)).setCell ⟨gt, q * 4 + 3, none⟩ (.int .i64 (-1))) base s (.slice (some ⟨gt, 0, none⟩) T.length ct) (.slice (some ⟨g, 0, none⟩) L.length cap) V (T.set q ⟨z.k, -1⟩) (L.set j ⟨(q : Int), y.l.eraseIdx p⟩) := by
  have hj := (List.getElem?_eq_some_iff.1 hy).1
  have hjV := (List.getElem?_eq_some_iff.1 hv).1
  have hp := (List.getElem?_eq_some_iff.1 hq).1
  have hm1 := h.m.hold hy (-1)
  have hm2 := hm1.below hb
  have hy2 : (L.set j ⟨-1, y.l⟩)[j]? = some ⟨-1, y.l⟩ := by simp [hj]
  have hl2 : L.length = (L.set j ⟨-1, y.l⟩).length := by simp
  obtain ⟨a0, a1, afz⟩ := hm2.lcell hl2 hy2 hv
  have hrow2 := hm2.lin j _ _ hy2 hv
  have hc2 : w2.cell? ⟨gg, p, none⟩ = some (.int .i64 (q : Int)) := by
    rw [hrow2.cellAt p (by show p < y.l.length * 1; omega)]
    simp [ints, hq]
  have hm3 : IsM (w2.setCell ⟨g, j * 2, none⟩ (.int .i64 (q : Int))) base s (.slice (some ⟨gt, 0, none⟩) T.length ct) (.slice (some ⟨g, 0, none⟩) L.length cap) V T (L.set j ⟨(q : Int), y.l⟩) := by
    rw [hl2] at hm2
    have := hm2.hold hy2 (q : Int)
    rw [List.set_set, ← hl2] at this
    exact this
  have hy3 : (L.set j ⟨(q : Int), y.l⟩)[j]? = some ⟨(q : Int), y.l⟩ := by simp [hj]
  have hl3 : L.length = (L.set j ⟨(q : Int), y.l⟩).length := by simp
  have hrow3 := hm3.lin j _ _ hy3 hv
  refine ⟨⟨a0, a1, hc2, afz⟩, ?_⟩
  refine (del_ok hrow3 hp).mono ?_
  rintro e w4 ⟨rfl, hown4, hfr4, hsz4⟩
  refine ⟨rfl, ?_⟩
  have hkk : ∀ k, k < (w2.setCell ⟨g, j * 2, none⟩ (.int .i64 (q : Int))).heap.size → (Value.slice (some ⟨gg, 0, none⟩) y.l.length vc).ownBlock ≠ some k → w4.heap[k]? = (w2.setCell ⟨g, j * 2, none⟩ (.int .i64 (q : Int))).heap[k]? := fun k hk hn => hfr4.block k hk (fun e => hn (by rw [e]; rfl))
  have hm3' := hm3
  rw [hl3] at hm3'
  have hm5 := hm3'.lined hy3 hv (by rw [hsz4]; exact Nat.le_refl _) hkk hown4 (fun k hk => .inl hk)
  rw [List.set_set, ← hl3] at hm5
  have hm6 := hm5.waits hz (-1)
  obtain ⟨b0, b1, bfz⟩ := hm3.lcell hl3 hy3 hv
  obtain ⟨c, hc⟩ := hm3.lb (k := g) rfl
  have hgg : g ≠ gg := fun e => by
    obtain ⟨c', hc'⟩ := hm3.vb (List.mem_of_getElem? hv) (k := gg) rfl
    rw [← e, hc] at hc'
    simp at hc'
  have hg4 := hfr4.block g (Array.getElem?_eq_some_iff.1 hc).1 hgg
  have hy5 : (L.set j ⟨(q : Int), y.l.eraseIdx p⟩)[j]? = some ⟨(q : Int), y.l.eraseIdx p⟩ := by simp [hj]
  have hv5 : (V.set j (Value.slice (some ⟨gg, 0, none⟩) (y.l.eraseIdx p).length vc))[j]? = some (Value.slice (some ⟨gg, 0, none⟩) (y.l.eraseIdx p).length vc) := by simp [hjV]
  have hl5 : L.length = (L.set j ⟨(q : Int), y.l.eraseIdx p⟩).length := by simp
  obtain ⟨gt', ct', e5, f0, f1, ffz, fce⟩ := hm5.form h.f.t1
  simp at e5
  obtain ⟨rfl, rfl⟩ := e5
  refine ⟨⟨(World.cell?_of_block hg4).trans b1, fun k => ?_⟩, ⟨f0, (hm5.lcell hl5 hy5 hv5).1, (fce q z hz).2.2.2, ffz _⟩, (hm6.lcell hl5 hy5 hv5).1, _, hm6.g (h.f.next hz hy hq), ?_, ?_⟩
  · have := bfz k
    unfold World.frozen? at this ⊢
    rw [show (⟨g, k, none⟩ : Addr).block = g from rfl] at this ⊢
    rw [hg4]
    exact this
  · have hf1 : Fr (own s (.slice (some ⟨gt, 0, none⟩) T.length ct) (.slice (some ⟨g, 0, none⟩) L.length cap) V) w w2 := Fr.trans ((Fr.refl _ w).setCell (a := ⟨g, j * 2, none⟩) (.inr (.inr (.inl rfl))) _) (Fr.of_below' hb)
    have hf3 := hf1.setCell (a := ⟨g, j * 2, none⟩) (.inr (.inr (.inl rfl))) (.int .i64 (q : Int))
    have hf4 := hf3.trans (hfr4.wide (fun k _ e => (by rw [e]; exact .inr (.inr (.inr ⟨_, List.mem_of_getElem? hv, rfl⟩)) : own s (.slice (some ⟨gt, 0, none⟩) T.length ct) (.slice (some ⟨g, 0, none⟩) L.length cap) V k)))
    exact (hf4.setCell (a := ⟨g, j * 2 + 1, none⟩) (.inr (.inr (.inl rfl))) _).setCell (a := ⟨gt, q * 4 + 3, none⟩) (.inr (.inl rfl)) _
  · rintro k (r | r | r | ⟨u, hu, r⟩)
    · exact .inl (.inl r)
    · exact .inl (.inr (.inl r))
    · exact .inl (.inr (.inr (.inl r)))
    · rcases List.mem_or_eq_of_mem_set hu with r' | rfl
      · exact .inl (.inr (.inr (.inr ⟨u, r', r⟩)))
      · exact .inl (.inr (.inr (.inr ⟨_, List.mem_of_getElem? hv, r⟩)))
end
end Go.Proofs.Ytbhkgbhgofefjaa
