/- Unlock: somebody waits. -/
import Derived.Test.YtbhkgbhgofefjaaI30
namespace Go.Proofs.Ytbhkgbhgofefjaa
open Go.RowKit Go.Lib Go.Shelf
set_option linter.unusedVariables false
section
variable {w : World} {base s : Nat} {vt vl : Value} {V : List Value} {T : List Th} {L : List Lk}
set_option maxHeartbeats 1000000 in
theorem unlock_next (h : IsG w base s vt vl V T L) (i j p q : Nat) (he : mayE T L i j = 0) (y : Lk) (hy : L[j]? = some y) (ho : y.h = (i : Int)) (hp : (foreTo (keyOf T L) y.l y.l.length).1 = (p : Int)) (hq : y.l[p]? = some q) (z : Th) (hz : T[q]? = some z) : Calls Try.prog 26 #[.pointer (some ⟨s, 0, none⟩), .int .i64 (i : Int), .int .i64 (j : Int)] w fun e w' => e = .returned (.tuple #[.int .i64 (q : Int), .int .i64 0]) ∧ Moved w w' base s vt vl V (T.set q ⟨z.k, -1⟩) (L.set j ⟨(q : Int), y.l.eraseIdx p⟩) := by
  have HM := veil (may_ok h (i : Int) (j : Int))
  obtain ⟨i', j', x, y', e1, e2, hi, hj, hx, hu, hy'⟩ := may_yes he
  obtain rfl : i = i' := by omega
  obtain rfl : j = j' := by omega
  rw [he] at HM
  have hj' : (j : Int) < (L.length : Int) := by omega
  have hpl := (List.getElem?_eq_some_iff.1 hq).1
  have hpl' : (p : Int) < (y.l.length : Int) := by omega
  have hql := (List.getElem?_eq_some_iff.1 hz).1
  have hql' : (q : Int) < (T.length : Int) := by omega
  have ht2 := h.f.t2
  have hpp : ¬ (p : Int) = -1 := by omega
  have hll : y.l.length ≤ 9223372036854775807 := by
    obtain ⟨v, hv⟩ := h.line hj
    obtain ⟨va, vc, rfl, h1, h2⟩ := form_of (h.lin j y v hy hv)
    unfold maxLen at h2
    omega
  obtain ⟨v, hv⟩ := h.line hj
  have hline := h.lin j y v hy hv
  rcases hline.2 with ⟨_, e0⟩ | ⟨gg, vc, cur, rfl, _, _, hvc1, hvc2, _⟩
  · omega
  obtain ⟨g, cap, rfl, hc1, hc2, hg, hgs, _, _⟩ := h.lform (by omega)
  obtain ⟨gt, ct, rfl, ht3, ht4, _⟩ := h.tform
  have HF := veil (fore_freed h hx hu hy ho hv)
  rw [hp] at HF
  obtain ⟨y0, y1, fz⟩ := h.m.lcell rfl hy hv
  rw [ho] at y0
  have c1 := h.c1
  have HN := veil (fun w2 (hb : Below (w.setCell ⟨g, j * 2, none⟩ (.int .i64 (-1))).heap.size (w.setCell ⟨g, j * 2, none⟩ (.int .i64 (-1))) w2) => next_mem (i := i) (x := x) h hy hv hq hz hb)
  clear h hline hy hy' hx he hv hp hq hz
  generalize y.l.eraseIdx p = l' at HN
  generalize y.l.length = vn at y1 HF HN hvc1 hpl hpl' hll
  go_enter Try.func26, Try.ntmps26
  go_wp2_with (first
    | (go_at_call 49; refine (HM.out).mono ?_; rintro e w1 ⟨rfl, hw⟩; replace hw := hw.symm; subst hw)
    | (go_at_call 50; refine (HF.out).mono ?_; rintro e w2 ⟨rfl, hb⟩; obtain ⟨⟨a0, a1, a2, afz⟩, hdel⟩ := HN.out w2 hb; replace hdel := veil hdel; clear hb)
    | (go_at_call 51; refine (hdel.out).mono ?_; rintro e w4 ⟨rfl, ⟨b1, bfz⟩, ⟨d0, d1, d2, d3⟩, d4, hmv⟩; replace hmv := veil hmv))
  have d5 : ((w4.setCell ⟨g, j * 2 + 1, none⟩ (.slice (some ⟨gg, 0, none⟩) l'.length vc)).setCell ⟨gt, q * 4 + 3, none⟩ (.int .i64 (-1))).cell? ⟨s, 0, none⟩ = some (.slice (some ⟨gt, 0, none⟩) T.length ct) := by
    obtain ⟨V', hg', _⟩ := hmv.out
    have := hg'.c0
    exact this
  generalize w4.setCell ⟨g, j * 2 + 1, none⟩ (.slice (some ⟨gg, 0, none⟩) l'.length vc) = W5 at d0 d1 d2 d3 d4 d5 hmv ⊢
  have hS1 := veil (And.intro d0 d1)
  have hS2 : Hid (W5.drew.cell? ⟨s, 0, none⟩ = some (.slice (some ⟨gt, 0, none⟩) T.length ct) ∧ W5.drew.cell? ⟨g, j * 2, none⟩ = some (.int .i64 (q : Int))) := ⟨d0, d1⟩
  have hS3 : Hid ((W5.setCell ⟨gt, q * 4 + 3, none⟩ (.int .i64 (-1))).drew.cell? ⟨s, 0, none⟩ = some (.slice (some ⟨gt, 0, none⟩) T.length ct) ∧ (W5.setCell ⟨gt, q * 4 + 3, none⟩ (.int .i64 (-1))).drew.cell? ⟨g, j * 2, none⟩ = some (.int .i64 (q : Int))) := ⟨d5, d4⟩
  go_region_held3 (fun w' => (w'.cell? ⟨s, 0, none⟩ = some (.slice (some ⟨gt, 0, none⟩) T.length ct) ∧ w'.cell? ⟨g, j * 2, none⟩ = some (.int .i64 (q : Int))))
    (first | with_reducible exact hS1.out | with_reducible exact hS2.out | with_reducible exact hS3.out)
    (first | fail)
  have d6 : (W5.setCell ⟨gt, q * 4 + 3, none⟩ (.int .i64 (-1))).drew.cell? ⟨g, j * 2, none⟩ = some (.int .i64 (q : Int)) := d4
  obtain ⟨V', m1, m2, m3⟩ := hmv.out
  have HMV : Hid (Moved w (W5.setCell ⟨gt, q * 4 + 3, none⟩ (.int .i64 (-1))).drew base s (.slice (some ⟨gt, 0, none⟩) T.length ct) (.slice (some ⟨g, 0, none⟩) L.length cap) V (T.set q ⟨z.k, -1⟩) (L.set j ⟨(q : Int), l'⟩)) := ⟨V', m1.drew, m2.drew, m3⟩
  clear m1 m2 m3 hmv
  generalize (W5.setCell ⟨gt, q * 4 + 3, none⟩ (.int .i64 (-1))).drew = W6 at d6 HMV ⊢
  go_wp2
  simp [bodyPost, results, Try.results26, go_sem]
  exact HMV.out
end
end Go.Proofs.Ytbhkgbhgofefjaa
