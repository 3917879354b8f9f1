/- Lock: what is refused at once, a lock that nobody holds. -/
import Derived.Test.YtbhkgbhgofefjaaI5
namespace Go.Proofs.Ytbhkgbhgofefjaa
open Go.RowKit Go.Lib
set_option linter.unusedVariables false
theorem lcells_hold : ∀ (Z : List (Int × Value)) (i : Nat) (z : Int × Value) (a : Int), Z[i]? = some z → lcells (Z.set i (a, z.2)) = (lcells Z).set (i * 2) (.int .i64 a)
  | [], i, z, a, h => by simp at h
  | y :: Z, 0, z, a, h => by
    simp at h
    subst h
    simp [lcells_cons]
  | y :: Z, i + 1, z, a, h => by
    have := lcells_hold Z i z a (by simpa using h)
    rw [List.set_cons_succ, lcells_cons, this, lcells_cons, show (i + 1) * 2 = i * 2 + 2 by omega]
    rfl
theorem zip_set {α β : Type} : ∀ (A : List α) (B : List β) (i : Nat) (a : α) (b : β), B[i]? = some b → (A.set i a).zip B = (A.zip B).set i (a, b)
  | [], B, i, a, b, h => by simp
  | x :: A, [], i, a, b, h => by simp
  | x :: A, y :: B, 0, a, b, h => by
    simp at h
    subst h
    simp
  | x :: A, y :: B, i + 1, a, b, h => by
    have := zip_set A B i a b (by simpa using h)
    simp [this]
section
variable {w w' : World} {base s : Nat} {vt vl : Value} {V : List Value} {T : List Th} {L : List Lk}
theorem IsG.lblocks (h : IsG w base s vt vl V T L) {g : Nat} (hg : vl.ownBlock = some g) : g ≠ s ∧ vt.ownBlock ≠ some g ∧ ∀ v ∈ V, v.ownBlock ≠ some g := by
  obtain ⟨_, _, c, e⟩ := ownsRow_blk h.lko hg
  refine ⟨fun q => ?_, fun q => ?_, fun v hv q => ?_⟩
  · rw [q, h.blk] at e; simp at e
  · obtain ⟨_, _, c', e'⟩ := ownsRow_blk h.tho q
    rw [e] at e'; simp at e'
  · obtain ⟨j, hj⟩ := List.mem_iff_getElem?.1 hv
    have hjl := (List.getElem?_eq_some_iff.1 hj).1
    rw [h.vs] at hjl
    obtain ⟨_, _, c', e'⟩ := ownsRow_blk (h.lin j _ v (List.getElem?_eq_getElem hjl) hj) q
    rw [e] at e'; simp at e'
/-- A holder anew. -/
theorem IsG.hold {g cap : Nat} (h : IsG w base s vt (.slice (some ⟨g, 0, none⟩) L.length cap) V T L) {m : Nat} {y : Lk} (hy : L[m]? = some y) (a : Int) (f : Fine T (L.set m ⟨a, y.l⟩)) :
    IsG (w.setCell ⟨g, m * 2, none⟩ (.int .i64 a)) base s vt (.slice (some ⟨g, 0, none⟩) L.length cap) V T (L.set m ⟨a, y.l⟩) := by
  have hm := (List.getElem?_eq_some_iff.1 hy).1
  obtain ⟨v, hv⟩ : ∃ v, V[m]? = some v := ⟨_, List.getElem?_eq_getElem (by rw [h.vs]; exact hm)⟩
  obtain ⟨b1, b2, b3⟩ := h.lblocks (g := g) rfl
  have hz : ((L.map (·.h)).zip V)[m]? = some (y.h, v) := by rw [List.getElem?_zip_eq_some]; simp [hy, hv]
  have e : ((L.set m ⟨a, y.l⟩).map (·.h)).zip V = ((L.map (·.h)).zip V).set m (a, v) := by rw [List.map_set]; exact zip_set _ _ _ _ _ hv
  refine ⟨?_, h.lo, ownsRow_far h.tho ?_, ?_, by simpa using h.vs, ?_, h.apart, by simpa using h.bs, f⟩
  · rw [Below.heap_setCell _ _ _ _ (Ne.symm b1)]
    exact h.blk
  · intro k hk
    exact Below.heap_setCell _ _ _ _ (fun q => b2 (by rw [hk]; exact congrArg some q))
  · rw [e, lcells_hold _ m (y.h, v) a hz, List.length_set]
    exact ownsRow_set h.lko (m * 2) (by omega) _
  · intro j x u hx hu
    have hx' : ∃ x', L[j]? = some x' ∧ x'.l = x.l := by
      rw [List.getElem?_set] at hx
      by_cases q : m = j
      · subst q
        rw [if_pos rfl, if_pos hm] at hx
        obtain rfl := Option.some.inj hx
        exact ⟨y, hy, rfl⟩
      · rw [if_neg q] at hx
        exact ⟨x, hx, rfl⟩
    obtain ⟨x', e1, e2⟩ := hx'
    rw [← e2]
    refine ownsRow_far (h.lin j x' u e1 hu) ?_
    intro k hk
    exact Below.heap_setCell _ _ _ _ (fun q => b3 u (List.mem_of_getElem? hu) (by rw [hk]; exact congrArg some q))
/-- A free lock is taken. -/
theorem Fine.take (f : Fine T L) {m : Nat} {y : Lk} (hy : L[m]? = some y) (hf : y.h = -1) {t : Nat} (ht : t < T.length) : y.l = [] ∧ Fine T (L.set m ⟨(t : Int), y.l⟩) := by
  have ho := f.lk y (List.mem_of_getElem? hy)
  have hl : y.l = [] := by
    cases q : y.l with
    | nil => rfl
    | cons a b =>
      have := ho.2.2.2.2 (by rw [q]; simp)
      omega
  have hm := (List.getElem?_eq_some_iff.1 hy).1
  refine ⟨hl, f.t1, f.t2, by simpa using f.l2, by simpa using f.th, ?_, ?_, f.ac.less ?_⟩
  · intro z hz
    rcases List.mem_or_eq_of_mem_set hz with q | q
    · exact f.lk z q
    · subst q
      refine ⟨by show (-1 : Int) ≤ t; omega, by show (t : Int) < _; omega, ho.2.2.1, ho.2.2.2.1, fun _ => by show (0 : Int) ≤ t; omega⟩
  · intro a x hx k z hz
    rw [List.getElem?_set] at hz
    by_cases q : m = k
    · subst q
      rw [if_pos rfl, if_pos hm] at hz
      obtain rfl := Option.some.inj hz
      exact f.wt a x hx m y hy
    · rw [if_neg q] at hz
      exact f.wt a x hx k z hz
  · rintro a b ⟨z, hz, ha, hb⟩
    rcases List.mem_or_eq_of_mem_set hz with q | q
    · exact ⟨z, q, ha, hb⟩
    · subst q
      rw [hl] at ha
      simp at ha
theorem lock_may (h : IsG w base s vt vl V T L) (t m : Int) (he : mayE T L t m ≠ 0) : Calls Try.prog 28 #[.pointer (some ⟨s, 0, none⟩), .int .i64 t, .int .i64 m] w fun e w' => e = .returned (.tuple #[.bool false, .int .i64 (mayE T L t m)]) ∧ w' = w := by
  have HM := veil (may_ok h t m)
  generalize mayE T L t m = z at he HM
  clear h
  go_enter Try.func28, Try.ntmps28
  go_wp2_with (go_at_call 49; refine (HM.out).mono ?_; rintro e w1 ⟨rfl, hw⟩; replace hw := hw.symm; subst hw)
  simp [bodyPost, results, Try.results28, go_sem]
theorem unlock_may (h : IsG w base s vt vl V T L) (t m : Int) (he : mayE T L t m ≠ 0) : Calls Try.prog 26 #[.pointer (some ⟨s, 0, none⟩), .int .i64 t, .int .i64 m] w fun e w' => e = .returned (.tuple #[.int .i64 (-1), .int .i64 (mayE T L t m)]) ∧ w' = w := by
  have HM := veil (may_ok h t m)
  generalize mayE T L t m = z at he HM
  clear h
  go_enter Try.func26, Try.ntmps26
  go_wp2_with (go_at_call 49; refine (HM.out).mono ?_; rintro e w1 ⟨rfl, hw⟩; replace hw := hw.symm; subst hw)
  simp [bodyPost, results, Try.results26, go_sem]
theorem may_yes {t m : Int} (he : mayE T L t m = 0) : ∃ (i j : Nat) (x : Th) (y : Lk), t = i ∧ m = j ∧ i < T.length ∧ j < L.length ∧ T[i]? = some x ∧ x.u = -1 ∧ L[j]? = some y := by
  unfold mayE at he
  split at he
  · rename_i q
    simp only [Bool.and_eq_true] at q
    obtain ⟨i, x, e1, e2, e3, e4⟩ := inT_yes q.1
    obtain ⟨j, y, f1, f2, f3, f4⟩ := inL_yes q.2
    split at he
    · rename_i q2
      rw [e4] at q2
      exact ⟨i, j, x, y, e1, f1, e2, f2, e3, q2, f3⟩
    · omega
  · omega
theorem lock_own (h : IsG w base s vt vl V T L) (i j : Nat) (he : mayE T L i j = 0) (y : Lk) (hy : L[j]? = some y) (ho : y.h = (i : Int)) : Calls Try.prog 28 #[.pointer (some ⟨s, 0, none⟩), .int .i64 (i : Int), .int .i64 (j : Int)] w fun e w' => e = .returned (.tuple #[.bool false, .int .i64 7]) ∧ w' = w := by
  have HM := veil (may_ok h (i : Int) (j : Int))
  rw [he] at HM
  have hj := (List.getElem?_eq_some_iff.1 hy).1
  have hj' : (j : Int) < (L.length : Int) := by omega
  obtain ⟨v, hv⟩ := h.line hj
  obtain ⟨g, cap, rfl, hc1, hc2, hg, hgs, _, hc⟩ := h.lform (by omega)
  obtain ⟨y0, y1⟩ := hc j y v hy hv
  rw [ho] at y0
  have c1 := h.c1
  clear h hc he
  go_enter Try.func28, Try.ntmps28
  go_wp2_with (go_at_call 49; refine (HM.out).mono ?_; rintro e w1 ⟨rfl, hw⟩; replace hw := hw.symm; subst hw)
  simp [bodyPost, results, Try.results28, go_sem]
theorem lock_free (h : IsG w base s vt vl V T L) (i j : Nat) (he : mayE T L i j = 0) (y : Lk) (hy : L[j]? = some y) (ho : y.h = -1) : Calls Try.prog 28 #[.pointer (some ⟨s, 0, none⟩), .int .i64 (i : Int), .int .i64 (j : Int)] w fun e w' => e = .returned (.tuple #[.bool true, .int .i64 0]) ∧ IsG w' base s vt vl V T (L.set j ⟨(i : Int), y.l⟩) ∧ Fr (fun b => vl.ownBlock = some b) w w' := by
  have HM := veil (may_ok h (i : Int) (j : Int))
  obtain ⟨i', j', x, y', e1, e2, hi, hj, hx, hu, hy'⟩ := may_yes he
  obtain rfl : i = i' := by omega
  obtain rfl : j = j' := by omega
  rw [he] at HM
  have hj' : (j : Int) < (L.length : Int) := by omega
  have hni : ¬ (-1 : Int) = (i : Int) := by omega
  obtain ⟨v, hv⟩ := h.line hj
  obtain ⟨g, cap, rfl, hc1, hc2, hg, hgs, fz, hc⟩ := h.lform (by omega)
  obtain ⟨y0, y1⟩ := hc j y v hy hv
  rw [ho] at y0
  have c1 := h.c1
  have HI := veil (h.hold hy (i : Int) (h.f.take hy ho hi).2)
  have HF : Hid (Fr (fun b => (Value.slice (some ⟨g, 0, none⟩) L.length cap).ownBlock = some b) w (w.setCell ⟨g, j * 2, none⟩ (.int .i64 (i : Int)))) := (Fr.refl (fun b => (Value.slice (some ⟨g, 0, none⟩) L.length cap).ownBlock = some b) w).setCell (a := ⟨g, j * 2, none⟩) rfl _
  clear h hc he e1 e2 hx hu hy'
  go_enter Try.func28, Try.ntmps28
  go_wp2_with (go_at_call 49; refine (HM.out).mono ?_; rintro e w1 ⟨rfl, hw⟩; replace hw := hw.symm; subst hw)
  simp [bodyPost, results, Try.results28, go_sem]
  exact ⟨HI.out, HF.out⟩
end
end Go.Proofs.Ytbhkgbhgofefjaa
