/- The document's Lock. -/
import Derived.Test.YtbhkgbhgofefjaaR6
namespace Go.Proofs.Ytbhkgbhgofefjaa
open Go.RowKit
set_option linter.unusedVariables false
section
variable {w w' : World} {base s : Nat} {vb vo vw : Value} {V : List Value} {T : List Th} {L : List Lk}
theorem may_ways (T : List Th) (L : List Lk) (t m : Int) : (inT T t && inL L m) = false ∧ mayE T L t m = 2 ∨ (inT T t && inL L m) = true ∧ (waitsOf T t = -1 ∧ mayE T L t m = 0 ∨ waitsOf T t ≠ -1 ∧ mayE T L t m = 11) := by
  unfold mayE
  cases h : (inT T t && inL L m) with
  | false => exact .inl ⟨rfl, by simp⟩
  | true =>
    right
    by_cases hw : waitsOf T t = -1
    · exact ⟨rfl, .inl ⟨hw, by simp [hw]⟩⟩
    · exact ⟨rfl, .inr ⟨hw, by simp [hw]⟩⟩
theorem waits_ge (f : Fine T L) (t : Int) : waitsOf T t ≠ -1 → 0 ≤ waitsOf T t := by
  intro h
  unfold waitsOf at h ⊢
  cases ht : inT T t with
  | false => rw [ht] at h; simp at h
  | true =>
    obtain ⟨k, x, rfl, hk, hx, _⟩ := inT_yes ht
    rw [ht, if_pos rfl, Int.toNat_natCast, hx] at h
    rw [if_pos rfl, Int.toNat_natCast, hx]
    have := (f.th x (List.mem_of_getElem? hx)).2.1
    simp at h ⊢
    omega
theorem rlock_may (h : IsR w base s vb vo vw V T L) (t m : Int) (he : mayE T L t m ≠ 0) : Calls Try.prog 55 #[.pointer (some ⟨s, 0, none⟩), .int .i64 t, .int .i64 m] w fun e w' => e = .returned (.tuple #[.bool false, .int .i64 (mayE T L t m)]) ∧ w' = w := by
  have HT := veil (there_ok h t m)
  have HW := veil (rwaits_ok h t)
  have hge := waits_ge h.f t
  rcases may_ways T L t m with ⟨e1, e2⟩ | ⟨e1, ⟨e2, e3⟩ | ⟨e2, e3⟩⟩
  · rw [e2]
    rw [e1] at HT
    clear h he HW hge
    go_enter Try.func55, Try.ntmps55
    go_wp2_with (go_at_call 62; refine (HT.out).mono ?_; rintro e w1 ⟨rfl, hw⟩; replace hw := hw.symm; subst hw)
    simp [bodyPost, results, Try.results55, go_sem]
  · exact absurd e3 he
  · rw [e3]
    rw [e1] at HT
    have hp := hge e2
    generalize waitsOf T t = z at HW hp
    clear h he hge e2
    go_enter Try.func55, Try.ntmps55
    go_wp2_with (first
      | (go_at_call 62; refine (HT.out).mono ?_; rintro e w1 ⟨rfl, hw⟩; replace hw := hw.symm; subst hw)
      | (go_at_call 36; refine (HW.out).mono ?_; rintro e w1 ⟨rfl, hw⟩; replace hw := hw.symm; subst hw))
    simp [bodyPost, results, Try.results55, go_sem]
/-- What stands at the head of each way further on. -/
theorem rmay_yes (h : IsR w base s vb vo vw V T L) {t m : Int} (he : mayE T L t m = 0) : Calls Try.prog 62 #[.pointer (some ⟨s, 0, none⟩), .int .i64 t, .int .i64 m] w (fun e w' => e = .returned (.bool true) ∧ w' = w) ∧ Calls Try.prog 36 #[.pointer (some ⟨s, 0, none⟩), .int .i64 t] w (fun e w' => e = .returned (.int .i64 (-1)) ∧ w' = w) := by
  have HT := there_ok h t m
  have HW := rwaits_ok h t
  rcases may_ways T L t m with ⟨e1, e2⟩ | ⟨e1, ⟨e2, e3⟩ | ⟨e2, e3⟩⟩
  · omega
  · rw [e1] at HT
    rw [e2] at HW
    exact ⟨HT, HW⟩
  · omega
theorem rlock_own (h : IsR w base s vb vo vw V T L) (i j : Nat) (he : mayE T L i j = 0) (y : Lk) (hy : L[j]? = some y) (ho : y.h = (i : Int)) : Calls Try.prog 55 #[.pointer (some ⟨s, 0, none⟩), .int .i64 (i : Int), .int .i64 (j : Int)] w fun e w' => e = .returned (.tuple #[.bool false, .int .i64 7]) ∧ w' = w := by
  obtain ⟨ht, hw⟩ := rmay_yes h he
  have HT := veil ht
  have HW := veil hw
  have hj := (List.getElem?_eq_some_iff.1 hy).1
  have hj' : (j : Int) < (L.length : Int) := by omega
  obtain ⟨ab, cb, ao, co, aw, cw, _, _, _, hv⟩ := h.rv
  obtain ⟨go, rfl, hgo, o0⟩ := hv.ow j y hy
  rw [ho] at o0
  have c1 := hv.c1
  have hle := hv.le.2.1
  clear h hv ht hw he
  go_enter Try.func55, Try.ntmps55
  go_wp2_with (first
    | (go_at_call 62; refine (HT.out).mono ?_; rintro e w1 ⟨rfl, hw⟩; replace hw := hw.symm; subst hw)
    | (go_at_call 36; refine (HW.out).mono ?_; rintro e w1 ⟨rfl, hw⟩; replace hw := hw.symm; subst hw))
  simp [bodyPost, results, Try.results55, go_sem]
set_option maxHeartbeats 1000000 in
theorem rlock_free (h : IsR w base s vb vo vw V T L) (i j : Nat) (he : mayE T L i j = 0) (y : Lk) (hy : L[j]? = some y) (ho : y.h = -1) : Calls Try.prog 55 #[.pointer (some ⟨s, 0, none⟩), .int .i64 (i : Int), .int .i64 (j : Int)] w fun e w' => e = .returned (.tuple #[.bool true, .int .i64 0]) ∧ MovedR w w' base s vb vo vw V T (L.set j ⟨(i : Int), y.l⟩) := by
  obtain ⟨ht, hw⟩ := rmay_yes h he
  have HT := veil ht
  have HW := veil hw
  obtain ⟨i', j', x', y', q1, q2, hi, hj, hx', _, _⟩ := may_yes he
  obtain rfl : i = i' := by omega
  obtain rfl : j = j' := by omega
  clear q1 q2
  have hj' : (j : Int) < (L.length : Int) := by omega
  obtain ⟨ab, cb, ao, co, aw, cw, _, rfl, _, hv⟩ := h.rv
  obtain ⟨go, rfl, hgo, o0⟩ := hv.ow j y hy
  rw [ho] at o0
  have hmn : ¬ (-1 : Int) = (i : Int) := by omega
  have c1 := hv.c1
  have hle := hv.le.2.1
  have fz := frozen_row h.oo
  have HM : Hid (MovedR w (w.setCell ⟨go, j, none⟩ (.int .i64 (i : Int))) base s vb (.slice (some ⟨go, 0, none⟩) L.length co) vw V T (L.set j ⟨(i : Int), y.l⟩)) :=
    ⟨V, (h.q.own hy (i : Int)).r (h.f.take hy ho hi).2, (Fr.refl _ w).setCell (a := ⟨go, j, none⟩) (.inr (.inr (.inl rfl))) _, fun k q => .inl q⟩
  clear h hv ht hw he
  go_enter Try.func55, Try.ntmps55
  go_wp2_with (first
    | (go_at_call 62; refine (HT.out).mono ?_; rintro e w1 ⟨rfl, hw⟩; replace hw := hw.symm; subst hw)
    | (go_at_call 36; refine (HW.out).mono ?_; rintro e w1 ⟨rfl, hw⟩; replace hw := hw.symm; subst hw))
  simp [bodyPost, results, Try.results55, go_sem]
  exact HM.out
end
end Go.Proofs.Ytbhkgbhgofefjaa
