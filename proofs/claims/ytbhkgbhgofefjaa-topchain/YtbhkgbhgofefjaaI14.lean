/- Lock: refused for a circle. -/
import Derived.Test.YtbhkgbhgofefjaaI13
namespace Go.Proofs.Ytbhkgbhgofefjaa
open Go.RowKit Go.Lib
set_option linter.unusedVariables false
section
variable {w : World} {base s : Nat} {vt vl : Value} {V : List Value} {T : List Th} {L : List Lk}
theorem lock_cycle (h : IsG w base s vt vl V T L) (i j : Nat) (he : mayE T L i j = 0) (y : Lk) (hy : L[j]? = some y) (k : Nat) (ho : y.h = (k : Int)) (hk : k ≠ i) (hl : Leads L k i) : Calls Try.prog 28 #[.pointer (some ⟨s, 0, none⟩), .int .i64 (i : Int), .int .i64 (j : Int)] w fun e w' => e = .returned (.tuple #[.bool false, .int .i64 8]) ∧ Below w.heap.size w w' := by
  have HM := veil (may_ok h (i : Int) (j : Int))
  obtain ⟨b, hb, hc⟩ := leads_ok h j i y hy k ho
  obtain rfl : b = true := hb.2 hl
  have HL := veil hc
  clear hb hc hl
  rw [he] at HM
  have hj := (List.getElem?_eq_some_iff.1 hy).1
  have hj' : (j : Int) < (L.length : Int) := by omega
  obtain ⟨v, hv⟩ := h.line hj
  obtain ⟨g, cap, rfl, hc1, hc2, hg, hgs, _, hc⟩ := h.lform (by omega)
  obtain ⟨y0, y1⟩ := hc j y v hy hv
  rw [ho] at y0
  have c1 := h.c1
  have hk1 : ((k : Int) == (i : Int)) = false := by simp; omega
  have hk2 : ((k : Int) == -1) = false := by simp
  have hk3 : ¬ (k : Int) = (i : Int) := by omega
  have hk4 : ¬ (k : Int) = -1 := by omega
  have hk5 : ¬ k = i := hk
  clear h hc he
  go_enter Try.func28, Try.ntmps28
  go_wp2_with (first
    | (go_at_call 49; refine (HM.out).mono ?_; rintro e w1 ⟨rfl, hw⟩; replace hw := hw.symm; subst hw)
    | (go_at_call 54; refine (HL.out).mono ?_; rintro e w1 ⟨rfl, hbw⟩; replace hbw := veil hbw))
  simp [bodyPost, results, Try.results28, go_sem]
  exact hbw.out
end
end Go.Proofs.Ytbhkgbhgofefjaa
