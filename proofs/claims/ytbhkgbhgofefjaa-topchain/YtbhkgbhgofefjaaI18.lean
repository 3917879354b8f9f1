/- Held of any number. -/
import Derived.Test.YtbhkgbhgofefjaaI16
namespace Go.Proofs.Ytbhkgbhgofefjaa
open Go.RowKit Go.Shelf
set_option linter.unusedVariables false
section
variable {w : World} {base s : Nat} {vt vl : Value} {V : List Value} {T : List Th} {L : List Lk}
theorem Held_no (h : IsG w base s vt vl V T L) (t : Int) (ht : inT T t = false) : Calls Try.prog 17 #[.pointer (some ⟨s, 0, none⟩), .int .i64 t] w fun e w' => e = .returned (.slice none 0 0) ∧ Below w.heap.size w w' := by
  have HT := veil (hasT_ok h t)
  rw [ht] at HT
  clear h ht
  go_enter Try.func17, Try.ntmps17
  go_wp2_with (go_at_call 41; refine (HT.out).mono ?_; rintro e w1 ⟨rfl, hw⟩; replace hw := hw.symm; subst hw)
  go_ret
  exact ⟨rfl, Below.refl _ _⟩
/-- The locks of t, rising; none, if there is no such thread. -/
def heldA (T : List Th) (L : List Lk) (t : Int) : List Int := if inT T t then heldOf L t else []
theorem Held_ok (h : IsG w base s vt vl V T L) (t : Int) : Calls Try.prog 17 #[.pointer (some ⟨s, 0, none⟩), .int .i64 t] w fun e w' => ∃ v, e = .returned v ∧ w'.ownsRow w.heap.size 3 1 v (heldA T L t).length ((heldA T L t).map (Value.int .i64)) ∧ Below w.heap.size w w' := by
  unfold heldA
  cases ht : inT T t with
  | true =>
    rw [if_pos rfl]
    exact callsIn_wide.1 (Held_in h t ht)
  | false =>
    rw [if_neg (by simp)]
    refine (Held_no h t ht).mono ?_
    rintro e w' ⟨rfl, hb⟩
    exact ⟨_, rfl, World.ownsRow_nil _ _ _ _, hb⟩
end
end Go.Proofs.Ytbhkgbhgofefjaa
