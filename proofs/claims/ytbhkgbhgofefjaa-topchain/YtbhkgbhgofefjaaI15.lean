/- One more waits: the model. -/
import Derived.Test.YtbhkgbhgofefjaaI14
namespace Go.Proofs.Ytbhkgbhgofefjaa
open Go.RowKit Go.Lib
set_option linter.unusedVariables false
theorem getSet {α : Type} {l : List α} {i j : Nat} {a b : α} (h : (l.set i a)[j]? = some b) : (i = j ∧ b = a) ∨ (i ≠ j ∧ l[j]? = some b) := by
  rw [List.getElem?_set] at h
  by_cases q : i = j
  · rw [if_pos q] at h
    split at h
    · exact .inl ⟨q, (Option.some.inj h).symm⟩
    · cases h
  · rw [if_neg q] at h
    exact .inr ⟨q, h⟩
theorem Fine.wait {T : List Th} {L : List Lk} (f : Fine T L) {i j k : Nat} {x : Th} {y : Lk} (hx : T[i]? = some x) (hu : x.u = -1) (hy : L[j]? = some y) (ho : y.h = (k : Int)) (hl : ¬ Leads L k i) :
    Fine (T.set i ⟨x.k, (j : Int)⟩) (L.set j ⟨y.h, y.l ++ [i]⟩) := by
  have hi := (List.getElem?_eq_some_iff.1 hx).1
  have hj := (List.getElem?_eq_some_iff.1 hy).1
  have hok := f.lk y (List.mem_of_getElem? hy)
  have hno : ∀ (m : Nat) (z : Lk), L[m]? = some z → i ∉ z.l := by
    intro m z hz q
    have := (f.wt i x hx m z hz).1 q
    omega
  refine ⟨by simpa using f.t1, by simpa using f.t2, by simpa using f.l2, ?_, ?_, ?_, ?_⟩
  · intro z hz
    rw [List.length_set]
    rcases List.mem_or_eq_of_mem_set hz with q | q
    · exact f.th z q
    · subst q
      refine ⟨(f.th x (List.mem_of_getElem? hx)).1, ?_, ?_⟩
      · show (-1 : Int) ≤ j
        omega
      · show (j : Int) < _
        omega
  · intro z hz
    rw [List.length_set]
    rcases List.mem_or_eq_of_mem_set hz with q | q
    · exact f.lk z q
    · subst q
      refine ⟨hok.1, hok.2.1, ?_, ?_, ?_⟩
      · intro t ht
        rcases List.mem_append.1 ht with r | r
        · exact hok.2.2.1 t r
        · simp at r
          omega
      · show (y.l ++ [i]).Nodup
        rw [List.nodup_append]
        refine ⟨hok.2.2.2.1, by simp, ?_⟩
        intro a ha b hb e
        simp at hb
        subst hb
        subst e
        exact hno j y hy ha
      · intro _
        show 0 ≤ y.h
        omega
  · intro t z hz m u hm
    rcases getSet hz with ⟨rfl, rfl⟩ | ⟨q1, hz'⟩
    · rcases getSet hm with ⟨rfl, rfl⟩ | ⟨q2, hm'⟩
      · simp
      · constructor
        · intro r
          exact absurd r (hno m u hm')
        · intro r
          have r' : (j : Int) = (m : Int) := r
          omega
    · rcases getSet hm with ⟨rfl, rfl⟩ | ⟨q2, hm'⟩
      · rw [← f.wt t z hz' j y hy]
        simp
        omega
      · exact f.wt t z hz' m u hm'
  · refine f.ac.more hl ?_
    rintro a b ⟨z, hz, ha, hb⟩
    rcases List.mem_or_eq_of_mem_set hz with q | q
    · exact .inl ⟨z, q, ha, hb⟩
    · subst q
      rcases List.mem_append.1 ha with r | r
      · exact .inl ⟨y, List.mem_of_getElem? hy, r, hb⟩
      · right
        simp at r
        refine ⟨r, ?_⟩
        have hb' : y.h = (b : Int) := hb
        omega
end Go.Proofs.Ytbhkgbhgofefjaa
