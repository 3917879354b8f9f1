/- A lock is given up: the model. -/
import Derived.Test.YtbhkgbhgofefjaaI15
namespace Go.Proofs.Ytbhkgbhgofefjaa
open Go.RowKit Go.Lib
set_option linter.unusedVariables false
theorem Fine.give {T : List Th} {L : List Lk} (f : Fine T L) {j : Nat} {y : Lk} (hy : L[j]? = some y) (hl : y.l = []) : Fine T (L.set j ⟨-1, y.l⟩) := by
  have hok := f.lk y (List.mem_of_getElem? hy)
  refine ⟨f.t1, f.t2, by simpa using f.l2, by simpa using f.th, ?_, ?_, f.ac.less ?_⟩
  · intro z hz
    rcases List.mem_or_eq_of_mem_set hz with q | q
    · exact f.lk z q
    · subst q
      refine ⟨by show (-1 : Int) ≤ -1; omega, by show (-1 : Int) < _; omega, hok.2.2.1, hok.2.2.2.1, fun q => absurd hl q⟩
  · intro a x hx k z hz
    rcases getSet hz with ⟨rfl, rfl⟩ | ⟨_, hz'⟩
    · exact f.wt a x hx j y hy
    · exact f.wt a x hx k z hz'
  · rintro a b ⟨z, hz, ha, hb⟩
    rcases List.mem_or_eq_of_mem_set hz with q | q
    · exact ⟨z, q, ha, hb⟩
    · subst q
      rw [hl] at ha
      simp at ha
/-- The i that waited at place p holds the lock now, and waits no more. -/
theorem Fine.next {T : List Th} {L : List Lk} (f : Fine T L) {i j p : Nat} {x : Th} {y : Lk} (hx : T[i]? = some x) (hy : L[j]? = some y) (hp : y.l[p]? = some i) :
    Fine (T.set i ⟨x.k, -1⟩) (L.set j ⟨(i : Int), y.l.eraseIdx p⟩) := by
  have hi := (List.getElem?_eq_some_iff.1 hx).1
  have hok := f.lk y (List.mem_of_getElem? hy)
  have hin : i ∈ y.l := List.mem_of_getElem? hp
  have hu : x.u = (j : Int) := (f.wt i x hx j y hy).1 hin
  have hnd : y.l.Nodup := hok.2.2.2.1
  have hmem : ∀ t, t ∈ y.l.eraseIdx p ↔ t ∈ y.l ∧ t ≠ i := by
    intro t
    obtain ⟨hpl, hpe⟩ := List.getElem?_eq_some_iff.1 hp
    rw [List.mem_eraseIdx_iff_getElem?]
    constructor
    · rintro ⟨q, hq, he⟩
      refine ⟨List.mem_of_getElem? he, fun e => hq ?_⟩
      subst e
      obtain ⟨hql, hqe⟩ := List.getElem?_eq_some_iff.1 he
      have hpw := List.pairwise_iff_getElem.1 hnd
      rcases Nat.lt_trichotomy q p with lt | eq | gt
      · exact absurd (hqe.trans hpe.symm) (hpw q p hql hpl lt)
      · exact eq
      · exact absurd (hpe.trans hqe.symm) (hpw p q hpl hql gt)
    · rintro ⟨ht, hne⟩
      obtain ⟨q, hq⟩ := List.mem_iff_getElem?.1 ht
      refine ⟨q, fun e => hne ?_, hq⟩
      subst e
      rw [hp] at hq
      exact (Option.some.inj hq).symm
  have hno : ∀ (m : Nat) (z : Lk), L[m]? = some z → m ≠ j → i ∉ z.l := by
    intro m z hz hm q
    have := (f.wt i x hx m z hz).1 q
    omega
  refine ⟨by simpa using f.t1, by simpa using f.t2, by simpa using f.l2, ?_, ?_, ?_, ?_⟩
  · intro z hz
    rw [List.length_set]
    rcases List.mem_or_eq_of_mem_set hz with q | q
    · exact f.th z q
    · subst q
      refine ⟨(f.th x (List.mem_of_getElem? hx)).1, ?_, ?_⟩
      · show (-1 : Int) ≤ -1
        omega
      · show (-1 : Int) < _
        omega
  · intro z hz
    rw [List.length_set]
    rcases List.mem_or_eq_of_mem_set hz with q | q
    · exact f.lk z q
    · subst q
      refine ⟨by show (-1 : Int) ≤ i; omega, by show (i : Int) < _; omega, fun t ht => hok.2.2.1 t ((hmem t).1 ht).1, hnd.sublist (List.eraseIdx_sublist _ _), fun _ => by show (0 : Int) ≤ i; omega⟩
  · intro t z hz m u hm
    rcases getSet hz with ⟨rfl, rfl⟩ | ⟨q1, hz'⟩
    · rcases getSet hm with ⟨rfl, rfl⟩ | ⟨q2, hm'⟩
      · rw [hmem]
        constructor
        · intro r
          exact absurd rfl r.2
        · intro r
          have r' : (-1 : Int) = (j : Int) := r
          omega
      · constructor
        · intro r
          exact absurd r (hno m u hm' (Ne.symm q2))
        · intro r
          have r' : (-1 : Int) = (m : Int) := r
          omega
    · rcases getSet hm with ⟨rfl, rfl⟩ | ⟨q2, hm'⟩
      · rw [hmem, f.wt t z hz' j y hy]
        constructor
        · exact fun r => r.1
        · exact fun r => ⟨r, Ne.symm q1⟩
      · exact f.wt t z hz' m u hm'
  · obtain ⟨B, r, hb, hr⟩ := f.ac
    refine ⟨B + 1, fun z => if z = i then B + 1 else r z, fun z => ?_, ?_⟩
    · have := hb z
      show (if z = i then B + 1 else r z) ≤ B + 1
      split <;> omega
    · rintro a b ⟨z, hz, ha, hbb⟩
      show (if a = i then B + 1 else r a) < (if b = i then B + 1 else r b)
      have hba := hb a
      obtain ⟨m, hm⟩ := List.mem_iff_getElem?.1 hz
      rcases getSet hm with ⟨rfl, rfl⟩ | ⟨q2, hm'⟩
      · have h1 := ((hmem a).1 ha).2
        have h2 : (i : Int) = (b : Int) := hbb
        obtain rfl : i = b := by omega
        rw [if_neg h1, if_pos rfl]
        omega
      · have h1 : a ≠ i := fun e => hno m z hm' (Ne.symm q2) (e ▸ ha)
        have h3 := hr a b ⟨z, List.mem_of_getElem? hm', ha, hbb⟩
        rw [if_neg h1]
        split <;> omega
end Go.Proofs.Ytbhkgbhgofefjaa
