/-
  Which are due: facts on lists for CbsRefills.
-/
import Derived.Test.YtblickncecpajaaC31
namespace Go.Proofs.Ytblickncecpajaa
open Go.RowKit Go.Lib
set_option linter.unusedVariables false
theorem due_mem (L : List Srv) (now : Nat) : ∀ k d, d ∈ dueN L now k → d < k ∧ ∃ x, L[d]? = some x ∧ dueB now x = true
  | 0, d, h => by simp [dueN] at h
  | k + 1, d, h => by
    cases hx : L[k]? with
    | none =>
      have e : dueN L now (k + 1) = dueN L now k := by simp [dueN, hx]
      rw [e] at h
      obtain ⟨h1, h2⟩ := due_mem L now k d h
      exact ⟨by omega, h2⟩
    | some x =>
      cases hd : dueB now x with
      | false =>
        rw [dueN_no hx hd] at h
        obtain ⟨h1, h2⟩ := due_mem L now k d h
        exact ⟨by omega, h2⟩
      | true =>
        rw [dueN_yes hx hd] at h
        rcases List.mem_append.1 h with q | q
        · obtain ⟨h1, h2⟩ := due_mem L now k d q
          exact ⟨by omega, h2⟩
        · simp at q
          subst q
          exact ⟨by omega, x, hx, hd⟩
theorem due_rise (L : List Srv) (now : Nat) : ∀ k, (dueN L now k).Pairwise (· < ·)
  | 0 => by simp [dueN]
  | k + 1 => by
    cases hx : L[k]? with
    | none =>
      have e : dueN L now (k + 1) = dueN L now k := by simp [dueN, hx]
      rw [e]
      exact due_rise L now k
    | some x =>
      cases hd : dueB now x with
      | false => rw [dueN_no hx hd]; exact due_rise L now k
      | true =>
        rw [dueN_yes hx hd]
        refine List.pairwise_append.2 ⟨due_rise L now k, by simp, ?_⟩
        intro p hp q hq
        simp at hq
        rw [hq]
        exact (due_mem L now k p hp).1
theorem due_none (L : List Srv) (now : Nat) (h : ∀ (d : Nat) (x : Srv), L[d]? = some x → dueB now x = false) (k : Nat) : dueN L now k = [] := by
  cases hd : dueN L now k with
  | nil => rfl
  | cons d l =>
    obtain ⟨_, x, h1, h2⟩ := due_mem L now k d (by rw [hd]; simp)
    rw [h d x h1] at h2
    cases h2
theorem refS_not {x : Srv} (hx : x.ok) (now : Nat) : dueB now (refS now x) = false := by
  unfold refS
  split
  · have := hx.1
    simp [dueB, fillS]
    omega
  · next h => simpa using h
/-- What is handed out at place j. -/
theorem due_at {L : List Srv} {P : Nat} (hf : Fine P L) (now : Nat) (j : Nat) (hj : j < (dueN L now L.length).length) :
    ∃ d : Nat, (xsN L now).getD j 0 = (d : Int) ∧ (atL L d).l = 0 ∧ (atL L d).d ≤ now ∧ 0 < (atL (L.map (refS now)) d).l ∧ (∀ i d', i < j → (xsN L now).getD i 0 = ((d' : Nat) : Int) → d' < d) := by
  have hm : (dueN L now L.length)[j] ∈ dueN L now L.length := List.getElem_mem hj
  obtain ⟨h1, x, h2, h3⟩ := due_mem L now L.length _ hm
  have hok := hf.all x (List.mem_of_getElem? h2)
  refine ⟨(dueN L now L.length)[j], by simp [xsN, hj], ?_, ?_, ?_, ?_⟩
  · rw [(atL_some h2).1]
    simp [dueB] at h3
    exact h3.1.1
  · rw [(atL_some h2).1]
    simp [dueB] at h3
    exact h3.1.2
  · have e : (L.map (refS now))[(dueN L now L.length)[j]]? = some (fillS x now) := by
      rw [List.getElem?_map, h2]
      simp [refS, h3]
    rw [(atL_some e).1]
    have := hok.1
    simp [fillS]
    omega
  · intro i d' hi hd'
    have hi' : i < (dueN L now L.length).length := by omega
    have e : (xsN L now).getD i 0 = ((dueN L now L.length)[i] : Int) := by simp [xsN, hi']
    rw [e] at hd'
    have hd2 : (dueN L now L.length)[i] = d' := by omega
    rw [← hd2]
    exact List.pairwise_iff_getElem.1 (due_rise L now L.length) i j hi' hj hi
theorem due_gone {L : List Srv} {P : Nat} (hf : Fine P L) (now k : Nat) : dueN (L.map (refS now)) now k = [] := by
  refine due_none _ now ?_ k
  intro d x hx
  rw [List.getElem?_map] at hx
  cases hy : L[d]? with
  | none => rw [hy] at hx; simp at hx
  | some y =>
    rw [hy] at hx
    simp at hx
    rw [← hx]
    exact refS_not (hf.all y (List.mem_of_getElem? hy)) now
end Go.Proofs.Ytblickncecpajaa
