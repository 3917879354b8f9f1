/-
  A list of ids with their keys, in order: one is put behind all that are as urgent, one is taken out.
-/
import Derived.Test.YtlfejgjhamcahaaMk
namespace Go.Proofs.Ytlfejgjhamcahaa

/-- An id with its key. -/
abbrev En := Nat × Ke.K
/-- Put behind all that are as urgent. -/
def put (x : En) : List En → List En
  | [] => [x]
  | y :: M => if Ke.up x.2 y.2 then x :: y :: M else y :: put x M
def cut (id : Nat) (M : List En) : List En := M.filter (fun y => y.1 != id)

theorem put_skip (x : En) : ∀ (A B : List En), (∀ y ∈ A, Ke.up x.2 y.2 = false) → put x (A ++ B) = A ++ put x B
  | [], _, _ => rfl
  | y :: A, B, h => by
    have e := h y (by simp)
    simp only [List.cons_append, put, e]
    rw [put_skip x A B (fun z hz => h z (by simp [hz]))]
    rfl
theorem put_here (x : En) : ∀ (B : List En), (∀ y ∈ B, Ke.up x.2 y.2 = true) → put x B = x :: B
  | [], _ => rfl
  | y :: B, h => by simp [put, h y (by simp)]
theorem cut_miss {M : List En} {id : Nat} (h : ∀ y ∈ M, y.1 ≠ id) : cut id M = M := by
  unfold cut
  rw [List.filter_eq_self]
  intro a ha
  simpa using h a ha
theorem cut_head {y : En} {M : List En} (h : ((y :: M).map (·.1)).Nodup) : cut y.1 (y :: M) = M := by
  rw [List.map_cons, List.nodup_cons] at h
  unfold cut
  rw [List.filter_cons_of_neg (by simp)]
  exact cut_miss (fun z hz e => h.1 (List.mem_map.2 ⟨z, hz, e⟩))
theorem nd_uniq {M : List En} (h : (M.map (·.1)).Nodup) {a b : En} (ha : a ∈ M) (hb : b ∈ M) (e : a.1 = b.1) : a = b := by
  induction M with
  | nil => cases ha
  | cons y M ih =>
    rw [List.map_cons, List.nodup_cons] at h
    rcases List.mem_cons.1 ha with e1 | ha'
    · rcases List.mem_cons.1 hb with e2 | hb'
      · rw [e1, e2]
      · exact absurd (List.mem_map.2 ⟨b, hb', by rw [← e, e1]⟩) h.1
    · rcases List.mem_cons.1 hb with e2 | hb'
      · exact absurd (List.mem_map.2 ⟨a, ha', by rw [e, e2]⟩) h.1
      · exact ih h.2 ha' hb'
theorem mem_put {x y : En} : ∀ {M : List En}, y ∈ put x M ↔ y = x ∨ y ∈ M
  | [] => by simp [put]
  | z :: M => by
    unfold put
    split
    · simp
    · rw [List.mem_cons, mem_put, List.mem_cons]
      constructor
      · rintro (h | h | h)
        · exact .inr (.inl h)
        · exact .inl h
        · exact .inr (.inr h)
      · rintro (h | h | h)
        · exact .inr (.inl h)
        · exact .inl h
        · exact .inr (.inr h)
theorem len_put {x : En} : ∀ {M : List En}, (put x M).length = M.length + 1
  | [] => rfl
  | z :: M => by
    unfold put
    split
    · simp
    · simp [len_put]
theorem nd_put {x : En} : ∀ {M : List En}, (M.map (·.1)).Nodup → (∀ y ∈ M, y.1 ≠ x.1) → ((put x M).map (·.1)).Nodup
  | [], _, _ => by simp [put]
  | z :: M, h, hx => by
    unfold put
    split
    · rw [List.map_cons, List.nodup_cons]
      refine ⟨fun q => ?_, h⟩
      obtain ⟨y, hy, e⟩ := List.mem_map.1 q
      exact hx y hy e
    · rw [List.map_cons, List.nodup_cons] at h ⊢
      refine ⟨fun q => ?_, nd_put h.2 (fun y hy => hx y (by simp [hy]))⟩
      obtain ⟨y, hy, e⟩ := List.mem_map.1 q
      rcases mem_put.1 hy with rfl | hy
      · exact hx z (by simp) e.symm
      · exact h.1 (List.mem_map.2 ⟨y, hy, e⟩)
theorem nd_cut {M : List En} {id : Nat} (h : (M.map (·.1)).Nodup) : ((cut id M).map (·.1)).Nodup :=
  List.Nodup.sublist (List.Sublist.map _ List.filter_sublist) h
theorem mem_cut {M : List En} {id : Nat} {y : En} : y ∈ cut id M ↔ y ∈ M ∧ y.1 ≠ id := by simp [cut]
theorem len_cut {id : Nat} {k : Ke.K} : ∀ {M : List En}, (M.map (·.1)).Nodup → (id, k) ∈ M → (cut id M).length + 1 = M.length
  | [], _, h => by cases h
  | y :: M, hn, h => by
    by_cases e : y.1 = id
    · rw [← e, cut_head hn]; simp
    · rw [List.map_cons, List.nodup_cons] at hn
      have : cut id (y :: M) = y :: cut id M := by unfold cut; rw [List.filter_cons_of_pos (by simpa using e)]
      rw [this]
      have hm : (id, k) ∈ M := by
        rcases List.mem_cons.1 h with h | h
        · exact absurd (by rw [← h]) e
        · exact h
      have := len_cut hn.2 hm
      simp
      omega
/-- The key of an id. -/
def keyOf (M : List En) (id : Nat) : Option Ke.K := (M.find? (fun y => y.1 == id)).map (·.2)
theorem keyOf_some {M : List En} {id : Nat} {k : Ke.K} (h : (M.map (·.1)).Nodup) : keyOf M id = some k ↔ (id, k) ∈ M := by
  unfold keyOf
  constructor
  · intro q
    cases hf : M.find? (fun y => y.1 == id) with
    | none => rw [hf] at q; cases q
    | some y =>
      rw [hf] at q
      have h1 := List.mem_of_find?_eq_some hf
      have h2 := List.find?_some hf
      simp at q h2
      rw [← q, ← h2]
      exact h1
  · intro q
    cases hf : M.find? (fun y => y.1 == id) with
    | none =>
      have := List.find?_eq_none.1 hf _ q
      simp at this
    | some y =>
      have h1 := List.mem_of_find?_eq_some hf
      have h2 := List.find?_some hf
      simp at h2
      have := nd_uniq h h1 q h2
      rw [this]
      rfl
theorem keyOf_none {M : List En} {id : Nat} : keyOf M id = none ↔ ∀ y ∈ M, y.1 ≠ id := by
  unfold keyOf
  rw [Option.map_eq_none_iff, List.find?_eq_none]
  simp
end Go.Proofs.Ytlfejgjhamcahaa
