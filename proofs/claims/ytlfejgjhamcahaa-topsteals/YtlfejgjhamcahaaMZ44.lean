/-
  What topKey leaves: one id alone; its walk.
-/
import Derived.Test.YtlfejgjhamcahaaMZ37
import Derived.Test.YtlfejgjhamcahaaMZ40
import Derived.Test.YtlfejgjhamcahaaMZ43
namespace Go.Proofs.Ytlfejgjhamcahaa
open Go.RowKit Go.Lib
set_option linter.unusedVariables false
attribute [local go_sem ↓] Go.wp_at_zero Go.wp_at_succ

section
variable {w : World} {D : Nat → Prop} {base rb n np q : Nat} {G : List (List En)}
theorem RD.at (h : RD w D base rb n np q G) {i : Nat} {M : List En} (hi : G[i]? = some M) : (M.map (·.1)).Nodup ∧ ∀ y ∈ M, y.1 < n := by
  obtain ⟨v, X, hD, rfl, hO⟩ := h
  simp only [Ms, List.getElem?_map] at hi
  cases hx : X[i]? with
  | none => rw [hx] at hi; cases hi
  | some x =>
    rw [hx] at hi
    injection hi with hi
    subst hi
    obtain ⟨u, hu⟩ := hD.it i x hx
    exact ⟨hu.nd, hu.rng⟩
theorem RD.facts (h : RD w D base rb n np q G) : (1 ≤ n ∧ n ≤ 1024) ∧ (1 ≤ np ∧ np ≤ 64) ∧ G.length = np + 1 := by
  obtain ⟨v, X, hD, rfl, hO⟩ := h
  exact ⟨hD.n1, hD.np1, by rw [Ms_len]; exact hD.len⟩
end
theorem gh_of {G : List (List En)} {i : Nat} {M : List En} (h : G[i]? = some M) : (gh G)[i]? = some ⟨0, 0, 0, 0, 0, 0, M⟩ := by unfold gh; rw [List.getElem?_map, h]; rfl
/-- While all but one id are taken away. -/
structure TkI (G : List (List En)) (at' : Nat) (y : En) (i j : Nat) (l : List Int) (G2 : List (List En)) : Prop where
  len : G2.length = G.length
  sub : ∀ (k : Nat) (M2 : List En), G2[k]? = some M2 → ∃ M, G[k]? = some M ∧ ∀ z ∈ M2, z ∈ M
  keep : ∃ M2, G2[at']? = some M2 ∧ y ∈ M2
  done : ∀ (k : Nat) (M2 : List En), k < i → G2[k]? = some M2 → ∀ z ∈ M2, z.1 = y.1
  cur : ∀ M2, G2[i]? = some M2 → ∀ z ∈ M2, z.1 = y.1 ∨ (z.1 : Int) ∈ l.drop j
theorem Un_sub {G G2 : List (List En)} (hu : Un (gh G)) (hs : ∀ (k : Nat) (M2 : List En), G2[k]? = some M2 → ∃ M, G[k]? = some M ∧ ∀ z ∈ M2, z ∈ M) : Un (gh G2) := by
  intro a b s t id ha hb h1 h2
  obtain ⟨Ma, q1, q2⟩ := hs a s.M (gh_at ha)
  obtain ⟨Mb, q3, q4⟩ := hs b t.M (gh_at hb)
  rw [has_iff] at h1 h2
  obtain ⟨z1, r1, e1⟩ := h1
  obtain ⟨z2, r2, e2⟩ := h2
  exact hu a b _ _ id (gh_of q1) (gh_of q3) (by rw [has_iff]; exact ⟨z1, q2 z1 r1, e1⟩) (by rw [has_iff]; exact ⟨z2, q4 z2 r2, e2⟩)
section
variable {G G2 : List (List En)} {at' i j : Nat} {y : En} {l : List Int}
theorem TkI.start (h : ∃ M, G[at']? = some M ∧ y ∈ M) : TkI G at' y 0 0 (lst (gh G) ((0 : Nat) : Int)) G :=
  ⟨rfl, fun k M2 hk => ⟨M2, hk, fun z hz => hz⟩, h, fun k M2 hk => by omega, fun M2 hM z hz => .inr (by
    rw [lst_at, hM]
    exact List.mem_map.2 ⟨z, hz, rfl⟩)⟩
theorem TkI.next (h : TkI G at' y i j l G2) (hj : l.length ≤ j) : TkI G at' y (i + 1) 0 (lst (gh G2) ((i + 1 : Nat) : Int)) G2 := by
  refine ⟨h.len, h.sub, h.keep, fun k M2 hk hM z hz => ?_, fun M2 hM z hz => .inr ?_⟩
  · rcases Nat.lt_or_ge k i with q | q
    · exact h.done k M2 q hM z hz
    · have : k = i := by omega
      subst this
      rcases h.cur M2 hM z hz with e | e
      · exact e
      · rw [List.drop_eq_nil_of_le hj] at e
        cases e
  · rw [lst_at, hM]
    exact List.mem_map.2 ⟨z, hz, rfl⟩
theorem TkI.pass (h : TkI G at' y i j l G2) {e : Int} (he : l[j]? = some e) (hy : e = (y.1 : Int)) : TkI G at' y i (j + 1) l G2 :=
  ⟨h.len, h.sub, h.keep, h.done, fun M2 hM z hz => by
    rcases h.cur M2 hM z hz with q | q
    · exact .inl q
    · rw [List.drop_eq_getElem?_toList_append, he] at q
      simp only [Option.toList_some, List.singleton_append, List.mem_cons] at q
      rcases q with q | q
      · exact .inl (by omega)
      · exact .inr q⟩
theorem TkI.took (h : TkI G at' y i j l G2) (hu : Un (gh G)) (n : Nat) (hr : ∀ (k : Nat) (M2 : List En), G2[k]? = some M2 → ∀ z ∈ M2, z.1 < n) {e : Nat} (he : l[j]? = some (e : Int)) (hy : e ≠ y.1) : TkI G at' y i (j + 1) l (premG n (gh G2) (e : Int)) := by
  have hu2 := Un_sub hu h.sub
  have hcur : ∀ M2, G2[i]? = some M2 → ∀ z ∈ M2, z.1 = e ∨ z.1 = y.1 ∨ (z.1 : Int) ∈ l.drop (j + 1) := fun M2 hM z hz => by
    rcases h.cur M2 hM z hz with q | q
    · exact .inr (.inl q)
    · rw [List.drop_eq_getElem?_toList_append, he] at q
      simp only [Option.toList_some, List.singleton_append, List.mem_cons] at q
      rcases q with q | q
      · exact .inl (by omega)
      · exact .inr (.inr q)
  cases hw : whereF n (gh G2) 0 (e : Int) with
  | none =>
    have hne : premC n (gh G2) (e : Int) ≠ 0 := by
      unfold premC
      rw [hw]
      split
      · decide
      · simp
    have hg : premG n (gh G2) (e : Int) = G2 := by unfold premG; rw [if_neg hne, Ms_gh]
    rw [hg]
    refine ⟨h.len, h.sub, h.keep, h.done, fun M2 hM z hz => ?_⟩
    rcases hcur M2 hM z hz with q | q
    · have hk := whereF_no hw (by rw [← q]; exact hr i M2 hM z hz) (gh_of hM)
      exact absurd q (keyOf_none.1 hk z hz)
    · exact q
  | some c =>
    obtain ⟨k, x, hx, hc, h1, h2, h3⟩ := whereF_inv n _ (gh G2) 0 c hw
    have e0 : premC n (gh G2) (e : Int) = 0 := by unfold premC; rw [hw, if_neg (by omega)]; rfl
    have ha : aOf n (gh G2) (e : Int) = k := by unfold aOf; rw [hw]; simp only [Option.getD_some]; omega
    have hg : premG n (gh G2) (e : Int) = G2.set k (cut e x.M) := by unfold premG; rw [if_pos e0, ha, Ms_gh, MM_at hx]; rfl
    rw [hg]
    have hGk := gh_at hx
    have hkl : k < G2.length := (List.getElem?_eq_some_iff.1 hGk).1
    have key : ∀ (a : Nat) (M2 : List En), (G2.set k (cut e x.M))[a]? = some M2 → ∃ M3, G2[a]? = some M3 ∧ (∀ z ∈ M2, z ∈ M3) ∧ (a = k → ∀ z ∈ M2, z.1 ≠ e) ∧ (∀ z ∈ M3, z.1 ≠ e → z ∈ M2) := fun a M2 hM => by
      rcases Nat.decEq a k with q | q
      · rw [List.getElem?_set_ne (fun e => q e.symm)] at hM
        exact ⟨M2, hM, fun z hz => hz, fun e => absurd e q, fun z hz _ => hz⟩
      · subst q
        rw [List.getElem?_set_self hkl] at hM
        injection hM with hM
        subst hM
        exact ⟨x.M, hGk, fun z hz => (mem_cut.1 hz).1, fun _ z hz => (mem_cut.1 hz).2, fun z hz hn => mem_cut.2 ⟨hz, hn⟩⟩
    refine ⟨by rw [List.length_set]; exact h.len, fun a M2 hM => ?_, ?_, fun a M2 hlt hM z hz => ?_, fun M2 hM z hz => ?_⟩
    · obtain ⟨M3, q1, q2, _⟩ := key a M2 hM
      obtain ⟨M, q3, q4⟩ := h.sub a M3 q1
      exact ⟨M, q3, fun z hz => q4 z (q2 z hz)⟩
    · obtain ⟨M3, q1, q2⟩ := h.keep
      have hal : at' < (G2.set k (cut e x.M)).length := by rw [List.length_set]; exact (List.getElem?_eq_some_iff.1 q1).1
      have hM : (G2.set k (cut e x.M))[at']? = some ((G2.set k (cut e x.M))[at']'hal) := List.getElem?_eq_getElem _
      obtain ⟨M4, r1, _, _, r4⟩ := key at' _ hM
      rw [q1] at r1
      injection r1 with r1
      subst r1
      exact ⟨_, hM, r4 y q2 (fun e => hy e.symm)⟩
    · obtain ⟨M3, q1, q2, _⟩ := key a M2 hM
      exact h.done a M3 hlt q1 z (q2 z hz)
    · obtain ⟨M3, q1, q2, q3, _⟩ := key i M2 hM
      rcases hcur M3 q1 z (q2 z hz) with q | q
      · exfalso
        have hik : i = k := by
          have := whereF_some n (gh G2) hu2 i _ (gh_of q1) e (by omega) (by rw [has_iff]; exact ⟨z, q2 z hz, q⟩)
          rw [hw] at this
          injection this with this
          omega
        exact q3 hik z hz q
      · exact q
/-- All that is left is the one id: it is best. -/
theorem TkI.last (h : TkI G at' y i j l G2) (hu : Un (gh G)) (hnd : ∀ (k : Nat) (M : List En), G[k]? = some M → (M.map (·.1)).Nodup) {np : Nat} (hnp : 1 ≤ np) (hl : G.length = np + 1) (hi : np + 1 ≤ i) : bK (gh G2) (bb np (gh G2) 0 0) = y.2 := by
  obtain ⟨M2, q1, q2⟩ := h.keep
  obtain ⟨Ma, qa, qs⟩ := h.sub at' M2 q1
  have hya := qs y q2
  cases hM2 : M2 with
  | nil => rw [hM2] at q2; cases q2
  | cons z M3 =>
    rw [hM2] at q1
    have hMM : MM (gh G2) at' = z :: M3 := MM_at (gh_of q1)
    obtain ⟨_, t2⟩ := bst_top (gh G2) (ords np 0 0) none
    have hal : at' ≤ np := by have := (List.getElem?_eq_some_iff.1 qa).1; omega
    obtain ⟨c, e1, _⟩ := t2 at' (ords_mem (by omega) hal) z M3 hMM
    have hbb : bb np (gh G2) 0 0 = some c := by
      unfold bb
      rw [if_pos (by omega)]
      exact e1
    obtain ⟨_, _, x, z', M', hx, hM'⟩ := bb_at hbb
    rw [hbb]
    show tkK (MM (gh G2) c) = y.2
    have hGc := gh_at hx
    rw [MM_at hx, hM']
    show z'.2 = y.2
    have hcl : c < G2.length := (List.getElem?_eq_some_iff.1 hGc).1
    have hz' : z' ∈ x.M := by rw [hM']; simp
    have hid := h.done c x.M (by have := h.len; omega) hGc z' hz'
    obtain ⟨Mc, r1, r2⟩ := h.sub c x.M hGc
    have hca : c = at' := hu c at' _ _ y.1 (gh_of r1) (gh_of qa) (by rw [has_iff]; exact ⟨z', r2 z' hz', hid⟩) (by rw [has_iff]; exact ⟨y, hya, rfl⟩)
    subst hca
    rw [qa] at r1
    injection r1 with r1
    subst r1
    exact congrArg (·.2) (nd_uniq (hnd c Ma qa) (r2 z' hz') hya hid)
end
end Go.Proofs.Ytlfejgjhamcahaa
