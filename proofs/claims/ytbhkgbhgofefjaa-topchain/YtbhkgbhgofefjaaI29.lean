/- Unlock: the model of who gets a lock; what is read meanwhile. -/
import Derived.Test.YtbhkgbhgofefjaaI28
namespace Go.Proofs.Ytbhkgbhgofefjaa
open Go.RowKit Go.Lib Go.Shelf
set_option linter.unusedVariables false
theorem keyOf_kf {T : List Th} {L : List Lk} (h : Acyc L) (x : Nat) : ∃ N, ∀ n, N ≤ n → keyOf T L x = kf T L n x := by
  obtain ⟨r, hb, hr⟩ := h.choose_spec
  refine ⟨h.choose, fun n hn => ?_⟩
  unfold keyOf
  simp only [h, dite_true]
  exact kf_stays hr h.choose x (hb x) n (by have := hb x; omega)
/-- Another model in which the same ones stand behind all but t, who stands in no line. -/
theorem kf_same {T : List Th} {L L' : List Lk} {t : Nat} (hb : ∀ x, x ≠ t → behind L' x = behind L x) (hl : ∀ y ∈ L, t ∉ y.l) : ∀ (n x : Nat), x ≠ t → kf T L' n x = kf T L n x
  | 0, x, _ => rfl
  | n + 1, x, hx => by
    show (behind L' x).foldl _ _ = (behind L x).foldl _ _
    rw [hb x hx]
    refine foldl_same _ _ (fun y hy b => ?_)
    have hne : y ≠ t := by
      rintro rfl
      obtain ⟨z, hz, hin, _⟩ := mem_behind.1 hy
      exact hl z hz hin
    rw [kf_same hb hl n y hne]
theorem keyOf_same {T : List Th} {L L' : List Lk} {t : Nat} (h : Acyc L) (h' : Acyc L') (hb : ∀ x, x ≠ t → behind L' x = behind L x) (hl : ∀ y ∈ L, t ∉ y.l) {x : Nat} (hx : x ≠ t) : keyOf T L' x = keyOf T L x := by
  obtain ⟨N, hN⟩ := keyOf_kf (T := T) h x
  obtain ⟨M, hM⟩ := keyOf_kf (T := T) h' x
  rw [hN (N + M) (by omega), hM (N + M) (by omega)]
  exact kf_same hb hl _ x hx
theorem behind_set {L : List Lk} {j : Nat} {y : Lk} (hy : L[j]? = some y) (a : Int) {x : Nat} (h1 : y.h ≠ (x : Int)) (h2 : a ≠ (x : Int)) : behind (L.set j ⟨a, y.l⟩) x = behind L x := by
  have hj := (List.getElem?_eq_some_iff.1 hy).1
  have e : L = L.take j ++ y :: L.drop (j + 1) := by
    rw [← (List.getElem?_eq_some_iff.1 hy).2]
    simp
  have e' : L.set j ⟨a, y.l⟩ = L.take j ++ ⟨a, y.l⟩ :: L.drop (j + 1) := by rw [List.set_eq_take_append_cons_drop, if_pos hj]
  rw [e']
  conv => rhs; rw [e]
  rw [behind_append, behind_append]
  simp [behind, h1, h2]
section
variable {w : World} {base s : Nat} {vt vl : Value} {V : List Value} {T : List Th} {L : List Lk}
/-- The lock that is given up, while it is not yet known who gets it. -/
theorem Fine.freed (f : Fine T L) {j t : Nat} {x : Th} {y : Lk} (hx : T[t]? = some x) (hu : x.u = -1) (hy : L[j]? = some y) (ho : y.h = (t : Int)) :
    Vf T (L.set j ⟨-1, y.l⟩) ∧ ∀ z ∈ y.l, keyOf T (L.set j ⟨-1, y.l⟩) z = keyOf T L z := by
  have hno : ∀ z ∈ L, t ∉ z.l := by
    intro z hz q
    obtain ⟨m, hm⟩ := List.mem_iff_getElem?.1 hz
    have := (f.wt t x hx m z hm).1 q
    omega
  have hac : Acyc (L.set j ⟨-1, y.l⟩) := by
    refine f.ac.less ?_
    rintro a b ⟨z, hz, ha, hb⟩
    rcases List.mem_or_eq_of_mem_set hz with q | rfl
    · exact ⟨z, q, ha, hb⟩
    · have : (-1 : Int) = (b : Int) := hb
      omega
  refine ⟨⟨hac, ?_, by simpa using f.l2, f.t2⟩, ?_⟩
  · intro z hz
    rcases List.mem_or_eq_of_mem_set hz with q | rfl
    · exact (f.lk z q).2.2.1
    · exact (f.lk y (List.mem_of_getElem? hy)).2.2.1
  · intro z hz
    refine keyOf_same f.ac hac (fun q hq => behind_set hy (-1) (by omega) (by omega)) hno ?_
    rintro rfl
    exact hno y (List.mem_of_getElem? hy) hz
theorem IsM.vw (h : IsM w base s vt vl V T L) (ht : 1 ≤ T.length) : ∃ gt ct a cap, vt = .slice (some ⟨gt, 0, none⟩) T.length ct ∧ vl = .slice a L.length cap ∧ Vw w.heap.size w s gt ct a cap (lineAt V) T L := by
  obtain ⟨gt, ct, e, c0, c1, _, hce⟩ := h.form ht
  obtain ⟨a, cap, e', l1, l2⟩ := form_of h.lko
  have hb := form_of h.tho
  obtain ⟨_, _, et, t1, t2⟩ := hb
  rw [e] at et
  simp at et
  obtain ⟨_, rfl⟩ := et
  refine ⟨gt, ct, a, cap, e, e', h.lt (.inl rfl), h.lt (.inr (.inl (by rw [e]; rfl))), fun g eg => h.lt (.inr (.inr (.inl (by rw [e', eg]; rfl)))), ⟨by rw [c0, e], ⟨t1, t2⟩, hce⟩, by rw [c1, e'], ⟨l1, l2⟩, fun j y hy => ?_⟩
  have hj := (List.getElem?_eq_some_iff.1 hy).1
  obtain ⟨v, hv⟩ : ∃ v, V[j]? = some v := ⟨_, List.getElem?_eq_getElem (by rw [h.vs]; exact hj)⟩
  have hown := h.lin j y v hy hv
  obtain ⟨va, vc, rfl, m1, m2⟩ := form_of hown
  have el : lineAt V j = (va, vc) := by unfold lineAt; rw [hv]
  rw [el]
  have hz : ((L.map (·.h)).zip V)[j]? = some (y.h, .slice va y.l.length vc) := by rw [List.getElem?_zip_eq_some]; simp [hy, hv]
  have hlc := lcells_at _ j _ hz
  have hlko := h.lko
  rcases h.lko.2 with ⟨_, e0⟩ | ⟨g, cap', cur, e3, _⟩
  · omega
  · rw [e'] at e3
    simp at e3
    obtain ⟨rfl, rfl⟩ := e3
    rw [e'] at hlko
    refine ⟨g, rfl, ?_, ?_, m1, m2, fun i x hi => ?_⟩
    · rw [hlko.cellAt (j * 2) (by omega)]
      exact hlc.1
    · rw [hlko.cellAt (j * 2 + 1) (by omega)]
      exact hlc.2
    · have hil := (List.getElem?_eq_some_iff.1 hi).1
      rcases hown.2 with ⟨_, e0⟩ | ⟨gg, vc', cur', e4, _, hgg, _⟩
      · omega
      · simp at e4
        obtain ⟨rfl, rfl⟩ := e4
        refine ⟨gg, rfl, (Array.getElem?_eq_some_iff.1 hgg).1, ?_⟩
        rw [hown.cellAt i (by omega)]
        simp [ints, hi]
end
/-- The place of the first of the most urgent ones. -/
theorem foreTo_some (g : Nat → K) (l : List Nat) : ∀ n, n ≤ l.length → 0 < n → ∃ p : Nat, p < n ∧ (foreTo g l n).1 = (p : Int) ∧ (foreTo g l n).2 = g (l[p]?.getD 0)
  | 0, _, h => by omega
  | n + 1, hn, _ => by
    rw [foreTo]
    by_cases hc : (foreTo g l n).1 = -1 ∨ up (g (l[n]?.getD 0)) (foreTo g l n).2 = true
    · rw [if_pos hc]
      exact ⟨n, by omega, rfl, rfl⟩
    · rw [if_neg hc]
      cases n with
      | zero => exact absurd (.inl rfl) hc
      | succ n =>
        obtain ⟨p, hp, e⟩ := foreTo_some g l (n + 1) (by omega) (by omega)
        exact ⟨p, by omega, e⟩
theorem foreTo_congr {g g' : Nat → K} {l : List Nat} (h : ∀ x ∈ l, g x = g' x) : ∀ n, n ≤ l.length → foreTo g l n = foreTo g' l n
  | 0, _ => rfl
  | n + 1, hn => by
    have e : g (l[n]?.getD 0) = g' (l[n]?.getD 0) := by
      rw [List.getElem?_eq_getElem (by omega), Option.getD_some]
      exact h _ (List.getElem_mem _)
    rw [foreTo, foreTo, foreTo_congr h n (by omega), e]
end Go.Proofs.Ytbhkgbhgofefjaa
