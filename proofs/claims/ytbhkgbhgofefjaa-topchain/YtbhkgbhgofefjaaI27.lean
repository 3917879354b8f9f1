/- A graph's memory, whatever the model says of it: a holder, a wait, a line anew. -/
import Derived.Test.YtbhkgbhgofefjaaI26
namespace Go.Proofs.Ytbhkgbhgofefjaa
open Go.RowKit Go.Lib
set_option linter.unusedVariables false
/-- IsG without what the model must keep to. -/
structure IsM (w : World) (base s : Nat) (vt vl : Value) (V : List Value) (T : List Th) (L : List Lk) : Prop where
  blk : w.heap[s]? = some (.cells #[vt, vl] 72 (0, 0))
  lo : base ≤ s
  tho : w.ownsRow base 75 4 vt T.length (tcells T)
  lko : w.ownsRow base 68 2 vl L.length (lcells ((L.map (·.h)).zip V))
  vs : V.length = L.length
  lin : ∀ (j : Nat) y v, L[j]? = some y → V[j]? = some v → w.ownsRow base 3 1 v y.l.length (ints y.l)
  apart : ∀ (i j : Nat) u v k, V[i]? = some u → V[j]? = some v → u.ownBlock = some k → v.ownBlock = some k → i = j
  bs : base ≤ w.heap.size
section
variable {w w' : World} {base s : Nat} {vt vl : Value} {V : List Value} {T : List Th} {L : List Lk}
theorem IsG.m (h : IsG w base s vt vl V T L) : IsM w base s vt vl V T L := ⟨h.blk, h.lo, h.tho, h.lko, h.vs, h.lin, h.apart, h.bs⟩
theorem IsM.g (h : IsM w base s vt vl V T L) (f : Fine T L) : IsG w base s vt vl V T L := ⟨h.blk, h.lo, h.tho, h.lko, h.vs, h.lin, h.apart, h.bs, f⟩
/-- The rows' blocks, by what they hold. -/
theorem IsM.tb (h : IsM w base s vt vl V T L) {k : Nat} (hk : vt.ownBlock = some k) : ∃ c, w.heap[k]? = some (.cells c 75 (0, 0)) := (ownsRow_blk h.tho hk).2.2
theorem IsM.lb (h : IsM w base s vt vl V T L) {k : Nat} (hk : vl.ownBlock = some k) : ∃ c, w.heap[k]? = some (.cells c 68 (0, 0)) := (ownsRow_blk h.lko hk).2.2
theorem IsM.vb (h : IsM w base s vt vl V T L) {v : Value} (hv : v ∈ V) {k : Nat} (hk : v.ownBlock = some k) : ∃ c, w.heap[k]? = some (.cells c 3 (0, 0)) := by
  obtain ⟨j, hj⟩ := List.mem_iff_getElem?.1 hv
  have hjl := (List.getElem?_eq_some_iff.1 hj).1
  rw [h.vs] at hjl
  exact (ownsRow_blk (h.lin j _ v (List.getElem?_eq_getElem hjl) hj) hk).2.2
theorem IsM.lt (h : IsM w base s vt vl V T L) {k : Nat} (hk : own s vt vl V k) : k < w.heap.size := by
  rcases hk with rfl | q | q | ⟨v, hv, q⟩
  · exact (Array.getElem?_eq_some_iff.1 h.blk).1
  · obtain ⟨c, e⟩ := h.tb q; exact (Array.getElem?_eq_some_iff.1 e).1
  · obtain ⟨c, e⟩ := h.lb q; exact (Array.getElem?_eq_some_iff.1 e).1
  · obtain ⟨c, e⟩ := h.vb hv q; exact (Array.getElem?_eq_some_iff.1 e).1
theorem IsM.kept (h : IsM w base s vt vl V T L) (h0 : w.heap.size ≤ w'.heap.size) (h1 : ∀ k, own s vt vl V k → w'.heap[k]? = w.heap[k]?) : IsM w' base s vt vl V T L :=
  ⟨(h1 s (.inl rfl)).trans h.blk, h.lo, ownsRow_far h.tho (fun k hk => h1 k (.inr (.inl hk))), ownsRow_far h.lko (fun k hk => h1 k (.inr (.inr (.inl hk)))), h.vs,
    fun j y v hy hv => ownsRow_far (h.lin j y v hy hv) (fun k hk => h1 k (.inr (.inr (.inr ⟨v, List.mem_of_getElem? hv, hk⟩)))), h.apart, Nat.le_trans h.bs h0⟩
theorem IsM.below (h : IsM w base s vt vl V T L) (hf : Below w.heap.size w w') : IsM w' base s vt vl V T L := h.kept hf.size (fun k hk => hf.block k (h.lt hk))
/-- A holder anew. -/
theorem IsM.hold {g cap : Nat} (h : IsM w base s vt (.slice (some ⟨g, 0, none⟩) L.length cap) V T L) {m : Nat} {y : Lk} (hy : L[m]? = some y) (a : Int) :
    IsM (w.setCell ⟨g, m * 2, none⟩ (.int .i64 a)) base s vt (.slice (some ⟨g, 0, none⟩) L.length cap) V T (L.set m ⟨a, y.l⟩) := by
  have hm := (List.getElem?_eq_some_iff.1 hy).1
  obtain ⟨v, hv⟩ : ∃ v, V[m]? = some v := ⟨_, List.getElem?_eq_getElem (by rw [h.vs]; exact hm)⟩
  obtain ⟨c, hc⟩ := h.lb (k := g) rfl
  have hz : ((L.map (·.h)).zip V)[m]? = some (y.h, v) := by rw [List.getElem?_zip_eq_some]; simp [hy, hv]
  have e : ((L.set m ⟨a, y.l⟩).map (·.h)).zip V = ((L.map (·.h)).zip V).set m (a, v) := by rw [List.map_set]; exact zip_set _ _ _ _ _ hv
  refine ⟨?_, h.lo, ownsRow_far h.tho ?_, ?_, by simpa using h.vs, ?_, h.apart, by simpa using h.bs⟩
  · rw [Below.heap_setCell _ _ _ _ (fun q => by have q' : s = g := q; rw [← q', h.blk] at hc; simp at hc)]
    exact h.blk
  · intro k hk
    obtain ⟨c', hc'⟩ := h.tb hk
    exact Below.heap_setCell _ _ _ _ (fun q => by rw [q, hc] at hc'; simp at hc')
  · rw [e, lcells_hold _ m (y.h, v) a hz, List.length_set]
    exact ownsRow_set h.lko (m * 2) (by omega) _
  · intro j x u hx hu
    have hx' : ∃ x', L[j]? = some x' ∧ x'.l = x.l := by
      rcases getSet hx with ⟨rfl, rfl⟩ | ⟨_, q⟩
      · exact ⟨y, hy, rfl⟩
      · exact ⟨x, q, rfl⟩
    obtain ⟨x', e1, e2⟩ := hx'
    rw [← e2]
    refine ownsRow_far (h.lin j x' u e1 hu) ?_
    intro k hk
    obtain ⟨c', hc'⟩ := h.vb (List.mem_of_getElem? hu) hk
    exact Below.heap_setCell _ _ _ _ (fun q => by rw [q, hc] at hc'; simp at hc')
theorem tcells_waits : ∀ (T : List Th) (i : Nat) (x : Th) (u : Int), T[i]? = some x → tcells (T.set i ⟨x.k, u⟩) = (tcells T).set (i * 4 + 3) (.int .i64 u)
  | [], i, x, u, h => by simp at h
  | y :: T, 0, x, u, h => by
    simp at h
    subst h
    simp [tcells_cons, tone]
  | y :: T, i + 1, x, u, h => by
    have := tcells_waits T i x u (by simpa using h)
    rw [List.set_cons_succ, tcells_cons, this, tcells_cons, show (i + 1) * 4 + 3 = (i * 4 + 3) + 4 by omega]
    rfl
/-- What a thread waits for anew. -/
theorem IsM.waits {g cap : Nat} (h : IsM w base s (.slice (some ⟨g, 0, none⟩) T.length cap) vl V T L) {i : Nat} {x : Th} (hx : T[i]? = some x) (u : Int) :
    IsM (w.setCell ⟨g, i * 4 + 3, none⟩ (.int .i64 u)) base s (.slice (some ⟨g, 0, none⟩) T.length cap) vl V (T.set i ⟨x.k, u⟩) L := by
  have hi := (List.getElem?_eq_some_iff.1 hx).1
  obtain ⟨c, hc⟩ := h.tb (k := g) rfl
  refine ⟨?_, h.lo, ?_, ownsRow_far h.lko ?_, h.vs, ?_, h.apart, by simpa using h.bs⟩
  · rw [Below.heap_setCell _ _ _ _ (fun q => by have q' : s = g := q; rw [← q', h.blk] at hc; simp at hc)]
    exact h.blk
  · rw [tcells_waits T i x u hx, List.length_set]
    exact ownsRow_set h.tho (i * 4 + 3) (by omega) _
  · intro k hk
    obtain ⟨c', hc'⟩ := h.lb hk
    exact Below.heap_setCell _ _ _ _ (fun q => by rw [q, hc] at hc'; simp at hc')
  · intro j y v hy hv
    refine ownsRow_far (h.lin j y v hy hv) (fun k hk => ?_)
    obtain ⟨c', hc'⟩ := h.vb (List.mem_of_getElem? hv) hk
    exact Below.heap_setCell _ _ _ _ (fun q => by rw [q, hc] at hc'; simp at hc')
theorem lcells_line : ∀ (Z : List (Int × Value)) (i : Nat) (z : Int × Value) (v : Value), Z[i]? = some z → lcells (Z.set i (z.1, v)) = (lcells Z).set (i * 2 + 1) v
  | [], i, z, a, h => by simp at h
  | y :: Z, 0, z, a, h => by
    simp at h
    subst h
    simp [lcells_cons]
  | y :: Z, i + 1, z, a, h => by
    have := lcells_line Z i z a (by simpa using h)
    rw [List.set_cons_succ, lcells_cons, this, lcells_cons, show (i + 1) * 2 + 1 = (i * 2 + 1) + 2 by omega]
    rfl
theorem zip_set2 {α β : Type} : ∀ (A : List α) (B : List β) (i : Nat) (a : α) (b : β), A[i]? = some a → A.zip (B.set i b) = (A.zip B).set i (a, b)
  | [], B, i, a, b, h => by simp
  | x :: A, [], i, a, b, h => by simp
  | x :: A, y :: B, 0, a, b, h => by
    simp at h
    subst h
    simp
  | x :: A, y :: B, i + 1, a, b, h => by
    have := zip_set2 A B i a b (by simpa using h)
    simp [this]
/-- A line anew: its row stands in w' already; its slice is laid among the locks. -/
theorem IsM.lined {g cap : Nat} (h : IsM w base s vt (.slice (some ⟨g, 0, none⟩) L.length cap) V T L) {m : Nat} {y : Lk} {v v' : Value} (hy : L[m]? = some y) (hv : V[m]? = some v) {l' : List Nat}
    (hsz : w.heap.size ≤ w'.heap.size) (hk : ∀ k, k < w.heap.size → v.ownBlock ≠ some k → w'.heap[k]? = w.heap[k]?) (hown : w'.ownsRow base 3 1 v' l'.length (ints l')) (hat : ∀ k, v'.ownBlock = some k → v.ownBlock = some k ∨ w.heap.size ≤ k) :
    IsM (w'.setCell ⟨g, m * 2 + 1, none⟩ v') base s vt (.slice (some ⟨g, 0, none⟩) L.length cap) (V.set m v') T (L.set m ⟨y.h, l'⟩) := by
  have hm := (List.getElem?_eq_some_iff.1 hy).1
  have hvm := (List.getElem?_eq_some_iff.1 hv).1
  obtain ⟨c, hc⟩ := h.lb (k := g) rfl
  have hgv : v.ownBlock ≠ some g := fun q => by obtain ⟨c', hc'⟩ := h.vb (List.mem_of_getElem? hv) q; rw [hc] at hc'; simp at hc'
  have hc2 : w'.heap[g]? = some (.cells c 68 (0, 0)) := (hk g (Array.getElem?_eq_some_iff.1 hc).1 hgv).trans hc
  have hfar : ∀ k, own s vt (.slice (some ⟨g, 0, none⟩) L.length cap) V k → v.ownBlock ≠ some k → k ≠ g → (w'.setCell ⟨g, m * 2 + 1, none⟩ v').heap[k]? = w.heap[k]? := fun k ho hn hkg => (Below.heap_setCell _ _ _ _ hkg).trans (hk k (h.lt ho) hn)
  have hz : ((L.map (·.h)).zip V)[m]? = some (y.h, v) := by rw [List.getElem?_zip_eq_some]; simp [hy, hv]
  have e : ((L.set m ⟨y.h, l'⟩).map (·.h)).zip (V.set m v') = ((L.map (·.h)).zip V).set m (y.h, v') := by
    have e0 : (L.set m ⟨y.h, l'⟩).map (·.h) = L.map (·.h) := by
      rw [List.map_set]
      apply List.ext_getElem?
      intro k
      rw [List.getElem?_set]
      by_cases q : m = k
      · subst q
        have hg := (List.getElem?_eq_some_iff.1 hy).2
        simp [hm, ← hg]
      · simp [q]
    rw [e0]
    exact zip_set2 _ _ _ _ _ (by simp [hy])
  refine ⟨?_, h.lo, ownsRow_far h.tho ?_, ?_, by simpa using h.vs, ?_, ?_, by simpa using Nat.le_trans h.bs hsz⟩
  · refine (hfar s (.inl rfl) (fun q => ?_) (fun q => ?_)).trans h.blk
    · obtain ⟨c', hc'⟩ := h.vb (List.mem_of_getElem? hv) q; rw [h.blk] at hc'; simp at hc'
    · rw [← q, h.blk] at hc; simp at hc
  · intro k hkk
    obtain ⟨c', hc'⟩ := h.tb hkk
    refine hfar k (.inr (.inl hkk)) (fun q => ?_) (fun q => ?_)
    · obtain ⟨c2, hc2⟩ := h.vb (List.mem_of_getElem? hv) q; rw [hc'] at hc2; simp at hc2
    · rw [q, hc] at hc'; simp at hc'
  · rw [e, lcells_line _ m (y.h, v) v' hz, List.length_set]
    exact ownsRow_set (ownsRow_far h.lko (fun k hkk => by simp [Value.ownBlock] at hkk; subst hkk; exact hk g (Array.getElem?_eq_some_iff.1 hc).1 hgv)) (m * 2 + 1) (by omega) _
  · intro j z u hz' hu
    have hne : ∀ k, u.ownBlock = some k → w'.heap[k]? = w.heap[k]? ∨ u = v' → k ≠ g := by
      intro k hku hor q
      subst q
      rcases getSet hu with ⟨rfl, rfl⟩ | ⟨_, q2⟩
      · obtain ⟨_, _, c', hc'⟩ := ownsRow_blk hown hku
        rw [hc2] at hc'; simp at hc'
      · obtain ⟨c', hc'⟩ := h.vb (List.mem_of_getElem? q2) hku
        rw [hc] at hc'; simp at hc'
    rcases getSet hz' with ⟨rfl, rfl⟩ | ⟨q1, hz2⟩
    · rcases getSet hu with ⟨_, rfl⟩ | ⟨q2, _⟩
      · refine ownsRow_far hown (fun k hkk => Below.heap_setCell _ _ _ _ (hne k hkk (.inr rfl)))
      · exact absurd rfl q2
    · rcases getSet hu with ⟨q2, _⟩ | ⟨q2, hu2⟩
      · exact absurd q2 q1
      · refine ownsRow_far (h.lin j z u hz2 hu2) (fun k hkk => ?_)
        have hvk : v.ownBlock ≠ some k := fun q => q1 (h.apart m j v u k hv hu2 q hkk)
        have e1 := hk k (h.lt (.inr (.inr (.inr ⟨u, List.mem_of_getElem? hu2, hkk⟩)))) hvk
        exact (Below.heap_setCell _ _ _ _ (hne k hkk (.inl e1))).trans e1
  · intro i j u1 u2 k h1 h2 hk1 hk2
    rcases getSet h1 with ⟨rfl, rfl⟩ | ⟨q1, h1'⟩
    · rcases getSet h2 with ⟨q, _⟩ | ⟨q2, h2'⟩
      · exact q
      · exfalso
        rcases hat k hk1 with q | q
        · exact q2 (h.apart m j v u2 k hv h2' q hk2)
        · have := h.lt (.inr (.inr (.inr ⟨u2, List.mem_of_getElem? h2', hk2⟩)))
          omega
    · rcases getSet h2 with ⟨rfl, rfl⟩ | ⟨q2, h2'⟩
      · exfalso
        rcases hat k hk2 with q | q
        · exact q1 (h.apart m i v u1 k hv h1' q hk1)
        · have := h.lt (.inr (.inr (.inr ⟨u1, List.mem_of_getElem? h1', hk1⟩)))
          omega
      · exact h.apart i j u1 u2 k h1' h2' hk1 hk2
end
end Go.Proofs.Ytbhkgbhgofefjaa
