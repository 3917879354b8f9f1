/- The document's graph: its memory, whatever the model says; Key, Base. -/
import Derived.Test.YtbhkgbhgofefjaaR4
namespace Go.Proofs.Ytbhkgbhgofefjaa
open Go.RowKit
set_option linter.unusedVariables false
/-- IsR without what the model must keep to. -/
structure IsQ (w : World) (base s : Nat) (vb vo vw : Value) (V : List Value) (T : List Th) (L : List Lk) : Prop where
  blk : w.heap[s]? = some (.cells #[vb, vo, vw] 79 (0, 0))
  lo : base ≤ s
  bo : w.ownsRow base 36 3 vb T.length (kcells T)
  oo : w.ownsRow base 3 1 vo L.length (hcells L)
  wo : w.ownsRow base 31 1 vw L.length V
  lin : ∀ (j : Nat) y v, L[j]? = some y → V[j]? = some v → w.ownsRow base 3 1 v y.l.length (ints y.l)
  apart : ∀ v ∈ V, ∀ k, v.ownBlock = some k → vo.ownBlock ≠ some k
  bs : base ≤ w.heap.size
section
variable {w w' : World} {base s : Nat} {vb vo vw : Value} {V : List Value} {T : List Th} {L : List Lk}
theorem IsR.q (h : IsR w base s vb vo vw V T L) : IsQ w base s vb vo vw V T L := ⟨h.blk, h.lo, h.bo, h.oo, h.wo, h.lin, h.apart, h.bs⟩
theorem IsQ.r (h : IsQ w base s vb vo vw V T L) (f : Fine T L) : IsR w base s vb vo vw V T L := ⟨h.blk, h.lo, h.bo, h.oo, h.wo, h.lin, h.apart, h.bs, f⟩
theorem IsQ.vs (h : IsQ w base s vb vo vw V T L) : V.length = L.length := by have := h.wo.1; omega
theorem IsQ.lb (h : IsQ w base s vb vo vw V T L) {v : Value} (hv : v ∈ V) {k : Nat} (hk : v.ownBlock = some k) : k < w.heap.size ∧ ∃ c, w.heap[k]? = some (.cells c 3 (0, 0)) := by
  obtain ⟨j, hj⟩ := List.mem_iff_getElem?.1 hv
  have hjl := (List.getElem?_eq_some_iff.1 hj).1
  rw [h.vs] at hjl
  exact (ownsRow_blk (h.lin j _ v (List.getElem?_eq_getElem hjl) hj) hk).2
theorem IsQ.lt (h : IsQ w base s vb vo vw V T L) {k : Nat} (hk : ownR s vb vo vw V k) : k < w.heap.size := by
  rcases hk with rfl | q | q | q | ⟨v, hv, q⟩
  · exact (Array.getElem?_eq_some_iff.1 h.blk).1
  · exact (ownsRow_blk h.bo q).2.1
  · exact (ownsRow_blk h.oo q).2.1
  · exact (ownsRow_blk h.wo q).2.1
  · exact (h.lb hv q).1
theorem IsQ.kept (h : IsQ w base s vb vo vw V T L) (h0 : w.heap.size ≤ w'.heap.size) (h1 : ∀ k, ownR s vb vo vw V k → w'.heap[k]? = w.heap[k]?) : IsQ w' base s vb vo vw V T L :=
  ⟨(h1 s (.inl rfl)).trans h.blk, h.lo, ownsRow_far h.bo (fun k hk => h1 k (.inr (.inl hk))), ownsRow_far h.oo (fun k hk => h1 k (.inr (.inr (.inl hk)))), ownsRow_far h.wo (fun k hk => h1 k (.inr (.inr (.inr (.inl hk))))),
    fun j y v hy hv => ownsRow_far (h.lin j y v hy hv) (fun k hk => h1 k (.inr (.inr (.inr (.inr ⟨v, List.mem_of_getElem? hv, hk⟩))))), h.apart, Nat.le_trans h.bs h0⟩
theorem IsQ.below (h : IsQ w base s vb vo vw V T L) (hf : Below w.heap.size w w') : IsQ w' base s vb vo vw V T L := h.kept hf.size (fun k hk => hf.block k (h.lt hk))
/-- The graph's cells. -/
theorem IsQ.sc (h : IsQ w base s vb vo vw V T L) : w.cell? ⟨s, 0, none⟩ = some vb ∧ w.cell? ⟨s, 1, none⟩ = some vo ∧ w.cell? ⟨s, 2, none⟩ = some vw := by
  refine ⟨?_, ?_, ?_⟩ <;> (unfold World.cell?; simp [h.blk])
theorem blk_ne {a b : Nat} {c c' : Array Value} {t t' : TypeId} (h : w.heap[a]? = some (.cells c t (0, 0))) (h' : w.heap[b]? = some (.cells c' t' (0, 0))) (ht : t ≠ t') : a ≠ b := fun e => by
  subst e
  rw [h] at h'
  simp at h'
  exact ht h'.2
theorem IsQ.own {g cap : Nat} (h : IsQ w base s vb (.slice (some ⟨g, 0, none⟩) L.length cap) vw V T L) {m : Nat} {y : Lk} (hy : L[m]? = some y) (a : Int) :
    IsQ (w.setCell ⟨g, m, none⟩ (.int .i64 a)) base s vb (.slice (some ⟨g, 0, none⟩) L.length cap) vw V T (L.set m ⟨a, y.l⟩) := by
  have hm := (List.getElem?_eq_some_iff.1 hy).1
  obtain ⟨_, _, c, hc⟩ := ownsRow_blk h.oo (k := g) rfl
  refine ⟨?_, h.lo, ownsRow_far h.bo ?_, ?_, ?_, ?_, h.apart, by simpa using h.bs⟩
  · exact (Below.heap_setCell _ _ _ _ (blk_ne h.blk hc (by decide))).trans h.blk
  · intro k hk
    obtain ⟨_, _, c', hc'⟩ := ownsRow_blk h.bo hk
    exact Below.heap_setCell _ _ _ _ (blk_ne hc' hc (by decide))
  · have e : hcells (L.set m ⟨a, y.l⟩) = (hcells L).set m (.int .i64 a) := by unfold hcells; rw [List.map_set]
    rw [e, List.length_set]
    exact ownsRow_set h.oo m (by omega) _
  · rw [List.length_set]
    refine ownsRow_far h.wo (fun k hk => ?_)
    obtain ⟨_, _, c', hc'⟩ := ownsRow_blk h.wo hk
    exact Below.heap_setCell _ _ _ _ (blk_ne hc' hc (by decide))
  · intro j x u hx hu
    have hx' : ∃ x', L[j]? = some x' ∧ x'.l = x.l := by
      rcases getSet hx with ⟨rfl, rfl⟩ | ⟨_, q⟩
      · exact ⟨y, hy, rfl⟩
      · exact ⟨x, q, rfl⟩
    obtain ⟨x', e1, e2⟩ := hx'
    rw [← e2]
    refine ownsRow_far (h.lin j x' u e1 hu) (fun k hk => Below.heap_setCell _ _ _ _ (fun e => ?_))
    exact h.apart u (List.mem_of_getElem? hu) k hk (by rw [e]; rfl)
/-- A line anew: a row of its own, fresh. -/
theorem IsQ.lined {g cap : Nat} (h : IsQ w base s vb vo (.slice (some ⟨g, 0, none⟩) L.length cap) V T L) {m : Nat} {y : Lk} {v' : Value} (hy : L[m]? = some y) {l' : List Nat}
    (hb : Below w.heap.size w w') (hown : w'.ownsRow w.heap.size 3 1 v' l'.length (ints l')) :
    IsQ (w'.setCell ⟨g, m, none⟩ v') base s vb vo (.slice (some ⟨g, 0, none⟩) L.length cap) (V.set m v') T (L.set m ⟨y.h, l'⟩) := by
  have hm := (List.getElem?_eq_some_iff.1 hy).1
  have h2 := h.below hb
  obtain ⟨_, hgl, c, hc⟩ := ownsRow_blk h2.wo (k := g) rfl
  have hgl0 := h.lt (k := g) (.inr (.inr (.inr (.inl rfl))))
  have hbs := h.bs
  refine ⟨?_, h.lo, ownsRow_far h2.bo ?_, ?_, ?_, ?_, ?_, by simpa using h2.bs⟩
  · exact (Below.heap_setCell _ _ _ _ (blk_ne h2.blk hc (by decide))).trans h2.blk
  · intro k hk
    obtain ⟨_, _, c', hc'⟩ := ownsRow_blk h2.bo hk
    exact Below.heap_setCell _ _ _ _ (blk_ne hc' hc (by decide))
  · have e : hcells (L.set m ⟨y.h, l'⟩) = hcells L := by
      unfold hcells
      rw [List.map_set]
      apply List.ext_getElem?
      intro k
      rw [List.getElem?_set]
      by_cases q : m = k
      · subst q
        have hg := (List.getElem?_eq_some_iff.1 hy).2
        simp [hm, ← hg]
      · simp [q]
    rw [e, List.length_set]
    refine ownsRow_far h2.oo (fun k hk => ?_)
    obtain ⟨_, _, c', hc'⟩ := ownsRow_blk h2.oo hk
    exact Below.heap_setCell _ _ _ _ (blk_ne hc' hc (by decide))
  · rw [List.length_set]
    exact ownsRow_set h2.wo m (by omega) _
  · intro j z u hz hu
    rcases getSet hz with ⟨rfl, rfl⟩ | ⟨q1, hz2⟩
    · rcases getSet hu with ⟨_, rfl⟩ | ⟨q2, _⟩
      · refine ownsRow_far (ownsRow_lift hown (fun k hk => by have := (ownsRow_blk hown hk).1; omega)) (fun k hk => Below.heap_setCell _ _ _ _ (fun e => ?_))
        have := (ownsRow_blk hown hk).1
        rw [show k = g from e] at this
        omega
      · exact absurd rfl q2
    · rcases getSet hu with ⟨q2, _⟩ | ⟨q2, hu2⟩
      · exact absurd q2 q1
      · refine ownsRow_far (h2.lin j z u hz2 hu2) (fun k hk => ?_)
        obtain ⟨_, c', hc'⟩ := h2.lb (List.mem_of_getElem? hu2) hk
        exact Below.heap_setCell _ _ _ _ (blk_ne hc' hc (by decide))
  · intro v hv k hk
    rcases List.mem_or_eq_of_mem_set hv with q | rfl
    · exact h.apart v q k hk
    · intro e
      have h1 := (ownsRow_blk hown hk).1
      have h2 := h.lt (k := k) (.inr (.inr (.inl e)))
      omega
/-- What a thread waits for is told by the lines alone. -/
theorem IsQ.waits (h : IsQ w base s vb vo vw V T L) {i : Nat} {x : Th} (hx : T[i]? = some x) (u : Int) : IsQ w base s vb vo vw V (T.set i ⟨x.k, u⟩) L :=
  ⟨h.blk, h.lo, by rw [List.length_set, kcells_waits hx]; exact h.bo, h.oo, h.wo, h.lin, h.apart, h.bs⟩
theorem IsQ.based {g cap : Nat} (h : IsQ w base s (.slice (some ⟨g, 0, none⟩) T.length cap) vo vw V T L) {j : Nat} {x : Th} (hx : T[j]? = some x) (k : K) :
    IsQ (((w.setCell ⟨g, j * 3, none⟩ (.bool k.e)).setCell ⟨g, j * 3 + 1, none⟩ (.int .u64 k.d)).setCell ⟨g, j * 3 + 2, none⟩ (.int .u8 k.l)) base s (.slice (some ⟨g, 0, none⟩) T.length cap) vo vw V (T.set j ⟨k, x.u⟩) L := by
  have hj := (List.getElem?_eq_some_iff.1 hx).1
  obtain ⟨_, _, c, hc⟩ := ownsRow_blk h.bo (k := g) rfl
  have hfar : ∀ b, b ≠ g → (((w.setCell ⟨g, j * 3, none⟩ (.bool k.e)).setCell ⟨g, j * 3 + 1, none⟩ (.int .u64 k.d)).setCell ⟨g, j * 3 + 2, none⟩ (.int .u8 k.l)).heap[b]? = w.heap[b]? := fun b hb => by
    rw [Below.heap_setCell _ _ _ _ hb, Below.heap_setCell _ _ _ _ hb, Below.heap_setCell _ _ _ _ hb]
  refine ⟨(hfar s (blk_ne h.blk hc (by decide))).trans h.blk, h.lo, ?_, ownsRow_far h.oo ?_, ownsRow_far h.wo ?_, ?_, h.apart, by simpa using h.bs⟩
  · rw [kcells_set T j _ hj, List.length_set]
    exact ownsRow_set (ownsRow_set (ownsRow_set h.bo (j * 3) (by omega) _) (j * 3 + 1) (by omega) _) (j * 3 + 2) (by omega) _
  · intro b hb
    obtain ⟨_, _, c', hc'⟩ := ownsRow_blk h.oo hb
    exact hfar b (blk_ne hc' hc (by decide))
  · intro b hb
    obtain ⟨_, _, c', hc'⟩ := ownsRow_blk h.wo hb
    exact hfar b (blk_ne hc' hc (by decide))
  · intro i y v hy hv
    refine ownsRow_far (h.lin i y v hy hv) (fun b hb => ?_)
    obtain ⟨_, c', hc'⟩ := h.lb (List.mem_of_getElem? hv) hb
    exact hfar b (blk_ne hc' hc (by decide))
theorem rkey_ok (h : IsR w base s vb vo vw V T L) (t : Int) : Calls Try.prog 35 #[.pointer (some ⟨s, 0, none⟩), .int .i64 t] w fun e w' => e = .returned (.agg #[.bool (keyA T L t).e, .int .u64 (keyA T L t).d, .int .u8 (keyA T L t).l]) ∧ Below w.heap.size w w' := by
  obtain ⟨ab, cb, ao, co, aw, cw, _, _, _, hv⟩ := h.rv
  unfold keyA
  cases ht : inT T t with
  | false => exact rkey_no hv (Nat.le_refl _) t ht
  | true =>
    obtain ⟨k, x, rfl, hk, _⟩ := inT_yes ht
    obtain ⟨B, r, _, hr⟩ := h.f.ac
    exact rmost_ok s ab cb ao co aw cw _ T L h.f.vf r hr (r k + 1) k (by omega) hk w.heap.size w (Nat.le_refl _) hv
end
end Go.Proofs.Ytbhkgbhgofefjaa
