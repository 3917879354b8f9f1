/- The document's graph: how it lies in memory; Owner, there, Waits. -/
import Derived.Test.YtbhkgbhgofefjaaI35
namespace Go.Proofs.Ytbhkgbhgofefjaa
open Go.RowKit Go.Lib
set_option linter.unusedVariables false
def kone (x : Th) : List Value := [.bool x.k.e, .int .u64 x.k.d, .int .u8 x.k.l]
def kcells (T : List Th) : List Value := T.flatMap kone
theorem kcells_cons (x : Th) (T : List Th) : kcells (x :: T) = kone x ++ kcells T := rfl
theorem kcells_length : ∀ T, (kcells T).length = T.length * 3
  | [] => rfl
  | x :: T => by rw [kcells_cons]; simp [kone, kcells_length T]; omega
theorem kcells_at : ∀ (T : List Th) (i : Nat) (x : Th), T[i]? = some x → (kcells T)[i * 3]? = some (.bool x.k.e) ∧ (kcells T)[i * 3 + 1]? = some (.int .u64 x.k.d) ∧ (kcells T)[i * 3 + 2]? = some (.int .u8 x.k.l)
  | [], i, x, h => by simp at h
  | y :: T, 0, x, h => by
    simp at h
    subst h
    exact ⟨rfl, rfl, rfl⟩
  | y :: T, i + 1, x, h => by
    have := kcells_at T i x (by simpa using h)
    rw [kcells_cons, show (i + 1) * 3 = i * 3 + 3 by omega]
    exact this
theorem kcells_set : ∀ (T : List Th) (i : Nat) (x : Th), i < T.length → kcells (T.set i x) = (((kcells T).set (i * 3) (.bool x.k.e)).set (i * 3 + 1) (.int .u64 x.k.d)).set (i * 3 + 2) (.int .u8 x.k.l)
  | [], i, x, h => by simp at h
  | y :: T, 0, x, h => by simp [kcells_cons, kone]
  | y :: T, i + 1, x, h => by
    have := kcells_set T i x (by simpa using h)
    rw [List.set_cons_succ, kcells_cons, this, kcells_cons, show (i + 1) * 3 = i * 3 + 3 by omega]
    rfl
theorem kcells_waits {T : List Th} {i : Nat} {x : Th} (hx : T[i]? = some x) (u : Int) : kcells (T.set i ⟨x.k, u⟩) = kcells T := by
  have hi := (List.getElem?_eq_some_iff.1 hx).1
  obtain ⟨a0, a1, a2⟩ := kcells_at T i x hx
  rw [kcells_set T i _ hi]
  have hs : ∀ (l : List Value) (j : Nat) (v : Value), l[j]? = some v → l.set j v = l := by
    intro l j v h
    apply List.ext_getElem?
    intro k
    rw [List.getElem?_set]
    by_cases q : j = k
    · subst q
      have hj := (List.getElem?_eq_some_iff.1 h).1
      rw [if_pos rfl, if_pos hj, h]
    · rw [if_neg q]
  rw [hs _ _ _ a0, hs _ _ _ a1, hs _ _ _ a2]
def hcells (L : List Lk) : List Value := L.map (fun y => .int .i64 y.h)
/-- The document's graph at s: keys at vb, holders at vo, lines' slices V at vw. -/
structure IsR (w : World) (base s : Nat) (vb vo vw : Value) (V : List Value) (T : List Th) (L : List Lk) : Prop where
  blk : w.heap[s]? = some (.cells #[vb, vo, vw] 79 (0, 0))
  lo : base ≤ s
  bo : w.ownsRow base 36 3 vb T.length (kcells T)
  oo : w.ownsRow base 3 1 vo L.length (hcells L)
  wo : w.ownsRow base 31 1 vw L.length V
  lin : ∀ (j : Nat) y v, L[j]? = some y → V[j]? = some v → w.ownsRow base 3 1 v y.l.length (ints y.l)
  apart : ∀ v ∈ V, ∀ k, v.ownBlock = some k → vo.ownBlock ≠ some k
  bs : base ≤ w.heap.size
  f : Fine T L
def ownR (s : Nat) (vb vo vw : Value) (V : List Value) (k : Nat) : Prop := k = s ∨ vb.ownBlock = some k ∨ vo.ownBlock = some k ∨ vw.ownBlock = some k ∨ ∃ v ∈ V, v.ownBlock = some k
section
variable {w w' : World} {base s : Nat} {vb vo vw : Value} {V : List Value} {T : List Th} {L : List Lk}
theorem IsR.vs (h : IsR w base s vb vo vw V T L) : V.length = L.length := by have := h.wo.1; omega
theorem IsR.line (h : IsR w base s vb vo vw V T L) {k : Nat} (hk : k < L.length) : ∃ v, V[k]? = some v := ⟨_, List.getElem?_eq_getElem (by rw [h.vs]; exact hk)⟩
theorem IsR.lb (h : IsR w base s vb vo vw V T L) {v : Value} (hv : v ∈ V) {k : Nat} (hk : v.ownBlock = some k) : base ≤ k ∧ k < w.heap.size ∧ ∃ c, w.heap[k]? = some (.cells c 3 (0, 0)) := by
  obtain ⟨j, hj⟩ := List.mem_iff_getElem?.1 hv
  have hjl := (List.getElem?_eq_some_iff.1 hj).1
  rw [h.vs] at hjl
  exact ownsRow_blk (h.lin j _ v (List.getElem?_eq_getElem hjl) hj) hk
theorem IsR.own_ge (h : IsR w base s vb vo vw V T L) {k : Nat} (hk : ownR s vb vo vw V k) : base ≤ k ∧ k < w.heap.size := by
  rcases hk with rfl | q | q | q | ⟨v, hv, q⟩
  · exact ⟨h.lo, (Array.getElem?_eq_some_iff.1 h.blk).1⟩
  · exact ⟨(ownsRow_blk h.bo q).1, (ownsRow_blk h.bo q).2.1⟩
  · exact ⟨(ownsRow_blk h.oo q).1, (ownsRow_blk h.oo q).2.1⟩
  · exact ⟨(ownsRow_blk h.wo q).1, (ownsRow_blk h.wo q).2.1⟩
  · exact ⟨(h.lb hv q).1, (h.lb hv q).2.1⟩
theorem IsR.kept (h : IsR w base s vb vo vw V T L) (h0 : w.heap.size ≤ w'.heap.size) (h1 : ∀ k, ownR s vb vo vw V k → w'.heap[k]? = w.heap[k]?) : IsR w' base s vb vo vw V T L :=
  ⟨(h1 s (.inl rfl)).trans h.blk, h.lo, ownsRow_far h.bo (fun k hk => h1 k (.inr (.inl hk))), ownsRow_far h.oo (fun k hk => h1 k (.inr (.inr (.inl hk)))), ownsRow_far h.wo (fun k hk => h1 k (.inr (.inr (.inr (.inl hk))))),
    fun j y v hy hv => ownsRow_far (h.lin j y v hy hv) (fun k hk => h1 k (.inr (.inr (.inr (.inr ⟨v, List.mem_of_getElem? hv, hk⟩))))), h.apart, Nat.le_trans h.bs h0, h.f⟩
theorem IsR.frame {S : Nat → Prop} (h : IsR w base s vb vo vw V T L) (hf : Fr S w w') (h1 : ∀ k, ownR s vb vo vw V k → ¬ S k) : IsR w' base s vb vo vw V T L :=
  h.kept hf.size (fun k hk => hf.block k (h.own_ge hk).2 (h1 k hk))
theorem IsR.below (h : IsR w base s vb vo vw V T L) (hf : Below w.heap.size w w') : IsR w' base s vb vo vw V T L := h.frame (Fr.of_below' (S := fun _ => False) hf) (fun _ _ => id)
theorem IsR.drew (h : IsR w base s vb vo vw V T L) : IsR w.drew base s vb vo vw V T L := ⟨h.blk, h.lo, h.bo.drew, h.oo.drew, h.wo.drew, fun j y v a b => (h.lin j y v a b).drew, h.apart, h.bs, h.f⟩
/-- What is read of it; all of it lies below n0. -/
structure Rv (n0 : Nat) (W : World) (s : Nat) (ab : Option Addr) (cb : Nat) (ao : Option Addr) (co : Nat) (aw : Option Addr) (cw : Nat) (ln : Nat → Option Addr × Nat) (T : List Th) (L : List Lk) : Prop where
  sl : s < n0
  c0 : W.cell? ⟨s, 0, none⟩ = some (.slice ab T.length cb)
  c1 : W.cell? ⟨s, 1, none⟩ = some (.slice ao L.length co)
  c2 : W.cell? ⟨s, 2, none⟩ = some (.slice aw L.length cw)
  le : (T.length ≤ cb ∧ cb ≤ maxLen) ∧ (L.length ≤ co ∧ co ≤ maxLen) ∧ (L.length ≤ cw ∧ cw ≤ maxLen)
  kb : ∀ (t : Nat) x, T[t]? = some x → ∃ g, ab = some ⟨g, 0, none⟩ ∧ g < n0 ∧ W.cell? ⟨g, t * 3, none⟩ = some (.bool x.k.e) ∧ W.cell? ⟨g, t * 3 + 1, none⟩ = some (.int .u64 x.k.d) ∧ W.cell? ⟨g, t * 3 + 2, none⟩ = some (.int .u8 x.k.l)
  ow : ∀ (j : Nat) y, L[j]? = some y → ∃ g, ao = some ⟨g, 0, none⟩ ∧ g < n0 ∧ W.cell? ⟨g, j, none⟩ = some (.int .i64 y.h)
  ce : ∀ (j : Nat) y, L[j]? = some y → ∃ g, aw = some ⟨g, 0, none⟩ ∧ g < n0 ∧ W.cell? ⟨g, j, none⟩ = some (.slice (ln j).1 y.l.length (ln j).2) ∧ y.l.length ≤ (ln j).2 ∧ (ln j).2 ≤ maxLen ∧
    ∀ (i : Nat) (x : Nat), y.l[i]? = some x → ∃ gg, (ln j).1 = some ⟨gg, 0, none⟩ ∧ gg < n0 ∧ W.cell? ⟨gg, i, none⟩ = some (.int .i64 (x : Int))
theorem Rv.below {n0 : Nat} {W W' : World} {s : Nat} {ab : Option Addr} {cb : Nat} {ao : Option Addr} {co : Nat} {aw : Option Addr} {cw : Nat} {ln : Nat → Option Addr × Nat} {T : List Th} {L : List Lk} (h : Rv n0 W s ab cb ao co aw cw ln T L) (hb : Below n0 W W') : Rv n0 W' s ab cb ao co aw cw ln T L := by
  refine ⟨h.sl, (hb.cell (p := ⟨s, 0, none⟩) h.sl).trans h.c0, (hb.cell (p := ⟨s, 1, none⟩) h.sl).trans h.c1, (hb.cell (p := ⟨s, 2, none⟩) h.sl).trans h.c2, h.le, fun t x hx => ?_, fun j y hy => ?_, fun j y hy => ?_⟩
  · obtain ⟨g, e, hg, y0, y1, y2⟩ := h.kb t x hx
    exact ⟨g, e, hg, (hb.cell (p := ⟨g, _, none⟩) hg).trans y0, (hb.cell (p := ⟨g, _, none⟩) hg).trans y1, (hb.cell (p := ⟨g, _, none⟩) hg).trans y2⟩
  · obtain ⟨g, e, hg, y0⟩ := h.ow j y hy
    exact ⟨g, e, hg, (hb.cell (p := ⟨g, _, none⟩) hg).trans y0⟩
  · obtain ⟨g, e, hg, y0, l1, l2, hx⟩ := h.ce j y hy
    refine ⟨g, e, hg, (hb.cell (p := ⟨g, _, none⟩) hg).trans y0, l1, l2, fun i x hi => ?_⟩
    obtain ⟨gg, e1, e2, e3⟩ := hx i x hi
    exact ⟨gg, e1, e2, (hb.cell (p := ⟨gg, i, none⟩) e2).trans e3⟩
theorem row_form {e : TypeId} {size n : Nat} {v : Value} {xs : List Value} (h : w.ownsRow base e size v n xs) (hn : 0 < n) : ∃ g cap, v = .slice (some ⟨g, 0, none⟩) n cap ∧ g < w.heap.size ∧ (∀ j, j < n * size → w.cell? ⟨g, j, none⟩ = xs[j]?) ∧ ∀ k, w.frozen? ⟨g, k, none⟩ = false := by
  have hown := h
  rcases h.2 with ⟨_, e0⟩ | ⟨g, cap, cur, rfl, _, hg, _⟩
  · omega
  · exact ⟨g, cap, rfl, (Array.getElem?_eq_some_iff.1 hg).1, fun j hj => hown.cellAt j hj, frozen_row hown⟩
theorem IsR.rv (h : IsR w base s vb vo vw V T L) : ∃ ab cb ao co aw cw, vb = .slice ab T.length cb ∧ vo = .slice ao L.length co ∧ vw = .slice aw L.length cw ∧ Rv w.heap.size w s ab cb ao co aw cw (lineAt V) T L := by
  obtain ⟨ab, cb, e1, p1, p2⟩ := form_of h.bo
  obtain ⟨ao, co, e2, q1, q2⟩ := form_of h.oo
  obtain ⟨aw, cw, e3, r1, r2⟩ := form_of h.wo
  have hc : ∀ (i : Nat) v, (#[vb, vo, vw] : Array Value)[i]? = some v → w.cell? ⟨s, i, none⟩ = some v := fun i v hv => by unfold World.cell?; simp only [h.blk]; exact hv
  refine ⟨ab, cb, ao, co, aw, cw, e1, e2, e3, (Array.getElem?_eq_some_iff.1 h.blk).1, by rw [← e1]; exact hc 0 _ rfl, by rw [← e2]; exact hc 1 _ rfl, by rw [← e3]; exact hc 2 _ rfl, ⟨⟨p1, p2⟩, ⟨q1, q2⟩, r1, r2⟩, fun t x hx => ?_, fun j y hy => ?_, fun j y hy => ?_⟩
  · have ht := (List.getElem?_eq_some_iff.1 hx).1
    obtain ⟨g, cap, e, hg, hcell, _⟩ := row_form h.bo (by omega)
    rw [e1] at e
    simp at e
    obtain ⟨a0, a1, a2⟩ := kcells_at T t x hx
    exact ⟨g, e.1, hg, by rw [hcell _ (by omega)]; exact a0, by rw [hcell _ (by omega)]; exact a1, by rw [hcell _ (by omega)]; exact a2⟩
  · have hj := (List.getElem?_eq_some_iff.1 hy).1
    obtain ⟨g, cap, e, hg, hcell, _⟩ := row_form h.oo (by omega)
    rw [e2] at e
    simp at e
    exact ⟨g, e.1, hg, by rw [hcell _ (by omega)]; simp [hcells, hy]⟩
  · have hj := (List.getElem?_eq_some_iff.1 hy).1
    obtain ⟨g, cap, e, hg, hcell, _⟩ := row_form h.wo (by omega)
    rw [e3] at e
    simp at e
    obtain ⟨v, hv⟩ := h.line hj
    have hown := h.lin j y v hy hv
    obtain ⟨va, vc, rfl, m1, m2⟩ := form_of hown
    have el : lineAt V j = (va, vc) := by unfold lineAt; rw [hv]
    rw [el]
    refine ⟨g, e.1, hg, by rw [hcell _ (by omega)]; exact hv, m1, m2, fun i x hi => ?_⟩
    have hil := (List.getElem?_eq_some_iff.1 hi).1
    obtain ⟨gg, cap', e4, hgg, hcell', _⟩ := row_form hown (by omega)
    simp at e4
    exact ⟨gg, e4.1, hgg, by rw [hcell' _ (by omega)]; simp [ints, hi]⟩
theorem rowner_ok (h : IsR w base s vb vo vw V T L) (m : Int) : Calls Try.prog 39 #[.pointer (some ⟨s, 0, none⟩), .int .i64 m] w fun e w' => e = .returned (.int .i64 (ownerOf L m)) ∧ w' = w := by
  obtain ⟨ab, cb, ao, co, aw, cw, _, _, _, hv⟩ := h.rv
  have c1 := hv.c1
  have hle := hv.le.2.1
  cases hm : inL L m with
  | true =>
    obtain ⟨k, y, rfl, hk, hy, e⟩ := inL_yes hm
    rw [e]
    obtain ⟨g, rfl, hg, y0⟩ := hv.ow k y hy
    have hk' : (k : Int) < (L.length : Int) := by omega
    clear hm e h hv
    go_enter Try.func39, Try.ntmps39
    go_wp2
    go_ret
    exact ⟨rfl, rfl⟩
  | false =>
    have e : ownerOf L m = -1 := by unfold ownerOf; rw [hm]; rfl
    rw [e]
    unfold inL at hm
    simp only [decide_eq_false_iff_not] at hm
    by_cases h0 : m < 0
    · clear h hv e hm
      go_enter Try.func39, Try.ntmps39
      go_wp2
      go_ret
      exact ⟨rfl, rfl⟩
    · have h1 : (L.length : Int) ≤ m := by omega
      clear h hv e hm
      go_enter Try.func39, Try.ntmps39
      go_wp2
      go_ret
      exact ⟨rfl, rfl⟩
theorem there_ok (h : IsR w base s vb vo vw V T L) (t m : Int) : Calls Try.prog 62 #[.pointer (some ⟨s, 0, none⟩), .int .i64 t, .int .i64 m] w fun e w' => e = .returned (.bool (inT T t && inL L m)) ∧ w' = w := by
  obtain ⟨ab, cb, ao, co, aw, cw, _, _, _, hv⟩ := h.rv
  have c0 := hv.c0
  have c1 := hv.c1
  clear h hv
  unfold inT inL
  by_cases h0 : 0 ≤ t
  · by_cases h1 : t < (T.length : Int)
    · by_cases h2 : 0 ≤ m
      · go_enter Try.func62, Try.ntmps62
        go_wp2
        go_ret
        exact ⟨by simp [h0, h1, h2], rfl⟩
      · go_enter Try.func62, Try.ntmps62
        go_wp2
        go_ret
        exact ⟨by simp; omega, rfl⟩
    · go_enter Try.func62, Try.ntmps62
      go_wp2
      go_ret
      exact ⟨by simp; omega, rfl⟩
  · go_enter Try.func62, Try.ntmps62
    go_wp2
    go_ret
    exact ⟨by simp; omega, rfl⟩
end
end Go.Proofs.Ytbhkgbhgofefjaa
