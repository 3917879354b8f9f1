/-
  All processors' sets: the whole through what happens elsewhere, and with one place changed.
-/
import Derived.Test.YtlfejgjhamcahaaZ6
namespace Go.Proofs.Ytlfejgjhamcahaa
open Go.RowKit Go.Lib

def Hd.to (x : Hd) (t : Nat) (M : List En) : Hd := { x with turn := t, M := M }
theorem Hd.is_to {w : World} {n most : Nat} (x : Hd) (t : Nat) (M : List En) : (x.to t M).is w n most ↔ IsS w x.sb x.qb x.gq x.hb x.gh n most t M := Iff.rfl
theorem Hd.own_to (x : Hd) (t : Nat) (M : List En) (k : Nat) : (x.to t M).own k ↔ x.own k := Iff.rfl
theorem ptrs_to {H : List Hd} {i : Nat} {x : Hd} (hx : H[i]? = some x) (t : Nat) (M : List En) : ptrs (H.set i (x.to t M)) = ptrs H := by
  unfold ptrs
  rw [List.map_set]
  have : ((H.map (fun h : Hd => Value.pointer (some ⟨h.sb, 0, none⟩)))).set i (Value.pointer (some ⟨x.sb, 0, none⟩)) = H.map (fun h : Hd => Value.pointer (some ⟨h.sb, 0, none⟩)) := by
    apply List.ext_getElem?
    intro j
    rw [List.getElem?_set]
    split
    · rename_i e
      subst e
      rw [List.getElem?_map, hx]
      split
      · rfl
      · rename_i q
        simp at q
        have := (List.getElem?_eq_some_iff.1 hx).1
        omega
    · rfl
  exact this
theorem owns_at {S : Nat → Prop} {w w' : World} {base : Nat} {e : TypeId} {size : Nat} {v : Value} {n : Nat} {xs : List Value} (h : w.ownsRow base e size v n xs) (hf : Fr S w w') (hn : ∀ k, v.ownBlock = some k → ¬ S k) : w'.ownsRow base e size v n xs := by
  refine ⟨h.1, ?_⟩
  rcases h.2 with r | ⟨g, cap, cur, rfl, hb, hg, r⟩
  · exact .inl r
  · refine .inr ⟨g, cap, cur, rfl, hb, ?_, r⟩
    rw [hf.block g (Array.getElem?_eq_some_iff.1 hg).1 (hn g rfl)]
    exact hg
/-- The places, each id at one of them, and how often they were turned. -/
structure IsQ (w : World) (base lo pb mb n np q : Nat) (v : Value) (T : Nat) (H : List Hd) : Prop where
  p : IsP w base lo pb mb n np q v H
  un : Un H
  tn : ∀ (i : Nat) (h : Hd), H[i]? = some h → h.turn ≤ T
section
variable {w w' wa wb : World} {base lo pb mb n np q T : Nat} {v : Value} {H : List Hd}
theorem IsP.pbl (h : IsP w base lo pb mb n np q v H) : pb < w.heap.size := (Array.getElem?_eq_some_iff.1 h.blk).1
theorem IsP.below (h : IsP w base lo pb mb n np q v H) (hb : Below w.heap.size w w') : IsP w' base lo pb mb n np q v H :=
  ⟨h.n1, h.np1, h.q1, (hb.block _ h.pbl).trans h.blk, Dc.owns_fr h.row (Dc.Fr.of_below' (S := fun _ => False) hb) (fun _ _ _ q => q), h.len, h.sets.below hb, h.map.block (hb.block _ h.map.lt), h.sep, h.ne⟩
theorem IsQ.below (h : IsQ w base lo pb mb n np q v T H) (hb : Below w.heap.size w w') : IsQ w' base lo pb mb n np q v T H := ⟨h.p.below hb, h.un, h.tn⟩
/-- All blocks of theirs. -/
def OwnP (pb mb : Nat) (v : Value) (H : List Hd) (k : Nat) : Prop := k = pb ∨ k = mb ∨ v.ownBlock = some k ∨ ∃ (i : Nat) (h : Hd), H[i]? = some h ∧ h.own k
theorem IsP.blocks (h : IsP w base lo pb mb n np q v H) : ∀ k, OwnP pb mb v H k → k < w.heap.size := by
  rintro k (rfl | rfl | e | ⟨i, x, hx, hk⟩)
  · exact h.pbl
  · exact h.map.lt
  · exact (Dc.own_ge h.row k e).2
  · exact (h.sets.it i x hx).blocks k hk
theorem IsP.frame {S : Nat → Prop} (h : IsP w base lo pb mb n np q v H) (hf : Fr S w w') (hn : ∀ k, OwnP pb mb v H k → ¬ S k) : IsP w' base lo pb mb n np q v H :=
  ⟨h.n1, h.np1, h.q1, (hf.block _ h.pbl (hn _ (.inl rfl))).trans h.blk, owns_at h.row hf (fun k e => hn k (.inr (.inr (.inl e)))), h.len, h.sets.frame hf (fun i x hx k hk => hn k (.inr (.inr (.inr ⟨i, x, hx, hk⟩)))), h.map.block (hf.block _ h.map.lt (hn _ (.inr (.inl rfl)))), h.sep, h.ne⟩
/-- One place's set is another, and the map with it. -/
theorem IsP.turned (h : IsP w base lo pb mb n np q v H) {i : Nat} {x : Hd} (hx : H[i]? = some x) {t : Nat} {M : List En} (hf : Fr x.own w wa) (hy : (x.to t M).is wa n (moP np n q i)) (hg : Fr (fun k => k = mb) wa wb)
    (hm : IsM wb mb (whereF n (H.set i (x.to t M)) 0) (sumH (H.set i (x.to t M)))) : IsP wb base lo pb mb n np q v (H.set i (x.to t M)) ∧ Fr (fun k => k = mb ∨ x.own k) w wb := by
  have hF : Fr (fun k => k = mb ∨ x.own k) w wb := (hf.wide (fun _ _ q => .inr q)).trans (hg.wide (fun _ _ q => .inl q))
  have hil : i < H.length := (List.getElem?_eq_some_iff.1 hx).1
  have ho := fun k => Hd.own_to x t M k
  have hs := h.sep i x hx
  refine ⟨⟨h.n1, h.np1, h.q1, ?_, ?_, by rw [List.length_set]; exact h.len, ?_, hm, ?_, h.ne⟩, hF⟩
  · rw [hF.block _ h.pbl (by rintro (e | e); exact h.ne.1 e; exact (hs _ e).2.1 rfl)]
    exact h.blk
  · rw [List.length_set, ptrs_to hx]
    refine owns_at h.row hF ?_
    rintro k e (rfl | e')
    · exact h.ne.2.2 e
    · exact (hs k e').1 e
  · have := h.sets.set hx hf hy ho
    refine this.frame hg ?_
    intro j z hz k hk e
    subst e
    rcases set_key hil hz with ⟨rfl, rfl⟩ | ⟨_, r⟩
    · exact (hs _ ((ho _).1 hk)).2.2 rfl
    · exact (h.sep j z r _ hk).2.2 rfl
  · intro j z hz k hk
    rcases set_key hil hz with ⟨rfl, rfl⟩ | ⟨_, r⟩
    · exact hs _ ((ho _).1 hk)
    · exact h.sep j z r _ hk
theorem IsQ.turned (h : IsQ w base lo pb mb n np q v T H) {i : Nat} {x : Hd} (hx : H[i]? = some x) {t : Nat} (ht : t ≤ x.turn + 1) {M : List En} (hf : Fr x.own w wa) (hy : (x.to t M).is wa n (moP np n q i)) (hg : Fr (fun k => k = mb) wa wb) (hu : Un (H.set i (x.to t M)))
    (hm : IsM wb mb (whereF n (H.set i (x.to t M)) 0) (sumH (H.set i (x.to t M)))) : IsQ wb base lo pb mb n np q v (T + 1) (H.set i (x.to t M)) ∧ Fr (fun k => k = mb ∨ x.own k) w wb := by
  have hil : i < H.length := (List.getElem?_eq_some_iff.1 hx).1
  obtain ⟨a, b⟩ := h.p.turned hx hf hy hg hm
  refine ⟨⟨a, hu, fun j z hz => ?_⟩, b⟩
  rcases set_key hil hz with ⟨rfl, rfl⟩ | ⟨_, r⟩
  · have := h.tn _ x hx
    show t ≤ T + 1
    omega
  · have := h.tn j z r
    omega
theorem IsP.at (h : IsP w base lo pb mb n np q v H) {i : Nat} (hi : i ≤ np) : ∃ x, H[i]? = some x := by
  have := h.len
  exact ⟨H[i]'(by omega), List.getElem?_eq_getElem _⟩
theorem IsP.sum_le (h : IsP w base lo pb mb n np q v H) : sumH H ≤ 66560 := by
  have := sumH_le (H := H) (b := 1024) (fun i x hx => by
    have h1 := (h.sets.it i x hx).fit
    have h2 := h.n1
    have : moP np n q i ≤ n := by unfold moP; split <;> omega
    show x.M.length ≤ 1024
    omega)
  rw [h.len] at this
  have := h.np1
  have : (np + 1) * 1024 ≤ 65 * 1024 := Nat.mul_le_mul_right _ (by omega)
  omega
/-- Where an id is missing there is room, in a set for all. -/
theorem IsS.roomy {sb qb gq hb gh most turn : Nat} {M : List En} (h : IsS w sb qb gq hb gh n most turn M) {id : Nat} (hi : id < n) (hk : keyOf M id = none) : M.length < n := by
  have hnd := h.nd
  have hr : ∀ y ∈ M, y.1 < n := by obtain ⟨R, L, hS, hI⟩ := id_S h; exact hI.rng hS
  have hm := keyOf_none.1 hk
  have := Bq.nodup_le n (id :: M.map (·.1)) (List.nodup_cons.2 ⟨fun q => by obtain ⟨y, hy, e⟩ := List.mem_map.1 q; exact hm y hy e, hnd⟩) (by
    intro y hy
    rcases List.mem_cons.1 hy with rfl | hy
    · exact hi
    · obtain ⟨z, hz, rfl⟩ := List.mem_map.1 hy
      exact hr z hz)
  simp at this
  omega
end
end Go.Proofs.Ytlfejgjhamcahaa
