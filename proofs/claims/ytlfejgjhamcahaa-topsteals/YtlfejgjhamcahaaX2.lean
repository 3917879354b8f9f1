/-
  The walk of the document's set: out.
-/
import Derived.Test.YtlfejgjhamcahaaX1
namespace Go.Proofs.Ytlfejgjhamcahaa.Dc
open Go.RowKit Go.Lib
attribute [local go_sem ↓] Go.wp_at_zero Go.wp_at_succ

theorem items_from {w : World} {g : Nat} {R : List En} (hc : ∀ j it, R[j]? = some it → w.cell? ⟨g, j * 4, none⟩ = some (.int .i64 (it.1 : Int)) ∧ w.cell? ⟨g, j * 4 + 1, none⟩ = some (.bool it.2.e) ∧ w.cell? ⟨g, j * 4 + 2, none⟩ = some (.int .u64 it.2.d) ∧ w.cell? ⟨g, j * 4 + 3, none⟩ = some (.int .u8 it.2.l))
    (k : Nat) (S : List En) (hS : ∀ j, j < S.length → R[k + j]? = S[j]?) : ∀ j u, (itemCells S)[j]? = some u → w.cell? ((⟨g, k * 4, none⟩ : Addr).add j) = some u := by
  intro j u hu
  have hj : j < (itemCells S).length := (List.getElem?_eq_some_iff.1 hu).1
  rw [itemCells_length] at hj
  have hadd : (⟨g, k * 4, none⟩ : Addr).add j = ⟨g, k * 4 + j, none⟩ := by unfold Addr.add; split <;> simp_all
  rw [hadd]
  have hs : S[j / 4]? = some (S[j / 4]'(by omega)) := List.getElem?_eq_getElem _
  have hc' := hc (k + j / 4) (S[j / 4]'(by omega)) (by rw [hS _ (by omega)]; exact hs)
  have ha := itemCells_at S (j / 4) _ hs
  have hm : j % 4 = 0 ∨ j % 4 = 1 ∨ j % 4 = 2 ∨ j % 4 = 3 := by omega
  rcases hm with hp | hp | hp | hp
  · rw [show k * 4 + j = (k + j / 4) * 4 by omega, hc'.1, ← hu, ← ha.1]
    congr 1
    omega
  · rw [show k * 4 + j = (k + j / 4) * 4 + 1 by omega, hc'.2.1, ← hu, ← ha.2.1]
    congr 1
    omega
  · rw [show k * 4 + j = (k + j / 4) * 4 + 2 by omega, hc'.2.2.1, ← hu, ← ha.2.2.1]
    congr 1
    omega
  · rw [show k * 4 + j = (k + j / 4) * 4 + 3 by omega, hc'.2.2.2, ← hu, ← ha.2.2.2]
    congr 1
    omega
theorem nd_split {R1 R2 : List En} {x : En} (h : ((R1 ++ x :: R2).map (·.1)).Nodup) : ((R1 ++ R2).map (·.1)).Nodup :=
  List.Nodup.sublist (List.Sublist.map _ (List.Sublist.append (List.Sublist.refl _) (List.sublist_cons_self _ _))) h
set_option maxHeartbeats 4000000 in
set_option maxRecDepth 100000 in
theorem rout_new {w : World} {base rb n most : Nat} {v : Value} {R1 R2 : List En} {x : En} (h : IsR w base rb n most v (R1 ++ x :: R2)) :
    Calls Try.prog 94 #[.pointer (some ⟨rb, 0, none⟩), .int .i64 (R1.length : Int)] w fun e w' => e = .returned (.tuple #[]) ∧ (∃ v', IsR w' base rb n most v' (R1 ++ R2) ∧ ∀ k, v'.ownBlock = some k → w.heap.size ≤ k) ∧ Fr (fun k => k = rb) w w' := by
  obtain ⟨i0, hi0, hz0, hz1, hz2⟩ := info_parts infoItem
  obtain ⟨g, cap, rfl, h1, h2, h3, h4, h5⟩ := h.cells (by simp)
  have e1 := h.c2
  have hlen := h.len_le
  have hL : (R1 ++ x :: R2).length = R1.length + R2.length + 1 := by simp; omega
  rw [hL] at e1 hlen h1
  have hrb := h.lt
  have hne := h.ne
  have f1 : w.frozen? ⟨rb, 2, none⟩ = false := by unfold World.frozen?; simp [h.blk]
  have HN1 : Hid (∀ w', Fr (fun _ => False) w w' → ∀ j u, (itemCells R1)[j]? = some u → w'.cell? ((⟨g, 0, none⟩ : Addr).add j) = some u) := by
    intro w' hf
    have := items_from (w := w') (g := g) (R := R1 ++ x :: R2) (fun j it hj => by
      rw [hf.cell (a := ⟨g, j * 4, none⟩) h3 (fun q => q), hf.cell (a := ⟨g, j * 4 + 1, none⟩) h3 (fun q => q), hf.cell (a := ⟨g, j * 4 + 2, none⟩) h3 (fun q => q), hf.cell (a := ⟨g, j * 4 + 3, none⟩) h3 (fun q => q)]
      exact h5 j it hj) 0 R1 (fun j hj => by rw [Nat.zero_add, List.getElem?_append_left hj])
    simpa using this
  have HN2 : Hid (∀ w', Fr (fun _ => False) w w' → ∀ j u, (itemCells R2)[j]? = some u → w'.cell? ((⟨g, (R1.length + 1) * 4, none⟩ : Addr).add j) = some u) := by
    intro w' hf
    exact items_from (w := w') (g := g) (R := R1 ++ x :: R2) (fun j it hj => by
      rw [hf.cell (a := ⟨g, j * 4, none⟩) h3 (fun q => q), hf.cell (a := ⟨g, j * 4 + 1, none⟩) h3 (fun q => q), hf.cell (a := ⟨g, j * 4 + 2, none⟩) h3 (fun q => q), hf.cell (a := ⟨g, j * 4 + 3, none⟩) h3 (fun q => q)]
      exact h5 j it hj) (R1.length + 1) R2 (fun j hj => by rw [List.getElem?_append_right (by omega), show R1.length + 1 + j - R1.length = j + 1 by omega]; rfl)
  have HF : Hid (∀ (w' : World) (v' : Value), Fr (fun _ => False) w w' → w'.ownsRow w.heap.size 112 4 v' (R1.length + R2.length) (itemCells R1 ++ itemCells R2) → (∃ v'', IsR (w'.setCell ⟨rb, 2, none⟩ v') base rb n most v'' (R1 ++ R2) ∧ ∀ k, v''.ownBlock = some k → w.heap.size ≤ k) ∧ Fr (fun k => k = rb) w (w'.setCell ⟨rb, 2, none⟩ v')) := by
    intro w' v' hf ho
    refine ⟨⟨v', IsR.stored (v0 := .slice (some ⟨g, 0, none⟩) (R1 ++ x :: R2).length cap) ?_ (ownsRow_base (by rw [itemCells_append, List.length_append]; exact ho) h.bs) ?_ h.nle h.mle (by have := h.len; simp at this ⊢; omega) (nd_split h.nd) (fun y hy => h.rng y (by rcases List.mem_append.1 hy with q | q; exact List.mem_append_left _ q; exact List.mem_append_right _ (List.mem_cons_of_mem _ q))) (Nat.le_trans h.bs hf.size), fun k hk => (ho.lt k hk).1⟩, Fr.setCell (S := fun k => k = rb) (a := ⟨rb, 2, none⟩) (hf.wide (fun _ _ q => q.elim)) rfl _⟩
    · exact (hf.block rb hrb (fun q => q)).trans h.blk
    · intro q
      have := ho.lt rb q
      omega
  have o1 := itemCells_one R1
  have o2 := itemCells_one R2
  have l1 := itemCells_length R1
  have l2 := itemCells_length R2
  have b1 : (0 : Int) ≤ (R1.length : Int) := Int.natCast_nonneg _
  generalize R1.length = k at *
  generalize R2.length = m at *
  generalize itemCells R1 = c1 at *
  generalize itemCells R2 = c2 at *
  have b6 := wrap_succ k (by omega)
  generalize hK : k + 1 = K at *
  generalize hLL : k + m + 1 = L at *
  have b2 : (k : Int) ≤ (cap : Int) := by omega
  have b5 : (L : Int) ≤ (cap : Int) := by omega
  have b7 : (0 : Int) ≤ (K : Int) := by omega
  have b8 : (K : Int) ≤ (L : Int) := by omega
  have b9 : L - K = m := by omega
  have HK : Hid (∀ v1 w1, w.grownBy w1 (Value.ownBlock (.slice none 0 0)) → w1.ownsRow w.heap.size 112 4 v1 (0 + k) ([] ++ c1) → w1.cell? ⟨rb, 2, none⟩ = some (.slice (some ⟨g, 0, none⟩) L cap) ∧ Fr (fun _ => False) w w1 ∧ w1.frozen? ⟨rb, 2, none⟩ = false ∧
      ∀ v2 w2, w1.grownBy w2 v1.ownBlock → w2.ownsRow w.heap.size 112 4 v2 (0 + k + m) (([] ++ c1) ++ c2) → w2.cell? ⟨rb, 2, none⟩ = some (.slice (some ⟨g, 0, none⟩) L cap) ∧ w2.frozen? ⟨rb, 2, none⟩ = false ∧ (∃ v', IsR (w2.setCell ⟨rb, 2, none⟩ v2) base rb n most v' (R1 ++ R2) ∧ ∀ k, v'.ownBlock = some k → w.heap.size ≤ k) ∧ Fr (fun k => k = rb) w (w2.setCell ⟨rb, 2, none⟩ v2)) := by
    intro v1 w1 hg1 ho1
    have c1' := (hg1.cell_far ⟨rb, 2, none⟩ hrb (by simp [Value.ownBlock])).trans e1
    have f1' := (hg1.frozen_far ⟨rb, 2, none⟩ hrb (by simp [Value.ownBlock])).trans f1
    have fr1 : Fr (fun _ => False) w w1 := (Fr.of_grown hg1).wide (fun k _ q => by simp [Value.ownBlock] at q)
    refine ⟨c1', fr1, f1', fun v2 w2 hg2 ho2 => ?_⟩
    have hx : some rb ≠ v1.ownBlock := fun q => by have := ho1.lt rb q.symm; omega
    have fr2 : Fr (fun _ => False) w w2 := ⟨hg2.os.trans fr1.os, hg2.tape.trans fr1.tape, hg2.output.trans fr1.output, Nat.le_trans fr1.size hg2.size, fun k hk _ => (hg2.block k (Nat.lt_of_lt_of_le hk fr1.size) (fun q => by have := ho1.lt k q.symm; omega)).trans (fr1.block k hk (fun q => q))⟩
    exact ⟨(hg2.cell_far ⟨rb, 2, none⟩ (Nat.lt_of_lt_of_le hrb fr1.size) hx).trans c1', (hg2.frozen_far ⟨rb, 2, none⟩ (Nat.lt_of_lt_of_le hrb fr1.size) hx).trans f1', HF.out w2 v2 fr2 (by simpa using ho2)⟩
  have HW : Hid (∀ w', w'.heap = w.heap → w'.os = w.os → w'.tape = w.tape → w'.output = w.output → Fr (fun _ => False) w w') := fun w' a b c d => ⟨b, c, d, by rw [a]; exact Nat.le_refl _, fun k _ _ => by rw [a]⟩
  have HU := veil Try.underlying101
  clear h h5 h4 hL hne HF f1
  by_cases hcK : cap = K
  · have hm0 : m = 0 := by omega
    have hLK : L = K := by omega
    have hc2 : c2 = [] := List.length_eq_zero_iff.1 (by omega)
    have HN3 : Hid (∀ w', Fr (fun _ => False) w w' → ∀ j u, c2[j]? = some u → w'.cell? ((⟨g, 0, none⟩ : Addr).add j) = some u) := by
      intro w' _ j u hu
      rw [hc2] at hu
      simp at hu
    clear hc2 b9 HN2
    subst hm0
    subst hLK
    subst hcK
    go_enter Try.func94, Try.ntmps94
    go_wp2
    go_region_held3 (fun w' => w'.cell? ⟨rb, 2, none⟩ = some (.slice (some ⟨g, 0, none⟩) cap cap))
      (first | go_keep | exact (HK.out _ _ hg1 ho1).1 | exact ((HK.out _ _ hg1 ho1).2.2.2 _ _ hg2 ho2).1)
      (first
        | (refine step_append_any _ (by rfl) _ _ _ (by rfl) w.heap.size 112 i0 (.agg #[.int .i64 0, .bool false, .int .u64 0, .int .u8 0]) 4 32 HU.out hi0 hz0 hz1 hz2 rfl (by omega) (.slice none 0 0) 0 [] (by rfl) (World.ownsRow_nil _ _ _ _) ⟨g, 0, none⟩ k cap c1 (by rfl) l1 (HN1.out _ (HW.out _ rfl rfl rfl rfl)) o1 (by unfold maxLen; omega) (by omega) (by simp) ?_; intro v1 w1 ho1 hg1'; have hg1 : w.grownBy w1 (Value.ownBlock (.slice none 0 0)) := ⟨hg1'.os, hg1'.tape, hg1'.output, hg1'.size, hg1'.block⟩; clear hg1')
        | (refine step_append_any _ (by rfl) _ _ _ (by rfl) w.heap.size 112 i0 (.agg #[.int .i64 0, .bool false, .int .u64 0, .int .u8 0]) 4 32 HU.out hi0 hz0 hz1 hz2 rfl (by omega) v1 (0 + k) ([] ++ c1) (by rfl) ho1 ⟨g, 0, none⟩ 0 _ c2 (by rfl) l2 (HN3.out _ (HK.out _ _ hg1 ho1).2.1) o2 (by unfold maxLen; omega) (by omega) (HK.out _ _ hg1 ho1).2.1.size ?_; intro v2 w2 ho2 hg2'; have hg2 : w1.grownBy w2 v1.ownBlock := ⟨hg2'.os, hg2'.tape, hg2'.output, hg2'.size, hg2'.block⟩; clear hg2'))
    have hX := (HK.out _ _ hg1 ho1).2.2.2 _ _ hg2 ho2
    have x1 := hX.1
    have x2 := hX.2.1
    obtain ⟨a2, d2, rfl⟩ := owns_slice ho2
    have hX2 := hX.2.2
    rw [Nat.zero_add] at hX2
    have HX := veil hX2
    clear hX2
    clear hX ho1 hg1 ho2 hg2
    go_wp2
    go_end0
    exact ⟨rfl, HX.out.1, HX.out.2⟩
  ·
    go_enter Try.func94, Try.ntmps94
    go_wp2
    go_region_held3 (fun w' => w'.cell? ⟨rb, 2, none⟩ = some (.slice (some ⟨g, 0, none⟩) L cap))
      (first | go_keep | exact (HK.out _ _ hg1 ho1).1 | exact ((HK.out _ _ hg1 ho1).2.2.2 _ _ hg2 ho2).1)
      (first
        | (refine step_append_any _ (by rfl) _ _ _ (by rfl) w.heap.size 112 i0 (.agg #[.int .i64 0, .bool false, .int .u64 0, .int .u8 0]) 4 32 HU.out hi0 hz0 hz1 hz2 rfl (by omega) (.slice none 0 0) 0 [] (by rfl) (World.ownsRow_nil _ _ _ _) ⟨g, 0, none⟩ k cap c1 (by rfl) l1 (HN1.out _ (HW.out _ rfl rfl rfl rfl)) o1 (by unfold maxLen; omega) (by omega) (by simp) ?_; intro v1 w1 ho1 hg1'; have hg1 : w.grownBy w1 (Value.ownBlock (.slice none 0 0)) := ⟨hg1'.os, hg1'.tape, hg1'.output, hg1'.size, hg1'.block⟩; clear hg1')
        | (refine step_append_any _ (by rfl) _ _ _ (by rfl) w.heap.size 112 i0 (.agg #[.int .i64 0, .bool false, .int .u64 0, .int .u8 0]) 4 32 HU.out hi0 hz0 hz1 hz2 rfl (by omega) v1 (0 + k) ([] ++ c1) (by rfl) ho1 ⟨g, K * 4, none⟩ m _ c2 (by first | rfl | (rw [← b9]; rfl)) l2 (HN2.out _ (HK.out _ _ hg1 ho1).2.1) o2 (by unfold maxLen; omega) (by omega) (HK.out _ _ hg1 ho1).2.1.size ?_; intro v2 w2 ho2 hg2'; have hg2 : w1.grownBy w2 v1.ownBlock := ⟨hg2'.os, hg2'.tape, hg2'.output, hg2'.size, hg2'.block⟩; clear hg2'))
    have hX := (HK.out _ _ hg1 ho1).2.2.2 _ _ hg2 ho2
    have x1 := hX.1
    have x2 := hX.2.1
    obtain ⟨a2, d2, rfl⟩ := owns_slice ho2
    have hX2 := hX.2.2
    rw [Nat.zero_add] at hX2
    have HX := veil hX2
    clear hX2
    clear hX ho1 hg1 ho2 hg2
    go_wp2
    go_end0
    exact ⟨rfl, HX.out.1, HX.out.2⟩
theorem rout_ok {w : World} {base rb n most : Nat} {v : Value} {R1 R2 : List En} {x : En} (h : IsR w base rb n most v (R1 ++ x :: R2)) :
    Calls Try.prog 94 #[.pointer (some ⟨rb, 0, none⟩), .int .i64 (R1.length : Int)] w fun e w' => e = .returned (.tuple #[]) ∧ (∃ v', IsR w' base rb n most v' (R1 ++ R2)) ∧ Fr (fun k => k = rb) w w' := by
  refine (rout_new h).mono ?_
  rintro e w' ⟨rfl, ⟨v', a, _⟩, b⟩
  exact ⟨rfl, ⟨v', a⟩, b⟩
end Go.Proofs.Ytlfejgjhamcahaa.Dc
