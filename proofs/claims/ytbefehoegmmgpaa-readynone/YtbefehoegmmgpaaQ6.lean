/-
  The walks of a queue's calls over ids and levels: Push, and a removal, as lists tell them.
-/
import Derived.Test.YtbefehoegmmgpaaQ5
namespace Go.Proofs.Ytbefehoegmmgpaa.Bq
open Go.RowKit

theorem nodup_le : ∀ (n : Nat) (l : List Nat), l.Nodup → (∀ x ∈ l, x < n) → l.length ≤ n
  | 0, l, _, h => by
    cases l with
    | nil => simp
    | cons x xs => exact absurd (h x (by simp)) (by omega)
  | n + 1, l, hn, h => by
    have h1 : (l.erase n).length ≤ n := nodup_le n (l.erase n) (hn.erase n) (fun x hx => by
      have := h x (List.mem_of_mem_erase hx)
      have hne : x ≠ n := ((List.Nodup.mem_erase_iff hn).1 hx).1
      omega)
    by_cases hm : n ∈ l
    · rw [List.length_erase_of_mem hm] at h1; omega
    · rw [List.erase_of_not_mem hm] at h1; omega

/-- A queue for ids below n, at block b, its links at g: R are its ids and levels, as they were pushed. -/
def IsQ (w : World) (b g n : Nat) (R : List (Nat × Nat)) : Prop :=
  n ≤ 1024 ∧ ∃ (F L m : Nat → Nat) (c : Nat) (A B V : Nat → Nat) (T : Nat → Bool), Rep w b g n F L (fun i => (m i : Int)) c A B V T ∧ Inv n F L m c A B V T R

theorem IsQ.kept {w w' : World} {b g n : Nat} {R : List (Nat × Nat)} (h : IsQ w b g n R) (hb : w'.heap[b]? = w.heap[b]?) (hg : w'.heap[g]? = w.heap[g]?) : IsQ w' b g n R := by
  obtain ⟨hn, F, L, m, c, A, B, V, T, hr, hi⟩ := h
  exact ⟨hn, F, L, m, c, A, B, V, T, hr.kept hb hg, hi⟩
theorem IsQ.blocks {w : World} {b g n : Nat} {R : List (Nat × Nat)} (h : IsQ w b g n R) : b < w.heap.size ∧ g < w.heap.size ∧ b ≠ g := by
  obtain ⟨hn, F, L, m, c, A, B, V, T, hr, hi⟩ := h
  exact ⟨hr.lt_b, hr.lt_g, hr.bg⟩
theorem IsQ.len_le {w : World} {b g n : Nat} {R : List (Nat × Nat)} (h : IsQ w b g n R) : R.length ≤ n ∧ n ≤ 1024 := by
  obtain ⟨hn, F, L, m, c, A, B, V, T, hr, hi⟩ := h
  have := nodup_le n (R.map (·.1)) hi.ids (fun x hx => by obtain ⟨it, a, rfl⟩ := List.mem_map.1 hx; exact (hi.rng it a).1)
  rw [List.length_map] at this
  exact ⟨this, hn⟩

theorem upd_cast (m : Nat → Nat) (k x : Nat) : upd (fun i => (m i : Int)) k (x : Int) = fun i => ((upd m k x i : Nat) : Int) := by
  funext i
  unfold upd
  split <;> rfl

/-- An id that is put behind those of its level. -/
theorem tie_any (w : World) (b g n : Nat) (R : List (Nat × Nat)) (id lv : Nat) (h : IsQ w b g n R) (hi : id < n) (hlv : lv < 256) (hid : ∀ it ∈ R, it.1 ≠ id) :
    Calls Try.prog 81 #[.pointer (some ⟨b, 0, none⟩), .int .u8 lv, .int .i64 ((id + 1 : Nat) : Int)] w fun e w' => e = .returned (.tuple #[]) ∧ IsQ w' b g n (R ++ [(id, lv)]) ∧ Only b g w w' := by
  have hlen := h.len_le
  obtain ⟨hn, F, L, m, c, A, B, V, T, hr, hv⟩ := h
  have hc := hv.cnt
  by_cases h0 : L lv = 0
  · have he := (hv.last_zero lv hlv).1 h0
    refine (tie_first hr lv (id + 1) hlv (by omega) hn (by omega) h0).mono ?_
    rintro e w' ⟨he', hrep, honly⟩
    refine ⟨he', ⟨hn, _, _, upd m (lv / 64) (m (lv / 64) ||| 2 ^ (lv % 64)), _, _, _, _, _, ?_, inv_push_first hv hi hlv hid he⟩, honly⟩
    rw [← upd_cast, ← orBit_nat _ _ (hv.mlt _ (by omega))]
    exact hrep
  · have he : QL R lv ≠ [] := fun e => h0 ((hv.last_zero lv hlv).2 e)
    have hlm : L lv ∈ QL R lv := by rw [hv.tl lv hlv]; exact lastD_mem _ _ he
    obtain ⟨q1, _, _, q4⟩ := hv.spot_le hlm
    refine (tie_more hr lv (id + 1) (L lv) hlv (by omega) hn (by omega) rfl q4 q1 (fun e => push_notin hid lv (e ▸ hlm))).mono ?_
    rintro e w' ⟨he', hrep, honly⟩
    exact ⟨he', ⟨hn, _, _, m, _, _, _, _, _, hrep, inv_push_more hv hi hlv hid he⟩, honly⟩

/-- One that is taken out, wherever it stands. -/
theorem untie_any (w : World) (b g n : Nat) (R1 R2 : List (Nat × Nat)) (id lv : Nat) (h : IsQ w b g n (R1 ++ (id, lv) :: R2)) :
    Calls Try.prog 69 #[.pointer (some ⟨b, 0, none⟩), .int .i64 ((id + 1 : Nat) : Int)] w fun e w' => e = .returned (.tuple #[]) ∧ IsQ w' b g n (R1 ++ R2) ∧ Only b g w w' := by
  have hlen := h.len_le
  obtain ⟨hn, F, L, m, c', A, B, V, T, hr, hv⟩ := h
  obtain ⟨c, rfl⟩ : ∃ c, c' = c + 1 := ⟨c' - 1, by have := hv.cnt; simp at this; omega⟩
  have hc := hv.cnt
  have hcc : c ≤ 1024 := by omega
  have hlv : lv < 256 := (hv.rng (id, lv) (by simp)).2
  have hid : id < n := (hv.rng (id, lv) (by simp)).1
  have hV : V (id + 1) = lv := hv.lev (id, lv) (by simp)
  have hq : QL (R1 ++ (id, lv) :: R2) lv = QL R1 lv ++ (id + 1) :: QL R2 lv := by rw [QL_append, QL_cons, if_pos rfl]
  have hch := hv.ch lv hlv
  rw [hq] at hch
  obtain ⟨hA, hB, _⟩ := chain_mid A B (id + 1) (QL R2 lv) (QL R1 lv) 0 hch
  have hnd := QL_nodup hv.ids lv
  rw [hq, List.nodup_append, List.nodup_cons] at hnd
  have hin1 : ∀ s ∈ QL R1 lv, s ≤ n ∧ 1 ≤ s ∧ s ≠ id + 1 := fun s hs => by
    obtain ⟨a, _, _, d⟩ := hv.spot_le (show s ∈ QL (R1 ++ (id, lv) :: R2) lv by rw [hq]; simp [hs])
    exact ⟨a, d, fun e => hnd.2.2 s hs (id + 1) (by simp) e⟩
  have hin2 : ∀ s ∈ QL R2 lv, s ≤ n ∧ 1 ≤ s ∧ s ≠ id + 1 := fun s hs => by
    obtain ⟨a, _, _, d⟩ := hv.spot_le (show s ∈ QL (R1 ++ (id, lv) :: R2) lv by rw [hq]; simp [hs])
    exact ⟨a, d, fun e => hnd.2.1.1 (e ▸ hs)⟩
  have hFl : F lv ≠ 0 := fun e => by
    have := (hv.first_zero lv hlv).1 e
    rw [hq] at this
    simp at this
  by_cases e1 : QL R1 lv = []
  · by_cases e2 : QL R2 lv = []
    · -- it stands alone
      rw [e1] at hA
      rw [e2] at hB
      refine (untie_only hr (id + 1) lv (by omega) hlv hn hcc hA hB hV).mono ?_
      rintro e w' ⟨he', hrep, honly⟩
      refine ⟨he', ⟨hn, _, _, upd m (lv / 64) (m (lv / 64) &&& (18446744073709551615 - 2 ^ (lv % 64))), _, _, _, _, _, ?_, inv_cut hv (upd F lv 0) (upd L lv 0) _ (upd A (id + 1) 0) (upd B (id + 1) 0) ?_ ?_ ?_ ?_ ?_ ?_⟩, honly⟩
      · rw [← upd_cast, ← andBit_nat _ _ (hv.mlt _ (by omega))]; exact hrep
      · intro k _; rw [e1, e2]; unfold upd; by_cases q : k = lv <;> simp [q]
      · intro k _; rw [e1, e2]; unfold upd; by_cases q : k = lv <;> simp [q]
      · intro s hs; rw [e2, upd_other _ _ _ _ hs]; simp
      · intro s hs; rw [e1, upd_other _ _ _ _ hs]; simp
      · intro k hk
        by_cases q : k = lv
        · subst q; rw [if_pos rfl, upd_same, and_bit _ _ _ (by omega) (by omega), e1, e2]; simp
        · rw [if_neg q]
          by_cases q2 : k / 64 = lv / 64
          · rw [q2, upd_same, and_bit _ _ _ (by omega) (by omega)]
            have : ¬ lv % 64 = k % 64 := by omega
            simp [this]
          · rw [upd_other _ _ _ _ q2]
      · intro i hi'
        by_cases q : i = lv / 64
        · subst q; rw [upd_same]; exact and_lt _ _ (hv.mlt _ hi')
        · rw [upd_other _ _ _ _ q]; exact hv.mlt i hi'
    · -- the first one
      rw [e1] at hA
      obtain ⟨y1, y2, y3⟩ := hin2 _ (headD_mem _ e2)
      refine (untie_head hr (id + 1) lv (by omega) hlv hn hcc ((QL R2 lv).headD 0) hA hB hV y1 y2 y3).mono ?_
      rintro e w' ⟨he', hrep, honly⟩
      refine ⟨he', ⟨hn, _, _, m, _, _, _, _, _, hrep, inv_cut hv _ _ _ _ _ ?_ ?_ ?_ ?_ ?_ hv.mlt⟩, honly⟩
      · intro k _; unfold upd; by_cases q : k = lv <;> simp [q, e1]
      · intro k _; rw [if_neg (fun q => e2 q.2)]
      · intro s hs
        rw [upd_other _ _ _ _ hs, e1]
        unfold upd
        by_cases q : s = (QL R2 lv).headD 0
        · rw [if_pos q, if_pos ⟨e2, q⟩]; rfl
        · rw [if_neg q, if_neg (fun z => q z.2)]
      · intro s hs; rw [upd_other _ _ _ _ hs, if_neg (fun z => z.1 e1)]
      · intro k hk
        by_cases q : k = lv
        · subst q
          rw [if_pos rfl, hv.bit k hk, hq]
          cases hx : QL R2 k with
          | nil => exact absurd hx e2
          | cons x xs => simp [e1]
        · rw [if_neg q]
  · by_cases e2 : QL R2 lv = []
    · -- the last one
      rw [e2] at hB
      obtain ⟨x1, x2, x3⟩ := hin1 _ (lastD_mem _ 0 e1)
      refine (untie_last hr (id + 1) lv (by omega) hlv hn hcc ((QL R1 lv).getLastD 0) (F lv) hA hB hV rfl (by omega) x1 x2 x3).mono ?_
      rintro e w' ⟨he', hrep, honly⟩
      refine ⟨he', ⟨hn, _, _, m, _, _, _, _, _, hrep, inv_cut hv _ _ _ _ _ ?_ ?_ ?_ ?_ ?_ hv.mlt⟩, honly⟩
      · intro k _; rw [if_neg (fun q => e1 q.2)]
      · intro k _; unfold upd; by_cases q : k = lv <;> simp [q, e2]
      · intro s hs; rw [upd_other _ _ _ _ hs, if_neg (fun z => z.1 e2)]
      · intro s hs
        rw [upd_other _ _ _ _ hs, e2]
        unfold upd
        by_cases q : s = (QL R1 lv).getLastD 0
        · rw [if_pos q, if_pos ⟨e1, q⟩]; rfl
        · rw [if_neg q, if_neg (fun z => q z.2)]
      · intro k hk
        by_cases q : k = lv
        · subst q
          rw [if_pos rfl, hv.bit k hk, hq]
          cases hx : QL R1 k with
          | nil => exact absurd hx e1
          | cons x xs => simp
        · rw [if_neg q]
    · -- one between two others
      obtain ⟨x1, x2, x3⟩ := hin1 _ (lastD_mem _ 0 e1)
      obtain ⟨y1, y2, y3⟩ := hin2 _ (headD_mem _ e2)
      refine (untie_mid hr (id + 1) lv (by omega) hlv hn hcc ((QL R1 lv).getLastD 0) ((QL R2 lv).headD 0) (F lv) hA hB hV rfl (by omega) x1 x2 x3 y1 y2 y3).mono ?_
      rintro e w' ⟨he', hrep, honly⟩
      refine ⟨he', ⟨hn, _, _, m, _, _, _, _, _, hrep, inv_cut hv _ _ _ _ _ ?_ ?_ ?_ ?_ ?_ hv.mlt⟩, honly⟩
      · intro k _; rw [if_neg (fun q => e1 q.2)]
      · intro k _; rw [if_neg (fun q => e2 q.2)]
      · intro s hs
        rw [upd_other _ _ _ _ hs]
        unfold upd
        by_cases q : s = (QL R2 lv).headD 0
        · rw [if_pos q, if_pos ⟨e2, q⟩]
        · rw [if_neg q, if_neg (fun z => q z.2)]
      · intro s hs
        rw [upd_other _ _ _ _ hs]
        unfold upd
        by_cases q : s = (QL R1 lv).getLastD 0
        · rw [if_pos q, if_pos ⟨e1, q⟩]
        · rw [if_neg q, if_neg (fun z => q z.2)]
      · intro k hk
        by_cases q : k = lv
        · subst q
          rw [if_pos rfl, hv.bit k hk, hq]
          cases hx : QL R1 k with
          | nil => exact absurd hx e1
          | cons x xs => simp
        · rw [if_neg q]
end Go.Proofs.Ytbefehoegmmgpaa.Bq
