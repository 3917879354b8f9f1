/-
  A push and a removal keep to what the arrays and links say: lists alone, no walk.
-/
import Derived.Test.YtbefehoegmmgpaaQ4
namespace Go.Proofs.Ytbefehoegmmgpaa.Bq

theorem QL_pos {R : List (Nat × Nat)} {lv s : Nat} (h : s ∈ QL R lv) : 1 ≤ s := by
  obtain ⟨it, _, _, e⟩ := mem_QL.1 h; omega
theorem headD_mem : ∀ (l : List Nat), l ≠ [] → l.headD 0 ∈ l
  | [], h => absurd rfl h
  | x :: xs, _ => by simp

section
variable {n : Nat} {F L m : Nat → Nat} {c : Nat} {A B V : Nat → Nat} {T : Nat → Bool} {R : List (Nat × Nat)}

theorem Inv.spot_le (h : Inv n F L m c A B V T R) {lv s : Nat} (hs : s ∈ QL R lv) : s ≤ n ∧ T s = true ∧ V s = lv ∧ 1 ≤ s := by
  obtain ⟨it, hi, e1, e2⟩ := mem_QL.1 hs
  have hr := h.rng it hi
  subst e2
  exact ⟨by omega, (h.there _ (by omega)).2 ⟨it, hi, rfl⟩, (h.lev it hi).trans e1, by omega⟩
theorem Inv.last_zero (h : Inv n F L m c A B V T R) (lv : Nat) (hlv : lv < 256) : L lv = 0 ↔ QL R lv = [] := by
  rw [h.tl lv hlv]
  constructor
  · intro e
    apply Classical.byContradiction
    intro hne
    have := QL_pos (lastD_mem (QL R lv) 0 hne)
    omega
  · intro e; rw [e]; rfl
theorem Inv.first_zero (h : Inv n F L m c A B V T R) (lv : Nat) (hlv : lv < 256) : F lv = 0 ↔ QL R lv = [] := by
  rw [h.hd lv hlv]
  constructor
  · intro e
    apply Classical.byContradiction
    intro hne
    have := QL_pos (headD_mem (QL R lv) hne)
    omega
  · intro e; rw [e]; rfl

theorem push_ids {id lv : Nat} (h : Inv n F L m c A B V T R) (hid : ∀ it ∈ R, it.1 ≠ id) : ((R ++ [(id, lv)]).map (·.1)).Nodup := by
  rw [List.map_append, List.nodup_append]
  refine ⟨h.ids, by simp, ?_⟩
  intro a ha b hb
  simp at hb
  subst hb
  obtain ⟨it, hi, rfl⟩ := List.mem_map.1 ha
  exact hid it hi
theorem push_rng {id lv : Nat} (h : Inv n F L m c A B V T R) (hi : id < n) (hlv : lv < 256) : ∀ it ∈ R ++ [(id, lv)], it.1 < n ∧ it.2 < 256 := by
  intro it hit
  rcases List.mem_append.1 hit with a | a
  · exact h.rng it a
  · simp at a; subst a; exact ⟨hi, hlv⟩
theorem push_there {id lv : Nat} (h : Inv n F L m c A B V T R) : ∀ s, s ≤ n → (upd T (id + 1) true s = true ↔ ∃ it ∈ R ++ [(id, lv)], it.1 + 1 = s) := by
  intro s hs
  by_cases e : s = id + 1
  · subst e; rw [upd_same]; simp
  · rw [upd_other _ _ _ _ e, h.there s hs]
    constructor
    · rintro ⟨it, a, b⟩; exact ⟨it, by simp [a], b⟩
    · rintro ⟨it, a, b⟩
      rcases List.mem_append.1 a with a | a
      · exact ⟨it, a, b⟩
      · simp at a; subst a; exact absurd b.symm e
theorem push_lev {id lv : Nat} (h : Inv n F L m c A B V T R) (hid : ∀ it ∈ R, it.1 ≠ id) : ∀ it ∈ R ++ [(id, lv)], upd V (id + 1) lv (it.1 + 1) = it.2 := by
  intro it hit
  rcases List.mem_append.1 hit with a | a
  · rw [upd_other _ _ _ _ (by have := hid it a; omega)]; exact h.lev it a
  · simp at a; subst a; exact upd_same _ _ _
theorem push_nolev {id lv : Nat} (h : Inv n F L m c A B V T R) : ∀ s, s ≤ n → upd T (id + 1) true s = false → upd V (id + 1) lv s = 0 := by
  intro s hs ht
  by_cases e : s = id + 1
  · subst e; rw [upd_same] at ht; cases ht
  · rw [upd_other _ _ _ _ e] at ht ⊢; exact h.nolev s hs ht
theorem push_notin {id : Nat} (hid : ∀ it ∈ R, it.1 ≠ id) (k : Nat) : id + 1 ∉ QL R k := by
  intro hm
  obtain ⟨it, a, _, e⟩ := mem_QL.1 hm
  exact hid it a (by omega)

theorem inv_push_first {id lv : Nat} (h : Inv n F L m c A B V T R) (hi : id < n) (hlv : lv < 256) (hid : ∀ it ∈ R, it.1 ≠ id) (he : QL R lv = []) :
    Inv n (upd F lv (id + 1)) (upd L lv (id + 1)) (upd m (lv / 64) (m (lv / 64) ||| 2 ^ (lv % 64))) (c + 1) (upd A (id + 1) 0) (upd B (id + 1) 0) (upd V (id + 1) lv) (upd T (id + 1) true) (R ++ [(id, lv)]) where
  ids := push_ids h hid
  rng := push_rng h hi hlv
  there := push_there h
  lev := push_lev h hid
  nolev := push_nolev h
  ch := by
    intro k hk
    rw [QL_snoc]
    split
    · rename_i e; subst e
      rw [he]
      exact ⟨upd_same _ _ _, upd_same _ _ _, trivial⟩
    · refine chain_congr A B _ _ _ _ (fun s hs => ?_) (h.ch k hk)
      have hne : s ≠ id + 1 := fun e => push_notin hid k (e ▸ hs)
      exact ⟨upd_other _ _ _ _ hne, upd_other _ _ _ _ hne⟩
  hd := by
    intro k hk
    rw [QL_snoc]
    split
    · rename_i e; subst e; rw [he, upd_same]; rfl
    · rename_i e; rw [upd_other _ _ _ _ e]; exact h.hd k hk
  tl := by
    intro k hk
    rw [QL_snoc]
    split
    · rename_i e; subst e; rw [he, upd_same]; rfl
    · rename_i e; rw [upd_other _ _ _ _ e]; exact h.tl k hk
  bit := by
    intro k hk
    rw [QL_snoc]
    by_cases e : k = lv
    · subst e; rw [if_pos rfl, upd_same, or_bit]; simp
    · rw [if_neg e]
      by_cases e2 : k / 64 = lv / 64
      · rw [e2, upd_same, or_bit, ← e2, h.bit k hk]
        have : ¬ lv % 64 = k % 64 := by omega
        simp [this]
      · rw [upd_other _ _ _ _ e2]; exact h.bit k hk
  mlt := by
    intro i hi'
    by_cases e : i = lv / 64
    · subst e; rw [upd_same]; exact or_lt _ _ (h.mlt _ hi')
    · rw [upd_other _ _ _ _ e]; exact h.mlt i hi'
  cnt := by rw [h.cnt]; simp

theorem inv_push_more {id lv : Nat} (h : Inv n F L m c A B V T R) (hi : id < n) (hlv : lv < 256) (hid : ∀ it ∈ R, it.1 ≠ id) (he : QL R lv ≠ []) :
    Inv n F (upd L lv (id + 1)) m (c + 1) (upd A (id + 1) (L lv)) (upd (upd B (id + 1) 0) (L lv) (id + 1)) (upd V (id + 1) lv) (upd T (id + 1) true) (R ++ [(id, lv)]) where
  ids := push_ids h hid
  rng := push_rng h hi hlv
  there := push_there h
  lev := push_lev h hid
  nolev := push_nolev h
  ch := by
    intro k hk
    have hlm : L lv ∈ QL R lv := by rw [h.tl lv hlv]; exact lastD_mem _ _ he
    have hls : L lv ≠ id + 1 := fun e => push_notin hid lv (e ▸ hlm)
    rw [QL_snoc]
    split
    · rename_i e; subst e
      refine chain_snoc A B _ _ _ _ _ (QL_nodup h.ids _) (h.ch k hk) ?_ ?_ (fun s hs => ?_) (fun s hs => ?_)
      · rw [upd_same]; exact h.tl k hk
      · rw [upd_other _ _ _ _ (Ne.symm hls), upd_same]
      · exact upd_other _ _ _ _ (fun e => push_notin hid k (e ▸ hs))
      · rw [← h.tl k hk]
        by_cases e : s = L k
        · subst e; rw [upd_same, if_pos rfl]
        · have hne : s ≠ id + 1 := fun e' => push_notin hid k (e' ▸ hs)
          rw [upd_other _ _ _ _ e, if_neg e, upd_other _ _ _ _ hne]
    · rename_i e
      refine chain_congr A B _ _ _ _ (fun s hs => ?_) (h.ch k hk)
      have hne : s ≠ id + 1 := fun e => push_notin hid k (e ▸ hs)
      have hnl : s ≠ L lv := by
        rintro rfl
        have a := (h.spot_le hs).2.2.1
        have b := (h.spot_le hlm).2.2.1
        omega
      exact ⟨upd_other _ _ _ _ hne, by rw [upd_other _ _ _ _ hnl, upd_other _ _ _ _ hne]⟩
  hd := by
    intro k hk
    rw [QL_snoc]
    split
    · rename_i e; subst e
      rw [h.hd k hk]
      cases hq : QL R k with
      | nil => exact absurd hq he
      | cons x xs => rfl
    · exact h.hd k hk
  tl := by
    intro k hk
    rw [QL_snoc]
    split
    · rename_i e; subst e; rw [upd_same]; simp
    · rename_i e; rw [upd_other _ _ _ _ e]; exact h.tl k hk
  bit := by
    intro k hk
    rw [QL_snoc]
    by_cases e : k = lv
    · subst e
      rw [if_pos rfl, h.bit k hk]
      cases hq : QL R k with
      | nil => exact absurd hq he
      | cons x xs => rfl
    · rw [if_neg e]; exact h.bit k hk
  mlt := h.mlt
  cnt := by rw [h.cnt]; simp
end

theorem QL_append (R1 R2 : List (Nat × Nat)) (k : Nat) : QL (R1 ++ R2) k = QL R1 k ++ QL R2 k := by
  unfold QL; rw [List.filter_append, List.map_append]
theorem QL_cons (id lv : Nat) (R : List (Nat × Nat)) (k : Nat) : QL ((id, lv) :: R) k = if k = lv then (id + 1) :: QL R k else QL R k := by
  unfold QL
  by_cases h : k = lv
  · subst h; simp
  · rw [if_neg h]
    have : (lv == k) = false := by rw [beq_eq_false_iff_ne]; exact fun e => h e.symm
    simp [this]

section
variable {n : Nat} {F L m : Nat → Nat} {c : Nat} {A B V : Nat → Nat} {T : Nat → Bool} {R1 R2 : List (Nat × Nat)} {id lv : Nat}

theorem cut_ids (h : Inv n F L m (c + 1) A B V T (R1 ++ (id, lv) :: R2)) : ((R1 ++ R2).map (·.1)).Nodup ∧ (∀ it ∈ R1 ++ R2, it.1 ≠ id) := by
  have h0 := h.ids
  rw [List.map_append, List.map_cons, List.nodup_append, List.nodup_cons] at h0
  obtain ⟨a, ⟨b1, b2⟩, d⟩ := h0
  constructor
  · rw [List.map_append, List.nodup_append]
    exact ⟨a, b2, fun x hx y hy => d x hx y (by simp [hy])⟩
  · intro it hit e
    rcases List.mem_append.1 hit with q | q
    · exact d it.1 (List.mem_map_of_mem q) id (by simp) e
    · exact b1 (by have := List.mem_map_of_mem (f := fun x : Nat × Nat => x.1) q; rw [← e]; exact this)

/-- What the arrays and links must have become when one is taken out. -/
theorem inv_cut (h : Inv n F L m (c + 1) A B V T (R1 ++ (id, lv) :: R2)) (F' L' m' A' B' : Nat → Nat)
    (hF : ∀ k, k < 256 → F' k = if k = lv ∧ QL R1 lv = [] then (QL R2 lv).headD 0 else F k)
    (hL : ∀ k, k < 256 → L' k = if k = lv ∧ QL R2 lv = [] then (QL R1 lv).getLastD 0 else L k)
    (hA : ∀ s, s ≠ id + 1 → A' s = if QL R2 lv ≠ [] ∧ s = (QL R2 lv).headD 0 then (QL R1 lv).getLastD 0 else A s)
    (hB : ∀ s, s ≠ id + 1 → B' s = if QL R1 lv ≠ [] ∧ s = (QL R1 lv).getLastD 0 then (QL R2 lv).headD 0 else B s)
    (hm : ∀ k, k < 256 → (m' (k / 64)).testBit (k % 64) = if k = lv then !(QL R1 lv ++ QL R2 lv).isEmpty else (m (k / 64)).testBit (k % 64))
    (hml : ∀ i, i < 4 → m' i < 18446744073709551616) :
    Inv n F' L' m' c A' B' (upd V (id + 1) 0) (upd T (id + 1) false) (R1 ++ R2) := by
  obtain ⟨hids, hnot⟩ := cut_ids h
  have hmem : ∀ it, it ∈ R1 ++ R2 → it ∈ R1 ++ (id, lv) :: R2 := by
    intro it hit
    rcases List.mem_append.1 hit with q | q
    · exact List.mem_append_left _ q
    · exact List.mem_append_right _ (List.mem_cons_of_mem _ q)
  have hlv : lv < 256 := (h.rng (id, lv) (by simp)).2
  have hq : QL (R1 ++ (id, lv) :: R2) lv = QL R1 lv ++ (id + 1) :: QL R2 lv := by rw [QL_append, QL_cons, if_pos rfl]
  have hqo : ∀ k, k ≠ lv → QL (R1 ++ (id, lv) :: R2) k = QL (R1 ++ R2) k := by
    intro k hk; rw [QL_append, QL_cons, if_neg hk, QL_append]
  have hnd := QL_nodup h.ids lv
  rw [hq] at hnd
  have hch := h.ch lv hlv
  rw [hq] at hch
  have hnd2 := hnd
  rw [List.nodup_append, List.nodup_cons] at hnd2
  have hn1 : ∀ s ∈ QL R1 lv, s ≠ id + 1 := fun s hs e => hnd2.2.2 s hs (id + 1) (by simp) e
  have hn2 : ∀ s ∈ QL R2 lv, s ≠ id + 1 := fun s hs e => hnd2.2.1.1 (e ▸ hs)
  have hn12 : ∀ s ∈ QL R1 lv, s ∉ QL R2 lv := fun s hs hs2 => hnd2.2.2 s hs s (by simp [hs2]) rfl
  refine ⟨hids, fun it hit => h.rng it (hmem it hit), ?_, ?_, ?_, ?_, ?_, ?_, ?_, hml, ?_⟩
  · intro s hs
    by_cases e : s = id + 1
    · subst e
      rw [upd_same]
      constructor
      · intro hf; cases hf
      · rintro ⟨it, hit, e⟩; exact absurd (by omega) (hnot it hit)
    · rw [upd_other _ _ _ _ e, h.there s hs]
      constructor
      · rintro ⟨it, hit, e'⟩
        rcases List.mem_append.1 hit with q | q
        · exact ⟨it, List.mem_append_left _ q, e'⟩
        · rcases List.mem_cons.1 q with q | q
          · subst q; exact absurd e'.symm e
          · exact ⟨it, List.mem_append_right _ q, e'⟩
      · rintro ⟨it, hit, e'⟩; exact ⟨it, hmem it hit, e'⟩
  · intro it hit
    rw [upd_other _ _ _ _ (by have := hnot it hit; omega)]
    exact h.lev it (hmem it hit)
  · intro s hs ht
    by_cases e : s = id + 1
    · subst e; exact upd_same _ _ _
    · rw [upd_other _ _ _ _ e] at ht ⊢; exact h.nolev s hs ht
  · intro k hk
    by_cases e : k = lv
    · subst e
      rw [QL_append]
      refine chain_remove A B A' B' (id + 1) (QL R2 k) (QL R1 k) 0 hnd hch (fun s hs => ?_) (fun s hs => ?_) (fun s hs => ?_) (fun s hs => ?_)
      · rw [hA s (hn1 s hs), if_neg]
        rintro ⟨hne, e⟩
        exact hn12 s hs (by rw [e]; exact headD_mem _ hne)
      · rw [hA s (hn2 s hs)]
        have hne : QL R2 k ≠ [] := by intro e; rw [e] at hs; cases hs
        by_cases e : s = (QL R2 k).headD 0
        · rw [if_pos ⟨hne, e⟩, if_pos e]
        · rw [if_neg (fun q => e q.2), if_neg e]
      · rw [hB s (hn1 s hs)]
        have hne : QL R1 k ≠ [] := by intro e; rw [e] at hs; cases hs
        by_cases e : s = (QL R1 k).getLastD 0
        · rw [if_pos ⟨hne, e⟩, if_pos e]
        · rw [if_neg (fun q => e q.2), if_neg e]
      · rw [hB s (hn2 s hs), if_neg]
        rintro ⟨hne, e⟩
        exact hn12 s (by rw [e]; exact lastD_mem _ _ hne) hs
    · rw [← hqo k e]
      refine chain_congr A B A' B' _ _ (fun s hs => ?_) (h.ch k hk)
      have hv := (h.spot_le hs).2.2.1
      have hns : s ≠ id + 1 := by
        rintro rfl
        have := h.lev (id, lv) (by simp)
        simp only at this
        omega
      constructor
      · rw [hA s hns, if_neg]
        rintro ⟨hne, e'⟩
        have hin : s ∈ QL (R1 ++ (id, lv) :: R2) lv := by rw [hq, e']; exact List.mem_append_right _ (List.mem_cons_of_mem _ (headD_mem _ hne))
        have := (h.spot_le hin).2.2.1
        omega
      · rw [hB s hns, if_neg]
        rintro ⟨hne, e'⟩
        have hin : s ∈ QL (R1 ++ (id, lv) :: R2) lv := by rw [hq, e']; exact List.mem_append_left _ (lastD_mem _ _ hne)
        have := (h.spot_le hin).2.2.1
        omega
  · intro k hk
    rw [hF k hk]
    by_cases e : k = lv
    · subst e
      rw [QL_append]
      by_cases e1 : QL R1 k = []
      · rw [if_pos ⟨rfl, e1⟩, e1]; rfl
      · rw [if_neg (fun q => e1 q.2), h.hd k hk, hq]
        cases hx : QL R1 k with
        | nil => exact absurd hx e1
        | cons x xs => rfl
    · rw [if_neg (fun q => e q.1), h.hd k hk, hqo k e]
  · intro k hk
    rw [hL k hk]
    by_cases e : k = lv
    · subst e
      rw [QL_append]
      by_cases e1 : QL R2 k = []
      · rw [if_pos ⟨rfl, e1⟩, e1, List.append_nil]
      · rw [if_neg (fun q => e1 q.2), h.tl k hk, hq]
        cases hx : QL R2 k with
        | nil => exact absurd hx e1
        | cons x xs => simp [List.getLastD_eq_getLast?]
    · rw [if_neg (fun q => e q.1), h.tl k hk, hqo k e]
  · intro k hk
    rw [hm k hk]
    by_cases e : k = lv
    · subst e; rw [if_pos rfl, QL_append]
    · rw [if_neg e, h.bit k hk, hqo k e]
  · have := h.cnt
    simp at this ⊢
    omega
end
end Go.Proofs.Ytbefehoegmmgpaa.Bq
