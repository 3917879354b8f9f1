/-
  The walk of the document's Mask.
-/
import Derived.Test.YthehnicmjiidiaaE8
namespace Go.Proofs.Ythehnicmjiidiaa
open Go.RowKit Go.Lib

set_option maxHeartbeats 2000000 in
theorem rMask_walk (w : World) (rb : Nat) (a : Option Addr) (len cap : Nat) (lvs : Nat → Nat) (hrb : rb < w.heap.size) (hl : len ≤ 1024)
    (c1 : w.cell? ⟨rb, 1, none⟩ = some (.slice a len cap)) (hcell : len = 0 ∨ ∃ g, a = some ⟨g, 0, none⟩ ∧ g < w.heap.size ∧ ∀ j, j < len → lvs j < 256 ∧ w.cell? ⟨g, j * 2 + 1, none⟩ = some (.int .u8 (lvs j))) :
    Calls Try.prog 30 #[.pointer (some ⟨rb, 0, none⟩)] w fun e w' => (∃ M : Nat → Nat, e = .returned (.agg #[.int .u64 (M 0), .int .u64 (M 1), .int .u64 (M 2), .int .u64 (M 3)]) ∧ (∀ k, k < 4 → M k < 18446744073709551616) ∧ (∀ k, k < 256 → ((M (k / 64)).testBit (k % 64) = true ↔ ∃ t, t < len ∧ lvs t = k))) ∧ Below w.heap.size w w' := by
  have HC := veil hcell
  have C1 := veil c1
  clear hcell c1
  go_enter Try.func30, Try.ntmps30
  go_wp2
  go_loopw [4] (fun i wr => ∃ (j : Nat) (M : Nat → Nat), j ≤ len ∧ i = .int .i64 j ∧ (∀ k, k < 4 → wr.cell? ⟨w.heap.size + 1, k, none⟩ = some (.int .u64 (M k))) ∧ (∀ k, k < 4 → M k < 18446744073709551616) ∧ (∀ k, k < 256 → ((M (k / 64)).testBit (k % 64) = true ↔ ∃ t, t < j ∧ lvs t = k)) ∧ (∀ k, wr.frozen? ⟨w.heap.size + 1, k, none⟩ = false) ∧
      (∀ k, k < 4 → wr.cell? ⟨w.heap.size, k, none⟩ = some (.int .u64 0)) ∧ (∀ k, wr.frozen? ⟨w.heap.size, k, none⟩ = false) ∧ Below w.heap.size w wr) (fun i _ => len - (intOf i).toNat)
  case atStart =>
    refine ⟨0, fun _ => 0, by omega, rfl, fun k hk => ?_, fun _ _ => Nat.zero_lt_succ _, fun k _ => ?_, fun k => ?_, fun k hk => ?_, fun k => ?_, ?_⟩
    · rw [show w.heap.size + 1 = (w.alloc (.cells #[.int .u64 0, .int .u64 0, .int .u64 0, .int .u64 0] 37)).heap.size by simp, cell_new]
      have : k = 0 ∨ k = 1 ∨ k = 2 ∨ k = 3 := by omega
      rcases this with rfl | rfl | rfl | rfl <;> rfl
    · simp
    · rw [show w.heap.size + 1 = (w.alloc (.cells #[.int .u64 0, .int .u64 0, .int .u64 0, .int .u64 0] 37)).heap.size by simp]
      exact frozen_new _ _ _ _
    · rw [World.cell?_alloc_lt _ _ _ (by simp), cell_new]
      have : k = 0 ∨ k = 1 ∨ k = 2 ∨ k = 3 := by omega
      rcases this with rfl | rfl | rfl | rfl <;> rfl
    · rw [World.frozen?_alloc_past _ _ _ (by simp)]
      exact frozen_new _ _ _ _
    · exact ((Below.refl _ _).alloc (Nat.le_refl _) _).alloc (by simp) _
  case round =>
    obtain ⟨j, M, hj, rfl, hM, hMl, hMb, hMf, hZ, hZf, hbel⟩ := hrel
    have e1 := (hbel.cell (p := ⟨rb, 1, none⟩) hrb).trans C1.out
    by_cases hjl : j < len
    · rcases HC.out with h0 | ⟨g, rfl, hg, hcc⟩
      · omega
      · obtain ⟨hlv, hce⟩ := hcc j hjl
        have e2 := (hbel.cell (p := ⟨g, j * 2 + 1, none⟩) hg).trans hce
        have e3 := hM (lvs j / 64) (by omega)
        have f3 := hMf (lvs j / 64)
        generalize hlj : lvs j = lv at *
        have HM := veil hM
        have HZ := veil hZ
        have HZf := veil hZf
        have HMf := veil hMf
        have HB := veil hbel
        have HMb := veil hMb
        have HMl := veil hMl
        have r1 : Int.tdiv (lv : Int) 64 = ((lv / 64 : Nat) : Int) := by rw [Int.tdiv_eq_ediv_of_nonneg (by omega)]; omega
        have r2 : Int.tmod (lv : Int) 64 = ((lv % 64 : Nat) : Int) := by rw [Int.tmod_eq_emod_of_nonneg (by omega)]; omega
        have r3 : (0 : Int) ≤ ((lv / 64 : Nat) : Int) := by omega
        have r4 : ((lv / 64 : Nat) : Int) < 4 := by omega
        clear hM hZ hZf hMf hbel hMb hMl hcc hce
        go_wp2
        go_region
        go_wp2
        go_roundw
        case rel =>
          have hor := orBit_nat (M (lv / 64)) lv (HMl.out _ (by omega))
          refine ⟨j + 1, upd M (lv / 64) (M (lv / 64) ||| 2 ^ (lv % 64)), by omega, by go_num, fun k hk => ?_, fun k hk => ?_, fun k hk => ?_, fun k => ?_, fun k hk => ?_, fun k => ?_, ?_⟩
          · rw [World.cell?_drew]
            by_cases e : k = lv / 64
            · subst e
              rw [upd_same, ← hor]
              exact set_same _ _ _ _ (HM.out _ hk)
            · rw [upd_other _ _ _ _ e, set_other _ _ _ _ _ _ (by omega)]
              exact HM.out k hk
          · by_cases e : k = lv / 64
            · subst e
              rw [upd_same]
              exact or_lt _ _ (HMl.out _ hk)
            · rw [upd_other _ _ _ _ e]
              exact HMl.out k hk
          · have hold := HMb.out k hk
            have hsplit : (∃ t, t < j + 1 ∧ lvs t = k) ↔ (∃ t, t < j ∧ lvs t = k) ∨ lv = k := by
              constructor
              · rintro ⟨t, ht, e⟩
                by_cases q : t = j
                · subst q; exact .inr (hlj.symm.trans e)
                · exact .inl ⟨t, by omega, e⟩
              · rintro (⟨t, ht, e⟩ | e)
                · exact ⟨t, by omega, e⟩
                · exact ⟨j, by omega, hlj.trans e⟩
            rw [hsplit, ← hold]
            by_cases e : k / 64 = lv / 64
            · rw [e, upd_same, or_bit]
              simp only [Bool.or_eq_true, decide_eq_true_eq]
              constructor
              · rintro (q | q)
                · exact .inl q
                · exact .inr (by omega)
              · rintro (q | q)
                · exact .inl q
                · exact .inr (by omega)
            · rw [upd_other _ _ _ _ e]
              constructor
              · exact fun q => .inl q
              · rintro (q | q)
                · exact q
                · exact absurd (by rw [q]) e
          · rw [World.frozen?_drew, World.frozen?_setCell]; exact HMf.out k
          · rw [World.cell?_drew, set_other _ _ _ _ _ _ (by omega)]; exact HZ.out k hk
          · rw [World.frozen?_drew, World.frozen?_setCell]; exact HZf.out k
          · exact (HB.out.setCell (p := ⟨w.heap.size + 1, lv / 64, none⟩) (by simp) _).drew
        case measure => simp [intOf]; omega
    · have hj' : j = len := by omega
      subst hj'
      have m0 := hM 0 (by omega); have m1 := hM 1 (by omega); have m2 := hM 2 (by omega); have m3 := hM 3 (by omega)
      have z0 := hZ 0 (by omega); have z1 := hZ 1 (by omega); have z2 := hZ 2 (by omega); have z3 := hZ 3 (by omega)
      have q0 := hZf 0; have q1 := hZf 1; have q2 := hZf 2; have q3 := hZf 3
      have HB := veil hbel
      have HMb := veil hMb
      have HMl := veil hMl
      clear hM hZ hZf hMf hbel hMb hMl
      go_wp2
      have hfin : ∃ wf, ((((wr.setCell ⟨w.heap.size, 0, none⟩ (.int .u64 (M 0))).setCell ⟨w.heap.size, 1, none⟩ (.int .u64 (M 1))).setCell ⟨w.heap.size, 2, none⟩ (.int .u64 (M 2))).setCell ⟨w.heap.size, 3, none⟩ (.int .u64 (M 3))) = wf ∧ wf.cell? ⟨w.heap.size, 0, none⟩ = some (.int .u64 (M 0)) ∧ wf.cell? ⟨w.heap.size, 1, none⟩ = some (.int .u64 (M 1)) ∧ wf.cell? ⟨w.heap.size, 2, none⟩ = some (.int .u64 (M 2)) ∧ wf.cell? ⟨w.heap.size, 3, none⟩ = some (.int .u64 (M 3)) ∧ Below w.heap.size w wf := by
        refine ⟨_, rfl, ?_, ?_, ?_, ?_, ?_⟩
        · rw [set_other _ _ _ _ _ _ (by omega), set_other _ _ _ _ _ _ (by omega), set_other _ _ _ _ _ _ (by omega)]
          exact set_same _ _ _ _ z0
        · rw [set_other _ _ _ _ _ _ (by omega), set_other _ _ _ _ _ _ (by omega)]
          exact set_same _ _ _ _ (by rw [set_other _ _ _ _ _ _ (by omega)]; exact z1)
        · rw [set_other _ _ _ _ _ _ (by omega)]
          exact set_same _ _ _ _ (by rw [set_other _ _ _ _ _ _ (by omega), set_other _ _ _ _ _ _ (by omega)]; exact z2)
        · exact set_same _ _ _ _ (by rw [set_other _ _ _ _ _ _ (by omega), set_other _ _ _ _ _ _ (by omega), set_other _ _ _ _ _ _ (by omega)]; exact z3)
        · exact (((HB.out.setCell (p := ⟨w.heap.size, 0, none⟩) (Nat.le_refl _) _).setCell (p := ⟨w.heap.size, 1, none⟩) (Nat.le_refl _) _).setCell (p := ⟨w.heap.size, 2, none⟩) (Nat.le_refl _) _).setCell (p := ⟨w.heap.size, 3, none⟩) (Nat.le_refl _) _
      obtain ⟨wf, hwf, y0, y1, y2, y3, hbf⟩ := hfin
      rw [hwf]
      have HBF := veil hbf
      clear hbf hwf z0 z1 z2 z3 q0 q1 q2 q3 m0 m1 m2 m3
      simp [bodyPost, results, Try.results30, go_sem, y0, y1, y2, y3]
      exact ⟨⟨M, ⟨rfl, rfl, rfl, rfl⟩, HMl.out, HMb.out⟩, HBF.out⟩

/-- The words of the levels at which there is one. -/
def MaskOf (R : List (Nat × Nat)) (m : Nat → Nat) : Prop := (∀ i, i < 4 → m i < 18446744073709551616) ∧ ∀ k, k < 256 → ((m (k / 64)).testBit (k % 64) = true ↔ ∃ it ∈ R, it.2 = k)
theorem mask_uniq {R : List (Nat × Nat)} {m m' : Nat → Nat} (h : MaskOf R m) (h' : MaskOf R m') (i : Nat) (hi : i < 4) : m i = m' i := by
  apply Nat.eq_of_testBit_eq
  intro k
  by_cases hk : k < 64
  · have a1 := h.2 (i * 64 + k) (by omega)
    have a2 := h'.2 (i * 64 + k) (by omega)
    rw [show (i * 64 + k) / 64 = i by omega, show (i * 64 + k) % 64 = k by omega] at a1 a2
    rw [Bool.eq_iff_iff, a1, a2]
  · have b1 : (m i).testBit k = false := Nat.testBit_lt_two_pow (Nat.lt_of_lt_of_le (show m i < 2 ^ 64 from h.1 i hi) (Nat.pow_le_pow_right (by decide) (by omega)))
    have b2 : (m' i).testBit k = false := Nat.testBit_lt_two_pow (Nat.lt_of_lt_of_le (show m' i < 2 ^ 64 from h'.1 i hi) (Nat.pow_le_pow_right (by decide) (by omega)))
    rw [b1, b2]
theorem inv_mask {n : Nat} {F L m : Nat → Nat} {c : Nat} {A B V : Nat → Nat} {T : Nat → Bool} {R : List (Nat × Nat)} (h : Inv n F L m c A B V T R) : MaskOf R m := by
  refine ⟨h.mlt, fun k hk => ?_⟩
  rw [h.bit k hk]
  constructor
  · intro q
    cases hq : QL R k with
    | nil => rw [hq] at q; simp at q
    | cons s r =>
      obtain ⟨it, a, b, _⟩ := mem_QL.1 (show s ∈ QL R k by rw [hq]; simp)
      exact ⟨it, a, b⟩
  · rintro ⟨it, a, b⟩
    have : it.1 + 1 ∈ QL R k := mem_QL.2 ⟨it, a, b, rfl⟩
    cases hq : QL R k with
    | nil => rw [hq] at this; cases this
    | cons s r => rfl
theorem IsQ.mask_ex {w : World} {b g n : Nat} {R : List (Nat × Nat)} (h : IsQ w b g n R) : ∃ m, MaskOf R m := by
  obtain ⟨hn, F, L, m, c, A, B, V, T, hr, hv⟩ := h
  exact ⟨m, inv_mask hv⟩
theorem mask_ok {w : World} {b g n : Nat} {R : List (Nat × Nat)} (h : IsQ w b g n R) (m : Nat → Nat) (hm : MaskOf R m) :
    Calls Try.prog 15 #[.pointer (some ⟨b, 0, none⟩)] w fun e w' => e = .returned (.agg #[.int .u64 (m 0), .int .u64 (m 1), .int .u64 (m 2), .int .u64 (m 3)]) ∧ Below w.heap.size w w' := by
  obtain ⟨hn, F, L, m', c, A, B, V, T, hr, hv⟩ := h
  have hi := inv_mask hv
  rw [mask_uniq hm hi 0 (by omega), mask_uniq hm hi 1 (by omega), mask_uniq hm hi 2 (by omega), mask_uniq hm hi 3 (by omega)]
  refine (mask_rep hr).mono ?_
  rintro e w' ⟨he, d, rfl⟩
  exact ⟨he, (Below.refl _ _).alloc (Nat.le_refl _) _⟩
theorem rMask_ok {w : World} {base rb n : Nat} {v : Value} {R : List (Nat × Nat)} (h : IsRef w base rb n v R) (m : Nat → Nat) (hm : MaskOf R m) :
    Calls Try.prog 30 #[.pointer (some ⟨rb, 0, none⟩)] w fun e w' => e = .returned (.agg #[.int .u64 (m 0), .int .u64 (m 1), .int .u64 (m 2), .int .u64 (m 3)]) ∧ Below w.heap.size w w' := by
  obtain ⟨a, cap, rfl, hcap, _⟩ := h.form
  refine (rMask_walk w rb a R.length cap (fun j => (R.getD j (0, 0)).2) h.lt h.len_le h.c1 ?_).mono ?_
  · by_cases hR : R = []
    · exact .inl (by rw [hR]; rfl)
    · obtain ⟨g, cap', hv, _, _, h3, _, h5⟩ := h.cells hR
      simp at hv
      refine .inr ⟨g, hv.1, h3, fun j hj => ?_⟩
      have e : R[j]? = some (R.getD j (0, 0)) := by simp [List.getD, hj]
      exact ⟨(h.rng _ (List.mem_of_getElem? e)).2, (h5 j _ e).2⟩
  · rintro e w' ⟨⟨M, he, h1, h2⟩, hb⟩
    have hM : MaskOf R M := by
      refine ⟨h1, fun k hk => (h2 k hk).trans ?_⟩
      constructor
      · rintro ⟨t, ht, e⟩
        exact ⟨R.getD t (0, 0), by simp [List.getD, ht], e⟩
      · rintro ⟨it, hit, e⟩
        obtain ⟨t, ht, e2⟩ := List.getElem_of_mem hit
        exact ⟨t, ht, by simp [List.getD, ht, e2, e]⟩
    rw [mask_uniq hm hM 0 (by omega), mask_uniq hm hM 1 (by omega), mask_uniq hm hM 2 (by omega), mask_uniq hm hM 3 (by omega)]
    exact ⟨he, hb⟩
end Go.Proofs.Ythehnicmjiidiaa
