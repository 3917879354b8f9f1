/- The document's wheel: its items in the order of times; Set, Cancel, first, Advance, At, Next. -/
import Derived.Test.YtjmbadadelelfaaWc1
namespace Go.Proofs.Ytjmbadadelelfaa
open Go.RowKit Go.Lib
set_option linter.unusedVariables false
set_option linter.unusedSimpArgs false
attribute [local go_sem ↓] Go.wp_at_zero Go.wp_at_succ
/-- Items as they were set, in the order of their times. -/
def sortS (R : List It) : List It := R.foldl (fun S x => ins x S) []
theorem sortS_snoc (R : List It) (x : It) : sortS (R ++ [x]) = ins x (sortS R) := by unfold sortS; rw [List.foldl_append]; rfl
theorem snoc_ind {P : List It → Prop} (h0 : P []) (h1 : ∀ R x, P R → P (R ++ [x])) : ∀ R, P R := fun R => by
  have : ∀ n (R : List It), R.length = n → P R := fun n => by
    induction n with
    | zero => intro R h; rw [List.length_eq_zero_iff.1 h]; exact h0
    | succ n ih =>
      intro R h
      rcases R.eq_nil_or_concat with rfl | ⟨R', x, rfl⟩
      · exact h0
      · rw [List.concat_eq_append]
        exact h1 R' x (ih R' (by simp at h; omega))
  exact this _ R rfl
theorem sortS_srt (R : List It) : Srt (sortS R) := by
  refine snoc_ind (P := fun R => Srt (sortS R)) List.Pairwise.nil (fun R x ih => ?_) R
  rw [sortS_snoc]
  exact ih.ins x
theorem sortS_perm (R : List It) : (sortS R).Perm R := by
  refine snoc_ind (P := fun R => (sortS R).Perm R) (List.Perm.refl _) (fun R x ih => ?_) R
  rw [sortS_snoc]
  refine (ins_perm (sortS_srt R)).trans ?_
  exact (List.Perm.cons x ih).trans (List.perm_append_comm (l₁ := [x]) (l₂ := R))
theorem sortS_filter (R : List It) (q : It → Bool) : sortS (R.filter q) = (sortS R).filter q := by
  refine snoc_ind (P := fun R => sortS (R.filter q) = (sortS R).filter q) rfl (fun R x ih => ?_) R
  rw [sortS_snoc, filter_ins (sortS_srt R), List.filter_append]
  by_cases h : q x = true
  · rw [if_pos h, ← ih]
    simp only [List.filter_cons, h, if_true, List.filter_nil]
    exact sortS_snoc _ _
  · rw [if_neg h, ← ih]
    simp [h]
theorem mem_sortS {R : List It} {x : It} : x ∈ sortS R ↔ x ∈ R := (sortS_perm R).mem_iff
theorem sortS_len (R : List It) : (sortS R).length = R.length := (sortS_perm R).length_eq
/-- x is the first of all. -/
theorem sortS_first {R1 : List It} {x : It} (h1 : ∀ y ∈ R1, x.t < y.t) : ∀ R2 : List It, (∀ y ∈ R2, x.t ≤ y.t) → sortS (R1 ++ x :: R2) = x :: sortS (R1 ++ R2) := by
  intro R2
  refine snoc_ind (P := fun R2 => (∀ y ∈ R2, x.t ≤ y.t) → sortS (R1 ++ x :: R2) = x :: sortS (R1 ++ R2)) (fun _ => ?_) (fun R2 y ih h => ?_) R2
  · rw [sortS_snoc, List.append_nil]
    have e1 : (sortS R1).filter (fun y => decide (y.t ≤ x.t)) = [] := List.filter_eq_nil_iff.2 (fun y hy => by have := h1 y (mem_sortS.1 hy); simp; omega)
    have e2 : (sortS R1).filter (fun y => !decide (y.t ≤ x.t)) = sortS R1 := List.filter_eq_self.2 (fun y hy => by have := h1 y (mem_sortS.1 hy); simp; omega)
    unfold ins
    rw [e1, e2]
    rfl
  · have hy := h y (by simp)
    rw [show R1 ++ x :: (R2 ++ [y]) = (R1 ++ x :: R2) ++ [y] by simp, sortS_snoc, ih (fun z hz => h z (by simp [hz])), ← List.append_assoc, sortS_snoc]
    unfold ins
    rw [List.filter_cons, List.filter_cons]
    simp [hy]
theorem Good.ofSort {n : Nat} {R : List It} (h : Good n R) : ((sortS R).map (·.i)).Nodup := ((sortS_perm R).map _).nodup_iff.2 h.ids
theorem tmOf_sort {R : List It} (h : (R.map (·.i)).Nodup) (id : Nat) : tmOf (sortS R) (id : Int) = tmOf R (id : Int) := by
  have h2 : ((sortS R).map (·.i)).Nodup := ((sortS_perm R).map _).nodup_iff.2 h
  cases hx : tmOf R (id : Int) with
  | none => exact tmOf_none.2 (fun x hx' => tmOf_none.1 hx x (mem_sortS.1 hx'))
  | some t => exact (tmOf_some h2).2 (mem_sortS.2 ((tmOf_some h).1 hx))
section
variable {w : World} {base rb n nw : Nat} {v : Value} {R R1 R2 : List It} {x : It}
theorem rset_range (h : IsR w base rb n nw v R) (id t : Int) (hi : id < 0 ∨ (n : Int) ≤ id) :
    Calls Try.prog 48 #[.pointer (some ⟨rb, 0, none⟩), .int .i64 id, .int .u64 t] w fun e w' => e = .returned (.int .i64 2) ∧ w' = w := by
  have e0 := h.c0
  clear h
  by_cases h0 : id < 0
  all_goals
    go_enter Try.func48, Try.ntmps48
    go_wp2
    go_ret
    exact ⟨rfl, rfl⟩
theorem rset_some (h : IsR w base rb n nw v (R1 ++ x :: R2)) (t : Int) :
    Calls Try.prog 48 #[.pointer (some ⟨rb, 0, none⟩), .int .i64 (x.i : Int), .int .u64 t] w fun e w' => e = .returned (.int .i64 5) ∧ w' = w := by
  have e0 := h.c0
  have hk := h.good.rng x (by simp)
  have hn := h.nle
  have hk1 : ¬ (x.i : Int) < 0 := by omega
  have hk2 : ¬ (n : Int) ≤ (x.i : Int) := by omega
  have HA := veil (rat_some h)
  clear h
  go_enter Try.func48, Try.ntmps48
  go_wp2_with (go_at_call 54; refine (HA.out).mono ?_; rintro e w1 ⟨rfl, hw⟩; replace hw := hw.symm; subst hw)
  go_ret
  exact ⟨rfl, rfl⟩
set_option maxRecDepth 100000 in
set_option maxHeartbeats 2000000 in
theorem rset_none (h : IsR w base rb n nw v R) (id t : Nat) (ht : t < 18446744073709551616) (hi : id < n) (hid : ∀ it ∈ R, it.i ≠ id) :
    Calls Try.prog 48 #[.pointer (some ⟨rb, 0, none⟩), .int .i64 (id : Int), .int .u64 (t : Int)] w fun e w' => e = .returned (.int .i64 0) ∧ (∃ v', IsR w' base rb n nw v' (R ++ [⟨id, t⟩])) ∧ Fr (fun k => k = rb ∨ v.ownBlock = some k) w w' := by
  obtain ⟨i0, hi0, hz0, hz1, hz2⟩ := info_parts infoItem
  have e0 := h.c0
  have e2 := h.c2
  have hn := h.nle
  have hk1 : ¬ (id : Int) < 0 := by omega
  have hk2 : ¬ (n : Int) ≤ (id : Int) := by omega
  have HA := veil (rat_none h id (fun it hit q => hid it hit (by omega)))
  have hlen := h.len_le
  have hrb := h.lt
  have hne := h.ne
  have hbs := h.bs
  obtain ⟨a, cap, rfl, _, _⟩ := h.form
  have HOwn := veil h.own
  have hfz := h.fz
  have HEnd : Hid (∀ w1 v1, (w.alloc (.cells #[.int .i64 (id : Int), .int .u64 (t : Int)] 99)).grownBy w1 (Value.ownBlock (.slice a R.length cap)) → w1.ownsRow base 99 2 v1 (R.length + 1) (itemCells R ++ [.int .i64 (id : Int), .int .u64 (t : Int)]) → w1.cell? ⟨rb, 2, none⟩ = some (.slice a R.length cap) ∧ w1.frozen? ⟨rb, 2, none⟩ = false ∧ (∃ v', IsR (w1.setCell ⟨rb, 2, none⟩ v1) base rb n nw v' (R ++ [⟨id, t⟩])) ∧ Fr (fun k => k = rb ∨ Value.ownBlock (.slice a R.length cap) = some k) w (w1.setCell ⟨rb, 2, none⟩ v1)) := by
    intro w1 v1 hg ho
    have hblk : w1.heap[rb]? = w.heap[rb]? := (hg.block rb (by simp; omega) (fun e => hne e.symm)).trans (Below.heap_alloc _ _ _ hrb)
    have hne1 : v1.ownBlock ≠ some rb := fun e => by
      rcases ho.2 with ⟨hnil, _⟩ | ⟨g', cap', cur', hv', _, hg', _⟩
      · rw [hnil] at e; cases e
      · rw [hv'] at e
        simp [Value.ownBlock] at e
        subst e
        rw [hblk, h.blk] at hg'
        have := (Obj.cells.inj (Option.some.inj hg')).2.1
        revert this
        decide
    have hf : Fr (fun k => k = rb ∨ Value.ownBlock (.slice a R.length cap) = some k) w w1 :=
      ⟨hg.os, hg.tape, hg.output, by have := hg.size; simp at this; omega, fun k hk hn => (hg.block k (by simp; omega) (fun e => hn (.inr e.symm))).trans (Below.heap_alloc _ _ _ hk)⟩
    refine ⟨(World.cell?_of_block (a := ⟨rb, 2, none⟩) hblk).trans e2, (World.frozen?_of_block (a := ⟨rb, 2, none⟩) hblk).trans (hfz 2), ⟨v1, ?_⟩, hf.setCell (a := ⟨rb, 2, none⟩) (.inl rfl) _⟩
    refine IsR.stored (v0 := .slice a R.length cap) (hblk.trans h.blk) ?_ hne1 hn ⟨?_, ?_, ?_⟩ (Nat.le_trans hbs hf.size)
    · rw [itemCells_append, List.length_append]
      exact ho
    · rw [List.map_append, List.nodup_append]
      refine ⟨h.good.ids, by simp, fun a ha c hc e => ?_⟩
      simp at hc
      obtain ⟨y, hy, rfl⟩ := List.mem_map.1 ha
      exact hid y hy (by rw [e, hc])
    · intro y hy
      rcases List.mem_append.1 hy with q | q
      · exact h.good.rng y q
      · simp at q; rw [q]; exact hi
    · intro y hy
      rcases List.mem_append.1 hy with q | q
      · exact h.good.tms y q
      · simp at q; rw [q]; exact ht
  have l1 := itemCells_length R
  have hcl : ∀ j u, [Value.int .i64 (id : Int), .int .u64 (t : Int)][j]? = some u → (w.alloc (.cells #[.int .i64 (id : Int), .int .u64 (t : Int)] 99)).cell? ((⟨w.heap.size, 0, none⟩ : Addr).add j) = some u := by
    intro j u hu
    have hadd : (⟨w.heap.size, 0, none⟩ : Addr).add j = ⟨w.heap.size, j, none⟩ := by unfold Addr.add; split <;> simp_all
    rw [hadd, cell_new]
    simpa using hu
  have HCL := veil hcl
  clear h hid hcl hne hfz
  generalize itemCells R = c1 at *
  go_enter Try.func48, Try.ntmps48
  go_wp2_with (first
    | (go_at_call 54; refine (HA.out).mono ?_; rintro e w1 ⟨rfl, hw⟩; replace hw := hw.symm; subst hw)
    | (at_builtin; refine wpList_append_own _ rfl _ _ 85 rfl base 99 i0 (.agg #[.int .i64 0, .int .u64 0]) 2 16 Try.underlying85 hi0 hz0 hz1 hz2 rfl (by decide) (.slice a R.length cap) R.length c1 rfl (by exact HOwn.out.alloc _) ⟨w.heap.size, 0, none⟩ 1 1 [.int .i64 (id : Int), .int .u64 (t : Int)] rfl rfl HCL.out (by simp [Value.oneCell']) (by unfold maxLen; omega) (by omega) (by simp; omega) ?_; intro v1 w1 hown' hgrow _; obtain ⟨x1, x2, x3, x4⟩ := HEnd.out _ _ hgrow hown'; obtain ⟨a1, d1, rfl⟩ := own_slice hown'; have HX3 := veil x3; have HX4 := veil x4; clear hown' hgrow x3 x4))
  go_ret
  exact ⟨rfl, HX3.out, HX4.out⟩
theorem rcan_range (h : IsR w base rb n nw v R) (id : Int) (hi : id < 0 ∨ (n : Int) ≤ id) :
    Calls Try.prog 49 #[.pointer (some ⟨rb, 0, none⟩), .int .i64 id] w fun e w' => e = .returned (.int .i64 2) ∧ w' = w := by
  have e0 := h.c0
  clear h
  by_cases h0 : id < 0
  all_goals
    go_enter Try.func49, Try.ntmps49
    go_wp2
    go_ret
    exact ⟨rfl, rfl⟩
theorem rcan_none (h : IsR w base rb n nw v R) (id : Nat) (hi : id < n) (hid : ∀ it ∈ R, it.i ≠ id) :
    Calls Try.prog 49 #[.pointer (some ⟨rb, 0, none⟩), .int .i64 (id : Int)] w fun e w' => e = .returned (.int .i64 6) ∧ w' = w := by
  have e0 := h.c0
  have hk1 : ¬ (id : Int) < 0 := by omega
  have hk2 : ¬ (n : Int) ≤ (id : Int) := by omega
  have HA := veil (rat_none h id (fun it hit q => hid it hit (by omega)))
  clear h hid
  go_enter Try.func49, Try.ntmps49
  go_wp2_with (go_at_call 54; refine (HA.out).mono ?_; rintro e w1 ⟨rfl, hw⟩; replace hw := hw.symm; subst hw)
  go_ret
  exact ⟨rfl, rfl⟩
theorem rcan_some (h : IsR w base rb n nw v (R1 ++ x :: R2)) :
    Calls Try.prog 49 #[.pointer (some ⟨rb, 0, none⟩), .int .i64 (x.i : Int)] w fun e w' => e = .returned (.int .i64 0) ∧ (∃ v', IsR w' base rb n nw v' (R1 ++ R2)) ∧ Fr (fun k => k = rb) w w' := by
  have e0 := h.c0
  have hk := h.good.rng x (by simp)
  have hn := h.nle
  have hk1 : ¬ (x.i : Int) < 0 := by omega
  have hk2 : ¬ (n : Int) ≤ (x.i : Int) := by omega
  have HA := veil (rat_some h)
  have HO := veil (rout_ok h)
  clear h
  go_enter Try.func49, Try.ntmps49
  go_wp2_with (first
    | (go_at_call 54; refine (HA.out).mono ?_; rintro e w1 ⟨rfl, hw⟩; replace hw := hw.symm; subst hw)
    | (go_at_call 59; refine (HO.out).mono ?_; rintro e w1 ⟨rfl, hv, hf⟩; have HV := veil hv; have HF := veil hf; clear hv hf))
  go_ret
  exact ⟨rfl, HV.out, HF.out⟩
theorem rnow_ok (h : IsR w base rb n nw v R) :
    Calls Try.prog 36 #[.pointer (some ⟨rb, 0, none⟩)] w fun e w' => e = .returned (.int .u64 (nw : Int)) ∧ w' = w := by
  have e1 := h.c1
  clear h
  go_enter Try.func36, Try.ntmps36
  go_wp2
  go_ret
  exact ⟨rfl, rfl⟩
theorem rlen_ok (h : IsR w base rb n nw v R) :
    Calls Try.prog 37 #[.pointer (some ⟨rb, 0, none⟩)] w fun e w' => e = .returned (.int .i64 (R.length : Int)) ∧ w' = w := by
  obtain ⟨a, cap, rfl, _, _⟩ := h.form
  have e1 := h.c2
  clear h
  go_enter Try.func37, Try.ntmps37
  go_wp2
  go_ret
  exact ⟨rfl, rfl⟩
theorem rAt_none (h : IsR w base rb n nw v R) (id : Int) (hid : ∀ it ∈ R, ¬ (it.i : Int) = id) :
    Calls Try.prog 34 #[.pointer (some ⟨rb, 0, none⟩), .int .i64 id] w fun e w' => e = .returned (.tuple #[.int .u64 0, .bool false]) ∧ w' = w := by
  have HA := veil (rat_none h id hid)
  clear h hid
  go_enter Try.func34, Try.ntmps34
  go_wp2_with (go_at_call 54; refine (HA.out).mono ?_; rintro e w1 ⟨rfl, hw⟩; replace hw := hw.symm; subst hw)
  go_ret2
  exact ⟨rfl, rfl⟩
theorem rAt_some (h : IsR w base rb n nw v (R1 ++ x :: R2)) :
    Calls Try.prog 34 #[.pointer (some ⟨rb, 0, none⟩), .int .i64 (x.i : Int)] w fun e w' => e = .returned (.tuple #[.int .u64 (x.t : Int), .bool true]) ∧ w' = w := by
  have HA := veil (rat_some h)
  obtain ⟨g, cap, rfl, h1, h2, h3, h4, h5⟩ := h.cells (by simp)
  have e2 := h.c2
  have hlen := h.len_le
  have y1 := (h5 R1.length x (by simp)).2
  have hl : (R1 ++ x :: R2).length = R1.length + (R2.length + 1) := by simp
  rw [hl] at e2 hlen
  generalize R1.length = k at *
  generalize R2.length = m at *
  have hk : k < k + (m + 1) := by omega
  clear h h5 hl
  go_enter Try.func34, Try.ntmps34
  go_wp2_with (go_at_call 54; refine (HA.out).mono ?_; rintro e w1 ⟨rfl, hw⟩; replace hw := hw.symm; subst hw)
  go_ret2
  exact ⟨rfl, rfl⟩
end
end Go.Proofs.Ytjmbadadelelfaa
