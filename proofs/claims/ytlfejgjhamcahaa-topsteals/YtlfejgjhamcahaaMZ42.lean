/-
  The document's sets of all processors: Fork.
-/
import Derived.Test.YtlfejgjhamcahaaNe
namespace Go.Proofs.Ytlfejgjhamcahaa
open Go.RowKit Go.Lib
set_option linter.unusedVariables false
attribute [local go_sem ↓] Go.wp_at_zero Go.wp_at_succ

section
variable {w : World} {base rb n np q : Nat} {v : Value} {X : List Hd}
/-- What Fork leaves: others with the same, in blocks of their own. -/
def ForkedD (w : World) (n np q : Nat) (X : List Hd) (e : Ending) (w' : World) : Prop :=
  ∃ (v' : Value) (X' : List Hd), e = .returned (.pointer (some ⟨w.heap.size, 0, none⟩)) ∧ IsD w' w.heap.size w.heap.size n np q v' X' ∧ Ms X' = Ms X ∧ Below w.heap.size w w'
set_option maxHeartbeats 4000000 in
set_option maxRecDepth 20000 in
theorem rforkD_ok (h : IsD w base rb n np q v X) : Calls Try.prog 20 #[.pointer (some ⟨rb, 0, none⟩)] w (ForkedD w n np q X) := by
  obtain ⟨i0, hi0, hz0, hz1, hz2⟩ := info_partsP infoSetD
  obtain ⟨g, cap, rfl, hbg, hgl, hr⟩ := h.rows
  have hnp := h.np1
  have c0 := h.c0
  have c1 := h.c1
  have c2 := h.c2
  have HH := veil h
  have HR := veil hr
  have hpl := h.rbl
  have HF0 : Hid (BldD w (w.alloc (.cells #[.int .i64 (np : Int), .int .i64 (n : Int), .int .i64 (q : Int), .slice none 0 0] 81)).drew w.heap.size w.heap.size n np q (.slice none 0 0) []) :=
    ⟨World.alloc_heap_new w _, World.ownsRow_nil _ _ _ _, by simp, by simp, ⟨Nat.le_refl _, by simp⟩, ((Below.refl _ _).alloc (Nat.le_refl _) _).drew, Nat.le_refl _⟩
  have HS0 : Hid (∀ o, (w.alloc o).cell? ⟨rb, 0, none⟩ = some (.int .i64 (np : Int)) ∧ (w.alloc o).cell? ⟨rb, 1, none⟩ = some (.int .i64 (n : Int)) ∧ (w.alloc o).cell? ⟨rb, 2, none⟩ = some (.int .i64 (q : Int))) := fun o => ⟨(h.below ((Below.refl _ _).alloc (Nat.le_refl _) o)).c0, (h.below ((Below.refl _ _).alloc (Nat.le_refl _) o)).c1, (h.below ((Below.refl _ _).alloc (Nat.le_refl _) o)).c2⟩
  clear h hr
  go_enter Try.func20, Try.ntmps20
  go_wp2
  go_region_held3 (fun w' => w'.cell? ⟨rb, 0, none⟩ = some (.int .i64 (np : Int)) ∧ w'.cell? ⟨rb, 1, none⟩ = some (.int .i64 (n : Int)) ∧ w'.cell? ⟨rb, 2, none⟩ = some (.int .i64 (q : Int)))
    (first
      | exact ⟨c0, c1, c2⟩
      | exact HS0.out _
      | go_keep)
    (first | fail)
  go_wp2
  go_loopw [4] (fun iv wr => ∃ (j : Nat) (v' : Value) (X' : List Hd), j ≤ np + 1 ∧ X'.length = j ∧ iv = .int .i64 j ∧ (∀ (i : Nat) (x' : Hd), X'[i]? = some x' → ∃ x, X[i]? = some x ∧ x'.M = x.M) ∧ BldD w wr w.heap.size w.heap.size n np q v' X') (fun iv _ => np + 1 - (intOf iv).toNat)
  case atStart => exact ⟨0, .slice none 0 0, [], by omega, rfl, rfl, by simp, HF0.out⟩
  case round =>
    obtain ⟨j, v', X', hj, hX, rfl, hM, hB⟩ := hrel
    obtain ⟨a, c, rfl⟩ := Dc.owns_slice hB.row
    have e3 := (hB.bel.cell (p := ⟨rb, 3, none⟩) hpl).trans HH.out.c3
    by_cases hjl : j < np + 1
    · have hjl' : (j : Int) < (np : Int) + 1 := by omega
      obtain ⟨x, hx⟩ := HH.out.at (i := j) (by omega)
      have g1 := (hB.bel.cell (p := ⟨g, j, none⟩) hgl).trans (HR.out j x hx)
      have e0 := hB.cell (Below.refl _ _)
      have HFK : Hid (∀ W, Below wr.heap.size wr W → Calls Try.prog 47 #[.pointer (some ⟨x.sb, 0, none⟩)] W fun e w' => ∃ rb' v', e = .returned (.pointer (some ⟨rb', 0, none⟩)) ∧ W.heap.size ≤ rb' ∧ Dc.IsR w' W.heap.size rb' n n v' x.M ∧ Below W.heap.size W w') := fun W hW => by
        obtain ⟨u, hu⟩ := ((HH.out.below hB.bel).below hW).it j x hx
        exact Dc.rfork_ok hu
      have HAF := veil hB.after
      have HBB := veil hB
      have HHj := veil hX
      have HNX : Hid (∀ y : Hd, y.M = x.M → ∀ (i : Nat) (x' : Hd), (X' ++ [y])[i]? = some x' → ∃ z, X[i]? = some z ∧ x'.M = z.M) := fun y hy i x' hx' => by
        rcases snoc_at hx' with q1 | ⟨e, rfl⟩
        · exact hM i x' q1
        · have : i = j := by omega
          subst this
          exact ⟨x, hx, hy⟩
      have hl64 : X'.length ≤ 65 := by omega
      have HSS : Hid (∀ W, Below w.heap.size w W → W.cell? ⟨rb, 3, none⟩ = some (.slice (some ⟨g, 0, none⟩) (np + 1) cap) ∧ W.cell? ⟨g, j, none⟩ = some (.pointer (some ⟨x.sb, 0, none⟩))) := fun W hW => ⟨(hW.cell (p := ⟨rb, 3, none⟩) hpl).trans HH.out.c3, (hW.cell (p := ⟨g, j, none⟩) hgl).trans (HR.out j x hx)⟩
      clear hB hX hM hx
      go_wp2
      refine wp_region_held_drew (S := (fun w' => w'.cell? ⟨rb, 3, none⟩ = some (.slice (some ⟨g, 0, none⟩) (np + 1) cap) ∧ w'.cell? ⟨g, j, none⟩ = some (.pointer (some ⟨x.sb, 0, none⟩)))) (by kernel_rfl) ?_ (fun hHeld => ?_)
      · exact HSS.out _ HBB.out.bel.drew
      refine wpAnyH_take (i := 0) (v := ?_) rfl (by kernel_rfl) (by kernel_rfl) (by kernel_rfl) (fun _ _ _ h => h) (Or.inl ⟨by rfl, ?v0⟩) (by assumption) ?_
      case v0 => (intro w hSw; (try dsimp only at hSw); go_simp; try with_reducible rfl)
      try simp only [Act.put, List.setIfInBounds_toArray, List.set_cons_zero, List.set_cons_succ, List.getElem_toArray, List.getElem_cons_zero]
      refine wpAnyH_take (i := 1) (v := ?_) rfl (by kernel_rfl) (by kernel_rfl) (by kernel_rfl) (fun _ _ _ h => h) (Or.inl ⟨by rfl, ?v1⟩) (by assumption) ?_
      case v1 => (intro w hSw; (try dsimp only at hSw); go_simp; try with_reducible rfl)
      try simp only [Act.put, List.setIfInBounds_toArray, List.set_cons_zero, List.set_cons_succ, List.getElem_toArray, List.getElem_cons_succ, List.getElem_cons_zero]
      refine wpAnyH_take (i := 2) (v := ?_) rfl (by kernel_rfl) (by kernel_rfl) (by kernel_rfl) (fun _ _ _ h => h) (Or.inl ⟨by rfl, ?v2⟩) (by assumption) ?_
      case v2 => (intro w hSw; (try dsimp only at hSw); go_simp; try with_reducible rfl)
      try simp only [Act.put, List.setIfInBounds_toArray, List.set_cons_zero, List.set_cons_succ, List.getElem_toArray, List.getElem_cons_succ, List.getElem_cons_zero]
      refine wpAnyH_take (i := 3) (v := ?_) rfl (by kernel_rfl) (by kernel_rfl) (by kernel_rfl) (fun _ _ _ h => h) (Or.inl ⟨by rfl, ?v3⟩) (by assumption) ?_
      case v3 => (intro w hSw; (try dsimp only at hSw); go_simp; try with_reducible rfl)
      try simp only [Act.put, List.setIfInBounds_toArray, List.set_cons_zero, List.set_cons_succ, List.getElem_toArray, List.getElem_cons_succ, List.getElem_cons_zero]
      refine wpAnyH_take (i := 5) (v := ?_) rfl (by kernel_rfl) (by kernel_rfl) (by kernel_rfl) (fun _ _ _ h => h) (Or.inl ⟨by rfl, ?v5⟩) (by assumption) ?_
      case v5 => (intro w hSw; (try dsimp only at hSw); go_simp; try with_reducible rfl)
      try simp only [Act.put, List.setIfInBounds_toArray, List.set_cons_zero, List.set_cons_succ, List.getElem_toArray, List.getElem_cons_succ, List.getElem_cons_zero]
      refine wpAnyH_take (i := 6) (v := ?_) rfl (by kernel_rfl) (by kernel_rfl) (by kernel_rfl) (fun _ _ _ h => h) (Or.inl ⟨by rfl, ?v6⟩) (by assumption) ?_
      case v6 => (intro w hSw; (try dsimp only at hSw); go_simp; try with_reducible rfl)
      try simp only [Act.put, List.setIfInBounds_toArray, List.set_cons_zero, List.set_cons_succ, List.getElem_toArray, List.getElem_cons_succ, List.getElem_cons_zero]
      refine wpAnyH_take (i := 7) (v := ?_) rfl (by kernel_rfl) (by kernel_rfl) (by kernel_rfl) (fun _ _ _ h => h) (Or.inl ⟨by rfl, ?v7⟩) (by assumption) ?_
      case v7 => (intro w hSw; (try dsimp only at hSw); go_simp; try with_reducible rfl)
      try simp only [Act.put, List.setIfInBounds_toArray, List.set_cons_zero, List.set_cons_succ, List.getElem_toArray, List.getElem_cons_succ, List.getElem_cons_zero]
      refine wpAnyH_take (i := 8) (v := ?_) rfl (by kernel_rfl) (by kernel_rfl) (by kernel_rfl) (fun _ _ _ h => h) (Or.inl ⟨by rfl, ?v8⟩) (by assumption) ?_
      case v8 => (intro w hSw; (try dsimp only at hSw); go_simp; try with_reducible rfl)
      try simp only [Act.put, List.setIfInBounds_toArray, List.set_cons_zero, List.set_cons_succ, List.getElem_toArray, List.getElem_cons_succ, List.getElem_cons_zero]
      refine wpAnyH_take (i := 9) (v := ?_) rfl (by kernel_rfl) (by kernel_rfl) (by kernel_rfl) (fun _ _ _ h => h) (Or.inl ⟨by rfl, ?v9⟩) (by assumption) ?_
      case v9 => (intro w hSw; (try dsimp only at hSw); go_simp; try with_reducible rfl)
      try simp only [Act.put, List.setIfInBounds_toArray, List.set_cons_zero, List.set_cons_succ, List.getElem_toArray, List.getElem_cons_succ, List.getElem_cons_zero]
      refine wpAnyH_take (i := 10) (v := ?_) rfl (by kernel_rfl) (by kernel_rfl) (by kernel_rfl) (fun _ _ _ h => h) (Or.inl ⟨by rfl, ?v10⟩) (by assumption) ?_
      case v10 => (intro w hSw; (try dsimp only at hSw); go_simp; try with_reducible rfl)
      try simp only [Act.put, List.setIfInBounds_toArray, List.set_cons_zero, List.set_cons_succ, List.getElem_toArray, List.getElem_cons_succ, List.getElem_cons_zero]
      refine wpAnyH_take (i := 11) (v := ?_) rfl (by kernel_rfl) (by kernel_rfl) (by kernel_rfl) (fun _ _ _ h => h) (Or.inl ⟨by rfl, ?v11⟩) (by assumption) ?_
      case v11 => (intro w hSw; (try dsimp only at hSw); go_simp; try with_reducible rfl)
      try simp only [Act.put, List.setIfInBounds_toArray, List.set_cons_zero, List.set_cons_succ, List.getElem_toArray, List.getElem_cons_succ, List.getElem_cons_zero]
      refine wpAnyH_ready (rs := [4, 12]) (by kernel_rfl) (by simp) ?_
      refine AllReadyH.cons rfl (fun K hK => ?_) (AllReadyH.cons rfl (fun K hK => ?_) AllReadyH.nil)
      · skip
        go_simp
        refine hK.out _ _ ?_ (fun hHeld => ?_)
        · exact hHeld
        clear hK K
        try simp only [Act.put, List.setIfInBounds_toArray, List.set_cons_zero, List.set_cons_succ, List.getElem_toArray, List.getElem_cons_succ, List.getElem_cons_zero]
        refine wpAnyH_ready (rs := [12]) (by kernel_rfl) (by simp) ?_
        refine AllReadyH.cons rfl (fun K hK => ?_) AllReadyH.nil
        go_simp
        go_at_call 47
        refine (HFK.out _ (by first | exact Below.refl _ _ | exact (Below.refl _ _).drew)).mono ?_
        rintro e w1 ⟨rb', u', rfl, ho, hr1, hb1⟩
        have hb1' : Below wr.heap.size wr w1 := below_pre' hb1 rfl rfl rfl rfl
        have HK1 := veil (HBB.out.bel.trans (hb1'.mono HBB.out.size))
        have hsw : wr.heap.size ≤ wr.drew.heap.size := Nat.le_refl _
        obtain ⟨y, hys, hyM⟩ : ∃ y : Hd, y.sb = rb' ∧ y.M = x.M := ⟨⟨rb', 0, 0, 0, 0, 0, x.M⟩, rfl, rfl⟩
        obtain ⟨k1, k2, HROW, HSZ, HST⟩ := HAF.out w1 y ⟨u', by rw [hys, hyM]; exact isR_base hr1 (Nat.le_trans HBB.out.size hsw)⟩ (by rw [hys]; exact Nat.le_trans hsw ho) hb1'
        have HYM := veil hyM
        subst hys
        clear ho hr1 hb1 hb1' hsw hyM
        refine hK.out _ _ ?_ (fun hHeld => ?_)
        · exact HSS.out _ HK1.out
        clear hK K
        try simp only [Act.put, List.setIfInBounds_toArray, List.set_cons_zero, List.set_cons_succ, List.getElem_toArray, List.getElem_cons_succ, List.getElem_cons_zero]
        refine wpAnyH_ready (rs := [13]) (by kernel_rfl) (by simp) ?_
        refine AllReadyH.cons rfl (fun K hK => ?_) AllReadyH.nil
        go_simp
        refine hK.out _ _ ?_ (fun hHeld => ?_)
        · exact HSS.out _ (HK1.out.alloc HK1.out.size _)
        clear hK K
        try simp only [Act.put, List.setIfInBounds_toArray, List.set_cons_zero, List.set_cons_succ, List.getElem_toArray, List.getElem_cons_succ, List.getElem_cons_zero]
        refine wpAnyH_ready (rs := [14]) (by kernel_rfl) (by simp) ?_
        refine AllReadyH.cons rfl (fun K hK => ?_) AllReadyH.nil
        refine step_append_at _ (by rfl) _ _ _ (by rfl) w.heap.size 82 i0 (.pointer none) 1 8 Try.underlying79 hi0 hz0 hz1 hz2 rfl (by omega) (.slice a X'.length c) X'.length (ptrs X') (by rfl) (by exact HROW.out _ rfl) ⟨w1.heap.size, 0, none⟩ 1 1 [.pointer (some ⟨y.sb, 0, none⟩)] (by rfl) rfl (by exact Dc.cell_one_new _ _ _) (by intro u hu; simp at hu; rw [hu]; rfl) (by unfold maxLen; omega) (by omega) (by exact HSZ.out _ rfl) ?_
        intro v' w3 hr3 hg3 hat3
        obtain ⟨z1, z2, z3⟩ := HST.out _ w3 v' rfl hr3 hg3
        have HX := veil z3
        have HK3 := veil ((HK1.out.alloc HK1.out.size _).grown hg3 (HSZ.out _ rfl) (fun k hk => (Dc.own_ge (HROW.out _ rfl) k hk).1))
        obtain ⟨a', c', rfl⟩ := Dc.owns_slice hr3
        clear z3 hr3 hg3 hat3
        refine hK.out _ _ ?_ (fun hHeld => ?_)
        · exact HSS.out _ HK3.out
        clear hK K
        try simp only [Act.put, List.setIfInBounds_toArray, List.set_cons_zero, List.set_cons_succ, List.getElem_toArray, List.getElem_cons_succ, List.getElem_cons_zero]
        refine wpAnyH_take (i := 15) (v := ?_) rfl (by kernel_rfl) (by kernel_rfl) (by kernel_rfl) (fun _ _ _ h => h) (Or.inl ⟨by rfl, ?v15⟩) (by assumption) ?_
        case v15 => (intro w hSw; (try dsimp only at hSw); go_simp; try with_reducible rfl)
        try simp only [Act.put, List.setIfInBounds_toArray, List.set_cons_zero, List.set_cons_succ, List.getElem_toArray, List.getElem_cons_succ, List.getElem_cons_zero]
        refine wpAnyH_take (i := 16) (v := ?_) rfl (by kernel_rfl) (by kernel_rfl) (by kernel_rfl) (fun _ _ _ h => h) (Or.inl ⟨by rfl, ?v16⟩) (by assumption) ?_
        case v16 => (intro w hSw; (try dsimp only at hSw); go_simp; try with_reducible rfl)
        try simp only [Act.put, List.setIfInBounds_toArray, List.set_cons_zero, List.set_cons_succ, List.getElem_toArray, List.getElem_cons_succ, List.getElem_cons_zero]
        refine wpAnyH_ready (rs := [17]) (by kernel_rfl) (by simp) ?_
        refine AllReadyH.cons rfl (fun K hK => ?_) AllReadyH.nil
        go_simp
        refine hK.out _ _ ?_ (fun hHeld => ?_)
        · exact HSS.out _ HX.out.bel
        clear hK K
        try simp only [Act.put, List.setIfInBounds_toArray, List.set_cons_zero, List.set_cons_succ, List.getElem_toArray, List.getElem_cons_succ, List.getElem_cons_zero]
        refine wpAnyH_done (by kernel_rfl) ?_ _
        go_wp2
        go_roundw
        case rel => exact ⟨j + 1, _, _, by omega, by have := HHj.out; simp; omega, by go_num, HNX.out y HYM.out, HX.out⟩
        case measure => simp [intOf]; omega
      · skip
        go_simp
        go_at_call 47
        refine (HFK.out _ (by first | exact Below.refl _ _ | exact (Below.refl _ _).drew)).mono ?_
        rintro e w1 ⟨rb', u', rfl, ho, hr1, hb1⟩
        have hb1' : Below wr.heap.size wr w1 := below_pre' hb1 rfl rfl rfl rfl
        have HK1 := veil (HBB.out.bel.trans (hb1'.mono HBB.out.size))
        have hsw : wr.heap.size ≤ wr.drew.heap.size := Nat.le_refl _
        obtain ⟨y, hys, hyM⟩ : ∃ y : Hd, y.sb = rb' ∧ y.M = x.M := ⟨⟨rb', 0, 0, 0, 0, 0, x.M⟩, rfl, rfl⟩
        obtain ⟨k1, k2, HROW, HSZ, HST⟩ := HAF.out w1 y ⟨u', by rw [hys, hyM]; exact isR_base hr1 (Nat.le_trans HBB.out.size hsw)⟩ (by rw [hys]; exact Nat.le_trans hsw ho) hb1'
        have HYM := veil hyM
        subst hys
        clear ho hr1 hb1 hb1' hsw hyM
        refine hK.out _ _ ?_ (fun hHeld => ?_)
        · exact HSS.out _ HK1.out
        clear hK K
        try simp only [Act.put, List.setIfInBounds_toArray, List.set_cons_zero, List.set_cons_succ, List.getElem_toArray, List.getElem_cons_succ, List.getElem_cons_zero]
        refine wpAnyH_ready (rs := [4, 13]) (by kernel_rfl) (by simp) ?_
        refine AllReadyH.cons rfl (fun K hK => ?_) (AllReadyH.cons rfl (fun K hK => ?_) AllReadyH.nil)
        · skip
          go_simp
          refine hK.out _ _ ?_ (fun hHeld => ?_)
          · exact hHeld
          clear hK K
          try simp only [Act.put, List.setIfInBounds_toArray, List.set_cons_zero, List.set_cons_succ, List.getElem_toArray, List.getElem_cons_succ, List.getElem_cons_zero]
          refine wpAnyH_ready (rs := [13]) (by kernel_rfl) (by simp) ?_
          refine AllReadyH.cons rfl (fun K hK => ?_) AllReadyH.nil
          go_simp
          refine hK.out _ _ ?_ (fun hHeld => ?_)
          · exact HSS.out _ (HK1.out.alloc HK1.out.size _)
          clear hK K
          try simp only [Act.put, List.setIfInBounds_toArray, List.set_cons_zero, List.set_cons_succ, List.getElem_toArray, List.getElem_cons_succ, List.getElem_cons_zero]
          refine wpAnyH_ready (rs := [14]) (by kernel_rfl) (by simp) ?_
          refine AllReadyH.cons rfl (fun K hK => ?_) AllReadyH.nil
          refine step_append_at _ (by rfl) _ _ _ (by rfl) w.heap.size 82 i0 (.pointer none) 1 8 Try.underlying79 hi0 hz0 hz1 hz2 rfl (by omega) (.slice a X'.length c) X'.length (ptrs X') (by rfl) (by exact HROW.out _ rfl) ⟨w1.heap.size, 0, none⟩ 1 1 [.pointer (some ⟨y.sb, 0, none⟩)] (by rfl) rfl (by exact Dc.cell_one_new _ _ _) (by intro u hu; simp at hu; rw [hu]; rfl) (by unfold maxLen; omega) (by omega) (by exact HSZ.out _ rfl) ?_
          intro v' w3 hr3 hg3 hat3
          obtain ⟨z1, z2, z3⟩ := HST.out _ w3 v' rfl hr3 hg3
          have HX := veil z3
          have HK3 := veil ((HK1.out.alloc HK1.out.size _).grown hg3 (HSZ.out _ rfl) (fun k hk => (Dc.own_ge (HROW.out _ rfl) k hk).1))
          obtain ⟨a', c', rfl⟩ := Dc.owns_slice hr3
          clear z3 hr3 hg3 hat3
          refine hK.out _ _ ?_ (fun hHeld => ?_)
          · exact HSS.out _ HK3.out
          clear hK K
          try simp only [Act.put, List.setIfInBounds_toArray, List.set_cons_zero, List.set_cons_succ, List.getElem_toArray, List.getElem_cons_succ, List.getElem_cons_zero]
          refine wpAnyH_take (i := 15) (v := ?_) rfl (by kernel_rfl) (by kernel_rfl) (by kernel_rfl) (fun _ _ _ h => h) (Or.inl ⟨by rfl, ?v15⟩) (by assumption) ?_
          case v15 => (intro w hSw; (try dsimp only at hSw); go_simp; try with_reducible rfl)
          try simp only [Act.put, List.setIfInBounds_toArray, List.set_cons_zero, List.set_cons_succ, List.getElem_toArray, List.getElem_cons_succ, List.getElem_cons_zero]
          refine wpAnyH_take (i := 16) (v := ?_) rfl (by kernel_rfl) (by kernel_rfl) (by kernel_rfl) (fun _ _ _ h => h) (Or.inl ⟨by rfl, ?v16⟩) (by assumption) ?_
          case v16 => (intro w hSw; (try dsimp only at hSw); go_simp; try with_reducible rfl)
          try simp only [Act.put, List.setIfInBounds_toArray, List.set_cons_zero, List.set_cons_succ, List.getElem_toArray, List.getElem_cons_succ, List.getElem_cons_zero]
          refine wpAnyH_ready (rs := [17]) (by kernel_rfl) (by simp) ?_
          refine AllReadyH.cons rfl (fun K hK => ?_) AllReadyH.nil
          go_simp
          refine hK.out _ _ ?_ (fun hHeld => ?_)
          · exact HSS.out _ HX.out.bel
          clear hK K
          try simp only [Act.put, List.setIfInBounds_toArray, List.set_cons_zero, List.set_cons_succ, List.getElem_toArray, List.getElem_cons_succ, List.getElem_cons_zero]
          refine wpAnyH_done (by kernel_rfl) ?_ _
          go_wp2
          go_roundw
          case rel => exact ⟨j + 1, _, _, by omega, by have := HHj.out; simp; omega, by go_num, HNX.out y HYM.out, HX.out⟩
          case measure => simp [intOf]; omega
        · skip
          go_simp
          refine hK.out _ _ ?_ (fun hHeld => ?_)
          · exact HSS.out _ (HK1.out.alloc HK1.out.size _)
          clear hK K
          try simp only [Act.put, List.setIfInBounds_toArray, List.set_cons_zero, List.set_cons_succ, List.getElem_toArray, List.getElem_cons_succ, List.getElem_cons_zero]
          refine wpAnyH_ready (rs := [4]) (by kernel_rfl) (by simp) ?_
          refine AllReadyH.cons rfl (fun K hK => ?_) AllReadyH.nil
          go_simp
          refine hK.out _ _ ?_ (fun hHeld => ?_)
          · exact hHeld
          clear hK K
          try simp only [Act.put, List.setIfInBounds_toArray, List.set_cons_zero, List.set_cons_succ, List.getElem_toArray, List.getElem_cons_succ, List.getElem_cons_zero]
          refine wpAnyH_ready (rs := [14]) (by kernel_rfl) (by simp) ?_
          refine AllReadyH.cons rfl (fun K hK => ?_) AllReadyH.nil
          refine step_append_at _ (by rfl) _ _ _ (by rfl) w.heap.size 82 i0 (.pointer none) 1 8 Try.underlying79 hi0 hz0 hz1 hz2 rfl (by omega) (.slice a X'.length c) X'.length (ptrs X') (by rfl) (by exact HROW.out _ rfl) ⟨w1.heap.size, 0, none⟩ 1 1 [.pointer (some ⟨y.sb, 0, none⟩)] (by rfl) rfl (by exact Dc.cell_one_new _ _ _) (by intro u hu; simp at hu; rw [hu]; rfl) (by unfold maxLen; omega) (by omega) (by exact HSZ.out _ rfl) ?_
          intro v' w3 hr3 hg3 hat3
          obtain ⟨z1, z2, z3⟩ := HST.out _ w3 v' rfl hr3 hg3
          have HX := veil z3
          have HK3 := veil ((HK1.out.alloc HK1.out.size _).grown hg3 (HSZ.out _ rfl) (fun k hk => (Dc.own_ge (HROW.out _ rfl) k hk).1))
          obtain ⟨a', c', rfl⟩ := Dc.owns_slice hr3
          clear z3 hr3 hg3 hat3
          refine hK.out _ _ ?_ (fun hHeld => ?_)
          · exact HSS.out _ HK3.out
          clear hK K
          try simp only [Act.put, List.setIfInBounds_toArray, List.set_cons_zero, List.set_cons_succ, List.getElem_toArray, List.getElem_cons_succ, List.getElem_cons_zero]
          refine wpAnyH_take (i := 15) (v := ?_) rfl (by kernel_rfl) (by kernel_rfl) (by kernel_rfl) (fun _ _ _ h => h) (Or.inl ⟨by rfl, ?v15⟩) (by assumption) ?_
          case v15 => (intro w hSw; (try dsimp only at hSw); go_simp; try with_reducible rfl)
          try simp only [Act.put, List.setIfInBounds_toArray, List.set_cons_zero, List.set_cons_succ, List.getElem_toArray, List.getElem_cons_succ, List.getElem_cons_zero]
          refine wpAnyH_take (i := 16) (v := ?_) rfl (by kernel_rfl) (by kernel_rfl) (by kernel_rfl) (fun _ _ _ h => h) (Or.inl ⟨by rfl, ?v16⟩) (by assumption) ?_
          case v16 => (intro w hSw; (try dsimp only at hSw); go_simp; try with_reducible rfl)
          try simp only [Act.put, List.setIfInBounds_toArray, List.set_cons_zero, List.set_cons_succ, List.getElem_toArray, List.getElem_cons_succ, List.getElem_cons_zero]
          refine wpAnyH_ready (rs := [17]) (by kernel_rfl) (by simp) ?_
          refine AllReadyH.cons rfl (fun K hK => ?_) AllReadyH.nil
          go_simp
          refine hK.out _ _ ?_ (fun hHeld => ?_)
          · exact HSS.out _ HX.out.bel
          clear hK K
          try simp only [Act.put, List.setIfInBounds_toArray, List.set_cons_zero, List.set_cons_succ, List.getElem_toArray, List.getElem_cons_succ, List.getElem_cons_zero]
          refine wpAnyH_done (by kernel_rfl) ?_ _
          go_wp2
          go_roundw
          case rel => exact ⟨j + 1, _, _, by omega, by have := HHj.out; simp; omega, by go_num, HNX.out y HYM.out, HX.out⟩
          case measure => simp [intOf]; omega
    · have hjl' : ¬ (j : Int) < (np : Int) + 1 := by omega
      have hpp : X'.length = np + 1 := by omega
      have HBB := veil hB
      have HM := veil hM
      clear hB hM
      go_wp2
      go_ret
      have hl := HH.out.len
      refine ⟨_, X', rfl, HBB.out.isD HH.out.n1 HH.out.np1 HH.out.q1 hpp, ?_, HBB.out.bel⟩
      apply List.ext_getElem?
      intro i
      unfold Ms
      rw [List.getElem?_map, List.getElem?_map]
      cases hi : X'[i]? with
      | none =>
        have := List.getElem?_eq_none_iff.1 hi
        rw [List.getElem?_eq_none (by omega)]
      | some x' =>
        obtain ⟨y, hy, e1⟩ := HM.out i x' hi
        rw [hy]
        simp [e1]
end
end Go.Proofs.Ytlfejgjhamcahaa
