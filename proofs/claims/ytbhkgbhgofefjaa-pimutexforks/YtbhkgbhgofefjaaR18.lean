/- The program's Fork. -/
import Derived.Test.YtbhkgbhgofefjaaR14
namespace Go.Proofs.Ytbhkgbhgofefjaa
open Go.RowKit
set_option linter.unusedVariables false
section
variable {w : World} {base s : Nat} {vt vl : Value} {V : List Value} {T : List Th} {L : List Lk}
theorem tcells_one (T : List Th) : ∀ u ∈ tcells T, u.oneCell' = true := by
  intro u hu
  unfold tcells at hu
  obtain ⟨x, _, hx⟩ := List.mem_flatMap.1 hu
  simp [tone] at hx
  rcases hx with rfl | rfl | rfl | rfl <;> rfl
theorem IsG.lcells_one (h : IsG w base s vt vl V T L) : ∀ u ∈ lcells ((L.map (·.h)).zip V), u.oneCell' = true := by
  intro u hu
  unfold lcells at hu
  obtain ⟨z, hz, hx⟩ := List.mem_flatMap.1 hu
  simp at hx
  rcases hx with rfl | rfl
  · rfl
  · obtain ⟨j, hj⟩ := List.mem_iff_getElem?.1 hz
    rw [List.getElem?_zip_eq_some] at hj
    have hjl := (List.getElem?_eq_some_iff.1 hj.2).1
    rw [h.vs] at hjl
    obtain ⟨a, c, e, _, _⟩ := form_of (h.lin j _ _ (List.getElem?_eq_getElem hjl) hj.2)
    rw [e]
    rfl
/-- A Fork on its way: the first j lines are its own. -/
structure Fk (w wr : World) (f : Nat) (vt vl : Value) (V Vn : List Value) (T : List Th) (L : List Lk) (j : Nat) : Prop where
  blk : wr.heap[f]? = some (.cells #[vt, vl] 72 (0, 0))
  lo : w.heap.size ≤ f
  tho : wr.ownsRow w.heap.size 75 4 vt T.length (tcells T)
  lko : wr.ownsRow w.heap.size 68 2 vl L.length (lcells ((L.map (·.h)).zip (Vn ++ V.drop j)))
  nl : Vn.length = j
  lin : ∀ (k : Nat) y v, L[k]? = some y → Vn[k]? = some v → wr.ownsRow w.heap.size 3 1 v y.l.length (ints y.l)
  apart : ∀ (i k : Nat) u v b, Vn[i]? = some u → Vn[k]? = some v → u.ownBlock = some b → v.ownBlock = some b → i = k
  be : Below w.heap.size w wr
theorem drop_cons {α : Type} {l : List α} {j : Nat} {v : α} (h : l[j]? = some v) : l.drop j = v :: l.drop (j + 1) := by
  obtain ⟨hj, e⟩ := List.getElem?_eq_some_iff.1 h
  rw [← e]
  exact List.drop_eq_getElem_cons hj
theorem Fk.next {wr w2 : World} {f g cap j : Nat} {vt v v' : Value} {Vn : List Value} (h : Fk w wr f vt (.slice (some ⟨g, 0, none⟩) L.length cap) V Vn T L j) (hVL : V.length = L.length) {y : Lk} (hy : L[j]? = some y) (hv : V[j]? = some v)
    (hb : Below wr.heap.size wr w2) (hown : w2.ownsRow wr.heap.size 3 1 v' y.l.length (ints y.l)) : Fk w (w2.setCell ⟨g, j * 2 + 1, none⟩ v') f vt (.slice (some ⟨g, 0, none⟩) L.length cap) V (Vn ++ [v']) T L (j + 1) := by
  have hj := (List.getElem?_eq_some_iff.1 hy).1
  have hsz := h.be.size
  obtain ⟨_, hgl, c, hc⟩ := ownsRow_blk h.lko (k := g) rfl
  have hc2 := (hb.block g hgl).trans hc
  have hfl := (Array.getElem?_eq_some_iff.1 h.blk).1
  have hfar : ∀ k, k < wr.heap.size → k ≠ g → (w2.setCell ⟨g, j * 2 + 1, none⟩ v').heap[k]? = wr.heap[k]? := fun k hk hn => (Below.heap_setCell _ _ _ _ hn).trans (hb.block k hk)
  have hzip : ((L.map (·.h)).zip (Vn ++ V.drop j))[j]? = some (y.h, v) := by
    rw [List.getElem?_zip_eq_some]
    refine ⟨by simp [hy], ?_⟩
    rw [List.getElem?_append_right (by rw [h.nl]; exact Nat.le_refl _), h.nl, Nat.sub_self, drop_cons hv]
    rfl
  have hset : (Vn ++ V.drop j).set j v' = (Vn ++ [v']) ++ V.drop (j + 1) := by
    rw [List.set_append_right _ _ (by rw [h.nl]; exact Nat.le_refl _), h.nl, Nat.sub_self, drop_cons hv, List.set_cons_zero, List.append_assoc]
    rfl
  refine ⟨(hfar f hfl (blk_ne h.blk hc (by decide))).trans h.blk, h.lo, ownsRow_far h.tho (fun k hk => ?_), ?_, by simp [h.nl], ?_, ?_, ?_⟩
  · obtain ⟨_, hkl, c', hc'⟩ := ownsRow_blk h.tho hk
    exact hfar k hkl (blk_ne hc' hc (by decide))
  · have e : (L.map (·.h)).zip ((Vn ++ [v']) ++ V.drop (j + 1)) = ((L.map (·.h)).zip (Vn ++ V.drop j)).set j (y.h, v') := by
      rw [← hset]
      exact zip_set2 _ _ _ _ _ (by simp [hy])
    rw [e, lcells_line _ j (y.h, v) v' hzip]
    exact ownsRow_set (ownsRow_far h.lko (fun k hk => hb.block k (ownsRow_blk h.lko hk).2.1)) (j * 2 + 1) (by omega) _
  · intro k z u hz hu
    rw [List.getElem?_append] at hu
    split at hu
    · refine ownsRow_far (h.lin k z u hz hu) (fun q hq => ?_)
      obtain ⟨_, hql, c', hc'⟩ := ownsRow_blk (h.lin k z u hz hu) hq
      exact hfar q hql (blk_ne hc' hc (by decide))
    · rename_i hk
      have hk2 : k = j := by
        have := (List.getElem?_eq_some_iff.1 hu).1
        simp [h.nl] at this hk
        omega
      subst hk2
      rw [h.nl, Nat.sub_self] at hu
      simp at hu
      subst hu
      rw [hy] at hz
      obtain rfl := Option.some.inj hz
      refine ownsRow_far (row_low hown hsz) (fun q hq => Below.heap_setCell _ _ _ _ (fun e => ?_))
      have := (ownsRow_blk hown hq).1
      rw [show q = g from e] at this
      omega
  · intro i k u1 u2 b h1 h2 hb1 hb2
    rw [List.getElem?_append] at h1 h2
    split at h1
    · rename_i hi
      split at h2
      · exact h.apart i k u1 u2 b h1 h2 hb1 hb2
      · exfalso
        have hk := (List.getElem?_eq_some_iff.1 h2).1
        have e2 : u2 = v' := by
          rename_i hk'
          have : k - Vn.length = 0 := by simp at hk; omega
          rw [this] at h2
          simpa using h2.symm
        subst e2
        have q1 := (ownsRow_blk hown hb2).1
        have q2 := (ownsRow_blk (h.lin i _ u1 (List.getElem?_eq_getElem (by rw [h.nl] at hi; omega)) h1) hb1).2.1
        omega
    · rename_i hi
      have hi2 := (List.getElem?_eq_some_iff.1 h1).1
      have e1 : u1 = v' := by
        have : i - Vn.length = 0 := by simp at hi2; omega
        rw [this] at h1
        simpa using h1.symm
      split at h2
      · rename_i hk
        exfalso
        subst e1
        have q1 := (ownsRow_blk hown hb1).1
        have q2 := (ownsRow_blk (h.lin k _ u2 (List.getElem?_eq_getElem (by rw [h.nl] at hk; omega)) h2) hb2).2.1
        omega
      · have hk2 := (List.getElem?_eq_some_iff.1 h2).1
        simp at hi2 hk2
        omega
  · exact (h.be.trans (hb.mono hsz)).setCell (p := ⟨g, j * 2 + 1, none⟩) (ownsRow_blk h.lko (k := g) rfl).1 _
theorem Fk.done {wr : World} {f : Nat} {vt vl : Value} {Vn : List Value} (h : Fk w wr f vt vl V Vn T L L.length) (hVL : V.length = L.length) (fi : Fine T L) : IsG wr w.heap.size f vt vl Vn T L := by
  have e : Vn ++ V.drop L.length = Vn := by rw [← hVL]; simp
  have hl := h.lko
  rw [e] at hl
  exact ⟨h.blk, h.lo, h.tho, hl, h.nl, h.lin, h.apart, h.be.size, fi⟩
theorem Fk.cells {wr : World} {f g cap j : Nat} {vt v : Value} {Vn : List Value} (h : Fk w wr f vt (.slice (some ⟨g, 0, none⟩) L.length cap) V Vn T L j) {y : Lk} (hy : L[j]? = some y) (hv : V[j]? = some v) : wr.cell? ⟨g, j * 2 + 1, none⟩ = some v ∧ (∀ k, wr.frozen? ⟨g, k, none⟩ = false) ∧ g < wr.heap.size ∧ f < wr.heap.size ∧ f ≠ g := by
  have hj := (List.getElem?_eq_some_iff.1 hy).1
  have hzip : ((L.map (·.h)).zip (Vn ++ V.drop j))[j]? = some (y.h, v) := by
    rw [List.getElem?_zip_eq_some]
    refine ⟨by simp [hy], ?_⟩
    rw [List.getElem?_append_right (by rw [h.nl]; exact Nat.le_refl _), h.nl, Nat.sub_self, drop_cons hv]
    rfl
  have hlko := h.lko
  obtain ⟨_, hgl, c, hc⟩ := ownsRow_blk h.lko (k := g) rfl
  refine ⟨?_, frozen_row hlko, hgl, (Array.getElem?_eq_some_iff.1 h.blk).1, blk_ne h.blk hc (by decide)⟩
  rw [hlko.cellAt (j * 2 + 1) (by omega)]
  exact (lcells_at _ j _ hzip).2
theorem Fk.c1 {wr : World} {f j : Nat} {vt vl : Value} {Vn : List Value} (h : Fk w wr f vt vl V Vn T L j) : wr.cell? ⟨f, 1, none⟩ = some vl := by unfold World.cell?; simp [h.blk]
theorem Fk.below {wr w3 : World} {f j : Nat} {vt vl : Value} {Vn : List Value} (h : Fk w wr f vt vl V Vn T L j) (hb : Below wr.heap.size wr w3) : Fk w w3 f vt vl V Vn T L j := by
  have far : ∀ {e size n v xs}, wr.ownsRow w.heap.size e size v n xs → w3.ownsRow w.heap.size e size v n xs := fun ho => ownsRow_far ho (fun k hk => hb.block k (ownsRow_blk ho hk).2.1)
  exact ⟨(hb.block f (Array.getElem?_eq_some_iff.1 h.blk).1).trans h.blk, h.lo, far h.tho, far h.lko, h.nl, fun k y v hy hv => far (h.lin k y v hy hv), h.apart, h.be.trans (hb.mono h.be.size)⟩
set_option maxHeartbeats 2000000 in
theorem fork_ok (h : IsG w base s vt vl V T L) : Calls Try.prog 27 #[.pointer (some ⟨s, 0, none⟩)] w fun e w' => ∃ f vt' vl' V', e = .returned (.pointer (some ⟨f, 0, none⟩)) ∧ IsG w' w.heap.size f vt' vl' V' T L ∧ Below w.heap.size w w' := by
  have c0 := h.c0
  have c1 := h.c1
  have ht2 := h.f.t2
  have hl2 := h.f.l2
  have HT := veil (fun W (hb : Below w.heap.size w W) => cloneRowT (h.below hb).tho (by omega) (tcells_one T))
  have HLk := veil (fun W (hb : Below w.heap.size w W) => cloneRowL (h.below hb).lko (by omega) h.lcells_one)
  have HH := veil h
  have HCC : Hid (∀ W, Below w.heap.size w W → W.cell? ⟨s, 0, none⟩ = some vt ∧ W.cell? ⟨s, 1, none⟩ = some vl) := fun W hb => ⟨(h.below hb).c0, (h.below hb).c1⟩
  obtain ⟨ta, tc, rfl, _⟩ := form_of h.tho
  obtain ⟨la, lc, rfl, _⟩ := form_of h.lko
  clear h
  go_enter Try.func27, Try.ntmps27
  go_wp2
  have hS1 := veil (And.intro c0 c1)
  have hS2 := veil (HCC.out _ (Below.refl _ w).drew)
  go_region_held3 (fun w' => (w'.cell? ⟨s, 0, none⟩ = some (.slice ta T.length tc) ∧ w'.cell? ⟨s, 1, none⟩ = some (.slice la L.length lc)))
    (first | with_reducible exact hS1.out | with_reducible exact hS2.out | with_reducible exact hS4.out | with_reducible exact hS3.out | with_reducible exact hS5.out _)
    (first
      | (go_at_call 52; refine (HT.out _ (Below.refl _ w).drew).mono ?_; rintro e w1 ⟨v1, rfl, ho, hb0⟩; have hb : Below w.heap.size w w1 := ((Below.refl _ w).drew).trans hb0; have ho1 : w1.ownsRow w.heap.size 75 4 v1 T.length (tcells T) := ho; obtain ⟨a1, d1, rfl, _, _⟩ := form_of ho1; have hS3 := veil (HCC.out _ hb); have HB1 := veil hb; have HO1 := veil ho1; clear hb hb0 ho ho1)
      | (go_at_call 53; refine (HLk.out _ HB1.out).mono ?_; rintro e w2 ⟨v2, rfl, ho, hb0⟩; have hb : Below w.heap.size w w2 := HB1.out.trans (hb0.mono HB1.out.size); have ho2 : w2.ownsRow w.heap.size 68 2 v2 L.length _ := row_low ho HB1.out.size; obtain ⟨a2, d2, rfl, _, _⟩ := form_of ho2; have hS4 := veil (HCC.out _ hb); have hS5 : Hid (∀ o, (w2.alloc o).cell? ⟨s, 0, none⟩ = some (.slice ta T.length tc) ∧ (w2.alloc o).cell? ⟨s, 1, none⟩ = some (.slice la L.length lc)) := (fun o => HCC.out _ (hb.alloc hb.size o)); have HB2 := veil hb; have HO2 := veil ho2; have HO1' := veil (ownsRow_far HO1.out (fun k hk => hb0.block k (ownsRow_blk HO1.out hk).2.1)); clear hb hb0 ho ho2))
  have HF0 : Hid (Fk w (w2.alloc (.cells #[.slice a1 T.length d1, .slice a2 L.length d2] 72)) w2.heap.size (.slice a1 T.length d1) (.slice a2 L.length d2) V [] T L 0) :=
    ⟨World.alloc_heap_new w2 _, HB2.out.size, HO1'.out.alloc _, HO2.out.alloc _, rfl, by simp, by simp, HB2.out.alloc HB2.out.size _⟩
  go_wp2
  have hVL := HH.out.vs
  have HFi := veil HH.out.f
  have HLin : Hid (∀ (j : Nat) (y : Lk) (v : Value) (W : World), Below w.heap.size w W → L[j]? = some y → V[j]? = some v → Calls Try.prog 44 #[v] W fun e w' => ∃ v', e = .returned v' ∧ w'.ownsRow W.heap.size 3 1 v' y.l.length (ints y.l) ∧ Below W.heap.size W w') :=
    fun j y v W hb hy hv => cloneRowI ((HH.out.below hb).lin j y v hy hv) (by have := HFi.out.short (List.mem_of_getElem? hy); omega) (ints_oneCell _)
  clear HH HT HLk HCC hS1 hS2 hS3 hS4 hS5 HO1 HO2 HO1' HB1 HB2
  go_loopw [24] (fun i wr => ∃ (j : Nat) (Vn : List Value), j ≤ L.length ∧ i = .int .i64 j ∧ Fk w wr w2.heap.size (.slice a1 T.length d1) (.slice a2 L.length d2) V Vn T L j) (fun i _ => L.length - (intOf i).toNat)
  case atStart => exact ⟨0, [], by omega, rfl, HF0.out⟩
  case round =>
    obtain ⟨j, Vn, hj, rfl, hF⟩ := hrel
    generalize w2.heap.size = f at *
    by_cases hjl : j < L.length
    · have hjl' : (j : Int) < (L.length : Int) := by omega
      obtain ⟨g, cap, e, _⟩ := row_form hF.lko (by omega)
      simp only [Value.slice.injEq, true_and] at e
      obtain ⟨rfl, _, rfl⟩ := e
      obtain ⟨y, hy⟩ : ∃ y, L[j]? = some y := ⟨_, List.getElem?_eq_getElem hjl⟩
      obtain ⟨v, hv⟩ : ∃ v, V[j]? = some v := ⟨_, List.getElem?_eq_getElem (by omega)⟩
      obtain ⟨c1, fz, hgl, hfl, hfg⟩ := hF.cells hy hv
      have c0 := hF.c1
      have HF := veil hF
      have HCl := veil (HLin.out j y v wr.drew hF.be.drew hy hv)
      have HY := veil hy
      have HV := veil hv
      clear hF hy hv
      go_wp2
      refine wp_region_held_drew (S := (fun w' => w'.cell? ⟨f, 1, none⟩ = some (.slice (some ⟨g, 0, none⟩) L.length d2))) (by kernel_rfl) c0 (fun hHeld => ?_)
      refine wpAnyH_take (i := 0) (v := ?_) rfl (by kernel_rfl) (by kernel_rfl) (by kernel_rfl) (fun _ _ _ h => h) (Or.inl ⟨by rfl, ?v0⟩) (by assumption) ?_
      case v0 => (intro w hSw; (try dsimp only at hSw); go_simp; try with_reducible rfl)
      try simp only [Act.put, List.setIfInBounds_toArray, List.set_cons_zero, List.set_cons_succ, List.getElem_toArray, List.getElem_cons_zero]
      refine wpAnyH_take (i := 1) (v := ?_) rfl (by kernel_rfl) (by kernel_rfl) (by kernel_rfl) (fun _ _ _ h => h) (Or.inl ⟨by rfl, ?v1⟩) (by assumption) ?_
      case v1 => (intro w hSw; (try dsimp only at hSw); go_simp; try with_reducible rfl)
      try simp only [Act.put, List.setIfInBounds_toArray, List.set_cons_zero, List.set_cons_succ, List.getElem_toArray, List.getElem_cons_succ, List.getElem_cons_zero]
      refine wpAnyH_take (i := 2) (v := ?_) rfl (by kernel_rfl) (by kernel_rfl) (by kernel_rfl) (fun _ _ _ h => h) (Or.inl ⟨by rfl, ?v2⟩) (by assumption) ?_
      case v2 => (intro w hSw; (try dsimp only at hSw); go_simp; try with_reducible rfl)
      try simp only [Act.put, List.setIfInBounds_toArray, List.set_cons_zero, List.set_cons_succ, List.getElem_toArray, List.getElem_cons_succ, List.getElem_cons_zero]
      refine wpAnyH_take (i := 3) (v := ?_) rfl (by kernel_rfl) (by kernel_rfl) (by kernel_rfl) (fun _ _ _ h => h) (Or.inl ⟨by rfl, ?v3⟩) (by assumption) ?_
      case v3 => (intro w hSw; (try dsimp only at hSw); go_simp; try with_reducible rfl)
      try simp only [Act.put, List.setIfInBounds_toArray, List.set_cons_zero, List.set_cons_succ, List.getElem_toArray, List.getElem_cons_succ, List.getElem_cons_zero]
      refine wpAnyH_take (i := 4) (v := ?_) rfl (by kernel_rfl) (by kernel_rfl) (by kernel_rfl) (fun _ _ _ h => h) (Or.inl ⟨by rfl, ?v4⟩) (by assumption) ?_
      case v4 => (intro w hSw; (try dsimp only at hSw); go_simp; try with_reducible rfl)
      try simp only [Act.put, List.setIfInBounds_toArray, List.set_cons_zero, List.set_cons_succ, List.getElem_toArray, List.getElem_cons_succ, List.getElem_cons_zero]
      refine wpAnyH_take (i := 5) (v := ?_) rfl (by kernel_rfl) (by kernel_rfl) (by kernel_rfl) (fun _ _ _ h => h) (Or.inl ⟨by rfl, ?v5⟩) (by assumption) ?_
      case v5 => (intro w hSw; (try dsimp only at hSw); go_simp; try with_reducible rfl)
      try simp only [Act.put, List.setIfInBounds_toArray, List.set_cons_zero, List.set_cons_succ, List.getElem_toArray, List.getElem_cons_succ, List.getElem_cons_zero]
      refine wpAnyH_take (i := 6) (v := ?_) rfl (by kernel_rfl) (by kernel_rfl) (by kernel_rfl) (fun _ _ _ h => h) (Or.inl ⟨by rfl, ?v6⟩) (by assumption) ?_
      case v6 => (intro w hSw; (try dsimp only at hSw); go_simp; try with_reducible rfl)
      try simp only [Act.put, List.setIfInBounds_toArray, List.set_cons_zero, List.set_cons_succ, List.getElem_toArray, List.getElem_cons_succ, List.getElem_cons_zero]
      refine wpAnyH_take (i := 7) (v := ?_) rfl (by kernel_rfl) (by kernel_rfl) (by kernel_rfl) (fun _ _ _ h => h) (Or.inl ⟨by rfl, ?v7⟩) (by assumption) ?_
      case v7 => (intro w hSw; (try dsimp only at hSw); go_simp; try with_reducible rfl)
      try simp only [Act.put, List.setIfInBounds_toArray, List.set_cons_zero, List.set_cons_succ, List.getElem_toArray, List.getElem_cons_succ, List.getElem_cons_zero]
      refine wpAnyH_take (i := 8) (v := ?_) rfl (by kernel_rfl) (by kernel_rfl) (by kernel_rfl) (fun _ _ _ h => h) (Or.inl ⟨by rfl, ?v8⟩) (by assumption) ?_
      case v8 => (intro w hSw; (try dsimp only at hSw); go_simp; try with_reducible rfl)
      try simp only [Act.put, List.setIfInBounds_toArray, List.set_cons_zero, List.set_cons_succ, List.getElem_toArray, List.getElem_cons_succ, List.getElem_cons_zero]
      refine wpAnyH_take (i := 9) (v := ?_) rfl (by kernel_rfl) (by kernel_rfl) (by kernel_rfl) (fun _ _ _ h => h) (Or.inl ⟨by rfl, ?v9⟩) (by assumption) ?_
      case v9 => (intro w hSw; (try dsimp only at hSw); go_simp; try with_reducible rfl)
      try simp only [Act.put, List.setIfInBounds_toArray, List.set_cons_zero, List.set_cons_succ, List.getElem_toArray, List.getElem_cons_succ, List.getElem_cons_zero]
      refine wpAnyH_take (i := 10) (v := ?_) rfl (by kernel_rfl) (by kernel_rfl) (by kernel_rfl) (fun _ _ _ h => h) (Or.inl ⟨by rfl, ?v10⟩) (by assumption) ?_
      case v10 => (intro w hSw; (try dsimp only at hSw); go_simp; try with_reducible rfl)
      try simp only [Act.put, List.setIfInBounds_toArray, List.set_cons_zero, List.set_cons_succ, List.getElem_toArray, List.getElem_cons_succ, List.getElem_cons_zero]
      refine wpAnyH_take (i := 11) (v := ?_) rfl (by kernel_rfl) (by kernel_rfl) (by kernel_rfl) (fun _ _ _ h => h) (Or.inl ⟨by rfl, ?v11⟩) (by assumption) ?_
      case v11 => (intro w hSw; (try dsimp only at hSw); go_simp; try with_reducible rfl)
      try simp only [Act.put, List.setIfInBounds_toArray, List.set_cons_zero, List.set_cons_succ, List.getElem_toArray, List.getElem_cons_succ, List.getElem_cons_zero]
      refine wpAnyH_ready (rs := [12]) (by kernel_rfl) (by simp) ?_
      refine AllReadyH.cons rfl (fun K hK => ?_) AllReadyH.nil
      go_simp
      refine hK.out _ _ ?_ (fun hHeld => ?_)
      · exact c0
      clear hK K
      try simp only [Act.put, List.setIfInBounds_toArray, List.set_cons_zero, List.set_cons_succ, List.getElem_toArray, List.getElem_cons_succ, List.getElem_cons_zero]
      refine wpAnyH_ready (rs := [13]) (by kernel_rfl) (by simp) ?_
      refine AllReadyH.cons rfl (fun K hK => ?_) AllReadyH.nil
      go_simp
      go_at_call 44
      refine (HCl.out).mono ?_
      rintro e w3 ⟨v3, rfl, ho, hb⟩
      obtain ⟨a3, d3, rfl, _, _⟩ := form_of ho
      have hb3 : Below wr.heap.size wr w3 := ((Below.refl _ wr).drew).trans hb
      have HO3 : Hid (w3.ownsRow wr.heap.size 3 1 (.slice a3 y.l.length d3) y.l.length (ints y.l)) := ho
      have HB3 := veil hb3
      obtain ⟨e1, fz3, hgl3, hfl3, _⟩ := (HF.out.below hb3).cells HY.out HV.out
      have e0 := (HF.out.below hb3).c1
      clear ho hb hb3
      refine hK.out _ _ ?_ (fun hHeld => ?_)
      · exact e0
      clear hK K
      try simp only [Act.put, List.setIfInBounds_toArray, List.set_cons_zero, List.set_cons_succ, List.getElem_toArray, List.getElem_cons_succ, List.getElem_cons_zero]
      refine wpAnyH_take (i := 14) (v := ?_) rfl (by kernel_rfl) (by kernel_rfl) (by kernel_rfl) (fun _ _ _ h => h) (Or.inl ⟨by rfl, ?v14⟩) (by assumption) ?_
      case v14 => (intro w hSw; (try dsimp only at hSw); go_simp; try with_reducible rfl)
      try simp only [Act.put, List.setIfInBounds_toArray, List.set_cons_zero, List.set_cons_succ, List.getElem_toArray, List.getElem_cons_succ, List.getElem_cons_zero]
      refine wpAnyH_take (i := 15) (v := ?_) rfl (by kernel_rfl) (by kernel_rfl) (by kernel_rfl) (fun _ _ _ h => h) (Or.inl ⟨by rfl, ?v15⟩) (by assumption) ?_
      case v15 => (intro w hSw; (try dsimp only at hSw); go_simp; try with_reducible rfl)
      try simp only [Act.put, List.setIfInBounds_toArray, List.set_cons_zero, List.set_cons_succ, List.getElem_toArray, List.getElem_cons_succ, List.getElem_cons_zero]
      refine wpAnyH_ready (rs := [16]) (by kernel_rfl) (by simp) ?_
      refine AllReadyH.cons rfl (fun K hK => ?_) AllReadyH.nil
      go_simp
      have HN := veil (HF.out.next hVL HY.out HV.out HB3.out HO3.out)
      refine hK.out _ _ ?_ (fun hHeld => ?_)
      · exact HN.out.c1
      clear hK K
      try simp only [Act.put, List.setIfInBounds_toArray, List.set_cons_zero, List.set_cons_succ, List.getElem_toArray, List.getElem_cons_succ, List.getElem_cons_zero]
      refine wpAnyH_done (by kernel_rfl) ?_ _
      skip
      go_wp2
      go_roundw
      case rel => exact ⟨j + 1, _, by omega, by go_num, HN.out⟩
      case measure => simp [intOf]; omega
    · have hjl' : ¬ (j : Int) < (L.length : Int) := by omega
      obtain rfl : j = L.length := by omega
      have HF := veil hF
      clear hF
      go_wp2
      go_ret
      exact ⟨f, rfl, ⟨_, _, Vn, HF.out.done hVL HFi.out⟩, HF.out.be⟩
end
/-- Fork: a graph of its own. -/
theorem PG.fork {w : World} {b s : Nat} {O : Nat → Prop} {M : Md} (h : PG w b O s M) : Calls Try.prog 27 #[.pointer (some ⟨s, 0, none⟩)] w fun e w' => ∃ f O', e = .returned (.pointer (some ⟨f, 0, none⟩)) ∧ PG w' w.heap.size O' f M ∧ Below w.heap.size w w' := by
  obtain ⟨vt, vl, V, hg, ho⟩ := h
  refine (fork_ok hg).mono ?_
  rintro e w' ⟨f, vt', vl', V', rfl, hn, hb⟩
  exact ⟨f, _, rfl, ⟨_, _, _, hn, fun k => Iff.rfl⟩, hb⟩
end Go.Proofs.Ytbhkgbhgofefjaa
