/- The document's Fork. -/
import Derived.Test.YtbhkgbhgofefjaaR14
namespace Go.Proofs.Ytbhkgbhgofefjaa
open Go.RowKit
set_option linter.unusedVariables false
/-- A Fork of the document's on its way: j lines are there. -/
structure QF (w wr : World) (f : Nat) (vb vo vw : Value) (Vn : List Value) (T : List Th) (L : List Lk) (j : Nat) : Prop where
  blk : wr.heap[f]? = some (.cells #[vb, vo, vw] 79 (0, 0))
  lo : w.heap.size ≤ f
  bo : wr.ownsRow w.heap.size 36 3 vb T.length (kcells T)
  oo : wr.ownsRow w.heap.size 3 1 vo L.length (hcells L)
  wo : wr.ownsRow w.heap.size 31 1 vw j Vn
  lin : ∀ (k : Nat) y v, L[k]? = some y → Vn[k]? = some v → wr.ownsRow w.heap.size 3 1 v y.l.length (ints y.l)
  apart : ∀ v ∈ Vn, ∀ k, v.ownBlock = some k → vo.ownBlock ≠ some k
  be : Below w.heap.size w wr
section
variable {w wr w1 w2 : World} {base s f : Nat} {vb vo vw : Value} {V Vn : List Value} {T : List Th} {L : List Lk} {j : Nat}
theorem QF.done (h : QF w wr f vb vo vw Vn T L L.length) (fi : Fine T L) : IsR wr w.heap.size f vb vo vw Vn T L := ⟨h.blk, h.lo, h.bo, h.oo, h.wo, h.lin, h.apart, h.be.size, fi⟩
theorem QF.len (h : QF w wr f vb vo vw Vn T L j) : Vn.length = j := by have := h.wo.1; omega
theorem QF.sc (h : QF w wr f vb vo vw Vn T L j) : wr.cell? ⟨f, 2, none⟩ = some vw ∧ ∀ k, wr.frozen? ⟨f, k, none⟩ = false := by
  refine ⟨?_, fun k => ?_⟩
  · unfold World.cell?; simp [h.blk]
  · unfold World.frozen?; simp [h.blk]
theorem QF.below (h : QF w wr f vb vo vw Vn T L j) (hb : Below wr.heap.size wr w1) : QF w w1 f vb vo vw Vn T L j := by
  have far : ∀ {e size n v xs}, wr.ownsRow w.heap.size e size v n xs → w1.ownsRow w.heap.size e size v n xs := fun ho => ownsRow_far ho (fun k hk => hb.block k (ownsRow_blk ho hk).2.1)
  exact ⟨(hb.block f (Array.getElem?_eq_some_iff.1 h.blk).1).trans h.blk, h.lo, far h.bo, far h.oo, far h.wo, fun k y v hy hv => far (h.lin k y v hy hv), h.apart, h.be.trans (hb.mono h.be.size)⟩
theorem QF.next (h : QF w wr f vb vo vw Vn T L j) {v1 v' : Value} {y : Lk} (hy : L[j]? = some y) (hnew : wr.ownsRow w.heap.size 3 1 v1 y.l.length (ints y.l)) (hap : ∀ k, v1.ownBlock = some k → vo.ownBlock ≠ some k)
    {tmp : Obj} (hown : w2.ownsRow w.heap.size 31 1 v' (j + 1) (Vn ++ [v1])) (hgrow : (wr.alloc tmp).grownBy w2 vw.ownBlock) :
    w2.cell? ⟨f, 2, none⟩ = some vw ∧ (∀ k, w2.frozen? ⟨f, k, none⟩ = false) ∧ QF w (w2.setCell ⟨f, 2, none⟩ v') f vb vo v' (Vn ++ [v1]) T L (j + 1) := by
  have hkk : ∀ k, k < wr.heap.size → vw.ownBlock ≠ some k → w2.heap[k]? = wr.heap[k]? := fun k hk hn => (hgrow.block k (by simp; omega) (fun e => hn e.symm)).trans (Below.heap_alloc _ _ _ hk)
  have hne : ∀ (k : Nat) (c : Array Value) (t : TypeId), wr.heap[k]? = some (.cells c t (0, 0)) → t ≠ 31 → w2.heap[k]? = wr.heap[k]? := by
    intro k c t hc ht
    refine hkk k (Array.getElem?_eq_some_iff.1 hc).1 (fun e => ?_)
    obtain ⟨_, _, c', hc'⟩ := ownsRow_blk h.wo e
    rw [hc] at hc'
    simp at hc'
    exact ht hc'.2
  have hs2 := (hne f _ _ h.blk (by decide)).trans h.blk
  have hfar : ∀ k, k ≠ f → (w2.setCell ⟨f, 2, none⟩ v').heap[k]? = w2.heap[k]? := fun k hk => Below.heap_setCell _ _ _ _ hk
  have far : ∀ {e size n v xs}, wr.ownsRow w.heap.size e size v n xs → e ≠ 31 → e ≠ 79 → (w2.setCell ⟨f, 2, none⟩ v').ownsRow w.heap.size e size v n xs := by
    intro e size n v xs ho h1 h2
    refine ownsRow_far ho (fun k hk => ?_)
    obtain ⟨_, _, c', hc'⟩ := ownsRow_blk ho hk
    exact (hfar k (blk_ne hc' h.blk h2)).trans (hne k _ _ hc' h1)
  refine ⟨by unfold World.cell?; simp [hs2], fun k => by unfold World.frozen?; simp [hs2], ?_, h.lo, far h.bo (by decide) (by decide), far h.oo (by decide) (by decide), ?_, ?_, ?_, ?_⟩
  · exact Go.Joins.block_setCell hs2 v'
  · refine ownsRow_far hown (fun k hk => hfar k ?_)
    obtain ⟨_, _, c', hc'⟩ := ownsRow_blk hown hk
    exact blk_ne hc' hs2 (by decide)
  · intro k z u hz hu
    rw [List.getElem?_append] at hu
    split at hu
    · exact far (h.lin k z u hz hu) (by decide) (by decide)
    · rename_i hk
      have hk2 : k = j := by
        have := (List.getElem?_eq_some_iff.1 hu).1
        simp [h.len] at this hk
        omega
      subst hk2
      rw [h.len, Nat.sub_self] at hu
      simp at hu
      subst hu
      rw [hy] at hz
      obtain rfl := Option.some.inj hz
      exact far hnew (by decide) (by decide)
  · intro v hv k hk
    rcases List.mem_append.1 hv with q | q
    · exact h.apart v q k hk
    · simp at q
      subst q
      exact hap k hk
  · exact ((h.be.alloc h.be.size tmp).grown hgrow (h.be.alloc h.be.size tmp).size (fun k hk => (ownsRow_blk h.wo hk).1)).setCell (p := ⟨f, 2, none⟩) h.lo _
set_option maxHeartbeats 2000000 in
theorem rfork_ok (h : IsR w base s vb vo vw V T L) (hL : 0 < L.length) : Calls Try.prog 29 #[.pointer (some ⟨s, 0, none⟩)] w fun e w' => ∃ f vb' vo' vw' V', e = .returned (.pointer (some ⟨f, 0, none⟩)) ∧ IsR w' w.heap.size f vb' vo' vw' V' T L ∧ Below w.heap.size w w' := by
  have ht1 := h.f.t1
  have ht2 := h.f.t2
  have hl2 := h.f.l2
  obtain ⟨gb, cb, rfl, hgb, hbc, _⟩ := row_form h.bo (by omega)
  obtain ⟨go, co, rfl, hgo, hoc, _⟩ := row_form h.oo hL
  obtain ⟨gw, cw, rfl, hgw, hwc, _⟩ := row_form h.wo hL
  have c0 : w.cell? ⟨s, 0, none⟩ = some (.slice (some ⟨gb, 0, none⟩) T.length cb) := by unfold World.cell?; simp [h.blk]
  have c1 : w.cell? ⟨s, 1, none⟩ = some (.slice (some ⟨go, 0, none⟩) L.length co) := by unfold World.cell?; simp [h.blk]
  have c2 : w.cell? ⟨s, 2, none⟩ = some (.slice (some ⟨gw, 0, none⟩) L.length cw) := by unfold World.cell?; simp [h.blk]
  have HH := veil h
  have HCC : Hid (∀ W, Below w.heap.size w W → W.cell? ⟨s, 0, none⟩ = some (.slice (some ⟨gb, 0, none⟩) T.length cb) ∧ W.cell? ⟨s, 1, none⟩ = some (.slice (some ⟨go, 0, none⟩) L.length co)) := fun W hb => by
    have hs := (Array.getElem?_eq_some_iff.1 h.blk).1
    exact ⟨(hb.cell (p := ⟨s, 0, none⟩) hs).trans c0, (hb.cell (p := ⟨s, 1, none⟩) hs).trans c1⟩
  have HC2 : Hid (∀ W, Below w.heap.size w W → W.cell? ⟨s, 2, none⟩ = some (.slice (some ⟨gw, 0, none⟩) L.length cw)) := fun W hb => (hb.cell (p := ⟨s, 2, none⟩) (Array.getElem?_eq_some_iff.1 h.blk).1).trans c2
  have HFi := veil h.f
  have HWt : Hid (∀ (j : Nat) (y : Lk) (W : World), Below w.heap.size w W → L[j]? = some y → Calls Try.prog 40 #[.pointer (some ⟨s, 0, none⟩), .int .i64 (j : Int)] W fun e w' => ∃ v, e = .returned v ∧ w'.ownsRow W.heap.size 3 1 v y.l.length (ints y.l) ∧ Below W.heap.size W w') := fun j y W hb hy => by
    refine (rwaiters_ok (HH.out.below hb) (j : Int)).mono ?_
    rintro e w' ⟨v, rfl, ho, hb'⟩
    have hjl := (List.getElem?_eq_some_iff.1 hy).1
    have ew : waitersOf L (j : Int) = y.l := by
      unfold waitersOf
      rw [if_pos (by unfold inL; simp; omega), Int.toNat_natCast, hy]
      rfl
    rw [ew] at ho
    exact ⟨v, rfl, by unfold IL at ho; rw [List.length_map, ← ints_eq] at ho; exact ho, hb'⟩
  have hadd : ∀ (g j : Nat), (⟨g, 0, none⟩ : Addr).add j = ⟨g, j, none⟩ := fun g j => by unfold Addr.add; split <;> simp_all
  have HNK : Hid (∀ W, Below w.heap.size w W → ∀ j u, (kcells T)[j]? = some u → W.cell? ((⟨gb, 0, none⟩ : Addr).add j) = some u) := fun W hb j u hu => by
    have hj := (List.getElem?_eq_some_iff.1 hu).1
    rw [kcells_length] at hj
    rw [hadd, hb.cell (p := ⟨gb, j, none⟩) hgb, hbc j hj, hu]
  have HNO : Hid (∀ W, Below w.heap.size w W → ∀ j u, (hcells L)[j]? = some u → W.cell? ((⟨go, 0, none⟩ : Addr).add j) = some u) := fun W hb j u hu => by
    have hj := (List.getElem?_eq_some_iff.1 hu).1
    simp [hcells] at hj
    rw [hadd, hb.cell (p := ⟨go, j, none⟩) hgo, hoc j (by omega), hu]
  have H1K : Hid (∀ u ∈ kcells T, u.oneCell' = true) := fun u hu => by
    unfold kcells at hu
    obtain ⟨x, _, hx⟩ := List.mem_flatMap.1 hu
    simp [kone] at hx
    rcases hx with rfl | rfl | rfl <;> rfl
  have H1O : Hid (∀ u ∈ hcells L, u.oneCell' = true) := fun u hu => by
    unfold hcells at hu
    obtain ⟨x, _, rfl⟩ := List.mem_map.1 hu
    rfl
  obtain ⟨i0, hi0, hz0, hz1, hz2⟩ := info_parts infoKey
  obtain ⟨j0, hj0, hy0, hy1, hy2⟩ := info_parts infoInt
  obtain ⟨k0, hk0, hx0, hx1, hx2⟩ := info_parts infoSl
  clear h hbc hoc hwc hadd
  go_enter Try.func29, Try.ntmps29
  go_wp2
  have HBc : Hid (Below w.heap.size w w.drew) := (Below.refl _ w).drew
  refine wp_region_held_drew (S := (fun w' => w'.cell? ⟨s, 0, none⟩ = some (.slice (some ⟨gb, 0, none⟩) T.length cb) ∧ w'.cell? ⟨s, 1, none⟩ = some (.slice (some ⟨go, 0, none⟩) L.length co))) (by kernel_rfl) ⟨c0, c1⟩ (fun hHeld => ?_)
  refine wpAnyH_take (i := 1) (v := ?_) rfl (by kernel_rfl) (by kernel_rfl) (by kernel_rfl) (fun _ _ _ h => h) (Or.inl ⟨by rfl, ?v1⟩) (by assumption) ?_
  case v1 => (intro w hSw; (try dsimp only at hSw); go_simp; try with_reducible rfl)
  try simp only [Act.put, List.setIfInBounds_toArray, List.set_cons_zero, List.set_cons_succ, List.getElem_toArray, List.getElem_cons_succ, List.getElem_cons_zero]
  refine wpAnyH_take (i := 2) (v := ?_) rfl (by kernel_rfl) (by kernel_rfl) (by kernel_rfl) (fun _ _ _ h => h) (Or.inl ⟨by rfl, ?v2⟩) (by assumption) ?_
  case v2 => (intro w hSw; (try dsimp only at hSw); go_simp; try with_reducible rfl)
  try simp only [Act.put, List.setIfInBounds_toArray, List.set_cons_zero, List.set_cons_succ, List.getElem_toArray, List.getElem_cons_succ, List.getElem_cons_zero]
  refine wpAnyH_take (i := 3) (v := ?_) rfl (by kernel_rfl) (by kernel_rfl) (by kernel_rfl) (fun _ _ _ h => h) (Or.inl ⟨by rfl, ?v3⟩) (by assumption) ?_
  case v3 => (intro w hSw; (try dsimp only at hSw); go_simp; try with_reducible rfl)
  try simp only [Act.put, List.setIfInBounds_toArray, List.set_cons_zero, List.set_cons_succ, List.getElem_toArray, List.getElem_cons_succ, List.getElem_cons_zero]
  refine wpAnyH_take (i := 4) (v := ?_) rfl (by kernel_rfl) (by kernel_rfl) (by kernel_rfl) (fun _ _ _ h => h) (Or.inl ⟨by rfl, ?v4⟩) (by assumption) ?_
  case v4 => (intro w hSw; (try dsimp only at hSw); go_simp; try with_reducible rfl)
  try simp only [Act.put, List.setIfInBounds_toArray, List.set_cons_zero, List.set_cons_succ, List.getElem_toArray, List.getElem_cons_succ, List.getElem_cons_zero]
  refine wpAnyH_take (i := 7) (v := ?_) rfl (by kernel_rfl) (by kernel_rfl) (by kernel_rfl) (fun _ _ _ h => h) (Or.inl ⟨by rfl, ?v7⟩) (by assumption) ?_
  case v7 => (intro w hSw; (try dsimp only at hSw); go_simp; try with_reducible rfl)
  try simp only [Act.put, List.setIfInBounds_toArray, List.set_cons_zero, List.set_cons_succ, List.getElem_toArray, List.getElem_cons_succ, List.getElem_cons_zero]
  refine wpAnyH_take (i := 8) (v := ?_) rfl (by kernel_rfl) (by kernel_rfl) (by kernel_rfl) (fun _ _ _ h => h) (Or.inl ⟨by rfl, ?v8⟩) (by assumption) ?_
  case v8 => (intro w hSw; (try dsimp only at hSw); go_simp; try with_reducible rfl)
  try simp only [Act.put, List.setIfInBounds_toArray, List.set_cons_zero, List.set_cons_succ, List.getElem_toArray, List.getElem_cons_succ, List.getElem_cons_zero]
  refine wpAnyH_take (i := 9) (v := ?_) rfl (by kernel_rfl) (by kernel_rfl) (by kernel_rfl) (fun _ _ _ h => h) (Or.inl ⟨by rfl, ?v9⟩) (by assumption) ?_
  case v9 => (intro w hSw; (try dsimp only at hSw); go_simp; try with_reducible rfl)
  try simp only [Act.put, List.setIfInBounds_toArray, List.set_cons_zero, List.set_cons_succ, List.getElem_toArray, List.getElem_cons_succ, List.getElem_cons_zero]
  refine wpAnyH_take (i := 10) (v := ?_) rfl (by kernel_rfl) (by kernel_rfl) (by kernel_rfl) (fun _ _ _ h => h) (Or.inl ⟨by rfl, ?v10⟩) (by assumption) ?_
  case v10 => (intro w hSw; (try dsimp only at hSw); go_simp; try with_reducible rfl)
  try simp only [Act.put, List.setIfInBounds_toArray, List.set_cons_zero, List.set_cons_succ, List.getElem_toArray, List.getElem_cons_succ, List.getElem_cons_zero]
  refine wpAnyH_ready (rs := [0, 6]) (by kernel_rfl) (by simp) ?_
  refine AllReadyH.cons rfl (fun K hK => ?_) (AllReadyH.cons rfl (fun K hK => ?_) AllReadyH.nil)
  · skip
    go_simp
    have he := World.ownsRow_lit (base := w.heap.size) (e := 36) (size := 3) _ #[] 0 HBc.out.size (by simp [maxLen]) rfl
    have HE0 := veil he
    clear he
    replace HBc := veil (HBc.out.alloc HBc.out.size (.cells #[] 36))
    refine hK.out _ _ ?_ (fun hHeld => ?_)
    · exact HCC.out _ HBc.out
    clear hK K
    try simp only [Act.put, List.setIfInBounds_toArray, List.set_cons_zero, List.set_cons_succ, List.getElem_toArray, List.getElem_cons_succ, List.getElem_cons_zero]
    refine wpAnyH_ready (rs := [5, 6]) (by kernel_rfl) (by simp) ?_
    refine AllReadyH.cons rfl (fun K hK => ?_) (AllReadyH.cons rfl (fun K hK => ?_) AllReadyH.nil)
    · skip
      refine step_append_any _ (by rfl) _ _ _ (by rfl) w.heap.size 36 i0 (.agg #[.bool false, .int .u64 0, .int .u8 0]) 3 24 Try.underlying45 hi0 hz0 hz1 hz2 rfl (by omega) _ 0 [] (by rfl) HE0.out ⟨gb, 0, none⟩ T.length cb (kcells T) (by rfl) (kcells_length T) (HNK.out _ HBc.out) H1K.out (by unfold maxLen; omega) (by omega) HBc.out.size ?_
      intro v5 W5 ho hg
      have hv5 : W5.ownsRow w.heap.size 36 3 v5 T.length (kcells T) := by simpa using ho
      have HV5 := veil hv5
      clear hv5
      obtain ⟨a5, d5, rfl, _, _⟩ := form_of HV5.out
      replace HBc := veil (HBc.out.grown hg HBc.out.size (fun k hk => (ownsRow_blk HE0.out hk).1))
      clear ho hg HE0
      refine hK.out _ _ ?_ (fun hHeld => ?_)
      · exact HCC.out _ HBc.out
      clear hK K
      try simp only [Act.put, List.setIfInBounds_toArray, List.set_cons_zero, List.set_cons_succ, List.getElem_toArray, List.getElem_cons_succ, List.getElem_cons_zero]
      refine wpAnyH_ready (rs := [6]) (by kernel_rfl) (by simp) ?_
      refine AllReadyH.cons rfl (fun K hK => ?_) AllReadyH.nil
      go_simp
      have he := World.ownsRow_lit (base := w.heap.size) (e := 3) (size := 1) _ #[] 0 HBc.out.size (by simp [maxLen]) rfl
      have HE6 := veil he
      clear he
      replace HV5 := veil (HV5.out.alloc (.cells #[] 3))
      replace HBc := veil (HBc.out.alloc HBc.out.size (.cells #[] 3))
      refine hK.out _ _ ?_ (fun hHeld => ?_)
      · exact HCC.out _ HBc.out
      clear hK K
      try simp only [Act.put, List.setIfInBounds_toArray, List.set_cons_zero, List.set_cons_succ, List.getElem_toArray, List.getElem_cons_succ, List.getElem_cons_zero]
      refine wpAnyH_ready (rs := [11]) (by kernel_rfl) (by simp) ?_
      refine AllReadyH.cons rfl (fun K hK => ?_) AllReadyH.nil
      refine step_append_any _ (by rfl) _ _ _ (by rfl) w.heap.size 3 j0 (.int .i64 0) 1 8 Try.underlying31 hj0 hy0 hy1 hy2 rfl (by omega) _ 0 [] (by rfl) HE6.out ⟨go, 0, none⟩ L.length co (hcells L) (by rfl) (by simp [hcells]) (HNO.out _ HBc.out) H1O.out (by unfold maxLen; omega) (by omega) HBc.out.size ?_
      intro v11 W11 ho hg
      have hv11 : W11.ownsRow w.heap.size 3 1 v11 L.length (hcells L) := by simpa using ho
      have HV11 := veil hv11
      clear hv11
      obtain ⟨a11, d11, rfl, _, _⟩ := form_of HV11.out
      replace HV5 := veil (ownsRow_far HV5.out (fun k hk => hg.block k (ownsRow_blk HV5.out hk).2.1 (fun e => by obtain ⟨_, _, c1', q1⟩ := ownsRow_blk HV5.out hk; obtain ⟨_, _, c2', q2⟩ := ownsRow_blk HE6.out e.symm; rw [q1] at q2; simp at q2)))
      replace HBc := veil (HBc.out.grown hg HBc.out.size (fun k hk => (ownsRow_blk HE6.out hk).1))
      clear ho hg HE6
      refine hK.out _ _ ?_ (fun hHeld => ?_)
      · exact HCC.out _ HBc.out
      clear hK K
      try simp only [Act.put, List.setIfInBounds_toArray, List.set_cons_zero, List.set_cons_succ, List.getElem_toArray, List.getElem_cons_succ, List.getElem_cons_zero]
      refine wpAnyH_take (i := 12) (v := ?_) rfl (by kernel_rfl) (by kernel_rfl) (by kernel_rfl) (fun _ _ _ h => h) (Or.inl ⟨by rfl, ?v12⟩) (by assumption) ?_
      case v12 => (intro w hSw; (try dsimp only at hSw); go_simp; try with_reducible rfl)
      try simp only [Act.put, List.setIfInBounds_toArray, List.set_cons_zero, List.set_cons_succ, List.getElem_toArray, List.getElem_cons_succ, List.getElem_cons_zero]
      refine wpAnyH_ready (rs := [13]) (by kernel_rfl) (by simp) ?_
      refine AllReadyH.cons rfl (fun K hK => ?_) AllReadyH.nil
      go_simp
      have HQ0 : Hid (QF w (W11.alloc (.cells #[.slice a5 T.length d5, .slice a11 L.length d11, .slice none 0 0] 79)) W11.heap.size (.slice a5 T.length d5) (.slice a11 L.length d11) (.slice none 0 0) [] T L 0) := ⟨World.alloc_heap_new W11 _, HBc.out.size, HV5.out.alloc _, HV11.out.alloc _, World.ownsRow_nil _ _ _ _, by simp, by simp, HBc.out.alloc HBc.out.size _⟩
      replace HBc := veil (HBc.out.alloc HBc.out.size (.cells #[.slice a5 T.length d5, .slice a11 L.length d11, .slice none 0 0] 79))
      clear HV5 HV11
      refine hK.out _ _ ?_ (fun hHeld => ?_)
      · exact HCC.out _ HBc.out
      clear hK K
      try simp only [Act.put, List.setIfInBounds_toArray, List.set_cons_zero, List.set_cons_succ, List.getElem_toArray, List.getElem_cons_succ, List.getElem_cons_zero]
      refine wpAnyH_take (i := 14) (v := ?_) rfl (by kernel_rfl) (by kernel_rfl) (by kernel_rfl) (fun _ _ _ h => h) (Or.inl ⟨by rfl, ?v14⟩) (by assumption) ?_
      case v14 => (intro w hSw; (try dsimp only at hSw); go_simp; try with_reducible rfl)
      try simp only [Act.put, List.setIfInBounds_toArray, List.set_cons_zero, List.set_cons_succ, List.getElem_toArray, List.getElem_cons_succ, List.getElem_cons_zero]
      refine wpAnyH_done (by kernel_rfl) ?_ _
      clear HNK HNO H1K H1O HBc HCC c0 c1
      generalize W11.heap.size = f at *
      generalize W11.alloc (.cells #[.slice a5 T.length d5, .slice a11 L.length d11, .slice none 0 0] 79) = W0 at *
      go_wp2
      go_loopw [4] (fun p wr => ∃ (j : Nat) (vw' : Value) (Vn : List Value), j ≤ L.length ∧ p = .int .i64 j ∧ QF w wr f (.slice a5 T.length d5) (.slice a11 L.length d11) vw' Vn T L j) (fun p _ => L.length - (intOf p).toNat)
      case atStart => exact ⟨0, _, [], by omega, rfl, HQ0.out⟩
      case round =>
        obtain ⟨j, vw', Vn, hj, rfl, hq⟩ := hrel
        have c2' := HC2.out _ hq.be
        by_cases hjl : j < L.length
        · have hjl' : (j : Int) < (L.length : Int) := by omega
          obtain ⟨y, hy⟩ : ∃ y, L[j]? = some y := ⟨_, List.getElem?_eq_getElem hjl⟩
          obtain ⟨wa, wc, rfl, _, _⟩ := form_of hq.wo
          obtain ⟨s2, sf⟩ := hq.sc
          have HW := veil (HWt.out j y wr.drew hq.be.drew hy)
          have HQ := veil hq
          have HY := veil hy
          clear hq hy
          go_wp2
          refine wp_region_held_drew (S := (fun _ => True)) (by kernel_rfl) trivial (fun hHeld => ?_)
          refine wpAnyH_take (i := 0) (v := ?_) rfl (by kernel_rfl) (by kernel_rfl) (by kernel_rfl) (fun _ _ _ h => h) (Or.inl ⟨by rfl, ?v0⟩) (by assumption) ?_
          case v0 => (intro w hSw; (try dsimp only at hSw); go_simp; try with_reducible rfl)
          try simp only [Act.put, List.setIfInBounds_toArray, List.set_cons_zero, List.set_cons_succ, List.getElem_toArray, List.getElem_cons_zero]
          refine wpAnyH_take (i := 1) (v := ?_) rfl (by kernel_rfl) (by kernel_rfl) (by kernel_rfl) (fun _ _ _ h => h) (Or.inl ⟨by rfl, ?v1⟩) (by assumption) ?_
          case v1 => (intro w hSw; (try dsimp only at hSw); go_simp; try with_reducible rfl)
          try simp only [Act.put, List.setIfInBounds_toArray, List.set_cons_zero, List.set_cons_succ, List.getElem_toArray, List.getElem_cons_succ, List.getElem_cons_zero]
          refine wpAnyH_take (i := 2) (v := ?_) rfl (by kernel_rfl) (by kernel_rfl) (by kernel_rfl) (fun _ _ _ h => h) (Or.inl ⟨by rfl, ?v2⟩) (by assumption) ?_
          case v2 => (intro w hSw; (try dsimp only at hSw); go_simp; try with_reducible rfl)
          try simp only [Act.put, List.setIfInBounds_toArray, List.set_cons_zero, List.set_cons_succ, List.getElem_toArray, List.getElem_cons_succ, List.getElem_cons_zero]
          refine wpAnyH_take (i := 3) (v := ?_) rfl (by kernel_rfl) (by kernel_rfl) (by kernel_rfl) (fun _ _ _ h => h) (Or.inl ⟨by rfl, ?v3⟩) (by assumption) ?_
          case v3 => (intro w hSw; (try dsimp only at hSw); go_simp; try with_reducible rfl)
          try simp only [Act.put, List.setIfInBounds_toArray, List.set_cons_zero, List.set_cons_succ, List.getElem_toArray, List.getElem_cons_succ, List.getElem_cons_zero]
          refine wpAnyH_take (i := 5) (v := ?_) rfl (by kernel_rfl) (by kernel_rfl) (by kernel_rfl) (fun _ _ _ h => h) (Or.inl ⟨by rfl, ?v5⟩) (by assumption) ?_
          case v5 => (intro w hSw; (try dsimp only at hSw); go_simp; try with_reducible rfl)
          try simp only [Act.put, List.setIfInBounds_toArray, List.set_cons_zero, List.set_cons_succ, List.getElem_toArray, List.getElem_cons_succ, List.getElem_cons_zero]
          refine wpAnyH_take (i := 6) (v := ?_) rfl (by kernel_rfl) (by kernel_rfl) (by kernel_rfl) (fun _ _ _ h => h) (Or.inl ⟨by rfl, ?v6⟩) (by assumption) ?_
          case v6 => (intro w hSw; (try dsimp only at hSw); go_simp; try with_reducible rfl)
          try simp only [Act.put, List.setIfInBounds_toArray, List.set_cons_zero, List.set_cons_succ, List.getElem_toArray, List.getElem_cons_succ, List.getElem_cons_zero]
          refine wpAnyH_ready (rs := [4, 7]) (by kernel_rfl) (by simp) ?_
          refine AllReadyH.cons rfl (fun K hK => ?_) (AllReadyH.cons rfl (fun K hK => ?_) AllReadyH.nil)
          · skip
            go_simp
            refine hK.out _ _ ?_ (fun hHeld => ?_)
            · trivial
            clear hK K
            try simp only [Act.put, List.setIfInBounds_toArray, List.set_cons_zero, List.set_cons_succ, List.getElem_toArray, List.getElem_cons_succ, List.getElem_cons_zero]
            refine wpAnyH_ready (rs := [7]) (by kernel_rfl) (by simp) ?_
            refine AllReadyH.cons rfl (fun K hK => ?_) AllReadyH.nil
            go_simp
            go_at_call 40
            refine (HW.out).mono ?_
            rintro e w3 ⟨v3, rfl, ho, hb0⟩
            obtain ⟨a3, d3, rfl, _, _⟩ := form_of ho
            have hb3 : Below wr.heap.size wr w3 := ((Below.refl _ wr).drew).trans hb0
            have HQ3 := veil (HQ.out.below hb3)
            have HO3 := veil (row_low ho HQ.out.be.size)
            have HAP : Hid (∀ k, (Value.slice a3 y.l.length d3).ownBlock = some k → (Value.slice a11 L.length d11).ownBlock ≠ some k) := fun k h1 h2 => by
              have q1 : wr.heap.size ≤ k := (ownsRow_blk ho h1).1
              have q2 := (ownsRow_blk HQ.out.oo h2).2.1
              omega
            obtain ⟨t2, tf⟩ := HQ3.out.sc
            clear ho hb0 hb3
            refine hK.out _ _ ?_ (fun hHeld => ?_)
            · trivial
            clear hK K
            try simp only [Act.put, List.setIfInBounds_toArray, List.set_cons_zero, List.set_cons_succ, List.getElem_toArray, List.getElem_cons_succ, List.getElem_cons_zero]
            refine wpAnyH_ready (rs := [8]) (by kernel_rfl) (by simp) ?_
            refine AllReadyH.cons rfl (fun K hK => ?_) AllReadyH.nil
            go_simp
            have HQ8 := veil (HQ3.out.below ((Below.refl _ w3).alloc (Nat.le_refl _) (.cells #[(.slice a3 y.l.length d3)] 31)))
            have HNw := veil (cell_one_new w3 (.slice a3 y.l.length d3) 31)
            obtain ⟨x2, xf⟩ := HQ8.out.sc
            refine hK.out _ _ ?_ (fun hHeld => ?_)
            · trivial
            clear hK K
            try simp only [Act.put, List.setIfInBounds_toArray, List.set_cons_zero, List.set_cons_succ, List.getElem_toArray, List.getElem_cons_succ, List.getElem_cons_zero]
            refine wpAnyH_ready (rs := [9]) (by kernel_rfl) (by simp) ?_
            refine AllReadyH.cons rfl (fun K hK => ?_) AllReadyH.nil
            refine step_append_any _ (by rfl) _ _ _ (by rfl) w.heap.size 31 k0 (.slice none 0 0) 1 24 Try.underlying77 hk0 hx0 hx1 hx2 rfl (by omega) _ j Vn (by rfl) HQ8.out.wo ⟨w3.heap.size, 0, none⟩ 1 1 [(.slice a3 y.l.length d3)] (by rfl) rfl HNw.out (by simp [Value.oneCell']) (by unfold maxLen; omega) (by omega) HQ8.out.be.size ?_
            intro v9 w9 ho9 hg9
            obtain ⟨a9, d9, rfl⟩ := ownsRow_succ ho9
            obtain ⟨q1, q2, q3⟩ := HQ3.out.next HY.out HO3.out HAP.out ho9 hg9
            have HN := veil q3
            clear ho9 hg9 q3
            refine hK.out _ _ ?_ (fun hHeld => ?_)
            · trivial
            clear hK K
            try simp only [Act.put, List.setIfInBounds_toArray, List.set_cons_zero, List.set_cons_succ, List.getElem_toArray, List.getElem_cons_succ, List.getElem_cons_zero]
            refine wpAnyH_take (i := 10) (v := ?_) rfl (by kernel_rfl) (by kernel_rfl) (by kernel_rfl) (fun _ _ _ h => h) (Or.inl ⟨by rfl, ?v10⟩) (by assumption) ?_
            case v10 => (intro w hSw; (try dsimp only at hSw); go_simp; try with_reducible rfl)
            try simp only [Act.put, List.setIfInBounds_toArray, List.set_cons_zero, List.set_cons_succ, List.getElem_toArray, List.getElem_cons_succ, List.getElem_cons_zero]
            refine wpAnyH_take (i := 11) (v := ?_) rfl (by kernel_rfl) (by kernel_rfl) (by kernel_rfl) (fun _ _ _ h => h) (Or.inl ⟨by rfl, ?v11⟩) (by assumption) ?_
            case v11 => (intro w hSw; (try dsimp only at hSw); go_simp; try with_reducible rfl)
            try simp only [Act.put, List.setIfInBounds_toArray, List.set_cons_zero, List.set_cons_succ, List.getElem_toArray, List.getElem_cons_succ, List.getElem_cons_zero]
            refine wpAnyH_ready (rs := [12]) (by kernel_rfl) (by simp) ?_
            refine AllReadyH.cons rfl (fun K hK => ?_) AllReadyH.nil
            go_simp
            refine hK.out _ _ ?_ (fun hHeld => ?_)
            · trivial
            clear hK K
            try simp only [Act.put, List.setIfInBounds_toArray, List.set_cons_zero, List.set_cons_succ, List.getElem_toArray, List.getElem_cons_succ, List.getElem_cons_zero]
            refine wpAnyH_done (by kernel_rfl) ?_ _
            go_wp2
            go_roundw
            case rel => exact ⟨j + 1, _, _, by omega, by go_num, HN.out⟩
            case measure => simp [intOf]; omega
          · skip
            go_simp
            go_at_call 40
            refine (HW.out).mono ?_
            rintro e w3 ⟨v3, rfl, ho, hb0⟩
            obtain ⟨a3, d3, rfl, _, _⟩ := form_of ho
            have hb3 : Below wr.heap.size wr w3 := ((Below.refl _ wr).drew).trans hb0
            have HQ3 := veil (HQ.out.below hb3)
            have HO3 := veil (row_low ho HQ.out.be.size)
            have HAP : Hid (∀ k, (Value.slice a3 y.l.length d3).ownBlock = some k → (Value.slice a11 L.length d11).ownBlock ≠ some k) := fun k h1 h2 => by
              have q1 : wr.heap.size ≤ k := (ownsRow_blk ho h1).1
              have q2 := (ownsRow_blk HQ.out.oo h2).2.1
              omega
            obtain ⟨t2, tf⟩ := HQ3.out.sc
            clear ho hb0 hb3
            refine hK.out _ _ ?_ (fun hHeld => ?_)
            · trivial
            clear hK K
            try simp only [Act.put, List.setIfInBounds_toArray, List.set_cons_zero, List.set_cons_succ, List.getElem_toArray, List.getElem_cons_succ, List.getElem_cons_zero]
            refine wpAnyH_ready (rs := [4, 8]) (by kernel_rfl) (by simp) ?_
            refine AllReadyH.cons rfl (fun K hK => ?_) (AllReadyH.cons rfl (fun K hK => ?_) AllReadyH.nil)
            · skip
              go_simp
              refine hK.out _ _ ?_ (fun hHeld => ?_)
              · trivial
              clear hK K
              try simp only [Act.put, List.setIfInBounds_toArray, List.set_cons_zero, List.set_cons_succ, List.getElem_toArray, List.getElem_cons_succ, List.getElem_cons_zero]
              refine wpAnyH_ready (rs := [8]) (by kernel_rfl) (by simp) ?_
              refine AllReadyH.cons rfl (fun K hK => ?_) AllReadyH.nil
              go_simp
              have HQ8 := veil (HQ3.out.below ((Below.refl _ w3).alloc (Nat.le_refl _) (.cells #[(.slice a3 y.l.length d3)] 31)))
              have HNw := veil (cell_one_new w3 (.slice a3 y.l.length d3) 31)
              obtain ⟨x2, xf⟩ := HQ8.out.sc
              refine hK.out _ _ ?_ (fun hHeld => ?_)
              · trivial
              clear hK K
              try simp only [Act.put, List.setIfInBounds_toArray, List.set_cons_zero, List.set_cons_succ, List.getElem_toArray, List.getElem_cons_succ, List.getElem_cons_zero]
              refine wpAnyH_ready (rs := [9]) (by kernel_rfl) (by simp) ?_
              refine AllReadyH.cons rfl (fun K hK => ?_) AllReadyH.nil
              refine step_append_any _ (by rfl) _ _ _ (by rfl) w.heap.size 31 k0 (.slice none 0 0) 1 24 Try.underlying77 hk0 hx0 hx1 hx2 rfl (by omega) _ j Vn (by rfl) HQ8.out.wo ⟨w3.heap.size, 0, none⟩ 1 1 [(.slice a3 y.l.length d3)] (by rfl) rfl HNw.out (by simp [Value.oneCell']) (by unfold maxLen; omega) (by omega) HQ8.out.be.size ?_
              intro v9 w9 ho9 hg9
              obtain ⟨a9, d9, rfl⟩ := ownsRow_succ ho9
              obtain ⟨q1, q2, q3⟩ := HQ3.out.next HY.out HO3.out HAP.out ho9 hg9
              have HN := veil q3
              clear ho9 hg9 q3
              refine hK.out _ _ ?_ (fun hHeld => ?_)
              · trivial
              clear hK K
              try simp only [Act.put, List.setIfInBounds_toArray, List.set_cons_zero, List.set_cons_succ, List.getElem_toArray, List.getElem_cons_succ, List.getElem_cons_zero]
              refine wpAnyH_take (i := 10) (v := ?_) rfl (by kernel_rfl) (by kernel_rfl) (by kernel_rfl) (fun _ _ _ h => h) (Or.inl ⟨by rfl, ?v10⟩) (by assumption) ?_
              case v10 => (intro w hSw; (try dsimp only at hSw); go_simp; try with_reducible rfl)
              try simp only [Act.put, List.setIfInBounds_toArray, List.set_cons_zero, List.set_cons_succ, List.getElem_toArray, List.getElem_cons_succ, List.getElem_cons_zero]
              refine wpAnyH_take (i := 11) (v := ?_) rfl (by kernel_rfl) (by kernel_rfl) (by kernel_rfl) (fun _ _ _ h => h) (Or.inl ⟨by rfl, ?v11⟩) (by assumption) ?_
              case v11 => (intro w hSw; (try dsimp only at hSw); go_simp; try with_reducible rfl)
              try simp only [Act.put, List.setIfInBounds_toArray, List.set_cons_zero, List.set_cons_succ, List.getElem_toArray, List.getElem_cons_succ, List.getElem_cons_zero]
              refine wpAnyH_ready (rs := [12]) (by kernel_rfl) (by simp) ?_
              refine AllReadyH.cons rfl (fun K hK => ?_) AllReadyH.nil
              go_simp
              refine hK.out _ _ ?_ (fun hHeld => ?_)
              · trivial
              clear hK K
              try simp only [Act.put, List.setIfInBounds_toArray, List.set_cons_zero, List.set_cons_succ, List.getElem_toArray, List.getElem_cons_succ, List.getElem_cons_zero]
              refine wpAnyH_done (by kernel_rfl) ?_ _
              go_wp2
              go_roundw
              case rel => exact ⟨j + 1, _, _, by omega, by go_num, HN.out⟩
              case measure => simp [intOf]; omega
            · skip
              go_simp
              have HQ8 := veil (HQ3.out.below ((Below.refl _ w3).alloc (Nat.le_refl _) (.cells #[(.slice a3 y.l.length d3)] 31)))
              have HNw := veil (cell_one_new w3 (.slice a3 y.l.length d3) 31)
              obtain ⟨x2, xf⟩ := HQ8.out.sc
              refine hK.out _ _ ?_ (fun hHeld => ?_)
              · trivial
              clear hK K
              try simp only [Act.put, List.setIfInBounds_toArray, List.set_cons_zero, List.set_cons_succ, List.getElem_toArray, List.getElem_cons_succ, List.getElem_cons_zero]
              refine wpAnyH_ready (rs := [4]) (by kernel_rfl) (by simp) ?_
              refine AllReadyH.cons rfl (fun K hK => ?_) AllReadyH.nil
              go_simp
              refine hK.out _ _ ?_ (fun hHeld => ?_)
              · trivial
              clear hK K
              try simp only [Act.put, List.setIfInBounds_toArray, List.set_cons_zero, List.set_cons_succ, List.getElem_toArray, List.getElem_cons_succ, List.getElem_cons_zero]
              refine wpAnyH_ready (rs := [9]) (by kernel_rfl) (by simp) ?_
              refine AllReadyH.cons rfl (fun K hK => ?_) AllReadyH.nil
              refine step_append_any _ (by rfl) _ _ _ (by rfl) w.heap.size 31 k0 (.slice none 0 0) 1 24 Try.underlying77 hk0 hx0 hx1 hx2 rfl (by omega) _ j Vn (by rfl) HQ8.out.wo ⟨w3.heap.size, 0, none⟩ 1 1 [(.slice a3 y.l.length d3)] (by rfl) rfl HNw.out (by simp [Value.oneCell']) (by unfold maxLen; omega) (by omega) HQ8.out.be.size ?_
              intro v9 w9 ho9 hg9
              obtain ⟨a9, d9, rfl⟩ := ownsRow_succ ho9
              obtain ⟨q1, q2, q3⟩ := HQ3.out.next HY.out HO3.out HAP.out ho9 hg9
              have HN := veil q3
              clear ho9 hg9 q3
              refine hK.out _ _ ?_ (fun hHeld => ?_)
              · trivial
              clear hK K
              try simp only [Act.put, List.setIfInBounds_toArray, List.set_cons_zero, List.set_cons_succ, List.getElem_toArray, List.getElem_cons_succ, List.getElem_cons_zero]
              refine wpAnyH_take (i := 10) (v := ?_) rfl (by kernel_rfl) (by kernel_rfl) (by kernel_rfl) (fun _ _ _ h => h) (Or.inl ⟨by rfl, ?v10⟩) (by assumption) ?_
              case v10 => (intro w hSw; (try dsimp only at hSw); go_simp; try with_reducible rfl)
              try simp only [Act.put, List.setIfInBounds_toArray, List.set_cons_zero, List.set_cons_succ, List.getElem_toArray, List.getElem_cons_succ, List.getElem_cons_zero]
              refine wpAnyH_take (i := 11) (v := ?_) rfl (by kernel_rfl) (by kernel_rfl) (by kernel_rfl) (fun _ _ _ h => h) (Or.inl ⟨by rfl, ?v11⟩) (by assumption) ?_
              case v11 => (intro w hSw; (try dsimp only at hSw); go_simp; try with_reducible rfl)
              try simp only [Act.put, List.setIfInBounds_toArray, List.set_cons_zero, List.set_cons_succ, List.getElem_toArray, List.getElem_cons_succ, List.getElem_cons_zero]
              refine wpAnyH_ready (rs := [12]) (by kernel_rfl) (by simp) ?_
              refine AllReadyH.cons rfl (fun K hK => ?_) AllReadyH.nil
              go_simp
              refine hK.out _ _ ?_ (fun hHeld => ?_)
              · trivial
              clear hK K
              try simp only [Act.put, List.setIfInBounds_toArray, List.set_cons_zero, List.set_cons_succ, List.getElem_toArray, List.getElem_cons_succ, List.getElem_cons_zero]
              refine wpAnyH_done (by kernel_rfl) ?_ _
              go_wp2
              go_roundw
              case rel => exact ⟨j + 1, _, _, by omega, by go_num, HN.out⟩
              case measure => simp [intOf]; omega
        · have hjl' : ¬ (j : Int) < (L.length : Int) := by omega
          obtain rfl : j = L.length := by omega
          have HD := veil (hq.done HFi.out)
          have HB := veil hq.be
          clear hq
          go_wp2
          go_ret
          exact ⟨_, rfl, ⟨_, _, _, _, HD.out⟩, HB.out⟩
    · skip
      go_simp
      have he := World.ownsRow_lit (base := w.heap.size) (e := 3) (size := 1) _ #[] 0 HBc.out.size (by simp [maxLen]) rfl
      rw [World.size_alloc] at he
      have HE6 := veil he
      clear he
      replace HE0 := veil (HE0.out.alloc (.cells #[] 3))
      replace HBc := veil (HBc.out.alloc HBc.out.size (.cells #[] 3))
      refine hK.out _ _ ?_ (fun hHeld => ?_)
      · exact HCC.out _ HBc.out
      clear hK K
      try simp only [Act.put, List.setIfInBounds_toArray, List.set_cons_zero, List.set_cons_succ, List.getElem_toArray, List.getElem_cons_succ, List.getElem_cons_zero]
      refine wpAnyH_ready (rs := [5]) (by kernel_rfl) (by simp) ?_
      refine AllReadyH.cons rfl (fun K hK => ?_) AllReadyH.nil
      refine step_append_any _ (by rfl) _ _ _ (by rfl) w.heap.size 36 i0 (.agg #[.bool false, .int .u64 0, .int .u8 0]) 3 24 Try.underlying45 hi0 hz0 hz1 hz2 rfl (by omega) _ 0 [] (by rfl) HE0.out ⟨gb, 0, none⟩ T.length cb (kcells T) (by rfl) (kcells_length T) (HNK.out _ HBc.out) H1K.out (by unfold maxLen; omega) (by omega) HBc.out.size ?_
      intro v5 W5 ho hg
      have hv5 : W5.ownsRow w.heap.size 36 3 v5 T.length (kcells T) := by simpa using ho
      have HV5 := veil hv5
      clear hv5
      obtain ⟨a5, d5, rfl, _, _⟩ := form_of HV5.out
      replace HE6 := veil (ownsRow_far HE6.out (fun k hk => hg.block k (ownsRow_blk HE6.out hk).2.1 (fun e => by obtain ⟨_, _, c1', q1⟩ := ownsRow_blk HE6.out hk; obtain ⟨_, _, c2', q2⟩ := ownsRow_blk HE0.out e.symm; rw [q1] at q2; simp at q2)))
      replace HBc := veil (HBc.out.grown hg HBc.out.size (fun k hk => (ownsRow_blk HE0.out hk).1))
      clear ho hg HE0
      refine hK.out _ _ ?_ (fun hHeld => ?_)
      · exact HCC.out _ HBc.out
      clear hK K
      try simp only [Act.put, List.setIfInBounds_toArray, List.set_cons_zero, List.set_cons_succ, List.getElem_toArray, List.getElem_cons_succ, List.getElem_cons_zero]
      refine wpAnyH_ready (rs := [11]) (by kernel_rfl) (by simp) ?_
      refine AllReadyH.cons rfl (fun K hK => ?_) AllReadyH.nil
      refine step_append_any _ (by rfl) _ _ _ (by rfl) w.heap.size 3 j0 (.int .i64 0) 1 8 Try.underlying31 hj0 hy0 hy1 hy2 rfl (by omega) _ 0 [] (by rfl) HE6.out ⟨go, 0, none⟩ L.length co (hcells L) (by rfl) (by simp [hcells]) (HNO.out _ HBc.out) H1O.out (by unfold maxLen; omega) (by omega) HBc.out.size ?_
      intro v11 W11 ho hg
      have hv11 : W11.ownsRow w.heap.size 3 1 v11 L.length (hcells L) := by simpa using ho
      have HV11 := veil hv11
      clear hv11
      obtain ⟨a11, d11, rfl, _, _⟩ := form_of HV11.out
      replace HV5 := veil (ownsRow_far HV5.out (fun k hk => hg.block k (ownsRow_blk HV5.out hk).2.1 (fun e => by obtain ⟨_, _, c1', q1⟩ := ownsRow_blk HV5.out hk; obtain ⟨_, _, c2', q2⟩ := ownsRow_blk HE6.out e.symm; rw [q1] at q2; simp at q2)))
      replace HBc := veil (HBc.out.grown hg HBc.out.size (fun k hk => (ownsRow_blk HE6.out hk).1))
      clear ho hg HE6
      refine hK.out _ _ ?_ (fun hHeld => ?_)
      · exact HCC.out _ HBc.out
      clear hK K
      try simp only [Act.put, List.setIfInBounds_toArray, List.set_cons_zero, List.set_cons_succ, List.getElem_toArray, List.getElem_cons_succ, List.getElem_cons_zero]
      refine wpAnyH_take (i := 12) (v := ?_) rfl (by kernel_rfl) (by kernel_rfl) (by kernel_rfl) (fun _ _ _ h => h) (Or.inl ⟨by rfl, ?v12⟩) (by assumption) ?_
      case v12 => (intro w hSw; (try dsimp only at hSw); go_simp; try with_reducible rfl)
      try simp only [Act.put, List.setIfInBounds_toArray, List.set_cons_zero, List.set_cons_succ, List.getElem_toArray, List.getElem_cons_succ, List.getElem_cons_zero]
      refine wpAnyH_ready (rs := [13]) (by kernel_rfl) (by simp) ?_
      refine AllReadyH.cons rfl (fun K hK => ?_) AllReadyH.nil
      go_simp
      have HQ0 : Hid (QF w (W11.alloc (.cells #[.slice a5 T.length d5, .slice a11 L.length d11, .slice none 0 0] 79)) W11.heap.size (.slice a5 T.length d5) (.slice a11 L.length d11) (.slice none 0 0) [] T L 0) := ⟨World.alloc_heap_new W11 _, HBc.out.size, HV5.out.alloc _, HV11.out.alloc _, World.ownsRow_nil _ _ _ _, by simp, by simp, HBc.out.alloc HBc.out.size _⟩
      replace HBc := veil (HBc.out.alloc HBc.out.size (.cells #[.slice a5 T.length d5, .slice a11 L.length d11, .slice none 0 0] 79))
      clear HV5 HV11
      refine hK.out _ _ ?_ (fun hHeld => ?_)
      · exact HCC.out _ HBc.out
      clear hK K
      try simp only [Act.put, List.setIfInBounds_toArray, List.set_cons_zero, List.set_cons_succ, List.getElem_toArray, List.getElem_cons_succ, List.getElem_cons_zero]
      refine wpAnyH_take (i := 14) (v := ?_) rfl (by kernel_rfl) (by kernel_rfl) (by kernel_rfl) (fun _ _ _ h => h) (Or.inl ⟨by rfl, ?v14⟩) (by assumption) ?_
      case v14 => (intro w hSw; (try dsimp only at hSw); go_simp; try with_reducible rfl)
      try simp only [Act.put, List.setIfInBounds_toArray, List.set_cons_zero, List.set_cons_succ, List.getElem_toArray, List.getElem_cons_succ, List.getElem_cons_zero]
      refine wpAnyH_done (by kernel_rfl) ?_ _
      clear HNK HNO H1K H1O HBc HCC c0 c1
      generalize W11.heap.size = f at *
      generalize W11.alloc (.cells #[.slice a5 T.length d5, .slice a11 L.length d11, .slice none 0 0] 79) = W0 at *
      go_wp2
      go_loopw [4] (fun p wr => ∃ (j : Nat) (vw' : Value) (Vn : List Value), j ≤ L.length ∧ p = .int .i64 j ∧ QF w wr f (.slice a5 T.length d5) (.slice a11 L.length d11) vw' Vn T L j) (fun p _ => L.length - (intOf p).toNat)
      case atStart => exact ⟨0, _, [], by omega, rfl, HQ0.out⟩
      case round =>
        obtain ⟨j, vw', Vn, hj, rfl, hq⟩ := hrel
        have c2' := HC2.out _ hq.be
        by_cases hjl : j < L.length
        · have hjl' : (j : Int) < (L.length : Int) := by omega
          obtain ⟨y, hy⟩ : ∃ y, L[j]? = some y := ⟨_, List.getElem?_eq_getElem hjl⟩
          obtain ⟨wa, wc, rfl, _, _⟩ := form_of hq.wo
          obtain ⟨s2, sf⟩ := hq.sc
          have HW := veil (HWt.out j y wr.drew hq.be.drew hy)
          have HQ := veil hq
          have HY := veil hy
          clear hq hy
          go_wp2
          refine wp_region_held_drew (S := (fun _ => True)) (by kernel_rfl) trivial (fun hHeld => ?_)
          refine wpAnyH_take (i := 0) (v := ?_) rfl (by kernel_rfl) (by kernel_rfl) (by kernel_rfl) (fun _ _ _ h => h) (Or.inl ⟨by rfl, ?v0⟩) (by assumption) ?_
          case v0 => (intro w hSw; (try dsimp only at hSw); go_simp; try with_reducible rfl)
          try simp only [Act.put, List.setIfInBounds_toArray, List.set_cons_zero, List.set_cons_succ, List.getElem_toArray, List.getElem_cons_zero]
          refine wpAnyH_take (i := 1) (v := ?_) rfl (by kernel_rfl) (by kernel_rfl) (by kernel_rfl) (fun _ _ _ h => h) (Or.inl ⟨by rfl, ?v1⟩) (by assumption) ?_
          case v1 => (intro w hSw; (try dsimp only at hSw); go_simp; try with_reducible rfl)
          try simp only [Act.put, List.setIfInBounds_toArray, List.set_cons_zero, List.set_cons_succ, List.getElem_toArray, List.getElem_cons_succ, List.getElem_cons_zero]
          refine wpAnyH_take (i := 2) (v := ?_) rfl (by kernel_rfl) (by kernel_rfl) (by kernel_rfl) (fun _ _ _ h => h) (Or.inl ⟨by rfl, ?v2⟩) (by assumption) ?_
          case v2 => (intro w hSw; (try dsimp only at hSw); go_simp; try with_reducible rfl)
          try simp only [Act.put, List.setIfInBounds_toArray, List.set_cons_zero, List.set_cons_succ, List.getElem_toArray, List.getElem_cons_succ, List.getElem_cons_zero]
          refine wpAnyH_take (i := 3) (v := ?_) rfl (by kernel_rfl) (by kernel_rfl) (by kernel_rfl) (fun _ _ _ h => h) (Or.inl ⟨by rfl, ?v3⟩) (by assumption) ?_
          case v3 => (intro w hSw; (try dsimp only at hSw); go_simp; try with_reducible rfl)
          try simp only [Act.put, List.setIfInBounds_toArray, List.set_cons_zero, List.set_cons_succ, List.getElem_toArray, List.getElem_cons_succ, List.getElem_cons_zero]
          refine wpAnyH_take (i := 5) (v := ?_) rfl (by kernel_rfl) (by kernel_rfl) (by kernel_rfl) (fun _ _ _ h => h) (Or.inl ⟨by rfl, ?v5⟩) (by assumption) ?_
          case v5 => (intro w hSw; (try dsimp only at hSw); go_simp; try with_reducible rfl)
          try simp only [Act.put, List.setIfInBounds_toArray, List.set_cons_zero, List.set_cons_succ, List.getElem_toArray, List.getElem_cons_succ, List.getElem_cons_zero]
          refine wpAnyH_take (i := 6) (v := ?_) rfl (by kernel_rfl) (by kernel_rfl) (by kernel_rfl) (fun _ _ _ h => h) (Or.inl ⟨by rfl, ?v6⟩) (by assumption) ?_
          case v6 => (intro w hSw; (try dsimp only at hSw); go_simp; try with_reducible rfl)
          try simp only [Act.put, List.setIfInBounds_toArray, List.set_cons_zero, List.set_cons_succ, List.getElem_toArray, List.getElem_cons_succ, List.getElem_cons_zero]
          refine wpAnyH_ready (rs := [4, 7]) (by kernel_rfl) (by simp) ?_
          refine AllReadyH.cons rfl (fun K hK => ?_) (AllReadyH.cons rfl (fun K hK => ?_) AllReadyH.nil)
          · skip
            go_simp
            refine hK.out _ _ ?_ (fun hHeld => ?_)
            · trivial
            clear hK K
            try simp only [Act.put, List.setIfInBounds_toArray, List.set_cons_zero, List.set_cons_succ, List.getElem_toArray, List.getElem_cons_succ, List.getElem_cons_zero]
            refine wpAnyH_ready (rs := [7]) (by kernel_rfl) (by simp) ?_
            refine AllReadyH.cons rfl (fun K hK => ?_) AllReadyH.nil
            go_simp
            go_at_call 40
            refine (HW.out).mono ?_
            rintro e w3 ⟨v3, rfl, ho, hb0⟩
            obtain ⟨a3, d3, rfl, _, _⟩ := form_of ho
            have hb3 : Below wr.heap.size wr w3 := ((Below.refl _ wr).drew).trans hb0
            have HQ3 := veil (HQ.out.below hb3)
            have HO3 := veil (row_low ho HQ.out.be.size)
            have HAP : Hid (∀ k, (Value.slice a3 y.l.length d3).ownBlock = some k → (Value.slice a11 L.length d11).ownBlock ≠ some k) := fun k h1 h2 => by
              have q1 : wr.heap.size ≤ k := (ownsRow_blk ho h1).1
              have q2 := (ownsRow_blk HQ.out.oo h2).2.1
              omega
            obtain ⟨t2, tf⟩ := HQ3.out.sc
            clear ho hb0 hb3
            refine hK.out _ _ ?_ (fun hHeld => ?_)
            · trivial
            clear hK K
            try simp only [Act.put, List.setIfInBounds_toArray, List.set_cons_zero, List.set_cons_succ, List.getElem_toArray, List.getElem_cons_succ, List.getElem_cons_zero]
            refine wpAnyH_ready (rs := [8]) (by kernel_rfl) (by simp) ?_
            refine AllReadyH.cons rfl (fun K hK => ?_) AllReadyH.nil
            go_simp
            have HQ8 := veil (HQ3.out.below ((Below.refl _ w3).alloc (Nat.le_refl _) (.cells #[(.slice a3 y.l.length d3)] 31)))
            have HNw := veil (cell_one_new w3 (.slice a3 y.l.length d3) 31)
            obtain ⟨x2, xf⟩ := HQ8.out.sc
            refine hK.out _ _ ?_ (fun hHeld => ?_)
            · trivial
            clear hK K
            try simp only [Act.put, List.setIfInBounds_toArray, List.set_cons_zero, List.set_cons_succ, List.getElem_toArray, List.getElem_cons_succ, List.getElem_cons_zero]
            refine wpAnyH_ready (rs := [9]) (by kernel_rfl) (by simp) ?_
            refine AllReadyH.cons rfl (fun K hK => ?_) AllReadyH.nil
            refine step_append_any _ (by rfl) _ _ _ (by rfl) w.heap.size 31 k0 (.slice none 0 0) 1 24 Try.underlying77 hk0 hx0 hx1 hx2 rfl (by omega) _ j Vn (by rfl) HQ8.out.wo ⟨w3.heap.size, 0, none⟩ 1 1 [(.slice a3 y.l.length d3)] (by rfl) rfl HNw.out (by simp [Value.oneCell']) (by unfold maxLen; omega) (by omega) HQ8.out.be.size ?_
            intro v9 w9 ho9 hg9
            obtain ⟨a9, d9, rfl⟩ := ownsRow_succ ho9
            obtain ⟨q1, q2, q3⟩ := HQ3.out.next HY.out HO3.out HAP.out ho9 hg9
            have HN := veil q3
            clear ho9 hg9 q3
            refine hK.out _ _ ?_ (fun hHeld => ?_)
            · trivial
            clear hK K
            try simp only [Act.put, List.setIfInBounds_toArray, List.set_cons_zero, List.set_cons_succ, List.getElem_toArray, List.getElem_cons_succ, List.getElem_cons_zero]
            refine wpAnyH_take (i := 10) (v := ?_) rfl (by kernel_rfl) (by kernel_rfl) (by kernel_rfl) (fun _ _ _ h => h) (Or.inl ⟨by rfl, ?v10⟩) (by assumption) ?_
            case v10 => (intro w hSw; (try dsimp only at hSw); go_simp; try with_reducible rfl)
            try simp only [Act.put, List.setIfInBounds_toArray, List.set_cons_zero, List.set_cons_succ, List.getElem_toArray, List.getElem_cons_succ, List.getElem_cons_zero]
            refine wpAnyH_take (i := 11) (v := ?_) rfl (by kernel_rfl) (by kernel_rfl) (by kernel_rfl) (fun _ _ _ h => h) (Or.inl ⟨by rfl, ?v11⟩) (by assumption) ?_
            case v11 => (intro w hSw; (try dsimp only at hSw); go_simp; try with_reducible rfl)
            try simp only [Act.put, List.setIfInBounds_toArray, List.set_cons_zero, List.set_cons_succ, List.getElem_toArray, List.getElem_cons_succ, List.getElem_cons_zero]
            refine wpAnyH_ready (rs := [12]) (by kernel_rfl) (by simp) ?_
            refine AllReadyH.cons rfl (fun K hK => ?_) AllReadyH.nil
            go_simp
            refine hK.out _ _ ?_ (fun hHeld => ?_)
            · trivial
            clear hK K
            try simp only [Act.put, List.setIfInBounds_toArray, List.set_cons_zero, List.set_cons_succ, List.getElem_toArray, List.getElem_cons_succ, List.getElem_cons_zero]
            refine wpAnyH_done (by kernel_rfl) ?_ _
            go_wp2
            go_roundw
            case rel => exact ⟨j + 1, _, _, by omega, by go_num, HN.out⟩
            case measure => simp [intOf]; omega
          · skip
            go_simp
            go_at_call 40
            refine (HW.out).mono ?_
            rintro e w3 ⟨v3, rfl, ho, hb0⟩
            obtain ⟨a3, d3, rfl, _, _⟩ := form_of ho
            have hb3 : Below wr.heap.size wr w3 := ((Below.refl _ wr).drew).trans hb0
            have HQ3 := veil (HQ.out.below hb3)
            have HO3 := veil (row_low ho HQ.out.be.size)
            have HAP : Hid (∀ k, (Value.slice a3 y.l.length d3).ownBlock = some k → (Value.slice a11 L.length d11).ownBlock ≠ some k) := fun k h1 h2 => by
              have q1 : wr.heap.size ≤ k := (ownsRow_blk ho h1).1
              have q2 := (ownsRow_blk HQ.out.oo h2).2.1
              omega
            obtain ⟨t2, tf⟩ := HQ3.out.sc
            clear ho hb0 hb3
            refine hK.out _ _ ?_ (fun hHeld => ?_)
            · trivial
            clear hK K
            try simp only [Act.put, List.setIfInBounds_toArray, List.set_cons_zero, List.set_cons_succ, List.getElem_toArray, List.getElem_cons_succ, List.getElem_cons_zero]
            refine wpAnyH_ready (rs := [4, 8]) (by kernel_rfl) (by simp) ?_
            refine AllReadyH.cons rfl (fun K hK => ?_) (AllReadyH.cons rfl (fun K hK => ?_) AllReadyH.nil)
            · skip
              go_simp
              refine hK.out _ _ ?_ (fun hHeld => ?_)
              · trivial
              clear hK K
              try simp only [Act.put, List.setIfInBounds_toArray, List.set_cons_zero, List.set_cons_succ, List.getElem_toArray, List.getElem_cons_succ, List.getElem_cons_zero]
              refine wpAnyH_ready (rs := [8]) (by kernel_rfl) (by simp) ?_
              refine AllReadyH.cons rfl (fun K hK => ?_) AllReadyH.nil
              go_simp
              have HQ8 := veil (HQ3.out.below ((Below.refl _ w3).alloc (Nat.le_refl _) (.cells #[(.slice a3 y.l.length d3)] 31)))
              have HNw := veil (cell_one_new w3 (.slice a3 y.l.length d3) 31)
              obtain ⟨x2, xf⟩ := HQ8.out.sc
              refine hK.out _ _ ?_ (fun hHeld => ?_)
              · trivial
              clear hK K
              try simp only [Act.put, List.setIfInBounds_toArray, List.set_cons_zero, List.set_cons_succ, List.getElem_toArray, List.getElem_cons_succ, List.getElem_cons_zero]
              refine wpAnyH_ready (rs := [9]) (by kernel_rfl) (by simp) ?_
              refine AllReadyH.cons rfl (fun K hK => ?_) AllReadyH.nil
              refine step_append_any _ (by rfl) _ _ _ (by rfl) w.heap.size 31 k0 (.slice none 0 0) 1 24 Try.underlying77 hk0 hx0 hx1 hx2 rfl (by omega) _ j Vn (by rfl) HQ8.out.wo ⟨w3.heap.size, 0, none⟩ 1 1 [(.slice a3 y.l.length d3)] (by rfl) rfl HNw.out (by simp [Value.oneCell']) (by unfold maxLen; omega) (by omega) HQ8.out.be.size ?_
              intro v9 w9 ho9 hg9
              obtain ⟨a9, d9, rfl⟩ := ownsRow_succ ho9
              obtain ⟨q1, q2, q3⟩ := HQ3.out.next HY.out HO3.out HAP.out ho9 hg9
              have HN := veil q3
              clear ho9 hg9 q3
              refine hK.out _ _ ?_ (fun hHeld => ?_)
              · trivial
              clear hK K
              try simp only [Act.put, List.setIfInBounds_toArray, List.set_cons_zero, List.set_cons_succ, List.getElem_toArray, List.getElem_cons_succ, List.getElem_cons_zero]
              refine wpAnyH_take (i := 10) (v := ?_) rfl (by kernel_rfl) (by kernel_rfl) (by kernel_rfl) (fun _ _ _ h => h) (Or.inl ⟨by rfl, ?v10⟩) (by assumption) ?_
              case v10 => (intro w hSw; (try dsimp only at hSw); go_simp; try with_reducible rfl)
              try simp only [Act.put, List.setIfInBounds_toArray, List.set_cons_zero, List.set_cons_succ, List.getElem_toArray, List.getElem_cons_succ, List.getElem_cons_zero]
              refine wpAnyH_take (i := 11) (v := ?_) rfl (by kernel_rfl) (by kernel_rfl) (by kernel_rfl) (fun _ _ _ h => h) (Or.inl ⟨by rfl, ?v11⟩) (by assumption) ?_
              case v11 => (intro w hSw; (try dsimp only at hSw); go_simp; try with_reducible rfl)
              try simp only [Act.put, List.setIfInBounds_toArray, List.set_cons_zero, List.set_cons_succ, List.getElem_toArray, List.getElem_cons_succ, List.getElem_cons_zero]
              refine wpAnyH_ready (rs := [12]) (by kernel_rfl) (by simp) ?_
              refine AllReadyH.cons rfl (fun K hK => ?_) AllReadyH.nil
              go_simp
              refine hK.out _ _ ?_ (fun hHeld => ?_)
              · trivial
              clear hK K
              try simp only [Act.put, List.setIfInBounds_toArray, List.set_cons_zero, List.set_cons_succ, List.getElem_toArray, List.getElem_cons_succ, List.getElem_cons_zero]
              refine wpAnyH_done (by kernel_rfl) ?_ _
              go_wp2
              go_roundw
              case rel => exact ⟨j + 1, _, _, by omega, by go_num, HN.out⟩
              case measure => simp [intOf]; omega
            · skip
              go_simp
              have HQ8 := veil (HQ3.out.below ((Below.refl _ w3).alloc (Nat.le_refl _) (.cells #[(.slice a3 y.l.length d3)] 31)))
              have HNw := veil (cell_one_new w3 (.slice a3 y.l.length d3) 31)
              obtain ⟨x2, xf⟩ := HQ8.out.sc
              refine hK.out _ _ ?_ (fun hHeld => ?_)
              · trivial
              clear hK K
              try simp only [Act.put, List.setIfInBounds_toArray, List.set_cons_zero, List.set_cons_succ, List.getElem_toArray, List.getElem_cons_succ, List.getElem_cons_zero]
              refine wpAnyH_ready (rs := [4]) (by kernel_rfl) (by simp) ?_
              refine AllReadyH.cons rfl (fun K hK => ?_) AllReadyH.nil
              go_simp
              refine hK.out _ _ ?_ (fun hHeld => ?_)
              · trivial
              clear hK K
              try simp only [Act.put, List.setIfInBounds_toArray, List.set_cons_zero, List.set_cons_succ, List.getElem_toArray, List.getElem_cons_succ, List.getElem_cons_zero]
              refine wpAnyH_ready (rs := [9]) (by kernel_rfl) (by simp) ?_
              refine AllReadyH.cons rfl (fun K hK => ?_) AllReadyH.nil
              refine step_append_any _ (by rfl) _ _ _ (by rfl) w.heap.size 31 k0 (.slice none 0 0) 1 24 Try.underlying77 hk0 hx0 hx1 hx2 rfl (by omega) _ j Vn (by rfl) HQ8.out.wo ⟨w3.heap.size, 0, none⟩ 1 1 [(.slice a3 y.l.length d3)] (by rfl) rfl HNw.out (by simp [Value.oneCell']) (by unfold maxLen; omega) (by omega) HQ8.out.be.size ?_
              intro v9 w9 ho9 hg9
              obtain ⟨a9, d9, rfl⟩ := ownsRow_succ ho9
              obtain ⟨q1, q2, q3⟩ := HQ3.out.next HY.out HO3.out HAP.out ho9 hg9
              have HN := veil q3
              clear ho9 hg9 q3
              refine hK.out _ _ ?_ (fun hHeld => ?_)
              · trivial
              clear hK K
              try simp only [Act.put, List.setIfInBounds_toArray, List.set_cons_zero, List.set_cons_succ, List.getElem_toArray, List.getElem_cons_succ, List.getElem_cons_zero]
              refine wpAnyH_take (i := 10) (v := ?_) rfl (by kernel_rfl) (by kernel_rfl) (by kernel_rfl) (fun _ _ _ h => h) (Or.inl ⟨by rfl, ?v10⟩) (by assumption) ?_
              case v10 => (intro w hSw; (try dsimp only at hSw); go_simp; try with_reducible rfl)
              try simp only [Act.put, List.setIfInBounds_toArray, List.set_cons_zero, List.set_cons_succ, List.getElem_toArray, List.getElem_cons_succ, List.getElem_cons_zero]
              refine wpAnyH_take (i := 11) (v := ?_) rfl (by kernel_rfl) (by kernel_rfl) (by kernel_rfl) (fun _ _ _ h => h) (Or.inl ⟨by rfl, ?v11⟩) (by assumption) ?_
              case v11 => (intro w hSw; (try dsimp only at hSw); go_simp; try with_reducible rfl)
              try simp only [Act.put, List.setIfInBounds_toArray, List.set_cons_zero, List.set_cons_succ, List.getElem_toArray, List.getElem_cons_succ, List.getElem_cons_zero]
              refine wpAnyH_ready (rs := [12]) (by kernel_rfl) (by simp) ?_
              refine AllReadyH.cons rfl (fun K hK => ?_) AllReadyH.nil
              go_simp
              refine hK.out _ _ ?_ (fun hHeld => ?_)
              · trivial
              clear hK K
              try simp only [Act.put, List.setIfInBounds_toArray, List.set_cons_zero, List.set_cons_succ, List.getElem_toArray, List.getElem_cons_succ, List.getElem_cons_zero]
              refine wpAnyH_done (by kernel_rfl) ?_ _
              go_wp2
              go_roundw
              case rel => exact ⟨j + 1, _, _, by omega, by go_num, HN.out⟩
              case measure => simp [intOf]; omega
        · have hjl' : ¬ (j : Int) < (L.length : Int) := by omega
          obtain rfl : j = L.length := by omega
          have HD := veil (hq.done HFi.out)
          have HB := veil hq.be
          clear hq
          go_wp2
          go_ret
          exact ⟨_, rfl, ⟨_, _, _, _, HD.out⟩, HB.out⟩
  · skip
    go_simp
    have he := World.ownsRow_lit (base := w.heap.size) (e := 3) (size := 1) _ #[] 0 HBc.out.size (by simp [maxLen]) rfl
    have HE6 := veil he
    clear he
    replace HBc := veil (HBc.out.alloc HBc.out.size (.cells #[] 3))
    refine hK.out _ _ ?_ (fun hHeld => ?_)
    · exact HCC.out _ HBc.out
    clear hK K
    try simp only [Act.put, List.setIfInBounds_toArray, List.set_cons_zero, List.set_cons_succ, List.getElem_toArray, List.getElem_cons_succ, List.getElem_cons_zero]
    refine wpAnyH_ready (rs := [0]) (by kernel_rfl) (by simp) ?_
    refine AllReadyH.cons rfl (fun K hK => ?_) AllReadyH.nil
    go_simp
    have he := World.ownsRow_lit (base := w.heap.size) (e := 36) (size := 3) _ #[] 0 HBc.out.size (by simp [maxLen]) rfl
    rw [World.size_alloc] at he
    have HE0 := veil he
    clear he
    replace HE6 := veil (HE6.out.alloc (.cells #[] 36))
    replace HBc := veil (HBc.out.alloc HBc.out.size (.cells #[] 36))
    refine hK.out _ _ ?_ (fun hHeld => ?_)
    · exact HCC.out _ HBc.out
    clear hK K
    try simp only [Act.put, List.setIfInBounds_toArray, List.set_cons_zero, List.set_cons_succ, List.getElem_toArray, List.getElem_cons_succ, List.getElem_cons_zero]
    refine wpAnyH_ready (rs := [5]) (by kernel_rfl) (by simp) ?_
    refine AllReadyH.cons rfl (fun K hK => ?_) AllReadyH.nil
    refine step_append_any _ (by rfl) _ _ _ (by rfl) w.heap.size 36 i0 (.agg #[.bool false, .int .u64 0, .int .u8 0]) 3 24 Try.underlying45 hi0 hz0 hz1 hz2 rfl (by omega) _ 0 [] (by rfl) HE0.out ⟨gb, 0, none⟩ T.length cb (kcells T) (by rfl) (kcells_length T) (HNK.out _ HBc.out) H1K.out (by unfold maxLen; omega) (by omega) HBc.out.size ?_
    intro v5 W5 ho hg
    have hv5 : W5.ownsRow w.heap.size 36 3 v5 T.length (kcells T) := by simpa using ho
    have HV5 := veil hv5
    clear hv5
    obtain ⟨a5, d5, rfl, _, _⟩ := form_of HV5.out
    replace HE6 := veil (ownsRow_far HE6.out (fun k hk => hg.block k (ownsRow_blk HE6.out hk).2.1 (fun e => by obtain ⟨_, _, c1', q1⟩ := ownsRow_blk HE6.out hk; obtain ⟨_, _, c2', q2⟩ := ownsRow_blk HE0.out e.symm; rw [q1] at q2; simp at q2)))
    replace HBc := veil (HBc.out.grown hg HBc.out.size (fun k hk => (ownsRow_blk HE0.out hk).1))
    clear ho hg HE0
    refine hK.out _ _ ?_ (fun hHeld => ?_)
    · exact HCC.out _ HBc.out
    clear hK K
    try simp only [Act.put, List.setIfInBounds_toArray, List.set_cons_zero, List.set_cons_succ, List.getElem_toArray, List.getElem_cons_succ, List.getElem_cons_zero]
    refine wpAnyH_ready (rs := [11]) (by kernel_rfl) (by simp) ?_
    refine AllReadyH.cons rfl (fun K hK => ?_) AllReadyH.nil
    refine step_append_any _ (by rfl) _ _ _ (by rfl) w.heap.size 3 j0 (.int .i64 0) 1 8 Try.underlying31 hj0 hy0 hy1 hy2 rfl (by omega) _ 0 [] (by rfl) HE6.out ⟨go, 0, none⟩ L.length co (hcells L) (by rfl) (by simp [hcells]) (HNO.out _ HBc.out) H1O.out (by unfold maxLen; omega) (by omega) HBc.out.size ?_
    intro v11 W11 ho hg
    have hv11 : W11.ownsRow w.heap.size 3 1 v11 L.length (hcells L) := by simpa using ho
    have HV11 := veil hv11
    clear hv11
    obtain ⟨a11, d11, rfl, _, _⟩ := form_of HV11.out
    replace HV5 := veil (ownsRow_far HV5.out (fun k hk => hg.block k (ownsRow_blk HV5.out hk).2.1 (fun e => by obtain ⟨_, _, c1', q1⟩ := ownsRow_blk HV5.out hk; obtain ⟨_, _, c2', q2⟩ := ownsRow_blk HE6.out e.symm; rw [q1] at q2; simp at q2)))
    replace HBc := veil (HBc.out.grown hg HBc.out.size (fun k hk => (ownsRow_blk HE6.out hk).1))
    clear ho hg HE6
    refine hK.out _ _ ?_ (fun hHeld => ?_)
    · exact HCC.out _ HBc.out
    clear hK K
    try simp only [Act.put, List.setIfInBounds_toArray, List.set_cons_zero, List.set_cons_succ, List.getElem_toArray, List.getElem_cons_succ, List.getElem_cons_zero]
    refine wpAnyH_take (i := 12) (v := ?_) rfl (by kernel_rfl) (by kernel_rfl) (by kernel_rfl) (fun _ _ _ h => h) (Or.inl ⟨by rfl, ?v12⟩) (by assumption) ?_
    case v12 => (intro w hSw; (try dsimp only at hSw); go_simp; try with_reducible rfl)
    try simp only [Act.put, List.setIfInBounds_toArray, List.set_cons_zero, List.set_cons_succ, List.getElem_toArray, List.getElem_cons_succ, List.getElem_cons_zero]
    refine wpAnyH_ready (rs := [13]) (by kernel_rfl) (by simp) ?_
    refine AllReadyH.cons rfl (fun K hK => ?_) AllReadyH.nil
    go_simp
    have HQ0 : Hid (QF w (W11.alloc (.cells #[.slice a5 T.length d5, .slice a11 L.length d11, .slice none 0 0] 79)) W11.heap.size (.slice a5 T.length d5) (.slice a11 L.length d11) (.slice none 0 0) [] T L 0) := ⟨World.alloc_heap_new W11 _, HBc.out.size, HV5.out.alloc _, HV11.out.alloc _, World.ownsRow_nil _ _ _ _, by simp, by simp, HBc.out.alloc HBc.out.size _⟩
    replace HBc := veil (HBc.out.alloc HBc.out.size (.cells #[.slice a5 T.length d5, .slice a11 L.length d11, .slice none 0 0] 79))
    clear HV5 HV11
    refine hK.out _ _ ?_ (fun hHeld => ?_)
    · exact HCC.out _ HBc.out
    clear hK K
    try simp only [Act.put, List.setIfInBounds_toArray, List.set_cons_zero, List.set_cons_succ, List.getElem_toArray, List.getElem_cons_succ, List.getElem_cons_zero]
    refine wpAnyH_take (i := 14) (v := ?_) rfl (by kernel_rfl) (by kernel_rfl) (by kernel_rfl) (fun _ _ _ h => h) (Or.inl ⟨by rfl, ?v14⟩) (by assumption) ?_
    case v14 => (intro w hSw; (try dsimp only at hSw); go_simp; try with_reducible rfl)
    try simp only [Act.put, List.setIfInBounds_toArray, List.set_cons_zero, List.set_cons_succ, List.getElem_toArray, List.getElem_cons_succ, List.getElem_cons_zero]
    refine wpAnyH_done (by kernel_rfl) ?_ _
    clear HNK HNO H1K H1O HBc HCC c0 c1
    generalize W11.heap.size = f at *
    generalize W11.alloc (.cells #[.slice a5 T.length d5, .slice a11 L.length d11, .slice none 0 0] 79) = W0 at *
    go_wp2
    go_loopw [4] (fun p wr => ∃ (j : Nat) (vw' : Value) (Vn : List Value), j ≤ L.length ∧ p = .int .i64 j ∧ QF w wr f (.slice a5 T.length d5) (.slice a11 L.length d11) vw' Vn T L j) (fun p _ => L.length - (intOf p).toNat)
    case atStart => exact ⟨0, _, [], by omega, rfl, HQ0.out⟩
    case round =>
      obtain ⟨j, vw', Vn, hj, rfl, hq⟩ := hrel
      have c2' := HC2.out _ hq.be
      by_cases hjl : j < L.length
      · have hjl' : (j : Int) < (L.length : Int) := by omega
        obtain ⟨y, hy⟩ : ∃ y, L[j]? = some y := ⟨_, List.getElem?_eq_getElem hjl⟩
        obtain ⟨wa, wc, rfl, _, _⟩ := form_of hq.wo
        obtain ⟨s2, sf⟩ := hq.sc
        have HW := veil (HWt.out j y wr.drew hq.be.drew hy)
        have HQ := veil hq
        have HY := veil hy
        clear hq hy
        go_wp2
        refine wp_region_held_drew (S := (fun _ => True)) (by kernel_rfl) trivial (fun hHeld => ?_)
        refine wpAnyH_take (i := 0) (v := ?_) rfl (by kernel_rfl) (by kernel_rfl) (by kernel_rfl) (fun _ _ _ h => h) (Or.inl ⟨by rfl, ?v0⟩) (by assumption) ?_
        case v0 => (intro w hSw; (try dsimp only at hSw); go_simp; try with_reducible rfl)
        try simp only [Act.put, List.setIfInBounds_toArray, List.set_cons_zero, List.set_cons_succ, List.getElem_toArray, List.getElem_cons_zero]
        refine wpAnyH_take (i := 1) (v := ?_) rfl (by kernel_rfl) (by kernel_rfl) (by kernel_rfl) (fun _ _ _ h => h) (Or.inl ⟨by rfl, ?v1⟩) (by assumption) ?_
        case v1 => (intro w hSw; (try dsimp only at hSw); go_simp; try with_reducible rfl)
        try simp only [Act.put, List.setIfInBounds_toArray, List.set_cons_zero, List.set_cons_succ, List.getElem_toArray, List.getElem_cons_succ, List.getElem_cons_zero]
        refine wpAnyH_take (i := 2) (v := ?_) rfl (by kernel_rfl) (by kernel_rfl) (by kernel_rfl) (fun _ _ _ h => h) (Or.inl ⟨by rfl, ?v2⟩) (by assumption) ?_
        case v2 => (intro w hSw; (try dsimp only at hSw); go_simp; try with_reducible rfl)
        try simp only [Act.put, List.setIfInBounds_toArray, List.set_cons_zero, List.set_cons_succ, List.getElem_toArray, List.getElem_cons_succ, List.getElem_cons_zero]
        refine wpAnyH_take (i := 3) (v := ?_) rfl (by kernel_rfl) (by kernel_rfl) (by kernel_rfl) (fun _ _ _ h => h) (Or.inl ⟨by rfl, ?v3⟩) (by assumption) ?_
        case v3 => (intro w hSw; (try dsimp only at hSw); go_simp; try with_reducible rfl)
        try simp only [Act.put, List.setIfInBounds_toArray, List.set_cons_zero, List.set_cons_succ, List.getElem_toArray, List.getElem_cons_succ, List.getElem_cons_zero]
        refine wpAnyH_take (i := 5) (v := ?_) rfl (by kernel_rfl) (by kernel_rfl) (by kernel_rfl) (fun _ _ _ h => h) (Or.inl ⟨by rfl, ?v5⟩) (by assumption) ?_
        case v5 => (intro w hSw; (try dsimp only at hSw); go_simp; try with_reducible rfl)
        try simp only [Act.put, List.setIfInBounds_toArray, List.set_cons_zero, List.set_cons_succ, List.getElem_toArray, List.getElem_cons_succ, List.getElem_cons_zero]
        refine wpAnyH_take (i := 6) (v := ?_) rfl (by kernel_rfl) (by kernel_rfl) (by kernel_rfl) (fun _ _ _ h => h) (Or.inl ⟨by rfl, ?v6⟩) (by assumption) ?_
        case v6 => (intro w hSw; (try dsimp only at hSw); go_simp; try with_reducible rfl)
        try simp only [Act.put, List.setIfInBounds_toArray, List.set_cons_zero, List.set_cons_succ, List.getElem_toArray, List.getElem_cons_succ, List.getElem_cons_zero]
        refine wpAnyH_ready (rs := [4, 7]) (by kernel_rfl) (by simp) ?_
        refine AllReadyH.cons rfl (fun K hK => ?_) (AllReadyH.cons rfl (fun K hK => ?_) AllReadyH.nil)
        · skip
          go_simp
          refine hK.out _ _ ?_ (fun hHeld => ?_)
          · trivial
          clear hK K
          try simp only [Act.put, List.setIfInBounds_toArray, List.set_cons_zero, List.set_cons_succ, List.getElem_toArray, List.getElem_cons_succ, List.getElem_cons_zero]
          refine wpAnyH_ready (rs := [7]) (by kernel_rfl) (by simp) ?_
          refine AllReadyH.cons rfl (fun K hK => ?_) AllReadyH.nil
          go_simp
          go_at_call 40
          refine (HW.out).mono ?_
          rintro e w3 ⟨v3, rfl, ho, hb0⟩
          obtain ⟨a3, d3, rfl, _, _⟩ := form_of ho
          have hb3 : Below wr.heap.size wr w3 := ((Below.refl _ wr).drew).trans hb0
          have HQ3 := veil (HQ.out.below hb3)
          have HO3 := veil (row_low ho HQ.out.be.size)
          have HAP : Hid (∀ k, (Value.slice a3 y.l.length d3).ownBlock = some k → (Value.slice a11 L.length d11).ownBlock ≠ some k) := fun k h1 h2 => by
            have q1 : wr.heap.size ≤ k := (ownsRow_blk ho h1).1
            have q2 := (ownsRow_blk HQ.out.oo h2).2.1
            omega
          obtain ⟨t2, tf⟩ := HQ3.out.sc
          clear ho hb0 hb3
          refine hK.out _ _ ?_ (fun hHeld => ?_)
          · trivial
          clear hK K
          try simp only [Act.put, List.setIfInBounds_toArray, List.set_cons_zero, List.set_cons_succ, List.getElem_toArray, List.getElem_cons_succ, List.getElem_cons_zero]
          refine wpAnyH_ready (rs := [8]) (by kernel_rfl) (by simp) ?_
          refine AllReadyH.cons rfl (fun K hK => ?_) AllReadyH.nil
          go_simp
          have HQ8 := veil (HQ3.out.below ((Below.refl _ w3).alloc (Nat.le_refl _) (.cells #[(.slice a3 y.l.length d3)] 31)))
          have HNw := veil (cell_one_new w3 (.slice a3 y.l.length d3) 31)
          obtain ⟨x2, xf⟩ := HQ8.out.sc
          refine hK.out _ _ ?_ (fun hHeld => ?_)
          · trivial
          clear hK K
          try simp only [Act.put, List.setIfInBounds_toArray, List.set_cons_zero, List.set_cons_succ, List.getElem_toArray, List.getElem_cons_succ, List.getElem_cons_zero]
          refine wpAnyH_ready (rs := [9]) (by kernel_rfl) (by simp) ?_
          refine AllReadyH.cons rfl (fun K hK => ?_) AllReadyH.nil
          refine step_append_any _ (by rfl) _ _ _ (by rfl) w.heap.size 31 k0 (.slice none 0 0) 1 24 Try.underlying77 hk0 hx0 hx1 hx2 rfl (by omega) _ j Vn (by rfl) HQ8.out.wo ⟨w3.heap.size, 0, none⟩ 1 1 [(.slice a3 y.l.length d3)] (by rfl) rfl HNw.out (by simp [Value.oneCell']) (by unfold maxLen; omega) (by omega) HQ8.out.be.size ?_
          intro v9 w9 ho9 hg9
          obtain ⟨a9, d9, rfl⟩ := ownsRow_succ ho9
          obtain ⟨q1, q2, q3⟩ := HQ3.out.next HY.out HO3.out HAP.out ho9 hg9
          have HN := veil q3
          clear ho9 hg9 q3
          refine hK.out _ _ ?_ (fun hHeld => ?_)
          · trivial
          clear hK K
          try simp only [Act.put, List.setIfInBounds_toArray, List.set_cons_zero, List.set_cons_succ, List.getElem_toArray, List.getElem_cons_succ, List.getElem_cons_zero]
          refine wpAnyH_take (i := 10) (v := ?_) rfl (by kernel_rfl) (by kernel_rfl) (by kernel_rfl) (fun _ _ _ h => h) (Or.inl ⟨by rfl, ?v10⟩) (by assumption) ?_
          case v10 => (intro w hSw; (try dsimp only at hSw); go_simp; try with_reducible rfl)
          try simp only [Act.put, List.setIfInBounds_toArray, List.set_cons_zero, List.set_cons_succ, List.getElem_toArray, List.getElem_cons_succ, List.getElem_cons_zero]
          refine wpAnyH_take (i := 11) (v := ?_) rfl (by kernel_rfl) (by kernel_rfl) (by kernel_rfl) (fun _ _ _ h => h) (Or.inl ⟨by rfl, ?v11⟩) (by assumption) ?_
          case v11 => (intro w hSw; (try dsimp only at hSw); go_simp; try with_reducible rfl)
          try simp only [Act.put, List.setIfInBounds_toArray, List.set_cons_zero, List.set_cons_succ, List.getElem_toArray, List.getElem_cons_succ, List.getElem_cons_zero]
          refine wpAnyH_ready (rs := [12]) (by kernel_rfl) (by simp) ?_
          refine AllReadyH.cons rfl (fun K hK => ?_) AllReadyH.nil
          go_simp
          refine hK.out _ _ ?_ (fun hHeld => ?_)
          · trivial
          clear hK K
          try simp only [Act.put, List.setIfInBounds_toArray, List.set_cons_zero, List.set_cons_succ, List.getElem_toArray, List.getElem_cons_succ, List.getElem_cons_zero]
          refine wpAnyH_done (by kernel_rfl) ?_ _
          go_wp2
          go_roundw
          case rel => exact ⟨j + 1, _, _, by omega, by go_num, HN.out⟩
          case measure => simp [intOf]; omega
        · skip
          go_simp
          go_at_call 40
          refine (HW.out).mono ?_
          rintro e w3 ⟨v3, rfl, ho, hb0⟩
          obtain ⟨a3, d3, rfl, _, _⟩ := form_of ho
          have hb3 : Below wr.heap.size wr w3 := ((Below.refl _ wr).drew).trans hb0
          have HQ3 := veil (HQ.out.below hb3)
          have HO3 := veil (row_low ho HQ.out.be.size)
          have HAP : Hid (∀ k, (Value.slice a3 y.l.length d3).ownBlock = some k → (Value.slice a11 L.length d11).ownBlock ≠ some k) := fun k h1 h2 => by
            have q1 : wr.heap.size ≤ k := (ownsRow_blk ho h1).1
            have q2 := (ownsRow_blk HQ.out.oo h2).2.1
            omega
          obtain ⟨t2, tf⟩ := HQ3.out.sc
          clear ho hb0 hb3
          refine hK.out _ _ ?_ (fun hHeld => ?_)
          · trivial
          clear hK K
          try simp only [Act.put, List.setIfInBounds_toArray, List.set_cons_zero, List.set_cons_succ, List.getElem_toArray, List.getElem_cons_succ, List.getElem_cons_zero]
          refine wpAnyH_ready (rs := [4, 8]) (by kernel_rfl) (by simp) ?_
          refine AllReadyH.cons rfl (fun K hK => ?_) (AllReadyH.cons rfl (fun K hK => ?_) AllReadyH.nil)
          · skip
            go_simp
            refine hK.out _ _ ?_ (fun hHeld => ?_)
            · trivial
            clear hK K
            try simp only [Act.put, List.setIfInBounds_toArray, List.set_cons_zero, List.set_cons_succ, List.getElem_toArray, List.getElem_cons_succ, List.getElem_cons_zero]
            refine wpAnyH_ready (rs := [8]) (by kernel_rfl) (by simp) ?_
            refine AllReadyH.cons rfl (fun K hK => ?_) AllReadyH.nil
            go_simp
            have HQ8 := veil (HQ3.out.below ((Below.refl _ w3).alloc (Nat.le_refl _) (.cells #[(.slice a3 y.l.length d3)] 31)))
            have HNw := veil (cell_one_new w3 (.slice a3 y.l.length d3) 31)
            obtain ⟨x2, xf⟩ := HQ8.out.sc
            refine hK.out _ _ ?_ (fun hHeld => ?_)
            · trivial
            clear hK K
            try simp only [Act.put, List.setIfInBounds_toArray, List.set_cons_zero, List.set_cons_succ, List.getElem_toArray, List.getElem_cons_succ, List.getElem_cons_zero]
            refine wpAnyH_ready (rs := [9]) (by kernel_rfl) (by simp) ?_
            refine AllReadyH.cons rfl (fun K hK => ?_) AllReadyH.nil
            refine step_append_any _ (by rfl) _ _ _ (by rfl) w.heap.size 31 k0 (.slice none 0 0) 1 24 Try.underlying77 hk0 hx0 hx1 hx2 rfl (by omega) _ j Vn (by rfl) HQ8.out.wo ⟨w3.heap.size, 0, none⟩ 1 1 [(.slice a3 y.l.length d3)] (by rfl) rfl HNw.out (by simp [Value.oneCell']) (by unfold maxLen; omega) (by omega) HQ8.out.be.size ?_
            intro v9 w9 ho9 hg9
            obtain ⟨a9, d9, rfl⟩ := ownsRow_succ ho9
            obtain ⟨q1, q2, q3⟩ := HQ3.out.next HY.out HO3.out HAP.out ho9 hg9
            have HN := veil q3
            clear ho9 hg9 q3
            refine hK.out _ _ ?_ (fun hHeld => ?_)
            · trivial
            clear hK K
            try simp only [Act.put, List.setIfInBounds_toArray, List.set_cons_zero, List.set_cons_succ, List.getElem_toArray, List.getElem_cons_succ, List.getElem_cons_zero]
            refine wpAnyH_take (i := 10) (v := ?_) rfl (by kernel_rfl) (by kernel_rfl) (by kernel_rfl) (fun _ _ _ h => h) (Or.inl ⟨by rfl, ?v10⟩) (by assumption) ?_
            case v10 => (intro w hSw; (try dsimp only at hSw); go_simp; try with_reducible rfl)
            try simp only [Act.put, List.setIfInBounds_toArray, List.set_cons_zero, List.set_cons_succ, List.getElem_toArray, List.getElem_cons_succ, List.getElem_cons_zero]
            refine wpAnyH_take (i := 11) (v := ?_) rfl (by kernel_rfl) (by kernel_rfl) (by kernel_rfl) (fun _ _ _ h => h) (Or.inl ⟨by rfl, ?v11⟩) (by assumption) ?_
            case v11 => (intro w hSw; (try dsimp only at hSw); go_simp; try with_reducible rfl)
            try simp only [Act.put, List.setIfInBounds_toArray, List.set_cons_zero, List.set_cons_succ, List.getElem_toArray, List.getElem_cons_succ, List.getElem_cons_zero]
            refine wpAnyH_ready (rs := [12]) (by kernel_rfl) (by simp) ?_
            refine AllReadyH.cons rfl (fun K hK => ?_) AllReadyH.nil
            go_simp
            refine hK.out _ _ ?_ (fun hHeld => ?_)
            · trivial
            clear hK K
            try simp only [Act.put, List.setIfInBounds_toArray, List.set_cons_zero, List.set_cons_succ, List.getElem_toArray, List.getElem_cons_succ, List.getElem_cons_zero]
            refine wpAnyH_done (by kernel_rfl) ?_ _
            go_wp2
            go_roundw
            case rel => exact ⟨j + 1, _, _, by omega, by go_num, HN.out⟩
            case measure => simp [intOf]; omega
          · skip
            go_simp
            have HQ8 := veil (HQ3.out.below ((Below.refl _ w3).alloc (Nat.le_refl _) (.cells #[(.slice a3 y.l.length d3)] 31)))
            have HNw := veil (cell_one_new w3 (.slice a3 y.l.length d3) 31)
            obtain ⟨x2, xf⟩ := HQ8.out.sc
            refine hK.out _ _ ?_ (fun hHeld => ?_)
            · trivial
            clear hK K
            try simp only [Act.put, List.setIfInBounds_toArray, List.set_cons_zero, List.set_cons_succ, List.getElem_toArray, List.getElem_cons_succ, List.getElem_cons_zero]
            refine wpAnyH_ready (rs := [4]) (by kernel_rfl) (by simp) ?_
            refine AllReadyH.cons rfl (fun K hK => ?_) AllReadyH.nil
            go_simp
            refine hK.out _ _ ?_ (fun hHeld => ?_)
            · trivial
            clear hK K
            try simp only [Act.put, List.setIfInBounds_toArray, List.set_cons_zero, List.set_cons_succ, List.getElem_toArray, List.getElem_cons_succ, List.getElem_cons_zero]
            refine wpAnyH_ready (rs := [9]) (by kernel_rfl) (by simp) ?_
            refine AllReadyH.cons rfl (fun K hK => ?_) AllReadyH.nil
            refine step_append_any _ (by rfl) _ _ _ (by rfl) w.heap.size 31 k0 (.slice none 0 0) 1 24 Try.underlying77 hk0 hx0 hx1 hx2 rfl (by omega) _ j Vn (by rfl) HQ8.out.wo ⟨w3.heap.size, 0, none⟩ 1 1 [(.slice a3 y.l.length d3)] (by rfl) rfl HNw.out (by simp [Value.oneCell']) (by unfold maxLen; omega) (by omega) HQ8.out.be.size ?_
            intro v9 w9 ho9 hg9
            obtain ⟨a9, d9, rfl⟩ := ownsRow_succ ho9
            obtain ⟨q1, q2, q3⟩ := HQ3.out.next HY.out HO3.out HAP.out ho9 hg9
            have HN := veil q3
            clear ho9 hg9 q3
            refine hK.out _ _ ?_ (fun hHeld => ?_)
            · trivial
            clear hK K
            try simp only [Act.put, List.setIfInBounds_toArray, List.set_cons_zero, List.set_cons_succ, List.getElem_toArray, List.getElem_cons_succ, List.getElem_cons_zero]
            refine wpAnyH_take (i := 10) (v := ?_) rfl (by kernel_rfl) (by kernel_rfl) (by kernel_rfl) (fun _ _ _ h => h) (Or.inl ⟨by rfl, ?v10⟩) (by assumption) ?_
            case v10 => (intro w hSw; (try dsimp only at hSw); go_simp; try with_reducible rfl)
            try simp only [Act.put, List.setIfInBounds_toArray, List.set_cons_zero, List.set_cons_succ, List.getElem_toArray, List.getElem_cons_succ, List.getElem_cons_zero]
            refine wpAnyH_take (i := 11) (v := ?_) rfl (by kernel_rfl) (by kernel_rfl) (by kernel_rfl) (fun _ _ _ h => h) (Or.inl ⟨by rfl, ?v11⟩) (by assumption) ?_
            case v11 => (intro w hSw; (try dsimp only at hSw); go_simp; try with_reducible rfl)
            try simp only [Act.put, List.setIfInBounds_toArray, List.set_cons_zero, List.set_cons_succ, List.getElem_toArray, List.getElem_cons_succ, List.getElem_cons_zero]
            refine wpAnyH_ready (rs := [12]) (by kernel_rfl) (by simp) ?_
            refine AllReadyH.cons rfl (fun K hK => ?_) AllReadyH.nil
            go_simp
            refine hK.out _ _ ?_ (fun hHeld => ?_)
            · trivial
            clear hK K
            try simp only [Act.put, List.setIfInBounds_toArray, List.set_cons_zero, List.set_cons_succ, List.getElem_toArray, List.getElem_cons_succ, List.getElem_cons_zero]
            refine wpAnyH_done (by kernel_rfl) ?_ _
            go_wp2
            go_roundw
            case rel => exact ⟨j + 1, _, _, by omega, by go_num, HN.out⟩
            case measure => simp [intOf]; omega
      · have hjl' : ¬ (j : Int) < (L.length : Int) := by omega
        obtain rfl : j = L.length := by omega
        have HD := veil (hq.done HFi.out)
        have HB := veil hq.be
        clear hq
        go_wp2
        go_ret
        exact ⟨_, rfl, ⟨_, _, _, _, HD.out⟩, HB.out⟩
end
/-- Fork of the document's: a graph of its own. -/
theorem RG.fork {w : World} {b s : Nat} {D : Nat → Prop} {M : Md} (h : RG w b D s M) (hL : 0 < M.L.length) : Calls Try.prog 29 #[.pointer (some ⟨s, 0, none⟩)] w fun e w' => ∃ f D', e = .returned (.pointer (some ⟨f, 0, none⟩)) ∧ RG w' w.heap.size D' f M ∧ Below w.heap.size w w' := by
  obtain ⟨vb, vo, vw, V, hg, ho⟩ := h
  refine (rfork_ok hg hL).mono ?_
  rintro e w' ⟨f, vb', vo', vw', V', rfl, hn, hb⟩
  exact ⟨f, _, rfl, ⟨_, _, _, _, hn, fun k => Iff.rfl⟩, hb⟩
end Go.Proofs.Ytbhkgbhgofefjaa
