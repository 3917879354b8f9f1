/-
  maps.Clone of the map of places; the sets while they are copied; Fork.
-/
import Derived.Test.YtlfejgjhamcahaaNc
import Derived.Test.YtlfejgjhamcahaaY19
import Derived.Shelf.SlMaps.Clone
namespace Go.Proofs.Ytlfejgjhamcahaa
open Go.RowKit Go.Lib
set_option linter.unusedVariables false
attribute [local go_sem ↓] Go.wp_at_zero Go.wp_at_succ

set_option maxRecDepth 20000 in
theorem clone_ok (w : World) (b : Nat) (es : Array MapEntry) (clock : Nat) (hb : w.heap[b]? = some (.map es clock)) :
    Calls Try.prog 52 #[.map (some b)] w fun e w' => e = .returned (.map (some w.heap.size)) ∧ w' = w.alloc (.map es clock) := by
  have hq := fun w => run_eql_map_nil_sl (P := Try.prog) w 75 _ _ (some b) Try.underlying75
  go_enter Try.func52, Try.ntmps52
  go_wp2
  rw [run_callFunc_extern Try.func76 (by kernel_rfl) (by kernel_rfl) (by kernel_rfl) (e := Extern.MapsClone.clone) (by kernel_rfl), run_maps_clone_sl w 75 hb]
  simp only [Result.andThen]
  rw [Oper.upon_value]
  go_wp2
  rw [run_typeAssert_map_sl _ 75 _ _ _ _ Try.underlying75]
  simp only [Result.andThen]
  rw [Oper.upon_value]
  go_wp2
  go_ret
  exact ⟨rfl, rfl⟩
theorem cloneM {w : World} {mb s : Nat} {f : Int → Option Int} (h : IsM w mb f s) :
    Calls Try.prog 52 #[.map (some mb)] w fun e w' => e = .returned (.map (some w.heap.size)) ∧ IsM w' w.heap.size f s ∧ (∃ o : Obj, w' = w.alloc o) := by
  obtain ⟨D, ⟨es, clock, h0, h1⟩, h2⟩ := h
  refine (clone_ok w mb es clock h0).mono ?_
  rintro e w' ⟨rfl, rfl⟩
  exact ⟨rfl, ⟨D, ⟨es, clock, World.alloc_heap_new w _, h1⟩, h2⟩, _, rfl⟩
/-- The places' sets while they are copied. -/
structure BldF (w0 wr : World) (n : Nat) (mo : Nat → Nat) (fm : Int → Option Int) (s : Nat) (v : Value) (H : List Hd) : Prop where
  blk : wr.heap[w0.heap.size + 1]? = some (.cells #[v, .map (some w0.heap.size), .int .i64 (n : Int)] 77 (0, 0))
  row : wr.ownsRow (w0.heap.size + 2) 73 1 v H.length (ptrs H)
  sets : Sets wr (w0.heap.size + 2) n mo H
  map : IsM wr w0.heap.size fm s
  sep : ∀ (i : Nat) (h : Hd), H[i]? = some h → ∀ k, h.own k → v.ownBlock ≠ some k
  bel : Below w0.heap.size w0 wr
  big : w0.heap.size + 2 ≤ wr.heap.size
section
variable {w0 wr w1 w3 : World} {n s : Nat} {mo : Nat → Nat} {fm : Int → Option Int} {v v' : Value} {H : List Hd} {x : Hd}
theorem BldF.cell (h : BldF w0 wr n mo fm s v H) {W : World} (hW : Below wr.heap.size wr W) : W.cell? ⟨w0.heap.size + 1, 0, none⟩ = some v := by
  rw [hW.cell (p := ⟨w0.heap.size + 1, 0, none⟩) (by have := h.big; show w0.heap.size + 1 < _; omega)]
  unfold World.cell?
  simp only [h.blk]
  rfl
theorem BldF.rowB (h : BldF w0 wr n mo fm s v H) {W : World} (hW : Below wr.heap.size wr W) : W.ownsRow (w0.heap.size + 2) 73 1 v H.length (ptrs H) :=
  Dc.owns_fr h.row (Dc.Fr.of_below' (S := fun _ => False) hW) (fun _ _ _ q => q)
/-- One more. -/
theorem BldF.step (h : BldF w0 wr n mo fm s v H) (hx : x.is w1 n (mo H.length)) (ho : ∀ k, x.own k → wr.heap.size ≤ k) (hb : Below wr.heap.size wr w1)
    (o : Obj) (hr : w3.ownsRow (w0.heap.size + 2) 73 1 v' (H.length + 1) (ptrs H ++ [.pointer (some ⟨x.sb, 0, none⟩)])) (hg : (w1.alloc o).grownBy w3 v.ownBlock) (hat : v'.ownBlock = v.ownBlock ∨ v'.ownBlock = some (w1.alloc o).heap.size) :
    w3.cell? ⟨w0.heap.size + 1, 0, none⟩ = some v ∧ w3.frozen? ⟨w0.heap.size + 1, 0, none⟩ = false ∧ BldF w0 (w3.setCell ⟨w0.heap.size + 1, 0, none⟩ v') n mo fm s v' (H ++ [x]) := by
  have hbig := h.big
  have hbs := hb.size
  have hz : (w1.alloc o).heap.size = w1.heap.size + 1 := by simp
  have hvb := Dc.own_ge h.row
  have hxs := hx.blocks
  -- from wr to w3: only the row's block may have turned
  have hf1 : Fr (fun k => some k = v.ownBlock) wr (w1.alloc o) := Fr.of_below' (hb.alloc hbs o)
  have hf2 : Fr (fun k => some k = v.ownBlock) (w1.alloc o) w3 := ⟨hg.os, hg.tape, hg.output, hg.size, hg.block⟩
  have hf3 := hf1.trans hf2
  have hpn : ¬ (some (w0.heap.size + 1) = v.ownBlock) := fun e => by have := (hvb _ e.symm).1; omega
  have hmn : ¬ (some w0.heap.size = v.ownBlock) := fun e => by have := (hvb _ e.symm).1; omega
  have hblk : w3.heap[w0.heap.size + 1]? = some (.cells #[v, .map (some w0.heap.size), .int .i64 (n : Int)] 77 (0, 0)) := by
    rw [hf3.block _ (by omega) hpn]; exact h.blk
  have hv'ge := Dc.own_ge hr
  have hv'pb : v'.ownBlock ≠ some (w0.heap.size + 1) := fun e => by have := (hv'ge _ e).1; omega
  -- and to the end: the block of Procs too
  have hf4 : Fr (fun k => some k = v.ownBlock ∨ k = w0.heap.size + 1) wr (w3.setCell ⟨w0.heap.size + 1, 0, none⟩ v') := (hf3.wide (fun k _ q => .inl q)).setCell (a := ⟨w0.heap.size + 1, 0, none⟩) (.inr rfl) _
  have hx3 : Fr (fun k => some k = v.ownBlock ∨ k = w0.heap.size + 1) w1 (w3.setCell ⟨w0.heap.size + 1, 0, none⟩ v') := ((((Fr.refl _ _).alloc o).trans hf2).wide (fun k _ q => .inl q)).setCell (a := ⟨w0.heap.size + 1, 0, none⟩) (.inr rfl) _
  refine ⟨by unfold World.cell?; simp only [hblk]; rfl, by unfold World.frozen?; simp only [hblk]; rfl, ?_⟩
  refine ⟨Go.Joins.block_setCell hblk v', ?_, ?_, ?_, ?_, ?_, ?_⟩
  · rw [List.length_append]
    have e : ptrs (H ++ [x]) = ptrs H ++ [.pointer (some ⟨x.sb, 0, none⟩)] := by unfold ptrs; rw [List.map_append]; rfl
    rw [e]
    exact ownsRow_setCell_other hr hv'pb v'
  · refine Sets.snoc (h.sets.frame hf4 ?_) (IsS.frame hx hx3 ?_) (fun k hk => by have := ho k hk; omega) ?_
    · rintro i y hy k hk (q | q)
      · exact h.sep i y hy k hk q.symm
      · have := h.sets.low i y hy k hk; omega
    · rintro k hk (q | q)
      · have := (hvb k q.symm).2; have := ho k hk; omega
      · have := ho k hk; omega
    · intro i y hy k hk hk'
      have := (h.sets.it i y hy).blocks k hk
      have := ho k hk'
      omega
  · exact h.map.block (hf4.block _ (by omega) (by rintro (q | q); exact hmn q; omega))
  · intro i y hy k hk e
    have hkl : k < w1.heap.size := by
      rcases Nat.lt_or_ge i H.length with q | q
      · rw [List.getElem?_append_left q] at hy
        have := (h.sets.it i y hy).blocks k hk
        omega
      · rw [List.getElem?_append_right q] at hy
        rcases Nat.eq_zero_or_pos (i - H.length) with e' | e'
        · rw [e'] at hy
          simp at hy
          rw [← hy] at hk
          exact hxs k hk
        · rw [List.getElem?_eq_none (by simp; omega)] at hy
          cases hy
    rcases hat with q | q
    · rw [q] at e
      rcases Nat.lt_or_ge i H.length with r | r
      · rw [List.getElem?_append_left r] at hy
        exact h.sep i y hy k hk e
      · rw [List.getElem?_append_right r] at hy
        rcases Nat.eq_zero_or_pos (i - H.length) with e' | e'
        · rw [e'] at hy
          simp at hy
          rw [← hy] at hk
          have := ho k hk
          have := (hvb k e).2
          omega
        · rw [List.getElem?_eq_none (by simp; omega)] at hy
          cases hy
    · rw [q] at e
      injection e with e
      omega
  · exact h.bel.trans (hf4.below (by omega) (by
      rintro k (q | q)
      · have := (hvb k q.symm).1; omega
      · omega))
  · have := hf4.size
    omega
end
/-- All that is wanted of the way behind a Fork. -/
def AfterF (w0 wr : World) (n : Nat) (mo : Nat → Nat) (fm : Int → Option Int) (s : Nat) (a : Option Addr) (c : Nat) (H : List Hd) (most : Nat) : Prop :=
  ∀ (w1 : World) (x : Hd), x.is w1 n most → (∀ k, x.own k → wr.heap.size ≤ k) → Below wr.heap.size wr w1 →
    w1.cell? ⟨w0.heap.size + 1, 0, none⟩ = some (.slice a H.length c) ∧ (∀ o, (w1.alloc o).cell? ⟨w0.heap.size + 1, 0, none⟩ = some (.slice a H.length c)) ∧
    Hid (∀ W : World, W.heap = (w1.alloc (.cells #[.pointer (some ⟨x.sb, 0, none⟩)] 73)).heap → W.ownsRow (w0.heap.size + 2) 73 1 (.slice a H.length c) H.length (ptrs H)) ∧
    Hid (∀ W : World, W.heap = (w1.alloc (.cells #[.pointer (some ⟨x.sb, 0, none⟩)] 73)).heap → w0.heap.size + 2 ≤ W.heap.size) ∧
    Hid (∀ (W w3 : World) (v' : Value), W = w1.alloc (.cells #[.pointer (some ⟨x.sb, 0, none⟩)] 73) → w3.ownsRow (w0.heap.size + 2) 73 1 v' (H.length + 1) (ptrs H ++ [.pointer (some ⟨x.sb, 0, none⟩)]) → W.grownBy w3 (Value.ownBlock (.slice a H.length c)) → (v'.ownBlock = Value.ownBlock (.slice a H.length c) ∨ v'.ownBlock = some W.heap.size) →
      w3.cell? ⟨w0.heap.size + 1, 0, none⟩ = some (.slice a H.length c) ∧ w3.frozen? ⟨w0.heap.size + 1, 0, none⟩ = false ∧ BldF w0 (w3.setCell ⟨w0.heap.size + 1, 0, none⟩ v') n mo fm s v' (H ++ [x]))
theorem BldF.after {w0 wr : World} {n s : Nat} {mo : Nat → Nat} {fm : Int → Option Int} {a : Option Addr} {c : Nat} {H : List Hd} (h : BldF w0 wr n mo fm s (.slice a H.length c) H) (most : Nat) (hm : mo H.length = most) : AfterF w0 wr n mo fm s a c H most := by
  intro w1 x hx ho hb
  have hba := fun o => hb.alloc hb.size o
  refine ⟨h.cell hb, fun o => h.cell (hba o), fun W hW => ?_, fun W hW => ?_, fun W w3 v' hW hr hg hat => ?_⟩
  · have := h.rowB (hba (.cells #[.pointer (some ⟨x.sb, 0, none⟩)] 73))
    refine ⟨this.1, ?_⟩
    rcases this.2 with q | ⟨g, cap, cur, e, e1, e2, e3⟩
    · exact .inl q
    · exact .inr ⟨g, cap, cur, e, e1, by rw [hW]; exact e2, e3⟩
  · rw [hW]
    have := h.big
    have := (hba (.cells #[.pointer (some ⟨x.sb, 0, none⟩)] 73)).size
    omega
  · subst hW
    exact h.step (by rw [hm]; exact hx) ho hb _ hr hg hat
section
variable {w : World} {base lo pb mb n np q T : Nat} {v : Value} {H : List Hd}
/-- What Fork leaves: others with the same, in blocks of their own. -/
def Forked (w : World) (n np q T : Nat) (H : List Hd) (e : Ending) (w' : World) : Prop :=
  ∃ (v' : Value) (H' : List Hd), e = .returned (.pointer (some ⟨w.heap.size + 1, 0, none⟩)) ∧ IsQ w' (w.heap.size + 2) (w.heap.size + 2) (w.heap.size + 1) w.heap.size n np q v' T H' ∧ Ms H' = Ms H ∧ Below w.heap.size w w' ∧ ∀ k, OwnP (w.heap.size + 1) w.heap.size v' H' k → w.heap.size ≤ k
set_option maxHeartbeats 4000000 in
set_option maxRecDepth 20000 in
theorem pfork_ok (h : IsQ w base lo pb mb n np q v T H) : Calls Try.prog 27 #[.pointer (some ⟨pb, 0, none⟩)] w (Forked w n np q T H) := by
  obtain ⟨i0, hi0, hz0, hz1, hz2⟩ := info_partsP infoSetP
  obtain ⟨g, cap, rfl, hbg, hgl, hr⟩ := h.p.rows
  have hnp := h.p.np1
  have c0 := h.p.c0
  have c1 := h.p.c1
  have c2 := h.p.c2
  have HCL : Hid (∀ W, Below w.heap.size w W → W.heap.size = w.heap.size → Calls Try.prog 52 #[.map (some mb)] W fun e w' => e = .returned (.map (some w.heap.size)) ∧ IsM w' w.heap.size (whereF n H 0) (sumH H) ∧ Below w.heap.size w w' ∧ w'.heap.size = w.heap.size + 1) := fun W hW hz => by
    refine (cloneM (h.p.map.block (hW.block _ h.p.map.lt))).mono ?_
    rintro e w' ⟨rfl, hm, o, rfl⟩
    rw [hz] at hm
    exact ⟨by rw [hz], hm, hW.alloc (by omega) _, by simp; exact hz⟩
  have HH := veil h
  have HR := veil hr
  have hpl := h.p.pbl
  clear h hr
  go_enter Try.func27, Try.ntmps27
  go_wp2
  go_region_held3 (fun w' => w'.cell? ⟨pb, 1, none⟩ = some (.map (some mb)) ∧ w'.cell? ⟨pb, 2, none⟩ = some (.int .i64 (n : Int)))
    (first
      | exact HE1.out
      | exact HE2.out _
      | exact ⟨c1, c2⟩
      | go_keep)
    (first
      | (go_at_call 52; refine (HCL.out _ (by first | exact Below.refl _ _ | exact (Below.refl _ _).drew) (by exact rfl)).mono ?_; rintro e w1 ⟨rfl, hm1, hb1, hs1⟩; have HM1 := veil hm1; have HB1 := veil hb1; have d1 := (HH.out.below hb1).p.c1; have d2 := (HH.out.below hb1).p.c2; have HE1 := veil (show w1.cell? ⟨pb, 1, none⟩ = some (.map (some mb)) ∧ w1.cell? ⟨pb, 2, none⟩ = some (.int .i64 (n : Int)) from ⟨d1, d2⟩); have HE2 : Hid (∀ o, (w1.alloc o).cell? ⟨pb, 1, none⟩ = some (.map (some mb)) ∧ (w1.alloc o).cell? ⟨pb, 2, none⟩ = some (.int .i64 (n : Int))) := (fun o => ⟨(HH.out.below (hb1.alloc hb1.size o)).p.c1, (HH.out.below (hb1.alloc hb1.size o)).p.c2⟩); clear hm1 hb1))
  have HB2 := veil (HB1.out.alloc HB1.out.size (.cells #[.slice none 0 0, .map (some w.heap.size), .int .i64 (n : Int)] 77))
  have hd0 := (HH.out.below HB2.out).p.c0
  have HF0 : Hid (BldF w (w1.alloc (.cells #[.slice none 0 0, .map (some w.heap.size), .int .i64 (n : Int)] 77)) n (moP np n q) (whereF n H 0) (sumH H) (.slice none 0 0) []) := by
    refine ⟨?_, World.ownsRow_nil _ _ _ _, Sets.nil _ _ _ _, ?_, by simp, HB2.out, by simp; omega⟩
    · rw [← hs1]; exact World.alloc_heap_new _ _
    · exact HM1.out.block (Below.heap_alloc _ _ _ (by omega))
  clear HE1 HE2 HM1 HB1 d1 d2 HCL
  generalize w1.alloc (.cells #[.slice none 0 0, .map (some w.heap.size), .int .i64 (n : Int)] 77) = W1 at *
  go_wp2
  go_loopw [24] (fun iv wr => ∃ (j : Nat) (v' : Value) (H' : List Hd), j ≤ np + 1 ∧ H'.length = j ∧ iv = .int .i64 j ∧ (∀ (i : Nat) (x' : Hd), H'[i]? = some x' → ∃ x, H[i]? = some x ∧ x'.M = x.M ∧ x'.turn = x.turn) ∧ BldF w wr n (moP np n q) (whereF n H 0) (sumH H) v' H') (fun iv _ => np + 1 - (intOf iv).toNat)
  case atStart => exact ⟨0, _, _, by omega, rfl, rfl, by simp, HF0.out⟩
  case round =>
    obtain ⟨j, v', H', hj, hH, rfl, hM, hB⟩ := hrel
    obtain ⟨a, c, rfl⟩ := Dc.owns_slice hB.row
    by_cases hjl : j < np + 1
    · have hjl' : (j : Int) < (np : Int) + 1 := by omega
      obtain ⟨x, hx⟩ := HH.out.p.at (i := j) (by omega)
      have g1 := (hB.bel.cell (p := ⟨g, j, none⟩) hgl).trans (HR.out j x hx)
      have e0 := hB.cell (Below.refl _ _)
      have HFK : Hid (∀ W, Below wr.heap.size wr W → Calls Try.prog 53 #[.pointer (some ⟨x.sb, 0, none⟩)] W fun e w' => ∃ sb qb gq hb gh, e = .returned (.pointer (some ⟨sb, 0, none⟩)) ∧ (∀ k, OwnS sb qb gq hb gh k → W.heap.size ≤ k) ∧ IsS w' sb qb gq hb gh n (moP np n q j) x.turn x.M ∧ Below W.heap.size W w') := fun W hW => sfork_ok (((HH.out.below hB.bel).below hW).p.sets.it j x hx)
      have HAF := veil (hB.after (moP np n q j) (by rw [hH]))
      have HHj := veil hH
      have HNX : Hid (∀ sb qb gq hb gh, ∀ (i : Nat) (x' : Hd), (H' ++ [(⟨sb, qb, gq, hb, gh, x.turn, x.M⟩ : Hd)])[i]? = some x' → ∃ y, H[i]? = some y ∧ x'.M = y.M ∧ x'.turn = y.turn) := fun sb qb gq hb gh i x' hx' => by
        rcases Nat.lt_or_ge i H'.length with q1 | q1
        · rw [List.getElem?_append_left q1] at hx'
          exact hM i x' hx'
        · rw [List.getElem?_append_right q1] at hx'
          rcases Nat.eq_zero_or_pos (i - H'.length) with e | e
          · rw [e] at hx'
            simp at hx'
            have : i = j := by omega
            subst this
            exact ⟨x, hx, by rw [← hx'], by rw [← hx']⟩
          · rw [List.getElem?_eq_none (by simp; omega)] at hx'
            cases hx'
      have hl64 : H'.length ≤ 65 := by omega
      clear hB hH hM hx
      go_wp2
      refine wp_region_held_drew (S := (fun _ => True)) (by kernel_rfl) ?_ (fun hHeld => ?_)
      · trivial
      refine wpAnyH_take (i := 0) (v := ?_) rfl (by kernel_rfl) (by kernel_rfl) (by kernel_rfl) (fun _ _ _ h => h) (Or.inl ⟨by rfl, ?v0⟩) (by assumption) ?_
      case v0 => (intro w hSw; (try dsimp only at hSw); go_simp; try with_reducible rfl)
      try simp only [Act.put, List.setIfInBounds_toArray, List.set_cons_zero, List.set_cons_succ, List.getElem_toArray, List.getElem_cons_zero]
      refine wpAnyH_take (i := 1) (v := ?_) rfl (by kernel_rfl) (by kernel_rfl) (by kernel_rfl) (fun _ _ _ h => h) (Or.inl ⟨by rfl, ?v1⟩) (by assumption) ?_
      case v1 => (intro w hSw; (try dsimp only at hSw); go_simp; try with_reducible rfl)
      try simp only [Act.put, List.setIfInBounds_toArray, List.set_cons_zero, List.set_cons_succ, List.getElem_toArray, List.getElem_cons_succ, List.getElem_cons_zero]
      refine wpAnyH_take (i := 2) (v := ?_) rfl (by kernel_rfl) (by kernel_rfl) (by kernel_rfl) (fun _ _ _ h => h) (Or.inl ⟨by rfl, ?v2⟩) (by assumption) ?_
      case v2 => (intro w hSw; (try dsimp only at hSw); go_simp; try with_reducible rfl)
      try simp only [Act.put, List.setIfInBounds_toArray, List.set_cons_zero, List.set_cons_succ, List.getElem_toArray, List.getElem_cons_succ, List.getElem_cons_zero]
      refine wpAnyH_take (i := 3) (v := ?_) rfl (by kernel_rfl) (by kernel_rfl) (by kernel_rfl) (fun _ _ _ h => h) (Or.inl ⟨by rfl, ?v3⟩) (by assumption) ?_
      case v3 => (intro w hSw; (try dsimp only at hSw); go_simp; try with_reducible rfl)
      try simp only [Act.put, List.setIfInBounds_toArray, List.set_cons_zero, List.set_cons_succ, List.getElem_toArray, List.getElem_cons_succ, List.getElem_cons_zero]
      refine wpAnyH_take (i := 5) (v := ?_) rfl (by kernel_rfl) (by kernel_rfl) (by kernel_rfl) (fun _ _ _ h => h) (Or.inl ⟨by rfl, ?v5⟩) (by assumption) ?_
      case v5 => (intro w hSw; (try dsimp only at hSw); go_simp; try with_reducible rfl)
      try simp only [Act.put, List.setIfInBounds_toArray, List.set_cons_zero, List.set_cons_succ, List.getElem_toArray, List.getElem_cons_succ, List.getElem_cons_zero]
      refine wpAnyH_ready (rs := [4, 6]) (by kernel_rfl) (by simp) ?_
      refine AllReadyH.cons rfl (fun K hK => ?_) (AllReadyH.cons rfl (fun K hK => ?_) AllReadyH.nil)
      · skip
        go_simp
        refine hK.out _ _ ?_ (fun hHeld => ?_)
        · trivial
        clear hK K
        try simp only [Act.put, List.setIfInBounds_toArray, List.set_cons_zero, List.set_cons_succ, List.getElem_toArray, List.getElem_cons_succ, List.getElem_cons_zero]
        refine wpAnyH_ready (rs := [6]) (by kernel_rfl) (by simp) ?_
        refine AllReadyH.cons rfl (fun K hK => ?_) AllReadyH.nil
        go_simp
        go_at_call 53
        refine (HFK.out _ (by first | exact Below.refl _ _ | exact (Below.refl _ _).drew)).mono ?_
        rintro e w1 ⟨sb, qb, gq, hb, gh, rfl, ho, hq1, hb1⟩
        obtain ⟨k1, k2, HROW, HSZ, HST⟩ := HAF.out w1 ⟨sb, qb, gq, hb, gh, x.turn, x.M⟩ hq1 ho (by exact below_pre' hb1 rfl rfl rfl rfl)
        clear ho hq1 hb1
        refine hK.out _ _ ?_ (fun hHeld => ?_)
        · trivial
        clear hK K
        try simp only [Act.put, List.setIfInBounds_toArray, List.set_cons_zero, List.set_cons_succ, List.getElem_toArray, List.getElem_cons_succ, List.getElem_cons_zero]
        refine wpAnyH_ready (rs := [7]) (by kernel_rfl) (by simp) ?_
        refine AllReadyH.cons rfl (fun K hK => ?_) AllReadyH.nil
        go_simp
        refine hK.out _ _ ?_ (fun hHeld => ?_)
        · trivial
        clear hK K
        try simp only [Act.put, List.setIfInBounds_toArray, List.set_cons_zero, List.set_cons_succ, List.getElem_toArray, List.getElem_cons_succ, List.getElem_cons_zero]
        refine wpAnyH_ready (rs := [8]) (by kernel_rfl) (by simp) ?_
        refine AllReadyH.cons rfl (fun K hK => ?_) AllReadyH.nil
        refine step_append_at _ (by rfl) _ _ _ (by rfl) (w.heap.size + 2) 73 i0 (.pointer none) 1 8 Try.underlying74 hi0 hz0 hz1 hz2 rfl (by omega) (.slice a H'.length c) H'.length (ptrs H') (by rfl) (by exact HROW.out _ rfl) ⟨w1.heap.size, 0, none⟩ 1 1 [.pointer (some ⟨sb, 0, none⟩)] (by rfl) rfl (by exact cell_one_new _ _ _) (by intro u hu; simp at hu; rw [hu]; rfl) (by unfold maxLen; omega) (by omega) (by exact HSZ.out _ rfl) ?_
        intro v' w3 hr3 hg3 hat3
        obtain ⟨z1, z2, z3⟩ := HST.out _ w3 v' rfl hr3 hg3 hat3
        have HX := veil z3
        obtain ⟨a', c', rfl⟩ := Dc.owns_slice hr3
        clear z3 hr3 hg3 hat3
        refine hK.out _ _ ?_ (fun hHeld => ?_)
        · trivial
        clear hK K
        try simp only [Act.put, List.setIfInBounds_toArray, List.set_cons_zero, List.set_cons_succ, List.getElem_toArray, List.getElem_cons_succ, List.getElem_cons_zero]
        refine wpAnyH_take (i := 9) (v := ?_) rfl (by kernel_rfl) (by kernel_rfl) (by kernel_rfl) (fun _ _ _ h => h) (Or.inl ⟨by rfl, ?v9⟩) (by assumption) ?_
        case v9 => (intro w hSw; (try dsimp only at hSw); go_simp; try with_reducible rfl)
        try simp only [Act.put, List.setIfInBounds_toArray, List.set_cons_zero, List.set_cons_succ, List.getElem_toArray, List.getElem_cons_succ, List.getElem_cons_zero]
        refine wpAnyH_take (i := 10) (v := ?_) rfl (by kernel_rfl) (by kernel_rfl) (by kernel_rfl) (fun _ _ _ h => h) (Or.inl ⟨by rfl, ?v10⟩) (by assumption) ?_
        case v10 => (intro w hSw; (try dsimp only at hSw); go_simp; try with_reducible rfl)
        try simp only [Act.put, List.setIfInBounds_toArray, List.set_cons_zero, List.set_cons_succ, List.getElem_toArray, List.getElem_cons_succ, List.getElem_cons_zero]
        refine wpAnyH_ready (rs := [11]) (by kernel_rfl) (by simp) ?_
        refine AllReadyH.cons rfl (fun K hK => ?_) AllReadyH.nil
        go_simp
        refine hK.out _ _ ?_ (fun hHeld => ?_)
        · trivial
        clear hK K
        try simp only [Act.put, List.setIfInBounds_toArray, List.set_cons_zero, List.set_cons_succ, List.getElem_toArray, List.getElem_cons_succ, List.getElem_cons_zero]
        refine wpAnyH_done (by kernel_rfl) ?_ _
        go_wp2
        go_roundw
        case rel => exact ⟨j + 1, _, _, by omega, by have := HHj.out; simp; omega, by go_num, HNX.out sb qb gq hb gh, HX.out⟩
        case measure => simp [intOf]; omega
      · skip
        go_simp
        go_at_call 53
        refine (HFK.out _ (by first | exact Below.refl _ _ | exact (Below.refl _ _).drew)).mono ?_
        rintro e w1 ⟨sb, qb, gq, hb, gh, rfl, ho, hq1, hb1⟩
        obtain ⟨k1, k2, HROW, HSZ, HST⟩ := HAF.out w1 ⟨sb, qb, gq, hb, gh, x.turn, x.M⟩ hq1 ho (by exact below_pre' hb1 rfl rfl rfl rfl)
        clear ho hq1 hb1
        refine hK.out _ _ ?_ (fun hHeld => ?_)
        · trivial
        clear hK K
        try simp only [Act.put, List.setIfInBounds_toArray, List.set_cons_zero, List.set_cons_succ, List.getElem_toArray, List.getElem_cons_succ, List.getElem_cons_zero]
        refine wpAnyH_ready (rs := [4, 7]) (by kernel_rfl) (by simp) ?_
        refine AllReadyH.cons rfl (fun K hK => ?_) (AllReadyH.cons rfl (fun K hK => ?_) AllReadyH.nil)
        · skip
          go_simp
          refine hK.out _ _ ?_ (fun hHeld => ?_)
          · trivial
          clear hK K
          try simp only [Act.put, List.setIfInBounds_toArray, List.set_cons_zero, List.set_cons_succ, List.getElem_toArray, List.getElem_cons_succ, List.getElem_cons_zero]
          refine wpAnyH_ready (rs := [7]) (by kernel_rfl) (by simp) ?_
          refine AllReadyH.cons rfl (fun K hK => ?_) AllReadyH.nil
          go_simp
          refine hK.out _ _ ?_ (fun hHeld => ?_)
          · trivial
          clear hK K
          try simp only [Act.put, List.setIfInBounds_toArray, List.set_cons_zero, List.set_cons_succ, List.getElem_toArray, List.getElem_cons_succ, List.getElem_cons_zero]
          refine wpAnyH_ready (rs := [8]) (by kernel_rfl) (by simp) ?_
          refine AllReadyH.cons rfl (fun K hK => ?_) AllReadyH.nil
          refine step_append_at _ (by rfl) _ _ _ (by rfl) (w.heap.size + 2) 73 i0 (.pointer none) 1 8 Try.underlying74 hi0 hz0 hz1 hz2 rfl (by omega) (.slice a H'.length c) H'.length (ptrs H') (by rfl) (by exact HROW.out _ rfl) ⟨w1.heap.size, 0, none⟩ 1 1 [.pointer (some ⟨sb, 0, none⟩)] (by rfl) rfl (by exact cell_one_new _ _ _) (by intro u hu; simp at hu; rw [hu]; rfl) (by unfold maxLen; omega) (by omega) (by exact HSZ.out _ rfl) ?_
          intro v' w3 hr3 hg3 hat3
          obtain ⟨z1, z2, z3⟩ := HST.out _ w3 v' rfl hr3 hg3 hat3
          have HX := veil z3
          obtain ⟨a', c', rfl⟩ := Dc.owns_slice hr3
          clear z3 hr3 hg3 hat3
          refine hK.out _ _ ?_ (fun hHeld => ?_)
          · trivial
          clear hK K
          try simp only [Act.put, List.setIfInBounds_toArray, List.set_cons_zero, List.set_cons_succ, List.getElem_toArray, List.getElem_cons_succ, List.getElem_cons_zero]
          refine wpAnyH_take (i := 9) (v := ?_) rfl (by kernel_rfl) (by kernel_rfl) (by kernel_rfl) (fun _ _ _ h => h) (Or.inl ⟨by rfl, ?v9⟩) (by assumption) ?_
          case v9 => (intro w hSw; (try dsimp only at hSw); go_simp; try with_reducible rfl)
          try simp only [Act.put, List.setIfInBounds_toArray, List.set_cons_zero, List.set_cons_succ, List.getElem_toArray, List.getElem_cons_succ, List.getElem_cons_zero]
          refine wpAnyH_take (i := 10) (v := ?_) rfl (by kernel_rfl) (by kernel_rfl) (by kernel_rfl) (fun _ _ _ h => h) (Or.inl ⟨by rfl, ?v10⟩) (by assumption) ?_
          case v10 => (intro w hSw; (try dsimp only at hSw); go_simp; try with_reducible rfl)
          try simp only [Act.put, List.setIfInBounds_toArray, List.set_cons_zero, List.set_cons_succ, List.getElem_toArray, List.getElem_cons_succ, List.getElem_cons_zero]
          refine wpAnyH_ready (rs := [11]) (by kernel_rfl) (by simp) ?_
          refine AllReadyH.cons rfl (fun K hK => ?_) AllReadyH.nil
          go_simp
          refine hK.out _ _ ?_ (fun hHeld => ?_)
          · trivial
          clear hK K
          try simp only [Act.put, List.setIfInBounds_toArray, List.set_cons_zero, List.set_cons_succ, List.getElem_toArray, List.getElem_cons_succ, List.getElem_cons_zero]
          refine wpAnyH_done (by kernel_rfl) ?_ _
          go_wp2
          go_roundw
          case rel => exact ⟨j + 1, _, _, by omega, by have := HHj.out; simp; omega, by go_num, HNX.out sb qb gq hb gh, HX.out⟩
          case measure => simp [intOf]; omega
        · skip
          go_simp
          refine hK.out _ _ ?_ (fun hHeld => ?_)
          · trivial
          clear hK K
          try simp only [Act.put, List.setIfInBounds_toArray, List.set_cons_zero, List.set_cons_succ, List.getElem_toArray, List.getElem_cons_succ, List.getElem_cons_zero]
          refine wpAnyH_ready (rs := [4]) (by kernel_rfl) (by simp) ?_
          refine AllReadyH.cons rfl (fun K hK => ?_) AllReadyH.nil
          go_simp
          refine hK.out _ _ ?_ (fun hHeld => ?_)
          · trivial
          clear hK K
          try simp only [Act.put, List.setIfInBounds_toArray, List.set_cons_zero, List.set_cons_succ, List.getElem_toArray, List.getElem_cons_succ, List.getElem_cons_zero]
          refine wpAnyH_ready (rs := [8]) (by kernel_rfl) (by simp) ?_
          refine AllReadyH.cons rfl (fun K hK => ?_) AllReadyH.nil
          refine step_append_at _ (by rfl) _ _ _ (by rfl) (w.heap.size + 2) 73 i0 (.pointer none) 1 8 Try.underlying74 hi0 hz0 hz1 hz2 rfl (by omega) (.slice a H'.length c) H'.length (ptrs H') (by rfl) (by exact HROW.out _ rfl) ⟨w1.heap.size, 0, none⟩ 1 1 [.pointer (some ⟨sb, 0, none⟩)] (by rfl) rfl (by exact cell_one_new _ _ _) (by intro u hu; simp at hu; rw [hu]; rfl) (by unfold maxLen; omega) (by omega) (by exact HSZ.out _ rfl) ?_
          intro v' w3 hr3 hg3 hat3
          obtain ⟨z1, z2, z3⟩ := HST.out _ w3 v' rfl hr3 hg3 hat3
          have HX := veil z3
          obtain ⟨a', c', rfl⟩ := Dc.owns_slice hr3
          clear z3 hr3 hg3 hat3
          refine hK.out _ _ ?_ (fun hHeld => ?_)
          · trivial
          clear hK K
          try simp only [Act.put, List.setIfInBounds_toArray, List.set_cons_zero, List.set_cons_succ, List.getElem_toArray, List.getElem_cons_succ, List.getElem_cons_zero]
          refine wpAnyH_take (i := 9) (v := ?_) rfl (by kernel_rfl) (by kernel_rfl) (by kernel_rfl) (fun _ _ _ h => h) (Or.inl ⟨by rfl, ?v9⟩) (by assumption) ?_
          case v9 => (intro w hSw; (try dsimp only at hSw); go_simp; try with_reducible rfl)
          try simp only [Act.put, List.setIfInBounds_toArray, List.set_cons_zero, List.set_cons_succ, List.getElem_toArray, List.getElem_cons_succ, List.getElem_cons_zero]
          refine wpAnyH_take (i := 10) (v := ?_) rfl (by kernel_rfl) (by kernel_rfl) (by kernel_rfl) (fun _ _ _ h => h) (Or.inl ⟨by rfl, ?v10⟩) (by assumption) ?_
          case v10 => (intro w hSw; (try dsimp only at hSw); go_simp; try with_reducible rfl)
          try simp only [Act.put, List.setIfInBounds_toArray, List.set_cons_zero, List.set_cons_succ, List.getElem_toArray, List.getElem_cons_succ, List.getElem_cons_zero]
          refine wpAnyH_ready (rs := [11]) (by kernel_rfl) (by simp) ?_
          refine AllReadyH.cons rfl (fun K hK => ?_) AllReadyH.nil
          go_simp
          refine hK.out _ _ ?_ (fun hHeld => ?_)
          · trivial
          clear hK K
          try simp only [Act.put, List.setIfInBounds_toArray, List.set_cons_zero, List.set_cons_succ, List.getElem_toArray, List.getElem_cons_succ, List.getElem_cons_zero]
          refine wpAnyH_done (by kernel_rfl) ?_ _
          go_wp2
          go_roundw
          case rel => exact ⟨j + 1, _, _, by omega, by have := HHj.out; simp; omega, by go_num, HNX.out sb qb gq hb gh, HX.out⟩
          case measure => simp [intOf]; omega
    · have hjl' : ¬ (j : Int) < (np : Int) + 1 := by omega
      have hje : j = np + 1 := by omega
      have HBB := veil hB
      have HM := veil hM
      have HHj := veil hH
      have hpp : H'.length = np + 1 := by omega
      clear hB hM
      go_wp2
      go_ret
      have hl := HH.out.p.len
      have hMs : Ms H' = Ms H := by
        apply List.ext_getElem?
        intro i
        unfold Ms
        rw [List.getElem?_map, List.getElem?_map]
        cases hi : H'[i]? with
        | none =>
          have := List.getElem?_eq_none_iff.1 hi
          rw [List.getElem?_eq_none (by omega)]
        | some x' =>
          obtain ⟨y, hy, e1, _⟩ := HM.out i x' hi
          rw [hy]
          simp [e1]
      have hvb := Dc.own_ge HBB.out.row
      refine ⟨_, H', rfl, ⟨⟨HH.out.p.n1, HH.out.p.np1, HH.out.p.q1, HBB.out.blk, HBB.out.row, by omega, HBB.out.sets, ?_, fun i y hy k hk => ⟨HBB.out.sep i y hy k hk, ?_, ?_⟩, ⟨by omega, fun e => ?_, fun e => ?_⟩⟩, Un_eq hMs.symm HH.out.un, fun i y hy => ?_⟩, hMs, HBB.out.bel, ?_⟩
      · rw [show whereF n H' 0 = whereF n H 0 from funext fun z => whereF_eq hMs n 0 z, sumH_eq hMs]
        exact HBB.out.map
      · have := HBB.out.sets.low i y hy k hk; omega
      · have := HBB.out.sets.low i y hy k hk; omega
      · have := (hvb _ e).1; omega
      · have := (hvb _ e).1; omega
      · obtain ⟨z, hz, _, e2⟩ := HM.out i y hy
        rw [e2]
        exact HH.out.tn i z hz
      · rintro k (e | e | e | ⟨i, y, hy, hk⟩)
        · omega
        · omega
        · have := (hvb k e).1; omega
        · have := HBB.out.sets.low i y hy k hk; omega
end
end Go.Proofs.Ytlfejgjhamcahaa
