/-
  Take in all its cases; List, New of any numbers; live.
-/
import Derived.Test.YtlfejgjhamcahaaZ19
namespace Go.Proofs.Ytlfejgjhamcahaa
open Go.RowKit Go.Lib
set_option linter.unusedVariables false
attribute [local go_sem ↓] Go.wp_at_zero Go.wp_at_succ

set_option maxHeartbeats 4000000 in
set_option maxRecDepth 20000 in
theorem ptake_no (w : World) (a : Option Addr) (p d : Int) (hh : ∀ W, Below w.heap.size w W → Calls Try.prog 17 #[.pointer a, .int .i64 p, .int .u64 d] W fun e w' => e = .returned (.tuple #[.int .i64 0, .agg #[.bool false, .int .u64 0, .int .u8 0], .int .i64 0, .bool false]) ∧ Below W.heap.size W w') :
    Calls Try.prog 25 #[.pointer a, .int .i64 p, .int .u64 d] w fun e w' => e = .returned (.tuple #[.int .i64 0, .agg #[.bool false, .int .u64 0, .int .u8 0], .int .i64 0, .bool false]) ∧ Below w.heap.size w w' := by
  have hbB : Below w.heap.size w (w.alloc (.cells #[.bool false, .int .u64 0, .int .u8 0] 25)) := (Below.refl _ _).alloc (Nat.le_refl _) _
  have HBEST := veil (hh _ hbB)
  have HK : Hid (∀ W, Below (w.alloc (.cells #[.bool false, .int .u64 0, .int .u8 0] 25)).heap.size (w.alloc (.cells #[.bool false, .int .u64 0, .int .u8 0] 25)) W →
      (∀ j, W.frozen? ⟨w.heap.size, j, none⟩ = false) ∧ W.cell? ⟨w.heap.size, 0, none⟩ = some (.bool false) ∧ W.cell? ⟨w.heap.size, 1, none⟩ = some (.int .u64 0) ∧ W.cell? ⟨w.heap.size, 2, none⟩ = some (.int .u8 0) ∧ (key3 W w.heap.size ⟨false, 0, 0⟩).heap[w.heap.size]? = some (.cells #[.bool false, .int .u64 0, .int .u8 0] 25 (0, 0)) ∧ Below w.heap.size w (key3 W w.heap.size ⟨false, 0, 0⟩)) := fun W hW => by
    have hblk : W.heap[w.heap.size]? = some (.cells #[.bool false, .int .u64 0, .int .u8 0] 25 (0, 0)) := (hW.block _ (by simp)).trans (World.alloc_heap_new w _)
    have hbw : Below w.heap.size w W := hbB.trans (hW.mono hbB.size)
    have hfk := fr_key3 W w.heap.size ⟨false, 0, 0⟩
    exact ⟨fun j => (blk_cell hblk j).2, (blk_cell hblk 0).1, (blk_cell hblk 1).1, (blk_cell hblk 2).1, blk_key3 (k0 := ⟨false, 0, 0⟩) hblk, hbw.trans (hfk.below hbw.size (fun k e => by omega))⟩
  clear hh hbB
  go_enter Try.func25, Try.ntmps25
  go_wp2_with (first
    | (go_at_call 17; refine (HBEST.out).mono ?_; rintro e w1 ⟨rfl, hb1⟩; obtain ⟨f1, k0, k1, k2, hblk, hB1⟩ := HK.out w1 hb1; have f10 := f1 0; have f11 := f1 1; have f12 := f1 2; have HBLK := veil hblk; have HB1 := veil hB1; clear f1 hblk hB1 hb1))
  have hkk : (((w1.setCell ⟨w.heap.size, 0, none⟩ (.bool false)).setCell ⟨w.heap.size, 1, none⟩ (.int .u64 0)).setCell ⟨w.heap.size, 2, none⟩ (.int .u8 0)) = key3 w1 w.heap.size ⟨false, 0, 0⟩ := rfl
  rw [hkk]
  generalize key3 w1 w.heap.size ⟨false, 0, 0⟩ = W2 at *
  have k20 := (blk_cell HBLK.out 0).1
  have k21 := (blk_cell HBLK.out 1).1
  have k22 := (blk_cell HBLK.out 2).1
  have f20 := (blk_cell HBLK.out 0).2
  have f21 := (blk_cell HBLK.out 1).2
  have f22 := (blk_cell HBLK.out 2).2
  clear k0 k1 k2 f10 f11 f12 hkk
  have HB3 := veil (blk_key3 (k0 := ⟨false, 0, 0⟩) (k1 := ⟨false, 0, 0⟩) HBLK.out)
  simp only [List.getElem?_toArray, List.getElem?_cons_zero, List.getElem?_cons_succ] at k20 k21 k22
  refine wp_region_noPanic ?_
  refine wp_region_held_drew (S := (fun w' => w'.cell? ⟨w.heap.size, 0, none⟩ = some (.bool false) ∧ w'.cell? ⟨w.heap.size, 1, none⟩ = some (.int .u64 0) ∧ w'.cell? ⟨w.heap.size, 2, none⟩ = some (.int .u8 0))) (by kernel_rfl) ?_ (fun hHeld => ?_)
  · exact ⟨k20, k21, k22⟩
  refine wpAnyH_take (i := 0) (v := ?_) rfl (by kernel_rfl) (by kernel_rfl) (by kernel_rfl) (fun _ _ _ h => h) (Or.inl ⟨by rfl, ?v0⟩) (by assumption) ?_
  case v0 => (intro w hSw; (try dsimp only at hSw); go_simp; try with_reducible rfl)
  try simp only [Act.put, List.setIfInBounds_toArray, List.set_cons_zero, List.set_cons_succ, List.getElem_toArray, List.getElem_cons_zero]
  refine wpAnyH_take (i := 1) (v := ?_) rfl (by kernel_rfl) (by kernel_rfl) (by kernel_rfl) (fun _ _ _ h => h) (Or.inl ⟨by rfl, ?v1⟩) (by assumption) ?_
  case v1 => (intro w hSw; (try dsimp only at hSw); go_simp; try with_reducible rfl)
  try simp only [Act.put, List.setIfInBounds_toArray, List.set_cons_zero, List.set_cons_succ, List.getElem_toArray, List.getElem_cons_succ, List.getElem_cons_zero]
  refine wpAnyH_take (i := 2) (v := ?_) rfl (by kernel_rfl) (by kernel_rfl) (by kernel_rfl) (fun _ _ _ h => h) (Or.inl ⟨by rfl, ?v2⟩) (by assumption) ?_
  case v2 => (intro w hSw; (try dsimp only at hSw); go_simp; try with_reducible rfl)
  try simp only [Act.put, List.setIfInBounds_toArray, List.set_cons_zero, List.set_cons_succ, List.getElem_toArray, List.getElem_cons_succ, List.getElem_cons_zero]
  refine wpAnyH_take (i := 3) (v := ?_) rfl (by kernel_rfl) (by kernel_rfl) (by kernel_rfl) (fun _ _ _ h => h) (Or.inl ⟨by rfl, ?v3⟩) (by assumption) ?_
  case v3 => (intro w hSw; (try dsimp only at hSw); go_simp; try with_reducible rfl)
  try simp only [Act.put, List.setIfInBounds_toArray, List.set_cons_zero, List.set_cons_succ, List.getElem_toArray, List.getElem_cons_succ, List.getElem_cons_zero]
  refine wpAnyH_take (i := 4) (v := ?_) rfl (by kernel_rfl) (by kernel_rfl) (by kernel_rfl) (fun _ _ _ h => h) (Or.inl ⟨by rfl, ?v4⟩) (by assumption) ?_
  case v4 => (intro w hSw; (try dsimp only at hSw); go_simp; try with_reducible rfl)
  try simp only [Act.put, List.setIfInBounds_toArray, List.set_cons_zero, List.set_cons_succ, List.getElem_toArray, List.getElem_cons_succ, List.getElem_cons_zero]
  refine wpAnyH_ready (rs := [5]) (by kernel_rfl) (by simp) ?_
  refine AllReadyH.cons rfl (fun K hK => ?_) AllReadyH.nil
  go_simp
  refine hK.out _ _ ?_ (fun hHeld => ?_)
  · exact ⟨(blk_cell (drew_heap HB3.out) 0).1, (blk_cell (drew_heap HB3.out) 1).1, (blk_cell (drew_heap HB3.out) 2).1⟩
  clear hK K
  try simp only [Act.put, List.setIfInBounds_toArray, List.set_cons_zero, List.set_cons_succ, List.getElem_toArray, List.getElem_cons_succ, List.getElem_cons_zero]
  refine wpAnyH_take (i := 6) (v := ?_) rfl (by kernel_rfl) (by kernel_rfl) (by kernel_rfl) (fun _ _ _ h => h) (Or.inl ⟨by rfl, ?v6⟩) (by assumption) ?_
  case v6 => (intro w hSw; (try dsimp only at hSw); go_simp; try with_reducible rfl)
  try simp only [Act.put, List.setIfInBounds_toArray, List.set_cons_zero, List.set_cons_succ, List.getElem_toArray, List.getElem_cons_succ, List.getElem_cons_zero]
  refine wpAnyH_take (i := 7) (v := ?_) rfl (by kernel_rfl) (by kernel_rfl) (by kernel_rfl) (fun _ _ _ h => h) (Or.inl ⟨by rfl, ?v7⟩) (by assumption) ?_
  case v7 => (intro w hSw; (try dsimp only at hSw); go_simp; try with_reducible rfl)
  try simp only [Act.put, List.setIfInBounds_toArray, List.set_cons_zero, List.set_cons_succ, List.getElem_toArray, List.getElem_cons_succ, List.getElem_cons_zero]
  refine wpAnyH_done (by kernel_rfl) ?_ _
  simp only [NoPanic]
  have HW3 := veil (fr_key3 W2 w.heap.size ⟨false, 0, 0⟩)
  have HB4 := veil (drew_heap HB3.out)
  have HF4 : Hid (Fr (fun j => j = w.heap.size) W2 (key3 W2 w.heap.size ⟨false, 0, 0⟩).drew) := ⟨HW3.out.os, HW3.out.tape, HW3.out.output, HW3.out.size, HW3.out.block⟩
  clear HB3 HW3 k20 k21 k22 f20 f21 f22 hHeld
  have hkk : (((W2.setCell ⟨w.heap.size, 0, none⟩ (.bool false)).setCell ⟨w.heap.size, 1, none⟩ (.int .u64 0)).setCell ⟨w.heap.size, 2, none⟩ (.int .u8 0)).drew = (key3 W2 w.heap.size ⟨false, 0, 0⟩).drew := rfl
  rw [hkk]
  generalize (key3 W2 w.heap.size ⟨false, 0, 0⟩).drew = W4 at *
  have g0 := (blk_cell HB4.out 0).1
  have g1 := (blk_cell HB4.out 1).1
  have g2 := (blk_cell HB4.out 2).1
  simp at g0 g1 g2
  go_wp2
  refine bodyPost_ret (v := .tuple #[.int .i64 0, .agg #[.bool false, .int .u64 0, .int .u8 0], .int .i64 0, .bool false]) ?_ rfl ?_
  · simp [results, Try.f25, go_sem, g0, g1, g2]
  refine ⟨rfl, HB1.out.trans (HF4.out.below HB1.out.size (fun k e => by omega))⟩
section
variable {w w' wa wb : World} {base lo pb mb n np q T g cap : Nat} {v : Value} {H : List Hd}
theorem bst_at (H : List Hd) : ∀ (l : List Nat) (b : Option Nat), (∀ c, b = some c → ∃ y M, MM H c = y :: M) → ∀ c, l.foldl (bstep H) b = some c → ∃ y M, MM H c = y :: M
  | [], b, h, c, hc => h c hc
  | x :: l, b, h, c, hc => by
    refine bst_at H l (bstep H b x) (fun c' hc' => ?_) c hc
    unfold bstep at hc'
    cases hM : MM H x with
    | nil => rw [hM] at hc'; exact h c' hc'
    | cons y M =>
      rw [hM] at hc'
      cases b with
      | none =>
        simp only at hc'
        injection hc' with hc'
        exact ⟨y, M, by rw [← hc']; exact hM⟩
      | some c0 =>
        simp only at hc'
        split at hc'
        · injection hc' with hc'
          exact ⟨y, M, by rw [← hc']; exact hM⟩
        · exact h c' hc'
theorem bb_at {p d : Int} {c : Nat} (h : bb np H p d = some c) : (0 ≤ p ∧ p < (np : Int)) ∧ bst H (ords np p.toNat d.toNat) = some c ∧ ∃ x z M', H[c]? = some x ∧ x.M = z :: M' := by
  unfold bb at h
  by_cases hp : 0 ≤ p ∧ p < (np : Int)
  · rw [if_pos hp] at h
    obtain ⟨y, M, e⟩ := bst_at H _ none (fun c hc => by cases hc) c h
    refine ⟨hp, h, ?_⟩
    unfold MM at e
    cases hx : H[c]? with
    | none => rw [hx] at e; cases e
    | some x => rw [hx] at e; exact ⟨x, y, M, rfl, e⟩
  · rw [if_neg hp] at h; cases h
theorem ptake_all (h : IsQ w base lo pb mb n np q v T H) (p d : Int) (hd : 0 ≤ d ∧ d < 18446744073709551616) :
    Calls Try.prog 25 #[.pointer (some ⟨pb, 0, none⟩), .int .i64 p, .int .u64 d] w fun e w' => e = .returned (.tuple #[.int .i64 (bI H (bb np H p d)), .agg #[.bool (bK H (bb np H p d)).e, .int .u64 (bK H (bb np H p d)).d, .int .u8 (bK H (bb np H p d)).l], .int .i64 (bA (bb np H p d)), .bool (bb np H p d).isSome]) ∧ Leaves w w' base lo pb mb n np q v T H (ptkG np H p d) := by
  unfold ptkG
  cases hbb : bb np H p d with
  | none =>
    refine (ptake_no w _ p d (fun W hW => ?_)).mono ?_
    · have := pbest_all (h.below hW) p d hd
      rw [hbb] at this
      exact this
    · rintro e w' ⟨rfl, hb⟩
      exact ⟨rfl, Leaves.same h hb⟩
  | some c =>
    obtain ⟨hp, hb, x, z, M', hx, hM⟩ := bb_at hbb
    obtain ⟨p, rfl⟩ := Int.eq_ofNat_of_zero_le hp.1
    obtain ⟨d, rfl⟩ := Int.eq_ofNat_of_zero_le hd.1
    obtain ⟨g, cap, rfl, _⟩ := h.p.rows
    have e1 : bI H (some c) = (z.1 : Int) := by show tkI (MM H c) = _; rw [MM_at hx, hM]; rfl
    have e2 : bK H (some c) = z.2 := by show tkK (MM H c) = _; rw [MM_at hx, hM]; rfl
    have e3 : bA (some c) = (c : Int) := rfl
    rw [e1, e2, e3]
    refine (ptake_at h p d (by omega) (by omega) hb hx hM).mono ?_
    rintro e w' ⟨rfl, t, hq, hf⟩
    refine ⟨rfl, Leaves.put h hx hq hf ?_⟩
    show (Ms H).set c (MM H c).tail = _
    rw [MM_at hx, hM]
    rfl
/-- The ids of a place, of any number. -/
def lst (H : List Hd) (i : Int) : List Int := if 0 ≤ i ∧ i < (H.length : Int) then idE (MM H i.toNat) else []
theorem plist_ok (h : IsQ w base lo pb mb n np q v T H) (i : Int) :
    Calls Try.prog 19 #[.pointer (some ⟨pb, 0, none⟩), .int .i64 i] w fun e w' => ∃ v', e = .returned v' ∧ Dc.IL w' w.heap.size v' (lst H i) ∧ Below w.heap.size w w' := by
  have hnp := h.p.np1
  have hl := h.p.len
  obtain ⟨g, cap, rfl, hbg, hgl, hr⟩ := h.p.rows
  have c0 := h.p.c0
  unfold lst
  rw [hl]
  by_cases hi : 0 ≤ i ∧ i < ((np + 1 : Nat) : Int)
  · rw [if_pos hi]
    obtain ⟨j, rfl⟩ := Int.eq_ofNat_of_zero_le hi.1
    obtain ⟨x, hx⟩ := h.p.at (i := j) (by omega)
    have c1 := hr j x hx
    have HL := veil (slist_ok (h.p.sets.it j x hx))
    have e : MM H ((j : Int)).toNat = x.M := MM_at hx
    rw [e]
    have b1 : ¬ (j : Int) < 0 := by omega
    have b2 : ¬ ((np : Int) + 1) ≤ (j : Int) := by omega
    have b3 : (j : Int) < (np : Int) + 1 := by omega
    have b4 : j < np + 1 := by omega
    clear h hr hx hi hl
    go_enter Try.func19, Try.ntmps19
    go_wp2_with (go_at_call 46; refine (HL.out).mono ?_; rintro e w1 ⟨v1, rfl, hil, hb1⟩; have HI := veil hil; have HB := veil hb1; clear hil hb1)
    go_ret
    exact ⟨_, rfl, HI.out, HB.out⟩
  · rw [if_neg hi]
    have hn : Dc.IL w w.heap.size (.slice none 0 0) [] := World.ownsRow_nil _ _ _ _
    clear h hr hl
    by_cases h0 : i < 0
    · go_enter Try.func19, Try.ntmps19
      go_wp2
      go_ret
      exact ⟨_, rfl, hn, Below.refl _ _⟩
    · have h1 : (np : Int) + 1 ≤ i := by omega
      go_enter Try.func19, Try.ntmps19
      go_wp2
      go_ret
      exact ⟨_, rfl, hn, Below.refl _ _⟩
end
end Go.Proofs.Ytlfejgjhamcahaa
