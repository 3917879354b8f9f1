/-
  Take.
-/
import Derived.Test.YtlfejgjhamcahaaZ13
namespace Go.Proofs.Ytlfejgjhamcahaa
open Go.RowKit Go.Lib
set_option linter.unusedVariables false
attribute [local go_sem ↓] Go.wp_at_zero Go.wp_at_succ

section
variable {w w' wa wb : World} {base lo pb mb n np q T g cap : Nat} {v : Value} {H : List Hd}
theorem IsQ.frame {S : Nat → Prop} (h : IsQ w base lo pb mb n np q v T H) (hf : Fr S w w') (hn : ∀ k, OwnP pb mb v H k → ¬ S k) : IsQ w' base lo pb mb n np q v T H := ⟨h.p.frame hf hn, h.un, h.tn⟩
def key3 (W : World) (B : Nat) (k : Ke.K) : World := ((W.setCell ⟨B, 0, none⟩ (.bool k.e)).setCell ⟨B, 1, none⟩ (.int .u64 k.d)).setCell ⟨B, 2, none⟩ (.int .u8 k.l)
theorem fr_key3 (W : World) (B : Nat) (k : Ke.K) : Fr (fun j => j = B) W (key3 W B k) := (((Fr.refl (fun j => j = B) W).setCell (a := ⟨B, 0, none⟩) rfl _).setCell (a := ⟨B, 1, none⟩) rfl _).setCell (a := ⟨B, 2, none⟩) rfl _
theorem blk_key3 {W : World} {B : Nat} {k0 k1 : Ke.K} (h : W.heap[B]? = some (.cells #[.bool k0.e, .int .u64 k0.d, .int .u8 k0.l] 25 (0, 0))) : (key3 W B k1).heap[B]? = some (.cells #[.bool k1.e, .int .u64 k1.d, .int .u8 k1.l] 25 (0, 0)) :=
  Go.Joins.block_setCell (Go.Joins.block_setCell (Go.Joins.block_setCell h _) _) _
theorem own_set {i : Nat} {x : Hd} (hx : H[i]? = some x) (t : Nat) (M : List En) (k : Nat) (h : OwnP pb mb v (H.set i (x.to t M)) k) : OwnP pb mb v H k := by
  have hil : i < H.length := (List.getElem?_eq_some_iff.1 hx).1
  rcases h with e | e | e | ⟨j, z, hz, hk⟩
  · exact .inl e
  · exact .inr (.inl e)
  · exact .inr (.inr (.inl e))
  · rcases set_key hil hz with ⟨rfl, rfl⟩ | ⟨_, r⟩
    · exact .inr (.inr (.inr ⟨j, x, hx, hk⟩))
    · exact .inr (.inr (.inr ⟨j, z, r, hk⟩))
set_option maxHeartbeats 4000000 in
set_option maxRecDepth 20000 in
theorem ptake_at (h : IsQ w base lo pb mb n np q (.slice (some ⟨g, 0, none⟩) (np + 1) cap) T H) (p d : Nat) (hp : p < np) (hd : d < 18446744073709551616) {c : Nat} {x : Hd} {z : En} {M' : List En} (hb : bst H (ords np p d) = some c) (hx : H[c]? = some x) (hM : x.M = z :: M') :
    Calls Try.prog 25 #[.pointer (some ⟨pb, 0, none⟩), .int .i64 (p : Int), .int .u64 (d : Int)] w fun e w' => e = .returned (.tuple #[.int .i64 (z.1 : Int), .agg #[.bool z.2.e, .int .u64 z.2.d, .int .u8 z.2.l], .int .i64 (c : Int), .bool true]) ∧ ∃ t, IsQ w' base lo pb mb n np q (.slice (some ⟨g, 0, none⟩) (np + 1) cap) (T + 1) (H.set c (x.to t M')) ∧ Fr (fun k => k = mb ∨ x.own k) w w' := by
  have hbl := h.p.blocks
  have hbB : Below w.heap.size w (w.alloc (.cells #[.bool false, .int .u64 0, .int .u8 0] 25)) := (Below.refl _ _).alloc (Nat.le_refl _) _
  have hcut : cut z.1 x.M = M' := by rw [hM]; exact cut_head (by rw [← hM]; exact IsS.nd (h.p.sets.it c x hx))
  have hzk : (keyOf x.M z.1).isSome = true := by rw [has_iff]; exact ⟨z, by rw [hM]; simp, rfl⟩
  have hzn : z.1 < n := by
    obtain ⟨R, L, hS, hI⟩ := id_S (h.p.sets.it c x hx)
    exact hI.rng hS z (by rw [hM]; simp)
  have HBEST := veil (pbest_ok (h.p.below hbB) p d hp hd)
  rw [hb] at HBEST
  have e1 : bI H (some c) = (z.1 : Int) := by show tkI (MM H c) = _; rw [MM_at hx, hM]; rfl
  have e2 : bK H (some c) = z.2 := by show tkK (MM H c) = _; rw [MM_at hx, hM]; rfl
  have e3 : bA (some c) = (c : Int) := rfl
  rw [e1, e2, e3] at HBEST
  simp only [Option.isSome_some] at HBEST
  -- behind Best, and with the key stored
  have HK : Hid (∀ W, Below (w.alloc (.cells #[.bool false, .int .u64 0, .int .u8 0] 25)).heap.size (w.alloc (.cells #[.bool false, .int .u64 0, .int .u8 0] 25)) W →
      (∀ j, W.frozen? ⟨w.heap.size, j, none⟩ = false) ∧ W.cell? ⟨w.heap.size, 0, none⟩ = some (.bool false) ∧ W.cell? ⟨w.heap.size, 1, none⟩ = some (.int .u64 0) ∧ W.cell? ⟨w.heap.size, 2, none⟩ = some (.int .u8 0) ∧ (key3 W w.heap.size z.2).heap[w.heap.size]? = some (.cells #[.bool z.2.e, .int .u64 z.2.d, .int .u8 z.2.l] 25 (0, 0)) ∧
      IsQ (key3 W w.heap.size z.2) base lo pb mb n np q (.slice (some ⟨g, 0, none⟩) (np + 1) cap) T H ∧ Below w.heap.size w (key3 W w.heap.size z.2)) := fun W hW => by
    have hblk : W.heap[w.heap.size]? = some (.cells #[.bool false, .int .u64 0, .int .u8 0] 25 (0, 0)) := (hW.block _ (by simp)).trans (World.alloc_heap_new w _)
    have hbw : Below w.heap.size w W := hbB.trans (hW.mono hbB.size)
    have hfk := fr_key3 W w.heap.size z.2
    refine ⟨fun j => (blk_cell hblk j).2, (blk_cell hblk 0).1, (blk_cell hblk 1).1, (blk_cell hblk 2).1, blk_key3 (k0 := ⟨false, 0, 0⟩) hblk, (h.below hbw).frame hfk (fun k hk e => ?_), hbw.trans (hfk.below hbw.size (fun k e => by omega))⟩
    have := hbl k hk
    omega
  have HREM : Hid (∀ W, IsQ W base lo pb mb n np q (.slice (some ⟨g, 0, none⟩) (np + 1) cap) T H → Calls Try.prog 30 #[.pointer (some ⟨pb, 0, none⟩), .int .i64 (z.1 : Int)] W fun e w' => e = .returned (.int .i64 0) ∧ ∃ t, IsQ w' base lo pb mb n np q (.slice (some ⟨g, 0, none⟩) (np + 1) cap) (T + 1) (H.set c (x.to t M')) ∧ Fr (fun k => k = mb ∨ x.own k) W w') := fun W hW => by
    have := premove_at hW z.1 hzn hx hzk
    rw [hcut] at this
    exact this
  have HOWN : Hid (∀ t k, OwnP pb mb (.slice (some ⟨g, 0, none⟩) (np + 1) cap) (H.set c (x.to t M')) k → k < w.heap.size) := fun t k hk => hbl k (own_set hx t M' k hk)
  have HNB : Hid (¬ (w.heap.size = mb ∨ x.own w.heap.size)) := by
    rintro (e | e)
    · have := h.p.map.lt; omega
    · have := (h.p.sets.it c x hx).blocks _ e; omega
  clear h hbl hbB hcut hzk hzn hb e1 e2 e3 hM hx
  go_enter Try.func25, Try.ntmps25
  go_wp2_with (first
    | (go_at_call 17; refine (HBEST.out).mono ?_; rintro e w1 ⟨rfl, hb1⟩; obtain ⟨f1, k0, k1, k2, hblk, hQ1, hB1⟩ := HK.out w1 hb1; have f10 := f1 0; have f11 := f1 1; have f12 := f1 2; have HBLK := veil hblk; have HQ1 := veil hQ1; have HB1 := veil hB1; clear f1 hblk hQ1 hB1 hb1)
    | (go_at_call 30; refine (HREM.out _ (by exact HQ1.out)).mono ?_; rintro e w2 ⟨rfl, t, hQ2, hF2⟩; have HBLK2 := veil ((hF2.block _ (Array.getElem?_eq_some_iff.1 HBLK.out).1 HNB.out).trans HBLK.out); have HQ2 := veil hQ2; have HF2 := veil hF2; have k20 := (blk_cell HBLK2.out 0).1; have k21 := (blk_cell HBLK2.out 1).1; have k22 := (blk_cell HBLK2.out 2).1; have f20 := (blk_cell HBLK2.out 0).2; have f21 := (blk_cell HBLK2.out 1).2; have f22 := (blk_cell HBLK2.out 2).2; clear hQ2 hF2))
  have HB3 := veil (blk_key3 (k1 := z.2) HBLK2.out)
  simp only [List.getElem?_toArray, List.getElem?_cons_zero, List.getElem?_cons_succ] at k20 k21 k22
  refine wp_region_noPanic ?_
  refine wp_region_held_drew (S := (fun w' => w'.cell? ⟨w.heap.size, 0, none⟩ = some (.bool z.2.e) ∧ w'.cell? ⟨w.heap.size, 1, none⟩ = some (.int .u64 z.2.d) ∧ w'.cell? ⟨w.heap.size, 2, none⟩ = some (.int .u8 z.2.l))) (by kernel_rfl) ?_ (fun hHeld => ?_)
  · exact ⟨k20, k21, k22⟩
  refine wpAnyH_take (i := 0) (v := ?_) rfl (by kernel_rfl) (by kernel_rfl) (by kernel_rfl) (fun _ _ _ h => h) (Or.inl ⟨by rfl, ?v0⟩) (by assumption) ?_
  case v0 => (intro w hSw; (try dsimp only at hSw); go_simp; try with_reducible rfl)
  try simp only [Act.put, List.setIfInBounds_toArray, List.set_cons_zero, List.set_cons_succ, List.getElem_toArray, List.getElem_cons_zero]
  refine wpAnyH_take (i := 1) (v := ?_) rfl (by kernel_rfl) (by kernel_rfl) (by kernel_rfl) (fun _ _ _ h => h) (Or.inl ⟨by rfl, ?v1⟩) (by assumption) ?_
  case v1 => (intro w hSw; (try dsimp only at hSw); go_simp; try with_reducible rfl)
  try simp only [Act.put, List.setIfInBounds_toArray, List.set_cons_zero, List.set_cons_succ, List.getElem_toArray, List.getElem_cons_succ, List.getElem_cons_zero]
  refine wpAnyH_take (i := 2) (v := ?_) rfl (by kernel_rfl) (by kernel_rfl) (by kernel_rfl) (fun _ _ _ h => h) (Or.inl ⟨by rfl, ?v2⟩) (by assumption) ?_
  case v2 => (intro w hSw; (try dsimp only at hSw); go_simp; try with_reducible rfl)
  try simp only [Act.put, List.setIfInBounds_toArray, List.set_cons_zero, List.set_cons_succ, List.getElem_toArray, List.getElem_cons_succ, List.getElem_cons_zero]
  refine wpAnyH_take (i := 3) (v := ?_) rfl (by kernel_rfl) (by kernel_rfl) (by kernel_rfl) (fun _ _ _ h => h) (Or.inl ⟨by rfl, ?v3⟩) (by assumption) ?_
  case v3 => (intro w hSw; (try dsimp only at hSw); go_simp; try with_reducible rfl)
  try simp only [Act.put, List.setIfInBounds_toArray, List.set_cons_zero, List.set_cons_succ, List.getElem_toArray, List.getElem_cons_succ, List.getElem_cons_zero]
  refine wpAnyH_take (i := 4) (v := ?_) rfl (by kernel_rfl) (by kernel_rfl) (by kernel_rfl) (fun _ _ _ h => h) (Or.inl ⟨by rfl, ?v4⟩) (by assumption) ?_
  case v4 => (intro w hSw; (try dsimp only at hSw); go_simp; try with_reducible rfl)
  try simp only [Act.put, List.setIfInBounds_toArray, List.set_cons_zero, List.set_cons_succ, List.getElem_toArray, List.getElem_cons_succ, List.getElem_cons_zero]
  refine wpAnyH_ready (rs := [5]) (by kernel_rfl) (by simp) ?_
  refine AllReadyH.cons rfl (fun K hK => ?_) AllReadyH.nil
  go_simp
  refine hK.out _ _ ?_ (fun hHeld => ?_)
  · exact ⟨(blk_cell (drew_heap HB3.out) 0).1, (blk_cell (drew_heap HB3.out) 1).1, (blk_cell (drew_heap HB3.out) 2).1⟩
  clear hK K
  try simp only [Act.put, List.setIfInBounds_toArray, List.set_cons_zero, List.set_cons_succ, List.getElem_toArray, List.getElem_cons_succ, List.getElem_cons_zero]
  refine wpAnyH_take (i := 6) (v := ?_) rfl (by kernel_rfl) (by kernel_rfl) (by kernel_rfl) (fun _ _ _ h => h) (Or.inl ⟨by rfl, ?v6⟩) (by assumption) ?_
  case v6 => (intro w hSw; (try dsimp only at hSw); go_simp; try with_reducible rfl)
  try simp only [Act.put, List.setIfInBounds_toArray, List.set_cons_zero, List.set_cons_succ, List.getElem_toArray, List.getElem_cons_succ, List.getElem_cons_zero]
  refine wpAnyH_take (i := 7) (v := ?_) rfl (by kernel_rfl) (by kernel_rfl) (by kernel_rfl) (fun _ _ _ h => h) (Or.inl ⟨by rfl, ?v7⟩) (by assumption) ?_
  case v7 => (intro w hSw; (try dsimp only at hSw); go_simp; try with_reducible rfl)
  try simp only [Act.put, List.setIfInBounds_toArray, List.set_cons_zero, List.set_cons_succ, List.getElem_toArray, List.getElem_cons_succ, List.getElem_cons_zero]
  refine wpAnyH_done (by kernel_rfl) ?_ _
  simp only [NoPanic]
  have HW3 := veil (fr_key3 w2 w.heap.size z.2)
  have HB4 := veil (drew_heap HB3.out)
  have HF4 : Hid (Fr (fun j => j = w.heap.size) w2 (key3 w2 w.heap.size z.2).drew) := ⟨HW3.out.os, HW3.out.tape, HW3.out.output, HW3.out.size, HW3.out.block⟩
  clear HB3 HW3 k20 k21 k22 f20 f21 f22 hHeld
  have hkk : (((w2.setCell ⟨w.heap.size, 0, none⟩ (.bool z.2.e)).setCell ⟨w.heap.size, 1, none⟩ (.int .u64 z.2.d)).setCell ⟨w.heap.size, 2, none⟩ (.int .u8 z.2.l)).drew = (key3 w2 w.heap.size z.2).drew := rfl
  rw [hkk]
  generalize (key3 w2 w.heap.size z.2).drew = W4 at *
  have g0 := (blk_cell HB4.out 0).1
  have g1 := (blk_cell HB4.out 1).1
  have g2 := (blk_cell HB4.out 2).1
  simp at g0 g1 g2
  go_wp2
  refine bodyPost_ret (v := .tuple #[.int .i64 (z.1 : Int), .agg #[.bool z.2.e, .int .u64 z.2.d, .int .u8 z.2.l], .int .i64 (c : Int), .bool true]) ?_ rfl ?_
  · simp [results, Try.f25, go_sem, g0, g1, g2]
  refine ⟨rfl, t, HQ2.out.frame HF4.out (fun k hk e => ?_), ?_⟩
  · have := HOWN.out t k hk; omega
  · have hA : Fr (fun k => k = mb ∨ x.own k) w w2 := (Fr.of_below' HB1.out).trans HF2.out
    exact ⟨HF4.out.os.trans hA.os, HF4.out.tape.trans hA.tape, HF4.out.output.trans hA.output, Nat.le_trans hA.size HF4.out.size, fun k hk hn => (HF4.out.block k (Nat.lt_of_lt_of_le hk hA.size) (fun e => by omega)).trans (hA.block k hk hn)⟩
end
end Go.Proofs.Ytlfejgjhamcahaa
