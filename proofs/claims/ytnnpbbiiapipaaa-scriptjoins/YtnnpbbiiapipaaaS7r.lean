/-
  script: the document's bytes of an entry walked.
-/
import Derived.Test.YtnnpbbiiapipaaaS7
import Derived.Test.YtnnpbbiiapipaaaS4s
import Derived.Test.YtnnpbbiiapipaaaO25
import Derived.OrdersHeld
namespace Go.Proofs.Ytnnpbbiiapipaaa
open Go.RowKit Go.Lib
set_option linter.unusedVariables false
theorem below_drew {B : Nat} {w w' : World} (h : Below B w w') : Below B w w'.drew := ⟨h.os, h.tape, h.output, h.size, h.block⟩
theorem lit_row_next (w : World) (o : Obj) (v : Value) (t : TypeId) : ((w.alloc o).alloc (.cells #[v] t)).ownsRow w.heap.size t 1 (.slice (some ⟨w.heap.size + 1, 0, none⟩) 1 1) 1 [v] := by
  have h := lit_row (w.alloc o) w.heap.size (by simp) v t
  rw [show (w.alloc o).heap.size = w.heap.size + 1 by simp] at h
  exact h
theorem eight_at (W : World) (N : Nat) (hN : N < 18446744073709551616) :
    Calls Try.prog 36 #[.int .u64 (N : Int)] W fun e w' => ∃ g cap, e = .returned (.slice (some ⟨g, 0, none⟩) 8 cap) ∧ (∀ j u, (u8s (be 8 N))[j]? = some u → w'.cell? ((⟨g, 0, none⟩ : Addr).add j) = some u) ∧ Below W.heap.size W w' :=
  (eight_ok W N hN).mono fun e w' ⟨v, he, ho, hb⟩ => by
    rcases ho.2 with ⟨_, h0⟩ | ⟨g, cap, cur, rfl, _⟩
    · omega
    · exact ⟨g, cap, he, ho.cells rfl, hb⟩
theorem be8_len (N : Nat) : (u8s (be 8 N)).length = 8 * 1 := by rw [u8s_length, be_length]
set_option maxHeartbeats 2000000 in
theorem one1_ok (w : World) (a : Option Addr) (ca : Nat) (p dr : Nat) (hp : p < 256) (hdr : dr < 18446744073709551616) :
    Calls Try.prog 23 #[.agg #[.int .i64 1, .int .i64 (p : Int), .int .u64 (dr : Int), .int .i64 0, .slice a 0 ca, .int .u64 0, .int .u64 0, .int .i64 0, .int .u8 0, .int .i64 0]] w fun e w' => ∃ v', e = .returned v' ∧ w'.ownsRow w.heap.size 5 1 v' (1 :: p :: be 8 dr).length (u8s (1 :: p :: be 8 dr)) ∧ Below w.heap.size w w' := by
  obtain ⟨i0, hi, hz0, hz1, hz2⟩ := info_parts info_u8
  have HE8 := veil (fun W => eight_at W dr hdr)
  have hwr : IntKind.u8.wrap (p : Int) = (p : Int) := by rw [wrap8]; omega
  obtain ⟨W0, hW0⟩ : ∃ W, W = (w.alloc (.cells #[.int .i64 1, .int .i64 (p : Int), .int .u64 (dr : Int), .int .i64 0, .slice a 0 ca, .int .u64 0, .int .u64 0, .int .i64 0, .int .u8 0, .int .i64 0] 39)).alloc (.cells #[.int .u8 1] 5) := ⟨_, rfl⟩
  have HB0 : Hid (Below w.heap.size w W0) := by rw [hW0]; exact below_two w _ _ _ _
  have BX0 : Hid (Bx W0 w.heap.size #[.int .i64 1, .int .i64 (p : Int), .int .u64 (dr : Int), .int .i64 0, .slice a 0 ca, .int .u64 0, .int .u64 0, .int .i64 0, .int .u8 0, .int .i64 0] 39) := by rw [hW0]; exact (bx_new w _ _).alloc _
  have OW0 : Hid (W0.ownsRow w.heap.size 5 1 (.slice (some ⟨w.heap.size + 1, 0, none⟩) 1 1) 1 [.int .u8 1]) := by rw [hW0]; exact lit_row_next w _ _ _
  have hs0 := HB0.out.size
  have HW0 := veil hW0
  clear hW0
  go_enter Try.func23, Try.ntmps23
  go_wp2_with fail
  rw [← HW0.out]
  clear HW0
  refine wp_region_held_drew (S := (fun W => W.cell? ⟨w.heap.size, 1, none⟩ = some (.int .i64 (p : Int)) ∧ W.cell? ⟨w.heap.size, 2, none⟩ = some (.int .u64 (dr : Int)))) (by kernel_rfl) ⟨BX0.out.cell 1 _ rfl, BX0.out.cell 2 _ rfl⟩ (fun hHeld => ?_)
  refine wpAnyH_take (i := 0) (v := ?_) rfl (by kernel_rfl) (by kernel_rfl) (by kernel_rfl) (fun _ _ _ h => h) (Or.inl ⟨by rfl, ?v0⟩) (by assumption) ?_
  case v0 => (intro w hSw; (try dsimp only at hSw); go_simp; try with_reducible rfl)
  try simp only [Act.put, List.setIfInBounds_toArray, List.set_cons_zero, List.set_cons_succ, List.getElem_toArray, List.getElem_cons_zero]
  refine wpAnyH_take (i := 1) (v := ?_) rfl (by kernel_rfl) (by kernel_rfl) (by kernel_rfl) (fun _ _ _ h => h) (Or.inl ⟨by rfl, ?v1⟩) (by assumption) ?_
  case v1 => (intro w hSw; (try dsimp only at hSw); go_simp; try with_reducible rfl)
  try simp only [Act.put, List.setIfInBounds_toArray, List.set_cons_zero, List.set_cons_succ, List.getElem_toArray, List.getElem_cons_succ, List.getElem_cons_zero]
  refine wpAnyH_take (i := 2) (v := ?_) rfl (by kernel_rfl) (by kernel_rfl) (by kernel_rfl) (fun _ _ _ h => h) (Or.inl ⟨by rfl, ?v2⟩) (by assumption) ?_
  case v2 => (intro w hSw; (try dsimp only at hSw); go_simp; try with_reducible rfl)
  try simp only [Act.put, List.setIfInBounds_toArray, List.set_cons_zero, List.set_cons_succ, List.getElem_toArray, List.getElem_cons_succ, List.getElem_cons_zero]
  refine wpAnyH_take (i := 3) (v := ?_) rfl (by kernel_rfl) (by kernel_rfl) (by kernel_rfl) (fun _ _ _ h => h) (Or.inl ⟨by rfl, ?v3⟩) (by assumption) ?_
  case v3 => (intro w hSw; (try dsimp only at hSw); go_simp; try with_reducible rfl)
  try simp only [Act.put, List.setIfInBounds_toArray, List.set_cons_zero, List.set_cons_succ, List.getElem_toArray, List.getElem_cons_succ, List.getElem_cons_zero]
  refine wpAnyH_take (i := 6) (v := ?_) rfl (by kernel_rfl) (by kernel_rfl) (by kernel_rfl) (fun _ _ _ h => h) (Or.inl ⟨by rfl, ?v6⟩) (by assumption) ?_
  case v6 => (intro w hSw; (try dsimp only at hSw); go_simp; try with_reducible rfl)
  try simp only [Act.put, List.setIfInBounds_toArray, List.set_cons_zero, List.set_cons_succ, List.getElem_toArray, List.getElem_cons_succ, List.getElem_cons_zero]
  refine wpAnyH_take (i := 7) (v := ?_) rfl (by kernel_rfl) (by kernel_rfl) (by kernel_rfl) (fun _ _ _ h => h) (Or.inl ⟨by rfl, ?v7⟩) (by assumption) ?_
  case v7 => (intro w hSw; (try dsimp only at hSw); go_simp; try with_reducible rfl)
  try simp only [Act.put, List.setIfInBounds_toArray, List.set_cons_zero, List.set_cons_succ, List.getElem_toArray, List.getElem_cons_succ, List.getElem_cons_zero]
  refine wpAnyH_ready (rs := [4]) (by kernel_rfl) (by simp) ?_
  refine AllReadyH.cons rfl (fun K hK => ?_) AllReadyH.nil
  go_simp
  refine hK.out _ _ ?_ (fun hHeld => ?_)
  · exact ⟨(BX0.out.alloc _).cell 1 _ rfl, (BX0.out.alloc _).cell 2 _ rfl⟩
  clear hK K
  try simp only [Act.put, List.setIfInBounds_toArray, List.set_cons_zero, List.set_cons_succ, List.getElem_toArray, List.getElem_cons_succ, List.getElem_cons_zero]
  refine wpAnyH_ready (rs := [5]) (by kernel_rfl) (by simp) ?_
  refine AllReadyH.cons rfl (fun K hK => ?_) AllReadyH.nil
  refine step_append_any _ (by rfl) _ _ _ (by rfl) w.heap.size 5 i0 (.int .u8 0) 1 1 Try.underlying24 hi hz0 hz1 hz2 rfl (by omega) (.slice (some ⟨w.heap.size + 1, 0, none⟩) 1 1) 1 _ (by rfl) (own_like (World.ownsRow.alloc OW0.out _) rfl) ⟨W0.heap.size, 0, none⟩ 1 1 [.int .u8 (p : Int)] (by rfl) rfl (cell_one_new W0 _ _) (by simp [Value.oneCell']) (by unfold maxLen; omega) (by omega) (by simp; omega) ?_
  intro v5 w5 ho5 hg5
  have OW5 := veil ho5
  have BX5 := veil (Bx.grown (show Bx (W0.alloc (.cells #[.int .u8 (p : Int)] 5)).drew _ _ _ from BX0.out.alloc _) hg5 (row_ne OW0.out BX0.out (by decide)))
  have HB5 := veil ((below_drew (HB0.out.alloc hs0 _)).grown hg5 (by simp; omega) (fun k hk => (OW0.out.lt k hk).1))
  have hs5 := HB5.out.size
  clear ho5 hg5
  refine hK.out _ _ ?_ (fun hHeld => ?_)
  · exact ⟨BX5.out.cell 1 _ rfl, BX5.out.cell 2 _ rfl⟩
  clear hK K
  try simp only [Act.put, List.setIfInBounds_toArray, List.set_cons_zero, List.set_cons_succ, List.getElem_toArray, List.getElem_cons_succ, List.getElem_cons_zero]
  refine wpAnyH_ready (rs := [8]) (by kernel_rfl) (by simp) ?_
  refine AllReadyH.cons rfl (fun K hK => ?_) AllReadyH.nil
  go_simp
  refine (HE8.out _).mono ?_
  rintro e w8 ⟨g8, c8, rfl, hn8, hb8⟩
  have N8 := veil hn8
  have OW8 := veil (row_below OW5.out hb8)
  have BX8 := veil (BX5.out.below hb8 BX5.out.lt)
  have HB8 := veil (HB5.out.trans (hb8.mono hs5))
  have hs8 := HB8.out.size
  clear hn8 hb8
  dsimp only
  refine hK.out _ _ ?_ (fun hHeld => ?_)
  · exact ⟨BX8.out.cell 1 _ rfl, BX8.out.cell 2 _ rfl⟩
  clear hK K
  try simp only [Act.put, List.setIfInBounds_toArray, List.set_cons_zero, List.set_cons_succ, List.getElem_toArray, List.getElem_cons_succ, List.getElem_cons_zero]
  refine wpAnyH_ready (rs := [9]) (by kernel_rfl) (by simp) ?_
  refine AllReadyH.cons rfl (fun K hK => ?_) AllReadyH.nil
  refine step_append_any _ (by rfl) _ _ _ (by rfl) w.heap.size 5 i0 (.int .u8 0) 1 1 Try.underlying24 hi hz0 hz1 hz2 rfl (by omega) v5 (1 + 1) _ (by rfl) (OW8.out) ⟨g8, 0, none⟩ 8 c8 (u8s (be 8 dr)) (by rfl) (be8_len _) N8.out (u8s_one _) (by unfold maxLen; omega) (by omega) (hs8) ?_
  intro v9 w9 ho9 hg9
  have OW9 := veil ho9
  have BX9 := veil (BX8.out.grown hg9 (row_ne OW8.out BX8.out (by decide)))
  have HB9 := veil (HB8.out.grown hg9 hs8 (fun k hk => (OW8.out.lt k hk).1))
  clear ho9 hg9
  refine hK.out _ _ ?_ (fun hHeld => ?_)
  · exact ⟨BX9.out.cell 1 _ rfl, BX9.out.cell 2 _ rfl⟩
  clear hK K
  try simp only [Act.put, List.setIfInBounds_toArray, List.set_cons_zero, List.set_cons_succ, List.getElem_toArray, List.getElem_cons_succ, List.getElem_cons_zero]
  refine wpAnyH_take (i := 10) (v := ?_) rfl (by kernel_rfl) (by kernel_rfl) (by kernel_rfl) (fun _ _ _ h => h) (Or.inl ⟨by rfl, ?v10⟩) (by assumption) ?_
  case v10 => (intro w hSw; (try dsimp only at hSw); go_simp; try with_reducible rfl)
  try simp only [Act.put, List.setIfInBounds_toArray, List.set_cons_zero, List.set_cons_succ, List.getElem_toArray, List.getElem_cons_succ, List.getElem_cons_zero]
  refine wpAnyH_done (by kernel_rfl) ?_ _
  skip
  go_wp2
  go_ret
  refine ⟨_, rfl, own_eq OW9.out (by simp [be_length]) ?_, HB9.out⟩
  simp [u8s]
set_option maxHeartbeats 2000000 in
theorem one4_ok (w : World) (a : Option Addr) (ca : Nat) (bu pe : Nat) (hbu : bu < 18446744073709551616) (hpe : pe < 18446744073709551616) :
    Calls Try.prog 23 #[.agg #[.int .i64 4, .int .i64 0, .int .u64 0, .int .i64 0, .slice a 0 ca, .int .u64 (bu : Int), .int .u64 (pe : Int), .int .i64 0, .int .u8 0, .int .i64 0]] w fun e w' => ∃ v', e = .returned v' ∧ w'.ownsRow w.heap.size 5 1 v' (4 :: (be 8 bu ++ be 8 pe)).length (u8s (4 :: (be 8 bu ++ be 8 pe))) ∧ Below w.heap.size w w' := by
  obtain ⟨i0, hi, hz0, hz1, hz2⟩ := info_parts info_u8
  have HE3 := veil (fun W => eight_at W bu hbu)
  have HE8 := veil (fun W => eight_at W pe hpe)
  obtain ⟨W0, hW0⟩ : ∃ W, W = (w.alloc (.cells #[.int .i64 4, .int .i64 0, .int .u64 0, .int .i64 0, .slice a 0 ca, .int .u64 (bu : Int), .int .u64 (pe : Int), .int .i64 0, .int .u8 0, .int .i64 0] 39)).alloc (.cells #[.int .u8 4] 5) := ⟨_, rfl⟩
  have HB0 : Hid (Below w.heap.size w W0) := by rw [hW0]; exact below_two w _ _ _ _
  have BX0 : Hid (Bx W0 w.heap.size #[.int .i64 4, .int .i64 0, .int .u64 0, .int .i64 0, .slice a 0 ca, .int .u64 (bu : Int), .int .u64 (pe : Int), .int .i64 0, .int .u8 0, .int .i64 0] 39) := by rw [hW0]; exact (bx_new w _ _).alloc _
  have OW0 : Hid (W0.ownsRow w.heap.size 5 1 (.slice (some ⟨w.heap.size + 1, 0, none⟩) 1 1) 1 [.int .u8 4]) := by rw [hW0]; exact lit_row_next w _ _ _
  have hs0 := HB0.out.size
  have HW0 := veil hW0
  clear hW0
  go_enter Try.func23, Try.ntmps23
  go_wp2_with fail
  rw [← HW0.out]
  clear HW0
  refine wp_region_held_drew (S := (fun W => W.cell? ⟨w.heap.size, 5, none⟩ = some (.int .u64 (bu : Int)) ∧ W.cell? ⟨w.heap.size, 6, none⟩ = some (.int .u64 (pe : Int)))) (by kernel_rfl) ⟨BX0.out.cell 5 _ rfl, BX0.out.cell 6 _ rfl⟩ (fun hHeld => ?_)
  refine wpAnyH_take (i := 0) (v := ?_) rfl (by kernel_rfl) (by kernel_rfl) (by kernel_rfl) (fun _ _ _ h => h) (Or.inl ⟨by rfl, ?v0⟩) (by assumption) ?_
  case v0 => (intro w hSw; (try dsimp only at hSw); go_simp; try with_reducible rfl)
  try simp only [Act.put, List.setIfInBounds_toArray, List.set_cons_zero, List.set_cons_succ, List.getElem_toArray, List.getElem_cons_zero]
  refine wpAnyH_take (i := 1) (v := ?_) rfl (by kernel_rfl) (by kernel_rfl) (by kernel_rfl) (fun _ _ _ h => h) (Or.inl ⟨by rfl, ?v1⟩) (by assumption) ?_
  case v1 => (intro w hSw; (try dsimp only at hSw); go_simp; try with_reducible rfl)
  try simp only [Act.put, List.setIfInBounds_toArray, List.set_cons_zero, List.set_cons_succ, List.getElem_toArray, List.getElem_cons_succ, List.getElem_cons_zero]
  refine wpAnyH_take (i := 2) (v := ?_) rfl (by kernel_rfl) (by kernel_rfl) (by kernel_rfl) (fun _ _ _ h => h) (Or.inl ⟨by rfl, ?v2⟩) (by assumption) ?_
  case v2 => (intro w hSw; (try dsimp only at hSw); go_simp; try with_reducible rfl)
  try simp only [Act.put, List.setIfInBounds_toArray, List.set_cons_zero, List.set_cons_succ, List.getElem_toArray, List.getElem_cons_succ, List.getElem_cons_zero]
  refine wpAnyH_take (i := 5) (v := ?_) rfl (by kernel_rfl) (by kernel_rfl) (by kernel_rfl) (fun _ _ _ h => h) (Or.inl ⟨by rfl, ?v5⟩) (by assumption) ?_
  case v5 => (intro w hSw; (try dsimp only at hSw); go_simp; try with_reducible rfl)
  try simp only [Act.put, List.setIfInBounds_toArray, List.set_cons_zero, List.set_cons_succ, List.getElem_toArray, List.getElem_cons_succ, List.getElem_cons_zero]
  refine wpAnyH_take (i := 6) (v := ?_) rfl (by kernel_rfl) (by kernel_rfl) (by kernel_rfl) (fun _ _ _ h => h) (Or.inl ⟨by rfl, ?v6⟩) (by assumption) ?_
  case v6 => (intro w hSw; (try dsimp only at hSw); go_simp; try with_reducible rfl)
  try simp only [Act.put, List.setIfInBounds_toArray, List.set_cons_zero, List.set_cons_succ, List.getElem_toArray, List.getElem_cons_succ, List.getElem_cons_zero]
  refine wpAnyH_ready (rs := [3]) (by kernel_rfl) (by simp) ?_
  refine AllReadyH.cons rfl (fun K hK => ?_) AllReadyH.nil
  go_simp
  refine (HE3.out _).mono ?_
  rintro e w3 ⟨g3, c3, rfl, hn3, hb3⟩
  have N3 := veil hn3
  have OW3 := veil (row_below (own_like (w' := W0.drew) OW0.out rfl) hb3)
  have BX3 := veil (Bx.below (show Bx W0.drew _ _ _ from BX0.out) hb3 BX0.out.lt)
  have HB3 := veil ((below_drew HB0.out).trans (hb3.mono hs0))
  have hs3 := HB3.out.size
  clear hn3 hb3
  dsimp only
  refine hK.out _ _ ?_ (fun hHeld => ?_)
  · exact ⟨BX3.out.cell 5 _ rfl, BX3.out.cell 6 _ rfl⟩
  clear hK K
  try simp only [Act.put, List.setIfInBounds_toArray, List.set_cons_zero, List.set_cons_succ, List.getElem_toArray, List.getElem_cons_succ, List.getElem_cons_zero]
  refine wpAnyH_ready (rs := [4]) (by kernel_rfl) (by simp) ?_
  refine AllReadyH.cons rfl (fun K hK => ?_) AllReadyH.nil
  refine step_append_any _ (by rfl) _ _ _ (by rfl) w.heap.size 5 i0 (.int .u8 0) 1 1 Try.underlying24 hi hz0 hz1 hz2 rfl (by omega) (.slice (some ⟨w.heap.size + 1, 0, none⟩) 1 1) 1 _ (by rfl) (OW3.out) ⟨g3, 0, none⟩ 8 c3 (u8s (be 8 bu)) (by rfl) (be8_len _) N3.out (u8s_one _) (by unfold maxLen; omega) (by omega) (hs3) ?_
  intro v5 w5 ho5 hg5
  have OW5 := veil ho5
  have BX5 := veil (BX3.out.grown hg5 (row_ne OW3.out BX3.out (by decide)))
  have HB5 := veil (HB3.out.grown hg5 hs3 (fun k hk => (OW3.out.lt k hk).1))
  have hs5 := HB5.out.size
  clear ho5 hg5
  refine hK.out _ _ ?_ (fun hHeld => ?_)
  · exact ⟨BX5.out.cell 5 _ rfl, BX5.out.cell 6 _ rfl⟩
  clear hK K
  try simp only [Act.put, List.setIfInBounds_toArray, List.set_cons_zero, List.set_cons_succ, List.getElem_toArray, List.getElem_cons_succ, List.getElem_cons_zero]
  refine wpAnyH_ready (rs := [7]) (by kernel_rfl) (by simp) ?_
  refine AllReadyH.cons rfl (fun K hK => ?_) AllReadyH.nil
  go_simp
  refine (HE8.out _).mono ?_
  rintro e w8 ⟨g8, c8, rfl, hn8, hb8⟩
  have N8 := veil hn8
  have OW8 := veil (row_below OW5.out hb8)
  have BX8 := veil (BX5.out.below hb8 BX5.out.lt)
  have HB8 := veil (HB5.out.trans (hb8.mono hs5))
  have hs8 := HB8.out.size
  clear hn8 hb8
  dsimp only
  refine hK.out _ _ ?_ (fun hHeld => ?_)
  · exact ⟨BX8.out.cell 5 _ rfl, BX8.out.cell 6 _ rfl⟩
  clear hK K
  try simp only [Act.put, List.setIfInBounds_toArray, List.set_cons_zero, List.set_cons_succ, List.getElem_toArray, List.getElem_cons_succ, List.getElem_cons_zero]
  refine wpAnyH_ready (rs := [8]) (by kernel_rfl) (by simp) ?_
  refine AllReadyH.cons rfl (fun K hK => ?_) AllReadyH.nil
  refine step_append_any _ (by rfl) _ _ _ (by rfl) w.heap.size 5 i0 (.int .u8 0) 1 1 Try.underlying24 hi hz0 hz1 hz2 rfl (by omega) v5 (1 + 8) _ (by rfl) (OW8.out) ⟨g8, 0, none⟩ 8 c8 (u8s (be 8 pe)) (by rfl) (be8_len _) N8.out (u8s_one _) (by unfold maxLen; omega) (by omega) (hs8) ?_
  intro v9 w9 ho9 hg9
  have OW9 := veil ho9
  have BX9 := veil (BX8.out.grown hg9 (row_ne OW8.out BX8.out (by decide)))
  have HB9 := veil (HB8.out.grown hg9 hs8 (fun k hk => (OW8.out.lt k hk).1))
  clear ho9 hg9
  refine hK.out _ _ ?_ (fun hHeld => ?_)
  · exact ⟨BX9.out.cell 5 _ rfl, BX9.out.cell 6 _ rfl⟩
  clear hK K
  try simp only [Act.put, List.setIfInBounds_toArray, List.set_cons_zero, List.set_cons_succ, List.getElem_toArray, List.getElem_cons_succ, List.getElem_cons_zero]
  refine wpAnyH_take (i := 9) (v := ?_) rfl (by kernel_rfl) (by kernel_rfl) (by kernel_rfl) (fun _ _ _ h => h) (Or.inl ⟨by rfl, ?v9⟩) (by assumption) ?_
  case v9 => (intro w hSw; (try dsimp only at hSw); go_simp; try with_reducible rfl)
  try simp only [Act.put, List.setIfInBounds_toArray, List.set_cons_zero, List.set_cons_succ, List.getElem_toArray, List.getElem_cons_succ, List.getElem_cons_zero]
  refine wpAnyH_done (by kernel_rfl) ?_ _
  skip
  go_wp2
  go_ret
  refine ⟨_, rfl, own_eq OW9.out (by simp [be_length]) ?_, HB9.out⟩
  simp [u8s]
set_option maxHeartbeats 2000000 in
theorem one2_ok (w : World) (a : Option Addr) (ca : Nat) (k : Nat) (hk : k < 65536) :
    Calls Try.prog 23 #[.agg #[.int .i64 2, .int .i64 0, .int .u64 0, .int .i64 (k : Int), .slice a 0 ca, .int .u64 0, .int .u64 0, .int .i64 0, .int .u8 0, .int .i64 0]] w fun e w' => ∃ v', e = .returned v' ∧ w'.ownsRow w.heap.size 5 1 v' (2 :: be 2 k).length (u8s (2 :: be 2 k)) ∧ Below w.heap.size w w' := by
  obtain ⟨i0, hi, hz0, hz1, hz2⟩ := info_parts info_u8
  have HB0 : Hid (Below w.heap.size w ((w.alloc (.cells #[.int .i64 2, .int .i64 0, .int .u64 0, .int .i64 (k : Int), .slice a 0 ca, .int .u64 0, .int .u64 0, .int .i64 0, .int .u8 0, .int .i64 0] 39)).alloc (.cells #[.int .u8 2] 5))) := below_two w _ _ _ _
  have OW0 : Hid (((w.alloc (.cells #[.int .i64 2, .int .i64 0, .int .u64 0, .int .i64 (k : Int), .slice a 0 ca, .int .u64 0, .int .u64 0, .int .i64 0, .int .u8 0, .int .i64 0] 39)).alloc (.cells #[.int .u8 2] 5)).ownsRow w.heap.size 5 1 (.slice (some ⟨w.heap.size + 1, 0, none⟩) 1 1) 1 [.int .u8 2]) := lit_row_next w _ _ _
  have HN : Hid (∀ (W : World) (l : List Value), W.heap.size = w.heap.size + 2 → ∀ j u, l[j]? = some u → (W.alloc (.cells l.toArray 5)).cell? ((⟨w.heap.size + 2, 0, none⟩ : Addr).add j) = some u) := by
    intro W l hW
    rw [← hW]
    exact cells_new W l _
  go_enter Try.func23, Try.ntmps23
  go_wp2_with (at_builtin; refine wpList_append_own _ rfl _ _ 24 rfl w.heap.size 5 i0 (.int .u8 0) 1 1 Try.underlying24 hi hz0 hz1 hz2 rfl (by decide) _ _ _ rfl (World.ownsRow.alloc OW0.out _) ⟨w.heap.size + 2, 0, none⟩ 2 2 [.int .u8 ((k / 256 : Nat) : Int), .int .u8 ((k % 256 : Nat) : Int)] rfl rfl (HN.out _ [.int .u8 ((k / 256 : Nat) : Int), .int .u8 ((k % 256 : Nat) : Int)] (by simp)) (by simp [Value.oneCell']) (by unfold maxLen; omega) (by omega) (by simp; omega) ?_; intro v2 w2 ho2 hg2 _; have HO2 := veil ho2; have HL2 := veil ((HB0.out.alloc HB0.out.size _).grown hg2 (by simp; omega) (fun k hk => (OW0.out.lt k hk).1)); clear ho2 hg2)
  go_ret
  refine ⟨_, rfl, own_eq HO2.out (by simp [be_length]) ?_, HL2.out⟩
  simp [u8s, be]
  omega
set_option maxHeartbeats 2000000 in
theorem one5_ok (w : World) (a : Option Addr) (ca : Nat) (pr lv s : Nat) (hpr : pr < 256) (hlv : lv < 256) (hs : s < 256) :
    Calls Try.prog 23 #[.agg #[.int .i64 5, .int .i64 0, .int .u64 0, .int .i64 0, .slice a 0 ca, .int .u64 0, .int .u64 0, .int .i64 (pr : Int), .int .u8 (lv : Int), .int .i64 ((s : Int) - 1)]] w fun e w' => ∃ v', e = .returned v' ∧ w'.ownsRow w.heap.size 5 1 v' ([5, pr, lv, s]).length (u8s ([5, pr, lv, s])) ∧ Below w.heap.size w w' := by
  obtain ⟨i0, hi, hz0, hz1, hz2⟩ := info_parts info_u8
  have HB0 : Hid (Below w.heap.size w ((w.alloc (.cells #[.int .i64 5, .int .i64 0, .int .u64 0, .int .i64 0, .slice a 0 ca, .int .u64 0, .int .u64 0, .int .i64 (pr : Int), .int .u8 (lv : Int), .int .i64 ((s : Int) - 1)] 39)).alloc (.cells #[.int .u8 5] 5))) := below_two w _ _ _ _
  have OW0 : Hid (((w.alloc (.cells #[.int .i64 5, .int .i64 0, .int .u64 0, .int .i64 0, .slice a 0 ca, .int .u64 0, .int .u64 0, .int .i64 (pr : Int), .int .u8 (lv : Int), .int .i64 ((s : Int) - 1)] 39)).alloc (.cells #[.int .u8 5] 5)).ownsRow w.heap.size 5 1 (.slice (some ⟨w.heap.size + 1, 0, none⟩) 1 1) 1 [.int .u8 5]) := lit_row_next w _ _ _
  have HN : Hid (∀ (W : World) (l : List Value), W.heap.size = w.heap.size + 2 → ∀ j u, l[j]? = some u → (W.alloc (.cells l.toArray 5)).cell? ((⟨w.heap.size + 2, 0, none⟩ : Addr).add j) = some u) := by
    intro W l hW
    rw [← hW]
    exact cells_new W l _
  go_enter Try.func23, Try.ntmps23
  go_wp2_with (at_builtin; refine wpList_append_own _ rfl _ _ 24 rfl w.heap.size 5 i0 (.int .u8 0) 1 1 Try.underlying24 hi hz0 hz1 hz2 rfl (by decide) _ _ _ rfl (World.ownsRow.alloc OW0.out _) ⟨w.heap.size + 2, 0, none⟩ 3 3 [.int .u8 (pr : Int), .int .u8 (lv : Int), .int .u8 (s : Int)] rfl rfl (HN.out _ [.int .u8 (pr : Int), .int .u8 (lv : Int), .int .u8 (s : Int)] (by simp)) (by simp [Value.oneCell']) (by unfold maxLen; omega) (by omega) (by simp; omega) ?_; intro v2 w2 ho2 hg2 _; have HO2 := veil ho2; have HL2 := veil ((HB0.out.alloc HB0.out.size _).grown hg2 (by simp; omega) (fun k hk => (OW0.out.lt k hk).1)); clear ho2 hg2)
  go_ret
  refine ⟨_, rfl, own_eq HO2.out (by simp) ?_, HL2.out⟩
  simp [u8s]
set_option maxHeartbeats 2000000 in
theorem one3_ok (w : World) (a : Option Addr) (ca : Nat) (code : List (Int × Int)) (hr : RtC code) (hc : Cod w a code) :
    Calls Try.prog 23 #[.agg #[.int .i64 3, .int .i64 0, .int .u64 0, .int .i64 0, .slice a code.length ca, .int .u64 0, .int .u64 0, .int .i64 0, .int .u8 0, .int .i64 0]] w fun e w' => ∃ v', e = .returned v' ∧ w'.ownsRow w.heap.size 5 1 v' (3 :: encC code).length (u8s (3 :: encC code)) ∧ Below w.heap.size w w' := by
  obtain ⟨i0, hi, hz0, hz1, hz2⟩ := info_parts info_u8
  have HB0 : Hid (Below w.heap.size w ((w.alloc (.cells #[.int .i64 3, .int .i64 0, .int .u64 0, .int .i64 0, .slice a code.length ca, .int .u64 0, .int .u64 0, .int .i64 0, .int .u8 0, .int .i64 0] 39)).alloc (.cells #[.int .u8 3] 5))) := below_two w _ _ _ _
  have OW0 : Hid (((w.alloc (.cells #[.int .i64 3, .int .i64 0, .int .u64 0, .int .i64 0, .slice a code.length ca, .int .u64 0, .int .u64 0, .int .i64 0, .int .u8 0, .int .i64 0] 39)).alloc (.cells #[.int .u8 3] 5)).ownsRow w.heap.size 5 1 (.slice (some ⟨w.heap.size + 1, 0, none⟩) 1 1) 1 [.int .u8 3]) := lit_row_next w _ _ _
  have hlen := (rtc_facts hr).2.1
  have HE : Hid (∀ W, Below w.heap.size w W → Calls Try.prog 37 #[.slice a code.length ca] W fun e w' => ∃ g cap, e = .returned (.tuple #[.slice (some ⟨g, 0, none⟩) (1 + 4 * code.length) cap, .int .i64 0]) ∧ (∀ j u, (u8s (encC code))[j]? = some u → w'.cell? ((⟨g, 0, none⟩ : Addr).add j) = some u) ∧ Below W.heap.size W w') := by
    intro W hbW
    refine (rencode_yes W a code.length ca (by omega) (cO code) (cR code) (hc.below hbW) hr).mono fun e w' hh => ?_
    obtain ⟨v', he, hrow, hbel⟩ := hh
    rw [encN_enc _ (fun i hi => by have := (rtc_facts hr).2.2 i hi; omega)] at hrow
    rcases hrow.2 with ⟨_, h0⟩ | ⟨g, cap, cur, rfl, _⟩
    · omega
    · exact ⟨g, cap, he, hrow.cells rfl, hbel⟩
  have HLE : Hid ((u8s (encC code)).length = (1 + 4 * code.length) * 1) := by
    show _ = _
    rw [u8s_length, encC_length]
    omega
  clear hc
  go_enter Try.func23, Try.ntmps23
  go_wp2_with (first
    | (at_builtin; refine wpList_append_own _ rfl _ _ 24 rfl w.heap.size 5 i0 (.int .u8 0) 1 1 Try.underlying24 hi hz0 hz1 hz2 rfl (by decide) _ _ _ rfl (HO2.out) ⟨g, 0, none⟩ (1 + 4 * code.length) cap (u8s (encC code)) rfl HLE.out HN2.out (u8s_one _) (by unfold maxLen; omega) (by omega) (HL2.out.size) ?_; intro v3 w3 ho3 hg3 _; have HO3 := veil ho3; have HL3 := veil (HL2.out.grown hg3 HL2.out.size (fun k hk => (HO2.out.lt k hk).1)); clear ho3 hg3)
    | (go_at_call 37; refine (HE.out _ HB0.out).mono ?_; rintro e w2 ⟨g, cap, rfl, hn2, hl2⟩; have HN2 := veil hn2; have HL2 := veil (HB0.out.trans (hl2.mono HB0.out.size)); have HO2 := veil (row_below OW0.out hl2); clear hn2 hl2))
  go_ret
  refine ⟨_, rfl, own_eq HO3.out (by simp [encC_length]; omega) ?_, HL3.out⟩
  simp [u8s]
theorem one_ok (w : World) (x : En) (a : Option Addr) (ca : Nat) (hr : RightE x) (hw : WfE x) (hc : Cod w a x.code) :
    Calls Try.prog 23 #[.agg #[.int .i64 x.d, .int .i64 x.p, .int .u64 (x.dr : Int), .int .i64 x.n, .slice a x.code.length ca, .int .u64 (x.bu : Int), .int .u64 (x.pe : Int), .int .i64 x.pr, .int .u8 (x.lv : Int), .int .i64 x.sv]] w fun e w' => ∃ v', e = .returned v' ∧ w'.ownsRow w.heap.size 5 1 v' (bytes x).length (u8s (bytes x)) ∧ Below w.heap.size w w' := by
  obtain ⟨w1, w2, w3, w4⟩ := hw
  obtain ⟨d, p, dr, nn, code, bu, pe, pr, lv, sv⟩ := x
  simp only at w1 w2 w3 w4 hc
  rcases hr with ⟨e, h1, h2⟩ | ⟨e, h1, h2⟩ | ⟨e, h1⟩ | e | ⟨e, h1, h2, h3, h4⟩
  · simp only [mkStep, En.mk.injEq] at e h1 h2
    obtain ⟨rfl, -, -, rfl, rfl, rfl, rfl, rfl, rfl, rfl⟩ := e
    obtain ⟨p, rfl⟩ := Int.eq_ofNat_of_zero_le h1
    exact one1_ok w a ca p dr (by omega) w1
  · simp only [mkTick, En.mk.injEq] at e h1 h2
    obtain ⟨rfl, rfl, rfl, -, rfl, rfl, rfl, rfl, rfl, rfl⟩ := e
    obtain ⟨k, rfl⟩ := Int.eq_ofNat_of_zero_le (show 0 ≤ nn by omega)
    exact one2_ok w a ca k (by omega)
  · simp only [mkLoad, En.mk.injEq] at e h1
    obtain ⟨rfl, rfl, rfl, rfl, -, rfl, rfl, rfl, rfl, rfl⟩ := e
    exact one3_ok w a ca code h1 hc
  · simp only [mkAdmit, En.mk.injEq] at e
    obtain ⟨rfl, rfl, rfl, rfl, rfl, -, -, rfl, rfl, rfl⟩ := e
    exact one4_ok w a ca bu pe w2 w3
  · simp only [mkStart, En.mk.injEq] at e h1 h2 h3 h4
    obtain ⟨rfl, rfl, rfl, rfl, rfl, rfl, rfl, -, -, -⟩ := e
    obtain ⟨pr, rfl⟩ := Int.eq_ofNat_of_zero_le h1
    obtain ⟨s, hs⟩ : ∃ s : Nat, sv = (s : Int) - 1 := ⟨(sv + 1).toNat, by omega⟩
    subst hs
    have q := one5_ok w a ca pr lv s (by omega) w4 (by omega)
    have e : bytes ⟨5, 0, 0, 0, [], 0, 0, (pr : Int), lv, (s : Int) - 1⟩ = [5, pr, lv, s] := by
      show [5, ((pr : Int)).toNat, lv, ((s : Int) - 1 + 1).toNat] = _
      rw [Int.toNat_natCast, show ((s : Int) - 1 + 1).toNat = s by omega]
    rw [e]
    exact q
end Go.Proofs.Ytnnpbbiiapipaaa
