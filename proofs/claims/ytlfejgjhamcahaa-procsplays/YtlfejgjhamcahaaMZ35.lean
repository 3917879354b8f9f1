/-
  The walk of ProcsPlays.
-/
import Derived.Test.YtlfejgjhamcahaaNf
namespace Go.Proofs.Ytlfejgjhamcahaa
open Go.RowKit Go.Lib
set_option linter.unusedVariables false
attribute [local go_sem ↓] Go.wp_at_zero Go.wp_at_succ

set_option maxHeartbeats 8000000 in
set_option maxRecDepth 20000 in
theorem ProcsPlays_walk (m : Nat) (hm : m < 256) (a : Option Addr) (len cap : Nat) (L : Nat → Dp) (hlen : len < 9223372036854775808) (w : World) (hd : Dps w a len L) (x : Dp) (hx : x.ok) :
    Calls Try.prog 3 #[.int .u8 m, .slice a len cap, .agg #[.int .i64 x.k, .int .i64 x.p, .int .i64 x.i, .bool x.e, .int .u64 x.d, .int .u8 x.l, .int .u64 x.r]] w fun e w' => e = .returned (.bool true) ∧ Below w.heap.size w w' := by
  have hA : Below w.heap.size w (w.alloc (.cells #[.int .i64 x.k, .int .i64 x.p, .int .i64 x.i, .bool x.e, .int .u64 x.d, .int .u8 x.l, .int .u64 x.r] 27)) := (Below.refl _ _).alloc (Nat.le_refl _) _
  have HA := veil hA
  have HP := veil (play_ok (w.alloc (.cells #[.int .i64 x.k, .int .i64 x.p, .int .i64 x.i, .bool x.e, .int .u64 x.d, .int .u8 x.l, .int .u64 x.r] 27)) m hm a len cap hlen L (hd.below hA))
  have hblk : (w.alloc (.cells #[.int .i64 x.k, .int .i64 x.p, .int .i64 x.i, .bool x.e, .int .u64 x.d, .int .u8 x.l, .int .u64 x.r] 27)).heap[w.heap.size]? = some (.cells #[.int .i64 x.k, .int .i64 x.p, .int .i64 x.i, .bool x.e, .int .u64 x.d, .int .u8 x.l, .int .u64 x.r] 27 (0, 0)) := World.alloc_heap_new w _
  have HC : Hid (∀ W, Below (w.alloc (.cells #[.int .i64 x.k, .int .i64 x.p, .int .i64 x.i, .bool x.e, .int .u64 x.d, .int .u8 x.l, .int .u64 x.r] 27)).heap.size (w.alloc (.cells #[.int .i64 x.k, .int .i64 x.p, .int .i64 x.i, .bool x.e, .int .u64 x.d, .int .u8 x.l, .int .u64 x.r] 27)) W → W.cell? ⟨w.heap.size, 0, none⟩ = some (.int .i64 x.k) ∧ W.cell? ⟨w.heap.size, 1, none⟩ = some (.int .i64 x.p) ∧ W.cell? ⟨w.heap.size, 2, none⟩ = some (.int .i64 x.i) ∧ W.cell? ⟨w.heap.size, 3, none⟩ = some (.bool x.e) ∧ W.cell? ⟨w.heap.size, 4, none⟩ = some (.int .u64 x.d) ∧ W.cell? ⟨w.heap.size, 5, none⟩ = some (.int .u8 x.l) ∧ W.cell? ⟨w.heap.size, 6, none⟩ = some (.int .u64 x.r)) := fun W hW => by
    have hb := (hW.block _ (by simp)).trans hblk
    exact ⟨(blk_cell hb 0).1, (blk_cell hb 1).1, (blk_cell hb 2).1, (blk_cell hb 3).1, (blk_cell hb 4).1, (blk_cell hb 5).1, (blk_cell hb 6).1⟩
  clear hd hA hblk
  go_enter Try.func3, Try.ntmps3
  go_wp2_with (first
    | (go_at_call 14; refine (HP.out).mono ?_; rintro e w1 ⟨O, D, base, pb, rb, T, G, rfl, h1, h2, h3, ht, hB, hL⟩; have HB := veil hB; have HL := veil hL; clear hB hL)
    | (go_at_call 15; refine (live_procs _).mono ?_; rintro e w2 ⟨rfl, hb2⟩; have HB2 := veil (HB.out.below hb2); have HL2 := veil (HL.out.trans (hb2.mono HL.out.size)); obtain ⟨c0, c1, c2, c3, c4, c5, c6⟩ := HC.out _ HL2.out; clear hb2)
    | (go_at_call 16; refine (same_ok _ O D base pb rb _ _ _ T G HB2.out x hx).mono ?_; rintro e w3 ⟨rfl, hb3⟩; have HL3 := veil (HL2.out.trans (hb3.mono HL2.out.size)); clear hb3))
  go_ret
  exact ⟨rfl, HA.out.trans (HL3.out.mono HA.out.size)⟩
end Go.Proofs.Ytlfejgjhamcahaa
