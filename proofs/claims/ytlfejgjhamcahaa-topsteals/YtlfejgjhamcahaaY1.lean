/-
  A set of what is ready: how it lies in memory; New, and what its parts tell of an id.
-/
import Derived.Test.YtlfejgjhamcahaaMq
import Derived.Test.YtlfejgjhamcahaaMh
import Derived.Test.YtlfejgjhamcahaaMk
namespace Go.Proofs.Ytlfejgjhamcahaa
open Go.RowKit
attribute [local go_sem ↓] Go.wp_at_zero Go.wp_at_succ

theorem veil {p : Prop} (h : p) : Hid p := h
/-- The set at sb: its queue at qb, gq holds R, its heap at hb, gh holds L. -/
structure St (w : World) (sb qb gq hb gh n most turn : Nat) (R : List (Nat × Nat)) (L : List Ph.Item) : Prop where
  c0 : w.cell? ⟨sb, 0, none⟩ = some (.pointer (some ⟨qb, 0, none⟩))
  c1 : w.cell? ⟨sb, 1, none⟩ = some (.pointer (some ⟨hb, 0, none⟩))
  c2 : w.cell? ⟨sb, 2, none⟩ = some (.int .i64 (n : Int))
  c3 : w.cell? ⟨sb, 3, none⟩ = some (.int .i64 (most : Int))
  c4 : w.cell? ⟨sb, 4, none⟩ = some (.int .u64 (turn : Int))
  fz : ∀ o, w.frozen? ⟨sb, o, none⟩ = false
  q : Bq.IsQ w qb gq n R
  h : Ph.IsH w hb gh n L
  ne : sb ≠ qb ∧ sb ≠ gq ∧ sb ≠ hb ∧ sb ≠ gh ∧ qb ≠ hb ∧ qb ≠ gh ∧ gq ≠ hb ∧ gq ≠ gh
section
variable {w w' : World} {sb qb gq hb gh n most turn : Nat} {R : List (Nat × Nat)} {L : List Ph.Item}
theorem St.lt (h : St w sb qb gq hb gh n most turn R L) : sb < w.heap.size := World.block_lt_of_cell? w ⟨sb, 0, none⟩ h.c0
theorem St.below (h : St w sb qb gq hb gh n most turn R L) (hw : Below w.heap.size w w') : St w' sb qb gq hb gh n most turn R L :=
  ⟨(hw.cell (p := ⟨sb, 0, none⟩) h.lt).trans h.c0, (hw.cell (p := ⟨sb, 1, none⟩) h.lt).trans h.c1, (hw.cell (p := ⟨sb, 2, none⟩) h.lt).trans h.c2, (hw.cell (p := ⟨sb, 3, none⟩) h.lt).trans h.c3, (hw.cell (p := ⟨sb, 4, none⟩) h.lt).trans h.c4, fun o => (World.frozen?_of_block (a := ⟨sb, o, none⟩) (hw.block sb h.lt)).trans (h.fz o), h.q.below hw, h.h.below hw, h.ne⟩
end

set_option maxHeartbeats 1000000 in
theorem snew_ok (n most : Nat) (w : World) (h1 : 1 ≤ n) (h2 : n ≤ 1024) (h3 : 1 ≤ most) (h4 : most ≤ n) :
    Calls Try.prog 60 #[.int .i64 n, .int .i64 most] w fun e w' => ∃ sb qb gq hb gh, e = .returned (.pointer (some ⟨sb, 0, none⟩)) ∧ w.heap.size ≤ sb ∧ w.heap.size ≤ qb ∧ w.heap.size ≤ gq ∧ w.heap.size ≤ hb ∧ w.heap.size ≤ gh ∧ St w' sb qb gq hb gh n most 0 [] [] ∧ Below w.heap.size w w' := by
  have HQ := veil (Bq.new_ok n w h1 h2)
  have HH := veil (fun W => Ph.hnew_ok n W h1 h2)
  go_enter Try.func60, Try.ntmps60
  go_wp2_with (first
    | (go_at_call 85; refine (HQ.out).mono ?_; rintro e w1 ⟨rfl, hq, hb⟩; have HQ1 := veil hq; have HB1 := veil hb; clear hq hb)
    | (go_at_call 86; refine (HH.out _).mono ?_; rintro e w2 ⟨rfl, hq, hb⟩; have HH2 := veil hq; have HB2 := veil hb; clear hq hb))
  have HX : Hid (St (w2.alloc (.cells #[.pointer (some ⟨w.heap.size + 1, 0, none⟩), .pointer (some ⟨w1.heap.size + 1, 0, none⟩), .int .i64 (n : Int), .int .i64 (most : Int), .int .u64 0] 99)) w2.heap.size (w.heap.size + 1) w.heap.size (w1.heap.size + 1) w1.heap.size n most 0 [] []) := by
    have q1 := HQ1.out.below HB2.out
    have q2 := q1.below ((Below.refl _ _).alloc (Nat.le_refl _) (.cells #[.pointer (some ⟨w.heap.size + 1, 0, none⟩), .pointer (some ⟨w1.heap.size + 1, 0, none⟩), .int .i64 (n : Int), .int .i64 (most : Int), .int .u64 0] 99))
    have q3 := HH2.out.below ((Below.refl _ _).alloc (Nat.le_refl _) (.cells #[.pointer (some ⟨w.heap.size + 1, 0, none⟩), .pointer (some ⟨w1.heap.size + 1, 0, none⟩), .int .i64 (n : Int), .int .i64 (most : Int), .int .u64 0] 99))
    have b1 := HQ1.out.blocks
    have b2 := HH2.out.blocks
    have s1 := HB1.out.size
    have s2 := HB2.out.size
    exact ⟨by rw [Ph.cell_new]; rfl, by rw [Ph.cell_new]; rfl, by rw [Ph.cell_new]; rfl, by rw [Ph.cell_new]; rfl, by rw [Ph.cell_new]; rfl, fun o => Ph.frozen_new _ _ _ _, q2, q3, by omega⟩
  have HY : Hid (Below w.heap.size w (w2.alloc (.cells #[.pointer (some ⟨w.heap.size + 1, 0, none⟩), .pointer (some ⟨w1.heap.size + 1, 0, none⟩), .int .i64 (n : Int), .int .i64 (most : Int), .int .u64 0] 99))) := (HB1.out.trans (HB2.out.mono HB1.out.size)).alloc (Nat.le_trans HB1.out.size HB2.out.size) _
  have s1 := HB1.out.size
  have s2 := HB2.out.size
  go_ret
  exact ⟨_, _, _, _, _, rfl, by omega, by omega, by omega, by omega, by omega, HX.out, HY.out⟩

/-! What the parts tell of an id. -/
section
variable {w : World} {sb qb gq hb gh n most turn : Nat} {R : List (Nat × Nat)} {L : List Ph.Item}
set_option maxHeartbeats 1000000 in
theorem pkey_none (h : St w sb qb gq hb gh n most turn R L) (id : Nat) (hi : id < n) (hr : ∀ it ∈ R, it.1 ≠ id) (hl : ∀ it ∈ L, it.1 ≠ id) :
    Calls Try.prog 68 #[.agg #[.pointer (some ⟨qb, 0, none⟩), .pointer (some ⟨hb, 0, none⟩)], .int .i64 (id : Int)] w fun e w' => e = .returned (.tuple #[.agg #[.bool false, .int .u64 0, .int .u8 0], .bool false]) ∧ Below w.heap.size w w' := by
  have hA := ((Below.refl w.heap.size w).alloc (Nat.le_refl _) (.cells #[.pointer (some ⟨qb, 0, none⟩), .pointer (some ⟨hb, 0, none⟩)] 97)).alloc (by simp) (.cells #[.bool false, .int .u64 0, .int .u8 0] 25)
  have HA := veil hA
  have HS := veil (h.below hA)
  have hz : ((w.alloc (.cells #[.pointer (some ⟨qb, 0, none⟩), .pointer (some ⟨hb, 0, none⟩)] 97)).alloc (.cells #[.bool false, .int .u64 0, .int .u8 0] 25)).heap.size = w.heap.size + 2 := by simp
  have HZ := veil hz
  have c1 : ((w.alloc (.cells #[.pointer (some ⟨qb, 0, none⟩), .pointer (some ⟨hb, 0, none⟩)] 97)).alloc (.cells #[.bool false, .int .u64 0, .int .u8 0] 25)).cell? ⟨w.heap.size, 1, none⟩ = some (.pointer (some ⟨hb, 0, none⟩)) := by
    rw [World.cell?_alloc_lt _ _ _ (by simp), Ph.cell_new]; rfl
  have CK : Hid (∀ i, ((w.alloc (.cells #[.pointer (some ⟨qb, 0, none⟩), .pointer (some ⟨hb, 0, none⟩)] 97)).alloc (.cells #[.bool false, .int .u64 0, .int .u8 0] 25)).cell? ⟨w.heap.size + 1, i, none⟩ = (#[.bool false, .int .u64 0, .int .u8 0] : Array Value)[i]?) := fun i => by
    rw [show w.heap.size + 1 = (w.alloc (.cells #[.pointer (some ⟨qb, 0, none⟩), .pointer (some ⟨hb, 0, none⟩)] 97)).heap.size by simp]; exact Ph.cell_new _ _ _ _
  have CF : Hid (∀ i, ((w.alloc (.cells #[.pointer (some ⟨qb, 0, none⟩), .pointer (some ⟨hb, 0, none⟩)] 97)).alloc (.cells #[.bool false, .int .u64 0, .int .u8 0] 25)).frozen? ⟨w.heap.size + 1, i, none⟩ = false) := fun i => by
    rw [show w.heap.size + 1 = (w.alloc (.cells #[.pointer (some ⟨qb, 0, none⟩), .pointer (some ⟨hb, 0, none⟩)] 97)).heap.size by simp]; exact Ph.frozen_new _ _ _ _
  have C1 := veil c1
  clear h hA hz c1
  go_enter Try.func68, Try.ntmps68
  go_wp2_with (first
    | (go_at_call 90; refine (Bq.level_none HS.out.q hi hr).mono ?_; rintro e w1 ⟨rfl, hb1⟩; have HS1 := veil (HS.out.below hb1); have HB1 := veil hb1; have x1 := (hb1.cell (p := ⟨w.heap.size, 1, none⟩) (by rw [HZ.out]; simp)).trans C1.out; clear hb1)
    | (go_at_call 91; refine (Ph.hget_none HS1.out.h id hi hl).mono ?_; rintro e w2 ⟨rfl, hb2⟩; have HB2 := veil (HB1.out.trans (hb2.mono HB1.out.size)); have s2 := HB2.out.size; have k0 := (HB2.out.cell (p := ⟨w.heap.size + 1, 0, none⟩) (by rw [HZ.out]; simp)).trans (CK.out 0); have k1 := (HB2.out.cell (p := ⟨w.heap.size + 1, 1, none⟩) (by rw [HZ.out]; simp)).trans (CK.out 1); have k2 := (HB2.out.cell (p := ⟨w.heap.size + 1, 2, none⟩) (by rw [HZ.out]; simp)).trans (CK.out 2); have f0 := (World.frozen?_of_block (a := ⟨w.heap.size + 1, 0, none⟩) (HB2.out.block (w.heap.size + 1) (by rw [HZ.out]; simp))).trans (CF.out 0); have f1 := (World.frozen?_of_block (a := ⟨w.heap.size + 1, 1, none⟩) (HB2.out.block (w.heap.size + 1) (by rw [HZ.out]; simp))).trans (CF.out 1); have f2 := (World.frozen?_of_block (a := ⟨w.heap.size + 1, 2, none⟩) (HB2.out.block (w.heap.size + 1) (by rw [HZ.out]; simp))).trans (CF.out 2); have hW := veil ((HA.out.trans (HB2.out.mono (by rw [HZ.out]; omega)))); clear hb2))
  refine bodyPost_ret (v := .tuple #[.agg #[.bool false, .int .u64 0, .int .u8 0], .bool false]) ?_ rfl ?_
  · simp [results, Try.f68, go_sem, k0, k1, k2]
  · refine ⟨rfl, ?_⟩
    exact ((hW.out.setCell (p := ⟨w.heap.size + 1, 0, none⟩) (by simp) _).setCell (p := ⟨w.heap.size + 1, 1, none⟩) (by simp) _).setCell (p := ⟨w.heap.size + 1, 2, none⟩) (by simp) _
end
end Go.Proofs.Ytlfejgjhamcahaa
