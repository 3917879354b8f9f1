/- YtjlbmmiomfpgiaaGreatDoorGe: of the texts Y1 Y2 Y3 Y4 Y5 Y6 Y8 Y9 Y10 Y12 Y13 Y14 what is wanted. -/
import Derived.Test.YtjlbmmiomfpgiaaGreatDoorGa
import Derived.Test.YtjlbmmiomfpgiaaGreatDoorGb
import Derived.Test.YtjlbmmiomfpgiaaGreatDoorGc
import Derived.OwnWalk
import Derived.Deep.RegionHeld3
import Derived.Deep.DrawnRows
import Derived.Test.YtjlbmmiomfpgiaaGreatDoorGd
namespace Go.Proofs.YtjlbmmiomfpgiaaGreatDoor
set_option maxRecDepth 100000
open Go.RowKit
attribute [local go_sem ↓] Go.wp_at_zero Go.wp_at_succ
theorem veil {p : Prop} (h : p) : Hid p := h
structure St (w : World) (sb qb gq hb gh n most turn : Nat) (R : List (Nat × Nat)) (L : List Ph.Item) : Prop where
 c0 : w.cell? ⟨sb, 0, none⟩ = some (.pointer (some ⟨qb, 0, none⟩))
 c1 : w.cell? ⟨sb, 1, none⟩ = some (.pointer (some ⟨hb, 0, none⟩))
 c2 : w.cell? ⟨sb, 2, none⟩ = some (.int .i64 (n : Int))
 c3 : w.cell? ⟨sb, 3, none⟩ = some (.int .i64 (most : Int))
 c4 : w.cell? ⟨sb, 4, none⟩ = some (.int .u64 (turn : Int))
 fz : ∀ o, w.frozen? ⟨sb, o, none⟩ = false
 q : Bq.IsQ w qb gq n R
 h : Ph.IsH w hb gh n L
 ne : sb ≠ qb ∧ sb ≠ gq ∧ sb ≠ hb ∧ sb ≠ gh ∧ qb ≠ hb ∧ qb ≠ gh ∧ gq ≠ hb ∧ gq ≠ gh
section
variable {w w' : World} {sb qb gq hb gh n most turn : Nat} {R : List (Nat × Nat)} {L : List Ph.Item}
theorem St.lt (h : St w sb qb gq hb gh n most turn R L) : sb < w.heap.size := World.block_lt_of_cell? w ⟨sb, 0, none⟩ h.c0
theorem St.below (h : St w sb qb gq hb gh n most turn R L) (hw : Below w.heap.size w w') : St w' sb qb gq hb gh n most turn R L :=
 ⟨(hw.cell (p := ⟨sb, 0, none⟩) h.lt).trans h.c0, (hw.cell (p := ⟨sb, 1, none⟩) h.lt).trans h.c1, (hw.cell (p := ⟨sb, 2, none⟩) h.lt).trans h.c2, (hw.cell (p := ⟨sb, 3, none⟩) h.lt).trans h.c3, (hw.cell (p := ⟨sb, 4, none⟩) h.lt).trans h.c4, fun o => (World.frozen?_of_block (a := ⟨sb, o, none⟩) (hw.block sb h.lt)).trans (h.fz o), h.q.below hw, h.h.below hw, h.ne⟩
end
set_option maxHeartbeats 1000000 in
theorem snew_ok (n most : Nat) (w : World) (h1 : 1 ≤ n) (h2 : n ≤ 1024) (h3 : 1 ≤ most) (h4 : most ≤ n) :
  Calls Tryz.prog 68 #[.int .i64 n, .int .i64 most] w fun e w' => ∃ sb qb gq hb gh, e = .returned (.pointer (some ⟨sb, 0, none⟩)) ∧ w.heap.size ≤ sb ∧ w.heap.size ≤ qb ∧ w.heap.size ≤ gq ∧ w.heap.size ≤ hb ∧ w.heap.size ≤ gh ∧ St w' sb qb gq hb gh n most 0 [] [] ∧ Below w.heap.size w w' := by
 have HQ := veil (Bq.new_ok n w h1 h2)
 have HH := veil (fun W => Ph.hnew_ok n W h1 h2)
 go_enter Tryz.func68, Tryz.ntmps68
 go_wp2_with (first
  | (go_at_call 114; refine (HQ.out).mono ?_; rintro e w1 ⟨rfl, hq, hb⟩; have HQ1 := veil hq; have HB1 := veil hb; clear hq hb)
  | (go_at_call 115; refine (HH.out _).mono ?_; rintro e w2 ⟨rfl, hq, hb⟩; have HH2 := veil hq; have HB2 := veil hb; clear hq hb))
 have HX : Hid (St (w2.alloc (.cells #[.pointer (some ⟨w.heap.size + 1, 0, none⟩), .pointer (some ⟨w1.heap.size + 1, 0, none⟩), .int .i64 (n : Int), .int .i64 (most : Int), .int .u64 0] 218)) w2.heap.size (w.heap.size + 1) w.heap.size (w1.heap.size + 1) w1.heap.size n most 0 [] []) := by
  have q1 := HQ1.out.below HB2.out
  have q2 := q1.below ((Below.refl _ _).alloc (Nat.le_refl _) (.cells #[.pointer (some ⟨w.heap.size + 1, 0, none⟩), .pointer (some ⟨w1.heap.size + 1, 0, none⟩), .int .i64 (n : Int), .int .i64 (most : Int), .int .u64 0] 218))
  have q3 := HH2.out.below ((Below.refl _ _).alloc (Nat.le_refl _) (.cells #[.pointer (some ⟨w.heap.size + 1, 0, none⟩), .pointer (some ⟨w1.heap.size + 1, 0, none⟩), .int .i64 (n : Int), .int .i64 (most : Int), .int .u64 0] 218))
  have b1 := HQ1.out.blocks
  have b2 := HH2.out.blocks
  have s1 := HB1.out.size
  have s2 := HB2.out.size
  exact ⟨by rw [Ph.cell_new]; rfl, by rw [Ph.cell_new]; rfl, by rw [Ph.cell_new]; rfl, by rw [Ph.cell_new]; rfl, by rw [Ph.cell_new]; rfl, fun o => Ph.frozen_new _ _ _ _, q2, q3, by omega⟩
 have HY : Hid (Below w.heap.size w (w2.alloc (.cells #[.pointer (some ⟨w.heap.size + 1, 0, none⟩), .pointer (some ⟨w1.heap.size + 1, 0, none⟩), .int .i64 (n : Int), .int .i64 (most : Int), .int .u64 0] 218))) := (HB1.out.trans (HB2.out.mono HB1.out.size)).alloc (Nat.le_trans HB1.out.size HB2.out.size) _
 have s1 := HB1.out.size
 have s2 := HB2.out.size
 go_ret
 exact ⟨_, _, _, _, _, rfl, by omega, by omega, by omega, by omega, by omega, HX.out, HY.out⟩
section
variable {w : World} {sb qb gq hb gh n most turn : Nat} {R : List (Nat × Nat)} {L : List Ph.Item}
set_option maxHeartbeats 1000000 in
theorem pkey_none (h : St w sb qb gq hb gh n most turn R L) (id : Nat) (hi : id < n) (hr : ∀ it ∈ R, it.1 ≠ id) (hl : ∀ it ∈ L, it.1 ≠ id) :
  Calls Tryz.prog 165 #[.agg #[.pointer (some ⟨qb, 0, none⟩), .pointer (some ⟨hb, 0, none⟩)], .int .i64 (id : Int)] w fun e w' => e = .returned (.tuple #[.agg #[.bool false, .int .u64 0, .int .u8 0], .bool false]) ∧ Below w.heap.size w w' := by
 have hA := ((Below.refl w.heap.size w).alloc (Nat.le_refl _) (.cells #[.pointer (some ⟨qb, 0, none⟩), .pointer (some ⟨hb, 0, none⟩)] 216)).alloc (by simp) (.cells #[.bool false, .int .u64 0, .int .u8 0] 67)
 have HA := veil hA
 have HS := veil (h.below hA)
 have hz : ((w.alloc (.cells #[.pointer (some ⟨qb, 0, none⟩), .pointer (some ⟨hb, 0, none⟩)] 216)).alloc (.cells #[.bool false, .int .u64 0, .int .u8 0] 67)).heap.size = w.heap.size + 2 := by simp
 have HZ := veil hz
 have c1 : ((w.alloc (.cells #[.pointer (some ⟨qb, 0, none⟩), .pointer (some ⟨hb, 0, none⟩)] 216)).alloc (.cells #[.bool false, .int .u64 0, .int .u8 0] 67)).cell? ⟨w.heap.size, 1, none⟩ = some (.pointer (some ⟨hb, 0, none⟩)) := by
  rw [World.cell?_alloc_lt _ _ _ (by simp), Ph.cell_new]; rfl
 have CK : Hid (∀ i, ((w.alloc (.cells #[.pointer (some ⟨qb, 0, none⟩), .pointer (some ⟨hb, 0, none⟩)] 216)).alloc (.cells #[.bool false, .int .u64 0, .int .u8 0] 67)).cell? ⟨w.heap.size + 1, i, none⟩ = (#[.bool false, .int .u64 0, .int .u8 0] : Array Value)[i]?) := fun i => by
  rw [show w.heap.size + 1 = (w.alloc (.cells #[.pointer (some ⟨qb, 0, none⟩), .pointer (some ⟨hb, 0, none⟩)] 216)).heap.size by simp]; exact Ph.cell_new _ _ _ _
 have CF : Hid (∀ i, ((w.alloc (.cells #[.pointer (some ⟨qb, 0, none⟩), .pointer (some ⟨hb, 0, none⟩)] 216)).alloc (.cells #[.bool false, .int .u64 0, .int .u8 0] 67)).frozen? ⟨w.heap.size + 1, i, none⟩ = false) := fun i => by
  rw [show w.heap.size + 1 = (w.alloc (.cells #[.pointer (some ⟨qb, 0, none⟩), .pointer (some ⟨hb, 0, none⟩)] 216)).heap.size by simp]; exact Ph.frozen_new _ _ _ _
 have C1 := veil c1
 clear h hA hz c1
 go_enter Tryz.func165, Tryz.ntmps165
 go_wp2_with (first
  | (go_at_call 191; refine (Bq.level_none HS.out.q hi hr).mono ?_; rintro e w1 ⟨rfl, hb1⟩; have HS1 := veil (HS.out.below hb1); have HB1 := veil hb1; have x1 := (hb1.cell (p := ⟨w.heap.size, 1, none⟩) (by rw [HZ.out]; simp)).trans C1.out; clear hb1)
  | (go_at_call 192; refine (Ph.hget_none HS1.out.h id hi hl).mono ?_; rintro e w2 ⟨rfl, hb2⟩; have HB2 := veil (HB1.out.trans (hb2.mono HB1.out.size)); have s2 := HB2.out.size; have k0 := (HB2.out.cell (p := ⟨w.heap.size + 1, 0, none⟩) (by rw [HZ.out]; simp)).trans (CK.out 0); have k1 := (HB2.out.cell (p := ⟨w.heap.size + 1, 1, none⟩) (by rw [HZ.out]; simp)).trans (CK.out 1); have k2 := (HB2.out.cell (p := ⟨w.heap.size + 1, 2, none⟩) (by rw [HZ.out]; simp)).trans (CK.out 2); have f0 := (World.frozen?_of_block (a := ⟨w.heap.size + 1, 0, none⟩) (HB2.out.block (w.heap.size + 1) (by rw [HZ.out]; simp))).trans (CF.out 0); have f1 := (World.frozen?_of_block (a := ⟨w.heap.size + 1, 1, none⟩) (HB2.out.block (w.heap.size + 1) (by rw [HZ.out]; simp))).trans (CF.out 1); have f2 := (World.frozen?_of_block (a := ⟨w.heap.size + 1, 2, none⟩) (HB2.out.block (w.heap.size + 1) (by rw [HZ.out]; simp))).trans (CF.out 2); have hW := veil ((HA.out.trans (HB2.out.mono (by rw [HZ.out]; omega)))); clear hb2))
 refine bodyPost_ret (v := .tuple #[.agg #[.bool false, .int .u64 0, .int .u8 0], .bool false]) ?_ rfl ?_
 ·simp [results, Tryz.f165, go_sem, k0, k1, k2]
 ·refine ⟨rfl, ?_⟩
  exact ((hW.out.setCell (p := ⟨w.heap.size + 1, 0, none⟩) (by simp) _).setCell (p := ⟨w.heap.size + 1, 1, none⟩) (by simp) _).setCell (p := ⟨w.heap.size + 1, 2, none⟩) (by simp) _
end
end Go.Proofs.YtjlbmmiomfpgiaaGreatDoor
namespace Go.Proofs.YtjlbmmiomfpgiaaGreatDoor
set_option maxRecDepth 100000
open Go.RowKit
attribute [local go_sem ↓] Go.wp_at_zero Go.wp_at_succ
structure Fr (S : Nat → Prop) (w w' : World) : Prop where
 os : w'.os = w.os
 tape : w'.tape = w.tape
 output : w'.output = w.output
 size : w.heap.size ≤ w'.heap.size
 block : ∀ k, k < w.heap.size → ¬ S k → w'.heap[k]? = w.heap[k]?
section
variable {S S' : Nat → Prop} {w w' w'' : World}
theorem Fr.refl (S : Nat → Prop) (w : World) : Fr S w w := ⟨rfl, rfl, rfl, Nat.le_refl _, fun _ _ _ => rfl⟩
theorem Fr.wide (h : Fr S w w') (hs : ∀ k, k < w.heap.size → S k → S' k) : Fr S' w w' := ⟨h.os, h.tape, h.output, h.size, fun k hk hn => h.block k hk (fun q => hn (hs k hk q))⟩
theorem Fr.trans (h : Fr S w w') (h' : Fr S w' w'') : Fr S w w'' :=
 ⟨h'.os.trans h.os, h'.tape.trans h.tape, h'.output.trans h.output, Nat.le_trans h.size h'.size, fun k hk hn => (h'.block k (Nat.lt_of_lt_of_le hk h.size) hn).trans (h.block k hk hn)⟩
theorem Fr.alloc (h : Fr S w w') (o : Obj) : Fr S w (w'.alloc o) :=
 ⟨h.os, h.tape, h.output, Nat.le_trans h.size (by simp), fun k hk hn => (Below.heap_alloc _ _ _ (Nat.lt_of_lt_of_le hk h.size)).trans (h.block k hk hn)⟩
theorem Fr.setCell (h : Fr S w w') {a : Addr} (hb : S a.block) (u : Value) : Fr S w (w'.setCell a u) :=
 ⟨h.os, h.tape, h.output, by simpa using h.size, fun k hk hn => (Below.heap_setCell _ _ _ _ (fun e => hn (by rw [e]; exact hb))).trans (h.block k hk hn)⟩
theorem Fr.drewN (h : Fr S w w') (q : Nat) : Fr S w (w'.drewN q) := ⟨h.os, h.tape, h.output, h.size, h.block⟩
theorem Fr.cell (h : Fr S w w') {a : Addr} (hk : a.block < w.heap.size) (hn : ¬ S a.block) : w'.cell? a = w.cell? a := World.cell?_of_block (h.block _ hk hn)
theorem Fr.frozen (h : Fr S w w') {a : Addr} (hk : a.block < w.heap.size) (hn : ¬ S a.block) : w'.frozen? a = w.frozen? a := World.frozen?_of_block (h.block _ hk hn)
theorem Fr.of_below' (h : Below w.heap.size w w') : Fr S w w' := ⟨h.os, h.tape, h.output, h.size, fun k hk _ => h.block k hk⟩
theorem Fr.below {B : Nat} (h : Fr S w w') (hb : B ≤ w.heap.size) (hs : ∀ k, S k → B ≤ k) : Below B w w' := ⟨h.os, h.tape, h.output, h.size, fun k hk => h.block k (by omega) (fun q => by have := hs k q; omega)⟩
end
theorem Fr.of_q {b g : Nat} {w w' : World} (h : Bq.Only b g w w') : Fr (fun k => k = b ∨ k = g) w w' := ⟨h.os, h.tape, h.output, h.size, fun k hk hn => h.block k hk (fun e => hn (.inl e)) (fun e => hn (.inr e))⟩
theorem Fr.of_h {b g : Nat} {w w' : World} (h : Ph.Only b g w w') : Fr (fun k => k = b ∨ k = g) w w' := ⟨h.os, h.tape, h.output, h.size, fun k hk hn => h.block k hk (fun e => hn (.inl e)) (fun e => hn (.inr e))⟩
section
variable {w w' : World} {sb qb gq hb gh n most turn : Nat} {R R' : List (Nat × Nat)} {L L' : List Ph.Item}
theorem St.ofQ (h : St w sb qb gq hb gh n most turn R L) (hq : Bq.IsQ w' qb gq n R') (hf : Fr (fun k => k = qb ∨ k = gq) w w') : St w' sb qb gq hb gh n most turn R' L := by
 have hne := h.ne
 have k1 : ¬ (sb = qb ∨ sb = gq) := by omega
 have hbl := h.h.blocks
 exact ⟨(hf.cell (a := ⟨sb, 0, none⟩) h.lt k1).trans h.c0, (hf.cell (a := ⟨sb, 1, none⟩) h.lt k1).trans h.c1, (hf.cell (a := ⟨sb, 2, none⟩) h.lt k1).trans h.c2, (hf.cell (a := ⟨sb, 3, none⟩) h.lt k1).trans h.c3, (hf.cell (a := ⟨sb, 4, none⟩) h.lt k1).trans h.c4, fun o => (hf.frozen (a := ⟨sb, o, none⟩) h.lt k1).trans (h.fz o), hq, h.h.kept (hf.block hb hbl.1 (by omega)) (hf.block gh hbl.2.1 (by omega)), hne⟩
theorem St.ofH (h : St w sb qb gq hb gh n most turn R L) (hh : Ph.IsH w' hb gh n L') (hf : Fr (fun k => k = hb ∨ k = gh) w w') : St w' sb qb gq hb gh n most turn R L' := by
 have hne := h.ne
 have k1 : ¬ (sb = hb ∨ sb = gh) := by omega
 have hbl := h.q.blocks
 exact ⟨(hf.cell (a := ⟨sb, 0, none⟩) h.lt k1).trans h.c0, (hf.cell (a := ⟨sb, 1, none⟩) h.lt k1).trans h.c1, (hf.cell (a := ⟨sb, 2, none⟩) h.lt k1).trans h.c2, (hf.cell (a := ⟨sb, 3, none⟩) h.lt k1).trans h.c3, (hf.cell (a := ⟨sb, 4, none⟩) h.lt k1).trans h.c4, fun o => (hf.frozen (a := ⟨sb, o, none⟩) h.lt k1).trans (h.fz o), h.q.kept (hf.block qb hbl.1 (by omega)) (hf.block gq hbl.2.1 (by omega)), hh, hne⟩
set_option maxHeartbeats 1000000 in
theorem pkey_dead (h : St w sb qb gq hb gh n most turn R L) (id : Nat) (hi : id < n) (hr : ∀ it ∈ R, it.1 ≠ id) (d s : Nat) (hl : (id, d, s) ∈ L) :
  Calls Tryz.prog 165 #[.agg #[.pointer (some ⟨qb, 0, none⟩), .pointer (some ⟨hb, 0, none⟩)], .int .i64 (id : Int)] w fun e w' => e = .returned (.tuple #[.agg #[.bool true, .int .u64 (d : Int), .int .u8 0], .bool true]) ∧ Below w.heap.size w w' := by
 have hA := ((Below.refl w.heap.size w).alloc (Nat.le_refl _) (.cells #[.pointer (some ⟨qb, 0, none⟩), .pointer (some ⟨hb, 0, none⟩)] 216)).alloc (by simp) (.cells #[.bool false, .int .u64 0, .int .u8 0] 67)
 have HA := veil hA
 have HS := veil (h.below hA)
 have hz : ((w.alloc (.cells #[.pointer (some ⟨qb, 0, none⟩), .pointer (some ⟨hb, 0, none⟩)] 216)).alloc (.cells #[.bool false, .int .u64 0, .int .u8 0] 67)).heap.size = w.heap.size + 2 := by simp
 have HZ := veil hz
 have c1 : ((w.alloc (.cells #[.pointer (some ⟨qb, 0, none⟩), .pointer (some ⟨hb, 0, none⟩)] 216)).alloc (.cells #[.bool false, .int .u64 0, .int .u8 0] 67)).cell? ⟨w.heap.size, 1, none⟩ = some (.pointer (some ⟨hb, 0, none⟩)) := by
  rw [World.cell?_alloc_lt _ _ _ (by simp), Ph.cell_new]; rfl
 have CK : Hid (∀ i, ((w.alloc (.cells #[.pointer (some ⟨qb, 0, none⟩), .pointer (some ⟨hb, 0, none⟩)] 216)).alloc (.cells #[.bool false, .int .u64 0, .int .u8 0] 67)).cell? ⟨w.heap.size + 1, i, none⟩ = (#[.bool false, .int .u64 0, .int .u8 0] : Array Value)[i]?) := fun i => by
  rw [show w.heap.size + 1 = (w.alloc (.cells #[.pointer (some ⟨qb, 0, none⟩), .pointer (some ⟨hb, 0, none⟩)] 216)).heap.size by simp]; exact Ph.cell_new _ _ _ _
 have CF : Hid (∀ i, ((w.alloc (.cells #[.pointer (some ⟨qb, 0, none⟩), .pointer (some ⟨hb, 0, none⟩)] 216)).alloc (.cells #[.bool false, .int .u64 0, .int .u8 0] 67)).frozen? ⟨w.heap.size + 1, i, none⟩ = false) := fun i => by
  rw [show w.heap.size + 1 = (w.alloc (.cells #[.pointer (some ⟨qb, 0, none⟩), .pointer (some ⟨hb, 0, none⟩)] 216)).heap.size by simp]; exact Ph.frozen_new _ _ _ _
 have C1 := veil c1
 clear h hA hz c1
 go_enter Tryz.func165, Tryz.ntmps165
 go_wp2_with (first
  | (go_at_call 191; refine (Bq.level_none HS.out.q hi hr).mono ?_; rintro e w1 ⟨rfl, hb1⟩; have HS1 := veil (HS.out.below hb1); have HB1 := veil hb1; have x1 := (hb1.cell (p := ⟨w.heap.size, 1, none⟩) (by rw [HZ.out]; simp)).trans C1.out; clear hb1)
  | (go_at_call 192; refine (Ph.hget_some HS1.out.h id d s hl).mono ?_; rintro e w3 ⟨rfl, hb3⟩; have HB3 := veil (HB1.out.trans (hb3.mono HB1.out.size)); clear hb3)
  | (go_at_call 128; refine (Ke.dead_ok _ (d : Int)).mono ?_; rintro e w2 ⟨rfl, hb2⟩; have HB2 := veil (HB3.out.trans (hb2.mono HB3.out.size)); have s2 := HB2.out.size; have k0 := (HB2.out.cell (p := ⟨w.heap.size + 1, 0, none⟩) (by rw [HZ.out]; simp)).trans (CK.out 0); have k1 := (HB2.out.cell (p := ⟨w.heap.size + 1, 1, none⟩) (by rw [HZ.out]; simp)).trans (CK.out 1); have k2 := (HB2.out.cell (p := ⟨w.heap.size + 1, 2, none⟩) (by rw [HZ.out]; simp)).trans (CK.out 2); have f0 := (World.frozen?_of_block (a := ⟨w.heap.size + 1, 0, none⟩) (HB2.out.block (w.heap.size + 1) (by rw [HZ.out]; simp))).trans (CF.out 0); have f1 := (World.frozen?_of_block (a := ⟨w.heap.size + 1, 1, none⟩) (HB2.out.block (w.heap.size + 1) (by rw [HZ.out]; simp))).trans (CF.out 1); have f2 := (World.frozen?_of_block (a := ⟨w.heap.size + 1, 2, none⟩) (HB2.out.block (w.heap.size + 1) (by rw [HZ.out]; simp))).trans (CF.out 2); have hW := veil ((HA.out.trans (HB2.out.mono (by rw [HZ.out]; omega)))); clear hb2))
 refine bodyPost_ret (v := .tuple #[.agg #[.bool true, .int .u64 (d : Int), .int .u8 0], .bool true]) ?_ rfl ?_
 ·simp [results, Tryz.f165, go_sem, k0, k1, k2, Ke.deadK]
 ·refine ⟨rfl, ?_⟩
  exact ((hW.out.setCell (p := ⟨w.heap.size + 1, 0, none⟩) (by simp) _).setCell (p := ⟨w.heap.size + 1, 1, none⟩) (by simp) _).setCell (p := ⟨w.heap.size + 1, 2, none⟩) (by simp) _
set_option maxHeartbeats 1000000 in
theorem pput_level (h : St w sb qb gq hb gh n most turn R L) (id lv tn : Nat) (hi : id < n) (hlv : lv < 256) (hno : ∀ it ∈ R, it.1 ≠ id) :
  Calls Tryz.prog 195 #[.agg #[.pointer (some ⟨qb, 0, none⟩), .pointer (some ⟨hb, 0, none⟩)], .int .i64 (id : Int), .agg #[.bool false, .int .u64 0, .int .u8 (lv : Int)], .int .u64 (tn : Int)] w fun e w' => e = .returned (.tuple #[]) ∧ St w' sb qb gq hb gh n most turn (R ++ [(id, lv)]) L ∧ Fr (fun k => k = qb ∨ k = gq) w w' := by
 have hA := ((Below.refl w.heap.size w).alloc (Nat.le_refl _) (.cells #[.pointer (some ⟨qb, 0, none⟩), .pointer (some ⟨hb, 0, none⟩)] 216)).alloc (by simp) (.cells #[.bool false, .int .u64 0, .int .u8 (lv : Int)] 67)
 have HA := veil hA
 have HS := veil (h.below hA)
 clear h hA
 go_enter Tryz.func195, Tryz.ntmps195
 go_wp2_with (go_at_call 216; refine (Bq.push_ok _ qb gq n R id lv HS.out.q hi hlv hno).mono ?_; rintro e w1 ⟨rfl, hq, ho⟩; have HX := veil (HS.out.ofQ hq (Fr.of_q ho)); have HF := veil ((Fr.of_below' HA.out).trans (Fr.of_q ho)); clear hq ho)
 go_end0
 exact ⟨rfl, HX.out, HF.out⟩
set_option maxHeartbeats 1000000 in
theorem pput_dead (h : St w sb qb gq hb gh n most turn R L) (id d tn : Nat) (hi : id < n) (hno : ∀ it ∈ L, it.1 ≠ id) :
  Calls Tryz.prog 195 #[.agg #[.pointer (some ⟨qb, 0, none⟩), .pointer (some ⟨hb, 0, none⟩)], .int .i64 (id : Int), .agg #[.bool true, .int .u64 (d : Int), .int .u8 0], .int .u64 (tn : Int)] w fun e w' => e = .returned (.tuple #[]) ∧ St w' sb qb gq hb gh n most turn R (Ph.ins (id, d, tn) L) ∧ Fr (fun k => k = hb ∨ k = gh) w w' := by
 have hA := ((Below.refl w.heap.size w).alloc (Nat.le_refl _) (.cells #[.pointer (some ⟨qb, 0, none⟩), .pointer (some ⟨hb, 0, none⟩)] 216)).alloc (by simp) (.cells #[.bool true, .int .u64 (d : Int), .int .u8 0] 67)
 have HA := veil hA
 have HS := veil (h.below hA)
 clear h hA
 go_enter Tryz.func195, Tryz.ntmps195
 go_wp2_with (go_at_call 215; refine (Ph.hinsert_ok HS.out.h id d tn hi hno).mono ?_; rintro e w1 ⟨rfl, hq, ho⟩; have HX := veil (HS.out.ofH hq (Fr.of_h ho)); have HF := veil ((Fr.of_below' HA.out).trans (Fr.of_h ho)); clear hq ho)
 go_end0
 exact ⟨rfl, HX.out, HF.out⟩
end
end Go.Proofs.YtjlbmmiomfpgiaaGreatDoor
namespace Go.Proofs.YtjlbmmiomfpgiaaGreatDoor
set_option maxRecDepth 100000
open Go.RowKit
set_option linter.unusedVariables false
attribute [local go_sem ↓] Go.wp_at_zero Go.wp_at_succ
section
variable {w w' : World} {sb qb gq hb gh n most turn : Nat} {R R' : List (Nat × Nat)} {L L' : List Ph.Item}
theorem St.turned (h : St w sb qb gq hb gh n most turn R L) (t : Nat) : St (w.setCell ⟨sb, 4, none⟩ (.int .u64 (t : Int))) sb qb gq hb gh n most t R L := by
 have hf : Fr (fun k => k = sb) w (w.setCell ⟨sb, 4, none⟩ (.int .u64 (t : Int))) := Fr.setCell (S := fun k => k = sb) (a := ⟨sb, 4, none⟩) (Fr.refl _ _) rfl _
 have hne := h.ne
 have b1 := h.q.blocks
 have b2 := h.h.blocks
 exact ⟨by rw [Ph.set_other _ _ _ _ _ _ (by omega)]; exact h.c0, by rw [Ph.set_other _ _ _ _ _ _ (by omega)]; exact h.c1, by rw [Ph.set_other _ _ _ _ _ _ (by omega)]; exact h.c2, by rw [Ph.set_other _ _ _ _ _ _ (by omega)]; exact h.c3, Ph.set_same _ _ _ _ h.c4, fun o => by rw [World.frozen?_setCell]; exact h.fz o, h.q.kept (hf.block qb b1.1 (by omega)) (hf.block gq b1.2.1 (by omega)), h.h.kept (hf.block hb b2.1 (by omega)) (hf.block gh b2.2.1 (by omega)), hne⟩
set_option maxHeartbeats 1000000 in
theorem smay_ok (h : St w sb qb gq hb gh n most turn R L) (id : Nat) (hi : id < n) (k : Ke.K) (hk : Ke.rightK k = true) :
  Calls Tryz.prog 164 #[.pointer (some ⟨sb, 0, none⟩), .int .i64 (id : Int), .agg #[.bool k.e, .int .u64 k.d, .int .u8 k.l]] w fun e w' => e = .returned (.int .i64 0) ∧ Below w.heap.size w w' := by
 have c2 := h.c2
 have hlt := h.lt
 have hn := h.h.nle
 have hR : ∀ W, Calls Tryz.prog 126 #[.agg #[.bool k.e, .int .u64 k.d, .int .u8 k.l]] W fun e w' => e = .returned (.bool true) ∧ Below W.heap.size W w' := fun W => by
  have := Ke.right_ok W k
  rw [hk] at this
  exact this
 have HR := veil hR
 clear h hR hk
 go_enter Tryz.func164, Tryz.ntmps164
 go_wp2_with (go_at_call 126; refine (HR.out _).mono ?_; rintro e w1 ⟨rfl, hb1⟩; have HB := veil (((Below.refl w.heap.size w).alloc (Nat.le_refl _) _).trans (hb1.mono (by simp))); clear hb1)
 go_ret
 exact ⟨rfl, HB.out⟩
set_option maxHeartbeats 1000000 in
theorem slen_ok (h : St w sb qb gq hb gh n most turn R L) (hl : R.length + L.length ≤ 4096) :
  Calls Tryz.prog 153 #[.pointer (some ⟨sb, 0, none⟩)] w fun e w' => e = .returned (.int .i64 ((R.length + L.length : Nat) : Int)) ∧ Below w.heap.size w w' := by
 have c0 := h.c0
 have c1 := h.c1
 have HQ := veil h.q
 have HH := veil h.h
 have hwr : IntKind.i64.wrap ((R.length : Int) + (L.length : Int)) = (R.length : Int) + (L.length : Int) := by simp [IntKind.wrap, IntKind.bits, IntKind.signed]; omega
 clear h
 go_enter Tryz.func153, Tryz.ntmps153
 go_wp2
 go_region_held3 (fun w' => w'.cell? ⟨sb, 0, none⟩ = some (.pointer (some ⟨qb, 0, none⟩)) ∧ w'.cell? ⟨sb, 1, none⟩ = some (.pointer (some ⟨hb, 0, none⟩)))
  (first | go_keep)
  (first
   | (go_at_call 178; refine (Bq.len_is _ qb gq n R (HQ.out.kept (w' := w.drew) rfl rfl)).mono ?_; rintro e w1 ⟨rfl, hw⟩; replace hw := hw.symm; subst hw)
   | (go_at_call 179; refine (Ph.hlen_ok (HH.out.kept (w' := w.drew) rfl rfl)).mono ?_; rintro e w1 ⟨rfl, hw⟩; replace hw := hw.symm; subst hw))
 go_wp2
 go_ret
 exact ⟨by simp , (Below.refl _ _).drew⟩
set_option maxHeartbeats 1000000 in
theorem sput_level (h : St w sb qb gq hb gh n most turn R L) (ht : turn ≤ 1000000000) (id lv : Nat) (hi : id < n) (hlv : lv < 256) (hno : ∀ it ∈ R, it.1 ≠ id) :
  Calls Tryz.prog 167 #[.pointer (some ⟨sb, 0, none⟩), .int .i64 (id : Int), .agg #[.bool false, .int .u64 0, .int .u8 (lv : Int)]] w fun e w' => e = .returned (.tuple #[]) ∧ St w' sb qb gq hb gh n most (turn + 1) (R ++ [(id, lv)]) L ∧ Fr (fun k => k = sb ∨ k = qb ∨ k = gq) w w' := by
 have hA := (Below.refl w.heap.size w).alloc (Nat.le_refl _) (.cells #[.bool false, .int .u64 0, .int .u8 (lv : Int)] 67)
 have hS := h.below hA
 have c0 := hS.c0
 have c1 := hS.c1
 have c4 := hS.c4
 have HA := veil hA
 have HS := veil hS
 have HP := veil (fun q => pput_level (hS.below (below_drewN (Below.refl _ _) q)) id lv turn hi hlv hno)
 have HC : Hid (∀ i v, i < 3 → (#[.bool false, .int .u64 0, .int .u8 (lv : Int)] : Array Value)[i]? = some v → (w.alloc (.cells #[.bool false, .int .u64 0, .int .u8 (lv : Int)] 67)).cell? ⟨w.heap.size, i, none⟩ = some v) := fun i v _ e => by rw [Ph.cell_new]; exact e
 have NQ : Hid (¬ (w.heap.size = qb ∨ w.heap.size = gq)) := by have := h.q.blocks; unfold Hid; omega
 clear h hS hA
 go_enter Tryz.func167, Tryz.ntmps167
 go_wp2
 go_region_held3 (fun w' => w'.cell? ⟨sb, 0, none⟩ = some (.pointer (some ⟨qb, 0, none⟩)) ∧ w'.cell? ⟨sb, 1, none⟩ = some (.pointer (some ⟨hb, 0, none⟩)) ∧ w'.cell? ⟨sb, 4, none⟩ = some (.int .u64 (turn : Int)) ∧ w'.cell? ⟨w.heap.size, 0, none⟩ = some (.bool false) ∧ w'.cell? ⟨w.heap.size, 1, none⟩ = some (.int .u64 0) ∧ w'.cell? ⟨w.heap.size, 2, none⟩ = some (.int .u8 (lv : Int)))
  (first | exact HK.out | go_keep)
  ((go_at_call 195; refine (HP.out 1).mono ?_; rintro e w1 ⟨rfl, hx, hf⟩; have HX := veil hx; have HF := veil hf; have d4 := hx.c4; have f4 := hx.fz 4; have hsb := hx.lt; have HK := veil (And.intro hx.c0 (And.intro hx.c1 (And.intro hx.c4 (And.intro ((hf.cell (a := ⟨w.heap.size, 0, none⟩) (by simp) NQ.out).trans (HC.out 0 _ (by decide) rfl)) (And.intro ((hf.cell (a := ⟨w.heap.size, 1, none⟩) (by simp) NQ.out).trans (HC.out 1 _ (by decide) rfl)) ((hf.cell (a := ⟨w.heap.size, 2, none⟩) (by simp) NQ.out).trans (HC.out 2 _ (by decide) rfl))))))); clear hx hf))
 go_wp2
 go_end0
 exact ⟨rfl, HX.out.turned (turn + 1), Fr.setCell (S := fun k => k = sb ∨ k = qb ∨ k = gq) (a := ⟨sb, 4, none⟩) (((Fr.of_below' HA.out).drewN 1).trans (HF.out.wide (fun k _ q => .inr q))) (.inl rfl) _⟩
set_option maxHeartbeats 1000000 in
theorem sput_dead (h : St w sb qb gq hb gh n most turn R L) (ht : turn ≤ 1000000000) (id d : Nat) (hi : id < n) (hno : ∀ it ∈ L, it.1 ≠ id) :
  Calls Tryz.prog 167 #[.pointer (some ⟨sb, 0, none⟩), .int .i64 (id : Int), .agg #[.bool true, .int .u64 (d : Int), .int .u8 0]] w fun e w' => e = .returned (.tuple #[]) ∧ St w' sb qb gq hb gh n most (turn + 1) R (Ph.ins (id, d, turn) L) ∧ Fr (fun k => k = sb ∨ k = hb ∨ k = gh) w w' := by
 have hA := (Below.refl w.heap.size w).alloc (Nat.le_refl _) (.cells #[.bool true, .int .u64 (d : Int), .int .u8 0] 67)
 have hS := h.below hA
 have c0 := hS.c0
 have c1 := hS.c1
 have c4 := hS.c4
 have HA := veil hA
 have HS := veil hS
 have HP := veil (fun q => pput_dead (hS.below (below_drewN (Below.refl _ _) q)) id d turn hi hno)
 have HC : Hid (∀ i v, i < 3 → (#[.bool true, .int .u64 (d : Int), .int .u8 0] : Array Value)[i]? = some v → (w.alloc (.cells #[.bool true, .int .u64 (d : Int), .int .u8 0] 67)).cell? ⟨w.heap.size, i, none⟩ = some v) := fun i v _ e => by rw [Ph.cell_new]; exact e
 have NQ : Hid (¬ (w.heap.size = hb ∨ w.heap.size = gh)) := by have := h.h.blocks; unfold Hid; omega
 clear h hS hA
 go_enter Tryz.func167, Tryz.ntmps167
 go_wp2
 go_region_held3 (fun w' => w'.cell? ⟨sb, 0, none⟩ = some (.pointer (some ⟨qb, 0, none⟩)) ∧ w'.cell? ⟨sb, 1, none⟩ = some (.pointer (some ⟨hb, 0, none⟩)) ∧ w'.cell? ⟨sb, 4, none⟩ = some (.int .u64 (turn : Int)) ∧ w'.cell? ⟨w.heap.size, 0, none⟩ = some (.bool true) ∧ w'.cell? ⟨w.heap.size, 1, none⟩ = some (.int .u64 (d : Int)) ∧ w'.cell? ⟨w.heap.size, 2, none⟩ = some (.int .u8 0))
  (first | exact HK.out | go_keep)
  ((go_at_call 195; refine (HP.out 1).mono ?_; rintro e w1 ⟨rfl, hx, hf⟩; have HX := veil hx; have HF := veil hf; have d4 := hx.c4; have f4 := hx.fz 4; have hsb := hx.lt; have HK := veil (And.intro hx.c0 (And.intro hx.c1 (And.intro hx.c4 (And.intro ((hf.cell (a := ⟨w.heap.size, 0, none⟩) (by simp) NQ.out).trans (HC.out 0 _ (by decide) rfl)) (And.intro ((hf.cell (a := ⟨w.heap.size, 1, none⟩) (by simp) NQ.out).trans (HC.out 1 _ (by decide) rfl)) ((hf.cell (a := ⟨w.heap.size, 2, none⟩) (by simp) NQ.out).trans (HC.out 2 _ (by decide) rfl))))))); clear hx hf))
 go_wp2
 go_end0
 exact ⟨rfl, HX.out.turned (turn + 1), Fr.setCell (S := fun k => k = sb ∨ k = hb ∨ k = gh) (a := ⟨sb, 4, none⟩) (((Fr.of_below' HA.out).drewN 1).trans (HF.out.wide (fun k _ q => .inr q))) (.inl rfl) _⟩
end
end Go.Proofs.YtjlbmmiomfpgiaaGreatDoor
namespace Go.Proofs.YtjlbmmiomfpgiaaGreatDoor
set_option maxRecDepth 100000
open Go.RowKit
attribute [local go_sem ↓] Go.wp_at_zero Go.wp_at_succ
section
variable {w w' : World} {sb qb gq hb gh n most turn : Nat} {R R' : List (Nat × Nat)} {L L' : List Ph.Item}
set_option maxHeartbeats 2000000 in
theorem sPut_level (h : St w sb qb gq hb gh n most turn R L) (ht : turn ≤ 1000000000) (id lv : Nat) (hi : id < n) (hlv : lv < 256) (hr : ∀ it ∈ R, it.1 ≠ id) (hl : ∀ it ∈ L, it.1 ≠ id) (hlen : R.length + L.length < most) (hm : most ≤ 1024) :
  Calls Tryz.prog 140 #[.pointer (some ⟨sb, 0, none⟩), .int .i64 (id : Int), .agg #[.bool false, .int .u64 0, .int .u8 (lv : Int)]] w fun e w' => e = .returned (.int .i64 0) ∧ St w' sb qb gq hb gh n most (turn + 1) (R ++ [(id, lv)]) L ∧ Fr (fun k => k = sb ∨ k = qb ∨ k = gq) w w' := by
 have hA := (Below.refl w.heap.size w).alloc (Nat.le_refl _) (.cells #[.bool false, .int .u64 0, .int .u8 (lv : Int)] 67)
 have hS := h.below hA
 have hz : (w.alloc (.cells #[.bool false, .int .u64 0, .int .u8 (lv : Int)] 67)).heap.size = w.heap.size + 1 := by simp
 have HZ := veil hz
 have hMay := smay_ok hS id hi ⟨false, 0, (lv : Int)⟩ (by simp [Ke.rightK])
 have HMay := veil hMay
 have hlt := h.lt
 have HS := veil hS
 have HA := veil hA
 have HB0 : Hid (∀ W, Below (w.heap.size + 1) (w.alloc (.cells #[.bool false, .int .u64 0, .int .u8 (lv : Int)] 67)) W → St W sb qb gq hb gh n most turn R L ∧ W.cell? ⟨w.heap.size, 0, none⟩ = (#[.bool false, .int .u64 0, .int .u8 (lv : Int)] : Array Value)[0]? ∧ W.cell? ⟨w.heap.size, 1, none⟩ = (#[.bool false, .int .u64 0, .int .u8 (lv : Int)] : Array Value)[1]? ∧ W.cell? ⟨w.heap.size, 2, none⟩ = (#[.bool false, .int .u64 0, .int .u8 (lv : Int)] : Array Value)[2]? ∧ w.heap.size + 1 ≤ W.heap.size) := fun W hW => by
  refine ⟨hS.below (by rw [hz]; exact hW), ?_, ?_, ?_, by rw [← hz]; exact hW.size⟩
  ·rw [hW.cell (p := ⟨w.heap.size, 0, none⟩) (by simp), Ph.cell_new]
  ·rw [hW.cell (p := ⟨w.heap.size, 1, none⟩) (by simp), Ph.cell_new]
  ·rw [hW.cell (p := ⟨w.heap.size, 2, none⟩) (by simp), Ph.cell_new]
 have HRL := veil hlen
 have HIR := veil hr
 have HIL := veil hl
 clear h hS hA hz hMay hlen hr hl
 go_enter Tryz.func140, Tryz.ntmps140
 go_wp2_with (first
  | (go_at_call 164; refine (HMay.out).mono ?_; rintro e w1 ⟨rfl, hb1⟩; have HB1 := veil (show Below (w.heap.size + 1) _ w1 by rw [← HZ.out]; exact hb1); obtain ⟨hs1, k10, k11, k12, hz1⟩ := HB0.out _ HB1.out; have HS1 := veil hs1; have c10 := hs1.c0; have c11 := hs1.c1; clear hb1 hs1)
  | (go_at_call 165; refine (pkey_none HS1.out id hi HIR.out HIL.out).mono ?_; rintro e w2 ⟨rfl, hb2⟩; have HB2 := veil (HB1.out.trans (hb2.mono hz1)); obtain ⟨hs2, k20, k21, k22, hz2⟩ := HB0.out _ HB2.out; have HS2 := veil hs2; have c23 := hs2.c3; clear hb2 hs2))
 have HW3 := veil (show Below (w.heap.size + 1) (w.alloc (.cells #[.bool false, .int .u64 0, .int .u8 (lv : Int)] 67)) ((w2.alloc (.cells #[.bool false, .int .u64 0, .int .u8 0] 67)).drew) from (HB2.out.alloc hz2 _).drew)
 have HS3 := veil (HB0.out _ HW3.out).1
 have c33 := HS3.out.c3
 have hll : R.length + L.length ≤ 4096 := by have := HRL.out; omega
 generalize hNN : R.length + L.length = NN at *
 have HLn : Hid (Calls Tryz.prog 153 #[.pointer (some ⟨sb, 0, none⟩)] ((w2.alloc (.cells #[.bool false, .int .u64 0, .int .u8 0] 67)).drew) fun e w' => e = .returned (.int .i64 (NN : Int)) ∧ Below ((w2.alloc (.cells #[.bool false, .int .u64 0, .int .u8 0] 67)).drew).heap.size ((w2.alloc (.cells #[.bool false, .int .u64 0, .int .u8 0] 67)).drew) w') := by
  have := slen_ok HS3.out (by rw [hNN]; exact hll)
  rw [hNN] at this
  exact this
 have hne : ¬ (NN : Int) = (most : Int) := by have := HRL.out; omega
 have hne2 : ¬ NN = most := by have := HRL.out; omega
 clear k10 k11 k12 k20 k21 k22 c10 c11 c23 hNN
 go_region_held3 (fun w' => w'.cell? ⟨sb, 3, none⟩ = some (.int .i64 (most : Int)))
  (first | exact c43 | go_keep)
  ((go_at_call 153; refine (HLn.out).mono ?_; rintro e w3 ⟨rfl, hb3⟩; have HB3 := veil (HW3.out.trans (hb3.mono (by simp; omega))); obtain ⟨hs3, k30, k31, k32, hz3⟩ := HB0.out _ HB3.out; have HS4 := veil hs3; have c43 := hs3.c3; clear hb3 hs3))
 have HPut := veil (sput_level HS4.out ht id lv hi hlv HIR.out)
 go_wp2_with (go_at_call 167; refine (HPut.out).mono ?_; rintro e w4 ⟨rfl, hx, hf⟩; have HX := veil hx; have HF := veil hf; clear hx hf)
 go_ret
 exact ⟨rfl, HX.out, (Fr.of_below' (((Below.refl w.heap.size w).alloc (Nat.le_refl _) _).trans (HB3.out.mono (by omega)))).trans HF.out⟩
set_option maxHeartbeats 2000000 in
theorem sPut_dead (h : St w sb qb gq hb gh n most turn R L) (ht : turn ≤ 1000000000) (id d : Nat) (hi : id < n) (hr : ∀ it ∈ R, it.1 ≠ id) (hl : ∀ it ∈ L, it.1 ≠ id) (hlen : R.length + L.length < most) (hm : most ≤ 1024) :
  Calls Tryz.prog 140 #[.pointer (some ⟨sb, 0, none⟩), .int .i64 (id : Int), .agg #[.bool true, .int .u64 (d : Int), .int .u8 0]] w fun e w' => e = .returned (.int .i64 0) ∧ St w' sb qb gq hb gh n most (turn + 1) R (Ph.ins (id, d, turn) L) ∧ Fr (fun k => k = sb ∨ k = hb ∨ k = gh) w w' := by
 have hA := (Below.refl w.heap.size w).alloc (Nat.le_refl _) (.cells #[.bool true, .int .u64 (d : Int), .int .u8 0] 67)
 have hS := h.below hA
 have hz : (w.alloc (.cells #[.bool true, .int .u64 (d : Int), .int .u8 0] 67)).heap.size = w.heap.size + 1 := by simp
 have HZ := veil hz
 have hMay := smay_ok hS id hi ⟨true, (d : Int), 0⟩ (by simp [Ke.rightK])
 have HMay := veil hMay
 have hlt := h.lt
 have HS := veil hS
 have HA := veil hA
 have HB0 : Hid (∀ W, Below (w.heap.size + 1) (w.alloc (.cells #[.bool true, .int .u64 (d : Int), .int .u8 0] 67)) W → St W sb qb gq hb gh n most turn R L ∧ W.cell? ⟨w.heap.size, 0, none⟩ = (#[.bool true, .int .u64 (d : Int), .int .u8 0] : Array Value)[0]? ∧ W.cell? ⟨w.heap.size, 1, none⟩ = (#[.bool true, .int .u64 (d : Int), .int .u8 0] : Array Value)[1]? ∧ W.cell? ⟨w.heap.size, 2, none⟩ = (#[.bool true, .int .u64 (d : Int), .int .u8 0] : Array Value)[2]? ∧ w.heap.size + 1 ≤ W.heap.size) := fun W hW => by
  refine ⟨hS.below (by rw [hz]; exact hW), ?_, ?_, ?_, by rw [← hz]; exact hW.size⟩
  ·rw [hW.cell (p := ⟨w.heap.size, 0, none⟩) (by simp), Ph.cell_new]
  ·rw [hW.cell (p := ⟨w.heap.size, 1, none⟩) (by simp), Ph.cell_new]
  ·rw [hW.cell (p := ⟨w.heap.size, 2, none⟩) (by simp), Ph.cell_new]
 have HRL := veil hlen
 have HIR := veil hr
 have HIL := veil hl
 clear h hS hA hz hMay hlen hr hl
 go_enter Tryz.func140, Tryz.ntmps140
 go_wp2_with (first
  | (go_at_call 164; refine (HMay.out).mono ?_; rintro e w1 ⟨rfl, hb1⟩; have HB1 := veil (show Below (w.heap.size + 1) _ w1 by rw [← HZ.out]; exact hb1); obtain ⟨hs1, k10, k11, k12, hz1⟩ := HB0.out _ HB1.out; have HS1 := veil hs1; have c10 := hs1.c0; have c11 := hs1.c1; clear hb1 hs1)
  | (go_at_call 165; refine (pkey_none HS1.out id hi HIR.out HIL.out).mono ?_; rintro e w2 ⟨rfl, hb2⟩; have HB2 := veil (HB1.out.trans (hb2.mono hz1)); obtain ⟨hs2, k20, k21, k22, hz2⟩ := HB0.out _ HB2.out; have HS2 := veil hs2; have c23 := hs2.c3; clear hb2 hs2))
 have HW3 := veil (show Below (w.heap.size + 1) (w.alloc (.cells #[.bool true, .int .u64 (d : Int), .int .u8 0] 67)) ((w2.alloc (.cells #[.bool false, .int .u64 0, .int .u8 0] 67)).drew) from (HB2.out.alloc hz2 _).drew)
 have HS3 := veil (HB0.out _ HW3.out).1
 have c33 := HS3.out.c3
 have hll : R.length + L.length ≤ 4096 := by have := HRL.out; omega
 generalize hNN : R.length + L.length = NN at *
 have HLn : Hid (Calls Tryz.prog 153 #[.pointer (some ⟨sb, 0, none⟩)] ((w2.alloc (.cells #[.bool false, .int .u64 0, .int .u8 0] 67)).drew) fun e w' => e = .returned (.int .i64 (NN : Int)) ∧ Below ((w2.alloc (.cells #[.bool false, .int .u64 0, .int .u8 0] 67)).drew).heap.size ((w2.alloc (.cells #[.bool false, .int .u64 0, .int .u8 0] 67)).drew) w') := by
  have := slen_ok HS3.out (by rw [hNN]; exact hll)
  rw [hNN] at this
  exact this
 have hne : ¬ (NN : Int) = (most : Int) := by have := HRL.out; omega
 have hne2 : ¬ NN = most := by have := HRL.out; omega
 clear k10 k11 k12 k20 k21 k22 c10 c11 c23 hNN
 go_region_held3 (fun w' => w'.cell? ⟨sb, 3, none⟩ = some (.int .i64 (most : Int)))
  (first | exact c43 | go_keep)
  ((go_at_call 153; refine (HLn.out).mono ?_; rintro e w3 ⟨rfl, hb3⟩; have HB3 := veil (HW3.out.trans (hb3.mono (by simp; omega))); obtain ⟨hs3, k30, k31, k32, hz3⟩ := HB0.out _ HB3.out; have HS4 := veil hs3; have c43 := hs3.c3; clear hb3 hs3))
 have HPut := veil (sput_dead HS4.out ht id d hi HIL.out)
 go_wp2_with (go_at_call 167; refine (HPut.out).mono ?_; rintro e w4 ⟨rfl, hx, hf⟩; have HX := veil hx; have HF := veil hf; clear hx hf)
 go_ret
 exact ⟨rfl, HX.out, (Fr.of_below' (((Below.refl w.heap.size w).alloc (Nat.le_refl _) _).trans (HB3.out.mono (by omega)))).trans HF.out⟩
end
end Go.Proofs.YtjlbmmiomfpgiaaGreatDoor
namespace Go.Proofs.YtjlbmmiomfpgiaaGreatDoor
set_option maxRecDepth 100000
open Go.RowKit
attribute [local go_sem ↓] Go.wp_at_zero Go.wp_at_succ
section
variable {w w' : World} {sb qb gq hb gh n most turn : Nat} {R R' : List (Nat × Nat)} {L L' : List Ph.Item}
theorem St.frame {S : Nat → Prop} (h : St w sb qb gq hb gh n most turn R L) (hf : Fr S w w') (n0 : ¬ S sb) (n1 : ¬ S qb) (n2 : ¬ S gq) (n3 : ¬ S hb) (n4 : ¬ S gh) : St w' sb qb gq hb gh n most turn R L := by
 have b1 := h.q.blocks
 have b2 := h.h.blocks
 exact ⟨(hf.cell (a := ⟨sb, 0, none⟩) h.lt n0).trans h.c0, (hf.cell (a := ⟨sb, 1, none⟩) h.lt n0).trans h.c1, (hf.cell (a := ⟨sb, 2, none⟩) h.lt n0).trans h.c2, (hf.cell (a := ⟨sb, 3, none⟩) h.lt n0).trans h.c3, (hf.cell (a := ⟨sb, 4, none⟩) h.lt n0).trans h.c4, fun o => (hf.frozen (a := ⟨sb, o, none⟩) h.lt n0).trans (h.fz o), h.q.kept (hf.block qb b1.1 n1) (hf.block gq b1.2.1 n2), h.h.kept (hf.block hb b2.1 n3) (hf.block gh b2.2.1 n4), h.ne⟩
theorem pfirst_heap {x : Ph.Item} (h : St w sb qb gq hb gh n most turn R (x :: L)) :
  Calls Tryz.prog 177 #[.agg #[.pointer (some ⟨qb, 0, none⟩), .pointer (some ⟨hb, 0, none⟩)]] w fun e w' => e = .returned (.tuple #[.int .i64 (x.1 : Int), .bool true]) ∧ Below w.heap.size w w' := by
 have hA := (Below.refl w.heap.size w).alloc (Nat.le_refl _) (.cells #[.pointer (some ⟨qb, 0, none⟩), .pointer (some ⟨hb, 0, none⟩)] 216)
 have HA := veil hA
 have HM := veil (Ph.hmin_ok (h.below hA).h)
 clear h hA
 go_enter Tryz.func177, Tryz.ntmps177
 go_wp2_with (go_at_call 207; refine (HM.out).mono ?_; rintro e w1 ⟨rfl, q, hw⟩; have HB := veil (below_drewN HA.out q); subst hw)
 go_ret2
 exact ⟨rfl, HB.out⟩
set_option maxHeartbeats 1000000 in
theorem sremove_heap (h : St w sb qb gq hb gh n most turn R L) (id d s : Nat) (hr : ∀ it ∈ R, it.1 ≠ id) (hl : (id, d, s) ∈ L) :
  Calls Tryz.prog 166 #[.pointer (some ⟨sb, 0, none⟩), .int .i64 (id : Int)] w fun e w' => e = .returned (.int .i64 0) ∧ St w' sb qb gq hb gh n most turn R (Ph.out id L) ∧ Fr (fun k => k = hb ∨ k = gh) w w' := by
 have hi := h.h.good.rng _ hl
 have c0 := h.c0
 have c1 := h.c1
 have HS := veil h
 have HR := veil (Bq.remove_none h.q hi hr)
 have HD := veil (Ph.hdelete_ok h.h id d s hl)
 clear h hr hl
 go_enter Tryz.func166, Tryz.ntmps166
 go_wp2_with (first
  | (go_at_call 193; refine (HR.out).mono ?_; rintro e w1 ⟨rfl, hw⟩; replace hw := hw.symm; subst hw)
  | (go_at_call 194; refine (HD.out).mono ?_; rintro e w2 ⟨rfl, hq, ho⟩; have HX := veil (HS.out.ofH hq (Fr.of_h ho)); have HF := veil (Fr.of_h ho); clear hq ho))
 go_ret
 exact ⟨rfl, HX.out, HF.out⟩
end
end Go.Proofs.YtjlbmmiomfpgiaaGreatDoor
namespace Go.Proofs.YtjlbmmiomfpgiaaGreatDoor
set_option maxRecDepth 100000
open Go.RowKit
attribute [local go_sem ↓] Go.wp_at_zero Go.wp_at_succ
def Own (qb gq hb gh : Nat) (k : Nat) : Prop := (k = qb ∨ k = gq) ∨ k = hb ∨ k = gh
section
variable {w w' : World} {sb qb gq hb gh n most turn : Nat} {R R' : List (Nat × Nat)} {L L' : List Ph.Item}
set_option maxHeartbeats 1000000 in
theorem pkey_level {R1 R2 : List (Nat × Nat)} {id lv : Nat} (h : St w sb qb gq hb gh n most turn (R1 ++ (id, lv) :: R2) L) :
  Calls Tryz.prog 165 #[.agg #[.pointer (some ⟨qb, 0, none⟩), .pointer (some ⟨hb, 0, none⟩)], .int .i64 (id : Int)] w fun e w' => e = .returned (.tuple #[.agg #[.bool false, .int .u64 0, .int .u8 (lv : Int)], .bool true]) ∧ Below w.heap.size w w' := by
 have hA := ((Below.refl w.heap.size w).alloc (Nat.le_refl _) (.cells #[.pointer (some ⟨qb, 0, none⟩), .pointer (some ⟨hb, 0, none⟩)] 216)).alloc (by simp) (.cells #[.bool false, .int .u64 0, .int .u8 0] 67)
 have HA := veil hA
 have HS := veil (h.below hA)
 have hz : ((w.alloc (.cells #[.pointer (some ⟨qb, 0, none⟩), .pointer (some ⟨hb, 0, none⟩)] 216)).alloc (.cells #[.bool false, .int .u64 0, .int .u8 0] 67)).heap.size = w.heap.size + 2 := by simp
 have HZ := veil hz
 have c1 : ((w.alloc (.cells #[.pointer (some ⟨qb, 0, none⟩), .pointer (some ⟨hb, 0, none⟩)] 216)).alloc (.cells #[.bool false, .int .u64 0, .int .u8 0] 67)).cell? ⟨w.heap.size, 1, none⟩ = some (.pointer (some ⟨hb, 0, none⟩)) := by
  rw [World.cell?_alloc_lt _ _ _ (by simp), Ph.cell_new]; rfl
 have CK : Hid (∀ i, ((w.alloc (.cells #[.pointer (some ⟨qb, 0, none⟩), .pointer (some ⟨hb, 0, none⟩)] 216)).alloc (.cells #[.bool false, .int .u64 0, .int .u8 0] 67)).cell? ⟨w.heap.size + 1, i, none⟩ = (#[.bool false, .int .u64 0, .int .u8 0] : Array Value)[i]?) := fun i => by
  rw [show w.heap.size + 1 = (w.alloc (.cells #[.pointer (some ⟨qb, 0, none⟩), .pointer (some ⟨hb, 0, none⟩)] 216)).heap.size by simp]; exact Ph.cell_new _ _ _ _
 have CF : Hid (∀ i, ((w.alloc (.cells #[.pointer (some ⟨qb, 0, none⟩), .pointer (some ⟨hb, 0, none⟩)] 216)).alloc (.cells #[.bool false, .int .u64 0, .int .u8 0] 67)).frozen? ⟨w.heap.size + 1, i, none⟩ = false) := fun i => by
  rw [show w.heap.size + 1 = (w.alloc (.cells #[.pointer (some ⟨qb, 0, none⟩), .pointer (some ⟨hb, 0, none⟩)] 216)).heap.size by simp]; exact Ph.frozen_new _ _ _ _
 have C1 := veil c1
 clear h hA hz c1
 go_enter Tryz.func165, Tryz.ntmps165
 go_wp2_with (first
  | (go_at_call 191; refine (Bq.level_some HS.out.q).mono ?_; rintro e w3 ⟨rfl, hb3⟩; have HB3 := veil hb3; clear hb3)
  | (go_at_call 30; refine (Ke.fixed_ok _ (lv : Int)).mono ?_; rintro e w2 ⟨rfl, hb2⟩; have HB2 := veil (HB3.out.trans (hb2.mono HB3.out.size)); have s2 := HB2.out.size; have k0 := (HB2.out.cell (p := ⟨w.heap.size + 1, 0, none⟩) (by rw [HZ.out]; simp)).trans (CK.out 0); have k1 := (HB2.out.cell (p := ⟨w.heap.size + 1, 1, none⟩) (by rw [HZ.out]; simp)).trans (CK.out 1); have k2 := (HB2.out.cell (p := ⟨w.heap.size + 1, 2, none⟩) (by rw [HZ.out]; simp)).trans (CK.out 2); have f0 := (World.frozen?_of_block (a := ⟨w.heap.size + 1, 0, none⟩) (HB2.out.block (w.heap.size + 1) (by rw [HZ.out]; simp))).trans (CF.out 0); have f1 := (World.frozen?_of_block (a := ⟨w.heap.size + 1, 1, none⟩) (HB2.out.block (w.heap.size + 1) (by rw [HZ.out]; simp))).trans (CF.out 1); have f2 := (World.frozen?_of_block (a := ⟨w.heap.size + 1, 2, none⟩) (HB2.out.block (w.heap.size + 1) (by rw [HZ.out]; simp))).trans (CF.out 2); have hW := veil ((HA.out.trans (HB2.out.mono (by rw [HZ.out]; omega)))); clear hb2))
 refine bodyPost_ret (v := .tuple #[.agg #[.bool false, .int .u64 0, .int .u8 (lv : Int)], .bool true]) ?_ rfl ?_
 ·simp [results, Tryz.f165, go_sem, k0, k1, k2, Ke.fixK]
 ·refine ⟨rfl, ?_⟩
  exact ((hW.out.setCell (p := ⟨w.heap.size + 1, 0, none⟩) (by simp) _).setCell (p := ⟨w.heap.size + 1, 1, none⟩) (by simp) _).setCell (p := ⟨w.heap.size + 1, 2, none⟩) (by simp) _
set_option maxHeartbeats 1000000 in
theorem stop_any (h : St w sb qb gq hb gh n most turn R L) (id : Nat) (k : Ke.K) (hF : ∀ W, St W sb qb gq hb gh n most turn R L → Calls Tryz.prog 177 #[.agg #[.pointer (some ⟨qb, 0, none⟩), .pointer (some ⟨hb, 0, none⟩)]] W fun e w' => e = .returned (.tuple #[.int .i64 (id : Int), .bool true]) ∧ Below W.heap.size W w') (hK : ∀ W, St W sb qb gq hb gh n most turn R L → Calls Tryz.prog 165 #[.agg #[.pointer (some ⟨qb, 0, none⟩), .pointer (some ⟨hb, 0, none⟩)], .int .i64 (id : Int)] W fun e w' => e = .returned (.tuple #[.agg #[.bool k.e, .int .u64 k.d, .int .u8 k.l], .bool true]) ∧ Below W.heap.size W w') :
  Calls Tryz.prog 152 #[.pointer (some ⟨sb, 0, none⟩)] w fun e w' => e = .returned (.tuple #[.int .i64 (id : Int), .agg #[.bool k.e, .int .u64 k.d, .int .u8 k.l], .bool true]) ∧ Below w.heap.size w w' := by
 have hA := (Below.refl w.heap.size w).alloc (Nat.le_refl _) (.cells #[.bool false, .int .u64 0, .int .u8 0] 67)
 have hS := h.below hA
 have hz : (w.alloc (.cells #[.bool false, .int .u64 0, .int .u8 0] 67)).heap.size = w.heap.size + 1 := by simp
 have HZ := veil hz
 have c0 := hS.c0
 have c1 := hS.c1
 have HS := veil hS
 have HFC := veil hF
 have HKC := veil hK
 have HB0 : Hid (∀ W, Below (w.heap.size + 1) (w.alloc (.cells #[.bool false, .int .u64 0, .int .u8 0] 67)) W → St W sb qb gq hb gh n most turn R L ∧ (∀ i, W.cell? ⟨w.heap.size, i, none⟩ = (#[.bool false, .int .u64 0, .int .u8 0] : Array Value)[i]?) ∧ (∀ i, W.frozen? ⟨w.heap.size, i, none⟩ = false) ∧ w.heap.size + 1 ≤ W.heap.size ∧ Below w.heap.size w W) := fun W hW => by
  refine ⟨hS.below (by rw [hz]; exact hW), fun i => ?_, fun i => ?_, by rw [← hz]; exact hW.size, hA.trans (hW.mono (by omega))⟩
  ·rw [hW.cell (p := ⟨w.heap.size, i, none⟩) (by simp), Ph.cell_new]
  ·rw [World.frozen?_of_block (a := ⟨w.heap.size, i, none⟩) (hW.block w.heap.size (by omega)), Ph.frozen_new]
 clear h hF hK hS hA hz
 go_enter Tryz.func152, Tryz.ntmps152
 go_wp2_with (first
  | (go_at_call 177; refine (HFC.out _ HS.out).mono ?_; rintro e w1 ⟨rfl, hb1⟩; have HB1 := veil (show Below (w.heap.size + 1) _ w1 by rw [← HZ.out]; exact hb1); obtain ⟨hs1, _, _, hz1, _⟩ := HB0.out _ HB1.out; have HS1 := veil hs1; have c10 := hs1.c0; have c11 := hs1.c1; clear hb1 hs1)
  | (go_at_call 165; refine (HKC.out _ HS1.out).mono ?_; rintro e w2 ⟨rfl, hb2⟩; have HB2 := veil (HB1.out.trans (hb2.mono hz1)); have HB2s := veil hb2; obtain ⟨_, kc, fc, hz2, hB2⟩ := HB0.out _ HB2.out; have HBW := veil hB2; have HB3 := veil (HB0.out _ (HB2.out.alloc hz2 (.cells #[.bool k.e, .int .u64 k.d, .int .u8 k.l] 67))); have k0 := HB3.out.2.1 0; have k1 := HB3.out.2.1 1; have k2 := HB3.out.2.1 2; have f0 := HB3.out.2.2.1 0; have f1 := HB3.out.2.2.1 1; have f2 := HB3.out.2.2.1 2; clear hb2 kc fc hB2))
 have hsz2 : w.heap.size + 1 ≤ w2.heap.size := hz2
 have y0 : ¬ w2.heap.size = w.heap.size := by omega
 have y1 : ¬ w.heap.size = w2.heap.size := by omega
 go_region_held3 (fun w' => w'.cell? ⟨w2.heap.size, 0, none⟩ = some (.bool k.e) ∧ w'.cell? ⟨w2.heap.size, 1, none⟩ = some (.int .u64 k.d) ∧ w'.cell? ⟨w2.heap.size, 2, none⟩ = some (.int .u8 k.l))
  (first | go_keep)
  (fail)
 go_wp2
 refine bodyPost_ret (v := .tuple #[.int .i64 (id : Int), .agg #[.bool k.e, .int .u64 k.d, .int .u8 k.l], .bool true]) ?_ rfl ?_
 ·simp [results, Tryz.f152, go_sem, k0, k1, k2]
 ·refine ⟨rfl, ?_⟩
  exact ((((HBW.out.alloc (Nat.le_trans (Nat.le_succ _) hz2) _).setCell (p := ⟨w.heap.size, 0, none⟩) (Nat.le_refl _) _).setCell (p := ⟨w.heap.size, 1, none⟩) (Nat.le_refl _) _).setCell (p := ⟨w.heap.size, 2, none⟩) (Nat.le_refl _) _).drew
theorem pfirst_queue {id lv : Nat} {rest : List Nat} (h : St w sb qb gq hb gh n most turn R []) (hbst : Bq.Best R lv) (hq : Bq.QL R lv = (id + 1) :: rest) :
  Calls Tryz.prog 177 #[.agg #[.pointer (some ⟨qb, 0, none⟩), .pointer (some ⟨hb, 0, none⟩)]] w fun e w' => e = .returned (.tuple #[.int .i64 (id : Int), .bool true]) ∧ Below w.heap.size w w' := by
 have hA := (Below.refl w.heap.size w).alloc (Nat.le_refl _) (.cells #[.pointer (some ⟨qb, 0, none⟩), .pointer (some ⟨hb, 0, none⟩)] 216)
 have HA := veil hA
 have HM := veil (Ph.hmin_none (h.below hA).h)
 have HT := veil (Bq.top_some _ qb gq n R id lv rest (h.below hA).q hbst hq)
 clear h hA hbst hq
 go_enter Tryz.func177, Tryz.ntmps177
 go_wp2_with (first
  | (go_at_call 207; refine (HM.out).mono ?_; rintro e w1 ⟨rfl, hw⟩; subst hw)
  | (go_at_call 210; refine (HT.out).mono ?_; rintro e w2 ⟨rfl, hw⟩; have HB := veil (HA.out.trans (hw.mono HA.out.size)); clear hw))
 go_ret2
 exact ⟨rfl, HB.out⟩
theorem pfirst_none (h : St w sb qb gq hb gh n most turn [] []) :
  Calls Tryz.prog 177 #[.agg #[.pointer (some ⟨qb, 0, none⟩), .pointer (some ⟨hb, 0, none⟩)]] w fun e w' => e = .returned (.tuple #[.int .i64 0, .bool false]) ∧ Below w.heap.size w w' := by
 have hA := (Below.refl w.heap.size w).alloc (Nat.le_refl _) (.cells #[.pointer (some ⟨qb, 0, none⟩), .pointer (some ⟨hb, 0, none⟩)] 216)
 have HA := veil hA
 have HM := veil (Ph.hmin_none (h.below hA).h)
 have HT := veil (Bq.top_none _ qb gq n (h.below hA).q)
 clear h hA
 go_enter Tryz.func177, Tryz.ntmps177
 go_wp2_with (first
  | (go_at_call 207; refine (HM.out).mono ?_; rintro e w1 ⟨rfl, hw⟩; subst hw)
  | (go_at_call 210; refine (HT.out).mono ?_; rintro e w2 ⟨rfl, hw⟩; have HB := veil (HA.out.trans (hw.mono HA.out.size)); clear hw))
 go_ret2
 exact ⟨rfl, HB.out⟩
set_option maxHeartbeats 1000000 in
theorem sremove_queue {R1 R2 : List (Nat × Nat)} {id lv : Nat} (h : St w sb qb gq hb gh n most turn (R1 ++ (id, lv) :: R2) L) :
  Calls Tryz.prog 166 #[.pointer (some ⟨sb, 0, none⟩), .int .i64 (id : Int)] w fun e w' => e = .returned (.int .i64 0) ∧ St w' sb qb gq hb gh n most turn (R1 ++ R2) L ∧ Fr (fun k => k = qb ∨ k = gq) w w' := by
 have c0 := h.c0
 have c1 := h.c1
 have HS := veil h
 have HR := veil (Bq.remove_some h.q)
 clear h
 go_enter Tryz.func166, Tryz.ntmps166
 go_wp2_with (first
  | (go_at_call 193; refine (HR.out).mono ?_; rintro e w2 ⟨rfl, hq, ho⟩; have HX := veil (HS.out.ofQ hq (Fr.of_q ho)); have HF := veil (Fr.of_q ho); clear hq ho))
 go_ret
 exact ⟨rfl, HX.out, HF.out⟩
theorem sremove_none (h : St w sb qb gq hb gh n most turn R L) (id : Nat) (hi : id < n) (hr : ∀ it ∈ R, it.1 ≠ id) (hl : ∀ it ∈ L, it.1 ≠ id) :
  Calls Tryz.prog 166 #[.pointer (some ⟨sb, 0, none⟩), .int .i64 (id : Int)] w fun e w' => e = .returned (.int .i64 6) ∧ w' = w := by
 have c0 := h.c0
 have c1 := h.c1
 have HR := veil (Bq.remove_none h.q hi hr)
 have HD := veil (Ph.hdelete_none h.h id hi hl)
 clear h hr hl
 go_enter Tryz.func166, Tryz.ntmps166
 go_wp2_with (first
  | (go_at_call 193; refine (HR.out).mono ?_; rintro e w1 ⟨rfl, hw⟩; replace hw := hw.symm; subst hw)
  | (go_at_call 194; refine (HD.out).mono ?_; rintro e w1 ⟨rfl, hw⟩; replace hw := hw.symm; subst hw))
 go_ret
 exact ⟨rfl, rfl⟩
theorem sremove_range (h : St w sb qb gq hb gh n most turn R L) (id : Int) (hi : id < 0 ∨ (n : Int) ≤ id) :
  Calls Tryz.prog 166 #[.pointer (some ⟨sb, 0, none⟩), .int .i64 id] w fun e w' => e = .returned (.int .i64 2) ∧ w' = w := by
 have c0 := h.c0
 have c1 := h.c1
 have HR := veil (Bq.remove_range h.q id hi)
 clear h hi
 go_enter Tryz.func166, Tryz.ntmps166
 go_wp2_with (first
  | (go_at_call 193; refine (HR.out).mono ?_; rintro e w1 ⟨rfl, hw⟩; replace hw := hw.symm; subst hw))
 go_ret
 exact ⟨rfl, rfl⟩
set_option maxHeartbeats 1000000 in
theorem stop_none (h : St w sb qb gq hb gh n most turn [] []) :
  Calls Tryz.prog 152 #[.pointer (some ⟨sb, 0, none⟩)] w fun e w' => e = .returned (.tuple #[.int .i64 0, .agg #[.bool false, .int .u64 0, .int .u8 0], .bool false]) ∧ Below w.heap.size w w' := by
 have hz : (w.alloc (.cells #[.bool false, .int .u64 0, .int .u8 0] 67)).heap.size = w.heap.size + 1 := by simp
 have HZ := veil hz
 have hS := h.below ((Below.refl w.heap.size w).alloc (Nat.le_refl _) (.cells #[.bool false, .int .u64 0, .int .u8 0] 67))
 have c0 := hS.c0
 have c1 := hS.c1
 have HS := veil hS
 clear hz h hS
 go_enter Tryz.func152, Tryz.ntmps152
 go_wp2_with (go_at_call 177; refine (pfirst_none HS.out).mono ?_; rintro e w1 ⟨rfl, hb1⟩; have HB := veil (((Below.refl w.heap.size w).alloc (Nat.le_refl _) (.cells #[.bool false, .int .u64 0, .int .u8 0] 67)).trans (hb1.mono (by simp))); have hz1 : w.heap.size + 1 ≤ w1.heap.size := (by rw [← HZ.out]; exact hb1.size); have k0 : w1.cell? ⟨w.heap.size, 0, none⟩ = some (.bool false) := (hb1.cell (p := ⟨w.heap.size, 0, none⟩) (by simp)).trans (Ph.cell_new _ _ _ _); have k1 : w1.cell? ⟨w.heap.size, 1, none⟩ = some (.int .u64 0) := (hb1.cell (p := ⟨w.heap.size, 1, none⟩) (by simp)).trans (Ph.cell_new _ _ _ _); have k2 : w1.cell? ⟨w.heap.size, 2, none⟩ = some (.int .u8 0) := (hb1.cell (p := ⟨w.heap.size, 2, none⟩) (by simp)).trans (Ph.cell_new _ _ _ _); have f0 : w1.frozen? ⟨w.heap.size, 0, none⟩ = false := (World.frozen?_of_block (a := ⟨w.heap.size, 0, none⟩) (hb1.block w.heap.size (by simp))).trans (Ph.frozen_new _ _ _ _); have f1 : w1.frozen? ⟨w.heap.size, 1, none⟩ = false := (World.frozen?_of_block (a := ⟨w.heap.size, 1, none⟩) (hb1.block w.heap.size (by simp))).trans (Ph.frozen_new _ _ _ _); have f2 : w1.frozen? ⟨w.heap.size, 2, none⟩ = false := (World.frozen?_of_block (a := ⟨w.heap.size, 2, none⟩) (hb1.block w.heap.size (by simp))).trans (Ph.frozen_new _ _ _ _); clear hb1)
 trace_state
 refine bodyPost_ret (v := .tuple #[.int .i64 0, .agg #[.bool false, .int .u64 0, .int .u8 0], .bool false]) ?_ rfl ?_
 ·simp [results, Tryz.f152, go_sem, k0, k1, k2]
 ·refine ⟨rfl, ?_⟩
  first
   | exact HB.out
   | exact ((HB.out.setCell (p := ⟨w.heap.size, 0, none⟩) (Nat.le_refl _) _).setCell (p := ⟨w.heap.size, 1, none⟩) (Nat.le_refl _) _).setCell (p := ⟨w.heap.size, 2, none⟩) (Nat.le_refl _) _
   | exact (((HB.out.setCell (p := ⟨w.heap.size, 0, none⟩) (Nat.le_refl _) _).setCell (p := ⟨w.heap.size, 1, none⟩) (Nat.le_refl _) _).setCell (p := ⟨w.heap.size, 2, none⟩) (Nat.le_refl _) _).drew
end
end Go.Proofs.YtjlbmmiomfpgiaaGreatDoor
namespace Go.Proofs.YtjlbmmiomfpgiaaGreatDoor
set_option maxRecDepth 100000
def lvs (R : List (Nat × Nat)) (lv : Nat) : List En := (R.filter (fun it => it.2 == lv)).map (fun it => (it.1, Ke.fixK it.2))
def lev (R : List (Nat × Nat)) : Nat → List En
 | 0 => []
 | k + 1 => lvs R k ++ lev R k
def dl (L : List Ph.Item) : List En := L.map (fun x => (x.1, Ke.deadK x.2.1))
def all (R : List (Nat × Nat)) (L : List Ph.Item) : List En := dl L ++ lev R 256
theorem mem_lvs {R : List (Nat × Nat)} {lv : Nat} {y : En} : y ∈ lvs R lv ↔ (y.1, lv) ∈ R ∧ y.2 = Ke.fixK lv := by
 unfold lvs
 simp only [List.mem_map, List.mem_filter, beq_iff_eq]
 constructor
 ·rintro ⟨it, ⟨h1, rfl⟩, rfl⟩; exact ⟨h1, rfl⟩
 ·rintro ⟨h1, h2⟩
  exact ⟨(y.1, lv), ⟨h1, rfl⟩, by rw [← h2]⟩
theorem mem_lev {R : List (Nat × Nat)} {y : En} : ∀ {k : Nat}, y ∈ lev R k ↔ ∃ lv, lv < k ∧ (y.1, lv) ∈ R ∧ y.2 = Ke.fixK lv
 | 0 => by simp [lev]
 | k + 1 => by
  rw [lev, List.mem_append, mem_lvs, mem_lev]
  constructor
  ·rintro (⟨a, b⟩ | ⟨lv, a, b⟩)
   ·exact ⟨k, by omega, a, b⟩
   ·exact ⟨lv, by omega, b⟩
  ·rintro ⟨lv, a, b⟩
   rcases Nat.lt_or_ge lv k with q | q
   ·exact .inr ⟨lv, q, b⟩
   ·obtain rfl : lv = k := by omega
    exact .inl b
theorem mem_dl {L : List Ph.Item} {y : En} : y ∈ dl L ↔ ∃ d s, (y.1, d, s) ∈ L ∧ y.2 = Ke.deadK d := by
 unfold dl
 simp only [List.mem_map]
 constructor
 ·rintro ⟨it, h, rfl⟩; exact ⟨it.2.1, it.2.2, h, rfl⟩
 ·rintro ⟨d, s, h, e⟩; exact ⟨_, h, by rw [← e]⟩
theorem mem_all {R : List (Nat × Nat)} {L : List Ph.Item} {y : En} : y ∈ all R L ↔ (∃ d s, (y.1, d, s) ∈ L ∧ y.2 = Ke.deadK d) ∨ ∃ lv, lv < 256 ∧ (y.1, lv) ∈ R ∧ y.2 = Ke.fixK lv := by
 rw [all, List.mem_append, mem_dl, mem_lev]
theorem up_fd (l d : Int) : Ke.up (Ke.fixK l) (Ke.deadK d) = false := by simp [Ke.up, Ke.fixK, Ke.deadK]
theorem up_df (l d : Int) : Ke.up (Ke.deadK d) (Ke.fixK l) = true := by simp [Ke.up, Ke.fixK, Ke.deadK]
theorem up_ff (l k : Int) : Ke.up (Ke.fixK l) (Ke.fixK k) = decide (k < l) := by unfold Ke.up; rfl
theorem up_dd (l k : Int) : Ke.up (Ke.deadK l) (Ke.deadK k) = decide (l < k) := by unfold Ke.up; rfl
theorem lvs_app (R : List (Nat × Nat)) (id lv k : Nat) : lvs (R ++ [(id, lv)]) k = if lv = k then lvs R k ++ [(id, Ke.fixK lv)] else lvs R k := by
 unfold lvs
 rw [List.filter_append, List.map_append]
 by_cases h : lv = k
 ·simp [h]
 ·simp [h]
theorem lev_low (R : List (Nat × Nat)) (id lv : Nat) : ∀ k, k ≤ lv → lev (R ++ [(id, lv)]) k = lev R k
 | 0, _ => rfl
 | k + 1, h => by rw [lev, lev, lvs_app, if_neg (by omega), lev_low R id lv k (by omega)]
theorem put_lev (R : List (Nat × Nat)) (id lv : Nat) : ∀ k, lv < k → put (id, Ke.fixK lv) (lev R k) = lev (R ++ [(id, lv)]) k
 | 0, h => by omega
 | k + 1, h => by
  rw [lev, lev, lvs_app]
  have h1 : ∀ y ∈ lvs R k, Ke.up (Ke.fixK lv) y.2 = false := fun y hy => by
   rw [(mem_lvs.1 hy).2, up_ff]
   simp
   omega
  rw [put_skip _ _ _ h1]
  by_cases e : lv = k
  ·subst e
   rw [if_pos rfl, lev_low R id lv lv (Nat.le_refl _), put_here _ _ (fun y hy => ?_)]
   ·simp
   ·obtain ⟨j, hj, _, e⟩ := mem_lev.1 hy
    rw [e, up_ff]
    simp
    omega
  ·rw [if_neg e, put_lev R id lv k (by omega)]
theorem put_level (R : List (Nat × Nat)) (L : List Ph.Item) (id lv : Nat) (h : lv < 256) : put (id, Ke.fixK lv) (all R L) = all (R ++ [(id, lv)]) L := by
 unfold all
 rw [put_skip _ _ _ (fun y hy => ?_), put_lev R id lv 256 h]
 obtain ⟨d, s, _, e⟩ := mem_dl.1 hy
 rw [e]
 exact up_fd _ _
theorem put_dl (id d s : Nat) (B : List En) (hB : ∀ y ∈ B, Ke.up (Ke.deadK d) y.2 = true) : ∀ (L : List Ph.Item), (∀ y ∈ L, y.2.2 < s) → put (id, Ke.deadK d) (dl L ++ B) = dl (Ph.ins (id, d, s) L) ++ B
 | [], _ => by
  show put (id, Ke.deadK d) B = (id, Ke.deadK d) :: B
  exact put_here _ _ hB
 | x :: L, h => by
  have hx := h x (by simp)
  show put (id, Ke.deadK d) ((x.1, Ke.deadK x.2.1) :: (dl L ++ B)) = _
  simp only [put, Ph.ins]
  rw [up_dd]
  by_cases c : d < x.2.1
  ·have c' : Ph.ah (id, d, s) x := .inl c
   rw [if_pos c', if_pos (by simpa using c)]
   rfl
  ·have c' : ¬ Ph.ah (id, d, s) x := by
    unfold Ph.ah
    simp only
    omega
   rw [if_neg c', if_neg (by simpa using c), put_dl id d s B hB L (fun y hy => h y (by simp [hy]))]
   rfl
theorem put_dead (R : List (Nat × Nat)) (L : List Ph.Item) (id d s : Nat) (h : ∀ y ∈ L, y.2.2 < s) : put (id, Ke.deadK d) (all R L) = all R (Ph.ins (id, d, s) L) := by
 unfold all
 refine put_dl id d s _ (fun y hy => ?_) L h
 obtain ⟨j, hj, _, e⟩ := mem_lev.1 hy
 rw [e]
 exact up_df _ _
theorem cut_lvs (R : List (Nat × Nat)) (id lv : Nat) : cut id (lvs R lv) = lvs (R.filter (fun it => it.1 != id)) lv := by
 unfold cut lvs
 rw [List.filter_map, List.filter_filter, List.filter_filter]
 congr 1
 apply List.filter_congr
 intro a _
 exact Bool.and_comm _ _
theorem cut_lev (R : List (Nat × Nat)) (id : Nat) : ∀ k, cut id (lev R k) = lev (R.filter (fun it => it.1 != id)) k
 | 0 => rfl
 | k + 1 => by
  rw [lev, lev, ← cut_lev R id k, ← cut_lvs]
  exact List.filter_append ..
theorem cut_all (R : List (Nat × Nat)) (L : List Ph.Item) (id : Nat) : cut id (all R L) = all (R.filter (fun it => it.1 != id)) (Ph.out id L) := by
 unfold all
 rw [← cut_lev]
 have e : dl (Ph.out id L) = cut id (dl L) := by
  unfold dl cut Ph.out
  rw [List.filter_map]
  rfl
 rw [e]
 exact List.filter_append ..
theorem filter_miss {R : List (Nat × Nat)} {id : Nat} (h : ∀ it ∈ R, it.1 ≠ id) : R.filter (fun it => it.1 != id) = R := by
 rw [List.filter_eq_self]
 intro a ha
 simpa using h a ha
theorem filter_split {R1 R2 : List (Nat × Nat)} {id lv : Nat} (h : ((R1 ++ (id, lv) :: R2).map (·.1)).Nodup) : (R1 ++ (id, lv) :: R2).filter (fun it => it.1 != id) = R1 ++ R2 := by
 rw [List.map_append, List.map_cons, List.nodup_append] at h
 obtain ⟨_, h2, h3⟩ := h
 rw [List.nodup_cons] at h2
 rw [List.filter_append, List.filter_cons_of_neg (by simp), filter_miss, filter_miss]
 ·intro it hit e
  exact h2.1 (List.mem_map.2 ⟨it, hit, e⟩)
 ·intro it hit e
  exact h3 it.1 (List.mem_map.2 ⟨it, hit, rfl⟩) id (by simp) e
theorem lev_first (R : List (Nat × Nat)) {y : En} {M : List En} : ∀ k, lev R k = y :: M → ∃ lv, lv < k ∧ (∃ rest, lvs R lv = y :: rest) ∧ ∀ j, lv < j → j < k → lvs R j = []
 | 0, h => by simp [lev] at h
 | k + 1, h => by
  rw [lev] at h
  cases hl : lvs R k with
  | nil =>
   rw [hl] at h
   obtain ⟨lv, h1, h2, h3⟩ := lev_first R k h
   refine ⟨lv, by omega, h2, fun j a b => ?_⟩
   rcases Nat.lt_or_ge j k with q | q
   ·exact h3 j a q
   ·obtain rfl : j = k := by omega
    exact hl
  | cons z rest =>
   rw [hl] at h
   injection h with h1 h2
   exact ⟨k, by omega, ⟨rest, by rw [hl, h1]⟩, fun j a b => by omega⟩
end Go.Proofs.YtjlbmmiomfpgiaaGreatDoor
namespace Go.Proofs.YtjlbmmiomfpgiaaGreatDoor
set_option maxRecDepth 100000
open Go.RowKit
set_option linter.unusedVariables false
attribute [local go_sem ↓] Go.wp_at_zero Go.wp_at_succ
structure InvS (n most turn : Nat) (R : List (Nat × Nat)) (L : List Ph.Item) (M : List En) : Prop where
 eq : all R L = M
 nd : (M.map (·.1)).Nodup
 len : R.length + L.length = M.length
 lt : ∀ y ∈ L, y.2.2 < turn
 fits : M.length ≤ most
 mn : most ≤ n
 rl : ∀ it ∈ R, it.2 < 256
def IsS (w : World) (sb qb gq hb gh n most turn : Nat) (M : List En) : Prop := ∃ R L, St w sb qb gq hb gh n most turn R L ∧ InvS n most turn R L M
def OwnS (sb qb gq hb gh : Nat) (k : Nat) : Prop := k = sb ∨ Own qb gq hb gh k
section
variable {w w' : World} {sb qb gq hb gh n most turn : Nat} {R R' : List (Nat × Nat)} {L L' : List Ph.Item} {M : List En}
theorem IsS.below (h : IsS w sb qb gq hb gh n most turn M) (hw : Below w.heap.size w w') : IsS w' sb qb gq hb gh n most turn M := by
 obtain ⟨R, L, h1, h2⟩ := h
 exact ⟨R, L, h1.below hw, h2⟩
theorem IsS.frame {S : Nat → Prop} (h : IsS w sb qb gq hb gh n most turn M) (hf : Fr S w w') (hn : ∀ k, OwnS sb qb gq hb gh k → ¬ S k) : IsS w' sb qb gq hb gh n most turn M := by
 obtain ⟨R, L, h1, h2⟩ := h
 exact ⟨R, L, h1.frame hf (hn _ (.inl rfl)) (hn _ (.inr (.inl (.inl rfl)))) (hn _ (.inr (.inl (.inr rfl)))) (hn _ (.inr (.inr (.inl rfl)))) (hn _ (.inr (.inr (.inr rfl)))), h2⟩
theorem IsS.blocks (h : IsS w sb qb gq hb gh n most turn M) : ∀ k, OwnS sb qb gq hb gh k → k < w.heap.size := by
 obtain ⟨R, L, h1, _⟩ := h
 have a := h1.lt
 have b := h1.q.blocks
 have c := h1.h.blocks
 intro k hk
 unfold OwnS Own at hk
 omega
theorem IsS.n_le (h : IsS w sb qb gq hb gh n most turn M) : n ≤ 1024 := by
 obtain ⟨R, L, h1, _⟩ := h
 exact h1.h.nle
theorem InvS.memR (h : InvS n most turn R L M) {id lv : Nat} (hm : (id, lv) ∈ R) : (id, Ke.fixK lv) ∈ M := by
 rw [← h.eq]
 exact mem_all.2 (.inr ⟨lv, h.rl _ hm, hm, rfl⟩)
theorem InvS.memL (h : InvS n most turn R L M) {x : Ph.Item} (hm : x ∈ L) : (x.1, Ke.deadK x.2.1) ∈ M := by
 rw [← h.eq]
 exact mem_all.2 (.inl ⟨x.2.1, x.2.2, hm, rfl⟩)
theorem InvS.missR (h : InvS n most turn R L M) {id : Nat} (hm : ∀ y ∈ M, y.1 ≠ id) : ∀ it ∈ R, it.1 ≠ id := fun it hit e => hm _ (h.memR (id := it.1) (lv := it.2) hit) e
theorem InvS.missL (h : InvS n most turn R L M) {id : Nat} (hm : ∀ y ∈ M, y.1 ≠ id) : ∀ it ∈ L, it.1 ≠ id := fun it hit e => hm _ (h.memL hit) e
theorem InvS.apart (h : InvS n most turn R L M) {x : Ph.Item} (hm : x ∈ L) : ∀ it ∈ R, it.1 ≠ x.1 := fun it hit e => by
 have := nd_uniq h.nd (h.memR (id := it.1) (lv := it.2) hit) (h.memL hm) e
 have := congrArg (fun y => y.2.e) this
 simp [Ke.fixK, Ke.deadK] at this
theorem lev_nil : ∀ k, lev [] k = []
 | 0 => rfl
 | k + 1 => by rw [lev, lev_nil k]; rfl
def kz (o : Option Ke.K) : Ke.K := o.getD ⟨false, 0, 0⟩
theorem pkey_ok (hS : St w sb qb gq hb gh n most turn R L) (hI : InvS n most turn R L M) (id : Nat) (hi : id < n) :
  Calls Tryz.prog 165 #[.agg #[.pointer (some ⟨qb, 0, none⟩), .pointer (some ⟨hb, 0, none⟩)], .int .i64 (id : Int)] w fun e w' => e = .returned (.tuple #[.agg #[.bool (kz (keyOf M id)).e, .int .u64 (kz (keyOf M id)).d, .int .u8 (kz (keyOf M id)).l], .bool (keyOf M id).isSome]) ∧ Below w.heap.size w w' := by
 cases hk : keyOf M id with
 | none =>
  have hm := keyOf_none.1 hk
  exact pkey_none hS id hi (hI.missR hm) (hI.missL hm)
 | some k =>
  have hm := (keyOf_some hI.nd).1 hk
  rw [← hI.eq] at hm
  rcases mem_all.1 hm with ⟨d, s, h1, h2⟩ | ⟨lv, _, h1, h2⟩
  ·have := pkey_dead hS id hi (hI.apart h1) d s h1
   simp only at h2
   rw [h2]
   exact this
  ·obtain ⟨R1, R2, rfl⟩ := List.append_of_mem h1
   simp only at h2
   rw [h2]
   exact pkey_level hS
theorem first_of (hS : St w sb qb gq hb gh n most turn R L) (hI : InvS n most turn R L M) {y : En} {M' : List En} (he : M = y :: M') :
  Calls Tryz.prog 177 #[.agg #[.pointer (some ⟨qb, 0, none⟩), .pointer (some ⟨hb, 0, none⟩)]] w fun e w' => e = .returned (.tuple #[.int .i64 (y.1 : Int), .bool true]) ∧ Below w.heap.size w w' := by
 have heq := hI.eq
 rw [he] at heq
 cases L with
 | cons x L =>
  unfold all at heq
  have : y = (x.1, Ke.deadK x.2.1) := by
   simp only [dl, List.map_cons, List.cons_append] at heq
   injection heq with h1 _
   exact h1.symm
  rw [this]
  exact pfirst_heap hS
 | nil =>
  have h1 : lev R 256 = y :: M' := heq
  obtain ⟨lv, h2, ⟨rest, h3⟩, h4⟩ := lev_first R 256 h1
  have e1 : Bq.QL R lv = (lvs R lv).map (fun y => y.1 + 1) := by
   unfold Bq.QL lvs
   rw [List.map_map]
   rfl
  have e2 : ∀ j, lvs R j = [] → Bq.QL R j = [] := fun j hj => by
   have : Bq.QL R j = (lvs R j).map (fun y => y.1 + 1) := by
    unfold Bq.QL lvs
    rw [List.map_map]
    rfl
   rw [this, hj]
   rfl
  rw [h3] at e1
  exact pfirst_queue hS ⟨h2, by rw [e1]; simp, fun j a b => e2 j (h4 j b a)⟩ e1
theorem head_key {y : En} {M' : List En} (h : ((y :: M').map (·.1)).Nodup) : keyOf (y :: M') y.1 = some y.2 := (keyOf_some h).2 (by simp)
theorem InvS.rng (hS : St w sb qb gq hb gh n most turn R L) (hI : InvS n most turn R L M) : ∀ y ∈ M, y.1 < n := fun y hy => by
 rw [← hI.eq] at hy
 rcases mem_all.1 hy with ⟨d, s, h1, _⟩ | ⟨lv, _, h1, _⟩
 ·exact hS.h.good.rng _ h1
 ·exact (hS.q.rng _ h1).1
theorem top_of (hS : St w sb qb gq hb gh n most turn R L) (hI : InvS n most turn R L M) {y : En} {M' : List En} (he : M = y :: M') :
  Calls Tryz.prog 152 #[.pointer (some ⟨sb, 0, none⟩)] w fun e w' => e = .returned (.tuple #[.int .i64 (y.1 : Int), .agg #[.bool y.2.e, .int .u64 y.2.d, .int .u8 y.2.l], .bool true]) ∧ Below w.heap.size w w' := by
 refine stop_any hS y.1 y.2 (fun W hW => first_of hW hI he) (fun W hW => ?_)
 have := pkey_ok hW hI y.1 (InvS.rng hW hI y (by rw [he]; simp))
 have e : keyOf M y.1 = some y.2 := by rw [he]; exact head_key (by rw [← he]; exact hI.nd)
 rw [e] at this
 exact this
theorem rem_of (hS : St w sb qb gq hb gh n most turn R L) (hI : InvS n most turn R L M) {id : Nat} {k : Ke.K} (hk : (id, k) ∈ M) :
  ∃ R' L', InvS n most turn R' L' (cut id M) ∧ ∀ W, St W sb qb gq hb gh n most turn R L → Calls Tryz.prog 166 #[.pointer (some ⟨sb, 0, none⟩), .int .i64 (id : Int)] W fun e w' => e = .returned (.int .i64 0) ∧ St w' sb qb gq hb gh n most turn R' L' ∧ Fr (Own qb gq hb gh) W w' := by
 have hlc := len_cut hI.nd hk
 have hlen := hI.len
 have hmo := hI.fits
 have hm := hk
 rw [← hI.eq] at hm
 rcases mem_all.1 hm with ⟨d, s, h1, h2⟩ | ⟨lv, _, h1, h2⟩
 ·have hap := hI.apart h1
  have hlo := Ph.len_out hS.h.good h1
  refine ⟨R, Ph.out id L, ⟨?_, nd_cut hI.nd, by simp only at hlo; omega, fun y hy => hI.lt y (Ph.mem_out.1 hy).1, by omega, hI.mn, hI.rl⟩, fun W hW => ?_⟩
  ·rw [← hI.eq, cut_all, filter_miss hap]
  ·refine (sremove_heap hW id d s hap h1).mono ?_
   rintro e w' ⟨rfl, a, b⟩
   exact ⟨rfl, a, b.wide (fun k _ q => .inr q)⟩
 ·obtain ⟨R1, R2, rfl⟩ := List.append_of_mem h1
  have hmiss : ∀ y ∈ L, y.1 ≠ id := fun y hy e => hI.apart hy (id, lv) (by simp) e.symm
  refine ⟨R1 ++ R2, L, ⟨?_, nd_cut hI.nd, ?_, hI.lt, by omega, hI.mn, fun it hit => hI.rl it ?_⟩, fun W hW => ?_⟩
  ·rw [← hI.eq, cut_all, filter_split hS.q.ids, Ph.out_miss hmiss]
  ·simp at hlen ⊢
   omega
  ·rcases List.mem_append.1 hit with q | q
   ·exact List.mem_append_left _ q
   ·exact List.mem_append_right _ (List.mem_cons_of_mem _ q)
  ·refine (sremove_queue hW).mono ?_
   rintro e w' ⟨rfl, a, b⟩
   exact ⟨rfl, a, b.wide (fun k _ q => .inl q)⟩
theorem remove_ok (h : IsS w sb qb gq hb gh n most turn M) {id : Nat} {k : Ke.K} (hk : (id, k) ∈ M) :
  Calls Tryz.prog 166 #[.pointer (some ⟨sb, 0, none⟩), .int .i64 (id : Int)] w fun e w' => e = .returned (.int .i64 0) ∧ IsS w' sb qb gq hb gh n most turn (cut id M) ∧ Fr (Own qb gq hb gh) w w' := by
 obtain ⟨R, L, hS, hI⟩ := h
 obtain ⟨R', L', h1, h2⟩ := rem_of hS hI hk
 refine (h2 _ hS).mono ?_
 rintro e w' ⟨rfl, a, b⟩
 exact ⟨rfl, ⟨R', L', a, h1⟩, b⟩
theorem IsS.nil_parts (h : IsS w sb qb gq hb gh n most turn []) : St w sb qb gq hb gh n most turn [] [] := by
 obtain ⟨R, L, hS, hI⟩ := h
 have := hI.len
 simp at this
 obtain ⟨rfl, rfl⟩ := this
 exact hS
theorem top_ok {y : En} (h : IsS w sb qb gq hb gh n most turn (y :: M)) :
  Calls Tryz.prog 152 #[.pointer (some ⟨sb, 0, none⟩)] w fun e w' => e = .returned (.tuple #[.int .i64 (y.1 : Int), .agg #[.bool y.2.e, .int .u64 y.2.d, .int .u8 y.2.l], .bool true]) ∧ Below w.heap.size w w' := by
 obtain ⟨R, L, hS, hI⟩ := h
 exact top_of hS hI rfl
theorem right_cases {k : Ke.K} (hr : Ke.rightK k = true) (hk : k.ok) : (∃ d : Nat, k = Ke.deadK d) ∨ ∃ lv : Nat, lv < 256 ∧ k = Ke.fixK lv := by
 obtain ⟨e, d, l⟩ := k
 obtain ⟨⟨h1, h2⟩, h3, h4⟩ := hk
 simp only at h1 h2 h3 h4
 cases e
 ·right
  simp [Ke.rightK] at hr
  refine ⟨l.toNat, by omega, ?_⟩
  simp [Ke.fixK, hr]
  omega
 ·left
  simp [Ke.rightK] at hr
  refine ⟨d.toNat, ?_⟩
  simp [Ke.deadK, hr]
  omega
theorem put_new (h : IsS w sb qb gq hb gh n most turn M) (ht : turn ≤ 1000000000) (id : Nat) (k : Ke.K) (hi : id < n) (hr : Ke.rightK k = true) (hk : k.ok) (hno : keyOf M id = none) (hlen : M.length < most) :
  Calls Tryz.prog 140 #[.pointer (some ⟨sb, 0, none⟩), .int .i64 (id : Int), .agg #[.bool k.e, .int .u64 k.d, .int .u8 k.l]] w fun e w' => e = .returned (.int .i64 0) ∧ IsS w' sb qb gq hb gh n most (turn + 1) (put (id, k) M) ∧ Fr (OwnS sb qb gq hb gh) w w' := by
 have hn := h.n_le
 obtain ⟨R, L, hS, hI⟩ := h
 have hm := keyOf_none.1 hno
 have hl := hI.len
 have hmn := hI.mn
 have e1 := len_put (x := (id, k)) (M := M)
 rcases right_cases hr hk with ⟨d, rfl⟩ | ⟨lv, hlv, rfl⟩
 ·refine (sPut_dead hS ht id d hi (hI.missR hm) (hI.missL hm) (by omega) (by omega)).mono ?_
  rintro e w' ⟨rfl, a, b⟩
  refine ⟨rfl, ⟨R, _, a, ?_, nd_put hI.nd hm, by rw [Ph.len_ins]; omega, fun y hy => ?_, by omega, hI.mn, hI.rl⟩, b.wide (fun k _ q => ?_)⟩
  ·rw [← hI.eq, put_dead R L id d turn hI.lt]
  ·rcases Ph.mem_ins.1 hy with rfl | q
   ·exact Nat.lt_succ_self _
   ·exact Nat.lt_succ_of_lt (hI.lt y q)
  ·unfold OwnS Own; omega
 ·refine (sPut_level hS ht id lv hi hlv (hI.missR hm) (hI.missL hm) (by omega) (by omega)).mono ?_
  rintro e w' ⟨rfl, a, b⟩
  refine ⟨rfl, ⟨_, L, a, ?_, nd_put hI.nd hm, by simp; omega, fun y hy => Nat.lt_succ_of_lt (hI.lt y hy), by omega, hI.mn, fun it hit => ?_⟩, b.wide (fun k _ q => ?_)⟩
  ·rw [← hI.eq, put_level R L id lv hlv]
  ·rcases List.mem_append.1 hit with q | q
   ·exact hI.rl it q
   ·simp at q; rw [q]; exact hlv
  ·unfold OwnS Own; omega
theorem new_isS (n most : Nat) (w : World) (h1 : 1 ≤ n) (h2 : n ≤ 1024) (h3 : 1 ≤ most) (h4 : most ≤ n) :
  Calls Tryz.prog 68 #[.int .i64 n, .int .i64 most] w fun e w' => ∃ sb qb gq hb gh, e = .returned (.pointer (some ⟨sb, 0, none⟩)) ∧ (∀ k, OwnS sb qb gq hb gh k → w.heap.size ≤ k) ∧ IsS w' sb qb gq hb gh n most 0 [] ∧ Below w.heap.size w w' := by
 refine (snew_ok n most w h1 h2 h3 h4).mono ?_
 rintro e w' ⟨sb, qb, gq, hb, gh, rfl, a, b, c, d, f, hS, hB⟩
 refine ⟨sb, qb, gq, hb, gh, rfl, fun k hk => ?_, ⟨[], [], hS, by simp [all, dl]; exact lev_nil 256, by simp, rfl, by simp, by simp, h4, by simp⟩, hB⟩
 unfold OwnS Own at hk
 omega
end
end Go.Proofs.YtjlbmmiomfpgiaaGreatDoor
namespace Go.Proofs.YtjlbmmiomfpgiaaGreatDoor
set_option maxRecDepth 100000
open Go.RowKit
attribute [local go_sem ↓] Go.wp_at_zero Go.wp_at_succ
section
variable {w : World} {sb qb gq hb gh n most turn : Nat} {R : List (Nat × Nat)} {L : List Ph.Item} {M : List En}
theorem id_S (h : IsS w sb qb gq hb gh n most turn M) : ∃ R L, St w sb qb gq hb gh n most turn R L ∧ InvS n most turn R L M := h
theorem pkeyN (h : IsS w sb qb gq hb gh n most turn M) (id : Nat) (hi : id < n) :
  Calls Tryz.prog 165 #[.agg #[.pointer (some ⟨qb, 0, none⟩), .pointer (some ⟨hb, 0, none⟩)], .int .i64 (id : Int)] w fun e w' => e = .returned (.tuple #[.agg #[.bool (kz (keyOf M id)).e, .int .u64 (kz (keyOf M id)).d, .int .u8 (kz (keyOf M id)).l], .bool (keyOf M id).isSome]) ∧ Below w.heap.size w w' := by
 obtain ⟨R, L, hS, hI⟩ := h
 exact pkey_ok hS hI id hi
theorem slenS (h : IsS w sb qb gq hb gh n most turn M) :
  Calls Tryz.prog 153 #[.pointer (some ⟨sb, 0, none⟩)] w fun e w' => e = .returned (.int .i64 (M.length : Int)) ∧ Below w.heap.size w w' := by
 have hn := h.n_le
 obtain ⟨R, L, hS, hI⟩ := h
 have h1 := hI.len
 have h2 := hI.fits
 have h3 := hI.mn
 have := slen_ok hS (by omega)
 rw [h1] at this
 exact this
set_option maxHeartbeats 1000000 in
theorem smay_no (h : IsS w sb qb gq hb gh n most turn M) (id : Int) (k : Ke.K) (hb : id < 0 ∨ (n : Int) ≤ id ∨ Ke.rightK k = false) :
  Calls Tryz.prog 164 #[.pointer (some ⟨sb, 0, none⟩), .int .i64 id, .agg #[.bool k.e, .int .u64 k.d, .int .u8 k.l]] w fun e w' => e = .returned (.int .i64 2) ∧ Below w.heap.size w w' := by
 obtain ⟨R, L, hS, _⟩ := h
 have c2 := (hS.below ((Below.refl _ _).alloc (Nat.le_refl _) (.cells #[.bool k.e, .int .u64 k.d, .int .u8 k.l] 67))).c2
 have HA : Hid (Below w.heap.size w (w.alloc (.cells #[.bool k.e, .int .u64 k.d, .int .u8 k.l] 67))) := (Below.refl _ _).alloc (Nat.le_refl _) _
 have hlt := hS.lt
 have y0 : ¬ sb = w.heap.size := by omega
 have c20 := hS.c2
 have HR := veil (fun W => Ke.right_ok W k)
 clear hS
 have hcs : id < 0 ∨ (¬ id < 0 ∧ (n : Int) ≤ id) ∨ (¬ id < 0 ∧ ¬ (n : Int) ≤ id ∧ Ke.rightK k = false) := by
  by_cases q1 : id < 0
  ·exact .inl q1
  ·by_cases q2 : (n : Int) ≤ id
   ·exact .inr (.inl ⟨q1, q2⟩)
   ·rcases hb with q | q | q
    ·exact absurd q q1
    ·exact absurd q q2
    ·exact .inr (.inr ⟨q1, q2, q⟩)
 clear hb
 rcases hcs with h1 | ⟨h1, h2⟩ | ⟨h1, h2, h3⟩
 ·go_enter Tryz.func164, Tryz.ntmps164
  go_wp2
  go_ret
  exact ⟨rfl, HA.out⟩
 ·go_enter Tryz.func164, Tryz.ntmps164
  go_wp2
  go_ret
  exact ⟨rfl, HA.out⟩
 ·rw [h3] at HR
  go_enter Tryz.func164, Tryz.ntmps164
  go_wp2_with (go_at_call 126; refine (HR.out _).mono ?_; rintro e w1 ⟨rfl, hb1⟩; have HB1 := veil (HA.out.trans (hb1.mono HA.out.size)); clear hb1)
  go_ret
  exact ⟨rfl, HB1.out⟩
theorem boxS (h : IsS w sb qb gq hb gh n most turn M) (k : Ke.K) : ∀ W, Below (w.heap.size + 1) (w.alloc (.cells #[.bool k.e, .int .u64 k.d, .int .u8 k.l] 67)) W → IsS W sb qb gq hb gh n most turn M ∧ (W.cell? ⟨w.heap.size, 0, none⟩ = some (.bool k.e) ∧ W.cell? ⟨w.heap.size, 1, none⟩ = some (.int .u64 k.d) ∧ W.cell? ⟨w.heap.size, 2, none⟩ = some (.int .u8 k.l)) ∧ (∀ o, W.frozen? ⟨w.heap.size, o, none⟩ = false) ∧ w.heap.size + 1 ≤ W.heap.size ∧ Below w.heap.size w W := fun W hW => by
 have hA := (Below.refl w.heap.size w).alloc (Nat.le_refl _) (.cells #[.bool k.e, .int .u64 k.d, .int .u8 k.l] 67)
 have hz : (w.alloc (.cells #[.bool k.e, .int .u64 k.d, .int .u8 k.l] 67)).heap.size = w.heap.size + 1 := by simp
 refine ⟨(h.below hA).below (by rw [hz]; exact hW), ⟨?_, ?_, ?_⟩, fun o => ?_, by rw [← hz]; exact hW.size, hA.trans (hW.mono (by omega))⟩
 ·rw [hW.cell (p := ⟨w.heap.size, 0, none⟩) (by simp), Ph.cell_new]; rfl
 ·rw [hW.cell (p := ⟨w.heap.size, 1, none⟩) (by simp), Ph.cell_new]; rfl
 ·rw [hW.cell (p := ⟨w.heap.size, 2, none⟩) (by simp), Ph.cell_new]; rfl
 ·rw [World.frozen?_of_block (a := ⟨w.heap.size, o, none⟩) (hW.block w.heap.size (by omega))]
  exact Ph.frozen_new _ _ _ _
theorem smay_yes (h : IsS w sb qb gq hb gh n most turn M) (id : Nat) (hi : id < n) (k : Ke.K) (hk : Ke.rightK k = true) :
  Calls Tryz.prog 164 #[.pointer (some ⟨sb, 0, none⟩), .int .i64 (id : Int), .agg #[.bool k.e, .int .u64 k.d, .int .u8 k.l]] w fun e w' => e = .returned (.int .i64 0) ∧ Below w.heap.size w w' := by
 obtain ⟨R, L, hS, _⟩ := h
 exact smay_ok hS id hi k hk
set_option maxHeartbeats 1000000 in
theorem sPut_no (h : IsS w sb qb gq hb gh n most turn M) (id : Int) (k : Ke.K) (hb : id < 0 ∨ (n : Int) ≤ id ∨ Ke.rightK k = false) :
  Calls Tryz.prog 140 #[.pointer (some ⟨sb, 0, none⟩), .int .i64 id, .agg #[.bool k.e, .int .u64 k.d, .int .u8 k.l]] w fun e w' => e = .returned (.int .i64 2) ∧ Below w.heap.size w w' := by
 have HX := veil (boxS h k)
 have HMay := veil (smay_no (boxS h k _ (Below.refl _ _)).1 id k hb)
 clear h hb
 go_enter Tryz.func140, Tryz.ntmps140
 go_wp2_with (go_at_call 164; refine (HMay.out).mono ?_; rintro e w1 ⟨rfl, hb1⟩; have HB1 := veil (show Below (w.heap.size + 1) _ w1 by simpa using hb1); obtain ⟨hs1, ⟨k10, k11, k12⟩, _, hz1, hbw1⟩ := HX.out _ HB1.out; have HS1 := veil hs1; have HBW1 := veil hbw1; obtain ⟨R1, L1, hst1, _⟩ := id_S hs1; have c10 := hst1.c0; have c11 := hst1.c1; clear hb1 hs1 hst1 hbw1)
 go_ret
 exact ⟨rfl, HBW1.out⟩
set_option maxHeartbeats 1000000 in
theorem sPut_known (h : IsS w sb qb gq hb gh n most turn M) (id : Nat) (hi : id < n) (k : Ke.K) (hr : Ke.rightK k = true) (k' : Ke.K) (hko : keyOf M id = some k') :
  Calls Tryz.prog 140 #[.pointer (some ⟨sb, 0, none⟩), .int .i64 (id : Int), .agg #[.bool k.e, .int .u64 k.d, .int .u8 k.l]] w fun e w' => e = .returned (.int .i64 5) ∧ Below w.heap.size w w' := by
 have HX := veil (boxS h k)
 have HMay := veil (smay_yes (boxS h k _ (Below.refl _ _)).1 id hi k hr)
 have HKO := veil hko
 clear h hko
 go_enter Tryz.func140, Tryz.ntmps140
 go_wp2_with (first | (go_at_call 164; refine (HMay.out).mono ?_; rintro e w1 ⟨rfl, hb1⟩; have HB1 := veil (show Below (w.heap.size + 1) _ w1 by simpa using hb1); obtain ⟨hs1, ⟨k10, k11, k12⟩, _, hz1, hbw1⟩ := HX.out _ HB1.out; have HS1 := veil hs1; have HBW1 := veil hbw1; obtain ⟨R1, L1, hst1, _⟩ := id_S hs1; have c10 := hst1.c0; have c11 := hst1.c1; clear hb1 hs1 hst1 hbw1) | (go_at_call 165; refine (pkeyN HS1.out id hi).mono ?_; rw [HKO.out]; rintro e w2 ⟨rfl, hb2⟩; have HB2 := veil (HB1.out.trans (hb2.mono hz1)); obtain ⟨hs2, ⟨k20, k21, k22⟩, _, hz2, hbw2⟩ := HX.out _ HB2.out; have HS2 := veil hs2; have HBW2 := veil hbw2; obtain ⟨R2, L2, hst2, _⟩ := id_S hs2; have c23 := hst2.c3; clear hb2 hs2 hst2 hbw2))
 go_ret
 exact ⟨rfl, HBW2.out.alloc HBW2.out.size _⟩
set_option maxHeartbeats 2000000 in
theorem sPut_full (h : IsS w sb qb gq hb gh n most turn M) (id : Nat) (hi : id < n) (k : Ke.K) (hr : Ke.rightK k = true) (hko : keyOf M id = none) (hf : M.length = most) :
  Calls Tryz.prog 140 #[.pointer (some ⟨sb, 0, none⟩), .int .i64 (id : Int), .agg #[.bool k.e, .int .u64 k.d, .int .u8 k.l]] w fun e w' => e = .returned (.int .i64 4) ∧ Below w.heap.size w w' := by
 have HX := veil (boxS h k)
 have HMay := veil (smay_yes (boxS h k _ (Below.refl _ _)).1 id hi k hr)
 have HKO := veil hko
 have hm1 := h.n_le
 clear h hko
 go_enter Tryz.func140, Tryz.ntmps140
 go_wp2_with (first | (go_at_call 164; refine (HMay.out).mono ?_; rintro e w1 ⟨rfl, hb1⟩; have HB1 := veil (show Below (w.heap.size + 1) _ w1 by simpa using hb1); obtain ⟨hs1, ⟨k10, k11, k12⟩, _, hz1, hbw1⟩ := HX.out _ HB1.out; have HS1 := veil hs1; have HBW1 := veil hbw1; obtain ⟨R1, L1, hst1, _⟩ := id_S hs1; have c10 := hst1.c0; have c11 := hst1.c1; clear hb1 hs1 hst1 hbw1) | (go_at_call 165; refine (pkeyN HS1.out id hi).mono ?_; rw [HKO.out]; rintro e w2 ⟨rfl, hb2⟩; have HB2 := veil (HB1.out.trans (hb2.mono hz1)); obtain ⟨hs2, ⟨k20, k21, k22⟩, _, hz2, hbw2⟩ := HX.out _ HB2.out; have HS2 := veil hs2; have HBW2 := veil hbw2; obtain ⟨R2, L2, hst2, _⟩ := id_S hs2; have c23 := hst2.c3; clear hb2 hs2 hst2 hbw2))
 have HW3 := veil (show Below (w.heap.size + 1) (w.alloc (.cells #[.bool k.e, .int .u64 k.d, .int .u8 k.l] 67)) ((w2.alloc (.cells #[.bool false, .int .u64 0, .int .u8 0] 67)).drew) from (HB2.out.alloc hz2 _).drew)
 obtain ⟨hs3, _, _, hz3, hbw3⟩ := HX.out _ HW3.out
 have HLn := veil (slenS hs3)
 rw [hf] at HLn
 obtain ⟨R3, L3, hst3, _⟩ := id_S hs3
 have c33 := hst3.c3
 clear hs3 hst3 hbw3 k10 k11 k12 k20 k21 k22 c10 c11 c23 hf
 go_region_held3 (fun w' => w'.cell? ⟨sb, 3, none⟩ = some (.int .i64 (most : Int)))
  (first | exact c43 | exact c33 | go_keep)
  (first | (go_at_call 153; refine (HLn.out).mono ?_; rintro e w3 ⟨rfl, hb3⟩; have HB3 := veil (HW3.out.trans (hb3.mono (by simpa using hz3))); obtain ⟨hs4, _, _, hz4, hbw4⟩ := HX.out _ HB3.out; have HBW4 := veil hbw4; obtain ⟨R4, L4, hst4, _⟩ := id_S hs4; have c43 := hst4.c3; clear hb3 hs4 hst4 hbw4))
 go_wp2
 go_ret
 exact ⟨rfl, HBW4.out⟩
theorem sputS (h : IsS w sb qb gq hb gh n most turn M) (ht : turn ≤ 1000000000) (id : Nat) (k : Ke.K) (hi : id < n) (hr : Ke.rightK k = true) (hk : k.ok) (hno : keyOf M id = none) (hlen : M.length < most) :
  Calls Tryz.prog 167 #[.pointer (some ⟨sb, 0, none⟩), .int .i64 (id : Int), .agg #[.bool k.e, .int .u64 k.d, .int .u8 k.l]] w fun e w' => e = .returned (.tuple #[]) ∧ IsS w' sb qb gq hb gh n most (turn + 1) (put (id, k) M) ∧ Fr (OwnS sb qb gq hb gh) w w' := by
 have hn := h.n_le
 obtain ⟨R, L, hS, hI⟩ := h
 have hm := keyOf_none.1 hno
 have hl := hI.len
 have hmn := hI.mn
 have e1 := len_put (x := (id, k)) (M := M)
 rcases right_cases hr hk with ⟨d, rfl⟩ | ⟨lv, hlv, rfl⟩
 ·refine (sput_dead hS ht id d hi (hI.missL hm)).mono ?_
  rintro e w' ⟨rfl, a, b⟩
  refine ⟨rfl, ⟨R, _, a, ?_, nd_put hI.nd hm, by rw [Ph.len_ins]; omega, fun y hy => ?_, by omega, hI.mn, hI.rl⟩, b.wide (fun k _ q => ?_)⟩
  ·rw [← hI.eq, put_dead R L id d turn hI.lt]
  ·rcases Ph.mem_ins.1 hy with rfl | q
   ·exact Nat.lt_succ_self _
   ·exact Nat.lt_succ_of_lt (hI.lt y q)
  ·unfold OwnS Own; omega
 ·refine (sput_level hS ht id lv hi hlv (hI.missR hm)).mono ?_
  rintro e w' ⟨rfl, a, b⟩
  refine ⟨rfl, ⟨_, L, a, ?_, nd_put hI.nd hm, by simp; omega, fun y hy => Nat.lt_succ_of_lt (hI.lt y hy), by omega, hI.mn, fun it hit => ?_⟩, b.wide (fun k _ q => ?_)⟩
  ·rw [← hI.eq, put_level R L id lv hlv]
  ·rcases List.mem_append.1 hit with q | q
   ·exact hI.rl it q
   ·simp at q; rw [q]; exact hlv
  ·unfold OwnS Own; omega
set_option maxHeartbeats 1000000 in
theorem sChange_no (h : IsS w sb qb gq hb gh n most turn M) (id : Int) (k : Ke.K) (hb : id < 0 ∨ (n : Int) ≤ id ∨ Ke.rightK k = false) :
  Calls Tryz.prog 130 #[.pointer (some ⟨sb, 0, none⟩), .int .i64 id, .agg #[.bool k.e, .int .u64 k.d, .int .u8 k.l]] w fun e w' => e = .returned (.int .i64 2) ∧ Below w.heap.size w w' := by
 have HX := veil (boxS h k)
 have HMay := veil (smay_no (boxS h k _ (Below.refl _ _)).1 id k hb)
 clear h hb
 go_enter Tryz.func130, Tryz.ntmps130
 go_wp2_with (go_at_call 164; refine (HMay.out).mono ?_; rintro e w1 ⟨rfl, hb1⟩; have HB1 := veil (show Below (w.heap.size + 1) _ w1 by simpa using hb1); obtain ⟨hs1, ⟨k10, k11, k12⟩, _, hz1, hbw1⟩ := HX.out _ HB1.out; have HS1 := veil hs1; have HBW1 := veil hbw1; obtain ⟨R1, L1, hst1, _⟩ := id_S hs1; have c10 := hst1.c0; have c11 := hst1.c1; clear hb1 hs1 hst1 hbw1)
 go_ret
 exact ⟨rfl, HBW1.out⟩
set_option maxHeartbeats 2000000 in
theorem sChange_none (h : IsS w sb qb gq hb gh n most turn M) (id : Nat) (hi : id < n) (k : Ke.K) (hr : Ke.rightK k = true) (hko : keyOf M id = none) :
  Calls Tryz.prog 130 #[.pointer (some ⟨sb, 0, none⟩), .int .i64 (id : Int), .agg #[.bool k.e, .int .u64 k.d, .int .u8 k.l]] w fun e w' => e = .returned (.int .i64 6) ∧ Below w.heap.size w w' := by
 have HX := veil (boxS h k)
 have HMay := veil (smay_yes (boxS h k _ (Below.refl _ _)).1 id hi k hr)
 have HKEY : Hid (∀ W, IsS W sb qb gq hb gh n most turn M → Calls Tryz.prog 165 #[.agg #[.pointer (some ⟨qb, 0, none⟩), .pointer (some ⟨hb, 0, none⟩)], .int .i64 (id : Int)] W fun e w' => e = .returned (.tuple #[.agg #[.bool false, .int .u64 0, .int .u8 0], .bool false]) ∧ Below W.heap.size W w') := fun W hW => by
  have := pkeyN hW id hi
  rw [hko] at this
  exact this
 have HRM : Hid (∀ W, IsS W sb qb gq hb gh n most turn M → Calls Tryz.prog 166 #[.pointer (some ⟨sb, 0, none⟩), .int .i64 (id : Int)] W fun e w' => e = .returned (.int .i64 6) ∧ w' = W) := fun W hW => by
  obtain ⟨R, L, hS, hI⟩ := hW
  have hm := keyOf_none.1 hko
  exact sremove_none hS id hi (hI.missR hm) (hI.missL hm)
 clear h hko
 go_enter Tryz.func130, Tryz.ntmps130
 go_wp2_with (first | (go_at_call 164; refine (HMay.out).mono ?_; rintro e w1 ⟨rfl, hb1⟩; have HB1 := veil (show Below (w.heap.size + 1) _ w1 by simpa using hb1); obtain ⟨hs1, ⟨k10, k11, k12⟩, _, hz1, hbw1⟩ := HX.out _ HB1.out; have HS1 := veil hs1; have HBW1 := veil hbw1; obtain ⟨R1, L1, hst1, _⟩ := id_S hs1; have c10 := hst1.c0; have c11 := hst1.c1; clear hb1 hs1 hst1 hbw1) | (go_at_call 165; refine (HKEY.out _ HS1.out).mono ?_; rintro e w2 ⟨rfl, hb2⟩; have HB2 := veil (HB1.out.trans (hb2.mono hz1)); have hz2 := (HX.out _ HB2.out).2.2.2.1; have HB3 := veil (HB2.out.alloc hz2 (.cells #[.bool false, .int .u64 0, .int .u8 0] 67)); obtain ⟨hs3, ⟨k30, k31, k32⟩, _, hz3, hbw3⟩ := HX.out _ HB3.out; have HS3 := veil hs3; have HBW3 := veil hbw3; have y0 : ¬ w.heap.size = w2.heap.size := (by omega); have y1 : ¬ w2.heap.size = w.heap.size := (by omega); obtain ⟨_, ⟨k20, k21, k22⟩, _, _, _⟩ := HX.out _ HB2.out; clear hb2 hs3 hbw3) | (go_at_call 166; refine (HRM.out _ HS3.out).mono ?_; rintro e w4 ⟨rfl, hw⟩; subst hw))
 go_ret
 exact ⟨rfl, HBW3.out⟩
set_option maxHeartbeats 2000000 in
theorem sChange_same (h : IsS w sb qb gq hb gh n most turn M) (id : Nat) (hi : id < n) (k : Ke.K) (hr : Ke.rightK k = true) (hko : keyOf M id = some k) :
  Calls Tryz.prog 130 #[.pointer (some ⟨sb, 0, none⟩), .int .i64 (id : Int), .agg #[.bool k.e, .int .u64 k.d, .int .u8 k.l]] w fun e w' => e = .returned (.int .i64 0) ∧ Below w.heap.size w w' := by
 have HX := veil (boxS h k)
 have HMay := veil (smay_yes (boxS h k _ (Below.refl _ _)).1 id hi k hr)
 have HKEY : Hid (∀ W, IsS W sb qb gq hb gh n most turn M → Calls Tryz.prog 165 #[.agg #[.pointer (some ⟨qb, 0, none⟩), .pointer (some ⟨hb, 0, none⟩)], .int .i64 (id : Int)] W fun e w' => e = .returned (.tuple #[.agg #[.bool k.e, .int .u64 k.d, .int .u8 k.l], .bool true]) ∧ Below W.heap.size W w') := fun W hW => by
  have := pkeyN hW id hi
  rw [hko] at this
  exact this
 have hsm : Ke.same k k = true := by rw [Ke.same_eq]; exact decide_eq_true rfl
 clear h hko
 go_enter Tryz.func130, Tryz.ntmps130
 go_wp2_with (first | (go_at_call 164; refine (HMay.out).mono ?_; rintro e w1 ⟨rfl, hb1⟩; have HB1 := veil (show Below (w.heap.size + 1) _ w1 by simpa using hb1); obtain ⟨hs1, ⟨k10, k11, k12⟩, _, hz1, hbw1⟩ := HX.out _ HB1.out; have HS1 := veil hs1; have HBW1 := veil hbw1; obtain ⟨R1, L1, hst1, _⟩ := id_S hs1; have c10 := hst1.c0; have c11 := hst1.c1; clear hb1 hs1 hst1 hbw1) | (go_at_call 165; refine (HKEY.out _ HS1.out).mono ?_; rintro e w2 ⟨rfl, hb2⟩; have HB2 := veil (HB1.out.trans (hb2.mono hz1)); have hz2 := (HX.out _ HB2.out).2.2.2.1; have HB3 := veil (HB2.out.alloc hz2 (.cells #[.bool k.e, .int .u64 k.d, .int .u8 k.l] 67)); obtain ⟨hs3, ⟨k30, k31, k32⟩, _, hz3, hbw3⟩ := HX.out _ HB3.out; have HS3 := veil hs3; have HBW3 := veil hbw3; have y0 : ¬ w.heap.size = w2.heap.size := (by omega); have y1 : ¬ w2.heap.size = w.heap.size := (by omega); obtain ⟨_, ⟨k20, k21, k22⟩, _, _, _⟩ := HX.out _ HB2.out; clear hb2 hs3 hbw3))
 go_ret
 exact ⟨rfl, HBW3.out⟩
set_option maxHeartbeats 2000000 in
theorem sChange_other (h : IsS w sb qb gq hb gh n most turn M) (ht : turn ≤ 1000000000) (id : Nat) (hi : id < n) (k : Ke.K) (hr : Ke.rightK k = true) (hk : k.ok) (k' : Ke.K) (hko : keyOf M id = some k') (hne : k' ≠ k) :
  Calls Tryz.prog 130 #[.pointer (some ⟨sb, 0, none⟩), .int .i64 (id : Int), .agg #[.bool k.e, .int .u64 k.d, .int .u8 k.l]] w fun e w' => e = .returned (.int .i64 0) ∧ IsS w' sb qb gq hb gh n most (turn + 1) (put (id, k) (cut id M)) ∧ Fr (OwnS sb qb gq hb gh) w w' := by
 have HX := veil (boxS h k)
 have HMay := veil (smay_yes (boxS h k _ (Below.refl _ _)).1 id hi k hr)
 have HKEY : Hid (∀ W, IsS W sb qb gq hb gh n most turn M → Calls Tryz.prog 165 #[.agg #[.pointer (some ⟨qb, 0, none⟩), .pointer (some ⟨hb, 0, none⟩)], .int .i64 (id : Int)] W fun e w' => e = .returned (.tuple #[.agg #[.bool k'.e, .int .u64 k'.d, .int .u8 k'.l], .bool true]) ∧ Below W.heap.size W w') := fun W hW => by
  have := pkeyN hW id hi
  rw [hko] at this
  exact this
 have hsm : Ke.same k' k = false := by rw [Ke.same_eq]; exact decide_eq_false hne
 obtain ⟨R, L, hS, hI⟩ := id_S h
 have hmem := (keyOf_some hI.nd).1 hko
 have HMEM := veil hmem
 have hcl := len_cut hI.nd hmem
 have hfit := hI.fits
 have HNC : Hid (keyOf (cut id M) id = none) := keyOf_none.2 (fun y hy => (mem_cut.1 hy).2)
 have HLC : Hid ((cut id M).length < most) := by unfold Hid; omega
 have hnb : ¬ Own qb gq hb gh w.heap.size := by have := h.blocks w.heap.size; intro q; exact absurd (this (.inr q)) (by omega)
 have HNB := veil hnb
 clear h hko hS hI hmem hcl hfit hne hnb
 go_enter Tryz.func130, Tryz.ntmps130
 go_wp2_with (first
  | (go_at_call 164; refine (HMay.out).mono ?_; rintro e w1 ⟨rfl, hb1⟩; have HB1 := veil (show Below (w.heap.size + 1) _ w1 by simpa using hb1); obtain ⟨hs1, ⟨k10, k11, k12⟩, _, hz1, hbw1⟩ := HX.out _ HB1.out; have HS1 := veil hs1; have HBW1 := veil hbw1; obtain ⟨R1, L1, hst1, _⟩ := id_S hs1; have c10 := hst1.c0; have c11 := hst1.c1; clear hb1 hs1 hst1 hbw1)
  | (go_at_call 165; refine (HKEY.out _ HS1.out).mono ?_; rintro e w2 ⟨rfl, hb2⟩; have HB2 := veil (HB1.out.trans (hb2.mono hz1)); have hz2 := (HX.out _ HB2.out).2.2.2.1; have HB3 := veil (HB2.out.alloc hz2 (.cells #[.bool k'.e, .int .u64 k'.d, .int .u8 k'.l] 67)); obtain ⟨hs3, ⟨k30, k31, k32⟩, _, hz3, hbw3⟩ := HX.out _ HB3.out; have HS3 := veil hs3; have HBW3 := veil hbw3; have y0 : ¬ w.heap.size = w2.heap.size := (by omega); have y1 : ¬ w2.heap.size = w.heap.size := (by omega); obtain ⟨_, ⟨k20, k21, k22⟩, _, _, _⟩ := HX.out _ HB2.out; clear hb2 hs3 hbw3)
  | (go_at_call 166; refine (remove_ok HS3.out HMEM.out).mono ?_; rintro e w4 ⟨rfl, hs4, hf4⟩; have HS4 := veil hs4; have HF4 := veil hf4; have m0 := (hf4.cell (a := ⟨w.heap.size, 0, none⟩) hz3 HNB.out).trans k30; have m1 := (hf4.cell (a := ⟨w.heap.size, 1, none⟩) hz3 HNB.out).trans k31; have m2 := (hf4.cell (a := ⟨w.heap.size, 2, none⟩) hz3 HNB.out).trans k32; clear hs4 hf4)
  | (go_at_call 167; refine (sputS HS4.out ht id k hi hr hk HNC.out HLC.out).mono ?_; rintro e w5 ⟨rfl, hs5, hf5⟩; have HS5 := veil hs5; have HF5 := veil (((Fr.of_below' HBW3.out).trans (HF4.out.wide (fun q _ z => (.inr z : OwnS sb qb gq hb gh q)))).trans hf5); clear hs5 hf5))
 go_ret
 exact ⟨rfl, HS5.out, HF5.out⟩
end
end Go.Proofs.YtjlbmmiomfpgiaaGreatDoor
namespace Go.Proofs.YtjlbmmiomfpgiaaGreatDoor
set_option maxRecDepth 100000
open Go.RowKit
set_option linter.unusedVariables false
def Bad (n : Nat) (id : Int) (k : Ke.K) : Prop := id < 0 ∨ (n : Int) ≤ id ∨ Ke.rightK k = false
instance (n : Nat) (id : Int) (k : Ke.K) : Decidable (Bad n id k) := inferInstanceAs (Decidable (_ ∨ _ ∨ _))
def putC (n most : Nat) (M : List En) (id : Int) (k : Ke.K) : Int := if Bad n id k then 2 else if (keyOf M id.toNat).isSome then 5 else if M.length = most then 4 else 0
def putL (n most : Nat) (M : List En) (id : Int) (k : Ke.K) : List En := if putC n most M id k = 0 then put (id.toNat, k) M else M
def chgC (n : Nat) (M : List En) (id : Int) (k : Ke.K) : Int := if Bad n id k then 2 else if (keyOf M id.toNat).isSome then 0 else 6
def chgL (n : Nat) (M : List En) (id : Int) (k : Ke.K) : List En := if chgC n M id k = 0 then (if keyOf M id.toNat = some k then M else put (id.toNat, k) (cut id.toNat M)) else M
def remC (n : Nat) (M : List En) (id : Int) : Int := if id < 0 ∨ (n : Int) ≤ id then 2 else if (keyOf M id.toNat).isSome then 0 else 6
def remL (n : Nat) (M : List En) (id : Int) : List En := if remC n M id = 0 then cut id.toNat M else M
def tkI : List En → Int
 | [] => 0
 | x :: _ => (x.1 : Int)
def tkK : List En → Ke.K
 | [] => ⟨false, 0, 0⟩
 | x :: _ => x.2
def tkO : List En → Bool
 | [] => false
 | _ :: _ => true
theorem bad_cases (n : Nat) (M : List En) (id : Int) (k : Ke.K) : Bad n id k ∨ (∃ i : Nat, id = i ∧ i < n ∧ Ke.rightK k = true ∧ ¬ Bad n (i : Int) k) := by
 by_cases h : Bad n id k
 ·exact .inl h
 ·have h' := h
  unfold Bad at h'
  simp only [not_or] at h'
  obtain ⟨i, rfl⟩ := Int.eq_ofNat_of_zero_le (show 0 ≤ id by omega)
  refine .inr ⟨i, rfl, by omega, ?_, h⟩
  simpa using h'.2.2
section
variable {w : World} {sb qb gq hb gh n most turn : Nat} {M : List En}
theorem IsS.nd (h : IsS w sb qb gq hb gh n most turn M) : (M.map (·.1)).Nodup := by obtain ⟨_, _, _, hI⟩ := h; exact hI.nd
theorem IsS.fit (h : IsS w sb qb gq hb gh n most turn M) : M.length ≤ most := by obtain ⟨_, _, _, hI⟩ := h; exact hI.fits
theorem sput_all (h : IsS w sb qb gq hb gh n most turn M) (ht : turn ≤ 1000000000) (id : Int) (k : Ke.K) (hk : k.ok) :
  Calls Tryz.prog 140 #[.pointer (some ⟨sb, 0, none⟩), .int .i64 id, .agg #[.bool k.e, .int .u64 k.d, .int .u8 k.l]] w fun e w' => e = .returned (.int .i64 (putC n most M id k)) ∧ (∃ t, t ≤ turn + 1 ∧ IsS w' sb qb gq hb gh n most t (putL n most M id k)) ∧ Fr (OwnS sb qb gq hb gh) w w' := by
 unfold putL putC
 rcases bad_cases n M id k with hb | ⟨i, rfl, hi, hr, hnb⟩
 ·rw [if_pos hb, if_neg (by decide)]
  refine (sPut_no h id k hb).mono ?_
  rintro e w' ⟨rfl, hb'⟩
  exact ⟨rfl, ⟨turn, by omega, h.below hb'⟩, Fr.of_below' hb'⟩
 ·rw [if_neg hnb]
  cases hko : keyOf M (i : Int).toNat with
  | some k' =>
   rw [if_pos (show (some k').isSome = true from rfl), if_neg (by decide)]
   refine (sPut_known h i hi k hr k' hko).mono ?_
   rintro e w' ⟨rfl, hb'⟩
   exact ⟨rfl, ⟨turn, by omega, h.below hb'⟩, Fr.of_below' hb'⟩
  | none =>
   rw [if_neg (by simp)]
   by_cases hf : M.length = most
   ·rw [if_pos hf, if_neg (by decide)]
    refine (sPut_full h i hi k hr hko hf).mono ?_
    rintro e w' ⟨rfl, hb'⟩
    exact ⟨rfl, ⟨turn, by omega, h.below hb'⟩, Fr.of_below' hb'⟩
   ·rw [if_neg hf, if_pos rfl]
    have := h.fit
    refine (put_new h ht i k hi hr hk hko (by omega)).mono ?_
    rintro e w' ⟨rfl, hs, hf'⟩
    exact ⟨rfl, ⟨turn + 1, by omega, hs⟩, hf'⟩
theorem schange_all (h : IsS w sb qb gq hb gh n most turn M) (ht : turn ≤ 1000000000) (id : Int) (k : Ke.K) (hk : k.ok) :
  Calls Tryz.prog 130 #[.pointer (some ⟨sb, 0, none⟩), .int .i64 id, .agg #[.bool k.e, .int .u64 k.d, .int .u8 k.l]] w fun e w' => e = .returned (.int .i64 (chgC n M id k)) ∧ (∃ t, t ≤ turn + 1 ∧ IsS w' sb qb gq hb gh n most t (chgL n M id k)) ∧ Fr (OwnS sb qb gq hb gh) w w' := by
 unfold chgL chgC
 rcases bad_cases n M id k with hb | ⟨i, rfl, hi, hr, hnb⟩
 ·rw [if_pos hb, if_neg (by decide)]
  refine (sChange_no h id k hb).mono ?_
  rintro e w' ⟨rfl, hb'⟩
  exact ⟨rfl, ⟨turn, by omega, h.below hb'⟩, Fr.of_below' hb'⟩
 ·rw [if_neg hnb]
  cases hko : keyOf M (i : Int).toNat with
  | none =>
   rw [if_neg (by simp), if_neg (by decide)]
   refine (sChange_none h i hi k hr hko).mono ?_
   rintro e w' ⟨rfl, hb'⟩
   exact ⟨rfl, ⟨turn, by omega, h.below hb'⟩, Fr.of_below' hb'⟩
  | some k' =>
   rw [if_pos (show (some k').isSome = true from rfl), if_pos rfl]
   by_cases hkk : k' = k
   ·subst hkk
    rw [if_pos rfl]
    refine (sChange_same h i hi k' hr hko).mono ?_
    rintro e w' ⟨rfl, hb'⟩
    exact ⟨rfl, ⟨turn, by omega, h.below hb'⟩, Fr.of_below' hb'⟩
   ·rw [if_neg (fun q => hkk (Option.some.inj q))]
    refine (sChange_other h ht i hi k hr hk k' hko hkk).mono ?_
    rintro e w' ⟨rfl, hs, hf'⟩
    exact ⟨rfl, ⟨turn + 1, by omega, hs⟩, hf'⟩
theorem Own.wide {k : Nat} (h : Own qb gq hb gh k) : OwnS sb qb gq hb gh k := .inr h
theorem sremove_all (h : IsS w sb qb gq hb gh n most turn M) (id : Int) :
  Calls Tryz.prog 166 #[.pointer (some ⟨sb, 0, none⟩), .int .i64 id] w fun e w' => e = .returned (.int .i64 (remC n M id)) ∧ (∃ t, t ≤ turn + 1 ∧ IsS w' sb qb gq hb gh n most t (remL n M id)) ∧ Fr (OwnS sb qb gq hb gh) w w' := by
 unfold remL remC
 by_cases hb : id < 0 ∨ (n : Int) ≤ id
 ·rw [if_pos hb, if_neg (by decide)]
  obtain ⟨R, L, hS, hI⟩ := id_S h
  refine (sremove_range hS id hb).mono ?_
  rintro e w' ⟨rfl, rfl⟩
  exact ⟨rfl, ⟨turn, by omega, h⟩, Fr.refl _ _⟩
 ·rw [if_neg hb]
  obtain ⟨i, rfl⟩ := Int.eq_ofNat_of_zero_le (show 0 ≤ id by omega)
  cases hko : keyOf M (i : Int).toNat with
  | none =>
   rw [if_neg (by simp), if_neg (by decide)]
   obtain ⟨R, L, hS, hI⟩ := id_S h
   have hm := keyOf_none.1 hko
   refine (sremove_none hS i (by omega) (hI.missR hm) (hI.missL hm)).mono ?_
   rintro e w' ⟨rfl, rfl⟩
   exact ⟨rfl, ⟨turn, by omega, h⟩, Fr.refl _ _⟩
  | some k' =>
   rw [if_pos (show (some k').isSome = true from rfl), if_pos rfl]
   refine (remove_ok h ((keyOf_some h.nd).1 hko)).mono ?_
   rintro e w' ⟨rfl, hs, hf'⟩
   exact ⟨rfl, ⟨turn, by omega, hs⟩, hf'.wide (fun k _ q => Own.wide q)⟩
theorem stop_all (h : IsS w sb qb gq hb gh n most turn M) :
  Calls Tryz.prog 152 #[.pointer (some ⟨sb, 0, none⟩)] w fun e w' => e = .returned (.tuple #[.int .i64 (tkI M), .agg #[.bool (tkK M).e, .int .u64 (tkK M).d, .int .u8 (tkK M).l], .bool (tkO M)]) ∧ Below w.heap.size w w' := by
 cases M with
 | nil => exact stop_none h.nil_parts
 | cons x M => exact top_ok h
end
section
variable {w : World} {base rb n most : Nat} {v : Value} {M : List En}
end
section
variable {w w' w'' : World} {base sb qb gq hb gh rb n most turn turn' : Nat} {v v' : Value} {M M' : List En}
end
end Go.Proofs.YtjlbmmiomfpgiaaGreatDoor
