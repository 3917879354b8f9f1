/-
  A set's parts: what is put, which is first; its own calls, as far as a small set asks them.
-/
import Derived.Test.YtlfejgjhamcahaaY1
import Derived.OwnWalk
namespace Go.Proofs.Ytlfejgjhamcahaa
open Go.RowKit
attribute [local go_sem ↓] Go.wp_at_zero Go.wp_at_succ

/-- A frame: blocks that were there and do not belong to S are as they were. -/
structure Fr (S : Nat → Prop) (w w' : World) : Prop where
  os : w'.os = w.os
  tape : w'.tape = w.tape
  output : w'.output = w.output
  size : w.heap.size ≤ w'.heap.size
  block : ∀ k, k < w.heap.size → ¬ S k → w'.heap[k]? = w.heap[k]?
section
variable {S S' : Nat → Prop} {w w' w'' : World}
theorem Fr.refl (S : Nat → Prop) (w : World) : Fr S w w := ⟨rfl, rfl, rfl, Nat.le_refl _, fun _ _ _ => rfl⟩
theorem Fr.wide (h : Fr S w w') (hs : ∀ k, k < w.heap.size → S k → S' k) : Fr S' w w' := ⟨h.os, h.tape, h.output, h.size, fun k hk hn => h.block k hk (fun q => hn (hs k hk q))⟩
theorem Fr.trans (h : Fr S w w') (h' : Fr S w' w'') : Fr S w w'' :=
  ⟨h'.os.trans h.os, h'.tape.trans h.tape, h'.output.trans h.output, Nat.le_trans h.size h'.size, fun k hk hn => (h'.block k (Nat.lt_of_lt_of_le hk h.size) hn).trans (h.block k hk hn)⟩
theorem Fr.alloc (h : Fr S w w') (o : Obj) : Fr S w (w'.alloc o) :=
  ⟨h.os, h.tape, h.output, Nat.le_trans h.size (by simp), fun k hk hn => (Below.heap_alloc _ _ _ (Nat.lt_of_lt_of_le hk h.size)).trans (h.block k hk hn)⟩
theorem Fr.setCell (h : Fr S w w') {a : Addr} (hb : S a.block) (u : Value) : Fr S w (w'.setCell a u) :=
  ⟨h.os, h.tape, h.output, by simpa using h.size, fun k hk hn => (Below.heap_setCell _ _ _ _ (fun e => hn (by rw [e]; exact hb))).trans (h.block k hk hn)⟩
theorem Fr.drewN (h : Fr S w w') (q : Nat) : Fr S w (w'.drewN q) := ⟨h.os, h.tape, h.output, h.size, h.block⟩
theorem Fr.cell (h : Fr S w w') {a : Addr} (hk : a.block < w.heap.size) (hn : ¬ S a.block) : w'.cell? a = w.cell? a := World.cell?_of_block (h.block _ hk hn)
theorem Fr.frozen (h : Fr S w w') {a : Addr} (hk : a.block < w.heap.size) (hn : ¬ S a.block) : w'.frozen? a = w.frozen? a := World.frozen?_of_block (h.block _ hk hn)
theorem Fr.of_below {B : Nat} (h : Below B w w') : Fr (fun k => B ≤ k) w w' := ⟨h.os, h.tape, h.output, h.size, fun k _ hn => h.block k (by omega)⟩
theorem Fr.of_below' (h : Below w.heap.size w w') : Fr S w w' := ⟨h.os, h.tape, h.output, h.size, fun k hk _ => h.block k hk⟩
theorem Fr.below {B : Nat} (h : Fr S w w') (hb : B ≤ w.heap.size) (hs : ∀ k, S k → B ≤ k) : Below B w w' := ⟨h.os, h.tape, h.output, h.size, fun k hk => h.block k (by omega) (fun q => by have := hs k q; omega)⟩
end
theorem Fr.of_q {b g : Nat} {w w' : World} (h : Bq.Only b g w w') : Fr (fun k => k = b ∨ k = g) w w' := ⟨h.os, h.tape, h.output, h.size, fun k hk hn => h.block k hk (fun e => hn (.inl e)) (fun e => hn (.inr e))⟩
theorem Fr.of_h {b g : Nat} {w w' : World} (h : Ph.Only b g w w') : Fr (fun k => k = b ∨ k = g) w w' := ⟨h.os, h.tape, h.output, h.size, fun k hk hn => h.block k hk (fun e => hn (.inl e)) (fun e => hn (.inr e))⟩
section
variable {w w' : World} {sb qb gq hb gh n most turn : Nat} {R R' : List (Nat × Nat)} {L L' : List Ph.Item}
/-- The set behind a call that turned its queue, or its heap. -/
theorem St.ofQ (h : St w sb qb gq hb gh n most turn R L) (hq : Bq.IsQ w' qb gq n R') (hf : Fr (fun k => k = qb ∨ k = gq) w w') : St w' sb qb gq hb gh n most turn R' L := by
  have hne := h.ne
  have k1 : ¬ (sb = qb ∨ sb = gq) := by omega
  have hbl := h.h.blocks
  exact ⟨(hf.cell (a := ⟨sb, 0, none⟩) h.lt k1).trans h.c0, (hf.cell (a := ⟨sb, 1, none⟩) h.lt k1).trans h.c1, (hf.cell (a := ⟨sb, 2, none⟩) h.lt k1).trans h.c2, (hf.cell (a := ⟨sb, 3, none⟩) h.lt k1).trans h.c3, (hf.cell (a := ⟨sb, 4, none⟩) h.lt k1).trans h.c4, fun o => (hf.frozen (a := ⟨sb, o, none⟩) h.lt k1).trans (h.fz o), hq, h.h.kept (hf.block hb hbl.1 (by omega)) (hf.block gh hbl.2.1 (by omega)), hne⟩
theorem St.ofH (h : St w sb qb gq hb gh n most turn R L) (hh : Ph.IsH w' hb gh n L') (hf : Fr (fun k => k = hb ∨ k = gh) w w') : St w' sb qb gq hb gh n most turn R L' := by
  have hne := h.ne
  have k1 : ¬ (sb = hb ∨ sb = gh) := by omega
  have hbl := h.q.blocks
  exact ⟨(hf.cell (a := ⟨sb, 0, none⟩) h.lt k1).trans h.c0, (hf.cell (a := ⟨sb, 1, none⟩) h.lt k1).trans h.c1, (hf.cell (a := ⟨sb, 2, none⟩) h.lt k1).trans h.c2, (hf.cell (a := ⟨sb, 3, none⟩) h.lt k1).trans h.c3, (hf.cell (a := ⟨sb, 4, none⟩) h.lt k1).trans h.c4, fun o => (hf.frozen (a := ⟨sb, o, none⟩) h.lt k1).trans (h.fz o), h.q.kept (hf.block qb hbl.1 (by omega)) (hf.block gq hbl.2.1 (by omega)), hh, hne⟩
set_option maxHeartbeats 1000000 in
theorem pkey_dead (h : St w sb qb gq hb gh n most turn R L) (id : Nat) (hi : id < n) (hr : ∀ it ∈ R, it.1 ≠ id) (d s : Nat) (hl : (id, d, s) ∈ L) :
    Calls Try.prog 68 #[.agg #[.pointer (some ⟨qb, 0, none⟩), .pointer (some ⟨hb, 0, none⟩)], .int .i64 (id : Int)] w fun e w' => e = .returned (.tuple #[.agg #[.bool true, .int .u64 (d : Int), .int .u8 0], .bool true]) ∧ Below w.heap.size w w' := by
  have hA := ((Below.refl w.heap.size w).alloc (Nat.le_refl _) (.cells #[.pointer (some ⟨qb, 0, none⟩), .pointer (some ⟨hb, 0, none⟩)] 97)).alloc (by simp) (.cells #[.bool false, .int .u64 0, .int .u8 0] 25)
  have HA := veil hA
  have HS := veil (h.below hA)
  have hz : ((w.alloc (.cells #[.pointer (some ⟨qb, 0, none⟩), .pointer (some ⟨hb, 0, none⟩)] 97)).alloc (.cells #[.bool false, .int .u64 0, .int .u8 0] 25)).heap.size = w.heap.size + 2 := by simp
  have HZ := veil hz
  have c1 : ((w.alloc (.cells #[.pointer (some ⟨qb, 0, none⟩), .pointer (some ⟨hb, 0, none⟩)] 97)).alloc (.cells #[.bool false, .int .u64 0, .int .u8 0] 25)).cell? ⟨w.heap.size, 1, none⟩ = some (.pointer (some ⟨hb, 0, none⟩)) := by
    rw [World.cell?_alloc_lt _ _ _ (by simp), Ph.cell_new]; rfl
  have CK : Hid (∀ i, ((w.alloc (.cells #[.pointer (some ⟨qb, 0, none⟩), .pointer (some ⟨hb, 0, none⟩)] 97)).alloc (.cells #[.bool false, .int .u64 0, .int .u8 0] 25)).cell? ⟨w.heap.size + 1, i, none⟩ = (#[.bool false, .int .u64 0, .int .u8 0] : Array Value)[i]?) := fun i => by
    rw [show w.heap.size + 1 = (w.alloc (.cells #[.pointer (some ⟨qb, 0, none⟩), .pointer (some ⟨hb, 0, none⟩)] 97)).heap.size by simp]; exact Ph.cell_new _ _ _ _
  have CF : Hid (∀ i, ((w.alloc (.cells #[.pointer (some ⟨qb, 0, none⟩), .pointer (some ⟨hb, 0, none⟩)] 97)).alloc (.cells #[.bool false, .int .u64 0, .int .u8 0] 25)).frozen? ⟨w.heap.size + 1, i, none⟩ = false) := fun i => by
    rw [show w.heap.size + 1 = (w.alloc (.cells #[.pointer (some ⟨qb, 0, none⟩), .pointer (some ⟨hb, 0, none⟩)] 97)).heap.size by simp]; exact Ph.frozen_new _ _ _ _
  have C1 := veil c1
  clear h hA hz c1
  go_enter Try.func68, Try.ntmps68
  go_wp2_with (first
    | (go_at_call 90; refine (Bq.level_none HS.out.q hi hr).mono ?_; rintro e w1 ⟨rfl, hb1⟩; have HS1 := veil (HS.out.below hb1); have HB1 := veil hb1; have x1 := (hb1.cell (p := ⟨w.heap.size, 1, none⟩) (by rw [HZ.out]; simp)).trans C1.out; clear hb1)
    | (go_at_call 91; refine (Ph.hget_some HS1.out.h id d s hl).mono ?_; rintro e w3 ⟨rfl, hb3⟩; have HB3 := veil (HB1.out.trans (hb3.mono HB1.out.size)); clear hb3)
    | (go_at_call 34; refine (Ke.dead_ok _ (d : Int)).mono ?_; rintro e w2 ⟨rfl, hb2⟩; have HB2 := veil (HB3.out.trans (hb2.mono HB3.out.size)); have s2 := HB2.out.size; have k0 := (HB2.out.cell (p := ⟨w.heap.size + 1, 0, none⟩) (by rw [HZ.out]; simp)).trans (CK.out 0); have k1 := (HB2.out.cell (p := ⟨w.heap.size + 1, 1, none⟩) (by rw [HZ.out]; simp)).trans (CK.out 1); have k2 := (HB2.out.cell (p := ⟨w.heap.size + 1, 2, none⟩) (by rw [HZ.out]; simp)).trans (CK.out 2); have f0 := (World.frozen?_of_block (a := ⟨w.heap.size + 1, 0, none⟩) (HB2.out.block (w.heap.size + 1) (by rw [HZ.out]; simp))).trans (CF.out 0); have f1 := (World.frozen?_of_block (a := ⟨w.heap.size + 1, 1, none⟩) (HB2.out.block (w.heap.size + 1) (by rw [HZ.out]; simp))).trans (CF.out 1); have f2 := (World.frozen?_of_block (a := ⟨w.heap.size + 1, 2, none⟩) (HB2.out.block (w.heap.size + 1) (by rw [HZ.out]; simp))).trans (CF.out 2); have hW := veil ((HA.out.trans (HB2.out.mono (by rw [HZ.out]; omega)))); clear hb2))
  refine bodyPost_ret (v := .tuple #[.agg #[.bool true, .int .u64 (d : Int), .int .u8 0], .bool true]) ?_ rfl ?_
  · simp [results, Try.f68, go_sem, k0, k1, k2, Ke.deadK]
  · refine ⟨rfl, ?_⟩
    exact ((hW.out.setCell (p := ⟨w.heap.size + 1, 0, none⟩) (by simp) _).setCell (p := ⟨w.heap.size + 1, 1, none⟩) (by simp) _).setCell (p := ⟨w.heap.size + 1, 2, none⟩) (by simp) _

set_option maxHeartbeats 1000000 in
theorem pput_level (h : St w sb qb gq hb gh n most turn R L) (id lv tn : Nat) (hi : id < n) (hlv : lv < 256) (hno : ∀ it ∈ R, it.1 ≠ id) :
    Calls Try.prog 95 #[.agg #[.pointer (some ⟨qb, 0, none⟩), .pointer (some ⟨hb, 0, none⟩)], .int .i64 (id : Int), .agg #[.bool false, .int .u64 0, .int .u8 (lv : Int)], .int .u64 (tn : Int)] w fun e w' => e = .returned (.tuple #[]) ∧ St w' sb qb gq hb gh n most turn (R ++ [(id, lv)]) L ∧ Fr (fun k => k = qb ∨ k = gq) w w' := by
  have hA := ((Below.refl w.heap.size w).alloc (Nat.le_refl _) (.cells #[.pointer (some ⟨qb, 0, none⟩), .pointer (some ⟨hb, 0, none⟩)] 97)).alloc (by simp) (.cells #[.bool false, .int .u64 0, .int .u8 (lv : Int)] 25)
  have HA := veil hA
  have HS := veil (h.below hA)
  clear h hA
  go_enter Try.func95, Try.ntmps95
  go_wp2_with (go_at_call 107; refine (Bq.push_ok _ qb gq n R id lv HS.out.q hi hlv hno).mono ?_; rintro e w1 ⟨rfl, hq, ho⟩; have HX := veil (HS.out.ofQ hq (Fr.of_q ho)); have HF := veil ((Fr.of_below' HA.out).trans (Fr.of_q ho)); clear hq ho)
  go_end0
  exact ⟨rfl, HX.out, HF.out⟩
set_option maxHeartbeats 1000000 in
theorem pput_dead (h : St w sb qb gq hb gh n most turn R L) (id d tn : Nat) (hi : id < n) (hno : ∀ it ∈ L, it.1 ≠ id) :
    Calls Try.prog 95 #[.agg #[.pointer (some ⟨qb, 0, none⟩), .pointer (some ⟨hb, 0, none⟩)], .int .i64 (id : Int), .agg #[.bool true, .int .u64 (d : Int), .int .u8 0], .int .u64 (tn : Int)] w fun e w' => e = .returned (.tuple #[]) ∧ St w' sb qb gq hb gh n most turn R (Ph.ins (id, d, tn) L) ∧ Fr (fun k => k = hb ∨ k = gh) w w' := by
  have hA := ((Below.refl w.heap.size w).alloc (Nat.le_refl _) (.cells #[.pointer (some ⟨qb, 0, none⟩), .pointer (some ⟨hb, 0, none⟩)] 97)).alloc (by simp) (.cells #[.bool true, .int .u64 (d : Int), .int .u8 0] 25)
  have HA := veil hA
  have HS := veil (h.below hA)
  clear h hA
  go_enter Try.func95, Try.ntmps95
  go_wp2_with (go_at_call 106; refine (Ph.hinsert_ok HS.out.h id d tn hi hno).mono ?_; rintro e w1 ⟨rfl, hq, ho⟩; have HX := veil (HS.out.ofH hq (Fr.of_h ho)); have HF := veil ((Fr.of_below' HA.out).trans (Fr.of_h ho)); clear hq ho)
  go_end0
  exact ⟨rfl, HX.out, HF.out⟩
end
end Go.Proofs.Ytlfejgjhamcahaa
