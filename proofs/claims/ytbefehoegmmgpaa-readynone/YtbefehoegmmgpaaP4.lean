/-
  The walks of put, cut, pair and remove, as far as a small heap asks them.
-/
import Derived.Test.YtbefehoegmmgpaaP3
namespace Go.Proofs.Ytbefehoegmmgpaa.Ph
open Go.RowKit
attribute [local go_sem ↓] Go.wp_at_zero Go.wp_at_succ

section
variable {w : World} {b g n rt ct : Nat} {D S I C A B : Nat → Nat} {T : Nat → Bool}
set_option maxHeartbeats 4000000 in
theorem put_walk (h : Rep w b g n rt ct D S I C A B T) (id d s r : Nat) (hid : id < n) (hn : n ≤ 1024) (hct : ct ≤ 1024) {D' S' I' C' A' B' : Nat → Nat} {T' : Nat → Bool}
    (hJ : ∀ w1, Rep w1 b g n rt ct (upd D (id + 1) d) (upd S (id + 1) s) (upd I (id + 1) id) (upd C (id + 1) 0) (upd A (id + 1) 0) (upd B (id + 1) 0) (upd T (id + 1) true) → Calls Try.prog 79 #[.pointer (some ⟨b, 0, none⟩), .int .i64 (rt : Int), .int .i64 ((id : Int) + 1)] w1 fun e w' => e = .returned (.int .i64 (r : Int)) ∧ Rep w' b g n rt ct D' S' I' C' A' B' T' ∧ Only b g w1 w') :
    Calls Try.prog 80 #[.pointer (some ⟨b, 0, none⟩), .agg #[.int .u64 (d : Int), .int .u64 (s : Int), .int .i64 (id : Int)]] w fun e w' => e = .returned (.tuple #[]) ∧ Rep w' b g n r (ct + 1) D' S' I' C' A' B' T' ∧ Only b g w w' := by
  have hi : id + 1 ≤ n := by omega
  obtain ⟨cp, e0⟩ := h.sl
  have e1 := h.rt
  have e2 := h.ct
  have n0 := h.nd (id + 1) hi; have n1 := h.ns (id + 1) hi; have n2 := h.ni (id + 1) hi; have n3 := h.nc (id + 1) hi; have n4 := h.na (id + 1) hi; have n5 := h.nb (id + 1) hi; have n6 := h.nt (id + 1) hi
  have fg := h.fg
  have fb := h.fb
  have hbb := h.lt_b
  have hgg := h.lt_g
  have hbg := h.bg
  have hgb : g ≠ b := fun e => hbg e.symm
  have y1 : ¬ b = w.heap.size := by omega
  have y2 : ¬ g = w.heap.size := by omega
  have HO0 : Hid (Only b g w (((((((((w.setCell ⟨g, (id + 1) * 7, none⟩ (.int .u64 (d : Int))).setCell ⟨g, (id + 1) * 7 + 1, none⟩ (.int .u64 (s : Int))).setCell ⟨g, (id + 1) * 7 + 2, none⟩ (.int .i64 (id : Int))).setCell ⟨g, (id + 1) * 7 + 3, none⟩ (.int .i64 0)).setCell ⟨g, (id + 1) * 7 + 4, none⟩ (.int .i64 0)).setCell ⟨g, (id + 1) * 7 + 5, none⟩ (.int .i64 0)).setCell ⟨g, (id + 1) * 7 + 6, none⟩ (.bool true)).alloc (.cells #[.int .u64 (d : Int), .int .u64 (s : Int), .int .i64 (id : Int)] 103)).drew)) :=
    ((((((((((Only.refl b g w).set _ _ (Or.inr rfl)).set _ _ (Or.inr rfl)).set _ _ (Or.inr rfl)).set _ _ (Or.inr rfl)).set _ _ (Or.inr rfl)).set _ _ (Or.inr rfl)).set _ _ (Or.inr rfl)).alloc _).drew)
  have HR0 : Hid (Rep (((((((((w.setCell ⟨g, (id + 1) * 7, none⟩ (.int .u64 (d : Int))).setCell ⟨g, (id + 1) * 7 + 1, none⟩ (.int .u64 (s : Int))).setCell ⟨g, (id + 1) * 7 + 2, none⟩ (.int .i64 (id : Int))).setCell ⟨g, (id + 1) * 7 + 3, none⟩ (.int .i64 0)).setCell ⟨g, (id + 1) * 7 + 4, none⟩ (.int .i64 0)).setCell ⟨g, (id + 1) * 7 + 5, none⟩ (.int .i64 0)).setCell ⟨g, (id + 1) * 7 + 6, none⟩ (.bool true)).alloc (.cells #[.int .u64 (d : Int), .int .u64 (s : Int), .int .i64 (id : Int)] 103)).drew) b g n rt ct (upd D (id + 1) d) (upd S (id + 1) s) (upd I (id + 1) id) (upd C (id + 1) 0) (upd A (id + 1) 0) (upd B (id + 1) 0) (upd T (id + 1) true)) :=
    ((((((((h.setD (id + 1) hi d).setS (id + 1) hi s).setI (id + 1) hi id).setC (id + 1) hi 0).setA (id + 1) hi 0).setB (id + 1) hi 0).setT (id + 1) hi true).alloc _).drew
  have HJ := veil hJ
  clear h hJ
  go_enter Try.func80, Try.ntmps80
  go_wp2
  go_region
  go_wp2_with (go_at_call 79; refine (HJ.out _ HR0.out).mono ?_; rintro e w2 ⟨rfl, hr2, ho2⟩; have r1 := hr2.rt; have r2 := hr2.ct; have r3 := hr2.fb; have HR2 := veil hr2; have HO2 := veil (HO0.out.trans ho2); clear hr2 ho2)
  go_end0
  refine ⟨rfl, (HR2.out.setR r).setN (ct + 1), (HO2.out.set ⟨b, 1, none⟩ _ (Or.inl rfl)).set ⟨b, 2, none⟩ _ (Or.inl rfl)⟩
end
end Go.Proofs.Ytbefehoegmmgpaa.Ph
