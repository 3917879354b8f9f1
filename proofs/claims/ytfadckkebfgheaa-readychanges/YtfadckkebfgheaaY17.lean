/-
  The walk of 'same': both sets tell the same.
-/
import Derived.Test.YtfadckkebfgheaaY16
import Derived.Deep.DrawnRows
namespace Go.Proofs.Ytfadckkebfgheaa
open Go.RowKit Go.Lib
attribute [local go_sem ↓] Go.wp_at_zero Go.wp_at_succ

/-- A box of a key. -/
structure Bk (w : World) (b : Nat) (k : Ke.K) : Prop where
  c0 : w.cell? ⟨b, 0, none⟩ = some (.bool k.e)
  c1 : w.cell? ⟨b, 1, none⟩ = some (.int .u64 k.d)
  c2 : w.cell? ⟨b, 2, none⟩ = some (.int .u8 k.l)
theorem Bk.fresh (w : World) (k : Ke.K) (t : TypeId) : Bk (w.alloc (.cells #[.bool k.e, .int .u64 k.d, .int .u8 k.l] t)) w.heap.size k :=
  ⟨by rw [Ph.cell_new]; rfl, by rw [Ph.cell_new]; rfl, by rw [Ph.cell_new]; rfl⟩
theorem Bk.lt {w : World} {b : Nat} {k : Ke.K} (h : Bk w b k) : b < w.heap.size := World.block_lt_of_cell? w ⟨b, 0, none⟩ h.c0
theorem Bk.below {w w' : World} {b : Nat} {k : Ke.K} (h : Bk w b k) (hb : Below w.heap.size w w') : Bk w' b k :=
  ⟨(hb.cell (p := ⟨b, 0, none⟩) h.lt).trans h.c0, (hb.cell (p := ⟨b, 1, none⟩) h.lt).trans h.c1, (hb.cell (p := ⟨b, 2, none⟩) h.lt).trans h.c2⟩
theorem Bk.frame {S : Nat → Prop} {w w' : World} {b : Nat} {k : Ke.K} (h : Bk w b k) (hf : Fr S w w') (hn : ¬ S b) : Bk w' b k :=
  ⟨(hf.cell (a := ⟨b, 0, none⟩) h.lt hn).trans h.c0, (hf.cell (a := ⟨b, 1, none⟩) h.lt hn).trans h.c1, (hf.cell (a := ⟨b, 2, none⟩) h.lt hn).trans h.c2⟩
theorem rlist_ok {w : World} {base rb n most : Nat} {v : Value} {M : List En} (h : Dc.IsR w base rb n most v M) :
    Calls Try.prog 35 #[.pointer (some ⟨rb, 0, none⟩)] w fun e w' => ∃ v', e = .returned v' ∧ Dc.IL w' w.heap.size v' (idE M) ∧ Below w.heap.size w w' := Dc.rList_ok h
set_option maxHeartbeats 16000000 in
set_option maxRecDepth 100000 in
theorem same_ok (w : World) (base sb qb gq hb gh rb n most turn : Nat) (v : Value) (M : List En) (h : Both w base sb qb gq hb gh rb n most turn v M) (id : Int) :
    Calls Try.prog 13 #[.pointer (some ⟨sb, 0, none⟩), .pointer (some ⟨rb, 0, none⟩), .int .i64 id] w fun e w' => e = .returned (.bool true) ∧ Below w.heap.size w w' := by
  have hll : (idE M).length ≤ 1024 := by rw [idE_len]; exact h.r.len_le
  have HA := veil h
  have HW : Hid (∀ w1 w2, Below w.heap.size w w1 → Below w1.heap.size w1 w2 → Below w.heap.size w w2) := fun w1 w2 q1 q2 => q1.trans (q2.mono q1.size)
  have hs1 : Ke.same (tkK M) (tkK M) = true := by rw [Ke.same_eq]; exact decide_eq_true rfl
  have hs2 : Ke.same (kz (keyAt n M id)) (kz (keyAt n M id)) = true := by rw [Ke.same_eq]; exact decide_eq_true rfl
  clear h
  go_enter Try.func13, Try.ntmps13
  go_wp2_with (first
    | (go_at_call 24; refine (stop_all HA.out.q).mono ?_; rintro e w1 ⟨rfl, hb⟩; have HA1 := veil ((HA.out.below hb).below ((Below.refl _ _).alloc (Nat.le_refl _) (.cells #[.bool (tkK M).e, .int .u64 (tkK M).d, .int .u8 (tkK M).l] 34))); have HB1 := veil (hb.alloc hb.size (.cells #[.bool (tkK M).e, .int .u64 (tkK M).d, .int .u8 (tkK M).l] 34)); have X1 := veil (Bk.fresh w1 (tkK M) 34); clear hb HA)
    | (go_at_call 31; refine (rtop_all HA1.out.r).mono ?_; rintro e w2 ⟨rfl, hb⟩; have HA2 := veil ((HA1.out.below hb).below ((Below.refl _ _).alloc (Nat.le_refl _) (.cells #[.bool (tkK M).e, .int .u64 (tkK M).d, .int .u8 (tkK M).l] 34))); have HK2 := veil (hb.alloc hb.size (.cells #[.bool (tkK M).e, .int .u64 (tkK M).d, .int .u8 (tkK M).l] 34)); have HB2 := veil (HW.out _ _ HB1.out (hb.alloc hb.size (.cells #[.bool (tkK M).e, .int .u64 (tkK M).d, .int .u8 (tkK M).l] 34))); have X12 := veil (X1.out.below (hb.alloc hb.size (.cells #[.bool (tkK M).e, .int .u64 (tkK M).d, .int .u8 (tkK M).l] 34))); have X2 := veil (Bk.fresh w2 (tkK M) 34); clear hb HA1)
    | (go_at_call 18; refine (skey_ok HA2.out.q id).mono ?_; rintro e w3 ⟨rfl, hb⟩; have HA3 := veil ((HA2.out.below hb).below ((Below.refl _ _).alloc (Nat.le_refl _) (.cells #[.bool (kz (keyAt n M id)).e, .int .u64 (kz (keyAt n M id)).d, .int .u8 (kz (keyAt n M id)).l] 34))); have HK3 := veil (hb.alloc hb.size (.cells #[.bool (kz (keyAt n M id)).e, .int .u64 (kz (keyAt n M id)).d, .int .u8 (kz (keyAt n M id)).l] 34)); have HB3 := veil (HW.out _ _ HB2.out (hb.alloc hb.size (.cells #[.bool (kz (keyAt n M id)).e, .int .u64 (kz (keyAt n M id)).d, .int .u8 (kz (keyAt n M id)).l] 34))); have X13 := veil (X12.out.below (hb.alloc hb.size (.cells #[.bool (kz (keyAt n M id)).e, .int .u64 (kz (keyAt n M id)).d, .int .u8 (kz (keyAt n M id)).l] 34))); have X23 := veil (X2.out.below (hb.alloc hb.size (.cells #[.bool (kz (keyAt n M id)).e, .int .u64 (kz (keyAt n M id)).d, .int .u8 (kz (keyAt n M id)).l] 34))); have X3 := veil (Bk.fresh w3 (kz (keyAt n M id)) 34); clear hb HA2)
    | (go_at_call 32; refine (rkey_all HA3.out.r id).mono ?_; rintro e w4 ⟨rfl, hb⟩; have HA4 := veil ((HA3.out.below hb).below ((Below.refl _ _).alloc (Nat.le_refl _) (.cells #[.bool (kz (keyAt n M id)).e, .int .u64 (kz (keyAt n M id)).d, .int .u8 (kz (keyAt n M id)).l] 34))); have HK4 := veil (hb.alloc hb.size (.cells #[.bool (kz (keyAt n M id)).e, .int .u64 (kz (keyAt n M id)).d, .int .u8 (kz (keyAt n M id)).l] 34)); have HB4 := veil (HW.out _ _ HB3.out (hb.alloc hb.size (.cells #[.bool (kz (keyAt n M id)).e, .int .u64 (kz (keyAt n M id)).d, .int .u8 (kz (keyAt n M id)).l] 34))); have a1 := X13.out.below (hb.alloc hb.size (.cells #[.bool (kz (keyAt n M id)).e, .int .u64 (kz (keyAt n M id)).d, .int .u8 (kz (keyAt n M id)).l] 34)); have a2 := X23.out.below (hb.alloc hb.size (.cells #[.bool (kz (keyAt n M id)).e, .int .u64 (kz (keyAt n M id)).d, .int .u8 (kz (keyAt n M id)).l] 34)); have a3 := X3.out.below (hb.alloc hb.size (.cells #[.bool (kz (keyAt n M id)).e, .int .u64 (kz (keyAt n M id)).d, .int .u8 (kz (keyAt n M id)).l] 34)); have a10 := a1.c0; have a11 := a1.c1; have a12 := a1.c2; have a20 := a2.c0; have a21 := a2.c1; have a22 := a2.c2; have a30 := a3.c0; have a31 := a3.c1; have a32 := a3.c2; clear hb HA3 a1 a2 a3)
    | (go_at_call 17; refine (slenS HA4.out.q).mono ?_; rintro e w5 ⟨rfl, hb⟩; have HA5 := veil (HA4.out.below hb); have HB5 := veil (HW.out _ _ HB4.out hb); clear hb)
    | (go_at_call 33; refine (Dc.rlen_ok HA5.out.r).mono ?_; rintro e w6 ⟨rfl, hw⟩; replace hw := hw.symm; subst hw)
    | (go_at_call 14; refine (slist_ok HA5.out.q).mono ?_; rintro e w7 ⟨v7, rfl, hil, hb⟩; have HI7 := veil hil; have HA7 := veil (HA5.out.below hb); have HB7 := veil (HW.out _ _ HB5.out hb); clear hb hil)
    | (go_at_call 35; refine (rlist_ok HA7.out.r).mono ?_; rintro e w8 ⟨v8, rfl, hil, hb⟩; have HI8 := veil hil; have HI7' := veil (HI7.out.below hb); have HB8 := veil (HW.out _ _ HB7.out hb); clear hb hil)
    | (go_at_call 34; refine (Dc.same_yes _ _ _ _ _ (idE M) hll HI7'.out HI8.out).mono ?_; rintro e w9 ⟨rfl, q, hw⟩; have HB9 := veil (HW.out _ w9 HB8.out (by rw [hw]; exact below_drewN (Below.refl _ _) _)); clear hw))
  go_ret
  exact ⟨by simp, HB9.out⟩
end Go.Proofs.Ytfadckkebfgheaa
