/-
  exec: ExecStays.
-/
import Derived.Test.YteknpjjgppmlmaaJ8
namespace Go.Proofs.Yteknpjjgppmlmaa
open Go.RowKit Go.Lib
set_option linter.unusedVariables false

/-- From a place of a right program one goes on to a place of it. -/
theorem nx_in {m : Nat} {O R : Nat → Int} {y : Int} (h : Chk m O R 0 y) (j : Nat) (hj : j < m) (h9 : O j ≠ 9) : ∃ k : Nat, k < m ∧ nxI (O j) (R j) j = k := by
  obtain ⟨h1, h2, hall, hlast, _⟩ := h.zero
  by_cases h8 : O j = 8
  · have hk := hall j hj
    rw [h8] at hk
    simp [okI, known, lo, hi] at hk
    exact ⟨(R j).toNat, by omega, by rw [nxI, if_pos h8]; omega⟩
  · refine ⟨j + 1, ?_, by rw [nxI, if_neg h8, if_neg h9]; rfl⟩
    have : j ≠ m - 1 := fun q => by rw [← q] at hlast; omega
    omega
set_option maxHeartbeats 4000000 in
theorem stays_walk (w : World) (a : Option Addr) (len cap : Nat) (hl : len < 9223372036854775808) (hc : len ≤ cap) (O R : Nat → Int) (hp : Prg w a len O R) (A : Nat) (hA : A < 256) :
    Calls Try.prog 5 #[.slice a len cap, .int .u8 (A : Int)] w fun e w' => e = .returned (.bool true) ∧ Below w.heap.size w w' := by
  have HF := veil (fun w1 (hb : Below w.heap.size w w1) => few_ok w1 a len cap hl hc O R (hp.below hb))
  have hpm := hp.cut (m := min len 100) (by omega)
  have hm : min len 100 < 9223372036854775808 := by omega
  have HL := veil live_ok
  clear hp
  generalize (min len 100) = m at HF hpm hm
  obtain ⟨ce, cy, hxy⟩ := chk_total m O R
  have HC := veil (fun w1 (hb : Below w.heap.size w w1) => rcheck_known w1 a m cap hm O R (hpm.below hb) ce cy hxy)
  by_cases hx : ce = 0
  · subst hx
    have hr : Rt m O R := ⟨cy, hxy⟩
    have h64 := hr.at
    have h1 := hxy.zero.1
    have HS := veil (fun w1 (hb : Below w.heap.size w w1) j hjl => step_yes w1 a m cap O R (hpm.below hb) j 0 (by decide) hr hjl)
    have HNX := veil (fun j hj h9 => nx_in hxy j hj h9)
    have HP : Hid (∀ w1 j, j < m → Below w.heap.size w w1 → ∃ lb off, a = some ⟨lb, off, none⟩ ∧ w1.cell? ⟨lb, off + j * 2, none⟩ = some (.int .i64 (O j)) ∧ w1.cell? ⟨lb, off + j * 2 + 1, none⟩ = some (.int .i64 (R j))) := by
      intro w1 j hjl hb
      rcases hpm with h0 | ⟨lb, off, rfl, hlb, hc⟩
      · omega
      · exact ⟨lb, off, rfl, (hb.cell (p := ⟨lb, off + j * 2, none⟩) hlb).trans (hc j hjl).1, (hb.cell (p := ⟨lb, off + j * 2 + 1, none⟩) hlb).trans (hc j hjl).2⟩
    clear hpm hxy hr
    go_enter Try.func5, Try.ntmps5
    go_wp2_with (first
      | (go_at_call 10; refine (HF.out _ (Below.refl _ _)).mono ?_; rintro e w0 ⟨rfl, hw⟩; replace hw := hw.symm; subst hw)
      | (go_at_call 19; refine (HC.out _ (Below.refl _ _)).mono ?_; rintro e w1 ⟨rfl, hb⟩; have HB1 := veil hb; clear hb))
    go_loopw [8] (fun i wr => ∃ t j : Nat, t ≤ A ∧ j < m ∧ i = .int .i64 (t : Int) ∧ Two wr w1.heap.size (.int .i64 (j : Int)) (.int .i64 0) ∧ Below w.heap.size w wr) (fun i _ => A - (intOf i).toNat)
    case atStart => exact ⟨0, 0, by omega, by omega, rfl, Two.new _ _ _ _, HB1.out.alloc HB1.out.size _⟩
    case round =>
      obtain ⟨t, j, ht, hj, rfl, htw, hbr⟩ := hrel
      have HT := veil htw
      have HBR := veil hbr
      obtain ⟨c0, c1, z0, z1⟩ := htw
      clear hbr
      by_cases htl : t < A
      · have htl' : (t : Int) < (A : Int) := by omega
        have hj0 : ¬ (j : Int) < 0 := by omega
        have hj1 : ¬ (m : Int) ≤ (j : Int) := by omega
        have hj2 : (j : Int) < (m : Int) := by omega
        have HS2 := veil (HS.out wr HBR.out j hj)
        have HNX2 := veil (HNX.out j hj)
        have hpz := HP.out wr j hj HBR.out
        have HP2' := veil (fun w1 => HP.out w1 j hj)
        obtain ⟨lb, off, rfl, _, _⟩ := hpz
        have HP2 : Hid (∀ w1, Below w.heap.size w w1 → w1.cell? ⟨lb, off + j * 2, none⟩ = some (.int .i64 (O j)) ∧ w1.cell? ⟨lb, off + j * 2 + 1, none⟩ = some (.int .i64 (R j))) := by
          intro w1 hb
          obtain ⟨lb', off', he, h1, h2⟩ := HP2'.out w1 hb
          cases he
          exact ⟨h1, h2⟩
        clear HP2'
        obtain ⟨o, hoe⟩ : ∃ o, o = O j := ⟨_, rfl⟩
        obtain ⟨q, hqe⟩ : ∃ q, q = R j := ⟨_, rfl⟩
        obtain ⟨nx, hne⟩ : ∃ nx, nx = nxI o q j := ⟨_, rfl⟩
        obtain ⟨lf, hle⟩ : ∃ lf, lf = lfI o q 0 := ⟨_, rfl⟩
        rw [← hoe, ← hqe, ← hne, ← hle] at HS2
        rw [← hoe, ← hqe] at HP2
        rw [← hoe, ← hqe, ← hne] at HNX2
        clear hoe hqe
        cases ho9 : (o == 9) with
        | true =>
          obtain rfl : o = 9 := by simpa using ho9
          obtain rfl : nx = j := hne
          obtain rfl : lf = 0 := hle
          clear HNX2 ho9
          go_wp2_with (first
          | (go_at_call 11; refine (HS2.out).mono ?_; rintro e w2 ⟨rfl, hb⟩; have tF := HT.out.below hb; have HT2 := veil tF; have HB2 := veil (HBR.out.trans (hb.mono HBR.out.size)); have l2 := HT2.out.lt; have n1 : ¬ w1.heap.size = w2.heap.size := (by omega); have n2 : ¬ w1.heap.size = w2.heap.size + 1 := (by omega); obtain ⟨cf0, cf1, zf0, zf1⟩ := tF; have hpp := HP2.out _ HB2.out; obtain ⟨p0, p1⟩ := hpp; have hlb2 := World.block_lt_of_cell? w2 _ p0; have n3 : ¬ lb = w2.heap.size := (by simp at hlb2; omega); have n4 : ¬ lb = w2.heap.size + 1 := (by simp at hlb2; omega); clear hb hlb2))
          have tI := (Two.new w2 (.int .i64 9) (.int .i64 q) 28).alloc (.cells #[.int .i64 (j : Int), .int .i64 0] 24)
          have tG := Two.new1 w2 (.cells #[.int .i64 9, .int .i64 q] 28) (.int .i64 (j : Int)) (.int .i64 0) 24
          have tF := (HT2.out.alloc (.cells #[.int .i64 9, .int .i64 q] 28)).alloc (.cells #[.int .i64 (j : Int), .int .i64 0] 24)
          have HBW := veil ((HB2.out.alloc HB2.out.size (.cells #[.int .i64 9, .int .i64 q] 28)).alloc (by have := HB2.out.size; simp; omega) (.cells #[.int .i64 (j : Int), .int .i64 0] 24))
          clear cf0 cf1 zf0 zf1 n1 n2 n3 n4 p0 p1
          generalize (w2.alloc (.cells #[.int .i64 9, .int .i64 q] 28)).alloc (.cells #[.int .i64 (j : Int), .int .i64 0] 24) = W at tF tI tG HBW ⊢
          have HTF := veil tF
          have HTG := veil tG
          obtain ⟨f0, f1, zf0, zf1⟩ := tF
          obtain ⟨i0, i1, _, _⟩ := tI
          obtain ⟨g0, g1, _, _⟩ := tG
          have hpw := HP2.out _ HBW.out
          obtain ⟨p0, p1⟩ := hpw
          go_region_held3 (fun w' => w'.cell? ⟨w1.heap.size, 0, none⟩ = some (.int .i64 (j : Int)) ∧ w'.cell? ⟨w2.heap.size, 0, none⟩ = some (.int .i64 9) ∧ w'.cell? ⟨w2.heap.size, 1, none⟩ = some (.int .i64 q) ∧ w'.cell? ⟨lb, off + j * 2, none⟩ = some (.int .i64 9) ∧ w'.cell? ⟨lb, off + j * 2 + 1, none⟩ = some (.int .i64 q))
            (first | with_reducible exact ⟨f0, i0, i1, p0, p1⟩ | go_keep)
            (fail)
          go_wp2_with (go_at_call 15; refine (HL.out _).mono ?_; rintro e w3 ⟨rfl, hb0⟩; have hb : Below W.heap.size W w3 := ((Below.refl _ W).drew).trans hb0; have tF := HTF.out.below hb; have tG := HTG.out.below hb; have HB3 := veil (HBW.out.trans (hb.mono HBW.out.size)); obtain ⟨ef0, ef1, _, _⟩ := tF; obtain ⟨eg0, eg1, _, _⟩ := tG; clear hb hb0)
          go_ret
          exact ⟨rfl, HB3.out⟩
        | false =>
          have h9 : o ≠ 9 := by simpa using ho9
          obtain ⟨k, hk, hnk⟩ := HNX2.out h9
          subst hnk
          clear hne hle HNX2 h9
          go_wp2_with (first
          | (go_at_call 11; refine (HS2.out).mono ?_; rintro e w2 ⟨rfl, hb⟩; have tF := HT.out.below hb; have HT2 := veil tF; have HB2 := veil (HBR.out.trans (hb.mono HBR.out.size)); have l2 := HT2.out.lt; have n1 : ¬ w1.heap.size = w2.heap.size := (by omega); have n2 : ¬ w1.heap.size = w2.heap.size + 1 := (by omega); obtain ⟨cf0, cf1, zf0, zf1⟩ := tF; have hpp := HP2.out _ HB2.out; obtain ⟨p0, p1⟩ := hpp; have hlb2 := World.block_lt_of_cell? w2 _ p0; have n3 : ¬ lb = w2.heap.size := (by simp at hlb2; omega); have n4 : ¬ lb = w2.heap.size + 1 := (by simp at hlb2; omega); clear hb hlb2))
          have tI := (Two.new w2 (.int .i64 o) (.int .i64 q) 28).alloc (.cells #[.int .i64 (k : Int), .int .i64 lf] 24)
          have tG := Two.new1 w2 (.cells #[.int .i64 o, .int .i64 q] 28) (.int .i64 (k : Int)) (.int .i64 lf) 24
          have tF := (HT2.out.alloc (.cells #[.int .i64 o, .int .i64 q] 28)).alloc (.cells #[.int .i64 (k : Int), .int .i64 lf] 24)
          have HBW := veil ((HB2.out.alloc HB2.out.size (.cells #[.int .i64 o, .int .i64 q] 28)).alloc (by have := HB2.out.size; simp; omega) (.cells #[.int .i64 (k : Int), .int .i64 lf] 24))
          clear cf0 cf1 zf0 zf1 n1 n2 n3 n4 p0 p1
          generalize (w2.alloc (.cells #[.int .i64 o, .int .i64 q] 28)).alloc (.cells #[.int .i64 (k : Int), .int .i64 lf] 24) = W at tF tI tG HBW ⊢
          have HTF := veil tF
          have HTG := veil tG
          obtain ⟨f0, f1, zf0, zf1⟩ := tF
          obtain ⟨i0, i1, _, _⟩ := tI
          obtain ⟨g0, g1, _, _⟩ := tG
          have hpw := HP2.out _ HBW.out
          obtain ⟨p0, p1⟩ := hpw
          go_region_held3 (fun w' => w'.cell? ⟨w1.heap.size, 0, none⟩ = some (.int .i64 (j : Int)) ∧ w'.cell? ⟨w2.heap.size, 0, none⟩ = some (.int .i64 o) ∧ w'.cell? ⟨w2.heap.size, 1, none⟩ = some (.int .i64 q) ∧ w'.cell? ⟨lb, off + j * 2, none⟩ = some (.int .i64 o) ∧ w'.cell? ⟨lb, off + j * 2 + 1, none⟩ = some (.int .i64 q))
            (first | with_reducible exact ⟨f0, i0, i1, p0, p1⟩ | go_keep)
            (fail)
          go_wp2
          go_roundw
          case rel =>
            refine ⟨t + 1, k, by omega, hk, by go_num, ?_, ?_⟩
            · exact HTF.out.set _ _
            · exact ((HBW.out.setCell (p := ⟨w1.heap.size, 0, none⟩) HB1.out.size _).setCell (p := ⟨w1.heap.size, 1, none⟩) HB1.out.size _).drew
          case measure => simp [intOf]; omega
      · have htl' : ¬ (t : Int) < (A : Int) := by omega
        go_wp2_with (go_at_call 15; refine (HL.out _).mono ?_; rintro e w3 ⟨rfl, hb⟩; have HB3 := veil (HBR.out.trans (hb.mono HBR.out.size)); clear hb)
        go_ret
        exact ⟨rfl, HB3.out⟩
  · have hx' : (ce != 0) = true := by simpa using hx
    clear hpm hxy
    go_enter Try.func5, Try.ntmps5
    go_wp2_with (first
      | (go_at_call 10; refine (HF.out _ (Below.refl _ _)).mono ?_; rintro e w0 ⟨rfl, hw⟩; replace hw := hw.symm; subst hw)
      | (go_at_call 19; refine (HC.out _ (Below.refl _ _)).mono ?_; rintro e w1 ⟨rfl, hb⟩; have HB1 := veil hb; clear hb)
      | (go_at_call 15; refine (HL.out _).mono ?_; rintro e w2 ⟨rfl, hb⟩; have HB2 := veil (HB1.out.trans (hb.mono HB1.out.size)); clear hb))
    go_ret
    exact ⟨rfl, HB2.out⟩
end Go.Proofs.Yteknpjjgppmlmaa
