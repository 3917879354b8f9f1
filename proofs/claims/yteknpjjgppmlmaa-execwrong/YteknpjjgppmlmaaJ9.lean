/-
  exec: ExecWrong.
-/
import Derived.Test.YteknpjjgppmlmaaJ8
namespace Go.Proofs.Yteknpjjgppmlmaa
open Go.RowKit Go.Lib
set_option linter.unusedVariables false

set_option maxHeartbeats 4000000 in
theorem wrong_walk (w : World) (a : Option Addr) (len cap : Nat) (hl : len < 9223372036854775808) (hc : len ≤ cap) (O R : Nat → Int) (hp : Prg w a len O R) (x y : Int) :
    Calls Try.prog 8 #[.slice a len cap, .agg #[.int .i64 x, .int .i64 y]] w fun e w' => e = .returned (.bool true) ∧ Below w.heap.size w w' := by
  have HF := veil (fun w1 (hb : Below w.heap.size w w1) => few_ok w1 a len cap hl hc O R (hp.below hb))
  have hpm := hp.cut (m := min len 100) (by omega)
  have hm : min len 100 < 9223372036854775808 := by omega
  have HL := veil live_ok
  clear hp
  generalize (min len 100) = m at HF hpm hm
  obtain ⟨ce, cy, hxy⟩ := chk_total m O R
  have HC := veil (fun w1 (hb : Below w.heap.size w w1) => rcheck_known w1 a m cap hm O R (hpm.below hb) ce cy hxy)
  by_cases hy0 : 0 < y
  · have HS := veil (fun w1 (_ : Below w.heap.size w w1) => step_busy w1 a m cap x y hy0)
    clear hpm hxy
    go_enter Try.func8, Try.ntmps8
    go_wp2_with (first
      | (go_at_call 10; refine (HF.out _ (by first | exact (Below.refl _ _) | exact ((Below.refl _ _).alloc (Nat.le_refl _) _) | exact ((Below.refl _ _).alloc (Nat.le_refl _) _).alloc (by simp) _)).mono ?_; rintro e w0 ⟨rfl, hw⟩; replace hw := hw.symm; subst hw)
      | (go_at_call 11; refine (HS.out _ (by exact ((Below.refl _ _).alloc (Nat.le_refl _) _))).mono ?_; rintro e w1 ⟨rfl, hb⟩; have tF := (Two.new w _ _ _).below hb; have HF1 := veil tF; have HB1 := veil (((Below.refl w.heap.size w).alloc (Nat.le_refl _) _).trans (hb.mono (by simp))); obtain ⟨cf0, cf1, _, _⟩ := tF; have l1 := HF1.out.lt; have n1 : ¬ w.heap.size = w1.heap.size := (by omega); have n2 : ¬ w.heap.size = w1.heap.size + 1 := (by omega); clear hb)
      | (go_at_call 19; refine (HC.out _ (by exact ((HB1.out.alloc HB1.out.size _).alloc (by have := HB1.out.size; simp; omega) _))).mono ?_; rintro e w2 ⟨rfl, hb⟩; have hs1 := HB1.out.size; have tF := ((HF1.out.alloc _).alloc _).below hb; have tI := ((Two.new w1 _ _ _).alloc _).below hb; have tG := (Two.new1 w1 _ _ _ _).below hb; have HF2 := veil tF; have HI2 := veil tI; have HG2 := veil tG; have HB2 := veil (((HB1.out.alloc hs1 _).alloc (by simp; omega) _).trans (hb.mono (by simp; omega))); obtain ⟨df0, df1, _, _⟩ := tF; obtain ⟨di0, di1, _, _⟩ := tI; obtain ⟨dg0, dg1, _, _⟩ := tG; clear hb cf0 cf1 n1 n2)
      | (go_at_call 15; refine (HL.out _).mono ?_; rintro e w3 ⟨rfl, hb⟩; have tF := HF2.out.below hb; have tI := HI2.out.below hb; have tG := HG2.out.below hb; have HB3 := veil (HB2.out.trans (hb.mono HB2.out.size)); obtain ⟨ef0, ef1, _, _⟩ := tF; obtain ⟨ei0, ei1, _, _⟩ := tI; obtain ⟨eg0, eg1, _, _⟩ := tG;  clear hb df0 df1 di0 di1 dg0 dg1))
    go_ret
    exact ⟨rfl, HB3.out⟩
  by_cases hin : Rt m O R ∧ 0 ≤ x ∧ x < m
  · obtain ⟨hr, h0, h1⟩ := hin
    obtain ⟨j, rfl⟩ : ∃ j : Nat, x = j := ⟨x.toNat, by omega⟩
    have hj : j < m := by omega
    have HS := veil (fun w1 (hb : Below w.heap.size w w1) => step_yes w1 a m cap O R (hpm.below hb) j y hy0 hr hj)
    have HP : Hid (∀ w1, Below w.heap.size w w1 → ∃ lb off, a = some ⟨lb, off, none⟩ ∧ w1.cell? ⟨lb, off + j * 2, none⟩ = some (.int .i64 (O j)) ∧ w1.cell? ⟨lb, off + j * 2 + 1, none⟩ = some (.int .i64 (R j))) := by
      intro w1 hb
      rcases hpm with h0 | ⟨lb, off, rfl, hlb, hc⟩
      · omega
      · exact ⟨lb, off, rfl, (hb.cell (p := ⟨lb, off + j * 2, none⟩) hlb).trans (hc j hj).1, (hb.cell (p := ⟨lb, off + j * 2 + 1, none⟩) hlb).trans (hc j hj).2⟩
    obtain ⟨y0, hy00⟩ := hr
    obtain ⟨rfl, rfl⟩ := hy00.one hxy
    have hj0 : ¬ (j : Int) < 0 := by omega
    have hj1 : ¬ (m : Int) ≤ (j : Int) := by omega
    generalize nxI (O j) (R j) j = g at HS
    generalize lfI (O j) (R j) y = hh at HS
    generalize O j = o at HS HP
    generalize R j = q at HS HP
    clear hpm hxy hy00
    go_enter Try.func8, Try.ntmps8
    go_wp2_with (first
      | (go_at_call 10; refine (HF.out _ (by first | exact (Below.refl _ _) | exact ((Below.refl _ _).alloc (Nat.le_refl _) _) | exact ((Below.refl _ _).alloc (Nat.le_refl _) _).alloc (by simp) _)).mono ?_; rintro e w0 ⟨rfl, hw⟩; replace hw := hw.symm; subst hw)
      | (go_at_call 11; refine (HS.out _ (by exact ((Below.refl _ _).alloc (Nat.le_refl _) _))).mono ?_; rintro e w1 ⟨rfl, hb⟩; have tF := (Two.new w _ _ _).below hb; have HF1 := veil tF; have HB1 := veil (((Below.refl w.heap.size w).alloc (Nat.le_refl _) _).trans (hb.mono (by simp))); obtain ⟨cf0, cf1, _, _⟩ := tF; have l1 := HF1.out.lt; have n1 : ¬ w.heap.size = w1.heap.size := (by omega); have n2 : ¬ w.heap.size = w1.heap.size + 1 := (by omega); clear hb)
      | (go_at_call 19; refine (HC.out _ (by exact ((HB1.out.alloc HB1.out.size _).alloc (by have := HB1.out.size; simp; omega) _))).mono ?_; rintro e w2 ⟨rfl, hb⟩; have hs1 := HB1.out.size; have tF := ((HF1.out.alloc _).alloc _).below hb; have tI := ((Two.new w1 _ _ _).alloc _).below hb; have tG := (Two.new1 w1 _ _ _ _).below hb; have HF2 := veil tF; have HI2 := veil tI; have HG2 := veil tG; have HB2 := veil (((HB1.out.alloc hs1 _).alloc (by simp; omega) _).trans (hb.mono (by simp; omega))); obtain ⟨df0, df1, _, _⟩ := tF; obtain ⟨di0, di1, _, _⟩ := tI; obtain ⟨dg0, dg1, _, _⟩ := tG; clear hb cf0 cf1 n1 n2)
      | (go_at_call 15; refine (HL.out _).mono ?_; rintro e w3 ⟨rfl, hb⟩; have tF := HF2.out.below hb; have tI := HI2.out.below hb; have tG := HG2.out.below hb; have HB3 := veil (HB2.out.trans (hb.mono HB2.out.size)); obtain ⟨ef0, ef1, _, _⟩ := tF; obtain ⟨ei0, ei1, _, _⟩ := tI; obtain ⟨eg0, eg1, _, _⟩ := tG; obtain ⟨lb, off, rfl, p0, p1⟩ := HP.out _ HB3.out; clear hb df0 df1 di0 di1 dg0 dg1))
    obtain ⟨lb, off, rfl, p0, p1⟩ := HP.out _ HB2.out
    go_region_held3 (fun w' => w'.cell? ⟨w.heap.size, 0, none⟩ = some (.int .i64 (j : Int)) ∧ w'.cell? ⟨w1.heap.size, 0, none⟩ = some (.int .i64 o) ∧ w'.cell? ⟨w1.heap.size, 1, none⟩ = some (.int .i64 q) ∧ w'.cell? ⟨lb, off + j * 2, none⟩ = some (.int .i64 o) ∧ w'.cell? ⟨lb, off + j * 2 + 1, none⟩ = some (.int .i64 q))
      (first | with_reducible exact ⟨df0, di0, di1, p0, p1⟩ | with_reducible exact ⟨ef0, ei0, ei1, p2, p3⟩ | go_keep)
      (first | (go_at_call 15; refine (HL.out _).mono ?_; rintro e w3 ⟨rfl, hb0⟩; have hb : Below w2.heap.size w2 w3 := ((Below.refl _ w2).drew).trans hb0; have tF := HF2.out.below hb; have tI := HI2.out.below hb; have HB3 := veil (HB2.out.trans (hb.mono HB2.out.size)); obtain ⟨ef0, ef1, _, _⟩ := tF; obtain ⟨ei0, ei1, _, _⟩ := tI; obtain ⟨lb2, off2, he, p2, p3⟩ := HP.out _ HB3.out; cases he; clear hb hb0))
    go_wp2
    go_ret
    exact ⟨rfl, HB3.out⟩
  · have HS := veil (fun w1 (hb : Below w.heap.size w w1) => step_no w1 a m cap hm O R (hpm.below hb) x y hy0 hin)
    have hcase : (ce = 0 ∧ x < 0) ∨ (ce = 0 ∧ ¬ x < 0 ∧ (m : Int) ≤ x) ∨ (ce != 0) = true := by
      by_cases hx : ce = 0
      · have hn' : ¬ (0 ≤ x ∧ x < m) := fun q => hin ⟨⟨cy, hx ▸ hxy⟩, q⟩
        by_cases h0 : x < 0
        · exact .inl ⟨hx, h0⟩
        · exact .inr (.inl ⟨hx, h0, by omega⟩)
      · exact .inr (.inr (by simpa using hx))
    clear hpm hxy hin
    rcases hcase with ⟨rfl, h0⟩ | ⟨rfl, h0, h1⟩ | h0
    all_goals
      go_enter Try.func8, Try.ntmps8
      go_wp2_with (first
        | (go_at_call 10; refine (HF.out _ (by first | exact (Below.refl _ _) | exact ((Below.refl _ _).alloc (Nat.le_refl _) _) | exact ((Below.refl _ _).alloc (Nat.le_refl _) _).alloc (by simp) _)).mono ?_; rintro e w0 ⟨rfl, hw⟩; replace hw := hw.symm; subst hw)
        | (go_at_call 11; refine (HS.out _ (by exact ((Below.refl _ _).alloc (Nat.le_refl _) _))).mono ?_; rintro e w1 ⟨rfl, hb⟩; have tF := (Two.new w _ _ _).below hb; have HF1 := veil tF; have HB1 := veil (((Below.refl w.heap.size w).alloc (Nat.le_refl _) _).trans (hb.mono (by simp))); obtain ⟨cf0, cf1, _, _⟩ := tF; have l1 := HF1.out.lt; have n1 : ¬ w.heap.size = w1.heap.size := (by omega); have n2 : ¬ w.heap.size = w1.heap.size + 1 := (by omega); clear hb)
        | (go_at_call 19; refine (HC.out _ (by exact ((HB1.out.alloc HB1.out.size _).alloc (by have := HB1.out.size; simp; omega) _))).mono ?_; rintro e w2 ⟨rfl, hb⟩; have hs1 := HB1.out.size; have tF := ((HF1.out.alloc _).alloc _).below hb; have tI := ((Two.new w1 _ _ _).alloc _).below hb; have tG := (Two.new1 w1 _ _ _ _).below hb; have HF2 := veil tF; have HI2 := veil tI; have HG2 := veil tG; have HB2 := veil (((HB1.out.alloc hs1 _).alloc (by simp; omega) _).trans (hb.mono (by simp; omega))); obtain ⟨df0, df1, _, _⟩ := tF; obtain ⟨di0, di1, _, _⟩ := tI; obtain ⟨dg0, dg1, _, _⟩ := tG; clear hb cf0 cf1 n1 n2)
        | (go_at_call 15; refine (HL.out _).mono ?_; rintro e w3 ⟨rfl, hb⟩; have tF := HF2.out.below hb; have tI := HI2.out.below hb; have tG := HG2.out.below hb; have HB3 := veil (HB2.out.trans (hb.mono HB2.out.size)); obtain ⟨ef0, ef1, _, _⟩ := tF; obtain ⟨ei0, ei1, _, _⟩ := tI; obtain ⟨eg0, eg1, _, _⟩ := tG;  clear hb df0 df1 di0 di1 dg0 dg1))
      go_ret
      exact ⟨rfl, HB3.out⟩
end Go.Proofs.Yteknpjjgppmlmaa
