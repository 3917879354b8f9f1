/- KeyMax and KeyLevels, walked. -/
import Derived.Test.YtfpodglfkjlhkaaK5
namespace Go.Proofs.Ytfpodglfkjlhkaa
open Go.ChangeShapes Go.WideShapes Go.ChangeAt Go.RowKit
theorem max_ways (a b : K) : (maxK a b = a ∨ maxK a b = b ∧ same b a = false) ∧ up a (maxK a b) = false ∧ up b (maxK a b) = false := by
  obtain ⟨e, d, l⟩ := a
  obtain ⟨e', d', l'⟩ := b
  unfold maxK up same
  cases e <;> cases e' <;> simp <;> (try split) <;> simp <;> (try omega)
theorem below_up {B : Nat} {w w1 : World} (h : Below B w w1) (hB : B ≤ w1.heap.size) (o1 o2 o3 o4 : Obj) : Below B w ((((w1.alloc o1).alloc o2).alloc o3).alloc o4) :=
  (((h.alloc hB _).alloc (by simp; omega) _).alloc (by simp; omega) _).alloc (by simp; omega) _
theorem max_begin {w w1 : World} {o1 o2 o3 o4 o5 o6 o7 o8 : Obj} (h : Below ((((((((w.alloc o1).alloc o2).alloc o3).alloc o4).alloc o5).alloc o6).alloc o7).alloc o8).heap.size ((((((((w.alloc o1).alloc o2).alloc o3).alloc o4).alloc o5).alloc o6).alloc o7).alloc o8) w1) : Below w.heap.size w w1 := by
  refine Below.trans (below_up (below_up (Below.refl _ w) (Nat.le_refl _) o1 o2 o3 o4) (by simp; omega) o5 o6 o7 o8) (h.mono (by simp; omega))
set_option maxHeartbeats 1000000 in
theorem max_walk (w : World) (a b : K) : Calls Try.prog 7 #[.agg #[.bool a.e, .int .u64 a.d, .int .u8 a.l], .agg #[.bool b.e, .int .u64 b.d, .int .u8 b.l]] w fun e w' => e = .returned (.bool true) ∧ Below w.heap.size w w' := by
  have HL := veil live_ok
  have HM := veil (fun w => max_mk w a b)
  obtain ⟨hm, u1, u2⟩ := max_ways a b
  have e1 := same_self (maxK a b)
  generalize maxK a b = m at hm u1 u2 HM e1
  have HA := veil above_ok
  rcases hm with hm | ⟨hm, hne⟩
  · subst hm
    go_enter Try.func7, Try.ntmps7
    go_wp2_with (first
      | (go_at_call 18; refine (HM.out _).mono ?_; rintro e w1 ⟨rfl, c1, c2, c3, c4, c5, rfl⟩)
      | (go_at_call 9; refine (HL.out _).mono ?_; rintro e w1 ⟨rfl, hb⟩; have y0x0 : w1.cell? ⟨w.heap.size, 0, none⟩ = some (.bool m.e) := (hb.cell (p := ⟨w.heap.size, 0, none⟩) (by simp; try omega)).trans (by simp [go_sem]); have y0x1 : w1.cell? ⟨w.heap.size, 1, none⟩ = some (.int .u64 m.d) := (hb.cell (p := ⟨w.heap.size, 1, none⟩) (by simp; try omega)).trans (by simp [go_sem]); have y0x2 : w1.cell? ⟨w.heap.size, 2, none⟩ = some (.int .u8 m.l) := (hb.cell (p := ⟨w.heap.size, 2, none⟩) (by simp; try omega)).trans (by simp [go_sem]); have y1x0 : w1.cell? ⟨w.heap.size + 1, 0, none⟩ = some (.bool b.e) := (hb.cell (p := ⟨w.heap.size + 1, 0, none⟩) (by simp; try omega)).trans (by simp [go_sem]); have y1x1 : w1.cell? ⟨w.heap.size + 1, 1, none⟩ = some (.int .u64 b.d) := (hb.cell (p := ⟨w.heap.size + 1, 1, none⟩) (by simp; try omega)).trans (by simp [go_sem]); have y1x2 : w1.cell? ⟨w.heap.size + 1, 2, none⟩ = some (.int .u8 b.l) := (hb.cell (p := ⟨w.heap.size + 1, 2, none⟩) (by simp; try omega)).trans (by simp [go_sem]); have y2x0 : w1.cell? ⟨w.heap.size + 1 + 1 + 1 + 1 + 1 + 1 + 1, 0, none⟩ = some (.bool m.e) := (hb.cell (p := ⟨w.heap.size + 1 + 1 + 1 + 1 + 1 + 1 + 1, 0, none⟩) (by simp; try omega)).trans (by simp [go_sem]); have y2x1 : w1.cell? ⟨w.heap.size + 1 + 1 + 1 + 1 + 1 + 1 + 1, 1, none⟩ = some (.int .u64 m.d) := (hb.cell (p := ⟨w.heap.size + 1 + 1 + 1 + 1 + 1 + 1 + 1, 1, none⟩) (by simp; try omega)).trans (by simp [go_sem]); have y2x2 : w1.cell? ⟨w.heap.size + 1 + 1 + 1 + 1 + 1 + 1 + 1, 2, none⟩ = some (.int .u8 m.l) := (hb.cell (p := ⟨w.heap.size + 1 + 1 + 1 + 1 + 1 + 1 + 1, 2, none⟩) (by simp; try omega)).trans (by simp [go_sem]); have HT := veil (And.intro y0x0 (And.intro y0x1 (And.intro y0x2 (And.intro y1x0 (And.intro y1x1 (And.intro y1x2 (And.intro y2x0 (And.intro y2x1 (And.intro y2x2 (max_begin hb)))))))))); clear hb)
      | (go_at_call 16; refine (HA.out _ _ _).mono ?_; rintro e w1 ⟨rfl, hb⟩; replace HT := veil (keep3 HT.out hb); clear hb y0x0 y0x1 y0x2 y1x0 y1x1 y1x2 y2x0 y2x1 y2x2; obtain ⟨y0x0, y0x1, y0x2, y1x0, y1x1, y1x2, y2x0, y2x1, y2x2, _⟩ := HT.out))
    go_ret
    exact ⟨rfl, fin3 HT.out⟩
  · subst hm
    go_enter Try.func7, Try.ntmps7
    go_wp2_with (first
      | (go_at_call 18; refine (HM.out _).mono ?_; rintro e w1 ⟨rfl, c1, c2, c3, c4, c5, rfl⟩)
      | (go_at_call 9; refine (HL.out _).mono ?_; rintro e w1 ⟨rfl, hb⟩; have y0x0 : w1.cell? ⟨w.heap.size, 0, none⟩ = some (.bool a.e) := (hb.cell (p := ⟨w.heap.size, 0, none⟩) (by simp; try omega)).trans (by simp [go_sem]); have y0x1 : w1.cell? ⟨w.heap.size, 1, none⟩ = some (.int .u64 a.d) := (hb.cell (p := ⟨w.heap.size, 1, none⟩) (by simp; try omega)).trans (by simp [go_sem]); have y0x2 : w1.cell? ⟨w.heap.size, 2, none⟩ = some (.int .u8 a.l) := (hb.cell (p := ⟨w.heap.size, 2, none⟩) (by simp; try omega)).trans (by simp [go_sem]); have y1x0 : w1.cell? ⟨w.heap.size + 1, 0, none⟩ = some (.bool m.e) := (hb.cell (p := ⟨w.heap.size + 1, 0, none⟩) (by simp; try omega)).trans (by simp [go_sem]); have y1x1 : w1.cell? ⟨w.heap.size + 1, 1, none⟩ = some (.int .u64 m.d) := (hb.cell (p := ⟨w.heap.size + 1, 1, none⟩) (by simp; try omega)).trans (by simp [go_sem]); have y1x2 : w1.cell? ⟨w.heap.size + 1, 2, none⟩ = some (.int .u8 m.l) := (hb.cell (p := ⟨w.heap.size + 1, 2, none⟩) (by simp; try omega)).trans (by simp [go_sem]); have y2x0 : w1.cell? ⟨w.heap.size + 1 + 1 + 1 + 1 + 1 + 1 + 1, 0, none⟩ = some (.bool m.e) := (hb.cell (p := ⟨w.heap.size + 1 + 1 + 1 + 1 + 1 + 1 + 1, 0, none⟩) (by simp; try omega)).trans (by simp [go_sem]); have y2x1 : w1.cell? ⟨w.heap.size + 1 + 1 + 1 + 1 + 1 + 1 + 1, 1, none⟩ = some (.int .u64 m.d) := (hb.cell (p := ⟨w.heap.size + 1 + 1 + 1 + 1 + 1 + 1 + 1, 1, none⟩) (by simp; try omega)).trans (by simp [go_sem]); have y2x2 : w1.cell? ⟨w.heap.size + 1 + 1 + 1 + 1 + 1 + 1 + 1, 2, none⟩ = some (.int .u8 m.l) := (hb.cell (p := ⟨w.heap.size + 1 + 1 + 1 + 1 + 1 + 1 + 1, 2, none⟩) (by simp; try omega)).trans (by simp [go_sem]); have HT := veil (And.intro y0x0 (And.intro y0x1 (And.intro y0x2 (And.intro y1x0 (And.intro y1x1 (And.intro y1x2 (And.intro y2x0 (And.intro y2x1 (And.intro y2x2 (max_begin hb)))))))))); clear hb)
      | (go_at_call 16; refine (HA.out _ _ _).mono ?_; rintro e w1 ⟨rfl, hb⟩; replace HT := veil (keep3 HT.out hb); clear hb y0x0 y0x1 y0x2 y1x0 y1x1 y1x2 y2x0 y2x1 y2x2; obtain ⟨y0x0, y0x1, y0x2, y1x0, y1x1, y1x2, y2x0, y2x1, y2x2, _⟩ := HT.out))
    go_ret
    exact ⟨rfl, fin3 HT.out⟩
theorem levels_walk (w : World) (a b c d : Int) : Calls Try.prog 8 #[.agg #[.int .u8 a, .int .u8 b], .int .u64 c, .int .u64 d] w fun e w' => e = .returned (.bool true) ∧ Below w.heap.size w w' := by
  have HL := veil live_ok
  have HF := veil fixed_ok
  have HD := veil dead_ok
  have HA := veil above_ok
  have HM := veil max_ok
  have e1 : up (fixK a) (fixK b) = decide (b < a) := rfl
  have e2 : up (deadK c) (deadK d) = decide (c < d) := rfl
  have e3 : up (deadK c) (fixK a) = true := rfl
  have e4 : up (fixK a) (deadK c) = false := rfl
  have e5 : maxK (fixK b) (deadK d) = deadK d := rfl
  have e6 := same_self (deadK d)
  go_enter Try.func8, Try.ntmps8
  go_wp2
  go_region_held3 (fun w' => w'.cell? ⟨w.heap.size, 0, none⟩ = some (.int .u8 a) ∧ w'.cell? ⟨w.heap.size, 1, none⟩ = some (.int .u8 b) ∧ Below w.heap.size w w')
    (first | exact ⟨by simp [go_sem], by simp [go_sem], ((Below.refl _ _).alloc (Nat.le_refl _) _).drew⟩ | go_keep)
    (first | fail)
  have HB := veil (show Below w.heap.size w (w.alloc (.cells #[.int .u8 a, .int .u8 b] 38)).drew from ((Below.refl _ _).alloc (Nat.le_refl _) _).drew)
  go_wp2_with (first
      | (go_at_call 9; refine (HL.out _).mono ?_; rintro e w1 ⟨rfl, hb⟩; replace HB := veil (HB.out.trans (hb.mono HB.out.size)); clear hb)
      | (go_at_call 10; refine (HF.out _ _).mono ?_; rintro e w1 ⟨rfl, hb⟩; replace HB := veil (HB.out.trans (hb.mono HB.out.size)); clear hb)
      | (go_at_call 12; refine (HD.out _ _).mono ?_; rintro e w2 ⟨rfl, hb⟩; replace HB := veil (HB.out.trans (hb.mono HB.out.size)); clear hb)
      | (go_at_call 16; refine (HA.out _ _ _).mono ?_; rintro e w2 ⟨rfl, hb⟩; replace HB := veil (HB.out.trans (hb.mono HB.out.size)); clear hb)
      | (go_at_call 18; refine (HM.out _ _ _).mono ?_; rintro e w2 ⟨rfl, hb⟩; replace HB := veil (HB.out.trans (hb.mono HB.out.size)); clear hb))
  go_ret
  exact ⟨rfl, HB.out⟩
end Go.Proofs.Ytfpodglfkjlhkaa
