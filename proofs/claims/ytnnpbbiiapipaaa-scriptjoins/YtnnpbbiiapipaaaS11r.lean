/-
  script: read walked.
-/
import Derived.Test.YtnnpbbiiapipaaaS10d
import Derived.Test.YtnnpbbiiapipaaaS6
import Derived.Deep.RegionWith
namespace Go.Proofs.Ytnnpbbiiapipaaa
open Go.RowKit Go.Lib
set_option linter.unusedVariables false
theorem rnum_any (W : World) (lb o n c : Nat) (l : List Nat) (h : Bl W lb o l) (hn : l.length = n) (hl : n ≤ 8) :
    Calls Try.prog 43 #[.slice (some ⟨lb, o, none⟩) n c] W fun e w' => e = .returned (.int .u64 (unbe l : Int)) ∧ w' = W := by
  subst hn
  exact rnum_ok W lb o c l h hl
set_option maxHeartbeats 2000000 in
theorem rread1 (w : World) (lb off cap : Nat) (l : List Nat) (hB : Bl w lb off l) (hl : l.length = 10) (hc : 10 ≤ cap) (hc2 : cap < 9223372036854775808) (h1 : l.getD 0 0 = 1) :
    Calls Try.prog 31 #[.slice (some ⟨lb, off, none⟩) 10 cap] w fun e w' => e = .returned (.agg #[.int .i64 1, .int .i64 (l.getD 1 0 : Int), .int .u64 (unbe (l.drop 2) : Int), .int .i64 0, .slice none 0 0, .int .u64 0, .int .u64 0, .int .i64 0, .int .u8 0, .int .i64 0]) ∧ Below w.heap.size w w' := by
  have hc' : 10 ≤ (cap : Int) := by omega
  have hc1 : ¬ (cap : Int) = 1 := by omega
  have hc3 : ¬ cap = 1 := by omega
  have hc4 : ¬ cap = 2 := by omega
  have hlb := hB.lt
  have y0 := hB.at_ 0 (by omega)
  rw [h1] at y0
  simp only [Nat.add_zero] at y0
  have HW2 : Hid (∀ (c c' : Array Value) (t t' : TypeId), Below w.heap.size w ((w.alloc (.cells c t)).alloc (.cells c' t'))) := fun c c' t t' => below_two w c c' t t'
  have y1 := hB.at_ 1 (by omega)
  have hx1 := hB.small _ (getD_mem (l := l) (j := 1) (by omega))
  generalize l.getD 1 0 = x1 at *
  have HBL : Hid (∀ W, Below w.heap.size w W → Bl W lb (off + 2) (l.drop 2)) := fun W hb => by
    exact (hB.below hb).drop 2
  have HL : Hid ((l.drop 2).length = 8) := by show _ = _; simp [hl]
  have HNS : Hid (unbe (l.drop 2) < 18446744073709551616) := by
    have q := unbe_lt (take_small hB.small 2).2
    rw [HL.out] at q
    show _ < _
    omega
  generalize l.drop 2 = m at *
  have HRN := veil (fun W lb o n c l h hn hl => rnum_any W lb o n c l h hn hl)
  clear hB h1
  go_enter Try.func31, Try.ntmps31
  go_wp2_with fail
  go_region_with (go_at_call 43; refine (HRN.out _ _ _ 8 _ m (HBL.out _ (below_drew (HW2.out _ _ _ _))) HL.out (by omega)).mono ?_; rintro e w1 ⟨rfl, hw⟩; replace hw := hw.symm; subst hw)
  all_goals go_wp2
  all_goals simp [bodyPost, results, Try.results31, go_sem]
  all_goals first
    | exact below_drew (HW2.out _ _ _ _)
    | exact HW2.out _ _ _ _
    | exact ⟨by omega, below_drew (HW2.out _ _ _ _)⟩
set_option maxHeartbeats 2000000 in
theorem rread2 (w : World) (lb off cap : Nat) (l : List Nat) (hB : Bl w lb off l) (hl : l.length = 3) (hc : 3 ≤ cap) (hc2 : cap < 9223372036854775808) (h1 : l.getD 0 0 = 2) :
    Calls Try.prog 31 #[.slice (some ⟨lb, off, none⟩) 3 cap] w fun e w' => e = .returned (.agg #[.int .i64 2, .int .i64 0, .int .u64 0, .int .i64 (unbe (l.drop 1) : Int), .slice none 0 0, .int .u64 0, .int .u64 0, .int .i64 0, .int .u8 0, .int .i64 0]) ∧ Below w.heap.size w w' := by
  have hc' : 3 ≤ (cap : Int) := by omega
  have hc1 : ¬ (cap : Int) = 1 := by omega
  have hc3 : ¬ cap = 1 := by omega
  have hc4 : ¬ cap = 2 := by omega
  have hlb := hB.lt
  have y0 := hB.at_ 0 (by omega)
  rw [h1] at y0
  simp only [Nat.add_zero] at y0
  have HW2 : Hid (∀ (c c' : Array Value) (t t' : TypeId), Below w.heap.size w ((w.alloc (.cells c t)).alloc (.cells c' t'))) := fun c c' t t' => below_two w c c' t t'
  have HBL : Hid (∀ W, Below w.heap.size w W → Bl W lb (off + 1) (l.drop 1)) := fun W hb => (hB.below hb).drop 1
  have HL : Hid ((l.drop 1).length = 2) := by show _ = _; simp [hl]
  have hns : unbe (l.drop 1) < 65536 := by
    have q := unbe_lt (take_small hB.small 1).2
    rw [HL.out] at q
    omega
  have hns' : (unbe (l.drop 1) : Int) < 9223372036854775808 := by omega
  generalize l.drop 1 = m at *
  have HRN := veil (fun W lb o n c l h hn hl => rnum_any W lb o n c l h hn hl)
  clear hB h1
  go_enter Try.func31, Try.ntmps31
  go_wp2_with (go_at_call 43; refine (HRN.out _ _ _ 2 _ m (HBL.out _ (HW2.out _ _ _ _)) HL.out (by omega)).mono ?_; rintro e w1 ⟨rfl, hw⟩; replace hw := hw.symm; subst hw)
  all_goals simp [bodyPost, results, Try.results31, go_sem]
  all_goals first
    | exact below_drew (HW2.out _ _ _ _)
    | exact HW2.out _ _ _ _
    | exact ⟨by omega, below_drew (HW2.out _ _ _ _)⟩
set_option maxHeartbeats 2000000 in
theorem rread4 (w : World) (lb off cap : Nat) (l : List Nat) (hB : Bl w lb off l) (hl : l.length = 17) (hc : 17 ≤ cap) (hc2 : cap < 9223372036854775808) (h1 : l.getD 0 0 = 4) :
    Calls Try.prog 31 #[.slice (some ⟨lb, off, none⟩) 17 cap] w fun e w' => e = .returned (.agg #[.int .i64 4, .int .i64 0, .int .u64 0, .int .i64 0, .slice none 0 0, .int .u64 (unbe ((l.drop 1).take 8) : Int), .int .u64 (unbe (l.drop 9) : Int), .int .i64 0, .int .u8 0, .int .i64 0]) ∧ Below w.heap.size w w' := by
  have hc' : 17 ≤ (cap : Int) := by omega
  have hc1 : ¬ (cap : Int) = 1 := by omega
  have hc3 : ¬ cap = 1 := by omega
  have hc4 : ¬ cap = 2 := by omega
  have hc5 : ¬ cap = 9 := by omega
  have hlb := hB.lt
  have y0 := hB.at_ 0 (by omega)
  rw [h1] at y0
  simp only [Nat.add_zero] at y0
  have HW2 : Hid (∀ (c c' : Array Value) (t t' : TypeId), Below w.heap.size w ((w.alloc (.cells c t)).alloc (.cells c' t'))) := fun c c' t t' => below_two w c c' t t'
  have HBL : Hid (∀ W, Below w.heap.size w W → Bl W lb (off + 1) ((l.drop 1).take 8)) := fun W hb => ((hB.below hb).drop 1).take 8
  have HBM : Hid (∀ W, Below w.heap.size w W → Bl W lb (off + 9) (l.drop 9)) := fun W hb => by
    exact (hB.below hb).drop 9
  have HL : Hid (((l.drop 1).take 8).length = 8) := by show _ = _; simp [hl]
  have HM : Hid ((l.drop 9).length = 8) := by show _ = _; simp [hl]
  generalize (l.drop 1).take 8 = m at *
  generalize l.drop 9 = m2 at *
  have HRN := veil (fun W lb o n c l h hn hl => rnum_any W lb o n c l h hn hl)
  clear hB h1
  go_enter Try.func31, Try.ntmps31
  go_wp2_with fail
  go_region_with (first
    | (have hd2 := hdone; go_at_call 43; refine (HRN.out _ _ _ 8 _ m2 (HBM.out _ (below_drew (HW2.out _ _ _ _))) HM.out (by omega)).mono ?_; rintro e w1 ⟨rfl, hw⟩; replace hw := hw.symm; subst hw)
    | (go_at_call 43; refine (HRN.out _ _ _ 8 _ m (HBL.out _ (below_drew (HW2.out _ _ _ _))) HL.out (by omega)).mono ?_; rintro e w1 ⟨rfl, hw⟩; replace hw := hw.symm; subst hw; have hdone := trivial))
  all_goals go_wp2
  all_goals simp [bodyPost, results, Try.results31, go_sem]
  all_goals first
    | exact below_drew (HW2.out _ _ _ _)
    | exact HW2.out _ _ _ _
    | exact ⟨by omega, below_drew (HW2.out _ _ _ _)⟩
set_option maxHeartbeats 2000000 in
theorem rread5 (w : World) (lb off cap : Nat) (l : List Nat) (hB : Bl w lb off l) (hl : l.length = 4) (hc : 4 ≤ cap) (hc2 : cap < 9223372036854775808) (h1 : l.getD 0 0 = 5) :
    Calls Try.prog 31 #[.slice (some ⟨lb, off, none⟩) 4 cap] w fun e w' => e = .returned (.agg #[.int .i64 5, .int .i64 0, .int .u64 0, .int .i64 0, .slice none 0 0, .int .u64 0, .int .u64 0, .int .i64 (l.getD 1 0 : Int), .int .u8 (l.getD 2 0 : Int), .int .i64 ((l.getD 3 0 : Int) - 1)]) ∧ Below w.heap.size w w' := by
  have hc' : 4 ≤ (cap : Int) := by omega
  have hc1 : ¬ (cap : Int) = 1 := by omega
  have hc3 : ¬ cap = 1 := by omega
  have hc4 : ¬ cap = 2 := by omega
  have hlb := hB.lt
  have y0 := hB.at_ 0 (by omega)
  rw [h1] at y0
  simp only [Nat.add_zero] at y0
  have HW2 : Hid (∀ (c c' : Array Value) (t t' : TypeId), Below w.heap.size w ((w.alloc (.cells c t)).alloc (.cells c' t'))) := fun c c' t t' => below_two w c c' t t'
  have y1 := hB.at_ 1 (by omega)
  have hx1 := hB.small _ (getD_mem (l := l) (j := 1) (by omega))
  have y2 := hB.at_ 2 (by omega)
  have hx2 := hB.small _ (getD_mem (l := l) (j := 2) (by omega))
  have y3 := hB.at_ 3 (by omega)
  have hx3 := hB.small _ (getD_mem (l := l) (j := 3) (by omega))
  generalize l.getD 1 0 = x1 at *
  generalize l.getD 2 0 = x2 at *
  generalize l.getD 3 0 = x3 at *
  have HRN := veil (fun W lb o n c l h hn hl => rnum_any W lb o n c l h hn hl)
  clear hB h1
  go_enter Try.func31, Try.ntmps31
  go_wp2_with fail
  go_region
  all_goals go_wp2
  all_goals simp [bodyPost, results, Try.results31, go_sem]
  all_goals first
    | exact below_drew (HW2.out _ _ _ _)
    | exact HW2.out _ _ _ _
    | exact ⟨by omega, below_drew (HW2.out _ _ _ _)⟩
set_option maxHeartbeats 2000000 in
theorem rread3 (w : World) (lb off cap : Nat) (l : List Nat) (hB : Bl w lb off l) (hl : 2 ≤ l.length) (hlm : l.length < 100000) (hc : l.length ≤ cap) (hc2 : cap < 9223372036854775808) (h1 : l.getD 0 0 = 3) :
    Calls Try.prog 31 #[.slice (some ⟨lb, off, none⟩) l.length cap] w fun e w' => ∃ ca cc, e = .returned (.agg #[.int .i64 3, .int .i64 0, .int .u64 0, .int .i64 0, .slice ca (rdC (l.drop 1)).length cc, .int .u64 0, .int .u64 0, .int .i64 0, .int .u8 0, .int .i64 0]) ∧ CRow w' w.heap.size (.slice ca (rdC (l.drop 1)).length cc) (rdC (l.drop 1)) ∧ Below w.heap.size w w' := by
  have hc' : (l.length : Int) ≤ (cap : Int) := by omega
  have hl0 : 0 < (l.length : Int) := by omega
  have hl1 : 1 ≤ (l.length : Int) := by omega
  have hc1 : ¬ (cap : Int) = 1 := by omega
  have hc3 : ¬ cap = 1 := by omega
  have hlb := hB.lt
  have y0 := hB.at_ 0 (by omega)
  rw [h1] at y0
  simp only [Nat.add_zero] at y0
  have HW2 : Hid (∀ (c c' : Array Value) (t t' : TypeId), Below w.heap.size w ((w.alloc (.cells c t)).alloc (.cells c' t'))) := fun c c' t t' => below_two w c c' t t'
  have HD : Hid (∀ W, Below w.heap.size w W → Calls Try.prog 44 #[.slice (some ⟨lb, off + 1, none⟩) (l.length - 1) (cap - 1)] W fun e w' => ∃ a' c' x, e = .returned (.tuple #[.slice a' (rdC (l.drop 1)).length c', .int .i64 x]) ∧ CRow w' W.heap.size (.slice a' (rdC (l.drop 1)).length c') (rdC (l.drop 1)) ∧ Below W.heap.size W w') := by
    intro W hb
    have q := rdecs W lb (off + 1) (cap - 1) (l.drop 1) ((hB.below hb).drop 1) (by simp; omega) (by omega)
    rw [List.length_drop] at q
    refine q.mono fun e w' hh => ?_
    obtain ⟨v, x, he, hv, hb'⟩ := hh
    obtain ⟨a', c', rfl, _⟩ := hv.cod
    exact ⟨a', c', x, he, hv, hb'⟩
  have HFR : Hid (∀ W w1 : World, ∀ (c c' : Array Value) (t t' : TypeId), W = ((w.alloc (.cells c t)).alloc (.cells c' t')) → Below W.heap.size W w1 → Bx w1 w.heap.size c t ∧ Bx w1 (w.heap.size + 1) c' t' ∧ Below w.heap.size w w1 ∧ W.heap.size = w.heap.size + 2) := by
    rintro W w1 c c' t t' rfl hb
    have b1 := (bx_new w c t).alloc (.cells c' t')
    have b2 := bx_new (w.alloc (.cells c t)) c' t'
    rw [show (w.alloc (.cells c t)).heap.size = w.heap.size + 1 by simp] at b2
    exact ⟨b1.below hb b1.lt, b2.below hb b2.lt, (below_two w c c' t t').trans (hb.mono (by simp; omega)), by simp⟩
  clear hB h1
  generalize rdC (l.drop 1) = C at *
  go_enter Try.func31, Try.ntmps31
  go_wp2_with (go_at_call 44; refine (HD.out _ (HW2.out _ _ _ _)).mono ?_; rintro e w1 ⟨a1, c1, x1, rfl, hcd, hb⟩; obtain ⟨k1, k2, k3, k4⟩ := HFR.out _ _ _ _ _ _ rfl hb; rw [k4] at hcd; have p0 := k1.cell 0 _ rfl; have q0 := k2.cell 0 _ rfl; have f0 := k1.frozen 0; have g0 := k2.frozen 0; have p1 := k1.cell 1 _ rfl; have q1 := k2.cell 1 _ rfl; have f1 := k1.frozen 1; have g1 := k2.frozen 1; have p2 := k1.cell 2 _ rfl; have q2 := k2.cell 2 _ rfl; have f2 := k1.frozen 2; have g2 := k2.frozen 2; have p3 := k1.cell 3 _ rfl; have q3 := k2.cell 3 _ rfl; have f3 := k1.frozen 3; have g3 := k2.frozen 3; have p4 := k1.cell 4 _ rfl; have q4 := k2.cell 4 _ rfl; have f4 := k1.frozen 4; have g4 := k2.frozen 4; have p5 := k1.cell 5 _ rfl; have q5 := k2.cell 5 _ rfl; have f5 := k1.frozen 5; have g5 := k2.frozen 5; have p6 := k1.cell 6 _ rfl; have q6 := k2.cell 6 _ rfl; have f6 := k1.frozen 6; have g6 := k2.frozen 6; have p7 := k1.cell 7 _ rfl; have q7 := k2.cell 7 _ rfl; have f7 := k1.frozen 7; have g7 := k2.frozen 7; have p8 := k1.cell 8 _ rfl; have q8 := k2.cell 8 _ rfl; have f8 := k1.frozen 8; have g8 := k2.frozen 8; have p9 := k1.cell 9 _ rfl; have q9 := k2.cell 9 _ rfl; have f9 := k1.frozen 9; have g9 := k2.frozen 9; have HC := veil hcd; have HK := veil k3; have HK1 := veil k1; have HK2 := veil k2; clear hcd hb k1 k2 k3 k4)
  refine bodyPost_ret (v := .agg #[.int .i64 3, .int .i64 0, .int .u64 0, .int .i64 0, .slice a1 C.length c1, .int .u64 0, .int .u64 0, .int .i64 0, .int .u8 0, .int .i64 0]) ?_ rfl ?_
  · simp [results, Try.results31, go_sem, p0, p1, p2, p3, p4, p5, p6, p7, p8, p9]
  · refine ⟨a1, c1, rfl, ?_, ?_⟩
    · refine CRow.low (base := w.heap.size + 2) ?_ (by omega)
      iterate 11 refine CRow.set ?_ _ _ (by simp)
      exact HC.out
    · iterate 11 refine below_set ?_ _ _ (by simp)
      exact HK.out
end Go.Proofs.Ytnnpbbiiapipaaa
