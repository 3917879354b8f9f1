/-
  exec: ExecSteps.
-/
import Derived.Test.YteknpjjgppmlmaaJ8
import Derived.OrdersHeld
namespace Go.Proofs.Yteknpjjgppmlmaa
open Go.RowKit Go.Lib
set_option linter.unusedVariables false

theorem Two.other {W : World} {b b' : Nat} {x y : Value} (h : Two W b x y) (hne : b ≠ b') (u v : Value) : Two ((W.setCell ⟨b', 0, none⟩ u).setCell ⟨b', 1, none⟩ v) b x y := by
  obtain ⟨h1, h2, h3, h4⟩ := h
  have n1 : ¬ b = b' := hne
  have n2 : ¬ b' = b := fun q => hne q.symm
  refine ⟨?_, ?_, ?_, ?_⟩ <;> simp [go_sem, h1, h2, h3, h4]
theorem Two.drew {W : World} {b : Nat} {x y : Value} (h : Two W b x y) : Two W.drew b x y := h
set_option maxHeartbeats 8000000 in
theorem steps_walk (w : World) (a : Option Addr) (len cap : Nat) (hl : len < 9223372036854775808) (hc : len ≤ cap) (O R : Nat → Int) (hp : Prg w a len O R) (x y : Int) (hy : y < 9223372036854775808) :
    Calls Try.prog 3 #[.slice a len cap, .agg #[.int .i64 x, .int .i64 y]] w fun e w' => e = .returned (.bool true) ∧ Below w.heap.size w w' := by
  have HF := veil (fun w1 (hb : Below w.heap.size w w1) => few_ok w1 a len cap hl hc O R (hp.below hb))
  have hpm := hp.cut (m := min len 100) (by omega)
  have hm : min len 100 < 9223372036854775808 := by omega
  have HL := veil live_ok
  have HT := veil (fun w1 => tick_ok w1 x y hy)
  have HU := veil (fun w1 => rtick_ok w1 x y hy)
  generalize (if 0 < y then y - 1 else y) = yt at HT HU
  obtain ⟨o, q, g, h, b, HS, HR⟩ : ∃ (o q g h : Int) (b : Bool), (Hid (∀ w1, Below w.heap.size w w1 → Calls Try.prog 11 #[.slice a ((min len 100 : Nat)) cap, .agg #[.int .i64 x, .int .i64 y]] w1 fun e w' => e = .returned (.tuple #[.agg #[.int .i64 o, .int .i64 q], .agg #[.int .i64 g, .int .i64 h], .bool b]) ∧ Below w1.heap.size w1 w')) ∧
      (Hid (∀ w1, Below w.heap.size w w1 → Calls Try.prog 12 #[.slice a ((min len 100 : Nat)) cap, .agg #[.int .i64 x, .int .i64 y]] w1 fun e w' => e = .returned (.tuple #[.agg #[.int .i64 o, .int .i64 q], .agg #[.int .i64 g, .int .i64 h], .bool b]) ∧ Below w1.heap.size w1 w')) := by
    by_cases hy0 : 0 < y
    · exact ⟨0, 0, x, y, true, fun w1 _ => step_busy w1 a _ cap x y hy0, fun w1 _ => rstep_busy w1 a _ cap x y hy0⟩
    · obtain ⟨r, hr⟩ := rt_bool (min len 100) O R
      exact ⟨_, _, _, _, _, fun w1 hb => step_any w1 a _ cap hm O R (hpm.below hb) r hr x y hy0, fun w1 hb => rstep_any w1 a _ cap hm O R (hpm.below hb) r hr x y hy0⟩
  clear hp hpm
  generalize (min len 100) = m at *
  go_enter Try.func3, Try.ntmps3
  go_wp2_with (first
    | (go_at_call 10; refine (HF.out _ (by first | exact (Below.refl _ _) | exact ((Below.refl _ _).alloc (Nat.le_refl _) _) | exact ((Below.refl _ _).alloc (Nat.le_refl _) _).alloc (by simp) _)).mono ?_; rintro e w0 ⟨rfl, hw⟩; replace hw := hw.symm; subst hw)
    | (go_at_call 11; refine (HS.out _ (by exact ((Below.refl _ _).alloc (Nat.le_refl _) _))).mono ?_; rintro e w1 ⟨rfl, hb⟩; have tF := (Two.new w _ _ _).below hb; have HF1 := veil tF; have HB1 := veil (((Below.refl w.heap.size w).alloc (Nat.le_refl _) _).trans (hb.mono (by simp))); obtain ⟨cf0, cf1, _, _⟩ := tF; have l1 := HF1.out.lt; have n1 : ¬ w.heap.size = w1.heap.size := (by omega); have n2 : ¬ w.heap.size = w1.heap.size + 1 := (by omega); clear hb)
    | (go_at_call 12; refine (HR.out _ (by exact ((HB1.out.alloc HB1.out.size _).alloc (by have := HB1.out.size; simp; omega) _))).mono ?_; rintro e w2 ⟨rfl, hb⟩; have hs1 := HB1.out.size; have tF := ((HF1.out.alloc _).alloc _).below hb; have tI := ((Two.new w1 _ _ _).alloc _).below hb; have tG := (Two.new1 w1 _ _ _ _).below hb; have HF2 := veil tF; have HI2 := veil tI; have HG2 := veil tG; have HB2 := veil (((HB1.out.alloc hs1 _).alloc (by simp; omega) _).trans (hb.mono (by simp; omega))); obtain ⟨df0, df1, _, _⟩ := tF; have l2 := HG2.out.lt; have n3 : ¬ w.heap.size = w2.heap.size := (by omega); have n4 : ¬ w.heap.size = w2.heap.size + 1 := (by omega); clear hb tI tG cf0 cf1 n1 n2))
  have tF := (HF2.out.alloc (.cells #[.int .i64 o, .int .i64 q] 28)).alloc (.cells #[.int .i64 g, .int .i64 h] 31)
  have tI := (HI2.out.alloc (.cells #[.int .i64 o, .int .i64 q] 28)).alloc (.cells #[.int .i64 g, .int .i64 h] 31)
  have tG := (HG2.out.alloc (.cells #[.int .i64 o, .int .i64 q] 28)).alloc (.cells #[.int .i64 g, .int .i64 h] 31)
  have tJ := (Two.new w2 (.int .i64 o) (.int .i64 q) 28).alloc (.cells #[.int .i64 g, .int .i64 h] 31)
  have tH := Two.new1 w2 (.cells #[.int .i64 o, .int .i64 q] 28) (.int .i64 g) (.int .i64 h) 31
  have hs2 := HB2.out.size
  have HBW := veil ((HB2.out.alloc hs2 (.cells #[.int .i64 o, .int .i64 q] 28)).alloc (by simp; omega) (.cells #[.int .i64 g, .int .i64 h] 31))
  clear df0 df1 n3 n4 HF1 HB1 HF2 HI2 HG2 HB2
  generalize (w2.alloc (.cells #[.int .i64 o, .int .i64 q] 28)).alloc (.cells #[.int .i64 g, .int .i64 h] 31) = W at tF tI tG tJ tH HBW ⊢
  generalize w1.heap.size + 1 = bG at tG ⊢
  generalize w2.heap.size + 1 = bH at tH ⊢
  generalize w1.heap.size = bI at tI ⊢
  generalize w2.heap.size = bJ at tJ ⊢
  have HTI := veil tI
  have HTG := veil tG
  have HTJ := veil tJ
  have HTH := veil tH
  have HTF := veil tF
  have lF := tF.lt
  clear tI tG tJ tH
  refine wp_region_held_drew (S := (fun w' => w'.cell? ⟨w.heap.size, 0, none⟩ = some (.int .i64 x) ∧ w'.cell? ⟨w.heap.size, 1, none⟩ = some (.int .i64 y))) (by kernel_rfl) ?_ (fun hHeld => ?_)
  · exact ⟨tF.1, tF.2.1⟩
  have tF0 := tF.drew
  have hB0 := (Below.refl W.heap.size W).drew
  clear tF
  generalize W.drew = W0 at tF0 hB0 hHeld ⊢
  refine wpAnyH_take (i := 0) (v := ?_) rfl (by kernel_rfl) (by kernel_rfl) (by kernel_rfl) (fun _ _ _ h => h) (Or.inl ⟨by rfl, ?v0⟩) (by assumption) ?_
  case v0 => (intro w hSw; (try dsimp only at hSw); go_simp; try with_reducible rfl)
  try simp only [Act.put, List.setIfInBounds_toArray, List.set_cons_zero, List.set_cons_succ, List.getElem_toArray, List.getElem_cons_zero]
  refine wpAnyH_take (i := 2) (v := ?_) rfl (by kernel_rfl) (by kernel_rfl) (by kernel_rfl) (fun _ _ _ h => h) (Or.inl ⟨by rfl, ?v2⟩) (by assumption) ?_
  case v2 => (intro w hSw; (try dsimp only at hSw); go_simp; try with_reducible rfl)
  try simp only [Act.put, List.setIfInBounds_toArray, List.set_cons_zero, List.set_cons_succ, List.getElem_toArray, List.getElem_cons_succ, List.getElem_cons_zero]
  refine wpAnyH_take (i := 3) (v := ?_) rfl (by kernel_rfl) (by kernel_rfl) (by kernel_rfl) (fun _ _ _ h => h) (Or.inl ⟨by rfl, ?v3⟩) (by assumption) ?_
  case v3 => (intro w hSw; (try dsimp only at hSw); go_simp; try with_reducible rfl)
  try simp only [Act.put, List.setIfInBounds_toArray, List.set_cons_zero, List.set_cons_succ, List.getElem_toArray, List.getElem_cons_succ, List.getElem_cons_zero]
  refine wpAnyH_take (i := 4) (v := ?_) rfl (by kernel_rfl) (by kernel_rfl) (by kernel_rfl) (fun _ _ _ h => h) (Or.inl ⟨by rfl, ?v4⟩) (by assumption) ?_
  case v4 => (intro w hSw; (try dsimp only at hSw); go_simp; try with_reducible rfl)
  try simp only [Act.put, List.setIfInBounds_toArray, List.set_cons_zero, List.set_cons_succ, List.getElem_toArray, List.getElem_cons_succ, List.getElem_cons_zero]
  refine wpAnyH_take (i := 5) (v := ?_) rfl (by kernel_rfl) (by kernel_rfl) (by kernel_rfl) (fun _ _ _ h => h) (Or.inl ⟨by rfl, ?v5⟩) (by assumption) ?_
  case v5 => (intro w hSw; (try dsimp only at hSw); go_simp; try with_reducible rfl)
  try simp only [Act.put, List.setIfInBounds_toArray, List.set_cons_zero, List.set_cons_succ, List.getElem_toArray, List.getElem_cons_succ, List.getElem_cons_zero]
  refine wpAnyH_take (i := 6) (v := ?_) rfl (by kernel_rfl) (by kernel_rfl) (by kernel_rfl) (fun _ _ _ h => h) (Or.inl ⟨by rfl, ?v6⟩) (by assumption) ?_
  case v6 => (intro w hSw; (try dsimp only at hSw); go_simp; try with_reducible rfl)
  try simp only [Act.put, List.setIfInBounds_toArray, List.set_cons_zero, List.set_cons_succ, List.getElem_toArray, List.getElem_cons_succ, List.getElem_cons_zero]
  refine wpAnyH_ready (rs := [1, 8, 9]) (by kernel_rfl) (by simp) ?_
  refine AllReadyH.cons rfl (fun K hK => ?_) (AllReadyH.cons rfl (fun K hK => ?_) (AllReadyH.cons rfl (fun K hK => ?_) AllReadyH.nil))
  · skip
    go_simp
    go_at_call 13
    refine (HT.out _).mono ?_
    rintro e w3 ⟨rfl, hb1⟩
    have tF1 := tF0.below hb1
    have hB1 := hB0.trans (hb1.mono hB0.size)
    refine hK.out _ _ ?_ (fun hHeld => ?_)
    · exact ⟨tF1.1, tF1.2.1⟩
    clear hK K
    try simp only [Act.put, List.setIfInBounds_toArray, List.set_cons_zero, List.set_cons_succ, List.getElem_toArray, List.getElem_cons_succ, List.getElem_cons_zero]
    refine wpAnyH_ready (rs := [7, 8, 9]) (by kernel_rfl) (by simp) ?_
    refine AllReadyH.cons rfl (fun K hK => ?_) (AllReadyH.cons rfl (fun K hK => ?_) (AllReadyH.cons rfl (fun K hK => ?_) AllReadyH.nil))
    · skip
      go_simp
      go_at_call 14
      refine (HU.out _).mono ?_
      rintro e w4 ⟨rfl, hb2⟩
      have tF2 := tF1.below hb2
      have hB2 := hB1.trans (hb2.mono hB1.size)
      refine hK.out _ _ ?_ (fun hHeld => ?_)
      · exact ⟨tF2.1, tF2.2.1⟩
      clear hK K
      try simp only [Act.put, List.setIfInBounds_toArray, List.set_cons_zero, List.set_cons_succ, List.getElem_toArray, List.getElem_cons_succ, List.getElem_cons_zero]
      refine wpAnyH_ready (rs := [8, 9]) (by kernel_rfl) (by simp) ?_
      refine AllReadyH.cons rfl (fun K hK => ?_) (AllReadyH.cons rfl (fun K hK => ?_) AllReadyH.nil)
      · skip
        go_simp
        have tF3 := tF2.alloc (.cells #[.int .i64 0, .int .i64 0] 24)
        have hB3 := hB2.alloc hB2.size (.cells #[.int .i64 0, .int .i64 0] 24)
        have tT3 := Two.new w4 (.int .i64 0) (.int .i64 0) 24
        have gT : W.heap.size ≤ w4.heap.size := (by have := hB2.size; (try simp at this); omega)
        refine hK.out _ _ ?_ (fun hHeld => ?_)
        · exact ⟨tF3.1, tF3.2.1⟩
        clear hK K
        try simp only [Act.put, List.setIfInBounds_toArray, List.set_cons_zero, List.set_cons_succ, List.getElem_toArray, List.getElem_cons_succ, List.getElem_cons_zero]
        refine wpAnyH_ready (rs := [9]) (by kernel_rfl) (by simp) ?_
        refine AllReadyH.cons rfl (fun K hK => ?_) AllReadyH.nil
        go_simp
        have tF4 := tF3.alloc (.cells #[.int .i64 0, .int .i64 0] 31)
        have hB4 := hB3.alloc hB3.size (.cells #[.int .i64 0, .int .i64 0] 31)
        have tT4 := tT3.alloc (.cells #[.int .i64 0, .int .i64 0] 31)
        have tU4 := Two.new1 w4 (.cells #[.int .i64 0, .int .i64 0] 24) (.int .i64 0) (.int .i64 0) 31
        have gU : W.heap.size ≤ (w4.heap.size + 1) := (by have := hB3.size; (try simp at this); omega)
        have nTU : w4.heap.size ≠ (w4.heap.size + 1) := (by have := tT3.lt; (try simp at this); omega)
        refine hK.out _ _ ?_ (fun hHeld => ?_)
        · exact ⟨tF4.1, tF4.2.1⟩
        clear hK K
        try simp only [Act.put, List.setIfInBounds_toArray, List.set_cons_zero, List.set_cons_succ, List.getElem_toArray, List.getElem_cons_succ, List.getElem_cons_zero]
        refine wpAnyH_ready (rs := [10]) (by kernel_rfl) (by simp) ?_
        refine AllReadyH.cons rfl (fun K hK => ?_) AllReadyH.nil
        generalize ((w4.alloc (.cells #[.int .i64 0, .int .i64 0] 24)).alloc (.cells #[.int .i64 0, .int .i64 0] 31)) = V at tF4 hB4 tT4 tU4 ⊢
        obtain ⟨a0, a1, a2, a3⟩ := tT4
        go_simp
        have tF10 := tF4.other (b' := w4.heap.size) (by omega) (.int .i64 x) (.int .i64 yt)
        have tU10 := tU4.other (b' := w4.heap.size) (Ne.symm nTU) (.int .i64 x) (.int .i64 yt)
        have tT10 := (show Two V w4.heap.size (.int .i64 0) (.int .i64 0) from ⟨a0, a1, a2, a3⟩).set (.int .i64 x) (.int .i64 yt)
        have hB10 := (hB4.setCell (p := ⟨w4.heap.size, 0, none⟩) gT (.int .i64 x)).setCell (p := ⟨w4.heap.size, 1, none⟩) gT (.int .i64 yt)
        refine hK.out _ _ ?_ (fun hHeld => ?_)
        · exact ⟨tF10.1, tF10.2.1⟩
        clear hK K
        try simp only [Act.put, List.setIfInBounds_toArray, List.set_cons_zero, List.set_cons_succ, List.getElem_toArray, List.getElem_cons_succ, List.getElem_cons_zero]
        refine wpAnyH_ready (rs := [11]) (by kernel_rfl) (by simp) ?_
        refine AllReadyH.cons rfl (fun K hK => ?_) AllReadyH.nil
        clear a0 a1 a2 a3
        generalize ((V.setCell ⟨w4.heap.size, 0, none⟩ (.int .i64 x)).setCell ⟨w4.heap.size, 1, none⟩ (.int .i64 yt)) = V2 at tF10 tU10 tT10 hB10 ⊢
        obtain ⟨a0, a1, a2, a3⟩ := tU10
        go_simp
        have tF11 := tF10.other (b' := (w4.heap.size + 1)) (by omega) (.int .i64 x) (.int .i64 yt)
        have tT11 := tT10.other (b' := (w4.heap.size + 1)) nTU (.int .i64 x) (.int .i64 yt)
        have tU11 := (show Two V2 (w4.heap.size + 1) (.int .i64 0) (.int .i64 0) from ⟨a0, a1, a2, a3⟩).set (.int .i64 x) (.int .i64 yt)
        have hB11 := (hB10.setCell (p := ⟨(w4.heap.size + 1), 0, none⟩) gU (.int .i64 x)).setCell (p := ⟨(w4.heap.size + 1), 1, none⟩) gU (.int .i64 yt)
        refine hK.out _ _ ?_ (fun hHeld => ?_)
        · exact ⟨tF11.1, tF11.2.1⟩
        clear hK K
        try simp only [Act.put, List.setIfInBounds_toArray, List.set_cons_zero, List.set_cons_succ, List.getElem_toArray, List.getElem_cons_succ, List.getElem_cons_zero]
        refine wpAnyH_done (by kernel_rfl) ?_ _
        clear a0 a1 a2 a3
        generalize ((V2.setCell ⟨(w4.heap.size + 1), 0, none⟩ (.int .i64 x)).setCell ⟨(w4.heap.size + 1), 1, none⟩ (.int .i64 yt)) = V3 at tT11 tU11 hB11 ⊢
        generalize (w4.heap.size + 1) = bU at tU11 ⊢
        generalize w4.heap.size = bT at tT11 ⊢
        have HTT := veil tT11
        have HTU := veil tU11
        have HB5 := veil hB11
        clear tF11 tT11 tU11 hB11
        go_wp2_with (first | (go_at_call 15; refine (HL.out _).mono ?_; rintro e w5 ⟨rfl, hb⟩; have hb5 := HB5.out.trans (hb.mono HB5.out.size); have tI := HTI.out.below hb5; have tG := HTG.out.below hb5; have tJ := HTJ.out.below hb5; have tH := HTH.out.below hb5; have tT := HTT.out.below hb; have tU := HTU.out.below hb; have HB6 := veil (HBW.out.trans (hb5.mono HBW.out.size)); obtain ⟨i0, i1, _, _⟩ := tI; obtain ⟨g0, g1, _, _⟩ := tG; obtain ⟨j0, j1, _, _⟩ := tJ; obtain ⟨h0, h1, _, _⟩ := tH; obtain ⟨t0, t1, _, _⟩ := tT; obtain ⟨u0, u1, _, _⟩ := tU; clear hb hb5))
        go_ret
        exact ⟨rfl, HB6.out⟩
      · skip
        go_simp
        have tF3 := tF2.alloc (.cells #[.int .i64 0, .int .i64 0] 31)
        have hB3 := hB2.alloc hB2.size (.cells #[.int .i64 0, .int .i64 0] 31)
        have tU3 := Two.new w4 (.int .i64 0) (.int .i64 0) 31
        have gU : W.heap.size ≤ w4.heap.size := (by have := hB2.size; (try simp at this); omega)
        refine hK.out _ _ ?_ (fun hHeld => ?_)
        · exact ⟨tF3.1, tF3.2.1⟩
        clear hK K
        try simp only [Act.put, List.setIfInBounds_toArray, List.set_cons_zero, List.set_cons_succ, List.getElem_toArray, List.getElem_cons_succ, List.getElem_cons_zero]
        refine wpAnyH_ready (rs := [8]) (by kernel_rfl) (by simp) ?_
        refine AllReadyH.cons rfl (fun K hK => ?_) AllReadyH.nil
        go_simp
        have tF4 := tF3.alloc (.cells #[.int .i64 0, .int .i64 0] 24)
        have hB4 := hB3.alloc hB3.size (.cells #[.int .i64 0, .int .i64 0] 24)
        have tU4 := tU3.alloc (.cells #[.int .i64 0, .int .i64 0] 24)
        have tT4 := Two.new1 w4 (.cells #[.int .i64 0, .int .i64 0] 31) (.int .i64 0) (.int .i64 0) 24
        have gT : W.heap.size ≤ (w4.heap.size + 1) := (by have := hB3.size; (try simp at this); omega)
        have nTU : (w4.heap.size + 1) ≠ w4.heap.size := (by have := tU3.lt; (try simp at this); omega)
        refine hK.out _ _ ?_ (fun hHeld => ?_)
        · exact ⟨tF4.1, tF4.2.1⟩
        clear hK K
        try simp only [Act.put, List.setIfInBounds_toArray, List.set_cons_zero, List.set_cons_succ, List.getElem_toArray, List.getElem_cons_succ, List.getElem_cons_zero]
        refine wpAnyH_ready (rs := [10]) (by kernel_rfl) (by simp) ?_
        refine AllReadyH.cons rfl (fun K hK => ?_) AllReadyH.nil
        generalize ((w4.alloc (.cells #[.int .i64 0, .int .i64 0] 31)).alloc (.cells #[.int .i64 0, .int .i64 0] 24)) = V at tF4 hB4 tT4 tU4 ⊢
        obtain ⟨a0, a1, a2, a3⟩ := tT4
        go_simp
        have tF10 := tF4.other (b' := (w4.heap.size + 1)) (by omega) (.int .i64 x) (.int .i64 yt)
        have tU10 := tU4.other (b' := (w4.heap.size + 1)) (Ne.symm nTU) (.int .i64 x) (.int .i64 yt)
        have tT10 := (show Two V (w4.heap.size + 1) (.int .i64 0) (.int .i64 0) from ⟨a0, a1, a2, a3⟩).set (.int .i64 x) (.int .i64 yt)
        have hB10 := (hB4.setCell (p := ⟨(w4.heap.size + 1), 0, none⟩) gT (.int .i64 x)).setCell (p := ⟨(w4.heap.size + 1), 1, none⟩) gT (.int .i64 yt)
        refine hK.out _ _ ?_ (fun hHeld => ?_)
        · exact ⟨tF10.1, tF10.2.1⟩
        clear hK K
        try simp only [Act.put, List.setIfInBounds_toArray, List.set_cons_zero, List.set_cons_succ, List.getElem_toArray, List.getElem_cons_succ, List.getElem_cons_zero]
        refine wpAnyH_ready (rs := [11]) (by kernel_rfl) (by simp) ?_
        refine AllReadyH.cons rfl (fun K hK => ?_) AllReadyH.nil
        clear a0 a1 a2 a3
        generalize ((V.setCell ⟨(w4.heap.size + 1), 0, none⟩ (.int .i64 x)).setCell ⟨(w4.heap.size + 1), 1, none⟩ (.int .i64 yt)) = V2 at tF10 tU10 tT10 hB10 ⊢
        obtain ⟨a0, a1, a2, a3⟩ := tU10
        go_simp
        have tF11 := tF10.other (b' := w4.heap.size) (by omega) (.int .i64 x) (.int .i64 yt)
        have tT11 := tT10.other (b' := w4.heap.size) nTU (.int .i64 x) (.int .i64 yt)
        have tU11 := (show Two V2 w4.heap.size (.int .i64 0) (.int .i64 0) from ⟨a0, a1, a2, a3⟩).set (.int .i64 x) (.int .i64 yt)
        have hB11 := (hB10.setCell (p := ⟨w4.heap.size, 0, none⟩) gU (.int .i64 x)).setCell (p := ⟨w4.heap.size, 1, none⟩) gU (.int .i64 yt)
        refine hK.out _ _ ?_ (fun hHeld => ?_)
        · exact ⟨tF11.1, tF11.2.1⟩
        clear hK K
        try simp only [Act.put, List.setIfInBounds_toArray, List.set_cons_zero, List.set_cons_succ, List.getElem_toArray, List.getElem_cons_succ, List.getElem_cons_zero]
        refine wpAnyH_done (by kernel_rfl) ?_ _
        clear a0 a1 a2 a3
        generalize ((V2.setCell ⟨w4.heap.size, 0, none⟩ (.int .i64 x)).setCell ⟨w4.heap.size, 1, none⟩ (.int .i64 yt)) = V3 at tT11 tU11 hB11 ⊢
        generalize (w4.heap.size + 1) = bT at tT11 ⊢
        generalize w4.heap.size = bU at tU11 ⊢
        have HTT := veil tT11
        have HTU := veil tU11
        have HB5 := veil hB11
        clear tF11 tT11 tU11 hB11
        go_wp2_with (first | (go_at_call 15; refine (HL.out _).mono ?_; rintro e w5 ⟨rfl, hb⟩; have hb5 := HB5.out.trans (hb.mono HB5.out.size); have tI := HTI.out.below hb5; have tG := HTG.out.below hb5; have tJ := HTJ.out.below hb5; have tH := HTH.out.below hb5; have tT := HTT.out.below hb; have tU := HTU.out.below hb; have HB6 := veil (HBW.out.trans (hb5.mono HBW.out.size)); obtain ⟨i0, i1, _, _⟩ := tI; obtain ⟨g0, g1, _, _⟩ := tG; obtain ⟨j0, j1, _, _⟩ := tJ; obtain ⟨h0, h1, _, _⟩ := tH; obtain ⟨t0, t1, _, _⟩ := tT; obtain ⟨u0, u1, _, _⟩ := tU; clear hb hb5))
        go_ret
        exact ⟨rfl, HB6.out⟩
    · skip
      go_simp
      have tF2 := tF1.alloc (.cells #[.int .i64 0, .int .i64 0] 24)
      have hB2 := hB1.alloc hB1.size (.cells #[.int .i64 0, .int .i64 0] 24)
      have tT2 := Two.new w3 (.int .i64 0) (.int .i64 0) 24
      have gT : W.heap.size ≤ w3.heap.size := (by have := hB1.size; (try simp at this); omega)
      refine hK.out _ _ ?_ (fun hHeld => ?_)
      · exact ⟨tF2.1, tF2.2.1⟩
      clear hK K
      try simp only [Act.put, List.setIfInBounds_toArray, List.set_cons_zero, List.set_cons_succ, List.getElem_toArray, List.getElem_cons_succ, List.getElem_cons_zero]
      refine wpAnyH_ready (rs := [7, 9]) (by kernel_rfl) (by simp) ?_
      refine AllReadyH.cons rfl (fun K hK => ?_) (AllReadyH.cons rfl (fun K hK => ?_) AllReadyH.nil)
      · skip
        go_simp
        go_at_call 14
        refine (HU.out _).mono ?_
        rintro e w4 ⟨rfl, hb3⟩
        have tF3 := tF2.below hb3
        have hB3 := hB2.trans (hb3.mono hB2.size)
        have tT3 := tT2.below hb3
        refine hK.out _ _ ?_ (fun hHeld => ?_)
        · exact ⟨tF3.1, tF3.2.1⟩
        clear hK K
        try simp only [Act.put, List.setIfInBounds_toArray, List.set_cons_zero, List.set_cons_succ, List.getElem_toArray, List.getElem_cons_succ, List.getElem_cons_zero]
        refine wpAnyH_ready (rs := [9]) (by kernel_rfl) (by simp) ?_
        refine AllReadyH.cons rfl (fun K hK => ?_) AllReadyH.nil
        go_simp
        have tF4 := tF3.alloc (.cells #[.int .i64 0, .int .i64 0] 31)
        have hB4 := hB3.alloc hB3.size (.cells #[.int .i64 0, .int .i64 0] 31)
        have tT4 := tT3.alloc (.cells #[.int .i64 0, .int .i64 0] 31)
        have tU4 := Two.new w4 (.int .i64 0) (.int .i64 0) 31
        have gU : W.heap.size ≤ w4.heap.size := (by have := hB3.size; (try simp at this); omega)
        have nTU : w3.heap.size ≠ w4.heap.size := (by have := tT3.lt; (try simp at this); omega)
        refine hK.out _ _ ?_ (fun hHeld => ?_)
        · exact ⟨tF4.1, tF4.2.1⟩
        clear hK K
        try simp only [Act.put, List.setIfInBounds_toArray, List.set_cons_zero, List.set_cons_succ, List.getElem_toArray, List.getElem_cons_succ, List.getElem_cons_zero]
        refine wpAnyH_ready (rs := [10]) (by kernel_rfl) (by simp) ?_
        refine AllReadyH.cons rfl (fun K hK => ?_) AllReadyH.nil
        generalize (w4.alloc (.cells #[.int .i64 0, .int .i64 0] 31)) = V at tF4 hB4 tT4 tU4 ⊢
        obtain ⟨a0, a1, a2, a3⟩ := tT4
        go_simp
        have tF10 := tF4.other (b' := w3.heap.size) (by omega) (.int .i64 x) (.int .i64 yt)
        have tU10 := tU4.other (b' := w3.heap.size) (Ne.symm nTU) (.int .i64 x) (.int .i64 yt)
        have tT10 := (show Two V w3.heap.size (.int .i64 0) (.int .i64 0) from ⟨a0, a1, a2, a3⟩).set (.int .i64 x) (.int .i64 yt)
        have hB10 := (hB4.setCell (p := ⟨w3.heap.size, 0, none⟩) gT (.int .i64 x)).setCell (p := ⟨w3.heap.size, 1, none⟩) gT (.int .i64 yt)
        refine hK.out _ _ ?_ (fun hHeld => ?_)
        · exact ⟨tF10.1, tF10.2.1⟩
        clear hK K
        try simp only [Act.put, List.setIfInBounds_toArray, List.set_cons_zero, List.set_cons_succ, List.getElem_toArray, List.getElem_cons_succ, List.getElem_cons_zero]
        refine wpAnyH_ready (rs := [11]) (by kernel_rfl) (by simp) ?_
        refine AllReadyH.cons rfl (fun K hK => ?_) AllReadyH.nil
        clear a0 a1 a2 a3
        generalize ((V.setCell ⟨w3.heap.size, 0, none⟩ (.int .i64 x)).setCell ⟨w3.heap.size, 1, none⟩ (.int .i64 yt)) = V2 at tF10 tU10 tT10 hB10 ⊢
        obtain ⟨a0, a1, a2, a3⟩ := tU10
        go_simp
        have tF11 := tF10.other (b' := w4.heap.size) (by omega) (.int .i64 x) (.int .i64 yt)
        have tT11 := tT10.other (b' := w4.heap.size) nTU (.int .i64 x) (.int .i64 yt)
        have tU11 := (show Two V2 w4.heap.size (.int .i64 0) (.int .i64 0) from ⟨a0, a1, a2, a3⟩).set (.int .i64 x) (.int .i64 yt)
        have hB11 := (hB10.setCell (p := ⟨w4.heap.size, 0, none⟩) gU (.int .i64 x)).setCell (p := ⟨w4.heap.size, 1, none⟩) gU (.int .i64 yt)
        refine hK.out _ _ ?_ (fun hHeld => ?_)
        · exact ⟨tF11.1, tF11.2.1⟩
        clear hK K
        try simp only [Act.put, List.setIfInBounds_toArray, List.set_cons_zero, List.set_cons_succ, List.getElem_toArray, List.getElem_cons_succ, List.getElem_cons_zero]
        refine wpAnyH_done (by kernel_rfl) ?_ _
        clear a0 a1 a2 a3
        generalize ((V2.setCell ⟨w4.heap.size, 0, none⟩ (.int .i64 x)).setCell ⟨w4.heap.size, 1, none⟩ (.int .i64 yt)) = V3 at tT11 tU11 hB11 ⊢
        generalize w4.heap.size = bU at tU11 ⊢
        generalize w3.heap.size = bT at tT11 ⊢
        have HTT := veil tT11
        have HTU := veil tU11
        have HB5 := veil hB11
        clear tF11 tT11 tU11 hB11
        go_wp2_with (first | (go_at_call 15; refine (HL.out _).mono ?_; rintro e w5 ⟨rfl, hb⟩; have hb5 := HB5.out.trans (hb.mono HB5.out.size); have tI := HTI.out.below hb5; have tG := HTG.out.below hb5; have tJ := HTJ.out.below hb5; have tH := HTH.out.below hb5; have tT := HTT.out.below hb; have tU := HTU.out.below hb; have HB6 := veil (HBW.out.trans (hb5.mono HBW.out.size)); obtain ⟨i0, i1, _, _⟩ := tI; obtain ⟨g0, g1, _, _⟩ := tG; obtain ⟨j0, j1, _, _⟩ := tJ; obtain ⟨h0, h1, _, _⟩ := tH; obtain ⟨t0, t1, _, _⟩ := tT; obtain ⟨u0, u1, _, _⟩ := tU; clear hb hb5))
        go_ret
        exact ⟨rfl, HB6.out⟩
      · skip
        go_simp
        have tF3 := tF2.alloc (.cells #[.int .i64 0, .int .i64 0] 31)
        have hB3 := hB2.alloc hB2.size (.cells #[.int .i64 0, .int .i64 0] 31)
        have tT3 := tT2.alloc (.cells #[.int .i64 0, .int .i64 0] 31)
        have tU3 := Two.new1 w3 (.cells #[.int .i64 0, .int .i64 0] 24) (.int .i64 0) (.int .i64 0) 31
        have gU : W.heap.size ≤ (w3.heap.size + 1) := (by have := hB2.size; (try simp at this); omega)
        have nTU : w3.heap.size ≠ (w3.heap.size + 1) := (by have := tT2.lt; (try simp at this); omega)
        refine hK.out _ _ ?_ (fun hHeld => ?_)
        · exact ⟨tF3.1, tF3.2.1⟩
        clear hK K
        try simp only [Act.put, List.setIfInBounds_toArray, List.set_cons_zero, List.set_cons_succ, List.getElem_toArray, List.getElem_cons_succ, List.getElem_cons_zero]
        refine wpAnyH_ready (rs := [7]) (by kernel_rfl) (by simp) ?_
        refine AllReadyH.cons rfl (fun K hK => ?_) AllReadyH.nil
        go_simp
        go_at_call 14
        refine (HU.out _).mono ?_
        rintro e w4 ⟨rfl, hb4⟩
        have tF4 := tF3.below hb4
        have hB4 := hB3.trans (hb4.mono hB3.size)
        have tT4 := tT3.below hb4
        have tU4 := tU3.below hb4
        refine hK.out _ _ ?_ (fun hHeld => ?_)
        · exact ⟨tF4.1, tF4.2.1⟩
        clear hK K
        try simp only [Act.put, List.setIfInBounds_toArray, List.set_cons_zero, List.set_cons_succ, List.getElem_toArray, List.getElem_cons_succ, List.getElem_cons_zero]
        refine wpAnyH_ready (rs := [10]) (by kernel_rfl) (by simp) ?_
        refine AllReadyH.cons rfl (fun K hK => ?_) AllReadyH.nil
        obtain ⟨a0, a1, a2, a3⟩ := tT4
        go_simp
        have tF10 := tF4.other (b' := w3.heap.size) (by omega) (.int .i64 x) (.int .i64 yt)
        have tU10 := tU4.other (b' := w3.heap.size) (Ne.symm nTU) (.int .i64 x) (.int .i64 yt)
        have tT10 := (show Two w4 w3.heap.size (.int .i64 0) (.int .i64 0) from ⟨a0, a1, a2, a3⟩).set (.int .i64 x) (.int .i64 yt)
        have hB10 := (hB4.setCell (p := ⟨w3.heap.size, 0, none⟩) gT (.int .i64 x)).setCell (p := ⟨w3.heap.size, 1, none⟩) gT (.int .i64 yt)
        refine hK.out _ _ ?_ (fun hHeld => ?_)
        · exact ⟨tF10.1, tF10.2.1⟩
        clear hK K
        try simp only [Act.put, List.setIfInBounds_toArray, List.set_cons_zero, List.set_cons_succ, List.getElem_toArray, List.getElem_cons_succ, List.getElem_cons_zero]
        refine wpAnyH_ready (rs := [11]) (by kernel_rfl) (by simp) ?_
        refine AllReadyH.cons rfl (fun K hK => ?_) AllReadyH.nil
        clear a0 a1 a2 a3
        generalize ((w4.setCell ⟨w3.heap.size, 0, none⟩ (.int .i64 x)).setCell ⟨w3.heap.size, 1, none⟩ (.int .i64 yt)) = V2 at tF10 tU10 tT10 hB10 ⊢
        obtain ⟨a0, a1, a2, a3⟩ := tU10
        go_simp
        have tF11 := tF10.other (b' := (w3.heap.size + 1)) (by omega) (.int .i64 x) (.int .i64 yt)
        have tT11 := tT10.other (b' := (w3.heap.size + 1)) nTU (.int .i64 x) (.int .i64 yt)
        have tU11 := (show Two V2 (w3.heap.size + 1) (.int .i64 0) (.int .i64 0) from ⟨a0, a1, a2, a3⟩).set (.int .i64 x) (.int .i64 yt)
        have hB11 := (hB10.setCell (p := ⟨(w3.heap.size + 1), 0, none⟩) gU (.int .i64 x)).setCell (p := ⟨(w3.heap.size + 1), 1, none⟩) gU (.int .i64 yt)
        refine hK.out _ _ ?_ (fun hHeld => ?_)
        · exact ⟨tF11.1, tF11.2.1⟩
        clear hK K
        try simp only [Act.put, List.setIfInBounds_toArray, List.set_cons_zero, List.set_cons_succ, List.getElem_toArray, List.getElem_cons_succ, List.getElem_cons_zero]
        refine wpAnyH_done (by kernel_rfl) ?_ _
        clear a0 a1 a2 a3
        generalize ((V2.setCell ⟨(w3.heap.size + 1), 0, none⟩ (.int .i64 x)).setCell ⟨(w3.heap.size + 1), 1, none⟩ (.int .i64 yt)) = V3 at tT11 tU11 hB11 ⊢
        generalize (w3.heap.size + 1) = bU at tU11 ⊢
        generalize w3.heap.size = bT at tT11 ⊢
        have HTT := veil tT11
        have HTU := veil tU11
        have HB5 := veil hB11
        clear tF11 tT11 tU11 hB11
        go_wp2_with (first | (go_at_call 15; refine (HL.out _).mono ?_; rintro e w5 ⟨rfl, hb⟩; have hb5 := HB5.out.trans (hb.mono HB5.out.size); have tI := HTI.out.below hb5; have tG := HTG.out.below hb5; have tJ := HTJ.out.below hb5; have tH := HTH.out.below hb5; have tT := HTT.out.below hb; have tU := HTU.out.below hb; have HB6 := veil (HBW.out.trans (hb5.mono HBW.out.size)); obtain ⟨i0, i1, _, _⟩ := tI; obtain ⟨g0, g1, _, _⟩ := tG; obtain ⟨j0, j1, _, _⟩ := tJ; obtain ⟨h0, h1, _, _⟩ := tH; obtain ⟨t0, t1, _, _⟩ := tT; obtain ⟨u0, u1, _, _⟩ := tU; clear hb hb5))
        go_ret
        exact ⟨rfl, HB6.out⟩
    · skip
      go_simp
      have tF2 := tF1.alloc (.cells #[.int .i64 0, .int .i64 0] 31)
      have hB2 := hB1.alloc hB1.size (.cells #[.int .i64 0, .int .i64 0] 31)
      have tU2 := Two.new w3 (.int .i64 0) (.int .i64 0) 31
      have gU : W.heap.size ≤ w3.heap.size := (by have := hB1.size; (try simp at this); omega)
      refine hK.out _ _ ?_ (fun hHeld => ?_)
      · exact ⟨tF2.1, tF2.2.1⟩
      clear hK K
      try simp only [Act.put, List.setIfInBounds_toArray, List.set_cons_zero, List.set_cons_succ, List.getElem_toArray, List.getElem_cons_succ, List.getElem_cons_zero]
      refine wpAnyH_ready (rs := [7, 8]) (by kernel_rfl) (by simp) ?_
      refine AllReadyH.cons rfl (fun K hK => ?_) (AllReadyH.cons rfl (fun K hK => ?_) AllReadyH.nil)
      · skip
        go_simp
        go_at_call 14
        refine (HU.out _).mono ?_
        rintro e w4 ⟨rfl, hb3⟩
        have tF3 := tF2.below hb3
        have hB3 := hB2.trans (hb3.mono hB2.size)
        have tU3 := tU2.below hb3
        refine hK.out _ _ ?_ (fun hHeld => ?_)
        · exact ⟨tF3.1, tF3.2.1⟩
        clear hK K
        try simp only [Act.put, List.setIfInBounds_toArray, List.set_cons_zero, List.set_cons_succ, List.getElem_toArray, List.getElem_cons_succ, List.getElem_cons_zero]
        refine wpAnyH_ready (rs := [8]) (by kernel_rfl) (by simp) ?_
        refine AllReadyH.cons rfl (fun K hK => ?_) AllReadyH.nil
        go_simp
        have tF4 := tF3.alloc (.cells #[.int .i64 0, .int .i64 0] 24)
        have hB4 := hB3.alloc hB3.size (.cells #[.int .i64 0, .int .i64 0] 24)
        have tU4 := tU3.alloc (.cells #[.int .i64 0, .int .i64 0] 24)
        have tT4 := Two.new w4 (.int .i64 0) (.int .i64 0) 24
        have gT : W.heap.size ≤ w4.heap.size := (by have := hB3.size; (try simp at this); omega)
        have nTU : w4.heap.size ≠ w3.heap.size := (by have := tU3.lt; (try simp at this); omega)
        refine hK.out _ _ ?_ (fun hHeld => ?_)
        · exact ⟨tF4.1, tF4.2.1⟩
        clear hK K
        try simp only [Act.put, List.setIfInBounds_toArray, List.set_cons_zero, List.set_cons_succ, List.getElem_toArray, List.getElem_cons_succ, List.getElem_cons_zero]
        refine wpAnyH_ready (rs := [10]) (by kernel_rfl) (by simp) ?_
        refine AllReadyH.cons rfl (fun K hK => ?_) AllReadyH.nil
        generalize (w4.alloc (.cells #[.int .i64 0, .int .i64 0] 24)) = V at tF4 hB4 tT4 tU4 ⊢
        obtain ⟨a0, a1, a2, a3⟩ := tT4
        go_simp
        have tF10 := tF4.other (b' := w4.heap.size) (by omega) (.int .i64 x) (.int .i64 yt)
        have tU10 := tU4.other (b' := w4.heap.size) (Ne.symm nTU) (.int .i64 x) (.int .i64 yt)
        have tT10 := (show Two V w4.heap.size (.int .i64 0) (.int .i64 0) from ⟨a0, a1, a2, a3⟩).set (.int .i64 x) (.int .i64 yt)
        have hB10 := (hB4.setCell (p := ⟨w4.heap.size, 0, none⟩) gT (.int .i64 x)).setCell (p := ⟨w4.heap.size, 1, none⟩) gT (.int .i64 yt)
        refine hK.out _ _ ?_ (fun hHeld => ?_)
        · exact ⟨tF10.1, tF10.2.1⟩
        clear hK K
        try simp only [Act.put, List.setIfInBounds_toArray, List.set_cons_zero, List.set_cons_succ, List.getElem_toArray, List.getElem_cons_succ, List.getElem_cons_zero]
        refine wpAnyH_ready (rs := [11]) (by kernel_rfl) (by simp) ?_
        refine AllReadyH.cons rfl (fun K hK => ?_) AllReadyH.nil
        clear a0 a1 a2 a3
        generalize ((V.setCell ⟨w4.heap.size, 0, none⟩ (.int .i64 x)).setCell ⟨w4.heap.size, 1, none⟩ (.int .i64 yt)) = V2 at tF10 tU10 tT10 hB10 ⊢
        obtain ⟨a0, a1, a2, a3⟩ := tU10
        go_simp
        have tF11 := tF10.other (b' := w3.heap.size) (by omega) (.int .i64 x) (.int .i64 yt)
        have tT11 := tT10.other (b' := w3.heap.size) nTU (.int .i64 x) (.int .i64 yt)
        have tU11 := (show Two V2 w3.heap.size (.int .i64 0) (.int .i64 0) from ⟨a0, a1, a2, a3⟩).set (.int .i64 x) (.int .i64 yt)
        have hB11 := (hB10.setCell (p := ⟨w3.heap.size, 0, none⟩) gU (.int .i64 x)).setCell (p := ⟨w3.heap.size, 1, none⟩) gU (.int .i64 yt)
        refine hK.out _ _ ?_ (fun hHeld => ?_)
        · exact ⟨tF11.1, tF11.2.1⟩
        clear hK K
        try simp only [Act.put, List.setIfInBounds_toArray, List.set_cons_zero, List.set_cons_succ, List.getElem_toArray, List.getElem_cons_succ, List.getElem_cons_zero]
        refine wpAnyH_done (by kernel_rfl) ?_ _
        clear a0 a1 a2 a3
        generalize ((V2.setCell ⟨w3.heap.size, 0, none⟩ (.int .i64 x)).setCell ⟨w3.heap.size, 1, none⟩ (.int .i64 yt)) = V3 at tT11 tU11 hB11 ⊢
        generalize w3.heap.size = bU at tU11 ⊢
        generalize w4.heap.size = bT at tT11 ⊢
        have HTT := veil tT11
        have HTU := veil tU11
        have HB5 := veil hB11
        clear tF11 tT11 tU11 hB11
        go_wp2_with (first | (go_at_call 15; refine (HL.out _).mono ?_; rintro e w5 ⟨rfl, hb⟩; have hb5 := HB5.out.trans (hb.mono HB5.out.size); have tI := HTI.out.below hb5; have tG := HTG.out.below hb5; have tJ := HTJ.out.below hb5; have tH := HTH.out.below hb5; have tT := HTT.out.below hb; have tU := HTU.out.below hb; have HB6 := veil (HBW.out.trans (hb5.mono HBW.out.size)); obtain ⟨i0, i1, _, _⟩ := tI; obtain ⟨g0, g1, _, _⟩ := tG; obtain ⟨j0, j1, _, _⟩ := tJ; obtain ⟨h0, h1, _, _⟩ := tH; obtain ⟨t0, t1, _, _⟩ := tT; obtain ⟨u0, u1, _, _⟩ := tU; clear hb hb5))
        go_ret
        exact ⟨rfl, HB6.out⟩
      · skip
        go_simp
        have tF3 := tF2.alloc (.cells #[.int .i64 0, .int .i64 0] 24)
        have hB3 := hB2.alloc hB2.size (.cells #[.int .i64 0, .int .i64 0] 24)
        have tU3 := tU2.alloc (.cells #[.int .i64 0, .int .i64 0] 24)
        have tT3 := Two.new1 w3 (.cells #[.int .i64 0, .int .i64 0] 31) (.int .i64 0) (.int .i64 0) 24
        have gT : W.heap.size ≤ (w3.heap.size + 1) := (by have := hB2.size; (try simp at this); omega)
        have nTU : (w3.heap.size + 1) ≠ w3.heap.size := (by have := tU2.lt; (try simp at this); omega)
        refine hK.out _ _ ?_ (fun hHeld => ?_)
        · exact ⟨tF3.1, tF3.2.1⟩
        clear hK K
        try simp only [Act.put, List.setIfInBounds_toArray, List.set_cons_zero, List.set_cons_succ, List.getElem_toArray, List.getElem_cons_succ, List.getElem_cons_zero]
        refine wpAnyH_ready (rs := [7]) (by kernel_rfl) (by simp) ?_
        refine AllReadyH.cons rfl (fun K hK => ?_) AllReadyH.nil
        go_simp
        go_at_call 14
        refine (HU.out _).mono ?_
        rintro e w4 ⟨rfl, hb4⟩
        have tF4 := tF3.below hb4
        have hB4 := hB3.trans (hb4.mono hB3.size)
        have tT4 := tT3.below hb4
        have tU4 := tU3.below hb4
        refine hK.out _ _ ?_ (fun hHeld => ?_)
        · exact ⟨tF4.1, tF4.2.1⟩
        clear hK K
        try simp only [Act.put, List.setIfInBounds_toArray, List.set_cons_zero, List.set_cons_succ, List.getElem_toArray, List.getElem_cons_succ, List.getElem_cons_zero]
        refine wpAnyH_ready (rs := [10]) (by kernel_rfl) (by simp) ?_
        refine AllReadyH.cons rfl (fun K hK => ?_) AllReadyH.nil
        obtain ⟨a0, a1, a2, a3⟩ := tT4
        go_simp
        have tF10 := tF4.other (b' := (w3.heap.size + 1)) (by omega) (.int .i64 x) (.int .i64 yt)
        have tU10 := tU4.other (b' := (w3.heap.size + 1)) (Ne.symm nTU) (.int .i64 x) (.int .i64 yt)
        have tT10 := (show Two w4 (w3.heap.size + 1) (.int .i64 0) (.int .i64 0) from ⟨a0, a1, a2, a3⟩).set (.int .i64 x) (.int .i64 yt)
        have hB10 := (hB4.setCell (p := ⟨(w3.heap.size + 1), 0, none⟩) gT (.int .i64 x)).setCell (p := ⟨(w3.heap.size + 1), 1, none⟩) gT (.int .i64 yt)
        refine hK.out _ _ ?_ (fun hHeld => ?_)
        · exact ⟨tF10.1, tF10.2.1⟩
        clear hK K
        try simp only [Act.put, List.setIfInBounds_toArray, List.set_cons_zero, List.set_cons_succ, List.getElem_toArray, List.getElem_cons_succ, List.getElem_cons_zero]
        refine wpAnyH_ready (rs := [11]) (by kernel_rfl) (by simp) ?_
        refine AllReadyH.cons rfl (fun K hK => ?_) AllReadyH.nil
        clear a0 a1 a2 a3
        generalize ((w4.setCell ⟨(w3.heap.size + 1), 0, none⟩ (.int .i64 x)).setCell ⟨(w3.heap.size + 1), 1, none⟩ (.int .i64 yt)) = V2 at tF10 tU10 tT10 hB10 ⊢
        obtain ⟨a0, a1, a2, a3⟩ := tU10
        go_simp
        have tF11 := tF10.other (b' := w3.heap.size) (by omega) (.int .i64 x) (.int .i64 yt)
        have tT11 := tT10.other (b' := w3.heap.size) nTU (.int .i64 x) (.int .i64 yt)
        have tU11 := (show Two V2 w3.heap.size (.int .i64 0) (.int .i64 0) from ⟨a0, a1, a2, a3⟩).set (.int .i64 x) (.int .i64 yt)
        have hB11 := (hB10.setCell (p := ⟨w3.heap.size, 0, none⟩) gU (.int .i64 x)).setCell (p := ⟨w3.heap.size, 1, none⟩) gU (.int .i64 yt)
        refine hK.out _ _ ?_ (fun hHeld => ?_)
        · exact ⟨tF11.1, tF11.2.1⟩
        clear hK K
        try simp only [Act.put, List.setIfInBounds_toArray, List.set_cons_zero, List.set_cons_succ, List.getElem_toArray, List.getElem_cons_succ, List.getElem_cons_zero]
        refine wpAnyH_done (by kernel_rfl) ?_ _
        clear a0 a1 a2 a3
        generalize ((V2.setCell ⟨w3.heap.size, 0, none⟩ (.int .i64 x)).setCell ⟨w3.heap.size, 1, none⟩ (.int .i64 yt)) = V3 at tT11 tU11 hB11 ⊢
        generalize (w3.heap.size + 1) = bT at tT11 ⊢
        generalize w3.heap.size = bU at tU11 ⊢
        have HTT := veil tT11
        have HTU := veil tU11
        have HB5 := veil hB11
        clear tF11 tT11 tU11 hB11
        go_wp2_with (first | (go_at_call 15; refine (HL.out _).mono ?_; rintro e w5 ⟨rfl, hb⟩; have hb5 := HB5.out.trans (hb.mono HB5.out.size); have tI := HTI.out.below hb5; have tG := HTG.out.below hb5; have tJ := HTJ.out.below hb5; have tH := HTH.out.below hb5; have tT := HTT.out.below hb; have tU := HTU.out.below hb; have HB6 := veil (HBW.out.trans (hb5.mono HBW.out.size)); obtain ⟨i0, i1, _, _⟩ := tI; obtain ⟨g0, g1, _, _⟩ := tG; obtain ⟨j0, j1, _, _⟩ := tJ; obtain ⟨h0, h1, _, _⟩ := tH; obtain ⟨t0, t1, _, _⟩ := tT; obtain ⟨u0, u1, _, _⟩ := tU; clear hb hb5))
        go_ret
        exact ⟨rfl, HB6.out⟩
  · skip
    go_simp
    have tF1 := tF0.alloc (.cells #[.int .i64 0, .int .i64 0] 24)
    have hB1 := hB0.alloc hB0.size (.cells #[.int .i64 0, .int .i64 0] 24)
    have tT1 := Two.new W0 (.int .i64 0) (.int .i64 0) 24
    have gT : W.heap.size ≤ W0.heap.size := (by have := hB0.size; (try simp at this); omega)
    refine hK.out _ _ ?_ (fun hHeld => ?_)
    · exact ⟨tF1.1, tF1.2.1⟩
    clear hK K
    try simp only [Act.put, List.setIfInBounds_toArray, List.set_cons_zero, List.set_cons_succ, List.getElem_toArray, List.getElem_cons_succ, List.getElem_cons_zero]
    refine wpAnyH_ready (rs := [1, 9]) (by kernel_rfl) (by simp) ?_
    refine AllReadyH.cons rfl (fun K hK => ?_) (AllReadyH.cons rfl (fun K hK => ?_) AllReadyH.nil)
    · skip
      go_simp
      go_at_call 13
      refine (HT.out _).mono ?_
      rintro e w3 ⟨rfl, hb2⟩
      have tF2 := tF1.below hb2
      have hB2 := hB1.trans (hb2.mono hB1.size)
      have tT2 := tT1.below hb2
      refine hK.out _ _ ?_ (fun hHeld => ?_)
      · exact ⟨tF2.1, tF2.2.1⟩
      clear hK K
      try simp only [Act.put, List.setIfInBounds_toArray, List.set_cons_zero, List.set_cons_succ, List.getElem_toArray, List.getElem_cons_succ, List.getElem_cons_zero]
      refine wpAnyH_ready (rs := [7, 9]) (by kernel_rfl) (by simp) ?_
      refine AllReadyH.cons rfl (fun K hK => ?_) (AllReadyH.cons rfl (fun K hK => ?_) AllReadyH.nil)
      · skip
        go_simp
        go_at_call 14
        refine (HU.out _).mono ?_
        rintro e w4 ⟨rfl, hb3⟩
        have tF3 := tF2.below hb3
        have hB3 := hB2.trans (hb3.mono hB2.size)
        have tT3 := tT2.below hb3
        refine hK.out _ _ ?_ (fun hHeld => ?_)
        · exact ⟨tF3.1, tF3.2.1⟩
        clear hK K
        try simp only [Act.put, List.setIfInBounds_toArray, List.set_cons_zero, List.set_cons_succ, List.getElem_toArray, List.getElem_cons_succ, List.getElem_cons_zero]
        refine wpAnyH_ready (rs := [9]) (by kernel_rfl) (by simp) ?_
        refine AllReadyH.cons rfl (fun K hK => ?_) AllReadyH.nil
        go_simp
        have tF4 := tF3.alloc (.cells #[.int .i64 0, .int .i64 0] 31)
        have hB4 := hB3.alloc hB3.size (.cells #[.int .i64 0, .int .i64 0] 31)
        have tT4 := tT3.alloc (.cells #[.int .i64 0, .int .i64 0] 31)
        have tU4 := Two.new w4 (.int .i64 0) (.int .i64 0) 31
        have gU : W.heap.size ≤ w4.heap.size := (by have := hB3.size; (try simp at this); omega)
        have nTU : W0.heap.size ≠ w4.heap.size := (by have := tT3.lt; (try simp at this); omega)
        refine hK.out _ _ ?_ (fun hHeld => ?_)
        · exact ⟨tF4.1, tF4.2.1⟩
        clear hK K
        try simp only [Act.put, List.setIfInBounds_toArray, List.set_cons_zero, List.set_cons_succ, List.getElem_toArray, List.getElem_cons_succ, List.getElem_cons_zero]
        refine wpAnyH_ready (rs := [10]) (by kernel_rfl) (by simp) ?_
        refine AllReadyH.cons rfl (fun K hK => ?_) AllReadyH.nil
        generalize (w4.alloc (.cells #[.int .i64 0, .int .i64 0] 31)) = V at tF4 hB4 tT4 tU4 ⊢
        obtain ⟨a0, a1, a2, a3⟩ := tT4
        go_simp
        have tF10 := tF4.other (b' := W0.heap.size) (by omega) (.int .i64 x) (.int .i64 yt)
        have tU10 := tU4.other (b' := W0.heap.size) (Ne.symm nTU) (.int .i64 x) (.int .i64 yt)
        have tT10 := (show Two V W0.heap.size (.int .i64 0) (.int .i64 0) from ⟨a0, a1, a2, a3⟩).set (.int .i64 x) (.int .i64 yt)
        have hB10 := (hB4.setCell (p := ⟨W0.heap.size, 0, none⟩) gT (.int .i64 x)).setCell (p := ⟨W0.heap.size, 1, none⟩) gT (.int .i64 yt)
        refine hK.out _ _ ?_ (fun hHeld => ?_)
        · exact ⟨tF10.1, tF10.2.1⟩
        clear hK K
        try simp only [Act.put, List.setIfInBounds_toArray, List.set_cons_zero, List.set_cons_succ, List.getElem_toArray, List.getElem_cons_succ, List.getElem_cons_zero]
        refine wpAnyH_ready (rs := [11]) (by kernel_rfl) (by simp) ?_
        refine AllReadyH.cons rfl (fun K hK => ?_) AllReadyH.nil
        clear a0 a1 a2 a3
        generalize ((V.setCell ⟨W0.heap.size, 0, none⟩ (.int .i64 x)).setCell ⟨W0.heap.size, 1, none⟩ (.int .i64 yt)) = V2 at tF10 tU10 tT10 hB10 ⊢
        obtain ⟨a0, a1, a2, a3⟩ := tU10
        go_simp
        have tF11 := tF10.other (b' := w4.heap.size) (by omega) (.int .i64 x) (.int .i64 yt)
        have tT11 := tT10.other (b' := w4.heap.size) nTU (.int .i64 x) (.int .i64 yt)
        have tU11 := (show Two V2 w4.heap.size (.int .i64 0) (.int .i64 0) from ⟨a0, a1, a2, a3⟩).set (.int .i64 x) (.int .i64 yt)
        have hB11 := (hB10.setCell (p := ⟨w4.heap.size, 0, none⟩) gU (.int .i64 x)).setCell (p := ⟨w4.heap.size, 1, none⟩) gU (.int .i64 yt)
        refine hK.out _ _ ?_ (fun hHeld => ?_)
        · exact ⟨tF11.1, tF11.2.1⟩
        clear hK K
        try simp only [Act.put, List.setIfInBounds_toArray, List.set_cons_zero, List.set_cons_succ, List.getElem_toArray, List.getElem_cons_succ, List.getElem_cons_zero]
        refine wpAnyH_done (by kernel_rfl) ?_ _
        clear a0 a1 a2 a3
        generalize ((V2.setCell ⟨w4.heap.size, 0, none⟩ (.int .i64 x)).setCell ⟨w4.heap.size, 1, none⟩ (.int .i64 yt)) = V3 at tT11 tU11 hB11 ⊢
        generalize w4.heap.size = bU at tU11 ⊢
        generalize W0.heap.size = bT at tT11 ⊢
        have HTT := veil tT11
        have HTU := veil tU11
        have HB5 := veil hB11
        clear tF11 tT11 tU11 hB11
        go_wp2_with (first | (go_at_call 15; refine (HL.out _).mono ?_; rintro e w5 ⟨rfl, hb⟩; have hb5 := HB5.out.trans (hb.mono HB5.out.size); have tI := HTI.out.below hb5; have tG := HTG.out.below hb5; have tJ := HTJ.out.below hb5; have tH := HTH.out.below hb5; have tT := HTT.out.below hb; have tU := HTU.out.below hb; have HB6 := veil (HBW.out.trans (hb5.mono HBW.out.size)); obtain ⟨i0, i1, _, _⟩ := tI; obtain ⟨g0, g1, _, _⟩ := tG; obtain ⟨j0, j1, _, _⟩ := tJ; obtain ⟨h0, h1, _, _⟩ := tH; obtain ⟨t0, t1, _, _⟩ := tT; obtain ⟨u0, u1, _, _⟩ := tU; clear hb hb5))
        go_ret
        exact ⟨rfl, HB6.out⟩
      · skip
        go_simp
        have tF3 := tF2.alloc (.cells #[.int .i64 0, .int .i64 0] 31)
        have hB3 := hB2.alloc hB2.size (.cells #[.int .i64 0, .int .i64 0] 31)
        have tT3 := tT2.alloc (.cells #[.int .i64 0, .int .i64 0] 31)
        have tU3 := Two.new w3 (.int .i64 0) (.int .i64 0) 31
        have gU : W.heap.size ≤ w3.heap.size := (by have := hB2.size; (try simp at this); omega)
        have nTU : W0.heap.size ≠ w3.heap.size := (by have := tT2.lt; (try simp at this); omega)
        refine hK.out _ _ ?_ (fun hHeld => ?_)
        · exact ⟨tF3.1, tF3.2.1⟩
        clear hK K
        try simp only [Act.put, List.setIfInBounds_toArray, List.set_cons_zero, List.set_cons_succ, List.getElem_toArray, List.getElem_cons_succ, List.getElem_cons_zero]
        refine wpAnyH_ready (rs := [7]) (by kernel_rfl) (by simp) ?_
        refine AllReadyH.cons rfl (fun K hK => ?_) AllReadyH.nil
        go_simp
        go_at_call 14
        refine (HU.out _).mono ?_
        rintro e w4 ⟨rfl, hb4⟩
        have tF4 := tF3.below hb4
        have hB4 := hB3.trans (hb4.mono hB3.size)
        have tT4 := tT3.below hb4
        have tU4 := tU3.below hb4
        refine hK.out _ _ ?_ (fun hHeld => ?_)
        · exact ⟨tF4.1, tF4.2.1⟩
        clear hK K
        try simp only [Act.put, List.setIfInBounds_toArray, List.set_cons_zero, List.set_cons_succ, List.getElem_toArray, List.getElem_cons_succ, List.getElem_cons_zero]
        refine wpAnyH_ready (rs := [10]) (by kernel_rfl) (by simp) ?_
        refine AllReadyH.cons rfl (fun K hK => ?_) AllReadyH.nil
        obtain ⟨a0, a1, a2, a3⟩ := tT4
        go_simp
        have tF10 := tF4.other (b' := W0.heap.size) (by omega) (.int .i64 x) (.int .i64 yt)
        have tU10 := tU4.other (b' := W0.heap.size) (Ne.symm nTU) (.int .i64 x) (.int .i64 yt)
        have tT10 := (show Two w4 W0.heap.size (.int .i64 0) (.int .i64 0) from ⟨a0, a1, a2, a3⟩).set (.int .i64 x) (.int .i64 yt)
        have hB10 := (hB4.setCell (p := ⟨W0.heap.size, 0, none⟩) gT (.int .i64 x)).setCell (p := ⟨W0.heap.size, 1, none⟩) gT (.int .i64 yt)
        refine hK.out _ _ ?_ (fun hHeld => ?_)
        · exact ⟨tF10.1, tF10.2.1⟩
        clear hK K
        try simp only [Act.put, List.setIfInBounds_toArray, List.set_cons_zero, List.set_cons_succ, List.getElem_toArray, List.getElem_cons_succ, List.getElem_cons_zero]
        refine wpAnyH_ready (rs := [11]) (by kernel_rfl) (by simp) ?_
        refine AllReadyH.cons rfl (fun K hK => ?_) AllReadyH.nil
        clear a0 a1 a2 a3
        generalize ((w4.setCell ⟨W0.heap.size, 0, none⟩ (.int .i64 x)).setCell ⟨W0.heap.size, 1, none⟩ (.int .i64 yt)) = V2 at tF10 tU10 tT10 hB10 ⊢
        obtain ⟨a0, a1, a2, a3⟩ := tU10
        go_simp
        have tF11 := tF10.other (b' := w3.heap.size) (by omega) (.int .i64 x) (.int .i64 yt)
        have tT11 := tT10.other (b' := w3.heap.size) nTU (.int .i64 x) (.int .i64 yt)
        have tU11 := (show Two V2 w3.heap.size (.int .i64 0) (.int .i64 0) from ⟨a0, a1, a2, a3⟩).set (.int .i64 x) (.int .i64 yt)
        have hB11 := (hB10.setCell (p := ⟨w3.heap.size, 0, none⟩) gU (.int .i64 x)).setCell (p := ⟨w3.heap.size, 1, none⟩) gU (.int .i64 yt)
        refine hK.out _ _ ?_ (fun hHeld => ?_)
        · exact ⟨tF11.1, tF11.2.1⟩
        clear hK K
        try simp only [Act.put, List.setIfInBounds_toArray, List.set_cons_zero, List.set_cons_succ, List.getElem_toArray, List.getElem_cons_succ, List.getElem_cons_zero]
        refine wpAnyH_done (by kernel_rfl) ?_ _
        clear a0 a1 a2 a3
        generalize ((V2.setCell ⟨w3.heap.size, 0, none⟩ (.int .i64 x)).setCell ⟨w3.heap.size, 1, none⟩ (.int .i64 yt)) = V3 at tT11 tU11 hB11 ⊢
        generalize w3.heap.size = bU at tU11 ⊢
        generalize W0.heap.size = bT at tT11 ⊢
        have HTT := veil tT11
        have HTU := veil tU11
        have HB5 := veil hB11
        clear tF11 tT11 tU11 hB11
        go_wp2_with (first | (go_at_call 15; refine (HL.out _).mono ?_; rintro e w5 ⟨rfl, hb⟩; have hb5 := HB5.out.trans (hb.mono HB5.out.size); have tI := HTI.out.below hb5; have tG := HTG.out.below hb5; have tJ := HTJ.out.below hb5; have tH := HTH.out.below hb5; have tT := HTT.out.below hb; have tU := HTU.out.below hb; have HB6 := veil (HBW.out.trans (hb5.mono HBW.out.size)); obtain ⟨i0, i1, _, _⟩ := tI; obtain ⟨g0, g1, _, _⟩ := tG; obtain ⟨j0, j1, _, _⟩ := tJ; obtain ⟨h0, h1, _, _⟩ := tH; obtain ⟨t0, t1, _, _⟩ := tT; obtain ⟨u0, u1, _, _⟩ := tU; clear hb hb5))
        go_ret
        exact ⟨rfl, HB6.out⟩
    · skip
      go_simp
      have tF2 := tF1.alloc (.cells #[.int .i64 0, .int .i64 0] 31)
      have hB2 := hB1.alloc hB1.size (.cells #[.int .i64 0, .int .i64 0] 31)
      have tT2 := tT1.alloc (.cells #[.int .i64 0, .int .i64 0] 31)
      have tU2 := Two.new1 W0 (.cells #[.int .i64 0, .int .i64 0] 24) (.int .i64 0) (.int .i64 0) 31
      have gU : W.heap.size ≤ (W0.heap.size + 1) := (by have := hB1.size; (try simp at this); omega)
      have nTU : W0.heap.size ≠ (W0.heap.size + 1) := (by have := tT1.lt; (try simp at this); omega)
      refine hK.out _ _ ?_ (fun hHeld => ?_)
      · exact ⟨tF2.1, tF2.2.1⟩
      clear hK K
      try simp only [Act.put, List.setIfInBounds_toArray, List.set_cons_zero, List.set_cons_succ, List.getElem_toArray, List.getElem_cons_succ, List.getElem_cons_zero]
      refine wpAnyH_ready (rs := [1]) (by kernel_rfl) (by simp) ?_
      refine AllReadyH.cons rfl (fun K hK => ?_) AllReadyH.nil
      go_simp
      go_at_call 13
      refine (HT.out _).mono ?_
      rintro e w3 ⟨rfl, hb3⟩
      have tF3 := tF2.below hb3
      have hB3 := hB2.trans (hb3.mono hB2.size)
      have tT3 := tT2.below hb3
      have tU3 := tU2.below hb3
      refine hK.out _ _ ?_ (fun hHeld => ?_)
      · exact ⟨tF3.1, tF3.2.1⟩
      clear hK K
      try simp only [Act.put, List.setIfInBounds_toArray, List.set_cons_zero, List.set_cons_succ, List.getElem_toArray, List.getElem_cons_succ, List.getElem_cons_zero]
      refine wpAnyH_ready (rs := [7]) (by kernel_rfl) (by simp) ?_
      refine AllReadyH.cons rfl (fun K hK => ?_) AllReadyH.nil
      go_simp
      go_at_call 14
      refine (HU.out _).mono ?_
      rintro e w4 ⟨rfl, hb4⟩
      have tF4 := tF3.below hb4
      have hB4 := hB3.trans (hb4.mono hB3.size)
      have tT4 := tT3.below hb4
      have tU4 := tU3.below hb4
      refine hK.out _ _ ?_ (fun hHeld => ?_)
      · exact ⟨tF4.1, tF4.2.1⟩
      clear hK K
      try simp only [Act.put, List.setIfInBounds_toArray, List.set_cons_zero, List.set_cons_succ, List.getElem_toArray, List.getElem_cons_succ, List.getElem_cons_zero]
      refine wpAnyH_ready (rs := [10]) (by kernel_rfl) (by simp) ?_
      refine AllReadyH.cons rfl (fun K hK => ?_) AllReadyH.nil
      obtain ⟨a0, a1, a2, a3⟩ := tT4
      go_simp
      have tF10 := tF4.other (b' := W0.heap.size) (by omega) (.int .i64 x) (.int .i64 yt)
      have tU10 := tU4.other (b' := W0.heap.size) (Ne.symm nTU) (.int .i64 x) (.int .i64 yt)
      have tT10 := (show Two w4 W0.heap.size (.int .i64 0) (.int .i64 0) from ⟨a0, a1, a2, a3⟩).set (.int .i64 x) (.int .i64 yt)
      have hB10 := (hB4.setCell (p := ⟨W0.heap.size, 0, none⟩) gT (.int .i64 x)).setCell (p := ⟨W0.heap.size, 1, none⟩) gT (.int .i64 yt)
      refine hK.out _ _ ?_ (fun hHeld => ?_)
      · exact ⟨tF10.1, tF10.2.1⟩
      clear hK K
      try simp only [Act.put, List.setIfInBounds_toArray, List.set_cons_zero, List.set_cons_succ, List.getElem_toArray, List.getElem_cons_succ, List.getElem_cons_zero]
      refine wpAnyH_ready (rs := [11]) (by kernel_rfl) (by simp) ?_
      refine AllReadyH.cons rfl (fun K hK => ?_) AllReadyH.nil
      clear a0 a1 a2 a3
      generalize ((w4.setCell ⟨W0.heap.size, 0, none⟩ (.int .i64 x)).setCell ⟨W0.heap.size, 1, none⟩ (.int .i64 yt)) = V2 at tF10 tU10 tT10 hB10 ⊢
      obtain ⟨a0, a1, a2, a3⟩ := tU10
      go_simp
      have tF11 := tF10.other (b' := (W0.heap.size + 1)) (by omega) (.int .i64 x) (.int .i64 yt)
      have tT11 := tT10.other (b' := (W0.heap.size + 1)) nTU (.int .i64 x) (.int .i64 yt)
      have tU11 := (show Two V2 (W0.heap.size + 1) (.int .i64 0) (.int .i64 0) from ⟨a0, a1, a2, a3⟩).set (.int .i64 x) (.int .i64 yt)
      have hB11 := (hB10.setCell (p := ⟨(W0.heap.size + 1), 0, none⟩) gU (.int .i64 x)).setCell (p := ⟨(W0.heap.size + 1), 1, none⟩) gU (.int .i64 yt)
      refine hK.out _ _ ?_ (fun hHeld => ?_)
      · exact ⟨tF11.1, tF11.2.1⟩
      clear hK K
      try simp only [Act.put, List.setIfInBounds_toArray, List.set_cons_zero, List.set_cons_succ, List.getElem_toArray, List.getElem_cons_succ, List.getElem_cons_zero]
      refine wpAnyH_done (by kernel_rfl) ?_ _
      clear a0 a1 a2 a3
      generalize ((V2.setCell ⟨(W0.heap.size + 1), 0, none⟩ (.int .i64 x)).setCell ⟨(W0.heap.size + 1), 1, none⟩ (.int .i64 yt)) = V3 at tT11 tU11 hB11 ⊢
      generalize (W0.heap.size + 1) = bU at tU11 ⊢
      generalize W0.heap.size = bT at tT11 ⊢
      have HTT := veil tT11
      have HTU := veil tU11
      have HB5 := veil hB11
      clear tF11 tT11 tU11 hB11
      go_wp2_with (first | (go_at_call 15; refine (HL.out _).mono ?_; rintro e w5 ⟨rfl, hb⟩; have hb5 := HB5.out.trans (hb.mono HB5.out.size); have tI := HTI.out.below hb5; have tG := HTG.out.below hb5; have tJ := HTJ.out.below hb5; have tH := HTH.out.below hb5; have tT := HTT.out.below hb; have tU := HTU.out.below hb; have HB6 := veil (HBW.out.trans (hb5.mono HBW.out.size)); obtain ⟨i0, i1, _, _⟩ := tI; obtain ⟨g0, g1, _, _⟩ := tG; obtain ⟨j0, j1, _, _⟩ := tJ; obtain ⟨h0, h1, _, _⟩ := tH; obtain ⟨t0, t1, _, _⟩ := tT; obtain ⟨u0, u1, _, _⟩ := tU; clear hb hb5))
      go_ret
      exact ⟨rfl, HB6.out⟩
  · skip
    go_simp
    have tF1 := tF0.alloc (.cells #[.int .i64 0, .int .i64 0] 31)
    have hB1 := hB0.alloc hB0.size (.cells #[.int .i64 0, .int .i64 0] 31)
    have tU1 := Two.new W0 (.int .i64 0) (.int .i64 0) 31
    have gU : W.heap.size ≤ W0.heap.size := (by have := hB0.size; (try simp at this); omega)
    refine hK.out _ _ ?_ (fun hHeld => ?_)
    · exact ⟨tF1.1, tF1.2.1⟩
    clear hK K
    try simp only [Act.put, List.setIfInBounds_toArray, List.set_cons_zero, List.set_cons_succ, List.getElem_toArray, List.getElem_cons_succ, List.getElem_cons_zero]
    refine wpAnyH_ready (rs := [1, 8]) (by kernel_rfl) (by simp) ?_
    refine AllReadyH.cons rfl (fun K hK => ?_) (AllReadyH.cons rfl (fun K hK => ?_) AllReadyH.nil)
    · skip
      go_simp
      go_at_call 13
      refine (HT.out _).mono ?_
      rintro e w3 ⟨rfl, hb2⟩
      have tF2 := tF1.below hb2
      have hB2 := hB1.trans (hb2.mono hB1.size)
      have tU2 := tU1.below hb2
      refine hK.out _ _ ?_ (fun hHeld => ?_)
      · exact ⟨tF2.1, tF2.2.1⟩
      clear hK K
      try simp only [Act.put, List.setIfInBounds_toArray, List.set_cons_zero, List.set_cons_succ, List.getElem_toArray, List.getElem_cons_succ, List.getElem_cons_zero]
      refine wpAnyH_ready (rs := [7, 8]) (by kernel_rfl) (by simp) ?_
      refine AllReadyH.cons rfl (fun K hK => ?_) (AllReadyH.cons rfl (fun K hK => ?_) AllReadyH.nil)
      · skip
        go_simp
        go_at_call 14
        refine (HU.out _).mono ?_
        rintro e w4 ⟨rfl, hb3⟩
        have tF3 := tF2.below hb3
        have hB3 := hB2.trans (hb3.mono hB2.size)
        have tU3 := tU2.below hb3
        refine hK.out _ _ ?_ (fun hHeld => ?_)
        · exact ⟨tF3.1, tF3.2.1⟩
        clear hK K
        try simp only [Act.put, List.setIfInBounds_toArray, List.set_cons_zero, List.set_cons_succ, List.getElem_toArray, List.getElem_cons_succ, List.getElem_cons_zero]
        refine wpAnyH_ready (rs := [8]) (by kernel_rfl) (by simp) ?_
        refine AllReadyH.cons rfl (fun K hK => ?_) AllReadyH.nil
        go_simp
        have tF4 := tF3.alloc (.cells #[.int .i64 0, .int .i64 0] 24)
        have hB4 := hB3.alloc hB3.size (.cells #[.int .i64 0, .int .i64 0] 24)
        have tU4 := tU3.alloc (.cells #[.int .i64 0, .int .i64 0] 24)
        have tT4 := Two.new w4 (.int .i64 0) (.int .i64 0) 24
        have gT : W.heap.size ≤ w4.heap.size := (by have := hB3.size; (try simp at this); omega)
        have nTU : w4.heap.size ≠ W0.heap.size := (by have := tU3.lt; (try simp at this); omega)
        refine hK.out _ _ ?_ (fun hHeld => ?_)
        · exact ⟨tF4.1, tF4.2.1⟩
        clear hK K
        try simp only [Act.put, List.setIfInBounds_toArray, List.set_cons_zero, List.set_cons_succ, List.getElem_toArray, List.getElem_cons_succ, List.getElem_cons_zero]
        refine wpAnyH_ready (rs := [10]) (by kernel_rfl) (by simp) ?_
        refine AllReadyH.cons rfl (fun K hK => ?_) AllReadyH.nil
        generalize (w4.alloc (.cells #[.int .i64 0, .int .i64 0] 24)) = V at tF4 hB4 tT4 tU4 ⊢
        obtain ⟨a0, a1, a2, a3⟩ := tT4
        go_simp
        have tF10 := tF4.other (b' := w4.heap.size) (by omega) (.int .i64 x) (.int .i64 yt)
        have tU10 := tU4.other (b' := w4.heap.size) (Ne.symm nTU) (.int .i64 x) (.int .i64 yt)
        have tT10 := (show Two V w4.heap.size (.int .i64 0) (.int .i64 0) from ⟨a0, a1, a2, a3⟩).set (.int .i64 x) (.int .i64 yt)
        have hB10 := (hB4.setCell (p := ⟨w4.heap.size, 0, none⟩) gT (.int .i64 x)).setCell (p := ⟨w4.heap.size, 1, none⟩) gT (.int .i64 yt)
        refine hK.out _ _ ?_ (fun hHeld => ?_)
        · exact ⟨tF10.1, tF10.2.1⟩
        clear hK K
        try simp only [Act.put, List.setIfInBounds_toArray, List.set_cons_zero, List.set_cons_succ, List.getElem_toArray, List.getElem_cons_succ, List.getElem_cons_zero]
        refine wpAnyH_ready (rs := [11]) (by kernel_rfl) (by simp) ?_
        refine AllReadyH.cons rfl (fun K hK => ?_) AllReadyH.nil
        clear a0 a1 a2 a3
        generalize ((V.setCell ⟨w4.heap.size, 0, none⟩ (.int .i64 x)).setCell ⟨w4.heap.size, 1, none⟩ (.int .i64 yt)) = V2 at tF10 tU10 tT10 hB10 ⊢
        obtain ⟨a0, a1, a2, a3⟩ := tU10
        go_simp
        have tF11 := tF10.other (b' := W0.heap.size) (by omega) (.int .i64 x) (.int .i64 yt)
        have tT11 := tT10.other (b' := W0.heap.size) nTU (.int .i64 x) (.int .i64 yt)
        have tU11 := (show Two V2 W0.heap.size (.int .i64 0) (.int .i64 0) from ⟨a0, a1, a2, a3⟩).set (.int .i64 x) (.int .i64 yt)
        have hB11 := (hB10.setCell (p := ⟨W0.heap.size, 0, none⟩) gU (.int .i64 x)).setCell (p := ⟨W0.heap.size, 1, none⟩) gU (.int .i64 yt)
        refine hK.out _ _ ?_ (fun hHeld => ?_)
        · exact ⟨tF11.1, tF11.2.1⟩
        clear hK K
        try simp only [Act.put, List.setIfInBounds_toArray, List.set_cons_zero, List.set_cons_succ, List.getElem_toArray, List.getElem_cons_succ, List.getElem_cons_zero]
        refine wpAnyH_done (by kernel_rfl) ?_ _
        clear a0 a1 a2 a3
        generalize ((V2.setCell ⟨W0.heap.size, 0, none⟩ (.int .i64 x)).setCell ⟨W0.heap.size, 1, none⟩ (.int .i64 yt)) = V3 at tT11 tU11 hB11 ⊢
        generalize W0.heap.size = bU at tU11 ⊢
        generalize w4.heap.size = bT at tT11 ⊢
        have HTT := veil tT11
        have HTU := veil tU11
        have HB5 := veil hB11
        clear tF11 tT11 tU11 hB11
        go_wp2_with (first | (go_at_call 15; refine (HL.out _).mono ?_; rintro e w5 ⟨rfl, hb⟩; have hb5 := HB5.out.trans (hb.mono HB5.out.size); have tI := HTI.out.below hb5; have tG := HTG.out.below hb5; have tJ := HTJ.out.below hb5; have tH := HTH.out.below hb5; have tT := HTT.out.below hb; have tU := HTU.out.below hb; have HB6 := veil (HBW.out.trans (hb5.mono HBW.out.size)); obtain ⟨i0, i1, _, _⟩ := tI; obtain ⟨g0, g1, _, _⟩ := tG; obtain ⟨j0, j1, _, _⟩ := tJ; obtain ⟨h0, h1, _, _⟩ := tH; obtain ⟨t0, t1, _, _⟩ := tT; obtain ⟨u0, u1, _, _⟩ := tU; clear hb hb5))
        go_ret
        exact ⟨rfl, HB6.out⟩
      · skip
        go_simp
        have tF3 := tF2.alloc (.cells #[.int .i64 0, .int .i64 0] 24)
        have hB3 := hB2.alloc hB2.size (.cells #[.int .i64 0, .int .i64 0] 24)
        have tU3 := tU2.alloc (.cells #[.int .i64 0, .int .i64 0] 24)
        have tT3 := Two.new w3 (.int .i64 0) (.int .i64 0) 24
        have gT : W.heap.size ≤ w3.heap.size := (by have := hB2.size; (try simp at this); omega)
        have nTU : w3.heap.size ≠ W0.heap.size := (by have := tU2.lt; (try simp at this); omega)
        refine hK.out _ _ ?_ (fun hHeld => ?_)
        · exact ⟨tF3.1, tF3.2.1⟩
        clear hK K
        try simp only [Act.put, List.setIfInBounds_toArray, List.set_cons_zero, List.set_cons_succ, List.getElem_toArray, List.getElem_cons_succ, List.getElem_cons_zero]
        refine wpAnyH_ready (rs := [7]) (by kernel_rfl) (by simp) ?_
        refine AllReadyH.cons rfl (fun K hK => ?_) AllReadyH.nil
        go_simp
        go_at_call 14
        refine (HU.out _).mono ?_
        rintro e w4 ⟨rfl, hb4⟩
        have tF4 := tF3.below hb4
        have hB4 := hB3.trans (hb4.mono hB3.size)
        have tT4 := tT3.below hb4
        have tU4 := tU3.below hb4
        refine hK.out _ _ ?_ (fun hHeld => ?_)
        · exact ⟨tF4.1, tF4.2.1⟩
        clear hK K
        try simp only [Act.put, List.setIfInBounds_toArray, List.set_cons_zero, List.set_cons_succ, List.getElem_toArray, List.getElem_cons_succ, List.getElem_cons_zero]
        refine wpAnyH_ready (rs := [10]) (by kernel_rfl) (by simp) ?_
        refine AllReadyH.cons rfl (fun K hK => ?_) AllReadyH.nil
        obtain ⟨a0, a1, a2, a3⟩ := tT4
        go_simp
        have tF10 := tF4.other (b' := w3.heap.size) (by omega) (.int .i64 x) (.int .i64 yt)
        have tU10 := tU4.other (b' := w3.heap.size) (Ne.symm nTU) (.int .i64 x) (.int .i64 yt)
        have tT10 := (show Two w4 w3.heap.size (.int .i64 0) (.int .i64 0) from ⟨a0, a1, a2, a3⟩).set (.int .i64 x) (.int .i64 yt)
        have hB10 := (hB4.setCell (p := ⟨w3.heap.size, 0, none⟩) gT (.int .i64 x)).setCell (p := ⟨w3.heap.size, 1, none⟩) gT (.int .i64 yt)
        refine hK.out _ _ ?_ (fun hHeld => ?_)
        · exact ⟨tF10.1, tF10.2.1⟩
        clear hK K
        try simp only [Act.put, List.setIfInBounds_toArray, List.set_cons_zero, List.set_cons_succ, List.getElem_toArray, List.getElem_cons_succ, List.getElem_cons_zero]
        refine wpAnyH_ready (rs := [11]) (by kernel_rfl) (by simp) ?_
        refine AllReadyH.cons rfl (fun K hK => ?_) AllReadyH.nil
        clear a0 a1 a2 a3
        generalize ((w4.setCell ⟨w3.heap.size, 0, none⟩ (.int .i64 x)).setCell ⟨w3.heap.size, 1, none⟩ (.int .i64 yt)) = V2 at tF10 tU10 tT10 hB10 ⊢
        obtain ⟨a0, a1, a2, a3⟩ := tU10
        go_simp
        have tF11 := tF10.other (b' := W0.heap.size) (by omega) (.int .i64 x) (.int .i64 yt)
        have tT11 := tT10.other (b' := W0.heap.size) nTU (.int .i64 x) (.int .i64 yt)
        have tU11 := (show Two V2 W0.heap.size (.int .i64 0) (.int .i64 0) from ⟨a0, a1, a2, a3⟩).set (.int .i64 x) (.int .i64 yt)
        have hB11 := (hB10.setCell (p := ⟨W0.heap.size, 0, none⟩) gU (.int .i64 x)).setCell (p := ⟨W0.heap.size, 1, none⟩) gU (.int .i64 yt)
        refine hK.out _ _ ?_ (fun hHeld => ?_)
        · exact ⟨tF11.1, tF11.2.1⟩
        clear hK K
        try simp only [Act.put, List.setIfInBounds_toArray, List.set_cons_zero, List.set_cons_succ, List.getElem_toArray, List.getElem_cons_succ, List.getElem_cons_zero]
        refine wpAnyH_done (by kernel_rfl) ?_ _
        clear a0 a1 a2 a3
        generalize ((V2.setCell ⟨W0.heap.size, 0, none⟩ (.int .i64 x)).setCell ⟨W0.heap.size, 1, none⟩ (.int .i64 yt)) = V3 at tT11 tU11 hB11 ⊢
        generalize W0.heap.size = bU at tU11 ⊢
        generalize w3.heap.size = bT at tT11 ⊢
        have HTT := veil tT11
        have HTU := veil tU11
        have HB5 := veil hB11
        clear tF11 tT11 tU11 hB11
        go_wp2_with (first | (go_at_call 15; refine (HL.out _).mono ?_; rintro e w5 ⟨rfl, hb⟩; have hb5 := HB5.out.trans (hb.mono HB5.out.size); have tI := HTI.out.below hb5; have tG := HTG.out.below hb5; have tJ := HTJ.out.below hb5; have tH := HTH.out.below hb5; have tT := HTT.out.below hb; have tU := HTU.out.below hb; have HB6 := veil (HBW.out.trans (hb5.mono HBW.out.size)); obtain ⟨i0, i1, _, _⟩ := tI; obtain ⟨g0, g1, _, _⟩ := tG; obtain ⟨j0, j1, _, _⟩ := tJ; obtain ⟨h0, h1, _, _⟩ := tH; obtain ⟨t0, t1, _, _⟩ := tT; obtain ⟨u0, u1, _, _⟩ := tU; clear hb hb5))
        go_ret
        exact ⟨rfl, HB6.out⟩
    · skip
      go_simp
      have tF2 := tF1.alloc (.cells #[.int .i64 0, .int .i64 0] 24)
      have hB2 := hB1.alloc hB1.size (.cells #[.int .i64 0, .int .i64 0] 24)
      have tU2 := tU1.alloc (.cells #[.int .i64 0, .int .i64 0] 24)
      have tT2 := Two.new1 W0 (.cells #[.int .i64 0, .int .i64 0] 31) (.int .i64 0) (.int .i64 0) 24
      have gT : W.heap.size ≤ (W0.heap.size + 1) := (by have := hB1.size; (try simp at this); omega)
      have nTU : (W0.heap.size + 1) ≠ W0.heap.size := (by have := tU1.lt; (try simp at this); omega)
      refine hK.out _ _ ?_ (fun hHeld => ?_)
      · exact ⟨tF2.1, tF2.2.1⟩
      clear hK K
      try simp only [Act.put, List.setIfInBounds_toArray, List.set_cons_zero, List.set_cons_succ, List.getElem_toArray, List.getElem_cons_succ, List.getElem_cons_zero]
      refine wpAnyH_ready (rs := [1]) (by kernel_rfl) (by simp) ?_
      refine AllReadyH.cons rfl (fun K hK => ?_) AllReadyH.nil
      go_simp
      go_at_call 13
      refine (HT.out _).mono ?_
      rintro e w3 ⟨rfl, hb3⟩
      have tF3 := tF2.below hb3
      have hB3 := hB2.trans (hb3.mono hB2.size)
      have tT3 := tT2.below hb3
      have tU3 := tU2.below hb3
      refine hK.out _ _ ?_ (fun hHeld => ?_)
      · exact ⟨tF3.1, tF3.2.1⟩
      clear hK K
      try simp only [Act.put, List.setIfInBounds_toArray, List.set_cons_zero, List.set_cons_succ, List.getElem_toArray, List.getElem_cons_succ, List.getElem_cons_zero]
      refine wpAnyH_ready (rs := [7]) (by kernel_rfl) (by simp) ?_
      refine AllReadyH.cons rfl (fun K hK => ?_) AllReadyH.nil
      go_simp
      go_at_call 14
      refine (HU.out _).mono ?_
      rintro e w4 ⟨rfl, hb4⟩
      have tF4 := tF3.below hb4
      have hB4 := hB3.trans (hb4.mono hB3.size)
      have tT4 := tT3.below hb4
      have tU4 := tU3.below hb4
      refine hK.out _ _ ?_ (fun hHeld => ?_)
      · exact ⟨tF4.1, tF4.2.1⟩
      clear hK K
      try simp only [Act.put, List.setIfInBounds_toArray, List.set_cons_zero, List.set_cons_succ, List.getElem_toArray, List.getElem_cons_succ, List.getElem_cons_zero]
      refine wpAnyH_ready (rs := [10]) (by kernel_rfl) (by simp) ?_
      refine AllReadyH.cons rfl (fun K hK => ?_) AllReadyH.nil
      obtain ⟨a0, a1, a2, a3⟩ := tT4
      go_simp
      have tF10 := tF4.other (b' := (W0.heap.size + 1)) (by omega) (.int .i64 x) (.int .i64 yt)
      have tU10 := tU4.other (b' := (W0.heap.size + 1)) (Ne.symm nTU) (.int .i64 x) (.int .i64 yt)
      have tT10 := (show Two w4 (W0.heap.size + 1) (.int .i64 0) (.int .i64 0) from ⟨a0, a1, a2, a3⟩).set (.int .i64 x) (.int .i64 yt)
      have hB10 := (hB4.setCell (p := ⟨(W0.heap.size + 1), 0, none⟩) gT (.int .i64 x)).setCell (p := ⟨(W0.heap.size + 1), 1, none⟩) gT (.int .i64 yt)
      refine hK.out _ _ ?_ (fun hHeld => ?_)
      · exact ⟨tF10.1, tF10.2.1⟩
      clear hK K
      try simp only [Act.put, List.setIfInBounds_toArray, List.set_cons_zero, List.set_cons_succ, List.getElem_toArray, List.getElem_cons_succ, List.getElem_cons_zero]
      refine wpAnyH_ready (rs := [11]) (by kernel_rfl) (by simp) ?_
      refine AllReadyH.cons rfl (fun K hK => ?_) AllReadyH.nil
      clear a0 a1 a2 a3
      generalize ((w4.setCell ⟨(W0.heap.size + 1), 0, none⟩ (.int .i64 x)).setCell ⟨(W0.heap.size + 1), 1, none⟩ (.int .i64 yt)) = V2 at tF10 tU10 tT10 hB10 ⊢
      obtain ⟨a0, a1, a2, a3⟩ := tU10
      go_simp
      have tF11 := tF10.other (b' := W0.heap.size) (by omega) (.int .i64 x) (.int .i64 yt)
      have tT11 := tT10.other (b' := W0.heap.size) nTU (.int .i64 x) (.int .i64 yt)
      have tU11 := (show Two V2 W0.heap.size (.int .i64 0) (.int .i64 0) from ⟨a0, a1, a2, a3⟩).set (.int .i64 x) (.int .i64 yt)
      have hB11 := (hB10.setCell (p := ⟨W0.heap.size, 0, none⟩) gU (.int .i64 x)).setCell (p := ⟨W0.heap.size, 1, none⟩) gU (.int .i64 yt)
      refine hK.out _ _ ?_ (fun hHeld => ?_)
      · exact ⟨tF11.1, tF11.2.1⟩
      clear hK K
      try simp only [Act.put, List.setIfInBounds_toArray, List.set_cons_zero, List.set_cons_succ, List.getElem_toArray, List.getElem_cons_succ, List.getElem_cons_zero]
      refine wpAnyH_done (by kernel_rfl) ?_ _
      clear a0 a1 a2 a3
      generalize ((V2.setCell ⟨W0.heap.size, 0, none⟩ (.int .i64 x)).setCell ⟨W0.heap.size, 1, none⟩ (.int .i64 yt)) = V3 at tT11 tU11 hB11 ⊢
      generalize (W0.heap.size + 1) = bT at tT11 ⊢
      generalize W0.heap.size = bU at tU11 ⊢
      have HTT := veil tT11
      have HTU := veil tU11
      have HB5 := veil hB11
      clear tF11 tT11 tU11 hB11
      go_wp2_with (first | (go_at_call 15; refine (HL.out _).mono ?_; rintro e w5 ⟨rfl, hb⟩; have hb5 := HB5.out.trans (hb.mono HB5.out.size); have tI := HTI.out.below hb5; have tG := HTG.out.below hb5; have tJ := HTJ.out.below hb5; have tH := HTH.out.below hb5; have tT := HTT.out.below hb; have tU := HTU.out.below hb; have HB6 := veil (HBW.out.trans (hb5.mono HBW.out.size)); obtain ⟨i0, i1, _, _⟩ := tI; obtain ⟨g0, g1, _, _⟩ := tG; obtain ⟨j0, j1, _, _⟩ := tJ; obtain ⟨h0, h1, _, _⟩ := tH; obtain ⟨t0, t1, _, _⟩ := tT; obtain ⟨u0, u1, _, _⟩ := tU; clear hb hb5))
      go_ret
      exact ⟨rfl, HB6.out⟩
end Go.Proofs.Yteknpjjgppmlmaa
