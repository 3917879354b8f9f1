/- The document's wheel: first, Next, Advance, Fork. -/
import Derived.Test.YtjmbadadelelfaaWc2
namespace Go.Proofs.Ytjmbadadelelfaa
open Go.RowKit Go.Lib
set_option linter.unusedVariables false
set_option linter.unusedSimpArgs false
attribute [local go_sem ↓] Go.wp_at_zero Go.wp_at_succ
theorem _root_.Go.RowKit.Below.drewN {b : Nat} {w w' : World} (h : Below b w w') (q : Nat) : Below b w (w'.drewN q) := ⟨h.os, h.tape, h.output, h.size, h.block⟩
section
variable {w : World} {base rb n nw : Nat} {v : Value} {R R1 R2 : List It} {x : It}
theorem first_none (h : IsR w base rb n nw v []) :
    Calls Try.prog 55 #[.pointer (some ⟨rb, 0, none⟩)] w fun e w' => e = .returned (.int .i64 (-1)) ∧ w' = w := by
  obtain ⟨a, cap, rfl, _, _⟩ := h.form
  have e1 : w.cell? ⟨rb, 2, none⟩ = some (.slice a 0 cap) := h.c2
  clear h
  go_enter Try.func55, Try.ntmps55
  go_wp2
  go_loopw [3, 4] (fun a i wr => a = .int .i64 (-1) ∧ i = .int .i64 0 ∧ wr = w) (fun _ i _ => 0)
  case atStart => exact ⟨rfl, rfl, rfl⟩
  case round =>
    obtain ⟨rfl, rfl, rfl⟩ := hrel
    go_wp2
    go_ret
    exact ⟨rfl, rfl⟩
set_option maxRecDepth 100000 in
set_option maxHeartbeats 2000000 in
theorem first_walk (w : World) (rb g len cap : Nat) (T : Nat → Nat) (c2 : w.cell? ⟨rb, 2, none⟩ = some (.slice (some ⟨g, 0, none⟩) len cap)) (hl : len ≤ 1024) (hpos : 0 < len)
    (hc : ∀ j, j < len → w.cell? ⟨g, j * 2 + 1, none⟩ = some (.int .u64 (T j : Int))) (hrb : rb < w.heap.size) (hg : g < w.heap.size) :
    Calls Try.prog 55 #[.pointer (some ⟨rb, 0, none⟩)] w fun e w' => ∃ k, k < len ∧ (∀ j, j < k → T k < T j) ∧ (∀ j, j < len → T k ≤ T j) ∧ e = .returned (.int .i64 (k : Int)) ∧ Below w.heap.size w w' := by
  have HC := veil hc
  clear hc
  go_enter Try.func55, Try.ntmps55
  go_wp2
  go_loopw [3, 4] (fun a i wr => ∃ (j : Nat), i = .int .i64 (j : Int) ∧ j ≤ len ∧ Below w.heap.size w wr ∧ ((j = 0 ∧ a = .int .i64 (-1)) ∨ (0 < j ∧ ∃ k, k < j ∧ a = .int .i64 (k : Int) ∧ (∀ i, i < k → T k < T i) ∧ (∀ i, i < j → T k ≤ T i)))) (fun _ i _ => len - (intOf i).toNat)
  case atStart => exact ⟨0, rfl, by omega, Below.refl _ _, .inl ⟨rfl, rfl⟩⟩
  case round =>
    obtain ⟨j, rfl, hj, hq, hcase⟩ := hrel
    have c2q : wr.cell? ⟨rb, 2, none⟩ = some (.slice (some ⟨g, 0, none⟩) len cap) := (hq.cell (p := ⟨rb, 2, none⟩) hrb).trans c2
    have HCq : Hid (∀ j, j < len → wr.cell? ⟨g, j * 2 + 1, none⟩ = some (.int .u64 (T j : Int))) := fun j hj => (hq.cell (p := ⟨g, j * 2 + 1, none⟩) hg).trans (HC.out j hj)
    have HQ := veil hq
    clear hq c2 HC
    by_cases hjl : j < len
    · have y1 := HCq.out j hjl
      have hjl' : (j : Int) < (len : Int) := by omega
      have hj1 : (0 : Int) ≤ (j : Int) := by omega
      rcases hcase with ⟨rfl, rfl⟩ | ⟨hj0, k, hkj, rfl, hk1, hk2⟩
      · have hl1 : (0 : Int) < (len : Int) := by omega
        clear hjl' hj1
        go_wp2
        go_quiet (fail)
        go_wp2
        go_roundw
        case rel =>
          refine ⟨1, by go_num, by omega, HQ.out.drewN _, .inr ⟨by omega, 0, by omega, rfl, fun i hi => by omega, fun i hi => ?_⟩⟩
          obtain rfl : i = 0 := by omega
          exact Nat.le_refl _
        case measure => simp [intOf]; omega
      · have y2 := HCq.out k (by omega)
        have hkn : ¬ (k : Int) < 0 := by omega
        have hkd : decide ((k : Int) < 0) = false := by simp
        have hkl : k < len := by omega
        have hkl' : (k : Int) < (len : Int) := by omega
        have hk1' : (0 : Int) ≤ (k : Int) := by omega
        have HK1 := veil hk1
        have HK2 := veil hk2
        by_cases hlt : T j < T k
        · have hlt' : decide ((T j : Int) < (T k : Int)) = true := by simp; omega
          have hlt2 : (T j : Int) < (T k : Int) := by omega
          clear hk1 hk2
          go_wp2
          go_quiet (fail)
          go_wp2
          go_roundw
          case rel =>
            refine ⟨j + 1, by go_num, by omega, HQ.out.drewN _, .inr ⟨by omega, j, by omega, rfl, fun i hi => ?_, fun i hi => ?_⟩⟩
            · have := HK2.out i hi; omega
            · rcases Nat.lt_or_ge i j with e | e
              · have := HK2.out i e; omega
              · obtain rfl : i = j := by omega
                exact Nat.le_refl _
          case measure => simp [intOf]; omega
        · have hlt' : decide ((T j : Int) < (T k : Int)) = false := by simp; omega
          have hlt2 : ¬ (T j : Int) < (T k : Int) := by omega
          clear hk1 hk2
          go_wp2
          go_quiet (fail)
          go_wp2
          go_roundw
          case rel =>
            refine ⟨j + 1, by go_num, by omega, HQ.out.drewN _, .inr ⟨by omega, k, by omega, rfl, HK1.out, fun i hi => ?_⟩⟩
            rcases Nat.lt_or_ge i j with e | e
            · exact HK2.out i e
            · obtain rfl : i = j := by omega
              omega
          case measure => simp [intOf]; omega
    · rcases hcase with ⟨rfl, _⟩ | ⟨hj0, k, hkj, rfl, hk1, hk2⟩
      · omega
      · have hjl' : ¬ (j : Int) < (len : Int) := by omega
        have HE : Hid (k < len ∧ (∀ j, j < k → T k < T j) ∧ (∀ j, j < len → T k ≤ T j)) := ⟨by omega, hk1, fun i hi => hk2 i (by omega)⟩
        clear hk1 hk2
        go_wp2
        go_ret
        exact ⟨k, HE.out.1, HE.out.2.1, HE.out.2.2, rfl, HQ.out⟩
theorem first_ok (h : IsR w base rb n nw v R) (hne : R ≠ []) :
    Calls Try.prog 55 #[.pointer (some ⟨rb, 0, none⟩)] w fun e w' => ∃ R1 x R2, R = R1 ++ x :: R2 ∧ (∀ y ∈ R1, x.t < y.t) ∧ (∀ y ∈ R2, x.t ≤ y.t) ∧ e = .returned (.int .i64 (R1.length : Int)) ∧ Below w.heap.size w w' := by
  obtain ⟨g, cap, rfl, h1, h2, h3, h4, h5⟩ := h.cells hne
  have hget : ∀ j (hj : j < R.length), R.getD j ⟨0, 0⟩ = R[j] := fun j hj => by simp [List.getD, List.getElem?_eq_getElem hj]
  refine (first_walk w rb g R.length cap (fun j => (R.getD j ⟨0, 0⟩).t) h.c2 h.len_le (List.length_pos_iff.2 hne) (fun j hj => (h5 j _ (by rw [hget j hj]; exact List.getElem?_eq_getElem hj)).2) h.lt h3).mono ?_
  rintro e w' ⟨k, hk, k1, k2, rfl, hb⟩
  refine ⟨R.take k, R[k], R.drop (k + 1), ?_, fun y hy => ?_, fun y hy => ?_, by rw [List.length_take, Nat.min_eq_left (Nat.le_of_lt hk)], hb⟩
  · rw [← List.drop_eq_getElem_cons hk, List.take_append_drop]
  · obtain ⟨j, hj, rfl⟩ := List.mem_iff_getElem.1 hy
    rw [List.length_take] at hj
    have := k1 j (by omega)
    rw [hget k hk, hget j (by omega)] at this
    rw [List.getElem_take]
    exact this
  · obtain ⟨j, hj, rfl⟩ := List.mem_iff_getElem.1 hy
    rw [List.length_drop] at hj
    have := k2 (k + 1 + j) (by omega)
    rw [hget k hk, hget _ (by omega)] at this
    rw [List.getElem_drop]
    exact this
set_option maxRecDepth 100000 in
theorem rnext_ok (h : IsR w base rb n nw v R) :
    Calls Try.prog 35 #[.pointer (some ⟨rb, 0, none⟩)] w fun e w' => e = .returned (.tuple #[.int .u64 (nxT (sortS R) : Int), .bool (nxB (sortS R))]) ∧ Below w.heap.size w w' := by
  by_cases hne : R = []
  · subst hne
    have HF := veil (first_none h)
    clear h
    show Calls _ _ _ _ (fun e w' => e = .returned (.tuple #[.int .u64 0, .bool false]) ∧ Below w.heap.size w w')
    go_enter Try.func35, Try.ntmps35
    go_wp2_with (go_at_call 55; refine (HF.out).mono ?_; rintro e w1 ⟨rfl, hw⟩; replace hw := hw.symm; subst hw)
    go_ret2
    exact ⟨rfl, Below.refl _ _⟩
  · obtain ⟨g, cap, rfl, h1, h2, h3, h4, h5⟩ := h.cells hne
    have HE : Hid (∀ W R1 x R2, R = R1 ++ x :: R2 → (∀ y ∈ R1, x.t < y.t) → (∀ y ∈ R2, x.t ≤ y.t) → Below w.heap.size w W → W.cell? ⟨rb, 2, none⟩ = some (.slice (some ⟨g, 0, none⟩) R.length cap) ∧ W.cell? ⟨g, R1.length * 2 + 1, none⟩ = some (.int .u64 (x.t : Int)) ∧ R1.length < R.length ∧ nxT (sortS R) = x.t ∧ nxB (sortS R) = true) := fun W R1 x R2 e q1 q2 hb => by
      refine ⟨(hb.cell (p := ⟨rb, 2, none⟩) h.lt).trans h.c2, (hb.cell (p := ⟨g, R1.length * 2 + 1, none⟩) h3).trans (h5 R1.length x (by rw [e]; simp)).2, by rw [e]; simp, ?_, ?_⟩
      · rw [e, sortS_first q1 R2 q2]; rfl
      · rw [e, sortS_first q1 R2 q2]; rfl
    have HF := veil (first_ok h hne)
    have hlen := h.len_le
    clear h h5
    go_enter Try.func35, Try.ntmps35
    go_wp2_with (go_at_call 55; refine (HF.out).mono ?_; rintro e w1 ⟨R1, x, R2, e1, q1, q2, rfl, hb⟩; obtain ⟨x1, x2, x3, x4, x5⟩ := HE.out w1 R1 x R2 e1 q1 q2 hb; have x3' : (R1.length : Int) < (R.length : Int) := (by omega); have x6 : ¬ (R1.length : Int) < 0 := (by omega); have HB := veil hb; have HX := veil (And.intro x4 x5); clear hb x4 x5 e1 q1 q2)
    go_ret2
    exact ⟨by rw [HX.out.1, HX.out.2]; rfl, HB.out⟩
end
end Go.Proofs.Ytjmbadadelelfaa
