/- The walks of list, keep, tie and untie, whatever time is asked. -/
import Derived.Test.YtjmbadadelelfaaWa2
import Derived.Test.YtjmbadadelelfaaV3
namespace Go.Proofs.Ytjmbadadelelfaa
open Go.RowKit
set_option linter.unusedVariables false
set_option linter.unusedSimpArgs false
attribute [local go_sem ↓] Go.wp_at_zero Go.wp_at_succ
theorem u64wf (k : Nat) (h : k < 18446744073709551616) : (Lit.int .u64 (k : Int)).wf = true := by
  simp [Lit.wf, IntKind.min, IntKind.max, IntKind.bits, IntKind.signed]
  omega
section
variable {w : World} {b g mb n nw ct s : Nat} {F L A B E : Nat → Nat} {T : Nat → Bool} {fr : Int → Option (Nat × Nat)}
set_option maxRecDepth 100000 in
set_option maxHeartbeats 2000000 in
theorem list_ok (h : Rep w b g n nw ct (.map (some mb)) F L A B E T) (hm : IsM w mb fr s) (t : Nat) (ht : t < 18446744073709551616) (hn : nw < 18446744073709551616) :
    Calls Try.prog 46 #[.pointer (some ⟨b, 0, none⟩), .int .u64 (t : Int)] w fun e w' => e = .returned (.agg #[.int .i64 ((lst nw F L fr (max t nw)).1 : Int), .int .i64 ((lst nw F L fr (max t nw)).2 : Int)]) ∧ Below w.heap.size w w' := by
  by_cases hle : nw ≤ t
  · rw [Nat.max_eq_left hle]
    by_cases htn : t / 64 = nw / 64
    · unfold lst
      rw [if_pos htn]
      exact list_same h t ht hle htn
    · unfold lst
      rw [if_neg htn]
      have e0 := h.tn
      have e1 := h.tm
      have hbb := h.lt_b
      have y1 : ¬ b = w.heap.size := by omega
      have hm' : (nw : Int) ≤ (t : Int) := by omega
      have HT1 := veil (turn_ok t ht)
      have HT2 := veil (turn_ok nw hn)
      have hne : ¬ ((t / 64 : Nat) : Int) = ((nw / 64 : Nat) : Int) := by omega
      have hlk := hm.look (t : Int) (u64wf t ht)
      have hlk2 : (Instr.lookup 71 (.map (some mb)) (.int .u64 (t : Int)) false).run Try.prog (w.alloc (.cells #[.int .i64 0, .int .i64 0] 69)).drew = .ok (.agg #[.int .i64 (((fr (t : Int)).getD (0, 0)).1 : Int), .int .i64 (((fr (t : Int)).getD (0, 0)).2 : Int)]) (w.alloc (.cells #[.int .i64 0, .int .i64 0] 69)).drew := (hm.block (w' := (w.alloc (.cells #[.int .i64 0, .int .i64 0] 69)).drew) (Below.heap_alloc _ _ _ hm.lt)).look (t : Int) (u64wf t ht)
      generalize (fr (t : Int)).getD (0, 0) = z at *
      generalize ((t / 64 : Nat) : Int) = q1 at *
      generalize ((nw / 64 : Nat) : Int) = q2 at *
      clear h htn
      go_enter Try.func46, Try.ntmps46
      go_wp2
      go_region_held3 (fun w' => w'.cell? ⟨b, 0, none⟩ = some (.int .u64 (nw : Int))) (go_keep)
        (first
          | (go_at_call 41; first
              | (refine (HT1.out _).mono ?_; rintro e w1 ⟨rfl, hw⟩; subst hw)
              | (refine (HT2.out _).mono ?_; rintro e w1 ⟨rfl, hw⟩; subst hw)))
      go_wp2
      simp [bodyPost, results, Try.results46, go_sem]
      exact ((Below.refl _ _).alloc (Nat.le_refl _) _).drew
  · rw [Nat.max_eq_right (by omega)]
    unfold lst
    rw [if_pos rfl]
    have e0 := h.tn
    have e1 := h.sf (nw % 64) (Nat.mod_lt _ (by decide))
    have e2 := h.sl (nw % 64) (Nat.mod_lt _ (by decide))
    have hbb := h.lt_b
    have y1 : ¬ b = w.heap.size := by omega
    have hm' : (t : Int) ≤ (nw : Int) := by omega
    have HT2 := veil (turn_ok nw hn)
    have r1 : (0 : Int) ≤ ((nw % 64 : Nat) : Int) := by omega
    have r2 : ((nw % 64 : Nat) : Int) < 64 := by omega
    clear h hm
    go_enter Try.func46, Try.ntmps46
    go_wp2
    go_region_held3 (fun w' => w'.cell? ⟨b, 0, none⟩ = some (.int .u64 (nw : Int))) (go_keep)
      (first
        | (go_at_call 41; refine (HT2.out _).mono ?_; rintro e w1 ⟨rfl, hw⟩; subst hw))
    go_wp2
    simp [bodyPost, results, Try.results46, go_sem]
    exact ((Below.refl _ _).alloc (Nat.le_refl _) _).drew
end
end Go.Proofs.Ytjmbadadelelfaa
