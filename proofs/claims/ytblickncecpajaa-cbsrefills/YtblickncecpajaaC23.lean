/-
  The document's servers: Sum, Admit.
-/
import Derived.Test.YtblickncecpajaaC22
namespace Go.Proofs.Ytblickncecpajaa
open Go.RowKit Go.Lib
set_option linter.unusedVariables false
section
variable {w : World} {base s P : Nat} {v : Value} {L : List Srv}
theorem rsum_ok (h : Rep w base s P v L) : Calls Try.prog 34 #[.pointer (some ⟨s, 0, none⟩)] w fun e w' => e = .returned (.int .u64 (sumOf L : Int)) ∧ Below w.heap.size w w' := by
  have HP := veil h
  obtain ⟨a, cap, rfl, _, _⟩ := h.form
  have c1 := h.c1
  have hlen := h.f.len
  clear h
  go_enter Try.func34, Try.ntmps34
  go_wp2
  go_loopw [3, 4] (fun sm i wr => ∃ (j : Nat), j ≤ L.length ∧ i = .int .i64 j ∧ sm = .int .u64 (sumOf (L.take j) : Int) ∧ Below w.heap.size w wr) (fun _ i _ => L.length - (intOf i).toNat)
  case atStart => exact ⟨0, by omega, rfl, rfl, Below.refl _ _⟩
  case round =>
    obtain ⟨j, hj, rfl, rfl, hbel⟩ := hrel
    have hR := HP.out.below hbel
    have c1' := hR.c1
    by_cases hjl : j < L.length
    · have hjl' : (j : Int) < (L.length : Int) := by omega
      obtain ⟨x, hx⟩ : ∃ x, L[j]? = some x := ⟨_, List.getElem?_eq_getElem hjl⟩
      obtain ⟨g, cap', e, _, _, hg, _, _, hc⟩ := hR.cells (by omega)
      simp at e
      obtain ⟨rfl, rfl⟩ := e
      obtain ⟨y0, y1, y2, y3, y4⟩ := hc j x hx
      have hok := HP.out.f.all x (List.mem_of_getElem? hx)
      have hs := sum_take L j x hx
      have hp0 : ¬ (x.p : Int) = 0 := by have := hok.1; have := hok.2.1; omega
      have hle : sumOf (L.take (j + 1)) ≤ 32 * 232792560 := by
        refine Nat.le_trans (sum_le (fun y hy => HP.out.f.all y (List.mem_of_mem_take hy))) ?_
        have : (L.take (j + 1)).length ≤ L.length := List.length_take_le' _ _
        omega
      have ha := asks_le hok
      have g5 : ¬ x.p = 0 := by have := hok.pos; omega
      have g4 : IntKind.u64.wrap ((x.b : Int) * IntKind.u64.wrap (Int.tdiv 232792560 (x.p : Int))) = (asks x : Int) := by
        have e1 : Int.tdiv 232792560 (x.p : Int) = ((232792560 / x.p : Nat) : Int) := by rw [Int.tdiv_eq_ediv_of_nonneg (by decide)]; simp
        have e2 : 232792560 / x.p ≤ 232792560 := Nat.div_le_self _ _
        have e3 : IntKind.u64.wrap ((232792560 / x.p : Nat) : Int) = ((232792560 / x.p : Nat) : Int) := by
          generalize 232792560 / x.p = q at e2
          exact wrapU _ (by omega) (by omega)
        have e : (asks x : Int) = (x.b : Int) * ((232792560 / x.p : Nat) : Int) := by unfold asks; simp
        rw [e1, e3, ← e]
        exact wrapU _ (by omega) (by omega)
      have hw : IntKind.u64.wrap ((sumOf (L.take j) : Int) + (asks x : Int)) = (sumOf (L.take (j + 1)) : Int) := by
        rw [hs] at hle ⊢
        rw [wrapU _ (by omega) (by omega)]
        simp
      have HW := veil hw
      have hw' : ((sumOf (L.take j) : Int) + (asks x : Int)) % 18446744073709551616 = (sumOf (L.take (j + 1)) : Int) := by
        rw [hs] at hle ⊢
        push_cast
        omega
      have HB := veil hbel
      clear hc hbel hs hle hok ha hR
      go_wp2
      go_region_held3 (fun w' => w'.cell? ⟨s, 1, none⟩ = some (.slice (some ⟨g, 0, none⟩) L.length cap) ∧ w'.cell? ⟨g, j * 5, none⟩ = some (.int .u64 (x.b : Int)) ∧ w'.cell? ⟨g, j * 5 + 1, none⟩ = some (.int .u64 (x.p : Int)))
        (first | with_reducible exact ⟨c1', y0, y1⟩ | go_keep)
        (fail)
      go_wp2
      go_roundw
      case rel => exact ⟨j + 1, by omega, by go_num, by first | rfl | simp [HW.out], HB.out.drew⟩
      case measure => simp [intOf]; omega
    · have hjl' : ¬ (j : Int) < (L.length : Int) := by omega
      obtain rfl : j = L.length := by omega
      have HB := veil hbel
      clear hbel hR
      go_wp2
      go_ret
      exact ⟨by simp, HB.out⟩
end
end Go.Proofs.Ytblickncecpajaa
