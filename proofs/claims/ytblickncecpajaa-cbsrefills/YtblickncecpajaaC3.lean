/- The program's walks: has, at, what is left, Len, filled. -/
import Derived.Test.YtblickncecpajaaC2
namespace Go.Proofs.Ytblickncecpajaa
open Go.RowKit Go.Lib
theorem add_ok (a b : Nat) (w : World) (ha : a < 18446744073709551616) (hb : b < 18446744073709551616) :
    Calls Try.prog 49 #[.int .u64 (a : Int), .int .u64 (b : Int)] w fun e w' => e = .returned (.int .u64 (addN a b : Int)) ∧ w' = w := by
  unfold addN
  by_cases h : a + b ≤ 18446744073709551615
  · rw [if_pos h]
    have h' : ¬ (18446744073709551615 : Int) - b < a := by omega
    go_enter Try.func49, Try.ntmps49
    go_wp2
    go_ret
    exact ⟨by simp, rfl⟩
  · rw [if_neg h]
    have h' : (18446744073709551615 : Int) - b < a := by omega
    go_enter Try.func49, Try.ntmps49
    go_wp2
    go_ret
    exact ⟨rfl, rfl⟩
theorem filled_ok (w : World) (x : Srv) (now : Nat) (hx : x.ok) (hn : now < 18446744073709551616) : Calls Try.prog 39 #[.agg #[.int .u64 (x.b : Int), .int .u64 (x.p : Int), .int .u64 (x.l : Int), .int .u64 (x.d : Int)], .int .u64 (now : Int)] w fun e w' => e = .returned (.agg #[.int .u64 ((fillS x now).b : Int), .int .u64 ((fillS x now).p : Int), .int .u64 ((fillS x now).l : Int), .int .u64 ((fillS x now).d : Int)]) ∧ ∃ c c', w' = ((w.alloc (.cells c 69)).alloc (.cells c' 69)).drew := by
  have HA := veil (fun w => add_ok now x.p w hn (by have := hx.le; omega))
  go_enter Try.func39, Try.ntmps39
  go_wp2
  go_region_held3 (fun w' => w'.cell? ⟨w.heap.size, 0, none⟩ = some (.int .u64 (x.b : Int)) ∧ w'.cell? ⟨w.heap.size, 1, none⟩ = some (.int .u64 (x.p : Int)))
    (first | simp [go_sem] | simp [go_sem, World.cell?_alloc_past])
    (first | (go_at_call 49; refine (HA.out _).mono ?_; rintro e w1 ⟨rfl, rfl⟩))
  go_wp2
  simp [bodyPost, results, Try.results39, go_sem, fillS]
  exact ⟨_, _, rfl⟩
section
variable {w : World} {base s P : Nat} {v : Value} {L : List Srv}
theorem has_ok (h : Pep w base s P v L) (i : Int) : Calls Try.prog 37 #[.pointer (some ⟨s, 0, none⟩), .int .i64 i] w fun e w' => e = .returned (.bool (decide (0 ≤ i ∧ i < (L.length : Int)))) ∧ w' = w := by
  obtain ⟨a, cap, rfl, _, _⟩ := h.form
  have c1 := h.c1
  clear h
  by_cases h0 : 0 ≤ i
  · go_enter Try.func37, Try.ntmps37
    go_wp2
    go_ret
    exact ⟨by simp [h0], rfl⟩
  · go_enter Try.func37, Try.ntmps37
    go_wp2
    go_ret
    exact ⟨by simp; omega, rfl⟩
theorem len_ok (h : Pep w base s P v L) : Calls Try.prog 20 #[.pointer (some ⟨s, 0, none⟩)] w fun e w' => e = .returned (.int .i64 (L.length : Int)) ∧ w' = w := by
  obtain ⟨a, cap, rfl, _, _⟩ := h.form
  have c1 := h.c1
  clear h
  go_enter Try.func20, Try.ntmps20
  go_wp2
  go_ret
  exact ⟨rfl, rfl⟩
/-- The i-th, or zeros. -/
def atL (L : List Srv) (i : Int) : Srv := if 0 ≤ i ∧ i < (L.length : Int) then (L[i.toNat]?).getD ⟨0, 0, 0, 0⟩ else ⟨0, 0, 0, 0⟩
theorem at_ok (h : Pep w base s P v L) (i : Int) : Calls Try.prog 41 #[.pointer (some ⟨s, 0, none⟩), .int .i64 i] w fun e w' => e = .returned (.agg #[.int .u64 ((atL L i).b : Int), .int .u64 ((atL L i).p : Int), .int .u64 ((atL L i).l : Int), .int .u64 ((atL L i).d : Int)]) ∧ ∃ c, w' = w.alloc (.cells c 69) := by
  unfold atL
  by_cases hi : 0 ≤ i ∧ i < (L.length : Int)
  · rw [if_pos hi]
    obtain ⟨k, rfl⟩ : ∃ k : Nat, i = k := ⟨i.toNat, by omega⟩
    have hk : k < L.length := by omega
    obtain ⟨x, hx⟩ : ∃ x, L[k]? = some x := ⟨_, List.getElem?_eq_getElem hk⟩
    have HH := veil (fun w' (hb : Below w.heap.size w w') => has_ok (h.below hb) (k : Int))
    simp only [decide_eq_true hi] at HH
    obtain ⟨g, cap, rfl, hc1, hc2, hg, hgs, _, hc⟩ := h.cells (by omega)
    obtain ⟨y0, y1, y2, y3⟩ := hc k x hx
    have c1 := h.c1
    have hs := h.lt
    simp only [Int.toNat_natCast, hx, Option.getD_some]
    clear h hc hi
    go_enter Try.func41, Try.ntmps41
    go_wp2_with (go_at_call 37; refine (HH.out _ ((Below.refl _ _).alloc (Nat.le_refl _) _)).mono ?_; rintro e w1 ⟨rfl, hw⟩; subst hw)
    simp [bodyPost, results, Try.results41, go_sem]
    exact ⟨_, rfl⟩
  · rw [if_neg hi]
    have HH := veil (fun w' (hb : Below w.heap.size w w') => has_ok (h.below hb) i)
    simp only [decide_eq_false hi] at HH
    clear h hi
    go_enter Try.func41, Try.ntmps41
    go_wp2_with (go_at_call 37; refine (HH.out _ ((Below.refl _ _).alloc (Nat.le_refl _) _)).mono ?_; rintro e w1 ⟨rfl, hw⟩; subst hw)
    simp [bodyPost, results, Try.results41, go_sem]
    exact ⟨_, rfl⟩
end
end Go.Proofs.Ytblickncecpajaa
