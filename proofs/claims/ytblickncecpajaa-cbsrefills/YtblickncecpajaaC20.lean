/- The document's walks: New, has, Len, Left, Deadline, Active, Sum. -/
import Derived.Test.YtblickncecpajaaC16
import Derived.Test.YtblickncecpajaaC9
namespace Go.Proofs.Ytblickncecpajaa
open Go.RowKit Go.Lib
theorem radd_ok (a b : Nat) (w : World) (ha : a < 18446744073709551616) (hb : b < 18446744073709551616) :
    Calls Try.prog 53 #[.int .u64 (a : Int), .int .u64 (b : Int)] w fun e w' => e = .returned (.int .u64 (addN a b : Int)) ∧ w' = w := by
  unfold addN
  by_cases h : a + b ≤ 18446744073709551615
  · rw [if_pos h]
    have h' : ¬ (18446744073709551615 : Int) - a < b := by omega
    go_enter Try.func53, Try.ntmps53
    go_wp2
    go_ret
    exact ⟨by simp, rfl⟩
  · rw [if_neg h]
    have h' : (18446744073709551615 : Int) - a < b := by omega
    go_enter Try.func53, Try.ntmps53
    go_wp2
    go_ret
    exact ⟨rfl, rfl⟩
theorem rnew_ok (w : World) (P : Nat) (h1 : 1 ≤ P) (h2 : P ≤ 64) : Calls Try.prog 28 #[.int .i64 (P : Int)] w fun e w' => e = .returned (.pointer (some ⟨w.heap.size, 0, none⟩)) ∧ w' = w.alloc (.cells #[.int .i64 (P : Int), .slice none 0 0] 79) := by
  have g1 : ¬ (P : Int) < 1 := by omega
  have g2 : ¬ (64 : Int) < (P : Int) := by omega
  go_enter Try.func28, Try.ntmps28
  go_wp2
  go_ret
  exact ⟨rfl, rfl⟩
theorem Rep.new (w : World) (P : Nat) (h1 : 1 ≤ P) (h2 : P ≤ 64) (base : Nat) (hb : base ≤ w.heap.size) : Rep (w.alloc (.cells #[.int .i64 (P : Int), .slice none 0 0] 79)) base w.heap.size P (.slice none 0 0) [] :=
  ⟨(MapKept.heap_alloc w _).1, World.ownsRow_nil _ _ _ _, by simp; omega, h1, h2, by simp, by simp⟩
section
variable {w : World} {base s P : Nat} {v : Value} {L : List Srv}
theorem Rep.one {g cap : Nat} (h : Rep w base s P (.slice (some ⟨g, 0, none⟩) L.length cap) L) {k : Nat} {x : Srv} (hx : L[k]? = some x) :
    w.cell? ⟨s, 1, none⟩ = some (.slice (some ⟨g, 0, none⟩) L.length cap) ∧ w.cell? ⟨g, k * 5, none⟩ = some (.int .u64 (x.b : Int)) ∧ w.cell? ⟨g, k * 5 + 1, none⟩ = some (.int .u64 (x.p : Int)) ∧ w.cell? ⟨g, k * 5 + 2, none⟩ = some (.int .u64 (x.l : Int)) ∧ w.cell? ⟨g, k * 5 + 3, none⟩ = some (.int .u64 (x.d : Int)) ∧ w.cell? ⟨g, k * 5 + 4, none⟩ = some (.bool (x.d == 0)) ∧ ∀ j, w.frozen? ⟨g, j, none⟩ = false := by
  have hk : k < L.length := (List.getElem?_eq_some_iff.1 hx).1
  obtain ⟨g', cap', e, _, _, _, _, hf, hc⟩ := h.cells (by omega)
  simp at e
  obtain ⟨rfl, rfl⟩ := e
  obtain ⟨y0, y1, y2, y3, y4⟩ := hc k x hx
  exact ⟨h.c1, y0, y1, y2, y3, y4, hf⟩
theorem rhas_ok (h : Rep w base s P v L) (i : Int) : Calls Try.prog 48 #[.pointer (some ⟨s, 0, none⟩), .int .i64 i] w fun e w' => e = .returned (.bool (inL L i)) ∧ w' = w := by
  obtain ⟨a, cap, rfl, _, _⟩ := h.form
  have c1 := h.c1
  clear h
  unfold inL
  by_cases h0 : 0 ≤ i
  · go_enter Try.func48, Try.ntmps48
    go_wp2
    go_ret
    exact ⟨by simp [h0], rfl⟩
  · go_enter Try.func48, Try.ntmps48
    go_wp2
    go_ret
    exact ⟨by simp; omega, rfl⟩
theorem rlen_ok (h : Rep w base s P v L) : Calls Try.prog 29 #[.pointer (some ⟨s, 0, none⟩)] w fun e w' => e = .returned (.int .i64 (L.length : Int)) ∧ w' = w := by
  obtain ⟨a, cap, rfl, _, _⟩ := h.form
  have c1 := h.c1
  clear h
  go_enter Try.func29, Try.ntmps29
  go_wp2
  go_ret
  exact ⟨rfl, rfl⟩
theorem rleft_ok (h : Rep w base s P v L) (i : Int) : Calls Try.prog 30 #[.pointer (some ⟨s, 0, none⟩), .int .i64 i] w fun e w' => e = .returned (.int .u64 ((atL L i).l : Int)) ∧ w' = w := by
  have HH := veil (rhas_ok h i)
  rcases inL_cases L i with ⟨h0, h1⟩ | ⟨k, x, rfl, hx⟩
  · rw [h0] at HH
    have e : atL L i = ⟨0, 0, 0, 0⟩ := by unfold atL; rw [if_neg h1]
    rw [e]
    clear h
    go_enter Try.func30, Try.ntmps30
    go_wp2_with (go_at_call 48; refine (HH.out).mono ?_; rintro e w1 ⟨rfl, hw⟩; subst hw)
    go_ret
    exact ⟨rfl, rfl⟩
  · obtain ⟨e1, e2⟩ := atL_some hx
    rw [e2] at HH
    rw [e1]
    have hk : k < L.length := (List.getElem?_eq_some_iff.1 hx).1
    obtain ⟨g, cap, rfl, hc1, hc2, hg, hgs, hfz, hcc⟩ := h.cells (by omega)
    clear hfz hcc
    obtain ⟨c1, y0, y1, y2, y3, y4, _⟩ := h.one hx
    clear h hx e1 e2
    go_enter Try.func30, Try.ntmps30
    go_wp2_with (go_at_call 48; refine (HH.out).mono ?_; rintro e w1 ⟨rfl, hw⟩; replace hw := hw.symm; subst hw)
    go_ret
    exact ⟨rfl, rfl⟩
theorem rdeadline_ok (h : Rep w base s P v L) (i : Int) : Calls Try.prog 31 #[.pointer (some ⟨s, 0, none⟩), .int .i64 i] w fun e w' => e = .returned (.int .u64 ((atL L i).d : Int)) ∧ w' = w := by
  have HH := veil (rhas_ok h i)
  rcases inL_cases L i with ⟨h0, h1⟩ | ⟨k, x, rfl, hx⟩
  · rw [h0] at HH
    have e : atL L i = ⟨0, 0, 0, 0⟩ := by unfold atL; rw [if_neg h1]
    rw [e]
    clear h
    go_enter Try.func31, Try.ntmps31
    go_wp2_with (go_at_call 48; refine (HH.out).mono ?_; rintro e w1 ⟨rfl, hw⟩; subst hw)
    go_ret
    exact ⟨rfl, rfl⟩
  · obtain ⟨e1, e2⟩ := atL_some hx
    rw [e2] at HH
    rw [e1]
    have hk : k < L.length := (List.getElem?_eq_some_iff.1 hx).1
    obtain ⟨g, cap, rfl, hc1, hc2, hg, hgs, hfz, hcc⟩ := h.cells (by omega)
    clear hfz hcc
    obtain ⟨c1, y0, y1, y2, y3, y4, _⟩ := h.one hx
    clear h hx e1 e2
    go_enter Try.func31, Try.ntmps31
    go_wp2_with (go_at_call 48; refine (HH.out).mono ?_; rintro e w1 ⟨rfl, hw⟩; replace hw := hw.symm; subst hw)
    go_ret
    exact ⟨rfl, rfl⟩
theorem ractive_ok (h : Rep w base s P v L) (i : Int) : Calls Try.prog 32 #[.pointer (some ⟨s, 0, none⟩), .int .i64 i] w fun e w' => e = .returned (.bool (decide (0 < (atL L i).l))) ∧ w' = w := by
  have HA := veil (rleft_ok h i)
  clear h
  go_enter Try.func32, Try.ntmps32
  go_wp2_with (go_at_call 30; refine (HA.out).mono ?_; rintro e w1 ⟨rfl, hw⟩; replace hw := hw.symm; subst hw)
  go_ret
  exact ⟨by simp, rfl⟩
/-- A server anew at its place. -/
theorem Rep.put (h : Rep w base s P v L) {g cap k : Nat} (hv : v = .slice (some ⟨g, 0, none⟩) L.length cap) (hk : k < L.length) (x : Srv) (hx : x.ok) :
    Rep (((((w.setCell ⟨g, k * 5, none⟩ (.int .u64 (x.b : Int))).setCell ⟨g, k * 5 + 1, none⟩ (.int .u64 (x.p : Int))).setCell ⟨g, k * 5 + 2, none⟩ (.int .u64 (x.l : Int))).setCell ⟨g, k * 5 + 3, none⟩ (.int .u64 (x.d : Int))).setCell ⟨g, k * 5 + 4, none⟩ (.bool (x.d == 0))) base s P v (L.set k x) := by
  have hne := h.ne
  subst hv
  have hgs : ¬ s = g := fun q => hne (by rw [q]; rfl)
  have h1 := ownsRow_set (ownsRow_set (ownsRow_set (ownsRow_set (ownsRow_set h.own (k * 5) (by omega) (.int .u64 (x.b : Int))) (k * 5 + 1) (by omega) (.int .u64 (x.p : Int))) (k * 5 + 2) (by omega) (.int .u64 (x.l : Int))) (k * 5 + 3) (by omega) (.int .u64 (x.d : Int))) (k * 5 + 4) (by omega) (.bool (x.d == 0))
  rw [← rcells_set L k x hk] at h1
  refine ⟨?_, by simpa using h1, by simpa using h.bs, ⟨h.f.p1, h.f.p2, ?_, by simpa using h.f.len⟩⟩
  · rw [Below.heap_setCell _ _ _ _ hgs, Below.heap_setCell _ _ _ _ hgs, Below.heap_setCell _ _ _ _ hgs, Below.heap_setCell _ _ _ _ hgs, Below.heap_setCell _ _ _ _ hgs]
    exact h.blk
  · intro y hy
    rcases List.mem_or_eq_of_mem_set hy with q | q
    · exact h.f.all y q
    · rw [q]; exact hx
end
end Go.Proofs.Ytblickncecpajaa
