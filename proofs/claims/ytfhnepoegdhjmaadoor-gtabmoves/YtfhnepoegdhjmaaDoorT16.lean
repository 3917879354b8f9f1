/-
  The walks of Fork, of both tables.
-/
import Derived.Test.YtfhnepoegdhjmaaDoorT14
namespace Go.Proofs.YtfhnepoegdhjmaaDoor
open Go.RowKit Go.Lib
set_option linter.unusedVariables false
attribute [local go_sem ↓] Go.wp_at_zero Go.wp_at_succ

/-- The cells of the slots. -/
def slotRow (G S : Nat → Nat) : Nat → List Value
  | 0 => []
  | k + 1 => slotRow G S k ++ [.int .u32 (G k : Int), .int .i64 (S k : Int)]
theorem slotRow_len (G S : Nat → Nat) : ∀ k, (slotRow G S k).length = k * 2
  | 0 => rfl
  | k + 1 => by rw [slotRow, List.length_append, slotRow_len G S k]; simp; omega
theorem slotRow_one (G S : Nat → Nat) : ∀ k, ∀ u ∈ slotRow G S k, u.oneCell' = true
  | 0 => by simp [slotRow]
  | k + 1 => by
    intro u hu
    rw [slotRow, List.mem_append] at hu
    rcases hu with q | q
    · exact slotRow_one G S k u q
    · simp at q
      rcases q with rfl | rfl <;> rfl
theorem slotRow_at (G S : Nat → Nat) (x : Nat) : ∀ k, x < k → (slotRow G S k)[x * 2]? = some (.int .u32 (G x : Int)) ∧ (slotRow G S k)[x * 2 + 1]? = some (.int .i64 (S x : Int))
  | 0, h => by omega
  | k + 1, h => by
    have hl := slotRow_len G S k
    by_cases e : x = k
    · subst e
      rw [slotRow]
      refine ⟨?_, ?_⟩ <;> rw [List.getElem?_append_right (by omega), hl]
      · rw [show x * 2 - x * 2 = 0 by omega]; rfl
      · rw [show x * 2 + 1 - x * 2 = 1 by omega]; rfl
    · obtain ⟨a1, a2⟩ := slotRow_at G S x k (by omega)
      rw [slotRow]
      refine ⟨?_, ?_⟩ <;> rw [List.getElem?_append_left (by omega)] <;> assumption
theorem slotRow_cells {w : World} {b g n : Nat} {G S : Nat → Nat} (h : Rep w b g n G S) : ∀ j u, (slotRow G S n)[j]? = some u → w.cell? ((⟨g, 0, none⟩ : Addr).add j) = some u := by
  intro j u hu
  have hj : j < (slotRow G S n).length := (List.getElem?_eq_some_iff.1 hu).1
  rw [slotRow_len] at hj
  have hadd : (⟨g, 0, none⟩ : Addr).add j = ⟨g, j, none⟩ := by unfold Addr.add; split <;> simp_all
  rw [hadd, ← hu]
  obtain ⟨a1, a2⟩ := slotRow_at G S (j / 2) n (by omega)
  have hm : j = j / 2 * 2 ∨ j = j / 2 * 2 + 1 := by omega
  rcases hm with e | e
  · rw [e, a1]; exact h.gn (j / 2) (by omega)
  · rw [e, a2]; exact h.st (j / 2) (by omega)

theorem eq_nil_no (w : World) (g n cp : Nat) : (binOp BinOp.eql 66 (.slice (some ⟨g, 0, none⟩) n cp) (.slice none 0 0)).run Tryd.prog w = .ok (.bool false) w := by kernel_rfl
set_option maxHeartbeats 2000000 in
theorem clone_ok (w : World) (g n cp : Nat) (xs : List Value) (hn1 : 1 ≤ n) (hn : n ≤ 1024) (hl : xs.length = n * 2) (hc : ∀ j u, xs[j]? = some u → w.cell? ((⟨g, 0, none⟩ : Addr).add j) = some u) (h1 : ∀ u ∈ xs, u.oneCell' = true) (hg : g < w.heap.size) :
    Calls Tryd.prog 34 #[.slice (some ⟨g, 0, none⟩) n cp] w fun e w' => ∃ g' cap', e = .returned (.slice (some ⟨g', 0, none⟩) n cap') ∧ w.heap.size ≤ g' ∧ w'.ownsRow w.heap.size 65 2 (.slice (some ⟨g', 0, none⟩) n cap') n xs ∧ Below w.heap.size w w' := by
  obtain ⟨i0, hi, hz0, hz1, hz2⟩ := info_parts infoSlot
  have HC : Hid (∀ j u, xs[j]? = some u → (w.alloc (.cells #[] 65)).cell? ((⟨g, 0, none⟩ : Addr).add j) = some u) := by
    intro j u hu
    have hadd : (⟨g, 0, none⟩ : Addr).add j = ⟨g, j, none⟩ := by unfold Addr.add; split <;> simp_all
    have := hc j u hu
    rw [hadd] at this ⊢
    rw [World.cell?_alloc_lt _ _ _ (by simpa using hg)]
    exact this
  have HL : Hid ((w.alloc (.cells #[] 65)).ownsRow w.heap.size 65 2 (.slice (some ⟨w.heap.size, 0, none⟩) 0 0) 0 []) := by
    have := World.ownsRow_lit (base := w.heap.size) (e := 65) (size := 2) w #[] 0 (Nat.le_refl _) (by simp [maxLen]) rfl
    exact this
  have H1 := veil h1
  have hnil := fun w => eq_nil_no w g n cp
  clear hc h1
  go_enter Tryd.func34, Tryd.ntmps34
  go_wp2_with (at_builtin; refine wpList_append_lies _ rfl _ _ 66 rfl w.heap.size 65 i0 slotZero 2 16 Tryd.underlying66 hi hz0 hz1 hz2 rfl (by omega) _ 0 [] (by rfl) HL.out ⟨g, 0, none⟩ n cp xs (by rfl) hl HC.out H1.out (by omega) (by unfold maxLen; omega) (by omega) (by simp) _ rfl ?_; intro g' cap' w1 hown hgrow hat hlt; have HO := veil hown; have HG := veil hgrow; clear hown hgrow hat hlt)
  go_ret
  refine ⟨g', cap', by simp, (HO.out.lt g' rfl).1, by simpa using HO.out, ?_⟩
  exact ((Below.refl _ _).alloc (Nat.le_refl _) _).grown HG.out (by simp) (fun k hk => by simp [Value.ownBlock] at hk; omega)

set_option maxHeartbeats 2000000 in
theorem fork_ok {w : World} {b g n : Nat} {G S : Nat → Nat} (h : Rep w b g n G S) :
    Calls Tryd.prog 21 #[.pointer (some ⟨b, 0, none⟩)] w fun e w' => ∃ b' g', e = .returned (.pointer (some ⟨b', 0, none⟩)) ∧ w.heap.size ≤ b' ∧ w.heap.size ≤ g' ∧ Rep w' b' g' n G S ∧ Below w.heap.size w w' := by
  obtain ⟨cp, e0⟩ := h.sl
  have HC := veil (fun w' (hb : Below w.heap.size w w') => clone_ok w' g n cp (slotRow G S n) h.n1 h.n2 (slotRow_len G S n) (slotRow_cells (h.below hb)) (slotRow_one G S n) (Nat.lt_of_lt_of_le h.lt_g hb.size))
  have HF : Hid (∀ (w1 : World) (g' cap' : Nat), w.heap.size ≤ g' → w1.ownsRow w.heap.size 65 2 (.slice (some ⟨g', 0, none⟩) n cap') n (slotRow G S n) → Below w.heap.size w w1 →
      Rep (w1.alloc (.cells #[.slice (some ⟨g', 0, none⟩) n cap'] 68)) w1.heap.size g' n G S ∧ Below w.heap.size w (w1.alloc (.cells #[.slice (some ⟨g', 0, none⟩) n cap'] 68))) := by
    intro w1 g' cap' hg' ho hb
    have hlt := (ho.lt g' rfl).2
    refine ⟨⟨h.n1, h.n2, by omega, ⟨cap', by rw [cell_new]; rfl⟩, fun x hx => ?_, fun x hx => ?_, fun o => ?_⟩, hb.alloc hb.size _⟩
    · rw [World.cell?_alloc_lt _ _ _ (by simpa using hlt), ho.cellAt (x * 2) (by omega)]
      exact (slotRow_at G S x n hx).1
    · rw [World.cell?_alloc_lt _ _ _ (by simpa using hlt), ho.cellAt (x * 2 + 1) (by omega)]
      exact (slotRow_at G S x n hx).2
    · rw [World.frozen?_of_block (Below.heap_alloc _ _ _ (by simpa using hlt))]; exact ho.frozenAt o
  clear h
  go_enter Tryd.func21, Tryd.ntmps21
  go_wp2_with (go_at_call 34; refine (HC.out _ (Below.refl _ _)).mono ?_; rintro e w1 ⟨g', cap', rfl, hg', ho, hb⟩; have HX := veil (HF.out _ _ _ hg' ho hb); have hsz := hb.size; clear ho hb)
  go_ret
  exact ⟨_, g', rfl, by omega, hg', HX.out.1, HX.out.2⟩
end Go.Proofs.YtfhnepoegdhjmaaDoor
