/- The walk of Fork. -/
import Derived.Test.YtjmbadadelelfaaWb7
import Derived.Deep.AppendLies
import Derived.Shelf.SlMaps.Clone
namespace Go.Proofs.Ytjmbadadelelfaa
open Go.RowKit
set_option linter.unusedVariables false
set_option linter.unusedSimpArgs false
attribute [local go_sem ↓] Go.wp_at_zero Go.wp_at_succ
/-- The cells of a wheel's block, and of its entries. -/
def whRow (nw : Nat) (F L : Nat → Nat) (m s : Value) (c : Nat) : List Value := Value.int .u64 (nw : Int) :: (slotRow F L ++ [m, s, .int .i64 (c : Int)])
def entRow (A B E : Nat → Nat) (T : Nat → Bool) (n : Nat) : List Value := (List.range (n * 4)).map (fun j => if j % 4 = 0 then Value.int .i64 (A (j / 4) : Int) else if j % 4 = 1 then .int .i64 (B (j / 4) : Int) else if j % 4 = 2 then .int .u64 (E (j / 4) : Int) else .bool (T (j / 4)))
section
variable {nw c n : Nat} {F L A B E : Nat → Nat} {T : Nat → Bool} {m s : Value}
theorem whRow_len : (whRow nw F L m s c).length = 132 := by unfold whRow; simp [slotRow_len]
theorem whRow_slot (i : Nat) (h : i < 128) : (whRow nw F L m s c)[1 + i]? = (slotRow F L)[i]? := by
  unfold whRow
  rw [show 1 + i = i + 1 by omega, List.getElem?_cons_succ, List.getElem?_append_left (by rw [slotRow_len]; exact h)]
theorem whRow_hi (i : Nat) : (whRow nw F L m s c)[129 + i]? = ([m, s, .int .i64 (c : Int)] : List Value)[i]? := by
  unfold whRow
  rw [show 129 + i = (128 + i) + 1 by omega, List.getElem?_cons_succ, List.getElem?_append_right (by rw [slotRow_len]; omega), slotRow_len, show 128 + i - 128 = i by omega]
theorem whRow_one (h1 : m.oneCell' = true) (h2 : s.oneCell' = true) : ∀ v ∈ whRow nw F L m s c, v.oneCell' = true := by
  intro v hv
  unfold whRow at hv
  rcases List.mem_cons.1 hv with rfl | hv
  · rfl
  · rcases List.mem_append.1 hv with hv | hv
    · unfold slotRow at hv
      obtain ⟨i, _, rfl⟩ := List.mem_map.1 hv
      split <;> rfl
    · simp at hv
      rcases hv with rfl | rfl | rfl <;> first | rfl | assumption
theorem entRow_len : (entRow A B E T n).length = n * 4 := by unfold entRow; simp
theorem entRow_at (x : Nat) (h : x < n) : (entRow A B E T n)[x * 4]? = some (.int .i64 (A x : Int)) ∧ (entRow A B E T n)[x * 4 + 1]? = some (.int .i64 (B x : Int)) ∧ (entRow A B E T n)[x * 4 + 2]? = some (.int .u64 (E x : Int)) ∧ (entRow A B E T n)[x * 4 + 3]? = some (.bool (T x)) := by
  unfold entRow
  refine ⟨?_, ?_, ?_, ?_⟩ <;> rw [List.getElem?_map, List.getElem?_range (by omega)]
  · simp
  · simp [show (x * 4 + 1) % 4 = 1 by omega, show (x * 4 + 1) / 4 = x by omega]
  · simp [show (x * 4 + 2) % 4 = 2 by omega, show (x * 4 + 2) / 4 = x by omega]
  · simp [show (x * 4 + 3) % 4 = 3 by omega, show (x * 4 + 3) / 4 = x by omega]
theorem entRow_one : ∀ v ∈ entRow A B E T n, v.oneCell' = true := by
  intro v hv
  unfold entRow at hv
  obtain ⟨i, _, rfl⟩ := List.mem_map.1 hv
  split
  · rfl
  · split
    · rfl
    · split <;> rfl
end
section
variable {w : World} {b g n nw ct : Nat} {fm : Value} {F L A B E : Nat → Nat} {T : Nat → Bool}
theorem wh_range {cp : Nat} (h : Rep w b g n nw ct fm F L A B E T) (hs : w.cell? ⟨b, 130, none⟩ = some (.slice (some ⟨g, 0, none⟩) (n + 1) cp)) : w.rangeAt b 0 (whRow nw F L fm (.slice (some ⟨g, 0, none⟩) (n + 1) cp) ct) := by
  intro j v hv
  have hj : j < 132 := by have := (List.getElem?_eq_some_iff.1 hv).1; rwa [whRow_len] at this
  rw [Nat.zero_add, ← hv]
  by_cases h0 : j = 0
  · subst h0; exact h.tn
  · by_cases h1 : j < 129
    · obtain ⟨i, rfl⟩ : ∃ i, j = 1 + i := ⟨j - 1, by omega⟩
      rw [whRow_slot i (by omega)]
      by_cases e : i % 2 = 0
      · obtain ⟨q, rfl⟩ : ∃ q, i = q * 2 := ⟨i / 2, by omega⟩
        rw [slotRow_F F L q (by omega)]; exact h.sf q (by omega)
      · obtain ⟨q, rfl⟩ : ∃ q, i = q * 2 + 1 := ⟨i / 2, by omega⟩
        rw [slotRow_L F L q (by omega), show 1 + (q * 2 + 1) = 1 + q * 2 + 1 by omega]; exact h.sl q (by omega)
    · obtain ⟨i, rfl⟩ : ∃ i, j = 129 + i := ⟨j - 129, by omega⟩
      rw [whRow_hi]
      have : i = 0 ∨ i = 1 ∨ i = 2 := by omega
      rcases this with rfl | rfl | rfl
      · exact h.tm
      · exact hs
      · exact h.tc
theorem ent_cells (h : Rep w b g n nw ct fm F L A B E T) : ∀ j u, (entRow A B E T (n + 1))[j]? = some u → w.cell? ((⟨g, 0, none⟩ : Addr).add j) = some u := by
  intro j u hu
  have hj : j < (entRow A B E T (n + 1)).length := (List.getElem?_eq_some_iff.1 hu).1
  rw [entRow_len] at hj
  have hadd : (⟨g, 0, none⟩ : Addr).add j = ⟨g, j, none⟩ := by unfold Addr.add; split <;> simp_all
  rw [hadd, ← hu]
  obtain ⟨a1, a2, a3, a4⟩ := entRow_at (A := A) (B := B) (E := E) (T := T) (n := n + 1) (j / 4) (by omega)
  have hm : j = j / 4 * 4 ∨ j = j / 4 * 4 + 1 ∨ j = j / 4 * 4 + 2 ∨ j = j / 4 * 4 + 3 := by omega
  rcases hm with e | e | e | e
  · rw [e, a1]; exact h.ea (j / 4) (by omega)
  · rw [e, a2]; exact h.eb (j / 4) (by omega)
  · rw [e, a3]; exact h.ee (j / 4) (by omega)
  · rw [e, a4]; exact h.et (j / 4) (by omega)
end
theorem infoWheel : (Try.prog.info? 74).map (·.size) = some 132 := by kernel_rfl
theorem eq_nil_no (w : World) (g n cp : Nat) : (binOp BinOp.eql 72 (.slice (some ⟨g, 0, none⟩) n cp) (.slice none 0 0)).run Try.prog w = .ok (.bool false) w := by kernel_rfl
set_option maxHeartbeats 2000000 in
theorem clone_ent (w : World) (g n cp : Nat) (xs : List Value) (hn : n ≤ 1024) (hl : xs.length = (n + 1) * 4) (hc : ∀ j u, xs[j]? = some u → w.cell? ((⟨g, 0, none⟩ : Addr).add j) = some u) (h1 : ∀ u ∈ xs, u.oneCell' = true) (hg : g < w.heap.size) :
    Calls Try.prog 39 #[.slice (some ⟨g, 0, none⟩) (n + 1) cp] w fun e w' => ∃ g' cap', e = .returned (.slice (some ⟨g', 0, none⟩) (n + 1) cap') ∧ w.heap.size ≤ g' ∧ w'.ownsRow w.heap.size 78 4 (.slice (some ⟨g', 0, none⟩) (n + 1) cap') (n + 1) xs ∧ Below w.heap.size w w' := by
  obtain ⟨i0, hi, hz0, hz1, hz2⟩ := info_parts infoEntry
  have HC : Hid (∀ j u, xs[j]? = some u → (w.alloc (.cells #[] 78)).cell? ((⟨g, 0, none⟩ : Addr).add j) = some u) := by
    intro j u hu
    have hadd : (⟨g, 0, none⟩ : Addr).add j = ⟨g, j, none⟩ := by unfold Addr.add; split <;> simp_all
    have := hc j u hu
    rw [hadd] at this ⊢
    rw [World.cell?_alloc_lt _ _ _ (by simpa using hg)]
    exact this
  have HL : Hid ((w.alloc (.cells #[] 78)).ownsRow w.heap.size 78 4 (.slice (some ⟨w.heap.size, 0, none⟩) 0 0) 0 []) := by
    have := World.ownsRow_lit (base := w.heap.size) (e := 78) (size := 4) w #[] 0 (Nat.le_refl _) (by simp [maxLen]) rfl
    exact this
  have H1 := veil h1
  have hnil := fun w => eq_nil_no w g (n + 1) cp
  clear hc h1
  go_enter Try.func39, Try.ntmps39
  go_wp2_with (at_builtin; refine wpList_append_lies _ rfl _ _ 72 rfl w.heap.size 78 i0 entryZero 4 32 Try.underlying72 hi hz0 hz1 hz2 rfl (by omega) _ 0 [] (by rfl) HL.out ⟨g, 0, none⟩ (n + 1) cp xs (by rfl) hl HC.out H1.out (by omega) (by unfold maxLen; omega) (by omega) (by simp) _ rfl ?_; intro g' cap' w1 hown hgrow hat hlt; have HO := veil hown; have HG := veil hgrow; clear hown hgrow hat hlt)
  go_ret
  refine ⟨g', cap', by simp, (HO.out.lt g' rfl).1, by simpa using HO.out, ?_⟩
  exact ((Below.refl _ _).alloc (Nat.le_refl _) _).grown HG.out (by simp) (fun k hk => by simp [Value.ownBlock] at hk; omega)
theorem setCells_fr (b : Nat) : ∀ (vs : List Value) (o : Nat) (w : World), Fr (fun k => k = b) w (w.setCells b o vs) ∧ (w.setCells b o vs).heap.size = w.heap.size
  | [], _, w => ⟨Fr.refl _ _, rfl⟩
  | v :: r, o, w => by
    obtain ⟨h1, h2⟩ := setCells_fr b r (o + 1) (w.setCell ⟨b, o, none⟩ v)
    exact ⟨(Fr.setCell (S := fun k => k = b) (a := ⟨b, o, none⟩) (Fr.refl _ _) rfl v).trans h1, h2.trans (by simp)⟩
theorem zero_there (w : World) : (w.alloc (.cells zeroCells 74)).there w.heap.size 0 132 := by
  intro j hj
  rw [Nat.zero_add, cell_new]
  refine ⟨?_, frozen_new _ _ _ _⟩
  rw [Array.getElem?_eq_getElem (by rw [zero_size]; exact hj)]
  rfl
/-- A world whose new block bears the cells of a wheel's. -/
theorem copy_world (w : World) (xs : List Value) (hl : xs.length = 132) : ∃ W1, (w.alloc (.cells zeroCells 74)).setCells w.heap.size 0 xs.toArray.toList = W1 ∧ W1.heap.size = w.heap.size + 1 ∧ Below w.heap.size w W1 ∧ (∀ j, j < 132 → W1.cell? ⟨w.heap.size, j, none⟩ = xs[j]?) ∧ ∀ j, W1.frozen? ⟨w.heap.size, j, none⟩ = false := by
  refine ⟨_, rfl, ?_, ?_, fun j hj => ?_, fun j => ?_⟩
  · rw [(setCells_fr _ _ _ _).2]; simp
  · have := (setCells_fr w.heap.size xs.toArray.toList 0 (w.alloc (.cells zeroCells 74))).1
    exact ((Below.refl _ _).alloc (Nat.le_refl _) _).trans (this.below (by simp) (fun k q => by omega))
  · have hin := World.rangeAt_setCells_same (w.alloc (.cells zeroCells 74)) w.heap.size 0 xs (by rw [hl]; exact zero_there w)
    have := hin j (xs[j]'(by omega)) (List.getElem?_eq_getElem _)
    rw [Nat.zero_add] at this
    rw [List.getElem?_eq_getElem (by omega)]
    exact this
  · rw [World.frozen?_setCells]
    exact frozen_new _ _ _ _
end Go.Proofs.Ytjmbadadelelfaa
