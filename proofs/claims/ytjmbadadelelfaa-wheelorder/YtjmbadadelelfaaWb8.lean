/- The walk of Fork. -/
import Derived.Test.YtjmbadadelelfaaWb7
import Derived.Deep.AppendLies
import Derived.Shelf.SlMaps.Clone
namespace Go.Proofs.Ytjmbadadelelfaa
open Go.RowKit
set_option linter.unusedVariables false
set_option linter.unusedSimpArgs false
attribute [local go_sem ↓] Go.wp_at_zero Go.wp_at_succ
/-- The cells of a wheel's block, and of its entries. -/
def whRow (nw : Nat) (F L : Nat → Nat) (m s : Value) (c : Nat) : List Value := Value.int .u64 (nw : Int) :: (slotRow F L ++ [m, s, .int .i64 (c : Int)])
def entRow (A B E : Nat → Nat) (T : Nat → Bool) (n : Nat) : List Value := (List.range (n * 4)).map (fun j => if j % 4 = 0 then Value.int .i64 (A (j / 4) : Int) else if j % 4 = 1 then .int .i64 (B (j / 4) : Int) else if j % 4 = 2 then .int .u64 (E (j / 4) : Int) else .bool (T (j / 4)))
section
variable {nw c n : Nat} {F L A B E : Nat → Nat} {T : Nat → Bool} {m s : Value}
theorem whRow_len : (whRow nw F L m s c).length = 132 := by unfold whRow; simp [slotRow_len]
theorem whRow_slot (i : Nat) (h : i < 128) : (whRow nw F L m s c)[1 + i]? = (slotRow F L)[i]? := by
  unfold whRow
  rw [show 1 + i = i + 1 by omega, List.getElem?_cons_succ, List.getElem?_append_left (by rw [slotRow_len]; exact h)]
theorem whRow_hi (i : Nat) : (whRow nw F L m s c)[129 + i]? = ([m, s, .int .i64 (c : Int)] : List Value)[i]? := by
  unfold whRow
  rw [show 129 + i = (128 + i) + 1 by omega, List.getElem?_cons_succ, List.getElem?_append_right (by rw [slotRow_len]; omega), slotRow_len, show 128 + i - 128 = i by omega]
theorem whRow_one (h1 : m.oneCell' = true) (h2 : s.oneCell' = true) : ∀ v ∈ whRow nw F L m s c, v.oneCell' = true := by
  intro v hv
  unfold whRow at hv
  rcases List.mem_cons.1 hv with rfl | hv
  · rfl
  · rcases List.mem_append.1 hv with hv | hv
    · unfold slotRow at hv
      obtain ⟨i, _, rfl⟩ := List.mem_map.1 hv
      split <;> rfl
    · simp at hv
      rcases hv with rfl | rfl | rfl <;> first | rfl | assumption
theorem entRow_len : (entRow A B E T n).length = n * 4 := by unfold entRow; simp
theorem entRow_at (x : Nat) (h : x < n) : (entRow A B E T n)[x * 4]? = some (.int .i64 (A x : Int)) ∧ (entRow A B E T n)[x * 4 + 1]? = some (.int .i64 (B x : Int)) ∧ (entRow A B E T n)[x * 4 + 2]? = some (.int .u64 (E x : Int)) ∧ (entRow A B E T n)[x * 4 + 3]? = some (.bool (T x)) := by
  unfold entRow
  refine ⟨?_, ?_, ?_, ?_⟩ <;> rw [List.getElem?_map, List.getElem?_range (by omega)]
  · simp
  · simp [show (x * 4 + 1) % 4 = 1 by omega, show (x * 4 + 1) / 4 = x by omega]
  · simp [show (x * 4 + 2) % 4 = 2 by omega, show (x * 4 + 2) / 4 = x by omega]
  · simp [show (x * 4 + 3) % 4 = 3 by omega, show (x * 4 + 3) / 4 = x by omega]
theorem entRow_one : ∀ v ∈ entRow A B E T n, v.oneCell' = true := by
  intro v hv
  unfold entRow at hv
  obtain ⟨i, _, rfl⟩ := List.mem_map.1 hv
  split
  · rfl
  · split
    · rfl
    · split <;> rfl
end
section
variable {w : World} {b g n nw ct : Nat} {fm : Value} {F L A B E : Nat → Nat} {T : Nat → Bool}
theorem wh_range {cp : Nat} (h : Rep w b g n nw ct fm F L A B E T) (hs : w.cell? ⟨b, 130, none⟩ = some (.slice (some ⟨g, 0, none⟩) (n + 1) cp)) : w.rangeAt b 0 (whRow nw F L fm (.slice (some ⟨g, 0, none⟩) (n + 1) cp) ct) := by
  intro j v hv
  have hj : j < 132 := by have := (List.getElem?_eq_some_iff.1 hv).1; rwa [whRow_len] at this
  rw [Nat.zero_add, ← hv]
  by_cases h0 : j = 0
  · subst h0; exact h.tn
  · by_cases h1 : j < 129
    · obtain ⟨i, rfl⟩ : ∃ i, j = 1 + i := ⟨j - 1, by omega⟩
      rw [whRow_slot i (by omega)]
      by_cases e : i % 2 = 0
      · obtain ⟨q, rfl⟩ : ∃ q, i = q * 2 := ⟨i / 2, by omega⟩
        rw [slotRow_F F L q (by omega)]; exact h.sf q (by omega)
      · obtain ⟨q, rfl⟩ : ∃ q, i = q * 2 + 1 := ⟨i / 2, by omega⟩
        rw [slotRow_L F L q (by omega), show 1 + (q * 2 + 1) = 1 + q * 2 + 1 by omega]; exact h.sl q (by omega)
    · obtain ⟨i, rfl⟩ : ∃ i, j = 129 + i := ⟨j - 129, by omega⟩
      rw [whRow_hi]
      have : i = 0 ∨ i = 1 ∨ i = 2 := by omega
      rcases this with rfl | rfl | rfl
      · exact h.tm
      · exact hs
      · exact h.tc
theorem ent_cells (h : Rep w b g n nw ct fm F L A B E T) : ∀ j u, (entRow A B E T (n + 1))[j]? = some u → w.cell? ((⟨g, 0, none⟩ : Addr).add j) = some u := by
  intro j u hu
  have hj : j < (entRow A B E T (n + 1)).length := (List.getElem?_eq_some_iff.1 hu).1
  rw [entRow_len] at hj
  have hadd : (⟨g, 0, none⟩ : Addr).add j = ⟨g, j, none⟩ := by unfold Addr.add; split <;> simp_all
  rw [hadd, ← hu]
  obtain ⟨a1, a2, a3, a4⟩ := entRow_at (A := A) (B := B) (E := E) (T := T) (n := n + 1) (j / 4) (by omega)
  have hm : j = j / 4 * 4 ∨ j = j / 4 * 4 + 1 ∨ j = j / 4 * 4 + 2 ∨ j = j / 4 * 4 + 3 := by omega
  rcases hm with e | e | e | e
  · rw [e, a1]; exact h.ea (j / 4) (by omega)
  · rw [e, a2]; exact h.eb (j / 4) (by omega)
  · rw [e, a3]; exact h.ee (j / 4) (by omega)
  · rw [e, a4]; exact h.et (j / 4) (by omega)
end
theorem infoWheel : (Try.prog.info? 74).map (·.size) = some 132 := by kernel_rfl
theorem eq_nil_no (w : World) (g n cp : Nat) : (binOp BinOp.eql 72 (.slice (some ⟨g, 0, none⟩) n cp) (.slice none 0 0)).run Try.prog w = .ok (.bool false) w := by kernel_rfl
set_option maxHeartbeats 2000000 in
theorem clone_ent (w : World) (g n cp : Nat) (xs : List Value) (hn : n ≤ 1024) (hl : xs.length = (n + 1) * 4) (hc : ∀ j u, xs[j]? = some u → w.cell? ((⟨g, 0, none⟩ : Addr).add j) = some u) (h1 : ∀ u ∈ xs, u.oneCell' = true) (hg : g < w.heap.size) :
    Calls Try.prog 39 #[.slice (some ⟨g, 0, none⟩) (n + 1) cp] w fun e w' => ∃ g' cap', e = .returned (.slice (some ⟨g', 0, none⟩) (n + 1) cap') ∧ w.heap.size ≤ g' ∧ w'.ownsRow w.heap.size 78 4 (.slice (some ⟨g', 0, none⟩) (n + 1) cap') (n + 1) xs ∧ Below w.heap.size w w' := by
  obtain ⟨i0, hi, hz0, hz1, hz2⟩ := info_parts infoEntry
  have HC : Hid (∀ j u, xs[j]? = some u → (w.alloc (.cells #[] 78)).cell? ((⟨g, 0, none⟩ : Addr).add j) = some u) := by
    intro j u hu
    have hadd : (⟨g, 0, none⟩ : Addr).add j = ⟨g, j, none⟩ := by unfold Addr.add; split <;> simp_all
    have := hc j u hu
    rw [hadd] at this ⊢
    rw [World.cell?_alloc_lt _ _ _ (by simpa using hg)]
    exact this
  have HL : Hid ((w.alloc (.cells #[] 78)).ownsRow w.heap.size 78 4 (.slice (some ⟨w.heap.size, 0, none⟩) 0 0) 0 []) := by
    have := World.ownsRow_lit (base := w.heap.size) (e := 78) (size := 4) w #[] 0 (Nat.le_refl _) (by simp [maxLen]) rfl
    exact this
  have H1 := veil h1
  have hnil := fun w => eq_nil_no w g (n + 1) cp
  clear hc h1
  go_enter Try.func39, Try.ntmps39
  go_wp2_with (at_builtin; refine wpList_append_lies _ rfl _ _ 72 rfl w.heap.size 78 i0 entryZero 4 32 Try.underlying72 hi hz0 hz1 hz2 rfl (by omega) _ 0 [] (by rfl) HL.out ⟨g, 0, none⟩ (n + 1) cp xs (by rfl) hl HC.out H1.out (by omega) (by unfold maxLen; omega) (by omega) (by simp) _ rfl ?_; intro g' cap' w1 hown hgrow hat hlt; have HO := veil hown; have HG := veil hgrow; clear hown hgrow hat hlt)
  go_ret
  refine ⟨g', cap', by simp, (HO.out.lt g' rfl).1, by simpa using HO.out, ?_⟩
  exact ((Below.refl _ _).alloc (Nat.le_refl _) _).grown HG.out (by simp) (fun k hk => by simp [Value.ownBlock] at hk; omega)
set_option maxRecDepth 20000 in
theorem clone_map (w : World) (b : Nat) (es : Array MapEntry) (clock : Nat) (hb : w.heap[b]? = some (.map es clock)) :
    Calls Try.prog 38 #[.map (some b)] w fun e w' => e = .returned (.map (some w.heap.size)) ∧ w' = w.alloc (.map es clock) := by
  have hq := fun w => run_eql_map_nil_sl (P := Try.prog) w 71 _ _ (some b) Try.underlying71
  go_enter Try.func38, Try.ntmps38
  go_wp2
  rw [run_callFunc_extern Try.func56 (by kernel_rfl) (by kernel_rfl) (by kernel_rfl) (e := Extern.MapsClone.clone) (by kernel_rfl), run_maps_clone_sl w 71 hb]
  simp only [Result.andThen]
  rw [Oper.upon_value]
  go_wp2
  rw [run_typeAssert_map_sl _ 71 _ _ _ _ Try.underlying71]
  simp only [Result.andThen]
  rw [Oper.upon_value]
  go_wp2
  go_ret
  exact ⟨rfl, rfl⟩
theorem cloneM {w : World} {mb s : Nat} {f : Int → Option (Nat × Nat)} (h : IsM w mb f s) :
    Calls Try.prog 38 #[.map (some mb)] w fun e w' => e = .returned (.map (some w.heap.size)) ∧ IsM w' w.heap.size f s ∧ (∃ o : Obj, w' = w.alloc o) := by
  obtain ⟨D, ⟨es, clock, h0, h1⟩, h2⟩ := h
  refine (clone_map w mb es clock h0).mono ?_
  rintro e w' ⟨rfl, rfl⟩
  exact ⟨rfl, ⟨D, ⟨es, clock, (MapKept.heap_alloc w _).1, h1⟩, h2⟩, _, rfl⟩
theorem setCells_fr (b : Nat) : ∀ (vs : List Value) (o : Nat) (w : World), Fr (fun k => k = b) w (w.setCells b o vs) ∧ (w.setCells b o vs).heap.size = w.heap.size
  | [], _, w => ⟨Fr.refl _ _, rfl⟩
  | v :: r, o, w => by
    obtain ⟨h1, h2⟩ := setCells_fr b r (o + 1) (w.setCell ⟨b, o, none⟩ v)
    exact ⟨(Fr.setCell (S := fun k => k = b) (a := ⟨b, o, none⟩) (Fr.refl _ _) rfl v).trans h1, h2.trans (by simp)⟩
theorem zero_there (w : World) : (w.alloc (.cells zeroCells 74)).there w.heap.size 0 132 := by
  intro j hj
  rw [Nat.zero_add, cell_new]
  refine ⟨?_, frozen_new _ _ _ _⟩
  rw [Array.getElem?_eq_getElem (by rw [zero_size]; exact hj)]
  rfl
/-- A world whose new block bears the cells of a wheel's. -/
theorem copy_world (w : World) (xs : List Value) (hl : xs.length = 132) : ∃ W1, (w.alloc (.cells zeroCells 74)).setCells w.heap.size 0 xs.toArray.toList = W1 ∧ W1.heap.size = w.heap.size + 1 ∧ Below w.heap.size w W1 ∧ (∀ j, j < 132 → W1.cell? ⟨w.heap.size, j, none⟩ = xs[j]?) ∧ ∀ j, W1.frozen? ⟨w.heap.size, j, none⟩ = false := by
  refine ⟨_, rfl, ?_, ?_, fun j hj => ?_, fun j => ?_⟩
  · rw [(setCells_fr _ _ _ _).2]; simp
  · have := (setCells_fr w.heap.size xs.toArray.toList 0 (w.alloc (.cells zeroCells 74))).1
    exact ((Below.refl _ _).alloc (Nat.le_refl _) _).trans (this.below (by simp) (fun k q => by omega))
  · have hin := World.rangeAt_setCells_same (w.alloc (.cells zeroCells 74)) w.heap.size 0 xs (by rw [hl]; exact zero_there w)
    have := hin j (xs[j]'(by omega)) (List.getElem?_eq_getElem _)
    rw [Nat.zero_add] at this
    rw [List.getElem?_eq_getElem (by omega)]
    exact this
  · rw [World.frozen?_setCells]
    exact frozen_new _ _ _ _
set_option maxHeartbeats 4000000 in
set_option maxRecDepth 100000 in
theorem fork_ok {w : World} {b g mb n nw : Nat} {S : List It} (h : IsW w b g mb n nw S) :
    Calls Try.prog 14 #[.pointer (some ⟨b, 0, none⟩)] w fun e w' => ∃ b' g' mb', e = .returned (.pointer (some ⟨b', 0, none⟩)) ∧ (∀ k, O3 b' g' mb' k → w.heap.size ≤ k) ∧ IsW w' b' g' mb' n nw S ∧ Below w.heap.size w w' := by
  obtain ⟨ct, F, L, fr, A, B, E, T, s, hr, hm, hi, hbm, hgm, hn⟩ := h
  obtain ⟨cp, esl⟩ := hr.en
  have hbb := hr.lt_b
  have hgg := hr.lt_g
  have hmm := hm.lt
  have etm := hr.tm
  have HRange := veil (wh_range hr esl)
  have hone := whRow_one (nw := nw) (F := F) (L := L) (m := .map (some mb)) (s := .slice (some ⟨g, 0, none⟩) (n + 1) cp) (c := ct) rfl rfl
  have hql := whRow_len (nw := nw) (F := F) (L := L) (m := .map (some mb)) (s := .slice (some ⟨g, 0, none⟩) (n + 1) cp) (c := ct)
  have HX := veil (copy_world w (whRow nw F L (.map (some mb)) (.slice (some ⟨g, 0, none⟩) (n + 1) cp) ct) hql)
  have HMap : Hid (∀ W1, Below w.heap.size w W1 → Calls Try.prog 38 #[.map (some mb)] W1 fun e w' => e = .returned (.map (some W1.heap.size)) ∧ IsM w' W1.heap.size fr s ∧ (∃ o : Obj, w' = W1.alloc o)) := fun W1 hb => cloneM (hm.block (hb.block mb hmm))
  have HCl : Hid (∀ W2, Below w.heap.size w W2 → Calls Try.prog 39 #[.slice (some ⟨g, 0, none⟩) (n + 1) cp] W2 fun e w' => ∃ g' cap', e = .returned (.slice (some ⟨g', 0, none⟩) (n + 1) cap') ∧ W2.heap.size ≤ g' ∧ w'.ownsRow W2.heap.size 78 4 (.slice (some ⟨g', 0, none⟩) (n + 1) cap') (n + 1) (entRow A B E T (n + 1)) ∧ Below W2.heap.size W2 w') := fun W2 hb =>
    clone_ent W2 g n cp (entRow A B E T (n + 1)) hn entRow_len (ent_cells (hr.below hb)) entRow_one (by have := hb.size; omega)
  have HE : Hid (∀ W1 W2 W3 g' cap' (o : Obj), W1.heap.size = w.heap.size + 1 → Below w.heap.size w W1 → (∀ j, j < 132 → W1.cell? ⟨w.heap.size, j, none⟩ = (whRow nw F L (.map (some mb)) (.slice (some ⟨g, 0, none⟩) (n + 1) cp) ct)[j]?) → (∀ j, W1.frozen? ⟨w.heap.size, j, none⟩ = false) →
      W2 = W1.alloc o → IsM W2 W1.heap.size fr s → (W2.setCell ⟨w.heap.size, 129, none⟩ (.map (some W1.heap.size))).heap.size ≤ g' → W3.ownsRow (W2.setCell ⟨w.heap.size, 129, none⟩ (.map (some W1.heap.size))).heap.size 78 4 (.slice (some ⟨g', 0, none⟩) (n + 1) cap') (n + 1) (entRow A B E T (n + 1)) → Below (W2.setCell ⟨w.heap.size, 129, none⟩ (.map (some W1.heap.size))).heap.size (W2.setCell ⟨w.heap.size, 129, none⟩ (.map (some W1.heap.size))) W3 →
      W3.cell? ⟨w.heap.size, 130, none⟩ = some (.slice (some ⟨g, 0, none⟩) (n + 1) cp) ∧ W3.frozen? ⟨w.heap.size, 130, none⟩ = false ∧ IsW (W3.setCell ⟨w.heap.size, 130, none⟩ (.slice (some ⟨g', 0, none⟩) (n + 1) cap')) w.heap.size g' W1.heap.size n nw S ∧ Below w.heap.size w (W3.setCell ⟨w.heap.size, 130, none⟩ (.slice (some ⟨g', 0, none⟩) (n + 1) cap'))) := by
    intro W1 W2 W3 g' cap' o hs hb hcell hfr hW2 hm2 hg' hown hb3
    have hs2 : (W2.setCell ⟨w.heap.size, 129, none⟩ (.map (some W1.heap.size))).heap.size = w.heap.size + 1 + 1 := by rw [hW2]; simp; omega
    rw [hs2] at hg' hown hb3
    have c129 : W2.cell? ⟨w.heap.size, 129, none⟩ = some (.map (some mb)) := by
      rw [hW2, World.cell?_alloc_lt _ _ _ (by simp; omega), hcell 129 (by omega)]
      exact whRow_hi 0
    have c2 : ∀ j, j < 132 → j ≠ 129 → (W2.setCell ⟨w.heap.size, 129, none⟩ (.map (some W1.heap.size))).cell? ⟨w.heap.size, j, none⟩ = (whRow nw F L (.map (some mb)) (.slice (some ⟨g, 0, none⟩) (n + 1) cp) ct)[j]? := fun j hj hne => by
      rw [set_other _ _ _ _ _ _ (by omega), hW2, World.cell?_alloc_lt _ _ _ (by simp; omega), hcell j hj]
    have f2 : ∀ j, (W2.setCell ⟨w.heap.size, 129, none⟩ (.map (some W1.heap.size))).frozen? ⟨w.heap.size, j, none⟩ = false := fun j => by
      rw [World.frozen?_setCell, hW2]
      exact (World.frozen?_of_block (a := ⟨w.heap.size, j, none⟩) (Below.heap_alloc _ _ _ (by simp; omega))).trans (hfr j)
    have hsz3 := hb3.size
    rw [hs2] at hsz3
    have c3 : ∀ j, W3.cell? ⟨w.heap.size, j, none⟩ = (W2.setCell ⟨w.heap.size, 129, none⟩ (.map (some W1.heap.size))).cell? ⟨w.heap.size, j, none⟩ := fun j => hb3.cell (p := ⟨w.heap.size, j, none⟩) (by simp; omega)
    have f3 : ∀ j, W3.frozen? ⟨w.heap.size, j, none⟩ = false := fun j => (World.frozen?_of_block (a := ⟨w.heap.size, j, none⟩) (hb3.block w.heap.size (by omega))).trans (f2 j)
    have h130 : W3.cell? ⟨w.heap.size, 130, none⟩ = some (.slice (some ⟨g, 0, none⟩) (n + 1) cp) := by rw [c3, c2 130 (by omega) (by omega)]; exact whRow_hi 1
    have hne : w.heap.size ≠ g' := by omega
    have lk : ∀ j, j < (n + 1) * 4 → (W3.setCell ⟨w.heap.size, 130, none⟩ (.slice (some ⟨g', 0, none⟩) (n + 1) cap')).cell? ⟨g', j, none⟩ = (entRow A B E T (n + 1))[j]? := fun j hj => by
      rw [set_other _ _ _ _ _ _ (by omega)]
      exact hown.cellAt j hj
    have hrep : Rep (W3.setCell ⟨w.heap.size, 130, none⟩ (.slice (some ⟨g', 0, none⟩) (n + 1) cap')) w.heap.size g' n nw ct (.map (some W1.heap.size)) F L A B E T := by
      refine ⟨hne, ⟨cap', set_same _ _ _ _ h130⟩, ?_, ?_, ?_, fun x hx => ?_, fun x hx => ?_, fun x hx => ?_, fun x hx => ?_, fun x hx => ?_, fun x hx => ?_, fun o => ?_, fun o => ?_⟩
      · rw [set_other _ _ _ _ _ _ (by omega), c3, c2 0 (by omega) (by omega)]; rfl
      · rw [set_other _ _ _ _ _ _ (by omega), c3]; exact set_same _ _ _ _ c129
      · rw [set_other _ _ _ _ _ _ (by omega), c3, c2 131 (by omega) (by omega)]; exact whRow_hi 2
      · rw [set_other _ _ _ _ _ _ (by omega), c3, c2 _ (by omega) (by omega), whRow_slot _ (by omega)]; exact slotRow_F F L x hx
      · rw [set_other _ _ _ _ _ _ (by omega), c3, c2 _ (by omega) (by omega), show 1 + x * 2 + 1 = 1 + (x * 2 + 1) by omega, whRow_slot _ (by omega)]; exact slotRow_L F L x hx
      · rw [lk _ (by omega)]; exact (entRow_at x (by omega)).1
      · rw [lk _ (by omega)]; exact (entRow_at x (by omega)).2.1
      · rw [lk _ (by omega)]; exact (entRow_at x (by omega)).2.2.1
      · rw [lk _ (by omega)]; exact (entRow_at x (by omega)).2.2.2
      · rw [World.frozen?_setCell]; exact f3 o
      · rw [World.frozen?_setCell]; exact hown.frozenAt o
    refine ⟨h130, f3 130, ⟨ct, F, L, fr, A, B, E, T, s, hrep, ?_, hi, by omega, by omega, hn⟩, ?_⟩
    · refine hm2.block ?_
      rw [Below.heap_setCell _ _ _ _ (by show W1.heap.size ≠ w.heap.size; omega), hb3.block _ (by omega), Below.heap_setCell _ _ _ _ (by show W1.heap.size ≠ w.heap.size; omega)]
    · have b2 : Below w.heap.size w (W2.setCell ⟨w.heap.size, 129, none⟩ (.map (some W1.heap.size))) := by
        rw [hW2]
        exact (hb.alloc hb.size o).setCell (p := ⟨w.heap.size, 129, none⟩) (Nat.le_refl _) _
      exact (b2.trans (hb3.mono (by omega))).setCell (p := ⟨w.heap.size, 130, none⟩) (Nat.le_refl _) _
  have HC0 : Hid (∀ W1 (o : Obj), W1.heap.size = w.heap.size + 1 → Below w.heap.size w W1 → (∀ j, j < 132 → W1.cell? ⟨w.heap.size, j, none⟩ = (whRow nw F L (.map (some mb)) (.slice (some ⟨g, 0, none⟩) (n + 1) cp) ct)[j]?) → (∀ j, W1.frozen? ⟨w.heap.size, j, none⟩ = false) →
      (W1.alloc o).cell? ⟨w.heap.size, 129, none⟩ = some (.map (some mb)) ∧ (W1.alloc o).frozen? ⟨w.heap.size, 129, none⟩ = false ∧ Below w.heap.size w ((W1.alloc o).setCell ⟨w.heap.size, 129, none⟩ (.map (some W1.heap.size))) ∧ ((W1.alloc o).setCell ⟨w.heap.size, 129, none⟩ (.map (some W1.heap.size))).cell? ⟨b, 130, none⟩ = some (.slice (some ⟨g, 0, none⟩) (n + 1) cp)) := by
    intro W1 o hs hb hcell hfr
    have hB := (hb.alloc hb.size o).setCell (p := ⟨w.heap.size, 129, none⟩) (Nat.le_refl _) (.map (some W1.heap.size))
    refine ⟨?_, ?_, hB, (hB.cell (p := ⟨b, 130, none⟩) hbb).trans esl⟩
    · rw [World.cell?_alloc_lt _ _ _ (by simp; omega), hcell 129 (by omega)]
      exact whRow_hi 0
    · exact (World.frozen?_of_block (a := ⟨w.heap.size, 129, none⟩) (Below.heap_alloc _ _ _ (by simp; omega))).trans (hfr 129)
  have HZ := zeroWh
  have HI := veil infoWheel
  have HU := veil Try.underlying74
  have hst : (storeCells ⟨w.heap.size, 0, none⟩ (whRow nw F L (.map (some mb)) (.slice (some ⟨g, 0, none⟩) (n + 1) cp) ct)).run Try.prog (w.alloc (.cells zeroCells 74)) = .ok () ((w.alloc (.cells zeroCells 74)).setCells w.heap.size 0 (whRow nw F L (.map (some mb)) (.slice (some ⟨g, 0, none⟩) (n + 1) cp) ct)) := by
    have := run_storeCells_cells (P := Try.prog) w.heap.size 0 (whRow nw F L (.map (some mb)) (.slice (some ⟨g, 0, none⟩) (n + 1) cp) ct) 0 (w.alloc (.cells zeroCells 74)) (fun j hj => by rw [hql] at hj; have := (zero_there w j hj).1; rw [Nat.zero_add] at this; rw [Nat.zero_add]; simpa using this) (fun j hj => by rw [hql] at hj; have := (zero_there w j hj).2; rw [Nat.zero_add] at this; rw [Nat.zero_add]; simp) hone
    simpa using this
  obtain ⟨W1, hW1, hs1, hb1, hc1, hf1⟩ := HX.out
  rw [List.toList_toArray] at hW1
  rw [hW1] at hst
  have etm1 := (hb1.cell (p := ⟨b, 129, none⟩) hbb).trans etm
  have HC1 := veil hc1
  have HF1 := veil hf1
  have HB1 := veil hb1
  have HS1 := veil hs1
  have HQL := veil hql
  clear hr hm hi hone hql esl hs1 hb1 hc1 hf1 hW1 HX etm
  generalize whRow nw F L (.map (some mb)) (.slice (some ⟨g, 0, none⟩) (n + 1) cp) ct = row at *
  go_enter Try.func14, Try.ntmps14
  go_wp2_with (first
    | (refine wpList_load_mid rfl 74 _ rfl b 0 (by rfl) row _ HRange.out HU.out rfl (by rw [HQL.out]; exact HI.out) ?_)
    | (go_at_call 38; refine (HMap.out _ HB1.out).mono ?_; rintro e W2 ⟨rfl, hm2, o, hW2⟩; subst hW2; obtain ⟨x1, x2, x3, x4⟩ := HC0.out _ o HS1.out HB1.out HC1.out HF1.out; have HM2 := veil hm2; have HB2 := veil x3; clear hm2 x3)
    | (go_at_call 39; refine (HCl.out _ (by exact HB2.out)).mono ?_; rintro e W3 ⟨g', cap', rfl, hg', hown, hb3⟩; obtain ⟨z1, z2, z3, z4⟩ := HE.out _ _ _ _ _ o HS1.out HB1.out HC1.out HF1.out rfl HM2.out hg' hown hb3; have HZ3 := veil z3; have HZ4 := veil z4; have HG' := veil hg'; clear hown hb3 hg' z3 z4))
  go_ret
  refine ⟨_, g', W1.heap.size, rfl, ?_, HZ3.out, HZ4.out⟩
  have h1 := HG'.out
  have h2 := HS1.out
  simp at h1
  rintro k (rfl | rfl | rfl) <;> omega
end Go.Proofs.Ytjmbadadelelfaa
