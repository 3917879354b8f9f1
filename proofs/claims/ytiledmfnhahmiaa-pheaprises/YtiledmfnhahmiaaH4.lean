/-
  The walks of the program's Fork and List.
-/
import Derived.Test.YtiledmfnhahmiaaH3
import Derived.Deep.MidRow
namespace Go.Proofs.Ytiledmfnhahmiaa
open Go.RowKit Go.Lib

/-- The cells of the nodes. -/
def nodeRow (D S I C A B : Nat → Nat) (T : Nat → Bool) : Nat → List Value
  | 0 => []
  | k + 1 => nodeRow D S I C A B T k ++ [.int .u64 (D k), .int .u64 (S k), .int .i64 (I k), .int .i64 (C k), .int .i64 (A k), .int .i64 (B k), .bool (T k)]
theorem nodeRow_len (D S I C A B : Nat → Nat) (T : Nat → Bool) : ∀ k, (nodeRow D S I C A B T k).length = k * 7
  | 0 => rfl
  | k + 1 => by rw [nodeRow, List.length_append, nodeRow_len D S I C A B T k]; simp; omega
theorem nodeRow_one (D S I C A B : Nat → Nat) (T : Nat → Bool) : ∀ k, ∀ u ∈ nodeRow D S I C A B T k, u.oneCell' = true
  | 0 => by simp [nodeRow]
  | k + 1 => by
    intro u hu
    rw [nodeRow, List.mem_append] at hu
    rcases hu with q | q
    · exact nodeRow_one D S I C A B T k u q
    · simp at q
      rcases q with rfl | rfl | rfl | rfl | rfl | rfl | rfl <;> rfl
theorem nodeRow_at (D S I C A B : Nat → Nat) (T : Nat → Bool) (s : Nat) : ∀ k, s < k → ∀ i, i < 7 → (nodeRow D S I C A B T k)[s * 7 + i]? = ([.int .u64 (D s), .int .u64 (S s), .int .i64 (I s), .int .i64 (C s), .int .i64 (A s), .int .i64 (B s), .bool (T s)] : List Value)[i]?
  | 0, h, _, _ => by omega
  | k + 1, h, i, hi => by
    have hl := nodeRow_len D S I C A B T k
    by_cases e : s = k
    · subst e
      rw [nodeRow, List.getElem?_append_right (by omega), hl, show s * 7 + i - s * 7 = i by omega]
    · rw [nodeRow, List.getElem?_append_left (by omega)]
      exact nodeRow_at D S I C A B T s k (by omega) i hi
theorem nodeRow_cells {w : World} {b g n rt ct : Nat} {D S I C A B : Nat → Nat} {T : Nat → Bool} (h : Rep w b g n rt ct D S I C A B T) : ∀ j u, (nodeRow D S I C A B T (n + 1))[j]? = some u → w.cell? ((⟨g, 0, none⟩ : Addr).add j) = some u := by
  intro j u hu
  have hj : j < (nodeRow D S I C A B T (n + 1)).length := (List.getElem?_eq_some_iff.1 hu).1
  rw [nodeRow_len] at hj
  have hadd : (⟨g, 0, none⟩ : Addr).add j = ⟨g, j, none⟩ := by unfold Addr.add; split <;> simp_all
  rw [hadd, ← hu]
  have ha := nodeRow_at D S I C A B T (j / 7) (n + 1) (by omega)
  have hm : j = j / 7 * 7 + 0 ∨ j = j / 7 * 7 + 1 ∨ j = j / 7 * 7 + 2 ∨ j = j / 7 * 7 + 3 ∨ j = j / 7 * 7 + 4 ∨ j = j / 7 * 7 + 5 ∨ j = j / 7 * 7 + 6 := by omega
  rcases hm with e | e | e | e | e | e | e
  · rw [e, ha 0 (by omega)]; exact h.nd (j / 7) (by omega)
  · rw [e, ha 1 (by omega)]; exact h.ns (j / 7) (by omega)
  · rw [e, ha 2 (by omega)]; exact h.ni (j / 7) (by omega)
  · rw [e, ha 3 (by omega)]; exact h.nc (j / 7) (by omega)
  · rw [e, ha 4 (by omega)]; exact h.na (j / 7) (by omega)
  · rw [e, ha 5 (by omega)]; exact h.nb (j / 7) (by omega)
  · rw [e, ha 6 (by omega)]; exact h.nt (j / 7) (by omega)

theorem eq_nil_no (w : World) (g n cp : Nat) : (binOp BinOp.eql 56 (.slice (some ⟨g, 0, none⟩) n cp) (.slice none 0 0)).run Try.prog w = .ok (.bool false) w := by kernel_rfl
set_option maxHeartbeats 2000000 in
theorem clone_ok (w : World) (g n cp : Nat) (xs : List Value) (hn : n ≤ 1024) (hl : xs.length = (n + 1) * 7) (hc : ∀ j u, xs[j]? = some u → w.cell? ((⟨g, 0, none⟩ : Addr).add j) = some u) (h1 : ∀ u ∈ xs, u.oneCell' = true) (hg : g < w.heap.size) :
    Calls Try.prog 34 #[.slice (some ⟨g, 0, none⟩) (n + 1) cp] w fun e w' => ∃ g' cap', e = .returned (.slice (some ⟨g', 0, none⟩) (n + 1) cap') ∧ w.heap.size ≤ g' ∧ w'.ownsRow w.heap.size 63 7 (.slice (some ⟨g', 0, none⟩) (n + 1) cap') (n + 1) xs ∧ Below w.heap.size w w' := by
  obtain ⟨i0, hi, hz0, hz1, hz2⟩ := info_parts infoNode
  have HC : Hid (∀ j u, xs[j]? = some u → (w.alloc (.cells #[] 63)).cell? ((⟨g, 0, none⟩ : Addr).add j) = some u) := by
    intro j u hu
    have hadd : (⟨g, 0, none⟩ : Addr).add j = ⟨g, j, none⟩ := by unfold Addr.add; split <;> simp_all
    have := hc j u hu
    rw [hadd] at this ⊢
    rw [World.cell?_alloc_lt _ _ _ (by simpa using hg)]
    exact this
  have HL : Hid ((w.alloc (.cells #[] 63)).ownsRow w.heap.size 63 7 (.slice (some ⟨w.heap.size, 0, none⟩) 0 0) 0 []) := by
    have := World.ownsRow_lit (base := w.heap.size) (e := 63) (size := 7) w #[] 0 (Nat.le_refl _) (by simp [maxLen]) rfl
    exact this
  have H1 := veil h1
  have hnil := fun w => eq_nil_no w g (n + 1) cp
  clear hc h1
  go_enter Try.func34, Try.ntmps34
  go_wp2_with (at_builtin; refine wpList_append_lies _ rfl _ _ 56 rfl w.heap.size 63 i0 nodeZero 7 56 Try.underlying56 hi hz0 hz1 hz2 rfl (by omega) _ 0 [] (by rfl) HL.out ⟨g, 0, none⟩ (n + 1) cp xs (by rfl) hl HC.out H1.out (by omega) (by unfold maxLen; omega) (by omega) (by simp) _ rfl ?_; intro g' cap' w1 hown hgrow hat hlt; have HO := veil hown; have HG := veil hgrow; clear hown hgrow hat hlt)
  go_ret
  refine ⟨g', cap', by simp, (HO.out.lt g' rfl).1, by simpa using HO.out, ?_⟩
  exact ((Below.refl _ _).alloc (Nat.le_refl _) _).grown HG.out (by simp) (fun k hk => by simp [Value.ownBlock] at hk; omega)

/-- A heap whose nodes and block were copied. -/
theorem fork_rep {w w2 : World} {b g n rt ct B2 g' cap' : Nat} {D S I C A B : Nat → Nat} {T : Nat → Bool} (_h : Rep w b g n rt ct D S I C A B T)
    (c0 : w2.cell? ⟨B2, 0, none⟩ = some (.slice (some ⟨g', 0, none⟩) (n + 1) cap')) (c1 : w2.cell? ⟨B2, 1, none⟩ = some (.int .i64 (rt : Int))) (c2 : w2.cell? ⟨B2, 2, none⟩ = some (.int .i64 (ct : Int)))
    (hf : ∀ o, w2.frozen? ⟨B2, o, none⟩ = false) (hne : B2 ≠ g') {base : Nat} (hown : w2.ownsRow base 63 7 (.slice (some ⟨g', 0, none⟩) (n + 1) cap') (n + 1) (nodeRow D S I C A B T (n + 1))) :
    Rep w2 B2 g' n rt ct D S I C A B T := by
  have lk : ∀ j, j < (n + 1) * 7 → w2.cell? ⟨g', j, none⟩ = (nodeRow D S I C A B T (n + 1))[j]? := fun j hj => hown.cellAt j hj
  have ha := fun s (hs : s ≤ n) => nodeRow_at D S I C A B T s (n + 1) (by omega)
  refine ⟨hne, ⟨cap', c0⟩, c1, c2, fun x hx => ?_, fun x hx => ?_, fun x hx => ?_, fun x hx => ?_, fun x hx => ?_, fun x hx => ?_, fun x hx => ?_, hf, fun o => hown.frozenAt o⟩
  · rw [lk _ (by omega)]; exact ha x hx 0 (by omega)
  · rw [lk _ (by omega)]; exact ha x hx 1 (by omega)
  · rw [lk _ (by omega)]; exact ha x hx 2 (by omega)
  · rw [lk _ (by omega)]; exact ha x hx 3 (by omega)
  · rw [lk _ (by omega)]; exact ha x hx 4 (by omega)
  · rw [lk _ (by omega)]; exact ha x hx 5 (by omega)
  · rw [lk _ (by omega)]; exact ha x hx 6 (by omega)

set_option maxHeartbeats 2000000 in
theorem fork_walk {w : World} {b g n rt ct : Nat} {D S I C A B : Nat → Nat} {T : Nat → Bool} (h : Rep w b g n rt ct D S I C A B T) (hn : n ≤ 1024) :
    Calls Try.prog 19 #[.pointer (some ⟨b, 0, none⟩)] w fun e w' => ∃ b' g', e = .returned (.pointer (some ⟨b', 0, none⟩)) ∧ w.heap.size ≤ b' ∧ w.heap.size ≤ g' ∧ Rep w' b' g' n rt ct D S I C A B T ∧ Below w.heap.size w w' := by
  obtain ⟨cp, e0⟩ := h.sl
  have e1 := h.rt
  have e2 := h.ct
  have hb := h.lt_b
  have hg := h.lt_g
  have HR := veil h
  have HCl : Hid (∀ W1, Below w.heap.size w W1 → Calls Try.prog 34 #[.slice (some ⟨g, 0, none⟩) (n + 1) cp] W1 fun e w' => ∃ g' cap', e = .returned (.slice (some ⟨g', 0, none⟩) (n + 1) cap') ∧ W1.heap.size ≤ g' ∧ w'.ownsRow W1.heap.size 63 7 (.slice (some ⟨g', 0, none⟩) (n + 1) cap') (n + 1) (nodeRow D S I C A B T (n + 1)) ∧ Below W1.heap.size W1 w') := by
    intro W1 hb
    refine clone_ok W1 g n cp _ hn (nodeRow_len _ _ _ _ _ _ _ _) ?_ (nodeRow_one _ _ _ _ _ _ _ _) (Nat.lt_of_lt_of_le hg hb.size)
    exact nodeRow_cells (h.below hb)
  have HE : Hid (∀ (W1 W2 : World) (g' cap' : Nat), W1 = w.alloc (.cells #[.slice (some ⟨g, 0, none⟩) (n + 1) cp, .int .i64 (rt : Int), .int .i64 (ct : Int)] 58) → W1.heap.size ≤ g' → W2.ownsRow W1.heap.size 63 7 (.slice (some ⟨g', 0, none⟩) (n + 1) cap') (n + 1) (nodeRow D S I C A B T (n + 1)) → Below W1.heap.size W1 W2 →
      W2.cell? ⟨w.heap.size, 0, none⟩ = some (.slice (some ⟨g, 0, none⟩) (n + 1) cp) ∧ W2.frozen? ⟨w.heap.size, 0, none⟩ = false ∧ w.heap.size ≤ g' ∧ Rep (W2.setCell ⟨w.heap.size, 0, none⟩ (.slice (some ⟨g', 0, none⟩) (n + 1) cap')) w.heap.size g' n rt ct D S I C A B T ∧ Below w.heap.size w (W2.setCell ⟨w.heap.size, 0, none⟩ (.slice (some ⟨g', 0, none⟩) (n + 1) cap'))) := by
    intro W1 W2 g' cap' hW1 hg' hown hb2
    have hs1 : W1.heap.size = w.heap.size + 1 := by rw [hW1]; simp
    have c : ∀ i, W2.cell? ⟨w.heap.size, i, none⟩ = (#[.slice (some ⟨g, 0, none⟩) (n + 1) cp, .int .i64 (rt : Int), .int .i64 (ct : Int)] : Array Value)[i]? := fun i => by
      rw [hb2.cell (p := ⟨w.heap.size, i, none⟩) (by simp; omega), hW1]; exact cell_new _ _ _ _
    have f : ∀ i, W2.frozen? ⟨w.heap.size, i, none⟩ = false := fun i => by
      rw [World.frozen?_of_block (a := ⟨w.heap.size, i, none⟩) (hb2.block w.heap.size (by omega)), hW1]; exact frozen_new _ _ _ _
    have hne : w.heap.size ≠ g' := by omega
    have hB : Below w.heap.size w W2 := by
      refine (?_ : Below w.heap.size w W1).trans (hb2.mono (by omega))
      rw [hW1]; exact (Below.refl _ _).alloc (Nat.le_refl _) _
    refine ⟨c 0, f 0, by omega, ?_, hB.setCell (p := ⟨w.heap.size, 0, none⟩) (Nat.le_refl _) _⟩
    refine fork_rep h (set_same _ _ _ _ (c 0)) ?_ ?_ (fun o => by rw [World.frozen?_setCell]; exact f o) hne (base := W1.heap.size) (ownsRow_setCell_other hown (by simp [Value.ownBlock]; omega) _)
    · rw [set_other _ _ _ _ _ _ (by omega)]; exact c 1
    · rw [set_other _ _ _ _ _ _ (by omega)]; exact c 2
  have yb : ¬ b = w.heap.size := by omega
  clear h HR
  go_enter Try.func19, Try.ntmps19
  go_wp2_with (go_at_call 34; refine (HCl.out _ ((Below.refl _ _).alloc (Nat.le_refl _) _)).mono ?_; rintro e W2 ⟨g', cap', rfl, hg', hown, hb2⟩; obtain ⟨x1, x2, x3, x4, x5⟩ := HE.out _ _ _ _ rfl hg' hown hb2; have HX := veil (And.intro x4 x5); clear hown hb2 x4 x5 hg')
  go_ret
  exact ⟨_, g', rfl, Nat.le_refl _, x3, HX.out.1, HX.out.2⟩
end Go.Proofs.Ytiledmfnhahmiaa
