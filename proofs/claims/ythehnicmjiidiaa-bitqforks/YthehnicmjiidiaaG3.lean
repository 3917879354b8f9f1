/-
  The walks of Fork: the program's queue.
-/
import Derived.Test.YthehnicmjiidiaaG2
import Derived.Deep.MidRow
namespace Go.Proofs.Ythehnicmjiidiaa
open Go.RowKit Go.Lib

/-- The cells of the links. -/
def linkRow (A B V : Nat → Nat) (T : Nat → Bool) : Nat → List Value
  | 0 => []
  | k + 1 => linkRow A B V T k ++ [.int .i64 (A k), .int .i64 (B k), .int .u8 (V k), .bool (T k)]
theorem linkRow_len (A B V : Nat → Nat) (T : Nat → Bool) : ∀ k, (linkRow A B V T k).length = k * 4
  | 0 => rfl
  | k + 1 => by rw [linkRow, List.length_append, linkRow_len A B V T k]; simp; omega
theorem linkRow_one (A B V : Nat → Nat) (T : Nat → Bool) : ∀ k, ∀ u ∈ linkRow A B V T k, u.oneCell' = true
  | 0 => by simp [linkRow]
  | k + 1 => by
    intro u hu
    rw [linkRow, List.mem_append] at hu
    rcases hu with q | q
    · exact linkRow_one A B V T k u q
    · simp at q
      rcases q with rfl | rfl | rfl | rfl <;> rfl
theorem linkRow_at (A B V : Nat → Nat) (T : Nat → Bool) (s : Nat) : ∀ k, s < k → (linkRow A B V T k)[s * 4]? = some (.int .i64 (A s)) ∧ (linkRow A B V T k)[s * 4 + 1]? = some (.int .i64 (B s)) ∧ (linkRow A B V T k)[s * 4 + 2]? = some (.int .u8 (V s)) ∧ (linkRow A B V T k)[s * 4 + 3]? = some (.bool (T s))
  | 0, h => by omega
  | k + 1, h => by
    have hl := linkRow_len A B V T k
    by_cases e : s = k
    · subst e
      rw [linkRow]
      refine ⟨?_, ?_, ?_, ?_⟩ <;> rw [List.getElem?_append_right (by omega), hl]
      · rw [show s * 4 - s * 4 = 0 by omega]; rfl
      · rw [show s * 4 + 1 - s * 4 = 1 by omega]; rfl
      · rw [show s * 4 + 2 - s * 4 = 2 by omega]; rfl
      · rw [show s * 4 + 3 - s * 4 = 3 by omega]; rfl
    · obtain ⟨a1, a2, a3, a4⟩ := linkRow_at A B V T s k (by omega)
      rw [linkRow]
      refine ⟨?_, ?_, ?_, ?_⟩ <;> rw [List.getElem?_append_left (by omega)] <;> assumption
theorem linkRow_cells {w : World} {b g n : Nat} {F L : Nat → Nat} {M : Nat → Int} {c : Nat} {A B V : Nat → Nat} {T : Nat → Bool} (h : Rep w b g n F L M c A B V T) : ∀ j u, (linkRow A B V T (n + 1))[j]? = some u → w.cell? ((⟨g, 0, none⟩ : Addr).add j) = some u := by
  intro j u hu
  have hj : j < (linkRow A B V T (n + 1)).length := (List.getElem?_eq_some_iff.1 hu).1
  rw [linkRow_len] at hj
  have hadd : (⟨g, 0, none⟩ : Addr).add j = ⟨g, j, none⟩ := by unfold Addr.add; split <;> simp_all
  rw [hadd, ← hu]
  obtain ⟨a1, a2, a3, a4⟩ := linkRow_at A B V T (j / 4) (n + 1) (by omega)
  have hm : j = j / 4 * 4 ∨ j = j / 4 * 4 + 1 ∨ j = j / 4 * 4 + 2 ∨ j = j / 4 * 4 + 3 := by omega
  rcases hm with e | e | e | e
  · rw [e, a1]; exact h.la (j / 4) (by omega)
  · rw [e, a2]; exact h.lb (j / 4) (by omega)
  · rw [e, a3]; exact h.lv (j / 4) (by omega)
  · rw [e, a4]; exact h.lt (j / 4) (by omega)

theorem eq_nil_no (w : World) (g n cp : Nat) : (binOp BinOp.eql 55 (.slice (some ⟨g, 0, none⟩) n cp) (.slice none 0 0)).run Try.prog w = .ok (.bool false) w := by kernel_rfl
set_option maxHeartbeats 2000000 in
theorem clone_ok (w : World) (g n cp : Nat) (xs : List Value) (hn : n ≤ 1024) (hl : xs.length = (n + 1) * 4) (hc : ∀ j u, xs[j]? = some u → w.cell? ((⟨g, 0, none⟩ : Addr).add j) = some u) (h1 : ∀ u ∈ xs, u.oneCell' = true) (hg : g < w.heap.size) :
    Calls Try.prog 38 #[.slice (some ⟨g, 0, none⟩) (n + 1) cp] w fun e w' => ∃ g' cap', e = .returned (.slice (some ⟨g', 0, none⟩) (n + 1) cap') ∧ w.heap.size ≤ g' ∧ w'.ownsRow w.heap.size 64 4 (.slice (some ⟨g', 0, none⟩) (n + 1) cap') (n + 1) xs ∧ Below w.heap.size w w' := by
  obtain ⟨i0, hi, hz0, hz1, hz2⟩ := info_parts infoLink
  have HC : Hid (∀ j u, xs[j]? = some u → (w.alloc (.cells #[] 64)).cell? ((⟨g, 0, none⟩ : Addr).add j) = some u) := by
    intro j u hu
    have hadd : (⟨g, 0, none⟩ : Addr).add j = ⟨g, j, none⟩ := by unfold Addr.add; split <;> simp_all
    have := hc j u hu
    rw [hadd] at this ⊢
    rw [World.cell?_alloc_lt _ _ _ (by simpa using hg)]
    exact this
  have HL : Hid ((w.alloc (.cells #[] 64)).ownsRow w.heap.size 64 4 (.slice (some ⟨w.heap.size, 0, none⟩) 0 0) 0 []) := by
    have := World.ownsRow_lit (base := w.heap.size) (e := 64) (size := 4) w #[] 0 (Nat.le_refl _) (by simp [maxLen]) rfl
    exact this
  have H1 := veil h1
  have hnil := fun w => eq_nil_no w g (n + 1) cp
  clear hc h1
  go_enter Try.func38, Try.ntmps38
  go_wp2_with (at_builtin; refine wpList_append_lies _ rfl _ _ 55 rfl w.heap.size 64 i0 linkZero 4 24 Try.underlying55 hi hz0 hz1 hz2 rfl (by omega) _ 0 [] (by rfl) HL.out ⟨g, 0, none⟩ (n + 1) cp xs (by rfl) hl HC.out H1.out (by omega) (by unfold maxLen; omega) (by omega) (by simp) _ rfl ?_; intro g' cap' w1 hown hgrow hat hlt; have HO := veil hown; have HG := veil hgrow; clear hown hgrow hat hlt)
  go_ret
  refine ⟨g', cap', by simp, (HO.out.lt g' rfl).1, by simpa using HO.out, ?_⟩
  exact ((Below.refl _ _).alloc (Nat.le_refl _) _).grown HG.out (by simp) (fun k hk => by simp [Value.ownBlock] at hk; omega)
end Go.Proofs.Ythehnicmjiidiaa
