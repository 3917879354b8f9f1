/- The document's Base. -/
import Derived.Test.YtbhkgbhgofefjaaR5
namespace Go.Proofs.Ytbhkgbhgofefjaa
open Go.RowKit
set_option linter.unusedVariables false
def MovedR (w w' : World) (base s : Nat) (vb vo vw : Value) (V : List Value) (T : List Th) (L : List Lk) : Prop :=
  ∃ V', IsR w' base s vb vo vw V' T L ∧ Fr (ownR s vb vo vw V) w w' ∧ ∀ k, ownR s vb vo vw V' k → ownR s vb vo vw V k ∨ w.heap.size ≤ k
section
variable {w w' : World} {base s : Nat} {vb vo vw : Value} {V : List Value} {T : List Th} {L : List Lk}
theorem rbase_no (h : IsR w base s vb vo vw V T L) (t : Int) (k : K) (hn : inT T t = false ∨ rightK k = false) : Calls Try.prog 22 #[.pointer (some ⟨s, 0, none⟩), .int .i64 t, .agg #[.bool k.e, .int .u64 k.d, .int .u8 k.l]] w fun e w' => e = .returned (.int .i64 2) ∧ Below w.heap.size w w' := by
  obtain ⟨ab, cb, ao, co, aw, cw, rfl, _, _, hv⟩ := h.rv
  have c0 := hv.c0
  have ls := hv.sl
  have HR := veil (fun w => rright_ok w k)
  by_cases h0 : t < 0
  · clear h hn hv
    go_enter Try.func22, Try.ntmps22
    go_wp2
    go_ret
    exact ⟨rfl, by first | exact Below.refl _ _ | exact (Below.refl _ _).alloc (Nat.le_refl _) _⟩
  · by_cases h1 : (T.length : Int) ≤ t
    · clear h hn hv
      go_enter Try.func22, Try.ntmps22
      go_wp2
      go_ret
      exact ⟨rfl, by first | exact Below.refl _ _ | exact (Below.refl _ _).alloc (Nat.le_refl _) _⟩
    · have hr : rightK k = false := by
        rcases hn with q | q
        · unfold inT at q; simp only [decide_eq_false_iff_not] at q; omega
        · exact q
      simp only [hr] at HR
      clear h hn hv hr
      go_enter Try.func22, Try.ntmps22
      go_wp2_with (go_at_call 46; refine (HR.out _).mono ?_; rintro e w1 ⟨rfl, hb1⟩; replace hb1 := veil hb1)
      go_ret
      exact ⟨rfl, by first | exact hb1.out | exact ((Below.refl _ _).alloc (Nat.le_refl _) _).trans (hb1.out.mono (by simp))⟩
theorem rbase_yes (h : IsR w base s vb vo vw V T L) (j : Nat) (x : Th) (hx : T[j]? = some x) (k : K) (hk : k.ok) (hr : rightK k = true) : Calls Try.prog 22 #[.pointer (some ⟨s, 0, none⟩), .int .i64 (j : Int), .agg #[.bool k.e, .int .u64 k.d, .int .u8 k.l]] w fun e w' => e = .returned (.int .i64 0) ∧ MovedR w w' base s vb vo vw V (T.set j ⟨k, x.u⟩) L := by
  have hj := (List.getElem?_eq_some_iff.1 hx).1
  have hj' : (j : Int) < (T.length : Int) := by omega
  have hj2 : ¬ T.length ≤ j := by omega
  have HR := veil (fun w => rright_ok w k)
  simp only [hr] at HR
  obtain ⟨ab, cb, ao, co, aw, cw, rfl, _, _, hv⟩ := h.rv
  have c0 := hv.c0
  have ls := hv.sl
  obtain ⟨g, rfl, hg, _⟩ := hv.kb j x hx
  have HG : Hid (∀ w1, Below (w.alloc (.cells #[.bool k.e, .int .u64 k.d, .int .u8 k.l] 36)).heap.size (w.alloc (.cells #[.bool k.e, .int .u64 k.d, .int .u8 k.l] 36)) w1 →
      w1.cell? ⟨s, 0, none⟩ = some (.slice (some ⟨g, 0, none⟩) T.length cb) ∧ w1.cell? ⟨w.heap.size, 0, none⟩ = some (.bool k.e) ∧ w1.cell? ⟨w.heap.size, 1, none⟩ = some (.int .u64 k.d) ∧ w1.cell? ⟨w.heap.size, 2, none⟩ = some (.int .u8 k.l) ∧
      (∀ o, w1.frozen? ⟨g, o, none⟩ = false) ∧ (w1.cell? ⟨g, j * 3, none⟩ = some (.bool x.k.e) ∧ w1.cell? ⟨g, j * 3 + 1, none⟩ = some (.int .u64 x.k.d) ∧ w1.cell? ⟨g, j * 3 + 2, none⟩ = some (.int .u8 x.k.l)) ∧
      ((((w1.setCell ⟨g, j * 3, none⟩ (.bool k.e)).setCell ⟨g, j * 3 + 1, none⟩ (.int .u64 k.d)).setCell ⟨g, j * 3 + 2, none⟩ (.int .u8 k.l)).drew.cell? ⟨s, 0, none⟩ = some (.slice (some ⟨g, 0, none⟩) T.length cb) ∧ (((w1.setCell ⟨g, j * 3, none⟩ (.bool k.e)).setCell ⟨g, j * 3 + 1, none⟩ (.int .u64 k.d)).setCell ⟨g, j * 3 + 2, none⟩ (.int .u8 k.l)).drew.cell? ⟨w.heap.size, 0, none⟩ = some (.bool k.e) ∧ (((w1.setCell ⟨g, j * 3, none⟩ (.bool k.e)).setCell ⟨g, j * 3 + 1, none⟩ (.int .u64 k.d)).setCell ⟨g, j * 3 + 2, none⟩ (.int .u8 k.l)).drew.cell? ⟨w.heap.size, 1, none⟩ = some (.int .u64 k.d) ∧ (((w1.setCell ⟨g, j * 3, none⟩ (.bool k.e)).setCell ⟨g, j * 3 + 1, none⟩ (.int .u64 k.d)).setCell ⟨g, j * 3 + 2, none⟩ (.int .u8 k.l)).drew.cell? ⟨w.heap.size, 2, none⟩ = some (.int .u8 k.l)) ∧
      MovedR w (((w1.setCell ⟨g, j * 3, none⟩ (.bool k.e)).setCell ⟨g, j * 3 + 1, none⟩ (.int .u64 k.d)).setCell ⟨g, j * 3 + 2, none⟩ (.int .u8 k.l)) base s (.slice (some ⟨g, 0, none⟩) T.length cb) vo vw V (T.set j ⟨k, x.u⟩) L) := by
    intro w1 hb
    have hb2 : Below w.heap.size w w1 := ((Below.refl _ w).alloc (Nat.le_refl _) _).trans (hb.mono (by simp))
    have h1 := h.below hb2
    have hq := h1.q.based hx k
    obtain ⟨_, _, _, _, _, _, ee, _, _, hv1⟩ := h1.rv
    simp at ee
    obtain ⟨rfl, rfl⟩ := ee
    obtain ⟨g', e', _, y0, y1, y2⟩ := hv1.kb j x hx
    simp at e'
    subst e'
    have hkb : KBox w1 w.heap.size k := KBox.below (World.alloc_heap_new w _) hb
    have hgne : w.heap.size ≠ g := by omega
    have hS : (((w1.setCell ⟨g, j * 3, none⟩ (.bool k.e)).setCell ⟨g, j * 3 + 1, none⟩ (.int .u64 k.d)).setCell ⟨g, j * 3 + 2, none⟩ (.int .u8 k.l)).heap[w.heap.size]? = w1.heap[w.heap.size]? := by
      rw [Below.heap_setCell _ _ _ _ hgne, Below.heap_setCell _ _ _ _ hgne, Below.heap_setCell _ _ _ _ hgne]
    have hkb2 : KBox (((w1.setCell ⟨g, j * 3, none⟩ (.bool k.e)).setCell ⟨g, j * 3 + 1, none⟩ (.int .u64 k.d)).setCell ⟨g, j * 3 + 2, none⟩ (.int .u8 k.l)) w.heap.size k := hS.trans hkb
    refine ⟨hv1.c0, hkb.at.1, hkb.at.2.1, hkb.at.2.2, frozen_row h1.bo, ⟨y0, y1, y2⟩, ⟨hq.sc.1, hkb2.at.1, hkb2.at.2.1, hkb2.at.2.2⟩, V, hq.r (h.f.based hx hk), ?_, fun k q => .inl q⟩
    exact (((Fr.of_below' hb2).setCell (a := ⟨g, j * 3, none⟩) (.inr (.inl rfl)) _).setCell (a := ⟨g, j * 3 + 1, none⟩) (.inr (.inl rfl)) _).setCell (a := ⟨g, j * 3 + 2, none⟩) (.inr (.inl rfl)) _
  clear h hr hx hk hv
  go_enter Try.func22, Try.ntmps22
  go_wp2_with (go_at_call 46; refine (HR.out _).mono ?_; rintro e w1 ⟨rfl, hb1⟩; obtain ⟨c0', k0, k1, k2, fz, ⟨y0, y1, y2⟩, hSS, hmv⟩ := HG.out w1 hb1; replace hmv := veil hmv; replace hSS := veil hSS; clear hb1)
  have hS1 := veil (And.intro c0' (And.intro k0 (And.intro k1 k2)))
  have hS2 : Hid (w1.drew.cell? ⟨s, 0, none⟩ = some (.slice (some ⟨g, 0, none⟩) T.length cb) ∧ w1.drew.cell? ⟨w.heap.size, 0, none⟩ = some (.bool k.e) ∧ w1.drew.cell? ⟨w.heap.size, 1, none⟩ = some (.int .u64 k.d) ∧ w1.drew.cell? ⟨w.heap.size, 2, none⟩ = some (.int .u8 k.l)) := ⟨c0', k0, k1, k2⟩
  go_region_held3 (fun w' => (w'.cell? ⟨s, 0, none⟩ = some (.slice (some ⟨g, 0, none⟩) T.length cb) ∧ w'.cell? ⟨w.heap.size, 0, none⟩ = some (.bool k.e) ∧ w'.cell? ⟨w.heap.size, 1, none⟩ = some (.int .u64 k.d) ∧ w'.cell? ⟨w.heap.size, 2, none⟩ = some (.int .u8 k.l)))
    (first | with_reducible exact hS1.out | with_reducible exact hS2.out | with_reducible exact hSS.out)
    (first | fail)
  all_goals go_wp2
  all_goals go_ret
  all_goals
    obtain ⟨V', m1, m2, m3⟩ := hmv.out
    exact ⟨rfl, V', m1.drew, m2.drew, m3⟩
end
end Go.Proofs.Ytbhkgbhgofefjaa
