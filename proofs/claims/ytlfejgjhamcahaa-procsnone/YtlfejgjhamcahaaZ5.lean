/-
  All processors' sets: the set of an id's place.
-/
import Derived.Test.YtlfejgjhamcahaaZ4
namespace Go.Proofs.Ytlfejgjhamcahaa
open Go.RowKit Go.Lib
attribute [local go_sem ↓] Go.wp_at_zero Go.wp_at_succ

section
variable {w : World} {base lo pb mb n np q : Nat} {v : Value} {H : List Hd}
theorem IsP.rows (h : IsP w base lo pb mb n np q v H) : ∃ g cap, v = .slice (some ⟨g, 0, none⟩) (np + 1) cap ∧ base ≤ g ∧ g < w.heap.size ∧ ∀ (i : Nat) (x : Hd), H[i]? = some x → w.cell? ⟨g, i, none⟩ = some (.pointer (some ⟨x.sb, 0, none⟩)) := by
  have hl := h.len
  obtain ⟨g, cap, e, h1, h2⟩ := World.ownsRow.form h.row (by omega)
  have e' := e
  rw [hl] at e'
  refine ⟨g, cap, e', h1, h2, fun i x hx => ?_⟩
  have hi : i < H.length := (List.getElem?_eq_some_iff.1 hx).1
  have hr := h.row
  rw [e] at hr
  rw [World.ownsRow.cellAt hr i (by omega)]
  unfold ptrs
  rw [List.getElem?_map, hx]
  rfl
theorem pset_at (h : IsP w base lo pb mb n np q v H) (id : Int) (hi : (Lit.int .i64 id).wf = true) (i : Nat) (x : Hd) (hx : H[i]? = some x) (hw : whereF n H 0 id = some (i : Int)) :
    Calls Try.prog 57 #[.pointer (some ⟨pb, 0, none⟩), .int .i64 id] w fun e w' => e = .returned (.pointer (some ⟨x.sb, 0, none⟩)) ∧ w' = w := by
  have c1 := h.c1
  have hl := h.map.look id hi
  rw [hw] at hl
  simp only [Option.getD_some, Option.isSome_some] at hl
  obtain ⟨g, cap, e, _, _, hc⟩ := h.rows
  have c0 := h.c0
  rw [e] at c0
  have hc' := hc i x hx
  have hil : i < np + 1 := by have := (List.getElem?_eq_some_iff.1 hx).1; have := h.len; omega
  have hnp := h.np1
  clear h hc hw hx
  go_enter Try.func57, Try.ntmps57
  go_wp2
  go_ret
  exact ⟨rfl, rfl⟩
theorem pshared_c (W : World) (pb np : Nat) (a : Option Addr) (c : Nat) (hnp : np ≤ 64) (c0 : W.cell? ⟨pb, 0, none⟩ = some (.slice a (np + 1) c)) :
    Calls Try.prog 51 #[.pointer (some ⟨pb, 0, none⟩)] W fun e w' => e = .returned (.int .i64 (np : Int)) ∧ w' = W := by
  have hw := wrap_np np hnp
  go_enter Try.func51, Try.ntmps51
  go_wp2
  go_ret
  exact ⟨by first | rfl | (simp; omega), rfl⟩
set_option maxRecDepth 20000 in
theorem pset_no (h : IsP w base lo pb mb n np q v H) (id : Int) (hi : (Lit.int .i64 id).wf = true) (x : Hd) (hx : H[np]? = some x) (hw : whereF n H 0 id = none) :
    Calls Try.prog 57 #[.pointer (some ⟨pb, 0, none⟩), .int .i64 id] w fun e w' => e = .returned (.pointer (some ⟨x.sb, 0, none⟩)) ∧ Below w.heap.size w w' := by
  have c1 := h.c1
  have hl := h.map.look id hi
  rw [hw] at hl
  simp only [Option.getD_none, Option.isSome_none] at hl
  obtain ⟨g, cap, e, _, _, hc⟩ := h.rows
  have c0 := h.c0
  rw [e] at c0
  have hc' := hc np x hx
  have hnp := h.np1
  have HS := veil (fun W h0 => pshared_c W pb np (some ⟨g, 0, none⟩) cap hnp.2 h0)
  have C0 := veil c0
  have b0 : (0 : Int) ≤ (np : Int) := by omega
  have b1 : (np : Int) < (np : Int) + 1 := by omega
  have b2 : (np : Int) < ((np + 1 : Nat) : Int) := by omega
  have b3 : np < np + 1 := by omega
  have b4 : ¬ (np : Int) < 0 := by omega
  clear h hc hw hx
  go_enter Try.func57, Try.ntmps57
  go_wp2
  go_region_held3 (fun w' => w'.cell? ⟨pb, 0, none⟩ = some (.slice (some ⟨g, 0, none⟩) (np + 1) cap) ∧ w'.cell? ⟨g, np, none⟩ = some (.pointer (some ⟨x.sb, 0, none⟩)))
    (first
      | go_keep)
    (first
      | (go_at_call 51; refine (HS.out _ (by exact C0.out)).mono ?_; rintro e w1 ⟨rfl, hw⟩; replace hw := hw.symm; subst hw))
  go_wp2
  go_ret
  exact ⟨rfl, by first | exact Below.refl _ _ | exact below_drewN (Below.refl _ _) _ | exact below_drewN (Below.refl _ _) 1⟩
end
end Go.Proofs.Ytlfejgjhamcahaa
