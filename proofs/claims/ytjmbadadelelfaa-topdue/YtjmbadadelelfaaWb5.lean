/- The walk of Advance. -/
import Derived.Test.YtjmbadadelelfaaWb4
namespace Go.Proofs.Ytjmbadadelelfaa
open Go.RowKit
set_option linter.unusedVariables false
set_option linter.unusedSimpArgs false
attribute [local go_sem ↓] Go.wp_at_zero Go.wp_at_succ
/-- Zeros at some spots. -/
def zAt {α : Type} (f : Nat → α) (z : α) (ps : List Nat) : Nat → α := fun p => if p ∈ ps then z else f p
theorem zAt_nil {α : Type} (f : Nat → α) (z : α) : zAt f z [] = f := by funext p; simp [zAt]
theorem zAt_more {α : Type} (f : Nat → α) (z : α) (ps : List Nat) (q : Nat) : zAt f z (ps ++ [q]) = upd (zAt f z ps) q z := by
  funext p
  show (if p ∈ ps ++ [q] then z else f p) = if p = q then z else if p ∈ ps then z else f p
  by_cases e : p = q
  · rw [if_pos (by simp [e]), if_pos e]
  · rw [if_neg (c := p = q) e]
    by_cases h : p ∈ ps
    · rw [if_pos (List.mem_append_left _ h), if_pos h]
    · rw [if_neg (fun x => by rcases List.mem_append.1 x with x | x; exact h x; simp at x; exact e x), if_neg h]
section
variable {w : World} {b g mb n nw ct s : Nat} {F L A B E F' L' : Nat → Nat} {T : Nat → Bool} {fr : Int → Option (Nat × Nat)} {S : List It}
theorem due_near (hs : Srt S) {to : Nat} (hle : nw ≤ to) (h : to / 64 = nw / 64) : upTo nw S (nw / 64 * 64) (to % 64 + 1) = due to S := by
  rw [upTo_eq hs]
  unfold due
  congr 1
  funext x
  rw [Bool.eq_iff_iff]
  simp only [decide_eq_true_eq, Bool.and_eq_true]
  have hk : ky nw x = x.t ∨ ky nw x = nw := by unfold ky; omega
  have hk1 : x.t ≤ ky nw x ∧ nw ≤ ky nw x := by unfold ky; omega
  constructor
  · rintro ⟨q1, q2⟩; omega
  · intro q; exact ⟨by omega, by omega⟩
theorem due_far (hi : Inv n nw ct F L fr A B E T S) {to : Nat} (hle : nw ≤ to) (h : nw / 64 < to / 64) {ls : List Nat} (hp : ls.Pairwise (· < ·)) (hm : ∀ k, k ∈ ls ↔ met fr to k) : upTo nw S (nw / 64 * 64) 64 ++ dueL to nw S ls = due to S := by
  have hs := hi.srt
  rw [upTo_eq hs]
  unfold dueL
  rw [many_eq hs nw _ (hp.filter _)]
  have hd := split_down (p := fun x => decide (ky nw x < nw / 64 * 64 + 64)) (hs.filter (fun x => decide (x.t ≤ to))) (fun a c hac hc => decide_eq_true (by have hc := of_decide_eq_true hc; unfold ky at *; omega))
  have e : due to S = S.filter (fun x => decide (x.t ≤ to)) := rfl
  rw [e, ← hd, List.filter_filter, List.filter_filter]
  congr 1
  · congr 1
    funext x
    rw [Bool.eq_iff_iff]
    simp only [decide_eq_true_eq, Bool.and_eq_true]
    have hk : ky nw x = x.t ∨ ky nw x = nw := by unfold ky; omega
    have hk1 : x.t ≤ ky nw x ∧ nw ≤ ky nw x := by unfold ky; omega
    constructor
    · rintro ⟨q1, q2⟩; exact ⟨by omega, by omega⟩
    · rintro ⟨q1, q2⟩; exact ⟨by omega, by omega⟩
  · apply List.filter_congr
    intro x hx
    rw [Bool.eq_iff_iff]
    simp only [decide_eq_true_eq, List.mem_filter, Bool.and_eq_true, Bool.not_eq_true', decide_eq_false_iff_not]
    constructor
    · rintro ⟨q1, q2⟩
      obtain ⟨k, e1, e2⟩ := hi.out _ ((hm _).1 q1).1
      unfold ky at *
      omega
    · rintro ⟨q1, q2⟩
      have h1 : nw / 64 < ky nw x / 64 := by omega
      have h2 : ky nw x ≤ to := by unfold ky; omega
      refine ⟨(hm _).2 ⟨?_, by omega⟩, h2⟩
      rcases hi.far (ky nw x) h1 with ⟨_, e2⟩ | ⟨f, l, e1, _⟩
      · have : x ∈ grp nw S (ky nw x) := mem_grp.2 ⟨hx, rfl⟩
        rw [e2] at this
        cases this
      · rw [e1]; rfl
/-- The slots and the map, behind what Advance swept and fetched. -/
structure Swept (n nw to : Nat) (F L : Nat → Nat) (fr : Int → Option (Nat × Nat)) (F' L' : Nat → Nat) (fr' : Int → Option (Nat × Nat)) : Prop where
  hs : ∀ s, s < 64 → if to / 64 * 64 + s ≤ to then F' s = 0 ∧ L' s = 0 else F' s = (lst nw F L fr (to / 64 * 64 + s)).1 ∧ L' s = (lst nw F L fr (to / 64 * 64 + s)).2
  hf : ∀ k : Nat, to / 64 < k / 64 → fr' (k : Int) = fr (k : Int)
  ho : ∀ i : Int, (fr' i).isSome = true → ∃ k : Nat, i = (k : Int) ∧ to / 64 < k / 64
theorem swept_near (hi : Inv n nw ct F L fr A B E T S) {to : Nat} (h : to / 64 = nw / 64) : Swept n nw to F L fr (cut0 (to % 64 + 1) F) (cut0 (to % 64 + 1) L) fr := by
  refine ⟨fun s hs => ?_, fun k hk => rfl, fun i hi' => ?_⟩
  · unfold cut0 lst
    by_cases e : to / 64 * 64 + s ≤ to
    · have h1 : s < to % 64 + 1 := by omega
      rw [if_pos e, if_pos h1, if_pos h1]
      exact ⟨rfl, rfl⟩
    · have h1 : ¬ s < to % 64 + 1 := by omega
      have h2 : (to / 64 * 64 + s) / 64 = nw / 64 := by omega
      rw [if_neg e, if_neg h1, if_neg h1, if_pos h2, show (to / 64 * 64 + s) % 64 = s by omega]
      exact ⟨rfl, rfl⟩
  · obtain ⟨k, e, hk⟩ := hi.out i hi'
    exact ⟨k, e, by omega⟩
theorem swept_far (hi : Inv n nw ct F L fr A B E T S) {to : Nat} (h : nw / 64 < to / 64) {ls : List Nat} (hm : ∀ k, k ∈ ls ↔ met fr to k) : Swept n nw to F L fr (ffF to fr ls) (ffL to fr ls) (frL fr ls) := by
  refine ⟨fun s hs => ?_, fun k hk => ?_, fun i hi' => ?_⟩
  · by_cases e : to / 64 * 64 + s ≤ to
    · rw [if_pos e]
      have h1 : ¬ (to < to / 64 * 64 + s ∧ (to / 64 * 64 + s) ∈ ls) := fun q => by omega
      unfold ffF ffL
      rw [if_neg h1, if_neg h1]
      exact ⟨rfl, rfl⟩
    · rw [if_neg e]
      unfold ffF ffL lst
      rw [if_neg (c := (to / 64 * 64 + s) / 64 = nw / 64) (by omega)]
      by_cases q : (to / 64 * 64 + s) ∈ ls
      · rw [if_pos ⟨by omega, q⟩, if_pos ⟨by omega, q⟩]
        exact ⟨rfl, rfl⟩
      · rw [if_neg (fun x => q x.2), if_neg (fun x => q x.2)]
        have : fr ((to / 64 * 64 + s : Nat) : Int) = none := by
          cases hx : fr ((to / 64 * 64 + s : Nat) : Int) with
          | none => rfl
          | some z => exact absurd ((hm _).2 ⟨by rw [hx]; rfl, by omega⟩) q
        rw [this]
        exact ⟨rfl, rfl⟩
  · exact frL_at (fun q => by have := ((hm k).1 q).2; omega)
  · unfold frL at hi'
    split at hi'
    · cases hi'
    · rename_i q
      obtain ⟨k, e, hk⟩ := hi.out i hi'
      refine ⟨k, e, ?_⟩
      apply Classical.byContradiction
      intro hc
      exact q (List.mem_map.2 ⟨k, (hm k).2 ⟨by rw [← e]; exact hi', by omega⟩, e.symm⟩)
theorem Inv.advance (hi : Inv n nw ct F L fr A B E T S) {fr' : Int → Option (Nat × Nat)} {to : Nat} (hto : nw ≤ to) (ht : to < 18446744073709551616) (h : Swept n nw to F L fr F' L' fr') :
    Inv n to (late to S).length F' L' fr' (zAt A 0 (spots (due to S))) (zAt B 0 (spots (due to S))) (zAt E 0 (spots (due to S))) (zAt T false (spots (due to S))) (late to S) := by
  have hno : ∀ y ∈ S, to < y.t → y.i + 1 ∉ spots (due to S) := fun y hy hy2 q => by
    obtain ⟨z, hz, e⟩ := mem_spots.1 q
    obtain ⟨h1, h2⟩ := mem_due.1 hz
    have := nd_eq hi.nd h1 hy (by omega)
    rw [this] at h2
    omega
  refine hi.adv to hto ht h.hs h.hf h.ho (fun y hy hy2 => ?_) (fun p hp hq => ?_)
  · have := hno y hy hy2
    unfold zAt
    rw [if_neg this, if_neg this, if_neg this, if_neg this]
    exact ⟨rfl, rfl, rfl, rfl⟩
  · unfold zAt
    by_cases e : p ∈ spots (due to S)
    · rw [if_pos e, if_pos e]; exact ⟨rfl, rfl⟩
    · rw [if_neg e, if_neg e]
      refine hi.zer p hp (fun x hx e' => ?_)
      by_cases hx2 : x.t ≤ to
      · exact e (mem_spots.2 ⟨x, mem_due.2 ⟨hx, hx2⟩, e'⟩)
      · exact hq x hx (by omega) e'
end
end Go.Proofs.Ytjmbadadelelfaa
