/- One wheel alone; what is set is there. -/
import Derived.Test.YtjmbadadelelfaaWc7
namespace Go.Proofs.Ytjmbadadelelfaa
open Go.RowKit Go.Lib
set_option linter.unusedVariables false
set_option linter.unusedSimpArgs false
set_option maxRecDepth 100000
attribute [local go_sem ↓] Go.wp_at_zero Go.wp_at_succ
/-- The program's wheel alone, in blocks from lo on. -/
structure Sol (w : World) (lo b g mb n nw : Nat) (S : List It) : Prop where
  p : IsW w b g mb n nw S
  lo : ∀ k, O3 b g mb k → lo ≤ k
section
variable {w w' : World} {lo base b g mb rb n nw : Nat} {S : List It}
theorem Bth.sol (h : Bth w lo base b g mb rb n nw S) : Sol w lo b g mb n nw S := ⟨h.p, fun k hk => (h.lt k hk).1⟩
theorem Sol.below (h : Sol w lo b g mb n nw S) (hb : Below w.heap.size w w') : Sol w' lo b g mb n nw S := ⟨h.p.below hb, h.lo⟩
theorem Sol.low (h : Sol w lo b g mb n nw S) : lo ≤ w.heap.size := by have := h.lo b (.inl rfl); have := h.p.blocks b (.inl rfl); omega
theorem Sol.fr (h : Sol w lo b g mb n nw S) (hf : Fr (O3 b g mb) w w') : Below lo w w' := hf.below h.low h.lo
theorem Sol.set (h : Sol w lo b g mb n nw S) (id : Int) (t : Nat) (ht : t < 18446744073709551616) :
    Calls Try.prog 21 #[.pointer (some ⟨b, 0, none⟩), .int .i64 id, .int .u64 (t : Int)] w fun e w' => e = .returned (.int .i64 (setC n S id)) ∧ Sol w' lo b g mb n nw (setS n S id t) ∧ Below lo w w' :=
  (set_ok h.p id t ht).mono (fun _ _ q => ⟨q.1, ⟨q.2.1, h.lo⟩, h.fr q.2.2⟩)
theorem Sol.cancel (h : Sol w lo b g mb n nw S) (id : Int) :
    Calls Try.prog 22 #[.pointer (some ⟨b, 0, none⟩), .int .i64 id] w fun e w' => e = .returned (.int .i64 (canC n S id)) ∧ Sol w' lo b g mb n nw (canS n S id) ∧ Below lo w w' :=
  (cancel_ok h.p id).mono (fun _ _ q => ⟨q.1, ⟨q.2.1, h.lo⟩, h.fr q.2.2⟩)
theorem Sol.advance (h : Sol w lo b g mb n nw S) (hn : n ≤ 12) (to : Nat) (ht : to < 18446744073709551616) :
    Calls Try.prog 16 #[.pointer (some ⟨b, 0, none⟩), .int .u64 (to : Int)] w fun e w' => (∃ v, e = .returned v ∧ w'.ownsRow w.heap.size 3 1 v (due (max to nw) S).length (iv (spots (due (max to nw) S)))) ∧ Sol w' lo b g mb n (max to nw) (late (max to nw) S) ∧ Below lo w w' :=
  (advance_ok h.p 12 sorts12 hn to ht).mono (fun _ _ q => ⟨q.1, ⟨q.2.1, h.lo⟩, h.fr q.2.2⟩)
/-- Set, then Set, Cancel, Cancel again, of an id that was not there. -/
theorem set_then (h : IsW w b g mb n nw S) (id : Int) (t : Nat) (hc : setC n S id = 0) : atB n S id = false ∧ atT n (setS n S id t) id = t ∧ atB n (setS n S id t) id = true ∧ setC n (setS n S id t) id = 5 ∧ setS n (setS n S id t) id 0 = setS n S id t ∧ canC n (setS n S id t) id = 0 ∧ canC n (canS n (setS n S id t) id) id = 6 := by
  obtain ⟨hs, hnd, hlt, htm, hnw, hlen, hn⟩ := h.facts
  have hr : ¬ (id < 0 ∨ (n : Int) ≤ id) := fun q => by unfold setC at hc; rw [if_pos q] at hc; cases hc
  have hr2 : 0 ≤ id ∧ id < (n : Int) := by omega
  obtain ⟨i, rfl⟩ := Int.eq_ofNat_of_zero_le hr2.1
  have hx : tmOf S (i : Int) = none := by
    cases hx : tmOf S (i : Int) with
    | none => rfl
    | some t0 => unfold setC at hc; rw [if_neg hr, hx] at hc; cases hc
  have hS : setS n S (i : Int) t = ins ⟨i, t⟩ S := by unfold setS; rw [if_pos hc]; rfl
  have hno := tmOf_none.1 hx
  have hnd2 : ((ins ⟨i, t⟩ S).map (·.i)).Nodup := by
    refine ((ins_perm (x := ⟨i, t⟩) hs).map (·.i)).nodup_iff.2 ?_
    rw [List.map_cons, List.nodup_cons]
    refine ⟨fun q => ?_, hnd⟩
    obtain ⟨y, hy, e⟩ := List.mem_map.1 q
    exact hno y hy e
  have ht1 : tmOf (ins ⟨i, t⟩ S) (i : Int) = some t := (tmOf_some hnd2).2 (mem_ins.2 (.inl rfl))
  have hc5 : setC n (ins ⟨i, t⟩ S) (i : Int) = 5 := by unfold setC; rw [if_neg hr, ht1]; rfl
  have hc0 : canC n (ins ⟨i, t⟩ S) (i : Int) = 0 := by unfold canC; rw [if_neg hr, ht1]; rfl
  have hcS : canS n (ins ⟨i, t⟩ S) (i : Int) = rem i (ins ⟨i, t⟩ S) := by unfold canS; rw [if_pos hc0]; rfl
  rw [hS]
  refine ⟨?_, ?_, ?_, hc5, ?_, hc0, ?_⟩
  · unfold atB; rw [if_pos hr2, hx]; rfl
  · unfold atT; rw [if_pos hr2, ht1]; rfl
  · unfold atB; rw [if_pos hr2, ht1]; rfl
  · unfold setS; rw [if_neg (by rw [hc5]; decide)]
  · rw [hcS]
    have : tmOf (rem i (ins ⟨i, t⟩ S)) (i : Int) = none := tmOf_none.2 (fun x hx => (mem_rem.1 hx).2)
    unfold canC
    rw [if_neg hr, this]
    rfl
theorem set_not (h : IsW w b g mb n nw S) (id : Int) (hc : setC n S id ≠ 0) : setC n S id = 2 ∨ (setC n S id = 5 ∧ atB n S id = true) := by
  by_cases hr : id < 0 ∨ (n : Int) ≤ id
  · exact .inl (if_pos hr)
  · have hr2 : 0 ≤ id ∧ id < (n : Int) := by omega
    cases hx : tmOf S id with
    | none => exact absurd (by unfold setC; rw [if_neg hr, hx]; rfl) hc
    | some t0 => exact .inr ⟨by unfold setC; rw [if_neg hr, hx]; rfl, by unfold atB; rw [if_pos hr2, hx]; rfl⟩
end
end Go.Proofs.Ytjmbadadelelfaa
