/- A wheel and its Fork; what is due, and what is left. -/
import Derived.Test.YtjmbadadelelfaaWd1
namespace Go.Proofs.Ytjmbadadelelfaa
open Go.RowKit Go.Lib
set_option linter.unusedVariables false
set_option linter.unusedSimpArgs false
set_option maxRecDepth 100000
/-- A wheel in blocks from lo on and below mid, another one in blocks from mid on. -/
structure Two (w : World) (lo mid b g mb n nw : Nat) (S : List It) (b' g' mb' nw' : Nat) (S' : List It) : Prop where
  p : Sol w lo b g mb n nw S
  q : Sol w mid b' g' mb' n nw' S'
  lt : ∀ k, O3 b g mb k → k < mid
section
variable {w w' : World} {lo mid b g mb n nw b' g' mb' nw' : Nat} {S S' : List It}
theorem Two.below (h : Two w lo mid b g mb n nw S b' g' mb' nw' S') (hb : Below w.heap.size w w') : Two w' lo mid b g mb n nw S b' g' mb' nw' S' := ⟨h.p.below hb, h.q.below hb, h.lt⟩
theorem Two.fork (h : Sol w lo b g mb n nw S) :
    Calls Try.prog 14 #[.pointer (some ⟨b, 0, none⟩)] w fun e w' => ∃ b' g' mb', e = .returned (.pointer (some ⟨b', 0, none⟩)) ∧ Two w' lo w.heap.size b g mb n nw S b' g' mb' nw S ∧ Below w.heap.size w w' :=
  (fork_ok h.p).mono (fun _ _ ⟨b', g', mb', e, hlt, hq, hb⟩ => ⟨b', g', mb', e, ⟨h.below hb, ⟨hq, hlt⟩, h.p.blocks⟩, hb⟩)
/-- The first advances. -/
theorem Two.advP (h : Two w lo mid b g mb n nw S b' g' mb' nw' S') (hn : n ≤ 12) (to : Nat) (ht : to < 18446744073709551616) :
    Calls Try.prog 16 #[.pointer (some ⟨b, 0, none⟩), .int .u64 (to : Int)] w fun e w' => (∃ v, e = .returned v ∧ w'.ownsRow w.heap.size 3 1 v (due (max to nw) S).length (iv (spots (due (max to nw) S)))) ∧ Two w' lo mid b g mb n (max to nw) (late (max to nw) S) b' g' mb' nw' S' ∧ Fr (O3 b g mb) w w' ∧ Below lo w w' :=
  (advance_ok h.p.p 12 sorts12 hn to ht).mono (fun _ _ q => ⟨q.1, ⟨⟨q.2.1, h.p.lo⟩, ⟨h.q.p.frame q.2.2 (fun k hk hz => by have := h.q.lo k hk; have := h.lt k hz; omega), h.q.lo⟩, h.lt⟩, q.2.2, h.p.fr q.2.2⟩)
/-- The second advances. -/
theorem Two.advQ (h : Two w lo mid b g mb n nw S b' g' mb' nw' S') (hn : n ≤ 12) (to : Nat) (ht : to < 18446744073709551616) :
    Calls Try.prog 16 #[.pointer (some ⟨b', 0, none⟩), .int .u64 (to : Int)] w fun e w' => (∃ v, e = .returned v ∧ w'.ownsRow w.heap.size 3 1 v (due (max to nw') S').length (iv (spots (due (max to nw') S')))) ∧ Two w' lo mid b g mb n nw S b' g' mb' (max to nw') (late (max to nw') S') ∧ Fr (O3 b' g' mb') w w' ∧ Below mid w w' :=
  (advance_ok h.q.p 12 sorts12 hn to ht).mono (fun _ _ q => ⟨q.1, ⟨⟨h.p.p.frame q.2.2 (fun k hk hz => by have := h.q.lo k hz; have := h.lt k hk; omega), h.p.lo⟩, ⟨q.2.1, h.q.lo⟩, h.lt⟩, q.2.2, h.q.fr q.2.2⟩)
theorem Two.mid_le (h : Two w lo mid b g mb n nw S b' g' mb' nw' S') : lo ≤ mid := by
  have := h.p.lo b (.inl rfl)
  have := h.lt b (.inl rfl)
  omega
/-- A row of ids, as a loop reads it. -/
def Ids (w : World) (base : Nat) (a : Option Addr) (xs : List It) : Prop := xs.length = 0 ∨ ∃ g, a = some ⟨g, 0, none⟩ ∧ base ≤ g ∧ g < w.heap.size ∧ ∀ j, j < xs.length → w.cell? ⟨g, j, none⟩ = some (.int .i64 ((xs.getD j ⟨0, 0⟩).i : Int))
theorem Ids.of {v : Value} {base : Nat} {xs : List It} (h : w.ownsRow base 3 1 v xs.length (iv (spots xs))) : ∃ a c, v = .slice a xs.length c ∧ Ids w base a xs := by
  by_cases hx : xs.length = 0
  · obtain ⟨a, c, rfl⟩ := own_slice h
    exact ⟨a, c, rfl, .inl hx⟩
  · have hI := IL_of h
    obtain ⟨g, c, rfl, h1, h2, h3⟩ := hI.cells (fun e => hx (by rw [← idl_len, e]; rfl))
    rw [idl_len] at *
    refine ⟨some ⟨g, 0, none⟩, c, rfl, .inr ⟨g, rfl, h1, h2, fun j hj => ?_⟩⟩
    rw [h3 j hj]
    unfold idl
    simp [List.getD, hj]
theorem Ids.below {base : Nat} {a : Option Addr} {xs : List It} (h : Ids w base a xs) (hb : Below w.heap.size w w') : Ids w' base a xs := by
  rcases h with h | ⟨g, e, h1, h2, h3⟩
  · exact .inl h
  · exact .inr ⟨g, e, h1, Nat.lt_of_lt_of_le h2 hb.size, fun j hj => (hb.cell (p := ⟨g, j, none⟩) h2).trans (h3 j hj)⟩
theorem Ids.fr {base : Nat} {a : Option Addr} {xs : List It} {Z : Nat → Prop} (h : Ids w base a xs) (hb : Fr Z w w') (hz : ∀ k, Z k → k < base) : Ids w' base a xs := by
  rcases h with h | ⟨g, e, h1, h2, h3⟩
  · exact .inl h
  · exact .inr ⟨g, e, h1, Nat.lt_of_lt_of_le h2 hb.size, fun j hj => (hb.cell (a := ⟨g, j, none⟩) h2 (fun q => by have := hz _ q; simp at this; omega)).trans (h3 j hj)⟩
/-- What is due was there, at a time that has come, and is there no more. -/
theorem due_at (h : IsW w b g mb n nw S) (to : Nat) {x : It} (hx : x ∈ due to S) : atT n S (x.i : Int) = x.t ∧ atB n S (x.i : Int) = true ∧ atB n (late to S) (x.i : Int) = false ∧ x.t ≤ to := by
  obtain ⟨hs, hnd, hlt, htm, hnw, hlen, hn⟩ := h.facts
  obtain ⟨h1, h2⟩ := mem_due.1 hx
  have hin : (0 : Int) ≤ (x.i : Int) ∧ (x.i : Int) < (n : Int) := by have := hlt x h1; omega
  have ht : tmOf S (x.i : Int) = some x.t := (tmOf_some hnd).2 h1
  refine ⟨?_, ?_, ?_, h2⟩
  · unfold atT; rw [if_pos hin, ht]; rfl
  · unfold atB; rw [if_pos hin, ht]; rfl
  · have : tmOf (late to S) (x.i : Int) = none := tmOf_none.2 (fun y hy e => by
      obtain ⟨g1, g2⟩ := mem_late.1 hy
      have := nd_eq hnd g1 h1 e
      rw [this] at g2
      omega)
    unfold atB
    rw [if_pos hin, this]
    rfl
theorem due_late_nil (to : Nat) (S : List It) : due to (late to S) = [] := List.eq_nil_iff_forall_not_mem.2 (fun x hx => by
  obtain ⟨h1, h2⟩ := mem_due.1 hx
  obtain ⟨_, h3⟩ := mem_late.1 h1
  omega)
theorem late_len (hs : Srt S) (to : Nat) : (late to S).length = S.length - (due to S).length ∧ (due to S).length ≤ S.length := by
  have := congrArg List.length (due_late hs to)
  rw [List.length_append] at this
  omega
theorem late_next (to : Nat) (S : List It) : nxB (late to S) = false ∨ (nxB (late to S) = true ∧ to < nxT (late to S)) := by
  cases hL : late to S with
  | nil => exact .inl rfl
  | cons x l => exact .inr ⟨rfl, (mem_late.1 (by rw [hL]; simp : x ∈ late to S)).2⟩
/-- Times from the i-th on are not below l. -/
def Asc (L : List It) (i l : Nat) : Prop := ∀ j, i ≤ j → j < L.length → l ≤ (L.getD j ⟨0, 0⟩).t
theorem Asc.next {L : List It} (hs : Srt L) {i : Nat} (hi : i < L.length) : Asc L (i + 1) (L.getD i ⟨0, 0⟩).t := by
  intro j h1 h2
  have := List.pairwise_iff_getElem.1 hs i j hi h2 (by omega)
  simp [List.getD, hi, h2]
  exact this
theorem getD_mem {L : List It} {i : Nat} (hi : i < L.length) : L.getD i ⟨0, 0⟩ ∈ L := by
  simp [List.getD, hi]
/-- In two steps as in one. -/
theorem due_due (hs : Srt S) {a c : Nat} (h : a ≤ c) : due a S ++ due c (late a S) = due c S ∧ late c (late a S) = late c S := by
  constructor
  · have e1 : due a S = due a (due c S) := by
      unfold due
      rw [List.filter_filter]
      apply List.filter_congr
      intro x _
      by_cases q : x.t ≤ a
      · have : x.t ≤ c := by omega
        simp [q, this]
      · simp [q]
    have e2 : due c (late a S) = late a (due c S) := by
      unfold due late
      rw [List.filter_filter, List.filter_filter]
      apply List.filter_congr
      intro x _
      exact Bool.and_comm _ _
    rw [e1, e2]
    exact due_late (hs.filter _) a
  · unfold late
    rw [List.filter_filter]
    apply List.filter_congr
    intro x _
    by_cases q : x.t ≤ a
    · have : x.t ≤ c := by omega
      simp [q, this]
    · simp [q]
end
end Go.Proofs.Ytjmbadadelelfaa
