/-
  Rows of trees, whose word of what is ahead of them is stale: what a step of pair makes of two neighbours.
-/
import Derived.Test.YtbefehoegmmgpaaP12
namespace Go.Proofs.Ytbefehoegmmgpaa.Ph

/-- A row of trees of which nothing is said as to what stands ahead of each. -/
def Row (C A B : Nat → Nat) : BT → Prop
  | .nil => True
  | .node s c x => C s = c.root ∧ B s = x.root ∧ Linked C A B s c ∧ Row C A B x
theorem linked_row {C A B : Nat → Nat} : ∀ (t : BT) (p : Nat), Linked C A B p t → Row C A B t
  | .nil, _, _ => trivial
  | .node s _ x, _, ⟨_, h2, h3, h4, h5⟩ => ⟨h2, h3, h4, linked_row x s h5⟩
theorem row_congr {C A B C' A' B' : Nat → Nat} : ∀ (t : BT), (∀ s ∈ t.spots, C' s = C s ∧ A' s = A s ∧ B' s = B s) → Row C A B t → Row C' A' B' t
  | .nil, _, _ => trivial
  | .node s c x, h, ⟨h2, h3, h4, h5⟩ => by
    obtain ⟨a1, _, a3⟩ := h s (by simp [BT.spots])
    exact ⟨a1.trans h2, a3.trans h3, linked_congr c s (fun y hy => h y (by simp [BT.spots, hy])) h4, row_congr x (fun y hy => h y (by simp [BT.spots, hy])) h5⟩

def joC (C : Nat → Nat) (p q : Nat) : Nat → Nat := upd C p q
def joA (C A : Nat → Nat) (p q : Nat) : Nat → Nat := upd (if C p = 0 then A else upd A (C p) q) q p
def joB (C B : Nat → Nat) (p q : Nat) : Nat → Nat := upd B q (C p)

/-- What join leaves as it was. -/
theorem jo_off {C A B : Nat → Nat} {p q : Nat} {cp : BT} (h : C p = cp.root) {y : Nat} (h1 : y ≠ p) (h2 : y ≠ q) (h3 : y ∉ cp.spots) :
    joC C p q y = C y ∧ joA C A p q y = A y ∧ joB C B p q y = B y := by
  refine ⟨upd_other _ _ _ _ h1, ?_, upd_other _ _ _ _ h2⟩
  rw [joA, upd_other _ _ _ _ h2]
  by_cases hz : C p = 0
  · rw [if_pos hz]
  · rw [if_neg hz, upd_other]
    intro e
    have hne : cp ≠ .nil := fun q => hz (by rw [h, q]; rfl)
    exact h3 (by rw [e, h]; exact root_mem hne)
/-- The below of what join makes, whatever stood behind the two. -/
theorem linked_join {C A B : Nat → Nat} {p q : Nat} {cp cq : BT} (p1 : C p = cp.root) (p3 : Linked C A B p cp) (q1 : C q = cq.root) (q3 : Linked C A B q cq) (hn : (p :: q :: (cq.spots ++ cp.spots)).Nodup) (h0 : ∀ s ∈ cp.spots, s ≠ 0) :
    Linked (joC C p q) (joA C A p q) (joB C B p q) p (.node q cq cp) := by
  have hb : ∀ s ∈ p :: (cq.spots ++ cp.spots), s ≠ q := by
    intro s hs e
    subst e
    simp only [List.nodup_cons, List.mem_cons, List.mem_append, not_or] at hn hs
    rcases hs with hs | hs | hs
    · exact hn.1.1 hs.symm
    · exact hn.2.1.1 hs
    · exact hn.2.1.2 hs
  have key := tree_join (C := C) (A := A) (B := upd (upd B p 0) q 0) (p := p) (q := q) (cp := cp) (cq := cq)
    ⟨p1, by rw [upd_other _ _ _ _ (hb p (by simp)), upd_same], linked_congr cp p (fun s hs => ⟨rfl, rfl, by
      rw [upd_other _ _ _ _ (hb s (by simp [hs])), upd_other]
      intro e; subst e; simp only [List.nodup_cons, List.mem_cons, List.mem_append, not_or] at hn; exact hn.1.2.2 hs⟩) p3⟩
    ⟨q1, upd_same _ _ _, linked_congr cq q (fun s hs => ⟨rfl, rfl, by
      rw [upd_other _ _ _ _ (hb s (by simp [hs])), upd_other]
      intro e; subst e; simp only [List.nodup_cons, List.mem_cons, List.mem_append, not_or] at hn; exact hn.1.2.1 hs⟩) q3⟩ hn h0
  refine linked_congr (.node q cq cp) p (fun s hs => ⟨rfl, rfl, ?_⟩) key.2.2
  simp only [BT.spots, List.mem_cons, List.mem_append] at hs
  by_cases e : s = q
  · subst e; rw [joB, upd_same, upd_same]
  · have hsp : s ≠ p := by
      intro e'; subst e'; simp only [List.nodup_cons, List.mem_cons, List.mem_append, not_or] at hn
      rcases hs with hs | hs | hs
      · exact hn.1.1 hs
      · exact hn.1.2.1 hs
      · exact hn.1.2.2 hs
    rw [joB, upd_other _ _ _ _ e, upd_other _ _ _ _ e, upd_other _ _ _ _ e, upd_other _ _ _ _ hsp]

/-- A step of pair: p and q are two neighbours, in whichever order join put them; the one of them at the top goes ahead of what is made. -/
theorem row_step {C A B : Nat → Nat} {p q : Nat} {cp cq rest m : BT} (p1 : C p = cp.root) (p3 : Linked C A B p cp) (q1 : C q = cq.root) (q3 : Linked C A B q cq) (hr : Row C A B rest) (hm : Row C A B m)
    (hn : (p :: q :: (cq.spots ++ cp.spots)).Nodup) (h0 : ∀ s ∈ cp.spots, s ≠ 0)
    (hd : ∀ s, s ∈ rest.spots ∨ s ∈ m.spots → s ≠ p ∧ s ≠ q ∧ s ∉ cp.spots) :
    Row (joC C p q) (joA C A p q) (upd (joB C B p q) p m.root) (.node p (.node q cq cp) m) ∧ Row (joC C p q) (joA C A p q) (upd (joB C B p q) p m.root) rest ∧
    ∀ y, y ≠ p → y ≠ q → y ∉ cp.spots → joC C p q y = C y ∧ joA C A p q y = A y ∧ upd (joB C B p q) p m.root y = B y := by
  have hl := linked_join p1 p3 q1 q3 hn h0
  have off : ∀ y, y ≠ p → y ≠ q → y ∉ cp.spots → joC C p q y = C y ∧ joA C A p q y = A y ∧ upd (joB C B p q) p m.root y = B y := by
    intro y h1 h2 h3
    obtain ⟨a, b, c⟩ := jo_off (A := A) (B := B) p1 h1 h2 h3
    exact ⟨a, b, by rw [upd_other _ _ _ _ h1]; exact c⟩
  refine ⟨⟨by rw [joC, upd_same]; rfl, upd_same _ _ _, ?_, row_congr m (fun s hs => ?_) hm⟩, row_congr rest (fun s hs => ?_) hr, off⟩
  · refine linked_congr (.node q cq cp) p (fun s hs => ⟨rfl, rfl, upd_other _ _ _ _ ?_⟩) hl
    intro e; subst e
    simp only [BT.spots, List.nodup_cons, List.mem_cons, List.mem_append, not_or] at hn hs
    rcases hs with hs | hs | hs
    · exact hn.1.1 hs
    · exact hn.1.2.1 hs
    · exact hn.1.2.2 hs
  · obtain ⟨a, b, c⟩ := hd s (.inr hs); exact off s a b c
  · obtain ⟨a, b, c⟩ := hd s (.inl hs); exact off s a b c
/-- The odd one at a row's end. -/
theorem row_odd {C A B : Nat → Nat} {p : Nat} {cp m : BT} (p1 : C p = cp.root) (p3 : Linked C A B p cp) (hm : Row C A B m) (hc : p ∉ cp.spots) (hd : p ∉ m.spots) :
    Row C A (upd B p m.root) (.node p cp m) :=
  ⟨p1, upd_same _ _ _, linked_congr cp p (fun _ hs => ⟨rfl, rfl, upd_other _ _ _ _ (fun e => hc (e ▸ hs))⟩) p3, row_congr m (fun _ hs => ⟨rfl, rfl, upd_other _ _ _ _ (fun e => hd (e ▸ hs))⟩) hm⟩
/-- How many stand in a row. -/
def BT.wide : BT → Nat
  | .nil => 0
  | .node _ _ x => x.wide + 1
end Go.Proofs.Ytbefehoegmmgpaa.Ph
