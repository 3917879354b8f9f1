/-
  A heap's nodes as a tree: the first one below, the next one in the row; what joining two of them makes.
-/
import Derived.Test.YtbefehoegmmgpaaP9
namespace Go.Proofs.Ytbefehoegmmgpaa.Ph

inductive BT where
  | nil : BT
  | node (s : Nat) (c x : BT) : BT
def BT.root : BT → Nat
  | .nil => 0
  | .node s _ _ => s
def BT.spots : BT → List Nat
  | .nil => []
  | .node s c x => s :: (c.spots ++ x.spots)
/-- The row t, whose first one stands behind p (or below it). -/
def Linked (C A B : Nat → Nat) : Nat → BT → Prop
  | _, .nil => True
  | p, .node s c x => A s = p ∧ C s = c.root ∧ B s = x.root ∧ Linked C A B s c ∧ Linked C A B s x
/-- A tree by itself: r at its top, c below it. -/
def Tree (C A B : Nat → Nat) (r : Nat) (c : BT) : Prop := C r = c.root ∧ B r = 0 ∧ Linked C A B r c

theorem linked_congr {C A B C' A' B' : Nat → Nat} : ∀ (t : BT) (p : Nat), (∀ s ∈ t.spots, C' s = C s ∧ A' s = A s ∧ B' s = B s) → Linked C A B p t → Linked C' A' B' p t
  | .nil, _, _, _ => trivial
  | .node s c x, p, h, hl => by
    obtain ⟨h1, h2, h3, h4, h5⟩ := hl
    obtain ⟨a1, a2, a3⟩ := h s (by simp [BT.spots])
    exact ⟨a2.trans h1, a1.trans h2, a3.trans h3, linked_congr c s (fun y hy => h y (by simp [BT.spots, hy])) h4, linked_congr x s (fun y hy => h y (by simp [BT.spots, hy])) h5⟩
/-- The same row behind another one: only its first one's word of what is ahead of it turns. -/
theorem linked_move {C A B A' : Nat → Nat} (t : BT) (p q : Nat) (hn : t.spots.Nodup) (h0 : t.root ∈ t.spots → A' t.root = q) (h : ∀ s ∈ t.spots, s ≠ t.root → A' s = A s) (hl : Linked C A B p t) : Linked C A' B q t := by
  cases t with
  | nil => trivial
  | node s c x =>
    obtain ⟨h1, h2, h3, h4, h5⟩ := hl
    simp only [BT.spots, List.nodup_cons, List.mem_append, not_or] at hn
    refine ⟨h0 (by simp [BT.spots, BT.root]), h2, h3, ?_, ?_⟩
    · exact linked_congr c s (fun y hy => ⟨rfl, h y (by simp [BT.spots, hy]) (fun e => hn.1.1 (by rw [BT.root] at e; exact e ▸ hy)), rfl⟩) h4
    · exact linked_congr x s (fun y hy => ⟨rfl, h y (by simp [BT.spots, hy]) (fun e => hn.1.2 (by rw [BT.root] at e; exact e ▸ hy)), rfl⟩) h5

theorem root_zero {t : BT} (h : ∀ s ∈ t.spots, s ≠ 0) : t.root = 0 ↔ t = .nil := by
  cases t with
  | nil => simp [BT.root]
  | node s c x => simp [BT.root, h s (by simp [BT.spots])]
theorem root_mem {t : BT} (h : t ≠ .nil) : t.root ∈ t.spots := by
  cases t with
  | nil => exact absurd rfl h
  | node s c x => simp [BT.root, BT.spots]

/-- Two trees made one, as join does it. -/
theorem tree_join {C A B : Nat → Nat} {p q : Nat} {cp cq : BT} (hp : Tree C A B p cp) (hq : Tree C A B q cq) (hn : (p :: q :: (cq.spots ++ cp.spots)).Nodup) (h0 : ∀ s ∈ cp.spots, s ≠ 0) :
    Tree (upd C p q) (upd (if C p = 0 then A else upd A (C p) q) q p) (upd B q (C p)) p (.node q cq cp) := by
  obtain ⟨p1, p2, p3⟩ := hp
  obtain ⟨q1, q2, q3⟩ := hq
  simp only [List.nodup_cons, List.mem_cons, List.mem_append, not_or, List.nodup_append] at hn
  obtain ⟨⟨npq, npc, npd⟩, ⟨nqc, nqd⟩, hc, hd, hcd⟩ := hn
  have hqp : q ≠ p := fun e => npq e.symm
  refine ⟨by rw [upd_same]; rfl, by rw [upd_other _ _ _ _ npq]; exact p2, by rw [upd_same], by rw [upd_other _ _ _ _ hqp]; exact q1, by rw [upd_same]; exact p1, ?_, ?_⟩
  · refine linked_congr cq q (fun s hs => ⟨upd_other _ _ _ _ (fun e => npc (e ▸ hs)), ?_, upd_other _ _ _ _ (fun e => nqc (e ▸ hs))⟩) q3
    have hsq : s ≠ q := fun e => nqc (e ▸ hs)
    rw [upd_other _ _ _ _ hsq]
    by_cases hz : C p = 0
    · rw [if_pos hz]
    · rw [if_neg hz, upd_other]
      intro e
      have hne : cp ≠ .nil := fun q => hz (by rw [p1, q]; rfl)
      exact hcd s hs (C p) (by rw [p1]; exact root_mem hne) e
  · have hm : Linked C (upd (if C p = 0 then A else upd A (C p) q) q p) B q cp := by
      refine linked_move cp p q hd (fun hr => ?_) (fun s hs hne => ?_) p3
      · have hz : ¬ C p = 0 := by rw [p1]; exact h0 _ hr
        have hrq : cp.root ≠ q := fun e => nqd (e ▸ hr)
        rw [upd_other _ _ _ _ hrq, if_neg hz, p1, upd_same]
      · have hsq : s ≠ q := fun e => nqd (e ▸ hs)
        rw [upd_other _ _ _ _ hsq]
        by_cases hz : C p = 0
        · rw [if_pos hz]
        · rw [if_neg hz, upd_other _ _ _ _ (by rw [p1]; exact hne)]
    exact linked_congr cp q (fun s hs => ⟨upd_other _ _ _ _ (fun e => npd (e ▸ hs)), rfl, upd_other _ _ _ _ (fun e => nqd (e ▸ hs))⟩) hm

/-- Nothing below is before: le a b says that a may stand above b. -/
def Ord (le : Nat → Nat → Prop) : BT → Prop
  | .nil => True
  | .node s c x => (∀ y ∈ c.spots, le s y) ∧ Ord le c ∧ Ord le x
theorem ord_join {le : Nat → Nat → Prop} (tr : ∀ a b c, le a b → le b c → le a c) {p q : Nat} {cp cq : BT} (hpq : le p q) (hp : ∀ y ∈ cp.spots, le p y) (hq : ∀ y ∈ cq.spots, le q y) (op : Ord le cp) (oq : Ord le cq) :
    (∀ y ∈ (BT.node q cq cp).spots, le p y) ∧ Ord le (.node q cq cp) := by
  refine ⟨fun y hy => ?_, hq, oq, op⟩
  simp only [BT.spots, List.mem_cons, List.mem_append] at hy
  rcases hy with rfl | hy | hy
  · exact hpq
  · exact tr _ _ _ hpq (hq y hy)
  · exact hp y hy
end Go.Proofs.Ytbefehoegmmgpaa.Ph
