/-
  A node cut out of a tree: what cut makes of the links.
-/
import Derived.Test.YtbefehoegmmgpaaP10
namespace Go.Proofs.Ytbefehoegmmgpaa.Ph

def BT.cut (s : Nat) : BT → BT
  | .nil => .nil
  | .node r c x => if r = s then x else .node r (c.cut s) (x.cut s)

theorem cut_out (s : Nat) : ∀ t : BT, s ∉ t.spots → t.cut s = t
  | .nil, _ => rfl
  | .node r c x, h => by
    simp only [BT.spots, List.mem_cons, List.mem_append, not_or] at h
    rw [BT.cut, if_neg (fun e => h.1 e.symm), cut_out s c h.2.1, cut_out s x h.2.2]
theorem cut_root (s : Nat) (t : BT) (h : t.root ≠ s) : (t.cut s).root = t.root := by
  cases t with
  | nil => rfl
  | node r c x => rw [BT.cut, if_neg (show ¬ r = s from h)]; rfl
/-- Where the links of one in a row lead. -/
theorem linked_near {C A B : Nat → Nat} : ∀ (t : BT) (p s : Nat), Linked C A B p t → s ∈ t.spots →
    ((s = t.root ∧ A s = p) ∨ A s ∈ t.spots) ∧ (B s = 0 ∨ B s ∈ t.spots)
  | .nil, _, _, _, h => by simp [BT.spots] at h
  | .node r c x, p, s, hl, hs => by
    obtain ⟨h1, h2, h3, h4, h5⟩ := hl
    simp only [BT.spots, List.mem_cons, List.mem_append] at hs ⊢
    rcases hs with rfl | hs | hs
    · refine ⟨.inl ⟨rfl, h1⟩, ?_⟩
      rw [h3]
      cases x with
      | nil => exact .inl rfl
      | node y cy xy => exact .inr (.inr (.inr (by simp [BT.root, BT.spots])))
    · obtain ⟨a, b⟩ := linked_near c r s h4 hs
      refine ⟨.inr ?_, ?_⟩
      · rcases a with ⟨_, a⟩ | a
        · exact .inl a
        · exact .inr (.inl a)
      · rcases b with b | b
        · exact .inl b
        · exact .inr (.inr (.inl b))
    · obtain ⟨a, b⟩ := linked_near x r s h5 hs
      refine ⟨.inr ?_, ?_⟩
      · rcases a with ⟨_, a⟩ | a
        · exact .inl a
        · exact .inr (.inr a)
      · rcases b with b | b
        · exact .inl b
        · exact .inr (.inr (.inr b))

def cutC (C A B : Nat → Nat) (s : Nat) : Nat → Nat := if C (A s) = s then upd C (A s) (B s) else C
def cutB (C A B : Nat → Nat) (s : Nat) : Nat → Nat := if C (A s) = s then B else upd B (A s) (B s)
def cutA (_C A B : Nat → Nat) (s : Nat) : Nat → Nat := if B s = 0 then A else upd A (B s) (A s)
theorem cutC_off {C A B : Nat → Nat} {s y : Nat} (h : y ≠ A s) : cutC C A B s y = C y := by
  rw [cutC]; split
  · exact upd_other _ _ _ _ h
  · rfl
theorem cutB_off {C A B : Nat → Nat} {s y : Nat} (h : y ≠ A s) : cutB C A B s y = B y := by
  rw [cutB]; split
  · rfl
  · exact upd_other _ _ _ _ h
theorem cutA_off {C A B : Nat → Nat} {s y : Nat} (h : B s = 0 ∨ y ≠ B s) : cutA C A B s y = A y := by
  rw [cutA]; split
  · rfl
  · rename_i hz
    exact upd_other _ _ _ _ (h.resolve_left hz)

theorem linked_cut {C A B : Nat → Nat} : ∀ (t : BT) (p s : Nat), Linked C A B p t → (p :: t.spots).Nodup → (∀ y ∈ t.spots, y ≠ 0) → s ∈ t.spots →
    Linked (cutC C A B s) (cutA C A B s) (cutB C A B s) p (t.cut s) ∧ (s = t.root → (t.cut s).root = B s)
  | .nil, _, _, _, _, _, h => by simp [BT.spots] at h
  | .node r c x, p, s, hl, hn, h0, hs => by
    obtain ⟨h1, h2, h3, h4, h5⟩ := hl
    simp only [BT.spots, List.nodup_cons, List.mem_cons, List.mem_append, not_or, List.nodup_append] at hn hs
    obtain ⟨⟨npr, npc, npx⟩, ⟨nrc, nrx⟩, hc, hx, hcx⟩ := hn
    have h0c : ∀ y ∈ c.spots, y ≠ 0 := fun y hy => h0 y (by simp [BT.spots, hy])
    have h0x : ∀ y ∈ x.spots, y ≠ 0 := fun y hy => h0 y (by simp [BT.spots, hy])
    have ncr : (r :: c.spots).Nodup := List.nodup_cons.2 ⟨nrc, hc⟩
    have nxr : (r :: x.spots).Nodup := List.nodup_cons.2 ⟨nrx, hx⟩
    rcases hs with rfl | hs | hs
    · have e : (BT.node s c x).cut s = x := by rw [BT.cut, if_pos rfl]
      rw [e]
      refine ⟨?_, fun _ => h3.symm⟩
      have hm : Linked C (cutA C A B s) B p x := by
        refine linked_move x s p hx (fun hr => ?_) (fun y hy hne => cutA_off (.inr (by rw [h3]; exact hne))) h5
        have hz : B s ≠ 0 := by rw [h3]; exact h0x _ hr
        rw [cutA, if_neg hz, h3, upd_same, h1]
      exact linked_congr x p (fun y hy => ⟨cutC_off (by rw [h1]; exact fun e => npx (e ▸ hy)), rfl, cutB_off (by rw [h1]; exact fun e => npx (e ▸ hy))⟩) hm
    · have hrs : r ≠ s := fun e => nrc (e ▸ hs)
      have nsx : s ∉ x.spots := fun q => hcx s hs s q rfl
      have e : (BT.node r c x).cut s = .node r (c.cut s) x := by rw [BT.cut, if_neg hrs, cut_out s x nsx]
      rw [e]
      refine ⟨?_, fun q => absurd q.symm hrs⟩
      obtain ⟨i1, i2⟩ := linked_cut c r s h4 ncr h0c hs
      obtain ⟨a, b⟩ := linked_near c r s h4 hs
      have hbx : ∀ y ∈ x.spots, B s = 0 ∨ y ≠ B s := fun y hy => b.imp id (fun b q => hcx _ b y hy q.symm)
      have hax : ∀ y ∈ x.spots, y ≠ A s := fun y hy q => by
        rcases a with ⟨_, a⟩ | a
        · exact nrx (by rw [← a, ← q]; exact hy)
        · exact hcx _ a y hy q.symm
      refine ⟨?_, ?_, ?_, i1, linked_congr x r (fun y hy => ⟨cutC_off (hax y hy), cutA_off (hbx y hy), cutB_off (hax y hy)⟩) h5⟩
      · rw [cutA_off (y := r) (s := s) (b.imp id (fun b q => nrc (by rw [q]; exact b)))]; exact h1
      · by_cases hq : s = c.root
        · have ha : A s = r := by
            rcases a with ⟨_, a⟩ | a
            · exact a
            · cases c with
              | nil => simp [BT.spots] at hs
              | node z cz xz => rw [BT.root] at hq; rw [hq]; exact h4.1
          rw [cutC, if_pos (by rw [ha, h2]; exact hq.symm), ha, upd_same, i2 hq]
        · have ha : r ≠ A s := by
            rcases a with ⟨a, _⟩ | a
            · exact absurd a hq
            · exact fun q => nrc (q ▸ a)
          rw [cutC_off ha, cut_root s c (fun q => hq q.symm)]; exact h2
      · by_cases hq : s = c.root
        · have ha : A s = r := by
            cases c with
              | nil => simp [BT.spots] at hs
              | node z cz xz => rw [BT.root] at hq; rw [hq]; exact h4.1
          rw [cutB, if_pos (by rw [ha, h2]; exact hq.symm)]; exact h3
        · have ha : r ≠ A s := by
            rcases a with ⟨a, _⟩ | a
            · exact absurd a hq
            · exact fun q => nrc (q ▸ a)
          rw [cutB_off ha]; exact h3
    · have hrs : r ≠ s := fun e => nrx (e ▸ hs)
      have nsc : s ∉ c.spots := fun q => hcx s q s hs rfl
      have e : (BT.node r c x).cut s = .node r c (x.cut s) := by rw [BT.cut, if_neg hrs, cut_out s c nsc]
      rw [e]
      refine ⟨?_, fun q => absurd q.symm hrs⟩
      obtain ⟨i1, i2⟩ := linked_cut x r s h5 nxr h0x hs
      obtain ⟨a, b⟩ := linked_near x r s h5 hs
      have hbc : ∀ y ∈ c.spots, B s = 0 ∨ y ≠ B s := fun y hy => b.imp id (fun b q => hcx y hy _ b q)
      have hac : ∀ y ∈ c.spots, y ≠ A s := fun y hy q => by
        rcases a with ⟨_, a⟩ | a
        · exact nrc (by rw [← a, ← q]; exact hy)
        · exact hcx y hy _ a q
      have hcs : c.root ≠ s := fun q => by
        cases c with
        | nil => exact h0x s hs q.symm
        | node z cz xz => exact nsc (by rw [BT.root] at q; simp [BT.spots, q])
      refine ⟨?_, ?_, ?_, linked_congr c r (fun y hy => ⟨cutC_off (hac y hy), cutA_off (hbc y hy), cutB_off (hac y hy)⟩) h4, i1⟩
      · rw [cutA_off (y := r) (s := s) (b.imp id (fun b q => nrx (by rw [q]; exact b)))]; exact h1
      · by_cases ha : r = A s
        · rw [cutC, if_neg (by rw [← ha, h2]; exact hcs)]; exact h2
        · rw [cutC_off ha]; exact h2
      · by_cases hq : s = x.root
        · have ha : A s = r := by
            cases x with
              | nil => simp [BT.spots] at hs
              | node z cz xz => rw [BT.root] at hq; rw [hq]; exact h5.1
          rw [cutB, if_neg (by rw [ha, h2]; exact hcs), ha, upd_same, i2 hq]
        · have ha : r ≠ A s := by
            rcases a with ⟨a, _⟩ | a
            · exact absurd a hq
            · exact fun q => nrx (q ▸ a)
          rw [cutB_off ha, cut_root s x (fun q => hq q.symm)]; exact h3

/-- What is left. -/
theorem cut_spots (s : Nat) : ∀ (t : BT) (y : Nat), y ∈ (t.cut s).spots → y ∈ t.spots
  | .nil, _, h => h
  | .node r c x, y, h => by
    rw [BT.cut] at h
    split at h
    · simp [BT.spots, h]
    · simp only [BT.spots, List.mem_cons, List.mem_append] at h ⊢
      rcases h with h | h | h
      · exact .inl h
      · exact .inr (.inl (cut_spots s c y h))
      · exact .inr (.inr (cut_spots s x y h))
theorem ord_cut {le : Nat → Nat → Prop} (s : Nat) : ∀ (t : BT), Ord le t → Ord le (t.cut s)
  | .nil, _ => trivial
  | .node r c x, ⟨h1, h2, h3⟩ => by
    rw [BT.cut]
    split
    · exact h3
    · exact ⟨fun y hy => h1 y (cut_spots s c y hy), ord_cut s c h2, ord_cut s x h3⟩
end Go.Proofs.Ytbefehoegmmgpaa.Ph
