/-
  What stands below one in a tree; the tree without it, whatever pair has made of what stood below.
-/
import Derived.Test.YtbefehoegmmgpaaP17
namespace Go.Proofs.Ytbefehoegmmgpaa.Ph

theorem linked_below {C A B : Nat → Nat} {le : Nat → Nat → Prop} (x : Nat) : ∀ (t : BT) (p : Nat), Linked C A B p t → t.spots.Nodup → x ∈ t.spots →
    ∃ cx : BT, C x = cx.root ∧ Linked C A B x cx ∧ ((t.cut x).spots ++ x :: cx.spots).Perm t.spots ∧ (Ord le t → Ord le cx)
  | .nil, _, _, _, h => by simp [BT.spots] at h
  | .node r c y, p, hl, hn, hx => by
    obtain ⟨h1, h2, h3, h4, h5⟩ := hl
    simp only [BT.spots, List.nodup_cons, List.mem_cons, List.mem_append, not_or, List.nodup_append] at hn hx
    obtain ⟨⟨nrc, nry⟩, hc, hy, hcy⟩ := hn
    rcases hx with rfl | hx | hx
    · refine ⟨c, h2, h4, ?_, fun o => o.2.1⟩
      rw [BT.cut, if_pos rfl, List.perm_iff_count]
      intro z
      simp only [BT.spots, List.count_append, List.count_cons]
      omega
    · have hrs : r ≠ x := fun e => nrc (e ▸ hx)
      have nsx : x ∉ y.spots := fun q => hcy x hx x q rfl
      obtain ⟨cx, k1, k2, k3, k4⟩ := linked_below x c r h4 hc hx
      refine ⟨cx, k1, k2, ?_, fun o => k4 o.2.1⟩
      rw [BT.cut, if_neg hrs, cut_out x y nsx]
      rw [List.perm_iff_count] at k3 ⊢
      intro z
      have := k3 z
      simp only [BT.spots, List.count_append, List.count_cons] at this ⊢
      omega
    · have hrs : r ≠ x := fun e => nry (e ▸ hx)
      have nsc : x ∉ c.spots := fun q => hcy x q x hx rfl
      obtain ⟨cx, k1, k2, k3, k4⟩ := linked_below x y r h5 hy hx
      refine ⟨cx, k1, k2, ?_, fun o => k4 o.2.2⟩
      rw [BT.cut, if_neg hrs, cut_out x c nsc]
      rw [List.perm_iff_count] at k3 ⊢
      intro z
      have := k3 z
      simp only [BT.spots, List.count_append, List.count_cons] at this ⊢
      omega

theorem linked_nearer {C A B : Nat → Nat} (s : Nat) : ∀ (t : BT) (p : Nat), Linked C A B p t → t.spots.Nodup → s ∈ t.spots →
    (A s = p ∨ A s ∈ (t.cut s).spots) ∧ (B s = 0 ∨ B s ∈ (t.cut s).spots)
  | .nil, _, _, _, h => by simp [BT.spots] at h
  | .node r c y, p, hl, hn, hx => by
    obtain ⟨h1, h2, h3, h4, h5⟩ := hl
    simp only [BT.spots, List.nodup_cons, List.mem_cons, List.mem_append, not_or, List.nodup_append] at hn hx
    obtain ⟨⟨nrc, nry⟩, hc, hy, hcy⟩ := hn
    rcases hx with rfl | hx | hx
    · refine ⟨.inl h1, ?_⟩
      rw [BT.cut, if_pos rfl, h3]
      cases y with
      | nil => exact .inl rfl
      | node z cz xz => exact .inr (by simp [BT.root, BT.spots])
    · have hrs : r ≠ s := fun e => nrc (e ▸ hx)
      obtain ⟨a, b⟩ := linked_nearer s c r h4 hc hx
      rw [BT.cut, if_neg hrs]
      simp only [BT.spots, List.mem_cons, List.mem_append]
      exact ⟨.inr (a.imp id .inl), b.imp id (fun q => .inr (.inl q))⟩
    · have hrs : r ≠ s := fun e => nry (e ▸ hx)
      obtain ⟨a, b⟩ := linked_nearer s y r h5 hy hx
      rw [BT.cut, if_neg hrs]
      simp only [BT.spots, List.mem_cons, List.mem_append]
      exact ⟨.inr (a.imp id .inr), b.imp id (fun q => .inr (.inr q))⟩

/-- The tree p over c without x, when the links of L (what stood below x) have been turned: what cut makes of the links then. -/
theorem cut_apart {C A B C1 A1 B1 : Nat → Nat} {p x : Nat} {c : BT} {L : List Nat} (hl : Linked C A B p c) (hC : C p = c.root) (hB : B p = 0) (hn : (p :: c.spots).Nodup) (h0 : ∀ y ∈ p :: c.spots, y ≠ 0) (hx : x ∈ c.spots)
    (hperm : ((c.cut x).spots ++ x :: L).Perm c.spots) (off : ∀ y, y ∉ L → C1 y = C y ∧ A1 y = A y ∧ B1 y = B y) :
    Row (cutC C1 A1 B1 x) (cutA C1 A1 B1 x) (cutB C1 A1 B1 x) (.node p (c.cut x) .nil) ∧ ∀ y, y ∈ L → cutC C1 A1 B1 x y = C1 y ∧ cutA C1 A1 B1 x y = A1 y ∧ cutB C1 A1 B1 x y = B1 y := by
  have hnc := (List.nodup_cons.1 hn).2
  have hpc := (List.nodup_cons.1 hn).1
  have hnp := hperm.nodup_iff.2 hnc
  have hLc : ∀ y ∈ L, y ∈ c.spots := fun y hy => hperm.mem_iff.1 (by simp [hy])
  have hdis : ∀ y ∈ (c.cut x).spots, y ∉ L := fun y hy hh => (List.nodup_append.1 hnp).2.2 y hy y (by simp [hh]) rfl
  have hxL : x ∉ L := (List.nodup_cons.1 (List.nodup_append.1 hnp).2.1).1
  have hpL : p ∉ L := fun hh => hpc (hLc p hh)
  have h0L : 0 ∉ L := fun hh => h0 0 (by simp [hLc 0 hh]) rfl
  obtain ⟨k1, k2⟩ := linked_cut c p x hl hn (fun y hy => h0 y (by simp [hy])) hx
  obtain ⟨a, b⟩ := linked_nearer x c p hl hnc hx
  have haL : A x ∉ L := by
    rcases a with a | a
    · rw [a]; exact hpL
    · exact hdis _ a
  have hbL : B x ∉ L := by
    rcases b with b | b
    · rw [b]; exact h0L
    · exact hdis _ b
  have eA : A1 x = A x := (off x hxL).2.1
  have eB : B1 x = B x := (off x hxL).2.2
  have eC : C1 (A x) = C (A x) := (off _ haL).1
  have key : ∀ y, y ∉ L → cutC C1 A1 B1 x y = cutC C A B x y ∧ cutA C1 A1 B1 x y = cutA C A B x y ∧ cutB C1 A1 B1 x y = cutB C A B x y := by
    intro y hy
    obtain ⟨o1, o2, o3⟩ := off y hy
    simp only [cutC, cutA, cutB, eA, eB, eC]
    refine ⟨?_, ?_, ?_⟩
    · split
      · simp only [upd, o1]
      · exact o1
    · split
      · exact o2
      · simp only [upd, o2]
    · split
      · exact o3
      · simp only [upd, o3]
  have hm := linked_congr (c.cut x) p (fun y hy => key y (hdis y hy)) k1
  have kp := key p hpL
  have hnear := (linked_near c p x hl hx).1
  refine ⟨⟨?_, ?_, hm, trivial⟩, fun y hy => ⟨?_, ?_, ?_⟩⟩
  · rw [kp.1]
    by_cases hq : x = c.root
    · have ha : A x = p := by
        cases c with
        | nil => simp [BT.spots] at hx
        | node z cz xz => rw [BT.root] at hq; rw [hq]; exact hl.1
      rw [cutC, if_pos (by rw [ha, hC]; exact hq.symm), ha, upd_same, k2 hq]
    · rw [cutC_off, cut_root x c (fun q => hq q.symm)]
      · exact hC
      · rcases hnear with ⟨q, _⟩ | q
        · exact absurd q hq
        · exact fun e => hpc (e ▸ q)
  · rw [kp.2.2]
    by_cases hq : x = c.root
    · have ha : A x = p := by
        cases c with
        | nil => simp [BT.spots] at hx
        | node z cz xz => rw [BT.root] at hq; rw [hq]; exact hl.1
      rw [cutB, if_pos (by rw [ha, hC]; exact hq.symm)]; exact hB
    · rw [cutB_off]
      · exact hB
      · rcases hnear with ⟨q, _⟩ | q
        · exact absurd q hq
        · exact fun e => hpc (e ▸ q)
  · exact cutC_off (by rw [eA]; exact fun e => haL (e ▸ hy))
  · exact cutA_off (.inr (by rw [eB]; exact fun e => hbL (e ▸ hy)))
  · exact cutB_off (by rw [eA]; exact fun e => haL (e ▸ hy))
end Go.Proofs.Ytbefehoegmmgpaa.Ph
