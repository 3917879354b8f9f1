/-
  A step of pair: what its loops keep is kept.
-/
import Derived.Test.YtbefehoegmmgpaaP15
namespace Go.Proofs.Ytbefehoegmmgpaa.Ph
open Go.RowKit

section
variable {w : World} {b g n rt ct : Nat} {D S I : Nat → Nat} {T : Nat → Bool} {L : List Nat} {C0 A0 B0 : Nat → Nat} {wr : World} {C A B : Nat → Nat}
theorem step_two {a c : Nat} {ca cc rest m : BT} (hL : Spots n L) (h1 : Row C A B (.node a ca (.node c cc rest))) (h2 : Row C A B m) (off : ∀ y, y ∉ L → C y = C0 y ∧ A y = A0 y ∧ B y = B0 y)
    (o1 : Ord (Le D S I) (.node a ca (.node c cc rest))) (o2 : Ord (Le D S I) m) (pm : ((BT.node a ca (.node c cc rest)).spots ++ m.spots).Perm L)
    {u v : Nat} (huv : (u = a ∧ v = c) ∨ (u = c ∧ v = a)) (hle : Le D S I u v) (hr : Rep wr b g n rt ct D S I (joC C u v) (joA C A u v) (joB C B u v) T) (ho : Only b g w wr) :
    ∃ m' : BT, m'.root = u ∧ m'.wide = m.wide + 1 ∧ PI w b g n rt ct D S I T L C0 A0 B0 (wr.setCell ⟨g, u * 7 + 5, none⟩ (.int .i64 (m.root : Int))) rest m' := by
  obtain ⟨cu, cv, p1, p3, q1, q3, hou, hov, hcu, hcv, hperm⟩ : ∃ cu cv : BT, C u = cu.root ∧ Linked C A B u cu ∧ C v = cv.root ∧ Linked C A B v cv ∧ (∀ y ∈ cu.spots, Le D S I u y) ∧ (∀ y ∈ cv.spots, Le D S I v y) ∧ Ord (Le D S I) cu ∧ Ord (Le D S I) cv ∧ (rest.spots ++ (BT.node u (.node v cv cu) m).spots).Perm L := by
    obtain ⟨a1, a2, a3, c1, c2, c3, _⟩ := h1
    obtain ⟨oa, oca, oc, occ, _⟩ := o1
    rcases huv with ⟨rfl, rfl⟩ | ⟨rfl, rfl⟩
    · refine ⟨ca, cc, a1, a3, c1, c3, oa, oc, oca, occ, List.Perm.trans ?_ pm⟩
      rw [List.perm_iff_count]
      intro y
      simp only [BT.spots, List.count_append, List.count_cons, List.cons_append, List.append_assoc]
      omega
    · refine ⟨cc, ca, c1, c3, a1, a3, oc, oa, occ, oca, List.Perm.trans ?_ pm⟩
      rw [List.perm_iff_count]
      intro y
      simp only [BT.spots, List.count_append, List.count_cons, List.cons_append, List.append_assoc]
      omega
  have hnd := hperm.nodup_iff.2 hL.nd
  have hmem : ∀ y, y ∈ rest.spots ++ (BT.node u (.node v cv cu) m).spots → y ∈ L := fun y hy => hperm.mem_iff.1 hy
  have hrest : Row C A B rest := h1.2.2.2.2.2.2
  have hnm : ((u :: v :: (cv.spots ++ cu.spots)) ++ m.spots).Nodup := (List.nodup_append.1 hnd).2.1
  have hn : (u :: v :: (cv.spots ++ cu.spots)).Nodup := (List.nodup_append.1 hnm).1
  have hd : ∀ s, s ∈ rest.spots ∨ s ∈ m.spots → s ≠ u ∧ s ≠ v ∧ s ∉ cu.spots := by
    intro s hs
    rcases hs with hs | hs
    · have hy := (List.nodup_append.1 hnd).2.2 s hs
      exact ⟨fun e => hy u (by simp [BT.spots]) e, fun e => hy v (by simp [BT.spots]) e, fun e => hy s (by simp [BT.spots, e]) rfl⟩
    · have hy : ∀ y ∈ u :: v :: (cv.spots ++ cu.spots), y ≠ s := fun y h => (List.nodup_append.1 hnm).2.2 y h s hs
      exact ⟨fun e => hy u (by simp) e.symm, fun e => hy v (by simp) e.symm, fun e => hy s (by simp [e]) rfl⟩
  have hz : ∀ s ∈ cu.spots, s ≠ 0 := fun s hs => by
    have := (hL.le s (hmem s (by simp [BT.spots, hs]))).1; omega
  obtain ⟨k1, k2, k3⟩ := row_step p1 p3 q1 q3 hrest h2 hn hz hd
  have uL : u ∈ L := hmem u (by simp [BT.spots])
  have vL : v ∈ L := hmem v (by simp [BT.spots])
  refine ⟨.node u (.node v cv cu) m, rfl, rfl, ⟨⟨_, _, _, hr.setB u (hL.le u uL).2 m.root, k2, k1, fun y hy => ?_⟩, o1.2.2.2.2, ?_, hperm, ho.set _ _ (Or.inr rfl)⟩⟩
  · obtain ⟨x1, x2, x3⟩ := k3 y (fun e => hy (e ▸ uL)) (fun e => hy (e ▸ vL)) (fun e => hy (hmem y (by simp [BT.spots, e])))
    obtain ⟨z1, z2, z3⟩ := off y hy
    exact ⟨x1.trans z1, x2.trans z2, x3.trans z3⟩
  · obtain ⟨j1, j2⟩ := ord_join le_trans hle hou hov hcu hcv
    exact ⟨j1, j2, o2⟩
theorem step_odd {a : Nat} {ca m : BT} (hL : Spots n L) (h1 : Row C A B (.node a ca .nil)) (h2 : Row C A B m) (off : ∀ y, y ∉ L → C y = C0 y ∧ A y = A0 y ∧ B y = B0 y)
    (o1 : Ord (Le D S I) (.node a ca .nil)) (o2 : Ord (Le D S I) m) (pm : ((BT.node a ca .nil).spots ++ m.spots).Perm L) (hr : Rep wr b g n rt ct D S I C A B T) (ho : Only b g w wr) :
    PI w b g n rt ct D S I T L C0 A0 B0 (wr.setCell ⟨g, a * 7 + 5, none⟩ (.int .i64 (m.root : Int))) .nil (.node a ca m) := by
  have hnd := pm.nodup_iff.2 hL.nd
  have aL : a ∈ L := pm.mem_iff.1 (by simp [BT.spots])
  obtain ⟨a1, a2, a3, _⟩ := h1
  refine ⟨⟨_, _, _, hr.setB a (hL.le a aL).2 m.root, trivial, row_odd a1 a3 h2 ?_ ?_, fun y hy => ?_⟩, trivial, ⟨o1.1, o1.2.1, o2⟩, ?_, ho.set _ _ (Or.inr rfl)⟩
  · simp only [BT.spots, List.append_nil, List.cons_append, List.nodup_cons, List.mem_append, not_or] at hnd; exact hnd.1.1
  · simp only [BT.spots, List.append_nil, List.cons_append, List.nodup_cons, List.mem_append, not_or] at hnd; exact hnd.1.2
  · obtain ⟨z1, z2, z3⟩ := off y hy
    exact ⟨z1, z2, (upd_other B a m.root y (fun e => hy (e ▸ aL))).trans z3⟩
  · simpa [BT.spots] using pm
end
end Go.Proofs.Ytbefehoegmmgpaa.Ph
