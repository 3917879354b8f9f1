/-
  put keeps a heap.
-/
import Derived.Test.YtbefehoegmmgpaaP21
namespace Go.Proofs.Ytbefehoegmmgpaa.Ph
open Go.RowKit

section
variable {w : World} {b g n : Nat} {D S I : Nat → Nat} {T : Nat → Bool} {t : BT}
/-- A heap into which the spot x has been put, of the tree t' that it makes. -/
theorem heap_put {w' : World} {x d s i : Nat} {t' : BT} {C A B : Nat → Nat} (h : HeapAt w b g n D S I T t) (hx : x ∉ t.spots) (hxn : x ≤ n) (hi : i + 1 = x) (hp : t'.spots.Perm (x :: t.spots)) (hw : t'.wide ≤ 1) (hr : Row C A B t') (ho : Ord (Le (upd D x d) (upd S x s) (upd I x i)) t') (hB : B 0 = 0)
    (hR : Rep w' b g n t'.root (t.spots.length + 1) (upd D x d) (upd S x s) (upd I x i) C A B (upd T x true)) :
    HeapAt w' b g n (upd D x d) (upd S x s) (upd I x i) (upd T x true) t' := by
  have hl : t'.spots.length = t.spots.length + 1 := by have := hp.length_eq; simpa using this
  refine ⟨⟨C, A, B, hl.symm ▸ hR, hr, hB⟩, hw, ho, ⟨hp.nodup_iff.2 (List.nodup_cons.2 ⟨hx, h.sp.nd⟩), fun y hy => ?_⟩, fun y hy => ?_, fun y hy => ?_⟩
  · rcases List.mem_cons.1 (hp.mem_iff.1 hy) with rfl | hy
    · omega
    · exact h.sp.le y hy
  · by_cases e : y = x
    · subst e; rw [upd_same]; simp [hp.mem_iff]
    · rw [upd_other _ _ _ _ e, h.th y hy, hp.mem_iff]; simp [e]
  · rcases List.mem_cons.1 (hp.mem_iff.1 hy) with rfl | hy
    · rw [upd_same]; exact hi
    · rw [upd_other I x i y (fun e => hx (e ▸ hy))]; exact h.id y hy

theorem put_any (h : HeapAt w b g n D S I T t) (id d s : Nat) (hid : id < n) (hn : n ≤ 1024) (hct : t.spots.length ≤ 1024) (hT : T (id + 1) = false) :
    Calls Try.prog 80 #[.pointer (some ⟨b, 0, none⟩), .agg #[.int .u64 (d : Int), .int .u64 (s : Int), .int .i64 (id : Int)]] w fun e w' => e = .returned (.tuple #[]) ∧ ∃ t' : BT, t'.spots.Perm ((id + 1) :: t.spots) ∧ HeapAt w' b g n (upd D (id + 1) d) (upd S (id + 1) s) (upd I (id + 1) id) (upd T (id + 1) true) t' ∧ Only b g w w' := by
  obtain ⟨C, A, B, hR, hrow, hB⟩ := h.lk
  have hx : id + 1 ∉ t.spots := fun hh => by have := (h.th (id + 1) (by omega)).2 hh; rw [hT] at this; exact absurd this (by simp)
  have hne : ∀ y ∈ t.spots, y ≠ id + 1 := fun y hy e => hx (e ▸ hy)
  have hrow2 : Row (upd C (id + 1) 0) (upd A (id + 1) 0) (upd B (id + 1) 0) t := row_congr t (fun y hy => ⟨upd_other _ _ _ _ (hne y hy), upd_other _ _ _ _ (hne y hy), upd_other _ _ _ _ (hne y hy)⟩) hrow
  have hod : Ord (Le (upd D (id + 1) d) (upd S (id + 1) s) (upd I (id + 1) id)) t := ord_congr t (fun a ha c hc hle => le_upd (hne a ha) (hne c hc) hle) h.od
  have hB2 : upd B (id + 1) 0 0 = 0 := by rw [upd_other _ _ _ _ (by omega)]; exact hB
  have hone : Row (upd C (id + 1) 0) (upd A (id + 1) 0) (upd B (id + 1) 0) (.node (id + 1) .nil .nil) := ⟨upd_same _ _ _, upd_same _ _ _, trivial, trivial⟩
  have hcast : ((id : Int) + 1) = ((id + 1 : Nat) : Int) := by omega
  cases t with
  | nil =>
    refine (put_walk hR id d s (id + 1) hid hn hct (fun w1 hr => by
      rw [hcast]
      refine (join_left (id + 1) w1 b).mono ?_
      rintro e w' ⟨he, rfl⟩
      exact ⟨he, hr, Only.refl _ _ _⟩)).mono ?_
    rintro e w' ⟨he, k1, k2⟩
    exact ⟨he, .node (id + 1) .nil .nil, by simp [BT.spots], heap_put h hx (by omega) rfl (by simp [BT.spots]) (by simp [BT.wide]) hone ⟨fun y hy => absurd hy (by simp [BT.spots]), trivial, trivial⟩ hB2 k1, k2⟩
  | node rt c x =>
    cases x with
    | node _ _ _ => have := h.wd; simp [BT.wide] at this
    | nil =>
      have hrt := h.sp.le rt (by simp [BT.spots])
      have hnd : (rt :: c.spots).Nodup := by have := h.sp.nd; simpa [BT.spots] using this
      have hrx : rt ≠ id + 1 := hne rt (by simp [BT.spots])
      have hxc : id + 1 ∉ c.spots := fun hh => hx (by simp [BT.spots, hh])
      have nz : ∀ y ∈ c.spots, y ≠ 0 := fun y hy => by have := (h.sp.le y (by simp [BT.spots, hy])).1; omega
      have hroot : c.root ≤ n := by
        cases c with
        | nil => exact Nat.zero_le _
        | node z _ _ => exact (h.sp.le z (by simp [BT.spots])).2
      have hcr : c.root ≠ id + 1 := by
        cases c with
        | nil => simp [BT.root]
        | node z _ _ => exact hne z (by simp [BT.spots])
      cases hb : bef (upd D (id + 1) d (id + 1)) (upd S (id + 1) s (id + 1)) (upd I (id + 1) id (id + 1)) (upd D (id + 1) d rt) (upd S (id + 1) s rt) (upd I (id + 1) id rt) with
      | true =>
        refine (put_walk hR id d s (id + 1) hid hn hct (fun w1 hr => by
          rw [hcast]
          exact join_swap hr (id + 1) rt (by omega) (by omega) hrt.1 hrt.2 (by rw [upd_same]; exact Nat.zero_le _) (by rw [upd_same]; omega) hb)).mono ?_
        rintro e w' ⟨he, k1, k2⟩
        have hperm : (BT.node (id + 1) (.node rt c .nil) .nil).spots.Perm ((id + 1) :: (BT.node rt c .nil).spots) := by simp [BT.spots]
        obtain ⟨j1, j2⟩ := ord_join (cp := .nil) le_trans (le_of_before hb) (fun y hy => absurd hy (by simp [BT.spots])) hod.1 trivial hod.2.1
        exact ⟨he, .node (id + 1) (.node rt c .nil) .nil, hperm, heap_put h hx (by omega) rfl hperm (by simp [BT.wide]) (row_join hone hrow2 (by simpa [BT.spots] using List.nodup_cons.2 ⟨hx, h.sp.nd⟩) (fun y hy => absurd hy (by simp [BT.spots]))) ⟨j1, j2, trivial⟩ (by rw [joB, upd_other _ _ _ _ (by omega)]; exact hB2) k1, k2⟩
      | false =>
        refine (put_walk hR id d s rt hid hn hct (fun w1 hr => by
          rw [hcast]
          exact join_keep hr rt (id + 1) hrt.1 hrt.2 (by omega) (by omega) (by rw [hrow2.1]; exact hroot) (by rw [hrow2.1]; exact hcr) hb)).mono ?_
        rintro e w' ⟨he, k1, k2⟩
        have hperm : (BT.node rt (.node (id + 1) .nil c) .nil).spots.Perm ((id + 1) :: (BT.node rt c .nil).spots) := by
          rw [List.perm_iff_count]
          intro y
          simp only [BT.spots, List.count_cons, List.append_nil, List.nil_append]
          omega
        obtain ⟨j1, j2⟩ := ord_join (cq := .nil) le_trans hb hod.1 (fun y hy => absurd hy (by simp [BT.spots])) hod.2.1 trivial
        have hn2 : (rt :: (id + 1) :: ([] ++ c.spots)).Nodup := by
          simp only [List.nil_append, List.nodup_cons, List.mem_cons, not_or]
          exact ⟨⟨hrx, (List.nodup_cons.1 hnd).1⟩, hxc, (List.nodup_cons.1 hnd).2⟩
        exact ⟨he, .node rt (.node (id + 1) .nil c) .nil, hperm, heap_put h hx (by omega) rfl hperm (by simp [BT.wide]) (row_join hrow2 hone hn2 nz) ⟨j1, j2, trivial⟩ (by rw [joB, upd_other _ _ _ _ (by omega)]; exact hB2) k1, k2⟩
end
end Go.Proofs.Ytbefehoegmmgpaa.Ph
