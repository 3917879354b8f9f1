/-
  A whole heap: a row of at most one tree; what remove makes of it.
-/
import Derived.Test.YtbefehoegmmgpaaP19
namespace Go.Proofs.Ytbefehoegmmgpaa.Ph
open Go.RowKit

/-- The heap at b, g holds the tree t (a row of none or one): its spots are those that are there. -/
structure HeapAt (w : World) (b g n : Nat) (D S I : Nat → Nat) (T : Nat → Bool) (t : BT) : Prop where
  lk : ∃ C A B, Rep w b g n t.root t.spots.length D S I C A B T ∧ Row C A B t ∧ B 0 = 0
  wd : t.wide ≤ 1
  od : Ord (Le D S I) t
  sp : Spots n t.spots
  th : ∀ y, y ≤ n → (T y = true ↔ y ∈ t.spots)
  id : ∀ y ∈ t.spots, I y + 1 = y

theorem ord_congr {le le' : Nat → Nat → Prop} : ∀ t : BT, (∀ a ∈ t.spots, ∀ c ∈ t.spots, le a c → le' a c) → Ord le t → Ord le' t
  | .nil, _, _ => trivial
  | .node s c x, h, ⟨h1, h2, h3⟩ =>
    ⟨fun y hy => h s (by simp [BT.spots]) y (by simp [BT.spots, hy]) (h1 y hy), ord_congr c (fun a ha d hd => h a (by simp [BT.spots, ha]) d (by simp [BT.spots, hd])) h2, ord_congr x (fun a ha d hd => h a (by simp [BT.spots, ha]) d (by simp [BT.spots, hd])) h3⟩
theorem le_upd {D S I : Nat → Nat} {x a c : Nat} {d s i : Nat} (ha : a ≠ x) (hc : c ≠ x) (h : Le D S I a c) : Le (upd D x d) (upd S x s) (upd I x i) a c := by
  rw [Le] at *
  rw [upd_other _ _ _ _ ha, upd_other _ _ _ _ ha, upd_other _ _ _ _ ha, upd_other _ _ _ _ hc, upd_other _ _ _ _ hc, upd_other _ _ _ _ hc]; exact h

section
variable {w : World} {b g n : Nat} {D S I : Nat → Nat} {T : Nat → Bool} {t : BT}
/-- A heap whose spot x has been wiped, of the tree t' that is left. -/
theorem heap_wiped {w' : World} {x ct : Nat} {t' : BT} {C A B : Nat → Nat} (h : HeapAt w b g n D S I T t) (hx : x ∈ t.spots) (hp : (x :: t'.spots).Perm t.spots) (hw : t'.wide ≤ 1) (hr : Row C A B t') (ho : Ord (Le D S I) t') (hB : B 0 = 0) (hct : t.spots.length = ct + 1)
    (hR : Rep w' b g n t'.root ct (upd D x 0) (upd S x 0) (upd I x 0) (upd C x 0) (upd A x 0) (upd B x 0) (upd T x false)) :
    HeapAt w' b g n (upd D x 0) (upd S x 0) (upd I x 0) (upd T x false) t' := by
  have hnd := hp.nodup_iff.2 h.sp.nd
  have hnx : x ∉ t'.spots := (List.nodup_cons.1 hnd).1
  have hne : ∀ y ∈ t'.spots, y ≠ x := fun y hy e => hnx (e ▸ hy)
  have hin : ∀ y ∈ t'.spots, y ∈ t.spots := fun y hy => hp.mem_iff.1 (by simp [hy])
  have hl : t'.spots.length = ct := by have := hp.length_eq; simp only [List.length_cons] at this; omega
  have hx0 : (0 : Nat) ≠ x := by have := (h.sp.le x hx).1; omega
  refine ⟨⟨_, _, _, hl.symm ▸ hR, row_congr t' (fun s hs => ⟨upd_other _ _ _ _ (hne s hs), upd_other _ _ _ _ (hne s hs), upd_other _ _ _ _ (hne s hs)⟩) hr, by rw [upd_other _ _ _ _ hx0]; exact hB⟩, hw, ord_congr t' (fun a ha c hc hle => le_upd (hne a ha) (hne c hc) hle) ho, ⟨(List.nodup_cons.1 hnd).2, fun y hy => h.sp.le y (hin y hy)⟩, fun y hy => ?_, fun y hy => by rw [upd_other _ _ _ _ (hne y hy)]; exact h.id y (hin y hy)⟩
  by_cases e : y = x
  · subst e; rw [upd_same]; simp [hnx]
  · rw [upd_other _ _ _ _ e, h.th y hy, ← hp.mem_iff]; simp [e]

theorem remove_first {rt : Nat} {c : BT} (h : HeapAt w b g n D S I T (.node rt c .nil)) (hlen : c.spots.length ≤ 1024) :
    Calls Try.prog 71 #[.pointer (some ⟨b, 0, none⟩), .int .i64 (rt : Int)] w fun e w' => ∃ t' : BT, e = .returned (.tuple #[]) ∧ (rt :: t'.spots).Perm (BT.node rt c .nil).spots ∧ HeapAt w' b g n (upd D rt 0) (upd S rt 0) (upd I rt 0) (upd T rt false) t' ∧ Only b g w w' := by
  obtain ⟨C, A, B, hR, hrow, hB⟩ := h.lk
  have hlen2 : (BT.node rt c .nil).spots.length = c.spots.length + 1 := by simp [BT.spots]
  rw [hlen2] at hR
  have hrn := h.sp.le rt (by simp [BT.spots])
  have hsp : Spots n c.spots := ⟨by have := h.sp.nd; simp only [BT.spots, List.append_nil, List.nodup_cons] at this; exact this.2, fun y hy => h.sp.le y (by simp [BT.spots, hy])⟩
  have hpair := pair_any (w := w) (b := b) (g := g) (rt := rt) (ct := c.spots.length + 1) (D := D) (S := S) (I := I) (C := C) (A := A) (B := B) (T := T) c c.spots hsp hB
    ⟨⟨C, A, B, hR, linked_row c rt hrow.2.2.1, trivial, fun _ _ => ⟨rfl, rfl, rfl⟩⟩, h.od.2.1, trivial, by simp [BT.spots], Only.refl _ _ _⟩
  rw [← hrow.1] at hpair
  have key := remove_top hR rt rfl hrn.2 hlen (fun r C1 A1 B1 => ∃ t' : BT, r = t'.root ∧ t'.wide ≤ 1 ∧ Row C1 A1 B1 t' ∧ Ord (Le D S I) t' ∧ t'.spots.Perm c.spots ∧ B1 0 = 0) (hpair.mono (by
    rintro e w' ⟨t', hw, he, hp⟩
    obtain ⟨C1, A1, B1, k1, k2, _, k4⟩ := hp.lk
    exact ⟨t'.root, C1, A1, B1, he, k1, hp.on, t', rfl, hw, k2, hp.o1, by simpa [BT.spots] using hp.pm, (k4 0 (fun hh => by have := (hsp.le 0 hh).1; omega)).2.2.trans hB⟩))
  refine key.mono ?_
  rintro e w' ⟨r, C1, A1, B1, he, k1, k2, t', rfl, q1, q2, q3, q4, q5⟩
  have hp : (rt :: t'.spots).Perm (BT.node rt c .nil).spots := by simpa [BT.spots] using q4
  exact ⟨t', he, hp, heap_wiped h (by simp [BT.spots]) hp q1 q2 q3 q5 hlen2 k1, k2⟩
end
end Go.Proofs.Ytbefehoegmmgpaa.Ph
