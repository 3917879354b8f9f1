/-
  remove of one that is not the first.
-/
import Derived.Test.YtbefehoegmmgpaaP20
namespace Go.Proofs.Ytbefehoegmmgpaa.Ph
open Go.RowKit

section
variable {w : World} {b g n : Nat} {D S I : Nat → Nat} {T : Nat → Bool}
/-- Two trees by themselves, joined: a tree by itself. -/
theorem row_join {C A B : Nat → Nat} {p q : Nat} {cp cq : BT} (hp : Row C A B (.node p cp .nil)) (hq : Row C A B (.node q cq .nil)) (hn : (p :: q :: (cq.spots ++ cp.spots)).Nodup) (h0 : ∀ s ∈ cp.spots, s ≠ 0) :
    Row (joC C p q) (joA C A p q) (joB C B p q) (.node p (.node q cq cp) .nil) := by
  have hpq : p ≠ q := fun e => (List.nodup_cons.1 hn).1 (by simp [e])
  exact ⟨by rw [joC, upd_same]; rfl, by rw [joB, upd_other _ _ _ _ hpq]; exact hp.2.1, linked_join hp.1 hp.2.2.1 hq.1 hq.2.2.1 hn h0, trivial⟩

theorem remove_other {rt x : Nat} {c : BT} (h : HeapAt w b g n D S I T (.node rt c .nil)) (hx : x ∈ c.spots) (hlen : c.spots.length ≤ 1024) :
    Calls Try.prog 71 #[.pointer (some ⟨b, 0, none⟩), .int .i64 (x : Int)] w fun e w' => ∃ t' : BT, e = .returned (.tuple #[]) ∧ (x :: t'.spots).Perm (BT.node rt c .nil).spots ∧ HeapAt w' b g n (upd D x 0) (upd S x 0) (upd I x 0) (upd T x false) t' ∧ Only b g w w' := by
  obtain ⟨C, A, B, hR, hrow, hB⟩ := h.lk
  have hlen2 : (BT.node rt c .nil).spots.length = c.spots.length + 1 := by simp [BT.spots]
  rw [hlen2] at hR
  have hnd : (rt :: c.spots).Nodup := by have := h.sp.nd; simpa [BT.spots] using this
  have hle : ∀ y ∈ rt :: c.spots, 1 ≤ y ∧ y ≤ n := fun y hy => h.sp.le y (by simpa [BT.spots] using hy)
  have hrc : rt ∉ c.spots := (List.nodup_cons.1 hnd).1
  have hxr : x ≠ rt := fun e => hrc (e ▸ hx)
  obtain ⟨hC, hBr, hl, _⟩ := hrow
  obtain ⟨cx, k1, k2, k3, k4⟩ := linked_below (le := Le D S I) x c rt hl (List.nodup_cons.1 hnd).2 hx
  have hcx : ∀ y ∈ cx.spots, y ∈ c.spots := fun y hy => k3.mem_iff.1 (by simp [hy])
  have hnp := k3.nodup_iff.2 (List.nodup_cons.1 hnd).2
  have hxx : x ∉ cx.spots := (List.nodup_cons.1 (List.nodup_append.1 hnp).2.1).1
  have hsp : Spots n cx.spots := ⟨(List.nodup_cons.1 (List.nodup_append.1 hnp).2.1).2, fun y hy => hle y (by simp [hcx y hy])⟩
  have hpair := pair_any (w := w) (b := b) (g := g) (rt := rt) (ct := c.spots.length + 1) (D := D) (S := S) (I := I) (C := C) (A := A) (B := B) (T := T) cx cx.spots hsp hB
    ⟨⟨C, A, B, hR, linked_row cx x k2, trivial, fun _ _ => ⟨rfl, rfl, rfl⟩⟩, k4 h.od.2.1, trivial, by simp [BT.spots], Only.refl _ _ _⟩
  rw [← k1] at hpair
  have h0L : 0 ∉ cx.spots := fun hh => by have := (hsp.le 0 hh).1; omega
  have key := remove_deep hR x hxr (hle x (by simp [hx])).2 hlen
    (fun r C1 A1 B1 => ∃ tb : BT, r = tb.root ∧ tb.wide ≤ 1 ∧ Row C1 A1 B1 tb ∧ Ord (Le D S I) tb ∧ tb.spots.Perm cx.spots ∧ ∀ y, y ∉ cx.spots → C1 y = C y ∧ A1 y = A y ∧ B1 y = B y)
    (fun r C2 A2 B2 => ∃ t' : BT, r = t'.root ∧ t'.wide ≤ 1 ∧ Row C2 A2 B2 t' ∧ Ord (Le D S I) t' ∧ (x :: t'.spots).Perm (rt :: c.spots) ∧ B2 0 = 0)
    (hpair.mono (by
      rintro e w' ⟨t', hw, he, hp⟩
      obtain ⟨C1, A1, B1, q1, q2, _, q4⟩ := hp.lk
      exact ⟨t'.root, C1, A1, B1, he, q1, hp.on, t', rfl, hw, q2, hp.o1, by simpa [BT.spots] using hp.pm, q4⟩))
    (by
      rintro r C1 A1 B1 ⟨tb, _, _, _, _, _, off⟩
      obtain ⟨a, d⟩ := linked_near c rt x hl hx
      rw [(off x hxx).2.1, (off x hxx).2.2]
      refine ⟨?_, ?_⟩
      · rcases a with ⟨_, a⟩ | a
        · rw [a]; exact (hle rt (by simp)).2
        · exact (hle _ (by simp [a])).2
      · rcases d with d | d
        · rw [d]; exact Nat.zero_le _
        · exact (hle _ (by simp [d])).2)
    (by
      rintro w2 r C1 A1 B1 ⟨tb, rfl, hw, hrb, hob, hpb, off⟩ hR2
      obtain ⟨z1, z2⟩ := cut_apart hl hC hBr hnd (fun y hy => by have := (hle y hy).1; omega) hx k3 off
      have hrb2 : Row (cutC C1 A1 B1 x) (cutA C1 A1 B1 x) (cutB C1 A1 B1 x) tb := row_congr tb (fun y hy => z2 y (hpb.mem_iff.1 hy)) hrb
      have hocut := ord_cut x c h.od.2.1
      have hou : ∀ y ∈ (c.cut x).spots, Le D S I rt y := fun y hy => h.od.1 y (cut_spots x c y hy)
      have hB0 : cutB C1 A1 B1 x 0 = 0 := by
        rw [cutB_off, (off 0 h0L).2.2, hB]
        rw [(off x hxx).2.1]
        obtain ⟨a, _⟩ := linked_near c rt x hl hx
        rcases a with ⟨_, a⟩ | a
        · rw [a]; have := (hle rt (by simp)).1; omega
        · have := (hle _ (List.mem_cons_of_mem _ a)).1; omega
      have hall : ∀ y, List.count y ((c.cut x).spots ++ x :: tb.spots) = List.count y c.spots := fun y => by
        rw [← (List.perm_iff_count.1 k3) y]
        simp only [List.count_append, List.count_cons, (List.perm_iff_count.1 hpb) y]
      cases tb with
      | nil =>
        refine (join_right rt (hle rt (by simp)).1 w2 b).mono ?_
        rintro e w3 ⟨he, rfl⟩
        refine ⟨rt, _, _, _, he, hR2, Only.refl _ _ _, .node rt (c.cut x) .nil, rfl, by simp [BT.wide], z1, ⟨hou, hocut, trivial⟩, ?_, hB0⟩
        rw [List.perm_iff_count]
        intro y
        have := hall y
        simp only [BT.spots, List.count_append, List.count_cons, List.append_nil, List.count_nil] at this ⊢
        omega
      | node q cq xq =>
        cases xq with
        | node _ _ _ => simp [BT.wide] at hw
        | nil =>
          have hqc : ∀ y ∈ (BT.node q cq .nil).spots, y ∈ c.spots := fun y hy => hcx y (hpb.mem_iff.1 hy)
          have hq := hle q (List.mem_cons_of_mem _ (hqc q (by simp [BT.spots])))
          have hrt := hle rt (by simp)
          have hnn : (rt :: q :: (cq.spots ++ (c.cut x).spots)).Nodup := by
            have hn2 : (x :: rt :: q :: (cq.spots ++ (c.cut x).spots)).Nodup := by
              refine (List.Perm.nodup_iff ?_).2 hnd
              rw [List.perm_iff_count]
              intro y
              have := hall y
              simp only [BT.spots, List.count_append, List.count_cons, List.append_nil] at this ⊢
              omega
            exact (List.nodup_cons.1 hn2).2
          have hnn' : (q :: rt :: ((c.cut x).spots ++ cq.spots)).Nodup := by
            refine (List.Perm.nodup_iff ?_).2 hnn
            rw [List.perm_iff_count]
            intro y
            simp only [List.count_append, List.count_cons]
            omega
          have hroot : ∀ (d : BT), (∀ y ∈ d.spots, y ∈ c.spots) → d.root ≤ n := fun d hd => by
            cases d with
            | nil => exact Nat.zero_le _
            | node s _ _ => exact (hle s (List.mem_cons_of_mem _ (hd s (by simp [BT.spots])))).2
          have hne : ∀ (d : BT) (v : Nat), v ∉ d.spots → v ≠ 0 → d.root ≠ v := fun d v hv h0 e => by
            cases d with
            | nil => exact h0 e.symm
            | node s _ _ => rw [BT.root] at e; exact hv (by simp [BT.spots, e])
          have y1 : q ∉ (c.cut x).spots := fun hh => (List.nodup_cons.1 (List.nodup_cons.1 hnn).2).1 (by simp [hh])
          have y2 : rt ∉ cq.spots := fun hh => (List.nodup_cons.1 hnn).1 (by simp [hh])
          refine (join_any hR2 rt q hrt.1 hrt.2 hq.1 hq.2 (by rw [z1.1]; exact hroot _ (fun y hy => cut_spots x c y hy)) (by rw [hrb2.1]; exact hroot _ (fun y hy => hqc y (by simp [BT.spots, hy]))) (by rw [z1.1]; exact hne _ _ y1 (by omega)) (by rw [hrb2.1]; exact hne _ _ y2 (by omega))).mono ?_
          rintro e w3 ⟨u, v, huv, hlev, he, hR3, ho3⟩
          have nz1 : ∀ s ∈ (c.cut x).spots, s ≠ 0 := fun s hs => by have := (hle s (List.mem_cons_of_mem _ (cut_spots x c s hs))).1; omega
          have nz2 : ∀ s ∈ cq.spots, s ≠ 0 := fun s hs => by have := (hle s (List.mem_cons_of_mem _ (hqc s (by simp [BT.spots, hs])))).1; omega
          rcases huv with ⟨rfl, rfl⟩ | ⟨rfl, rfl⟩
          · obtain ⟨j1, j2⟩ := ord_join le_trans hlev hou hob.1 hocut hob.2.1
            refine ⟨u, _, _, _, he, hR3, ho3, .node u (.node v cq (c.cut x)) .nil, rfl, by simp [BT.wide], row_join z1 hrb2 hnn nz1, ⟨j1, j2, trivial⟩, ?_, ?_⟩
            · rw [List.perm_iff_count]
              intro y
              have := hall y
              simp only [BT.spots, List.count_append, List.count_cons, List.append_nil] at this ⊢
              omega
            · rw [joB, upd_other _ _ _ _ (by omega)]; exact hB0
          · obtain ⟨j1, j2⟩ := ord_join le_trans hlev hob.1 hou hob.2.1 hocut
            refine ⟨u, _, _, _, he, hR3, ho3, .node u (.node v (c.cut x) cq) .nil, rfl, by simp [BT.wide], row_join hrb2 z1 hnn' nz2, ⟨j1, j2, trivial⟩, ?_, ?_⟩
            · rw [List.perm_iff_count]
              intro y
              have := hall y
              simp only [BT.spots, List.count_append, List.count_cons, List.append_nil] at this ⊢
              omega
            · rw [joB, upd_other _ _ _ _ (by omega)]; exact hB0)
  refine key.mono ?_
  rintro e w' ⟨r, C2, A2, B2, he, m1, m2, t', rfl, q1, q2, q3, q4, q5⟩
  have hp : (x :: t'.spots).Perm (BT.node rt c .nil).spots := by simpa [BT.spots] using q4
  exact ⟨t', he, hp, heap_wiped h (by simp [BT.spots, hx]) hp q1 q2 q3 q5 hlen2 m1, m2⟩
end
end Go.Proofs.Ytbefehoegmmgpaa.Ph
