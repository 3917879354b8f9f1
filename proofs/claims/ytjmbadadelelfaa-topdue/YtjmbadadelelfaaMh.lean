/-
  A step of pair: what its loops keep is kept.
  The walk of pair, of any row.
  What stands below one in a tree; the tree without it, whatever pair has made of what stood below.
  The walks of remove over any answers of pair, cut and join.
  A whole heap: a row of at most one tree; what remove makes of it.
  remove of one that is not the first.
  put keeps a heap.
  A heap as what it holds: of each id its deadline and number, or nothing; Insert, Delete, Change and Take of what is right.
  Min and Take over what a heap holds.
  Min and Take of an empty heap; Get; what is refused.
  What a heap holds as a list of items (id, deadline, number), each ahead of all that are behind it.
  What a heap's calls answer, over the list that it holds: what is refused, Get, Len, an empty heap.
-/
import Derived.Test.YtjmbadadelelfaaMp
namespace Go.Proofs.Ytjmbadadelelfaa.Ph
open Go.RowKit

section
variable {w : World} {b g n rt ct : Nat} {D S I : Nat → Nat} {T : Nat → Bool} {L : List Nat} {C0 A0 B0 : Nat → Nat} {wr : World} {C A B : Nat → Nat}
theorem step_two {a c : Nat} {ca cc rest m : BT} (hL : Spots n L) (h1 : Row C A B (.node a ca (.node c cc rest))) (h2 : Row C A B m) (off : ∀ y, y ∉ L → C y = C0 y ∧ A y = A0 y ∧ B y = B0 y)
    (o1 : Ord (Le D S I) (.node a ca (.node c cc rest))) (o2 : Ord (Le D S I) m) (pm : ((BT.node a ca (.node c cc rest)).spots ++ m.spots).Perm L)
    {u v : Nat} (huv : (u = a ∧ v = c) ∨ (u = c ∧ v = a)) (hle : Le D S I u v) (hr : Rep wr b g n rt ct D S I (joC C u v) (joA C A u v) (joB C B u v) T) (ho : Only b g w wr) :
    ∃ m' : BT, m'.root = u ∧ m'.wide = m.wide + 1 ∧ PI w b g n rt ct D S I T L C0 A0 B0 (wr.setCell ⟨g, u * 7 + 5, none⟩ (.int .i64 (m.root : Int))) rest m' := by
  obtain ⟨cu, cv, p1, p3, q1, q3, hou, hov, hcu, hcv, hperm⟩ : ∃ cu cv : BT, C u = cu.root ∧ Linked C A B u cu ∧ C v = cv.root ∧ Linked C A B v cv ∧ (∀ y ∈ cu.spots, Le D S I u y) ∧ (∀ y ∈ cv.spots, Le D S I v y) ∧ Ord (Le D S I) cu ∧ Ord (Le D S I) cv ∧ (rest.spots ++ (BT.node u (.node v cv cu) m).spots).Perm L := by
    obtain ⟨a1, a2, a3, c1, c2, c3, _⟩ := h1
    obtain ⟨oa, oca, oc, occ, _⟩ := o1
    rcases huv with ⟨rfl, rfl⟩ | ⟨rfl, rfl⟩
    · refine ⟨ca, cc, a1, a3, c1, c3, oa, oc, oca, occ, List.Perm.trans ?_ pm⟩
      rw [List.perm_iff_count]
      intro y
      simp only [BT.spots, List.count_append, List.count_cons, List.cons_append, List.append_assoc]
      omega
    · refine ⟨cc, ca, c1, c3, a1, a3, oc, oa, occ, oca, List.Perm.trans ?_ pm⟩
      rw [List.perm_iff_count]
      intro y
      simp only [BT.spots, List.count_append, List.count_cons, List.cons_append, List.append_assoc]
      omega
  have hnd := hperm.nodup_iff.2 hL.nd
  have hmem : ∀ y, y ∈ rest.spots ++ (BT.node u (.node v cv cu) m).spots → y ∈ L := fun y hy => hperm.mem_iff.1 hy
  have hrest : Row C A B rest := h1.2.2.2.2.2.2
  have hnm : ((u :: v :: (cv.spots ++ cu.spots)) ++ m.spots).Nodup := (List.nodup_append.1 hnd).2.1
  have hn : (u :: v :: (cv.spots ++ cu.spots)).Nodup := (List.nodup_append.1 hnm).1
  have hd : ∀ s, s ∈ rest.spots ∨ s ∈ m.spots → s ≠ u ∧ s ≠ v ∧ s ∉ cu.spots := by
    intro s hs
    rcases hs with hs | hs
    · have hy := (List.nodup_append.1 hnd).2.2 s hs
      exact ⟨fun e => hy u (by simp [BT.spots]) e, fun e => hy v (by simp [BT.spots]) e, fun e => hy s (by simp [BT.spots, e]) rfl⟩
    · have hy : ∀ y ∈ u :: v :: (cv.spots ++ cu.spots), y ≠ s := fun y h => (List.nodup_append.1 hnm).2.2 y h s hs
      exact ⟨fun e => hy u (by simp) e.symm, fun e => hy v (by simp) e.symm, fun e => hy s (by simp [e]) rfl⟩
  have hz : ∀ s ∈ cu.spots, s ≠ 0 := fun s hs => by
    have := (hL.le s (hmem s (by simp [BT.spots, hs]))).1; omega
  obtain ⟨k1, k2, k3⟩ := row_step p1 p3 q1 q3 hrest h2 hn hz hd
  have uL : u ∈ L := hmem u (by simp [BT.spots])
  have vL : v ∈ L := hmem v (by simp [BT.spots])
  refine ⟨.node u (.node v cv cu) m, rfl, rfl, ⟨⟨_, _, _, hr.setB u (hL.le u uL).2 m.root, k2, k1, fun y hy => ?_⟩, o1.2.2.2.2, ?_, hperm, ho.set _ _ (Or.inr rfl)⟩⟩
  · obtain ⟨x1, x2, x3⟩ := k3 y (fun e => hy (e ▸ uL)) (fun e => hy (e ▸ vL)) (fun e => hy (hmem y (by simp [BT.spots, e])))
    obtain ⟨z1, z2, z3⟩ := off y hy
    exact ⟨x1.trans z1, x2.trans z2, x3.trans z3⟩
  · obtain ⟨j1, j2⟩ := ord_join le_trans hle hou hov hcu hcv
    exact ⟨j1, j2, o2⟩
theorem step_odd {a : Nat} {ca m : BT} (hL : Spots n L) (h1 : Row C A B (.node a ca .nil)) (h2 : Row C A B m) (off : ∀ y, y ∉ L → C y = C0 y ∧ A y = A0 y ∧ B y = B0 y)
    (o1 : Ord (Le D S I) (.node a ca .nil)) (o2 : Ord (Le D S I) m) (pm : ((BT.node a ca .nil).spots ++ m.spots).Perm L) (hr : Rep wr b g n rt ct D S I C A B T) (ho : Only b g w wr) :
    PI w b g n rt ct D S I T L C0 A0 B0 (wr.setCell ⟨g, a * 7 + 5, none⟩ (.int .i64 (m.root : Int))) .nil (.node a ca m) := by
  have hnd := pm.nodup_iff.2 hL.nd
  have aL : a ∈ L := pm.mem_iff.1 (by simp [BT.spots])
  obtain ⟨a1, a2, a3, _⟩ := h1
  refine ⟨⟨_, _, _, hr.setB a (hL.le a aL).2 m.root, trivial, row_odd a1 a3 h2 ?_ ?_, fun y hy => ?_⟩, trivial, ⟨o1.1, o1.2.1, o2⟩, ?_, ho.set _ _ (Or.inr rfl)⟩
  · simp only [BT.spots, List.append_nil, List.cons_append, List.nodup_cons, List.mem_append, not_or] at hnd; exact hnd.1.1
  · simp only [BT.spots, List.append_nil, List.cons_append, List.nodup_cons, List.mem_append, not_or] at hnd; exact hnd.1.2
  · obtain ⟨z1, z2, z3⟩ := off y hy
    exact ⟨z1, z2, (upd_other B a m.root y (fun e => hy (e ▸ aL))).trans z3⟩
  · simpa [BT.spots] using pm
end
end Go.Proofs.Ytjmbadadelelfaa.Ph

namespace Go.Proofs.Ytjmbadadelelfaa.Ph
open Go.RowKit
attribute [local go_sem ↓] Go.wp_at_zero Go.wp_at_succ

/-- How far a round is: W stood in the row at its start. -/
def Cnt (W : Nat) (t m : BT) : Prop := W ≤ t.wide + 2 * m.wide ∧ 1 ≤ W ∧ (t.wide + 2 * m.wide ≤ W ∨ (t = .nil ∧ 3 ≤ W ∧ 2 * m.wide ≤ W + 1))

theorem PI.turn {w : World} {b g n rt ct : Nat} {D S I C0 A0 B0 : Nat → Nat} {T : Nat → Bool} {L : List Nat} {wr : World} {m : BT} (h : PI w b g n rt ct D S I T L C0 A0 B0 wr .nil m) : PI w b g n rt ct D S I T L C0 A0 B0 wr m .nil := by
  obtain ⟨C, A, B, h1, h2, h3, h4⟩ := h.lk
  exact ⟨⟨C, A, B, h1, h3, h2, h4⟩, h.o2, h.o1, by simpa [BT.spots] using h.pm, h.on⟩

section
variable {w : World} {b g n rt ct : Nat} {D S I C A B : Nat → Nat} {T : Nat → Bool}
set_option maxHeartbeats 4000000 in
theorem pair_any (t0 : BT) (L : List Nat) (hL : Spots n L) (hB0 : B 0 = 0) (h0 : PI w b g n rt ct D S I T L C A B w t0 .nil) :
    Calls Try.prog 61 #[.pointer (some ⟨b, 0, none⟩), .int .i64 (t0.root : Int)] w fun e w' => ∃ t : BT, t.wide ≤ 1 ∧ e = .returned (.int .i64 (t.root : Int)) ∧ PI w b g n rt ct D S I T L C A B w' t .nil := by
  have HL := veil hL
  have HB0 := veil hB0
  have H0 := veil h0
  clear h0 hL hB0
  go_enter Try.func61, Try.ntmps61
  go_wp2
  go_step3
  go_wp2
  go_step3
  go_wp2
  go_loopw [1] (fun i wr => ∃ t : BT, i = .int .i64 (t.root : Int) ∧ Hid (PI w b g n rt ct D S I T L C A B wr t .nil)) (fun i wr => chain wr g L.length (intOf i).toNat)
  case atStart => exact ⟨t0, rfl, H0⟩
  case round =>
    obtain ⟨t, rfl, ht⟩ := hrel
    cases t with
    | nil =>
      have HN : Hid ((BT.nil).root = 0) := veil rfl
      have hz : (((BT.nil).root : Nat) : Int) = 0 := rfl
      rw [hz]
      go_wp2
      rw [Exit.noGoto_ret]
      go_ret
      exact ⟨.nil, by simp [BT.wide], rfl, ht.out⟩
    | node a ca x =>
      have ha := HL.out.le a (ht.out.pm.mem_iff.1 (by simp [BT.spots]))
      have hai : ¬ (a : Int) = 0 := by omega
      have hroot : (((BT.node a ca x).root : Nat) : Int) = (a : Int) := rfl
      have HW := veil (ht.out.chain HL.out)
      have hab : ((a : Int) != 0) = true := by rw [bne_iff_ne]; exact hai
      rw [hroot]
      go_wp2
      clear hab
      go_loopw [1, 5] (fun i k wr2 => ∃ t m : BT, i = .int .i64 (t.root : Int) ∧ k = .int .i64 (m.root : Int) ∧ Hid (PI w b g n rt ct D S I T L C A B wr2 t m) ∧ Hid (Cnt (BT.node a ca x).wide t m)) (fun i _ wr2 => chain wr2 g L.length (intOf i).toNat)
      case atStart => exact ⟨.node a ca x, .nil, rfl, rfl, ht, by refine ⟨?_, ?_, .inl ?_⟩ <;> simp [BT.wide]⟩
      case round =>
        obtain ⟨t, m, rfl, rfl, hp, hc⟩ := hrel
        cases t with
        | nil =>
          have hz : (((BT.nil).root : Nat) : Int) = 0 := rfl
          rw [hz]
          go_wp2
          have hp' := hp.out.turn
          refine ⟨⟨m, rfl, hp'⟩, ?_⟩
          have e1 : (intOf (Value.int IntKind.i64 (m.root : Int))).toNat = m.root := by simp [intOf]
          have e2 : (intOf (Value.int IntKind.i64 (a : Int))).toNat = (BT.node a ca x).root := by simp [intOf, BT.root]
          rw [e1, e2, HW.out, hp'.chain HL.out]
          obtain ⟨q1, q2, q3⟩ := hc.out
          simp only [BT.wide] at q1 q2 q3 ⊢
          rcases q3 with q3 | ⟨_, q3, q4⟩ <;> omega
        | node r cr rest =>
          have hrr := HL.out.le r (hp.out.pm.mem_iff.1 (by simp [BT.spots]))
          have hri : ¬ (r : Int) = 0 := by omega
          have hroot2 : (((BT.node r cr rest).root : Nat) : Int) = (r : Int) := rfl
          have HM := veil (hp.out.chain HL.out)
          obtain ⟨C1, A1, B1, hR, hrow, hrm, hoff⟩ := hp.out.lk
          obtain ⟨cp, e0⟩ := hR.sl
          have e1 := hR.nb r hrr.2
          have e2 := hrow.2.1
          rw [e2] at e1
          have rl : r < n + 1 := by omega
          have fg := hR.fg
          have HR := veil hR
          have HRow := veil hrow
          have HRm := veil hrm
          have HOff := veil hoff
          clear hR hrow hrm hoff e2
          rw [hroot2]
          cases rest with
          | nil =>
            have e1' : wr.cell? ⟨g, r * 7 + 5, none⟩ = some (.int .i64 0) := e1
            clear e1
            cases m with
            | nil =>
              have hz : (((BT.nil).root : Nat) : Int) = 0 := rfl
              rw [hz]
              go_wp2
              go_quiet (fail)
              go_wp2
              show Exit.noGoto _ Exit.ret _ _
              rw [Exit.noGoto_ret]
              go_ret
              exact ⟨.node r cr .nil, by simp [BT.wide], rfl, ⟨⟨C1, A1, B1, HR.out.drewN _, HRow.out, trivial, HOff.out⟩, hp.out.o1, trivial, hp.out.pm, hp.out.on.drewN _⟩⟩
            | node mr mc mx =>
              have hmm := HL.out.le mr (hp.out.pm.mem_iff.1 (by simp [BT.spots]))
              have hmi : ¬ (mr : Int) = 0 := by omega
              have hroot3 : (((BT.node mr mc mx).root : Nat) : Int) = (mr : Int) := rfl
              have z1 : wr.cell? ⟨g, 0 * 7 + 5, none⟩ = some (.int .i64 0) := by
                have := HR.out.nb 0 (Nat.zero_le _)
                rw [((HOff.out 0 (fun hh => by have := (HL.out.le 0 hh).1; omega)).2.2).trans HB0.out] at this
                exact this
              have z2 : wr.cell? ⟨g, 5, none⟩ = some (.int .i64 0) := z1
              clear z1
              rw [hroot3]
              go_wp2
              go_quiet (fail)
              go_wp2_with (go_at_call 60; refine (join_right r hrr.1 _ b).mono ?_; rintro e w3 ⟨rfl, hw⟩; replace hw := hw.symm; subst hw)
              have HS := veil (step_odd HL.out HRow.out HRm.out HOff.out hp.out.o1 hp.out.o2 hp.out.pm (HR.out.drewN nq) (hp.out.on.drewN nq))
              go_roundw
              case rel =>
                exact ⟨BT.nil, .node r cr (.node mr mc mx), rfl, rfl, HS, by
                  obtain ⟨q1, q2, q3⟩ := hc.out
                  rcases q3 with q3 | ⟨q3, _⟩
                  · simp only [Cnt, BT.wide] at *
                    refine ⟨?_, ?_, .inr ⟨trivial, ?_, ?_⟩⟩ <;> omega
                  · exact absurd q3 (by simp)⟩
              case measure =>
                have e1 : (intOf (Value.int IntKind.i64 (r : Int))).toNat = (BT.node r cr .nil).root := by simp [intOf, BT.root]
                have e2 : (intOf (Value.int IntKind.i64 0)).toNat = (BT.nil).root := by simp [intOf, BT.root]
                have hs := HS.out.chain HL.out
                have hm := HM.out
                rw [← e2] at hs
                rw [← e1] at hm
                show chain _ g L.length (intOf (Value.int IntKind.i64 0)).toNat < chain wr g L.length (intOf (Value.int IntKind.i64 (r : Int))).toNat
                have hs' : chain ((wr.drewN nq).setCell ⟨g, r * 7 + 5, none⟩ (Value.int IntKind.i64 (mr : Int))) g L.length (intOf (Value.int IntKind.i64 0)).toNat = _ := hs
                rw [hs', hm]
                simp [BT.wide]
          | node r2 cr2 rest2 =>
            have hr2 := HL.out.le r2 (hp.out.pm.mem_iff.1 (by simp [BT.spots]))
            have hr2i : ¬ (r2 : Int) = 0 := by omega
            have r2l : r2 < n + 1 := by omega
            have e1' : wr.cell? ⟨g, r * 7 + 5, none⟩ = some (.int .i64 (r2 : Int)) := e1
            have e3 := HR.out.nb r2 hr2.2
            have e4 := HRow.out.2.2.2.2.1
            rw [e4] at e3
            clear e1 e4
            have hle : ∀ (c : BT), (∀ y ∈ c.spots, y ∈ L) → c.root ≤ n := fun c h => by
              cases c with
              | nil => exact Nat.zero_le _
              | node s _ _ => exact (HL.out.le s (h s (by simp [BT.spots]))).2
            have hnd := hp.out.pm.nodup_iff.2 HL.out.nd
            have hne : ∀ (c : BT) (q : Nat), q ∉ c.spots → q ≠ 0 → c.root ≠ q := fun c q h h0 e => by
              cases c with
              | nil => exact h0 e.symm
              | node s _ _ => rw [BT.root] at e; exact h (by simp [BT.spots, e])
            have hmem : ∀ y, y ∈ (BT.node r cr (.node r2 cr2 rest2)).spots → y ∈ L := fun y hy => hp.out.pm.mem_iff.1 (List.mem_append.2 (.inl hy))
            have k1 : C1 r ≤ n := by rw [HRow.out.1]; exact hle cr (fun y hy => hmem y (by simp [BT.spots, hy]))
            have k2 : C1 r2 ≤ n := by rw [HRow.out.2.2.2.1]; exact hle cr2 (fun y hy => hmem y (by simp [BT.spots, hy]))
            have nd1 := (List.nodup_append.1 hnd).1
            simp only [BT.spots, List.nodup_cons, List.nodup_append, List.mem_cons, List.mem_append, not_or] at nd1
            have k3 : C1 r ≠ r2 := by rw [HRow.out.1]; exact hne cr r2 (fun hh => nd1.2.2.2 r2 hh r2 (by simp) rfl) (by omega)
            have k4 : C1 r2 ≠ r := by rw [HRow.out.2.2.2.1]; exact hne cr2 r nd1.1.2.2.1 (by omega)
            have HJ : Hid (∀ w1, Rep w1 b g n rt ct D S I C1 A1 B1 T → _) := fun w1 hh => join_any hh r r2 hrr.1 hrr.2 hr2.1 hr2.2 k1 k2 k3 k4
            clear k1 k2 k3 k4 nd1 hne hle hmem hnd
            go_wp2
            go_quiet (fail)
            go_wp2_with (go_at_call 60; refine (HJ.out _ (HR.out.drewN nq)).mono ?_; rintro e w3 ⟨u, v, huv, hle, rfl, hr3, ho3⟩; obtain ⟨cp3, e30⟩ := hr3.sl; have fg3 := hr3.fg; have ul : u < n + 1 := (by rcases huv with ⟨hu, _⟩ | ⟨hu, _⟩ <;> rw [hu] <;> omega); have e31 := hr3.nb u (by omega); have HR3 := veil hr3; have HO3 := veil ho3; have HUV := veil huv; have HLE := veil hle; clear hr3 ho3 huv hle)
            have HS := veil (step_two HL.out HRow.out HRm.out HOff.out hp.out.o1 hp.out.o2 hp.out.pm HUV.out HLE.out HR3.out ((hp.out.on.drewN nq).trans HO3.out))
            obtain ⟨m', hm1, hm2, hm3⟩ := HS.out
            go_roundw
            case rel =>
              exact ⟨rest2, m', rfl, by rw [hm1], hm3, by
                obtain ⟨q1, q2, q3⟩ := hc.out
                rcases q3 with q3 | ⟨q3, _⟩
                · simp only [Cnt, BT.wide] at *
                  refine ⟨?_, ?_, .inl ?_⟩ <;> omega
                · exact absurd q3 (by simp)⟩
            case measure =>
              have e1 : (intOf (Value.int IntKind.i64 (r : Int))).toNat = (BT.node r cr (.node r2 cr2 rest2)).root := by simp [intOf, BT.root]
              have e2 : (intOf (Value.int IntKind.i64 (rest2.root : Int))).toNat = rest2.root := by simp [intOf]
              have hs := hm3.chain HL.out
              have hm := HM.out
              rw [← e2] at hs
              rw [← e1] at hm
              show chain (w3.setCell ⟨g, u * 7 + 5, none⟩ (Value.int IntKind.i64 (m.root : Int))) g L.length (intOf (Value.int IntKind.i64 (rest2.root : Int))).toNat < chain wr g L.length (intOf (Value.int IntKind.i64 (r : Int))).toNat
              rw [hs, hm]
              simp only [BT.wide]
              omega
end
end Go.Proofs.Ytjmbadadelelfaa.Ph

namespace Go.Proofs.Ytjmbadadelelfaa.Ph

theorem linked_below {C A B : Nat → Nat} {le : Nat → Nat → Prop} (x : Nat) : ∀ (t : BT) (p : Nat), Linked C A B p t → t.spots.Nodup → x ∈ t.spots →
    ∃ cx : BT, C x = cx.root ∧ Linked C A B x cx ∧ ((t.cut x).spots ++ x :: cx.spots).Perm t.spots ∧ (Ord le t → Ord le cx)
  | .nil, _, _, _, h => by simp [BT.spots] at h
  | .node r c y, p, hl, hn, hx => by
    obtain ⟨h1, h2, h3, h4, h5⟩ := hl
    simp only [BT.spots, List.nodup_cons, List.mem_cons, List.mem_append, not_or, List.nodup_append] at hn hx
    obtain ⟨⟨nrc, nry⟩, hc, hy, hcy⟩ := hn
    rcases hx with rfl | hx | hx
    · refine ⟨c, h2, h4, ?_, fun o => o.2.1⟩
      rw [BT.cut, if_pos rfl, List.perm_iff_count]
      intro z
      simp only [BT.spots, List.count_append, List.count_cons]
      omega
    · have hrs : r ≠ x := fun e => nrc (e ▸ hx)
      have nsx : x ∉ y.spots := fun q => hcy x hx x q rfl
      obtain ⟨cx, k1, k2, k3, k4⟩ := linked_below x c r h4 hc hx
      refine ⟨cx, k1, k2, ?_, fun o => k4 o.2.1⟩
      rw [BT.cut, if_neg hrs, cut_out x y nsx]
      rw [List.perm_iff_count] at k3 ⊢
      intro z
      have := k3 z
      simp only [BT.spots, List.count_append, List.count_cons] at this ⊢
      omega
    · have hrs : r ≠ x := fun e => nry (e ▸ hx)
      have nsc : x ∉ c.spots := fun q => hcy x q x hx rfl
      obtain ⟨cx, k1, k2, k3, k4⟩ := linked_below x y r h5 hy hx
      refine ⟨cx, k1, k2, ?_, fun o => k4 o.2.2⟩
      rw [BT.cut, if_neg hrs, cut_out x c nsc]
      rw [List.perm_iff_count] at k3 ⊢
      intro z
      have := k3 z
      simp only [BT.spots, List.count_append, List.count_cons] at this ⊢
      omega

theorem linked_nearer {C A B : Nat → Nat} (s : Nat) : ∀ (t : BT) (p : Nat), Linked C A B p t → t.spots.Nodup → s ∈ t.spots →
    (A s = p ∨ A s ∈ (t.cut s).spots) ∧ (B s = 0 ∨ B s ∈ (t.cut s).spots)
  | .nil, _, _, _, h => by simp [BT.spots] at h
  | .node r c y, p, hl, hn, hx => by
    obtain ⟨h1, h2, h3, h4, h5⟩ := hl
    simp only [BT.spots, List.nodup_cons, List.mem_cons, List.mem_append, not_or, List.nodup_append] at hn hx
    obtain ⟨⟨nrc, nry⟩, hc, hy, hcy⟩ := hn
    rcases hx with rfl | hx | hx
    · refine ⟨.inl h1, ?_⟩
      rw [BT.cut, if_pos rfl, h3]
      cases y with
      | nil => exact .inl rfl
      | node z cz xz => exact .inr (by simp [BT.root, BT.spots])
    · have hrs : r ≠ s := fun e => nrc (e ▸ hx)
      obtain ⟨a, b⟩ := linked_nearer s c r h4 hc hx
      rw [BT.cut, if_neg hrs]
      simp only [BT.spots, List.mem_cons, List.mem_append]
      exact ⟨.inr (a.imp id .inl), b.imp id (fun q => .inr (.inl q))⟩
    · have hrs : r ≠ s := fun e => nry (e ▸ hx)
      obtain ⟨a, b⟩ := linked_nearer s y r h5 hy hx
      rw [BT.cut, if_neg hrs]
      simp only [BT.spots, List.mem_cons, List.mem_append]
      exact ⟨.inr (a.imp id .inr), b.imp id (fun q => .inr (.inr q))⟩

/-- The tree p over c without x, when the links of L (what stood below x) have been turned: what cut makes of the links then. -/
theorem cut_apart {C A B C1 A1 B1 : Nat → Nat} {p x : Nat} {c : BT} {L : List Nat} (hl : Linked C A B p c) (hC : C p = c.root) (hB : B p = 0) (hn : (p :: c.spots).Nodup) (h0 : ∀ y ∈ p :: c.spots, y ≠ 0) (hx : x ∈ c.spots)
    (hperm : ((c.cut x).spots ++ x :: L).Perm c.spots) (off : ∀ y, y ∉ L → C1 y = C y ∧ A1 y = A y ∧ B1 y = B y) :
    Row (cutC C1 A1 B1 x) (cutA C1 A1 B1 x) (cutB C1 A1 B1 x) (.node p (c.cut x) .nil) ∧ ∀ y, y ∈ L → cutC C1 A1 B1 x y = C1 y ∧ cutA C1 A1 B1 x y = A1 y ∧ cutB C1 A1 B1 x y = B1 y := by
  have hnc := (List.nodup_cons.1 hn).2
  have hpc := (List.nodup_cons.1 hn).1
  have hnp := hperm.nodup_iff.2 hnc
  have hLc : ∀ y ∈ L, y ∈ c.spots := fun y hy => hperm.mem_iff.1 (by simp [hy])
  have hdis : ∀ y ∈ (c.cut x).spots, y ∉ L := fun y hy hh => (List.nodup_append.1 hnp).2.2 y hy y (by simp [hh]) rfl
  have hxL : x ∉ L := (List.nodup_cons.1 (List.nodup_append.1 hnp).2.1).1
  have hpL : p ∉ L := fun hh => hpc (hLc p hh)
  have h0L : 0 ∉ L := fun hh => h0 0 (by simp [hLc 0 hh]) rfl
  obtain ⟨k1, k2⟩ := linked_cut c p x hl hn (fun y hy => h0 y (by simp [hy])) hx
  obtain ⟨a, b⟩ := linked_nearer x c p hl hnc hx
  have haL : A x ∉ L := by
    rcases a with a | a
    · rw [a]; exact hpL
    · exact hdis _ a
  have hbL : B x ∉ L := by
    rcases b with b | b
    · rw [b]; exact h0L
    · exact hdis _ b
  have eA : A1 x = A x := (off x hxL).2.1
  have eB : B1 x = B x := (off x hxL).2.2
  have eC : C1 (A x) = C (A x) := (off _ haL).1
  have key : ∀ y, y ∉ L → cutC C1 A1 B1 x y = cutC C A B x y ∧ cutA C1 A1 B1 x y = cutA C A B x y ∧ cutB C1 A1 B1 x y = cutB C A B x y := by
    intro y hy
    obtain ⟨o1, o2, o3⟩ := off y hy
    simp only [cutC, cutA, cutB, eA, eB, eC]
    refine ⟨?_, ?_, ?_⟩
    · split
      · simp only [upd, o1]
      · exact o1
    · split
      · exact o2
      · simp only [upd, o2]
    · split
      · exact o3
      · simp only [upd, o3]
  have hm := linked_congr (c.cut x) p (fun y hy => key y (hdis y hy)) k1
  have kp := key p hpL
  have hnear := (linked_near c p x hl hx).1
  refine ⟨⟨?_, ?_, hm, trivial⟩, fun y hy => ⟨?_, ?_, ?_⟩⟩
  · rw [kp.1]
    by_cases hq : x = c.root
    · have ha : A x = p := by
        cases c with
        | nil => simp [BT.spots] at hx
        | node z cz xz => rw [BT.root] at hq; rw [hq]; exact hl.1
      rw [cutC, if_pos (by rw [ha, hC]; exact hq.symm), ha, upd_same, k2 hq]
    · rw [cutC_off, cut_root x c (fun q => hq q.symm)]
      · exact hC
      · rcases hnear with ⟨q, _⟩ | q
        · exact absurd q hq
        · exact fun e => hpc (e ▸ q)
  · rw [kp.2.2]
    by_cases hq : x = c.root
    · have ha : A x = p := by
        cases c with
        | nil => simp [BT.spots] at hx
        | node z cz xz => rw [BT.root] at hq; rw [hq]; exact hl.1
      rw [cutB, if_pos (by rw [ha, hC]; exact hq.symm)]; exact hB
    · rw [cutB_off]
      · exact hB
      · rcases hnear with ⟨q, _⟩ | q
        · exact absurd q hq
        · exact fun e => hpc (e ▸ q)
  · exact cutC_off (by rw [eA]; exact fun e => haL (e ▸ hy))
  · exact cutA_off (.inr (by rw [eB]; exact fun e => hbL (e ▸ hy)))
  · exact cutB_off (by rw [eA]; exact fun e => haL (e ▸ hy))
end Go.Proofs.Ytjmbadadelelfaa.Ph

namespace Go.Proofs.Ytjmbadadelelfaa.Ph
open Go.RowKit
attribute [local go_sem ↓] Go.wp_at_zero Go.wp_at_succ

section
variable {w : World} {b g n rt ct : Nat} {D S I C A B : Nat → Nat} {T : Nat → Bool}
set_option maxHeartbeats 4000000 in
theorem remove_top (h : Rep w b g n rt (ct + 1) D S I C A B T) (x : Nat) (hx : x = rt) (hxn : x ≤ n) (hct : ct ≤ 1024) (Q : Nat → (Nat → Nat) → (Nat → Nat) → (Nat → Nat) → Prop)
    (hP : Calls Try.prog 61 #[.pointer (some ⟨b, 0, none⟩), .int .i64 (C x : Int)] w fun e w' => ∃ (r : Nat) (C1 A1 B1 : Nat → Nat), e = .returned (.int .i64 (r : Int)) ∧ Rep w' b g n rt (ct + 1) D S I C1 A1 B1 T ∧ Only b g w w' ∧ Q r C1 A1 B1) :
    Calls Try.prog 53 #[.pointer (some ⟨b, 0, none⟩), .int .i64 (x : Int)] w fun e w' => ∃ (r : Nat) (C1 A1 B1 : Nat → Nat), e = .returned (.tuple #[]) ∧ Rep w' b g n r ct (upd D x 0) (upd S x 0) (upd I x 0) (upd C1 x 0) (upd A1 x 0) (upd B1 x 0) (upd T x false) ∧ Only b g w w' ∧ Q r C1 A1 B1 := by
  subst hx
  obtain ⟨cp, e0⟩ := h.sl
  have c1 := h.nc x hxn
  have xl : x < n + 1 := by omega
  have hbg := h.bg
  have hgb : g ≠ b := fun e => hbg e.symm
  have HP := veil hP
  clear h hP
  go_enter Try.func53, Try.ntmps53
  go_wp2_with (go_at_call 61; refine (HP.out).mono ?_; rintro e w1 ⟨r, C1, A1, B1, rfl, hr, ho, hq⟩; obtain ⟨cp1, e1⟩ := hr.sl; have r1 := hr.rt; have r2 := hr.ct; have m0 := hr.nd x hxn; have m1 := hr.ns x hxn; have m2 := hr.ni x hxn; have m3 := hr.nc x hxn; have m4 := hr.na x hxn; have m5 := hr.nb x hxn; have m6 := hr.nt x hxn; have fb := hr.fb; have fg := hr.fg; have HR := veil hr; have HO := veil ho; have HQ := veil hq; clear hr ho hq)
  go_end0
  refine ⟨r, C1, A1, B1, rfl, ((zero_node (HR.out.setR r) x hxn).setN ct), ?_, HQ.out⟩
  exact (((((((((HO.out.set ⟨b, 1, none⟩ _ (Or.inl rfl)).set ⟨g, x * 7, none⟩ _ (Or.inr rfl)).set ⟨g, x * 7 + 1, none⟩ _ (Or.inr rfl)).set ⟨g, x * 7 + 2, none⟩ _ (Or.inr rfl)).set ⟨g, x * 7 + 3, none⟩ _ (Or.inr rfl)).set ⟨g, x * 7 + 4, none⟩ _ (Or.inr rfl)).set ⟨g, x * 7 + 5, none⟩ _ (Or.inr rfl)).set ⟨g, x * 7 + 6, none⟩ _ (Or.inr rfl)).set ⟨b, 2, none⟩ _ (Or.inl rfl))

set_option maxHeartbeats 4000000 in
theorem remove_deep (h : Rep w b g n rt (ct + 1) D S I C A B T) (x : Nat) (hx : x ≠ rt) (hxn : x ≤ n) (hct : ct ≤ 1024) (Q Q2 : Nat → (Nat → Nat) → (Nat → Nat) → (Nat → Nat) → Prop)
    (hP : Calls Try.prog 61 #[.pointer (some ⟨b, 0, none⟩), .int .i64 (C x : Int)] w fun e w' => ∃ (r : Nat) (C1 A1 B1 : Nat → Nat), e = .returned (.int .i64 (r : Int)) ∧ Rep w' b g n rt (ct + 1) D S I C1 A1 B1 T ∧ Only b g w w' ∧ Q r C1 A1 B1)
    (hQ : ∀ (r : Nat) (C1 A1 B1 : Nat → Nat), Q r C1 A1 B1 → A1 x ≤ n ∧ B1 x ≤ n)
    (hJ : ∀ (w2 : World) (r : Nat) (C1 A1 B1 : Nat → Nat), Q r C1 A1 B1 → Rep w2 b g n rt (ct + 1) D S I (cutC C1 A1 B1 x) (cutA C1 A1 B1 x) (cutB C1 A1 B1 x) T → Calls Try.prog 60 #[.pointer (some ⟨b, 0, none⟩), .int .i64 (rt : Int), .int .i64 (r : Int)] w2 fun e w' => ∃ (r2 : Nat) (C2 A2 B2 : Nat → Nat), e = .returned (.int .i64 (r2 : Int)) ∧ Rep w' b g n rt (ct + 1) D S I C2 A2 B2 T ∧ Only b g w2 w' ∧ Q2 r2 C2 A2 B2) :
    Calls Try.prog 53 #[.pointer (some ⟨b, 0, none⟩), .int .i64 (x : Int)] w fun e w' => ∃ (r : Nat) (C1 A1 B1 : Nat → Nat), e = .returned (.tuple #[]) ∧ Rep w' b g n r ct (upd D x 0) (upd S x 0) (upd I x 0) (upd C1 x 0) (upd A1 x 0) (upd B1 x 0) (upd T x false) ∧ Only b g w w' ∧ Q2 r C1 A1 B1 := by
  obtain ⟨cp, e0⟩ := h.sl
  have c1 := h.nc x hxn
  have xl : x < n + 1 := by omega
  have xr : ¬ (x : Int) = (rt : Int) := by omega
  have hbg := h.bg
  have hgb : g ≠ b := fun e => hbg e.symm
  have HP := veil hP
  have HJ := veil hJ
  have HC : Hid (∀ (w1 : World) (r : Nat) (C1 A1 B1 : Nat → Nat), Q r C1 A1 B1 → Rep w1 b g n rt (ct + 1) D S I C1 A1 B1 T → Calls Try.prog 62 #[.pointer (some ⟨b, 0, none⟩), .int .i64 x] w1 fun e w' => e = .returned (.tuple #[]) ∧ Rep w' b g n rt (ct + 1) D S I (cutC C1 A1 B1 x) (cutA C1 A1 B1 x) (cutB C1 A1 B1 x) T ∧ Only b g w1 w') :=
    fun w1 r C1 A1 B1 hq hr => cut_any hr x (A1 x) (B1 x) hxn (hQ r C1 A1 B1 hq).1 (hQ r C1 A1 B1 hq).2 rfl rfl
  clear h hP hQ hJ
  go_enter Try.func53, Try.ntmps53
  go_wp2_with (first
    | (go_at_call 61; refine (HP.out).mono ?_; rintro e w1 ⟨r, C1, A1, B1, rfl, hr, ho, hq⟩; have r1 := hr.rt; have HR1 := veil hr; have HO1 := veil ho; have HQ1 := veil hq; clear hr ho hq)
    | (go_at_call 62; refine (HC.out _ r C1 A1 B1 HQ1.out HR1.out).mono ?_; rintro e w2 ⟨rfl, hr, ho⟩; have r12 := hr.rt; have HR2 := veil hr; have HO2 := veil (HO1.out.trans ho); clear hr ho)
    | (go_at_call 60; refine (HJ.out _ r C1 A1 B1 HQ1.out HR2.out).mono ?_; rintro e w3 ⟨r3, C2, A2, B2, rfl, hr, ho, hq⟩; obtain ⟨cp1, e1⟩ := hr.sl; have r13 := hr.rt; have r2 := hr.ct; have m0 := hr.nd x hxn; have m1 := hr.ns x hxn; have m2 := hr.ni x hxn; have m3 := hr.nc x hxn; have m4 := hr.na x hxn; have m5 := hr.nb x hxn; have m6 := hr.nt x hxn; have fb := hr.fb; have fg := hr.fg; have HR3 := veil hr; have HO3 := veil (HO2.out.trans ho); have HQ3 := veil hq; clear hr ho hq))
  go_end0
  refine ⟨r3, C2, A2, B2, rfl, ((zero_node (HR3.out.setR r3) x hxn).setN ct), ?_, HQ3.out⟩
  exact (((((((((HO3.out.set ⟨b, 1, none⟩ _ (Or.inl rfl)).set ⟨g, x * 7, none⟩ _ (Or.inr rfl)).set ⟨g, x * 7 + 1, none⟩ _ (Or.inr rfl)).set ⟨g, x * 7 + 2, none⟩ _ (Or.inr rfl)).set ⟨g, x * 7 + 3, none⟩ _ (Or.inr rfl)).set ⟨g, x * 7 + 4, none⟩ _ (Or.inr rfl)).set ⟨g, x * 7 + 5, none⟩ _ (Or.inr rfl)).set ⟨g, x * 7 + 6, none⟩ _ (Or.inr rfl)).set ⟨b, 2, none⟩ _ (Or.inl rfl))
end
end Go.Proofs.Ytjmbadadelelfaa.Ph

namespace Go.Proofs.Ytjmbadadelelfaa.Ph
open Go.RowKit

/-- The heap at b, g holds the tree t (a row of none or one): its spots are those that are there. -/
structure HeapAt (w : World) (b g n : Nat) (D S I : Nat → Nat) (T : Nat → Bool) (t : BT) : Prop where
  lk : ∃ C A B, Rep w b g n t.root t.spots.length D S I C A B T ∧ Row C A B t ∧ B 0 = 0
  wd : t.wide ≤ 1
  od : Ord (Le D S I) t
  sp : Spots n t.spots
  th : ∀ y, y ≤ n → (T y = true ↔ y ∈ t.spots)
  id : ∀ y ∈ t.spots, I y + 1 = y

theorem ord_congr {le le' : Nat → Nat → Prop} : ∀ t : BT, (∀ a ∈ t.spots, ∀ c ∈ t.spots, le a c → le' a c) → Ord le t → Ord le' t
  | .nil, _, _ => trivial
  | .node s c x, h, ⟨h1, h2, h3⟩ =>
    ⟨fun y hy => h s (by simp [BT.spots]) y (by simp [BT.spots, hy]) (h1 y hy), ord_congr c (fun a ha d hd => h a (by simp [BT.spots, ha]) d (by simp [BT.spots, hd])) h2, ord_congr x (fun a ha d hd => h a (by simp [BT.spots, ha]) d (by simp [BT.spots, hd])) h3⟩
theorem le_upd {D S I : Nat → Nat} {x a c : Nat} {d s i : Nat} (ha : a ≠ x) (hc : c ≠ x) (h : Le D S I a c) : Le (upd D x d) (upd S x s) (upd I x i) a c := by
  rw [Le] at *
  rw [upd_other _ _ _ _ ha, upd_other _ _ _ _ ha, upd_other _ _ _ _ ha, upd_other _ _ _ _ hc, upd_other _ _ _ _ hc, upd_other _ _ _ _ hc]; exact h

section
variable {w : World} {b g n : Nat} {D S I : Nat → Nat} {T : Nat → Bool} {t : BT}
/-- A heap whose spot x has been wiped, of the tree t' that is left. -/
theorem heap_wiped {w' : World} {x ct : Nat} {t' : BT} {C A B : Nat → Nat} (h : HeapAt w b g n D S I T t) (hx : x ∈ t.spots) (hp : (x :: t'.spots).Perm t.spots) (hw : t'.wide ≤ 1) (hr : Row C A B t') (ho : Ord (Le D S I) t') (hB : B 0 = 0) (hct : t.spots.length = ct + 1)
    (hR : Rep w' b g n t'.root ct (upd D x 0) (upd S x 0) (upd I x 0) (upd C x 0) (upd A x 0) (upd B x 0) (upd T x false)) :
    HeapAt w' b g n (upd D x 0) (upd S x 0) (upd I x 0) (upd T x false) t' := by
  have hnd := hp.nodup_iff.2 h.sp.nd
  have hnx : x ∉ t'.spots := (List.nodup_cons.1 hnd).1
  have hne : ∀ y ∈ t'.spots, y ≠ x := fun y hy e => hnx (e ▸ hy)
  have hin : ∀ y ∈ t'.spots, y ∈ t.spots := fun y hy => hp.mem_iff.1 (by simp [hy])
  have hl : t'.spots.length = ct := by have := hp.length_eq; simp only [List.length_cons] at this; omega
  have hx0 : (0 : Nat) ≠ x := by have := (h.sp.le x hx).1; omega
  refine ⟨⟨_, _, _, hl.symm ▸ hR, row_congr t' (fun s hs => ⟨upd_other _ _ _ _ (hne s hs), upd_other _ _ _ _ (hne s hs), upd_other _ _ _ _ (hne s hs)⟩) hr, by rw [upd_other _ _ _ _ hx0]; exact hB⟩, hw, ord_congr t' (fun a ha c hc hle => le_upd (hne a ha) (hne c hc) hle) ho, ⟨(List.nodup_cons.1 hnd).2, fun y hy => h.sp.le y (hin y hy)⟩, fun y hy => ?_, fun y hy => by rw [upd_other _ _ _ _ (hne y hy)]; exact h.id y (hin y hy)⟩
  by_cases e : y = x
  · subst e; rw [upd_same]; simp [hnx]
  · rw [upd_other _ _ _ _ e, h.th y hy, ← hp.mem_iff]; simp [e]

theorem remove_first {rt : Nat} {c : BT} (h : HeapAt w b g n D S I T (.node rt c .nil)) (hlen : c.spots.length ≤ 1024) :
    Calls Try.prog 53 #[.pointer (some ⟨b, 0, none⟩), .int .i64 (rt : Int)] w fun e w' => ∃ t' : BT, e = .returned (.tuple #[]) ∧ (rt :: t'.spots).Perm (BT.node rt c .nil).spots ∧ HeapAt w' b g n (upd D rt 0) (upd S rt 0) (upd I rt 0) (upd T rt false) t' ∧ Only b g w w' := by
  obtain ⟨C, A, B, hR, hrow, hB⟩ := h.lk
  have hlen2 : (BT.node rt c .nil).spots.length = c.spots.length + 1 := by simp [BT.spots]
  rw [hlen2] at hR
  have hrn := h.sp.le rt (by simp [BT.spots])
  have hsp : Spots n c.spots := ⟨by have := h.sp.nd; simp only [BT.spots, List.append_nil, List.nodup_cons] at this; exact this.2, fun y hy => h.sp.le y (by simp [BT.spots, hy])⟩
  have hpair := pair_any (w := w) (b := b) (g := g) (rt := rt) (ct := c.spots.length + 1) (D := D) (S := S) (I := I) (C := C) (A := A) (B := B) (T := T) c c.spots hsp hB
    ⟨⟨C, A, B, hR, linked_row c rt hrow.2.2.1, trivial, fun _ _ => ⟨rfl, rfl, rfl⟩⟩, h.od.2.1, trivial, by simp [BT.spots], Only.refl _ _ _⟩
  rw [← hrow.1] at hpair
  have key := remove_top hR rt rfl hrn.2 hlen (fun r C1 A1 B1 => ∃ t' : BT, r = t'.root ∧ t'.wide ≤ 1 ∧ Row C1 A1 B1 t' ∧ Ord (Le D S I) t' ∧ t'.spots.Perm c.spots ∧ B1 0 = 0) (hpair.mono (by
    rintro e w' ⟨t', hw, he, hp⟩
    obtain ⟨C1, A1, B1, k1, k2, _, k4⟩ := hp.lk
    exact ⟨t'.root, C1, A1, B1, he, k1, hp.on, t', rfl, hw, k2, hp.o1, by simpa [BT.spots] using hp.pm, (k4 0 (fun hh => by have := (hsp.le 0 hh).1; omega)).2.2.trans hB⟩))
  refine key.mono ?_
  rintro e w' ⟨r, C1, A1, B1, he, k1, k2, t', rfl, q1, q2, q3, q4, q5⟩
  have hp : (rt :: t'.spots).Perm (BT.node rt c .nil).spots := by simpa [BT.spots] using q4
  exact ⟨t', he, hp, heap_wiped h (by simp [BT.spots]) hp q1 q2 q3 q5 hlen2 k1, k2⟩
end
end Go.Proofs.Ytjmbadadelelfaa.Ph

namespace Go.Proofs.Ytjmbadadelelfaa.Ph
open Go.RowKit

section
variable {w : World} {b g n : Nat} {D S I : Nat → Nat} {T : Nat → Bool}
/-- Two trees by themselves, joined: a tree by itself. -/
theorem row_join {C A B : Nat → Nat} {p q : Nat} {cp cq : BT} (hp : Row C A B (.node p cp .nil)) (hq : Row C A B (.node q cq .nil)) (hn : (p :: q :: (cq.spots ++ cp.spots)).Nodup) (h0 : ∀ s ∈ cp.spots, s ≠ 0) :
    Row (joC C p q) (joA C A p q) (joB C B p q) (.node p (.node q cq cp) .nil) := by
  have hpq : p ≠ q := fun e => (List.nodup_cons.1 hn).1 (by simp [e])
  exact ⟨by rw [joC, upd_same]; rfl, by rw [joB, upd_other _ _ _ _ hpq]; exact hp.2.1, linked_join hp.1 hp.2.2.1 hq.1 hq.2.2.1 hn h0, trivial⟩

theorem remove_other {rt x : Nat} {c : BT} (h : HeapAt w b g n D S I T (.node rt c .nil)) (hx : x ∈ c.spots) (hlen : c.spots.length ≤ 1024) :
    Calls Try.prog 53 #[.pointer (some ⟨b, 0, none⟩), .int .i64 (x : Int)] w fun e w' => ∃ t' : BT, e = .returned (.tuple #[]) ∧ (x :: t'.spots).Perm (BT.node rt c .nil).spots ∧ HeapAt w' b g n (upd D x 0) (upd S x 0) (upd I x 0) (upd T x false) t' ∧ Only b g w w' := by
  obtain ⟨C, A, B, hR, hrow, hB⟩ := h.lk
  have hlen2 : (BT.node rt c .nil).spots.length = c.spots.length + 1 := by simp [BT.spots]
  rw [hlen2] at hR
  have hnd : (rt :: c.spots).Nodup := by have := h.sp.nd; simpa [BT.spots] using this
  have hle : ∀ y ∈ rt :: c.spots, 1 ≤ y ∧ y ≤ n := fun y hy => h.sp.le y (by simpa [BT.spots] using hy)
  have hrc : rt ∉ c.spots := (List.nodup_cons.1 hnd).1
  have hxr : x ≠ rt := fun e => hrc (e ▸ hx)
  obtain ⟨hC, hBr, hl, _⟩ := hrow
  obtain ⟨cx, k1, k2, k3, k4⟩ := linked_below (le := Le D S I) x c rt hl (List.nodup_cons.1 hnd).2 hx
  have hcx : ∀ y ∈ cx.spots, y ∈ c.spots := fun y hy => k3.mem_iff.1 (by simp [hy])
  have hnp := k3.nodup_iff.2 (List.nodup_cons.1 hnd).2
  have hxx : x ∉ cx.spots := (List.nodup_cons.1 (List.nodup_append.1 hnp).2.1).1
  have hsp : Spots n cx.spots := ⟨(List.nodup_cons.1 (List.nodup_append.1 hnp).2.1).2, fun y hy => hle y (by simp [hcx y hy])⟩
  have hpair := pair_any (w := w) (b := b) (g := g) (rt := rt) (ct := c.spots.length + 1) (D := D) (S := S) (I := I) (C := C) (A := A) (B := B) (T := T) cx cx.spots hsp hB
    ⟨⟨C, A, B, hR, linked_row cx x k2, trivial, fun _ _ => ⟨rfl, rfl, rfl⟩⟩, k4 h.od.2.1, trivial, by simp [BT.spots], Only.refl _ _ _⟩
  rw [← k1] at hpair
  have h0L : 0 ∉ cx.spots := fun hh => by have := (hsp.le 0 hh).1; omega
  have key := remove_deep hR x hxr (hle x (by simp [hx])).2 hlen
    (fun r C1 A1 B1 => ∃ tb : BT, r = tb.root ∧ tb.wide ≤ 1 ∧ Row C1 A1 B1 tb ∧ Ord (Le D S I) tb ∧ tb.spots.Perm cx.spots ∧ ∀ y, y ∉ cx.spots → C1 y = C y ∧ A1 y = A y ∧ B1 y = B y)
    (fun r C2 A2 B2 => ∃ t' : BT, r = t'.root ∧ t'.wide ≤ 1 ∧ Row C2 A2 B2 t' ∧ Ord (Le D S I) t' ∧ (x :: t'.spots).Perm (rt :: c.spots) ∧ B2 0 = 0)
    (hpair.mono (by
      rintro e w' ⟨t', hw, he, hp⟩
      obtain ⟨C1, A1, B1, q1, q2, _, q4⟩ := hp.lk
      exact ⟨t'.root, C1, A1, B1, he, q1, hp.on, t', rfl, hw, q2, hp.o1, by simpa [BT.spots] using hp.pm, q4⟩))
    (by
      rintro r C1 A1 B1 ⟨tb, _, _, _, _, _, off⟩
      obtain ⟨a, d⟩ := linked_near c rt x hl hx
      rw [(off x hxx).2.1, (off x hxx).2.2]
      refine ⟨?_, ?_⟩
      · rcases a with ⟨_, a⟩ | a
        · rw [a]; exact (hle rt (by simp)).2
        · exact (hle _ (by simp [a])).2
      · rcases d with d | d
        · rw [d]; exact Nat.zero_le _
        · exact (hle _ (by simp [d])).2)
    (by
      rintro w2 r C1 A1 B1 ⟨tb, rfl, hw, hrb, hob, hpb, off⟩ hR2
      obtain ⟨z1, z2⟩ := cut_apart hl hC hBr hnd (fun y hy => by have := (hle y hy).1; omega) hx k3 off
      have hrb2 : Row (cutC C1 A1 B1 x) (cutA C1 A1 B1 x) (cutB C1 A1 B1 x) tb := row_congr tb (fun y hy => z2 y (hpb.mem_iff.1 hy)) hrb
      have hocut := ord_cut x c h.od.2.1
      have hou : ∀ y ∈ (c.cut x).spots, Le D S I rt y := fun y hy => h.od.1 y (cut_spots x c y hy)
      have hB0 : cutB C1 A1 B1 x 0 = 0 := by
        rw [cutB_off, (off 0 h0L).2.2, hB]
        rw [(off x hxx).2.1]
        obtain ⟨a, _⟩ := linked_near c rt x hl hx
        rcases a with ⟨_, a⟩ | a
        · rw [a]; have := (hle rt (by simp)).1; omega
        · have := (hle _ (List.mem_cons_of_mem _ a)).1; omega
      have hall : ∀ y, List.count y ((c.cut x).spots ++ x :: tb.spots) = List.count y c.spots := fun y => by
        rw [← (List.perm_iff_count.1 k3) y]
        simp only [List.count_append, List.count_cons, (List.perm_iff_count.1 hpb) y]
      cases tb with
      | nil =>
        refine (join_right rt (hle rt (by simp)).1 w2 b).mono ?_
        rintro e w3 ⟨he, rfl⟩
        refine ⟨rt, _, _, _, he, hR2, Only.refl _ _ _, .node rt (c.cut x) .nil, rfl, by simp [BT.wide], z1, ⟨hou, hocut, trivial⟩, ?_, hB0⟩
        rw [List.perm_iff_count]
        intro y
        have := hall y
        simp only [BT.spots, List.count_append, List.count_cons, List.append_nil, List.count_nil] at this ⊢
        omega
      | node q cq xq =>
        cases xq with
        | node _ _ _ => simp [BT.wide] at hw
        | nil =>
          have hqc : ∀ y ∈ (BT.node q cq .nil).spots, y ∈ c.spots := fun y hy => hcx y (hpb.mem_iff.1 hy)
          have hq := hle q (List.mem_cons_of_mem _ (hqc q (by simp [BT.spots])))
          have hrt := hle rt (by simp)
          have hnn : (rt :: q :: (cq.spots ++ (c.cut x).spots)).Nodup := by
            have hn2 : (x :: rt :: q :: (cq.spots ++ (c.cut x).spots)).Nodup := by
              refine (List.Perm.nodup_iff ?_).2 hnd
              rw [List.perm_iff_count]
              intro y
              have := hall y
              simp only [BT.spots, List.count_append, List.count_cons, List.append_nil] at this ⊢
              omega
            exact (List.nodup_cons.1 hn2).2
          have hnn' : (q :: rt :: ((c.cut x).spots ++ cq.spots)).Nodup := by
            refine (List.Perm.nodup_iff ?_).2 hnn
            rw [List.perm_iff_count]
            intro y
            simp only [List.count_append, List.count_cons]
            omega
          have hroot : ∀ (d : BT), (∀ y ∈ d.spots, y ∈ c.spots) → d.root ≤ n := fun d hd => by
            cases d with
            | nil => exact Nat.zero_le _
            | node s _ _ => exact (hle s (List.mem_cons_of_mem _ (hd s (by simp [BT.spots])))).2
          have hne : ∀ (d : BT) (v : Nat), v ∉ d.spots → v ≠ 0 → d.root ≠ v := fun d v hv h0 e => by
            cases d with
            | nil => exact h0 e.symm
            | node s _ _ => rw [BT.root] at e; exact hv (by simp [BT.spots, e])
          have y1 : q ∉ (c.cut x).spots := fun hh => (List.nodup_cons.1 (List.nodup_cons.1 hnn).2).1 (by simp [hh])
          have y2 : rt ∉ cq.spots := fun hh => (List.nodup_cons.1 hnn).1 (by simp [hh])
          refine (join_any hR2 rt q hrt.1 hrt.2 hq.1 hq.2 (by rw [z1.1]; exact hroot _ (fun y hy => cut_spots x c y hy)) (by rw [hrb2.1]; exact hroot _ (fun y hy => hqc y (by simp [BT.spots, hy]))) (by rw [z1.1]; exact hne _ _ y1 (by omega)) (by rw [hrb2.1]; exact hne _ _ y2 (by omega))).mono ?_
          rintro e w3 ⟨u, v, huv, hlev, he, hR3, ho3⟩
          have nz1 : ∀ s ∈ (c.cut x).spots, s ≠ 0 := fun s hs => by have := (hle s (List.mem_cons_of_mem _ (cut_spots x c s hs))).1; omega
          have nz2 : ∀ s ∈ cq.spots, s ≠ 0 := fun s hs => by have := (hle s (List.mem_cons_of_mem _ (hqc s (by simp [BT.spots, hs])))).1; omega
          rcases huv with ⟨rfl, rfl⟩ | ⟨rfl, rfl⟩
          · obtain ⟨j1, j2⟩ := ord_join le_trans hlev hou hob.1 hocut hob.2.1
            refine ⟨u, _, _, _, he, hR3, ho3, .node u (.node v cq (c.cut x)) .nil, rfl, by simp [BT.wide], row_join z1 hrb2 hnn nz1, ⟨j1, j2, trivial⟩, ?_, ?_⟩
            · rw [List.perm_iff_count]
              intro y
              have := hall y
              simp only [BT.spots, List.count_append, List.count_cons, List.append_nil] at this ⊢
              omega
            · rw [joB, upd_other _ _ _ _ (by omega)]; exact hB0
          · obtain ⟨j1, j2⟩ := ord_join le_trans hlev hob.1 hou hob.2.1 hocut
            refine ⟨u, _, _, _, he, hR3, ho3, .node u (.node v (c.cut x) cq) .nil, rfl, by simp [BT.wide], row_join hrb2 z1 hnn' nz2, ⟨j1, j2, trivial⟩, ?_, ?_⟩
            · rw [List.perm_iff_count]
              intro y
              have := hall y
              simp only [BT.spots, List.count_append, List.count_cons, List.append_nil] at this ⊢
              omega
            · rw [joB, upd_other _ _ _ _ (by omega)]; exact hB0)
  refine key.mono ?_
  rintro e w' ⟨r, C2, A2, B2, he, m1, m2, t', rfl, q1, q2, q3, q4, q5⟩
  have hp : (x :: t'.spots).Perm (BT.node rt c .nil).spots := by simpa [BT.spots] using q4
  exact ⟨t', he, hp, heap_wiped h (by simp [BT.spots, hx]) hp q1 q2 q3 q5 hlen2 m1, m2⟩
end
end Go.Proofs.Ytjmbadadelelfaa.Ph

namespace Go.Proofs.Ytjmbadadelelfaa.Ph
open Go.RowKit

section
variable {w : World} {b g n : Nat} {D S I : Nat → Nat} {T : Nat → Bool} {t : BT}
/-- A heap into which the spot x has been put, of the tree t' that it makes. -/
theorem heap_put {w' : World} {x d s i : Nat} {t' : BT} {C A B : Nat → Nat} (h : HeapAt w b g n D S I T t) (hx : x ∉ t.spots) (hxn : x ≤ n) (hi : i + 1 = x) (hp : t'.spots.Perm (x :: t.spots)) (hw : t'.wide ≤ 1) (hr : Row C A B t') (ho : Ord (Le (upd D x d) (upd S x s) (upd I x i)) t') (hB : B 0 = 0)
    (hR : Rep w' b g n t'.root (t.spots.length + 1) (upd D x d) (upd S x s) (upd I x i) C A B (upd T x true)) :
    HeapAt w' b g n (upd D x d) (upd S x s) (upd I x i) (upd T x true) t' := by
  have hl : t'.spots.length = t.spots.length + 1 := by have := hp.length_eq; simpa using this
  refine ⟨⟨C, A, B, hl.symm ▸ hR, hr, hB⟩, hw, ho, ⟨hp.nodup_iff.2 (List.nodup_cons.2 ⟨hx, h.sp.nd⟩), fun y hy => ?_⟩, fun y hy => ?_, fun y hy => ?_⟩
  · rcases List.mem_cons.1 (hp.mem_iff.1 hy) with rfl | hy
    · omega
    · exact h.sp.le y hy
  · by_cases e : y = x
    · subst e; rw [upd_same]; simp [hp.mem_iff]
    · rw [upd_other _ _ _ _ e, h.th y hy, hp.mem_iff]; simp [e]
  · rcases List.mem_cons.1 (hp.mem_iff.1 hy) with rfl | hy
    · rw [upd_same]; exact hi
    · rw [upd_other I x i y (fun e => hx (e ▸ hy))]; exact h.id y hy

theorem put_any (h : HeapAt w b g n D S I T t) (id d s : Nat) (hid : id < n) (hn : n ≤ 1024) (hct : t.spots.length ≤ 1024) (hT : T (id + 1) = false) :
    Calls Try.prog 52 #[.pointer (some ⟨b, 0, none⟩), .agg #[.int .u64 (d : Int), .int .u64 (s : Int), .int .i64 (id : Int)]] w fun e w' => e = .returned (.tuple #[]) ∧ ∃ t' : BT, t'.spots.Perm ((id + 1) :: t.spots) ∧ HeapAt w' b g n (upd D (id + 1) d) (upd S (id + 1) s) (upd I (id + 1) id) (upd T (id + 1) true) t' ∧ Only b g w w' := by
  obtain ⟨C, A, B, hR, hrow, hB⟩ := h.lk
  have hx : id + 1 ∉ t.spots := fun hh => by have := (h.th (id + 1) (by omega)).2 hh; rw [hT] at this; exact absurd this (by simp)
  have hne : ∀ y ∈ t.spots, y ≠ id + 1 := fun y hy e => hx (e ▸ hy)
  have hrow2 : Row (upd C (id + 1) 0) (upd A (id + 1) 0) (upd B (id + 1) 0) t := row_congr t (fun y hy => ⟨upd_other _ _ _ _ (hne y hy), upd_other _ _ _ _ (hne y hy), upd_other _ _ _ _ (hne y hy)⟩) hrow
  have hod : Ord (Le (upd D (id + 1) d) (upd S (id + 1) s) (upd I (id + 1) id)) t := ord_congr t (fun a ha c hc hle => le_upd (hne a ha) (hne c hc) hle) h.od
  have hB2 : upd B (id + 1) 0 0 = 0 := by rw [upd_other _ _ _ _ (by omega)]; exact hB
  have hone : Row (upd C (id + 1) 0) (upd A (id + 1) 0) (upd B (id + 1) 0) (.node (id + 1) .nil .nil) := ⟨upd_same _ _ _, upd_same _ _ _, trivial, trivial⟩
  have hcast : ((id : Int) + 1) = ((id + 1 : Nat) : Int) := by omega
  cases t with
  | nil =>
    refine (put_walk hR id d s (id + 1) hid hn hct (fun w1 hr => by
      rw [hcast]
      refine (join_left (id + 1) w1 b).mono ?_
      rintro e w' ⟨he, rfl⟩
      exact ⟨he, hr, Only.refl _ _ _⟩)).mono ?_
    rintro e w' ⟨he, k1, k2⟩
    exact ⟨he, .node (id + 1) .nil .nil, by simp [BT.spots], heap_put h hx (by omega) rfl (by simp [BT.spots]) (by simp [BT.wide]) hone ⟨fun y hy => absurd hy (by simp [BT.spots]), trivial, trivial⟩ hB2 k1, k2⟩
  | node rt c x =>
    cases x with
    | node _ _ _ => have := h.wd; simp [BT.wide] at this
    | nil =>
      have hrt := h.sp.le rt (by simp [BT.spots])
      have hnd : (rt :: c.spots).Nodup := by have := h.sp.nd; simpa [BT.spots] using this
      have hrx : rt ≠ id + 1 := hne rt (by simp [BT.spots])
      have hxc : id + 1 ∉ c.spots := fun hh => hx (by simp [BT.spots, hh])
      have nz : ∀ y ∈ c.spots, y ≠ 0 := fun y hy => by have := (h.sp.le y (by simp [BT.spots, hy])).1; omega
      have hroot : c.root ≤ n := by
        cases c with
        | nil => exact Nat.zero_le _
        | node z _ _ => exact (h.sp.le z (by simp [BT.spots])).2
      have hcr : c.root ≠ id + 1 := by
        cases c with
        | nil => simp [BT.root]
        | node z _ _ => exact hne z (by simp [BT.spots])
      cases hb : bef (upd D (id + 1) d (id + 1)) (upd S (id + 1) s (id + 1)) (upd I (id + 1) id (id + 1)) (upd D (id + 1) d rt) (upd S (id + 1) s rt) (upd I (id + 1) id rt) with
      | true =>
        refine (put_walk hR id d s (id + 1) hid hn hct (fun w1 hr => by
          rw [hcast]
          exact join_swap hr (id + 1) rt (by omega) (by omega) hrt.1 hrt.2 (by rw [upd_same]; exact Nat.zero_le _) (by rw [upd_same]; omega) hb)).mono ?_
        rintro e w' ⟨he, k1, k2⟩
        have hperm : (BT.node (id + 1) (.node rt c .nil) .nil).spots.Perm ((id + 1) :: (BT.node rt c .nil).spots) := by simp [BT.spots]
        obtain ⟨j1, j2⟩ := ord_join (cp := .nil) le_trans (le_of_before hb) (fun y hy => absurd hy (by simp [BT.spots])) hod.1 trivial hod.2.1
        exact ⟨he, .node (id + 1) (.node rt c .nil) .nil, hperm, heap_put h hx (by omega) rfl hperm (by simp [BT.wide]) (row_join hone hrow2 (by simpa [BT.spots] using List.nodup_cons.2 ⟨hx, h.sp.nd⟩) (fun y hy => absurd hy (by simp [BT.spots]))) ⟨j1, j2, trivial⟩ (by rw [joB, upd_other _ _ _ _ (by omega)]; exact hB2) k1, k2⟩
      | false =>
        refine (put_walk hR id d s rt hid hn hct (fun w1 hr => by
          rw [hcast]
          exact join_keep hr rt (id + 1) hrt.1 hrt.2 (by omega) (by omega) (by rw [hrow2.1]; exact hroot) (by rw [hrow2.1]; exact hcr) hb)).mono ?_
        rintro e w' ⟨he, k1, k2⟩
        have hperm : (BT.node rt (.node (id + 1) .nil c) .nil).spots.Perm ((id + 1) :: (BT.node rt c .nil).spots) := by
          rw [List.perm_iff_count]
          intro y
          simp only [BT.spots, List.count_cons, List.append_nil, List.nil_append]
          omega
        obtain ⟨j1, j2⟩ := ord_join (cq := .nil) le_trans hb hod.1 (fun y hy => absurd hy (by simp [BT.spots])) hod.2.1 trivial
        have hn2 : (rt :: (id + 1) :: ([] ++ c.spots)).Nodup := by
          simp only [List.nil_append, List.nodup_cons, List.mem_cons, not_or]
          exact ⟨⟨hrx, (List.nodup_cons.1 hnd).1⟩, hxc, (List.nodup_cons.1 hnd).2⟩
        exact ⟨he, .node rt (.node (id + 1) .nil c) .nil, hperm, heap_put h hx (by omega) rfl hperm (by simp [BT.wide]) (row_join hrow2 hone hn2 nz) ⟨j1, j2, trivial⟩ (by rw [joB, upd_other _ _ _ _ (by omega)]; exact hB2) k1, k2⟩
end
end Go.Proofs.Ytjmbadadelelfaa.Ph

namespace Go.Proofs.Ytjmbadadelelfaa.Ph
open Go.RowKit

/-- What is not there bears zeros. -/
def Wiped (n : Nat) (D S : Nat → Nat) (T : Nat → Bool) : Prop := ∀ id, id < n → T (id + 1) = false → D (id + 1) = 0 ∧ S (id + 1) = 0
theorem Wiped.cut {n x : Nat} {D S : Nat → Nat} {T : Nat → Bool} (h : Wiped n D S T) : Wiped n (upd D x 0) (upd S x 0) (upd T x false) := by
  intro i hi ht
  by_cases e : i + 1 = x
  · rw [e, upd_same, upd_same]; exact ⟨rfl, rfl⟩
  · rw [upd_other _ _ _ _ e] at ht
    rw [upd_other _ _ _ _ e, upd_other _ _ _ _ e]; exact h i hi ht
theorem Wiped.put {n x d s : Nat} {D S : Nat → Nat} {T : Nat → Bool} (h : Wiped n D S T) : Wiped n (upd D x d) (upd S x s) (upd T x true) := by
  intro i hi ht
  by_cases e : i + 1 = x
  · rw [e, upd_same] at ht; cases ht
  · rw [upd_other _ _ _ _ e] at ht
    rw [upd_other _ _ _ _ e, upd_other _ _ _ _ e]; exact h i hi ht
/-- The heap at b, g holds m, the tree t being how. -/
def Holds (w : World) (b g n : Nat) (m : Nat → Option (Nat × Nat)) (t : BT) : Prop :=
  ∃ D S I T, HeapAt w b g n D S I T t ∧ n ≤ 1024 ∧ (∀ id, id < n → m id = if T (id + 1) then some (D (id + 1), S (id + 1)) else none) ∧ Wiped n D S T

theorem spots_len : ∀ {n : Nat} {L : List Nat}, Spots n L → L.length ≤ n
  | 0, L, h => by
    cases L with
    | nil => simp
    | cons y _ => have := h.le y (by simp); omega
  | n + 1, L, h => by
    have k : Spots n (L.erase (n + 1)) := ⟨h.nd.erase _, fun y hy => by
      have := (h.nd.mem_erase_iff).1 hy
      have := h.le y this.2
      omega⟩
    have := spots_len k
    have := List.length_erase (a := n + 1) (l := L)
    split at this <;> omega

section
variable {w : World} {b g n : Nat} {D S I : Nat → Nat} {T : Nat → Bool} {t : BT} {m : Nat → Option (Nat × Nat)}
theorem remove_any (h : HeapAt w b g n D S I T t) (hn : n ≤ 1024) (x : Nat) (hx : x ∈ t.spots) :
    Calls Try.prog 53 #[.pointer (some ⟨b, 0, none⟩), .int .i64 (x : Int)] w fun e w' => e = .returned (.tuple #[]) ∧ ∃ t' : BT, (x :: t'.spots).Perm t.spots ∧ HeapAt w' b g n (upd D x 0) (upd S x 0) (upd I x 0) (upd T x false) t' ∧ Only b g w w' := by
  have hl := spots_len h.sp
  cases t with
  | nil => simp [BT.spots] at hx
  | node rt c y =>
    cases y with
    | node _ _ _ => have := h.wd; simp [BT.wide] at this
    | nil =>
      have hlen : c.spots.length ≤ 1024 := by simp only [BT.spots, List.append_nil, List.length_cons] at hl; omega
      by_cases e : x = rt
      · subst e
        refine (remove_first h hlen).mono ?_
        rintro e w' ⟨t', a, p, q, o⟩
        exact ⟨a, t', p, q, o⟩
      · refine (remove_other h (by simpa [BT.spots, e] using hx) hlen).mono ?_
        rintro e w' ⟨t', a, p, q, o⟩
        exact ⟨a, t', p, q, o⟩
theorem wiped_m {id : Nat} (hm : ∀ i, i < n → m i = if T (i + 1) then some (D (i + 1), S (i + 1)) else none) : ∀ i, i < n → upd m id none i = if upd T (id + 1) false (i + 1) then some (upd D (id + 1) 0 (i + 1), upd S (id + 1) 0 (i + 1)) else none := by
  intro i hi
  by_cases e : i = id
  · subst e; rw [upd_same, upd_same]; rfl
  · have e' : i + 1 ≠ id + 1 := by omega
    rw [upd_other _ _ _ _ e, upd_other _ _ _ _ e', upd_other _ _ _ _ e', upd_other _ _ _ _ e']; exact hm i hi
theorem put_m {id d s : Nat} (hm : ∀ i, i < n → m i = if T (i + 1) then some (D (i + 1), S (i + 1)) else none) : ∀ i, i < n → upd m id (some (d, s)) i = if upd T (id + 1) true (i + 1) then some (upd D (id + 1) d (i + 1), upd S (id + 1) s (i + 1)) else none := by
  intro i hi
  by_cases e : i = id
  · subst e; rw [upd_same, upd_same, upd_same, upd_same]; rfl
  · have e' : i + 1 ≠ id + 1 := by omega
    rw [upd_other _ _ _ _ e, upd_other _ _ _ _ e', upd_other _ _ _ _ e', upd_other _ _ _ _ e']; exact hm i hi
theorem holds_there {id : Nat} (hm : ∀ i, i < n → m i = if T (i + 1) then some (D (i + 1), S (i + 1)) else none) (hid : id < n) : (m id).isSome = T (id + 1) := by
  rw [hm id hid]; cases T (id + 1) <;> rfl

theorem insert_ok (h : Holds w b g n m t) (id d s : Nat) (hid : id < n) (hm : (m id).isSome = false) :
    Calls Try.prog 28 #[.pointer (some ⟨b, 0, none⟩), .int .i64 (id : Int), .int .u64 (d : Int), .int .u64 (s : Int)] w fun e w' => e = .returned (.int .i64 0) ∧ ∃ t', t'.spots.Perm ((id + 1) :: t.spots) ∧ Holds w' b g n (upd m id (some (d, s))) t' ∧ Only b g w w' := by
  obtain ⟨D, S, I, T, h1, h2, h3, h4⟩ := h
  have hT : T (id + 1) = false := (holds_there h3 hid).symm.trans hm
  obtain ⟨C, A, B, hR, _⟩ := h1.lk
  have hl := spots_len h1.sp
  refine insert_walk hR id d s h2 hid hT _ ((put_any h1 id d s hid h2 (by omega) hT).mono ?_)
  rintro e w' ⟨he, t', p, q, o⟩
  exact ⟨he, t', p, ⟨_, _, _, _, q, h2, put_m h3, h4.put⟩, o⟩
end
end Go.Proofs.Ytjmbadadelelfaa.Ph

namespace Go.Proofs.Ytjmbadadelelfaa.Ph
open Go.RowKit

/-- id is the first of what m holds: nothing else is before it. -/
def First (n : Nat) (m : Nat → Option (Nat × Nat)) (id : Nat) : Prop :=
  id < n ∧ ∃ d s, m id = some (d, s) ∧ ∀ j d' s', j < n → m j = some (d', s') → d < d' ∨ (d = d' ∧ (s < s' ∨ (s = s' ∧ id ≤ j)))

section
variable {w : World} {b g n : Nat} {D S I : Nat → Nat} {T : Nat → Bool} {t : BT} {m : Nat → Option (Nat × Nat)}
theorem first_root (h : HeapAt w b g n D S I T t) (hm : ∀ i, i < n → m i = if T (i + 1) then some (D (i + 1), S (i + 1)) else none) (ht : t.spots ≠ []) : I t.root + 1 = t.root ∧ t.root ∈ t.spots ∧ First n m (I t.root) := by
  cases t with
  | nil => exact absurd rfl ht
  | node rt c y =>
    cases y with
    | node _ _ _ => have := h.wd; simp [BT.wide] at this
    | nil =>
      have hid := h.id rt (by simp [BT.spots])
      have hle := h.sp.le rt (by simp [BT.spots])
      refine ⟨hid, by simp [BT.spots, BT.root], ?_⟩
      show First n m (I rt)
      have hlt : I rt < n := by omega
      have hT : T (I rt + 1) = true := by rw [hid]; exact (h.th rt hle.2).2 (by simp [BT.spots])
      have hv := hm (I rt) hlt
      rw [hT, if_pos rfl] at hv
      refine ⟨hlt, _, _, hv, fun j d' s' hj hmj => ?_⟩
      rw [hm j hj] at hmj
      have hTj : T (j + 1) = true := by
        cases hh : T (j + 1) with
        | true => rfl
        | false => rw [hh] at hmj; exact absurd hmj (by simp)
      rw [hTj, if_pos rfl] at hmj
      injection hmj with hmj
      injection hmj with e1 e2
      have hjs := (h.th (j + 1) (by omega)).1 hTj
      rw [hid]
      simp only [BT.spots, List.append_nil, List.mem_cons] at hjs
      rcases hjs with e | hjs
      · rw [e] at e1 e2; omega
      · have hl := le_iff.1 (h.od.1 (j + 1) hjs)
        have hij := h.id (j + 1) (by simp [BT.spots, hjs])
        omega
theorem min_ok (h : Holds w b g n m t) (ht : t.spots ≠ []) :
    Calls Try.prog 30 #[.pointer (some ⟨b, 0, none⟩)] w fun e w' => ∃ id : Nat, First n m id ∧ e = .returned (.tuple #[.int .i64 (id : Int), .bool true]) ∧ ∃ q, w' = w.drewN q := by
  obtain ⟨D, S, I, T, h1, h2, h3, h4⟩ := h
  obtain ⟨k1, k2, k3⟩ := first_root h1 h3 ht
  obtain ⟨C, A, B, hR, _⟩ := h1.lk
  have hle := h1.sp.le _ k2
  refine (min_walk hR hle.1 hle.2).mono ?_
  rintro e w' ⟨he, hq⟩
  exact ⟨_, k3, he, hq⟩
theorem take_ok (h : Holds w b g n m t) (ht : t.spots ≠ []) :
    Calls Try.prog 29 #[.pointer (some ⟨b, 0, none⟩)] w fun e w' => ∃ id : Nat, First n m id ∧ e = .returned (.tuple #[.int .i64 (id : Int), .bool true]) ∧ ∃ t', ((id + 1) :: t'.spots).Perm t.spots ∧ Holds w' b g n (upd m id none) t' ∧ Only b g w w' := by
  obtain ⟨D, S, I, T, h1, h2, h3, h4⟩ := h
  obtain ⟨k1, k2, k3⟩ := first_root h1 h3 ht
  obtain ⟨C, A, B, hR, hrow, hB⟩ := h1.lk
  have hle := h1.sp.le _ k2
  have hcast : ((I t.root : Int) + 1) = ((I t.root + 1 : Nat) : Int) := by omega
  refine (take_walk hR hle.1 hle.2 h2 k1 (fun w' => ∃ t', ((I t.root + 1) :: t'.spots).Perm t.spots ∧ Holds w' b g n (upd m (I t.root) none) t' ∧ Only b g w w') (fun q => ?_)).mono ?_
  · have h1q : HeapAt (w.drewN q) b g n D S I T t := ⟨⟨C, A, B, hR.drewN q, hrow, hB⟩, h1.wd, h1.od, h1.sp, h1.th, h1.id⟩
    rw [hcast]
    refine (remove_any h1q h2 (I t.root + 1) (by rw [k1]; exact k2)).mono ?_
    rintro e w' ⟨he, t', p, hh, o⟩
    exact ⟨he, t', p, ⟨_, _, _, _, hh, h2, wiped_m h3, h4.cut⟩, ((Only.refl b g w).drewN q).trans o⟩
  · rintro e w' ⟨he, hh⟩
    exact ⟨_, k3, he, hh⟩
end
end Go.Proofs.Ytjmbadadelelfaa.Ph

namespace Go.Proofs.Ytjmbadadelelfaa.Ph
open Go.RowKit
attribute [local go_sem ↓] Go.wp_at_zero Go.wp_at_succ

section
variable {w : World} {b g n rt ct : Nat} {D S I C A B : Nat → Nat} {T : Nat → Bool}
theorem min_none (h : Rep w b g n 0 ct D S I C A B T) :
    Calls Try.prog 30 #[.pointer (some ⟨b, 0, none⟩)] w fun e w' => e = .returned (.tuple #[.int .i64 0, .bool false]) ∧ w' = w := by
  have e1 : w.cell? ⟨b, 1, none⟩ = some (.int .i64 0) := h.rt
  clear h
  go_enter Try.func30, Try.ntmps30
  go_wp2
  go_ret2
  exact ⟨rfl, rfl⟩
theorem take_none (h : Rep w b g n 0 ct D S I C A B T) :
    Calls Try.prog 29 #[.pointer (some ⟨b, 0, none⟩)] w fun e w' => e = .returned (.tuple #[.int .i64 0, .bool false]) ∧ w' = w := by
  have HM := veil (min_none h)
  clear h
  go_enter Try.func29, Try.ntmps29
  go_wp2_with (go_at_call 30; refine (HM.out).mono ?_; rintro e w1 ⟨rfl, hw⟩; replace hw := hw.symm; subst hw)
  go_ret2
  exact ⟨rfl, rfl⟩
theorem may_no (h : Rep w b g n rt ct D S I C A B T) (id : Int) (hid : ¬ (0 ≤ id ∧ id < n)) (hn : n ≤ 1024) :
    Calls Try.prog 51 #[.pointer (some ⟨b, 0, none⟩), .int .i64 id] w fun e w' => e = .returned (.bool false) ∧ w' = w := by
  obtain ⟨cp, e0⟩ := h.sl
  clear h
  by_cases h0 : 0 ≤ id
  · have h1 : ¬ id < (n : Int) := by omega
    clear hid
    go_enter Try.func51, Try.ntmps51
    go_wp2
    go_ret
    exact ⟨by simp, rfl⟩
  · clear hid
    go_enter Try.func51, Try.ntmps51
    go_wp2
    go_ret
    exact ⟨by simp, rfl⟩
theorem insert_range (h : Rep w b g n rt ct D S I C A B T) (id d s : Int) (hid : ¬ (0 ≤ id ∧ id < n)) (hn : n ≤ 1024) :
    Calls Try.prog 28 #[.pointer (some ⟨b, 0, none⟩), .int .i64 id, .int .u64 d, .int .u64 s] w fun e w' => e = .returned (.int .i64 2) ∧ w' = w := by
  have HM := veil (may_no h id hid hn)
  clear h hid
  go_enter Try.func28, Try.ntmps28
  go_wp2_with (go_at_call 51; refine (HM.out).mono ?_; rintro e w1 ⟨rfl, hw⟩; replace hw := hw.symm; subst hw)
  go_ret
  exact ⟨rfl, rfl⟩
theorem insert_known (h : Rep w b g n rt ct D S I C A B T) (id : Nat) (d s : Int) (hid : id < n) (hn : n ≤ 1024) (hT : T (id + 1) = true) :
    Calls Try.prog 28 #[.pointer (some ⟨b, 0, none⟩), .int .i64 (id : Int), .int .u64 d, .int .u64 s] w fun e w' => e = .returned (.int .i64 5) ∧ w' = w := by
  have HM := veil (may_yes h id hn hid)
  obtain ⟨cp, e0⟩ := h.sl
  have e1 := h.nt (id + 1) (by omega)
  rw [hT] at e1
  clear h hT
  go_enter Try.func28, Try.ntmps28
  go_wp2_with (go_at_call 51; refine (HM.out).mono ?_; rintro e w1 ⟨rfl, hw⟩; replace hw := hw.symm; subst hw)
  go_ret
  exact ⟨rfl, rfl⟩
end
end Go.Proofs.Ytjmbadadelelfaa.Ph

namespace Go.Proofs.Ytjmbadadelelfaa.Ph
open Go.RowKit

abbrev Item := Nat × Nat × Nat
def ah (a b : Item) : Prop := a.2.1 < b.2.1 ∨ (a.2.1 = b.2.1 ∧ (a.2.2 < b.2.2 ∨ (a.2.2 = b.2.2 ∧ a.1 < b.1)))
instance (a b : Item) : Decidable (ah a b) := by unfold ah; exact inferInstance
theorem ah_trans {a b c : Item} (h : ah a b) (k : ah b c) : ah a c := by unfold ah at *; omega
theorem ah_irr {a : Item} : ¬ ah a a := by unfold ah; omega
theorem ah_tot {a b : Item} (h : a.1 ≠ b.1) (k : ¬ ah a b) : ah b a := by unfold ah at *; omega
/-- An item put ahead of the first one that it is ahead of. -/
def ins (x : Item) : List Item → List Item
  | [] => [x]
  | y :: L => if ah x y then x :: y :: L else y :: ins x L
def out (id : Nat) (L : List Item) : List Item := L.filter (fun it => it.1 != id)
def Srt (L : List Item) : Prop := L.Pairwise ah
theorem mem_ins {x y : Item} : ∀ {L : List Item}, y ∈ ins x L ↔ y = x ∨ y ∈ L
  | [] => by simp [ins]
  | z :: L => by
    rw [ins]
    split
    · simp
    · rw [List.mem_cons, mem_ins (L := L), List.mem_cons]
      constructor
      · rintro (h | h | h)
        · exact .inr (.inl h)
        · exact .inl h
        · exact .inr (.inr h)
      · rintro (h | h | h)
        · exact .inr (.inl h)
        · exact .inl h
        · exact .inr (.inr h)
theorem len_ins {x : Item} : ∀ {L : List Item}, (ins x L).length = L.length + 1
  | [] => rfl
  | z :: L => by
    rw [ins]
    split
    · simp
    · simp [len_ins (L := L)]
theorem srt_ins {x : Item} : ∀ {L : List Item}, Srt L → (∀ y ∈ L, y.1 ≠ x.1) → Srt (ins x L)
  | [], _, _ => by simp [Srt, ins]
  | z :: L, h, hx => by
    unfold Srt at h ⊢
    rw [List.pairwise_cons] at h
    rw [ins]
    split
    · rename_i hz
      rw [List.pairwise_cons, List.pairwise_cons]
      refine ⟨fun y hy => ?_, h⟩
      rcases List.mem_cons.1 hy with rfl | hy
      · exact hz
      · exact ah_trans hz (h.1 y hy)
    · rename_i hz
      rw [List.pairwise_cons]
      refine ⟨fun y hy => ?_, srt_ins h.2 (fun y hy => hx y (List.mem_cons_of_mem _ hy))⟩
      rcases mem_ins.1 hy with rfl | hy
      · exact ah_tot (fun e => hx z (by simp) e.symm) hz
      · exact h.1 y hy
theorem mem_out {id : Nat} {y : Item} {L : List Item} : y ∈ out id L ↔ y ∈ L ∧ y.1 ≠ id := by simp [out]
theorem srt_out {id : Nat} {L : List Item} (h : Srt L) : Srt (out id L) := List.Pairwise.filter _ h
theorem srt_uniq : ∀ {L M : List Item}, Srt L → Srt M → (∀ x, x ∈ L ↔ x ∈ M) → L = M
  | [], [], _, _, _ => rfl
  | [], y :: M, _, _, h => by have := (h y).2 (by simp); simp at this
  | x :: L, [], _, _, h => by have := (h x).1 (by simp); simp at this
  | x :: L, y :: M, hl, hm, h => by
    unfold Srt at hl hm
    rw [List.pairwise_cons] at hl hm
    have hxy : x = y := by
      have h1 := (h x).1 (by simp)
      have h2 := (h y).2 (by simp)
      rcases List.mem_cons.1 h1 with e | e
      · exact e
      · rcases List.mem_cons.1 h2 with e' | e'
        · exact e'.symm
        · exact absurd (ah_trans (hl.1 y e') (hm.1 x e)) ah_irr
    subst hxy
    have hx1 : x ∉ L := fun q => ah_irr (hl.1 x q)
    have hx2 : x ∉ M := fun q => ah_irr (hm.1 x q)
    rw [srt_uniq hl.2 hm.2 (fun z => by
      have := h z
      rw [List.mem_cons, List.mem_cons] at this
      constructor
      · intro q
        rcases this.1 (.inr q) with e | e
        · exact absurd (e ▸ q) hx1
        · exact e
      · intro q
        rcases this.2 (.inr q) with e | e
        · exact absurd (e ▸ q) hx2
        · exact e)]

/-- A right list of items with ids below n. -/
structure Good (n : Nat) (L : List Item) : Prop where
  srt : Srt L
  ids : (L.map (·.1)).Nodup
  rng : ∀ it ∈ L, it.1 < n
theorem Good.nil (n : Nat) : Good n [] := ⟨by simp [Srt], by simp, by simp⟩
theorem nodup_ins {x : Item} : ∀ {L : List Item}, (L.map (·.1)).Nodup → (∀ y ∈ L, y.1 ≠ x.1) → ((ins x L).map (·.1)).Nodup
  | [], _, _ => by simp [ins]
  | z :: L, h, hx => by
    rw [ins]
    rw [List.map_cons, List.nodup_cons] at h
    split
    · rw [List.map_cons, List.map_cons, List.nodup_cons, List.nodup_cons]
      refine ⟨fun q => ?_, h⟩
      rw [← List.map_cons (f := fun (a : Item) => a.1) (a := z) (l := L)] at q
      obtain ⟨y, hy, e⟩ := List.mem_map.1 q
      exact hx y hy e
    · rw [List.map_cons, List.nodup_cons]
      refine ⟨fun q => ?_, nodup_ins h.2 (fun y hy => hx y (List.mem_cons_of_mem _ hy))⟩
      obtain ⟨y, hy, e⟩ := List.mem_map.1 q
      rcases mem_ins.1 hy with rfl | hy
      · exact hx z (by simp) e.symm
      · exact h.1 (List.mem_map.2 ⟨y, hy, e⟩)
theorem Good.ins {n : Nat} {L : List Item} (h : Good n L) {x : Item} (hx : x.1 < n) (hid : ∀ y ∈ L, y.1 ≠ x.1) : Good n (ins x L) :=
  ⟨srt_ins h.srt hid, nodup_ins h.ids hid, fun it hit => by
    rcases mem_ins.1 hit with rfl | q
    · exact hx
    · exact h.rng it q⟩
theorem Good.out {n : Nat} {L : List Item} (h : Good n L) (id : Nat) : Good n (out id L) :=
  ⟨srt_out h.srt, (List.Sublist.map _ List.filter_sublist).nodup h.ids, fun it hit => h.rng it (mem_out.1 hit).1⟩
theorem Good.tail {n : Nat} {x : Item} {L : List Item} (h : Good n (x :: L)) : Good n L :=
  ⟨(List.pairwise_cons.1 h.srt).2, (List.nodup_cons.1 h.ids).2, fun it hit => h.rng it (List.mem_cons_of_mem _ hit)⟩
theorem out_head {n : Nat} {x : Item} {L : List Item} (h : Good n (x :: L)) : out x.1 (x :: L) = L := by
  have hn := (List.nodup_cons.1 h.ids).1
  unfold out
  rw [List.filter_cons_of_neg (by simp), List.filter_eq_self]
  intro y hy
  simp only [bne_iff_ne, ne_eq]
  intro e
  exact hn (List.mem_map.2 ⟨y, hy, e⟩)
theorem out_miss {id : Nat} {L : List Item} (h : ∀ y ∈ L, y.1 ≠ id) : out id L = L := by
  unfold out
  rw [List.filter_eq_self]
  intro y hy
  simpa using h y hy
theorem out_split {n : Nat} {L1 L2 : List Item} {x : Item} (h : Good n (L1 ++ x :: L2)) : out x.1 (L1 ++ x :: L2) = L1 ++ L2 := by
  have hn := h.ids
  rw [List.map_append, List.nodup_append] at hn
  simp only [List.map_cons, List.nodup_cons] at hn
  unfold out
  rw [List.filter_append, List.filter_cons_of_neg (by simp)]
  congr 1
  · rw [List.filter_eq_self]
    intro y hy
    simp only [bne_iff_ne, ne_eq]
    exact hn.2.2 _ (List.mem_map_of_mem (f := fun (a : Item) => a.1) hy) _ (by simp)
  · rw [List.filter_eq_self]
    intro y hy
    simp only [bne_iff_ne, ne_eq]
    intro e
    exact hn.2.1.1 (List.mem_map.2 ⟨y, hy, e⟩)
theorem Good.uniq {n : Nat} {L : List Item} (h : Good n L) {x y : Item} (hx : x ∈ L) (hy : y ∈ L) (e : x.1 = y.1) : x = y := by
  by_cases c1 : ah x y
  · obtain ⟨s, t, rfl⟩ := List.append_of_mem hx
    have hn := h.ids
    rw [List.map_append, List.nodup_append] at hn
    simp only [List.map_cons, List.nodup_cons] at hn
    rcases List.mem_append.1 hy with q | q
    · exact absurd e.symm (hn.2.2 _ (List.mem_map_of_mem (f := fun (a : Item) => a.1) q) _ (by simp))
    · rcases List.mem_cons.1 q with q | q
      · exact q.symm
      · exact absurd (List.mem_map.2 ⟨y, q, e.symm⟩) hn.2.1.1
  · obtain ⟨s, t, rfl⟩ := List.append_of_mem hx
    have hn := h.ids
    rw [List.map_append, List.nodup_append] at hn
    simp only [List.map_cons, List.nodup_cons] at hn
    rcases List.mem_append.1 hy with q | q
    · exact absurd e.symm (hn.2.2 _ (List.mem_map_of_mem (f := fun (a : Item) => a.1) q) _ (by simp))
    · rcases List.mem_cons.1 q with q | q
      · exact q.symm
      · exact absurd (List.mem_map.2 ⟨y, q, e.symm⟩) hn.2.1.1
theorem Good.len {n : Nat} {L : List Item} (h : Good n L) : L.length ≤ n := by
  have hs : Spots n (L.map (fun it => it.1 + 1)) := by
    refine ⟨?_, fun y hy => ?_⟩
    · have h0 := h.ids
      unfold List.Nodup at h0 ⊢
      rw [List.pairwise_map] at h0 ⊢
      exact h0.imp (fun q e => q (by omega))
    · obtain ⟨it, hit, rfl⟩ := List.mem_map.1 hy
      have := h.rng it hit
      omega
  have := spots_len hs
  simpa using this

/-- The program's heap holds L. -/
def IsH (w : World) (b g n : Nat) (L : List Item) : Prop :=
  Good n L ∧ ∃ m t, Holds w b g n m t ∧ L.length = t.spots.length ∧ ∀ id d s, id < n → (m id = some (d, s) ↔ (id, d, s) ∈ L)
section
variable {w : World} {b g n : Nat} {L : List Item} {m : Nat → Option (Nat × Nat)} {t : BT}
theorem IsH.good (h : IsH w b g n L) : Good n L := h.1
theorem IsH.nle (h : IsH w b g n L) : n ≤ 1024 := by
  obtain ⟨_, m, t, ⟨_, _, _, _, _, hn, _⟩, _⟩ := h
  exact hn
theorem m_none {id : Nat} (hm : ∀ id d s, id < n → (m id = some (d, s) ↔ (id, d, s) ∈ L)) (hi : id < n) (hid : ∀ it ∈ L, it.1 ≠ id) : (m id).isSome = false := by
  cases h : m id with
  | none => rfl
  | some x =>
    obtain ⟨d, s⟩ := x
    exact absurd rfl (hid _ ((hm id d s hi).1 h))
theorem m_some {id d s : Nat} (hm : ∀ id d s, id < n → (m id = some (d, s) ↔ (id, d, s) ∈ L)) (hi : id < n) (hid : (id, d, s) ∈ L) : (m id).isSome = true := by
  rw [(hm id d s hi).2 hid]; rfl
theorem m_ins {id d s : Nat} (hm : ∀ id d s, id < n → (m id = some (d, s) ↔ (id, d, s) ∈ L)) (hid : ∀ it ∈ L, it.1 ≠ id) : ∀ i d' s', i < n → (upd m id (some (d, s)) i = some (d', s') ↔ (i, d', s') ∈ ins (id, d, s) L) := by
  intro i d' s' hi
  rw [mem_ins]
  by_cases e : i = id
  · subst e
    rw [upd_same]
    constructor
    · intro q
      injection q with q
      injection q with q1 q2
      exact .inl (by rw [q1, q2])
    · rintro (q | q)
      · injection q with _ q
        injection q with q1 q2
        rw [q1, q2]
      · exact absurd rfl (hid _ q)
  · rw [upd_other _ _ _ _ e, hm i d' s' hi]
    constructor
    · exact .inr
    · rintro (q | q)
      · injection q with q _
        exact absurd q e
      · exact q
theorem m_out {id : Nat} (hm : ∀ id d s, id < n → (m id = some (d, s) ↔ (id, d, s) ∈ L)) : ∀ i d' s', i < n → (upd m id none i = some (d', s') ↔ (i, d', s') ∈ out id L) := by
  intro i d' s' hi
  rw [mem_out]
  by_cases e : i = id
  · subst e
    rw [upd_same]
    constructor
    · intro q; cases q
    · intro q; exact absurd rfl q.2
  · rw [upd_other _ _ _ _ e, hm i d' s' hi]
    exact ⟨fun q => ⟨q, e⟩, fun q => q.1⟩
theorem len_out {id d s : Nat} {L : List Item} (h : Good n L) (hid : (id, d, s) ∈ L) : (out id L).length + 1 = L.length := by
  obtain ⟨L1, L2, rfl⟩ := List.append_of_mem hid
  rw [show out id (L1 ++ (id, d, s) :: L2) = L1 ++ L2 from out_split (x := (id, d, s)) h]
  simp only [List.length_append, List.length_cons]
  omega
theorem hinsert_ok (h : IsH w b g n L) (id d s : Nat) (hid : id < n) (hno : ∀ it ∈ L, it.1 ≠ id) :
    Calls Try.prog 28 #[.pointer (some ⟨b, 0, none⟩), .int .i64 (id : Int), .int .u64 (d : Int), .int .u64 (s : Int)] w fun e w' => e = .returned (.int .i64 0) ∧ IsH w' b g n (ins (id, d, s) L) ∧ Only b g w w' := by
  obtain ⟨h0, m, t, h1, h2, h3⟩ := h
  refine (insert_ok h1 id d s hid (m_none h3 hid hno)).mono ?_
  rintro e w' ⟨he, t', p, hh, o⟩
  refine ⟨he, ⟨h0.ins (x := (id, d, s)) hid hno, _, t', hh, ?_, m_ins h3 hno⟩, o⟩
  have := p.length_eq
  rw [len_ins, this, List.length_cons, h2]
theorem first_head {x : Item} {id : Nat} (h0 : Good n (x :: L)) (hm : ∀ id d s, id < n → (m id = some (d, s) ↔ (id, d, s) ∈ x :: L)) (hf : First n m id) : id = x.1 := by
  obtain ⟨hi, d, s, hd, hle⟩ := hf
  have h1 := (hm id d s hi).1 hd
  rcases List.mem_cons.1 h1 with e | e
  · rw [← e]
  · have h2 := (List.pairwise_cons.1 h0.srt).1 _ e
    have h3 := hle x.1 x.2.1 x.2.2 (h0.rng x (by simp)) ((hm x.1 x.2.1 x.2.2 (h0.rng x (by simp))).2 (by simp))
    unfold ah at h2
    simp only at h2
    omega
theorem htake_ok {x : Item} (h : IsH w b g n (x :: L)) :
    Calls Try.prog 29 #[.pointer (some ⟨b, 0, none⟩)] w fun e w' => e = .returned (.tuple #[.int .i64 (x.1 : Int), .bool true]) ∧ IsH w' b g n L ∧ Only b g w w' := by
  obtain ⟨h0, m, t, h1, h2, h3⟩ := h
  refine (take_ok h1 (by intro e; rw [e] at h2; simp at h2)).mono ?_
  rintro e w' ⟨id, hf, he, t', p, hh, o⟩
  have hx := first_head h0 h3 hf
  subst hx
  refine ⟨he, ⟨h0.tail, _, t', hh, ?_, fun i d s hi => by rw [m_out h3 i d s hi, out_head h0]⟩, o⟩
  have := p.length_eq
  simp only [List.length_cons] at this h2
  omega
theorem hmin_ok {x : Item} (h : IsH w b g n (x :: L)) :
    Calls Try.prog 30 #[.pointer (some ⟨b, 0, none⟩)] w fun e w' => e = .returned (.tuple #[.int .i64 (x.1 : Int), .bool true]) ∧ ∃ q, w' = w.drewN q := by
  obtain ⟨h0, m, t, h1, h2, h3⟩ := h
  refine (min_ok h1 (by intro e; rw [e] at h2; simp at h2)).mono ?_
  rintro e w' ⟨id, hf, he, hq⟩
  have hx := first_head h0 h3 hf
  subst hx
  exact ⟨he, hq⟩
/-- The heap's cells, as far as its shape matters not. -/
theorem IsH.rep (h : IsH w b g n L) : ∃ t D S I C A B T, Rep w b g n (BT.root t) L.length D S I C A B T ∧ (L = [] → t = BT.nil) ∧ n ≤ 1024 ∧ Wiped n D S T ∧ (∀ id, id < n → (T (id + 1) = true ↔ ∃ it ∈ L, it.1 = id)) ∧ ∀ id, id < n → T (id + 1) = true → (id, D (id + 1), S (id + 1)) ∈ L := by
  obtain ⟨h0, m, t, ⟨D, S, I, T, h1, hn, h4, h5⟩, h2, h3⟩ := h
  obtain ⟨C, A, B, hR, _⟩ := h1.lk
  refine ⟨t, D, S, I, C, A, B, T, h2 ▸ hR, fun e => ?_, hn, h5, fun id hi => ?_, fun id hi hT => ?_⟩
  · subst e
    cases t with
    | nil => rfl
    | node _ _ _ => simp [BT.spots] at h2
  · constructor
    · intro hT
      have := h4 id hi
      rw [hT, if_pos rfl] at this
      exact ⟨_, (h3 id _ _ hi).1 this, rfl⟩
    · rintro ⟨⟨i, d, s⟩, hm, rfl⟩
      have h6 := (h3 i d s hi).2 hm
      rw [h4 i hi] at h6
      cases hT : T (i + 1) with
      | true => rfl
      | false =>
        rw [hT] at h6
        cases h6
  · have := h4 id hi
    rw [hT, if_pos rfl] at this
    exact (h3 id _ _ hi).1 this
theorem IsH.kept {w' : World} (h : IsH w b g n L) (hb : w'.heap[b]? = w.heap[b]?) (hg : w'.heap[g]? = w.heap[g]?) : IsH w' b g n L := by
  obtain ⟨h0, m, t, ⟨D, S, I, T, h1, hn, h4, h5⟩, h2, h3⟩ := h
  obtain ⟨C, A, B, hR, hrow, hB⟩ := h1.lk
  exact ⟨h0, m, t, ⟨D, S, I, T, ⟨⟨C, A, B, hR.kept hb hg, hrow, hB⟩, h1.wd, h1.od, h1.sp, h1.th, h1.id⟩, hn, h4, h5⟩, h2, h3⟩
theorem IsH.blocks (h : IsH w b g n L) : b < w.heap.size ∧ g < w.heap.size ∧ b ≠ g := by
  obtain ⟨t, D, S, I, C, A, B, T, hR, _⟩ := h.rep
  exact ⟨hR.lt_b, hR.lt_g, hR.bg⟩
theorem IsH.like {w' : World} (h : IsH w b g n L) (a : w'.heap = w.heap) : IsH w' b g n L := h.kept (by rw [a]) (by rw [a])
theorem IsH.below {w' : World} (h : IsH w b g n L) (hb : Below w.heap.size w w') : IsH w' b g n L := h.kept (hb.block b h.blocks.1) (hb.block g h.blocks.2.1)
theorem IsH.drewN (h : IsH w b g n L) (q : Nat) : IsH (w.drewN q) b g n L := h.like rfl
end
end Go.Proofs.Ytjmbadadelelfaa.Ph

namespace Go.Proofs.Ytjmbadadelelfaa.Ph
open Go.RowKit
attribute [local go_sem ↓] Go.wp_at_zero Go.wp_at_succ

section
variable {w : World} {b g n : Nat} {L : List Item}
theorem hnew_ok (n : Nat) (w : World) (h1 : 1 ≤ n) (h2 : n ≤ 1024) :
    Calls Try.prog 27 #[.int .i64 n] w fun e w' => e = .returned (.pointer (some ⟨w.heap.size + 1, 0, none⟩)) ∧ IsH w' (w.heap.size + 1) w.heap.size n [] ∧ Below w.heap.size w w' := by
  refine (new_ok n w h1 h2).mono ?_
  rintro e w' ⟨he, hr, hb⟩
  refine ⟨he, ⟨Good.nil n, fun _ => none, .nil, ⟨_, _, _, _, ⟨⟨_, _, _, hr, trivial, rfl⟩, by simp [BT.wide], trivial, ⟨by simp [BT.spots], by simp [BT.spots]⟩, fun y _ => by simp [BT.spots], by simp [BT.spots]⟩, h2, fun _ _ => rfl, fun _ _ _ => ⟨rfl, rfl⟩⟩, rfl, fun _ _ _ _ => by simp⟩, hb⟩
theorem hmin_none (h : IsH w b g n []) :
    Calls Try.prog 30 #[.pointer (some ⟨b, 0, none⟩)] w fun e w' => e = .returned (.tuple #[.int .i64 0, .bool false]) ∧ w' = w := by
  obtain ⟨t, D, S, I, C, A, B, T, hR, ht, _⟩ := h.rep
  rw [ht rfl] at hR
  exact min_none hR
theorem htake_none (h : IsH w b g n []) :
    Calls Try.prog 29 #[.pointer (some ⟨b, 0, none⟩)] w fun e w' => e = .returned (.tuple #[.int .i64 0, .bool false]) ∧ w' = w := by
  obtain ⟨t, D, S, I, C, A, B, T, hR, ht, _⟩ := h.rep
  rw [ht rfl] at hR
  exact take_none hR
theorem hinsert_range (h : IsH w b g n L) (id d s : Int) (hid : id < 0 ∨ (n : Int) ≤ id) :
    Calls Try.prog 28 #[.pointer (some ⟨b, 0, none⟩), .int .i64 id, .int .u64 d, .int .u64 s] w fun e w' => e = .returned (.int .i64 2) ∧ w' = w := by
  obtain ⟨t, D, S, I, C, A, B, T, hR, _⟩ := h.rep
  exact insert_range hR id d s (by omega) h.nle
theorem hinsert_known (h : IsH w b g n L) (id : Nat) (d s : Int) (hid : ∃ it ∈ L, it.1 = id) :
    Calls Try.prog 28 #[.pointer (some ⟨b, 0, none⟩), .int .i64 (id : Int), .int .u64 d, .int .u64 s] w fun e w' => e = .returned (.int .i64 5) ∧ w' = w := by
  obtain ⟨t, D, S, I, C, A, B, T, hR, _, _, _, hT, _⟩ := h.rep
  have hi : id < n := by
    obtain ⟨it, hm, rfl⟩ := hid
    exact h.good.rng it hm
  exact insert_known hR id d s hi h.nle ((hT id hi).2 hid)
theorem hlen_ok (h : IsH w b g n L) :
    Calls Try.prog 32 #[.pointer (some ⟨b, 0, none⟩)] w fun e w' => e = .returned (.int .i64 (L.length : Int)) ∧ w' = w := by
  obtain ⟨t, D, S, I, C, A, B, T, hR, _⟩ := h.rep
  have e2 := hR.ct
  clear hR h
  go_enter Try.func32, Try.ntmps32
  go_wp2
  go_ret
  exact ⟨rfl, rfl⟩
theorem hget_range (h : IsH w b g n L) (id : Int) (hid : id < 0 ∨ (n : Int) ≤ id) :
    Calls Try.prog 31 #[.pointer (some ⟨b, 0, none⟩), .int .i64 id] w fun e w' => e = .returned (.tuple #[.int .u64 0, .int .u64 0, .bool false]) ∧ w' = w := by
  obtain ⟨t, D, S, I, C, A, B, T, hR, _⟩ := h.rep
  have HM := veil (may_no hR id (by omega) h.nle)
  clear hR h hid
  go_enter Try.func31, Try.ntmps31
  go_wp2_with (go_at_call 51; refine (HM.out).mono ?_; rintro e w1 ⟨rfl, hw⟩; replace hw := hw.symm; subst hw)
  go_ret3
  exact ⟨rfl, rfl⟩
set_option maxHeartbeats 1000000 in
theorem get_rep {rt ct : Nat} {D S I C A B : Nat → Nat} {T : Nat → Bool} (h : Rep w b g n rt ct D S I C A B T) (id : Nat) (hi : id < n) (hn : n ≤ 1024) :
    Calls Try.prog 31 #[.pointer (some ⟨b, 0, none⟩), .int .i64 id] w fun e w' => e = .returned (.tuple #[.int .u64 (D (id + 1) : Nat), .int .u64 (S (id + 1) : Nat), .bool (T (id + 1))]) ∧ Below w.heap.size w w' := by
  have HM := veil (may_yes h id hn hi)
  obtain ⟨cp, e0⟩ := h.sl
  have c0 := h.nd (id + 1) (by omega)
  have c1 := h.ns (id + 1) (by omega)
  have c2 := h.ni (id + 1) (by omega)
  have c3 := h.nc (id + 1) (by omega)
  have c4 := h.na (id + 1) (by omega)
  have c5 := h.nb (id + 1) (by omega)
  have c6 := h.nt (id + 1) (by omega)
  clear h
  generalize D (id + 1) = d at *
  generalize S (id + 1) = s at *
  generalize I (id + 1) = i at *
  generalize C (id + 1) = c at *
  generalize A (id + 1) = a at *
  generalize B (id + 1) = bb at *
  generalize T (id + 1) = t at *
  go_enter Try.func31, Try.ntmps31
  go_wp2_with (go_at_call 51; refine (HM.out).mono ?_; rintro e w1 ⟨rfl, hw⟩; replace hw := hw.symm; subst hw)
  go_quiet (fail)
  go_wp2
  go_ret3
  exact ⟨rfl, below_drewN ((Below.refl _ _).alloc (Nat.le_refl _) _) _⟩
theorem hget_none (h : IsH w b g n L) (id : Nat) (hi : id < n) (hid : ∀ it ∈ L, it.1 ≠ id) :
    Calls Try.prog 31 #[.pointer (some ⟨b, 0, none⟩), .int .i64 id] w fun e w' => e = .returned (.tuple #[.int .u64 0, .int .u64 0, .bool false]) ∧ Below w.heap.size w w' := by
  obtain ⟨t, D, S, I, C, A, B, T, hR, _, hn, hW, hT, _⟩ := h.rep
  have hf : T (id + 1) = false := by
    cases hh : T (id + 1) with
    | false => rfl
    | true =>
      obtain ⟨it, hm, e⟩ := (hT id hi).1 hh
      exact absurd e (hid it hm)
  have hg := get_rep hR id hi hn
  rw [hf, (hW id hi hf).1, (hW id hi hf).2] at hg
  exact hg
theorem hget_some (h : IsH w b g n L) (id d s : Nat) (hid : (id, d, s) ∈ L) :
    Calls Try.prog 31 #[.pointer (some ⟨b, 0, none⟩), .int .i64 id] w fun e w' => e = .returned (.tuple #[.int .u64 d, .int .u64 s, .bool true]) ∧ Below w.heap.size w w' := by
  obtain ⟨t, D, S, I, C, A, B, T, hR, _, hn, hW, hT, hm⟩ := h.rep
  have hi := h.good.rng _ hid
  have hf : T (id + 1) = true := (hT id hi).2 ⟨_, hid, rfl⟩
  have he := h.good.uniq (hm id hi hf) hid rfl
  injection he with _ he
  injection he with he1 he2
  have hg := get_rep hR id hi hn
  rw [hf, he1, he2] at hg
  exact hg
end
end Go.Proofs.Ytjmbadadelelfaa.Ph
