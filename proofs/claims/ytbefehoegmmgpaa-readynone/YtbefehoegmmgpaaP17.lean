/-
  The walk of pair, of any row.
-/
import Derived.Test.YtbefehoegmmgpaaP16
namespace Go.Proofs.Ytbefehoegmmgpaa.Ph
open Go.RowKit
attribute [local go_sem ↓] Go.wp_at_zero Go.wp_at_succ

/-- How far a round is: W stood in the row at its start. -/
def Cnt (W : Nat) (t m : BT) : Prop := W ≤ t.wide + 2 * m.wide ∧ 1 ≤ W ∧ (t.wide + 2 * m.wide ≤ W ∨ (t = .nil ∧ 3 ≤ W ∧ 2 * m.wide ≤ W + 1))

theorem PI.turn {w : World} {b g n rt ct : Nat} {D S I C0 A0 B0 : Nat → Nat} {T : Nat → Bool} {L : List Nat} {wr : World} {m : BT} (h : PI w b g n rt ct D S I T L C0 A0 B0 wr .nil m) : PI w b g n rt ct D S I T L C0 A0 B0 wr m .nil := by
  obtain ⟨C, A, B, h1, h2, h3, h4⟩ := h.lk
  exact ⟨⟨C, A, B, h1, h3, h2, h4⟩, h.o2, h.o1, by simpa [BT.spots] using h.pm, h.on⟩

section
variable {w : World} {b g n rt ct : Nat} {D S I C A B : Nat → Nat} {T : Nat → Bool}
set_option maxHeartbeats 4000000 in
theorem pair_any (t0 : BT) (L : List Nat) (hL : Spots n L) (hB0 : B 0 = 0) (h0 : PI w b g n rt ct D S I T L C A B w t0 .nil) :
    Calls Try.prog 77 #[.pointer (some ⟨b, 0, none⟩), .int .i64 (t0.root : Int)] w fun e w' => ∃ t : BT, t.wide ≤ 1 ∧ e = .returned (.int .i64 (t.root : Int)) ∧ PI w b g n rt ct D S I T L C A B w' t .nil := by
  have HL := veil hL
  have HB0 := veil hB0
  have H0 := veil h0
  clear h0 hL hB0
  go_enter Try.func77, Try.ntmps77
  go_wp2
  go_step3
  go_wp2
  go_step3
  go_wp2
  go_loopw [1] (fun i wr => ∃ t : BT, i = .int .i64 (t.root : Int) ∧ Hid (PI w b g n rt ct D S I T L C A B wr t .nil)) (fun i wr => chain wr g L.length (intOf i).toNat)
  case atStart => exact ⟨t0, rfl, H0⟩
  case round =>
    obtain ⟨t, rfl, ht⟩ := hrel
    cases t with
    | nil =>
      have HN : Hid ((BT.nil).root = 0) := veil rfl
      have hz : (((BT.nil).root : Nat) : Int) = 0 := rfl
      rw [hz]
      go_wp2
      rw [Exit.noGoto_ret]
      go_ret
      exact ⟨.nil, by simp [BT.wide], rfl, ht.out⟩
    | node a ca x =>
      have ha := HL.out.le a (ht.out.pm.mem_iff.1 (by simp [BT.spots]))
      have hai : ¬ (a : Int) = 0 := by omega
      have hroot : (((BT.node a ca x).root : Nat) : Int) = (a : Int) := rfl
      have HW := veil (ht.out.chain HL.out)
      have hab : ((a : Int) != 0) = true := by rw [bne_iff_ne]; exact hai
      rw [hroot]
      go_wp2
      clear hab
      go_loopw [1, 5] (fun i k wr2 => ∃ t m : BT, i = .int .i64 (t.root : Int) ∧ k = .int .i64 (m.root : Int) ∧ Hid (PI w b g n rt ct D S I T L C A B wr2 t m) ∧ Hid (Cnt (BT.node a ca x).wide t m)) (fun i _ wr2 => chain wr2 g L.length (intOf i).toNat)
      case atStart => exact ⟨.node a ca x, .nil, rfl, rfl, ht, by refine ⟨?_, ?_, .inl ?_⟩ <;> simp [BT.wide]⟩
      case round =>
        obtain ⟨t, m, rfl, rfl, hp, hc⟩ := hrel
        cases t with
        | nil =>
          have hz : (((BT.nil).root : Nat) : Int) = 0 := rfl
          rw [hz]
          go_wp2
          have hp' := hp.out.turn
          refine ⟨⟨m, rfl, hp'⟩, ?_⟩
          have e1 : (intOf (Value.int IntKind.i64 (m.root : Int))).toNat = m.root := by simp [intOf]
          have e2 : (intOf (Value.int IntKind.i64 (a : Int))).toNat = (BT.node a ca x).root := by simp [intOf, BT.root]
          rw [e1, e2, HW.out, hp'.chain HL.out]
          obtain ⟨q1, q2, q3⟩ := hc.out
          simp only [BT.wide] at q1 q2 q3 ⊢
          rcases q3 with q3 | ⟨_, q3, q4⟩ <;> omega
        | node r cr rest =>
          have hrr := HL.out.le r (hp.out.pm.mem_iff.1 (by simp [BT.spots]))
          have hri : ¬ (r : Int) = 0 := by omega
          have hroot2 : (((BT.node r cr rest).root : Nat) : Int) = (r : Int) := rfl
          have HM := veil (hp.out.chain HL.out)
          obtain ⟨C1, A1, B1, hR, hrow, hrm, hoff⟩ := hp.out.lk
          obtain ⟨cp, e0⟩ := hR.sl
          have e1 := hR.nb r hrr.2
          have e2 := hrow.2.1
          rw [e2] at e1
          have rl : r < n + 1 := by omega
          have fg := hR.fg
          have HR := veil hR
          have HRow := veil hrow
          have HRm := veil hrm
          have HOff := veil hoff
          clear hR hrow hrm hoff e2
          rw [hroot2]
          cases rest with
          | nil =>
            have e1' : wr.cell? ⟨g, r * 7 + 5, none⟩ = some (.int .i64 0) := e1
            clear e1
            cases m with
            | nil =>
              have hz : (((BT.nil).root : Nat) : Int) = 0 := rfl
              rw [hz]
              go_wp2
              go_quiet (fail)
              go_wp2
              show Exit.noGoto _ Exit.ret _ _
              rw [Exit.noGoto_ret]
              go_ret
              exact ⟨.node r cr .nil, by simp [BT.wide], rfl, ⟨⟨C1, A1, B1, HR.out.drewN _, HRow.out, trivial, HOff.out⟩, hp.out.o1, trivial, hp.out.pm, hp.out.on.drewN _⟩⟩
            | node mr mc mx =>
              have hmm := HL.out.le mr (hp.out.pm.mem_iff.1 (by simp [BT.spots]))
              have hmi : ¬ (mr : Int) = 0 := by omega
              have hroot3 : (((BT.node mr mc mx).root : Nat) : Int) = (mr : Int) := rfl
              have z1 : wr.cell? ⟨g, 0 * 7 + 5, none⟩ = some (.int .i64 0) := by
                have := HR.out.nb 0 (Nat.zero_le _)
                rw [((HOff.out 0 (fun hh => by have := (HL.out.le 0 hh).1; omega)).2.2).trans HB0.out] at this
                exact this
              have z2 : wr.cell? ⟨g, 5, none⟩ = some (.int .i64 0) := z1
              clear z1
              rw [hroot3]
              go_wp2
              go_quiet (fail)
              go_wp2_with (go_at_call 79; refine (join_right r hrr.1 _ b).mono ?_; rintro e w3 ⟨rfl, hw⟩; replace hw := hw.symm; subst hw)
              have HS := veil (step_odd HL.out HRow.out HRm.out HOff.out hp.out.o1 hp.out.o2 hp.out.pm (HR.out.drewN nq) (hp.out.on.drewN nq))
              go_roundw
              case rel =>
                exact ⟨BT.nil, .node r cr (.node mr mc mx), rfl, rfl, HS, by
                  obtain ⟨q1, q2, q3⟩ := hc.out
                  rcases q3 with q3 | ⟨q3, _⟩
                  · simp only [Cnt, BT.wide] at *
                    refine ⟨?_, ?_, .inr ⟨trivial, ?_, ?_⟩⟩ <;> omega
                  · exact absurd q3 (by simp)⟩
              case measure =>
                have e1 : (intOf (Value.int IntKind.i64 (r : Int))).toNat = (BT.node r cr .nil).root := by simp [intOf, BT.root]
                have e2 : (intOf (Value.int IntKind.i64 0)).toNat = (BT.nil).root := by simp [intOf, BT.root]
                have hs := HS.out.chain HL.out
                have hm := HM.out
                rw [← e2] at hs
                rw [← e1] at hm
                show chain _ g L.length (intOf (Value.int IntKind.i64 0)).toNat < chain wr g L.length (intOf (Value.int IntKind.i64 (r : Int))).toNat
                have hs' : chain ((wr.drewN nq).setCell ⟨g, r * 7 + 5, none⟩ (Value.int IntKind.i64 (mr : Int))) g L.length (intOf (Value.int IntKind.i64 0)).toNat = _ := hs
                rw [hs', hm]
                simp [BT.wide]
          | node r2 cr2 rest2 =>
            have hr2 := HL.out.le r2 (hp.out.pm.mem_iff.1 (by simp [BT.spots]))
            have hr2i : ¬ (r2 : Int) = 0 := by omega
            have r2l : r2 < n + 1 := by omega
            have e1' : wr.cell? ⟨g, r * 7 + 5, none⟩ = some (.int .i64 (r2 : Int)) := e1
            have e3 := HR.out.nb r2 hr2.2
            have e4 := HRow.out.2.2.2.2.1
            rw [e4] at e3
            clear e1 e4
            have hle : ∀ (c : BT), (∀ y ∈ c.spots, y ∈ L) → c.root ≤ n := fun c h => by
              cases c with
              | nil => exact Nat.zero_le _
              | node s _ _ => exact (HL.out.le s (h s (by simp [BT.spots]))).2
            have hnd := hp.out.pm.nodup_iff.2 HL.out.nd
            have hne : ∀ (c : BT) (q : Nat), q ∉ c.spots → q ≠ 0 → c.root ≠ q := fun c q h h0 e => by
              cases c with
              | nil => exact h0 e.symm
              | node s _ _ => rw [BT.root] at e; exact h (by simp [BT.spots, e])
            have hmem : ∀ y, y ∈ (BT.node r cr (.node r2 cr2 rest2)).spots → y ∈ L := fun y hy => hp.out.pm.mem_iff.1 (List.mem_append.2 (.inl hy))
            have k1 : C1 r ≤ n := by rw [HRow.out.1]; exact hle cr (fun y hy => hmem y (by simp [BT.spots, hy]))
            have k2 : C1 r2 ≤ n := by rw [HRow.out.2.2.2.1]; exact hle cr2 (fun y hy => hmem y (by simp [BT.spots, hy]))
            have nd1 := (List.nodup_append.1 hnd).1
            simp only [BT.spots, List.nodup_cons, List.nodup_append, List.mem_cons, List.mem_append, not_or] at nd1
            have k3 : C1 r ≠ r2 := by rw [HRow.out.1]; exact hne cr r2 (fun hh => nd1.2.2.2 r2 hh r2 (by simp) rfl) (by omega)
            have k4 : C1 r2 ≠ r := by rw [HRow.out.2.2.2.1]; exact hne cr2 r nd1.1.2.2.1 (by omega)
            have HJ : Hid (∀ w1, Rep w1 b g n rt ct D S I C1 A1 B1 T → _) := fun w1 hh => join_any hh r r2 hrr.1 hrr.2 hr2.1 hr2.2 k1 k2 k3 k4
            clear k1 k2 k3 k4 nd1 hne hle hmem hnd
            go_wp2
            go_quiet (fail)
            go_wp2_with (go_at_call 79; refine (HJ.out _ (HR.out.drewN nq)).mono ?_; rintro e w3 ⟨u, v, huv, hle, rfl, hr3, ho3⟩; obtain ⟨cp3, e30⟩ := hr3.sl; have fg3 := hr3.fg; have ul : u < n + 1 := (by rcases huv with ⟨hu, _⟩ | ⟨hu, _⟩ <;> rw [hu] <;> omega); have e31 := hr3.nb u (by omega); have HR3 := veil hr3; have HO3 := veil ho3; have HUV := veil huv; have HLE := veil hle; clear hr3 ho3 huv hle)
            have HS := veil (step_two HL.out HRow.out HRm.out HOff.out hp.out.o1 hp.out.o2 hp.out.pm HUV.out HLE.out HR3.out ((hp.out.on.drewN nq).trans HO3.out))
            obtain ⟨m', hm1, hm2, hm3⟩ := HS.out
            go_roundw
            case rel =>
              exact ⟨rest2, m', rfl, by rw [hm1], hm3, by
                obtain ⟨q1, q2, q3⟩ := hc.out
                rcases q3 with q3 | ⟨q3, _⟩
                · simp only [Cnt, BT.wide] at *
                  refine ⟨?_, ?_, .inl ?_⟩ <;> omega
                · exact absurd q3 (by simp)⟩
            case measure =>
              have e1 : (intOf (Value.int IntKind.i64 (r : Int))).toNat = (BT.node r cr (.node r2 cr2 rest2)).root := by simp [intOf, BT.root]
              have e2 : (intOf (Value.int IntKind.i64 (rest2.root : Int))).toNat = rest2.root := by simp [intOf]
              have hs := hm3.chain HL.out
              have hm := HM.out
              rw [← e2] at hs
              rw [← e1] at hm
              show chain (w3.setCell ⟨g, u * 7 + 5, none⟩ (Value.int IntKind.i64 (m.root : Int))) g L.length (intOf (Value.int IntKind.i64 (rest2.root : Int))).toNat < chain wr g L.length (intOf (Value.int IntKind.i64 (r : Int))).toNat
              rw [hs, hm]
              simp only [BT.wide]
              omega
end
end Go.Proofs.Ytbefehoegmmgpaa.Ph
