/-
  The walk of CbsRefills.
-/
import Derived.Test.YtblickncecpajaaC35
import Derived.Test.YtblickncecpajaaC30
namespace Go.Proofs.Ytblickncecpajaa
open Go.RowKit Go.Lib
set_option linter.unusedVariables false
attribute [local go_sem ↓] Go.wp_at_zero Go.wp_at_succ
section
variable {w : World} {base s P : Nat} {v : Value} {L : List Srv}
theorem deadline_b (h : Pep w base s P v L) (i : Int) : Calls Try.prog 19 #[.pointer (some ⟨s, 0, none⟩), .int .i64 i] w fun e w' => e = .returned (.int .u64 ((atL L i).d : Int)) ∧ Below w.heap.size w w' :=
  (deadline_ok h i).mono fun e w' ⟨a, c, hw⟩ => ⟨a, below_a hw⟩
theorem active_b (h : Pep w base s P v L) (i : Int) : Calls Try.prog 21 #[.pointer (some ⟨s, 0, none⟩), .int .i64 i] w fun e w' => e = .returned (.bool (decide (0 < (atL L i).l))) ∧ Below w.heap.size w w' :=
  (active_ok h i).mono fun e w' ⟨a, c, hw⟩ => ⟨a, below_a hw⟩
end
set_option maxHeartbeats 8000000 in
theorem refills_walk (m : Nat) (hm : m < 256) (a : Option Addr) (len cap : Nat) (D : Nat → Dd) (now : Nat) (hn : now < 18446744073709551616) (w : World) (hlen : len < 9223372036854775808) (hd : Dds w a len D) :
    Calls Try.prog 6 #[.int .u8 m, .slice a len cap, .int .u64 (now : Int)] w fun e w' => e = .returned (.bool true) ∧ Below w.heap.size w w' := by
  have HP := veil (play_ok w m hm a len cap hlen D hd)
  clear hd
  go_enter Try.func6, Try.ntmps6
  go_wp2_with (first
    | (go_at_call 10; refine (HP.out).mono ?_; rintro e w1 ⟨s, r, P, v, u, L, rfl, hB, hL⟩; have hs := hB.hs; have HB1 := veil hB.p; have HL1 := veil hL; clear hB hL HP)
    | (go_at_call 11; refine (live_ok _).mono ?_; rintro e w2 ⟨rfl, hb2⟩; have HB2 := veil (HB1.out.below hb2); have HL2 := veil (bl_tr HL1.out hb2); clear hb2 HB1 HL1)
    | (go_at_call 22; refine (fork_ok HB2.out).mono ?_; rintro e w3 ⟨f, vf, rfl, hf, hpf, hb3⟩; have HB3 := veil (HB2.out.below hb3); have HF3 := veil hpf; have HL3 := veil (bl_tr HL2.out hb3); have HN := veil HB2.out.lts; clear hb3 hpf HB2 HL2)
    | (go_at_call 16; refine (refill_ok HB3.out now hn).mono ?_; rintro e w4 ⟨lv, rfl, ho4, hp4, hf4'⟩; have hf4 := hf4'.wide (S' := fun k => k = s ∨ some k = v.ownBlock) (fun _ _ q => .inr q); obtain ⟨ax, dx, rfl⟩ := owns_slice ho4; have HI := veil (IL.of_row ho4); have HS := veil hp4; have HF := veil (HB3.out.past HN.out HF3.out hf hf4); have HL := veil (HL3.out.trans (HB3.out.low hs hf4)); clear ho4 hp4 hf4 hf4' HB3 HF3 HL3 HN))
  have hFin := HF.out.f
  have hll : (dueN L now L.length).length ≤ 32 := by have := dueN_len L now L.length; have := hFin.len; omega
  have HQ : Hid (∀ W, Below w4.heap.size w4 W → Below w.heap.size w W) := fun W hb => bl_tr HL.out hb
  have HDA := veil (fun j hj => due_at hFin now j hj)
  have HFa : Hid (∀ W (k : Int), Below w4.heap.size w4 W → (atL L k).l = 0 → Calls Try.prog 21 #[.pointer (some ⟨f, 0, none⟩), .int .i64 k] W fun e w' => e = .returned (.bool false) ∧ Below w4.heap.size w4 w') := fun W k hb hz => by
    have := active_b (HF.out.below hb) k
    rw [hz] at this
    exact this.mono fun e w' ⟨x, y⟩ => ⟨x, bl_tr hb y⟩
  have HFd : Hid (∀ W (k : Int), Below w4.heap.size w4 W → Calls Try.prog 19 #[.pointer (some ⟨f, 0, none⟩), .int .i64 k] W fun e w' => e = .returned (.int .u64 ((atL L k).d : Int)) ∧ Below w4.heap.size w4 w') := fun W k hb => (deadline_b (HF.out.below hb) k).mono fun e w' ⟨x, y⟩ => ⟨x, bl_tr hb y⟩
  have HSa : Hid (∀ W (k : Int), Below w4.heap.size w4 W → 0 < (atL (L.map (refS now)) k).l → Calls Try.prog 21 #[.pointer (some ⟨s, 0, none⟩), .int .i64 k] W fun e w' => e = .returned (.bool true) ∧ Below w4.heap.size w4 w') := fun W k hb hz => by
    have := active_b (HS.out.below hb) k
    rw [decide_eq_true hz] at this
    exact this.mono fun e w' ⟨x, y⟩ => ⟨x, bl_tr hb y⟩
  have HSr : Hid (∀ W, Below w4.heap.size w4 W → Calls Try.prog 16 #[.pointer (some ⟨s, 0, none⟩), .int .u64 (now : Int)] W fun e w' => ∃ a' c', e = .returned (.slice a' 0 c') ∧ Below w.heap.size w w') := fun W hb => by
    refine (refill_ok (HS.out.below hb) now hn).mono ?_
    rintro e w' ⟨lv', rfl, ho, hp, hf'⟩
    rw [due_gone hFin now] at ho
    obtain ⟨a', c', rfl⟩ := owns_slice ho
    exact ⟨a', c', rfl, (HQ.out _ hb).trans ((HS.out.below hb).low hs (hf'.wide (fun _ _ q => .inr q)))⟩
  have HC : Hid (0 < (dueN L now L.length).length → ∃ gx, ax = some ⟨gx, 0, none⟩ ∧ gx < w4.heap.size ∧ ∀ j, j < (dueN L now L.length).length → w4.cell? ⟨gx, j, none⟩ = some (.int .i64 ((xsN L now).getD j 0))) := fun hpos => by
    obtain ⟨g, c, e, _, h2, h3⟩ := HI.out.cells (fun q => by have := congrArg List.length q; simp at this; simp [this] at hpos)
    simp at e
    refine ⟨g, e.1, h2, fun j hj => ?_⟩
    exact h3 j (by simpa using hj)
  clear HI HS HF HL hFin
  generalize (dueN L now L.length).length = nx at *
  go_loopw [12] (fun i_ wr => ∃ j : Nat, j ≤ nx ∧ i_ = .int .i64 j ∧ Below w4.heap.size w4 wr) (fun i_ _ => nx - (intOf i_).toNat)
  case atStart => exact ⟨0, by omega, rfl, Below.refl _ _⟩
  case round =>
    obtain ⟨j, hj, rfl, hbel⟩ := hrel
    have HW := veil hbel
    by_cases hjl : j < nx
    · have hjl' : (j : Int) < (nx : Int) := by omega
      obtain ⟨gx, rfl, hgx, hcx⟩ := HC.out (by omega)
      obtain ⟨d, q1, q2, q3, q4, q5⟩ := HDA.out j hjl
      have y1 := ((hbel.cell (p := ⟨gx, j, none⟩) hgx).trans (hcx j hjl))
      rw [q1] at y1
      by_cases hj0 : 0 < j
      · obtain ⟨q, hjq⟩ : ∃ q, j = q + 1 := ⟨j - 1, by omega⟩
        have gA : (j : Int) - 1 = (q : Int) := by omega
        have gB : (0 : Int) ≤ (q : Int) := by omega
        have gW : IntKind.i64.wrap ((j : Int) - 1) = (q : Int) := by rw [gA]; unfold IntKind.wrap; simp [IntKind.bits, IntKind.signed]; omega
        have gX : IntKind.i64.wrap (q : Int) = (q : Int) := by rw [← gA]; exact gW.trans gA.symm
        clear gA
        obtain ⟨d', p1, _⟩ := HDA.out q (by omega)
        have hdd := q5 (q) d' (by omega) p1
        have HW0 : Hid (Below w4.heap.size w4 wr.drew) := hbel.drew
        have HKP : Hid (∀ W, Below w4.heap.size w4 W → W.cell? ⟨gx, j, none⟩ = some (.int .i64 (d : Int))) := fun W hb => (hb.cell (p := ⟨gx, j, none⟩) hgx).trans (by rw [hcx j hjl, q1])
        have g3 : decide ((now : Int) < ((atL L (d : Int)).d : Int)) = false := decide_eq_false (by omega)
        have g3n : decide (now < (atL L (d : Int)).d) = false := decide_eq_false (by omega)
        have HKQ : Hid (∀ W, Below w4.heap.size w4 W → W.cell? ⟨gx, j, none⟩ = some (.int .i64 (d : Int)) ∧ W.cell? ⟨gx, q, none⟩ = some (.int .i64 (d' : Int))) := fun W hb => ⟨HKP.out W hb, (hb.cell (p := ⟨gx, q, none⟩) hgx).trans (by rw [hcx (q) (by omega), p1])⟩
        have hk4 := HKQ.out _ HW0.out
        have g4 : decide ((0 : Int) < (j : Int)) = true := decide_eq_true (by omega)
        have g4n : decide (0 < j) = true := decide_eq_true hj0
        have g5 : decide ((d : Int) ≤ (d' : Int)) = false := decide_eq_false (by omega)
        have g5n : decide (d ≤ d') = false := decide_eq_false (by omega)
        have g6 : (q : Int) < (nx : Int) := by omega
        have g7 : ¬ (q : Int) < 0 := by omega
        have g8 : q < nx := by omega
        have HJQ := veil hjq
        clear hjq hbel HDA hcx HC y1 q1 q5 p1 HSr HKP
        go_wp2
        go_region_held3 (fun w' => w'.cell? ⟨gx, j, none⟩ = some (.int .i64 (d : Int)) ∧ w'.cell? ⟨gx, q, none⟩ = some (.int .i64 (d' : Int)))
          (first
            | exact hk4
            | exact HKQ.out _ HW5.out
            | exact HKQ.out _ HW6.out
            | exact HKQ.out _ HW7.out
            | go_keep)
          (first
            | (go_at_call 21; refine (HSa.out _ (d : Int) HW6.out q4).mono ?_; rintro e w7 ⟨rfl, hb7⟩; have HW7 := veil hb7; clear hb7)
            | (go_at_call 21; refine (HFa.out _ (d : Int) HW0.out q2).mono ?_; rintro e w5 ⟨rfl, hb5⟩; have HW5 := veil hb5; clear hb5)
            | (go_at_call 19; refine (HFd.out _ (d : Int) HW5.out).mono ?_; rintro e w6 ⟨rfl, hb6⟩; have HW6 := veil hb6; clear hb6))
        go_wp2
        go_roundw
        case rel => exact ⟨j + 1, by omega, by go_num, HW7.out⟩
        case measure => simp [intOf]; omega
      · have HW0 : Hid (Below w4.heap.size w4 wr.drew) := hbel.drew
        have HKP : Hid (∀ W, Below w4.heap.size w4 W → W.cell? ⟨gx, j, none⟩ = some (.int .i64 (d : Int))) := fun W hb => (hb.cell (p := ⟨gx, j, none⟩) hgx).trans (by rw [hcx j hjl, q1])
        have g3 : decide ((now : Int) < ((atL L (d : Int)).d : Int)) = false := decide_eq_false (by omega)
        have g3n : decide (now < (atL L (d : Int)).d) = false := decide_eq_false (by omega)
        have hk4 := HKP.out _ HW0.out
        have g4 : decide ((0 : Int) < (j : Int)) = false := decide_eq_false (by omega)
        have g4n : decide (0 < j) = false := decide_eq_false hj0
        clear hbel HDA hcx HC y1 q1 q5 HSr
        go_wp2
        refine wp_region_held_drew (S := (fun w' => w'.cell? ⟨gx, j, none⟩ = some (.int .i64 (d : Int)))) (by kernel_rfl) ?_ (fun hHeld => ?_)
        · exact hk4
        refine wpAnyH_take (i := 0) (v := ?_) rfl (by kernel_rfl) (by kernel_rfl) (by kernel_rfl) (fun _ _ _ h => h) (Or.inl ⟨by rfl, ?v0⟩) (by assumption) ?_
        case v0 => (intro w hSw; (try dsimp only at hSw); go_simp; try with_reducible rfl)
        try simp only [Act.put, List.setIfInBounds_toArray, List.set_cons_zero, List.set_cons_succ, List.getElem_toArray, List.getElem_cons_zero]
        refine wpAnyH_take (i := 1) (v := ?_) rfl (by kernel_rfl) (by kernel_rfl) (by kernel_rfl) (fun _ _ _ h => h) (Or.inl ⟨by rfl, ?v1⟩) (by assumption) ?_
        case v1 => (intro w hSw; (try dsimp only at hSw); go_simp; try with_reducible rfl)
        try simp only [Act.put, List.setIfInBounds_toArray, List.set_cons_zero, List.set_cons_succ, List.getElem_toArray, List.getElem_cons_succ, List.getElem_cons_zero]
        refine wpAnyH_take (i := 2) (v := ?_) rfl (by kernel_rfl) (by kernel_rfl) (by kernel_rfl) (fun _ _ _ h => h) (Or.inl ⟨by rfl, ?v2⟩) (by assumption) ?_
        case v2 => (intro w hSw; (try dsimp only at hSw); go_simp; try with_reducible rfl)
        try simp only [Act.put, List.setIfInBounds_toArray, List.set_cons_zero, List.set_cons_succ, List.getElem_toArray, List.getElem_cons_succ, List.getElem_cons_zero]
        refine wpAnyH_take (i := 3) (v := ?_) rfl (by kernel_rfl) (by kernel_rfl) (by kernel_rfl) (fun _ _ _ h => h) (Or.inl ⟨by rfl, ?v3⟩) (by assumption) ?_
        case v3 => (intro w hSw; (try dsimp only at hSw); go_simp; try with_reducible rfl)
        try simp only [Act.put, List.setIfInBounds_toArray, List.set_cons_zero, List.set_cons_succ, List.getElem_toArray, List.getElem_cons_succ, List.getElem_cons_zero]
        refine wpAnyH_take (i := 4) (v := ?_) rfl (by kernel_rfl) (by kernel_rfl) (by kernel_rfl) (fun _ _ _ h => h) (Or.inl ⟨by rfl, ?v4⟩) (by assumption) ?_
        case v4 => (intro w hSw; (try dsimp only at hSw); go_simp; try with_reducible rfl)
        try simp only [Act.put, List.setIfInBounds_toArray, List.set_cons_zero, List.set_cons_succ, List.getElem_toArray, List.getElem_cons_succ, List.getElem_cons_zero]
        refine wpAnyH_ready (rs := [5]) (by kernel_rfl) (by simp) ?_
        refine AllReadyH.cons rfl (fun K hK => ?_) AllReadyH.nil
        go_simp
        go_at_call 21
        refine (HFa.out _ (d : Int) HW0.out q2).mono ?_
        rintro e w5 ⟨rfl, hb5⟩
        have HW5 := veil hb5
        have hk5 : w5.cell? ⟨gx, j, none⟩ = some (.int .i64 (d : Int)) := HKP.out _ hb5
        clear hb5
        refine hK.out _ _ ?_ (fun hHeld => ?_)
        · exact hk5
        clear hK K
        try simp only [Act.put, List.setIfInBounds_toArray, List.set_cons_zero, List.set_cons_succ, List.getElem_toArray, List.getElem_cons_succ, List.getElem_cons_zero]
        refine wpAnyH_take (i := 6) (v := ?_) rfl (by kernel_rfl) (by kernel_rfl) (by kernel_rfl) (fun _ _ _ h => h) (Or.inl ⟨by rfl, ?v6⟩) (by assumption) ?_
        case v6 => (intro w hSw; (try dsimp only at hSw); go_simp; try with_reducible rfl)
        try simp only [Act.put, List.setIfInBounds_toArray, List.set_cons_zero, List.set_cons_succ, List.getElem_toArray, List.getElem_cons_succ, List.getElem_cons_zero]
        refine wpAnyH_take (i := 7) (v := ?_) rfl (by kernel_rfl) (by kernel_rfl) (by kernel_rfl) (fun _ _ _ h => h) (Or.inl ⟨by rfl, ?v7⟩) (by assumption) ?_
        case v7 => (intro w hSw; (try dsimp only at hSw); go_simp; try with_reducible rfl)
        try simp only [Act.put, List.setIfInBounds_toArray, List.set_cons_zero, List.set_cons_succ, List.getElem_toArray, List.getElem_cons_succ, List.getElem_cons_zero]
        refine wpAnyH_take (i := 8) (v := ?_) rfl (by kernel_rfl) (by kernel_rfl) (by kernel_rfl) (fun _ _ _ h => h) (Or.inl ⟨by rfl, ?v8⟩) (by assumption) ?_
        case v8 => (intro w hSw; (try dsimp only at hSw); go_simp; try with_reducible rfl)
        try simp only [Act.put, List.setIfInBounds_toArray, List.set_cons_zero, List.set_cons_succ, List.getElem_toArray, List.getElem_cons_succ, List.getElem_cons_zero]
        refine wpAnyH_take (i := 9) (v := ?_) rfl (by kernel_rfl) (by kernel_rfl) (by kernel_rfl) (fun _ _ _ h => h) (Or.inl ⟨by rfl, ?v9⟩) (by assumption) ?_
        case v9 => (intro w hSw; (try dsimp only at hSw); go_simp; try with_reducible rfl)
        try simp only [Act.put, List.setIfInBounds_toArray, List.set_cons_zero, List.set_cons_succ, List.getElem_toArray, List.getElem_cons_succ, List.getElem_cons_zero]
        refine wpAnyH_take (i := 10) (v := ?_) rfl (by kernel_rfl) (by kernel_rfl) (by kernel_rfl) (fun _ _ _ h => h) (Or.inl ⟨by rfl, ?v10⟩) (by assumption) ?_
        case v10 => (intro w hSw; (try dsimp only at hSw); go_simp; try with_reducible rfl)
        try simp only [Act.put, List.setIfInBounds_toArray, List.set_cons_zero, List.set_cons_succ, List.getElem_toArray, List.getElem_cons_succ, List.getElem_cons_zero]
        refine wpAnyH_take (i := 11) (v := ?_) rfl (by kernel_rfl) (by kernel_rfl) (by kernel_rfl) (fun _ _ _ h => h) (Or.inl ⟨by rfl, ?v11⟩) (by assumption) ?_
        case v11 => (intro w hSw; (try dsimp only at hSw); go_simp; try with_reducible rfl)
        try simp only [Act.put, List.setIfInBounds_toArray, List.set_cons_zero, List.set_cons_succ, List.getElem_toArray, List.getElem_cons_succ, List.getElem_cons_zero]
        refine wpAnyH_take (i := 13) (v := ?_) rfl (by kernel_rfl) (by kernel_rfl) (by kernel_rfl) (fun _ _ _ h => h) (Or.inl ⟨by rfl, ?v13⟩) (by assumption) ?_
        case v13 => (intro w hSw; (try dsimp only at hSw); go_simp; try with_reducible rfl)
        try simp only [Act.put, List.setIfInBounds_toArray, List.set_cons_zero, List.set_cons_succ, List.getElem_toArray, List.getElem_cons_succ, List.getElem_cons_zero]
        refine wpAnyH_ready (rs := [12]) (by kernel_rfl) (by simp) ?_
        refine AllReadyH.cons rfl (fun K hK => ?_) AllReadyH.nil
        go_simp
        go_at_call 19
        refine (HFd.out _ (d : Int) HW5.out).mono ?_
        rintro e w6 ⟨rfl, hb6⟩
        have HW6 := veil hb6
        have hk6 : w6.cell? ⟨gx, j, none⟩ = some (.int .i64 (d : Int)) := HKP.out _ hb6
        clear hb6
        refine hK.out _ _ ?_ (fun hHeld => ?_)
        · exact hk6
        clear hK K
        try simp only [Act.put, List.setIfInBounds_toArray, List.set_cons_zero, List.set_cons_succ, List.getElem_toArray, List.getElem_cons_succ, List.getElem_cons_zero]
        refine wpAnyH_take (i := 14) (v := ?_) rfl (by kernel_rfl) (by kernel_rfl) (by kernel_rfl) (fun _ _ _ h => h) (Or.inl ⟨by rfl, ?v14⟩) (by assumption) ?_
        case v14 => (intro w hSw; (try dsimp only at hSw); go_simp; try with_reducible rfl)
        try simp only [Act.put, List.setIfInBounds_toArray, List.set_cons_zero, List.set_cons_succ, List.getElem_toArray, List.getElem_cons_succ, List.getElem_cons_zero]
        refine wpAnyH_take (i := 15) (v := ?_) rfl (by kernel_rfl) (by kernel_rfl) (by kernel_rfl) (fun _ _ _ h => h) (Or.inl ⟨by rfl, ?v15⟩) (by assumption) ?_
        case v15 => (intro w hSw; (try dsimp only at hSw); go_simp; try with_reducible rfl)
        try simp only [Act.put, List.setIfInBounds_toArray, List.set_cons_zero, List.set_cons_succ, List.getElem_toArray, List.getElem_cons_succ, List.getElem_cons_zero]
        refine wpAnyH_take (i := 16) (v := ?_) rfl (by kernel_rfl) (by kernel_rfl) (by kernel_rfl) (fun _ _ _ h => h) (Or.inl ⟨by rfl, ?v16⟩) (by assumption) ?_
        case v16 => (intro w hSw; (try dsimp only at hSw); go_simp; try with_reducible rfl)
        try simp only [Act.put, List.setIfInBounds_toArray, List.set_cons_zero, List.set_cons_succ, List.getElem_toArray, List.getElem_cons_succ, List.getElem_cons_zero]
        refine wpAnyH_take (i := 17) (v := ?_) rfl (by kernel_rfl) (by kernel_rfl) (by kernel_rfl) (fun _ _ _ h => h) (Or.inl ⟨by rfl, ?v17⟩) (by assumption) ?_
        case v17 => (intro w hSw; (try dsimp only at hSw); go_simp; try with_reducible rfl)
        try simp only [Act.put, List.setIfInBounds_toArray, List.set_cons_zero, List.set_cons_succ, List.getElem_toArray, List.getElem_cons_succ, List.getElem_cons_zero]
        refine wpAnyH_take (i := 18) (v := ?_) rfl (by kernel_rfl) (by kernel_rfl) (by kernel_rfl) (fun _ _ _ h => h) (Or.inl ⟨by rfl, ?v18⟩) (by assumption) ?_
        case v18 => (intro w hSw; (try dsimp only at hSw); go_simp; try with_reducible rfl)
        try simp only [Act.put, List.setIfInBounds_toArray, List.set_cons_zero, List.set_cons_succ, List.getElem_toArray, List.getElem_cons_succ, List.getElem_cons_zero]
        refine wpAnyH_take (i := 19) (v := ?_) rfl (by kernel_rfl) (by kernel_rfl) (by kernel_rfl) (fun _ _ _ h => h) (Or.inl ⟨by rfl, ?v19⟩) (by assumption) ?_
        case v19 => (intro w hSw; (try dsimp only at hSw); go_simp; try with_reducible rfl)
        try simp only [Act.put, List.setIfInBounds_toArray, List.set_cons_zero, List.set_cons_succ, List.getElem_toArray, List.getElem_cons_succ, List.getElem_cons_zero]
        refine wpAnyH_take (i := 20) (v := ?_) rfl (by kernel_rfl) (by kernel_rfl) (by kernel_rfl) (fun _ _ _ h => h) (Or.inl ⟨by rfl, ?v20⟩) (by assumption) ?_
        case v20 => (intro w hSw; (try dsimp only at hSw); go_simp; try with_reducible rfl)
        try simp only [Act.put, List.setIfInBounds_toArray, List.set_cons_zero, List.set_cons_succ, List.getElem_toArray, List.getElem_cons_succ, List.getElem_cons_zero]
        refine wpAnyH_take (i := 21) (v := ?_) rfl (by kernel_rfl) (by kernel_rfl) (by kernel_rfl) (fun _ _ _ h => h) (Or.inl ⟨by rfl, ?v21⟩) (by assumption) ?_
        case v21 => (intro w hSw; (try dsimp only at hSw); go_simp; try with_reducible rfl)
        try simp only [Act.put, List.setIfInBounds_toArray, List.set_cons_zero, List.set_cons_succ, List.getElem_toArray, List.getElem_cons_succ, List.getElem_cons_zero]
        refine wpAnyH_ready (rs := [22]) (by kernel_rfl) (by simp) ?_
        refine AllReadyH.cons rfl (fun K hK => ?_) AllReadyH.nil
        go_simp
        go_at_call 21
        refine (HSa.out _ (d : Int) HW6.out q4).mono ?_
        rintro e w7 ⟨rfl, hb7⟩
        have HW7 := veil hb7
        have hk7 : w7.cell? ⟨gx, j, none⟩ = some (.int .i64 (d : Int)) := HKP.out _ hb7
        clear hb7
        refine hK.out _ _ ?_ (fun hHeld => ?_)
        · exact hk7
        clear hK K
        try simp only [Act.put, List.setIfInBounds_toArray, List.set_cons_zero, List.set_cons_succ, List.getElem_toArray, List.getElem_cons_succ, List.getElem_cons_zero]
        refine wpAnyH_take (i := 23) (v := ?_) rfl (by kernel_rfl) (by kernel_rfl) (by kernel_rfl) (fun _ _ _ h => h) (Or.inl ⟨by rfl, ?v23⟩) (by assumption) ?_
        case v23 => (intro w hSw; (try dsimp only at hSw); go_simp; try with_reducible rfl)
        try simp only [Act.put, List.setIfInBounds_toArray, List.set_cons_zero, List.set_cons_succ, List.getElem_toArray, List.getElem_cons_succ, List.getElem_cons_zero]
        refine wpAnyH_take (i := 24) (v := ?_) rfl (by kernel_rfl) (by kernel_rfl) (by kernel_rfl) (fun _ _ _ h => h) (Or.inl ⟨by rfl, ?v24⟩) (by assumption) ?_
        case v24 => (intro w hSw; (try dsimp only at hSw); go_simp; try with_reducible rfl)
        try simp only [Act.put, List.setIfInBounds_toArray, List.set_cons_zero, List.set_cons_succ, List.getElem_toArray, List.getElem_cons_succ, List.getElem_cons_zero]
        refine wpAnyH_take (i := 25) (v := ?_) rfl (by kernel_rfl) (by kernel_rfl) (by kernel_rfl) (fun _ _ _ h => h) (Or.inl ⟨by rfl, ?v25⟩) (by assumption) ?_
        case v25 => (intro w hSw; (try dsimp only at hSw); go_simp; try with_reducible rfl)
        try simp only [Act.put, List.setIfInBounds_toArray, List.set_cons_zero, List.set_cons_succ, List.getElem_toArray, List.getElem_cons_succ, List.getElem_cons_zero]
        refine wpAnyH_take (i := 26) (v := ?_) rfl (by kernel_rfl) (by kernel_rfl) (by kernel_rfl) (fun _ _ _ h => h) (Or.inl ⟨by rfl, ?v26⟩) (by assumption) ?_
        case v26 => (intro w hSw; (try dsimp only at hSw); go_simp; try with_reducible rfl)
        try simp only [Act.put, List.setIfInBounds_toArray, List.set_cons_zero, List.set_cons_succ, List.getElem_toArray, List.getElem_cons_succ, List.getElem_cons_zero]
        refine wpAnyH_take (i := 27) (v := ?_) rfl (by kernel_rfl) (by kernel_rfl) (by kernel_rfl) (fun _ _ _ h => h) (Or.inl ⟨by rfl, ?v27⟩) (by assumption) ?_
        case v27 => (intro w hSw; (try dsimp only at hSw); go_simp; try with_reducible rfl)
        try simp only [Act.put, List.setIfInBounds_toArray, List.set_cons_zero, List.set_cons_succ, List.getElem_toArray, List.getElem_cons_succ, List.getElem_cons_zero]
        refine wpAnyH_take (i := 28) (v := ?_) rfl (by kernel_rfl) (by kernel_rfl) (by kernel_rfl) (fun _ _ _ h => h) (Or.inl ⟨by rfl, ?v28⟩) (by assumption) ?_
        case v28 => (intro w hSw; (try dsimp only at hSw); go_simp; try with_reducible rfl)
        try simp only [Act.put, List.setIfInBounds_toArray, List.set_cons_zero, List.set_cons_succ, List.getElem_toArray, List.getElem_cons_succ, List.getElem_cons_zero]
        refine wpAnyH_take (i := 29) (v := undef) rfl (by kernel_rfl) (by kernel_rfl) (by kernel_rfl) (fun _ _ _ h => h) (Or.inr ⟨by rfl, rfl⟩) (by assumption) ?_
        try simp only [Act.put, List.setIfInBounds_toArray, List.set_cons_zero, List.set_cons_succ, List.getElem_toArray, List.getElem_cons_succ, List.getElem_cons_zero]
        refine wpAnyH_take (i := 30) (v := undef) rfl (by kernel_rfl) (by kernel_rfl) (by kernel_rfl) (fun _ _ _ h => h) (Or.inr ⟨by rfl, rfl⟩) (by assumption) ?_
        try simp only [Act.put, List.setIfInBounds_toArray, List.set_cons_zero, List.set_cons_succ, List.getElem_toArray, List.getElem_cons_succ, List.getElem_cons_zero]
        refine wpAnyH_take (i := 31) (v := undef) rfl (by kernel_rfl) (by kernel_rfl) (by kernel_rfl) (fun _ _ _ h => h) (Or.inr ⟨by rfl, rfl⟩) (by assumption) ?_
        try simp only [Act.put, List.setIfInBounds_toArray, List.set_cons_zero, List.set_cons_succ, List.getElem_toArray, List.getElem_cons_succ, List.getElem_cons_zero]
        refine wpAnyH_take (i := 32) (v := undef) rfl (by kernel_rfl) (by kernel_rfl) (by kernel_rfl) (fun _ _ _ h => h) (Or.inr ⟨by rfl, rfl⟩) (by assumption) ?_
        try simp only [Act.put, List.setIfInBounds_toArray, List.set_cons_zero, List.set_cons_succ, List.getElem_toArray, List.getElem_cons_succ, List.getElem_cons_zero]
        refine wpAnyH_take (i := 33) (v := undef) rfl (by kernel_rfl) (by kernel_rfl) (by kernel_rfl) (fun _ _ _ h => h) (Or.inr ⟨by rfl, rfl⟩) (by assumption) ?_
        try simp only [Act.put, List.setIfInBounds_toArray, List.set_cons_zero, List.set_cons_succ, List.getElem_toArray, List.getElem_cons_succ, List.getElem_cons_zero]
        refine wpAnyH_take (i := 34) (v := undef) rfl (by kernel_rfl) (by kernel_rfl) (by kernel_rfl) (fun _ _ _ h => h) (Or.inr ⟨by rfl, rfl⟩) (by assumption) ?_
        try simp only [Act.put, List.setIfInBounds_toArray, List.set_cons_zero, List.set_cons_succ, List.getElem_toArray, List.getElem_cons_succ, List.getElem_cons_zero]
        refine wpAnyH_take (i := 35) (v := undef) rfl (by kernel_rfl) (by kernel_rfl) (by kernel_rfl) (fun _ _ _ h => h) (Or.inr ⟨by rfl, rfl⟩) (by assumption) ?_
        try simp only [Act.put, List.setIfInBounds_toArray, List.set_cons_zero, List.set_cons_succ, List.getElem_toArray, List.getElem_cons_succ, List.getElem_cons_zero]
        refine wpAnyH_take (i := 36) (v := undef) rfl (by kernel_rfl) (by kernel_rfl) (by kernel_rfl) (fun _ _ _ h => h) (Or.inr ⟨by rfl, rfl⟩) (by assumption) ?_
        try simp only [Act.put, List.setIfInBounds_toArray, List.set_cons_zero, List.set_cons_succ, List.getElem_toArray, List.getElem_cons_succ, List.getElem_cons_zero]
        refine wpAnyH_take (i := 37) (v := undef) rfl (by kernel_rfl) (by kernel_rfl) (by kernel_rfl) (fun _ _ _ h => h) (Or.inr ⟨by rfl, rfl⟩) (by assumption) ?_
        try simp only [Act.put, List.setIfInBounds_toArray, List.set_cons_zero, List.set_cons_succ, List.getElem_toArray, List.getElem_cons_succ, List.getElem_cons_zero]
        refine wpAnyH_take (i := 38) (v := undef) rfl (by kernel_rfl) (by kernel_rfl) (by kernel_rfl) (fun _ _ _ h => h) (Or.inr ⟨by rfl, rfl⟩) (by assumption) ?_
        try simp only [Act.put, List.setIfInBounds_toArray, List.set_cons_zero, List.set_cons_succ, List.getElem_toArray, List.getElem_cons_succ, List.getElem_cons_zero]
        refine wpAnyH_take (i := 39) (v := ?_) rfl (by kernel_rfl) (by kernel_rfl) (by kernel_rfl) (fun _ _ _ h => h) (Or.inl ⟨by rfl, ?v39⟩) (by assumption) ?_
        case v39 => (intro w hSw; (try dsimp only at hSw); go_simp; try with_reducible rfl)
        try simp only [Act.put, List.setIfInBounds_toArray, List.set_cons_zero, List.set_cons_succ, List.getElem_toArray, List.getElem_cons_succ, List.getElem_cons_zero]
        refine wpAnyH_take (i := 40) (v := ?_) rfl (by kernel_rfl) (by kernel_rfl) (by kernel_rfl) (fun _ _ _ h => h) (Or.inl ⟨by rfl, ?v40⟩) (by assumption) ?_
        case v40 => (intro w hSw; (try dsimp only at hSw); go_simp; try with_reducible rfl)
        try simp only [Act.put, List.setIfInBounds_toArray, List.set_cons_zero, List.set_cons_succ, List.getElem_toArray, List.getElem_cons_succ, List.getElem_cons_zero]
        refine wpAnyH_done (by kernel_rfl) ?_ _
        skip
        go_wp2
        go_roundw
        case rel => exact ⟨j + 1, by omega, by go_num, HW7.out⟩
        case measure => simp [intOf]; omega
    · have hjl' : ¬ (j : Int) < (nx : Int) := by omega
      clear hbel HC HDA
      go_wp2_with (first
        | (go_at_call 16; refine (HSr.out _ HW.out).mono ?_; rintro e w5 ⟨a', c', rfl, hb5⟩; have HE := veil hb5; clear hb5))
      go_ret
      exact ⟨by simp, HE.out⟩
end Go.Proofs.Ytblickncecpajaa
