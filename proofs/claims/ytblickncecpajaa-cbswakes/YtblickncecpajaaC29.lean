/-
  The walk of CbsWakes.
-/
import Derived.Test.YtblickncecpajaaC28
namespace Go.Proofs.Ytblickncecpajaa
open Go.RowKit Go.Lib
set_option linter.unusedVariables false
attribute [local go_sem ↓] Go.wp_at_zero Go.wp_at_succ
theorem Bx.below {w w' : World} {nb : Nat} {x1 : Int} {b p n : Nat} (h : Bx w nb x1 b p n) (hb : Below w.heap.size w w') : Bx w' nb x1 b p n := h.fr (Fr.of_below' (S := fun _ => False) hb) id
theorem Pep.apart {w : World} {base s P : Nat} {v : Value} {L : List Srv} (h : Pep w base s P v L) (hs : base ≤ s) {k : Nat} (hk : k < base) : ¬ (k = s ∨ some k = v.ownBlock) := fun q => by
  rcases q with q | q
  · omega
  · have := (ownsRow_blk h.own q.symm).1; omega
theorem wake_facts {L : List Srv} {P : Nat} (hf : Fine P L) (i : Int) (n : Nat) (hn : n < 18446744073709551616) :
    (wakC L i = 2 ∧ ¬ (0 ≤ i ∧ i < (L.length : Int)) ∧ (wakL L i n).length = L.length) ∨
    (wakC L i = 0 ∧ (0 ≤ i ∧ i < (L.length : Int)) ∧ (wakL L i n).length = L.length ∧
      ((n < (atL L i).d ∧ wakL L i n = L) ∨ ((atL L i).d ≤ n ∧ 0 < (atL (wakL L i n) i).l ∧ (atL L i).l ≤ (atL (wakL L i n) i).l ∧ (n < (atL (wakL L i n) i).d ∨ n = 18446744073709551615)))) := by
  rcases inL_cases L i with ⟨h0, h1⟩ | ⟨k, x, rfl, hx⟩
  · refine .inl ⟨?_, h1, ?_⟩
    · simp [wakC, h0]
    · simp [wakL, h0]
  · obtain ⟨e1, e2⟩ := atL_some hx
    have hk : k < L.length := (List.getElem?_eq_some_iff.1 hx).1
    have hok := hf.all x (List.mem_of_getElem? hx)
    refine .inr ⟨by simp [wakC, e2], ⟨by omega, by omega⟩, ?_, ?_⟩
    · unfold wakL; split <;> simp
    · rw [e1]
      by_cases hd : x.d ≤ n
      · right
        have e3 : wakL L (k : Int) n = L.set k (fillS x n) := by unfold wakL; rw [e1, e2, if_pos ⟨rfl, hd⟩]; simp
        have e4 : atL (wakL L (k : Int) n) (k : Int) = fillS x n := (atL_some (by rw [e3]; simp [hk])).1
        rw [e4]
        obtain ⟨p1, p2, p3, p4, p5⟩ := hok
        refine ⟨hd, ?_, ?_, ?_⟩
        · simp [fillS]; omega
        · simpa [fillS] using p4
        · simp only [fillS, addN]; split <;> omega
      · left
        refine ⟨by omega, ?_⟩
        unfold wakL; rw [e1, e2, if_neg (fun q => hd q.2)]
set_option maxHeartbeats 4000000 in
theorem wakes_walk (m : Nat) (hm : m < 256) (a : Option Addr) (len cap : Nat) (D : Nat → Dd) (x0 x1 : Int) (b p n : Nat) (hn : n < 18446744073709551616) (w : World) (hlen : len < 9223372036854775808) (hd : Dds w a len D) :
    Calls Try.prog 5 #[.int .u8 m, .slice a len cap, .agg #[.int .i64 x0, .int .i64 x1, .int .u64 (b : Int), .int .u64 (p : Int), .int .u64 (n : Int)]] w fun e w' => e = .returned (.bool true) ∧ Below w.heap.size w w' := by
  have hb1 : Below w.heap.size w (w.alloc (.cells #[.int .i64 x0, .int .i64 x1, .int .u64 (b : Int), .int .u64 (p : Int), .int .u64 (n : Int)] 38)) := (Below.refl _ _).alloc (Nat.le_refl _) _
  have HB1 := veil hb1
  have HX := veil (Bx.new w x0 x1 b p n 38)
  have HP := veil (play_ok (w.alloc (.cells #[.int .i64 x0, .int .i64 x1, .int .u64 (b : Int), .int .u64 (p : Int), .int .u64 (n : Int)] 38)) m hm a len cap hlen D (hd.below hb1))
  have HSZ : Hid (w.heap.size < (w.alloc (.cells #[.int .i64 x0, .int .i64 x1, .int .u64 (b : Int), .int .u64 (p : Int), .int .u64 (n : Int)] 38)).heap.size) := by show _ < _; simp
  clear hd hb1
  go_enter Try.func5, Try.ntmps5
  go_wp2_with (first
    | (go_at_call 10; refine (HP.out).mono ?_; rintro e w1 ⟨s, r, P, v, u, L, rfl, hB, hL⟩; have HB := veil hB; have HL := veil (bl_tr HB1.out hL); have HX1 := veil (HX.out.below hL); clear hB hL)
    | (go_at_call 11; refine (live_ok _).mono ?_; rintro e w2 ⟨rfl, hb2⟩; have HP2 := veil (HB.out.below hb2).p; have HL2 := veil (bl_tr HL.out hb2); have HX2 := veil (HX1.out.below hb2); have NS := veil (HP2.out.apart HB.out.hs HSZ.out); clear hb2))
  have HF := veil HP2.out.f
  have hs := HB.out.hs
  generalize (w.alloc (.cells #[.int .i64 x0, .int .i64 x1, .int .u64 (b : Int), .int .u64 (p : Int), .int .u64 (n : Int)] 38)).heap.size = base at *
  clear HP HB1 HX HB HL HX1
  generalize hnb : w.heap.size = nb at *
  go_region_held3 (fun w' => w'.cell? ⟨nb, 1, none⟩ = some (.int .i64 x1) ∧ w'.cell? ⟨nb, 2, none⟩ = some (.int .u64 (b : Int)) ∧ w'.cell? ⟨nb, 3, none⟩ = some (.int .u64 (p : Int)) ∧ w'.cell? ⟨nb, 4, none⟩ = some (.int .u64 (n : Int)))
    (first
      | exact HX2.out
      | exact HX3.out
      | exact HX4.out
      | go_keep)
    (first
      | (go_at_call 18; refine (left_ok (by exact HP2.out.like rfl) x1).mono ?_; rintro e w3 ⟨rfl, c3, hw⟩; have hb : Below w2.heap.size w2 w3 := (((Below.refl _ w2).drew).trans (below_a hw)); clear hw; have HP3 := veil (HP2.out.below hb); have HX3 := veil (HX2.out.below hb); have HL3 := veil (hb.trans (Below.refl _ _)); clear hb)
      | (go_at_call 19; refine (deadline_ok HP3.out x1).mono ?_; rintro e w4 ⟨rfl, c4, hw⟩; have hb := below_a hw; clear hw; have HP4 := veil (HP3.out.below hb); have HX4 := veil (HX3.out.below hb); have HL4 := veil (bl_tr HL3.out hb); clear hb))
  have HLW : Hid (∀ w5, Fr (fun k => k = s ∨ some k = v.ownBlock) w4 w5 → Below nb w w5) := fun w5 hf => by
    have q1 := HL2.out.trans (HL4.out.mono (by have := HL2.out.size; omega))
    exact q1.trans ((HP4.out.low hs hf).mono (by have := HSZ.out; omega))
  have b1 := HX4.out.1
  have b4 := HX4.out.2.2.2
  rcases wake_facts HF.out x1 n hn with ⟨k1, k2, k3⟩ | ⟨k1, k2, k3, k4⟩
  · by_cases h0 : x1 < 0
    · go_wp2_with (first | (go_at_call 15; refine (wake_all HP4.out x1 n hn).mono ?_; rintro e w5 ⟨he, ⟨v5, hp5⟩, hf5⟩; rw [k1] at he; replace he : e = .returned (.int .i64 2) := he; subst he; have HP5 := veil hp5; have hx5 := HX4.out.fr hf5 NS.out; have HX5 := veil hx5; have HL5 := veil (HLW.out _ hf5); have d1 := hx5.1; have d4 := hx5.2.2.2; clear hx5 hp5 hf5))
      go_quiet (fail)
      go_wp2
      go_ret
      exact ⟨rfl, by rw [hnb]; exact below_drewN HL5.out _⟩
    · have h1 : (L.length : Int) ≤ x1 := by omega
      have h0b : decide (x1 < 0) = false := by simpa using h0
      have k3' : ((wakL L x1 n).length : Int) ≤ x1 := by rw [k3]; exact h1
      go_wp2_with (first | (go_at_call 15; refine (wake_all HP4.out x1 n hn).mono ?_; rintro e w5 ⟨he, ⟨v5, hp5⟩, hf5⟩; rw [k1] at he; replace he : e = .returned (.int .i64 2) := he; subst he; have HP5 := veil hp5; have hx5 := HX4.out.fr hf5 NS.out; have HX5 := veil hx5; have HL5 := veil (HLW.out _ hf5); have d1 := hx5.1; have d4 := hx5.2.2.2; clear hx5 hp5 hf5))
      go_region_held3 (fun w' => w'.cell? ⟨nb, 1, none⟩ = some (.int .i64 x1) ∧ w'.cell? ⟨nb, 2, none⟩ = some (.int .u64 (b : Int)) ∧ w'.cell? ⟨nb, 3, none⟩ = some (.int .u64 (p : Int)) ∧ w'.cell? ⟨nb, 4, none⟩ = some (.int .u64 (n : Int)))
        (first
          | exact HX5.out
          | exact HX6.out
          | go_keep)
        (first | (go_at_call 20; refine (len_ok (by exact HP5.out.like rfl)).mono ?_; rintro e w6 ⟨rfl, hw⟩; have hb6 : Below w5.heap.size w5 w6 := (by rw [hw]; exact (Below.refl _ _).drew); clear hw; have HP6 := veil (HP5.out.below hb6); have HX6 := veil (HX5.out.below hb6); have HL6 := veil (HL5.out.trans (hb6.mono (by have := HL5.out.size; omega))); clear hb6))
      go_wp2
      go_ret
      exact ⟨rfl, by rw [hnb]; exact HL6.out⟩
  · have h0 : ¬ x1 < 0 := by omega
    have h0b : decide (x1 < 0) = false := by simpa using h0
    have k3' : ¬ ((wakL L x1 n).length : Int) ≤ x1 := by rw [k3]; omega
    go_wp2_with (first | (go_at_call 15; refine (wake_all HP4.out x1 n hn).mono ?_; rintro e w5 ⟨he, ⟨v5, hp5⟩, hf5⟩; rw [k1] at he; replace he : e = .returned (.int .i64 0) := he; subst he; have HP5 := veil hp5; have hx5 := HX4.out.fr hf5 NS.out; have HX5 := veil hx5; have HL5 := veil (HLW.out _ hf5); have d1 := hx5.1; have d4 := hx5.2.2.2; clear hx5 hp5 hf5))
    go_region_held3 (fun w' => w'.cell? ⟨nb, 1, none⟩ = some (.int .i64 x1) ∧ w'.cell? ⟨nb, 2, none⟩ = some (.int .u64 (b : Int)) ∧ w'.cell? ⟨nb, 3, none⟩ = some (.int .u64 (p : Int)) ∧ w'.cell? ⟨nb, 4, none⟩ = some (.int .u64 (n : Int)))
      (first
        | exact HX5.out
        | exact HX6.out
        | go_keep)
      (first | (go_at_call 20; refine (len_ok (by exact HP5.out.like rfl)).mono ?_; rintro e w6 ⟨rfl, hw⟩; have hb6 : Below w5.heap.size w5 w6 := (by rw [hw]; exact (Below.refl _ _).drew); clear hw; have HP6 := veil (HP5.out.below hb6); have HX6 := veil (HX5.out.below hb6); have HL6 := veil (HL5.out.trans (hb6.mono (by have := HL5.out.size; omega))); clear hb6))
    have e1 := HX6.out.1
    have e4 := HX6.out.2.2.2
    rcases k4 with ⟨k4, k5⟩ | ⟨k4, k5, k6, k7⟩
    · have g1 : (n : Int) < ((atL L x1).d : Int) := by omega
      have g2 : ¬ ((atL L x1).d : Int) ≤ (n : Int) := by omega
      have g3 : (0 : Int) < ((atL L x1).d : Int) := by omega
      rw [k5] at HP6
      go_wp2_with (first
        | (go_at_call 18; refine (left_ok HP6.out x1).mono ?_; rintro e w7 ⟨rfl, c7, hw⟩; have hb := below_a hw; clear hw; have HP7 := veil (HP6.out.below hb); have hx7 := HX6.out.below hb; have f1 := hx7.1; have HL7 := veil (HL6.out.trans (hb.mono (by have := HL6.out.size; omega))); clear hb hx7)
        | (go_at_call 19; refine (deadline_ok HP7.out x1).mono ?_; rintro e w8 ⟨rfl, c8, hw⟩; have hb := below_a hw; clear hw; have HL8 := veil (HL7.out.trans (hb.mono (by have := HL7.out.size; omega))); clear hb))
      go_ret
      exact ⟨by simp, by rw [hnb]; exact HL8.out⟩
    · have g1 : ((atL L x1).d : Int) ≤ (n : Int) := by omega
      have g2 : ¬ (n : Int) < ((atL L x1).d : Int) := by omega
      generalize wakL L x1 n = M at *
      have g5 : (0 : Int) < ((atL M x1).l : Int) := by omega
      have g5b : decide (0 < (atL M x1).l) = true := by simpa using k5
      have g6 : ((atL L x1).l : Int) ≤ ((atL M x1).l : Int) := by omega
      by_cases g7 : n < (atL M x1).d
      · have g7' : (n : Int) < ((atL M x1).d : Int) := by omega
        have g7b : decide ((n : Int) < ((atL M x1).d : Int)) = true := decide_eq_true g7'
        have g6b : decide (((atL L x1).l : Int) ≤ ((atL M x1).l : Int)) = true := decide_eq_true g6
        clear k7
        go_wp2
        refine wp_region_held_drew (S := (fun w' => w'.cell? ⟨nb, 1, none⟩ = some (.int .i64 x1) ∧ w'.cell? ⟨nb, 2, none⟩ = some (.int .u64 (b : Int)) ∧ w'.cell? ⟨nb, 3, none⟩ = some (.int .u64 (p : Int)) ∧ w'.cell? ⟨nb, 4, none⟩ = some (.int .u64 (n : Int)))) (by kernel_rfl) ?_ (fun hHeld => ?_)
        · exact HX6.out
        refine wpAnyH_take (i := 0) (v := ?_) rfl (by kernel_rfl) (by kernel_rfl) (by kernel_rfl) (fun _ _ _ h => h) (Or.inl ⟨by rfl, ?v0⟩) (by assumption) ?_
        case v0 => (intro w hSw; (try dsimp only at hSw); go_simp; try with_reducible rfl)
        try simp only [Act.put, List.setIfInBounds_toArray, List.set_cons_zero, List.set_cons_succ, List.getElem_toArray, List.getElem_cons_zero]
        refine wpAnyH_take (i := 1) (v := ?_) rfl (by kernel_rfl) (by kernel_rfl) (by kernel_rfl) (fun _ _ _ h => h) (Or.inl ⟨by rfl, ?v1⟩) (by assumption) ?_
        case v1 => (intro w hSw; (try dsimp only at hSw); go_simp; try with_reducible rfl)
        try simp only [Act.put, List.setIfInBounds_toArray, List.set_cons_zero, List.set_cons_succ, List.getElem_toArray, List.getElem_cons_succ, List.getElem_cons_zero]
        refine wpAnyH_take (i := 2) (v := ?_) rfl (by kernel_rfl) (by kernel_rfl) (by kernel_rfl) (fun _ _ _ h => h) (Or.inl ⟨by rfl, ?v2⟩) (by assumption) ?_
        case v2 => (intro w hSw; (try dsimp only at hSw); go_simp; try with_reducible rfl)
        try simp only [Act.put, List.setIfInBounds_toArray, List.set_cons_zero, List.set_cons_succ, List.getElem_toArray, List.getElem_cons_succ, List.getElem_cons_zero]
        refine wpAnyH_ready (rs := [3]) (by kernel_rfl) (by simp) ?_
        refine AllReadyH.cons rfl (fun K hK => ?_) AllReadyH.nil
        go_simp
        go_at_call 21
        refine (active_ok (by exact HP6.out.like rfl) x1).mono ?_
        rintro e w7 ⟨rfl, c7, hw⟩
        have hb : Below w6.heap.size w6 w7 := (((Below.refl _ w6).drew).trans (below_a hw))
        clear hw
        have HP7 := veil (HP6.out.below hb)
        have HX7 := veil (HX6.out.below hb)
        have HL7 := veil (HL6.out.trans (hb.mono (by have := HL6.out.size; omega)))
        clear hb
        try rw [g5b]
        refine hK.out _ _ ?_ (fun hHeld => ?_)
        · exact HX7.out
        clear hK K
        try simp only [Act.put, List.setIfInBounds_toArray, List.set_cons_zero, List.set_cons_succ, List.getElem_toArray, List.getElem_cons_succ, List.getElem_cons_zero]
        refine wpAnyH_take (i := 4) (v := ?_) rfl (by kernel_rfl) (by kernel_rfl) (by kernel_rfl) (fun _ _ _ h => h) (Or.inl ⟨by rfl, ?v4⟩) (by assumption) ?_
        case v4 => (intro w hSw; (try dsimp only at hSw); go_simp; try with_reducible rfl)
        try simp only [Act.put, List.setIfInBounds_toArray, List.set_cons_zero, List.set_cons_succ, List.getElem_toArray, List.getElem_cons_succ, List.getElem_cons_zero]
        refine wpAnyH_take (i := 5) (v := ?_) rfl (by kernel_rfl) (by kernel_rfl) (by kernel_rfl) (fun _ _ _ h => h) (Or.inl ⟨by rfl, ?v5⟩) (by assumption) ?_
        case v5 => (intro w hSw; (try dsimp only at hSw); go_simp; try with_reducible rfl)
        try simp only [Act.put, List.setIfInBounds_toArray, List.set_cons_zero, List.set_cons_succ, List.getElem_toArray, List.getElem_cons_succ, List.getElem_cons_zero]
        refine wpAnyH_take (i := 6) (v := ?_) rfl (by kernel_rfl) (by kernel_rfl) (by kernel_rfl) (fun _ _ _ h => h) (Or.inl ⟨by rfl, ?v6⟩) (by assumption) ?_
        case v6 => (intro w hSw; (try dsimp only at hSw); go_simp; try with_reducible rfl)
        try simp only [Act.put, List.setIfInBounds_toArray, List.set_cons_zero, List.set_cons_succ, List.getElem_toArray, List.getElem_cons_succ, List.getElem_cons_zero]
        refine wpAnyH_take (i := 7) (v := ?_) rfl (by kernel_rfl) (by kernel_rfl) (by kernel_rfl) (fun _ _ _ h => h) (Or.inl ⟨by rfl, ?v7⟩) (by assumption) ?_
        case v7 => (intro w hSw; (try dsimp only at hSw); go_simp; try with_reducible rfl)
        try simp only [Act.put, List.setIfInBounds_toArray, List.set_cons_zero, List.set_cons_succ, List.getElem_toArray, List.getElem_cons_succ, List.getElem_cons_zero]
        refine wpAnyH_take (i := 9) (v := ?_) rfl (by kernel_rfl) (by kernel_rfl) (by kernel_rfl) (fun _ _ _ h => h) (Or.inl ⟨by rfl, ?v9⟩) (by assumption) ?_
        case v9 => (intro w hSw; (try dsimp only at hSw); go_simp; try with_reducible rfl)
        try simp only [Act.put, List.setIfInBounds_toArray, List.set_cons_zero, List.set_cons_succ, List.getElem_toArray, List.getElem_cons_succ, List.getElem_cons_zero]
        refine wpAnyH_ready (rs := [8]) (by kernel_rfl) (by simp) ?_
        refine AllReadyH.cons rfl (fun K hK => ?_) AllReadyH.nil
        go_simp
        go_at_call 18
        refine (left_ok HP7.out x1).mono ?_
        rintro e w8 ⟨rfl, c8, hw⟩
        have hb := below_a hw
        clear hw
        have HP8 := veil (HP7.out.below hb)
        have HX8 := veil (HX7.out.below hb)
        have HL8 := veil (HL7.out.trans (hb.mono (by have := HL7.out.size; omega)))
        clear hb
        refine hK.out _ _ ?_ (fun hHeld => ?_)
        · exact HX8.out
        clear hK K
        try simp only [Act.put, List.setIfInBounds_toArray, List.set_cons_zero, List.set_cons_succ, List.getElem_toArray, List.getElem_cons_succ, List.getElem_cons_zero]
        refine wpAnyH_take (i := 10) (v := ?_) rfl (by kernel_rfl) (by kernel_rfl) (by kernel_rfl) (fun _ _ _ h => h) (Or.inl ⟨by rfl, ?v10⟩) (by assumption) ?_
        case v10 => (intro w hSw; (try dsimp only at hSw); go_simp; try with_reducible rfl)
        try simp only [Act.put, List.setIfInBounds_toArray, List.set_cons_zero, List.set_cons_succ, List.getElem_toArray, List.getElem_cons_succ, List.getElem_cons_zero]
        refine wpAnyH_take (i := 11) (v := ?_) rfl (by kernel_rfl) (by kernel_rfl) (by kernel_rfl) (fun _ _ _ h => h) (Or.inl ⟨by rfl, ?v11⟩) (by assumption) ?_
        case v11 => (intro w hSw; (try dsimp only at hSw); go_simp; try with_reducible rfl)
        try simp only [Act.put, List.setIfInBounds_toArray, List.set_cons_zero, List.set_cons_succ, List.getElem_toArray, List.getElem_cons_succ, List.getElem_cons_zero]
        refine wpAnyH_take (i := 12) (v := ?_) rfl (by kernel_rfl) (by kernel_rfl) (by kernel_rfl) (fun _ _ _ h => h) (Or.inl ⟨by rfl, ?v12⟩) (by assumption) ?_
        case v12 => (intro w hSw; (try dsimp only at hSw); go_simp; try with_reducible rfl)
        try simp only [Act.put, List.setIfInBounds_toArray, List.set_cons_zero, List.set_cons_succ, List.getElem_toArray, List.getElem_cons_succ, List.getElem_cons_zero]
        refine wpAnyH_take (i := 13) (v := ?_) rfl (by kernel_rfl) (by kernel_rfl) (by kernel_rfl) (fun _ _ _ h => h) (Or.inl ⟨by rfl, ?v13⟩) (by assumption) ?_
        case v13 => (intro w hSw; (try dsimp only at hSw); go_simp; try with_reducible rfl)
        try simp only [Act.put, List.setIfInBounds_toArray, List.set_cons_zero, List.set_cons_succ, List.getElem_toArray, List.getElem_cons_succ, List.getElem_cons_zero]
        refine wpAnyH_take (i := 14) (v := ?_) rfl (by kernel_rfl) (by kernel_rfl) (by kernel_rfl) (fun _ _ _ h => h) (Or.inl ⟨by rfl, ?v14⟩) (by assumption) ?_
        case v14 => (intro w hSw; (try dsimp only at hSw); go_simp; try with_reducible rfl)
        try simp only [Act.put, List.setIfInBounds_toArray, List.set_cons_zero, List.set_cons_succ, List.getElem_toArray, List.getElem_cons_succ, List.getElem_cons_zero]
        refine wpAnyH_take (i := 15) (v := ?_) rfl (by kernel_rfl) (by kernel_rfl) (by kernel_rfl) (fun _ _ _ h => h) (Or.inl ⟨by rfl, ?v15⟩) (by assumption) ?_
        case v15 => (intro w hSw; (try dsimp only at hSw); go_simp; try with_reducible rfl)
        try simp only [Act.put, List.setIfInBounds_toArray, List.set_cons_zero, List.set_cons_succ, List.getElem_toArray, List.getElem_cons_succ, List.getElem_cons_zero]
        refine wpAnyH_take (i := 17) (v := ?_) rfl (by kernel_rfl) (by kernel_rfl) (by kernel_rfl) (fun _ _ _ h => h) (Or.inl ⟨by rfl, ?v17⟩) (by assumption) ?_
        case v17 => (intro w hSw; (try dsimp only at hSw); go_simp; try with_reducible rfl)
        try simp only [Act.put, List.setIfInBounds_toArray, List.set_cons_zero, List.set_cons_succ, List.getElem_toArray, List.getElem_cons_succ, List.getElem_cons_zero]
        refine wpAnyH_take (i := 18) (v := ?_) rfl (by kernel_rfl) (by kernel_rfl) (by kernel_rfl) (fun _ _ _ h => h) (Or.inl ⟨by rfl, ?v18⟩) (by assumption) ?_
        case v18 => (intro w hSw; (try dsimp only at hSw); go_simp; try with_reducible rfl)
        try simp only [Act.put, List.setIfInBounds_toArray, List.set_cons_zero, List.set_cons_succ, List.getElem_toArray, List.getElem_cons_succ, List.getElem_cons_zero]
        refine wpAnyH_ready (rs := [16]) (by kernel_rfl) (by simp) ?_
        refine AllReadyH.cons rfl (fun K hK => ?_) AllReadyH.nil
        go_simp
        go_at_call 19
        refine (deadline_ok HP8.out x1).mono ?_
        rintro e w9 ⟨rfl, c9, hw⟩
        have hb := below_a hw
        clear hw
        have HX9 := veil (HX8.out.below hb)
        have HL9 := veil (HL8.out.trans (hb.mono (by have := HL8.out.size; omega)))
        clear hb
        refine hK.out _ _ ?_ (fun hHeld => ?_)
        · exact HX9.out
        clear hK K
        try simp only [Act.put, List.setIfInBounds_toArray, List.set_cons_zero, List.set_cons_succ, List.getElem_toArray, List.getElem_cons_succ, List.getElem_cons_zero]
        refine wpAnyH_take (i := 19) (v := ?_) rfl (by kernel_rfl) (by kernel_rfl) (by kernel_rfl) (fun _ _ _ h => h) (Or.inl ⟨by rfl, ?v19⟩) (by assumption) ?_
        case v19 => (intro w hSw; (try dsimp only at hSw); go_simp; try with_reducible rfl)
        try simp only [Act.put, List.setIfInBounds_toArray, List.set_cons_zero, List.set_cons_succ, List.getElem_toArray, List.getElem_cons_succ, List.getElem_cons_zero]
        refine wpAnyH_take (i := 20) (v := ?_) rfl (by kernel_rfl) (by kernel_rfl) (by kernel_rfl) (fun _ _ _ h => h) (Or.inl ⟨by rfl, ?v20⟩) (by assumption) ?_
        case v20 => (intro w hSw; (try dsimp only at hSw); go_simp; try with_reducible rfl)
        try simp only [Act.put, List.setIfInBounds_toArray, List.set_cons_zero, List.set_cons_succ, List.getElem_toArray, List.getElem_cons_succ, List.getElem_cons_zero]
        refine wpAnyH_take (i := 21) (v := ?_) rfl (by kernel_rfl) (by kernel_rfl) (by kernel_rfl) (fun _ _ _ h => h) (Or.inl ⟨by rfl, ?v21⟩) (by assumption) ?_
        case v21 => (intro w hSw; (try dsimp only at hSw); go_simp; try with_reducible rfl)
        try simp only [Act.put, List.setIfInBounds_toArray, List.set_cons_zero, List.set_cons_succ, List.getElem_toArray, List.getElem_cons_succ, List.getElem_cons_zero]
        refine wpAnyH_take (i := 22) (v := undef) rfl (by kernel_rfl) (by kernel_rfl) (by kernel_rfl) (fun _ _ _ h => h) (Or.inr ⟨by rfl, rfl⟩) (by assumption) ?_
        try simp only [Act.put, List.setIfInBounds_toArray, List.set_cons_zero, List.set_cons_succ, List.getElem_toArray, List.getElem_cons_succ, List.getElem_cons_zero]
        refine wpAnyH_take (i := 23) (v := undef) rfl (by kernel_rfl) (by kernel_rfl) (by kernel_rfl) (fun _ _ _ h => h) (Or.inr ⟨by rfl, rfl⟩) (by assumption) ?_
        try simp only [Act.put, List.setIfInBounds_toArray, List.set_cons_zero, List.set_cons_succ, List.getElem_toArray, List.getElem_cons_succ, List.getElem_cons_zero]
        refine wpAnyH_take (i := 24) (v := undef) rfl (by kernel_rfl) (by kernel_rfl) (by kernel_rfl) (fun _ _ _ h => h) (Or.inr ⟨by rfl, rfl⟩) (by assumption) ?_
        try simp only [Act.put, List.setIfInBounds_toArray, List.set_cons_zero, List.set_cons_succ, List.getElem_toArray, List.getElem_cons_succ, List.getElem_cons_zero]
        refine wpAnyH_take (i := 25) (v := ?_) rfl (by kernel_rfl) (by kernel_rfl) (by kernel_rfl) (fun _ _ _ h => h) (Or.inl ⟨by rfl, ?v25⟩) (by assumption) ?_
        case v25 => (intro w hSw; (try dsimp only at hSw); go_simp; try with_reducible rfl)
        try simp only [Act.put, List.setIfInBounds_toArray, List.set_cons_zero, List.set_cons_succ, List.getElem_toArray, List.getElem_cons_succ, List.getElem_cons_zero]
        refine wpAnyH_take (i := 26) (v := ?_) rfl (by kernel_rfl) (by kernel_rfl) (by kernel_rfl) (fun _ _ _ h => h) (Or.inl ⟨by rfl, ?v26⟩) (by assumption) ?_
        case v26 => (intro w hSw; (try dsimp only at hSw); go_simp; try with_reducible rfl)
        try simp only [Act.put, List.setIfInBounds_toArray, List.set_cons_zero, List.set_cons_succ, List.getElem_toArray, List.getElem_cons_succ, List.getElem_cons_zero]
        refine wpAnyH_done (by kernel_rfl) ?_ _
        skip
        go_wp2
        go_ret
        exact ⟨by simp, by rw [hnb]; exact HL9.out⟩
      · have g7' : ¬ (n : Int) < ((atL M x1).d : Int) := by omega
        have g7b : decide ((n : Int) < ((atL M x1).d : Int)) = false := decide_eq_false g7'
        have g6b : decide (((atL L x1).l : Int) ≤ ((atL M x1).l : Int)) = true := decide_eq_true g6
        have g8 : n = 18446744073709551615 := by rcases k7 with q | q; exact absurd q g7; exact q
        have g8b : ((n : Int) == 18446744073709551615) = true := by rw [g8]; rfl
        have g9b : (n == 18446744073709551615) = true := by rw [g8]; rfl
        have g8c : (n : Int) = 18446744073709551615 := by omega
        have g7d : decide ((18446744073709551615 : Int) < ((atL M x1).d : Int)) = false := by rw [← g8c]; exact g7b
        clear g8
        clear k7
        go_wp2
        go_region_held3 (fun w' => w'.cell? ⟨nb, 1, none⟩ = some (.int .i64 x1) ∧ w'.cell? ⟨nb, 2, none⟩ = some (.int .u64 (b : Int)) ∧ w'.cell? ⟨nb, 3, none⟩ = some (.int .u64 (p : Int)) ∧ w'.cell? ⟨nb, 4, none⟩ = some (.int .u64 (n : Int)))
          (first
            | exact HX6.out
            | exact HX7.out
            | exact HX8.out
            | exact HX9.out
            | go_keep)
          (first
            | (go_at_call 21; refine (active_ok (by exact HP6.out.like rfl) x1).mono ?_; rintro e w7 ⟨rfl, c7, hw⟩; have hb : Below w6.heap.size w6 w7 := (((Below.refl _ w6).drew).trans (below_a hw)); clear hw; have HP7 := veil (HP6.out.below hb); have HX7 := veil (HX6.out.below hb); have HL7 := veil (HL6.out.trans (hb.mono (by have := HL6.out.size; omega))); clear hb)
            | (go_at_call 18; refine (left_ok HP7.out x1).mono ?_; rintro e w8 ⟨rfl, c8, hw⟩; have hb := below_a hw; clear hw; have HP8 := veil (HP7.out.below hb); have HX8 := veil (HX7.out.below hb); have HL8 := veil (HL7.out.trans (hb.mono (by have := HL7.out.size; omega))); clear hb)
            | (go_at_call 19; refine (deadline_ok HP8.out x1).mono ?_; rintro e w9 ⟨rfl, c9, hw⟩; have hb := below_a hw; clear hw; have HX9 := veil (HX8.out.below hb); have HL9 := veil (HL8.out.trans (hb.mono (by have := HL8.out.size; omega))); clear hb))
        go_wp2
        go_ret
        exact ⟨by simp, by rw [hnb]; exact HL9.out⟩
end Go.Proofs.Ytblickncecpajaa
