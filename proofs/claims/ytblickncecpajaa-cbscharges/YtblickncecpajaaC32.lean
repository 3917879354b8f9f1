/-
  The walk of CbsCharges: the law.
-/
import Derived.Test.YtblickncecpajaaC31
namespace Go.Proofs.Ytblickncecpajaa
open Go.RowKit Go.Lib
set_option linter.unusedVariables false
attribute [local go_sem ↓] Go.wp_at_zero Go.wp_at_succ
section
variable {w : World} {base s P : Nat} {v : Value} {L : List Srv}
theorem left_b (h : Pep w base s P v L) (i : Int) : Calls Try.prog 18 #[.pointer (some ⟨s, 0, none⟩), .int .i64 i] w fun e w' => e = .returned (.int .u64 ((atL L i).l : Int)) ∧ Below w.heap.size w w' :=
  (left_ok h i).mono fun e w' ⟨a, c, hw⟩ => ⟨a, below_a hw⟩
theorem deadline_b (h : Pep w base s P v L) (i : Int) : Calls Try.prog 19 #[.pointer (some ⟨s, 0, none⟩), .int .i64 i] w fun e w' => e = .returned (.int .u64 ((atL L i).d : Int)) ∧ Below w.heap.size w w' :=
  (deadline_ok h i).mono fun e w' ⟨a, c, hw⟩ => ⟨a, below_a hw⟩
theorem active_b (h : Pep w base s P v L) (i : Int) : Calls Try.prog 21 #[.pointer (some ⟨s, 0, none⟩), .int .i64 i] w fun e w' => e = .returned (.bool (decide (0 < (atL L i).l))) ∧ Below w.heap.size w w' :=
  (active_ok h i).mono fun e w' ⟨a, c, hw⟩ => ⟨a, below_a hw⟩
end
set_option maxHeartbeats 8000000 in
theorem charges_walk (m : Nat) (hm : m < 256) (a : Option Addr) (len cap : Nat) (D : Nat → Dd) (i : Int) (w : World) (hlen : len < 9223372036854775808) (hd : Dds w a len D) :
    Calls Try.prog 8 #[.int .u8 m, .slice a len cap, .int .i64 i] w fun e w' => e = .returned (.bool true) ∧ Below w.heap.size w w' := by
  have HP := veil (play_ok w m hm a len cap hlen D hd)
  clear hd
  go_enter Try.func8, Try.ntmps8
  go_wp2_with (first
    | (go_at_call 10; refine (HP.out).mono ?_; rintro e w1 ⟨s, r, P, v, u, L, rfl, hB, hL⟩; have hs := hB.hs; have HB1 := veil hB.p; have HL1 := veil hL; clear hB hL HP)
    | (go_at_call 11; refine (live_ok _).mono ?_; rintro e w2 ⟨rfl, hb2⟩; have HB2 := veil (HB1.out.below hb2); have HL2 := veil (bl_tr HL1.out hb2); clear hb2 HB1 HL1)
    | (go_at_call 22; refine (fork_ok HB2.out).mono ?_; rintro e w3 ⟨f, vf, rfl, hf, hpf, hb3⟩; have HB3 := veil (HB2.out.below hb3); have HF3 := veil hpf; have HL3 := veil (bl_tr HL2.out hb3); have HN := veil HB2.out.lts; clear hb3 hpf HB2 HL2)
    | (go_at_call 17; refine (charge_all HB3.out i).mono ?_; rintro e w4 ⟨rfl, hp4, hf4⟩; have HS := veil hp4; have HF := veil (HB3.out.past HN.out HF3.out hf hf4); have HL := veil (HL3.out.trans (HB3.out.low hs hf4)); clear hp4 hf4 HB3 HF3 HL3 HN))
  have hlL := HF.out.f.len
  have hE := charge_ends L i
  have hFa := charge_facts L i
  have HQ : Hid (∀ W, Below w4.heap.size w4 W → Below w.heap.size w W) := fun W hb => bl_tr HL.out hb
  have HSl : Hid (∀ W (k : Int), Below w4.heap.size w4 W → Calls Try.prog 18 #[.pointer (some ⟨s, 0, none⟩), .int .i64 k] W fun e w' => e = .returned (.int .u64 ((atL (chgL L i) k).l : Int)) ∧ Below w4.heap.size w4 w') := fun W k hb => (left_b (HS.out.below hb) k).mono fun e w' ⟨x, y⟩ => ⟨x, bl_tr hb y⟩
  have HSd : Hid (∀ W (k : Int), Below w4.heap.size w4 W → Calls Try.prog 19 #[.pointer (some ⟨s, 0, none⟩), .int .i64 k] W fun e w' => e = .returned (.int .u64 ((atL (chgL L i) k).d : Int)) ∧ Below w4.heap.size w4 w') := fun W k hb => (deadline_b (HS.out.below hb) k).mono fun e w' ⟨x, y⟩ => ⟨x, bl_tr hb y⟩
  have HSa : Hid (∀ W (k : Int), Below w4.heap.size w4 W → Calls Try.prog 21 #[.pointer (some ⟨s, 0, none⟩), .int .i64 k] W fun e w' => e = .returned (.bool (decide (0 < (atL (chgL L i) k).l))) ∧ Below w4.heap.size w4 w') := fun W k hb => (active_b (HS.out.below hb) k).mono fun e w' ⟨x, y⟩ => ⟨x, bl_tr hb y⟩
  have HSn : Hid (∀ W, Below w4.heap.size w4 W → Calls Try.prog 20 #[.pointer (some ⟨s, 0, none⟩)] W fun e w' => e = .returned (.int .i64 (L.length : Int)) ∧ w' = W) := fun W hb => by have := len_ok (HS.out.below hb); rw [hFa.1] at this; exact this
  have HFl : Hid (∀ W (k : Int), Below w4.heap.size w4 W → Calls Try.prog 18 #[.pointer (some ⟨f, 0, none⟩), .int .i64 k] W fun e w' => e = .returned (.int .u64 ((atL L k).l : Int)) ∧ Below w4.heap.size w4 w') := fun W k hb => (left_b (HF.out.below hb) k).mono fun e w' ⟨x, y⟩ => ⟨x, bl_tr hb y⟩
  have HFd : Hid (∀ W (k : Int), Below w4.heap.size w4 W → Calls Try.prog 19 #[.pointer (some ⟨f, 0, none⟩), .int .i64 k] W fun e w' => e = .returned (.int .u64 ((atL L k).d : Int)) ∧ Below w4.heap.size w4 w') := fun W k hb => (deadline_b (HF.out.below hb) k).mono fun e w' ⟨x, y⟩ => ⟨x, bl_tr hb y⟩
  have HFk := veil hFa.2
  have HBl : Hid (∀ k : Nat, k < L.length → (atL L k).l < 18446744073709551616) := fun k hk => by
    have hy : L[k]? = some L[k] := List.getElem?_eq_getElem hk
    have hok := HF.out.f.all _ (List.mem_of_getElem? hy)
    rw [(atL_some hy).1]
    have := hok.le; have := hok.2.1; have := hok.2.2.2.1
    omega
  have HE := veil hE
  clear hE hFa HS HF HL
  generalize hc0 : chgC L i = c at *
  generalize hb0 : chgB L i = bb at *
  have HC0 := veil hc0
  have hcc : c = 2 ∨ c = 6 ∨ c = 0 := by rcases HE.out with q | q | q; exact .inl q.1; exact .inr (.inl q.1); exact .inr (.inr q.1)
  clear hc0 hb0
  go_loopw [13] (fun k_ wr => ∃ k : Nat, k ≤ L.length ∧ k_ = .int .i64 k ∧ Below w4.heap.size w4 wr) (fun k_ _ => L.length - (intOf k_).toNat)
  case atStart => exact ⟨0, by omega, rfl, Below.refl _ _⟩
  case round =>
    obtain ⟨k, hk, rfl, hbel⟩ := hrel
    have HW := veil hbel
    clear hbel
    by_cases hkl : k < L.length
    · have hkl' : (k : Int) < (L.length : Int) := by omega
      obtain ⟨q1, q2⟩ := HFk.out k hkl
      have hlt := HBl.out k hkl
      have G1 := veil (fun W hb => HSl.out W k hb)
      have G2 := veil (fun W hb => HSd.out W k hb)
      rw [q1] at G1
      rw [q2] at G2
      have G3 := veil (fun W hb => HFl.out W k hb)
      have G4 := veil (fun W hb => HFd.out W k hb)
      unfold wantN at G1
      rw [HC0.out] at G1
      by_cases hki : (k : Int) = i ∧ c = 0
      · rw [if_pos hki] at G1
        have hl1 : 1 ≤ (atL L (k : Int)).l := by
          rcases HE.out with q | q | q
          · omega
          · omega
          · rw [hki.1]; exact q.2.1
        clear HSl HSd HSa HFl HFd HFk HBl HE HC0 q1 q2 hcc
        obtain ⟨hki1, hki2⟩ := hki
        have hcB : ((c : Int) == 0) = true := by rw [hki2]; rfl
        have hcD : decide ((c : Int) = 0) = true := by rw [hki2]; rfl
        clear hki2
        subst hki1
        generalize (atL L (k : Int)).l = lF at *
        generalize (atL L (k : Int)).d = dF at *
        have e1 : IntKind.u64.wrap ((lF : Int) - 1) = ((lF - 1 : Nat) : Int) := by rw [wrapU _ (by omega) (by omega)]; omega
        generalize lF - 1 = lS at *
        go_wp2_with (first
          | (go_at_call 20; refine (HSn.out _ HW.out).mono ?_; rintro e w5 ⟨rfl, hw⟩; replace hw := hw.symm; subst hw)
          | (go_at_call 18; refine (G1.out _ HW5.out).mono ?_; rintro e w6 ⟨rfl, hb6⟩; have HW6 := veil hb6; clear hb6)
          | (go_at_call 18; refine (G3.out _ HW.out).mono ?_; rintro e w5 ⟨rfl, hb5⟩; have HW5 := veil hb5; clear hb5)
          | (go_at_call 19; refine (G4.out _ HW7.out).mono ?_; rintro e w8 ⟨rfl, hb8⟩; have HW8 := veil hb8; clear hb8)
          | (go_at_call 19; refine (G2.out _ HW6.out).mono ?_; rintro e w7 ⟨rfl, hb7⟩; have HW7 := veil hb7; clear hb7))
        go_roundw
        case rel => exact ⟨k + 1, by omega, by go_num, HW8.out⟩
        case measure => simp [intOf]; omega
      · rw [if_neg hki] at G1
        clear HSl HSd HSa HFl HFd HFk HBl HE HC0 q1 q2 hcc
        generalize (atL L (k : Int)).l = lF at *
        generalize (atL L (k : Int)).d = dF at *
        by_cases hki1 : (k : Int) = i
        · subst hki1
          have hc1 : ¬ (c : Int) = 0 := fun q => hki ⟨rfl, by omega⟩
          clear hki
          go_wp2_with (first
          | (go_at_call 20; refine (HSn.out _ HW.out).mono ?_; rintro e w5 ⟨rfl, hw⟩; replace hw := hw.symm; subst hw)
          | (go_at_call 18; refine (G1.out _ HW5.out).mono ?_; rintro e w6 ⟨rfl, hb6⟩; have HW6 := veil hb6; clear hb6)
          | (go_at_call 18; refine (G3.out _ HW.out).mono ?_; rintro e w5 ⟨rfl, hb5⟩; have HW5 := veil hb5; clear hb5)
          | (go_at_call 19; refine (G4.out _ HW7.out).mono ?_; rintro e w8 ⟨rfl, hb8⟩; have HW8 := veil hb8; clear hb8)
          | (go_at_call 19; refine (G2.out _ HW6.out).mono ?_; rintro e w7 ⟨rfl, hb7⟩; have HW7 := veil hb7; clear hb7))
          go_roundw
          case rel => exact ⟨k + 1, by omega, by go_num, HW8.out⟩
          case measure => simp [intOf]; omega
        · clear hki
          go_wp2_with (first
          | (go_at_call 20; refine (HSn.out _ HW.out).mono ?_; rintro e w5 ⟨rfl, hw⟩; replace hw := hw.symm; subst hw)
          | (go_at_call 18; refine (G1.out _ HW5.out).mono ?_; rintro e w6 ⟨rfl, hb6⟩; have HW6 := veil hb6; clear hb6)
          | (go_at_call 18; refine (G3.out _ HW.out).mono ?_; rintro e w5 ⟨rfl, hb5⟩; have HW5 := veil hb5; clear hb5)
          | (go_at_call 19; refine (G4.out _ HW7.out).mono ?_; rintro e w8 ⟨rfl, hb8⟩; have HW8 := veil hb8; clear hb8)
          | (go_at_call 19; refine (G2.out _ HW6.out).mono ?_; rintro e w7 ⟨rfl, hb7⟩; have HW7 := veil hb7; clear hb7))
          go_roundw
          case rel => exact ⟨k + 1, by omega, by go_num, HW8.out⟩
          case measure => simp [intOf]; omega
    · have hkl' : ¬ (k : Int) < (L.length : Int) := by omega
      rcases HE.out with ⟨q1, q2, q3⟩ | ⟨q1, q2, q3⟩ | ⟨q1, q2, q3, q4⟩
      · have G1 : Hid (∀ W, Below w4.heap.size w4 W → Calls Try.prog 18 #[.pointer (some ⟨f, 0, none⟩), .int .i64 i] W fun e w' => e = .returned (.int .u64 0) ∧ Below w4.heap.size w4 w') := fun W hb => by have := HFl.out W i hb; rw [q3] at this; exact this
        clear HSl HSd HSa HFl HFd HFk HBl HE HC0 hcc q3
        subst q1 q2
        go_wp2_with (first
          | (go_at_call 20; refine (HSn.out _ HW.out).mono ?_; rintro e w5 ⟨rfl, hw⟩; replace hw := hw.symm; subst hw)
          | (go_at_call 18; refine (G1.out _ HW.out).mono ?_; rintro e w5 ⟨rfl, hb5⟩; have HW5 := veil (HQ.out _ hb5); clear hb5))
        go_ret
        exact ⟨by simp, HW5.out⟩
      · have G1 : Hid (∀ W, Below w4.heap.size w4 W → Calls Try.prog 18 #[.pointer (some ⟨f, 0, none⟩), .int .i64 i] W fun e w' => e = .returned (.int .u64 0) ∧ Below w4.heap.size w4 w') := fun W hb => by have := HFl.out W i hb; rw [q3] at this; exact this
        clear HSl HSd HSa HFl HFd HFk HBl HE HC0 hcc q3
        subst q1 q2
        go_wp2_with (first
          | (go_at_call 20; refine (HSn.out _ HW.out).mono ?_; rintro e w5 ⟨rfl, hw⟩; replace hw := hw.symm; subst hw)
          | (go_at_call 18; refine (G1.out _ HW.out).mono ?_; rintro e w5 ⟨rfl, hb5⟩; have HW5 := veil (HQ.out _ hb5); clear hb5))
        go_ret
        exact ⟨by simp, HW5.out⟩
      · by_cases hz : (atL L i).l = 1
        · have q5 : bb = true := by rw [q4]; exact decide_eq_true hz
          have q6 : (atL (chgL L i) i).l = 0 := by rw [q3, hz]
          have G1 : Hid (∀ W, Below w4.heap.size w4 W → Calls Try.prog 18 #[.pointer (some ⟨s, 0, none⟩), .int .i64 i] W fun e w' => e = .returned (.int .u64 0) ∧ Below w4.heap.size w4 w') := fun W hb => by have := HSl.out W i hb; rw [q6] at this; exact this
          have G2 : Hid (∀ W, Below w4.heap.size w4 W → Calls Try.prog 21 #[.pointer (some ⟨s, 0, none⟩), .int .i64 i] W fun e w' => e = .returned (.bool false) ∧ Below w4.heap.size w4 w') := fun W hb => by have := HSa.out W i hb; rw [q6] at this; exact this
          clear HSl HSd HSa HFl HFd HFk HBl HE HC0 hcc q2 q3 q4 q6 hz
          subst q1 q5
          go_wp2_with (first
            | (go_at_call 20; refine (HSn.out _ HW.out).mono ?_; rintro e w5 ⟨rfl, hw⟩; replace hw := hw.symm; subst hw)
            | (go_at_call 18; refine (G1.out _ HW.out).mono ?_; rintro e w5 ⟨rfl, hb5⟩; have HW5 := veil hb5; clear hb5)
            | (go_at_call 21; refine (G2.out _ HW5.out).mono ?_; rintro e w6 ⟨rfl, hb6⟩; have HW6 := veil (HQ.out _ hb6); clear hb6))
          go_ret
          exact ⟨by simp, HW6.out⟩
        · have q5 : bb = false := by rw [q4]; exact decide_eq_false hz
          generalize hzz : (atL (chgL L i) i).l = z at q3
          have q6 : ¬ (z : Int) = 0 := by omega
          have G1 : Hid (∀ W, Below w4.heap.size w4 W → Calls Try.prog 18 #[.pointer (some ⟨s, 0, none⟩), .int .i64 i] W fun e w' => e = .returned (.int .u64 (z : Int)) ∧ Below w4.heap.size w4 w') := fun W hb => by have := HSl.out W i hb; rw [hzz] at this; exact this
          have G2 : Hid (∀ W, Below w4.heap.size w4 W → Calls Try.prog 21 #[.pointer (some ⟨s, 0, none⟩), .int .i64 i] W fun e w' => e = .returned (.bool true) ∧ Below w4.heap.size w4 w') := fun W hb => by have := HSa.out W i hb; rw [hzz, decide_eq_true (show 0 < z by omega)] at this; exact this
          clear HSl HSd HSa HFl HFd HFk HBl HE HC0 hcc q2 q3 q4 hz hzz
          subst q1 q5
          go_wp2_with (first
            | (go_at_call 20; refine (HSn.out _ HW.out).mono ?_; rintro e w5 ⟨rfl, hw⟩; replace hw := hw.symm; subst hw)
            | (go_at_call 18; refine (G1.out _ HW.out).mono ?_; rintro e w5 ⟨rfl, hb5⟩; have HW5 := veil hb5; clear hb5)
            | (go_at_call 21; refine (G2.out _ HW5.out).mono ?_; rintro e w6 ⟨rfl, hb6⟩; have HW6 := veil (HQ.out _ hb6); clear hb6))
          go_ret
          exact ⟨by simp; omega, HW6.out⟩
end Go.Proofs.Ytblickncecpajaa
