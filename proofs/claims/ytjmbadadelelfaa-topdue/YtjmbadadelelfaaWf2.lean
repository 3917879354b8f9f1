/- choosePivot, reverseRange. -/
import Derived.Test.YtjmbadadelelfaaWf1
namespace Go.Proofs.Ytjmbadadelelfaa
open Go.RowKit
set_option linter.unusedVariables false
set_option linter.unusedSimpArgs false
attribute [local go_sem ↓] Go.wp_at_zero Go.wp_at_succ
set_option maxRecDepth 100000 in
set_option maxHeartbeats 4000000 in
theorem choose_ok (W : World) (r cap n : Nat) (D : Nat → Nat) (a b : Nat) (h : RowU W r cap n D) (hab : a + 8 ≤ b) (hb : b ≤ n) (hn : n ≤ 100000) :
    Calls Try.prog 69 #[.slice (some ⟨r, 0, none⟩) n cap, .int .i64 (a : Int), .int .i64 (b : Int)] W fun e w' => ∃ (p : Nat) (q : Int), e = .returned (.tuple #[.int .i64 (p : Int), .int .i64 q]) ∧ a ≤ p ∧ p < b ∧ Below W.heap.size W w' := by
  have HR : Hid (∀ W', Below W.heap.size W W' → RowU W' r cap n D) := fun W' hf => h.kept (hf.block r h.lt)
  have hlt := h.lt
  obtain ⟨l, hl⟩ : ∃ l : Nat, (b : Int) - (a : Int) = (l : Int) := ⟨b - a, by omega⟩
  obtain ⟨q, hq⟩ : ∃ q : Nat, (l : Int).tdiv 4 = (q : Int) := ⟨l / 4, by rw [Int.tdiv_eq_ediv_of_nonneg (by omega)]; omega⟩
  have hq1 : 4 * q ≤ l ∧ l < 4 * q + 4 := by rw [Int.tdiv_eq_ediv_of_nonneg (by omega)] at hq; omega
  have h8 : (8 : Int) ≤ (l : Int) := by omega
  obtain ⟨x, hx⟩ : ∃ x : Nat, (a : Int) + (q : Int) = (x : Int) := ⟨a + q, by omega⟩
  obtain ⟨y, hy⟩ : ∃ y : Nat, (a : Int) + (q : Int) * 2 = (y : Int) := ⟨a + q * 2, by omega⟩
  obtain ⟨z, hz⟩ : ∃ z : Nat, (a : Int) + (q : Int) * 3 = (z : Int) := ⟨a + q * 3, by omega⟩
  have HBB : Hid (∀ W' w', Below W.heap.size W W' → Fr (fun k => k = W.heap.size) W' w' → Below W.heap.size W w') := fun W' w' hb hf => hb.trans (hf.below hb.size (fun k hk => by omega))
  have HAJ : Hid (∀ W' c x, Below W.heap.size W W' → Ctr W' W.heap.size c → c ≤ 900 → 1 ≤ x → x + 1 < n → Calls Try.prog 80 #[.slice (some ⟨r, 0, none⟩) n cap, .int .i64 (x : Int), .pointer (some ⟨W.heap.size, 0, none⟩)] W' fun e w' => ∃ m c' : Nat, e = .returned (.int .i64 (m : Int)) ∧ (x - 1 ≤ m ∧ m ≤ x + 1) ∧ Ctr w' W.heap.size c' ∧ c' ≤ c + 3 ∧ Below W.heap.size W w') := fun W' c x hb hc h9 h1 h2 =>
    (adjacent_ok W' r cap n D W.heap.size c x (HR.out W' hb) (by omega) hc h9 h1 h2 hn).mono (fun _ _ ⟨m, c', e, g1, g2, g3, g4⟩ => ⟨m, c', e, g1, g2, g3, HBB.out _ _ hb g4⟩)
  have HMD : Hid (∀ W' c x y z, Below W.heap.size W W' → Ctr W' W.heap.size c → c ≤ 900 → x < n → y < n → z < n → Calls Try.prog 81 #[.slice (some ⟨r, 0, none⟩) n cap, .int .i64 (x : Int), .int .i64 (y : Int), .int .i64 (z : Int), .pointer (some ⟨W.heap.size, 0, none⟩)] W' fun e w' => ∃ m c' : Nat, e = .returned (.int .i64 (m : Int)) ∧ (m = x ∨ m = y ∨ m = z) ∧ Ctr w' W.heap.size c' ∧ c' ≤ c + 3 ∧ Below W.heap.size W w') := fun W' c x y z hb hc h9 h1 h2 h3 =>
    (median_ok W' r cap n D W.heap.size c x y z (HR.out W' hb) (by omega) hc h9 h1 h2 h3 hn).mono (fun _ _ ⟨m, c', e, g1, g2, g3, g4⟩ => ⟨m, c', e, g1, g2, g3, HBB.out _ _ hb g4⟩)
  have HB0 : Hid (Below W.heap.size W (W.alloc (.cells #[.int .i64 0] 3))) := (Below.refl _ _).alloc (Nat.le_refl _) _
  have HC0 : Hid (Ctr (W.alloc (.cells #[.int .i64 0] 3)) W.heap.size 0) := ⟨cell_new _ _ _ 0, by unfold World.frozen? World.alloc; simp, by simp⟩
  generalize hW0 : W.alloc (.cells #[.int .i64 0] 3) = W0 at HB0 HC0
  have HW0 := veil hW0
  clear h hW0
  by_cases h50 : (50 : Int) ≤ (l : Int)
  · have g1 : 1 ≤ x ∧ x + 1 < n ∧ 1 ≤ y ∧ y + 1 < n ∧ 1 ≤ z ∧ z + 1 < n := by omega
    have g2 : a < x ∧ x + 1 < b ∧ a < y ∧ y + 1 < b ∧ a < z ∧ z + 1 < b := by omega
    go_enter Try.func69, Try.ntmps69
    go_upto_region 8 with fail
    rw [HW0.out]
    clear hl hq hx hy hz
    go_wp2_with (first
      | (go_at_call 80; (have hh := HB2.out; clear hh); refine (HAJ.out _ _ _ HB2.out HC2.out (by omega) (by omega) (by omega)).mono ?_; rintro e w3 ⟨m3, c3, rfl, hm3, hc3, hcc3, hb3⟩; have HC3 := veil hc3; have HB3 := veil hb3; clear hc3 hb3)
      | (go_at_call 80; (have hh := HB1.out; clear hh); refine (HAJ.out _ _ _ HB1.out HC1.out (by omega) (by omega) (by omega)).mono ?_; rintro e w2 ⟨m2, c2, rfl, hm2, hc2, hcc2, hb2⟩; have HC2 := veil hc2; have HB2 := veil hb2; clear hc2 hb2)
      | (go_at_call 80; refine (HAJ.out _ _ _ HB0.out HC0.out (by omega) (by omega) (by omega)).mono ?_; rintro e w1 ⟨m1, c1, rfl, hm1, hc1, hcc1, hb1⟩; have HC1 := veil hc1; have HB1 := veil hb1; clear hc1 hb1)
      | (go_at_call 81; refine (HMD.out _ _ _ _ _ HB3.out HC3.out (by omega) (by omega) (by omega) (by omega)).mono ?_; rintro e w4 ⟨m4, c4, rfl, hm4, hc4, hcc4, hb4⟩; have y4 := hc4.cell; have HB4 := veil hb4; clear hc4 hb4))
    all_goals
      go_ret2
      exact ⟨m4, _, rfl, by omega, by omega, HB4.out⟩
  · have g2 : a < x ∧ x < b ∧ a < y ∧ y < b ∧ a < z ∧ z < b := by omega
    go_enter Try.func69, Try.ntmps69
    go_upto_region 11 with fail
    rw [HW0.out]
    clear hl hq hx hy hz
    go_wp2_with (first
      | (go_at_call 81; refine (HMD.out _ _ _ _ _ HB0.out HC0.out (by omega) (by omega) (by omega) (by omega)).mono ?_; rintro e w4 ⟨m4, c4, rfl, hm4, hc4, hcc4, hb4⟩; have y4 := hc4.cell; have HB4 := veil hb4; clear hc4 hb4))
    all_goals
      go_ret2
      exact ⟨m4, _, rfl, by omega, by omega, HB4.out⟩
set_option maxRecDepth 100000 in
set_option maxHeartbeats 4000000 in
theorem reverse_ok (W : World) (r cap n : Nat) (D : Nat → Nat) (a b : Nat) (h : RowU W r cap n D) (hab : a < b) (hb : b ≤ n) (hn : n ≤ 100000) :
    Calls Try.prog 70 #[.slice (some ⟨r, 0, none⟩) n cap, .int .i64 (a : Int), .int .i64 (b : Int)] W fun e w' => e = .returned (.tuple #[]) ∧ ∃ D', RowU w' r cap n D' ∧ Prm a b D D' ∧ Fr (fun k => k = r) W w' := by
  have H0 := veil h
  clear h
  go_enter Try.func70, Try.ntmps70
  go_wp2
  go_loopw [6, 7] (fun iv jv wr => ∃ (i j : Nat) (D' : Nat → Nat), a ≤ i ∧ i ≤ j + 1 ∧ i + j + 1 = a + b ∧ iv = .int .i64 (i : Int) ∧ jv = .int .i64 (j : Int) ∧ RowU wr r cap n D' ∧ Prm a b D D' ∧ Fr (fun k => k = r) W wr) (fun iv jv _ => (intOf jv + 1 - intOf iv).toNat)
  case atStart => exact ⟨a, b - 1, D, by omega, by omega, by omega, rfl, by rw [show ((b - 1 : Nat) : Int) = (b : Int) - 1 by omega], H0.out, Prm.refl _ _ _, Fr.refl _ _⟩
  case round =>
    obtain ⟨i, j, D1, h1, h2, h3, rfl, rfl, hrow, hprm, hfr⟩ := hrel
    clear H0
    by_cases hij : i < j
    · have hij' : (i : Int) < (j : Int) := by omega
      have c1 := hrow.cell i (by omega)
      have c2 := hrow.cell j (by omega)
      have fz := hrow.frozen
      have hlts := hrow.lt
      have x1 : (i : Int) < (n : Int) := by omega
      have x2 : (j : Int) < (n : Int) := by omega
      have HRw := veil hrow
      have HPr := veil hprm
      have HFr := veil hfr
      clear hrow hprm hfr
      go_wp2
      go_region
      go_wp2
      go_roundw
      case rel =>
        refine ⟨i + 1, j - 1, sw D1 i j, by omega, by omega, by omega, by go_num, by rw [show ((j - 1 : Nat) : Int) = (j : Int) - 1 by omega], ?_, HPr.out.trans (Prm.swap (by omega) (by omega)), ?_⟩
        · exact RowU.kept (HRw.out.swap i j (by omega) (by omega)) rfl
        · exact ((HFr.out.setCell (a := ⟨r, i, none⟩) rfl _).setCell (a := ⟨r, j, none⟩) rfl _).drew
      case measure => simp [intOf]; omega
    · have hij' : ¬ (i : Int) < (j : Int) := by omega
      have HE := veil (And.intro hrow (And.intro hprm hfr))
      clear hrow hprm hfr
      go_wp2
      go_end0
      exact ⟨rfl, D1, HE.out⟩
end Go.Proofs.Ytjmbadadelelfaa
