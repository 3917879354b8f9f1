/-
  CbsBudget.
-/
import Derived.Test.YtblickncecpajaaC17
import Derived.Test.YtblickncecpajaaC9
namespace Go.Proofs.Ytblickncecpajaa
open Go.RowKit Go.Lib
set_option linter.unusedVariables false

/-- What is charged keeps to the budget: F fills were since the beginning. -/
def Bud (b p now beg ch : Nat) (x : Srv) : Prop :=
  x.b = b ∧ x.p = p ∧ x.l ≤ b ∧ beg ≤ now ∧ ∃ F, ch + x.l ≤ (F + 1) * b ∧ (F = 0 ∨ (beg + F * p ≤ x.d ∧ x.d ≤ now + p))
section
variable {b p now beg ch : Nat} {x : Srv}
theorem Bud.time (h : Bud b p now beg ch x) (t : Nat) : Bud b p (now + t) beg ch x := by
  obtain ⟨h1, h2, h3, h4, F, h5, h6⟩ := h
  exact ⟨h1, h2, h3, by omega, F, h5, h6.imp id (fun q => ⟨q.1, by omega⟩)⟩
theorem Bud.reset (h : Bud b p now beg ch x) : Bud b p now now 0 x := by
  obtain ⟨h1, h2, h3, h4, _⟩ := h
  exact ⟨h1, h2, h3, Nat.le_refl _, 0, by omega, .inl rfl⟩
theorem Bud.fill (h : Bud b p now beg ch x) (hd : x.d ≤ now) (hn : now + p ≤ 18446744073709551615) : Bud b p now beg ch (fillS x now) := by
  obtain ⟨h1, h2, h3, h4, F, h5, h6⟩ := h
  have ha : addN now x.p = now + p := by rw [h2]; exact if_pos hn
  have hm : (F + 1 + 1) * b = (F + 1) * b + b := Nat.succ_mul (F + 1) b
  have hp : (F + 1) * p = F * p + p := Nat.succ_mul F p
  refine ⟨h1, h2, by rw [← h1]; exact Nat.le_refl _, h4, F + 1, ?_, .inr ⟨?_, ?_⟩⟩
  · show ch + x.b ≤ (F + 1 + 1) * b
    rw [hm, h1]
    omega
  · show beg + (F + 1) * p ≤ addN now x.p
    rw [ha, hp]
    rcases h6 with q | q
    · subst q
      simp
      omega
    · omega
  · show addN now x.p ≤ now + p
    rw [ha]
    exact Nat.le_refl _
theorem Bud.tick (h : Bud b p now beg ch x) (hl : 1 ≤ x.l) : Bud b p now beg (ch + 1) (tickS x) := by
  obtain ⟨h1, h2, h3, h4, F, h5, h6⟩ := h
  refine ⟨h1, h2, ?_, h4, F, ?_, h6⟩
  · show x.l - 1 ≤ b
    omega
  · show ch + 1 + (x.l - 1) ≤ (F + 1) * b
    omega
theorem Bud.bound (h : Bud b p now beg ch x) (hp : 1 ≤ p) : ch ≤ ((now - beg) / p + 2) * b := by
  obtain ⟨h1, h2, h3, h4, F, h5, h6⟩ := h
  obtain ⟨Q, hQ⟩ : ∃ Q, Q = (now - beg) / p := ⟨_, rfl⟩
  rw [← hQ]
  have key : F ≤ Q + 1 := by
    rcases h6 with q | ⟨q1, q2⟩
    · omega
    · cases F with
      | zero => omega
      | succ G =>
        have hm : (G + 1) * p = G * p + p := Nat.succ_mul G p
        have : G ≤ (now - beg) / p := (Nat.le_div_iff_mul_le (by omega)).2 (by omega)
        rw [← hQ] at this
        omega
  have : (F + 1) * b ≤ (Q + 2) * b := Nat.mul_le_mul_right b (by omega)
  exact Nat.le_trans (by omega) this
theorem Bud.refill (h : Bud b p now beg ch x) (hn : now + p ≤ 18446744073709551615) : Bud b p now beg ch (refS now x) := by
  unfold refS
  split
  · rename_i hd
    simp [dueB] at hd
    exact h.fill hd.1.2 hn
  · exact h
theorem Bud.wake (h : Bud b p now beg ch x) (hn : now + p ≤ 18446744073709551615) : Bud b p now beg ch (if x.d ≤ now then fillS x now else x) := by
  split
  · rename_i hd
    exact h.fill hd hn
  · exact h
end
def tops2 : List Nat := [1, 2, 3, 4, 5, 6, 7, 8, 9, 10, 12, 14, 15, 20]
theorem tops2_ok (j : Nat) (hj : j < 14) : ∃ per, tops2[j]? = some per ∧ 1 ≤ per ∧ per ≤ 20 ∧ 232792560 % per = 0 ∧ per * (232792560 / per) = 232792560 := by
  match j, hj with
  | 0, _ => exact ⟨1, rfl, by decide⟩
  | 1, _ => exact ⟨2, rfl, by decide⟩
  | 2, _ => exact ⟨3, rfl, by decide⟩
  | 3, _ => exact ⟨4, rfl, by decide⟩
  | 4, _ => exact ⟨5, rfl, by decide⟩
  | 5, _ => exact ⟨6, rfl, by decide⟩
  | 6, _ => exact ⟨7, rfl, by decide⟩
  | 7, _ => exact ⟨8, rfl, by decide⟩
  | 8, _ => exact ⟨9, rfl, by decide⟩
  | 9, _ => exact ⟨10, rfl, by decide⟩
  | 10, _ => exact ⟨12, rfl, by decide⟩
  | 11, _ => exact ⟨14, rfl, by decide⟩
  | 12, _ => exact ⟨15, rfl, by decide⟩
  | 13, _ => exact ⟨20, rfl, by decide⟩
theorem terms2_ok {b per : Nat} (h1 : 1 ≤ b) (h2 : b ≤ per) (h3 : 232792560 % per = 0) (h4 : per * (232792560 / per) = 232792560) : rightB b per = true ∧ asks ⟨b, per, 0, 0⟩ ≤ 232792560 := by
  constructor
  · simp [rightB, h1, h2, h3]
  · show b * (232792560 / per) ≤ 232792560
    exact Nat.le_trans (Nat.mul_le_mul_right _ h2) (Nat.le_of_eq h4)
abbrev top2Cells : Array Value := #[.int .u64 1, .int .u64 2, .int .u64 3, .int .u64 4, .int .u64 5, .int .u64 6, .int .u64 7, .int .u64 8, .int .u64 9, .int .u64 10, .int .u64 12, .int .u64 14, .int .u64 15, .int .u64 20]
theorem top2_cell (j : Nat) (hj : j < 14) (per : Nat) (h : tops2[j]? = some per) : top2Cells[j]? = some (.int .u64 (per : Int)) := by
  match j, hj with
  | 0, _ => cases h; rfl
  | 1, _ => cases h; rfl
  | 2, _ => cases h; rfl
  | 3, _ => cases h; rfl
  | 4, _ => cases h; rfl
  | 5, _ => cases h; rfl
  | 6, _ => cases h; rfl
  | 7, _ => cases h; rfl
  | 8, _ => cases h; rfl
  | 9, _ => cases h; rfl
  | 10, _ => cases h; rfl
  | 11, _ => cases h; rfl
  | 12, _ => cases h; rfl
  | 13, _ => cases h; rfl
set_option maxRecDepth 100000 in
set_option maxHeartbeats 400000 in
theorem budget_walk (w : World) (q t fr : Nat) (hq : q < 256) (ht : t < 256) (hf : fr < 256) (a : Option Addr) (len cap : Nat) (hlen : len < 9223372036854775808) (D : Nat → Dd) (hd : Dds w a len D) :
    Calls Try.prog 4 #[.agg #[.int .u8 (q : Int), .int .u8 (t : Int)], .slice a len cap, .int .u8 (fr : Int)] w fun e w' => e = .returned (.bool true) ∧ Below w.heap.size w w' := by
  obtain ⟨j, hj, hjl⟩ : ∃ j, j = t % 14 ∧ j < 14 := ⟨_, rfl, Nat.mod_lt _ (by omega)⟩
  have hmod : Int.tmod (t : Int) 14 = (j : Int) := by rw [hj]; rfl
  obtain ⟨per, hper, hp1, hp2, hp3, hp4⟩ := tops2_ok j hjl
  obtain ⟨b0, hb0, hbl⟩ : ∃ b0, b0 = q % per ∧ b0 < per := ⟨_, rfl, Nat.mod_lt _ (by omega)⟩
  have hmod2 : Int.tmod (q : Int) (per : Int) = (b0 : Int) := by rw [hb0]; rfl
  have hper0 : ¬ (per : Int) = 0 := by omega
  obtain ⟨ht1, ht2⟩ := terms2_ok (b := b0 + 1) (by omega) (by omega) hp3 hp4
  obtain ⟨f0, hf0, hf1⟩ : ∃ f0, f0 = fr % 200 ∧ f0 < 200 := ⟨_, rfl, Nat.mod_lt _ (by omega)⟩
  have hmod3 : Int.tmod (fr : Int) 200 = (f0 : Int) := by rw [hf0]; rfl
  have HT : Hid (∀ (W : World), (W.alloc (.cells top2Cells 31)).cell? ⟨W.heap.size, j, none⟩ = some (.int .u64 (per : Int))) := by
    intro W
    unfold World.cell?
    simp only [(MapKept.heap_alloc W _).1]
    exact top2_cell j hjl per hper
  have HN := veil (fun W => new_ok W 1 (by omega) (by omega))
  rw [show ((1 : Nat) : Int) = 1 from rfl] at HN
  have HAA := veil (fun (W1 : World) (hb1 : Below w.heap.size w W1) => on_new w (W1.alloc (.cells top2Cells 31)) (hb1.alloc hb1.size _) (b0 + 1) per ht1 ht2)
  simp only [World.size_alloc] at HAA
  rw [show ((b0 + 1 : Nat) : Int) = (b0 : Int) + 1 from rfl] at HAA
  have HL := veil live_ok
  have HDD := veil hd
  clear hj hper hb0 hp3 hp4 ht1 ht2 hf0 hd
  go_enter Try.func4, Try.ntmps4
  go_wp2
  go_quiet (fail)
  have HB1 : Hid (Below w.heap.size w ((w.alloc (.cells #[.int .u8 (q : Int), .int .u8 (t : Int)] 30)).drewN nq)) := (by have h0 := (Below.refl w.heap.size w).alloc (Nat.le_refl _) (.cells #[.int .u8 (q : Int), .int .u8 (t : Int)] 30); exact ⟨h0.os, h0.tape, h0.output, h0.size, h0.block⟩)
  generalize (w.alloc (.cells #[.int .u8 (q : Int), .int .u8 (t : Int)] 30)).drewN nq = W1 at HB1 ⊢
  have hcell := HT.out W1
  have HA := veil (HAA.out W1 HB1.out)
  clear HAA HT
  go_wp2_with (first
    | (go_at_call 13; refine (HN.out _).mono ?_; rintro e w1 ⟨rfl, rfl⟩)
    | (go_at_call 14; refine (HA.out).mono ?_; rintro e w2 ⟨rfl, h2⟩; have H2 := veil h2; clear h2))
  go_loopw [15, 16, 17, 18] (fun n_ b_ c_ i_ wr => ∃ (k nw bg ch : Nat) (x : Srv), k ≤ len ∧ k ≤ 200 ∧ nw ≤ 8 * k ∧ bg ≤ nw ∧ ch ≤ k ∧ i_ = .int .i64 (k : Int) ∧ n_ = .int .u64 (nw : Int) ∧ b_ = .int .u64 (bg : Int) ∧ c_ = .int .u64 (ch : Int) ∧ On w wr (W1.heap.size + 1) x ∧ Bud (b0 + 1) per nw bg ch x) (fun _ _ _ i _ => 200 - (intOf i).toNat)
  case atStart => exact ⟨0, 0, 0, 0, _, by omega, by omega, by omega, by omega, by omega, rfl, rfl, rfl, rfl, H2.out, rfl, rfl, Nat.zero_le _, Nat.le_refl _, 0, by simp, .inl rfl⟩
  case round =>
    obtain ⟨k, nw, bg, ch, x, hk1, hk2, hn8, hbn, hck, rfl, rfl, rfl, rfl, ho, hbud⟩ := hrel
    have HO := veil ho
    have HBU := veil hbud
    clear ho hbud
    by_cases hkl : k < len ∧ k < 200
    · obtain ⟨hkl, hk200⟩ := hkl
      have hkl' : (k : Int) < (len : Int) := by omega
      have hk200' : (k : Int) < 200 := by omega
      have hdd := HDD.out.below HO.out.2.1
      rcases hdd with h0 | ⟨lb, off, rfl, hlb, hc⟩
      · omega
      obtain ⟨hok, y0, _, _, _, y4⟩ := hc k hkl
      obtain ⟨m, hm, hm8⟩ : ∃ m, m = (D k).n % 8 ∧ m < 8 := ⟨_, rfl, Nat.mod_lt _ (by omega)⟩
      have hmm : Int.tmod ((D k).n : Int) 8 = (m : Int) := by rw [hm]; rfl
      obtain ⟨nx, hnx⟩ : ∃ nx, nx = nw + m := ⟨_, rfl⟩
      have e1 : (nw : Int) + (m : Int) = (nx : Int) := by omega
      have HNX := veil hnx
      have hnxb : nx ≤ 1600 := by omega
      have HBX : Hid (Bud (b0 + 1) per nx bg ch x) := by rw [hnx]; exact HBU.out.time m
      generalize (D k).k = kd at y0
      generalize (D k).n = dn at y4 hmm
      clear hc hok hm hnx HBU HDD
      by_cases hkf : k = f0
      · have HRS := veil HBX.out.reset
        subst hkf
        by_cases hk1' : kd = 1
        · subst hk1'
          go_wp2_with (go_at_call 15; refine (on_wake HO.out nx (by omega)).mono ?_; rintro e x1 ⟨rfl, g1⟩; have G1 := veil g1; clear g1)
          go_roundw
          case rel => exact ⟨k + 1, nx, nx, 0, _, by omega, by omega, by have := HNX.out; omega, by have := HNX.out; omega, by omega, by go_num, rfl, rfl, by first | rfl | go_num, G1.out, (HRS.out).wake (by omega)⟩
          case measure => simp [intOf]; omega
        by_cases hk3' : kd = 3
        · subst hk3'
          go_wp2_with (go_at_call 16; refine (on_refill HO.out nx (by omega)).mono ?_; rintro e x1 ⟨⟨a1, cap1, rfl⟩, g1⟩; have G1 := veil g1; clear g1)
          go_roundw
          case rel => exact ⟨k + 1, nx, nx, 0, _, by omega, by omega, by have := HNX.out; omega, by have := HNX.out; omega, by omega, by go_num, rfl, rfl, by first | rfl | go_num, G1.out, (HRS.out).refill (by omega)⟩
          case measure => simp [intOf]; omega
        have hk1b : (kd == 1) = false := by simpa using hk1'
        have hk3b : (kd == 3) = false := by simpa using hk3'
        by_cases hl : 1 ≤ x.l
        · have HLP := veil hl
          clear hl
          go_wp2_with (go_at_call 17; refine (on_charge HO.out HLP.out).mono ?_; rintro e x1 ⟨rfl, g1⟩; have G1 := veil g1; clear g1)
          go_roundw
          case rel => exact ⟨k + 1, nx, nx, 0 + 1, _, by omega, by omega, by have := HNX.out; omega, by have := HNX.out; omega, by omega, by go_num, rfl, rfl, by first | rfl | go_num, G1.out, (HRS.out).tick HLP.out⟩
          case measure => simp [intOf]; omega
        · have HLZ : Hid (x.l = 0) := by unfold Hid; omega
          clear hl
          go_wp2_with (go_at_call 17; refine (on_charge_none HO.out HLZ.out).mono ?_; rintro e x1 ⟨rfl, g1⟩; have G1 := veil g1; clear g1)
          go_roundw
          case rel => exact ⟨k + 1, nx, nx, 0, _, by omega, by omega, by have := HNX.out; omega, by have := HNX.out; omega, by omega, by go_num, rfl, rfl, by first | rfl | go_num, G1.out, HRS.out⟩
          case measure => simp [intOf]; omega
      · have hkf' : ((k : Int) == (f0 : Int)) = false := by simp; omega
        obtain ⟨z, hz⟩ : ∃ z, z = (nx - bg) / per := ⟨_, rfl⟩
        obtain ⟨pr, hpr⟩ : ∃ pr, pr = (z + 2) * (b0 + 1) := ⟨_, rfl⟩
        have hz8 : z ≤ 1600 := by rw [hz]; exact Nat.le_trans (Nat.div_le_self _ _) (by omega)
        have hpr8 : pr ≤ 40000 := by rw [hpr]; exact Nat.le_trans (Nat.mul_le_mul (show z + 2 ≤ 1602 by omega) (show b0 + 1 ≤ 20 by omega)) (by decide)
        have hbx : bg ≤ nx := by have := HNX.out; omega
        have m1 : (nx : Int) - (bg : Int) = ((nx - bg : Nat) : Int) := by omega
        have m2 : Int.tdiv ((nx - bg : Nat) : Int) (per : Int) = (z : Int) := by rw [hz]; rfl
        have m2b : ((nx - bg : Nat) : Int) / (per : Int) = (z : Int) := by rw [hz]; rfl
        have mw : IntKind.u64.wrap (pr : Int) = (pr : Int) := wrapU _ (by omega) (by omega)
        have m3 : ((z : Int) + 2) * ((b0 : Int) + 1) = (pr : Int) := by rw [hpr]; rfl
        have HZ := veil hz
        have HPR := veil hpr
        clear hz hpr
        by_cases hk1' : kd = 1
        · subst hk1'
          have hbd := HBX.out.bound hp1
          rw [← HZ.out, ← HPR.out] at hbd
          have hbd' : ¬ (pr : Int) < (ch : Int) := by omega
          clear hbd
          go_wp2_with (go_at_call 15; refine (on_wake HO.out nx (by omega)).mono ?_; rintro e x1 ⟨rfl, g1⟩; have G1 := veil g1; clear g1)
          go_roundw
          case rel => exact ⟨k + 1, nx, bg, ch, _, by omega, by omega, by have := HNX.out; omega, by have := HNX.out; omega, by omega, by go_num, rfl, rfl, by first | rfl | go_num, G1.out, (HBX.out).wake (by omega)⟩
          case measure => simp [intOf]; omega
        by_cases hk3' : kd = 3
        · subst hk3'
          have hbd := HBX.out.bound hp1
          rw [← HZ.out, ← HPR.out] at hbd
          have hbd' : ¬ (pr : Int) < (ch : Int) := by omega
          clear hbd
          go_wp2_with (go_at_call 16; refine (on_refill HO.out nx (by omega)).mono ?_; rintro e x1 ⟨⟨a1, cap1, rfl⟩, g1⟩; have G1 := veil g1; clear g1)
          go_roundw
          case rel => exact ⟨k + 1, nx, bg, ch, _, by omega, by omega, by have := HNX.out; omega, by have := HNX.out; omega, by omega, by go_num, rfl, rfl, by first | rfl | go_num, G1.out, (HBX.out).refill (by omega)⟩
          case measure => simp [intOf]; omega
        have hk1b : (kd == 1) = false := by simpa using hk1'
        have hk3b : (kd == 3) = false := by simpa using hk3'
        by_cases hl : 1 ≤ x.l
        · have HLP := veil hl
          have hbd := (HBX.out.tick hl).bound hp1
          rw [← HZ.out, ← HPR.out] at hbd
          have hbd' : ¬ (pr : Int) < (ch : Int) + 1 := by omega
          clear hbd
          clear hl
          go_wp2_with (go_at_call 17; refine (on_charge HO.out HLP.out).mono ?_; rintro e x1 ⟨rfl, g1⟩; have G1 := veil g1; clear g1)
          go_roundw
          case rel => exact ⟨k + 1, nx, bg, ch + 1, _, by omega, by omega, by have := HNX.out; omega, by have := HNX.out; omega, by omega, by go_num, rfl, rfl, by first | rfl | go_num, G1.out, (HBX.out).tick HLP.out⟩
          case measure => simp [intOf]; omega
        · have HLZ : Hid (x.l = 0) := by unfold Hid; omega
          have hbd := HBX.out.bound hp1
          rw [← HZ.out, ← HPR.out] at hbd
          have hbd' : ¬ (pr : Int) < (ch : Int) := by omega
          clear hbd
          clear hl
          go_wp2_with (go_at_call 17; refine (on_charge_none HO.out HLZ.out).mono ?_; rintro e x1 ⟨rfl, g1⟩; have G1 := veil g1; clear g1)
          go_roundw
          case rel => exact ⟨k + 1, nx, bg, ch, _, by omega, by omega, by have := HNX.out; omega, by have := HNX.out; omega, by omega, by go_num, rfl, rfl, by first | rfl | go_num, G1.out, HBX.out⟩
          case measure => simp [intOf]; omega
    · have hend : ¬ ((k : Int) < (len : Int) ∧ (k : Int) < 200) := by omega
      by_cases hkl2 : k < len
      · have hq1 : (k : Int) < (len : Int) := by omega
        have hq2 : ¬ (k : Int) < 200 := by omega
        go_wp2_with (go_at_call 11; refine (HL.out _).mono ?_; rintro e x1 ⟨rfl, hb⟩; have G1 := veil (HO.out.below hb); clear hb)
        go_ret
        exact ⟨rfl, G1.out.2.1⟩
      · have hq1 : ¬ (k : Int) < (len : Int) := by omega
        go_wp2_with (go_at_call 11; refine (HL.out _).mono ?_; rintro e x1 ⟨rfl, hb⟩; have G1 := veil (HO.out.below hb); clear hb)
        go_ret
        exact ⟨rfl, G1.out.2.1⟩
end Go.Proofs.Ytblickncecpajaa
