/- bits.Len; nextPowerOfTwo; breakPatternsOrdered. -/
import Derived.Test.YtjmbadadelelfaaWf8
import Derived.Laws.MathBits
import Derived.Lib.BitFns
namespace Go.Proofs.Ytjmbadadelelfaa
open Go.RowKit
set_option linter.unusedVariables false
set_option linter.unusedSimpArgs false
attribute [local go_sem ↓] Go.wp_at_zero Go.wp_at_succ
theorem tab_get (i : Nat) (h : i < Lib.len8tab.size) : ((Lib.len8tab[i]).toNat : Int) = (Lib.bitLen i : Int) := by
  have h' : i < 256 := by rw [Lib.len8tab_size] at h; exact h
  have e := Lib.len8_eq ⟨i, h'⟩
  simp only [Lib.len8, Int.toNat_natCast, ByteArray.getElem?_lt' _ _ h, Option.getD_some] at e
  exact e
theorem wrap64_of_in {a : Int} (h : -9223372036854775808 ≤ a) (h' : a < 9223372036854775808) : wrap64 a = a := by
  unfold wrap64; omega
set_option maxHeartbeats 600000 in
set_option maxRecDepth 100000 in
/-- How many bits a number below 2^24 has. -/
theorem len64_any (x : Int) (w : World) (h0 : 0 ≤ x) (h1 : x < 16777216) :
    Calls Try.prog 76 #[.int .u64 x] w fun e w' => e = .returned (.int .i64 (Lib.bitLen x.toNat)) ∧ w' = w := by
  have hsz : Lib.len8tab.size = 256 := Lib.len8tab_size
  have n32 : ¬ (4294967296 ≤ x) := by omega
  go_enter Try.func76, Try.ntmps76
  go_wp2
  all_goals (go_ret; refine ⟨congrArg Ending.returned (congrArg (Value.int IntKind.i64) ?_), rfl⟩)
  all_goals rw [tab_get _ (by omega)]
  · have s := Lib.bitLen_shift16 x.toNat (by omega) (by omega)
    have e : (x / 65536).toNat = x.toNat / 65536 := by omega
    have b := Lib.bitLen_le8' (x / 65536) (by omega) (by omega)
    rw [wrap64_of_in (a := (Lib.bitLen (x / 65536).toNat : Int)) (by omega) (by omega), wrap64_of_in (by omega) (by omega), e]
    omega
  · have s := Lib.bitLen_shift8 x.toNat (by omega) (by omega)
    have e : (x / 256).toNat = x.toNat / 256 := by omega
    have b := Lib.bitLen_le8' (x / 256) (by omega) (by omega)
    rw [wrap64_of_in (a := (Lib.bitLen (x / 256).toNat : Int)) (by omega) (by omega), wrap64_of_in (by omega) (by omega), e]
    omega
  · have := Lib.bitLen_le8' x h0 (by omega)
    have e : wrap64 (Lib.bitLen x.toNat : Int) = (Lib.bitLen x.toNat : Int) := wrap64_of_in (by omega) (by omega)
    rw [e, e]
set_option maxRecDepth 100000 in
theorem len_any (x : Int) (w : World) (h0 : 0 ≤ x) (h1 : x < 16777216) :
    Calls Try.prog 64 #[.int .u64 x] w fun e w' => e = .returned (.int .i64 (Lib.bitLen x.toNat)) ∧ w' = w := by
  have H := veil (fun w => len64_any x w h0 h1)
  go_enter Try.func64, Try.ntmps64
  go_wp2_with (first
    | (go_at_call 76; refine (H.out _).mono ?_; rintro e w1 ⟨rfl, hw⟩; subst hw))
  go_ret
  exact ⟨rfl, rfl⟩
theorem bitLen_two : ∀ (k x : Nat), x ≤ k → x ≠ 0 → x < 2 ^ 64 → 2 ^ Lib.bitLen x ≤ 2 * x
  | 0, x, h, h0, _ => by omega
  | k + 1, x, h, h0, hx => by
    rw [Lib.bitLen_half x h0 hx, Nat.pow_add]
    by_cases h2 : x / 2 = 0
    · rw [h2, show Lib.bitLen 0 = 0 by decide]; simp; omega
    · have := bitLen_two k (x / 2) (by omega) h2 (by omega)
      omega
set_option maxRecDepth 100000 in
set_option maxHeartbeats 2000000 in
theorem npow_ok (l : Nat) (h1 : 1 ≤ l) (h2 : l ≤ 100000) (w : World) : Calls Try.prog 78 #[.int .i64 (l : Int)] w fun e w' => (∃ m : Nat, e = .returned (.int .u64 (m : Int)) ∧ 1 ≤ m ∧ m ≤ 2 * l) ∧ w' = w := by
  have hb := bitLen_two l l (Nat.le_refl _) (by omega) (by omega)
  have hb2 := Lib.bitLen_le l 17 (by omega) (by omega)
  have H := veil (fun w => len_any (l : Int) w (by omega) (by omega))
  have hw : IntKind.u64.wrap (l : Int) = (l : Int) := by rw [IntKind.wrap_u64]; omega
  rw [Int.toNat_natCast] at H
  obtain ⟨q, hq⟩ : ∃ q : Int, (Lib.bitLen l : Int) = q := ⟨_, rfl⟩
  have hb' : 2 ^ q.toNat ≤ 2 * l := by rw [← hq, Int.toNat_natCast]; exact hb
  rw [hq] at H
  have hq : q = 0 ∨ q = 1 ∨ q = 2 ∨ q = 3 ∨ q = 4 ∨ q = 5 ∨ q = 6 ∨ q = 7 ∨ q = 8 ∨ q = 9 ∨ q = 10 ∨ q = 11 ∨ q = 12 ∨ q = 13 ∨ q = 14 ∨ q = 15 ∨ q = 16 ∨ q = 17 := by omega
  clear hb hb2
  rcases hq with rfl | rfl | rfl | rfl | rfl | rfl | rfl | rfl | rfl | rfl | rfl | rfl | rfl | rfl | rfl | rfl | rfl | rfl <;>
  · simp at hb'
    have HB := veil hb'
    clear hb'
    go_enter Try.func78, Try.ntmps78
    go_wp2_with (first
      | (go_at_call 64; refine (H.out _).mono ?_; rintro e w1 ⟨rfl, hw⟩; subst hw))
    go_ret
    have := HB.out
    exact ⟨⟨_, rfl, by decide, by omega⟩, rfl⟩
theorem and_in (x m : Nat) (h1 : 1 ≤ m) (hx : x < 18446744073709551616) (hm : m ≤ 1000000) : ∃ z : Nat, z < m ∧ bits BinOp.and IntKind.u64 (x : Int) ((m : Int) - 1) = (z : Int) := by
  have e : (m : Int) - 1 = ((m - 1 : Nat) : Int) := by omega
  rw [e]
  have hl : x &&& (m - 1) ≤ m - 1 := Nat.and_le_right
  refine ⟨x &&& (m - 1), by omega, ?_⟩
  simp [bits, IntKind.wrap, IntKind.bits, IntKind.signed]
  change (((BitVec.ofNat 64 x &&& BitVec.ofNat 64 (m - 1) : BitVec 64).toNat : Nat) : Int) % 18446744073709551616 = _
  rw [BitVec.toNat_and, BitVec.toNat_ofNat, BitVec.toNat_ofNat, Nat.mod_eq_of_lt (show x < 2 ^ 64 by omega), Nat.mod_eq_of_lt (show m - 1 < 2 ^ 64 by omega)]
  omega
set_option maxRecDepth 100000 in
set_option maxHeartbeats 600000 in
theorem break_ok (W : World) (r cap n : Nat) (D : Nat → Nat) (a b : Nat) (h : RowU W r cap n D) (hab : a + 8 ≤ b) (hb : b ≤ n) (hn : n ≤ 100000) :
    Calls Try.prog 68 #[.slice (some ⟨r, 0, none⟩) n cap, .int .i64 (a : Int), .int .i64 (b : Int)] W fun e w' => e = .returned (.tuple #[]) ∧ ∃ D', RowU w' r cap n D' ∧ Prm a b D D' ∧ Fr (fun k => k = r) W w' := by
  have hlt := h.lt
  obtain ⟨l, hl⟩ : ∃ l : Nat, (b : Int) - (a : Int) = (l : Int) := ⟨b - a, by omega⟩
  obtain ⟨q, hq⟩ : ∃ q : Nat, (l : Int).tdiv 4 = (q : Int) := ⟨l / 4, by rw [Int.tdiv_eq_ediv_of_nonneg (by omega)]; omega⟩
  have hq1 : 4 * q ≤ l ∧ l < 4 * q + 4 := by rw [Int.tdiv_eq_ediv_of_nonneg (by omega)] at hq; omega
  have h8 : (8 : Int) ≤ (l : Int) := by omega
  have hlb : a + l = b := by omega
  obtain ⟨x, hx⟩ : ∃ x : Nat, (a : Int) + (q : Int) * 2 - 1 = (x : Int) := ⟨a + q * 2 - 1, by omega⟩
  obtain ⟨y, hy⟩ : ∃ y : Nat, (a : Int) + (q : Int) * 2 + 1 = (y : Int) := ⟨a + q * 2 + 1, by omega⟩
  have hw : IntKind.u64.wrap (l : Int) = (l : Int) := by rw [IntKind.wrap_u64]; omega
  have HN := veil (fun W => npow_ok l (by omega) (by omega) W)
  have H0 : Hid (RowU (W.alloc (.cells #[.int .u64 (l : Int)] 120)) r cap n D) := h.kept (((Below.refl _ W).alloc (Nat.le_refl _) _).block r h.lt)
  have HX0 : Hid (Xs (W.alloc (.cells #[.int .u64 (l : Int)] 120)) W.heap.size l) := ⟨by omega, cell_new _ _ _ 0, by unfold World.frozen? World.alloc; simp, by simp⟩
  have HF0 : Hid (Fr (fun k => k = r ∨ k = W.heap.size) W (W.alloc (.cells #[.int .u64 (l : Int)] 120))) := (Fr.refl _ _).alloc _
  generalize hW0 : W.alloc (.cells #[.int .u64 (l : Int)] 120) = W0 at H0 HX0 HF0
  have HW0 := veil hW0
  clear h hW0
  go_enter Try.func68, Try.ntmps68
  go_upto_region 3 with fail
  rw [HW0.out]
  go_wp2_with (first
    | (go_at_call 78; refine (HN.out _).mono ?_; rintro e w1 ⟨⟨m, rfl, hm1, hm2⟩, hw⟩; replace hw := hw.symm; subst hw))
  go_loopw [9] (fun iv wr => ∃ (i z : Nat) (D1 : Nat → Nat), x ≤ i ∧ i ≤ y + 1 ∧ iv = .int .i64 (i : Int) ∧ RowU wr r cap n D1 ∧ Prm a b D D1 ∧ Xs wr W.heap.size z ∧ Fr (fun k => k = r ∨ k = W.heap.size) W wr) (fun iv _ => y + 1 - (intOf iv).toNat)
  case atStart => exact ⟨x, l, D, by omega, by omega, rfl, H0.out, Prm.refl _ _ _, HX0.out, HF0.out⟩
  case round =>
    obtain ⟨i, z, D1, hi1, hi2, rfl, hrow, hprm, hxs, hfr⟩ := hrel
    clear H0 HX0 HF0 HN HW0
    have HRw := veil hrow
    have HPr := veil hprm
    have HXs := veil hxs
    have HFr := veil hfr
    clear hrow hprm hfr hxs
    by_cases hiy : i ≤ y
    · have hiy' : (i : Int) ≤ (y : Int) := by omega
      have HNX := veil (fun W' (h : Xs W' W.heap.size z) => xnext_ok W' W.heap.size z h)
      have HAI := veil (fun z' (hz : z' < 18446744073709551616) => and_in z' m hm1 hz (by omega))
      have HWI : Hid (∀ o : Nat, o < m → wrap64 (o : Int) = (o : Int)) := fun o ho => wrap64_of_in (by omega) (by omega)
      go_wp2_with (first
        | (go_at_call 79; refine (HNX.out _ HXs.out).mono ?_; rintro e w2 ⟨z', rfl, hx2, hf2⟩; have HZ := veil hx2.zl; have HX2 := veil hx2; have HF2 := veil hf2; clear hx2 hf2))
      all_goals
        obtain ⟨o, ho, eo⟩ := HAI.out z' HZ.out
        have ew := HWI.out o ho
        rw [← eo] at ew
        rw [eo] at ew
        simp only [eo, ew] at *
        clear eo ew HAI HWI HZ hq hw
      · rename_i hol
        obtain ⟨u, hu⟩ : ∃ u : Nat, (o : Int) - (l : Int) = (u : Int) := ⟨o - l, by omega⟩
        obtain ⟨v, hv⟩ : ∃ v : Nat, (a : Int) + (u : Int) = (v : Int) := ⟨a + u, by omega⟩
        have hva : a ≤ v ∧ v < b := by omega
        have hib : a ≤ i ∧ i < b := by omega
        have HRw2 : Hid (RowU w2 r cap n D1) := HRw.out.kept (HF2.out.block r HRw.out.lt (by omega))
        have fz := HRw2.out.frozen
        have hlts := HRw2.out.lt
        have cx := HRw2.out.cell i (by omega)
        have cy := HRw2.out.cell v (by omega)
        have kx : (i : Int) < (n : Int) := by omega
        have ky : (v : Int) < (n : Int) := by omega
        have hw_x : IntKind.i64.wrap (i : Int) = (i : Int) := by simp [IntKind.wrap, IntKind.bits, IntKind.signed]; omega
        have hw_y : IntKind.i64.wrap (v : Int) = (v : Int) := by simp [IntKind.wrap, IntKind.bits, IntKind.signed]; omega
        have HK : Hid (RowU (((w2.setCell ⟨r, i, none⟩ (.int .u64 (D1 v : Int))).setCell ⟨r, v, none⟩ (.int .u64 (D1 i : Int))).drew) r cap n (sw D1 i v)) := RowU.kept (HRw2.out.swap i v (by omega) (by omega)) rfl
        have HFF : Hid (Fr (fun k => k = r ∨ k = W.heap.size) W (((w2.setCell ⟨r, i, none⟩ (.int .u64 (D1 v : Int))).setCell ⟨r, v, none⟩ (.int .u64 (D1 i : Int))).drew)) := (((HFr.out.trans (HF2.out.wide (fun k _ hs => .inr hs))).setCell (a := ⟨r, i, none⟩) (.inl rfl) _).setCell (a := ⟨r, v, none⟩) (.inl rfl) _).drew
        have HXX : Hid (Xs (((w2.setCell ⟨r, i, none⟩ (.int .u64 (D1 v : Int))).setCell ⟨r, v, none⟩ (.int .u64 (D1 i : Int))).drew) W.heap.size z') := ⟨HX2.out.zl, by rw [World.cell?_drew, set_other _ _ _ _ _ _ (by omega), set_other _ _ _ _ _ _ (by omega)]; exact HX2.out.cell, by rw [World.frozen?_drew, World.frozen?_setCell, World.frozen?_setCell]; exact HX2.out.froz, by simpa using HX2.out.lt⟩
        have HPP : Hid (Prm a b D (sw D1 i v)) := HPr.out.trans (Prm.swap hib hva)
        have HA : Hid (x ≤ i + 1 ∧ i + 1 ≤ y + 1) := ⟨by omega, by omega⟩
        have HM : Hid (y + 1 - (i + 1) < y + 1 - i) := by show _ < _; omega
        have hin : i ≤ 100000 := by omega
        have b1 : -9223372036854775808 ≤ (u : Int) := by omega
        have b2 : (u : Int) < 9223372036854775808 := by omega
        have b3 : -9223372036854775808 ≤ (v : Int) := by omega
        have b4 : (v : Int) < 9223372036854775808 := by omega
        clear hva hib hol ho hi1 hi2 hiy hiy' HX2 HF2 HRw HRw2 HPr HXs HFr HNX hm1 hm2 hq1 h8 hlb hx hy hlt hab hb
        have eu : wrap64 ((o : Int) - (l : Int)) = (u : Int) := by rw [hu]; exact wrap64_of_in b1 b2
        simp only [eu]
        clear eu b1 b2 hu
        have ev : wrap64 ((a : Int) + (u : Int)) = (v : Int) := by rw [hv]; exact wrap64_of_in b3 b4
        clear b3 b4 hl
        by_cases hiv : v = i
        · subst hiv
          clear cy ky hw_y
          go_region
          go_wp2
          go_roundw
          case rel => exact ⟨v + 1, z', sw D1 v v, HA.out.1, HA.out.2, by go_num, HK.out, HPP.out, HXX.out, HFF.out⟩
          case measure => have := HM.out; simp [intOf]; omega
        · have hni : ¬ i = v := fun e => hiv e.symm
          go_region
          go_wp2
          go_roundw
          case rel => exact ⟨i + 1, z', sw D1 i v, HA.out.1, HA.out.2, by go_num, HK.out, HPP.out, HXX.out, HFF.out⟩
          case measure => have := HM.out; simp [intOf]; omega
      · rename_i hol
        obtain ⟨v, hv⟩ : ∃ v : Nat, (a : Int) + (o : Int) = (v : Int) := ⟨a + o, by omega⟩
        have hva : a ≤ v ∧ v < b := by omega
        have hib : a ≤ i ∧ i < b := by omega
        have HRw2 : Hid (RowU w2 r cap n D1) := HRw.out.kept (HF2.out.block r HRw.out.lt (by omega))
        have fz := HRw2.out.frozen
        have hlts := HRw2.out.lt
        have cx := HRw2.out.cell i (by omega)
        have cy := HRw2.out.cell v (by omega)
        have kx : (i : Int) < (n : Int) := by omega
        have ky : (v : Int) < (n : Int) := by omega
        have hw_x : IntKind.i64.wrap (i : Int) = (i : Int) := by simp [IntKind.wrap, IntKind.bits, IntKind.signed]; omega
        have hw_y : IntKind.i64.wrap (v : Int) = (v : Int) := by simp [IntKind.wrap, IntKind.bits, IntKind.signed]; omega
        have HK : Hid (RowU (((w2.setCell ⟨r, i, none⟩ (.int .u64 (D1 v : Int))).setCell ⟨r, v, none⟩ (.int .u64 (D1 i : Int))).drew) r cap n (sw D1 i v)) := RowU.kept (HRw2.out.swap i v (by omega) (by omega)) rfl
        have HFF : Hid (Fr (fun k => k = r ∨ k = W.heap.size) W (((w2.setCell ⟨r, i, none⟩ (.int .u64 (D1 v : Int))).setCell ⟨r, v, none⟩ (.int .u64 (D1 i : Int))).drew)) := (((HFr.out.trans (HF2.out.wide (fun k _ hs => .inr hs))).setCell (a := ⟨r, i, none⟩) (.inl rfl) _).setCell (a := ⟨r, v, none⟩) (.inl rfl) _).drew
        have HXX : Hid (Xs (((w2.setCell ⟨r, i, none⟩ (.int .u64 (D1 v : Int))).setCell ⟨r, v, none⟩ (.int .u64 (D1 i : Int))).drew) W.heap.size z') := ⟨HX2.out.zl, by rw [World.cell?_drew, set_other _ _ _ _ _ _ (by omega), set_other _ _ _ _ _ _ (by omega)]; exact HX2.out.cell, by rw [World.frozen?_drew, World.frozen?_setCell, World.frozen?_setCell]; exact HX2.out.froz, by simpa using HX2.out.lt⟩
        have HPP : Hid (Prm a b D (sw D1 i v)) := HPr.out.trans (Prm.swap hib hva)
        have HA : Hid (x ≤ i + 1 ∧ i + 1 ≤ y + 1) := ⟨by omega, by omega⟩
        have HM : Hid (y + 1 - (i + 1) < y + 1 - i) := by show _ < _; omega
        have hin : i ≤ 100000 := by omega
        have b3 : -9223372036854775808 ≤ (v : Int) := by omega
        have b4 : (v : Int) < 9223372036854775808 := by omega
        clear hva hib hol ho hi1 hi2 hiy hiy' HX2 HF2 HRw HRw2 HPr HXs HFr HNX hm1 hm2 hq1 h8 hlb hx hy hlt hab hb
        have ev : wrap64 ((a : Int) + (o : Int)) = (v : Int) := by rw [hv]; exact wrap64_of_in b3 b4
        clear b3 b4 hl
        by_cases hiv : v = i
        · subst hiv
          clear cy ky hw_y
          go_region
          go_wp2
          go_roundw
          case rel => exact ⟨v + 1, z', sw D1 v v, HA.out.1, HA.out.2, by go_num, HK.out, HPP.out, HXX.out, HFF.out⟩
          case measure => have := HM.out; simp [intOf]; omega
        · have hni : ¬ i = v := fun e => hiv e.symm
          go_region
          go_wp2
          go_roundw
          case rel => exact ⟨i + 1, z', sw D1 i v, HA.out.1, HA.out.2, by go_num, HK.out, HPP.out, HXX.out, HFF.out⟩
          case measure => have := HM.out; simp [intOf]; omega
    · have hiy' : ¬ (i : Int) ≤ (y : Int) := by omega
      go_wp2
      go_end0
      exact ⟨rfl, D1, HRw.out, HPr.out, HFr.out.wide (fun k hk hs => hs.resolve_right (by omega))⟩
end Go.Proofs.Ytjmbadadelelfaa
