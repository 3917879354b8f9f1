/-
  prog: ProgFirst walked, for a long program and for a short one.
-/
import Derived.Test.YtinkdcjpiebcfaaO12
namespace Go.Proofs.Ytinkdcjpiebcfaa
open Go.RowKit Go.Lib

theorem info_instr : (Try.prog.info? 42).map (fun i => (i.zero, i.size, i.bytes)) = some (some (.agg #[.int .i64 0, .int .i64 0]), 2, 16) := by kernel_rfl
set_option maxHeartbeats 4000000 in
set_option maxRecDepth 100000 in
theorem first_63 (w : World) (a0 : Option Addr) (len0 cap0 m : Nat) (O0 R0 : Nat → Int) (hp : Prg w a0 m O0 R0) (hmc : m ≤ cap0) (m0 : cap0 < 9223372036854775808) (hm1 : m ≤ 100) (h63 : 63 < m)
    (HF : Hid (Calls Try.prog 12 #[.slice a0 len0 cap0] w fun e w' => e = .returned (.slice a0 m cap0) ∧ w' = w)) :
    Calls Try.prog 9 #[.slice a0 len0 cap0] w fun e w' => e = .returned (.bool true) ∧ Below w.heap.size w w' := by
  have HL := veil live_ok
  have h63' : 63 < (m : Int) := by omega
  have hcap : 63 ≤ (cap0 : Int) := by omega
  have HP := veil (hp.cut (m := 63) (by omega))
  obtain ⟨lb0, off0, rfl⟩ : ∃ lb off, a0 = some ⟨lb, off, none⟩ := by
    rcases hp with h0 | ⟨lb, off, h, _⟩
    · omega
    · exact ⟨lb, off, h⟩
  clear hp
  have HCH := veil (chk_total 63 O0 R0)
  go_enter Try.func9, Try.ntmps9
  go_wp2_with (go_at_call 12; refine (HF.out).mono ?_; rintro e w0 ⟨rfl, hw⟩; replace hw := hw.symm; subst hw)
  go_loopw [3] (fun i wr => ∃ (j : Nat), j ≤ 63 ∧ i = .int .i64 j ∧ (∀ k, k < j → O0 k ≠ 8) ∧ wr = w) (fun i _ => 63 - (intOf i).toNat)
  case atStart => exact ⟨0, by omega, rfl, fun k hk => by omega, rfl⟩
  case round =>
    obtain ⟨j, hj, rfl, hno, rfl⟩ := hrel
    have HNO := veil hno
    clear hno
    by_cases hjl : j < 63
    · have hjl' : (j : Int) < ((63 : Nat) : Int) := by omega
      rcases HP.out with h0 | ⟨lb, off, hlo, hlb, hc⟩
      · omega
      · cases hlo
        have y1 := (hc j hjl).1
        clear hc
        by_cases h8 : O0 j = 8
        · have e8 : (O0 j == 8) = true := by simpa using h8
          go_wp2_with (go_at_call 15; refine (HL.out _).mono ?_; rintro e w3 ⟨rfl, hb⟩; have HB3 := veil hb; clear hb)
          go_ret
          exact ⟨rfl, HB3.out⟩
        · have e8 : (O0 j == 8) = false := by simpa using h8
          go_wp2
          go_roundw
          case rel =>
            refine ⟨j + 1, by omega, by go_num, fun k hk => ?_, trivial⟩
            by_cases q : k = j
            · rw [q]; exact h8
            · exact HNO.out k (by omega)
          case measure => simp [intOf]; omega
    · have hjl' : ¬ (j : Int) < ((63 : Nat) : Int) := by omega
      obtain rfl : j = 63 := by omega
      obtain ⟨x, y, hk⟩ := HCH.out
      have HK := veil (check_known wr (some ⟨lb0, off0, none⟩) 63 cap0 (by omega) O0 R0 HP.out x y hk)
      have hcase : (x = 0 ∧ y = 0) ∨ (63 = 0 ∧ x = 3 ∧ y = 0) ∨ ∃ j2 : Nat, j2 < 63 ∧ (∀ i, i < j2 → okI 63 (O0 i) (R0 i) = true) ∧ x = 3 ∧ y = j2 := by
        rcases hk with ⟨h1, h2, h3⟩ | ⟨h1, h2, j2, h3, h4, h5, h6, h7⟩ | ⟨h1, h2, h3, h4, h5, h6, h7⟩ | ⟨h1, h2, h3, h4, h5, h6⟩
        · exact .inr (.inl ⟨by omega, h2, h3⟩)
        · exact .inr (.inr ⟨j2, h3, h4, h6, h7⟩)
        · exact .inr (.inr ⟨63 - 1, by omega, fun i hi => h3 i (by omega), h6, h7⟩)
        · exact .inl ⟨h5, h6⟩
      clear hk HCH
      rcases hcase with ⟨rfl, rfl⟩ | ⟨hz, rfl, rfl⟩ | ⟨j2, hj2, hok, rfl, rfl⟩
      · go_wp2_with (first
          | (go_at_call 13; refine (HK.out).mono ?_; rintro e w1 ⟨rfl, hb⟩; have HB := veil hb; clear hb)
          | (go_at_call 15; refine (HL.out _).mono ?_; rintro e w3 ⟨rfl, hb⟩; have HB3 := veil (HB.out.trans (hb.mono HB.out.size)); clear hb))
        go_ret
        exact ⟨rfl, HB3.out⟩
      · omega
      · have HX := veil (cut_right hj2 (by omega) (fun i hi => HNO.out i hi) hok)
        have hj2' : ¬ ((63 : Nat) : Int) ≤ (j2 : Int) := by omega
        have hj2c : (j2 : Int) ≤ (cap0 : Int) := by omega
        clear hok HNO
        rcases HP.out with h0 | ⟨lb, off, hlo, hlb, hc⟩
        · omega
        cases hlo
        have HS1 : Hid (∀ w1, Below wr.heap.size wr w1 → ∀ jj u, (pcells O0 R0 j2)[jj]? = some u → w1.cell? ((⟨lb0, off0, none⟩ : Addr).add jj) = some u) := by
          intro w1 hb
          refine pcells_cells (fun i hi => ?_)
          obtain ⟨q1, q2⟩ := hc i (by omega)
          exact ⟨(hb.cell (p := ⟨lb0, off0 + i * 2, none⟩) hlb).trans q1, (hb.cell (p := ⟨lb0, off0 + i * 2 + 1, none⟩) hlb).trans q2⟩
        clear hc HP
        have HS2 : Hid (∀ (w3 : World) jj u, [Value.int .i64 9, .int .i64 0][jj]? = some u → (w3.alloc (.cells #[.int .i64 9, .int .i64 0] 42)).cell? ((⟨w3.heap.size, 0, none⟩ : Addr).add jj) = some u) := by
          intro w3 jj u hu
          have hadd : (⟨w3.heap.size, 0, none⟩ : Addr).add jj = ⟨w3.heap.size, jj, none⟩ := by unfold Addr.add; split <;> simp_all
          rw [hadd]
          unfold World.cell?
          simp only [(MapKept.heap_alloc w3 _).1]
          simpa using hu
        have HS3 : Hid (∀ (w4 : World) (v : Value), w4.ownsRow wr.heap.size 42 2 v (0 + j2 + 1) (([] ++ pcells O0 R0 j2) ++ [.int .i64 9, .int .i64 0]) → ∃ a cap, v = .slice a (j2 + 1) cap ∧ Prg w4 a (j2 + 1) (cutO O0 j2) (cutR R0 j2)) := by
          intro w4 v h
          refine prg_row (base := wr.heap.size) ?_
          have e1 : pcells (cutO O0 j2) (cutR R0 j2) (j2 + 1) = pcells O0 R0 j2 ++ [.int .i64 9, .int .i64 0] := by
            simp only [pcells]
            rw [pcells_congr (O' := O0) (R' := R0) j2 (fun i hi => by simp [cutO, cutR, hi])]
            simp [cutO, cutR]
          rw [e1]
          simpa using h
        obtain ⟨i0, hi, hz0, hz1, hz2⟩ := info_parts info_instr
        go_wp2_with (first
          | (go_at_call 13; refine (HK.out).mono ?_; rintro e w1 ⟨rfl, hb⟩; have HB := veil hb; clear hb HK)
          | (at_builtin; refine wpList_append_own _ rfl _ _ 22 rfl wr.heap.size 42 i0 (.agg #[.int .i64 0, .int .i64 0]) 2 16 Try.underlying22 hi hz0 hz1 hz2 rfl (by omega) (.slice none 0 0) 0 [] rfl (World.ownsRow_nil _ _ _ _) ⟨lb0, off0, none⟩ j2 cap0 (pcells O0 R0 j2) rfl (pcells_length _ _ _) (HS1.out _ HB.out) (pcells_one _ _ _) (by unfold maxLen; omega) (by omega) HB.out.size ?_; intro v1 w3 ho hg _; have HO1 := veil ho; have HB1 := veil (HB.out.grown hg HB.out.size (fun k hk => by simp [Value.ownBlock] at hk)); clear ho hg HS1)
          | (at_builtin; refine wpList_append_own _ rfl _ _ 22 rfl wr.heap.size 42 i0 (.agg #[.int .i64 0, .int .i64 0]) 2 16 Try.underlying22 hi hz0 hz1 hz2 rfl (by omega) _ _ _ rfl (World.ownsRow.alloc HO1.out _) ⟨w3.heap.size, 0, none⟩ 1 1 [.int .i64 9, .int .i64 0] rfl rfl (HS2.out _) (by simp [Value.oneCell']) (by unfold maxLen; omega) (by omega) (Nat.le_trans HB1.out.size (by simp)) ?_; intro v2 w4 ho hg _; obtain ⟨a2, cap2, rfl, hP2⟩ := HS3.out _ _ ho; have HP2 := veil hP2; have HB2 := veil ((HB1.out.alloc HB1.out.size _).grown hg (Nat.le_trans HB1.out.size (by simp)) (fun k hk => (HO1.out.lt k hk).1)); clear ho hg hP2)
          | (go_at_call 13; refine (check_known _ _ _ _ (by omega) _ _ HP2.out 0 0 HX.out).mono ?_; rintro e w5 ⟨rfl, hb⟩; have HB4 := veil (HB2.out.trans (hb.mono HB2.out.size)); clear hb)
          | (go_at_call 15; refine (HL.out _).mono ?_; rintro e w6 ⟨rfl, hb⟩; have HB5 := veil (HB4.out.trans (hb.mono HB4.out.size)); clear hb))
        go_ret
        exact ⟨rfl, HB5.out⟩

end Go.Proofs.Ytinkdcjpiebcfaa
